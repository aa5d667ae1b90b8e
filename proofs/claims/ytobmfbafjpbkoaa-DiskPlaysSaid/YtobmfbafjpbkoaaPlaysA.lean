/-
  The law DiskPlays: the walk.
-/
import Derived.Test.YtobmfbafjpbkoaaDiskU
import Derived.Deep.CutBlock
import Derived.Deep.LoopGhost
namespace Go.Proofs.Ytobmfbafjpbkoaa
open Go.RowKit Go.Instr

theorem fine00 (off : Bool) : (⟨⟨#[]⟩, ⟨#[]⟩, off⟩ : Rd).fine := by show (⟨#[]⟩ : ByteArray).size + (⟨#[]⟩ : ByteArray).size ≤ 1048576; decide
theorem PlaysAt.dk {w wr : World} {B M : Nat} {r : Rd} (h : PlaysAt w B M r wr) : DiskAt wr w.heap.size B r.dk := h.1
theorem PlaysAt.mb {w wr : World} {B M : Nat} {r : Rd} (h : PlaysAt w B M r wr) : Blk wr M #[.string r.a, .string r.b, .bool r.off] 27 := h.2.1
theorem PlaysAt.fn {w wr : World} {B M : Nat} {r : Rd} (h : PlaysAt w B M r wr) : r.fine := h.2.2.1
theorem PlaysAt.bl {w wr : World} {B M : Nat} {r : Rd} (h : PlaysAt w B M r wr) : Below w.heap.size w wr := h.2.2.2
theorem below_drN2 (w : World) (n : Nat) : Below w.heap.size w (w.drewN n) := ⟨rfl, rfl, rfl, Nat.le_refl _, fun _ _ => rfl⟩
def PlaysLoop (w : World) (B M len g : Nat) (s5 s6 : Value) (wr : World) : Prop := ∃ (k big : Nat) (r : Rd), s6 = .int .i64 k ∧ s5 = .int .i64 big ∧ k + g = len ∧ k ≤ 60 ∧ big ≤ 4 ∧ PlaysAt w B M r wr
def PlayMid (w : World) (B M : Nat) (s5 s9 s10 : Value) (wx : World) : Prop := ∃ (big : Nat) (e : Int) (r : Rd), s5 = .int .i64 big ∧ s9 = .int .i64 e ∧ s10 = .int .i64 e ∧ big ≤ 4 ∧ PlaysAt w B M r wx
set_option maxHeartbeats 40000000 in
set_option maxRecDepth 100000 in
theorem plays_walk (l : List ActD) (a : Option Addr) (len cap : Nat) (w : World) (hlen : len ≤ maxLen) (hl : l.length = len) (hf : ∀ x ∈ l, x.fine) (hA : 0 < len → actR.At w (.slice a len cap) l) :
    Calls Try.prog 3 #[.slice a len cap] w fun e w' => e = .returned (.bool true) ∧ Below w.heap.size w w' := by
  unfold maxLen at hlen
  have HA := Lib.hid hA
  have HF := Lib.hid hf
  have HL := Lib.hid hl
  clear hA hf hl
  go_enter Try.func3, Try.ntmps3
  go_upto_region 5 with (first
    | (go_at_call 8; (refine (speaks9 _).mono ?_); rintro en w1 ⟨rfl, hB1⟩; have HB1 := Lib.hid hB1; clear hB1)
    | (go_at_call 9; (refine (New_disk _).mono ?_); rintro en w2 ⟨rfl, hA2, hB2, hz2⟩; have HD2 := Lib.hid hA2; have HB2 := Lib.hid (m_below_on HB1.out hB2); clear hA2 hB2 hz2))
  have hwB : w.heap.size ≤ w1.heap.size := HB1.out.size
  have hwM : w.heap.size ≤ w2.heap.size := HB2.out.size
  have HAT : Hid (PlaysAt w w1.heap.size w2.heap.size ⟨⟨#[]⟩, ⟨#[]⟩, false⟩ (w2.alloc (.cells #[.string ⟨#[]⟩, .string ⟨#[]⟩, .bool false] 27))) := Lib.hid ⟨by
    obtain ⟨v, h1, h2⟩ := HD2.out
    exact DiskAt.on (w := w2) ⟨v, h1, own_mono h2 hwB⟩ (by go_grown), Blk.new rfl, fine00 _, m_below_on HB2.out (by go_grown)⟩
  clear HD2 HB2
  generalize w2.alloc (.cells #[.string ⟨#[]⟩, .string ⟨#[]⟩, .bool false] 27) = w3 at *
  generalize w1.heap.size = B at *
  generalize w2.heap.size = M at *
  clear HB1
  go_wp2_with fail
  go_loopg [5, 6] len (fun g s i wr => PlaysLoop w B M len g s i wr)
  case atStart => exact ⟨0, 0, _, rfl, rfl, Nat.zero_add _, by decide, by decide, HAT.out⟩
  case round => as_aux_lemma =>
    obtain ⟨k, big, r, rfl, rfl, hk, hk60, hbig, hP⟩ := hrel
    clear HAT
    have HP := Lib.hid hP
    clear hP
    by_cases hlk : k < len ∧ k < 60
    · obtain ⟨hlk, hk6⟩ := hlk
      have hkl : k < l.length := by rw [HL.out]; exact hlk
      obtain ⟨b, off, cc, he, hbw, hcells⟩ := ((HA.out (by omega)).on HP.out.bl).form (by omega)
      simp only [Value.slice.injEq] at he
      obtain ⟨rfl, hnn, rfl⟩ := he
      clear hnn
      have hfx := HF.out _ (List.getElem_mem hkl)
      have x0 := hcells k hkl 0 _ rfl
      have x1 := hcells k hkl 1 _ rfl
      have x2 := hcells k hkl 2 _ rfl
      obtain ⟨X, hX⟩ : ∃ X, l[k] = X := ⟨_, rfl⟩
      rw [hX] at hfx x0 x1 x2
      clear hX hcells
      obtain ⟨xw, xn, xt⟩ := X
      obtain ⟨⟨g1, g2⟩, ⟨g3, g4⟩, g5⟩ := hfx
      simp only at g1 g2 g3 g4 g5
      unfold maxLen at g5
      replace x0 : wr.cell? ⟨b, off + k * 3, none⟩ = some (.int .i64 xw) := x0
      replace x1 : wr.cell? ⟨b, off + k * 3 + 1, none⟩ = some (.int .i64 xn) := x1
      replace x2 : wr.cell? ⟨b, off + k * 3 + 2, none⟩ = some (.string xt) := x2
      have hda : decide ((k : Int) < (len : Int)) = true := by simp; omega
      have hdb : decide ((k : Int) < 60) = true := by simp; omega
      go_upto_region 10 with fail
      go_cut [8] (fun s8 wx => ∃ t : ByteArray, s8 = .string t ∧ t.size ≤ 20 ∧ wr.alloc (.cells #[.int .i64 xw, .int .i64 xn, .string xt] 29) = wx)
      case first => as_aux_lemma =>
        by_cases ht : xt.size ≤ 20
        · go_wp2_with fail
          go_meet
          exact ⟨xt, rfl, ht, rfl⟩
        · go_wp2_with fail
          go_meet
          exact ⟨_, rfl, by simp; omega, rfl⟩
      case rest => as_aux_lemma =>
        obtain ⟨t, rfl, ht, rfl⟩ := hcut
        have HX : Hid (Blk (wr.alloc (.cells #[.int .i64 xw, .int .i64 xn, .string xt] 29)) wr.heap.size #[.int .i64 xw, .int .i64 xn, .string xt] 29) := Lib.hid (Blk.new rfl)
        have HP2 := Lib.hid (HP.out.on (w2 := wr.alloc (.cells #[.int .i64 xw, .int .i64 xn, .string xt] 29)) (by go_grown))
        clear HP x0 x1 x2 g5
        generalize wr.alloc (.cells #[.int .i64 xw, .int .i64 xn, .string xt] 29) = wa at *
        generalize wr.heap.size = D at *
        have d0 : wa.cell? ⟨D, 0, none⟩ = some (.int .i64 xw) := HX.out.cell 0
        have d1 : wa.cell? ⟨D, 1, none⟩ = some (.int .i64 xn) := HX.out.cell 1
        obtain ⟨q8, r8, hq8, hq81, hq82, hr8, hrn8⟩ := rem_pos xw 8 (by decide)
        replace hq8 : xw.tmod 8 = q8 := hq8
        replace hq81 : -8 < q8 := hq81
        replace hq82 : q8 < 8 := hq82
        obtain ⟨v8, hv8⟩ : ∃ v, (q8 + 8) % 8 = v := ⟨_, rfl⟩
        have hr8' : v8 = 0 ∨ v8 = 1 ∨ v8 = 2 ∨ v8 = 3 ∨ v8 = 4 ∨ v8 = 5 ∨ v8 = 6 ∨ v8 = 7 := by omega
        clear hr8 hrn8
        have HR8 := Lib.hid hr8'
        clear hr8'
        go_upto_block 2 with fail
        rw [hv8]
        have HT20 := Lib.hid ht
        go_cut [5, 9, 10] (fun s5 s9 s10 wx => PlayMid w B M s5 s9 s10 wx)
        case first =>
          rcases HR8.out with rfl | rfl | rfl | rfl | rfl | rfl | rfl | rfl
          -- 0, 1: Append
          · as_aux_lemma =>
            go_wp2_with (first
              | (go_at_call 18; (with_reducible refine (dApp t HP2.out.dk hwB HP2.out.fn (Nat.le_trans HT20.out (by decide))).mono ?_); rintro en w6 ⟨rfl, hD6, hB6, hK6⟩; have HD6 : Hid (DiskAt w6 w.heap.size B (appR r t).dk) := Lib.hid hD6; have HB6 := Lib.hid (HP2.out.bl.trans hB6); have HM6 := Lib.hid (hK6.blk HP2.out.mb (by decide) (by decide)); have m0 : w6.cell? ⟨M, 0, none⟩ = some (.string r.a) := HM6.out.cell 0; have m1 : w6.cell? ⟨M, 1, none⟩ = some (.string r.b) := HM6.out.cell 1; have m2 : w6.cell? ⟨M, 2, none⟩ = some (.bool r.off) := HM6.out.cell 2; have n0 := HM6.out.frozen 0; have n1 := HM6.out.frozen 1; have n2 := HM6.out.frozen 2; have e1 : w6.cell? ⟨D, 1, none⟩ = some (.int .i64 xn) := (hK6.blk HX.out (by decide) (by decide)).cell 1; clear hD6 hB6 hK6)
              | (go_at_call 19; (with_reducible refine (rApp t r _ HP2.out.fn (Nat.le_trans HT20.out (by decide))).mono ?_); rintro en w7 ⟨rfl, hB7⟩; have HD7 : Hid (DiskAt w7 w.heap.size B (appR r t).dk) := Lib.hid (HD6.out.on hB7); have HB7 := Lib.hid (m_below_on HB6.out hB7); have HM7 := Lib.hid (HM6.out.on hB7); have m0 : w7.cell? ⟨M, 0, none⟩ = some (.string r.a) := HM7.out.cell 0; have m1 : w7.cell? ⟨M, 1, none⟩ = some (.string r.b) := HM7.out.cell 1; have m2 : w7.cell? ⟨M, 2, none⟩ = some (.bool r.off) := HM7.out.cell 2; have n0 := HM7.out.frozen 0; have n1 := HM7.out.frozen 1; have n2 := HM7.out.frozen 2; clear hB7))
            go_meet
            exact ⟨big, appE r t, appR r t, rfl, rfl, rfl, hbig, PlaysAt.step HD7.out HM7.out HB7.out hwM (app_fine t HP2.out.fn)⟩
          -- 0, 1: Append
          · as_aux_lemma =>
            go_wp2_with (first
              | (go_at_call 18; (with_reducible refine (dApp t HP2.out.dk hwB HP2.out.fn (Nat.le_trans HT20.out (by decide))).mono ?_); rintro en w6 ⟨rfl, hD6, hB6, hK6⟩; have HD6 : Hid (DiskAt w6 w.heap.size B (appR r t).dk) := Lib.hid hD6; have HB6 := Lib.hid (HP2.out.bl.trans hB6); have HM6 := Lib.hid (hK6.blk HP2.out.mb (by decide) (by decide)); have m0 : w6.cell? ⟨M, 0, none⟩ = some (.string r.a) := HM6.out.cell 0; have m1 : w6.cell? ⟨M, 1, none⟩ = some (.string r.b) := HM6.out.cell 1; have m2 : w6.cell? ⟨M, 2, none⟩ = some (.bool r.off) := HM6.out.cell 2; have n0 := HM6.out.frozen 0; have n1 := HM6.out.frozen 1; have n2 := HM6.out.frozen 2; have e1 : w6.cell? ⟨D, 1, none⟩ = some (.int .i64 xn) := (hK6.blk HX.out (by decide) (by decide)).cell 1; clear hD6 hB6 hK6)
              | (go_at_call 19; (with_reducible refine (rApp t r _ HP2.out.fn (Nat.le_trans HT20.out (by decide))).mono ?_); rintro en w7 ⟨rfl, hB7⟩; have HD7 : Hid (DiskAt w7 w.heap.size B (appR r t).dk) := Lib.hid (HD6.out.on hB7); have HB7 := Lib.hid (m_below_on HB6.out hB7); have HM7 := Lib.hid (HM6.out.on hB7); have m0 : w7.cell? ⟨M, 0, none⟩ = some (.string r.a) := HM7.out.cell 0; have m1 : w7.cell? ⟨M, 1, none⟩ = some (.string r.b) := HM7.out.cell 1; have m2 : w7.cell? ⟨M, 2, none⟩ = some (.bool r.off) := HM7.out.cell 2; have n0 := HM7.out.frozen 0; have n1 := HM7.out.frozen 1; have n2 := HM7.out.frozen 2; clear hB7))
            go_meet
            exact ⟨big, appE r t, appR r t, rfl, rfl, rfl, hbig, PlaysAt.step HD7.out HM7.out HB7.out hwM (app_fine t HP2.out.fn)⟩
          -- 2: Sync
          · as_aux_lemma =>
            go_wp2_with (first
              | (go_at_call 10; (with_reducible refine (dSync HP2.out.dk hwB HP2.out.fn).mono ?_); rintro en w6 ⟨rfl, hD6, hB6, hK6⟩; have HD6 : Hid (DiskAt w6 w.heap.size B (syncR r).dk) := Lib.hid hD6; have HB6 := Lib.hid (HP2.out.bl.trans hB6); have HM6 := Lib.hid (hK6.blk HP2.out.mb (by decide) (by decide)); have m0 : w6.cell? ⟨M, 0, none⟩ = some (.string r.a) := HM6.out.cell 0; have m1 : w6.cell? ⟨M, 1, none⟩ = some (.string r.b) := HM6.out.cell 1; have m2 : w6.cell? ⟨M, 2, none⟩ = some (.bool r.off) := HM6.out.cell 2; have n0 := HM6.out.frozen 0; have n1 := HM6.out.frozen 1; have n2 := HM6.out.frozen 2; have e1 : w6.cell? ⟨D, 1, none⟩ = some (.int .i64 xn) := (hK6.blk HX.out (by decide) (by decide)).cell 1; clear hD6 hB6 hK6)
              | (go_at_call 11; (with_reducible refine (rSync r _ HP2.out.fn).mono ?_); rintro en w7 ⟨rfl, hB7⟩; have HD7 : Hid (DiskAt w7 w.heap.size B (syncR r).dk) := Lib.hid (HD6.out.on hB7); have HB7 := Lib.hid (m_below_on HB6.out hB7); have HM7 := Lib.hid (HM6.out.on hB7); have m0 : w7.cell? ⟨M, 0, none⟩ = some (.string r.a) := HM7.out.cell 0; have m1 : w7.cell? ⟨M, 1, none⟩ = some (.string r.b) := HM7.out.cell 1; have m2 : w7.cell? ⟨M, 2, none⟩ = some (.bool r.off) := HM7.out.cell 2; have n0 := HM7.out.frozen 0; have n1 := HM7.out.frozen 1; have n2 := HM7.out.frozen 2; clear hB7))
            go_meet
            exact ⟨big, syncE r, syncR r, rfl, rfl, rfl, hbig, PlaysAt.step HD7.out HM7.out HB7.out hwM (sync_fine HP2.out.fn)⟩
          -- 3: Cut
          · as_aux_lemma =>
            go_wp2_with (first
              | (go_at_call 12; (with_reducible refine (dCut xn HP2.out.dk hwB HP2.out.fn).mono ?_); rintro en w6 ⟨rfl, hD6, hB6, hK6⟩; have HD6 : Hid (DiskAt w6 w.heap.size B (cutR r xn).dk) := Lib.hid hD6; have HB6 := Lib.hid (HP2.out.bl.trans hB6); have HM6 := Lib.hid (hK6.blk HP2.out.mb (by decide) (by decide)); have m0 : w6.cell? ⟨M, 0, none⟩ = some (.string r.a) := HM6.out.cell 0; have m1 : w6.cell? ⟨M, 1, none⟩ = some (.string r.b) := HM6.out.cell 1; have m2 : w6.cell? ⟨M, 2, none⟩ = some (.bool r.off) := HM6.out.cell 2; have n0 := HM6.out.frozen 0; have n1 := HM6.out.frozen 1; have n2 := HM6.out.frozen 2; have e1 : w6.cell? ⟨D, 1, none⟩ = some (.int .i64 xn) := (hK6.blk HX.out (by decide) (by decide)).cell 1; clear hD6 hB6 hK6)
              | (go_at_call 13; (with_reducible refine (rCut xn r _ HP2.out.fn).mono ?_); rintro en w7 ⟨rfl, hB7⟩; have HD7 : Hid (DiskAt w7 w.heap.size B (cutR r xn).dk) := Lib.hid (HD6.out.on hB7); have HB7 := Lib.hid (m_below_on HB6.out hB7); have HM7 := Lib.hid (HM6.out.on hB7); have m0 : w7.cell? ⟨M, 0, none⟩ = some (.string r.a) := HM7.out.cell 0; have m1 : w7.cell? ⟨M, 1, none⟩ = some (.string r.b) := HM7.out.cell 1; have m2 : w7.cell? ⟨M, 2, none⟩ = some (.bool r.off) := HM7.out.cell 2; have n0 := HM7.out.frozen 0; have n1 := HM7.out.frozen 1; have n2 := HM7.out.frozen 2; clear hB7))
            go_meet
            exact ⟨big, cutE r xn, cutR r xn, rfl, rfl, rfl, hbig, PlaysAt.step HD7.out HM7.out HB7.out hwM (cut_fine xn HP2.out.fn)⟩
          -- 4: Crash
          · as_aux_lemma =>
            go_wp2_with (first
              | (go_at_call 14; (with_reducible refine (dCrash xn HP2.out.dk hwB HP2.out.fn g3 g4).mono ?_); rintro en w6 ⟨rfl, hD6, hB6, hK6⟩; have HD6 : Hid (DiskAt w6 w.heap.size B (crashRd r xn).dk) := Lib.hid hD6; have HB6 := Lib.hid (HP2.out.bl.trans hB6); have HM6 := Lib.hid (hK6.blk HP2.out.mb (by decide) (by decide)); have m0 : w6.cell? ⟨M, 0, none⟩ = some (.string r.a) := HM6.out.cell 0; have m1 : w6.cell? ⟨M, 1, none⟩ = some (.string r.b) := HM6.out.cell 1; have m2 : w6.cell? ⟨M, 2, none⟩ = some (.bool r.off) := HM6.out.cell 2; have n0 := HM6.out.frozen 0; have n1 := HM6.out.frozen 1; have n2 := HM6.out.frozen 2; have e1 : w6.cell? ⟨D, 1, none⟩ = some (.int .i64 xn) := (hK6.blk HX.out (by decide) (by decide)).cell 1; clear hD6 hB6 hK6)
              | (go_at_call 15; (with_reducible refine (rCrash xn r _ HP2.out.fn).mono ?_); rintro en w7 ⟨rfl, hB7⟩; have HD7 : Hid (DiskAt w7 w.heap.size B (crashRd r xn).dk) := Lib.hid (HD6.out.on hB7); have HB7 := Lib.hid (m_below_on HB6.out hB7); have HM7 := Lib.hid (HM6.out.on hB7); have m0 : w7.cell? ⟨M, 0, none⟩ = some (.string r.a) := HM7.out.cell 0; have m1 : w7.cell? ⟨M, 1, none⟩ = some (.string r.b) := HM7.out.cell 1; have m2 : w7.cell? ⟨M, 2, none⟩ = some (.bool r.off) := HM7.out.cell 2; have n0 := HM7.out.frozen 0; have n1 := HM7.out.frozen 1; have n2 := HM7.out.frozen 2; clear hB7))
            go_meet
            exact ⟨big, 0, crashRd r xn, rfl, rfl, rfl, hbig, PlaysAt.step HD7.out HM7.out HB7.out hwM (crash_fine xn HP2.out.fn)⟩
          -- 5: Start
          · as_aux_lemma =>
            go_wp2_with (first
              | (go_at_call 16; (with_reducible refine (Start_any HP2.out.dk hwB).mono ?_); rintro en w6 ⟨rfl, hD6, hB6, hK6⟩; have HD6 : Hid (DiskAt w6 w.heap.size B ((⟨r.a, r.b, false⟩ : Rd)).dk) := Lib.hid hD6; have HB6 := Lib.hid (HP2.out.bl.trans hB6); have HM6 := Lib.hid (hK6.blk HP2.out.mb (by decide) (by decide)); have m0 : w6.cell? ⟨M, 0, none⟩ = some (.string r.a) := HM6.out.cell 0; have m1 : w6.cell? ⟨M, 1, none⟩ = some (.string r.b) := HM6.out.cell 1; have m2 : w6.cell? ⟨M, 2, none⟩ = some (.bool r.off) := HM6.out.cell 2; have n0 := HM6.out.frozen 0; have n1 := HM6.out.frozen 1; have n2 := HM6.out.frozen 2; have e1 : w6.cell? ⟨D, 1, none⟩ = some (.int .i64 xn) := (hK6.blk HX.out (by decide) (by decide)).cell 1; clear hD6 hB6 hK6))
            go_meet
            refine ⟨big, 0, ⟨r.a, r.b, false⟩, rfl, rfl, rfl, hbig, HD6.out.setB HM6.out (by decide) (by decide), HM6.out.set 2 _ _ rfl, HP2.out.fn, HB6.out.setCell (p := ⟨M, 2, none⟩) hwM _⟩
          -- 6: Wipe
          · as_aux_lemma =>
            go_wp2_with (first
              | (go_at_call 17; (with_reducible refine (Wipe_any HP2.out.dk hwB (Rd.dk_ok _ HP2.out.fn)).mono ?_); rintro en w6 ⟨rfl, hD6, hB6, hK6⟩; have HD6 : Hid (DiskAt w6 w.heap.size B ((⟨⟨#[]⟩, ⟨#[]⟩, r.off⟩ : Rd)).dk) := Lib.hid (rd_dk_eq (k := ⟨ByteArray.empty, 0, !r.off⟩) (emp0 _) rfl rfl ▸ hD6); have HB6 := Lib.hid (HP2.out.bl.trans hB6); have HM6 := Lib.hid (hK6.blk HP2.out.mb (by decide) (by decide)); have m0 : w6.cell? ⟨M, 0, none⟩ = some (.string r.a) := HM6.out.cell 0; have m1 : w6.cell? ⟨M, 1, none⟩ = some (.string r.b) := HM6.out.cell 1; have m2 : w6.cell? ⟨M, 2, none⟩ = some (.bool r.off) := HM6.out.cell 2; have n0 := HM6.out.frozen 0; have n1 := HM6.out.frozen 1; have n2 := HM6.out.frozen 2; have e1 : w6.cell? ⟨D, 1, none⟩ = some (.int .i64 xn) := (hK6.blk HX.out (by decide) (by decide)).cell 1; clear hD6 hB6 hK6))
            go_meet
            have k1 := HM6.out.set 0 (.string ⟨#[]⟩) _ rfl
            exact ⟨big, 0, ⟨⟨#[]⟩, ⟨#[]⟩, r.off⟩, rfl, rfl, rfl, hbig, (HD6.out.setB HM6.out (by decide) (by decide)).setB k1 (by decide) (by decide), k1.set 1 _ _ rfl, fine00 _, (HB6.out.setCell (p := ⟨M, 0, none⟩) hwM _).setCell (p := ⟨M, 1, none⟩) hwM _⟩
          -- 7: a great Append
          · as_aux_lemma =>
            by_cases hb4 : big < 4
            · have hdc : decide ((big : Int) < 4) = true := by simp; omega
              obtain ⟨y, hy, hy2⟩ := mask16 xn
              obtain ⟨cm, hmk, hcv⟩ := make_zeros (400000 + y) (by omega)
              have hmk' : ∀ w : World, (Instr.makeSlice 38 (.int .i64 (400000 + (y : Int))) (.int .i64 (400000 + (y : Int)))).run Try.prog w = .ok (.slice (some ⟨w.heap.size, 0, none⟩) (400000 + y) (400000 + y)) (w.alloc (.cells cm 5)) := hmk
              have hmka := hmk' wa
              have hcva := hcv wa
              clear hmk hmk' hcv
              go_upto_region 34 with fail
              clear hmka hcva hy
              have HPZ := Lib.hid (HP2.out.on (w2 := wa.alloc (.cells cm 5)) (by go_grown))
              have HXZ := Lib.hid (HX.out.alloc (.cells cm 5))
              clear d0 d1
              generalize wa.alloc (.cells cm 5) = wz at *
              go_wp2_with (first
                | (go_at_call 18; (with_reducible refine (dApp (zeros (400000 + y)) HPZ.out.dk hwB HPZ.out.fn (by rw [zeros_size]; omega)).mono ?_); rintro en w6 ⟨rfl, hD6, hB6, hK6⟩; have HD6 : Hid (DiskAt w6 w.heap.size B (appR r (zeros (400000 + y))).dk) := Lib.hid hD6; have HB6 := Lib.hid (HPZ.out.bl.trans hB6); have HM6 := Lib.hid (hK6.blk HPZ.out.mb (by decide) (by decide)); have m0 : w6.cell? ⟨M, 0, none⟩ = some (.string r.a) := HM6.out.cell 0; have m1 : w6.cell? ⟨M, 1, none⟩ = some (.string r.b) := HM6.out.cell 1; have m2 : w6.cell? ⟨M, 2, none⟩ = some (.bool r.off) := HM6.out.cell 2; have n0 := HM6.out.frozen 0; have n1 := HM6.out.frozen 1; have n2 := HM6.out.frozen 2; have e1 : w6.cell? ⟨D, 1, none⟩ = some (.int .i64 xn) := (hK6.blk HXZ.out (by decide) (by decide)).cell 1; clear hD6 hB6 hK6)
                | (go_at_call 19; (with_reducible refine (rApp (zeros (400000 + y)) r _ HPZ.out.fn (by rw [zeros_size]; omega)).mono ?_); rintro en w7 ⟨rfl, hB7⟩; have HD7 : Hid (DiskAt w7 w.heap.size B (appR r (zeros (400000 + y))).dk) := Lib.hid (HD6.out.on hB7); have HB7 := Lib.hid (m_below_on HB6.out hB7); have HM7 := Lib.hid (HM6.out.on hB7); have m0 : w7.cell? ⟨M, 0, none⟩ = some (.string r.a) := HM7.out.cell 0; have m1 : w7.cell? ⟨M, 1, none⟩ = some (.string r.b) := HM7.out.cell 1; have m2 : w7.cell? ⟨M, 2, none⟩ = some (.bool r.off) := HM7.out.cell 2; have n0 := HM7.out.frozen 0; have n1 := HM7.out.frozen 1; have n2 := HM7.out.frozen 2; clear hB7))
              go_meet
              exact ⟨big + 1, appE r (zeros (400000 + y)), appR r (zeros (400000 + y)), by go_num, rfl, rfl, by omega, PlaysAt.step HD7.out HM7.out HB7.out hwM (app_fine _ HPZ.out.fn)⟩
            · have hdc : decide ((big : Int) < 4) = false := by simp; omega
              go_wp2_with fail
              go_meet
              exact ⟨big, 0, r, rfl, rfl, rfl, hbig, HP2.out⟩
        case rest => as_aux_lemma =>
          obtain ⟨big2, e, r2, rfl, rfl, rfl, hbig2, hP3⟩ := hcut
          have HP3 := Lib.hid hP3
          clear hP3 HP2 HR8 HX d0 d1
          obtain ⟨ra, rb, ro⟩ := r2
          have HD3 := Lib.hid HP3.out.dk
          have m0 : wc.cell? ⟨M, 0, none⟩ = some (.string ra) := HP3.out.mb.cell 0
          have m1 : wc.cell? ⟨M, 1, none⟩ = some (.string rb) := HP3.out.mb.cell 1
          have m2 : wc.cell? ⟨M, 2, none⟩ = some (.bool ro) := HP3.out.mb.cell 2
          have hrf : ra.size + rb.size ≤ 1048576 := HP3.out.fn
          have hee : (e != e) = false := by simp
          cases ro with
          | true =>
            go_upto_region 37 with (with_reducible refine (Read_off HD3.out rfl).mono ?_; rintro en w8 ⟨rfl, rfl⟩)
            go_quiet ((go_at_call 21; exact Calls.quiet_of_same ((On_is false (HD3.out.on (below_drN2 _ _)) rfl).mono fun _ _ h => ⟨h.1, h.2.symm⟩)))
            have HPq := Lib.hid (HP3.out.on (w2 := wc.drewN nq) ⟨rfl, rfl, rfl, Nat.le_refl _, fun _ _ => rfl⟩)
            clear m0 m1 m2
            generalize wc.drewN nq = wq at *
            go_wp2_with fail
            go_roundg (len - (k + 1))
            case measure => omega
            case rel => exact ⟨k + 1, big2, ⟨ra, rb, true⟩, by go_num, rfl, by omega, by omega, hbig2, HPq.out⟩
          | false =>
            have hss : ((ra ++ rb).toList != (ra ++ rb).toList) = false := by simp
            go_upto_region 37 with (with_reducible refine (Read_is (ra ++ rb) HD3.out rfl rfl).mono ?_; rintro en w8 ⟨rfl, rfl⟩)
            go_quiet ((go_at_call 21; exact Calls.quiet_of_same ((On_is true (HD3.out.on (below_drN2 _ _)) rfl).mono fun _ _ h => ⟨h.1, h.2.symm⟩)))
            have HPq := Lib.hid (HP3.out.on (w2 := wc.drewN nq) ⟨rfl, rfl, rfl, Nat.le_refl _, fun _ _ => rfl⟩)
            clear m0 m1 m2
            generalize wc.drewN nq = wq at *
            go_wp2_with fail
            go_roundg (len - (k + 1))
            case measure => omega
            case rel => exact ⟨k + 1, big2, ⟨ra, rb, false⟩, by go_num, rfl, by omega, by omega, hbig2, HPq.out⟩
    · have hcase : (¬ k < len) ∨ (k < len ∧ ¬ k < 60) := by omega
      rcases hcase with hc | ⟨hc, hc2⟩
      · have hda : decide ((k : Int) < (len : Int)) = false := by simp; omega
        go_wp2_with fail
        go_ret
        exact ⟨rfl, HP.out.bl⟩
      · have hda : decide ((k : Int) < (len : Int)) = true := by simp; omega
        have hdb : decide ((k : Int) < 60) = false := by simp; omega
        go_wp2_with fail
        go_ret
        exact ⟨rfl, HP.out.bl⟩
end Go.Proofs.Ytobmfbafjpbkoaa
