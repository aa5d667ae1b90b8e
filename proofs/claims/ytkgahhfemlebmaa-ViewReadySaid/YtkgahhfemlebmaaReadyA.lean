/-
  The law ViewReady: the walk.
-/
import Derived.Test.YtkgahhfemlebmaaViewS
import Derived.Test.YtkgahhfemlebmaaViewJ
import Derived.Test.YtkgahhfemlebmaaOpenC
import Derived.Test.YtkgahhfemlebmaaLoose
import Derived.Test.YtkgahhfemlebmaaReadyM
import Derived.StillTailTactics
namespace Go.Proofs.Ytkgahhfemlebmaa
open Go.RowKit Go.Instr

theorem Blk.differ {w : World} {A B : Nat} {cs cs' : Array Value} {T T' : TypeId} (h : Blk w A cs T) (h' : Blk w B cs' T') (hT : T ≠ T') : A ≠ B := by
  rintro rfl
  have := (show w.heap[A]? = _ from h).symm.trans h'
  simp only [Option.some.injEq, Obj.cells.injEq] at this
  exact hT this.2.1
theorem gC_nobool (g : Nat → Nat) (j : Nat) (r : Bool) : (gC g)[j]? ≠ some (.bool r) := by
  intro h
  match j, h with
  | 0, h | 1, h | 2, h | 3, h | 4, h | 5, h | 6, h | 7, h | 8, h => cases h
  | j + 9, h => simp at h
theorem MemsAt.setG {w : World} {G j : Nat} {u : Value} {s : Value} {g : Nat → Nat} {T : TypeId} {l : List Mem} (h : MemsAt w s l) (hG : Blk w G (gC g) T) : MemsAt (w.setCell ⟨G, j, none⟩ u) s l := by
  rcases h with h | ⟨b, off, cap, rfl, hb, hc⟩
  · exact .inl h
  · refine .inr ⟨b, off, cap, rfl, by simpa using hb, fun i hi => ?_⟩
    obtain ⟨c0, c1, c2⟩ := hc i hi
    have hne : b ≠ G := by
      rintro rfl
      rw [hG.cell] at c2
      exact gC_nobool _ _ _ c2
    have e : ∀ o, (w.setCell ⟨G, j, none⟩ u).cell? ⟨b, o, none⟩ = w.cell? ⟨b, o, none⟩ := fun o => World.cell?_setCell_other w _ _ _ (fun e => by cases e; exact hne rfl)
    rw [e, e, e]
    exact ⟨c0, c1, c2⟩
/-- The law's loop: the view in block V, the lives that members had in block G. -/
def ReadyLoop (w : World) (V G len : Nat) (i : Value) (wr : World) : Prop :=
  ∃ (k : Nat) (v : Vw) (a : Option Addr) (cap : Nat) (g : Nat → Nat), i = .int .i64 k ∧ k ≤ len ∧ k ≤ 40 ∧ v.e ≤ k + 1 ∧ Good v ∧ Gone g v.lv ∧ Blk wr V (vC v.e (.slice a v.l.length cap) v.lv) 28 ∧ Blk wr G (gC g) 51 ∧ MemsAt wr (.slice a v.l.length cap) v.l ∧ Below w.heap.size w wr
/-- What stands behind the command: the view before it in block V, the one behind it in block N. -/
def ReadyMid (w : World) (V G : Nat) (e : Nat) (s : Value) (lv : Lv) (l : List Mem) (g : Nat → Nat) (e' : Nat) (lv' : Lv) (l' : List Mem) (ok : Bool) (s9 s10 : Value) (wx : World) : Prop :=
  ∃ (N : Nat) (a : Option Addr) (cap : Nat), s9 = .pointer (some ⟨N, 0, none⟩) ∧ s10 = .bool ok ∧ N ≠ V ∧ w.heap.size ≤ N ∧ Blk wx N (vC e' (.slice a l'.length cap) lv') 28 ∧ MemsAt wx (.slice a l'.length cap) l' ∧ Blk wx V (vC e s lv) 28 ∧ Blk wx G (gC g) 51 ∧ MemsAt wx s l ∧ Below w.heap.size w wx
theorem Same_is (e e2 : Nat) (s t : Value) (lv lv2 : Lv) (l k : List Mem) (w : World) (hl : l.length ≤ 40) (hk : k.length ≤ 40) (hs : MemsAt w s l) (ht : MemsAt w t k) (hr : sameB e lv l e2 lv2 k = true) :
    Calls Try.prog 12 #[.agg (vC e s lv), .agg (vC e2 t lv2)] w fun en w' => en = .returned (.bool true) ∧ Below w.heap.size w w' := by
  have := Same_any e e2 s t lv lv2 l k w hl hk hs ht
  rw [hr] at this
  exact this
/-- The loop over the members behind the command. -/
def ReadyLoop3 (w : World) (V G N : Nat) (gg : Nat → Nat) (e : Nat) (s : Value) (lv : Lv) (e' : Nat) (s' : Value) (lv' : Lv) (l' : List Mem) (i : Value) (wx : World) : Prop :=
  ∃ j : Nat, j ≤ l'.length ∧ i = .int .i64 j ∧ Blk wx V (vC e s lv) 28 ∧ Blk wx N (vC e' s' lv') 28 ∧ Blk wx G (gC gg) 51 ∧ MemsAt wx s' l' ∧ Below w.heap.size w wx
/-- The member that is found, in block D. -/
def ReadyFound (w : World) (V G N : Nat) (gg : Nat → Nat) (e : Nat) (s : Value) (lv : Lv) (e' : Nat) (s' : Value) (lv' : Lv) (l' : List Mem) (m : Mem) (s15 s16 : Value) (wx : World) : Prop :=
  ∃ D : Nat, s15 = .pointer (some ⟨D, 0, none⟩) ∧ s16 = .bool true ∧ Blk wx D (mC m) 52 ∧ Blk wx V (vC e s lv) 28 ∧ Blk wx N (vC e' s' lv') 28 ∧ Blk wx G (gC gg) 51 ∧ MemsAt wx s' l' ∧ Below w.heap.size w wx
theorem MemsAt.setM {w : World} {D j : Nat} {u : Value} {s : Value} {l : List Mem} {k : Nat} (h : MemsAt w s l) (hk : ∀ b off n c, s = .slice (some ⟨b, off, none⟩) n c → b < k) (hD : k ≤ D) : MemsAt (w.setCell ⟨D, j, none⟩ u) s l := by
  rcases h with h | ⟨b, off, cap, rfl, hb, hc⟩
  · exact .inl h
  · have hbk := hk _ _ _ _ rfl
    refine .inr ⟨b, off, cap, rfl, by simpa using hb, fun i hi => ?_⟩
    have e : ∀ o, (w.setCell ⟨D, j, none⟩ u).cell? ⟨b, o, none⟩ = w.cell? ⟨b, o, none⟩ := fun o => World.cell?_setCell_other w _ _ _ (fun e => by cases e; omega)
    rw [e, e, e]
    exact hc i hi
/-- The loop over the members before the command. -/
def ReadyLoop2 (w : World) (V G N : Nat) (e : Nat) (s : Value) (lv : Lv) (l : List Mem) (e' : Nat) (s' : Value) (lv' : Lv) (l' : List Mem) (i : Value) (wx : World) : Prop :=
  ∃ (j : Nat) (gg : Nat → Nat), j ≤ l.length ∧ i = .int .i64 j ∧ Gone gg lv ∧ Blk wx V (vC e s lv) 28 ∧ Blk wx N (vC e' s' lv') 28 ∧ Blk wx G (gC gg) 51 ∧ MemsAt wx s l ∧ MemsAt wx s' l' ∧ Below w.heap.size w wx
set_option maxRecDepth 20000 in
set_option maxHeartbeats 40000000 in
theorem ready_walk (n : Nat) (a : Option Addr) (len cap : Nat) (z : Nat → Cmd) (w : World) (hn : n < 256) (hlen : len ≤ maxLen) (hrow : RowC w a len z) :
    Calls Try.prog 4 #[.int .u8 n, .slice a len cap] w fun e w' => e = .returned (.bool true) ∧ Below w.heap.size w w' := by
  unfold maxLen at hlen
  have HR := Lib.hid hrow
  clear hrow
  go_enter Try.func4, Try.ntmps4
  go_wp2_with fail
  refine (speaks_any _).mono ?_
  rintro en w1 ⟨rfl, hB⟩
  have HB := Lib.hid hB
  clear hB
  obtain ⟨v0, hv0⟩ : ∃ v, firstV (1 + n % 8) = v := ⟨_, rfl⟩
  have hfir := first_is (1 + n % 8) _ w1 (by omega) (by omega) hv0
  rw [show ((1 + n % 8 : Nat) : Int) = 1 + (n : Int) % 8 by omega] at hfir
  have HF := Lib.hid hfir
  have HG := Lib.hid (good_first (n := 1 + n % 8) (by omega) (by omega))
  have HE := Lib.hid (epoch_first (1 + n % 8))
  rw [hv0] at HG HE
  clear hfir hv0
  go_wp2_with (refine HF.out.mono ?_; rintro en w2 ⟨s2, rfl, hM, hB⟩; obtain ⟨a2, c2, hs2⟩ := hM.len; subst hs2; have HM2 := Lib.hid hM; have HB2 : Hid (Below w.heap.size w w2) := Lib.hid (m_below_on HB.out hB); clear hM hB)
  have hV : w.heap.size ≤ w2.heap.size := HB2.out.size
  have HST : Hid (ReadyLoop w w2.heap.size (w2.heap.size + 1) len (.int .i64 0) ((w2.alloc (.cells (vC v0.e (.slice a2 v0.l.length c2) v0.lv) 28)).alloc (.cells (gC fun _ => 0) 51))) :=
    Lib.hid ⟨0, v0, a2, c2, fun _ => 0, rfl, by omega, by omega, HE.out, HG.out, gone_zero _, (Blk.new rfl).alloc _, Blk.new (by simp), (HM2.out.al _).al _, by have := HB2.out; go_grown⟩
  obtain ⟨G, hGE⟩ : ∃ G, G = w2.heap.size + 1 := ⟨_, rfl⟩
  obtain ⟨V, hVE⟩ : ∃ V, V = w2.heap.size := ⟨_, rfl⟩
  rw [← hGE, ← hVE] at HST
  rw [← hVE] at hV
  simp only [← hGE]
  simp only [← hVE]
  have hVG : V ≠ G := by omega
  have hGw : w.heap.size ≤ G := by omega
  clear hVE hGE
  go_loopw [8] (fun i wr => ReadyLoop w V G len i wr) (fun i _ => 40 - (intOf i).toNat)
  case atStart => exact HST.out
  case round =>
    obtain ⟨k, v, a3, c3, g, rfl, hk, hk40, he, hg, hgo, hv, hgb, hm, hb⟩ := hrel
    have HE := Lib.hid he
    have HG := Lib.hid hg
    have HGO := Lib.hid hgo
    have HV := Lib.hid hv
    have HGB := Lib.hid hgb
    have HM := Lib.hid hm
    have HB3 := Lib.hid hb
    clear he hg hgo hv hgb hm hb HST HF HM2 HB2
    by_cases hlk : k < len ∧ k < 40
    · obtain ⟨hlt, hk3⟩ := hlk
      obtain ⟨b, off, rfl, q0, q1, q2, q3, q4, qf⟩ := HR.out k hlt
      have hbw := World.block_lt_of_cell? _ _ q0
      simp only at hbw
      have q0 := (HB3.out.cell (p := ⟨b, off + k * 5, none⟩) hbw).trans q0
      have q1 := (HB3.out.cell (p := ⟨b, off + k * 5 + 1, none⟩) hbw).trans q1
      have q2 := (HB3.out.cell (p := ⟨b, off + k * 5 + 2, none⟩) hbw).trans q2
      have q3 := (HB3.out.cell (p := ⟨b, off + k * 5 + 3, none⟩) hbw).trans q3
      have q4 := (HB3.out.cell (p := ⟨b, off + k * 5 + 4, none⟩) hbw).trans q4
      generalize z k = c at *
      have HCASE := Lib.hid (apply_cases v c)
      have HGN := Lib.hid (fun gg (hgg : Gone gg v.lv) => gone_apply (c := c) hgg)
      have HNEW := Lib.hid (fun gg (hgg : Gone gg v.lv) hl hi => gone_new (c := c) hgg hl hi)
      obtain ⟨ck, cn, cl, ce, cr⟩ := c
      simp only at q0 q1 q2 q3 q4
      have QF := Lib.hid qf
      clear qf
      obtain ⟨d0, d1, d2, d3, d4, d5, d6, d7, d8, d9⟩ := HV.out.ten
      have hl40 : v.l.length ≤ 40 := by have := HG.out.len; omega
      have he32 : v.e < 4294967296 := by have := HE.out; omega
      have HG' := Lib.hid (good_apply HG.out QF.out)
      have HE' := Lib.hid (epoch_apply (c := ⟨ck, cn, cl, ce, cr⟩) HE.out)
      obtain ⟨R, hR⟩ : ∃ R, Vw.apply v ⟨ck, cn, cl, ce, cr⟩ = R := ⟨_, rfl⟩
      have HRR := Lib.hid hR
      rw [hR] at HG' HE' HCASE HGN HNEW
      clear hR
      obtain ⟨⟨e', lv', l'⟩, ok⟩ := R
      obtain ⟨e, lv, l⟩ := v
      simp only at *
      have hVw : V < wr.heap.size := HV.out.lt
      have hwr : w.heap.size ≤ wr.heap.size := HB3.out.size
      have hGw2 : G < wr.heap.size := HGB.out.lt
      have hbn : b < wr.heap.size := by omega
      have hVn : V ≠ wr.heap.size := by omega
      go_wp2_with fail
      go_cut [9, 10] (fun s9 s10 wx => ReadyMid w V G e (.slice a3 l.length c3) lv l g e' lv' l' ok s9 s10 wx)
      case first =>
        have n1 : wr.heap.size ≠ V := by omega
        have m1 : wr.heap.size ≠ b := by omega
        have HQ := Lib.hid (And.intro q0 (And.intro q1 (And.intro q2 (And.intro q3 q4))))
        go_region_held3 (fun w' => w'.cell? ⟨V, 0, none⟩ = some (.int .u32 e) ∧ w'.cell? ⟨V, 1, none⟩ = some (.slice a3 l.length c3) ∧ w'.cell? ⟨V, 2, none⟩ = some (.int .u8 lv.a) ∧ w'.cell? ⟨V, 3, none⟩ = some (.int .u8 lv.b) ∧ w'.cell? ⟨V, 4, none⟩ = some (.int .u8 lv.c) ∧ w'.cell? ⟨V, 5, none⟩ = some (.int .u8 lv.d) ∧ w'.cell? ⟨V, 6, none⟩ = some (.int .u8 lv.e) ∧ w'.cell? ⟨V, 7, none⟩ = some (.int .u8 lv.f) ∧ w'.cell? ⟨V, 8, none⟩ = some (.int .u8 lv.g) ∧ w'.cell? ⟨V, 9, none⟩ = some (.int .u8 lv.h) ∧ w'.cell? ⟨b, off + k * 5, none⟩ = some (.int .u8 ck) ∧ w'.cell? ⟨b, off + k * 5 + 1, none⟩ = some (.int .u8 cn) ∧ w'.cell? ⟨b, off + k * 5 + 2, none⟩ = some (.int .u8 cl) ∧ w'.cell? ⟨b, off + k * 5 + 3, none⟩ = some (.int .u32 ce) ∧ w'.cell? ⟨b, off + k * 5 + 4, none⟩ = some (.int .u32 cr)) (go_keep)
          ((go_at_call 9; (with_reducible refine Calls.mono (apply_is _ e lv l ck cn cl ce cr _ _ hl40 ?_ he32 QF.out HRR.out) ?_); (exact HM.out.on (by go_grown)); rintro en w4 ⟨s4, rfl, hM4, hB4⟩; obtain ⟨a4, c4, hs4⟩ := hM4.len; subst hs4; simp only at hM4 hB4; have HM4 := Lib.hid hM4; have hbx := (Below.trans (b := _) (by go_grown) (hB4.mono (by simp)) : Below wr.heap.size wr w4); have HV4 := Lib.hid (HV.out.on hbx); have HG4 := Lib.hid (HGB.out.on hbx); have HMO := Lib.hid (HM.out.on hbx); have HB4 : Hid (Below w.heap.size w w4) := Lib.hid (m_below_on HB3.out hbx); obtain ⟨g0, g1, g2, g3, g4, g5, g6, g7, g8, g9⟩ := (HV.out.on hbx).ten; have z0 := (hbx.cell (p := ⟨b, off + k * 5, none⟩) hbn).trans HQ.out.1; have z1 := (hbx.cell (p := ⟨b, off + k * 5 + 1, none⟩) hbn).trans HQ.out.2.1; have z2 := (hbx.cell (p := ⟨b, off + k * 5 + 2, none⟩) hbn).trans HQ.out.2.2.1; have z3 := (hbx.cell (p := ⟨b, off + k * 5 + 3, none⟩) hbn).trans HQ.out.2.2.2.1; have z4 := (hbx.cell (p := ⟨b, off + k * 5 + 4, none⟩) hbn).trans HQ.out.2.2.2.2; (first | (have hN := Blk.on (Blk.dr (Blk.new (w := wr) (B := wr.heap.size) (T := 28) (cs := vC 0 (.slice none 0 0) zeroL) rfl)) hB4; have HN4 := Lib.hid hN; obtain ⟨p0, p1, p2, p3, p4, p5, p6, p7, p8, p9⟩ := hN.ten; have f0 := hN.frozen 0; have f1 := hN.frozen 1; have f2 := hN.frozen 2; have f3 := hN.frozen 3; have f4 := hN.frozen 4; have f5 := hN.frozen 5; have f6 := hN.frozen 6; have f7 := hN.frozen 7; have f8 := hN.frozen 8; have f9 := hN.frozen 9; clear hN) | (have HN4 : Hid (w4 = w4) := Lib.hid rfl)); have hsz4 := hbx.size; have n3 : w4.heap.size ≠ V := (by omega); have m3 : w4.heap.size ≠ b := (by omega); clear hM4 hB4 hbx))
        all_goals
          go_wp2_with fail
          go_meet
          first
            | (have hn4 : Blk w4 wr.heap.size (vC 0 (.slice none 0 0) zeroL) 28 := HN4.out
               obtain ⟨wf, hwf⟩ : ∃ wf, wf = (((((((((w4.setCell ⟨wr.heap.size, 0, none⟩ (.int .u32 e')).setCell ⟨wr.heap.size, 1, none⟩ (.slice a4 l'.length c4)).setCell ⟨wr.heap.size, 2, none⟩ (.int .u8 lv'.a)).setCell ⟨wr.heap.size, 3, none⟩ (.int .u8 lv'.b)).setCell ⟨wr.heap.size, 4, none⟩ (.int .u8 lv'.c)).setCell ⟨wr.heap.size, 5, none⟩ (.int .u8 lv'.d)).setCell ⟨wr.heap.size, 6, none⟩ (.int .u8 lv'.e)).setCell ⟨wr.heap.size, 7, none⟩ (.int .u8 lv'.f)).setCell ⟨wr.heap.size, 8, none⟩ (.int .u8 lv'.g)).setCell ⟨wr.heap.size, 9, none⟩ (.int .u8 lv'.h) := ⟨_, rfl⟩
               rw [← hwf]
               obtain ⟨hF, hFB, hFs, hFo⟩ := fill_view hn4 e' a4 lv' wf hwf
               clear hwf
               exact ⟨wr.heap.size, a4, c4, rfl, rfl, by omega, hwr, hF, HM4.out.but hn4 (by omega) (fun k _ hk => hFo k hk), (hFo V (by omega)).trans HV4.out, (hFo G (by omega)).trans HG4.out, HMO.out.but hn4 (by omega) (fun k _ hk => hFo k hk), HB4.out.trans (hFB.mono hwr)⟩)
            | exact ⟨w4.heap.size, a4, c4, rfl, rfl, by omega, by omega, Blk.new rfl, HM4.out.al _, HV4.out.alloc _, HG4.out.alloc _, HMO.out.al _, by have := HB4.out; have := HB4.out.size; go_grown⟩
      case rest =>
        obtain ⟨N, a4, c4, rfl, rfl, hNV, hNw, hN, hM', hV', hG', hMo, hBw⟩ := hcut
        clear HV HGB HM HB3 q0 q1 q2 q3 q4 d0 d1 d2 d3 d4 d5 d6 d7 d8 d9 hbn hVn hVw hwr hGw2
        have HST2 : Hid (ReadyLoop2 w V G N e (.slice a3 l.length c3) lv l e' (.slice a4 l'.length c4) lv' l' (.int .i64 0) wc) := Lib.hid ⟨0, g, Nat.zero_le _, rfl, HGO.out, hV', hN, hG', hMo, hM', hBw⟩
        clear hN hM' hV' hG' hMo hBw
        obtain ⟨m, hm⟩ : ∃ m, m = l.length := ⟨_, rfl⟩
        rw [← hm] at HST2
        have HMN := Lib.hid hm
        clear hm
        go_wp2_with fail
        go_loopw [11] (fun i wx => ReadyLoop2 w V G N e (.slice a3 m c3) lv l e' (.slice a4 l'.length c4) lv' l' i wx) (fun i _ => m - (intOf i).toNat)
        case atStart => exact HST2.out
        case round =>
          obtain ⟨j, gg, hj, rfl, hgg, hV', hN, hG', hMo, hM', hBw⟩ := hrel
          rw [← HMN.out] at hj
          clear HST2
          by_cases hjm : j < m
          · have hjl : j < l.length := by rw [← HMN.out]; exact hjm
            obtain ⟨gb, goff, cg, hsg, hgw, hcells⟩ := hMo.form (by omega)
            simp only [Value.slice.injEq] at hsg
            obtain ⟨rfl, hml, rfl⟩ := hsg
            clear hml
            obtain ⟨q0, q1, _⟩ := hcells j hjl
            have hrange := HG.out.range l[j] (List.getElem_mem _)
            have hgu := gone_upd (v := ⟨e, lv, l⟩) hgg HG.out (List.getElem_mem hjl)
            obtain ⟨mb, hmb⟩ : ∃ x, x = l[j] := ⟨_, rfl⟩
            simp only at hrange hgu
            rw [← hmb] at q0 q1 hrange hgu
            clear hmb hcells
            obtain ⟨nd, lf, rd⟩ := mb
            simp only at q0 q1 hrange hgu
            obtain ⟨r1, r2, r3, r4⟩ := hrange
            have hg0 := hgg.1 nd
            have x0 := hG'.cell nd
            rw [gC_get _ (by omega)] at x0
            have f0 := hG'.frozen nd
            have d1 := hV'.cell 1
            simp at d1
            have HREL : Hid (∀ x : Nat, x = max (gg nd) lf → ReadyLoop2 w V G N e (.slice (some ⟨gb, goff, none⟩) m c3) lv l e' (.slice a4 l'.length c4) lv' l' (.int .i64 (j + 1)) (wr.drew.setCell ⟨G, nd, none⟩ (.int .u8 x))) := Lib.hid (by
              intro x hx
              exact ⟨j + 1, upd gg nd x, by omega, by go_num, by rw [hx]; exact hgu, hV'.dr.set_other nd _ hVG, hN.dr.set_other nd _ (hN.differ hG' (by decide)), Blk.set hG'.dr nd _ _ (gC_set _ _ (by omega)), hMo.dr.setG hG'.dr, hM'.dr.setG hG'.dr, (Below.drew hBw).setCell hGw _⟩)
            clear hgg hV' hN hG' hMo hM' hBw hgu
            generalize gg nd = gn at *
            have hnd : nd < 9 := by omega
            have hnd' : (nd : Int) < 9 := by omega
            rcases Nat.lt_or_ge gn lf with hmx | hmx
            all_goals
              have HREL2 := Lib.hid (HREL.out _ rfl)
              clear HREL
              first | rw [Nat.max_eq_right (Nat.le_of_lt hmx)] at HREL2 | rw [Nat.max_eq_left hmx] at HREL2
              try have hmx' : ¬ (gn : Int) < lf := by omega
              go_wp2_with fail
              go_still_tail 22, (by kernel_rfl)
              change wpList _ _ _ _ _ wr.drew
              go_wp2_with fail
              go_roundw
              case rel => exact HREL2.out
              case measure => simp [intOf]; omega
          · have HV := Lib.hid hV'
            have HN := Lib.hid hN
            have HGB := Lib.hid hG'
            have HMO := Lib.hid hMo
            have HM' := Lib.hid hM'
            have HBW := Lib.hid hBw
            have HGG := Lib.hid hgg
            clear hgg hV' hN hG' hMo hM' hBw
            obtain ⟨m', hm'⟩ : ∃ x, x = l'.length := ⟨_, rfl⟩
            rw [← hm'] at HN HM' HCASE
            rw [← HMN.out] at HCASE
            have HMN' := Lib.hid hm'
            clear hm'
            have d1 := HV.out.cell 1
            have e1 := HN.out.cell 1
            simp at d1 e1
            have hm8 : m ≤ 8 := by rw [HMN.out]; exact HG.out.len
            have hm8' : m' ≤ 8 := by rw [HMN'.out]; exact HG'.out.len
            go_upto_region 16 with fail
            go_cut [103] (fun s103 wx => s103 = .bool false ∧ Blk wx V (vC e (.slice a3 m c3) lv) 28 ∧ Blk wx N (vC e' (.slice a4 m' c4) lv') 28 ∧ Blk wx G (gC gg) 51 ∧ MemsAt wx (.slice a3 m c3) l ∧ MemsAt wx (.slice a4 m' c4) l' ∧ Below w.heap.size w wx)
            case first =>
              have hpost : ∀ nq, Blk (wr.drewN nq) V (vC e (.slice a3 m c3) lv) 28 ∧ Blk (wr.drewN nq) N (vC e' (.slice a4 m' c4) lv') 28 ∧ Blk (wr.drewN nq) G (gC gg) 51 ∧ MemsAt (wr.drewN nq) (.slice a3 m c3) l ∧ MemsAt (wr.drewN nq) (.slice a4 m' c4) l' ∧ Below w.heap.size w (wr.drewN nq) := fun nq => ⟨HV.out, HN.out, HGB.out, HMO.out.on ⟨rfl, rfl, rfl, Nat.le_refl _, fun _ _ => rfl⟩, HM'.out.on ⟨rfl, rfl, rfl, Nat.le_refl _, fun _ _ => rfl⟩, m_below_on HBW.out ⟨rfl, rfl, rfl, Nat.le_refl _, fun _ _ => rfl⟩⟩
              have HPOST := Lib.hid hpost
              clear hpost
              by_cases hgt : m < m'
              · obtain ⟨M, rfl⟩ : ∃ M, m' = M + 1 := ⟨m' - 1, by omega⟩
                have hML : M < l'.length := by rw [← HMN'.out]; omega
                obtain ⟨gb, goff, cg, hsg, hgw, hcells⟩ := HM'.out.form (by omega)
                simp only [Value.slice.injEq] at hsg
                obtain ⟨rfl, hml, rfl⟩ := hsg
                clear hml
                obtain ⟨q0, q1, q2⟩ := hcells M hML
                have hnew := HNEW.out gg HGG.out (by rw [← HMN.out, ← HMN'.out]; exact hgt) (by omega)
                obtain ⟨mb, hmb⟩ : ∃ x, x = l'[M] := ⟨_, rfl⟩
                have hlast : l'[l'.length - 1]'(by omega) = mb := by
                  rw [hmb]
                  congr 1
                  rw [← HMN'.out]; omega
                rw [hlast] at hnew
                rw [← hmb] at q0 q1
                clear q2 hmb hlast hcells hML
                obtain ⟨nd, lf, rd⟩ := mb
                simp only at q0 q1 hnew
                obtain ⟨hnew, hn8⟩ := hnew
                have x0 := HGB.out.cell nd
                rw [gC_get _ (by omega)] at x0
                have hnd : nd < 9 := by omega
                have hnd' : (nd : Int) < 9 := by omega
                generalize gg nd = gn at *
                have hno : ¬ (lf : Int) ≤ gn := by omega
                have hgt' : (m : Int) < (M : Int) + 1 := by omega
                have hgd : decide ((m : Int) < (M : Int) + 1) = true := decide_eq_true hgt'
                go_quiet (fail)
                go_wp2_with fail
                go_meet
                exact ⟨rfl, HPOST.out _⟩
              · have hno : ¬ (m : Int) < m' := by omega
                go_quiet (fail)
                go_wp2_with fail
                go_meet
                exact ⟨rfl, HPOST.out _⟩
            case rest =>
              obtain ⟨rfl, hv, hN, hG', hMo, hM', hBw⟩ := hcut
              clear HV HN HGB HMO HM' HBW d1 e1
              have HV := Lib.hid hv
              have HN := Lib.hid hN
              have HGB := Lib.hid hG'
              have HMO := Lib.hid hMo
              have HM' := Lib.hid hM'
              have HBW := Lib.hid hBw
              obtain ⟨d0, d1, d2, d3, d4, d5, d6, d7, d8, d9⟩ := hv.ten
              obtain ⟨e0, e1, e2, e3, e4, e5, e6, e7, e8, e9⟩ := hN.ten
              clear hv hN hG' hMo hM' hBw
              have hl40' : l'.length ≤ 40 := by rw [← HMN'.out]; omega
              obtain ⟨rn, hrn⟩ : ∃ r, r = readyN l' := ⟨_, rfl⟩
              have HRN := Lib.hid hrn
              have hr0 : ¬ (rn : Int) = 0 := by have := HG'.out.ready; simp only at this; omega
              clear hrn
              have hel : e ≤ 41 := by have := HE.out; omega
              obtain ⟨ch, hch⟩ : ∃ ch, ((m' : Int) != (m : Int)) = ch := ⟨_, rfl⟩
              obtain ⟨q1, hq1⟩ : ∃ q, ((e' : Int) == (e : Int) + 1) = q := ⟨_, rfl⟩
              obtain ⟨q2, hq2⟩ : ∃ q, ((e' : Int) != (e : Int)) = q := ⟨_, rfl⟩
              have HSAME : Hid ((ch = true ∧ q1 = true ∧ ok = true) ∨ (ch = false ∧ q1 = false ∧ q2 = false ∧ (ok = true ∨ sameB e' lv' l' e lv l = true))) := Lib.hid (by
                rcases HCASE.out with ⟨hok, hm1, he1, _⟩ | ⟨hok, hm1, he1, _⟩ | ⟨hm1, he1, hlv1, hor⟩
                · exact .inl ⟨by rw [← hch]; simp; omega, by rw [← hq1]; simp; omega, hok⟩
                · exact .inl ⟨by rw [← hch]; simp; omega, by rw [← hq1]; simp; omega, hok⟩
                · refine .inr ⟨by rw [← hch]; simp; omega, by rw [← hq1]; simp; omega, by rw [← hq2]; simp; omega, ?_⟩
                  rcases hor with h | h
                  · exact .inl h
                  · exact .inr (decide_eq_true ⟨he1, h, hlv1⟩))
              go_upto_region 19 with fail
              go_cut [144] (fun s144 wx => s144 = .bool false ∧ Below wc.heap.size wc wx)
              case first =>
                rcases HSAME.out with ⟨rfl, rfl, rfl⟩ | ⟨rfl, rfl, rfl, hor⟩
                · go_wp2_with (go_at_call 14; (with_reducible refine (ready_is e' _ lv' l' rn _ hl40' HM'.out HRN.out.symm).mono ?_); rintro en w7 ⟨rfl, hB7⟩; have hd0 := (hB7.cell (p := ⟨V, 0, none⟩) (World.block_lt_of_cell? _ _ d0)).trans d0; have he0 := (hB7.cell (p := ⟨N, 0, none⟩) (World.block_lt_of_cell? _ _ e0)).trans e0; have HB7 := Lib.hid hB7; clear hB7)
                  go_meet
                  exact ⟨by rw [show ((rn : Int) == 0) = false by simpa using hr0], HB7.out⟩
                · have HOR := Lib.hid hor
                  clear hor
                  cases hok : ok with
                  | true =>
                    subst hok
                    go_wp2_with (go_at_call 14; (with_reducible refine (ready_is e' _ lv' l' rn _ hl40' HM'.out HRN.out.symm).mono ?_); rintro en w7 ⟨rfl, hB7⟩; have hd0 := (hB7.cell (p := ⟨V, 0, none⟩) (World.block_lt_of_cell? _ _ d0)).trans d0; have he0 := (hB7.cell (p := ⟨N, 0, none⟩) (World.block_lt_of_cell? _ _ e0)).trans e0; have HB7 := Lib.hid hB7; clear hB7)
                    go_meet
                    exact ⟨by rw [show ((rn : Int) == 0) = false by simpa using hr0], HB7.out⟩
                  | false =>
                    subst hok
                    have HSB : Hid (sameB e' lv' l' e lv l = true) := Lib.hid (by
                      rcases HOR.out with h | h
                      · cases h
                      · exact h)
                    go_wp2_with (first | (go_at_call 14; (with_reducible refine (ready_is e' _ lv' l' rn _ hl40' HM'.out HRN.out.symm).mono ?_); rintro en w7 ⟨rfl, hB7⟩; have HV7 := Lib.hid (HV.out.on hB7); have HN7 := Lib.hid (HN.out.on hB7); have HM7 := Lib.hid (HMO.out.on hB7); have HM7' := Lib.hid (HM'.out.on hB7); have HB7 := Lib.hid hB7; clear hB7 d0 d1 d2 d3 d4 d5 d6 d7 d8 d9 e0 e1 e2 e3 e4 e5 e6 e7 e8 e9; obtain ⟨d0, d1, d2, d3, d4, d5, d6, d7, d8, d9⟩ := HV7.out.ten; obtain ⟨e0, e1, e2, e3, e4, e5, e6, e7, e8, e9⟩ := HN7.out.ten) | (go_at_call 12; (with_reducible refine (Same_is e' e _ _ lv' lv l' l _ hl40' hl40 HM7'.out HM7.out HSB.out).mono ?_); rintro en w8 ⟨rfl, hB8⟩; have HB8 := Lib.hid (m_below_on HB7.out hB8); clear hB8))
                    go_meet
                    exact ⟨by rw [show ((rn : Int) == 0) = false by simpa using hr0], HB8.out⟩
              case rest =>
                obtain ⟨rfl, hB9⟩ := hcut
                have HV9 := Lib.hid (HV.out.on hB9)
                have HN9 := Lib.hid (HN.out.on hB9)
                have HG9 := Lib.hid (HGB.out.on hB9)
                have HM9 := Lib.hid (HM'.out.on hB9)
                have HB9 := Lib.hid (m_below_on HBW.out hB9)
                clear hB9 HV HN HGB HMO HM' HBW d0 d1 d2 d3 d4 d5 d6 d7 d8 d9 e0 e1 e2 e3 e4 e5 e6 e7 e8 e9 hch hq1 hq2 HSAME
                have HST3 : Hid (ReadyLoop3 w V G N gg e (.slice a3 m c3) lv e' (.slice a4 m' c4) lv' l' (.int .i64 0) wc) := Lib.hid ⟨0, Nat.zero_le _, rfl, HV9.out, HN9.out, HG9.out, HM9.out, HB9.out⟩
                clear HV9 HN9 HG9 HM9 HB9
                go_wp2_with fail
                go_loopw [14] (fun i wx => ReadyLoop3 w V G N gg e (.slice a3 m c3) lv e' (.slice a4 m' c4) lv' l' i wx) (fun i _ => m' - (intOf i).toNat)
                case atStart => exact HST3.out
                case round =>
                  obtain ⟨j2, hj2, rfl, hv, hN, hG', hM', hBw⟩ := hrel
                  rw [← HMN'.out] at hj2
                  clear HST3
                  have HV := Lib.hid hv
                  have HN := Lib.hid hN
                  have HGB := Lib.hid hG'
                  have HM' := Lib.hid hM'
                  have HBW := Lib.hid hBw
                  clear hv hN hG' hM' hBw
                  by_cases hj2m : j2 < m'
                  · have hjl : j2 < l'.length := by rw [← HMN'.out]; exact hj2m
                    obtain ⟨gb, goff, cg, hsg, hgw, hcells⟩ := HM'.out.form (by omega)
                    simp only [Value.slice.injEq] at hsg
                    obtain ⟨rfl, hml, rfl⟩ := hsg
                    clear hml
                    obtain ⟨y0, y1, y2⟩ := hcells j2 hjl
                    have hidx := good_node HG'.out hjl
                    simp only at hidx
                    obtain ⟨mb, hmb⟩ : ∃ x, l'[j2] = x := ⟨_, rfl⟩
                    rw [hmb] at y0 y1 y2 hidx
                    have HMB := Lib.hid hmb
                    clear hmb hcells
                    obtain ⟨nd, lf, rd⟩ := mb
                    simp only at y0 y1 y2 hidx
                    have HIX := Lib.hid hidx
                    have HJL := Lib.hid hjl
                    clear hidx
                    obtain ⟨e0, e1, e2, e3, e4, e5, e6, e7, e8, e9⟩ := HN.out.ten
                    have hNlt : N < wr.heap.size := HN.out.lt
                    have HY := Lib.hid y0
                    have n1 : wr.heap.size ≠ N := by omega
                    have m1 : wr.heap.size ≠ gb := by omega
                    have hwr2 : w.heap.size ≤ wr.heap.size := HBW.out.size
                    go_wp2_with fail
                    go_cut [15, 16] (fun s15 s16 wx => ReadyFound w V G N gg e (.slice a3 m c3) lv e' (.slice (some ⟨gb, goff, none⟩) m' c4) lv' l' ⟨nd, lf, rd⟩ s15 s16 wx)
                    case first =>
                      go_region_held3 (fun w' => w'.cell? ⟨N, 0, none⟩ = some (.int .u32 e') ∧ w'.cell? ⟨N, 1, none⟩ = some (.slice (some ⟨gb, goff, none⟩) m' c4) ∧ w'.cell? ⟨N, 2, none⟩ = some (.int .u8 lv'.a) ∧ w'.cell? ⟨N, 3, none⟩ = some (.int .u8 lv'.b) ∧ w'.cell? ⟨N, 4, none⟩ = some (.int .u8 lv'.c) ∧ w'.cell? ⟨N, 5, none⟩ = some (.int .u8 lv'.d) ∧ w'.cell? ⟨N, 6, none⟩ = some (.int .u8 lv'.e) ∧ w'.cell? ⟨N, 7, none⟩ = some (.int .u8 lv'.f) ∧ w'.cell? ⟨N, 8, none⟩ = some (.int .u8 lv'.g) ∧ w'.cell? ⟨N, 9, none⟩ = some (.int .u8 lv'.h) ∧ w'.cell? ⟨gb, goff + j2 * 3, none⟩ = some (.int .u8 nd)) (go_keep)
                        ((go_at_call 15; (with_reducible refine Calls.mono (Find_yes e' _ lv' l' nd j2 ⟨nd, lf, rd⟩ _ hl40' ?_ HIX.out HJL.out HMB.out) ?_); (exact HM'.out.on (by go_grown)); rintro en w4 ⟨rfl, hB4⟩; have hbx := (Below.trans (b := _) (by go_grown) (hB4.mono (by simp)) : Below wr.heap.size wr w4); have HB4 := Lib.hid hbx; obtain ⟨g0, g1, g2, g3, g4, g5, g6, g7, g8, g9⟩ := (HN.out.on hbx).ten; have z0 := (hbx.cell (p := ⟨gb, goff + j2 * 3, none⟩) hgw).trans HY.out; (first | (have hD := Blk.on (Blk.dr (Blk.new (w := wr) (B := wr.heap.size) (T := 52) (cs := mC ⟨0, 0, false⟩) rfl)) hB4; have HD4 := Lib.hid hD; have p0 := hD.cell 0; have p1 := hD.cell 1; have p2 := hD.cell 2; have f0 := hD.frozen 0; have f1 := hD.frozen 1; have f2 := hD.frozen 2; simp at p0 p1 p2; clear hD) | (have HD4 : Hid (w4 = w4) := Lib.hid rfl)); have hsz4 := hbx.size; have n3 : w4.heap.size ≠ N := (by omega); have m3 : w4.heap.size ≠ gb := (by omega); clear hB4 hbx))
                      all_goals
                        go_wp2_with fail
                        go_meet
                        have hVl := HV.out.lt
                        have hGl := HGB.out.lt
                        first
                          | exact ⟨w4.heap.size, rfl, rfl, Blk.new rfl, (HV.out.on HB4.out).alloc _, (HN.out.on HB4.out).alloc _, (HGB.out.on HB4.out).alloc _, (HM'.out.on HB4.out).al _, by have := HBW.out; have := m_below_on HBW.out HB4.out; have := (m_below_on HBW.out HB4.out).size; go_grown⟩
                          | (obtain ⟨hF, hFB⟩ := fill_mem HD4.out ⟨nd, lf, rd⟩ _ rfl
                             exact ⟨wr.heap.size, rfl, rfl, hF, (HV.out.on HB4.out).below hFB hVl, (HN.out.on HB4.out).below hFB hNlt, (HGB.out.on HB4.out).below hFB hGl, (HM'.out.on HB4.out).below hFB (fun b' _ _ _ hb' => by cases hb'; exact hgw), (m_below_on HBW.out HB4.out).trans (hFB.mono hwr2)⟩)
                    case rest =>
                      obtain ⟨D, rfl, rfl, hD, hv, hN, hG', hM', hBw⟩ := hcut
                      clear HV HN HGB HM' HBW y0 y1 y2 e0 e1 e2 e3 e4 e5 e6 e7 e8 e9 hNlt hwr2 HY n1 m1
                      have HPOST : Hid (∀ nq, ReadyLoop3 w V G N gg e (.slice a3 m c3) lv e' (.slice (some ⟨gb, goff, none⟩) m' c4) lv' l' (.int .i64 (j2 + 1)) (wc.drewN nq)) := Lib.hid (fun nq => ⟨j2 + 1, by omega, by go_num, hv, hN, hG', hM'.on ⟨rfl, rfl, rfl, Nat.le_refl _, fun _ _ => rfl⟩, m_below_on hBw ⟨rfl, rfl, rfl, Nat.le_refl _, fun _ _ => rfl⟩⟩)
                      have p0 := hD.cell 0
                      have p1 := hD.cell 1
                      have p2 := hD.cell 2
                      have e1 := hN.cell 1
                      obtain ⟨gb2, goff2, cg2, hsg2, _, hcells2⟩ := hM'.form (by omega)
                      simp only [Value.slice.injEq, Option.some.injEq, Addr.mk.injEq] at hsg2
                      obtain ⟨⟨rfl, rfl, hmx⟩, hml, rfl⟩ := hsg2
                      clear hmx hml
                      obtain ⟨y0, y1, y2⟩ := hcells2 j2 hjl
                      rw [HMB.out] at y0 y1 y2
                      simp at p0 p1 p2 e1
                      simp only at y0 y1 y2
                      clear hD hv hN hG' hM' hBw hcells2
                      go_wp2_with fail
                      go_quiet (fail)
                      go_wp2_with fail
                      go_roundw
                      case rel => exact HPOST.out _
                      case measure => simp [intOf]; omega
                  · obtain ⟨d0, d1, d2, d3, d4, d5, d6, d7, d8, d9⟩ := HV.out.ten
                    obtain ⟨e0, e1, e2, e3, e4, e5, e6, e7, e8, e9⟩ := HN.out.ten
                    have f0 := HV.out.frozen 0
                    have f1 := HV.out.frozen 1
                    have f2 := HV.out.frozen 2
                    have f3 := HV.out.frozen 3
                    have f4 := HV.out.frozen 4
                    have f5 := HV.out.frozen 5
                    have f6 := HV.out.frozen 6
                    have f7 := HV.out.frozen 7
                    have f8 := HV.out.frozen 8
                    have f9 := HV.out.frozen 9
                    have hGN := HGN.out gg HGG.out
                    have HGN2 := Lib.hid hGN
                    clear hGN
                    go_wp2_with fail
                    go_roundw
                    case rel =>
                      obtain ⟨hF, hFB, hFs, hFo⟩ := fill_view (n := m') (c := c4) HV.out e' a4 lv' _ rfl
                      refine ⟨k + 1, ⟨e', lv', l'⟩, a4, c4, gg, by go_num, by omega, by omega, HE'.out, HG'.out, HGN2.out, ?_, (hFo G (Ne.symm hVG)).trans HGB.out, ?_, HBW.out.trans (hFB.mono hV)⟩
                      · simp only; rw [← HMN'.out]; exact hF
                      · simp only; rw [← HMN'.out]; exact HM'.out.but HV.out (by omega) (fun k _ hk => hFo k hk)
                    case measure => simp [intOf]; omega
    · have hcase : (¬ k < len) ∨ (k < len ∧ ¬ k < 40) := by omega
      clear hlk HE HG HGO HV HGB HM HR
      rcases hcase with hc | ⟨hc, hc2⟩
      all_goals
        go_wp2
        go_ret
        exact ⟨rfl, HB3.out⟩
end Go.Proofs.Ytkgahhfemlebmaa
