/-
  The law BagPlays: the walk.
-/
import Derived.Test.YtlphlmpfjpombaaOnce
import Derived.Test.YtlphlmpfjpombaaBagT
import Derived.Deep.CutBlock
import Derived.Deep.LoopGhost
namespace Go.Proofs.Ytlphlmpfjpombaa
open Go.RowKit Go.Instr

/-- The bag and the reference's list beside it. -/
def PlaysAt (w : World) (B room : Nat) (l : List Msg) (s : Value) (wr : World) : Prop := BagAt wr w.heap.size B room l ∧ msgR.Own 33 wr w.heap.size s l ∧ l.length ≤ room ∧ (∀ m ∈ l, m.text.size ≤ 20) ∧ Below w.heap.size w wr
def PlaysLoop (w : World) (B room len g : Nat) (s i : Value) (wr : World) : Prop := ∃ (k : Nat) (l : List Msg), i = .int .i64 k ∧ k + g = len ∧ k ≤ 60 ∧ PlaysAt w B room l s wr
theorem PlaysAt.on {w wr w2 : World} {B room : Nat} {l : List Msg} {s : Value} (h : PlaysAt w B room l s wr) (hB : Below wr.heap.size wr w2) : PlaysAt w B room l s w2 :=
  ⟨h.1.on hB, h.2.1.on hB, h.2.2.1, h.2.2.2.1, m_below_on h.2.2.2.2 hB⟩
theorem below_al1' {w : World} {o : Obj} : Below w.heap.size w (w.alloc o) := (Below.refl _ w).alloc (Nat.le_refl _) o
theorem own_kept {w w' : World} {base : Nat} {s : Value} {l : List Msg} (h : msgR.Own 33 w base s l) (hk : Kept w w') : msgR.Own 33 w' base s l := by
  refine ⟨h.1, ?_⟩
  rcases h.2 with hn | ⟨g, cap, cur, rfl, hb, hg, rest⟩
  · exact .inl hn
  · exact .inr ⟨g, cap, cur, rfl, hb, (hk.2 g cur 33 (0, 0) hg (by decide) (by decide)).trans hg, rest⟩
theorem BagAt.grown {wa w' : World} {base B room n : Nat} {l : List Msg} {s : Value} {xs : List Value} (h : BagAt wa base B room l) (ho : wa.ownsRow base 33 3 s n xs) (hg : wa.grownBy w' s.ownBlock) : BagAt w' base B room l := by
  obtain ⟨v, h1, h2⟩ := h
  refine ⟨v, h1.grown hg (fun e => own_ne ho h1 (by decide) e.symm), h2.block fun g hgb => ?_⟩
  have hlt := World.ownsRow.lt h2 g hgb
  refine hg.block g hlt.2 (fun e => ?_)
  rcases h2.2 with ⟨hn, _⟩ | ⟨g', cap, cur, he, _, hh, _⟩
  · rw [hn] at hgb; cases hgb
  · rw [he] at hgb
    simp only [Value.ownBlock, Option.some.injEq] at hgb
    subst hgb
    exact own_ne ho hh (by decide) e.symm
/-- What stands behind the act: the answers agree. -/
def PlayMid (w : World) (B room : Nat) (s7 s12 s13 : Value) (wx : World) : Prop := ∃ (l : List Msg) (gb : Bool), s12 = .bool gb ∧ s13 = .bool gb ∧ PlaysAt w B room l s7 wx
/-- The loop over the places. -/
def PlayIn (w : World) (B room n : Nat) (l : List Msg) (s7 : Value) (g : Nat) (i : Value) (wx : World) : Prop := ((i = .int .i64 (-1) ∧ g = n + 2) ∨ ∃ j : Nat, i = .int .i64 j ∧ j + g = n + 1) ∧ PlaysAt w B room l s7 wx
theorem fine_erase {l : List Msg} (h : ∀ m ∈ l, m.text.size ≤ 20) (i : Nat) : ∀ m ∈ l.eraseIdx i, m.text.size ≤ 20 := fun m hm => h m (List.mem_of_mem_eraseIdx hm)
theorem fine_snoc {l : List Msg} {a : Msg} (h : ∀ m ∈ l, m.text.size ≤ 20) (ha : a.text.size ≤ 20) : ∀ m ∈ l ++ [a], m.text.size ≤ 20 := by
  intro m hm
  rcases List.mem_append.1 hm with h1 | h1
  · exact h m h1
  · rw [List.mem_singleton.1 h1]; exact ha
theorem fine_set {l : List Msg} {a : Msg} (h : ∀ m ∈ l, m.text.size ≤ 20) (ha : a.text.size ≤ 20) (i : Nat) : ∀ m ∈ l.set i a, m.text.size ≤ 20 := by
  intro m hm
  rcases List.mem_or_eq_of_mem_set hm with h1 | h1
  · exact h m h1
  · rw [h1]; exact ha
theorem refFirst_is (s : Value) (l : List Msg) (d : Nat) (r : Int) (w : World) (hl : l.length ≤ 200) (hs : msgR.At w s l) (hr : idxOf (isTo d) l = r) :
    Calls Try.prog 16 #[s, .int .u8 d] w fun e w' => e = .returned (.int .i64 r) ∧ Below w.heap.size w w' := by
  subst hr
  exact (refFirst_any s l d w hl hs).mono fun e w' ⟨h1, h2⟩ => ⟨h1, below_eq h2⟩
set_option maxHeartbeats 40000000 in
set_option maxRecDepth 100000 in
theorem plays_walk (rm : Int) (room : Nat) (l : List ActD) (a : Option Addr) (len cap : Nat) (w : World) (h1 : -9223372036854775808 ≤ rm) (h2 : rm ≤ 9223372036854775807) (hroom : (max 0 (min rm 200)).toNat = room) (hlen : len ≤ maxLen) (hl : l.length = len) (hf : ∀ x ∈ l, x.fine) (hA : 0 < len → actR.At w (.slice a len cap) l) :
    Calls Try.prog 3 #[.int .i64 rm, .slice a len cap] w fun e w' => e = .returned (.bool true) ∧ Below w.heap.size w w' := by
  unfold maxLen at hlen
  have HA := Lib.hid hA
  have HF := Lib.hid hf
  have HL := Lib.hid hl
  have hr200 : room ≤ 200 := by omega
  have HR := Lib.hid hroom
  have hsz : (if 200 < (if rm < 0 then (0 : Int) else rm) then (200 : Int) else if rm < 0 then 0 else rm) = room := by
    by_cases h : rm < 0
    · simp only [if_pos h]; simp; omega
    · simp only [if_neg h]
      by_cases h' : 200 < rm
      · rw [if_pos h']; omega
      · rw [if_neg h']; omega
  have HSZ := Lib.hid hsz
  clear hA hf hl hroom hsz
  go_enter Try.func3, Try.ntmps3
  go_upto_region 6 with (first
    | (go_at_call 8; (refine (speaks7 _).mono ?_); rintro en w1 ⟨rfl, hB1⟩; have HB1 := Lib.hid hB1; clear hB1)
    | (go_at_call 9; (refine (New_is rm room _ h1 h2 HR.out).mono ?_); rintro en w2 ⟨rfl, hA2, hB2⟩; have HA2 := Lib.hid hA2; have HB2 := Lib.hid (m_below_on HB1.out hB2); clear hA2 hB2))
  rw [HSZ.out]
  generalize (if rm < 0 then (0 : Int) else rm) = dead
  have hwB : w.heap.size ≤ w1.heap.size := HB1.out.size
  have HAT : Hid (PlaysAt w w1.heap.size room [] (.slice none 0 0) w2) := Lib.hid ⟨BagAt.mono HA2.out hwB, World.ownsRow_nil _ _ _ _, Nat.zero_le _, fun m hm => (by cases hm), HB2.out⟩
  clear HA2 HB2 HR h1 h2
  generalize w1.heap.size = B at *
  clear HB1
  go_wp2_with fail
  go_loopg [7, 8] len (fun g s i wr => PlaysLoop w B room len g s i wr)
  case atStart => exact ⟨0, [], rfl, Nat.zero_add _, by decide, HAT.out⟩
  case round => as_aux_lemma =>
    obtain ⟨k, lm, rfl, hk, hk60, hP⟩ := hrel
    clear HAT
    have HP := Lib.hid hP
    clear hP
    by_cases hlk : k < len ∧ k < 60
    · obtain ⟨hlk, hk6⟩ := hlk
      have hkl : k < l.length := by rw [HL.out]; exact hlk
      obtain ⟨b, off, cc, he, hbw, hcells⟩ := ((HA.out (by omega)).on HP.out.2.2.2.2).form (by omega)
      simp only [Value.slice.injEq] at he
      obtain ⟨rfl, hnn, rfl⟩ := he
      clear hnn
      have hfx := HF.out _ (List.getElem_mem hkl)
      have x0 := hcells k hkl 0 _ rfl
      have x1 := hcells k hkl 1 _ rfl
      have x2 := hcells k hkl 2 _ rfl
      have x3 := hcells k hkl 3 _ rfl
      have x4 := hcells k hkl 4 _ rfl
      have x5 := hcells k hkl 5 _ rfl
      obtain ⟨X, hX⟩ : ∃ X, l[k] = X := ⟨_, rfl⟩
      rw [hX] at hfx x0 x1 x2 x3 x4 x5
      clear hX hcells
      obtain ⟨xw, xi, xa, xd, xt, xb⟩ := X
      obtain ⟨⟨g1, g2⟩, ⟨g3, g4⟩, ⟨g5, g6⟩, g7, g8, g9⟩ := hfx
      simp only at g1 g2 g3 g4 g5 g6 g7 g8 g9
      unfold maxLen at g8
      replace x0 : wr.cell? ⟨b, off + k * 6, none⟩ = some (.int .i64 xw) := x0
      replace x1 : wr.cell? ⟨b, off + k * 6 + 1, none⟩ = some (.int .i64 xi) := x1
      replace x2 : wr.cell? ⟨b, off + k * 6 + 2, none⟩ = some (.int .i64 xa) := x2
      replace x3 : wr.cell? ⟨b, off + k * 6 + 3, none⟩ = some (.int .u8 xd) := x3
      replace x4 : wr.cell? ⟨b, off + k * 6 + 4, none⟩ = some (.string xt) := x4
      replace x5 : wr.cell? ⟨b, off + k * 6 + 5, none⟩ = some (.int .u32 xb) := x5
      go_upto_region 10 with fail
      go_cut [10] (fun s10 wx => ∃ t : ByteArray, s10 = .string t ∧ t.size ≤ 20 ∧ wr.alloc (.cells #[.int .i64 xw, .int .i64 xi, .int .i64 xa, .int .u8 xd, .string xt, .int .u32 xb] 29) = wx)
      case first => as_aux_lemma =>
        by_cases ht : xt.size ≤ 20
        · go_wp2_with fail
          go_meet
          exact ⟨xt, rfl, ht, rfl⟩
        · go_wp2_with fail
          go_meet
          exact ⟨_, rfl, by simp; omega, rfl⟩
      case rest => as_aux_lemma =>
        obtain ⟨t, rfl, ht, rfl⟩ := hcut
        have HD : Hid (Blk (wr.alloc (.cells #[.int .i64 xw, .int .i64 xi, .int .i64 xa, .int .u8 xd, .string xt, .int .u32 xb] 29)) wr.heap.size #[.int .i64 xw, .int .i64 xi, .int .i64 xa, .int .u8 xd, .string xt, .int .u32 xb] 29) := Lib.hid (Blk.new rfl)
        have HP2 := Lib.hid (HP.out.on (w2 := wr.alloc (.cells #[.int .i64 xw, .int .i64 xi, .int .i64 xa, .int .u8 xd, .string xt, .int .u32 xb] 29)) (by go_grown))
        clear HP x0 x1 x2 x3 x4 x5 g7 g8
        generalize wr.alloc (.cells #[.int .i64 xw, .int .i64 xi, .int .i64 xa, .int .u8 xd, .string xt, .int .u32 xb] 29) = wa at *
        generalize wr.heap.size = D at *
        have d0 : wa.cell? ⟨D, 0, none⟩ = some (.int .i64 xw) := HD.out.cell 0
        have d1 : wa.cell? ⟨D, 1, none⟩ = some (.int .i64 xi) := HD.out.cell 1
        have d2 : wa.cell? ⟨D, 2, none⟩ = some (.int .i64 xa) := HD.out.cell 2
        have d3 : wa.cell? ⟨D, 3, none⟩ = some (.int .u8 xd) := HD.out.cell 3
        have d5 : wa.cell? ⟨D, 5, none⟩ = some (.int .u32 xb) := HD.out.cell 5
        obtain ⟨am, cm, rfl⟩ := HP2.out.2.1.at.len
        obtain ⟨n, hn⟩ : ∃ n, lm.length = n := ⟨_, rfl⟩
        have HN := Lib.hid hn
        simp only [hn] at HP2 ⊢
        clear hn
        obtain ⟨th, hth⟩ : ∃ th : Bool, th = decide (0 ≤ xi ∧ xi < (n : Int)) := ⟨_, rfl⟩
        go_upto_region 11 with fail
        go_cut [11] (fun s11 wx => s11 = .bool th ∧ wa = wx)
        case first => as_aux_lemma =>
          by_cases h0 : 0 ≤ xi
          · by_cases h1 : xi < n
            · have : th = true := by rw [hth]; simp; omega
              subst this
              clear hth
              go_wp2_with fail
              go_meet
              exact ⟨rfl, rfl⟩
            · have : th = false := by rw [hth]; simp; omega
              subst this
              clear hth
              go_wp2_with fail
              go_meet
              exact ⟨rfl, rfl⟩
          · have : th = false := by rw [hth]; simp; omega
            subst this
            clear hth
            go_wp2_with fail
            go_meet
            exact ⟨rfl, rfl⟩
        case rest => as_aux_lemma =>
          obtain ⟨rfl, rfl⟩ := hcut
          obtain ⟨q6, r6, hq6, hq61, hq62, hr6, hrn6⟩ := rem_pos xw 6 (by decide)
          replace hq6 : xw.tmod 6 = q6 := hq6
          replace hq61 : -6 < q6 := hq61
          replace hq62 : q6 < 6 := hq62
          obtain ⟨v6, hv6⟩ : ∃ v, (q6 + 6) % 6 = v := ⟨_, rfl⟩
          have hr6' : v6 = 0 ∨ v6 = 1 ∨ v6 = 2 ∨ v6 = 3 ∨ v6 = 4 ∨ v6 = 5 := by omega
          clear hr6 hrn6
          have HR6 := Lib.hid hr6'
          have HTH := Lib.hid hth
          clear hr6' hth
          go_upto_block 2 with fail
          rw [hv6]
          go_cut [7, 12, 13] (fun s7 s12 s13 wx => PlayMid w B room s7 s12 s13 wx)
          case first =>
            have hnr : n ≤ room := by have := HP2.out.2.2.1; rw [HN.out] at this; exact this
            have hn200 : n ≤ 200 := by omega
            have HL200 : Hid (lm.length ≤ 200) := by rw [HN.out]; exact hn200
            rcases HR6.out with rfl | rfl | rfl | rfl | rfl | rfl
            -- 0, 1: Put
            · as_aux_lemma =>
              by_cases hfull : n < room
              · have hd : decide ((n : Int) < room) = true := by simp; omega
                go_upto_region 16 with (go_at_call 17; (refine (Put_yes w.heap.size B room xd lm t _ (by rw [HN.out]; exact hfull) hr200 HP2.out.1 hwB).mono ?_); rintro en w6 ⟨rfl, hA6, hB6, hK6⟩; have HA6 := Lib.hid hA6; have HB6 := Lib.hid (HP2.out.2.2.2.2.trans hB6); have HK6 := Lib.hid hK6; have d3 : w6.cell? ⟨D, 3, none⟩ = some (.int .u8 xd) := (hK6.blk HD.out (by decide) (by decide)).cell 3; clear hA6 hB6 hK6)
                have HO6 : Hid (w6.ownsRow w.heap.size 33 3 (.slice am n cm) n (msgR.row lm)) := Lib.hid (by have := own_kept HP2.out.2.1 HK6.out; unfold RK.Own at this; rw [HN.out] at this; exact this)
                have hw6 := HB6.out.size
                have hDw := (HK6.out.blk HD.out (by decide) (by decide)).lt
                obtain ⟨i0, hi0, hz0, hz1, hz2⟩ := infoP33
                have HI := Lib.hid (And.intro hi0 (And.intro hz0 (And.intro hz1 hz2)))
                have HOA := Lib.hid (World.ownsRow.alloc HO6.out (.cells #[.int .u8 xd, .string t, .bool false] 33))
                clear hi0 hz0 hz1 hz2
                go_wp2_with (at_builtin; refine wpList_append_own1 _ rfl _ _ 26 rfl w.heap.size 33 i0 _ 3 32 Try.underlying26 HI.out.1 HI.out.2.1 HI.out.2.2.1 HI.out.2.2.2 rfl (by decide) _ n _ rfl HOA.out ⟨w6.heap.size, 0, none⟩ 1 1 [.int .u8 xd, .string t, .bool false] rfl rfl ?qn (ones3 rfl rfl rfl) (by unfold maxLen; omega) (by omega) (by simp; omega) (by decide) ?_)
                case qn => exact news3 (by simp) (by simp) (by simp)
                intro g cap' w7 hg hown hgrow
                have HOW : Hid (msgR.Own 33 w7 w.heap.size (.slice (some ⟨g, 0, none⟩) (n + 1) cap') (lm ++ [⟨xd, t, false⟩])) := Lib.hid (by
                  unfold RK.Own
                  rw [List.length_append, RK.row_snoc, HN.out]
                  exact hown)
                have HA7 := Lib.hid ((HA6.out.on below_al1').grown HOA.out hgrow)
                have HB7 : Hid (Below w.heap.size w w7) := Lib.hid ((HB6.out.alloc hw6 _).grown hgrow (by simp; omega) (fun j hj => (World.ownsRow.lt HOA.out j hj).1))
                clear hown hgrow
                go_wp2_with fail
                go_meet
                exact ⟨_, true, rfl, rfl, HA7.out, HOW.out, by rw [List.length_append, HN.out]; exact hfull, fine_snoc HP2.out.2.2.2.1 ht, HB7.out⟩
              · have hd : decide ((n : Int) < room) = false := by simp; omega
                go_wp2_with (go_at_call 17; (refine (Put_no w.heap.size B room xd lm t _ (by rw [HN.out]; omega) HP2.out.1 hwB).mono ?_); rintro en w6 ⟨rfl, hA6, hB6, hK6⟩; have HA6 := Lib.hid hA6; have HB6 := Lib.hid (HP2.out.2.2.2.2.trans hB6); have HK6 := Lib.hid hK6; clear hA6 hB6 hK6)
                go_meet
                exact ⟨lm, false, rfl, rfl, HA6.out, own_kept HP2.out.2.1 HK6.out, HP2.out.2.2.1, HP2.out.2.2.2.1, HB6.out⟩
            · as_aux_lemma =>
              by_cases hfull : n < room
              · have hd : decide ((n : Int) < room) = true := by simp; omega
                go_upto_region 16 with (go_at_call 17; (refine (Put_yes w.heap.size B room xd lm t _ (by rw [HN.out]; exact hfull) hr200 HP2.out.1 hwB).mono ?_); rintro en w6 ⟨rfl, hA6, hB6, hK6⟩; have HA6 := Lib.hid hA6; have HB6 := Lib.hid (HP2.out.2.2.2.2.trans hB6); have HK6 := Lib.hid hK6; have d3 : w6.cell? ⟨D, 3, none⟩ = some (.int .u8 xd) := (hK6.blk HD.out (by decide) (by decide)).cell 3; clear hA6 hB6 hK6)
                have HO6 : Hid (w6.ownsRow w.heap.size 33 3 (.slice am n cm) n (msgR.row lm)) := Lib.hid (by have := own_kept HP2.out.2.1 HK6.out; unfold RK.Own at this; rw [HN.out] at this; exact this)
                have hw6 := HB6.out.size
                have hDw := (HK6.out.blk HD.out (by decide) (by decide)).lt
                obtain ⟨i0, hi0, hz0, hz1, hz2⟩ := infoP33
                have HI := Lib.hid (And.intro hi0 (And.intro hz0 (And.intro hz1 hz2)))
                have HOA := Lib.hid (World.ownsRow.alloc HO6.out (.cells #[.int .u8 xd, .string t, .bool false] 33))
                clear hi0 hz0 hz1 hz2
                go_wp2_with (at_builtin; refine wpList_append_own1 _ rfl _ _ 26 rfl w.heap.size 33 i0 _ 3 32 Try.underlying26 HI.out.1 HI.out.2.1 HI.out.2.2.1 HI.out.2.2.2 rfl (by decide) _ n _ rfl HOA.out ⟨w6.heap.size, 0, none⟩ 1 1 [.int .u8 xd, .string t, .bool false] rfl rfl ?qn (ones3 rfl rfl rfl) (by unfold maxLen; omega) (by omega) (by simp; omega) (by decide) ?_)
                case qn => exact news3 (by simp) (by simp) (by simp)
                intro g cap' w7 hg hown hgrow
                have HOW : Hid (msgR.Own 33 w7 w.heap.size (.slice (some ⟨g, 0, none⟩) (n + 1) cap') (lm ++ [⟨xd, t, false⟩])) := Lib.hid (by
                  unfold RK.Own
                  rw [List.length_append, RK.row_snoc, HN.out]
                  exact hown)
                have HA7 := Lib.hid ((HA6.out.on below_al1').grown HOA.out hgrow)
                have HB7 : Hid (Below w.heap.size w w7) := Lib.hid ((HB6.out.alloc hw6 _).grown hgrow (by simp; omega) (fun j hj => (World.ownsRow.lt HOA.out j hj).1))
                clear hown hgrow
                go_wp2_with fail
                go_meet
                exact ⟨_, true, rfl, rfl, HA7.out, HOW.out, by rw [List.length_append, HN.out]; exact hfull, fine_snoc HP2.out.2.2.2.1 ht, HB7.out⟩
              · have hd : decide ((n : Int) < room) = false := by simp; omega
                go_wp2_with (go_at_call 17; (refine (Put_no w.heap.size B room xd lm t _ (by rw [HN.out]; omega) HP2.out.1 hwB).mono ?_); rintro en w6 ⟨rfl, hA6, hB6, hK6⟩; have HA6 := Lib.hid hA6; have HB6 := Lib.hid (HP2.out.2.2.2.2.trans hB6); have HK6 := Lib.hid hK6; clear hA6 hB6 hK6)
                go_meet
                exact ⟨lm, false, rfl, rfl, HA6.out, own_kept HP2.out.2.1 HK6.out, HP2.out.2.2.1, HP2.out.2.2.2.1, HB6.out⟩
            -- 2: Take
            · as_aux_lemma =>
              cases th with
              | true =>
                have hh := of_decide_eq_true HTH.out.symm
                obtain ⟨r, rfl⟩ := Int.eq_ofNat_of_zero_le hh.1
                have hrn : r < n := by omega
                have HRL : Hid (r < lm.length) := by rw [HN.out]; exact hrn
                clear hh
                obtain ⟨m, hm⟩ : ∃ m, lm[r]'HRL.out = m := ⟨_, rfl⟩
                have HM := Lib.hid hm
                clear hm
                go_upto_region 19 with (go_at_call 10; (refine (Take_yes w.heap.size B room r lm m _ HL200.out HP2.out.1 hwB HRL.out HM.out).mono ?_); rintro en w6 ⟨rfl, hA6, hB6, hK6⟩; have HA6 := Lib.hid hA6; have HB6 := Lib.hid (HP2.out.2.2.2.2.trans hB6); have HK6 := Lib.hid hK6; clear hA6 hB6 hK6)
                have HD6 := Lib.hid (HK6.out.blk HD.out (by decide) (by decide))
                have HO6 := Lib.hid (own_kept HP2.out.2.1 HK6.out)
                obtain ⟨gm, cg, hsg, _, hgw, _, _, _, hgc⟩ := HO6.out.form (by rw [HN.out]; omega)
                simp only [Value.slice.injEq] at hsg
                obtain ⟨rfl, hnn, rfl⟩ := hsg
                clear hnn d0 d1 d2 d3 d5
                obtain ⟨y0, y1, y2⟩ := cells3 (o := r * 3) (fun j u hu => hgc r HRL.out j u hu)
                rw [HM.out] at y0 y1
                clear hgc y2
                have d1 : w6.cell? ⟨D, 1, none⟩ = some (.int .i64 r) := HD6.out.cell 1
                obtain ⟨md, mt, mb⟩ := m
                simp only at y0 y1
                have hrn' : (r : Int) < n := by omega
                go_wp2_with (go_at_call 11; (with_reducible refine (refTake_any _ lm r _ HL200.out HO6.out.at HRL.out).mono ?_); rintro en w7 ⟨v7, rfl, hO7, hB7⟩; have HO7 := Lib.hid hO7; have HB7 := Lib.hid hB7; clear hO7 hB7)
                go_meet
                exact ⟨_, true, rfl, rfl, HA6.out.on HB7.out, HO7.out.mono HB6.out.size, by rw [List.length_eraseIdx, if_pos HRL.out, HN.out]; omega, fine_erase HP2.out.2.2.2.1 r, m_below_on HB6.out HB7.out⟩
              | false =>
                have hh : ¬ (0 ≤ xi ∧ xi < (n : Int)) := of_decide_eq_false HTH.out.symm
                have HXI : Hid (xi < 0 ∨ (lm.length : Int) ≤ xi) := Lib.hid (by rw [HN.out]; omega)
                clear hh
                go_wp2_with (go_at_call 10; (refine (Take_no w.heap.size B room xi lm _ HP2.out.1 hwB g3 g4 HXI.out).mono ?_); rintro en w6 ⟨rfl, hA6, hB6, hK6⟩; have HA6 := Lib.hid hA6; have HB6 := Lib.hid (HP2.out.2.2.2.2.trans hB6); have HK6 := Lib.hid hK6; clear hA6 hB6 hK6)
                go_meet
                exact ⟨lm, false, rfl, rfl, HA6.out, own_kept HP2.out.2.1 HK6.out, HP2.out.2.2.1, HP2.out.2.2.2.1, HB6.out⟩
            -- 3: Again
            · as_aux_lemma =>
              cases th with
              | true =>
                have hh := of_decide_eq_true HTH.out.symm
                obtain ⟨r, rfl⟩ := Int.eq_ofNat_of_zero_le hh.1
                have hrn : r < n := by omega
                have HRL : Hid (r < lm.length) := by rw [HN.out]; exact hrn
                have hrn' : (r : Int) < n := by omega
                clear hh
                obtain ⟨m, hm⟩ : ∃ m, lm[r]'HRL.out = m := ⟨_, rfl⟩
                have HM := Lib.hid hm
                clear hm
                by_cases hfull : n < room
                · have hd : decide ((n : Int) < room) = true := by simp; omega
                  go_upto_region 27 with (go_at_call 12; (refine (Again_yes w.heap.size B room r lm m _ HP2.out.1 hwB HRL.out HM.out hr200 (by rw [HN.out]; exact hfull)).mono ?_); rintro en w6 ⟨rfl, hA6, hB6, hK6⟩; have HA6 := Lib.hid hA6; have HB6 := Lib.hid (HP2.out.2.2.2.2.trans hB6); have HK6 := Lib.hid hK6; clear hA6 hB6 hK6)
                  have d1 : w6.cell? ⟨D, 1, none⟩ = some (.int .i64 r) := (HK6.out.blk HD.out (by decide) (by decide)).cell 1
                  have hO6 := own_kept HP2.out.2.1 HK6.out
                  obtain ⟨gm, cg, hsg, _, hgw, _, _, _, hgc⟩ := hO6.form (by rw [HN.out]; omega)
                  simp only [Value.slice.injEq] at hsg
                  obtain ⟨rfl, hnn, rfl⟩ := hsg
                  clear hnn
                  obtain ⟨y0, y1, y2⟩ := cells3 (o := r * 3) (fun j u hu => hgc r HRL.out j u hu)
                  rw [HM.out] at y0 y1 y2
                  have HO6 : Hid (w6.ownsRow w.heap.size 33 3 (.slice (some ⟨gm, 0, none⟩) n cm) n (msgR.row lm)) := Lib.hid (by have := hO6; unfold RK.Own at this; rw [HN.out] at this; exact this)
                  have hmf := HP2.out.2.2.2.1 _ (List.getElem_mem HRL.out)
                  rw [HM.out] at hmf
                  have HMF := Lib.hid hmf
                  obtain ⟨md, mt, mb⟩ := m
                  simp only at y0 y1 y2
                  have hw6 := HB6.out.size
                  obtain ⟨i0, hi0, hz0, hz1, hz2⟩ := infoP33
                  have HI := Lib.hid (And.intro hi0 (And.intro hz0 (And.intro hz1 hz2)))
                  have HOA := Lib.hid (World.ownsRow.alloc HO6.out (.cells #[.int .u8 md, .string mt, .bool mb] 33))
                  clear hi0 hz0 hz1 hz2 hgc hO6 hmf d0 d2 d3 d5
                  go_wp2_with (at_builtin; refine wpList_append_own1 _ rfl _ _ 26 rfl w.heap.size 33 i0 _ 3 32 Try.underlying26 HI.out.1 HI.out.2.1 HI.out.2.2.1 HI.out.2.2.2 rfl (by decide) _ n _ rfl HOA.out ⟨w6.heap.size, 0, none⟩ 1 1 [.int .u8 md, .string mt, .bool mb] rfl rfl ?qn (ones3 rfl rfl rfl) (by unfold maxLen; omega) (by omega) (by simp; omega) (by decide) ?_)
                  intro g cap' w7 hg hown hgrow
                  have HOW : Hid (msgR.Own 33 w7 w.heap.size (.slice (some ⟨g, 0, none⟩) (n + 1) cap') (lm ++ [⟨md, mt, mb⟩])) := Lib.hid (by
                    unfold RK.Own
                    rw [List.length_append, RK.row_snoc, HN.out]
                    exact hown)
                  have HA7 := Lib.hid ((HA6.out.on below_al1').grown HOA.out hgrow)
                  have HB7 : Hid (Below w.heap.size w w7) := Lib.hid ((HB6.out.alloc hw6 _).grown hgrow (by simp; omega) (fun j hj => (World.ownsRow.lt HOA.out j hj).1))
                  clear hown hgrow
                  go_wp2_with fail
                  go_meet
                  exact ⟨_, true, rfl, rfl, HA7.out, HOW.out, by rw [List.length_append, HN.out]; exact hfull, fine_snoc HP2.out.2.2.2.1 HMF.out, HB7.out⟩
                · have hd : decide ((n : Int) < room) = false := by simp; omega
                  go_wp2_with (go_at_call 12; (refine (Again_full w.heap.size B room r lm m _ HP2.out.1 hwB HRL.out HM.out (by rw [HN.out]; omega)).mono ?_); rintro en w6 ⟨rfl, hA6, hB6, hK6⟩; have HA6 := Lib.hid hA6; have HB6 := Lib.hid (HP2.out.2.2.2.2.trans hB6); have HK6 := Lib.hid hK6; clear hA6 hB6 hK6)
                  go_meet
                  exact ⟨lm, false, rfl, rfl, HA6.out, own_kept HP2.out.2.1 HK6.out, HP2.out.2.2.1, HP2.out.2.2.2.1, HB6.out⟩
              | false =>
                have hh : ¬ (0 ≤ xi ∧ xi < (n : Int)) := of_decide_eq_false HTH.out.symm
                have HXI : Hid (xi < 0 ∨ (lm.length : Int) ≤ xi) := Lib.hid (by rw [HN.out]; omega)
                clear hh
                go_wp2_with (go_at_call 12; (refine (Again_no w.heap.size B room xi lm _ HP2.out.1 hwB g3 g4 HXI.out).mono ?_); rintro en w6 ⟨rfl, hA6, hB6, hK6⟩; have HA6 := Lib.hid hA6; have HB6 := Lib.hid (HP2.out.2.2.2.2.trans hB6); have HK6 := Lib.hid hK6; clear hA6 hB6 hK6)
                go_meet
                exact ⟨lm, false, rfl, rfl, HA6.out, own_kept HP2.out.2.1 HK6.out, HP2.out.2.2.1, HP2.out.2.2.2.1, HB6.out⟩
            -- 4: Spoil
            · as_aux_lemma =>
              cases th with
              | true =>
                have hh := of_decide_eq_true HTH.out.symm
                obtain ⟨r, rfl⟩ := Int.eq_ofNat_of_zero_le hh.1
                have hrn : r < n := by omega
                have HRL : Hid (r < lm.length) := by rw [HN.out]; exact hrn
                have hrn' : (r : Int) < n := by omega
                clear hh
                obtain ⟨m, hm⟩ : ∃ m, lm[r]'HRL.out = m := ⟨_, rfl⟩
                have HM := Lib.hid hm
                clear hm
                have hmf := HP2.out.2.2.2.1 _ (List.getElem_mem HRL.out)
                rw [HM.out] at hmf
                have HMF := Lib.hid hmf
                clear hmf
                obtain ⟨bad, hbad⟩ : ∃ bad, m.bad = bad := ⟨_, rfl⟩
                have HBAD := Lib.hid hbad
                clear hbad
                cases bad with
                | true =>
                  have HBL : Hid ((lm[r]'HRL.out).bad = true) := Lib.hid (by rw [HM.out]; exact HBAD.out)
                  go_upto_region 30 with (go_at_call 13; (refine (Spoil_bad w.heap.size B room r xa xb lm _ HP2.out.1 hwB HRL.out HBL.out).mono ?_); rintro en w6 ⟨rfl, hA6, hB6, hK6⟩; have HA6 := Lib.hid hA6; have HB6 := Lib.hid (HP2.out.2.2.2.2.trans hB6); have HK6 := Lib.hid hK6; have e1 : w6.cell? ⟨D, 1, none⟩ = some (.int .i64 r) := (hK6.blk HD.out (by decide) (by decide)).cell 1; have e2 : w6.cell? ⟨D, 2, none⟩ = some (.int .i64 xa) := (hK6.blk HD.out (by decide) (by decide)).cell 2; have e5 : w6.cell? ⟨D, 5, none⟩ = some (.int .u32 xb) := (hK6.blk HD.out (by decide) (by decide)).cell 5; clear hA6 hB6 hK6)
                  have HO6 := Lib.hid (own_kept HP2.out.2.1 HK6.out)
                  go_wp2_with (go_at_call 14; (with_reducible refine (refSpoil_bad _ lm r xa xb _ HO6.out.at HRL.out HBL.out).mono ?_); rintro en w7 ⟨rfl, rfl⟩)
                  go_meet
                  exact ⟨lm, false, rfl, rfl, HA6.out, HO6.out, HP2.out.2.2.1, HP2.out.2.2.2.1, HB6.out⟩
                | false =>
                  go_upto_region 30 with (go_at_call 13; (refine (Spoil_yes w.heap.size B room r xa xb lm m _ HP2.out.1 hwB HRL.out HM.out HBAD.out g5 g6 g9 (Nat.le_trans HMF.out (by decide))).mono ?_); rintro en w6 ⟨rfl, hA6, hB6, hK6⟩; have HA6 := Lib.hid hA6; have HB6 := Lib.hid (HP2.out.2.2.2.2.trans hB6); have HK6 := Lib.hid hK6; have e1 : w6.cell? ⟨D, 1, none⟩ = some (.int .i64 r) := (hK6.blk HD.out (by decide) (by decide)).cell 1; have e2 : w6.cell? ⟨D, 2, none⟩ = some (.int .i64 xa) := (hK6.blk HD.out (by decide) (by decide)).cell 2; have e5 : w6.cell? ⟨D, 5, none⟩ = some (.int .u32 xb) := (hK6.blk HD.out (by decide) (by decide)).cell 5; clear hA6 hB6 hK6)
                  have HO6 := Lib.hid (own_kept HP2.out.2.1 HK6.out)
                  go_wp2_with (go_at_call 14; (with_reducible refine (refSpoil_yes _ lm m r xa xb _ HL200.out HO6.out.at HRL.out HM.out HBAD.out g5 g6 g9 (Nat.le_trans HMF.out (by decide))).mono ?_); rintro en w7 ⟨v7, rfl, hO7, hB7⟩; have HO7 := Lib.hid hO7; have HB7 := Lib.hid hB7; clear hO7 hB7)
                  go_meet
                  exact ⟨_, true, rfl, rfl, HA6.out.on HB7.out, HO7.out.mono HB6.out.size, by rw [List.length_set, HN.out]; exact hnr, fine_set HP2.out.2.2.2.1 (by simp only; rw [turnB_size]; exact HMF.out) r, m_below_on HB6.out HB7.out⟩
              | false =>
                have hh : ¬ (0 ≤ xi ∧ xi < (n : Int)) := of_decide_eq_false HTH.out.symm
                have HXI : Hid (xi < 0 ∨ (lm.length : Int) ≤ xi) := Lib.hid (by rw [HN.out]; omega)
                have HXN : Hid (xi < 0 ∨ (n : Int) ≤ xi) := Lib.hid (by omega)
                clear hh
                go_upto_region 30 with (go_at_call 13; (refine (Spoil_no w.heap.size B room xi xa xb lm _ HP2.out.1 hwB g3 g4 HXI.out).mono ?_); rintro en w6 ⟨rfl, hA6, hB6, hK6⟩; have HA6 := Lib.hid hA6; have HB6 := Lib.hid (HP2.out.2.2.2.2.trans hB6); have HK6 := Lib.hid hK6; have e1 : w6.cell? ⟨D, 1, none⟩ = some (.int .i64 xi) := (hK6.blk HD.out (by decide) (by decide)).cell 1; have e2 : w6.cell? ⟨D, 2, none⟩ = some (.int .i64 xa) := (hK6.blk HD.out (by decide) (by decide)).cell 2; have e5 : w6.cell? ⟨D, 5, none⟩ = some (.int .u32 xb) := (hK6.blk HD.out (by decide) (by decide)).cell 5; clear hA6 hB6 hK6)
                have HO6 := Lib.hid (own_kept HP2.out.2.1 HK6.out)
                go_wp2_with (go_at_call 14; (with_reducible refine (refSpoil_out _ n _ xi xa xb _ HXN.out).mono ?_); rintro en w7 ⟨rfl, rfl⟩)
                go_meet
                exact ⟨lm, false, rfl, rfl, HA6.out, HO6.out, HP2.out.2.2.1, HP2.out.2.2.2.1, HB6.out⟩
            -- 5: First
            · as_aux_lemma =>
              obtain ⟨r, hr⟩ : ∃ r, idxOf (isTo xd) lm = r := ⟨_, rfl⟩
              have HR := Lib.hid hr
              clear hr
              go_upto_region 32 with fail
              have e3 := onto_cell d3
              refine wp_region_onto (by kernel_rfl) (by kernel_rfl) ?_
              repeat (go_big_quiet_step (first | (go_at_call 15; exact onto_calls (First_is w.heap.size B room xd r lm _ HL200.out (HP2.out.1.on (onto_below _ _)) HR.out)) | (go_at_call 16; exact onto_calls (refFirst_is _ lm xd r _ HL200.out (HP2.out.2.1.at.on (onto_below _ _)) HR.out))))
              refine wpQuiet_nil ?_
              intro _ hw'
              obtain ⟨z, hw''⟩ := hw'
              subst hw''
              go_wp2_with fail
              go_meet
              have hon := HP2.out.on (onto_below wa z)
              exact ⟨lm, true, by simp, rfl, hon⟩
          case rest => as_aux_lemma =>
            obtain ⟨l2, gb, rfl, rfl, hP3⟩ := hcut
            have HP3 := Lib.hid hP3
            clear hP3 HP2 HR6 HD HTH d0 d1 d2 d3 d5 HN
            obtain ⟨a7, c7, rfl⟩ := HP3.out.2.1.at.len
            obtain ⟨n2, hn2⟩ : ∃ n, l2.length = n := ⟨_, rfl⟩
            have HN2 := Lib.hid hn2
            simp only [hn2] at HP3 ⊢
            clear hn2
            have hn200 : n2 ≤ 200 := by have := HP3.out.2.2.1; rw [HN2.out] at this; omega
            go_upto_region 36 with (go_at_call 18; (refine (Len_is w.heap.size B room n2 l2 _ HP3.out.1 HN2.out).mono ?_); rintro en w8 ⟨rfl, h8⟩; have HP8 := HP3; rw [h8] at HP8; clear h8 HP3)
            have HIN : Hid (PlayIn w B room n2 l2 (.slice a7 n2 c7) (n2 + 2) (.int .i64 (-1)) w8) := Lib.hid ⟨.inl ⟨rfl, rfl⟩, HP8.out⟩
            clear HP8
            obtain ⟨wo2, hwo⟩ : ∃ wo : World, wo = w8 := ⟨_, rfl⟩
            rw [← hwo] at HIN ⊢
            clear hwo
            go_wp2_with fail
            go_loopg [17] (n2 + 2) (fun g i wy => PlayIn w B room n2 l2 (.slice a7 n2 c7) g i wy)
            case atStart => exact HIN.out
            case round => as_aux_lemma =>
              obtain ⟨hi, hP4⟩ := hrel
              clear HIN
              have HP4 := Lib.hid hP4
              clear hP4
              rcases hi with ⟨rfl, hg⟩ | ⟨j, rfl, hg⟩
              · have q1 : decide ((-1 : Int) ≤ (n2 : Int)) = true := decide_eq_true (by omega)
                go_wp2_with (go_at_call 19; (refine (At_no w.heap.size B room (-1) l2 _ HP4.out.1 (by decide) (by decide) (.inl (by decide))).mono ?_); rintro en w9 ⟨rfl, hB⟩; have HB9 := Lib.hid hB; clear hB)
                go_roundg (n2 + 1)
                case measure => omega
                case rel => exact ⟨.inr ⟨0, by go_num, by omega⟩, HP4.out.on HB9.out⟩
              · by_cases hj2 : j < n2
                · have q1 : decide ((j : Int) ≤ (n2 : Int)) = true := by simp; omega
                  have q2 : decide ((j : Int) < (n2 : Int)) = true := by simp; omega
                  have HJL : Hid (j < l2.length) := by rw [HN2.out]; exact hj2
                  obtain ⟨m, hm⟩ : ∃ m, l2[j]'HJL.out = m := ⟨_, rfl⟩
                  have HM := Lib.hid hm
                  clear hm
                  obtain ⟨md, mt, mb⟩ := m
                  go_upto_region 39 with (go_at_call 19; (refine (At_yes w.heap.size B room j l2 ⟨md, mt, mb⟩ _ HP4.out.1 HJL.out HM.out).mono ?_); rintro en w9 ⟨rfl, hB⟩; have HB9 := Lib.hid hB; clear hB)
                  have HP9 := Lib.hid (HP4.out.on HB9.out)
                  clear HB9 HP4
                  obtain ⟨gm, cg, hsg, _, hgw, _, _, _, hgc⟩ := HP9.out.2.1.form (by rw [HN2.out]; omega)
                  simp only [Value.slice.injEq] at hsg
                  obtain ⟨rfl, hnn, rfl⟩ := hsg
                  clear hnn
                  obtain ⟨y0, y1, y2⟩ := cells3 (o := j * 3) (fun j' u hu => hgc j HJL.out j' u hu)
                  rw [HM.out] at y0 y1
                  clear hgc y2
                  simp only at y0 y1
                  go_wp2_with fail
                  go_roundg (n2 - j)
                  case measure => omega
                  case rel => exact ⟨.inr ⟨j + 1, by go_num, by omega⟩, HP9.out⟩
                · by_cases hj3 : j = n2
                  · subst hj3
                    go_wp2_with (go_at_call 19; (refine (At_no w.heap.size B room j l2 _ HP4.out.1 (by omega) (by omega) (.inr (by rw [HN2.out]; exact Int.le_refl _))).mono ?_); rintro en w9 ⟨rfl, hB⟩; have HB9 := Lib.hid hB; clear hB)
                    go_roundg 0
                    case measure => omega
                    case rel => exact ⟨.inr ⟨j + 1, by go_num, by omega⟩, HP4.out.on HB9.out⟩
                  · have q1 : decide ((j : Int) ≤ (n2 : Int)) = false := by simp; omega
                    go_wp2_with fail
                    go_roundg (len - (k + 1))
                    case measure => omega
                    case rel => exact ⟨k + 1, l2, by go_num, by omega, by omega, HP4.out⟩
    · have hcase : (¬ k < len) ∨ (k < len ∧ ¬ k < 60) := by omega
      rcases hcase with hc | ⟨hc, hc2⟩
      all_goals as_aux_lemma =>
        go_wp2_with (first
          | (go_at_call 19; (refine (At_nil 0 _).mono ?_); rintro en w3 ⟨rfl, hB⟩; have HB3 := Lib.hid (m_below_on HP.out.2.2.2.2 hB); clear hB)
          | (go_at_call 10; (refine (Take_nil 0 _).mono ?_); rintro en w4 ⟨rfl, hB⟩; have HB4 := Lib.hid (m_below_on HB3.out hB); clear hB)
          | (go_at_call 17; (refine (Put_nil 1 _ _).mono ?_); rintro en w5 ⟨rfl, hB⟩; have HB5 := Lib.hid (m_below_on HB4.out hB); clear hB)
          | (go_at_call 18; (refine (Len_nil _).mono ?_); rintro en w6 ⟨rfl, rfl⟩)
          | (go_at_call 12; (refine (Again_nil 0 _).mono ?_); rintro en w7 ⟨rfl, hB⟩; have HB7 := Lib.hid (m_below_on HB5.out hB); clear hB)
          | (go_at_call 13; (refine (Spoil_nil 0 0 1 _).mono ?_); rintro en w8 ⟨rfl, hB⟩; have HB8 := Lib.hid (m_below_on HB7.out hB); clear hB)
          | (go_at_call 15; (refine (First_nil 1 _).mono ?_); rintro en w9 ⟨rfl, hB⟩; have HB9 := Lib.hid (m_below_on HB8.out hB); clear hB))
        go_ret
        exact ⟨rfl, HB9.out⟩
end Go.Proofs.Ytlphlmpfjpombaa
