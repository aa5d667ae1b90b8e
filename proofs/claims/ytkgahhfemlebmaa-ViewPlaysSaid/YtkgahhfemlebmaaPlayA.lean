/-
  The law ViewPlays: the walk.
-/
import Derived.Test.YtkgahhfemlebmaaPlayM
import Derived.StillTailTactics
namespace Go.Proofs.Ytkgahhfemlebmaa
open Go.RowKit Go.Instr
set_option maxRecDepth 20000 in
set_option maxHeartbeats 4000000 in
theorem play_walk (n : Int) (e0 : Nat) (a : Option Addr) (len cap : Nat) (z : Nat → Cmd) (w : World) (he0 : e0 < 4294967296) (hlen : len ≤ maxLen) (hrow : RowC w a len z) :
    Calls Try.prog 3 #[.int .i64 n, .int .u32 e0, .slice a len cap] w fun e w' => e = .returned (.bool true) ∧ Below w.heap.size w w' := by
  unfold maxLen at hlen
  have HR := Lib.hid hrow
  clear hrow
  go_enter Try.func3, Try.ntmps3
  go_wp2_with fail
  refine (speaks_any _).mono ?_
  rintro en w1 ⟨rfl, hB⟩
  have HB := Lib.hid hB
  clear hB
  by_cases hn : n < 1 ∨ 8 < n
  · go_wp2_with (refine (first_no n w1 hn).mono ?_; rintro en w2 ⟨s2, rfl, hM, hB⟩; obtain ⟨a2, c2, hs2⟩ := hM.len; subst hs2; have HM2 := Lib.hid hM; have HB2 : Hid (Below w.heap.size w w2) := Lib.hid (m_below_on HB.out hB); clear hM hB; rcases hn with hn | hn)
    all_goals
      go_ret
      exact ⟨rfl, HB2.out.alloc HB2.out.size _⟩
  · obtain ⟨m, rfl⟩ := Int.eq_ofNat_of_zero_le (show 0 ≤ n by omega)
    obtain ⟨h1, h8⟩ : 1 ≤ m ∧ m ≤ 8 := by omega
    have HN := Lib.hid (And.intro h1 h8)
    have h1' : ¬ (m : Int) < 1 := by omega
    have h8' : ¬ (8 : Int) < m := by omega
    clear hn
    obtain ⟨i0, hi0, hz0, hz1, hz2⟩ := infoP36
    have HI := Lib.hid (And.intro hi0 (And.intro hz0 (And.intro hz1 hz2)))
    clear hi0 hz0 hz1 hz2
    obtain ⟨v0, hv0⟩ : ∃ v, firstV m = v := ⟨_, rfl⟩
    have hfir := first_is m _ w1 h1 h8 hv0
    have HF := Lib.hid hfir
    have HG := Lib.hid (good_first h1 h8)
    rw [hv0] at HG
    have HV0 : Hid (v0 = ⟨1, livesN m, firstN m⟩) := Lib.hid hv0.symm
    clear hfir hv0
    obtain ⟨e, lv, l⟩ := v0
    go_wp2_with (refine HF.out.mono ?_; rintro en w2 ⟨s2, rfl, hM, hB⟩; obtain ⟨a2, c2, hs2⟩ := hM.len; subst hs2; have HM2 := Lib.hid hM; have HB2 : Hid (Below w.heap.size w w2) := Lib.hid (m_below_on HB.out hB); clear hM hB)
    have hV : w.heap.size ≤ w2.heap.size := HB2.out.size
    try simp only at HM2
    obtain ⟨w3, hw3⟩ : ∃ w3, w3 = (w2.alloc (.cells (vC e (.slice a2 l.length c2) lv) 28)).alloc (.cells (vC 1 (.slice none 0 0) (livesN 0)) 34) := ⟨_, rfl⟩
    have HV3 : Hid (Blk w3 w2.heap.size (vC e (.slice a2 l.length c2) lv) 28) := Lib.hid (by rw [hw3]; exact (Blk.new rfl).alloc _)
    have HP3 : Hid (Blk w3 (w2.heap.size + 1) (vC 1 (.slice none 0 0) (livesN 0)) 34) := Lib.hid (by rw [hw3]; exact Blk.new (by simp))
    have HS3 : Hid (MemsAt w3 (.slice a2 l.length c2) l) := Lib.hid (by rw [hw3]; exact (HM2.out.al _).al _)
    have HB3 : Hid (Below w.heap.size w w3) := Lib.hid (by rw [hw3]; have := HB2.out; go_grown)
    have hsz3 : w3.heap.size = w2.heap.size + 1 + 1 := by rw [hw3]; simp
    have HST : Hid (PlayL1 w3 (w2.heap.size + 1) m (.int .i64 0) w3) := Lib.hid ⟨0, .slice none 0 0, Nat.zero_le _, rfl, HP3.out, World.ownsRow_nil _ _ _ _, .of_below (Below.refl _ _)⟩
    obtain ⟨M, hME⟩ : ∃ M, M = w2.heap.size + 1 := ⟨_, rfl⟩
    obtain ⟨V, hVE⟩ : ∃ V, V = w2.heap.size := ⟨_, rfl⟩
    rw [← hME] at HST HP3 hsz3
    rw [← hVE] at HV3 hV
    have hVM : V ≠ M := by omega
    have HNM : Hid (w.heap.size ≤ V ∧ w.heap.size ≤ M ∧ V < w3.heap.size ∧ M < w3.heap.size) := Lib.hid (by omega)
    simp only [← hME]
    simp only [← hVE]
    clear hME hVE HF hsz3
    go_loopw [10] (fun i wr => PlayL1 w3 M m i wr) (fun i _ => m - (intOf i).toNat)
    case atStart =>
      have := HST.out
      rw [hw3] at this ⊢
      exact this
    case round =>
      clear hw3
      obtain ⟨k, s, hk, rfl, hm, ho, hb⟩ := hrel
      obtain ⟨a', c', hs'⟩ := (mems_own ho (firstN_len k)).len
      rw [firstN_len] at hs'
      subst hs'
      have HM := Lib.hid hm
      have HO := Lib.hid ho
      have HK := Lib.hid hb
      have hMw : M < wr.heap.size := HM.out.lt
      clear hm ho hb HST
      by_cases hlt : k < m
      · have d1 := HM.out.cell 1
        simp at d1
        have hne : M ≠ wr.heap.size := by omega
        have HOA := Lib.hid (own_below HO.out (show Below wr.heap.size wr (wr.alloc (.cells #[.int .u8 (k + 1), .int .u8 1, .bool true] 36)) by go_grown))
        go_wp2_with (at_builtin; go_loud (refine wpList_append_own1 _ rfl _ _ 32 rfl w3.heap.size 36 i0 _ 3 3 Try.underlying32 HI.out.1 HI.out.2.1 HI.out.2.2.1 HI.out.2.2.2 rfl (by decide) (.slice a' k c') k (mRow (firstN k)) rfl HOA.out ⟨wr.heap.size, 0, none⟩ 1 1 [.int .u8 (k + 1), .int .u8 1, .bool true] rfl rfl ?qn (oneCells3 _ _ _ rfl rfl rfl) (by unfold maxLen; omega) (by omega) (by have := HK.out.1.size; simp; omega) (by decide) ?_))
        case qn => exact news36 (by simp) (by simp) (by simp)
        intro g cap2 w4 hg hown hgrow
        have HO4 : Hid (w4.ownsRow w3.heap.size 36 3 (.slice (some ⟨g, 0, none⟩) (k + 1) cap2) (k + 1) (mRow (firstN (k + 1)))) := Lib.hid (by rw [mRow_firstN]; exact hown)
        have HM4 := Lib.hid ((HM.out.alloc (.cells #[.int .u8 (k + 1), .int .u8 1, .bool true] 36)).grown hgrow (own36_ne HO.out HM.out (by decide)))
        have HK4 : Hid (KB w3.heap.size M w3 w4) := Lib.hid (HK.out.trans (KB.of_below ((show Below w3.heap.size wr (wr.alloc (.cells #[.int .u8 (k + 1), .int .u8 1, .bool true] 36)) from (Below.refl _ _).alloc HK.out.1.size _).grown hgrow (by have := HK.out.1.size; simp; omega) (fun j hj => (HO.out.lt j hj).1))))
        clear hown hgrow d1 hne
        have d1 := HM4.out.cell 1
        have f1 := HM4.out.frozen 1
        have fk := HM4.out.frozen (2 + k)
        have dk := HM4.out.cell (2 + k)
        rw [vC_get _ _ _ (by omega)] at dk
        simp at d1
        go_wp2
        go_roundw
        case rel => exact ⟨k + 1, .slice (some ⟨g, 0, none⟩) (k + 1) cap2, by omega, by go_num, Blk.set (Blk.set HM4.out 1 _ (vC 1 (.slice (some ⟨g, 0, none⟩) (k + 1) cap2) (livesN k)) rfl) (2 + k) _ _ (vC_set _ _ _ 1 (by omega)), own36_set (own36_set HO4.out HM4.out (by decide)) (Blk.set HM4.out 1 _ (vC 1 (.slice (some ⟨g, 0, none⟩) (k + 1) cap2) (livesN k)) rfl) (by decide), HK4.out.set.set⟩
        case measure => simp [intOf]; omega
      · obtain rfl : k = m := by omega
        have hv0 := HV0.out
        simp only [Vw.mk.injEq] at hv0
        obtain ⟨he1, hlv1, hl1⟩ := hv0
        have HTW : Hid (Two w V M e (.slice a2 l.length c2) (.slice a' l.length c') lv l wr) := Lib.hid ⟨HV3.out.on2 HK.out HNM.out.2.2.1 hVM, by rw [he1, hlv1, hl1, firstN_len]; exact HM.out, HS3.out.but34 HP3.out HK.out.1.size (fun j hj hne => HK.out.2 j hj hne), by rw [hl1, firstN_len]; exact mems_own HO.out (firstN_len k), HB3.out.trans (HK.out.below HNM.out.2.1 (by have := HB3.out.size; omega))⟩
        have hkl : k = l.length := by rw [hl1, firstN_len]
        rw [hkl]
        have hl40 : l.length ≤ 40 := by have := HG.out.len; simp only at this; omega
        clear he1 hlv1 hl1 HM HO HK HV0 HS3 HV3 HP3 HB3 hkl HI HM2 HB2 hV
        obtain ⟨d0, d1, d2, d3, d4, d5, d6, d7, d8, d9⟩ := HTW.out.a.ten
        obtain ⟨e0', e1, e2, e3, e4, e5, e6, e7, e8, e9⟩ := HTW.out.tenb
        go_wp2_with ((go_at_call 8; with_reducible refine (same_yes e _ _ lv l wr hl40 HTW.out.s HTW.out.t).mono ?_); rintro en w5 ⟨rfl, hB5⟩; have HT5 := Lib.hid (HTW.out.on hB5); have d0 := HT5.out.a.cell 0; have e0' := HT5.out.b.cell 0; have fd := HT5.out.a.frozen 0; have fe := HT5.out.b.frozen 0; simp at d0 e0'; clear hB5 d1 d2 d3 d4 d5 d6 d7 d8 d9 e1 e2 e3 e4 e5 e6 e7 e8 e9 HTW)
        have HT6 := Lib.hid (Two.epoch (e0 := e0) HT5.out hVM HNM.out.1 HNM.out.2.1)
        have HST2 : Hid (PlayL2 w V M len (.int .i64 0) ((w5.setCell ⟨V, 0, none⟩ (.int .u32 e0)).setCell ⟨M, 0, none⟩ (.int .u32 e0))) := Lib.hid ⟨0, ⟨e0, lv, l⟩, a2, a', c2, c', rfl, by omega, by omega, he0, ⟨HG.out.nodup, HG.out.range, HG.out.ready, HG.out.len⟩, HT6.out⟩
        clear HT6 HT5 d0 e0' fd fe HG HB he0
        generalize World.setCell (w5.setCell _ _) _ _ = w6 at HST2 ⊢
        go_loopw [11] (fun i wr => PlayL2 w V M len i wr) (fun i _ => 30 - (intOf i).toNat)
        case atStart => exact HST2.out
        case round =>
          obtain ⟨k, v, x1, x2, y1, y2, rfl, hk, hk30, he, hg, ht⟩ := hrel
          have HE := Lib.hid he
          have HG := Lib.hid hg
          have HT := Lib.hid ht
          clear he hg ht HST2
          obtain ⟨L, hL⟩ : ∃ L, L = l.length := ⟨_, rfl⟩
          simp only [← hL]
          clear hL
          by_cases hlk : k < len ∧ k < 30
          · obtain ⟨hlt, hk3⟩ := hlk
            obtain ⟨b, off, rfl, q0, q1, q2, q3, q4, qf⟩ := HR.out k hlt
            have hbw := World.block_lt_of_cell? _ _ q0
            simp only at hbw
            have q0 := (HT.out.w.cell (p := ⟨b, off + k * 5, none⟩) hbw).trans q0
            have q1 := (HT.out.w.cell (p := ⟨b, off + k * 5 + 1, none⟩) hbw).trans q1
            have q2 := (HT.out.w.cell (p := ⟨b, off + k * 5 + 2, none⟩) hbw).trans q2
            have q3 := (HT.out.w.cell (p := ⟨b, off + k * 5 + 3, none⟩) hbw).trans q3
            have q4 := (HT.out.w.cell (p := ⟨b, off + k * 5 + 4, none⟩) hbw).trans q4
            generalize z k = c at *
            have HG' := Lib.hid (good_apply HG.out qf)
            have HE' := Lib.hid (epoch32_apply (c := c) HE.out)
            obtain ⟨ck, cn, cl, ce, cr⟩ := c
            simp only at q0 q1 q2 q3 q4
            have QF := Lib.hid qf
            clear qf
            have hl40 : v.l.length ≤ 40 := by have := HG.out.len; omega
            obtain ⟨R, hR⟩ : ∃ R, Vw.apply v ⟨ck, cn, cl, ce, cr⟩ = R := ⟨_, rfl⟩
            have HRR := Lib.hid hR
            rw [hR] at HG' HE'
            clear hR
            obtain ⟨⟨e', lv', l'⟩, ok⟩ := R
            obtain ⟨e, lv, l⟩ := v
            simp only at *
            have hl40' : l'.length ≤ 40 := by have := HG'.out.len; simp only at this; omega
            obtain ⟨d0, d1, d2, d3, d4, d5, d6, d7, d8, d9⟩ := HT.out.a.ten
            have hVw : V < wr.heap.size := HT.out.a.lt
            have hMw : M < wr.heap.size := HT.out.b.lt
            go_upto_region 20 with fail
            with_reducible refine (apply_is (.slice x1 l.length y1) e lv l ck cn cl ce cr _ _ hl40 (HT.out.s.on (by go_grown)) HE.out QF.out HRR.out).mono ?_
            rintro en w4 ⟨s4, rfl, hM4, hB4⟩
            obtain ⟨a4, c4, hs4⟩ := hM4.len
            subst hs4
            simp only at hM4 hB4
            have HM4 := Lib.hid hM4
            have HT4 := Lib.hid (HT.out.on (Below.trans (b := _) (by go_grown) (hB4.mono (by simp))))
            have HX4 := Lib.hid (Blk.on (Blk.new (w := wr) (B := wr.heap.size) (T := 39) (cs := #[.int .u8 ck, .int .u8 cn, .int .u8 cl, .int .u32 ce, .int .u32 cr]) rfl) hB4)
            have hlt4 := HX4.out.lt
            clear hM4 hB4
            go_upto_region 20 with fail
            have HT5 := Lib.hid (HT4.out.al (.cells (vC e' (.slice a4 l'.length c4) lv') 28))
            have HX5 := Lib.hid (HX4.out.alloc (.cells (vC e' (.slice a4 l'.length c4) lv') 28))
            have HM5 := Lib.hid (HM4.out.al (.cells (vC e' (.slice a4 l'.length c4) lv') 28))
            have HN5 := Lib.hid (Blk.new (w := w4) (B := w4.heap.size) (T := 28) (cs := vC e' (.slice a4 l'.length c4) lv') rfl)
            obtain ⟨N, hN⟩ : ∃ N, N = w4.heap.size := ⟨_, rfl⟩
            obtain ⟨X, hX⟩ : ∃ X, X = wr.heap.size := ⟨_, rfl⟩
            have HNN : Hid (V < X ∧ M < X ∧ X < N) := Lib.hid (by omega)
            rw [← hN] at HN5
            rw [← hX] at HX5
            simp only [← hX]
            simp only [← hN]
            clear hN hX hlt4 hVw hMw HT4 HX4 HM4 HT d0 d1 d2 d3 d4 d5 d6 d7 d8 d9 q0 q1 q2 q3 q4 hbw
            unfold vC at HT5 HX5 HM5 HN5
            generalize World.alloc w4 _ = w5 at *
            obtain ⟨d0, d1, d2, d3, d4, d5, d6, d7, d8, d9⟩ := HT5.out.tenb
            have x0 := HX5.out.cell 0
            have x1' := HX5.out.cell 1
            have x2' := HX5.out.cell 2
            have x3 := HX5.out.cell 3
            simp at x0 x1' x2' x3
            go_upto_region 21 with fail
            with_reducible refine (refApply_is (.slice x2 l.length y2) e lv l ck cn cl ce cr _ _ HG.out HT5.out.t HE.out HRR.out).mono ?_
            rintro en w6 ⟨s6, rfl, hM6, hB6⟩
            obtain ⟨a6, c6, hs6⟩ := hM6.len
            subst hs6
            simp only at hM6 hB6
            go_upto_region 21 with fail
            have HT7 := Lib.hid ((HT5.out.on hB6).al (.cells (vC e' (.slice a6 l'.length c6) lv') 34))
            have HX7 := Lib.hid ((HX5.out.on hB6).alloc (.cells (vC e' (.slice a6 l'.length c6) lv') 34))
            have HN7 := Lib.hid ((HN5.out.on hB6).alloc (.cells (vC e' (.slice a6 l'.length c6) lv') 34))
            have HM7 := Lib.hid ((HM5.out.on hB6).al (.cells (vC e' (.slice a6 l'.length c6) lv') 34))
            have HS7 := Lib.hid (hM6.al (.cells (vC e' (.slice a6 l'.length c6) lv') 34))
            have HO7 := Lib.hid (Blk.new (w := w6) (B := w6.heap.size) (T := 34) (cs := vC e' (.slice a6 l'.length c6) lv') rfl)
            obtain ⟨O, hO⟩ : ∃ O, O = w6.heap.size := ⟨_, rfl⟩
            have hlt6 := (HN5.out.on hB6).lt
            have HNO : Hid (N < O) := Lib.hid (by omega)
            rw [← hO] at HO7
            simp only [← hO]
            clear hO hlt6 HT5 HX5 HN5 HM5 hM6 hB6 d0 d1 d2 d3 d4 d5 d6 d7 d8 d9 x0 x1' x2' x3
            unfold vC at HT7 HX7 HN7 HM7 HS7 HO7
            generalize World.alloc w6 _ = w7 at *
            obtain ⟨qe, hqe⟩ : ∃ q, ((e : Int) == (e' : Int)) = q := ⟨_, rfl⟩
            obtain ⟨qa, hqa⟩ : ∃ q, decide (lv = lv') = q := ⟨_, rfl⟩
            obtain ⟨ql, hql⟩ : ∃ q, decide (l = l') = q := ⟨_, rfl⟩
            have HQL := Lib.hid hql
            have HQS : Hid (sameB e lv l e' lv' l' = (qe && qa && ql)) := Lib.hid (by
              rw [← hqe, ← hqa, ← hql, Bool.eq_iff_iff, sameB, decide_eq_true_iff, Bool.and_eq_true, Bool.and_eq_true, decide_eq_true_iff, decide_eq_true_iff, beq_iff_eq]
              exact ⟨fun ⟨h1, h2, h3⟩ => ⟨⟨by omega, h3⟩, h2⟩, fun ⟨⟨h1, h3⟩, h2⟩ => ⟨by omega, h2, h3⟩⟩)
            have hrun : ∀ w, Sem.run Try.prog (binOp .eql 26 (.agg #[.int .u8 lv.a, .int .u8 lv.b, .int .u8 lv.c, .int .u8 lv.d, .int .u8 lv.e, .int .u8 lv.f, .int .u8 lv.g, .int .u8 lv.h]) (.agg #[.int .u8 lv'.a, .int .u8 lv'.b, .int .u8 lv'.c, .int .u8 lv'.d, .int .u8 lv'.e, .int .u8 lv'.f, .int .u8 lv'.g, .int .u8 lv'.h])) w = .ok (.bool qa) w := fun w => by rw [← hqa]; exact arr_eq lv lv' w
            clear hql hqa
            go_cut [156] (fun s wx => s = .bool false ∧ Below w7.heap.size w7 wx)
            case first =>
              obtain ⟨d0, d1, d2, d3, d4, d5, d6, d7, d8, d9⟩ := HT7.out.a.ten
              obtain ⟨b0, b1, b2, b3, b4, b5, b6, b7, b8, b9⟩ := HT7.out.tenb
              obtain ⟨n0, n1, n2, n3, n4, n5, n6, n7, n8, n9⟩ := HN7.out.ten
              obtain ⟨o0, o1, o2, o3, o4, o5, o6, o7, o8, o9⟩ := HO7.out.ten34
              have x1' := HX7.out.cell 1
              have x2' := HX7.out.cell 2
              simp at x1' x2'
              have d0 := onto_cell d0
              have d1 := onto_cell d1
              have d2 := onto_cell d2
              have d3 := onto_cell d3
              have d4 := onto_cell d4
              have d5 := onto_cell d5
              have d6 := onto_cell d6
              have d7 := onto_cell d7
              have d8 := onto_cell d8
              have d9 := onto_cell d9
              have b0 := onto_cell b0
              have b1 := onto_cell b1
              have b2 := onto_cell b2
              have b3 := onto_cell b3
              have b4 := onto_cell b4
              have b5 := onto_cell b5
              have b6 := onto_cell b6
              have b7 := onto_cell b7
              have b8 := onto_cell b8
              have b9 := onto_cell b9
              have n0 := onto_cell n0
              have n1 := onto_cell n1
              have n2 := onto_cell n2
              have n3 := onto_cell n3
              have n4 := onto_cell n4
              have n5 := onto_cell n5
              have n6 := onto_cell n6
              have n7 := onto_cell n7
              have n8 := onto_cell n8
              have n9 := onto_cell n9
              have o0 := onto_cell o0
              have o1 := onto_cell o1
              have o2 := onto_cell o2
              have o3 := onto_cell o3
              have o4 := onto_cell o4
              have o5 := onto_cell o5
              have o6 := onto_cell o6
              have o7 := onto_cell o7
              have o8 := onto_cell o8
              have o9 := onto_cell o9
              have x1' := onto_cell x1'
              have x2' := onto_cell x2'
              cases qe
              case false =>
                refine wp_region_onto (by kernel_rfl) (by kernel_rfl) ?_
                repeat (go_big_quiet_step ((first | (go_at_call 8; first | with_reducible exact onto_calls (same_yes e' _ _ lv' l' _ hl40' (HM7.out.on (onto_below _ _)) (HS7.out.on (onto_below _ _))) | with_reducible exact onto_calls (same_yes e _ _ lv l _ hl40 (HT7.out.s.on (onto_below _ _)) (HT7.out.t.on (onto_below _ _)))) | (go_at_call 11; with_reducible exact onto_calls (asks_any e' _ _ lv' l' cn cl _ hl40' (HM7.out.on (onto_below _ _)) (HS7.out.on (onto_below _ _)) HG'.out.nodup)) | (go_at_call 12; with_reducible exact onto_calls (Same_ia e e' _ _ lv lv' l l' _ _ hl40 hl40' (HT7.out.s.on (onto_below _ _)) (HM7.out.on (onto_below _ _)) HQS.out)) | (go_at_call 13; with_reducible exact onto_calls (alike_is _ _ l l' _ _ hl40 hl40' (HT7.out.t.on (onto_below _ _)) (HS7.out.on (onto_below _ _)) HQL.out)))))
                refine wpQuiet_nil ?_
                intro _ hw'
                obtain ⟨z, hw''⟩ := hw'
                subst hw''
                go_wp2_with fail
                go_meet
                exact ⟨rfl, onto_below _ _⟩
              case true =>
                cases qa
                case false =>
                  refine wp_region_onto (by kernel_rfl) (by kernel_rfl) ?_
                  repeat (go_big_quiet_step ((first | (go_at_call 8; first | with_reducible exact onto_calls (same_yes e' _ _ lv' l' _ hl40' (HM7.out.on (onto_below _ _)) (HS7.out.on (onto_below _ _))) | with_reducible exact onto_calls (same_yes e _ _ lv l _ hl40 (HT7.out.s.on (onto_below _ _)) (HT7.out.t.on (onto_below _ _)))) | (go_at_call 11; with_reducible exact onto_calls (asks_any e' _ _ lv' l' cn cl _ hl40' (HM7.out.on (onto_below _ _)) (HS7.out.on (onto_below _ _)) HG'.out.nodup)) | (go_at_call 12; with_reducible exact onto_calls (Same_ia e e' _ _ lv lv' l l' _ _ hl40 hl40' (HT7.out.s.on (onto_below _ _)) (HM7.out.on (onto_below _ _)) HQS.out)) | (go_at_call 13; with_reducible exact onto_calls (alike_is _ _ l l' _ _ hl40 hl40' (HT7.out.t.on (onto_below _ _)) (HS7.out.on (onto_below _ _)) HQL.out)))))
                  refine wpQuiet_nil ?_
                  intro _ hw'
                  obtain ⟨z, hw''⟩ := hw'
                  subst hw''
                  go_wp2_with fail
                  go_meet
                  exact ⟨rfl, onto_below _ _⟩
                case true =>
                  cases ql
                  case false =>
                    refine wp_region_onto (by kernel_rfl) (by kernel_rfl) ?_
                    repeat (go_big_quiet_step ((first | (go_at_call 8; first | with_reducible exact onto_calls (same_yes e' _ _ lv' l' _ hl40' (HM7.out.on (onto_below _ _)) (HS7.out.on (onto_below _ _))) | with_reducible exact onto_calls (same_yes e _ _ lv l _ hl40 (HT7.out.s.on (onto_below _ _)) (HT7.out.t.on (onto_below _ _)))) | (go_at_call 11; with_reducible exact onto_calls (asks_any e' _ _ lv' l' cn cl _ hl40' (HM7.out.on (onto_below _ _)) (HS7.out.on (onto_below _ _)) HG'.out.nodup)) | (go_at_call 12; with_reducible exact onto_calls (Same_ia e e' _ _ lv lv' l l' _ _ hl40 hl40' (HT7.out.s.on (onto_below _ _)) (HM7.out.on (onto_below _ _)) HQS.out)) | (go_at_call 13; with_reducible exact onto_calls (alike_is _ _ l l' _ _ hl40 hl40' (HT7.out.t.on (onto_below _ _)) (HS7.out.on (onto_below _ _)) HQL.out)))))
                    refine wpQuiet_nil ?_
                    intro _ hw'
                    obtain ⟨z, hw''⟩ := hw'
                    subst hw''
                    go_wp2_with fail
                    go_meet
                    exact ⟨rfl, onto_below _ _⟩
                  case true =>
                    refine wp_region_onto (by kernel_rfl) (by kernel_rfl) ?_
                    repeat (go_big_quiet_step ((first | (go_at_call 8; first | with_reducible exact onto_calls (same_yes e' _ _ lv' l' _ hl40' (HM7.out.on (onto_below _ _)) (HS7.out.on (onto_below _ _))) | with_reducible exact onto_calls (same_yes e _ _ lv l _ hl40 (HT7.out.s.on (onto_below _ _)) (HT7.out.t.on (onto_below _ _)))) | (go_at_call 11; with_reducible exact onto_calls (asks_any e' _ _ lv' l' cn cl _ hl40' (HM7.out.on (onto_below _ _)) (HS7.out.on (onto_below _ _)) HG'.out.nodup)) | (go_at_call 12; with_reducible exact onto_calls (Same_ia e e' _ _ lv lv' l l' _ _ hl40 hl40' (HT7.out.s.on (onto_below _ _)) (HM7.out.on (onto_below _ _)) HQS.out)) | (go_at_call 13; with_reducible exact onto_calls (alike_is _ _ l l' _ _ hl40 hl40' (HT7.out.t.on (onto_below _ _)) (HS7.out.on (onto_below _ _)) HQL.out)))))
                    refine wpQuiet_nil ?_
                    intro _ hw'
                    obtain ⟨z, hw''⟩ := hw'
                    subst hw''
                    go_wp2_with fail
                    go_meet
                    exact ⟨rfl, onto_below _ _⟩
            case rest =>
              obtain ⟨rfl, hB8⟩ := hcut
              have HT8 := Lib.hid (HT7.out.on hB8)
              have HN8 := Lib.hid (HN7.out.on hB8)
              have HM8 := Lib.hid (HM7.out.on hB8)
              have HS8 := Lib.hid (HS7.out.on hB8)
              have HO8 := Lib.hid (HO7.out.on hB8)
              clear hB8 HT7 HX7 HN7 HM7 HS7 HO7 hrun hqe HQL HQS
              obtain ⟨d0, d1, d2, d3, d4, d5, d6, d7, d8, d9⟩ := HT8.out.a.ten
              obtain ⟨b0, b1, b2, b3, b4, b5, b6, b7, b8, b9⟩ := HT8.out.tenb
              obtain ⟨n0, n1, n2, n3, n4, n5, n6, n7, n8, n9⟩ := HN8.out.ten
              obtain ⟨o0, o1, o2, o3, o4, o5, o6, o7, o8, o9⟩ := HO8.out.ten34
              have fv0 := HT8.out.a.frozen 0
              have fm0 := HT8.out.b.frozen 0
              have fv1 := HT8.out.a.frozen 1
              have fm1 := HT8.out.b.frozen 1
              have fv2 := HT8.out.a.frozen 2
              have fm2 := HT8.out.b.frozen 2
              have fv3 := HT8.out.a.frozen 3
              have fm3 := HT8.out.b.frozen 3
              have fv4 := HT8.out.a.frozen 4
              have fm4 := HT8.out.b.frozen 4
              have fv5 := HT8.out.a.frozen 5
              have fm5 := HT8.out.b.frozen 5
              have fv6 := HT8.out.a.frozen 6
              have fm6 := HT8.out.b.frozen 6
              have fv7 := HT8.out.a.frozen 7
              have fm7 := HT8.out.b.frozen 7
              have fv8 := HT8.out.a.frozen 8
              have fm8 := HT8.out.b.frozen 8
              have fv9 := HT8.out.a.frozen 9
              have fm9 := HT8.out.b.frozen 9
              have hVN : V ≠ N := by have := HNN.out; omega
              have hMN : M ≠ N := by have := HNN.out; omega
              have hVO : V ≠ O := by have := HNN.out; have := HNO.out; omega
              have hMO : M ≠ O := by have := HNN.out; have := HNO.out; omega
              go_upto_region 23 with fail
              go_region
              obtain ⟨wf, hwf⟩ : ∃ wf, wf = ((((((((((wc).setCell ⟨V, 0, none⟩ (.int .u32 e')).setCell ⟨V, 1, none⟩ (.slice a4 l'.length c4)).setCell ⟨V, 2, none⟩ (.int .u8 lv'.a)).setCell ⟨V, 3, none⟩ (.int .u8 lv'.b)).setCell ⟨V, 4, none⟩ (.int .u8 lv'.c)).setCell ⟨V, 5, none⟩ (.int .u8 lv'.d)).setCell ⟨V, 6, none⟩ (.int .u8 lv'.e)).setCell ⟨V, 7, none⟩ (.int .u8 lv'.f)).setCell ⟨V, 8, none⟩ (.int .u8 lv'.g)).setCell ⟨V, 9, none⟩ (.int .u8 lv'.h) := ⟨_, rfl⟩
              rw [← hwf]
              obtain ⟨wg, hwg⟩ : ∃ wg, wg = ((((((((((wf).setCell ⟨M, 0, none⟩ (.int .u32 e')).setCell ⟨M, 1, none⟩ (.slice a6 l'.length c6)).setCell ⟨M, 2, none⟩ (.int .u8 lv'.a)).setCell ⟨M, 3, none⟩ (.int .u8 lv'.b)).setCell ⟨M, 4, none⟩ (.int .u8 lv'.c)).setCell ⟨M, 5, none⟩ (.int .u8 lv'.d)).setCell ⟨M, 6, none⟩ (.int .u8 lv'.e)).setCell ⟨M, 7, none⟩ (.int .u8 lv'.f)).setCell ⟨M, 8, none⟩ (.int .u8 lv'.g)).setCell ⟨M, 9, none⟩ (.int .u8 lv'.h) := ⟨_, rfl⟩
              rw [← hwg]
              have HREL : Hid (PlayL2 w V M len (.int .i64 (k + 1)) wg.drew) := Lib.hid ⟨k + 1, ⟨e', lv', l'⟩, a4, a6, c4, c6, by go_num, by omega, by omega, HE'.out, HG'.out, (Two.fill HT8.out hVM HNM.out.1 HNM.out.2.1 e' l'.length c4 l'.length c6 a4 a6 lv' l' HM8.out HS8.out hwf hwg).on (Below.drew (Below.refl _ _))⟩
              clear hwf hwg HT8 HM8 HS8 HN8 HO8 d0 d1 d2 d3 d4 d5 d6 d7 d8 d9 b0 b1 b2 b3 b4 b5 b6 b7 b8 b9 n0 n1 n2 n3 n4 n5 n6 n7 n8 n9 o0 o1 o2 o3 o4 o5 o6 o7 o8 o9 fv0 fv1 fv2 fv3 fv4 fv5 fv6 fv7 fv8 fv9 fm0 fm1 fm2 fm3 fm4 fm5 fm6 fm7 fm8 fm9
              generalize wg.drew = wh at HREL ⊢
              go_wp2_with fail
              go_roundw
              case rel => exact HREL.out
              case measure => simp [intOf]; omega
          · have hcase : (¬ k < len) ∨ (k < len ∧ ¬ k < 30) := by omega
            clear hlk HE HG
            rcases hcase with hc | ⟨hc, hc2⟩
            all_goals
              go_wp2
              go_ret
              exact ⟨rfl, HT.out.w⟩
end Go.Proofs.Ytkgahhfemlebmaa
