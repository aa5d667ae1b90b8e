/-
  The document's reading of one field: values, entries.
-/
import Derived.Test.YtodajejjhfpdmaaDoorFrrF
namespace Go.Proofs.YtodajejjhfpdmaaDoor
open Go.RowKit Go.Instr

set_option maxHeartbeats 4000000 in
set_option maxRecDepth 20000 in
theorem rfield_v (f : Fr) (z : Zs) (s t : Value) (b0 : Nat) (w : World) (hz : z.ok) (hs : memR.Own 77 w b0 s f.ms) (ht : entR.Own 83 w b0 t f.es) (hE : f.text = ⟨#[]⟩) :
    Calls Tryd.prog 37 #[.agg (zC z), .agg (frC f s t), .int .u8 118] w (RFieldP 118 (rField 86 f z) s t b0 w) := by
  have OS := Lib.hid (own_1 hs)
  have OT := Lib.hid (own_1 ht)
  have HS := Lib.hid hs
  have HT := Lib.hid ht
  have T := Lib.hid (RF.start (w := w) (f := f) (s := s) (t := t) hz)
  have HE := Lib.hid hE
  clear hs ht hz hE
  go_enter Tryd.func37, Tryd.ntmps37
  go_upto_region 1 with fail
  obtain ⟨v0, hv0⟩ : ∃ v0, v0 = (((w.alloc (.cells (zC z) 107)).alloc (.cells (frC f s t) 52)).alloc (.cells z0C 107)).alloc (.cells z34 52) := ⟨_, rfl⟩
  rw [← hv0] at T ⊢
  clear hv0
  have R1 := Lib.hid (blk_raw T.out.zb)
  obtain ⟨z1, n1, hq⟩ : ∃ zq nq, rBit z = (zq, nq) := ⟨_, _, rfl⟩
  have E1 := Lib.hid hq
  have K1 := Lib.hid (show z1.ok by have h : (rBit z).1.ok := rMust_ok (rNum_ok (k := 1) T.out.good); rw [show rBit z = (z1, n1) from hq] at h; exact h)
  have H1 : Hid (Calls Tryd.prog 66 #[.agg (zC z)] v0 (BitZ (z1, n1) v0)) := Lib.hid (by rw [← hq]; exact rbitZ_any z v0 T.out.good)
  clear hq
  go_wp2_with (first | (refine wpList_load_row rfl 107 (.tmp 3) rfl w.heap.size rfl 107 (zC z) (0, 0) _ R1.out Tryd.underlying107 rfl (by kernel_rfl) ?_))
  with_reducible refine H1.out.mono ?_
  rintro e w1 ⟨rfl, hB⟩
  have T1 := Lib.hid (T.out.on hB)
  have Q1 := Lib.hid (blk_raw T1.out.zb)
  have O1 := Lib.hid (zC_one z1)
  clear hB H1 R1 T
  have Y1 := Lib.hid (T1.out.setz K1.out)
  have y1 := Y1.out.xb.cell 8
  have x1 := Y1.out.xb.frozen 8
  simp at y1
  go_upto_region 29 with (first | (refine wpList_store_row rfl 107 (.tmp 3) (.tmp 119) rfl w.heap.size (zC z1) rfl rfl 107 (zC z) Q1.out (by kernel_rfl) rfl O1.out ?_))
  obtain ⟨v1, hv⟩ : ∃ vq, vq = (w1.setRow w.heap.size (zC z1)).setCell ⟨w.heap.size + 1, 8, none⟩ (.bool n1) := ⟨_, rfl⟩
  have X1 : Hid (RF w z1 { f with has := n1 } s t v1) := Lib.hid (by rw [hv]; exact Y1.out.setf 8 _ rfl)
  rw [← hv]
  clear hv Y1 y1 x1 T1 Q1 O1
  have R2 := Lib.hid (blk_raw X1.out.zb)
  obtain ⟨z2, n2, hq⟩ : ∃ zq nq, rNum z1 1 = (zq, nq) := ⟨_, _, rfl⟩
  have E2 := Lib.hid hq
  have K2 := Lib.hid (show z2.ok by have h := rNum_ok (k := 1) X1.out.good; rw [show rNum z1 1 = (z2, n2) from hq] at h; exact h)
  have L2 : n2 < 256 ^ 1 := by have h := rNum_lt z1 1 (by decide); rw [hq] at h; exact h
  have U2 : IntKind.u8.wrap (n2 : Int) = (n2 : Int) := IntWalk.u8_in _ (by omega)
  have H2 : Hid (Calls Tryd.prog 35 #[.agg #[.string z1.s, .int .i64 z1.at_, .int .i64 z1.err], .int .i64 1] v1 (NumZ (z2, n2) v1)) := Lib.hid (by rw [← hq]; exact rnum1_any z1 v1 X1.out.good)
  clear hq
  go_wp2_with (first | (refine wpList_load_row rfl 107 (.tmp 3) rfl w.heap.size rfl 107 (zC z1) (0, 0) _ R2.out Tryd.underlying107 rfl (by kernel_rfl) ?_))
  with_reducible refine H2.out.mono ?_
  rintro e w2 ⟨rfl, hB⟩
  have T2 := Lib.hid (X1.out.on hB)
  have Q2 := Lib.hid (blk_raw T2.out.zb)
  have O2 := Lib.hid (zC_one z2)
  clear hB H2 R2 X1
  go_upto_region 30 with (first | (refine wpList_store_row rfl 107 (.tmp 3) (.tmp 125) rfl w.heap.size (zC z2) rfl rfl 107 (zC z1) Q2.out (by kernel_rfl) rfl O2.out ?_))
  obtain ⟨v2, hv⟩ : ∃ vq, vq = w2.setRow w.heap.size (zC z2) := ⟨_, rfl⟩
  have X2 : Hid (RF w z2 { f with has := n1 } s t v2) := Lib.hid (by rw [hv]; exact T2.out.setz K2.out)
  rw [← hv]
  clear hv T2 Q2 O2
  have hzk := K2.out
  have hz1 := hzk.1
  have hz2 := hzk.2
  have wa : wrap64 ((z2.s.size : Int) - z2.at_) = (z2.s.size : Int) - z2.at_ := IntWalk.wrap64_in _ (by omega)
  have wb : wrap64 ((z2.at_ : Int) + n2) = (z2.at_ : Int) + n2 := IntWalk.wrap64_in _ (by omega)
  have hA : ({ f with has := n1, text := ⟨#[]⟩ } : Fr) = { f with has := n1 } := by rw [← HE.out]
  have W2 : IntKind.i64.wrap (n2 : Int) = (n2 : Int) := IntWalk.i64_in _ (by omega)
  have hR : rField 86 f z = ({ f with has := n1, text := (rText z2 n2 n1).2 }, (rText z2 n2 n1).1) := by
    show (({ f with has := (rBit z).2, text := (rText (rNum (rBit z).1 1).1 (rNum (rBit z).1 1).2 (rBit z).2).2 } : Fr), (rText (rNum (rBit z).1 1).1 (rNum (rBit z).1 1).2 (rBit z).2).1) = _
    rw [E1.out]; simp only; rw [E2.out]
  have HR := Lib.hid hR
  have HA := Lib.hid hA
  clear hR hA
  have cS : v2.cell? ⟨w.heap.size, 0, none⟩ = some (.string z2.s) := X2.out.zb.cell 0
  have cA : v2.cell? ⟨w.heap.size, 1, none⟩ = some (.int .i64 z2.at_) := X2.out.zb.cell 1
  have cE : v2.cell? ⟨w.heap.size, 2, none⟩ = some (.int .i64 z2.err) := X2.out.zb.cell 2
  have fA := X2.out.zb.frozen 1
  have fE := X2.out.zb.frozen 2
  by_cases he : z2.err = 0
  · by_cases hl : z2.s.size < z2.at_ + n2
    · have hl' : (z2.s.size : Int) - z2.at_ < n2 := by omega
      have hT : rText z2 n2 n1 = (⟨z2.s, z2.at_, 2⟩, ⟨#[]⟩) := by unfold rText; rw [if_pos he, if_pos hl]
      have HTX := Lib.hid hT
      clear hT
      go_upto_region 32 with fail
      obtain ⟨v3, hv⟩ : ∃ vq, vq = v2.setCell ⟨w.heap.size, 2, none⟩ (.int .i64 2) := ⟨_, rfl⟩
      have X3 : Hid (RF w ⟨z2.s, z2.at_, 2⟩ { f with has := n1 } s t v3) := Lib.hid (by rw [hv]; exact RF.setz1 (z' := ⟨z2.s, z2.at_, 2⟩) X2.out K2.out 2 _ rfl)
      rw [← hv]
      clear hv cS cA cE fA fE X2
      have cE : v3.cell? ⟨w.heap.size, 2, none⟩ = some (.int .i64 2) := X3.out.zb.cell 2
      go_upto_region 76 with fail
      clear cE
      have hF : rField 86 f z = ({ f with has := n1 }, ⟨z2.s, z2.at_, 2⟩) := by rw [HR.out, HTX.out]; simp only; rw [HA.out]
      have HF := Lib.hid hF
      clear hF
      refine ret_region X3.out OS.out OT.out (of_decide_eq_true (by kernel_rfl)) rfl rfl rfl rfl (fun _ _ _ _ _ h => h) ?_
      intro a9 v9 h6 h7 hd hz9 hf9 SB _KP
      go_wp2_with fail
      refine bodyPost_ret (results_cell2 (p := 6) (q := 7) Tryd.results37 a9.tmps v9 (w.heap.size + 2) (w.heap.size + 3) 107 52 (zC ⟨z2.s, z2.at_, 2⟩) (frC { f with has := n1 } s t) (0, 0) (0, 0) _ _ h6 hz9 Tryd.underlying107 rfl (by kernel_rfl) h7 hf9 Tryd.underlying52 rfl (by kernel_rfl)) hd ?_
      rw [HF.out]
      exact ⟨s, t, rfl, SB, HS.out.on SB, HT.out.on SB, X3.out.good, fun _ => rfl, fun _ => rfl⟩
    · have hl' : ¬ (z2.s.size : Int) - z2.at_ < n2 := by omega
      have ha : ((z2.at_ : Int) + (n2 : Int)).toNat = z2.at_ + n2 := by omega
      have hT : rText z2 n2 n1 = (rMust ⟨z2.s, z2.at_ + n2, z2.err⟩ (valueB n1 (z2.s.extract z2.at_ (z2.at_ + n2))), z2.s.extract z2.at_ (z2.at_ + n2)) := by unfold rText; rw [if_pos he, if_neg hl]
      have hex : (z2.s.extract z2.at_ (z2.at_ + n2)).size = n2 := by rw [ByteArray.size_extract]; omega
      obtain ⟨x, hx⟩ : ∃ x, x = z2.s.extract z2.at_ (z2.at_ + n2) := ⟨_, rfl⟩
      rw [← hx] at hT hex
      have HTX := Lib.hid hT
      have HEX := Lib.hid hex
      have y9 : v2.cell? ⟨w.heap.size + 1, 9, none⟩ = _ := X2.out.xb.cell 9
      have x9 := X2.out.xb.frozen 9
      simp at y9
      clear hT hex
      go_upto_region 34 with fail
      obtain ⟨v3, hv⟩ : ∃ vq, vq = v2.setCell ⟨w.heap.size + 1, 9, none⟩ (.string (z2.s.extract z2.at_ (z2.at_ + n2))) := ⟨_, rfl⟩
      have X3 : Hid (RF w z2 { f with has := n1, text := x } s t v3) := Lib.hid (by rw [hv, ← hx]; exact X2.out.setf 9 _ rfl)
      rw [← hv]
      clear hv cS cA cE fA fE X2 y9 x9 hx
      have cA : v3.cell? ⟨w.heap.size, 1, none⟩ = some (.int .i64 z2.at_) := X3.out.zb.cell 1
      have fA := X3.out.zb.frozen 1
      go_upto_region 35 with fail
      obtain ⟨z4, hz4⟩ : ∃ z4 : Zs, z4 = ⟨z2.s, z2.at_ + n2, z2.err⟩ := ⟨_, rfl⟩
      have hok4 : z4.ok := by rw [hz4]; exact ⟨by simp only; omega, hzk.2⟩
      obtain ⟨v4, hv⟩ : ∃ vq, vq = v3.setCell ⟨w.heap.size, 1, none⟩ (.int .i64 ((z2.at_ : Int) + n2)) := ⟨_, rfl⟩
      have X4 : Hid (RF w z4 { f with has := n1, text := x } s t v4) := Lib.hid (by rw [hv]; exact RF.setz1 (z' := z4) X3.out hok4 1 _ (by rw [hz4]; simp))
      rw [← hv]
      rw [← hz4] at HTX
      clear hv cA fA X3 hz4
      have y8 : v4.cell? ⟨w.heap.size + 1, 8, none⟩ = some (.bool n1) := X4.out.xb.cell 8
      have R5 := Lib.hid (blk_raw X4.out.zb)
      have HM : Hid (∀ b, Calls Tryd.prog 36 #[.agg #[.string z4.s, .int .i64 z4.at_, .int .i64 z4.err], .bool b] v4 (fun e w2 => e = .returned (.agg (zC (rMust z4 b))) ∧ Below v4.heap.size v4 w2)) := Lib.hid (fun b => rmustZ_any z4 b v4)
      have K4 := Lib.hid hok4
      clear hok4
      by_cases h32 : n2 ≤ 32
      · have h32' : (n2 : Int) ≤ 32 := by omega
        by_cases hn : n1 = true
        · rw [hn] at y8
          have hv1 : valueB n1 x = true := by rw [valueB, hn, decide_eq_true (by rw [HEX.out]; exact h32)]; rfl
          go_wp2_with (first | (refine wpList_load_row rfl 107 (.tmp 3) rfl w.heap.size rfl 107 (zC z4) (0, 0) _ R5.out Tryd.underlying107 rfl (by kernel_rfl) ?_))
          with_reducible refine (HM.out _).mono ?_
          rintro e w5 ⟨rfl, hB⟩
          obtain ⟨z5, hq⟩ : ∃ zq, rMust z4 true = zq := ⟨_, rfl⟩
          have K5 := Lib.hid (show z5.ok by rw [← hq]; exact rMust_ok K4.out)
          have T5 := Lib.hid (X4.out.on hB)
          have Q5 := Lib.hid (blk_raw T5.out.zb)
          have O5 := Lib.hid (zC_one z5)
          have HTY : Hid (rText z2 n2 n1 = (z5, x)) := Lib.hid (by rw [HTX.out, hv1, hq])
          rw [hq]
          clear hB HM R5 X4 y8 hq hv1 hn
          go_upto_region 76 with (first | (refine wpList_store_row rfl 107 (.tmp 3) (.tmp 173) rfl w.heap.size (zC z5) rfl rfl 107 (zC z4) Q5.out (by kernel_rfl) rfl O5.out ?_))
          obtain ⟨v5, hv⟩ : ∃ vq, vq = w5.setRow w.heap.size (zC z5) := ⟨_, rfl⟩
          have X5 : Hid (RF w z5 { f with has := n1, text := x } s t v5) := Lib.hid (by rw [hv]; exact T5.out.setz K5.out)
          rw [← hv]
          clear hv T5 Q5 O5
          have hF : rField 86 f z = ({ f with has := n1, text := x }, z5) := by rw [HR.out, HTY.out]
          have HF := Lib.hid hF
          clear hF
          refine ret_region X5.out OS.out OT.out (of_decide_eq_true (by kernel_rfl)) rfl rfl rfl rfl (fun _ _ _ _ _ h => h) ?_
          intro a9 v9 h6 h7 hd hz9 hf9 SB _KP
          go_wp2_with fail
          refine bodyPost_ret (results_cell2 (p := 6) (q := 7) Tryd.results37 a9.tmps v9 (w.heap.size + 2) (w.heap.size + 3) 107 52 (zC z5) (frC { f with has := n1, text := x } s t) (0, 0) (0, 0) _ _ h6 hz9 Tryd.underlying107 rfl (by kernel_rfl) h7 hf9 Tryd.underlying52 rfl (by kernel_rfl)) hd ?_
          rw [HF.out]
          exact ⟨s, t, rfl, SB, HS.out.on SB, HT.out.on SB, X5.out.good, fun _ => rfl, fun _ => rfl⟩
        · simp only [Bool.not_eq_true] at hn
          rw [hn] at y8
          by_cases h0 : n2 = 0
          · have h0' : ((n2 : Int) == 0) = true := by simpa using h0
            have hv1 : valueB n1 x = true := by rw [valueB, hn, decide_eq_true (by rw [HEX.out]; exact h32), empty_dec, HEX.out, decide_eq_true h0]; rfl
            go_wp2_with (first | (refine wpList_load_row rfl 107 (.tmp 3) rfl w.heap.size rfl 107 (zC z4) (0, 0) _ R5.out Tryd.underlying107 rfl (by kernel_rfl) ?_))
            with_reducible refine (HM.out _).mono ?_
            rintro e w5 ⟨rfl, hB⟩
            obtain ⟨z5, hq⟩ : ∃ zq, rMust z4 true = zq := ⟨_, rfl⟩
            have K5 := Lib.hid (show z5.ok by rw [← hq]; exact rMust_ok K4.out)
            have T5 := Lib.hid (X4.out.on hB)
            have Q5 := Lib.hid (blk_raw T5.out.zb)
            have O5 := Lib.hid (zC_one z5)
            have HTY : Hid (rText z2 n2 n1 = (z5, x)) := Lib.hid (by rw [HTX.out, hv1, hq])
            rw [hq]
            clear hB HM R5 X4 y8 hq hv1 hn h0 h0'
            go_upto_region 76 with (first | (refine wpList_store_row rfl 107 (.tmp 3) (.tmp 173) rfl w.heap.size (zC z5) rfl rfl 107 (zC z4) Q5.out (by kernel_rfl) rfl O5.out ?_))
            obtain ⟨v5, hv⟩ : ∃ vq, vq = w5.setRow w.heap.size (zC z5) := ⟨_, rfl⟩
            have X5 : Hid (RF w z5 { f with has := n1, text := x } s t v5) := Lib.hid (by rw [hv]; exact T5.out.setz K5.out)
            rw [← hv]
            clear hv T5 Q5 O5
            have hF : rField 86 f z = ({ f with has := n1, text := x }, z5) := by rw [HR.out, HTY.out]
            have HF := Lib.hid hF
            clear hF
            refine ret_region X5.out OS.out OT.out (of_decide_eq_true (by kernel_rfl)) rfl rfl rfl rfl (fun _ _ _ _ _ h => h) ?_
            intro a9 v9 h6 h7 hd hz9 hf9 SB _KP
            go_wp2_with fail
            refine bodyPost_ret (results_cell2 (p := 6) (q := 7) Tryd.results37 a9.tmps v9 (w.heap.size + 2) (w.heap.size + 3) 107 52 (zC z5) (frC { f with has := n1, text := x } s t) (0, 0) (0, 0) _ _ h6 hz9 Tryd.underlying107 rfl (by kernel_rfl) h7 hf9 Tryd.underlying52 rfl (by kernel_rfl)) hd ?_
            rw [HF.out]
            exact ⟨s, t, rfl, SB, HS.out.on SB, HT.out.on SB, X5.out.good, fun _ => rfl, fun _ => rfl⟩
          · have h0' : ((n2 : Int) == 0) = false := by simpa using h0
            have hv1 : valueB n1 x = false := by rw [valueB, hn, empty_dec, HEX.out, decide_eq_false h0]; simp
            go_wp2_with (first | (refine wpList_load_row rfl 107 (.tmp 3) rfl w.heap.size rfl 107 (zC z4) (0, 0) _ R5.out Tryd.underlying107 rfl (by kernel_rfl) ?_))
            with_reducible refine (HM.out _).mono ?_
            rintro e w5 ⟨rfl, hB⟩
            obtain ⟨z5, hq⟩ : ∃ zq, rMust z4 false = zq := ⟨_, rfl⟩
            have K5 := Lib.hid (show z5.ok by rw [← hq]; exact rMust_ok K4.out)
            have T5 := Lib.hid (X4.out.on hB)
            have Q5 := Lib.hid (blk_raw T5.out.zb)
            have O5 := Lib.hid (zC_one z5)
            have HTY : Hid (rText z2 n2 n1 = (z5, x)) := Lib.hid (by rw [HTX.out, hv1, hq])
            rw [hq]
            clear hB HM R5 X4 y8 hq hv1 hn h0 h0'
            go_upto_region 76 with (first | (refine wpList_store_row rfl 107 (.tmp 3) (.tmp 173) rfl w.heap.size (zC z5) rfl rfl 107 (zC z4) Q5.out (by kernel_rfl) rfl O5.out ?_))
            obtain ⟨v5, hv⟩ : ∃ vq, vq = w5.setRow w.heap.size (zC z5) := ⟨_, rfl⟩
            have X5 : Hid (RF w z5 { f with has := n1, text := x } s t v5) := Lib.hid (by rw [hv]; exact T5.out.setz K5.out)
            rw [← hv]
            clear hv T5 Q5 O5
            have hF : rField 86 f z = ({ f with has := n1, text := x }, z5) := by rw [HR.out, HTY.out]
            have HF := Lib.hid hF
            clear hF
            refine ret_region X5.out OS.out OT.out (of_decide_eq_true (by kernel_rfl)) rfl rfl rfl rfl (fun _ _ _ _ _ h => h) ?_
            intro a9 v9 h6 h7 hd hz9 hf9 SB _KP
            go_wp2_with fail
            refine bodyPost_ret (results_cell2 (p := 6) (q := 7) Tryd.results37 a9.tmps v9 (w.heap.size + 2) (w.heap.size + 3) 107 52 (zC z5) (frC { f with has := n1, text := x } s t) (0, 0) (0, 0) _ _ h6 hz9 Tryd.underlying107 rfl (by kernel_rfl) h7 hf9 Tryd.underlying52 rfl (by kernel_rfl)) hd ?_
            rw [HF.out]
            exact ⟨s, t, rfl, SB, HS.out.on SB, HT.out.on SB, X5.out.good, fun _ => rfl, fun _ => rfl⟩
      · have h32' : ¬ (n2 : Int) ≤ 32 := by omega
        have hv1 : valueB n1 x = false := by rw [valueB, decide_eq_false (by rw [HEX.out]; exact h32)]; rfl
        go_wp2_with (first | (refine wpList_load_row rfl 107 (.tmp 3) rfl w.heap.size rfl 107 (zC z4) (0, 0) _ R5.out Tryd.underlying107 rfl (by kernel_rfl) ?_))
        with_reducible refine (HM.out _).mono ?_
        rintro e w5 ⟨rfl, hB⟩
        obtain ⟨z5, hq⟩ : ∃ zq, rMust z4 false = zq := ⟨_, rfl⟩
        have K5 := Lib.hid (show z5.ok by rw [← hq]; exact rMust_ok K4.out)
        have T5 := Lib.hid (X4.out.on hB)
        have Q5 := Lib.hid (blk_raw T5.out.zb)
        have O5 := Lib.hid (zC_one z5)
        have HTY : Hid (rText z2 n2 n1 = (z5, x)) := Lib.hid (by rw [HTX.out, hv1, hq])
        rw [hq]
        clear hB HM R5 X4 y8 hq hv1
        go_upto_region 76 with (first | (refine wpList_store_row rfl 107 (.tmp 3) (.tmp 173) rfl w.heap.size (zC z5) rfl rfl 107 (zC z4) Q5.out (by kernel_rfl) rfl O5.out ?_))
        obtain ⟨v5, hv⟩ : ∃ vq, vq = w5.setRow w.heap.size (zC z5) := ⟨_, rfl⟩
        have X5 : Hid (RF w z5 { f with has := n1, text := x } s t v5) := Lib.hid (by rw [hv]; exact T5.out.setz K5.out)
        rw [← hv]
        clear hv T5 Q5 O5
        have hF : rField 86 f z = ({ f with has := n1, text := x }, z5) := by rw [HR.out, HTY.out]
        have HF := Lib.hid hF
        clear hF
        refine ret_region X5.out OS.out OT.out (of_decide_eq_true (by kernel_rfl)) rfl rfl rfl rfl (fun _ _ _ _ _ h => h) ?_
        intro a9 v9 h6 h7 hd hz9 hf9 SB _KP
        go_wp2_with fail
        refine bodyPost_ret (results_cell2 (p := 6) (q := 7) Tryd.results37 a9.tmps v9 (w.heap.size + 2) (w.heap.size + 3) 107 52 (zC z5) (frC { f with has := n1, text := x } s t) (0, 0) (0, 0) _ _ h6 hz9 Tryd.underlying107 rfl (by kernel_rfl) h7 hf9 Tryd.underlying52 rfl (by kernel_rfl)) hd ?_
        rw [HF.out]
        exact ⟨s, t, rfl, SB, HS.out.on SB, HT.out.on SB, X5.out.good, fun _ => rfl, fun _ => rfl⟩
  · have he' : (z2.err == 0) = false := by simpa using he
    have hT : rText z2 n2 n1 = (z2, ⟨#[]⟩) := by unfold rText; rw [if_neg he]
    have HTX := Lib.hid hT
    clear hT
    go_upto_region 76 with fail
    clear cS cA cE fA fE
    have hF : rField 86 f z = ({ f with has := n1 }, z2) := by rw [HR.out, HTX.out]; simp only; rw [HA.out]
    have HF := Lib.hid hF
    clear hF
    refine ret_region X2.out OS.out OT.out (of_decide_eq_true (by kernel_rfl)) rfl rfl rfl rfl (fun _ _ _ _ _ h => h) ?_
    intro a9 v9 h6 h7 hd hz9 hf9 SB _KP
    go_wp2_with fail
    refine bodyPost_ret (results_cell2 (p := 6) (q := 7) Tryd.results37 a9.tmps v9 (w.heap.size + 2) (w.heap.size + 3) 107 52 (zC z2) (frC { f with has := n1 } s t) (0, 0) (0, 0) _ _ h6 hz9 Tryd.underlying107 rfl (by kernel_rfl) h7 hf9 Tryd.underlying52 rfl (by kernel_rfl)) hd ?_
    rw [HF.out]
    exact ⟨s, t, rfl, SB, HS.out.on SB, HT.out.on SB, X2.out.good, fun _ => rfl, fun _ => rfl⟩
set_option maxHeartbeats 4000000 in
set_option maxRecDepth 20000 in
theorem rfield_t (f : Fr) (z : Zs) (s t : Value) (b0 : Nat) (w : World) (hz : z.ok) (hs : memR.Own 77 w b0 s f.ms) (ht : entR.Own 83 w b0 t f.es) (hb0 : b0 ≤ w.heap.size) (hE : f.es = []) (hnil : t = .slice none 0 0) :
    Calls Tryd.prog 37 #[.agg (zC z), .agg (frC f s t), .int .u8 116] w (RFieldP 116 (rField 78 f z) s t b0 w) := by
  have OS := Lib.hid (own_1 hs)
  have OT := Lib.hid (own_1 ht)
  have HS := Lib.hid hs
  have HT := Lib.hid ht
  have T := Lib.hid (RF.start (w := w) (f := f) (s := s) (t := t) hz)
  have HES := Lib.hid hE
  have HB0 := Lib.hid hb0
  have hTn : entR.Own 83 w w.heap.size t [] := by rw [hnil]; exact World.ownsRow_nil _ _ _ _
  have HTN := Lib.hid hTn
  clear hs ht hz hE hb0 hnil hTn
  go_enter Tryd.func37, Tryd.ntmps37
  go_upto_region 1 with fail
  obtain ⟨v0, hv0⟩ : ∃ v0, v0 = (((w.alloc (.cells (zC z) 107)).alloc (.cells (frC f s t) 52)).alloc (.cells z0C 107)).alloc (.cells z34 52) := ⟨_, rfl⟩
  rw [← hv0] at T ⊢
  clear hv0
  have R1 := Lib.hid (blk_raw T.out.zb)
  obtain ⟨z1, n1, hq⟩ : ∃ zq nq, rNum z 1 = (zq, nq) := ⟨_, _, rfl⟩
  have E1 := Lib.hid hq
  have K1 := Lib.hid (show z1.ok by have h := rNum_ok (k := 1) T.out.good; rw [show rNum z 1 = (z1, n1) from hq] at h; exact h)
  have L1 : n1 < 256 ^ 1 := by have h := rNum_lt z 1 (by decide); rw [hq] at h; exact h
  have U1 : IntKind.u8.wrap (n1 : Int) = (n1 : Int) := IntWalk.u8_in _ (by omega)
  have H1 : Hid (Calls Tryd.prog 35 #[.agg #[.string z.s, .int .i64 z.at_, .int .i64 z.err], .int .i64 1] v0 (NumZ (z1, n1) v0)) := Lib.hid (by rw [← hq]; exact rnum1_any z v0 T.out.good)
  clear hq
  go_wp2_with (first | (refine wpList_load_row rfl 107 (.tmp 3) rfl w.heap.size rfl 107 (zC z) (0, 0) _ R1.out Tryd.underlying107 rfl (by kernel_rfl) ?_))
  with_reducible refine H1.out.mono ?_
  rintro e w1 ⟨rfl, hB⟩
  have T1 := Lib.hid (T.out.on hB)
  have Q1 := Lib.hid (blk_raw T1.out.zb)
  have O1 := Lib.hid (zC_one z1)
  clear hB H1 R1 T
  go_upto_region 4 with (first | (refine wpList_store_row rfl 107 (.tmp 3) (.tmp 20) rfl w.heap.size (zC z1) rfl rfl 107 (zC z) Q1.out (by kernel_rfl) rfl O1.out ?_))
  obtain ⟨v1, hv⟩ : ∃ vq, vq = w1.setRow w.heap.size (zC z1) := ⟨_, rfl⟩
  have X1 : Hid (RF w z1 f s t v1) := Lib.hid (by rw [hv]; exact T1.out.setz K1.out)
  rw [← hv]
  clear hv T1 Q1 O1
  have R2 := Lib.hid (blk_raw X1.out.zb)
  obtain ⟨z2, hq⟩ : ∃ zq, rMust z1 (decide (n1 ≤ 16)) = zq := ⟨_, rfl⟩
  have E2 := Lib.hid hq
  have K2 := Lib.hid (show z2.ok by rw [← hq]; exact rMust_ok X1.out.good)
  have hdd : (decide ((n1 : Int) ≤ 16)) = (decide (n1 ≤ 16)) := decide_eq_decide.2 (by omega)
  have H2 : Hid (Calls Tryd.prog 36 #[.agg #[.string z1.s, .int .i64 z1.at_, .int .i64 z1.err], .bool (decide ((n1 : Int) ≤ 16))] v1 (fun e w2 => e = .returned (.agg (zC z2)) ∧ Below (v1).heap.size (v1) w2)) := Lib.hid (by rw [hdd, ← hq]; exact rmustZ_any z1 _ _)
  clear hq hdd
  go_wp2_with (first | (refine wpList_load_row rfl 107 (.tmp 3) rfl w.heap.size rfl 107 (zC z1) (0, 0) _ R2.out Tryd.underlying107 rfl (by kernel_rfl) ?_))
  with_reducible refine H2.out.mono ?_
  rintro e w2 ⟨rfl, hB⟩
  have T2 := Lib.hid (X1.out.on hB)
  have Q2 := Lib.hid (blk_raw T2.out.zb)
  have O2 := Lib.hid (zC_one z2)
  clear hB H2 R2 X1
  go_upto_region 5 with (first | (refine wpList_store_row rfl 107 (.tmp 3) (.tmp 25) rfl w.heap.size (zC z2) rfl rfl 107 (zC z1) Q2.out (by kernel_rfl) rfl O2.out ?_))
  obtain ⟨v2, hv⟩ : ∃ vq, vq = w2.setRow w.heap.size (zC z2) := ⟨_, rfl⟩
  have X2 : Hid (RF w z2 f s t v2) := Lib.hid (by rw [hv]; exact T2.out.setz K2.out)
  rw [← hv]
  clear hv T2 Q2 O2
  obtain ⟨i0, hi0, hz0, hz1, hz2⟩ := infoPRE
  have HI := Lib.hid (And.intro hi0 (And.intro hz0 (And.intro hz1 hz2)))
  clear hi0 hz0 hz1 hz2
  obtain ⟨zS, hzS⟩ : ∃ zq, zq = z2 := ⟨_, rfl⟩
  obtain ⟨nS, hnS⟩ : ∃ nq, nq = n1 := ⟨_, rfl⟩
  have hf0 : ({ f with es := [] } : Fr) = f := by rw [← HES.out]
  have LS : nS < 256 := by rw [hnS]; omega
  have hR : rField 78 f z = ({ f with es := (rEnts nS zS []).2 }, (rEnts nS zS []).1) := by
    show (({ f with es := (rEnts (rNum z 1).2 (rMust (rNum z 1).1 (decide ((rNum z 1).2 ≤ 16))) []).2 } : Fr), (rEnts (rNum z 1).2 (rMust (rNum z 1).1 (decide ((rNum z 1).2 ≤ 16))) []).1) = _
    rw [E1.out]; simp only; rw [E2.out, hzS, hnS]
  have HR := Lib.hid hR
  have OWN2 : Hid (entR.Own 83 v2 w.heap.size t []) := Lib.hid (HTN.out.on X2.out.bw)
  have HST : Hid (REntLoop w f s nS zS (.int .u32 0) v2) := Lib.hid ⟨0, zS, [], t, Nat.zero_le _, rfl, rfl, by rw [hzS, hf0]; exact X2.out, OWN2.out, rfl⟩
  rw [← hnS]
  clear hR hf0 X2 E1 E2 K1 K2 L1 U1 hzS hnS OWN2 HTN
  go_wp2_with fail
  go_loopw [13] (fun i wr => REntLoop w f s nS zS i wr) (fun i _ => nS - (intOf i).toNat)
  case atStart => exact HST.out
  case round =>
    obtain ⟨k, zk, lk, v, hk, rfl, hl, hT, hO, hE⟩ := hrel
    have TK := Lib.hid hT
    have P0 := Lib.hid hO
    have EK := Lib.hid hE
    have cE : wr.cell? ⟨w.heap.size, 2, none⟩ = some (.int .i64 zk.err) := hT.zb.cell 2
    have lW : w.heap.size + 3 < wr.heap.size := hT.qb.lt
    clear HST hT hO hE
    by_cases h1 : k < nS
    · by_cases he : zk.err = 0
      · have he' : (zk.err == 0) = true := by rw [he]; rfl
        go_upto_region 10 with fail
        clear cE he'
        have HE0 := Lib.hid he
        have H1K := Lib.hid h1
        have HLK := Lib.hid hl
        clear he
        obtain ⟨M, hM⟩ : ∃ M, M = wr.heap.size := ⟨_, rfl⟩
        obtain ⟨v0, hv⟩ : ∃ vq, vq = wr.alloc (.cells z8E 83) := ⟨_, rfl⟩
        have X0 : Hid (RG w zk { f with es := lk } s v M 83 z8E v0) := Lib.hid (by rw [hv, hM]; exact ⟨TK.out.al _, Blk.new rfl, lW⟩)
        have PX : Hid (entR.Own 83 v0 w.heap.size v lk) := Lib.hid (by rw [hv]; exact P0.out.al _)
        have HNE : Hid (v.ownBlock ≠ some M) := Lib.hid (by rw [hM]; exact own_fresh_ne P0.out)
        rw [← hv, ← hM]
        clear hv TK P0 lW hM
        have P0 := PX
        clear PX
        have R1 := Lib.hid (blk_raw X0.out.rf.zb)
        obtain ⟨z1, n1, hq⟩ : ∃ zq nq, rNum zk 4 = (zq, nq) := ⟨_, _, rfl⟩
        have E1 := Lib.hid hq
        have K1 := Lib.hid (show z1.ok by have h : (rNum zk 4).1.ok := rNum_ok (k := 4) X0.out.rf.good; rw [hq] at h; exact h)
        have L1 : n1 < 256 ^ 4 := by have h := rNum_lt zk 4 (by decide); rw [hq] at h; exact h
        have H1 : Hid (Calls Tryd.prog 35 #[.agg #[.string zk.s, .int .i64 zk.at_, .int .i64 zk.err], .int .i64 4] v0 (NumZ (z1, n1) v0)) := Lib.hid (by rw [← hq]; exact rnum4_any zk v0 X0.out.rf.good)
        clear hq
        go_wp2_with (first | (refine wpList_load_row rfl 107 (.tmp 3) rfl w.heap.size rfl 107 (zC zk) (0, 0) _ R1.out Tryd.underlying107 rfl (by kernel_rfl) ?_))
        with_reducible refine H1.out.mono ?_
        rintro e w1 ⟨rfl, hB⟩
        have T1 := Lib.hid (X0.out.on hB)
        have P1 := Lib.hid (P0.out.on hB)
        have Q1 := Lib.hid (blk_raw T1.out.rf.zb)
        have O1 := Lib.hid (zC_one z1)
        clear hB H1 R1 X0 P0
        have Y1 := Lib.hid (T1.out.setz K1.out)
        have y0 := Y1.out.mb.cell 0
        have x0 := Y1.out.mb.frozen 0
        simp at y0
        have PY := Lib.hid (own_setRow P1.out T1.out.rf.zb (by decide) (zC z1))
        go_upto_region 11 with (first | (refine wpList_store_row rfl 107 (.tmp 3) (.tmp 39) rfl w.heap.size (zC z1) rfl rfl 107 (zC zk) Q1.out (by kernel_rfl) rfl O1.out ?_))
        obtain ⟨v1, hv⟩ : ∃ vq, vq = (w1.setRow w.heap.size (zC z1)).setCell ⟨M, 0, none⟩ (.int .u32 n1) := ⟨_, rfl⟩
        have X1 : Hid (RG w z1 { f with es := lk } s v M 83 #[.int .u32 n1, .int .u32 0, .int .u8 0, .int .u8 0, .int .u8 0, .int .u8 0, .int .u32 0, .int .u32 0] v1) := Lib.hid (by rw [hv]; exact (RG.setm (cs' := #[.int .u32 n1, .int .u32 0, .int .u8 0, .int .u8 0, .int .u8 0, .int .u8 0, .int .u32 0, .int .u32 0]) Y1.out 0 (.int .u32 n1) rfl))
        have PX : Hid ((fun wq => entR.Own 83 wq w.heap.size v lk) v1) := Lib.hid (by rw [hv]; exact (own_setne PY.out HNE.out 0 (.int .u32 n1)))
        rw [← hv]
        clear hv Y1 T1 Q1 O1 PY P1 y0 x0
        have P1 := PX
        clear PX
        have R2 := Lib.hid (blk_raw X1.out.rf.zb)
        obtain ⟨z2, n2, hq⟩ : ∃ zq nq, rNum z1 4 = (zq, nq) := ⟨_, _, rfl⟩
        have E2 := Lib.hid hq
        have K2 := Lib.hid (show z2.ok by have h : (rNum z1 4).1.ok := rNum_ok (k := 4) X1.out.rf.good; rw [hq] at h; exact h)
        have L2 : n2 < 256 ^ 4 := by have h := rNum_lt z1 4 (by decide); rw [hq] at h; exact h
        have H2 : Hid (Calls Tryd.prog 35 #[.agg #[.string z1.s, .int .i64 z1.at_, .int .i64 z1.err], .int .i64 4] v1 (NumZ (z2, n2) v1)) := Lib.hid (by rw [← hq]; exact rnum4_any z1 v1 X1.out.rf.good)
        clear hq
        go_wp2_with (first | (refine wpList_load_row rfl 107 (.tmp 3) rfl w.heap.size rfl 107 (zC z1) (0, 0) _ R2.out Tryd.underlying107 rfl (by kernel_rfl) ?_))
        with_reducible refine H2.out.mono ?_
        rintro e w2 ⟨rfl, hB⟩
        have T2 := Lib.hid (X1.out.on hB)
        have P2 := Lib.hid (P1.out.on hB)
        have Q2 := Lib.hid (blk_raw T2.out.rf.zb)
        have O2 := Lib.hid (zC_one z2)
        clear hB H2 R2 X1 P1
        have Y2 := Lib.hid (T2.out.setz K2.out)
        have y1 := Y2.out.mb.cell 1
        have x1 := Y2.out.mb.frozen 1
        simp at y1
        have PY := Lib.hid (own_setRow P2.out T2.out.rf.zb (by decide) (zC z2))
        go_upto_region 12 with (first | (refine wpList_store_row rfl 107 (.tmp 3) (.tmp 45) rfl w.heap.size (zC z2) rfl rfl 107 (zC z1) Q2.out (by kernel_rfl) rfl O2.out ?_))
        obtain ⟨v2, hv⟩ : ∃ vq, vq = (w2.setRow w.heap.size (zC z2)).setCell ⟨M, 1, none⟩ (.int .u32 n2) := ⟨_, rfl⟩
        have X2 : Hid (RG w z2 { f with es := lk } s v M 83 #[.int .u32 n1, .int .u32 n2, .int .u8 0, .int .u8 0, .int .u8 0, .int .u8 0, .int .u32 0, .int .u32 0] v2) := Lib.hid (by rw [hv]; exact (RG.setm (cs' := #[.int .u32 n1, .int .u32 n2, .int .u8 0, .int .u8 0, .int .u8 0, .int .u8 0, .int .u32 0, .int .u32 0]) Y2.out 1 (.int .u32 n2) rfl))
        have PX : Hid ((fun wq => entR.Own 83 wq w.heap.size v lk) v2) := Lib.hid (by rw [hv]; exact (own_setne PY.out HNE.out 1 (.int .u32 n2)))
        rw [← hv]
        clear hv Y2 T2 Q2 O2 PY P2 y1 x1
        have P2 := PX
        clear PX
        have R3 := Lib.hid (blk_raw X2.out.rf.zb)
        obtain ⟨z3, n3, hq⟩ : ∃ zq nq, rNum z2 1 = (zq, nq) := ⟨_, _, rfl⟩
        have E3 := Lib.hid hq
        have K3 := Lib.hid (show z3.ok by have h : (rNum z2 1).1.ok := rNum_ok (k := 1) X2.out.rf.good; rw [hq] at h; exact h)
        have L3 : n3 < 256 ^ 1 := by have h := rNum_lt z2 1 (by decide); rw [hq] at h; exact h
        have U3 : IntKind.u8.wrap (n3 : Int) = (n3 : Int) := IntWalk.u8_in _ (by omega)
        have H3 : Hid (Calls Tryd.prog 35 #[.agg #[.string z2.s, .int .i64 z2.at_, .int .i64 z2.err], .int .i64 1] v2 (NumZ (z3, n3) v2)) := Lib.hid (by rw [← hq]; exact rnum1_any z2 v2 X2.out.rf.good)
        clear hq
        go_wp2_with (first | (refine wpList_load_row rfl 107 (.tmp 3) rfl w.heap.size rfl 107 (zC z2) (0, 0) _ R3.out Tryd.underlying107 rfl (by kernel_rfl) ?_))
        with_reducible refine H3.out.mono ?_
        rintro e w3 ⟨rfl, hB⟩
        have T3 := Lib.hid (X2.out.on hB)
        have P3 := Lib.hid (P2.out.on hB)
        have Q3 := Lib.hid (blk_raw T3.out.rf.zb)
        have O3 := Lib.hid (zC_one z3)
        clear hB H3 R3 X2 P2
        go_upto_region 13 with (first | (refine wpList_store_row rfl 107 (.tmp 3) (.tmp 51) rfl w.heap.size (zC z3) rfl rfl 107 (zC z2) Q3.out (by kernel_rfl) rfl O3.out ?_))
        obtain ⟨v3, hv⟩ : ∃ vq, vq = w3.setRow w.heap.size (zC z3) := ⟨_, rfl⟩
        have X3 : Hid (RG w z3 { f with es := lk } s v M 83 #[.int .u32 n1, .int .u32 n2, .int .u8 0, .int .u8 0, .int .u8 0, .int .u8 0, .int .u32 0, .int .u32 0] v3) := Lib.hid (by rw [hv]; exact T3.out.setz K3.out)
        have PX : Hid ((fun wq => entR.Own 83 wq w.heap.size v lk) v3) := Lib.hid (by rw [hv]; exact own_setRow P3.out T3.out.rf.zb (by decide) (zC z3))
        rw [← hv]
        clear hv T3 Q3 O3 P3
        have P3 := PX
        clear PX
        have y2 := X3.out.mb.cell 2
        have x2 := X3.out.mb.frozen 2
        simp at y2
        go_upto_region 14 with fail
        obtain ⟨u3, hv⟩ : ∃ vq, vq = v3.setCell ⟨M, 2, none⟩ (.int .u8 n3) := ⟨_, rfl⟩
        have V3 : Hid (RG w z3 { f with es := lk } s v M 83 #[.int .u32 n1, .int .u32 n2, .int .u8 n3, .int .u8 0, .int .u8 0, .int .u8 0, .int .u32 0, .int .u32 0] u3) := Lib.hid (by rw [hv]; exact X3.out.setm 2 _ rfl)
        have PX : Hid ((fun wq => entR.Own 83 wq w.heap.size v lk) u3) := Lib.hid (by rw [hv]; exact own_setne P3.out HNE.out 2 _)
        rw [← hv]
        clear hv y2 x2 X3 P3
        have P3 := PX
        clear PX
        have R4 := Lib.hid (blk_raw V3.out.rf.zb)
        obtain ⟨z4, n4, hq⟩ : ∃ zq nq, rCmd z3 = (zq, nq) := ⟨_, _, rfl⟩
        have E4 := Lib.hid hq
        have K4 := Lib.hid (show z4.ok by have h : (rCmd z3).1.ok := rNum_ok (rNum_ok (rNum_ok (rNum_ok (rNum_ok V3.out.rf.good)))); rw [hq] at h; exact h)
        have H4 : Hid (Calls Tryd.prog 67 #[.agg (zC z3)] u3 (CmdZ (z4, n4) u3)) := Lib.hid (by rw [← hq]; exact rcmdZ_any z3 u3 V3.out.rf.good)
        clear hq
        go_wp2_with (first | (refine wpList_load_row rfl 107 (.tmp 3) rfl w.heap.size rfl 107 (zC z3) (0, 0) _ R4.out Tryd.underlying107 rfl (by kernel_rfl) ?_))
        with_reducible refine H4.out.mono ?_
        rintro e w4 ⟨rfl, hB⟩
        have T4 := Lib.hid (V3.out.on hB)
        have P4 := Lib.hid (P3.out.on hB)
        have Q4 := Lib.hid (blk_raw T4.out.rf.zb)
        have O4 := Lib.hid (zC_one z4)
        clear hB H4 R4 V3 P3
        have Y4 := Lib.hid (T4.out.setz K4.out)
        have y3 := Y4.out.mb.cell 3
        have x3 := Y4.out.mb.frozen 3
        simp at y3
        have y4 := Y4.out.mb.cell 4
        have x4 := Y4.out.mb.frozen 4
        simp at y4
        have y5 := Y4.out.mb.cell 5
        have x5 := Y4.out.mb.frozen 5
        simp at y5
        have y6 := Y4.out.mb.cell 6
        have x6 := Y4.out.mb.frozen 6
        simp at y6
        have y7 := Y4.out.mb.cell 7
        have x7 := Y4.out.mb.frozen 7
        simp at y7
        have PY := Lib.hid (own_setRow P4.out T4.out.rf.zb (by decide) (zC z4))
        go_upto_region 15 with (first | (refine wpList_store_row rfl 107 (.tmp 3) (.tmp 59) rfl w.heap.size (zC z4) rfl rfl 107 (zC z3) Q4.out (by kernel_rfl) rfl O4.out ?_))
        obtain ⟨v4, hv⟩ : ∃ vq, vq = (((((w4.setRow w.heap.size (zC z4)).setCell ⟨M, 3, none⟩ (.int .u8 n4.k)).setCell ⟨M, 4, none⟩ (.int .u8 n4.n)).setCell ⟨M, 5, none⟩ (.int .u8 n4.l)).setCell ⟨M, 6, none⟩ (.int .u32 n4.e)).setCell ⟨M, 7, none⟩ (.int .u32 n4.r) := ⟨_, rfl⟩
        have X4 : Hid (RG w z4 { f with es := lk } s v M 83 #[.int .u32 n1, .int .u32 n2, .int .u8 n3, .int .u8 n4.k, .int .u8 n4.n, .int .u8 n4.l, .int .u32 n4.e, .int .u32 n4.r] v4) := Lib.hid (by rw [hv]; exact (RG.setm (cs' := #[.int .u32 n1, .int .u32 n2, .int .u8 n3, .int .u8 n4.k, .int .u8 n4.n, .int .u8 n4.l, .int .u32 n4.e, .int .u32 n4.r]) (RG.setm (cs' := #[.int .u32 n1, .int .u32 n2, .int .u8 n3, .int .u8 n4.k, .int .u8 n4.n, .int .u8 n4.l, .int .u32 n4.e, .int .u32 0]) (RG.setm (cs' := #[.int .u32 n1, .int .u32 n2, .int .u8 n3, .int .u8 n4.k, .int .u8 n4.n, .int .u8 n4.l, .int .u32 0, .int .u32 0]) (RG.setm (cs' := #[.int .u32 n1, .int .u32 n2, .int .u8 n3, .int .u8 n4.k, .int .u8 n4.n, .int .u8 0, .int .u32 0, .int .u32 0]) (RG.setm (cs' := #[.int .u32 n1, .int .u32 n2, .int .u8 n3, .int .u8 n4.k, .int .u8 0, .int .u8 0, .int .u32 0, .int .u32 0]) Y4.out 3 (.int .u8 n4.k) rfl) 4 (.int .u8 n4.n) rfl) 5 (.int .u8 n4.l) rfl) 6 (.int .u32 n4.e) rfl) 7 (.int .u32 n4.r) rfl))
        have PX : Hid ((fun wq => entR.Own 83 wq w.heap.size v lk) v4) := Lib.hid (by rw [hv]; exact (own_setne (own_setne (own_setne (own_setne (own_setne PY.out HNE.out 3 (.int .u8 n4.k)) HNE.out 4 (.int .u8 n4.n)) HNE.out 5 (.int .u8 n4.l)) HNE.out 6 (.int .u32 n4.e)) HNE.out 7 (.int .u32 n4.r)))
        rw [← hv]
        clear hv Y4 T4 Q4 O4 PY P4 y3 x3 y4 x4 y5 x5 y6 x6 y7 x7
        have P4 := PX
        clear PX
        obtain ⟨yy, hyy⟩ : ∃ yq : Ent, yq = ⟨n1, n2, n3, n4⟩ := ⟨_, rfl⟩
        have hEnt : rEnt zk = (z4, yy) := by
          show ((rCmd (rNum (rNum (rNum zk 4).1 4).1 1).1).1, (⟨(rNum zk 4).2, (rNum (rNum zk 4).1 4).2, (rNum (rNum (rNum zk 4).1 4).1 1).2, (rCmd (rNum (rNum (rNum zk 4).1 4).1 1).1).2⟩ : Ent)) = _
          rw [E1.out]; simp only; rw [E2.out]; simp only; rw [E3.out]; simp only; rw [E4.out, hyy]
        have EK2 := Lib.hid (show rEnts (nS - (k + 1)) z4 (lk ++ [yy]) = rEnts nS zS [] by rw [← EK.out, rEnts_go H1K.out HE0.out, hEnt])
        have X4 : Hid (RG w z4 { f with es := lk } s v M 83 (entA yy) v4) := Lib.hid (by rw [hyy]; exact X4.out)
        clear hEnt hyy EK HE0 E1 E2 E3 E4 K1 K2 K3 K4 L1 L2 L3 U3
        have y0 : v4.cell? ⟨M, 0, none⟩ = some (.int .u32 yy.s) := X4.out.mb.cell 0
        have y1 : v4.cell? ⟨M, 1, none⟩ = some (.int .u32 yy.n) := X4.out.mb.cell 1
        have y2 : v4.cell? ⟨M, 2, none⟩ = some (.int .u8 yy.b) := X4.out.mb.cell 2
        have y3 : v4.cell? ⟨M, 3, none⟩ = some (.int .u8 yy.c.k) := X4.out.mb.cell 3
        have y4 : v4.cell? ⟨M, 4, none⟩ = some (.int .u8 yy.c.n) := X4.out.mb.cell 4
        have y5 : v4.cell? ⟨M, 5, none⟩ = some (.int .u8 yy.c.l) := X4.out.mb.cell 5
        have y6 : v4.cell? ⟨M, 6, none⟩ = some (.int .u32 yy.c.e) := X4.out.mb.cell 6
        have y7 : v4.cell? ⟨M, 7, none⟩ = some (.int .u32 yy.c.r) := X4.out.mb.cell 7
        have cX : v4.cell? ⟨w.heap.size + 1, 33, none⟩ = some v := X4.out.rf.xb.cell 33
        have lX := X4.out.rf.xb.lt
        have lM := X4.out.mb.lt
        have TA := Lib.hid (X4.out.rf.al (.cells (entA yy) 83))
        have PA := Lib.hid (P4.out.al (.cells (entA yy) 83))
        have NB := Lib.hid (Blk.new (w := v4) (B := v4.heap.size) (T := 83) (cs := entA yy) rfl)
        go_wp2_with (at_builtin; refine wpList_append_own1 _ rfl _ _ 50 rfl w.heap.size 83 i0 _ 8 24 Tryd.underlying50 HI.out.1 HI.out.2.1 HI.out.2.2.1 HI.out.2.2.2 rfl (by decide) _ _ _ rfl PA.out ⟨v4.heap.size, 0, none⟩ 1 1 (entR.f yy) rfl rfl ?qn (entR.one yy) (by rw [HLK.out]; unfold maxLen; omega) (by rw [HLK.out]; omega) (by simp; omega) (by decide) ?_)
        case qn => exact fun _ _ hu => hu
        intro g9 cap9 w8 hg hown hgrow
        have P8 : Hid (entR.Own 83 w8 w.heap.size (.slice (some ⟨g9, 0, none⟩) (k + 1) cap9) (lk ++ [yy])) := Lib.hid (by unfold RK.Own; rw [List.length_append, RK.row_snoc, HLK.out]; exact hown)
        have T8 := Lib.hid (TA.out.row PA.out (by decide) (by decide) hgrow)
        clear hown hgrow hg TA NB y0 y1 y2 y3 y4 y5 y6 y7 cX lX lM P4 PA X4
        have cX : w8.cell? ⟨w.heap.size + 1, 33, none⟩ = some v := T8.out.xb.cell 33
        have fX := T8.out.xb.frozen 33
        have hu : IntKind.u32.wrap ((k : Int) + 1) = (k : Int) + 1 := IntWalk.u32_in _ (by omega)
        have HREL : Hid (REntLoop w f s nS zS (.int .u32 ((k : Int) + 1)) (w8.setCell ⟨w.heap.size + 1, 33, none⟩ (.slice (some ⟨g9, 0, none⟩) (k + 1) cap9))) := Lib.hid ⟨k + 1, z4, lk ++ [yy], _, by omega, by go_num, by rw [List.length_append, HLK.out]; rfl, T8.out.setf 33 _ rfl, own_set P8.out T8.out.xb (by decide) 33 _, EK2.out⟩
        clear T8 P8 EK2
        go_wp2_with fail
        go_roundw
        case rel => exact HREL.out
        case measure => simp [intOf]; omega
      · have he' : (zk.err == 0) = false := by simpa using he
        have HX1 : Hid (rEnts nS zS [] = (zk, lk)) := Lib.hid (by rw [← EK.out]; exact rEnts_stay _ he)
        clear he
        go_upto_region 76 with fail
        clear he' cE lW
        have hF : rField 78 f z = ({ f with es := lk }, zk) := by rw [HR.out, HX1.out]
        have HF := Lib.hid hF
        clear hF
        refine ret_region TK.out OS.out (own_1 P0.out) (of_decide_eq_true (by kernel_rfl)) rfl rfl rfl rfl (fun _ _ _ _ _ h => h) ?_
        intro a9 v9 h6 h7 hd hz9 hf9 SB KP
        go_wp2_with fail
        refine bodyPost_ret (results_cell2 (p := 6) (q := 7) Tryd.results37 a9.tmps v9 (w.heap.size + 2) (w.heap.size + 3) 107 52 (zC zk) (frC { f with es := lk } s v) (0, 0) (0, 0) _ _ h6 hz9 Tryd.underlying107 rfl (by kernel_rfl) h7 hf9 Tryd.underlying52 rfl (by kernel_rfl)) hd ?_
        rw [HF.out]
        exact ⟨s, v, rfl, SB, HS.out.on SB, own_mono (own_kept P0.out TK.out (by decide) (by decide) KP) HB0.out, TK.out.good, fun _ => rfl, fun h => absurd rfl h⟩
    · have h1' : ¬ (k : Int) < (nS : Int) := by omega
      have HX1 : Hid (rEnts nS zS [] = (zk, lk)) := Lib.hid (by rw [← EK.out, show nS - k = 0 by omega]; rfl)
      go_upto_region 76 with fail
      clear cE lW
      have hF : rField 78 f z = ({ f with es := lk }, zk) := by rw [HR.out, HX1.out]
      have HF := Lib.hid hF
      clear hF
      refine ret_region TK.out OS.out (own_1 P0.out) (of_decide_eq_true (by kernel_rfl)) rfl rfl rfl rfl (fun _ _ _ _ _ h => h) ?_
      intro a9 v9 h6 h7 hd hz9 hf9 SB KP
      go_wp2_with fail
      refine bodyPost_ret (results_cell2 (p := 6) (q := 7) Tryd.results37 a9.tmps v9 (w.heap.size + 2) (w.heap.size + 3) 107 52 (zC zk) (frC { f with es := lk } s v) (0, 0) (0, 0) _ _ h6 hz9 Tryd.underlying107 rfl (by kernel_rfl) h7 hf9 Tryd.underlying52 rfl (by kernel_rfl)) hd ?_
      rw [HF.out]
      exact ⟨s, v, rfl, SB, HS.out.on SB, own_mono (own_kept P0.out TK.out (by decide) (by decide) KP) HB0.out, TK.out.good, fun _ => rfl, fun h => absurd rfl h⟩
end Go.Proofs.YtodajejjhfpdmaaDoor
