/-
  The document's reading of one field: epochs, keys, stamps, flags, directions.
-/
import Derived.Test.YtodajejjhfpdmaaDoorFrrF
namespace Go.Proofs.YtodajejjhfpdmaaDoor
open Go.RowKit Go.Instr

set_option maxHeartbeats 4000000 in
set_option maxRecDepth 20000 in
theorem rfield_e (f : Fr) (z : Zs) (s t : Value) (b0 : Nat) (w : World) (hz : z.ok) (hs : memR.Own 77 w b0 s f.ms) (ht : entR.Own 83 w b0 t f.es) :
    Calls Tryd.prog 37 #[.agg (zC z), .agg (frC f s t), .int .u8 101] w (RFieldP 101 (rField 69 f z) s t b0 w) := by
  have OS := Lib.hid (own_1 hs)
  have OT := Lib.hid (own_1 ht)
  have HS := Lib.hid hs
  have HT := Lib.hid ht
  have T := Lib.hid (RF.start (w := w) (f := f) (s := s) (t := t) hz)
  clear hs ht hz
  go_enter Tryd.func37, Tryd.ntmps37
  go_upto_region 1 with fail
  obtain ⟨v0, hv0⟩ : ∃ v0, v0 = (((w.alloc (.cells (zC z) 107)).alloc (.cells (frC f s t) 52)).alloc (.cells z0C 107)).alloc (.cells z34 52) := ⟨_, rfl⟩
  rw [← hv0] at T ⊢
  clear hv0
  have R1 := Lib.hid (blk_raw T.out.zb)
  obtain ⟨z1, n1, hq⟩ : ∃ zq nq, rNum z 4 = (zq, nq) := ⟨_, _, rfl⟩
  have E1 := Lib.hid hq
  have K1 := Lib.hid (show z1.ok by have h := rNum_ok (k := 4) T.out.good; rw [show rNum z 4 = (z1, n1) from hq] at h; exact h)
  have L1 : n1 < 256 ^ 4 := by have h := rNum_lt z 4 (by decide); rw [hq] at h; exact h
  have H1 : Hid (Calls Tryd.prog 35 #[.agg #[.string z.s, .int .i64 z.at_, .int .i64 z.err], .int .i64 4] v0 (NumZ (z1, n1) v0)) := Lib.hid (by rw [← hq]; exact rnum4_any z v0 T.out.good)
  clear hq
  go_wp2_with (first | (refine wpList_load_row rfl 107 (.tmp 3) rfl w.heap.size rfl 107 (zC z) (0, 0) _ R1.out Tryd.underlying107 rfl (by kernel_rfl) ?_))
  with_reducible refine H1.out.mono ?_
  rintro e w1 ⟨rfl, hB⟩
  have T1 := Lib.hid (T.out.on hB)
  have Q1 := Lib.hid (blk_raw T1.out.zb)
  have O1 := Lib.hid (zC_one z1)
  clear hB H1 R1 T
  have Y1 := Lib.hid (T1.out.setz K1.out)
  have y1 := Y1.out.xb.cell 3
  have x1 := Y1.out.xb.frozen 3
  simp at y1
  go_upto_region 76 with (first | (refine wpList_store_row rfl 107 (.tmp 3) (.tmp 73) rfl w.heap.size (zC z1) rfl rfl 107 (zC z) Q1.out (by kernel_rfl) rfl O1.out ?_))
  obtain ⟨v1, hv⟩ : ∃ vq, vq = (w1.setRow w.heap.size (zC z1)).setCell ⟨w.heap.size + 1, 3, none⟩ (.int .u32 n1) := ⟨_, rfl⟩
  have X1 : Hid (RF w z1 { f with epoch := n1 } s t v1) := Lib.hid (by rw [hv]; exact Y1.out.setf 3 _ rfl)
  rw [← hv]
  clear hv Y1 y1 x1 T1 Q1 O1
  have hF : rField 69 f z = ({ f with epoch := n1 }, z1) := by show (({ f with epoch := (rNum z 4).2 } : Fr), (rNum z 4).1) = _; rw [E1.out]
  have HF := Lib.hid hF
  clear hF
  refine ret_region X1.out OS.out OT.out (of_decide_eq_true (by kernel_rfl)) rfl rfl rfl rfl (fun _ _ _ _ _ h => h) ?_
  intro a9 v9 h6 h7 hd hz9 hf9 SB _KP
  go_wp2_with fail
  refine bodyPost_ret (results_cell2 (p := 6) (q := 7) Tryd.results37 a9.tmps v9 (w.heap.size + 2) (w.heap.size + 3) 107 52 (zC z1) (frC { f with epoch := n1 } s t) (0, 0) (0, 0) _ _ h6 hz9 Tryd.underlying107 rfl (by kernel_rfl) h7 hf9 Tryd.underlying52 rfl (by kernel_rfl)) hd ?_
  rw [HF.out]
  exact ⟨s, t, rfl, SB, HS.out.on SB, HT.out.on SB, X1.out.good, fun _ => rfl, fun _ => rfl⟩
set_option maxHeartbeats 4000000 in
set_option maxRecDepth 20000 in
theorem rfield_k (f : Fr) (z : Zs) (s t : Value) (b0 : Nat) (w : World) (hz : z.ok) (hs : memR.Own 77 w b0 s f.ms) (ht : entR.Own 83 w b0 t f.es) :
    Calls Tryd.prog 37 #[.agg (zC z), .agg (frC f s t), .int .u8 107] w (RFieldP 107 (rField 75 f z) s t b0 w) := by
  have OS := Lib.hid (own_1 hs)
  have OT := Lib.hid (own_1 ht)
  have HS := Lib.hid hs
  have HT := Lib.hid ht
  have T := Lib.hid (RF.start (w := w) (f := f) (s := s) (t := t) hz)
  clear hs ht hz
  go_enter Tryd.func37, Tryd.ntmps37
  go_upto_region 1 with fail
  obtain ⟨v0, hv0⟩ : ∃ v0, v0 = (((w.alloc (.cells (zC z) 107)).alloc (.cells (frC f s t) 52)).alloc (.cells z0C 107)).alloc (.cells z34 52) := ⟨_, rfl⟩
  rw [← hv0] at T ⊢
  clear hv0
  have R1 := Lib.hid (blk_raw T.out.zb)
  obtain ⟨z1, n1, hq⟩ : ∃ zq nq, rNum z 1 = (zq, nq) := ⟨_, _, rfl⟩
  have E1 := Lib.hid hq
  have K1 := Lib.hid (show z1.ok by have h := rNum_ok (k := 1) T.out.good; rw [show rNum z 1 = (z1, n1) from hq] at h; exact h)
  have L1 : n1 < 256 ^ 1 := by have h := rNum_lt z 1 (by decide); rw [hq] at h; exact h
  have U1 : IntKind.u8.wrap (n1 : Int) = (n1 : Int) := IntWalk.u8_in _ (by omega)
  have H1 : Hid (Calls Tryd.prog 35 #[.agg #[.string z.s, .int .i64 z.at_, .int .i64 z.err], .int .i64 1] v0 (NumZ (z1, n1) v0)) := Lib.hid (by rw [← hq]; exact rnum1_any z v0 T.out.good)
  clear hq
  go_wp2_with (first | (refine wpList_load_row rfl 107 (.tmp 3) rfl w.heap.size rfl 107 (zC z) (0, 0) _ R1.out Tryd.underlying107 rfl (by kernel_rfl) ?_))
  with_reducible refine H1.out.mono ?_
  rintro e w1 ⟨rfl, hB⟩
  have T1 := Lib.hid (T.out.on hB)
  have Q1 := Lib.hid (blk_raw T1.out.zb)
  have O1 := Lib.hid (zC_one z1)
  clear hB H1 R1 T
  go_upto_region 20 with (first | (refine wpList_store_row rfl 107 (.tmp 3) (.tmp 81) rfl w.heap.size (zC z1) rfl rfl 107 (zC z) Q1.out (by kernel_rfl) rfl O1.out ?_))
  obtain ⟨v1, hv⟩ : ∃ vq, vq = w1.setRow w.heap.size (zC z1) := ⟨_, rfl⟩
  have X1 : Hid (RF w z1 f s t v1) := Lib.hid (by rw [hv]; exact T1.out.setz K1.out)
  rw [← hv]
  clear hv T1 Q1 O1
  have R2 := Lib.hid (blk_raw X1.out.zb)
  obtain ⟨z2, hq⟩ : ∃ zq, rMust z1 (decide (n1 < 6)) = zq := ⟨_, rfl⟩
  have E2 := Lib.hid hq
  have K2 := Lib.hid (show z2.ok by rw [← hq]; exact rMust_ok X1.out.good)
  have hdd : (decide ((n1 : Int) < 6)) = (decide (n1 < 6)) := decide_eq_decide.2 (by omega)
  have H2 : Hid (Calls Tryd.prog 36 #[.agg #[.string z1.s, .int .i64 z1.at_, .int .i64 z1.err], .bool (decide ((n1 : Int) < 6))] v1 (fun e w2 => e = .returned (.agg (zC z2)) ∧ Below (v1).heap.size (v1) w2)) := Lib.hid (by rw [hdd, ← hq]; exact rmustZ_any z1 _ _)
  clear hq hdd
  go_wp2_with (first | (refine wpList_load_row rfl 107 (.tmp 3) rfl w.heap.size rfl 107 (zC z1) (0, 0) _ R2.out Tryd.underlying107 rfl (by kernel_rfl) ?_))
  with_reducible refine H2.out.mono ?_
  rintro e w2 ⟨rfl, hB⟩
  have T2 := Lib.hid (X1.out.on hB)
  have Q2 := Lib.hid (blk_raw T2.out.zb)
  have O2 := Lib.hid (zC_one z2)
  clear hB H2 R2 X1
  have Y2 := Lib.hid (T2.out.setz K2.out)
  have y2 := Y2.out.xb.cell 4
  have x2 := Y2.out.xb.frozen 4
  simp at y2
  go_upto_region 76 with (first | (refine wpList_store_row rfl 107 (.tmp 3) (.tmp 86) rfl w.heap.size (zC z2) rfl rfl 107 (zC z1) Q2.out (by kernel_rfl) rfl O2.out ?_))
  obtain ⟨v2, hv⟩ : ∃ vq, vq = (w2.setRow w.heap.size (zC z2)).setCell ⟨w.heap.size + 1, 4, none⟩ (.int .u8 n1) := ⟨_, rfl⟩
  have X2 : Hid (RF w z2 { f with key := n1 } s t v2) := Lib.hid (by rw [hv]; exact Y2.out.setf 4 _ rfl)
  rw [← hv]
  clear hv Y2 y2 x2 T2 Q2 O2
  have hF : rField 75 f z = ({ f with key := n1 }, z2) := by show (({ f with key := (rNum z 1).2 } : Fr), rMust (rNum z 1).1 (decide ((rNum z 1).2 < 6))) = _; rw [E1.out]; simp only; rw [E2.out]
  have HF := Lib.hid hF
  clear hF
  refine ret_region X2.out OS.out OT.out (of_decide_eq_true (by kernel_rfl)) rfl rfl rfl rfl (fun _ _ _ _ _ h => h) ?_
  intro a9 v9 h6 h7 hd hz9 hf9 SB _KP
  go_wp2_with fail
  refine bodyPost_ret (results_cell2 (p := 6) (q := 7) Tryd.results37 a9.tmps v9 (w.heap.size + 2) (w.heap.size + 3) 107 52 (zC z2) (frC { f with key := n1 } s t) (0, 0) (0, 0) _ _ h6 hz9 Tryd.underlying107 rfl (by kernel_rfl) h7 hf9 Tryd.underlying52 rfl (by kernel_rfl)) hd ?_
  rw [HF.out]
  exact ⟨s, t, rfl, SB, HS.out.on SB, HT.out.on SB, X2.out.good, fun _ => rfl, fun _ => rfl⟩
set_option maxHeartbeats 4000000 in
set_option maxRecDepth 20000 in
theorem rfield_s (f : Fr) (z : Zs) (s t : Value) (b0 : Nat) (w : World) (hz : z.ok) (hs : memR.Own 77 w b0 s f.ms) (ht : entR.Own 83 w b0 t f.es) :
    Calls Tryd.prog 37 #[.agg (zC z), .agg (frC f s t), .int .u8 115] w (RFieldP 115 (rField 84 f z) s t b0 w) := by
  have OS := Lib.hid (own_1 hs)
  have OT := Lib.hid (own_1 ht)
  have HS := Lib.hid hs
  have HT := Lib.hid ht
  have T := Lib.hid (RF.start (w := w) (f := f) (s := s) (t := t) hz)
  clear hs ht hz
  go_enter Tryd.func37, Tryd.ntmps37
  go_upto_region 1 with fail
  obtain ⟨v0, hv0⟩ : ∃ v0, v0 = (((w.alloc (.cells (zC z) 107)).alloc (.cells (frC f s t) 52)).alloc (.cells z0C 107)).alloc (.cells z34 52) := ⟨_, rfl⟩
  rw [← hv0] at T ⊢
  clear hv0
  have R1 := Lib.hid (blk_raw T.out.zb)
  obtain ⟨z1, n1, hq⟩ : ∃ zq nq, rNum z 4 = (zq, nq) := ⟨_, _, rfl⟩
  have E1 := Lib.hid hq
  have K1 := Lib.hid (show z1.ok by have h := rNum_ok (k := 4) T.out.good; rw [show rNum z 4 = (z1, n1) from hq] at h; exact h)
  have L1 : n1 < 256 ^ 4 := by have h := rNum_lt z 4 (by decide); rw [hq] at h; exact h
  have H1 : Hid (Calls Tryd.prog 35 #[.agg #[.string z.s, .int .i64 z.at_, .int .i64 z.err], .int .i64 4] v0 (NumZ (z1, n1) v0)) := Lib.hid (by rw [← hq]; exact rnum4_any z v0 T.out.good)
  clear hq
  go_wp2_with (first | (refine wpList_load_row rfl 107 (.tmp 3) rfl w.heap.size rfl 107 (zC z) (0, 0) _ R1.out Tryd.underlying107 rfl (by kernel_rfl) ?_))
  with_reducible refine H1.out.mono ?_
  rintro e w1 ⟨rfl, hB⟩
  have T1 := Lib.hid (T.out.on hB)
  have Q1 := Lib.hid (blk_raw T1.out.zb)
  have O1 := Lib.hid (zC_one z1)
  clear hB H1 R1 T
  have Y1 := Lib.hid (T1.out.setz K1.out)
  have y1 := Y1.out.xb.cell 5
  have x1 := Y1.out.xb.frozen 5
  simp at y1
  go_upto_region 23 with (first | (refine wpList_store_row rfl 107 (.tmp 3) (.tmp 95) rfl w.heap.size (zC z1) rfl rfl 107 (zC z) Q1.out (by kernel_rfl) rfl O1.out ?_))
  obtain ⟨v1, hv⟩ : ∃ vq, vq = (w1.setRow w.heap.size (zC z1)).setCell ⟨w.heap.size + 1, 5, none⟩ (.int .u32 n1) := ⟨_, rfl⟩
  have X1 : Hid (RF w z1 { f with sn := n1 } s t v1) := Lib.hid (by rw [hv]; exact Y1.out.setf 5 _ rfl)
  rw [← hv]
  clear hv Y1 y1 x1 T1 Q1 O1
  have R2 := Lib.hid (blk_raw X1.out.zb)
  obtain ⟨z2, n2, hq⟩ : ∃ zq nq, rNum z1 1 = (zq, nq) := ⟨_, _, rfl⟩
  have E2 := Lib.hid hq
  have K2 := Lib.hid (show z2.ok by have h := rNum_ok (k := 1) X1.out.good; rw [show rNum z1 1 = (z2, n2) from hq] at h; exact h)
  have L2 : n2 < 256 ^ 1 := by have h := rNum_lt z1 1 (by decide); rw [hq] at h; exact h
  have U2 : IntKind.u8.wrap (n2 : Int) = (n2 : Int) := IntWalk.u8_in _ (by omega)
  have H2 : Hid (Calls Tryd.prog 35 #[.agg #[.string z1.s, .int .i64 z1.at_, .int .i64 z1.err], .int .i64 1] v1 (NumZ (z2, n2) v1)) := Lib.hid (by rw [← hq]; exact rnum1_any z1 v1 X1.out.good)
  clear hq
  go_wp2_with (first | (refine wpList_load_row rfl 107 (.tmp 3) rfl w.heap.size rfl 107 (zC z1) (0, 0) _ R2.out Tryd.underlying107 rfl (by kernel_rfl) ?_))
  with_reducible refine H2.out.mono ?_
  rintro e w2 ⟨rfl, hB⟩
  have T2 := Lib.hid (X1.out.on hB)
  have Q2 := Lib.hid (blk_raw T2.out.zb)
  have O2 := Lib.hid (zC_one z2)
  clear hB H2 R2 X1
  go_upto_region 24 with (first | (refine wpList_store_row rfl 107 (.tmp 3) (.tmp 101) rfl w.heap.size (zC z2) rfl rfl 107 (zC z1) Q2.out (by kernel_rfl) rfl O2.out ?_))
  obtain ⟨v2, hv⟩ : ∃ vq, vq = w2.setRow w.heap.size (zC z2) := ⟨_, rfl⟩
  have X2 : Hid (RF w z2 { f with sn := n1 } s t v2) := Lib.hid (by rw [hv]; exact T2.out.setz K2.out)
  rw [← hv]
  clear hv T2 Q2 O2
  have y2a := X2.out.xb.cell 6
  have x2a := X2.out.xb.frozen 6
  simp at y2a
  go_upto_region 25 with fail
  obtain ⟨u2, hv⟩ : ∃ vq, vq = v2.setCell ⟨w.heap.size + 1, 6, none⟩ (.int .u8 n2) := ⟨_, rfl⟩
  have V2 : Hid (RF w z2 { f with sn := n1, sb := n2 } s t u2) := Lib.hid (by rw [hv]; exact X2.out.setf 6 _ rfl)
  rw [← hv]
  clear hv y2a x2a X2
  have R3 := Lib.hid (blk_raw V2.out.zb)
  obtain ⟨z3, n3, hq⟩ : ∃ zq nq, rNum z2 1 = (zq, nq) := ⟨_, _, rfl⟩
  have E3 := Lib.hid hq
  have K3 := Lib.hid (show z3.ok by have h := rNum_ok (k := 1) V2.out.good; rw [show rNum z2 1 = (z3, n3) from hq] at h; exact h)
  have L3 : n3 < 256 ^ 1 := by have h := rNum_lt z2 1 (by decide); rw [hq] at h; exact h
  have U3 : IntKind.u8.wrap (n3 : Int) = (n3 : Int) := IntWalk.u8_in _ (by omega)
  have H3 : Hid (Calls Tryd.prog 35 #[.agg #[.string z2.s, .int .i64 z2.at_, .int .i64 z2.err], .int .i64 1] u2 (NumZ (z3, n3) u2)) := Lib.hid (by rw [← hq]; exact rnum1_any z2 u2 V2.out.good)
  clear hq
  go_wp2_with (first | (refine wpList_load_row rfl 107 (.tmp 3) rfl w.heap.size rfl 107 (zC z2) (0, 0) _ R3.out Tryd.underlying107 rfl (by kernel_rfl) ?_))
  with_reducible refine H3.out.mono ?_
  rintro e w3 ⟨rfl, hB⟩
  have T3 := Lib.hid (V2.out.on hB)
  have Q3 := Lib.hid (blk_raw T3.out.zb)
  have O3 := Lib.hid (zC_one z3)
  clear hB H3 R3 V2
  go_upto_region 26 with (first | (refine wpList_store_row rfl 107 (.tmp 3) (.tmp 109) rfl w.heap.size (zC z3) rfl rfl 107 (zC z2) Q3.out (by kernel_rfl) rfl O3.out ?_))
  obtain ⟨v3, hv⟩ : ∃ vq, vq = w3.setRow w.heap.size (zC z3) := ⟨_, rfl⟩
  have X3 : Hid (RF w z3 { f with sn := n1, sb := n2 } s t v3) := Lib.hid (by rw [hv]; exact T3.out.setz K3.out)
  rw [← hv]
  clear hv T3 Q3 O3
  have y3a := X3.out.xb.cell 7
  have x3a := X3.out.xb.frozen 7
  simp at y3a
  go_upto_region 76 with fail
  obtain ⟨u3, hv⟩ : ∃ vq, vq = v3.setCell ⟨w.heap.size + 1, 7, none⟩ (.int .u8 n3) := ⟨_, rfl⟩
  have V3 : Hid (RF w z3 { f with sn := n1, sb := n2, sl := n3 } s t u3) := Lib.hid (by rw [hv]; exact X3.out.setf 7 _ rfl)
  rw [← hv]
  clear hv y3a x3a X3
  have hF : rField 84 f z = ({ f with sn := n1, sb := n2, sl := n3 }, z3) := by show (({ f with sn := (rNum z 4).2, sb := (rNum (rNum z 4).1 1).2, sl := (rNum (rNum (rNum z 4).1 1).1 1).2 } : Fr), (rNum (rNum (rNum z 4).1 1).1 1).1) = _; rw [E1.out]; simp only; rw [E2.out]; simp only; rw [E3.out]
  have HF := Lib.hid hF
  clear hF
  refine ret_region V3.out OS.out OT.out (of_decide_eq_true (by kernel_rfl)) rfl rfl rfl rfl (fun _ _ _ _ _ h => h) ?_
  intro a9 v9 h6 h7 hd hz9 hf9 SB _KP
  go_wp2_with fail
  refine bodyPost_ret (results_cell2 (p := 6) (q := 7) Tryd.results37 a9.tmps v9 (w.heap.size + 2) (w.heap.size + 3) 107 52 (zC z3) (frC { f with sn := n1, sb := n2, sl := n3 } s t) (0, 0) (0, 0) _ _ h6 hz9 Tryd.underlying107 rfl (by kernel_rfl) h7 hf9 Tryd.underlying52 rfl (by kernel_rfl)) hd ?_
  rw [HF.out]
  exact ⟨s, t, rfl, SB, HS.out.on SB, HT.out.on SB, V3.out.good, fun _ => rfl, fun _ => rfl⟩
set_option maxHeartbeats 4000000 in
set_option maxRecDepth 20000 in
theorem rfield_r (f : Fr) (z : Zs) (s t : Value) (b0 : Nat) (w : World) (hz : z.ok) (hs : memR.Own 77 w b0 s f.ms) (ht : entR.Own 83 w b0 t f.es) :
    Calls Tryd.prog 37 #[.agg (zC z), .agg (frC f s t), .int .u8 114] w (RFieldP 114 (rField 77 f z) s t b0 w) := by
  have OS := Lib.hid (own_1 hs)
  have OT := Lib.hid (own_1 ht)
  have HS := Lib.hid hs
  have HT := Lib.hid ht
  have T := Lib.hid (RF.start (w := w) (f := f) (s := s) (t := t) hz)
  clear hs ht hz
  go_enter Tryd.func37, Tryd.ntmps37
  go_upto_region 1 with fail
  obtain ⟨v0, hv0⟩ : ∃ v0, v0 = (((w.alloc (.cells (zC z) 107)).alloc (.cells (frC f s t) 52)).alloc (.cells z0C 107)).alloc (.cells z34 52) := ⟨_, rfl⟩
  rw [← hv0] at T ⊢
  clear hv0
  have R1 := Lib.hid (blk_raw T.out.zb)
  obtain ⟨z1, n1, hq⟩ : ∃ zq nq, rBit z = (zq, nq) := ⟨_, _, rfl⟩
  have E1 := Lib.hid hq
  have K1 := Lib.hid (show z1.ok by have h : (rBit z).1.ok := rMust_ok (rNum_ok (k := 1) T.out.good); rw [show rBit z = (z1, n1) from hq] at h; exact h)
  have H1 : Hid (Calls Tryd.prog 66 #[.agg (zC z)] v0 (BitZ (z1, n1) v0)) := Lib.hid (by rw [← hq]; exact rbitZ_any z v0 T.out.good)
  clear hq
  go_wp2_with (first | (refine wpList_load_row rfl 107 (.tmp 3) rfl w.heap.size rfl 107 (zC z) (0, 0) _ R1.out Tryd.underlying107 rfl (by kernel_rfl) ?_))
  with_reducible refine H1.out.mono ?_
  rintro e w1 ⟨rfl, hB⟩
  have T1 := Lib.hid (T.out.on hB)
  have Q1 := Lib.hid (blk_raw T1.out.zb)
  have O1 := Lib.hid (zC_one z1)
  clear hB H1 R1 T
  have Y1 := Lib.hid (T1.out.setz K1.out)
  have y1 := Y1.out.xb.cell 10
  have x1 := Y1.out.xb.frozen 10
  simp at y1
  go_upto_region 76 with (first | (refine wpList_store_row rfl 107 (.tmp 3) (.tmp 179) rfl w.heap.size (zC z1) rfl rfl 107 (zC z) Q1.out (by kernel_rfl) rfl O1.out ?_))
  obtain ⟨v1, hv⟩ : ∃ vq, vq = (w1.setRow w.heap.size (zC z1)).setCell ⟨w.heap.size + 1, 10, none⟩ (.bool n1) := ⟨_, rfl⟩
  have X1 : Hid (RF w z1 { f with rmw := n1 } s t v1) := Lib.hid (by rw [hv]; exact Y1.out.setf 10 _ rfl)
  rw [← hv]
  clear hv Y1 y1 x1 T1 Q1 O1
  have hF : rField 77 f z = ({ f with rmw := n1 }, z1) := by show (({ f with rmw := (rBit z).2 } : Fr), (rBit z).1) = _; rw [E1.out]
  have HF := Lib.hid hF
  clear hF
  refine ret_region X1.out OS.out OT.out (of_decide_eq_true (by kernel_rfl)) rfl rfl rfl rfl (fun _ _ _ _ _ h => h) ?_
  intro a9 v9 h6 h7 hd hz9 hf9 SB _KP
  go_wp2_with fail
  refine bodyPost_ret (results_cell2 (p := 6) (q := 7) Tryd.results37 a9.tmps v9 (w.heap.size + 2) (w.heap.size + 3) 107 52 (zC z1) (frC { f with rmw := n1 } s t) (0, 0) (0, 0) _ _ h6 hz9 Tryd.underlying107 rfl (by kernel_rfl) h7 hf9 Tryd.underlying52 rfl (by kernel_rfl)) hd ?_
  rw [HF.out]
  exact ⟨s, t, rfl, SB, HS.out.on SB, HT.out.on SB, X1.out.good, fun _ => rfl, fun _ => rfl⟩
set_option maxHeartbeats 4000000 in
set_option maxRecDepth 20000 in
theorem rfield_f (f : Fr) (z : Zs) (s t : Value) (b0 : Nat) (w : World) (hz : z.ok) (hs : memR.Own 77 w b0 s f.ms) (ht : entR.Own 83 w b0 t f.es) :
    Calls Tryd.prog 37 #[.agg (zC z), .agg (frC f s t), .int .u8 102] w (RFieldP 102 (rField 70 f z) s t b0 w) := by
  have OS := Lib.hid (own_1 hs)
  have OT := Lib.hid (own_1 ht)
  have HS := Lib.hid hs
  have HT := Lib.hid ht
  have T := Lib.hid (RF.start (w := w) (f := f) (s := s) (t := t) hz)
  clear hs ht hz
  go_enter Tryd.func37, Tryd.ntmps37
  go_upto_region 1 with fail
  obtain ⟨v0, hv0⟩ : ∃ v0, v0 = (((w.alloc (.cells (zC z) 107)).alloc (.cells (frC f s t) 52)).alloc (.cells z0C 107)).alloc (.cells z34 52) := ⟨_, rfl⟩
  rw [← hv0] at T ⊢
  clear hv0
  have R1 := Lib.hid (blk_raw T.out.zb)
  obtain ⟨z1, n1, hq⟩ : ∃ zq nq, rBit z = (zq, nq) := ⟨_, _, rfl⟩
  have E1 := Lib.hid hq
  have K1 := Lib.hid (show z1.ok by have h : (rBit z).1.ok := rMust_ok (rNum_ok (k := 1) T.out.good); rw [show rBit z = (z1, n1) from hq] at h; exact h)
  have H1 : Hid (Calls Tryd.prog 66 #[.agg (zC z)] v0 (BitZ (z1, n1) v0)) := Lib.hid (by rw [← hq]; exact rbitZ_any z v0 T.out.good)
  clear hq
  go_wp2_with (first | (refine wpList_load_row rfl 107 (.tmp 3) rfl w.heap.size rfl 107 (zC z) (0, 0) _ R1.out Tryd.underlying107 rfl (by kernel_rfl) ?_))
  with_reducible refine H1.out.mono ?_
  rintro e w1 ⟨rfl, hB⟩
  have T1 := Lib.hid (T.out.on hB)
  have Q1 := Lib.hid (blk_raw T1.out.zb)
  have O1 := Lib.hid (zC_one z1)
  clear hB H1 R1 T
  have Y1 := Lib.hid (T1.out.setz K1.out)
  have y1 := Y1.out.xb.cell 11
  have x1 := Y1.out.xb.frozen 11
  simp at y1
  go_upto_region 76 with (first | (refine wpList_store_row rfl 107 (.tmp 3) (.tmp 187) rfl w.heap.size (zC z1) rfl rfl 107 (zC z) Q1.out (by kernel_rfl) rfl O1.out ?_))
  obtain ⟨v1, hv⟩ : ∃ vq, vq = (w1.setRow w.heap.size (zC z1)).setCell ⟨w.heap.size + 1, 11, none⟩ (.bool n1) := ⟨_, rfl⟩
  have X1 : Hid (RF w z1 { f with flag := n1 } s t v1) := Lib.hid (by rw [hv]; exact Y1.out.setf 11 _ rfl)
  rw [← hv]
  clear hv Y1 y1 x1 T1 Q1 O1
  have hF : rField 70 f z = ({ f with flag := n1 }, z1) := by show (({ f with flag := (rBit z).2 } : Fr), (rBit z).1) = _; rw [E1.out]
  have HF := Lib.hid hF
  clear hF
  refine ret_region X1.out OS.out OT.out (of_decide_eq_true (by kernel_rfl)) rfl rfl rfl rfl (fun _ _ _ _ _ h => h) ?_
  intro a9 v9 h6 h7 hd hz9 hf9 SB _KP
  go_wp2_with fail
  refine bodyPost_ret (results_cell2 (p := 6) (q := 7) Tryd.results37 a9.tmps v9 (w.heap.size + 2) (w.heap.size + 3) 107 52 (zC z1) (frC { f with flag := n1 } s t) (0, 0) (0, 0) _ _ h6 hz9 Tryd.underlying107 rfl (by kernel_rfl) h7 hf9 Tryd.underlying52 rfl (by kernel_rfl)) hd ?_
  rw [HF.out]
  exact ⟨s, t, rfl, SB, HS.out.on SB, HT.out.on SB, X1.out.good, fun _ => rfl, fun _ => rfl⟩
set_option maxHeartbeats 4000000 in
set_option maxRecDepth 20000 in
theorem rfield_d (f : Fr) (z : Zs) (s t : Value) (b0 : Nat) (w : World) (hz : z.ok) (hs : memR.Own 77 w b0 s f.ms) (ht : entR.Own 83 w b0 t f.es) :
    Calls Tryd.prog 37 #[.agg (zC z), .agg (frC f s t), .int .u8 100] w (RFieldP 100 (rField 68 f z) s t b0 w) := by
  have OS := Lib.hid (own_1 hs)
  have OT := Lib.hid (own_1 ht)
  have HS := Lib.hid hs
  have HT := Lib.hid ht
  have T := Lib.hid (RF.start (w := w) (f := f) (s := s) (t := t) hz)
  clear hs ht hz
  go_enter Tryd.func37, Tryd.ntmps37
  go_upto_region 1 with fail
  obtain ⟨v0, hv0⟩ : ∃ v0, v0 = (((w.alloc (.cells (zC z) 107)).alloc (.cells (frC f s t) 52)).alloc (.cells z0C 107)).alloc (.cells z34 52) := ⟨_, rfl⟩
  rw [← hv0] at T ⊢
  clear hv0
  have R1 := Lib.hid (blk_raw T.out.zb)
  obtain ⟨z1, n1, hq⟩ : ∃ zq nq, rNum z 1 = (zq, nq) := ⟨_, _, rfl⟩
  have E1 := Lib.hid hq
  have K1 := Lib.hid (show z1.ok by have h := rNum_ok (k := 1) T.out.good; rw [show rNum z 1 = (z1, n1) from hq] at h; exact h)
  have L1 : n1 < 256 ^ 1 := by have h := rNum_lt z 1 (by decide); rw [hq] at h; exact h
  have U1 : IntKind.u8.wrap (n1 : Int) = (n1 : Int) := IntWalk.u8_in _ (by omega)
  have H1 : Hid (Calls Tryd.prog 35 #[.agg #[.string z.s, .int .i64 z.at_, .int .i64 z.err], .int .i64 1] v0 (NumZ (z1, n1) v0)) := Lib.hid (by rw [← hq]; exact rnum1_any z v0 T.out.good)
  clear hq
  go_wp2_with (first | (refine wpList_load_row rfl 107 (.tmp 3) rfl w.heap.size rfl 107 (zC z) (0, 0) _ R1.out Tryd.underlying107 rfl (by kernel_rfl) ?_))
  with_reducible refine H1.out.mono ?_
  rintro e w1 ⟨rfl, hB⟩
  have T1 := Lib.hid (T.out.on hB)
  have Q1 := Lib.hid (blk_raw T1.out.zb)
  have O1 := Lib.hid (zC_one z1)
  clear hB H1 R1 T
  go_upto_region 42 with (first | (refine wpList_store_row rfl 107 (.tmp 3) (.tmp 195) rfl w.heap.size (zC z1) rfl rfl 107 (zC z) Q1.out (by kernel_rfl) rfl O1.out ?_))
  obtain ⟨v1, hv⟩ : ∃ vq, vq = w1.setRow w.heap.size (zC z1) := ⟨_, rfl⟩
  have X1 : Hid (RF w z1 f s t v1) := Lib.hid (by rw [hv]; exact T1.out.setz K1.out)
  rw [← hv]
  clear hv T1 Q1 O1
  have y1a := X1.out.xb.cell 12
  have x1a := X1.out.xb.frozen 12
  simp at y1a
  go_upto_region 76 with fail
  obtain ⟨u1, hv⟩ : ∃ vq, vq = v1.setCell ⟨w.heap.size + 1, 12, none⟩ (.int .u8 n1) := ⟨_, rfl⟩
  have V1 : Hid (RF w z1 { f with dir := n1 } s t u1) := Lib.hid (by rw [hv]; exact X1.out.setf 12 _ rfl)
  rw [← hv]
  clear hv y1a x1a X1
  have hF : rField 68 f z = ({ f with dir := n1 }, z1) := by show (({ f with dir := (rNum z 1).2 } : Fr), (rNum z 1).1) = _; rw [E1.out]
  have HF := Lib.hid hF
  clear hF
  refine ret_region V1.out OS.out OT.out (of_decide_eq_true (by kernel_rfl)) rfl rfl rfl rfl (fun _ _ _ _ _ h => h) ?_
  intro a9 v9 h6 h7 hd hz9 hf9 SB _KP
  go_wp2_with fail
  refine bodyPost_ret (results_cell2 (p := 6) (q := 7) Tryd.results37 a9.tmps v9 (w.heap.size + 2) (w.heap.size + 3) 107 52 (zC z1) (frC { f with dir := n1 } s t) (0, 0) (0, 0) _ _ h6 hz9 Tryd.underlying107 rfl (by kernel_rfl) h7 hf9 Tryd.underlying52 rfl (by kernel_rfl)) hd ?_
  rw [HF.out]
  exact ⟨s, t, rfl, SB, HS.out.on SB, HT.out.on SB, V1.out.good, fun _ => rfl, fun _ => rfl⟩
end Go.Proofs.YtodajejjhfpdmaaDoor
