/-
  The document's reading of one field: lives, requests, ballots, slots, commands.
-/
import Derived.Test.YtodajejjhfpdmaaDoorFrrF
namespace Go.Proofs.YtodajejjhfpdmaaDoor
open Go.RowKit Go.Instr

set_option maxHeartbeats 4000000 in
set_option maxRecDepth 20000 in
theorem rfield_l (f : Fr) (z : Zs) (s t : Value) (b0 : Nat) (w : World) (hz : z.ok) (hs : memR.Own 77 w b0 s f.ms) (ht : entR.Own 83 w b0 t f.es) :
    Calls Tryd.prog 37 #[.agg (zC z), .agg (frC f s t), .int .u8 108] w (RFieldP 108 (rField 76 f z) s t b0 w) := by
  have OS := Lib.hid (own_1 hs)
  have OT := Lib.hid (own_1 ht)
  have HS := Lib.hid hs
  have HT := Lib.hid ht
  have T := Lib.hid (RF.start (w := w) (f := f) (s := s) (t := t) hz)
  clear hs ht hz
  go_enter Tryd.func37, Tryd.ntmps37
  go_upto_region 1 with fail
  obtain ⟨v0, hv0⟩ : ∃ v0, v0 = (((w.alloc (.cells (zC z) 107)).alloc (.cells (frC f s t) 52)).alloc (.cells z0C 107)).alloc (.cells z34 52) := ⟨_, rfl⟩
  rw [← hv0] at T ⊢
  clear hv0
  have R1 := Lib.hid (blk_raw T.out.zb)
  obtain ⟨z1, n1, hq⟩ : ∃ zq nq, rNum z 1 = (zq, nq) := ⟨_, _, rfl⟩
  have E1 := Lib.hid hq
  have K1 := Lib.hid (show z1.ok by have h := rNum_ok (k := 1) T.out.good; rw [show rNum z 1 = (z1, n1) from hq] at h; exact h)
  have L1 : n1 < 256 ^ 1 := by have h := rNum_lt z 1 (by decide); rw [hq] at h; exact h
  have U1 : IntKind.u8.wrap (n1 : Int) = (n1 : Int) := IntWalk.u8_in _ (by omega)
  have H1 : Hid (Calls Tryd.prog 35 #[.agg #[.string z.s, .int .i64 z.at_, .int .i64 z.err], .int .i64 1] v0 (NumZ (z1, n1) v0)) := Lib.hid (by rw [← hq]; exact rnum1_any z v0 T.out.good)
  clear hq
  go_wp2_with (first | (refine wpList_load_row rfl 107 (.tmp 3) rfl w.heap.size rfl 107 (zC z) (0, 0) _ R1.out Tryd.underlying107 rfl (by kernel_rfl) ?_))
  with_reducible refine H1.out.mono ?_
  rintro e w1 ⟨rfl, hB⟩
  have T1 := Lib.hid (T.out.on hB)
  have Q1 := Lib.hid (blk_raw T1.out.zb)
  have O1 := Lib.hid (zC_one z1)
  clear hB H1 R1 T
  go_upto_region 45 with (first | (refine wpList_store_row rfl 107 (.tmp 3) (.tmp 205) rfl w.heap.size (zC z1) rfl rfl 107 (zC z) Q1.out (by kernel_rfl) rfl O1.out ?_))
  obtain ⟨v1, hv⟩ : ∃ vq, vq = w1.setRow w.heap.size (zC z1) := ⟨_, rfl⟩
  have X1 : Hid (RF w z1 f s t v1) := Lib.hid (by rw [hv]; exact T1.out.setz K1.out)
  rw [← hv]
  clear hv T1 Q1 O1
  have y1a := X1.out.xb.cell 13
  have x1a := X1.out.xb.frozen 13
  simp at y1a
  go_upto_region 76 with fail
  obtain ⟨u1, hv⟩ : ∃ vq, vq = v1.setCell ⟨w.heap.size + 1, 13, none⟩ (.int .u8 n1) := ⟨_, rfl⟩
  have V1 : Hid (RF w z1 { f with life := n1 } s t u1) := Lib.hid (by rw [hv]; exact X1.out.setf 13 _ rfl)
  rw [← hv]
  clear hv y1a x1a X1
  have hF : rField 76 f z = ({ f with life := n1 }, z1) := by show (({ f with life := (rNum z 1).2 } : Fr), (rNum z 1).1) = _; rw [E1.out]
  have HF := Lib.hid hF
  clear hF
  refine ret_region V1.out OS.out OT.out (of_decide_eq_true (by kernel_rfl)) rfl rfl rfl rfl (fun _ _ _ _ _ h => h) ?_
  intro a9 v9 h6 h7 hd hz9 hf9 SB _KP
  go_wp2_with fail
  refine bodyPost_ret (results_cell2 (p := 6) (q := 7) Tryd.results37 a9.tmps v9 (w.heap.size + 2) (w.heap.size + 3) 107 52 (zC z1) (frC { f with life := n1 } s t) (0, 0) (0, 0) _ _ h6 hz9 Tryd.underlying107 rfl (by kernel_rfl) h7 hf9 Tryd.underlying52 rfl (by kernel_rfl)) hd ?_
  rw [HF.out]
  exact ⟨s, t, rfl, SB, HS.out.on SB, HT.out.on SB, V1.out.good, fun _ => rfl, fun _ => rfl⟩
set_option maxHeartbeats 4000000 in
set_option maxRecDepth 20000 in
theorem rfield_q (f : Fr) (z : Zs) (s t : Value) (b0 : Nat) (w : World) (hz : z.ok) (hs : memR.Own 77 w b0 s f.ms) (ht : entR.Own 83 w b0 t f.es) :
    Calls Tryd.prog 37 #[.agg (zC z), .agg (frC f s t), .int .u8 113] w (RFieldP 113 (rField 82 f z) s t b0 w) := by
  have OS := Lib.hid (own_1 hs)
  have OT := Lib.hid (own_1 ht)
  have HS := Lib.hid hs
  have HT := Lib.hid ht
  have T := Lib.hid (RF.start (w := w) (f := f) (s := s) (t := t) hz)
  clear hs ht hz
  go_enter Tryd.func37, Tryd.ntmps37
  go_upto_region 1 with fail
  obtain ⟨v0, hv0⟩ : ∃ v0, v0 = (((w.alloc (.cells (zC z) 107)).alloc (.cells (frC f s t) 52)).alloc (.cells z0C 107)).alloc (.cells z34 52) := ⟨_, rfl⟩
  rw [← hv0] at T ⊢
  clear hv0
  have R1 := Lib.hid (blk_raw T.out.zb)
  obtain ⟨z1, n1, hq⟩ : ∃ zq nq, rNum z 4 = (zq, nq) := ⟨_, _, rfl⟩
  have E1 := Lib.hid hq
  have K1 := Lib.hid (show z1.ok by have h := rNum_ok (k := 4) T.out.good; rw [show rNum z 4 = (z1, n1) from hq] at h; exact h)
  have L1 : n1 < 256 ^ 4 := by have h := rNum_lt z 4 (by decide); rw [hq] at h; exact h
  have H1 : Hid (Calls Tryd.prog 35 #[.agg #[.string z.s, .int .i64 z.at_, .int .i64 z.err], .int .i64 4] v0 (NumZ (z1, n1) v0)) := Lib.hid (by rw [← hq]; exact rnum4_any z v0 T.out.good)
  clear hq
  go_wp2_with (first | (refine wpList_load_row rfl 107 (.tmp 3) rfl w.heap.size rfl 107 (zC z) (0, 0) _ R1.out Tryd.underlying107 rfl (by kernel_rfl) ?_))
  with_reducible refine H1.out.mono ?_
  rintro e w1 ⟨rfl, hB⟩
  have T1 := Lib.hid (T.out.on hB)
  have Q1 := Lib.hid (blk_raw T1.out.zb)
  have O1 := Lib.hid (zC_one z1)
  clear hB H1 R1 T
  have Y1 := Lib.hid (T1.out.setz K1.out)
  have y1 := Y1.out.xb.cell 14
  have x1 := Y1.out.xb.frozen 14
  simp at y1
  go_upto_region 76 with (first | (refine wpList_store_row rfl 107 (.tmp 3) (.tmp 215) rfl w.heap.size (zC z1) rfl rfl 107 (zC z) Q1.out (by kernel_rfl) rfl O1.out ?_))
  obtain ⟨v1, hv⟩ : ∃ vq, vq = (w1.setRow w.heap.size (zC z1)).setCell ⟨w.heap.size + 1, 14, none⟩ (.int .u32 n1) := ⟨_, rfl⟩
  have X1 : Hid (RF w z1 { f with req := n1 } s t v1) := Lib.hid (by rw [hv]; exact Y1.out.setf 14 _ rfl)
  rw [← hv]
  clear hv Y1 y1 x1 T1 Q1 O1
  have hF : rField 82 f z = ({ f with req := n1 }, z1) := by show (({ f with req := (rNum z 4).2 } : Fr), (rNum z 4).1) = _; rw [E1.out]
  have HF := Lib.hid hF
  clear hF
  refine ret_region X1.out OS.out OT.out (of_decide_eq_true (by kernel_rfl)) rfl rfl rfl rfl (fun _ _ _ _ _ h => h) ?_
  intro a9 v9 h6 h7 hd hz9 hf9 SB _KP
  go_wp2_with fail
  refine bodyPost_ret (results_cell2 (p := 6) (q := 7) Tryd.results37 a9.tmps v9 (w.heap.size + 2) (w.heap.size + 3) 107 52 (zC z1) (frC { f with req := n1 } s t) (0, 0) (0, 0) _ _ h6 hz9 Tryd.underlying107 rfl (by kernel_rfl) h7 hf9 Tryd.underlying52 rfl (by kernel_rfl)) hd ?_
  rw [HF.out]
  exact ⟨s, t, rfl, SB, HS.out.on SB, HT.out.on SB, X1.out.good, fun _ => rfl, fun _ => rfl⟩
set_option maxHeartbeats 4000000 in
set_option maxRecDepth 20000 in
theorem rfield_b (f : Fr) (z : Zs) (s t : Value) (b0 : Nat) (w : World) (hz : z.ok) (hs : memR.Own 77 w b0 s f.ms) (ht : entR.Own 83 w b0 t f.es) :
    Calls Tryd.prog 37 #[.agg (zC z), .agg (frC f s t), .int .u8 98] w (RFieldP 98 (rField 66 f z) s t b0 w) := by
  have OS := Lib.hid (own_1 hs)
  have OT := Lib.hid (own_1 ht)
  have HS := Lib.hid hs
  have HT := Lib.hid ht
  have T := Lib.hid (RF.start (w := w) (f := f) (s := s) (t := t) hz)
  clear hs ht hz
  go_enter Tryd.func37, Tryd.ntmps37
  go_upto_region 1 with fail
  obtain ⟨v0, hv0⟩ : ∃ v0, v0 = (((w.alloc (.cells (zC z) 107)).alloc (.cells (frC f s t) 52)).alloc (.cells z0C 107)).alloc (.cells z34 52) := ⟨_, rfl⟩
  rw [← hv0] at T ⊢
  clear hv0
  have R1 := Lib.hid (blk_raw T.out.zb)
  obtain ⟨z1, n1, hq⟩ : ∃ zq nq, rNum z 4 = (zq, nq) := ⟨_, _, rfl⟩
  have E1 := Lib.hid hq
  have K1 := Lib.hid (show z1.ok by have h := rNum_ok (k := 4) T.out.good; rw [show rNum z 4 = (z1, n1) from hq] at h; exact h)
  have L1 : n1 < 256 ^ 4 := by have h := rNum_lt z 4 (by decide); rw [hq] at h; exact h
  have H1 : Hid (Calls Tryd.prog 35 #[.agg #[.string z.s, .int .i64 z.at_, .int .i64 z.err], .int .i64 4] v0 (NumZ (z1, n1) v0)) := Lib.hid (by rw [← hq]; exact rnum4_any z v0 T.out.good)
  clear hq
  go_wp2_with (first | (refine wpList_load_row rfl 107 (.tmp 3) rfl w.heap.size rfl 107 (zC z) (0, 0) _ R1.out Tryd.underlying107 rfl (by kernel_rfl) ?_))
  with_reducible refine H1.out.mono ?_
  rintro e w1 ⟨rfl, hB⟩
  have T1 := Lib.hid (T.out.on hB)
  have Q1 := Lib.hid (blk_raw T1.out.zb)
  have O1 := Lib.hid (zC_one z1)
  clear hB H1 R1 T
  have Y1 := Lib.hid (T1.out.setz K1.out)
  have y1 := Y1.out.xb.cell 15
  have x1 := Y1.out.xb.frozen 15
  simp at y1
  go_upto_region 50 with (first | (refine wpList_store_row rfl 107 (.tmp 3) (.tmp 223) rfl w.heap.size (zC z1) rfl rfl 107 (zC z) Q1.out (by kernel_rfl) rfl O1.out ?_))
  obtain ⟨v1, hv⟩ : ∃ vq, vq = (w1.setRow w.heap.size (zC z1)).setCell ⟨w.heap.size + 1, 15, none⟩ (.int .u32 n1) := ⟨_, rfl⟩
  have X1 : Hid (RF w z1 { f with bn := n1 } s t v1) := Lib.hid (by rw [hv]; exact Y1.out.setf 15 _ rfl)
  rw [← hv]
  clear hv Y1 y1 x1 T1 Q1 O1
  have R2 := Lib.hid (blk_raw X1.out.zb)
  obtain ⟨z2, n2, hq⟩ : ∃ zq nq, rNum z1 1 = (zq, nq) := ⟨_, _, rfl⟩
  have E2 := Lib.hid hq
  have K2 := Lib.hid (show z2.ok by have h := rNum_ok (k := 1) X1.out.good; rw [show rNum z1 1 = (z2, n2) from hq] at h; exact h)
  have L2 : n2 < 256 ^ 1 := by have h := rNum_lt z1 1 (by decide); rw [hq] at h; exact h
  have U2 : IntKind.u8.wrap (n2 : Int) = (n2 : Int) := IntWalk.u8_in _ (by omega)
  have H2 : Hid (Calls Tryd.prog 35 #[.agg #[.string z1.s, .int .i64 z1.at_, .int .i64 z1.err], .int .i64 1] v1 (NumZ (z2, n2) v1)) := Lib.hid (by rw [← hq]; exact rnum1_any z1 v1 X1.out.good)
  clear hq
  go_wp2_with (first | (refine wpList_load_row rfl 107 (.tmp 3) rfl w.heap.size rfl 107 (zC z1) (0, 0) _ R2.out Tryd.underlying107 rfl (by kernel_rfl) ?_))
  with_reducible refine H2.out.mono ?_
  rintro e w2 ⟨rfl, hB⟩
  have T2 := Lib.hid (X1.out.on hB)
  have Q2 := Lib.hid (blk_raw T2.out.zb)
  have O2 := Lib.hid (zC_one z2)
  clear hB H2 R2 X1
  go_upto_region 51 with (first | (refine wpList_store_row rfl 107 (.tmp 3) (.tmp 229) rfl w.heap.size (zC z2) rfl rfl 107 (zC z1) Q2.out (by kernel_rfl) rfl O2.out ?_))
  obtain ⟨v2, hv⟩ : ∃ vq, vq = w2.setRow w.heap.size (zC z2) := ⟨_, rfl⟩
  have X2 : Hid (RF w z2 { f with bn := n1 } s t v2) := Lib.hid (by rw [hv]; exact T2.out.setz K2.out)
  rw [← hv]
  clear hv T2 Q2 O2
  have y2a := X2.out.xb.cell 16
  have x2a := X2.out.xb.frozen 16
  simp at y2a
  go_upto_region 76 with fail
  obtain ⟨u2, hv⟩ : ∃ vq, vq = v2.setCell ⟨w.heap.size + 1, 16, none⟩ (.int .u8 n2) := ⟨_, rfl⟩
  have V2 : Hid (RF w z2 { f with bn := n1, bb := n2 } s t u2) := Lib.hid (by rw [hv]; exact X2.out.setf 16 _ rfl)
  rw [← hv]
  clear hv y2a x2a X2
  have hF : rField 66 f z = ({ f with bn := n1, bb := n2 }, z2) := by show (({ f with bn := (rNum z 4).2, bb := (rNum (rNum z 4).1 1).2 } : Fr), (rNum (rNum z 4).1 1).1) = _; rw [E1.out]; simp only; rw [E2.out]
  have HF := Lib.hid hF
  clear hF
  refine ret_region V2.out OS.out OT.out (of_decide_eq_true (by kernel_rfl)) rfl rfl rfl rfl (fun _ _ _ _ _ h => h) ?_
  intro a9 v9 h6 h7 hd hz9 hf9 SB _KP
  go_wp2_with fail
  refine bodyPost_ret (results_cell2 (p := 6) (q := 7) Tryd.results37 a9.tmps v9 (w.heap.size + 2) (w.heap.size + 3) 107 52 (zC z2) (frC { f with bn := n1, bb := n2 } s t) (0, 0) (0, 0) _ _ h6 hz9 Tryd.underlying107 rfl (by kernel_rfl) h7 hf9 Tryd.underlying52 rfl (by kernel_rfl)) hd ?_
  rw [HF.out]
  exact ⟨s, t, rfl, SB, HS.out.on SB, HT.out.on SB, V2.out.good, fun _ => rfl, fun _ => rfl⟩
set_option maxHeartbeats 4000000 in
set_option maxRecDepth 20000 in
theorem rfield_n (f : Fr) (z : Zs) (s t : Value) (b0 : Nat) (w : World) (hz : z.ok) (hs : memR.Own 77 w b0 s f.ms) (ht : entR.Own 83 w b0 t f.es) :
    Calls Tryd.prog 37 #[.agg (zC z), .agg (frC f s t), .int .u8 110] w (RFieldP 110 (rField 83 f z) s t b0 w) := by
  have OS := Lib.hid (own_1 hs)
  have OT := Lib.hid (own_1 ht)
  have HS := Lib.hid hs
  have HT := Lib.hid ht
  have T := Lib.hid (RF.start (w := w) (f := f) (s := s) (t := t) hz)
  clear hs ht hz
  go_enter Tryd.func37, Tryd.ntmps37
  go_upto_region 1 with fail
  obtain ⟨v0, hv0⟩ : ∃ v0, v0 = (((w.alloc (.cells (zC z) 107)).alloc (.cells (frC f s t) 52)).alloc (.cells z0C 107)).alloc (.cells z34 52) := ⟨_, rfl⟩
  rw [← hv0] at T ⊢
  clear hv0
  have R1 := Lib.hid (blk_raw T.out.zb)
  obtain ⟨z1, n1, hq⟩ : ∃ zq nq, rNum z 4 = (zq, nq) := ⟨_, _, rfl⟩
  have E1 := Lib.hid hq
  have K1 := Lib.hid (show z1.ok by have h := rNum_ok (k := 4) T.out.good; rw [show rNum z 4 = (z1, n1) from hq] at h; exact h)
  have L1 : n1 < 256 ^ 4 := by have h := rNum_lt z 4 (by decide); rw [hq] at h; exact h
  have H1 : Hid (Calls Tryd.prog 35 #[.agg #[.string z.s, .int .i64 z.at_, .int .i64 z.err], .int .i64 4] v0 (NumZ (z1, n1) v0)) := Lib.hid (by rw [← hq]; exact rnum4_any z v0 T.out.good)
  clear hq
  go_wp2_with (first | (refine wpList_load_row rfl 107 (.tmp 3) rfl w.heap.size rfl 107 (zC z) (0, 0) _ R1.out Tryd.underlying107 rfl (by kernel_rfl) ?_))
  with_reducible refine H1.out.mono ?_
  rintro e w1 ⟨rfl, hB⟩
  have T1 := Lib.hid (T.out.on hB)
  have Q1 := Lib.hid (blk_raw T1.out.zb)
  have O1 := Lib.hid (zC_one z1)
  clear hB H1 R1 T
  have Y1 := Lib.hid (T1.out.setz K1.out)
  have y1 := Y1.out.xb.cell 17
  have x1 := Y1.out.xb.frozen 17
  simp at y1
  go_upto_region 76 with (first | (refine wpList_store_row rfl 107 (.tmp 3) (.tmp 239) rfl w.heap.size (zC z1) rfl rfl 107 (zC z) Q1.out (by kernel_rfl) rfl O1.out ?_))
  obtain ⟨v1, hv⟩ : ∃ vq, vq = (w1.setRow w.heap.size (zC z1)).setCell ⟨w.heap.size + 1, 17, none⟩ (.int .u32 n1) := ⟨_, rfl⟩
  have X1 : Hid (RF w z1 { f with slot := n1 } s t v1) := Lib.hid (by rw [hv]; exact Y1.out.setf 17 _ rfl)
  rw [← hv]
  clear hv Y1 y1 x1 T1 Q1 O1
  have hF : rField 83 f z = ({ f with slot := n1 }, z1) := by show (({ f with slot := (rNum z 4).2 } : Fr), (rNum z 4).1) = _; rw [E1.out]
  have HF := Lib.hid hF
  clear hF
  refine ret_region X1.out OS.out OT.out (of_decide_eq_true (by kernel_rfl)) rfl rfl rfl rfl (fun _ _ _ _ _ h => h) ?_
  intro a9 v9 h6 h7 hd hz9 hf9 SB _KP
  go_wp2_with fail
  refine bodyPost_ret (results_cell2 (p := 6) (q := 7) Tryd.results37 a9.tmps v9 (w.heap.size + 2) (w.heap.size + 3) 107 52 (zC z1) (frC { f with slot := n1 } s t) (0, 0) (0, 0) _ _ h6 hz9 Tryd.underlying107 rfl (by kernel_rfl) h7 hf9 Tryd.underlying52 rfl (by kernel_rfl)) hd ?_
  rw [HF.out]
  exact ⟨s, t, rfl, SB, HS.out.on SB, HT.out.on SB, X1.out.good, fun _ => rfl, fun _ => rfl⟩
set_option maxHeartbeats 4000000 in
set_option maxRecDepth 20000 in
theorem rfield_c (f : Fr) (z : Zs) (s t : Value) (b0 : Nat) (w : World) (hz : z.ok) (hs : memR.Own 77 w b0 s f.ms) (ht : entR.Own 83 w b0 t f.es) :
    Calls Tryd.prog 37 #[.agg (zC z), .agg (frC f s t), .int .u8 99] w (RFieldP 99 (rField 67 f z) s t b0 w) := by
  have OS := Lib.hid (own_1 hs)
  have OT := Lib.hid (own_1 ht)
  have HS := Lib.hid hs
  have HT := Lib.hid ht
  have T := Lib.hid (RF.start (w := w) (f := f) (s := s) (t := t) hz)
  clear hs ht hz
  go_enter Tryd.func37, Tryd.ntmps37
  go_upto_region 1 with fail
  obtain ⟨v0, hv0⟩ : ∃ v0, v0 = (((w.alloc (.cells (zC z) 107)).alloc (.cells (frC f s t) 52)).alloc (.cells z0C 107)).alloc (.cells z34 52) := ⟨_, rfl⟩
  rw [← hv0] at T ⊢
  clear hv0
  have R1 := Lib.hid (blk_raw T.out.zb)
  obtain ⟨z1, n1, hq⟩ : ∃ zq nq, rCmd z = (zq, nq) := ⟨_, _, rfl⟩
  have E1 := Lib.hid hq
  have K1 := Lib.hid (show z1.ok by have h : (rCmd z).1.ok := rNum_ok (rNum_ok (rNum_ok (rNum_ok (rNum_ok T.out.good)))); rw [show rCmd z = (z1, n1) from hq] at h; exact h)
  have H1 : Hid (Calls Tryd.prog 67 #[.agg (zC z)] v0 (CmdZ (z1, n1) v0)) := Lib.hid (by rw [← hq]; exact rcmdZ_any z v0 T.out.good)
  clear hq
  go_wp2_with (first | (refine wpList_load_row rfl 107 (.tmp 3) rfl w.heap.size rfl 107 (zC z) (0, 0) _ R1.out Tryd.underlying107 rfl (by kernel_rfl) ?_))
  with_reducible refine H1.out.mono ?_
  rintro e w1 ⟨rfl, hB⟩
  have T1 := Lib.hid (T.out.on hB)
  have Q1 := Lib.hid (blk_raw T1.out.zb)
  have O1 := Lib.hid (zC_one z1)
  clear hB H1 R1 T
  have Y1 := Lib.hid (T1.out.setz K1.out)
  have y18 := Y1.out.xb.cell 18
  have x18 := Y1.out.xb.frozen 18
  simp at y18
  have y19 := Y1.out.xb.cell 19
  have x19 := Y1.out.xb.frozen 19
  simp at y19
  have y20 := Y1.out.xb.cell 20
  have x20 := Y1.out.xb.frozen 20
  simp at y20
  have y21 := Y1.out.xb.cell 21
  have x21 := Y1.out.xb.frozen 21
  simp at y21
  have y22 := Y1.out.xb.cell 22
  have x22 := Y1.out.xb.frozen 22
  simp at y22
  go_upto_region 76 with (first | (refine wpList_store_row rfl 107 (.tmp 3) (.tmp 247) rfl w.heap.size (zC z1) rfl rfl 107 (zC z) Q1.out (by kernel_rfl) rfl O1.out ?_))
  obtain ⟨v1, hv⟩ : ∃ vq, vq = (((((w1.setRow w.heap.size (zC z1)).setCell ⟨w.heap.size + 1, 18, none⟩ (.int .u8 n1.k)).setCell ⟨w.heap.size + 1, 19, none⟩ (.int .u8 n1.n)).setCell ⟨w.heap.size + 1, 20, none⟩ (.int .u8 n1.l)).setCell ⟨w.heap.size + 1, 21, none⟩ (.int .u32 n1.e)).setCell ⟨w.heap.size + 1, 22, none⟩ (.int .u32 n1.r) := ⟨_, rfl⟩
  have X1 : Hid (RF w z1 { f with cmd := n1 } s t v1) := Lib.hid (by rw [hv]; exact (RF.setf (f' := { f with cmd := n1 }) (s' := s) (t' := t) (RF.setf (f' := { f with cmd := { f.cmd with k := n1.k, n := n1.n, l := n1.l, e := n1.e } }) (s' := s) (t' := t) (RF.setf (f' := { f with cmd := { f.cmd with k := n1.k, n := n1.n, l := n1.l } }) (s' := s) (t' := t) (RF.setf (f' := { f with cmd := { f.cmd with k := n1.k, n := n1.n } }) (s' := s) (t' := t) (RF.setf (f' := { f with cmd := { f.cmd with k := n1.k } }) (s' := s) (t' := t) Y1.out 18 _ rfl) 19 _ rfl) 20 _ rfl) 21 _ rfl) 22 _ rfl))
  rw [← hv]
  clear hv Y1 T1 Q1 O1 y18 x18 y19 x19 y20 x20 y21 x21 y22 x22
  have hF : rField 67 f z = ({ f with cmd := n1 }, z1) := by show (({ f with cmd := (rCmd z).2 } : Fr), (rCmd z).1) = _; rw [E1.out]
  have HF := Lib.hid hF
  clear hF
  refine ret_region X1.out OS.out OT.out (of_decide_eq_true (by kernel_rfl)) rfl rfl rfl rfl (fun _ _ _ _ _ h => h) ?_
  intro a9 v9 h6 h7 hd hz9 hf9 SB _KP
  go_wp2_with fail
  refine bodyPost_ret (results_cell2 (p := 6) (q := 7) Tryd.results37 a9.tmps v9 (w.heap.size + 2) (w.heap.size + 3) 107 52 (zC z1) (frC { f with cmd := n1 } s t) (0, 0) (0, 0) _ _ h6 hz9 Tryd.underlying107 rfl (by kernel_rfl) h7 hf9 Tryd.underlying52 rfl (by kernel_rfl)) hd ?_
  rw [HF.out]
  exact ⟨s, t, rfl, SB, HS.out.on SB, HT.out.on SB, X1.out.good, fun _ => rfl, fun _ => rfl⟩
end Go.Proofs.YtodajejjhfpdmaaDoor
