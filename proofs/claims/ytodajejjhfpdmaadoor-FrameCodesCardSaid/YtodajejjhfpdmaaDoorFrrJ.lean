/-
  The document's reading of one field: views.
-/
import Derived.Test.YtodajejjhfpdmaaDoorFrrF
namespace Go.Proofs.YtodajejjhfpdmaaDoor
open Go.RowKit Go.Instr

set_option maxHeartbeats 4000000 in
set_option maxRecDepth 20000 in
theorem rfield_w (f : Fr) (z : Zs) (s t : Value) (b0 : Nat) (w : World) (hz : z.ok) (hs : memR.Own 77 w b0 s f.ms) (ht : entR.Own 83 w b0 t f.es) (hb0 : b0 ≤ w.heap.size) (hE : f.ms = []) (hnil : s = .slice none 0 0) :
    Calls Tryd.prog 37 #[.agg (zC z), .agg (frC f s t), .int .u8 119] w (RFieldP 119 (rField 87 f z) s t b0 w) := by
  have OS := Lib.hid (own_1 hs)
  have OT := Lib.hid (own_1 ht)
  have HS := Lib.hid hs
  have HT := Lib.hid ht
  have T := Lib.hid (RF.start (w := w) (f := f) (s := s) (t := t) hz)
  have HES := Lib.hid hE
  have HB0 := Lib.hid hb0
  have hTn : memR.Own 77 w w.heap.size s [] := by rw [hnil]; exact World.ownsRow_nil _ _ _ _
  have HTN := Lib.hid hTn
  clear hs ht hz hE hb0 hnil hTn
  go_enter Tryd.func37, Tryd.ntmps37
  go_upto_region 1 with fail
  obtain ⟨v0, hv0⟩ : ∃ v0, v0 = (((w.alloc (.cells (zC z) 107)).alloc (.cells (frC f s t) 52)).alloc (.cells z0C 107)).alloc (.cells z34 52) := ⟨_, rfl⟩
  rw [← hv0] at T ⊢
  clear hv0
  have R1 := Lib.hid (blk_raw T.out.zb)
  obtain ⟨z1, n1, hq⟩ : ∃ zq nq, rNum z 4 = (zq, nq) := ⟨_, _, rfl⟩
  have E1 := Lib.hid hq
  have K1 := Lib.hid (show z1.ok by have h := rNum_ok (k := 4) T.out.good; rw [show rNum z 4 = (z1, n1) from hq] at h; exact h)
  have L1 : n1 < 256 ^ 4 := by have h := rNum_lt z 4 (by decide); rw [hq] at h; exact h
  have H1 : Hid (Calls Tryd.prog 35 #[.agg #[.string z.s, .int .i64 z.at_, .int .i64 z.err], .int .i64 4] v0 (NumZ (z1, n1) v0)) := Lib.hid (by rw [← hq]; exact rnum4_any z v0 T.out.good)
  clear hq
  go_wp2_with (first | (refine wpList_load_row rfl 107 (.tmp 3) rfl w.heap.size rfl 107 (zC z) (0, 0) _ R1.out Tryd.underlying107 rfl (by kernel_rfl) ?_))
  with_reducible refine H1.out.mono ?_
  rintro e w1 ⟨rfl, hB⟩
  have T1 := Lib.hid (T.out.on hB)
  have Q1 := Lib.hid (blk_raw T1.out.zb)
  have O1 := Lib.hid (zC_one z1)
  clear hB H1 R1 T
  have Y1 := Lib.hid (T1.out.setz K1.out)
  have y1 := Y1.out.xb.cell 23
  have x1 := Y1.out.xb.frozen 23
  simp at y1
  go_upto_region 58 with (first | (refine wpList_store_row rfl 107 (.tmp 3) (.tmp 255) rfl w.heap.size (zC z1) rfl rfl 107 (zC z) Q1.out (by kernel_rfl) rfl O1.out ?_))
  obtain ⟨v1, hv⟩ : ∃ vq, vq = (w1.setRow w.heap.size (zC z1)).setCell ⟨w.heap.size + 1, 23, none⟩ (.int .u32 n1) := ⟨_, rfl⟩
  have X1 : Hid (RF w z1 { f with ve := n1 } s t v1) := Lib.hid (by rw [hv]; exact Y1.out.setf 23 _ rfl)
  rw [← hv]
  clear hv Y1 y1 x1 T1 Q1 O1
  have R2 := Lib.hid (blk_raw X1.out.zb)
  obtain ⟨z2, n2, hq⟩ : ∃ zq nq, rNum z1 1 = (zq, nq) := ⟨_, _, rfl⟩
  have E2 := Lib.hid hq
  have K2 := Lib.hid (show z2.ok by have h := rNum_ok (k := 1) X1.out.good; rw [show rNum z1 1 = (z2, n2) from hq] at h; exact h)
  have L2 : n2 < 256 ^ 1 := by have h := rNum_lt z1 1 (by decide); rw [hq] at h; exact h
  have U2 : IntKind.u8.wrap (n2 : Int) = (n2 : Int) := IntWalk.u8_in _ (by omega)
  have H2 : Hid (Calls Tryd.prog 35 #[.agg #[.string z1.s, .int .i64 z1.at_, .int .i64 z1.err], .int .i64 1] v1 (NumZ (z2, n2) v1)) := Lib.hid (by rw [← hq]; exact rnum1_any z1 v1 X1.out.good)
  clear hq
  go_wp2_with (first | (refine wpList_load_row rfl 107 (.tmp 3) rfl w.heap.size rfl 107 (zC z1) (0, 0) _ R2.out Tryd.underlying107 rfl (by kernel_rfl) ?_))
  with_reducible refine H2.out.mono ?_
  rintro e w2 ⟨rfl, hB⟩
  have T2 := Lib.hid (X1.out.on hB)
  have Q2 := Lib.hid (blk_raw T2.out.zb)
  have O2 := Lib.hid (zC_one z2)
  clear hB H2 R2 X1
  go_upto_region 59 with (first | (refine wpList_store_row rfl 107 (.tmp 3) (.tmp 261) rfl w.heap.size (zC z2) rfl rfl 107 (zC z1) Q2.out (by kernel_rfl) rfl O2.out ?_))
  obtain ⟨v2, hv⟩ : ∃ vq, vq = w2.setRow w.heap.size (zC z2) := ⟨_, rfl⟩
  have X2 : Hid (RF w z2 { f with ve := n1 } s t v2) := Lib.hid (by rw [hv]; exact T2.out.setz K2.out)
  rw [← hv]
  clear hv T2 Q2 O2
  have R3 := Lib.hid (blk_raw X2.out.zb)
  obtain ⟨z3, hq⟩ : ∃ zq, rMust z2 (decide (n2 ≤ 8)) = zq := ⟨_, rfl⟩
  have E3 := Lib.hid hq
  have K3 := Lib.hid (show z3.ok by rw [← hq]; exact rMust_ok X2.out.good)
  have hdd : (decide ((n2 : Int) ≤ 8)) = (decide (n2 ≤ 8)) := decide_eq_decide.2 (by omega)
  have H3 : Hid (Calls Tryd.prog 36 #[.agg #[.string z2.s, .int .i64 z2.at_, .int .i64 z2.err], .bool (decide ((n2 : Int) ≤ 8))] v2 (fun e w2 => e = .returned (.agg (zC z3)) ∧ Below (v2).heap.size (v2) w2)) := Lib.hid (by rw [hdd, ← hq]; exact rmustZ_any z2 _ _)
  clear hq hdd
  go_wp2_with (first | (refine wpList_load_row rfl 107 (.tmp 3) rfl w.heap.size rfl 107 (zC z2) (0, 0) _ R3.out Tryd.underlying107 rfl (by kernel_rfl) ?_))
  with_reducible refine H3.out.mono ?_
  rintro e w3 ⟨rfl, hB⟩
  have T3 := Lib.hid (X2.out.on hB)
  have Q3 := Lib.hid (blk_raw T3.out.zb)
  have O3 := Lib.hid (zC_one z3)
  clear hB H3 R3 X2
  go_upto_region 60 with (first | (refine wpList_store_row rfl 107 (.tmp 3) (.tmp 266) rfl w.heap.size (zC z3) rfl rfl 107 (zC z2) Q3.out (by kernel_rfl) rfl O3.out ?_))
  obtain ⟨v3, hv⟩ : ∃ vq, vq = w3.setRow w.heap.size (zC z3) := ⟨_, rfl⟩
  have X3 : Hid (RF w z3 { f with ve := n1 } s t v3) := Lib.hid (by rw [hv]; exact T3.out.setz K3.out)
  rw [← hv]
  clear hv T3 Q3 O3
  obtain ⟨i0, hi0, hz0, hz1, hz2⟩ := infoPRM
  have HI := Lib.hid (And.intro hi0 (And.intro hz0 (And.intro hz1 hz2)))
  clear hi0 hz0 hz1 hz2
  obtain ⟨zS, hzS⟩ : ∃ zq, zq = z3 := ⟨_, rfl⟩
  obtain ⟨nS, hnS⟩ : ∃ nq, nq = n2 := ⟨_, rfl⟩
  obtain ⟨f1, hf1⟩ : ∃ fq : Fr, fq = { f with ve := n1 } := ⟨_, rfl⟩
  have hf0 : ({ f1 with ms := [] } : Fr) = { f with ve := n1 } := by rw [hf1, ← HES.out]
  have LS : nS < 256 := by rw [hnS]; omega
  have hR : rField 87 f z = ({ f1 with ms := (rMems nS zS []).2, lv := lvOfL (rLv 8 (rMems nS zS []).1).2 }, (rLv 8 (rMems nS zS []).1).1) := by
    show (({ f with ve := (rNum z 4).2, ms := (rMems (rNum (rNum z 4).1 1).2 (rMust (rNum (rNum z 4).1 1).1 (decide ((rNum (rNum z 4).1 1).2 ≤ 8))) []).2, lv := lvOfL (rLv 8 (rMems (rNum (rNum z 4).1 1).2 (rMust (rNum (rNum z 4).1 1).1 (decide ((rNum (rNum z 4).1 1).2 ≤ 8))) []).1).2 } : Fr), (rLv 8 (rMems (rNum (rNum z 4).1 1).2 (rMust (rNum (rNum z 4).1 1).1 (decide ((rNum (rNum z 4).1 1).2 ≤ 8))) []).1).1) = _
    rw [E1.out]; simp only; rw [E2.out]; simp only; rw [E3.out, hzS, hnS, hf1]
  have HF1 := Lib.hid hf1
  have HR := Lib.hid hR
  have OWN2 : Hid (memR.Own 77 v3 w.heap.size s []) := Lib.hid (HTN.out.on X3.out.bw)
  have HST : Hid (RMemLoop w f1 t nS zS (.int .u32 0) v3) := Lib.hid ⟨0, zS, [], s, Nat.zero_le _, rfl, rfl, by rw [hzS, hf0]; exact X3.out, OWN2.out, rfl⟩
  rw [← hnS]
  clear hR hf0 X3 E1 E2 E3 K1 K2 K3 L1 L2 U2 hzS hnS OWN2 HTN hf1
  go_upto_block 3 with fail
  go_cut [] from 321 (fun wx => RMemEnd w f1 t nS zS wx)
  case first =>
    rename_i JJ KK hJJ hKK
    have HJ := Lib.hid hJJ
    clear hJJ
    go_wp2_with fail
    go_loopw [9] (fun i wr => RMemLoop w f1 t nS zS i wr) (fun i _ => nS - (intOf i).toNat)
    case atStart => exact HST.out
    case round =>
      obtain ⟨k, zk, lk, v, hk, rfl, hl, hT, hO, hE⟩ := hrel
      have TK := Lib.hid hT
      have P0 := Lib.hid hO
      have EK := Lib.hid hE
      have cE : wr.cell? ⟨w.heap.size, 2, none⟩ = some (.int .i64 zk.err) := hT.zb.cell 2
      have lW : w.heap.size + 3 < wr.heap.size := hT.qb.lt
      clear HST hT hO hE
      by_cases h1 : k < nS
      · by_cases he : zk.err = 0
        · have he' : (zk.err == 0) = true := by rw [he]; rfl
          go_upto_region 65 with fail
          clear cE he'
          have HE0 := Lib.hid he
          have H1K := Lib.hid h1
          have HLK := Lib.hid hl
          clear he
          obtain ⟨M, hM⟩ : ∃ M, M = wr.heap.size := ⟨_, rfl⟩
          obtain ⟨v0, hv⟩ : ∃ vq, vq = wr.alloc (.cells #[.int .u8 0, .int .u8 0, .bool false] 77) := ⟨_, rfl⟩
          have X0 : Hid (RG w zk { f1 with ms := lk } v t M 77 #[.int .u8 0, .int .u8 0, .bool false] v0) := Lib.hid (by rw [hv, hM]; exact ⟨TK.out.al _, Blk.new rfl, lW⟩)
          have PX : Hid (memR.Own 77 v0 w.heap.size v lk) := Lib.hid (by rw [hv]; exact P0.out.al _)
          have HNE : Hid (v.ownBlock ≠ some M) := Lib.hid (by rw [hM]; exact own_fresh_ne P0.out)
          rw [← hv, ← hM]
          clear hv TK P0 lW hM
          have P0 := PX
          clear PX
          have R1 := Lib.hid (blk_raw X0.out.rf.zb)
          obtain ⟨z1, n1, hq⟩ : ∃ zq nq, rNum zk 1 = (zq, nq) := ⟨_, _, rfl⟩
          have E1 := Lib.hid hq
          have K1 := Lib.hid (show z1.ok by have h : (rNum zk 1).1.ok := rNum_ok (k := 1) X0.out.rf.good; rw [hq] at h; exact h)
          have L1 : n1 < 256 ^ 1 := by have h := rNum_lt zk 1 (by decide); rw [hq] at h; exact h
          have U1 : IntKind.u8.wrap (n1 : Int) = (n1 : Int) := IntWalk.u8_in _ (by omega)
          have H1 : Hid (Calls Tryd.prog 35 #[.agg #[.string zk.s, .int .i64 zk.at_, .int .i64 zk.err], .int .i64 1] v0 (NumZ (z1, n1) v0)) := Lib.hid (by rw [← hq]; exact rnum1_any zk v0 X0.out.rf.good)
          clear hq
          go_wp2_with (first | (refine wpList_load_row rfl 107 (.tmp 3) rfl w.heap.size rfl 107 (zC zk) (0, 0) _ R1.out Tryd.underlying107 rfl (by kernel_rfl) ?_))
          with_reducible refine H1.out.mono ?_
          rintro e w1 ⟨rfl, hB⟩
          have T1 := Lib.hid (X0.out.on hB)
          have P1 := Lib.hid (P0.out.on hB)
          have Q1 := Lib.hid (blk_raw T1.out.rf.zb)
          have O1 := Lib.hid (zC_one z1)
          clear hB H1 R1 X0 P0
          go_upto_region 66 with (first | (refine wpList_store_row rfl 107 (.tmp 3) (.tmp 280) rfl w.heap.size (zC z1) rfl rfl 107 (zC zk) Q1.out (by kernel_rfl) rfl O1.out ?_))
          obtain ⟨v1, hv⟩ : ∃ vq, vq = w1.setRow w.heap.size (zC z1) := ⟨_, rfl⟩
          have X1 : Hid (RG w z1 { f1 with ms := lk } v t M 77 #[.int .u8 0, .int .u8 0, .bool false] v1) := Lib.hid (by rw [hv]; exact T1.out.setz K1.out)
          have PX : Hid ((fun wq => memR.Own 77 wq w.heap.size v lk) v1) := Lib.hid (by rw [hv]; exact own_setRow P1.out T1.out.rf.zb (by decide) (zC z1))
          rw [← hv]
          clear hv T1 Q1 O1 P1
          have P1 := PX
          clear PX
          have y0 := X1.out.mb.cell 0
          have x0 := X1.out.mb.frozen 0
          simp at y0
          go_upto_region 67 with fail
          obtain ⟨u1, hv⟩ : ∃ vq, vq = v1.setCell ⟨M, 0, none⟩ (.int .u8 n1) := ⟨_, rfl⟩
          have V1 : Hid (RG w z1 { f1 with ms := lk } v t M 77 #[.int .u8 n1, .int .u8 0, .bool false] u1) := Lib.hid (by rw [hv]; exact X1.out.setm 0 _ rfl)
          have PX : Hid ((fun wq => memR.Own 77 wq w.heap.size v lk) u1) := Lib.hid (by rw [hv]; exact own_setne P1.out HNE.out 0 _)
          rw [← hv]
          clear hv y0 x0 X1 P1
          have P1 := PX
          clear PX
          have R2 := Lib.hid (blk_raw V1.out.rf.zb)
          obtain ⟨z2, n2, hq⟩ : ∃ zq nq, rNum z1 1 = (zq, nq) := ⟨_, _, rfl⟩
          have E2 := Lib.hid hq
          have K2 := Lib.hid (show z2.ok by have h : (rNum z1 1).1.ok := rNum_ok (k := 1) V1.out.rf.good; rw [hq] at h; exact h)
          have L2 : n2 < 256 ^ 1 := by have h := rNum_lt z1 1 (by decide); rw [hq] at h; exact h
          have U2 : IntKind.u8.wrap (n2 : Int) = (n2 : Int) := IntWalk.u8_in _ (by omega)
          have H2 : Hid (Calls Tryd.prog 35 #[.agg #[.string z1.s, .int .i64 z1.at_, .int .i64 z1.err], .int .i64 1] u1 (NumZ (z2, n2) u1)) := Lib.hid (by rw [← hq]; exact rnum1_any z1 u1 V1.out.rf.good)
          clear hq
          go_wp2_with (first | (refine wpList_load_row rfl 107 (.tmp 3) rfl w.heap.size rfl 107 (zC z1) (0, 0) _ R2.out Tryd.underlying107 rfl (by kernel_rfl) ?_))
          with_reducible refine H2.out.mono ?_
          rintro e w2 ⟨rfl, hB⟩
          have T2 := Lib.hid (V1.out.on hB)
          have P2 := Lib.hid (P1.out.on hB)
          have Q2 := Lib.hid (blk_raw T2.out.rf.zb)
          have O2 := Lib.hid (zC_one z2)
          clear hB H2 R2 V1 P1
          go_upto_region 68 with (first | (refine wpList_store_row rfl 107 (.tmp 3) (.tmp 288) rfl w.heap.size (zC z2) rfl rfl 107 (zC z1) Q2.out (by kernel_rfl) rfl O2.out ?_))
          obtain ⟨v2, hv⟩ : ∃ vq, vq = w2.setRow w.heap.size (zC z2) := ⟨_, rfl⟩
          have X2 : Hid (RG w z2 { f1 with ms := lk } v t M 77 #[.int .u8 n1, .int .u8 0, .bool false] v2) := Lib.hid (by rw [hv]; exact T2.out.setz K2.out)
          have PX : Hid ((fun wq => memR.Own 77 wq w.heap.size v lk) v2) := Lib.hid (by rw [hv]; exact own_setRow P2.out T2.out.rf.zb (by decide) (zC z2))
          rw [← hv]
          clear hv T2 Q2 O2 P2
          have P2 := PX
          clear PX
          have y1 := X2.out.mb.cell 1
          have x1 := X2.out.mb.frozen 1
          simp at y1
          go_upto_region 69 with fail
          obtain ⟨u2, hv⟩ : ∃ vq, vq = v2.setCell ⟨M, 1, none⟩ (.int .u8 n2) := ⟨_, rfl⟩
          have V2 : Hid (RG w z2 { f1 with ms := lk } v t M 77 #[.int .u8 n1, .int .u8 n2, .bool false] u2) := Lib.hid (by rw [hv]; exact X2.out.setm 1 _ rfl)
          have PX : Hid ((fun wq => memR.Own 77 wq w.heap.size v lk) u2) := Lib.hid (by rw [hv]; exact own_setne P2.out HNE.out 1 _)
          rw [← hv]
          clear hv y1 x1 X2 P2
          have P2 := PX
          clear PX
          have R3 := Lib.hid (blk_raw V2.out.rf.zb)
          obtain ⟨z3, n3, hq⟩ : ∃ zq nq, rBit z2 = (zq, nq) := ⟨_, _, rfl⟩
          have E3 := Lib.hid hq
          have K3 := Lib.hid (show z3.ok by have h : (rBit z2).1.ok := rMust_ok (rNum_ok (k := 1) V2.out.rf.good); rw [hq] at h; exact h)
          have H3 : Hid (Calls Tryd.prog 66 #[.agg (zC z2)] u2 (BitZ (z3, n3) u2)) := Lib.hid (by rw [← hq]; exact rbitZ_any z2 u2 V2.out.rf.good)
          clear hq
          go_wp2_with (first | (refine wpList_load_row rfl 107 (.tmp 3) rfl w.heap.size rfl 107 (zC z2) (0, 0) _ R3.out Tryd.underlying107 rfl (by kernel_rfl) ?_))
          with_reducible refine H3.out.mono ?_
          rintro e w3 ⟨rfl, hB⟩
          have T3 := Lib.hid (V2.out.on hB)
          have P3 := Lib.hid (P2.out.on hB)
          have Q3 := Lib.hid (blk_raw T3.out.rf.zb)
          have O3 := Lib.hid (zC_one z3)
          clear hB H3 R3 V2 P2
          have Y3 := Lib.hid (T3.out.setz K3.out)
          have y2 := Y3.out.mb.cell 2
          have x2 := Y3.out.mb.frozen 2
          simp at y2
          have PY := Lib.hid (own_setRow P3.out T3.out.rf.zb (by decide) (zC z3))
          go_upto_region 70 with (first | (refine wpList_store_row rfl 107 (.tmp 3) (.tmp 296) rfl w.heap.size (zC z3) rfl rfl 107 (zC z2) Q3.out (by kernel_rfl) rfl O3.out ?_))
          obtain ⟨v3, hv⟩ : ∃ vq, vq = (w3.setRow w.heap.size (zC z3)).setCell ⟨M, 2, none⟩ (.bool n3) := ⟨_, rfl⟩
          have X3 : Hid (RG w z3 { f1 with ms := lk } v t M 77 #[.int .u8 n1, .int .u8 n2, .bool n3] v3) := Lib.hid (by rw [hv]; exact (RG.setm (cs' := #[.int .u8 n1, .int .u8 n2, .bool n3]) Y3.out 2 (.bool n3) rfl))
          have PX : Hid ((fun wq => memR.Own 77 wq w.heap.size v lk) v3) := Lib.hid (by rw [hv]; exact (own_setne PY.out HNE.out 2 (.bool n3)))
          rw [← hv]
          clear hv Y3 T3 Q3 O3 PY P3 y2 x2
          have P3 := PX
          clear PX
          obtain ⟨yy, hyy⟩ : ∃ yq : Mem, yq = ⟨n1, n2, n3⟩ := ⟨_, rfl⟩
          have hEnt : rMem zk = (z3, yy) := by
            show ((rBit (rNum (rNum zk 1).1 1).1).1, (⟨(rNum zk 1).2, (rNum (rNum zk 1).1 1).2, (rBit (rNum (rNum zk 1).1 1).1).2⟩ : Mem)) = _
            rw [E1.out]; simp only; rw [E2.out]; simp only; rw [E3.out, hyy]
          have EK2 := Lib.hid (show rMems (nS - (k + 1)) z3 (lk ++ [yy]) = rMems nS zS [] by rw [← EK.out, rMems_go H1K.out HE0.out, hEnt])
          have X3 : Hid (RG w z3 { f1 with ms := lk } v t M 77 #[.int .u8 yy.n, .int .u8 yy.l, .bool yy.r] v3) := Lib.hid (by rw [hyy]; exact X3.out)
          clear hEnt hyy EK HE0 E1 E2 E3 K1 K2 K3 L1 L2 U1 U2
          have y0 : v3.cell? ⟨M, 0, none⟩ = some (.int .u8 yy.n) := X3.out.mb.cell 0
          have y1 : v3.cell? ⟨M, 1, none⟩ = some (.int .u8 yy.l) := X3.out.mb.cell 1
          have y2 : v3.cell? ⟨M, 2, none⟩ = some (.bool yy.r) := X3.out.mb.cell 2
          have cX : v3.cell? ⟨w.heap.size + 1, 24, none⟩ = some v := X3.out.rf.xb.cell 24
          have lX := X3.out.rf.xb.lt
          have lM := X3.out.mb.lt
          have TA := Lib.hid (X3.out.rf.al (.cells #[.int .u8 yy.n, .int .u8 yy.l, .bool yy.r] 77))
          have PA := Lib.hid (P3.out.al (.cells #[.int .u8 yy.n, .int .u8 yy.l, .bool yy.r] 77))
          go_wp2_with (at_builtin; refine wpList_append_own1 _ rfl _ _ 49 rfl w.heap.size 77 i0 _ 3 3 Tryd.underlying49 HI.out.1 HI.out.2.1 HI.out.2.2.1 HI.out.2.2.2 rfl (by decide) _ _ _ rfl PA.out ⟨v3.heap.size, 0, none⟩ 1 1 (memR.f yy) rfl rfl ?qn (memR.one yy) (by rw [HLK.out]; unfold maxLen; omega) (by rw [HLK.out]; omega) (by simp; omega) (by decide) ?_)
          case qn => exact fun _ _ hu => hu
          intro g9 cap9 w8 hg hown hgrow
          have P8 : Hid (memR.Own 77 w8 w.heap.size (.slice (some ⟨g9, 0, none⟩) (k + 1) cap9) (lk ++ [yy])) := Lib.hid (by unfold RK.Own; rw [List.length_append, RK.row_snoc, HLK.out]; exact hown)
          have T8 := Lib.hid (TA.out.row PA.out (by decide) (by decide) hgrow)
          clear hown hgrow hg TA y0 y1 y2 cX lX lM P3 PA X3
          have cX : w8.cell? ⟨w.heap.size + 1, 24, none⟩ = some v := T8.out.xb.cell 24
          have fX := T8.out.xb.frozen 24
          have hu : IntKind.u32.wrap ((k : Int) + 1) = (k : Int) + 1 := IntWalk.u32_in _ (by omega)
          have HREL : Hid (RMemLoop w f1 t nS zS (.int .u32 ((k : Int) + 1)) (w8.setCell ⟨w.heap.size + 1, 24, none⟩ (.slice (some ⟨g9, 0, none⟩) (k + 1) cap9))) := Lib.hid ⟨k + 1, z3, lk ++ [yy], _, by omega, by go_num, by rw [List.length_append, HLK.out]; rfl, T8.out.setf 24 _ rfl, own_set P8.out T8.out.xb (by decide) 24 _, EK2.out⟩
          clear T8 P8 EK2
          go_wp2_with fail
          go_roundw
          case rel => exact HREL.out
          case measure => simp [intOf]; omega
        · have he' : (zk.err == 0) = false := by simpa using he
          have HX1 : Hid (RMemEnd w f1 t nS zS wr) := Lib.hid ⟨zk, lk, v, TK.out, P0.out, by rw [← EK.out, rMems_stay _ he]⟩
          clear he
          go_wp2_with fail
          refine Met.intro (HJ.out _ _ ?_)
          repeat apply Exists.intro
          refine ⟨?_, rfl⟩
          exact HX1.out
      · have h1' : ¬ (k : Int) < (nS : Int) := by omega
        have HX1 : Hid (RMemEnd w f1 t nS zS wr) := Lib.hid ⟨zk, lk, v, TK.out, P0.out, by rw [← EK.out, show nS - k = 0 by omega]; rfl⟩
        go_wp2_with fail
        refine Met.intro (HJ.out _ _ ?_)
        repeat apply Exists.intro
        refine ⟨?_, rfl⟩
        exact HX1.out
  case rest =>
    obtain ⟨zE, lE, sE, hT, hO, hE⟩ := hcut
    have HST2 : Hid (RLvLoop w { f1 with ms := lE } sE t zE (.int .i64 0) wc) := Lib.hid ⟨0, zE, [], Nat.zero_le _, rfl, rfl, by rw [lvPut_nil]; exact hT, by simp⟩
    have POWN := Lib.hid (own_mono hO HB0.out)
    have HEE := Lib.hid hE
    have PLE := Lib.hid hO
    clear hT hO hE HST
    go_wp2_with fail
    go_loopw [12, 8] (fun i _ wr => RLvLoop w { f1 with ms := lE } sE t zE i wr ∧ memR.Own 77 wr b0 sE lE) (fun i _ _ => 8 - (intOf i).toNat)
    case atStart => exact ⟨HST2.out, POWN.out⟩
    case round =>
      obtain ⟨⟨k, zk, ns, hk, rfl, hl, hT, hE⟩, hO⟩ := hrel
      have TK := Lib.hid hT
      have EK := Lib.hid hE
      have P0 := Lib.hid hO
      clear HST2 hT hE hO POWN PLE
      by_cases h1 : k < 8
      · go_upto_region 74 with fail
        have R1 := Lib.hid (blk_raw TK.out.zb)
        obtain ⟨z1, n1, hq⟩ : ∃ zq nq, rNum zk 1 = (zq, nq) := ⟨_, _, rfl⟩
        have E1 := Lib.hid hq
        have K1 := Lib.hid (show z1.ok by have h := rNum_ok (k := 1) TK.out.good; rw [show rNum zk 1 = (z1, n1) from hq] at h; exact h)
        have L1 : n1 < 256 ^ 1 := by have h := rNum_lt zk 1 (by decide); rw [hq] at h; exact h
        have U1 : IntKind.u8.wrap (n1 : Int) = (n1 : Int) := IntWalk.u8_in _ (by omega)
        have H1 : Hid (Calls Tryd.prog 35 #[.agg #[.string zk.s, .int .i64 zk.at_, .int .i64 zk.err], .int .i64 1] wr (NumZ (z1, n1) wr)) := Lib.hid (by rw [← hq]; exact rnum1_any zk wr TK.out.good)
        clear hq
        go_wp2_with (first | (refine wpList_load_row rfl 107 (.tmp 3) rfl w.heap.size rfl 107 (zC zk) (0, 0) _ R1.out Tryd.underlying107 rfl (by kernel_rfl) ?_))
        with_reducible refine H1.out.mono ?_
        rintro e w1 ⟨rfl, hB⟩
        have T1 := Lib.hid (TK.out.on hB)
        have BB := Lib.hid hB
        have Q1 := Lib.hid (blk_raw T1.out.zb)
        have O1 := Lib.hid (zC_one z1)
        clear hB H1 R1 TK
        have PX := Lib.hid ((P0.out.on BB.out))
        clear P0
        go_upto_region 75 with (first | (refine wpList_store_row rfl 107 (.tmp 3) (.tmp 312) rfl w.heap.size (zC z1) rfl rfl 107 (zC zk) Q1.out (by kernel_rfl) rfl O1.out ?_))
        obtain ⟨v1, hv⟩ : ∃ vq, vq = w1.setRow w.heap.size (zC z1) := ⟨_, rfl⟩
        have X1 : Hid (RF w z1 { f1 with ms := lE, lv := lvPut f1.lv ns } sE t v1) := Lib.hid (by rw [hv]; exact T1.out.setz K1.out)
        have P0 : Hid (memR.Own 77 v1 b0 sE lE) := Lib.hid (by rw [hv]; exact own_setRow PX.out T1.out.zb (by decide) (zC z1))
        rw [← hv]
        clear hv T1 Q1 O1 PX BB
        have HLN := Lib.hid hl
        have cL : v1.cell? ⟨w.heap.size + 1, 25 + k, none⟩ = some (lvCell (lvPut f1.lv ns) k) := by rw [X1.out.xb.cell]; exact lv_cell _ _ _ _ h1
        have fL := X1.out.xb.frozen (25 + k)
        have hrl : rLv (8 - k) zk = ((rLv (8 - (k + 1)) z1).1, n1 :: (rLv (8 - (k + 1)) z1).2) := by
          rw [show 8 - k = (8 - (k + 1)) + 1 by omega]
          show ((rLv _ (rNum zk 1).1).1, (rNum zk 1).2 :: (rLv _ (rNum zk 1).1).2) = _
          rw [E1.out]
        have HREL : Hid (RLvLoop w { f1 with ms := lE } sE t zE (.int .i64 (k + 1)) (v1.setCell ⟨w.heap.size + 1, 25 + k, none⟩ (.int .u8 n1)) ∧ memR.Own 77 (v1.setCell ⟨w.heap.size + 1, 25 + k, none⟩ (.int .u8 n1)) b0 sE lE) :=
          Lib.hid ⟨⟨k + 1, z1, ns ++ [n1], by omega, by go_num, by rw [List.length_append, HLN.out]; rfl, X1.out.setf (25 + k) _ (lv_set _ _ _ _ _ _ HLN.out h1), by rw [EK.out, hrl]; simp⟩, own_set P0.out X1.out.xb (by decide) (25 + k) _⟩
        clear X1 P0 EK hrl E1 K1 L1
        go_wp2_with fail
        go_roundw
        case rel => exact HREL.out
        case measure => simp [intOf]; omega
      · obtain rfl : k = 8 := by omega
        have HX2 : Hid (rLv 8 zE = (zk, ns)) := Lib.hid (by rw [EK.out]; simp [rLv])
        have hlv : lvPut f1.lv ns = lvOfL ns := lvPut_all _ _ hl
        have X9 : Hid (RF w zk { f1 with ms := lE, lv := lvOfL ns } sE t wr) := Lib.hid (by rw [← hlv]; exact TK.out)
        clear hlv TK
        go_upto_region 76 with fail
        have hF : rField 87 f z = ({ f1 with ms := lE, lv := lvOfL ns }, zk) := by rw [HR.out, HEE.out]; simp only; rw [HX2.out]
        have HF := Lib.hid hF
        clear hF
        refine ret_region X9.out (own_1 P0.out) OT.out (of_decide_eq_true (by kernel_rfl)) rfl rfl rfl rfl (fun _ _ _ _ _ h => h) ?_
        intro a9 v9 h6 h7 hd hz9 hf9 SB KP
        go_wp2_with fail
        refine bodyPost_ret (results_cell2 (p := 6) (q := 7) Tryd.results37 a9.tmps v9 (w.heap.size + 2) (w.heap.size + 3) 107 52 (zC zk) (frC { f1 with ms := lE, lv := lvOfL ns } sE t) (0, 0) (0, 0) _ _ h6 hz9 Tryd.underlying107 rfl (by kernel_rfl) h7 hf9 Tryd.underlying52 rfl (by kernel_rfl)) hd ?_
        rw [HF.out]
        exact ⟨sE, t, rfl, SB, own_kept P0.out X9.out (by decide) (by decide) KP, (by rw [HF1.out]; exact HT.out.on SB), X9.out.good, fun h => absurd rfl h, fun _ => rfl⟩
end Go.Proofs.YtodajejjhfpdmaaDoor
