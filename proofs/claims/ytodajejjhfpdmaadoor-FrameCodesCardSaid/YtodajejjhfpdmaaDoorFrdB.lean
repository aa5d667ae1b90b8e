/-
  Frame's decoder: flags, counts, keys, marks, heads, commands, values.
-/
import Derived.Test.YtodajejjhfpdmaaDoorFrdA
namespace Go.Proofs.YtodajejjhfpdmaaDoor
open Go.RowKit Go.Instr

theorem le_cast (n m : Nat) : decide ((n : Int) ≤ (m : Int)) = decide (n ≤ m) := by rw [decide_eq_decide]; omega
theorem dflag_any {base D B : Nat} {s : Sd} {w : World} (h : DecAt w D B s) (hb : base ≤ B) (hbD : base ≤ D) :
    Calls Tryd.prog 60 #[.pointer (some ⟨D, 0, none⟩)] w (DecP base D B w (.bool (dFlag s).1) (dFlag s).2) := by
  have H1 := Lib.hid (done_any (base := base) h hb)
  unfold dFlag
  generalize hp : dOne s = p at H1 ⊢
  obtain ⟨n, s1⟩ := p
  simp only at H1 ⊢
  clear h hp
  go_enter Tryd.func60, Tryd.ntmps60
  go_wp2_with fail
  with_reducible refine H1.out.mono ?_
  rintro e w2 ⟨rfl, q2⟩
  have H2 := Lib.hid (fun b => dcheck_any (base := base) b q2.1 hbD)
  have Q2 := Lib.hid q2
  clear H1 q2
  go_wp2_with fail
  with_reducible refine (H2.out _).mono ?_
  rintro e w3 ⟨rfl, q3⟩
  have Q3 := Lib.hid q3
  clear H2 q3
  go_wp2_with fail
  go_ret
  have e1 : decide ((n : Int) ≤ 1) = decide (n ≤ 1) := le_cast n 1
  have e2 : ((n : Int) == 1) = (n == 1) := by rw [Bool.eq_iff_iff]; simp; omega
  have hq := (DQ.call (w := w) ⟨Q2.out.1, Q2.out.2.1, Q2.out.2.2⟩ Q3.out)
  rw [e1] at hq
  refine ⟨?_, hq⟩
  show Ending.returned (.bool ((n : Int) == 1)) = _
  rw [e2]
theorem dkey_any {base D B : Nat} {s : Sd} {w : World} (h : DecAt w D B s) (hb : base ≤ B) (hbD : base ≤ D) :
    Calls Tryd.prog 57 #[.pointer (some ⟨D, 0, none⟩)] w (DecP base D B w (.int .u8 (dKey s).1) (dKey s).2) := by
  have H1 := Lib.hid (done_any (base := base) h hb)
  unfold dKey
  generalize hp : dOne s = p at H1 ⊢
  obtain ⟨n, s1⟩ := p
  simp only at H1 ⊢
  clear h hp
  go_enter Tryd.func57, Tryd.ntmps57
  go_wp2_with fail
  with_reducible refine H1.out.mono ?_
  rintro e w2 ⟨rfl, q2⟩
  have Q2 := Lib.hid q2
  clear H1 q2
  go_wp2_with fail
  with_reducible refine (isKey_any _ _).mono ?_
  rintro e w3 ⟨rfl, hB3⟩
  have Q3 := Lib.hid (DQ.on (w := w) ⟨Q2.out.1, Q2.out.2.1, Q2.out.2.2⟩ hb hB3)
  have H3 := Lib.hid (dcheck_any (base := base) (decide (n < 6)) Q3.out.1 hbD)
  clear Q2 hB3
  go_wp2_with fail
  with_reducible refine H3.out.mono ?_
  rintro e w4 ⟨rfl, q4⟩
  have Q4 := Lib.hid (Q3.out.call q4)
  clear H3 q4
  go_wp2_with fail
  go_ret
  exact ⟨rfl, Q4.out⟩
theorem dcount_any {base D B : Nat} {s : Sd} {w : World} (m : Nat) (mi : Int) (hm : mi = m) (h : DecAt w D B s) (hb : base ≤ B) (hbD : base ≤ D) :
    Calls Tryd.prog 79 #[.pointer (some ⟨D, 0, none⟩), .int .u8 mi] w (DecP base D B w (.int .i64 (dCount m s).1) (dCount m s).2) := by
  subst hm
  have H1 := Lib.hid (done_any (base := base) h hb)
  have hlt := dOne_lt s
  unfold dCount
  generalize hp : dOne s = p at H1 hlt ⊢
  obtain ⟨n, s1⟩ := p
  simp only at H1 hlt ⊢
  clear h hp
  have hw : IntKind.i64.wrap (n : Int) = (n : Int) := IntWalk.i64_in _ (by omega)
  by_cases hnm : m < n
  · have hnm' : (m : Int) < (n : Int) := by omega
    rw [if_pos hnm]
    go_enter Tryd.func79, Tryd.ntmps79
    go_wp2_with fail
    with_reducible refine H1.out.mono ?_
    rintro e w2 ⟨rfl, q2⟩
    have Q2 := Lib.hid q2
    have H3 := Lib.hid (dcheck_any (base := base) false Q2.out.1 hbD)
    clear H1 q2
    go_wp2_with fail
    with_reducible refine H3.out.mono ?_
    rintro e w4 ⟨rfl, q4⟩
    have Q4 := Lib.hid (DQ.call (w := w) ⟨Q2.out.1, Q2.out.2.1, Q2.out.2.2⟩ q4)
    clear H3 q4
    go_wp2_with fail
    go_ret
    exact ⟨rfl, Q4.out⟩
  · have hnm' : ¬ (m : Int) < (n : Int) := by omega
    rw [if_neg hnm]
    go_enter Tryd.func79, Tryd.ntmps79
    go_wp2_with fail
    with_reducible refine H1.out.mono ?_
    rintro e w2 ⟨rfl, q2⟩
    have Q2 := Lib.hid q2
    clear H1 q2
    go_wp2_with fail
    go_ret
    exact ⟨rfl, Q2.out⟩
set_option maxHeartbeats 1000000 in
theorem dmark_any {base D B : Nat} {s : Sd} {w : World} (h : DecAt w D B s) (hb : base ≤ B) (_hbD : base ≤ D) :
    Calls Tryd.prog 77 #[.pointer (some ⟨D, 0, none⟩)] w (DecP base D B w (.agg #[.int .u32 (dMark s).1.1, .int .u8 (dMark s).1.2]) (dMark s).2) := by
  have hbw : base ≤ w.heap.size := Nat.le_trans hb (Nat.le_of_lt h.ltB)
  have hDB := Lib.hid (And.intro h.1.lt h.ltB)
  have Q1 := Lib.hid ((DQ.start (base := base) h).alloc hb (.cells #[.int .u32 0, .int .u8 0] 34))
  have R1 := Lib.hid (Blk.new (w := w) (B := w.heap.size) (T := 34) (cs := #[.int .u32 0, .int .u8 0]) rfl)
  have H1 := Lib.hid (dfour_any Q1.out.1 hb)
  clear h
  go_enter Tryd.func77, Tryd.ntmps77
  go_wp2_with fail
  with_reducible refine H1.out.mono ?_
  rintro e w2 ⟨rfl, q2⟩
  have Q2 := Lib.hid (Q1.out.call q2)
  have R2 := Lib.hid (DQ.blk q2 Q1.out.1 R1.out (by decide) (by decide))
  have H2 := Lib.hid (done_any Q2.out.1 hb)
  clear H1 Q1 R1 q2
  go_wp2_with fail
  with_reducible refine H2.out.mono ?_
  rintro e w3 ⟨rfl, q3⟩
  have Q3 := Lib.hid (Q2.out.call q3)
  have R3 := Lib.hid (DQ.blk q3 Q2.out.1 R2.out (by decide) (by decide))
  clear H2 Q2 R2 q3
  have c0 := R3.out.cell 0
  have f0 := R3.out.frozen 0
  have c1 := R3.out.cell 1
  have f1 := R3.out.frozen 1
  simp at c0 c1
  go_wp2_with fail
  refine bodyPost_ret (v := .agg #[.int .u32 (dMark s).1.1, .int .u8 (dMark s).1.2]) (results_cell_row (p := 2) Tryd.results77 _ _ w.heap.size 34 _ (0, 0) _ rfl ((R3.out.set 0 _ _ rfl).set 1 _ _ rfl) Tryd.underlying34 rfl (by kernel_rfl)) rfl ⟨rfl, ?_⟩
  have q := Q3.out
  exact ((q.set hbw hDB.out.1 hDB.out.2 (Nat.le_refl _) _ _).set hbw hDB.out.1 hDB.out.2 (Nat.le_refl _) _ _)
set_option maxHeartbeats 1000000 in
theorem dhead_any {base D B : Nat} {s : Sd} {w : World} (h : DecAt w D B s) (hb : base ≤ B) (_hbD : base ≤ D) :
    Calls Tryd.prog 30 #[.pointer (some ⟨D, 0, none⟩)] w (DecP base D B w (.agg #[.int .u8 (dHead s).1.1, .int .u8 (dHead s).1.2.1, .int .u8 (dHead s).1.2.2]) (dHead s).2) := by
  have hbw : base ≤ w.heap.size := Nat.le_trans hb (Nat.le_of_lt h.ltB)
  have hDB := Lib.hid (And.intro h.1.lt h.ltB)
  have Q1 := Lib.hid ((DQ.start (base := base) h).alloc hb (.cells #[.int .u8 0, .int .u8 0, .int .u8 0] 32))
  have R1 := Lib.hid (Blk.new (w := w) (B := w.heap.size) (T := 32) (cs := #[.int .u8 0, .int .u8 0, .int .u8 0]) rfl)
  have H1 := Lib.hid (done_any Q1.out.1 hb)
  clear h
  go_enter Tryd.func30, Tryd.ntmps30
  go_wp2_with fail
  with_reducible refine H1.out.mono ?_
  rintro e w2 ⟨rfl, q2⟩
  have Q2 := Lib.hid (Q1.out.call q2)
  have R2 := Lib.hid (DQ.blk q2 Q1.out.1 R1.out (by decide) (by decide))
  have H2 := Lib.hid (done_any Q2.out.1 hb)
  clear H1 Q1 R1 q2
  go_wp2_with fail
  with_reducible refine H2.out.mono ?_
  rintro e w3 ⟨rfl, q3⟩
  have Q3 := Lib.hid (Q2.out.call q3)
  have R3 := Lib.hid (DQ.blk q3 Q2.out.1 R2.out (by decide) (by decide))
  have H3 := Lib.hid (done_any Q3.out.1 hb)
  clear H2 Q2 R2 q3
  go_wp2_with fail
  with_reducible refine H3.out.mono ?_
  rintro e w4 ⟨rfl, q4⟩
  have Q4 := Lib.hid (Q3.out.call q4)
  have R4 := Lib.hid (DQ.blk q4 Q3.out.1 R3.out (by decide) (by decide))
  clear H3 Q3 R3 q4
  have c0 := R4.out.cell 0
  have f0 := R4.out.frozen 0
  have c1 := R4.out.cell 1
  have f1 := R4.out.frozen 1
  have c2 := R4.out.cell 2
  have f2 := R4.out.frozen 2
  simp at c0 c1 c2
  go_wp2_with fail
  refine bodyPost_ret (v := .agg #[.int .u8 (dHead s).1.1, .int .u8 (dHead s).1.2.1, .int .u8 (dHead s).1.2.2]) (results_cell_row (p := 2) Tryd.results30 _ _ w.heap.size 32 _ (0, 0) _ rfl (((R4.out.set 0 _ _ rfl).set 1 _ _ rfl).set 2 _ _ rfl) Tryd.underlying32 rfl (by kernel_rfl)) rfl ⟨rfl, ?_⟩
  have q := Q4.out
  exact (((q.set hbw hDB.out.1 hDB.out.2 (Nat.le_refl _) _ _).set hbw hDB.out.1 hDB.out.2 (Nat.le_refl _) _ _).set hbw hDB.out.1 hDB.out.2 (Nat.le_refl _) _ _)
set_option maxHeartbeats 1000000 in
theorem dcommand_any {base D B : Nat} {s : Sd} {w : World} (h : DecAt w D B s) (hb : base ≤ B) (_hbD : base ≤ D) :
    Calls Tryd.prog 64 #[.pointer (some ⟨D, 0, none⟩)] w (DecP base D B w (.agg #[.int .u8 (dCmd s).1.k, .int .u8 (dCmd s).1.n, .int .u8 (dCmd s).1.l, .int .u32 (dCmd s).1.e, .int .u32 (dCmd s).1.r]) (dCmd s).2) := by
  have hbw : base ≤ w.heap.size := Nat.le_trans hb (Nat.le_of_lt h.ltB)
  have hDB := Lib.hid (And.intro h.1.lt h.ltB)
  have Q1 := Lib.hid ((DQ.start (base := base) h).alloc hb (.cells #[.int .u8 0, .int .u8 0, .int .u8 0, .int .u32 0, .int .u32 0] 41))
  have R1 := Lib.hid (Blk.new (w := w) (B := w.heap.size) (T := 41) (cs := #[.int .u8 0, .int .u8 0, .int .u8 0, .int .u32 0, .int .u32 0]) rfl)
  have H1 := Lib.hid (done_any Q1.out.1 hb)
  clear h
  go_enter Tryd.func64, Tryd.ntmps64
  go_wp2_with fail
  with_reducible refine H1.out.mono ?_
  rintro e w2 ⟨rfl, q2⟩
  have Q2 := Lib.hid (Q1.out.call q2)
  have R2 := Lib.hid (DQ.blk q2 Q1.out.1 R1.out (by decide) (by decide))
  have H2 := Lib.hid (done_any Q2.out.1 hb)
  clear H1 Q1 R1 q2
  go_wp2_with fail
  with_reducible refine H2.out.mono ?_
  rintro e w3 ⟨rfl, q3⟩
  have Q3 := Lib.hid (Q2.out.call q3)
  have R3 := Lib.hid (DQ.blk q3 Q2.out.1 R2.out (by decide) (by decide))
  have H3 := Lib.hid (done_any Q3.out.1 hb)
  clear H2 Q2 R2 q3
  go_wp2_with fail
  with_reducible refine H3.out.mono ?_
  rintro e w4 ⟨rfl, q4⟩
  have Q4 := Lib.hid (Q3.out.call q4)
  have R4 := Lib.hid (DQ.blk q4 Q3.out.1 R3.out (by decide) (by decide))
  have H4 := Lib.hid (dfour_any Q4.out.1 hb)
  clear H3 Q3 R3 q4
  go_wp2_with fail
  with_reducible refine H4.out.mono ?_
  rintro e w5 ⟨rfl, q5⟩
  have Q5 := Lib.hid (Q4.out.call q5)
  have R5 := Lib.hid (DQ.blk q5 Q4.out.1 R4.out (by decide) (by decide))
  have H5 := Lib.hid (dfour_any Q5.out.1 hb)
  clear H4 Q4 R4 q5
  go_wp2_with fail
  with_reducible refine H5.out.mono ?_
  rintro e w6 ⟨rfl, q6⟩
  have Q6 := Lib.hid (Q5.out.call q6)
  have R6 := Lib.hid (DQ.blk q6 Q5.out.1 R5.out (by decide) (by decide))
  clear H5 Q5 R5 q6
  have c0 := R6.out.cell 0
  have f0 := R6.out.frozen 0
  have c1 := R6.out.cell 1
  have f1 := R6.out.frozen 1
  have c2 := R6.out.cell 2
  have f2 := R6.out.frozen 2
  have c3 := R6.out.cell 3
  have f3 := R6.out.frozen 3
  have c4 := R6.out.cell 4
  have f4 := R6.out.frozen 4
  simp at c0 c1 c2 c3 c4
  go_wp2_with fail
  refine bodyPost_ret (v := .agg #[.int .u8 (dCmd s).1.k, .int .u8 (dCmd s).1.n, .int .u8 (dCmd s).1.l, .int .u32 (dCmd s).1.e, .int .u32 (dCmd s).1.r]) (results_cell_row (p := 2) Tryd.results64 _ _ w.heap.size 41 _ (0, 0) _ rfl (((((R6.out.set 0 _ _ rfl).set 1 _ _ rfl).set 2 _ _ rfl).set 3 _ _ rfl).set 4 _ _ rfl) Tryd.underlying41 rfl (by kernel_rfl)) rfl ⟨rfl, ?_⟩
  have q := Q6.out
  exact (((((q.set hbw hDB.out.1 hDB.out.2 (Nat.le_refl _) _ _).set hbw hDB.out.1 hDB.out.2 (Nat.le_refl _) _ _).set hbw hDB.out.1 hDB.out.2 (Nat.le_refl _) _ _).set hbw hDB.out.1 hDB.out.2 (Nat.le_refl _) _ _).set hbw hDB.out.1 hDB.out.2 (Nat.le_refl _) _ _)
set_option maxHeartbeats 1000000 in
theorem dballot_any {base D B : Nat} {s : Sd} {w : World} (h : DecAt w D B s) (hb : base ≤ B) (hbD : base ≤ D) :
    Calls Tryd.prog 62 #[.pointer (some ⟨D, 0, none⟩)] w (DecP base D B w (.agg #[.int .u32 (dMark s).1.1, .int .u8 (dMark s).1.2]) (dMark s).2) := by
  have hbw : base ≤ w.heap.size := Nat.le_trans hb (Nat.le_of_lt h.ltB)
  have hDB := Lib.hid (And.intro h.1.lt h.ltB)
  have Q1 := Lib.hid ((DQ.start (base := base) h).alloc hb (.cells #[.int .u32 0, .int .u8 0] 40))
  have R1 := Lib.hid (Blk.new (w := w) (B := w.heap.size) (T := 40) (cs := #[.int .u32 0, .int .u8 0]) rfl)
  have H1 := Lib.hid (dmark_any Q1.out.1 hb hbD)
  clear h
  go_enter Tryd.func62, Tryd.ntmps62
  go_wp2_with fail
  with_reducible refine H1.out.mono ?_
  rintro e w2 ⟨rfl, q2⟩
  have Q2 := Lib.hid (Q1.out.call q2)
  have R2 := Lib.hid (DQ.blk q2 Q1.out.1 R1.out (by decide) (by decide))
  clear H1 Q1 R1 q2
  have c0 := R2.out.cell 0
  have f0 := R2.out.frozen 0
  have c1 := R2.out.cell 1
  have f1 := R2.out.frozen 1
  simp at c0 c1
  go_wp2_with fail
  refine bodyPost_ret (v := .agg #[.int .u32 (dMark s).1.1, .int .u8 (dMark s).1.2]) (results_cell_row (p := 2) Tryd.results62 _ _ w.heap.size 40 _ (0, 0) _ rfl ((R2.out.set 0 _ _ rfl).set 1 _ _ rfl) Tryd.underlying40 rfl (by kernel_rfl)) rfl ⟨rfl, ?_⟩
  have q := Q2.out
  exact ((q.set hbw hDB.out.1 hDB.out.2 (Nat.le_refl _) _ _).set hbw hDB.out.1 hDB.out.2 (Nat.le_refl _) _ _)
set_option maxHeartbeats 1000000 in
theorem dstamp_any {base D B : Nat} {s : Sd} {w : World} (h : DecAt w D B s) (hb : base ≤ B) (hbD : base ≤ D) :
    Calls Tryd.prog 58 #[.pointer (some ⟨D, 0, none⟩)] w (DecP base D B w (.agg #[.int .u32 (dStamp s).1.1, .int .u8 (dStamp s).1.2.1, .int .u8 (dStamp s).1.2.2]) (dStamp s).2) := by
  have hbw : base ≤ w.heap.size := Nat.le_trans hb (Nat.le_of_lt h.ltB)
  have hDB := Lib.hid (And.intro h.1.lt h.ltB)
  have Q1 := Lib.hid ((DQ.start (base := base) h).alloc hb (.cells #[.int .u32 0, .int .u8 0, .int .u8 0] 36))
  have R1 := Lib.hid (Blk.new (w := w) (B := w.heap.size) (T := 36) (cs := #[.int .u32 0, .int .u8 0, .int .u8 0]) rfl)
  have H1 := Lib.hid (dmark_any Q1.out.1 hb hbD)
  clear h
  go_enter Tryd.func58, Tryd.ntmps58
  go_wp2_with fail
  with_reducible refine H1.out.mono ?_
  rintro e w2 ⟨rfl, q2⟩
  have Q2 := Lib.hid (Q1.out.call q2)
  have R2 := Lib.hid (DQ.blk q2 Q1.out.1 R1.out (by decide) (by decide))
  have H2 := Lib.hid (done_any Q2.out.1 hb)
  clear H1 Q1 R1 q2
  go_wp2_with fail
  with_reducible refine H2.out.mono ?_
  rintro e w3 ⟨rfl, q3⟩
  have Q3 := Lib.hid (Q2.out.call q3)
  have R3 := Lib.hid (DQ.blk q3 Q2.out.1 R2.out (by decide) (by decide))
  clear H2 Q2 R2 q3
  have c0 := R3.out.cell 0
  have f0 := R3.out.frozen 0
  have c1 := R3.out.cell 1
  have f1 := R3.out.frozen 1
  have c2 := R3.out.cell 2
  have f2 := R3.out.frozen 2
  simp at c0 c1 c2
  go_wp2_with fail
  refine bodyPost_ret (v := .agg #[.int .u32 (dStamp s).1.1, .int .u8 (dStamp s).1.2.1, .int .u8 (dStamp s).1.2.2]) (results_cell_row (p := 2) Tryd.results58 _ _ w.heap.size 36 _ (0, 0) _ rfl (((R3.out.set 0 _ _ rfl).set 1 _ _ rfl).set 2 _ _ rfl) Tryd.underlying36 rfl (by kernel_rfl)) rfl ⟨rfl, ?_⟩
  have q := Q3.out
  exact (((q.set hbw hDB.out.1 hDB.out.2 (Nat.le_refl _) _ _).set hbw hDB.out.1 hDB.out.2 (Nat.le_refl _) _ _).set hbw hDB.out.1 hDB.out.2 (Nat.le_refl _) _ _)
end Go.Proofs.YtodajejjhfpdmaaDoor
