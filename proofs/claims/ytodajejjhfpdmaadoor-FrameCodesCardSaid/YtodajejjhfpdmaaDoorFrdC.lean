/-
  Frame's decoder: values.
-/
import Derived.Test.YtodajejjhfpdmaaDoorFrdB
namespace Go.Proofs.YtodajejjhfpdmaaDoor
open Go.RowKit Go.Instr

theorem dText_le {s : Sd} (h : s.ok) : (dText s).1.size ≤ maxLen := by
  have h1 : (takeT s.r s.f (textN s.r)).size ≤ 1000000 := by
    unfold takeT
    split
    · rw [ByteArray.size_extract]
      have : s.r.size ≤ 1000000 := h
      omega
    · exact Nat.zero_le _
  have h2 : (dText s).1.size ≤ (takeT s.r s.f (textN s.r)).size := by
    show (tailT _).size ≤ _
    unfold tailT
    split
    · exact Nat.zero_le _
    · rw [ByteArray.size_extract]; omega
  unfold maxLen
  omega
/-- What stands behind the reading of a value. -/
def ValCut (base D B : Nat) (w : World) (s : Sd) (R : Nat) (u : Value) (wx : World) : Prop :=
  ∃ X : Nat, u = .pointer (some ⟨X, 0, none⟩) ∧ DQ base D B w (dText (dFlag s).2).2 wx ∧ Blk wx R #[.bool false, .string ⟨#[]⟩] 38 ∧ Blk wx X #[.bool (dFlag s).1, .string (dText (dFlag s).2).1] 38
set_option maxHeartbeats 4000000 in
set_option maxRecDepth 20000 in
theorem dvalue_any {base D B : Nat} {s : Sd} {w : World} (h : DecAt w D B s) (hb : base ≤ B) (hbD : base ≤ D) :
    Calls Tryd.prog 59 #[.pointer (some ⟨D, 0, none⟩)] w (DecP base D B w (.agg #[.bool (dValue s).1.1, .string (dValue s).1.2]) (dValue s).2) := by
  have hbw : base ≤ w.heap.size := Nat.le_trans hb (Nat.le_of_lt h.ltB)
  have hDB := Lib.hid (And.intro h.1.lt h.ltB)
  have Q1 := (DQ.start (base := base) h).alloc hb (.cells #[.bool false, .string ⟨#[]⟩] 38)
  have R1 := Blk.new (w := w) (B := w.heap.size) (T := 38) (cs := #[.bool false, .string ⟨#[]⟩]) rfl
  have HOK := h.2.2
  clear h
  go_enter Tryd.func59, Tryd.ntmps59
  go_upto_region 1 with fail
  obtain ⟨w2, hw2⟩ : ∃ w2, w2 = w.alloc (.cells #[.bool false, .string ⟨#[]⟩] 38) := ⟨_, rfl⟩
  obtain ⟨R, hR⟩ : ∃ R, R = w.heap.size := ⟨_, rfl⟩
  rw [← hw2] at Q1 R1 ⊢
  rw [← hR] at R1 ⊢
  have hRw := Lib.hid (Nat.le_of_eq hR.symm)
  have HL := Lib.hid (dText_le (dFlag_ok HOK))
  clear HOK
  have c0 := Q1.1.1.cell 0
  simp at c0
  have hDw := Q1.1.1.lt
  have HQ := Lib.hid Q1
  have HR := Lib.hid R1
  clear Q1 R1 hw2 hR
  go_cut [3] (fun u wx => ValCut base D B w s R u wx)
  case first => as_aux_lemma =>
    go_region_law (first
      | (refine step_calls1 rfl 60 Tryd.func60 (by kernel_rfl) rfl rfl (.pointer (some ⟨D, 0, none⟩)) rfl ?_
         refine Calls.mono (dflag_any (base := base) (D := D) (B := B) (s := s) (HQ.out.1.on (by go_grown)) hb hbD) ?_
         rintro en w4 ⟨rfl, q4⟩
         refine ⟨_, rfl, ?_⟩
         have Q4 := Lib.hid (DQ.call (HQ.out.on hb (by go_grown)) q4)
         have R4 := Lib.hid (DQ.blk q4 (HQ.out.1.on (by go_grown)) (HR.out.on (by go_grown)) (by decide) (by decide))
         have c4 := Q4.out.1.1.cell 0
         simp at c4
         have hD4 := Q4.out.1.1.lt
         first
           | (have X4 := Lib.hid (DQ.blk q4 (HQ.out.1.on (by go_grown)) (Blk.new (w := w2.drew) (B := w2.heap.size) (T := 38) (cs := #[.bool false, .string ⟨#[]⟩]) rfl) (by decide) (by decide)))
           | (have X4 := Lib.hid True.intro)
         clear q4)
      | (refine step_calls1 rfl 78 Tryd.func78 (by kernel_rfl) rfl rfl (.pointer (some ⟨B, 0, none⟩)) rfl ?_
         refine Calls.mono (dtext_any (base := base) (D := D) (B := B) (s := (dFlag s).2) (Q4.out.1.on (by go_grown)) hb) ?_
         rintro en w5 ⟨rfl, q5⟩
         refine ⟨_, rfl, ?_⟩
         have Q5 := Lib.hid (DQ.call (Q4.out.on hb (by go_grown)) q5)
         have R5 := Lib.hid (DQ.blk q5 (Q4.out.1.on (by go_grown)) (R4.out.on (by go_grown)) (by decide) (by decide))
         first
           | (have hx := DQ.blk q5 (Q4.out.1.on (by go_grown)) (Blk.on (B := w2.heap.size) (T := 38) (cs := #[.bool false, .string ⟨#[]⟩]) X4.out (by go_grown)) (by decide) (by decide)
              have x0 := hx.cell 0
              have x1 := hx.cell 1
              have fx0 := hx.frozen 0
              have fx1 := hx.frozen 1
              simp at x0 x1
              have HX := Lib.hid hx
              clear hx)
           | (have hx := DQ.blk q5 (Q4.out.1.on (by go_grown)) (Blk.new (w := w4) (B := w4.heap.size) (T := 38) (cs := #[.bool false, .string ⟨#[]⟩]) rfl) (by decide) (by decide)
              have x0 := hx.cell 0
              have x1 := hx.cell 1
              have fx0 := hx.frozen 0
              have fx1 := hx.frozen 1
              simp at x0 x1
              have HX := Lib.hid hx
              clear hx)
           | (have HX := Lib.hid True.intro)
         clear q5))
    all_goals
      have hD' := hDB.out
      go_wp2_with fail
      go_meet
      refine ⟨_, rfl, ?_, ?_, ?_⟩
      · first
          | with_reducible exact Q5.out.alloc hb _
          | with_reducible exact (Q5.out.set hbw hD'.1 hD'.2 Q4.out.size 0 _).set hbw hD'.1 hD'.2 Q4.out.size 1 _
          | with_reducible exact (Q5.out.set hbw hD'.1 hD'.2 HQ.out.size 0 _).set hbw hD'.1 hD'.2 HQ.out.size 1 _
      · first
          | with_reducible exact R5.out.alloc _
          | with_reducible exact (R5.out.set_other 0 _ (Nat.ne_of_lt R4.out.lt)).set_other 1 _ (Nat.ne_of_lt R4.out.lt)
          | with_reducible exact (R5.out.set_other 0 _ (Nat.ne_of_lt HR.out.lt)).set_other 1 _ (Nat.ne_of_lt HR.out.lt)
      · first
          | with_reducible exact Blk.new rfl
          | with_reducible exact (HX.out.set 0 _ _ rfl).set 1 _ _ rfl
  case rest => as_aux_lemma =>
    obtain ⟨X, rfl, q6, r6, x6⟩ := hcut
    have Q6 := Lib.hid q6
    have R6 := Lib.hid r6
    have y0 := x6.cell 0
    have y1 := x6.cell 1
    simp at y0 y1
    have X6 := Lib.hid x6
    clear q6 r6 x6 c0 HQ HR
    go_wp2_with fail
    with_reducible refine (isValue_any (dFlag s).1 (dText (dFlag s).2).1 _ HL.out).mono ?_
    rintro e w7 ⟨rfl, hB7⟩
    have Q7 := Lib.hid (Q6.out.on hb hB7)
    have R7 := Lib.hid (R6.out.on hB7)
    have X7 := Lib.hid (X6.out.on hB7)
    have H8 := Lib.hid (dcheck_any (base := base) (valueB (dFlag s).1 (dText (dFlag s).2).1) Q7.out.1 hbD)
    clear Q6 R6 X6 hB7 y0 y1
    go_wp2_with fail
    with_reducible refine H8.out.mono ?_
    rintro e w8 ⟨rfl, q8⟩
    have Q8 := Lib.hid (Q7.out.call q8)
    have R8 := Lib.hid (DQ.blk q8 Q7.out.1 R7.out (by decide) (by decide))
    have X8 := Lib.hid (DQ.blk q8 Q7.out.1 X7.out (by decide) (by decide))
    have y0 := X8.out.cell 0
    have y1 := X8.out.cell 1
    have c0 := R8.out.cell 0
    have c1 := R8.out.cell 1
    have f0 := R8.out.frozen 0
    have f1 := R8.out.frozen 1
    simp at y0 y1 c0 c1
    clear H8 Q7 R7 X7 q8
    go_wp2_with fail
    refine bodyPost_ret (v := .agg #[.bool (dFlag s).1, .string (dText (dFlag s).2).1]) (results_cell_row (p := 2) Tryd.results59 _ _ R 38 _ (0, 0) _ rfl ((R8.out.set 0 _ _ rfl).set 1 _ _ rfl) Tryd.underlying38 rfl (by kernel_rfl)) rfl ⟨rfl, ?_⟩
    have hD' := hDB.out
    exact ((Q8.out.set hbw hD'.1 hD'.2 hRw.out 0 _).set hbw hD'.1 hD'.2 hRw.out 1 _)
end Go.Proofs.YtodajejjhfpdmaaDoor
