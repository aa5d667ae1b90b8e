/-
  The walk of the law's 'speaks': a member less.
-/
import Derived.Test.YtkgahhfemlebmaaViewH
import Derived.Test.YtkgahhfemlebmaaViewI
namespace Go.Proofs.Ytkgahhfemlebmaa
open Go.RowKit Go.Instr

theorem apply_is (s : Value) (e : Nat) (lv : Lv) (l : List Mem) (k n cl ce cr : Nat) (r : Vw × Bool) (w : World) (hl : l.length ≤ 40) (hs : MemsAt w s l) (he : e < 4294967296) (hc : Cmd.fine ⟨k, n, cl, ce, cr⟩) (hr : Vw.apply ⟨e, lv, l⟩ ⟨k, n, cl, ce, cr⟩ = r) :
    Calls Try.prog 9 #[.agg (vC e s lv), .agg #[.int .u8 k, .int .u8 n, .int .u8 cl, .int .u32 ce, .int .u32 cr]] w (AppP w r) := by
  subst hr
  exact apply_any s ⟨e, lv, l⟩ ⟨k, n, cl, ce, cr⟩ w hl hs he hc
theorem first_is (n : Nat) (r : Vw) (w : World) (h1 : 1 ≤ n) (h8 : n ≤ 8) (hr : firstV n = r) : Calls Try.prog 7 #[.int .i64 n] w (FirP w r 0) := by
  subst hr
  exact first_yes n w h1 h8
theorem ready_is (e : Nat) (s : Value) (lv : Lv) (l : List Mem) (r : Nat) (w : World) (hl : l.length ≤ 40) (hs : MemsAt w s l) (hr : readyN l = r) :
    Calls Try.prog 14 #[.agg (vC e s lv)] w fun en w' => en = .returned (.int .i64 r) ∧ Below w.heap.size w w' := by
  subst hr
  exact ready_any e s lv l w hl hs
set_option maxHeartbeats 2000000 in
theorem speaks_any (w : World) : Calls Try.prog 6 #[] w fun e w' => e = .returned (.bool true) ∧ Below w.heap.size w w' := by
  go_enter Try.func6, Try.ntmps6
  go_wp2_with fail
  refine (first_is 3 ⟨1, ⟨1, 1, 1, 0, 0, 0, 0, 0⟩, [⟨1, 1, true⟩, ⟨2, 1, true⟩, ⟨3, 1, true⟩]⟩ _ (by decide) (by decide) rfl).mono ?_
  rintro en w1 ⟨s1, rfl, hM, hB⟩
  obtain ⟨a1, c1, hs1⟩ := hM.len
  simp only [List.length_cons, List.length_nil, Nat.zero_add] at hs1 hM ⊢
  subst hs1
  have HM := Lib.hid hM
  have HB := Lib.hid hB
  clear hM hB
  have HA : Hid (Blk (w1.alloc (.cells (vC 1 (.slice a1 3 c1) ⟨1, 1, 1, 0, 0, 0, 0, 0⟩) 28)) w1.heap.size (vC 1 (.slice a1 3 c1) ⟨1, 1, 1, 0, 0, 0, 0, 0⟩) 28) := Lib.hid (Blk.new rfl)
  go_wp2_with fail
  refine (apply_is (.slice a1 3 c1) 1 ⟨1, 1, 1, 0, 0, 0, 0, 0⟩ [⟨1, 1, true⟩, ⟨2, 1, true⟩, ⟨3, 1, true⟩] 2 2 1 0 0 (⟨2, ⟨1, 1, 1, 0, 0, 0, 0, 0⟩, [⟨1, 1, true⟩, ⟨3, 1, true⟩]⟩, true) _ (by decide) (HM.out.on (by go_grown)) (by decide) ⟨by decide, by decide, by decide, by decide, by decide⟩ rfl).mono ?_
  rintro en w2 ⟨s2, rfl, hM, hB⟩
  obtain ⟨a2, c2, hs2⟩ := hM.len
  simp only [List.length_cons, List.length_nil, Nat.zero_add] at hs2 hM ⊢
  subst hs2
  have HM2 := Lib.hid hM
  have HB2 : Hid (Below w.heap.size w w2) := Lib.hid (m_below_on (by have := HB.out; have := HB.out.size; go_grown) hB)
  have HA2 := Lib.hid (HA.out.on hB)
  clear hM hB HM HA
  generalize w1.heap.size = A at *
  have HC : Hid (Blk (w2.alloc (.cells (vC 2 (.slice a2 2 c2) ⟨1, 1, 1, 0, 0, 0, 0, 0⟩) 28)) w2.heap.size (vC 2 (.slice a2 2 c2) ⟨1, 1, 1, 0, 0, 0, 0, 0⟩) 28) := Lib.hid (Blk.new rfl)
  have HA3 := Lib.hid (HA2.out.alloc (.cells (vC 2 (.slice a2 2 c2) ⟨1, 1, 1, 0, 0, 0, 0, 0⟩) 28))
  go_wp2_with fail
  refine (Ends_yes 2 (.slice a2 2 c2) ⟨1, 1, 1, 0, 0, 0, 0, 0⟩ [⟨1, 1, true⟩, ⟨3, 1, true⟩] 3 1 _ (by decide) (HM2.out.on (by go_grown)) rfl (by decide)).mono ?_
  rintro en w3 ⟨rfl, hB⟩
  rw [show prevN [⟨1, 1, true⟩, ⟨3, 1, true⟩] 1 = 1 from rfl, show nodeAt [⟨1, 1, true⟩, ⟨3, 1, true⟩] (1 + 1) = 0 from rfl]
  have HA4 := Lib.hid (HA3.out.on hB)
  have HC4 := Lib.hid (HC.out.on hB)
  have HM4 := Lib.hid ((HM2.out.al (.cells (vC 2 (.slice a2 2 c2) ⟨1, 1, 1, 0, 0, 0, 0, 0⟩) 28)).on hB)
  have HB4 : Hid (Below w.heap.size w w3) := Lib.hid (m_below_on (by have := HB2.out; have := HB2.out.size; go_grown) hB)
  clear hB HM2 HA2 HA3 HC
  generalize w2.heap.size = C at *
  have d1 := HA4.out.cell 1
  obtain ⟨e0, e1, e2, e3, e4, e5, e6, e7, e8, e9⟩ := HC4.out.ten
  simp at d1
  go_wp2_with ((refine (ready_is 2 (.slice a2 2 c2) ⟨1, 1, 1, 0, 0, 0, 0, 0⟩ [⟨1, 1, true⟩, ⟨3, 1, true⟩] 2 _ (by decide) HM4.out rfl).mono ?_); rintro en w4 ⟨rfl, hB⟩; have HB5 : Hid (Below w.heap.size w w4) := Lib.hid (m_below_on HB4.out hB); clear hB)
  go_ret
  exact ⟨rfl, HB5.out⟩
end Go.Proofs.Ytkgahhfemlebmaa
