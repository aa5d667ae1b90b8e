/-
  A region that draws its order, by an invariant: for regions whose orders are too many to be walked one by one.
-/
import Derived.Test.YtegjgdiollafkaaMarkD
import Derived.Deep.DeepCutAuto
import Derived.Deep.RegionLaw
import Derived.Orders
namespace Go.Proofs.Ytegjgdiollafkaa
open Go.RowKit Go.Instr

theorem ready_nil {md : Region.Mode} {ops : Array Oper} {listed : Array Bool} (h : ∀ j, j < listed.size → listed.getD j true = true) : Region.ready md ops listed = [] := by
  rw [List.eq_nil_iff_forall_not_mem]
  intro j hj
  have h0 := (mem_ready.1 hj).1
  rcases Nat.lt_or_ge j listed.size with hl | hl
  · rw [h j hl] at h0; cases h0
  · rw [Array.getD_eq_getD_getElem?, Array.getElem?_eq_none hl] at h0; cases h0
/-- A region that draws its order, by an invariant: what holds at the beginning, is kept by each operation that may come up, and gives the post when none is left. -/
theorem wpAny_inv {P : Program} {ops : Array Oper} {Q : Exit → Act → World → Prop} {md : Region.Mode} (I : Array Bool → Act → World → Prop)
    (hend : ∀ listed a w, I listed a w → Region.ready md ops listed = [] → Q .normal a w)
    (hstep : ∀ listed a w, I listed a w → ∀ i ∈ Region.ready md ops listed, wpOp P ops Q i (fun a' w' => I (listed.setIfInBounds i true) a' w') a w) :
    ∀ (fuel : Nat) (listed : Array Bool) (a : Act) (w : World), listed.toList.count false ≤ fuel → I listed a w → wpAny P md ops Q fuel listed a w := by
  intro fuel
  induction fuel with
  | zero =>
    intro listed a w hc hI
    have hr : Region.ready md ops listed = [] := by
      refine ready_nil fun j hj => ?_
      have hnm : false ∉ listed.toList := by
        intro hm
        have := List.count_pos_iff.2 hm
        omega
      rw [Array.getD_eq_getD_getElem?, Array.getElem?_eq_getElem hj]
      cases hb : listed[j] with
      | true => rfl
      | false => exact absurd (by rw [← hb]; exact Array.getElem_mem_toList hj) hnm
    exact ⟨hr, hend _ _ _ hI hr⟩
  | succ fuel ih =>
    intro listed a w hc hI
    refine ⟨hend _ _ _ hI, fun i hi => wpOp_mono (fun a' w' h => ih _ a' w' ?_ h) (hstep _ _ _ hI i hi)⟩
    have h0 := (mem_ready.1 hi).1
    have hl : i < listed.size := by
      rcases Nat.lt_or_ge i listed.size with hl | hl
      · exact hl
      · rw [Array.getD_eq_getD_getElem?, Array.getElem?_eq_none hl] at h0; cases h0
    have hb : listed[i] = false := by
      rw [Array.getD_eq_getD_getElem?, Array.getElem?_eq_getElem hl] at h0
      exact h0
    have : (listed.setIfInBounds i true).toList.count false + 1 ≤ listed.toList.count false := by
      rw [Array.toList_setIfInBounds, List.count_set (by simpa using hl)]
      have hp : 0 < listed.toList.count false := List.count_pos_iff.2 (by rw [← hb]; exact Array.getElem_mem_toList hl)
      have hb2 : listed.toList[i]'(by simpa using hl) = false := by simpa using hb
      rw [hb2]
      simp only [beq_self_eq_true, if_true, show (true == false) = false from rfl]
      simp only [Bool.false_eq_true, if_false]
      omega
    omega
end Go.Proofs.Ytegjgdiollafkaa
