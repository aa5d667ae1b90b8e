/-
  Frame's small ones: known, isKey, isValue.
-/
import Derived.Test.YtodajejjhfpdmaaDoorFrmD
namespace Go.Proofs.YtodajejjhfpdmaaDoor
open Go.RowKit Go.Instr

def knownB (k : Nat) : Bool := decide (1 ≤ k ∧ k ≤ 16)
set_option maxHeartbeats 400000 in
theorem known_any (k : Nat) (w : World) : Calls Tryd.prog 32 #[.int .u8 k] w fun e w' => e = .returned (.bool (knownB k)) ∧ Below w.heap.size w w' := by
  have h : (k < 1 ∧ knownB k = false) ∨ (1 ≤ k ∧ ¬ k ≤ 16 ∧ knownB k = false) ∨ (1 ≤ k ∧ k ≤ 16 ∧ knownB k = true) := by
    unfold knownB
    by_cases h1 : 1 ≤ k
    · by_cases h2 : k ≤ 16
      · exact .inr (.inr ⟨h1, h2, by simp [h1, h2]⟩)
      · exact .inr (.inl ⟨h1, h2, by simp [h2]⟩)
    · exact .inl ⟨by omega, by simp [h1]⟩
  rcases h with ⟨h1, h⟩ | ⟨h1, h2, h⟩ | ⟨h1, h2, h⟩
  all_goals
    rw [h]
    clear h
    go_enter Tryd.func32, Tryd.ntmps32
    go_wp2
    go_ret
    first
      | exact ⟨rfl, Below.refl _ _⟩
      | exact ⟨by congr 2; simp; omega, Below.refl _ _⟩
theorem isKey_any (k : Nat) (w : World) : Calls Tryd.prog 69 #[.int .u8 k] w fun e w' => e = .returned (.bool (decide (k < 6))) ∧ Below w.heap.size w w' := by
  go_enter Tryd.func69, Tryd.ntmps69
  go_wp2
  go_ret
  exact ⟨by congr 2; simp; try omega, Below.refl _ _⟩
def valueB (b : Bool) (t : ByteArray) : Bool := decide (t.size ≤ 32) && (b || t.toList.isEmpty)
set_option maxHeartbeats 400000 in
theorem isValue_any (b : Bool) (t : ByteArray) (w : World) (ht : t.size ≤ maxLen) : Calls Tryd.prog 70 #[.agg #[.bool b, .string t]] w fun e w' => e = .returned (.bool (valueB b t)) ∧ Below w.heap.size w w' := by
  unfold maxLen at ht
  by_cases h1 : t.size ≤ 32
  · have h1' : (t.size : Int) ≤ 32 := by omega
    cases b
    · go_enter Tryd.func70, Tryd.ntmps70
      go_wp2
      go_ret
      exact ⟨by simp [valueB, h1], by go_grown⟩
    · go_enter Tryd.func70, Tryd.ntmps70
      go_wp2
      go_ret
      exact ⟨by simp [valueB, h1], by go_grown⟩
  · have h1' : ¬ (t.size : Int) ≤ 32 := by omega
    go_enter Tryd.func70, Tryd.ntmps70
    go_wp2
    go_ret
    exact ⟨by simp [valueB, h1], by go_grown⟩
end Go.Proofs.YtodajejjhfpdmaaDoor
