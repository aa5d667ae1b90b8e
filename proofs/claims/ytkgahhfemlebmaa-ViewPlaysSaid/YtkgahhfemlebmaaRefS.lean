/-
  Rows of the reference's members that the call owns.
-/
import Derived.Test.YtkgahhfemlebmaaRefF
namespace Go.Proofs.Ytkgahhfemlebmaa
open Go.RowKit Go.Instr

theorem Try.info36 : (Try.prog.info? 36).map (fun i => (i.zero, i.size, i.bytes)) = some (some (.agg #[.int .u8 0, .int .u8 0, .bool false]), 3, 3) := by kernel_rfl
theorem infoP36 : ∃ i, Try.prog.info? 36 = some i ∧ i.zero = some (.agg #[.int .u8 0, .int .u8 0, .bool false]) ∧ i.size = 3 ∧ i.bytes = 3 := by
  have h := Try.info36
  rcases hi : Try.prog.info? 36 with _ | i
  · rw [hi] at h; cases h
  · rw [hi] at h
    simp only [Option.map_some, Option.some.injEq, Prod.mk.injEq] at h
    exact ⟨i, rfl, h.1, h.2.1, h.2.2⟩
theorem own36_form {w : World} {base : Nat} {s : Value} {n : Nat} {xs : List Value} (h : w.ownsRow base 36 3 s n xs) (hi : 0 < n) : ∃ g cap, s = .slice (some ⟨g, 0, none⟩) n cap ∧ base ≤ g ∧ g < w.heap.size ∧ ∀ j, j < n * 3 → w.frozen? ⟨g, j, none⟩ = false := by
  rcases h.2 with ⟨_, h0⟩ | ⟨g, cap, cur, he, hb, hg, _⟩
  · omega
  · refine ⟨g, cap, he, hb, (Array.getElem?_eq_some_iff.1 hg).1, fun j _ => ?_⟩
    unfold World.frozen?; rw [hg]; simp
theorem below_made {w w' : World} (hg : w.grownBy w' (Value.slice none 0 0).ownBlock) : Below w.heap.size w w' :=
  (Below.refl _ w).grown hg (Nat.le_refl _) (fun k hk => by simp [Value.ownBlock] at hk)
end Go.Proofs.Ytkgahhfemlebmaa
