/-
  A slice of structs that came in: its elements as a list.
-/
import Derived.Test.YtodajejjhfpdmaaDoorProg
import Derived.Test.YtodajejjhfpdmaaDoorGen
import Derived.ProofKit
import Derived.OpenShut
import Derived.ShutString
import Derived.ChangeOld
import Derived.Below
import Derived.Deep.Slices
import Derived.Lib.SmallJoins
namespace Go.Proofs.YtodajejjhfpdmaaDoor
open Go.RowKit Go.Instr Go.ChangeShapes Go.WideShapes Go.ChangeAt

theorem nat_u32 {k : Int} (h : (Lit.int .u32 k).wf = true) : ∃ n : Nat, k = n ∧ n < 4294967296 := by
  have b := bounds_u32 h
  obtain ⟨n, rfl⟩ := Int.eq_ofNat_of_zero_le b.1
  exact ⟨n, rfl, by omega⟩
theorem nat_u8 {k : Int} (h : (Lit.int .u8 k).wf = true) : ∃ n : Nat, k = n ∧ n < 256 := by
  have b := bounds_u8 h
  obtain ⟨n, rfl⟩ := Int.eq_ofNat_of_zero_le b.1
  exact ⟨n, rfl, by omega⟩
/-- A slice whose elements' cells are each known is a list. -/
theorem slice_list {α : Type} (R : RK α) {P : Program} (T E : TypeId) (hT : P.underlying T = some (.slice E)) (hE : P.cellsOf E = R.c) (fine : α → Prop) (dflt : α)
    {H : Type} {enc : TypeId × Value → H} {w : World} {base : Nat} {spare : Nat → Bool} {held : Bool} {fuel : Nat} {a0 : Option Addr} {len cap : Nat} {x : DataW H × List MemPlace}
    (each : ∀ (fuel : Nat) (cs : List Value) (x : DataW H × List MemPlace), DataW.trod enc P w base spare held fuel E cs = some x → ∃ s, cs = R.f s ∧ fine s)
    (h : DataW.trod enc P w base spare held fuel T [.slice a0 len cap] = some x) : ∃ l : List α, l.length = len ∧ len ≤ maxLen ∧ (∀ m ∈ l, fine m) ∧ (0 < len → R.At w (.slice a0 len cap) l) := by
  rcases Go.Deep.open_slice hT h with ⟨hcs, _⟩ | ⟨a, l, c, m, n, D, Pl, hcs, _, hl, hm, hmm, _, hat⟩
  · simp at hcs
    obtain ⟨rfl, rfl, rfl⟩ := hcs
    exact ⟨[], rfl, Nat.zero_le _, fun _ h => (by cases h), fun h => absurd h (Nat.lt_irrefl _)⟩
  · simp at hcs
    obtain ⟨rfl, rfl, rfl⟩ := hcs
    have hlm : len ≤ m := by rw [hmm]; split <;> omega
    have each' : ∀ k, ∃ s : α, k < len → (∀ j u, (R.f s)[j]? = some u → w.cell? ((a.add (k * R.c)).add j) = some u) ∧ fine s := by
      intro k
      by_cases hk : k < len
      · obtain ⟨cs', hc, ht⟩ := hat k (by omega)
        rw [hE] at hc
        obtain ⟨s, rfl, h1⟩ := each _ _ _ ht
        obtain ⟨_, _, hcell⟩ := World.cells?_some hc
        refine ⟨s, fun _ => ⟨fun j u hj => ?_, h1⟩⟩
        have hj3 : j < R.c := by
          have := (List.getElem?_eq_some_iff.1 hj).1
          rwa [R.len] at this
        exact (hcell j hj3).trans hj
      · exact ⟨dflt, fun h => absurd h hk⟩
    obtain ⟨z, hz⟩ := Classical.axiomOfChoice each'
    refine ⟨(List.range len).map z, by simp, by omega, ?_, fun hpos => ?_⟩
    · intro s hs
      obtain ⟨k, hk, rfl⟩ := List.mem_map.1 hs
      exact (hz k (List.mem_range.1 hk)).2
    · obtain ⟨b, off, spot⟩ := a
      have hspot : spot = none := by
        have hp := R.pos
        have h00 := (hz 0 hpos).1 0 _ (List.getElem?_eq_getElem (by rw [R.len]; exact hp))
        simp only [Nat.zero_mul] at h00
        simpa [Addr.add] using World.cell?_spot h00
      subst hspot
      have ea : ∀ i j : Nat, ((⟨b, off, none⟩ : Addr).add i).add j = ⟨b, off + (i + j), none⟩ := by
        intro i j
        unfold Addr.add
        split <;> split <;> simp_all <;> omega
      refine .inr ⟨b, off, cap, by simp, ?_, fun j u hu => ?_⟩
      · have h00 := (hz 0 hpos).1 0 _ (List.getElem?_eq_getElem (by rw [R.len]; exact R.pos))
        rw [ea] at h00
        exact World.block_lt_of_cell? _ _ h00
      · have hj := (List.getElem?_eq_some_iff.1 hu).1
        rw [R.row_len, List.length_map, List.length_range] at hj
        have hi : j / R.c < len := by rw [Nat.div_lt_iff_lt_mul R.pos]; exact hj
        have hjj : j % R.c < R.c := Nat.mod_lt _ R.pos
        have hkk : j / R.c * R.c + j % R.c = j := by rw [Nat.mul_comm]; exact Nat.div_add_mod j R.c
        rw [← hkk] at hu
        rw [R.row_at _ _ _ (by simpa using hi) hjj] at hu
        simp only [List.getElem_map, List.getElem_range] at hu
        have := (hz _ hi).1 _ _ hu
        rw [ea, hkk] at this
        exact this
end Go.Proofs.YtodajejjhfpdmaaDoor
