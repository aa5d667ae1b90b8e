/-
  The walks of octet's Num, Text, Raw, check and encode: what each call returns, and that nothing old in memory changes.
-/
import Derived.Test.YtodajejjhfpdmaaDoorProg
import Derived.Test.YtodajejjhfpdmaaDoorGen
import Derived.WalkKit
import Derived.WalkSpells
import Derived.WalkLawsBesides
import Derived.Laws.BitsAllLaws
import Derived.Laws.BytesArg
import Derived.Lib.Hide
import Derived.Lib.Strings
import Derived.Lib.AppendStr
import Derived.Handy
import Derived.RegionTactic
import Derived.ChangeAlike
import Derived.Deep.RegionWith
import Derived.Deep.RegionHeld3
import Derived.Deep.QuietTactic
import Derived.BigQuiet
import Derived.IntWalk
namespace Go.Proofs.YtodajejjhfpdmaaDoor
open Go.RowKit Go.Instr

theorem oEndInt {k : IntKind} {a b : Int} (h : a = b) : Ending.returned (.int k a) = .returned (.int k b) := congrArg (fun n => Ending.returned (.int k n)) h
/-- A part: its kind, its number, its size, its text. -/
structure PartV where
  k : Int
  n : Nat
  z : Int
  s : ByteArray
def PartV.cells (p : PartV) : Array Value := #[.int .i64 p.k, .int .u64 p.n, .int .i64 p.z, .string p.s]
def PartV.val (p : PartV) : Value := .agg p.cells
def sizedB (z : Int) : Bool := decide (1 ≤ z) && decide (z ≤ 8)
set_option maxHeartbeats 400000 in
theorem sized_any (z : Int) (w : World) : Calls Tryd.prog 72 #[.int .i64 z] w fun e w' => e = .returned (.bool (sizedB z)) ∧ w = w' := by
  unfold sizedB
  by_cases h1 : 1 ≤ z
  · by_cases h2 : z ≤ 8
    · go_enter Tryd.func72, Tryd.ntmps72
      go_wp2
      go_ret
      exact ⟨by simp [h1, h2], rfl⟩
    · go_enter Tryd.func72, Tryd.ntmps72
      go_wp2
      go_ret
      exact ⟨by simp [h2], rfl⟩
  · go_enter Tryd.func72, Tryd.ntmps72
    go_wp2
    go_ret
    exact ⟨by rw [decide_eq_false (Int.not_le.2 h1)]; rfl, rfl⟩
def fitsB (n z : Nat) : Bool := decide (n < 256 ^ z)
set_option maxHeartbeats 400000 in
theorem fits_any (n z : Nat) (w : World) (h1 : 1 ≤ z) (h8 : z ≤ 8) : Calls Tryd.prog 73 #[.int .u64 n, .int .i64 z] w fun e w' => e = .returned (.bool (fitsB n z)) ∧ w = w' := by
  go_enter Tryd.func73, Tryd.ntmps73
  go_wp2
  go_ret
  refine ⟨?_, rfl⟩
  have e : ((n : Int) / 2 ^ (8 * z) == 0) = fitsB n z := by
    have e1 : ((n : Int) / 2 ^ (8 * z)) = ((n / 2 ^ (8 * z) : Nat) : Int) := by rw [Int.natCast_ediv, Int.natCast_pow]; rfl
    rw [e1, fitsB, Bool.eq_iff_iff, beq_iff_eq, decide_eq_true_iff, show (256 : Nat) = 2 ^ 8 from rfl, ← Nat.pow_mul]
    rw [show (((n / 2 ^ (8 * z) : Nat) : Int) = 0) ↔ (n / 2 ^ (8 * z) = 0) by omega]
    exact Nat.div_eq_zero_iff_lt (Nat.two_pow_pos _)
  exact congrArg (fun b => Ending.returned (.bool b)) e
set_option maxHeartbeats 400000 in
theorem num_any (n : Nat) (z : Int) (w : World) : Calls Tryd.prog 42 #[.int .u64 n, .int .i64 z] w fun e w' => e = .returned (PartV.mk 1 n z ⟨#[]⟩).val ∧ Below w.heap.size w w' := by
  go_enter Tryd.func42, Tryd.ntmps42
  go_wp2
  exact bodyPost_ret (v := (PartV.mk 1 n z ⟨#[]⟩).val) (by simp [results, Tryd.results42, go_sem]; rfl) rfl ⟨rfl, (Below.refl _ _).alloc (Nat.le_refl _) _⟩
set_option maxHeartbeats 400000 in
theorem text_any (s : ByteArray) (w : World) : Calls Tryd.prog 71 #[.string s] w fun e w' => e = .returned (PartV.mk 2 0 0 s).val ∧ Below w.heap.size w w' := by
  go_enter Tryd.func71, Tryd.ntmps71
  go_wp2
  exact bodyPost_ret (v := (PartV.mk 2 0 0 s).val) (by simp [results, Tryd.results71, go_sem]; rfl) rfl ⟨rfl, (Below.refl _ _).alloc (Nat.le_refl _) _⟩
def chk (p : PartV) : Int := if p.k = 0 then 1 else if p.k = 1 then (if sizedB p.z && fitsB p.n p.z.toNat then 0 else 9) else if p.k = 2 then (if 255 < p.s.size then 3 else 0) else 0
set_option maxHeartbeats 1000000 in
theorem check_any (p : PartV) (w : World) (hk : 0 ≤ p.k ∧ p.k ≤ 3) (hs : p.s.size ≤ 1000000) :
    Calls Tryd.prog 51 #[p.val] w fun e w' => e = .returned (.int .i64 (chk p)) ∧ Below w.heap.size w w' := by
  obtain ⟨k, n, z, s⟩ := p
  simp only at hk hs
  unfold PartV.val PartV.cells
  have hc : k = 0 ∨ k = 1 ∨ k = 2 ∨ k = 3 := by omega
  rcases hc with rfl | rfl | rfl | rfl
  · go_enter Tryd.func51, Tryd.ntmps51
    go_wp2
    go_ret
    exact ⟨rfl, (Below.refl _ _).alloc (Nat.le_refl _) _⟩
  · cases hz : sizedB z with
    | false =>
      go_enter Tryd.func51, Tryd.ntmps51
      go_wp2_with (go_at_call 72; refine (sized_any _ _).mono ?_; rintro e w' ⟨rfl, rfl⟩)
      go_ret
      exact ⟨oEndInt (by simp [chk, hz]), (Below.refl _ _).alloc (Nat.le_refl _) _⟩
    | true =>
      have hz2 : 1 ≤ z ∧ z ≤ 8 := by simpa [sizedB] using hz
      obtain ⟨m, rfl⟩ := Int.eq_ofNat_of_zero_le (show 0 ≤ z by omega)
      cases hf : fitsB n m with
      | false =>
        go_enter Tryd.func51, Tryd.ntmps51
        go_wp2_with (first | (go_at_call 72; refine (sized_any _ _).mono ?_; rintro e w' ⟨rfl, rfl⟩) | (go_at_call 73; refine (fits_any _ _ _ (by omega) (by omega)).mono ?_; rintro e w' ⟨rfl, rfl⟩))
        go_ret
        exact ⟨oEndInt (by simp [chk, hz, hf]), (Below.refl _ _).alloc (Nat.le_refl _) _⟩
      | true =>
        go_enter Tryd.func51, Tryd.ntmps51
        go_wp2_with (first | (go_at_call 72; refine (sized_any _ _).mono ?_; rintro e w' ⟨rfl, rfl⟩) | (go_at_call 73; refine (fits_any _ _ _ (by omega) (by omega)).mono ?_; rintro e w' ⟨rfl, rfl⟩))
        go_ret
        exact ⟨oEndInt (by simp [chk, hz, hf]), (Below.refl _ _).alloc (Nat.le_refl _) _⟩
  · by_cases h : 255 < s.size
    · have hi : (255 : Int) < (s.size : Int) := by omega
      go_enter Tryd.func51, Tryd.ntmps51
      go_wp2
      go_ret
      exact ⟨oEndInt (by simp [chk, h]), (Below.refl _ _).alloc (Nat.le_refl _) _⟩
    · have hi : (s.size : Int) ≤ 255 := by omega
      go_enter Tryd.func51, Tryd.ntmps51
      go_wp2
      go_ret
      exact ⟨oEndInt (by simp [chk, h]), (Below.refl _ _).alloc (Nat.le_refl _) _⟩
  · go_enter Tryd.func51, Tryd.ntmps51
    go_wp2
    go_ret
    exact ⟨rfl, (Below.refl _ _).alloc (Nat.le_refl _) _⟩
end Go.Proofs.YtodajejjhfpdmaaDoor
