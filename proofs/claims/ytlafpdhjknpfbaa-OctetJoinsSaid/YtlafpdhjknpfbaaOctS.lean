/-
  The walk of the first lines of each law of layer 1 ('speaks'): it returns true, and nothing old in memory changes.
-/
import Derived.Test.YtlafpdhjknpfbaaOctC
import Derived.Test.YtlafpdhjknpfbaaOctT
namespace Go.Proofs.Ytlafpdhjknpfbaa
open Go.RowKit Go.Instr

theorem o_below_on {w w1 w2 : World} (h1 : Below w.heap.size w w1) (h2 : Below w1.heap.size w1 w2) : Below w.heap.size w w2 := h1.trans (h2.mono h1.size)
theorem below_grown {W w w' : World} {B : Nat} (h : Below W.heap.size W w) (hg : w.grownBy w' (some B)) (hB : W.heap.size ≤ B) : Below W.heap.size W w' :=
  h.grown hg h.size (fun k hk => by cases hk; exact hB)
def spL : List PartV := [⟨1, 258, 2, ⟨#[]⟩⟩, ⟨2, 0, 0, ⟨#[97]⟩⟩]
theorem spS : joinS spL = ⟨#[1, 2, 1, 97]⟩ := by decide +kernel
theorem spE : joinE spL = 0 := by decide +kernel
theorem join_speaks (w : World) : Calls Try.prog 12 #[.slice (some ⟨w.heap.size, 0, none⟩) 2 2] (w.alloc (.cells #[.int .i64 1, .int .u64 258, .int .i64 2, .string ⟨#[]⟩, .int .i64 2, .int .u64 0, .int .i64 0, .string ⟨#[97]⟩] 30)) fun e w' => e = .returned (.tuple #[.string ⟨#[1, 2, 1, 97]⟩, .int .i64 0]) ∧ Below w.heap.size w w' := by
  refine (join_any _ spL _ (by decide) ?_ (.inr ⟨w.heap.size, 0, 2, rfl, ?_⟩)).mono fun _ _ ⟨h1, h2⟩ => ⟨h1.trans (oEnd2 spS spE), ((Below.refl _ _).alloc (Nat.le_refl _) _).trans (h2.mono (by simp))⟩
  · intro p hp
    simp only [spL, List.mem_cons, List.not_mem_nil, or_false] at hp
    rcases hp with rfl | rfl <;> exact ⟨by decide, by decide⟩
  · intro i h
    match i, h with
    | 0, _ => simp [spL]
    | 1, _ => simp [spL]
theorem num_speaks (B : Nat) (w : World) (h : ReaderAt w B ⟨#[1, 2, 1, 97]⟩ 0) : Calls Try.prog 15 #[.pointer (some ⟨B, 0, none⟩), .int .i64 2] w fun en w' => en = .returned (.int .u64 258) ∧ ReaderAt w' B ⟨#[1, 97]⟩ 0 ∧ w.grownBy w' (some B) :=
  (rnum_any B _ 0 2 w h (by decide)).mono fun _ _ ⟨h1, h2, h3⟩ => ⟨h1.trans (oEndInt (by decide +kernel)), by
    have e1 : numR ⟨#[1, 2, 1, 97]⟩ 0 2 = ⟨#[1, 97]⟩ := by decide +kernel
    have e2 : numF ⟨#[1, 2, 1, 97]⟩ 0 2 = 0 := by decide +kernel
    rw [e1, e2] at h2
    exact h2, h3⟩
theorem text_speaks (B : Nat) (w : World) (h : ReaderAt w B ⟨#[1, 97]⟩ 0) : Calls Try.prog 16 #[.pointer (some ⟨B, 0, none⟩)] w fun en w' => en = .returned (.string ⟨#[97]⟩) ∧ ReaderAt w' B ⟨#[]⟩ 0 ∧ w.grownBy w' (some B) :=
  (rtext_any B _ 0 w h (by decide)).mono fun _ _ ⟨h1, h2, h3⟩ => ⟨h1.trans (oEndStr (by decide +kernel)), by
    have e1 : takeR ⟨#[1, 97]⟩ 0 (textN ⟨#[1, 97]⟩) = ⟨#[]⟩ := by decide +kernel
    have e2 : takeF ⟨#[1, 97]⟩ 0 (textN ⟨#[1, 97]⟩) = 0 := by decide +kernel
    rw [e1, e2] at h2
    exact h2, h3⟩
theorem num_part (n : Nat) (z : Int) (w : World) : Calls Try.prog 21 #[.int .u64 n, .int .i64 z] w fun e w' => e = .returned (.agg #[.int .i64 1, .int .u64 n, .int .i64 z, .string ⟨#[]⟩]) ∧ Below w.heap.size w w' := num_any n z w
theorem text_part (s : ByteArray) (w : World) : Calls Try.prog 30 #[.string s] w fun e w' => e = .returned (.agg #[.int .i64 2, .int .u64 0, .int .i64 0, .string s]) ∧ Below w.heap.size w w' := text_any s w
theorem raw_part (s : ByteArray) (w : World) : Calls Try.prog 31 #[.string s] w fun e w' => e = .returned (.agg #[.int .i64 3, .int .u64 0, .int .i64 0, .string s]) ∧ Below w.heap.size w w' := raw_any s w
theorem end_zero (B : Nat) (w : World) (h : ReaderAt w B ⟨#[]⟩ 0) : Calls Try.prog 19 #[.pointer (some ⟨B, 0, none⟩)] w fun en w' => en = .returned (.int .i64 0) ∧ w = w' :=
  (end_any B _ 0 w h).mono fun _ _ ⟨h1, h2⟩ => ⟨h1.trans (oEndInt (by decide)), h2⟩
set_option maxHeartbeats 400000 in
theorem speaks1 (w : World) : Calls Try.prog 10 #[] w fun e w' => e = .returned (.bool true) ∧ Below w.heap.size w w' := by
  go_enter Try.func10, Try.ntmps10
  go_wp2_with (first | (go_at_call 21; refine (num_part 258 2 _).mono ?_; rintro e w1 ⟨rfl, hB1⟩) | (go_at_call 30; refine (text_part _ _).mono ?_; rintro e w2 ⟨rfl, hB2⟩) | (go_at_call 12; refine (join_speaks _).mono ?_; rintro e w3 ⟨rfl, hB3⟩) | (go_at_call 14; refine (read_any _ _).mono ?_; rintro e w4 ⟨rfl, rfl⟩))
  have HR : ReaderAt (w3.alloc (.cells #[.string ⟨#[1, 2, 1, 97]⟩, .int .i64 0] 68)) w3.heap.size ⟨#[1, 2, 1, 97]⟩ 0 := heap_alloc_new _ _
  refine (num_speaks _ _ HR).mono ?_
  rintro e w5 ⟨rfl, hR5, hG5⟩
  clear HR
  have HR5 := Lib.hid hR5
  have HG5 := Lib.hid hG5
  clear hR5 hG5
  go_wp2_with (first | (go_at_call 16; refine (text_speaks _ _ HR5.out).mono ?_; rintro e w6 ⟨rfl, hR6, hG6⟩; have HR6 := Lib.hid hR6; have HG6 := Lib.hid hG6; clear hR6 hG6) | (go_at_call 19; refine (end_zero _ _ HR6.out).mono ?_; rintro e w7 ⟨rfl, rfl⟩))
  go_ret
  have hb3 := o_below_on (o_below_on hB1 hB2) hB3
  exact ⟨rfl, below_grown (below_grown (hb3.alloc hb3.size _) HG5.out hb3.size) HG6.out hb3.size⟩
end Go.Proofs.Ytlafpdhjknpfbaa
