/-
  The first lines of each law of layer 3: what they check holds.
-/
import Derived.Test.YtegjgdiollafkaaMarkB
namespace Go.Proofs.Ytegjgdiollafkaa
open Go.RowKit Go.Instr

theorem sp_next (w : World) : Calls Try.prog 15 #[.agg #[.int .u32 3, .int .u8 2, .int .u8 1], .int .u32 1, .int .u8 1, .int .u8 1] w fun e w' => e = .returned (.tuple #[.agg #[.int .u32 4, .int .u8 1, .int .u8 1], .bool true]) ∧ Below w.heap.size w w' :=
  next_any ⟨3, 2, 1⟩ 1 1 1 w ⟨by decide, by decide, by decide⟩ (by decide)
theorem sp_bnext (w : World) : Calls Try.prog 17 #[.agg #[.int .u32 0, .int .u8 0], .int .u8 4] w fun e w' => e = .returned (.tuple #[.agg #[.int .u32 1, .int .u8 4], .bool true]) ∧ Below w.heap.size w w' :=
  bnext_any ⟨0, 0, 0⟩ 4 w ⟨by decide, by decide, by decide⟩
theorem sp_less (w : World) : Calls Try.prog 8 #[.agg #[.int .u32 3, .int .u8 2, .int .u8 1], .agg #[.int .u32 4, .int .u8 1, .int .u8 1]] w fun e w' => e = .returned (.bool true) ∧ Below w.heap.size w w' :=
  less_any ⟨3, 2, 1⟩ ⟨4, 1, 1⟩ w
theorem sp_less2 (w : World) : Calls Try.prog 8 #[.agg #[.int .u32 4, .int .u8 1, .int .u8 1], .agg #[.int .u32 3, .int .u8 2, .int .u8 1]] w fun e w' => e = .returned (.bool false) ∧ Below w.heap.size w w' :=
  less_any ⟨4, 1, 1⟩ ⟨3, 2, 1⟩ w
theorem sp_none (w : World) : Calls Try.prog 11 #[.agg #[.int .u32 1, .int .u8 4]] w fun e w' => e = .returned (.bool false) ∧ Below w.heap.size w w' :=
  none_any ⟨1, 4, 0⟩ w
theorem sp_great (w : World) (B : Nat) (hB : B = w.heap.size) : Calls Try.prog 12 #[.slice (some ⟨B, 0, none⟩) 3 3] (w.alloc (.cells #[.int .u32 3, .int .u8 2, .int .u8 1, .int .u32 4, .int .u8 1, .int .u8 1, .int .u32 3, .int .u8 2, .int .u8 1] 30)) fun e w' => e = .returned (.agg #[.int .u32 4, .int .u8 1, .int .u8 1]) ∧ Below w.heap.size w w' := by
  subst hB
  refine (great_some w.heap.size 0 3 [⟨3, 2, 1⟩, ⟨4, 1, 1⟩, ⟨3, 2, 1⟩] _ (by decide) ?_).mono fun _ _ ⟨h1, h2⟩ => ⟨h1, ((Below.refl _ _).alloc (Nat.le_refl _) _).trans (h2.mono (by simp))⟩
  intro i h
  match i, h with
  | 0, _ => simp
  | 1, _ => simp
  | 2, _ => simp
theorem Blk.at3 {w : World} {B : Nat} {x y z : Value} {T : TypeId} (h : Blk w B #[x, y, z] T) : w.cell? ⟨B, 0, none⟩ = some x ∧ w.cell? ⟨B, 1, none⟩ = some y ∧ w.cell? ⟨B, 2, none⟩ = some z := ⟨h.cell 0, h.cell 1, h.cell 2⟩
theorem Blk.at2 {w : World} {B : Nat} {x y : Value} {T : TypeId} (h : Blk w B #[x, y] T) : w.cell? ⟨B, 0, none⟩ = some x ∧ w.cell? ⟨B, 1, none⟩ = some y := ⟨h.cell 0, h.cell 1⟩
/-- What the first lines of a law hold: two stamps and a ballot. -/
def Sp (w : World) (A B C : Nat) : Prop := Blk w A #[.int .u32 3, .int .u8 2, .int .u8 1] 30 ∧ Blk w B #[.int .u32 4, .int .u8 1, .int .u8 1] 30 ∧ Blk w C #[.int .u32 1, .int .u8 4] 40
theorem Sp.on {w w' : World} {A B C : Nat} (h : Sp w A B C) (hB : Below w.heap.size w w') : Sp w' A B C := ⟨h.1.on hB, h.2.1.on hB, h.2.2.on hB⟩
theorem Sp.cells {w : World} {A B C : Nat} (h : Sp w A B C) : w.cell? ⟨A, 0, none⟩ = some (.int .u32 3) ∧ w.cell? ⟨A, 1, none⟩ = some (.int .u8 2) ∧ w.cell? ⟨A, 2, none⟩ = some (.int .u8 1) ∧ w.cell? ⟨B, 0, none⟩ = some (.int .u32 4) ∧ w.cell? ⟨B, 1, none⟩ = some (.int .u8 1) ∧ w.cell? ⟨B, 2, none⟩ = some (.int .u8 1) ∧ w.cell? ⟨C, 0, none⟩ = some (.int .u32 1) ∧ w.cell? ⟨C, 1, none⟩ = some (.int .u8 4) :=
  ⟨h.1.cell 0, h.1.cell 1, h.1.cell 2, h.2.1.cell 0, h.2.1.cell 1, h.2.1.cell 2, h.2.2.cell 0, h.2.2.cell 1⟩
set_option maxHeartbeats 1000000 in
theorem speaks_any (w : World) : Calls Try.prog 6 #[] w fun e w' => e = .returned (.bool true) ∧ Below w.heap.size w w' := by
  go_enter Try.func6, Try.ntmps6
  go_wp2_with (first | (go_at_call 15; (with_reducible refine (sp_next _).mono ?_); rintro e w1 ⟨rfl, hB⟩; have HA1 : Hid (Blk w1 w.heap.size #[.int .u32 3, .int .u8 2, .int .u8 1] 30) := Blk.on (heap_alloc_new _ _) hB; have hB1 : Below w.heap.size w w1 := m_below_on (by go_grown) hB; have HB1 := Lib.hid hB1; clear hB hB1) | (go_at_call 17; (with_reducible refine (sp_bnext _).mono ?_); rintro e w2 ⟨rfl, hB⟩; have HA2 : Hid (Blk w2 w.heap.size #[.int .u32 3, .int .u8 2, .int .u8 1] 30) := Blk.on (HA1.out.alloc _) hB; have HQ2 : Hid (Blk w2 w1.heap.size #[.int .u32 4, .int .u8 1, .int .u8 1] 30) := Blk.on (heap_alloc_new _ _) hB; have hB2 : Below w.heap.size w w2 := m_below_on (HB1.out.alloc HB1.out.size _) hB; have HB2 := Lib.hid hB2; clear hB hB2))
  have HS : Hid (Sp (w2.alloc (.cells #[.int .u32 1, .int .u8 4] 40)) w.heap.size w1.heap.size w2.heap.size) := ⟨HA2.out.alloc _, HQ2.out.alloc _, heap_alloc_new _ _⟩
  have HB3 := Lib.hid (HB2.out.alloc HB2.out.size (.cells #[.int .u32 1, .int .u8 4] 40))
  clear HA1 HB1 HA2 HQ2 HB2
  generalize w2.alloc (.cells #[.int .u32 1, .int .u8 4] 40) = w3 at *
  generalize w.heap.size = A at HS ⊢
  generalize w1.heap.size = B at *
  generalize w2.heap.size = C at *
  go_region_held3 (fun w' => w'.cell? ⟨A, 0, none⟩ = some (.int .u32 3) ∧ w'.cell? ⟨A, 1, none⟩ = some (.int .u8 2) ∧ w'.cell? ⟨A, 2, none⟩ = some (.int .u8 1) ∧ w'.cell? ⟨B, 0, none⟩ = some (.int .u32 4) ∧ w'.cell? ⟨B, 1, none⟩ = some (.int .u8 1) ∧ w'.cell? ⟨B, 2, none⟩ = some (.int .u8 1) ∧ w'.cell? ⟨C, 0, none⟩ = some (.int .u32 1) ∧ w'.cell? ⟨C, 1, none⟩ = some (.int .u8 4))
    (first | exact HS7.out.cells | exact (HS6.out.on (Below.alloc (Below.refl _ _) (Nat.le_refl _) _)).cells | exact HS6.out.cells | exact HS5.out.cells | exact HS4.out.cells | exact HS.out.cells)
    (first | (go_at_call 8; (with_reducible refine (sp_less _).mono ?_); rintro e w4 ⟨rfl, hB0⟩; have hB4 : Below w3.heap.size w3 w4 := (Below.drew (Below.refl _ _)).trans hB0; clear hB0; have HS4 := Lib.hid (HS.out.on hB4); have HB4 := Lib.hid (m_below_on HB3.out hB4); clear hB4) | (go_at_call 8; (with_reducible refine (sp_less2 _).mono ?_); rintro e w5 ⟨rfl, hB5⟩; have HS5 := Lib.hid (HS4.out.on hB5); have HB5 := Lib.hid (m_below_on HB4.out hB5); clear hB5) | (go_at_call 11; (with_reducible refine (sp_none _).mono ?_); rintro e w6 ⟨rfl, hB6⟩; have HS6 := Lib.hid (HS5.out.on hB6); have HB6 := Lib.hid (m_below_on HB5.out hB6); clear hB6) | (go_at_call 12; (with_reducible refine (sp_great w6 _ rfl).mono ?_); rintro e w7 ⟨rfl, hB7⟩; have HS7 := Lib.hid (HS6.out.on hB7); have HB7 := Lib.hid (m_below_on HB6.out hB7); clear hB7))
  all_goals
    go_wp2
    go_ret
    exact ⟨rfl, by first | exact HB7.out | exact HB7.out.drew⟩
end Go.Proofs.Ytegjgdiollafkaa
