/-
  The law JournalTorn returns true: wherever the power fails, whatever is kept, Open finds the records that were added, and perhaps the one that was being added; and the journal goes on.
  Conditions: none: whatever the arguments that the types allow, the call returns true and leaves its arguments as they were.
-/
import Derived.Test.YtobmfbafjpbkoaaTornA
import Derived.Test.YtobmfbafjpbkoaaOpen
import Derived.Test.YtobmfbafjpbkoaaRows
namespace Go.Proofs.Ytobmfbafjpbkoaa
open Go.RowKit Go.Instr Go.ChangeShapes Go.WideShapes Go.ChangeAt
open Go.ChangeMaps (open_string shut_string)
theorem journalTorn_own : ownKnob Try.prog.godebug = none := by kernel_rfl
theorem journalTorn_laidOut : laidOutB Try.prog = true := by kernel_rfl
theorem torn_cells9 : Try.prog.cellsOf 9 = 1 := by kernel_rfl
theorem torn_cells3 : Try.prog.cellsOf 3 = 1 := by kernel_rfl
theorem torn_str {H : Type} {enc : TypeId × Value → H} {w : World} {base : Nat} {spare : Nat → Bool} {held : Bool} (fuel : Nat) (cs : List Value) (x : DataW H × List MemPlace)
    (h : DataW.trod enc Try.prog w base spare held fuel 9 cs = some x) : ∃ s : ByteArray, cs = strR.f s ∧ s.size ≤ maxLen := by
  obtain ⟨k, e, _, w1⟩ := DataW.trod_string Try.underlying9 h
  exact ⟨k, e, w1⟩
theorem torn_int {H : Type} {enc : TypeId × Value → H} {w : World} {base : Nat} {spare : Nat → Bool} {held : Bool} (fuel : Nat) (cs : List Value) (x : DataW H × List MemPlace)
    (h : DataW.trod enc Try.prog w base spare held fuel 3 cs = some x) : ∃ s : Int, cs = intR.f s ∧ (-9223372036854775808 ≤ s ∧ s ≤ 9223372036854775807) := by
  obtain ⟨k, e, _, w1⟩ := DataW.trod_int Try.underlying3 h
  exact ⟨k, e, bounds_i64 w1⟩
set_option maxRecDepth 100000 in
theorem journalTorn_lifted (os : Os) (started : os.Started) (H : Type) (enc : TypeId × Value → H) :
    ReturnsInHanded {} Try.checked os 6 .any (Rows.journalTornSpec.pre6 enc Try.prog Try.f6 Rows.journalTornRow.domain false) (Rows.journalTornSpec.post enc Try.prog Try.f6 false true false false) := by
  refine returnsInHanded_of_change (C := Try.checked) journalTorn_own started (by kernel_rfl) Try.func6
    (ChangeSpec.witness6 (enc := enc) (C := Try.checked) false ⟨#[], #[.slice none 0 0, .slice none 0 0], []⟩ 8 (by kernel_rfl) (by kernel_rfl) (by kernel_rfl) (by kernel_rfl)) ?_
  intro W base args ds gs before hval0 hW hcnd _
  have hval : ∀ (j : Nat) t v, Try.f6.params[j]? = some t → args[j]? = some v → Value.okWide Try.prog W .any base t v := hval0
  have hW' := hW
  obtain ⟨p, q, hA0, hV, rfl, hfz, hnd⟩ := hW
  have hA : DataW.TrodAll enc Try.prog W 0 (fun _ => true) true Try.f6.params.toList args.toList ds p := hA0
  rw [Try.params6] at hA hval
  obtain ⟨v0, vs0, d0, ds0, p0, q0, hargs, rfl, rfl, h0, r0⟩ := trodAll_cons hA
  obtain ⟨v1, vs1, d1, ds1, p1, q1, rfl, rfl, rfl, h1, r1⟩ := trodAll_cons r0
  obtain ⟨rfl, rfl, rfl⟩ := trodAll_nil r1
  obtain rfl : args = #[v0, v1] := by cases args; simp_all
  obtain ⟨rfl, rfl⟩ := trodVars_none hV
  have k0 := h0
  have k1 := h1
  have lt0 : ∀ x ∈ p0, x.block < W.heap.size := by obtain ⟨m, hm⟩ := k0; exact DataW.trod_lt m _ _ _ hm
  have lt1 : ∀ x ∈ p1, x.block < W.heap.size := by obtain ⟨m, hm⟩ := k1; exact DataW.trod_lt m _ _ _ hm
  obtain ⟨a0, len0, cap0, rfl⟩ := okWide_slice Try.underlying44 (hval 0 44 v0 rfl rfl)
  obtain ⟨a1, len1, cap1, rfl⟩ := okWide_slice Try.underlying57 (hval 1 57 v1 rfl rfl)
  obtain ⟨l0, hl0, hlm0, hf0, hat0⟩ : ∃ l : List ByteArray, l.length = len0 ∧ len0 ≤ maxLen ∧ (∀ m ∈ l, m.size ≤ maxLen) ∧ (0 < len0 → strR.At W (.slice a0 len0 cap0) l) := by
    obtain ⟨fuel, hf⟩ := h0
    exact slice_list strR 44 9 Try.underlying44 torn_cells9 (fun s => s.size ≤ maxLen) ByteArray.empty (cap := cap0) torn_str (by simpa [Value.cells] using hf)
  obtain ⟨l1, hl1, hlm1, hf1, hat1⟩ : ∃ l : List Int, l.length = len1 ∧ len1 ≤ maxLen ∧ (∀ m ∈ l, -9223372036854775808 ≤ m ∧ m ≤ 9223372036854775807) ∧ (0 < len1 → intR.At W (.slice a1 len1 cap1) l) := by
    obtain ⟨fuel, hf⟩ := h1
    exact slice_list intR 57 3 Try.underlying57 torn_cells3 (fun s => -9223372036854775808 ≤ s ∧ s ≤ 9223372036854775807) 0 (cap := cap1) torn_int (by simpa [Value.cells] using hf)
  clear hA0 hval0
  refine (torn_walk l0 l1 a0 a1 len0 len1 cap0 cap1 W hlm0 hl0 hf0 hat0 hlm1 hl1 hf1 hat1).mono fun e W' ⟨he, bel⟩ => ?_
  subst he
  exact ⟨_, rfl, _, _, _, [], _, [], hW', trodAll_mk1 (shut_bool Try.underlying4 _), (trodAll_cons_mk (Below.trod journalTorn_laidOut (by kernel_rfl) (of_decide_eq_true (by kernel_rfl)) k0 bel lt0) (trodAll_cons_mk (Below.trod journalTorn_laidOut (by kernel_rfl) (of_decide_eq_true (by kernel_rfl)) k1 bel lt1) trodAll_mk0)), rfl, bel.frame _, fun h => by cases h⟩

theorem journalTorn_over : Rows.journalTornRow.holds Try.pinned (OpenSpec.ofChange Rows.journalTornSpec) :=
  OpenClaim.holds_of_wide 6 Try.f6 rfl rfl rfl rfl rfl rfl rfl ⟨rfl, rfl, rfl, rfl, rfl⟩ rfl rfl rfl rfl rfl (by kernel_rfl) Try.func6 (by kernel_rfl)
    (of_decide_eq_true (by kernel_rfl)) (by unfold Func.isWrapper; first | (rw [if_pos (by decide +kernel)]; kernel_rfl) | (rw [if_neg (by decide +kernel)]; exact ⟨rfl, rfl⟩))
    (fun os started H enc _ => journalTorn_lifted os started H enc)

/-- The statement. -/
theorem journalTorn_holds : Rows.JournalTornSaid := journalTorn_over
#print axioms journalTorn_holds
end Go.Proofs.Ytobmfbafjpbkoaa
