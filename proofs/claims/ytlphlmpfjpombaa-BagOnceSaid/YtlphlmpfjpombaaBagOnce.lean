/-
  The law BagOnce returns true: whatever is done with a sealed text on its way and with its copies, each text that arrives is opened as it was, or is not opened.
  Conditions: none: whatever the arguments that the types allow, the call returns true and leaves its arguments as they were.
-/
import Derived.Test.YtlphlmpfjpombaaOnce
import Derived.Test.YtlphlmpfjpombaaRows
namespace Go.Proofs.Ytlphlmpfjpombaa
open Go.RowKit Go.Instr Go.ChangeShapes Go.WideShapes Go.ChangeAt
open Go.ChangeMaps (open_string shut_string)
theorem bagOnce_own : ownKnob Try.prog.godebug = none := by kernel_rfl
theorem bagOnce_laidOut : laidOutB Try.prog = true := by kernel_rfl
theorem once_any (s : ByteArray) (l : List ActD) (a : Option Addr) (len cap : Nat) (w : World) (hs : s.size ≤ maxLen) (hlen : len ≤ maxLen) (hl : l.length = len) (hf : ∀ x ∈ l, x.fine) (hA : 0 < len → actR.At w (.slice a len cap) l) :
    Calls Try.prog 4 #[.string s, .slice a len cap] w fun e w' => e = .returned (.bool true) ∧ Below w.heap.size w w' := by
  by_cases h : s.size ≤ 60
  · exact once_walk s s l a len cap w hs hlen hl hf hA h (.inl ⟨h, rfl⟩)
  · exact once_walk s (s.extract 0 60) l a len cap w hs hlen hl hf hA (by simp; omega) (.inr ⟨by omega, rfl⟩)
set_option maxRecDepth 100000 in
theorem bagOnce_lifted (os : Os) (started : os.Started) (H : Type) (enc : TypeId × Value → H) :
    ReturnsInHanded {} Try.checked os 4 .any (Rows.bagOnceSpec.pre6 enc Try.prog Try.f4 Rows.bagOnceRow.domain false) (Rows.bagOnceSpec.post enc Try.prog Try.f4 false true false false) := by
  refine returnsInHanded_of_change (C := Try.checked) bagOnce_own started (by kernel_rfl) Try.func4
    (ChangeSpec.witness6 (enc := enc) (C := Try.checked) false ⟨#[], #[.string ByteArray.empty, .slice none 0 0], []⟩ 8 (by kernel_rfl) (by kernel_rfl) (by kernel_rfl) (by kernel_rfl)) ?_
  intro W base args ds gs before hval0 hW hcnd _
  have hval : ∀ (j : Nat) t v, Try.f4.params[j]? = some t → args[j]? = some v → Value.okWide Try.prog W .any base t v := hval0
  have hW' := hW
  obtain ⟨p, q, hA0, hV, rfl, hfz, hnd⟩ := hW
  have hA : DataW.TrodAll enc Try.prog W 0 (fun _ => true) true Try.f4.params.toList args.toList ds p := hA0
  rw [Try.params4] at hA hval
  obtain ⟨v0, vs0, d0, ds0, p0, q0, hargs, rfl, rfl, h0, r0⟩ := trodAll_cons hA
  obtain ⟨v1, vs1, d1, ds1, p1, q1, rfl, rfl, rfl, h1, r1⟩ := trodAll_cons r0
  obtain ⟨rfl, rfl, rfl⟩ := trodAll_nil r1
  obtain rfl : args = #[v0, v1] := by cases args; simp_all
  obtain ⟨rfl, rfl⟩ := trodVars_none hV
  have k0 := h0
  have k1 := h1
  have lt0 : ∀ x ∈ p0, x.block < W.heap.size := by obtain ⟨m, hm⟩ := k0; exact DataW.trod_lt m _ _ _ hm
  have lt1 : ∀ x ∈ p1, x.block < W.heap.size := by obtain ⟨m, hm⟩ := k1; exact DataW.trod_lt m _ _ _ hm
  obtain ⟨a0, rfl, _, _, w0⟩ := open_string Try.underlying9 (hval 0 9 v0 rfl rfl) h0
  obtain ⟨a1, len1, cap1, rfl⟩ := okWide_slice Try.underlying22 (hval 1 22 v1 rfl rfl)
  obtain ⟨l, hl, hlm, hf, hat⟩ : ∃ l : List ActD, l.length = len1 ∧ len1 ≤ maxLen ∧ (∀ m ∈ l, ActD.fine m) ∧ (0 < len1 → actR.At W (.slice a1 len1 cap1) l) := by
    obtain ⟨fuel, hf⟩ := h1
    exact slice_list actR 22 29 Try.underlying22 law_cells29 ActD.fine ⟨0, 0, 0, 0, ByteArray.empty, 0⟩ (cap := cap1) open_act (by simpa [Value.cells] using hf)
  clear hA0 hval0
  refine (once_any a0 l a1 len1 cap1 W w0 hlm hl hf hat).mono fun e W' ⟨he, bel⟩ => ?_
  subst he
  exact ⟨_, rfl, _, _, _, [], _, [], hW', trodAll_mk1 (shut_bool Try.underlying4 _), (trodAll_cons_mk (Below.trod bagOnce_laidOut (by kernel_rfl) (of_decide_eq_true (by kernel_rfl)) k0 bel lt0) (trodAll_cons_mk (Below.trod bagOnce_laidOut (by kernel_rfl) (of_decide_eq_true (by kernel_rfl)) k1 bel lt1) trodAll_mk0)), rfl, bel.frame _, fun h => by cases h⟩

theorem bagOnce_over : Rows.bagOnceRow.holds Try.pinned (OpenSpec.ofChange Rows.bagOnceSpec) :=
  OpenClaim.holds_of_wide 4 Try.f4 rfl rfl rfl rfl rfl rfl rfl ⟨rfl, rfl, rfl, rfl, rfl⟩ rfl rfl rfl rfl rfl (by kernel_rfl) Try.func4 (by kernel_rfl)
    (of_decide_eq_true (by kernel_rfl)) (by unfold Func.isWrapper; first | (rw [if_pos (by decide +kernel)]; kernel_rfl) | (rw [if_neg (by decide +kernel)]; exact ⟨rfl, rfl⟩))
    (fun os started H enc _ => bagOnce_lifted os started H enc)

/-- The statement. -/
theorem bagOnce_holds : Rows.BagOnceSaid := bagOnce_over
#print axioms bagOnce_holds
end Go.Proofs.Ytlphlmpfjpombaa
