/-
  The law BagPlays returns true: a bag through any acts: each answer and all that is on its way is what the plain list says; no bag.
  Conditions: none: whatever the arguments that the types allow, the call returns true and leaves its arguments as they were.
-/
import Derived.Test.YtlphlmpfjpombaaPlayA
import Derived.Test.YtlphlmpfjpombaaRows
namespace Go.Proofs.Ytlphlmpfjpombaa
open Go.RowKit Go.Instr Go.ChangeShapes Go.WideShapes Go.ChangeAt
open Go.ChangeMaps (open_string shut_string)
theorem bagPlays_own : ownKnob Try.prog.godebug = none := by kernel_rfl
theorem bagPlays_laidOut : laidOutB Try.prog = true := by kernel_rfl
theorem plays_any (rm : Int) (l : List ActD) (a : Option Addr) (len cap : Nat) (w : World) (h1 : -9223372036854775808 ≤ rm) (h2 : rm ≤ 9223372036854775807) (hlen : len ≤ maxLen) (hl : l.length = len) (hf : ∀ x ∈ l, x.fine) (hA : 0 < len → actR.At w (.slice a len cap) l) :
    Calls Try.prog 3 #[.int .i64 rm, .slice a len cap] w fun e w' => e = .returned (.bool true) ∧ Below w.heap.size w w' :=
  plays_walk rm _ l a len cap w h1 h2 rfl hlen hl hf hA
set_option maxRecDepth 100000 in
theorem bagPlays_lifted (os : Os) (started : os.Started) (H : Type) (enc : TypeId × Value → H) :
    ReturnsInHanded {} Try.checked os 3 .any (Rows.bagPlaysSpec.pre6 enc Try.prog Try.f3 Rows.bagPlaysRow.domain false) (Rows.bagPlaysSpec.post enc Try.prog Try.f3 false true false false) := by
  refine returnsInHanded_of_change (C := Try.checked) bagPlays_own started (by kernel_rfl) Try.func3
    (ChangeSpec.witness6 (enc := enc) (C := Try.checked) false ⟨#[], #[.int .i64 0, .slice none 0 0], []⟩ 8 (by kernel_rfl) (by kernel_rfl) (by kernel_rfl) (by kernel_rfl)) ?_
  intro W base args ds gs before hval0 hW hcnd _
  have hval : ∀ (j : Nat) t v, Try.f3.params[j]? = some t → args[j]? = some v → Value.okWide Try.prog W .any base t v := hval0
  have hW' := hW
  obtain ⟨p, q, hA0, hV, rfl, hfz, hnd⟩ := hW
  have hA : DataW.TrodAll enc Try.prog W 0 (fun _ => true) true Try.f3.params.toList args.toList ds p := hA0
  rw [Try.params3] at hA hval
  obtain ⟨v0, vs0, d0, ds0, p0, q0, hargs, rfl, rfl, h0, r0⟩ := trodAll_cons hA
  obtain ⟨v1, vs1, d1, ds1, p1, q1, rfl, rfl, rfl, h1, r1⟩ := trodAll_cons r0
  obtain ⟨rfl, rfl, rfl⟩ := trodAll_nil r1
  obtain rfl : args = #[v0, v1] := by cases args; simp_all
  obtain ⟨rfl, rfl⟩ := trodVars_none hV
  have k0 := h0
  have k1 := h1
  have lt0 : ∀ x ∈ p0, x.block < W.heap.size := by obtain ⟨m, hm⟩ := k0; exact DataW.trod_lt m _ _ _ hm
  have lt1 : ∀ x ∈ p1, x.block < W.heap.size := by obtain ⟨m, hm⟩ := k1; exact DataW.trod_lt m _ _ _ hm
  obtain ⟨a0, rfl, _, _, w0⟩ := open_int Try.underlying3 (hval 0 3 v0 rfl rfl) h0
  have b0 := bounds_i64 w0
  obtain ⟨a1, len1, cap1, rfl⟩ := okWide_slice Try.underlying22 (hval 1 22 v1 rfl rfl)
  obtain ⟨l, hl, hlm, hf, hat⟩ : ∃ l : List ActD, l.length = len1 ∧ len1 ≤ maxLen ∧ (∀ m ∈ l, ActD.fine m) ∧ (0 < len1 → actR.At W (.slice a1 len1 cap1) l) := by
    obtain ⟨fuel, hf⟩ := h1
    exact slice_list actR 22 29 Try.underlying22 law_cells29 ActD.fine ⟨0, 0, 0, 0, ByteArray.empty, 0⟩ (cap := cap1) open_act (by simpa [Value.cells] using hf)
  clear hA0 hval0
  refine (plays_any a0 l a1 len1 cap1 W b0.1 b0.2 hlm hl hf hat).mono fun e W' ⟨he, bel⟩ => ?_
  subst he
  exact ⟨_, rfl, _, _, _, [], _, [], hW', trodAll_mk1 (shut_bool Try.underlying4 _), (trodAll_cons_mk (Below.trod bagPlays_laidOut (by kernel_rfl) (of_decide_eq_true (by kernel_rfl)) k0 bel lt0) (trodAll_cons_mk (Below.trod bagPlays_laidOut (by kernel_rfl) (of_decide_eq_true (by kernel_rfl)) k1 bel lt1) trodAll_mk0)), rfl, bel.frame _, fun h => by cases h⟩

theorem bagPlays_over : Rows.bagPlaysRow.holds Try.pinned (OpenSpec.ofChange Rows.bagPlaysSpec) :=
  OpenClaim.holds_of_wide 3 Try.f3 rfl rfl rfl rfl rfl rfl rfl ⟨rfl, rfl, rfl, rfl, rfl⟩ rfl rfl rfl rfl rfl (by kernel_rfl) Try.func3 (by kernel_rfl)
    (of_decide_eq_true (by kernel_rfl)) (by unfold Func.isWrapper; first | (rw [if_pos (by decide +kernel)]; kernel_rfl) | (rw [if_neg (by decide +kernel)]; exact ⟨rfl, rfl⟩))
    (fun os started H enc _ => bagPlays_lifted os started H enc)

/-- The statement. -/
theorem bagPlays_holds : Rows.BagPlaysSaid := bagPlays_over
#print axioms bagPlays_holds
end Go.Proofs.Ytlphlmpfjpombaa
