/-
  The law PaceEven returns true: where all clocks tick in turn and leases are waited for longer than they are held, no clock ever stays behind, whoever requests and stops when.
  Conditions: none: whatever the arguments that the types allow, the call returns true and leaves its arguments as they were.
-/
import Derived.Test.YtlphlmpfjpombaaEvenA
import Derived.Test.YtlphlmpfjpombaaRows
namespace Go.Proofs.Ytlphlmpfjpombaa
open Go.RowKit Go.Instr Go.ChangeShapes Go.WideShapes Go.ChangeAt
theorem paceEven_own : ownKnob Try.prog.godebug = none := by kernel_rfl
theorem paceEven_laidOut : laidOutB Try.prog = true := by kernel_rfl
theorem law_cells64 : Try.prog.cellsOf 64 = 1 := by kernel_rfl
theorem open_u16 {H : Type} {enc : TypeId × Value → H} {w : World} {base : Nat} {spare : Nat → Bool} {held : Bool} (fuel : Nat) (cs : List Value) (x : DataW H × List MemPlace)
    (h : DataW.trod enc Try.prog w base spare held fuel 64 cs = some x) : ∃ s : Nat, cs = u16R.f s ∧ s < 65536 := by
  obtain ⟨k, e, _, wf⟩ := DataW.trod_int Try.underlying64 h
  have b := bounds_u16 wf
  obtain ⟨n, rfl⟩ := Int.eq_ofNat_of_zero_le b.1
  exact ⟨n, e, by omega⟩
set_option maxRecDepth 100000 in
theorem paceEven_lifted (os : Os) (started : os.Started) (H : Type) (enc : TypeId × Value → H) :
    ReturnsInHanded {} Try.checked os 7 .any (Rows.paceEvenSpec.pre6 enc Try.prog Try.f7 Rows.paceEvenRow.domain false) (Rows.paceEvenSpec.post enc Try.prog Try.f7 false true false false) := by
  refine returnsInHanded_of_change (C := Try.checked) paceEven_own started (by kernel_rfl) Try.func7
    (ChangeSpec.witness6 (enc := enc) (C := Try.checked) false ⟨#[], #[.int .u8 0, .int .u8 0, .slice none 0 0], []⟩ 8 (by kernel_rfl) (by kernel_rfl) (by kernel_rfl) (by kernel_rfl)) ?_
  intro W base args ds gs before hval0 hW hcnd _
  have hval : ∀ (j : Nat) t v, Try.f7.params[j]? = some t → args[j]? = some v → Value.okWide Try.prog W .any base t v := hval0
  have hW' := hW
  obtain ⟨p, q, hA0, hV, rfl, hfz, hnd⟩ := hW
  have hA : DataW.TrodAll enc Try.prog W 0 (fun _ => true) true Try.f7.params.toList args.toList ds p := hA0
  rw [Try.params7] at hA hval
  obtain ⟨v0, vs0, d0, ds0, p0, q0, hargs, rfl, rfl, h0, r0⟩ := trodAll_cons hA
  obtain ⟨v1, vs1, d1, ds1, p1, q1, rfl, rfl, rfl, h1, r1⟩ := trodAll_cons r0
  obtain ⟨v2, vs2, d2, ds2, p2, q2, rfl, rfl, rfl, h2, r2⟩ := trodAll_cons r1
  obtain ⟨rfl, rfl, rfl⟩ := trodAll_nil r2
  obtain rfl : args = #[v0, v1, v2] := by cases args; simp_all
  obtain ⟨rfl, rfl⟩ := trodVars_none hV
  have k0 := h0
  have k1 := h1
  have k2 := h2
  have lt0 : ∀ x ∈ p0, x.block < W.heap.size := by obtain ⟨m, hm⟩ := k0; exact DataW.trod_lt m _ _ _ hm
  have lt1 : ∀ x ∈ p1, x.block < W.heap.size := by obtain ⟨m, hm⟩ := k1; exact DataW.trod_lt m _ _ _ hm
  have lt2 : ∀ x ∈ p2, x.block < W.heap.size := by obtain ⟨m, hm⟩ := k2; exact DataW.trod_lt m _ _ _ hm
  obtain ⟨a0, rfl, _, _, w0⟩ := open_int Try.underlying5 (hval 0 5 v0 rfl rfl) h0
  obtain ⟨n0, rfl, hn0⟩ := nat_u8 w0
  obtain ⟨a1, rfl, _, _, w1⟩ := open_int Try.underlying5 (hval 1 5 v1 rfl rfl) h1
  obtain ⟨n1, rfl, hn1⟩ := nat_u8 w1
  obtain ⟨a2, len2, cap2, rfl⟩ := okWide_slice Try.underlying63 (hval 2 63 v2 rfl rfl)
  obtain ⟨l, hl, hlm, hf, hat⟩ : ∃ l : List Nat, l.length = len2 ∧ len2 ≤ maxLen ∧ (∀ m ∈ l, m < 65536) ∧ (0 < len2 → u16R.At W (.slice a2 len2 cap2) l) := by
    obtain ⟨fuel, hf⟩ := h2
    exact slice_list u16R 63 64 Try.underlying63 law_cells64 (fun m => m < 65536) 0 (cap := cap2) open_u16 (by simpa [Value.cells] using hf)
  clear hA0 hval0
  refine (even_walk n0 n1 l a2 len2 cap2 W hn0 hn1 hlm hl hf hat).mono fun e W' ⟨he, bel⟩ => ?_
  subst he
  exact ⟨_, rfl, _, _, _, [], _, [], hW', trodAll_mk1 (shut_bool Try.underlying4 _), (trodAll_cons_mk (Below.trod paceEven_laidOut (by kernel_rfl) (of_decide_eq_true (by kernel_rfl)) k0 bel lt0) (trodAll_cons_mk (Below.trod paceEven_laidOut (by kernel_rfl) (of_decide_eq_true (by kernel_rfl)) k1 bel lt1) (trodAll_cons_mk (Below.trod paceEven_laidOut (by kernel_rfl) (of_decide_eq_true (by kernel_rfl)) k2 bel lt2) trodAll_mk0))), rfl, bel.frame _, fun h => by cases h⟩

theorem paceEven_over : Rows.paceEvenRow.holds Try.pinned (OpenSpec.ofChange Rows.paceEvenSpec) :=
  OpenClaim.holds_of_wide 7 Try.f7 rfl rfl rfl rfl rfl rfl rfl ⟨rfl, rfl, rfl, rfl, rfl⟩ rfl rfl rfl rfl rfl (by kernel_rfl) Try.func7 (by kernel_rfl)
    (of_decide_eq_true (by kernel_rfl)) (by unfold Func.isWrapper; first | (rw [if_pos (by decide +kernel)]; kernel_rfl) | (rw [if_neg (by decide +kernel)]; exact ⟨rfl, rfl⟩))
    (fun os started H enc _ => paceEven_lifted os started H enc)

/-- The statement. -/
theorem paceEven_holds : Rows.PaceEvenSaid := paceEven_over
#print axioms paceEven_holds
end Go.Proofs.Ytlphlmpfjpombaa
