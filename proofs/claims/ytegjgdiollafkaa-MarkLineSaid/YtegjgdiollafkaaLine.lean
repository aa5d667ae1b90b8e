/-
  The law MarkLine returns true: whatever the three stamps, just one of less, equal and greater holds of the first two, less goes on from the first to the third, and the greatest of the three is one of them and less than none.
  Conditions: none: whatever the arguments that the types allow, the call returns true and leaves its arguments as they were.
-/
import Derived.Test.YtegjgdiollafkaaLineB
import Derived.Test.YtegjgdiollafkaaRows
import Derived.ProofKit
import Derived.OpenShut
import Derived.ShutString
import Derived.ChangeOld
import Derived.Below
import Derived.Deep.Slices
import Derived.Lib.SmallJoins
namespace Go.Proofs.Ytegjgdiollafkaa
open Go.RowKit Go.Instr Go.ChangeShapes Go.WideShapes Go.ChangeAt
theorem mark_cells5 : Try.prog.cellsOf 5 = 1 := by kernel_rfl
theorem mark_cells22 : Try.prog.cellsOf 22 = 1 := by kernel_rfl
theorem mark_cells24 : Try.prog.cellsOf 24 = 3 := by kernel_rfl
theorem nat_u32 {k : Int} (h : (Lit.int .u32 k).wf = true) : ∃ n : Nat, k = n ∧ n < 4294967296 := by
  have b := bounds_u32 h
  obtain ⟨n, rfl⟩ := Int.eq_ofNat_of_zero_le b.1
  exact ⟨n, rfl, by omega⟩
theorem nat_u8 {k : Int} (h : (Lit.int .u8 k).wf = true) : ∃ n : Nat, k = n ∧ n < 256 := by
  have b := bounds_u8 h
  obtain ⟨n, rfl⟩ := Int.eq_ofNat_of_zero_le b.1
  exact ⟨n, rfl, by omega⟩
/-- A stamp that came in. -/
theorem open_stamp {H : Type} {enc : TypeId × Value → H} {w : World} {base b0 : Nat} {spare : Nat → Bool} {held : Bool} {r : Reach} {v : Value} {d : DataW H} {p : List MemPlace} (hv : Value.okWide Try.prog w r b0 24 v)
    (h : DataW.Trod enc Try.prog w base spare held 24 v d p) : ∃ s : S, v = .agg #[.int .u32 s.n, .int .u8 s.b, .int .u8 s.l] ∧ s.fine := by
  obtain ⟨c0, c1, c2, y0, y1, y2, n, rfl, _, _, t0, t1, t2⟩ := Go.Joins.open_agg3 Try.underlying24 (by kernel_rfl) mark_cells24 hv h
  obtain ⟨k0, e0, _, w0⟩ := DataW.trod_int Try.underlying22 t0
  obtain ⟨k1, e1, _, w1⟩ := DataW.trod_int Try.underlying5 t1
  obtain ⟨k2, e2, _, w2⟩ := DataW.trod_int Try.underlying5 t2
  obtain ⟨m0, rfl, h0⟩ := nat_u32 w0
  obtain ⟨m1, rfl, h1⟩ := nat_u8 w1
  obtain ⟨m2, rfl, h2⟩ := nat_u8 w2
  simp only [List.cons.injEq, and_true] at e0 e1 e2
  exact ⟨⟨m0, m1, m2⟩, by rw [e0, e1, e2], h0, h1, h2⟩
theorem markLine_own : ownKnob Try.prog.godebug = none := by kernel_rfl
theorem markLine_laidOut : laidOutB Try.prog = true := by kernel_rfl
set_option maxRecDepth 100000 in
theorem markLine_lifted (os : Os) (started : os.Started) (H : Type) (enc : TypeId × Value → H) :
    ReturnsInHanded {} Try.checked os 5 .any (Rows.markLineSpec.pre6 enc Try.prog Try.f5 Rows.markLineRow.domain false) (Rows.markLineSpec.post enc Try.prog Try.f5 false true false false) := by
  refine returnsInHanded_of_change (C := Try.checked) markLine_own started (by kernel_rfl) Try.func5
    (ChangeSpec.witness6 (enc := enc) (C := Try.checked) false ⟨#[], #[.agg #[.int .u32 0, .int .u8 0, .int .u8 0], .agg #[.int .u32 0, .int .u8 0, .int .u8 0], .agg #[.int .u32 0, .int .u8 0, .int .u8 0]], []⟩ 8 (by kernel_rfl) (by kernel_rfl) (by kernel_rfl) (by kernel_rfl)) ?_
  intro W base args ds gs before hval0 hW hcnd _
  have hval : ∀ (j : Nat) t v, Try.f5.params[j]? = some t → args[j]? = some v → Value.okWide Try.prog W .any base t v := hval0
  have hW' := hW
  obtain ⟨p, q, hA0, hV, rfl, hfz, hnd⟩ := hW
  have hA : DataW.TrodAll enc Try.prog W 0 (fun _ => true) true Try.f5.params.toList args.toList ds p := hA0
  rw [Try.params5] at hA hval
  obtain ⟨v0, vs0, d0, ds0, p0, q0, hargs, rfl, rfl, h0, r0⟩ := trodAll_cons hA
  obtain ⟨v1, vs1, d1, ds1, p1, q1, rfl, rfl, rfl, h1, r1⟩ := trodAll_cons r0
  obtain ⟨v2, vs2, d2, ds2, p2, q2, rfl, rfl, rfl, h2, r2⟩ := trodAll_cons r1
  obtain ⟨rfl, rfl, rfl⟩ := trodAll_nil r2
  obtain rfl : args = #[v0, v1, v2] := by cases args; simp_all
  obtain ⟨rfl, rfl⟩ := trodVars_none hV
  have k0 := h0
  have k1 := h1
  have k2 := h2
  have lt0 : ∀ x ∈ p0, x.block < W.heap.size := by obtain ⟨m, hm⟩ := k0; exact DataW.trod_lt m _ _ _ hm
  have lt1 : ∀ x ∈ p1, x.block < W.heap.size := by obtain ⟨m, hm⟩ := k1; exact DataW.trod_lt m _ _ _ hm
  have lt2 : ∀ x ∈ p2, x.block < W.heap.size := by obtain ⟨m, hm⟩ := k2; exact DataW.trod_lt m _ _ _ hm
  obtain ⟨⟨n, b, l⟩, rfl, _⟩ := open_stamp (hval 0 24 v0 rfl rfl) h0
  obtain ⟨⟨m, c, k⟩, rfl, _⟩ := open_stamp (hval 1 24 v1 rfl rfl) h1
  obtain ⟨⟨p', q', r'⟩, rfl, _⟩ := open_stamp (hval 2 24 v2 rfl rfl) h2
  clear hA0 hval0
  refine (line_walk n b l m c k p' q' r' W).mono fun e W' ⟨he, bel⟩ => ?_
  subst he
  exact ⟨_, rfl, _, _, _, [], _, [], hW', trodAll_mk1 (shut_bool Try.underlying4 _), (trodAll_cons_mk (Below.trod markLine_laidOut (by kernel_rfl) (of_decide_eq_true (by kernel_rfl)) k0 bel lt0) (trodAll_cons_mk (Below.trod markLine_laidOut (by kernel_rfl) (of_decide_eq_true (by kernel_rfl)) k1 bel lt1) (trodAll_cons_mk (Below.trod markLine_laidOut (by kernel_rfl) (of_decide_eq_true (by kernel_rfl)) k2 bel lt2) trodAll_mk0))), rfl, bel.frame _, fun h => by cases h⟩

theorem markLine_over : Rows.markLineRow.holds Try.pinned (OpenSpec.ofChange Rows.markLineSpec) :=
  OpenClaim.holds_of_wide 5 Try.f5 rfl rfl rfl rfl rfl rfl rfl ⟨rfl, rfl, rfl, rfl, rfl⟩ rfl rfl rfl rfl rfl (by kernel_rfl) Try.func5 (by kernel_rfl)
    (of_decide_eq_true (by kernel_rfl)) (by unfold Func.isWrapper; first | (rw [if_pos (by decide +kernel)]; kernel_rfl) | (rw [if_neg (by decide +kernel)]; exact ⟨rfl, rfl⟩))
    (fun os started H enc _ => markLine_lifted os started H enc)

/-- The statement. -/
theorem markLine_holds : Rows.MarkLineSaid := markLine_over
#print axioms markLine_holds
end Go.Proofs.Ytegjgdiollafkaa
