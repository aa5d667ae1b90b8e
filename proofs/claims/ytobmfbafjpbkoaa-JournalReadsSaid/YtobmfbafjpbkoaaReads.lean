/-
  The law JournalReads returns true: a disk with any records and any bytes behind them, or with another byte: which records it has, what is cut; and records that are added stand behind these.
  Conditions: none: whatever the argument that its type allows, the call returns true and leaves its argument as it was.
-/
import Derived.Test.YtobmfbafjpbkoaaReadsA
import Derived.Test.YtobmfbafjpbkoaaOpen
import Derived.Test.YtobmfbafjpbkoaaRows
namespace Go.Proofs.Ytobmfbafjpbkoaa
open Go.RowKit Go.Instr Go.ChangeShapes Go.WideShapes Go.ChangeAt
open Go.ChangeMaps (open_string shut_string)
theorem journalReads_own : ownKnob Try.prog.godebug = none := by kernel_rfl
theorem journalReads_laidOut : laidOutB Try.prog = true := by kernel_rfl
theorem reads_cells9 : Try.prog.cellsOf 9 = 1 := by kernel_rfl
theorem reads_cells47 : Try.prog.cellsOf 47 = 4 := by kernel_rfl
theorem reads_str {H : Type} {enc : TypeId × Value → H} {w : World} {base : Nat} {spare : Nat → Bool} {held : Bool} (fuel : Nat) (cs : List Value) (x : DataW H × List MemPlace)
    (h : DataW.trod enc Try.prog w base spare held fuel 9 cs = some x) : ∃ s : ByteArray, cs = strR.f s ∧ s.size ≤ maxLen := by
  obtain ⟨k, e, _, w1⟩ := DataW.trod_string Try.underlying9 h
  exact ⟨k, e, w1⟩
theorem slice_of {H : Type} {enc : TypeId × Value → H} {w : World} {base : Nat} {spare : Nat → Bool} {held : Bool} {fuel : Nat} {v : Value} {x : DataW H × List MemPlace}
    (h : DataW.trod enc Try.prog w base spare held fuel 44 [v] = some x) : ∃ a n c, v = .slice a n c := by
  rcases Go.Deep.open_slice Try.underlying44 h with ⟨hcs, _⟩ | ⟨a, l, c, m, n, D, Pl, hcs, _⟩
  · simp only [List.cons.injEq, and_true] at hcs
    exact ⟨_, _, _, hcs⟩
  · simp only [List.cons.injEq, and_true] at hcs
    exact ⟨_, _, _, hcs⟩
/-- A Found that came in. -/
theorem open_found {H : Type} {enc : TypeId × Value → H} {w : World} {base b0 : Nat} {spare : Nat → Bool} {held : Bool} {r : Reach} {v : Value} {d : DataW H} {p : List MemPlace} (hv : Value.okWide Try.prog w r b0 47 v)
    (h : DataW.Trod enc Try.prog w base spare held 47 v d p) : ∃ (l : List ByteArray) (a : Option Addr) (n c : Nat) (s : ByteArray) (k : Int) (u : Nat), v = .agg #[.slice a n c, .string s, .int .i64 k, .int .u8 u] ∧ n ≤ maxLen ∧ l.length = n ∧ (∀ x ∈ l, x.size ≤ maxLen) ∧ (0 < n → strR.At w (.slice a n c) l) ∧ s.size ≤ maxLen ∧ (-9223372036854775808 ≤ k ∧ k ≤ 9223372036854775807) ∧ u < 256 := by
  obtain ⟨c0, c1, c2, c3, y0, y1, y2, y3, n, rfl, _, _, t0, t1, t2, t3⟩ := Go.Joins.open_agg4 Try.underlying47 (by kernel_rfl) reads_cells47 hv h
  obtain ⟨a0, n0, cap0, rfl⟩ := slice_of t0
  obtain ⟨l, hl, hlm, hf, hat⟩ := slice_list strR 44 9 Try.underlying44 reads_cells9 (fun s => s.size ≤ maxLen) ByteArray.empty (cap := cap0) reads_str t0
  obtain ⟨k1, e1, _, w1⟩ := DataW.trod_string Try.underlying9 t1
  obtain ⟨k2, e2, _, w2⟩ := DataW.trod_int Try.underlying3 t2
  obtain ⟨k3, e3, _, w3⟩ := DataW.trod_int Try.underlying5 t3
  obtain ⟨m3, rfl, h3⟩ := nat_u8 w3
  simp only [List.cons.injEq, and_true] at e1 e2 e3
  exact ⟨l, a0, n0, cap0, k1, k2, m3, by rw [e1, e2, e3], hlm, hl, hf, hat, w1, bounds_i64 w2, h3⟩
set_option maxRecDepth 100000 in
theorem journalReads_lifted (os : Os) (started : os.Started) (H : Type) (enc : TypeId × Value → H) :
    ReturnsInHanded {} Try.checked os 5 .any (Rows.journalReadsSpec.pre6 enc Try.prog Try.f5 Rows.journalReadsRow.domain false) (Rows.journalReadsSpec.post enc Try.prog Try.f5 false true false false) := by
  refine returnsInHanded_of_change (C := Try.checked) journalReads_own started (by kernel_rfl) Try.func5
    (ChangeSpec.witness6 (enc := enc) (C := Try.checked) false ⟨#[], #[.agg #[.slice none 0 0, .string ByteArray.empty, .int .i64 0, .int .u8 0]], []⟩ 8 (by kernel_rfl) (by kernel_rfl) (by kernel_rfl) (by kernel_rfl)) ?_
  intro W base args ds gs before hval0 hW hcnd _
  have hval : ∀ (j : Nat) t v, Try.f5.params[j]? = some t → args[j]? = some v → Value.okWide Try.prog W .any base t v := hval0
  have hW' := hW
  obtain ⟨p, q, hA0, hV, rfl, hfz, hnd⟩ := hW
  have hA : DataW.TrodAll enc Try.prog W 0 (fun _ => true) true Try.f5.params.toList args.toList ds p := hA0
  rw [Try.params5] at hA hval
  obtain ⟨v0, vs0, d0, ds0, p0, q0, hargs, rfl, rfl, h0, r0⟩ := trodAll_cons hA
  obtain ⟨rfl, rfl, rfl⟩ := trodAll_nil r0
  obtain rfl : args = #[v0] := by cases args; simp_all
  obtain ⟨rfl, rfl⟩ := trodVars_none hV
  have k0 := h0
  have lt0 : ∀ x ∈ p0, x.block < W.heap.size := by obtain ⟨m, hm⟩ := k0; exact DataW.trod_lt m _ _ _ hm
  obtain ⟨l, a, n, c, s, k, u, rfl, e1, e2, e3, e4, e5, e6, e7⟩ := open_found (hval 0 47 v0 rfl rfl) h0
  clear hA0 hval0
  refine (reads_walk l a n c s k u W e1 e2 e3 e4 e5 e6.1 e6.2 e7).mono fun e W' ⟨he, bel⟩ => ?_
  subst he
  exact ⟨_, rfl, _, _, _, [], _, [], hW', trodAll_mk1 (shut_bool Try.underlying4 _), (trodAll_cons_mk (Below.trod journalReads_laidOut (by kernel_rfl) (of_decide_eq_true (by kernel_rfl)) k0 bel lt0) trodAll_mk0), rfl, bel.frame _, fun h => by cases h⟩

theorem journalReads_over : Rows.journalReadsRow.holds Try.pinned (OpenSpec.ofChange Rows.journalReadsSpec) :=
  OpenClaim.holds_of_wide 5 Try.f5 rfl rfl rfl rfl rfl rfl rfl ⟨rfl, rfl, rfl, rfl, rfl⟩ rfl rfl rfl rfl rfl (by kernel_rfl) Try.func5 (by kernel_rfl)
    (of_decide_eq_true (by kernel_rfl)) (by unfold Func.isWrapper; first | (rw [if_pos (by decide +kernel)]; kernel_rfl) | (rw [if_neg (by decide +kernel)]; exact ⟨rfl, rfl⟩))
    (fun os started H enc _ => journalReads_lifted os started H enc)

/-- The statement. -/
theorem journalReads_holds : Rows.JournalReadsSaid := journalReads_over
#print axioms journalReads_holds
end Go.Proofs.Ytobmfbafjpbkoaa
