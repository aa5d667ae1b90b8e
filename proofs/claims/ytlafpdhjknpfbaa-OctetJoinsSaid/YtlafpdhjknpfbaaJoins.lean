/-
  The law OctetJoins returns true: any parts are encoded as the reference says, or refused with the document's error; what may be is read again, part by part.
  Conditions: none: whatever the arguments that the types allow, the call returns true and leaves its arguments as they were.
-/
import Derived.Test.YtlafpdhjknpfbaaJoinsA
import Derived.Test.YtlafpdhjknpfbaaRows
import Derived.ProofKit
import Derived.OpenShut
import Derived.ShutString
import Derived.ChangeOld
import Derived.Below
import Derived.Deep.Slices
import Derived.Lib.SmallJoins
namespace Go.Proofs.Ytlafpdhjknpfbaa
open Go.RowKit Go.Instr Go.ChangeShapes Go.WideShapes Go.ChangeAt
open Go.ChangeMaps (open_string shut_string)

theorem joins_cells3 : Try.prog.cellsOf 3 = 1 := by kernel_rfl
theorem joins_cells26 : Try.prog.cellsOf 26 = 1 := by kernel_rfl
theorem joins_cells9 : Try.prog.cellsOf 9 = 1 := by kernel_rfl
theorem joins_cells28 : Try.prog.cellsOf 28 = 4 := by kernel_rfl
/-- The four cells of a part that came in. -/
theorem open_law {H : Type} {enc : TypeId × Value → H} {w : World} {base : Nat} {spare : Nat → Bool} {held : Bool} {fuel : Nat} {cs : List Value} {x : DataW H × List MemPlace}
    (h : DataW.trod enc Try.prog w base spare held fuel 28 cs = some x) :
    ∃ p : LawV, cs = [.int .i64 p.k, .int .i64 p.z, .int .u64 p.n, .string p.s] ∧ p.n ≤ 18446744073709551615 ∧ p.s.size ≤ maxLen := by
  obtain ⟨y0, y1, y2, y3, n, _, hl, h0, h1, h2, h3⟩ := Go.Joins.trod_struct4 Try.underlying28 h
  rw [joins_cells28] at hl
  match cs, hl with
  | [c0, c1, c2, c3], _ =>
    simp only [joins_cells3, joins_cells26, joins_cells9] at h0 h1 h2 h3
    obtain ⟨k, e0, _, _⟩ := DataW.trod_int Try.underlying3 h0
    obtain ⟨z, e1, _, _⟩ := DataW.trod_int Try.underlying3 h1
    obtain ⟨m, e2, _, hw⟩ := DataW.trod_int Try.underlying26 h2
    obtain ⟨s, e3, _, hs⟩ := DataW.trod_string Try.underlying9 h3
    have hb := bounds_u64 hw
    obtain ⟨q, rfl⟩ := Int.eq_ofNat_of_zero_le hb.1
    simp at e0 e1 e2 e3
    exact ⟨⟨k, z, q, s⟩, by rw [e0, e1, e2, e3], by show q ≤ 18446744073709551615; omega, hs⟩

/-- What the walk is told of a slice of parts that came in: nil, or the cells of its parts. -/
def IsParts (w : World) (a : Option Addr) (len : Nat) (z : Nat → LawV) : Prop :=
  len ≤ maxLen ∧ ∀ k, k < len → ∃ b off, a = some ⟨b, off, none⟩ ∧ w.cell? ⟨b, off + k * 4, none⟩ = some (.int .i64 (z k).k) ∧ w.cell? ⟨b, off + k * 4 + 1, none⟩ = some (.int .i64 (z k).z) ∧ w.cell? ⟨b, off + k * 4 + 2, none⟩ = some (.int .u64 (z k).n) ∧ w.cell? ⟨b, off + k * 4 + 3, none⟩ = some (.string (z k).s) ∧ (z k).n ≤ 18446744073709551615 ∧ (z k).s.size ≤ maxLen
theorem isParts_of {H : Type} {enc : TypeId × Value → H} {w : World} {base : Nat} {spare : Nat → Bool} {held : Bool} {fuel : Nat} {a0 : Option Addr} {len cap : Nat} {x : DataW H × List MemPlace}
    (h : DataW.trod enc Try.prog w base spare held fuel 22 [.slice a0 len cap] = some x) : ∃ z, IsParts w a0 len z := by
  rcases Go.Deep.open_slice Try.underlying22 h with ⟨hcs, _⟩ | ⟨a, l, c, m, n, D, Pl, hcs, _, hl, hm, hmm, _, hat⟩
  · simp at hcs
    obtain ⟨rfl, rfl, rfl⟩ := hcs
    exact ⟨fun _ => ⟨0, 0, 0, ⟨#[]⟩⟩, Nat.zero_le _, fun k hk => absurd hk (Nat.not_lt_zero _)⟩
  · simp at hcs
    obtain ⟨rfl, rfl, rfl⟩ := hcs
    have hlm : len ≤ m := by rw [hmm]; split <;> omega
    have each : ∀ k, ∃ p : LawV, k < len → (w.cell? ((a.add (k * 4)).add 0) = some (.int .i64 p.k) ∧ w.cell? ((a.add (k * 4)).add 1) = some (.int .i64 p.z) ∧ w.cell? ((a.add (k * 4)).add 2) = some (.int .u64 p.n) ∧ w.cell? ((a.add (k * 4)).add 3) = some (.string p.s)) ∧ p.n ≤ 18446744073709551615 ∧ p.s.size ≤ maxLen := by
      intro k
      by_cases hk : k < len
      · obtain ⟨cs', hc, ht⟩ := hat k (by omega)
        rw [joins_cells28] at hc
        obtain ⟨p, rfl, h1, h2⟩ := open_law ht
        obtain ⟨_, _, hcell⟩ := World.cells?_some hc
        exact ⟨p, fun _ => ⟨⟨hcell 0 (by decide), hcell 1 (by decide), hcell 2 (by decide), hcell 3 (by decide)⟩, h1, h2⟩⟩
      · exact ⟨⟨0, 0, 0, ⟨#[]⟩⟩, fun h => absurd h hk⟩
    obtain ⟨z, hz⟩ := Classical.axiomOfChoice each
    refine ⟨z, by omega, fun k hk => ?_⟩
    obtain ⟨⟨q0, q1, q2, q3⟩, hn, hs⟩ := hz k hk
    obtain ⟨b, off, spot⟩ := a
    have hspot : spot = none := by
      have hp0 := hz 0 (by omega)
      have h00 := hp0.1.1
      simp only [Nat.zero_mul] at h00
      simpa [Addr.add] using World.cell?_spot h00
    subst hspot
    have ea : ∀ i j : Nat, ((⟨b, off, none⟩ : Addr).add i).add j = ⟨b, off + i + j, none⟩ := by
      intro i j
      unfold Addr.add
      split <;> split <;> simp_all
    rw [ea] at q0 q1 q2 q3
    exact ⟨b, off, rfl, q0, q1, q2, q3, hn, hs⟩
theorem octetJoins_own : ownKnob Try.prog.godebug = none := by kernel_rfl
theorem octetJoins_laidOut : laidOutB Try.prog = true := by kernel_rfl
set_option maxRecDepth 100000 in
theorem octetJoins_lifted (os : Os) (started : os.Started) (H : Type) (enc : TypeId × Value → H) :
    ReturnsInHanded {} Try.checked os 3 .any (Rows.octetJoinsSpec.pre6 enc Try.prog Try.f3 Rows.octetJoinsRow.domain false) (Rows.octetJoinsSpec.post enc Try.prog Try.f3 false true false false) := by
  refine returnsInHanded_of_change (C := Try.checked) octetJoins_own started (by kernel_rfl) Try.func3
    (ChangeSpec.witness6 (enc := enc) (C := Try.checked) false ⟨#[], #[.slice none 0 0], []⟩ 8 (by kernel_rfl) (by kernel_rfl) (by kernel_rfl) (by kernel_rfl)) ?_
  intro W base args ds gs before hval0 hW hcnd _
  have hval : ∀ (j : Nat) t v, Try.f3.params[j]? = some t → args[j]? = some v → Value.okWide Try.prog W .any base t v := hval0
  have hW' := hW
  obtain ⟨p, q, hA0, hV, rfl, hfz, hnd⟩ := hW
  have hA : DataW.TrodAll enc Try.prog W 0 (fun _ => true) true Try.f3.params.toList args.toList ds p := hA0
  rw [Try.params3] at hA hval
  obtain ⟨v0, vs0, d0, ds0, p0, q0, hargs, rfl, rfl, h0, r0⟩ := trodAll_cons hA
  obtain ⟨rfl, rfl, rfl⟩ := trodAll_nil r0
  obtain rfl : args = #[v0] := by cases args; simp_all
  obtain ⟨rfl, rfl⟩ := trodVars_none hV
  obtain ⟨a0, len0, cap0, rfl⟩ := okWide_slice Try.underlying22 (hval 0 22 v0 rfl rfl)
  have k0 := h0
  have lt0 : ∀ x ∈ p0, x.block < W.heap.size := by obtain ⟨m, hm⟩ := k0; exact DataW.trod_lt m _ _ _ hm
  obtain ⟨z, w0⟩ : ∃ z, IsParts W a0 len0 z := by
    obtain ⟨fuel, hf⟩ := h0
    exact isParts_of (cap := cap0) (by simpa [Value.cells] using hf)
  clear hA0 hval0
  refine (joins_any a0 len0 cap0 z W w0.1 w0.2).mono fun e W' ⟨he, bel⟩ => ?_
  subst he
  exact ⟨_, rfl, _, _, _, [], _, [], hW', trodAll_mk1 (shut_bool Try.underlying4 _), (trodAll_cons_mk (Below.trod octetJoins_laidOut (by kernel_rfl) (of_decide_eq_true (by kernel_rfl)) k0 bel lt0) trodAll_mk0), rfl, bel.frame _, fun h => by cases h⟩

theorem octetJoins_over : Rows.octetJoinsRow.holds Try.pinned (OpenSpec.ofChange Rows.octetJoinsSpec) :=
  OpenClaim.holds_of_wide 3 Try.f3 rfl rfl rfl rfl rfl rfl rfl ⟨rfl, rfl, rfl, rfl, rfl⟩ rfl rfl rfl rfl rfl (by kernel_rfl) Try.func3 (by kernel_rfl)
    (of_decide_eq_true (by kernel_rfl)) (by unfold Func.isWrapper; first | (rw [if_pos (by decide +kernel)]; kernel_rfl) | (rw [if_neg (by decide +kernel)]; exact ⟨rfl, rfl⟩))
    (fun os started H enc _ => octetJoins_lifted os started H enc)

/-- The statement. -/
theorem octetJoins_holds : Rows.OctetJoinsSaid := octetJoins_over
#print axioms octetJoins_holds
end Go.Proofs.Ytlafpdhjknpfbaa
