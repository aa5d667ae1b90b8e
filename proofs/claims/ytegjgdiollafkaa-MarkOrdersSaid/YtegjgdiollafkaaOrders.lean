/-
  The law MarkOrders returns true: whatever the two stamps and the row of stamps, their order, the order of their ballots, the greatest stamp and the highest ballot are what the reference says.
  Conditions: none: whatever the arguments that the types allow, the call returns true and leaves its arguments as they were.
-/
import Derived.Test.YtegjgdiollafkaaOrdB
import Derived.Test.YtegjgdiollafkaaRows
import Derived.ProofKit
import Derived.OpenShut
import Derived.ShutString
import Derived.ChangeOld
import Derived.Below
import Derived.Deep.Slices
import Derived.Lib.SmallJoins
namespace Go.Proofs.Ytegjgdiollafkaa
open Go.RowKit Go.Instr Go.ChangeShapes Go.WideShapes Go.ChangeAt
theorem mark_cells5 : Try.prog.cellsOf 5 = 1 := by kernel_rfl
theorem mark_cells22 : Try.prog.cellsOf 22 = 1 := by kernel_rfl
theorem mark_cells24 : Try.prog.cellsOf 24 = 3 := by kernel_rfl
theorem nat_u32 {k : Int} (h : (Lit.int .u32 k).wf = true) : ∃ n : Nat, k = n ∧ n < 4294967296 := by
  have b := bounds_u32 h
  obtain ⟨n, rfl⟩ := Int.eq_ofNat_of_zero_le b.1
  exact ⟨n, rfl, by omega⟩
theorem nat_u8 {k : Int} (h : (Lit.int .u8 k).wf = true) : ∃ n : Nat, k = n ∧ n < 256 := by
  have b := bounds_u8 h
  obtain ⟨n, rfl⟩ := Int.eq_ofNat_of_zero_le b.1
  exact ⟨n, rfl, by omega⟩
/-- A stamp that came in. -/
theorem open_stamp {H : Type} {enc : TypeId × Value → H} {w : World} {base b0 : Nat} {spare : Nat → Bool} {held : Bool} {r : Reach} {v : Value} {d : DataW H} {p : List MemPlace} (hv : Value.okWide Try.prog w r b0 24 v)
    (h : DataW.Trod enc Try.prog w base spare held 24 v d p) : ∃ s : S, v = .agg #[.int .u32 s.n, .int .u8 s.b, .int .u8 s.l] ∧ s.fine := by
  obtain ⟨c0, c1, c2, y0, y1, y2, n, rfl, _, _, t0, t1, t2⟩ := Go.Joins.open_agg3 Try.underlying24 (by kernel_rfl) mark_cells24 hv h
  obtain ⟨k0, e0, _, w0⟩ := DataW.trod_int Try.underlying22 t0
  obtain ⟨k1, e1, _, w1⟩ := DataW.trod_int Try.underlying5 t1
  obtain ⟨k2, e2, _, w2⟩ := DataW.trod_int Try.underlying5 t2
  obtain ⟨m0, rfl, h0⟩ := nat_u32 w0
  obtain ⟨m1, rfl, h1⟩ := nat_u8 w1
  obtain ⟨m2, rfl, h2⟩ := nat_u8 w2
  simp only [List.cons.injEq, and_true] at e0 e1 e2
  exact ⟨⟨m0, m1, m2⟩, by rw [e0, e1, e2], h0, h1, h2⟩
/-- The three cells of a stamp that came in. -/
theorem open_cells {H : Type} {enc : TypeId × Value → H} {w : World} {base : Nat} {spare : Nat → Bool} {held : Bool} {fuel : Nat} {cs : List Value} {x : DataW H × List MemPlace}
    (h : DataW.trod enc Try.prog w base spare held fuel 24 cs = some x) : ∃ s : S, cs = [.int .u32 s.n, .int .u8 s.b, .int .u8 s.l] ∧ s.fine := by
  obtain ⟨xs, n, _, _, hl, hlen, hf⟩ := DataW.trod_struct Try.underlying24 h
  rw [mark_cells24] at hl
  match xs, hlen with
  | [y0, y1, y2], _ =>
    match cs, hl with
    | [c0, c1, c2], _ =>
      have h0 : DataW.trod enc Try.prog w base spare held n 22 (([c0, c1, c2].drop 0).take (Try.prog.cellsOf 22)) = some y0 := hf 0 _ rfl
      have h1 : DataW.trod enc Try.prog w base spare held n 5 (([c0, c1, c2].drop 1).take (Try.prog.cellsOf 5)) = some y1 := hf 1 _ rfl
      have h2 : DataW.trod enc Try.prog w base spare held n 5 (([c0, c1, c2].drop 2).take (Try.prog.cellsOf 5)) = some y2 := hf 2 _ rfl
      rw [mark_cells22] at h0
      rw [mark_cells5] at h1 h2
      obtain ⟨k0, e0, _, w0⟩ := DataW.trod_int Try.underlying22 h0
      obtain ⟨k1, e1, _, w1⟩ := DataW.trod_int Try.underlying5 h1
      obtain ⟨k2, e2, _, w2⟩ := DataW.trod_int Try.underlying5 h2
      obtain ⟨m0, rfl, g0⟩ := nat_u32 w0
      obtain ⟨m1, rfl, g1⟩ := nat_u8 w1
      obtain ⟨m2, rfl, g2⟩ := nat_u8 w2
      simp at e0 e1 e2
      exact ⟨⟨m0, m1, m2⟩, by rw [e0, e1, e2], g0, g1, g2⟩
theorem rowAt_of {H : Type} {enc : TypeId × Value → H} {w : World} {base : Nat} {spare : Nat → Bool} {held : Bool} {fuel : Nat} {a0 : Option Addr} {len cap : Nat} {x : DataW H × List MemPlace}
    (h : DataW.trod enc Try.prog w base spare held fuel 25 [.slice a0 len cap] = some x) : ∃ z, len ≤ maxLen ∧ RowAt w a0 len z := by
  rcases Go.Deep.open_slice Try.underlying25 h with ⟨hcs, _⟩ | ⟨a, l, c, m, n, D, Pl, hcs, _, hl, hm, hmm, _, hat⟩
  · simp at hcs
    obtain ⟨rfl, rfl, rfl⟩ := hcs
    exact ⟨fun _ => ⟨0, 0, 0⟩, Nat.zero_le _, fun k hk => absurd hk (Nat.not_lt_zero _)⟩
  · simp at hcs
    obtain ⟨rfl, rfl, rfl⟩ := hcs
    have hlm : len ≤ m := by rw [hmm]; split <;> omega
    have each : ∀ k, ∃ s : S, k < len → (∀ j u, ([.int .u32 s.n, .int .u8 s.b, .int .u8 s.l] : List Value)[j]? = some u → w.cell? ((a.add (k * 3)).add j) = some u) ∧ s.fine := by
      intro k
      by_cases hk : k < len
      · obtain ⟨cs', hc, ht⟩ := hat k (by omega)
        rw [mark_cells24] at hc
        obtain ⟨s, rfl, h1⟩ := open_cells ht
        obtain ⟨_, _, hcell⟩ := World.cells?_some hc
        refine ⟨s, fun _ => ⟨fun j u hj => ?_, h1⟩⟩
        have hj3 : j < 3 := by
          rcases Nat.lt_or_ge j 3 with h | h
          · exact h
          · rw [List.getElem?_eq_none (by simpa using h)] at hj; cases hj
        have := hcell j hj3
        exact this.trans hj
      · exact ⟨⟨0, 0, 0⟩, fun h => absurd h hk⟩
    obtain ⟨z, hz⟩ := Classical.axiomOfChoice each
    refine ⟨z, by omega, fun k hk => ?_⟩
    obtain ⟨q, hin⟩ := hz k hk
    have q0 := q 0 _ rfl
    have q1 := q 1 _ rfl
    have q2 := q 2 _ rfl
    obtain ⟨b, off, spot⟩ := a
    have hspot : spot = none := by
      have h00 := (hz 0 (by omega)).1 0 _ rfl
      simp only [Nat.zero_mul] at h00
      simpa [Addr.add] using World.cell?_spot h00
    subst hspot
    have ea : ∀ i j : Nat, ((⟨b, off, none⟩ : Addr).add i).add j = ⟨b, off + i + j, none⟩ := by
      intro i j
      unfold Addr.add
      split <;> split <;> simp_all
    rw [ea] at q0 q1 q2
    exact ⟨b, off, rfl, q0, q1, q2, hin⟩
theorem markOrders_own : ownKnob Try.prog.godebug = none := by kernel_rfl
theorem markOrders_laidOut : laidOutB Try.prog = true := by kernel_rfl
set_option maxRecDepth 100000 in
theorem markOrders_lifted (os : Os) (started : os.Started) (H : Type) (enc : TypeId × Value → H) :
    ReturnsInHanded {} Try.checked os 3 .any (Rows.markOrdersSpec.pre6 enc Try.prog Try.f3 Rows.markOrdersRow.domain false) (Rows.markOrdersSpec.post enc Try.prog Try.f3 false true false false) := by
  refine returnsInHanded_of_change (C := Try.checked) markOrders_own started (by kernel_rfl) Try.func3
    (ChangeSpec.witness6 (enc := enc) (C := Try.checked) false ⟨#[], #[.agg #[.int .u32 0, .int .u8 0, .int .u8 0], .agg #[.int .u32 0, .int .u8 0, .int .u8 0], .slice none 0 0], []⟩ 8 (by kernel_rfl) (by kernel_rfl) (by kernel_rfl) (by kernel_rfl)) ?_
  intro W base args ds gs before hval0 hW hcnd _
  have hval : ∀ (j : Nat) t v, Try.f3.params[j]? = some t → args[j]? = some v → Value.okWide Try.prog W .any base t v := hval0
  have hW' := hW
  obtain ⟨p, q, hA0, hV, rfl, hfz, hnd⟩ := hW
  have hA : DataW.TrodAll enc Try.prog W 0 (fun _ => true) true Try.f3.params.toList args.toList ds p := hA0
  rw [Try.params3] at hA hval
  obtain ⟨v0, vs0, d0, ds0, p0, q0, hargs, rfl, rfl, h0, r0⟩ := trodAll_cons hA
  obtain ⟨v1, vs1, d1, ds1, p1, q1, rfl, rfl, rfl, h1, r1⟩ := trodAll_cons r0
  obtain ⟨v2, vs2, d2, ds2, p2, q2, rfl, rfl, rfl, h2, r2⟩ := trodAll_cons r1
  obtain ⟨rfl, rfl, rfl⟩ := trodAll_nil r2
  obtain rfl : args = #[v0, v1, v2] := by cases args; simp_all
  obtain ⟨rfl, rfl⟩ := trodVars_none hV
  have k0 := h0
  have k1 := h1
  have k2 := h2
  have lt0 : ∀ x ∈ p0, x.block < W.heap.size := by obtain ⟨m, hm⟩ := k0; exact DataW.trod_lt m _ _ _ hm
  have lt1 : ∀ x ∈ p1, x.block < W.heap.size := by obtain ⟨m, hm⟩ := k1; exact DataW.trod_lt m _ _ _ hm
  have lt2 : ∀ x ∈ p2, x.block < W.heap.size := by obtain ⟨m, hm⟩ := k2; exact DataW.trod_lt m _ _ _ hm
  obtain ⟨⟨n, b, l⟩, rfl, hf⟩ := open_stamp (hval 0 24 v0 rfl rfl) h0
  obtain ⟨⟨m, c, k⟩, rfl, hf'⟩ := open_stamp (hval 1 24 v1 rfl rfl) h1
  obtain ⟨a2, len2, cap2, rfl⟩ := okWide_slice Try.underlying25 (hval 2 25 v2 rfl rfl)
  obtain ⟨z, w1, w2⟩ : ∃ z, len2 ≤ maxLen ∧ RowAt W a2 len2 z := by
    obtain ⟨fuel, hf⟩ := h2
    exact rowAt_of (cap := cap2) (by simpa [Value.cells] using hf)
  clear hA0 hval0
  refine (orders_walk n b l m c k a2 len2 cap2 z W hf hf' w1 w2).mono fun e W' ⟨he, bel⟩ => ?_
  subst he
  exact ⟨_, rfl, _, _, _, [], _, [], hW', trodAll_mk1 (shut_bool Try.underlying4 _), (trodAll_cons_mk (Below.trod markOrders_laidOut (by kernel_rfl) (of_decide_eq_true (by kernel_rfl)) k0 bel lt0) (trodAll_cons_mk (Below.trod markOrders_laidOut (by kernel_rfl) (of_decide_eq_true (by kernel_rfl)) k1 bel lt1) (trodAll_cons_mk (Below.trod markOrders_laidOut (by kernel_rfl) (of_decide_eq_true (by kernel_rfl)) k2 bel lt2) trodAll_mk0))), rfl, bel.frame _, fun h => by cases h⟩

theorem markOrders_over : Rows.markOrdersRow.holds Try.pinned (OpenSpec.ofChange Rows.markOrdersSpec) :=
  OpenClaim.holds_of_wide 3 Try.f3 rfl rfl rfl rfl rfl rfl rfl ⟨rfl, rfl, rfl, rfl, rfl⟩ rfl rfl rfl rfl rfl (by kernel_rfl) Try.func3 (by kernel_rfl)
    (of_decide_eq_true (by kernel_rfl)) (by unfold Func.isWrapper; first | (rw [if_pos (by decide +kernel)]; kernel_rfl) | (rw [if_neg (by decide +kernel)]; exact ⟨rfl, rfl⟩))
    (fun os started H enc _ => markOrders_lifted os started H enc)

/-- The statement. -/
theorem markOrders_holds : Rows.MarkOrdersSaid := markOrders_over
#print axioms markOrders_holds
end Go.Proofs.Ytegjgdiollafkaa
