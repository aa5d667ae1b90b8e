/-
  The law RegisterApplies returns true: whatever the value and the operations, one behind the other, each operation's validity, its new value, its answer and whether it writes are what the reference says.
  Conditions: the library's tables and its two errors hold what the program's text lays (the card ties them to it); else none: whatever the arguments that the types allow, the call returns true and leaves its arguments as they were.
-/
import Derived.Test.YtegjgdiollafkaaDoorLawK
import Derived.Test.YtegjgdiollafkaaDoorLawB
import Derived.Test.YtegjgdiollafkaaDoorRows
import Derived.ProofKit
import Derived.OpenShut
import Derived.ShutString
import Derived.ChangeOld
import Derived.Below
import Derived.Deep.Slices
import Derived.Lib.SmallJoins
import Derived.LaidLaws
import Derived.Stop.LaidErr
import Derived.Lib.LaidTab
import Derived.SizedLaws
import Derived.Test.YtegjgdiollafkaaDoorTie
import Derived.Test.YtegjgdiollafkaaDoorCards
import Derived.SevenTiedAt
namespace Go.Proofs.YtegjgdiollafkaaDoor
open Go.RowKit Go.Instr Go.ChangeShapes Go.WideShapes Go.ChangeAt
open Go.ChangeMaps (open_string shut_string)
theorem cells3 : Tryd.prog.cellsOf 3 = 1 := by kernel_rfl
theorem cells2 : Tryd.prog.cellsOf 2 = 1 := by kernel_rfl
theorem cells4 : Tryd.prog.cellsOf 4 = 1 := by kernel_rfl
theorem cells23 : Tryd.prog.cellsOf 23 = 2 := by kernel_rfl
theorem cells35 : Tryd.prog.cellsOf 35 = 6 := by kernel_rfl
/-- The six cells of an operation that came in. -/
theorem open_op {H : Type} {enc : TypeId × Value → H} {w : World} {base : Nat} {spare : Nat → Bool} {held : Bool} {fuel : Nat} {cs : List Value} {x : DataW H × List MemPlace}
    (h : DataW.trod enc Tryd.prog w base spare held fuel 35 cs = some x) :
    ∃ p : O, cs = [.int .i64 p.kind, .int .i64 p.key, .string p.s, .bool p.oh, .string p.os, .int .i64 p.n] ∧ in64 p.n := by
  obtain ⟨xs, n, _, _, hl, hlen, hf⟩ := DataW.trod_struct Tryd.underlying35 h
  rw [cells35] at hl
  match xs, hlen with
  | [y0, y1, y2, y3, y4], _ =>
    match cs, hl with
    | [c0, c1, c2, c3, c4, c5], _ =>
      have h0 : DataW.trod enc Tryd.prog w base spare held n 3 (([c0, c1, c2, c3, c4, c5].drop 0).take (Tryd.prog.cellsOf 3)) = some y0 := hf 0 _ rfl
      have h1 : DataW.trod enc Tryd.prog w base spare held n 3 (([c0, c1, c2, c3, c4, c5].drop 1).take (Tryd.prog.cellsOf 3)) = some y1 := hf 1 _ rfl
      have h2 : DataW.trod enc Tryd.prog w base spare held n 9 (([c0, c1, c2, c3, c4, c5].drop 2).take (Tryd.prog.cellsOf 9)) = some y2 := hf 2 _ rfl
      have h3 : DataW.trod enc Tryd.prog w base spare held n 23 (([c0, c1, c2, c3, c4, c5].drop 3).take (Tryd.prog.cellsOf 23)) = some y3 := hf 3 _ rfl
      have h4 : DataW.trod enc Tryd.prog w base spare held n 2 (([c0, c1, c2, c3, c4, c5].drop 5).take (Tryd.prog.cellsOf 2)) = some y4 := hf 4 _ rfl
      rw [cells3] at h0 h1
      rw [cells9] at h2
      rw [cells23] at h3
      rw [cells2] at h4
      obtain ⟨k, e0, _, _⟩ := DataW.trod_int Tryd.underlying3 h0
      obtain ⟨key, e1, _, _⟩ := DataW.trod_int Tryd.underlying3 h1
      obtain ⟨s, e2, _, _⟩ := DataW.trod_string Tryd.underlying9 h2
      obtain ⟨z0, z1, m, _, _, g0, g1⟩ := trod_struct2 Tryd.underlying23 h3
      rw [show Tryd.prog.cellsOf _ = 1 from cells4] at g0
      rw [show Tryd.prog.cellsOf _ = 1 from cells9] at g1
      obtain ⟨oh, e3, _⟩ := DataW.trod_bool Tryd.underlying4 g0
      obtain ⟨os, e5, _, _⟩ := DataW.trod_string Tryd.underlying9 g1
      obtain ⟨nn, e4, _, hw⟩ := DataW.trod_int Tryd.underlying2 h4
      have hb := bounds_i64 hw
      simp at e0 e1 e2 e3 e4 e5
      exact ⟨⟨k, key, s, oh, os, nn⟩, by rw [e0, e1, e2, e3, e4, e5], hb.1, hb.2⟩
theorem opsAt_of {H : Type} {enc : TypeId × Value → H} {w : World} {base : Nat} {spare : Nat → Bool} {held : Bool} {fuel : Nat} {a0 : Option Addr} {len cap : Nat} {x : DataW H × List MemPlace}
    (h : DataW.trod enc Tryd.prog w base spare held fuel 24 [.slice a0 len cap] = some x) : ∃ z, len ≤ maxLen ∧ OpsAt w a0 len z := by
  rcases Go.Deep.open_slice Tryd.underlying24 h with ⟨hcs, _⟩ | ⟨a, l, c, m, n, D, Pl, hcs, _, hl, hm, hmm, _, hat⟩
  · simp at hcs
    obtain ⟨rfl, rfl, rfl⟩ := hcs
    exact ⟨fun _ => ⟨0, 0, ⟨#[]⟩, false, ⟨#[]⟩, 0⟩, Nat.zero_le _, fun k hk => absurd hk (Nat.not_lt_zero _)⟩
  · simp at hcs
    obtain ⟨rfl, rfl, rfl⟩ := hcs
    have hlm : len ≤ m := by rw [hmm]; split <;> omega
    have each : ∀ k, ∃ p : O, k < len → (∀ j u, ([.int .i64 p.kind, .int .i64 p.key, .string p.s, .bool p.oh, .string p.os, .int .i64 p.n] : List Value)[j]? = some u → w.cell? ((a.add (k * 6)).add j) = some u) ∧ in64 p.n := by
      intro k
      by_cases hk : k < len
      · obtain ⟨cs', hc, ht⟩ := hat k (by omega)
        rw [cells35] at hc
        obtain ⟨p, rfl, h1⟩ := open_op ht
        obtain ⟨_, _, hcell⟩ := World.cells?_some hc
        refine ⟨p, fun _ => ⟨fun j u hj => ?_, h1⟩⟩
        have hj6 : j < 6 := by
          rcases Nat.lt_or_ge j 6 with h | h
          · exact h
          · rw [List.getElem?_eq_none (by simpa using h)] at hj; cases hj
        have := hcell j hj6
        exact this.trans hj
      · exact ⟨⟨0, 0, ⟨#[]⟩, false, ⟨#[]⟩, 0⟩, fun h => absurd h hk⟩
    obtain ⟨z, hz⟩ := Classical.axiomOfChoice each
    refine ⟨z, by omega, fun k hk => ?_⟩
    obtain ⟨q, hin⟩ := hz k hk
    have q0 := q 0 _ rfl
    have q1 := q 1 _ rfl
    have q2 := q 2 _ rfl
    have q3 := q 3 _ rfl
    have q4 := q 4 _ rfl
    have q5 := q 5 _ rfl
    obtain ⟨b, off, spot⟩ := a
    have hspot : spot = none := by
      have h00 := (hz 0 (by omega)).1 0 _ rfl
      simp only [Nat.zero_mul] at h00
      simpa [Addr.add] using World.cell?_spot h00
    subst hspot
    have ea : ∀ i j : Nat, ((⟨b, off, none⟩ : Addr).add i).add j = ⟨b, off + i + j, none⟩ := by
      intro i j
      unfold Addr.add
      split <;> split <;> simp_all
    rw [ea] at q0 q1 q2 q3 q4 q5
    exact ⟨b, off, rfl, q0, q1, q2, q3, q4, q5, hin⟩
set_option maxRecDepth 100000 in
theorem registerApplies_lifted (os : Os) (started : os.Started) (H : Type) (enc : TypeId × Value → H) :
    ReturnsInHanded {} Tryd.checked os 3 .any (fun w args => (Rows.registerAppliesSpec.pre enc Tryd.prog Tryd.f3 Rows.registerAppliesRow.domain false w args ∧ laidMet Tryd.prog Rows.registerAppliesRow.laid w) ∧ sizedMet enc Tryd.prog Tryd.f3 (OpenSpec.ofChange Rows.registerAppliesSpec) false w args)
      (Rows.registerAppliesSpec.post enc Tryd.prog Tryd.f3 false true false false) := by
  refine returnsInHanded_of_change_and (C := Tryd.checked) (X := fun w _ => laidMet Tryd.prog Rows.registerAppliesRow.laid w) (fun _ _ _ hh h => h.of_heap hh) register_own started (by kernel_rfl) Tryd.func3
    (ChangeSpec.witness_at (enc := enc) (C := Tryd.checked) (os := os) (X := fun w _ => laidMet Tryd.prog Rows.registerAppliesRow.laid w) false (laidWorld os) #[.agg #[.bool false, .string ⟨#[]⟩], .slice none 0 0] 8 rfl (by kernel_rfl) (by kernel_rfl) (by kernel_rfl) (by kernel_rfl) (by kernel_rfl) (laidWorld_met os _)) ?_
  intro W base args ds gs before hval0 hW _ _ hL _
  have hval : ∀ (j : Nat) t v, Tryd.f3.params[j]? = some t → args[j]? = some v → Value.okWide Tryd.prog W .any base t v := hval0
  have hW' := hW
  obtain ⟨p, q, hA0, hV, rfl, hfz, hnd⟩ := hW
  have hA : DataW.TrodAll enc Tryd.prog W 0 (fun _ => true) true Tryd.f3.params.toList args.toList ds p := hA0
  rw [Tryd.params3] at hA hval
  obtain ⟨v0, vs0, d0, ds0, p0, q0, hargs, rfl, rfl, h0, r0⟩ := trodAll_cons hA
  obtain ⟨v1, vs1, d1, ds1, p1, q1, rfl, rfl, rfl, h1, r1⟩ := trodAll_cons r0
  obtain ⟨rfl, rfl, rfl⟩ := trodAll_nil r1
  obtain rfl : args = #[v0, v1] := by cases args; simp_all
  obtain ⟨rfl, rfl⟩ := trodVars_none hV
  have k0 := h0
  have k1 := h1
  have lt0 : ∀ x ∈ p0, x.block < W.heap.size := by obtain ⟨m, hm⟩ := k0; exact DataW.trod_lt m _ _ _ hm
  have lt1 : ∀ x ∈ p1, x.block < W.heap.size := by obtain ⟨m, hm⟩ := k1; exact DataW.trod_lt m _ _ _ hm
  obtain ⟨c0, c1, y0, y1, n, rfl, _, _, t0, t1⟩ := Go.Joins.open_agg2 Tryd.underlying23 (by kernel_rfl) cells23 (hval 0 23 v0 rfl rfl) h0
  obtain ⟨has, e0, _⟩ := DataW.trod_bool Tryd.underlying4 t0
  obtain ⟨s, e1, _, ws⟩ := DataW.trod_string Tryd.underlying9 t1
  simp only [List.cons.injEq, and_true] at e0 e1
  subst e0; subst e1
  obtain ⟨a1, len1, cap1, rfl⟩ := okWide_slice Tryd.underlying24 (hval 1 24 v1 rfl rfl)
  obtain ⟨z, w1, w2⟩ : ∃ z, len1 ≤ maxLen ∧ OpsAt W a1 len1 z := by
    obtain ⟨fuel, hf⟩ := h1
    exact opsAt_of (cap := cap1) (by simpa [Value.cells] using hf)
  clear hA0 hval0
  refine (applies_walk has s a1 len1 cap1 z W ws w1 (env_of_laid hL) w2).mono fun e W' ⟨he, bel⟩ => ?_
  subst he
  exact ⟨_, rfl, _, _, _, [], _, [], hW', trodAll_mk1 (shut_bool Tryd.underlying4 _), (trodAll_cons_mk (Below.trod register_laidOut (by kernel_rfl) (of_decide_eq_true (by kernel_rfl)) k0 bel lt0) (trodAll_cons_mk (Below.trod register_laidOut (by kernel_rfl) (of_decide_eq_true (by kernel_rfl)) k1 bel lt1) trodAll_mk0)), rfl, bel.frame _, fun h => by cases h⟩
theorem registerApplies_over : Rows.registerAppliesRow.holds Tryd.pinned (OpenSpec.ofChange Rows.registerAppliesSpec) :=
  OpenClaim.holds_of_wide 3 Tryd.f3 rfl rfl rfl rfl rfl rfl rfl ⟨rfl, rfl, rfl, rfl, rfl⟩ rfl rfl rfl rfl rfl (by kernel_rfl) Tryd.func3 (by kernel_rfl)
    (of_decide_eq_true (by kernel_rfl)) (by unfold Func.isWrapper; first | (rw [if_pos (by decide +kernel)]; kernel_rfl) | (rw [if_neg (by decide +kernel)]; exact ⟨rfl, rfl⟩))
    (fun os started H enc _ => registerApplies_lifted os started H enc)
theorem registerApplies_holds0 : Rows.RegisterAppliesSaid := registerApplies_over
/-- The statement: the card. -/
theorem registerApplies_holds : Rows.RegisterAppliesCardSaid :=
  Claim7.holds_tied_plain_at .later [] [.data, .data, .data, .sentinel, .sentinel] true (true, "56d32291db3538ecf0102108b623b398657d5c06f30032ca93fc133b4f67e7e0") true
    registerApplies_holds0 (fun _ h => by cases h) (by kernel_rfl) (fun _ h => by cases h) registerApplies_row_tie rfl ⟨rfl, rfl⟩ (by kernel_rfl) rfl
    (fun f fn hf hfn => by
      obtain rfl : f = 3 := Option.some.inj ((show Tryd.prog.funcNamed "talaria/talarialaw04.RegisterApplies" = some 3 by kernel_rfl).symm.trans hf) |>.symm
      obtain rfl : fn = Tryd.f3 := (Option.some.inj (Tryd.func3.symm.trans hfn)).symm
      exact ⟨by kernel_rfl, fun j t ht => by
        rw [Tryd.params3] at ht
        have h3 : t = 23 ∨ t = 24 := by
          rcases j with _ | j
          · exact .inl (by simpa using ht.symm)
          · rcases j with _ | j
            · exact .inr (by simpa using ht.symm)
            · simp at ht
        rcases h3 with rfl | rfl
        · exact (show Tryd.prog.wantsStandIn 23 = false by kernel_rfl)
        · exact (show Tryd.prog.wantsStandIn 24 = false by kernel_rfl)⟩)
    (by kernel_rfl)
#print axioms registerApplies_holds
end Go.Proofs.YtegjgdiollafkaaDoor
