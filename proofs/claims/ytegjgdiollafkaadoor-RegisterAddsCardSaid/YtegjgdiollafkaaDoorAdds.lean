/-
  The law RegisterAdds returns true: whatever the numbers, one Add behind the other keeps their sum as the value's text, Add of the negated sum gives 0, and a CAS behind a Put writes just where the two texts are one.
  Conditions: the library's tables and its two errors hold what the program's text lays (the card ties them to it); else none: whatever the arguments that the types allow, the call returns true and leaves its arguments as they were.
-/
import Derived.Test.YtegjgdiollafkaaDoorLawK
import Derived.Test.YtegjgdiollafkaaDoorAddB
import Derived.Test.YtegjgdiollafkaaDoorRows
import Derived.ProofKit
import Derived.OpenShut
import Derived.ShutString
import Derived.ChangeOld
import Derived.Below
import Derived.Deep.Slices
import Derived.Lib.SmallJoins
import Derived.LaidLaws
import Derived.Stop.LaidErr
import Derived.Lib.LaidTab
import Derived.SizedLaws
import Derived.Test.YtegjgdiollafkaaDoorTie
import Derived.Test.YtegjgdiollafkaaDoorCards
import Derived.SevenTiedAt
namespace Go.Proofs.YtegjgdiollafkaaDoor
open Go.RowKit Go.Instr Go.ChangeShapes Go.WideShapes Go.ChangeAt
open Go.ChangeMaps (open_string shut_string)
theorem cells21 : Tryd.prog.cellsOf 21 = 1 := by kernel_rfl
theorem dsAt_of {H : Type} {enc : TypeId × Value → H} {w : World} {base : Nat} {spare : Nat → Bool} {held : Bool} {fuel : Nat} {a0 : Option Addr} {len cap : Nat} {x : DataW H × List MemPlace}
    (h : DataW.trod enc Tryd.prog w base spare held fuel 46 [.slice a0 len cap] = some x) : ∃ z, len ≤ maxLen ∧ DsAt w a0 len z := by
  rcases Go.Deep.open_slice Tryd.underlying46 h with ⟨hcs, _⟩ | ⟨a, l, c, m, n, D, Pl, hcs, _, hl, hm, hmm, _, hat⟩
  · simp at hcs
    obtain ⟨rfl, rfl, rfl⟩ := hcs
    exact ⟨fun _ => 0, Nat.zero_le _, fun k hk => absurd hk (Nat.not_lt_zero _)⟩
  · simp at hcs
    obtain ⟨rfl, rfl, rfl⟩ := hcs
    have hlm : len ≤ m := by rw [hmm]; split <;> omega
    have each : ∀ k, ∃ d : Int, k < len → w.cell? ((a.add (k * 1)).add 0) = some (.int .i32 d) ∧ -2147483648 ≤ d ∧ d ≤ 2147483647 := by
      intro k
      by_cases hk : k < len
      · obtain ⟨cs', hc, ht⟩ := hat k (by omega)
        rw [cells21] at hc
        obtain ⟨d, rfl, _, hw⟩ := DataW.trod_int Tryd.underlying21 ht
        have hb := bounds_i32 hw
        obtain ⟨_, _, hcell⟩ := World.cells?_some hc
        exact ⟨d, fun _ => ⟨(hcell 0 (by decide)).trans rfl, hb.1, hb.2⟩⟩
      · exact ⟨0, fun h => absurd h hk⟩
    obtain ⟨z, hz⟩ := Classical.axiomOfChoice each
    refine ⟨z, by omega, fun k hk => ?_⟩
    obtain ⟨q, hb⟩ := hz k hk
    obtain ⟨b, off, spot⟩ := a
    have hspot : spot = none := by
      have h00 := (hz 0 (by omega)).1
      simp only [Nat.zero_mul] at h00
      simpa [Addr.add] using World.cell?_spot h00
    subst hspot
    have ea : ∀ i j : Nat, ((⟨b, off, none⟩ : Addr).add i).add j = ⟨b, off + i + j, none⟩ := by
      intro i j
      unfold Addr.add
      split <;> split <;> simp_all
    rw [ea] at q
    simp only [Nat.mul_one, Nat.add_zero] at q
    exact ⟨b, off, rfl, q, hb.1, hb.2⟩
set_option maxRecDepth 100000 in
theorem registerAdds_lifted (os : Os) (started : os.Started) (H : Type) (enc : TypeId × Value → H) :
    ReturnsInHanded {} Tryd.checked os 4 .any (fun w args => (Rows.registerAddsSpec.pre enc Tryd.prog Tryd.f4 Rows.registerAddsRow.domain false w args ∧ laidMet Tryd.prog Rows.registerAddsRow.laid w) ∧ sizedMet enc Tryd.prog Tryd.f4 (OpenSpec.ofChange Rows.registerAddsSpec) false w args)
      (Rows.registerAddsSpec.post enc Tryd.prog Tryd.f4 false true false false) := by
  refine returnsInHanded_of_change_and (C := Tryd.checked) (X := fun w _ => laidMet Tryd.prog Rows.registerAddsRow.laid w) (fun _ _ _ hh h => h.of_heap hh) register_own started (by kernel_rfl) Tryd.func4
    (ChangeSpec.witness_at (enc := enc) (C := Tryd.checked) (os := os) (X := fun w _ => laidMet Tryd.prog Rows.registerAddsRow.laid w) false (laidWorld os) #[.slice none 0 0, .string ⟨#[]⟩, .string ⟨#[]⟩] 8 rfl (by kernel_rfl) (by kernel_rfl) (by kernel_rfl) (by kernel_rfl) (by kernel_rfl) (laidWorld_met os _)) ?_
  intro W base args ds gs before hval0 hW _ _ hL _
  have hval : ∀ (j : Nat) t v, Tryd.f4.params[j]? = some t → args[j]? = some v → Value.okWide Tryd.prog W .any base t v := hval0
  have hW' := hW
  obtain ⟨p, q, hA0, hV, rfl, hfz, hnd⟩ := hW
  have hA : DataW.TrodAll enc Tryd.prog W 0 (fun _ => true) true Tryd.f4.params.toList args.toList ds p := hA0
  rw [Tryd.params4] at hA hval
  obtain ⟨v0, vs0, d0, ds0, p0, q0, hargs, rfl, rfl, h0, r0⟩ := trodAll_cons hA
  obtain ⟨v1, vs1, d1, ds1, p1, q1, rfl, rfl, rfl, h1, r1⟩ := trodAll_cons r0
  obtain ⟨v2, vs2, d2, ds2, p2, q2, rfl, rfl, rfl, h2, r2⟩ := trodAll_cons r1
  obtain ⟨rfl, rfl, rfl⟩ := trodAll_nil r2
  obtain rfl : args = #[v0, v1, v2] := by cases args; simp_all
  obtain ⟨rfl, rfl⟩ := trodVars_none hV
  have k0 := h0
  have k1 := h1
  have k2 := h2
  have lt0 : ∀ x ∈ p0, x.block < W.heap.size := by obtain ⟨m, hm⟩ := k0; exact DataW.trod_lt m _ _ _ hm
  have lt1 : ∀ x ∈ p1, x.block < W.heap.size := by obtain ⟨m, hm⟩ := k1; exact DataW.trod_lt m _ _ _ hm
  have lt2 : ∀ x ∈ p2, x.block < W.heap.size := by obtain ⟨m, hm⟩ := k2; exact DataW.trod_lt m _ _ _ hm
  obtain ⟨s, rfl, _, _, ws⟩ := open_string Tryd.underlying9 (hval 1 9 v1 rfl rfl) h1
  obtain ⟨t, rfl, _, _, wt⟩ := open_string Tryd.underlying9 (hval 2 9 v2 rfl rfl) h2
  obtain ⟨a0, len0, cap0, rfl⟩ := okWide_slice Tryd.underlying46 (hval 0 46 v0 rfl rfl)
  obtain ⟨z, w1, w2⟩ : ∃ z, len0 ≤ maxLen ∧ DsAt W a0 len0 z := by
    obtain ⟨fuel, hf⟩ := h0
    exact dsAt_of (cap := cap0) (by simpa [Value.cells] using hf)
  clear hA0 hval0
  refine (adds_walk a0 len0 cap0 z s t W ws wt w1 (env_of_laid hL) w2).mono fun e W' ⟨he, bel⟩ => ?_
  subst he
  exact ⟨_, rfl, _, _, _, [], _, [], hW', trodAll_mk1 (shut_bool Tryd.underlying4 _), (trodAll_cons_mk (Below.trod register_laidOut (by kernel_rfl) (of_decide_eq_true (by kernel_rfl)) k0 bel lt0) (trodAll_cons_mk (Below.trod register_laidOut (by kernel_rfl) (of_decide_eq_true (by kernel_rfl)) k1 bel lt1) (trodAll_cons_mk (Below.trod register_laidOut (by kernel_rfl) (of_decide_eq_true (by kernel_rfl)) k2 bel lt2) trodAll_mk0))), rfl, bel.frame _, fun h => by cases h⟩
theorem registerAdds_over : Rows.registerAddsRow.holds Tryd.pinned (OpenSpec.ofChange Rows.registerAddsSpec) :=
  OpenClaim.holds_of_wide 4 Tryd.f4 rfl rfl rfl rfl rfl rfl rfl ⟨rfl, rfl, rfl, rfl, rfl⟩ rfl rfl rfl rfl rfl (by kernel_rfl) Tryd.func4 (by kernel_rfl)
    (of_decide_eq_true (by kernel_rfl)) (by unfold Func.isWrapper; first | (rw [if_pos (by decide +kernel)]; kernel_rfl) | (rw [if_neg (by decide +kernel)]; exact ⟨rfl, rfl⟩))
    (fun os started H enc _ => registerAdds_lifted os started H enc)
theorem registerAdds_holds0 : Rows.RegisterAddsSaid := registerAdds_over
/-- The statement: the card. -/
theorem registerAdds_holds : Rows.RegisterAddsCardSaid :=
  Claim7.holds_tied_plain_at .later [] [.data, .data, .data, .sentinel, .sentinel] true (true, "56d32291db3538ecf0102108b623b398657d5c06f30032ca93fc133b4f67e7e0") true
    registerAdds_holds0 (fun _ h => by cases h) (by kernel_rfl) (fun _ h => by cases h) registerAdds_row_tie rfl ⟨rfl, rfl⟩ (by kernel_rfl) rfl
    (fun f fn hf hfn => by
      obtain rfl : f = 4 := Option.some.inj ((show Tryd.prog.funcNamed "talaria/talarialaw04.RegisterAdds" = some 4 by kernel_rfl).symm.trans hf) |>.symm
      obtain rfl : fn = Tryd.f4 := (Option.some.inj (Tryd.func4.symm.trans hfn)).symm
      exact ⟨by kernel_rfl, fun j t ht => by
        rw [Tryd.params4] at ht
        have h3 : t = 46 ∨ t = 9 := by
          rcases j with _ | j
          · exact .inl (by simpa using ht.symm)
          · rcases j with _ | j
            · exact .inr (by simpa using ht.symm)
            · rcases j with _ | j
              · exact .inr (by simpa using ht.symm)
              · simp at ht
        rcases h3 with rfl | rfl
        · exact (show Tryd.prog.wantsStandIn 46 = false by kernel_rfl)
        · exact (show Tryd.prog.wantsStandIn 9 = false by kernel_rfl)⟩)
    (by kernel_rfl)
#print axioms registerAdds_holds
end Go.Proofs.YtegjgdiollafkaaDoor
