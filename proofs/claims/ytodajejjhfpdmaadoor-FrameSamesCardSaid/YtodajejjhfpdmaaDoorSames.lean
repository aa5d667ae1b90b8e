/-
  The law FrameSames returns true: a frame is the same as itself, it is the same as another one just if all their fields are equal, and being the same goes both ways.
  Conditions: the program's table of the fields of each kind holds what the program's text lays (the card ties it); else none: whatever the arguments that the types allow, the call returns true and leaves its arguments as they were.
-/
import Derived.Test.YtodajejjhfpdmaaDoorFrsG
import Derived.Test.YtodajejjhfpdmaaDoorFrlK
import Derived.Test.YtodajejjhfpdmaaDoorFrlO
import Derived.Test.YtodajejjhfpdmaaDoorRows
import Derived.ProofKit
import Derived.OpenShut
import Derived.ShutString
import Derived.ChangeOld
import Derived.Below
import Derived.Deep.Slices
import Derived.Lib.SmallJoins
import Derived.LaidLaws
import Derived.Lib.LaidTab
import Derived.SizedLaws
import Derived.Test.YtodajejjhfpdmaaDoorTie
import Derived.Test.YtodajejjhfpdmaaDoorCards
import Derived.SevenTiedAt
namespace Go.Proofs.YtodajejjhfpdmaaDoor
open Go.RowKit Go.Instr Go.ChangeShapes Go.WideShapes Go.ChangeAt
open Go.ChangeMaps (open_string shut_string)
set_option maxHeartbeats 4000000 in
set_option maxRecDepth 100000 in
theorem frameSames_lifted (os : Os) (started : os.Started) (H : Type) (enc : TypeId × Value → H) :
    ReturnsInHanded {} Tryd.checked os 5 .any (fun w args => (Rows.frameSamesSpec.pre enc Tryd.prog Tryd.f5 Rows.frameSamesRow.domain false w args ∧ laidMet Tryd.prog Rows.frameSamesRow.laid w) ∧ sizedMet enc Tryd.prog Tryd.f5 (OpenSpec.ofChange Rows.frameSamesSpec) false w args)
      (Rows.frameSamesSpec.post enc Tryd.prog Tryd.f5 false true false false) := by
  refine returnsInHanded_of_change_and (C := Tryd.checked) (X := fun w _ => laidMet Tryd.prog Rows.frameSamesRow.laid w) (fun _ _ _ hh h => h.of_heap hh) frame_own started (by kernel_rfl) Tryd.func5
    (ChangeSpec.witness_at (enc := enc) (C := Tryd.checked) (os := os) (X := fun w _ => laidMet Tryd.prog Rows.frameSamesRow.laid w) false (laidWorld os) #[.agg z34, .agg z34, .int .u8 0] 8 rfl (by kernel_rfl) (by kernel_rfl) (by kernel_rfl) (by kernel_rfl) (by kernel_rfl) (laidWorld_met os _)) ?_
  intro W base args ds gs before hval0 hW _ _ hL _
  have hval : ∀ (j : Nat) t v, Tryd.f5.params[j]? = some t → args[j]? = some v → Value.okWide Tryd.prog W .any base t v := hval0
  have hW' := hW
  obtain ⟨p, q, hA0, hV, rfl, hfz, hnd⟩ := hW
  have hA : DataW.TrodAll enc Tryd.prog W 0 (fun _ => true) true Tryd.f5.params.toList args.toList ds p := hA0
  rw [Tryd.params5] at hA hval
  obtain ⟨v0, vs0, d0, ds0, p0, q0, hargs, rfl, rfl, h0, r0⟩ := trodAll_cons hA
  obtain ⟨v1, vs1, d1, ds1, p1, q1, rfl, rfl, rfl, h1, r1⟩ := trodAll_cons r0
  obtain ⟨v2, vs2, d2, ds2, p2, q2, rfl, rfl, rfl, h2, r2⟩ := trodAll_cons r1
  obtain ⟨rfl, rfl, rfl⟩ := trodAll_nil r2
  obtain rfl : args = #[v0, v1, v2] := by cases args; simp_all
  obtain ⟨rfl, rfl⟩ := trodVars_none hV
  have k0 := h0
  have lt0 : ∀ x ∈ p0, x.block < W.heap.size := by obtain ⟨m, hm⟩ := k0; exact DataW.trod_lt m _ _ _ hm
  have k1 := h1
  have lt1 : ∀ x ∈ p1, x.block < W.heap.size := by obtain ⟨m, hm⟩ := k1; exact DataW.trod_lt m _ _ _ hm
  have k2 := h2
  have lt2 : ∀ x ∈ p2, x.block < W.heap.size := by obtain ⟨m, hm⟩ := k2; exact DataW.trod_lt m _ _ _ hm
  obtain ⟨cs0, rfl, _⟩ := okWide_struct Tryd.underlying29 (hval 0 29 v0 rfl rfl)
  obtain ⟨x0, a0, b0, n0, m0, k01, k02, hcs0, hf0, e01, e02, l01, l02, ht0, hm0, he0⟩ := open_frame h0.choose_spec
  obtain rfl : cs0 = frC x0 (.slice a0 n0 k01) (.slice b0 m0 k02) := Array.toList_inj.1 hcs0
  obtain ⟨cs1, rfl, _⟩ := okWide_struct Tryd.underlying29 (hval 1 29 v1 rfl rfl)
  obtain ⟨x1, a1, b1, n1, m1, k11, k12, hcs1, hf1, e11, e12, l11, l12, ht1, hm1, he1⟩ := open_frame h1.choose_spec
  obtain rfl : cs1 = frC x1 (.slice a1 n1 k11) (.slice b1 m1 k12) := Array.toList_inj.1 hcs1
  obtain ⟨fuel2, g2⟩ := h2
  obtain ⟨u2, rfl⟩ := okWide_int Tryd.underlying5 (hval 2 5 v2 rfl rfl)
  obtain ⟨z2, ez2, _, wz2⟩ := DataW.trod_int Tryd.underlying5 g2
  obtain rfl : u2 = z2 := by simpa [Value.cells] using ez2
  obtain ⟨y2, rfl, bz2⟩ := nat_u8 wz2
  clear hA0 hval0
  refine (sames_any x0 x1 a0 b0 a1 b1 n0 m0 k01 k02 n1 m1 k11 k12 y2 W (env_of_laid hL) bz2 e01 e02 hm0 he0 l01 l02 e11 e12 hm1 he1 l11 l12).mono fun e W' ⟨he, bel⟩ => ?_
  subst he
  exact ⟨_, rfl, _, _, _, [], _, [], hW', trodAll_mk1 (shut_bool Tryd.underlying4 _), (trodAll_cons_mk (Below.trod frame_laidOut (by kernel_rfl) (of_decide_eq_true (by kernel_rfl)) k0 bel lt0) (trodAll_cons_mk (Below.trod frame_laidOut (by kernel_rfl) (of_decide_eq_true (by kernel_rfl)) k1 bel lt1) (trodAll_cons_mk (Below.trod frame_laidOut (by kernel_rfl) (of_decide_eq_true (by kernel_rfl)) k2 bel lt2) trodAll_mk0))), rfl, bel.frame _, fun h => by cases h⟩
theorem frameSames_over : Rows.frameSamesRow.holds Tryd.pinned (OpenSpec.ofChange Rows.frameSamesSpec) :=
  OpenClaim.holds_of_wide 5 Tryd.f5 rfl rfl rfl rfl rfl rfl rfl ⟨rfl, rfl, rfl, rfl, rfl⟩ rfl rfl rfl rfl rfl (by kernel_rfl) Tryd.func5 (by kernel_rfl)
    (of_decide_eq_true (by kernel_rfl)) (by unfold Func.isWrapper; first | (rw [if_pos (by decide +kernel)]; kernel_rfl) | (rw [if_neg (by decide +kernel)]; exact ⟨rfl, rfl⟩))
    (fun os started H enc _ => frameSames_lifted os started H enc)
theorem frameSames_holds0 : Rows.FrameSamesSaid := frameSames_over
/-- The statement: the card. -/
theorem frameSames_holds : Rows.FrameSamesCardSaid :=
  Claim7.holds_tied_plain_at .later [] [.data] true (true, "7ed13fc011df5ef10bea253c36d7aca96492c31ec3e98f1f59ae9d290bafd484") false
    frameSames_holds0 (fun _ h => by cases h) (by kernel_rfl) (fun _ h => by cases h) frameSames_row_tie rfl ⟨rfl, rfl⟩ (by kernel_rfl) rfl
    (fun f fn hf hfn => by
      obtain rfl : f = 5 := Option.some.inj ((show Tryd.prog.funcNamed "talaria/talarialaw06.FrameSames" = some 5 by kernel_rfl).symm.trans hf) |>.symm
      obtain rfl : fn = Tryd.f5 := (Option.some.inj (Tryd.func5.symm.trans hfn)).symm
      exact ⟨by kernel_rfl, fun j t ht => by
        rw [Tryd.params5] at ht
        rcases j with _ | j
        · obtain rfl := Option.some.inj ht
          exact (show Tryd.prog.wantsStandIn 29 = false by kernel_rfl)
        rcases j with _ | j
        · obtain rfl := Option.some.inj ht
          exact (show Tryd.prog.wantsStandIn 29 = false by kernel_rfl)
        rcases j with _ | j
        · obtain rfl := Option.some.inj ht
          exact (show Tryd.prog.wantsStandIn 5 = false by kernel_rfl)
        simp at ht⟩)
    (by kernel_rfl)
#print axioms frameSames_holds
end Go.Proofs.YtodajejjhfpdmaaDoor
