/-
  The law CrcBursts returns true: a sealed text of which bits within 32 side by side are turned is not opened; without any it is as it was.
  Conditions: none: whatever the arguments that the types allow, the call returns true and leaves its arguments as they were.
-/
import Derived.Test.YtlafpdhjknpfbaaCrcS
import Derived.Test.YtlafpdhjknpfbaaRows
import Derived.ProofKit
import Derived.OpenShut
import Derived.ShutString
namespace Go.Proofs.Ytlafpdhjknpfbaa
open Go.RowKit Go.Instr Go.ChangeShapes Go.WideShapes Go.ChangeAt
open Go.ChangeMaps (open_string shut_string)

theorem turn_open (t : ByteArray) (a : Int) (x : Nat) (hx : x < 4294967296) (hne : turnB (t ++ sealB t) a x ≠ t ++ sealB t) :
    openT (turnB (t ++ sealB t) a x) = ByteArray.empty ∧ openE (turnB (t ++ sealB t) a x) = 5 := by
  have hsz : (turnB (t ++ sealB t) a x).size = t.size + 4 := by rw [turnB_size, ByteArray.size_append, sealB_size]
  have hno : ¬ sealB ((turnB (t ++ sealB t) a x).extract 0 ((turnB (t ++ sealB t) a x).size - 4)) = (turnB (t ++ sealB t) a x).extract ((turnB (t ++ sealB t) a x).size - 4) (turnB (t ++ sealB t) a x).size := by
    intro h
    apply hne
    apply Go.WideShapes.bytes_inj
    have hd := congrArg (fun b : ByteArray => b.data.toList) h
    simp only [sealB_data] at hd
    rw [Lib.extract_data, Lib.extract_data] at hd
    simp only [List.drop_zero, Nat.sub_zero] at hd
    have hl : (turnB (t ++ sealB t) a x).data.toList.length = (turnB (t ++ sealB t) a x).size := rfl
    rw [List.take_of_length_le (l := (turnB (t ++ sealB t) a x).data.toList.drop _) (by rw [List.length_drop, hl]; exact Nat.le_refl _)] at hd
    have hz : (t ++ sealB t).data.toList = t.data.toList ++ sum4 (crcN t.data.toList) := by rw [ByteArray.data_append, Array.toList_append, sealB_data]
    have hy : (turnB (t ++ sealB t) a x).data.toList = turnK (t.data.toList ++ sum4 (crcN t.data.toList)) a x 32 := by rw [← hz]; rfl
    have key := seal_turn t.data.toList a x hx _ _ (hy.symm.trans (List.take_append_drop ((turnB (t ++ sealB t) a x).size - 4) _).symm) hd.symm
    rw [List.take_append_drop] at key
    rw [key, hz]
  have h4 : 4 ≤ (turnB (t ++ sealB t) a x).size := by omega
  unfold openT openE
  rw [if_pos h4, if_pos h4, if_neg hno, if_neg hno]
  exact ⟨rfl, rfl⟩
theorem Turn_same (t : ByteArray) (a : Int) (x : Nat) (w : World) (hs : t.size ≤ 200) (h1 : -9223372036854775808 ≤ a) (h2 : a ≤ 9223372036854775807) (hx : x < 4294967296) (he : turnB (t ++ sealB t) a x = t ++ sealB t) :
    Calls Try.prog 28 #[.string (t ++ sealB t), .int .i64 a, .int .u32 x] w fun e w' => e = .returned (.string (t ++ sealB t)) ∧ Below w.heap.size w w' :=
  (Turn_any _ a x w (by rw [ByteArray.size_append, sealB_size]; omega) h1 h2 hx).mono fun e w' ⟨e1, e2⟩ => ⟨e1.trans (endStr he), e2⟩
theorem Open_turned (t : ByteArray) (a : Int) (x : Nat) (w : World) (hs : t.size ≤ 200) (hx : x < 4294967296) (hne : turnB (t ++ sealB t) a x ≠ t ++ sealB t) :
    Calls Try.prog 27 #[.string (turnB (t ++ sealB t) a x)] w fun e w' => e = .returned (.tuple #[.string ByteArray.empty, .int .i64 5]) ∧ Below w.heap.size w w' :=
  (Open_any _ w (by rw [turnB_size, ByteArray.size_append, sealB_size]; omega)).mono fun e w' ⟨h1, h2⟩ => ⟨h1.trans (ret2 (turn_open t a x hx hne).1 (turn_open t a x hx hne).2), h2⟩
attribute [local irreducible] turnB sealB
set_option maxHeartbeats 400000 in
theorem bursts_cut (s t : ByteArray) (a : Int) (x : Nat) (w : World) (h0 : s.size ≤ maxLen) (h1 : -9223372036854775808 ≤ a) (h2 : a ≤ 9223372036854775807) (hx : x < 4294967296)
    (ht : t.size ≤ 200) (hcut : (s.size ≤ 200 ∧ t = s) ∨ (200 < s.size ∧ t = s.extract 0 200)) :
    Calls Try.prog 8 #[.string s, .int .i64 a, .int .u32 x] w fun e w' => e = .returned (.bool true) ∧ Below w.heap.size w w' := by
  unfold maxLen at h0
  by_cases he : turnB (t ++ sealB t) a x = t ++ sealB t
  · have HE := Lib.hid he
    clear he
    rcases hcut with ⟨hc, rfl⟩ | ⟨hc, rfl⟩
    all_goals
      go_enter Try.func8, Try.ntmps8
      go_wp2_with (first | (go_at_call 22; refine (speaks2 _).mono ?_; rintro e w1 ⟨rfl, hB1⟩) | (go_at_call 25; refine (Seal_any _ _ (by omega)).mono ?_; rintro e w2 ⟨rfl, hB2⟩) | (go_at_call 28; (with_reducible refine (Turn_same _ _ _ _ ht h1 h2 hx HE.out).mono ?_); rintro e w3 ⟨rfl, hB3⟩) | (go_at_call 27; (with_reducible refine (Open_seal _ _ (by omega)).mono ?_); rintro e w4 ⟨rfl, hB4⟩))
      go_ret
      exact ⟨rfl, below_on (below_on (below_on hB1 hB2) hB3) hB4⟩
  · have hq : ((t ++ sealB t).toList == (turnB (t ++ sealB t) a x).toList) = false := by rw [beq_bytes]; exact decide_eq_false (fun h => he h.symm)
    have HE := Lib.hid he
    clear he
    rcases hcut with ⟨hc, rfl⟩ | ⟨hc, rfl⟩
    all_goals
      go_enter Try.func8, Try.ntmps8
      go_wp2_with (first | (go_at_call 22; refine (speaks2 _).mono ?_; rintro e w1 ⟨rfl, hB1⟩) | (go_at_call 25; refine (Seal_any _ _ (by omega)).mono ?_; rintro e w2 ⟨rfl, hB2⟩) | (go_at_call 28; (with_reducible refine (Turn_any _ _ _ _ (by rw [ByteArray.size_append, sealB_size]; omega) h1 h2 hx).mono ?_); rintro e w3 ⟨rfl, hB3⟩) | (go_at_call 27; (with_reducible refine (Open_turned _ _ _ _ ht hx HE.out).mono ?_); rintro e w4 ⟨rfl, hB4⟩))
      go_ret
      exact ⟨rfl, below_on (below_on (below_on hB1 hB2) hB3) hB4⟩
theorem bursts_walk (s : ByteArray) (a : Int) (x : Nat) (w : World) (h0 : s.size ≤ maxLen) (h1 : -9223372036854775808 ≤ a) (h2 : a ≤ 9223372036854775807) (hx : x < 4294967296) :
    Calls Try.prog 8 #[.string s, .int .i64 a, .int .u32 x] w fun e w' => e = .returned (.bool true) ∧ Below w.heap.size w w' := by
  by_cases h : s.size ≤ 200
  · exact bursts_cut s s a x w h0 h1 h2 hx h (.inl ⟨h, rfl⟩)
  · exact bursts_cut s (s.extract 0 200) a x w h0 h1 h2 hx (by simp; omega) (.inr ⟨by omega, rfl⟩)

theorem crcBursts_own : ownKnob Try.prog.godebug = none := by kernel_rfl
set_option maxRecDepth 100000 in
theorem crcBursts_lifted (os : Os) (started : os.Started) (H : Type) (enc : TypeId × Value → H) :
    ReturnsInHanded {} Try.checked os 8 .any (Rows.crcBurstsSpec.pre6 enc Try.prog Try.f8 Rows.crcBurstsRow.domain false) (Rows.crcBurstsSpec.post enc Try.prog Try.f8 false true false false) := by
  refine returnsInHanded_of_change (C := Try.checked) crcBursts_own started (by kernel_rfl) Try.func8
    (ChangeSpec.witness6 (enc := enc) (C := Try.checked) false ⟨#[], #[.string ByteArray.empty, .int .i64 0, .int .u32 0], []⟩ 8 (by kernel_rfl) (by kernel_rfl) (by kernel_rfl) (by kernel_rfl)) ?_
  intro W base args ds gs before hval0 hW hcnd _
  have hval : ∀ (j : Nat) t v, Try.f8.params[j]? = some t → args[j]? = some v → Value.okWide Try.prog W .any base t v := hval0
  have hW' := hW
  obtain ⟨p, q, hA0, hV, rfl, hfz, hnd⟩ := hW
  have hA : DataW.TrodAll enc Try.prog W 0 (fun _ => true) true Try.f8.params.toList args.toList ds p := hA0
  rw [Try.params8] at hA hval
  obtain ⟨v0, vs0, d0, ds0, p0, q0, hargs, rfl, rfl, h0, r0⟩ := trodAll_cons hA
  obtain ⟨v1, vs1, d1, ds1, p1, q1, rfl, rfl, rfl, h1, r1⟩ := trodAll_cons r0
  obtain ⟨v2, vs2, d2, ds2, p2, q2, rfl, rfl, rfl, h2, r2⟩ := trodAll_cons r1
  obtain ⟨rfl, rfl, rfl⟩ := trodAll_nil r2
  obtain rfl : args = #[v0, v1, v2] := by cases args; simp_all
  obtain ⟨rfl, rfl⟩ := trodVars_none hV
  obtain ⟨a0, rfl, rfl, rfl, w0⟩ := open_string Try.underlying9 (hval 0 9 v0 rfl rfl) h0
  obtain ⟨a1, rfl, rfl, rfl, w1⟩ := open_int Try.underlying3 (hval 1 3 v1 rfl rfl) h1
  obtain ⟨a2, rfl, rfl, rfl, w2⟩ := open_int Try.underlying53 (hval 2 53 v2 rfl rfl) h2
  clear hA0 hval0
  simp only [List.append_nil] at hW'
  have b1 := bounds_i64 w1
  have b2 := bounds_u32 w2
  obtain ⟨x, rfl⟩ := Int.eq_ofNat_of_zero_le b2.1
  refine (bursts_walk a0 a1 x W w0 b1.1 b1.2 (by omega)).mono fun e W' ⟨he, bel⟩ => ?_
  subst he
  exact ⟨_, rfl, _, _, _, [], [], [], hW', trodAll_mk1 (shut_bool Try.underlying4 _), (trodAll_cons_mk (shut_string Try.underlying9 w0) (trodAll_cons_mk (shut_int Try.underlying3 w1) (trodAll_cons_mk (shut_int Try.underlying53 w2) trodAll_mk0))), rfl, bel.frame _, fun h => by cases h⟩

theorem crcBursts_over : Rows.crcBurstsRow.holds Try.pinned (OpenSpec.ofChange Rows.crcBurstsSpec) :=
  OpenClaim.holds_of_wide 8 Try.f8 rfl rfl rfl rfl rfl rfl rfl ⟨rfl, rfl, rfl, rfl, rfl⟩ rfl rfl rfl rfl rfl (by kernel_rfl) Try.func8 (by kernel_rfl)
    (of_decide_eq_true (by kernel_rfl)) (by unfold Func.isWrapper; first | (rw [if_pos (by decide +kernel)]; kernel_rfl) | (rw [if_neg (by decide +kernel)]; exact ⟨rfl, rfl⟩))
    (fun os started H enc _ => crcBursts_lifted os started H enc)

/-- The statement. -/
theorem crcBursts_holds : Rows.CrcBurstsSaid := crcBursts_over
#print axioms crcBursts_holds
end Go.Proofs.Ytlafpdhjknpfbaa
