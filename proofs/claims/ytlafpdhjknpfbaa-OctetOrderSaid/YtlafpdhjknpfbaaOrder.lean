/-
  The law OctetOrder returns true: numbers of the same size are ordered as their encodings are, and each encoding has that size.
  Conditions: none: whatever the arguments that the types allow, the call returns true and leaves its arguments as they were.
-/
import Derived.Test.YtlafpdhjknpfbaaOctS
import Derived.Test.YtlafpdhjknpfbaaRows
import Derived.ProofKit
import Derived.OpenShut
import Derived.ShutString
namespace Go.Proofs.Ytlafpdhjknpfbaa
open Go.RowKit Go.Instr Go.ChangeShapes Go.WideShapes Go.ChangeAt
open Go.ChangeMaps (open_string shut_string)

theorem and7 (z : Int) : ∃ m : Nat, bits BinOp.and IntKind.i64 z 7 = (m : Int) ∧ m ≤ 7 := by
  have h7 : (BitVec.ofInt 64 z &&& BitVec.ofInt 64 7).toNat ≤ 7 := by
    rw [BitVec.toNat_and]
    exact Nat.and_le_right
  refine ⟨(BitVec.ofInt 64 z &&& BitVec.ofInt 64 7).toNat, ?_, h7⟩
  show IntKind.i64.wrap (((BitVec.ofInt 64 z &&& BitVec.ofInt 64 7).toNat : Nat) : Int) = _
  exact IntWalk.i64_in _ (by omega)
theorem beN_succ (x n : Nat) : beN x (n + 1) = UInt8.ofNat (x / 256 ^ n) :: beN x n := by
  unfold beN
  rw [List.range_succ_eq_map, List.map_cons, List.map_map]
  congr 1
  apply List.map_congr_left
  intro i hi
  simp only [Function.comp]
  rw [show n + 1 - 1 - (i + 1) = n - 1 - i by omega]
theorem beN_mod (x n : Nat) : beN x n = beN (x % 256 ^ n) n := by
  unfold beN
  apply List.map_congr_left
  intro i hi
  have hin : i < n := List.mem_range.1 hi
  apply UInt8.toNat_inj.1
  rw [UInt8.toNat_ofNat', UInt8.toNat_ofNat']
  have e : 256 ^ n = 256 ^ (n - 1 - i) * 256 ^ (i + 1) := by rw [← Nat.pow_add]; congr 1; omega
  rw [e, Nat.mod_mul_right_div_self]
  have h : ∀ q : Nat, q % 256 = q % 256 ^ (i + 1) % 256 := fun q => by rw [show 256 ^ (i + 1) = 256 * 256 ^ i by rw [Nat.pow_succ, Nat.mul_comm], Nat.mod_mul_right_mod]
  exact h _
theorem beN_less (n : Nat) : ∀ x y : Nat, x < 256 ^ n → y < 256 ^ n → Op.bytesLess (beN x n) (beN y n) = decide (x < y) ∧ (beN x n = beN y n ↔ x = y) := by
  induction n with
  | zero =>
    intro x y hx hy
    have e1 : x = 0 := by simpa using hx
    have e2 : y = 0 := by simpa using hy
    subst e1; subst e2
    exact ⟨rfl, by simp⟩
  | succ n ih =>
    intro x y hx hy
    have hp : 0 < 256 ^ n := Nat.pow_pos (by decide)
    have hpx : 256 ^ n * (x / 256 ^ n) + x % 256 ^ n = x := Nat.div_add_mod x (256 ^ n)
    have hpy : 256 ^ n * (y / 256 ^ n) + y % 256 ^ n = y := Nat.div_add_mod y (256 ^ n)
    have hx8 : x / 256 ^ n < 256 := Nat.div_lt_of_lt_mul (by rw [Nat.pow_succ] at hx; exact hx)
    have hy8 : y / 256 ^ n < 256 := Nat.div_lt_of_lt_mul (by rw [Nat.pow_succ] at hy; exact hy)
    have hxm := Nat.mod_lt x hp
    have hym := Nat.mod_lt y hp
    obtain ⟨h1, h2⟩ := ih (x % 256 ^ n) (y % 256 ^ n) hxm hym
    rw [← beN_mod, ← beN_mod] at h1 h2
    obtain ⟨P, hP⟩ : ∃ P, P = 256 ^ n := ⟨_, rfl⟩
    rw [beN_succ, beN_succ, Op.bytesLess, h1]
    rw [← hP] at hpx hpy hx8 hy8 hxm hym hp ⊢
    rw [← hP] at h2
    obtain ⟨u, hu⟩ : ∃ u, u = x / P := ⟨_, rfl⟩
    obtain ⟨v, hv⟩ : ∃ v, v = y / P := ⟨_, rfl⟩
    rw [← hu] at hpx hx8 ⊢
    rw [← hv] at hpy hy8 ⊢
    have hul : (UInt8.ofNat u < UInt8.ofNat v) ↔ u < v := by
      rw [UInt8.lt_iff_toNat_lt, UInt8.toNat_ofNat', UInt8.toNat_ofNat', Nat.mod_eq_of_lt hx8, Nat.mod_eq_of_lt hy8]
    have hue : (UInt8.ofNat u = UInt8.ofNat v) ↔ u = v := by
      rw [← UInt8.toNat_inj, UInt8.toNat_ofNat', UInt8.toNat_ofNat', Nat.mod_eq_of_lt hx8, Nat.mod_eq_of_lt hy8]
    have hb : (UInt8.ofNat u == UInt8.ofNat v) = decide (u = v) := by rw [Bool.eq_iff_iff, beq_iff_eq, decide_eq_true_iff]; exact hue
    rcases Nat.lt_trichotomy u v with h | h | h
    · have hxy : x < y := by
        have : P * u + P ≤ P * v := by rw [← Nat.mul_succ]; exact Nat.mul_le_mul_left _ h
        omega
      refine ⟨?_, ?_⟩
      · rw [decide_eq_true (hul.2 h), decide_eq_true hxy, Bool.true_or]
      · constructor
        · intro he
          have := (List.cons.inj he).1
          have := hue.1 this
          omega
        · intro he; omega
    · subst h
      refine ⟨?_, ?_⟩
      · rw [hb, decide_eq_true rfl, decide_eq_false (by rw [hul]; omega), Bool.false_or, Bool.true_and, decide_eq_decide]
        omega
      · constructor
        · intro he
          have := h2.1 (List.cons.inj he).2
          omega
        · intro he
          rw [(h2.2 (by omega))]
    · have hxy : y < x := by
        have : P * v + P ≤ P * u := by rw [← Nat.mul_succ]; exact Nat.mul_le_mul_left _ h
        omega
      refine ⟨?_, ?_⟩
      · rw [hb, decide_eq_false (by rw [hul]; omega), decide_eq_false (by omega : ¬ u = v), decide_eq_false (by omega : ¬ x < y)]
        rfl
      · constructor
        · intro he
          have := (List.cons.inj he).1
          have := hue.1 this
          omega
        · intro he; omega
def oneS (x n : Nat) : ByteArray := ⟨(beN x n).toArray⟩
theorem oneS_size (x n : Nat) : (oneS x n).size = n := by
  have := beN_len x n
  show (beN x n).toArray.size = n
  simpa using this
theorem join_one (x m k : Nat) (w : World) (hm : m ≤ 7) (hx : x < 256 ^ (1 + m)) (hk : k = w.heap.size) : Calls Try.prog 12 #[.slice (some ⟨k, 0, none⟩) 1 1] (w.alloc (.cells #[.int .i64 1, .int .u64 x, .int .i64 (1 + (m : Int)), .string ⟨#[]⟩] 30)) fun e w' => e = .returned (.tuple #[.string (oneS x (1 + m)), .int .i64 0]) ∧ Below w.heap.size w w' := by
  subst hk
  have hn : (1 + (m : Int)).toNat = 1 + m := by omega
  have hc : chk ⟨1, x, 1 + (m : Int), ⟨#[]⟩⟩ = 0 := by
    have h1 : sizedB (1 + (m : Int)) = true := by simp [sizedB]; omega
    have h2 : fitsB x (1 + m) = true := decide_eq_true hx
    simp only [chk, hn, h1, h2]
    rfl
  have hE : joinE [⟨1, x, 1 + (m : Int), ⟨#[]⟩⟩] = 0 := by simp [joinE, hc]
  have hS : joinS [⟨1, x, 1 + (m : Int), ⟨#[]⟩⟩] = oneS x (1 + m) := by
    rw [joinS, if_pos hE]
    simp [encs, enc, hn, oneS]
  refine (join_any _ [⟨1, x, 1 + (m : Int), ⟨#[]⟩⟩] _ (by simp) ?_ (.inr ⟨w.heap.size, 0, 1, rfl, ?_⟩)).mono fun _ _ ⟨h1, h2⟩ => ⟨h1.trans (oEnd2 hS hE), ((Below.refl _ _).alloc (Nat.le_refl _) _).trans (h2.mono (by simp))⟩
  · intro p hp
    simp only [List.mem_cons, List.not_mem_nil, or_false] at hp
    subst hp
    exact ⟨by simp, Nat.zero_le _⟩
  · intro i h
    match i, h with
    | 0, _ => simp
theorem oneS_less (x y n : Nat) (hx : x < 256 ^ n) (hy : y < 256 ^ n) : Op.bytesLess (oneS x n).toList (oneS y n).toList = decide ((x : Int) < (y : Int)) ∧ ((oneS x n).toList == (oneS y n).toList) = ((x : Int) == (y : Int)) := by
  obtain ⟨h1, h2⟩ := beN_less n x y hx hy
  rw [ByteArray.toList_eq, ByteArray.toList_eq]
  refine ⟨?_, ?_⟩
  · refine h1.trans ?_
    rw [decide_eq_decide]; omega
  · rw [Bool.eq_iff_iff, beq_iff_eq, beq_iff_eq]
    show beN x n = beN y n ↔ _
    rw [h2]; omega
theorem cut_num (a m : Nat) (hm : m ≤ 7) (ha : a ≤ 18446744073709551615) : a / 2 ^ (64 - 8 * (1 + m)) < 256 ^ (1 + m) := by
  apply Nat.div_lt_of_lt_mul
  rw [show (256 : Nat) = 2 ^ 8 from rfl, ← Nat.pow_mul, ← Nat.pow_add, show 64 - 8 * (1 + m) + 8 * (1 + m) = 64 by omega]
  exact Nat.lt_of_le_of_lt ha (by decide)
set_option maxHeartbeats 400000 in
theorem order_walk (a b : Nat) (z : Int) (w : World) (ha : a ≤ 18446744073709551615) (hb : b ≤ 18446744073709551615) :
    Calls Try.prog 5 #[.int .u64 a, .int .u64 b, .int .i64 z] w fun e w' => e = .returned (.bool true) ∧ Below w.heap.size w w' := by
  obtain ⟨m, hm, hm7⟩ := and7 z
  have HAL := Lib.hid (cut_num a m hm7 ha)
  have HBL := Lib.hid (cut_num b m hm7 hb)
  have hda : ((a : Int) / 2 ^ (64 - 8 * (1 + m))) = ((a / 2 ^ (64 - 8 * (1 + m)) : Nat) : Int) := by rw [Int.natCast_ediv, Int.natCast_pow]; rfl
  have hdb : ((b : Int) / 2 ^ (64 - 8 * (1 + m))) = ((b / 2 ^ (64 - 8 * (1 + m)) : Nat) : Int) := by rw [Int.natCast_ediv, Int.natCast_pow]; rfl
  have HDA := Lib.hid hda
  have HDB := Lib.hid hdb
  clear hda hdb ha hb
  go_enter Try.func5, Try.ntmps5
  go_wp2_with (first | (go_at_call 10; refine (speaks1 _).mono ?_; rintro e w1 ⟨rfl, hB1⟩))
  go_quiet (fail)
  rw [HDA.out, HDB.out]
  generalize a / 2 ^ (64 - 8 * (1 + m)) = x at *
  generalize b / 2 ^ (64 - 8 * (1 + m)) = y at *
  obtain ⟨hlt, heq⟩ := oneS_less x y (1 + m) HAL.out HBL.out
  have hs1 := oneS_size x (1 + m)
  have hs2 := oneS_size y (1 + m)
  have HB1 : Hid (Below w.heap.size w (w1.drewN nq)) := hB1.trans ⟨rfl, rfl, rfl, Nat.le_refl _, fun _ _ => rfl⟩
  clear hm hB1 HDA HDB
  generalize w1.drewN nq = wq at *
  go_wp2_with (first | (go_at_call 21; (with_reducible refine (num_part x _ _).mono ?_); rintro e w2 ⟨rfl, hB2⟩) | (go_at_call 21; (with_reducible refine (num_part y _ _).mono ?_); rintro e w4 ⟨rfl, hB4⟩) | (go_at_call 12; (with_reducible refine (join_one x m _ _ hm7 HAL.out rfl).mono ?_); rintro e w3 ⟨rfl, hB3⟩) | (go_at_call 12; (with_reducible refine (join_one y m _ _ hm7 HBL.out rfl).mono ?_); rintro e w5 ⟨rfl, hB5⟩))
  go_ret
  exact ⟨rfl, o_below_on (o_below_on (o_below_on (o_below_on HB1.out hB2) hB3) hB4) hB5⟩
theorem octetOrder_own : ownKnob Try.prog.godebug = none := by kernel_rfl
set_option maxRecDepth 100000 in
theorem octetOrder_lifted (os : Os) (started : os.Started) (H : Type) (enc : TypeId × Value → H) :
    ReturnsInHanded {} Try.checked os 5 .any (Rows.octetOrderSpec.pre6 enc Try.prog Try.f5 Rows.octetOrderRow.domain false) (Rows.octetOrderSpec.post enc Try.prog Try.f5 false true false false) := by
  refine returnsInHanded_of_change (C := Try.checked) octetOrder_own started (by kernel_rfl) Try.func5
    (ChangeSpec.witness6 (enc := enc) (C := Try.checked) false ⟨#[], #[.int .u64 0, .int .u64 0, .int .i64 0], []⟩ 8 (by kernel_rfl) (by kernel_rfl) (by kernel_rfl) (by kernel_rfl)) ?_
  intro W base args ds gs before hval0 hW hcnd _
  have hval : ∀ (j : Nat) t v, Try.f5.params[j]? = some t → args[j]? = some v → Value.okWide Try.prog W .any base t v := hval0
  have hW' := hW
  obtain ⟨p, q, hA0, hV, rfl, hfz, hnd⟩ := hW
  have hA : DataW.TrodAll enc Try.prog W 0 (fun _ => true) true Try.f5.params.toList args.toList ds p := hA0
  rw [Try.params5] at hA hval
  obtain ⟨v0, vs0, d0, ds0, p0, q0, hargs, rfl, rfl, h0, r0⟩ := trodAll_cons hA
  obtain ⟨v1, vs1, d1, ds1, p1, q1, rfl, rfl, rfl, h1, r1⟩ := trodAll_cons r0
  obtain ⟨v2, vs2, d2, ds2, p2, q2, rfl, rfl, rfl, h2, r2⟩ := trodAll_cons r1
  obtain ⟨rfl, rfl, rfl⟩ := trodAll_nil r2
  obtain rfl : args = #[v0, v1, v2] := by cases args; simp_all
  obtain ⟨rfl, rfl⟩ := trodVars_none hV
  obtain ⟨a0, rfl, rfl, rfl, w0⟩ := open_int Try.underlying26 (hval 0 26 v0 rfl rfl) h0
  obtain ⟨a1, rfl, rfl, rfl, w1⟩ := open_int Try.underlying26 (hval 1 26 v1 rfl rfl) h1
  obtain ⟨a2, rfl, rfl, rfl, w2⟩ := open_int Try.underlying3 (hval 2 3 v2 rfl rfl) h2
  clear hA0 hval0
  simp only [List.append_nil] at hW'
  have b0 := bounds_u64 w0
  have b1 := bounds_u64 w1
  obtain ⟨x, rfl⟩ := Int.eq_ofNat_of_zero_le b0.1
  obtain ⟨y, rfl⟩ := Int.eq_ofNat_of_zero_le b1.1
  refine (order_walk x y a2 W (by omega) (by omega)).mono fun e W' ⟨he, bel⟩ => ?_
  subst he
  exact ⟨_, rfl, _, _, _, [], [], [], hW', trodAll_mk1 (shut_bool Try.underlying4 _), (trodAll_cons_mk (shut_int Try.underlying26 w0) (trodAll_cons_mk (shut_int Try.underlying26 w1) (trodAll_cons_mk (shut_int Try.underlying3 w2) trodAll_mk0))), rfl, bel.frame _, fun h => by cases h⟩

theorem octetOrder_over : Rows.octetOrderRow.holds Try.pinned (OpenSpec.ofChange Rows.octetOrderSpec) :=
  OpenClaim.holds_of_wide 5 Try.f5 rfl rfl rfl rfl rfl rfl rfl ⟨rfl, rfl, rfl, rfl, rfl⟩ rfl rfl rfl rfl rfl (by kernel_rfl) Try.func5 (by kernel_rfl)
    (of_decide_eq_true (by kernel_rfl)) (by unfold Func.isWrapper; first | (rw [if_pos (by decide +kernel)]; kernel_rfl) | (rw [if_neg (by decide +kernel)]; exact ⟨rfl, rfl⟩))
    (fun os started H enc _ => octetOrder_lifted os started H enc)

/-- The statement. -/
theorem octetOrder_holds : Rows.OctetOrderSaid := octetOrder_over
#print axioms octetOrder_holds
end Go.Proofs.Ytlafpdhjknpfbaa
