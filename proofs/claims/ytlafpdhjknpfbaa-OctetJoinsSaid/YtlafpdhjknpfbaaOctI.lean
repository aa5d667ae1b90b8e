/-
  The walks of the reference's Fits and Num.
-/
import Derived.Test.YtlafpdhjknpfbaaOctS
namespace Go.Proofs.Ytlafpdhjknpfbaa
open Go.RowKit Go.Instr

theorem oEndBool {a b : Bool} (h : a = b) : Ending.returned (.bool a) = .returned (.bool b) := congrArg (fun n => Ending.returned (.bool n)) h
def fitsZ (n : Nat) (z : Int) : Bool := sizedB z && fitsB n z.toNat
set_option maxHeartbeats 1000000 in
theorem refFits_any (n : Nat) (z : Int) (w : World) (hn : n ≤ 18446744073709551615) :
    Calls Try.prog 34 #[.int .u64 n, .int .i64 z] w fun e w' => e = .returned (.bool (fitsZ n z)) ∧ w = w' := by
  go_enter Try.func34, Try.ntmps34
  go_wp2
  go_loop [0, 5] (fun a i => ∃ k : Nat, k ≤ 8 ∧ (k = 0 ∨ (k : Int) ≤ z) ∧ i = .int .i64 k ∧ a = .int .u64 (n / 256 ^ k : Nat)) (fun _ i => (8 - (intOf i).toNat))
  case atStart => exact ⟨0, by omega, .inl rfl, rfl, by simp⟩
  case round =>
    obtain ⟨k, hk, hkz, rfl, rfl⟩ := hrel
    obtain ⟨x, hx⟩ : ∃ x, x = n / 256 ^ k := ⟨_, rfl⟩
    have hx2 : n / 256 ^ (k + 1) = x / 256 := by rw [hx, Nat.div_div_eq_div_mul, Nat.pow_succ]
    have hxn : x ≤ n := by rw [hx]; exact Nat.div_le_self _ _
    rw [← hx]
    have HX := Lib.hid hx
    have HX2 := Lib.hid hx2
    clear hx hx2
    by_cases hlt : (k : Int) < z ∧ k < 8
    · obtain ⟨hlt1, hlt2⟩ := hlt
      go_wp2
      go_round
      case rel => exact ⟨k + 1, by omega, .inr (by omega), by go_num, by rw [HX2.out]; go_num⟩
      case measure => simp [intOf]; omega
    · have hcase : (z ≤ (k : Int)) ∨ ((k : Int) < z ∧ 8 ≤ k) := by omega
      have HK := Lib.hid hkz
      clear hlt hkz
      rcases hcase with hc | ⟨hc1, hc2⟩
      · by_cases h1 : 1 ≤ z
        · have hkz : (k : Int) = z := by have := HK.out; omega
          subst hkz
          have h8 : (k : Int) ≤ 8 := by omega
          by_cases h0 : x = 0
          · have HE : Hid (fitsZ n (k : Int) = true) := by
              have h2 : n / 256 ^ k = 0 := by rw [← HX.out]; exact h0
              have h3 : n < 256 ^ k := (Nat.div_eq_zero_iff_lt (Nat.pow_pos (by decide))).1 h2
              unfold fitsZ sizedB fitsB
              rw [Int.toNat_natCast, decide_eq_true h1, decide_eq_true h8, decide_eq_true h3]
              rfl
            subst h0
            go_wp2
            go_ret
            exact ⟨oEndBool HE.out.symm, rfl⟩
          · have HE : Hid (fitsZ n (k : Int) = false) := by
              have h3 : ¬ n < 256 ^ k := fun h => h0 (by rw [HX.out]; exact Nat.div_eq_of_lt h)
              unfold fitsZ sizedB fitsB
              rw [Int.toNat_natCast, decide_eq_false h3, Bool.and_false]
              exact rfl
            have hxi : ((x : Int) == 0) = false := by simpa using h0
            clear h0
            go_wp2
            go_ret
            exact ⟨oEndBool HE.out.symm, rfl⟩
        · have HE : Hid (fitsZ n z = false) := by
            unfold fitsZ sizedB
            rw [decide_eq_false h1]; rfl
          go_wp2
          go_ret
          exact ⟨oEndBool HE.out.symm, rfl⟩
      · have hk8 : k = 8 := by omega
        subst hk8
        have hx0 : x = 0 := by
          rw [HX.out]
          exact Nat.div_eq_of_lt (Nat.lt_of_le_of_lt hn (by decide))
        subst hx0
        by_cases h8 : z ≤ 8
        · exfalso; omega
        · have HE : Hid (fitsZ n z = false) := by
            unfold fitsZ sizedB
            rw [decide_eq_false h8, Bool.and_false]; rfl
          go_wp2
          go_ret
          exact ⟨oEndBool HE.out.symm, rfl⟩
theorem o_one_conv (W : World) (n : Nat) (y : Int) (T : TypeId) (h : n = W.heap.size) : (convert 61 9 (.slice (some ⟨n, 0, none⟩) 1 1)).run Try.prog (W.alloc (.cells #[.int .u8 y] T)) = .ok (.string (strOfNums [y])) (W.alloc (.cells #[.int .u8 y] T)) := by
  subst h
  refine run_convert_bytes_arg _ 61 5 Try.underlying61 Try.underlying5 W.heap.size 0 1 1 [y] rfl ?_ 9 Try.underlying9
  intro i hi
  obtain rfl : i = 0 := by omega
  simp [go_sem]
def oneB (x n : Nat) : ByteArray := ⟨(beN x n).toArray⟩
theorem oneB_size (x n : Nat) : (oneB x n).size = n := by
  have := beN_len x n
  show (beN x n).toArray.size = n
  simpa using this
theorem beN_next (x n : Nat) : beN x (n + 1) = UInt8.ofNat (x / 256 ^ n) :: beN x n := by
  unfold beN
  rw [List.range_succ_eq_map, List.map_cons, List.map_map]
  congr 1
  apply List.map_congr_left
  intro i hi
  simp only [Function.comp]
  rw [show n + 1 - 1 - (i + 1) = n - 1 - i by omega]
theorem oneB_next (x n v : Nat) (hv : v = x / 256 ^ n) : strOfNums [(v : Int) % 256] ++ oneB x n = oneB x (n + 1) := by
  apply Go.WideShapes.bytes_inj
  have e : UInt8.ofNat ((v : Int) % 256).toNat = UInt8.ofNat (x / 256 ^ n) := by
    rw [hv]
    apply UInt8.toNat_inj.1
    rw [UInt8.toNat_ofNat', UInt8.toNat_ofNat']
    omega
  show (strOfNums [(v : Int) % 256] ++ oneB x n).data.toList = beN x (n + 1)
  rw [ByteArray.data_append, Array.toList_append, beN_next, ← e]
  rfl
set_option maxHeartbeats 1000000 in
theorem refNum_any (n z : Nat) (w : World) (hz : z ≤ 8) (hn : n ≤ 18446744073709551615) :
    Calls Try.prog 35 #[.int .u64 n, .int .i64 z] w fun e w' => e = .returned (.string (oneB n z)) ∧ Below w.heap.size w w' := by
  go_enter Try.func35, Try.ntmps35
  go_wp2
  go_loopw [0, 5, 6] (fun a o i wr => ∃ k : Nat, k ≤ z ∧ i = .int .i64 k ∧ a = .int .u64 (n / 256 ^ k : Nat) ∧ o = .string (oneB n k) ∧ Below w.heap.size w wr) (fun _ _ i _ => (z - (intOf i).toNat))
  case atStart => exact ⟨0, by omega, rfl, by simp, rfl, Below.refl _ _⟩
  case round =>
    obtain ⟨k, hk, rfl, rfl, rfl, hB⟩ := hrel
    obtain ⟨v, hv⟩ : ∃ v, v = n / 256 ^ k := ⟨_, rfl⟩
    have hv2 : n / 256 ^ (k + 1) = v / 256 := by rw [hv, Nat.div_div_eq_div_mul, Nat.pow_succ]
    obtain ⟨o, ho⟩ : ∃ o, o = oneB n k := ⟨_, rfl⟩
    have hvl : v ≤ 18446744073709551615 := by rw [hv]; exact Nat.le_trans (Nat.div_le_self _ _) hn
    have hos : o.size ≤ 8 := by rw [ho, oneB_size]; omega
    have hnx : strOfNums [(v : Int) % 256] ++ o = oneB n (k + 1) := by rw [ho]; exact oneB_next n k v hv
    rw [← hv, ← ho]
    have HV := Lib.hid hv
    have HV2 := Lib.hid hv2
    have HO := Lib.hid ho
    have HNX := Lib.hid hnx
    have HB := Lib.hid hB
    clear hv hv2 ho hnx hB
    have hone := o_one_conv
    have hsz : ∀ y : Int, (strOfNums [y]).size = 1 := fun y => strOfNums_size [y]
    by_cases hlt : k < z
    · go_wp2
      go_roundw
      case rel => exact ⟨k + 1, by omega, by go_num, by rw [HV2.out]; go_num, by rw [← HNX.out], HB.out.alloc HB.out.size _⟩
      case measure => simp [intOf]; omega
    · obtain rfl : k = z := by omega
      go_wp2
      go_ret
      exact ⟨oEndStr HO.out, HB.out⟩
end Go.Proofs.Ytlafpdhjknpfbaa
