/-
  The walk of the reference's Digits: the text of a number.
-/
import Derived.Test.YtegjgdiollafkaaDoorRegB
namespace Go.Proofs.YtegjgdiollafkaaDoor
open Go.RowKit Go.Instr

theorem one_conv (W : World) (n : Nat) (y : Int) (T : TypeId) (h : n = W.heap.size) : (convert 58 9 (.slice (some ⟨n, 0, none⟩) 1 1)).run Tryd.prog (W.alloc (.cells #[.int .u8 y] T)) = .ok (.string (strOfNums [y])) (W.alloc (.cells #[.int .u8 y] T)) := by
  subst h
  refine run_convert_bytes_arg _ 58 5 Tryd.underlying58 Tryd.underlying5 W.heap.size 0 1 1 [y] rfl ?_ 9 Tryd.underlying9
  intro i hi
  obtain rfl : i = 0 := by omega
  simp [go_sem]
theorem dig_pos (k : Nat) : (k : Int).tmod 10 = ((k % 10 : Nat) : Int) ∧ (k : Int).tdiv 10 = ((k / 10 : Nat) : Int) := by
  constructor
  · rw [Int.tmod_eq_emod_of_nonneg (by omega)]; omega
  · rw [Int.tdiv_eq_ediv_of_nonneg (by omega)]; omega
theorem dig_neg (k : Nat) : (-(k : Int)).tmod 10 = -((k % 10 : Nat) : Int) ∧ (-(k : Int)).tdiv 10 = -((k / 10 : Nat) : Int) := by
  constructor
  · rw [Int.neg_tmod, (dig_pos k).1]
  · rw [Int.neg_tdiv, (dig_pos k).2]
theorem dstr (k : Nat) (l : List UInt8) : strOfNums [48 + (k : Int) % 10] ++ ⟨l.toArray⟩ = (⟨(UInt8.ofNat (48 + k % 10) :: l).toArray⟩ : ByteArray) := by
  apply Go.WideShapes.bytes_inj
  have e : (48 + (k : Int) % 10).toNat = 48 + k % 10 := by omega
  simp [strOfNums, e]
theorem dstr0 (l : List UInt8) : strOfNums [48] ++ ⟨l.toArray⟩ = (⟨(UInt8.ofNat 48 :: l).toArray⟩ : ByteArray) := by
  apply Go.WideShapes.bytes_inj
  simp [strOfNums]
theorem len19 {u k : Nat} {l : List UInt8} (hu : u ≤ 9223372036854775808) (h : Lib.decDigits u = Lib.decDigits k ++ l) : l.length ≤ 19 := by
  have h1 := digits_len 18 u (by omega)
  have h2 := congrArg List.length h
  rw [List.length_append] at h2
  omega
theorem next_digits {u k : Nat} {l : List UInt8} (h : Lib.decDigits u = Lib.decDigits k ++ l) (h0 : ¬ k / 10 = 0) : Lib.decDigits u = Lib.decDigits (k / 10) ++ (UInt8.ofNat (48 + k % 10) :: l) := by
  rw [h, decDigits_step k (by omega), List.append_assoc]; rfl
theorem last_digits {u k : Nat} {l : List UInt8} (h : Lib.decDigits u = Lib.decDigits k ++ l) (h0 : k / 10 = 0) : Lib.decDigits u = UInt8.ofNat (48 + k % 10) :: l := by
  rw [h, decDigits_one k (by omega), Nat.mod_eq_of_lt (by omega)]; rfl
theorem ret_str {a b : ByteArray} (h : a = b) : Ending.returned (.string a) = .returned (.string b) := by rw [h]
set_option maxHeartbeats 1000000 in
theorem digits_pos (u : Nat) (w : World) (hu : u ≤ 9223372036854775807) : Calls Tryd.prog 17 #[.int .i64 u] w fun e w' => e = .returned (.string ⟨(Lib.itoa u).toArray⟩) ∧ Below w.heap.size w w' := by
  have hone := one_conv
  have hsz : ∀ y : Int, (strOfNums [y]).size = 1 := fun y => strOfNums_size [y]
  go_enter Tryd.func17, Tryd.ntmps17
  go_wp2
  go_loopw [0, 4] (fun n o wr => ∃ (k : Nat) (l : List UInt8), n = .int .i64 k ∧ o = .string ⟨l.toArray⟩ ∧ k ≤ u ∧ Lib.decDigits u = Lib.decDigits k ++ l ∧ Below w.heap.size w wr) (fun n _ _ => (intOf n).toNat)
  case atStart => exact ⟨u, [], rfl, rfl, Nat.le_refl _, by simp, Below.refl _ _⟩
  case round =>
    obtain ⟨k, l, rfl, rfl, hk, hd, hB⟩ := hrel
    have hlen := len19 (by omega) hd
    have HD := Lib.hid hd
    have HB := Lib.hid hB
    clear hd hB
    obtain ⟨h1, h2⟩ := dig_pos k
    by_cases h0 : k / 10 = 0
    · go_wp2
      go_ret
      refine ⟨ret_str ?_, HB.out.alloc HB.out.size _⟩
      rw [dstr, Lib.itoa_nonneg, last_digits HD.out h0]
      apply Go.WideShapes.bytes_inj
      simp
    · go_wp2
      go_roundw
      case rel => exact ⟨k / 10, UInt8.ofNat (48 + k % 10) :: l, by go_num, by rw [dstr], by omega, next_digits HD.out h0, HB.out.alloc HB.out.size _⟩
      case measure => simp [intOf]; omega
set_option maxHeartbeats 1000000 in
theorem digits_neg (u : Nat) (w : World) (hu1 : 1 ≤ u) (hu : u ≤ 9223372036854775808) : Calls Tryd.prog 17 #[.int .i64 (-(u : Int))] w fun e w' => e = .returned (.string ⟨(Lib.itoa (-(u : Int))).toArray⟩) ∧ Below w.heap.size w w' := by
  have hone := one_conv
  have hsz : ∀ y : Int, (strOfNums [y]).size = 1 := fun y => strOfNums_size [y]
  go_enter Tryd.func17, Tryd.ntmps17
  go_wp2
  go_loopw [0, 4] (fun n o wr => ∃ (k : Nat) (l : List UInt8), n = .int .i64 (-(k : Int)) ∧ o = .string ⟨l.toArray⟩ ∧ k ≤ u ∧ Lib.decDigits u = Lib.decDigits k ++ l ∧ Below w.heap.size w wr) (fun n _ _ => (intOf n).natAbs)
  case atStart => exact ⟨u, [], rfl, rfl, Nat.le_refl _, by simp, Below.refl _ _⟩
  case round =>
    obtain ⟨k, l, rfl, rfl, hk, hd, hB⟩ := hrel
    have hlen := len19 (by omega) hd
    have HD := Lib.hid hd
    have HB := Lib.hid hB
    clear hd hB
    obtain ⟨h1, h2⟩ := dig_neg k
    by_cases h0 : k / 10 = 0
    · by_cases h3 : k % 10 = 0
      · have hl := last_digits HD.out h0
        rw [h3] at hl
        have HL := Lib.hid hl
        clear hl
        go_wp2
        go_ret
        refine ⟨ret_str ?_, HB.out.alloc HB.out.size _⟩
        rw [dstr0, Lib.itoa_neg u hu1, HL.out]
        apply Go.WideShapes.bytes_inj
        simp
      · have HL := Lib.hid (last_digits HD.out h0)
        go_wp2
        go_ret
        refine ⟨ret_str ?_, HB.out.alloc HB.out.size _⟩
        rw [dstr, Lib.itoa_neg u hu1, HL.out]
        apply Go.WideShapes.bytes_inj
        simp
    · have hn := next_digits HD.out h0
      by_cases h3 : k % 10 = 0
      · rw [h3] at hn
        have HL := Lib.hid hn
        clear hn
        go_wp2
        go_roundw
        case rel => exact ⟨k / 10, UInt8.ofNat 48 :: l, by go_num, by rw [dstr0], by omega, HL.out, HB.out.alloc HB.out.size _⟩
        case measure => simp [intOf]; omega
      · have HL := Lib.hid hn
        clear hn
        go_wp2
        go_roundw
        case rel => exact ⟨k / 10, UInt8.ofNat (48 + k % 10) :: l, by go_num, by rw [dstr], by omega, HL.out, HB.out.alloc HB.out.size _⟩
        case measure => simp [intOf]; omega
theorem refDigits_any (n : Int) (w : World) (hn : in64 n) : Calls Tryd.prog 17 #[.int .i64 n] w fun e w' => e = .returned (.string ⟨(Lib.itoa n).toArray⟩) ∧ Below w.heap.size w w' := by
  obtain ⟨h0, h1⟩ := hn
  by_cases h : n < 0
  · obtain ⟨u, rfl⟩ : ∃ u : Nat, n = -(u : Int) := ⟨n.natAbs, by omega⟩
    exact digits_neg u w (by omega) (by omega)
  · obtain ⟨u, rfl⟩ : ∃ u : Nat, n = (u : Int) := ⟨n.toNat, by omega⟩
    exact digits_pos u w (by omega)
end Go.Proofs.YtegjgdiollafkaaDoor
