/-
  The walks of the reference's Bit, Sum, Seal and Turn and of the first lines of each law of layer 2: what each call returns, and that nothing old in memory changes.
-/
import Derived.Test.YtodajejjhfpdmaaDoorCrcA
namespace Go.Proofs.YtodajejjhfpdmaaDoor
open Go.RowKit Go.Instr

def bitN (l : List UInt8) (p : Nat) : Nat := (bitAt l p).toNat
theorem bitN_at (s : ByteArray) (p : Nat) (h : p / 8 < s.size) : bitN s.data.toList p = s[p / 8].toNat / 2 ^ (p % 8) % 2 := by
  unfold bitN bitAt
  have e : s.data.toList.getD (p / 8) 0 = s[p / 8] := by
    rw [List.getD_eq_getElem?_getD, List.getElem?_eq_getElem (by simpa using h)]; rfl
  rw [e, Nat.toNat_testBit]
set_option maxHeartbeats 400000 in
theorem bit_any (s : ByteArray) (p : Nat) (w : World) (hs : s.size ≤ 1000000) (hp : p < 8 * s.size) :
    Calls Tryd.prog 74 #[.string s, .int .i64 p] w fun e w' => e = .returned (.int .i64 (bitN s.data.toList p)) ∧ w = w' := by
  have h8 : p / 8 < s.size := by omega
  have hy := s[p / 8].toNat_lt
  have HE := Lib.hid (bitN_at s p h8)
  go_enter Tryd.func74, Tryd.ntmps74
  go_wp2
  obtain ⟨y, hys⟩ : ∃ y, y = s[p / 8].toNat := ⟨_, rfl⟩
  rw [← hys] at hy HE ⊢
  clear hys
  go_loop [5, 6] (fun n i => ∃ k : Nat, k ≤ p % 8 ∧ i = .int .i64 k ∧ n = .int .i64 (y / 2 ^ k : Nat)) (fun _ i => (p % 8 - (intOf i).toNat))
  case atStart => exact ⟨0, by omega, rfl, by simp⟩
  case round =>
    obtain ⟨k, hk, rfl, rfl⟩ := hrel
    obtain ⟨z, hz⟩ : ∃ z, z = y / 2 ^ k := ⟨_, rfl⟩
    have hz2 : y / 2 ^ (k + 1) = z / 2 := by rw [hz, Nat.div_div_eq_div_mul, Nat.pow_succ]
    have hzy : z < 256 := by rw [hz]; exact Nat.lt_of_le_of_lt (Nat.div_le_self _ _) hy
    rw [← hz]
    have HZ := Lib.hid hz
    have HZ2 := Lib.hid hz2
    clear hz hz2
    by_cases hlt : k < p % 8
    · go_wp2
      go_round
      case rel => exact ⟨k + 1, by omega, by go_num, by rw [HZ2.out]; go_num⟩
      case measure => simp [intOf]; omega
    · obtain rfl : k = p % 8 := by omega
      go_wp2
      go_ret
      exact ⟨endInt (by rw [HE.out, ← HZ.out]; rfl), rfl⟩
theorem bstep_yes {z : Nat} {b : Bool} (h : z < 4294967296) (hb : ((z : Int) % 2 != ((b.toNat : Nat) : Int)) = true) : bits BinOp.xor IntKind.u32 ((z : Int) / 2) 3988292384 = (bstep z b : Nat) := by
  have hc : (z.testBit 0 != b) = true := by
    rw [Nat.testBit_zero]
    cases b
    · simp at hb; simp; omega
    · simp at hb; simp; omega
  have := u32_xor_nat (z / 2) 3988292384 (by omega) (by decide)
  rw [bstep, if_pos hc, ← this]
  rfl
theorem bstep_no {z : Nat} {b : Bool} (hb : ((z : Int) % 2 != ((b.toNat : Nat) : Int)) = false) : ((z : Int) / 2) = (bstep z b : Nat) := by
  have hc : ¬ (z.testBit 0 != b) = true := by
    rw [Nat.testBit_zero]
    cases b
    · simp at hb; simp; omega
    · simp at hb; simp; omega
  rw [bstep, if_neg hc]
  rfl
set_option maxHeartbeats 400000 in
theorem refSum_any (s : ByteArray) (w : World) (hs : s.size ≤ 1000000) :
    Calls Tryd.prog 54 #[.string s] w fun e w' => e = .returned (.int .u32 (crcN s.data.toList)) ∧ w = w' := by
  go_enter Tryd.func54, Tryd.ntmps54
  go_wp2
  go_loop [3, 4] (fun n i => ∃ k : Nat, k ≤ 8 * s.size ∧ i = .int .i64 k ∧ n = .int .u32 (bitReg 4294967295 (bitAt s.data.toList) k : Nat)) (fun _ i => (8 * s.size - (intOf i).toNat))
  case atStart => exact ⟨0, by omega, rfl, rfl⟩
  case round =>
    obtain ⟨k, hk, rfl, rfl⟩ := hrel
    obtain ⟨z, hz⟩ : ∃ z, z = bitReg 4294967295 (bitAt s.data.toList) k := ⟨_, rfl⟩
    have hzl : z < 4294967296 := by rw [hz]; exact bitReg_lt (by decide) _ _
    have hz2 : bitReg 4294967295 (bitAt s.data.toList) (k + 1) = bstep z (bitAt s.data.toList k) := by rw [hz]; rfl
    rw [← hz]
    have HZ := Lib.hid hz
    have HZ2 := Lib.hid hz2
    clear hz hz2
    by_cases hlt : k < 8 * s.size
    · go_wp2_with (go_at_call 74; refine (bit_any _ _ _ hs hlt).mono ?_; rintro e w' ⟨rfl, rfl⟩)
      · have hb : ((z : Int) % 2 != ((bitN s.data.toList k : Nat) : Int)) = true := by assumption
        have hs2 := bstep_yes hzl hb
        go_round
        case rel => exact ⟨k + 1, by omega, by go_num, by rw [HZ2.out, hs2]⟩
        case measure => simp [intOf]; omega
      · have hb : ((z : Int) % 2 != ((bitN s.data.toList k : Nat) : Int)) = false := by assumption
        have hs2 := bstep_no hb
        go_round
        case rel => exact ⟨k + 1, by omega, by go_num, by rw [HZ2.out, hs2]⟩
        case measure => simp [intOf]; omega
    · obtain rfl : k = 8 * s.size := by omega
      have hend : crcN s.data.toList = 4294967295 - z := by rw [crcN, sumR_bits, HZ.out]; rfl
      have HE := Lib.hid hend
      clear hend
      go_wp2
      go_ret
      exact ⟨endInt (by rw [HE.out]; omega), rfl⟩
theorem one_conv (W : World) (n : Nat) (y : Int) (T : TypeId) (h : n = W.heap.size) : (convert 67 9 (.slice (some ⟨n, 0, none⟩) 1 1)).run Tryd.prog (W.alloc (.cells #[.int .u8 y] T)) = .ok (.string (strOfNums [y])) (W.alloc (.cells #[.int .u8 y] T)) := by
  subst h
  refine run_convert_bytes_arg _ 67 5 Tryd.underlying67 Tryd.underlying5 W.heap.size 0 1 1 [y] rfl ?_ 9 Tryd.underlying9
  intro i hi
  obtain rfl : i = 0 := by omega
  simp [go_sem]
theorem four_one (s : ByteArray) (x : Nat) : s ++ strOfNums [(x : Int) % 256] ++ strOfNums [(x : Int) / 256 % 256] ++ strOfNums [(x : Int) / 256 / 256 % 256] ++ strOfNums [(x : Int) / 256 / 256 / 256 % 256] = s ++ sumB x := by
  have e1 : (x : Int) / 256 / 256 = (x : Int) / 65536 := by omega
  have e2 : (x : Int) / 65536 / 256 = (x : Int) / 16777216 := by omega
  rw [e1, e2]
  apply Go.WideShapes.bytes_inj
  simp [sumB, strOfNums]
set_option maxHeartbeats 400000 in
theorem refSeal_any (s : ByteArray) (w : World) (hs : s.size ≤ 900000) :
    Calls Tryd.prog 27 #[.string s] w fun e w' => e = .returned (.string (s ++ sealB s)) ∧ Below w.heap.size w w' := by
  go_enter Tryd.func27, Tryd.ntmps27
  go_wp2_with (go_at_call 54; refine (refSum_any _ _ (by omega)).mono ?_; rintro e w' ⟨rfl, rfl⟩)
  obtain ⟨x, hx⟩ : ∃ x, x = crcN s.data.toList := ⟨_, rfl⟩
  have hxl : x < 4294967296 := by rw [hx]; exact crcN_lt _
  rw [← hx]
  have HX := Lib.hid hx
  clear hx
  have hone := one_conv
  have hsz : ∀ y : Int, (strOfNums [y]).size = 1 := fun y => strOfNums_size [y]
  have happ : ∀ a b : ByteArray, (a ++ b).size = a.size + b.size := fun a b => ByteArray.size_append
  go_rounds 5
  go_ret
  refine ⟨endStr (by rw [sealB, ← HX.out]; exact four_one s x), ?_⟩
  go_grown
end Go.Proofs.YtodajejjhfpdmaaDoor
