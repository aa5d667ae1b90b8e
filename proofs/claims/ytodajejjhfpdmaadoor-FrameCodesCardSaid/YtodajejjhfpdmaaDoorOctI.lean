/-
  The walks of the reference's Fits and Num.
-/
import Derived.Test.YtodajejjhfpdmaaDoorOctB
import Derived.Test.YtodajejjhfpdmaaDoorOctG
namespace Go.Proofs.YtodajejjhfpdmaaDoor
open Go.RowKit Go.Instr

theorem oEndBool {a b : Bool} (h : a = b) : Ending.returned (.bool a) = .returned (.bool b) := congrArg (fun n => Ending.returned (.bool n)) h
def fitsZ (n : Nat) (z : Int) : Bool := sizedB z && fitsB n z.toNat
theorem o_one_conv (W : World) (n : Nat) (y : Int) (T : TypeId) (h : n = W.heap.size) : (convert 67 9 (.slice (some ⟨n, 0, none⟩) 1 1)).run Tryd.prog (W.alloc (.cells #[.int .u8 y] T)) = .ok (.string (strOfNums [y])) (W.alloc (.cells #[.int .u8 y] T)) := by
  subst h
  refine run_convert_bytes_arg _ 67 5 Tryd.underlying67 Tryd.underlying5 W.heap.size 0 1 1 [y] rfl ?_ 9 Tryd.underlying9
  intro i hi
  obtain rfl : i = 0 := by omega
  simp [go_sem]
def oneB (x n : Nat) : ByteArray := ⟨(beN x n).toArray⟩
theorem oneB_size (x n : Nat) : (oneB x n).size = n := by
  have := beN_len x n
  show (beN x n).toArray.size = n
  simpa using this
theorem beN_next (x n : Nat) : beN x (n + 1) = UInt8.ofNat (x / 256 ^ n) :: beN x n := by
  unfold beN
  rw [List.range_succ_eq_map, List.map_cons, List.map_map]
  congr 1
  apply List.map_congr_left
  intro i hi
  simp only [Function.comp]
  rw [show n + 1 - 1 - (i + 1) = n - 1 - i by omega]
theorem oneB_next (x n v : Nat) (hv : v = x / 256 ^ n) : strOfNums [(v : Int) % 256] ++ oneB x n = oneB x (n + 1) := by
  apply Go.WideShapes.bytes_inj
  have e : UInt8.ofNat ((v : Int) % 256).toNat = UInt8.ofNat (x / 256 ^ n) := by
    rw [hv]
    apply UInt8.toNat_inj.1
    rw [UInt8.toNat_ofNat', UInt8.toNat_ofNat']
    omega
  show (strOfNums [(v : Int) % 256] ++ oneB x n).data.toList = beN x (n + 1)
  rw [ByteArray.data_append, Array.toList_append, beN_next, ← e]
  rfl
set_option maxHeartbeats 1000000 in
theorem refNum_any (n z : Nat) (w : World) (hz : z ≤ 8) (hn : n ≤ 18446744073709551615) :
    Calls Tryd.prog 53 #[.int .u64 n, .int .i64 z] w fun e w' => e = .returned (.string (oneB n z)) ∧ Below w.heap.size w w' := by
  go_enter Tryd.func53, Tryd.ntmps53
  go_wp2
  go_loopw [0, 5, 6] (fun a o i wr => ∃ k : Nat, k ≤ z ∧ i = .int .i64 k ∧ a = .int .u64 (n / 256 ^ k : Nat) ∧ o = .string (oneB n k) ∧ Below w.heap.size w wr) (fun _ _ i _ => (z - (intOf i).toNat))
  case atStart => exact ⟨0, by omega, rfl, by simp, rfl, Below.refl _ _⟩
  case round =>
    obtain ⟨k, hk, rfl, rfl, rfl, hB⟩ := hrel
    obtain ⟨v, hv⟩ : ∃ v, v = n / 256 ^ k := ⟨_, rfl⟩
    have hv2 : n / 256 ^ (k + 1) = v / 256 := by rw [hv, Nat.div_div_eq_div_mul, Nat.pow_succ]
    obtain ⟨o, ho⟩ : ∃ o, o = oneB n k := ⟨_, rfl⟩
    have hvl : v ≤ 18446744073709551615 := by rw [hv]; exact Nat.le_trans (Nat.div_le_self _ _) hn
    have hos : o.size ≤ 8 := by rw [ho, oneB_size]; omega
    have hnx : strOfNums [(v : Int) % 256] ++ o = oneB n (k + 1) := by rw [ho]; exact oneB_next n k v hv
    rw [← hv, ← ho]
    have HV := Lib.hid hv
    have HV2 := Lib.hid hv2
    have HO := Lib.hid ho
    have HNX := Lib.hid hnx
    have HB := Lib.hid hB
    clear hv hv2 ho hnx hB
    have hone := o_one_conv
    have hsz : ∀ y : Int, (strOfNums [y]).size = 1 := fun y => strOfNums_size [y]
    by_cases hlt : k < z
    · go_wp2
      go_roundw
      case rel => exact ⟨k + 1, by omega, by go_num, by rw [HV2.out]; go_num, by rw [← HNX.out], HB.out.alloc HB.out.size _⟩
      case measure => simp [intOf]; omega
    · obtain rfl : k = z := by omega
      go_wp2
      go_ret
      exact ⟨oEndStr HO.out, HB.out⟩
end Go.Proofs.YtodajejjhfpdmaaDoor
