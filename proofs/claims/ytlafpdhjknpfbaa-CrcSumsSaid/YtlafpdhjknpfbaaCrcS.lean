/-
  The walk of the first lines of each law of layer 2 ('speaks'): it returns true, and nothing old in memory changes.
-/
import Derived.Test.YtlafpdhjknpfbaaCrcA
import Derived.Lib.Strings
namespace Go.Proofs.Ytlafpdhjknpfbaa
open Go.RowKit Go.Instr

theorem sumB_eq (x : Nat) : sumB x = ⟨(sum4 x).toArray⟩ := by
  apply Go.WideShapes.bytes_inj
  have e : ∀ n : Nat, UInt8.ofNat ((n : Int) % 256).toNat = UInt8.ofNat (n % 256) := fun n => by
    rw [show ((n : Int) % 256).toNat = n % 256 by omega]
  have e2 : ∀ n m : Nat, UInt8.ofNat ((n : Int) / (m : Int) % 256).toNat = UInt8.ofNat (n / m % 256) := fun n m => by
    rw [← Int.natCast_ediv, e]
  have h1 := e x
  have h2 := e2 x 256
  have h3 := e2 x 65536
  have h4 := e2 x 16777216
  simp only [sumB, strOfNums, sum4, List.map_cons, List.map_nil, List.cons.injEq, and_true]
  exact ⟨h1, h2, h3, h4⟩
theorem sealB_data (s : ByteArray) : (sealB s).data.toList = sum4 (crcN s.data.toList) := by
  rw [sealB, sumB_eq]
theorem ext_head (s t : ByteArray) : (s ++ t).extract 0 s.size = s := by
  apply Go.WideShapes.bytes_inj
  rw [Lib.extract_data]
  simp
theorem ext_tail (s t : ByteArray) : (s ++ t).extract s.size (s ++ t).size = t := by
  apply Go.WideShapes.bytes_inj
  rw [Lib.extract_data, ByteArray.data_append, Array.toList_append, List.drop_left' (show s.data.toList.length = s.size from rfl), ByteArray.size_append]
  exact List.take_of_length_le (by rw [show t.data.toList.length = t.size from rfl]; omega)
theorem open_seal (s : ByteArray) : openT (s ++ sealB s) = s ∧ openE (s ++ sealB s) = 0 := by
  have hz : (s ++ sealB s).size = s.size + 4 := by rw [ByteArray.size_append, sealB_size]
  have h4 : 4 ≤ (s ++ sealB s).size := by omega
  have e : (s ++ sealB s).size - 4 = s.size := by omega
  unfold openT openE
  rw [if_pos h4, if_pos h4, e, ext_head, ext_tail, if_pos rfl, if_pos rfl]
  exact ⟨rfl, rfl⟩
theorem turnB_size (s : ByteArray) (a : Int) (x : Nat) : (turnB s a x).size = s.size := by
  have := turnK_len s.data.toList a x 32
  unfold turnB
  exact this
theorem turnB_twice (s : ByteArray) (a : Int) (x : Nat) : turnB (turnB s a x) a x = s := by
  apply Go.WideShapes.bytes_inj
  have := turn_twice s.data.toList a x 32
  simpa [turnB] using this
theorem Turn_back (s : ByteArray) (a : Int) (x : Nat) (w : World) (hs : s.size ≤ 1000000) (h1 : -9223372036854775808 ≤ a) (h2 : a ≤ 9223372036854775807) (hx : x < 4294967296) :
    Calls Try.prog 28 #[.string (turnB s a x), .int .i64 a, .int .u32 x] w fun e w' => e = .returned (.string s) ∧ Below w.heap.size w w' :=
  (Turn_any _ a x w (by rw [turnB_size]; exact hs) h1 h2 hx).mono fun e w' ⟨e1, e2⟩ => ⟨e1.trans (endStr (turnB_twice s a x)), e2⟩
theorem below_on {w w1 w2 : World} (h1 : Below w.heap.size w w1) (h2 : Below w1.heap.size w1 w2) : Below w.heap.size w w2 := h1.trans (h2.mono h1.size)
theorem ret2 {a b : ByteArray} {n m : Int} (h : a = b) (k : n = m) : Ending.returned (.tuple #[.string a, .int .i64 n]) = .returned (.tuple #[.string b, .int .i64 m]) := by rw [h, k]
theorem Open_seal (s : ByteArray) (w : World) (hs : s.size ≤ 900000) :
    Calls Try.prog 27 #[.string (s ++ sealB s)] w fun e w' => e = .returned (.tuple #[.string s, .int .i64 0]) ∧ Below w.heap.size w w' :=
  (Open_any _ w (by rw [ByteArray.size_append, sealB_size]; omega)).mono fun e w' ⟨h1, h2⟩ => ⟨h1.trans (ret2 (open_seal s).1 (open_seal s).2), h2⟩
theorem crc_nine : crcN (flat [⟨#[49, 50, 51, 52]⟩, ⟨#[53, 54, 55, 56, 57]⟩]) = 3421780262 := by decide +kernel
theorem turn_a : turnB ⟨#[97]⟩ 1 1 = ⟨#[99]⟩ := by decide +kernel
theorem Turn_a (w : World) : Calls Try.prog 28 #[.string ⟨#[97]⟩, .int .i64 1, .int .u32 1] w fun e w' => e = .returned (.string ⟨#[99]⟩) ∧ Below w.heap.size w w' :=
  (Turn_any ⟨#[97]⟩ 1 1 w (by decide) (by decide) (by decide) (by decide)).mono fun e w' ⟨h1, h2⟩ => ⟨h1.trans (endStr turn_a), h2⟩
theorem sum_nine (w : World) : Calls Try.prog 23 #[.slice (some ⟨w.heap.size, 0, none⟩) 2 2] (w.alloc (.cells #[.string ⟨#[49, 50, 51, 52]⟩, .string ⟨#[53, 54, 55, 56, 57]⟩] 9)) fun e w' => e = .returned (.int .u32 3421780262) ∧ Below w.heap.size w w' :=
  (sum_any _ [⟨#[49, 50, 51, 52]⟩, ⟨#[53, 54, 55, 56, 57]⟩] _ (.inr ⟨_, 0, _, rfl, by decide, fun i hi => by
    match i, hi with
    | 0, _ => decide
    | 1, _ => decide, fun i hi => by
    match i, hi with
    | 0, _ => simp
    | 1, _ => simp⟩)).mono fun e w' ⟨h1, h2⟩ => ⟨h1.trans (endInt (by rw [crc_nine]; rfl)), by rw [← h2]; exact (Below.refl _ _).alloc (Nat.le_refl _) _⟩
set_option maxHeartbeats 400000 in
theorem speaks2 (w : World) : Calls Try.prog 22 #[] w fun e w' => e = .returned (.bool true) ∧ Below w.heap.size w w' := by
  go_enter Try.func22, Try.ntmps22
  go_wp2_with (first | (go_at_call 25; refine (Seal_any _ _ (by decide)).mono ?_; rintro e w1 ⟨rfl, hB1⟩) | (go_at_call 27; refine (Open_seal _ _ (by decide)).mono ?_; rintro e w2 ⟨rfl, hB2⟩) | (go_at_call 23; refine (sum_nine _).mono ?_; rintro e w3 ⟨rfl, hB3⟩) | (go_at_call 28; refine (Turn_a _).mono ?_; rintro e w4 ⟨rfl, hB4⟩))
  go_ret
  exact ⟨rfl, hB1.trans ((hB2.mono hB1.size).trans ((hB3.mono (Nat.le_trans hB1.size hB2.size)).trans (hB4.mono (Nat.le_trans hB1.size (Nat.le_trans hB2.size hB3.size)))))⟩
end Go.Proofs.Ytlafpdhjknpfbaa
