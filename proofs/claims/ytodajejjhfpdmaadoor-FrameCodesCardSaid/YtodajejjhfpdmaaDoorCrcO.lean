/-
  What Open makes of a sealed text, and of one of which bits were turned.
-/
import Derived.Test.YtodajejjhfpdmaaDoorCrcA
import Derived.Lib.Strings
namespace Go.Proofs.YtodajejjhfpdmaaDoor
open Go.RowKit Go.Instr

theorem sumB_eq (x : Nat) : sumB x = ⟨(sum4 x).toArray⟩ := by
  apply Go.WideShapes.bytes_inj
  have e : ∀ n : Nat, UInt8.ofNat ((n : Int) % 256).toNat = UInt8.ofNat (n % 256) := fun n => by
    rw [show ((n : Int) % 256).toNat = n % 256 by omega]
  have e2 : ∀ n m : Nat, UInt8.ofNat ((n : Int) / (m : Int) % 256).toNat = UInt8.ofNat (n / m % 256) := fun n m => by
    rw [← Int.natCast_ediv, e]
  have h1 := e x
  have h2 := e2 x 256
  have h3 := e2 x 65536
  have h4 := e2 x 16777216
  simp only [sumB, strOfNums, sum4, List.map_cons, List.map_nil, List.cons.injEq, and_true]
  exact ⟨h1, h2, h3, h4⟩
theorem sealB_data (s : ByteArray) : (sealB s).data.toList = sum4 (crcN s.data.toList) := by
  rw [sealB, sumB_eq]
theorem ext_head (s t : ByteArray) : (s ++ t).extract 0 s.size = s := by
  apply Go.WideShapes.bytes_inj
  rw [Lib.extract_data]
  simp
theorem ext_tail (s t : ByteArray) : (s ++ t).extract s.size (s ++ t).size = t := by
  apply Go.WideShapes.bytes_inj
  rw [Lib.extract_data, ByteArray.data_append, Array.toList_append, List.drop_left' (show s.data.toList.length = s.size from rfl), ByteArray.size_append]
  exact List.take_of_length_le (by rw [show t.data.toList.length = t.size from rfl]; omega)
theorem open_seal (s : ByteArray) : openT (s ++ sealB s) = s ∧ openE (s ++ sealB s) = 0 := by
  have hz : (s ++ sealB s).size = s.size + 4 := by rw [ByteArray.size_append, sealB_size]
  have h4 : 4 ≤ (s ++ sealB s).size := by omega
  have e : (s ++ sealB s).size - 4 = s.size := by omega
  unfold openT openE
  rw [if_pos h4, if_pos h4, e, ext_head, ext_tail, if_pos rfl, if_pos rfl]
  exact ⟨rfl, rfl⟩
theorem turnB_size (s : ByteArray) (a : Int) (x : Nat) : (turnB s a x).size = s.size := by
  have := turnK_len s.data.toList a x 32
  unfold turnB
  exact this
theorem ret2 {a b : ByteArray} {n m : Int} (h : a = b) (k : n = m) : Ending.returned (.tuple #[.string a, .int .i64 n]) = .returned (.tuple #[.string b, .int .i64 m]) := by rw [h, k]
theorem Open_seal (s : ByteArray) (w : World) (hs : s.size ≤ 900000) :
    Calls Tryd.prog 28 #[.string (s ++ sealB s)] w fun e w' => e = .returned (.tuple #[.string s, .int .i64 0]) ∧ Below w.heap.size w w' :=
  (Open_any _ w (by rw [ByteArray.size_append, sealB_size]; omega)).mono fun e w' ⟨h1, h2⟩ => ⟨h1.trans (ret2 (open_seal s).1 (open_seal s).2), h2⟩
theorem turn_open (t : ByteArray) (a : Int) (x : Nat) (hx : x < 4294967296) (hne : turnB (t ++ sealB t) a x ≠ t ++ sealB t) :
    openT (turnB (t ++ sealB t) a x) = ByteArray.empty ∧ openE (turnB (t ++ sealB t) a x) = 5 := by
  have hsz : (turnB (t ++ sealB t) a x).size = t.size + 4 := by rw [turnB_size, ByteArray.size_append, sealB_size]
  have hno : ¬ sealB ((turnB (t ++ sealB t) a x).extract 0 ((turnB (t ++ sealB t) a x).size - 4)) = (turnB (t ++ sealB t) a x).extract ((turnB (t ++ sealB t) a x).size - 4) (turnB (t ++ sealB t) a x).size := by
    intro h
    apply hne
    apply Go.WideShapes.bytes_inj
    have hd := congrArg (fun b : ByteArray => b.data.toList) h
    simp only [sealB_data] at hd
    rw [Lib.extract_data, Lib.extract_data] at hd
    simp only [List.drop_zero, Nat.sub_zero] at hd
    have hl : (turnB (t ++ sealB t) a x).data.toList.length = (turnB (t ++ sealB t) a x).size := rfl
    rw [List.take_of_length_le (l := (turnB (t ++ sealB t) a x).data.toList.drop _) (by rw [List.length_drop, hl]; exact Nat.le_refl _)] at hd
    have hz : (t ++ sealB t).data.toList = t.data.toList ++ sum4 (crcN t.data.toList) := by rw [ByteArray.data_append, Array.toList_append, sealB_data]
    have hy : (turnB (t ++ sealB t) a x).data.toList = turnK (t.data.toList ++ sum4 (crcN t.data.toList)) a x 32 := by rw [← hz]; rfl
    have key := seal_turn t.data.toList a x hx _ _ (hy.symm.trans (List.take_append_drop ((turnB (t ++ sealB t) a x).size - 4) _).symm) hd.symm
    rw [List.take_append_drop] at key
    rw [key, hz]
  have h4 : 4 ≤ (turnB (t ++ sealB t) a x).size := by omega
  unfold openT openE
  rw [if_pos h4, if_pos h4, if_neg hno, if_neg hno]
  exact ⟨rfl, rfl⟩
theorem Open_turned (t : ByteArray) (a : Int) (x : Nat) (w : World) (hs : t.size ≤ 200) (hx : x < 4294967296) (hne : turnB (t ++ sealB t) a x ≠ t ++ sealB t) :
    Calls Tryd.prog 28 #[.string (turnB (t ++ sealB t) a x)] w fun e w' => e = .returned (.tuple #[.string ByteArray.empty, .int .i64 5]) ∧ Below w.heap.size w w' :=
  (Open_any _ w (by rw [turnB_size, ByteArray.size_append, sealB_size]; omega)).mono fun e w' ⟨h1, h2⟩ => ⟨h1.trans (ret2 (turn_open t a x hx hne).1 (turn_open t a x hx hne).2), h2⟩
end Go.Proofs.YtodajejjhfpdmaaDoor
