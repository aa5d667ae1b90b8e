/-
  The reference's Get; the readers' calls case by case.
-/
import Derived.Test.YtodajejjhfpdmaaDoorOctT
namespace Go.Proofs.YtodajejjhfpdmaaDoor
open Go.RowKit Go.Instr

set_option maxHeartbeats 400000 in
theorem get_any (t : ByteArray) (w : World) (hts : t.size ≤ 8) :
    Calls Tryd.prog 65 #[.string t] w fun en w' => en = .returned (.int .u64 (getN t.data.toList)) ∧ w = w' := by
  go_enter Tryd.func65, Tryd.ntmps65
  go_wp2
  go_loop [3, 4] (fun a i => ∃ k : Nat, k ≤ t.size ∧ i = .int .i64 k ∧ a = .int .u64 (getN (t.data.toList.take k) : Nat)) (fun _ i => (t.size - (intOf i).toNat))
  case atStart => exact ⟨0, by omega, rfl, rfl⟩
  case round =>
    obtain ⟨k, hk, rfl, rfl⟩ := hrel
    obtain ⟨x, hx⟩ : ∃ x, x = getN (t.data.toList.take k) := ⟨_, rfl⟩
    rw [← hx]
    by_cases hlt : k < t.size
    · have hxl : x < 72057594037927936 := by
        have h1 := getN_lt (t.data.toList.take k)
        have h2 : (t.data.toList.take k).length ≤ 7 := Nat.le_trans (List.length_take_le _ _) (by omega)
        rw [hx]
        exact Nat.lt_of_lt_of_le h1 (Nat.le_trans (Nat.pow_le_pow_right (by decide) h2) (by decide))
      have hbl := t[k].toNat_lt
      have hnx : getN (t.data.toList.take (k + 1)) = 256 * x + t[k].toNat := by rw [o_take_snoc t k hlt, getN_snoc, hx]
      have HX := Lib.hid hx
      have HNX := Lib.hid hnx
      clear hx hnx
      go_wp2
      go_round
      case rel => exact ⟨k + 1, by omega, by go_num, by rw [HNX.out]; go_num⟩
      case measure => simp [intOf]; omega
    · have hend : getN t.data.toList = x := by rw [hx, List.take_of_length_le (by simp; omega)]
      have HE := Lib.hid hend
      clear hend hx
      go_wp2
      go_ret
      exact ⟨oEndInt (by rw [HE.out]), rfl⟩
/-- What a call on a reader leaves: its answer, what is left, the first error; nothing else is written. -/
def Left3 (B : Nat) (w : World) (v : Value) (r : ByteArray) (f : Int) (e : Ending) (w' : World) : Prop := e = .returned v ∧ ReaderAt w' B r f ∧ w.grownBy w' (some B)
theorem num_stuck {B : Nat} {r : ByteArray} {f z : Int} {w : World} (h : ReaderAt w B r f) (hr : r.size ≤ 1000000) (hf : f ≠ 0) :
    Calls Tryd.prog 75 #[.pointer (some ⟨B, 0, none⟩), .int .i64 z] w (Left3 B w (.int .u64 0) r f) :=
  (rnum_any B r f z w h hr).mono fun e w' ⟨h1, h2, h3⟩ => by
    have e1 : numN r f z = 0 := by unfold numN takeT; split <;> simp [hf, getN]
    have e2 : numR r f z = r := by unfold numR takeR; split <;> simp [hf]
    have e3 : numF r f z = f := by unfold numF takeF failF; split <;> simp
    rw [e1] at h1; rw [e2, e3] at h2
    exact ⟨h1, h2, h3⟩
theorem num_inv {B : Nat} {r : ByteArray} {z : Int} {w : World} (h : ReaderAt w B r 0) (hr : r.size ≤ 1000000) (hz : z < 1 ∨ 8 < z) :
    Calls Tryd.prog 75 #[.pointer (some ⟨B, 0, none⟩), .int .i64 z] w (Left3 B w (.int .u64 0) r 4) :=
  (rnum_any B r 0 z w h hr).mono fun e w' ⟨h1, h2, h3⟩ => by
    have hs : ¬ sizedB z = true := by simp [sizedB]; omega
    have e1 : numN r 0 z = 0 := by unfold numN; rw [if_neg hs]
    have e2 : numR r 0 z = r := by unfold numR; rw [if_neg hs]
    have e3 : numF r 0 z = 4 := by unfold numF; rw [if_neg hs]; rfl
    rw [e1] at h1; rw [e2, e3] at h2
    exact ⟨h1, h2, h3⟩
theorem num_short {B : Nat} {r : ByteArray} {m : Nat} {w : World} (h : ReaderAt w B r 0) (hr : r.size ≤ 1000000) (h1m : 1 ≤ m) (h8 : m ≤ 8) (hn : r.size < m) :
    Calls Tryd.prog 75 #[.pointer (some ⟨B, 0, none⟩), .int .i64 m] w (Left3 B w (.int .u64 0) r 2) :=
  (rnum_any B r 0 m w h hr).mono fun e w' ⟨h1, h2, h3⟩ => by
    have hs : sizedB (m : Int) = true := by simp [sizedB]; omega
    have hno : ¬ ((0 : Int) = 0 ∧ m ≤ r.size) := by omega
    have e1 : numN r 0 m = 0 := by unfold numN takeT; rw [if_pos hs, Int.toNat_natCast, if_neg hno]; rfl
    have e2 : numR r 0 m = r := by unfold numR takeR; rw [if_pos hs, Int.toNat_natCast, if_neg hno]
    have e3 : numF r 0 m = 2 := by unfold numF takeF; rw [if_pos hs, Int.toNat_natCast, if_pos rfl, if_neg (by omega)]
    rw [e1] at h1; rw [e2, e3] at h2
    exact ⟨h1, h2, h3⟩
theorem num_good {B : Nat} {r : ByteArray} {m : Nat} {w : World} (h : ReaderAt w B r 0) (hr : r.size ≤ 1000000) (h1m : 1 ≤ m) (h8 : m ≤ 8) (hn : m ≤ r.size) :
    Calls Tryd.prog 75 #[.pointer (some ⟨B, 0, none⟩), .int .i64 m] w (Left3 B w (.int .u64 (getN (r.extract 0 m).data.toList)) (r.extract m r.size) 0) :=
  (rnum_any B r 0 m w h hr).mono fun e w' ⟨h1, h2, h3⟩ => by
    have hs : sizedB (m : Int) = true := by simp [sizedB]; omega
    have hyes : ((0 : Int) = 0 ∧ m ≤ r.size) := ⟨rfl, hn⟩
    have e1 : numN r 0 m = getN (r.extract 0 m).data.toList := by unfold numN takeT; rw [if_pos hs, Int.toNat_natCast, if_pos hyes]
    have e2 : numR r 0 m = r.extract m r.size := by unfold numR takeR; rw [if_pos hs, Int.toNat_natCast, if_pos hyes]
    have e3 : numF r 0 m = 0 := by unfold numF takeF; rw [if_pos hs, Int.toNat_natCast, if_pos rfl, if_pos hn]
    rw [e1] at h1; rw [e2, e3] at h2
    exact ⟨h1, h2, h3⟩
theorem text_stuck {B : Nat} {r : ByteArray} {f : Int} {w : World} (h : ReaderAt w B r f) (hr : r.size ≤ 1000000) (hf : f ≠ 0) :
    Calls Tryd.prog 78 #[.pointer (some ⟨B, 0, none⟩)] w (Left3 B w (.string ⟨#[]⟩) r f) :=
  (rtext_any B r f w h hr).mono fun e w' ⟨h1, h2, h3⟩ => by
    have hno : ¬ (f = 0 ∧ textN r ≤ r.size) := fun h => hf h.1
    have e1 : tailT (takeT r f (textN r)) = ⟨#[]⟩ := by unfold takeT; rw [if_neg hno]; rfl
    have e2 : takeR r f (textN r) = r := by unfold takeR; rw [if_neg hno]
    have e3 : takeF r f (textN r) = f := by unfold takeF; rw [if_neg hf]
    rw [e1] at h1; rw [e2, e3] at h2
    exact ⟨h1, h2, h3⟩
theorem text_short {B : Nat} {r : ByteArray} {w : World} (h : ReaderAt w B r 0) (hr : r.size ≤ 1000000) (hn : r.size < textN r) :
    Calls Tryd.prog 78 #[.pointer (some ⟨B, 0, none⟩)] w (Left3 B w (.string ⟨#[]⟩) r 2) :=
  (rtext_any B r 0 w h hr).mono fun e w' ⟨h1, h2, h3⟩ => by
    have hno : ¬ ((0 : Int) = 0 ∧ textN r ≤ r.size) := by omega
    have e1 : tailT (takeT r 0 (textN r)) = ⟨#[]⟩ := by unfold takeT; rw [if_neg hno]; rfl
    have e2 : takeR r 0 (textN r) = r := by unfold takeR; rw [if_neg hno]
    have e3 : takeF r 0 (textN r) = 2 := by unfold takeF; rw [if_pos rfl, if_neg (by omega)]
    rw [e1] at h1; rw [e2, e3] at h2
    exact ⟨h1, h2, h3⟩
theorem ext_ext (r : ByteArray) (n : Nat) (hn : n ≤ r.size) : (r.extract 0 n).extract 1 (r.extract 0 n).size = r.extract 1 n := by
  apply Go.WideShapes.bytes_inj
  rw [Lib.extract_data, Lib.extract_data, Lib.extract_data]
  have : (r.extract 0 n).size = n := by simp; omega
  rw [this]
  simp only [List.drop_zero, Nat.sub_zero]
  rw [List.drop_take, List.take_take, Nat.min_self]
theorem text_good {B : Nat} {r : ByteArray} {n : Nat} {w : World} (h : ReaderAt w B r 0) (hr : r.size ≤ 1000000) (ht : textN r = n) (hn : n ≤ r.size) :
    Calls Tryd.prog 78 #[.pointer (some ⟨B, 0, none⟩)] w (Left3 B w (.string (r.extract 1 n)) (r.extract n r.size) 0) :=
  (rtext_any B r 0 w h hr).mono fun e w' ⟨h1, h2, h3⟩ => by
    have h1n : 1 ≤ n := by rw [← ht]; unfold textN; omega
    have hyes : ((0 : Int) = 0 ∧ n ≤ r.size) := ⟨rfl, hn⟩
    have e1 : tailT (takeT r 0 (textN r)) = r.extract 1 n := by
      rw [ht]
      unfold takeT tailT
      have hsz : (r.extract 0 n).size = n := by simp; omega
      rw [if_pos hyes, if_neg (by rw [hsz]; omega), ext_ext r n hn]
    have e2 : takeR r 0 (textN r) = r.extract n r.size := by rw [ht]; unfold takeR; rw [if_pos hyes]
    have e3 : takeF r 0 (textN r) = 0 := by rw [ht]; unfold takeF; rw [if_pos rfl, if_pos hn]
    rw [e1] at h1; rw [e2, e3] at h2
    exact ⟨h1, h2, h3⟩
theorem raw_stuck {B : Nat} {r : ByteArray} {f n : Int} {w : World} (h : ReaderAt w B r f) (hr : r.size ≤ 1000000) (hf : f ≠ 0) :
    Calls Tryd.prog 80 #[.pointer (some ⟨B, 0, none⟩), .int .i64 n] w (Left3 B w (.string ⟨#[]⟩) r f) :=
  (rraw_any B r f n w h hr).mono fun e w' ⟨h1, h2, h3⟩ => by
    have e1 : rawT r f n = ⟨#[]⟩ := by unfold rawT takeT; split <;> simp [hf]
    have e2 : rawR r f n = r := by unfold rawR takeR; split <;> simp [hf]
    have e3 : rawF r f n = f := by unfold rawF takeF failF; split <;> simp
    rw [e1] at h1; rw [e2, e3] at h2
    exact ⟨h1, h2, h3⟩
theorem raw_inv {B : Nat} {r : ByteArray} {n : Int} {w : World} (h : ReaderAt w B r 0) (hr : r.size ≤ 1000000) (hn : n < 0) :
    Calls Tryd.prog 80 #[.pointer (some ⟨B, 0, none⟩), .int .i64 n] w (Left3 B w (.string ⟨#[]⟩) r 4) :=
  (rraw_any B r 0 n w h hr).mono fun e w' ⟨h1, h2, h3⟩ => by
    have e1 : rawT r 0 n = ⟨#[]⟩ := by unfold rawT; rw [if_pos hn]
    have e2 : rawR r 0 n = r := by unfold rawR; rw [if_pos hn]
    have e3 : rawF r 0 n = 4 := by unfold rawF; rw [if_pos hn]; rfl
    rw [e1] at h1; rw [e2, e3] at h2
    exact ⟨h1, h2, h3⟩
theorem raw_short {B : Nat} {r : ByteArray} {m : Nat} {w : World} (h : ReaderAt w B r 0) (hr : r.size ≤ 1000000) (hn : r.size < m) :
    Calls Tryd.prog 80 #[.pointer (some ⟨B, 0, none⟩), .int .i64 m] w (Left3 B w (.string ⟨#[]⟩) r 2) :=
  (rraw_any B r 0 m w h hr).mono fun e w' ⟨h1, h2, h3⟩ => by
    have hneg : ¬ (m : Int) < 0 := by omega
    have hno : ¬ ((0 : Int) = 0 ∧ m ≤ r.size) := by omega
    have e1 : rawT r 0 m = ⟨#[]⟩ := by unfold rawT takeT; rw [if_neg hneg, Int.toNat_natCast, if_neg hno]
    have e2 : rawR r 0 m = r := by unfold rawR takeR; rw [if_neg hneg, Int.toNat_natCast, if_neg hno]
    have e3 : rawF r 0 m = 2 := by unfold rawF takeF; rw [if_neg hneg, Int.toNat_natCast, if_pos rfl, if_neg (by omega)]
    rw [e1] at h1; rw [e2, e3] at h2
    exact ⟨h1, h2, h3⟩
theorem raw_good {B : Nat} {r : ByteArray} {m : Nat} {w : World} (h : ReaderAt w B r 0) (hr : r.size ≤ 1000000) (hn : m ≤ r.size) :
    Calls Tryd.prog 80 #[.pointer (some ⟨B, 0, none⟩), .int .i64 m] w (Left3 B w (.string (r.extract 0 m)) (r.extract m r.size) 0) :=
  (rraw_any B r 0 m w h hr).mono fun e w' ⟨h1, h2, h3⟩ => by
    have hneg : ¬ (m : Int) < 0 := by omega
    have hyes : ((0 : Int) = 0 ∧ m ≤ r.size) := ⟨rfl, hn⟩
    have e1 : rawT r 0 m = r.extract 0 m := by unfold rawT takeT; rw [if_neg hneg, Int.toNat_natCast, if_pos hyes]
    have e2 : rawR r 0 m = r.extract m r.size := by unfold rawR takeR; rw [if_neg hneg, Int.toNat_natCast, if_pos hyes]
    have e3 : rawF r 0 m = 0 := by unfold rawF takeF; rw [if_neg hneg, Int.toNat_natCast, if_pos rfl, if_pos hn]
    rw [e1] at h1; rw [e2, e3] at h2
    exact ⟨h1, h2, h3⟩
end Go.Proofs.YtodajejjhfpdmaaDoor
