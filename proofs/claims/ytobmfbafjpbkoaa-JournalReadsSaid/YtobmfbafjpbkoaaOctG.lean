/-
  The reference's Get; the readers' calls case by case.
-/
import Derived.Test.YtobmfbafjpbkoaaOctT
namespace Go.Proofs.Ytobmfbafjpbkoaa
open Go.RowKit Go.Instr

/-- What a call on a reader leaves: its answer, what is left, the first error; nothing else is written. -/
def Left3 (B : Nat) (w : World) (v : Value) (r : ByteArray) (f : Int) (e : Ending) (w' : World) : Prop := e = .returned v ∧ ReaderAt w' B r f ∧ w.grownBy w' (some B)
theorem num_stuck {B : Nat} {r : ByteArray} {f z : Int} {w : World} (h : ReaderAt w B r f) (hr : r.size ≤ 1000000) (hf : f ≠ 0) :
    Calls Try.prog 46 #[.pointer (some ⟨B, 0, none⟩), .int .i64 z] w (Left3 B w (.int .u64 0) r f) :=
  (rnum_any B r f z w h hr).mono fun e w' ⟨h1, h2, h3⟩ => by
    have e1 : numN r f z = 0 := by unfold numN takeT; split <;> simp [hf, getN]
    have e2 : numR r f z = r := by unfold numR takeR; split <;> simp [hf]
    have e3 : numF r f z = f := by unfold numF takeF failF; split <;> simp
    rw [e1] at h1; rw [e2, e3] at h2
    exact ⟨h1, h2, h3⟩
theorem num_inv {B : Nat} {r : ByteArray} {z : Int} {w : World} (h : ReaderAt w B r 0) (hr : r.size ≤ 1000000) (hz : z < 1 ∨ 8 < z) :
    Calls Try.prog 46 #[.pointer (some ⟨B, 0, none⟩), .int .i64 z] w (Left3 B w (.int .u64 0) r 4) :=
  (rnum_any B r 0 z w h hr).mono fun e w' ⟨h1, h2, h3⟩ => by
    have hs : ¬ sizedB z = true := by simp [sizedB]; omega
    have e1 : numN r 0 z = 0 := by unfold numN; rw [if_neg hs]
    have e2 : numR r 0 z = r := by unfold numR; rw [if_neg hs]
    have e3 : numF r 0 z = 4 := by unfold numF; rw [if_neg hs]; rfl
    rw [e1] at h1; rw [e2, e3] at h2
    exact ⟨h1, h2, h3⟩
theorem num_short {B : Nat} {r : ByteArray} {m : Nat} {w : World} (h : ReaderAt w B r 0) (hr : r.size ≤ 1000000) (h1m : 1 ≤ m) (h8 : m ≤ 8) (hn : r.size < m) :
    Calls Try.prog 46 #[.pointer (some ⟨B, 0, none⟩), .int .i64 m] w (Left3 B w (.int .u64 0) r 2) :=
  (rnum_any B r 0 m w h hr).mono fun e w' ⟨h1, h2, h3⟩ => by
    have hs : sizedB (m : Int) = true := by simp [sizedB]; omega
    have hno : ¬ ((0 : Int) = 0 ∧ m ≤ r.size) := by omega
    have e1 : numN r 0 m = 0 := by unfold numN takeT; rw [if_pos hs, Int.toNat_natCast, if_neg hno]; rfl
    have e2 : numR r 0 m = r := by unfold numR takeR; rw [if_pos hs, Int.toNat_natCast, if_neg hno]
    have e3 : numF r 0 m = 2 := by unfold numF takeF; rw [if_pos hs, Int.toNat_natCast, if_pos rfl, if_neg (by omega)]
    rw [e1] at h1; rw [e2, e3] at h2
    exact ⟨h1, h2, h3⟩
theorem num_good {B : Nat} {r : ByteArray} {m : Nat} {w : World} (h : ReaderAt w B r 0) (hr : r.size ≤ 1000000) (h1m : 1 ≤ m) (h8 : m ≤ 8) (hn : m ≤ r.size) :
    Calls Try.prog 46 #[.pointer (some ⟨B, 0, none⟩), .int .i64 m] w (Left3 B w (.int .u64 (getN (r.extract 0 m).data.toList)) (r.extract m r.size) 0) :=
  (rnum_any B r 0 m w h hr).mono fun e w' ⟨h1, h2, h3⟩ => by
    have hs : sizedB (m : Int) = true := by simp [sizedB]; omega
    have hyes : ((0 : Int) = 0 ∧ m ≤ r.size) := ⟨rfl, hn⟩
    have e1 : numN r 0 m = getN (r.extract 0 m).data.toList := by unfold numN takeT; rw [if_pos hs, Int.toNat_natCast, if_pos hyes]
    have e2 : numR r 0 m = r.extract m r.size := by unfold numR takeR; rw [if_pos hs, Int.toNat_natCast, if_pos hyes]
    have e3 : numF r 0 m = 0 := by unfold numF takeF; rw [if_pos hs, Int.toNat_natCast, if_pos rfl, if_pos hn]
    rw [e1] at h1; rw [e2, e3] at h2
    exact ⟨h1, h2, h3⟩
theorem ext_ext (r : ByteArray) (n : Nat) (hn : n ≤ r.size) : (r.extract 0 n).extract 1 (r.extract 0 n).size = r.extract 1 n := by
  apply Go.WideShapes.bytes_inj
  rw [Lib.extract_data, Lib.extract_data, Lib.extract_data]
  have : (r.extract 0 n).size = n := by simp; omega
  rw [this]
  simp only [List.drop_zero, Nat.sub_zero]
  rw [List.drop_take, List.take_take, Nat.min_self]
theorem raw_stuck {B : Nat} {r : ByteArray} {f n : Int} {w : World} (h : ReaderAt w B r f) (hr : r.size ≤ 1000000) (hf : f ≠ 0) :
    Calls Try.prog 45 #[.pointer (some ⟨B, 0, none⟩), .int .i64 n] w (Left3 B w (.string ⟨#[]⟩) r f) :=
  (rraw_any B r f n w h hr).mono fun e w' ⟨h1, h2, h3⟩ => by
    have e1 : rawT r f n = ⟨#[]⟩ := by unfold rawT takeT; split <;> simp [hf]
    have e2 : rawR r f n = r := by unfold rawR takeR; split <;> simp [hf]
    have e3 : rawF r f n = f := by unfold rawF takeF failF; split <;> simp
    rw [e1] at h1; rw [e2, e3] at h2
    exact ⟨h1, h2, h3⟩
theorem raw_inv {B : Nat} {r : ByteArray} {n : Int} {w : World} (h : ReaderAt w B r 0) (hr : r.size ≤ 1000000) (hn : n < 0) :
    Calls Try.prog 45 #[.pointer (some ⟨B, 0, none⟩), .int .i64 n] w (Left3 B w (.string ⟨#[]⟩) r 4) :=
  (rraw_any B r 0 n w h hr).mono fun e w' ⟨h1, h2, h3⟩ => by
    have e1 : rawT r 0 n = ⟨#[]⟩ := by unfold rawT; rw [if_pos hn]
    have e2 : rawR r 0 n = r := by unfold rawR; rw [if_pos hn]
    have e3 : rawF r 0 n = 4 := by unfold rawF; rw [if_pos hn]; rfl
    rw [e1] at h1; rw [e2, e3] at h2
    exact ⟨h1, h2, h3⟩
theorem raw_short {B : Nat} {r : ByteArray} {m : Nat} {w : World} (h : ReaderAt w B r 0) (hr : r.size ≤ 1000000) (hn : r.size < m) :
    Calls Try.prog 45 #[.pointer (some ⟨B, 0, none⟩), .int .i64 m] w (Left3 B w (.string ⟨#[]⟩) r 2) :=
  (rraw_any B r 0 m w h hr).mono fun e w' ⟨h1, h2, h3⟩ => by
    have hneg : ¬ (m : Int) < 0 := by omega
    have hno : ¬ ((0 : Int) = 0 ∧ m ≤ r.size) := by omega
    have e1 : rawT r 0 m = ⟨#[]⟩ := by unfold rawT takeT; rw [if_neg hneg, Int.toNat_natCast, if_neg hno]
    have e2 : rawR r 0 m = r := by unfold rawR takeR; rw [if_neg hneg, Int.toNat_natCast, if_neg hno]
    have e3 : rawF r 0 m = 2 := by unfold rawF takeF; rw [if_neg hneg, Int.toNat_natCast, if_pos rfl, if_neg (by omega)]
    rw [e1] at h1; rw [e2, e3] at h2
    exact ⟨h1, h2, h3⟩
theorem raw_good {B : Nat} {r : ByteArray} {m : Nat} {w : World} (h : ReaderAt w B r 0) (hr : r.size ≤ 1000000) (hn : m ≤ r.size) :
    Calls Try.prog 45 #[.pointer (some ⟨B, 0, none⟩), .int .i64 m] w (Left3 B w (.string (r.extract 0 m)) (r.extract m r.size) 0) :=
  (rraw_any B r 0 m w h hr).mono fun e w' ⟨h1, h2, h3⟩ => by
    have hneg : ¬ (m : Int) < 0 := by omega
    have hyes : ((0 : Int) = 0 ∧ m ≤ r.size) := ⟨rfl, hn⟩
    have e1 : rawT r 0 m = r.extract 0 m := by unfold rawT takeT; rw [if_neg hneg, Int.toNat_natCast, if_pos hyes]
    have e2 : rawR r 0 m = r.extract m r.size := by unfold rawR takeR; rw [if_neg hneg, Int.toNat_natCast, if_pos hyes]
    have e3 : rawF r 0 m = 0 := by unfold rawF takeF; rw [if_neg hneg, Int.toNat_natCast, if_pos rfl, if_pos hn]
    rw [e1] at h1; rw [e2, e3] at h2
    exact ⟨h1, h2, h3⟩
end Go.Proofs.Ytobmfbafjpbkoaa
