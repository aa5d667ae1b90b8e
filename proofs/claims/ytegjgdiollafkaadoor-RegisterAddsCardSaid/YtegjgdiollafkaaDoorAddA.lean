/-
  What the register answers to Add, Put and CAS, and the blocks that a call leaves.
-/
import Derived.Test.YtegjgdiollafkaaDoorLawB
import Derived.BigRegion
namespace Go.Proofs.YtegjgdiollafkaaDoor
open Go.RowKit Go.Instr

theorem plain_good (k : Int) (s : ByteArray) (oh : Bool) (os : ByteArray) (n : Int) (hk : 1 ≤ k ∧ k ≤ 5) (hs : s.size ≤ 32) (hos : os.size ≤ 32) (ho : oh = true ∨ os.size = 0) : O.good ⟨k, 0, s, oh, os, n⟩ = true := by
  unfold O.good
  rw [decide_eq_true_iff]
  exact ⟨hk.1, hk.2, Int.le_refl 0, (by decide : (0 : Int) < 6), hs, hos, ho⟩
/-- Add of a number whose sum is in range. -/
theorem add_is (vh : Bool) (vs : ByteArray) (n s : Int) (t : ByteArray) (w : World) (hv : numV ⟨vh, vs⟩ = some s) (hs : vs.size ≤ 1000) (h : in64 (s + n)) (hn : in64 n) (he : Env w) (ht : t = ⟨(Lib.itoa (s + n)).toArray⟩) : Calls Tryd.prog 10 #[.agg #[.bool vh, .string vs], .agg #[.int .i64 5, .int .i64 0, .string ⟨#[]⟩, .bool false, .string ⟨#[]⟩, .int .i64 n]] w fun en w' => en = .returned (.tuple #[.agg #[.bool true, .string t], .agg #[.int .i64 0, .bool true, .string t], .bool true]) ∧ Below w.heap.size w w' := by
  have ha : applyV ⟨vh, vs⟩ ⟨5, 0, ⟨#[]⟩, false, ⟨#[]⟩, n⟩ = (⟨true, t⟩, 0, ⟨true, t⟩, true) := by
    have ho : over s n = false := by
      unfold over
      unfold in64 at h
      rw [decide_eq_false_iff_not]; omega
    unfold applyV
    rw [if_pos (plain_good 5 _ _ _ n (by decide) (by decide) (by decide) (.inr rfl)), if_neg (show ¬ (5 : Int) = 2 by decide), if_neg (show ¬ (5 : Int) = 3 by decide), if_neg (show ¬ (5 : Int) = 4 by decide), if_pos rfl]
    unfold addV
    rw [hv]
    simp only [ho]
    rw [if_neg (by decide), ht]
  have := apply_any ⟨vh, vs⟩ ⟨5, 0, ⟨#[]⟩, false, ⟨#[]⟩, n⟩ w (Nat.le_trans hs (by decide)) he hn
  rw [ha] at this
  exact this
theorem put_is (vh : Bool) (vs t : ByteArray) (w : World) (hs : vs.size ≤ 1000) (he : Env w) (ht : t.size ≤ 32) : Calls Tryd.prog 10 #[.agg #[.bool vh, .string vs], .agg #[.int .i64 2, .int .i64 0, .string t, .bool false, .string ⟨#[]⟩, .int .i64 0]] w fun en w' => en = .returned (.tuple #[.agg #[.bool true, .string t], .agg #[.int .i64 0, .bool false, .string ⟨#[]⟩], .bool true]) ∧ Below w.heap.size w w' := by
  have ha : applyV ⟨vh, vs⟩ ⟨2, 0, t, false, ⟨#[]⟩, 0⟩ = (⟨true, t⟩, 0, ⟨false, ⟨#[]⟩⟩, true) := by
    unfold applyV
    rw [if_pos (plain_good 2 _ _ _ 0 (by decide) ht (by decide) (.inr rfl)), if_pos rfl]
  have := apply_any ⟨vh, vs⟩ ⟨2, 0, t, false, ⟨#[]⟩, 0⟩ w (Nat.le_trans hs (by decide)) he (show in64 0 from ⟨by decide, by decide⟩)
  rw [ha] at this
  exact this
theorem cas_is (t u : ByteArray) (w : World) (he : Env w) (ht : t.size ≤ 32) (hu : u.size ≤ 32) (htu : t = u) : Calls Tryd.prog 10 #[.agg #[.bool true, .string t], .agg #[.int .i64 4, .int .i64 0, .string ⟨#[120]⟩, .bool true, .string u, .int .i64 0]] w fun en w' => en = .returned (.tuple #[.agg #[.bool true, .string ⟨#[120]⟩], .agg #[.int .i64 0, .bool false, .string ⟨#[]⟩], .bool true]) ∧ Below w.heap.size w w' := by
  have ha : applyV ⟨true, t⟩ ⟨4, 0, ⟨#[120]⟩, true, u, 0⟩ = (⟨true, ⟨#[120]⟩⟩, 0, ⟨false, ⟨#[]⟩⟩, true) := by
    unfold applyV
    rw [if_pos (plain_good 4 _ _ _ 0 (by decide) (by decide) hu (.inl rfl)), if_neg (show ¬ (4 : Int) = 2 by decide), if_neg (show ¬ (4 : Int) = 3 by decide), if_pos rfl, if_pos ⟨rfl, htu⟩]
  have := apply_any ⟨true, t⟩ ⟨4, 0, ⟨#[120]⟩, true, u, 0⟩ w (by show t.size ≤ _; omega) he (show in64 0 from ⟨by decide, by decide⟩)
  rw [ha] at this
  exact this
theorem cas_not (t u : ByteArray) (w : World) (he : Env w) (ht : t.size ≤ 32) (hu : u.size ≤ 32) (htu : ¬ t = u) : Calls Tryd.prog 10 #[.agg #[.bool true, .string t], .agg #[.int .i64 4, .int .i64 0, .string ⟨#[120]⟩, .bool true, .string u, .int .i64 0]] w fun en w' => en = .returned (.tuple #[.agg #[.bool true, .string t], .agg #[.int .i64 11, .bool true, .string t], .bool false]) ∧ Below w.heap.size w w' := by
  have ha : applyV ⟨true, t⟩ ⟨4, 0, ⟨#[120]⟩, true, u, 0⟩ = (⟨true, t⟩, 11, ⟨true, t⟩, false) := by
    unfold applyV
    rw [if_pos (plain_good 4 _ _ _ 0 (by decide) (by decide) hu (.inl rfl)), if_neg (show ¬ (4 : Int) = 2 by decide), if_neg (show ¬ (4 : Int) = 3 by decide), if_pos rfl, if_neg (fun h => htu h.2)]
  have := apply_any ⟨true, t⟩ ⟨4, 0, ⟨#[120]⟩, true, u, 0⟩ w (by show t.size ≤ _; omega) he (show in64 0 from ⟨by decide, by decide⟩)
  rw [ha] at this
  exact this
theorem numV_sum {s : Int} (h : in64 s) : numV ⟨true, ⟨(Lib.itoa s).toArray⟩⟩ = some s := numO_itoa s h
theorem sum_size {s : Int} (h : in64 s) : (ByteArray.mk (Lib.itoa s).toArray).size ≤ 1000 := by
  have hl := Lib.itoa_length_le s h.1 h.2
  show (Lib.itoa s).toArray.size ≤ 1000
  simp; omega
theorem itoa_0 : Lib.itoa 0 = [48] := by
  have h := Lib.itoa_nonneg 0
  rw [decDigits_one 0 (by decide)] at h
  exact h
theorem fz (W : World) (xs : Array Value) (T : TypeId) (x : Addr) : (W.alloc (.cells xs T)).frozen? x = W.frozen? x := by
  by_cases e : x.block = W.heap.size
  · simp only [World.alloc, World.frozen?, Array.getElem?_push]
    simp [e]
  · exact World.frozen?_alloc_old W _ x e
theorem set2b {w : World} {B : Nat} {a b x y : Value} {T : TypeId} (h : Blk w B #[a, b] T) : Blk ((w.setCell ⟨B, 0, none⟩ x).setCell ⟨B, 1, none⟩ y) B #[x, y] T := Blk.set (Blk.set h 0 x _ rfl) 1 y _ rfl
theorem set3b {w : World} {B : Nat} {a b c x y z : Value} {T : TypeId} (h : Blk w B #[a, b, c] T) : Blk (((w.setCell ⟨B, 0, none⟩ x).setCell ⟨B, 1, none⟩ y).setCell ⟨B, 2, none⟩ z) B #[x, y, z] T := Blk.set (Blk.set (Blk.set h 0 x _ rfl) 1 y _ rfl) 2 z _ rfl
theorem pre1 {wr w3 : World} {cs : Array Value} {T : TypeId} (hB : Below (wr.alloc (.cells cs T)).drew.heap.size (wr.alloc (.cells cs T)).drew w3) : Blk w3 wr.heap.size cs T := Blk.on (Blk.dr (Blk.new rfl)) hB
theorem pre2 {wr w3 : World} {cs cs' : Array Value} {T T' : TypeId} (hB : Below ((wr.alloc (.cells cs T)).alloc (.cells cs' T')).drew.heap.size ((wr.alloc (.cells cs T)).alloc (.cells cs' T')).drew w3) : Blk w3 wr.heap.size cs T ∧ Blk w3 (wr.heap.size + 1) cs' T' := ⟨Blk.on (Blk.dr (Blk.alloc (Blk.new rfl) _)) hB, Blk.on (Blk.dr (Blk.new (by simp))) hB⟩
def cut32 (s : ByteArray) : ByteArray := s.extract 0 (min (s.size : Int) 32).toNat
theorem cut32_size (s : ByteArray) : (cut32 s).size ≤ 32 := by
  unfold cut32
  rw [ByteArray.size_extract]
  omega
end Go.Proofs.YtegjgdiollafkaaDoor
