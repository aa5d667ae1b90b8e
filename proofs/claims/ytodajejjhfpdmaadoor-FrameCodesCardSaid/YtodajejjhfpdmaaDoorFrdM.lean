/-
  Frame's decoder as functions of what is left, the error, and whether something is wrong.
-/
import Derived.Test.YtodajejjhfpdmaaDoorFrmI
import Derived.Test.YtodajejjhfpdmaaDoorOctT
namespace Go.Proofs.YtodajejjhfpdmaaDoor
open Go.RowKit Go.Instr

/-- What is left to read, the error, whether something is wrong. -/
structure Sd where
  r : ByteArray
  f : Int
  wr : Bool
def Sd.ck (s : Sd) (b : Bool) : Sd := ⟨s.r, s.f, s.wr || !b⟩
def dNum (z : Nat) (s : Sd) : Nat × Sd := (numN s.r s.f z, ⟨numR s.r s.f z, numF s.r s.f z, s.wr⟩)
def dOne (s : Sd) : Nat × Sd := dNum 1 s
def dFour (s : Sd) : Nat × Sd := dNum 4 s
def dFlag (s : Sd) : Bool × Sd := ((dOne s).1 == 1, (dOne s).2.ck (decide ((dOne s).1 ≤ 1)))
def dCount (m : Nat) (s : Sd) : Nat × Sd := if m < (dOne s).1 then (0, (dOne s).2.ck false) else dOne s
def dKey (s : Sd) : Nat × Sd := ((dOne s).1, (dOne s).2.ck (decide ((dOne s).1 < 6)))
def dMark (s : Sd) : (Nat × Nat) × Sd := (((dFour s).1, (dOne (dFour s).2).1), (dOne (dFour s).2).2)
def dStamp (s : Sd) : (Nat × Nat × Nat) × Sd := (((dMark s).1.1, (dMark s).1.2, (dOne (dMark s).2).1), (dOne (dMark s).2).2)
def dText (s : Sd) : ByteArray × Sd := (tailT (takeT s.r s.f (textN s.r)), ⟨takeR s.r s.f (textN s.r), takeF s.r s.f (textN s.r), s.wr⟩)
def dValue (s : Sd) : (Bool × ByteArray) × Sd := (((dFlag s).1, (dText (dFlag s).2).1), (dText (dFlag s).2).2.ck (valueB (dFlag s).1 (dText (dFlag s).2).1))
def dHead (s : Sd) : (Nat × Nat × Nat) × Sd := (((dOne s).1, (dOne (dOne s).2).1, (dOne (dOne (dOne s).2).2).1), (dOne (dOne (dOne s).2).2).2)
def dCmd (s : Sd) : CmdV × Sd :=
  let a := dHead s
  let d := dFour a.2
  let e := dFour d.2
  (⟨a.1.1, a.1.2.1, a.1.2.2, d.1, e.1⟩, e.2)
def dMem (s : Sd) : Mem × Sd := (⟨(dOne s).1, (dOne (dOne s).2).1, (dFlag (dOne (dOne s).2).2).1⟩, (dFlag (dOne (dOne s).2).2).2)
def dMems (s : Sd) : Nat → List Mem × Sd
  | 0 => ([], s)
  | n + 1 => ((dMems s n).1 ++ [(dMem (dMems s n).2).1], (dMem (dMems s n).2).2)
def dEnt (s : Sd) : Ent × Sd := (⟨(dFour s).1, (dMark (dFour s).2).1.1, (dMark (dFour s).2).1.2, (dCmd (dMark (dFour s).2).2).1⟩, (dCmd (dMark (dFour s).2).2).2)
def dEnts (s : Sd) : Nat → List Ent × Sd
  | 0 => ([], s)
  | n + 1 => ((dEnts s n).1 ++ [(dEnt (dEnts s n).2).1], (dEnt (dEnts s n).2).2)
def dEntries (s : Sd) : List Ent × Sd := dEnts (dCount 16 s).2 (dCount 16 s).1
def dRaw (n : Nat) (s : Sd) : ByteArray × Sd := (rawT s.r s.f n, ⟨rawR s.r s.f n, rawF s.r s.f n, s.wr⟩)
def byteN (t : ByteArray) (i : Nat) : Nat := (t.data.toList.getD i 0).toNat
def lvOf (t : ByteArray) : Lv := ⟨byteN t 0, byteN t 1, byteN t 2, byteN t 3, byteN t 4, byteN t 5, byteN t 6, byteN t 7⟩
def dView (s : Sd) : (Nat × List Mem × Lv) × Sd :=
  let a := dFour s
  let c := dCount 8 a.2
  let m := dMems c.2 c.1
  let t := dRaw 8 m.2
  ((a.1, m.1, lvOf t.1), t.2)
/-- One field of a frame, by its letter. -/
def dField (c : Nat) (f : Fr) (s : Sd) : Fr × Sd :=
  if c = 69 then ({ f with epoch := (dFour s).1 }, (dFour s).2)
  else if c = 75 then ({ f with key := (dKey s).1 }, (dKey s).2)
  else if c = 84 then ({ f with sn := (dStamp s).1.1, sb := (dStamp s).1.2.1, sl := (dStamp s).1.2.2 }, (dStamp s).2)
  else if c = 86 then ({ f with has := (dValue s).1.1, text := (dValue s).1.2 }, (dValue s).2)
  else if c = 77 then ({ f with rmw := (dFlag s).1 }, (dFlag s).2)
  else if c = 68 then ({ f with dir := (dOne s).1 }, (dOne s).2)
  else if c = 70 then ({ f with flag := (dFlag s).1 }, (dFlag s).2)
  else if c = 76 then ({ f with life := (dOne s).1 }, (dOne s).2)
  else if c = 82 then ({ f with req := (dFour s).1 }, (dFour s).2)
  else if c = 87 then ({ f with ve := (dView s).1.1, ms := (dView s).1.2.1, lv := (dView s).1.2.2 }, (dView s).2)
  else if c = 66 then ({ f with bn := (dMark s).1.1, bb := (dMark s).1.2 }, (dMark s).2)
  else if c = 83 then ({ f with slot := (dFour s).1 }, (dFour s).2)
  else if c = 78 then ({ f with es := (dEntries s).1 }, (dEntries s).2)
  else if c = 67 then ({ f with cmd := (dCmd s).1 }, (dCmd s).2)
  else (f, s)

/-! ### bounds -/
def Sd.ok (s : Sd) : Prop := s.r.size ≤ 1000000
theorem numN_lt (r : ByteArray) (f : Int) (z : Nat) : numN r f z < 256 ^ z := by
  have h1 : 1 ≤ 256 ^ z := Nat.one_le_iff_ne_zero.2 (by simp)
  unfold numN
  split
  · have h := getN_lt (takeT r f ((z : Int).toNat)).data.toList
    have h2 : (takeT r f ((z : Int).toNat)).data.toList.length ≤ z := by
      have := takeT_size r f ((z : Int).toNat)
      simpa using this
    exact Nat.lt_of_lt_of_le h (Nat.pow_le_pow_right (by decide) h2)
  · omega
theorem takeR_le (r : ByteArray) (f : Int) (n : Nat) : (takeR r f n).size ≤ r.size := by
  unfold takeR
  split
  · simp [ByteArray.size_extract]
  · exact Nat.le_refl _
theorem numR_le (r : ByteArray) (f z : Int) : (numR r f z).size ≤ r.size := by
  unfold numR
  split
  · exact takeR_le _ _ _
  · exact Nat.le_refl _
theorem rawR_le (r : ByteArray) (f z : Int) : (rawR r f z).size ≤ r.size := by
  unfold rawR
  split
  · exact Nat.le_refl _
  · exact takeR_le _ _ _
theorem Sd.ok.ck {s : Sd} (h : s.ok) (b : Bool) : (s.ck b).ok := h
theorem dNum_ok {z : Nat} {s : Sd} (h : s.ok) : (dNum z s).2.ok := Nat.le_trans (numR_le _ _ _) h
theorem dOne_ok {s : Sd} (h : s.ok) : (dOne s).2.ok := dNum_ok h
theorem dFour_ok {s : Sd} (h : s.ok) : (dFour s).2.ok := dNum_ok h
theorem dOne_lt (s : Sd) : (dOne s).1 < 256 := numN_lt s.r s.f 1
theorem dFour_lt (s : Sd) : (dFour s).1 < 4294967296 := numN_lt s.r s.f 4
theorem dFlag_ok {s : Sd} (h : s.ok) : (dFlag s).2.ok := (dOne_ok h).ck _
theorem dKey_ok {s : Sd} (h : s.ok) : (dKey s).2.ok := (dOne_ok h).ck _
theorem dKey_lt (s : Sd) : (dKey s).1 < 256 := dOne_lt s
theorem dCount_ok {m : Nat} {s : Sd} (h : s.ok) : (dCount m s).2.ok := by
  unfold dCount
  split
  · exact (dOne_ok h).ck _
  · exact dOne_ok h
theorem dCount_le (m : Nat) (s : Sd) : (dCount m s).1 ≤ m := by
  unfold dCount
  split
  · exact Nat.zero_le _
  · omega
theorem dMark_ok {s : Sd} (h : s.ok) : (dMark s).2.ok := dOne_ok (dFour_ok h)
theorem dStamp_ok {s : Sd} (h : s.ok) : (dStamp s).2.ok := dOne_ok (dMark_ok h)
theorem dText_ok {s : Sd} (h : s.ok) : (dText s).2.ok := Nat.le_trans (takeR_le _ _ _) h
theorem dValue_ok {s : Sd} (h : s.ok) : (dValue s).2.ok := (dText_ok (dFlag_ok h)).ck _
theorem dHead_ok {s : Sd} (h : s.ok) : (dHead s).2.ok := dOne_ok (dOne_ok (dOne_ok h))
theorem dCmd_ok {s : Sd} (h : s.ok) : (dCmd s).2.ok := dFour_ok (dFour_ok (dHead_ok h))
theorem dCmd_fine (s : Sd) : (dCmd s).1.fine := ⟨dOne_lt _, dOne_lt _, dOne_lt _, dFour_lt _, dFour_lt _⟩
theorem dMem_ok {s : Sd} (h : s.ok) : (dMem s).2.ok := dFlag_ok (dOne_ok (dOne_ok h))
theorem dMem_fine (s : Sd) : (dMem s).1.fine := ⟨dOne_lt _, dOne_lt _⟩
theorem dMems_ok {s : Sd} (h : s.ok) (n : Nat) : (dMems s n).2.ok := by
  induction n with
  | zero => exact h
  | succ n ih => exact dMem_ok ih
theorem dMems_fine (s : Sd) (n : Nat) : ∀ x ∈ (dMems s n).1, x.fine := by
  induction n with
  | zero => intro x hx; cases hx
  | succ n ih =>
    intro x hx
    rcases List.mem_append.1 hx with h | h
    · exact ih x h
    · rw [List.mem_singleton.1 h]; exact dMem_fine _
theorem dMems_len (s : Sd) (n : Nat) : (dMems s n).1.length = n := by
  induction n with
  | zero => rfl
  | succ n ih => simp [dMems, ih]
theorem dEnt_ok {s : Sd} (h : s.ok) : (dEnt s).2.ok := dCmd_ok (dMark_ok (dFour_ok h))
theorem dEnt_fine (s : Sd) : (dEnt s).1.fine := ⟨dFour_lt _, dFour_lt _, dOne_lt _, dCmd_fine _⟩
theorem dEnts_ok {s : Sd} (h : s.ok) (n : Nat) : (dEnts s n).2.ok := by
  induction n with
  | zero => exact h
  | succ n ih => exact dEnt_ok ih
theorem dEnts_fine (s : Sd) (n : Nat) : ∀ x ∈ (dEnts s n).1, x.fine := by
  induction n with
  | zero => intro x hx; cases hx
  | succ n ih =>
    intro x hx
    rcases List.mem_append.1 hx with h | h
    · exact ih x h
    · rw [List.mem_singleton.1 h]; exact dEnt_fine _
theorem dEnts_len (s : Sd) (n : Nat) : (dEnts s n).1.length = n := by
  induction n with
  | zero => rfl
  | succ n ih => simp [dEnts, ih]
theorem dEntries_ok {s : Sd} (h : s.ok) : (dEntries s).2.ok := dEnts_ok (dCount_ok h) _
theorem dEntries_len (s : Sd) : (dEntries s).1.length ≤ 16 := by
  unfold dEntries
  rw [dEnts_len]
  exact dCount_le _ _
theorem dRaw_ok {n : Nat} {s : Sd} (h : s.ok) : (dRaw n s).2.ok := Nat.le_trans (rawR_le s.r s.f n) h
theorem byteN_lt (t : ByteArray) (i : Nat) : byteN t i < 256 := UInt8.toNat_lt _
theorem lvOf_fine (t : ByteArray) : (lvOf t).fine := ⟨byteN_lt _ _, byteN_lt _ _, byteN_lt _ _, byteN_lt _ _, byteN_lt _ _, byteN_lt _ _, byteN_lt _ _, byteN_lt _ _⟩
theorem dView_ok {s : Sd} (h : s.ok) : (dView s).2.ok := dRaw_ok (dMems_ok (dCount_ok (dFour_ok h)) _)
theorem dView_len (s : Sd) : (dView s).1.2.1.length ≤ 8 := by
  show (dMems _ _).1.length ≤ 8
  rw [dMems_len]
  exact dCount_le _ _
end Go.Proofs.YtodajejjhfpdmaaDoor
