/-
  The walks of octet's Reader: what each call returns, what the reader holds behind it, and that nothing else in memory changes.
-/
import Derived.Test.YtodajejjhfpdmaaDoorOctA
namespace Go.Proofs.YtodajejjhfpdmaaDoor
open Go.RowKit Go.Instr

/-- Block B is a reader: what is left, and its first error. -/
def ReaderAt (w : World) (B : Nat) (r : ByteArray) (f : Int) : Prop := w.heap[B]? = some (.cells #[.string r, .int .i64 f] 134)
theorem rd0 {w : World} {B : Nat} {r : ByteArray} {f : Int} (h : ReaderAt w B r f) : w.cell? ⟨B, 0, none⟩ = some (.string r) := cell_of_row w B 0 _ 134 (0, 0) h
theorem rd1 {w : World} {B : Nat} {r : ByteArray} {f : Int} (h : ReaderAt w B r f) : w.cell? ⟨B, 1, none⟩ = some (.int .i64 f) := cell_of_row w B 1 _ 134 (0, 0) h
theorem rdf {w : World} {B : Nat} {r : ByteArray} {f : Int} (j : Nat) (h : ReaderAt w B r f) : w.frozen? ⟨B, j, none⟩ = false := by
  unfold World.frozen?
  rw [h]
  simp
theorem rd_set0 {w : World} {B : Nat} {r r' : ByteArray} {f : Int} (h : ReaderAt w B r f) : ReaderAt (w.setCell ⟨B, 0, none⟩ (.string r')) B r' f := by
  unfold ReaderAt at h ⊢
  simp [World.setCell, Array.getElem?_modify, h]
theorem rd_set1 {w : World} {B : Nat} {r : ByteArray} {f f' : Int} (h : ReaderAt w B r f) : ReaderAt (w.setCell ⟨B, 1, none⟩ (.int .i64 f')) B r f' := by
  unfold ReaderAt at h ⊢
  simp [World.setCell, Array.getElem?_modify, h]
theorem grown_set (w : World) (B j : Nat) (v : Value) : w.grownBy (w.setCell ⟨B, j, none⟩ v) (some B) :=
  ⟨rfl, rfl, rfl, by simp, fun k _ hk => Below.heap_setCell w ⟨B, j, none⟩ v k (fun e => hk (by rw [e]))⟩
theorem grown_same (w : World) (row : Option Nat) : w.grownBy w row := ⟨rfl, rfl, rfl, Nat.le_refl _, fun _ _ _ => rfl⟩
theorem grown_trans {a b c : World} {row : Option Nat} (h : a.grownBy b row) (k : b.grownBy c row) : a.grownBy c row :=
  ⟨k.os.trans h.os, k.tape.trans h.tape, k.output.trans h.output, Nat.le_trans h.size k.size, fun i hi hr => (k.block i (Nat.lt_of_lt_of_le hi h.size) hr).trans (h.block i hi hr)⟩
def failF (f e : Int) : Int := if f = 0 then e else f
set_option maxHeartbeats 400000 in
theorem fail_any (B : Nat) (r : ByteArray) (f e : Int) (w : World) (h : ReaderAt w B r f) :
    Calls Tryd.prog 82 #[.pointer (some ⟨B, 0, none⟩), .int .i64 e] w fun en w' => en = .returned (.tuple #[]) ∧ ReaderAt w' B r (failF f e) ∧ w.grownBy w' (some B) := by
  have c1 := rd1 h
  have z1 := rdf 1 h
  have HR := Lib.hid h
  clear h
  by_cases hf : f = 0
  · subst hf
    go_enter Tryd.func82, Tryd.ntmps82
    go_wp2
    go_end0
    exact ⟨rfl, by simpa [failF] using rd_set1 HR.out, grown_set _ _ _ _⟩
  · have hb : (f == 0) = false := by simpa using hf
    have HF : Hid (failF f e = f) := if_neg hf
    clear hf
    go_enter Tryd.func82, Tryd.ntmps82
    go_wp2
    go_end0
    exact ⟨rfl, by rw [HF.out]; exact HR.out, grown_same _ _⟩
set_option maxHeartbeats 400000 in
theorem fail_nil (e : Int) (w : World) :
    Calls Tryd.prog 82 #[.pointer none, .int .i64 e] w fun en w' => en = .returned (.tuple #[]) ∧ w = w' := by
  go_enter Tryd.func82, Tryd.ntmps82
  go_wp2
  go_end0
  exact ⟨rfl, rfl⟩
set_option maxHeartbeats 400000 in
theorem take_nil (n : Int) (w : World) :
    Calls Tryd.prog 83 #[.pointer none, .int .i64 n] w fun en w' => en = .returned (.string ⟨#[]⟩) ∧ w = w' := by
  go_enter Tryd.func83, Tryd.ntmps83
  go_wp2
  go_ret
  exact ⟨rfl, rfl⟩
def takeT (r : ByteArray) (f : Int) (n : Nat) : ByteArray := if f = 0 ∧ n ≤ r.size then r.extract 0 n else ⟨#[]⟩
def takeR (r : ByteArray) (f : Int) (n : Nat) : ByteArray := if f = 0 ∧ n ≤ r.size then r.extract n r.size else r
def takeF (r : ByteArray) (f : Int) (n : Nat) : Int := if f = 0 then if n ≤ r.size then 0 else 2 else f
set_option maxHeartbeats 400000 in
theorem take_any (B : Nat) (r : ByteArray) (f : Int) (n : Nat) (w : World) (h : ReaderAt w B r f) (_hr : r.size ≤ 1000000) :
    Calls Tryd.prog 83 #[.pointer (some ⟨B, 0, none⟩), .int .i64 n] w fun en w' => en = .returned (.string (takeT r f n)) ∧ ReaderAt w' B (takeR r f n) (takeF r f n) ∧ w.grownBy w' (some B) := by
  have c0 := rd0 h
  have c1 := rd1 h
  have z0 := rdf 0 h
  have HR := Lib.hid h
  clear h
  unfold takeT takeR takeF
  by_cases hf : f = 0
  · subst hf
    by_cases hn : n ≤ r.size
    · rw [if_pos ⟨rfl, hn⟩, if_pos ⟨rfl, hn⟩, if_pos rfl, if_pos hn]
      go_enter Tryd.func83, Tryd.ntmps83
      go_wp2
      go_ret
      exact ⟨rfl, rd_set0 HR.out, grown_set _ _ _ _⟩
    · rw [if_neg (fun h => hn h.2), if_neg (fun h => hn h.2), if_pos rfl, if_neg hn]
      have hni : (r.size : Int) < (n : Int) := by omega
      clear z0
      go_enter Tryd.func83, Tryd.ntmps83
      go_wp2_with (go_at_call 82; refine (fail_any _ _ _ _ _ HR.out).mono ?_; rintro en w1 ⟨rfl, hR, hG⟩)
      go_ret
      exact ⟨rfl, hR, hG⟩
  · rw [if_neg (fun h => hf h.1), if_neg (fun h => hf h.1), if_neg hf]
    have hb : (f == 0) = false := by simpa using hf
    clear hf z0
    go_enter Tryd.func83, Tryd.ntmps83
    go_wp2
    go_ret
    exact ⟨rfl, HR.out, grown_same _ _⟩
end Go.Proofs.YtodajejjhfpdmaaDoor
