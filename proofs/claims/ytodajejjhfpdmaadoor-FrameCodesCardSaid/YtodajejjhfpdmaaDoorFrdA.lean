/-
  Frame's decoder in memory; numbers, flags, counts, keys, marks.
-/
import Derived.Test.YtodajejjhfpdmaaDoorFrdM
import Derived.StillTailTactics
namespace Go.Proofs.YtodajejjhfpdmaaDoor
open Go.RowKit Go.Instr

/-- The decoder in block D, its reader in block B. -/
def DecAt (w : World) (D B : Nat) (s : Sd) : Prop := Blk w D #[.pointer (some ⟨B, 0, none⟩), .bool s.wr] 100 ∧ ReaderAt w B s.r s.f ∧ s.ok
/-- All other blocks are as they were. -/
def KD (D B : Nat) (w w' : World) : Prop := w.heap.size ≤ w'.heap.size ∧ ∀ k, k < w.heap.size → k ≠ D → k ≠ B → w'.heap[k]? = w.heap[k]?
theorem KD.refl (D B : Nat) (w : World) : KD D B w w := ⟨Nat.le_refl _, fun _ _ _ _ => rfl⟩
theorem KD.trans {D B : Nat} {w w1 w2 : World} (h : KD D B w w1) (k : KD D B w1 w2) : KD D B w w2 :=
  ⟨Nat.le_trans h.1 k.1, fun i hi h1 h2 => (k.2 i (Nat.lt_of_lt_of_le hi h.1) h1 h2).trans (h.2 i hi h1 h2)⟩
theorem KD.of {D B : Nat} {w w' : World} (h : Below w.heap.size w w') : KD D B w w' := ⟨h.size, fun i hi _ _ => h.block i hi⟩
theorem KD.blk {D B : Nat} {w w' : World} (h : KD D B w w') {G : Nat} {cs : Array Value} {T : TypeId} (hb : Blk w G cs T) (h1 : G ≠ D ∧ G ≠ B) : Blk w' G cs T := (h.2 G hb.lt h1.1 h1.2).trans hb
theorem DecAt.on {w w' : World} {D B : Nat} {s : Sd} (h : DecAt w D B s) (hB : Below w.heap.size w w') : DecAt w' D B s := by
  refine ⟨h.1.on hB, ?_, h.2.2⟩
  have hlt : B < w.heap.size := (Array.getElem?_eq_some_iff.1 h.2.1).1
  exact (hB.block B hlt).trans h.2.1
theorem DecAt.ne {w : World} {D B : Nat} {s : Sd} (h : DecAt w D B s) : D ≠ B := by
  intro e
  subst e
  have h1 : w.heap[D]? = _ := h.1
  rw [h.2.1] at h1
  simp at h1
theorem DecAt.ltB {w : World} {D B : Nat} {s : Sd} (h : DecAt w D B s) : B < w.heap.size := (Array.getElem?_eq_some_iff.1 h.2.1).1
theorem DecAt.other {w : World} {D B G : Nat} {s : Sd} {cs : Array Value} {T : TypeId} (h : DecAt w D B s) (hb : Blk w G cs T) (h1 : T ≠ 100) (h2 : T ≠ 134) : G ≠ D ∧ G ≠ B := by
  constructor
  · rintro rfl
    have e : w.heap[G]? = _ := hb
    have e2 : w.heap[G]? = _ := h.1
    rw [e] at e2
    simp only [Option.some.injEq, Obj.cells.injEq] at e2
    exact h1 e2.2.1
  · rintro rfl
    have e : w.heap[G]? = _ := hb
    have e2 := h.2.1
    unfold ReaderAt at e2
    rw [e] at e2
    simp only [Option.some.injEq, Obj.cells.injEq] at e2
    exact h2 e2.2.1
/-- What a call of a decoder's method leaves. -/
def DecP (base D B : Nat) (w : World) (v : Value) (s : Sd) (e : Ending) (w' : World) : Prop :=
  e = .returned v ∧ DecAt w' D B s ∧ Below base w w' ∧ KD D B w w'
/-- What an operation on the reader leaves of the decoder. -/
theorem dec_grown {base D B : Nat} {w w' : World} {s : Sd} {r : ByteArray} {f : Int} (h : DecAt w D B s) (hb : base ≤ B) (hr : ReaderAt w' B r f) (hs : r.size ≤ 1000000) (hg : w.grownBy w' (some B)) :
    DecAt w' D B ⟨r, f, s.wr⟩ ∧ Below base w w' ∧ KD D B w w' :=
  ⟨⟨(hg.block D h.1.lt (fun e => h.ne (Option.some.inj e))).trans h.1, hr, hs⟩, (Below.refl base w).grown hg (Nat.le_trans hb (Nat.le_of_lt h.ltB)) (fun k e => by cases e; exact hb), hg.size, fun k hk _ h2 => hg.block k hk (fun e => h2 (Option.some.inj e))⟩
def NumP (base D B : Nat) (w : World) (v : Value) (s : Sd) (e : Ending) (w' : World) : Prop := DecP base D B w v s e w'
theorem dnum_any {base D B : Nat} {s : Sd} {w : World} (z : Nat) (zi : Int) (hz : zi = z) (h : DecAt w D B s) (hb : base ≤ B) :
    Calls Tryd.prog 75 #[.pointer (some ⟨B, 0, none⟩), .int .i64 zi] w (DecP base D B w (.int .u64 (dNum z s).1) (dNum z s).2) := by
  subst hz
  refine (rnum_any B s.r s.f z w h.2.1 h.2.2).mono ?_
  rintro e w' ⟨rfl, hr, hg⟩
  obtain ⟨h1, h2, h3⟩ := dec_grown h hb hr (Nat.le_trans (numR_le _ _ _) h.2.2) hg
  exact ⟨rfl, h1, h2, h3⟩
theorem dtext_any {base D B : Nat} {s : Sd} {w : World} (h : DecAt w D B s) (hb : base ≤ B) :
    Calls Tryd.prog 78 #[.pointer (some ⟨B, 0, none⟩)] w (DecP base D B w (.string (dText s).1) (dText s).2) := by
  refine (rtext_any B s.r s.f w h.2.1 h.2.2).mono ?_
  rintro e w' ⟨rfl, hr, hg⟩
  obtain ⟨h1, h2, h3⟩ := dec_grown h hb hr (Nat.le_trans (takeR_le _ _ _) h.2.2) hg
  exact ⟨rfl, h1, h2, h3⟩
theorem draw_any {base D B : Nat} {s : Sd} {w : World} (n : Nat) (ni : Int) (hn : ni = n) (h : DecAt w D B s) (hb : base ≤ B) :
    Calls Tryd.prog 80 #[.pointer (some ⟨B, 0, none⟩), .int .i64 ni] w (DecP base D B w (.string (dRaw n s).1) (dRaw n s).2) := by
  subst hn
  refine (rraw_any B s.r s.f n w h.2.1 h.2.2).mono ?_
  rintro e w' ⟨rfl, hr, hg⟩
  obtain ⟨h1, h2, h3⟩ := dec_grown h hb hr (Nat.le_trans (rawR_le _ _ _) h.2.2) hg
  exact ⟨rfl, h1, h2, h3⟩
theorem done_any {base D B : Nat} {s : Sd} {w : World} (h : DecAt w D B s) (hb : base ≤ B) :
    Calls Tryd.prog 55 #[.pointer (some ⟨D, 0, none⟩)] w (DecP base D B w (.int .u8 (dOne s).1) (dOne s).2) := by
  have c0 := h.1.cell 0
  simp at c0
  have H1 := Lib.hid (dnum_any (base := base) 1 1 rfl h hb)
  have hw : IntKind.u8.wrap ((dNum 1 s).1 : Int) = ((dNum 1 s).1 : Int) := IntWalk.u8_in _ (by have := dOne_lt s; unfold dOne at this; omega)
  clear h
  unfold dOne
  go_enter Tryd.func55, Tryd.ntmps55
  go_wp2_with fail
  with_reducible refine H1.out.mono ?_
  rintro e w2 ⟨rfl, hd, hb2, hk⟩
  go_wp2_with fail
  go_ret
  exact ⟨rfl, hd, hb2, hk⟩
theorem dfour_any {base D B : Nat} {s : Sd} {w : World} (h : DecAt w D B s) (hb : base ≤ B) :
    Calls Tryd.prog 56 #[.pointer (some ⟨D, 0, none⟩)] w (DecP base D B w (.int .u32 (dFour s).1) (dFour s).2) := by
  have c0 := h.1.cell 0
  simp at c0
  have H1 := Lib.hid (dnum_any (base := base) 4 4 rfl h hb)
  have hw : IntKind.u32.wrap ((dNum 4 s).1 : Int) = ((dNum 4 s).1 : Int) := IntWalk.u32_in _ (by have := dFour_lt s; unfold dFour at this; omega)
  clear h
  unfold dFour
  go_enter Tryd.func56, Tryd.ntmps56
  go_wp2_with fail
  with_reducible refine H1.out.mono ?_
  rintro e w2 ⟨rfl, hd, hb2, hk⟩
  go_wp2_with fail
  go_ret
  exact ⟨rfl, hd, hb2, hk⟩
theorem dcheck_any {base D B : Nat} {s : Sd} {w : World} (b : Bool) (h : DecAt w D B s) (hb : base ≤ D) :
    Calls Tryd.prog 76 #[.pointer (some ⟨D, 0, none⟩), .bool b] w (DecP base D B w (.tuple #[]) (s.ck b)) := by
  have HA := Lib.hid h
  cases b
  · have c1 := h.1.cell 1
    have f1 := h.1.frozen 1
    simp at c1
    clear h
    go_enter Tryd.func76, Tryd.ntmps76
    go_wp2_with fail
    go_end0
    have hA := HA.out
    refine ⟨rfl, ⟨?_, ?_, hA.2.2⟩, ?_, ?_⟩
    · exact hA.1.set 1 (.bool true) _ (by simp [Sd.ck])
    · exact (Below.heap_setCell w ⟨D, 1, none⟩ _ B hA.ne.symm).trans hA.2.1
    · exact (Below.refl _ _).setCell hb _
    · exact ⟨by simp, fun k hk h1 _ => Below.heap_setCell w ⟨D, 1, none⟩ _ k h1⟩
  · clear h
    go_enter Tryd.func76, Tryd.ntmps76
    go_wp2_with fail
    go_end0
    exact ⟨rfl, by simpa [Sd.ck] using HA.out, Below.refl _ _, KD.refl _ _ _⟩
/-- The decoder behind some operations of a call that began in world w. -/
def DQ (base D B : Nat) (w : World) (s : Sd) (w' : World) : Prop := DecAt w' D B s ∧ Below base w w' ∧ KD D B w w'
theorem DQ.start {base D B : Nat} {w : World} {s : Sd} (h : DecAt w D B s) : DQ base D B w s w := ⟨h, Below.refl _ _, KD.refl _ _ _⟩
theorem DQ.at {base D B : Nat} {w w' : World} {s : Sd} (h : DQ base D B w s w') : DecAt w' D B s := h.1
theorem DQ.call {base D B : Nat} {w w1 w2 : World} {s s1 : Sd} (h : DQ base D B w s w1) (k : DecAt w2 D B s1 ∧ Below base w1 w2 ∧ KD D B w1 w2) : DQ base D B w s1 w2 :=
  ⟨k.1, h.2.1.trans k.2.1, h.2.2.trans k.2.2⟩
theorem DQ.on {base D B : Nat} {w w1 w2 : World} {s : Sd} (h : DQ base D B w s w1) (hb : base ≤ B) (k : Below w1.heap.size w1 w2) : DQ base D B w s w2 :=
  ⟨h.1.on k, h.2.1.trans (k.mono (Nat.le_trans hb (Nat.le_of_lt h.1.ltB))), h.2.2.trans (KD.of k)⟩
theorem DQ.alloc {base D B : Nat} {w w1 : World} {s : Sd} (h : DQ base D B w s w1) (hb : base ≤ B) (o : Obj) : DQ base D B w s (w1.alloc o) := h.on hb ((Below.refl _ _).alloc (Nat.le_refl _) _)
theorem DQ.set {base D B : Nat} {w w1 : World} {s : Sd} (h : DQ base D B w s w1) (hb : base ≤ w.heap.size) (hD : D < w.heap.size) (hB : B < w.heap.size) {R : Nat} (hR : w.heap.size ≤ R) (j : Nat) (v : Value) : DQ base D B w s (w1.setCell ⟨R, j, none⟩ v) := by
  refine ⟨⟨h.1.1.set_other j v (by omega), (Below.heap_setCell w1 ⟨R, j, none⟩ v B (by simp; omega)).trans h.1.2.1, h.1.2.2⟩, h.2.1.setCell (by simp; omega) v, ⟨by simpa using h.2.2.1, fun k hk h1 h2 => ?_⟩⟩
  exact (Below.heap_setCell w1 ⟨R, j, none⟩ v k (by simp; omega)).trans (h.2.2.2 k hk h1 h2)
theorem DQ.size {base D B : Nat} {w w1 : World} {s : Sd} (h : DQ base D B w s w1) : w.heap.size ≤ w1.heap.size := h.2.2.1
theorem DQ.dec {base D B : Nat} {w w1 : World} {s : Sd} (h : DQ base D B w s w1) : DecAt w1 D B s := h.1
theorem DQ.blk {base D B : Nat} {w1 w2 : World} {s s1 : Sd} (k : DecAt w2 D B s1 ∧ Below base w1 w2 ∧ KD D B w1 w2) (h : DecAt w1 D B s) {G : Nat} {cs : Array Value} {T : TypeId} (hb : Blk w1 G cs T) (h1 : T ≠ 100) (h2 : T ≠ 134) : Blk w2 G cs T :=
  k.2.2.blk hb (h.other hb h1 h2)
end Go.Proofs.YtodajejjhfpdmaaDoor
