/-
  Frame's validity: the letters of a kind, fits, valid.
-/
import Derived.Test.YtodajejjhfpdmaaDoorFrmI
import Derived.Lib.OthersKept
namespace Go.Proofs.YtodajejjhfpdmaaDoor
open Go.RowKit Go.Instr

/-- The letters of a kind. -/
def letK (k : Nat) : List Nat :=
  match k with
  | 1 => [69, 75, 84, 86, 77, 68]
  | 2 => [69, 75, 84, 70]
  | 3 => [69, 75, 84]
  | 4 => [69, 75]
  | 5 => [69, 75, 84, 86, 77, 70]
  | 6 => [69, 76, 82, 70]
  | 7 => [87]
  | 8 => [69, 76, 82]
  | 9 => [66, 83]
  | 10 => [66, 83, 78]
  | 11 => [66]
  | 12 => [66, 83, 67]
  | 13 => [66, 83]
  | 14 => [83, 67]
  | 15 => [83, 70]
  | 16 => [83, 87]
  | _ => []
def letS (k : Nat) : ByteArray := ⟨((letK k).map UInt8.ofNat).toArray⟩
/-- The table of the fields holds what its initialiser lays. -/
def FEnv (w : World) : Prop := ∀ k, k < 17 → w.cell? ⟨0, k, none⟩ = some (.string (letS k))
theorem FEnv.on {w w' : World} {b : Nat} (h : FEnv w) (hB : Below b w w') (hb : 0 < b) : FEnv w' := fun k hk => (hB.cell (p := ⟨0, k, none⟩) hb).trans (h k hk)
theorem FEnv.pos {w : World} (h : FEnv w) : 0 < w.heap.size := World.block_lt_of_cell? _ _ (h 0 (by decide))
theorem letS_size (k : Nat) : (letS k).size = (letK k).length := by simp [letS, ByteArray.size]
theorem letK_lt (k : Nat) : ∀ c ∈ letK k, c < 128 := by
  by_cases h : k < 17
  · revert k
    decide
  · have : letK k = [] := by
      unfold letK
      split <;> first | omega | rfl
    rw [this]
    intro c hc
    cases hc
def l14 : List Nat := [69, 75, 84, 86, 77, 68, 70, 76, 82, 87, 66, 83, 78, 67]
theorem letK_in (k : Nat) : ∀ c ∈ letK k, c ∈ l14 := by
  by_cases h : k < 17
  · revert k
    decide
  · have : letK k = [] := by
      unfold letK
      split <;> first | omega | rfl
    rw [this]
    intro c hc
    cases hc
theorem letS_at (k i : Nat) (h : i < (letK k).length) (h' : i < (letS k).size) : ((letS k)[i]'h').toNat = (letK k)[i] := by
  have h3 : i < ((letK k).map UInt8.ofNat).length := by simpa using h
  have h2 : (letS k)[i]'h' = ((letK k).map UInt8.ofNat)[i]'h3 := rfl
  rw [h2, List.getElem_map]
  have := letK_lt k _ (List.getElem_mem h)
  simp
  omega
def fitsF (f : Fr) (c : Nat) : Bool :=
  if c = 75 then decide (f.key < 6) else if c = 86 then valueB f.has f.text else if c = 87 then decide (f.ms.length ≤ 8) else if c = 78 then decide (f.es.length ≤ 16) else true
def validF (f : Fr) : Bool := knownB f.kind && (letK f.kind).all (fitsF f)
def retB (b : Bool) (w : World) (e : Ending) (w' : World) : Prop := e = .returned (.bool b) ∧ Below w.heap.size w w'
set_option maxHeartbeats 1000000 in
theorem ffits_any (f : Fr) (a1 a2 : Option Addr) (c1 c2 c : Nat) (w : World) (ht : f.text.size ≤ maxLen) :
    Calls Tryd.prog 41 #[.agg (frC f (.slice a1 f.ms.length c1) (.slice a2 f.es.length c2)), .int .i32 c] w (retB (fitsF f c) w) := by
  have hB : Below w.heap.size w (w.alloc (.cells (frC f (.slice a1 f.ms.length c1) (.slice a2 f.es.length c2)) 47)) := (Below.refl _ _).alloc (Nat.le_refl _) _
  by_cases h1 : c = 75
  · subst h1
    have HB := Lib.hid hB
    clear hB
    rw [show fitsF f 75 = decide (f.key < 6) from rfl]
    go_enter Tryd.func41, Tryd.ntmps41
    go_wp2_with fail
    with_reducible refine (isKey_any _ _).mono ?_
    rintro e w2 ⟨rfl, h2⟩
    go_wp2_with fail
    go_ret
    exact ⟨rfl, m_below_on HB.out h2⟩
  by_cases h2 : c = 86
  · subst h2
    have HB := Lib.hid hB
    clear hB
    rw [show fitsF f 86 = valueB f.has f.text from rfl]
    go_enter Tryd.func41, Tryd.ntmps41
    go_wp2_with fail
    with_reducible refine (isValue_any _ _ _ ht).mono ?_
    rintro e w2 ⟨rfl, h2⟩
    go_wp2_with fail
    go_ret
    exact ⟨rfl, m_below_on HB.out h2⟩
  by_cases h3 : c = 87
  · subst h3
    rw [show fitsF f 87 = decide (f.ms.length ≤ 8) from rfl]
    rw [show decide (f.ms.length ≤ 8) = decide ((f.ms.length : Int) ≤ 8) by rw [decide_eq_decide]; omega]
    go_enter Tryd.func41, Tryd.ntmps41
    go_wp2_with fail
    go_ret
    exact ⟨rfl, hB⟩
  by_cases h4 : c = 78
  · subst h4
    rw [show fitsF f 78 = decide (f.es.length ≤ 16) from rfl]
    rw [show decide (f.es.length ≤ 16) = decide ((f.es.length : Int) ≤ 16) by rw [decide_eq_decide]; omega]
    go_enter Tryd.func41, Tryd.ntmps41
    go_wp2_with fail
    go_ret
    exact ⟨rfl, hB⟩
  · have e1 : ((c : Int) == 75) = false := by simp; omega
    have e2 : ((c : Int) == 86) = false := by simp; omega
    have e3 : ((c : Int) == 87) = false := by simp; omega
    have e4 : ((c : Int) == 78) = false := by simp; omega
    rw [show fitsF f c = true by simp [fitsF, h1, h2, h3, h4]]
    go_enter Tryd.func41, Tryd.ntmps41
    go_wp2_with fail
    go_ret
    exact ⟨rfl, hB⟩
theorem iterPos_of {w : World} {k : Nat} {s : ByteArray} {p : Nat} (h : w.heap[k]? = some (.stringIter s p)) : w.iterPos k = p := by simp [World.iterPos, h]
/-- An iterator over a kind's letters. -/
def IterAt (w : World) (I k pos : Nat) : Prop := w.heap[I]? = some (.stringIter (letS k) pos)
theorem IterAt.on {w w' : World} {I k pos : Nat} (h : IterAt w I k pos) (hB : Below w.heap.size w w') : IterAt w' I k pos := (hB.block I (Array.getElem?_eq_some_iff.1 h).1).trans h
def ValLoop (w : World) (f : Fr) (a1 a2 : Option Addr) (c1 c2 I : Nat) (wr : World) : Prop :=
  ∃ pos, pos ≤ (letK f.kind).length ∧ IterAt wr I f.kind pos ∧ (∀ c ∈ (letK f.kind).take pos, fitsF f c = true) ∧ Blk wr w.heap.size (frC f (.slice a1 f.ms.length c1) (.slice a2 f.es.length c2)) 47 ∧ Below w.heap.size w wr
theorem run_next_let {w : World} {I k pos : Nat} (ty : TypeId) (h : IterAt w I k pos) (hp : pos < (letK k).length) :
    (Instr.next (.pointer (some ⟨I, 0, none⟩)) true ty).run Tryd.prog w = .ok (.tuple #[.bool true, .int .i64 pos, .int .i32 ((letK k)[pos] : Nat)]) (w.iterAt I (letS k) (pos + 1)) := by
  have hs : pos < (letS k).size := by rw [letS_size]; exact hp
  have ha := letS_at k pos hp hs
  rw [Lib.run_next_ascii_at w I (letS k) pos ty h hs (by rw [ha]; exact letK_lt k _ (List.getElem_mem hp)), ha]
theorem run_next_fin {w : World} {I k pos : Nat} (ty : TypeId) (h : IterAt w I k pos) (hp : ¬ pos < (letK k).length) :
    (Instr.next (.pointer (some ⟨I, 0, none⟩)) true ty).run Tryd.prog w = .ok (.tuple #[.bool false]) w :=
  Lib.run_next_end_at w I (letS k) pos ty h (by rw [letS_size]; exact hp)
set_option maxHeartbeats 1000000 in
theorem valid_any (f : Fr) (a1 a2 : Option Addr) (c1 c2 : Nat) (w : World) (ht : f.text.size ≤ maxLen) (hk : f.kind < 256) (henv : FEnv w) :
    Calls Tryd.prog 18 #[.agg (frC f (.slice a1 f.ms.length c1) (.slice a2 f.es.length c2))] w (retB (validF f) w) := by
  have hB : Below w.heap.size w (w.alloc (.cells (frC f (.slice a1 f.ms.length c1) (.slice a2 f.es.length c2)) 47)) := (Below.refl _ _).alloc (Nat.le_refl _) _
  have hF : Blk (w.alloc (.cells (frC f (.slice a1 f.ms.length c1) (.slice a2 f.es.length c2)) 47)) w.heap.size (frC f (.slice a1 f.ms.length c1) (.slice a2 f.es.length c2)) 47 := Blk.new rfl
  have HB := Lib.hid hB
  have HF := Lib.hid hF
  have HENV := Lib.hid henv
  clear hB hF henv
  by_cases hkn : knownB f.kind = true
  · have hk16 : 1 ≤ f.kind ∧ f.kind ≤ 16 := by simpa [knownB] using hkn
    go_enter Tryd.func18, Tryd.ntmps18
    go_wp2_with fail
    with_reducible refine (known_any _ _).mono ?_
    rintro e w2 ⟨rfl, h2⟩
    rw [hkn]
    have HB2 := Lib.hid (m_below_on HB.out h2)
    have hc := (HENV.out.on HB2.out HENV.out.pos) f.kind (by omega)
    have F2 := Lib.hid (HF.out.on h2)
    have c0 := F2.out.cell 0
    simp at c0
    have hkk : (f.kind : Int) < 17 := by omega
    clear h2
    go_wp2_with fail
    have hw2 : w.heap.size ≤ w2.heap.size := HB2.out.size
    have HB3 := Lib.hid (show Below w.heap.size w (w2.iter (letS f.kind) 0) from HB2.out.alloc hw2 (.stringIter (letS f.kind) 0))
    have F3 := Lib.hid (show Blk (w2.iter (letS f.kind) 0) w.heap.size (frC f (.slice a1 f.ms.length c1) (.slice a2 f.es.length c2)) 47 from F2.out.alloc (.stringIter (letS f.kind) 0))
    have I3 := Lib.hid (show IterAt (w2.iter (letS f.kind) 0) w2.heap.size f.kind 0 from World.iter_heap w2 (letS f.kind) 0)
    obtain ⟨I, hI⟩ : ∃ I, I = w2.heap.size := ⟨_, rfl⟩
    rw [← hI] at I3 hw2
    simp only [← hI]
    have hIX := Lib.hid (show w.heap.size < I by rw [hI]; exact F2.out.lt)
    have HST : Hid (ValLoop w f a1 a2 c1 c2 I (w2.iter (letS f.kind) 0)) := Lib.hid ⟨0, Nat.zero_le _, I3.out, by intro c hc; simp at hc, F3.out, HB3.out⟩
    clear c0 hc HB3 F3 I3 F2 HB2 hI
    go_loopw [4] (fun _ wr => ValLoop w f a1 a2 c1 c2 I wr) (fun _ wr => (letK f.kind).length - wr.iterPos I)
    case atStart => exact HST.out
    case round =>
      obtain ⟨pos, hp, hit, hfit, hb, hB⟩ := hrel
      have hps := iterPos_of hit
      clear HST
      by_cases hlt : pos < (letK f.kind).length
      · have hrun := run_next_let 0 hit hlt
        have HB4 := Lib.hid (Lib.below_iterAt hB (k := I) (by have := hIX.out; omega) (letS f.kind) (pos + 1))
        have I4 := Lib.hid (show IterAt (wr.iterAt I (letS f.kind) (pos + 1)) I f.kind (pos + 1) from Lib.iterAt_heap wr I (letS f.kind) pos (pos + 1) hit)
        have F4 := Lib.hid (show Blk (wr.iterAt I (letS f.kind) (pos + 1)) w.heap.size (frC f (.slice a1 f.ms.length c1) (.slice a2 f.es.length c2)) 47 from (Lib.iterAt_other wr I w.heap.size (letS f.kind) (pos + 1) (by have := hIX.out; omega)).trans hb)
        have R4 := Lib.hid (show (wr.iterAt I (letS f.kind) (pos + 1)).heap[w.heap.size]? = some (.cells (frC f (.slice a1 f.ms.length c1) (.slice a2 f.es.length c2)) 47 (0, 0)) from F4.out)
        have hin : (letK f.kind)[pos] ∈ letK f.kind := List.getElem_mem hlt
        have hstep : (letK f.kind).take (pos + 1) = (letK f.kind).take pos ++ [(letK f.kind)[pos]] := List.take_succ_eq_append_getElem hlt
        obtain ⟨c, hc⟩ : ∃ c, (letK f.kind)[pos] = c := ⟨_, rfl⟩
        rw [hc] at hrun hin hstep
        have HIN := Lib.hid hin
        have HSTEP := Lib.hid hstep
        have HFIT := Lib.hid hfit
        clear hit hb hB hin hstep hfit hc
        go_wp2_with (first | (refine wpList_load_row rfl 47 (.tmp 1) rfl w.heap.size rfl 47 (frC f (.slice a1 f.ms.length c1) (.slice a2 f.es.length c2)) (0, 0) _ R4.out Tryd.underlying47 rfl (by kernel_rfl) ?_))
        with_reducible refine (ffits_any f a1 a2 c1 c2 c _ ht).mono ?_
        rintro e w5 ⟨rfl, hB5⟩
        have I5 := Lib.hid (I4.out.on hB5)
        have F5 := Lib.hid (F4.out.on hB5)
        have B5 := Lib.hid (m_below_on HB4.out hB5)
        clear hB5 R4 hrun
        by_cases hfc : fitsF f c = true
        · rw [hfc]
          have HREL : Hid (ValLoop w f a1 a2 c1 c2 I w5) := Lib.hid ⟨pos + 1, hlt, I5.out, by
            rw [HSTEP.out]
            intro x hx
            rcases List.mem_append.1 hx with h | h
            · exact HFIT.out x h
            · rw [List.mem_singleton.1 h]; exact hfc, F5.out, B5.out⟩
          have hp5 := iterPos_of I5.out
          go_wp2_with fail
          go_roundw
          case rel => exact HREL.out
          case measure => rw [hp5, hps]; omega
        · simp only [Bool.not_eq_true] at hfc
          rw [hfc]
          go_wp2_with fail
          go_ret
          refine ⟨?_, B5.out⟩
          have : validF f = false := by
            unfold validF
            rw [Bool.and_eq_false_iff]
            right
            rw [List.all_eq_false]
            exact ⟨c, HIN.out, by rw [hfc]; simp⟩
          rw [this]
          rfl
      · have hrun := run_next_fin 0 hit hlt
        go_wp2_with fail
        go_ret
        refine ⟨?_, hB⟩
        have : validF f = true := by
          unfold validF
          rw [hkn, Bool.true_and, List.all_eq_true]
          intro x hx
          exact hfit x (by rw [List.take_of_length_le (by omega)]; exact hx)
        rw [this]
        rfl
  · simp only [Bool.not_eq_true] at hkn
    rw [show validF f = false by simp [validF, hkn]]
    go_enter Tryd.func18, Tryd.ntmps18
    go_wp2_with fail
    with_reducible refine (known_any _ _).mono ?_
    rintro e w2 ⟨rfl, h2⟩
    rw [hkn]
    go_wp2_with fail
    go_ret
    exact ⟨rfl, m_below_on HB.out h2⟩
end Go.Proofs.YtodajejjhfpdmaaDoor
