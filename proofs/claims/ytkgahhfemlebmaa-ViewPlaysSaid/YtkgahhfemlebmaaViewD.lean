/-
  The walks of slices.Delete over members and of view's remove.
-/
import Derived.Test.YtkgahhfemlebmaaViewC
import Derived.Lib.SliceRun
import Derived.Deep.MidRow
namespace Go.Proofs.Ytkgahhfemlebmaa
open Go.RowKit Go.Instr

theorem mems_of_row {w : World} {g off cap n : Nat} {l : List Mem} (hg : g < w.heap.size) (hn : n = l.length) (h : ∀ j u, (mRow l)[j]? = some u → w.cell? ⟨g, off + j, none⟩ = some u) : MemsAt w (.slice (some ⟨g, off, none⟩) n cap) l := by
  subst hn
  refine .inr ⟨g, off, cap, rfl, hg, fun i hi => ?_⟩
  have e0 := h _ _ (mRow_at l i 0 hi (by decide))
  have e1 := h _ _ (mRow_at l i 1 hi (by decide))
  have e2 := h _ _ (mRow_at l i 2 hi (by decide))
  exact ⟨e0, by rw [Nat.add_assoc]; exact e1, by rw [Nat.add_assoc]; exact e2⟩
theorem mRow_erase (l : List Mem) (i : Nat) : mRow (l.eraseIdx i) = mRow (l.take i) ++ mRow (l.drop (i + 1)) := by
  rw [List.eraseIdx_eq_take_drop_succ, mRow_app]
theorem mRow_take (l : List Mem) (i : Nat) : mRow (l.take i) = (mRow l).take (i * 3) := by
  by_cases h : i ≤ l.length
  · have : mRow l = mRow (l.take i) ++ mRow (l.drop i) := by rw [← mRow_app, List.take_append_drop]
    rw [this, List.take_left' (by rw [mRow_len, List.length_take, Nat.min_eq_left h])]
  · rw [List.take_of_length_le (by omega), List.take_of_length_le (by rw [mRow_len]; omega)]
theorem mRow_drop (l : List Mem) (i : Nat) : mRow (l.drop i) = (mRow l).drop (i * 3) := by
  by_cases h : i ≤ l.length
  · have : mRow l = mRow (l.take i) ++ mRow (l.drop i) := by rw [← mRow_app, List.take_append_drop]
    rw [this, List.drop_left' (by rw [mRow_len, List.length_take, Nat.min_eq_left h])]
  · rw [List.drop_of_length_le (by omega), List.drop_of_length_le (by rw [mRow_len]; omega)]; rfl
theorem heap_setCells_ne {g : Nat} : ∀ (vs : List Value) (o : Nat) (w : World) (k : Nat), k ≠ g → (w.setCells g o vs).heap[k]? = w.heap[k]?
  | [], _, _, _, _ => rfl
  | v :: r, o, w, k, hk => by
    rw [World.setCells, heap_setCells_ne r (o + 1) _ k hk]
    exact Below.heap_setCell w ⟨g, o, none⟩ v k hk
theorem below_setCells {B g : Nat} (hg : B ≤ g) : ∀ (vs : List Value) (o : Nat) (w : World), Below B w (w.setCells g o vs)
  | [], _, w => Below.refl B w
  | v :: r, o, w => ((Below.refl B w).setCell (p := ⟨g, o, none⟩) hg v).trans (below_setCells hg r (o + 1) _)
theorem size_setCells {g : Nat} : ∀ (vs : List Value) (o : Nat) (w : World), (w.setCells g o vs).heap.size = w.heap.size
  | [], _, _ => rfl
  | v :: r, o, w => by rw [World.setCells, size_setCells r (o + 1) _]; simp
/-- What the deletion leaves: the row without the i-th; all other blocks are as they were. -/
def DelP (base g cap : Nat) (w : World) (l : List Mem) (i : Nat) (e : Ending) (w' : World) : Prop :=
  e = .returned (.slice (some ⟨g, 0, none⟩) (l.length - 1) cap) ∧ MemsAt w' (.slice (some ⟨g, 0, none⟩) (l.length - 1) cap) (l.eraseIdx i) ∧ Below base w w' ∧ ∀ k, k ≠ g → w'.heap[k]? = w.heap[k]?
theorem run_clear52 (w : World) (ty g o c : Nat) (hc : ∀ j, j < 3 → (w.cell? ⟨g, o + j, none⟩).isSome = true) (hf : ∀ j, j < 3 → w.frozen? ⟨g, o + j, none⟩ = false) :
    (Builtin.clear_ #[25] ty #[.slice (some ⟨g, o, none⟩) 1 c]).run Try.prog w = .ok (.tuple #[]) (w.setCells g o [.int .u8 0, .int .u8 0, .bool false]) := by
  have hst := run_storeCells_cells (P := Try.prog) g o [.int .u8 0, .int .u8 0, .bool false] 0 w (by simpa using hc) (by simpa using hf) (by intro v hv'; simp only [List.mem_cons, List.not_mem_nil, or_false] at hv'; rcases hv' with rfl | rfl | rfl <;> rfl)
  simp only [Nat.add_zero] at hst
  have hz : (Builtin.zeroCells (Value.agg #[.int .u8 0, .int .u8 0, .bool false]).cells 1).toList = [.int .u8 0, .int .u8 0, .bool false] := by simp [Builtin.zeroCells, Value.cells]; rfl
  simp [Builtin.clear_, run_underlying Try.underlying25, Try.zeroValue52, hz, hst]
set_option maxHeartbeats 2000000 in
set_option maxRecDepth 100000 in
theorem delete_any (base g cap : Nat) (l : List Mem) (i : Nat) (w : World) (hl : l.length ≤ 40) (hs : OwnM w base (.slice (some ⟨g, 0, none⟩) l.length cap) l) (hi : i < l.length) :
    Calls Try.prog 34 #[.slice (some ⟨g, 0, none⟩) l.length cap, .int .i64 i, .int .i64 (i + 1 : Nat)] w (DelP base g cap w l i) := by
  obtain ⟨n, hn⟩ : ∃ n, n = l.length := ⟨_, rfl⟩
  obtain ⟨hncap, hgb, hgw, hall, hcapL⟩ : l.length ≤ cap ∧ base ≤ g ∧ g < w.heap.size ∧ (∀ j, j < l.length * 3 → (w.cell? ⟨g, j, none⟩).isSome = true ∧ w.frozen? ⟨g, j, none⟩ = false) ∧ cap ≤ maxLen := by
    rcases hs.2 with ⟨h, _⟩ | ⟨g', cap', cur, he, hb, hg, hnc, hcm, hcs, ht⟩
    · cases h
    · simp only [Value.slice.injEq, Option.some.injEq, Addr.mk.injEq] at he
      obtain ⟨⟨rfl, _, _⟩, _, rfl⟩ := he
      refine ⟨hnc, hb, (Array.getElem?_eq_some_iff.1 hg).1, fun j hj => ⟨?_, ?_⟩, hcm⟩
      · rw [cell_of_row w g j cur _ (0, 0) hg, Array.getElem?_eq_getElem (by rw [hcs]; have := Nat.mul_le_mul_right 3 hnc; omega)]; rfl
      · unfold World.frozen?; rw [hg]; simp
  have hcells := hs.cells (g := g) rfl
  have hadd : ∀ j, (⟨g, 0, none⟩ : Addr).add j = ⟨g, j, none⟩ := by intro j; unfold Addr.add; split <;> simp_all
  obtain ⟨news, hnews⟩ : ∃ news, news = mRow (l.drop (i + 1)) := ⟨_, rfl⟩
  have hlen : news.length = (l.length - (i + 1)) * 3 := by rw [hnews, mRow_len, List.length_drop]
  obtain ⟨A, hA, hsrc⟩ : ∃ A : Addr, (if cap = i + 1 then some (⟨g, 0, none⟩ : Addr) else some ⟨g, (i + 1) * 3, none⟩) = some A ∧ Hid (∀ t u, news[t]? = some u → w.drew.cell? (A.add t) = some u) := by
    by_cases h : cap = i + 1
    · refine ⟨⟨g, 0, none⟩, by simp [h], fun t u hu => ?_⟩
      have h0 : news.length = 0 := by rw [hlen]; omega
      rw [List.length_eq_zero_iff.1 h0] at hu
      simp at hu
    · refine ⟨⟨g, (i + 1) * 3, none⟩, by simp [h], fun t u hu => ?_⟩
      rw [hnews, mRow_drop, List.getElem?_drop] at hu
      have := hcells _ _ hu
      rw [hadd] at this
      have e : (⟨g, (i + 1) * 3, none⟩ : Addr).add t = ⟨g, (i + 1) * 3 + t, none⟩ := by unfold Addr.add; split <;> simp_all
      rw [e]
      exact this
  have s1 : Hid (news.length = (l.length - (i + 1)) * 3) := hlen
  have s2 : Hid (∀ u ∈ news, u.oneCell' = true) := by rw [hnews]; exact mRow_one _
  have s3 : Hid (∀ t, t < news.length → (w.drew.cell? ⟨g, 0 + i * 3 + t, none⟩).isSome = true ∧ w.drew.frozen? ⟨g, 0 + i * 3 + t, none⟩ = false) := by
    intro t ht
    rw [hlen] at ht
    rw [Nat.zero_add]
    exact hall _ (by omega)
  obtain ⟨W1, hW1⟩ : ∃ W1, W1 = w.drew.setCells g (0 + i * 3) news := ⟨_, rfl⟩
  have hc1 : ∀ j, j < l.length * 3 → (W1.cell? ⟨g, j, none⟩).isSome = true := by
    intro j hj
    rw [hW1]
    exact Go.World.isSome_setCells g news _ _ _ (hall j hj).1
  have hf1 : ∀ j, j < l.length * 3 → W1.frozen? ⟨g, j, none⟩ = false := by
    intro j hj
    rw [hW1, World.frozen?_setCells]
    exact (hall j hj).2
  have hcl : ∀ ty, (Builtin.clear_ #[25] ty #[.slice (some ⟨g, (i + (l.length - (i + 1))) * 3, none⟩) (l.length - (i + (l.length - (i + 1)))) (cap - (i + (l.length - (i + 1))))]).run Try.prog W1 = .ok (.tuple #[]) (W1.setCells g ((i + (l.length - (i + 1))) * 3) [.int .u8 0, .int .u8 0, .bool false]) :=
    fun ty => by
      have e1 : l.length - (i + (l.length - (i + 1))) = 1 := by omega
      rw [e1]
      exact run_clear52 W1 ty g _ _ (fun j hj => hc1 _ (by omega)) (fun j hj => hf1 _ (by omega))
  have HPOST : Hid (DelP base g cap w l i (.returned (.slice (some ⟨g, 0, none⟩) (i + (l.length - (i + 1))) cap)) (W1.setCells g ((i + (l.length - (i + 1))) * 3) [.int .u8 0, .int .u8 0, .bool false])) := Lib.hid (by
    have en : i + (l.length - (i + 1)) = l.length - 1 := by omega
    rw [en]
    refine ⟨rfl, mems_of_row ?_ ?_ ?_, ?_, ?_⟩
    · rw [size_setCells, hW1, size_setCells]; exact hgw
    · rw [List.length_eraseIdx, if_pos hi]
    · intro j u hu
      rw [mRow_erase] at hu
      have hj : j < (l.length - 1) * 3 := by
        have := (List.getElem?_eq_some_iff.1 hu).1
        rw [List.length_append, mRow_len, mRow_len, List.length_take, List.length_drop] at this
        omega
      rw [Nat.zero_add, World.cell?_setCells_out _ _ _ _ _ (fun _ _ => .inl hj), hW1]
      by_cases hji : j < i * 3
      · rw [World.cell?_setCells_out _ _ _ _ _ (fun _ _ => .inl (by simp only; omega))]
        rw [List.getElem?_append_left (by rw [mRow_len, List.length_take]; omega), mRow_take, List.getElem?_take, if_pos hji] at hu
        have := hcells _ _ hu
        rw [hadd] at this
        exact this
      · have hml : (mRow (l.take i)).length = i * 3 := by rw [mRow_len, List.length_take, Nat.min_eq_left (by omega)]
        rw [List.getElem?_append_right (by rw [hml]; omega), hml, ← hnews] at hu
        have hjl := (List.getElem?_eq_some_iff.1 hu).1
        have := World.cell?_setCells_in g news (0 + i * 3) w.drew (fun t ht => (s3.out t ht).1) (j - i * 3) hjl
        rw [show 0 + i * 3 + (j - i * 3) = j by omega] at this
        rw [this, ← hu, List.getElem?_eq_getElem hjl]
    · rw [hW1]
      exact (((Below.refl base w).trans (by go_grown)).trans (below_setCells hgb _ _ _)).trans (below_setCells hgb _ _ _)
    · intro k hk
      rw [heap_setCells_ne _ _ _ _ hk, hW1, heap_setCells_ne _ _ _ _ hk]
      rfl)
  have hW : Hid (W1 = w.drew.setCells g (0 + i * 3) news) := hW1
  have hic : i ≤ cap := by omega
  have hjc : i + 1 ≤ cap := by omega
  have hne : ¬ cap = i + (l.length - (i + 1)) := by omega
  obtain ⟨i0, hi0, hz0, hz1, hz2⟩ := infoP52
  have HI := Lib.hid (And.intro hi0 (And.intro hz0 (And.intro hz1 hz2)))
  clear hW1 hc1 hf1 hnews hlen hs hcells hadd hall hi0 hz0 hz1 hz2 hn
  generalize l.length = n at *
  go_enter Try.func34, Try.ntmps34
  go_wp2_with fail
  have hx1 : (0 : Int) ≤ ↑i + 1 := by omega
  have hx2 : (↑i : Int) + 1 ≤ ↑n := by omega
  go_region_law (refine step_append_room rfl (.tmp 22) (.tmp 25) 25 rfl 52 i0 3 Try.underlying25 HI.out.1 HI.out.2.2.1 g 0 i cap (by simp [Act.eval, Act.put]) A (n - (i + 1)) (cap - (i + 1)) news (by simp [Act.eval, Act.put]) s1.out hsrc.out s2.out (by omega) s3.out ?_; rw [← hW.out])
  go_wp2_with fail
  go_ret
  exact HPOST.out
end Go.Proofs.Ytkgahhfemlebmaa
