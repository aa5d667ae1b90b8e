/-
  The walks of bag's add where there is no room, Put, slices.Delete over messages, and Take.
-/
import Derived.Test.YtlphlmpfjpombaaBagB
namespace Go.Proofs.Ytlphlmpfjpombaa
open Go.RowKit Go.Instr

theorem below_drewN (w : World) (n : Nat) : Below w.heap.size w (w.drewN n) := ⟨rfl, rfl, rfl, Nat.le_refl _, fun _ _ => rfl⟩
set_option maxHeartbeats 1000000 in
theorem add_no (base B room : Nat) (l : List Msg) (m : Msg) (w : World) (hl : room ≤ l.length) (hb : BagAt w base B room l) (hbw : base ≤ B) :
    Calls Try.prog 32 #[.pointer (some ⟨B, 0, none⟩), .agg #[.int .u8 m.d, .string m.text, .bool m.bad]] w (BagP base B room w (.bool false) l) := by
  have HB := Lib.hid hb
  have hBw := hb.lt
  obtain ⟨s, h1, h2⟩ := hb
  have c0 : w.cell? ⟨B, 0, none⟩ = some (.int .i64 room) := h1.cell 0
  have c1 : w.cell? ⟨B, 1, none⟩ = some s := h1.cell 1
  obtain ⟨a, cap, rfl⟩ := h2.at.len
  clear h1 h2
  obtain ⟨n, hn⟩ : ∃ n, l.length = n := ⟨_, rfl⟩
  rw [hn] at hl
  simp only [hn] at c1
  clear hn
  have hlr : (room : Int) ≤ n := by omega
  have hd : decide ((room : Int) ≤ n) = true := by simpa using hlr
  obtain ⟨md, mt, mb⟩ := m
  go_enter Try.func32, Try.ntmps32
  go_wp2
  go_quiet (fail)
  go_wp2
  go_ret
  exact .quiet (by omega) HB.out (m_below_on (w1 := w.alloc _) (by go_grown) (below_drewN _ _))
set_option maxHeartbeats 400000 in
theorem add_nil (m : Msg) (w : World) :
    Calls Try.prog 32 #[.pointer none, .agg #[.int .u8 m.d, .string m.text, .bool m.bad]] w fun e w' => e = .returned (.bool false) ∧ Below w.heap.size w w' := by
  obtain ⟨md, mt, mb⟩ := m
  go_enter Try.func32, Try.ntmps32
  go_wp2
  go_quiet (fail)
  go_wp2
  go_ret
  exact ⟨rfl, m_below_on (w1 := w.alloc _) (by go_grown) (below_drewN _ _)⟩
set_option maxHeartbeats 400000 in
theorem Put_yes (base B room d : Nat) (l : List Msg) (t : ByteArray) (w : World) (hl : l.length < room) (hr : room ≤ 200) (hb : BagAt w base B room l) (hbw : base ≤ B) :
    Calls Try.prog 17 #[.pointer (some ⟨B, 0, none⟩), .int .u8 d, .string t] w (BagP base B room w (.bool true) (l ++ [⟨d, t, false⟩])) := by
  have HB := Lib.hid hb
  clear hb
  go_enter Try.func17, Try.ntmps17
  go_wp2_with (refine (add_yes base B room l ⟨d, t, false⟩ _ hl hr HB.out hbw).mono ?_; rintro en w1 hp; have HP := Lib.hid hp; obtain ⟨rfl, _⟩ := hp)
  go_ret
  exact HP.out
set_option maxHeartbeats 400000 in
theorem Put_no (base B room d : Nat) (l : List Msg) (t : ByteArray) (w : World) (hl : room ≤ l.length) (hb : BagAt w base B room l) (hbw : base ≤ B) :
    Calls Try.prog 17 #[.pointer (some ⟨B, 0, none⟩), .int .u8 d, .string t] w (BagP base B room w (.bool false) l) := by
  have HB := Lib.hid hb
  clear hb
  go_enter Try.func17, Try.ntmps17
  go_wp2_with (refine (add_no base B room l ⟨d, t, false⟩ _ hl HB.out hbw).mono ?_; rintro en w1 hp; have HP := Lib.hid hp; obtain ⟨rfl, _⟩ := hp)
  go_ret
  exact HP.out
set_option maxHeartbeats 400000 in
theorem Put_nil (d : Nat) (t : ByteArray) (w : World) :
    Calls Try.prog 17 #[.pointer none, .int .u8 d, .string t] w fun e w' => e = .returned (.bool false) ∧ Below w.heap.size w w' := by
  go_enter Try.func17, Try.ntmps17
  go_wp2_with (refine (add_nil ⟨d, t, false⟩ _).mono ?_; rintro en w1 ⟨rfl, hB⟩; have HB := Lib.hid hB; clear hB)
  go_ret
  exact ⟨rfl, HB.out⟩
/-- What the deletion leaves: the row without the i-th; all other blocks are as they were. -/
def DelP (base g cap : Nat) (w : World) (l : List Msg) (i : Nat) (e : Ending) (w' : World) : Prop :=
  e = .returned (.slice (some ⟨g, 0, none⟩) (l.length - 1) cap) ∧ msgR.Own 71 w' base (.slice (some ⟨g, 0, none⟩) (l.length - 1) cap) (l.eraseIdx i) ∧ Below base w w' ∧ ∀ k, k ≠ g → w'.heap[k]? = w.heap[k]?
theorem run_clear71 (w : World) (ty g o c : Nat) (hc : ∀ j, j < 3 → (w.cell? ⟨g, o + j, none⟩).isSome = true) (hf : ∀ j, j < 3 → w.frozen? ⟨g, o + j, none⟩ = false) :
    (Builtin.clear_ #[66] ty #[.slice (some ⟨g, o, none⟩) 1 c]).run Try.prog w = .ok (.tuple #[]) (w.setCells g o [.int .u8 0, .string ⟨#[]⟩, .bool false]) := by
  have hst := run_storeCells_cells (P := Try.prog) g o [.int .u8 0, .string ⟨#[]⟩, .bool false] 0 w (by simpa using hc) (by simpa using hf) (by intro v hv'; simp only [List.mem_cons, List.not_mem_nil, or_false] at hv'; rcases hv' with rfl | rfl | rfl <;> rfl)
  simp only [Nat.add_zero] at hst
  have hz : (Builtin.zeroCells (Value.agg #[.int .u8 0, .string ⟨#[]⟩, .bool false]).cells 1).toList = [.int .u8 0, .string ⟨#[]⟩, .bool false] := by simp [Builtin.zeroCells, Value.cells]; rfl
  simp [Builtin.clear_, run_underlying Try.underlying66, Try.zeroValue71, hz, hst]
theorem take_three {α : Type} {a b : List α} {n i : Nat} (h : a.take n = b) (hi : i ≤ n) : a.take i = b.take i := by
  rw [← h, List.take_take, Nat.min_eq_left hi]
set_option maxHeartbeats 2000000 in
set_option maxRecDepth 100000 in
theorem delete_any (base g cap : Nat) (l : List Msg) (i : Nat) (w : World) (hl : l.length ≤ 200) (hs : msgR.Own 71 w base (.slice (some ⟨g, 0, none⟩) l.length cap) l) (hi : i < l.length) :
    Calls Try.prog 30 #[.slice (some ⟨g, 0, none⟩) l.length cap, .int .i64 i, .int .i64 (i + 1 : Nat)] w (DelP base g cap w l i) := by
  obtain ⟨cur, hgb, hgw, hncap, hcapL, hcs, ht⟩ : ∃ cur, base ≤ g ∧ w.heap[g]? = some (.cells cur 71 (0, 0)) ∧ l.length ≤ cap ∧ cap ≤ maxLen ∧ cur.size = cap * 3 ∧ cur.toList.take (l.length * 3) = msgR.row l := by
    rcases hs.2 with ⟨h, _⟩ | ⟨g', cap', cur, he, hb, hg, hnc, hcm, hcs, ht⟩
    · cases h
    · simp only [Value.slice.injEq, Option.some.injEq, Addr.mk.injEq] at he
      obtain ⟨⟨rfl, _, _⟩, _, rfl⟩ := he
      exact ⟨cur, hb, hg, hnc, hcm, hcs, ht⟩
  have hall : ∀ j, j < l.length * 3 → (w.cell? ⟨g, j, none⟩).isSome = true ∧ w.frozen? ⟨g, j, none⟩ = false := by
    intro j hj
    refine ⟨?_, ?_⟩
    · rw [cell_of_row w g j cur _ (0, 0) hgw, Array.getElem?_eq_getElem (by rw [hcs]; have := Nat.mul_le_mul_right 3 hncap; omega)]; rfl
    · unfold World.frozen?; rw [hgw]; simp
  have hcells := World.ownsRow.cells hs (g := g) rfl
  have hadd : ∀ j, (⟨g, 0, none⟩ : Addr).add j = ⟨g, j, none⟩ := by intro j; unfold Addr.add; split <;> simp_all
  obtain ⟨news, hnews⟩ : ∃ news, news = msgR.row (l.drop (i + 1)) := ⟨_, rfl⟩
  have hlen : news.length = (l.length - (i + 1)) * 3 := by rw [hnews, RK.row_len, List.length_drop]; rfl
  obtain ⟨A, hA, hsrc⟩ : ∃ A : Addr, (if cap = i + 1 then some (⟨g, 0, none⟩ : Addr) else some ⟨g, (i + 1) * 3, none⟩) = some A ∧ Hid (∀ t u, news[t]? = some u → w.drew.cell? (A.add t) = some u) := by
    by_cases h : cap = i + 1
    · refine ⟨⟨g, 0, none⟩, by simp [h], fun t u hu => ?_⟩
      have h0 : news.length = 0 := by rw [hlen]; omega
      rw [List.length_eq_zero_iff.1 h0] at hu
      simp at hu
    · refine ⟨⟨g, (i + 1) * 3, none⟩, by simp [h], fun t u hu => ?_⟩
      rw [hnews, RK.row_drop, List.getElem?_drop] at hu
      have := hcells _ _ hu
      rw [hadd] at this
      have e : (⟨g, (i + 1) * 3, none⟩ : Addr).add t = ⟨g, (i + 1) * 3 + t, none⟩ := by unfold Addr.add; split <;> simp_all
      rw [e]
      exact this
  have s1 : Hid (news.length = (l.length - (i + 1)) * 3) := hlen
  have s2 : Hid (∀ u ∈ news, u.oneCell' = true) := by rw [hnews]; exact msgR.row_ones _
  have s3 : Hid (∀ t, t < news.length → (w.drew.cell? ⟨g, 0 + i * 3 + t, none⟩).isSome = true ∧ w.drew.frozen? ⟨g, 0 + i * 3 + t, none⟩ = false) := by
    intro t ht
    rw [hlen] at ht
    rw [Nat.zero_add]
    exact hall _ (by omega)
  obtain ⟨W1, hW1⟩ : ∃ W1, W1 = w.drew.setCells g (0 + i * 3) news := ⟨_, rfl⟩
  have hc1 : ∀ j, j < l.length * 3 → (W1.cell? ⟨g, j, none⟩).isSome = true := by
    intro j hj
    rw [hW1]
    exact Go.World.isSome_setCells g news _ _ _ (hall j hj).1
  have hf1 : ∀ j, j < l.length * 3 → W1.frozen? ⟨g, j, none⟩ = false := by
    intro j hj
    rw [hW1, World.frozen?_setCells]
    exact (hall j hj).2
  have hcl : ∀ ty, (Builtin.clear_ #[66] ty #[.slice (some ⟨g, (i + (l.length - (i + 1))) * 3, none⟩) (l.length - (i + (l.length - (i + 1)))) (cap - (i + (l.length - (i + 1))))]).run Try.prog W1 = .ok (.tuple #[]) (W1.setCells g ((i + (l.length - (i + 1))) * 3) [.int .u8 0, .string ⟨#[]⟩, .bool false]) :=
    fun ty => by
      have e1 : l.length - (i + (l.length - (i + 1))) = 1 := by omega
      rw [e1]
      exact run_clear71 W1 ty g _ _ (fun j hj => hc1 _ (by omega)) (fun j hj => hf1 _ (by omega))
  have HPOST : Hid (DelP base g cap w l i (.returned (.slice (some ⟨g, 0, none⟩) (i + (l.length - (i + 1))) cap)) (W1.setCells g ((i + (l.length - (i + 1))) * 3) [.int .u8 0, .string ⟨#[]⟩, .bool false])) := Lib.hid (by
    have en : i + (l.length - (i + 1)) = l.length - 1 := by omega
    rw [en]
    have hle : (l.eraseIdx i).length = l.length - 1 := by rw [List.length_eraseIdx, if_pos hi]
    have hcap3 := Nat.mul_le_mul_right 3 hncap
    have hcl3 : cur.toList.length = cap * 3 := hcs
    refine ⟨rfl, ⟨by rw [RK.row_len], .inr ⟨g, cap, _, by rw [hle], hgb, heap_setCells _ _ _ _ (by rw [hW1]; exact heap_setCells _ _ _ _ hgw), by omega, hcapL, ?_, ?_⟩⟩, ?_, ?_⟩
    · simp only [List.size_toArray, putAt_len]; exact hcs
    · have e1 : putAt cur.toList (0 + i * 3) news = cur.toList.take (i * 3) ++ news ++ cur.toList.drop (i * 3 + news.length) := by
        rw [Nat.zero_add, putAt_eq _ _ _ (by rw [hcl3, hlen]; omega)]
      have e2 : (putAt cur.toList (0 + i * 3) news).length = cap * 3 := by rw [putAt_len, hcl3]
      show List.take ((l.eraseIdx i).length * 3) (putAt (putAt cur.toList (0 + i * 3) news) ((l.length - 1) * 3) [.int .u8 0, .string ⟨#[]⟩, .bool false]) = _
      rw [putAt_eq _ _ _ (by rw [e2]; simp; omega), hle]
      rw [List.append_assoc, List.take_left' (by rw [List.length_take, e2]; omega), e1, RK.row_erase, RK.row_take, ← hnews]
      have hq : i * msgR.c = i * 3 := rfl
      rw [hq, ← take_three ht (by omega), List.take_left' (by rw [List.length_append, List.length_take, hcl3, hlen]; omega)]
    · rw [hW1]
      exact (((Below.refl base w).trans (by go_grown)).trans (below_setCells hgb _ _ _)).trans (below_setCells hgb _ _ _)
    · intro k hk
      rw [heap_setCells_ne _ _ _ _ hk, hW1, heap_setCells_ne _ _ _ _ hk]
      rfl)
  have hW : Hid (W1 = w.drew.setCells g (0 + i * 3) news) := hW1
  have hic : i ≤ cap := by omega
  have hjc : i + 1 ≤ cap := by omega
  have hne : ¬ cap = i + (l.length - (i + 1)) := by omega
  obtain ⟨i0, hi0, hz0, hz1, hz2⟩ := infoP71
  have HI := Lib.hid (And.intro hi0 (And.intro hz0 (And.intro hz1 hz2)))
  clear hW1 hc1 hf1 hnews hlen hs hcells hadd hall hi0 hz0 hz1 hz2 hgw hcs ht
  generalize l.length = n at *
  go_enter Try.func30, Try.ntmps30
  go_wp2_with fail
  have hx1 : (0 : Int) ≤ ↑i + 1 := by omega
  have hx2 : (↑i : Int) + 1 ≤ ↑n := by omega
  go_region_law (refine step_append_room rfl (.tmp 22) (.tmp 25) 66 rfl 71 i0 3 Try.underlying66 HI.out.1 HI.out.2.2.1 g 0 i cap (by simp [Act.eval, Act.put]) A (n - (i + 1)) (cap - (i + 1)) news (by simp [Act.eval, Act.put]) s1.out hsrc.out s2.out (by omega) s3.out ?_; rw [← hW.out])
  go_wp2_with fail
  go_ret
  exact HPOST.out
end Go.Proofs.Ytlphlmpfjpombaa
