/-
  The walks of pace's New, Stop and Master.
-/
import Derived.Test.YtlphlmpfjpombaaPaceB
import Derived.Laws.OwnMore
namespace Go.Proofs.Ytlphlmpfjpombaa
open Go.RowKit Go.Instr

/-- Blocks of other types than a pace's are as they were. -/
def KeptP (w w' : World) : Prop := w.heap.size ≤ w'.heap.size ∧ ∀ (k : Nat) (C : Array Value) (T : TypeId) (fz : Nat × Nat), w.heap[k]? = some (.cells C T fz) → T ≠ 80 → T ≠ 83 → T ≠ 85 → T ≠ 3 → w'.heap[k]? = w.heap[k]?
def PaceE (w : World) (base P : Nat) (p : Pc) : Prop := ∃ mb mc nb nc xs, PaceAt w base P p mb mc nb nc xs
/-- What a call on a pace leaves. -/
def PaceP (base P : Nat) (w : World) (v : Value) (p : Pc) (e : Ending) (w' : World) : Prop := e = .returned v ∧ PaceE w' base P p ∧ Below base w w' ∧ KeptP w w'
theorem PaceE.on {w w' : World} {base P : Nat} {p : Pc} (h : PaceE w base P p) (hB : Below w.heap.size w w') : PaceE w' base P p := by
  obtain ⟨mb, mc, nb, nc, xs, h⟩ := h
  exact ⟨mb, mc, nb, nc, xs, h.on hB⟩
theorem KeptP.of_below {w w' : World} (h : Below w.heap.size w w') : KeptP w w' := ⟨h.size, fun k _ _ _ hk _ _ _ _ => h.block k (Array.getElem?_eq_some_iff.1 hk).1⟩
theorem KeptP.refl (w : World) : KeptP w w := ⟨Nat.le_refl _, fun _ _ _ _ _ _ _ _ _ => rfl⟩
theorem KeptP.trans {w w1 w2 : World} (h : KeptP w w1) (h' : KeptP w1 w2) : KeptP w w2 :=
  ⟨Nat.le_trans h.1 h'.1, fun k C T fz hk h1 h2 h3 h4 => (h'.2 k C T fz ((h.2 k C T fz hk h1 h2 h3 h4).trans hk) h1 h2 h3 h4).trans (h.2 k C T fz hk h1 h2 h3 h4)⟩
theorem KeptP.set {w w' : World} (h : KeptP w w') {B j : Nat} {v : Value} {cs : Array Value} {T : TypeId} {fz : Nat × Nat} (hB : w'.heap[B]? = some (.cells cs T fz)) (hT : T = 80 ∨ T = 83 ∨ T = 85 ∨ T = 3) : KeptP w (w'.setCell ⟨B, j, none⟩ v) := by
  refine ⟨by simpa using h.1, fun k C T' fz' hk h1 h2 h3 h4 => ?_⟩
  have e := h.2 k C T' fz' hk h1 h2 h3 h4
  refine (Below.heap_setCell w' ⟨B, j, none⟩ v k ?_).trans e
  rintro rfl
  rw [e, hk] at hB
  simp only [Option.some.injEq, Obj.cells.injEq] at hB
  rcases hT with h | h | h | h
  · exact h1 (hB.2.1.trans h)
  · exact h2 (hB.2.1.trans h)
  · exact h3 (hB.2.1.trans h)
  · exact h4 (hB.2.1.trans h)
set_option maxHeartbeats 1000000 in
theorem New_bad (a b c d : Int) (w : World) (h : ¬ (1 ≤ a ∧ a ≤ 5 ∧ 1 ≤ b ∧ b ≤ 8 ∧ 1 ≤ c ∧ c ≤ 1000 ∧ 1 ≤ d ∧ d ≤ 1000)) :
    Calls Try.prog 23 #[.int .i64 a, .int .i64 b, .int .i64 c, .int .i64 d] w fun e w' => e = .returned (.tuple #[.pointer none, .int .i64 1]) ∧ w = w' := by
  obtain ⟨ra, ha⟩ : ∃ r, decide (1 ≤ a ∧ a ≤ 5) = r := ⟨_, rfl⟩
  obtain ⟨rb, hb⟩ : ∃ r, decide (1 ≤ b ∧ b ≤ 8) = r := ⟨_, rfl⟩
  obtain ⟨rc, hc⟩ : ∃ r, decide (1 ≤ c ∧ c ≤ 1000) = r := ⟨_, rfl⟩
  obtain ⟨rd, hd⟩ : ∃ r, decide (1 ≤ d ∧ d ≤ 1000) = r := ⟨_, rfl⟩
  have hall : Hid (¬ (ra = true ∧ rb = true ∧ rc = true ∧ rd = true)) := Lib.hid (by
    rintro ⟨rfl, rfl, rfl, rfl⟩
    have h1 := of_decide_eq_true ha
    have h2 := of_decide_eq_true hb
    have h3 := of_decide_eq_true hc
    have h4 := of_decide_eq_true hd
    exact h ⟨h1.1, h1.2, h2.1, h2.2, h3.1, h3.2, h4.1, h4.2⟩)
  have HA := Lib.hid ha
  have HB := Lib.hid hb
  have HC := Lib.hid hc
  have HD := Lib.hid hd
  clear h ha hb hc hd
  cases ra
  all_goals cases rb
  all_goals cases rc
  all_goals cases rd
  all_goals first
    | exact absurd ⟨rfl, rfl, rfl, rfl⟩ hall.out
    | skip
  all_goals
    clear hall
    go_enter Try.func23, Try.ntmps23
    go_wp2_with (first | ((with_reducible refine (within_is _ _ _ _ HA.out).mono ?_); rintro en w1 ⟨rfl, rfl⟩) | ((with_reducible refine (within_is _ _ _ _ HB.out).mono ?_); rintro en w1 ⟨rfl, rfl⟩) | ((with_reducible refine (within_is _ _ _ _ HC.out).mono ?_); rintro en w1 ⟨rfl, rfl⟩) | ((with_reducible refine (within_is _ _ _ _ HD.out).mono ?_); rintro en w1 ⟨rfl, rfl⟩))
    exact bodyPost_ret (by simp [results, Try.results23, go_sem]) rfl ⟨rfl, rfl⟩
theorem Try.info83 : (Try.prog.info? 83).map (fun i => (i.zero, i.size, i.bytes)) = some (some (.agg #[.int .i64 0, .slice none 0 0]), 2, 32) := by kernel_rfl
theorem infoP83 : ∃ i, Try.prog.info? 83 = some i ∧ i.zero = some (.agg #[.int .i64 0, .slice none 0 0]) ∧ i.size = 2 ∧ i.bytes = 32 := by
  have h := Try.info83
  rcases hi : Try.prog.info? 83 with _ | i
  · rw [hi] at h; cases h
  · rw [hi] at h
    simp only [Option.map_some, Option.some.injEq, Prod.mk.injEq] at h
    exact ⟨i, rfl, h.1, h.2.1, h.2.2⟩
theorem made_row {α : Type} (R : RK α) (z : Array Value) (d : α) (hz : z.toList = R.f d) (n : Nat) : (madeCells z (n * R.c)).toList = R.row (List.replicate n d) := by
  have hzs : z.size = R.c := by rw [← Array.length_toList, hz, R.len]
  apply List.ext_getElem?
  intro j
  by_cases hj : j < n * R.c
  · have hi : j / R.c < n := by rw [Nat.div_lt_iff_lt_mul R.pos]; exact hj
    have hjj : j % R.c < R.c := Nat.mod_lt _ R.pos
    have hkk : j / R.c * R.c + j % R.c = j := by rw [Nat.mul_comm]; exact Nat.div_add_mod j R.c
    have h2 := R.row_at (List.replicate n d) (j / R.c) (j % R.c) (by simpa using hi) hjj
    rw [hkk] at h2
    rw [h2]
    simp only [List.getElem_replicate]
    rw [madeCells, Array.toList_map, List.getElem?_map, Array.toList_range, List.getElem?_range hj]
    simp only [Option.map_some]
    rw [hzs, ← hz, Array.getElem?_toList, getElem!_pos z (j % R.c) (by rw [hzs]; exact hjj), Array.getElem?_eq_getElem (by rw [hzs]; exact hjj)]
  · rw [List.getElem?_eq_none (by simp [madeCells]; omega), List.getElem?_eq_none (by rw [R.row_len, List.length_replicate]; omega)]
theorem make3 (m : Nat) (hm : m ≤ 100) : ∃ cm : Array Value, cm.toList = intR.row (List.replicate m 0) ∧ ∀ w, (Instr.makeSlice 77 (.int .i64 m) (.int .i64 m)).run Try.prog w = .ok (.slice (some ⟨w.heap.size, 0, none⟩) m m) (w.alloc (.cells cm 3)) := by
  obtain ⟨i, h1, h2, h3, h4⟩ := infoP3
  refine ⟨madeCells (Value.int .i64 0).cells (m * intR.c), made_row intR _ 0 (by simp [Value.cells]; rfl) m, fun w => ?_⟩
  have := run_makeSlice w 77 3 i (.int .i64 0) Try.underlying77 h1 h2 .i64 .i64 m m (by omega) (Int.le_refl _) (by rw [h3]; simp; omega) (by rw [h4]; omega) (by omega)
  rw [h3] at this
  have e : m * intR.c = m := Nat.mul_one m
  rw [e]
  simpa using this
theorem make83 (m : Nat) (hm : m ≤ 100) : ∃ cm : Array Value, cm.toList = twoR.row (List.replicate m ⟨0, none, 0, 0⟩) ∧ ∀ w, (Instr.makeSlice 78 (.int .i64 m) (.int .i64 m)).run Try.prog w = .ok (.slice (some ⟨w.heap.size, 0, none⟩) m m) (w.alloc (.cells cm 83)) := by
  obtain ⟨i, h1, h2, h3, h4⟩ := infoP83
  refine ⟨madeCells (Value.agg #[.int .i64 0, .slice none 0 0]).cells (m * twoR.c), made_row twoR _ ⟨0, none, 0, 0⟩ (by simp [Value.cells]; rfl) m, fun w => ?_⟩
  have := run_makeSlice w 78 83 i (.agg #[.int .i64 0, .slice none 0 0]) Try.underlying78 h1 h2 .i64 .i64 m m (by omega) (Int.le_refl _) (by rw [h3]; simp; omega) (by rw [h4]; omega) (by omega)
  rw [h3] at this
  have e : m * twoR.c = m * 2 := rfl
  rw [e]
  simpa using this
theorem row_own {α : Type} {R : RK α} {E : TypeId} {w : World} {base g : Nat} {l : List α} {cs : Array Value} (h : Blk w g cs E) (hb : base ≤ g) (hl : l.length ≤ maxLen) (hc : cs.toList = R.row l) : R.Own E w base (.slice (some ⟨g, 0, none⟩) l.length l.length) l := by
  have hs : cs.size = l.length * R.c := by rw [← Array.length_toList, hc, R.row_len]
  exact ⟨by rw [R.row_len], .inr ⟨g, l.length, cs, rfl, hb, h, Nat.le_refl _, hl, hs, by rw [← hc]; exact List.take_of_length_le (by rw [Array.length_toList, hs]; exact Nat.le_refl _)⟩⟩
theorem paceE_new {w3 : World} {base P mb nb m n h wt : Nat} {cm cn : Array Value} (hm5 : m ≤ 5) (hn8 : n ≤ 8) (hcm : cm.toList = intR.row (List.replicate m 0)) (hcn : cn.toList = twoR.row (List.replicate n ⟨0, none, 0, 0⟩)) (hb1 : base ≤ mb) (hb2 : base ≤ nb)
    (hP : Blk w3 P #[.int .i64 h, .int .i64 wt, .slice (some ⟨mb, 0, none⟩) m m, .slice (some ⟨nb, 0, none⟩) n n, .bool false] 80) (hM : Blk w3 mb cm 3) (hN : Blk w3 nb cn 83) : PaceE w3 base P ⟨h, wt, List.replicate m 0, List.replicate n ⟨0, []⟩, false⟩ := by
  have o1 := row_own (R := intR) hM hb1 (by simp [maxLen]; omega) hcm
  have o2 := row_own (R := twoR) hN hb2 (by simp [maxLen]; omega) hcn
  simp only [List.length_replicate] at o1 o2
  refine ⟨mb, m, nb, n, List.replicate n ⟨0, none, 0, 0⟩, by simpa using hP, by simpa using o1, by simpa using o2, by simp, fun i hi hi' => ?_, fun i j hi hj g _ hg => ?_⟩
  · simp only [List.getElem_replicate]
    exact ⟨trivial, SpansAt.nil⟩
  · simp only [List.getElem_replicate] at hg
    cases hg
set_option maxHeartbeats 1000000 in
theorem New_ok (m n h wt : Nat) (w : World) (h1 : 1 ≤ m) (h2 : m ≤ 5) (h3 : 1 ≤ n) (h4 : n ≤ 8) (h5 : 1 ≤ h) (h6 : h ≤ 1000) (h7 : 1 ≤ wt) (h8 : wt ≤ 1000) :
    Calls Try.prog 23 #[.int .i64 m, .int .i64 n, .int .i64 h, .int .i64 wt] w fun e w' => ∃ P, w.heap.size ≤ P ∧ e = .returned (.tuple #[.pointer (some ⟨P, 0, none⟩), .int .i64 0]) ∧ PaceE w' w.heap.size P ⟨h, wt, List.replicate m 0, List.replicate n ⟨0, []⟩, false⟩ ∧ Below w.heap.size w w' := by
  have HA : Hid (decide (1 ≤ (m : Int) ∧ (m : Int) ≤ 5) = true) := Lib.hid (by simp; omega)
  have HB : Hid (decide (1 ≤ (n : Int) ∧ (n : Int) ≤ 8) = true) := Lib.hid (by simp; omega)
  have HC : Hid (decide (1 ≤ (h : Int) ∧ (h : Int) ≤ 1000) = true) := Lib.hid (by simp; omega)
  have HD : Hid (decide (1 ≤ (wt : Int) ∧ (wt : Int) ≤ 1000) = true) := Lib.hid (by simp; omega)
  obtain ⟨cm, hcm, hm⟩ := make3 m (by omega)
  obtain ⟨cn, hcn, hn⟩ := make83 n (by omega)
  have HCM := Lib.hid hcm
  have HCN := Lib.hid hcn
  clear hcm hcn
  go_enter Try.func23, Try.ntmps23
  go_wp2_with (first | ((with_reducible refine (within_is _ _ _ _ HA.out).mono ?_); rintro en w1 ⟨rfl, rfl⟩) | ((with_reducible refine (within_is _ _ _ _ HB.out).mono ?_); rintro en w1 ⟨rfl, rfl⟩) | ((with_reducible refine (within_is _ _ _ _ HC.out).mono ?_); rintro en w1 ⟨rfl, rfl⟩) | ((with_reducible refine (within_is _ _ _ _ HD.out).mono ?_); rintro en w1 ⟨rfl, rfl⟩))
  go_region
  · go_wp2
    refine bodyPost_ret (by simp [results, Try.results23, go_sem]) rfl ⟨w.heap.size + 1 + 1, by omega, rfl, paceE_new h2 h4 HCM.out HCN.out (Nat.le_refl _) (Nat.le_succ _) ?_ ?_ ?_, by go_grown⟩
    · exact Blk.new (by simp)
    · exact ((Blk.new (w := w) rfl).alloc _).alloc _
    · exact (Blk.new (by simp)).alloc _
  · go_wp2
    refine bodyPost_ret (by simp [results, Try.results23, go_sem]) rfl ⟨w.heap.size + 1 + 1, by omega, rfl, paceE_new h2 h4 HCM.out HCN.out (Nat.le_succ _) (Nat.le_refl _) ?_ ?_ ?_, by go_grown⟩
    · exact Blk.new (by simp)
    · exact (Blk.new (by simp)).alloc _
    · exact ((Blk.new (w := w) rfl).alloc _).alloc _
end Go.Proofs.Ytlphlmpfjpombaa
