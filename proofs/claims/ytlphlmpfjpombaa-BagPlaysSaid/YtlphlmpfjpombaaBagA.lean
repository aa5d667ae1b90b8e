/-
  The walks of bag's closures and of slices.IndexFunc, New, Len, has, At, First: what each call returns, and that nothing old in memory changes.
-/
import Derived.Test.YtlphlmpfjpombaaProg
import Derived.Test.YtlphlmpfjpombaaGen
namespace Go.Proofs.Ytlphlmpfjpombaa
open Go.RowKit Go.Instr

/-- A text on its way. -/
structure Msg where
  d : Nat
  text : ByteArray
  bad : Bool
def Msg.fine (m : Msg) : Prop := m.d < 256 ∧ m.text.size ≤ 1000
theorem ones3 {v0 v1 v2 : Value} (h0 : v0.oneCell' = true) (h1 : v1.oneCell' = true) (h2 : v2.oneCell' = true) : ∀ u ∈ ([v0, v1, v2] : List Value), u.oneCell' = true := by
  intro u hu
  simp only [List.mem_cons, List.not_mem_nil, or_false] at hu
  rcases hu with rfl | rfl | rfl <;> assumption
def msgR : RK Msg := { f := fun m => [.int .u8 m.d, .string m.text, .bool m.bad], c := 3, pos := by decide, len := fun _ => rfl, one := fun _ => ones3 rfl rfl rfl }
/-- A bag in block B, its texts in a row of the call's own. -/
def BagAt (w : World) (base B room : Nat) (l : List Msg) : Prop := ∃ s, Blk w B #[.int .i64 room, s] 68 ∧ msgR.Own 71 w base s l
theorem BagAt.on {w w1 : World} {base B room : Nat} {l : List Msg} (h : BagAt w base B room l) (hB : Below w.heap.size w w1) : BagAt w1 base B room l := by
  obtain ⟨s, h1, h2⟩ := h
  exact ⟨s, h1.on hB, h2.on hB⟩
theorem BagAt.lt {w : World} {base B room : Nat} {l : List Msg} (h : BagAt w base B room l) : B < w.heap.size := by
  obtain ⟨s, h1, h2⟩ := h
  exact h1.lt
/-- Blocks of other types are as they were. -/
def Kept (w w' : World) : Prop := w.heap.size ≤ w'.heap.size ∧ ∀ (k : Nat) (C : Array Value) (T : TypeId) (fz : Nat × Nat), w.heap[k]? = some (.cells C T fz) → T ≠ 68 → T ≠ 71 → w'.heap[k]? = w.heap[k]?
theorem Kept.refl (w : World) : Kept w w := ⟨Nat.le_refl _, fun _ _ _ _ _ _ _ => rfl⟩
theorem Kept.of_below {w w' : World} (h : Below w.heap.size w w') : Kept w w' := ⟨h.size, fun k _ _ _ hk _ _ => h.block k (Array.getElem?_eq_some_iff.1 hk).1⟩
theorem Kept.trans {w w1 w2 : World} (h : Kept w w1) (h' : Kept w1 w2) : Kept w w2 :=
  ⟨Nat.le_trans h.1 h'.1, fun k C T fz hk h1 h2 => (h'.2 k C T fz ((h.2 k C T fz hk h1 h2).trans hk) h1 h2).trans (h.2 k C T fz hk h1 h2)⟩
theorem Kept.blk {w w' : World} {B : Nat} {cs : Array Value} {T : TypeId} (h : Kept w w') (hb : Blk w B cs T) (h1 : T ≠ 68) (h2 : T ≠ 71) : Blk w' B cs T := (h.2 B cs T (0, 0) hb h1 h2).trans hb
theorem Kept.set {w w' : World} (h : Kept w w') {B j : Nat} {v : Value} {cs : Array Value} {T : TypeId} {fz : Nat × Nat} (hB : w'.heap[B]? = some (.cells cs T fz)) (hT : T = 68 ∨ T = 71) : Kept w (w'.setCell ⟨B, j, none⟩ v) := by
  refine ⟨by simpa using h.1, fun k C T' fz' hk h1 h2 => ?_⟩
  have e := h.2 k C T' fz' hk h1 h2
  refine (Below.heap_setCell w' ⟨B, j, none⟩ v k ?_).trans e
  rintro rfl
  rw [e, hk] at hB
  simp only [Option.some.injEq, Obj.cells.injEq] at hB
  rcases hT with h | h
  · exact h1 (hB.2.1.trans h)
  · exact h2 (hB.2.1.trans h)
theorem Kept.grown {w w' : World} {base n : Nat} {s : Value} {xs : List Value} (ho : w.ownsRow base 71 3 s n xs) (hg : w.grownBy w' s.ownBlock) : Kept w w' :=
  ⟨hg.size, fun k _ _ _ hk _ h2 => hg.block k (Array.getElem?_eq_some_iff.1 hk).1 (fun e => own_ne ho hk (fun e => h2 e.symm) e.symm)⟩
/-- What an append leaves of all else. -/
theorem app_after {base B n : Nat} {w wa w3 : World} {cs : Array Value} {s : Value} {xs : List Value} (hbw : base ≤ B) (hBw : B < w.heap.size) (hw : Below w.heap.size w wa) (hv : Blk wa B cs 68) (ho : wa.ownsRow base 71 3 s n xs) (hgr : wa.grownBy w3 s.ownBlock) : Blk w3 B cs 68 ∧ Below base w w3 ∧ Kept w w3 :=
  ⟨hv.grown hgr (fun e => own_ne ho hv (by decide) e.symm), (hw.mono (by omega)).grown hgr (by have := hw.size; omega) (fun j hj => (World.ownsRow.lt ho j hj).1), (Kept.of_below hw).trans (.grown ho hgr)⟩
/-- What a call on a bag leaves. -/
def BagP (base B room : Nat) (w : World) (v : Value) (l : List Msg) (e : Ending) (w' : World) : Prop :=
  e = .returned v ∧ BagAt w' base B room l ∧ Below base w w' ∧ Kept w w'
theorem BagP.quiet {base B room : Nat} {w w' : World} {v : Value} {l : List Msg} (hb : base ≤ w.heap.size) (h : BagAt w base B room l) (hB : Below w.heap.size w w') : BagP base B room w v l (.returned v) w' :=
  ⟨rfl, h.on hB, hB.mono hb, .of_below hB⟩
def isTo (d : Nat) (m : Msg) : Bool := decide (m.d = d)
set_option maxHeartbeats 400000 in
theorem clos_first (m : Msg) (d B : Nat) (w : World) (hc : w.cell? ⟨B, 0, none⟩ = some (.int .u8 d)) : Calls Try.prog 36 #[.agg #[.int .u8 m.d, .string m.text, .bool m.bad], .pointer (some ⟨B, 0, none⟩)] w fun e w' => e = .returned (.bool (isTo d m)) ∧ Below w.heap.size w w' := by
  obtain ⟨n, l, r⟩ := m
  have hlt := World.block_lt_of_cell? _ _ hc
  have hne : B ≠ w.heap.size := by simp only at hlt; omega
  unfold isTo
  go_enter Try.func36, Try.ntmps36
  go_wp2
  all_goals
    go_ret
    exact ⟨rbool (by rw [Bool.eq_iff_iff]; simp; try omega), by go_grown⟩
set_option maxHeartbeats 1000000 in
theorem idx_first (s : Value) (l : List Msg) (d B : Nat) (w : World) (hl : l.length ≤ 200) (hs : msgR.At w s l) (hB : w.cell? ⟨B, 0, none⟩ = some (.int .u8 d)) :
    Calls Try.prog 35 #[s, .func (.func 36) #[] #[.pointer (some ⟨B, 0, none⟩)]] w fun e w' => e = .returned (.int .i64 (idxOf (isTo d) l)) ∧ Below w.heap.size w w' := by
  by_cases h0 : l = []
  · subst h0
    obtain ⟨a, cap, rfl⟩ := hs.len
    clear hs
    go_enter Try.func35, Try.ntmps35
    go_wp2
    go_loop [8] (fun i => i = .int .i64 0) (fun _ => 0)
    case atStart => rfl
    case round =>
      obtain rfl := hrel
      go_wp2
      go_ret
      exact ⟨rfl, by go_grown⟩
  · obtain ⟨b, off, cap, rfl, hb, hc⟩ := hs.form (List.length_pos_iff.2 h0)
    have HC := Lib.hid hc
    have HB := Lib.hid hB
    obtain ⟨n, hn⟩ : ∃ n, n = l.length := ⟨_, rfl⟩
    rw [← hn] at hl ⊢
    have HN := Lib.hid hn
    clear hc hn hB hs h0
    go_enter Try.func35, Try.ntmps35
    go_wp2
    go_loopw [8] (fun i wr => ∃ k : Nat, k ≤ n ∧ i = .int .i64 k ∧ (∀ j (hj : j < l.length), j < k → isTo d l[j] = false) ∧ Below w.heap.size w wr) (fun i _ => (n - (intOf i).toNat))
    case atStart => exact ⟨0, by omega, rfl, by intro j _ hj; omega, by go_grown⟩
    case round =>
      obtain ⟨k, hk, rfl, hno, hBw⟩ := hrel
      have HNO := Lib.hid hno
      have HBW := Lib.hid hBw
      clear hno hBw
      by_cases hlt : k < n
      · have hkl : k < l.length := by rw [← HN.out]; exact hlt
        have c0 := HC.out k hkl 0 _ rfl
        have c1 := HC.out k hkl 1 _ rfl
        have c2 := HC.out k hkl 2 _ rfl
        obtain ⟨p, hp⟩ : ∃ p, p = l[k] := ⟨_, rfl⟩
        rw [← hp] at c0 c1 c2
        have HP := Lib.hid hp
        clear hp
        obtain ⟨pn, pl, pr⟩ := p
        have q0 : wr.cell? ⟨b, off + k * 3, none⟩ = some (.int .u8 pn) := (HBW.out.cell (p := ⟨b, off + k * 3, none⟩) hb).trans c0
        have q1 : wr.cell? ⟨b, off + k * 3 + 1, none⟩ = some (.string pl) := (HBW.out.cell (p := ⟨b, off + k * 3 + 1, none⟩) hb).trans c1
        have q2 : wr.cell? ⟨b, off + k * 3 + 2, none⟩ = some (.bool pr) := (HBW.out.cell (p := ⟨b, off + k * 3 + 2, none⟩) hb).trans c2
        clear c0 c1 c2
        have hB2 := (HBW.out.cell (p := ⟨B, 0, none⟩) (World.block_lt_of_cell? _ _ HB.out)).trans HB.out
        cases hpn : isTo d ⟨pn, pl, pr⟩ with
        | true =>
          have HPN := Lib.hid hpn
          clear hpn
          go_wp2_with (refine (clos_first ⟨pn, pl, pr⟩ d B _ hB2).mono ?_; rw [HPN.out]; rintro e w1 ⟨rfl, hB1⟩; have HB1 : Hid (Below w.heap.size w w1) := m_below_on HBW.out hB1; clear hB1)
          go_ret
          exact ⟨rint (idxOf_at HNO.out hkl (by rw [← HP.out]; exact HPN.out)).symm, HB1.out⟩
        | false =>
          have HPN := Lib.hid hpn
          clear hpn
          go_wp2_with (refine (clos_first ⟨pn, pl, pr⟩ d B _ hB2).mono ?_; rw [HPN.out]; rintro e w1 ⟨rfl, hB1⟩; have HB1 : Hid (Below w.heap.size w w1) := m_below_on HBW.out hB1; clear hB1)
          go_roundw
          case rel => exact ⟨k + 1, by omega, by go_num, idxOf_step HNO.out hkl (by rw [← HP.out]; exact HPN.out), HB1.out⟩
          case measure => simp [intOf]; omega
      · obtain rfl : k = n := by omega
        go_wp2
        go_ret
        exact ⟨rint (idxOf_none (fun j hj => HNO.out j hj (by rw [HN.out]; exact hj))).symm, HBW.out⟩
set_option maxHeartbeats 400000 in
theorem First_any (base B room d : Nat) (l : List Msg) (w : World) (hl : l.length ≤ 200) (hb : BagAt w base B room l) :
    Calls Try.prog 15 #[.pointer (some ⟨B, 0, none⟩), .int .u8 d] w fun e w' => e = .returned (.int .i64 (idxOf (isTo d) l)) ∧ Below w.heap.size w w' := by
  obtain ⟨s, h1, h2⟩ := hb
  have HO := Lib.hid h2
  have c1 := h1.cell 1
  simp at c1
  have hlt := h1.lt
  clear h1 h2
  obtain ⟨a, cap, rfl⟩ := HO.out.at.len
  go_enter Try.func15, Try.ntmps15
  go_wp2_with (refine (idx_first _ l d w.heap.size _ hl (HO.out.at.al _) (by simp)).mono ?_; rintro en w1 ⟨rfl, hB⟩; have HB : Hid (Below w.heap.size w w1) := m_below_on (by go_grown) hB; clear hB)
  go_ret
  exact ⟨rfl, HB.out⟩
set_option maxHeartbeats 400000 in
theorem First_nil (d : Nat) (w : World) : Calls Try.prog 15 #[.pointer none, .int .u8 d] w fun e w' => e = .returned (.int .i64 (-1)) ∧ Below w.heap.size w w' := by
  go_enter Try.func15, Try.ntmps15
  go_wp2
  go_ret
  exact ⟨rfl, by go_grown⟩
set_option maxHeartbeats 400000 in
theorem Len_any (base B room : Nat) (l : List Msg) (w : World) (hb : BagAt w base B room l) :
    Calls Try.prog 18 #[.pointer (some ⟨B, 0, none⟩)] w fun e w' => e = .returned (.int .i64 l.length) ∧ w = w' := by
  obtain ⟨s, h1, h2⟩ := hb
  have c1 := h1.cell 1
  simp at c1
  obtain ⟨a, cap, rfl⟩ := h2.at.len
  clear h1 h2
  go_enter Try.func18, Try.ntmps18
  go_wp2
  go_ret
  exact ⟨rfl, rfl⟩
set_option maxHeartbeats 400000 in
theorem Len_nil (w : World) : Calls Try.prog 18 #[.pointer none] w fun e w' => e = .returned (.int .i64 0) ∧ w = w' := by
  go_enter Try.func18, Try.ntmps18
  go_wp2
  go_ret
  exact ⟨rfl, rfl⟩
set_option maxHeartbeats 400000 in
theorem has_yes (base B room i : Nat) (l : List Msg) (w : World) (hb : BagAt w base B room l) (hi : i < l.length) :
    Calls Try.prog 31 #[.pointer (some ⟨B, 0, none⟩), .int .i64 i] w fun e w' => e = .returned (.bool true) ∧ w = w' := by
  obtain ⟨n, hn⟩ : ∃ n, l.length = n := ⟨_, rfl⟩
  rw [hn] at hi
  have HN := Lib.hid hn
  clear hn
  go_enter Try.func31, Try.ntmps31
  go_wp2_with (refine (Len_any base B room l _ hb).mono ?_; rw [HN.out]; rintro en w1 ⟨rfl, rfl⟩)
  go_ret
  exact ⟨rfl, rfl⟩
set_option maxHeartbeats 400000 in
theorem has_no (base B room : Nat) (i : Int) (l : List Msg) (w : World) (hb : BagAt w base B room l) (h1 : -9223372036854775808 ≤ i) (h2 : i ≤ 9223372036854775807) (hi : i < 0 ∨ (l.length : Int) ≤ i) :
    Calls Try.prog 31 #[.pointer (some ⟨B, 0, none⟩), .int .i64 i] w fun e w' => e = .returned (.bool false) ∧ w = w' := by
  obtain ⟨n, hn⟩ : ∃ n, l.length = n := ⟨_, rfl⟩
  rw [hn] at hi
  have HN := Lib.hid hn
  clear hn
  rcases hi with hi | hi
  · have hd : decide (0 ≤ i) = false := by simpa using hi
    go_enter Try.func31, Try.ntmps31
    go_wp2
    go_ret
    exact ⟨rfl, rfl⟩
  · have hd : (0 : Int) ≤ i := by omega
    have hd2 : decide (i < (n : Int)) = false := by simpa using hi
    go_enter Try.func31, Try.ntmps31
    go_wp2_with (refine (Len_any base B room l _ hb).mono ?_; rw [HN.out]; rintro en w1 ⟨rfl, rfl⟩)
    go_ret
    exact ⟨rfl, rfl⟩
set_option maxHeartbeats 400000 in
theorem has_nil (i : Int) (w : World) : Calls Try.prog 31 #[.pointer none, .int .i64 i] w fun e w' => e = .returned (.bool false) ∧ w = w' := by
  by_cases hi : 0 ≤ i
  · have hd2 : decide (i < 0) = false := by simpa using hi
    go_enter Try.func31, Try.ntmps31
    go_wp2_with (refine (Len_nil _).mono ?_; rintro en w1 ⟨rfl, rfl⟩)
    go_ret
    exact ⟨rfl, rfl⟩
  · have hd : decide (0 ≤ i) = false := by simpa using hi
    go_enter Try.func31, Try.ntmps31
    go_wp2
    go_ret
    exact ⟨rfl, rfl⟩
end Go.Proofs.Ytlphlmpfjpombaa
