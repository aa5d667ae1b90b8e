/-
  The walks of view's Find, Ends, Others, Same and of slices.Equal over members.
-/
import Derived.Test.YtkgahhfemlebmaaViewG
namespace Go.Proofs.Ytkgahhfemlebmaa
open Go.RowKit Go.Instr

theorem find_is (e : Nat) (s : Value) (lv : Lv) (l : List Mem) (node : Nat) (r : Int) (w : World) (hl : l.length ≤ 40) (hs : MemsAt w s l) (hr : idxOf (isNode node) l = r) :
    Calls Try.prog 25 #[.agg (vC e s lv), .int .u8 node] w fun en w' => en = .returned (.int .i64 r) ∧ Below w.heap.size w w' := by
  subst hr
  exact find_any e s lv l node w hl hs
theorem MemsAt.form {w : World} {s : Value} {l : List Mem} (h : MemsAt w s l) (hi : 0 < l.length) : ∃ g off cap, s = .slice (some ⟨g, off, none⟩) l.length cap ∧ g < w.heap.size ∧ ∀ i (h : i < l.length), (w.cell? ⟨g, off + i * 3, none⟩ = some (.int .u8 l[i].n) ∧ w.cell? ⟨g, off + i * 3 + 1, none⟩ = some (.int .u8 l[i].l) ∧ w.cell? ⟨g, off + i * 3 + 2, none⟩ = some (.bool l[i].r)) := by
  rcases h with ⟨_, rfl⟩ | ⟨b, off, cap, rfl, hb, hc⟩
  · exact absurd hi (Nat.lt_irrefl 0)
  · exact ⟨b, off, cap, rfl, hb, hc⟩
set_option maxHeartbeats 1000000 in
theorem Find_no (e : Nat) (s : Value) (lv : Lv) (l : List Mem) (node : Nat) (w : World) (hl : l.length ≤ 40) (hs : MemsAt w s l) (hx : idxOf (isNode node) l = -1) :
    Calls Try.prog 15 #[.agg (vC e s lv), .int .u8 node] w fun en w' => en = .returned (.tuple #[.agg (mC ⟨0, 0, false⟩), .bool false]) ∧ Below w.heap.size w w' := by
  have HS := Lib.hid hs
  have HX := Lib.hid hx
  clear hs hx
  unfold vC
  go_enter Try.func15, Try.ntmps15
  go_wp2_with ((refine (find_is e s lv l node (-1) _ hl ((HS.out.al _).al _) HX.out).mono ?_); rintro en w1 ⟨rfl, hB⟩; have HB : Hid (Below w.heap.size w w1) := Lib.hid (m_below_on (by go_grown) hB); have hb1 := (Blk.on (Blk.new (T := 52) (cs := mC ⟨0, 0, false⟩) (by simp)) hB : Blk w1 (w.heap.size + 1) _ 52); have x0 := hb1.cell 0; have x1 := hb1.cell 1; have x2 := hb1.cell 2; have f0 := hb1.frozen 0; have f1 := hb1.frozen 1; have f2 := hb1.frozen 2; clear hB; have HB1 := Lib.hid hb1; clear hb1; simp at x0 x1 x2)
  refine bodyPost_ret (v := .tuple #[.agg (mC ⟨0, 0, false⟩), .bool false]) (by simp [results, Try.results15, go_sem, x0, x1, x2]) rfl ⟨rfl, ?_⟩
  have := HB.out
  go_grown
theorem fill_mem {w : World} {D : Nat} {m : Mem} (h : Blk w D (mC m) 52) (m' : Mem) (w' : World)
    (hw : w' = ((w.setCell ⟨D, 0, none⟩ (.int .u8 m'.n)).setCell ⟨D, 1, none⟩ (.int .u8 m'.l)).setCell ⟨D, 2, none⟩ (.bool m'.r)) : Blk w' D (mC m') 52 ∧ Below D w w' := by
  subst hw
  exact ⟨Blk.set (Blk.set (Blk.set h 0 _ #[.int .u8 m'.n, .int .u8 m.l, .bool m.r] rfl) 1 _ #[.int .u8 m'.n, .int .u8 m'.l, .bool m.r] rfl) 2 _ _ rfl, by go_grown⟩
set_option maxHeartbeats 1000000 in
theorem Find_yes (e : Nat) (s : Value) (lv : Lv) (l : List Mem) (node i : Nat) (m : Mem) (w : World) (hl : l.length ≤ 40) (hs : MemsAt w s l) (hx : idxOf (isNode node) l = (i : Nat)) (hi : i < l.length) (hm : l[i] = m) :
    Calls Try.prog 15 #[.agg (vC e s lv), .int .u8 node] w fun en w' => en = .returned (.tuple #[.agg (mC m), .bool true]) ∧ Below w.heap.size w w' := by
  obtain ⟨g, off, cap, rfl, hg, hc⟩ := hs.form (by omega)
  obtain ⟨q0, q1, q2⟩ := hc i hi
  rw [hm] at q0 q1 q2
  have HQ := Lib.hid (And.intro q0 (And.intro q1 q2))
  have HS := Lib.hid hs
  have HX := Lib.hid hx
  have HL := Lib.hid hl
  have hgne : g ≠ w.heap.size := by omega
  have hgne1 : g ≠ w.heap.size + 1 := by omega
  obtain ⟨n, hn⟩ : ∃ n, n = l.length := ⟨_, rfl⟩
  rw [← hn] at HS hi hl ⊢
  clear hs hx hc hm hn q0 q1 q2
  obtain ⟨mn, ml, mr⟩ := m
  unfold vC
  have HB0 : Hid (Blk ((w.alloc (.cells (vC e (.slice (some ⟨g, off, none⟩) n cap) lv) 28)).alloc (.cells (mC ⟨0, 0, false⟩) 52)) w.heap.size (vC e (.slice (some ⟨g, off, none⟩) n cap) lv) 28) := Lib.hid ((Blk.new rfl).alloc _)
  go_enter Try.func15, Try.ntmps15
  go_wp2_with ((refine (find_is e (.slice (some ⟨g, off, none⟩) n cap) lv l node i _ HL.out ((HS.out.al _).al _) HX.out).mono ?_); rintro en w1 ⟨rfl, hB⟩; have HB : Hid (Below w.heap.size w w1) := Lib.hid (m_below_on (by go_grown) hB); have hb1 := (Blk.on (Blk.new (T := 52) (cs := mC ⟨0, 0, false⟩) (by simp)) hB : Blk w1 (w.heap.size + 1) _ 52); have x0 := hb1.cell 0; have x1 := hb1.cell 1; have x2 := hb1.cell 2; have f0 := hb1.frozen 0; have f1 := hb1.frozen 1; have f2 := hb1.frozen 2; have d1 := (HB0.out.on hB).cell 1; clear hB; have HB1 := Lib.hid hb1; clear hb1; simp at x0 x1 x2 d1; have q0 := (HB.out.cell (p := ⟨g, off + i * 3, none⟩) hg).trans HQ.out.1; have q1 := (HB.out.cell (p := ⟨g, off + i * 3 + 1, none⟩) hg).trans HQ.out.2.1; have q2 := (HB.out.cell (p := ⟨g, off + i * 3 + 2, none⟩) hg).trans HQ.out.2.2; simp only at q0 q1 q2)
  obtain ⟨wf, hwf⟩ : ∃ wf, wf = ((w1.setCell ⟨w.heap.size + 1, 0, none⟩ (.int .u8 mn)).setCell ⟨w.heap.size + 1, 1, none⟩ (.int .u8 ml)).setCell ⟨w.heap.size + 1, 2, none⟩ (.bool mr) := ⟨_, rfl⟩
  rw [← hwf]
  obtain ⟨hF, hFB⟩ := fill_mem HB1.out ⟨mn, ml, mr⟩ wf hwf
  clear hwf x0 x1 x2 f0 f1 f2 d1 q0 q1 q2
  have x0 := hF.cell 0
  have x1 := hF.cell 1
  have x2 := hF.cell 2
  simp at x0 x1 x2
  exact bodyPost_ret (v := .tuple #[.agg (mC ⟨mn, ml, mr⟩), .bool true]) (by simp [results, Try.results15, go_sem, x0, x1, x2]) rfl ⟨rfl, HB.out.trans (hFB.mono (by omega))⟩
/-- The node at a place, 0 where there is none. -/
def nodeAt (l : List Mem) (j : Nat) : Nat := (l[j]?.map (·.n)).getD 0
def prevN (l : List Mem) (i : Nat) : Nat := if 0 < i then nodeAt l (i - 1) else 0
theorem nodeAt_lt {l : List Mem} {j : Nat} (h : j < l.length) : nodeAt l j = l[j].n := by simp [nodeAt, List.getElem?_eq_getElem h]
theorem nodeAt_ge {l : List Mem} {j : Nat} (h : ¬ j < l.length) : nodeAt l j = 0 := by simp [nodeAt, List.getElem?_eq_none (by omega : l.length ≤ j)]
set_option maxHeartbeats 1000000 in
theorem Ends_no (e : Nat) (s : Value) (lv : Lv) (l : List Mem) (node : Nat) (w : World) (hl : l.length ≤ 40) (hs : MemsAt w s l) (hx : idxOf (isNode node) l = -1) :
    Calls Try.prog 16 #[.agg (vC e s lv), .int .u8 node] w fun en w' => en = .returned (.tuple #[.int .u8 0, .int .u8 0]) ∧ Below w.heap.size w w' := by
  have HS := Lib.hid hs
  have HX := Lib.hid hx
  clear hs hx
  unfold vC
  go_enter Try.func16, Try.ntmps16
  go_wp2_with ((refine (find_is e s lv l node (-1) _ hl (HS.out.al _) HX.out).mono ?_); rintro en w1 ⟨rfl, hB⟩; have HB : Hid (Below w.heap.size w w1) := Lib.hid (m_below_on (by go_grown) hB); clear hB)
  go_ret2
  exact ⟨rfl, HB.out⟩
set_option maxHeartbeats 1000000 in
theorem Ends_yes (e : Nat) (s : Value) (lv : Lv) (l : List Mem) (node i : Nat) (w : World) (hl : l.length ≤ 40) (hs : MemsAt w s l) (hx : idxOf (isNode node) l = (i : Nat)) (hi : i < l.length) :
    Calls Try.prog 16 #[.agg (vC e s lv), .int .u8 node] w fun en w' => en = .returned (.tuple #[.int .u8 (prevN l i), .int .u8 (nodeAt l (i + 1))]) ∧ Below w.heap.size w w' := by
  obtain ⟨g, off, cap, rfl, hg, hc⟩ := hs.form (by omega)
  have HS := Lib.hid hs
  have HX := Lib.hid hx
  have HL := Lib.hid hl
  have HCC := Lib.hid hc
  have HI := Lib.hid hi
  have hgne : g ≠ w.heap.size := by omega
  obtain ⟨n, hn⟩ : ∃ n, n = l.length := ⟨_, rfl⟩
  have HN := Lib.hid hn
  rw [← hn] at HS hi hl ⊢
  clear hs hx hc hn
  unfold vC
  have HB0 : Hid (Blk (w.alloc (.cells (vC e (.slice (some ⟨g, off, none⟩) n cap) lv) 28)) w.heap.size (vC e (.slice (some ⟨g, off, none⟩) n cap) lv) 28) := Lib.hid (Blk.new rfl)
  have key : ∀ (a b : Nat), prevN l i = a → nodeAt l (i + 1) = b → (0 < i → w.cell? ⟨g, off + (i - 1) * 3, none⟩ = some (.int .u8 a)) → (i = 0 → a = 0) → (i + 1 < n → w.cell? ⟨g, off + (i + 1) * 3, none⟩ = some (.int .u8 b)) → (¬ i + 1 < n → b = 0) →
      Calls Try.prog 16 #[.agg (vC e (.slice (some ⟨g, off, none⟩) n cap) lv), .int .u8 node] w fun en w' => en = .returned (.tuple #[.int .u8 a, .int .u8 b]) ∧ Below w.heap.size w w' := by
    intro a b _ _ ha ha0 hb hb0
    have HA := Lib.hid ha
    have HBB := Lib.hid hb
    have HA0 := Lib.hid ha0
    have HB0' := Lib.hid hb0
    clear ha hb ha0 hb0
    by_cases hi0 : 0 < i
    · have q0 := HA.out hi0
      have Q0 := Lib.hid q0
      clear q0
      obtain ⟨j, rfl⟩ : ∃ j, i = j + 1 := ⟨i - 1, by omega⟩
      rw [Nat.add_sub_cancel] at Q0
      by_cases hi1 : j + 1 + 1 < n
      · have Q1 := Lib.hid (HBB.out hi1)
        go_enter Try.func16, Try.ntmps16
        go_wp2_with ((refine (find_is e (.slice (some ⟨g, off, none⟩) n cap) lv l node (j + 1 : Nat) _ HL.out (HS.out.al _) HX.out).mono ?_); rintro en w1 ⟨rfl, hB⟩; have HB : Hid (Below w.heap.size w w1) := Lib.hid (m_below_on (by go_grown) hB); have d1 := (HB0.out.on hB).cell 1; simp at d1; have q0 := (HB.out.cell (p := ⟨g, off + j * 3, none⟩) hg).trans Q0.out; have q1 := (HB.out.cell (p := ⟨g, off + (j + 1 + 1) * 3, none⟩) hg).trans Q1.out; clear hB)
        go_ret2
        exact ⟨rfl, HB.out⟩
      · have hb := HB0'.out hi1
        subst hb
        go_enter Try.func16, Try.ntmps16
        go_wp2_with ((refine (find_is e (.slice (some ⟨g, off, none⟩) n cap) lv l node (j + 1 : Nat) _ HL.out (HS.out.al _) HX.out).mono ?_); rintro en w1 ⟨rfl, hB⟩; have HB : Hid (Below w.heap.size w w1) := Lib.hid (m_below_on (by go_grown) hB); have d1 := (HB0.out.on hB).cell 1; simp at d1; have q0 := (HB.out.cell (p := ⟨g, off + j * 3, none⟩) hg).trans Q0.out; clear hB)
        go_ret2
        exact ⟨rfl, HB.out⟩
    · obtain rfl : i = 0 := by omega
      have ha := HA0.out rfl
      subst ha
      by_cases hi1 : 0 + 1 < n
      · have Q1 := Lib.hid (HBB.out hi1)
        go_enter Try.func16, Try.ntmps16
        go_wp2_with ((refine (find_is e (.slice (some ⟨g, off, none⟩) n cap) lv l node (0 : Nat) _ HL.out (HS.out.al _) HX.out).mono ?_); rintro en w1 ⟨rfl, hB⟩; have HB : Hid (Below w.heap.size w w1) := Lib.hid (m_below_on (by go_grown) hB); have d1 := (HB0.out.on hB).cell 1; simp at d1; have q1 := (HB.out.cell (p := ⟨g, off + (0 + 1) * 3, none⟩) hg).trans Q1.out; clear hB)
        go_ret2
        exact ⟨rfl, HB.out⟩
      · have hb := HB0'.out hi1
        subst hb
        go_enter Try.func16, Try.ntmps16
        go_wp2_with ((refine (find_is e (.slice (some ⟨g, off, none⟩) n cap) lv l node (0 : Nat) _ HL.out (HS.out.al _) HX.out).mono ?_); rintro en w1 ⟨rfl, hB⟩; have HB : Hid (Below w.heap.size w w1) := Lib.hid (m_below_on (by go_grown) hB); have d1 := (HB0.out.on hB).cell 1; simp at d1; clear hB)
        go_ret2
        exact ⟨rfl, HB.out⟩
  have hi' := HI.out
  have hn' := HN.out
  refine key _ _ rfl rfl ?_ ?_ ?_ ?_
  · intro h
    rw [prevN, if_pos h, nodeAt_lt (by omega)]
    exact (HCC.out (i - 1) (by omega)).1
  · intro h
    rw [prevN, if_neg (by omega)]
  · intro h
    rw [nodeAt_lt (by omega)]
    exact (HCC.out (i + 1) (by omega)).1
  · intro h
    rw [nodeAt_ge (by omega)]
end Go.Proofs.Ytkgahhfemlebmaa
