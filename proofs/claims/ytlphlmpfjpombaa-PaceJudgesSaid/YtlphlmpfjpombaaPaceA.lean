/-
  The walks of pace's within, find, Fair, of its closure, of slices.IndexFunc and slices.Clone.
-/
import Derived.Test.YtlphlmpfjpombaaProg
import Derived.Test.YtlphlmpfjpombaaPaceM
namespace Go.Proofs.Ytlphlmpfjpombaa
open Go.RowKit Go.Instr

set_option maxHeartbeats 400000 in
theorem within_is (n top : Int) (r : Bool) (w : World) (hr : decide (1 ≤ n ∧ n ≤ top) = r) : Calls Try.prog 38 #[.int .i64 n, .int .i64 top] w fun e w' => e = .returned (.bool r) ∧ w = w' := by
  subst hr
  by_cases h1 : 1 ≤ n
  · by_cases h2 : n ≤ top
    · have e : decide (1 ≤ n ∧ n ≤ top) = true := by simp; omega
      rw [e]
      clear e
      go_enter Try.func38, Try.ntmps38
      go_wp2
      go_ret
      exact ⟨rfl, rfl⟩
    · have e : decide (1 ≤ n ∧ n ≤ top) = false := by simp; omega
      rw [e]
      clear e
      have hd : decide (n ≤ top) = false := by simpa using h2
      go_enter Try.func38, Try.ntmps38
      go_wp2
      go_ret
      exact ⟨rfl, rfl⟩
  · have e : decide (1 ≤ n ∧ n ≤ top) = false := by simp; omega
    rw [e]
    clear e
    have hd : decide (1 ≤ n) = false := by simpa using h1
    go_enter Try.func38, Try.ntmps38
    go_wp2
    go_ret
    exact ⟨rfl, rfl⟩
/-- The five cells of a pace. -/
theorem PaceAt.five {w : World} {base P : Nat} {p : Pc} {mb mc nb nc : Nat} {xs : List TV} (h : PaceAt w base P p mb mc nb nc xs) : w.cell? ⟨P, 0, none⟩ = some (.int .i64 p.hold) ∧ w.cell? ⟨P, 1, none⟩ = some (.int .i64 p.wait) ∧ w.cell? ⟨P, 2, none⟩ = some (.slice (some ⟨mb, 0, none⟩) p.ms.length mc) ∧ w.cell? ⟨P, 3, none⟩ = some (.slice (some ⟨nb, 0, none⟩) p.ns.length nc) ∧ w.cell? ⟨P, 4, none⟩ = some (.bool p.bad) :=
  ⟨h.blk.cell 0, h.blk.cell 1, h.blk.cell 2, h.blk.cell 3, h.blk.cell 4⟩
set_option maxHeartbeats 400000 in
theorem find_yes (base P : Nat) (p : Pc) (mb mc nb nc : Nat) (xs : List TV) (i : Nat) (w : World) (hp : PaceAt w base P p mb mc nb nc xs) (hi : i < p.ns.length) (hn : p.ns.length ≤ 8) :
    Calls Try.prog 39 #[.pointer (some ⟨P, 0, none⟩), .int .i64 (i + 1)] w fun e w' => e = .returned (.pointer (some ⟨nb, i * 2, none⟩)) ∧ w = w' := by
  obtain ⟨_, _, _, c3, _⟩ := hp.five
  clear hp
  obtain ⟨n, hnn⟩ : ∃ n, p.ns.length = n := ⟨_, rfl⟩
  rw [hnn] at c3 hi hn
  clear hnn
  have hx1 : (0 : Int) ≤ i + 1 := by omega
  have hx2 : (i : Int) + 1 ≤ n := by omega
  go_enter Try.func39, Try.ntmps39
  go_wp2_with (go_at_call 38; (refine (within_is _ _ true _ (by simp; omega)).mono ?_); rintro en w1 ⟨rfl, rfl⟩)
  go_ret
  exact ⟨rfl, rfl⟩
set_option maxHeartbeats 400000 in
theorem find_no (base P : Nat) (p : Pc) (mb mc nb nc : Nat) (xs : List TV) (i : Int) (w : World) (hp : PaceAt w base P p mb mc nb nc xs) (hi : i < 1 ∨ (p.ns.length : Int) < i) :
    Calls Try.prog 39 #[.pointer (some ⟨P, 0, none⟩), .int .i64 i] w fun e w' => e = .returned (.pointer none) ∧ w = w' := by
  obtain ⟨_, _, _, c3, _⟩ := hp.five
  clear hp
  obtain ⟨n, hnn⟩ : ∃ n, p.ns.length = n := ⟨_, rfl⟩
  rw [hnn] at c3 hi
  clear hnn
  have HI := Lib.hid hi
  clear hi
  go_enter Try.func39, Try.ntmps39
  go_wp2_with (go_at_call 38; (refine (within_is _ _ false _ (by have := HI.out; simp; omega)).mono ?_); rintro en w1 ⟨rfl, rfl⟩)
  go_ret
  exact ⟨rfl, rfl⟩
set_option maxHeartbeats 400000 in
theorem find_nil (i : Int) (w : World) :
    Calls Try.prog 39 #[.pointer none, .int .i64 i] w fun e w' => e = .returned (.pointer none) ∧ w = w' := by
  go_enter Try.func39, Try.ntmps39
  go_wp2
  go_ret
  exact ⟨rfl, rfl⟩
set_option maxHeartbeats 400000 in
theorem Fair_any (base P : Nat) (p : Pc) (mb mc nb nc : Nat) (xs : List TV) (w : World) (hp : PaceAt w base P p mb mc nb nc xs) :
    Calls Try.prog 24 #[.pointer (some ⟨P, 0, none⟩)] w fun e w' => e = .returned (.bool (!p.bad)) ∧ w = w' := by
  obtain ⟨_, _, _, _, c4⟩ := hp.five
  clear hp
  go_enter Try.func24, Try.ntmps24
  go_wp2
  go_ret
  exact ⟨rfl, rfl⟩
set_option maxHeartbeats 400000 in
theorem Fair_nil (w : World) : Calls Try.prog 24 #[.pointer none] w fun e w' => e = .returned (.bool false) ∧ w = w' := by
  go_enter Try.func24, Try.ntmps24
  go_wp2
  go_ret
  exact ⟨rfl, rfl⟩
/-- Has a span ended? -/
def doneB (t hold : Nat) (y : TV) : Bool := decide (y.t + hold ≤ t)
/-- What the closure reads: the node's pointer and the pace's, the node's ticks, how long leases are held. -/
structure ClosAt (w : World) (bn bp nb o P t hold : Nat) : Prop where
  n : w.cell? ⟨bn, 0, none⟩ = some (.pointer (some ⟨nb, o, none⟩))
  p : w.cell? ⟨bp, 0, none⟩ = some (.pointer (some ⟨P, 0, none⟩))
  t : w.cell? ⟨nb, o, none⟩ = some (.int .i64 t)
  h : w.cell? ⟨P, 0, none⟩ = some (.int .i64 hold)
theorem ClosAt.on {w w' : World} {bn bp nb o P t hold : Nat} (h : ClosAt w bn bp nb o P t hold) (hB : Below w.heap.size w w') : ClosAt w' bn bp nb o P t hold :=
  ⟨(hB.cell (p := ⟨bn, 0, none⟩) (World.block_lt_of_cell? _ _ h.n)).trans h.n, (hB.cell (p := ⟨bp, 0, none⟩) (World.block_lt_of_cell? _ _ h.p)).trans h.p, (hB.cell (p := ⟨nb, o, none⟩) (World.block_lt_of_cell? _ _ h.t)).trans h.t, (hB.cell (p := ⟨P, 0, none⟩) (World.block_lt_of_cell? _ _ h.h)).trans h.h⟩
set_option maxHeartbeats 400000 in
theorem clos_any (bn bp nb o P t hold : Nat) (y : TV) (w : World) (h : ClosAt w bn bp nb o P t hold) (ht : t ≤ 1000000) (hy : y.t ≤ t) :
    Calls Try.prog 41 #[.agg #[.int .i64 y.t, .slice y.a y.n y.c], .pointer (some ⟨bn, 0, none⟩), .pointer (some ⟨bp, 0, none⟩)] w fun e w' => e = .returned (.bool (doneB t hold y)) ∧ Below w.heap.size w w' := by
  have h' := h.on (w' := w.alloc (.cells #[.int .i64 y.t, .slice y.a y.n y.c] 85)) (by go_grown)
  obtain ⟨c0, c1, c2, c3⟩ := h
  have l0 := World.block_lt_of_cell? _ _ c0
  have l1 := World.block_lt_of_cell? _ _ c1
  have l2 := World.block_lt_of_cell? _ _ c2
  have l3 := World.block_lt_of_cell? _ _ c3
  simp only at l0 l1 l2 l3
  have n0 : bn ≠ w.heap.size := by omega
  have n1 : bp ≠ w.heap.size := by omega
  have n2 : nb ≠ w.heap.size := by omega
  have n3 : P ≠ w.heap.size := by omega
  obtain ⟨yt, ya, yn, yc⟩ := y
  simp only at hy
  clear h'
  have hx : (0 : Int) ≤ (t : Int) - yt := by omega
  have hx2 : (t : Int) - yt ≤ 1000000 := by omega
  go_enter Try.func41, Try.ntmps41
  go_wp2
  go_quiet (fail)
  go_wp2
  go_ret
  exact ⟨rbool (by unfold doneB; rw [Bool.eq_iff_iff]; simp; try omega), m_below_on (w1 := w.alloc _) (by go_grown) ⟨rfl, rfl, rfl, Nat.le_refl _, fun _ _ => rfl⟩⟩
theorem cells2 {w : World} {b o : Nat} {y : TV} (h : ∀ j u, (twoR.f y)[j]? = some u → w.cell? ⟨b, o + j, none⟩ = some u) : w.cell? ⟨b, o, none⟩ = some (.int .i64 y.t) ∧ w.cell? ⟨b, o + 1, none⟩ = some (.slice y.a y.n y.c) := ⟨h 0 _ rfl, h 1 _ rfl⟩
set_option maxHeartbeats 1000000 in
theorem idx_done (s : Value) (ys : List TV) (bn bp nb o P t hold : Nat) (w : World) (hl : ys.length ≤ 1000) (hs : twoR.At w s ys) (hc : ClosAt w bn bp nb o P t hold) (ht : t ≤ 1000000) (hy : ∀ y ∈ ys, y.t ≤ t) :
    Calls Try.prog 44 #[s, .func (.func 41) #[] #[.pointer (some ⟨bn, 0, none⟩), .pointer (some ⟨bp, 0, none⟩)]] w fun e w' => e = .returned (.int .i64 (idxOf (doneB t hold) ys)) ∧ Below w.heap.size w w' := by
  by_cases h0 : ys = []
  · subst h0
    obtain ⟨a, cap, rfl⟩ := hs.len
    clear hs
    go_enter Try.func44, Try.ntmps44
    go_wp2
    go_loop [8] (fun i => i = .int .i64 0) (fun _ => 0)
    case atStart => rfl
    case round =>
      obtain rfl := hrel
      go_wp2
      go_ret
      exact ⟨rfl, by go_grown⟩
  · obtain ⟨b, off, cap, rfl, hb, hcc⟩ := hs.form (List.length_pos_iff.2 h0)
    have HC := Lib.hid hcc
    have HCL := Lib.hid hc
    have HY := Lib.hid hy
    obtain ⟨n, hn⟩ : ∃ n, n = ys.length := ⟨_, rfl⟩
    rw [← hn] at hl ⊢
    have HN := Lib.hid hn
    clear hcc hc hn hs h0 hy
    go_enter Try.func44, Try.ntmps44
    go_wp2
    go_loopw [8] (fun i wr => ∃ k : Nat, k ≤ n ∧ i = .int .i64 k ∧ (∀ j (hj : j < ys.length), j < k → doneB t hold ys[j] = false) ∧ Below w.heap.size w wr) (fun i _ => (n - (intOf i).toNat))
    case atStart => exact ⟨0, by omega, rfl, by intro j _ hj; omega, by go_grown⟩
    case round =>
      obtain ⟨k, hk, rfl, hno, hBw⟩ := hrel
      have HNO := Lib.hid hno
      have HBW := Lib.hid hBw
      clear hno hBw
      by_cases hlt : k < n
      · have hkl : k < ys.length := by rw [← HN.out]; exact hlt
        obtain ⟨q0, q1⟩ := cells2 (o := off + k * 2) (fun j u hu => by rw [Nat.add_assoc]; exact HC.out k hkl j u hu)
        have hyk := HY.out _ (List.getElem_mem hkl)
        obtain ⟨y, hp⟩ : ∃ y, ys[k] = y := ⟨_, rfl⟩
        rw [hp] at q0 q1 hyk
        have HP := Lib.hid hp
        clear hp
        obtain ⟨yt, ya, yn, yc⟩ := y
        simp only at hyk
        replace q0 : wr.cell? ⟨b, off + k * 2, none⟩ = some (.int .i64 yt) := (HBW.out.cell (p := ⟨b, off + k * 2, none⟩) hb).trans q0
        replace q1 : wr.cell? ⟨b, off + k * 2 + 1, none⟩ = some (.slice ya yn yc) := (HBW.out.cell (p := ⟨b, off + k * 2 + 1, none⟩) hb).trans q1
        obtain ⟨d, hd⟩ : ∃ d, doneB t hold ⟨yt, ya, yn, yc⟩ = d := ⟨_, rfl⟩
        have HPN := Lib.hid hd
        clear hd
        cases d with
        | true =>
          go_wp2_with ((refine (clos_any bn bp nb o P t hold ⟨yt, ya, yn, yc⟩ _ (HCL.out.on HBW.out) ht hyk).mono ?_); rw [HPN.out]; rintro e w1 ⟨rfl, hB1⟩; have HB1 : Hid (Below w.heap.size w w1) := m_below_on HBW.out hB1; clear hB1)
          go_ret
          exact ⟨rint (idxOf_at HNO.out hkl (by rw [HP.out]; exact HPN.out)).symm, HB1.out⟩
        | false =>
          go_wp2_with ((refine (clos_any bn bp nb o P t hold ⟨yt, ya, yn, yc⟩ _ (HCL.out.on HBW.out) ht hyk).mono ?_); rw [HPN.out]; rintro e w1 ⟨rfl, hB1⟩; have HB1 : Hid (Below w.heap.size w w1) := m_below_on HBW.out hB1; clear hB1)
          go_roundw
          case rel => exact ⟨k + 1, by omega, by go_num, idxOf_step HNO.out hkl (by rw [HP.out]; exact HPN.out), HB1.out⟩
          case measure => simp [intOf]; omega
      · obtain rfl : k = n := by omega
        go_wp2
        go_ret
        exact ⟨rint (idxOf_none (fun j hj => HNO.out j hj (by rw [HN.out]; exact hj))).symm, HBW.out⟩
end Go.Proofs.Ytlphlmpfjpombaa
