/-
  The walks of the reference's At, ready and Ready: what each call returns, and that nothing old in memory changes.
-/
import Derived.Test.YtkgahhfemlebmaaViewM
namespace Go.Proofs.Ytkgahhfemlebmaa
open Go.RowKit Go.Instr

set_option maxHeartbeats 1000000 in
theorem refAt_any (e : Nat) (s : Value) (lv : Lv) (l : List Mem) (node : Nat) (w : World) (hl : l.length ≤ 40) (hs : MemsAt w s l) :
    Calls Try.prog 22 #[.agg (vC e s lv), .int .u8 node] w fun en w' => en = .returned (.int .i64 (idxOf (isNode node) l)) ∧ Below w.heap.size w w' := by
  unfold vC
  rcases hs with ⟨rfl, rfl⟩ | ⟨b, off, cap, rfl, hb, hc⟩
  · go_enter Try.func22, Try.ntmps22
    go_wp2
    go_loop [5] (fun i => i = .int .i64 0) (fun _ => 0)
    case atStart => rfl
    case round =>
      obtain rfl := hrel
      go_wp2
      go_ret
      exact ⟨rfl, by go_grown⟩
  · have HC := Lib.hid hc
    obtain ⟨n, hn⟩ : ∃ n, n = l.length := ⟨_, rfl⟩
    rw [← hn] at hl ⊢
    have HN := Lib.hid hn
    clear hc hn
    go_enter Try.func22, Try.ntmps22
    go_wp2
    go_loopw [5] (fun i wr => ∃ k : Nat, k ≤ n ∧ i = .int .i64 k ∧ (∀ j (hj : j < l.length), j < k → isNode node l[j] = false) ∧ Blk wr w.heap.size (vC e (.slice (some ⟨b, off, none⟩) n cap) lv) 34 ∧ Below w.heap.size w wr) (fun i _ => (n - (intOf i).toNat))
    case atStart => exact ⟨0, by omega, rfl, by intro j _ hj; omega, Blk.new rfl, by go_grown⟩
    case round =>
      obtain ⟨k, hk, rfl, hno, hv, hBw⟩ := hrel
      have HNO := Lib.hid hno
      have HBW := Lib.hid hBw
      have HV := Lib.hid hv
      have d1 := hv.cell 1
      simp at d1
      clear hno hBw hv
      by_cases hlt : k < n
      · obtain ⟨c0, c1, c2⟩ := HC.out k (by rw [← HN.out]; exact hlt)
        obtain ⟨p, hp⟩ : ∃ p, p = l[k]'(by rw [← HN.out]; exact hlt) := ⟨_, rfl⟩
        rw [← hp] at c0
        have HP := Lib.hid hp
        clear hp c1 c2
        obtain ⟨pn, pl, pr⟩ := p
        simp only at c0
        have q0 := (HBW.out.cell (p := ⟨b, off + k * 3, none⟩) hb).trans c0
        clear c0
        by_cases hpn : pn = node
        · subst hpn
          go_wp2
          go_ret
          exact ⟨rint (idxOf_at HNO.out (by rw [← HN.out]; exact hlt) (by rw [← HP.out]; simp [isNode])).symm, HBW.out⟩
        · have hne : ¬ (pn : Int) = node := by omega
          go_wp2
          go_roundw
          case rel => exact ⟨k + 1, by omega, by go_num, idxOf_step HNO.out (by rw [← HN.out]; exact hlt) (by rw [← HP.out]; simpa [isNode] using hpn), HV.out, HBW.out⟩
          case measure => simp [intOf]; omega
      · obtain rfl : k = n := by omega
        go_wp2
        go_ret
        exact ⟨rint (idxOf_none (fun j hj => HNO.out j hj (by rw [HN.out]; exact hj))).symm, HBW.out⟩
/-- How many are ready, but for the one at a place. -/
def readyBut (b : Int) : List Mem → Nat → Nat
  | [], _ => 0
  | m :: l, k => (if m.r = true ∧ (k : Int) ≠ b then 1 else 0) + readyBut b l (k + 1)
theorem readyBut_none (l : List Mem) : ∀ k, readyBut (-1) l k = readyN l := by
  induction l with
  | nil => intro k; rfl
  | cons a l ih =>
    intro k
    rw [readyBut, ih]
    have e : readyN (a :: l) = (if a.r = true then 1 else 0) + readyN l := by simp [readyN, List.countP_cons]; omega
    rw [e]
    by_cases h : a.r = true
    · rw [if_pos ⟨h, by omega⟩, if_pos h]
    · rw [if_neg (fun hh => h hh.1), if_neg h]
theorem readyBut_far {b : Int} (l : List Mem) : ∀ k : Nat, b < k → readyBut b l k = readyN l := by
  induction l with
  | nil => intro k _; rfl
  | cons a l ih =>
    intro k hk
    rw [readyBut, ih (k + 1) (by omega)]
    have e : readyN (a :: l) = (if a.r = true then 1 else 0) + readyN l := by simp [readyN, List.countP_cons]; omega
    rw [e]
    by_cases h : a.r = true
    · rw [if_pos ⟨h, by omega⟩, if_pos h]
    · rw [if_neg (fun hh => h hh.1), if_neg h]
theorem readyBut_erase (l : List Mem) : ∀ (i k : Nat), readyBut ((i + k : Nat) : Int) l k = readyN (l.eraseIdx i) := by
  induction l with
  | nil => intro i k; rfl
  | cons a l ih =>
    intro i k
    cases i with
    | zero =>
      rw [readyBut, if_neg (by intro h; omega), readyBut_far l (k + 1) (by omega)]
      simp
    | succ i =>
      rw [readyBut, show i + 1 + k = i + (k + 1) by omega, ih i (k + 1)]
      have e : readyN ((a :: l).eraseIdx (i + 1)) = (if a.r = true then 1 else 0) + readyN (l.eraseIdx i) := by simp [readyN, List.countP_cons]; omega
      rw [e]
      by_cases h : a.r = true
      · rw [if_pos ⟨h, by omega⟩, if_pos h]
      · rw [if_neg (fun hh => h hh.1), if_neg h]
theorem readyBut_snoc (b : Int) (l : List Mem) : ∀ (k : Nat) (m : Mem), readyBut b (l ++ [m]) k = readyBut b l k + (if m.r = true ∧ ((k + l.length : Nat) : Int) ≠ b then 1 else 0) := by
  induction l with
  | nil => intro k m; simp [readyBut]
  | cons a l ih =>
    intro k m
    rw [List.cons_append, readyBut, readyBut, ih (k + 1) m, List.length_cons, show k + 1 + l.length = k + (l.length + 1) by omega]
    omega
theorem readyBut_take {b : Int} {l : List Mem} {k : Nat} (h : k < l.length) : readyBut b (l.take (k + 1)) 0 = readyBut b (l.take k) 0 + (if l[k].r = true ∧ (k : Int) ≠ b then 1 else 0) := by
  rw [List.take_succ_eq_append_getElem h, readyBut_snoc, List.length_take, Nat.min_eq_left (by omega), Nat.zero_add]
theorem readyBut_le (b : Int) (l : List Mem) : ∀ k, readyBut b l k ≤ l.length := by
  induction l with
  | nil => intro k; exact Nat.le_refl _
  | cons a l ih =>
    intro k
    rw [readyBut, List.length_cons]
    have := ih (k + 1)
    split <;> omega
set_option maxHeartbeats 1000000 in
theorem refReady_any (e : Nat) (s : Value) (lv : Lv) (l : List Mem) (bt : Int) (w : World) (hl : l.length ≤ 40) (hs : MemsAt w s l) :
    Calls Try.prog 23 #[.agg (vC e s lv), .int .i64 bt] w fun en w' => en = .returned (.int .i64 (readyBut bt l 0)) ∧ Below w.heap.size w w' := by
  unfold vC
  rcases hs with ⟨rfl, rfl⟩ | ⟨b, off, cap, rfl, hb, hc⟩
  · go_enter Try.func23, Try.ntmps23
    go_wp2
    go_loop [5, 6] (fun c i => c = .int .i64 0 ∧ i = .int .i64 0) (fun _ _ => 0)
    case atStart => exact ⟨rfl, rfl⟩
    case round =>
      obtain ⟨rfl, rfl⟩ := hrel
      go_wp2
      go_ret
      exact ⟨rfl, by go_grown⟩
  · have HC := Lib.hid hc
    obtain ⟨n, hn⟩ : ∃ n, n = l.length := ⟨_, rfl⟩
    rw [← hn] at hl ⊢
    have HN := Lib.hid hn
    clear hc hn
    go_enter Try.func23, Try.ntmps23
    go_wp2
    go_loopw [5, 6] (fun c i wr => ∃ k : Nat, k ≤ n ∧ i = .int .i64 k ∧ c = .int .i64 (readyBut bt (l.take k) 0) ∧ Blk wr w.heap.size (vC e (.slice (some ⟨b, off, none⟩) n cap) lv) 34 ∧ Below w.heap.size w wr) (fun _ i _ => (n - (intOf i).toNat))
    case atStart => exact ⟨0, by omega, rfl, rfl, Blk.new rfl, by go_grown⟩
    case round =>
      obtain ⟨k, hk, rfl, rfl, hv, hBw⟩ := hrel
      have HBW := Lib.hid hBw
      have HV := Lib.hid hv
      have d1 := hv.cell 1
      simp at d1
      clear hBw hv
      have hle := readyBut_le bt (l.take k) 0
      have hle2 : (l.take k).length ≤ k := List.length_take_le _ _
      by_cases hlt : k < n
      · obtain ⟨c0, c1, c2⟩ := HC.out k (by rw [← HN.out]; exact hlt)
        have HS := Lib.hid (readyBut_take (b := bt) (l := l) (k := k) (by rw [← HN.out]; exact hlt))
        obtain ⟨p, hp⟩ : ∃ p, p = l[k]'(by rw [← HN.out]; exact hlt) := ⟨_, rfl⟩
        rw [← hp] at c2 HS
        clear hp c0 c1
        obtain ⟨pn, pl, pr⟩ := p
        simp only at c2 HS
        have q2 := (HBW.out.cell (p := ⟨b, off + k * 3 + 2, none⟩) hb).trans c2
        clear c2
        generalize readyBut bt (l.take k) 0 = rb at *
        cases pr with
        | true =>
          by_cases hkb : (k : Int) = bt
          · have HS1 := Lib.hid (show readyBut bt (l.take (k + 1)) 0 = rb by rw [HS.out, if_neg (fun h => h.2 hkb), Nat.add_zero])
            have hb1 : ((k : Int) != bt) = false := by simpa using hkb
            clear hkb HS
            go_wp2
            go_roundw
            case rel => exact ⟨k + 1, by omega, by go_num, by rw [HS1.out], HV.out, HBW.out⟩
            case measure => simp [intOf]; omega
          · have HS1 := Lib.hid (show readyBut bt (l.take (k + 1)) 0 = rb + 1 by rw [HS.out, if_pos ⟨rfl, hkb⟩])
            have hb1 : ((k : Int) != bt) = true := by simpa using hkb
            clear hkb HS
            go_wp2
            go_roundw
            case rel => exact ⟨k + 1, by omega, by go_num, by rw [HS1.out]; go_num, HV.out, HBW.out⟩
            case measure => simp [intOf]; omega
        | false =>
          have HS1 := Lib.hid (show readyBut bt (l.take (k + 1)) 0 = rb by rw [HS.out, if_neg (fun h => by cases h.1), Nat.add_zero])
          clear HS
          go_wp2
          go_roundw
          case rel => exact ⟨k + 1, by omega, by go_num, by rw [HS1.out], HV.out, HBW.out⟩
          case measure => simp [intOf]; omega
      · obtain rfl : k = n := by omega
        go_wp2
        go_ret
        exact ⟨rint (by rw [HN.out, List.take_length]), HBW.out⟩
set_option maxHeartbeats 400000 in
theorem refReadyN_any (e : Nat) (s : Value) (lv : Lv) (l : List Mem) (w : World) (hl : l.length ≤ 40) (hs : MemsAt w s l) :
    Calls Try.prog 19 #[.agg (vC e s lv)] w fun en w' => en = .returned (.int .i64 (readyN l)) ∧ Below w.heap.size w w' := by
  have HS := Lib.hid hs
  have HR := Lib.hid (readyBut_none l 0)
  clear hs
  unfold vC
  go_enter Try.func19, Try.ntmps19
  go_wp2_with ((refine (refReady_any e s lv l (-1) _ hl (HS.out.al _)).mono ?_); rw [HR.out]; rintro en w1 ⟨rfl, hB⟩; have HB : Hid (Below w.heap.size w w1) := Lib.hid (m_below_on (by go_grown) hB); clear hB)
  go_ret
  exact ⟨rfl, HB.out⟩
end Go.Proofs.Ytkgahhfemlebmaa
