/-
  The walks of view's closures and of slices.IndexFunc, find, at, Has, Find, last: what each call returns, and that nothing old in memory changes.
-/
import Derived.Test.YtkgahhfemlebmaaProg
import Derived.WalkKit
import Derived.WalkSpells
import Derived.WalkLawsBesides
import Derived.Laws.BitsAllLaws
import Derived.Laws.BytesArg
import Derived.Lib.Hide
import Derived.Handy
import Derived.RegionTactic
import Derived.ChangeAlike
import Derived.Deep.RegionWith
import Derived.Deep.RegionHeld3
import Derived.Deep.QuietTactic
import Derived.BigQuiet
import Derived.IntWalk
import Derived.OwnWalk
import Derived.Deep.AppendLies
import Derived.Deep.RegionLaw
namespace Go.Proofs.Ytkgahhfemlebmaa
open Go.RowKit Go.Instr

theorem m_below_on {w w1 w2 : World} (h1 : Below w.heap.size w w1) (h2 : Below w1.heap.size w1 w2) : Below w.heap.size w w2 := h1.trans (h2.mono h1.size)
theorem rbool {a b : Bool} (h : a = b) : Ending.returned (.bool a) = .returned (.bool b) := by rw [h]
theorem rint {k : IntKind} {a b : Int} (h : a = b) : Ending.returned (.int k a) = .returned (.int k b) := by rw [h]
/-- Block B of the memory is known whole. -/
def Blk (w : World) (B : Nat) (cs : Array Value) (T : TypeId) : Prop := w.heap[B]? = some (.cells cs T)
theorem Blk.cell {w : World} {B : Nat} {cs : Array Value} {T : TypeId} (h : Blk w B cs T) (j : Nat) : w.cell? ⟨B, j, none⟩ = cs[j]? := cell_of_row w B j _ T (0, 0) h
theorem Blk.frozen {w : World} {B : Nat} {cs : Array Value} {T : TypeId} (h : Blk w B cs T) (j : Nat) : w.frozen? ⟨B, j, none⟩ = false := by
  unfold World.frozen?
  rw [h]
  simp
theorem Blk.lt {w : World} {B : Nat} {cs : Array Value} {T : TypeId} (h : Blk w B cs T) : B < w.heap.size := (Array.getElem?_eq_some_iff.1 h).1
theorem Blk.below {w w' : World} {B k : Nat} {cs : Array Value} {T : TypeId} (h : Blk w B cs T) (hB : Below k w w') (hk : B < k) : Blk w' B cs T := (hB.block B hk).trans h
theorem Blk.on {w w' : World} {B : Nat} {cs : Array Value} {T : TypeId} (h : Blk w B cs T) (hB : Below w.heap.size w w') : Blk w' B cs T := h.below hB h.lt
theorem Blk.alloc {w : World} {B : Nat} {cs : Array Value} {T : TypeId} (h : Blk w B cs T) (o : Obj) : Blk (w.alloc o) B cs T := by
  have := Below.heap_alloc w o B h.lt
  exact this.trans h
theorem Blk.new {w : World} {B : Nat} {cs : Array Value} {T : TypeId} (h : B = w.heap.size) : Blk (w.alloc (.cells cs T)) B cs T := by
  subst h; exact heap_alloc_new w _
theorem Blk.dr {w : World} {B : Nat} {cs : Array Value} {T : TypeId} (h : Blk w B cs T) : Blk w.drew B cs T := h
theorem Blk.set {w : World} {B : Nat} {cs : Array Value} {T : TypeId} (h : Blk w B cs T) (j : Nat) (v : Value) (cs' : Array Value) (hcs : cs.setIfInBounds j v = cs') : Blk (w.setCell ⟨B, j, none⟩ v) B cs' T := by
  unfold Blk at h ⊢
  subst hcs
  simp [World.setCell, Array.getElem?_modify, h]
theorem Blk.set_other {w : World} {B C : Nat} {cs : Array Value} {T : TypeId} (h : Blk w B cs T) (j : Nat) (v : Value) (hne : B ≠ C) : Blk (w.setCell ⟨C, j, none⟩ v) B cs T := by
  exact (Below.heap_setCell w ⟨C, j, none⟩ v B hne).trans h
/-- A member. -/
structure Mem where
  n : Nat
  l : Nat
  r : Bool
deriving DecidableEq
def Mem.fine (m : Mem) : Prop := m.n < 256 ∧ m.l < 256
/-- The eight lives. -/
structure Lv where
  a : Nat
  b : Nat
  c : Nat
  d : Nat
  e : Nat
  f : Nat
  g : Nat
  h : Nat
deriving DecidableEq
abbrev mC (m : Mem) : Array Value := #[.int .u8 m.n, .int .u8 m.l, .bool m.r]
abbrev vC (e : Nat) (s : Value) (l : Lv) : Array Value := #[.int .u32 e, s, .int .u8 l.a, .int .u8 l.b, .int .u8 l.c, .int .u8 l.d, .int .u8 l.e, .int .u8 l.f, .int .u8 l.g, .int .u8 l.h]
/-- The slice value leads to the members. -/
def MemsAt (w : World) (v : Value) (l : List Mem) : Prop :=
  (v = .slice none 0 0 ∧ l = []) ∨ ∃ b off cap, v = .slice (some ⟨b, off, none⟩) l.length cap ∧ b < w.heap.size ∧
    ∀ i (h : i < l.length), (w.cell? ⟨b, off + i * 3, none⟩ = some (.int .u8 l[i].n) ∧ w.cell? ⟨b, off + i * 3 + 1, none⟩ = some (.int .u8 l[i].l) ∧ w.cell? ⟨b, off + i * 3 + 2, none⟩ = some (.bool l[i].r))
theorem MemsAt.below {w w' : World} {v : Value} {l : List Mem} {k : Nat} (h : MemsAt w v l) (hB : Below k w w') (hk : ∀ b off n c, v = .slice (some ⟨b, off, none⟩) n c → b < k) : MemsAt w' v l := by
  rcases h with h | ⟨b, off, cap, rfl, hb, hc⟩
  · exact .inl h
  · have hbk := hk _ _ _ _ rfl
    refine .inr ⟨b, off, cap, rfl, by have h1 := hB.size; have : b < w.heap.size := hb; exact Nat.lt_of_lt_of_le hb h1, fun i hi => ?_⟩
    obtain ⟨c0, c1, c2⟩ := hc i hi
    exact ⟨(hB.cell (p := ⟨b, off + i * 3, none⟩) hbk).trans c0, (hB.cell (p := ⟨b, off + i * 3 + 1, none⟩) hbk).trans c1, (hB.cell (p := ⟨b, off + i * 3 + 2, none⟩) hbk).trans c2⟩
theorem MemsAt.on {w w' : World} {v : Value} {l : List Mem} (h : MemsAt w v l) (hB : Below w.heap.size w w') : MemsAt w' v l := by
  refine h.below hB ?_
  rintro b off n c rfl
  rcases h with ⟨h, _⟩ | ⟨b', off', cap, he, hb, _⟩
  · cases h
  · cases he; exact hb
/-- The place of the first one, or -1. -/
def idxOf (p : Mem → Bool) : List Mem → Int
  | [] => -1
  | m :: l => if p m then 0 else if idxOf p l < 0 then -1 else idxOf p l + 1
theorem idxOf_bd (p : Mem → Bool) (l : List Mem) : -1 ≤ idxOf p l ∧ idxOf p l < l.length := by
  induction l with
  | nil => simp [idxOf]
  | cons a l ih =>
    simp only [idxOf, List.length_cons]
    split
    · omega
    · split <;> omega
theorem idxOf_at {p : Mem → Bool} {l : List Mem} {k : Nat} (h : ∀ j (hj : j < l.length), j < k → p l[j] = false) (hk : k < l.length) (hp : p l[k] = true) : idxOf p l = k := by
  induction l generalizing k with
  | nil => exact absurd hk (Nat.not_lt_zero _)
  | cons a l ih =>
    cases k with
    | zero => simp only [List.getElem_cons_zero] at hp; simp [idxOf, hp]
    | succ k =>
      have h0 := h 0 (by simp) (by omega)
      simp only [List.getElem_cons_zero] at h0
      have := ih (k := k) (fun j hj hjk => h (j + 1) (by simpa using hj) (by omega)) (by simpa using hk) (by simpa using hp)
      simp only [idxOf, h0, this]
      simp
      omega
theorem idxOf_none {p : Mem → Bool} {l : List Mem} (h : ∀ j (hj : j < l.length), p l[j] = false) : idxOf p l = -1 := by
  induction l with
  | nil => rfl
  | cons a l ih =>
    have h0 := h 0 (by simp)
    simp only [List.getElem_cons_zero] at h0
    have := ih (fun j hj => h (j + 1) (by simpa using hj))
    simp [idxOf, h0, this]
set_option maxHeartbeats 400000 in
theorem clos_find (m : Mem) (node B : Nat) (w : World) (hc : w.cell? ⟨B, 0, none⟩ = some (.int .u8 node)) : Calls Try.prog 30 #[.agg (mC m), .pointer (some ⟨B, 0, none⟩)] w fun e w' => e = .returned (.bool (decide (m.n = node))) ∧ Below w.heap.size w w' := by
  obtain ⟨n, l, r⟩ := m
  have hlt := World.block_lt_of_cell? _ _ hc
  have hne : B ≠ w.heap.size := by simp only at hlt; omega
  unfold mC
  go_enter Try.func30, Try.ntmps30
  go_wp2
  all_goals
    go_ret
    exact ⟨rbool (by rw [Bool.eq_iff_iff]; simp; try omega), by go_grown⟩
set_option maxHeartbeats 400000 in
theorem clos_at (m : Mem) (node life B C : Nat) (w : World) (hc : w.cell? ⟨B, 0, none⟩ = some (.int .u8 node)) (hd : w.cell? ⟨C, 0, none⟩ = some (.int .u8 life)) : Calls Try.prog 31 #[.agg (mC m), .pointer (some ⟨B, 0, none⟩), .pointer (some ⟨C, 0, none⟩)] w fun e w' => e = .returned (.bool (decide (m.n = node ∧ m.l = life))) ∧ Below w.heap.size w w' := by
  obtain ⟨n, l, r⟩ := m
  have hlt := World.block_lt_of_cell? _ _ hc
  have hne : B ≠ w.heap.size := by simp only at hlt; omega
  have hlt' := World.block_lt_of_cell? _ _ hd
  have hne' : C ≠ w.heap.size := by simp only at hlt'; omega
  unfold mC
  go_enter Try.func31, Try.ntmps31
  go_wp2
  all_goals
    go_ret
    exact ⟨rbool (by rw [Bool.eq_iff_iff]; simp; try omega), by go_grown⟩
theorem idxOf_step {p : Mem → Bool} {l : List Mem} {k : Nat} (h : ∀ j (hj : j < l.length), j < k → p l[j] = false) (hk : k < l.length) (hp : p l[k] = false) : ∀ j (hj : j < l.length), j < k + 1 → p l[j] = false := by
  intro j hj hjk
  by_cases e : j = k
  · subst e; exact hp
  · exact h j hj (by omega)
set_option maxHeartbeats 1000000 in
theorem idx_find (s : Value) (l : List Mem) (node B : Nat) (w : World) (hl : l.length ≤ 40) (hs : MemsAt w s l) (hB : w.cell? ⟨B, 0, none⟩ = some (.int .u8 node)) :
    Calls Try.prog 29 #[s, .func (.func 30) #[] #[.pointer (some ⟨B, 0, none⟩)]] w fun e w' => e = .returned (.int .i64 (idxOf (fun m => decide (m.n = node)) l)) ∧ Below w.heap.size w w' := by
  rcases hs with ⟨rfl, rfl⟩ | ⟨b, off, cap, rfl, hb, hc⟩
  · go_enter Try.func29, Try.ntmps29
    go_wp2
    go_loop [8] (fun i => i = .int .i64 0) (fun _ => 0)
    case atStart => rfl
    case round =>
      obtain rfl := hrel
      go_wp2
      go_ret
      exact ⟨rfl, by go_grown⟩
  · have HC := Lib.hid hc
    have HB := Lib.hid hB
    obtain ⟨n, hn⟩ : ∃ n, n = l.length := ⟨_, rfl⟩
    rw [← hn] at hl ⊢
    have HN := Lib.hid hn
    clear hc hn hB
    go_enter Try.func29, Try.ntmps29
    go_wp2
    go_loopw [8] (fun i wr => ∃ k : Nat, k ≤ n ∧ i = .int .i64 k ∧ (∀ j (hj : j < l.length), j < k → decide (l[j].n = node) = false) ∧ Below w.heap.size w wr) (fun i _ => (n - (intOf i).toNat))
    case atStart => exact ⟨0, by omega, rfl, by intro j _ hj; omega, by go_grown⟩
    case round =>
      obtain ⟨k, hk, rfl, hno, hBw⟩ := hrel
      have HNO := Lib.hid hno
      have HBW := Lib.hid hBw
      clear hno hBw
      by_cases hlt : k < n
      · obtain ⟨c0, c1, c2⟩ := HC.out k (by rw [← HN.out]; exact hlt)
        obtain ⟨p, hp⟩ : ∃ p, p = l[k]'(by rw [← HN.out]; exact hlt) := ⟨_, rfl⟩
        rw [← hp] at c0 c1 c2
        have HP := Lib.hid hp
        clear hp
        obtain ⟨pn, pl, pr⟩ := p
        simp only at c0 c1 c2
        have q0 := (HBW.out.cell (p := ⟨b, off + k * 3, none⟩) hb).trans c0
        have q1 := (HBW.out.cell (p := ⟨b, off + k * 3 + 1, none⟩) hb).trans c1
        have q2 := (HBW.out.cell (p := ⟨b, off + k * 3 + 2, none⟩) hb).trans c2
        clear c0 c1 c2
        have hB2 := (HBW.out.cell (p := ⟨B, 0, none⟩) (World.block_lt_of_cell? _ _ HB.out)).trans HB.out
        cases hpn : decide (pn = node) with
        | true =>
          go_wp2_with (refine (clos_find ⟨pn, pl, pr⟩ node B _ hB2).mono ?_; rintro e w1 ⟨rfl, hB1⟩; rw [show decide ((Mem.mk pn pl pr).n = node) = true from hpn]; have HB1 : Hid (Below w.heap.size w w1) := m_below_on HBW.out hB1; clear hB1)
          go_ret
          exact ⟨rint (idxOf_at HNO.out (by rw [← HN.out]; exact hlt) (by rw [← HP.out]; exact hpn)).symm, HB1.out⟩
        | false =>
          go_wp2_with (refine (clos_find ⟨pn, pl, pr⟩ node B _ hB2).mono ?_; rintro e w1 ⟨rfl, hB1⟩; rw [show decide ((Mem.mk pn pl pr).n = node) = false from hpn]; have HB1 : Hid (Below w.heap.size w w1) := m_below_on HBW.out hB1; clear hB1)
          go_roundw
          case rel => exact ⟨k + 1, by omega, by go_num, idxOf_step (p := fun m => decide (m.n = node)) HNO.out (by rw [← HN.out]; exact hlt) (by rw [← HP.out]; exact hpn), HB1.out⟩
          case measure => simp [intOf]; omega
      · obtain rfl : k = n := by omega
        go_wp2
        go_ret
        exact ⟨rint (idxOf_none (p := fun m => decide (m.n = node)) (fun j hj => HNO.out j hj (by rw [HN.out]; exact hj))).symm, HBW.out⟩
set_option maxHeartbeats 1000000 in
theorem idx_at (s : Value) (l : List Mem) (node life B C : Nat) (w : World) (hl : l.length ≤ 40) (hs : MemsAt w s l) (hB : w.cell? ⟨B, 0, none⟩ = some (.int .u8 node)) (hC : w.cell? ⟨C, 0, none⟩ = some (.int .u8 life)) :
    Calls Try.prog 29 #[s, .func (.func 31) #[] #[.pointer (some ⟨B, 0, none⟩), .pointer (some ⟨C, 0, none⟩)]] w fun e w' => e = .returned (.int .i64 (idxOf (fun m => decide (m.n = node ∧ m.l = life)) l)) ∧ Below w.heap.size w w' := by
  rcases hs with ⟨rfl, rfl⟩ | ⟨b, off, cap, rfl, hb, hc⟩
  · go_enter Try.func29, Try.ntmps29
    go_wp2
    go_loop [8] (fun i => i = .int .i64 0) (fun _ => 0)
    case atStart => rfl
    case round =>
      obtain rfl := hrel
      go_wp2
      go_ret
      exact ⟨rfl, by go_grown⟩
  · have HC := Lib.hid hc
    have HB := Lib.hid hB
    have HCC := Lib.hid hC
    obtain ⟨n, hn⟩ : ∃ n, n = l.length := ⟨_, rfl⟩
    rw [← hn] at hl ⊢
    have HN := Lib.hid hn
    clear hc hn hB hC
    go_enter Try.func29, Try.ntmps29
    go_wp2
    go_loopw [8] (fun i wr => ∃ k : Nat, k ≤ n ∧ i = .int .i64 k ∧ (∀ j (hj : j < l.length), j < k → decide (l[j].n = node ∧ l[j].l = life) = false) ∧ Below w.heap.size w wr) (fun i _ => (n - (intOf i).toNat))
    case atStart => exact ⟨0, by omega, rfl, by intro j _ hj; omega, by go_grown⟩
    case round =>
      obtain ⟨k, hk, rfl, hno, hBw⟩ := hrel
      have HNO := Lib.hid hno
      have HBW := Lib.hid hBw
      clear hno hBw
      by_cases hlt : k < n
      · obtain ⟨c0, c1, c2⟩ := HC.out k (by rw [← HN.out]; exact hlt)
        obtain ⟨p, hp⟩ : ∃ p, p = l[k]'(by rw [← HN.out]; exact hlt) := ⟨_, rfl⟩
        rw [← hp] at c0 c1 c2
        have HP := Lib.hid hp
        clear hp
        obtain ⟨pn, pl, pr⟩ := p
        simp only at c0 c1 c2
        have q0 := (HBW.out.cell (p := ⟨b, off + k * 3, none⟩) hb).trans c0
        have q1 := (HBW.out.cell (p := ⟨b, off + k * 3 + 1, none⟩) hb).trans c1
        have q2 := (HBW.out.cell (p := ⟨b, off + k * 3 + 2, none⟩) hb).trans c2
        clear c0 c1 c2
        have hB2 := (HBW.out.cell (p := ⟨B, 0, none⟩) (World.block_lt_of_cell? _ _ HB.out)).trans HB.out
        have hC2 := (HBW.out.cell (p := ⟨C, 0, none⟩) (World.block_lt_of_cell? _ _ HCC.out)).trans HCC.out
        cases hpn : decide (pn = node ∧ pl = life) with
        | true =>
          go_wp2_with (refine (clos_at ⟨pn, pl, pr⟩ node life B C _ hB2 hC2).mono ?_; rintro e w1 ⟨rfl, hB1⟩; rw [show decide ((Mem.mk pn pl pr).n = node ∧ (Mem.mk pn pl pr).l = life) = true from hpn]; have HB1 : Hid (Below w.heap.size w w1) := m_below_on HBW.out hB1; clear hB1)
          go_ret
          exact ⟨rint (idxOf_at HNO.out (by rw [← HN.out]; exact hlt) (by rw [← HP.out]; exact hpn)).symm, HB1.out⟩
        | false =>
          go_wp2_with (refine (clos_at ⟨pn, pl, pr⟩ node life B C _ hB2 hC2).mono ?_; rintro e w1 ⟨rfl, hB1⟩; rw [show decide ((Mem.mk pn pl pr).n = node ∧ (Mem.mk pn pl pr).l = life) = false from hpn]; have HB1 : Hid (Below w.heap.size w w1) := m_below_on HBW.out hB1; clear hB1)
          go_roundw
          case rel => exact ⟨k + 1, by omega, by go_num, idxOf_step (p := fun m => decide (m.n = node ∧ m.l = life)) HNO.out (by rw [← HN.out]; exact hlt) (by rw [← HP.out]; exact hpn), HB1.out⟩
          case measure => simp [intOf]; omega
      · obtain rfl : k = n := by omega
        go_wp2
        go_ret
        exact ⟨rint (idxOf_none (p := fun m => decide (m.n = node ∧ m.l = life)) (fun j hj => HNO.out j hj (by rw [HN.out]; exact hj))).symm, HBW.out⟩
theorem MemsAt.al {w : World} {v : Value} {l : List Mem} (h : MemsAt w v l) (o : Obj) : MemsAt (w.alloc o) v l := h.on (by go_grown)
theorem MemsAt.dr {w : World} {v : Value} {l : List Mem} (h : MemsAt w v l) : MemsAt w.drew v l := h.on (by go_grown)
def isNode (node : Nat) (m : Mem) : Bool := decide (m.n = node)
def isBoth (node life : Nat) (m : Mem) : Bool := decide (m.n = node ∧ m.l = life)
theorem idx_find' (s : Value) (l : List Mem) (node B : Nat) (w : World) (hl : l.length ≤ 40) (hs : MemsAt w s l) (hB : w.cell? ⟨B, 0, none⟩ = some (.int .u8 node)) :
    Calls Try.prog 29 #[s, .func (.func 30) #[] #[.pointer (some ⟨B, 0, none⟩)]] w fun e w' => e = .returned (.int .i64 (idxOf (isNode node) l)) ∧ Below w.heap.size w w' := idx_find s l node B w hl hs hB
theorem idx_at' (s : Value) (l : List Mem) (node life B C : Nat) (w : World) (hl : l.length ≤ 40) (hs : MemsAt w s l) (hB : w.cell? ⟨B, 0, none⟩ = some (.int .u8 node)) (hC : w.cell? ⟨C, 0, none⟩ = some (.int .u8 life)) :
    Calls Try.prog 29 #[s, .func (.func 31) #[] #[.pointer (some ⟨B, 0, none⟩), .pointer (some ⟨C, 0, none⟩)]] w fun e w' => e = .returned (.int .i64 (idxOf (isBoth node life) l)) ∧ Below w.heap.size w w' := idx_at s l node life B C w hl hs hB hC
set_option maxHeartbeats 400000 in
theorem find_any (e : Nat) (s : Value) (lv : Lv) (l : List Mem) (node : Nat) (w : World) (hl : l.length ≤ 40) (hs : MemsAt w s l) :
    Calls Try.prog 25 #[.agg (vC e s lv), .int .u8 node] w fun en w' => en = .returned (.int .i64 (idxOf (isNode node) l)) ∧ Below w.heap.size w w' := by
  have HS := Lib.hid hs
  clear hs
  unfold vC
  go_enter Try.func25, Try.ntmps25
  go_wp2_with (refine (idx_find' s l node (w.heap.size + 1) _ hl ((HS.out.al _).al _) (by simp)).mono ?_; rintro en w1 ⟨rfl, hB⟩; have HB : Hid (Below w.heap.size w w1) := m_below_on (by go_grown) hB; clear hB)
  go_ret
  exact ⟨rfl, HB.out⟩
set_option maxHeartbeats 400000 in
theorem at_any (e : Nat) (s : Value) (lv : Lv) (l : List Mem) (node life : Nat) (w : World) (hl : l.length ≤ 40) (hs : MemsAt w s l) :
    Calls Try.prog 26 #[.agg (vC e s lv), .int .u8 node, .int .u8 life] w fun en w' => en = .returned (.int .i64 (idxOf (isBoth node life) l)) ∧ Below w.heap.size w w' := by
  have HS := Lib.hid hs
  clear hs
  unfold vC
  go_enter Try.func26, Try.ntmps26
  go_wp2_with (refine (idx_at' s l node life (w.heap.size + 1) (w.heap.size + 1 + 1) _ hl (((HS.out.al _).al _).al _) ((Blk.alloc (Blk.new (T := 5) (cs := #[.int .u8 node]) (by simp)) _).cell 0) ((Blk.new (T := 5) (cs := #[.int .u8 life]) (by simp)).cell 0)).mono ?_; rintro en w1 ⟨rfl, hB⟩; have HB : Hid (Below w.heap.size w w1) := m_below_on (by go_grown) hB; clear hB)
  go_ret
  exact ⟨rfl, HB.out⟩
set_option maxHeartbeats 400000 in
theorem has_any (e : Nat) (s : Value) (lv : Lv) (l : List Mem) (node life : Nat) (w : World) (hl : l.length ≤ 40) (hs : MemsAt w s l) :
    Calls Try.prog 18 #[.agg (vC e s lv), .int .u8 node, .int .u8 life] w fun en w' => en = .returned (.bool (decide (0 ≤ idxOf (isBoth node life) l))) ∧ Below w.heap.size w w' := by
  have HS := Lib.hid hs
  clear hs
  unfold vC
  go_enter Try.func18, Try.ntmps18
  go_wp2_with (refine (at_any e s lv l node life _ hl (HS.out.al _)).mono ?_; rintro en w1 ⟨rfl, hB⟩; have HB : Hid (Below w.heap.size w w1) := m_below_on (by go_grown) hB; clear hB)
  go_ret
  exact ⟨rfl, HB.out⟩
set_option maxHeartbeats 400000 in
theorem last_any (B e : Nat) (s : Value) (lv : Lv) (w : World) (hv : Blk w B (vC e s lv) 28) : Calls Try.prog 33 #[.pointer (some ⟨B, 0, none⟩)] w fun en w' => en = .returned (.bool (decide (e = 4294967295))) ∧ w = w' := by
  have c0 := hv.cell 0
  simp [vC] at c0
  clear hv
  go_enter Try.func33, Try.ntmps33
  go_wp2
  go_ret
  exact ⟨rbool (by rw [Bool.eq_iff_iff]; simp; try omega), rfl⟩
/-- How many are ready. -/
def readyN (l : List Mem) : Nat := l.countP (·.r)
theorem readyN_take {l : List Mem} {k : Nat} (h : k < l.length) : readyN (l.take (k + 1)) = readyN (l.take k) + if l[k].r then 1 else 0 := by
  rw [List.take_succ_eq_append_getElem h, readyN, List.countP_append]
  simp [readyN, List.countP_cons]
theorem readyN_le (l : List Mem) : readyN l ≤ l.length := List.countP_le_length
set_option maxHeartbeats 1000000 in
theorem ready_any (e : Nat) (s : Value) (lv : Lv) (l : List Mem) (w : World) (hl : l.length ≤ 40) (hs : MemsAt w s l) :
    Calls Try.prog 14 #[.agg (vC e s lv)] w fun en w' => en = .returned (.int .i64 (readyN l)) ∧ Below w.heap.size w w' := by
  unfold vC
  rcases hs with ⟨rfl, rfl⟩ | ⟨b, off, cap, rfl, hb, hc⟩
  · go_enter Try.func14, Try.ntmps14
    go_wp2
    go_loop [3, 9] (fun c i => c = .int .i64 0 ∧ i = .int .i64 0) (fun _ _ => 0)
    case atStart => exact ⟨rfl, rfl⟩
    case round =>
      obtain ⟨rfl, rfl⟩ := hrel
      go_wp2
      go_ret
      exact ⟨rfl, by go_grown⟩
  · have HC := Lib.hid hc
    obtain ⟨n, hn⟩ : ∃ n, n = l.length := ⟨_, rfl⟩
    rw [← hn] at hl ⊢
    have HN := Lib.hid hn
    clear hc hn
    go_enter Try.func14, Try.ntmps14
    go_wp2
    go_loopw [3, 9] (fun c i wr => ∃ k : Nat, k ≤ n ∧ i = .int .i64 k ∧ c = .int .i64 (readyN (l.take k)) ∧ Below w.heap.size w wr) (fun _ i _ => (n - (intOf i).toNat))
    case atStart => exact ⟨0, by omega, rfl, rfl, by go_grown⟩
    case round =>
      obtain ⟨k, hk, rfl, rfl, hBw⟩ := hrel
      have HBW := Lib.hid hBw
      clear hBw
      have hle := readyN_le (l.take k)
      have hle2 : (l.take k).length ≤ k := List.length_take_le _ _
      by_cases hlt : k < n
      · obtain ⟨c0, c1, c2⟩ := HC.out k (by rw [← HN.out]; exact hlt)
        have HS := Lib.hid (readyN_take (l := l) (k := k) (by rw [← HN.out]; exact hlt))
        obtain ⟨p, hp⟩ : ∃ p, p = l[k]'(by rw [← HN.out]; exact hlt) := ⟨_, rfl⟩
        rw [← hp] at c0 c1 c2 HS
        clear hp
        obtain ⟨pn, pl, pr⟩ := p
        simp only at c0 c1 c2 HS
        have q0 := (HBW.out.cell (p := ⟨b, off + k * 3, none⟩) hb).trans c0
        have q1 := (HBW.out.cell (p := ⟨b, off + k * 3 + 1, none⟩) hb).trans c1
        have q2 := (HBW.out.cell (p := ⟨b, off + k * 3 + 2, none⟩) hb).trans c2
        clear c0 c1 c2
        cases pr with
        | true =>
          go_wp2
          go_roundw
          case rel => exact ⟨k + 1, by omega, by go_num, by rw [HS.out, if_pos rfl]; go_num, by have := HBW.out; have := HBW.out.size; go_grown⟩
          case measure => simp [intOf]; omega
        | false =>
          go_wp2
          go_roundw
          case rel => exact ⟨k + 1, by omega, by go_num, by rw [HS.out]; rfl, by have := HBW.out; have := HBW.out.size; go_grown⟩
          case measure => simp [intOf]; omega
      · obtain rfl : k = n := by omega
        go_wp2
        go_ret
        exact ⟨rint (by rw [HN.out, List.take_length]), HBW.out⟩
end Go.Proofs.Ytkgahhfemlebmaa
