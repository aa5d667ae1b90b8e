/-
  Small laws for the law MarkOrders: rows of stamps that the call has made, and the greatest of them.
-/
import Derived.Test.YtegjgdiollafkaaMarkD
import Derived.Deep.DeepCutAuto
import Derived.Deep.AppendLies
import Derived.Deep.RegionLaw
import Derived.BigRegion
namespace Go.Proofs.Ytegjgdiollafkaa
open Go.RowKit Go.Instr

theorem Try.info30 : (Try.prog.info? 30).map (fun i => (i.zero, i.size, i.bytes)) = some (some (.agg #[.int .u32 0, .int .u8 0, .int .u8 0]), 3, 12) := by kernel_rfl
theorem Try.info32 : (Try.prog.info? 32).map (fun i => (i.zero, i.size, i.bytes)) = some (some (.agg #[.int .u32 0, .int .u8 0, .int .u8 0]), 3, 8) := by kernel_rfl
theorem Try.info40 : (Try.prog.info? 40).map (fun i => (i.zero, i.size, i.bytes)) = some (some (.agg #[.int .u32 0, .int .u8 0]), 2, 8) := by kernel_rfl
theorem refLess_is (n b l m c k : Nat) (r : Bool) (w : World) (hf : S.fine ⟨n, b, l⟩) (hf' : S.fine ⟨m, c, k⟩) (hr : stLt ⟨n, b, l⟩ ⟨m, c, k⟩ = r) : Calls Try.prog 9 #[.agg #[.int .u32 n, .int .u8 b, .int .u8 l], .agg #[.int .u32 m, .int .u8 c, .int .u8 k]] w fun e w' => e = .returned (.bool r) ∧ Below w.heap.size w w' := by
  subst hr
  exact refLess_any ⟨n, b, l⟩ ⟨m, c, k⟩ w hf hf'
theorem none_is (n b : Nat) (r : Bool) (w : World) (hr : decide (n = 0 ∧ b = 0) = r) : Calls Try.prog 11 #[.agg #[.int .u32 n, .int .u8 b]] w fun e w' => e = .returned (.bool r) ∧ Below w.heap.size w w' := by
  subst hr
  exact none_any ⟨n, b, 0⟩ w
theorem st_mark (n b m c : Nat) : stLt ⟨n, b, 0⟩ ⟨m, c, 0⟩ = markLt ⟨n, b, 0⟩ ⟨m, c, 0⟩ := by
  unfold stLt markLt
  simp only
  by_cases h : n = m ∧ b = c
  · rw [if_pos h, if_pos h.1, h.2]; simp
  · rw [if_neg h]
/-- Two blocks are known whole: a stamp in each. -/
def Duo (w : World) (T : TypeId) (X Y : Nat) (a b : S) : Prop := Blk w X #[.int .u32 a.n, .int .u8 a.b, .int .u8 a.l] T ∧ Blk w Y #[.int .u32 b.n, .int .u8 b.b, .int .u8 b.l] T
theorem Duo.on {w w' : World} {T : TypeId} {X Y : Nat} {a b : S} (h : Duo w T X Y a b) (hB : Below w.heap.size w w') : Duo w' T X Y a b := ⟨h.1.on hB, h.2.on hB⟩
theorem Duo.al {w : World} {T : TypeId} {X Y : Nat} {a b : S} (h : Duo w T X Y a b) (o : Obj) : Duo (w.alloc o) T X Y a b := ⟨h.1.alloc _, h.2.alloc _⟩
theorem Duo.dr {w : World} {T : TypeId} {X Y : Nat} {a b : S} (h : Duo w T X Y a b) : Duo w.drew T X Y a b := h
theorem Duo.cells {w : World} {T : TypeId} {X Y : Nat} {a b : S} (h : Duo w T X Y a b) : w.cell? ⟨X, 0, none⟩ = some (.int .u32 a.n) ∧ w.cell? ⟨X, 1, none⟩ = some (.int .u8 a.b) ∧ w.cell? ⟨X, 2, none⟩ = some (.int .u8 a.l) ∧ w.cell? ⟨Y, 0, none⟩ = some (.int .u32 b.n) ∧ w.cell? ⟨Y, 1, none⟩ = some (.int .u8 b.b) ∧ w.cell? ⟨Y, 2, none⟩ = some (.int .u8 b.l) :=
  ⟨h.1.cell 0, h.1.cell 1, h.1.cell 2, h.2.cell 0, h.2.cell 1, h.2.cell 2⟩
/-- A slice of stamps that came in. -/
def RowAt (w : World) (a : Option Addr) (n : Nat) (z : Nat → S) : Prop :=
  ∀ k, k < n → ∃ b off, a = some ⟨b, off, none⟩ ∧ w.cell? ⟨b, off + k * 3, none⟩ = some (.int .u32 (z k).n) ∧ w.cell? ⟨b, off + k * 3 + 1, none⟩ = some (.int .u8 (z k).b) ∧ w.cell? ⟨b, off + k * 3 + 2, none⟩ = some (.int .u8 (z k).l) ∧ (z k).fine
theorem cell_al {w : World} {a : Addr} {v : Value} (h : w.cell? a = some v) (o : Obj) : (w.alloc o).cell? a = some v := (World.cell?_alloc_some w a o (by rw [h]; rfl)).trans h
theorem cell_dr {w : World} {a : Addr} {v : Value} (h : w.cell? a = some v) : w.drew.cell? a = some v := h
theorem own_ne {w : World} {base : Nat} {e : TypeId} {size : Nat} {v : Value} {n : Nat} {xs : List Value} {k : Nat} {C : Array Value} {T : TypeId} {fr : Nat × Nat}
    (h : w.ownsRow base e size v n xs) (hk : w.heap[k]? = some (.cells C T fr)) (hne : e ≠ T) : v.ownBlock ≠ some k := by
  intro he
  rcases h.2 with ⟨rfl, _⟩ | ⟨g, cap, cur, rfl, _, hg, _⟩
  · simp [Value.ownBlock] at he
  · simp only [Value.ownBlock, Option.some.injEq] at he
    subst he
    rw [hg] at hk
    simp only [Option.some.injEq, Obj.cells.injEq] at hk
    exact hne hk.2.1
theorem own_disj {w : World} {b1 b2 : Nat} {e1 e2 : TypeId} {s1 s2 : Nat} {v1 v2 : Value} {n1 n2 : Nat} {x1 x2 : List Value} (h1 : w.ownsRow b1 e1 s1 v1 n1 x1) (h2 : w.ownsRow b2 e2 s2 v2 n2 x2) (hne : e1 ≠ e2) : v1.ownBlock = none ∨ v1.ownBlock ≠ v2.ownBlock := by
  rcases h1.2 with ⟨rfl, _⟩ | ⟨g, cap, cur, rfl, _, hg, _⟩
  · exact .inl rfl
  · refine .inr fun he => ?_
    exact own_ne h2 hg (fun e => hne e.symm) (by rw [← he]; rfl)
theorem own_below {w w1 : World} {base : Nat} {e : TypeId} {size : Nat} {v : Value} {n : Nat} {xs : List Value} (h : w.ownsRow base e size v n xs) (hB : Below w.heap.size w w1) : w1.ownsRow base e size v n xs := by
  refine ⟨h.1, ?_⟩
  rcases h.2 with hn | ⟨g, cap, cur, rfl, hb, hg, rest⟩
  · exact .inl hn
  · exact .inr ⟨g, cap, cur, rfl, hb, (hB.block g (Array.getElem?_eq_some_iff.1 hg).1).trans hg, rest⟩
theorem news3 {w : World} {B : Nat} {v0 v1 v2 : Value} (h0 : w.cell? ⟨B, 0, none⟩ = some v0) (h1 : w.cell? ⟨B, 1, none⟩ = some v1) (h2 : w.cell? ⟨B, 2, none⟩ = some v2) :
    ∀ j u, ([v0, v1, v2] : List Value)[j]? = some u → w.cell? ((⟨B, 0, none⟩ : Addr).add j) = some u := by
  intro j u hj
  have e : (⟨B, 0, none⟩ : Addr).add j = ⟨B, j, none⟩ := by unfold Addr.add; split <;> simp_all
  rw [e]
  match j, hj with
  | 0, hj => cases hj; exact h0
  | 1, hj => cases hj; exact h1
  | 2, hj => cases hj; exact h2
theorem news2 {w : World} {B : Nat} {v0 v1 : Value} (h0 : w.cell? ⟨B, 0, none⟩ = some v0) (h1 : w.cell? ⟨B, 1, none⟩ = some v1) :
    ∀ j u, ([v0, v1] : List Value)[j]? = some u → w.cell? ((⟨B, 0, none⟩ : Addr).add j) = some u := by
  intro j u hj
  have e : (⟨B, 0, none⟩ : Addr).add j = ⟨B, j, none⟩ := by unfold Addr.add; split <;> simp_all
  rw [e]
  match j, hj with
  | 0, hj => cases hj; exact h0
  | 1, hj => cases hj; exact h1
theorem oneCells3 (v0 v1 v2 : Value) (h0 : v0.oneCell' = true) (h1 : v1.oneCell' = true) (h2 : v2.oneCell' = true) : ∀ u ∈ ([v0, v1, v2] : List Value), u.oneCell' = true := by
  intro u hu
  simp only [List.mem_cons, List.not_mem_nil, or_false] at hu
  rcases hu with rfl | rfl | rfl <;> assumption
theorem oneCells2 (v0 v1 : Value) (h0 : v0.oneCell' = true) (h1 : v1.oneCell' = true) : ∀ u ∈ ([v0, v1] : List Value), u.oneCell' = true := by
  intro u hu
  simp only [List.mem_cons, List.not_mem_nil, or_false] at hu
  rcases hu with rfl | rfl <;> assumption
/-- The four rows that the law's call owns: 13 and 14 have one element type, so that their blocks differ is said. -/
def Own4 (w wx : World) (v1 : Value) (n1 : Nat) (x1 : List Value) (v2 : Value) (n2 : Nat) (x2 : List Value) (v3 : Value) (n3 : Nat) (x3 : List Value) (v4 : Value) (n4 : Nat) (x4 : List Value) : Prop :=
  wx.ownsRow w.heap.size 30 3 v1 n1 x1 ∧ wx.ownsRow w.heap.size 40 2 v2 n2 x2 ∧ wx.ownsRow w.heap.size 32 3 v3 n3 x3 ∧ wx.ownsRow w.heap.size 32 3 v4 n4 x4 ∧ (v3.ownBlock = none ∨ v3.ownBlock ≠ v4.ownBlock) ∧ Below w.heap.size w wx
section
variable {w wq wp w3 : World} {v1 : Value} {n1 : Nat} {x1 : List Value} {v2 : Value} {n2 : Nat} {x2 : List Value} {v3 : Value} {n3 : Nat} {x3 : List Value} {v4 : Value} {n4 : Nat} {x4 : List Value}
theorem Own4.r1 (h : Own4 w wq v1 n1 x1 v2 n2 x2 v3 n3 x3 v4 n4 x4) : wq.ownsRow w.heap.size 30 3 v1 n1 x1 := h.1
theorem Own4.r2 (h : Own4 w wq v1 n1 x1 v2 n2 x2 v3 n3 x3 v4 n4 x4) : wq.ownsRow w.heap.size 40 2 v2 n2 x2 := h.2.1
theorem Own4.r3 (h : Own4 w wq v1 n1 x1 v2 n2 x2 v3 n3 x3 v4 n4 x4) : wq.ownsRow w.heap.size 32 3 v3 n3 x3 := h.2.2.1
theorem Own4.r4 (h : Own4 w wq v1 n1 x1 v2 n2 x2 v3 n3 x3 v4 n4 x4) : wq.ownsRow w.heap.size 32 3 v4 n4 x4 := h.2.2.2.1
theorem Own4.on (h : Own4 w wq v1 n1 x1 v2 n2 x2 v3 n3 x3 v4 n4 x4) (hb : Below wq.heap.size wq wp) : Own4 w wp v1 n1 x1 v2 n2 x2 v3 n3 x3 v4 n4 x4 :=
  ⟨own_below h.1 hb, own_below h.2.1 hb, own_below h.2.2.1 hb, own_below h.2.2.2.1 hb, h.2.2.2.2.1, m_below_on h.2.2.2.2.2 hb⟩
theorem Own4.app1 {v : Value} {n : Nat} {x : List Value} (h : Own4 w wp v1 n1 x1 v2 n2 x2 v3 n3 x3 v4 n4 x4) (ho : w3.ownsRow w.heap.size 30 3 v n x) (hg : wp.grownBy w3 v1.ownBlock) : Own4 w w3 v n x v2 n2 x2 v3 n3 x3 v4 n4 x4 :=
  ⟨ho, h.2.1.kept hg (own_disj h.2.1 h.1 (by decide)), h.2.2.1.kept hg (own_disj h.2.2.1 h.1 (by decide)), h.2.2.2.1.kept hg (own_disj h.2.2.2.1 h.1 (by decide)), h.2.2.2.2.1, h.2.2.2.2.2.grown hg h.2.2.2.2.2.size (fun j hj => (h.1.lt j hj).1)⟩
theorem Own4.app2 {v : Value} {n : Nat} {x : List Value} (h : Own4 w wp v1 n1 x1 v2 n2 x2 v3 n3 x3 v4 n4 x4) (ho : w3.ownsRow w.heap.size 40 2 v n x) (hg : wp.grownBy w3 v2.ownBlock) : Own4 w w3 v1 n1 x1 v n x v3 n3 x3 v4 n4 x4 :=
  ⟨h.1.kept hg (own_disj h.1 h.2.1 (by decide)), ho, h.2.2.1.kept hg (own_disj h.2.2.1 h.2.1 (by decide)), h.2.2.2.1.kept hg (own_disj h.2.2.2.1 h.2.1 (by decide)), h.2.2.2.2.1, h.2.2.2.2.2.grown hg h.2.2.2.2.2.size (fun j hj => (h.2.1.lt j hj).1)⟩
theorem Own4.app3 {g n cap : Nat} {x : List Value} (h : Own4 w wp v1 n1 x1 v2 n2 x2 v3 n3 x3 v4 n4 x4) (ho : w3.ownsRow w.heap.size 32 3 (.slice (some ⟨g, 0, none⟩) n cap) n x) (hg : wp.grownBy w3 v3.ownBlock) (hat : v3.ownBlock = some g ∨ g = wp.heap.size) :
    Own4 w w3 v1 n1 x1 v2 n2 x2 (.slice (some ⟨g, 0, none⟩) n cap) n x v4 n4 x4 := by
  have h4 : v4.ownBlock = none ∨ v4.ownBlock ≠ v3.ownBlock := by
    rcases h.2.2.2.2.1 with hd | hd
    · rw [hd]
      rcases hv : v4.ownBlock with _ | b
      · exact .inl rfl
      · exact .inr (by simp)
    · exact .inr (Ne.symm hd)
  refine ⟨h.1.kept hg (own_disj h.1 h.2.2.1 (by decide)), h.2.1.kept hg (own_disj h.2.1 h.2.2.1 (by decide)), ho, h.2.2.2.1.kept hg h4, ?_, h.2.2.2.2.2.grown hg h.2.2.2.2.2.size (fun j hj => (h.2.2.1.lt j hj).1)⟩
  refine .inr fun he => ?_
  have he' : v4.ownBlock = some g := he.symm
  rcases hat with hat | hat
  · rcases h.2.2.2.2.1 with hd | hd
    · rw [hd] at hat; cases hat
    · exact hd (hat.trans he'.symm)
  · have := (h.2.2.2.1.lt g he').2
    omega
theorem Own4.app4 {g n cap : Nat} {x : List Value} (h : Own4 w wp v1 n1 x1 v2 n2 x2 v3 n3 x3 v4 n4 x4) (ho : w3.ownsRow w.heap.size 32 3 (.slice (some ⟨g, 0, none⟩) n cap) n x) (hg : wp.grownBy w3 v4.ownBlock) (hat : v4.ownBlock = some g ∨ g = wp.heap.size) :
    Own4 w w3 v1 n1 x1 v2 n2 x2 v3 n3 x3 (.slice (some ⟨g, 0, none⟩) n cap) n x := by
  refine ⟨h.1.kept hg (own_disj h.1 h.2.2.2.1 (by decide)), h.2.1.kept hg (own_disj h.2.1 h.2.2.2.1 (by decide)), h.2.2.1.kept hg h.2.2.2.2.1, ho, ?_, h.2.2.2.2.2.grown hg h.2.2.2.2.2.size (fun j hj => (h.2.2.2.1.lt j hj).1)⟩
  rcases hv : v3.ownBlock with _ | b
  · exact .inl rfl
  · refine .inr fun he => ?_
    have he' : b = g := Option.some.inj (show some b = some g from he)
    subst he'
    rcases hat with hat | hat
    · rcases h.2.2.2.2.1 with hd | hd
      · rw [hv] at hd; cases hd
      · exact hd (hv.trans hat.symm)
    · have := (h.2.2.1.lt b hv).2
      omega
end
def sRow (l : List S) : List Value := l.flatMap fun q => [.int .u32 q.n, .int .u8 q.b, .int .u8 q.l]
def bRow (l : List S) : List Value := l.flatMap fun q => [.int .u32 q.n, .int .u8 q.b]
def oRow (l : List S) : List Value := l.flatMap fun q => [.int .u32 q.n, .int .u8 q.b, .int .u8 0]
theorem sRow_snoc (l : List S) (n b k : Nat) : sRow (l ++ [⟨n, b, k⟩]) = sRow l ++ [.int .u32 n, .int .u8 b, .int .u8 k] := by simp [sRow]
theorem bRow_snoc (l : List S) (n b k : Nat) : bRow (l ++ [⟨n, b, k⟩]) = bRow l ++ [.int .u32 n, .int .u8 b] := by simp [bRow]
theorem oRow_snoc (l : List S) (n b k : Nat) : oRow (l ++ [⟨n, b, k⟩]) = oRow l ++ [.int .u32 n, .int .u8 b, .int .u8 0] := by simp [oRow]
theorem fine_snoc {l : List S} {q : S} (h : ∀ q ∈ l, q.fine) (hq : q.fine) : ∀ x ∈ l ++ [q], x.fine := by
  intro x hx
  rcases List.mem_append.1 hx with h1 | h1
  · exact h x h1
  · rw [List.mem_singleton.1 h1]; exact hq
/-- What the law's loop holds: the four rows that it has appended to. -/
def OrdLoop (w : World) (len : Nat) (s11 s12 s13 s14 i : Value) (wr : World) : Prop :=
  ∃ (j : Nat) (l : List S), j ≤ len ∧ j ≤ 20 ∧ i = .int .i64 j ∧ l.length = j ∧ (∀ q ∈ l, q.fine) ∧ Own4 w wr s11 j (sRow l) s12 j (bRow l) s13 j (sRow l) s14 j (oRow l)
theorem flatK {α β : Type} (c : Nat) (f : α → List β) (hf : ∀ a, (f a).length = c) (l : List α) : ∀ (i j : Nat) (h : i < l.length), j < c → (l.flatMap f)[i * c + j]? = (f l[i])[j]? := by
  induction l with
  | nil => intro i j h; exact absurd h (Nat.not_lt_zero _)
  | cons a l ih =>
    intro i j h hj
    rw [List.flatMap_cons]
    cases i with
    | zero =>
      rw [Nat.zero_mul, Nat.zero_add, List.getElem?_append_left (by rw [hf]; exact hj)]
      rfl
    | succ i =>
      rw [List.getElem?_append_right (by rw [hf, Nat.succ_mul]; omega), hf, show (i + 1) * c + j - c = i * c + j by rw [Nat.succ_mul]; omega, ih i j (by simpa using h) hj]
      rfl
theorem own_cell {w : World} {base : Nat} {e : TypeId} {g k cap size : Nat} {xs : List Value} {j : Nat} {v : Value} (h : w.ownsRow base e size (.slice (some ⟨g, 0, none⟩) k cap) k xs) (hv : xs[j]? = some v) : w.cell? ⟨g, 0 + j, none⟩ = some v := by
  have := h.cells (g := g) rfl j v hv
  have e : (⟨g, 0, none⟩ : Addr).add j = ⟨g, 0 + j, none⟩ := by unfold Addr.add; split <;> simp_all
  rw [e] at this
  exact this
theorem sts_own {w : World} {base : Nat} {e : TypeId} {v : Value} {k : Nat} {l : List S} (h : w.ownsRow base e 3 v k (sRow l)) (hk : l.length = k) : StsAt w v l := by
  rcases h.2 with ⟨rfl, h0⟩ | ⟨g, cap, cur, rfl, _⟩
  · have : l = [] := List.eq_nil_of_length_eq_zero (by omega)
    subst this
    exact .inl ⟨rfl, rfl⟩
  · refine .inr ⟨g, 0, cap, by rw [hk], fun i hi => ?_⟩
    have e0 := own_cell h (flatK 3 (fun q : S => [Value.int .u32 q.n, .int .u8 q.b, .int .u8 q.l]) (fun _ => rfl) l i 0 hi (by decide))
    have e1 := own_cell h (flatK 3 (fun q : S => [Value.int .u32 q.n, .int .u8 q.b, .int .u8 q.l]) (fun _ => rfl) l i 1 hi (by decide))
    have e2 := own_cell h (flatK 3 (fun q : S => [Value.int .u32 q.n, .int .u8 q.b, .int .u8 q.l]) (fun _ => rfl) l i 2 hi (by decide))
    exact ⟨e0, by rw [Nat.add_assoc]; exact e1, by rw [Nat.add_assoc]; exact e2⟩
theorem mks_own {w : World} {base : Nat} {e : TypeId} {v : Value} {k : Nat} {l : List S} (h : w.ownsRow base e 2 v k (bRow l)) (hk : l.length = k) : MksAt w v l := by
  rcases h.2 with ⟨rfl, h0⟩ | ⟨g, cap, cur, rfl, _⟩
  · have : l = [] := List.eq_nil_of_length_eq_zero (by omega)
    subst this
    exact .inl ⟨rfl, rfl⟩
  · refine .inr ⟨g, 0, cap, by rw [hk], fun i hi => ?_⟩
    have e0 := own_cell h (flatK 2 (fun q : S => [Value.int .u32 q.n, .int .u8 q.b]) (fun _ => rfl) l i 0 hi (by decide))
    have e1 := own_cell h (flatK 2 (fun q : S => [Value.int .u32 q.n, .int .u8 q.b]) (fun _ => rfl) l i 1 hi (by decide))
    exact ⟨e0, by rw [Nat.add_assoc]; exact e1⟩
def low (l : List S) : List S := l.map fun q => ⟨q.n, q.b, 0⟩
theorem oRow_low (l : List S) : oRow l = sRow (low l) := by simp [oRow, sRow, low, List.flatMap_map]
theorem fold_low (l : List S) : ∀ (t : S) (n b : Nat), t.n = n → t.b = b → (low l).foldl (fun t s => if stLt t s then s else t) ⟨n, b, 0⟩ = ⟨(l.foldl (fun t s => if markLt t s then s else t) t).n, (l.foldl (fun t s => if markLt t s then s else t) t).b, 0⟩ := by
  induction l with
  | nil => intro t n b hn hb; subst hn; subst hb; rfl
  | cons a l ih =>
    intro t n b hn hb
    subst hn; subst hb
    simp only [low, List.map_cons, List.foldl_cons]
    have e : stLt ⟨t.n, t.b, 0⟩ ⟨a.n, a.b, 0⟩ = markLt t a := (st_mark _ _ _ _).trans rfl
    rw [e]
    cases markLt t a with
    | true => exact ih a _ _ rfl rfl
    | false => exact ih t _ _ rfl rfl
theorem top_low (l : List S) : topS (low l) = ⟨(topM l).n, (topM l).b, 0⟩ := fold_low l ⟨0, 0, 0⟩ 0 0 rfl rfl
theorem low_fine {l : List S} (h : ∀ q ∈ l, q.fine) : ∀ q ∈ low l, q.fine := by
  intro q hq
  obtain ⟨p, hp, rfl⟩ := List.mem_map.1 hq
  exact ⟨(h p hp).1, (h p hp).2.1, (by decide : 0 < 256)⟩
theorem great_is (v : Value) (l : List S) (k n b c : Nat) (base : Nat) (w : World) (h : w.ownsRow base 30 3 v k (sRow l)) (hk : l.length = k) (hl : k ≤ 20) (ht : topS l = ⟨n, b, c⟩) : Calls Try.prog 12 #[v] w fun e w' => e = .returned (.agg #[.int .u32 n, .int .u8 b, .int .u8 c]) ∧ Below w.heap.size w w' := by
  have := great_any v l w (by omega) (sts_own h hk)
  rw [ht] at this
  exact this
theorem refGreat_is (v : Value) (l : List S) (k n b c : Nat) (base : Nat) (w : World) (h : w.ownsRow base 32 3 v k (sRow l)) (hk : l.length = k) (hl : k ≤ 20) (hf : ∀ q ∈ l, q.fine) (ht : topS l = ⟨n, b, c⟩) : Calls Try.prog 13 #[v] w fun e w' => e = .returned (.agg #[.int .u32 n, .int .u8 b, .int .u8 c]) ∧ Below w.heap.size w w' := by
  have := refGreat_any v l w (by omega) hf (sts_own h hk)
  rw [ht] at this
  exact this
theorem refLow_is (v : Value) (l : List S) (k n b c : Nat) (base : Nat) (w : World) (h : w.ownsRow base 32 3 v k (oRow l)) (hk : l.length = k) (hl : k ≤ 20) (hf : ∀ q ∈ l, q.fine) (ht : topM l = ⟨n, b, c⟩) : Calls Try.prog 13 #[v] w fun e w' => e = .returned (.agg #[.int .u32 n, .int .u8 b, .int .u8 0]) ∧ Below w.heap.size w w' := by
  rw [oRow_low] at h
  have hll : (low l).length = k := by simp [low, hk]
  have := refGreat_any v (low l) w (by omega) (low_fine hf) (sts_own h hll)
  rw [top_low, ht] at this
  exact this
theorem high_is (v : Value) (l : List S) (k n b c : Nat) (base : Nat) (w : World) (h : w.ownsRow base 40 2 v k (bRow l)) (hk : l.length = k) (hl : k ≤ 20) (ht : topM l = ⟨n, b, c⟩) : Calls Try.prog 14 #[v] w fun e w' => e = .returned (.agg #[.int .u32 n, .int .u8 b]) ∧ Below w.heap.size w w' := by
  have := high_any v l w (by omega) (mks_own h hk)
  rw [ht] at this
  exact this
end Go.Proofs.Ytegjgdiollafkaa
