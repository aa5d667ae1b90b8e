/-
  Small laws for the law MarkLine: three variables made in whatever order, the greatest of three stamps.
-/
import Derived.Test.YtegjgdiollafkaaInv
import Derived.Deep.DeepCutAuto
import Derived.Deep.RegionLaw
import Derived.Orders
namespace Go.Proofs.Ytegjgdiollafkaa
open Go.RowKit Go.Instr

/-- Three blocks are known whole: a stamp in each. -/
def Tri (w : World) (T : TypeId) (X Y Z : Nat) (a b c : S) : Prop := Blk w X #[.int .u32 a.n, .int .u8 a.b, .int .u8 a.l] T ∧ Blk w Y #[.int .u32 b.n, .int .u8 b.b, .int .u8 b.l] T ∧ Blk w Z #[.int .u32 c.n, .int .u8 c.b, .int .u8 c.l] T
theorem Tri.on {w w' : World} {T : TypeId} {X Y Z : Nat} {a b c : S} (h : Tri w T X Y Z a b c) (hB : Below w.heap.size w w') : Tri w' T X Y Z a b c := ⟨h.1.on hB, h.2.1.on hB, h.2.2.on hB⟩
theorem boxes3 (w : World) (T : TypeId) (a b c : S) : Tri (((w.alloc (.cells #[.int .u32 a.n, .int .u8 a.b, .int .u8 a.l] T)).alloc (.cells #[.int .u32 b.n, .int .u8 b.b, .int .u8 b.l] T)).alloc (.cells #[.int .u32 c.n, .int .u8 c.b, .int .u8 c.l] T)) T w.heap.size (w.heap.size + 1) (w.heap.size + 2) a b c :=
  ⟨Blk.alloc (Blk.alloc (Blk.new rfl) _) _, Blk.alloc (Blk.new (by simp)) _, Blk.new (by simp)⟩
def lineAct (a b c : S) (X Y Z : Nat) (v7 v8 v9 v14 v15 v16 v17 v18 v19 : Value) : Act :=
  { tmps := #[.agg #[.int .u32 a.n, .int .u8 a.b, .int .u8 a.l], .agg #[.int .u32 b.n, .int .u8 b.b, .int .u8 b.l], .agg #[.int .u32 c.n, .int .u8 c.b, .int .u8 c.l], .pointer (some ⟨X, 0, none⟩), .pointer (some ⟨Y, 0, none⟩), .pointer (some ⟨Z, 0, none⟩), .bool false, v7, v8, v9, undef, undef, .bool true, .bool false, v14, v15, v16, v17, v18, v19, undef, undef, undef, undef, undef, undef, undef, undef, undef, undef, undef, undef, undef, undef, undef, undef, undef, undef, undef, undef, undef, undef, undef, undef, undef, undef, undef, undef, undef, undef, undef, undef, undef, undef, undef, undef, undef, undef, undef, undef, undef, undef, undef, undef, undef, undef, undef, undef, undef, undef, undef, undef, undef, undef, undef, undef, undef, undef, undef, undef, undef, undef, undef, undef, undef, undef, undef, undef, undef, undef, undef, undef], defers := [] }
/-- Operation j of the region has been carried out. -/
def Gone (L : Array Bool) (j : Nat) : Prop := L.getD j false = true
theorem gone_set {L : Array Bool} {i j : Nat} (h : Gone (L.setIfInBounds i true) j) (hne : i ≠ j) : Gone L j := by
  unfold Gone at *
  rw [getD_set_ne false hne] at h
  exact h
theorem gone_mono {L : Array Bool} {i j : Nat} (h : Gone L j) : Gone (L.setIfInBounds i true) j := getD_set_true h
theorem gone_self {L : Array Bool} {i : Nat} (h : i < L.size) : Gone (L.setIfInBounds i true) i := by
  unfold Gone; simp [h]
theorem not_gone {L : Array Bool} {j : Nat} (h : L.getD j true = false) : ¬ Gone L j := by
  unfold Gone
  intro hg
  rcases Nat.lt_or_ge j L.size with hl | hl
  · rw [Array.getD_eq_getD_getElem?, Array.getElem?_eq_getElem hl] at h hg
    simp only [Option.getD_some] at h hg
    rw [h] at hg; cases hg
  · rw [Array.getD_eq_getD_getElem?, Array.getElem?_eq_none hl] at hg; cases hg
theorem Blk.differ {w : World} {A B : Nat} {cs cs' : Array Value} {T T' : TypeId} (h : Blk w A cs T) (h' : Blk w B cs' T') (hT : T ≠ T') : A ≠ B := by
  rintro rfl
  have := (show w.heap[A]? = _ from h).symm.trans h'
  simp only [Option.some.injEq, Obj.cells.injEq] at this
  exact hT this.2.1
theorem Blk.put3 {w : World} {A : Nat} {a b c x y z : Value} {T : TypeId} (h : Blk w A #[a, b, c] T) : Blk (((w.setCell ⟨A, 0, none⟩ x).setCell ⟨A, 1, none⟩ y).setCell ⟨A, 2, none⟩ z) A #[x, y, z] T := Blk.set (Blk.set (Blk.set h 0 x _ rfl) 1 y _ rfl) 2 z _ rfl
theorem Blk.far3 {w : World} {A B : Nat} {cs : Array Value} {x y z : Value} {T : TypeId} (h : Blk w B cs T) (hne : B ≠ A) : Blk (((w.setCell ⟨A, 0, none⟩ x).setCell ⟨A, 1, none⟩ y).setCell ⟨A, 2, none⟩ z) B cs T := Blk.set_other (Blk.set_other (Blk.set_other h 0 _ hne) 1 _ hne) 2 _ hne
/-- A variable of the region: once it is made it is a block of the call's own; once it is stored to it holds the stamp. -/
def Var (w wr : World) (L : Array Bool) (i j : Nat) (v : Value) (A : Nat) (a : S) : Prop :=
  (Gone L j → Gone L i) ∧ (Gone L i → v = .pointer (some ⟨A, 0, none⟩) ∧ w.heap.size ≤ A ∧ A < wr.heap.size ∧ ∃ x y z, Blk wr A #[x, y, z] 30 ∧ (Gone L j → x = .int .u32 a.n ∧ y = .int .u8 a.b ∧ z = .int .u8 a.l))
theorem Var.keep {w wr : World} {L : Array Bool} {i j k A : Nat} {v : Value} {a : S} (h : Var w wr L i j v A a) (hi : k ≠ i) (hj : k ≠ j) : Var w wr (L.setIfInBounds k true) i j v A a :=
  ⟨fun g => gone_mono (h.1 (gone_set g hj)), fun g => by
    obtain ⟨e1, e2, e3, x, y, z, hb, hs⟩ := h.2 (gone_set g hi)
    exact ⟨e1, e2, e3, x, y, z, hb, fun g' => hs (gone_set g' hj)⟩⟩
theorem Var.on {w wr wp : World} {L : Array Bool} {i j A : Nat} {v : Value} {a : S} (h : Var w wr L i j v A a) (hB : Below wr.heap.size wr wp) : Var w wp L i j v A a :=
  ⟨h.1, fun g => by
    obtain ⟨e1, e2, e3, x, y, z, hb, hs⟩ := h.2 g
    exact ⟨e1, e2, Nat.lt_of_lt_of_le e3 hB.size, x, y, z, hb.on hB, hs⟩⟩
theorem Var.far {w wr : World} {L : Array Bool} {i j A B : Nat} {v x y z : Value} {a : S} (h : Var w wr L i j v A a) (hne : Gone L i → A ≠ B) : Var w (((wr.setCell ⟨B, 0, none⟩ x).setCell ⟨B, 1, none⟩ y).setCell ⟨B, 2, none⟩ z) L i j v A a :=
  ⟨h.1, fun g => by
    obtain ⟨e1, e2, e3, x, y, z, hb, hs⟩ := h.2 g
    exact ⟨e1, e2, by simpa using e3, x, y, z, hb.far3 (hne g), hs⟩⟩
theorem Var.made {w wr : World} {L : Array Bool} {i j A : Nat} {v : Value} {a : S} {x y z : Value} (h : Var w wr L i j v A a) (hi : L.getD i true = false) (hne : i ≠ j) (hB : w.heap.size ≤ wr.heap.size) : Var w (wr.alloc (.cells #[x, y, z] 30)) (L.setIfInBounds i true) i j (.pointer (some ⟨wr.heap.size, 0, none⟩)) wr.heap.size a :=
  ⟨fun g => absurd (h.1 (gone_set g hne)) (not_gone hi), fun _ => ⟨rfl, hB, by simp, x, y, z, Blk.new rfl, fun g => absurd (h.1 (gone_set g hne)) (not_gone hi)⟩⟩
theorem Var.stored {w wr : World} {L : Array Bool} {i j A : Nat} {v : Value} {a : S} (h : Var w wr L i j v A a) (hi : Gone L i) : Var w (((wr.setCell ⟨A, 0, none⟩ (.int .u32 a.n)).setCell ⟨A, 1, none⟩ (.int .u8 a.b)).setCell ⟨A, 2, none⟩ (.int .u8 a.l)) (L.setIfInBounds j true) i j v A a :=
  ⟨fun _ => gone_mono hi, fun _ => by
    obtain ⟨e1, e2, e3, x, y, z, hb, hs⟩ := h.2 hi
    exact ⟨e1, e2, by simpa using e3, _, _, _, hb.put3, fun _ => ⟨rfl, rfl, rfl⟩⟩⟩
theorem Tri.far {w : World} {A X Y Z : Nat} {a b c : S} {cs : Array Value} {x y z : Value} (h : Tri w 24 X Y Z a b c) (hA : Blk w A cs 30) : Tri (((w.setCell ⟨A, 0, none⟩ x).setCell ⟨A, 1, none⟩ y).setCell ⟨A, 2, none⟩ z) 24 X Y Z a b c :=
  ⟨h.1.far3 (h.1.differ hA (by decide)), h.2.1.far3 (h.2.1.differ hA (by decide)), h.2.2.far3 (h.2.2.differ hA (by decide))⟩
structure LineI (w : World) (a b c : S) (X Y Z : Nat) (L : Array Bool) (ac : Act) (wr : World) (v7 v8 v9 v14 v15 v16 v17 v18 v19 : Value) (A B C : Nat) : Prop where
  act : ac = lineAct a b c X Y Z v7 v8 v9 v14 v15 v16 v17 v18 v19
  size : L.size = 12
  g0 : Gone L 0 → v14 = st a
  g1 : Gone L 1 → v15 = st a
  g2 : Gone L 2 → v16 = st b
  g3 : Gone L 3 → v17 = st b
  g4 : Gone L 4 → v18 = st c
  g5 : Gone L 5 → v19 = st c
  va : Var w wr L 6 9 v7 A a
  vb : Var w wr L 7 10 v8 B b
  vc : Var w wr L 8 11 v9 C c
  ab : Gone L 6 → Gone L 7 → A ≠ B
  ac' : Gone L 6 → Gone L 8 → A ≠ C
  bc : Gone L 7 → Gone L 8 → B ≠ C
  tri : Tri wr 24 X Y Z a b c
  bel : Below w.heap.size w wr
def LineE (w : World) (a b c : S) (X Y Z : Nat) (L : Array Bool) (ac : Act) (wr : World) : Prop := ∃ v7 v8 v9 v14 v15 v16 v17 v18 v19 A B C, LineI w a b c X Y Z L ac wr v7 v8 v9 v14 v15 v16 v17 v18 v19 A B C
theorem wpOp_plain {P : Program} {ops : Array Oper} {Q : Exit → Act → World → Prop} {i : Nat} {K : Act → World → Prop} {a : Act} {w : World} {o : Oper} (ho : ops[i]? = some o) (hg : o.guard = none) (h : o.wp P a w K Q) : wpOp P ops Q i K a w := by
  unfold wpOp
  rw [ho]
  simp only [Region.wanted, hg]
  exact .inl h
theorem gone_of {md : Region.Mode} {ops : Array Oper} {L : Array Bool} {j : Nat} {o : Oper} (hr : Region.ready md ops L = []) (hs : j < L.size) (ho : ops[j]? = some o) (hd : ∀ e ∈ o.after, Region.binds md e = true → Gone L e.on) : Gone L j := by
  cases hj : L.getD j true with
  | false =>
    have := mem_ready.2 ⟨hj, o, ho, hd⟩
    rw [hr] at this; cases this
  | true =>
    unfold Gone
    rw [Array.getD_eq_getD_getElem?, Array.getElem?_eq_getElem hs] at hj ⊢
    exact hj
theorem no_gone {n j : Nat} : ¬ Gone (Array.replicate n false) j := by
  unfold Gone
  rw [Array.getD_eq_getD_getElem?, Array.getElem?_replicate]
  split <;> simp
theorem Tri.atA {w : World} {T : TypeId} {X Y Z : Nat} {a b c : S} (h : Tri w T X Y Z a b c) : w.cell? ⟨X, 0, none⟩ = some (.int .u32 a.n) ∧ w.cell? ⟨X, 1, none⟩ = some (.int .u8 a.b) ∧ w.cell? ⟨X, 2, none⟩ = some (.int .u8 a.l) := ⟨h.1.cell 0, h.1.cell 1, h.1.cell 2⟩
theorem Tri.atB {w : World} {T : TypeId} {X Y Z : Nat} {a b c : S} (h : Tri w T X Y Z a b c) : w.cell? ⟨Y, 0, none⟩ = some (.int .u32 b.n) ∧ w.cell? ⟨Y, 1, none⟩ = some (.int .u8 b.b) ∧ w.cell? ⟨Y, 2, none⟩ = some (.int .u8 b.l) := ⟨h.2.1.cell 0, h.2.1.cell 1, h.2.1.cell 2⟩
theorem Tri.atC {w : World} {T : TypeId} {X Y Z : Nat} {a b c : S} (h : Tri w T X Y Z a b c) : w.cell? ⟨Z, 0, none⟩ = some (.int .u32 c.n) ∧ w.cell? ⟨Z, 1, none⟩ = some (.int .u8 c.b) ∧ w.cell? ⟨Z, 2, none⟩ = some (.int .u8 c.l) := ⟨h.2.2.cell 0, h.2.2.cell 1, h.2.2.cell 2⟩
theorem top_is (n b l m c k p q r tn tb tl : Nat) (w : World) (B : Nat) (hB : B = w.heap.size) (ht : topS [⟨n, b, l⟩, ⟨m, c, k⟩, ⟨p, q, r⟩] = ⟨tn, tb, tl⟩) : Calls Try.prog 12 #[.slice (some ⟨B, 0, none⟩) 3 3] (w.alloc (.cells #[.int .u32 n, .int .u8 b, .int .u8 l, .int .u32 m, .int .u8 c, .int .u8 k, .int .u32 p, .int .u8 q, .int .u8 r] 30)) fun e w' => e = .returned (.agg #[.int .u32 tn, .int .u8 tb, .int .u8 tl]) ∧ Below w.heap.size w w' := by
  subst hB
  have hg := great_some w.heap.size 0 3 [⟨n, b, l⟩, ⟨m, c, k⟩, ⟨p, q, r⟩] (w.alloc (.cells #[.int .u32 n, .int .u8 b, .int .u8 l, .int .u32 m, .int .u8 c, .int .u8 k, .int .u32 p, .int .u8 q, .int .u8 r] 30)) (Nat.le_of_ble_eq_true rfl) (by
    intro i h
    match i, h with
    | 0, _ => simp
    | 1, _ => simp
    | 2, _ => simp)
  rw [ht] at hg
  exact hg.mono fun _ _ ⟨h1, h2⟩ => ⟨h1, ((Below.refl _ _).alloc (Nat.le_refl _) _).trans (h2.mono (by simp))⟩
end Go.Proofs.Ytegjgdiollafkaa
