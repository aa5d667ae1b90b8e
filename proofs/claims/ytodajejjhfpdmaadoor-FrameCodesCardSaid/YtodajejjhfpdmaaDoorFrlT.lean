/-
  told: the program's frame and the document's, of plain data.
-/
import Derived.Test.YtodajejjhfpdmaaDoorFrmR
import Derived.Test.YtodajejjhfpdmaaDoorOrd
namespace Go.Proofs.YtodajejjhfpdmaaDoor
open Go.RowKit Go.Instr

theorem results_cell2_row {P : Program} {fn : Func} {p q : Tmp} {ty tz : TypeId} (h : fn.results = #[.cell p ty, .cell q tz]) (tmps : Array Value) (w : World) (g k : Nat) (t u : TypeId) (cs ds : Array Value) (fr gr : Nat × Nat) (d e : TypeDesc)
    (hp : tmps.getD p undef = .pointer (some ⟨g, 0, none⟩)) (hg : w.heap[g]? = some (.cells cs t fr))
    (hu : P.underlying ty = some d) (hd : (match d with | .struct _ | .array _ _ => true | _ => false) = true) (hi : (P.info? ty).map (·.size) = some cs.size)
    (hq : tmps.getD q undef = .pointer (some ⟨k, 0, none⟩)) (hk : w.heap[k]? = some (.cells ds u gr))
    (hu2 : P.underlying tz = some e) (hd2 : (match e with | .struct _ | .array _ _ => true | _ => false) = true) (hi2 : (P.info? tz).map (·.size) = some ds.size) :
    (results fn tmps).run P w = .ok (.tuple #[.agg cs, .agg ds]) w := by
  have hp' : tmps[p]?.getD undef = .pointer (some ⟨g, 0, none⟩) := by simpa using hp
  have hq' : tmps[q]?.getD undef = .pointer (some ⟨k, 0, none⟩) := by simpa using hq
  simp [results, h, hp', hq', asAddr, run_loadVar_row w g t ty cs fr d hg hu hd hi, run_loadVar_row w k u tz ds gr e hk hu2 hd2 hi2, Result.andThen]
/-- A frame without its lists. -/
def nolist (x : Fr) : Fr := { x with ms := [], es := [] }
def toldF (x : Fr) : Fr := { x with ms := x.ms.take 10, es := x.es.take 18 }
/-- What told leaves: two frames alike. -/
def ToldP (y : Fr) (w : World) (e : Ending) (w' : World) : Prop :=
  ∃ s1 t1 s2 t2, e = .returned (.tuple #[.agg (frC y s1 t1), .agg (frC y s2 t2)]) ∧ Below w.heap.size w w' ∧ memR.At w' s1 y.ms ∧ entR.At w' t1 y.es ∧ memR.At w' s2 y.ms ∧ entR.At w' t2 y.es
theorem frCn_one (f : Fr) : (frC f (.slice none 0 0) (.slice none 0 0)).all (fun v => v.oneCell') = true := by simp [Value.oneCell']
theorem rows_ne {w : World} {b1 b2 : Nat} {e1 e2 : TypeId} {s1 s2 : Nat} {v1 v2 : Value} {n1 n2 : Nat} {x1 x2 : List Value} {g : Nat} (h1 : w.ownsRow b1 e1 s1 v1 n1 x1) (h2 : w.ownsRow b2 e2 s2 v2 n2 x2) (hne : e1 ≠ e2) (k1 : v1.ownBlock = some g) (k2 : v2.ownBlock = some g) : False := by
  rcases h2.2 with ⟨rfl, _⟩ | ⟨g', cap, cur, rfl, _, hg, _⟩
  · cases k2
  · cases k2
    exact own_ne h1 hg hne k1
/-- told's blocks in the midst of its loops: f1, f2 what the two frames hold as members, v1, v2 the rows. -/
structure T2 (x : Fr) (s t : Value) (A F M : Nat) (g1 g2 : Value) (w : World) (f1 v1 f2 v2 : Value) (l1 l2 : List Mem) (wx : World) : Prop where
  a : Blk wx A (frC x s t) 29
  p : Blk wx (A + 1) z34 47
  r : Blk wx (A + 2) z34 52
  f : Blk wx F (frC x f1 g1) 47
  m : Blk wx M (frC x f2 g2) 52
  o1 : memR.Own 75 wx w.heap.size v1 l1
  o2 : memR.Own 77 wx w.heap.size v2 l2
  b : Below w.heap.size w wx
theorem T2.on {x : Fr} {s t : Value} {A F M : Nat} {g1 g2 : Value} {w : World} {f1 v1 f2 v2 : Value} {l1 l2 : List Mem} {wx wy : World} (h : T2 x s t A F M g1 g2 w f1 v1 f2 v2 l1 l2 wx) (hB : Below wx.heap.size wx wy) : T2 x s t A F M g1 g2 w f1 v1 f2 v2 l1 l2 wy :=
  ⟨h.a.on hB, h.p.on hB, h.r.on hB, h.f.on hB, h.m.on hB, h.o1.on hB, h.o2.on hB, m_below_on h.b hB⟩
theorem T2.app1 {x : Fr} {s t : Value} {A F M : Nat} {g1 g2 : Value} {w : World} {f1 v1 f2 v2 v : Value} {l1 l2 l : List Mem} {wx wy : World} (h : T2 x s t A F M g1 g2 w f1 v1 f2 v2 l1 l2 wx) (ho : memR.Own 75 wy w.heap.size v l) (hg : wx.grownBy wy v1.ownBlock) : T2 x s t A F M g1 g2 w f1 v f2 v2 l l2 wy :=
  ⟨h.a.grown hg (Ne.symm (own_ne h.o1 h.a (by decide))), h.p.grown hg (Ne.symm (own_ne h.o1 h.p (by decide))), h.r.grown hg (Ne.symm (own_ne h.o1 h.r (by decide))), h.f.grown hg (Ne.symm (own_ne h.o1 h.f (by decide))), h.m.grown hg (Ne.symm (own_ne h.o1 h.m (by decide))), ho,
   h.o2.block (fun g hgg => hg.block g (World.ownsRow.lt h.o2 g hgg).2 (fun e => rows_ne h.o1 h.o2 (by decide) e.symm hgg)), h.b.grown hg h.b.size (fun k hk => (World.ownsRow.lt h.o1 k hk).1)⟩
theorem T2.app2 {x : Fr} {s t : Value} {A F M : Nat} {g1 g2 : Value} {w : World} {f1 v1 f2 v2 v : Value} {l1 l2 l : List Mem} {wx wy : World} (h : T2 x s t A F M g1 g2 w f1 v1 f2 v2 l1 l2 wx) (ho : memR.Own 77 wy w.heap.size v l) (hg : wx.grownBy wy v2.ownBlock) : T2 x s t A F M g1 g2 w f1 v1 f2 v l1 l wy :=
  ⟨h.a.grown hg (Ne.symm (own_ne h.o2 h.a (by decide))), h.p.grown hg (Ne.symm (own_ne h.o2 h.p (by decide))), h.r.grown hg (Ne.symm (own_ne h.o2 h.r (by decide))), h.f.grown hg (Ne.symm (own_ne h.o2 h.f (by decide))), h.m.grown hg (Ne.symm (own_ne h.o2 h.m (by decide))),
   h.o1.block (fun g hgg => hg.block g (World.ownsRow.lt h.o1 g hgg).2 (fun e => rows_ne h.o1 h.o2 (by decide) hgg e.symm)), ho, h.b.grown hg h.b.size (fun k hk => (World.ownsRow.lt h.o2 k hk).1)⟩
theorem T2.setF {x : Fr} {s t : Value} {A F M : Nat} {g1 g2 : Value} {w : World} {f1 v1 f2 v2 : Value} {l1 l2 : List Mem} {wx : World} (h : T2 x s t A F M g1 g2 w f1 v1 f2 v2 l1 l2 wx) (hF : A + 1 < F) (hw : w.heap.size ≤ F) (u : Value) : T2 x s t A F M g1 g2 w u v1 f2 v2 l1 l2 (wx.setCell ⟨F, 24, none⟩ u) :=
  ⟨h.a.set_other 24 u (by omega), h.p.set_other 24 u (by omega), h.r.set_other 24 u (Blk.differ h.r h.f (by decide)), h.f.set 24 u _ rfl, h.m.set_other 24 u (Blk.differ h.m h.f (by decide)), h.o1.setB h.f (by decide), h.o2.setB h.f (by decide), h.b.setCell hw u⟩
theorem T2.setM {x : Fr} {s t : Value} {A F M : Nat} {g1 g2 : Value} {w : World} {f1 v1 f2 v2 : Value} {l1 l2 : List Mem} {wx : World} (h : T2 x s t A F M g1 g2 w f1 v1 f2 v2 l1 l2 wx) (hM : A + 2 < M) (hw : w.heap.size ≤ M) (u : Value) : T2 x s t A F M g1 g2 w f1 v1 u v2 l1 l2 (wx.setCell ⟨M, 24, none⟩ u) :=
  ⟨h.a.set_other 24 u (by omega), h.p.set_other 24 u (Blk.differ h.p h.m (by decide)), h.r.set_other 24 u (by omega), h.f.set_other 24 u (Blk.differ h.f h.m (by decide)), h.m.set 24 u _ rfl, h.o1.setB h.m (by decide), h.o2.setB h.m (by decide), h.b.setCell hw u⟩
def MemTold (x : Fr) (s t : Value) (A F M : Nat) (w : World) (n : Nat) (i : Value) (wr : World) : Prop :=
  ∃ (k : Nat) (v1 v2 : Value), k ≤ n ∧ k ≤ 10 ∧ i = .int .i64 k ∧ T2 x s t A F M (.slice none 0 0) (.slice none 0 0) w v1 v1 v2 v2 (x.ms.take k) (x.ms.take k) wr
def MemTold1 (x : Fr) (s t : Value) (A F M : Nat) (w : World) (k : Nat) (wr : World) : Prop :=
  ∃ (v1 v2 : Value), T2 x s t A F M (.slice none 0 0) (.slice none 0 0) w v1 v1 v2 v2 (x.ms.take k) (x.ms.take k) wr
theorem Tryd.infoRM : (Tryd.prog.info? 77).map (fun i => (i.zero, i.size, i.bytes)) = some (some (.agg #[.int .u8 0, .int .u8 0, .bool false]), 3, 3) := by kernel_rfl
theorem infoPRM : ∃ i, Tryd.prog.info? 77 = some i ∧ i.zero = some (.agg #[.int .u8 0, .int .u8 0, .bool false]) ∧ i.size = 3 ∧ i.bytes = 3 := by
  cases hi : Tryd.prog.info? 77 with
  | none => have h := Tryd.infoRM; simp [hi] at h
  | some i => have h := Tryd.infoRM; simp [hi] at h; exact ⟨i, rfl, h.1, h.2.1, h.2.2⟩
theorem newsRM {w : World} {X : Nat} {x : Mem} (h0 : w.cell? ⟨X, 0, none⟩ = some (.int .u8 x.n)) (h1 : w.cell? ⟨X, 1, none⟩ = some (.int .u8 x.l)) (h2 : w.cell? ⟨X, 2, none⟩ = some (.bool x.r)) : ∀ j u, ([.int .u8 x.n, .int .u8 x.l, .bool x.r] : List Value)[j]? = some u → w.cell? ((⟨X, 0, none⟩ : Addr).add j) = some u := by
  intro j u hu
  have e : (⟨X, 0, none⟩ : Addr).add j = ⟨X, j, none⟩ := by unfold Addr.add; split <;> simp_all
  rw [e]
  match j, hu with
  | 0, hu => cases hu; exact h0
  | 1, hu => cases hu; exact h1
  | 2, hu => cases hu; exact h2
/-- Behind the first frame. -/
def ToldCut (x : Fr) (s t : Value) (A F : Nat) (w : World) (u : Value) (wx : World) : Prop :=
  u = .pointer (some ⟨F, 0, none⟩) ∧ Blk wx A (frC x s t) 29 ∧ Blk wx (A + 1) z34 47 ∧ Blk wx (A + 2) z34 52 ∧ Blk wx F (frC x (.slice none 0 0) (.slice none 0 0)) 47 ∧ Below w.heap.size w wx
theorem ToldCut.of {x : Fr} {s t : Value} {A : Nat} {w w1 : World} (hA : w.heap.size ≤ w1.heap.size) (h1 : Blk w1 A (frC x s t) 29) (h2 : Blk w1 (A + 1) z34 47) (h3 : Blk w1 (A + 2) z34 52) (h4 : Below w.heap.size w w1) :
    ToldCut x s t A w1.heap.size w (.pointer (some ⟨w1.heap.size, 0, none⟩)) ((w1.alloc (.cells z34 47)).setRow w1.heap.size (frC x (.slice none 0 0) (.slice none 0 0))) := by
  have hg := grown_setRow (w1.alloc (.cells z34 47)) w1.heap.size (frC x (.slice none 0 0) (.slice none 0 0))
  exact ⟨rfl, (h1.alloc _).grown hg (fun e => Nat.ne_of_lt h1.lt (Option.some.inj e)), (h2.alloc _).grown hg (fun e => Nat.ne_of_lt h2.lt (Option.some.inj e)), (h3.alloc _).grown hg (fun e => Nat.ne_of_lt h3.lt (Option.some.inj e)), setRow_blk _ (Blk.new (w := w1) rfl), below_sr (h4.alloc hA _) hA _⟩
theorem MemTold.next {x : Fr} {s t : Value} {A F M : Nat} {w wx : World} {n k g1 k1 g2 k2 : Nat} {v1 v2 : Value} (hk : k < n) (h2 : k < 10) (hA : A = w.heap.size) (hAF : A + 2 < F) (hFM : F < M)
    (hT : T2 x s t A F M (.slice none 0 0) (.slice none 0 0) w v1 (.slice (some ⟨g1, 0, none⟩) ((x.ms.take k).length + 1) k1) v2 (.slice (some ⟨g2, 0, none⟩) ((x.ms.take k).length + 1) k2) (x.ms.take (k + 1)) (x.ms.take (k + 1)) wx) :
    MemTold x s t A F M w n (.int .i64 ((k : Int) + 1)) ((wx.setCell ⟨F, 24, none⟩ (.slice (some ⟨g1, 0, none⟩) (min k x.ms.length + 1) k1)).setCell ⟨M, 24, none⟩ (.slice (some ⟨g2, 0, none⟩) (min k x.ms.length + 1) k2)) ∧ n - (intOf (.int .i64 ((k : Int) + 1))).toNat < n - (intOf (.int .i64 (k : Int))).toNat := by
  simp only [List.length_take] at hT
  refine ⟨⟨k + 1, _, _, by omega, by omega, by simp, (hT.setF (by omega) (by omega) _).setM (by omega) (by omega) _⟩, ?_⟩
  simp only [intOf]
  omega
theorem Blk.setRow_other {w : World} {B g : Nat} {cs : Array Value} {T : TypeId} (h : Blk w B cs T) (hne : g ≠ B) (row : Array Value) : Blk (w.setRow g row) B cs T :=
  h.grown (grown_setRow w g row) (fun e => hne (Option.some.inj e).symm)
theorem T2.of {x : Fr} {s t : Value} {A F : Nat} {w wc : World} (_hA : A = w.heap.size) (_hAF : A + 2 < F) (h1 : Blk wc A (frC x s t) 29) (h2 : Blk wc (A + 1) z34 47) (h3 : Blk wc (A + 2) z34 52) (h4 : Blk wc F (frC x (.slice none 0 0) (.slice none 0 0)) 47) (h5 : Below w.heap.size w wc) :
    ∃ M, (.pointer (some ⟨wc.heap.size, 0, none⟩) : Value) = .pointer (some ⟨M, 0, none⟩) ∧ F < M ∧ T2 x s t A F M (.slice none 0 0) (.slice none 0 0) w (.slice none 0 0) (.slice none 0 0) (.slice none 0 0) (.slice none 0 0) [] [] ((wc.alloc (.cells z34 52)).setRow wc.heap.size (frC x (.slice none 0 0) (.slice none 0 0))) := by
  have hg := grown_setRow (wc.alloc (.cells z34 52)) wc.heap.size (frC x (.slice none 0 0) (.slice none 0 0))
  have hs := h5.size
  refine ⟨_, rfl, h4.lt, ?_⟩
  exact ⟨(h1.alloc _).grown hg (fun e => Nat.ne_of_lt h1.lt (Option.some.inj e)), (h2.alloc _).grown hg (fun e => Nat.ne_of_lt h2.lt (Option.some.inj e)), (h3.alloc _).grown hg (fun e => Nat.ne_of_lt h3.lt (Option.some.inj e)), (h4.alloc _).grown hg (fun e => Nat.ne_of_lt h4.lt (Option.some.inj e)), setRow_blk _ (Blk.new (w := wc) rfl), World.ownsRow_nil _ _ _ _, World.ownsRow_nil _ _ _ _, below_sr (h5.alloc hs _) hs _⟩
set_option maxRecDepth 20000 in
theorem Tryd.infoREnt : (Tryd.prog.info? 83).map (fun i => (i.zero, i.size, i.bytes)) = some (some (.agg #[.int .u32 0, .int .u32 0, .int .u8 0, .int .u8 0, .int .u8 0, .int .u8 0, .int .u32 0, .int .u32 0]), 8, 24) := by kernel_rfl
set_option maxRecDepth 20000 in
theorem infoPRE : ∃ i, Tryd.prog.info? 83 = some i ∧ i.zero = some (.agg #[.int .u32 0, .int .u32 0, .int .u8 0, .int .u8 0, .int .u8 0, .int .u8 0, .int .u32 0, .int .u32 0]) ∧ i.size = 8 ∧ i.bytes = 24 := by
  cases hi : Tryd.prog.info? 83 with
  | none => have h := Tryd.infoREnt; simp [hi] at h
  | some i => have h := Tryd.infoREnt; simp [hi] at h; exact ⟨i, rfl, h.1, h.2.1, h.2.2⟩
/-- told's blocks behind its first loop: f1, f2 the members' slices, e1, e2 what the frames hold as entries, u1, u2 the rows. -/
structure T3 (x : Fr) (s t : Value) (A F M : Nat) (w : World) (f1 f2 : Value) (L : List Mem) (e1 u1 e2 u2 : Value) (l1 l2 : List Ent) (wx : World) : Prop where
  a : Blk wx A (frC x s t) 29
  p : Blk wx (A + 1) z34 47
  r : Blk wx (A + 2) z34 52
  f : Blk wx F (frC x f1 e1) 47
  m : Blk wx M (frC x f2 e2) 52
  o1 : memR.Own 75 wx w.heap.size f1 L
  o2 : memR.Own 77 wx w.heap.size f2 L
  q1 : entR.Own 81 wx w.heap.size u1 l1
  q2 : entR.Own 83 wx w.heap.size u2 l2
  b : Below w.heap.size w wx
theorem T3.on {x : Fr} {s t : Value} {A F M : Nat} {w : World} {f1 f2 : Value} {L : List Mem} {e1 u1 e2 u2 : Value} {l1 l2 : List Ent} {wx wy : World} (h : T3 x s t A F M w f1 f2 L e1 u1 e2 u2 l1 l2 wx) (hB : Below wx.heap.size wx wy) : T3 x s t A F M w f1 f2 L e1 u1 e2 u2 l1 l2 wy :=
  ⟨h.a.on hB, h.p.on hB, h.r.on hB, h.f.on hB, h.m.on hB, h.o1.on hB, h.o2.on hB, h.q1.on hB, h.q2.on hB, m_below_on h.b hB⟩
theorem T2.ents {x : Fr} {s t : Value} {A F M : Nat} {w : World} {f1 f2 : Value} {L : List Mem} {wx : World} (h : T2 x s t A F M (.slice none 0 0) (.slice none 0 0) w f1 f1 f2 f2 L L wx) : T3 x s t A F M w f1 f2 L (.slice none 0 0) (.slice none 0 0) (.slice none 0 0) (.slice none 0 0) [] [] wx :=
  ⟨h.a, h.p, h.r, h.f, h.m, h.o1, h.o2, World.ownsRow_nil _ _ _ _, World.ownsRow_nil _ _ _ _, h.b⟩
theorem T3.app1 {x : Fr} {s t : Value} {A F M : Nat} {w : World} {f1 f2 : Value} {L : List Mem} {e1 u1 e2 u2 : Value} {l1 l2 : List Ent} {wx wy : World} {v : Value} {l : List Ent} (h : T3 x s t A F M w f1 f2 L e1 u1 e2 u2 l1 l2 wx) (ho : entR.Own 81 wy w.heap.size v l) (hg : wx.grownBy wy u1.ownBlock) : T3 x s t A F M w f1 f2 L e1 v e2 u2 l l2 wy :=
  ⟨h.a.grown hg (Ne.symm (own_ne h.q1 h.a (by decide))), h.p.grown hg (Ne.symm (own_ne h.q1 h.p (by decide))), h.r.grown hg (Ne.symm (own_ne h.q1 h.r (by decide))), h.f.grown hg (Ne.symm (own_ne h.q1 h.f (by decide))), h.m.grown hg (Ne.symm (own_ne h.q1 h.m (by decide))), h.o1.block (fun g hgg => hg.block g (World.ownsRow.lt h.o1 g hgg).2 (fun e => rows_ne h.q1 h.o1 (by decide) e.symm hgg)), h.o2.block (fun g hgg => hg.block g (World.ownsRow.lt h.o2 g hgg).2 (fun e => rows_ne h.q1 h.o2 (by decide) e.symm hgg)), ho, h.q2.block (fun g hgg => hg.block g (World.ownsRow.lt h.q2 g hgg).2 (fun e => rows_ne h.q1 h.q2 (by decide) e.symm hgg)), h.b.grown hg h.b.size (fun k hk => (World.ownsRow.lt h.q1 k hk).1)⟩
theorem T3.app2 {x : Fr} {s t : Value} {A F M : Nat} {w : World} {f1 f2 : Value} {L : List Mem} {e1 u1 e2 u2 : Value} {l1 l2 : List Ent} {wx wy : World} {v : Value} {l : List Ent} (h : T3 x s t A F M w f1 f2 L e1 u1 e2 u2 l1 l2 wx) (ho : entR.Own 83 wy w.heap.size v l) (hg : wx.grownBy wy u2.ownBlock) : T3 x s t A F M w f1 f2 L e1 u1 e2 v l1 l wy :=
  ⟨h.a.grown hg (Ne.symm (own_ne h.q2 h.a (by decide))), h.p.grown hg (Ne.symm (own_ne h.q2 h.p (by decide))), h.r.grown hg (Ne.symm (own_ne h.q2 h.r (by decide))), h.f.grown hg (Ne.symm (own_ne h.q2 h.f (by decide))), h.m.grown hg (Ne.symm (own_ne h.q2 h.m (by decide))), h.o1.block (fun g hgg => hg.block g (World.ownsRow.lt h.o1 g hgg).2 (fun e => rows_ne h.q2 h.o1 (by decide) e.symm hgg)), h.o2.block (fun g hgg => hg.block g (World.ownsRow.lt h.o2 g hgg).2 (fun e => rows_ne h.q2 h.o2 (by decide) e.symm hgg)), h.q1.block (fun g hgg => hg.block g (World.ownsRow.lt h.q1 g hgg).2 (fun e => rows_ne h.q2 h.q1 (by decide) e.symm hgg)), ho, h.b.grown hg h.b.size (fun k hk => (World.ownsRow.lt h.q2 k hk).1)⟩
theorem T3.setF {x : Fr} {s t : Value} {A F M : Nat} {w : World} {f1 f2 : Value} {L : List Mem} {e1 u1 e2 u2 : Value} {l1 l2 : List Ent} {wx : World} (h : T3 x s t A F M w f1 f2 L e1 u1 e2 u2 l1 l2 wx) (hF : A + 1 < F) (hw : w.heap.size ≤ F) (v : Value) : T3 x s t A F M w f1 f2 L v u1 e2 u2 l1 l2 (wx.setCell ⟨F, 33, none⟩ v) :=
  ⟨h.a.set_other 33 v (by omega), h.p.set_other 33 v (by omega), h.r.set_other 33 v (Blk.differ h.r h.f (by decide)), h.f.set 33 v _ rfl, h.m.set_other 33 v (Blk.differ h.m h.f (by decide)), h.o1.setB h.f (by decide), h.o2.setB h.f (by decide), h.q1.setB h.f (by decide), h.q2.setB h.f (by decide), h.b.setCell hw v⟩
theorem T3.setM {x : Fr} {s t : Value} {A F M : Nat} {w : World} {f1 f2 : Value} {L : List Mem} {e1 u1 e2 u2 : Value} {l1 l2 : List Ent} {wx : World} (h : T3 x s t A F M w f1 f2 L e1 u1 e2 u2 l1 l2 wx) (hM : A + 2 < M) (hw : w.heap.size ≤ M) (v : Value) : T3 x s t A F M w f1 f2 L e1 u1 v u2 l1 l2 (wx.setCell ⟨M, 33, none⟩ v) :=
  ⟨h.a.set_other 33 v (by omega), h.p.set_other 33 v (Blk.differ h.p h.m (by decide)), h.r.set_other 33 v (by omega), h.f.set_other 33 v (Blk.differ h.f h.m (by decide)), h.m.set 33 v _ rfl, h.o1.setB h.m (by decide), h.o2.setB h.m (by decide), h.q1.setB h.m (by decide), h.q2.setB h.m (by decide), h.b.setCell hw v⟩
def EntTold (x : Fr) (s t : Value) (A F M : Nat) (w : World) (f1 f2 : Value) (L : List Mem) (n : Nat) (i : Value) (wr : World) : Prop :=
  ∃ (k : Nat) (u1 u2 : Value), k ≤ n ∧ k ≤ 18 ∧ i = .int .i64 k ∧ T3 x s t A F M w f1 f2 L u1 u1 u2 u2 (x.es.take k) (x.es.take k) wr
abbrev entA (y : Ent) : Array Value := #[.int .u32 y.s, .int .u32 y.n, .int .u8 y.b, .int .u8 y.c.k, .int .u8 y.c.n, .int .u8 y.c.l, .int .u32 y.c.e, .int .u32 y.c.r]
theorem yieldsIf_load_row {P : Program} {ops : Array Oper} {S : World → Prop} {o : Oper} {a : Act} (hgd : o.guard = none) (ty : TypeId) (x : Operand) (ho : o.op = .load ty x) (g : Nat) (hx : a.eval x = .pointer (some ⟨g, 0, none⟩)) (t : TypeId) (cs : Array Value) (fr : Nat × Nat) (d : TypeDesc)
    (hg : ∀ w, S w → w.heap[g]? = some (.cells cs t fr)) (hu : P.underlying ty = some d) (hd : (match d with | .struct _ | .array _ _ => true | _ => false) = true) (hi : (P.info? ty).map (·.size) = some cs.size) : YieldsIf P ops S o (.agg cs) a := by
  refine .inl ⟨by simp [Region.wanted, hgd], fun w hS => ?_⟩
  unfold execOp
  simp only [ho, hx, Instr.loadAt, Instr.sureAddr, Sem.run_bind, Sem.run_pure, Result.andThen_ok, run_loadVar_row w g t ty cs fr d (hg w hS) hu hd hi]
set_option maxRecDepth 20000 in
/-- What told leaves at its end. -/
theorem T3.toldP {x : Fr} {s t : Value} {A F M : Nat} {w : World} {f1 f2 : Value} {u1 u2 : Value} {wx : World} (h : T3 x s t A F M w f1 f2 (x.ms.take 10) u1 u1 u2 u2 (x.es.take 18) (x.es.take 18) wx) (hA : A = w.heap.size) :
    ToldP (toldF x) w (.returned (.tuple #[.agg (frC x f1 u1), .agg (frC x f2 u2)])) ((wx.setRow (A + 1) (frC x f1 u1)).setRow (A + 2) (frC x f2 u2)) :=
  have h1 : A + 1 ≠ A + 2 := by omega
  ⟨f1, u1, f2, u2, rfl, below_sr (below_sr h.b (by omega) _) (by omega) _,
   (own_setRow (own_setRow h.o1 h.p (by decide) _) (Blk.setRow_other h.r (by omega) _) (by decide) _).at,
   (own_setRow (own_setRow h.q1 h.p (by decide) _) (Blk.setRow_other h.r (by omega) _) (by decide) _).at,
   (own_setRow (own_setRow h.o2 h.p (by decide) _) (Blk.setRow_other h.r (by omega) _) (by decide) _).at,
   (own_setRow (own_setRow h.q2 h.p (by decide) _) (Blk.setRow_other h.r (by omega) _) (by decide) _).at⟩
end Go.Proofs.YtodajejjhfpdmaaDoor
