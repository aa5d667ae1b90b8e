/-
  The document's reading of one field: what holds in its memory; its end.
-/
import Derived.Test.YtodajejjhfpdmaaDoorFrfM
import Derived.Test.YtodajejjhfpdmaaDoorFrdG
import Derived.Test.YtodajejjhfpdmaaDoorOrd
import Derived.Test.YtodajejjhfpdmaaDoorFrlT
import Derived.Deep.CutBlock
namespace Go.Proofs.YtodajejjhfpdmaaDoor
open Go.RowKit Go.Instr

/-- The reading of a field: its state, its frame, the places of the two results. -/
structure RF (w : World) (z : Zs) (f : Fr) (s t : Value) (wx : World) : Prop where
  zb : Blk wx w.heap.size (zC z) 107
  xb : Blk wx (w.heap.size + 1) (frC f s t) 52
  rb : Blk wx (w.heap.size + 2) z0C 107
  qb : Blk wx (w.heap.size + 3) z34 52
  bw : Below w.heap.size w wx
  good : z.ok
theorem RF.start {w : World} {z : Zs} {f : Fr} {s t : Value} (hz : z.ok) : RF w z f s t ((((w.alloc (.cells (zC z) 107)).alloc (.cells (frC f s t) 52)).alloc (.cells z0C 107)).alloc (.cells z34 52)) := by
  have X1 : Blk (w.alloc (.cells (zC z) 107)) w.heap.size (zC z) 107 := Blk.new rfl
  have X2 : Blk ((w.alloc (.cells (zC z) 107)).alloc (.cells (frC f s t) 52)) (w.heap.size + 1) (frC f s t) 52 := Blk.new (by simp)
  have X3 : Blk (((w.alloc (.cells (zC z) 107)).alloc (.cells (frC f s t) 52)).alloc (.cells z0C 107)) (w.heap.size + 2) z0C 107 := Blk.new (by simp)
  exact ⟨((X1.alloc _).alloc _).alloc _, (X2.alloc _).alloc _, X3.alloc _, Blk.new (by simp), by go_grown, hz⟩
theorem RF.on {w wx wy : World} {z : Zs} {f : Fr} {s t : Value} (h : RF w z f s t wx) (hB : Below wx.heap.size wx wy) : RF w z f s t wy :=
  ⟨h.zb.on hB, h.xb.on hB, h.rb.on hB, h.qb.on hB, m_below_on h.bw hB, h.good⟩
theorem RF.setz {w wx : World} {z z' : Zs} {f : Fr} {s t : Value} (h : RF w z f s t wx) (hok : z'.ok) : RF w z' f s t (wx.setRow w.heap.size (zC z')) := by
  have hg := grown_setRow wx w.heap.size (zC z')
  exact ⟨setRow_blk _ h.zb, h.xb.grown hg (fun e => by have := Option.some.inj e; omega), h.rb.grown hg (fun e => by have := Option.some.inj e; omega), h.qb.grown hg (fun e => by have := Option.some.inj e; omega), below_sr h.bw (Nat.le_refl _) _, hok⟩
theorem RF.setf {w wx : World} {z : Zs} {f f' : Fr} {s t s' t' : Value} (h : RF w z f s t wx) (j : Nat) (v : Value) (e : (frC f s t).setIfInBounds j v = frC f' s' t') : RF w z f' s' t' (wx.setCell ⟨w.heap.size + 1, j, none⟩ v) :=
  ⟨h.zb.set_other j v (by omega), h.xb.set j v _ e, h.rb.set_other j v (by omega), h.qb.set_other j v (by omega), h.bw.setCell (p := ⟨w.heap.size + 1, j, none⟩) (Nat.le_succ _) v, h.good⟩
theorem zC_one (z : Zs) : (zC z).all (fun v => v.oneCell') = true := by simp [Value.oneCell']
/-- What the reading of a field leaves. -/
def RFieldP (c : Nat) (p : Fr × Zs) (s t : Value) (b0 : Nat) (w : World) (e : Ending) (w' : World) : Prop :=
  ∃ s' t', e = .returned (.tuple #[.agg (zC p.2), .agg (frC p.1 s' t')]) ∧ Below w.heap.size w w' ∧ memR.Own 77 w' b0 s' p.1.ms ∧ entR.Own 83 w' b0 t' p.1.es ∧ p.2.ok ∧ (c ≠ 119 → s' = s) ∧ (c ≠ 116 → t' = t)
theorem frC_1s (f : Fr) (s t : Value) (hs : s.oneCell' = true) (ht : t.oneCell' = true) : (frC f s t).all (fun v => v.oneCell') = true := by simp [Value.oneCell'] at *; exact ⟨hs, ht⟩
theorem own_1 {α : Type} {R : RK α} {E : TypeId} {w : World} {b : Nat} {v : Value} {l : List α} (h : R.Own E w b v l) : v.oneCell' = true := by
  rcases h.2 with ⟨rfl, _⟩ | ⟨g, cap, cur, rfl, _⟩ <;> rfl
theorem RF.setz1 {w wx : World} {z z' : Zs} {f : Fr} {s t : Value} (h : RF w z f s t wx) (hok : z'.ok) (j : Nat) (v : Value) (e : (zC z).setIfInBounds j v = zC z') : RF w z' f s t (wx.setCell ⟨w.heap.size, j, none⟩ v) :=
  ⟨h.zb.set j v _ e, h.xb.set_other j v (by omega), h.rb.set_other j v (by omega), h.qb.set_other j v (by omega), h.bw.setCell (p := ⟨w.heap.size, j, none⟩) (Nat.le_refl _) v, hok⟩
theorem RF.grown {w wx wy : World} {z : Zs} {f : Fr} {s t : Value} (h : RF w z f s t wx) {row : Option Nat} (hg : wx.grownBy wy row) (hz : row ≠ some w.heap.size) (hx : row ≠ some (w.heap.size + 1)) (hr : row ≠ some (w.heap.size + 2)) (hq : row ≠ some (w.heap.size + 3)) (hb : ∀ k, row = some k → w.heap.size ≤ k) : RF w z f s t wy :=
  ⟨h.zb.grown hg (Ne.symm hz), h.xb.grown hg (Ne.symm hx), h.rb.grown hg (Ne.symm hr), h.qb.grown hg (Ne.symm hq), h.bw.grown hg h.bw.size hb, h.good⟩
theorem loadRow_r {P : Program} {o : Oper} {a : Act} (ty : TypeId) (x : Operand) (ho : o.op = .load ty x) (g : Nat) (hx : a.eval x = .pointer (some ⟨g, 0, none⟩)) (t : TypeId) (cs : Array Value) (fr : Nat × Nat) (d : TypeDesc) {w : World}
    (hg : w.heap[g]? = some (.cells cs t fr)) (hu : P.underlying ty = some d) (hd : (match d with | .struct _ | .array _ _ => true | _ => false) = true) (hi : (P.info? ty).map (·.size) = some cs.size) : (execOp a.eval o).run P w = .ok (.value (.agg cs)) w := by
  unfold execOp
  simp only [ho, hx, Instr.loadAt, Instr.sureAddr, Sem.run_bind, Sem.run_pure, Result.andThen_ok, run_loadVar_row w g t ty cs fr d hg hu hd hi]
theorem put_ne {a : Act} {d x : Tmp} {v : Value} (h : x ≠ d) : (a.put (some d) v).eval (.tmp x) = a.eval (.tmp x) := by
  show (a.tmps.setIfInBounds d v).getD x undef = a.tmps.getD x undef
  simp [Array.getD_eq_getD_getElem?, Array.getElem?_setIfInBounds_ne (Ne.symm h)]
theorem put_eq {a : Act} {d : Tmp} {v : Value} (h : d < a.tmps.size) : (a.put (some d) v).eval (.tmp d) = v := by
  show (a.tmps.setIfInBounds d v).getD d undef = v
  simp [Array.getD_eq_getD_getElem?, h]
theorem put_size {a : Act} {d : Tmp} {v : Value} : (a.put (some d) v).tmps.size = a.tmps.size := by
  show (a.tmps.setIfInBounds d v).size = _
  simp
abbrev ret37 : Array Oper := #[{ dst := some 319, op := Op.load 107 (Operand.tmp 3), type := 107, pos := "ref.go:262", after := #[], guard := none },
      { dst := some 320, op := Op.load 52 (Operand.tmp 4), type := 52, pos := "ref.go:262", after := #[{ on := 2, ground := Ground.gcOnly Departure.lateStores }], guard := none },
      { dst := none, op := Op.store 107 (Operand.tmp 6) (Operand.tmp 319), type := 0, pos := "ref.go:262", after := #[{ on := 0, ground := Ground.data }, { on := 0, ground := Ground.phase }, { on := 1, ground := Ground.textOnly Departure.lateStores }], guard := none },
      { dst := none, op := Op.store 52 (Operand.tmp 7) (Operand.tmp 320), type := 0, pos := "ref.go:262", after := #[{ on := 1, ground := Ground.data }, { on := 2, ground := Ground.chain }, { on := 0, ground := Ground.phase }, { on := 1, ground := Ground.phase }, { on := 2, ground := Ground.phase }], guard := none }]
/-- The results of the reading of a field are laid. -/
theorem ret_region {w v : World} {z : Zs} {f : Fr} {s t : Value} {a : Act} {Q : Exit → Act → World → Prop} (h : RF w z f s t v) (hs : s.oneCell' = true) (ht : t.oneCell' = true) (hsz : 320 < a.tmps.size)
    (h3 : a.eval (.tmp 3) = .pointer (some ⟨w.heap.size, 0, none⟩)) (h4 : a.eval (.tmp 4) = .pointer (some ⟨w.heap.size + 1, 0, none⟩)) (h6 : a.eval (.tmp 6) = .pointer (some ⟨w.heap.size + 2, 0, none⟩)) (h7 : a.eval (.tmp 7) = .pointer (some ⟨w.heap.size + 3, 0, none⟩))
    (hp : ∀ c a' (d : Tmp) u w', Q (.panic c) (Act.put a' (some d) u) w' → Q (.panic c) a' w')
    (hQ : ∀ a' v', a'.eval (.tmp 6) = .pointer (some ⟨w.heap.size + 2, 0, none⟩) → a'.eval (.tmp 7) = .pointer (some ⟨w.heap.size + 3, 0, none⟩) → a'.defers = a.defers → v'.heap[w.heap.size + 2]? = some (.cells (zC z) 107 (0, 0)) → v'.heap[w.heap.size + 3]? = some (.cells (frC f s t) 52 (0, 0)) → Below w.heap.size w v' → (∀ k, k ≠ w.heap.size + 2 → k ≠ w.heap.size + 3 → v'.heap[k]? = v.heap[k]?) → Q .normal a' v') :
    (Code.region 76 ret37 true).wp Tryd.prog Q a v := by
  have RZ := blk_raw h.zb
  have RX := blk_raw h.xb
  have RR := blk_raw h.rb
  have hq2 : w.heap.size + 3 ≠ w.heap.size + 2 := by omega
  have hq3 : w.heap.size ≠ w.heap.size + 2 := by omega
  have hq4 : w.heap.size + 1 ≠ w.heap.size + 2 := by omega
  have RQ := (setRow_other v.drew (w.heap.size + 2) (w.heap.size + 3) (zC z) hq2).trans (blk_raw h.qb)
  have OZ := zC_one z
  have OX := frC_1s f s t hs ht
  have S1 := (setRow_other v.drew (w.heap.size + 2) w.heap.size (zC z) hq3).trans RZ
  have S2 := (setRow_other v.drew (w.heap.size + 2) (w.heap.size + 1) (zC z) hq4).trans RX
  have RQ2 := setRow_blk (frC f s t) (show Blk ((v.drew).setRow (w.heap.size + 2) (zC z)) (w.heap.size + 3) z34 52 from RQ)
  have RR2 := (setRow_other ((v.drew).setRow (w.heap.size + 2) (zC z)) (w.heap.size + 3) (w.heap.size + 2) (frC f s t) hq2.symm).trans (blk_raw (setRow_blk (zC z) (show Blk v.drew (w.heap.size + 2) z0C 107 from RR)))
  have SB := below_sr (below_sr (show Below w.heap.size w v.drew from h.bw.drew) (Nat.le_add_right _ 2) (zC z)) (Nat.le_add_right _ 3) (frC f s t)
  refine WalkS.begin (fun w' => w'.heap[w.heap.size]? = some (.cells (zC z) 107 (0, 0)) ∧ w'.heap[w.heap.size + 1]? = some (.cells (frC f s t) 52 (0, 0))) [3] (by kernel_rfl) ⟨RZ, RX⟩ ?_
  simp only [List.size_toArray, List.length_cons, List.length_nil, Nat.zero_add, Nat.reduceAdd, show Array.replicate 4 false = #[false, false, false, false] from rfl]
  refine WalkS.take 0 _ (v := .agg (zC z)) rfl (by kernel_rfl) (by kernel_rfl) (by kernel_rfl) (by kernel_rfl) (by kernel_rfl) (fun c a w h => hp c a _ _ w h) (Or.inl ⟨by rfl, fun w9 h9 => loadRow_r 107 (.tmp 3) rfl w.heap.size h3 107 (zC z) (0, 0) _ h9.1 Tryd.underlying107 rfl (by kernel_rfl)⟩) ?_
  have h4' : (a.put (some 319) (.agg (zC z))).eval (.tmp 4) = .pointer (some ⟨w.heap.size + 1, 0, none⟩) := (put_ne (by decide)).trans h4
  refine WalkS.take 1 _ (v := .agg (frC f s t)) rfl (by kernel_rfl) (by kernel_rfl) (by kernel_rfl) (by kernel_rfl) (by kernel_rfl) (fun c a w h => hp c a _ _ w h) (Or.inl ⟨by rfl, fun w9 h9 => loadRow_r 52 (.tmp 4) rfl (w.heap.size + 1) h4' 52 (frC f s t) (0, 0) _ h9.2 Tryd.underlying52 rfl (by kernel_rfl)⟩) ?_
  show WalkS _ _ _ _ _ _ _ _ ((a.put (some 319) (.agg (zC z))).put (some 320) (.agg (frC f s t))) _
  obtain ⟨b, hb⟩ : ∃ b, b = (a.put (some 319) (.agg (zC z))).put (some 320) (.agg (frC f s t)) := ⟨_, rfl⟩
  have b6 : b.eval (.tmp 6) = .pointer (some ⟨w.heap.size + 2, 0, none⟩) := by rw [hb]; exact (put_ne (by decide)).trans ((put_ne (by decide)).trans h6)
  have b7 : b.eval (.tmp 7) = .pointer (some ⟨w.heap.size + 3, 0, none⟩) := by rw [hb]; exact (put_ne (by decide)).trans ((put_ne (by decide)).trans h7)
  have b319 : b.eval (.tmp 319) = .agg (zC z) := by rw [hb]; exact (put_ne (by decide)).trans (put_eq (a := a) (d := 319) (Nat.lt_of_succ_lt hsz))
  have b320 : b.eval (.tmp 320) = .agg (frC f s t) := by rw [hb]; exact put_eq (d := 320) (by rw [put_size]; exact hsz)
  have bd : b.defers = a.defers := by rw [hb]; rfl
  rw [← hb]
  clear hb h4'
  refine WalkS.each [2] (by kernel_rfl) rfl ?_
  refine EachS.cons 2 _ rfl (fun K hK => ?s1) EachS.nil
  refine wp_store_row 107 (.tmp 6) (.tmp 319) rfl (w.heap.size + 2) (zC z) b6 b319 107 z0C RR (by kernel_rfl) rfl OZ ?_
  refine hK.out _ _ (fun _ => ⟨S1, S2⟩) ?_
  clear hK K
  refine WalkS.each [3] (by kernel_rfl) rfl ?_
  refine EachS.cons 3 _ rfl (fun K hK => ?s2) EachS.nil
  refine wp_store_row 52 (.tmp 7) (.tmp 320) rfl (w.heap.size + 3) (frC f s t) b7 b320 52 z34 RQ (by kernel_rfl) rfl OX ?_
  refine hK.out _ _ (fun h => absurd h (by decide)) ?_
  clear hK K
  refine WalkS.done (by kernel_rfl) ?_
  exact hQ _ _ b6 b7 bd RR2 RQ2 SB (fun k h2 h3 => (setRow_other _ _ _ _ h3).trans (setRow_other v.drew _ _ _ h2))
theorem empty_dec (t : ByteArray) : t.toList.isEmpty = decide (t.size = 0) := by
  rw [ByteArray.toList_eq, Bool.eq_iff_iff, List.isEmpty_iff, decide_eq_true_iff]
  have hl : t.data.toList.length = t.size := rfl
  rw [← hl, List.length_eq_zero_iff]
/-- A round of a loop besides: the block of what is read. -/
structure RG (w : World) (z : Zs) (f : Fr) (s t : Value) (M : Nat) (T : TypeId) (cs : Array Value) (wx : World) : Prop where
  rf : RF w z f s t wx
  mb : Blk wx M cs T
  gt : w.heap.size + 3 < M
theorem RG.on {w wx wy : World} {z : Zs} {f : Fr} {s t : Value} {M : Nat} {T : TypeId} {cs : Array Value} (h : RG w z f s t M T cs wx) (hB : Below wx.heap.size wx wy) : RG w z f s t M T cs wy := ⟨h.rf.on hB, h.mb.on hB, h.gt⟩
theorem RG.setz {w wx : World} {z z' : Zs} {f : Fr} {s t : Value} {M : Nat} {T : TypeId} {cs : Array Value} (h : RG w z f s t M T cs wx) (hok : z'.ok) : RG w z' f s t M T cs (wx.setRow w.heap.size (zC z')) :=
  ⟨h.rf.setz hok, h.mb.grown (grown_setRow wx w.heap.size (zC z')) (fun e => by have := Option.some.inj e; have := h.gt; omega), h.gt⟩
theorem RG.setm {w wx : World} {z : Zs} {f : Fr} {s t : Value} {M : Nat} {T : TypeId} {cs cs' : Array Value} (h : RG w z f s t M T cs wx) (j : Nat) (v : Value) (e : cs.setIfInBounds j v = cs') : RG w z f s t M T cs' (wx.setCell ⟨M, j, none⟩ v) := by
  have hg := h.gt
  exact ⟨⟨h.rf.zb.set_other j v (by omega), h.rf.xb.set_other j v (by omega), h.rf.rb.set_other j v (by omega), h.rf.qb.set_other j v (by omega), h.rf.bw.setCell (p := ⟨M, j, none⟩) (Nat.le_of_lt (by show w.heap.size < M; omega)) v, h.rf.good⟩, h.mb.set j v _ e, hg⟩
theorem RF.al {w wx : World} {z : Zs} {f : Fr} {s t : Value} (h : RF w z f s t wx) (o : Obj) : RF w z f s t (wx.alloc o) := h.on (by go_grown)
theorem RF.row {α : Type} {R : RK α} {E : TypeId} {w wx wy : World} {z : Zs} {f : Fr} {s t v : Value} {l : List α} (h : RF w z f s t wx) (ho : R.Own E wx w.heap.size v l) (h1 : E ≠ 107) (h2 : E ≠ 52) (hg : wx.grownBy wy v.ownBlock) : RF w z f s t wy :=
  h.grown hg (own_ne ho h.zb h1) (own_ne ho h.xb h2) (own_ne ho h.rb h1) (own_ne ho h.qb h2) (fun k hk => (World.ownsRow.lt ho k hk).1)
theorem own_set {α : Type} {R : RK α} {E : TypeId} {w : World} {b : Nat} {v : Value} {l : List α} {B : Nat} {cs : Array Value} {T : TypeId} (h : R.Own E w b v l) (hb : Blk w B cs T) (hT : E ≠ T) (j : Nat) (u : Value) : R.Own E (w.setCell ⟨B, j, none⟩ u) b v l :=
  h.block fun g hg => Below.heap_setCell w ⟨B, j, none⟩ u g (fun e => own_ne h hb hT (by rw [hg, e]))
theorem newsC {α : Type} {R : RK α} {w : World} {X : Nat} {x : α} {cs : Array Value} {T : TypeId} (h : Blk w X cs T) (e : cs = (R.f x).toArray) : ∀ j u, (R.f x)[j]? = some u → w.cell? ((⟨X, 0, none⟩ : Addr).add j) = some u := by
  intro j u hu
  have ea : (⟨X, 0, none⟩ : Addr).add j = ⟨X, j, none⟩ := by unfold Addr.add; split <;> simp_all
  rw [ea, h.cell j, e]
  simpa using hu
def REntLoop (w : World) (f1 : Fr) (s : Value) (nS : Nat) (zS : Zs) (i : Value) (wr : World) : Prop :=
  ∃ (k : Nat) (zk : Zs) (lk : List Ent) (v : Value), k ≤ nS ∧ i = .int .u32 k ∧ lk.length = k ∧ RF w zk { f1 with es := lk } s v wr ∧ entR.Own 83 wr w.heap.size v lk ∧ rEnts (nS - k) zk lk = rEnts nS zS []
def RMemLoop (w : World) (f1 : Fr) (t : Value) (nS : Nat) (zS : Zs) (i : Value) (wr : World) : Prop :=
  ∃ (k : Nat) (zk : Zs) (lk : List Mem) (v : Value), k ≤ nS ∧ i = .int .u32 k ∧ lk.length = k ∧ RF w zk { f1 with ms := lk } v t wr ∧ memR.Own 77 wr w.heap.size v lk ∧ rMems (nS - k) zk lk = rMems nS zS []
def RMemEnd (w : World) (f1 : Fr) (t : Value) (nS : Nat) (zS : Zs) (wr : World) : Prop :=
  ∃ (zk : Zs) (lk : List Mem) (v : Value), RF w zk { f1 with ms := lk } v t wr ∧ memR.Own 77 wr w.heap.size v lk ∧ rMems nS zS [] = (zk, lk)
theorem rEnts_go {n k : Nat} {z : Zs} {l : List Ent} (hk : k < n) (he : z.err = 0) : rEnts (n - k) z l = rEnts (n - (k + 1)) (rEnt z).1 (l ++ [(rEnt z).2]) := by
  obtain ⟨m, hm⟩ : ∃ m, n - k = m + 1 := ⟨n - k - 1, by omega⟩
  have hm2 : n - (k + 1) = m := by omega
  rw [hm, hm2]
  show (if z.err = 0 then _ else _) = _
  rw [if_pos he]
theorem rMems_go {n k : Nat} {z : Zs} {l : List Mem} (hk : k < n) (he : z.err = 0) : rMems (n - k) z l = rMems (n - (k + 1)) (rMem z).1 (l ++ [(rMem z).2]) := by
  obtain ⟨m, hm⟩ : ∃ m, n - k = m + 1 := ⟨n - k - 1, by omega⟩
  have hm2 : n - (k + 1) = m := by omega
  rw [hm, hm2]
  show (if z.err = 0 then _ else _) = _
  rw [if_pos he]
abbrev z8E : Array Value := #[.int .u32 0, .int .u32 0, .int .u8 0, .int .u8 0, .int .u8 0, .int .u8 0, .int .u32 0, .int .u32 0]
theorem own_setne {α : Type} {R : RK α} {E : TypeId} {w : World} {b : Nat} {v : Value} {l : List α} {B : Nat} (h : R.Own E w b v l) (hne : v.ownBlock ≠ some B) (j : Nat) (u : Value) : R.Own E (w.setCell ⟨B, j, none⟩ u) b v l :=
  h.block fun g hg => Below.heap_setCell w ⟨B, j, none⟩ u g (fun e => hne (by rw [hg, e]))
theorem own_fresh_ne {α : Type} {R : RK α} {E : TypeId} {w : World} {b : Nat} {v : Value} {l : List α} (h : R.Own E w b v l) : v.ownBlock ≠ some w.heap.size := fun e => Nat.lt_irrefl _ (World.ownsRow.lt h _ e).2
theorem own_kept {α : Type} {R : RK α} {E : TypeId} {w v v' : World} {z : Zs} {f : Fr} {s t u : Value} {b : Nat} {l : List α} (h : R.Own E v b u l) (hr : RF w z f s t v) (h1 : E ≠ 107) (h2 : E ≠ 52) (hk : ∀ k, k ≠ w.heap.size + 2 → k ≠ w.heap.size + 3 → v'.heap[k]? = v.heap[k]?) : R.Own E v' b u l :=
  h.block fun g hg => hk g (fun e => own_ne h hr.rb h1 (by rw [hg, e])) (fun e => own_ne h hr.qb h2 (by rw [hg, e]))
/-- Lives of which the first have been read. -/
def lvLs (l : Lv) : List Nat := [l.a, l.b, l.c, l.d, l.e, l.f, l.g, l.h]
def lvPut (l : Lv) (ns : List Nat) : Lv := lvOfL (ns ++ (lvLs l).drop ns.length)
theorem lvPut_nil (l : Lv) : lvPut l [] = l := rfl
theorem lvPut_all (l : Lv) (ns : List Nat) (h : ns.length = 8) : lvPut l ns = lvOfL ns := by
  unfold lvPut
  rw [List.drop_of_length_le (by rw [h]; exact Nat.le_refl 8), List.append_nil]
def lvCell (l : Lv) (k : Nat) : Value := .int .u8 ((lvLs l).getD k 0 : Nat)
theorem lv_cell (f : Fr) (l : Lv) (s t : Value) {k : Nat} (hk : k < 8) : (frC { f with lv := l } s t)[25 + k]? = some (lvCell l k) := by
  have hc : k = 0 ∨ k = 1 ∨ k = 2 ∨ k = 3 ∨ k = 4 ∨ k = 5 ∨ k = 6 ∨ k = 7 := by omega
  rcases hc with rfl | rfl | rfl | rfl | rfl | rfl | rfl | rfl <;> rfl
theorem lv_set (f : Fr) (l : Lv) (s t : Value) (ns : List Nat) (n : Nat) {k : Nat} (hl : ns.length = k) (hk : k < 8) : (frC { f with lv := lvPut l ns } s t).setIfInBounds (25 + k) (.int .u8 n) = frC { f with lv := lvPut l (ns ++ [n]) } s t := by
  subst hl
  match ns, hk with
  | [], _ => rfl
  | [_], _ => rfl
  | [_, _], _ => rfl
  | [_, _, _], _ => rfl
  | [_, _, _, _], _ => rfl
  | [_, _, _, _, _], _ => rfl
  | [_, _, _, _, _, _], _ => rfl
  | [_, _, _, _, _, _, _], _ => rfl
  | _ :: _ :: _ :: _ :: _ :: _ :: _ :: _ :: _, h => exact absurd h (by simp only [List.length_cons]; omega)
def RLvLoop (w : World) (f1 : Fr) (s t : Value) (zE : Zs) (i : Value) (wr : World) : Prop :=
  ∃ (k : Nat) (zk : Zs) (ns : List Nat), k ≤ 8 ∧ i = .int .i64 k ∧ ns.length = k ∧ RF w zk { f1 with lv := lvPut f1.lv ns } s t wr ∧ rLv 8 zE = ((rLv (8 - k) zk).1, ns ++ (rLv (8 - k) zk).2)
end Go.Proofs.YtodajejjhfpdmaaDoor
