/-
  Words over every program: blocks of the memory, rows of elements of several cells each, rows of the call's own, regions that draw their order and keep all that was there.
-/
import Derived.WalkKit
import Derived.WalkSpells
import Derived.WalkLawsBesides
import Derived.Laws.BitsAllLaws
import Derived.Laws.BytesArg
import Derived.Lib.Hide
import Derived.Handy
import Derived.RegionTactic
import Derived.ChangeAlike
import Derived.Deep.RegionWith
import Derived.Deep.RegionHeld3
import Derived.Deep.QuietTactic
import Derived.BigQuiet
import Derived.IntWalk
import Derived.OwnWalk
import Derived.Deep.AppendLies
import Derived.Deep.RegionLaw
import Derived.Lib.SliceRun
import Derived.Deep.MidRow
import Derived.Deep.DeepCutAuto
import Derived.BigRegion
import Derived.Test.YtodajejjhfpdmaaDoorOwn
namespace Go.Proofs.YtodajejjhfpdmaaDoor
open Go.RowKit Go.Instr

theorem m_below_on {w w1 w2 : World} (h1 : Below w.heap.size w w1) (h2 : Below w1.heap.size w1 w2) : Below w.heap.size w w2 := h1.trans (h2.mono h1.size)
theorem below_eq {w w' : World} (h : w = w') : Below w.heap.size w w' := by subst h; exact Below.refl _ _
theorem rbool {a b : Bool} (h : a = b) : Ending.returned (.bool a) = .returned (.bool b) := by rw [h]
theorem rint {k : IntKind} {a b : Int} (h : a = b) : Ending.returned (.int k a) = .returned (.int k b) := by rw [h]
/-- Block B of the memory is known whole. -/
def Blk (w : World) (B : Nat) (cs : Array Value) (T : TypeId) : Prop := w.heap[B]? = some (.cells cs T)
theorem Blk.cell {w : World} {B : Nat} {cs : Array Value} {T : TypeId} (h : Blk w B cs T) (j : Nat) : w.cell? ⟨B, j, none⟩ = cs[j]? := cell_of_row w B j _ T (0, 0) h
theorem Blk.frozen {w : World} {B : Nat} {cs : Array Value} {T : TypeId} (h : Blk w B cs T) (j : Nat) : w.frozen? ⟨B, j, none⟩ = false := by
  unfold World.frozen?
  rw [h]
  simp
theorem Blk.lt {w : World} {B : Nat} {cs : Array Value} {T : TypeId} (h : Blk w B cs T) : B < w.heap.size := (Array.getElem?_eq_some_iff.1 h).1
theorem Blk.below {w w' : World} {B k : Nat} {cs : Array Value} {T : TypeId} (h : Blk w B cs T) (hB : Below k w w') (hk : B < k) : Blk w' B cs T := (hB.block B hk).trans h
theorem Blk.on {w w' : World} {B : Nat} {cs : Array Value} {T : TypeId} (h : Blk w B cs T) (hB : Below w.heap.size w w') : Blk w' B cs T := h.below hB h.lt
theorem Blk.alloc {w : World} {B : Nat} {cs : Array Value} {T : TypeId} (h : Blk w B cs T) (o : Obj) : Blk (w.alloc o) B cs T := by
  have := Below.heap_alloc w o B h.lt
  exact this.trans h
theorem Blk.new {w : World} {B : Nat} {cs : Array Value} {T : TypeId} (h : B = w.heap.size) : Blk (w.alloc (.cells cs T)) B cs T := by
  subst h; exact heap_alloc_new w _
theorem Blk.dr {w : World} {B : Nat} {cs : Array Value} {T : TypeId} (h : Blk w B cs T) : Blk w.drew B cs T := h
theorem Blk.set {w : World} {B : Nat} {cs : Array Value} {T : TypeId} (h : Blk w B cs T) (j : Nat) (v : Value) (cs' : Array Value) (hcs : cs.setIfInBounds j v = cs') : Blk (w.setCell ⟨B, j, none⟩ v) B cs' T := by
  unfold Blk at h ⊢
  subst hcs
  simp [World.setCell, Array.getElem?_modify, h]
theorem Blk.set_other {w : World} {B C : Nat} {cs : Array Value} {T : TypeId} (h : Blk w B cs T) (j : Nat) (v : Value) (hne : B ≠ C) : Blk (w.setCell ⟨C, j, none⟩ v) B cs T := by
  exact (Below.heap_setCell w ⟨C, j, none⟩ v B hne).trans h
theorem Blk.grown {w w' : World} {B : Nat} {cs : Array Value} {T : TypeId} {row : Option Nat} (h : Blk w B cs T) (hg : w.grownBy w' row) (hne : some B ≠ row) : Blk w' B cs T := (hg.block B h.lt hne).trans h
theorem Blk.differ {w : World} {A B : Nat} {cs cs' : Array Value} {T T' : TypeId} (h : Blk w A cs T) (h' : Blk w B cs' T') (hT : T ≠ T') : A ≠ B := by
  rintro rfl
  have := (show w.heap[A]? = _ from h).symm.trans h'
  simp only [Option.some.injEq, Obj.cells.injEq] at this
  exact hT this.2.1
/-- All that lies below a bound is as it was, but for block B. -/
def KB (base B : Nat) (w w' : World) : Prop := Below (min base B) w w' ∧ ∀ k, k < base → k ≠ B → w'.heap[k]? = w.heap[k]?
theorem KB.of_below {base B : Nat} {w w' : World} (h : Below base w w') : KB base B w w' := ⟨h.mono (Nat.min_le_left _ _), fun k hk _ => h.block k hk⟩
theorem KB.trans {base B : Nat} {w w1 w2 : World} (h : KB base B w w1) (h' : KB base B w1 w2) : KB base B w w2 := ⟨h.1.trans h'.1, fun k hk hn => (h'.2 k hk hn).trans (h.2 k hk hn)⟩
theorem KB.set {base B j : Nat} {w w' : World} {v : Value} (h : KB base B w w') : KB base B w (w'.setCell ⟨B, j, none⟩ v) :=
  ⟨h.1.trans ((Below.refl _ w').setCell (p := ⟨B, j, none⟩) (Nat.min_le_right _ _) v), fun k hk hn => (Below.heap_setCell w' ⟨B, j, none⟩ v k hn).trans (h.2 k hk hn)⟩
theorem KB.setHi {base B g j : Nat} {w w' : World} {v : Value} (h : KB base B w w') (hg : base ≤ g) : KB base B w (w'.setCell ⟨g, j, none⟩ v) :=
  ⟨h.1.trans ((Below.refl _ w').setCell (p := ⟨g, j, none⟩) (Nat.le_trans (Nat.min_le_left _ _) hg) v), fun k hk hn => (Below.heap_setCell w' ⟨g, j, none⟩ v k (fun (e : k = g) => by omega)).trans (h.2 k hk hn)⟩
theorem KB.below {base B k : Nat} {w w' : World} (h : KB base B w w') (h1 : k ≤ B) (h2 : k ≤ base) : Below k w w' :=
  ⟨h.1.os, h.1.tape, h.1.output, h.1.size, fun j hj => h.2 j (by omega) (by omega)⟩
theorem KB.mono {base base' B : Nat} {w w' : World} (h : KB base B w w') (hb : base' ≤ base) : KB base' B w w' := ⟨h.1.mono (by omega), fun k hk hn => h.2 k (by omega) hn⟩
theorem Blk.on2 {w w' : World} {base B C : Nat} {cs : Array Value} {T : TypeId} (h : Blk w C cs T) (hB : KB base B w w') (hk : C < base) (hne : C ≠ B) : Blk w' C cs T := (hB.2 C hk hne).trans h
theorem own_ne {w : World} {base : Nat} {e : TypeId} {size : Nat} {v : Value} {n : Nat} {xs : List Value} {k : Nat} {C : Array Value} {T : TypeId} {fr : Nat × Nat}
    (h : w.ownsRow base e size v n xs) (hk : w.heap[k]? = some (.cells C T fr)) (hne : e ≠ T) : v.ownBlock ≠ some k := by
  intro he
  rcases h.2 with ⟨rfl, _⟩ | ⟨g, cap, cur, rfl, _, hg, _⟩
  · simp [Value.ownBlock] at he
  · simp only [Value.ownBlock, Option.some.injEq] at he
    subst he
    rw [hg] at hk
    simp only [Option.some.injEq, Obj.cells.injEq] at hk
    exact hne hk.2.1
theorem own_below {w w1 : World} {base : Nat} {e : TypeId} {size : Nat} {v : Value} {n : Nat} {xs : List Value} (h : w.ownsRow base e size v n xs) (hB : Below w.heap.size w w1) : w1.ownsRow base e size v n xs := by
  refine ⟨h.1, ?_⟩
  rcases h.2 with hn | ⟨g, cap, cur, rfl, hb, hg, rest⟩
  · exact .inl hn
  · exact .inr ⟨g, cap, cur, rfl, hb, (hB.block g (Array.getElem?_eq_some_iff.1 hg).1).trans hg, rest⟩
theorem own_mono {w : World} {b1 b2 : Nat} {e : TypeId} {size : Nat} {v : Value} {n : Nat} {xs : List Value} (h : w.ownsRow b1 e size v n xs) (hb : b2 ≤ b1) : w.ownsRow b2 e size v n xs := by
  refine ⟨h.1, ?_⟩
  rcases h.2 with hn | ⟨g, cap, cur, rfl, hbb, rest⟩
  · exact .inl hn
  · exact .inr ⟨g, cap, cur, rfl, by omega, rest⟩
/-- A row of the call's own reads on in each world in which its block reads as it did. -/
theorem own_block {w w1 : World} {base : Nat} {e : TypeId} {size : Nat} {v : Value} {n : Nat} {xs : List Value} (h : w.ownsRow base e size v n xs) (hB : ∀ g, v.ownBlock = some g → w1.heap[g]? = w.heap[g]?) : w1.ownsRow base e size v n xs := by
  refine ⟨h.1, ?_⟩
  rcases h.2 with hn | ⟨g, cap, cur, rfl, hb, hg, rest⟩
  · exact .inl hn
  · exact .inr ⟨g, cap, cur, rfl, hb, (hB g rfl).trans hg, rest⟩
theorem heap_setCells_ne {g : Nat} : ∀ (vs : List Value) (o : Nat) (w : World) (k : Nat), k ≠ g → (w.setCells g o vs).heap[k]? = w.heap[k]?
  | [], _, _, _, _ => rfl
  | v :: r, o, w, k, hk => by
    rw [World.setCells, heap_setCells_ne r (o + 1) _ k hk]
    exact Below.heap_setCell w ⟨g, o, none⟩ v k hk
theorem below_setCells {B g : Nat} (hg : B ≤ g) : ∀ (vs : List Value) (o : Nat) (w : World), Below B w (w.setCells g o vs)
  | [], _, w => Below.refl B w
  | v :: r, o, w => ((Below.refl B w).setCell (p := ⟨g, o, none⟩) hg v).trans (below_setCells hg r (o + 1) _)
theorem size_setCells {g : Nat} : ∀ (vs : List Value) (o : Nat) (w : World), (w.setCells g o vs).heap.size = w.heap.size
  | [], _, _ => rfl
  | v :: r, o, w => by rw [World.setCells, size_setCells r (o + 1) _]; simp
/-- append to a row of the call's own, as one step of a region that draws its order, where something is appended. -/
theorem step_append_own1 {P : Program} {ops : Array Oper} {o : Oper} {a : Act} {w : World} {K : Act → World → Prop} {Q : Exit → Act → World → Prop} {E : Prop}
    (hg : o.guard = none) (s x : Operand) (t : TypeId)
    (ho : o.op = .call { callee := .builtin .append, args := #[s, x], argTypes := #[t, t] })
    (base : Nat) (e : TypeId) (i : TypeInfo) (z : Value) (size bytes : Nat) (ht : P.underlying t = some (.slice e)) (hi : P.info? e = some i) (hz : i.zero = some z)
    (hsize : i.size = size) (hby : i.bytes = bytes) (hzs : z.cells.size = size) (hsz : 0 < size)
    (v : Value) (n : Nat) (xs : List Value) (hs : a.eval s = v) (hown : w.ownsRow base e size v n xs)
    (ad : Addr) (m c : Nat) (news : List Value) (hx : a.eval x = .slice (some ad) m c) (hl : news.length = m * size) (hnews : ∀ j u, news[j]? = some u → w.cell? (ad.add j) = some u) (h1 : ∀ u ∈ news, u.oneCell' = true)
    (h63 : n + m ≤ maxLen) (hbytes : (n + m) * bytes ≤ 140737488355328) (hbase : base ≤ w.heap.size) (hm : 0 < m)
    (h : ∀ g cap w', base ≤ g → w'.ownsRow base e size (.slice (some ⟨g, 0, none⟩) (n + m) cap) (n + m) (xs ++ news) → w.grownBy w' v.ownBlock → K (a.put o.dst (.slice (some ⟨g, 0, none⟩) (n + m) cap)) w') :
    if Region.wanted o (yielded ops a.tmps) = true then Oper.wp P o a w K Q else E :=
  step_append_own hg s x t ho base e i z size bytes ht hi hz hsize hby hzs hsz v n xs hs hown ad m c news hx hl hnews h1 h63 hbytes hbase fun v' w' h2 h3 _ => by
    rcases h2.2 with ⟨_, hnm⟩ | ⟨g, cap, cur, hv, hb, _⟩
    · omega
    · rw [hv] at h2 ⊢
      exact h g cap w' hb h2 h3
/-- A function by its number is entered. -/
theorem enters_g {P : Program} {f : FuncId} {fn : Func} {c : Code} (hf : P.funcs[f]? = some fn) (hname : (fn.name == "runtime.NumGoroutine") = false) (hb : fn.body = some c) (args : Array Value) (w : World) : (callFunc f args).run P w = .ok (.enter f args) w := by
  have h1 : fn.name ≠ "runtime.NumGoroutine" := by simpa using hname
  simp [callFunc, hf, h1, hb]
/-- A call of a Go function by its contract, as one step of a region that draws its order. -/
theorem step_calls {P : Program} {ops : Array Oper} {o : Oper} {a : Act} {w : World} {K : Act → World → Prop} {Q : Exit → Act → World → Prop} {E : Prop}
    (hg : o.guard = none) (f : FuncId) {fn : Func} {c : Code} (hf : P.funcs[f]? = some fn) (hname : (fn.name == "runtime.NumGoroutine") = false) (hb : fn.body = some c) {xs : Array Operand} {ats : Array TypeId}
    (ho : o.op = .call { callee := .value (.func f), args := xs, argTypes := ats }) (args : Array Value) (hargs : xs.map a.eval = args)
    (h : Calls P f args w fun e w' => ∃ v, e = .returned v ∧ K (a.put o.dst v) w') : if Region.wanted o (yielded ops a.tmps) = true then Oper.wp P o a w K Q else E := by
  have hw : Region.wanted o (yielded ops a.tmps) = true := by simp [Region.wanted, hg]
  rw [if_pos hw]
  have hr : (execOp a.eval o).run P w = .ok (.enter f args) w := by
    subst hargs
    unfold execOp
    simp only [ho, resolve, Act.eval, Deferred.ofValue, invoke, Sem.run_bind, Sem.run_pure, Result.andThen_ok]
    simp [enters_g hf hname hb]
  unfold Oper.wp
  rw [hr]
  exact h.mono fun e w' ⟨v, he, hk⟩ => by subst he; exact hk
theorem step_calls1 {P : Program} {ops : Array Oper} {o : Oper} {a : Act} {w : World} {K : Act → World → Prop} {Q : Exit → Act → World → Prop} {E : Prop}
    (hg : o.guard = none) (f : FuncId) {fn : Func} {c : Code} (hf : P.funcs[f]? = some fn) (hname : (fn.name == "runtime.NumGoroutine") = false) (hb : fn.body = some c) {x : Operand} {ats : Array TypeId}
    (ho : o.op = .call { callee := .value (.func f), args := #[x], argTypes := ats }) (v : Value) (hx : a.eval x = v)
    (h : Calls P f #[v] w fun e w' => ∃ v, e = .returned v ∧ K (a.put o.dst v) w') : if Region.wanted o (yielded ops a.tmps) = true then Oper.wp P o a w K Q else E :=
  step_calls hg f hf hname hb ho #[v] (by simp [hx]) h
theorem step_calls2 {P : Program} {ops : Array Oper} {o : Oper} {a : Act} {w : World} {K : Act → World → Prop} {Q : Exit → Act → World → Prop} {E : Prop}
    (hg : o.guard = none) (f : FuncId) {fn : Func} {c : Code} (hf : P.funcs[f]? = some fn) (hname : (fn.name == "runtime.NumGoroutine") = false) (hb : fn.body = some c) {x y : Operand} {ats : Array TypeId}
    (ho : o.op = .call { callee := .value (.func f), args := #[x, y], argTypes := ats }) (v u : Value) (hx : a.eval x = v) (hy : a.eval y = u)
    (h : Calls P f #[v, u] w fun e w' => ∃ v, e = .returned v ∧ K (a.put o.dst v) w') : if Region.wanted o (yielded ops a.tmps) = true then Oper.wp P o a w K Q else E :=
  step_calls hg f hf hname hb ho #[v, u] (by simp [hx, hy]) h
/-- The cells of a block, as a row of stores leaves them. -/
def putAt (cs : List Value) (o : Nat) : List Value → List Value
  | [] => cs
  | v :: r => putAt (cs.set o v) (o + 1) r
theorem putAt_len (cs : List Value) (vs : List Value) : ∀ o, (putAt cs o vs).length = cs.length := by
  induction vs generalizing cs with
  | nil => intro o; rfl
  | cons v r ih => intro o; rw [putAt, ih]; simp
theorem putAt_eq (vs : List Value) : ∀ (cs : List Value) (o : Nat), o + vs.length ≤ cs.length → putAt cs o vs = cs.take o ++ vs ++ cs.drop (o + vs.length) := by
  induction vs with
  | nil => intro cs o _; simp [putAt]
  | cons v r ih =>
    intro cs o h
    simp only [List.length_cons] at h
    rw [putAt, ih _ _ (by simp; omega)]
    rw [List.take_set, List.drop_set]
    have h1 : ¬ (o + 1 + r.length ≤ o) := by omega
    have ho : o < cs.length := by omega
    rw [if_pos (by omega)]
    have e1 : (cs.take (o + 1)).set o v = cs.take o ++ [v] := by
      rw [List.take_succ_eq_append_getElem ho, List.set_append_right _ _ (by simp; omega)]
      simp [Nat.min_eq_left (Nat.le_of_lt ho)]
    rw [e1]
    simp [Nat.add_assoc, Nat.add_comm 1]
theorem heap_setCells {g : Nat} {T : TypeId} {fz : Nat × Nat} : ∀ (vs : List Value) (o : Nat) (w : World) (cur : Array Value), w.heap[g]? = some (.cells cur T fz) → (w.setCells g o vs).heap[g]? = some (.cells (putAt cur.toList o vs).toArray T fz)
  | [], _, _, cur, h => by simpa [putAt, World.setCells] using h
  | v :: r, o, w, cur, h => by
    rw [World.setCells]
    have h1 : (w.setCell ⟨g, o, none⟩ v).heap[g]? = some (.cells (cur.setIfInBounds o v) T fz) := by
      simp [World.setCell, Array.getElem?_modify, h]
    rw [heap_setCells r (o + 1) _ _ h1]
    simp [putAt]

/-- A kind of elements: their cells. -/
structure RK (α : Type) where
  f : α → List Value
  c : Nat
  pos : 0 < c
  len : ∀ a, (f a).length = c
  one : ∀ a, ∀ u ∈ f a, u.oneCell' = true
section
variable {α : Type} (R : RK α)
def RK.row (l : List α) : List Value := l.flatMap R.f
theorem RK.row_nil : R.row [] = [] := rfl
theorem RK.row_one (a : α) : R.row [a] = R.f a := by simp [RK.row]
theorem RK.row_snoc (l : List α) (a : α) : R.row (l ++ [a]) = R.row l ++ R.f a := by simp [RK.row]
theorem RK.row_app (l k : List α) : R.row (l ++ k) = R.row l ++ R.row k := by simp [RK.row]
theorem RK.row_len (l : List α) : (R.row l).length = l.length * R.c := by
  induction l with
  | nil => simp [RK.row]
  | cons a l ih =>
    have : R.row (a :: l) = R.f a ++ R.row l := rfl
    rw [this, List.length_append, ih, R.len, List.length_cons, Nat.succ_mul]; omega
theorem RK.row_ones (l : List α) : ∀ u ∈ R.row l, u.oneCell' = true := by
  intro u hu
  obtain ⟨m, _, hm⟩ := List.mem_flatMap.1 hu
  exact R.one m u hm
theorem RK.row_at (l : List α) : ∀ (i j : Nat) (h : i < l.length), j < R.c → (R.row l)[i * R.c + j]? = (R.f l[i])[j]? := by
  induction l with
  | nil => intro i j h; exact absurd h (Nat.not_lt_zero _)
  | cons a l ih =>
    intro i j h hj
    have e : R.row (a :: l) = R.f a ++ R.row l := rfl
    rw [e]
    cases i with
    | zero =>
      rw [Nat.zero_mul, Nat.zero_add, List.getElem?_append_left (by rw [R.len]; exact hj)]
      rfl
    | succ i =>
      rw [List.getElem?_append_right (by rw [R.len, Nat.succ_mul]; omega), R.len, show (i + 1) * R.c + j - R.c = i * R.c + j by rw [Nat.succ_mul]; omega, ih i j (by simpa using h) hj]
      rfl
theorem RK.row_take (l : List α) (i : Nat) : R.row (l.take i) = (R.row l).take (i * R.c) := by
  by_cases h : i ≤ l.length
  · have : R.row l = R.row (l.take i) ++ R.row (l.drop i) := by rw [← R.row_app, List.take_append_drop]
    rw [this, List.take_left' (by rw [R.row_len, List.length_take, Nat.min_eq_left h])]
  · have h2 : l.length * R.c ≤ i * R.c := Nat.mul_le_mul_right _ (by omega)
    rw [List.take_of_length_le (by omega), List.take_of_length_le (by rw [R.row_len]; exact h2)]
theorem RK.row_drop (l : List α) (i : Nat) : R.row (l.drop i) = (R.row l).drop (i * R.c) := by
  by_cases h : i ≤ l.length
  · have : R.row l = R.row (l.take i) ++ R.row (l.drop i) := by rw [← R.row_app, List.take_append_drop]
    rw [this, List.drop_left' (by rw [R.row_len, List.length_take, Nat.min_eq_left h])]
  · have h2 : l.length * R.c ≤ i * R.c := Nat.mul_le_mul_right _ (by omega)
    rw [List.drop_of_length_le (by omega), List.drop_of_length_le (by rw [R.row_len]; exact h2)]; rfl
theorem RK.row_erase (l : List α) (i : Nat) : R.row (l.eraseIdx i) = R.row (l.take i) ++ R.row (l.drop (i + 1)) := by
  rw [List.eraseIdx_eq_take_drop_succ, R.row_app]
/-- One cell of one element is another. -/
theorem RK.row_set (l : List α) (i j : Nat) (h : i < l.length) (hj : j < R.c) (a : α) (u : Value) (ha : R.f a = (R.f l[i]).set j u) : (R.row l).set (i * R.c + j) u = R.row (l.set i a) := by
  apply List.ext_getElem?
  intro k
  by_cases hk : k < l.length * R.c
  · have hi : k / R.c < l.length := by rw [Nat.div_lt_iff_lt_mul R.pos]; exact hk
    have hjj : k % R.c < R.c := Nat.mod_lt _ R.pos
    have hkk : k / R.c * R.c + k % R.c = k := by rw [Nat.mul_comm]; exact Nat.div_add_mod k R.c
    generalize k / R.c = q at hi hkk
    generalize k % R.c = r at hjj hkk
    subst hkk
    rw [R.row_at (l.set i a) q r (by simpa using hi) hjj, List.getElem?_set, R.row_at l q r hi hjj, List.getElem_set]
    by_cases hq : i = q
    · subst hq
      rw [if_pos rfl, ha, List.getElem?_set, R.len, R.row_len]
      by_cases hr : j = r
      · subst hr
        rw [if_pos rfl, if_pos rfl, if_pos hk, if_pos hj]
      · rw [if_neg (by omega), if_neg hr]
    · rw [if_neg hq]
      have hne : ¬ (i * R.c + j = q * R.c + r) := by
        intro e
        have h1 : (i * R.c + j) / R.c = i := by rw [Nat.mul_comm, Nat.mul_add_div R.pos, Nat.div_eq_of_lt hj, Nat.add_zero]
        have h2 : (q * R.c + r) / R.c = q := by rw [Nat.mul_comm, Nat.mul_add_div R.pos, Nat.div_eq_of_lt hjj, Nat.add_zero]
        rw [e, h2] at h1
        exact hq h1.symm
      rw [if_neg hne]
  · rw [List.getElem?_eq_none (by rw [List.length_set, R.row_len]; omega), List.getElem?_eq_none (by rw [R.row_len, List.length_set]; omega)]
/-- The slice value leads to the elements. -/
def RK.At (w : World) (v : Value) (l : List α) : Prop :=
  (v = .slice none 0 0 ∧ l = []) ∨ ∃ b off cap, v = .slice (some ⟨b, off, none⟩) l.length cap ∧ b < w.heap.size ∧ ∀ j u, (R.row l)[j]? = some u → w.cell? ⟨b, off + j, none⟩ = some u
/-- The elements lie in a row of the call's own. -/
def RK.Own (E : TypeId) (w : World) (base : Nat) (v : Value) (l : List α) : Prop := w.ownsRow base E R.c v l.length (R.row l)
variable {R}
theorem RK.At.below {w w' : World} {v : Value} {l : List α} {k : Nat} (h : R.At w v l) (hB : Below k w w') (hk : ∀ b off n c, v = .slice (some ⟨b, off, none⟩) n c → b < k) : R.At w' v l := by
  rcases h with h | ⟨b, off, cap, rfl, hb, hc⟩
  · exact .inl h
  · have hbk := hk _ _ _ _ rfl
    exact .inr ⟨b, off, cap, rfl, Nat.lt_of_lt_of_le hb hB.size, fun j u hu => (hB.cell (p := ⟨b, off + j, none⟩) hbk).trans (hc j u hu)⟩
theorem RK.At.on {w w' : World} {v : Value} {l : List α} (h : R.At w v l) (hB : Below w.heap.size w w') : R.At w' v l := by
  refine h.below hB ?_
  rintro b off n c rfl
  rcases h with ⟨h, _⟩ | ⟨b', off', cap, he, hb, _⟩
  · cases h
  · cases he; exact hb
theorem RK.At.al {w : World} {v : Value} {l : List α} (h : R.At w v l) (o : Obj) : R.At (w.alloc o) v l := h.on (by go_grown)
theorem RK.At.dr {w : World} {v : Value} {l : List α} (h : R.At w v l) : R.At w.drew v l := h.on (by go_grown)
theorem RK.At.drN {w : World} {v : Value} {l : List α} (h : R.At w v l) (n : Nat) : R.At (w.drewN n) v l := h.on ⟨rfl, rfl, rfl, Nat.le_refl _, fun _ _ => rfl⟩
theorem RK.At.len {w : World} {s : Value} {l : List α} (h : R.At w s l) : ∃ a cap, s = .slice a l.length cap := by
  rcases h with ⟨rfl, rfl⟩ | ⟨b, off, cap, rfl, _⟩
  · exact ⟨_, _, rfl⟩
  · exact ⟨_, _, rfl⟩
theorem RK.At.form {w : World} {s : Value} {l : List α} (h : R.At w s l) (hi : 0 < l.length) : ∃ b off cap, s = .slice (some ⟨b, off, none⟩) l.length cap ∧ b < w.heap.size ∧ ∀ i (h : i < l.length) j u, (R.f l[i])[j]? = some u → w.cell? ⟨b, off + (i * R.c + j), none⟩ = some u := by
  rcases h with ⟨rfl, rfl⟩ | ⟨b, off, cap, rfl, hb, hc⟩
  · exact absurd hi (Nat.lt_irrefl _)
  · refine ⟨b, off, cap, rfl, hb, fun i h j u hu => hc _ _ ?_⟩
    have hj : j < R.c := by
      have := (List.getElem?_eq_some_iff.1 hu).1
      rwa [R.len] at this
    rw [R.row_at l i j h hj, hu]
theorem RK.Own.at {E : TypeId} {w : World} {base : Nat} {v : Value} {l : List α} (h : R.Own E w base v l) : R.At w v l := by
  rcases h.2 with ⟨rfl, h0⟩ | ⟨g, cap, cur, rfl, hg⟩
  · have : l = [] := List.eq_nil_of_length_eq_zero (by omega)
    subst this
    exact .inl ⟨rfl, rfl⟩
  · refine .inr ⟨g, 0, cap, rfl, (World.ownsRow.lt h g rfl).2, fun j u hu => ?_⟩
    have := World.ownsRow.cells h (g := g) rfl j u hu
    have e : (⟨g, 0, none⟩ : Addr).add j = ⟨g, 0 + j, none⟩ := by unfold Addr.add; split <;> simp_all
    rw [e] at this
    exact this
theorem RK.Own.on {E : TypeId} {w w1 : World} {base : Nat} {s : Value} {l : List α} (h : R.Own E w base s l) (hB : Below w.heap.size w w1) : R.Own E w1 base s l := own_below h hB
theorem RK.Own.al {E : TypeId} {w : World} {base : Nat} {s : Value} {l : List α} (h : R.Own E w base s l) (o : Obj) : R.Own E (w.alloc o) base s l := h.on (by go_grown)
theorem RK.Own.mono {E : TypeId} {w : World} {base b2 : Nat} {s : Value} {l : List α} (h : R.Own E w base s l) (hb : b2 ≤ base) : R.Own E w b2 s l := own_mono h hb
theorem RK.Own.ne {E : TypeId} {w : World} {base B : Nat} {g n c : Nat} {l : List α} {cs : Array Value} {T : TypeId} (h : R.Own E w base (.slice (some ⟨g, 0, none⟩) n c) l) (hv : Blk w B cs T) (hT : E ≠ T) : B ≠ g := by
  intro e
  exact own_ne h hv hT (by rw [e]; rfl)
theorem RK.Own.block {E : TypeId} {w w1 : World} {base : Nat} {s : Value} {l : List α} (h : R.Own E w base s l) (hB : ∀ g, s.ownBlock = some g → w1.heap[g]? = w.heap[g]?) : R.Own E w1 base s l := own_block h hB
/-- A store to a block of another type leaves the row. -/
theorem RK.Own.setB {E : TypeId} {w : World} {base : Nat} {s : Value} {l : List α} (h : R.Own E w base s l) {B j : Nat} {v : Value} {cs : Array Value} {T : TypeId} (hv : Blk w B cs T) (hT : E ≠ T) : R.Own E (w.setCell ⟨B, j, none⟩ v) base s l :=
  h.block fun g hg => Below.heap_setCell w ⟨B, j, none⟩ v g (fun (e : g = B) => own_ne h hv hT (by rw [hg, e]))
/-- What a row of the call's own that is not empty is. -/
theorem RK.Own.form {E : TypeId} {w : World} {base : Nat} {s : Value} {l : List α} (h : R.Own E w base s l) (hi : 0 < l.length) : ∃ g cap, s = .slice (some ⟨g, 0, none⟩) l.length cap ∧ base ≤ g ∧ g < w.heap.size ∧ l.length ≤ cap ∧ cap ≤ maxLen ∧ (∀ j, j < cap * R.c → (w.cell? ⟨g, j, none⟩).isSome = true ∧ w.frozen? ⟨g, j, none⟩ = false) ∧ ∀ i (h : i < l.length) j u, (R.f l[i])[j]? = some u → w.cell? ⟨g, i * R.c + j, none⟩ = some u := by
  have hat := h.at
  rcases h.2 with ⟨_, h0⟩ | ⟨g, cap, cur, he, hb, hg, hnc, hcm, hcs, _⟩
  · omega
  · subst he
    obtain ⟨b, off, cap', e, _, hc⟩ := hat.form hi
    simp only [Value.slice.injEq, Option.some.injEq, Addr.mk.injEq, and_true] at e
    obtain ⟨⟨rfl, rfl⟩, _, rfl⟩ := e
    refine ⟨g, cap, rfl, hb, (Array.getElem?_eq_some_iff.1 hg).1, hnc, hcm, fun j hj => ⟨?_, ?_⟩, fun i h j u hu => by simpa using hc i h j u hu⟩
    · rw [cell_of_row w g j cur _ (0, 0) hg, Array.getElem?_eq_getElem (by rw [hcs]; exact hj)]; rfl
    · unfold World.frozen?; rw [hg]; simp
/-- A store to one cell of one element. -/
theorem RK.Own.put {E : TypeId} {w : World} {base g n cap : Nat} {l : List α} (h : R.Own E w base (.slice (some ⟨g, 0, none⟩) n cap) l) (i j : Nat) (hi : i < l.length) (hj : j < R.c) (a : α) (u : Value) (ha : R.f a = (R.f l[i]).set j u) :
    R.Own E (w.setCell ⟨g, i * R.c + j, none⟩ u) base (.slice (some ⟨g, 0, none⟩) n cap) (l.set i a) := by
  have hn : l.length * R.c = (R.row l).length := (R.row_len l).symm
  refine ⟨by rw [R.row_len], ?_⟩
  rcases h.2 with ⟨h, _⟩ | ⟨g', cap', cur, he, hb, hg, hnc, hcm, hcs, ht⟩
  · cases h
  · simp only [Value.slice.injEq, Option.some.injEq, Addr.mk.injEq, and_true] at he
    obtain ⟨rfl, rfl, rfl⟩ := he
    refine .inr ⟨g, cap, cur.setIfInBounds (i * R.c + j) u, by rw [List.length_set], hb, ?_, by rw [List.length_set]; exact hnc, hcm, by simpa using hcs, ?_⟩
    · simp [World.setCell, Array.getElem?_modify, hg]
    · rw [List.length_set, Array.toList_setIfInBounds, List.take_set, ht]
      exact R.row_set l i j hi hj a u ha
end
/-- The place of the first one, or -1. -/
def idxOf {α : Type} (p : α → Bool) : List α → Int
  | [] => -1
  | m :: l => if p m then 0 else if idxOf p l < 0 then -1 else idxOf p l + 1
theorem idxOf_bd {α : Type} (p : α → Bool) (l : List α) : -1 ≤ idxOf p l ∧ idxOf p l < l.length := by
  induction l with
  | nil => simp [idxOf]
  | cons a l ih =>
    simp only [idxOf, List.length_cons]
    split
    · omega
    · split <;> omega
theorem idxOf_at {α : Type} {p : α → Bool} {l : List α} {k : Nat} (h : ∀ j (hj : j < l.length), j < k → p l[j] = false) (hk : k < l.length) (hp : p l[k] = true) : idxOf p l = k := by
  induction l generalizing k with
  | nil => exact absurd hk (Nat.not_lt_zero _)
  | cons a l ih =>
    cases k with
    | zero => simp only [List.getElem_cons_zero] at hp; simp [idxOf, hp]
    | succ k =>
      have h0 := h 0 (by simp) (by omega)
      simp only [List.getElem_cons_zero] at h0
      have := ih (k := k) (fun j hj hjk => h (j + 1) (by simpa using hj) (by omega)) (by simpa using hk) (by simpa using hp)
      simp only [idxOf, h0, this]
      simp
      omega
theorem idxOf_none {α : Type} {p : α → Bool} {l : List α} (h : ∀ j (hj : j < l.length), p l[j] = false) : idxOf p l = -1 := by
  induction l with
  | nil => rfl
  | cons a l ih =>
    have h0 := h 0 (by simp)
    simp only [List.getElem_cons_zero] at h0
    have := ih (fun j hj => h (j + 1) (by simpa using hj))
    simp [idxOf, h0, this]
theorem idxOf_step {α : Type} {p : α → Bool} {l : List α} {k : Nat} (h : ∀ j (hj : j < l.length), j < k → p l[j] = false) (hk : k < l.length) (hp : p l[k] = false) : ∀ j (hj : j < l.length), j < k + 1 → p l[j] = false := by
  intro j hj hjk
  by_cases e : j = k
  · subst e; exact hp
  · exact h j hj (by omega)
theorem idx_cases {α : Type} (p : α → Bool) (l : List α) : idxOf p l = -1 ∨ ∃ i : Nat, idxOf p l = i ∧ i < l.length := by
  have h := idxOf_bd p l
  by_cases h0 : 0 ≤ idxOf p l
  · right
    obtain ⟨i, hi⟩ := Int.eq_ofNat_of_zero_le h0
    exact ⟨i, hi, by omega⟩
  · left; omega
/-- The worlds in which all that a world holds is as it was. -/
noncomputable def onto (w z : World) : World := @ite _ (Below w.heap.size w z) (Classical.propDecidable _) z w
theorem onto_below (w z : World) : Below w.heap.size w (onto w z) := by
  unfold onto
  split
  · assumption
  · exact Below.refl _ _
theorem onto_of {w z : World} (h : Below w.heap.size w z) : z = onto w z := by
  unfold onto
  rw [if_pos h]
theorem wp_region_onto {P : Program} {id : Nat} {Q : Exit → Act → World → Prop} {a : Act} {w : World} {l : List Oper} (hm : P.follows .mixedOrders = true) (hB : Region.lexB .any l.toArray = true)
    (h : wpQuiet P l.toArray (fun w' => ∃ z, w' = onto w z) (fun a' => ∀ w', (∃ z, w' = onto w z) → Q .normal a' w') l a) : (Code.region id l.toArray true).wp P Q a w :=
  wp_region_quiet (C := fun w' => ∃ z, w' = onto w z) hm hB ⟨w.drew, onto_of (Below.drew (Below.refl _ _))⟩ (by simpa using h)
theorem onto_calls {P : Program} {f : FuncId} {args : Array Value} {w z : World} {v : Value}
    (h : Calls P f args (onto w z) fun e w' => e = .returned v ∧ Below (onto w z).heap.size (onto w z) w') : Calls P f args (onto w z) fun e w'' => e = .returned v ∧ ∃ m, w'' = onto w m :=
  h.mono fun _ w' ⟨he, hB⟩ => ⟨he, w', onto_of (m_below_on (onto_below w z) hB)⟩
theorem onto_cell {w : World} {p : Addr} {v : Value} (h : w.cell? p = some v) : ∀ z, (onto w z).cell? p = some v := fun z =>
  ((onto_below w z).cell (World.block_lt_of_cell? _ _ h)).trans h
end Go.Proofs.YtodajejjhfpdmaaDoor
