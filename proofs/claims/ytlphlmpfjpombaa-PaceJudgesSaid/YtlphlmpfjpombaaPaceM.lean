/-
  A pace as a value: what each event makes of it. How it lies in memory.
-/
import Derived.Test.YtlphlmpfjpombaaGen
namespace Go.Proofs.Ytlphlmpfjpombaa
open Go.RowKit Go.Instr

/-- A number and a slice beside it: a span (its begin, the masters' ticks then), a node (its ticks, its spans). -/
structure TV where
  t : Nat
  a : Option Addr
  n : Nat
  c : Nat
def TV.v (x : TV) : Value := .slice x.a x.n x.c
theorem ones2 {v0 v1 : Value} (h0 : v0.oneCell' = true) (h1 : v1.oneCell' = true) : ∀ u ∈ ([v0, v1] : List Value), u.oneCell' = true := by
  intro u hu
  simp only [List.mem_cons, List.not_mem_nil, or_false] at hu
  rcases hu with rfl | rfl <;> assumption
theorem ones1 {v0 : Value} (h0 : v0.oneCell' = true) : ∀ u ∈ ([v0] : List Value), u.oneCell' = true := by
  intro u hu
  rw [List.mem_singleton.1 hu]
  exact h0
def twoR : RK TV := { f := fun x => [.int .i64 x.t, .slice x.a x.n x.c], c := 2, pos := by decide, len := fun _ => rfl, one := fun _ => ones2 rfl rfl }
def intR : RK Nat := { f := fun k => [.int .i64 k], c := 1, pos := by decide, len := fun _ => rfl, one := fun _ => ones1 rfl }
/-- A span: when it began, by the node's ticks and by the masters'. -/
structure Sp where
  s : Nat
  ms : List Nat
/-- A node: its ticks, its spans. -/
structure Nd where
  t : Nat
  sp : List Sp
/-- A pace. -/
structure Pc where
  hold : Nat
  wait : Nat
  ms : List Nat
  ns : List Nd
  bad : Bool
/-- Is a clock behind, for master number i + 1 at k ticks? -/
def Nd.late (i k wait : Nat) (x : Nd) : Bool :=
  match x.sp with
  | [] => false
  | s :: _ => decide (wait + s.ms.getD i 0 ≤ k)
def Pc.master (p : Pc) (i : Nat) : Pc := { p with ms := p.ms.set i (p.ms.getD i 0 + 1), bad := p.bad || p.ns.any (Nd.late i (p.ms.getD i 0 + 1) p.wait) }
def Nd.tick (hold : Nat) (x : Nd) : Nd := ⟨x.t + 1, x.sp.filter fun s => decide (x.t + 1 < s.s + hold)⟩
def Nd.ask (ms : List Nat) (x : Nd) : Nd :=
  match x.sp.getLast? with
  | none => ⟨x.t, [⟨x.t, ms⟩]⟩
  | some s => if s.s = x.t then x else ⟨x.t, x.sp ++ [⟨x.t, ms⟩]⟩
def Pc.node (p : Pc) (i : Nat) : Pc := { p with ns := p.ns.modify i (Nd.tick p.hold) }
def Pc.ask (p : Pc) (i : Nat) : Pc := { p with ns := p.ns.modify i (Nd.ask p.ms) }
def Pc.stop (p : Pc) (i : Nat) : Pc := { p with ns := p.ns.modify i fun x => ⟨x.t, []⟩ }
/-- The spans lie in a row of the call's own; each one's masters in another, none of them the masters' own block. -/
def SpansAt (w : World) (base mb : Nat) (v : Value) (l : List Sp) : Prop :=
  ∃ ys : List TV, twoR.Own 85 w base v ys ∧ ys.length = l.length ∧ ∀ k (h : k < ys.length) (h' : k < l.length), ys[k].t = l[k].s ∧ intR.Own 3 w base ys[k].v l[k].ms ∧ ys[k].v.ownBlock ≠ some mb
/-- A pace in block P. -/
structure PaceAt (w : World) (base P : Nat) (p : Pc) (mb mc nb nc : Nat) (xs : List TV) : Prop where
  blk : Blk w P #[.int .i64 p.hold, .int .i64 p.wait, .slice (some ⟨mb, 0, none⟩) p.ms.length mc, .slice (some ⟨nb, 0, none⟩) p.ns.length nc, .bool p.bad] 80
  ms : intR.Own 3 w base (.slice (some ⟨mb, 0, none⟩) p.ms.length mc) p.ms
  ns : twoR.Own 83 w base (.slice (some ⟨nb, 0, none⟩) p.ns.length nc) xs
  len : xs.length = p.ns.length
  sp : ∀ i (h : i < xs.length) (h' : i < p.ns.length), xs[i].t = p.ns[i].t ∧ SpansAt w base mb xs[i].v p.ns[i].sp
  apart : ∀ i j (hi : i < xs.length) (hj : j < xs.length) g, i ≠ j → xs[i].v.ownBlock = some g → xs[j].v.ownBlock ≠ some g
theorem SpansAt.keep {w w' : World} {base mb : Nat} {v : Value} {l : List Sp} (h : SpansAt w base mb v l) (h1 : ∀ g, v.ownBlock = some g → w'.heap[g]? = w.heap[g]?) (h2 : ∀ k C fz, w.heap[k]? = some (.cells C 3 fz) → k ≠ mb → w'.heap[k]? = w.heap[k]?) : SpansAt w' base mb v l := by
  obtain ⟨ys, ho, hl, hc⟩ := h
  refine ⟨ys, ho.block h1, hl, fun k hk hk' => ?_⟩
  obtain ⟨e1, e2, e3⟩ := hc k hk hk'
  refine ⟨e1, e2.block fun g hg => ?_, e3⟩
  rcases e2.2 with ⟨hn, _⟩ | ⟨g', cap, cur, he, _, hh, _⟩
  · rw [hn] at hg; simp [Value.ownBlock] at hg
  · rw [he] at hg
    simp only [Value.ownBlock, Option.some.injEq] at hg
    subst hg
    exact h2 _ _ _ hh (fun e => e3 (by rw [he, e]; rfl))
theorem SpansAt.on {w w' : World} {base mb : Nat} {v : Value} {l : List Sp} (h : SpansAt w base mb v l) (hB : Below w.heap.size w w') : SpansAt w' base mb v l := by
  obtain ⟨ys, ho, hl, hc⟩ := h
  exact ⟨ys, ho.on hB, hl, fun k hk hk' => ⟨(hc k hk hk').1, (hc k hk hk').2.1.on hB, (hc k hk hk').2.2⟩⟩
theorem SpansAt.nil {w : World} {base mb : Nat} : SpansAt w base mb (.slice none 0 0) [] := ⟨[], World.ownsRow_nil _ _ _ _, rfl, fun _ hk => absurd hk (Nat.not_lt_zero _)⟩
theorem PaceAt.on {w w' : World} {base P : Nat} {p : Pc} {mb mc nb nc : Nat} {xs : List TV} (h : PaceAt w base P p mb mc nb nc xs) (hB : Below w.heap.size w w') : PaceAt w' base P p mb mc nb nc xs :=
  ⟨h.blk.on hB, h.ms.on hB, h.ns.on hB, h.len, fun i hi hi' => ⟨(h.sp i hi hi').1, (h.sp i hi hi').2.on hB⟩, h.apart⟩
/-- The block that a value of a row of type E lies in, and what it holds. -/
theorem own_heap {w : World} {base : Nat} {e : TypeId} {size : Nat} {v : Value} {n : Nat} {xs : List Value} {g : Nat} (h : w.ownsRow base e size v n xs) (hg : v.ownBlock = some g) : ∃ cur, w.heap[g]? = some (.cells cur e (0, 0)) := by
  rcases h.2 with ⟨rfl, _⟩ | ⟨g', cap, cur, rfl, _, hh, _⟩
  · simp [Value.ownBlock] at hg
  · simp only [Value.ownBlock, Option.some.injEq] at hg
    subst hg
    exact ⟨cur, hh⟩
/-- Blocks of two types differ. -/
theorem heap_ne {w : World} {a b : Nat} {C C' : Array Value} {T T' : TypeId} {fz fz' : Nat × Nat} (h : w.heap[a]? = some (.cells C T fz)) (h' : w.heap[b]? = some (.cells C' T' fz')) (hT : T ≠ T') : a ≠ b := by
  rintro rfl
  rw [h] at h'
  simp only [Option.some.injEq, Obj.cells.injEq] at h'
  exact hT h'.2.1
/-- A store to the pace's own block. -/
theorem PaceAt.setP {w : World} {base P j : Nat} {p p' : Pc} {v : Value} {mb mc nb nc : Nat} {xs : List TV} (h : PaceAt w base P p mb mc nb nc xs)
    (hb : Blk (w.setCell ⟨P, j, none⟩ v) P #[.int .i64 p'.hold, .int .i64 p'.wait, .slice (some ⟨mb, 0, none⟩) p'.ms.length mc, .slice (some ⟨nb, 0, none⟩) p'.ns.length nc, .bool p'.bad] 80) (hm : p'.ms = p.ms) (hn : p'.ns = p.ns) : PaceAt (w.setCell ⟨P, j, none⟩ v) base P p' mb mc nb nc xs := by
  have hP : w.heap[P]? = some (.cells _ 80 (0, 0)) := h.blk
  refine ⟨hb, by rw [hm]; exact h.ms.setB h.blk (by decide), by rw [hn]; exact h.ns.setB h.blk (by decide), by rw [hn]; exact h.len, fun i hi hi' => ?_, h.apart⟩
  have hi2 : i < p.ns.length := by rw [← hn]; exact hi'
  obtain ⟨e1, e2⟩ := h.sp i hi hi2
  have e3 : p'.ns[i] = p.ns[i] := by simp only [hn]
  rw [e3]
  refine ⟨e1, e2.keep (fun g hg => ?_) (fun k _ _ hk _ => ?_)⟩
  · obtain ⟨ys, ho, _⟩ := e2
    obtain ⟨cur, hh⟩ := own_heap ho hg
    exact Below.heap_setCell w ⟨P, j, none⟩ v g (heap_ne hh hP (by decide))
  · exact Below.heap_setCell w ⟨P, j, none⟩ v k (heap_ne hk hP (by decide))
/-- A store to the masters' ticks. -/
theorem PaceAt.setM {w : World} {base P i : Nat} {p : Pc} {mb mc nb nc : Nat} {xs : List TV} (h : PaceAt w base P p mb mc nb nc xs) (hi : i < p.ms.length) (u : Nat) :
    PaceAt (w.setCell ⟨mb, i, none⟩ (.int .i64 u)) base P { p with ms := p.ms.set i u } mb mc nb nc xs := by
  obtain ⟨cm, hM⟩ := own_heap h.ms rfl
  have hP : w.heap[P]? = some (.cells _ 80 (0, 0)) := h.blk
  have hput := h.ms.put i 0 hi (by decide) u (.int .i64 u) rfl
  have e : i * intR.c + 0 = i := by show i * 1 + 0 = i; omega
  rw [e] at hput
  refine ⟨by simp only [List.length_set]; exact h.blk.set_other _ _ (heap_ne hP hM (by decide)), by simp only [List.length_set]; exact hput, h.ns.block fun g hg => ?_, h.len, fun k hk hk' => ?_, h.apart⟩
  · obtain ⟨cur, hh⟩ := own_heap h.ns hg
    exact Below.heap_setCell w _ _ g (heap_ne hh hM (by decide))
  · obtain ⟨e1, e2⟩ := h.sp k hk hk'
    refine ⟨e1, e2.keep (fun g hg => ?_) (fun k _ _ _ hne => Below.heap_setCell w _ _ k hne)⟩
    obtain ⟨ys, ho, _⟩ := e2
    obtain ⟨cur, hh⟩ := own_heap ho hg
    exact Below.heap_setCell w _ _ g (heap_ne hh hM (by decide))
end Go.Proofs.Ytlphlmpfjpombaa
