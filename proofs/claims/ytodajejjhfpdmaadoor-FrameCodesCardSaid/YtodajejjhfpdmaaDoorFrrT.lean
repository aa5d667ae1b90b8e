/-
  told: what it leaves lies in rows of its own.
-/
import Derived.Test.YtodajejjhfpdmaaDoorFrlT
namespace Go.Proofs.YtodajejjhfpdmaaDoor
open Go.RowKit Go.Instr

theorem wpList_build_to {P : Program} {ops : Array Oper} {rest : List Oper} {o : Oper} {a : Act} {w : World} {Q : Exit → Act → World → Prop} (hg : o.guard = none) (t : TypeId) (parts : Array (Nat × Operand)) (ho : o.op = .build t parts) (cs : Array Value)
    (hb : P.built t (parts.map fun (i, x) => (i, a.eval x)).toList = some cs) (h : wpList P ops Q rest (a.put o.dst (.agg cs)) w) : wpList P ops Q (o :: rest) a w :=
  wpList_build hg t parts ho (by rw [hb]; rfl) (by rw [hb]; exact h)
theorem frC_ones (f : Fr) (s t : Value) (hs : s.oneCell' = true) (ht : t.oneCell' = true) : (frC f s t).all (fun v => v.oneCell') = true := by simp [Value.oneCell'] at *; exact ⟨hs, ht⟩
theorem own_one {α : Type} {R : RK α} {E : TypeId} {w : World} {b : Nat} {v : Value} {l : List α} (h : R.Own E w b v l) : v.oneCell' = true := by
  rcases h.2 with ⟨rfl, _⟩ | ⟨g, cap, cur, rfl, _⟩ <;> rfl
theorem news8 {w : World} {X : Nat} {y : Ent} (h : ∀ i, w.cell? ⟨X, i, none⟩ = (entA y)[i]?) : ∀ j u, (entR.f y)[j]? = some u → w.cell? ((⟨X, 0, none⟩ : Addr).add j) = some u := by
  intro j u hu
  have e : (⟨X, 0, none⟩ : Addr).add j = ⟨X, j, none⟩ := by unfold Addr.add; split <;> simp_all
  rw [e, h j]
  simpa [entR] using hu

/-- The slice leads to a row that is no older than k. -/
def Fresh (k : Nat) (v : Value) : Prop := ∀ b off n c, v = .slice (some ⟨b, off, none⟩) n c → k ≤ b
theorem own_fresh {α : Type} {R : RK α} {E : TypeId} {w : World} {k : Nat} {v : Value} {l : List α} (h : R.Own E w k v l) : Fresh k v := by
  intro b off n c hv
  rcases h.2 with ⟨rfl, _⟩ | ⟨g, cap, cur, rfl, hb, _⟩
  · cases hv
  · cases hv; exact hb
theorem at_setRow {α : Type} {R : RK α} {w : World} {v : Value} {l : List α} (h : R.At w v l) {X k : Nat} (row : Array Value) (hf : Fresh k v) (hX : X < k) : R.At (w.setRow X row) v l := by
  rcases h with h | ⟨b, off, cap, rfl, hb, hc⟩
  · exact .inl h
  · have hbX : b ≠ X := by have := hf b off _ cap rfl; omega
    have hg := grown_setRow w X row
    exact .inr ⟨b, off, cap, rfl, by simpa [World.setRow] using hb, fun j u hu => hg.cell (hc j u hu) (fun e => hbX (Option.some.inj e))⟩
def ToldQ (y : Fr) (w : World) (e : Ending) (w' : World) : Prop :=
  ∃ s1 t1 s2 t2, e = .returned (.tuple #[.agg (frC y s1 t1), .agg (frC y s2 t2)]) ∧ Below w.heap.size w w' ∧ memR.At w' s1 y.ms ∧ entR.At w' t1 y.es ∧ memR.At w' s2 y.ms ∧ entR.At w' t2 y.es ∧ Fresh w.heap.size s1 ∧ Fresh w.heap.size t1
set_option maxRecDepth 20000 in
theorem T3.toldQ {x : Fr} {s t : Value} {A F M : Nat} {w : World} {f1 f2 : Value} {u1 u2 : Value} {wx : World} (h : T3 x s t A F M w f1 f2 (x.ms.take 10) u1 u1 u2 u2 (x.es.take 18) (x.es.take 18) wx) (hA : A = w.heap.size) :
    ToldQ (toldF x) w (.returned (.tuple #[.agg (frC x f1 u1), .agg (frC x f2 u2)])) ((wx.setRow (A + 1) (frC x f1 u1)).setRow (A + 2) (frC x f2 u2)) :=
  ⟨f1, u1, f2, u2, rfl, below_sr (below_sr h.b (by omega) _) (by omega) _,
   (own_setRow (own_setRow h.o1 h.p (by decide) _) (Blk.setRow_other h.r (by omega) _) (by decide) _).at,
   (own_setRow (own_setRow h.q1 h.p (by decide) _) (Blk.setRow_other h.r (by omega) _) (by decide) _).at,
   (own_setRow (own_setRow h.o2 h.p (by decide) _) (Blk.setRow_other h.r (by omega) _) (by decide) _).at,
   (own_setRow (own_setRow h.q2 h.p (by decide) _) (Blk.setRow_other h.r (by omega) _) (by decide) _).at, own_fresh h.o1, own_fresh h.q1⟩
end Go.Proofs.YtodajejjhfpdmaaDoor
