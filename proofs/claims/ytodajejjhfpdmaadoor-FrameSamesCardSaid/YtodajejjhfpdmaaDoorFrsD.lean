/-
  FrameSames: what the walks share.
-/
import Derived.Test.YtodajejjhfpdmaaDoorFrsC
import Derived.Test.YtodajejjhfpdmaaDoorFrlB
import Derived.Test.YtodajejjhfpdmaaDoorFrlA
import Derived.Test.YtodajejjhfpdmaaDoorFrlS
import Derived.Deep.CutBlock
namespace Go.Proofs.YtodajejjhfpdmaaDoor
open Go.RowKit Go.Instr

theorem loadRow_run {P : Program} {o : Oper} {a : Act} (hgd : True = True) (ty : TypeId) (x : Operand) (ho : o.op = .load ty x) (g : Nat) (hx : a.eval x = .pointer (some ⟨g, 0, none⟩)) (t : TypeId) (cs : Array Value) (fr : Nat × Nat) (d : TypeDesc) {w : World}
    (hg : w.heap[g]? = some (.cells cs t fr)) (hu : P.underlying ty = some d) (hd : (match d with | .struct _ | .array _ _ => true | _ => false) = true) (hi : (P.info? ty).map (·.size) = some cs.size) : (execOp a.eval o).run P w = .ok (.value (.agg cs)) w := by
  unfold execOp
  simp only [ho, hx, Instr.loadAt, Instr.sureAddr, Sem.run_bind, Sem.run_pure, Result.andThen_ok, run_loadVar_row w g t ty cs fr d hg hu hd hi]
/-- A frame in a block, with its lists. -/
structure FrB (w : World) (B : Nat) (f : Fr) (s t : Value) : Prop where
  b : Blk w B (frC f s t) 47
  m : memR.At w s f.ms
  e : entR.At w t f.es
theorem FrB.on {w w' : World} {B : Nat} {f : Fr} {s t : Value} (h : FrB w B f s t) (hB : Below w.heap.size w w') : FrB w' B f s t := ⟨h.b.on hB, h.m.on hB, h.e.on hB⟩
/-- What told leaves, put in two variables. -/
theorem told_put {y : Fr} {s1 t1 s2 t2 : Value} {w4 : World} (m1 : memR.At w4 s1 y.ms) (e1 : entR.At w4 t1 y.es) :
    FrB ((((w4.alloc (.cells z34 47)).alloc (.cells z34 52)).setRow w4.heap.size (frC y s1 t1)).setRow (w4.heap.size + 1) (frC y s2 t2)) w4.heap.size y s1 t1 ∧ Below w4.heap.size w4 ((((w4.alloc (.cells z34 47)).alloc (.cells z34 52)).setRow w4.heap.size (frC y s1 t1)).setRow (w4.heap.size + 1) (frC y s2 t2)) := by
  have hB : Below w4.heap.size w4 ((((w4.alloc (.cells z34 47)).alloc (.cells z34 52)).setRow w4.heap.size (frC y s1 t1)).setRow (w4.heap.size + 1) (frC y s2 t2)) := below_sr (below_sr (by go_grown) (Nat.le_refl _) _) (Nat.le_succ _) _
  have NF0 : Blk (w4.alloc (.cells z34 47)) w4.heap.size z34 47 := Blk.new rfl
  exact ⟨⟨Blk.setRow_other (setRow_blk _ (NF0.alloc (.cells z34 52))) (by omega) _, m1.on hB, e1.on hB⟩, hB⟩
/-- Behind the choice of what differs. -/
def SamesCut (f : Fr) (w7 : World) (Z : Nat) (u : Value) (wx : World) : Prop :=
  ∃ (z : Fr) (sz tz : Value) (d : Bool), u = .bool d ∧ (z = f ↔ d = false) ∧ z.ms.length ≤ 10 ∧ z.es.length ≤ 18 ∧ memR.At w7 sz z.ms ∧ entR.At w7 tz z.es ∧ Blk wx Z (frC z sz tz) 47 ∧ Below Z w7 wx
theorem setCells_blk {B : Nat} {T : TypeId} : ∀ (vs : List Value) (o : Nat) (w : World) (cs : Array Value), Blk w B cs T → Blk (w.setCells B o vs) B (vs.foldl (fun (p : Array Value × Nat) v => (p.1.setIfInBounds p.2 v, p.2 + 1)) (cs, o)).1 T
  | [], _, _, _, h => h
  | v :: vs, o, w, cs, h => setCells_blk vs (o + 1) _ _ (h.set o v _ rfl)
theorem setCells_below {k B : Nat} {w0 : World} (hk : k ≤ B) : ∀ (vs : List Value) (o : Nat) (w : World), Below k w0 w → Below k w0 (w.setCells B o vs)
  | [], _, _, h => h
  | v :: vs, o, _, h => setCells_below hk vs (o + 1) _ (h.setCell (p := ⟨B, o, none⟩) hk v)
theorem blk_there {w : World} {B : Nat} {cs : Array Value} {T : TypeId} (h : Blk w B cs T) (o n : Nat) (hn : o + n ≤ cs.size) : w.there B o n := fun j hj => ⟨by rw [h.cell]; simp; omega, h.frozen _⟩
theorem blk_range {w : World} {B : Nat} {cs : Array Value} {T : TypeId} (h : Blk w B cs T) (o : Nat) (l : List Value) (hl : ∀ j v, l[j]? = some v → cs[o + j]? = some v) : w.rangeAt B o l := fun j v hv => (h.cell _).trans (hl j v hv)
abbrev cmdL (c : CmdV) : List Value := [.int .u8 c.k, .int .u8 c.n, .int .u8 c.l, .int .u32 c.e, .int .u32 c.r]
theorem cmd_range {w : World} {B : Nat} {f : Fr} {s t : Value} {T : TypeId} (h : Blk w B (frC f s t) T) : w.rangeAt B 18 (cmdL f.cmd) := blk_range h 18 _ (fun j v hv => by
  match j, hv with
  | 0, hv => exact hv
  | 1, hv => exact hv
  | 2, hv => exact hv
  | 3, hv => exact hv
  | 4, hv => exact hv)
theorem view_range {w : World} {B : Nat} {f : Fr} {s t : Value} {T : TypeId} (h : Blk w B (frC f s t) T) : w.rangeAt B 23 (vwC f.ve s f.lv).toList := blk_range h 23 _ (fun j v hv => by
  match j, hv with
  | 0, hv => exact hv
  | 1, hv => exact hv
  | 2, hv => exact hv
  | 3, hv => exact hv
  | 4, hv => exact hv
  | 5, hv => exact hv
  | 6, hv => exact hv
  | 7, hv => exact hv
  | 8, hv => exact hv
  | 9, hv => exact hv)
set_option maxRecDepth 20000 in
set_option maxHeartbeats 2000000 in
theorem cmd_neq (c d : CmdV) : ∃ r : Bool, (r = true ↔ c = d) ∧ ∀ w, Sem.run Tryd.prog (binOp .neq 41 (.agg (cmdL c).toArray) (.agg (cmdL d).toArray)) w = .ok (.bool (!r)) w := by
  obtain ⟨k1, n1, l1, e1, r1⟩ := c
  obtain ⟨k2, n2, l2, e2, r2⟩ := d
  by_cases h1 : k1 = k2
  case neg => exact ⟨false, by simp [h1], fun w => by have h : ¬ (k1 : Int) = k2 := by omega
                                                      go_simp⟩
  by_cases h2 : n1 = n2
  case neg => exact ⟨false, by simp [h2], fun w => by subst h1; have h : ¬ (n1 : Int) = n2 := by omega
                                                      go_simp⟩
  by_cases h3 : l1 = l2
  case neg => exact ⟨false, by simp [h3], fun w => by subst h1; subst h2; have h : ¬ (l1 : Int) = l2 := by omega
                                                      go_simp⟩
  by_cases h4 : e1 = e2
  case neg => exact ⟨false, by simp [h4], fun w => by subst h1; subst h2; subst h3; have h : ¬ (e1 : Int) = e2 := by omega
                                                      go_simp⟩
  by_cases h5 : r1 = r2
  case neg => exact ⟨false, by simp [h5], fun w => by subst h1; subst h2; subst h3; subst h4; have h : ¬ (r1 : Int) = r2 := by omega
                                                      go_simp⟩
  exact ⟨true, by simp [h1, h2, h3, h4, h5], fun w => by subst h1; subst h2; subst h3; subst h4; subst h5; go_simp⟩
end Go.Proofs.YtodajejjhfpdmaaDoor
