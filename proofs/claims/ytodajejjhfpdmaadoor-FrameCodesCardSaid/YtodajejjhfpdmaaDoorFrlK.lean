/-
  What the rows of layer 6 list of the program's variable: one start that fits, and what the walks ask of it.
-/
import Derived.Test.YtodajejjhfpdmaaDoorFrmJ
import Derived.Test.YtodajejjhfpdmaaDoorRows
import Derived.ProofKit
import Derived.OpenShut
import Derived.LaidLaws
import Derived.Lib.LaidTab
namespace Go.Proofs.YtodajejjhfpdmaaDoor
open Go.RowKit Go.Instr Go.ChangeShapes Go.WideShapes Go.ChangeAt

set_option maxRecDepth 20000
theorem gFields : Tryd.prog.globalNamed "talaria/frame.fields" = some 0 := by kernel_rfl
theorem gFieldsT : (Tryd.prog.globals[0]?).map (·.type) = some 89 := by kernel_rfl
theorem cells_tab : Tryd.prog.cellsOf 89 = 17 := by kernel_rfl
theorem cells_str : Tryd.prog.cellsOf 9 = 1 := by kernel_rfl
theorem laid_letters {H : Type} : (Rows.laid_talaria_frame_fields : DataW H) = .agg ((List.range 17).map fun k => .lit (.string ((letK k).map UInt8.ofNat))) := by rfl
theorem env_of_laid {W : World} (hL : laidMet Tryd.prog [("talaria/frame.fields", Rows.laid_talaria_frame_fields)] W) : FEnv W := by
  obtain ⟨ps, ⟨g', t', cs, fuel, p, q, hg', ht', hvar, hd, _, _⟩, _⟩ := hL
  obtain rfl := Option.some.inj (gFields.symm.trans hg')
  obtain rfl := Option.some.inj (gFieldsT.symm.trans ht')
  obtain ⟨xs, m, _, hx, hl, hlen, hf⟩ := DataW.trod_array Tryd.underlying89 hd
  rw [laid_letters] at hx
  have hxs := congrArg Prod.fst hx
  simp only [DataW.agg.injEq] at hxs
  rw [cells_str] at hf
  intro k hk
  have h1 := hf k hk
  have hkx : k < xs.length := by rw [hlen]; exact hk
  rw [List.getElem?_eq_getElem hkx] at h1
  obtain ⟨s, hc, hy, _⟩ := DataW.trod_string Tryd.underlying9 h1
  have h2 : ((List.range 17).map fun k => (DataW.lit (.string ((letK k).map UInt8.ofNat)) : DataW Unit))[k]? = some (DataW.lit (.string s.data.toList)) := by
    rw [hxs, List.getElem?_map, List.getElem?_eq_getElem hkx, Option.map_some, hy]
  rw [List.getElem?_map, List.getElem?_range hk, Option.map_some] at h2
  simp only [Option.some.injEq, DataW.lit.injEq, Lit.string.injEq] at h2
  have hs : s = letS k := by
    unfold letS
    rw [h2]
  have hck : cs[k]? = some (.string s) := by
    have := congrArg (·[0]?) hc
    simpa [List.getElem?_take, List.getElem?_drop] using this
  have := World.var?_cell gFields hvar k
  rw [this, ← hs]
  simpa using hck
def strBlock : Obj → Obj := fun
  | .cells _ t frozen => .cells ((List.range 17).map fun k => Value.string (letS k)).toArray t frozen
  | o => o
/-- One start that fits: the table as its initialiser lays it. -/
noncomputable def laidWorld (os : Os) : World :=
  let w0 := World.holding Tryd.prog os ⟨#[], #[], []⟩
  { w0 with heap := w0.heap.modify 0 strBlock }
theorem laidWorld_met (os : Os) (args : Array Value) : laidMet Tryd.prog [("talaria/frame.fields", Rows.laid_talaria_frame_fields)] ((laidWorld os).forCall (fun _ _ => 0) ⟨#[], args, []⟩).memory :=
  laidMet_of_run' 8 (by kernel_rfl) (by kernel_rfl)
theorem frame_own : ownKnob Tryd.prog.godebug = none := by kernel_rfl
theorem frame_laidOut : laidOutB Tryd.prog = true := by kernel_rfl
end Go.Proofs.YtodajejjhfpdmaaDoor
