/-
  What the rows of layer 4 list of the library's variables: one start that fits, and what the walks ask of them.
-/
import Derived.Test.YtegjgdiollafkaaDoorLawA
import Derived.Test.YtegjgdiollafkaaDoorRows
import Derived.ProofKit
import Derived.OpenShut
import Derived.ShutString
import Derived.ChangeOld
import Derived.Below
import Derived.Deep.Slices
import Derived.Lib.SmallJoins
import Derived.LaidLaws
import Derived.Stop.LaidErr
import Derived.Lib.LaidTab
import Derived.SizedLaws
namespace Go.Proofs.YtegjgdiollafkaaDoor
open Go.RowKit Go.Instr Go.ChangeShapes Go.WideShapes Go.ChangeAt
open Go.ChangeMaps (open_string shut_string)
theorem gTab : Tryd.prog.globalNamed "internal/strconv.uint64pow10" = some 0 := by kernel_rfl
theorem gSyn : Tryd.prog.globalNamed "strconv.ErrSyntax" = some 1 := by kernel_rfl
theorem gRng : Tryd.prog.globalNamed "strconv.ErrRange" = some 2 := by kernel_rfl
theorem gTabT : (Tryd.prog.globals[0]?).map (·.type) = some 80 := by kernel_rfl
theorem gSynT : (Tryd.prog.globals[1]?).map (·.type) = some 60 := by kernel_rfl
theorem gRngT : (Tryd.prog.globals[2]?).map (·.type) = some 60 := by kernel_rfl
theorem cells95 : Tryd.prog.cellsOf 95 = 1 := by kernel_rfl
theorem cells9 : Tryd.prog.cellsOf 9 = 1 := by kernel_rfl
theorem cells66 : Tryd.prog.cellsOf 66 = 1 := by kernel_rfl
theorem cells80 : Tryd.prog.cellsOf 80 = 20 := by kernel_rfl
theorem star : "*" ++ "errors.errorString" = "*errors.errorString" := by decide
theorem row93 (u : TypeId) (h : Tryd.prog.typeName? 3 u = some "*errors.errorString") : u = 93 :=
  typeName_ptr_named (nm := "errors.errorString") (by rw [star]; kernel_rfl) (by kernel_rfl) (by decide) u (by rw [star]; exact h)
/-- What the row lists gives what the walk asks of the library's variables. -/
theorem env_of_laid {W : World} (hL : laidMet Tryd.prog Rows.registerAppliesRow.laid W) : Env W := by
  have h3 := hL.tail.tail
  have h4 := h3.tail
  have h5 := h4.tail
  obtain ⟨a0, _, hv0, _, _, _⟩ := laid_sentinel h4 gRng gRngT Tryd.underlying60 row93 Tryd.underlying93 Tryd.underlying95 rfl rfl Tryd.underlying9 cells95 cells9
  obtain ⟨a1, _, hv1, _, _, _⟩ := laid_sentinel h5 gSyn gSynT Tryd.underlying60 row93 Tryd.underlying93 Tryd.underlying95 rfl rfl Tryd.underlying9 cells95 cells9
  exact ⟨Lib.tabIs_of_head (zs := Lib.pow10Tab) (k := .u64) gTab gTabT Tryd.underlying80 Tryd.underlying66 cells66 cells80 h3, ⟨_, _, hv1⟩, ⟨_, _, hv0⟩⟩
abbrev synS : ByteArray := { data := #[105, 110, 118, 97, 108, 105, 100, 32, 115, 121, 110, 116, 97, 120] }
abbrev rngS : ByteArray := { data := #[118, 97, 108, 117, 101, 32, 111, 117, 116, 32, 111, 102, 32, 114, 97, 110, 103, 101] }
def tab32 : List Int := [0, 1, 28, 2, 29, 14, 24, 3, 30, 22, 20, 15, 25, 17, 4, 8, 31, 27, 13, 23, 21, 19, 16, 7, 26, 12, 18, 6, 11, 5, 10, 9]
def tab64 : List Int := [0, 1, 56, 2, 57, 49, 28, 3, 61, 58, 42, 50, 38, 29, 17, 4, 62, 47, 59, 36, 45, 43, 51, 22, 53, 39, 33, 30, 24, 18, 12, 5, 63, 55, 48, 27, 60, 41, 37, 16, 46, 35, 44, 21, 52, 32, 23, 11, 54, 26, 40, 15, 34, 20, 31, 10, 25, 14, 19, 9, 13, 8, 7, 6]
/-- So many blocks has the settled world. -/
noncomputable def low : Nat := (World.holding Tryd.prog default ⟨#[], #[], []⟩).heap.size
def tabBlock (k : IntKind) (l : List Int) : Obj → Obj := fun
  | .cells _ t frozen => .cells (l.map fun z => Value.int k z).toArray t frozen
  | o => o
noncomputable def ptrBlock (n : Nat) : Obj → Obj := fun
  | .cells _ t frozen => .cells #[.iface 93 (.pointer (some ⟨n, 0, none⟩))] t frozen
  | o => o
/-- One start that fits: the tables and the two errors as their initialisers lay them. -/
noncomputable def laidWorld (os : Os) : World :=
  let w0 := World.holding Tryd.prog os ⟨#[.cells #[.string synS] 95, .cells #[.string rngS] 95], #[], []⟩
  { w0 with heap := ((((w0.heap.modify 0 (tabBlock .u64 Lib.pow10Tab)).modify 1 (ptrBlock low)).modify 2 (ptrBlock (low + 1))).modify 3 (tabBlock .u8 tab32)).modify 4 (tabBlock .u8 tab64) }
theorem laidWorld_met (os : Os) (args : Array Value) : laidMet Tryd.prog Rows.registerAppliesRow.laid ((laidWorld os).forCall (fun _ _ => 0) ⟨#[], args, []⟩).memory :=
  laidMet_of_run' 8 (by kernel_rfl) (by kernel_rfl)
theorem register_own : ownKnob Tryd.prog.godebug = none := by kernel_rfl
theorem register_laidOut : laidOutB Tryd.prog = true := by kernel_rfl
end Go.Proofs.YtegjgdiollafkaaDoor
