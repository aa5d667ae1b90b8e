/-
  NARROWER THAN 'FOR EVERY INPUT', by the rows' own cells (each row's printed sentence says how): FrameCodes: laid · FrameReads: laid · FrameSames: laid · FrameSpoilt: laid.
  DERIVED. THE GIVEN ROWS OF THIS SEAT. 4 by the template 'for every input the law returns true; each argument reads behind the call as it read before'; 0 by the template 'total and deterministic' (their statements: YtodajejjhfpdmaaDoorTotals.lean).
  GIVEN WITH THE SEED: the statements are not yours to turn. If you find one false, say at which input.
  Laid BY PROGRAM, IN A SANDBOX (cutbox-rows.mjs): the forced cells as the released guide's own fill.sh prints them over the translation 2d70b4f62171b665… (all of the seat's roots in one cut). By AI agents, Wed Nov 11 2026. No macro, syntax, notation, axiom, sorry.
-/
import Derived.Test.YtodajejjhfpdmaaDoorChecked
import GoSem.Claim
import GoSem.ClaimJoined
import GoSem.ClaimMapViews
import Derived.JoinedTies
import Derived.KernelRfl
namespace Go.Proofs.YtodajejjhfpdmaaDoor
/- THE CELL 'sum', in the pinned program and in every row, IS THE sha256 OF THE DUMP (.gsa) THAT YtodajejjhfpdmaaDoorProg.lean LOADS. Nothing in Lean hashes anything: it is a label: what it is worth is what the hold of that sum in a sandbox is worth. -/
noncomputable def Tryd.pinned : Pinned := { name := "ytodajejjhfpdmaadoor", sum := "2d70b4f62171b6657942795564b453bb82f6fda75c0bfb34ac5a8ec7c51c19c1", checked := Tryd.checked }
namespace Rows
def none {H : Type} : Left H := { results := [], args := [] }

/- WHAT THE LISTED PACKAGE-LEVEL VARIABLES READ AS WHEN THE CALL BEGINS. Each datum BY PROGRAM (the guide's laid-datum.mjs) off the statement by which the dump's own 'gosem.cut.vars' lays the variable. In a bare row this is a premise. The card (YtodajejjhfpdmaaDoorCards.lean) ties it to the program's text. -/
def laid_talaria_frame_fields {H : Type} : DataW H := .agg [.lit (.string []), .lit (.string [69, 75, 84, 86, 77, 68]), .lit (.string [69, 75, 84, 70]), .lit (.string [69, 75, 84]), .lit (.string [69, 75]), .lit (.string [69, 75, 84, 86, 77, 70]), .lit (.string [69, 76, 82, 70]), .lit (.string [87]), .lit (.string [69, 76, 82]), .lit (.string [66, 83]), .lit (.string [66, 83, 78]), .lit (.string [66]), .lit (.string [66, 83, 67]), .lit (.string [66, 83]), .lit (.string [83, 67]), .lit (.string [83, 70]), .lit (.string [83, 87])]

/-- 'talarialaw06.FrameCodes': WHATEVER THE INPUT: true; the input reads as it did. -/
def frameCodesSpec : ChangeSpec := { name := "frameCodes", fn := fun _ => fun
  | [d] => { results := [.lit (.bool true)], args := [d] }
  | _ => none }
def frameCodesRow : OpenClaim := { program := "ytodajejjhfpdmaadoor", sum := "2d70b4f62171b6657942795564b453bb82f6fda75c0bfb34ac5a8ec7c51c19c1", func := "talaria/talarialaw06.FrameCodes", spec := "frameCodes", named := ["talaria/frame.fields"], apart := false, laid := [("talaria/frame.fields", laid_talaria_frame_fields)] }
def FrameCodesSaid : Prop := frameCodesRow.holds Tryd.pinned (OpenSpec.ofChange frameCodesSpec)

/-- ITS FALSE NEIGHBOUR: 'it returns false'. Refute it at one input. -/
def frameCodesWrong : ChangeSpec := { name := "frameCodes", fn := fun _ => fun
  | [d] => { results := [.lit (.bool false)], args := [d] }
  | _ => none }
def FrameCodesWrongFalsely : Prop := frameCodesRow.holds Tryd.pinned (OpenSpec.ofChange frameCodesWrong)

/-- 'talarialaw06.FrameReads': WHATEVER THE INPUT: true; the input reads as it did. -/
def frameReadsSpec : ChangeSpec := { name := "frameReads", fn := fun _ => fun
  | [d1, d2, d3] => { results := [.lit (.bool true)], args := [d1, d2, d3] }
  | _ => none }
def frameReadsRow : OpenClaim := { program := "ytodajejjhfpdmaadoor", sum := "2d70b4f62171b6657942795564b453bb82f6fda75c0bfb34ac5a8ec7c51c19c1", func := "talaria/talarialaw06.FrameReads", spec := "frameReads", named := ["talaria/frame.fields"], apart := false, laid := [("talaria/frame.fields", laid_talaria_frame_fields)] }
def FrameReadsSaid : Prop := frameReadsRow.holds Tryd.pinned (OpenSpec.ofChange frameReadsSpec)

/-- ITS FALSE NEIGHBOUR: 'it returns false'. Refute it at one input. -/
def frameReadsWrong : ChangeSpec := { name := "frameReads", fn := fun _ => fun
  | [d1, d2, d3] => { results := [.lit (.bool false)], args := [d1, d2, d3] }
  | _ => none }
def FrameReadsWrongFalsely : Prop := frameReadsRow.holds Tryd.pinned (OpenSpec.ofChange frameReadsWrong)

/-- 'talarialaw06.FrameSames': WHATEVER THE INPUT: true; the input reads as it did. -/
def frameSamesSpec : ChangeSpec := { name := "frameSames", fn := fun _ => fun
  | [d1, d2, d3] => { results := [.lit (.bool true)], args := [d1, d2, d3] }
  | _ => none }
def frameSamesRow : OpenClaim := { program := "ytodajejjhfpdmaadoor", sum := "2d70b4f62171b6657942795564b453bb82f6fda75c0bfb34ac5a8ec7c51c19c1", func := "talaria/talarialaw06.FrameSames", spec := "frameSames", named := ["talaria/frame.fields"], apart := false, laid := [("talaria/frame.fields", laid_talaria_frame_fields)] }
def FrameSamesSaid : Prop := frameSamesRow.holds Tryd.pinned (OpenSpec.ofChange frameSamesSpec)

/-- ITS FALSE NEIGHBOUR: 'it returns false'. Refute it at one input. -/
def frameSamesWrong : ChangeSpec := { name := "frameSames", fn := fun _ => fun
  | [d1, d2, d3] => { results := [.lit (.bool false)], args := [d1, d2, d3] }
  | _ => none }
def FrameSamesWrongFalsely : Prop := frameSamesRow.holds Tryd.pinned (OpenSpec.ofChange frameSamesWrong)

/-- 'talarialaw06.FrameSpoilt': WHATEVER THE INPUT: true; the input reads as it did. -/
def frameSpoiltSpec : ChangeSpec := { name := "frameSpoilt", fn := fun _ => fun
  | [d1, d2, d3] => { results := [.lit (.bool true)], args := [d1, d2, d3] }
  | _ => none }
def frameSpoiltRow : OpenClaim := { program := "ytodajejjhfpdmaadoor", sum := "2d70b4f62171b6657942795564b453bb82f6fda75c0bfb34ac5a8ec7c51c19c1", func := "talaria/talarialaw06.FrameSpoilt", spec := "frameSpoilt", named := ["talaria/frame.fields"], apart := false, laid := [("talaria/frame.fields", laid_talaria_frame_fields)] }
def FrameSpoiltSaid : Prop := frameSpoiltRow.holds Tryd.pinned (OpenSpec.ofChange frameSpoiltSpec)

/-- ITS FALSE NEIGHBOUR: 'it returns false'. Refute it at one input. -/
def frameSpoiltWrong : ChangeSpec := { name := "frameSpoilt", fn := fun _ => fun
  | [d1, d2, d3] => { results := [.lit (.bool false)], args := [d1, d2, d3] }
  | _ => none }
def FrameSpoiltWrongFalsely : Prop := frameSpoiltRow.holds Tryd.pinned (OpenSpec.ofChange frameSpoiltWrong)

/- THE SECOND FORM. 'bulk': how many values and letters a reading holds, each counted each time it is reached (what is shared counts as often as it is met; a slice's spare places count too). A statement '..UptoSaid' is the law's where the arguments, and the package variables that the reading takes, are together of bulk at most 1048576: NARROWER than '..Said'. Prove '..Said' where nothing that the law and all that it calls make is longer than what came in: it says more and counts as full. Else prove '..UptoSaid'. A law counts once. -/
mutual
def uptoBulk {H : Type} : DataW H → Nat
  | .lit (.string bytes) => bytes.length + 1
  | .lit _ => 1
  | .nil => 1
  | .ptr d => uptoBulk d + 1
  | .slice elems spare => uptoBulkAll elems + uptoBulkAll spare + 1
  | .agg parts => uptoBulkAll parts + 1
  | .iface _ d => uptoBulk d + 1
  | .map entries => uptoBulkEntries entries + 1
  | .held _ => 1
def uptoBulkAll {H : Type} : List (DataW H) → Nat
  | [] => 0
  | d :: r => uptoBulk d + uptoBulkAll r
def uptoBulkEntries {H : Type} : List (Lit × DataW H) → Nat
  | [] => 0
  | x :: r => uptoBulkEntry x + uptoBulkEntries r
def uptoBulkEntry {H : Type} : Lit × DataW H → Nat
  | (.string bytes, d) => bytes.length + uptoBulk d + 1
  | (_, d) => uptoBulk d + 1
 end
def uptoSmall : (H : Type) → List (DataW H) → Bool := fun _ ds => decide (uptoBulkAll ds ≤ 1048576)
def OpenSpec.upto (s : _root_.Go.ChangeSpec) : _root_.Go.OpenSpec := { _root_.Go.OpenSpec.ofChange s with cond := some uptoSmall }

/-- 'talarialaw06.FrameCodes', WHERE WHAT IT READS IS OF BULK AT MOST 1048576: true; the input reads as it did. -/
def frameCodesUptoRow : OpenClaim := { program := "ytodajejjhfpdmaadoor", sum := "2d70b4f62171b6657942795564b453bb82f6fda75c0bfb34ac5a8ec7c51c19c1", func := "talaria/talarialaw06.FrameCodes", spec := "frameCodes", named := ["talaria/frame.fields"], apart := false, laid := [("talaria/frame.fields", laid_talaria_frame_fields)], narrowed := true }
def FrameCodesUptoSaid : Prop := frameCodesUptoRow.holds Tryd.pinned (OpenSpec.upto frameCodesSpec)

/-- 'talarialaw06.FrameReads', WHERE WHAT IT READS IS OF BULK AT MOST 1048576: true; the input reads as it did. -/
def frameReadsUptoRow : OpenClaim := { program := "ytodajejjhfpdmaadoor", sum := "2d70b4f62171b6657942795564b453bb82f6fda75c0bfb34ac5a8ec7c51c19c1", func := "talaria/talarialaw06.FrameReads", spec := "frameReads", named := ["talaria/frame.fields"], apart := false, laid := [("talaria/frame.fields", laid_talaria_frame_fields)], narrowed := true }
def FrameReadsUptoSaid : Prop := frameReadsUptoRow.holds Tryd.pinned (OpenSpec.upto frameReadsSpec)

/-- 'talarialaw06.FrameSames', WHERE WHAT IT READS IS OF BULK AT MOST 1048576: true; the input reads as it did. -/
def frameSamesUptoRow : OpenClaim := { program := "ytodajejjhfpdmaadoor", sum := "2d70b4f62171b6657942795564b453bb82f6fda75c0bfb34ac5a8ec7c51c19c1", func := "talaria/talarialaw06.FrameSames", spec := "frameSames", named := ["talaria/frame.fields"], apart := false, laid := [("talaria/frame.fields", laid_talaria_frame_fields)], narrowed := true }
def FrameSamesUptoSaid : Prop := frameSamesUptoRow.holds Tryd.pinned (OpenSpec.upto frameSamesSpec)

/-- 'talarialaw06.FrameSpoilt', WHERE WHAT IT READS IS OF BULK AT MOST 1048576: true; the input reads as it did. -/
def frameSpoiltUptoRow : OpenClaim := { program := "ytodajejjhfpdmaadoor", sum := "2d70b4f62171b6657942795564b453bb82f6fda75c0bfb34ac5a8ec7c51c19c1", func := "talaria/talarialaw06.FrameSpoilt", spec := "frameSpoilt", named := ["talaria/frame.fields"], apart := false, laid := [("talaria/frame.fields", laid_talaria_frame_fields)], narrowed := true }
def FrameSpoiltUptoSaid : Prop := frameSpoiltUptoRow.holds Tryd.pinned (OpenSpec.upto frameSpoiltSpec)

end Rows
end Go.Proofs.YtodajejjhfpdmaaDoor
