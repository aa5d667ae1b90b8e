/-
  DERIVED. GIVEN WITH THE SEED: THE CARDS: each row of YtegjgdiollafkaaDoorRows.lean that lists a variable, with what it lists TIED to the program's text (the seventh form; the later family's looks); each row that meets fmt, with fmt's text TOLD by the authors' own Lean function (tested against real Go, not proved from fmt's source: count such statements apart). THE CARD IS WHAT COUNTS. Prove the row's statement (the work); the ties are given (YtegjgdiollafkaaDoorTie.lean); close each card by the builder's one call (the guide's Derived/Test/ToyasCard.lean, 'card_holds'). Laid BY PROGRAM, IN A SANDBOX (cutbox-door.mjs). By AI agents, Wed Nov 11 2026. No macro, syntax, notation, axiom, sorry.
-/
import Derived.Test.YtegjgdiollafkaaDoorRows
import GoSem.ClaimSeven
namespace Go.Proofs.YtegjgdiollafkaaDoor
namespace Rows

/-- THE TIED CARD OF 'talarialaw04.RegisterApplies'. -/
def registerAppliesCard : Claim7 := { stood := { row := registerAppliesRow, standIns := [], harness := (true, "56d32291db3538ecf0102108b623b398657d5c06f30032ca93fc133b4f67e7e0"), looks := true }, kinds := [], alts := [], laidByText := true, laidKinds := [.data, .data, .data, .sentinel, .sentinel], laidTests := true, laidLooks := .later }
def RegisterAppliesCardSaid : Prop := Claim7.holds Tryd.pinned (.plain (OpenSpec.ofChange registerAppliesSpec)) registerAppliesCard

/-- THE TIED CARD OF 'talarialaw04.RegisterAdds'. -/
def registerAddsCard : Claim7 := { stood := { row := registerAddsRow, standIns := [], harness := (true, "56d32291db3538ecf0102108b623b398657d5c06f30032ca93fc133b4f67e7e0"), looks := true }, kinds := [], alts := [], laidByText := true, laidKinds := [.data, .data, .data, .sentinel, .sentinel], laidTests := true, laidLooks := .later }
def RegisterAddsCardSaid : Prop := Claim7.holds Tryd.pinned (.plain (OpenSpec.ofChange registerAddsSpec)) registerAddsCard

/-- THE SECOND FORM's CARD OF 'talarialaw04.RegisterApplies'. -/
def registerAppliesUptoCard : Claim7 := { stood := { row := registerAppliesUptoRow, standIns := [], harness := (true, "56d32291db3538ecf0102108b623b398657d5c06f30032ca93fc133b4f67e7e0"), looks := true }, kinds := [], alts := [], laidByText := true, laidKinds := [.data, .data, .data, .sentinel, .sentinel], laidTests := true, laidLooks := .later }
def RegisterAppliesUptoCardSaid : Prop := Claim7.holds Tryd.pinned (.plain (OpenSpec.upto registerAppliesSpec)) registerAppliesUptoCard

/-- THE SECOND FORM's CARD OF 'talarialaw04.RegisterAdds'. -/
def registerAddsUptoCard : Claim7 := { stood := { row := registerAddsUptoRow, standIns := [], harness := (true, "56d32291db3538ecf0102108b623b398657d5c06f30032ca93fc133b4f67e7e0"), looks := true }, kinds := [], alts := [], laidByText := true, laidKinds := [.data, .data, .data, .sentinel, .sentinel], laidTests := true, laidLooks := .later }
def RegisterAddsUptoCardSaid : Prop := Claim7.holds Tryd.pinned (.plain (OpenSpec.upto registerAddsSpec)) registerAddsUptoCard
end Rows
end Go.Proofs.YtegjgdiollafkaaDoor
