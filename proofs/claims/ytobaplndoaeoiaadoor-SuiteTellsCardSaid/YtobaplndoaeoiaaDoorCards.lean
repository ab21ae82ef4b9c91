/-
  DERIVED. GIVEN WITH THE SEED: THE CARDS: each row of YtobaplndoaeoiaaDoorRows.lean that lists a variable, with what it lists TIED to the program's text (the seventh form; the later family's looks); each row that meets fmt, with fmt's text TOLD by the authors' own Lean function (tested against real Go, not proved from fmt's source: count such statements apart). THE CARD IS WHAT COUNTS. Prove the row's statement (the work); the ties are given (YtobaplndoaeoiaaDoorTie.lean); close each card by the builder's one call (the guide's Derived/Test/ToyasCard.lean, 'card_holds'). Laid BY PROGRAM, IN A SANDBOX (cutbox-door.mjs). By AI agents, Wed Nov 11 2026. No macro, syntax, notation, axiom, sorry.
-/
import Derived.Test.YtobaplndoaeoiaaDoorRows
import GoSem.ClaimSeven
namespace Go.Proofs.YtobaplndoaeoiaaDoor
namespace Rows

/-- THE TIED CARD OF 'hailerlaw13.SuiteTells'. -/
def suiteTellsCard : Claim7 := { stood := { row := suiteTellsRow, standIns := [], harness := (true, "816ada0d42f48f06890ea868f1aeefcde885b7f0b9092ba7baab5a934edb207a"), looks := false }, kinds := [], alts := [], laidByText := true, laidKinds := [.data, .data], laidTests := true, laidLooks := .later }
def SuiteTellsCardSaid : Prop := Claim7.holds Tryd.pinned (.plain (OpenSpec.ofChange suiteTellsSpec)) suiteTellsCard

/-- THE TIED CARD OF 'hailerlaw13.SuiteApart'. -/
def suiteApartCard : Claim7 := { stood := { row := suiteApartRow, standIns := [], harness := (true, "816ada0d42f48f06890ea868f1aeefcde885b7f0b9092ba7baab5a934edb207a"), looks := false }, kinds := [], alts := [], laidByText := true, laidKinds := [.data, .data], laidTests := true, laidLooks := .later }
def SuiteApartCardSaid : Prop := Claim7.holds Tryd.pinned (.plain (OpenSpec.ofChange suiteApartSpec)) suiteApartCard

/-- THE SECOND FORM's CARD OF 'hailerlaw13.SuiteTells'. -/
def suiteTellsUptoCard : Claim7 := { stood := { row := suiteTellsUptoRow, standIns := [], harness := (true, "816ada0d42f48f06890ea868f1aeefcde885b7f0b9092ba7baab5a934edb207a"), looks := false }, kinds := [], alts := [], laidByText := true, laidKinds := [.data, .data], laidTests := true, laidLooks := .later }
def SuiteTellsUptoCardSaid : Prop := Claim7.holds Tryd.pinned (.plain (OpenSpec.upto suiteTellsSpec)) suiteTellsUptoCard

/-- THE SECOND FORM's CARD OF 'hailerlaw13.SuiteApart'. -/
def suiteApartUptoCard : Claim7 := { stood := { row := suiteApartUptoRow, standIns := [], harness := (true, "816ada0d42f48f06890ea868f1aeefcde885b7f0b9092ba7baab5a934edb207a"), looks := false }, kinds := [], alts := [], laidByText := true, laidKinds := [.data, .data], laidTests := true, laidLooks := .later }
def SuiteApartUptoCardSaid : Prop := Claim7.holds Tryd.pinned (.plain (OpenSpec.upto suiteApartSpec)) suiteApartUptoCard
end Rows
end Go.Proofs.YtobaplndoaeoiaaDoor
