/-
  DERIVED. GIVEN WITH THE SEED: THE CARDS: each row of YtopepbkpcfbegaaDoorRows.lean that lists a variable, with what it lists TIED to the program's text (the seventh form; the later family's looks); each row that meets fmt, with fmt's text TOLD by the authors' own Lean function (tested against real Go, not proved from fmt's source: count such statements apart). THE CARD IS WHAT COUNTS. Prove the row's statement (the work); the ties are given (YtopepbkpcfbegaaDoorTie.lean); close each card by the builder's one call (the guide's Derived/Test/ToyasCard.lean, 'card_holds'). Laid BY PROGRAM, IN A SANDBOX (cutbox-door.mjs). By AI agents, Wed Nov 11 2026. No macro, syntax, notation, axiom, sorry.
-/
import Derived.Test.YtopepbkpcfbegaaDoorRows
import GoSem.ClaimSeven
namespace Go.Proofs.YtopepbkpcfbegaaDoor
namespace Rows

/-- THE TIED CARD OF 'hailerlaw02.MacTells'. -/
def macTellsCard : Claim7 := { stood := { row := macTellsRow, standIns := [], harness := (true, "2b3c3145c4dc2fd0078344ba0eacdb85a69601cc2b5024fe9827b76fec588616"), looks := false }, kinds := [], alts := [], laidByText := true, laidKinds := [.data, .data], laidTests := true, laidLooks := .later }
def MacTellsCardSaid : Prop := Claim7.holds Tryd.pinned (.plain (OpenSpec.ofChange macTellsSpec)) macTellsCard

/-- THE TIED CARD OF 'hailerlaw03.AesSeals'. -/
def aesSealsCard : Claim7 := { stood := { row := aesSealsRow, standIns := [], harness := (true, "2b3c3145c4dc2fd0078344ba0eacdb85a69601cc2b5024fe9827b76fec588616"), looks := false }, kinds := [], alts := [], laidByText := true, laidKinds := [.data], laidTests := true, laidLooks := .later }
def AesSealsCardSaid : Prop := Claim7.holds Tryd.pinned (.plain (OpenSpec.ofChange aesSealsSpec)) aesSealsCard

/-- THE TIED CARD OF 'hailerlaw03.AesApart'. -/
def aesApartCard : Claim7 := { stood := { row := aesApartRow, standIns := [], harness := (true, "2b3c3145c4dc2fd0078344ba0eacdb85a69601cc2b5024fe9827b76fec588616"), looks := false }, kinds := [], alts := [], laidByText := true, laidKinds := [.data], laidTests := true, laidLooks := .later }
def AesApartCardSaid : Prop := Claim7.holds Tryd.pinned (.plain (OpenSpec.ofChange aesApartSpec)) aesApartCard

/-- THE SECOND FORM's CARD OF 'hailerlaw02.MacTells'. -/
def macTellsUptoCard : Claim7 := { stood := { row := macTellsUptoRow, standIns := [], harness := (true, "2b3c3145c4dc2fd0078344ba0eacdb85a69601cc2b5024fe9827b76fec588616"), looks := false }, kinds := [], alts := [], laidByText := true, laidKinds := [.data, .data], laidTests := true, laidLooks := .later }
def MacTellsUptoCardSaid : Prop := Claim7.holds Tryd.pinned (.plain (OpenSpec.upto macTellsSpec)) macTellsUptoCard

/-- THE SECOND FORM's CARD OF 'hailerlaw03.AesSeals'. -/
def aesSealsUptoCard : Claim7 := { stood := { row := aesSealsUptoRow, standIns := [], harness := (true, "2b3c3145c4dc2fd0078344ba0eacdb85a69601cc2b5024fe9827b76fec588616"), looks := false }, kinds := [], alts := [], laidByText := true, laidKinds := [.data], laidTests := true, laidLooks := .later }
def AesSealsUptoCardSaid : Prop := Claim7.holds Tryd.pinned (.plain (OpenSpec.upto aesSealsSpec)) aesSealsUptoCard

/-- THE SECOND FORM's CARD OF 'hailerlaw03.AesApart'. -/
def aesApartUptoCard : Claim7 := { stood := { row := aesApartUptoRow, standIns := [], harness := (true, "2b3c3145c4dc2fd0078344ba0eacdb85a69601cc2b5024fe9827b76fec588616"), looks := false }, kinds := [], alts := [], laidByText := true, laidKinds := [.data], laidTests := true, laidLooks := .later }
def AesApartUptoCardSaid : Prop := Claim7.holds Tryd.pinned (.plain (OpenSpec.upto aesApartSpec)) aesApartUptoCard
end Rows
end Go.Proofs.YtopepbkpcfbegaaDoor
