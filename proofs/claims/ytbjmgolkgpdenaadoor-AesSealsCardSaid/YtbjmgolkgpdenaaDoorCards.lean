/-
  DERIVED. GIVEN WITH THE SEED: THE CARDS: each row of YtbjmgolkgpdenaaDoorRows.lean that lists a variable, with what it lists TIED to the program's text (the seventh form; the later family's looks); each row that meets fmt, with fmt's text TOLD by the authors' own Lean function (tested against real Go, not proved from fmt's source: count such statements apart). THE CARD IS WHAT COUNTS. Prove the row's statement (the work); the ties are given (YtbjmgolkgpdenaaDoorTie.lean); close each card by the builder's one call (the guide's Derived/Test/ToyasCard.lean, 'card_holds'). Laid BY PROGRAM, IN A SANDBOX (cutbox-door.mjs). By AI agents, Wed Nov 11 2026. No macro, syntax, notation, axiom, sorry.
-/
import Derived.Test.YtbjmgolkgpdenaaDoorRows
import GoSem.ClaimSeven
namespace Go.Proofs.YtbjmgolkgpdenaaDoor
namespace Rows

/-- THE TIED CARD OF 'hailerlaw03.AesSeals'. -/
def aesSealsCard : Claim7 := { stood := { row := aesSealsRow, standIns := [], harness := (true, "7fc33f0c90b5ccef0cf7dd54e3e3718dba522f773aa864780b92b1034854df85"), looks := false }, kinds := [], alts := [], laidByText := true, laidKinds := [.data], laidTests := true, laidLooks := .later }
def AesSealsCardSaid : Prop := Claim7.holds Tryd.pinned (.plain (OpenSpec.ofChange aesSealsSpec)) aesSealsCard

/-- THE TIED CARD OF 'hailerlaw03.AesApart'. -/
def aesApartCard : Claim7 := { stood := { row := aesApartRow, standIns := [], harness := (true, "7fc33f0c90b5ccef0cf7dd54e3e3718dba522f773aa864780b92b1034854df85"), looks := false }, kinds := [], alts := [], laidByText := true, laidKinds := [.data], laidTests := true, laidLooks := .later }
def AesApartCardSaid : Prop := Claim7.holds Tryd.pinned (.plain (OpenSpec.ofChange aesApartSpec)) aesApartCard

/-- THE SECOND FORM's CARD OF 'hailerlaw03.AesSeals'. -/
def aesSealsUptoCard : Claim7 := { stood := { row := aesSealsUptoRow, standIns := [], harness := (true, "7fc33f0c90b5ccef0cf7dd54e3e3718dba522f773aa864780b92b1034854df85"), looks := false }, kinds := [], alts := [], laidByText := true, laidKinds := [.data], laidTests := true, laidLooks := .later }
def AesSealsUptoCardSaid : Prop := Claim7.holds Tryd.pinned (.plain (OpenSpec.upto aesSealsSpec)) aesSealsUptoCard

/-- THE SECOND FORM's CARD OF 'hailerlaw03.AesApart'. -/
def aesApartUptoCard : Claim7 := { stood := { row := aesApartUptoRow, standIns := [], harness := (true, "7fc33f0c90b5ccef0cf7dd54e3e3718dba522f773aa864780b92b1034854df85"), looks := false }, kinds := [], alts := [], laidByText := true, laidKinds := [.data], laidTests := true, laidLooks := .later }
def AesApartUptoCardSaid : Prop := Claim7.holds Tryd.pinned (.plain (OpenSpec.upto aesApartSpec)) aesApartUptoCard
end Rows
end Go.Proofs.YtbjmgolkgpdenaaDoor
