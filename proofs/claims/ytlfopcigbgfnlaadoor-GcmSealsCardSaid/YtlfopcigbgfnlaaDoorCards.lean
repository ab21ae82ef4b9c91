/-
  DERIVED. GIVEN WITH THE SEED: THE CARDS: each row of YtlfopcigbgfnlaaDoorRows.lean that lists a variable, with what it lists TIED to the program's text (the seventh form; the later family's looks); each row that meets fmt, with fmt's text TOLD by the authors' own Lean function (tested against real Go, not proved from fmt's source: count such statements apart). THE CARD IS WHAT COUNTS. Prove the row's statement (the work); the ties are given (YtlfopcigbgfnlaaDoorTie.lean); close each card by the builder's one call (the guide's Derived/Test/ToyasCard.lean, 'card_holds'). Laid BY PROGRAM, IN A SANDBOX (cutbox-door.mjs). By AI agents, Wed Nov 11 2026. No macro, syntax, notation, axiom, sorry.
-/
import Derived.Test.YtlfopcigbgfnlaaDoorRows
import GoSem.ClaimSeven
namespace Go.Proofs.YtlfopcigbgfnlaaDoor
namespace Rows

/-- THE TIED CARD OF 'hailerlaw05.GcmSeals'. -/
def gcmSealsCard : Claim7 := { stood := { row := gcmSealsRow, standIns := [], harness := (true, "63c9a3eb6f3bd57270392cd3400643229f9891ad18905955664f654ecf395626"), looks := false }, kinds := [], alts := [], laidByText := true, laidKinds := [.data], laidTests := true, laidLooks := .later }
def GcmSealsCardSaid : Prop := Claim7.holds Tryd.pinned (.plain (OpenSpec.ofChange gcmSealsSpec)) gcmSealsCard

/-- THE TIED CARD OF 'hailerlaw05.GcmSums'. -/
def gcmSumsCard : Claim7 := { stood := { row := gcmSumsRow, standIns := [], harness := (true, "63c9a3eb6f3bd57270392cd3400643229f9891ad18905955664f654ecf395626"), looks := false }, kinds := [], alts := [], laidByText := true, laidKinds := [.data], laidTests := true, laidLooks := .later }
def GcmSumsCardSaid : Prop := Claim7.holds Tryd.pinned (.plain (OpenSpec.ofChange gcmSumsSpec)) gcmSumsCard

/-- THE SECOND FORM's CARD OF 'hailerlaw05.GcmSeals'. -/
def gcmSealsUptoCard : Claim7 := { stood := { row := gcmSealsUptoRow, standIns := [], harness := (true, "63c9a3eb6f3bd57270392cd3400643229f9891ad18905955664f654ecf395626"), looks := false }, kinds := [], alts := [], laidByText := true, laidKinds := [.data], laidTests := true, laidLooks := .later }
def GcmSealsUptoCardSaid : Prop := Claim7.holds Tryd.pinned (.plain (OpenSpec.upto gcmSealsSpec)) gcmSealsUptoCard

/-- THE SECOND FORM's CARD OF 'hailerlaw05.GcmSums'. -/
def gcmSumsUptoCard : Claim7 := { stood := { row := gcmSumsUptoRow, standIns := [], harness := (true, "63c9a3eb6f3bd57270392cd3400643229f9891ad18905955664f654ecf395626"), looks := false }, kinds := [], alts := [], laidByText := true, laidKinds := [.data], laidTests := true, laidLooks := .later }
def GcmSumsUptoCardSaid : Prop := Claim7.holds Tryd.pinned (.plain (OpenSpec.upto gcmSumsSpec)) gcmSumsUptoCard
end Rows
end Go.Proofs.YtlfopcigbgfnlaaDoor
