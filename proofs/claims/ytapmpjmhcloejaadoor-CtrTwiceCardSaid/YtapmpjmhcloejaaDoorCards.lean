/-
  DERIVED. GIVEN WITH THE SEED: THE CARDS: each row of YtapmpjmhcloejaaDoorRows.lean that lists a variable, with what it lists TIED to the program's text (the seventh form; the later family's looks); each row that meets fmt, with fmt's text TOLD by the authors' own Lean function (tested against real Go, not proved from fmt's source: count such statements apart). THE CARD IS WHAT COUNTS. Prove the row's statement (the work); the ties are given (YtapmpjmhcloejaaDoorTie.lean); close each card by the builder's one call (the guide's Derived/Test/ToyasCard.lean, 'card_holds'). Laid BY PROGRAM, IN A SANDBOX (cutbox-door.mjs). By AI agents, Wed Nov 11 2026. No macro, syntax, notation, axiom, sorry.
-/
import Derived.Test.YtapmpjmhcloejaaDoorRows
import GoSem.ClaimSeven
namespace Go.Proofs.YtapmpjmhcloejaaDoor
namespace Rows

/-- THE TIED CARD OF 'hailerlaw04.CtrTurns'. -/
def ctrTurnsCard : Claim7 := { stood := { row := ctrTurnsRow, standIns := [], harness := (true, "5c97630fdcafe6f9a759b32d777505541c6c2916e403714436584041c7be233d"), looks := false }, kinds := [], alts := [], laidByText := true, laidKinds := [.data], laidTests := true, laidLooks := .later }
def CtrTurnsCardSaid : Prop := Claim7.holds Tryd.pinned (.plain (OpenSpec.ofChange ctrTurnsSpec)) ctrTurnsCard

/-- THE TIED CARD OF 'hailerlaw04.CtrTwice'. -/
def ctrTwiceCard : Claim7 := { stood := { row := ctrTwiceRow, standIns := [], harness := (true, "5c97630fdcafe6f9a759b32d777505541c6c2916e403714436584041c7be233d"), looks := false }, kinds := [], alts := [], laidByText := true, laidKinds := [.data], laidTests := true, laidLooks := .later }
def CtrTwiceCardSaid : Prop := Claim7.holds Tryd.pinned (.plain (OpenSpec.ofChange ctrTwiceSpec)) ctrTwiceCard

/-- THE SECOND FORM's CARD OF 'hailerlaw04.CtrTurns'. -/
def ctrTurnsUptoCard : Claim7 := { stood := { row := ctrTurnsUptoRow, standIns := [], harness := (true, "5c97630fdcafe6f9a759b32d777505541c6c2916e403714436584041c7be233d"), looks := false }, kinds := [], alts := [], laidByText := true, laidKinds := [.data], laidTests := true, laidLooks := .later }
def CtrTurnsUptoCardSaid : Prop := Claim7.holds Tryd.pinned (.plain (OpenSpec.upto ctrTurnsSpec)) ctrTurnsUptoCard

/-- THE SECOND FORM's CARD OF 'hailerlaw04.CtrTwice'. -/
def ctrTwiceUptoCard : Claim7 := { stood := { row := ctrTwiceUptoRow, standIns := [], harness := (true, "5c97630fdcafe6f9a759b32d777505541c6c2916e403714436584041c7be233d"), looks := false }, kinds := [], alts := [], laidByText := true, laidKinds := [.data], laidTests := true, laidLooks := .later }
def CtrTwiceUptoCardSaid : Prop := Claim7.holds Tryd.pinned (.plain (OpenSpec.upto ctrTwiceSpec)) ctrTwiceUptoCard
end Rows
end Go.Proofs.YtapmpjmhcloejaaDoor
