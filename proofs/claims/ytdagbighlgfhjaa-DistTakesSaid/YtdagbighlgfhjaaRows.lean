/-
  No cell of these rows narrows 'for every input' (looked for: loops, veiled, ifaces, maps, wideKeys, modest, calm, conditions, laid).
  DERIVED. THE GIVEN ROWS OF THIS SEAT. 7 by the template 'for every input the law returns true; each argument reads behind the call as it read before'; 0 by the template 'total and deterministic' (their statements: YtdagbighlgfhjaaTotals.lean).
  GIVEN WITH THE SEED: the statements are not yours to turn. If you find one false, say at which input.
  Laid BY PROGRAM, IN A SANDBOX (cutbox-rows.mjs): the forced cells as the released guide's own fill.sh prints them over the translation 19065588bfe9a99e… (all of the seat's roots in one cut). By AI agents, Wed Nov 11 2026. No macro, syntax, notation, axiom, sorry.
-/
import Derived.Test.YtdagbighlgfhjaaChecked
import GoSem.Claim
import GoSem.ClaimJoined
import GoSem.ClaimMapViews
import Derived.JoinedTies
import Derived.KernelRfl
namespace Go.Proofs.Ytdagbighlgfhjaa
/- THE CELL 'sum', in the pinned program and in every row, IS THE sha256 OF THE DUMP (.gsa) THAT YtdagbighlgfhjaaProg.lean LOADS. Nothing in Lean hashes anything: it is a label: what it is worth is what the hold of that sum in a sandbox is worth. -/
noncomputable def Try.pinned : Pinned := { name := "ytdagbighlgfhjaa", sum := "19065588bfe9a99ed2751002ba054492cb5727c5ba2ef3edab2c6d7f9591e17c", checked := Try.checked }
namespace Rows
def none {H : Type} : Left H := { results := [], args := [] }

/-- 'hailerlaw10.DistPuts': WHATEVER THE INPUT: true; the input reads as it did. -/
def distPutsSpec : ChangeSpec := { name := "distPuts", fn := fun _ => fun
  | [d] => { results := [.lit (.bool true)], args := [d] }
  | _ => none }
def distPutsRow : OpenClaim := { program := "ytdagbighlgfhjaa", sum := "19065588bfe9a99ed2751002ba054492cb5727c5ba2ef3edab2c6d7f9591e17c", func := "hailer/hailerlaw10.DistPuts", spec := "distPuts", unfollowed := true, recurses := true, apart := false }
def DistPutsSaid : Prop := distPutsRow.holds Try.pinned (OpenSpec.ofChange distPutsSpec)

/-- ITS FALSE NEIGHBOUR: 'it returns false'. Refute it at one input. -/
def distPutsWrong : ChangeSpec := { name := "distPuts", fn := fun _ => fun
  | [d] => { results := [.lit (.bool false)], args := [d] }
  | _ => none }
def DistPutsWrongFalsely : Prop := distPutsRow.holds Try.pinned (OpenSpec.ofChange distPutsWrong)

/-- 'hailerlaw10.DistTakes': WHATEVER THE INPUT: true; the input reads as it did. -/
def distTakesSpec : ChangeSpec := { name := "distTakes", fn := fun _ => fun
  | [d] => { results := [.lit (.bool true)], args := [d] }
  | _ => none }
def distTakesRow : OpenClaim := { program := "ytdagbighlgfhjaa", sum := "19065588bfe9a99ed2751002ba054492cb5727c5ba2ef3edab2c6d7f9591e17c", func := "hailer/hailerlaw10.DistTakes", spec := "distTakes", unfollowed := true, recurses := true, apart := false }
def DistTakesSaid : Prop := distTakesRow.holds Try.pinned (OpenSpec.ofChange distTakesSpec)

/-- ITS FALSE NEIGHBOUR: 'it returns false'. Refute it at one input. -/
def distTakesWrong : ChangeSpec := { name := "distTakes", fn := fun _ => fun
  | [d] => { results := [.lit (.bool false)], args := [d] }
  | _ => none }
def DistTakesWrongFalsely : Prop := distTakesRow.holds Try.pinned (OpenSpec.ofChange distTakesWrong)

/-- 'hailerlaw10.DistBack': WHATEVER THE INPUT: true; the input reads as it did. -/
def distBackSpec : ChangeSpec := { name := "distBack", fn := fun _ => fun
  | [d1, d2, d3] => { results := [.lit (.bool true)], args := [d1, d2, d3] }
  | _ => none }
def distBackRow : OpenClaim := { program := "ytdagbighlgfhjaa", sum := "19065588bfe9a99ed2751002ba054492cb5727c5ba2ef3edab2c6d7f9591e17c", func := "hailer/hailerlaw10.DistBack", spec := "distBack", unfollowed := true, recurses := true, apart := false }
def DistBackSaid : Prop := distBackRow.holds Try.pinned (OpenSpec.ofChange distBackSpec)

/-- ITS FALSE NEIGHBOUR: 'it returns false'. Refute it at one input. -/
def distBackWrong : ChangeSpec := { name := "distBack", fn := fun _ => fun
  | [d1, d2, d3] => { results := [.lit (.bool false)], args := [d1, d2, d3] }
  | _ => none }
def DistBackWrongFalsely : Prop := distBackRow.holds Try.pinned (OpenSpec.ofChange distBackWrong)

/-- 'hailerlaw11.RecKnown': WHATEVER THE INPUT: true; the input reads as it did. -/
def recKnownSpec : ChangeSpec := { name := "recKnown", fn := fun _ => fun
  | [] => { results := [.lit (.bool true)], args := [] }
  | _ => none }
def recKnownRow : OpenClaim := { program := "ytdagbighlgfhjaa", sum := "19065588bfe9a99ed2751002ba054492cb5727c5ba2ef3edab2c6d7f9591e17c", func := "hailer/hailerlaw11.RecKnown", spec := "recKnown", unfollowed := true, recurses := true, apart := false }
def RecKnownSaid : Prop := recKnownRow.holds Try.pinned (OpenSpec.ofChange recKnownSpec)

/-- ITS FALSE NEIGHBOUR: 'it returns false'. Refute it at one input. -/
def recKnownWrong : ChangeSpec := { name := "recKnown", fn := fun _ => fun
  | [] => { results := [.lit (.bool false)], args := [] }
  | _ => none }
def RecKnownWrongFalsely : Prop := recKnownRow.holds Try.pinned (OpenSpec.ofChange recKnownWrong)

/-- 'hailerlaw11.RecPuts': WHATEVER THE INPUT: true; the input reads as it did. -/
def recPutsSpec : ChangeSpec := { name := "recPuts", fn := fun _ => fun
  | [d1, d2] => { results := [.lit (.bool true)], args := [d1, d2] }
  | _ => none }
def recPutsRow : OpenClaim := { program := "ytdagbighlgfhjaa", sum := "19065588bfe9a99ed2751002ba054492cb5727c5ba2ef3edab2c6d7f9591e17c", func := "hailer/hailerlaw11.RecPuts", spec := "recPuts", unfollowed := true, recurses := true, apart := false }
def RecPutsSaid : Prop := recPutsRow.holds Try.pinned (OpenSpec.ofChange recPutsSpec)

/-- ITS FALSE NEIGHBOUR: 'it returns false'. Refute it at one input. -/
def recPutsWrong : ChangeSpec := { name := "recPuts", fn := fun _ => fun
  | [d1, d2] => { results := [.lit (.bool false)], args := [d1, d2] }
  | _ => none }
def RecPutsWrongFalsely : Prop := recPutsRow.holds Try.pinned (OpenSpec.ofChange recPutsWrong)

/-- 'hailerlaw11.RecAll': WHATEVER THE INPUT: true; the input reads as it did. -/
def recAllSpec : ChangeSpec := { name := "recAll", fn := fun _ => fun
  | [d1, d2] => { results := [.lit (.bool true)], args := [d1, d2] }
  | _ => none }
def recAllRow : OpenClaim := { program := "ytdagbighlgfhjaa", sum := "19065588bfe9a99ed2751002ba054492cb5727c5ba2ef3edab2c6d7f9591e17c", func := "hailer/hailerlaw11.RecAll", spec := "recAll", unfollowed := true, recurses := true, apart := false }
def RecAllSaid : Prop := recAllRow.holds Try.pinned (OpenSpec.ofChange recAllSpec)

/-- ITS FALSE NEIGHBOUR: 'it returns false'. Refute it at one input. -/
def recAllWrong : ChangeSpec := { name := "recAll", fn := fun _ => fun
  | [d1, d2] => { results := [.lit (.bool false)], args := [d1, d2] }
  | _ => none }
def RecAllWrongFalsely : Prop := recAllRow.holds Try.pinned (OpenSpec.ofChange recAllWrong)

/-- 'hailerlaw11.RecBack': WHATEVER THE INPUT: true; the input reads as it did. -/
def recBackSpec : ChangeSpec := { name := "recBack", fn := fun _ => fun
  | [d1, d2] => { results := [.lit (.bool true)], args := [d1, d2] }
  | _ => none }
def recBackRow : OpenClaim := { program := "ytdagbighlgfhjaa", sum := "19065588bfe9a99ed2751002ba054492cb5727c5ba2ef3edab2c6d7f9591e17c", func := "hailer/hailerlaw11.RecBack", spec := "recBack", unfollowed := true, recurses := true, apart := false }
def RecBackSaid : Prop := recBackRow.holds Try.pinned (OpenSpec.ofChange recBackSpec)

/-- ITS FALSE NEIGHBOUR: 'it returns false'. Refute it at one input. -/
def recBackWrong : ChangeSpec := { name := "recBack", fn := fun _ => fun
  | [d1, d2] => { results := [.lit (.bool false)], args := [d1, d2] }
  | _ => none }
def RecBackWrongFalsely : Prop := recBackRow.holds Try.pinned (OpenSpec.ofChange recBackWrong)

/- THE SECOND FORM. 'bulk': how many values and letters a reading holds, each counted each time it is reached (what is shared counts as often as it is met; a slice's spare places count too). A statement '..UptoSaid' is the law's where the arguments, and the package variables that the reading takes, are together of bulk at most 1048576: NARROWER than '..Said'. Prove '..Said' where nothing that the law and all that it calls make is longer than what came in: it says more and counts as full. Else prove '..UptoSaid'. A law counts once. -/
mutual
def uptoBulk {H : Type} : DataW H → Nat
  | .lit (.string bytes) => bytes.length + 1
  | .lit _ => 1
  | .nil => 1
  | .ptr d => uptoBulk d + 1
  | .slice elems spare => uptoBulkAll elems + uptoBulkAll spare + 1
  | .agg parts => uptoBulkAll parts + 1
  | .iface _ d => uptoBulk d + 1
  | .map entries => uptoBulkEntries entries + 1
  | .held _ => 1
def uptoBulkAll {H : Type} : List (DataW H) → Nat
  | [] => 0
  | d :: r => uptoBulk d + uptoBulkAll r
def uptoBulkEntries {H : Type} : List (Lit × DataW H) → Nat
  | [] => 0
  | x :: r => uptoBulkEntry x + uptoBulkEntries r
def uptoBulkEntry {H : Type} : Lit × DataW H → Nat
  | (.string bytes, d) => bytes.length + uptoBulk d + 1
  | (_, d) => uptoBulk d + 1
 end
def uptoSmall : (H : Type) → List (DataW H) → Bool := fun _ ds => decide (uptoBulkAll ds ≤ 1048576)
def OpenSpec.upto (s : _root_.Go.ChangeSpec) : _root_.Go.OpenSpec := { _root_.Go.OpenSpec.ofChange s with cond := some uptoSmall }

/-- 'hailerlaw10.DistPuts', WHERE WHAT IT READS IS OF BULK AT MOST 1048576: true; the input reads as it did. -/
def distPutsUptoRow : OpenClaim := { program := "ytdagbighlgfhjaa", sum := "19065588bfe9a99ed2751002ba054492cb5727c5ba2ef3edab2c6d7f9591e17c", func := "hailer/hailerlaw10.DistPuts", spec := "distPuts", unfollowed := true, recurses := true, apart := false, narrowed := true }
def DistPutsUptoSaid : Prop := distPutsUptoRow.holds Try.pinned (OpenSpec.upto distPutsSpec)

/-- 'hailerlaw10.DistTakes', WHERE WHAT IT READS IS OF BULK AT MOST 1048576: true; the input reads as it did. -/
def distTakesUptoRow : OpenClaim := { program := "ytdagbighlgfhjaa", sum := "19065588bfe9a99ed2751002ba054492cb5727c5ba2ef3edab2c6d7f9591e17c", func := "hailer/hailerlaw10.DistTakes", spec := "distTakes", unfollowed := true, recurses := true, apart := false, narrowed := true }
def DistTakesUptoSaid : Prop := distTakesUptoRow.holds Try.pinned (OpenSpec.upto distTakesSpec)

/-- 'hailerlaw10.DistBack', WHERE WHAT IT READS IS OF BULK AT MOST 1048576: true; the input reads as it did. -/
def distBackUptoRow : OpenClaim := { program := "ytdagbighlgfhjaa", sum := "19065588bfe9a99ed2751002ba054492cb5727c5ba2ef3edab2c6d7f9591e17c", func := "hailer/hailerlaw10.DistBack", spec := "distBack", unfollowed := true, recurses := true, apart := false, narrowed := true }
def DistBackUptoSaid : Prop := distBackUptoRow.holds Try.pinned (OpenSpec.upto distBackSpec)

/-- 'hailerlaw11.RecKnown', WHERE WHAT IT READS IS OF BULK AT MOST 1048576: true; the input reads as it did. -/
def recKnownUptoRow : OpenClaim := { program := "ytdagbighlgfhjaa", sum := "19065588bfe9a99ed2751002ba054492cb5727c5ba2ef3edab2c6d7f9591e17c", func := "hailer/hailerlaw11.RecKnown", spec := "recKnown", unfollowed := true, recurses := true, apart := false, narrowed := true }
def RecKnownUptoSaid : Prop := recKnownUptoRow.holds Try.pinned (OpenSpec.upto recKnownSpec)

/-- 'hailerlaw11.RecPuts', WHERE WHAT IT READS IS OF BULK AT MOST 1048576: true; the input reads as it did. -/
def recPutsUptoRow : OpenClaim := { program := "ytdagbighlgfhjaa", sum := "19065588bfe9a99ed2751002ba054492cb5727c5ba2ef3edab2c6d7f9591e17c", func := "hailer/hailerlaw11.RecPuts", spec := "recPuts", unfollowed := true, recurses := true, apart := false, narrowed := true }
def RecPutsUptoSaid : Prop := recPutsUptoRow.holds Try.pinned (OpenSpec.upto recPutsSpec)

/-- 'hailerlaw11.RecAll', WHERE WHAT IT READS IS OF BULK AT MOST 1048576: true; the input reads as it did. -/
def recAllUptoRow : OpenClaim := { program := "ytdagbighlgfhjaa", sum := "19065588bfe9a99ed2751002ba054492cb5727c5ba2ef3edab2c6d7f9591e17c", func := "hailer/hailerlaw11.RecAll", spec := "recAll", unfollowed := true, recurses := true, apart := false, narrowed := true }
def RecAllUptoSaid : Prop := recAllUptoRow.holds Try.pinned (OpenSpec.upto recAllSpec)

/-- 'hailerlaw11.RecBack', WHERE WHAT IT READS IS OF BULK AT MOST 1048576: true; the input reads as it did. -/
def recBackUptoRow : OpenClaim := { program := "ytdagbighlgfhjaa", sum := "19065588bfe9a99ed2751002ba054492cb5727c5ba2ef3edab2c6d7f9591e17c", func := "hailer/hailerlaw11.RecBack", spec := "recBack", unfollowed := true, recurses := true, apart := false, narrowed := true }
def RecBackUptoSaid : Prop := recBackUptoRow.holds Try.pinned (OpenSpec.upto recBackSpec)

end Rows
end Go.Proofs.Ytdagbighlgfhjaa
