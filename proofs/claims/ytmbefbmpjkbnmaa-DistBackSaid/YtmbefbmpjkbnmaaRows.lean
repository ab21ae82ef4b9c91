/-
  No cell of these rows narrows 'for every input' (looked for: loops, veiled, ifaces, maps, wideKeys, modest, calm, conditions, laid).
  DERIVED. THE GIVEN ROWS OF THIS SEAT. 5 by the template 'for every input the law returns true; each argument reads behind the call as it read before'; 0 by the template 'total and deterministic' (their statements: YtmbefbmpjkbnmaaTotals.lean).
  GIVEN WITH THE SEED: the statements are not yours to turn. If you find one false, say at which input.
  Laid BY PROGRAM, IN A SANDBOX (cutbox-rows.mjs): the forced cells as the released guide's own fill.sh prints them over the translation 80e62fa91e88dc52… (all of the seat's roots in one cut). By AI agents, Wed Nov 11 2026. No macro, syntax, notation, axiom, sorry.
-/
import Derived.Test.YtmbefbmpjkbnmaaChecked
import GoSem.Claim
import GoSem.ClaimJoined
import GoSem.ClaimMapViews
import Derived.JoinedTies
import Derived.KernelRfl
namespace Go.Proofs.Ytmbefbmpjkbnmaa
/- THE CELL 'sum', in the pinned program and in every row, IS THE sha256 OF THE DUMP (.gsa) THAT YtmbefbmpjkbnmaaProg.lean LOADS. Nothing in Lean hashes anything: it is a label: what it is worth is what the hold of that sum in a sandbox is worth. -/
noncomputable def Try.pinned : Pinned := { name := "ytmbefbmpjkbnmaa", sum := "80e62fa91e88dc5269a190bcfb7c4a7a31f5e6a4a4b869d0231a59af1ee97792", checked := Try.checked }
namespace Rows
def none {H : Type} : Left H := { results := [], args := [] }

/-- 'hailerlaw10.DistPuts': WHATEVER THE INPUT: true; the input reads as it did. -/
def distPutsSpec : ChangeSpec := { name := "distPuts", fn := fun _ => fun
  | [d] => { results := [.lit (.bool true)], args := [d] }
  | _ => none }
def distPutsRow : OpenClaim := { program := "ytmbefbmpjkbnmaa", sum := "80e62fa91e88dc5269a190bcfb7c4a7a31f5e6a4a4b869d0231a59af1ee97792", func := "hailer/hailerlaw10.DistPuts", spec := "distPuts", unfollowed := true, recurses := true, apart := false }
def DistPutsSaid : Prop := distPutsRow.holds Try.pinned (OpenSpec.ofChange distPutsSpec)

/-- ITS FALSE NEIGHBOUR: 'it returns false'. Refute it at one input. -/
def distPutsWrong : ChangeSpec := { name := "distPuts", fn := fun _ => fun
  | [d] => { results := [.lit (.bool false)], args := [d] }
  | _ => none }
def DistPutsWrongFalsely : Prop := distPutsRow.holds Try.pinned (OpenSpec.ofChange distPutsWrong)

/-- 'hailerlaw10.DistTakes': WHATEVER THE INPUT: true; the input reads as it did. -/
def distTakesSpec : ChangeSpec := { name := "distTakes", fn := fun _ => fun
  | [d] => { results := [.lit (.bool true)], args := [d] }
  | _ => none }
def distTakesRow : OpenClaim := { program := "ytmbefbmpjkbnmaa", sum := "80e62fa91e88dc5269a190bcfb7c4a7a31f5e6a4a4b869d0231a59af1ee97792", func := "hailer/hailerlaw10.DistTakes", spec := "distTakes", unfollowed := true, recurses := true, apart := false }
def DistTakesSaid : Prop := distTakesRow.holds Try.pinned (OpenSpec.ofChange distTakesSpec)

/-- ITS FALSE NEIGHBOUR: 'it returns false'. Refute it at one input. -/
def distTakesWrong : ChangeSpec := { name := "distTakes", fn := fun _ => fun
  | [d] => { results := [.lit (.bool false)], args := [d] }
  | _ => none }
def DistTakesWrongFalsely : Prop := distTakesRow.holds Try.pinned (OpenSpec.ofChange distTakesWrong)

/-- 'hailerlaw10.DistBack': WHATEVER THE INPUT: true; the input reads as it did. -/
def distBackSpec : ChangeSpec := { name := "distBack", fn := fun _ => fun
  | [d1, d2, d3] => { results := [.lit (.bool true)], args := [d1, d2, d3] }
  | _ => none }
def distBackRow : OpenClaim := { program := "ytmbefbmpjkbnmaa", sum := "80e62fa91e88dc5269a190bcfb7c4a7a31f5e6a4a4b869d0231a59af1ee97792", func := "hailer/hailerlaw10.DistBack", spec := "distBack", unfollowed := true, recurses := true, apart := false }
def DistBackSaid : Prop := distBackRow.holds Try.pinned (OpenSpec.ofChange distBackSpec)

/-- ITS FALSE NEIGHBOUR: 'it returns false'. Refute it at one input. -/
def distBackWrong : ChangeSpec := { name := "distBack", fn := fun _ => fun
  | [d1, d2, d3] => { results := [.lit (.bool false)], args := [d1, d2, d3] }
  | _ => none }
def DistBackWrongFalsely : Prop := distBackRow.holds Try.pinned (OpenSpec.ofChange distBackWrong)

/-- 'hailerlaw12.HeadTells': WHATEVER THE INPUT: true; the input reads as it did. -/
def headTellsSpec : ChangeSpec := { name := "headTells", fn := fun _ => fun
  | [d1, d2] => { results := [.lit (.bool true)], args := [d1, d2] }
  | _ => none }
def headTellsRow : OpenClaim := { program := "ytmbefbmpjkbnmaa", sum := "80e62fa91e88dc5269a190bcfb7c4a7a31f5e6a4a4b869d0231a59af1ee97792", func := "hailer/hailerlaw12.HeadTells", spec := "headTells", apart := false }
def HeadTellsSaid : Prop := headTellsRow.holds Try.pinned (OpenSpec.ofChange headTellsSpec)

/-- ITS FALSE NEIGHBOUR: 'it returns false'. Refute it at one input. -/
def headTellsWrong : ChangeSpec := { name := "headTells", fn := fun _ => fun
  | [d1, d2] => { results := [.lit (.bool false)], args := [d1, d2] }
  | _ => none }
def HeadTellsWrongFalsely : Prop := headTellsRow.holds Try.pinned (OpenSpec.ofChange headTellsWrong)

/-- 'hailerlaw12.HeadBack': WHATEVER THE INPUT: true; the input reads as it did. -/
def headBackSpec : ChangeSpec := { name := "headBack", fn := fun _ => fun
  | [d1, d2, d3] => { results := [.lit (.bool true)], args := [d1, d2, d3] }
  | _ => none }
def headBackRow : OpenClaim := { program := "ytmbefbmpjkbnmaa", sum := "80e62fa91e88dc5269a190bcfb7c4a7a31f5e6a4a4b869d0231a59af1ee97792", func := "hailer/hailerlaw12.HeadBack", spec := "headBack", apart := false }
def HeadBackSaid : Prop := headBackRow.holds Try.pinned (OpenSpec.ofChange headBackSpec)

/-- ITS FALSE NEIGHBOUR: 'it returns false'. Refute it at one input. -/
def headBackWrong : ChangeSpec := { name := "headBack", fn := fun _ => fun
  | [d1, d2, d3] => { results := [.lit (.bool false)], args := [d1, d2, d3] }
  | _ => none }
def HeadBackWrongFalsely : Prop := headBackRow.holds Try.pinned (OpenSpec.ofChange headBackWrong)

/- THE SECOND FORM. 'bulk': how many values and letters a reading holds, each counted each time it is reached (what is shared counts as often as it is met; a slice's spare places count too). A statement '..UptoSaid' is the law's where the arguments, and the package variables that the reading takes, are together of bulk at most 1048576: NARROWER than '..Said'. Prove '..Said' where nothing that the law and all that it calls make is longer than what came in: it says more and counts as full. Else prove '..UptoSaid'. A law counts once. -/
mutual
def uptoBulk {H : Type} : DataW H → Nat
  | .lit (.string bytes) => bytes.length + 1
  | .lit _ => 1
  | .nil => 1
  | .ptr d => uptoBulk d + 1
  | .slice elems spare => uptoBulkAll elems + uptoBulkAll spare + 1
  | .agg parts => uptoBulkAll parts + 1
  | .iface _ d => uptoBulk d + 1
  | .map entries => uptoBulkEntries entries + 1
  | .held _ => 1
def uptoBulkAll {H : Type} : List (DataW H) → Nat
  | [] => 0
  | d :: r => uptoBulk d + uptoBulkAll r
def uptoBulkEntries {H : Type} : List (Lit × DataW H) → Nat
  | [] => 0
  | x :: r => uptoBulkEntry x + uptoBulkEntries r
def uptoBulkEntry {H : Type} : Lit × DataW H → Nat
  | (.string bytes, d) => bytes.length + uptoBulk d + 1
  | (_, d) => uptoBulk d + 1
 end
def uptoSmall : (H : Type) → List (DataW H) → Bool := fun _ ds => decide (uptoBulkAll ds ≤ 1048576)
def OpenSpec.upto (s : _root_.Go.ChangeSpec) : _root_.Go.OpenSpec := { _root_.Go.OpenSpec.ofChange s with cond := some uptoSmall }

/-- 'hailerlaw10.DistPuts', WHERE WHAT IT READS IS OF BULK AT MOST 1048576: true; the input reads as it did. -/
def distPutsUptoRow : OpenClaim := { program := "ytmbefbmpjkbnmaa", sum := "80e62fa91e88dc5269a190bcfb7c4a7a31f5e6a4a4b869d0231a59af1ee97792", func := "hailer/hailerlaw10.DistPuts", spec := "distPuts", unfollowed := true, recurses := true, apart := false, narrowed := true }
def DistPutsUptoSaid : Prop := distPutsUptoRow.holds Try.pinned (OpenSpec.upto distPutsSpec)

/-- 'hailerlaw10.DistTakes', WHERE WHAT IT READS IS OF BULK AT MOST 1048576: true; the input reads as it did. -/
def distTakesUptoRow : OpenClaim := { program := "ytmbefbmpjkbnmaa", sum := "80e62fa91e88dc5269a190bcfb7c4a7a31f5e6a4a4b869d0231a59af1ee97792", func := "hailer/hailerlaw10.DistTakes", spec := "distTakes", unfollowed := true, recurses := true, apart := false, narrowed := true }
def DistTakesUptoSaid : Prop := distTakesUptoRow.holds Try.pinned (OpenSpec.upto distTakesSpec)

/-- 'hailerlaw10.DistBack', WHERE WHAT IT READS IS OF BULK AT MOST 1048576: true; the input reads as it did. -/
def distBackUptoRow : OpenClaim := { program := "ytmbefbmpjkbnmaa", sum := "80e62fa91e88dc5269a190bcfb7c4a7a31f5e6a4a4b869d0231a59af1ee97792", func := "hailer/hailerlaw10.DistBack", spec := "distBack", unfollowed := true, recurses := true, apart := false, narrowed := true }
def DistBackUptoSaid : Prop := distBackUptoRow.holds Try.pinned (OpenSpec.upto distBackSpec)

/-- 'hailerlaw12.HeadTells', WHERE WHAT IT READS IS OF BULK AT MOST 1048576: true; the input reads as it did. -/
def headTellsUptoRow : OpenClaim := { program := "ytmbefbmpjkbnmaa", sum := "80e62fa91e88dc5269a190bcfb7c4a7a31f5e6a4a4b869d0231a59af1ee97792", func := "hailer/hailerlaw12.HeadTells", spec := "headTells", apart := false, narrowed := true }
def HeadTellsUptoSaid : Prop := headTellsUptoRow.holds Try.pinned (OpenSpec.upto headTellsSpec)

/-- 'hailerlaw12.HeadBack', WHERE WHAT IT READS IS OF BULK AT MOST 1048576: true; the input reads as it did. -/
def headBackUptoRow : OpenClaim := { program := "ytmbefbmpjkbnmaa", sum := "80e62fa91e88dc5269a190bcfb7c4a7a31f5e6a4a4b869d0231a59af1ee97792", func := "hailer/hailerlaw12.HeadBack", spec := "headBack", apart := false, narrowed := true }
def HeadBackUptoSaid : Prop := headBackUptoRow.holds Try.pinned (OpenSpec.upto headBackSpec)

end Rows
end Go.Proofs.Ytmbefbmpjkbnmaa
