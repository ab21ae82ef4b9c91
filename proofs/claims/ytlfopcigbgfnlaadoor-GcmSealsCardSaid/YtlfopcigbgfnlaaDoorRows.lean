/-
  NARROWER THAN 'FOR EVERY INPUT', by the rows' own cells (each row's printed sentence says how): GcmSeals: laid · GcmSums: laid.
  DERIVED. THE GIVEN ROWS OF THIS SEAT. 2 by the template 'for every input the law returns true; each argument reads behind the call as it read before'; 0 by the template 'total and deterministic' (their statements: YtlfopcigbgfnlaaDoorTotals.lean).
  GIVEN WITH THE SEED: the statements are not yours to turn. If you find one false, say at which input.
  Laid BY PROGRAM, IN A SANDBOX (cutbox-rows.mjs): the forced cells as the released guide's own fill.sh prints them over the translation 0868c5e6173c3d4d… (all of the seat's roots in one cut). By AI agents, Wed Nov 11 2026. No macro, syntax, notation, axiom, sorry.
-/
import Derived.Test.YtlfopcigbgfnlaaDoorChecked
import GoSem.Claim
import GoSem.ClaimJoined
import GoSem.ClaimMapViews
import Derived.JoinedTies
import Derived.KernelRfl
namespace Go.Proofs.YtlfopcigbgfnlaaDoor
/- THE CELL 'sum', in the pinned program and in every row, IS THE sha256 OF THE DUMP (.gsa) THAT YtlfopcigbgfnlaaDoorProg.lean LOADS. Nothing in Lean hashes anything: it is a label: what it is worth is what the hold of that sum in a sandbox is worth. -/
noncomputable def Tryd.pinned : Pinned := { name := "ytlfopcigbgfnlaadoor", sum := "0868c5e6173c3d4d371266a49918a849fa0e88680e20d441e7ae53d41d30f931", checked := Tryd.checked }
namespace Rows
def none {H : Type} : Left H := { results := [], args := [] }

/- WHAT THE LISTED PACKAGE-LEVEL VARIABLES READ AS WHEN THE CALL BEGINS. Each datum BY PROGRAM (the guide's laid-datum.mjs) off the statement by which the dump's own 'gosem.cut.vars' lays the variable. In a bare row this is a premise. The card (YtlfopcigbgfnlaaDoorCards.lean) ties it to the program's text. -/
def laid_hailer_aes_sWords {H : Type} : DataW H := .agg [.lit (.int .u64 7168736081098796997), .lit (.int .u64 3459159427454053238), .lit (.int .u64 14592447285542078448), .lit (.int .u64 12525815338755191488), .lit (.int .u64 13257914670376810444), .lit (.int .u64 3793691086289383701), .lit (.int .u64 344283217355212186), .lit (.int .u64 509611419942498933), .lit (.int .u64 685440058931436192), .lit (.int .u64 5925565799726264196), .lit (.int .u64 6039609593741226331), .lit (.int .u64 7695453541561555151), .lit (.int .u64 15055440075465503621), .lit (.int .u64 5042064003648233384), .lit (.int .u64 5882616523660278005), .lit (.int .u64 13598295960445776850), .lit (.int .u64 14775206383432713239), .lit (.int .u64 14170433554686482803), .lit (.int .u64 6953927106521370760), .lit (.int .u64 5111225026881653723), .lit (.int .u64 16155038629180613724), .lit (.int .u64 14038754002793260153), .lit (.int .u64 16701660161774014121), .lit (.int .u64 7806696291655396872), .lit (.int .u64 13436530368239285446), .lit (.int .u64 16779695464415857546), .lit (.int .u64 8088101431703500302), .lit (.int .u64 7004601249786043806), .lit (.int .u64 16282931653315759764), .lit (.int .u64 11177520763438967007), .lit (.int .u64 10133531328707445352), .lit (.int .u64 4726858829308148502)]

/-- 'hailerlaw05.GcmSeals': WHATEVER THE INPUT: true; the input reads as it did. -/
def gcmSealsSpec : ChangeSpec := { name := "gcmSeals", fn := fun _ => fun
  | [d1, d2, d3, d4, d5] => { results := [.lit (.bool true)], args := [d1, d2, d3, d4, d5] }
  | _ => none }
def gcmSealsRow : OpenClaim := { program := "ytlfopcigbgfnlaadoor", sum := "0868c5e6173c3d4d371266a49918a849fa0e88680e20d441e7ae53d41d30f931", func := "hailer/hailerlaw05.GcmSeals", spec := "gcmSeals", unfollowed := true, recurses := true, named := ["hailer/aes.sWords"], apart := false, laid := [("hailer/aes.sWords", laid_hailer_aes_sWords)] }
def GcmSealsSaid : Prop := gcmSealsRow.holds Tryd.pinned (OpenSpec.ofChange gcmSealsSpec)

/-- ITS FALSE NEIGHBOUR: 'it returns false'. Refute it at one input. -/
def gcmSealsWrong : ChangeSpec := { name := "gcmSeals", fn := fun _ => fun
  | [d1, d2, d3, d4, d5] => { results := [.lit (.bool false)], args := [d1, d2, d3, d4, d5] }
  | _ => none }
def GcmSealsWrongFalsely : Prop := gcmSealsRow.holds Tryd.pinned (OpenSpec.ofChange gcmSealsWrong)

/-- 'hailerlaw05.GcmSums': WHATEVER THE INPUT: true; the input reads as it did. -/
def gcmSumsSpec : ChangeSpec := { name := "gcmSums", fn := fun _ => fun
  | [d1, d2, d3] => { results := [.lit (.bool true)], args := [d1, d2, d3] }
  | _ => none }
def gcmSumsRow : OpenClaim := { program := "ytlfopcigbgfnlaadoor", sum := "0868c5e6173c3d4d371266a49918a849fa0e88680e20d441e7ae53d41d30f931", func := "hailer/hailerlaw05.GcmSums", spec := "gcmSums", unfollowed := true, recurses := true, named := ["hailer/aes.sWords"], apart := false, laid := [("hailer/aes.sWords", laid_hailer_aes_sWords)] }
def GcmSumsSaid : Prop := gcmSumsRow.holds Tryd.pinned (OpenSpec.ofChange gcmSumsSpec)

/-- ITS FALSE NEIGHBOUR: 'it returns false'. Refute it at one input. -/
def gcmSumsWrong : ChangeSpec := { name := "gcmSums", fn := fun _ => fun
  | [d1, d2, d3] => { results := [.lit (.bool false)], args := [d1, d2, d3] }
  | _ => none }
def GcmSumsWrongFalsely : Prop := gcmSumsRow.holds Tryd.pinned (OpenSpec.ofChange gcmSumsWrong)

/- THE SECOND FORM. 'bulk': how many values and letters a reading holds, each counted each time it is reached (what is shared counts as often as it is met; a slice's spare places count too). A statement '..UptoSaid' is the law's where the arguments, and the package variables that the reading takes, are together of bulk at most 1048576: NARROWER than '..Said'. Prove '..Said' where nothing that the law and all that it calls make is longer than what came in: it says more and counts as full. Else prove '..UptoSaid'. A law counts once. -/
mutual
def uptoBulk {H : Type} : DataW H → Nat
  | .lit (.string bytes) => bytes.length + 1
  | .lit _ => 1
  | .nil => 1
  | .ptr d => uptoBulk d + 1
  | .slice elems spare => uptoBulkAll elems + uptoBulkAll spare + 1
  | .agg parts => uptoBulkAll parts + 1
  | .iface _ d => uptoBulk d + 1
  | .map entries => uptoBulkEntries entries + 1
  | .held _ => 1
def uptoBulkAll {H : Type} : List (DataW H) → Nat
  | [] => 0
  | d :: r => uptoBulk d + uptoBulkAll r
def uptoBulkEntries {H : Type} : List (Lit × DataW H) → Nat
  | [] => 0
  | x :: r => uptoBulkEntry x + uptoBulkEntries r
def uptoBulkEntry {H : Type} : Lit × DataW H → Nat
  | (.string bytes, d) => bytes.length + uptoBulk d + 1
  | (_, d) => uptoBulk d + 1
 end
def uptoSmall : (H : Type) → List (DataW H) → Bool := fun _ ds => decide (uptoBulkAll ds ≤ 1048576)
def OpenSpec.upto (s : _root_.Go.ChangeSpec) : _root_.Go.OpenSpec := { _root_.Go.OpenSpec.ofChange s with cond := some uptoSmall }

/-- 'hailerlaw05.GcmSeals', WHERE WHAT IT READS IS OF BULK AT MOST 1048576: true; the input reads as it did. -/
def gcmSealsUptoRow : OpenClaim := { program := "ytlfopcigbgfnlaadoor", sum := "0868c5e6173c3d4d371266a49918a849fa0e88680e20d441e7ae53d41d30f931", func := "hailer/hailerlaw05.GcmSeals", spec := "gcmSeals", unfollowed := true, recurses := true, named := ["hailer/aes.sWords"], apart := false, laid := [("hailer/aes.sWords", laid_hailer_aes_sWords)], narrowed := true }
def GcmSealsUptoSaid : Prop := gcmSealsUptoRow.holds Tryd.pinned (OpenSpec.upto gcmSealsSpec)

/-- 'hailerlaw05.GcmSums', WHERE WHAT IT READS IS OF BULK AT MOST 1048576: true; the input reads as it did. -/
def gcmSumsUptoRow : OpenClaim := { program := "ytlfopcigbgfnlaadoor", sum := "0868c5e6173c3d4d371266a49918a849fa0e88680e20d441e7ae53d41d30f931", func := "hailer/hailerlaw05.GcmSums", spec := "gcmSums", unfollowed := true, recurses := true, named := ["hailer/aes.sWords"], apart := false, laid := [("hailer/aes.sWords", laid_hailer_aes_sWords)], narrowed := true }
def GcmSumsUptoSaid : Prop := gcmSumsUptoRow.holds Tryd.pinned (OpenSpec.upto gcmSumsSpec)

end Rows
end Go.Proofs.YtlfopcigbgfnlaaDoor
