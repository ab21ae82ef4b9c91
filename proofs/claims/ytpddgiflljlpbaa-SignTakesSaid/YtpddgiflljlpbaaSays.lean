/-
  True, and nothing that was is turned. No program is named here.
-/
import Derived.Test.YtpddgiflljlpbaaBase
namespace Go.Proofs.Ytpddgiflljlpbaa
open Go.RowKit

/-- True, and nothing that was is turned. -/
structure SaysYes (w : World) (e : Ending) (w' : World) : Prop where
  ex : e = .returned (.bool true) ∧ w.grownBy w' none
end Go.Proofs.Ytpddgiflljlpbaa
