/-
  wire's Out: U32.
-/
import Derived.Test.YtpddgiflljlpbaaOutKit
import Derived.Test.YtpddgiflljlpbaaOutNum32
namespace Go.Proofs.Ytpddgiflljlpbaa
open Go.RowKit

set_option maxRecDepth 100000
set_option maxHeartbeats 4000000

theorem outU32_any {w0 w : World} {p : Option Addr} {s : OSt} (x tb o c : Nat) (h : OAt w0 w p s) (hx : x < 4294967296) (hc : w.cell? ⟨tb, o, none⟩ = some (.int .u32 x)) (hm : s.len + 4 ≤ 2 ^ 46) :
    Calls Try.prog 50 #[.pointer p, .slice (some ⟨tb, o, none⟩) 1 c] w (OSays w0 p (s.put 4 (nbF x 4))) := by
  have HP := Lib.hid (outNum32_any x tb o c h hx hc hm)
  clear h hx hc hm
  go_enter Try.func50, Try.ntmps50
  go_wp2_with fail
  go_at_call 68
  refine HP.out.mono ?_
  rintro e w' ⟨rfl, hE⟩
  have HE := Lib.hid hE
  clear hE HP
  go_wp2_with fail
  go_end0
  exact ⟨rfl, HE.out⟩
end Go.Proofs.Ytpddgiflljlpbaa
