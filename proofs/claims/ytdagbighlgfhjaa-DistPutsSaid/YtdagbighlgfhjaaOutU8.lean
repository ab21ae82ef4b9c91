/-
  wire's Out: U8.
-/
import Derived.Test.YtdagbighlgfhjaaOutKit
namespace Go.Proofs.Ytdagbighlgfhjaa
open Go.RowKit

set_option maxRecDepth 100000
set_option maxHeartbeats 4000000

theorem outU8_any {w0 w : World} {p : Option Addr} {s : OSt} (D m c : Nat) (a : Option Addr) (f : Nat → Nat) (h : OAt w0 w p s) (hR : Rd w D a m f) (hm : s.len + m ≤ 2 ^ 46) : Calls Try.prog 123 #[.pointer p, .slice a m c] w (OSays w0 p (s.put m f)) := by
  have HP := Lib.hid (outPut_any D m c a f h hR hm)
  clear h hR hm
  go_enter Try.func123, Try.ntmps123
  go_wp2_with fail
  go_at_call 132
  refine HP.out.mono ?_
  rintro e w' ⟨rfl, hE⟩
  have HE := Lib.hid hE
  clear hE HP
  go_wp2_with fail
  go_end0
  exact ⟨rfl, HE.out⟩
end Go.Proofs.Ytdagbighlgfhjaa
