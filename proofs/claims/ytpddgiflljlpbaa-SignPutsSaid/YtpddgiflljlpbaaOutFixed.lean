/-
  wire's Out: Fixed.
-/
import Derived.Test.YtpddgiflljlpbaaOutRd
namespace Go.Proofs.Ytpddgiflljlpbaa
open Go.RowKit

set_option maxRecDepth 100000
set_option maxHeartbeats 4000000

theorem outFixed_any {w0 w : World} {p : Option Addr} {s : OSt} (D m cv : Nat) (av : Option Addr) (f : Nat → Nat) (tb o c : Nat) (h : OAt w0 w p s) (hc : w.cell? ⟨tb, o, none⟩ = some (.slice av m cv)) (hR : Rd w D av m f) (hm : s.len + m ≤ 2 ^ 46) :
    Calls Try.prog 18 #[.pointer p, .slice (some ⟨tb, o, none⟩) 1 c] w (OSays w0 p (s.put m f)) := by
  have HP := Lib.hid (outPut_any D m cv av f h hR hm)
  clear h hm hR
  go_enter Try.func18, Try.ntmps18
  go_wp2_with fail
  go_loopw [8] (fun u8 wr => (u8 = .int .i64 0 ∧ w = wr) ∨ (u8 = .int .i64 1 ∧ OAt w0 wr p (s.put m f))) (fun u8 _ => 2 - (intOf u8).toNat)
  case atStart => exact Or.inl ⟨rfl, rfl⟩
  case round =>
    rcases hrel with ⟨rfl, rfl⟩ | ⟨rfl, hE⟩
    · go_wp2_with fail
      go_at_call 36
      refine HP.out.mono ?_
      rintro e w' ⟨rfl, hE⟩
      have HE := Lib.hid hE
      clear hE HP
      go_wp2_with fail
      go_roundw
      case rel => exact Or.inr ⟨rfl, HE.out⟩
      case measure => decide
    · have HE := Lib.hid hE
      clear hE
      go_wp2_with fail
      go_end0
      exact ⟨rfl, HE.out⟩
end Go.Proofs.Ytpddgiflljlpbaa
