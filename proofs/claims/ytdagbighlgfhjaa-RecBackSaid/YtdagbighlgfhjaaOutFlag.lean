/-
  wire's Out: Flag.
-/
import Derived.Test.YtdagbighlgfhjaaOutRd
import Derived.Test.YtdagbighlgfhjaaOutU8
namespace Go.Proofs.Ytdagbighlgfhjaa
open Go.RowKit

set_option maxRecDepth 100000
set_option maxHeartbeats 4000000

/-- A truth value as a byte. -/
def flagB (b : Bool) : Nat := if b then 1 else 0
theorem outFlag_any {w0 w : World} {p : Option Addr} {s : OSt} (b : Bool) (tb o c : Nat) (h : OAt w0 w p s) (hc : w.cell? ⟨tb, o, none⟩ = some (.bool b)) (hm : s.len + 1 ≤ 2 ^ 46) :
    Calls Try.prog 124 #[.pointer p, .slice (some ⟨tb, o, none⟩) 1 c] w (OSays w0 p (s.put 1 (fun _ => flagB b))) := by
  have H := Lib.hid h
  have HM := Lib.hid hm
  clear h hm
  go_enter Try.func124, Try.ntmps124
  go_wp2_with fail
  go_loopw [8] (fun u8 wr => (u8 = .int .i64 0 ∧ w = wr) ∨ (u8 = .int .i64 1 ∧ OAt w0 wr p (s.put 1 (fun _ => flagB b)))) (fun u8 _ => 2 - (intOf u8).toNat)
  case atStart => exact Or.inl ⟨rfl, rfl⟩
  case round =>
    rcases hrel with ⟨rfl, rfl⟩ | ⟨rfl, hE⟩
    · cases b with
      | false =>
        have g1 := World.grownBy_alloc w (.cells #[.int .u8 0] 5) none
        have HP := Lib.hid (outU8_any _ 1 1 _ _ (H.out.grown g1) (rd_one w 0 (w.heap.size + 1) (by omega)) HM.out)
        clear g1
        go_wp2_with fail
        go_at_call 123
        refine HP.out.mono ?_
        rintro e w' ⟨rfl, hE⟩
        have HE := Lib.hid hE
        clear hE HP
        go_wp2_with fail
        go_roundw
        case rel => exact Or.inr ⟨rfl, HE.out⟩
        case measure => decide
      | true =>
        have g1 := World.grownBy_alloc w (.cells #[.int .u8 1] 5) none
        have HP := Lib.hid (outU8_any _ 1 1 _ _ (H.out.grown g1) (rd_one w 1 (w.heap.size + 1) (by omega)) HM.out)
        clear g1
        go_wp2_with fail
        go_at_call 123
        refine HP.out.mono ?_
        rintro e w' ⟨rfl, hE⟩
        have HE := Lib.hid hE
        clear hE HP
        go_wp2_with fail
        go_roundw
        case rel => exact Or.inr ⟨rfl, HE.out⟩
        case measure => decide
    · have HE := Lib.hid hE
      clear hE
      go_wp2_with fail
      go_end0
      exact ⟨rfl, HE.out⟩
end Go.Proofs.Ytdagbighlgfhjaa
