/-
  wire's In: Flag.
-/
import Derived.Test.YtmbefbmpjkbnmaaInU8
namespace Go.Proofs.Ytmbefbmpjkbnmaa
open Go.RowKit

set_option maxRecDepth 100000
set_option maxHeartbeats 4000000

/-- A truth value. -/
def ISt.flagS (L : Nat) (F : Nat → Nat) (s : ISt) : ISt := if 1 < s.num L F 1 then (s.take L 1).fail else s.take L 1
theorem inFlag_any {w : World} {p : Option Addr} {L : Nat} {F : Nat → Nat} {s : ISt} (h : IAt w p L F s) (hF : ∀ i, F i < 256) : Calls Try.prog 135 #[.pointer p] w fun e w' => e = .returned (.bool (decide (s.num L F 1 = 1))) ∧ ISays w p L F (s.flagS L F) w' := by
  have HN := Lib.hid (inU8_any h hF)
  unfold ISt.flagS
  obtain ⟨v, hv⟩ : ∃ v, v = s.num L F 1 := ⟨_, rfl⟩
  rw [← hv] at HN ⊢
  clear h hF hv
  by_cases h1 : 1 < v
  · rw [if_pos h1, decide_eq_false (show ¬ v = 1 by omega)]
    have j1 : (1 : Int) < (v : Int) := by omega
    have j2 : ((v : Int) == 1) = false := beq_eq_false_iff_ne.2 (by omega)
    clear h1
    go_enter Try.func135, Try.ntmps135
    go_wp2_with fail
    go_at_call 127
    refine HN.out.mono ?_
    rintro e w1 ⟨rfl, hE⟩
    have HF := Lib.hid (inFail_any hE.st)
    have G1 := Lib.hid hE.gr
    clear hE HN
    go_wp2_with fail
    go_at_call 132
    refine HF.out.mono ?_
    rintro e w2 ⟨rfl, hE⟩
    have HE : Hid (ISays w p L F (s.take L 1).fail w2) := ⟨hE.st, grown_trans G1.out hE.gr⟩
    clear hE HF
    go_wp2_with fail
    go_ret
    exact ⟨rfl, HE.out⟩
  · rw [if_neg h1]
    have j1 : ¬ (1 : Int) < (v : Int) := by omega
    obtain rfl | rfl : v = 0 ∨ v = 1 := by omega
    · clear h1 j1
      go_enter Try.func135, Try.ntmps135
      go_wp2_with fail
      go_at_call 127
      refine HN.out.mono ?_
      rintro e w1 ⟨rfl, hE⟩
      have HE := Lib.hid hE
      clear hE HN
      go_wp2_with fail
      go_ret
      exact ⟨rfl, HE.out⟩
    · clear h1 j1
      go_enter Try.func135, Try.ntmps135
      go_wp2_with fail
      go_at_call 127
      refine HN.out.mono ?_
      rintro e w1 ⟨rfl, hE⟩
      have HE := Lib.hid hE
      clear hE HN
      go_wp2_with fail
      go_ret
      exact ⟨rfl, HE.out⟩
end Go.Proofs.Ytmbefbmpjkbnmaa
