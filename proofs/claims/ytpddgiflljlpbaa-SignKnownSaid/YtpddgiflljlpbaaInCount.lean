/-
  wire's In: count.
-/
import Derived.Test.YtpddgiflljlpbaaInNum
namespace Go.Proofs.Ytpddgiflljlpbaa
open Go.RowKit

set_option maxRecDepth 100000
set_option maxHeartbeats 4000000

/-- How many there are, of which there may be so many. -/
def ISt.cntS (L : Nat) (F : Nat → Nat) (s : ISt) (most : Int) : ISt := if most < (s.num L F 2 : Int) then (s.take L 2).fail else s.take L 2
def ISt.cntV (L : Nat) (F : Nat → Nat) (s : ISt) (most : Int) : Nat := if most < (s.num L F 2 : Int) then 0 else s.num L F 2
theorem ISt.cntV_lt (L : Nat) (F : Nat → Nat) (s : ISt) (most : Int) (hF : ∀ i, F i < 256) : s.cntV L F most < 65536 := by
  unfold ISt.cntV
  split
  · decide
  · exact ISt.num_lt L F s 2 hF
theorem inCount_any {w : World} {p : Option Addr} {L : Nat} {F : Nat → Nat} {s : ISt} (most : Int) (h : IAt w p L F s) (hF : ∀ i, F i < 256) : Calls Try.prog 70 #[.pointer p, .int .i64 most] w fun e w' => e = .returned (.int .i64 (s.cntV L F most : Nat)) ∧ ISays w p L F (s.cntS L F most) w' := by
  have HN := Lib.hid (inNumber_any 2 h (by decide) hF)
  have hlt := ISt.num_lt L F s 2 hF
  unfold ISt.cntV ISt.cntS
  obtain ⟨v, hv⟩ : ∃ v, v = s.num L F 2 := ⟨_, rfl⟩
  rw [← hv] at hlt ⊢
  have HV := Lib.hid hv
  have l0 : (v : Int) < 65536 := by omega
  clear h hF hv hlt
  by_cases h1 : most < (v : Int)
  · rw [if_pos h1, if_pos h1]
    go_enter Try.func70, Try.ntmps70
    go_wp2_with fail
    go_at_call 38
    refine HN.out.mono ?_
    rintro e w1 ⟨rfl, hE⟩
    rw [← HV.out]
    have HF := Lib.hid (inFail_any hE.st)
    have G1 := Lib.hid hE.gr
    clear hE HN
    go_wp2_with fail
    go_at_call 67
    refine HF.out.mono ?_
    rintro e w2 ⟨rfl, hE⟩
    have HE : Hid (ISays w p L F (s.take L 2).fail w2) := ⟨hE.st, grown_trans G1.out hE.gr⟩
    clear hE HF
    go_wp2_with fail
    go_ret
    exact ⟨rfl, HE.out⟩
  · rw [if_neg h1, if_neg h1]
    have j1 : decide (most < (v : Int)) = false := decide_eq_false h1
    clear h1
    go_enter Try.func70, Try.ntmps70
    go_wp2_with fail
    go_at_call 38
    refine HN.out.mono ?_
    rintro e w1 ⟨rfl, hE⟩
    rw [← HV.out]
    have HE := Lib.hid hE
    clear hE HN
    go_wp2_with fail
    go_ret
    exact ⟨rfl, HE.out⟩
end Go.Proofs.Ytpddgiflljlpbaa
