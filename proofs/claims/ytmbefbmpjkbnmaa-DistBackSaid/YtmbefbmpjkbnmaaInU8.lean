/-
  wire's In: U8.
-/
import Derived.Test.YtmbefbmpjkbnmaaInNum
namespace Go.Proofs.Ytmbefbmpjkbnmaa
open Go.RowKit

set_option maxRecDepth 100000
set_option maxHeartbeats 4000000

theorem inU8_any {w : World} {p : Option Addr} {L : Nat} {F : Nat → Nat} {s : ISt} (h : IAt w p L F s) (hF : ∀ i, F i < 256) : Calls Try.prog 127 #[.pointer p] w fun e w' => e = .returned (.int .u8 (s.num L F 1 : Nat)) ∧ ISays w p L F (s.take L 1) w' := by
  have HN := Lib.hid (inNumber_any 1 h (by decide) hF)
  have HV := Lib.hid (ISt.num_lt L F s 1 hF)
  obtain ⟨v, hv⟩ : ∃ v, v = s.num L F 1 := ⟨_, rfl⟩
  rw [← hv] at HV ⊢
  have l0 : (v : Int) < 256 := by have := HV.out; omega
  have HVV := Lib.hid hv
  clear h hF hv
  go_enter Try.func127, Try.ntmps127
  go_wp2_with fail
  go_at_call 126
  refine HN.out.mono ?_
  rintro e w1 ⟨rfl, hE⟩
  rw [← HVV.out]
  have HE := Lib.hid hE
  clear hE HN
  go_wp2_with fail
  go_ret
  exact ⟨rfl, HE.out⟩
end Go.Proofs.Ytmbefbmpjkbnmaa
