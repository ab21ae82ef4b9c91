/-
  wire's In: numbers' bounds.
-/
import Derived.Test.YtmbefbmpjkbnmaaInTake
namespace Go.Proofs.Ytmbefbmpjkbnmaa
open Go.RowKit

set_option maxRecDepth 100000
set_option maxHeartbeats 4000000

theorem ISt.num_lt (L : Nat) (F : Nat → Nat) (s : ISt) (n : Nat) (hF : ∀ i, F i < 256) : s.num L F n < 256 ^ n := by
  have h1 := ofB8_lt (fun i => F (s.off + i)) (fun i => hF _) (s.got L n)
  have h2 : 256 ^ (s.got L n) ≤ 256 ^ n := Nat.pow_le_pow_right (by decide) (ISt.got_le L s n)
  exact Nat.lt_of_lt_of_le h1 h2
theorem ISt.got_leL (L : Nat) (s : ISt) (n : Int) : s.got L n ≤ L := by
  cases s with
  | nil => exact Nat.zero_le _
  | bad => exact Nat.zero_le _
  | good a =>
    show (if 0 ≤ n ∧ n ≤ ((L - a : Nat) : Int) then n.toNat else 0) ≤ L
    split
    · omega
    · exact Nat.zero_le _
end Go.Proofs.Ytmbefbmpjkbnmaa
