/-
  S of a byte, as the document has it: numbers.
-/
import Derived.Test.YtapmpjmhcloejaaDoorRefAes1
namespace Go.Proofs.YtapmpjmhcloejaaDoor
open Go.RowKit

set_option maxRecDepth 100000
set_option maxHeartbeats 1000000

def kL : List Nat := [0, 4, 5, 6, 7]
def affS (y i : Nat) : Nat → Nat
  | 0 => 0
  | j + 1 => affS y i j + y / 2 ^ ((i + kL.getD j 0) % 8) % 2
theorem affS_le (y i : Nat) : ∀ j, affS y i j ≤ j
  | 0 => by simp [affS]
  | j + 1 => by
    have := affS_le y i j
    unfold affS
    omega
theorem affS_end (y i : Nat) (hi : i < 8) : affS y i 5 + 99 / 2 ^ i % 2 = affN y i := by
  unfold affN
  show 0 + y / 2 ^ ((i + 0) % 8) % 2 + y / 2 ^ ((i + 4) % 8) % 2 + y / 2 ^ ((i + 5) % 8) % 2 + y / 2 ^ ((i + 6) % 8) % 2 + y / 2 ^ ((i + 7) % 8) % 2 + 99 / 2 ^ i % 2 = _
  rw [Nat.zero_add, Nat.add_zero, Nat.mod_eq_of_lt hi]
theorem kL_lt (j : Nat) : kL.getD j 0 < 8 := getD_lt 8 (by decide) kL (by decide) j

theorem tmsF_none : ∀ k b, tmsF k 0 0 b = 0
  | 0, _ => rfl
  | k + 1, b => by
    show tmsF k (0 ^^^ 0 * (b % 2)) (xt 0) (b / 2) = 0
    rw [Nat.zero_mul]
    exact tmsF_none k (b / 2)
theorem invTo_none : ∀ i, invTo 0 i = 0
  | 0 => rfl
  | i + 1 => by
    unfold invTo
    rw [if_neg (by unfold tms; rw [tmsF_none]; decide)]
    exact invTo_none i

/-- One bit more of S. -/
theorem aff_step (y i : Nat) : aff y (i + 1) = aff y i + affN y i % 2 * 2 ^ i := rfl


end Go.Proofs.YtapmpjmhcloejaaDoor
