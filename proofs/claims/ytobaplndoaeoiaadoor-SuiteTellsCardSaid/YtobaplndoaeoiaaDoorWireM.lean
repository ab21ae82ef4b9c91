/-
  Fields' bytes, as numbers and lists. No program is named here.
-/
import Derived.Test.YtobaplndoaeoiaaDoorBase
namespace Go.Proofs.YtobaplndoaeoiaaDoor

set_option maxRecDepth 100000

/-- The bytes of a number, the highest first. -/
def nbF (n many i : Nat) : Nat := n / 256 ^ (many - 1 - i) % 256
theorem nbF_lt (n many i : Nat) : nbF n many i < 256 := Nat.mod_lt _ (by decide)
/-- The number of bytes, the highest first. -/
def ofB8 (f : Nat → Nat) : Nat → Nat
  | 0 => 0
  | k + 1 => 256 * ofB8 f k + f k
theorem ofB8_lt (f : Nat → Nat) (hf : ∀ i, f i < 256) : ∀ k, ofB8 f k < 256 ^ k
  | 0 => by rw [Nat.pow_zero]; exact Nat.zero_lt_one
  | k + 1 => by
    have h1 := ofB8_lt f hf k
    have h2 := hf k
    show 256 * ofB8 f k + f k < 256 ^ (k + 1)
    rw [Nat.pow_succ]
    omega
theorem ofB8_congr (f g : Nat → Nat) : ∀ k, (∀ i, i < k → f i = g i) → ofB8 f k = ofB8 g k
  | 0, _ => rfl
  | k + 1, h => by
    show 256 * ofB8 f k + f k = 256 * ofB8 g k + g k
    rw [ofB8_congr f g k (fun i hi => h i (by omega)), h k (by omega)]
theorem pow256 (k : Nat) (hk : k ≤ 8) : 256 ^ k ≤ 18446744073709551616 := by
  have : (256 : Nat) ^ k ≤ 256 ^ 8 := Nat.pow_le_pow_right (by decide) hk
  exact this
/-- What is put is taken as it was. -/
theorem ofB8_nbF (n many : Nat) : ∀ k, k ≤ many → ofB8 (nbF n many) k = n / 256 ^ (many - k) % 256 ^ k
  | 0, _ => by rw [Nat.pow_zero, Nat.mod_one]; rfl
  | k + 1, h => by
    show 256 * ofB8 (nbF n many) k + nbF n many k = _
    rw [ofB8_nbF n many k (by omega)]
    unfold nbF
    rw [show many - 1 - k = many - (k + 1) by omega]
    have e : n / 256 ^ (many - k) = n / 256 ^ (many - (k + 1)) / 256 := by
      rw [Nat.div_div_eq_div_mul, ← Nat.pow_succ, show (many - (k + 1)).succ = many - k by omega]
    rw [e, Nat.pow_succ, Nat.mul_comm (256 ^ k) 256, Nat.mod_mul]
    omega
theorem ofB8_number (n many : Nat) (h : n < 256 ^ many) : ofB8 (nbF n many) many = n := by
  rw [ofB8_nbF n many many (Nat.le_refl _), Nat.sub_self, Nat.pow_zero, Nat.div_one, Nat.mod_eq_of_lt h]
/-- Bytes are those of their number. -/
theorem nbF_ofB8 (f : Nat → Nat) (hf : ∀ i, f i < 256) : ∀ k i, i < k → nbF (ofB8 f k) k i = f i
  | k + 1, i, h => by
    have h2 := hf k
    have key : ofB8 f (k + 1) = 256 * ofB8 f k + f k := rfl
    unfold nbF
    rw [key]
    by_cases e : i = k
    · subst e
      rw [show i + 1 - 1 - i = 0 by omega, Nat.pow_zero, Nat.div_one]
      omega
    · rw [show k + 1 - 1 - i = (k - 1 - i) + 1 by omega, Nat.pow_succ, Nat.mul_comm (256 ^ (k - 1 - i)) 256, ← Nat.div_div_eq_div_mul, show (256 * ofB8 f k + f k) / 256 = ofB8 f k by omega]
      exact nbF_ofB8 f hf k i (by omega)
end Go.Proofs.YtobaplndoaeoiaaDoor
