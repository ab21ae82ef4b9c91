/-
  Sums, differences and products modulo 2^255 - 19: the laws. No program is named here.
-/
import Derived.Test.YteglnceidneigaaFieldInv
namespace Go.Proofs.Yteglnceidneigaa

theorem fAdd_comm (a b : Nat) : fAdd a b = fAdd b a := by
  unfold fAdd
  rw [Nat.add_comm]
theorem fMul_comm (a b : Nat) : fMul a b = fMul b a := by
  unfold fMul
  rw [Nat.mul_comm]
theorem fAdd_assoc (a b c : Nat) : fAdd (fAdd a b) c = fAdd a (fAdd b c) := by
  unfold fAdd
  rw [Nat.mod_add_mod, Nat.add_mod_mod, Nat.add_assoc]
theorem fMul_assoc (a b c : Nat) : fMul (fMul a b) c = fMul a (fMul b c) := by
  unfold fMul
  rw [Nat.mod_mul_mod, Nat.mul_mod_mod, Nat.mul_assoc]
theorem fMul_add (a b c : Nat) : fMul a (fAdd b c) = fAdd (fMul a b) (fMul a c) := by
  unfold fMul fAdd
  rw [Nat.mul_mod_mod, Nat.mul_add, Nat.add_mod]
theorem fSub_add (a b : Nat) (ha : a < pF) (hb : b < pF) : fSub (fAdd a b) b = a := by
  unfold fSub fAdd
  generalize pF = p at *
  by_cases e : a + b < p
  · rw [Nat.mod_eq_of_lt e, show a + b + p - b = a + p by omega, Nat.add_mod_right, Nat.mod_eq_of_lt ha]
  · have h : (a + b) % p = a + b - p := by rw [Nat.mod_eq_sub_mod (by omega), Nat.mod_eq_of_lt (by omega)]
    rw [h, show a + b - p + p - b = a by omega, Nat.mod_eq_of_lt ha]
theorem fSub_self (a : Nat) : fSub a a = 0 := by
  unfold fSub
  rw [Nat.add_sub_cancel_left, Nat.mod_self]
theorem fMul_one (a : Nat) (ha : a < pF) : fMul a 1 = a := by
  unfold fMul
  rw [Nat.mul_one, Nat.mod_eq_of_lt ha]
theorem fInv_one (a : Nat) (ha : a < pF) (h0 : a ≠ 0) : fMul a (fInv a) = 1 := fInv_mul a (by rw [Nat.mod_eq_of_lt ha]; exact h0)
end Go.Proofs.Yteglnceidneigaa
