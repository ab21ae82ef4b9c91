/-
  The suites, and the bytes that are expanded by, as numbers. No program is named here.
-/
import Derived.Test.YtobaplndoaeoiaaDoorWireM
import Derived.Test.YtobaplndoaeoiaaDoorOwnR
namespace Go.Proofs.YtobaplndoaeoiaaDoor

set_option maxRecDepth 100000

/-- A suite's hash, and how many bytes its key, its encryption's part, its tag, a sum have. -/
def hN (n : Nat) : Nat := if n = 5 then 2 else 1
def kN (n : Nat) : Nat := if n = 5 then 32 else if n = 4 then 16 else 48
def eN (n : Nat) : Nat := if n = 5 then 32 else 16
def tN (n : Nat) : Nat := if n = 1 then 10 else if n = 2 then 8 else if n = 3 then 4 else 16
def sN (n : Nat) : Nat := if n = 5 then 64 else 32
def IsSuite (n : Nat) : Prop := n = 1 ∨ n = 2 ∨ n = 3 ∨ n = 4 ∨ n = 5
theorem not_suite {n : Nat} (h : ¬ IsSuite n) : n ≠ 1 ∧ n ≠ 2 ∧ n ≠ 3 ∧ n ≠ 4 ∧ n ≠ 5 := by
  unfold IsSuite at h
  omega

/-- A text, a key id, a suite. -/
def labF (m : Nat) (t : Nat → Nat) (kid n : Nat) : Nat → Nat := fun i => if i < m then t i else if i < m + 8 then nbF kid 8 (i - m) else nbF n 2 (i - m - 8)
theorem labF_lt (m : Nat) (t : Nat → Nat) (kid n : Nat) (ht : ∀ i, t i < 256) (i : Nat) : labF m t kid n i < 256 := by
  unfold labF
  split
  · exact ht i
  · split
    · exact nbF_lt _ _ _
    · exact nbF_lt _ _ _
/-- So far. -/
theorem labF_next (m k kid n : Nat) (t : Nat → Nat) (hk : k < 8) (i : Nat) (hi : i < m + k + 1) : cat (m + k) (labF m t kid n) (fun _ => nbF kid 8 k) i = labF m t kid n i := by
  unfold cat
  by_cases h : i < m + k
  · rw [if_pos h]
  · rw [if_neg h]
    obtain rfl : i = m + k := by omega
    unfold labF
    rw [if_neg (by omega), if_pos (by omega), show m + k - m = k by omega]
def twoF (v u : Nat) (k : Nat) : Nat := if k = 0 then v else u
theorem labF_end (m kid n : Nat) (t : Nat → Nat) (i : Nat) (hi : i < m + 8 + 2) : cat (m + 8) (labF m t kid n) (twoF (n / 256 % 256) (n % 256)) i = labF m t kid n i := by
  unfold cat
  by_cases h : i < m + 8
  · rw [if_pos h]
  · rw [if_neg h]
    unfold labF
    rw [if_neg (by omega), if_neg h]
    obtain rfl | rfl : i = m + 8 ∨ i = m + 9 := by omega
    · rw [show m + 8 - (m + 8) = 0 by omega, show m + 8 - m - 8 = 0 by omega]
      unfold twoF nbF
      rw [if_pos rfl]
    · rw [show m + 9 - (m + 8) = 1 by omega, show m + 9 - m - 8 = 1 by omega]
      unfold twoF nbF
      rw [if_neg (by decide), show 2 - 1 - 1 = 0 from rfl, Nat.pow_zero, Nat.div_one]
theorem labF_cat (m kid n : Nat) (t : Nat → Nat) (i : Nat) (hi : i < m + 8) : cat m t (nbF kid 8) i = labF m t kid n i := by
  unfold cat labF
  by_cases h : i < m
  · rw [if_pos h, if_pos h]
  · rw [if_neg h, if_neg h, if_pos hi]

/-- A counter's nonce. -/
def nonF (s : Nat → Nat) (c : Nat) : Nat → Nat := fun i => if i < 4 then s i else s i ^^^ nbF c 8 (i - 4)
theorem nonF_lt (s : Nat → Nat) (c : Nat) (hs : ∀ i, s i < 256) (i : Nat) : nonF s c i < 256 := by
  unfold nonF
  split
  · exact hs i
  · exact Nat.xor_lt_two_pow (n := 8) (hs i) (nbF_lt _ _ _)
theorem xor_left_eq {a b c : Nat} (h : a ^^^ b = a ^^^ c) : b = c := by
  have : a ^^^ (a ^^^ b) = a ^^^ (a ^^^ c) := by rw [h]
  rwa [← Nat.xor_assoc, ← Nat.xor_assoc, Nat.xor_self, Nat.zero_xor, Nat.zero_xor] at this
/-- Unlike counters have unlike nonces. -/
theorem nonF_inj (s : Nat → Nat) (a b : Nat) (ha : a < 18446744073709551616) (hb : b < 18446744073709551616) (h : ∀ i, i < 12 → nonF s a i = nonF s b i) : a = b := by
  have h8 : ∀ i, i < 8 → nbF a 8 i = nbF b 8 i := fun i hi => by
    have := h (i + 4) (by omega)
    unfold nonF at this
    rw [if_neg (by omega), if_neg (by omega), Nat.add_sub_cancel] at this
    exact xor_left_eq this
  rw [← ofB8_number a 8 ha, ← ofB8_number b 8 hb, ofB8_congr _ _ 8 h8]
theorem nonF_zero (s : Nat → Nat) (i : Nat) : nonF s 0 i = s i := by
  unfold nonF nbF
  split
  · rfl
  · rw [Nat.zero_div, Nat.zero_mod, Nat.xor_zero]
end Go.Proofs.YtobaplndoaeoiaaDoor
