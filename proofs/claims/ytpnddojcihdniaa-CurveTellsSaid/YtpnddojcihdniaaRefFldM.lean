/-
  The reference's reducing: its parts, and what becomes of them. No program is named here.
-/
import Derived.Test.YtpnddojcihdniaaFieldRef
namespace Go.Proofs.Ytpnddojcihdniaa

set_option maxRecDepth 100000

/-- The 16 parts, when i of the parts p have been added. -/
def redX (p : Nat → Nat) (i k : Nat) : Nat := (if k < i then p k else 0) + (if 16 + k < i then p (16 + k) * 38 else 0)
theorem redX_zero (p : Nat → Nat) (k : Nat) : redX p 0 k = 0 := by
  unfold redX
  rw [if_neg (Nat.not_lt_zero _), if_neg (Nat.not_lt_zero _)]
/-- What a part counts. -/
def fac (d : Nat) : Nat := 38 ^ d
theorem redX_step (p : Nat → Nat) (i : Nat) (hi : i < 32) (j : Nat) (hj : j < 16) : upd (redX p i) (i % 16) (redX p i (i % 16) + p i * fac (i / 16)) j = redX p (i + 1) j := by
  by_cases e : i < 16
  · have e1 : i % 16 = i := Nat.mod_eq_of_lt e
    have e2 : i / 16 = 0 := Nat.div_eq_of_lt e
    rw [e1, e2]
    show upd (redX p i) i (redX p i i + p i * 1) j = _
    unfold redX
    by_cases e3 : j = i
    · subst e3
      rw [upd_same, if_neg (by omega), if_neg (by omega), if_pos (by omega), if_neg (by omega)]
      omega
    · rw [upd_other _ _ _ _ e3, if_neg (show ¬ 16 + j < i by omega), if_neg (show ¬ 16 + j < i + 1 by omega)]
      by_cases e4 : j < i
      · rw [if_pos e4, if_pos (by omega)]
      · rw [if_neg e4, if_neg (by omega)]
  · have e1 : i % 16 = i - 16 := by omega
    have e2 : i / 16 = 1 := by omega
    rw [e1, e2]
    show upd (redX p i) (i - 16) (redX p i (i - 16) + p i * 38) j = _
    unfold redX
    by_cases e3 : j = i - 16
    · subst e3
      rw [upd_same, if_pos (by omega), if_neg (by omega), if_pos (by omega), if_pos (by omega), show 16 + (i - 16) = i by omega]
      omega
    · rw [upd_other _ _ _ _ e3, if_pos (show j < i by omega), if_pos (show j < i + 1 by omega)]
      by_cases e4 : 16 + j < i
      · rw [if_pos e4, if_pos (by omega)]
      · rw [if_neg e4, if_neg (by omega)]
theorem redX_le (p : Nat → Nat) (n : Nat) (hp : ∀ i, i < n → p i ≤ 68719476736) (i : Nat) (hi : i ≤ n) (k : Nat) : redX p i k ≤ 39 * 68719476736 := by
  unfold redX
  have h1 : (if k < i then p k else 0) ≤ 68719476736 := by
    split
    · exact hp k (by omega)
    · exact Nat.zero_le _
  have h2 : (if 16 + k < i then p (16 + k) * 38 else 0) ≤ 38 * 68719476736 := by
    split
    · have := hp (16 + k) (by omega)
      omega
    · exact Nat.zero_le _
  omega
theorem redX_mod (p : Nat → Nat) (n : Nat) (hn : n = 16 ∨ n = 32) : val 16 (redX p n) 16 % pF = val 16 p n % pF := by
  rcases hn with rfl | rfl
  · rw [val_congr 16 16 (x := redX p 16) (y := p) (fun i hi => by
      unfold redX
      rw [if_pos hi, if_neg (by omega)]
      rfl)]
  · rw [← fold_mod p 16, ← val_mul, ← val_add]
    rw [val_congr 16 16 (x := redX p 32) (y := fun i => p i + 38 * p (16 + i)) (fun i hi => by
      unfold redX
      rw [if_pos (by omega), if_pos (by omega), Nat.mul_comm])]
/-- Rounds of carrying. -/
def frndN (x : Nat → Nat) : Nat → Nat → Nat
  | 0 => x
  | r + 1 => frnd (frndN x r)
theorem frndN_mod (x : Nat → Nat) : ∀ r, val 16 (frndN x r) 16 % pF = val 16 x 16 % pF
  | 0 => rfl
  | r + 1 => (frnd_mod _).trans (frndN_mod x r)
theorem cry_bound (x : Nat → Nat) (h : ∀ i, i < 16 → x i ≤ 8796093022208) (i : Nat) (hi : i ≤ 16) : cry 16 x i ≤ 268435456 := cry_le 16 8796093022208 268435456 x (by decide) i (fun j hj => h j (by omega))
theorem frndN_le (x : Nat → Nat) (h : ∀ i, i < 16 → x i ≤ 8796093022208) : ∀ r i, i < 16 → frndN x r i ≤ 8796093022208
  | 0, i, hi => h i hi
  | r + 1, i, hi => by
    have h1 := frnd_le (frndN x r) 8796093022208 268435456 (by decide) (frndN_le x h r) i
    show frnd (frndN x r) i ≤ _
    omega
/-- While a round goes on. -/
def carX (x : Nat → Nat) (i j : Nat) : Nat := if j < i then nrm 16 x j else x j
theorem carX_step (x : Nat → Nat) (i v j : Nat) : upd (upd (carX x i) i v) i (nrm 16 x i) j = carX x (i + 1) j := by
  unfold carX
  by_cases e : j = i
  · subst e; rw [upd_same, if_pos (by omega)]
  · rw [upd_other _ _ _ _ e, upd_other _ _ _ _ e]
    by_cases e2 : j < i
    · rw [if_pos e2, if_pos (by omega)]
    · rw [if_neg e2, if_neg (by omega)]
theorem carX_end (x : Nat → Nat) (j : Nat) (hj : j < 16) : upd (carX x 16) 0 (nrm 16 x 0 + 38 * cry 16 x 16) j = frnd x j := by
  unfold carX frnd
  by_cases e : j = 0
  · subst e; rw [upd_same, if_pos rfl]
  · rw [upd_other _ _ _ _ e, if_pos hj, if_neg e]
/-- While a modulus is taken away. -/
def subX16 (z : Nat → Nat) (i j : Nat) : Nat := if j < i then sbt 16 z pL j else z j
theorem subX16_step (z : Nat → Nat) (i j : Nat) : upd (subX16 z i) i (sbt 16 z pL i) j = subX16 z (i + 1) j := by
  unfold subX16
  by_cases e : j = i
  · subst e; rw [upd_same, if_pos (by omega)]
  · rw [upd_other _ _ _ _ e]
    by_cases e2 : j < i
    · rw [if_pos e2, if_pos (by omega)]
    · rw [if_neg e2, if_neg (by omega)]
theorem sbt_lt16 (z : Nat → Nat) (i : Nat) : sbt 16 z pL i < 65536 := sbt_lt 16 z pL i
end Go.Proofs.Ytpnddojcihdniaa
