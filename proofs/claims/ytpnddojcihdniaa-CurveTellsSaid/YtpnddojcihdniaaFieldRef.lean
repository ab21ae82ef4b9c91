/-
  The reference's numbers modulo 2^255 - 19, in 16 parts of 16 bits. No program is named here.
-/
import Derived.Test.YtpnddojcihdniaaLimbs
import Derived.Test.YtpnddojcihdniaaFieldPrime
namespace Go.Proofs.Ytpnddojcihdniaa

set_option maxRecDepth 100000

theorem two256 : (2 : Nat) ^ 256 = 2 * pF + 38 := by decide
theorem pF_lt : pF < 2 ^ 255 := by decide
theorem pF_pos : 0 < pF := by decide
/-- The modulus, in parts. -/
def pL (i : Nat) : Nat := if i = 0 then 65517 else if i = 15 then 32767 else 65535
theorem pL_val : val 16 pL 16 = pF := by decide
theorem pL_lt (i : Nat) : pL i < 65536 := by
  unfold pL
  split
  · decide
  · split <;> decide

/-! A round of carrying: what is carried out of the highest part comes back 38 times. -/
def frnd (x : Nat → Nat) (i : Nat) : Nat := if i = 0 then nrm 16 x 0 + 38 * cry 16 x 16 else nrm 16 x i
theorem val_first (b : Nat) (x : Nat → Nat) (c : Nat) : ∀ n, 0 < n → val b (fun i => if i = 0 then x 0 + c else x i) n = val b x n + c
  | 0, h => absurd h (by omega)
  | 1, _ => by
    show 0 + (x 0 + c) * 2 ^ (b * 0) = 0 + x 0 * 2 ^ (b * 0) + c
    rw [Nat.mul_zero, Nat.pow_zero]
    omega
  | n + 2, _ => by
    have ih := val_first b x c (n + 1) (by omega)
    show val b (fun i => if i = 0 then x 0 + c else x i) (n + 1) + (if n + 1 = 0 then x 0 + c else x (n + 1)) * _ = val b x (n + 1) + x (n + 1) * _ + c
    rw [ih, if_neg (by omega)]
    omega
theorem val_frnd (x : Nat → Nat) : val 16 (frnd x) 16 + 2 * pF * cry 16 x 16 = val 16 x 16 := by
  have h1 : val 16 (frnd x) 16 = val 16 (nrm 16 x) 16 + 38 * cry 16 x 16 := val_first 16 (nrm 16 x) (38 * cry 16 x 16) 16 (by decide)
  have h2 := val_nrm 16 x 16
  rw [show 16 * 16 = 256 from rfl, two256, Nat.mul_add, Nat.mul_comm _ 38] at h2
  rw [h1, ← h2, Nat.mul_comm (2 * pF)]
  omega
theorem frnd_mod (x : Nat → Nat) : val 16 (frnd x) 16 % pF = val 16 x 16 % pF := by
  rw [← val_frnd x, Nat.mul_comm 2, Nat.mul_assoc, Nat.add_mul_mod_self_left]
theorem frnd_le (x : Nat → Nat) (B C : Nat) (hC : (B + C) / 65536 ≤ C) (hx : ∀ i, i < 16 → x i ≤ B) (i : Nat) : frnd x i ≤ 65535 + 38 * C := by
  have h1 := cry_le 16 B C x hC 16 hx
  have h2 := nrm_lt 16 x i
  have h3 := nrm_lt 16 x 0
  unfold frnd
  split <;> omega
/-- After four rounds every part is below 2^16. -/
theorem frnd_four (x : Nat → Nat) (hx : ∀ i, i < 16 → x i ≤ 2 ^ 43) (i : Nat) : frnd (frnd (frnd (frnd x))) i < 65536 := by
  obtain ⟨y, hy⟩ : ∃ y, y = frnd x := ⟨_, rfl⟩
  have c1 : cry 16 x 16 ≤ 2 ^ 28 := cry_le 16 (2 ^ 43) (2 ^ 28) x (by decide) 16 hx
  have y1 : val 16 y 16 < 2 ^ 256 + 2 ^ 34 := by
    have h1 : val 16 (frnd x) 16 = val 16 (nrm 16 x) 16 + 38 * cry 16 x 16 := val_first 16 (nrm 16 x) (38 * cry 16 x 16) 16 (by decide)
    have h2 := val_lt 16 (nrm 16 x) 16 (fun i _ => nrm_lt 16 x i)
    rw [hy, h1]
    rw [show 16 * 16 = 256 from rfl] at h2
    omega
  obtain ⟨z, hz⟩ : ∃ z, z = frnd y := ⟨_, rfl⟩
  have c2 : cry 16 y 16 ≤ 1 := by
    rw [cry_val, show 16 * 16 = 256 from rfl]
    omega
  have z1 : val 16 z 16 < 2 ^ 256 := by
    have h1 : val 16 (frnd y) 16 = val 16 (nrm 16 y) 16 + 38 * cry 16 y 16 := val_first 16 (nrm 16 y) (38 * cry 16 y 16) 16 (by decide)
    have h2 := nrm_val 16 y 16
    have h3 := cry_val 16 y 16
    rw [show 16 * 16 = 256 from rfl] at h2 h3
    rw [hz, h1, h2]
    generalize val 16 y 16 = v at *
    generalize cry 16 y 16 = c at *
    omega
  obtain ⟨t, ht⟩ : ∃ t, t = frnd z := ⟨_, rfl⟩
  have c3 : cry 16 z 16 = 0 := by
    rw [cry_val, show 16 * 16 = 256 from rfl]
    omega
  have t1 : ∀ j, t j < 65536 := fun j => by
    have h1 := nrm_lt 16 z j
    have h2 := nrm_lt 16 z 0
    rw [ht]
    unfold frnd
    rw [c3]
    split <;> omega
  have c4 : cry 16 t 16 = 0 := cry_small 16 t 16 (fun j _ => t1 j)
  rw [← hy, ← hz, ← ht]
  have h1 := nrm_lt 16 t i
  have h2 := nrm_lt 16 t 0
  unfold frnd
  rw [c4]
  split <;> omega

/-! More parts than 16. -/
theorem fold_mod (x : Nat → Nat) (m : Nat) : (val 16 x 16 + 38 * val 16 (fun i => x (16 + i)) m) % pF = val 16 x (16 + m) % pF := by
  rw [val_split 16 x 16 m, show 16 * 16 = 256 from rfl, two256, Nat.add_mul, Nat.add_comm (2 * pF * _), ← Nat.add_assoc, Nat.mul_comm 2, Nat.mul_assoc, Nat.add_mul_mod_self_left]

/-! In the end: the number's own parts. -/
theorem fin_lim (x : Nat → Nat) (V : Nat) (hx : ∀ i, i < 16 → x i < 65536) (hm : val 16 x 16 % pF = V % pF) (hl : val 16 x 16 < pF) (i : Nat) (hi : i < 16) : x i = lim 16 (V % pF) i := by
  rw [← hm, Nat.mod_eq_of_lt hl, lim_val 16 x 16 hx i hi]
theorem sub_mod (x : Nat → Nat) (hx : ∀ i, i < 16 → x i < 65536) (h : pF ≤ val 16 x 16) : val 16 (sbt 16 x pL) 16 = val 16 x 16 - pF ∧ val 16 (sbt 16 x pL) 16 % pF = val 16 x 16 % pF := by
  have h1 := (sbt_val 16 x pL 16 hx (fun i _ => pL_lt i) (by rw [pL_val]; exact h)).2
  rw [pL_val] at h1
  refine ⟨h1, ?_⟩
  rw [h1, ← Nat.mod_eq_sub_mod h]

/-! Bytes. -/
theorem val_pairs (f : Nat → Nat) : ∀ n, val 16 (fun i => f (2 * i) + 256 * f (2 * i + 1)) n = val 8 f (2 * n)
  | 0 => rfl
  | n + 1 => by
    show val 16 (fun i => f (2 * i) + 256 * f (2 * i + 1)) n + (f (2 * n) + 256 * f (2 * n + 1)) * 2 ^ (16 * n) = val 8 f (2 * n) + f (2 * n) * 2 ^ (8 * (2 * n)) + f (2 * n + 1) * 2 ^ (8 * (2 * n + 1))
    rw [val_pairs f n, show 8 * (2 * n) = 16 * n by omega, show 8 * (2 * n + 1) = 8 + 16 * n by omega, Nat.pow_add, Nat.add_mul, Nat.mul_comm 256, Nat.mul_assoc, show (2 : Nat) ^ 8 = 256 from rfl, Nat.add_assoc]
theorem lim_byte0 (v i : Nat) : lim 16 v i % 256 = lim 8 v (2 * i) := by
  unfold lim
  rw [show 8 * (2 * i) = 16 * i by omega, Nat.mod_mod_of_dvd _ (show (2 : Nat) ^ 8 ∣ 2 ^ 16 from ⟨2 ^ 8, by decide⟩)]
theorem lim_byte1 (v i : Nat) : lim 16 v i / 256 = lim 8 v (2 * i + 1) := by
  unfold lim
  rw [show 8 * (2 * i + 1) = 16 * i + 8 by omega, Nat.pow_add, ← Nat.div_div_eq_div_mul, show (2 : Nat) ^ 16 = 2 ^ 8 * 2 ^ 8 by decide, Nat.mod_mul_right_div_self]
/-- The highest bit counts for nothing. -/
theorem val_top (f : Nat → Nat) (hf : ∀ i, f i < 256) : val 8 (fun i => if i = 31 then f i % 128 else f i) 32 = val 8 f 32 % 2 ^ 255 := by
  have h1 : val 8 (fun i => if i = 31 then f i % 128 else f i) 31 = val 8 f 31 := val_congr 8 31 (fun i hi => if_neg (by omega))
  have h2 := val_lt 8 f 31 (fun i _ => hf i)
  have h3 := hf 31
  show val 8 (fun i => if i = 31 then f i % 128 else f i) 31 + (f 31 % 128) * 2 ^ (8 * 31) = (val 8 f 31 + f 31 * 2 ^ (8 * 31)) % 2 ^ 255
  rw [h1]
  rw [show 8 * 31 = 248 from rfl] at h2 ⊢
  omega

/-! Differences: x and p, less y. -/
def dbo (x y : Nat → Nat) : Nat → Nat
  | 0 => 0
  | i + 1 => if 65536 + x i + pL i - y i - dbo x y i < 65536 then 1 else 0
def dff (x y : Nat → Nat) (i : Nat) : Nat := 65536 + x i + pL i - y i - dbo x y i - 65536 * (1 - dbo x y (i + 1))
theorem dbo_le (x y : Nat → Nat) : ∀ i, dbo x y i ≤ 1
  | 0 => Nat.zero_le _
  | i + 1 => by
    show (if _ then 1 else 0) ≤ 1
    split <;> omega
theorem val_dff (x y : Nat → Nat) (hy : ∀ i, y i < 65536) : ∀ n, val 16 (dff x y) n + val 16 y n = val 16 x n + val 16 pL n + dbo x y n * 2 ^ (16 * n)
  | 0 => by
    show 0 + 0 = 0 + 0 + 0 * _
    rw [Nat.zero_mul]
  | n + 1 => by
    have ih := val_dff x y hy n
    have h1 := hy n
    have h2 := dbo_le x y n
    have h3 : dff x y n + y n + dbo x y n = x n + pL n + dbo x y (n + 1) * 65536 := by
      unfold dff
      show 65536 + x n + pL n - y n - dbo x y n - 65536 * (1 - (if 65536 + x n + pL n - y n - dbo x y n < 65536 then 1 else 0)) + y n + dbo x y n = x n + pL n + (if 65536 + x n + pL n - y n - dbo x y n < 65536 then 1 else 0) * 65536
      split <;> omega
    show val 16 (dff x y) n + dff x y n * 2 ^ (16 * n) + (val 16 y n + y n * 2 ^ (16 * n)) = val 16 x n + x n * 2 ^ (16 * n) + (val 16 pL n + pL n * 2 ^ (16 * n)) + dbo x y (n + 1) * 2 ^ (16 * (n + 1))
    have h4 := congrArg (· * 2 ^ (16 * n)) h3
    simp only [Nat.add_mul] at h4
    rw [pw_next, Nat.mul_comm (2 ^ (16 * n)), ← Nat.mul_assoc]
    rw [show (2 : Nat) ^ 16 = 65536 from rfl]
    omega
theorem dbo_chain (x y : Nat → Nat) (hy : ∀ i, y i < 65536) : ∀ n, n ≤ 15 → dbo x y n = 1 → ∀ i, i < n → pL i ≤ y i
  | 0, _, _, i, hi => absurd hi (by omega)
  | n + 1, hn, h, i, hi => by
    have h1 := hy n
    have h2 := dbo_le x y n
    change (if 65536 + x n + pL n - y n - dbo x y n < 65536 then 1 else 0) = 1 at h
    by_cases e : 65536 + x n + pL n - y n - dbo x y n < 65536
    · by_cases e2 : i = n
      · subst e2
        by_cases e3 : i = 0
        · subst e3
          have : dbo x y 0 = 0 := rfl
          omega
        · have : pL i = 65535 := by
            unfold pL
            rw [if_neg e3, if_neg (by omega)]
          omega
      · by_cases e3 : n = 0
        · omega
        · have : pL n = 65535 := by
            unfold pL
            rw [if_neg e3, if_neg (by omega)]
          exact dbo_chain x y hy n (by omega) (by omega) i (by omega)
    · rw [if_neg e] at h
      cases h
theorem dbo_end (x y : Nat → Nat) (hy : ∀ i, y i < 65536) (h : val 16 y 16 < pF) : dbo x y 16 = 0 := by
  show (if 65536 + x 15 + pL 15 - y 15 - dbo x y 15 < 65536 then 1 else 0) = 0
  have hp : pL 15 = 32767 := rfl
  have h1 : y 15 ≤ 32767 := by
    have : val 16 y 16 = val 16 y 15 + y 15 * 2 ^ 240 := rfl
    have := pF_lt
    omega
  by_cases e : 65536 + x 15 + pL 15 - y 15 - dbo x y 15 < 65536
  · exfalso
    have h2 := dbo_le x y 15
    have h3 : dbo x y 15 = 1 := by omega
    have h4 := dbo_chain x y hy 15 (Nat.le_refl _) h3
    have h5 := val_mono 16 (x := pL) (y := y) 16 (fun i hi => by
      by_cases e2 : i = 15
      · subst e2; omega
      · exact h4 i (by omega))
    rw [pL_val] at h5
    omega
  · rw [if_neg e]
theorem val_sub (x y : Nat → Nat) (hy : ∀ i, y i < 65536) (h : val 16 y 16 < pF) : val 16 (dff x y) 16 = val 16 x 16 + pF - val 16 y 16 := by
  have h1 := val_dff x y hy 16
  rw [dbo_end x y hy h, pL_val, Nat.zero_mul] at h1
  omega
theorem dff_le (x y : Nat → Nat) (hx : ∀ i, x i < 65536) (i : Nat) : dff x y i < 2 ^ 18 := by
  have h1 := hx i
  have h2 := pL_lt i
  unfold dff
  omega

/-! The exponent's bits. -/
theorem exp_bits : ((List.range 255).all fun j => (pF - 2) / 2 ^ j % 2 == (if j = 2 ∨ j = 4 then 0 else 1)) = true := by kernel_rfl
theorem exp_bit (j : Nat) (hj : j < 255) : (pF - 2) / 2 ^ j = 2 * ((pF - 2) / 2 ^ (j + 1)) + (if j = 2 ∨ j = 4 then 0 else 1) := by
  have h := List.all_eq_true.1 exp_bits j (List.mem_range.2 hj)
  rw [beq_iff_eq] at h
  rw [Nat.pow_succ, ← Nat.div_div_eq_div_mul, ← h]
  omega
theorem exp_none : (pF - 2) / 2 ^ 255 = 0 := by decide
end Go.Proofs.Ytpnddojcihdniaa
