/-
  Numbers in parts of b bits each: carrying, borrowing, comparing. No program is named here.
-/
import Derived.Test.YtpnddojcihdniaaCells
namespace Go.Proofs.Ytpnddojcihdniaa

/-- The number of the first n parts. -/
def val (b : Nat) (x : Nat → Nat) : Nat → Nat
  | 0 => 0
  | n + 1 => val b x n + x n * 2 ^ (b * n)
theorem pw_next (b n : Nat) : 2 ^ (b * (n + 1)) = 2 ^ (b * n) * 2 ^ b := by rw [Nat.mul_succ, Nat.pow_add]
theorem val_congr (b : Nat) {x y : Nat → Nat} : ∀ n, (∀ i, i < n → x i = y i) → val b x n = val b y n
  | 0, _ => rfl
  | n + 1, h => by
    show val b x n + x n * _ = val b y n + y n * _
    rw [val_congr b n (fun i hi => h i (by omega)), h n (by omega)]
theorem val_zero (b : Nat) : ∀ n, val b (fun _ => 0) n = 0
  | 0 => rfl
  | n + 1 => by
    show val b (fun _ => 0) n + 0 * _ = 0
    rw [val_zero b n, Nat.zero_mul]
theorem val_add (b : Nat) (x y : Nat → Nat) : ∀ n, val b (fun i => x i + y i) n = val b x n + val b y n
  | 0 => rfl
  | n + 1 => by
    show val b (fun i => x i + y i) n + (x n + y n) * _ = (val b x n + x n * _) + (val b y n + y n * _)
    rw [val_add b x y n, Nat.add_mul]
    omega
theorem val_mul (b c : Nat) (x : Nat → Nat) : ∀ n, val b (fun i => c * x i) n = c * val b x n
  | 0 => rfl
  | n + 1 => by
    show val b (fun i => c * x i) n + c * x n * _ = c * (val b x n + x n * _)
    rw [val_mul b c x n, Nat.mul_add, Nat.mul_assoc]
theorem val_upd (b : Nat) (x : Nat → Nat) (k v : Nat) : ∀ n, k < n → val b (upd x k v) n + x k * 2 ^ (b * k) = val b x n + v * 2 ^ (b * k)
  | 0, h => absurd h (by omega)
  | n + 1, h => by
    show val b (upd x k v) n + upd x k v n * 2 ^ (b * n) + _ = val b x n + x n * 2 ^ (b * n) + _
    by_cases e : k = n
    · subst e
      rw [upd_same, val_congr b k (x := upd x k v) (y := x) (fun i hi => upd_other _ _ _ _ (by omega))]
      omega
    · have ih := val_upd b x k v n (by omega)
      rw [upd_other _ _ _ _ (fun e2 => e e2.symm)]
      omega
theorem val_split (b : Nat) (x : Nat → Nat) (m : Nat) : ∀ n, val b x (m + n) = val b x m + 2 ^ (b * m) * val b (fun i => x (m + i)) n
  | 0 => by
    show val b x m = val b x m + _ * 0
    rw [Nat.mul_zero, Nat.add_zero]
  | n + 1 => by
    show val b x (m + n) + x (m + n) * 2 ^ (b * (m + n)) = val b x m + 2 ^ (b * m) * (val b (fun i => x (m + i)) n + x (m + n) * 2 ^ (b * n))
    rw [val_split b x m n, Nat.mul_add b, Nat.pow_add, Nat.mul_add (2 ^ (b * m)), Nat.mul_left_comm (x (m + n)), Nat.add_assoc]
theorem val_lt (b : Nat) (x : Nat → Nat) : ∀ n, (∀ i, i < n → x i < 2 ^ b) → val b x n < 2 ^ (b * n)
  | 0, _ => by show 0 < _; exact Nat.two_pow_pos _
  | n + 1, h => by
    have ih := val_lt b x n (fun i hi => h i (by omega))
    have hx := h n (by omega)
    show val b x n + x n * 2 ^ (b * n) < _
    rw [pw_next, Nat.mul_comm (2 ^ (b * n))]
    have := Nat.mul_le_mul_right (2 ^ (b * n)) (show x n + 1 ≤ 2 ^ b from hx)
    rw [Nat.add_mul, Nat.one_mul] at this
    omega
theorem val_mono (b : Nat) {x y : Nat → Nat} : ∀ n, (∀ i, i < n → x i ≤ y i) → val b x n ≤ val b y n
  | 0, _ => Nat.le_refl _
  | n + 1, h => by
    have ih := val_mono b (x := x) (y := y) n (fun i hi => h i (by omega))
    have := Nat.mul_le_mul_right (2 ^ (b * n)) (h n (by omega))
    show val b x n + x n * _ ≤ val b y n + y n * _
    omega

/-! A number's own parts. -/
def lim (b v i : Nat) : Nat := v / 2 ^ (b * i) % 2 ^ b
theorem lim_lt (b v i : Nat) : lim b v i < 2 ^ b := Nat.mod_lt _ (Nat.two_pow_pos b)
theorem val_lim (b v : Nat) : ∀ n, val b (lim b v) n = v % 2 ^ (b * n)
  | 0 => by
    show 0 = v % 2 ^ 0
    rw [Nat.pow_zero, Nat.mod_one]
  | n + 1 => by
    show val b (lim b v) n + v / 2 ^ (b * n) % 2 ^ b * 2 ^ (b * n) = _
    rw [val_lim b v n, pw_next, Nat.mod_mul, Nat.mul_comm (2 ^ (b * n))]
theorem lim_val (b : Nat) (x : Nat → Nat) (n : Nat) (hx : ∀ i, i < n → x i < 2 ^ b) (i : Nat) (hi : i < n) : lim b (val b x n) i = x i := by
  obtain ⟨m, rfl⟩ : ∃ m, n = i + (1 + m) := ⟨n - i - 1, by omega⟩
  unfold lim
  have h1 := val_lt b x i (fun j hj => hx j (by omega))
  rw [val_split, Nat.add_mul_div_left _ _ (Nat.two_pow_pos _), Nat.div_eq_of_lt h1, Nat.zero_add, val_split b (fun j => x (i + j)) 1 m]
  show (0 + x (i + 0) * 2 ^ (b * 0) + 2 ^ (b * 1) * _) % 2 ^ b = x i
  rw [Nat.zero_add, Nat.mul_zero, Nat.pow_zero, Nat.mul_one, Nat.mul_one, Nat.add_zero, Nat.add_mul_mod_self_left, Nat.mod_eq_of_lt (hx i (by omega))]

/-! Carrying. -/
def cry (b : Nat) (x : Nat → Nat) : Nat → Nat
  | 0 => 0
  | n + 1 => (x n + cry b x n) / 2 ^ b
def nrm (b : Nat) (x : Nat → Nat) (i : Nat) : Nat := (x i + cry b x i) % 2 ^ b
theorem nrm_lt (b : Nat) (x : Nat → Nat) (i : Nat) : nrm b x i < 2 ^ b := Nat.mod_lt _ (Nat.two_pow_pos b)
theorem val_nrm (b : Nat) (x : Nat → Nat) : ∀ n, val b (nrm b x) n + cry b x n * 2 ^ (b * n) = val b x n
  | 0 => by
    show 0 + 0 * _ = 0
    rw [Nat.zero_mul]
  | n + 1 => by
    have ih := val_nrm b x n
    show val b (nrm b x) n + (x n + cry b x n) % 2 ^ b * 2 ^ (b * n) + (x n + cry b x n) / 2 ^ b * 2 ^ (b * (n + 1)) = val b x n + x n * 2 ^ (b * n)
    have h := Nat.mod_add_div (x n + cry b x n) (2 ^ b)
    have h2 : (x n + cry b x n) % 2 ^ b * 2 ^ (b * n) + (x n + cry b x n) / 2 ^ b * (2 ^ (b * n) * 2 ^ b) = (x n + cry b x n) * 2 ^ (b * n) := by
      conv => rhs; rw [← h]
      rw [Nat.add_mul, Nat.mul_comm (2 ^ b) _, Nat.mul_assoc, Nat.mul_comm (2 ^ b)]
    rw [pw_next, Nat.add_assoc, h2, Nat.add_mul]
    omega
theorem cry_le (b B C : Nat) (x : Nat → Nat) (hC : (B + C) / 2 ^ b ≤ C) : ∀ n, (∀ i, i < n → x i ≤ B) → cry b x n ≤ C
  | 0, _ => Nat.zero_le _
  | n + 1, h => by
    have ih := cry_le b B C x hC n (fun i hi => h i (by omega))
    have := h n (by omega)
    exact Nat.le_trans (Nat.div_le_div_right (by omega)) hC
/-- Parts that are small are as they are. -/
theorem cry_small (b : Nat) (x : Nat → Nat) : ∀ n, (∀ i, i < n → x i < 2 ^ b) → cry b x n = 0
  | 0, _ => rfl
  | n + 1, h => by
    show (x n + cry b x n) / 2 ^ b = 0
    rw [cry_small b x n (fun i hi => h i (by omega)), Nat.add_zero, Nat.div_eq_of_lt (h n (by omega))]
theorem nrm_small (b : Nat) (x : Nat → Nat) (n : Nat) (h : ∀ i, i < n → x i < 2 ^ b) (i : Nat) (hi : i < n) : nrm b x i = x i := by
  unfold nrm
  rw [cry_small b x i (fun j hj => h j (by omega)), Nat.add_zero, Nat.mod_eq_of_lt (h i hi)]
theorem cry_val (b : Nat) (x : Nat → Nat) (n : Nat) : cry b x n = val b x n / 2 ^ (b * n) := by
  rw [← val_nrm b x n, Nat.add_mul_div_right _ _ (Nat.two_pow_pos _), Nat.div_eq_of_lt (val_lt b _ n (fun i _ => nrm_lt b x i)), Nat.zero_add]
theorem nrm_val (b : Nat) (x : Nat → Nat) (n : Nat) : val b (nrm b x) n = val b x n % 2 ^ (b * n) := by
  rw [← val_nrm b x n, Nat.add_mul_mod_self_right, Nat.mod_eq_of_lt (val_lt b _ n (fun i _ => nrm_lt b x i))]

/-! Comparing, from the highest part on. -/
theorem val_cmp (b : Nat) (x y : Nat → Nat) (i : Nat) (hx : ∀ j, j < i → x j < 2 ^ b) (h : x i < y i) : ∀ n, i < n → (∀ j, i < j → j < n → x j = y j) → val b x n < val b y n
  | 0, hi, _ => absurd hi (by omega)
  | n + 1, hi, he => by
    show val b x n + x n * 2 ^ (b * n) < val b y n + y n * 2 ^ (b * n)
    by_cases e : i = n
    · subst e
      have h1 := val_lt b x i hx
      have h2 := Nat.mul_le_mul_right (2 ^ (b * i)) (show x i + 1 ≤ y i from h)
      rw [Nat.add_mul, Nat.one_mul] at h2
      omega
    · have ih := val_cmp b x y i hx h n (by omega) (fun j h1 h2 => he j h1 (by omega))
      rw [he n (by omega) (by omega)]
      omega

/-! Borrowing. -/
def brw (b : Nat) (x y : Nat → Nat) : Nat → Nat
  | 0 => 0
  | n + 1 => 1 - (2 ^ b + x n - y n - brw b x y n) / 2 ^ b
def sbt (b : Nat) (x y : Nat → Nat) (i : Nat) : Nat := (2 ^ b + x i - y i - brw b x y i) % 2 ^ b
theorem brw_le (b : Nat) (x y : Nat → Nat) : ∀ n, brw b x y n ≤ 1
  | 0 => Nat.zero_le _
  | _ + 1 => Nat.sub_le _ _
theorem sbt_lt (b : Nat) (x y : Nat → Nat) (i : Nat) : sbt b x y i < 2 ^ b := Nat.mod_lt _ (Nat.two_pow_pos b)
theorem val_sbt (b : Nat) (x y : Nat → Nat) : ∀ n, (∀ i, i < n → x i < 2 ^ b) → (∀ i, i < n → y i < 2 ^ b) → val b (sbt b x y) n + val b y n = val b x n + brw b x y n * 2 ^ (b * n)
  | 0, _, _ => by
    show 0 + 0 = 0 + 0 * _
    rw [Nat.zero_mul]
  | n + 1, hx, hy => by
    have ih := val_sbt b x y n (fun i hi => hx i (by omega)) (fun i hi => hy i (by omega))
    have h1 := hx n (by omega)
    have h2 := hy n (by omega)
    have h3 := brw_le b x y n
    have hP := Nat.two_pow_pos b
    obtain ⟨d, hd⟩ : ∃ d, d = 2 ^ b + x n - y n - brw b x y n := ⟨_, rfl⟩
    show val b (sbt b x y) n + (2 ^ b + x n - y n - brw b x y n) % 2 ^ b * 2 ^ (b * n) + (val b y n + y n * 2 ^ (b * n)) = val b x n + x n * 2 ^ (b * n) + (1 - (2 ^ b + x n - y n - brw b x y n) / 2 ^ b) * 2 ^ (b * (n + 1))
    rw [← hd, pw_next]
    generalize brw b x y n = c at *
    generalize 2 ^ b = P at *
    generalize 2 ^ (b * n) = Q at *
    have hdd : d < 2 * P := by omega
    by_cases e : d < P
    · rw [Nat.mod_eq_of_lt e, Nat.div_eq_of_lt e, Nat.sub_zero, Nat.one_mul]
      have h4 : d + y n + c = P + x n := by omega
      have h5 : d * Q + y n * Q + c * Q = Q * P + x n * Q := by rw [← Nat.add_mul, ← Nat.add_mul, h4, Nat.add_mul, Nat.mul_comm P]
      omega
    · have e1 : d / P = 1 := Nat.div_eq_of_lt_le (by omega) (by omega)
      have e2 : d % P = d - P := by rw [Nat.mod_eq_sub_mod (by omega), Nat.mod_eq_of_lt (by omega)]
      rw [e1, e2, Nat.sub_self, Nat.zero_mul]
      have h4 : (d - P) + y n + c = x n := by omega
      have h5 : (d - P) * Q + y n * Q + c * Q = x n * Q := by rw [← Nat.add_mul, ← Nat.add_mul, h4]
      omega
/-- What is not less is told without a borrow in the end. -/
theorem sbt_val (b : Nat) (x y : Nat → Nat) (n : Nat) (hx : ∀ i, i < n → x i < 2 ^ b) (hy : ∀ i, i < n → y i < 2 ^ b) (h : val b y n ≤ val b x n) : brw b x y n = 0 ∧ val b (sbt b x y) n = val b x n - val b y n := by
  have h1 := val_sbt b x y n hx hy
  have h2 := val_lt b (sbt b x y) n (fun i _ => sbt_lt b x y i)
  have h3 := brw_le b x y n
  obtain e | e : brw b x y n = 0 ∨ brw b x y n = 1 := by omega
  · rw [e, Nat.zero_mul] at h1
    exact ⟨e, by omega⟩
  · rw [e, Nat.one_mul] at h1
    omega
end Go.Proofs.Ytpnddojcihdniaa
