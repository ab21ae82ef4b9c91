/-
  The reference's sums, differences, products, part by part. No program is named here.
-/
import Derived.Test.YtpnddojcihdniaaFieldRef
import Derived.Test.YtpnddojcihdniaaFieldMath
namespace Go.Proofs.Ytpnddojcihdniaa

set_option maxRecDepth 100000

theorem val_num (v : Nat) (hv : v < pF) : val 16 (lim 16 v) 16 = v := by
  have := pF_lt
  rw [val_lim, show 16 * 16 = 256 from rfl, Nat.mod_eq_of_lt]
  have h : (2 : Nat) ^ 255 < 2 ^ 256 := by decide
  omega
theorem lim16_lt (v i : Nat) : lim 16 v i < 65536 := lim_lt 16 v i
theorem add_parts (v u : Nat) (hv : v < pF) (hu : u < pF) : val 16 (fun i => lim 16 v i + lim 16 u i) 16 % pF = fAdd v u := by
  rw [val_add, val_num v hv, val_num u hu]
  rfl
theorem sub_parts (v u : Nat) (hv : v < pF) (hu : u < pF) : val 16 (dff (lim 16 v) (lim 16 u)) 16 % pF = fSub v u := by
  rw [val_sub _ _ (fun i => lim16_lt u i) (by rw [val_num u hu]; exact hu), val_num v hv, val_num u hu]
  rfl
/-- Products, one at a time. -/
def cellM (x y : Nat → Nat) (i : Nat) (base : Nat → Nat) : Nat → Nat → Nat
  | 0 => base
  | j + 1 => upd (cellM x y i base j) (i + j) (cellM x y i base j (i + j) + x i * y j)
def rowM (x y : Nat → Nat) : Nat → Nat → Nat
  | 0 => fun _ => 0
  | i + 1 => cellM x y i (rowM x y i) 16
theorem cellM_val (x y : Nat → Nat) (i : Nat) (base : Nat → Nat) : ∀ j, i + j ≤ 32 → val 16 (cellM x y i base j) 32 = val 16 base 32 + x i * 2 ^ (16 * i) * val 16 y j
  | 0, _ => by
    show val 16 base 32 = val 16 base 32 + _ * 0
    rw [Nat.mul_zero, Nat.add_zero]
  | j + 1, h => by
    have ih := cellM_val x y i base j (by omega)
    have h1 := val_upd 16 (cellM x y i base j) (i + j) (cellM x y i base j (i + j) + x i * y j) 32 (by omega)
    show val 16 (upd (cellM x y i base j) (i + j) (cellM x y i base j (i + j) + x i * y j)) 32 = val 16 base 32 + x i * 2 ^ (16 * i) * (val 16 y j + y j * 2 ^ (16 * j))
    rw [Nat.mul_add, ← Nat.add_assoc, ← ih]
    rw [Nat.add_mul] at h1
    have h2 : x i * 2 ^ (16 * i) * (y j * 2 ^ (16 * j)) = x i * y j * 2 ^ (16 * (i + j)) := by rw [Nat.mul_mul_mul_comm, ← Nat.pow_add, Nat.mul_add]
    rw [h2]
    omega
theorem rowM_val (x y : Nat → Nat) : ∀ i, i ≤ 16 → val 16 (rowM x y i) 32 = val 16 x i * val 16 y 16
  | 0, _ => by
    show val 16 (fun _ => 0) 32 = 0 * _
    rw [val_zero, Nat.zero_mul]
  | i + 1, h => by
    show val 16 (cellM x y i (rowM x y i) 16) 32 = (val 16 x i + x i * 2 ^ (16 * i)) * _
    rw [cellM_val x y i _ 16 (by omega), rowM_val x y i (by omega), Nat.add_mul]
theorem cellM_le (x y : Nat → Nat) (hx : ∀ i, x i < 65536) (hy : ∀ i, y i < 65536) (i : Nat) (base : Nat → Nat) : ∀ j k, cellM x y i base j k ≤ base k + (if k < i + j then 4294836225 else 0) ∧ (i + j ≤ k → cellM x y i base j k = base k)
  | 0, k => ⟨Nat.le_add_right _ _, fun _ => rfl⟩
  | j + 1, k => by
    have ih := cellM_le x y hx hy i base j k
    have hm : x i * y j ≤ 4294836225 := Nat.mul_le_mul (show x i ≤ 65535 from Nat.le_of_lt_succ (hx i)) (show y j ≤ 65535 from Nat.le_of_lt_succ (hy j))
    show upd (cellM x y i base j) (i + j) (cellM x y i base j (i + j) + x i * y j) k ≤ _ ∧ (_ → upd (cellM x y i base j) (i + j) (cellM x y i base j (i + j) + x i * y j) k = _)
    by_cases e : k = i + j
    · subst e
      have h2 := ih.2 (Nat.le_refl _)
      rw [upd_same, h2, if_pos (by omega)]
      exact ⟨by omega, fun h => absurd h (by omega)⟩
    · rw [upd_other _ _ _ _ e]
      refine ⟨?_, fun h => ih.2 (by omega)⟩
      by_cases e2 : k < i + j
      · have := ih.1
        rw [if_pos e2] at this
        rw [if_pos (by omega)]
        exact this
      · have := ih.1
        rw [if_neg e2] at this
        exact Nat.le_trans this (Nat.add_le_add_left (Nat.zero_le _) _)
theorem rowM_le (x y : Nat → Nat) (hx : ∀ i, x i < 65536) (hy : ∀ i, y i < 65536) : ∀ i k, rowM x y i k ≤ i * 4294836225
  | 0, _ => Nat.zero_le _
  | i + 1, k => by
    have h1 := (cellM_le x y hx hy i (rowM x y i) 16 k).1
    have h2 := rowM_le x y hx hy i k
    show cellM x y i (rowM x y i) 16 k ≤ _
    rw [Nat.add_mul]
    have h3 : (if k < i + 16 then 4294836225 else 0) ≤ 4294836225 := by split <;> decide
    omega
theorem mul_parts16 (v u : Nat) (hv : v < pF) (hu : u < pF) : val 16 (rowM (lim 16 v) (lim 16 u) 16) 32 % pF = fMul v u := by
  rw [rowM_val _ _ 16 (Nat.le_refl _), val_num v hv, val_num u hu]
  rfl
end Go.Proofs.Ytpnddojcihdniaa
