/-
  Powers modulo 2^255 - 19, by the exponent's bits from the highest on. No program is named here.
-/
import Derived.Test.YtpnddojcihdniaaFieldBits
namespace Go.Proofs.Ytpnddojcihdniaa

set_option maxRecDepth 100000

def pwF (v : Nat) (bt : Nat → Nat) (l : List Nat) : Nat := l.foldl (fun a k => if bt k = 1 then fMul (fMul a a) v else fMul a a) 1
def pwL (f : Nat → Nat) (bt : Nat → Nat) (l : List Nat) : Nat → Nat := l.foldl (fun a k => if bt k = 1 then mulL (mulL a a) f else mulL a a) (smL 1)
theorem pwL_snoc (f : Nat → Nat) (bt : Nat → Nat) (l : List Nat) (k : Nat) : pwL f bt (l ++ [k]) = if bt k = 1 then mulL (mulL (pwL f bt l) (pwL f bt l)) f else mulL (pwL f bt l) (pwL f bt l) := by
  unfold pwL
  rw [List.foldl_append]
  rfl
theorem pwF_snoc (v : Nat) (bt : Nat → Nat) (l : List Nat) (k : Nat) : pwF v bt (l ++ [k]) = if bt k = 1 then fMul (fMul (pwF v bt l) (pwF v bt l)) v else fMul (pwF v bt l) (pwF v bt l) := by
  unfold pwF
  rw [List.foldl_append]
  rfl
theorem is5_pow {f : Nat → Nat} {v : Nat} (hf : Is5 f v) (bt : Nat → Nat) (l : List Nat) : Is5 (pwL f bt l) (pwF v bt l) := by
  have key : ∀ (l : List Nat) (a : Nat → Nat) (b : Nat), Is5 a b → Is5 (l.foldl (fun a k => if bt k = 1 then mulL (mulL a a) f else mulL a a) a) (l.foldl (fun a k => if bt k = 1 then fMul (fMul a a) v else fMul a a) b) := by
    intro l
    induction l with
    | nil => exact fun a b h => h
    | cons x l ih =>
      intro a b h
      refine ih _ _ ?_
      by_cases e : bt x = 1
      · simp only [if_pos e]
        exact (h.mul h).mul hf
      · simp only [if_neg e]
        exact h.mul h
  exact key l _ _ (is5_small 1 (by decide))
/-- The bit that comes as number k. -/
def btE (E k : Nat) : Nat := E / 2 ^ (255 - k) % 2
theorem pwF_range (v E : Nat) (hE : E < 2 ^ 256) : ∀ k, k ≤ 256 → pwF v (btE E) (List.range k) = v ^ (E / 2 ^ (256 - k)) % pF
  | 0, _ => by
    rw [Nat.sub_zero, Nat.div_eq_of_lt hE, Nat.pow_zero]
    rfl
  | k + 1, h => by
    rw [List.range_succ, pwF_snoc, pwF_range v E hE k (by omega)]
    have e1 : E / 2 ^ (256 - k) = E / 2 ^ (255 - k) / 2 := by rw [Nat.div_div_eq_div_mul, ← Nat.pow_succ, show (255 - k).succ = 256 - k by omega]
    rw [show 256 - (k + 1) = 255 - k by omega, e1]
    unfold btE
    generalize E / 2 ^ (255 - k) = y
    have h1 : fMul (v ^ (y / 2) % pF) (v ^ (y / 2) % pF) = v ^ (y / 2 + y / 2) % pF := by
      unfold fMul
      rw [← Nat.mul_mod, Nat.pow_add]
    rw [h1]
    by_cases e : y % 2 = 1
    · rw [if_pos e]
      unfold fMul
      rw [Nat.mod_mul_mod]
      rw [← Nat.pow_succ, show (y / 2 + y / 2).succ = y by omega]
    · rw [if_neg e, show y / 2 + y / 2 = y by omega]
theorem lim_bit (E i : Nat) : lim 64 E (i / 64) / 2 ^ (i % 64) % 2 = E / 2 ^ i % 2 := by
  have hr : i % 64 < 64 := Nat.mod_lt _ (by decide)
  have e : i = 64 * (i / 64) + i % 64 := by omega
  conv => rhs; rw [e, Nat.pow_add, ← Nat.div_div_eq_div_mul]
  unfold lim
  generalize E / 2 ^ (64 * (i / 64)) = y
  generalize i % 64 = r at *
  rw [show (2 : Nat) ^ 64 = 2 ^ r * 2 ^ (64 - r) by rw [← Nat.pow_add, show r + (64 - r) = 64 by omega], Nat.mod_mul_right_div_self, Nat.mod_mod_of_dvd]
  exact ⟨2 ^ (63 - r), by rw [← Nat.pow_succ', show (63 - r).succ = 64 - r by omega]⟩
def fInv (v : Nat) : Nat := v ^ (pF - 2) % pF
def invL (f : Nat → Nat) : Nat → Nat := pwL f (btE (pF - 2)) (List.range 256)
theorem Is5.inv {f : Nat → Nat} {v : Nat} (hf : Is5 f v) : Is5 (invL f) (fInv v) := by
  have h := is5_pow hf (btE (pF - 2)) (List.range 256)
  have hp : pF - 2 < 2 ^ 256 := by decide
  rw [pwF_range v (pF - 2) hp 256 (Nat.le_refl _), Nat.sub_self, Nat.pow_zero, Nat.div_one] at h
  exact h
end Go.Proofs.Ytpnddojcihdniaa
