/-
  What is not 0 has an inverse; the chapter's rows, reckoned. No program is named here.
-/
import Derived.Test.YtpnddojcihdniaaFieldPowM
namespace Go.Proofs.Ytpnddojcihdniaa

set_option maxRecDepth 100000

theorem fInv_mul (x : Nat) (hx : x % pF ≠ 0) : fMul x (fInv x) = 1 := by
  unfold fMul fInv
  rw [Nat.mul_mod, Nat.mod_mod, ← Nat.mul_mod]
  exact gen_pF.inverse x hx
theorem fInv_lt (x : Nat) : fInv x < pF := Nat.mod_lt _ pF_pos
theorem half_of (y p h : Nat) (hp : p + 1 = 2 * h) (_ : 1 < p) (h1 : 2 * y % p = 1) (h2 : y < p) : y = h := by
  by_cases e : 2 * y < p
  · rw [Nat.mod_eq_of_lt e] at h1
    omega
  · rw [Nat.mod_eq_sub_mod (by omega), Nat.mod_eq_of_lt (by omega)] at h1
    omega
theorem half_mul (y : Nat) (h1 : fMul 2 y = 1) (h2 : y < pF) : y = 28948022309329048855892746252171976963317496166410141009864396001978282409975 := by
  unfold fMul at h1
  exact half_of y pF _ (by decide) (by decide) h1 h2
theorem fInv_two : fInv 2 = 28948022309329048855892746252171976963317496166410141009864396001978282409975 := half_mul (fInv 2) (fInv_mul 2 (by decide)) (fInv_lt 2)
theorem pow_of_zero (x n : Nat) (hx : x = 0) (hn : 0 < n) : x ^ n = 0 := by
  subst hx
  cases n with
  | zero => omega
  | succ n => rw [Nat.pow_succ, Nat.mul_zero]
theorem fInv_of_zero (x : Nat) (hx : x = 0) : fInv x = 0 := by
  unfold fInv
  rw [pow_of_zero x (pF - 2) hx (by decide), Nat.zero_mod]
/-- A first byte, 30 of a kind, a last one. -/
def ofB (a b c : Nat) (i : Nat) : Nat := if i = 0 then a else if i = 31 then c else b
theorem ofB_lt (a b c : Nat) (ha : a < 256) (hb : b < 256) (hc : c < 256) (i : Nat) : ofB a b c i < 256 := by
  unfold ofB
  split
  · exact ha
  · split
    · exact hc
    · exact hb
def eqL (f g : Nat → Nat) : Bool := (List.range 32).all fun i => f i == g i
theorem row_sub : eqL (lim 8 (fSub 2 3)) (ofB 236 255 127) = true := by kernel_rfl
theorem row_p : eqL (lim 8 (ofV (ofB 237 255 127))) (fun _ => 0) = true := by kernel_rfl
theorem row_ff : eqL (lim 8 (ofV (ofB 255 255 255))) (fun i => if i = 0 then 18 else 0) = true := by kernel_rfl
theorem row_two : eqL (lim 8 (fInv 2)) (ofB 247 255 63) = true := by
  rw [fInv_two]
  kernel_rfl
end Go.Proofs.Ytpnddojcihdniaa
