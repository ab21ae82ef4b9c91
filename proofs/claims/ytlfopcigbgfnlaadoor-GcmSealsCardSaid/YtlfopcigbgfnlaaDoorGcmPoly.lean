/-
  Blocks as polynomials over 0 and 1, modulo x^128 + x^7 + x^2 + x + 1: numbers whose bit j is that of x^j. No program is named here.
-/
import Derived.Test.YtlfopcigbgfnlaaDoorAesMath
namespace Go.Proofs.YtlfopcigbgfnlaaDoor

set_option maxRecDepth 100000

theorem bit_two_mul (a : Nat) : ∀ i, (2 * a).testBit i = if i = 0 then false else a.testBit (i - 1)
  | 0 => by simp [Nat.testBit_zero]
  | i + 1 => by
    rw [if_neg (by omega), Nat.testBit_succ, show 2 * a / 2 = a by omega]
    rfl
theorem bit_two_zero (a : Nat) : (2 * a).testBit 0 = false := by rw [bit_two_mul, if_pos rfl]
theorem bit_two_succ (a i : Nat) : (2 * a).testBit (i + 1) = a.testBit i := by
  rw [bit_two_mul, if_neg (by omega)]
  rfl
theorem two_xor (a b : Nat) : 2 * (a ^^^ b) = 2 * a ^^^ 2 * b := by
  apply Nat.eq_of_testBit_eq
  intro i
  rw [Nat.testBit_xor, bit_two_mul, bit_two_mul, bit_two_mul, Nat.testBit_xor]
  split <;> rfl
theorem xor4 (a b c d : Nat) : (a ^^^ b) ^^^ (c ^^^ d) = (a ^^^ c) ^^^ (b ^^^ d) := by
  rw [Nat.xor_assoc, Nat.xor_assoc, ← Nat.xor_assoc b, ← Nat.xor_assoc c, Nat.xor_comm b c]
theorem if_xor (p q : Bool) (k : Nat) : (if (p ^^ q) then k else 0) = (if p then k else 0) ^^^ (if q then k else 0) := by
  cases p <;> cases q <;> simp

/-- Times x. -/
def gX (v : Nat) : Nat := 2 * v ^^^ (if v.testBit 127 then 2 ^ 128 + 135 else 0)
theorem gX_xor (a b : Nat) : gX (a ^^^ b) = gX a ^^^ gX b := by
  unfold gX
  rw [Nat.testBit_xor, if_xor, two_xor, xor4]
theorem gX_zero : gX 0 = 0 := by decide
theorem bit_great {v n i : Nat} (h : v < 2 ^ n) (hi : n ≤ i) : v.testBit i = false := Nat.testBit_lt_two_pow (Nat.lt_of_lt_of_le h (Nat.pow_le_pow_right (by decide) hi))
theorem gX_lt (v : Nat) (h : v < 2 ^ 128) : gX v < 2 ^ 128 := by
  refine Nat.lt_pow_two_of_testBit _ fun i hi => ?_
  unfold gX
  rw [Nat.testBit_xor, bit_two_mul, if_neg (by omega)]
  by_cases e : i = 128
  · subst e
    cases v.testBit 127 <;> decide
  · rw [bit_great (i := i - 1) h (by omega)]
    split
    · rw [Bool.false_xor]
      exact bit_great (v := 2 ^ 128 + 135) (n := 129) (i := i) (by decide) (by omega)
    · simp
theorem gX_inj (v : Nat) (h : gX v = 0) : v = 0 := by
  unfold gX at h
  cases e : v.testBit 127 with
  | false =>
    rw [e] at h
    simp at h
    omega
  | true =>
    rw [e, if_pos rfl] at h
    have h0 : (2 * v ^^^ (2 ^ 128 + 135)).testBit 0 = (0 : Nat).testBit 0 := by rw [h]
    rw [Nat.testBit_xor, bit_two_mul, if_pos rfl] at h0
    exact absurd h0 (by decide)
/-- Times x^n. -/
def gPw (v : Nat) : Nat → Nat
  | 0 => v
  | n + 1 => gX (gPw v n)
theorem gPw_lt (v : Nat) (h : v < 2 ^ 128) : ∀ n, gPw v n < 2 ^ 128
  | 0 => h
  | n + 1 => gX_lt _ (gPw_lt v h n)
theorem gPw_xor (a b : Nat) : ∀ n, gPw (a ^^^ b) n = gPw a n ^^^ gPw b n
  | 0 => rfl
  | n + 1 => by
    show gX (gPw (a ^^^ b) n) = gX (gPw a n) ^^^ gX (gPw b n)
    rw [gPw_xor, gX_xor]
theorem gPw_zero : ∀ n, gPw 0 n = 0
  | 0 => rfl
  | n + 1 => by
    show gX (gPw 0 n) = 0
    rw [gPw_zero n, gX_zero]
theorem gPw_X (v : Nat) : ∀ n, gPw (gX v) n = gX (gPw v n)
  | 0 => rfl
  | n + 1 => by
    show gX (gPw (gX v) n) = gX (gX (gPw v n))
    rw [gPw_X v n]
theorem gPw_add (v m : Nat) : ∀ n, gPw (gPw v m) n = gPw v (m + n)
  | 0 => rfl
  | n + 1 => congrArg gX (gPw_add v m n)
theorem gPw_inj (v : Nat) : ∀ n, gPw v n = 0 → v = 0
  | 0, h => h
  | n + 1, h => gPw_inj v n (gX_inj _ h)

/-! The document's own: all products of bits, those above x^127 folded down from the highest on. -/
def gRed (i c : Nat) : Nat := c ^^^ (if c.testBit i then 135 * 2 ^ (i - 128) else 0)
def gFo (lo : Nat) : Nat → Nat → Nat
  | 0, c => c
  | n + 1, c => gFo lo n (gRed (lo + n) c)
def gCv (a b : Nat) : Nat → Nat
  | 0 => 0
  | n + 1 => gCv a b n ^^^ (if a.testBit n then b * 2 ^ n else 0)
/-- Two blocks, multiplied. -/
def gMul (a b : Nat) : Nat := gFo 128 128 (gCv a b 128) % 2 ^ 128
theorem gMul_lt (a b : Nat) : gMul a b < 2 ^ 128 := Nat.mod_lt _ (by decide)

theorem gRed_xor (i a b : Nat) : gRed i (a ^^^ b) = gRed i a ^^^ gRed i b := by
  unfold gRed
  rw [Nat.testBit_xor, if_xor, xor4]
theorem gRed_still (i c : Nat) (h : c.testBit i = false) : gRed i c = c := by
  unfold gRed
  rw [h]
  simp
theorem gRed_two (i c : Nat) (hi : 128 ≤ i) : gRed (i + 1) (2 * c) = 2 * gRed i c := by
  unfold gRed
  rw [two_xor, bit_two_succ]
  split
  · rw [show i + 1 - 128 = i - 128 + 1 by omega, Nat.pow_succ, ← Nat.mul_assoc, Nat.mul_comm _ 2]
  · rfl
theorem gFo_xor (lo : Nat) : ∀ n a b, gFo lo n (a ^^^ b) = gFo lo n a ^^^ gFo lo n b
  | 0, _, _ => rfl
  | n + 1, a, b => by
    show gFo lo n (gRed (lo + n) (a ^^^ b)) = gFo lo n (gRed (lo + n) a) ^^^ gFo lo n (gRed (lo + n) b)
    rw [gRed_xor, gFo_xor]
theorem gFo_still (lo : Nat) (c : Nat) (h : c < 2 ^ lo) : ∀ n, gFo lo n c = c
  | 0 => rfl
  | n + 1 => by
    show gFo lo n (gRed (lo + n) c) = c
    rw [gRed_still (lo + n) c (bit_great (i := lo + n) h (by omega)), gFo_still lo c h n]
theorem gFo_two (lo : Nat) (hlo : 128 ≤ lo) : ∀ n c, gFo (lo + 1) n (2 * c) = 2 * gFo lo n c
  | 0, _ => rfl
  | n + 1, c => by
    show gFo (lo + 1) n (gRed (lo + 1 + n) (2 * c)) = 2 * gFo lo n (gRed (lo + n) c)
    rw [show lo + 1 + n = lo + n + 1 by omega, gRed_two _ _ (by omega), gFo_two lo hlo n]
theorem gFo_last (lo : Nat) : ∀ n c, gFo lo (n + 1) c = gRed lo (gFo (lo + 1) n c)
  | 0, _ => rfl
  | n + 1, c => by
    show gFo lo (n + 1) (gRed (lo + (n + 1)) c) = gRed lo (gFo (lo + 1) n (gRed (lo + 1 + n) c))
    rw [gFo_last lo n, show lo + (n + 1) = lo + 1 + n by omega]
theorem gFo_X (c : Nat) (h : c < 2 ^ 255) : gFo 128 128 (2 * c) % 2 ^ 128 = gX (gFo 128 128 c % 2 ^ 128) := by
  have h1 : gFo 128 128 (2 * c) = gRed 128 (2 * gFo 128 127 c) := by
    rw [show (128 : Nat) = 127 + 1 from rfl, gFo_last, ← gFo_two 128 (by decide)]
  have h2 : gFo 128 128 c = gFo 128 127 c := by
    show gFo 128 127 (gRed (128 + 127) c) = _
    rw [gRed_still (128 + 127) c (bit_great (i := 255) h (by decide))]
  rw [h1, h2]
  generalize gFo 128 127 c = v
  have hb : (v % 2 ^ 128).testBit 127 = v.testBit 127 := by
    rw [Nat.testBit_mod_two_pow]
    simp
  rw [← Nat.mod_eq_of_lt (gX_lt (v % 2 ^ 128) (Nat.mod_lt _ (by decide)))]
  unfold gRed gX
  rw [hb, bit_two_succ v 127, Nat.xor_mod_two_pow, Nat.xor_mod_two_pow]
  congr 1
  · omega
  · split <;> decide
theorem gFo_pw (b : Nat) (hb : b < 2 ^ 128) : ∀ n, n ≤ 128 → gFo 128 128 (b * 2 ^ n) % 2 ^ 128 = gPw b n
  | 0, _ => by
    rw [Nat.pow_zero, Nat.mul_one, gFo_still _ _ hb, Nat.mod_eq_of_lt hb]
    rfl
  | n + 1, h => by
    have hlt : b * 2 ^ n < 2 ^ 255 := by
      have h1 : 2 ^ n ≤ 2 ^ 127 := Nat.pow_le_pow_right (by decide) (by omega)
      have h2 : b * 2 ^ n ≤ b * 2 ^ 127 := Nat.mul_le_mul_left _ h1
      have h3 : b * 2 ^ 127 < 2 ^ 128 * 2 ^ 127 := Nat.mul_lt_mul_of_pos_right hb (by decide)
      rw [← Nat.pow_add] at h3
      exact Nat.lt_of_le_of_lt h2 h3
    rw [Nat.pow_succ, ← Nat.mul_assoc, Nat.mul_comm _ 2, gFo_X _ hlt, gFo_pw b hb n (by omega)]
    rfl

/-- The products added one behind the other. -/
def gSum (a b : Nat) : Nat → Nat
  | 0 => 0
  | n + 1 => gSum a b n ^^^ (if a.testBit n then gPw b n else 0)
theorem gCv_sum (a b : Nat) (hb : b < 2 ^ 128) : ∀ n, n ≤ 128 → gFo 128 128 (gCv a b n) % 2 ^ 128 = gSum a b n
  | 0, _ => by
    show gFo 128 128 0 % 2 ^ 128 = 0
    rw [gFo_still 128 0 (by decide)]
  | n + 1, h => by
    show gFo 128 128 (gCv a b n ^^^ (if a.testBit n then b * 2 ^ n else 0)) % 2 ^ 128 = gSum a b n ^^^ (if a.testBit n then gPw b n else 0)
    rw [gFo_xor, Nat.xor_mod_two_pow, gCv_sum a b hb n (by omega)]
    congr 1
    split
    · exact gFo_pw b hb n (by omega)
    · rw [gFo_still 128 0 (by decide)]
theorem gMul_sum (a b : Nat) (hb : b < 2 ^ 128) : gMul a b = gSum a b 128 := gCv_sum a b hb 128 (Nat.le_refl _)
theorem gSum_lt (a b : Nat) (hb : b < 2 ^ 128) : ∀ n, gSum a b n < 2 ^ 128
  | 0 => Nat.two_pow_pos 128
  | n + 1 => by
    refine Nat.xor_lt_two_pow (gSum_lt a b hb n) ?_
    split
    · exact gPw_lt b hb n
    · decide
theorem gSum_left (a a' b : Nat) : ∀ n, gSum (a ^^^ a') b n = gSum a b n ^^^ gSum a' b n
  | 0 => (Nat.xor_self 0).symm
  | n + 1 => by
    show gSum (a ^^^ a') b n ^^^ _ = (gSum a b n ^^^ _) ^^^ (gSum a' b n ^^^ _)
    rw [gSum_left a a' b n, Nat.testBit_xor, if_xor, xor4]
theorem gSum_right (a b b' : Nat) : ∀ n, gSum a (b ^^^ b') n = gSum a b n ^^^ gSum a b' n
  | 0 => (Nat.xor_self 0).symm
  | n + 1 => by
    show gSum a (b ^^^ b') n ^^^ _ = (gSum a b n ^^^ _) ^^^ (gSum a b' n ^^^ _)
    rw [gSum_right a b b' n, gPw_xor, xor4]
    split <;> simp
theorem gSum_zero (a : Nat) : ∀ n, gSum a 0 n = 0
  | 0 => rfl
  | n + 1 => by
    show gSum a 0 n ^^^ _ = 0
    rw [gSum_zero a n, gPw_zero]
    simp
theorem gSum_none (b : Nat) : ∀ n, gSum 0 b n = 0
  | 0 => rfl
  | n + 1 => by
    show gSum 0 b n ^^^ _ = 0
    rw [gSum_none b n]
    simp
theorem gSum_X (a b : Nat) : ∀ n, gX (gSum a b n) = gSum a (gX b) n
  | 0 => gX_zero
  | n + 1 => by
    show gX (gSum a b n ^^^ _) = gSum a (gX b) n ^^^ _
    rw [gX_xor, gSum_X a b n, gPw_X]
    congr 1
    split
    · rfl
    · exact gX_zero
theorem gSum_pw (a b n : Nat) : ∀ m, gPw (gSum a b n) m = gSum a (gPw b m) n
  | 0 => rfl
  | m + 1 => by
    show gX (gPw (gSum a b n) m) = gSum a (gX (gPw b m)) n
    rw [gSum_pw a b n m, gSum_X]
theorem mod_bit (a n : Nat) : a % 2 ^ (n + 1) = a % 2 ^ n ^^^ (if a.testBit n then 2 ^ n else 0) := by
  apply Nat.eq_of_testBit_eq
  intro i
  rw [Nat.testBit_xor, Nat.testBit_mod_two_pow, Nat.testBit_mod_two_pow]
  by_cases e : i = n
  · subst e
    cases a.testBit i <;> simp
  · have h : (if a.testBit n then 2 ^ n else 0).testBit i = false := by
      split
      · rw [Nat.testBit_two_pow]; simp; omega
      · simp
    rw [h]
    have : decide (i < n + 1) = decide (i < n) := by
      rw [decide_eq_decide]; omega
    rw [this, Bool.xor_false]
theorem gPw_one (n : Nat) (h : n < 128) : gPw 1 n = 2 ^ n := by
  have h0 : (List.range 128).all (fun n => gPw 1 n == 2 ^ n) = true := by kernel_rfl
  simpa using all_range h0 n h
theorem gSum_one (a : Nat) : ∀ n, n ≤ 128 → gSum a 1 n = a % 2 ^ n
  | 0, _ => by
    rw [Nat.pow_zero, Nat.mod_one]
    rfl
  | n + 1, h => by
    show gSum a 1 n ^^^ _ = _
    rw [gSum_one a n (by omega), gPw_one n (by omega), mod_bit]
theorem gMul_one (a : Nat) (ha : a < 2 ^ 128) : gMul a 1 = a := by
  rw [gMul_sum a 1 (by decide), gSum_one a 128 (Nat.le_refl _), Nat.mod_eq_of_lt ha]
theorem gMul_left (a a' b : Nat) (hb : b < 2 ^ 128) : gMul (a ^^^ a') b = gMul a b ^^^ gMul a' b := by
  rw [gMul_sum _ _ hb, gMul_sum _ _ hb, gMul_sum _ _ hb, gSum_left]
theorem gMul_right (a b b' : Nat) (hb : b < 2 ^ 128) (hb' : b' < 2 ^ 128) : gMul a (b ^^^ b') = gMul a b ^^^ gMul a b' := by
  rw [gMul_sum _ _ (Nat.xor_lt_two_pow hb hb'), gMul_sum _ _ hb, gMul_sum _ _ hb', gSum_right]
theorem gMul_none (b : Nat) (hb : b < 2 ^ 128) : gMul 0 b = 0 := by
  rw [gMul_sum _ _ hb, gSum_none]
theorem gMul_zero (a : Nat) : gMul a 0 = 0 := by
  rw [gMul_sum _ _ (by decide), gSum_zero]

/-! The product is one of a ring without nilpotents. -/
theorem gSum_swap (a b c m : Nat) : ∀ n, gSum a (gSum b c m) n = gSum b (gSum a c n) m
  | 0 => (gSum_zero b m).symm
  | n + 1 => by
    show gSum a (gSum b c m) n ^^^ _ = gSum b (gSum a c n ^^^ _) m
    rw [gSum_right, gSum_swap a b c m n, gSum_pw]
    congr 1
    split
    · rfl
    · exact (gSum_zero b m).symm
theorem gMul_comm (a b : Nat) (ha : a < 2 ^ 128) (hb : b < 2 ^ 128) : gMul a b = gMul b a := by
  have h := gSum_swap a b 1 128 128
  rw [gSum_one b 128 (Nat.le_refl _), gSum_one a 128 (Nat.le_refl _), Nat.mod_eq_of_lt ha, Nat.mod_eq_of_lt hb] at h
  rw [gMul_sum a b hb, gMul_sum b a ha, h]
theorem gPoly (c : Nat) (hc : c < 2 ^ 128) : gPw c 128 = ((c ^^^ gPw c 1) ^^^ gPw c 2) ^^^ gPw c 7 := by
  have h : gSum c 1 128 = c := by rw [gSum_one c 128 (Nat.le_refl _), Nat.mod_eq_of_lt hc]
  have e : ∀ k, gPw c k = gSum c (gPw 1 k) 128 := fun k => by rw [← gSum_pw, h]
  rw [e 128, e 1, e 2, e 7, show gPw 1 128 = ((1 ^^^ gPw 1 1) ^^^ gPw 1 2) ^^^ gPw 1 7 by decide, gSum_right, gSum_right, gSum_right, h]
theorem gSum_two (a b : Nat) : ∀ n, gSum (2 * a) b (n + 1) = gX (gSum a b n)
  | 0 => by
    show 0 ^^^ (if (2 * a).testBit 0 then _ else _) = gX 0
    rw [bit_two_zero, gX_zero]
    simp
  | n + 1 => by
    show gSum (2 * a) b (n + 1) ^^^ (if (2 * a).testBit (n + 1) then gX (gPw b n) else 0) = gX (gSum a b n ^^^ _)
    rw [gSum_two a b n, bit_two_succ, gX_xor]
    congr 1
    split
    · rfl
    · exact gX_zero.symm
theorem gSum_low (b : Nat) : ∀ n, n ≤ 120 → gSum (2 ^ 128 + 135) b (8 + n) = ((b ^^^ gPw b 1) ^^^ gPw b 2) ^^^ gPw b 7
  | 0, _ => by
    simp [gSum, Nat.testBit, gPw]
  | n + 1, h => by
    show gSum (2 ^ 128 + 135) b (8 + n) ^^^ (if (2 ^ 128 + 135).testBit (8 + n) then gPw b (8 + n) else 0) = _
    have h0 : (List.range 120).all (fun n => (2 ^ 128 + 135).testBit (8 + n) == false) = true := by kernel_rfl
    have h1 : (2 ^ 128 + 135).testBit (8 + n) = false := by simpa using all_range h0 n (by omega)
    rw [gSum_low b n (by omega), h1]
    simp
theorem gSum_Xleft (a b : Nat) (hb : b < 2 ^ 128) : gSum (gX a) b 128 = gX (gSum a b 128) := by
  unfold gX
  rw [gSum_left]
  show gSum (2 * a) b (127 + 1) ^^^ _ = gX (gSum a b 127 ^^^ _)
  rw [gSum_two, gX_xor]
  congr 1
  split
  · rw [show (128 : Nat) = 8 + 120 from rfl, gSum_low b 120 (by decide), ← gPoly b hb]
    rfl
  · rw [gSum_none, gX_zero]
theorem gSum_pwleft (a b : Nat) (hb : b < 2 ^ 128) : ∀ n, gSum (gPw a n) b 128 = gPw (gSum a b 128) n
  | 0 => rfl
  | n + 1 => by
    show gSum (gX (gPw a n)) b 128 = gX (gPw (gSum a b 128) n)
    rw [gSum_Xleft _ _ hb, gSum_pwleft a b hb n]
theorem gSum_assoc (a b c : Nat) (hc : c < 2 ^ 128) : ∀ n, gSum (gSum a b n) c 128 = gSum a (gSum b c 128) n
  | 0 => gSum_none c 128
  | n + 1 => by
    show gSum (gSum a b n ^^^ _) c 128 = gSum a (gSum b c 128) n ^^^ _
    rw [gSum_left, gSum_assoc a b c hc n]
    congr 1
    split
    · exact gSum_pwleft b c hc n
    · exact gSum_none c 128
theorem gMul_assoc (a b c : Nat) (hb : b < 2 ^ 128) (hc : c < 2 ^ 128) : gMul (gMul a b) c = gMul a (gMul b c) := by
  rw [gMul_sum _ c hc, gMul_sum a b hb, gMul_sum b c hc, gMul_sum _ _ (gSum_lt b c hc 128), gSum_assoc a b c hc]
theorem gMul_pow2 (j v : Nat) (hj : j < 128) (hv : v < 2 ^ 128) : gMul (2 ^ j) v = gPw v j := by
  rw [gMul_sum _ _ hv, ← gPw_one j hj, gSum_pwleft _ _ hv]
  congr 1
  have h := gSum_swap 1 v 1 128 128
  rw [gSum_one v 128 (Nat.le_refl _), Nat.mod_eq_of_lt hv, gSum_one 1 128 (Nat.le_refl _)] at h
  rw [h, show 1 % 2 ^ 128 = 1 from rfl, gSum_one v 128 (Nat.le_refl _), Nat.mod_eq_of_lt hv]

theorem lin_ext (F G : Nat → Nat) (hF : ∀ a b, a < 2 ^ 128 → b < 2 ^ 128 → F (a ^^^ b) = F a ^^^ F b) (hG : ∀ a b, a < 2 ^ 128 → b < 2 ^ 128 → G (a ^^^ b) = G a ^^^ G b) (h0 : F 0 = G 0) (h : ∀ i, i < 128 → F (2 ^ i) = G (2 ^ i)) (a : Nat) (ha : a < 2 ^ 128) : F a = G a := by
  have key : ∀ n, n ≤ 128 → F (a % 2 ^ n) = G (a % 2 ^ n) := by
    intro n
    induction n with
    | zero => intro _; rw [Nat.pow_zero, Nat.mod_one]; exact h0
    | succ n ih =>
      intro hn
      have l1 : a % 2 ^ n < 2 ^ 128 := Nat.lt_of_le_of_lt (Nat.mod_le _ _) ha
      have l2 : (if a.testBit n then 2 ^ n else 0) < 2 ^ 128 := by
        split
        · exact Nat.pow_lt_pow_right (by decide) (by omega)
        · decide
      rw [mod_bit, hF _ _ l1 l2, hG _ _ l1 l2, ih (by omega)]
      congr 1
      split
      · exact h n (by omega)
      · exact h0
  have := key 128 (Nat.le_refl _)
  rwa [Nat.mod_eq_of_lt ha] at this

/-- Of what block x^j is the square. -/
def gRt (j : Nat) : Nat := gPw (if j % 2 = 0 then 1 else 48611766702991209068831621643639680420) (j / 2)
def gRoot (y : Nat) : Nat → Nat
  | 0 => 0
  | n + 1 => gRoot y n ^^^ (if y.testBit n then gRt n else 0)
theorem gRoot_xor (a b : Nat) : ∀ n, gRoot (a ^^^ b) n = gRoot a n ^^^ gRoot b n
  | 0 => (Nat.xor_self 0).symm
  | n + 1 => by
    show gRoot (a ^^^ b) n ^^^ _ = (gRoot a n ^^^ _) ^^^ (gRoot b n ^^^ _)
    rw [gRoot_xor a b n, Nat.testBit_xor, if_xor, xor4]
theorem gSq_xor (a b : Nat) (ha : a < 2 ^ 128) (hb : b < 2 ^ 128) : gMul (a ^^^ b) (a ^^^ b) = gMul a a ^^^ gMul b b := by
  rw [gMul_left _ _ _ (Nat.xor_lt_two_pow ha hb), gMul_right _ _ _ ha hb, gMul_right _ _ _ ha hb, gMul_comm b a hb ha, Nat.xor_assoc, ← Nat.xor_assoc (gMul a b), Nat.xor_self, Nat.zero_xor]
theorem gRoot_sq (a : Nat) (ha : a < 2 ^ 128) : gRoot (gMul a a) 128 = a := by
  refine lin_ext (fun a => gRoot (gMul a a) 128) (fun a => a) (fun a b ha hb => ?_) (fun _ _ _ _ => rfl) ?_ (fun i hi => ?_) a ha
  · show gRoot (gMul (a ^^^ b) (a ^^^ b)) 128 = _
    rw [gSq_xor a b ha hb, gRoot_xor]
  · show gRoot (gMul 0 0) 128 = 0
    rw [gMul_zero]
    decide
  · have h : (List.range 128).all (fun i => gRoot (gMul (2 ^ i) (2 ^ i)) 128 == 2 ^ i) = true := by kernel_rfl
    simpa using all_range h i hi
theorem gSq_zero (a : Nat) (ha : a < 2 ^ 128) (h : gMul a a = 0) : a = 0 := by
  rw [← gRoot_sq a ha, h]
  decide

/-- e times h, n times. -/
def gE (e h : Nat) : Nat → Nat
  | 0 => e
  | n + 1 => gMul (gE e h n) h
theorem gE_lt (e h : Nat) (he : e < 2 ^ 128) : ∀ n, gE e h n < 2 ^ 128
  | 0 => he
  | _ + 1 => gMul_lt _ _
theorem gE_one (e h : Nat) (he : e < 2 ^ 128) (hh : h < 2 ^ 128) : ∀ n, gE e h n = gMul e (gE 1 h n)
  | 0 => (gMul_one e he).symm
  | n + 1 => by
    show gMul (gE e h n) h = gMul e (gMul (gE 1 h n) h)
    rw [gE_one e h he hh n, gMul_assoc _ _ _ (gE_lt 1 h (by decide) n) hh]
theorem gE_add (h : Nat) (hh : h < 2 ^ 128) (m : Nat) : ∀ n, gE 1 h (m + n) = gMul (gE 1 h m) (gE 1 h n)
  | 0 => (gMul_one _ (gE_lt 1 h (by decide) m)).symm
  | n + 1 => by
    show gMul (gE 1 h (m + n)) h = gMul (gE 1 h m) (gMul (gE 1 h n) h)
    rw [gE_add h hh m n, gMul_assoc _ _ _ (gE_lt 1 h (by decide) n) hh]
theorem gE_nought (h : Nat) : gE 1 h 0 ≠ 0 := Nat.one_ne_zero
theorem gE_nil (h : Nat) (hh : h < 2 ^ 128) : ∀ k n, n ≤ k → gE 1 h n = 0 → h = 0
  | 0, n, hn, hz => by
    obtain rfl : n = 0 := by omega
    exact absurd hz (gE_nought h)
  | k + 1, n, hn, hz => by
    by_cases e0 : n = 0
    · subst e0; exact absurd hz (gE_nought h)
    · by_cases e1 : n = 1
      · subst e1
        have h2 : gMul 1 h = 0 := hz
        rwa [gMul_comm 1 h (by decide) hh, gMul_one h hh] at h2
      · obtain ⟨m, hm⟩ : ∃ m, m = (n + 1) / 2 := ⟨_, rfl⟩
        have hz2 : gE 1 h (m + m) = 0 := by
          by_cases e2 : n % 2 = 0
          · rwa [show m + m = n by omega]
          · rw [show m + m = n + 1 by omega]
            show gMul (gE 1 h n) h = 0
            rw [hz, gMul_none h hh]
        rw [gE_add h hh m m] at hz2
        exact gE_nil h hh k m (by omega) (gSq_zero _ (gE_lt 1 h (by decide) m) hz2)
/-- A power of x, multiplied by any block but 0, however often, isn't 0. -/
theorem gE_pow (j h n : Nat) (hj : j < 128) (hh : h < 2 ^ 128) (hz : gE (2 ^ j) h n = 0) : h = 0 := by
  rw [gE_one _ _ (Nat.pow_lt_pow_right (by decide) hj) hh, gMul_pow2 j _ hj (gE_lt 1 h (by decide) n)] at hz
  exact gE_nil h hh n n (Nat.le_refl _) (gPw_inj _ j hz)
end Go.Proofs.YtlfopcigbgfnlaaDoor
