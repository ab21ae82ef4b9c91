/-
  Blocks as two words; the product, word by word. No program is named here.
-/
import Derived.Test.YtlfopcigbgfnlaaDoorGcmMath
import Derived.Test.YtlfopcigbgfnlaaDoorMach
namespace Go.Proofs.YtlfopcigbgfnlaaDoor
open Go.RowKit

set_option maxRecDepth 100000

/-- Word i of a polynomial. -/
def wd (v i : Nat) : Nat := unW v (64 * i) 64
theorem wd_lt (v i : Nat) : wd v i < 2 ^ 64 := unW_lt v (64 * i) 64
theorem unW_add (v s a : Nat) : ∀ b, unW v s (a + b) = unW v s a * 2 ^ b + unW v (s + a) b
  | 0 => by simp [unW]
  | b + 1 => by
    show 2 * unW v s (a + b) + (v.testBit (s + (a + b))).toNat = unW v s a * 2 ^ (b + 1) + (2 * unW v (s + a) b + (v.testBit (s + a + b)).toNat)
    rw [unW_add v s a b, Nat.pow_succ, ← Nat.add_assoc s a b, Nat.mul_add, ← Nat.mul_assoc, Nat.mul_comm 2 (unW v s a), Nat.mul_assoc, Nat.mul_comm 2 (2 ^ b), Nat.add_assoc]
theorem unW_div (v s a b : Nat) : unW v s (a + b) / 2 ^ b = unW v s a := by
  rw [unW_add, Nat.mul_comm, Nat.mul_add_div (Nat.two_pow_pos b), Nat.div_eq_of_lt (unW_lt v (s + a) b), Nat.add_zero]
theorem unW_mod (v s a b : Nat) : unW v s (a + b) % 2 ^ b = unW v (s + a) b := by
  rw [unW_add, Nat.mul_comm, Nat.mul_add_mod, Nat.mod_eq_of_lt (unW_lt v (s + a) b)]
theorem unW_one (v s : Nat) : unW v s 1 = (v.testBit s).toNat := by
  show 2 * 0 + (v.testBit (s + 0)).toNat = _
  simp
theorem put_word (v i : Nat) : wd v (i / 8) / 2 ^ (56 - 8 * (i % 8)) % 256 = un v i := by
  unfold wd un
  have e1 : unW v (64 * (i / 8)) 64 = unW v (64 * (i / 8)) ((8 * (i % 8) + 8) + (56 - 8 * (i % 8))) := by
    rw [show 8 * (i % 8) + 8 + (56 - 8 * (i % 8)) = 64 by omega]
  rw [e1, unW_div, show (256 : Nat) = 2 ^ 8 from rfl, unW_mod, show 64 * (i / 8) + 8 * (i % 8) = 8 * i by omega]
theorem be_alike {f g : Nat → Nat} : ∀ n, (∀ i, i < n → f i = g i) → be f n = be g n
  | 0, _ => rfl
  | n + 1, h => by
    show be f n * 256 + f n = be g n * 256 + g n
    rw [be_alike n (fun i hi => h i (by omega)), h n (by omega)]
theorem be_un (v q : Nat) : ∀ k, be (fun j => un v (8 * q + j)) k = unW v (64 * q) (8 * k)
  | 0 => rfl
  | k + 1 => by
    show be _ k * 256 + un v (8 * q + k) = unW v (64 * q) (8 * k + 8)
    rw [be_un v q k, unW_add]
    unfold un
    rw [show 64 * q + 8 * k = 8 * (8 * q + k) by omega]
theorem wd_pl (f : Nat → Nat) (hf : ∀ i, f i < 256) (q : Nat) (hq : q < 2) : be (fun j => f (8 * q + j)) 8 = wd (pl f) q := by
  rw [be_alike (g := fun j => un (pl f) (8 * q + j)) 8 (fun i hi => (un_pl f _ (by omega) (hf _)).symm), be_un]
  rfl
/-- The words after i bytes. -/
def tkW (f : Nat → Nat) (i j : Nat) : Nat := be (fun t => f (8 * j + t)) (if 8 * j + 8 ≤ i then 8 else i - 8 * j)
theorem tkW_zero (f : Nat → Nat) (j : Nat) : tkW f 0 j = 0 := by
  unfold tkW
  rw [if_neg (by omega), Nat.zero_sub]
  rfl
theorem tkW_at (f : Nat → Nat) (i : Nat) : tkW f i (i / 8) = be (fun t => f (8 * (i / 8) + t)) (i % 8) := by
  unfold tkW
  rw [if_neg (by omega), show i - 8 * (i / 8) = i % 8 by omega]
theorem tkW_step (f : Nat → Nat) (i : Nat) : upd (tkW f i) (i / 8) (be (fun t => f (8 * (i / 8) + t)) (i % 8 + 1)) = tkW f (i + 1) := by
  funext j
  unfold upd
  by_cases e : j = i / 8
  · rw [if_pos e]
    subst e
    unfold tkW
    by_cases e2 : i % 8 = 7
    · rw [if_pos (by omega), e2]
    · rw [if_neg (by omega), show i + 1 - 8 * (i / 8) = i % 8 + 1 by omega]
  · rw [if_neg e]
    unfold tkW
    by_cases e2 : 8 * j + 8 ≤ i
    · rw [if_pos e2, if_pos (by omega)]
    · rw [if_neg e2, if_neg (by omega), show i - 8 * j = i + 1 - 8 * j by omega]
theorem tkW_end (f : Nat → Nat) (hf : ∀ i, f i < 256) (j : Nat) (hj : j < 2) : tkW f 16 j = wd (pl f) j := by
  unfold tkW
  rw [if_pos (by omega), wd_pl f hf j hj]

/-! The product. -/
def wreg (a i k : Nat) : Nat := unW a (64 * i + k) (64 - k) * 2 ^ k
theorem wreg_zero (a i : Nat) : wreg a i 0 = wd a i := by
  unfold wreg wd
  rw [Nat.pow_zero, Nat.mul_one]
  rfl
theorem wreg_form (a i k : Nat) (hk : k < 64) : wreg a i k = (a.testBit (64 * i + k)).toNat * 2 ^ 63 + unW a (64 * i + (k + 1)) (63 - k) * 2 ^ k := by
  unfold wreg
  rw [show 64 - k = 1 + (63 - k) by omega, unW_add, unW_one, Nat.add_mul, Nat.mul_assoc, ← Nat.pow_add, show 63 - k + k = 63 by omega, Nat.add_assoc (64 * i) k 1]
theorem wreg_rest_lt (a s k : Nat) (hk : k < 64) : unW a s (63 - k) * 2 ^ k < 2 ^ 63 := by
  have h := (Nat.mul_lt_mul_right (Nat.two_pow_pos k)).2 (unW_lt a s (63 - k))
  rwa [← Nat.pow_add, show 63 - k + k = 63 by omega] at h
theorem wreg_lt (a i k : Nat) (hk : k < 64) : wreg a i k < 2 ^ 64 := by
  have h := wreg_rest_lt a (64 * i + (k + 1)) k hk
  have h2 := Bool.toNat_le (a.testBit (64 * i + k))
  rw [wreg_form a i k hk]
  generalize unW a (64 * i + (k + 1)) (63 - k) * 2 ^ k = x at *
  omega
theorem wreg_top (a i k : Nat) (hk : k < 64) : wreg a i k / 2 ^ 63 = (a.testBit (64 * i + k)).toNat := by
  have h := wreg_rest_lt a (64 * i + (k + 1)) k hk
  rw [wreg_form a i k hk]
  generalize unW a (64 * i + (k + 1)) (63 - k) * 2 ^ k = x at *
  omega
theorem wreg_next (a i k : Nat) (hk : k < 64) : wreg a i k * 2 % 2 ^ 64 = wreg a i (k + 1) := by
  have h := wreg_rest_lt a (64 * i + (k + 1)) k hk
  have e : wreg a i (k + 1) = unW a (64 * i + (k + 1)) (63 - k) * 2 ^ k * 2 := by
    unfold wreg
    rw [show 64 - (k + 1) = 63 - k by omega, Nat.pow_succ, Nat.mul_assoc]
  rw [e, wreg_form a i k hk]
  generalize unW a (64 * i + (k + 1)) (63 - k) * 2 ^ k = x at *
  omega
/-- All bits, or none. -/
def msk (p : Bool) : Nat := if p then 2 ^ 64 - 1 else 0
theorem msk_lt (p : Bool) : msk p < 2 ^ 64 := by cases p <;> decide
theorem and_msk (x : Nat) (hx : x < 2 ^ 64) (p : Bool) : x &&& msk p = if p then x else 0 := by
  cases p
  · exact Nat.and_zero x
  · show x &&& (2 ^ 64 - 1) = x
    rw [Nat.and_two_pow_sub_one_eq_mod, Nat.mod_eq_of_lt hx]
theorem neg_msk (p : Bool) : IntKind.u64.wrap (-((p.toNat : Nat) : Int)) = ((msk p : Nat) : Int) := by cases p <;> decide
theorem wd_xor (a b i : Nat) : wd (a ^^^ b) i = wd a i ^^^ wd b i := unW_xor a b _ _
theorem wd_zero (i : Nat) : wd 0 i = 0 := unW_zero _ _
theorem wd_if (p : Bool) (a i : Nat) : wd (if p then a else 0) i = if p then wd a i else 0 := by
  cases p
  · exact wd_zero i
  · rfl
theorem wd_odd (v i : Nat) : wd v i % 2 = (v.testBit (64 * i + 63)).toNat := by
  show (2 * unW v (64 * i) 63 + (v.testBit (64 * i + 63)).toNat) % 2 = _
  have := Bool.toNat_le (v.testBit (64 * i + 63))
  omega
/-- The product's words, one bit on. -/
theorem sum_word (a b n i : Nat) : wd (gSum a b n) i ^^^ (wd (gPw b n) i &&& msk (a.testBit n)) = wd (gSum a b (n + 1)) i := by
  rw [and_msk _ (wd_lt _ _), ← wd_if, ← wd_xor]
  rfl
/-- Times x, over two words. -/
theorem X_word0 (v : Nat) : wd v 0 / 2 ^^^ (msk (v.testBit 127) &&& 16212958658533785600) = wd (gX v) 0 := by
  have h := unW_X0 v 64 (by decide) (by decide)
  unfold wd
  rw [show 64 * 0 = 0 from rfl, h]
  cases v.testBit 127 <;> rfl
theorem X_word1 (v : Nat) : wd v 1 / 2 ||| wd v 0 * 2 ^ 63 % 2 ^ 64 = wd (gX v) 1 := by
  have h := unW_X v 64 64 (by decide) (by decide) (by decide)
  have h2 := wd_odd v 0
  have h3 : wd v 0 * 2 ^ 63 % 2 ^ 64 = wd v 0 % 2 * 2 ^ 63 := by omega
  rw [h3, h2]
  unfold wd
  rw [show 64 * 1 = 64 from rfl, h]
  cases v.testBit (64 * 0 + 63) <;> rfl
/-! The same, as the walk tells it. -/
theorem step_bit (a i k : Nat) (hk : k < 64) : IntKind.u64.wrap (-(((wreg a i k : Nat) : Int) / 9223372036854775808)) = ((msk (a.testBit (64 * i + k)) : Nat) : Int) := by
  have e : ((wreg a i k : Nat) : Int) / 9223372036854775808 = (((a.testBit (64 * i + k)).toNat : Nat) : Int) := by
    have := wreg_top a i k hk
    omega
  rw [e, neg_msk]
theorem step_sum (a b i k j : Nat) (hk : k < 64) : bits .xor .u64 ((wd (gSum a b (64 * i + k)) j : Nat) : Int) (bits .and .u64 ((wd (gPw b (64 * i + k)) j : Nat) : Int) (IntKind.u64.wrap (-(((wreg a i k : Nat) : Int) / 9223372036854775808)))) = ((wd (gSum a b (64 * i + (k + 1))) j : Nat) : Int) := by
  rw [step_bit a i k hk, bits_and_u64 _ _ (wd_lt _ _) (msk_lt _), bits_xor_u64 _ _ (wd_lt _ _) (Nat.and_lt_two_pow _ (msk_lt _)), sum_word]
  rfl
theorem step_X0 (v : Nat) : bits .xor .u64 (((wd v 0 : Nat) : Int) / 2) (bits .and .u64 (IntKind.u64.wrap (-bits .and .u64 ((wd v 1 : Nat) : Int) 1)) 16212958658533785600) = ((wd (gX v) 0 : Nat) : Int) := by
  have h1 := bits_and_u64 (wd v 1) 1 (wd_lt _ _) (by decide)
  rw [Nat.and_one_is_mod, wd_odd v 1, show 64 * 1 + 63 = 127 from rfl] at h1
  have h1' : bits .and .u64 ((wd v 1 : Nat) : Int) 1 = (((v.testBit 127).toNat : Nat) : Int) := h1
  have h2 := bits_and_u64 (msk (v.testBit 127)) 16212958658533785600 (msk_lt _) (by decide)
  have h2' : bits .and .u64 ((msk (v.testBit 127) : Nat) : Int) 16212958658533785600 = ((msk (v.testBit 127) &&& 16212958658533785600 : Nat) : Int) := h2
  have h3 : ((wd v 0 : Nat) : Int) / 2 = ((wd v 0 / 2 : Nat) : Int) := by omega
  have hl := wd_lt v 0
  rw [h1', neg_msk, h2', h3, bits_xor_u64 _ _ (by omega) (Nat.and_lt_two_pow _ (by decide)), X_word0]
theorem step_X1 (v : Nat) : bits .or .u64 (((wd v 1 : Nat) : Int) / 2) (IntKind.u64.wrap (((wd v 0 : Nat) : Int) * 9223372036854775808)) = ((wd (gX v) 1 : Nat) : Int) := by
  have h3 : ((wd v 1 : Nat) : Int) / 2 = ((wd v 1 / 2 : Nat) : Int) := by omega
  have h4 : IntKind.u64.wrap (((wd v 0 : Nat) : Int) * 9223372036854775808) = ((wd v 0 * 2 ^ 63 % 2 ^ 64 : Nat) : Int) := by
    rw [IntKind.wrap_u64]
    omega
  have hl := wd_lt v 1
  rw [h3, h4, bits_or_u64 _ _ (by omega) (Nat.mod_lt _ (by decide)), X_word1]
theorem step_next (a i k : Nat) (hk : k < 64) : IntKind.u64.wrap (((wreg a i k : Nat) : Int) * 2) = ((wreg a i (k + 1) : Nat) : Int) := by
  rw [← wreg_next a i k hk, IntKind.wrap_u64]
  omega
/-- The product is what the words hold in the end. -/
theorem wd_mul (a b : Nat) (hb : b < 2 ^ 128) (i : Nat) : wd (gSum a b 128) i = wd (gMul a b) i := by
  rw [gMul_sum a b hb]

/-! The hash, part by part. -/
/-- What v is the hash of, and m blocks of L bytes behind it. -/
def fdP (h v : Nat) (b : Nat → Nat) (L : Nat) : Nat → Nat
  | 0 => v
  | m + 1 => gMul (fdP h v b L m ^^^ pl (blkF b L m)) h
theorem fdP_lt (h v : Nat) (b : Nat → Nat) (L : Nat) (hv : v < 2 ^ 128) : ∀ m, fdP h v b L m < 2 ^ 128
  | 0 => hv
  | _ + 1 => gMul_lt _ _
def fdA (h v : Nat) (b : Nat → Nat) (L : Nat) : Nat := fdP h v b L ((L + 15) / 16)
theorem fdA_lt (h v : Nat) (b : Nat → Nat) (L : Nat) (hv : v < 2 ^ 128) : fdA h v b L < 2 ^ 128 := fdP_lt h v b L hv _
theorem pl_hsh (h b : Nat → Nat) (L : Nat) : ∀ m, pl (hshF h b L m) = fdP (pl h) 0 b L m
  | 0 => pl_zero
  | m + 1 => by rw [pl_hshF, pl_hsh h b L m]; rfl
theorem pl_hash (h b : Nat → Nat) (L : Nat) : pl (hashF h b L) = fdA (pl h) 0 b L := pl_hsh h b L _
theorem un_hash (h b : Nat → Nat) (L i : Nat) (hi : i < 16) : un (fdA (pl h) 0 b L) i = hashF h b L i := by
  rw [← pl_hash, un_pl _ i hi (hashF_lt _ _ _ _)]
theorem fdP_congr {h v : Nat} {b b' : Nat → Nat} {L L' o : Nat} : ∀ m, (∀ j, j < m → ∀ i, i < 16 → blkF b L j i = blkF b' L' (o + j) i) → fdP h (fdP h v b' L' o) b L m = fdP h v b' L' (o + m)
  | 0, _ => rfl
  | m + 1, e => by
    show gMul (fdP h (fdP h v b' L' o) b L m ^^^ pl (blkF b L m)) h = gMul (fdP h v b' L' (o + m) ^^^ pl (blkF b' L' (o + m))) h
    rw [fdP_congr m (fun j hj => e j (by omega)), pl_congr (e m (by omega))]
end Go.Proofs.YtlfopcigbgfnlaaDoor
