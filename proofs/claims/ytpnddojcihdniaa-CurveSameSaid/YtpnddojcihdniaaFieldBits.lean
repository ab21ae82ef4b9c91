/-
  Bytes, words and limbs of one number. No program is named here.
-/
import Derived.Test.YtpnddojcihdniaaFieldMath
namespace Go.Proofs.Ytpnddojcihdniaa

set_option maxRecDepth 100000

theorem or_parts (a b k : Nat) (ha : a < 2 ^ k) : a ||| b * 2 ^ k = a + b * 2 ^ k := by
  rw [Nat.or_comm, Nat.mul_comm, ← Nat.two_pow_add_eq_or_of_lt ha, Nat.add_comm]
theorem or_parts' (a b k P : Nat) (hP : 2 ^ k = P) (ha : a < P) : a ||| b * P = a + b * P := by
  subst hP
  exact or_parts a b k ha

/-! Words of bytes, the lowest first. -/
def tkL (f : Nat → Nat) (i q : Nat) : Nat := val 8 (fun t => f (8 * q + t)) (min (i - 8 * q) 8)
theorem tkL_zero (f : Nat → Nat) (q : Nat) : tkL f 0 q = 0 := by
  unfold tkL
  rw [Nat.zero_sub, Nat.zero_min]
  rfl
theorem tkL_at (f : Nat → Nat) (i : Nat) : tkL f i (i / 8) = val 8 (fun t => f (8 * (i / 8) + t)) (i % 8) := by
  unfold tkL
  rw [show min (i - 8 * (i / 8)) 8 = i % 8 by omega]
theorem tkL_step (f : Nat → Nat) (i : Nat) : upd (tkL f i) (i / 8) (val 8 (fun t => f (8 * (i / 8) + t)) (i % 8 + 1)) = tkL f (i + 1) := by
  funext j
  unfold upd
  by_cases e : j = i / 8
  · rw [if_pos e]
    subst e
    unfold tkL
    rw [show min (i + 1 - 8 * (i / 8)) 8 = i % 8 + 1 by omega]
  · rw [if_neg e]
    unfold tkL
    rw [show min (i - 8 * j) 8 = min (i + 1 - 8 * j) 8 by omega]
/-- Word q of 32 bytes. -/
def wdL (f : Nat → Nat) (q : Nat) : Nat := val 8 (fun t => f (8 * q + t)) 8
theorem tkL_end (f : Nat → Nat) (q : Nat) (hq : q < 4) : tkL f 32 q = wdL f q := by
  unfold tkL wdL
  rw [show min (32 - 8 * q) 8 = 8 by omega]
theorem val8_lt (f : Nat → Nat) (hf : ∀ i, f i < 256) (n : Nat) : val 8 f n < 2 ^ (8 * n) := val_lt 8 f n (fun i _ => hf i)
theorem wdL_lt (f : Nat → Nat) (hf : ∀ i, f i < 256) (q : Nat) : wdL f q < 18446744073709551616 := val8_lt (fun t => f (8 * q + t)) (fun _ => hf _) 8
theorem wdL_val (f : Nat → Nat) : wdL f 0 + wdL f 1 * 18446744073709551616 + wdL f 2 * 340282366920938463463374607431768211456 + wdL f 3 * 6277101735386680763835789423207666416102355444464034512896 = val 8 f 32 := by
  have h1 := val_split 8 f 8 24
  have h2 := val_split 8 (fun i => f (8 + i)) 8 16
  have h3 := val_split 8 (fun i => f (8 + (8 + i))) 8 8
  have e0 : wdL f 0 = val 8 f 8 := by
    unfold wdL
    exact val_congr 8 8 (fun i _ => by rw [show 8 * 0 + i = i by omega])
  have e1 : wdL f 1 = val 8 (fun i => f (8 + i)) 8 := rfl
  have e2 : wdL f 2 = val 8 (fun i => f (8 + (8 + i))) 8 := by
    unfold wdL
    exact val_congr 8 8 (fun i _ => by rw [show 8 * 2 + i = 8 + (8 + i) by omega])
  have e3 : wdL f 3 = val 8 (fun i => f (8 + (8 + (8 + i)))) 8 := by
    unfold wdL
    exact val_congr 8 8 (fun i _ => by rw [show 8 * 3 + i = 8 + (8 + (8 + i)) by omega])
  rw [show 8 + 24 = 32 from rfl, show 8 * 8 = 64 from rfl] at h1
  rw [show 8 + 16 = 24 from rfl, show 8 * 8 = 64 from rfl] at h2
  rw [show 8 + 8 = 16 from rfl, show 8 * 8 = 64 from rfl] at h3
  rw [← e0] at h1
  rw [← e1] at h2
  rw [← e2, ← e3] at h3
  rw [h1, h2, h3]
  generalize wdL f 0 = a
  generalize wdL f 1 = b
  generalize wdL f 2 = c
  generalize wdL f 3 = d
  omega
/-- One byte more: the word's or. -/
theorem word_or (g : Nat → Nat) (hg : ∀ i, g i < 256) (r : Nat) : val 8 g r ||| g r * 2 ^ (8 * r) = val 8 g (r + 1) := or_parts _ _ _ (val8_lt g hg r)

/-! Limbs of words. -/
def cutL (w : Nat → Nat) : Nat → Nat := lst5 (w 0 % 2251799813685248) ((w 0 / 2251799813685248 + w 1 * 8192 % 18446744073709551616) % 2251799813685248) ((w 1 / 274877906944 + w 2 * 67108864 % 18446744073709551616) % 2251799813685248) ((w 2 / 33554432 + w 3 * 549755813888 % 18446744073709551616) % 2251799813685248) (w 3 / 4096 % 2251799813685248)
theorem cut_nums (a b c d : Nat) (h0 : a < 18446744073709551616) (h1 : b < 18446744073709551616) (h2 : c < 18446744073709551616) :
    v5 (a % 2251799813685248) ((a / 2251799813685248 + b * 8192 % 18446744073709551616) % 2251799813685248) ((b / 274877906944 + c * 67108864 % 18446744073709551616) % 2251799813685248) ((c / 33554432 + d * 549755813888 % 18446744073709551616) % 2251799813685248) (d / 4096 % 2251799813685248) =
    (a + b * 18446744073709551616 + c * 340282366920938463463374607431768211456 + d * 6277101735386680763835789423207666416102355444464034512896) % 57896044618658097711785492504343953926634992332820282019728792003956564819968 := by
  have e1 : (a / 2251799813685248 + b * 8192 % 18446744073709551616) % 2251799813685248 = a / 2251799813685248 + b % 274877906944 * 8192 := by omega
  have e2 : (b / 274877906944 + c * 67108864 % 18446744073709551616) % 2251799813685248 = b / 274877906944 + c % 33554432 * 67108864 := by omega
  have e3 : (c / 33554432 + d * 549755813888 % 18446744073709551616) % 2251799813685248 = c / 33554432 + d % 9223372036854775808 % 4096 * 549755813888 := by omega
  have e4 : d / 4096 % 2251799813685248 = d % 9223372036854775808 / 4096 := by omega
  have e6 : (a + b * 18446744073709551616 + c * 340282366920938463463374607431768211456 + d * 6277101735386680763835789423207666416102355444464034512896) % 57896044618658097711785492504343953926634992332820282019728792003956564819968 = a + b * 18446744073709551616 + c * 340282366920938463463374607431768211456 + d % 9223372036854775808 * 6277101735386680763835789423207666416102355444464034512896 := by omega
  rw [e1, e2, e3, e4, e6]
  generalize d % 9223372036854775808 = t
  have a1 := Nat.div_add_mod a 2251799813685248
  have b1 := Nat.div_add_mod b 274877906944
  have c1 := Nat.div_add_mod c 33554432
  have t1 := Nat.div_add_mod t 4096
  clear e1 e2 e3 e4 e6 h0 h1 h2
  generalize a / 2251799813685248 = x1 at *
  generalize a % 2251799813685248 = x2 at *
  generalize b / 274877906944 = y1 at *
  generalize b % 274877906944 = y2 at *
  generalize c / 33554432 = z1 at *
  generalize c % 33554432 = z2 at *
  generalize t / 4096 = u1 at *
  generalize t % 4096 = u2 at *
  subst a1 b1 c1 t1
  unfold v5
  omega
theorem cut_val (w : Nat → Nat) (h0 : w 0 < 18446744073709551616) (h1 : w 1 < 18446744073709551616) (h2 : w 2 < 18446744073709551616) :
    val 51 (cutL w) 5 = (w 0 + w 1 * 18446744073709551616 + w 2 * 340282366920938463463374607431768211456 + w 3 * 6277101735386680763835789423207666416102355444464034512896) % 57896044618658097711785492504343953926634992332820282019728792003956564819968 := by
  rw [val_v5, ← cut_nums (w 0) (w 1) (w 2) (w 3) h0 h1 h2]
  unfold cutL
  rw [lst5_0, lst5_1, lst5_2, lst5_3, lst5_4]
theorem mod51_lt (x : Nat) : x % 2251799813685248 < 2251799813685248 := Nat.mod_lt _ (by decide)
theorem cutL_lt (w : Nat → Nat) (i : Nat) (hi : i < 5) : cutL w i < 2251799813685248 := by
  unfold cutL
  obtain rfl | rfl | rfl | rfl | rfl : i = 0 ∨ i = 1 ∨ i = 2 ∨ i = 3 ∨ i = 4 := by omega
  · rw [lst5_0]
    exact mod51_lt _
  · rw [lst5_1]
    exact mod51_lt _
  · rw [lst5_2]
    exact mod51_lt _
  · rw [lst5_3]
    exact mod51_lt _
  · rw [lst5_4]
    exact mod51_lt _
/-- The number of 32 bytes. -/
def ofV (f : Nat → Nat) : Nat := val 8 f 32 % 57896044618658097711785492504343953926634992332820282019728792003956564819968 % pF
def ofL (f : Nat → Nat) : Nat → Nat := cutL (wdL f)
theorem is5_of (f : Nat → Nat) (hf : ∀ i, f i < 256) : Is5 (ofL f) (ofV f) := by
  refine ⟨fun i hi => Nat.lt_trans (cutL_lt _ i hi) (by decide), ?_⟩
  unfold ofL ofV
  rw [cut_val _ (wdL_lt f hf 0) (wdL_lt f hf 1) (wdL_lt f hf 2), wdL_val]
def smL (n : Nat) : Nat → Nat := lst5 n 0 0 0 0
theorem is5_small (n : Nat) (hn : n < 4294967296) : Is5 (smL n) n := by
  refine ⟨fun i hi => ?_, ?_⟩
  · obtain rfl | rfl | rfl | rfl | rfl : i = 0 ∨ i = 1 ∨ i = 2 ∨ i = 3 ∨ i = 4 := by omega
    · show n < _
      omega
    all_goals exact show 0 < 4503599627370496 by decide
  · rw [val_v5, pF_num]
    show v5 n 0 0 0 0 % _ = n
    unfold v5
    omega

/-! The number from 0 to p - 1. -/
/-- What goes out of the lowest k limbs, if c is added. -/
def outL (x : Nat → Nat) (c k : Nat) : Nat := (val 51 x k + c) / 2 ^ (51 * k)
theorem outL_zero (x : Nat → Nat) (c : Nat) : outL x c 0 = c := by
  show (0 + c) / 2 ^ 0 = c
  rw [Nat.pow_zero, Nat.div_one, Nat.zero_add]
theorem outL_step (x : Nat → Nat) (c k : Nat) : (x k + outL x c k) / 2251799813685248 = outL x c (k + 1) := by
  unfold outL
  show _ = (val 51 x k + x k * 2 ^ (51 * k) + c) / 2 ^ (51 * (k + 1))
  rw [pw_next, ← Nat.div_div_eq_div_mul, show val 51 x k + x k * 2 ^ (51 * k) + c = val 51 x k + c + x k * 2 ^ (51 * k) by omega, Nat.add_mul_div_right _ _ (Nat.two_pow_pos _), Nat.add_comm (x k)]
theorem lim_out (x : Nat → Nat) (c k n : Nat) (hk : k < n) : (x k + outL x c k) % 2251799813685248 = lim 51 (val 51 x n + c) k := by
  obtain ⟨m, rfl⟩ : ∃ m, n = k + 1 + m := ⟨n - k - 1, by omega⟩
  unfold lim outL
  rw [val_split]
  show _ = (val 51 x k + x k * 2 ^ (51 * k) + 2 ^ (51 * (k + 1)) * _ + c) / 2 ^ (51 * k) % 2 ^ 51
  rw [pw_next]
  generalize val 51 (fun i => x (k + 1 + i)) m = y
  rw [show val 51 x k + x k * 2 ^ (51 * k) + 2 ^ (51 * k) * 2 ^ 51 * y + c = val 51 x k + c + (x k + 2 ^ 51 * y) * 2 ^ (51 * k) by
    rw [Nat.add_mul, Nat.mul_comm (2 ^ (51 * k)) (2 ^ 51), Nat.mul_right_comm]; omega]
  rw [Nat.add_mul_div_right _ _ (Nat.two_pow_pos _), show (2251799813685248 : Nat) = 2 ^ 51 by decide, ← Nat.add_assoc, Nat.add_mul_mod_self_left, Nat.add_comm (x k)]
/-- The number's limbs, each below 2^51. -/
def leastQ (x : Nat → Nat) : Nat := 19 * outL x 19 5
theorem least_val (x : Nat → Nat) (h : val 51 x 5 < 2 * pF) : (val 51 x 5 + leastQ x) % 57896044618658097711785492504343953926634992332820282019728792003956564819968 = val 51 x 5 % pF := by
  unfold leastQ outL
  rw [pF_num] at *
  rw [show (2 : Nat) ^ (51 * 5) = 57896044618658097711785492504343953926634992332820282019728792003956564819968 by decide]
  generalize val 51 x 5 = v at *
  by_cases e : v < 57896044618658097711785492504343953926634992332820282019728792003956564819949
  · have e1 : (v + 19) / 57896044618658097711785492504343953926634992332820282019728792003956564819968 = 0 := by omega
    rw [e1]
    omega
  · have e1 : (v + 19) / 57896044618658097711785492504343953926634992332820282019728792003956564819968 = 1 := by omega
    rw [e1]
    omega
theorem car_less (x : Nat → Nat) (h : ∀ i, i < 5 → x i < 4503599627370496) : val 51 (carL x) 5 < 2 * pF := by
  rw [val_v5, pF_num]
  show v5 (x 0 % 2251799813685248 + 19 * (x 4 / 2251799813685248)) (x 1 % 2251799813685248 + x 0 / 2251799813685248) (x 2 % 2251799813685248 + x 1 / 2251799813685248) (x 3 % 2251799813685248 + x 2 / 2251799813685248) (x 4 % 2251799813685248 + x 3 / 2251799813685248) < _
  have h0 := h 0 (by omega)
  have h1 := h 1 (by omega)
  have h2 := h 2 (by omega)
  have h3 := h 3 (by omega)
  have h4 := h 4 (by omega)
  unfold v5
  omega
theorem lim_mod (V i : Nat) (hi : i < 5) : lim 51 V i = lim 51 (V % 57896044618658097711785492504343953926634992332820282019728792003956564819968) i := by
  have h1 := val_lim 51 V 5
  rw [show (2 : Nat) ^ (51 * 5) = 57896044618658097711785492504343953926634992332820282019728792003956564819968 by decide] at h1
  rw [← h1, lim_val 51 (lim 51 V) 5 (fun j _ => lim_lt 51 V j) i hi]
theorem least_lim {f : Nat → Nat} {v : Nat} (h : Is5 f v) (i : Nat) (hi : i < 5) : lim 51 (val 51 (carL f) 5 + leastQ (carL f)) i = lim 51 v i := by
  rw [lim_mod _ i hi, least_val _ (car_less f h.lt), car_mod, h.eq]
theorem leastQ_le {f : Nat → Nat} {v : Nat} (h : Is5 f v) : leastQ (carL f) ≤ 19 := by
  have h1 := car_less f h.lt
  unfold leastQ outL
  rw [pF_num] at h1
  rw [show (2 : Nat) ^ (51 * 5) = 57896044618658097711785492504343953926634992332820282019728792003956564819968 by decide]
  omega

/-! Words of limbs. -/
theorem join_w0 (v : Nat) : lim 51 v 0 + lim 51 v 1 * 2251799813685248 % 18446744073709551616 = lim 64 v 0 := by
  unfold lim
  simp only [Nat.reduceMul, Nat.reducePow, Nat.div_one]
  omega
theorem join_w1 (v : Nat) : lim 51 v 1 / 8192 + lim 51 v 2 * 274877906944 % 18446744073709551616 = lim 64 v 1 := by
  unfold lim
  simp only [Nat.reduceMul, Nat.reducePow]
  omega
theorem join_w2 (v : Nat) : lim 51 v 2 / 67108864 + lim 51 v 3 * 33554432 % 18446744073709551616 = lim 64 v 2 := by
  unfold lim
  simp only [Nat.reduceMul, Nat.reducePow]
  omega
theorem join_w3 (v : Nat) (h : v < 57896044618658097711785492504343953926634992332820282019728792003956564819968) : lim 51 v 3 / 549755813888 + lim 51 v 4 * 4096 % 18446744073709551616 = lim 64 v 3 := by
  unfold lim
  simp only [Nat.reduceMul, Nat.reducePow]
  omega
/-- A byte of a word. -/
theorem lim_byte (v i : Nat) : lim 64 v (i / 8) / 2 ^ (8 * (i % 8)) % 256 = lim 8 v i := by
  unfold lim
  have e : 8 * i = 64 * (i / 8) + 8 * (i % 8) := by omega
  rw [e, Nat.pow_add, ← Nat.div_div_eq_div_mul]
  generalize v / 2 ^ (64 * (i / 8)) = y
  obtain ⟨r, hr⟩ : ∃ r, r = i % 8 := ⟨_, rfl⟩
  rw [← hr]
  have hr8 : r < 8 := by omega
  clear hr e
  obtain rfl | rfl | rfl | rfl | rfl | rfl | rfl | rfl : r = 0 ∨ r = 1 ∨ r = 2 ∨ r = 3 ∨ r = 4 ∨ r = 5 ∨ r = 6 ∨ r = 7 := by omega
  all_goals
    simp only [Nat.reduceMul, Nat.reducePow, Nat.div_one]
    omega
theorem bytes_one {v u : Nat} (hv : v < pF) (hu : u < pF) (h : ∀ i, i < 32 → lim 8 v i = lim 8 u i) : v = u := by
  have h1 := val_congr 8 32 h
  rw [val_lim, val_lim] at h1
  have := pF_lt
  rw [Nat.mod_eq_of_lt (by omega), Nat.mod_eq_of_lt (by omega)] at h1
  exact h1
end Go.Proofs.Ytpnddojcihdniaa
