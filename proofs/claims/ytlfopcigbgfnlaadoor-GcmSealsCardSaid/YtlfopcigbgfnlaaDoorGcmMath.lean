/-
  Blocks of 16 bytes and the polynomials that they are; multiplied, hashed. No program is named here.
-/
import Derived.Test.YtlfopcigbgfnlaaDoorGcmPoly
namespace Go.Proofs.YtlfopcigbgfnlaaDoor

set_option maxRecDepth 100000

/-- A block's bit of x^j. -/
def pb (f : Nat → Nat) (j : Nat) : Bool := (f (j / 8)).testBit (7 - j % 8)
def plN (f : Nat → Nat) : Nat → Nat
  | 0 => 0
  | n + 1 => plN f n ^^^ (if pb f n then 2 ^ n else 0)
/-- The polynomial of a block. -/
def pl (f : Nat → Nat) : Nat := plN f 128
theorem if_bit (p : Bool) (n j : Nat) : (if p then 2 ^ n else 0).testBit j = (p && decide (n = j)) := by
  cases p
  · simp
  · rw [if_pos rfl, Nat.testBit_two_pow, Bool.true_and]
theorem plN_bit (f : Nat → Nat) (j : Nat) : ∀ n, (plN f n).testBit j = (decide (j < n) && pb f j)
  | 0 => by simp [plN]
  | n + 1 => by
    show (plN f n ^^^ _).testBit j = _
    rw [Nat.testBit_xor, plN_bit f j n, if_bit]
    by_cases e : n = j
    · subst e; simp
    · rw [show decide (j < n + 1) = decide (j < n) by rw [decide_eq_decide]; omega, decide_eq_false e, Bool.and_false, Bool.xor_false]
theorem pl_bit (f : Nat → Nat) (j : Nat) (hj : j < 128) : (pl f).testBit j = pb f j := by
  unfold pl
  rw [plN_bit, decide_eq_true hj, Bool.true_and]
theorem pl_lt (f : Nat → Nat) : pl f < 2 ^ 128 := by
  refine Nat.lt_pow_two_of_testBit _ fun i hi => ?_
  unfold pl
  rw [plN_bit, decide_eq_false (by omega), Bool.false_and]
theorem eq_of_bits {a b n : Nat} (ha : a < 2 ^ n) (hb : b < 2 ^ n) (h : ∀ i, i < n → a.testBit i = b.testBit i) : a = b := by
  apply Nat.eq_of_testBit_eq
  intro i
  by_cases e : i < n
  · exact h i e
  · rw [bit_great ha (by omega), bit_great hb (by omega)]
theorem pl_congr {f g : Nat → Nat} (h : ∀ i, i < 16 → f i = g i) : pl f = pl g :=
  eq_of_bits (pl_lt f) (pl_lt g) fun i hi => by
    rw [pl_bit f i hi, pl_bit g i hi]
    unfold pb
    rw [h (i / 8) (by omega)]
theorem pl_xor (f g : Nat → Nat) : pl (fun i => f i ^^^ g i) = pl f ^^^ pl g :=
  eq_of_bits (pl_lt _) (Nat.xor_lt_two_pow (pl_lt f) (pl_lt g)) fun i hi => by
    rw [Nat.testBit_xor, pl_bit _ i hi, pl_bit f i hi, pl_bit g i hi]
    unfold pb
    rw [Nat.testBit_xor]
theorem pl_zero : pl (fun _ => 0) = 0 := by decide

/-- w bits from that of x^s on, as a number, the first the highest. -/
def unW (v s : Nat) : Nat → Nat
  | 0 => 0
  | k + 1 => 2 * unW v s k + (v.testBit (s + k)).toNat
theorem unW_lt (v s : Nat) : ∀ k, unW v s k < 2 ^ k
  | 0 => by simp [unW]
  | k + 1 => by
    have := unW_lt v s k
    have h2 := Bool.toNat_le (v.testBit (s + k))
    rw [Nat.pow_succ]
    unfold unW
    omega
theorem bit_step (u : Nat) (c : Bool) : ∀ t, (2 * u + c.toNat).testBit t = if t = 0 then c else u.testBit (t - 1)
  | 0 => by
    rw [if_pos rfl, Nat.testBit_zero]
    cases c <;> simp
  | t + 1 => by
    rw [if_neg (by omega), Nat.testBit_succ, show (2 * u + c.toNat) / 2 = u by cases c <;> simp <;> omega]
    rfl
theorem unW_bit (v s : Nat) : ∀ k t, (unW v s k).testBit t = (decide (t < k) && v.testBit (s + k - 1 - t))
  | 0, t => by simp [unW]
  | k + 1, t => by
    show (2 * unW v s k + _).testBit t = _
    rw [bit_step, unW_bit v s k]
    by_cases e : t = 0
    · subst e
      rw [if_pos rfl, decide_eq_true (by omega), Bool.true_and, show s + (k + 1) - 1 - 0 = s + k by omega]
    · rw [if_neg e, show decide (t - 1 < k) = decide (t < k + 1) by rw [decide_eq_decide]; omega, show s + k - 1 - (t - 1) = s + (k + 1) - 1 - t by omega]
theorem unW_xor (a b s k : Nat) : unW (a ^^^ b) s k = unW a s k ^^^ unW b s k := by
  apply Nat.eq_of_testBit_eq
  intro i
  rw [Nat.testBit_xor, unW_bit, unW_bit, unW_bit, Nat.testBit_xor]
  cases decide (i < k) <;> simp
theorem unW_zero (s : Nat) : ∀ k, unW 0 s k = 0
  | 0 => rfl
  | k + 1 => by
    show 2 * unW 0 s k + _ = 0
    rw [unW_zero s k]
    simp
/-- The block of a polynomial. -/
def un (v i : Nat) : Nat := unW v (8 * i) 8
theorem un_lt (v i : Nat) : un v i < 256 := unW_lt v (8 * i) 8
theorem un_xor (a b i : Nat) : un (a ^^^ b) i = un a i ^^^ un b i := unW_xor a b _ _
theorem un_zero (i : Nat) : un 0 i = 0 := unW_zero _ _
theorem pl_un (v : Nat) (hv : v < 2 ^ 128) : pl (un v) = v :=
  eq_of_bits (pl_lt _) hv fun i hi => by
    rw [pl_bit _ i hi]
    unfold pb un
    rw [unW_bit, decide_eq_true (by omega), Bool.true_and, show 8 * (i / 8) + 8 - 1 - (7 - i % 8) = i by omega]
theorem un_pl (f : Nat → Nat) (i : Nat) (hi : i < 16) (hf : f i < 256) : un (pl f) i = f i :=
  eq_of_bits (n := 8) (un_lt _ _) hf fun t ht => by
    unfold un
    rw [unW_bit, decide_eq_true ht, Bool.true_and, pl_bit _ _ (by omega)]
    unfold pb
    rw [show (8 * i + 8 - 1 - t) / 8 = i by omega, show 7 - (8 * i + 8 - 1 - t) % 8 = t by omega]

/-! Times x, over words. -/
theorem gX_bit (v j : Nat) (hj : j < 128) : (gX v).testBit j = ((decide (0 < j) && v.testBit (j - 1)) ^^ (v.testBit 127 && (135 : Nat).testBit j)) := by
  unfold gX
  rw [Nat.testBit_xor, bit_two_mul]
  congr 1
  · by_cases e : j = 0
    · subst e; rfl
    · rw [if_neg e, decide_eq_true (by omega), Bool.true_and]
  · cases v.testBit 127
    · simp
    · rw [if_pos rfl, Bool.true_and]
      have h : (List.range 128).all (fun j => (2 ^ 128 + 135).testBit j == (135 : Nat).testBit j) = true := by kernel_rfl
      simpa using all_range h j hj
theorem half_bit (x t : Nat) : (x / 2).testBit t = x.testBit (t + 1) := (Nat.testBit_succ x t).symm
theorem unW_X (v s w : Nat) (hs : 8 ≤ s) (hw : 0 < w) (hsw : s + w ≤ 128) : unW (gX v) s w = unW v s w / 2 ||| (if v.testBit (s - 1) then 2 ^ (w - 1) else 0) := by
  apply Nat.eq_of_testBit_eq
  intro t
  rw [Nat.testBit_or, half_bit, if_bit, unW_bit, unW_bit]
  by_cases e : t < w
  · rw [gX_bit _ _ (by omega), decide_eq_true e, Bool.true_and, bit_great (v := 135) (n := 8) (by decide) (by omega), Bool.and_false, Bool.xor_false, decide_eq_true (show 0 < s + w - 1 - t by omega), Bool.true_and]
    by_cases e2 : w - 1 = t
    · rw [decide_eq_true e2, decide_eq_false (by omega), Bool.false_and, Bool.false_or, Bool.and_true, show s + w - 1 - t - 1 = s - 1 by omega]
    · rw [decide_eq_false e2, decide_eq_true (by omega), Bool.true_and, Bool.and_false, Bool.or_false, show s + w - 1 - t - 1 = s + w - 1 - (t + 1) by omega]
  · rw [decide_eq_false e, decide_eq_false (by omega), decide_eq_false (by omega)]
    simp
theorem unW_X0 (v w : Nat) (hw : 8 ≤ w) (hw2 : w ≤ 128) : unW (gX v) 0 w = unW v 0 w / 2 ^^^ (if v.testBit 127 then 225 * 2 ^ (w - 8) else 0) := by
  apply Nat.eq_of_testBit_eq
  intro t
  have hr : (if v.testBit 127 then 225 * 2 ^ (w - 8) else 0).testBit t = (v.testBit 127 && (decide (w - 8 ≤ t) && (225 : Nat).testBit (t - (w - 8)))) := by
    cases v.testBit 127
    · simp
    · rw [if_pos rfl, Bool.true_and, Nat.testBit_mul_two_pow]
  rw [Nat.testBit_xor, half_bit, hr, unW_bit, unW_bit]
  by_cases e : t < w
  · rw [gX_bit _ _ (by omega), decide_eq_true e, Bool.true_and]
    congr 1
    · by_cases e2 : t = w - 1
      · rw [decide_eq_false (by omega), decide_eq_false (by omega), Bool.false_and, Bool.false_and]
      · rw [decide_eq_true (by omega), decide_eq_true (by omega), Bool.true_and, Bool.true_and, show 0 + w - 1 - t - 1 = 0 + w - 1 - (t + 1) by omega]
    · congr 1
      by_cases e2 : w - 8 ≤ t
      · rw [decide_eq_true e2, Bool.true_and]
        have h : (List.range 8).all (fun x => (135 : Nat).testBit (7 - x) == (225 : Nat).testBit x) = true := by kernel_rfl
        have := all_range h (t - (w - 8)) (by omega)
        rw [show 0 + w - 1 - t = 7 - (t - (w - 8)) by omega]
        simpa using this
      · rw [decide_eq_false e2, Bool.false_and, bit_great (v := 135) (n := 8) (by decide) (by omega)]
  · rw [decide_eq_false e, decide_eq_false (by omega)]
    cases v.testBit 127
    · simp
    · rw [bit_great (v := 225) (n := 8) (by decide) (by omega)]
      simp
theorem un_odd (v i : Nat) : un v i % 2 = (v.testBit (8 * i + 7)).toNat := by
  show (2 * unW v (8 * i) 7 + (v.testBit (8 * i + 7)).toNat) % 2 = (v.testBit (8 * i + 7)).toNat
  have := Bool.toNat_le (v.testBit (8 * i + 7))
  omega
/-- A block's bit. -/
theorem pb_nat (f : Nat → Nat) (j : Nat) : f (j / 8) / 2 ^ (7 - j % 8) % 2 = (pb f j).toNat := (Nat.toNat_testBit _ _).symm

/-! Multiplied, hashed. -/
def mulF (f g : Nat → Nat) (i : Nat) : Nat := un (gMul (pl f) (pl g)) i
theorem mulF_lt (f g : Nat → Nat) (i : Nat) : mulF f g i < 256 := un_lt _ _
theorem mulF_congr {f f' g g' : Nat → Nat} (h : ∀ i, i < 16 → f i = f' i) (h2 : ∀ i, i < 16 → g i = g' i) : mulF f g = mulF f' g' := by
  funext i
  unfold mulF
  rw [pl_congr h, pl_congr h2]
theorem pl_mulF (f g : Nat → Nat) : pl (mulF f g) = gMul (pl f) (pl g) := pl_un _ (gMul_lt _ _)
/-- Block m of L bytes. -/
def blkF (b : Nat → Nat) (L m i : Nat) : Nat := if 16 * m + i < L then b (16 * m + i) else 0
/-- The hash of the first m blocks. -/
def hshF (h b : Nat → Nat) (L : Nat) : Nat → Nat → Nat
  | 0, _ => 0
  | m + 1, i => mulF (fun k => hshF h b L m k ^^^ blkF b L m k) h i
theorem hshF_lt (h b : Nat → Nat) (L : Nat) : ∀ m i, hshF h b L m i < 256
  | 0, _ => Nat.two_pow_pos 8
  | _ + 1, _ => mulF_lt _ _ _
/-- The hash of L bytes. -/
def hashF (h b : Nat → Nat) (L : Nat) : Nat → Nat := hshF h b L ((L + 15) / 16)
theorem hashF_lt (h b : Nat → Nat) (L i : Nat) : hashF h b L i < 256 := hshF_lt _ _ _ _ _
theorem blkF_congr {b b' : Nat → Nat} {L : Nat} (hb : ∀ i, i < L → b i = b' i) (m i : Nat) : blkF b L m i = blkF b' L m i := by
  unfold blkF
  split
  · exact hb _ (by assumption)
  · rfl
theorem hshF_congr {h h' b b' : Nat → Nat} {L : Nat} (hh : ∀ i, i < 16 → h i = h' i) (hb : ∀ i, i < L → b i = b' i) : ∀ m, hshF h b L m = hshF h' b' L m
  | 0 => rfl
  | m + 1 => by
    funext i
    show mulF _ h i = mulF _ h' i
    rw [mulF_congr (fun k _ => ?_) hh]
    rw [hshF_congr hh hb m, blkF_congr hb]
theorem hashF_congr {h h' b b' : Nat → Nat} {L : Nat} (hh : ∀ i, i < 16 → h i = h' i) (hb : ∀ i, i < L → b i = b' i) : hashF h b L = hashF h' b' L := hshF_congr hh hb _
theorem pl_hshF (h b : Nat → Nat) (L m : Nat) : pl (hshF h b L (m + 1)) = gMul (pl (hshF h b L m) ^^^ pl (blkF b L m)) (pl h) := by
  have e : hshF h b L (m + 1) = mulF (fun k => hshF h b L m k ^^^ blkF b L m k) h := rfl
  rw [e, pl_mulF, pl_xor]
/-- The hash is a sum. -/
theorem hshF_xor (h a b : Nat → Nat) (L : Nat) : ∀ m, pl (hshF h (fun i => a i ^^^ b i) L m) = pl (hshF h a L m) ^^^ pl (hshF h b L m)
  | 0 => by
    show pl (fun _ => 0) = pl (fun _ => 0) ^^^ pl (fun _ => 0)
    rw [Nat.xor_self, pl_zero]
  | m + 1 => by
    rw [pl_hshF, pl_hshF, pl_hshF, hshF_xor h a b L m, ← gMul_left _ _ _ (pl_lt h), xor4 (pl (hshF h a L m)) (pl (blkF a L m)), ← pl_xor (blkF a L m)]
    congr 2
    refine pl_congr fun i _ => ?_
    unfold blkF
    split
    · rfl
    · rfl
theorem hashF_xor (h a b : Nat → Nat) (L i : Nat) (hi : i < 16) : hashF h (fun i => a i ^^^ b i) L i = hashF h a L i ^^^ hashF h b L i := by
  have := hshF_xor h a b L ((L + 15) / 16)
  have e := congrArg (fun v => un v i) this
  simp only [un_xor] at e
  rw [un_pl _ i hi (hshF_lt _ _ _ _ _), un_pl _ i hi (hshF_lt _ _ _ _ _), un_pl _ i hi (hshF_lt _ _ _ _ _)] at e
  exact e
/-- Under the block 1 all blocks are added. -/
def addF (b : Nat → Nat) (L : Nat) : Nat → Nat → Nat
  | 0, _ => 0
  | m + 1, i => addF b L m i ^^^ blkF b L m i
theorem pl_one (h : Nat → Nat) (h0 : h 0 = 128) (hz : ∀ i, 0 < i → i < 16 → h i = 0) : pl h = 1 := by
  rw [pl_congr (g := fun i => if i = 0 then 128 else 0) (fun i hi => ?_)]
  · decide
  · split
    · subst i; exact h0
    · exact hz i (by omega) hi
theorem hshF_one (h b : Nat → Nat) (L : Nat) (h1 : pl h = 1) : ∀ m, pl (hshF h b L m) = pl (addF b L m)
  | 0 => rfl
  | m + 1 => by
    have e : addF b L (m + 1) = fun i => addF b L m i ^^^ blkF b L m i := rfl
    rw [pl_hshF, h1, gMul_one _ (Nat.xor_lt_two_pow (pl_lt _) (pl_lt _)), hshF_one h b L h1 m, e, pl_xor]

/-! One bit changed. -/
theorem pl_bitF (r t : Nat) (hr : r < 16) (ht : t < 8) : pl (fun i => if i = r then 2 ^ t else 0) = 2 ^ (8 * r + 7 - t) :=
  eq_of_bits (pl_lt _) (Nat.pow_lt_pow_right (by decide) (by omega)) fun j hj => by
    rw [pl_bit _ j hj, Nat.testBit_two_pow]
    show (if j / 8 = r then 2 ^ t else 0).testBit (7 - j % 8) = _
    by_cases e : j / 8 = r
    · rw [if_pos e, Nat.testBit_two_pow, decide_eq_decide]
      omega
    · rw [if_neg e, Nat.zero_testBit, eq_comm, decide_eq_false]
      omega
theorem pl_blk_bit (L q t m : Nat) (hq : q < L) (ht : t < 8) : pl (blkF (fun i => if i = q then 2 ^ t else 0) L m) = if m = q / 16 then 2 ^ (8 * (q % 16) + 7 - t) else 0 := by
  by_cases e : m = q / 16
  · rw [if_pos e, ← pl_bitF (q % 16) t (Nat.mod_lt _ (by decide)) ht]
    refine pl_congr fun i hi => ?_
    unfold blkF
    by_cases e2 : i = q % 16
    · rw [if_pos e2, if_pos (by omega)]
      exact if_pos (by omega)
    · rw [if_neg e2]
      split
      · exact if_neg (by omega)
      · rfl
  · rw [if_neg e]
    refine (pl_congr fun i hi => ?_).trans pl_zero
    unfold blkF
    split
    · exact if_neg (by omega)
    · rfl
theorem hshF_bit0 (h : Nat → Nat) (L q t : Nat) (hq : q < L) (ht : t < 8) : ∀ m, m ≤ q / 16 → pl (hshF h (fun i => if i = q then 2 ^ t else 0) L m) = 0
  | 0, _ => pl_zero
  | m + 1, hm => by
    rw [pl_hshF, hshF_bit0 h L q t hq ht m (by omega), pl_blk_bit L q t m hq ht, if_neg (by omega), Nat.xor_self, gMul_none _ (pl_lt h)]
theorem hshF_bit (h : Nat → Nat) (L q t : Nat) (hq : q < L) (ht : t < 8) : ∀ k, pl (hshF h (fun i => if i = q then 2 ^ t else 0) L (q / 16 + k + 1)) = gE (2 ^ (8 * (q % 16) + 7 - t)) (pl h) (k + 1)
  | 0 => by
    rw [pl_hshF, hshF_bit0 h L q t hq ht _ (by omega), pl_blk_bit L q t _ hq ht, if_pos (by omega), Nat.zero_xor]
    rfl
  | k + 1 => by
    have ih := hshF_bit h L q t hq ht k
    rw [show q / 16 + (k + 1) + 1 = (q / 16 + k + 1) + 1 by omega, pl_hshF, ih, pl_blk_bit L q t _ hq ht, if_neg (by omega), Nat.xor_zero]
    rfl
/-- With a bit changed, the hash is another, under any block but 0. -/
theorem hashF_bit (h b b' : Nat → Nat) (L q t : Nat) (hq : q < L) (ht : t < 8) (hb : ∀ i, i < L → b' i = b i ^^^ (if i = q then 2 ^ t else 0)) (he : ∀ i, i < 16 → hashF h b L i = hashF h b' L i) : pl h = 0 := by
  have e1 : pl (hashF h b L) = pl (hashF h b' L) := pl_congr he
  rw [hashF_congr (h := h) (h' := h) (b := b') (fun _ _ => rfl) hb] at e1
  have e2 := hshF_xor h b (fun i => if i = q then 2 ^ t else 0) L ((L + 15) / 16)
  have e3 : pl (hshF h (fun i => if i = q then 2 ^ t else 0) L ((L + 15) / 16)) = 0 := by
    have e4 : pl (hshF h b L ((L + 15) / 16)) = pl (hshF h b L ((L + 15) / 16)) ^^^ pl (hshF h (fun i => if i = q then 2 ^ t else 0) L ((L + 15) / 16)) := by
      rw [← e2]; exact e1
    generalize pl (hshF h b L ((L + 15) / 16)) = x at e4
    generalize pl (hshF h (fun i => if i = q then 2 ^ t else 0) L ((L + 15) / 16)) = y at e4 ⊢
    have e5 : x ^^^ x = x ^^^ (x ^^^ y) := by rw [← e4]
    rw [Nat.xor_self, ← Nat.xor_assoc, Nat.xor_self, Nat.zero_xor] at e5
    exact e5.symm
  obtain ⟨k, hk⟩ : ∃ k, (L + 15) / 16 = q / 16 + k + 1 := ⟨(L + 15) / 16 - (q / 16 + 1), by omega⟩
  rw [hk, hshF_bit h L q t hq ht] at e3
  exact gE_pow _ _ _ (by omega) (pl_lt h) e3
theorem pl_nought (h : Nat → Nat) (hh : ∀ i, h i < 256) (hz : pl h = 0) (i : Nat) (hi : i < 16) : h i = 0 := by
  rw [← un_pl h i hi (hh i), hz, un_zero]
end Go.Proofs.YtlfopcigbgfnlaaDoor
