/-
  2^255 - 19 is a prime, and what is not 0 has an inverse modulo it. No program is named here.
-/
import Derived.KernelRfl
namespace Go.Proofs.Ytpnddojcihdniaa

set_option maxRecDepth 100000

/-! Powers, modulo n. -/
def pm (a n : Nat) : Nat → Nat → Nat
  | 0, _ => 1 % n
  | f + 1, e => ((pm a n f (e / 2)) ^ 2 * a ^ (e % 2)) % n
theorem pm_eq (a n : Nat) : ∀ f e, e < 2 ^ f → pm a n f e = a ^ e % n
  | 0, e, h => by
    obtain rfl : e = 0 := by omega
    rfl
  | f + 1, e, h => by
    show ((pm a n f (e / 2)) ^ 2 * a ^ (e % 2)) % n = a ^ e % n
    rw [pm_eq a n f (e / 2) (by rw [Nat.pow_succ] at h; omega), Nat.mul_mod, ← Nat.pow_mod, ← Nat.mul_mod, ← Nat.pow_mul, ← Nat.pow_add, show e / 2 * 2 + e % 2 = e by omega]
theorem pow_one_mul {a n x : Nat} (h : a ^ x % n = 1) (hn : 1 < n) (k : Nat) : a ^ (x * k) % n = 1 := by
  rw [Nat.pow_mul, Nat.pow_mod, h, Nat.one_pow, Nat.mod_eq_of_lt hn]
theorem pow_one_rest {a n x y : Nat} (h : a ^ x % n = 1) (hn : 1 < n) : a ^ y % n = a ^ (y % x) % n := by
  conv => lhs; rw [← Nat.div_add_mod y x]
  rw [Nat.pow_add, Nat.mul_mod, pow_one_mul h hn, Nat.one_mul, Nat.mod_mod]
theorem pow_one_gcd {a n : Nat} (hn : 1 < n) : ∀ x y, a ^ x % n = 1 → a ^ y % n = 1 → a ^ (Nat.gcd x y) % n = 1 := by
  intro x y
  induction x, y using Nat.gcd.induction with
  | H0 y => intro _ h; rwa [Nat.gcd_zero_left]
  | H1 x y hx ih =>
    intro h1 h2
    rw [Nat.gcd_rec]
    refine ih ?_ h1
    rw [← pow_one_rest h1 hn]
    exact h2

/-! As many, and no two alike: all. -/
theorem pig : ∀ (n : Nat) (f : Nat → Nat), (∀ i, i < n → f i < n) → (∀ i j, i < n → j < n → f i = f j → i = j) → ∀ y, y < n → ∃ i, i < n ∧ f i = y
  | 0, _, _, _, y, hy => absurd hy (by omega)
  | n + 1, f, hf, hi, y, hy => by
    have hz := hf n (by omega)
    have ih := pig n (fun i => if f i = n then f n else f i) (fun i h => by
      show (if f i = n then f n else f i) < n
      have := hf i (by omega)
      by_cases e : f i = n
      · rw [if_pos e]
        have : f n ≠ n := fun e2 => by
          have := hi i n (by omega) (by omega) (e.trans e2.symm)
          omega
        omega
      · rw [if_neg e]; omega) (fun i j h1 h2 h => by
      change (if f i = n then f n else f i) = (if f j = n then f n else f j) at h
      by_cases e : f i = n
      · by_cases e2 : f j = n
        · exact hi i j (by omega) (by omega) (e.trans e2.symm)
        · rw [if_pos e, if_neg e2] at h
          have := hi n j (by omega) (by omega) h
          omega
      · by_cases e2 : f j = n
        · rw [if_neg e, if_pos e2] at h
          have := hi i n (by omega) (by omega) h
          omega
        · rw [if_neg e, if_neg e2] at h
          exact hi i j (by omega) (by omega) h)
    by_cases e : y = f n
    · exact ⟨n, by omega, e.symm⟩
    · by_cases e2 : y = n
      · obtain ⟨i, h1, h2⟩ := ih (f n) (by omega)
        change (if f i = n then f n else f i) = f n at h2
        by_cases e3 : f i = n
        · exact ⟨i, by omega, e3.trans e2.symm⟩
        · rw [if_neg e3] at h2
          have := hi i n (by omega) (by omega) h2
          omega
      · obtain ⟨i, h1, h2⟩ := ih y (by omega)
        change (if f i = n then f n else f i) = y at h2
        by_cases e3 : f i = n
        · rw [if_pos e3] at h2
          exact absurd h2.symm e
        · rw [if_neg e3] at h2
          exact ⟨i, by omega, h2⟩

/-! Primes. -/
def PrimeN (q : Nat) : Prop := 1 < q ∧ ∀ m, m ∣ q → m = 1 ∨ m = q
theorem PrimeN.coprime {q : Nat} (h : PrimeN q) (m : Nat) (hm : ¬ q ∣ m) : Nat.gcd m q = 1 := by
  rcases h.2 _ (Nat.gcd_dvd_right m q) with e | e
  · exact e
  · exact absurd (e ▸ Nat.gcd_dvd_left m q) hm
def prodL : List Nat → Nat
  | [] => 1
  | q :: l => q * prodL l
theorem prime_of_prod : ∀ (l : List Nat), (∀ q ∈ l, PrimeN q) → ∀ m, m ∣ prodL l → m ≠ 1 → ∃ q, q ∈ l ∧ q ∣ m
  | [], _, m, h, h1 => absurd (Nat.dvd_one.1 h) h1
  | q :: l, hp, m, h, h1 => by
    by_cases e : q ∣ m
    · exact ⟨q, List.mem_cons_self, e⟩
    · have hc := (hp q List.mem_cons_self).coprime m e
      obtain ⟨r, h2, h3⟩ := prime_of_prod l (fun r hr => hp r (List.mem_cons_of_mem _ hr)) m (Nat.Coprime.dvd_of_dvd_mul_left hc h) h1
      exact ⟨r, List.mem_cons_of_mem _ h2, h3⟩
theorem prime_small (q k : Nat) (h1 : 1 < q) (h2 : q < (k + 1) * (k + 1)) (h3 : ((List.range (k + 1)).all fun d => decide (d < 2) || q % d != 0) = true) : PrimeN q := by
  have hno : ∀ d, d < k + 1 → 2 ≤ d → ¬ d ∣ q := fun d hd h hdv => by
    have := List.all_eq_true.1 h3 d (List.mem_range.2 hd)
    rw [Nat.mod_eq_zero_of_dvd hdv] at this
    simp at this
    omega
  refine ⟨h1, fun m hm => ?_⟩
  obtain ⟨c, hc⟩ := hm
  by_cases e1 : m = 1
  · exact Or.inl e1
  · by_cases e2 : m = q
    · exact Or.inr e2
    · exfalso
      have hm0 : m ≠ 0 := fun e => by rw [e, Nat.zero_mul] at hc; omega
      have hc0 : c ≠ 0 := fun e => by rw [e, Nat.mul_zero] at hc; omega
      have hc1 : c ≠ 1 := fun e => by rw [e, Nat.mul_one] at hc; omega
      by_cases e3 : m < k + 1
      · exact hno m e3 (by omega) ⟨c, hc⟩
      · by_cases e4 : c < k + 1
        · exact hno c e4 (by omega) ⟨m, by rw [hc, Nat.mul_comm]⟩
        · have := Nat.mul_le_mul (show k + 1 ≤ m by omega) (show k + 1 ≤ c by omega)
          omega

/-- A number whose powers are all that is not 0. -/
structure Gen (n a : Nat) : Prop where
  big : 1 < n
  one : a ^ (n - 1) % n = 1
  all : ∀ x, 0 < x → x < n → ∃ k, k < n - 1 ∧ a ^ k % n = x
theorem gen_of (n a : Nat) (l : List Nat) (hn : 1 < n) (hl : prodL l = n - 1) (hp : ∀ q ∈ l, PrimeN q) (h1 : a ^ (n - 1) % n = 1) (h2 : ∀ q ∈ l, a ^ ((n - 1) / q) % n ≠ 1) : Gen n a := by
  have hord : ∀ d, 0 < d → d < n - 1 → a ^ d % n ≠ 1 := fun d hd hd2 he => by
    have hg := pow_one_gcd hn d (n - 1) he h1
    have hgl := Nat.gcd_le_left (n - 1) hd
    obtain ⟨m, hm⟩ := Nat.gcd_dvd_right d (n - 1)
    have hm1 : m ≠ 1 := fun e => by rw [e, Nat.mul_one] at hm; omega
    obtain ⟨q, hq, c, hc⟩ := prime_of_prod l hp m ⟨Nat.gcd d (n - 1), by rw [hl, Nat.mul_comm]; exact hm⟩ hm1
    have hq0 : 0 < q := by have := (hp q hq).1; omega
    have hdiv : (n - 1) / q = Nat.gcd d (n - 1) * c := by
      conv => lhs; rw [hm, hc, ← Nat.mul_assoc, Nat.mul_comm _ q, Nat.mul_assoc]
      exact Nat.mul_div_cancel_left _ hq0
    refine h2 q hq ?_
    rw [hdiv]
    exact pow_one_mul hg hn c
  have hne : ∀ i, i < n - 1 → a ^ i % n ≠ 0 := fun i hi h0 => by
    have := h1
    rw [show n - 1 = i + (n - 1 - i) by omega, Nat.pow_add, Nat.mul_mod, h0, Nat.zero_mul, Nat.zero_mod] at this
    omega
  have hinj : ∀ i j, i < j → j < n - 1 → a ^ i % n ≠ a ^ j % n := fun i j hij hj he => by
    refine hord (j - i) (by omega) (by omega) ?_
    have e1 : a ^ (i + (n - 1 - i)) % n = 1 := by rw [show i + (n - 1 - i) = n - 1 by omega]; exact h1
    have e2 : a ^ (j + (n - 1 - i)) % n = 1 := by
      rw [Nat.pow_add, Nat.mul_mod, ← he, ← Nat.mul_mod, ← Nat.pow_add]
      exact e1
    rw [show j + (n - 1 - i) = (j - i) + (n - 1) by omega, Nat.pow_add, Nat.mul_mod, h1, Nat.mul_one, Nat.mod_mod] at e2
    exact e2
  refine ⟨hn, h1, fun x hx hx2 => ?_⟩
  obtain ⟨k, hk, he⟩ := pig (n - 1) (fun i => a ^ i % n - 1) (fun i hi => by
    have := hne i hi
    have := Nat.mod_lt (a ^ i) (show 0 < n by omega)
    show a ^ i % n - 1 < n - 1
    omega) (fun i j hi hj h => by
    have a1 := hne i hi
    have a2 := hne j hj
    have h' : a ^ i % n = a ^ j % n := by
      change a ^ i % n - 1 = a ^ j % n - 1 at h
      omega
    by_cases e : i < j
    · exact absurd h' (hinj i j e hj)
    · by_cases e2 : j < i
      · exact absurd h'.symm (hinj j i e2 hi)
      · omega) (x - 1) (by omega)
  have := hne k hk
  change a ^ k % n - 1 = x - 1 at he
  exact ⟨k, hk, by omega⟩
/-- What is not 0, to the power n - 1, is 1. -/
theorem Gen.fermat {n a : Nat} (h : Gen n a) (x : Nat) (hx : x % n ≠ 0) : x ^ (n - 1) % n = 1 := by
  have hb := h.big
  obtain ⟨k, _, he⟩ := h.all (x % n) (by omega) (Nat.mod_lt _ (by omega))
  rw [Nat.pow_mod, ← he, ← Nat.pow_mod, ← Nat.pow_mul, Nat.mul_comm]
  exact pow_one_mul h.one hb k
theorem Gen.prime {n a : Nat} (h : Gen n a) : PrimeN n := by
  have hb := h.big
  refine ⟨hb, fun m hm => ?_⟩
  by_cases e : m = n
  · exact Or.inr e
  · have hm0 : 0 < m := Nat.pos_of_dvd_of_pos hm (by omega)
    have hml : m < n := by have := Nat.le_of_dvd (by omega) hm; omega
    have hf := h.fermat m (by rw [Nat.mod_eq_of_lt hml]; omega)
    obtain ⟨c, hc⟩ := hm
    by_cases e1 : n - 1 = 0
    · omega
    · have hd : m ∣ m ^ (n - 1) := ⟨m ^ (n - 2), by rw [← Nat.pow_succ', show (n - 2).succ = n - 1 by omega]⟩
      have hmm : m ∣ 1 := by
        have h3 : m ∣ m ^ (n - 1) % n := (Nat.dvd_mod_iff ⟨c, hc⟩).2 hd
        rwa [hf] at h3
      exact Or.inl (Nat.dvd_one.1 hmm)
/-- A certificate. -/
theorem gen_cert (n a : Nat) (l : List Nat) (hn : 1 < n) (hp : ∀ q ∈ l, PrimeN q) (h : (decide (n - 1 < 2 ^ 256) && decide (prodL l = n - 1) && pm a n 256 (n - 1) == 1 && l.all fun q => pm a n 256 ((n - 1) / q) != 1) = true) : Gen n a := by
  simp only [Bool.and_eq_true, decide_eq_true_eq, beq_iff_eq, List.all_eq_true, bne_iff_ne] at h
  obtain ⟨⟨⟨h0, h1⟩, h2⟩, h3⟩ := h
  rw [pm_eq a n 256 _ h0] at h2
  refine gen_of n a l hn h1 hp h2 (fun q hq => ?_)
  have := h3 q hq
  rwa [pm_eq a n 256 _ (Nat.lt_of_le_of_lt (Nat.div_le_self _ _) h0)] at this

/-! The certificates, from the small primes on. -/
theorem pr_2 : PrimeN 2 := prime_small 2 1 (by decide) (by decide) (by kernel_rfl)
theorem pr_3 : PrimeN 3 := prime_small 3 1 (by decide) (by decide) (by kernel_rfl)
theorem pr_5 : PrimeN 5 := prime_small 5 2 (by decide) (by decide) (by kernel_rfl)
theorem pr_7 : PrimeN 7 := prime_small 7 2 (by decide) (by decide) (by kernel_rfl)
theorem pr_13 : PrimeN 13 := prime_small 13 3 (by decide) (by decide) (by kernel_rfl)
theorem pr_19 : PrimeN 19 := prime_small 19 4 (by decide) (by decide) (by kernel_rfl)
theorem pr_31 : PrimeN 31 := prime_small 31 5 (by decide) (by decide) (by kernel_rfl)
theorem pr_47 : PrimeN 47 := prime_small 47 6 (by decide) (by decide) (by kernel_rfl)
theorem pr_103 : PrimeN 103 := prime_small 103 10 (by decide) (by decide) (by kernel_rfl)
theorem pr_107 : PrimeN 107 := prime_small 107 10 (by decide) (by decide) (by kernel_rfl)
theorem pr_127 : PrimeN 127 := prime_small 127 11 (by decide) (by decide) (by kernel_rfl)
theorem pr_223 : PrimeN 223 := prime_small 223 14 (by decide) (by decide) (by kernel_rfl)
theorem pr_353 : PrimeN 353 := prime_small 353 18 (by decide) (by decide) (by kernel_rfl)
theorem pr_991 : PrimeN 991 := prime_small 991 31 (by decide) (by decide) (by kernel_rfl)
theorem pr_2437 : PrimeN 2437 := prime_small 2437 49 (by decide) (by decide) (by kernel_rfl)
theorem pr_4153 : PrimeN 4153 := prime_small 4153 64 (by decide) (by decide) (by kernel_rfl)
theorem pr_57467 : PrimeN 57467 := prime_small 57467 239 (by decide) (by decide) (by kernel_rfl)
theorem pr_65147 : PrimeN 65147 := prime_small 65147 255 (by decide) (by decide) (by kernel_rfl)
theorem pr_75707 : PrimeN 75707 := prime_small 75707 275 (by decide) (by decide) (by kernel_rfl)
theorem pr_132049 : PrimeN 132049 := prime_small 132049 363 (by decide) (by decide) (by kernel_rfl)
theorem pr_430751 : PrimeN 430751 := prime_small 430751 656 (by decide) (by decide) (by kernel_rfl)
theorem pr_569003 : PrimeN 569003 := prime_small 569003 754 (by decide) (by decide) (by kernel_rfl)
theorem pr_1923133 : PrimeN 1923133 := prime_small 1923133 1386 (by decide) (by decide) (by kernel_rfl)
theorem gen_q0 : Gen 8574133 2 :=
  gen_cert 8574133 2 [2, 2, 3, 7, 103, 991] (by decide) (fun q hq => by
    simp only [List.mem_cons, List.not_mem_nil, or_false] at hq
    rcases hq with rfl | rfl | rfl | rfl | rfl | rfl
    · exact pr_2
    · exact pr_2
    · exact pr_3
    · exact pr_7
    · exact pr_103
    · exact pr_991) (by kernel_rfl)
theorem gen_q1 : Gen 2773320623 5 :=
  gen_cert 2773320623 5 [2, 2437, 569003] (by decide) (fun q hq => by
    simp only [List.mem_cons, List.not_mem_nil, or_false] at hq
    rcases hq with rfl | rfl | rfl
    · exact pr_2
    · exact pr_2437
    · exact pr_569003) (by kernel_rfl)
theorem gen_q2 : Gen 72106336199 7 :=
  gen_cert 72106336199 7 [2, 13, 2773320623] (by decide) (fun q hq => by
    simp only [List.mem_cons, List.not_mem_nil, or_false] at hq
    rcases hq with rfl | rfl | rfl
    · exact pr_2
    · exact pr_13
    · exact gen_q1.prime) (by kernel_rfl)
theorem gen_q3 : Gen 1919519569386763 2 :=
  gen_cert 1919519569386763 2 [2, 3, 7, 19, 47, 47, 127, 8574133] (by decide) (fun q hq => by
    simp only [List.mem_cons, List.not_mem_nil, or_false] at hq
    rcases hq with rfl | rfl | rfl | rfl | rfl | rfl | rfl | rfl
    · exact pr_2
    · exact pr_3
    · exact pr_7
    · exact pr_19
    · exact pr_47
    · exact pr_47
    · exact pr_127
    · exact gen_q0.prime) (by kernel_rfl)
theorem gen_q4 : Gen 31757755568855353 10 :=
  gen_cert 31757755568855353 10 [2, 2, 2, 3, 31, 107, 223, 4153, 430751] (by decide) (fun q hq => by
    simp only [List.mem_cons, List.not_mem_nil, or_false] at hq
    rcases hq with rfl | rfl | rfl | rfl | rfl | rfl | rfl | rfl | rfl
    · exact pr_2
    · exact pr_2
    · exact pr_2
    · exact pr_3
    · exact pr_31
    · exact pr_107
    · exact pr_223
    · exact pr_4153
    · exact pr_430751) (by kernel_rfl)
theorem gen_q5 : Gen 75445702479781427272750846543864801 7 :=
  gen_cert 75445702479781427272750846543864801 7 [2, 2, 2, 2, 2, 3, 3, 5, 5, 75707, 72106336199, 1919519569386763] (by decide) (fun q hq => by
    simp only [List.mem_cons, List.not_mem_nil, or_false] at hq
    rcases hq with rfl | rfl | rfl | rfl | rfl | rfl | rfl | rfl | rfl | rfl | rfl | rfl
    · exact pr_2
    · exact pr_2
    · exact pr_2
    · exact pr_2
    · exact pr_2
    · exact pr_3
    · exact pr_3
    · exact pr_5
    · exact pr_5
    · exact pr_75707
    · exact gen_q2.prime
    · exact gen_q3.prime) (by kernel_rfl)
theorem gen_q6 : Gen 74058212732561358302231226437062788676166966415465897661863160754340907 2 :=
  gen_cert 74058212732561358302231226437062788676166966415465897661863160754340907 2 [2, 3, 353, 57467, 132049, 1923133, 31757755568855353, 75445702479781427272750846543864801] (by decide) (fun q hq => by
    simp only [List.mem_cons, List.not_mem_nil, or_false] at hq
    rcases hq with rfl | rfl | rfl | rfl | rfl | rfl | rfl | rfl
    · exact pr_2
    · exact pr_3
    · exact pr_353
    · exact pr_57467
    · exact pr_132049
    · exact pr_1923133
    · exact gen_q4.prime
    · exact gen_q5.prime) (by kernel_rfl)
theorem gen_p : Gen 57896044618658097711785492504343953926634992332820282019728792003956564819949 2 :=
  gen_cert 57896044618658097711785492504343953926634992332820282019728792003956564819949 2 [2, 2, 3, 65147, 74058212732561358302231226437062788676166966415465897661863160754340907] (by decide) (fun q hq => by
    simp only [List.mem_cons, List.not_mem_nil, or_false] at hq
    rcases hq with rfl | rfl | rfl | rfl | rfl
    · exact pr_2
    · exact pr_2
    · exact pr_3
    · exact pr_65147
    · exact gen_q6.prime) (by kernel_rfl)

/-- The modulus. -/
def pF : Nat := 57896044618658097711785492504343953926634992332820282019728792003956564819949
theorem pF_eq : pF = 2 ^ 255 - 19 := by decide
theorem gen_pF : Gen pF 2 := gen_p
theorem pF_prime : PrimeN pF := gen_p.prime
/-- What is not 0 has an inverse: itself, to the power p - 2. -/
theorem Gen.inverse {n a : Nat} (h : Gen n a) (x : Nat) (hx : x % n ≠ 0) : x * x ^ (n - 2) % n = 1 := by
  have hb := h.big
  have h1 := h.fermat x hx
  rw [← Nat.pow_succ', show (n - 2).succ = n - 1 by omega]
  exact h1
end Go.Proofs.Ytpnddojcihdniaa
