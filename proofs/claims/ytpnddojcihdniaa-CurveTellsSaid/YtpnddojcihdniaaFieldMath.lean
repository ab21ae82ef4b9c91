/-
  Numbers modulo 2^255 - 19 in five limbs of 51 bits: sums, differences, products. No program is named here.
-/
import Derived.Test.YtpnddojcihdniaaFieldRef
namespace Go.Proofs.Ytpnddojcihdniaa

set_option maxRecDepth 100000

theorem pF_num : pF = 57896044618658097711785492504343953926634992332820282019728792003956564819949 := rfl
def lst5 (a b c d e : Nat) : Nat → Nat
  | 0 => a
  | 1 => b
  | 2 => c
  | 3 => d
  | _ => e
theorem lst5_0 (a b c d e : Nat) : lst5 a b c d e 0 = a := rfl
theorem lst5_1 (a b c d e : Nat) : lst5 a b c d e 1 = b := rfl
theorem lst5_2 (a b c d e : Nat) : lst5 a b c d e 2 = c := rfl
theorem lst5_3 (a b c d e : Nat) : lst5 a b c d e 3 = d := rfl
theorem lst5_4 (a b c d e : Nat) : lst5 a b c d e 4 = e := rfl
def v5 (a b c d e : Nat) : Nat := a + b * 2251799813685248 + c * 5070602400912917605986812821504 + d * 11417981541647679048466287755595961091061972992 + e * 25711008708143844408671393477458601640355247900524685364822016
theorem val_v5 (f : Nat → Nat) : val 51 f 5 = v5 (f 0) (f 1) (f 2) (f 3) (f 4) := by
  simp only [val, v5, Nat.reduceMul, Nat.reducePow, Nat.mul_one, Nat.zero_add, Nat.mul_zero]
theorem v5_less {a b c d e : Nat} (ha : a < 2251799813685248) (hb : b < 2251799813685248) (hc : c < 2251799813685248) (hd : d < 2251799813685248) (he : e < 2251799813685248) : v5 a b c d e < 2 * 28948022309329048855892746252171976963317496166410141009864396001978282409984 := by
  unfold v5
  omega
/-- Carried once. -/
def carL (x : Nat → Nat) : Nat → Nat := lst5 (x 0 % 2251799813685248 + 19 * (x 4 / 2251799813685248)) (x 1 % 2251799813685248 + x 0 / 2251799813685248) (x 2 % 2251799813685248 + x 1 / 2251799813685248) (x 3 % 2251799813685248 + x 2 / 2251799813685248) (x 4 % 2251799813685248 + x 3 / 2251799813685248)
theorem car_val (x : Nat → Nat) : val 51 (carL x) 5 + pF * (x 4 / 2251799813685248) = val 51 x 5 := by
  rw [val_v5, val_v5, pF_num]
  show v5 (x 0 % 2251799813685248 + 19 * (x 4 / 2251799813685248)) (x 1 % 2251799813685248 + x 0 / 2251799813685248) (x 2 % 2251799813685248 + x 1 / 2251799813685248) (x 3 % 2251799813685248 + x 2 / 2251799813685248) (x 4 % 2251799813685248 + x 3 / 2251799813685248) + _ = _
  unfold v5
  omega
theorem car_mod (x : Nat → Nat) : val 51 (carL x) 5 % pF = val 51 x 5 % pF := by rw [← car_val x, Nat.add_mul_mod_self_left]
theorem car_lt (x : Nat → Nat) (h : ∀ i, i < 5 → x i < 18446744073709551616) (i : Nat) (hi : i < 5) : carL x i < 4503599627370496 := by
  have h0 := h 0 (by omega)
  have h1 := h 1 (by omega)
  have h2 := h 2 (by omega)
  have h3 := h 3 (by omega)
  have h4 := h 4 (by omega)
  obtain rfl | rfl | rfl | rfl | rfl : i = 0 ∨ i = 1 ∨ i = 2 ∨ i = 3 ∨ i = 4 := by omega
  · show x 0 % 2251799813685248 + 19 * (x 4 / 2251799813685248) < _
    omega
  · show x 1 % 2251799813685248 + x 0 / 2251799813685248 < _
    omega
  · show x 2 % 2251799813685248 + x 1 / 2251799813685248 < _
    omega
  · show x 3 % 2251799813685248 + x 2 / 2251799813685248 < _
    omega
  · show x 4 % 2251799813685248 + x 3 / 2251799813685248 < _
    omega

/-- Limbs that are a number: below 2^52 each. -/
structure Is5 (f : Nat → Nat) (v : Nat) : Prop where
  lt : ∀ i, i < 5 → f i < 4503599627370496
  eq : val 51 f 5 % pF = v
theorem Is5.less {f : Nat → Nat} {v : Nat} (h : Is5 f v) : v < pF := by rw [← h.eq]; exact Nat.mod_lt _ pF_pos
theorem is5_car (x : Nat → Nat) (h : ∀ i, i < 5 → x i < 18446744073709551616) : Is5 (carL x) (val 51 x 5 % pF) := ⟨car_lt x h, car_mod x⟩

/-! Sums. -/
def addX (f g : Nat → Nat) (i : Nat) : Nat := f i + g i
def addL (f g : Nat → Nat) : Nat → Nat := carL (addX f g)
def fAdd (v u : Nat) : Nat := (v + u) % pF
theorem addX_lt {f g : Nat → Nat} {v u : Nat} (hf : Is5 f v) (hg : Is5 g u) (i : Nat) (hi : i < 5) : addX f g i < 18446744073709551616 := by
  have := hf.lt i hi
  have := hg.lt i hi
  unfold addX
  omega
theorem Is5.add {f g : Nat → Nat} {v u : Nat} (hf : Is5 f v) (hg : Is5 g u) : Is5 (addL f g) (fAdd v u) := by
  have h := is5_car (addX f g) (addX_lt hf hg)
  have e : val 51 (addX f g) 5 = val 51 f 5 + val 51 g 5 := val_add 51 f g 5
  rw [e, Nat.add_mod, hf.eq, hg.eq] at h
  exact h

/-! Differences. -/
def subK (i : Nat) : Nat := if i = 0 then 9007199254740916 else 9007199254740988
theorem subK_val : val 51 subK 5 = 4 * pF := by decide
def subX (f g : Nat → Nat) (i : Nat) : Nat := f i + subK i - g i
def subL (f g : Nat → Nat) : Nat → Nat := carL (subX f g)
def fSub (v u : Nat) : Nat := (v + pF - u) % pF
theorem subX_add {g : Nat → Nat} {u : Nat} (f : Nat → Nat) (hg : Is5 g u) (i : Nat) (hi : i < 5) : subX f g i + g i = f i + subK i := by
  have := hg.lt i hi
  unfold subX subK
  split <;> omega
theorem subX_lt {f : Nat → Nat} {v : Nat} (g : Nat → Nat) (hf : Is5 f v) (i : Nat) (hi : i < 5) : subX f g i < 18446744073709551616 := by
  have := hf.lt i hi
  unfold subX subK
  split <;> omega
theorem sub_mods (s a b k v u : Nat) (h : s + b = a + k * pF) (ha : a % pF = v) (hb : b % pF = u) : s % pF = fSub v u := by
  have hp := pF_pos
  have hu : u < pF := by rw [← hb]; exact Nat.mod_lt _ hp
  have h1 : (s % pF + u) % pF = v := by rw [← hb, ← Nat.add_mod, h, Nat.add_mul_mod_self_right, ha]
  have hs : s % pF < pF := Nat.mod_lt _ hp
  unfold fSub
  generalize s % pF = t at *
  generalize pF = p at *
  by_cases e : t + u < p
  · rw [Nat.mod_eq_of_lt e] at h1
    rw [← h1, show t + u + p - u = t + p by omega, Nat.add_mod_right, Nat.mod_eq_of_lt hs]
  · rw [Nat.mod_eq_sub_mod (by omega), Nat.mod_eq_of_lt (by omega)] at h1
    rw [← h1, show t + u - p + p - u = t by omega, Nat.mod_eq_of_lt hs]
theorem Is5.sub {f g : Nat → Nat} {v u : Nat} (hf : Is5 f v) (hg : Is5 g u) : Is5 (subL f g) (fSub v u) := by
  have h := is5_car (subX f g) (subX_lt g hf)
  have e : val 51 (subX f g) 5 + val 51 g 5 = val 51 f 5 + 4 * pF := by
    rw [← subK_val, ← val_add, ← val_add]
    exact val_congr 51 5 (fun i hi => subX_add f hg i hi)
  rw [sub_mods _ _ _ 4 v u e hf.eq hg.eq] at h
  exact h

/-! Products: five sums of products, and what stands at 2^255 and above. -/
def mulA (f g : Nat → Nat) : Nat := f 0 * g 0 + f 1 * (19 * g 4) + f 2 * (19 * g 3) + f 3 * (19 * g 2) + f 4 * (19 * g 1)
def mulB (f g : Nat → Nat) : Nat := f 0 * g 1 + f 1 * g 0 + f 2 * (19 * g 4) + f 3 * (19 * g 3) + f 4 * (19 * g 2)
def mulC (f g : Nat → Nat) : Nat := f 0 * g 2 + f 1 * g 1 + f 2 * g 0 + f 3 * (19 * g 4) + f 4 * (19 * g 3)
def mulD (f g : Nat → Nat) : Nat := f 0 * g 3 + f 1 * g 2 + f 2 * g 1 + f 3 * g 0 + f 4 * (19 * g 4)
def mulE (f g : Nat → Nat) : Nat := f 0 * g 4 + f 1 * g 3 + f 2 * g 2 + f 3 * g 1 + f 4 * g 0
def mulX (f g : Nat → Nat) : Nat → Nat := lst5 (mulA f g % 2251799813685248 + 19 * (mulE f g / 2251799813685248)) (mulB f g % 2251799813685248 + mulA f g / 2251799813685248) (mulC f g % 2251799813685248 + mulB f g / 2251799813685248) (mulD f g % 2251799813685248 + mulC f g / 2251799813685248) (mulE f g % 2251799813685248 + mulD f g / 2251799813685248)
def mulL (f g : Nat → Nat) : Nat → Nat := carL (mulX f g)
def fMul (v u : Nat) : Nat := v * u % pF
/-- What stands at 2^255. -/
def mulH (f g : Nat → Nat) : Nat := v5 (f 1 * g 4 + f 2 * g 3 + f 3 * g 2 + f 4 * g 1) (f 2 * g 4 + f 3 * g 3 + f 4 * g 2) (f 3 * g 4 + f 4 * g 3) (f 4 * g 4) 0
theorem mul_wide (a0 a1 a2 a3 a4 b0 b1 b2 b3 b4 : Nat) : v5 a0 a1 a2 a3 a4 * v5 b0 b1 b2 b3 b4 = a0 * b0 + a0 * b1 * 2251799813685248 + a0 * b2 * 5070602400912917605986812821504 + a0 * b3 * 11417981541647679048466287755595961091061972992 + a0 * b4 * 25711008708143844408671393477458601640355247900524685364822016 + a1 * b0 * 2251799813685248 + a1 * b1 * 5070602400912917605986812821504 + a1 * b2 * 11417981541647679048466287755595961091061972992 + a1 * b3 * 25711008708143844408671393477458601640355247900524685364822016 + a1 * b4 * 57896044618658097711785492504343953926634992332820282019728792003956564819968 + a2 * b0 * 5070602400912917605986812821504 + a2 * b1 * 11417981541647679048466287755595961091061972992 + a2 * b2 * 25711008708143844408671393477458601640355247900524685364822016 + a2 * b3 * 57896044618658097711785492504343953926634992332820282019728792003956564819968 + a2 * b4 * 130370302485407109521180524058200202307293977194619920040712988758680403184853549195737432064 + a3 * b0 * 11417981541647679048466287755595961091061972992 + a3 * b1 * 25711008708143844408671393477458601640355247900524685364822016 + a3 * b2 * 57896044618658097711785492504343953926634992332820282019728792003956564819968 + a3 * b3 * 130370302485407109521180524058200202307293977194619920040712988758680403184853549195737432064 + a3 * b4 * 293567822846729153486185074598667128421960318613539983838411371441526128139326055432962374798096087878991872 + a4 * b0 * 25711008708143844408671393477458601640355247900524685364822016 + a4 * b1 * 57896044618658097711785492504343953926634992332820282019728792003956564819968 + a4 * b2 * 130370302485407109521180524058200202307293977194619920040712988758680403184853549195737432064 + a4 * b3 * 293567822846729153486185074598667128421960318613539983838411371441526128139326055432962374798096087878991872 + a4 * b4 * 661055968790248598951915308032771039828404682964281219284648795274405791236311345825189210439715284847591212025023358304256 := by
  unfold v5
  simp only [Nat.add_mul, Nat.mul_add]
  simp only [Nat.mul_mul_mul_comm, Nat.reduceMul]
  simp only [← Nat.mul_assoc _ _ 2251799813685248, ← Nat.mul_assoc _ _ 5070602400912917605986812821504, ← Nat.mul_assoc _ _ 11417981541647679048466287755595961091061972992, ← Nat.mul_assoc _ _ 25711008708143844408671393477458601640355247900524685364822016]
  simp only [Nat.mul_right_comm _ 2251799813685248, Nat.mul_right_comm _ 5070602400912917605986812821504, Nat.mul_right_comm _ 11417981541647679048466287755595961091061972992, Nat.mul_right_comm _ 25711008708143844408671393477458601640355247900524685364822016]
  omega
theorem mul_parts (f g : Nat → Nat) : v5 (mulA f g) (mulB f g) (mulC f g) (mulD f g) (mulE f g) + pF * mulH f g = v5 (f 0) (f 1) (f 2) (f 3) (f 4) * v5 (g 0) (g 1) (g 2) (g 3) (g 4) := by
  rw [pF_num, mul_wide]
  unfold mulA mulB mulC mulD mulE mulH v5
  simp only [Nat.mul_left_comm _ 19]
  omega
theorem mul_le {a b A B : Nat} (ha : a ≤ A) (hb : b ≤ B) : a * b ≤ A * B := Nat.mul_le_mul ha hb
theorem mul_bound {f g : Nat → Nat} (hf : ∀ i, i < 5 → f i < 4503599627370496) (hg : ∀ i, i < 5 → g i < 4503599627370496) (i j : Nat) (hi : i < 5) (hj : j < 5) : f i * g j ≤ 20282409603651661416747996545025 ∧ f i * (19 * g j) ≤ 19 * 20282409603651661416747996545025 := by
  have h := mul_le (show f i ≤ 4503599627370495 from by have := hf i hi; omega) (show g j ≤ 4503599627370495 from by have := hg j hj; omega)
  refine ⟨h, ?_⟩
  rw [Nat.mul_left_comm]
  exact Nat.mul_le_mul_left 19 h
structure MulLt (f g : Nat → Nat) : Prop where
  a : mulA f g < 1600000000000000000000000000000000
  b : mulB f g < 1600000000000000000000000000000000
  c : mulC f g < 1600000000000000000000000000000000
  d : mulD f g < 1600000000000000000000000000000000
  e : mulE f g < 110000000000000000000000000000000
theorem mulLt {f g : Nat → Nat} (hf : ∀ i, i < 5 → f i < 4503599627370496) (hg : ∀ i, i < 5 → g i < 4503599627370496) : MulLt f g := by
  have h := fun i j hi hj => mul_bound hf hg i j hi hj
  refine ⟨?_, ?_, ?_, ?_, ?_⟩
  · have := (h 0 0 (by omega) (by omega)).1
    have := (h 1 4 (by omega) (by omega)).2
    have := (h 2 3 (by omega) (by omega)).2
    have := (h 3 2 (by omega) (by omega)).2
    have := (h 4 1 (by omega) (by omega)).2
    unfold mulA
    omega
  · have := (h 0 1 (by omega) (by omega)).1
    have := (h 1 0 (by omega) (by omega)).1
    have := (h 2 4 (by omega) (by omega)).2
    have := (h 3 3 (by omega) (by omega)).2
    have := (h 4 2 (by omega) (by omega)).2
    unfold mulB
    omega
  · have := (h 0 2 (by omega) (by omega)).1
    have := (h 1 1 (by omega) (by omega)).1
    have := (h 2 0 (by omega) (by omega)).1
    have := (h 3 4 (by omega) (by omega)).2
    have := (h 4 3 (by omega) (by omega)).2
    unfold mulC
    omega
  · have := (h 0 3 (by omega) (by omega)).1
    have := (h 1 2 (by omega) (by omega)).1
    have := (h 2 1 (by omega) (by omega)).1
    have := (h 3 0 (by omega) (by omega)).1
    have := (h 4 4 (by omega) (by omega)).2
    unfold mulD
    omega
  · have := (h 0 4 (by omega) (by omega)).1
    have := (h 1 3 (by omega) (by omega)).1
    have := (h 2 2 (by omega) (by omega)).1
    have := (h 3 1 (by omega) (by omega)).1
    have := (h 4 0 (by omega) (by omega)).1
    unfold mulE
    omega
theorem mulX_lt {f g : Nat → Nat} (h : MulLt f g) (i : Nat) (hi : i < 5) : mulX f g i < 18446744073709551616 := by
  have h0 := h.a
  have h1 := h.b
  have h2 := h.c
  have h3 := h.d
  have h4 := h.e
  obtain rfl | rfl | rfl | rfl | rfl : i = 0 ∨ i = 1 ∨ i = 2 ∨ i = 3 ∨ i = 4 := by omega
  · show mulA f g % 2251799813685248 + 19 * (mulE f g / 2251799813685248) < _
    omega
  · show mulB f g % 2251799813685248 + mulA f g / 2251799813685248 < _
    omega
  · show mulC f g % 2251799813685248 + mulB f g / 2251799813685248 < _
    omega
  · show mulD f g % 2251799813685248 + mulC f g / 2251799813685248 < _
    omega
  · show mulE f g % 2251799813685248 + mulD f g / 2251799813685248 < _
    omega
theorem Is5.mul {f g : Nat → Nat} {v u : Nat} (hf : Is5 f v) (hg : Is5 g u) : Is5 (mulL f g) (fMul v u) := by
  have h := is5_car (mulX f g) (mulX_lt (mulLt hf.lt hg.lt))
  have e : val 51 (mulX f g) 5 % pF = val 51 f 5 * val 51 g 5 % pF := by
    have h1 := car_mod (lst5 (mulA f g) (mulB f g) (mulC f g) (mulD f g) (mulE f g))
    have h2 : carL (lst5 (mulA f g) (mulB f g) (mulC f g) (mulD f g) (mulE f g)) = mulX f g := rfl
    rw [h2] at h1
    rw [h1, val_v5, val_v5 f, val_v5 g, ← mul_parts f g, Nat.add_mul_mod_self_left]
    rfl
  rw [e, Nat.mul_mod, hf.eq, hg.eq] at h
  exact h
end Go.Proofs.Ytpnddojcihdniaa
