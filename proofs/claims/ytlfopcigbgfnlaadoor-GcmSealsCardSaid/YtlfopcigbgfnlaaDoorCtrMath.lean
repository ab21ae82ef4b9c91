/-
  Counter mode, said over bytes: the counter behind, the stream, what is turned. No program is named here.
-/
import Derived.Test.YtlfopcigbgfnlaaDoorAesSpec
namespace Go.Proofs.YtlfopcigbgfnlaaDoor

/-- The number of a counter. -/
def ctrN (f : Nat → Nat) : Nat := ((f 12 * 256 + f 13) * 256 + f 14) * 256 + f 15
/-- The counter behind. -/
def nextF (f : Nat → Nat) (i : Nat) : Nat := if i < 12 then f i else if i = 12 then (ctrN f + 1) / 16777216 % 256 else if i = 13 then (ctrN f + 1) / 65536 % 256 else if i = 14 then (ctrN f + 1) / 256 % 256 else (ctrN f + 1) % 256
theorem nextF_lt (f : Nat → Nat) (hf : ∀ i, f i < 256) (i : Nat) : nextF f i < 256 := by
  unfold nextF
  split
  · exact hf i
  · (repeat' split) <;> exact Nat.mod_lt _ (by decide)
theorem nextF_congr {f g : Nat → Nat} (h : ∀ i, i < 16 → f i = g i) (i : Nat) (hi : i < 16) : nextF f i = nextF g i := by
  unfold nextF ctrN
  rw [h i hi, h 12 (by decide), h 13 (by decide), h 14 (by decide), h 15 (by decide)]
/-- A counter that is gone through from its last byte on: down to k all was 255. -/
def nxt (f : Nat → Nat) (k j : Nat) : Nat := if j ≤ k then f j else 0
theorem nxt_stop (f : Nat → Nat) (hf : ∀ i, f i < 256) (k : Nat) (h1 : 12 ≤ k) (h2 : k < 16) (ha : ∀ j, k < j → j < 16 → f j = 255) (h : f k ≠ 255) (j : Nat) (hj : j < 16) : upd (nxt f k) k (f k + 1) j = nextF f j := by
  have b12 := hf 12
  have b13 := hf 13
  have b14 := hf 14
  have b15 := hf 15
  have bk := hf k
  have e15 : k < 15 → f 15 = 255 := fun h => ha 15 h (by decide)
  have e14 : k < 14 → f 14 = 255 := fun h => ha 14 h (by decide)
  have e13 : k < 13 → f 13 = 255 := fun h => ha 13 h (by decide)
  unfold upd nxt nextF ctrN
  clear ha hf
  obtain rfl | rfl | rfl | rfl : k = 12 ∨ k = 13 ∨ k = 14 ∨ k = 15 := by omega
  all_goals
    by_cases j12 : j < 12
    · rw [if_neg (by omega), if_pos (by omega), if_pos j12]
    · obtain rfl | rfl | rfl | rfl : j = 12 ∨ j = 13 ∨ j = 14 ∨ j = 15 := by omega
      all_goals (simp; omega)
theorem nxt_over (f : Nat → Nat) (ha : ∀ j, 11 < j → j < 16 → f j = 255) (j : Nat) (hj : j < 16) : nxt f 11 j = nextF f j := by
  have e15 : f 15 = 255 := ha 15 (by decide) (by decide)
  have e14 : f 14 = 255 := ha 14 (by decide) (by decide)
  have e13 : f 13 = 255 := ha 13 (by decide) (by decide)
  have e12 : f 12 = 255 := ha 12 (by decide) (by decide)
  unfold nxt nextF ctrN
  rw [e12, e13, e14, e15]
  by_cases j12 : j < 12
  · rw [if_pos (by omega), if_pos j12]
  · obtain rfl | rfl | rfl | rfl : j = 12 ∨ j = 13 ∨ j = 14 ∨ j = 15 := by omega
    all_goals simp

/-- The counter k places behind. -/
def ctrAt (f : Nat → Nat) : Nat → Nat → Nat
  | 0 => f
  | k + 1 => nextF (ctrAt f k)
theorem ctrAt_lt (f : Nat → Nat) (hf : ∀ i, f i < 256) : ∀ k i, ctrAt f k i < 256
  | 0, i => hf i
  | k + 1, i => nextF_lt _ (ctrAt_lt f hf k) i
theorem ctrAt_congr {f g : Nat → Nat} (h : ∀ i, i < 16 → f i = g i) : ∀ k i, i < 16 → ctrAt f k i = ctrAt g k i
  | 0, i, hi => h i hi
  | k + 1, i, hi => nextF_congr (ctrAt_congr h k) i hi
theorem ctrAt_add (f : Nat → Nat) (m : Nat) : ∀ k, ctrAt (ctrAt f m) k = ctrAt f (m + k)
  | 0 => rfl
  | k + 1 => by
    show nextF (ctrAt (ctrAt f m) k) = nextF (ctrAt f (m + k))
    rw [ctrAt_add f m k]
/-- The stream's block k. -/
def strm (R : Nat) (W f : Nat → Nat) (k : Nat) : Nat → Nat := sealA R W (ctrAt f k)
theorem strm_lt (R : Nat) (W f : Nat → Nat) (hW : ∀ i, W i < 256) (hf : ∀ i, f i < 256) (k i : Nat) : strm R W f k i < 256 := sealA_lt R W _ hW (ctrAt_lt f hf k) i
/-- What is turned. -/
def turnF (R : Nat) (W f g : Nat → Nat) (i : Nat) : Nat := g i ^^^ strm R W f (i / 16) (i % 16)
theorem turnF_lt (R : Nat) (W f g : Nat → Nat) (hW : ∀ i, W i < 256) (hf : ∀ i, f i < 256) (hg : ∀ i, g i < 256) (i : Nat) : turnF R W f g i < 256 := Nat.xor_lt_two_pow (n := 8) (hg i) (strm_lt R W f hW hf _ _)
theorem turnF_twice (R : Nat) (W f g : Nat → Nat) (i : Nat) : turnF R W f (turnF R W f g) i = g i := by
  unfold turnF
  rw [Nat.xor_assoc, Nat.xor_self, Nat.xor_zero]
theorem turnF_from (R : Nat) (W f g : Nat → Nat) (m i : Nat) : turnF R W (ctrAt f m) (fun i => g (16 * m + i)) i = turnF R W f g (16 * m + i) := by
  unfold turnF strm
  rw [ctrAt_add, show (16 * m + i) / 16 = m + i / 16 by omega, show (16 * m + i) % 16 = i % 16 by omega]
theorem turnF_congr {R : Nat} {W f g g' : Nat → Nat} {i : Nat} (h : g i = g' i) : turnF R W f g i = turnF R W f g' i := by
  unfold turnF
  rw [h]
theorem turnF_same {R R' : Nat} {W W' f f' g g' : Nat → Nat} (hR : R = R') (hW : ∀ i, i < 16 * (R + 1) → W i = W' i) (hf : ∀ i, i < 16 → f i = f' i) {i : Nat} (h : g i = g' i) : turnF R W f g i = turnF R' W' f' g' i := by
  subst hR
  unfold turnF strm
  rw [h, sealA_congr R hW (ctrAt_congr hf (i / 16)) (i % 16) (Nat.mod_lt _ (by decide))]
end Go.Proofs.YtlfopcigbgfnlaaDoor
