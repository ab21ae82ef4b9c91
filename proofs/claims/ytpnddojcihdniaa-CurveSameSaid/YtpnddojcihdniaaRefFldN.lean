/-
  Numbers of bytes, and bytes of numbers, as the reference has them. No program is named here.
-/
import Derived.Test.YtpnddojcihdniaaFieldBits
namespace Go.Proofs.Ytpnddojcihdniaa

set_option maxRecDepth 100000

def topB (f : Nat → Nat) (i : Nat) : Nat := if i = 31 then f i % 128 else f i
theorem topB_lt (f : Nat → Nat) (hf : ∀ i, f i < 256) (i : Nat) : topB f i < 256 := by
  unfold topB
  have := hf i
  split <;> omega
/-- The parts, when i bytes have come. -/
def ofX (f : Nat → Nat) (i k : Nat) : Nat := (if 2 * k < i then topB f (2 * k) else 0) + (if 2 * k + 1 < i then 256 * topB f (2 * k + 1) else 0)
def vO (f : Nat → Nat) (i : Nat) : Nat := if i % 2 = 1 then 256 * topB f i else topB f i
theorem ofX_zero (f : Nat → Nat) (k : Nat) : ofX f 0 k = 0 := by
  unfold ofX
  rw [if_neg (Nat.not_lt_zero _), if_neg (Nat.not_lt_zero _)]
theorem ofX_le (f : Nat → Nat) (hf : ∀ i, f i < 256) (i k : Nat) : ofX f i k ≤ 65535 := by
  unfold ofX
  have h1 := topB_lt f hf (2 * k)
  have h2 := topB_lt f hf (2 * k + 1)
  split <;> split <;> omega
theorem vO_le (f : Nat → Nat) (hf : ∀ i, f i < 256) (i : Nat) : vO f i ≤ 65280 := by
  unfold vO
  have := topB_lt f hf i
  split <;> omega
theorem ofX_step (f : Nat → Nat) (i j : Nat) : upd (ofX f i) (i / 2) (ofX f i (i / 2) + vO f i) j = ofX f (i + 1) j := by
  by_cases e : j = i / 2
  · subst e
    rw [upd_same]
    unfold ofX vO
    by_cases ho : i % 2 = 1
    · rw [if_pos ho, if_pos (show 2 * (i / 2) < i by omega), if_neg (show ¬ 2 * (i / 2) + 1 < i by omega), if_pos (show 2 * (i / 2) < i + 1 by omega), if_pos (show 2 * (i / 2) + 1 < i + 1 by omega), show 2 * (i / 2) + 1 = i by omega]
      omega
    · rw [if_neg ho, if_neg (show ¬ 2 * (i / 2) < i by omega), if_neg (show ¬ 2 * (i / 2) + 1 < i by omega), if_pos (show 2 * (i / 2) < i + 1 by omega), if_neg (show ¬ 2 * (i / 2) + 1 < i + 1 by omega), show 2 * (i / 2) = i by omega]
      omega
  · rw [upd_other _ _ _ _ e]
    unfold ofX
    have e1 : (2 * j < i) ↔ (2 * j < i + 1) := by omega
    have e2 : (2 * j + 1 < i) ↔ (2 * j + 1 < i + 1) := by omega
    by_cases h1 : 2 * j < i
    · rw [if_pos h1, if_pos (e1.1 h1)]
      by_cases h2 : 2 * j + 1 < i
      · rw [if_pos h2, if_pos (e2.1 h2)]
      · rw [if_neg h2, if_neg (fun h => h2 (e2.2 h))]
    · rw [if_neg h1, if_neg (fun h => h1 (e1.2 h))]
      by_cases h2 : 2 * j + 1 < i
      · rw [if_pos h2, if_pos (e2.1 h2)]
      · rw [if_neg h2, if_neg (fun h => h2 (e2.2 h))]
theorem ofX_val (f : Nat → Nat) (hf : ∀ i, f i < 256) : val 16 (ofX f 32) 16 % pF = ofV f := by
  have h1 : val 16 (ofX f 32) 16 = val 16 (fun i => topB f (2 * i) + 256 * topB f (2 * i + 1)) 16 := val_congr 16 16 (fun i hi => by
    unfold ofX
    rw [if_pos (by omega), if_pos (by omega)])
  rw [h1, val_pairs (topB f) 16]
  have h2 := val_top f hf
  rw [show (2 : Nat) ^ 255 = 57896044618658097711785492504343953926634992332820282019728792003956564819968 by decide] at h2
  show val 8 (fun i => if i = 31 then f i % 128 else f i) 32 % pF = _
  rw [h2]
  rfl
/-- The bytes, two of each part. -/
def byP (v : Nat) (i : Nat) : Nat := lim 8 v i
theorem byte_even (v i : Nat) : lim 16 v i % 256 = lim 8 v (2 * i) := lim_byte0 v i
theorem byte_odd (v i : Nat) : lim 16 v i / 256 = lim 8 v (2 * i + 1) := lim_byte1 v i
end Go.Proofs.Ytpnddojcihdniaa
