/-
  head: nibbles and bytes of a header, and what bytes are a header's. No program is named here.
-/
import Derived.Test.YtmbefbmpjkbnmaaWireM
import Derived.Test.YtmbefbmpjkbnmaaOwnR
namespace Go.Proofs.Ytmbefbmpjkbnmaa

set_option maxRecDepth 100000

/-- How many bytes a number has. -/
def blN (n : Nat) : Nat := if n < 256 then 1 else if n < 65536 then 2 else if n < 16777216 then 3 else if n < 4294967296 then 4 else if n < 1099511627776 then 5 else if n < 281474976710656 then 6 else if n < 72057594037927936 then 7 else 8
theorem blN_bd (n : Nat) : 1 ≤ blN n ∧ blN n ≤ 8 := by
  unfold blN
  repeat' split
  all_goals omega
theorem blN_lt (n : Nat) (h : n < 18446744073709551616) : n < 256 ^ blN n := by
  unfold blN
  repeat' split
  all_goals (simp only [Nat.reducePow]; omega)
theorem blN_ge (n : Nat) (h : 1 < blN n) : 256 ^ (blN n - 1) ≤ n := by
  unfold blN at h ⊢
  repeat' split at h
  all_goals first
    | (exfalso; omega)
    | (simp only [*, if_true, if_false, Nat.reduceSub, Nat.reducePow]; omega)
/-- The only one that it can be. -/
theorem blN_eq (n k : Nat) (h1 : n < 256 ^ k) (hk : 1 ≤ k) (h2 : k = 1 ∨ 256 ^ (k - 1) ≤ n) (hn : n < 18446744073709551616) : k = blN n := by
  have h3 := blN_lt n hn
  have h4 := blN_ge n
  have h5 := (blN_bd n).1
  by_cases e : k < blN n
  · have := h4 (by omega)
    have h6 : (256 : Nat) ^ k ≤ 256 ^ (blN n - 1) := Nat.pow_le_pow_right (by decide) (by omega)
    omega
  · by_cases e2 : blN n < k
    · have h6 : (256 : Nat) ^ blN n ≤ 256 ^ (k - 1) := Nat.pow_le_pow_right (by decide) (by omega)
      rcases h2 with h2 | h2
      · omega
      · omega
    · omega
/-- A number's nibble, and how many bytes stand behind for it. -/
def nibN (n : Nat) : Nat := if n < 8 then n else 7 + blN n
def behN (d : Nat) : Nat := if d < 8 then 0 else d - 7
theorem nibN_lt (n : Nat) : nibN n < 16 := by
  have := blN_bd n
  unfold nibN
  split <;> omega
theorem behN_le (d : Nat) (h : d < 16) : behN d ≤ 8 := by
  unfold behN
  split <;> omega
theorem beh_nib (n : Nat) : behN (nibN n) = if n < 8 then 0 else blN n := by
  have := blN_bd n
  unfold behN nibN
  by_cases h : n < 8
  · rw [if_pos h, if_pos h, if_pos h]
  · rw [if_neg h, if_neg h, if_neg (by omega)]; omega
theorem nib_fits (n : Nat) (h : n < 18446744073709551616) (h8 : ¬ n < 8) : n < 256 ^ behN (nibN n) := by
  rw [beh_nib, if_neg h8]
  exact blN_lt n h
/-- A header's bytes. -/
def hdLen (k c : Nat) : Nat := 1 + behN (nibN k) + behN (nibN c)
def hdF (k c : Nat) : Nat → Nat := fun i => if i = 0 then 16 * nibN k + nibN c else if i < 1 + behN (nibN k) then nbF k (behN (nibN k)) (i - 1) else nbF c (behN (nibN c)) (i - 1 - behN (nibN k))
theorem hdF_lt (k c i : Nat) : hdF k c i < 256 := by
  have h1 := nibN_lt k
  have h2 := nibN_lt c
  unfold hdF
  split
  · omega
  · split
    · exact nbF_lt _ _ _
    · exact nbF_lt _ _ _
theorem hdLen_bd (k c : Nat) : 1 ≤ hdLen k c ∧ hdLen k c ≤ 17 := by
  have h1 := behN_le _ (nibN_lt k)
  have h2 := behN_le _ (nibN_lt c)
  unfold hdLen
  omega
/-- What a field is: the number, and whether it is one. -/
def tfN (d L : Nat) (F : Nat → Nat) : Nat := if d < 8 then d else if L < behN d then 0 else ofB8 F (behN d)
def tfOk (d L : Nat) (F : Nat → Nat) : Bool := if d < 8 then true else if L < behN d then false else nibN (ofB8 F (behN d)) == d
/-- What bytes are. -/
def tk1 (F : Nat → Nat) : Nat := F 0 / 16
def tk2 (F : Nat → Nat) : Nat := F 0 % 16
def tkUsed (F : Nat → Nat) : Nat := 1 + behN (tk1 F) + behN (tk2 F)
def tkK (L : Nat) (F : Nat → Nat) : Nat := tfN (tk1 F) (L - 1) (fun i => F (1 + i))
def tkC (L : Nat) (F : Nat → Nat) : Nat := tfN (tk2 F) (L - (1 + behN (tk1 F))) (fun i => F (1 + behN (tk1 F) + i))
def tkOk1 (L : Nat) (F : Nat → Nat) : Bool := tfOk (tk1 F) (L - 1) (fun i => F (1 + i))
def tkOk2 (L : Nat) (F : Nat → Nat) : Bool := tfOk (tk2 F) (L - (1 + behN (tk1 F))) (fun i => F (1 + behN (tk1 F) + i))
def tkOk (L : Nat) (F : Nat → Nat) : Bool := decide (0 < L) && (tkOk1 L F && tkOk2 L F)

theorem tf_put (n L : Nat) (F : Nat → Nat) (hn : n < 18446744073709551616) (hL : behN (nibN n) ≤ L) (hF : ∀ i, i < behN (nibN n) → F i = nbF n (behN (nibN n)) i) : tfOk (nibN n) L F = true ∧ tfN (nibN n) L F = n := by
  by_cases h : n < 8
  · have e : nibN n = n := by unfold nibN; rw [if_pos h]
    unfold tfOk tfN
    rw [e, if_pos h, if_pos h]
    exact ⟨rfl, rfl⟩
  · have e : ¬ nibN n < 8 := by have := blN_bd n; unfold nibN; rw [if_neg h]; omega
    have e2 : ofB8 F (behN (nibN n)) = n := by
      rw [ofB8_congr F (nbF n (behN (nibN n))) _ hF, ofB8_number n _ (nib_fits n hn h)]
    unfold tfOk tfN
    rw [if_neg e, if_neg e, if_neg (by omega), if_neg (by omega), e2]
    exact ⟨by simp, rfl⟩
/-- What was put is taken as it was, whatever stands behind. -/
theorem tk_put (k c L : Nat) (F : Nat → Nat) (hk : k < 18446744073709551616) (hc : c < 18446744073709551616) (hL : hdLen k c ≤ L) (hF : ∀ i, i < hdLen k c → F i = hdF k c i) : tkOk L F = true ∧ tkK L F = k ∧ tkC L F = c ∧ tkUsed F = hdLen k c := by
  have n1 := nibN_lt k
  have n2 := nibN_lt c
  have h0 : F 0 = 16 * nibN k + nibN c := by rw [hF 0 (hdLen_bd k c).1]; rfl
  have d1 : tk1 F = nibN k := by unfold tk1; rw [h0]; omega
  have d2 : tk2 F = nibN c := by unfold tk2; rw [h0]; omega
  unfold hdLen at hL hF
  have f1 := tf_put k (L - 1) (fun i => F (1 + i)) hk (by omega) (fun i hi => by
    show F (1 + i) = _
    rw [hF (1 + i) (by omega)]
    unfold hdF
    rw [if_neg (by omega), if_pos (by omega), show 1 + i - 1 = i by omega])
  have f2 := tf_put c (L - (1 + behN (nibN k))) (fun i => F (1 + behN (nibN k) + i)) hc (by omega) (fun i hi => by
    show F (1 + behN (nibN k) + i) = _
    rw [hF (1 + behN (nibN k) + i) (by omega)]
    unfold hdF
    rw [if_neg (by omega), if_neg (by omega), show 1 + behN (nibN k) + i - 1 - behN (nibN k) = i by omega])
  refine ⟨?_, ?_, ?_, ?_⟩
  · unfold tkOk tkOk1 tkOk2
    rw [d1, d2, f1.1, f2.1]
    simp
    omega
  · unfold tkK; rw [d1]; exact f1.2
  · unfold tkC; rw [d1, d2]; exact f2.2
  · unfold tkUsed hdLen; rw [d1, d2]
theorem tf_taken (d L : Nat) (F : Nat → Nat) (h : tfOk d L F = true) (hF : ∀ i, F i < 256) : behN d ≤ L ∧ nibN (tfN d L F) = d ∧ (∀ i, i < behN d → F i = nbF (tfN d L F) (behN d) i) := by
  unfold tfOk at h
  unfold tfN
  by_cases e : d < 8
  · rw [if_pos e]
    have hb : behN d = 0 := by unfold behN; rw [if_pos e]
    refine ⟨by omega, by unfold nibN; rw [if_pos e], fun i hi => by omega⟩
  · rw [if_neg e] at h ⊢
    by_cases e2 : L < behN d
    · rw [if_pos e2] at h; cases h
    · rw [if_neg e2] at h ⊢
      refine ⟨by omega, by simpa using h, fun i hi => (nbF_ofB8 F hF _ i hi).symm⟩
theorem tf_64 (d L : Nat) (F : Nat → Nat) (hd : d < 16) (hF : ∀ i, F i < 256) : tfN d L F < 18446744073709551616 := by
  unfold tfN
  split
  · omega
  · split
    · decide
    · have h1 := ofB8_lt F hF (behN d)
      have h2 := pow256 (behN d) (behN_le d hd)
      omega
/-- What is taken is put as those bytes. -/
theorem tk_taken (L : Nat) (F : Nat → Nat) (hF : ∀ i, F i < 256) (h : tkOk L F = true) : tkUsed F ≤ L ∧ hdLen (tkK L F) (tkC L F) = tkUsed F ∧ ∀ i, i < tkUsed F → hdF (tkK L F) (tkC L F) i = F i := by
  unfold tkOk tkOk1 tkOk2 at h
  simp only [Bool.and_eq_true, decide_eq_true_eq] at h
  have h0 := hF 0
  have b1 : tk1 F < 16 := by unfold tk1; omega
  have b2 : tk2 F < 16 := by unfold tk2; omega
  obtain ⟨p1, p2, p3⟩ := tf_taken _ _ _ h.2.1 (fun i => hF _)
  obtain ⟨q1, q2, q3⟩ := tf_taken _ _ _ h.2.2 (fun i => hF _)
  have hK : nibN (tkK L F) = tk1 F := p2
  have hC : nibN (tkC L F) = tk2 F := q2
  have hu : tkUsed F = 1 + behN (tk1 F) + behN (tk2 F) := rfl
  have hL0 := h.1
  refine ⟨by omega, by unfold hdLen; rw [hK, hC, hu], fun i hi => ?_⟩
  unfold hdF
  rw [hK, hC]
  by_cases e : i = 0
  · subst e
    rw [if_pos rfl]
    unfold tk1 tk2
    omega
  · rw [if_neg e]
    by_cases e2 : i < 1 + behN (tk1 F)
    · rw [if_pos e2]
      have := p3 (i - 1) (by omega)
      rw [show 1 + (i - 1) = i by omega] at this
      exact this.symm
    · rw [if_neg e2]
      have := q3 (i - 1 - behN (tk1 F)) (by omega)
      rw [show 1 + behN (tk1 F) + (i - 1 - behN (tk1 F)) = i by omega] at this
      exact this.symm
/-- Of two headers that are unlike, no one's bytes are the beginning of the other one's. -/
theorem hd_begin (k c k' c' : Nat) (hk : k < 18446744073709551616) (hc : c < 18446744073709551616) (hk' : k' < 18446744073709551616) (hc' : c' < 18446744073709551616) (hl : hdLen k c ≤ hdLen k' c') (h : ∀ i, i < hdLen k c → hdF k' c' i = hdF k c i) : k = k' ∧ c = c' := by
  have h1 := tk_put k c (hdLen k' c') (hdF k' c') hk hc hl h
  have h2 := tk_put k' c' (hdLen k' c') (hdF k' c') hk' hc' (Nat.le_refl _) (fun _ _ => rfl)
  exact ⟨h1.2.1.symm.trans h2.2.1, h1.2.2.1.symm.trans h2.2.2.1⟩
/-- The reference's: how many bytes there must be, the numbers without asking for their form, and whether these are put so. -/
def rtK (F : Nat → Nat) : Nat := if tk1 F < 8 then tk1 F else ofB8 (fun i => F (1 + i)) (behN (tk1 F))
def rtC (F : Nat → Nat) : Nat := if tk2 F < 8 then tk2 F else ofB8 (fun i => F (1 + behN (tk1 F) + i)) (behN (tk2 F))
def rtSame (F : Nat → Nat) : Prop := hdLen (rtK F) (rtC F) = tkUsed F ∧ ∀ i, i < tkUsed F → hdF (rtK F) (rtC F) i = F i
theorem rt_yes (L : Nat) (F : Nat → Nat) (hF : ∀ i, F i < 256) (h0 : 0 < L) (hL : tkUsed F ≤ L) (h : rtSame F) : tkOk L F = true ∧ tkK L F = rtK F ∧ tkC L F = rtC F := by
  obtain ⟨h1, h2⟩ := h
  have hb := hF 0
  have b1 : tk1 F < 16 := by unfold tk1; omega
  have b2 : tk2 F < 16 := by unfold tk2; omega
  have hu : tkUsed F = 1 + behN (tk1 F) + behN (tk2 F) := rfl
  have e0 := h2 0 (by omega)
  have n1 := nibN_lt (rtK F)
  have n2 := nibN_lt (rtC F)
  have e1 : 16 * nibN (rtK F) + nibN (rtC F) = F 0 := by unfold hdF at e0; rw [if_pos rfl] at e0; exact e0
  have d1 : nibN (rtK F) = tk1 F := by unfold tk1; omega
  have d2 : nibN (rtC F) = tk2 F := by unfold tk2; omega
  have k1 : tkK L F = rtK F := by
    unfold tkK rtK tfN
    by_cases e : tk1 F < 8
    · rw [if_pos e, if_pos e]
    · rw [if_neg e, if_neg e, if_neg (by omega)]
  have k2 : tkC L F = rtC F := by
    unfold tkC rtC tfN
    by_cases e : tk2 F < 8
    · rw [if_pos e, if_pos e]
    · rw [if_neg e, if_neg e, if_neg (by omega)]
  have o1 : tkOk1 L F = true := by
    unfold tkOk1 tfOk
    by_cases e : tk1 F < 8
    · rw [if_pos e]
    · rw [if_neg e, if_neg (by omega)]
      unfold rtK at d1
      rw [if_neg e] at d1
      simp [d1]
  have o2 : tkOk2 L F = true := by
    unfold tkOk2 tfOk
    by_cases e : tk2 F < 8
    · rw [if_pos e]
    · rw [if_neg e, if_neg (by omega)]
      unfold rtC at d2
      rw [if_neg e] at d2
      simp [d2]
  refine ⟨?_, k1, k2⟩
  unfold tkOk
  rw [o1, o2]
  simp [h0]
theorem rt_no (L : Nat) (F : Nat → Nat) (hF : ∀ i, F i < 256) (h : tkUsed F ≤ L → ¬ rtSame F) : tkOk L F = false := by
  cases e : tkOk L F with
  | false => rfl
  | true =>
    obtain ⟨h1, h2, h3⟩ := tk_taken L F hF e
    have hu : tkUsed F = 1 + behN (tk1 F) + behN (tk2 F) := rfl
    have k1 : tkK L F = rtK F := by
      unfold tkK rtK tfN
      by_cases e : tk1 F < 8
      · rw [if_pos e, if_pos e]
      · rw [if_neg e, if_neg e, if_neg (by omega)]
    have k2 : tkC L F = rtC F := by
      unfold tkC rtC tfN
      by_cases e : tk2 F < 8
      · rw [if_pos e, if_pos e]
      · rw [if_neg e, if_neg e, if_neg (by omega)]
    rw [k1, k2] at h2 h3
    exact absurd ⟨h2, h3⟩ (h h1)
end Go.Proofs.Ytmbefbmpjkbnmaa
