/-
  MACs and expanded bytes, reckoned (Sum256).
-/
import Derived.Test.YtfbcafohoabonaaDoorConsts
namespace Go.Proofs.YtfbcafohoabonaaDoor
open Go.RowKit

def ks32 : List Nat := (List.range' 0 64).map (fun t => KC t / 2 ^ (64 - 32))
theorem eval_sum32 (g : Nat → Nat) (N i : Nat) (hi : i < 32) : sumOf 32 64 P32 KC (H32 FC) g N i = msg (evalSum 32 P32 ks32 (H32 FC) g N) i :=
  evalSum_eq 32 64 P32 KC (H32 FC) g N ks32 rfl (fun i hi => by omega) i hi
theorem eval_sum_length32 (g : Nat → Nat) (N : Nat) : (evalSum 32 P32 ks32 (H32 FC) g N).length = 32 := evalSum_length 32 64 P32 KC (H32 FC) g N ks32 rfl

/-- A short key's block, exclusive-or c. -/
def keyBlock32 (c : Nat) (kl : List Nat) : List Nat := (List.range 64).map fun i => c ^^^ msg kl i
/-- A MAC under a short key. -/
def evalMac32 (kl ml : List Nat) : List Nat :=
  forceL (keyBlock32 54 kl ++ ml) fun m1 => forceL (evalSum 32 P32 ks32 (H32 FC) (msg m1) (64 + ml.length)) fun inner =>
  forceL (keyBlock32 92 kl ++ inner) fun m2 => evalSum 32 P32 ks32 (H32 FC) (msg m2) (64 + 32)

theorem keyBlock_length32 (c : Nat) (kl : List Nat) : (keyBlock32 c kl).length = 64 := by simp [keyBlock32]
theorem pad_eval32 (c : Nat) (kl ml : List Nat) (key g : Nat → Nat) (hl : kl.length ≤ 64) (hk : ∀ i, i < kl.length → key i = msg kl i) (i N : Nat) (hi : i < 64 + N) (hg : ∀ i, i < N → g i = msg ml i) :
    gcat32 64 (fun i => c ^^^ padKey32 FC KC kl.length key i) g i = msg (keyBlock32 c kl ++ ml) i := by
  unfold gcat32
  have hn : ¬ 64 < kl.length := by omega
  by_cases e : i < 64
  · rw [if_pos e, msg_append_left _ _ _ (by rw [keyBlock_length32]; exact e)]
    simp only [padKey32, if_neg hn]
    have h2 : msg (keyBlock32 c kl) i = c ^^^ msg kl i := by simp [msg, keyBlock32, e]
    rw [h2]
    by_cases e2 : i < kl.length
    · rw [if_pos e2, hk i e2]
    · rw [if_neg e2]
      have : msg kl i = 0 := by simp [msg]; rw [List.getElem?_eq_none (by omega)]; rfl
      rw [this]
  · rw [if_neg e, msg_append_right _ _ _ (by rw [keyBlock_length32]; omega), keyBlock_length32, hg _ (by omega)]

theorem macOf_eval32 (kl ml : List Nat) (key g : Nat → Nat) (Lk N : Nat) (hLk : Lk = kl.length) (hN : N = ml.length) (hl : kl.length ≤ 64) (hk : ∀ i, i < kl.length → key i = msg kl i) (hg : ∀ i, i < ml.length → g i = msg ml i) (i : Nat) (hi : i < 32) :
    macOf32 FC KC Lk key g N i = msg (evalMac32 kl ml) i := by
  subst hLk hN
  unfold macOf32 kmacOf32 evalMac32
  simp only [forceL_eq]
  rw [sumOf_congr 32 64 P32 KC (H32 FC) _ (msg (keyBlock32 92 kl ++ evalSum 32 P32 ks32 (H32 FC) (msg (keyBlock32 54 kl ++ ml)) (64 + ml.length))) (64 + 32) (fun j hj =>
    pad_eval32 92 kl _ key _ hl hk j 32 hj (fun i hi => by
      rw [sumOf_congr 32 64 P32 KC (H32 FC) _ (msg (keyBlock32 54 kl ++ ml)) (64 + ml.length) (fun j hj => pad_eval32 54 kl ml key g hl hk j ml.length hj hg)]
      exact eval_sum32 _ _ i hi))]
  exact eval_sum32 _ _ i hi
theorem evalMac_length32 (kl ml : List Nat) : (evalMac32 kl ml).length = 32 := by
  unfold evalMac32
  simp only [forceL_eq]
  exact eval_sum_length32 _ _

/-- Blocks that are expanded. -/
theorem tOf_eval32 (kl il tl : List Nat) (key info : Nat → Nat) (Lk L n : Nat) (hLk : Lk = kl.length) (hL : L = il.length) (hl : kl.length ≤ 64) (hk : ∀ i, i < kl.length → key i = msg kl i) (hi : ∀ i, i < il.length → info i = msg il i)
    (htl : tl.length = if n = 0 then 0 else 32) (ht : ∀ i, i < tl.length → tOf32 (macOf32 FC KC Lk key) L info n i = msg tl i) (i : Nat) (h : i < 32) :
    tOf32 (macOf32 FC KC Lk key) L info (n + 1) i = msg (evalMac32 kl (tl ++ (il ++ [n + 1]))) i := by
  rw [tOf32, ← htl]
  refine macOf_eval32 kl (tl ++ (il ++ [n + 1])) key _ Lk _ hLk (by simp [hL]) hl hk (fun j hj => ?_) i h
  unfold cat332
  by_cases e1 : j < tl.length
  · rw [if_pos e1, msg_append_left _ _ _ e1, ht j e1]
  · rw [if_neg e1, msg_append_right _ _ _ (by omega)]
    by_cases e2 : j < tl.length + L
    · rw [if_pos e2, msg_append_left _ _ _ (by omega), hi _ (by omega)]
    · rw [if_neg e2, msg_append_right _ _ _ (by omega)]
      have hj' : j < tl.length + (il.length + 1) := by simpa using hj
      have e : j - tl.length - il.length = 0 := by omega
      rw [e]; rfl

end Go.Proofs.YtfbcafohoabonaaDoor
