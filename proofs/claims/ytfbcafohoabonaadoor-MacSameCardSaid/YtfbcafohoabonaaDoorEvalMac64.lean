/-
  MACs and expanded bytes, reckoned (Sum512).
-/
import Derived.Test.YtfbcafohoabonaaDoorConsts
namespace Go.Proofs.YtfbcafohoabonaaDoor
open Go.RowKit

def ks64 : List Nat := (List.range' 0 80).map (fun t => KC t / 2 ^ (64 - 64))
theorem eval_sum64 (g : Nat → Nat) (N i : Nat) (hi : i < 64) : sumOf 64 80 P64 KC (H64 FC) g N i = msg (evalSum 64 P64 ks64 (H64 FC) g N) i :=
  evalSum_eq 64 80 P64 KC (H64 FC) g N ks64 rfl (fun i hi => by omega) i hi
theorem eval_sum_length64 (g : Nat → Nat) (N : Nat) : (evalSum 64 P64 ks64 (H64 FC) g N).length = 64 := evalSum_length 64 80 P64 KC (H64 FC) g N ks64 rfl

/-- A short key's block, exclusive-or c. -/
def keyBlock64 (c : Nat) (kl : List Nat) : List Nat := (List.range 128).map fun i => c ^^^ msg kl i
/-- A MAC under a short key. -/
def evalMac64 (kl ml : List Nat) : List Nat :=
  forceL (keyBlock64 54 kl ++ ml) fun m1 => forceL (evalSum 64 P64 ks64 (H64 FC) (msg m1) (128 + ml.length)) fun inner =>
  forceL (keyBlock64 92 kl ++ inner) fun m2 => evalSum 64 P64 ks64 (H64 FC) (msg m2) (128 + 64)

theorem keyBlock_length64 (c : Nat) (kl : List Nat) : (keyBlock64 c kl).length = 128 := by simp [keyBlock64]
theorem pad_eval64 (c : Nat) (kl ml : List Nat) (key g : Nat → Nat) (hl : kl.length ≤ 128) (hk : ∀ i, i < kl.length → key i = msg kl i) (i N : Nat) (hi : i < 128 + N) (hg : ∀ i, i < N → g i = msg ml i) :
    gcat64 128 (fun i => c ^^^ padKey64 FC KC kl.length key i) g i = msg (keyBlock64 c kl ++ ml) i := by
  unfold gcat64
  have hn : ¬ 128 < kl.length := by omega
  by_cases e : i < 128
  · rw [if_pos e, msg_append_left _ _ _ (by rw [keyBlock_length64]; exact e)]
    simp only [padKey64, if_neg hn]
    have h2 : msg (keyBlock64 c kl) i = c ^^^ msg kl i := by simp [msg, keyBlock64, e]
    rw [h2]
    by_cases e2 : i < kl.length
    · rw [if_pos e2, hk i e2]
    · rw [if_neg e2]
      have : msg kl i = 0 := by simp [msg]; rw [List.getElem?_eq_none (by omega)]; rfl
      rw [this]
  · rw [if_neg e, msg_append_right _ _ _ (by rw [keyBlock_length64]; omega), keyBlock_length64, hg _ (by omega)]

theorem macOf_eval64 (kl ml : List Nat) (key g : Nat → Nat) (Lk N : Nat) (hLk : Lk = kl.length) (hN : N = ml.length) (hl : kl.length ≤ 128) (hk : ∀ i, i < kl.length → key i = msg kl i) (hg : ∀ i, i < ml.length → g i = msg ml i) (i : Nat) (hi : i < 64) :
    macOf64 FC KC Lk key g N i = msg (evalMac64 kl ml) i := by
  subst hLk hN
  unfold macOf64 kmacOf64 evalMac64
  simp only [forceL_eq]
  rw [sumOf_congr 64 80 P64 KC (H64 FC) _ (msg (keyBlock64 92 kl ++ evalSum 64 P64 ks64 (H64 FC) (msg (keyBlock64 54 kl ++ ml)) (128 + ml.length))) (128 + 64) (fun j hj =>
    pad_eval64 92 kl _ key _ hl hk j 64 hj (fun i hi => by
      rw [sumOf_congr 64 80 P64 KC (H64 FC) _ (msg (keyBlock64 54 kl ++ ml)) (128 + ml.length) (fun j hj => pad_eval64 54 kl ml key g hl hk j ml.length hj hg)]
      exact eval_sum64 _ _ i hi))]
  exact eval_sum64 _ _ i hi
theorem evalMac_length64 (kl ml : List Nat) : (evalMac64 kl ml).length = 64 := by
  unfold evalMac64
  simp only [forceL_eq]
  exact eval_sum_length64 _ _

/-- Blocks that are expanded. -/
theorem tOf_eval64 (kl il tl : List Nat) (key info : Nat → Nat) (Lk L n : Nat) (hLk : Lk = kl.length) (hL : L = il.length) (hl : kl.length ≤ 128) (hk : ∀ i, i < kl.length → key i = msg kl i) (hi : ∀ i, i < il.length → info i = msg il i)
    (htl : tl.length = if n = 0 then 0 else 64) (ht : ∀ i, i < tl.length → tOf64 (macOf64 FC KC Lk key) L info n i = msg tl i) (i : Nat) (h : i < 64) :
    tOf64 (macOf64 FC KC Lk key) L info (n + 1) i = msg (evalMac64 kl (tl ++ (il ++ [n + 1]))) i := by
  rw [tOf64, ← htl]
  refine macOf_eval64 kl (tl ++ (il ++ [n + 1])) key _ Lk _ hLk (by simp [hL]) hl hk (fun j hj => ?_) i h
  unfold cat364
  by_cases e1 : j < tl.length
  · rw [if_pos e1, msg_append_left _ _ _ e1, ht j e1]
  · rw [if_neg e1, msg_append_right _ _ _ (by omega)]
    by_cases e2 : j < tl.length + L
    · rw [if_pos e2, msg_append_left _ _ _ (by omega), hi _ (by omega)]
    · rw [if_neg e2, msg_append_right _ _ _ (by omega)]
      have hj' : j < tl.length + (il.length + 1) := by simpa using hj
      have e : j - tl.length - il.length = 0 := by omega
      rw [e]; rfl

end Go.Proofs.YtfbcafohoabonaaDoor
