/-
  Sums, reckoned: a way through the same numbers that the kernel can go.
-/
import Derived.Test.YtopepbkpcfbegaaDoorMac32
import Derived.Test.YtopepbkpcfbegaaDoorMac64
namespace Go.Proofs.YtopepbkpcfbegaaDoor
open Go.RowKit

/-- k of a number that is reckoned first. -/
def force {α : Type} (n : Nat) (k : Nat → α) : α := match n with
  | 0 => k 0
  | m + 1 => k (m + 1)
theorem force_eq {α : Type} (n : Nat) (k : Nat → α) : force n k = k n := by cases n <;> rfl
def forceL {α : Type} : List Nat → (List Nat → α) → α
  | [], k => k []
  | x :: l, k => force x fun y => forceL l fun r => k (y :: r)
theorem forceL_eq {α : Type} : ∀ (l : List Nat) (k : List Nat → α), forceL l k = k l
  | [], _ => rfl
  | x :: l, k => by rw [forceL, force_eq, forceL_eq l]

/-- Rounds, over the words that are next. -/
def evalRounds {α : Type} (b : Nat) (P : Nat → Nat) : List Nat → Nat → Nat → Nat → Nat → Nat → Nat → Nat → Nat → Nat → Nat → Nat → Nat → Nat → Nat → Nat → Nat → Nat → Nat → Nat → Nat → Nat → Nat → Nat → Nat → (Oct → α) → α
  | [], a, b', c, d, e, f, g, h, _, _, _, _, _, _, _, _, _, _, _, _, _, _, _, _, k => k ⟨a, b', c, d, e, f, g, h⟩
  | kt :: ks, a, b', c, d, e, f, g, h, w0, w1, w2, w3, w4, w5, w6, w7, w8, w9, w10, w11, w12, w13, w14, w15, k =>
    force (rndP b P kt w0 ⟨a, b', c, d, e, f, g, h⟩) fun p => force (rndQ b P ⟨a, b', c, d, e, f, g, h⟩) fun q => force ((p + q) % 2 ^ b) fun a' => force ((d + p) % 2 ^ b) fun e' =>
    force ((shifted b w14 (P 9) (P 10) (P 11) + w9 + shifted b w1 (P 6) (P 7) (P 8) + w0) % 2 ^ b) fun w16 =>
    evalRounds b P ks a' a b' c e' e f g w1 w2 w3 w4 w5 w6 w7 w8 w9 w10 w11 w12 w13 w14 w15 w16 k

theorem evalRounds_eq {α : Type} (b : Nat) (P kk blk : Nat → Nat) (v : Oct) (k : Oct → α) : ∀ (n t : Nat) (ks : List Nat), ks = (List.range' t n).map kk →
    evalRounds b P ks (rnds b P kk (word b P blk) v t).a (rnds b P kk (word b P blk) v t).b (rnds b P kk (word b P blk) v t).c (rnds b P kk (word b P blk) v t).d (rnds b P kk (word b P blk) v t).e (rnds b P kk (word b P blk) v t).f (rnds b P kk (word b P blk) v t).g (rnds b P kk (word b P blk) v t).h
      (word b P blk t) (word b P blk (t + 1)) (word b P blk (t + 2)) (word b P blk (t + 3)) (word b P blk (t + 4)) (word b P blk (t + 5)) (word b P blk (t + 6)) (word b P blk (t + 7)) (word b P blk (t + 8)) (word b P blk (t + 9)) (word b P blk (t + 10)) (word b P blk (t + 11)) (word b P blk (t + 12)) (word b P blk (t + 13)) (word b P blk (t + 14)) (word b P blk (t + 15)) k
    = k (rnds b P kk (word b P blk) v (t + n))
  | 0, t, ks, h => by
    subst h; rfl
  | n + 1, t, ks, h => by
    subst h
    have hr : (List.range' t (n + 1)).map kk = kk t :: (List.range' (t + 1) n).map kk := by simp [List.range'_succ]
    have hw : (shifted b (word b P blk (t + 14)) (P 9) (P 10) (P 11) + word b P blk (t + 9) + shifted b (word b P blk (t + 1)) (P 6) (P 7) (P 8) + word b P blk t) % 2 ^ b = word b P blk (t + 1 + 15) := by
      rw [word_high b P blk (t + 1 + 15) (by omega)]
      rw [show t + 1 + 15 - 2 = t + 14 by omega, show t + 1 + 15 - 7 = t + 9 by omega, show t + 1 + 15 - 15 = t + 1 by omega, show t + 1 + 15 - 16 = t by omega]
    rw [hr, evalRounds]
    simp only [force_eq]
    rw [hw]
    have ih := evalRounds_eq b P kk blk v k n (t + 1) _ rfl
    rw [show t + (n + 1) = t + 1 + n by omega, ← ih]
    simp only [show t + 1 + 1 = t + 2 by omega, show t + 1 + 2 = t + 3 by omega, show t + 1 + 3 = t + 4 by omega, show t + 1 + 4 = t + 5 by omega, show t + 1 + 5 = t + 6 by omega, show t + 1 + 6 = t + 7 by omega, show t + 1 + 7 = t + 8 by omega, show t + 1 + 8 = t + 9 by omega, show t + 1 + 9 = t + 10 by omega, show t + 1 + 10 = t + 11 by omega, show t + 1 + 11 = t + 12 by omega, show t + 1 + 12 = t + 13 by omega, show t + 1 + 13 = t + 14 by omega, show t + 1 + 14 = t + 15 by omega]
    rfl

/-- States behind blocks. -/
def evalSt {α : Type} (b : Nat) (P : Nat → Nat) (ks : List Nat) (g : Nat → Nat) : Nat → Nat → Nat → Nat → Nat → Nat → Nat → Nat → Nat → Nat → (Oct → α) → α
  | 0, _, a, b', c, d, e, f, g', h, k => k ⟨a, b', c, d, e, f, g', h⟩
  | n + 1, i, a, b', c, d, e, f, g', h, k =>
    force (be (fun j => g (i * (16 * (b / 8)) + (0 * (b / 8) + j))) (b / 8)) fun w0 => force (be (fun j => g (i * (16 * (b / 8)) + (1 * (b / 8) + j))) (b / 8)) fun w1 =>
    force (be (fun j => g (i * (16 * (b / 8)) + (2 * (b / 8) + j))) (b / 8)) fun w2 => force (be (fun j => g (i * (16 * (b / 8)) + (3 * (b / 8) + j))) (b / 8)) fun w3 =>
    force (be (fun j => g (i * (16 * (b / 8)) + (4 * (b / 8) + j))) (b / 8)) fun w4 => force (be (fun j => g (i * (16 * (b / 8)) + (5 * (b / 8) + j))) (b / 8)) fun w5 =>
    force (be (fun j => g (i * (16 * (b / 8)) + (6 * (b / 8) + j))) (b / 8)) fun w6 => force (be (fun j => g (i * (16 * (b / 8)) + (7 * (b / 8) + j))) (b / 8)) fun w7 =>
    force (be (fun j => g (i * (16 * (b / 8)) + (8 * (b / 8) + j))) (b / 8)) fun w8 => force (be (fun j => g (i * (16 * (b / 8)) + (9 * (b / 8) + j))) (b / 8)) fun w9 =>
    force (be (fun j => g (i * (16 * (b / 8)) + (10 * (b / 8) + j))) (b / 8)) fun w10 => force (be (fun j => g (i * (16 * (b / 8)) + (11 * (b / 8) + j))) (b / 8)) fun w11 =>
    force (be (fun j => g (i * (16 * (b / 8)) + (12 * (b / 8) + j))) (b / 8)) fun w12 => force (be (fun j => g (i * (16 * (b / 8)) + (13 * (b / 8) + j))) (b / 8)) fun w13 =>
    force (be (fun j => g (i * (16 * (b / 8)) + (14 * (b / 8) + j))) (b / 8)) fun w14 => force (be (fun j => g (i * (16 * (b / 8)) + (15 * (b / 8) + j))) (b / 8)) fun w15 =>
    evalRounds b P ks a b' c d e f g' h w0 w1 w2 w3 w4 w5 w6 w7 w8 w9 w10 w11 w12 w13 w14 w15 fun v =>
    force ((a + v.a) % 2 ^ b) fun a1 => force ((b' + v.b) % 2 ^ b) fun b1 => force ((c + v.c) % 2 ^ b) fun c1 => force ((d + v.d) % 2 ^ b) fun d1 =>
    force ((e + v.e) % 2 ^ b) fun e1 => force ((f + v.f) % 2 ^ b) fun f1 => force ((g' + v.g) % 2 ^ b) fun g1 => force ((h + v.h) % 2 ^ b) fun h1 =>
    evalSt b P ks g n (i + 1) a1 b1 c1 d1 e1 f1 g1 h1 k

theorem evalSt_eq {α : Type} (b R : Nat) (P K H g : Nat → Nat) (ks : List Nat) (hks : ks = (List.range' 0 R).map (fun t => K t / 2 ^ (64 - b))) (k : Oct → α) : ∀ n i,
    evalSt b P ks g n i (stAfter b R P K H g i 0) (stAfter b R P K H g i 1) (stAfter b R P K H g i 2) (stAfter b R P K H g i 3) (stAfter b R P K H g i 4) (stAfter b R P K H g i 5) (stAfter b R P K H g i 6) (stAfter b R P K H g i 7) k
    = k (Oct.of (stAfter b R P K H g (i + n)))
  | 0, i => rfl
  | n + 1, i => by
    rw [evalSt]
    simp only [force_eq]
    have hr := fun (kc : Oct → α) => evalRounds_eq b P (fun t => K t / 2 ^ (64 - b)) (fun j => g (i * (16 * (b / 8)) + j)) (Oct.of (stAfter b R P K H g i)) kc R 0 ks hks
    simp only [Nat.zero_add] at hr
    have hwt : ∀ t, t < 16 → be (fun j => g (i * (16 * (b / 8)) + (t * (b / 8) + j))) (b / 8) = word b P (fun j => g (i * (16 * (b / 8)) + j)) t := fun t ht => (word_low b P (fun j => g (i * (16 * (b / 8)) + j)) t ht).symm
    rw [hwt 0 (by decide), hwt 1 (by decide), hwt 2 (by decide), hwt 3 (by decide), hwt 4 (by decide), hwt 5 (by decide), hwt 6 (by decide), hwt 7 (by decide), hwt 8 (by decide), hwt 9 (by decide), hwt 10 (by decide), hwt 11 (by decide), hwt 12 (by decide), hwt 13 (by decide), hwt 14 (by decide), hwt 15 (by decide)]
    refine Eq.trans (hr _) ?_
    have ih := evalSt_eq b R P K H g ks hks k n (i + 1)
    rw [show i + (n + 1) = i + 1 + n by omega, ← ih]
    rfl

theorem Oct.get_of (f : Nat → Nat) (i : Nat) (h : i < 8) : (Oct.of f).get i = f i := by
  match i, h with
  | 0, _ => rfl
  | 1, _ => rfl
  | 2, _ => rfl
  | 3, _ => rfl
  | 4, _ => rfl
  | 5, _ => rfl
  | 6, _ => rfl
  | 7, _ => rfl

/-- The bytes of a sum. -/
def evalSum (b : Nat) (P : Nat → Nat) (ks : List Nat) (H g : Nat → Nat) (N : Nat) : List Nat :=
  evalSt b P ks (padded b g N) (padBlocks b N) 0 (H 0) (H 1) (H 2) (H 3) (H 4) (H 5) (H 6) (H 7) fun v =>
    (List.range b).map fun i => v.get (i / (b / 8)) / 2 ^ (8 * (b / 8 - 1 - i % (b / 8))) % 256
theorem evalSum_eq (b R : Nat) (P K H g : Nat → Nat) (N : Nat) (ks : List Nat) (hks : ks = (List.range' 0 R).map (fun t => K t / 2 ^ (64 - b))) (hb : ∀ i, i < b → i / (b / 8) < 8) (i : Nat) (hi : i < b) :
    sumOf b R P K H g N i = (evalSum b P ks H g N).getD i 0 := by
  have h := evalSt_eq b R P K H (padded b g N) ks hks (fun v => (List.range b).map fun i => v.get (i / (b / 8)) / 2 ^ (8 * (b / 8 - 1 - i % (b / 8))) % 256) (padBlocks b N) 0
  have h2 : evalSum b P ks H g N = (List.range b).map fun i => (Oct.of (stAfter b R P K H (padded b g N) (0 + padBlocks b N))).get (i / (b / 8)) / 2 ^ (8 * (b / 8 - 1 - i % (b / 8))) % 256 := h
  rw [h2, Nat.zero_add]
  simp [hi, Oct.get_of _ _ (hb i hi), sumOf]
theorem evalSum_length (b R : Nat) (P K H g : Nat → Nat) (N : Nat) (ks : List Nat) (hks : ks = (List.range' 0 R).map (fun t => K t / 2 ^ (64 - b))) : (evalSum b P ks H g N).length = b := by
  have h := evalSt_eq b R P K H (padded b g N) ks hks (fun v => (List.range b).map fun i => v.get (i / (b / 8)) / 2 ^ (8 * (b / 8 - 1 - i % (b / 8))) % 256) (padBlocks b N) 0
  have h2 : evalSum b P ks H g N = (List.range b).map fun i => (Oct.of (stAfter b R P K H (padded b g N) (0 + padBlocks b N))).get (i / (b / 8)) / 2 ^ (8 * (b / 8 - 1 - i % (b / 8))) % 256 := h
  rw [h2]; simp

theorem padded_congr (b : Nat) (g g' : Nat → Nat) (N : Nat) (h : ∀ i, i < N → g i = g' i) : padded b g N = padded b g' N := by
  funext i
  unfold padded
  by_cases e : i < N
  · rw [if_pos e, if_pos e, h i e]
  · rw [if_neg e, if_neg e]
theorem sumOf_congr (b R : Nat) (P K H g g' : Nat → Nat) (N : Nat) (h : ∀ i, i < N → g i = g' i) : sumOf b R P K H g N = sumOf b R P K H g' N := by
  unfold sumOf
  rw [padded_congr b g g' N h]

end Go.Proofs.YtopepbkpcfbegaaDoor
