/-
  The document's own MAC, of the hash of Sum512.
-/
import Derived.Test.YtobaplndoaeoiaaDoorExpanded64
import Derived.Test.YtobaplndoaeoiaaDoorMac32
import Derived.Test.YtobaplndoaeoiaaDoorOwnR
import Derived.Test.YtobaplndoaeoiaaDoorExpanded32
import Derived.Test.YtobaplndoaeoiaaDoorLeaf
import Derived.Test.YtobaplndoaeoiaaDoorCells
import Derived.Deep.QuietTactic
import Derived.BigQuiet
import Derived.Deep.Draws
import Derived.Test.YtobaplndoaeoiaaDoorBegun32
import Derived.Test.YtobaplndoaeoiaaDoorMach
import Derived.StillTailTactics
import Derived.Test.YtobaplndoaeoiaaDoorBegun64
namespace Go.Proofs.YtobaplndoaeoiaaDoor
open Go.RowKit

set_option maxRecDepth 100000
set_option maxHeartbeats 2000000

/-- The MAC under a key. -/
def macOf64 (F K : Nat → Nat) (L : Nat) (key : Nat → Nat) : (Nat → Nat) → Nat → Nat → Nat :=
  kmacOf64 F K (fun i => 54 ^^^ padKey64 F K L key i) (fun i => 92 ^^^ padKey64 F K L key i)

theorem padKey_lt64 (F K : Nat → Nat) (L : Nat) (key : Nat → Nat) (hk : ∀ i, key i < 256) (i : Nat) : padKey64 F K L key i < 256 := by
  unfold padKey64
  split
  · split
    · exact Nat.mod_lt _ (by decide)
    · decide
  · split
    · exact hk i
    · decide
theorem macOf_lt64 (F K : Nat → Nat) (L : Nat) (key g : Nat → Nat) (N i : Nat) : macOf64 F K L key g N i < 256 := Nat.mod_lt _ (by decide)

theorem Mac_any64 (n lc Lk ck : Nat) (la ka : Option Addr) (F K g off key : Nat → Nat) (w : World) (hL : Laid w 1 2 F K) (hT : Texts w w.heap.size la n off g) (hR : Rd w w.heap.size ka Lk key)
    (hg : ∀ i, g i < 256) (hk : ∀ i, key i < 256) (hF : ∀ i, F i < 2 ^ 64) (hK : ∀ i, K i < 2 ^ 64) (hck : Lk ≤ ck) (hLk : Lk < 2 ^ 61) (hn : n * 24 ≤ 2 ^ 47) (hN : off n < 2 ^ 60) :
    Calls Tryd.prog 28 #[.int .u8 2, .slice ka Lk ck, .slice la n lc] w (Gave w 72 64 (macOf64 F K Lk key g (off n))) := by
  have hu := under64 Lk ck ka F K key w hL hR hk hF hK hck hLk
  have HU := Lib.hid hu
  clear hu
  go_enter Tryd.func28, Tryd.ntmps28
  go_wp2_with (first
    | (go_at_call 22; refine (mknown64 _).mono ?_; rintro e w' ⟨rfl, rfl⟩)
    | (go_at_call 24; (with_reducible refine (HU.out).mono ?_); rintro e w1 ⟨ri, ro, rfl, hri, hro, hki, hko, hg1⟩))
  have hT1 : Texts w1 w1.heap.size la n off g := (hT.grown hg1 (fun k e => by cases e)).below64 hg1.size
  have hkm := kmac64 ri ro n lc la F K g off (fun i => 54 ^^^ padKey64 F K Lk key i) (fun i => 92 ^^^ padKey64 F K Lk key i) w1 (hL.grown hg1 (by simp) (by simp)) hT1 hg hF hK hn hN hki hko
    (fun i => Nat.xor_lt_two_pow (n := 8) (by decide) (padKey_lt64 F K Lk key hk i)) (fun i => Nat.xor_lt_two_pow (n := 8) (by decide) (padKey_lt64 F K Lk key hk i))
  have HKM := Lib.hid hkm
  clear hkm hki hko hri hro HU
  go_at_call 32
  with_reducible refine (HKM.out).mono ?_
  rintro e w2 ⟨rs, rfl, hrs, hOs, hg2⟩
  go_wp2_with fail
  go_ret
  exact ⟨rs, rfl, Nat.le_trans hg1.size hrs, hOs, grown_trans hg1 hg2⟩

theorem Extract_any64 (L c Lk ck : Nat) (ia ka : Option Addr) (F K ikm key : Nat → Nat) (w : World) (hL : Laid w 1 2 F K) (hI : Rd w w.heap.size ia L ikm) (hR : Rd w w.heap.size ka Lk key)
    (hg : ∀ i, ikm i < 256) (hk : ∀ i, key i < 256) (hF : ∀ i, F i < 2 ^ 64) (hK : ∀ i, K i < 2 ^ 64) (hc : L ≤ c) (hck : Lk ≤ ck) (hLk : Lk < 2 ^ 61) (hN : L < 2 ^ 60) :
    Calls Tryd.prog 21 #[.int .u8 2, .slice ka Lk ck, .slice ia L c] w (Gave w 72 64 (macOf64 F K Lk key ikm L)) := by
  have ga := World.grownBy_alloc w (.cells #[.slice ia L c] 23) none
  have ba := heap_alloc_new w (.cells #[.slice ia L c] 23)
  have za : (w.alloc (.cells #[.slice ia L c] 23)).heap.size = w.heap.size + 1 := by simp
  have hTx : Texts (w.alloc (.cells #[.slice ia L c] 23)) (w.alloc (.cells #[.slice ia L c] 23)).heap.size (some ⟨w.heap.size, 0, none⟩) 1 (fun j => if j = 0 then 0 else L) ikm := ⟨rfl, fun _ => ⟨w.heap.size, 0, rfl, by omega, fun j hj => by
    obtain rfl : j = 0 := by omega
    refine ⟨ia, L, c, by rw [cell_of_row _ _ _ _ _ _ ba]; rfl, hc, by simp, fun h => ?_⟩
    obtain ⟨tb, o, h1, h2, h3⟩ := hI.ex h
    exact ⟨tb, o, h1, by omega, fun j hj => by rw [ga.cell (h3 j hj) (by simp)]; simp⟩⟩⟩
  have hm := Mac_any64 1 1 Lk ck _ ka F K ikm _ key _ (hL.grown ga (by simp) (by simp)) hTx ((hR.grown ga (fun k e => by cases e)).mono (by omega)) hg hk hF hK hck hLk (by decide) (by show L < _; exact hN)
  have HM := Lib.hid hm
  have Hz := Lib.hid za
  have Hga := Lib.hid ga
  clear hm za ga ba hTx
  go_enter Tryd.func21, Tryd.ntmps21
  go_wp2_with fail
  go_at_call 28
  with_reducible refine (HM.out).mono ?_
  rintro e w2 ⟨rs, rfl, hrs, hOs, hg2⟩
  go_wp2_with fail
  go_ret
  exact ⟨rs, rfl, by have := Hz.out; omega, hOs, grown_trans Hga.out hg2⟩

/-- What is expanded, of a secret. -/
def expandOf64 (F K : Nat → Nat) (Lk : Nat) (key : Nat → Nat) (L : Nat) (info : Nat → Nat) : Nat → Nat := outOf64 (macOf64 F K Lk key) L info

/-- Some bytes, and no error. -/
structure GaveOK64 (w : World) (n : Nat) (f : Nat → Nat) (e : Ending) (w' : World) : Prop where
  ex : ∃ r, e = .returned (.tuple #[.slice (some ⟨r, 0, none⟩) n n, .int .i64 0]) ∧ w.heap.size ≤ r ∧ Fill w' r n f ∧ w.grownBy w' none

theorem Expand_ok64 (n Lk ck L c : Nat) (ka ia : Option Addr) (F K key info : Nat → Nat) (w : World) (hL : Laid w 1 2 F K) (hI : Rd w w.heap.size ia L info) (hR : Rd w w.heap.size ka Lk key)
    (hg : ∀ i, info i < 256) (hk : ∀ i, key i < 256) (hF : ∀ i, F i < 2 ^ 64) (hK : ∀ i, K i < 2 ^ 64) (hck : Lk ≤ ck) (hLk : Lk < 2 ^ 61) (hc : L ≤ c) (hLn : L < 2 ^ 59) (hn0 : 1 ≤ n) (hn : n ≤ 255 * 64) :
    Calls Tryd.prog 17 #[.int .u8 2, .slice ka Lk ck, .slice ia L c, .int .i64 n] w (GaveOK64 w n (expandOf64 F K Lk key L info)) := by
  have hu := under64 Lk ck ka F K key w hL hR hk hF hK hck hLk
  have HU := Lib.hid hu
  have n1 : (1 : Int) ≤ n := by omega
  have n2 : (n : Int) ≤ 255 * 64 := by omega
  clear hu
  go_enter Tryd.func17, Tryd.ntmps17
  go_wp2_with (first
    | (go_at_call 22; refine (mknown64 _).mono ?_; rintro e w' ⟨rfl, rfl⟩)
    | (go_at_call 23; refine (msumBytes64 _).mono ?_; rintro e w' ⟨rfl, rfl⟩)
    | (go_at_call 24; (with_reducible refine (HU.out).mono ?_); rintro e w1 ⟨ri, ro, rfl, hri, hro, hki, hko, hg1⟩))
  have hI1 : Rd w1 w1.heap.size ia L info := (hI.grown hg1 (fun k e => by cases e)).mono hg1.size
  have hkm := expanded64 ri ro n L c ia F K info (fun i => 54 ^^^ padKey64 F K Lk key i) (fun i => 92 ^^^ padKey64 F K Lk key i) w1 (hL.grown hg1 (by simp) (by simp)) hI1 hg hF hK hc hLn hn0 hn hki hko
    (fun i => Nat.xor_lt_two_pow (n := 8) (by decide) (padKey_lt64 F K Lk key hk i)) (fun i => Nat.xor_lt_two_pow (n := 8) (by decide) (padKey_lt64 F K Lk key hk i))
  have HKM := Lib.hid hkm
  clear hkm hki hko hri hro HU
  go_at_call 25
  with_reducible refine (HKM.out).mono ?_
  rintro e w2 ⟨rs, rfl, hrs, hOs, hg2⟩
  go_wp2_with fail
  go_ret2
  exact ⟨rs, rfl, Nat.le_trans hg1.size hrs, hOs, grown_trans hg1 hg2⟩

end Go.Proofs.YtobaplndoaeoiaaDoor
namespace Go.Proofs.YtobaplndoaeoiaaDoor
open Go.RowKit

/-- k of a number that is reckoned first. -/
def force {α : Type} (n : Nat) (k : Nat → α) : α := match n with
  | 0 => k 0
  | m + 1 => k (m + 1)
theorem force_eq {α : Type} (n : Nat) (k : Nat → α) : force n k = k n := by cases n <;> rfl
def forceL {α : Type} : List Nat → (List Nat → α) → α
  | [], k => k []
  | x :: l, k => force x fun y => forceL l fun r => k (y :: r)
theorem forceL_eq {α : Type} : ∀ (l : List Nat) (k : List Nat → α), forceL l k = k l
  | [], _ => rfl
  | x :: l, k => by rw [forceL, force_eq, forceL_eq l]

/-- Rounds, over the words that are next. -/
def evalRounds {α : Type} (b : Nat) (P : Nat → Nat) : List Nat → Nat → Nat → Nat → Nat → Nat → Nat → Nat → Nat → Nat → Nat → Nat → Nat → Nat → Nat → Nat → Nat → Nat → Nat → Nat → Nat → Nat → Nat → Nat → Nat → (Oct → α) → α
  | [], a, b', c, d, e, f, g, h, _, _, _, _, _, _, _, _, _, _, _, _, _, _, _, _, k => k ⟨a, b', c, d, e, f, g, h⟩
  | kt :: ks, a, b', c, d, e, f, g, h, w0, w1, w2, w3, w4, w5, w6, w7, w8, w9, w10, w11, w12, w13, w14, w15, k =>
    force (rndP b P kt w0 ⟨a, b', c, d, e, f, g, h⟩) fun p => force (rndQ b P ⟨a, b', c, d, e, f, g, h⟩) fun q => force ((p + q) % 2 ^ b) fun a' => force ((d + p) % 2 ^ b) fun e' =>
    force ((shifted b w14 (P 9) (P 10) (P 11) + w9 + shifted b w1 (P 6) (P 7) (P 8) + w0) % 2 ^ b) fun w16 =>
    evalRounds b P ks a' a b' c e' e f g w1 w2 w3 w4 w5 w6 w7 w8 w9 w10 w11 w12 w13 w14 w15 w16 k

theorem evalRounds_eq {α : Type} (b : Nat) (P kk blk : Nat → Nat) (v : Oct) (k : Oct → α) : ∀ (n t : Nat) (ks : List Nat), ks = (List.range' t n).map kk →
    evalRounds b P ks (rnds b P kk (word b P blk) v t).a (rnds b P kk (word b P blk) v t).b (rnds b P kk (word b P blk) v t).c (rnds b P kk (word b P blk) v t).d (rnds b P kk (word b P blk) v t).e (rnds b P kk (word b P blk) v t).f (rnds b P kk (word b P blk) v t).g (rnds b P kk (word b P blk) v t).h
      (word b P blk t) (word b P blk (t + 1)) (word b P blk (t + 2)) (word b P blk (t + 3)) (word b P blk (t + 4)) (word b P blk (t + 5)) (word b P blk (t + 6)) (word b P blk (t + 7)) (word b P blk (t + 8)) (word b P blk (t + 9)) (word b P blk (t + 10)) (word b P blk (t + 11)) (word b P blk (t + 12)) (word b P blk (t + 13)) (word b P blk (t + 14)) (word b P blk (t + 15)) k
    = k (rnds b P kk (word b P blk) v (t + n))
  | 0, t, ks, h => by
    subst h; rfl
  | n + 1, t, ks, h => by
    subst h
    have hr : (List.range' t (n + 1)).map kk = kk t :: (List.range' (t + 1) n).map kk := by simp [List.range'_succ]
    have hw : (shifted b (word b P blk (t + 14)) (P 9) (P 10) (P 11) + word b P blk (t + 9) + shifted b (word b P blk (t + 1)) (P 6) (P 7) (P 8) + word b P blk t) % 2 ^ b = word b P blk (t + 1 + 15) := by
      rw [word_high b P blk (t + 1 + 15) (by omega)]
      rw [show t + 1 + 15 - 2 = t + 14 by omega, show t + 1 + 15 - 7 = t + 9 by omega, show t + 1 + 15 - 15 = t + 1 by omega, show t + 1 + 15 - 16 = t by omega]
    rw [hr, evalRounds]
    simp only [force_eq]
    rw [hw]
    have ih := evalRounds_eq b P kk blk v k n (t + 1) _ rfl
    rw [show t + (n + 1) = t + 1 + n by omega, ← ih]
    simp only [show t + 1 + 1 = t + 2 by omega, show t + 1 + 2 = t + 3 by omega, show t + 1 + 3 = t + 4 by omega, show t + 1 + 4 = t + 5 by omega, show t + 1 + 5 = t + 6 by omega, show t + 1 + 6 = t + 7 by omega, show t + 1 + 7 = t + 8 by omega, show t + 1 + 8 = t + 9 by omega, show t + 1 + 9 = t + 10 by omega, show t + 1 + 10 = t + 11 by omega, show t + 1 + 11 = t + 12 by omega, show t + 1 + 12 = t + 13 by omega, show t + 1 + 13 = t + 14 by omega, show t + 1 + 14 = t + 15 by omega]
    rfl

/-- States behind blocks. -/
def evalSt {α : Type} (b : Nat) (P : Nat → Nat) (ks : List Nat) (g : Nat → Nat) : Nat → Nat → Nat → Nat → Nat → Nat → Nat → Nat → Nat → Nat → (Oct → α) → α
  | 0, _, a, b', c, d, e, f, g', h, k => k ⟨a, b', c, d, e, f, g', h⟩
  | n + 1, i, a, b', c, d, e, f, g', h, k =>
    force (be (fun j => g (i * (16 * (b / 8)) + (0 * (b / 8) + j))) (b / 8)) fun w0 => force (be (fun j => g (i * (16 * (b / 8)) + (1 * (b / 8) + j))) (b / 8)) fun w1 =>
    force (be (fun j => g (i * (16 * (b / 8)) + (2 * (b / 8) + j))) (b / 8)) fun w2 => force (be (fun j => g (i * (16 * (b / 8)) + (3 * (b / 8) + j))) (b / 8)) fun w3 =>
    force (be (fun j => g (i * (16 * (b / 8)) + (4 * (b / 8) + j))) (b / 8)) fun w4 => force (be (fun j => g (i * (16 * (b / 8)) + (5 * (b / 8) + j))) (b / 8)) fun w5 =>
    force (be (fun j => g (i * (16 * (b / 8)) + (6 * (b / 8) + j))) (b / 8)) fun w6 => force (be (fun j => g (i * (16 * (b / 8)) + (7 * (b / 8) + j))) (b / 8)) fun w7 =>
    force (be (fun j => g (i * (16 * (b / 8)) + (8 * (b / 8) + j))) (b / 8)) fun w8 => force (be (fun j => g (i * (16 * (b / 8)) + (9 * (b / 8) + j))) (b / 8)) fun w9 =>
    force (be (fun j => g (i * (16 * (b / 8)) + (10 * (b / 8) + j))) (b / 8)) fun w10 => force (be (fun j => g (i * (16 * (b / 8)) + (11 * (b / 8) + j))) (b / 8)) fun w11 =>
    force (be (fun j => g (i * (16 * (b / 8)) + (12 * (b / 8) + j))) (b / 8)) fun w12 => force (be (fun j => g (i * (16 * (b / 8)) + (13 * (b / 8) + j))) (b / 8)) fun w13 =>
    force (be (fun j => g (i * (16 * (b / 8)) + (14 * (b / 8) + j))) (b / 8)) fun w14 => force (be (fun j => g (i * (16 * (b / 8)) + (15 * (b / 8) + j))) (b / 8)) fun w15 =>
    evalRounds b P ks a b' c d e f g' h w0 w1 w2 w3 w4 w5 w6 w7 w8 w9 w10 w11 w12 w13 w14 w15 fun v =>
    force ((a + v.a) % 2 ^ b) fun a1 => force ((b' + v.b) % 2 ^ b) fun b1 => force ((c + v.c) % 2 ^ b) fun c1 => force ((d + v.d) % 2 ^ b) fun d1 =>
    force ((e + v.e) % 2 ^ b) fun e1 => force ((f + v.f) % 2 ^ b) fun f1 => force ((g' + v.g) % 2 ^ b) fun g1 => force ((h + v.h) % 2 ^ b) fun h1 =>
    evalSt b P ks g n (i + 1) a1 b1 c1 d1 e1 f1 g1 h1 k

theorem evalSt_eq {α : Type} (b R : Nat) (P K H g : Nat → Nat) (ks : List Nat) (hks : ks = (List.range' 0 R).map (fun t => K t / 2 ^ (64 - b))) (k : Oct → α) : ∀ n i,
    evalSt b P ks g n i (stAfter b R P K H g i 0) (stAfter b R P K H g i 1) (stAfter b R P K H g i 2) (stAfter b R P K H g i 3) (stAfter b R P K H g i 4) (stAfter b R P K H g i 5) (stAfter b R P K H g i 6) (stAfter b R P K H g i 7) k
    = k (Oct.of (stAfter b R P K H g (i + n)))
  | 0, i => rfl
  | n + 1, i => by
    rw [evalSt]
    simp only [force_eq]
    have hr := fun (kc : Oct → α) => evalRounds_eq b P (fun t => K t / 2 ^ (64 - b)) (fun j => g (i * (16 * (b / 8)) + j)) (Oct.of (stAfter b R P K H g i)) kc R 0 ks hks
    simp only [Nat.zero_add] at hr
    have hwt : ∀ t, t < 16 → be (fun j => g (i * (16 * (b / 8)) + (t * (b / 8) + j))) (b / 8) = word b P (fun j => g (i * (16 * (b / 8)) + j)) t := fun t ht => (word_low b P (fun j => g (i * (16 * (b / 8)) + j)) t ht).symm
    rw [hwt 0 (by decide), hwt 1 (by decide), hwt 2 (by decide), hwt 3 (by decide), hwt 4 (by decide), hwt 5 (by decide), hwt 6 (by decide), hwt 7 (by decide), hwt 8 (by decide), hwt 9 (by decide), hwt 10 (by decide), hwt 11 (by decide), hwt 12 (by decide), hwt 13 (by decide), hwt 14 (by decide), hwt 15 (by decide)]
    refine Eq.trans (hr _) ?_
    have ih := evalSt_eq b R P K H g ks hks k n (i + 1)
    rw [show i + (n + 1) = i + 1 + n by omega, ← ih]
    rfl

theorem Oct.get_of (f : Nat → Nat) (i : Nat) (h : i < 8) : (Oct.of f).get i = f i := by
  match i, h with
  | 0, _ => rfl
  | 1, _ => rfl
  | 2, _ => rfl
  | 3, _ => rfl
  | 4, _ => rfl
  | 5, _ => rfl
  | 6, _ => rfl
  | 7, _ => rfl

/-- The bytes of a sum. -/
def evalSum (b : Nat) (P : Nat → Nat) (ks : List Nat) (H g : Nat → Nat) (N : Nat) : List Nat :=
  evalSt b P ks (padded b g N) (padBlocks b N) 0 (H 0) (H 1) (H 2) (H 3) (H 4) (H 5) (H 6) (H 7) fun v =>
    (List.range b).map fun i => v.get (i / (b / 8)) / 2 ^ (8 * (b / 8 - 1 - i % (b / 8))) % 256
theorem evalSum_eq (b R : Nat) (P K H g : Nat → Nat) (N : Nat) (ks : List Nat) (hks : ks = (List.range' 0 R).map (fun t => K t / 2 ^ (64 - b))) (hb : ∀ i, i < b → i / (b / 8) < 8) (i : Nat) (hi : i < b) :
    sumOf b R P K H g N i = (evalSum b P ks H g N).getD i 0 := by
  have h := evalSt_eq b R P K H (padded b g N) ks hks (fun v => (List.range b).map fun i => v.get (i / (b / 8)) / 2 ^ (8 * (b / 8 - 1 - i % (b / 8))) % 256) (padBlocks b N) 0
  have h2 : evalSum b P ks H g N = (List.range b).map fun i => (Oct.of (stAfter b R P K H (padded b g N) (0 + padBlocks b N))).get (i / (b / 8)) / 2 ^ (8 * (b / 8 - 1 - i % (b / 8))) % 256 := h
  rw [h2, Nat.zero_add]
  simp [hi, Oct.get_of _ _ (hb i hi), sumOf]
theorem evalSum_length (b R : Nat) (P K H g : Nat → Nat) (N : Nat) (ks : List Nat) (hks : ks = (List.range' 0 R).map (fun t => K t / 2 ^ (64 - b))) : (evalSum b P ks H g N).length = b := by
  have h := evalSt_eq b R P K H (padded b g N) ks hks (fun v => (List.range b).map fun i => v.get (i / (b / 8)) / 2 ^ (8 * (b / 8 - 1 - i % (b / 8))) % 256) (padBlocks b N) 0
  have h2 : evalSum b P ks H g N = (List.range b).map fun i => (Oct.of (stAfter b R P K H (padded b g N) (0 + padBlocks b N))).get (i / (b / 8)) / 2 ^ (8 * (b / 8 - 1 - i % (b / 8))) % 256 := h
  rw [h2]; simp

theorem padded_congr (b : Nat) (g g' : Nat → Nat) (N : Nat) (h : ∀ i, i < N → g i = g' i) : padded b g N = padded b g' N := by
  funext i
  unfold padded
  by_cases e : i < N
  · rw [if_pos e, if_pos e, h i e]
  · rw [if_neg e, if_neg e]
theorem sumOf_congr (b R : Nat) (P K H g g' : Nat → Nat) (N : Nat) (h : ∀ i, i < N → g i = g' i) : sumOf b R P K H g N = sumOf b R P K H g' N := by
  unfold sumOf
  rw [padded_congr b g g' N h]

end Go.Proofs.YtobaplndoaeoiaaDoor
namespace Go.Proofs.YtobaplndoaeoiaaDoor
open Go.RowKit

def FL : List Nat := [7640891576956012808, 13503953896175478587, 4354685564936845355, 11912009170470909681, 5840696475078001361, 11170449401992604703, 2270897969802886507, 6620516959819538809]
def KL : List Nat := [4794697086780616226, 8158064640168781261, 13096744586834688815, 16840607885511220156, 4131703408338449720, 6480981068601479193, 10538285296894168987, 12329834152419229976, 15566598209576043074, 1334009975649890238, 2608012711638119052, 6128411473006802146, 8268148722764581231, 9286055187155687089, 11230858885718282805, 13951009754708518548, 16472876342353939154, 17275323862435702243, 1135362057144423861, 2597628984639134821, 3308224258029322869, 5365058923640841347, 6679025012923562964, 8573033837759648693, 10970295158949994411, 12119686244451234320, 12683024718118986047, 13788192230050041572, 14330467153632333762, 15395433587784984357, 489312712824947311, 1452737877330783856, 2861767655752347644, 3322285676063803686, 5560940570517711597, 5996557281743188959, 7280758554555802590, 8532644243296465576, 9350256976987008742, 10552545826968843579, 11727347734174303076, 12113106623233404929, 14000437183269869457, 14369950271660146224, 15101387698204529176, 15463397548674623760, 17586052441742319658, 1182934255886127544, 1847814050463011016, 2177327727835720531, 2830643537854262169, 3796741975233480872, 4115178125766777443, 5681478168544905931, 6601373596472566643, 7507060721942968483, 8399075790359081724, 8693463985226723168, 9568029438360202098, 10144078919501101548, 10430055236837252648, 11840083180663258601, 13761210420658862357, 14299343276471374635, 14566680578165727644, 15097957966210449927, 16922976911328602910, 17689382322260857208, 500013540394364858, 748580250866718886, 1242879168328830382, 1977374033974150939, 2944078676154940804, 3659926193048069267, 4368137639120453308, 4836135668995329356, 5532061633213252278, 6448918945643986474, 6902733635092675308, 7801388544844847127]
def FC (i : Nat) : Nat := FL.getD i 0
def KC (i : Nat) : Nat := KL.getD i 0
theorem FC_lt (i : Nat) : FC i < 2 ^ 64 := getD_lt _ (by decide) FL (by decide) i
theorem KC_lt (i : Nat) : KC i < 2 ^ 64 := getD_lt _ (by decide) KL (by decide) i
/-- Bytes, said by a list. -/
def msg (l : List Nat) : Nat → Nat := fun i => l.getD i 0
theorem msg_append_left (l m : List Nat) (i : Nat) (h : i < l.length) : msg (l ++ m) i = msg l i := by
  simp [msg, List.getElem?_append_left h]
theorem msg_append_right (l m : List Nat) (i : Nat) (h : l.length ≤ i) : msg (l ++ m) i = msg m (i - l.length) := by
  simp [msg, List.getElem?_append_right h]

end Go.Proofs.YtobaplndoaeoiaaDoor
namespace Go.Proofs.YtobaplndoaeoiaaDoor
open Go.RowKit

/-- L words that can be read, below block B. -/
structure RdW (w : World) (B : Nat) (a : Option Addr) (L : Nat) (g : Nat → Nat) : Prop where
  ex : 0 < L → ∃ tb o, a = some ⟨tb, o, none⟩ ∧ tb < B ∧ ∀ i, i < L → w.cell? ⟨tb, o + i, none⟩ = some (.int .u64 (g i))
theorem RdW.grown {w w' : World} {B : Nat} {a : Option Addr} {L : Nat} {g : Nat → Nat} (h : RdW w B a L g) {row : Option Nat} (hg : w.grownBy w' row) (hr : ∀ k, row = some k → B ≤ k) : RdW w' B a L g where
  ex := fun hL => by
    obtain ⟨tb, o, h1, h2, h3⟩ := h.ex hL
    exact ⟨tb, o, h1, h2, fun i hi => hg.cell (h3 i hi) (fun e => by have := hr tb e.symm; omega)⟩
theorem RdW.mono {w : World} {B B' : Nat} {a : Option Addr} {L : Nat} {g : Nat → Nat} (h : RdW w B a L g) (hB : B ≤ B') : RdW w B' a L g where
  ex := fun hL => by
    obtain ⟨tb, o, h1, h2, h3⟩ := h.ex hL
    exact ⟨tb, o, h1, by omega, h3⟩
theorem RdW.of_block {w w' : World} {B : Nat} {a : Option Addr} {L : Nat} {g : Nat → Nat} (h : RdW w B a L g) (e : ∀ k, k < B → w'.heap[k]? = w.heap[k]?) : RdW w' B a L g where
  ex := fun hL => by
    obtain ⟨tb, o, h1, h2, h3⟩ := h.ex hL
    exact ⟨tb, o, h1, h2, fun i hi => (World.cell?_of_block (a := ⟨tb, o + i, none⟩) (e tb h2)).trans (h3 i hi)⟩
theorem RdW.congr {w : World} {B : Nat} {a : Option Addr} {L : Nat} {g g' : Nat → Nat} (h : RdW w B a L g) (e : ∀ i, i < L → g i = g' i) : RdW w B a L g' where
  ex := fun hL => by
    obtain ⟨tb, o, h1, h2, h3⟩ := h.ex hL
    exact ⟨tb, o, h1, h2, fun i hi => by rw [← e i hi]; exact h3 i hi⟩
/-- n words as values. -/
def wsOf (n : Nat) (f : Nat → Nat) : List Value := (List.range n).map fun i => .int .u64 (f i)
theorem wsOf_length (n : Nat) (f : Nat → Nat) : (wsOf n f).length = n := by simp [wsOf]
theorem wsOf_get (n : Nat) (f : Nat → Nat) (i : Nat) (h : i < n) : (wsOf n f)[i]? = some (.int .u64 (f i)) := by simp [wsOf, h]
theorem wsOf_append (n m : Nat) (f g h : Nat → Nat) (h1 : ∀ i, i < n → h i = f i) (h2 : ∀ i, i < m → h (n + i) = g i) : wsOf n f ++ wsOf m g = wsOf (n + m) h := by
  apply List.ext_getElem
  · simp [wsOf]
  · intro i a b
    simp only [wsOf, List.getElem_append, List.length_map, List.length_range, List.getElem_map, List.getElem_range]
    have hi : i < n + m := by simpa [wsOf] using b
    by_cases e : i < n
    · simp [e, h1 i e]
    · have := h2 (i - n) (by omega)
      rw [show n + (i - n) = i by omega] at this
      simp [e, this]
theorem wsOf_oneCell (n : Nat) (f : Nat → Nat) : ∀ u ∈ wsOf n f, u.oneCell' = true := by
  intro u hu
  obtain ⟨i, _, rfl⟩ := List.mem_map.1 hu
  rfl

/-- The slice v owns n words, in a block from base on. -/
structure OwnW (w : World) (base : Nat) (v : Value) (n : Nat) (f : Nat → Nat) : Prop where
  row : w.ownsRow base 24 1 v n (wsOf n f)

theorem OwnW.nil (w : World) (base : Nat) (f : Nat → Nat) : OwnW w base (.slice none 0 0) 0 f := ⟨World.ownsRow_nil w base _ _⟩
theorem OwnW.congr {w : World} {base : Nat} {v : Value} {n : Nat} {f g : Nat → Nat} (h : OwnW w base v n f) (e : ∀ i, i < n → f i = g i) : OwnW w base v n g := by
  have : wsOf n f = wsOf n g := List.map_congr_left (fun i hi => by rw [e i (List.mem_range.1 hi)])
  exact ⟨by rw [← this]; exact h.row⟩
theorem OwnW.ex {w : World} {base : Nat} {v : Value} {n : Nat} {f : Nat → Nat} (h : OwnW w base v n f) : ∃ a c, v = .slice a n c ∧ n ≤ c ∧ RdW w w.heap.size a n f := by
  rcases h.row with ⟨_, ⟨rfl, rfl⟩ | ⟨g, cap, cur, rfl, hb, hr, hnc, hm, hcs, htk⟩⟩
  · exact ⟨none, 0, rfl, Nat.le_refl _, ⟨fun h => absurd h (by omega)⟩⟩
  · refine ⟨_, _, rfl, hnc, ⟨fun _ => ⟨g, 0, rfl, ?_, fun i hi => ?_⟩⟩⟩
    · by_cases hg : g < w.heap.size
      · exact hg
      · have h0 : w.heap[g]? = none := by simp; omega
        rw [h0] at hr; cases hr
    · rw [Nat.zero_add, cell_of_row _ _ _ _ _ _ hr]
      have h2 := wsOf_get n f i hi
      rw [← htk] at h2
      simp only [Nat.mul_one, List.getElem?_take, hi, if_true] at h2
      rw [← Array.getElem?_toList]; exact h2
theorem OwnW.grown {w w' : World} {base : Nat} {v : Value} {n : Nat} {f : Nat → Nat} (h : OwnW w base v n f) (g : w.grownBy w' none) : OwnW w' base v n f :=
  ⟨h.row.kept g (by cases hv : v.ownBlock <;> simp)⟩
/-- What is written by the call's own append is new. -/
theorem grown_ownW {w0 w w' : World} {v : Value} {n : Nat} {f : Nat → Nat} (h : w0.grownBy w none) (ho : OwnW w w0.heap.size v n f) (g : w.grownBy w' v.ownBlock) : w0.grownBy w' none := by
  cases hv : v.ownBlock with
  | none => rw [hv] at g; exact grown_trans h g
  | some b => rw [hv] at g; exact grown_new h g (ho.row.lt b hv).1

/-- What is handed back: n words of the call's own, or none. -/
structure GaveW (w : World) (n : Nat) (f : Nat → Nat) (e : Ending) (w' : World) : Prop where
  ex : ∃ v, e = .returned v ∧ OwnW w' w.heap.size v n f ∧ w.grownBy w' none

theorem info_u64 : (Tryd.prog.info? 24).map (fun i => (i.zero, i.size, i.bytes)) = some (some (.int .u64 0), 1, 8) := by kernel_rfl
theorem under_words : Tryd.prog.underlying 93 = some (.slice 24) := by kernel_rfl

/-- 'append(s, x...)' of words, s the call's own, x words that can be read. -/
theorem wpList_appW {ops : Array Oper} {rest : List Oper} {o : Oper} {a : Act} {w : World} {Q : Exit → Act → World → Prop} (hgd : o.guard = none) (s x : Operand)
    (ho : o.op = .call { callee := .builtin .append, args := #[s, x], argTypes := #[93, 93] })
    (base : Nat) (v : Value) (n : Nat) (f : Nat → Nat) (hs : a.eval s = v) (hown : OwnW w base v n f) (ad : Addr) (m c : Nat) (g : Nat → Nat) (hx : a.eval x = .slice (some ad) m c)
    (hnews : ∀ j, j < m → w.cell? (ad.add j) = some (.int .u64 (g j))) (h63 : n + m ≤ 2 ^ 44) (hbase : base ≤ w.heap.size)
    (h : ∀ v' w', OwnW w' base v' (n + m) (fun i => if i < n then f i else g (i - n)) → w.grownBy w' v.ownBlock → wpList Tryd.prog ops Q rest (a.put o.dst v') w') : wpList Tryd.prog ops Q (o :: rest) a w := by
  obtain ⟨i0, hi, hz, hsz, hby⟩ := info_parts info_u64
  refine wpList_append_own w hgd s x 93 ho base 24 i0 (.int .u64 0) 1 8 under_words hi hz hsz hby rfl (by decide) v n (wsOf n f) hs hown.row ad m c (wsOf m g) hx (by simp [wsOf]) (fun j u hj => ?_) (wsOf_oneCell m g)
    (by unfold maxLen; omega) (by omega) hbase (fun v' w' h1 h2 _ => h v' w' ⟨?_⟩ h2)
  · have hjm : j < m := by
      have := (List.getElem?_eq_some_iff.1 hj).1
      simpa [wsOf] using this
    rw [wsOf_get m g j hjm] at hj
    cases hj
    exact hnews j hjm
  · rw [wsOf_append n m f g (fun i => if i < n then f i else g (i - n)) (fun i hi => by simp [hi]) (fun i hi => by
      simp only [show ¬ (n + i < n) by omega, if_false, show n + i - n = i by omega])] at h1
    exact h1

/-- Block g holds n words, and room for cap of them. -/
structure OwnV (w : World) (g n cap : Nat) (f : Nat → Nat) : Prop where
  cell : ∀ i, i < n → w.cell? ⟨g, i, none⟩ = some (.int .u64 (f i))
  there : ∀ i, i < cap → (w.cell? ⟨g, i, none⟩).isSome = true
  free : ∀ i, w.frozen? ⟨g, i, none⟩ = false
  le : n ≤ cap
  lt : g < w.heap.size

theorem OwnV.of_block {w w' : World} {g n cap : Nat} {f : Nat → Nat} (h : OwnV w g n cap f) (e : w'.heap[g]? = w.heap[g]?) (hl : g < w'.heap.size) : OwnV w' g n cap f where
  cell := fun i hi => (World.cell?_of_block (a := ⟨g, i, none⟩) e).trans (h.cell i hi)
  there := fun i hi => by rw [World.cell?_of_block (a := ⟨g, i, none⟩) e]; exact h.there i hi
  free := fun i => (World.frozen?_of_block (a := ⟨g, i, none⟩) e).trans (h.free i)
  le := h.le
  lt := hl
theorem OwnV.grown {w w' : World} {g n cap : Nat} {f : Nat → Nat} (h : OwnV w g n cap f) {row : Option Nat} (e : w.grownBy w' row) (hr : some g ≠ row) : OwnV w' g n cap f :=
  h.of_block (e.block g h.lt hr) (Nat.lt_of_lt_of_le h.lt e.size)
theorem OwnV.congr {w : World} {g n cap : Nat} {f f' : Nat → Nat} (h : OwnV w g n cap f) (e : ∀ i, i < n → f i = f' i) : OwnV w g n cap f' :=
  { h with cell := fun i hi => by rw [← e i hi]; exact h.cell i hi }
theorem OwnV.rd {w : World} {g n cap : Nat} {f : Nat → Nat} (h : OwnV w g n cap f) : RdW w w.heap.size (some ⟨g, 0, none⟩) n f :=
  ⟨fun _ => ⟨g, 0, rfl, h.lt, fun i hi => by rw [Nat.zero_add]; exact h.cell i hi⟩⟩
theorem OwnV.set {w : World} {g n cap : Nat} {f : Nat → Nat} (h : OwnV w g n cap f) (i v : Nat) (hi : i < n) : OwnV (w.setCell ⟨g, i, none⟩ (.int .u64 v)) g n cap (upd f i v) where
  cell := fun j hj => by
    by_cases e : j = i
    · subst e; rw [upd_same]; exact World.cell?_setCell_same w _ _ (h.cell j hj)
    · rw [upd_other _ _ _ _ e]; exact cell_set (h.cell j hj) (ne_off (fun e' => e e'.symm))
  there := fun j hj => by
    by_cases e : j = i
    · subst e; rw [World.cell?_setCell_same w _ _ (h.cell j hi)]; rfl
    · rw [World.cell?_setCell_other _ _ _ _ (ne_off (fun e' => e e'.symm))]; exact h.there j hj
  free := fun j => by rw [World.frozen?_setCell]; exact h.free j
  le := h.le
  lt := by simpa [World.setCell] using h.lt
theorem ownV_empty (w : World) : OwnV (w.alloc (.cells #[] 24)) w.heap.size 0 0 (fun _ => 0) where
  cell := fun i hi => absurd hi (by omega)
  there := fun i hi => absurd hi (by omega)
  free := fun i => frozen_of_row _ _ _ _ _ (heap_alloc_new w (.cells #[] 24))
  le := Nat.le_refl _
  lt := by simp

/-- Bytes that can be read, as what is appended. -/
theorem src_words {w : World} {B : Nat} {a : Option Addr} {m : Nat} {f : Nat → Nat} (c : Nat) (h : RdW w B a m f) : Src Tryd.prog 1 93 (.slice a m c) m (wsOf m f) w := by
  cases a with
  | none =>
    have h0 : m = 0 := by
      by_cases e : 0 < m
      · obtain ⟨_, _, h1, _⟩ := h.ex e
        cases h1
      · omega
    subst h0
    exact Src.ofNil w under_words c
  | some ad =>
    refine Src.ofSlice w under_words ad m c (wsOf m f) (by simp [wsOf]) (fun j u hj => ?_) (wsOf_oneCell m f)
    have hj' : j < m := by
      have := (List.getElem?_eq_some_iff.1 hj).1
      simpa [wsOf] using this
    rw [wsOf_get m f j hj'] at hj
    cases hj
    obtain ⟨tb, o, h1, _, h3⟩ := h.ex (by omega)
    cases h1
    rw [Addr.add_mid]
    exact h3 j hj'

/-- What append leaves. -/
structure AppedW (w : World) (g n cap m : Nat) (f f' : Nat → Nat) (v : Value) (w' : World) : Prop where
  ex : ∃ g' cap', v = .slice (some ⟨g', 0, none⟩) (n + m) cap' ∧ OwnV w' g' (n + m) cap' (cat n f f') ∧ OwnV w' g n cap f ∧ w.grownBy w' (some g) ∧ (g' = g ∨ w.heap.size ≤ g')

theorem app_runW {w : World} {B g n cap m : Nat} {a : Option Addr} {f f' : Nat → Nat} (c : Nat) (ty : TypeId) (h : OwnV w g n cap f) (hx : RdW w B a m f') (hn : n + m ≤ 2 ^ 44) :
    ∃ v w', (Builtin.append_ #[93, 93] ty #[.slice (some ⟨g, 0, none⟩) n cap, .slice a m c]).run Tryd.prog w = .ok v w' ∧ AppedW w g n cap m f f' v w' := by
  obtain ⟨i0, hi, hz, hsz, hby⟩ := info_parts info_u64
  have hsrc := src_words c hx
  have hl : (wsOf m f').length = m := wsOf_length m f'
  rw [← hsz] at hsrc
  by_cases hroom : n + m ≤ cap
  · have hr := run_append_room_src w 93 93 ty 24 i0 under_words hi g 0 n cap (.slice a m c) m (wsOf m f') hsrc hroom
      (fun j hj => by rw [hsz, Nat.zero_add, Nat.mul_one]; exact h.there _ (by omega)) (fun j _ => h.free _)
    rw [hsz, Nat.zero_add, Nat.mul_one] at hr
    have hout : ∀ i, i < n → (w.setCells g n (wsOf m f')).cell? ⟨g, i, none⟩ = w.cell? ⟨g, i, none⟩ := fun i hi => World.cell?_setCells_out g _ _ w ⟨g, i, none⟩ (fun _ _ => Or.inl hi)
    have hin : ∀ j, j < m → (w.setCells g n (wsOf m f')).cell? ⟨g, n + j, none⟩ = some (.int .u64 (f' j)) := fun j hj => by
      have := World.cell?_setCells_in g (wsOf m f') n w (fun i hi => h.there _ (by omega)) j (by omega)
      rw [this]
      simp [wsOf]
    have hth : ∀ i, i < cap → ((w.setCells g n (wsOf m f')).cell? ⟨g, i, none⟩).isSome = true := fun i hi => by
      by_cases e : i < n
      · rw [hout i e]; exact h.there i hi
      · by_cases e2 : i < n + m
        · have := hin (i - n) (by omega)
          rw [show n + (i - n) = i by omega] at this
          rw [this]; rfl
        · rw [World.cell?_setCells_out g _ _ w ⟨g, i, none⟩ (fun _ _ => Or.inr (by rw [hl]; show n + m ≤ i; omega))]; exact h.there i hi
    have hfr : ∀ i, (w.setCells g n (wsOf m f')).frozen? ⟨g, i, none⟩ = false := fun i => by rw [World.frozen?_setCells]; exact h.free i
    have hg := grown_setCells g (Or.inr rfl) (wsOf m f') n w (grown_refl w (some g))
    have hlt := Nat.lt_of_lt_of_le h.lt hg.size
    refine ⟨_, _, hr, ⟨g, cap, rfl, ⟨fun i hi => ?_, hth, hfr, hroom, hlt⟩, ⟨fun i hi => (hout i hi).trans (h.cell i hi), hth, hfr, h.le, hlt⟩, hg, Or.inl rfl⟩⟩
    unfold cat
    by_cases e : i < n
    · rw [if_pos e, hout i e]; exact h.cell i e
    · have := hin (i - n) (by omega)
      rw [show n + (i - n) = i by omega] at this
      rw [if_neg e, this]
  · have hfit : Builtin.nextslicecap (n + m) cap * i0.bytes ≤ 281474976710656 := by
      rw [hby]
      have := nextslicecap_le (need := n + m) (old := cap) (by omega)
      omega
    have hr := run_append_grow_src w 93 93 ty 24 i0 (.int .u64 0) under_words hi hz (some ⟨g, 0, none⟩) n cap (wsOf n f)
      (by
        rw [hsz]
        refine run_firstCells_some w.drew 1 n ⟨g, 0, none⟩ n cap (wsOf n f) (by simp [wsOf]) (fun j u hj => ?_)
        have hj' : j < n := by
          have := (List.getElem?_eq_some_iff.1 hj).1
          simpa [wsOf] using this
        rw [wsOf_get n f j hj'] at hj
        cases hj
        rw [Addr.add_mid, Nat.zero_add]
        exact h.cell j hj')
      (.slice a m c) m (wsOf m f') hsrc (by omega) (by omega) hfit
    rw [wsOf_append n m f f' (cat n f f') (fun i hi => by simp [cat, hi]) (fun i hi => by
      unfold cat; rw [if_neg (by omega), show n + i - n = i by omega])] at hr
    have hcg := grownCap_ge w (n + m) cap 24
    generalize grownCap w (n + m) cap 24 = cap' at *
    have hb := heap_alloc_new w.drew (.cells ((wsOf (n + m) (cat n f f')).toArray ++ Builtin.zeroCells (Value.cells (.int .u64 0)) (cap' - (n + m))) 24)
    have hg := grown_alloc (grown_drew (grown_refl w (some g))) (.cells ((wsOf (n + m) (cat n f f')).toArray ++ Builtin.zeroCells (Value.cells (.int .u64 0)) (cap' - (n + m))) 24)
    have hb' : w.drew.heap.size = w.heap.size := rfl
    rw [hb'] at hb
    have hg0 := grown_alloc (grown_drew (grown_refl w none)) (.cells ((wsOf (n + m) (cat n f f')).toArray ++ Builtin.zeroCells (Value.cells (.int .u64 0)) (cap' - (n + m))) 24)
    refine ⟨_, _, hr, ⟨w.heap.size, cap', rfl, ⟨fun i hi => ?_, fun i hi => ?_, fun i => frozen_of_row _ _ _ _ _ hb, hcg, by simp [hb']⟩, h.grown hg0 (by simp), hg, Or.inr (Nat.le_refl _)⟩⟩
    · rw [cell_of_row _ _ _ _ _ _ hb, Array.getElem?_append_left (by simpa [wsOf] using hi)]
      simpa using wsOf_get (n + m) (cat n f f') i hi
    · rw [cell_of_row _ _ _ _ _ _ hb, Array.getElem?_eq_getElem (by
        rw [Array.size_append, size_zeroCells]
        simp [wsOf, Value.cells]; omega)]
      rfl

theorem OwnW.toV {w : World} {base : Nat} {v : Value} {n : Nat} {f : Nat → Nat} (h : OwnW w base v n f) (hn : 0 < n) : ∃ g cap, v = .slice (some ⟨g, 0, none⟩) n cap ∧ OwnV w g n cap f ∧ base ≤ g := by
  rcases h.row with ⟨_, ⟨rfl, rfl⟩ | ⟨g, cap, cur, rfl, hb, hr, hnc, hm, hcs, htk⟩⟩
  · omega
  · refine ⟨g, cap, rfl, ⟨fun i hi => ?_, fun i hi => ?_, fun i => frozen_of_row _ _ _ _ _ hr, hnc, ?_⟩, hb⟩
    · rw [cell_of_row _ _ _ _ _ _ hr]
      have h2 := wsOf_get n f i hi
      rw [← htk] at h2
      simp only [Nat.mul_one, List.getElem?_take, hi, if_true] at h2
      rw [← Array.getElem?_toList]; exact h2
    · rw [cell_of_row _ _ _ _ _ _ hr, Array.getElem?_eq_getElem (by omega)]; rfl
    · by_cases hg : g < w.heap.size
      · exact hg
      · have h0 : w.heap[g]? = none := by simp; omega
        rw [h0] at hr; cases hr

/-- 'append' whose run is known, as a step of a region that draws its order. -/
theorem step_append_runW {Q0 : Program} {ops : Array Oper} {o : Oper} {a : Act} {w : World} {K : Act → World → Prop} {Q : Exit → Act → World → Prop} {E : Prop} (hgd : o.guard = none) (s x : Operand) (t t' : TypeId)
    (ho : o.op = .call { callee := .builtin .append, args := #[s, x], argTypes := #[t, t'] }) (vs vx v : Value) (w' : World) (hs : a.eval s = vs) (hx : a.eval x = vx)
    (hrun : (Builtin.append_ #[t, t'] o.type #[vs, vx]).run Q0 w = .ok v w') (h : K (a.put o.dst v) w') :
    if Region.wanted o (yielded ops a.tmps) = true then Oper.wp Q0 o a w K Q else E := by
  have hw : Region.wanted o (yielded ops a.tmps) = true := by simp [Region.wanted, hgd]
  rw [if_pos hw]
  unfold Oper.wp
  simp [execOp, ho, resolve, invoke, builtin, hs, hx, hrun, Result.andThen]
  exact h

end Go.Proofs.YtobaplndoaeoiaaDoor
namespace Go.Proofs.YtobaplndoaeoiaaDoor
open Go.RowKit

set_option maxRecDepth 100000
set_option maxHeartbeats 1000000

/-- Words of a new block. -/
structure GaveH (w : World) (n : Nat) (f : Nat → Nat) (e : Ending) (w' : World) : Prop where
  ex : ∃ r, e = .returned (.slice (some ⟨r, 0, none⟩) n n) ∧ w.heap.size ≤ r ∧ Holds w' r 24 .u64 n f ∧ w.grownBy w' none

theorem First_any (w : World) : Calls Tryd.prog 47 #[] w (GaveH w 8 FC) := by
  have hH := fun C e => holds_alloc w 24 .u64 8 FC C e
  have HH := Lib.hid hH
  clear hH
  go_enter Tryd.func47, Tryd.ntmps47
  go_wp2_with fail
  go_ret
  exact ⟨_, rfl, Nat.le_refl _, HH.out _ (by kernel_rfl), World.grownBy_alloc w _ none⟩

theorem Constants_any (w : World) : Calls Tryd.prog 48 #[] w (GaveH w 80 KC) := by
  have hH := fun C e => holds_alloc w 24 .u64 80 KC C e
  have HH := Lib.hid hH
  clear hH
  go_enter Tryd.func48, Tryd.ntmps48
  go_wp2_with fail
  go_ret
  exact ⟨_, rfl, Nat.le_refl _, HH.out _ (by kernel_rfl), World.grownBy_alloc w _ none⟩

end Go.Proofs.YtobaplndoaeoiaaDoor
namespace Go.Proofs.YtobaplndoaeoiaaDoor
open Go.RowKit

set_option maxRecDepth 100000
set_option maxHeartbeats 1000000

theorem pad_last32 (N : Nat) : 64 * padBlocks 32 N ≥ N + 8 + 1 ∧ 64 * padBlocks 32 N ≤ N + 8 + 64 := by
  unfold padBlocks
  omega

/-- Another append to what the call has made itself. -/
theorem app_next32 {w0 w : World} {B g n cap m : Nat} {a : Option Addr} {f f' : Nat → Nat} (c : Nat) (ty : TypeId) (h0 : w0.grownBy w none) (hg : w0.heap.size ≤ g) (h : OwnR w g n cap f) (hx : Rd w B a m f') (hn : n + m ≤ 2 ^ 46) :
    ∃ g' cap' w', (Builtin.append_ #[23, 23] ty #[.slice (some ⟨g, 0, none⟩) n cap, .slice a m c]).run Tryd.prog w = .ok (.slice (some ⟨g', 0, none⟩) (n + m) cap') w' ∧ OwnR w' g' (n + m) cap' (cat n f f') ∧ w0.grownBy w' none ∧ w0.heap.size ≤ g' := by
  obtain ⟨v, w', hr, ⟨g', cap', rfl, h1, _, h3, h4⟩⟩ := app_run c ty h hx hn
  refine ⟨g', cap', w', hr, h1, grown_new h0 h3 hg, ?_⟩
  have := h0.size
  omega

theorem padded_zero32 (g : Nat → Nat) (N k : Nat) (h1 : N < k) (h2 : k < 64 * padBlocks 32 N - 8) : padded 32 g N k = 0 := by
  unfold padded
  rw [if_neg (by omega), if_neg (by omega), if_pos (by show k < padBlocks 32 N * 64 - 8; omega)]
theorem padded_end32 (g : Nat → Nat) (N j : Nat) (hN : N < 2 ^ 60) (hj : j < 8) : padded 32 g N (64 * padBlocks 32 N - 8 + j) = 8 * N / 256 ^ (8 - 1 - j) % 256 := by
  have := pad_last32 N
  unfold padded
  rw [if_neg (by omega), if_neg (by omega)]
  have e : padBlocks 32 N * (16 * (32 / 8)) = 64 * padBlocks 32 N := by omega
  rw [e]
  by_cases h : 64 * padBlocks 32 N - 8 + j < 64 * padBlocks 32 N - 8
  · rw [if_pos h]
    have h8 : 256 ^ 8 ≤ 256 ^ (8 - 1 - j) := Nat.pow_le_pow_right (by decide) (by omega)
    rw [Nat.div_eq_of_lt (by omega)]
  · rw [if_neg h, show 64 * padBlocks 32 N - 1 - (64 * padBlocks 32 N - 8 + j) = 8 - 1 - j by omega]

/-- Bytes that the call has made itself. -/
structure GaveR32 (w : World) (n : Nat) (f : Nat → Nat) (e : Ending) (w' : World) : Prop where
  ex : ∃ r cap, e = .returned (.slice (some ⟨r, 0, none⟩) n cap) ∧ OwnR w' r n cap f ∧ w.grownBy w' none ∧ w.heap.size ≤ r

theorem rpad32 (N c : Nat) (a : Option Addr) (g : Nat → Nat) (w : World) (hR : Rd w w.heap.size a N g) (hN : N ≤ 2 ^ 40) :
    Calls Tryd.prog 50 #[.slice a N c, .int .i64 32] w (GaveR32 w (64 * padBlocks 32 N) (padded 32 g N)) := by
  have hpl := pad_last32 N
  have ga := World.grownBy_alloc w (.cells #[] 5) none
  obtain ⟨g1, cap1, w1, hap1, ho1, hg1, hb1⟩ := app_next32 (w0 := w) c 23 ga (Nat.le_refl _) (ownR_empty w) (hR.up (Nat.le_refl _) ga) (by omega)
  have gb := World.grownBy_alloc w1 (.cells #[.int .u8 128] 5) none
  have bb := heap_alloc_new w1 (.cells #[.int .u8 128] 5)
  have hR1 : Rd (w1.alloc (.cells #[.int .u8 128] 5)) (w1.heap.size + 1) (some ⟨w1.heap.size, 0, none⟩) 1 (fun _ => 128) := ⟨fun _ => ⟨w1.heap.size, 0, rfl, by omega, fun i hi => by
    obtain rfl : i = 0 := by omega
    rw [cell_of_row _ _ _ _ _ _ bb]; rfl⟩⟩
  obtain ⟨g2, cap2, w2, hap2, ho2, hg2, hb2⟩ := app_next32 (w0 := w) 1 23 (grown_trans hg1 gb) hb1 (ho1.grown gb (by simp)) hR1 (by omega)
  rw [Nat.zero_add] at hap1 hap2 ho2
  have ho2' : OwnR w2 g2 (N + 1) cap2 (padded 32 g N) := ho2.congr (fun i hi => by
    unfold cat padded
    by_cases e : i < N
    · rw [if_pos e, if_pos e, if_neg (by omega), Nat.sub_zero]
    · rw [if_neg e, if_neg e, if_pos (by omega)])
  obtain ⟨len8, hlen8⟩ : ∃ x, x = 8 * N := ⟨_, rfl⟩
  have eN : IntKind.u64.wrap (N : Int) = (N : Int) := by rw [IntKind.wrap_u64]; omega
  have eN8 : IntKind.u64.wrap (8 * (N : Int)) = (len8 : Int) := by rw [IntKind.wrap_u64]; omega
  have HAP1 := Lib.hid hap1
  have HAP2 := Lib.hid hap2
  have Hg2 := Lib.hid hg2
  have Hb2 := Lib.hid hb2
  have Ho2 := Lib.hid ho2'
  have Hpl := Lib.hid hpl
  have Hl8 := Lib.hid hlen8
  have i1 : (N : Int) ≤ 1099511627776 := by omega
  clear hap1 hap2 hg2 hb2 ho2' ho2 hR1 bb gb ho1 hg1 hb1 ga hpl hlen8
  go_enter Tryd.func50, Tryd.ntmps50
  go_wp2_with (first
    | (at_builtin; refine wpList_append_run rfl (.tmp 9) (.tmp 10) 23 23 rfl (.slice (some ⟨w.heap.size, 0, none⟩) 0 0) (.slice a N c) _ _ rfl rfl HAP1.out ?_)
    | (at_builtin; refine wpList_append_run rfl (.tmp 11) (.tmp 12) 23 23 rfl (.slice (some ⟨g1, 0, none⟩) N cap1) (.slice (some ⟨w1.heap.size, 0, none⟩) 1 1) _ _ rfl rfl HAP2.out ?_))
  go_loopw [5] (fun u5 wr => ∃ k g' cap', u5 = .slice (some ⟨g', 0, none⟩) k cap' ∧ N < k ∧ k ≤ 64 * padBlocks 32 N - 8 ∧ OwnR wr g' k cap' (padded 32 g N) ∧ w.grownBy wr none ∧ w.heap.size ≤ g')
    (fun u5 _ => match u5 with | .slice _ k _ => 64 * padBlocks 32 N - k | _ => 0)
  case atStart => exact ⟨N + 1, g2, cap2, rfl, by omega, by have := Hpl.out; omega, Ho2.out, Hg2.out, Hb2.out⟩
  case round =>
    obtain ⟨k, g', cap', rfl, hk1, hk2, hor, hgr, hgb⟩ := hrel
    have hpl := Hpl.out
    by_cases hlt : k < 64 * padBlocks 32 N - 8
    · have hne : ((k : Int) % 64 != 56) = true := by rw [bne_iff_ne]; omega
      have gb := World.grownBy_alloc wr (.cells #[.int .u8 0] 5) none
      have bb := heap_alloc_new wr (.cells #[.int .u8 0] 5)
      have hR1 : Rd (wr.alloc (.cells #[.int .u8 0] 5)) (wr.heap.size + 1) (some ⟨wr.heap.size, 0, none⟩) 1 (fun _ => 0) := ⟨fun _ => ⟨wr.heap.size, 0, rfl, by omega, fun i hi => by
        obtain rfl : i = 0 := by omega
        rw [cell_of_row _ _ _ _ _ _ bb]; rfl⟩⟩
      obtain ⟨g3, cap3, w3, hap3, ho3, hg3, hb3⟩ := app_next32 (w0 := w) 1 23 (grown_trans hgr gb) hgb (hor.grown gb (by simp)) hR1 (by omega)
      have ho3' : OwnR w3 g3 (k + 1) cap3 (padded 32 g N) := ho3.congr (fun i hi => by
        unfold cat
        by_cases e : i < k
        · rw [if_pos e]
        · obtain rfl : i = k := by omega
          rw [if_neg e, padded_zero32 g N i hk1 hlt])
      have HAP3 := Lib.hid hap3
      have Hlt := Lib.hid hlt
      clear hap3 ho3 hR1 bb gb hpl hlt
      go_wp2_with (at_builtin; refine wpList_append_run rfl (.tmp 25) (.tmp 26) 23 23 rfl (.slice (some ⟨g', 0, none⟩) k cap') (.slice (some ⟨wr.heap.size, 0, none⟩) 1 1) _ _ rfl rfl HAP3.out ?_)
      exact ⟨⟨k + 1, g3, cap3, rfl, by omega, by have := Hlt.out; omega, ho3', hg3, hb3⟩, by have := Hlt.out; show 64 * padBlocks 32 N - (k + 1) < 64 * padBlocks 32 N - k; omega⟩
    · have hE : k = 64 * padBlocks 32 N - 8 := by omega
      have hne : ((k : Int) % 64 != 56) = false := by rw [bne_eq_false_iff_eq]; omega
      obtain ⟨mc, hmk, hFm⟩ := make32 8 (by decide) wr
      have hmk' : (Instr.makeSlice 23 (.int .i64 8) (.int .i64 8)).run Tryd.prog wr = .ok (.slice (some ⟨wr.heap.size, 0, none⟩) 8 8) (wr.alloc (.cells mc 5)) := hmk
      have ga := World.grownBy_alloc wr (.cells mc 5) none
      have ho4 := hor.grown ga (by simp)
      have g4 := grown_trans hgr ga
      have hge := hor.lt
      generalize hen : wr.heap.size = en at *
      have Hen := Lib.hid hen
      have HE := Lib.hid hE
      have gw := hgr.size
      clear hE hlt hpl hmk hen ga hor hgr hk1 hk2
      go_wp2_with fail
      generalize wr.alloc (.cells mc 5) = w4 at *
      clear hmk' hne
      go_loopw [7, 8] (fun u7 u8 wq => ∃ (s nt : Nat), s ≤ 8 ∧ u8 = .int .i64 ((s : Int) - 1) ∧ u7 = .int .u64 (nt : Nat) ∧ Hid (nt = len8 / 256 ^ (8 - s)) ∧ Fill wq en 8 (fun j => if s ≤ j then len8 / 256 ^ (8 - 1 - j) % 256 else 0) ∧ OwnR wq g' k cap' (padded 32 g N) ∧ w.grownBy wq none)
        (fun _ u8 _ => (intOf u8 + 1).toNat)
      case atStart => exact ⟨8, len8, by omega, rfl, rfl, Lib.hid (by simp), ⟨fun j hj => by rw [hFm.cell j hj, if_neg (by omega)], hFm.free⟩, ho4, g4⟩
      case round =>
        obtain ⟨s, nt, hs, rfl, rfl, hnt, hFq, hoq, hgq⟩ := hrel
        clear hFm ho4 g4
        by_cases hs0 : s = 0
        · have HS := Lib.hid hs0
          have hs1 : (s : Int) - 1 < 0 := by omega
          clear hs0 hs
          have hFend : Rd wr wr.heap.size (some ⟨en, 0, none⟩) 8 (fun j => len8 / 256 ^ (8 - 1 - j) % 256) := ⟨fun _ => ⟨en, 0, rfl, hFq.lt (by decide), fun j hj => by
            rw [Nat.zero_add, hFq.cell j hj, if_pos (by rw [HS.out]; omega)]⟩⟩
          obtain ⟨g5, cap5, w5, hap5, ho5, hg5, hb5⟩ := app_next32 (w0 := w) 8 23 hgq hgb hoq hFend (by have := HE.out; have := Hpl.out; omega)
          have ho5' : OwnR w5 g5 (64 * padBlocks 32 N) cap5 (padded 32 g N) := by
            have h1 := HE.out
            have h2 := Hpl.out
            have e1 : 64 * padBlocks 32 N = k + 8 := by omega
            rw [e1]
            refine ho5.congr (fun i hi => ?_)
            unfold cat
            by_cases e : i < k
            · rw [if_pos e]
            · rw [if_neg e]
              have := padded_end32 g N (i - k) (by omega) (by omega)
              rw [← h1, show k + (i - k) = i by omega] at this
              rw [this, Hl8.out]
          have HAP5 := Lib.hid hap5
          have hk5 : k + 8 = 64 * padBlocks 32 N := by have h1 := HE.out; have h2 := Hpl.out; omega
          have HK5 := Lib.hid hk5
          clear hap5 hFend ho5 hk5
          go_wp2_with (at_builtin; refine wpList_append_run rfl (.tmp 50) (.tmp 51) 23 23 rfl (.slice (some ⟨g', 0, none⟩) k cap') (.slice (some ⟨en, 0, none⟩) 8 8) _ _ rfl rfl HAP5.out ?_)
          go_ret
          exact ⟨g5, cap5, by rw [← HK5.out]; rfl, ho5', hg5, hb5⟩
        · obtain ⟨j, rfl⟩ : ∃ j, s = j + 1 := ⟨s - 1, by omega⟩
          have e1 : ((j + 1 : Nat) : Int) - 1 = (j : Int) := by omega
          rw [e1]
          have hj : j < 8 := by omega
          have ij : (j : Int) < 8 := by omega
          have cj : (wr.cell? ⟨en, j, none⟩) = some (.int .u8 ((if j + 1 ≤ j then len8 / 256 ^ (8 - 1 - j) % 256 else 0 : Nat) : Int)) := hFq.cell j hj
          rw [if_neg (by omega)] at cj
          have fj := hFq.free j
          obtain ⟨v, hv⟩ : ∃ v, v = nt % 256 := ⟨_, rfl⟩
          obtain ⟨m, hm⟩ : ∃ v, v = nt / 256 := ⟨_, rfl⟩
          have ev : (nt : Int) % 256 = (v : Int) := by omega
          have ev2 : IntKind.u8.wrap (v : Int) = (v : Int) := by rw [IntKind.wrap_u8]; omega
          have em : (nt : Int) / 256 = (m : Int) := by omega
          have hnl : nt < 2 ^ 64 := by
            rw [hnt.out]
            have := Hl8.out
            exact Nat.lt_of_le_of_lt (Nat.div_le_self _ _) (by omega)
          have em2 : IntKind.u64.wrap (m : Int) = (m : Int) := by rw [IntKind.wrap_u64]; omega
          have Hv : Hid (v = len8 / 256 ^ (8 - 1 - j) % 256) := Lib.hid (by rw [hv, hnt.out, show 8 - (j + 1) = 8 - 1 - j by omega])
          have Hm : Hid (m = len8 / 256 ^ (8 - j)) := Lib.hid (by rw [hm, hnt.out, Nat.div_div_eq_div_mul, ← Nat.pow_succ]; congr 2; omega)
          have F5 := hFq.set j v hj
          have O5 : OwnR (wr.setCell ⟨en, j, none⟩ (.int .u8 (v : Nat))) g' k cap' (padded 32 g N) := hoq.of_block (heap_setCell_other wr _ g' _ (by show g' ≠ en; omega)) (by simpa [World.setCell] using hoq.lt)
          have G5 := grown_setCell_new hgq ⟨en, j, none⟩ (.int .u8 (v : Nat)) (Or.inl (by rw [← Hen.out]; exact gw))
          clear hnl hv hm e1 hs hs0
          go_wp2_with fail
          refine ⟨⟨j, m, by omega, rfl, rfl, Hm, ⟨fun i hi => ?_, F5.free⟩, O5, G5⟩, by simp [intOf]⟩
          rw [F5.cell i hi]
          by_cases e : i = j
          · subst e; rw [upd_same, if_pos (Nat.le_refl _), Hv.out]
          · rw [upd_other _ _ _ _ e]
            by_cases e2 : j ≤ i
            · rw [if_pos e2, if_pos (by omega)]
            · rw [if_neg e2, if_neg (by omega)]

end Go.Proofs.YtobaplndoaeoiaaDoor
namespace Go.Proofs.YtobaplndoaeoiaaDoor
open Go.RowKit

set_option maxRecDepth 100000
set_option maxHeartbeats 1000000

theorem power_any (x : Int) (n P : Nat) (hx : x = n) (hn : n < 64) (hP : P = 2 ^ n) (w : World) : Calls Tryd.prog 49 #[.int .i64 x] w fun e w' => e = .returned (.int .u64 P) ∧ w = w' := by
  subst hx
  have HP := Lib.hid hP
  clear hP
  go_enter Tryd.func49, Tryd.ntmps49
  go_wp2_with fail
  go_loop [3, 4] (fun u3 u4 => ∃ (k p : Nat), k ≤ n ∧ u4 = .int .i64 k ∧ u3 = .int .u64 p ∧ Hid (p = 2 ^ k)) (fun _ u4 => n - (intOf u4).toNat)
  case atStart => exact ⟨0, 1, by omega, rfl, rfl, rfl⟩
  case round =>
    obtain ⟨k, p, hk, rfl, rfl, hp⟩ := hrel
    by_cases hlt : k < n
    · have i1 : (k : Int) < n := by omega
      have hb : p ≤ 2 ^ 62 := by rw [hp.out]; exact Nat.pow_le_pow_right (by decide) (by omega)
      have e1 : IntKind.u64.wrap (2 * (p : Int)) = ((2 * p : Nat) : Int) := by rw [IntKind.wrap_u64]; omega
      have HB := Lib.hid hb
      clear hb
      go_wp2_with fail
      refine ⟨⟨k + 1, 2 * p, by omega, by go_num, by go_num, Lib.hid (by rw [hp.out, Nat.pow_succ, Nat.mul_comm])⟩, by simp [intOf]; omega⟩
    · have hE : k = n := by omega
      have i1 : (n : Int) ≤ k := by omega
      have HE := Lib.hid hE
      clear hE hlt hk
      go_wp2_with fail
      go_ret
      have e : p = P := by rw [hp.out, HE.out, HP.out]
      exact ⟨by rw [← e]; rfl, rfl⟩

theorem or_add (a c n : Nat) (hc : c < 2 ^ n) : a * 2 ^ n ||| c = a * 2 ^ n + c := by
  have := Nat.shiftLeft_add_eq_or_of_lt (b := c) (i := n) hc a
  rw [Nat.shiftLeft_eq] at this
  exact this.symm

/-- To the right, round about, by a quotient and what is left. -/
theorem rotr_add (b x n : Nat) (hx : x < 2 ^ b) (hn : n ≤ b) : x / 2 ^ n + x * 2 ^ (b - n) % 2 ^ b = rotr b x n := by
  have e1 : 2 ^ b = 2 ^ n * 2 ^ (b - n) := by rw [← Nat.pow_add]; congr 1; omega
  have e2 : x * 2 ^ (b - n) % 2 ^ b = x % 2 ^ n * 2 ^ (b - n) := by rw [e1, Nat.mul_mod_mul_right]
  have h1 : x / 2 ^ n < 2 ^ (b - n) := by
    rw [Nat.div_lt_iff_lt_mul (Nat.two_pow_pos n), Nat.mul_comm, ← e1]; exact hx
  unfold rotr
  rw [e2, Nat.or_comm, or_add _ _ _ h1, Nat.add_comm]

end Go.Proofs.YtobaplndoaeoiaaDoor
namespace Go.Proofs.YtobaplndoaeoiaaDoor
open Go.RowKit

set_option maxRecDepth 100000
set_option maxHeartbeats 400000

theorem cut32 (x y : Nat) (hx : x < 2 ^ 64) (hy : y = x % 2 ^ 32) (w : World) : Calls Tryd.prog 51 #[.int .u64 x, .int .i64 32] w fun e w' => e = .returned (.int .u64 y) ∧ w = w' := by
  have hx' := Lib.hid hx
  have hy' := Lib.hid hy
  clear hx hy
  go_enter Tryd.func51, Tryd.ntmps51
  go_wp2_with (go_at_call 49; refine (power_any _ 32 (2 ^ 32) rfl (by decide) rfl _).mono ?_; rintro e w' ⟨rfl, rfl⟩)
  go_ret
  have h1 := hx'.out
  have h2 := hy'.out
  exact ⟨ret_int (k := .u64) (by omega), rfl⟩

theorem turn32 (x n r : Nat) (N : Int) (hN : N = n) (hx : x < 2 ^ 32) (h1 : 1 ≤ n) (h2 : n < 32) (hr : r = rotr 32 x n) (w : World) :
    Calls Tryd.prog 69 #[.int .u64 x, .int .i64 N, .int .i64 32] w fun e w' => e = .returned (.int .u64 r) ∧ ∃ m, w' = w.drewN m := by
  subst hN
  obtain ⟨p1, hp1⟩ : ∃ p, p = 2 ^ n := ⟨_, rfl⟩
  obtain ⟨p2, hp2⟩ : ∃ p, p = 2 ^ (32 - n) := ⟨_, rfl⟩
  obtain ⟨q, hq⟩ : ∃ q, q = x / p1 := ⟨_, rfl⟩
  obtain ⟨y, hy⟩ : ∃ y, y = x * p2 % 2 ^ 64 := ⟨_, rfl⟩
  obtain ⟨c, hc⟩ : ∃ c, c = y % 2 ^ 32 := ⟨_, rfl⟩
  have hp0 : 0 < p1 := by rw [hp1]; exact Nat.two_pow_pos n
  have hrc : r = q + c := by
    rw [hr, ← rotr_add 32 x n hx (by omega), hc, hy, hq, hp1, hp2]
    congr 1
    omega
  have hrl : r < 2 ^ 32 := by rw [hr]; exact rotr_lt 32 x n hx
  have e1 : IntKind.i64.wrap (32 - (n : Int)) = (32 : Int) - n := by rw [IntKind.wrap_i64]; omega
  have e2 : IntKind.u64.wrap ((x : Int) * (p2 : Int)) = (y : Int) := by rw [← Int.natCast_mul, IntKind.wrap_u64, hy]; omega
  have e3 : IntKind.u64.wrap ((q : Int) + (c : Int)) = (r : Int) := by rw [IntKind.wrap_u64]; omega
  have e4 : (x : Int).tdiv (p1 : Int) = (q : Int) := by rw [hq, Int.tdiv_eq_ediv_of_nonneg (by omega)]; norm_cast
  have e5 : (p1 : Int) ≠ 0 := by omega
  have e7 : IntKind.u64.wrap (q : Int) = (q : Int) := by rw [IntKind.wrap_u64]; omega
  have e6 : (0 : Int) < p1 := by omega
  have HP1 := Lib.hid hp1
  have HP2 := Lib.hid hp2
  have HC := Lib.hid hc
  have Hyl : Hid (y < 2 ^ 64) := Lib.hid (by rw [hy]; exact Nat.mod_lt _ (by decide))
  have H2 := Lib.hid h2
  clear hp1 hp2 hq hy hc hr hrc hrl hx hp0 h2
  have q1 : Hid (∀ W : World, Calls Tryd.prog 49 #[.int .i64 (n : Int)] W fun e w' => e = .returned (.int .u64 p1) ∧ w' = W) :=
    Lib.hid fun W => (power_any _ n p1 rfl (by have := H2.out; omega) HP1.out W).mono fun _ _ h => ⟨h.1, h.2.symm⟩
  have q2 : Hid (∀ W : World, Calls Tryd.prog 49 #[.int .i64 (32 - (n : Int))] W fun e w' => e = .returned (.int .u64 p2) ∧ w' = W) :=
    Lib.hid fun W => (power_any _ (32 - n) p2 (by have := H2.out; omega) (by have := H2.out; omega) HP2.out W).mono fun _ _ h => ⟨h.1, h.2.symm⟩
  have q3 : Hid (∀ W : World, Calls Tryd.prog 51 #[.int .u64 (y : Int), .int .i64 32] W fun e w' => e = .returned (.int .u64 c) ∧ w' = W) :=
    Lib.hid fun W => (cut32 y c Hyl.out HC.out W).mono fun _ _ h => ⟨h.1, h.2.symm⟩
  go_enter Tryd.func69, Tryd.ntmps69
  go_wp2_with fail
  go_quiet ((first
    | (go_at_call 49; with_reducible exact Calls.quiet_of_same (q1.out _))
    | (go_at_call 49; with_reducible exact Calls.quiet_of_same (q2.out _))
    | (go_at_call 51; with_reducible exact Calls.quiet_of_same (q3.out _))))
  go_wp2_with fail
  go_ret
  exact ⟨rfl, nq, rfl⟩

/-- Three words, exclusive-or. -/
theorem xor3_32 (r1 r2 r3 r : Nat) (h1 : r1 < 2 ^ 64) (h2 : r2 < 2 ^ 64) (h3 : r3 < 2 ^ 64) (hr : r = r1 ^^^ r2 ^^^ r3) : bits .xor .u64 (bits .xor .u64 (r1 : Int) (r2 : Int)) (r3 : Int) = (r : Int) := by
  rw [bits_xor_u64 _ _ h1 h2, bits_xor_u64 _ _ (Nat.xor_lt_two_pow h1 h2) h3, hr]

theorem mixT32 (x a b' c r : Nat) (A B C : Int) (hA : A = a) (hB : B = b') (hC : C = c) (hx : x < 2 ^ 32) (ha : 1 ≤ a ∧ a < 32) (hb : 1 ≤ b' ∧ b' < 32) (hc : 1 ≤ c ∧ c < 32) (hr : r = turned 32 x a b' c) (w : World) :
    Calls Tryd.prog 62 #[.int .u64 x, .int .i64 A, .int .i64 B, .int .i64 C, .int .i64 32, .bool false] w fun e w' => e = .returned (.int .u64 r) ∧ ∃ m, w' = w.drewN m := by
  subst hA hB hC
  obtain ⟨r1, hr1⟩ : ∃ r1, r1 = rotr 32 x a := ⟨_, rfl⟩
  obtain ⟨r2, hr2⟩ : ∃ r1, r1 = rotr 32 x b' := ⟨_, rfl⟩
  obtain ⟨r3, hr3⟩ : ∃ r1, r1 = rotr 32 x c := ⟨_, rfl⟩
  have l1 : r1 < 2 ^ 32 := by rw [hr1]; exact rotr_lt 32 x a hx
  have l2 : r2 < 2 ^ 32 := by rw [hr2]; exact rotr_lt 32 x b' hx
  have l3 : r3 < 2 ^ 32 := by rw [hr3]; exact rotr_lt 32 x c hx
  have ex := xor3_32 r1 r2 r3 r (by omega) (by omega) (by omega) (by rw [hr, hr1, hr2, hr3]; rfl)
  obtain ⟨p, hp⟩ : ∃ p, p = 2 ^ c := ⟨_, rfl⟩
  have hp0 : 0 < p := by rw [hp]; exact Nat.two_pow_pos c
  have e6 : (0 : Int) < p := by omega
  have qp : Hid (∀ W : World, Calls Tryd.prog 49 #[.int .i64 (c : Int)] W fun e w' => e = .returned (.int .u64 p) ∧ W = w') := Lib.hid fun W => power_any _ c p rfl (by omega) hp W
  have q1 : Hid (∀ W : World, Calls Tryd.prog 69 #[.int .u64 x, .int .i64 (a : Int), .int .i64 32] W fun e w' => e = .returned (.int .u64 r1) ∧ ∃ m, w' = W.drewN m) := Lib.hid fun W => turn32 x a r1 _ rfl hx ha.1 ha.2 hr1 W
  have q2 : Hid (∀ W : World, Calls Tryd.prog 69 #[.int .u64 x, .int .i64 (b' : Int), .int .i64 32] W fun e w' => e = .returned (.int .u64 r2) ∧ ∃ m, w' = W.drewN m) := Lib.hid fun W => turn32 x b' r2 _ rfl hx hb.1 hb.2 hr2 W
  have q3 : Hid (∀ W : World, Calls Tryd.prog 69 #[.int .u64 x, .int .i64 (c : Int), .int .i64 32] W fun e w' => e = .returned (.int .u64 r3) ∧ ∃ m, w' = W.drewN m) := Lib.hid fun W => turn32 x c r3 _ rfl hx hc.1 hc.2 hr3 W
  clear hr1 hr2 hr3 l1 l2 l3 hp hp0 hx ha hb hc hr
  go_enter Tryd.func62, Tryd.ntmps62
  go_wp2_with fail
  go_at_call 49
  with_reducible refine (qp.out _).mono ?_
  rintro e w' ⟨rfl, rfl⟩
  go_wp2_with fail
  go_at_call 69
  with_reducible refine (q3.out _).mono ?_
  rintro e w' ⟨rfl, m3, rfl⟩
  go_wp2_with fail
  go_at_call 69
  with_reducible refine (q1.out _).mono ?_
  rintro e w' ⟨rfl, m1, rfl⟩
  go_wp2_with fail
  go_at_call 69
  with_reducible refine (q2.out _).mono ?_
  rintro e w' ⟨rfl, m2, rfl⟩
  go_wp2_with fail
  go_ret
  exact ⟨rfl, _, rfl⟩

theorem mixS32 (x a b' c r : Nat) (A B C : Int) (hA : A = a) (hB : B = b') (hC : C = c) (hx : x < 2 ^ 32) (ha : 1 ≤ a ∧ a < 32) (hb : 1 ≤ b' ∧ b' < 32) (hc : 1 ≤ c ∧ c < 32) (hr : r = shifted 32 x a b' c) (w : World) :
    Calls Tryd.prog 62 #[.int .u64 x, .int .i64 A, .int .i64 B, .int .i64 C, .int .i64 32, .bool true] w fun e w' => e = .returned (.int .u64 r) ∧ ∃ m, w' = w.drewN m := by
  subst hA hB hC
  obtain ⟨r1, hr1⟩ : ∃ r1, r1 = rotr 32 x a := ⟨_, rfl⟩
  obtain ⟨r2, hr2⟩ : ∃ r1, r1 = rotr 32 x b' := ⟨_, rfl⟩
  obtain ⟨r3, hr3⟩ : ∃ r1, r1 = x / 2 ^ c := ⟨_, rfl⟩
  have l1 : r1 < 2 ^ 32 := by rw [hr1]; exact rotr_lt 32 x a hx
  have l2 : r2 < 2 ^ 32 := by rw [hr2]; exact rotr_lt 32 x b' hx
  have l3 : r3 < 2 ^ 32 := by rw [hr3]; exact Nat.lt_of_le_of_lt (Nat.div_le_self _ _) hx
  have ex := xor3_32 r1 r2 r3 r (by omega) (by omega) (by omega) (by rw [hr, hr1, hr2, hr3]; rfl)
  obtain ⟨p, hp⟩ : ∃ p, p = 2 ^ c := ⟨_, rfl⟩
  have hp0 : 0 < p := by rw [hp]; exact Nat.two_pow_pos c
  have e6 : (0 : Int) < p := by omega
  have qp : Hid (∀ W : World, Calls Tryd.prog 49 #[.int .i64 (c : Int)] W fun e w' => e = .returned (.int .u64 p) ∧ W = w') := Lib.hid fun W => power_any _ c p rfl (by omega) hp W
  have q1 : Hid (∀ W : World, Calls Tryd.prog 69 #[.int .u64 x, .int .i64 (a : Int), .int .i64 32] W fun e w' => e = .returned (.int .u64 r1) ∧ ∃ m, w' = W.drewN m) := Lib.hid fun W => turn32 x a r1 _ rfl hx ha.1 ha.2 hr1 W
  have q2 : Hid (∀ W : World, Calls Tryd.prog 69 #[.int .u64 x, .int .i64 (b' : Int), .int .i64 32] W fun e w' => e = .returned (.int .u64 r2) ∧ ∃ m, w' = W.drewN m) := Lib.hid fun W => turn32 x b' r2 _ rfl hx hb.1 hb.2 hr2 W
  have e8 : IntKind.u64.wrap ((x : Int) / (p : Int)) = (r3 : Int) := by
    have : (x : Int) / (p : Int) = (r3 : Int) := by rw [hr3, hp]; norm_cast
    rw [this, IntKind.wrap_u64]; omega
  clear hr1 hr2 hr3 l1 l2 l3 hp hp0 hx ha hb hc hr
  go_enter Tryd.func62, Tryd.ntmps62
  go_wp2_with fail
  go_at_call 49
  with_reducible refine (qp.out _).mono ?_
  rintro e w' ⟨rfl, rfl⟩
  go_wp2_with fail
  go_at_call 69
  with_reducible refine (q1.out _).mono ?_
  rintro e w' ⟨rfl, m1, rfl⟩
  go_wp2_with fail
  go_at_call 69
  with_reducible refine (q2.out _).mono ?_
  rintro e w' ⟨rfl, m2, rfl⟩
  go_wp2_with fail
  go_ret
  exact ⟨rfl, _, rfl⟩

theorem four0_32 (x r : Nat) (hx : x < 2 ^ 32) (hr : r = turned 32 x (P32 0) (P32 1) (P32 2)) (w : World) :
    Calls Tryd.prog 52 #[.int .i64 0, .int .u64 x, .int .i64 32] w fun e w' => e = .returned (.int .u64 r) ∧ ∃ m, w' = w.drewN m := by
  have q : Hid (∀ W : World, Calls Tryd.prog 62 #[.int .u64 x, .int .i64 2, .int .i64 13, .int .i64 22, .int .i64 32, .bool false] W fun e w' => e = .returned (.int .u64 r) ∧ ∃ m, w' = W.drewN m) :=
    Lib.hid fun W => mixT32 x 2 13 22 r _ _ _ rfl rfl rfl hx (by decide) (by decide) (by decide) hr W
  clear hx hr
  go_enter Tryd.func52, Tryd.ntmps52
  go_wp2_with fail
  go_at_call 62
  with_reducible refine (q.out _).mono ?_
  rintro e w' ⟨rfl, m, rfl⟩
  go_wp2_with fail
  go_ret
  exact ⟨rfl, _, rfl⟩

theorem four1_32 (x r : Nat) (hx : x < 2 ^ 32) (hr : r = turned 32 x (P32 3) (P32 4) (P32 5)) (w : World) :
    Calls Tryd.prog 52 #[.int .i64 1, .int .u64 x, .int .i64 32] w fun e w' => e = .returned (.int .u64 r) ∧ ∃ m, w' = w.drewN m := by
  have q : Hid (∀ W : World, Calls Tryd.prog 62 #[.int .u64 x, .int .i64 6, .int .i64 11, .int .i64 25, .int .i64 32, .bool false] W fun e w' => e = .returned (.int .u64 r) ∧ ∃ m, w' = W.drewN m) :=
    Lib.hid fun W => mixT32 x 6 11 25 r _ _ _ rfl rfl rfl hx (by decide) (by decide) (by decide) hr W
  clear hx hr
  go_enter Tryd.func52, Tryd.ntmps52
  go_wp2_with fail
  go_at_call 62
  with_reducible refine (q.out _).mono ?_
  rintro e w' ⟨rfl, m, rfl⟩
  go_wp2_with fail
  go_ret
  exact ⟨rfl, _, rfl⟩

theorem four2_32 (x r : Nat) (hx : x < 2 ^ 32) (hr : r = shifted 32 x (P32 6) (P32 7) (P32 8)) (w : World) :
    Calls Tryd.prog 52 #[.int .i64 2, .int .u64 x, .int .i64 32] w fun e w' => e = .returned (.int .u64 r) ∧ ∃ m, w' = w.drewN m := by
  have q : Hid (∀ W : World, Calls Tryd.prog 62 #[.int .u64 x, .int .i64 7, .int .i64 18, .int .i64 3, .int .i64 32, .bool true] W fun e w' => e = .returned (.int .u64 r) ∧ ∃ m, w' = W.drewN m) :=
    Lib.hid fun W => mixS32 x 7 18 3 r _ _ _ rfl rfl rfl hx (by decide) (by decide) (by decide) hr W
  clear hx hr
  go_enter Tryd.func52, Tryd.ntmps52
  go_wp2_with fail
  go_at_call 62
  with_reducible refine (q.out _).mono ?_
  rintro e w' ⟨rfl, m, rfl⟩
  go_wp2_with fail
  go_ret
  exact ⟨rfl, _, rfl⟩

theorem four3_32 (x r : Nat) (hx : x < 2 ^ 32) (hr : r = shifted 32 x (P32 9) (P32 10) (P32 11)) (w : World) :
    Calls Tryd.prog 52 #[.int .i64 3, .int .u64 x, .int .i64 32] w fun e w' => e = .returned (.int .u64 r) ∧ ∃ m, w' = w.drewN m := by
  have q : Hid (∀ W : World, Calls Tryd.prog 62 #[.int .u64 x, .int .i64 17, .int .i64 19, .int .i64 10, .int .i64 32, .bool true] W fun e w' => e = .returned (.int .u64 r) ∧ ∃ m, w' = W.drewN m) :=
    Lib.hid fun W => mixS32 x 17 19 10 r _ _ _ rfl rfl rfl hx (by decide) (by decide) (by decide) hr W
  clear hx hr
  go_enter Tryd.func52, Tryd.ntmps52
  go_wp2_with fail
  go_at_call 62
  with_reducible refine (q.out _).mono ?_
  rintro e w' ⟨rfl, m, rfl⟩
  go_wp2_with fail
  go_ret
  exact ⟨rfl, _, rfl⟩

end Go.Proofs.YtobaplndoaeoiaaDoor
namespace Go.Proofs.YtobaplndoaeoiaaDoor
open Go.RowKit

set_option maxRecDepth 100000
set_option maxHeartbeats 1000000

/-- Eight words of a new block. -/
structure Gave8_32 (w : World) (v : Oct) (e : Ending) (w' : World) : Prop where
  ex : ∃ r, e = .returned (.slice (some ⟨r, 0, none⟩) 8 8) ∧ w.heap.size ≤ r ∧ Holds w' r 24 .u64 8 v.get ∧ w.grownBy w' none

theorem round32 (vb vc k wt : Nat) (v : Oct) (w : World) (hc : ∀ i, i < 8 → w.cell? ⟨vb, i, none⟩ = some (.int .u64 (v.get i))) (hv : v.Lt (2 ^ 32)) (hk : k < 2 ^ 32) :
    Calls Tryd.prog 53 #[.slice (some ⟨vb, 0, none⟩) 8 vc, .int .u64 k, .int .u64 wt, .int .i64 32] w (Gave8_32 w (rnd 32 P32 k wt v)) := by
  have c0 : w.cell? ⟨vb, 0, none⟩ = some (.int .u64 v.a) := hc 0 (by decide)
  have c1 : w.cell? ⟨vb, 1, none⟩ = some (.int .u64 v.b) := hc 1 (by decide)
  have c2 : w.cell? ⟨vb, 2, none⟩ = some (.int .u64 v.c) := hc 2 (by decide)
  have c3 : w.cell? ⟨vb, 3, none⟩ = some (.int .u64 v.d) := hc 3 (by decide)
  have c4 : w.cell? ⟨vb, 4, none⟩ = some (.int .u64 v.e) := hc 4 (by decide)
  have c5 : w.cell? ⟨vb, 5, none⟩ = some (.int .u64 v.f) := hc 5 (by decide)
  have c6 : w.cell? ⟨vb, 6, none⟩ = some (.int .u64 v.g) := hc 6 (by decide)
  have c7 : w.cell? ⟨vb, 7, none⟩ = some (.int .u64 v.h) := hc 7 (by decide)
  clear hc
  obtain ⟨la, lb, lc, ld, le, lf, lg, lh⟩ := hv
  have hvl : v.Lt (2 ^ 32) := ⟨la, lb, lc, ld, le, lf, lg, lh⟩
  -- p
  obtain ⟨f1, hf1⟩ : ∃ x, x = turned 32 v.e (P32 3) (P32 4) (P32 5) := ⟨_, rfl⟩
  have lf1 : f1 < 2 ^ 32 := by rw [hf1]; exact turned_lt 32 _ _ _ _ le
  obtain ⟨ne, hne⟩ : ∃ x, x = 2 ^ 32 - 1 - v.e := ⟨_, rfl⟩
  have a1 := bits_and_u64 v.e v.f (by omega) (by omega)
  have a2 := bits_and_u64 ne v.g (by omega) (by omega)
  have l1 : v.e &&& v.f < 2 ^ 32 := Nat.and_lt_two_pow _ lf
  have l2 : ne &&& v.g < 2 ^ 32 := Nat.and_lt_two_pow _ lg
  have a3 := bits_xor_u64 (v.e &&& v.f) (ne &&& v.g) (by omega) (by omega)
  have l3 : (v.e &&& v.f) ^^^ (ne &&& v.g) < 2 ^ 32 := Nat.xor_lt_two_pow l1 l2
  obtain ⟨p, hp⟩ : ∃ x, x = rndP 32 P32 k wt v := ⟨_, rfl⟩
  have hp2 : p = (v.h + f1 + ((v.e &&& v.f) ^^^ (ne &&& v.g)) + k + wt) % 2 ^ 32 := by rw [hp, hf1, hne]; rfl
  -- q
  obtain ⟨f0, hf0⟩ : ∃ x, x = turned 32 v.a (P32 0) (P32 1) (P32 2) := ⟨_, rfl⟩
  have lf0 : f0 < 2 ^ 32 := by rw [hf0]; exact turned_lt 32 _ _ _ _ la
  have b1 := bits_and_u64 v.a v.b (by omega) (by omega)
  have b2 := bits_and_u64 v.a v.c (by omega) (by omega)
  have b3 := bits_and_u64 v.b v.c (by omega) (by omega)
  have m1 : v.a &&& v.b < 2 ^ 32 := Nat.and_lt_two_pow _ lb
  have m2 : v.a &&& v.c < 2 ^ 32 := Nat.and_lt_two_pow _ lc
  have m3 : v.b &&& v.c < 2 ^ 32 := Nat.and_lt_two_pow _ lc
  have b4 := bits_xor_u64 (v.a &&& v.b) (v.a &&& v.c) (by omega) (by omega)
  have m4 : (v.a &&& v.b) ^^^ (v.a &&& v.c) < 2 ^ 32 := Nat.xor_lt_two_pow m1 m2
  have b5 := bits_xor_u64 ((v.a &&& v.b) ^^^ (v.a &&& v.c)) (v.b &&& v.c) (by omega) (by omega)
  have m5 : (v.a &&& v.b) ^^^ (v.a &&& v.c) ^^^ (v.b &&& v.c) < 2 ^ 32 := Nat.xor_lt_two_pow m4 m3
  obtain ⟨q, hq⟩ : ∃ x, x = rndQ 32 P32 v := ⟨_, rfl⟩
  have hq2 : q = (f0 + ((v.a &&& v.b) ^^^ (v.a &&& v.c) ^^^ (v.b &&& v.c))) % 2 ^ 32 := by rw [hq, hf0]; rfl
  have hrnd : rnd 32 P32 k wt v = ⟨(p + q) % 2 ^ 32, v.a, v.b, v.c, (v.d + p) % 2 ^ 32, v.e, v.f, v.g⟩ := by rw [hp, hq]; rfl
  have lp : p < 2 ^ 32 := by rw [hp2]; exact Nat.mod_lt _ (by decide)
  have lq : q < 2 ^ 32 := by rw [hq2]; exact Nat.mod_lt _ (by decide)
  have Q4e : Hid (∀ W : World, Calls Tryd.prog 52 #[.int .i64 1, .int .u64 v.e, .int .i64 32] W fun e w' => e = .returned (.int .u64 f1) ∧ ∃ m, w' = W.drewN m) := Lib.hid fun W => four1_32 v.e f1 le hf1 W
  have Q4a : Hid (∀ W : World, Calls Tryd.prog 52 #[.int .i64 0, .int .u64 v.a, .int .i64 32] W fun e w' => e = .returned (.int .u64 f0) ∧ ∃ m, w' = W.drewN m) := Lib.hid fun W => four0_32 v.a f0 la hf0 W
  generalize (v.e &&& v.f) ^^^ (ne &&& v.g) = ch at *
  generalize v.e &&& v.f = ef at *
  generalize ne &&& v.g = ng at *
  generalize (v.a &&& v.b) ^^^ (v.a &&& v.c) ^^^ (v.b &&& v.c) = mj at *
  generalize (v.a &&& v.b) ^^^ (v.a &&& v.c) = mk at *
  generalize v.a &&& v.b = ab at *
  generalize v.a &&& v.c = ac at *
  generalize v.b &&& v.c = bc at *
  obtain ⟨y1, hy1⟩ : ∃ x, x = (v.h + f1) % 2 ^ 64 := ⟨_, rfl⟩
  obtain ⟨y2, hy2⟩ : ∃ x, x = (y1 + ch) % 2 ^ 64 := ⟨_, rfl⟩
  obtain ⟨y3, hy3⟩ : ∃ x, x = (y2 + k) % 2 ^ 64 := ⟨_, rfl⟩
  obtain ⟨y4, hy4⟩ : ∃ x, x = (y3 + wt) % 2 ^ 64 := ⟨_, rfl⟩
  obtain ⟨z1, hz1⟩ : ∃ x, x = (f0 + mj) % 2 ^ 64 := ⟨_, rfl⟩
  obtain ⟨s1, hs1⟩ : ∃ x, x = (p + q) % 2 ^ 64 := ⟨_, rfl⟩
  obtain ⟨s2, hs2⟩ : ∃ x, x = (v.d + p) % 2 ^ 64 := ⟨_, rfl⟩
  obtain ⟨t1, ht1⟩ : ∃ x, x = (p + q) % 2 ^ 32 := ⟨_, rfl⟩
  obtain ⟨t2, ht2⟩ : ∃ x, x = (v.d + p) % 2 ^ 32 := ⟨_, rfl⟩
  have e0 : IntKind.u64.wrap (((2 ^ 32 - 1 : Nat) : Int) - (v.e : Int)) = (ne : Int) := by rw [IntKind.wrap_u64]; omega
  have e1 : IntKind.u64.wrap ((v.h : Int) + (f1 : Int)) = (y1 : Int) := by rw [IntKind.wrap_u64]; omega
  have e2 : IntKind.u64.wrap ((y1 : Int) + (ch : Int)) = (y2 : Int) := by rw [IntKind.wrap_u64]; omega
  have e3 : IntKind.u64.wrap ((y2 : Int) + (k : Int)) = (y3 : Int) := by rw [IntKind.wrap_u64]; omega
  have e4 : IntKind.u64.wrap ((y3 : Int) + (wt : Int)) = (y4 : Int) := by rw [IntKind.wrap_u64]; omega
  have e5 : IntKind.u64.wrap ((f0 : Int) + (mj : Int)) = (z1 : Int) := by rw [IntKind.wrap_u64]; omega
  have e6 : IntKind.u64.wrap ((p : Int) + (q : Int)) = (s1 : Int) := by rw [IntKind.wrap_u64]; omega
  have e7 : IntKind.u64.wrap ((v.d : Int) + (p : Int)) = (s2 : Int) := by rw [IntKind.wrap_u64]; omega
  have QF : Hid (∀ W : World, Calls Tryd.prog 51 #[.int .u64 18446744073709551615, .int .i64 32] W fun e w' => e = .returned (.int .u64 ((2 ^ 32 - 1 : Nat) : Int)) ∧ W = w') := Lib.hid fun W => cut32 18446744073709551615 (2 ^ 32 - 1) (by decide) (by decide) W
  have QP : Hid (∀ W : World, Calls Tryd.prog 51 #[.int .u64 y4, .int .i64 32] W fun e w' => e = .returned (.int .u64 p) ∧ w' = W) := Lib.hid fun W => (cut32 y4 p (by omega) (by omega) W).mono fun _ _ h => ⟨h.1, h.2.symm⟩
  have QQ : Hid (∀ W : World, Calls Tryd.prog 51 #[.int .u64 z1, .int .i64 32] W fun e w' => e = .returned (.int .u64 q) ∧ w' = W) := Lib.hid fun W => (cut32 z1 q (by omega) (by omega) W).mono fun _ _ h => ⟨h.1, h.2.symm⟩
  have QS : Hid (∀ W : World, Calls Tryd.prog 51 #[.int .u64 s1, .int .i64 32] W fun e w' => e = .returned (.int .u64 t1) ∧ w' = W) := Lib.hid fun W => (cut32 s1 t1 (by omega) (by omega) W).mono fun _ _ h => ⟨h.1, h.2.symm⟩
  have QT : Hid (∀ W : World, Calls Tryd.prog 51 #[.int .u64 s2, .int .i64 32] W fun e w' => e = .returned (.int .u64 t2) ∧ w' = W) := Lib.hid fun W => (cut32 s2 t2 (by omega) (by omega) W).mono fun _ _ h => ⟨h.1, h.2.symm⟩
  have Hrnd : Hid (rnd 32 P32 k wt v = ⟨t1, v.a, v.b, v.c, t2, v.e, v.f, v.g⟩) := Lib.hid (by rw [hrnd, ht1, ht2])
  have hk0 : k < 2 ^ 32 := hk
  clear hrnd hy1 hy2 hy3 hy4 hz1 hs1 hs2 ht1 ht2 hp2 hq2 lp lq hp hq m5 m4 m3 m2 m1 l3 l2 l1 lf0 lf1 hf0 hf1 hvl la lb lc ld le lf lg lh hk hk0
  generalize hfull : ((2 ^ 32 - 1 : Nat) : Int) = full at *
  clear hfull hne
  go_enter Tryd.func53, Tryd.ntmps53
  go_wp2_with (go_at_call 51; (with_reducible refine (QF.out _).mono ?_); rintro e w' ⟨rfl, rfl⟩)
  go_quiet ((first
    | (go_at_call 52; with_reducible exact Calls.quiet_of (Q4e.out _))
    | (go_at_call 51; with_reducible exact Calls.quiet_of_same (QP.out _))))
  have g1 := grown_drewN (grown_refl w none) nq
  have d0 : (w.drewN nq).cell? ⟨vb, 0, none⟩ = some (.int .u64 v.a) := c0
  have d1 : (w.drewN nq).cell? ⟨vb, 1, none⟩ = some (.int .u64 v.b) := c1
  have d2 : (w.drewN nq).cell? ⟨vb, 2, none⟩ = some (.int .u64 v.c) := c2
  have d3 : (w.drewN nq).cell? ⟨vb, 3, none⟩ = some (.int .u64 v.d) := c3
  have d4 : (w.drewN nq).cell? ⟨vb, 4, none⟩ = some (.int .u64 v.e) := c4
  have d5 : (w.drewN nq).cell? ⟨vb, 5, none⟩ = some (.int .u64 v.f) := c5
  have d6 : (w.drewN nq).cell? ⟨vb, 6, none⟩ = some (.int .u64 v.g) := c6
  have d7 : (w.drewN nq).cell? ⟨vb, 7, none⟩ = some (.int .u64 v.h) := c7
  clear c0 c1 c2 c3 c4 c5 c6 c7 e1 e2 e3 e4 a1 a2 a3 e0
  generalize w.drewN nq = w2 at *
  go_wp2_with fail
  go_quiet ((first
    | (go_at_call 52; with_reducible exact Calls.quiet_of (Q4a.out _))
    | (go_at_call 51; with_reducible exact Calls.quiet_of_same (QQ.out _))))
  have g2 := grown_drewN g1 nq
  have c0 : (w2.drewN nq).cell? ⟨vb, 0, none⟩ = some (.int .u64 v.a) := d0
  have c1 : (w2.drewN nq).cell? ⟨vb, 1, none⟩ = some (.int .u64 v.b) := d1
  have c2 : (w2.drewN nq).cell? ⟨vb, 2, none⟩ = some (.int .u64 v.c) := d2
  have c3 : (w2.drewN nq).cell? ⟨vb, 3, none⟩ = some (.int .u64 v.d) := d3
  have c4 : (w2.drewN nq).cell? ⟨vb, 4, none⟩ = some (.int .u64 v.e) := d4
  have c5 : (w2.drewN nq).cell? ⟨vb, 5, none⟩ = some (.int .u64 v.f) := d5
  have c6 : (w2.drewN nq).cell? ⟨vb, 6, none⟩ = some (.int .u64 v.g) := d6
  have c7 : (w2.drewN nq).cell? ⟨vb, 7, none⟩ = some (.int .u64 v.h) := d7
  clear d0 d1 d2 d3 d4 d5 d6 d7 g1 b1 b2 b3 b4 b5 e5
  generalize w2.drewN nq = w3 at *
  go_wp2_with fail
  refine wp_region_still_tail 30 (by kernel_rfl) (by kernel_rfl) ?_
  have g3 := grown_drew g2
  have d0 : w3.drew.cell? ⟨vb, 0, none⟩ = some (.int .u64 v.a) := c0
  have d1 : w3.drew.cell? ⟨vb, 1, none⟩ = some (.int .u64 v.b) := c1
  have d2 : w3.drew.cell? ⟨vb, 2, none⟩ = some (.int .u64 v.c) := c2
  have d3 : w3.drew.cell? ⟨vb, 3, none⟩ = some (.int .u64 v.d) := c3
  have d4 : w3.drew.cell? ⟨vb, 4, none⟩ = some (.int .u64 v.e) := c4
  have d5 : w3.drew.cell? ⟨vb, 5, none⟩ = some (.int .u64 v.f) := c5
  have d6 : w3.drew.cell? ⟨vb, 6, none⟩ = some (.int .u64 v.g) := c6
  have d7 : w3.drew.cell? ⟨vb, 7, none⟩ = some (.int .u64 v.h) := c7
  change wpStill _ _ w3.drew (fun a' => wpList _ _ _ _ a' w3.drew) _ _
  clear c0 c1 c2 c3 c4 c5 c6 c7 g2
  generalize w3.drew = w4 at *
  simp only [List.take_succ_cons, List.take_zero, List.drop_succ_cons, List.drop_zero]
  repeat still_step
  still_call (QS.out _)
  repeat still_step
  still_call (QT.out _)
  repeat still_step
  refine wpStill_nil ?_
  have hH := holds_alloc w4 24 .u64 8 (rnd 32 P32 k wt v).get #[.int .u64 t1, .int .u64 v.a, .int .u64 v.b, .int .u64 v.c, .int .u64 t2, .int .u64 v.e, .int .u64 v.f, .int .u64 v.g] (by rw [Hrnd.out]; rfl)
  have HH := Lib.hid hH
  clear hH
  go_wp2_with fail
  go_ret
  exact ⟨_, rfl, g3.size, HH.out, grown_alloc g3 _⟩

end Go.Proofs.YtobaplndoaeoiaaDoor
namespace Go.Proofs.YtobaplndoaeoiaaDoor
open Go.RowKit

set_option maxRecDepth 100000
set_option maxHeartbeats 1000000

/-- What stands through the loops: the state, the constants, the padded text; all of it is new. -/
structure Inv32 (w wr : World) (hb kb al cap T : Nat) (st pd : Nat → Nat) : Prop where
  h : Holds wr hb 24 .u64 8 st
  k : Holds wr kb 24 .u64 80 KC
  p : OwnR wr al T cap pd
  g : w.grownBy wr none

theorem Inv32.grown {w wr wr' : World} {hb kb al cap T : Nat} {st pd : Nat → Nat} (h : Inv32 w wr hb kb al cap T st pd) (g : wr.grownBy wr' none) : Inv32 w wr' hb kb al cap T st pd :=
  ⟨h.h.grown g (by simp), h.k.grown g (by simp), h.p.grown g (by simp), grown_trans h.g g⟩

theorem oct_lt32 (f : Nat → Nat) (h : ∀ i, f i < 2 ^ 32) : (Oct.of f).Lt (2 ^ 32) := ⟨h 0, h 1, h 2, h 3, h 4, h 5, h 6, h 7⟩
theorem oct_get_lt32 (v : Oct) (h : v.Lt (2 ^ 32)) : ∀ i, v.get i < 2 ^ 32
  | 0 => h.a
  | 1 => h.b
  | 2 => h.c
  | 3 => h.d
  | 4 => h.e
  | 5 => h.f
  | 6 => h.g
  | _ + 7 => h.h
theorem new_cell32 {W : World} {v : Value} {T : TypeId} {g n c : Nat} {f : Nat → Nat} (_ : OwnV (W.alloc (.cells #[v] T)) g n c f) : (W.alloc (.cells #[v] T)).cell? ⟨W.heap.size, 0, none⟩ = some v := by
  rw [cell_of_row _ _ _ _ _ _ (heap_alloc_new W (.cells #[v] T))]; rfl
theorem new_cellD32 {W : World} {v : Value} {T : TypeId} {g n c : Nat} {f : Nat → Nat} (_ : OwnV (W.alloc (.cells #[v] T)).drew g n c f) : (W.alloc (.cells #[v] T)).drew.cell? ⟨W.heap.size, 0, none⟩ = some v := by
  show (W.alloc (.cells #[v] T)).cell? _ = _
  rw [cell_of_row _ _ _ _ _ _ (heap_alloc_new W (.cells #[v] T))]; rfl

theorem new_cellN32 {W : World} {v x : Value} {T : TypeId} {B n : Nat} {f : Nat → Nat} (_ : OwnN (W.alloc (.cells #[v] T)) B x n f) : (W.alloc (.cells #[v] T)).cell? ⟨W.heap.size, 0, none⟩ = some v := by
  rw [cell_of_row _ _ _ _ _ _ (heap_alloc_new W (.cells #[v] T))]; rfl
theorem new_cellND32 {W : World} {v x : Value} {T : TypeId} {B n : Nat} {f : Nat → Nat} (_ : OwnN (W.alloc (.cells #[v] T)).drew B x n f) : (W.alloc (.cells #[v] T)).drew.cell? ⟨W.heap.size, 0, none⟩ = some v := by
  show (W.alloc (.cells #[v] T)).cell? _ = _
  rw [cell_of_row _ _ _ _ _ _ (heap_alloc_new W (.cells #[v] T))]; rfl

theorem rsum32 (N c : Nat) (a : Option Addr) (g : Nat → Nat) (w : World) (hR : Rd w w.heap.size a N g) (hg : ∀ i, g i < 256) (hN : N ≤ 2 ^ 40) :
    Calls Tryd.prog 40 #[.slice a N c, .int .i64 32] w (GaveN w 32 (sumOf 32 64 P32 KC (H32 FC) g N)) := by
  go_enter Tryd.func40, Tryd.ntmps40
  go_wp2_with fail
  go_at_call 47
  with_reducible refine (First_any _).mono ?_
  rintro e w1 ⟨hb, rfl, hhb, hH, g1⟩
  go_wp2_with fail
  go_at_call 48
  with_reducible refine (Constants_any _).mono ?_
  rintro e w2 ⟨kb, rfl, hkb, hK, g2⟩
  have hH2 := hH.grown g2 (by simp)
  have g02 := grown_trans g1 g2
  have hhk : hb ≠ kb := by have := hH.lt; omega
  have hkbw : w.heap.size ≤ kb := Nat.le_trans g1.size hkb
  clear hH g1 g2
  have qp : Hid (∀ W : World, Calls Tryd.prog 49 #[.int .i64 32] W fun e w' => e = .returned (.int .u64 4294967296) ∧ W = w') := Lib.hid fun W => power_any _ 32 4294967296 rfl (by decide) (by decide) W
  go_wp2_with (go_at_call 49; (with_reducible refine (qp.out _).mono ?_); rintro e w' ⟨rfl, rfl⟩)
  go_loopw [9] (fun u9 wr => ∃ i : Nat, i ≤ 8 ∧ u9 = .int .i64 i ∧ Holds wr hb 24 .u64 8 (fun j => if j < i then H32 FC j else FC j) ∧ Holds wr kb 24 .u64 80 KC ∧ w.grownBy wr none) (fun u9 _ => 8 - (intOf u9).toNat)
  case atStart => exact ⟨0, by omega, rfl, hH2.congr (fun i _ => by rw [if_neg (by omega)]), hK, g02⟩
  case round =>
    obtain ⟨i, hi, rfl, hHr, hKr, hgr⟩ := hrel
    clear hH2 hK g02
    by_cases hi8 : i < 8
    · have i1 : (i : Int) < 8 := by omega
      have ci := hHr.cell i hi8
      rw [if_neg (by omega)] at ci
      have fi := hHr.frozen i
      obtain ⟨v, hv⟩ : ∃ v, v = H32 FC i := ⟨_, rfl⟩
      have hF := FC_lt i
      have hv2 : v = FC i / 4294967296 := by rw [hv]; rfl
      have ev : (FC i : Int) / 4294967296 = (v : Int) := by omega
      have ev2 : IntKind.u64.wrap (v : Int) = (v : Int) := by rw [IntKind.wrap_u64]; omega
      have evf : IntKind.u64.wrap (FC i : Int) = (FC i : Int) := by rw [IntKind.wrap_u64]; omega
      have H5 := hHr.set i v
      have K5 := hKr.setOther ⟨hb, i, none⟩ (.int .u64 (v : Nat)) (by show kb ≠ hb; omega)
      have G5 := grown_setCell_new hgr ⟨hb, i, none⟩ (.int .u64 (v : Nat)) (Or.inl hhb)
      have Hv := Lib.hid hv
      clear hF hv hv2
      generalize FC i = fc at *
      go_wp2_with fail
      refine ⟨⟨i + 1, by omega, by go_num, H5.congr (fun j hj => ?_), K5, G5⟩, by simp [intOf]; omega⟩
      by_cases e : j = i
      · subst e; rw [upd_same, if_pos (by omega), Hv.out]
      · rw [upd_other _ _ _ _ e]
        by_cases e2 : j < i
        · rw [if_pos e2, if_pos (by omega)]
        · rw [if_neg e2, if_neg (by omega)]
    · have hE : i = 8 := by omega
      have i1 : (8 : Int) ≤ i := by omega
      have hH3 : Holds wr hb 24 .u64 8 (H32 FC) := hHr.congr (fun j hj => by rw [if_pos (by omega)])
      clear hHr hi8 hi hE
      have hRr := hR.up (Nat.le_refl _) hgr
      have hrp := rpad32 N c a g wr hRr hN
      have HRP := Lib.hid hrp
      clear hrp
      go_wp2_with fail
      go_at_call 50
      with_reducible refine (HRP.out).mono ?_
      rintro e w3 ⟨al, cap, rfl, hal, hg3, hb3⟩
      have I3 : Inv32 w w3 hb kb al cap (64 * padBlocks 32 N) (stAfter 32 64 P32 KC (H32 FC) (padded 32 g N) 0) (padded 32 g N) := ⟨hH3.grown hg3 (by simp), hKr.grown hg3 (by simp), hal, grown_trans hgr hg3⟩
      have hpd : ∀ j, padded 32 g N j < 256 := fun j => by
        unfold padded
        split
        · exact hg _
        · split
          · exact (by decide : 128 < 256)
          · split
            · exact (by decide : 0 < 256)
            · exact Nat.mod_lt _ (by decide)
      have hal3 : w.heap.size ≤ al := Nat.le_trans hgr.size hb3
      have hh1 : hb < al := Nat.lt_of_lt_of_le hH3.lt hb3
      have hh2 : kb < al := Nat.lt_of_lt_of_le hKr.lt hb3
      generalize hpdn : padded 32 g N = pd at *
      generalize hnbn : padBlocks 32 N = nb at *
      have hnb : nb ≤ 2 ^ 36 := by rw [← hnbn]; unfold padBlocks; omega
      have HPD := Lib.hid hpdn
      have HNB := Lib.hid hnbn
      clear hpdn hnbn hal hH3 hKr hgr hRr HRP hg3 hb3 i1
      go_wp2_with fail
      generalize hTn : 64 * nb = T at *
      have HT := Lib.hid hTn
      have hT4 : T ≤ 2 ^ 43 := by omega
      have Hh1 := Lib.hid hh1
      have Hh2 := Lib.hid hh2
      have Hhk := Lib.hid hhk
      have Hhb := Lib.hid hhb
      have Hal := Lib.hid hal3
      have Hkb := Lib.hid hkbw
      clear hTn hh1 hh2 hhk hhb hal3 hkb hkbw
      go_loopw [11] (fun u11 wr => ∃ (i q : Nat), i ≤ nb ∧ u11 = .int .i64 q ∧ Hid (q = 64 * i) ∧ Inv32 w wr hb kb al cap T (stAfter 32 64 P32 KC (H32 FC) pd i) pd) (fun u11 _ => T - (intOf u11).toNat)
      case atStart => exact ⟨0, 0, by omega, rfl, Lib.hid rfl, I3⟩
      case round =>
        clear I3
        obtain ⟨i, q, hi, rfl, hq, hI⟩ := hrel
        obtain ⟨blk, hblk⟩ : ∃ f : Nat → Nat, f = fun j => pd (i * (16 * (32 / 8)) + j) := ⟨_, rfl⟩
        have hbq : ∀ j, blk j = pd (q + j) := fun j => by rw [hblk, hq.out, Nat.mul_comm]
        have hb8 : ∀ j, blk j < 256 := fun j => by rw [hbq]; exact hpd _
        have Hblk := Lib.hid hblk
        have Hbq := Lib.hid hbq
        have Hb8 := Lib.hid hb8
        clear hblk hbq hb8
        by_cases hlt : q < T
        · have i1 : (q : Int) < T := by omega
          have i2 : (T : Int) ≤ 8796093022208 := by omega
          have hqT : q + 64 ≤ T := by have := hq.out; have := HT.out; omega
          have HqT := Lib.hid hqT
          have Hlt := Lib.hid hlt
          clear hqT hlt
          generalize wr = w6 at *
          have HI := Lib.hid hI
          have Hs6 := Lib.hid hI.g.size
          clear hI
          go_wp2_with fail
          go_loopw [12, 13] (fun u12 u13 wq => ∃ t : Nat, t ≤ 16 ∧ u13 = .int .i64 t ∧ OwnW wq w6.heap.size u12 t (word 32 P32 blk) ∧ w6.grownBy wq none) (fun _ u13 _ => 16 - (intOf u13).toNat)
          case atStart => exact ⟨0, by omega, rfl, OwnW.nil _ _ _, grown_refl _ _⟩
          case round =>
            obtain ⟨t, ht, rfl, hoW, hg6⟩ := hrel
            by_cases ht16 : t < 16
            · have j1 : (t : Int) < 16 := by omega
              go_wp2_with fail
              go_loop [14, 15] (fun u14 u15 => ∃ (j x : Nat), j ≤ 4 ∧ u15 = .int .i64 j ∧ u14 = .int .u64 x ∧ Hid (x = be (fun j => blk (t * 4 + j)) j)) (fun _ u15 => 4 - (intOf u15).toNat)
              case atStart => exact ⟨0, 0, by omega, rfl, rfl, Lib.hid rfl⟩
              case round =>
                obtain ⟨j, x, hj, rfl, rfl, hx⟩ := hrel
                by_cases hjs : j < 4
                · have k1 : (j : Int) < 4 := by omega
                  obtain ⟨y, hy⟩ : ∃ y, y = blk (t * 4 + j) := ⟨_, rfl⟩
                  have hqT := HqT.out
                  have hyl : y < 256 := by rw [hy]; exact Hb8.out _
                  have cF : wr.cell? ⟨al, q + t * 32 / 8 + j, none⟩ = some (.int .u8 (y : Nat)) := by
                    rw [show q + t * 32 / 8 + j = q + (t * 4 + j) by omega, (HI.out.p.grown hg6 (by simp)).cell _ (by omega), hy, Hbq.out]
                  have b0 : (0 : Int) ≤ (q : Int) + (t : Int) * 32 / 8 + (j : Int) := by omega
                  have b1 : (q : Int) + (t : Int) * 32 / 8 + (j : Int) < T := by omega
                  have hxl : x < 256 ^ j := by rw [hx.out]; exact be_lt _ (fun _ => Hb8.out _) j
                  have hxm : 256 ^ j ≤ 256 ^ 3 := Nat.pow_le_pow_right (by decide) (by omega)
                  have ex : IntKind.u64.wrap (256 * (x : Int)) = ((256 * x : Nat) : Int) := by rw [IntKind.wrap_u64]; omega
                  have ey : IntKind.u64.wrap (y : Int) = (y : Int) := by rw [IntKind.wrap_u64]; omega
                  obtain ⟨x2, hx2⟩ : ∃ x2, x2 = 256 * x := ⟨_, rfl⟩
                  obtain ⟨z, hz⟩ : ∃ z, z = x2 + y := ⟨_, rfl⟩
                  have ez : IntKind.u64.wrap ((x2 : Int) + (y : Int)) = (z : Int) := by rw [IntKind.wrap_u64]; omega
                  rw [← hx2] at ex
                  have Hz : Hid (z = be (fun j => blk (t * 4 + j)) (j + 1)) := Lib.hid (by rw [hz, hx2, hx.out, hy, Nat.mul_comm]; rfl)
                  clear hz hx2 hxm hxl hqT hy hyl
                  go_wp2_with fail
                  exact ⟨⟨j + 1, z, by omega, by go_num, rfl, Hz⟩, by simp [intOf]; omega⟩
                · have hjE : j = 4 := by omega
                  have k1 : (4 : Int) ≤ j := by omega
                  have Hxw : Hid (x = word 32 P32 blk t) := Lib.hid (by rw [hx.out, hjE, word_low _ _ _ _ ht16])
                  have HjE := Lib.hid hjE
                  have gW := World.grownBy_alloc wr (.cells #[.int .u64 x] 24) none
                  have bW := heap_alloc_new wr (.cells #[.int .u64 x] 24)
                  have hoA := hoW.grown gW
                  have hgA := grown_trans hg6 gW
                  have HC : Hid (∀ j, j < 1 → (wr.alloc (.cells #[.int .u64 x] 24)).cell? ((⟨wr.heap.size, 0, none⟩ : Addr).add j) = some (.int .u64 x)) := Lib.hid (fun j hj => by
                    obtain rfl : j = 0 := by omega
                    show (wr.alloc _).cell? ⟨wr.heap.size, 0, none⟩ = _
                    rw [cell_of_row _ _ _ _ _ _ bW]; rfl)
                  clear hjE hjs hj gW bW hoW hg6 hx
                  go_wp2_with (at_builtin; refine wpList_appW rfl _ _ rfl w6.heap.size _ t _ rfl hoA ⟨wr.heap.size, 0, none⟩ 1 1 (fun _ => x) rfl HC.out (by omega) hgA.size ?_; intro v' w5 hown' hg')
                  have hg5 := grown_ownW hgA hoA hg'
                  have ho5 : OwnW w5 w6.heap.size v' (t + 1) (word 32 P32 blk) := hown'.congr (fun m hm => by
                    by_cases e : m < t
                    · rw [if_pos e]
                    · obtain rfl : m = t := by omega
                      rw [if_neg e, Hxw.out])
                  exact ⟨⟨t + 1, by omega, by go_num, ho5, hg5⟩, by simp [intOf]; omega⟩
            · have htE : t = 16 := by omega
              have j1 : (16 : Int) ≤ t := by omega
              subst htE
              clear ht16 ht
              go_wp2_with fail
              obtain ⟨g7, cap7, rfl, hoV, hg7⟩ := hoW.toV (by decide)
              clear hoW
              go_loopw [12, 16] (fun u12 u16 wq => ∃ (t gv cv : Nat), 16 ≤ t ∧ t ≤ 64 ∧ u16 = .int .i64 t ∧ u12 = .slice (some ⟨gv, 0, none⟩) t cv ∧ OwnV wq gv t cv (word 32 P32 blk) ∧ w6.heap.size ≤ gv ∧ w6.grownBy wq none) (fun _ u16 _ => 64 - (intOf u16).toNat)
              case atStart => exact ⟨16, g7, cap7, by omega, by omega, rfl, rfl, hoV, hg7, hg6⟩
              case round =>
                clear hoV hg6 hg7 j1
                obtain ⟨t, gv, cv, ht0, ht, rfl, rfl, hoV, hgv, hg6⟩ := hrel
                by_cases htR : t < 64
                · have j1 : (t : Int) < 64 := by omega
                  have j0 : (16 : Int) ≤ t := by omega
                  --CUTBEGIN
                  obtain ⟨t2, ht2⟩ : ∃ t2, t2 = t - 2 := ⟨_, rfl⟩
                  obtain ⟨t7, ht7⟩ : ∃ t2, t2 = t - 7 := ⟨_, rfl⟩
                  obtain ⟨t15, ht15⟩ : ∃ t2, t2 = t - 15 := ⟨_, rfl⟩
                  obtain ⟨t16, ht16'⟩ : ∃ t2, t2 = t - 16 := ⟨_, rfl⟩
                  have e2 : IntKind.i64.wrap ((t : Int) - 2) = (t2 : Int) := by rw [IntKind.wrap_i64]; omega
                  have e7 : IntKind.i64.wrap ((t : Int) - 7) = (t7 : Int) := by rw [IntKind.wrap_i64]; omega
                  have e15 : IntKind.i64.wrap ((t : Int) - 15) = (t15 : Int) := by rw [IntKind.wrap_i64]; omega
                  have e16 : IntKind.i64.wrap ((t : Int) - 16) = (t16 : Int) := by rw [IntKind.wrap_i64]; omega
                  have l2 : (t2 : Int) < t := by omega
                  have l7 : (t7 : Int) < t := by omega
                  have l15 : (t15 : Int) < t := by omega
                  have l16 : (t16 : Int) < t := by omega
                  have hwl : ∀ m, word 32 P32 blk m < 2 ^ 32 := fun m => word_lt32 P32 blk Hb8.out m
                  have hwt := word_high 32 P32 blk t ht0
                  rw [← ht2, ← ht7, ← ht15, ← ht16'] at hwt
                  have c2 := fun (W : World) (h : OwnV W gv t cv (word 32 P32 blk)) => h.cell t2 (by omega)
                  have c7 := fun (W : World) (h : OwnV W gv t cv (word 32 P32 blk)) => h.cell t7 (by omega)
                  have c15 := fun (W : World) (h : OwnV W gv t cv (word 32 P32 blk)) => h.cell t15 (by omega)
                  have c16 := fun (W : World) (h : OwnV W gv t cv (word 32 P32 blk)) => h.cell t16 (by omega)
                  have hx2 := hwl t2
                  have hx7 := hwl t7
                  have hx15 := hwl t15
                  have hx16 := hwl t16
                  obtain ⟨nw, hnw⟩ : ∃ nw, nw = word 32 P32 blk t := ⟨_, rfl⟩
                  rw [← hnw] at hwt
                  generalize word 32 P32 blk t2 = x2 at *
                  generalize word 32 P32 blk t7 = x7 at *
                  generalize word 32 P32 blk t15 = x15 at *
                  generalize word 32 P32 blk t16 = x16 at *
                  obtain ⟨f3, hf3⟩ : ∃ f, f = shifted 32 x2 (P32 9) (P32 10) (P32 11) := ⟨_, rfl⟩
                  obtain ⟨f2, hf2⟩ : ∃ f, f = shifted 32 x15 (P32 6) (P32 7) (P32 8) := ⟨_, rfl⟩
                  have lf3 : f3 < 2 ^ 32 := by rw [hf3]; exact shifted_lt 32 _ _ _ _ hx2
                  have lf2 : f2 < 2 ^ 32 := by rw [hf2]; exact shifted_lt 32 _ _ _ _ hx15
                  rw [← hf3, ← hf2] at hwt
                  obtain ⟨y1, hy1⟩ : ∃ y, y = (f3 + x7) % 2 ^ 64 := ⟨_, rfl⟩
                  obtain ⟨y2, hy2⟩ : ∃ y, y = (y1 + f2) % 2 ^ 64 := ⟨_, rfl⟩
                  obtain ⟨y3, hy3⟩ : ∃ y, y = (y2 + x16) % 2 ^ 64 := ⟨_, rfl⟩
                  have ey1 : IntKind.u64.wrap ((f3 : Int) + (x7 : Int)) = (y1 : Int) := by rw [IntKind.wrap_u64]; omega
                  have ey2 : IntKind.u64.wrap ((y1 : Int) + (f2 : Int)) = (y2 : Int) := by rw [IntKind.wrap_u64]; omega
                  have ey3 : IntKind.u64.wrap ((y2 : Int) + (x16 : Int)) = (y3 : Int) := by rw [IntKind.wrap_u64]; omega
                  have Q3 : Hid (∀ W : World, Calls Tryd.prog 52 #[.int .i64 3, .int .u64 x2, .int .i64 32] W fun e w' => e = .returned (.int .u64 f3) ∧ W.grownBy w' none) := Lib.hid fun W => (four3_32 x2 f3 hx2 hf3 W).mono fun _ _ ⟨h1, m, h2⟩ => ⟨h1, by rw [h2]; exact grown_drewN (grown_refl W none) m⟩
                  have Q2 : Hid (∀ W : World, Calls Tryd.prog 52 #[.int .i64 2, .int .u64 x15, .int .i64 32] W fun e w' => e = .returned (.int .u64 f2) ∧ W.grownBy w' none) := Lib.hid fun W => (four2_32 x15 f2 hx15 hf2 W).mono fun _ _ ⟨h1, m, h2⟩ => ⟨h1, by rw [h2]; exact grown_drewN (grown_refl W none) m⟩
                  have QC : Hid (∀ W : World, Calls Tryd.prog 51 #[.int .u64 y3, .int .i64 32] W fun e w' => e = .returned (.int .u64 nw) ∧ W = w') := Lib.hid fun W => cut32 y3 nw (by omega) (by omega) W
                  have HS : Hid (∀ W : World, OwnV W gv t cv (word 32 P32 blk) → w6.grownBy W none → (OwnV W gv t cv (word 32 P32 blk) ∧ w6.grownBy W none ∧ W.cell? ⟨gv, t2, none⟩ = some (.int .u64 x2) ∧ W.cell? ⟨gv, t7, none⟩ = some (.int .u64 x7) ∧ W.cell? ⟨gv, t15, none⟩ = some (.int .u64 x15) ∧ W.cell? ⟨gv, t16, none⟩ = some (.int .u64 x16))) :=
                    Lib.hid fun W h1 h2 => ⟨h1, h2, c2 W h1, c7 W h1, c15 W h1, c16 W h1⟩
                  have HAP : Hid (∀ (W : World) (B : Nat), OwnV W gv t cv (word 32 P32 blk) → w6.grownBy W none → W.cell? ⟨B, 0, none⟩ = some (.int .u64 (nw : Nat)) → ∃ g' cap' w', (Builtin.append_ #[93, 93] 93 #[.slice (some ⟨gv, 0, none⟩) t cv, .slice (some ⟨B, 0, none⟩) 1 1]).run Tryd.prog W = .ok (.slice (some ⟨g', 0, none⟩) (t + 1) cap') w' ∧
                      OwnV w' g' (t + 1) cap' (word 32 P32 blk) ∧ OwnV w' gv t cv (word 32 P32 blk) ∧ w6.grownBy w' none ∧ w6.heap.size ≤ g') := Lib.hid fun W B h1 h2 h3 => by
                    have hR1 : RdW W W.heap.size (some ⟨B, 0, none⟩) 1 (fun _ => nw) := ⟨fun _ => ⟨B, 0, rfl, World.block_lt_of_cell? W _ h3, fun i hi => by
                      obtain rfl : i = 0 := by omega
                      exact h3⟩⟩
                    obtain ⟨v, w', hr, ⟨g', cap', rfl, k1, k2, k3, k4⟩⟩ := app_runW 1 93 h1 hR1 (by omega)
                    refine ⟨g', cap', w', hr, k1.congr (fun m hm => ?_), k2, grown_new h2 k3 hgv, ?_⟩
                    · unfold cat
                      by_cases e : m < t
                      · rw [if_pos e]
                      · obtain rfl : m = t := by omega
                        rw [if_neg e, hnw]
                    · have := h2.size
                      omega
                  clear c2 c7 c15 c16 hx2 hx7 hx15 hx16 hy1 hy2 hy3 lf2 lf3 hf2 hf3 hwt hnw hwl ht2 ht7 ht15 ht16'
                  go_wp2_with fail
                  have hS0 := HS.out wr.drew (hoV.of_block rfl hoV.lt) (grown_drew hg6)
                  have HS0 := Lib.hid hS0
                  clear hS0
                  go_region_held3 (fun w' => OwnV w' gv t cv (word 32 P32 blk) ∧ w6.grownBy w' none ∧ w'.cell? ⟨gv, t2, none⟩ = some (.int .u64 x2) ∧ w'.cell? ⟨gv, t7, none⟩ = some (.int .u64 x7) ∧ w'.cell? ⟨gv, t15, none⟩ = some (.int .u64 x15) ∧ w'.cell? ⟨gv, t16, none⟩ = some (.int .u64 x16))
                    (first
                      | (with_reducible exact HS0.out)
                      | (with_reducible assumption)
                      | (obtain ⟨k1, k2, _⟩ := ‹OwnV _ gv t cv (word 32 P32 blk) ∧ _›; first
                          | (with_reducible exact HS.out _ (k1.grown hg' (by simp)) (grown_trans k2 hg'))
                          | (with_reducible exact HS.out _ (k1.grown (World.grownBy_alloc _ _ none) (by simp)) (grown_trans k2 (World.grownBy_alloc _ _ none)))
                          | (with_reducible exact HS.out _ hv3 hw3)))
                    (first
                      | (go_at_call 52; (with_reducible refine (Q3.out _).mono ?_); rintro e w' ⟨rfl, hg'⟩)
                      | (go_at_call 52; (with_reducible refine (Q2.out _).mono ?_); rintro e w' ⟨rfl, hg'⟩)
                      | (go_at_call 51; (with_reducible refine (QC.out _).mono ?_); rintro e w' ⟨rfl, rfl⟩)
                      | (obtain ⟨k1, k2, _⟩ := ‹OwnV _ gv t cv (word 32 P32 blk) ∧ _›; obtain ⟨gn, capn, w9, hapn, kn1, hv3, hw3, kn4⟩ := HAP.out _ _ k1 k2 (by first | exact new_cell32 k1 | exact new_cellD32 k1);
                         refine step_append_runW rfl (.tmp 90) (.tmp 120) 93 93 rfl (.slice (some ⟨gv, 0, none⟩) t cv) (.slice (some ⟨_, 0, none⟩) 1 1) _ _ rfl rfl hapn ?_))
                  all_goals
                    go_wp2_with fail
                    go_roundw
                    case rel => first
                      | exact ⟨t + 1, gn, capn, by omega, by omega, by go_num, rfl, kn1, kn4, hw3⟩
                      | ((repeat apply Exists.intro); exact ⟨⟨t + 1, gn, capn, by omega, by omega, by go_num, rfl, kn1, kn4, hw3⟩, rfl⟩)
                    case measure => simp [intOf]; omega
                --CUTEND
                · have htE : t = 64 := by omega
                  have j1 : (64 : Int) ≤ t := by omega
                  subst htE
                  clear htR ht ht0
                  have hI7 := HI.out.grown hg6
                  have ho0 := ownV_empty wr
                  have ga := World.grownBy_alloc wr (.cells #[] 24) none
                  have hIa := hI7.grown ga
                  have hRh : RdW (wr.alloc (.cells #[] 24)) (wr.alloc (.cells #[] 24)).heap.size (some ⟨hb, 0, none⟩) 8 (stAfter 32 64 P32 KC (H32 FC) pd i) := ⟨fun _ => ⟨hb, 0, rfl, hIa.h.lt, fun m hm => by rw [Nat.zero_add]; exact hIa.h.cell m hm⟩⟩
                  obtain ⟨v, w8, hap8, ⟨gs, caps, rfl, ho8, _, hg8, hgs⟩⟩ := app_runW 8 93 ho0 hRh (by decide)
                  rw [Nat.zero_add] at hap8 ho8
                  have hg68 : w6.grownBy w8 none := grown_new (grown_trans hg6 ga) hg8 hg6.size
                  have hoV8 : OwnV w8 gv 64 cv (word 32 P32 blk) := (hoV.grown ga (by simp)).grown hg8 (by have := hoV.lt; simp; omega)
                  have hcS : ∀ m, m < 8 → w8.cell? ⟨gs, m, none⟩ = some (.int .u64 ((rnds 32 P32 (fun t => KC t / 2 ^ (64 - 32)) (word 32 P32 blk) (Oct.of (stAfter 32 64 P32 KC (H32 FC) pd i)) 0).get m)) := fun m hm => by
                    rw [ho8.cell m hm]
                    show some (Value.int .u64 (cat 0 _ (stAfter 32 64 P32 KC (H32 FC) pd i) m : Nat)) = some (Value.int .u64 ((Oct.of (stAfter 32 64 P32 KC (H32 FC) pd i)).get m : Nat))
                    rw [Oct.get_of _ _ hm, cat, if_neg (by omega), Nat.sub_zero]
                  have HAP8 := Lib.hid hap8
                  have Hgs : Hid (w6.heap.size ≤ gs) := Lib.hid (by have := hg6.size; have := ga.size; omega)
                  have HcS := Lib.hid hcS
                  clear hap8 hcS ho8 hRh hIa ga ho0 hI7 hoV hg8
                  go_wp2_with (at_builtin; refine wpList_append_run rfl (.tmp 122) (.tmp 123) 93 93 rfl (.slice (some ⟨wr.heap.size, 0, none⟩) 0 0) (.slice (some ⟨hb, 0, none⟩) 8 8) _ _ rfl rfl HAP8.out ?_)
                  go_loopw [17, 18] (fun u17 u18 wq => ∃ (t gs cs : Nat), t ≤ 64 ∧ u18 = .int .i64 t ∧ u17 = .slice (some ⟨gs, 0, none⟩) 8 cs ∧ w6.heap.size ≤ gs ∧
                      (∀ m, m < 8 → wq.cell? ⟨gs, m, none⟩ = some (.int .u64 ((rnds 32 P32 (fun t => KC t / 2 ^ (64 - 32)) (word 32 P32 blk) (Oct.of (stAfter 32 64 P32 KC (H32 FC) pd i)) t).get m))) ∧ OwnV wq gv 64 cv (word 32 P32 blk) ∧ w6.grownBy wq none)
                    (fun _ u18 _ => 64 - (intOf u18).toNat)
                  case atStart => exact ⟨0, gs, caps, by omega, rfl, rfl, Hgs.out, HcS.out, hoV8, hg68⟩
                  case round =>
                    clear hoV8 hg68 hg6
                    obtain ⟨t, gs, cs, ht, rfl, rfl, hgs6, hcv, hoV, hg6⟩ := hrel
                    have Hcv := Lib.hid hcv
                    have Hgs6 := Lib.hid hgs6
                    clear hcv hgs6
                    have hI7 := HI.out.grown hg6
                    by_cases htR : t < 64
                    · have j1 : (t : Int) < 64 := by omega
                      have j2 : (t : Int) < 80 := by omega
                      --CUTBEGIN
                      obtain ⟨kt, hkt⟩ : ∃ k, k = KC t / 2 ^ (64 - 32) := ⟨_, rfl⟩
                      obtain ⟨wt, hwt⟩ : ∃ x, x = word 32 P32 blk t := ⟨_, rfl⟩
                      have ck : wr.drew.cell? ⟨kb, t, none⟩ = some (.int .u64 (KC t)) := hI7.k.cell t (by omega)
                      have cw : wr.drew.cell? ⟨gv, t, none⟩ = some (.int .u64 (wt : Nat)) := by rw [hwt]; exact hoV.cell t htR
                      have hKl := KC_lt t
                      have ktl : kt < 2 ^ 32 := by rw [hkt]; omega
                      have ek : (KC t : Int) / 4294967296 = (kt : Int) := by omega
                      have ek2 : IntKind.u64.wrap (kt : Int) = (kt : Int) := by rw [IntKind.wrap_u64]; omega
                      have hvl : (rnds 32 P32 (fun t => KC t / 2 ^ (64 - 32)) (word 32 P32 blk) (Oct.of (stAfter 32 64 P32 KC (H32 FC) pd i)) t).Lt (2 ^ 32) := rnds_lt _ _ _ _ _ (oct_lt32 _ (stAfter_lt 32 64 P32 KC (H32 FC) pd (fun i => H32_lt FC FC_lt i) i)) t
                      have hrd := round32 gs cs kt wt _ wr.drew (fun m hm => Hcv.out m hm) hvl ktl
                      have hnx : rnds 32 P32 (fun t => KC t / 2 ^ (64 - 32)) (word 32 P32 blk) (Oct.of (stAfter 32 64 P32 KC (H32 FC) pd i)) (t + 1) = rnd 32 P32 kt wt (rnds 32 P32 (fun t => KC t / 2 ^ (64 - 32)) (word 32 P32 blk) (Oct.of (stAfter 32 64 P32 KC (H32 FC) pd i)) t) := by rw [hkt, hwt]; rfl
                      have HRD := Lib.hid hrd
                      have Hnx := Lib.hid hnx
                      have hoD : OwnV wr.drew gv 64 cv (word 32 P32 blk) := hoV.of_block rfl hoV.lt
                      have hgD := grown_drew hg6
                      clear hrd hnx hvl hkt hwt hI7 hKl ktl
                      generalize KC t = kct at *
                      go_wp2_with fail
                      refine wp_region_still_tail 12 (by kernel_rfl) (by kernel_rfl) ?_
                      change wpStill _ _ wr.drew (fun a' => wpList _ _ _ _ a' wr.drew) _ _
                      clear hoV hg6 Hcv
                      generalize wr.drew = w4 at *
                      simp only [List.take_succ_cons, List.take_zero, List.drop_succ_cons, List.drop_zero]
                      repeat still_step
                      refine wpStill_nil ?_
                      go_wp2_with fail
                      go_at_call 53
                      with_reducible refine (HRD.out).mono ?_
                      rintro e w5 ⟨gr, rfl, hgr5, hH5, hg5⟩
                      have hoV5 := hoD.grown hg5 (by simp)
                      have hg65 := grown_trans hgD hg5
                      have Hc5 : Hid (∀ m, m < 8 → w5.cell? ⟨gr, m, none⟩ = some (.int .u64 ((rnds 32 P32 (fun t => KC t / 2 ^ (64 - 32)) (word 32 P32 blk) (Oct.of (stAfter 32 64 P32 KC (H32 FC) pd i)) (t + 1)).get m))) := Lib.hid fun m hm => by rw [Hnx.out]; exact hH5.cell m hm
                      have Hgr6 : Hid (w6.heap.size ≤ gr) := Lib.hid (Nat.le_trans hgD.size hgr5)
                      clear hH5 hoD hgD hg5 hgr5 ck cw ek2
                      go_wp2_with fail
                      exact ⟨⟨t + 1, gr, 8, by omega, by go_num, rfl, Hgr6.out, Hc5.out, hoV5, hg65⟩, by simp [intOf]; omega⟩
                    --CUTEND
                    · have htE : t = 64 := by omega
                      have j1 : (64 : Int) ≤ t := by omega
                      subst htE
                      clear htR ht
                      have hst1 : stAfter 32 64 P32 KC (H32 FC) pd (i + 1) = compress 32 64 P32 KC (stAfter 32 64 P32 KC (H32 FC) pd i) blk := by rw [Hblk.out]; rfl
                      obtain ⟨st, hst⟩ : ∃ f, f = stAfter 32 64 P32 KC (H32 FC) pd i := ⟨_, rfl⟩
                      obtain ⟨vf, hvf⟩ : ∃ f, f = (rnds 32 P32 (fun t => KC t / 2 ^ (64 - 32)) (word 32 P32 blk) (Oct.of (stAfter 32 64 P32 KC (H32 FC) pd i)) 64).get := ⟨_, rfl⟩
                      have hcs : ∀ j, stAfter 32 64 P32 KC (H32 FC) pd (i + 1) j = (st j + vf j) % 2 ^ 32 := fun j => by rw [hst1, hst, hvf]; rfl
                      have hstl : ∀ j, st j < 2 ^ 32 := fun j => by rw [hst]; exact stAfter_lt 32 64 P32 KC (H32 FC) pd (fun i => H32_lt FC FC_lt i) i j
                      have hvfl : ∀ j, j < 8 → vf j < 2 ^ 32 := fun j hj => by
                        rw [hvf]
                        exact oct_get_lt32 _ (rnds_lt _ _ _ _ _ (oct_lt32 _ (stAfter_lt 32 64 P32 KC (H32 FC) pd (fun i => H32_lt FC FC_lt i) i)) 64) j
                      have Hcv7 : Hid (∀ m, m < 8 → wr.cell? ⟨gs, m, none⟩ = some (.int .u64 (vf m : Nat))) := Lib.hid fun m hm => by rw [hvf]; exact Hcv.out m hm
                      rw [← hst] at hI7
                      have Hcs := Lib.hid hcs
                      have Hstl := Lib.hid hstl
                      have Hvfl := Lib.hid hvfl
                      clear hst1 hcs hstl hvfl hvf hst hoV hg6
                      go_wp2_with fail
                      go_loopw [19] (fun u19 wq => ∃ m : Nat, m ≤ 8 ∧ u19 = .int .i64 m ∧ Inv32 w wq hb kb al cap T (fun j => if j < m then (st j + vf j) % 2 ^ 32 else st j) pd ∧ (∀ j, j < 8 → wq.cell? ⟨gs, j, none⟩ = some (.int .u64 (vf j : Nat)))) (fun u19 _ => 8 - (intOf u19).toNat)
                      case atStart => exact ⟨0, by omega, rfl, ⟨hI7.h.congr (fun j _ => by rw [if_neg (by omega)]), hI7.k, hI7.p, hI7.g⟩, Hcv7.out⟩
                      case round =>
                        clear hI7
                        obtain ⟨m, hm, rfl, hI7, hcv⟩ := hrel
                        have HI7 := Lib.hid hI7
                        have Hcv8 := Lib.hid hcv
                        clear hI7 hcv
                        by_cases hm8 : m < 8
                        · have j1 : (m : Int) < 8 := by omega
                          --CUTBEGIN
                          have ch : wr.drew.cell? ⟨hb, m, none⟩ = some (.int .u64 (st m : Nat)) := by
                            have := HI7.out.h.cell m hm8
                            rw [if_neg (by omega)] at this
                            exact this
                          have cv' : wr.drew.cell? ⟨gs, m, none⟩ = some (.int .u64 (vf m : Nat)) := Hcv8.out m hm8
                          have fh : wr.drew.frozen? ⟨hb, m, none⟩ = false := HI7.out.h.frozen m
                          have l1 := Hstl.out m
                          have l2 := Hvfl.out m hm8
                          obtain ⟨y, hy⟩ : ∃ y, y = (st m + vf m) % 2 ^ 64 := ⟨_, rfl⟩
                          obtain ⟨z, hz⟩ : ∃ z, z = (st m + vf m) % 2 ^ 32 := ⟨_, rfl⟩
                          have ey : IntKind.u64.wrap ((st m : Int) + (vf m : Int)) = (y : Int) := by rw [IntKind.wrap_u64]; omega
                          have QC : Hid (∀ W : World, Calls Tryd.prog 51 #[.int .u64 y, .int .i64 32] W fun e w' => e = .returned (.int .u64 z) ∧ w' = W) := Lib.hid fun W => (cut32 y z (by omega) (by omega) W).mono fun _ _ h => ⟨h.1, h.2.symm⟩
                          have Hz := Lib.hid hz
                          have HhD : Hid (Holds wr.drew hb 24 .u64 8 (fun j => if j < m then (st j + vf j) % 2 ^ 32 else st j)) := Lib.hid HI7.out.h.drew
                          have HkD : Hid (Holds wr.drew kb 24 .u64 80 KC) := Lib.hid HI7.out.k.drew
                          have HpD : Hid (OwnR wr.drew al T cap pd) := Lib.hid (HI7.out.p.of_block rfl HI7.out.p.lt)
                          have HgD : Hid (w.grownBy wr.drew none) := Lib.hid (grown_drew HI7.out.g)
                          have HcD : Hid (∀ j, j < 8 → wr.drew.cell? ⟨gs, j, none⟩ = some (.int .u64 (vf j : Nat))) := Lib.hid fun j hj => Hcv8.out j hj
                          clear hy hz l1 l2
                          generalize st m = sm at ch ey
                          generalize vf m = vm at cv' ey
                          go_wp2_with fail
                          refine wp_region_still_tail 14 (by kernel_rfl) (by kernel_rfl) ?_
                          change wpStill _ _ wr.drew (fun a' => wpList _ _ _ _ a' wr.drew) _ _
                          clear HI7 Hcv8
                          generalize wr.drew = w4 at *
                          simp only [List.take_succ_cons, List.take_zero, List.drop_succ_cons, List.drop_zero]
                          repeat still_step
                          still_call (QC.out _)
                          repeat still_step
                          refine wpStill_nil ?_
                          have h5 := HhD.out.set m z
                          have H5h : Holds (w4.setCell ⟨hb, m, none⟩ (.int .u64 (z : Nat))) hb 24 .u64 8 (fun j => if j < m + 1 then (st j + vf j) % 2 ^ 32 else st j) := h5.congr (fun j hj => by
                            by_cases e : j = m
                            · subst e; rw [upd_same, if_pos (by omega), Hz.out]
                            · rw [upd_other _ _ _ _ e]
                              by_cases e2 : j < m
                              · rw [if_pos e2, if_pos (by omega)]
                              · rw [if_neg e2, if_neg (by omega)])
                          have H5 : Hid (Inv32 w (w4.setCell ⟨hb, m, none⟩ (.int .u64 (z : Nat))) hb kb al cap T (fun j => if j < m + 1 then (st j + vf j) % 2 ^ 32 else st j) pd) := Lib.hid
                            ⟨H5h, HkD.out.setOther ⟨hb, m, none⟩ _ (by show kb ≠ hb; exact Ne.symm Hhk.out), HpD.out.of_block (heap_setCell_other w4 _ al _ (by show al ≠ hb; have := Hh1.out; omega)) (by simpa [World.setCell] using HpD.out.lt),
                              grown_setCell_new HgD.out ⟨hb, m, none⟩ _ (Or.inl Hhb.out)⟩
                          have Hc5 : Hid (∀ j, j < 8 → (w4.setCell ⟨hb, m, none⟩ (.int .u64 (z : Nat))).cell? ⟨gs, j, none⟩ = some (.int .u64 (vf j : Nat))) := Lib.hid fun j hj => cell_set (HcD.out j hj) (fun e => by have h1 := HI.out.h.lt; have h2 := Hgs6.out; injection e; omega)
                          clear h5 H5h
                          go_wp2_with fail
                          go_roundw
                          case rel => first
                            | exact ⟨m + 1, by omega, by go_num, H5.out, Hc5.out⟩
                            | ((repeat apply Exists.intro); exact ⟨⟨m + 1, by omega, by go_num, H5.out, Hc5.out⟩, rfl⟩)
                          case measure => simp [intOf]; omega
                        --CUTEND
                        · have hmE : m = 8 := by omega
                          have j1 : (8 : Int) ≤ m := by omega
                          subst hmE
                          clear hm8 hm
                          have hq2 : q + 64 = 64 * (i + 1) := by have := hq.out; omega
                          have HI9 : Hid (Inv32 w wr hb kb al cap T (stAfter 32 64 P32 KC (H32 FC) pd (i + 1)) pd) := Lib.hid ⟨HI7.out.h.congr (fun j hj => by rw [if_pos hj, Hcs.out j]), HI7.out.k, HI7.out.p, HI7.out.g⟩
                          have Hq2 := Lib.hid hq2
                          have hi9 : i + 1 ≤ nb := by have h1 := Hlt.out; have h2 := HT.out; have h3 := hq.out; omega
                          clear hq2
                          go_wp2_with fail
                          exact ⟨⟨i + 1, q + 64, hi9, by go_num, Hq2, HI9.out⟩, by have := Hlt.out; simp [intOf]; omega⟩
        · have hiE : i = nb := by have h1 := HT.out; have h2 := hq.out; omega
          have i1 : (T : Int) ≤ q := by omega
          have i3 : decide ((q : Int) < (T : Int)) = false := by rw [decide_eq_false_iff_not]; omega
          have i4 : decide (q < T) = false := by rw [decide_eq_false_iff_not]; omega
          subst hiE
          generalize wr = w6 at *
          obtain ⟨st, hst⟩ : ∃ f, f = stAfter 32 64 P32 KC (H32 FC) pd i := ⟨_, rfl⟩
          have hstl : ∀ j, st j < 2 ^ 32 := fun j => by rw [hst]; exact stAfter_lt 32 64 P32 KC (H32 FC) pd (fun i => H32_lt FC FC_lt i) i j
          rw [← hst] at hI
          have hsum : sumOf 32 64 P32 KC (H32 FC) g N = fun x => st (x / 4) / 2 ^ (8 * (4 - 1 - x % 4)) % 256 := by
            rw [hst, ← HPD.out, ← HNB.out]; rfl
          have HI := Lib.hid hI
          have Hstl := Lib.hid hstl
          have Hsum := Lib.hid hsum
          clear hsum hstl hst hI hlt hi hq
          generalize hout : (fun x => st (x / 4) / 2 ^ (8 * (4 - 1 - x % 4)) % 256) = outF at Hsum
          have Hout := Lib.hid hout
          clear hout
          go_wp2_with fail
          go_loopw [20, 21] (fun u20 u21 wq => ∃ m : Nat, m ≤ 8 ∧ u21 = .int .i64 m ∧ OwnN wq w6.heap.size u20 (m * 4) outF ∧ w6.grownBy wq none) (fun _ u21 _ => 8 - (intOf u21).toNat)
          case atStart => exact ⟨0, by omega, rfl, OwnN.nil _ _ _, grown_refl _ _⟩
          case round =>
            obtain ⟨m, hm, rfl, hoB, hg6⟩ := hrel
            by_cases hm8 : m < 8
            · have j1 : (m : Int) < 8 := by omega
              go_wp2_with fail
              go_loopw [20, 22] (fun u20 u22 wq => ∃ s : Nat, s ≤ 4 ∧ u22 = .int .i64 ((s : Int) - 1) ∧ OwnN wq w6.heap.size u20 (m * 4 + (4 - s)) outF ∧ w6.grownBy wq none) (fun _ u22 _ => (intOf u22 + 1).toNat)
              case atStart => exact ⟨4, by omega, rfl, by simpa using hoB, hg6⟩
              case round =>
                clear hoB hg6
                obtain ⟨s, hs, rfl, hoB, hg6⟩ := hrel
                by_cases hs0 : s = 0
                · have hs1 : (s : Int) - 1 < 0 := by omega
                  have ho2 : OwnN wr w6.heap.size u20 ((m + 1) * 4) outF := by
                    rw [show (m + 1) * 4 = m * 4 + (4 - s) by omega]; exact hoB
                  clear hs0 hs hoB
                  go_wp2_with fail
                  exact ⟨⟨m + 1, by omega, by go_num, ho2, hg6⟩, by simp [intOf]; omega⟩
                · obtain ⟨j, rfl⟩ : ∃ j, s = j + 1 := ⟨s - 1, by omega⟩
                  have e1 : ((j + 1 : Nat) : Int) - 1 = (j : Int) := by omega
                  rw [e1]
                  have hj : j < 4 := by omega
                  have ij : (j : Int) < 4 := by omega
                  have ch : wr.drew.cell? ⟨hb, m, none⟩ = some (.int .u64 (st m : Nat)) := (HI.out.h.grown hg6 (by simp)).cell m hm8
                  have hsl := Hstl.out m
                  obtain ⟨P, hP⟩ : ∃ P, P = 2 ^ (8 * j) := ⟨_, rfl⟩
                  have hP0 : 0 < P := by rw [hP]; exact Nat.two_pow_pos _
                  obtain ⟨y, hy⟩ : ∃ y, y = st m / P := ⟨_, rfl⟩
                  obtain ⟨z, hz⟩ : ∃ z, z = y % 256 := ⟨_, rfl⟩
                  have hyl : y < 2 ^ 32 := by rw [hy]; exact Nat.lt_of_le_of_lt (Nat.div_le_self _ _) hsl
                  have iP : (0 : Int) < P := by omega
                  have iP2 : P ≠ 0 := by omega
                  have e8 : IntKind.i64.wrap (8 * (j : Int)) = 8 * (j : Int) := by rw [IntKind.wrap_i64]; omega
                  have ey0 : (st m : Int) / (P : Int) = (y : Int) := by rw [hy]; norm_cast
                  have ey1 : (st m : Int).tdiv (P : Int) = (y : Int) := by rw [Int.tdiv_eq_ediv_of_nonneg (by omega)]; exact ey0
                  have ey : IntKind.u64.wrap (y : Int) = (y : Int) := by rw [IntKind.wrap_u64]; omega
                  have ez0 : (y : Int) % 256 = (z : Int) := by omega
                  have ez1 : (y : Int).tmod 256 = (z : Int) := by rw [Int.tmod_eq_emod_of_nonneg (by omega)]; exact ez0
                  have ez : IntKind.u8.wrap (z : Int) = (z : Int) := by rw [IntKind.wrap_u8]; omega
                  have QP : Hid (∀ W : World, Calls Tryd.prog 49 #[.int .i64 (8 * (j : Int))] W fun e w' => e = .returned (.int .u64 P) ∧ W = w') := Lib.hid fun W => power_any _ (8 * j) P (by omega) (by omega) hP W
                  have Hzo : Hid (z = outF (m * 4 + (4 - (j + 1)))) := Lib.hid (by
                    rw [← Hout.out, hz, hy, hP]
                    show _ = st ((m * 4 + (4 - (j + 1))) / 4) / 2 ^ (8 * (4 - 1 - (m * 4 + (4 - (j + 1))) % 4)) % 256
                    rw [show (m * 4 + (4 - (j + 1))) / 4 = m by omega, show 4 - 1 - (m * 4 + (4 - (j + 1))) % 4 = j by omega])
                  have hS0 : Hid (OwnN wr.drew w6.heap.size u20 (m * 4 + (4 - (j + 1))) outF ∧ w6.grownBy wr.drew none ∧ wr.drew.cell? ⟨hb, m, none⟩ = some (.int .u64 (st m : Nat))) := Lib.hid ⟨hoB.grown (grown_drew (grown_refl wr none)), grown_drew hg6, ch⟩
                  have HS : Hid (∀ W W' : World, W.grownBy W' none → (OwnN W w6.heap.size u20 (m * 4 + (4 - (j + 1))) outF ∧ w6.grownBy W none ∧ W.cell? ⟨hb, m, none⟩ = some (.int .u64 (st m : Nat))) → (OwnN W' w6.heap.size u20 (m * 4 + (4 - (j + 1))) outF ∧ w6.grownBy W' none ∧ W'.cell? ⟨hb, m, none⟩ = some (.int .u64 (st m : Nat)))) :=
                    Lib.hid fun W W' h1 h2 => ⟨h2.1.grown h1, grown_trans h2.2.1 h1, h1.cell h2.2.2 (by simp)⟩
                  have HAP : Hid (∀ (W : World) (B : Nat), OwnN W w6.heap.size u20 (m * 4 + (4 - (j + 1))) outF → w6.grownBy W none → W.cell? ⟨B, 0, none⟩ = some (.int .u8 (z : Nat)) → ∃ v' w', (Builtin.append_ #[23, 23] 23 #[u20, .slice (some ⟨B, 0, none⟩) 1 1]).run Tryd.prog W = .ok v' w' ∧
                      OwnN w' w6.heap.size v' (m * 4 + (4 - j)) outF ∧ (OwnN w' w6.heap.size u20 (m * 4 + (4 - (j + 1))) outF ∧ w6.grownBy w' none ∧ w'.cell? ⟨hb, m, none⟩ = some (.int .u64 (st m : Nat)))) := Lib.hid fun W B h1 h2 h3 => by
                    have hR1 : Rd W W.heap.size (some ⟨B, 0, none⟩) 1 (fun _ => z) := ⟨fun _ => ⟨B, 0, rfl, World.block_lt_of_cell? W _ h3, fun i hi => by
                      obtain rfl : i = 0 := by omega
                      exact h3⟩⟩
                    obtain ⟨v', w', hr, k1, k2, k3⟩ := app_N 1 23 h2 h1 hR1 (by omega) (by decide)
                    have e3 : m * 4 + (4 - j) = m * 4 + (4 - (j + 1)) + 1 := by omega
                    refine ⟨v', w', hr, ?_, k2, k3, (HI.out.h.grown k3 (by simp)).cell m hm8⟩
                    rw [e3]
                    obtain ⟨ex⟩ := k1
                    refine ⟨ex.imp id (fun ⟨g0, c0, q1, q2, q3⟩ => ⟨g0, c0, q1, q2.congr (fun x hx => ?_), q3⟩)⟩
                    unfold cat
                    by_cases e : x < m * 4 + (4 - (j + 1))
                    · rw [if_pos e]
                    · have e4 : x = m * 4 + (4 - (j + 1)) := by omega
                      rw [if_neg e, e4, Hzo.out]
                  clear hz hy hyl hP hP0 hsl hoB hg6 e1 hs hs0 hj ch
                  generalize st m = sm at *
                  go_wp2_with fail
                  go_region_held3 (fun w' => OwnN w' w6.heap.size u20 (m * 4 + (4 - (j + 1))) outF ∧ w6.grownBy w' none ∧ w'.cell? ⟨hb, m, none⟩ = some (.int .u64 (sm : Nat)))
                    (first
                      | (with_reducible exact hS0.out)
                      | (with_reducible assumption)
                      | (with_reducible exact hv3)
                      | (have k0 := ‹OwnN _ w6.heap.size u20 (m * 4 + (4 - (j + 1))) outF ∧ _›; with_reducible exact HS.out _ _ (World.grownBy_alloc _ _ none) k0))
                    (first
                      | (go_at_call 49; (with_reducible refine (QP.out _).mono ?_); rintro e w' ⟨rfl, rfl⟩)
                      | (have k0 := ‹OwnN _ w6.heap.size u20 (m * 4 + (4 - (j + 1))) outF ∧ _›; obtain ⟨v9, w9, hapn, hv9, hv3⟩ := HAP.out _ _ k0.1 k0.2.1 (by first | exact new_cellN32 k0.1 | exact new_cellND32 k0.1);
                         refine step_append_runW rfl (.tmp 172) (.tmp 183) 23 23 rfl u20 (.slice (some ⟨_, 0, none⟩) 1 1) _ _ rfl rfl hapn ?_))
                  all_goals
                    have hg9 := hv3.2.1
                    clear hv3 hapn
                    go_wp2_with fail
                    go_roundw
                    case rel => first
                      | exact ⟨j, by omega, rfl, hv9, hg9⟩
                      | ((repeat apply Exists.intro); exact ⟨⟨j, by omega, rfl, hv9, hg9⟩, rfl⟩)
                    case measure => simp [intOf]
            · have hmE : m = 8 := by omega
              have j1 : (8 : Int) ≤ m := by omega
              subst hmE
              clear hm8 hm
              go_wp2_with fail
              go_ret
              have hs := HI.out.g
              exact ⟨_, rfl, by rw [Hsum.out]; exact hoB.base hs.size, grown_trans hs hg6⟩

end Go.Proofs.YtobaplndoaeoiaaDoor
namespace Go.Proofs.YtobaplndoaeoiaaDoor
open Go.RowKit

set_option maxRecDepth 100000
set_option maxHeartbeats 1000000

theorem rsize32 (w : World) : Calls Tryd.prog 33 #[.int .u8 1] w fun e w' => e = .returned (.int .i64 32) ∧ w = w' := by
  go_enter Tryd.func33, Tryd.ntmps33
  go_wp2
  go_ret
  exact ⟨rfl, rfl⟩

theorem rsum2_32 (N c : Nat) (a : Option Addr) (g : Nat → Nat) (w : World) (hR : Rd w w.heap.size a N g) (hg : ∀ i, g i < 256) (hN : N ≤ 2 ^ 40) :
    Calls Tryd.prog 34 #[.int .u8 1, .slice a N c] w (GaveN w 32 (sumOf 32 64 P32 KC (H32 FC) g N)) := by
  have hs := rsum32 N c a g w hR hg hN
  have HS := Lib.hid hs
  clear hs
  go_enter Tryd.func34, Tryd.ntmps34
  go_wp2_with (first
    | (go_at_call 33; refine (rsize32 _).mono ?_; rintro e w' ⟨rfl, rfl⟩)
    | (go_at_call 40; (with_reducible refine (HS.out).mono ?_); rintro e w1 ⟨v, rfl, hv, g1⟩))
  go_ret
  exact ⟨v, rfl, hv, g1⟩

theorem OwnN.toR32 {w : World} {base : Nat} {v : Value} {n : Nat} {f : Nat → Nat} (h : OwnN w base v n f) (hn : 0 < n) : ∃ g cap, v = .slice (some ⟨g, 0, none⟩) n cap ∧ OwnR w g n cap f ∧ base ≤ g := by
  rcases h.ex with ⟨_, rfl⟩ | h
  · omega
  · exact h

theorem rkey32 (x L c : Nat) (a : Option Addr) (key : Nat → Nat) (w : World) (hx : x < 256) (hR : Rd w w.heap.size a L key) (hk : ∀ i, key i < 256) (hL : L ≤ 2 ^ 40) :
    Calls Tryd.prog 35 #[.int .u8 1, .slice a L c, .int .u8 x] w (GaveR32 w 64 (fun i => x ^^^ padKey32 FC KC L key i)) := by
  have ga := World.grownBy_alloc w (.cells #[] 5) none
  obtain ⟨g1, cap1, w1, hap1, ho1, hg1, hb1⟩ := app_next32 (w0 := w) c 23 ga (Nat.le_refl _) (ownR_empty w) (hR.up (Nat.le_refl _) ga) (by omega)
  rw [Nat.zero_add] at hap1 ho1
  have ho1' : OwnR w1 g1 L cap1 key := ho1.congr (fun i hi => by unfold cat; rw [if_neg (by omega), Nat.sub_zero])
  have HAP1 := Lib.hid hap1
  have i1 : (L : Int) ≤ 1099511627776 := by omega
  have hpl : ∀ i, padKey32 FC KC L key i < 256 := padKey_lt32 FC KC L key hk
  have Hpl := Lib.hid hpl
  have Hx := Lib.hid hx
  -- what stands behind the first part: the bytes at hand are the key's block's first ones
  have part : ∃ k0 : Nat, k0 ≤ 64 ∧ (∀ i, k0 ≤ i → padKey32 FC KC L key i = 0) ∧ ((64 < L ∧ k0 = 32) ∨ (¬ 64 < L ∧ k0 = L)) := by
    by_cases h : 64 < L
    · exact ⟨32, by omega, fun i hi => by simp only [padKey32, if_pos h, if_neg (show ¬ i < 32 by omega)], Or.inl ⟨h, rfl⟩⟩
    · exact ⟨L, by omega, fun i hi => by simp only [padKey32, if_neg h, if_neg (show ¬ i < L by omega)], Or.inr ⟨h, rfl⟩⟩
  obtain ⟨k0, hk0, hz0, hcase⟩ := part
  have Hz0 := Lib.hid hz0
  clear hz0 hpl hx hap1 ho1 ga
  rcases hcase with ⟨hbig, rfl⟩ | ⟨hbig, rfl⟩
  · have i2 : (64 : Int) < L := by omega
    have hs := rsum2_32 L cap1 _ key w1 ho1'.rd hk hL
    have HS := Lib.hid hs
    have hpk : ∀ i, i < 32 → sumOf 32 64 P32 KC (H32 FC) key L i = padKey32 FC KC L key i := fun i hi => by simp only [padKey32, if_pos hbig, if_pos hi]
    have Hpk := Lib.hid hpk
    clear hs hpk hbig hk0
    generalize hpf : padKey32 FC KC L key = pf at *
    generalize sumOf 32 64 P32 KC (H32 FC) key L = sf at *
    clear hpf
    go_enter Tryd.func35, Tryd.ntmps35
    go_wp2_with (first
      | (at_builtin; refine wpList_append_run rfl (.tmp 9) (.tmp 10) 23 23 rfl (.slice (some ⟨w.heap.size, 0, none⟩) 0 0) (.slice a L c) _ _ rfl rfl HAP1.out ?_)
      | (go_at_call 33; refine (rsize32 _).mono ?_; rintro e w' ⟨rfl, rfl⟩)
      | (go_at_call 34; (with_reducible refine (HS.out).mono ?_); rintro e w2 ⟨v2, rfl, hv2, g2⟩))
    obtain ⟨g2', cap2, rfl, ho2, hb2⟩ := hv2.toR32 (by decide)
    have hoS : OwnR w2 g2' 32 cap2 pf := ho2.congr (fun i hi => Hpk.out i hi)
    have hgS := grown_trans hg1 g2
    have hbS : w.heap.size ≤ g2' := Nat.le_trans hg1.size hb2
    clear hv2 ho2 hb2 g2 HS ho1' hg1 hb1
    clear HAP1
    go_loopw [7] (fun u7 wq => ∃ (k gg cap : Nat), u7 = .slice (some ⟨gg, 0, none⟩) k cap ∧ 32 ≤ k ∧ k ≤ 64 ∧ OwnR wq gg k cap pf ∧ w.grownBy wq none ∧ w.heap.size ≤ gg) (fun u7 _ => match u7 with | .slice _ k _ => 64 - k | _ => 0)
    case atStart => exact ⟨32, _, _, rfl, Nat.le_refl _, by omega, hoS, hgS, hbS⟩
    case round =>
      clear hoS hgS hbS
      obtain ⟨k, gg, cap, rfl, hk1, hk2, ho, hgr, hgb⟩ := hrel
      by_cases hkb : k < 64
      · have j1 : (k : Int) < 64 := by omega
        have gb := World.grownBy_alloc wr (.cells #[.int .u8 0] 5) none
        have bb := heap_alloc_new wr (.cells #[.int .u8 0] 5)
        have hR1 : Rd (wr.alloc (.cells #[.int .u8 0] 5)) (wr.heap.size + 1) (some ⟨wr.heap.size, 0, none⟩) 1 (fun _ => 0) := ⟨fun _ => ⟨wr.heap.size, 0, rfl, by omega, fun i hi => by
          obtain rfl : i = 0 := by omega
          rw [cell_of_row _ _ _ _ _ _ bb]; rfl⟩⟩
        obtain ⟨g3, cap3, w3, hap3, ho3, hg3, hb3⟩ := app_next32 (w0 := w) 1 23 (grown_trans hgr gb) hgb (ho.grown gb (by simp)) hR1 (by omega)
        have ho3' : OwnR w3 g3 (k + 1) cap3 pf := ho3.congr (fun i hi => by
          unfold cat
          by_cases e : i < k
          · rw [if_pos e]
          · obtain rfl : i = k := by omega
            rw [if_neg e, Hz0.out i hk1])
        have HAP3 := Lib.hid hap3
        clear hap3 ho3 hR1 bb gb
        go_wp2_with (first
          | (go_at_call 33; refine (rsize32 _).mono ?_; rintro e w' ⟨rfl, rfl⟩)
          | (at_builtin; refine wpList_append_run rfl (.tmp 27) (.tmp 28) 23 23 rfl (.slice (some ⟨gg, 0, none⟩) k cap) (.slice (some ⟨wr.heap.size, 0, none⟩) 1 1) _ _ rfl rfl HAP3.out ?_))
        exact ⟨⟨k + 1, g3, cap3, rfl, by omega, by omega, ho3', hg3, hb3⟩, by show 64 - (k + 1) < 64 - k; omega⟩
      · have hkE : k = 64 := by omega
        have j1 : (64 : Int) ≤ k := by omega
        subst hkE
        clear hkb hk1 hk2
        go_wp2_with (go_at_call 33; refine (rsize32 _).mono ?_; rintro e w' ⟨rfl, rfl⟩)
        go_loopw [8] (fun u8 wq => ∃ i : Nat, i ≤ 64 ∧ u8 = .int .i64 i ∧ OwnR wq gg 64 cap (fun j => if j < i then x ^^^ pf j else pf j) ∧ w.grownBy wq none) (fun u8 _ => 64 - (intOf u8).toNat)
        case atStart => exact ⟨0, by omega, rfl, ho.congr (fun j _ => by rw [if_neg (by omega)]), hgr⟩
        case round =>
          clear ho hgr
          obtain ⟨i, hi, rfl, ho, hgr⟩ := hrel
          by_cases hib : i < 64
          · have j2 : (i : Int) < 64 := by omega
            have ci := ho.cell i hib
            rw [if_neg (by omega)] at ci
            have fi := ho.free i
            obtain ⟨z, hz⟩ : ∃ z, z = x ^^^ pf i := ⟨_, rfl⟩
            have ez : bits .xor .u8 (pf i : Int) (x : Int) = (z : Int) := by rw [bits_xor_u8 _ _ (Hpl.out i) Hx.out, hz, Nat.xor_comm]
            have O5 := ho.set i z hib
            have O6 : OwnR (wr.setCell ⟨gg, i, none⟩ (.int .u8 (z : Nat))) gg 64 cap (fun j => if j < i + 1 then x ^^^ pf j else pf j) := O5.congr (fun j hj => by
              by_cases e : j = i
              · subst e; rw [upd_same, if_pos (by omega), hz]
              · rw [upd_other _ _ _ _ e]
                by_cases e2 : j < i
                · rw [if_pos e2, if_pos (by omega)]
                · rw [if_neg e2, if_neg (by omega)])
            have G5 := grown_setCell_new hgr ⟨gg, i, none⟩ (.int .u8 (z : Nat)) (Or.inl hgb)
            generalize pf i = pi at ci ez
            clear O5 hz
            go_wp2_with fail
            first
              | exact ⟨⟨i + 1, by omega, by go_num, O6, G5⟩, by simp [intOf]; omega⟩
              | (go_roundw
                 case rel => exact ⟨i + 1, by omega, by go_num, O6, G5⟩
                 case measure => simp [intOf]; omega)
          · have hiE : i = 64 := by omega
            have j2 : (64 : Int) ≤ i := by omega
            subst hiE
            have ho9 : OwnR wr gg 64 cap (fun i => x ^^^ pf i) := ho.congr (fun j hj => by rw [if_pos hj])
            clear hib hi ho
            go_wp2_with fail
            go_ret
            exact ⟨gg, cap, rfl, ho9, hgr, hgb⟩
  · have i2 : (k0 : Int) ≤ 64 := by omega
    have hoS : OwnR w1 g1 k0 cap1 (padKey32 FC KC k0 key) := ho1'.congr (fun i hi => by simp only [padKey32, if_neg hbig, if_pos hi])
    have hgS := hg1
    have hbS := hb1
    clear ho1' hg1 hb1 hbig
    generalize hpf : padKey32 FC KC k0 key = pf at *
    clear hpf
    go_enter Tryd.func35, Tryd.ntmps35
    go_wp2_with (first
      | (at_builtin; refine wpList_append_run rfl (.tmp 9) (.tmp 10) 23 23 rfl (.slice (some ⟨w.heap.size, 0, none⟩) 0 0) (.slice a k0 c) _ _ rfl rfl HAP1.out ?_)
      | (go_at_call 33; refine (rsize32 _).mono ?_; rintro e w' ⟨rfl, rfl⟩))
    clear HAP1
    go_loopw [7] (fun u7 wq => ∃ (k gg cap : Nat), u7 = .slice (some ⟨gg, 0, none⟩) k cap ∧ k0 ≤ k ∧ k ≤ 64 ∧ OwnR wq gg k cap pf ∧ w.grownBy wq none ∧ w.heap.size ≤ gg) (fun u7 _ => match u7 with | .slice _ k _ => 64 - k | _ => 0)
    case atStart => exact ⟨k0, _, _, rfl, Nat.le_refl _, by omega, hoS, hgS, hbS⟩
    case round =>
      clear hoS hgS hbS
      obtain ⟨k, gg, cap, rfl, hk1, hk2, ho, hgr, hgb⟩ := hrel
      by_cases hkb : k < 64
      · have j1 : (k : Int) < 64 := by omega
        have gb := World.grownBy_alloc wr (.cells #[.int .u8 0] 5) none
        have bb := heap_alloc_new wr (.cells #[.int .u8 0] 5)
        have hR1 : Rd (wr.alloc (.cells #[.int .u8 0] 5)) (wr.heap.size + 1) (some ⟨wr.heap.size, 0, none⟩) 1 (fun _ => 0) := ⟨fun _ => ⟨wr.heap.size, 0, rfl, by omega, fun i hi => by
          obtain rfl : i = 0 := by omega
          rw [cell_of_row _ _ _ _ _ _ bb]; rfl⟩⟩
        obtain ⟨g3, cap3, w3, hap3, ho3, hg3, hb3⟩ := app_next32 (w0 := w) 1 23 (grown_trans hgr gb) hgb (ho.grown gb (by simp)) hR1 (by omega)
        have ho3' : OwnR w3 g3 (k + 1) cap3 pf := ho3.congr (fun i hi => by
          unfold cat
          by_cases e : i < k
          · rw [if_pos e]
          · obtain rfl : i = k := by omega
            rw [if_neg e, Hz0.out i hk1])
        have HAP3 := Lib.hid hap3
        clear hap3 ho3 hR1 bb gb
        go_wp2_with (first
          | (go_at_call 33; refine (rsize32 _).mono ?_; rintro e w' ⟨rfl, rfl⟩)
          | (at_builtin; refine wpList_append_run rfl (.tmp 27) (.tmp 28) 23 23 rfl (.slice (some ⟨gg, 0, none⟩) k cap) (.slice (some ⟨wr.heap.size, 0, none⟩) 1 1) _ _ rfl rfl HAP3.out ?_))
        exact ⟨⟨k + 1, g3, cap3, rfl, by omega, by omega, ho3', hg3, hb3⟩, by show 64 - (k + 1) < 64 - k; omega⟩
      · have hkE : k = 64 := by omega
        have j1 : (64 : Int) ≤ k := by omega
        subst hkE
        clear hkb hk1 hk2
        go_wp2_with (go_at_call 33; refine (rsize32 _).mono ?_; rintro e w' ⟨rfl, rfl⟩)
        go_loopw [8] (fun u8 wq => ∃ i : Nat, i ≤ 64 ∧ u8 = .int .i64 i ∧ OwnR wq gg 64 cap (fun j => if j < i then x ^^^ pf j else pf j) ∧ w.grownBy wq none) (fun u8 _ => 64 - (intOf u8).toNat)
        case atStart => exact ⟨0, by omega, rfl, ho.congr (fun j _ => by rw [if_neg (by omega)]), hgr⟩
        case round =>
          clear ho hgr
          obtain ⟨i, hi, rfl, ho, hgr⟩ := hrel
          by_cases hib : i < 64
          · have j2 : (i : Int) < 64 := by omega
            have ci := ho.cell i hib
            rw [if_neg (by omega)] at ci
            have fi := ho.free i
            obtain ⟨z, hz⟩ : ∃ z, z = x ^^^ pf i := ⟨_, rfl⟩
            have ez : bits .xor .u8 (pf i : Int) (x : Int) = (z : Int) := by rw [bits_xor_u8 _ _ (Hpl.out i) Hx.out, hz, Nat.xor_comm]
            have O5 := ho.set i z hib
            have O6 : OwnR (wr.setCell ⟨gg, i, none⟩ (.int .u8 (z : Nat))) gg 64 cap (fun j => if j < i + 1 then x ^^^ pf j else pf j) := O5.congr (fun j hj => by
              by_cases e : j = i
              · subst e; rw [upd_same, if_pos (by omega), hz]
              · rw [upd_other _ _ _ _ e]
                by_cases e2 : j < i
                · rw [if_pos e2, if_pos (by omega)]
                · rw [if_neg e2, if_neg (by omega)])
            have G5 := grown_setCell_new hgr ⟨gg, i, none⟩ (.int .u8 (z : Nat)) (Or.inl hgb)
            generalize pf i = pi at ci ez
            clear O5 hz
            go_wp2_with fail
            first
              | exact ⟨⟨i + 1, by omega, by go_num, O6, G5⟩, by simp [intOf]; omega⟩
              | (go_roundw
                 case rel => exact ⟨i + 1, by omega, by go_num, O6, G5⟩
                 case measure => simp [intOf]; omega)
          · have hiE : i = 64 := by omega
            have j2 : (64 : Int) ≤ i := by omega
            subst hiE
            have ho9 : OwnR wr gg 64 cap (fun i => x ^^^ pf i) := ho.congr (fun j hj => by rw [if_pos hj])
            clear hib hi ho
            go_wp2_with fail
            go_ret
            exact ⟨gg, cap, rfl, ho9, hgr, hgb⟩

theorem rmac32 (Lk ck N tc : Nat) (ka ta : Option Addr) (key g : Nat → Nat) (w : World) (hRk : Rd w w.heap.size ka Lk key) (hRt : Rd w w.heap.size ta N g) (hk : ∀ i, key i < 256) (hg : ∀ i, g i < 256) (hL : Lk ≤ 2 ^ 39) (hN : N ≤ 2 ^ 39) :
    Calls Tryd.prog 27 #[.int .u8 1, .slice ka Lk ck, .slice ta N tc] w (GaveN w 32 (macOf32 FC KC Lk key g N)) := by
  have hpl := padKey_lt32 FC KC Lk key hk
  have hr1 : Calls Tryd.prog 35 #[.int .u8 1, .slice ka Lk ck, .int .u8 54] w (GaveR32 w 64 (fun i => 54 ^^^ padKey32 FC KC Lk key i)) := rkey32 54 Lk ck ka key w (by decide) hRk hk (by omega)
  have HR1 := Lib.hid hr1
  clear hr1
  go_enter Tryd.func27, Tryd.ntmps27
  go_wp2_with (go_at_call 33; refine (rsize32 _).mono ?_; rintro e w' ⟨rfl, rfl⟩)
  go_at_call 35
  with_reducible refine (HR1.out).mono ?_
  rintro e w1 ⟨r1, cap1, rfl, ho1, g1, hb1⟩
  obtain ⟨r2, cap2, w2, hap2, ho2, g2, hb2⟩ := app_next32 (w0 := w) tc 23 g1 hb1 ho1 (hRt.up (Nat.le_refl _) g1) (by omega)
  have hc2 : ∀ i, cat 64 (fun i => 54 ^^^ padKey32 FC KC Lk key i) g i < 256 := fun i => by
    unfold cat
    split
    · exact Nat.xor_lt_two_pow (n := 8) (by decide) (hpl _)
    · exact hg _
  have hs2 := rsum2_32 (64 + N) cap2 _ _ w2 ho2.rd hc2 (by omega)
  obtain ⟨f1, hf1⟩ : ∃ f1, f1 = sumOf 32 64 P32 KC (H32 FC) (cat 64 (fun i => 54 ^^^ padKey32 FC KC Lk key i) g) (64 + N) := ⟨_, rfl⟩
  rw [← hf1] at hs2
  have hf1l : ∀ i, f1 i < 256 := fun i => by rw [hf1]; exact Nat.mod_lt _ (by decide)
  have HAP2 := Lib.hid hap2
  have HS2 := Lib.hid hs2
  have Hf1 := Lib.hid hf1
  have Hf1l := Lib.hid hf1l
  have Hpl := Lib.hid hpl
  clear hap2 hs2 hf1 hf1l hc2 ho2 ho1 g1 hb1 hpl
  go_wp2_with (at_builtin; refine wpList_append_run rfl (.tmp 14) (.tmp 15) 23 23 rfl (.slice (some ⟨r1, 0, none⟩) 64 cap1) (.slice ta N tc) _ _ rfl rfl HAP2.out ?_)
  go_at_call 34
  with_reducible refine (HS2.out).mono ?_
  rintro e w3 ⟨v3, rfl, hv3, g3⟩
  obtain ⟨r3, cap3, rfl, ho3, _⟩ := hv3.toR32 (by decide)
  have g03 := grown_trans g2 g3
  have hr4 : Calls Tryd.prog 35 #[.int .u8 1, .slice ka Lk ck, .int .u8 92] w3 (GaveR32 w3 64 (fun i => 92 ^^^ padKey32 FC KC Lk key i)) := rkey32 92 Lk ck ka key w3 (by decide) (hRk.up (Nat.le_refl _) g03) hk (by omega)
  have HR4 := Lib.hid hr4
  clear hr4 hv3 g2 g3
  go_wp2_with fail
  go_at_call 35
  with_reducible refine (HR4.out).mono ?_
  rintro e w4 ⟨r4, cap4, rfl, ho4, g4, hb4⟩
  have g04 := grown_trans g03 g4
  obtain ⟨r5, cap5, w5, hap5, ho5, g5, hb5⟩ := app_next32 (w0 := w) cap3 23 g04 (Nat.le_trans g03.size hb4) ho4 (ho3.grown g4 (by simp)).rd (by decide)
  have hc5 : ∀ i, cat 64 (fun i => 92 ^^^ padKey32 FC KC Lk key i) f1 i < 256 := fun i => by
    unfold cat
    split
    · exact Nat.xor_lt_two_pow (n := 8) (by decide) (Hpl.out _)
    · exact Hf1l.out _
  have hs5 := rsum2_32 (64 + 32) cap5 _ _ w5 ho5.rd hc5 (by decide)
  have HAP5 := Lib.hid hap5
  have HS5 := Lib.hid hs5
  have G5 := Lib.hid g5
  clear hap5 hs5 hc5 ho5 ho4 g4 hb4 g04 g03 ho3 g5
  go_wp2_with (at_builtin; refine wpList_append_run rfl (.tmp 21) (.tmp 22) 23 23 rfl (.slice (some ⟨r4, 0, none⟩) 64 cap4) (.slice (some ⟨r3, 0, none⟩) 32 cap3) _ _ rfl rfl HAP5.out ?_)
  go_at_call 34
  with_reducible refine (HS5.out).mono ?_
  rintro e w6 ⟨v6, rfl, hv6, g6⟩
  go_wp2_with fail
  go_ret
  refine ⟨v6, rfl, ?_, grown_trans G5.out g6⟩
  have e : macOf32 FC KC Lk key g N = sumOf 32 64 P32 KC (H32 FC) (cat 64 (fun i => 92 ^^^ padKey32 FC KC Lk key i) f1) (64 + 32) := by rw [Hf1.out]; rfl
  rw [e]
  exact hv6.base G5.out.size

end Go.Proofs.YtobaplndoaeoiaaDoor
namespace Go.Proofs.YtobaplndoaeoiaaDoor
open Go.RowKit

set_option maxRecDepth 100000
set_option maxHeartbeats 1000000

theorem app_N2_32 {w0 w : World} {B n m : Nat} {v : Value} {a : Option Addr} {f f' : Nat → Nat} (c : Nat) (ty : TypeId) (h0 : w0.grownBy w none) (h : OwnN w w0.heap.size v n f) (hx : Rd w B a m f') (hn : n + m ≤ 2 ^ 46) (hm : 0 < m) :
    ∃ v' w', (Builtin.append_ #[23, 23] ty #[v, .slice a m c]).run Tryd.prog w = .ok v' w' ∧ OwnN w' w0.heap.size v' (n + m) (cat n f f') ∧ OwnN w' w0.heap.size v n f ∧ w0.grownBy w' none ∧ w.grownBy w' v.ownBlock := by
  rcases h.ex with ⟨rfl, rfl⟩ | ⟨g, cap, rfl, h2, h3⟩
  · obtain ⟨i0, hi, hz, hsz, hby⟩ := info_parts info_u8
    have hsrc := src_bytes c hx
    have hl : (bytesOf m f').length = m := bytesOf_length m f'
    rw [← hsz] at hsrc
    have hfit : Builtin.nextslicecap (0 + m) 0 * i0.bytes ≤ 281474976710656 := by
      rw [hby]
      have := nextslicecap_le (need := 0 + m) (old := 0) (by omega)
      omega
    have hr := run_append_grow_src w 23 23 ty 5 i0 (.int .u8 0) under_bytes hi hz none 0 0 [] (by rw [hsz]; exact run_firstCells_none w.drew 1 0 0 0)
      (.slice a m c) m (bytesOf m f') hsrc (by omega) (by omega) hfit
    rw [List.nil_append] at hr
    have hcg := grownCap_ge w (0 + m) 0 5
    generalize grownCap w (0 + m) 0 5 = cap' at *
    have hb := heap_alloc_new w.drew (.cells ((bytesOf m f').toArray ++ Builtin.zeroCells (Value.cells (.int .u8 0)) (cap' - (0 + m))) 5)
    have hg := grown_alloc (grown_drew (grown_refl w none)) (.cells ((bytesOf m f').toArray ++ Builtin.zeroCells (Value.cells (.int .u8 0)) (cap' - (0 + m))) 5)
    have hb' : w.drew.heap.size = w.heap.size := rfl
    rw [hb'] at hb
    refine ⟨_, _, hr, ⟨Or.inr ⟨w.heap.size, cap', rfl, ⟨fun i hi => ?_, fun i hi => ?_, fun i => frozen_of_row _ _ _ _ _ hb, hcg, by simp [hb']⟩, h0.size⟩⟩, OwnN.nil _ _ _, grown_trans h0 hg, hg⟩
    · rw [cell_of_row _ _ _ _ _ _ hb, Array.getElem?_append_left (by simp [bytesOf]; omega)]
      have := bytesOf_get m f' i (by omega)
      simpa [cat] using this
    · rw [cell_of_row _ _ _ _ _ _ hb, Array.getElem?_eq_getElem (by
        rw [Array.size_append, size_zeroCells]
        simp [bytesOf, Value.cells]; omega)]
      rfl
  · obtain ⟨v', w', hr, ⟨g', cap', rfl, k1, k2, k3, k4⟩⟩ := app_run c ty h2 hx hn
    refine ⟨_, w', hr, ⟨Or.inr ⟨g', cap', rfl, k1, ?_⟩⟩, ⟨Or.inr ⟨g, cap, rfl, k2, h3⟩⟩, grown_new h0 k3 h3, k3⟩
    have := h0.size
    omega

theorem rexpand32 (Lk ck L c n : Nat) (ka ia : Option Addr) (key info : Nat → Nat) (w : World) (hRk : Rd w w.heap.size ka Lk key) (hRi : Rd w w.heap.size ia L info) (hk : ∀ i, key i < 256) (hi : ∀ i, info i < 256) (hLk : Lk ≤ 2 ^ 39) (hL : L ≤ 2 ^ 38) (hn0 : 1 ≤ n) (hn : n ≤ 255 * 32) :
    Calls Tryd.prog 26 #[.int .u8 1, .slice ka Lk ck, .slice ia L c, .int .i64 n] w (GaveN w n (expandOf32 FC KC Lk key L info)) := by
  have n1 : (1 : Int) ≤ n := by omega
  have n2 : (n : Int) ≤ 255 * 32 := by omega
  go_enter Tryd.func26, Tryd.ntmps26
  go_wp2_with (go_at_call 33; refine (rsize32 _).mono ?_; rintro e w' ⟨rfl, rfl⟩)
  go_loopw [9, 10, 11] (fun u9 u10 u11 wq => ∃ (i c1 s tc : Nat) (ta : Option Addr), i ≤ 255 ∧ Hid (c1 = i + 1) ∧ Hid (s = if i = 0 then 0 else 32) ∧ Hid (i * 32 < n + 32) ∧ u11 = .int .i64 c1 ∧ u10 = .slice ta s tc ∧ Rd wq wq.heap.size ta s (tOf32 (macOf32 FC KC Lk key) L info i) ∧
      OwnN wq w.heap.size u9 (i * 32) (expandOf32 FC KC Lk key L info) ∧ w.grownBy wq none)
    (fun _ _ u11 _ => 256 - (intOf u11).toNat)
  case atStart => exact ⟨0, 1, 0, 0, none, by omega, Lib.hid rfl, Lib.hid rfl, Lib.hid (by omega), rfl, rfl, ⟨fun h => absurd h (by omega)⟩, by simpa using OwnN.nil w w.heap.size (expandOf32 FC KC Lk key L info), grown_refl w none⟩
  case round =>
    obtain ⟨i, c1, s, tc, ta, hi255, hc1, hs, hin, rfl, rfl, hRt, hoN, hgr⟩ := hrel
    obtain ⟨oa, oc, rfl, hoc, hRo⟩ := hoN.rd
    by_cases hlt : i * 32 < n
    · have j1 : (i : Int) * 32 < n := by omega
      have hs2 : s ≤ 32 := by rw [hs.out]; split <;> omega
      have hc2 : c1 ≤ 255 := by have := hc1.out; omega
      have ec : IntKind.u8.wrap (c1 : Int) = (c1 : Int) := by rw [IntKind.wrap_u8]; omega
      have ga := World.grownBy_alloc wr (.cells #[] 5) none
      obtain ⟨g1, k1, x1, hap1, ho1, hg1, hb1⟩ := app_next32 (w0 := wr) tc 23 ga (Nat.le_refl _) (ownR_empty wr) (hRt.up (Nat.le_refl _) ga) (by omega)
      rw [Nat.zero_add] at hap1 ho1
      obtain ⟨g2, k2, x2, hap2, ho2, hg2, hb2⟩ := app_next32 (w0 := wr) c 23 hg1 hb1 ho1 (hRi.up (Nat.le_refl _) (grown_trans hgr hg1)) (by omega)
      have gb := World.grownBy_alloc x2 (.cells #[.int .u8 (c1 : Nat)] 5) none
      have bb := heap_alloc_new x2 (.cells #[.int .u8 (c1 : Nat)] 5)
      have hRc : Rd (x2.alloc (.cells #[.int .u8 (c1 : Nat)] 5)) (x2.heap.size + 1) (some ⟨x2.heap.size, 0, none⟩) 1 (fun _ => c1) := ⟨fun _ => ⟨x2.heap.size, 0, rfl, by omega, fun m hm => by
        obtain rfl : m = 0 := by omega
        rw [cell_of_row _ _ _ _ _ _ bb]; rfl⟩⟩
      obtain ⟨g3, k3, x3, hap3, ho3, hg3, hb3⟩ := app_next32 (w0 := wr) 1 23 (grown_trans hg2 gb) hb2 (ho2.grown gb (by simp)) hRc (by omega)
      have htl := tOf_lt32 FC KC (fun i => 54 ^^^ padKey32 FC KC Lk key i) (fun i => 92 ^^^ padKey32 FC KC Lk key i) L info i
      have ho3' : OwnR x3 g3 (s + L + 1) k3 (cat332 s (tOf32 (macOf32 FC KC Lk key) L info i) L info c1) := ho3.congr (fun m hm => by
        unfold cat cat332
        by_cases e : m < s
        · rw [if_pos (by omega), if_pos e, if_neg (by omega), if_pos e, Nat.sub_zero]
        · by_cases e2 : m < s + L
          · rw [if_pos e2, if_neg e, if_neg e, if_pos e2]
          · rw [if_neg e2, if_neg e, if_neg e2])
      have hct : ∀ m, cat332 s (tOf32 (macOf32 FC KC Lk key) L info i) L info c1 m < 256 := fun m => by
        unfold cat332
        split
        · exact htl _
        · split
          · exact hi _
          · omega
      have hm := rmac32 Lk ck (s + L + 1) k3 ka _ key _ x3 (hRk.up (Nat.le_refl _) (grown_trans hgr hg3)) ho3'.rd hk hct hLk (by omega)
      have htn : tOf32 (macOf32 FC KC Lk key) L info (i + 1) = macOf32 FC KC Lk key (cat332 s (tOf32 (macOf32 FC KC Lk key) L info i) L info c1) (s + L + 1) := by
        rw [tOf32, ← hs.out, hc1.out, Nat.add_assoc]
      rw [← htn] at hm
      have HAP1 := Lib.hid hap1
      have HAP2 := Lib.hid hap2
      have HAP3 := Lib.hid hap3
      have HM := Lib.hid hm
      have Hg3 := Lib.hid hg3
      have Hgw3 := Lib.hid (grown_trans hgr hg3)
      clear hap1 hap2 hap3 hm htn hct ho3' htl ho3 hb3 hRc gb bb ho2 hg2 hb2 ho1 hg1 hb1 ga hg3
      go_wp2_with (first
        | (at_builtin; refine wpList_append_run rfl (.tmp 29) (.tmp 30) 23 23 rfl (.slice (some ⟨wr.heap.size, 0, none⟩) 0 0) (.slice ta s tc) _ _ rfl rfl HAP1.out ?_)
        | (at_builtin; refine wpList_append_run rfl (.tmp 31) (.tmp 32) 23 23 rfl (.slice (some ⟨g1, 0, none⟩) s k1) (.slice ia L c) _ _ rfl rfl HAP2.out ?_)
        | (at_builtin; refine wpList_append_run rfl (.tmp 33) (.tmp 36) 23 23 rfl (.slice (some ⟨g2, 0, none⟩) (s + L) k2) (.slice (some ⟨x2.heap.size, 0, none⟩) 1 1) _ _ rfl rfl HAP3.out ?_))
      go_at_call 27
      with_reducible refine (HM.out).mono ?_
      rintro e x4 ⟨v4, rfl, hv4, g4⟩
      obtain ⟨r4, k4, rfl, ho4, hr4⟩ := hv4.toR32 (by decide)
      have gw4 := grown_trans Hgw3.out g4
      obtain ⟨v5, x5, hap5, hv5, _, hg5, hgo⟩ := app_N2_32 (w0 := w) k4 23 gw4 (hoN.grown (grown_trans Hg3.out g4)) ho4.rd (by omega) (by decide : 0 < 32)
      have ho5 : OwnN x5 w.heap.size v5 ((i + 1) * 32) (expandOf32 FC KC Lk key L info) := by
        have e : (i + 1) * 32 = i * 32 + 32 := by omega
        rw [e]
        obtain ⟨ex⟩ := hv5
        refine ⟨ex.imp id (fun ⟨g0, c0, q1, q2, q3⟩ => ⟨g0, c0, q1, q2.congr (fun m hm => ?_), q3⟩)⟩
        unfold cat
        by_cases e : m < i * 32
        · rw [if_pos e]
        · rw [if_neg e]
          show _ = tOf32 (macOf32 FC KC Lk key) L info (m / 32 + 1) (m % 32)
          rw [show m / 32 = i by omega, show m % 32 = m - i * 32 by omega]
      have hRr4 : Rd x5 x5.heap.size (some ⟨r4, 0, none⟩) 32 (tOf32 (macOf32 FC KC Lk key) L info (i + 1)) := ⟨fun _ => ⟨r4, 0, rfl, Nat.lt_of_lt_of_le ho4.lt hgo.size, fun m hm => by
        rw [Nat.zero_add]
        refine hgo.cell (ho4.cell m hm) (fun e => ?_)
        rcases hoN.ex with ⟨e1, _⟩ | ⟨g0, c0, e1, e2, _⟩
        · rw [e1] at e; cases e
        · rw [e1] at e
          have e3 : r4 = g0 := by simpa [Value.ownBlock] using e
          have := e2.lt
          have := Hg3.out.size
          omega⟩⟩
      have HAP5 := Lib.hid hap5
      have Hc1' : Hid (c1 + 1 = i + 1 + 1) := Lib.hid (by rw [hc1.out])
      have Hin' : Hid ((i + 1) * 32 < n + 32) := Lib.hid (by omega)
      have hi9 : i + 1 ≤ 255 := by omega
      clear hap5 hv5 hgo hr4 ho4 hoN hRo hRt gw4 g4 hv4
      go_wp2_with (at_builtin; refine wpList_append_run rfl (.tmp 39) (.tmp 40) 23 23 rfl (.slice oa (i * 32) oc) (.slice (some ⟨r4, 0, none⟩) 32 k4) _ _ rfl rfl HAP5.out ?_)
      refine ⟨⟨i + 1, c1 + 1, 32, k4, some ⟨r4, 0, none⟩, hi9, Hc1', Lib.hid (by rw [if_neg (by omega)]), Hin', by go_num, rfl, hRr4, ho5, hg5⟩, by simp [intOf]; omega⟩
    · have hge : (n : Int) ≤ (i : Int) * 32 := by omega
      have hpos : 0 < i * 32 := by omega
      obtain ⟨g9, c9, hsl, ho9, hb9⟩ := hoN.toR32 hpos
      have e1 : oa = some ⟨g9, 0, none⟩ := by injection hsl
      subst e1
      have e2 : oc = c9 := by injection hsl
      subst e2
      have ho9' : OwnN wr w.heap.size (.slice (some ⟨g9, 0, none⟩) n oc) n (expandOf32 FC KC Lk key L info) := ⟨Or.inr ⟨g9, oc, rfl, ⟨fun m hm => ho9.cell m (by omega), ho9.there, ho9.free, by omega, ho9.lt⟩, hb9⟩⟩
      have i9 : (n : Int) ≤ oc := by omega
      clear hsl ho9 hoN hRo hRt hlt hpos
      go_wp2_with fail
      go_ret
      exact ⟨_, rfl, ho9', hgr⟩

end Go.Proofs.YtobaplndoaeoiaaDoor
namespace Go.Proofs.YtobaplndoaeoiaaDoor
open Go.RowKit

set_option maxRecDepth 100000
set_option maxHeartbeats 1000000

theorem pad_last64 (N : Nat) : 128 * padBlocks 64 N ≥ N + 16 + 1 ∧ 128 * padBlocks 64 N ≤ N + 16 + 128 := by
  unfold padBlocks
  omega

/-- Another append to what the call has made itself. -/
theorem app_next64 {w0 w : World} {B g n cap m : Nat} {a : Option Addr} {f f' : Nat → Nat} (c : Nat) (ty : TypeId) (h0 : w0.grownBy w none) (hg : w0.heap.size ≤ g) (h : OwnR w g n cap f) (hx : Rd w B a m f') (hn : n + m ≤ 2 ^ 46) :
    ∃ g' cap' w', (Builtin.append_ #[23, 23] ty #[.slice (some ⟨g, 0, none⟩) n cap, .slice a m c]).run Tryd.prog w = .ok (.slice (some ⟨g', 0, none⟩) (n + m) cap') w' ∧ OwnR w' g' (n + m) cap' (cat n f f') ∧ w0.grownBy w' none ∧ w0.heap.size ≤ g' := by
  obtain ⟨v, w', hr, ⟨g', cap', rfl, h1, _, h3, h4⟩⟩ := app_run c ty h hx hn
  refine ⟨g', cap', w', hr, h1, grown_new h0 h3 hg, ?_⟩
  have := h0.size
  omega

theorem padded_zero64 (g : Nat → Nat) (N k : Nat) (h1 : N < k) (h2 : k < 128 * padBlocks 64 N - 16) : padded 64 g N k = 0 := by
  unfold padded
  rw [if_neg (by omega), if_neg (by omega), if_pos (by show k < padBlocks 64 N * 128 - 8; omega)]
theorem padded_end64 (g : Nat → Nat) (N j : Nat) (hN : N < 2 ^ 60) (hj : j < 16) : padded 64 g N (128 * padBlocks 64 N - 16 + j) = 8 * N / 256 ^ (16 - 1 - j) % 256 := by
  have := pad_last64 N
  unfold padded
  rw [if_neg (by omega), if_neg (by omega)]
  have e : padBlocks 64 N * (16 * (64 / 8)) = 128 * padBlocks 64 N := by omega
  rw [e]
  by_cases h : 128 * padBlocks 64 N - 16 + j < 128 * padBlocks 64 N - 8
  · rw [if_pos h]
    have h8 : 256 ^ 8 ≤ 256 ^ (16 - 1 - j) := Nat.pow_le_pow_right (by decide) (by omega)
    rw [Nat.div_eq_of_lt (by omega)]
  · rw [if_neg h, show 128 * padBlocks 64 N - 1 - (128 * padBlocks 64 N - 16 + j) = 16 - 1 - j by omega]

/-- Bytes that the call has made itself. -/
structure GaveR64 (w : World) (n : Nat) (f : Nat → Nat) (e : Ending) (w' : World) : Prop where
  ex : ∃ r cap, e = .returned (.slice (some ⟨r, 0, none⟩) n cap) ∧ OwnR w' r n cap f ∧ w.grownBy w' none ∧ w.heap.size ≤ r

theorem rpad64 (N c : Nat) (a : Option Addr) (g : Nat → Nat) (w : World) (hR : Rd w w.heap.size a N g) (hN : N ≤ 2 ^ 40) :
    Calls Tryd.prog 50 #[.slice a N c, .int .i64 64] w (GaveR64 w (128 * padBlocks 64 N) (padded 64 g N)) := by
  have hpl := pad_last64 N
  have ga := World.grownBy_alloc w (.cells #[] 5) none
  obtain ⟨g1, cap1, w1, hap1, ho1, hg1, hb1⟩ := app_next64 (w0 := w) c 23 ga (Nat.le_refl _) (ownR_empty w) (hR.up (Nat.le_refl _) ga) (by omega)
  have gb := World.grownBy_alloc w1 (.cells #[.int .u8 128] 5) none
  have bb := heap_alloc_new w1 (.cells #[.int .u8 128] 5)
  have hR1 : Rd (w1.alloc (.cells #[.int .u8 128] 5)) (w1.heap.size + 1) (some ⟨w1.heap.size, 0, none⟩) 1 (fun _ => 128) := ⟨fun _ => ⟨w1.heap.size, 0, rfl, by omega, fun i hi => by
    obtain rfl : i = 0 := by omega
    rw [cell_of_row _ _ _ _ _ _ bb]; rfl⟩⟩
  obtain ⟨g2, cap2, w2, hap2, ho2, hg2, hb2⟩ := app_next64 (w0 := w) 1 23 (grown_trans hg1 gb) hb1 (ho1.grown gb (by simp)) hR1 (by omega)
  rw [Nat.zero_add] at hap1 hap2 ho2
  have ho2' : OwnR w2 g2 (N + 1) cap2 (padded 64 g N) := ho2.congr (fun i hi => by
    unfold cat padded
    by_cases e : i < N
    · rw [if_pos e, if_pos e, if_neg (by omega), Nat.sub_zero]
    · rw [if_neg e, if_neg e, if_pos (by omega)])
  obtain ⟨len8, hlen8⟩ : ∃ x, x = 8 * N := ⟨_, rfl⟩
  have eN : IntKind.u64.wrap (N : Int) = (N : Int) := by rw [IntKind.wrap_u64]; omega
  have eN8 : IntKind.u64.wrap (8 * (N : Int)) = (len8 : Int) := by rw [IntKind.wrap_u64]; omega
  have HAP1 := Lib.hid hap1
  have HAP2 := Lib.hid hap2
  have Hg2 := Lib.hid hg2
  have Hb2 := Lib.hid hb2
  have Ho2 := Lib.hid ho2'
  have Hpl := Lib.hid hpl
  have Hl8 := Lib.hid hlen8
  have i1 : (N : Int) ≤ 1099511627776 := by omega
  clear hap1 hap2 hg2 hb2 ho2' ho2 hR1 bb gb ho1 hg1 hb1 ga hpl hlen8
  go_enter Tryd.func50, Tryd.ntmps50
  go_wp2_with (first
    | (at_builtin; refine wpList_append_run rfl (.tmp 9) (.tmp 10) 23 23 rfl (.slice (some ⟨w.heap.size, 0, none⟩) 0 0) (.slice a N c) _ _ rfl rfl HAP1.out ?_)
    | (at_builtin; refine wpList_append_run rfl (.tmp 11) (.tmp 12) 23 23 rfl (.slice (some ⟨g1, 0, none⟩) N cap1) (.slice (some ⟨w1.heap.size, 0, none⟩) 1 1) _ _ rfl rfl HAP2.out ?_))
  go_loopw [5] (fun u5 wr => ∃ k g' cap', u5 = .slice (some ⟨g', 0, none⟩) k cap' ∧ N < k ∧ k ≤ 128 * padBlocks 64 N - 16 ∧ OwnR wr g' k cap' (padded 64 g N) ∧ w.grownBy wr none ∧ w.heap.size ≤ g')
    (fun u5 _ => match u5 with | .slice _ k _ => 128 * padBlocks 64 N - k | _ => 0)
  case atStart => exact ⟨N + 1, g2, cap2, rfl, by omega, by have := Hpl.out; omega, Ho2.out, Hg2.out, Hb2.out⟩
  case round =>
    obtain ⟨k, g', cap', rfl, hk1, hk2, hor, hgr, hgb⟩ := hrel
    have hpl := Hpl.out
    by_cases hlt : k < 128 * padBlocks 64 N - 16
    · have hne : ((k : Int) % 128 != 112) = true := by rw [bne_iff_ne]; omega
      have gb := World.grownBy_alloc wr (.cells #[.int .u8 0] 5) none
      have bb := heap_alloc_new wr (.cells #[.int .u8 0] 5)
      have hR1 : Rd (wr.alloc (.cells #[.int .u8 0] 5)) (wr.heap.size + 1) (some ⟨wr.heap.size, 0, none⟩) 1 (fun _ => 0) := ⟨fun _ => ⟨wr.heap.size, 0, rfl, by omega, fun i hi => by
        obtain rfl : i = 0 := by omega
        rw [cell_of_row _ _ _ _ _ _ bb]; rfl⟩⟩
      obtain ⟨g3, cap3, w3, hap3, ho3, hg3, hb3⟩ := app_next64 (w0 := w) 1 23 (grown_trans hgr gb) hgb (hor.grown gb (by simp)) hR1 (by omega)
      have ho3' : OwnR w3 g3 (k + 1) cap3 (padded 64 g N) := ho3.congr (fun i hi => by
        unfold cat
        by_cases e : i < k
        · rw [if_pos e]
        · obtain rfl : i = k := by omega
          rw [if_neg e, padded_zero64 g N i hk1 hlt])
      have HAP3 := Lib.hid hap3
      have Hlt := Lib.hid hlt
      clear hap3 ho3 hR1 bb gb hpl hlt
      go_wp2_with (at_builtin; refine wpList_append_run rfl (.tmp 25) (.tmp 26) 23 23 rfl (.slice (some ⟨g', 0, none⟩) k cap') (.slice (some ⟨wr.heap.size, 0, none⟩) 1 1) _ _ rfl rfl HAP3.out ?_)
      exact ⟨⟨k + 1, g3, cap3, rfl, by omega, by have := Hlt.out; omega, ho3', hg3, hb3⟩, by have := Hlt.out; show 128 * padBlocks 64 N - (k + 1) < 128 * padBlocks 64 N - k; omega⟩
    · have hE : k = 128 * padBlocks 64 N - 16 := by omega
      have hne : ((k : Int) % 128 != 112) = false := by rw [bne_eq_false_iff_eq]; omega
      obtain ⟨mc, hmk, hFm⟩ := make64 16 (by decide) wr
      have hmk' : (Instr.makeSlice 23 (.int .i64 16) (.int .i64 16)).run Tryd.prog wr = .ok (.slice (some ⟨wr.heap.size, 0, none⟩) 16 16) (wr.alloc (.cells mc 5)) := hmk
      have ga := World.grownBy_alloc wr (.cells mc 5) none
      have ho4 := hor.grown ga (by simp)
      have g4 := grown_trans hgr ga
      have hge := hor.lt
      generalize hen : wr.heap.size = en at *
      have Hen := Lib.hid hen
      have HE := Lib.hid hE
      have gw := hgr.size
      clear hE hlt hpl hmk hen ga hor hgr hk1 hk2
      go_wp2_with fail
      generalize wr.alloc (.cells mc 5) = w4 at *
      clear hmk' hne
      go_loopw [7, 8] (fun u7 u8 wq => ∃ (s nt : Nat), s ≤ 16 ∧ u8 = .int .i64 ((s : Int) - 1) ∧ u7 = .int .u64 (nt : Nat) ∧ Hid (nt = len8 / 256 ^ (16 - s)) ∧ Fill wq en 16 (fun j => if s ≤ j then len8 / 256 ^ (16 - 1 - j) % 256 else 0) ∧ OwnR wq g' k cap' (padded 64 g N) ∧ w.grownBy wq none)
        (fun _ u8 _ => (intOf u8 + 1).toNat)
      case atStart => exact ⟨16, len8, by omega, rfl, rfl, Lib.hid (by simp), ⟨fun j hj => by rw [hFm.cell j hj, if_neg (by omega)], hFm.free⟩, ho4, g4⟩
      case round =>
        obtain ⟨s, nt, hs, rfl, rfl, hnt, hFq, hoq, hgq⟩ := hrel
        clear hFm ho4 g4
        by_cases hs0 : s = 0
        · have HS := Lib.hid hs0
          have hs1 : (s : Int) - 1 < 0 := by omega
          clear hs0 hs
          have hFend : Rd wr wr.heap.size (some ⟨en, 0, none⟩) 16 (fun j => len8 / 256 ^ (16 - 1 - j) % 256) := ⟨fun _ => ⟨en, 0, rfl, hFq.lt (by decide), fun j hj => by
            rw [Nat.zero_add, hFq.cell j hj, if_pos (by rw [HS.out]; omega)]⟩⟩
          obtain ⟨g5, cap5, w5, hap5, ho5, hg5, hb5⟩ := app_next64 (w0 := w) 16 23 hgq hgb hoq hFend (by have := HE.out; have := Hpl.out; omega)
          have ho5' : OwnR w5 g5 (128 * padBlocks 64 N) cap5 (padded 64 g N) := by
            have h1 := HE.out
            have h2 := Hpl.out
            have e1 : 128 * padBlocks 64 N = k + 16 := by omega
            rw [e1]
            refine ho5.congr (fun i hi => ?_)
            unfold cat
            by_cases e : i < k
            · rw [if_pos e]
            · rw [if_neg e]
              have := padded_end64 g N (i - k) (by omega) (by omega)
              rw [← h1, show k + (i - k) = i by omega] at this
              rw [this, Hl8.out]
          have HAP5 := Lib.hid hap5
          have hk5 : k + 16 = 128 * padBlocks 64 N := by have h1 := HE.out; have h2 := Hpl.out; omega
          have HK5 := Lib.hid hk5
          clear hap5 hFend ho5 hk5
          go_wp2_with (at_builtin; refine wpList_append_run rfl (.tmp 50) (.tmp 51) 23 23 rfl (.slice (some ⟨g', 0, none⟩) k cap') (.slice (some ⟨en, 0, none⟩) 16 16) _ _ rfl rfl HAP5.out ?_)
          go_ret
          exact ⟨g5, cap5, by rw [← HK5.out]; rfl, ho5', hg5, hb5⟩
        · obtain ⟨j, rfl⟩ : ∃ j, s = j + 1 := ⟨s - 1, by omega⟩
          have e1 : ((j + 1 : Nat) : Int) - 1 = (j : Int) := by omega
          rw [e1]
          have hj : j < 16 := by omega
          have ij : (j : Int) < 16 := by omega
          have cj : (wr.cell? ⟨en, j, none⟩) = some (.int .u8 ((if j + 1 ≤ j then len8 / 256 ^ (16 - 1 - j) % 256 else 0 : Nat) : Int)) := hFq.cell j hj
          rw [if_neg (by omega)] at cj
          have fj := hFq.free j
          obtain ⟨v, hv⟩ : ∃ v, v = nt % 256 := ⟨_, rfl⟩
          obtain ⟨m, hm⟩ : ∃ v, v = nt / 256 := ⟨_, rfl⟩
          have ev : (nt : Int) % 256 = (v : Int) := by omega
          have ev2 : IntKind.u8.wrap (v : Int) = (v : Int) := by rw [IntKind.wrap_u8]; omega
          have em : (nt : Int) / 256 = (m : Int) := by omega
          have hnl : nt < 2 ^ 64 := by
            rw [hnt.out]
            have := Hl8.out
            exact Nat.lt_of_le_of_lt (Nat.div_le_self _ _) (by omega)
          have em2 : IntKind.u64.wrap (m : Int) = (m : Int) := by rw [IntKind.wrap_u64]; omega
          have Hv : Hid (v = len8 / 256 ^ (16 - 1 - j) % 256) := Lib.hid (by rw [hv, hnt.out, show 16 - (j + 1) = 16 - 1 - j by omega])
          have Hm : Hid (m = len8 / 256 ^ (16 - j)) := Lib.hid (by rw [hm, hnt.out, Nat.div_div_eq_div_mul, ← Nat.pow_succ]; congr 2; omega)
          have F5 := hFq.set j v hj
          have O5 : OwnR (wr.setCell ⟨en, j, none⟩ (.int .u8 (v : Nat))) g' k cap' (padded 64 g N) := hoq.of_block (heap_setCell_other wr _ g' _ (by show g' ≠ en; omega)) (by simpa [World.setCell] using hoq.lt)
          have G5 := grown_setCell_new hgq ⟨en, j, none⟩ (.int .u8 (v : Nat)) (Or.inl (by rw [← Hen.out]; exact gw))
          clear hnl hv hm e1 hs hs0
          go_wp2_with fail
          refine ⟨⟨j, m, by omega, rfl, rfl, Hm, ⟨fun i hi => ?_, F5.free⟩, O5, G5⟩, by simp [intOf]⟩
          rw [F5.cell i hi]
          by_cases e : i = j
          · subst e; rw [upd_same, if_pos (Nat.le_refl _), Hv.out]
          · rw [upd_other _ _ _ _ e]
            by_cases e2 : j ≤ i
            · rw [if_pos e2, if_pos (by omega)]
            · rw [if_neg e2, if_neg (by omega)]

end Go.Proofs.YtobaplndoaeoiaaDoor
namespace Go.Proofs.YtobaplndoaeoiaaDoor
open Go.RowKit

set_option maxRecDepth 100000
set_option maxHeartbeats 400000

theorem cut64 (x y : Nat) (hx : x < 2 ^ 64) (hy : y = x % 2 ^ 64) (w : World) : Calls Tryd.prog 51 #[.int .u64 x, .int .i64 64] w fun e w' => e = .returned (.int .u64 y) ∧ w = w' := by
  have hx' := Lib.hid hx
  have hy' := Lib.hid hy
  clear hx hy
  go_enter Tryd.func51, Tryd.ntmps51
  go_wp2_with (go_at_call 49; refine (power_any _ 64 (2 ^ 64) rfl (by decide) rfl _).mono ?_; rintro e w' ⟨rfl, rfl⟩)
  go_ret
  have h1 := hx'.out
  have h2 := hy'.out
  exact ⟨ret_int (k := .u64) (by omega), rfl⟩

theorem turn64 (x n r : Nat) (N : Int) (hN : N = n) (hx : x < 2 ^ 64) (h1 : 1 ≤ n) (h2 : n < 64) (hr : r = rotr 64 x n) (w : World) :
    Calls Tryd.prog 69 #[.int .u64 x, .int .i64 N, .int .i64 64] w fun e w' => e = .returned (.int .u64 r) ∧ ∃ m, w' = w.drewN m := by
  subst hN
  obtain ⟨p1, hp1⟩ : ∃ p, p = 2 ^ n := ⟨_, rfl⟩
  obtain ⟨p2, hp2⟩ : ∃ p, p = 2 ^ (64 - n) := ⟨_, rfl⟩
  obtain ⟨q, hq⟩ : ∃ q, q = x / p1 := ⟨_, rfl⟩
  obtain ⟨y, hy⟩ : ∃ y, y = x * p2 % 2 ^ 64 := ⟨_, rfl⟩
  obtain ⟨c, hc⟩ : ∃ c, c = y % 2 ^ 64 := ⟨_, rfl⟩
  have hp0 : 0 < p1 := by rw [hp1]; exact Nat.two_pow_pos n
  have hrc : r = q + c := by
    rw [hr, ← rotr_add 64 x n hx (by omega), hc, hy, hq, hp1, hp2]
    congr 1
    omega
  have hrl : r < 2 ^ 64 := by rw [hr]; exact rotr_lt 64 x n hx
  have e1 : IntKind.i64.wrap (64 - (n : Int)) = (64 : Int) - n := by rw [IntKind.wrap_i64]; omega
  have e2 : IntKind.u64.wrap ((x : Int) * (p2 : Int)) = (y : Int) := by rw [← Int.natCast_mul, IntKind.wrap_u64, hy]; omega
  have e3 : IntKind.u64.wrap ((q : Int) + (c : Int)) = (r : Int) := by rw [IntKind.wrap_u64]; omega
  have e4 : (x : Int).tdiv (p1 : Int) = (q : Int) := by rw [hq, Int.tdiv_eq_ediv_of_nonneg (by omega)]; norm_cast
  have e5 : (p1 : Int) ≠ 0 := by omega
  have e7 : IntKind.u64.wrap (q : Int) = (q : Int) := by rw [IntKind.wrap_u64]; omega
  have e6 : (0 : Int) < p1 := by omega
  have HP1 := Lib.hid hp1
  have HP2 := Lib.hid hp2
  have HC := Lib.hid hc
  have Hyl : Hid (y < 2 ^ 64) := Lib.hid (by rw [hy]; exact Nat.mod_lt _ (by decide))
  have H2 := Lib.hid h2
  clear hp1 hp2 hq hy hc hr hrc hrl hx hp0 h2
  have q1 : Hid (∀ W : World, Calls Tryd.prog 49 #[.int .i64 (n : Int)] W fun e w' => e = .returned (.int .u64 p1) ∧ w' = W) :=
    Lib.hid fun W => (power_any _ n p1 rfl (by have := H2.out; omega) HP1.out W).mono fun _ _ h => ⟨h.1, h.2.symm⟩
  have q2 : Hid (∀ W : World, Calls Tryd.prog 49 #[.int .i64 (64 - (n : Int))] W fun e w' => e = .returned (.int .u64 p2) ∧ w' = W) :=
    Lib.hid fun W => (power_any _ (64 - n) p2 (by have := H2.out; omega) (by have := H2.out; omega) HP2.out W).mono fun _ _ h => ⟨h.1, h.2.symm⟩
  have q3 : Hid (∀ W : World, Calls Tryd.prog 51 #[.int .u64 (y : Int), .int .i64 64] W fun e w' => e = .returned (.int .u64 c) ∧ w' = W) :=
    Lib.hid fun W => (cut64 y c Hyl.out HC.out W).mono fun _ _ h => ⟨h.1, h.2.symm⟩
  go_enter Tryd.func69, Tryd.ntmps69
  go_wp2_with fail
  go_quiet ((first
    | (go_at_call 49; with_reducible exact Calls.quiet_of_same (q1.out _))
    | (go_at_call 49; with_reducible exact Calls.quiet_of_same (q2.out _))
    | (go_at_call 51; with_reducible exact Calls.quiet_of_same (q3.out _))))
  go_wp2_with fail
  go_ret
  exact ⟨rfl, nq, rfl⟩

/-- Three words, exclusive-or. -/
theorem xor3_64 (r1 r2 r3 r : Nat) (h1 : r1 < 2 ^ 64) (h2 : r2 < 2 ^ 64) (h3 : r3 < 2 ^ 64) (hr : r = r1 ^^^ r2 ^^^ r3) : bits .xor .u64 (bits .xor .u64 (r1 : Int) (r2 : Int)) (r3 : Int) = (r : Int) := by
  rw [bits_xor_u64 _ _ h1 h2, bits_xor_u64 _ _ (Nat.xor_lt_two_pow h1 h2) h3, hr]

theorem mixT64 (x a b' c r : Nat) (A B C : Int) (hA : A = a) (hB : B = b') (hC : C = c) (hx : x < 2 ^ 64) (ha : 1 ≤ a ∧ a < 64) (hb : 1 ≤ b' ∧ b' < 64) (hc : 1 ≤ c ∧ c < 64) (hr : r = turned 64 x a b' c) (w : World) :
    Calls Tryd.prog 62 #[.int .u64 x, .int .i64 A, .int .i64 B, .int .i64 C, .int .i64 64, .bool false] w fun e w' => e = .returned (.int .u64 r) ∧ ∃ m, w' = w.drewN m := by
  subst hA hB hC
  obtain ⟨r1, hr1⟩ : ∃ r1, r1 = rotr 64 x a := ⟨_, rfl⟩
  obtain ⟨r2, hr2⟩ : ∃ r1, r1 = rotr 64 x b' := ⟨_, rfl⟩
  obtain ⟨r3, hr3⟩ : ∃ r1, r1 = rotr 64 x c := ⟨_, rfl⟩
  have l1 : r1 < 2 ^ 64 := by rw [hr1]; exact rotr_lt 64 x a hx
  have l2 : r2 < 2 ^ 64 := by rw [hr2]; exact rotr_lt 64 x b' hx
  have l3 : r3 < 2 ^ 64 := by rw [hr3]; exact rotr_lt 64 x c hx
  have ex := xor3_64 r1 r2 r3 r (by omega) (by omega) (by omega) (by rw [hr, hr1, hr2, hr3]; rfl)
  obtain ⟨p, hp⟩ : ∃ p, p = 2 ^ c := ⟨_, rfl⟩
  have hp0 : 0 < p := by rw [hp]; exact Nat.two_pow_pos c
  have e6 : (0 : Int) < p := by omega
  have qp : Hid (∀ W : World, Calls Tryd.prog 49 #[.int .i64 (c : Int)] W fun e w' => e = .returned (.int .u64 p) ∧ W = w') := Lib.hid fun W => power_any _ c p rfl (by omega) hp W
  have q1 : Hid (∀ W : World, Calls Tryd.prog 69 #[.int .u64 x, .int .i64 (a : Int), .int .i64 64] W fun e w' => e = .returned (.int .u64 r1) ∧ ∃ m, w' = W.drewN m) := Lib.hid fun W => turn64 x a r1 _ rfl hx ha.1 ha.2 hr1 W
  have q2 : Hid (∀ W : World, Calls Tryd.prog 69 #[.int .u64 x, .int .i64 (b' : Int), .int .i64 64] W fun e w' => e = .returned (.int .u64 r2) ∧ ∃ m, w' = W.drewN m) := Lib.hid fun W => turn64 x b' r2 _ rfl hx hb.1 hb.2 hr2 W
  have q3 : Hid (∀ W : World, Calls Tryd.prog 69 #[.int .u64 x, .int .i64 (c : Int), .int .i64 64] W fun e w' => e = .returned (.int .u64 r3) ∧ ∃ m, w' = W.drewN m) := Lib.hid fun W => turn64 x c r3 _ rfl hx hc.1 hc.2 hr3 W
  clear hr1 hr2 hr3 l1 l2 l3 hp hp0 hx ha hb hc hr
  go_enter Tryd.func62, Tryd.ntmps62
  go_wp2_with fail
  go_at_call 49
  with_reducible refine (qp.out _).mono ?_
  rintro e w' ⟨rfl, rfl⟩
  go_wp2_with fail
  go_at_call 69
  with_reducible refine (q3.out _).mono ?_
  rintro e w' ⟨rfl, m3, rfl⟩
  go_wp2_with fail
  go_at_call 69
  with_reducible refine (q1.out _).mono ?_
  rintro e w' ⟨rfl, m1, rfl⟩
  go_wp2_with fail
  go_at_call 69
  with_reducible refine (q2.out _).mono ?_
  rintro e w' ⟨rfl, m2, rfl⟩
  go_wp2_with fail
  go_ret
  exact ⟨rfl, _, rfl⟩

theorem mixS64 (x a b' c r : Nat) (A B C : Int) (hA : A = a) (hB : B = b') (hC : C = c) (hx : x < 2 ^ 64) (ha : 1 ≤ a ∧ a < 64) (hb : 1 ≤ b' ∧ b' < 64) (hc : 1 ≤ c ∧ c < 64) (hr : r = shifted 64 x a b' c) (w : World) :
    Calls Tryd.prog 62 #[.int .u64 x, .int .i64 A, .int .i64 B, .int .i64 C, .int .i64 64, .bool true] w fun e w' => e = .returned (.int .u64 r) ∧ ∃ m, w' = w.drewN m := by
  subst hA hB hC
  obtain ⟨r1, hr1⟩ : ∃ r1, r1 = rotr 64 x a := ⟨_, rfl⟩
  obtain ⟨r2, hr2⟩ : ∃ r1, r1 = rotr 64 x b' := ⟨_, rfl⟩
  obtain ⟨r3, hr3⟩ : ∃ r1, r1 = x / 2 ^ c := ⟨_, rfl⟩
  have l1 : r1 < 2 ^ 64 := by rw [hr1]; exact rotr_lt 64 x a hx
  have l2 : r2 < 2 ^ 64 := by rw [hr2]; exact rotr_lt 64 x b' hx
  have l3 : r3 < 2 ^ 64 := by rw [hr3]; exact Nat.lt_of_le_of_lt (Nat.div_le_self _ _) hx
  have ex := xor3_64 r1 r2 r3 r (by omega) (by omega) (by omega) (by rw [hr, hr1, hr2, hr3]; rfl)
  obtain ⟨p, hp⟩ : ∃ p, p = 2 ^ c := ⟨_, rfl⟩
  have hp0 : 0 < p := by rw [hp]; exact Nat.two_pow_pos c
  have e6 : (0 : Int) < p := by omega
  have qp : Hid (∀ W : World, Calls Tryd.prog 49 #[.int .i64 (c : Int)] W fun e w' => e = .returned (.int .u64 p) ∧ W = w') := Lib.hid fun W => power_any _ c p rfl (by omega) hp W
  have q1 : Hid (∀ W : World, Calls Tryd.prog 69 #[.int .u64 x, .int .i64 (a : Int), .int .i64 64] W fun e w' => e = .returned (.int .u64 r1) ∧ ∃ m, w' = W.drewN m) := Lib.hid fun W => turn64 x a r1 _ rfl hx ha.1 ha.2 hr1 W
  have q2 : Hid (∀ W : World, Calls Tryd.prog 69 #[.int .u64 x, .int .i64 (b' : Int), .int .i64 64] W fun e w' => e = .returned (.int .u64 r2) ∧ ∃ m, w' = W.drewN m) := Lib.hid fun W => turn64 x b' r2 _ rfl hx hb.1 hb.2 hr2 W
  have e8 : IntKind.u64.wrap ((x : Int) / (p : Int)) = (r3 : Int) := by
    have : (x : Int) / (p : Int) = (r3 : Int) := by rw [hr3, hp]; norm_cast
    rw [this, IntKind.wrap_u64]; omega
  clear hr1 hr2 hr3 l1 l2 l3 hp hp0 hx ha hb hc hr
  go_enter Tryd.func62, Tryd.ntmps62
  go_wp2_with fail
  go_at_call 49
  with_reducible refine (qp.out _).mono ?_
  rintro e w' ⟨rfl, rfl⟩
  go_wp2_with fail
  go_at_call 69
  with_reducible refine (q1.out _).mono ?_
  rintro e w' ⟨rfl, m1, rfl⟩
  go_wp2_with fail
  go_at_call 69
  with_reducible refine (q2.out _).mono ?_
  rintro e w' ⟨rfl, m2, rfl⟩
  go_wp2_with fail
  go_ret
  exact ⟨rfl, _, rfl⟩

theorem four0_64 (x r : Nat) (hx : x < 2 ^ 64) (hr : r = turned 64 x (P64 0) (P64 1) (P64 2)) (w : World) :
    Calls Tryd.prog 52 #[.int .i64 0, .int .u64 x, .int .i64 64] w fun e w' => e = .returned (.int .u64 r) ∧ ∃ m, w' = w.drewN m := by
  have q : Hid (∀ W : World, Calls Tryd.prog 62 #[.int .u64 x, .int .i64 28, .int .i64 34, .int .i64 39, .int .i64 64, .bool false] W fun e w' => e = .returned (.int .u64 r) ∧ ∃ m, w' = W.drewN m) :=
    Lib.hid fun W => mixT64 x 28 34 39 r _ _ _ rfl rfl rfl hx (by decide) (by decide) (by decide) hr W
  clear hx hr
  go_enter Tryd.func52, Tryd.ntmps52
  go_wp2_with fail
  go_at_call 62
  with_reducible refine (q.out _).mono ?_
  rintro e w' ⟨rfl, m, rfl⟩
  go_wp2_with fail
  go_ret
  exact ⟨rfl, _, rfl⟩

theorem four1_64 (x r : Nat) (hx : x < 2 ^ 64) (hr : r = turned 64 x (P64 3) (P64 4) (P64 5)) (w : World) :
    Calls Tryd.prog 52 #[.int .i64 1, .int .u64 x, .int .i64 64] w fun e w' => e = .returned (.int .u64 r) ∧ ∃ m, w' = w.drewN m := by
  have q : Hid (∀ W : World, Calls Tryd.prog 62 #[.int .u64 x, .int .i64 14, .int .i64 18, .int .i64 41, .int .i64 64, .bool false] W fun e w' => e = .returned (.int .u64 r) ∧ ∃ m, w' = W.drewN m) :=
    Lib.hid fun W => mixT64 x 14 18 41 r _ _ _ rfl rfl rfl hx (by decide) (by decide) (by decide) hr W
  clear hx hr
  go_enter Tryd.func52, Tryd.ntmps52
  go_wp2_with fail
  go_at_call 62
  with_reducible refine (q.out _).mono ?_
  rintro e w' ⟨rfl, m, rfl⟩
  go_wp2_with fail
  go_ret
  exact ⟨rfl, _, rfl⟩

theorem four2_64 (x r : Nat) (hx : x < 2 ^ 64) (hr : r = shifted 64 x (P64 6) (P64 7) (P64 8)) (w : World) :
    Calls Tryd.prog 52 #[.int .i64 2, .int .u64 x, .int .i64 64] w fun e w' => e = .returned (.int .u64 r) ∧ ∃ m, w' = w.drewN m := by
  have q : Hid (∀ W : World, Calls Tryd.prog 62 #[.int .u64 x, .int .i64 1, .int .i64 8, .int .i64 7, .int .i64 64, .bool true] W fun e w' => e = .returned (.int .u64 r) ∧ ∃ m, w' = W.drewN m) :=
    Lib.hid fun W => mixS64 x 1 8 7 r _ _ _ rfl rfl rfl hx (by decide) (by decide) (by decide) hr W
  clear hx hr
  go_enter Tryd.func52, Tryd.ntmps52
  go_wp2_with fail
  go_at_call 62
  with_reducible refine (q.out _).mono ?_
  rintro e w' ⟨rfl, m, rfl⟩
  go_wp2_with fail
  go_ret
  exact ⟨rfl, _, rfl⟩

theorem four3_64 (x r : Nat) (hx : x < 2 ^ 64) (hr : r = shifted 64 x (P64 9) (P64 10) (P64 11)) (w : World) :
    Calls Tryd.prog 52 #[.int .i64 3, .int .u64 x, .int .i64 64] w fun e w' => e = .returned (.int .u64 r) ∧ ∃ m, w' = w.drewN m := by
  have q : Hid (∀ W : World, Calls Tryd.prog 62 #[.int .u64 x, .int .i64 19, .int .i64 61, .int .i64 6, .int .i64 64, .bool true] W fun e w' => e = .returned (.int .u64 r) ∧ ∃ m, w' = W.drewN m) :=
    Lib.hid fun W => mixS64 x 19 61 6 r _ _ _ rfl rfl rfl hx (by decide) (by decide) (by decide) hr W
  clear hx hr
  go_enter Tryd.func52, Tryd.ntmps52
  go_wp2_with fail
  go_at_call 62
  with_reducible refine (q.out _).mono ?_
  rintro e w' ⟨rfl, m, rfl⟩
  go_wp2_with fail
  go_ret
  exact ⟨rfl, _, rfl⟩

end Go.Proofs.YtobaplndoaeoiaaDoor
namespace Go.Proofs.YtobaplndoaeoiaaDoor
open Go.RowKit

set_option maxRecDepth 100000
set_option maxHeartbeats 1000000

/-- Eight words of a new block. -/
structure Gave8_64 (w : World) (v : Oct) (e : Ending) (w' : World) : Prop where
  ex : ∃ r, e = .returned (.slice (some ⟨r, 0, none⟩) 8 8) ∧ w.heap.size ≤ r ∧ Holds w' r 24 .u64 8 v.get ∧ w.grownBy w' none

theorem round64 (vb vc k wt : Nat) (v : Oct) (w : World) (hc : ∀ i, i < 8 → w.cell? ⟨vb, i, none⟩ = some (.int .u64 (v.get i))) (hv : v.Lt (2 ^ 64)) (hk : k < 2 ^ 64) :
    Calls Tryd.prog 53 #[.slice (some ⟨vb, 0, none⟩) 8 vc, .int .u64 k, .int .u64 wt, .int .i64 64] w (Gave8_64 w (rnd 64 P64 k wt v)) := by
  have c0 : w.cell? ⟨vb, 0, none⟩ = some (.int .u64 v.a) := hc 0 (by decide)
  have c1 : w.cell? ⟨vb, 1, none⟩ = some (.int .u64 v.b) := hc 1 (by decide)
  have c2 : w.cell? ⟨vb, 2, none⟩ = some (.int .u64 v.c) := hc 2 (by decide)
  have c3 : w.cell? ⟨vb, 3, none⟩ = some (.int .u64 v.d) := hc 3 (by decide)
  have c4 : w.cell? ⟨vb, 4, none⟩ = some (.int .u64 v.e) := hc 4 (by decide)
  have c5 : w.cell? ⟨vb, 5, none⟩ = some (.int .u64 v.f) := hc 5 (by decide)
  have c6 : w.cell? ⟨vb, 6, none⟩ = some (.int .u64 v.g) := hc 6 (by decide)
  have c7 : w.cell? ⟨vb, 7, none⟩ = some (.int .u64 v.h) := hc 7 (by decide)
  clear hc
  obtain ⟨la, lb, lc, ld, le, lf, lg, lh⟩ := hv
  have hvl : v.Lt (2 ^ 64) := ⟨la, lb, lc, ld, le, lf, lg, lh⟩
  -- p
  obtain ⟨f1, hf1⟩ : ∃ x, x = turned 64 v.e (P64 3) (P64 4) (P64 5) := ⟨_, rfl⟩
  have lf1 : f1 < 2 ^ 64 := by rw [hf1]; exact turned_lt 64 _ _ _ _ le
  obtain ⟨ne, hne⟩ : ∃ x, x = 2 ^ 64 - 1 - v.e := ⟨_, rfl⟩
  have a1 := bits_and_u64 v.e v.f (by omega) (by omega)
  have a2 := bits_and_u64 ne v.g (by omega) (by omega)
  have l1 : v.e &&& v.f < 2 ^ 64 := Nat.and_lt_two_pow _ lf
  have l2 : ne &&& v.g < 2 ^ 64 := Nat.and_lt_two_pow _ lg
  have a3 := bits_xor_u64 (v.e &&& v.f) (ne &&& v.g) (by omega) (by omega)
  have l3 : (v.e &&& v.f) ^^^ (ne &&& v.g) < 2 ^ 64 := Nat.xor_lt_two_pow l1 l2
  obtain ⟨p, hp⟩ : ∃ x, x = rndP 64 P64 k wt v := ⟨_, rfl⟩
  have hp2 : p = (v.h + f1 + ((v.e &&& v.f) ^^^ (ne &&& v.g)) + k + wt) % 2 ^ 64 := by rw [hp, hf1, hne]; rfl
  -- q
  obtain ⟨f0, hf0⟩ : ∃ x, x = turned 64 v.a (P64 0) (P64 1) (P64 2) := ⟨_, rfl⟩
  have lf0 : f0 < 2 ^ 64 := by rw [hf0]; exact turned_lt 64 _ _ _ _ la
  have b1 := bits_and_u64 v.a v.b (by omega) (by omega)
  have b2 := bits_and_u64 v.a v.c (by omega) (by omega)
  have b3 := bits_and_u64 v.b v.c (by omega) (by omega)
  have m1 : v.a &&& v.b < 2 ^ 64 := Nat.and_lt_two_pow _ lb
  have m2 : v.a &&& v.c < 2 ^ 64 := Nat.and_lt_two_pow _ lc
  have m3 : v.b &&& v.c < 2 ^ 64 := Nat.and_lt_two_pow _ lc
  have b4 := bits_xor_u64 (v.a &&& v.b) (v.a &&& v.c) (by omega) (by omega)
  have m4 : (v.a &&& v.b) ^^^ (v.a &&& v.c) < 2 ^ 64 := Nat.xor_lt_two_pow m1 m2
  have b5 := bits_xor_u64 ((v.a &&& v.b) ^^^ (v.a &&& v.c)) (v.b &&& v.c) (by omega) (by omega)
  have m5 : (v.a &&& v.b) ^^^ (v.a &&& v.c) ^^^ (v.b &&& v.c) < 2 ^ 64 := Nat.xor_lt_two_pow m4 m3
  obtain ⟨q, hq⟩ : ∃ x, x = rndQ 64 P64 v := ⟨_, rfl⟩
  have hq2 : q = (f0 + ((v.a &&& v.b) ^^^ (v.a &&& v.c) ^^^ (v.b &&& v.c))) % 2 ^ 64 := by rw [hq, hf0]; rfl
  have hrnd : rnd 64 P64 k wt v = ⟨(p + q) % 2 ^ 64, v.a, v.b, v.c, (v.d + p) % 2 ^ 64, v.e, v.f, v.g⟩ := by rw [hp, hq]; rfl
  have lp : p < 2 ^ 64 := by rw [hp2]; exact Nat.mod_lt _ (by decide)
  have lq : q < 2 ^ 64 := by rw [hq2]; exact Nat.mod_lt _ (by decide)
  have Q4e : Hid (∀ W : World, Calls Tryd.prog 52 #[.int .i64 1, .int .u64 v.e, .int .i64 64] W fun e w' => e = .returned (.int .u64 f1) ∧ ∃ m, w' = W.drewN m) := Lib.hid fun W => four1_64 v.e f1 le hf1 W
  have Q4a : Hid (∀ W : World, Calls Tryd.prog 52 #[.int .i64 0, .int .u64 v.a, .int .i64 64] W fun e w' => e = .returned (.int .u64 f0) ∧ ∃ m, w' = W.drewN m) := Lib.hid fun W => four0_64 v.a f0 la hf0 W
  generalize (v.e &&& v.f) ^^^ (ne &&& v.g) = ch at *
  generalize v.e &&& v.f = ef at *
  generalize ne &&& v.g = ng at *
  generalize (v.a &&& v.b) ^^^ (v.a &&& v.c) ^^^ (v.b &&& v.c) = mj at *
  generalize (v.a &&& v.b) ^^^ (v.a &&& v.c) = mk at *
  generalize v.a &&& v.b = ab at *
  generalize v.a &&& v.c = ac at *
  generalize v.b &&& v.c = bc at *
  obtain ⟨y1, hy1⟩ : ∃ x, x = (v.h + f1) % 2 ^ 64 := ⟨_, rfl⟩
  obtain ⟨y2, hy2⟩ : ∃ x, x = (y1 + ch) % 2 ^ 64 := ⟨_, rfl⟩
  obtain ⟨y3, hy3⟩ : ∃ x, x = (y2 + k) % 2 ^ 64 := ⟨_, rfl⟩
  obtain ⟨y4, hy4⟩ : ∃ x, x = (y3 + wt) % 2 ^ 64 := ⟨_, rfl⟩
  obtain ⟨z1, hz1⟩ : ∃ x, x = (f0 + mj) % 2 ^ 64 := ⟨_, rfl⟩
  obtain ⟨s1, hs1⟩ : ∃ x, x = (p + q) % 2 ^ 64 := ⟨_, rfl⟩
  obtain ⟨s2, hs2⟩ : ∃ x, x = (v.d + p) % 2 ^ 64 := ⟨_, rfl⟩
  obtain ⟨t1, ht1⟩ : ∃ x, x = (p + q) % 2 ^ 64 := ⟨_, rfl⟩
  obtain ⟨t2, ht2⟩ : ∃ x, x = (v.d + p) % 2 ^ 64 := ⟨_, rfl⟩
  have e0 : IntKind.u64.wrap (((2 ^ 64 - 1 : Nat) : Int) - (v.e : Int)) = (ne : Int) := by rw [IntKind.wrap_u64]; omega
  have e1 : IntKind.u64.wrap ((v.h : Int) + (f1 : Int)) = (y1 : Int) := by rw [IntKind.wrap_u64]; omega
  have e2 : IntKind.u64.wrap ((y1 : Int) + (ch : Int)) = (y2 : Int) := by rw [IntKind.wrap_u64]; omega
  have e3 : IntKind.u64.wrap ((y2 : Int) + (k : Int)) = (y3 : Int) := by rw [IntKind.wrap_u64]; omega
  have e4 : IntKind.u64.wrap ((y3 : Int) + (wt : Int)) = (y4 : Int) := by rw [IntKind.wrap_u64]; omega
  have e5 : IntKind.u64.wrap ((f0 : Int) + (mj : Int)) = (z1 : Int) := by rw [IntKind.wrap_u64]; omega
  have e6 : IntKind.u64.wrap ((p : Int) + (q : Int)) = (s1 : Int) := by rw [IntKind.wrap_u64]; omega
  have e7 : IntKind.u64.wrap ((v.d : Int) + (p : Int)) = (s2 : Int) := by rw [IntKind.wrap_u64]; omega
  have QF : Hid (∀ W : World, Calls Tryd.prog 51 #[.int .u64 18446744073709551615, .int .i64 64] W fun e w' => e = .returned (.int .u64 ((2 ^ 64 - 1 : Nat) : Int)) ∧ W = w') := Lib.hid fun W => cut64 18446744073709551615 (2 ^ 64 - 1) (by decide) (by decide) W
  have QP : Hid (∀ W : World, Calls Tryd.prog 51 #[.int .u64 y4, .int .i64 64] W fun e w' => e = .returned (.int .u64 p) ∧ w' = W) := Lib.hid fun W => (cut64 y4 p (by omega) (by omega) W).mono fun _ _ h => ⟨h.1, h.2.symm⟩
  have QQ : Hid (∀ W : World, Calls Tryd.prog 51 #[.int .u64 z1, .int .i64 64] W fun e w' => e = .returned (.int .u64 q) ∧ w' = W) := Lib.hid fun W => (cut64 z1 q (by omega) (by omega) W).mono fun _ _ h => ⟨h.1, h.2.symm⟩
  have QS : Hid (∀ W : World, Calls Tryd.prog 51 #[.int .u64 s1, .int .i64 64] W fun e w' => e = .returned (.int .u64 t1) ∧ w' = W) := Lib.hid fun W => (cut64 s1 t1 (by omega) (by omega) W).mono fun _ _ h => ⟨h.1, h.2.symm⟩
  have QT : Hid (∀ W : World, Calls Tryd.prog 51 #[.int .u64 s2, .int .i64 64] W fun e w' => e = .returned (.int .u64 t2) ∧ w' = W) := Lib.hid fun W => (cut64 s2 t2 (by omega) (by omega) W).mono fun _ _ h => ⟨h.1, h.2.symm⟩
  have Hrnd : Hid (rnd 64 P64 k wt v = ⟨t1, v.a, v.b, v.c, t2, v.e, v.f, v.g⟩) := Lib.hid (by rw [hrnd, ht1, ht2])
  have hk0 : k < 2 ^ 64 := hk
  clear hrnd hy1 hy2 hy3 hy4 hz1 hs1 hs2 ht1 ht2 hp2 hq2 lp lq hp hq m5 m4 m3 m2 m1 l3 l2 l1 lf0 lf1 hf0 hf1 hvl la lb lc ld le lf lg lh hk hk0
  generalize hfull : ((2 ^ 64 - 1 : Nat) : Int) = full at *
  clear hfull hne
  go_enter Tryd.func53, Tryd.ntmps53
  go_wp2_with (go_at_call 51; (with_reducible refine (QF.out _).mono ?_); rintro e w' ⟨rfl, rfl⟩)
  go_quiet ((first
    | (go_at_call 52; with_reducible exact Calls.quiet_of (Q4e.out _))
    | (go_at_call 51; with_reducible exact Calls.quiet_of_same (QP.out _))))
  have g1 := grown_drewN (grown_refl w none) nq
  have d0 : (w.drewN nq).cell? ⟨vb, 0, none⟩ = some (.int .u64 v.a) := c0
  have d1 : (w.drewN nq).cell? ⟨vb, 1, none⟩ = some (.int .u64 v.b) := c1
  have d2 : (w.drewN nq).cell? ⟨vb, 2, none⟩ = some (.int .u64 v.c) := c2
  have d3 : (w.drewN nq).cell? ⟨vb, 3, none⟩ = some (.int .u64 v.d) := c3
  have d4 : (w.drewN nq).cell? ⟨vb, 4, none⟩ = some (.int .u64 v.e) := c4
  have d5 : (w.drewN nq).cell? ⟨vb, 5, none⟩ = some (.int .u64 v.f) := c5
  have d6 : (w.drewN nq).cell? ⟨vb, 6, none⟩ = some (.int .u64 v.g) := c6
  have d7 : (w.drewN nq).cell? ⟨vb, 7, none⟩ = some (.int .u64 v.h) := c7
  clear c0 c1 c2 c3 c4 c5 c6 c7 e1 e2 e3 e4 a1 a2 a3 e0
  generalize w.drewN nq = w2 at *
  go_wp2_with fail
  go_quiet ((first
    | (go_at_call 52; with_reducible exact Calls.quiet_of (Q4a.out _))
    | (go_at_call 51; with_reducible exact Calls.quiet_of_same (QQ.out _))))
  have g2 := grown_drewN g1 nq
  have c0 : (w2.drewN nq).cell? ⟨vb, 0, none⟩ = some (.int .u64 v.a) := d0
  have c1 : (w2.drewN nq).cell? ⟨vb, 1, none⟩ = some (.int .u64 v.b) := d1
  have c2 : (w2.drewN nq).cell? ⟨vb, 2, none⟩ = some (.int .u64 v.c) := d2
  have c3 : (w2.drewN nq).cell? ⟨vb, 3, none⟩ = some (.int .u64 v.d) := d3
  have c4 : (w2.drewN nq).cell? ⟨vb, 4, none⟩ = some (.int .u64 v.e) := d4
  have c5 : (w2.drewN nq).cell? ⟨vb, 5, none⟩ = some (.int .u64 v.f) := d5
  have c6 : (w2.drewN nq).cell? ⟨vb, 6, none⟩ = some (.int .u64 v.g) := d6
  have c7 : (w2.drewN nq).cell? ⟨vb, 7, none⟩ = some (.int .u64 v.h) := d7
  clear d0 d1 d2 d3 d4 d5 d6 d7 g1 b1 b2 b3 b4 b5 e5
  generalize w2.drewN nq = w3 at *
  go_wp2_with fail
  refine wp_region_still_tail 30 (by kernel_rfl) (by kernel_rfl) ?_
  have g3 := grown_drew g2
  have d0 : w3.drew.cell? ⟨vb, 0, none⟩ = some (.int .u64 v.a) := c0
  have d1 : w3.drew.cell? ⟨vb, 1, none⟩ = some (.int .u64 v.b) := c1
  have d2 : w3.drew.cell? ⟨vb, 2, none⟩ = some (.int .u64 v.c) := c2
  have d3 : w3.drew.cell? ⟨vb, 3, none⟩ = some (.int .u64 v.d) := c3
  have d4 : w3.drew.cell? ⟨vb, 4, none⟩ = some (.int .u64 v.e) := c4
  have d5 : w3.drew.cell? ⟨vb, 5, none⟩ = some (.int .u64 v.f) := c5
  have d6 : w3.drew.cell? ⟨vb, 6, none⟩ = some (.int .u64 v.g) := c6
  have d7 : w3.drew.cell? ⟨vb, 7, none⟩ = some (.int .u64 v.h) := c7
  change wpStill _ _ w3.drew (fun a' => wpList _ _ _ _ a' w3.drew) _ _
  clear c0 c1 c2 c3 c4 c5 c6 c7 g2
  generalize w3.drew = w4 at *
  simp only [List.take_succ_cons, List.take_zero, List.drop_succ_cons, List.drop_zero]
  repeat still_step
  still_call (QS.out _)
  repeat still_step
  still_call (QT.out _)
  repeat still_step
  refine wpStill_nil ?_
  have hH := holds_alloc w4 24 .u64 8 (rnd 64 P64 k wt v).get #[.int .u64 t1, .int .u64 v.a, .int .u64 v.b, .int .u64 v.c, .int .u64 t2, .int .u64 v.e, .int .u64 v.f, .int .u64 v.g] (by rw [Hrnd.out]; rfl)
  have HH := Lib.hid hH
  clear hH
  go_wp2_with fail
  go_ret
  exact ⟨_, rfl, g3.size, HH.out, grown_alloc g3 _⟩

end Go.Proofs.YtobaplndoaeoiaaDoor
namespace Go.Proofs.YtobaplndoaeoiaaDoor
open Go.RowKit

set_option maxRecDepth 100000
set_option maxHeartbeats 1000000

/-- What stands through the loops: the state, the constants, the padded text; all of it is new. -/
structure Inv64 (w wr : World) (hb kb al cap T : Nat) (st pd : Nat → Nat) : Prop where
  h : Holds wr hb 24 .u64 8 st
  k : Holds wr kb 24 .u64 80 KC
  p : OwnR wr al T cap pd
  g : w.grownBy wr none

theorem Inv64.grown {w wr wr' : World} {hb kb al cap T : Nat} {st pd : Nat → Nat} (h : Inv64 w wr hb kb al cap T st pd) (g : wr.grownBy wr' none) : Inv64 w wr' hb kb al cap T st pd :=
  ⟨h.h.grown g (by simp), h.k.grown g (by simp), h.p.grown g (by simp), grown_trans h.g g⟩

theorem oct_lt64 (f : Nat → Nat) (h : ∀ i, f i < 2 ^ 64) : (Oct.of f).Lt (2 ^ 64) := ⟨h 0, h 1, h 2, h 3, h 4, h 5, h 6, h 7⟩
theorem oct_get_lt64 (v : Oct) (h : v.Lt (2 ^ 64)) : ∀ i, v.get i < 2 ^ 64
  | 0 => h.a
  | 1 => h.b
  | 2 => h.c
  | 3 => h.d
  | 4 => h.e
  | 5 => h.f
  | 6 => h.g
  | _ + 7 => h.h
theorem new_cell64 {W : World} {v : Value} {T : TypeId} {g n c : Nat} {f : Nat → Nat} (_ : OwnV (W.alloc (.cells #[v] T)) g n c f) : (W.alloc (.cells #[v] T)).cell? ⟨W.heap.size, 0, none⟩ = some v := by
  rw [cell_of_row _ _ _ _ _ _ (heap_alloc_new W (.cells #[v] T))]; rfl
theorem new_cellD64 {W : World} {v : Value} {T : TypeId} {g n c : Nat} {f : Nat → Nat} (_ : OwnV (W.alloc (.cells #[v] T)).drew g n c f) : (W.alloc (.cells #[v] T)).drew.cell? ⟨W.heap.size, 0, none⟩ = some v := by
  show (W.alloc (.cells #[v] T)).cell? _ = _
  rw [cell_of_row _ _ _ _ _ _ (heap_alloc_new W (.cells #[v] T))]; rfl

theorem new_cellN64 {W : World} {v x : Value} {T : TypeId} {B n : Nat} {f : Nat → Nat} (_ : OwnN (W.alloc (.cells #[v] T)) B x n f) : (W.alloc (.cells #[v] T)).cell? ⟨W.heap.size, 0, none⟩ = some v := by
  rw [cell_of_row _ _ _ _ _ _ (heap_alloc_new W (.cells #[v] T))]; rfl
theorem new_cellND64 {W : World} {v x : Value} {T : TypeId} {B n : Nat} {f : Nat → Nat} (_ : OwnN (W.alloc (.cells #[v] T)).drew B x n f) : (W.alloc (.cells #[v] T)).drew.cell? ⟨W.heap.size, 0, none⟩ = some v := by
  show (W.alloc (.cells #[v] T)).cell? _ = _
  rw [cell_of_row _ _ _ _ _ _ (heap_alloc_new W (.cells #[v] T))]; rfl

theorem rsum64 (N c : Nat) (a : Option Addr) (g : Nat → Nat) (w : World) (hR : Rd w w.heap.size a N g) (hg : ∀ i, g i < 256) (hN : N ≤ 2 ^ 40) :
    Calls Tryd.prog 40 #[.slice a N c, .int .i64 64] w (GaveN w 64 (sumOf 64 80 P64 KC (H64 FC) g N)) := by
  go_enter Tryd.func40, Tryd.ntmps40
  go_wp2_with fail
  go_at_call 47
  with_reducible refine (First_any _).mono ?_
  rintro e w1 ⟨hb, rfl, hhb, hH, g1⟩
  go_wp2_with fail
  go_at_call 48
  with_reducible refine (Constants_any _).mono ?_
  rintro e w2 ⟨kb, rfl, hkb, hK, g2⟩
  have hH2 := hH.grown g2 (by simp)
  have g02 := grown_trans g1 g2
  have hhk : hb ≠ kb := by have := hH.lt; omega
  have hkbw : w.heap.size ≤ kb := Nat.le_trans g1.size hkb
  clear hH g1 g2
  have qp : Hid (∀ W : World, Calls Tryd.prog 49 #[.int .i64 0] W fun e w' => e = .returned (.int .u64 1) ∧ W = w') := Lib.hid fun W => power_any _ 0 1 rfl (by decide) (by decide) W
  go_wp2_with (go_at_call 49; (with_reducible refine (qp.out _).mono ?_); rintro e w' ⟨rfl, rfl⟩)
  go_loopw [9] (fun u9 wr => ∃ i : Nat, i ≤ 8 ∧ u9 = .int .i64 i ∧ Holds wr hb 24 .u64 8 (fun j => if j < i then H64 FC j else FC j) ∧ Holds wr kb 24 .u64 80 KC ∧ w.grownBy wr none) (fun u9 _ => 8 - (intOf u9).toNat)
  case atStart => exact ⟨0, by omega, rfl, hH2.congr (fun i _ => by rw [if_neg (by omega)]), hK, g02⟩
  case round =>
    obtain ⟨i, hi, rfl, hHr, hKr, hgr⟩ := hrel
    clear hH2 hK g02
    by_cases hi8 : i < 8
    · have i1 : (i : Int) < 8 := by omega
      have ci := hHr.cell i hi8
      rw [if_neg (by omega)] at ci
      have fi := hHr.frozen i
      obtain ⟨v, hv⟩ : ∃ v, v = H64 FC i := ⟨_, rfl⟩
      have hF := FC_lt i
      have hv2 : v = FC i / 1 := by rw [hv]; rfl
      have ev : (FC i : Int) / 1 = (v : Int) := by omega
      have ev2 : IntKind.u64.wrap (v : Int) = (v : Int) := by rw [IntKind.wrap_u64]; omega
      have evf : IntKind.u64.wrap (FC i : Int) = (FC i : Int) := by rw [IntKind.wrap_u64]; omega
      have H5 := hHr.set i v
      have K5 := hKr.setOther ⟨hb, i, none⟩ (.int .u64 (v : Nat)) (by show kb ≠ hb; omega)
      have G5 := grown_setCell_new hgr ⟨hb, i, none⟩ (.int .u64 (v : Nat)) (Or.inl hhb)
      have Hv := Lib.hid hv
      clear hF hv hv2
      have hv3 : FC i = v := by have := Hv.out; rw [this]; exact (Nat.div_one _).symm
      rw [hv3] at ci
      clear ev evf hv3
      go_wp2_with fail
      refine ⟨⟨i + 1, by omega, by go_num, H5.congr (fun j hj => ?_), K5, G5⟩, by simp [intOf]; omega⟩
      by_cases e : j = i
      · subst e; rw [upd_same, if_pos (by omega), Hv.out]
      · rw [upd_other _ _ _ _ e]
        by_cases e2 : j < i
        · rw [if_pos e2, if_pos (by omega)]
        · rw [if_neg e2, if_neg (by omega)]
    · have hE : i = 8 := by omega
      have i1 : (8 : Int) ≤ i := by omega
      have hH3 : Holds wr hb 24 .u64 8 (H64 FC) := hHr.congr (fun j hj => by rw [if_pos (by omega)])
      clear hHr hi8 hi hE
      have hRr := hR.up (Nat.le_refl _) hgr
      have hrp := rpad64 N c a g wr hRr hN
      have HRP := Lib.hid hrp
      clear hrp
      go_wp2_with fail
      go_at_call 50
      with_reducible refine (HRP.out).mono ?_
      rintro e w3 ⟨al, cap, rfl, hal, hg3, hb3⟩
      have I3 : Inv64 w w3 hb kb al cap (128 * padBlocks 64 N) (stAfter 64 80 P64 KC (H64 FC) (padded 64 g N) 0) (padded 64 g N) := ⟨hH3.grown hg3 (by simp), hKr.grown hg3 (by simp), hal, grown_trans hgr hg3⟩
      have hpd : ∀ j, padded 64 g N j < 256 := fun j => by
        unfold padded
        split
        · exact hg _
        · split
          · exact (by decide : 128 < 256)
          · split
            · exact (by decide : 0 < 256)
            · exact Nat.mod_lt _ (by decide)
      have hal3 : w.heap.size ≤ al := Nat.le_trans hgr.size hb3
      have hh1 : hb < al := Nat.lt_of_lt_of_le hH3.lt hb3
      have hh2 : kb < al := Nat.lt_of_lt_of_le hKr.lt hb3
      generalize hpdn : padded 64 g N = pd at *
      generalize hnbn : padBlocks 64 N = nb at *
      have hnb : nb ≤ 2 ^ 36 := by rw [← hnbn]; unfold padBlocks; omega
      have HPD := Lib.hid hpdn
      have HNB := Lib.hid hnbn
      clear hpdn hnbn hal hH3 hKr hgr hRr HRP hg3 hb3 i1
      go_wp2_with fail
      generalize hTn : 128 * nb = T at *
      have HT := Lib.hid hTn
      have hT4 : T ≤ 2 ^ 43 := by omega
      have Hh1 := Lib.hid hh1
      have Hh2 := Lib.hid hh2
      have Hhk := Lib.hid hhk
      have Hhb := Lib.hid hhb
      have Hal := Lib.hid hal3
      have Hkb := Lib.hid hkbw
      clear hTn hh1 hh2 hhk hhb hal3 hkb hkbw
      go_loopw [11] (fun u11 wr => ∃ (i q : Nat), i ≤ nb ∧ u11 = .int .i64 q ∧ Hid (q = 128 * i) ∧ Inv64 w wr hb kb al cap T (stAfter 64 80 P64 KC (H64 FC) pd i) pd) (fun u11 _ => T - (intOf u11).toNat)
      case atStart => exact ⟨0, 0, by omega, rfl, Lib.hid rfl, I3⟩
      case round =>
        clear I3
        obtain ⟨i, q, hi, rfl, hq, hI⟩ := hrel
        obtain ⟨blk, hblk⟩ : ∃ f : Nat → Nat, f = fun j => pd (i * (16 * (64 / 8)) + j) := ⟨_, rfl⟩
        have hbq : ∀ j, blk j = pd (q + j) := fun j => by rw [hblk, hq.out, Nat.mul_comm]
        have hb8 : ∀ j, blk j < 256 := fun j => by rw [hbq]; exact hpd _
        have Hblk := Lib.hid hblk
        have Hbq := Lib.hid hbq
        have Hb8 := Lib.hid hb8
        clear hblk hbq hb8
        by_cases hlt : q < T
        · have i1 : (q : Int) < T := by omega
          have i2 : (T : Int) ≤ 8796093022208 := by omega
          have hqT : q + 128 ≤ T := by have := hq.out; have := HT.out; omega
          have HqT := Lib.hid hqT
          have Hlt := Lib.hid hlt
          clear hqT hlt
          generalize wr = w6 at *
          have HI := Lib.hid hI
          have Hs6 := Lib.hid hI.g.size
          clear hI
          go_wp2_with fail
          go_loopw [12, 13] (fun u12 u13 wq => ∃ t : Nat, t ≤ 16 ∧ u13 = .int .i64 t ∧ OwnW wq w6.heap.size u12 t (word 64 P64 blk) ∧ w6.grownBy wq none) (fun _ u13 _ => 16 - (intOf u13).toNat)
          case atStart => exact ⟨0, by omega, rfl, OwnW.nil _ _ _, grown_refl _ _⟩
          case round =>
            obtain ⟨t, ht, rfl, hoW, hg6⟩ := hrel
            by_cases ht16 : t < 16
            · have j1 : (t : Int) < 16 := by omega
              go_wp2_with fail
              go_loop [14, 15] (fun u14 u15 => ∃ (j x : Nat), j ≤ 8 ∧ u15 = .int .i64 j ∧ u14 = .int .u64 x ∧ Hid (x = be (fun j => blk (t * 8 + j)) j)) (fun _ u15 => 8 - (intOf u15).toNat)
              case atStart => exact ⟨0, 0, by omega, rfl, rfl, Lib.hid rfl⟩
              case round =>
                obtain ⟨j, x, hj, rfl, rfl, hx⟩ := hrel
                by_cases hjs : j < 8
                · have k1 : (j : Int) < 8 := by omega
                  obtain ⟨y, hy⟩ : ∃ y, y = blk (t * 8 + j) := ⟨_, rfl⟩
                  have hqT := HqT.out
                  have hyl : y < 256 := by rw [hy]; exact Hb8.out _
                  have cF : wr.cell? ⟨al, q + t * 64 / 8 + j, none⟩ = some (.int .u8 (y : Nat)) := by
                    rw [show q + t * 64 / 8 + j = q + (t * 8 + j) by omega, (HI.out.p.grown hg6 (by simp)).cell _ (by omega), hy, Hbq.out]
                  have b0 : (0 : Int) ≤ (q : Int) + (t : Int) * 64 / 8 + (j : Int) := by omega
                  have b1 : (q : Int) + (t : Int) * 64 / 8 + (j : Int) < T := by omega
                  have hxl : x < 256 ^ j := by rw [hx.out]; exact be_lt _ (fun _ => Hb8.out _) j
                  have hxm : 256 ^ j ≤ 256 ^ 7 := Nat.pow_le_pow_right (by decide) (by omega)
                  have ex : IntKind.u64.wrap (256 * (x : Int)) = ((256 * x : Nat) : Int) := by rw [IntKind.wrap_u64]; omega
                  have ey : IntKind.u64.wrap (y : Int) = (y : Int) := by rw [IntKind.wrap_u64]; omega
                  obtain ⟨x2, hx2⟩ : ∃ x2, x2 = 256 * x := ⟨_, rfl⟩
                  obtain ⟨z, hz⟩ : ∃ z, z = x2 + y := ⟨_, rfl⟩
                  have ez : IntKind.u64.wrap ((x2 : Int) + (y : Int)) = (z : Int) := by rw [IntKind.wrap_u64]; omega
                  rw [← hx2] at ex
                  have Hz : Hid (z = be (fun j => blk (t * 8 + j)) (j + 1)) := Lib.hid (by rw [hz, hx2, hx.out, hy, Nat.mul_comm]; rfl)
                  clear hz hx2 hxm hxl hqT hy hyl
                  go_wp2_with fail
                  exact ⟨⟨j + 1, z, by omega, by go_num, rfl, Hz⟩, by simp [intOf]; omega⟩
                · have hjE : j = 8 := by omega
                  have k1 : (8 : Int) ≤ j := by omega
                  have Hxw : Hid (x = word 64 P64 blk t) := Lib.hid (by rw [hx.out, hjE, word_low _ _ _ _ ht16])
                  have HjE := Lib.hid hjE
                  have gW := World.grownBy_alloc wr (.cells #[.int .u64 x] 24) none
                  have bW := heap_alloc_new wr (.cells #[.int .u64 x] 24)
                  have hoA := hoW.grown gW
                  have hgA := grown_trans hg6 gW
                  have HC : Hid (∀ j, j < 1 → (wr.alloc (.cells #[.int .u64 x] 24)).cell? ((⟨wr.heap.size, 0, none⟩ : Addr).add j) = some (.int .u64 x)) := Lib.hid (fun j hj => by
                    obtain rfl : j = 0 := by omega
                    show (wr.alloc _).cell? ⟨wr.heap.size, 0, none⟩ = _
                    rw [cell_of_row _ _ _ _ _ _ bW]; rfl)
                  clear hjE hjs hj gW bW hoW hg6 hx
                  go_wp2_with (at_builtin; refine wpList_appW rfl _ _ rfl w6.heap.size _ t _ rfl hoA ⟨wr.heap.size, 0, none⟩ 1 1 (fun _ => x) rfl HC.out (by omega) hgA.size ?_; intro v' w5 hown' hg')
                  have hg5 := grown_ownW hgA hoA hg'
                  have ho5 : OwnW w5 w6.heap.size v' (t + 1) (word 64 P64 blk) := hown'.congr (fun m hm => by
                    by_cases e : m < t
                    · rw [if_pos e]
                    · obtain rfl : m = t := by omega
                      rw [if_neg e, Hxw.out])
                  exact ⟨⟨t + 1, by omega, by go_num, ho5, hg5⟩, by simp [intOf]; omega⟩
            · have htE : t = 16 := by omega
              have j1 : (16 : Int) ≤ t := by omega
              subst htE
              clear ht16 ht
              go_wp2_with fail
              obtain ⟨g7, cap7, rfl, hoV, hg7⟩ := hoW.toV (by decide)
              clear hoW
              go_loopw [12, 16] (fun u12 u16 wq => ∃ (t gv cv : Nat), 16 ≤ t ∧ t ≤ 80 ∧ u16 = .int .i64 t ∧ u12 = .slice (some ⟨gv, 0, none⟩) t cv ∧ OwnV wq gv t cv (word 64 P64 blk) ∧ w6.heap.size ≤ gv ∧ w6.grownBy wq none) (fun _ u16 _ => 80 - (intOf u16).toNat)
              case atStart => exact ⟨16, g7, cap7, by omega, by omega, rfl, rfl, hoV, hg7, hg6⟩
              case round =>
                clear hoV hg6 hg7 j1
                obtain ⟨t, gv, cv, ht0, ht, rfl, rfl, hoV, hgv, hg6⟩ := hrel
                by_cases htR : t < 80
                · have j1 : (t : Int) < 80 := by omega
                  have j0 : (16 : Int) ≤ t := by omega
                  --CUTBEGIN
                  obtain ⟨t2, ht2⟩ : ∃ t2, t2 = t - 2 := ⟨_, rfl⟩
                  obtain ⟨t7, ht7⟩ : ∃ t2, t2 = t - 7 := ⟨_, rfl⟩
                  obtain ⟨t15, ht15⟩ : ∃ t2, t2 = t - 15 := ⟨_, rfl⟩
                  obtain ⟨t16, ht16'⟩ : ∃ t2, t2 = t - 16 := ⟨_, rfl⟩
                  have e2 : IntKind.i64.wrap ((t : Int) - 2) = (t2 : Int) := by rw [IntKind.wrap_i64]; omega
                  have e7 : IntKind.i64.wrap ((t : Int) - 7) = (t7 : Int) := by rw [IntKind.wrap_i64]; omega
                  have e15 : IntKind.i64.wrap ((t : Int) - 15) = (t15 : Int) := by rw [IntKind.wrap_i64]; omega
                  have e16 : IntKind.i64.wrap ((t : Int) - 16) = (t16 : Int) := by rw [IntKind.wrap_i64]; omega
                  have l2 : (t2 : Int) < t := by omega
                  have l7 : (t7 : Int) < t := by omega
                  have l15 : (t15 : Int) < t := by omega
                  have l16 : (t16 : Int) < t := by omega
                  have hwl : ∀ m, word 64 P64 blk m < 2 ^ 64 := fun m => word_lt64 P64 blk Hb8.out m
                  have hwt := word_high 64 P64 blk t ht0
                  rw [← ht2, ← ht7, ← ht15, ← ht16'] at hwt
                  have c2 := fun (W : World) (h : OwnV W gv t cv (word 64 P64 blk)) => h.cell t2 (by omega)
                  have c7 := fun (W : World) (h : OwnV W gv t cv (word 64 P64 blk)) => h.cell t7 (by omega)
                  have c15 := fun (W : World) (h : OwnV W gv t cv (word 64 P64 blk)) => h.cell t15 (by omega)
                  have c16 := fun (W : World) (h : OwnV W gv t cv (word 64 P64 blk)) => h.cell t16 (by omega)
                  have hx2 := hwl t2
                  have hx7 := hwl t7
                  have hx15 := hwl t15
                  have hx16 := hwl t16
                  obtain ⟨nw, hnw⟩ : ∃ nw, nw = word 64 P64 blk t := ⟨_, rfl⟩
                  rw [← hnw] at hwt
                  generalize word 64 P64 blk t2 = x2 at *
                  generalize word 64 P64 blk t7 = x7 at *
                  generalize word 64 P64 blk t15 = x15 at *
                  generalize word 64 P64 blk t16 = x16 at *
                  obtain ⟨f3, hf3⟩ : ∃ f, f = shifted 64 x2 (P64 9) (P64 10) (P64 11) := ⟨_, rfl⟩
                  obtain ⟨f2, hf2⟩ : ∃ f, f = shifted 64 x15 (P64 6) (P64 7) (P64 8) := ⟨_, rfl⟩
                  have lf3 : f3 < 2 ^ 64 := by rw [hf3]; exact shifted_lt 64 _ _ _ _ hx2
                  have lf2 : f2 < 2 ^ 64 := by rw [hf2]; exact shifted_lt 64 _ _ _ _ hx15
                  rw [← hf3, ← hf2] at hwt
                  obtain ⟨y1, hy1⟩ : ∃ y, y = (f3 + x7) % 2 ^ 64 := ⟨_, rfl⟩
                  obtain ⟨y2, hy2⟩ : ∃ y, y = (y1 + f2) % 2 ^ 64 := ⟨_, rfl⟩
                  obtain ⟨y3, hy3⟩ : ∃ y, y = (y2 + x16) % 2 ^ 64 := ⟨_, rfl⟩
                  have ey1 : IntKind.u64.wrap ((f3 : Int) + (x7 : Int)) = (y1 : Int) := by rw [IntKind.wrap_u64]; omega
                  have ey2 : IntKind.u64.wrap ((y1 : Int) + (f2 : Int)) = (y2 : Int) := by rw [IntKind.wrap_u64]; omega
                  have ey3 : IntKind.u64.wrap ((y2 : Int) + (x16 : Int)) = (y3 : Int) := by rw [IntKind.wrap_u64]; omega
                  have Q3 : Hid (∀ W : World, Calls Tryd.prog 52 #[.int .i64 3, .int .u64 x2, .int .i64 64] W fun e w' => e = .returned (.int .u64 f3) ∧ W.grownBy w' none) := Lib.hid fun W => (four3_64 x2 f3 hx2 hf3 W).mono fun _ _ ⟨h1, m, h2⟩ => ⟨h1, by rw [h2]; exact grown_drewN (grown_refl W none) m⟩
                  have Q2 : Hid (∀ W : World, Calls Tryd.prog 52 #[.int .i64 2, .int .u64 x15, .int .i64 64] W fun e w' => e = .returned (.int .u64 f2) ∧ W.grownBy w' none) := Lib.hid fun W => (four2_64 x15 f2 hx15 hf2 W).mono fun _ _ ⟨h1, m, h2⟩ => ⟨h1, by rw [h2]; exact grown_drewN (grown_refl W none) m⟩
                  have QC : Hid (∀ W : World, Calls Tryd.prog 51 #[.int .u64 y3, .int .i64 64] W fun e w' => e = .returned (.int .u64 nw) ∧ W = w') := Lib.hid fun W => cut64 y3 nw (by omega) (by omega) W
                  have HS : Hid (∀ W : World, OwnV W gv t cv (word 64 P64 blk) → w6.grownBy W none → (OwnV W gv t cv (word 64 P64 blk) ∧ w6.grownBy W none ∧ W.cell? ⟨gv, t2, none⟩ = some (.int .u64 x2) ∧ W.cell? ⟨gv, t7, none⟩ = some (.int .u64 x7) ∧ W.cell? ⟨gv, t15, none⟩ = some (.int .u64 x15) ∧ W.cell? ⟨gv, t16, none⟩ = some (.int .u64 x16))) :=
                    Lib.hid fun W h1 h2 => ⟨h1, h2, c2 W h1, c7 W h1, c15 W h1, c16 W h1⟩
                  have HAP : Hid (∀ (W : World) (B : Nat), OwnV W gv t cv (word 64 P64 blk) → w6.grownBy W none → W.cell? ⟨B, 0, none⟩ = some (.int .u64 (nw : Nat)) → ∃ g' cap' w', (Builtin.append_ #[93, 93] 93 #[.slice (some ⟨gv, 0, none⟩) t cv, .slice (some ⟨B, 0, none⟩) 1 1]).run Tryd.prog W = .ok (.slice (some ⟨g', 0, none⟩) (t + 1) cap') w' ∧
                      OwnV w' g' (t + 1) cap' (word 64 P64 blk) ∧ OwnV w' gv t cv (word 64 P64 blk) ∧ w6.grownBy w' none ∧ w6.heap.size ≤ g') := Lib.hid fun W B h1 h2 h3 => by
                    have hR1 : RdW W W.heap.size (some ⟨B, 0, none⟩) 1 (fun _ => nw) := ⟨fun _ => ⟨B, 0, rfl, World.block_lt_of_cell? W _ h3, fun i hi => by
                      obtain rfl : i = 0 := by omega
                      exact h3⟩⟩
                    obtain ⟨v, w', hr, ⟨g', cap', rfl, k1, k2, k3, k4⟩⟩ := app_runW 1 93 h1 hR1 (by omega)
                    refine ⟨g', cap', w', hr, k1.congr (fun m hm => ?_), k2, grown_new h2 k3 hgv, ?_⟩
                    · unfold cat
                      by_cases e : m < t
                      · rw [if_pos e]
                      · obtain rfl : m = t := by omega
                        rw [if_neg e, hnw]
                    · have := h2.size
                      omega
                  clear c2 c7 c15 c16 hx2 hx7 hx15 hx16 hy1 hy2 hy3 lf2 lf3 hf2 hf3 hwt hnw hwl ht2 ht7 ht15 ht16'
                  go_wp2_with fail
                  have hS0 := HS.out wr.drew (hoV.of_block rfl hoV.lt) (grown_drew hg6)
                  have HS0 := Lib.hid hS0
                  clear hS0
                  go_region_held3 (fun w' => OwnV w' gv t cv (word 64 P64 blk) ∧ w6.grownBy w' none ∧ w'.cell? ⟨gv, t2, none⟩ = some (.int .u64 x2) ∧ w'.cell? ⟨gv, t7, none⟩ = some (.int .u64 x7) ∧ w'.cell? ⟨gv, t15, none⟩ = some (.int .u64 x15) ∧ w'.cell? ⟨gv, t16, none⟩ = some (.int .u64 x16))
                    (first
                      | (with_reducible exact HS0.out)
                      | (with_reducible assumption)
                      | (obtain ⟨k1, k2, _⟩ := ‹OwnV _ gv t cv (word 64 P64 blk) ∧ _›; first
                          | (with_reducible exact HS.out _ (k1.grown hg' (by simp)) (grown_trans k2 hg'))
                          | (with_reducible exact HS.out _ (k1.grown (World.grownBy_alloc _ _ none) (by simp)) (grown_trans k2 (World.grownBy_alloc _ _ none)))
                          | (with_reducible exact HS.out _ hv3 hw3)))
                    (first
                      | (go_at_call 52; (with_reducible refine (Q3.out _).mono ?_); rintro e w' ⟨rfl, hg'⟩)
                      | (go_at_call 52; (with_reducible refine (Q2.out _).mono ?_); rintro e w' ⟨rfl, hg'⟩)
                      | (go_at_call 51; (with_reducible refine (QC.out _).mono ?_); rintro e w' ⟨rfl, rfl⟩)
                      | (obtain ⟨k1, k2, _⟩ := ‹OwnV _ gv t cv (word 64 P64 blk) ∧ _›; obtain ⟨gn, capn, w9, hapn, kn1, hv3, hw3, kn4⟩ := HAP.out _ _ k1 k2 (by first | exact new_cell64 k1 | exact new_cellD64 k1);
                         refine step_append_runW rfl (.tmp 90) (.tmp 120) 93 93 rfl (.slice (some ⟨gv, 0, none⟩) t cv) (.slice (some ⟨_, 0, none⟩) 1 1) _ _ rfl rfl hapn ?_))
                  all_goals
                    go_wp2_with fail
                    go_roundw
                    case rel => first
                      | exact ⟨t + 1, gn, capn, by omega, by omega, by go_num, rfl, kn1, kn4, hw3⟩
                      | ((repeat apply Exists.intro); exact ⟨⟨t + 1, gn, capn, by omega, by omega, by go_num, rfl, kn1, kn4, hw3⟩, rfl⟩)
                    case measure => simp [intOf]; omega
                --CUTEND
                · have htE : t = 80 := by omega
                  have j1 : (80 : Int) ≤ t := by omega
                  subst htE
                  clear htR ht ht0
                  have hI7 := HI.out.grown hg6
                  have ho0 := ownV_empty wr
                  have ga := World.grownBy_alloc wr (.cells #[] 24) none
                  have hIa := hI7.grown ga
                  have hRh : RdW (wr.alloc (.cells #[] 24)) (wr.alloc (.cells #[] 24)).heap.size (some ⟨hb, 0, none⟩) 8 (stAfter 64 80 P64 KC (H64 FC) pd i) := ⟨fun _ => ⟨hb, 0, rfl, hIa.h.lt, fun m hm => by rw [Nat.zero_add]; exact hIa.h.cell m hm⟩⟩
                  obtain ⟨v, w8, hap8, ⟨gs, caps, rfl, ho8, _, hg8, hgs⟩⟩ := app_runW 8 93 ho0 hRh (by decide)
                  rw [Nat.zero_add] at hap8 ho8
                  have hg68 : w6.grownBy w8 none := grown_new (grown_trans hg6 ga) hg8 hg6.size
                  have hoV8 : OwnV w8 gv 80 cv (word 64 P64 blk) := (hoV.grown ga (by simp)).grown hg8 (by have := hoV.lt; simp; omega)
                  have hcS : ∀ m, m < 8 → w8.cell? ⟨gs, m, none⟩ = some (.int .u64 ((rnds 64 P64 (fun t => KC t / 2 ^ (64 - 64)) (word 64 P64 blk) (Oct.of (stAfter 64 80 P64 KC (H64 FC) pd i)) 0).get m)) := fun m hm => by
                    rw [ho8.cell m hm]
                    show some (Value.int .u64 (cat 0 _ (stAfter 64 80 P64 KC (H64 FC) pd i) m : Nat)) = some (Value.int .u64 ((Oct.of (stAfter 64 80 P64 KC (H64 FC) pd i)).get m : Nat))
                    rw [Oct.get_of _ _ hm, cat, if_neg (by omega), Nat.sub_zero]
                  have HAP8 := Lib.hid hap8
                  have Hgs : Hid (w6.heap.size ≤ gs) := Lib.hid (by have := hg6.size; have := ga.size; omega)
                  have HcS := Lib.hid hcS
                  clear hap8 hcS ho8 hRh hIa ga ho0 hI7 hoV hg8
                  go_wp2_with (at_builtin; refine wpList_append_run rfl (.tmp 122) (.tmp 123) 93 93 rfl (.slice (some ⟨wr.heap.size, 0, none⟩) 0 0) (.slice (some ⟨hb, 0, none⟩) 8 8) _ _ rfl rfl HAP8.out ?_)
                  go_loopw [17, 18] (fun u17 u18 wq => ∃ (t gs cs : Nat), t ≤ 80 ∧ u18 = .int .i64 t ∧ u17 = .slice (some ⟨gs, 0, none⟩) 8 cs ∧ w6.heap.size ≤ gs ∧
                      (∀ m, m < 8 → wq.cell? ⟨gs, m, none⟩ = some (.int .u64 ((rnds 64 P64 (fun t => KC t / 2 ^ (64 - 64)) (word 64 P64 blk) (Oct.of (stAfter 64 80 P64 KC (H64 FC) pd i)) t).get m))) ∧ OwnV wq gv 80 cv (word 64 P64 blk) ∧ w6.grownBy wq none)
                    (fun _ u18 _ => 80 - (intOf u18).toNat)
                  case atStart => exact ⟨0, gs, caps, by omega, rfl, rfl, Hgs.out, HcS.out, hoV8, hg68⟩
                  case round =>
                    clear hoV8 hg68 hg6
                    obtain ⟨t, gs, cs, ht, rfl, rfl, hgs6, hcv, hoV, hg6⟩ := hrel
                    have Hcv := Lib.hid hcv
                    have Hgs6 := Lib.hid hgs6
                    clear hcv hgs6
                    have hI7 := HI.out.grown hg6
                    by_cases htR : t < 80
                    · have j1 : (t : Int) < 80 := by omega
                      have j2 : (t : Int) < 80 := by omega
                      --CUTBEGIN
                      obtain ⟨kt, hkt⟩ : ∃ k, k = KC t / 2 ^ (64 - 64) := ⟨_, rfl⟩
                      obtain ⟨wt, hwt⟩ : ∃ x, x = word 64 P64 blk t := ⟨_, rfl⟩
                      have ck : wr.drew.cell? ⟨kb, t, none⟩ = some (.int .u64 (KC t)) := hI7.k.cell t (by omega)
                      have cw : wr.drew.cell? ⟨gv, t, none⟩ = some (.int .u64 (wt : Nat)) := by rw [hwt]; exact hoV.cell t htR
                      have hKl := KC_lt t
                      have ktl : kt < 2 ^ 64 := by rw [hkt]; omega
                      have ek2 : IntKind.u64.wrap (kt : Int) = (kt : Int) := by rw [IntKind.wrap_u64]; omega
                      have ek3 : KC t = kt := by rw [hkt]; exact (Nat.div_one _).symm
                      rw [ek3] at ck
                      have hvl : (rnds 64 P64 (fun t => KC t / 2 ^ (64 - 64)) (word 64 P64 blk) (Oct.of (stAfter 64 80 P64 KC (H64 FC) pd i)) t).Lt (2 ^ 64) := rnds_lt _ _ _ _ _ (oct_lt64 _ (stAfter_lt 64 80 P64 KC (H64 FC) pd (fun i => H64_lt FC FC_lt i) i)) t
                      have hrd := round64 gs cs kt wt _ wr.drew (fun m hm => Hcv.out m hm) hvl ktl
                      have hnx : rnds 64 P64 (fun t => KC t / 2 ^ (64 - 64)) (word 64 P64 blk) (Oct.of (stAfter 64 80 P64 KC (H64 FC) pd i)) (t + 1) = rnd 64 P64 kt wt (rnds 64 P64 (fun t => KC t / 2 ^ (64 - 64)) (word 64 P64 blk) (Oct.of (stAfter 64 80 P64 KC (H64 FC) pd i)) t) := by rw [hkt, hwt]; rfl
                      have HRD := Lib.hid hrd
                      have Hnx := Lib.hid hnx
                      have hoD : OwnV wr.drew gv 80 cv (word 64 P64 blk) := hoV.of_block rfl hoV.lt
                      have hgD := grown_drew hg6
                      clear hrd hnx hvl hkt hwt hI7 hKl ktl
                      clear ek3
                      go_wp2_with fail
                      refine wp_region_still_tail 12 (by kernel_rfl) (by kernel_rfl) ?_
                      change wpStill _ _ wr.drew (fun a' => wpList _ _ _ _ a' wr.drew) _ _
                      clear hoV hg6 Hcv
                      generalize wr.drew = w4 at *
                      simp only [List.take_succ_cons, List.take_zero, List.drop_succ_cons, List.drop_zero]
                      repeat still_step
                      refine wpStill_nil ?_
                      go_wp2_with fail
                      go_at_call 53
                      with_reducible refine (HRD.out).mono ?_
                      rintro e w5 ⟨gr, rfl, hgr5, hH5, hg5⟩
                      have hoV5 := hoD.grown hg5 (by simp)
                      have hg65 := grown_trans hgD hg5
                      have Hc5 : Hid (∀ m, m < 8 → w5.cell? ⟨gr, m, none⟩ = some (.int .u64 ((rnds 64 P64 (fun t => KC t / 2 ^ (64 - 64)) (word 64 P64 blk) (Oct.of (stAfter 64 80 P64 KC (H64 FC) pd i)) (t + 1)).get m))) := Lib.hid fun m hm => by rw [Hnx.out]; exact hH5.cell m hm
                      have Hgr6 : Hid (w6.heap.size ≤ gr) := Lib.hid (Nat.le_trans hgD.size hgr5)
                      clear hH5 hoD hgD hg5 hgr5 ck cw ek2
                      go_wp2_with fail
                      exact ⟨⟨t + 1, gr, 8, by omega, by go_num, rfl, Hgr6.out, Hc5.out, hoV5, hg65⟩, by simp [intOf]; omega⟩
                    --CUTEND
                    · have htE : t = 80 := by omega
                      have j1 : (80 : Int) ≤ t := by omega
                      subst htE
                      clear htR ht
                      have hst1 : stAfter 64 80 P64 KC (H64 FC) pd (i + 1) = compress 64 80 P64 KC (stAfter 64 80 P64 KC (H64 FC) pd i) blk := by rw [Hblk.out]; rfl
                      obtain ⟨st, hst⟩ : ∃ f, f = stAfter 64 80 P64 KC (H64 FC) pd i := ⟨_, rfl⟩
                      obtain ⟨vf, hvf⟩ : ∃ f, f = (rnds 64 P64 (fun t => KC t / 2 ^ (64 - 64)) (word 64 P64 blk) (Oct.of (stAfter 64 80 P64 KC (H64 FC) pd i)) 80).get := ⟨_, rfl⟩
                      have hcs : ∀ j, stAfter 64 80 P64 KC (H64 FC) pd (i + 1) j = (st j + vf j) % 2 ^ 64 := fun j => by rw [hst1, hst, hvf]; rfl
                      have hstl : ∀ j, st j < 2 ^ 64 := fun j => by rw [hst]; exact stAfter_lt 64 80 P64 KC (H64 FC) pd (fun i => H64_lt FC FC_lt i) i j
                      have hvfl : ∀ j, j < 8 → vf j < 2 ^ 64 := fun j hj => by
                        rw [hvf]
                        exact oct_get_lt64 _ (rnds_lt _ _ _ _ _ (oct_lt64 _ (stAfter_lt 64 80 P64 KC (H64 FC) pd (fun i => H64_lt FC FC_lt i) i)) 80) j
                      have Hcv7 : Hid (∀ m, m < 8 → wr.cell? ⟨gs, m, none⟩ = some (.int .u64 (vf m : Nat))) := Lib.hid fun m hm => by rw [hvf]; exact Hcv.out m hm
                      rw [← hst] at hI7
                      have Hcs := Lib.hid hcs
                      have Hstl := Lib.hid hstl
                      have Hvfl := Lib.hid hvfl
                      clear hst1 hcs hstl hvfl hvf hst hoV hg6
                      go_wp2_with fail
                      go_loopw [19] (fun u19 wq => ∃ m : Nat, m ≤ 8 ∧ u19 = .int .i64 m ∧ Inv64 w wq hb kb al cap T (fun j => if j < m then (st j + vf j) % 2 ^ 64 else st j) pd ∧ (∀ j, j < 8 → wq.cell? ⟨gs, j, none⟩ = some (.int .u64 (vf j : Nat)))) (fun u19 _ => 8 - (intOf u19).toNat)
                      case atStart => exact ⟨0, by omega, rfl, ⟨hI7.h.congr (fun j _ => by rw [if_neg (by omega)]), hI7.k, hI7.p, hI7.g⟩, Hcv7.out⟩
                      case round =>
                        clear hI7
                        obtain ⟨m, hm, rfl, hI7, hcv⟩ := hrel
                        have HI7 := Lib.hid hI7
                        have Hcv8 := Lib.hid hcv
                        clear hI7 hcv
                        by_cases hm8 : m < 8
                        · have j1 : (m : Int) < 8 := by omega
                          --CUTBEGIN
                          have ch : wr.drew.cell? ⟨hb, m, none⟩ = some (.int .u64 (st m : Nat)) := by
                            have := HI7.out.h.cell m hm8
                            rw [if_neg (by omega)] at this
                            exact this
                          have cv' : wr.drew.cell? ⟨gs, m, none⟩ = some (.int .u64 (vf m : Nat)) := Hcv8.out m hm8
                          have fh : wr.drew.frozen? ⟨hb, m, none⟩ = false := HI7.out.h.frozen m
                          have l1 := Hstl.out m
                          have l2 := Hvfl.out m hm8
                          obtain ⟨y, hy⟩ : ∃ y, y = (st m + vf m) % 2 ^ 64 := ⟨_, rfl⟩
                          obtain ⟨z, hz⟩ : ∃ z, z = (st m + vf m) % 2 ^ 64 := ⟨_, rfl⟩
                          have ey : IntKind.u64.wrap ((st m : Int) + (vf m : Int)) = (y : Int) := by rw [IntKind.wrap_u64]; omega
                          have QC : Hid (∀ W : World, Calls Tryd.prog 51 #[.int .u64 y, .int .i64 64] W fun e w' => e = .returned (.int .u64 z) ∧ w' = W) := Lib.hid fun W => (cut64 y z (by omega) (by omega) W).mono fun _ _ h => ⟨h.1, h.2.symm⟩
                          have Hz := Lib.hid hz
                          have HhD : Hid (Holds wr.drew hb 24 .u64 8 (fun j => if j < m then (st j + vf j) % 2 ^ 64 else st j)) := Lib.hid HI7.out.h.drew
                          have HkD : Hid (Holds wr.drew kb 24 .u64 80 KC) := Lib.hid HI7.out.k.drew
                          have HpD : Hid (OwnR wr.drew al T cap pd) := Lib.hid (HI7.out.p.of_block rfl HI7.out.p.lt)
                          have HgD : Hid (w.grownBy wr.drew none) := Lib.hid (grown_drew HI7.out.g)
                          have HcD : Hid (∀ j, j < 8 → wr.drew.cell? ⟨gs, j, none⟩ = some (.int .u64 (vf j : Nat))) := Lib.hid fun j hj => Hcv8.out j hj
                          clear hy hz l1 l2
                          generalize st m = sm at ch ey
                          generalize vf m = vm at cv' ey
                          go_wp2_with fail
                          refine wp_region_still_tail 14 (by kernel_rfl) (by kernel_rfl) ?_
                          change wpStill _ _ wr.drew (fun a' => wpList _ _ _ _ a' wr.drew) _ _
                          clear HI7 Hcv8
                          generalize wr.drew = w4 at *
                          simp only [List.take_succ_cons, List.take_zero, List.drop_succ_cons, List.drop_zero]
                          repeat still_step
                          still_call (QC.out _)
                          repeat still_step
                          refine wpStill_nil ?_
                          have h5 := HhD.out.set m z
                          have H5h : Holds (w4.setCell ⟨hb, m, none⟩ (.int .u64 (z : Nat))) hb 24 .u64 8 (fun j => if j < m + 1 then (st j + vf j) % 2 ^ 64 else st j) := h5.congr (fun j hj => by
                            by_cases e : j = m
                            · subst e; rw [upd_same, if_pos (by omega), Hz.out]
                            · rw [upd_other _ _ _ _ e]
                              by_cases e2 : j < m
                              · rw [if_pos e2, if_pos (by omega)]
                              · rw [if_neg e2, if_neg (by omega)])
                          have H5 : Hid (Inv64 w (w4.setCell ⟨hb, m, none⟩ (.int .u64 (z : Nat))) hb kb al cap T (fun j => if j < m + 1 then (st j + vf j) % 2 ^ 64 else st j) pd) := Lib.hid
                            ⟨H5h, HkD.out.setOther ⟨hb, m, none⟩ _ (by show kb ≠ hb; exact Ne.symm Hhk.out), HpD.out.of_block (heap_setCell_other w4 _ al _ (by show al ≠ hb; have := Hh1.out; omega)) (by simpa [World.setCell] using HpD.out.lt),
                              grown_setCell_new HgD.out ⟨hb, m, none⟩ _ (Or.inl Hhb.out)⟩
                          have Hc5 : Hid (∀ j, j < 8 → (w4.setCell ⟨hb, m, none⟩ (.int .u64 (z : Nat))).cell? ⟨gs, j, none⟩ = some (.int .u64 (vf j : Nat))) := Lib.hid fun j hj => cell_set (HcD.out j hj) (fun e => by have h1 := HI.out.h.lt; have h2 := Hgs6.out; injection e; omega)
                          clear h5 H5h
                          go_wp2_with fail
                          go_roundw
                          case rel => first
                            | exact ⟨m + 1, by omega, by go_num, H5.out, Hc5.out⟩
                            | ((repeat apply Exists.intro); exact ⟨⟨m + 1, by omega, by go_num, H5.out, Hc5.out⟩, rfl⟩)
                          case measure => simp [intOf]; omega
                        --CUTEND
                        · have hmE : m = 8 := by omega
                          have j1 : (8 : Int) ≤ m := by omega
                          subst hmE
                          clear hm8 hm
                          have hq2 : q + 128 = 128 * (i + 1) := by have := hq.out; omega
                          have HI9 : Hid (Inv64 w wr hb kb al cap T (stAfter 64 80 P64 KC (H64 FC) pd (i + 1)) pd) := Lib.hid ⟨HI7.out.h.congr (fun j hj => by rw [if_pos hj, Hcs.out j]), HI7.out.k, HI7.out.p, HI7.out.g⟩
                          have Hq2 := Lib.hid hq2
                          have hi9 : i + 1 ≤ nb := by have h1 := Hlt.out; have h2 := HT.out; have h3 := hq.out; omega
                          clear hq2
                          go_wp2_with fail
                          exact ⟨⟨i + 1, q + 128, hi9, by go_num, Hq2, HI9.out⟩, by have := Hlt.out; simp [intOf]; omega⟩
        · have hiE : i = nb := by have h1 := HT.out; have h2 := hq.out; omega
          have i1 : (T : Int) ≤ q := by omega
          have i3 : decide ((q : Int) < (T : Int)) = false := by rw [decide_eq_false_iff_not]; omega
          have i4 : decide (q < T) = false := by rw [decide_eq_false_iff_not]; omega
          subst hiE
          generalize wr = w6 at *
          obtain ⟨st, hst⟩ : ∃ f, f = stAfter 64 80 P64 KC (H64 FC) pd i := ⟨_, rfl⟩
          have hstl : ∀ j, st j < 2 ^ 64 := fun j => by rw [hst]; exact stAfter_lt 64 80 P64 KC (H64 FC) pd (fun i => H64_lt FC FC_lt i) i j
          rw [← hst] at hI
          have hsum : sumOf 64 80 P64 KC (H64 FC) g N = fun x => st (x / 8) / 2 ^ (8 * (8 - 1 - x % 8)) % 256 := by
            rw [hst, ← HPD.out, ← HNB.out]; rfl
          have HI := Lib.hid hI
          have Hstl := Lib.hid hstl
          have Hsum := Lib.hid hsum
          clear hsum hstl hst hI hlt hi hq
          generalize hout : (fun x => st (x / 8) / 2 ^ (8 * (8 - 1 - x % 8)) % 256) = outF at Hsum
          have Hout := Lib.hid hout
          clear hout
          go_wp2_with fail
          go_loopw [20, 21] (fun u20 u21 wq => ∃ m : Nat, m ≤ 8 ∧ u21 = .int .i64 m ∧ OwnN wq w6.heap.size u20 (m * 8) outF ∧ w6.grownBy wq none) (fun _ u21 _ => 8 - (intOf u21).toNat)
          case atStart => exact ⟨0, by omega, rfl, OwnN.nil _ _ _, grown_refl _ _⟩
          case round =>
            obtain ⟨m, hm, rfl, hoB, hg6⟩ := hrel
            by_cases hm8 : m < 8
            · have j1 : (m : Int) < 8 := by omega
              go_wp2_with fail
              go_loopw [20, 22] (fun u20 u22 wq => ∃ s : Nat, s ≤ 8 ∧ u22 = .int .i64 ((s : Int) - 1) ∧ OwnN wq w6.heap.size u20 (m * 8 + (8 - s)) outF ∧ w6.grownBy wq none) (fun _ u22 _ => (intOf u22 + 1).toNat)
              case atStart => exact ⟨8, by omega, rfl, by simpa using hoB, hg6⟩
              case round =>
                clear hoB hg6
                obtain ⟨s, hs, rfl, hoB, hg6⟩ := hrel
                by_cases hs0 : s = 0
                · have hs1 : (s : Int) - 1 < 0 := by omega
                  have ho2 : OwnN wr w6.heap.size u20 ((m + 1) * 8) outF := by
                    rw [show (m + 1) * 8 = m * 8 + (8 - s) by omega]; exact hoB
                  clear hs0 hs hoB
                  go_wp2_with fail
                  exact ⟨⟨m + 1, by omega, by go_num, ho2, hg6⟩, by simp [intOf]; omega⟩
                · obtain ⟨j, rfl⟩ : ∃ j, s = j + 1 := ⟨s - 1, by omega⟩
                  have e1 : ((j + 1 : Nat) : Int) - 1 = (j : Int) := by omega
                  rw [e1]
                  have hj : j < 8 := by omega
                  have ij : (j : Int) < 8 := by omega
                  have ch : wr.drew.cell? ⟨hb, m, none⟩ = some (.int .u64 (st m : Nat)) := (HI.out.h.grown hg6 (by simp)).cell m hm8
                  have hsl := Hstl.out m
                  obtain ⟨P, hP⟩ : ∃ P, P = 2 ^ (8 * j) := ⟨_, rfl⟩
                  have hP0 : 0 < P := by rw [hP]; exact Nat.two_pow_pos _
                  obtain ⟨y, hy⟩ : ∃ y, y = st m / P := ⟨_, rfl⟩
                  obtain ⟨z, hz⟩ : ∃ z, z = y % 256 := ⟨_, rfl⟩
                  have hyl : y < 2 ^ 64 := by rw [hy]; exact Nat.lt_of_le_of_lt (Nat.div_le_self _ _) hsl
                  have iP : (0 : Int) < P := by omega
                  have iP2 : P ≠ 0 := by omega
                  have e8 : IntKind.i64.wrap (8 * (j : Int)) = 8 * (j : Int) := by rw [IntKind.wrap_i64]; omega
                  have ey0 : (st m : Int) / (P : Int) = (y : Int) := by rw [hy]; norm_cast
                  have ey1 : (st m : Int).tdiv (P : Int) = (y : Int) := by rw [Int.tdiv_eq_ediv_of_nonneg (by omega)]; exact ey0
                  have ey : IntKind.u64.wrap (y : Int) = (y : Int) := by rw [IntKind.wrap_u64]; omega
                  have ez0 : (y : Int) % 256 = (z : Int) := by omega
                  have ez1 : (y : Int).tmod 256 = (z : Int) := by rw [Int.tmod_eq_emod_of_nonneg (by omega)]; exact ez0
                  have ez : IntKind.u8.wrap (z : Int) = (z : Int) := by rw [IntKind.wrap_u8]; omega
                  have QP : Hid (∀ W : World, Calls Tryd.prog 49 #[.int .i64 (8 * (j : Int))] W fun e w' => e = .returned (.int .u64 P) ∧ W = w') := Lib.hid fun W => power_any _ (8 * j) P (by omega) (by omega) hP W
                  have Hzo : Hid (z = outF (m * 8 + (8 - (j + 1)))) := Lib.hid (by
                    rw [← Hout.out, hz, hy, hP]
                    show _ = st ((m * 8 + (8 - (j + 1))) / 8) / 2 ^ (8 * (8 - 1 - (m * 8 + (8 - (j + 1))) % 8)) % 256
                    rw [show (m * 8 + (8 - (j + 1))) / 8 = m by omega, show 8 - 1 - (m * 8 + (8 - (j + 1))) % 8 = j by omega])
                  have hS0 : Hid (OwnN wr.drew w6.heap.size u20 (m * 8 + (8 - (j + 1))) outF ∧ w6.grownBy wr.drew none ∧ wr.drew.cell? ⟨hb, m, none⟩ = some (.int .u64 (st m : Nat))) := Lib.hid ⟨hoB.grown (grown_drew (grown_refl wr none)), grown_drew hg6, ch⟩
                  have HS : Hid (∀ W W' : World, W.grownBy W' none → (OwnN W w6.heap.size u20 (m * 8 + (8 - (j + 1))) outF ∧ w6.grownBy W none ∧ W.cell? ⟨hb, m, none⟩ = some (.int .u64 (st m : Nat))) → (OwnN W' w6.heap.size u20 (m * 8 + (8 - (j + 1))) outF ∧ w6.grownBy W' none ∧ W'.cell? ⟨hb, m, none⟩ = some (.int .u64 (st m : Nat)))) :=
                    Lib.hid fun W W' h1 h2 => ⟨h2.1.grown h1, grown_trans h2.2.1 h1, h1.cell h2.2.2 (by simp)⟩
                  have HAP : Hid (∀ (W : World) (B : Nat), OwnN W w6.heap.size u20 (m * 8 + (8 - (j + 1))) outF → w6.grownBy W none → W.cell? ⟨B, 0, none⟩ = some (.int .u8 (z : Nat)) → ∃ v' w', (Builtin.append_ #[23, 23] 23 #[u20, .slice (some ⟨B, 0, none⟩) 1 1]).run Tryd.prog W = .ok v' w' ∧
                      OwnN w' w6.heap.size v' (m * 8 + (8 - j)) outF ∧ (OwnN w' w6.heap.size u20 (m * 8 + (8 - (j + 1))) outF ∧ w6.grownBy w' none ∧ w'.cell? ⟨hb, m, none⟩ = some (.int .u64 (st m : Nat)))) := Lib.hid fun W B h1 h2 h3 => by
                    have hR1 : Rd W W.heap.size (some ⟨B, 0, none⟩) 1 (fun _ => z) := ⟨fun _ => ⟨B, 0, rfl, World.block_lt_of_cell? W _ h3, fun i hi => by
                      obtain rfl : i = 0 := by omega
                      exact h3⟩⟩
                    obtain ⟨v', w', hr, k1, k2, k3⟩ := app_N 1 23 h2 h1 hR1 (by omega) (by decide)
                    have e3 : m * 8 + (8 - j) = m * 8 + (8 - (j + 1)) + 1 := by omega
                    refine ⟨v', w', hr, ?_, k2, k3, (HI.out.h.grown k3 (by simp)).cell m hm8⟩
                    rw [e3]
                    obtain ⟨ex⟩ := k1
                    refine ⟨ex.imp id (fun ⟨g0, c0, q1, q2, q3⟩ => ⟨g0, c0, q1, q2.congr (fun x hx => ?_), q3⟩)⟩
                    unfold cat
                    by_cases e : x < m * 8 + (8 - (j + 1))
                    · rw [if_pos e]
                    · have e4 : x = m * 8 + (8 - (j + 1)) := by omega
                      rw [if_neg e, e4, Hzo.out]
                  clear hz hy hyl hP hP0 hsl hoB hg6 e1 hs hs0 hj ch
                  generalize st m = sm at *
                  go_wp2_with fail
                  go_region_held3 (fun w' => OwnN w' w6.heap.size u20 (m * 8 + (8 - (j + 1))) outF ∧ w6.grownBy w' none ∧ w'.cell? ⟨hb, m, none⟩ = some (.int .u64 (sm : Nat)))
                    (first
                      | (with_reducible exact hS0.out)
                      | (with_reducible assumption)
                      | (with_reducible exact hv3)
                      | (have k0 := ‹OwnN _ w6.heap.size u20 (m * 8 + (8 - (j + 1))) outF ∧ _›; with_reducible exact HS.out _ _ (World.grownBy_alloc _ _ none) k0))
                    (first
                      | (go_at_call 49; (with_reducible refine (QP.out _).mono ?_); rintro e w' ⟨rfl, rfl⟩)
                      | (have k0 := ‹OwnN _ w6.heap.size u20 (m * 8 + (8 - (j + 1))) outF ∧ _›; obtain ⟨v9, w9, hapn, hv9, hv3⟩ := HAP.out _ _ k0.1 k0.2.1 (by first | exact new_cellN64 k0.1 | exact new_cellND64 k0.1);
                         refine step_append_runW rfl (.tmp 172) (.tmp 183) 23 23 rfl u20 (.slice (some ⟨_, 0, none⟩) 1 1) _ _ rfl rfl hapn ?_))
                  all_goals
                    have hg9 := hv3.2.1
                    clear hv3 hapn
                    go_wp2_with fail
                    go_roundw
                    case rel => first
                      | exact ⟨j, by omega, rfl, hv9, hg9⟩
                      | ((repeat apply Exists.intro); exact ⟨⟨j, by omega, rfl, hv9, hg9⟩, rfl⟩)
                    case measure => simp [intOf]
            · have hmE : m = 8 := by omega
              have j1 : (8 : Int) ≤ m := by omega
              subst hmE
              clear hm8 hm
              go_wp2_with fail
              go_ret
              have hs := HI.out.g
              exact ⟨_, rfl, by rw [Hsum.out]; exact hoB.base hs.size, grown_trans hs hg6⟩

end Go.Proofs.YtobaplndoaeoiaaDoor
namespace Go.Proofs.YtobaplndoaeoiaaDoor
open Go.RowKit

set_option maxRecDepth 100000
set_option maxHeartbeats 1000000

theorem rsize64 (w : World) : Calls Tryd.prog 33 #[.int .u8 2] w fun e w' => e = .returned (.int .i64 64) ∧ w = w' := by
  go_enter Tryd.func33, Tryd.ntmps33
  go_wp2
  go_ret
  exact ⟨rfl, rfl⟩

theorem rsum2_64 (N c : Nat) (a : Option Addr) (g : Nat → Nat) (w : World) (hR : Rd w w.heap.size a N g) (hg : ∀ i, g i < 256) (hN : N ≤ 2 ^ 40) :
    Calls Tryd.prog 34 #[.int .u8 2, .slice a N c] w (GaveN w 64 (sumOf 64 80 P64 KC (H64 FC) g N)) := by
  have hs := rsum64 N c a g w hR hg hN
  have HS := Lib.hid hs
  clear hs
  go_enter Tryd.func34, Tryd.ntmps34
  go_wp2_with (first
    | (go_at_call 33; refine (rsize64 _).mono ?_; rintro e w' ⟨rfl, rfl⟩)
    | (go_at_call 40; (with_reducible refine (HS.out).mono ?_); rintro e w1 ⟨v, rfl, hv, g1⟩))
  go_ret
  exact ⟨v, rfl, hv, g1⟩

theorem OwnN.toR64 {w : World} {base : Nat} {v : Value} {n : Nat} {f : Nat → Nat} (h : OwnN w base v n f) (hn : 0 < n) : ∃ g cap, v = .slice (some ⟨g, 0, none⟩) n cap ∧ OwnR w g n cap f ∧ base ≤ g := by
  rcases h.ex with ⟨_, rfl⟩ | h
  · omega
  · exact h

theorem rkey64 (x L c : Nat) (a : Option Addr) (key : Nat → Nat) (w : World) (hx : x < 256) (hR : Rd w w.heap.size a L key) (hk : ∀ i, key i < 256) (hL : L ≤ 2 ^ 40) :
    Calls Tryd.prog 35 #[.int .u8 2, .slice a L c, .int .u8 x] w (GaveR64 w 128 (fun i => x ^^^ padKey64 FC KC L key i)) := by
  have ga := World.grownBy_alloc w (.cells #[] 5) none
  obtain ⟨g1, cap1, w1, hap1, ho1, hg1, hb1⟩ := app_next64 (w0 := w) c 23 ga (Nat.le_refl _) (ownR_empty w) (hR.up (Nat.le_refl _) ga) (by omega)
  rw [Nat.zero_add] at hap1 ho1
  have ho1' : OwnR w1 g1 L cap1 key := ho1.congr (fun i hi => by unfold cat; rw [if_neg (by omega), Nat.sub_zero])
  have HAP1 := Lib.hid hap1
  have i1 : (L : Int) ≤ 1099511627776 := by omega
  have hpl : ∀ i, padKey64 FC KC L key i < 256 := padKey_lt64 FC KC L key hk
  have Hpl := Lib.hid hpl
  have Hx := Lib.hid hx
  -- what stands behind the first part: the bytes at hand are the key's block's first ones
  have part : ∃ k0 : Nat, k0 ≤ 128 ∧ (∀ i, k0 ≤ i → padKey64 FC KC L key i = 0) ∧ ((128 < L ∧ k0 = 64) ∨ (¬ 128 < L ∧ k0 = L)) := by
    by_cases h : 128 < L
    · exact ⟨64, by omega, fun i hi => by simp only [padKey64, if_pos h, if_neg (show ¬ i < 64 by omega)], Or.inl ⟨h, rfl⟩⟩
    · exact ⟨L, by omega, fun i hi => by simp only [padKey64, if_neg h, if_neg (show ¬ i < L by omega)], Or.inr ⟨h, rfl⟩⟩
  obtain ⟨k0, hk0, hz0, hcase⟩ := part
  have Hz0 := Lib.hid hz0
  clear hz0 hpl hx hap1 ho1 ga
  rcases hcase with ⟨hbig, rfl⟩ | ⟨hbig, rfl⟩
  · have i2 : (128 : Int) < L := by omega
    have hs := rsum2_64 L cap1 _ key w1 ho1'.rd hk hL
    have HS := Lib.hid hs
    have hpk : ∀ i, i < 64 → sumOf 64 80 P64 KC (H64 FC) key L i = padKey64 FC KC L key i := fun i hi => by simp only [padKey64, if_pos hbig, if_pos hi]
    have Hpk := Lib.hid hpk
    clear hs hpk hbig hk0
    generalize hpf : padKey64 FC KC L key = pf at *
    generalize sumOf 64 80 P64 KC (H64 FC) key L = sf at *
    clear hpf
    go_enter Tryd.func35, Tryd.ntmps35
    go_wp2_with (first
      | (at_builtin; refine wpList_append_run rfl (.tmp 9) (.tmp 10) 23 23 rfl (.slice (some ⟨w.heap.size, 0, none⟩) 0 0) (.slice a L c) _ _ rfl rfl HAP1.out ?_)
      | (go_at_call 33; refine (rsize64 _).mono ?_; rintro e w' ⟨rfl, rfl⟩)
      | (go_at_call 34; (with_reducible refine (HS.out).mono ?_); rintro e w2 ⟨v2, rfl, hv2, g2⟩))
    obtain ⟨g2', cap2, rfl, ho2, hb2⟩ := hv2.toR64 (by decide)
    have hoS : OwnR w2 g2' 64 cap2 pf := ho2.congr (fun i hi => Hpk.out i hi)
    have hgS := grown_trans hg1 g2
    have hbS : w.heap.size ≤ g2' := Nat.le_trans hg1.size hb2
    clear hv2 ho2 hb2 g2 HS ho1' hg1 hb1
    clear HAP1
    go_loopw [7] (fun u7 wq => ∃ (k gg cap : Nat), u7 = .slice (some ⟨gg, 0, none⟩) k cap ∧ 64 ≤ k ∧ k ≤ 128 ∧ OwnR wq gg k cap pf ∧ w.grownBy wq none ∧ w.heap.size ≤ gg) (fun u7 _ => match u7 with | .slice _ k _ => 128 - k | _ => 0)
    case atStart => exact ⟨64, _, _, rfl, Nat.le_refl _, by omega, hoS, hgS, hbS⟩
    case round =>
      clear hoS hgS hbS
      obtain ⟨k, gg, cap, rfl, hk1, hk2, ho, hgr, hgb⟩ := hrel
      by_cases hkb : k < 128
      · have j1 : (k : Int) < 128 := by omega
        have gb := World.grownBy_alloc wr (.cells #[.int .u8 0] 5) none
        have bb := heap_alloc_new wr (.cells #[.int .u8 0] 5)
        have hR1 : Rd (wr.alloc (.cells #[.int .u8 0] 5)) (wr.heap.size + 1) (some ⟨wr.heap.size, 0, none⟩) 1 (fun _ => 0) := ⟨fun _ => ⟨wr.heap.size, 0, rfl, by omega, fun i hi => by
          obtain rfl : i = 0 := by omega
          rw [cell_of_row _ _ _ _ _ _ bb]; rfl⟩⟩
        obtain ⟨g3, cap3, w3, hap3, ho3, hg3, hb3⟩ := app_next64 (w0 := w) 1 23 (grown_trans hgr gb) hgb (ho.grown gb (by simp)) hR1 (by omega)
        have ho3' : OwnR w3 g3 (k + 1) cap3 pf := ho3.congr (fun i hi => by
          unfold cat
          by_cases e : i < k
          · rw [if_pos e]
          · obtain rfl : i = k := by omega
            rw [if_neg e, Hz0.out i hk1])
        have HAP3 := Lib.hid hap3
        clear hap3 ho3 hR1 bb gb
        go_wp2_with (first
          | (go_at_call 33; refine (rsize64 _).mono ?_; rintro e w' ⟨rfl, rfl⟩)
          | (at_builtin; refine wpList_append_run rfl (.tmp 27) (.tmp 28) 23 23 rfl (.slice (some ⟨gg, 0, none⟩) k cap) (.slice (some ⟨wr.heap.size, 0, none⟩) 1 1) _ _ rfl rfl HAP3.out ?_))
        exact ⟨⟨k + 1, g3, cap3, rfl, by omega, by omega, ho3', hg3, hb3⟩, by show 128 - (k + 1) < 128 - k; omega⟩
      · have hkE : k = 128 := by omega
        have j1 : (128 : Int) ≤ k := by omega
        subst hkE
        clear hkb hk1 hk2
        go_wp2_with (go_at_call 33; refine (rsize64 _).mono ?_; rintro e w' ⟨rfl, rfl⟩)
        go_loopw [8] (fun u8 wq => ∃ i : Nat, i ≤ 128 ∧ u8 = .int .i64 i ∧ OwnR wq gg 128 cap (fun j => if j < i then x ^^^ pf j else pf j) ∧ w.grownBy wq none) (fun u8 _ => 128 - (intOf u8).toNat)
        case atStart => exact ⟨0, by omega, rfl, ho.congr (fun j _ => by rw [if_neg (by omega)]), hgr⟩
        case round =>
          clear ho hgr
          obtain ⟨i, hi, rfl, ho, hgr⟩ := hrel
          by_cases hib : i < 128
          · have j2 : (i : Int) < 128 := by omega
            have ci := ho.cell i hib
            rw [if_neg (by omega)] at ci
            have fi := ho.free i
            obtain ⟨z, hz⟩ : ∃ z, z = x ^^^ pf i := ⟨_, rfl⟩
            have ez : bits .xor .u8 (pf i : Int) (x : Int) = (z : Int) := by rw [bits_xor_u8 _ _ (Hpl.out i) Hx.out, hz, Nat.xor_comm]
            have O5 := ho.set i z hib
            have O6 : OwnR (wr.setCell ⟨gg, i, none⟩ (.int .u8 (z : Nat))) gg 128 cap (fun j => if j < i + 1 then x ^^^ pf j else pf j) := O5.congr (fun j hj => by
              by_cases e : j = i
              · subst e; rw [upd_same, if_pos (by omega), hz]
              · rw [upd_other _ _ _ _ e]
                by_cases e2 : j < i
                · rw [if_pos e2, if_pos (by omega)]
                · rw [if_neg e2, if_neg (by omega)])
            have G5 := grown_setCell_new hgr ⟨gg, i, none⟩ (.int .u8 (z : Nat)) (Or.inl hgb)
            generalize pf i = pi at ci ez
            clear O5 hz
            go_wp2_with fail
            first
              | exact ⟨⟨i + 1, by omega, by go_num, O6, G5⟩, by simp [intOf]; omega⟩
              | (go_roundw
                 case rel => exact ⟨i + 1, by omega, by go_num, O6, G5⟩
                 case measure => simp [intOf]; omega)
          · have hiE : i = 128 := by omega
            have j2 : (128 : Int) ≤ i := by omega
            subst hiE
            have ho9 : OwnR wr gg 128 cap (fun i => x ^^^ pf i) := ho.congr (fun j hj => by rw [if_pos hj])
            clear hib hi ho
            go_wp2_with fail
            go_ret
            exact ⟨gg, cap, rfl, ho9, hgr, hgb⟩
  · have i2 : (k0 : Int) ≤ 128 := by omega
    have hoS : OwnR w1 g1 k0 cap1 (padKey64 FC KC k0 key) := ho1'.congr (fun i hi => by simp only [padKey64, if_neg hbig, if_pos hi])
    have hgS := hg1
    have hbS := hb1
    clear ho1' hg1 hb1 hbig
    generalize hpf : padKey64 FC KC k0 key = pf at *
    clear hpf
    go_enter Tryd.func35, Tryd.ntmps35
    go_wp2_with (first
      | (at_builtin; refine wpList_append_run rfl (.tmp 9) (.tmp 10) 23 23 rfl (.slice (some ⟨w.heap.size, 0, none⟩) 0 0) (.slice a k0 c) _ _ rfl rfl HAP1.out ?_)
      | (go_at_call 33; refine (rsize64 _).mono ?_; rintro e w' ⟨rfl, rfl⟩))
    clear HAP1
    go_loopw [7] (fun u7 wq => ∃ (k gg cap : Nat), u7 = .slice (some ⟨gg, 0, none⟩) k cap ∧ k0 ≤ k ∧ k ≤ 128 ∧ OwnR wq gg k cap pf ∧ w.grownBy wq none ∧ w.heap.size ≤ gg) (fun u7 _ => match u7 with | .slice _ k _ => 128 - k | _ => 0)
    case atStart => exact ⟨k0, _, _, rfl, Nat.le_refl _, by omega, hoS, hgS, hbS⟩
    case round =>
      clear hoS hgS hbS
      obtain ⟨k, gg, cap, rfl, hk1, hk2, ho, hgr, hgb⟩ := hrel
      by_cases hkb : k < 128
      · have j1 : (k : Int) < 128 := by omega
        have gb := World.grownBy_alloc wr (.cells #[.int .u8 0] 5) none
        have bb := heap_alloc_new wr (.cells #[.int .u8 0] 5)
        have hR1 : Rd (wr.alloc (.cells #[.int .u8 0] 5)) (wr.heap.size + 1) (some ⟨wr.heap.size, 0, none⟩) 1 (fun _ => 0) := ⟨fun _ => ⟨wr.heap.size, 0, rfl, by omega, fun i hi => by
          obtain rfl : i = 0 := by omega
          rw [cell_of_row _ _ _ _ _ _ bb]; rfl⟩⟩
        obtain ⟨g3, cap3, w3, hap3, ho3, hg3, hb3⟩ := app_next64 (w0 := w) 1 23 (grown_trans hgr gb) hgb (ho.grown gb (by simp)) hR1 (by omega)
        have ho3' : OwnR w3 g3 (k + 1) cap3 pf := ho3.congr (fun i hi => by
          unfold cat
          by_cases e : i < k
          · rw [if_pos e]
          · obtain rfl : i = k := by omega
            rw [if_neg e, Hz0.out i hk1])
        have HAP3 := Lib.hid hap3
        clear hap3 ho3 hR1 bb gb
        go_wp2_with (first
          | (go_at_call 33; refine (rsize64 _).mono ?_; rintro e w' ⟨rfl, rfl⟩)
          | (at_builtin; refine wpList_append_run rfl (.tmp 27) (.tmp 28) 23 23 rfl (.slice (some ⟨gg, 0, none⟩) k cap) (.slice (some ⟨wr.heap.size, 0, none⟩) 1 1) _ _ rfl rfl HAP3.out ?_))
        exact ⟨⟨k + 1, g3, cap3, rfl, by omega, by omega, ho3', hg3, hb3⟩, by show 128 - (k + 1) < 128 - k; omega⟩
      · have hkE : k = 128 := by omega
        have j1 : (128 : Int) ≤ k := by omega
        subst hkE
        clear hkb hk1 hk2
        go_wp2_with (go_at_call 33; refine (rsize64 _).mono ?_; rintro e w' ⟨rfl, rfl⟩)
        go_loopw [8] (fun u8 wq => ∃ i : Nat, i ≤ 128 ∧ u8 = .int .i64 i ∧ OwnR wq gg 128 cap (fun j => if j < i then x ^^^ pf j else pf j) ∧ w.grownBy wq none) (fun u8 _ => 128 - (intOf u8).toNat)
        case atStart => exact ⟨0, by omega, rfl, ho.congr (fun j _ => by rw [if_neg (by omega)]), hgr⟩
        case round =>
          clear ho hgr
          obtain ⟨i, hi, rfl, ho, hgr⟩ := hrel
          by_cases hib : i < 128
          · have j2 : (i : Int) < 128 := by omega
            have ci := ho.cell i hib
            rw [if_neg (by omega)] at ci
            have fi := ho.free i
            obtain ⟨z, hz⟩ : ∃ z, z = x ^^^ pf i := ⟨_, rfl⟩
            have ez : bits .xor .u8 (pf i : Int) (x : Int) = (z : Int) := by rw [bits_xor_u8 _ _ (Hpl.out i) Hx.out, hz, Nat.xor_comm]
            have O5 := ho.set i z hib
            have O6 : OwnR (wr.setCell ⟨gg, i, none⟩ (.int .u8 (z : Nat))) gg 128 cap (fun j => if j < i + 1 then x ^^^ pf j else pf j) := O5.congr (fun j hj => by
              by_cases e : j = i
              · subst e; rw [upd_same, if_pos (by omega), hz]
              · rw [upd_other _ _ _ _ e]
                by_cases e2 : j < i
                · rw [if_pos e2, if_pos (by omega)]
                · rw [if_neg e2, if_neg (by omega)])
            have G5 := grown_setCell_new hgr ⟨gg, i, none⟩ (.int .u8 (z : Nat)) (Or.inl hgb)
            generalize pf i = pi at ci ez
            clear O5 hz
            go_wp2_with fail
            first
              | exact ⟨⟨i + 1, by omega, by go_num, O6, G5⟩, by simp [intOf]; omega⟩
              | (go_roundw
                 case rel => exact ⟨i + 1, by omega, by go_num, O6, G5⟩
                 case measure => simp [intOf]; omega)
          · have hiE : i = 128 := by omega
            have j2 : (128 : Int) ≤ i := by omega
            subst hiE
            have ho9 : OwnR wr gg 128 cap (fun i => x ^^^ pf i) := ho.congr (fun j hj => by rw [if_pos hj])
            clear hib hi ho
            go_wp2_with fail
            go_ret
            exact ⟨gg, cap, rfl, ho9, hgr, hgb⟩

theorem rmac64 (Lk ck N tc : Nat) (ka ta : Option Addr) (key g : Nat → Nat) (w : World) (hRk : Rd w w.heap.size ka Lk key) (hRt : Rd w w.heap.size ta N g) (hk : ∀ i, key i < 256) (hg : ∀ i, g i < 256) (hL : Lk ≤ 2 ^ 39) (hN : N ≤ 2 ^ 39) :
    Calls Tryd.prog 27 #[.int .u8 2, .slice ka Lk ck, .slice ta N tc] w (GaveN w 64 (macOf64 FC KC Lk key g N)) := by
  have hpl := padKey_lt64 FC KC Lk key hk
  have hr1 : Calls Tryd.prog 35 #[.int .u8 2, .slice ka Lk ck, .int .u8 54] w (GaveR64 w 128 (fun i => 54 ^^^ padKey64 FC KC Lk key i)) := rkey64 54 Lk ck ka key w (by decide) hRk hk (by omega)
  have HR1 := Lib.hid hr1
  clear hr1
  go_enter Tryd.func27, Tryd.ntmps27
  go_wp2_with (go_at_call 33; refine (rsize64 _).mono ?_; rintro e w' ⟨rfl, rfl⟩)
  go_at_call 35
  with_reducible refine (HR1.out).mono ?_
  rintro e w1 ⟨r1, cap1, rfl, ho1, g1, hb1⟩
  obtain ⟨r2, cap2, w2, hap2, ho2, g2, hb2⟩ := app_next64 (w0 := w) tc 23 g1 hb1 ho1 (hRt.up (Nat.le_refl _) g1) (by omega)
  have hc2 : ∀ i, cat 128 (fun i => 54 ^^^ padKey64 FC KC Lk key i) g i < 256 := fun i => by
    unfold cat
    split
    · exact Nat.xor_lt_two_pow (n := 8) (by decide) (hpl _)
    · exact hg _
  have hs2 := rsum2_64 (128 + N) cap2 _ _ w2 ho2.rd hc2 (by omega)
  obtain ⟨f1, hf1⟩ : ∃ f1, f1 = sumOf 64 80 P64 KC (H64 FC) (cat 128 (fun i => 54 ^^^ padKey64 FC KC Lk key i) g) (128 + N) := ⟨_, rfl⟩
  rw [← hf1] at hs2
  have hf1l : ∀ i, f1 i < 256 := fun i => by rw [hf1]; exact Nat.mod_lt _ (by decide)
  have HAP2 := Lib.hid hap2
  have HS2 := Lib.hid hs2
  have Hf1 := Lib.hid hf1
  have Hf1l := Lib.hid hf1l
  have Hpl := Lib.hid hpl
  clear hap2 hs2 hf1 hf1l hc2 ho2 ho1 g1 hb1 hpl
  go_wp2_with (at_builtin; refine wpList_append_run rfl (.tmp 14) (.tmp 15) 23 23 rfl (.slice (some ⟨r1, 0, none⟩) 128 cap1) (.slice ta N tc) _ _ rfl rfl HAP2.out ?_)
  go_at_call 34
  with_reducible refine (HS2.out).mono ?_
  rintro e w3 ⟨v3, rfl, hv3, g3⟩
  obtain ⟨r3, cap3, rfl, ho3, _⟩ := hv3.toR64 (by decide)
  have g03 := grown_trans g2 g3
  have hr4 : Calls Tryd.prog 35 #[.int .u8 2, .slice ka Lk ck, .int .u8 92] w3 (GaveR64 w3 128 (fun i => 92 ^^^ padKey64 FC KC Lk key i)) := rkey64 92 Lk ck ka key w3 (by decide) (hRk.up (Nat.le_refl _) g03) hk (by omega)
  have HR4 := Lib.hid hr4
  clear hr4 hv3 g2 g3
  go_wp2_with fail
  go_at_call 35
  with_reducible refine (HR4.out).mono ?_
  rintro e w4 ⟨r4, cap4, rfl, ho4, g4, hb4⟩
  have g04 := grown_trans g03 g4
  obtain ⟨r5, cap5, w5, hap5, ho5, g5, hb5⟩ := app_next64 (w0 := w) cap3 23 g04 (Nat.le_trans g03.size hb4) ho4 (ho3.grown g4 (by simp)).rd (by decide)
  have hc5 : ∀ i, cat 128 (fun i => 92 ^^^ padKey64 FC KC Lk key i) f1 i < 256 := fun i => by
    unfold cat
    split
    · exact Nat.xor_lt_two_pow (n := 8) (by decide) (Hpl.out _)
    · exact Hf1l.out _
  have hs5 := rsum2_64 (128 + 64) cap5 _ _ w5 ho5.rd hc5 (by decide)
  have HAP5 := Lib.hid hap5
  have HS5 := Lib.hid hs5
  have G5 := Lib.hid g5
  clear hap5 hs5 hc5 ho5 ho4 g4 hb4 g04 g03 ho3 g5
  go_wp2_with (at_builtin; refine wpList_append_run rfl (.tmp 21) (.tmp 22) 23 23 rfl (.slice (some ⟨r4, 0, none⟩) 128 cap4) (.slice (some ⟨r3, 0, none⟩) 64 cap3) _ _ rfl rfl HAP5.out ?_)
  go_at_call 34
  with_reducible refine (HS5.out).mono ?_
  rintro e w6 ⟨v6, rfl, hv6, g6⟩
  go_wp2_with fail
  go_ret
  refine ⟨v6, rfl, ?_, grown_trans G5.out g6⟩
  have e : macOf64 FC KC Lk key g N = sumOf 64 80 P64 KC (H64 FC) (cat 128 (fun i => 92 ^^^ padKey64 FC KC Lk key i) f1) (128 + 64) := by rw [Hf1.out]; rfl
  rw [e]
  exact hv6.base G5.out.size

end Go.Proofs.YtobaplndoaeoiaaDoor
