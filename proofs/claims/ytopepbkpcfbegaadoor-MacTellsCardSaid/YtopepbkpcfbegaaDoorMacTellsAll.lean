/-
  Proved: whatever hash, key and texts come in, 'MacTells' answers true, and the bytes read afterwards as they read before. Conditions: the two tables of package sha read as the program's text lays them (tied to that text by the card); the arguments can be read as data.
-/
import Derived.Test.YtopepbkpcfbegaaDoorConsts
import Derived.KernelRfl
import Derived.Test.YtopepbkpcfbegaaDoorMac32
import Derived.Test.YtopepbkpcfbegaaDoorMac64
import Derived.Test.YtopepbkpcfbegaaDoorBytes
import Derived.Test.YtopepbkpcfbegaaDoorStr
import Derived.Below
import Derived.ProofKit
import Derived.LaidMore
import Derived.OpenShut
import Derived.Carry
import Derived.Test.YtopepbkpcfbegaaDoorRows
import Derived.Stop.Joined
import Derived.LaidLaws
import Derived.Test.YtopepbkpcfbegaaDoorRefSum32
import Derived.Test.YtopepbkpcfbegaaDoorRefSum64
import Derived.Test.YtopepbkpcfbegaaDoorOwnR
import Derived.Deep.Slices
import Derived.Deep.Upon
import Derived.Test.YtopepbkpcfbegaaDoorTie
import Derived.Test.YtopepbkpcfbegaaDoorCards
import Derived.SevenTiedAt
namespace Go.Proofs.YtopepbkpcfbegaaDoor
open Go.RowKit

def ks32 : List Nat := (List.range' 0 64).map (fun t => KC t / 2 ^ (64 - 32))
theorem eval_sum32 (g : Nat → Nat) (N i : Nat) (hi : i < 32) : sumOf 32 64 P32 KC (H32 FC) g N i = msg (evalSum 32 P32 ks32 (H32 FC) g N) i :=
  evalSum_eq 32 64 P32 KC (H32 FC) g N ks32 rfl (fun i hi => by omega) i hi
theorem eval_sum_length32 (g : Nat → Nat) (N : Nat) : (evalSum 32 P32 ks32 (H32 FC) g N).length = 32 := evalSum_length 32 64 P32 KC (H32 FC) g N ks32 rfl

/-- A short key's block, exclusive-or c. -/
def keyBlock32 (c : Nat) (kl : List Nat) : List Nat := (List.range 64).map fun i => c ^^^ msg kl i
/-- A MAC under a short key. -/
def evalMac32 (kl ml : List Nat) : List Nat :=
  forceL (keyBlock32 54 kl ++ ml) fun m1 => forceL (evalSum 32 P32 ks32 (H32 FC) (msg m1) (64 + ml.length)) fun inner =>
  forceL (keyBlock32 92 kl ++ inner) fun m2 => evalSum 32 P32 ks32 (H32 FC) (msg m2) (64 + 32)

theorem keyBlock_length32 (c : Nat) (kl : List Nat) : (keyBlock32 c kl).length = 64 := by simp [keyBlock32]
theorem pad_eval32 (c : Nat) (kl ml : List Nat) (key g : Nat → Nat) (hl : kl.length ≤ 64) (hk : ∀ i, i < kl.length → key i = msg kl i) (i N : Nat) (hi : i < 64 + N) (hg : ∀ i, i < N → g i = msg ml i) :
    gcat32 64 (fun i => c ^^^ padKey32 FC KC kl.length key i) g i = msg (keyBlock32 c kl ++ ml) i := by
  unfold gcat32
  have hn : ¬ 64 < kl.length := by omega
  by_cases e : i < 64
  · rw [if_pos e, msg_append_left _ _ _ (by rw [keyBlock_length32]; exact e)]
    simp only [padKey32, if_neg hn]
    have h2 : msg (keyBlock32 c kl) i = c ^^^ msg kl i := by simp [msg, keyBlock32, e]
    rw [h2]
    by_cases e2 : i < kl.length
    · rw [if_pos e2, hk i e2]
    · rw [if_neg e2]
      have : msg kl i = 0 := by simp [msg]; rw [List.getElem?_eq_none (by omega)]; rfl
      rw [this]
  · rw [if_neg e, msg_append_right _ _ _ (by rw [keyBlock_length32]; omega), keyBlock_length32, hg _ (by omega)]

theorem macOf_eval32 (kl ml : List Nat) (key g : Nat → Nat) (Lk N : Nat) (hLk : Lk = kl.length) (hN : N = ml.length) (hl : kl.length ≤ 64) (hk : ∀ i, i < kl.length → key i = msg kl i) (hg : ∀ i, i < ml.length → g i = msg ml i) (i : Nat) (hi : i < 32) :
    macOf32 FC KC Lk key g N i = msg (evalMac32 kl ml) i := by
  subst hLk hN
  unfold macOf32 kmacOf32 evalMac32
  simp only [forceL_eq]
  rw [sumOf_congr 32 64 P32 KC (H32 FC) _ (msg (keyBlock32 92 kl ++ evalSum 32 P32 ks32 (H32 FC) (msg (keyBlock32 54 kl ++ ml)) (64 + ml.length))) (64 + 32) (fun j hj =>
    pad_eval32 92 kl _ key _ hl hk j 32 hj (fun i hi => by
      rw [sumOf_congr 32 64 P32 KC (H32 FC) _ (msg (keyBlock32 54 kl ++ ml)) (64 + ml.length) (fun j hj => pad_eval32 54 kl ml key g hl hk j ml.length hj hg)]
      exact eval_sum32 _ _ i hi))]
  exact eval_sum32 _ _ i hi
theorem evalMac_length32 (kl ml : List Nat) : (evalMac32 kl ml).length = 32 := by
  unfold evalMac32
  simp only [forceL_eq]
  exact eval_sum_length32 _ _

/-- Blocks that are expanded. -/
theorem tOf_eval32 (kl il tl : List Nat) (key info : Nat → Nat) (Lk L n : Nat) (hLk : Lk = kl.length) (hL : L = il.length) (hl : kl.length ≤ 64) (hk : ∀ i, i < kl.length → key i = msg kl i) (hi : ∀ i, i < il.length → info i = msg il i)
    (htl : tl.length = if n = 0 then 0 else 32) (ht : ∀ i, i < tl.length → tOf32 (macOf32 FC KC Lk key) L info n i = msg tl i) (i : Nat) (h : i < 32) :
    tOf32 (macOf32 FC KC Lk key) L info (n + 1) i = msg (evalMac32 kl (tl ++ (il ++ [n + 1]))) i := by
  rw [tOf32, ← htl]
  refine macOf_eval32 kl (tl ++ (il ++ [n + 1])) key _ Lk _ hLk (by simp [hL]) hl hk (fun j hj => ?_) i h
  unfold cat332
  by_cases e1 : j < tl.length
  · rw [if_pos e1, msg_append_left _ _ _ e1, ht j e1]
  · rw [if_neg e1, msg_append_right _ _ _ (by omega)]
    by_cases e2 : j < tl.length + L
    · rw [if_pos e2, msg_append_left _ _ _ (by omega), hi _ (by omega)]
    · rw [if_neg e2, msg_append_right _ _ _ (by omega)]
      have hj' : j < tl.length + (il.length + 1) := by simpa using hj
      have e : j - tl.length - il.length = 0 := by omega
      rw [e]; rfl

end Go.Proofs.YtopepbkpcfbegaaDoor
namespace Go.Proofs.YtopepbkpcfbegaaDoor
open Go.RowKit

def ks64 : List Nat := (List.range' 0 80).map (fun t => KC t / 2 ^ (64 - 64))
theorem eval_sum64 (g : Nat → Nat) (N i : Nat) (hi : i < 64) : sumOf 64 80 P64 KC (H64 FC) g N i = msg (evalSum 64 P64 ks64 (H64 FC) g N) i :=
  evalSum_eq 64 80 P64 KC (H64 FC) g N ks64 rfl (fun i hi => by omega) i hi
theorem eval_sum_length64 (g : Nat → Nat) (N : Nat) : (evalSum 64 P64 ks64 (H64 FC) g N).length = 64 := evalSum_length 64 80 P64 KC (H64 FC) g N ks64 rfl

/-- A short key's block, exclusive-or c. -/
def keyBlock64 (c : Nat) (kl : List Nat) : List Nat := (List.range 128).map fun i => c ^^^ msg kl i
/-- A MAC under a short key. -/
def evalMac64 (kl ml : List Nat) : List Nat :=
  forceL (keyBlock64 54 kl ++ ml) fun m1 => forceL (evalSum 64 P64 ks64 (H64 FC) (msg m1) (128 + ml.length)) fun inner =>
  forceL (keyBlock64 92 kl ++ inner) fun m2 => evalSum 64 P64 ks64 (H64 FC) (msg m2) (128 + 64)

theorem keyBlock_length64 (c : Nat) (kl : List Nat) : (keyBlock64 c kl).length = 128 := by simp [keyBlock64]
theorem pad_eval64 (c : Nat) (kl ml : List Nat) (key g : Nat → Nat) (hl : kl.length ≤ 128) (hk : ∀ i, i < kl.length → key i = msg kl i) (i N : Nat) (hi : i < 128 + N) (hg : ∀ i, i < N → g i = msg ml i) :
    gcat64 128 (fun i => c ^^^ padKey64 FC KC kl.length key i) g i = msg (keyBlock64 c kl ++ ml) i := by
  unfold gcat64
  have hn : ¬ 128 < kl.length := by omega
  by_cases e : i < 128
  · rw [if_pos e, msg_append_left _ _ _ (by rw [keyBlock_length64]; exact e)]
    simp only [padKey64, if_neg hn]
    have h2 : msg (keyBlock64 c kl) i = c ^^^ msg kl i := by simp [msg, keyBlock64, e]
    rw [h2]
    by_cases e2 : i < kl.length
    · rw [if_pos e2, hk i e2]
    · rw [if_neg e2]
      have : msg kl i = 0 := by simp [msg]; rw [List.getElem?_eq_none (by omega)]; rfl
      rw [this]
  · rw [if_neg e, msg_append_right _ _ _ (by rw [keyBlock_length64]; omega), keyBlock_length64, hg _ (by omega)]

theorem macOf_eval64 (kl ml : List Nat) (key g : Nat → Nat) (Lk N : Nat) (hLk : Lk = kl.length) (hN : N = ml.length) (hl : kl.length ≤ 128) (hk : ∀ i, i < kl.length → key i = msg kl i) (hg : ∀ i, i < ml.length → g i = msg ml i) (i : Nat) (hi : i < 64) :
    macOf64 FC KC Lk key g N i = msg (evalMac64 kl ml) i := by
  subst hLk hN
  unfold macOf64 kmacOf64 evalMac64
  simp only [forceL_eq]
  rw [sumOf_congr 64 80 P64 KC (H64 FC) _ (msg (keyBlock64 92 kl ++ evalSum 64 P64 ks64 (H64 FC) (msg (keyBlock64 54 kl ++ ml)) (128 + ml.length))) (128 + 64) (fun j hj =>
    pad_eval64 92 kl _ key _ hl hk j 64 hj (fun i hi => by
      rw [sumOf_congr 64 80 P64 KC (H64 FC) _ (msg (keyBlock64 54 kl ++ ml)) (128 + ml.length) (fun j hj => pad_eval64 54 kl ml key g hl hk j ml.length hj hg)]
      exact eval_sum64 _ _ i hi))]
  exact eval_sum64 _ _ i hi
theorem evalMac_length64 (kl ml : List Nat) : (evalMac64 kl ml).length = 64 := by
  unfold evalMac64
  simp only [forceL_eq]
  exact eval_sum_length64 _ _

/-- Blocks that are expanded. -/
theorem tOf_eval64 (kl il tl : List Nat) (key info : Nat → Nat) (Lk L n : Nat) (hLk : Lk = kl.length) (hL : L = il.length) (hl : kl.length ≤ 128) (hk : ∀ i, i < kl.length → key i = msg kl i) (hi : ∀ i, i < il.length → info i = msg il i)
    (htl : tl.length = if n = 0 then 0 else 64) (ht : ∀ i, i < tl.length → tOf64 (macOf64 FC KC Lk key) L info n i = msg tl i) (i : Nat) (h : i < 64) :
    tOf64 (macOf64 FC KC Lk key) L info (n + 1) i = msg (evalMac64 kl (tl ++ (il ++ [n + 1]))) i := by
  rw [tOf64, ← htl]
  refine macOf_eval64 kl (tl ++ (il ++ [n + 1])) key _ Lk _ hLk (by simp [hL]) hl hk (fun j hj => ?_) i h
  unfold cat364
  by_cases e1 : j < tl.length
  · rw [if_pos e1, msg_append_left _ _ _ e1, ht j e1]
  · rw [if_neg e1, msg_append_right _ _ _ (by omega)]
    by_cases e2 : j < tl.length + L
    · rw [if_pos e2, msg_append_left _ _ _ (by omega), hi _ (by omega)]
    · rw [if_neg e2, msg_append_right _ _ _ (by omega)]
      have hj' : j < tl.length + (il.length + 1) := by simpa using hj
      have e : j - tl.length - il.length = 0 := by omega
      rw [e]; rfl

end Go.Proofs.YtopepbkpcfbegaaDoor
namespace Go.Proofs.YtopepbkpcfbegaaDoor

def k20L : List Nat := [11, 11, 11, 11, 11, 11, 11, 11, 11, 11, 11, 11, 11, 11, 11, 11, 11, 11, 11, 11]
def k22L : List Nat := [11, 11, 11, 11, 11, 11, 11, 11, 11, 11, 11, 11, 11, 11, 11, 11, 11, 11, 11, 11, 11, 11]
def saltL : List Nat := [0, 1, 2, 3, 4, 5, 6, 7, 8, 9, 10, 11, 12]
def infoL : List Nat := [240, 241, 242, 243, 244, 245, 246, 247, 248, 249]
def hiL : List Nat := [72, 105, 32, 84, 104, 101, 114, 101]
def macAL : List Nat := [176, 52, 76, 97, 216, 219, 56, 83, 92, 168, 175, 206, 175, 11, 241, 43, 136, 29, 194, 0, 201, 131, 61, 167, 38, 233, 55, 108, 46, 50, 207, 247]
def macBL : List Nat := [135, 170, 124, 222, 165, 239, 97, 157, 79, 240, 180, 36, 26, 29, 108, 176, 35, 121, 244, 226, 206, 78, 194, 120, 122, 208, 179, 5, 69, 225, 124, 222, 218, 168, 51, 183, 214, 184, 167, 2, 3, 139, 39, 78, 174, 163, 244, 228, 190, 157, 145, 78, 235, 97, 241, 112, 46, 105, 108, 32, 58, 18, 104, 84]
def prkL : List Nat := [7, 119, 9, 54, 44, 46, 50, 223, 13, 220, 63, 13, 196, 123, 186, 99, 144, 182, 199, 59, 181, 15, 156, 49, 34, 236, 132, 74, 215, 194, 179, 229]
def t1L : List Nat := [60, 178, 95, 37, 250, 172, 213, 122, 144, 67, 79, 100, 208, 54, 47, 42, 45, 45, 10, 144, 207, 26, 90, 76, 93, 176, 45, 86, 236, 196, 197, 191]
def t2L : List Nat := [52, 0, 114, 8, 213, 184, 135, 24, 88, 101, 180, 176, 168, 90, 153, 59, 137, 185, 182, 86, 131, 214, 15, 1, 6, 210, 143, 255, 3, 157, 11, 111]
set_option maxRecDepth 100000
theorem macA_val : evalMac32 k20L hiL = macAL := by kernel_rfl
theorem macB_val : evalMac64 k20L hiL = macBL := by kernel_rfl
theorem prk_val : evalMac32 saltL k22L = prkL := by kernel_rfl
theorem t1_val : evalMac32 prkL ([] ++ (infoL ++ [1])) = t1L := by kernel_rfl
theorem t2_val : evalMac32 prkL (t1L ++ (infoL ++ [2])) = t2L := by kernel_rfl
end Go.Proofs.YtopepbkpcfbegaaDoor
namespace Go.Proofs.YtopepbkpcfbegaaDoor
open Go.RowKit

set_option maxRecDepth 100000
set_option maxHeartbeats 2000000

theorem mknown_no (h : Nat) (h1 : h ≠ 1) (h2 : h ≠ 2) (w : World) : Calls Tryd.prog 28 #[.int .u8 h] w fun e w' => e = .returned (.bool false) ∧ w = w' := by
  have e1 : ((h : Int) == 1) = false := by rw [beq_eq_false_iff_ne]; omega
  have e2 : ((h : Int) == 2) = false := by rw [beq_eq_false_iff_ne]; omega
  clear h1 h2
  go_enter Tryd.func28, Tryd.ntmps28
  go_wp2
  go_ret
  exact ⟨rfl, rfl⟩

theorem Mac_none (h : Nat) (h1 : h ≠ 1) (h2 : h ≠ 2) (k l : Value) (w : World) :
    Calls Tryd.prog 10 #[.int .u8 h, k, l] w fun e w' => e = .returned (.slice none 0 0) ∧ w = w' := by
  go_enter Tryd.func10, Tryd.ntmps10
  go_wp2_with (go_at_call 28; refine (mknown_no h h1 h2 _).mono ?_; rintro e w' ⟨rfl, rfl⟩)
  go_ret
  exact ⟨rfl, rfl⟩

theorem Extract_none (h : Nat) (h1 : h ≠ 1) (h2 : h ≠ 2) (k : Value) (la : Option Addr) (n lc : Nat) (w : World) :
    Calls Tryd.prog 11 #[.int .u8 h, k, .slice la n lc] w fun e w' => e = .returned (.slice none 0 0) ∧ w.grownBy w' none := by
  go_enter Tryd.func11, Tryd.ntmps11
  go_wp2_with (go_at_call 10; refine (Mac_none h h1 h2 _ _ _).mono ?_; rintro e w' ⟨rfl, rfl⟩)
  go_ret
  exact ⟨rfl, World.grownBy_alloc w _ none⟩

theorem Expand_unknown (h : Nat) (h1 : h ≠ 1) (h2 : h ≠ 2) (k l : Value) (n : Int) (w : World) :
    Calls Tryd.prog 22 #[.int .u8 h, k, l, .int .i64 n] w fun e w' => e = .returned (.tuple #[.slice none 0 0, .int .i64 2]) ∧ w = w' := by
  go_enter Tryd.func22, Tryd.ntmps22
  go_wp2_with (go_at_call 28; refine (mknown_no h h1 h2 _).mono ?_; rintro e w' ⟨rfl, rfl⟩)
  go_ret2
  exact ⟨rfl, rfl⟩

theorem Expand_out32 (k l : Value) (n : Int) (hn : n < 1 ∨ 255 * 32 < n) (w : World) :
    Calls Tryd.prog 22 #[.int .u8 1, k, l, .int .i64 n] w fun e w' => e = .returned (.tuple #[.slice none 0 0, .int .i64 2]) ∧ w = w' := by
  rcases hn with hn | hn
  all_goals
    go_enter Tryd.func22, Tryd.ntmps22
    go_wp2_with (first
      | (go_at_call 28; refine (mknown32 _).mono ?_; rintro e w' ⟨rfl, rfl⟩)
      | (go_at_call 39; refine (msumBytes32 _).mono ?_; rintro e w' ⟨rfl, rfl⟩))
    all_goals
      go_ret2
      exact ⟨rfl, rfl⟩

theorem Expand_out64 (k l : Value) (n : Int) (hn : n < 1 ∨ 255 * 64 < n) (w : World) :
    Calls Tryd.prog 22 #[.int .u8 2, k, l, .int .i64 n] w fun e w' => e = .returned (.tuple #[.slice none 0 0, .int .i64 2]) ∧ w = w' := by
  rcases hn with hn | hn
  all_goals
    go_enter Tryd.func22, Tryd.ntmps22
    go_wp2_with (first
      | (go_at_call 28; refine (mknown64 _).mono ?_; rintro e w' ⟨rfl, rfl⟩)
      | (go_at_call 39; refine (msumBytes64 _).mono ?_; rintro e w' ⟨rfl, rfl⟩))
    all_goals
      go_ret2
      exact ⟨rfl, rfl⟩

end Go.Proofs.YtopepbkpcfbegaaDoor
namespace Go.Proofs.YtopepbkpcfbegaaDoor
open Go.RowKit

set_option maxRecDepth 100000
set_option maxHeartbeats 1000000

theorem like_any (x n : Nat) (hn : n ≤ 2 ^ 30) (w : World) : Calls Tryd.prog 21 #[.int .u8 x, .int .i64 n] w (GaveO w n (fun _ => x)) := by
  go_enter Tryd.func21, Tryd.ntmps21
  go_wp2_with fail
  go_loopw [5, 7] (fun v i wr => ∃ k : Nat, k ≤ n ∧ i = .int .i64 k ∧ OwnB wr w.heap.size v k (fun _ => x) ∧ w.grownBy wr none) (fun _ i _ => n - (intOf i).toNat)
  case atStart => exact ⟨0, by omega, rfl, OwnB.nil _ _ _, grown_refl w none⟩
  case round =>
    obtain ⟨k, hk, rfl, hown, hgr⟩ := hrel
    by_cases hlt : k < n
    · have i1 : (k : Int) < n := by omega
      have hb := heap_alloc_new wr (.cells #[.int .u8 x] 5)
      have hga := World.grownBy_alloc wr (.cells #[.int .u8 x] 5) none
      have hoa := hown.grown hga
      have hgr1 := grown_trans hgr hga
      have hc : (wr.alloc (.cells #[.int .u8 x] 5)).cell? ⟨wr.heap.size, 0, none⟩ = some (.int .u8 x) := by rw [cell_of_row _ _ _ _ _ _ hb]; rfl
      have HC : Hid (∀ j, j < 1 → (wr.alloc (.cells #[.int .u8 x] 5)).cell? ((⟨wr.heap.size, 0, none⟩ : Addr).add j) = some (.int .u8 x)) := Lib.hid (fun j hj => by
        obtain rfl : j = 0 := by omega
        exact hc)
      clear hb hga hown hgr
      go_wp2_with (at_builtin; refine wpList_app rfl _ _ rfl w.heap.size _ k _ rfl hoa ⟨wr.heap.size, 0, none⟩ 1 1 (fun _ => x) rfl HC.out (by omega) hgr1.size ?_; intro v' w1 hown' hg')
      have hg2 := grown_own hgr1 hoa hg'
      have ho2 : OwnB w1 w.heap.size v' (k + 1) (fun _ => x) := hown'.congr (fun i hi => by split <;> rfl)
      clear hown' hg' hoa hgr1 hc
      go_wp2_with fail
      exact ⟨⟨k + 1, by omega, by go_num, ho2, hg2⟩, by simp [intOf]; omega⟩
    · have hE : k = n := by omega
      have hge : (n : Int) ≤ k := by omega
      have HE := Lib.hid hE
      clear hE hk hlt
      go_wp2_with fail
      go_ret
      exact ⟨_, rfl, by rw [← HE.out]; exact hown, hgr⟩

theorem rise_any (x n : Nat) (hn : n ≤ 2 ^ 30) (w : World) : Calls Tryd.prog 23 #[.int .u8 x, .int .i64 n] w (GaveO w n (fun i => (x + i) % 256)) := by
  go_enter Tryd.func23, Tryd.ntmps23
  go_wp2_with fail
  go_loopw [5, 8] (fun v i wr => ∃ k : Nat, k ≤ n ∧ i = .int .i64 k ∧ OwnB wr w.heap.size v k (fun i => (x + i) % 256) ∧ w.grownBy wr none) (fun _ i _ => n - (intOf i).toNat)
  case atStart => exact ⟨0, by omega, rfl, OwnB.nil _ _ _, grown_refl w none⟩
  case round =>
    obtain ⟨k, hk, rfl, hown, hgr⟩ := hrel
    by_cases hlt : k < n
    · have i1 : (k : Int) < n := by omega
      have e1 : IntKind.u8.wrap ((x : Int) + IntKind.u8.wrap (k : Int)) = (((x + k) % 256 : Nat) : Int) := by simp only [IntKind.wrap_u8]; omega
      have e2 : ((x : Int) + (k : Int) % 256) % 256 = (((x + k) % 256 : Nat) : Int) := by omega
      obtain ⟨y, hy⟩ : ∃ y, y = (x + k) % 256 := ⟨_, rfl⟩
      rw [← hy] at e1 e2
      have hb := heap_alloc_new wr (.cells #[.int .u8 (y : Nat)] 5)
      have hga := World.grownBy_alloc wr (.cells #[.int .u8 (y : Nat)] 5) none
      have hoa := hown.grown hga
      have hgr1 := grown_trans hgr hga
      have hc : (wr.alloc (.cells #[.int .u8 (y : Nat)] 5)).cell? ⟨wr.heap.size, 0, none⟩ = some (.int .u8 (y : Nat)) := by rw [cell_of_row _ _ _ _ _ _ hb]; rfl
      have HC : Hid (∀ j, j < 1 → (wr.alloc (.cells #[.int .u8 (y : Nat)] 5)).cell? ((⟨wr.heap.size, 0, none⟩ : Addr).add j) = some (.int .u8 (y : Nat))) := Lib.hid (fun j hj => by
        obtain rfl : j = 0 := by omega
        exact hc)
      have Hy := Lib.hid hy
      clear hb hga hown hgr hy
      go_wp2_with (at_builtin; refine wpList_app rfl _ _ rfl w.heap.size _ k _ rfl hoa ⟨wr.heap.size, 0, none⟩ 1 1 (fun _ => y) rfl HC.out (by omega) hgr1.size ?_; intro v' w1 hown' hg')
      have hg2 := grown_own hgr1 hoa hg'
      have ho2 : OwnB w1 w.heap.size v' (k + 1) (fun i => (x + i) % 256) := hown'.congr (fun i hi => by
        by_cases e : i < k
        · simp [e]
        · obtain rfl : i = k := by omega
          simp [Hy.out])
      clear hown' hg' hoa hgr1 hc e1 e2
      go_wp2_with fail
      exact ⟨⟨k + 1, by omega, by go_num, ho2, hg2⟩, by simp [intOf]; omega⟩
    · have hE : k = n := by omega
      have hge : (n : Int) ≤ k := by omega
      have HE := Lib.hid hE
      clear hE hk hlt
      go_wp2_with fail
      go_ret
      exact ⟨_, rfl, by rw [← HE.out]; exact hown, hgr⟩

end Go.Proofs.YtopepbkpcfbegaaDoor
namespace Go.Proofs.YtopepbkpcfbegaaDoor
open Go.RowKit

set_option maxRecDepth 100000
set_option maxHeartbeats 2000000

theorem like_20 (w : World) : Calls Tryd.prog 21 #[.int .u8 11, .int .i64 20] w (GaveO w 20 (fun _ => 11)) := like_any 11 20 (by decide) w
theorem like_22 (w : World) : Calls Tryd.prog 21 #[.int .u8 11, .int .i64 22] w (GaveO w 22 (fun _ => 11)) := like_any 11 22 (by decide) w
theorem rise_13 (w : World) : Calls Tryd.prog 23 #[.int .u8 0, .int .i64 13] w (GaveO w 13 (fun i => (0 + i) % 256)) := rise_any 0 13 (by decide) w
theorem rise_10 (w : World) : Calls Tryd.prog 23 #[.int .u8 240, .int .i64 10] w (GaveO w 10 (fun i => (240 + i) % 256)) := rise_any 240 10 (by decide) w

theorem Expand_3 (k l : Value) (w : World) : Calls Tryd.prog 22 #[.int .u8 3, k, l, .int .i64 1] w fun e w' => e = .returned (.tuple #[.slice none 0 0, .int .i64 2]) ∧ w = w' := Expand_unknown 3 (by decide) (by decide) k l 1 w
theorem Mac_0 (k l : Value) (w : World) : Calls Tryd.prog 10 #[.int .u8 0, k, l] w fun e w' => e = .returned (.slice none 0 0) ∧ w = w' := Mac_none 0 (by decide) (by decide) k l w

theorem same_is (r : Bool) (n m cn cm : Nat) (a b : Option Addr) (f g : Nat → Nat) (B : Nat) (w : World) (ha : Rd w B a n f) (hb : Rd w B b m g) (hf : ∀ i, f i < 256) (hg : ∀ i, g i < 256) (hn : n < 2 ^ 62) (hm : m < 2 ^ 62) (hr : sameB n m f g = r) :
    Calls Tryd.prog 24 #[.slice a n cn, .slice b m cm] w fun e w' => e = .returned (.bool r) ∧ w = w' := by
  rw [← hr]; exact same_any n m cn cm a b f g B w ha hb hf hg hn hm

/-- True, and nothing that was is turned. -/
structure SaysTrue (w : World) (e : Ending) (w' : World) : Prop where
  ex : e = .returned (.bool true) ∧ w.grownBy w' none

theorem known02 (w : World) (hL : Laid w 2 3 FC KC) : Calls Tryd.prog 6 #[] w (SaysTrue w) := by
  go_enter Tryd.func6, Tryd.ntmps6
  go_wp2_with fail
  go_at_call 21
  with_reducible refine (like_20 _).mono ?_
  rintro e w1 ⟨v7, rfl, ho7, g1⟩
  obtain ⟨a7, c7, rfl, hc7, r7⟩ := ho7.ex
  clear ho7
  obtain ⟨k8, g8, r8⟩ := const_bytes w1 3 (msg [72, 105, 32]) #[.int .u8 72, .int .u8 105, .int .u8 32] (by kernel_rfl)
  have k8' := k8 _ rfl
  clear k8
  have z8 : (w1.alloc (.cells #[.int .u8 72, .int .u8 105, .int .u8 32] 5 (3, 4))).heap.size = w1.heap.size + 1 := by simp
  change w1.grownBy (w1.alloc (.cells #[.int .u8 72, .int .u8 105, .int .u8 32] 5 (3, 4))) none at g8
  change Rd (w1.alloc (.cells #[.int .u8 72, .int .u8 105, .int .u8 32] 5 (3, 4))) _ _ _ _ at r8
  change _ = Result.ok _ (w1.alloc (.cells #[.int .u8 72, .int .u8 105, .int .u8 32] 5 (3, 4))) at k8'
  generalize w1.alloc (.cells #[.int .u8 72, .int .u8 105, .int .u8 32] 5 (3, 4)) = u1 at *
  obtain ⟨k9, g9, r9⟩ := const_bytes u1 5 (msg [84, 104, 101, 114, 101]) #[.int .u8 84, .int .u8 104, .int .u8 101, .int .u8 114, .int .u8 101] (by kernel_rfl)
  have k9' := k9 _ rfl
  clear k9
  have z9 : (u1.alloc (.cells #[.int .u8 84, .int .u8 104, .int .u8 101, .int .u8 114, .int .u8 101] 5 (5, 6))).heap.size = u1.heap.size + 1 := by simp
  change u1.grownBy (u1.alloc (.cells #[.int .u8 84, .int .u8 104, .int .u8 101, .int .u8 114, .int .u8 101] 5 (5, 6))) none at g9
  change Rd (u1.alloc (.cells #[.int .u8 84, .int .u8 104, .int .u8 101, .int .u8 114, .int .u8 101] 5 (5, 6))) _ _ _ _ at r9
  change _ = Result.ok _ (u1.alloc (.cells #[.int .u8 84, .int .u8 104, .int .u8 101, .int .u8 114, .int .u8 101] 5 (5, 6))) at k9'
  generalize u1.alloc (.cells #[.int .u8 84, .int .u8 104, .int .u8 101, .int .u8 114, .int .u8 101] 5 (5, 6)) = u2 at *
  have hT := texts2 u2 (some ⟨w1.heap.size, 0, none⟩) (some ⟨u1.heap.size, 0, none⟩) 3 3 5 5 _ _ _ rfl (by decide) (by decide) (r8.up (by omega) g9) (r9.mono (by omega))
  have gT := World.grownBy_alloc u2 (.cells #[.slice (some ⟨w1.heap.size, 0, none⟩) 3 3, .slice (some ⟨u1.heap.size, 0, none⟩) 5 5] 22) none
  have g2 := grown_trans (grown_trans (grown_trans g1 g8) g9) gT
  have hm := Mac_any32 2 2 20 c7 _ a7 FC KC _ _ (fun _ => 11) _ (hL.grown g2 (by simp) (by simp)) hT (r7.up (Nat.le_refl _) (grown_trans (grown_trans g8 g9) gT)) (fun i => by
    split <;> exact getD_lt 256 (by decide) _ (by decide) _) (fun _ => by decide) FC_lt KC_lt hc7 (by decide) (by decide) (by decide)
  have HM := Lib.hid hm
  have Hg2 := Lib.hid g2
  clear hm hT gT g2 r8 r9 z8 z9 g8 g9 r7
  go_wp2_with fail
  go_at_call 10
  with_reducible refine (HM.out).mono ?_
  rintro e w2 ⟨ra, rfl, hra, hOa, g2⟩
  have hOa' : Holds w2 ra 44 .u8 32 (msg macAL) := hOa.congr (fun i hi => by
    rw [← macA_val]
    exact macOf_eval32 k20L hiL _ _ 20 8 rfl rfl (by decide) (fun i hi => by decide +revert) (fun i hi => by decide +revert) i hi)
  have gw2 := grown_trans Hg2.out g2
  clear hOa hra HM Hg2 g2 k8' k9' hc7 g1
  go_wp2_with fail
  go_at_call 21
  with_reducible refine (like_20 _).mono ?_
  rintro e w3 ⟨v14, rfl, ho14, g3⟩
  obtain ⟨a14, c14, rfl, hc14, r14⟩ := ho14.ex
  clear ho14
  obtain ⟨k15, g15, r15⟩ := const_bytes w3 8 (msg hiL) #[.int .u8 72, .int .u8 105, .int .u8 32, .int .u8 84, .int .u8 104, .int .u8 101, .int .u8 114, .int .u8 101] (by kernel_rfl)
  have k15' := k15 _ rfl
  clear k15
  have z15 : (w3.alloc (.cells #[.int .u8 72, .int .u8 105, .int .u8 32, .int .u8 84, .int .u8 104, .int .u8 101, .int .u8 114, .int .u8 101] 5 (8, 9))).heap.size = w3.heap.size + 1 := by simp
  change w3.grownBy (w3.alloc (.cells #[.int .u8 72, .int .u8 105, .int .u8 32, .int .u8 84, .int .u8 104, .int .u8 101, .int .u8 114, .int .u8 101] 5 (8, 9))) none at g15
  change Rd (w3.alloc (.cells #[.int .u8 72, .int .u8 105, .int .u8 32, .int .u8 84, .int .u8 104, .int .u8 101, .int .u8 114, .int .u8 101] 5 (8, 9))) _ _ _ _ at r15
  change _ = Result.ok _ (w3.alloc (.cells #[.int .u8 72, .int .u8 105, .int .u8 32, .int .u8 84, .int .u8 104, .int .u8 101, .int .u8 114, .int .u8 101] 5 (8, 9))) at k15'
  generalize w3.alloc (.cells #[.int .u8 72, .int .u8 105, .int .u8 32, .int .u8 84, .int .u8 104, .int .u8 101, .int .u8 114, .int .u8 101] 5 (8, 9)) = u3 at *
  have hT := texts1 u3 (some ⟨w3.heap.size, 0, none⟩) 8 8 _ _ rfl (by decide) (r15.mono (by omega))
  have gT := World.grownBy_alloc u3 (.cells #[.slice (some ⟨w3.heap.size, 0, none⟩) 8 8] 22) none
  have g23 := grown_trans (grown_trans g3 g15) gT
  have g4 := grown_trans gw2 g23
  have hm := Mac_any64 1 1 20 c14 _ a14 FC KC _ _ (fun _ => 11) _ (hL.grown g4 (by simp) (by simp)) hT (r14.up (Nat.le_refl _) (grown_trans g15 gT)) (fun i => getD_lt 256 (by decide) _ (by decide) _) (fun _ => by decide) FC_lt KC_lt hc14 (by decide) (by decide) (by decide)
  have HM := Lib.hid hm
  have Hg4 := Lib.hid g4
  have Hg23 := Lib.hid g23
  clear hm hT gT g4 g23 r15 z15 g15 r14
  go_wp2_with fail
  go_at_call 10
  with_reducible refine (HM.out).mono ?_
  rintro e w4 ⟨rb, rfl, hrb, hOb, g4⟩
  have hOb' : Holds w4 rb 91 .u8 64 (msg macBL) := hOb.congr (fun i hi => by
    rw [← macB_val]
    exact macOf_eval64 k20L hiL _ _ 20 8 rfl rfl (by decide) (fun i hi => by decide +revert) (fun i hi => rfl) i hi)
  have gw4 := grown_trans Hg4.out g4
  have hOa4 := hOa'.grown (grown_trans Hg23.out g4) (by simp)
  clear hOb hrb HM Hg4 Hg23 g4 k15' hc14 g3 gw2 hOa'
  go_wp2_with fail
  go_at_call 23
  with_reducible refine (rise_13 _).mono ?_
  rintro e w5 ⟨v20, rfl, ho20, g5⟩
  obtain ⟨a20, c20, rfl, hc20, r20⟩ := ho20.ex
  clear ho20
  go_wp2_with fail
  go_at_call 21
  with_reducible refine (like_22 _).mono ?_
  rintro e w6 ⟨v21, rfl, ho21, g6⟩
  obtain ⟨a21, c21, rfl, hc21, r21⟩ := ho21.ex
  clear ho21
  have g56 := grown_trans g5 g6
  have hm := Extract_any32 22 c21 13 c20 a21 a20 FC KC (fun _ => 11) (fun i => (0 + i) % 256) w6 (hL.grown (grown_trans gw4 g56) (by simp) (by simp)) r21 (r20.up (Nat.le_refl _) g6) (fun _ => by decide) (fun _ => Nat.mod_lt _ (by decide)) FC_lt KC_lt hc21 hc20 (by decide) (by decide)
  have HM := Lib.hid hm
  clear hm
  go_wp2_with fail
  go_at_call 11
  with_reducible refine (HM.out).mono ?_
  rintro e w7 ⟨rp, rfl, hrp, hOp, g7⟩
  have hOp' : Holds w7 rp 44 .u8 32 (msg prkL) := hOp.congr (fun i hi => by
    rw [← prk_val]
    exact macOf_eval32 saltL k22L _ _ 13 22 rfl rfl (by decide) (fun i hi => by decide +revert) (fun i hi => by decide +revert) i hi)
  have g57 := grown_trans g56 g7
  clear hOp hrp HM g7 g56 r20 r21 g5 g6 hc20 hc21
  go_wp2_with fail
  go_at_call 23
  with_reducible refine (rise_10 _).mono ?_
  rintro e w8 ⟨v23, rfl, ho23, g8⟩
  obtain ⟨a23, c23, rfl, hc23, r23⟩ := ho23.ex
  clear ho23
  have g58 := grown_trans g57 g8
  have hm : Calls Tryd.prog 22 #[.int .u8 1, .slice (some ⟨rp, 0, none⟩) 32 32, .slice a23 10 c23, .int .i64 42] w8 (GaveOK32 w8 42 (expandOf32 FC KC 32 (msg prkL) 10 (fun i => (240 + i) % 256))) := Expand_ok32 42 32 32 10 c23 (some ⟨rp, 0, none⟩) a23 FC KC (msg prkL) (fun i => (240 + i) % 256) w8 (hL.grown (grown_trans gw4 g58) (by simp) (by simp)) r23 ((hOp'.grown g8 (by simp)).rd _ (Nat.lt_of_lt_of_le hOp'.lt g8.size) 32 (by decide))
    (fun _ => Nat.mod_lt _ (by decide)) (fun i => getD_lt 256 (by decide) _ (by decide) i) FC_lt KC_lt (by decide) (by decide) hc23 (by decide) (by decide) (by decide)
  have HM := Lib.hid hm
  clear hm g57
  go_wp2_with fail
  go_at_call 22
  with_reducible refine (HM.out).mono ?_
  rintro e w9 ⟨re, rfl, hre, hFe, g9⟩
  have ht1 : ∀ i, i < 32 → tOf32 (macOf32 FC KC 32 (msg prkL)) 10 (fun i => (240 + i) % 256) 1 i = msg t1L i := fun i hi => by
    rw [← t1_val]
    exact tOf_eval32 prkL infoL [] (msg prkL) (fun i => (240 + i) % 256) 32 10 0 rfl rfl (by decide) (fun _ _ => rfl) (fun i hi => by decide +revert) rfl (fun i hi => absurd hi (by simp)) i hi
  have ht2 : ∀ i, i < 32 → tOf32 (macOf32 FC KC 32 (msg prkL)) 10 (fun i => (240 + i) % 256) 2 i = msg t2L i := fun i hi => by
    rw [← t2_val]
    exact tOf_eval32 prkL infoL t1L (msg prkL) (fun i => (240 + i) % 256) 32 10 1 rfl rfl (by decide) (fun _ _ => rfl) (fun i hi => by decide +revert) rfl (fun i hi => ht1 i hi) i hi
  have hFe' : Fill w9 re 42 (msg (t1L ++ t2L)) := ⟨fun i hi => by
    rw [hFe.cell i hi]
    by_cases e : i < 32
    · rw [expandOf32, outOf32, show i / 32 = 0 by omega, show i % 32 = i by omega, ht1 i e, msg_append_left _ _ _ e]
    · rw [expandOf32, outOf32, show i / 32 = 1 by omega, ht2 _ (by omega), msg_append_right _ _ _ (by show 32 ≤ i; omega)]
      rw [show i % 32 = i - t1L.length by show _ = i - 32; omega], hFe.free⟩
  have g49 := grown_trans g58 g9
  have gw9 := grown_trans gw4 g49
  have hOa9 := (hOa4.grown g49 (by simp)).rd _ (Nat.lt_of_lt_of_le hOa4.lt g49.size) 32 (by decide)
  have hOb9 := (hOb'.grown g49 (by simp)).rd _ (Nat.lt_of_lt_of_le hOb'.lt g49.size) 8 (by decide)
  have hre9 : re < w9.heap.size := hFe'.lt (by decide)
  have hRe : Rd w9 w9.heap.size (some ⟨re, 0, none⟩) 42 (msg (t1L ++ t2L)) := ⟨fun _ => ⟨re, 0, rfl, hre9, fun i hi => by rw [Nat.zero_add]; exact hFe'.cell i hi⟩⟩
  have bA : ∀ i, msg macAL i < 256 := getD_lt 256 (by decide) _ (by decide)
  have s1 := run_string 32 hOa9 bA
  have s2 := run_string 64 hOb9 (getD_lt 256 (by decide) _ (by decide))
  have s3 := run_string 42 hRe (getD_lt 256 (by decide) _ (by decide))
  rw [show strOf 32 (msg macAL) = ⟨#[176, 52, 76, 97, 216, 219, 56, 83, 92, 168, 175, 206, 175, 11, 241, 43, 136, 29, 194, 0, 201, 131, 61, 167, 38, 233, 55, 108, 46, 50, 207, 247]⟩ by kernel_rfl] at s1
  rw [show strOf 8 (msg macBL) = ⟨#[135, 170, 124, 222, 165, 239, 97, 157]⟩ by kernel_rfl] at s2
  rw [show strOf 42 (msg (t1L ++ t2L)) = ⟨#[60, 178, 95, 37, 250, 172, 213, 122, 144, 67, 79, 100, 208, 54, 47, 42, 45, 45, 10, 144, 207, 26, 90, 76, 93, 176, 45, 86, 236, 196, 197, 191, 52, 0, 114, 8, 213, 184, 135, 24, 88, 101]⟩ by kernel_rfl] at s3
  have HA := Lib.hid hOa9
  have HbA := Lib.hid bA
  have hA1 : Rd w9 w9.heap.size (some ⟨ra, 1, none⟩) 31 (fun i => msg macAL (1 + i)) := ⟨fun _ => ⟨ra, 1, rfl, Nat.lt_of_lt_of_le hOa4.lt g49.size, fun i hi => (hOa4.grown g49 (by simp)).cell (1 + i) (by omega)⟩⟩
  have HA1 := Lib.hid hA1
  have Hgw9 := Lib.hid gw9
  clear hFe hFe' ht1 ht2 hOa4 hOb' hOa9 hOb9 hRe g49 gw9 g58 g9 HM hre hre9 g8 gw4 hOp' r23 bA hA1 hc23
  go_wp2_with (first
    | (go_at_call 22; (with_reducible refine (Expand_3 _ _ _).mono ?_); rintro e w' ⟨rfl, rfl⟩)
    | (go_at_call 10; (with_reducible refine (Mac_0 _ _ _).mono ?_); rintro e w' ⟨rfl, rfl⟩))
  have hs1 := same_is true 32 32 32 32 _ _ _ _ _ _ HA.out HA.out HbA.out HbA.out (by decide) (by decide) ((sameB_iff _ _ _ _).2 ⟨rfl, fun _ _ => rfl⟩)
  have hs2 := same_is false 32 31 32 31 _ _ _ _ _ _ HA.out HA1.out HbA.out (fun i => HbA.out (1 + i)) (by decide) (by decide) (by rw [Bool.eq_false_iff]; intro h; exact absurd ((sameB_iff _ _ _ _).1 h).1 (by decide))
  have HS1 := Lib.hid hs1
  have HS2 := Lib.hid hs2
  clear hs1 hs2
  go_at_call 24
  with_reducible refine (HS1.out).mono ?_
  rintro e w' ⟨rfl, rfl⟩
  go_wp2_with (go_at_call 24; (with_reducible refine (HS2.out).mono ?_); rintro e w' ⟨rfl, rfl⟩)
  go_ret
  exact ⟨rfl, Hgw9.out⟩

end Go.Proofs.YtopepbkpcfbegaaDoor
namespace Go.Proofs.YtopepbkpcfbegaaDoor
open Go.ChangeShapes Go.WideShapes Go.ChangeAt Go.RowKit

section
variable {H : Type} {enc : TypeId × Value → H} {P : Program}

theorem below_of_grown {w w' : World} (h : w.grownBy w' none) : Below w.heap.size w w' := ⟨h.os, h.tape, h.output, h.size, fun k hk => h.block k hk (by simp)⟩

theorem trodAll_below (hl : laidOutB P = true) {W W' : World} (hb : Below W.heap.size W W') : ∀ (ts : List TypeId) (vs : List Value) (ds : List (DataW H)) (ps : List MemPlace),
    DataW.TrodAll enc P W 0 (fun _ => true) true ts vs ds ps → (∀ t ∈ ts, P.readableRec t = true ∧ t < P.types.size) → (∀ x ∈ ps, x.block < W.heap.size) →
    DataW.TrodAll enc P W' 0 (fun b => decide (b < W.heap.size)) true ts vs ds ps
  | [], vs, ds, ps, h, _, _ => by
    obtain ⟨rfl, rfl, rfl⟩ := trodAll_nil h
    rfl
  | t :: ts, vs, ds, ps, h, hr, hlt => by
    obtain ⟨v, vs', d, ds', p, q, rfl, rfl, rfl, h1, h2⟩ := trodAll_cons h
    have hrt := hr t (by simp)
    exact ⟨p, q, Below.trod hl hrt.1 hrt.2 h1 hb (fun x hx => hlt x (by simp [hx])), trodAll_below hl hb ts vs' ds' q h2 (fun t' ht' => hr t' (by simp [ht'])) (fun x hx => hlt x (by simp [hx])), rfl⟩

/-- The end of a statement that is a law: true, and all that came in reads as it did. -/
theorem law_post (hl : laidOutB P = true) {f : Func} {s : ChangeSpec} {W W' : World} {args : Array Value} {ds gs : List (DataW H)} {before : List MemPlace} {tb : TypeId}
    (hW : DataW.Whole enc P f.params.toList s.vars false W args.toList ds gs before) (hv : s.vars = []) (hs : s.fn H ds = { results := [.lit (.bool true)], args := ds, vars := [] })
    (hr : f.resultTypes = #[tb]) (htb : P.underlying tb = some .bool) (hread : ∀ t ∈ f.params.toList, P.readableRec t = true ∧ t < P.types.size) (hg : W.grownBy W' none) :
    s.post enc P f false true false false W args (.bool true) W' := by
  have hb := below_of_grown hg
  have hlt : ∀ p ∈ before, p.block < W.heap.size := fun p hp => hW.lt p hp
  have hW0 := hW
  obtain ⟨p, q, hA, hV, rfl, _, _⟩ := hW
  rw [hv] at hV
  obtain ⟨rfl, rfl⟩ := trodVars_none hV
  refine ⟨ds, [], p ++ [], [], p, [], hW0, ?_, ?_, ?_, World.keptBut_mono (fun x hx => ⟨hx, Or.inr (Or.inl (by simpa using hx))⟩) (hb.frame (· ∈ p ++ [])), fun h => by cases h⟩
  · rw [hr, List.append_nil, hs]
    exact trodAll_mk1 (shut_bool htb true)
  · rw [List.append_nil, hs]
    exact trodAll_below hl hb _ _ _ _ hA hread (fun x hx => hlt x (by simpa using hx))
  · rw [hv, List.append_nil, hs]
    rfl

/-- Bytes that come in. -/
theorem open_bytes {W : World} {t e : TypeId} {r : Reach} {b0 : Nat} {v : Value} {d : DataW H} {ps : List MemPlace} (ht : P.underlying t = some (.slice e)) (he : P.underlying e = some (.int .u8)) (hc : P.cellsOf e = 1)
    (hval : Value.okWide P W r b0 t v) (h : DataW.Trod enc P W 0 (fun _ => true) true t v d ps) :
    ∃ a n c f, v = .slice a n c ∧ n ≤ c ∧ Rd W W.heap.size a n f ∧ ∀ i, f i < 256 := by
  obtain ⟨a0, len, cap, rfl⟩ := okWide_slice ht hval
  obtain ⟨fuel, hf⟩ := h
  rcases open_ints ht he hc hf with ⟨h1, _⟩ | ⟨a, len', cap', zs, h1, _, hlc, _, hzl, _, hcell, hwf⟩
  · simp [Value.cells] at h1
    obtain ⟨rfl, rfl, rfl⟩ := h1
    exact ⟨none, 0, 0, fun _ => 0, rfl, Nat.le_refl _, ⟨fun h => absurd h (by omega)⟩, fun _ => (by decide : (0 : Nat) < 256)⟩
  · simp [Value.cells] at h1
    obtain ⟨rfl, rfl, rfl⟩ := h1
    have hzl' : len ≤ zs.length := by rw [hzl]; simp [hlc]
    have hb : ∀ i, 0 ≤ zs.getD i 0 ∧ zs.getD i 0 < 256 := fun i => by
      by_cases hi : i < zs.length
      · have e1 : zs.getD i 0 = zs[i] := by simp [List.getD, List.getElem?_eq_getElem hi]
        rw [e1]
        have := hwf zs[i] (List.getElem_mem hi)
        simp [Lit.wf, IntKind.min, IntKind.max, IntKind.bits, IntKind.signed] at this
        omega
      · have e1 : zs.getD i 0 = 0 := by simp [List.getD, List.getElem?_eq_none (Nat.le_of_not_lt hi)]
        rw [e1]; decide
    refine ⟨some a, len, cap, fun i => (zs.getD i 0).toNat, rfl, hlc, ⟨fun h0 => ?_⟩, fun i => by have := hb i; show (zs.getD i 0).toNat < 256; omega⟩
    have h0' := hcell 0 (by omega)
    have hspot : a.spot = none := by simpa [Addr.add] using World.cell?_spot h0'
    obtain ⟨tb, o, sp⟩ := a
    simp only at hspot
    subst hspot
    refine ⟨tb, o, rfl, ?_, fun i hi => ?_⟩
    · have := World.block_lt_of_cell? W _ h0'
      simpa [Addr.add] using this
    · have h1 := hcell i (by omega)
      rw [Addr.add_mid] at h1
      rw [h1]
      have := hb i
      have e1 : ((zs.getD i 0).toNat : Int) = zs.getD i 0 := by omega
      show _ = some (Value.int .u8 (((zs.getD i 0).toNat : Nat) : Int))
      rw [e1]

end
end Go.Proofs.YtopepbkpcfbegaaDoor
namespace Go.Proofs.YtopepbkpcfbegaaDoor
open Go.ChangeShapes Go.WideShapes Go.ChangeAt Go.RowKit

theorem getElem?_of_take_drop {α : Type} (l : List α) (i : Nat) (x : α) (h : (l.drop i).take 1 = [x]) : l[i]? = some x := by
  have h1 : ((l.drop i).take 1)[0]? = some x := by rw [h]; rfl
  simpa using h1

/-- A table of numbers, read. -/
theorem ints_of_trod {H : Type} {enc : TypeId × Value → H} {P : Program} {w : World} {base : Nat} {spare : Nat → Bool} {held : Bool} {fuel : Nat} {t e : TypeId} {k : IntKind} {n : Nat} {cs : List Value} {d : DataW H} {ps : List MemPlace} (L : List Int)
    (ht : P.underlying t = some (.array n e)) (he : P.underlying e = some (.int k)) (hc : P.cellsOf e = 1) (hd : DataW.trod enc P w base spare held fuel t cs = some (d, ps)) (hx : d = .agg (L.map fun z => .lit (.int k z))) :
    ∀ i, i < n → cs[i]? = some (.int k (L.getD i 0)) := by
  subst hx
  obtain ⟨xs, m, rfl, hx, _, hn, hel⟩ := DataW.trod_array ht hd
  intro i hi
  have h1 := hel i hi
  rw [hc, Nat.mul_one] at h1
  have hxi : xs[i]? = some xs[i] := List.getElem?_eq_getElem (by omega)
  rw [hxi] at h1
  obtain ⟨q, e1, e2, _⟩ := DataW.trod_int he h1
  have h2 : L.map (fun z => (DataW.lit (.int k z) : DataW H)) = xs.map (·.1) := by
    have := congrArg Prod.fst hx
    simpa using this
  have h3 : (L.map (fun z => (DataW.lit (.int k z) : DataW H)))[i]? = some (.lit (.int k q)) := by
    rw [h2]; simp [hxi, e2]
  have h4 : L[i]? = some q := by
    rw [List.getElem?_map] at h3
    cases hL : L[i]? with
    | none => rw [hL] at h3; cases h3
    | some z => rw [hL] at h3; simpa using h3
  rw [List.getD, h4]
  exact getElem?_of_take_drop cs i _ e1

theorem gBegin : Tryd.prog.globalNamed "hailer/sha.beginWords" = some 2 := by kernel_rfl
theorem gRound : Tryd.prog.globalNamed "hailer/sha.roundWords" = some 3 := by kernel_rfl
theorem tBegin : (Tryd.prog.globals[2]?).map (·.type) = some 113 := by kernel_rfl
theorem tRound : (Tryd.prog.globals[3]?).map (·.type) = some 124 := by kernel_rfl
theorem own : ownKnob Tryd.prog.godebug = none := by kernel_rfl
theorem laidOut : laidOutB Tryd.prog = true := by kernel_rfl

def theLaid : List (String × DataW Unit) := [("hailer/sha.beginWords", Rows.laid_hailer_sha_beginWords), ("hailer/sha.roundWords", Rows.laid_hailer_sha_roundWords)]

set_option maxRecDepth 100000 in
theorem of_laid {W : World} (h : laidMetH Tryd.prog theLaid W) : Laid W 2 3 FC KC := by
  rw [MakeChecks.laidMetH_plain _ _ _ (by kernel_rfl)] at h
  obtain ⟨ps, ⟨g0, t0, cs0, f0, p0, q0, hg0, ht0, hv0, hd0, ⟨g1, t1, cs1, f1, p1, q1, hg1, ht1, hv1, hd1, _, _⟩, _⟩, _, _⟩ := h
  obtain rfl := Option.some.inj (gBegin.symm.trans hg0)
  obtain rfl := Option.some.inj (gRound.symm.trans hg1)
  obtain rfl := Option.some.inj (tBegin.symm.trans ht0)
  obtain rfl := Option.some.inj (tRound.symm.trans ht1)
  have c0 := ints_of_trod (P := Tryd.prog) (n := 8) (e := 58) (k := .u64) (FL.map Int.ofNat) (by kernel_rfl) (by kernel_rfl) (by kernel_rfl) hd0 (by rfl)
  have c1 := ints_of_trod (P := Tryd.prog) (n := 80) (e := 58) (k := .u64) (KL.map Int.ofNat) (by kernel_rfl) (by kernel_rfl) (by kernel_rfl) hd1 (by rfl)
  have hget : ∀ (l : List Nat) i, (l.map Int.ofNat).getD i 0 = ((l.getD i 0 : Nat) : Int) := fun l i => by
    by_cases h : i < l.length
    · simp [List.getD, h]
    · simp [List.getD, List.getElem?_eq_none (Nat.le_of_not_lt h)]
  constructor
  · intro i hi
    rw [World.var?_cell hg0 hv0 i]
    have := c0 i hi
    rw [hget, Array.getElem?_toList] at this
    exact this
  · intro i hi
    rw [World.var?_cell hg1 hv1 i]
    have := c1 i hi
    rw [hget, Array.getElem?_toList] at this
    exact this

/-- The door's own heap meets the condition. -/
theorem door_met (os : Os) (args : Array Value) : laidMetH Tryd.prog theLaid ((World.doorLaid Tryd.prog 400 os).forCall (fun _ _ => 0) ⟨#[], args, []⟩).memory :=
  laidMetH_of_parts3 (fuel := 8) (laidMet_of_run' 8 (by kernel_rfl) (by kernel_rfl)) (by kernel_rfl) (by kernel_rfl)

end Go.Proofs.YtopepbkpcfbegaaDoor
namespace Go.Proofs.YtopepbkpcfbegaaDoor
open Go.RowKit

set_option maxRecDepth 100000
set_option maxHeartbeats 1000000

theorem rsize32 (w : World) : Calls Tryd.prog 25 #[.int .u8 1] w fun e w' => e = .returned (.int .i64 32) ∧ w = w' := by
  go_enter Tryd.func25, Tryd.ntmps25
  go_wp2
  go_ret
  exact ⟨rfl, rfl⟩

theorem rsum2_32 (N c : Nat) (a : Option Addr) (g : Nat → Nat) (w : World) (hR : Rd w w.heap.size a N g) (hg : ∀ i, g i < 256) (hN : N ≤ 2 ^ 40) :
    Calls Tryd.prog 26 #[.int .u8 1, .slice a N c] w (GaveN w 32 (sumOf 32 64 P32 KC (H32 FC) g N)) := by
  have hs := rsum32 N c a g w hR hg hN
  have HS := Lib.hid hs
  clear hs
  go_enter Tryd.func26, Tryd.ntmps26
  go_wp2_with (first
    | (go_at_call 25; refine (rsize32 _).mono ?_; rintro e w' ⟨rfl, rfl⟩)
    | (go_at_call 41; (with_reducible refine (HS.out).mono ?_); rintro e w1 ⟨v, rfl, hv, g1⟩))
  go_ret
  exact ⟨v, rfl, hv, g1⟩

theorem OwnN.toR32 {w : World} {base : Nat} {v : Value} {n : Nat} {f : Nat → Nat} (h : OwnN w base v n f) (hn : 0 < n) : ∃ g cap, v = .slice (some ⟨g, 0, none⟩) n cap ∧ OwnR w g n cap f ∧ base ≤ g := by
  rcases h.ex with ⟨_, rfl⟩ | h
  · omega
  · exact h

theorem rkey32 (x L c : Nat) (a : Option Addr) (key : Nat → Nat) (w : World) (hx : x < 256) (hR : Rd w w.heap.size a L key) (hk : ∀ i, key i < 256) (hL : L ≤ 2 ^ 40) :
    Calls Tryd.prog 27 #[.int .u8 1, .slice a L c, .int .u8 x] w (GaveR32 w 64 (fun i => x ^^^ padKey32 FC KC L key i)) := by
  have ga := World.grownBy_alloc w (.cells #[] 5) none
  obtain ⟨g1, cap1, w1, hap1, ho1, hg1, hb1⟩ := app_next32 (w0 := w) c 22 ga (Nat.le_refl _) (ownR_empty w) (hR.up (Nat.le_refl _) ga) (by omega)
  rw [Nat.zero_add] at hap1 ho1
  have ho1' : OwnR w1 g1 L cap1 key := ho1.congr (fun i hi => by unfold cat; rw [if_neg (by omega), Nat.sub_zero])
  have HAP1 := Lib.hid hap1
  have i1 : (L : Int) ≤ 1099511627776 := by omega
  have hpl : ∀ i, padKey32 FC KC L key i < 256 := padKey_lt32 FC KC L key hk
  have Hpl := Lib.hid hpl
  have Hx := Lib.hid hx
  -- what stands behind the first part: the bytes at hand are the key's block's first ones
  have part : ∃ k0 : Nat, k0 ≤ 64 ∧ (∀ i, k0 ≤ i → padKey32 FC KC L key i = 0) ∧ ((64 < L ∧ k0 = 32) ∨ (¬ 64 < L ∧ k0 = L)) := by
    by_cases h : 64 < L
    · exact ⟨32, by omega, fun i hi => by simp only [padKey32, if_pos h, if_neg (show ¬ i < 32 by omega)], Or.inl ⟨h, rfl⟩⟩
    · exact ⟨L, by omega, fun i hi => by simp only [padKey32, if_neg h, if_neg (show ¬ i < L by omega)], Or.inr ⟨h, rfl⟩⟩
  obtain ⟨k0, hk0, hz0, hcase⟩ := part
  have Hz0 := Lib.hid hz0
  clear hz0 hpl hx hap1 ho1 ga
  rcases hcase with ⟨hbig, rfl⟩ | ⟨hbig, rfl⟩
  · have i2 : (64 : Int) < L := by omega
    have hs := rsum2_32 L cap1 _ key w1 ho1'.rd hk hL
    have HS := Lib.hid hs
    have hpk : ∀ i, i < 32 → sumOf 32 64 P32 KC (H32 FC) key L i = padKey32 FC KC L key i := fun i hi => by simp only [padKey32, if_pos hbig, if_pos hi]
    have Hpk := Lib.hid hpk
    clear hs hpk hbig hk0
    generalize hpf : padKey32 FC KC L key = pf at *
    generalize sumOf 32 64 P32 KC (H32 FC) key L = sf at *
    clear hpf
    go_enter Tryd.func27, Tryd.ntmps27
    go_wp2_with (first
      | (at_builtin; refine wpList_append_run rfl (.tmp 9) (.tmp 10) 22 22 rfl (.slice (some ⟨w.heap.size, 0, none⟩) 0 0) (.slice a L c) _ _ rfl rfl HAP1.out ?_)
      | (go_at_call 25; refine (rsize32 _).mono ?_; rintro e w' ⟨rfl, rfl⟩)
      | (go_at_call 26; (with_reducible refine (HS.out).mono ?_); rintro e w2 ⟨v2, rfl, hv2, g2⟩))
    obtain ⟨g2', cap2, rfl, ho2, hb2⟩ := hv2.toR32 (by decide)
    have hoS : OwnR w2 g2' 32 cap2 pf := ho2.congr (fun i hi => Hpk.out i hi)
    have hgS := grown_trans hg1 g2
    have hbS : w.heap.size ≤ g2' := Nat.le_trans hg1.size hb2
    clear hv2 ho2 hb2 g2 HS ho1' hg1 hb1
    clear HAP1
    go_loopw [7] (fun u7 wq => ∃ (k gg cap : Nat), u7 = .slice (some ⟨gg, 0, none⟩) k cap ∧ 32 ≤ k ∧ k ≤ 64 ∧ OwnR wq gg k cap pf ∧ w.grownBy wq none ∧ w.heap.size ≤ gg) (fun u7 _ => match u7 with | .slice _ k _ => 64 - k | _ => 0)
    case atStart => exact ⟨32, _, _, rfl, Nat.le_refl _, by omega, hoS, hgS, hbS⟩
    case round =>
      clear hoS hgS hbS
      obtain ⟨k, gg, cap, rfl, hk1, hk2, ho, hgr, hgb⟩ := hrel
      by_cases hkb : k < 64
      · have j1 : (k : Int) < 64 := by omega
        have gb := World.grownBy_alloc wr (.cells #[.int .u8 0] 5) none
        have bb := heap_alloc_new wr (.cells #[.int .u8 0] 5)
        have hR1 : Rd (wr.alloc (.cells #[.int .u8 0] 5)) (wr.heap.size + 1) (some ⟨wr.heap.size, 0, none⟩) 1 (fun _ => 0) := ⟨fun _ => ⟨wr.heap.size, 0, rfl, by omega, fun i hi => by
          obtain rfl : i = 0 := by omega
          rw [cell_of_row _ _ _ _ _ _ bb]; rfl⟩⟩
        obtain ⟨g3, cap3, w3, hap3, ho3, hg3, hb3⟩ := app_next32 (w0 := w) 1 22 (grown_trans hgr gb) hgb (ho.grown gb (by simp)) hR1 (by omega)
        have ho3' : OwnR w3 g3 (k + 1) cap3 pf := ho3.congr (fun i hi => by
          unfold cat
          by_cases e : i < k
          · rw [if_pos e]
          · obtain rfl : i = k := by omega
            rw [if_neg e, Hz0.out i hk1])
        have HAP3 := Lib.hid hap3
        clear hap3 ho3 hR1 bb gb
        go_wp2_with (first
          | (go_at_call 25; refine (rsize32 _).mono ?_; rintro e w' ⟨rfl, rfl⟩)
          | (at_builtin; refine wpList_append_run rfl (.tmp 27) (.tmp 28) 22 22 rfl (.slice (some ⟨gg, 0, none⟩) k cap) (.slice (some ⟨wr.heap.size, 0, none⟩) 1 1) _ _ rfl rfl HAP3.out ?_))
        exact ⟨⟨k + 1, g3, cap3, rfl, by omega, by omega, ho3', hg3, hb3⟩, by show 64 - (k + 1) < 64 - k; omega⟩
      · have hkE : k = 64 := by omega
        have j1 : (64 : Int) ≤ k := by omega
        subst hkE
        clear hkb hk1 hk2
        go_wp2_with (go_at_call 25; refine (rsize32 _).mono ?_; rintro e w' ⟨rfl, rfl⟩)
        go_loopw [8] (fun u8 wq => ∃ i : Nat, i ≤ 64 ∧ u8 = .int .i64 i ∧ OwnR wq gg 64 cap (fun j => if j < i then x ^^^ pf j else pf j) ∧ w.grownBy wq none) (fun u8 _ => 64 - (intOf u8).toNat)
        case atStart => exact ⟨0, by omega, rfl, ho.congr (fun j _ => by rw [if_neg (by omega)]), hgr⟩
        case round =>
          clear ho hgr
          obtain ⟨i, hi, rfl, ho, hgr⟩ := hrel
          by_cases hib : i < 64
          · have j2 : (i : Int) < 64 := by omega
            have ci := ho.cell i hib
            rw [if_neg (by omega)] at ci
            have fi := ho.free i
            obtain ⟨z, hz⟩ : ∃ z, z = x ^^^ pf i := ⟨_, rfl⟩
            have ez : bits .xor .u8 (pf i : Int) (x : Int) = (z : Int) := by rw [bits_xor_u8 _ _ (Hpl.out i) Hx.out, hz, Nat.xor_comm]
            have O5 := ho.set i z hib
            have O6 : OwnR (wr.setCell ⟨gg, i, none⟩ (.int .u8 (z : Nat))) gg 64 cap (fun j => if j < i + 1 then x ^^^ pf j else pf j) := O5.congr (fun j hj => by
              by_cases e : j = i
              · subst e; rw [upd_same, if_pos (by omega), hz]
              · rw [upd_other _ _ _ _ e]
                by_cases e2 : j < i
                · rw [if_pos e2, if_pos (by omega)]
                · rw [if_neg e2, if_neg (by omega)])
            have G5 := grown_setCell_new hgr ⟨gg, i, none⟩ (.int .u8 (z : Nat)) (Or.inl hgb)
            generalize pf i = pi at ci ez
            clear O5 hz
            go_wp2_with fail
            first
              | exact ⟨⟨i + 1, by omega, by go_num, O6, G5⟩, by simp [intOf]; omega⟩
              | (go_roundw
                 case rel => exact ⟨i + 1, by omega, by go_num, O6, G5⟩
                 case measure => simp [intOf]; omega)
          · have hiE : i = 64 := by omega
            have j2 : (64 : Int) ≤ i := by omega
            subst hiE
            have ho9 : OwnR wr gg 64 cap (fun i => x ^^^ pf i) := ho.congr (fun j hj => by rw [if_pos hj])
            clear hib hi ho
            go_wp2_with fail
            go_ret
            exact ⟨gg, cap, rfl, ho9, hgr, hgb⟩
  · have i2 : (k0 : Int) ≤ 64 := by omega
    have hoS : OwnR w1 g1 k0 cap1 (padKey32 FC KC k0 key) := ho1'.congr (fun i hi => by simp only [padKey32, if_neg hbig, if_pos hi])
    have hgS := hg1
    have hbS := hb1
    clear ho1' hg1 hb1 hbig
    generalize hpf : padKey32 FC KC k0 key = pf at *
    clear hpf
    go_enter Tryd.func27, Tryd.ntmps27
    go_wp2_with (first
      | (at_builtin; refine wpList_append_run rfl (.tmp 9) (.tmp 10) 22 22 rfl (.slice (some ⟨w.heap.size, 0, none⟩) 0 0) (.slice a k0 c) _ _ rfl rfl HAP1.out ?_)
      | (go_at_call 25; refine (rsize32 _).mono ?_; rintro e w' ⟨rfl, rfl⟩))
    clear HAP1
    go_loopw [7] (fun u7 wq => ∃ (k gg cap : Nat), u7 = .slice (some ⟨gg, 0, none⟩) k cap ∧ k0 ≤ k ∧ k ≤ 64 ∧ OwnR wq gg k cap pf ∧ w.grownBy wq none ∧ w.heap.size ≤ gg) (fun u7 _ => match u7 with | .slice _ k _ => 64 - k | _ => 0)
    case atStart => exact ⟨k0, _, _, rfl, Nat.le_refl _, by omega, hoS, hgS, hbS⟩
    case round =>
      clear hoS hgS hbS
      obtain ⟨k, gg, cap, rfl, hk1, hk2, ho, hgr, hgb⟩ := hrel
      by_cases hkb : k < 64
      · have j1 : (k : Int) < 64 := by omega
        have gb := World.grownBy_alloc wr (.cells #[.int .u8 0] 5) none
        have bb := heap_alloc_new wr (.cells #[.int .u8 0] 5)
        have hR1 : Rd (wr.alloc (.cells #[.int .u8 0] 5)) (wr.heap.size + 1) (some ⟨wr.heap.size, 0, none⟩) 1 (fun _ => 0) := ⟨fun _ => ⟨wr.heap.size, 0, rfl, by omega, fun i hi => by
          obtain rfl : i = 0 := by omega
          rw [cell_of_row _ _ _ _ _ _ bb]; rfl⟩⟩
        obtain ⟨g3, cap3, w3, hap3, ho3, hg3, hb3⟩ := app_next32 (w0 := w) 1 22 (grown_trans hgr gb) hgb (ho.grown gb (by simp)) hR1 (by omega)
        have ho3' : OwnR w3 g3 (k + 1) cap3 pf := ho3.congr (fun i hi => by
          unfold cat
          by_cases e : i < k
          · rw [if_pos e]
          · obtain rfl : i = k := by omega
            rw [if_neg e, Hz0.out i hk1])
        have HAP3 := Lib.hid hap3
        clear hap3 ho3 hR1 bb gb
        go_wp2_with (first
          | (go_at_call 25; refine (rsize32 _).mono ?_; rintro e w' ⟨rfl, rfl⟩)
          | (at_builtin; refine wpList_append_run rfl (.tmp 27) (.tmp 28) 22 22 rfl (.slice (some ⟨gg, 0, none⟩) k cap) (.slice (some ⟨wr.heap.size, 0, none⟩) 1 1) _ _ rfl rfl HAP3.out ?_))
        exact ⟨⟨k + 1, g3, cap3, rfl, by omega, by omega, ho3', hg3, hb3⟩, by show 64 - (k + 1) < 64 - k; omega⟩
      · have hkE : k = 64 := by omega
        have j1 : (64 : Int) ≤ k := by omega
        subst hkE
        clear hkb hk1 hk2
        go_wp2_with (go_at_call 25; refine (rsize32 _).mono ?_; rintro e w' ⟨rfl, rfl⟩)
        go_loopw [8] (fun u8 wq => ∃ i : Nat, i ≤ 64 ∧ u8 = .int .i64 i ∧ OwnR wq gg 64 cap (fun j => if j < i then x ^^^ pf j else pf j) ∧ w.grownBy wq none) (fun u8 _ => 64 - (intOf u8).toNat)
        case atStart => exact ⟨0, by omega, rfl, ho.congr (fun j _ => by rw [if_neg (by omega)]), hgr⟩
        case round =>
          clear ho hgr
          obtain ⟨i, hi, rfl, ho, hgr⟩ := hrel
          by_cases hib : i < 64
          · have j2 : (i : Int) < 64 := by omega
            have ci := ho.cell i hib
            rw [if_neg (by omega)] at ci
            have fi := ho.free i
            obtain ⟨z, hz⟩ : ∃ z, z = x ^^^ pf i := ⟨_, rfl⟩
            have ez : bits .xor .u8 (pf i : Int) (x : Int) = (z : Int) := by rw [bits_xor_u8 _ _ (Hpl.out i) Hx.out, hz, Nat.xor_comm]
            have O5 := ho.set i z hib
            have O6 : OwnR (wr.setCell ⟨gg, i, none⟩ (.int .u8 (z : Nat))) gg 64 cap (fun j => if j < i + 1 then x ^^^ pf j else pf j) := O5.congr (fun j hj => by
              by_cases e : j = i
              · subst e; rw [upd_same, if_pos (by omega), hz]
              · rw [upd_other _ _ _ _ e]
                by_cases e2 : j < i
                · rw [if_pos e2, if_pos (by omega)]
                · rw [if_neg e2, if_neg (by omega)])
            have G5 := grown_setCell_new hgr ⟨gg, i, none⟩ (.int .u8 (z : Nat)) (Or.inl hgb)
            generalize pf i = pi at ci ez
            clear O5 hz
            go_wp2_with fail
            first
              | exact ⟨⟨i + 1, by omega, by go_num, O6, G5⟩, by simp [intOf]; omega⟩
              | (go_roundw
                 case rel => exact ⟨i + 1, by omega, by go_num, O6, G5⟩
                 case measure => simp [intOf]; omega)
          · have hiE : i = 64 := by omega
            have j2 : (64 : Int) ≤ i := by omega
            subst hiE
            have ho9 : OwnR wr gg 64 cap (fun i => x ^^^ pf i) := ho.congr (fun j hj => by rw [if_pos hj])
            clear hib hi ho
            go_wp2_with fail
            go_ret
            exact ⟨gg, cap, rfl, ho9, hgr, hgb⟩

theorem rmac32 (Lk ck N tc : Nat) (ka ta : Option Addr) (key g : Nat → Nat) (w : World) (hRk : Rd w w.heap.size ka Lk key) (hRt : Rd w w.heap.size ta N g) (hk : ∀ i, key i < 256) (hg : ∀ i, g i < 256) (hL : Lk ≤ 2 ^ 39) (hN : N ≤ 2 ^ 39) :
    Calls Tryd.prog 9 #[.int .u8 1, .slice ka Lk ck, .slice ta N tc] w (GaveN w 32 (macOf32 FC KC Lk key g N)) := by
  have hpl := padKey_lt32 FC KC Lk key hk
  have hr1 : Calls Tryd.prog 27 #[.int .u8 1, .slice ka Lk ck, .int .u8 54] w (GaveR32 w 64 (fun i => 54 ^^^ padKey32 FC KC Lk key i)) := rkey32 54 Lk ck ka key w (by decide) hRk hk (by omega)
  have HR1 := Lib.hid hr1
  clear hr1
  go_enter Tryd.func9, Tryd.ntmps9
  go_wp2_with (go_at_call 25; refine (rsize32 _).mono ?_; rintro e w' ⟨rfl, rfl⟩)
  go_at_call 27
  with_reducible refine (HR1.out).mono ?_
  rintro e w1 ⟨r1, cap1, rfl, ho1, g1, hb1⟩
  obtain ⟨r2, cap2, w2, hap2, ho2, g2, hb2⟩ := app_next32 (w0 := w) tc 22 g1 hb1 ho1 (hRt.up (Nat.le_refl _) g1) (by omega)
  have hc2 : ∀ i, cat 64 (fun i => 54 ^^^ padKey32 FC KC Lk key i) g i < 256 := fun i => by
    unfold cat
    split
    · exact Nat.xor_lt_two_pow (n := 8) (by decide) (hpl _)
    · exact hg _
  have hs2 := rsum2_32 (64 + N) cap2 _ _ w2 ho2.rd hc2 (by omega)
  obtain ⟨f1, hf1⟩ : ∃ f1, f1 = sumOf 32 64 P32 KC (H32 FC) (cat 64 (fun i => 54 ^^^ padKey32 FC KC Lk key i) g) (64 + N) := ⟨_, rfl⟩
  rw [← hf1] at hs2
  have hf1l : ∀ i, f1 i < 256 := fun i => by rw [hf1]; exact Nat.mod_lt _ (by decide)
  have HAP2 := Lib.hid hap2
  have HS2 := Lib.hid hs2
  have Hf1 := Lib.hid hf1
  have Hf1l := Lib.hid hf1l
  have Hpl := Lib.hid hpl
  clear hap2 hs2 hf1 hf1l hc2 ho2 ho1 g1 hb1 hpl
  go_wp2_with (at_builtin; refine wpList_append_run rfl (.tmp 14) (.tmp 15) 22 22 rfl (.slice (some ⟨r1, 0, none⟩) 64 cap1) (.slice ta N tc) _ _ rfl rfl HAP2.out ?_)
  go_at_call 26
  with_reducible refine (HS2.out).mono ?_
  rintro e w3 ⟨v3, rfl, hv3, g3⟩
  obtain ⟨r3, cap3, rfl, ho3, _⟩ := hv3.toR32 (by decide)
  have g03 := grown_trans g2 g3
  have hr4 : Calls Tryd.prog 27 #[.int .u8 1, .slice ka Lk ck, .int .u8 92] w3 (GaveR32 w3 64 (fun i => 92 ^^^ padKey32 FC KC Lk key i)) := rkey32 92 Lk ck ka key w3 (by decide) (hRk.up (Nat.le_refl _) g03) hk (by omega)
  have HR4 := Lib.hid hr4
  clear hr4 hv3 g2 g3
  go_wp2_with fail
  go_at_call 27
  with_reducible refine (HR4.out).mono ?_
  rintro e w4 ⟨r4, cap4, rfl, ho4, g4, hb4⟩
  have g04 := grown_trans g03 g4
  obtain ⟨r5, cap5, w5, hap5, ho5, g5, hb5⟩ := app_next32 (w0 := w) cap3 22 g04 (Nat.le_trans g03.size hb4) ho4 (ho3.grown g4 (by simp)).rd (by decide)
  have hc5 : ∀ i, cat 64 (fun i => 92 ^^^ padKey32 FC KC Lk key i) f1 i < 256 := fun i => by
    unfold cat
    split
    · exact Nat.xor_lt_two_pow (n := 8) (by decide) (Hpl.out _)
    · exact Hf1l.out _
  have hs5 := rsum2_32 (64 + 32) cap5 _ _ w5 ho5.rd hc5 (by decide)
  have HAP5 := Lib.hid hap5
  have HS5 := Lib.hid hs5
  have G5 := Lib.hid g5
  clear hap5 hs5 hc5 ho5 ho4 g4 hb4 g04 g03 ho3 g5
  go_wp2_with (at_builtin; refine wpList_append_run rfl (.tmp 21) (.tmp 22) 22 22 rfl (.slice (some ⟨r4, 0, none⟩) 64 cap4) (.slice (some ⟨r3, 0, none⟩) 32 cap3) _ _ rfl rfl HAP5.out ?_)
  go_at_call 26
  with_reducible refine (HS5.out).mono ?_
  rintro e w6 ⟨v6, rfl, hv6, g6⟩
  go_wp2_with fail
  go_ret
  refine ⟨v6, rfl, ?_, grown_trans G5.out g6⟩
  have e : macOf32 FC KC Lk key g N = sumOf 32 64 P32 KC (H32 FC) (cat 64 (fun i => 92 ^^^ padKey32 FC KC Lk key i) f1) (64 + 32) := by rw [Hf1.out]; rfl
  rw [e]
  exact hv6.base G5.out.size

end Go.Proofs.YtopepbkpcfbegaaDoor
namespace Go.Proofs.YtopepbkpcfbegaaDoor
open Go.RowKit

set_option maxRecDepth 100000
set_option maxHeartbeats 1000000

theorem rsize64 (w : World) : Calls Tryd.prog 25 #[.int .u8 2] w fun e w' => e = .returned (.int .i64 64) ∧ w = w' := by
  go_enter Tryd.func25, Tryd.ntmps25
  go_wp2
  go_ret
  exact ⟨rfl, rfl⟩

theorem rsum2_64 (N c : Nat) (a : Option Addr) (g : Nat → Nat) (w : World) (hR : Rd w w.heap.size a N g) (hg : ∀ i, g i < 256) (hN : N ≤ 2 ^ 40) :
    Calls Tryd.prog 26 #[.int .u8 2, .slice a N c] w (GaveN w 64 (sumOf 64 80 P64 KC (H64 FC) g N)) := by
  have hs := rsum64 N c a g w hR hg hN
  have HS := Lib.hid hs
  clear hs
  go_enter Tryd.func26, Tryd.ntmps26
  go_wp2_with (first
    | (go_at_call 25; refine (rsize64 _).mono ?_; rintro e w' ⟨rfl, rfl⟩)
    | (go_at_call 41; (with_reducible refine (HS.out).mono ?_); rintro e w1 ⟨v, rfl, hv, g1⟩))
  go_ret
  exact ⟨v, rfl, hv, g1⟩

theorem OwnN.toR64 {w : World} {base : Nat} {v : Value} {n : Nat} {f : Nat → Nat} (h : OwnN w base v n f) (hn : 0 < n) : ∃ g cap, v = .slice (some ⟨g, 0, none⟩) n cap ∧ OwnR w g n cap f ∧ base ≤ g := by
  rcases h.ex with ⟨_, rfl⟩ | h
  · omega
  · exact h

theorem rkey64 (x L c : Nat) (a : Option Addr) (key : Nat → Nat) (w : World) (hx : x < 256) (hR : Rd w w.heap.size a L key) (hk : ∀ i, key i < 256) (hL : L ≤ 2 ^ 40) :
    Calls Tryd.prog 27 #[.int .u8 2, .slice a L c, .int .u8 x] w (GaveR64 w 128 (fun i => x ^^^ padKey64 FC KC L key i)) := by
  have ga := World.grownBy_alloc w (.cells #[] 5) none
  obtain ⟨g1, cap1, w1, hap1, ho1, hg1, hb1⟩ := app_next64 (w0 := w) c 22 ga (Nat.le_refl _) (ownR_empty w) (hR.up (Nat.le_refl _) ga) (by omega)
  rw [Nat.zero_add] at hap1 ho1
  have ho1' : OwnR w1 g1 L cap1 key := ho1.congr (fun i hi => by unfold cat; rw [if_neg (by omega), Nat.sub_zero])
  have HAP1 := Lib.hid hap1
  have i1 : (L : Int) ≤ 1099511627776 := by omega
  have hpl : ∀ i, padKey64 FC KC L key i < 256 := padKey_lt64 FC KC L key hk
  have Hpl := Lib.hid hpl
  have Hx := Lib.hid hx
  -- what stands behind the first part: the bytes at hand are the key's block's first ones
  have part : ∃ k0 : Nat, k0 ≤ 128 ∧ (∀ i, k0 ≤ i → padKey64 FC KC L key i = 0) ∧ ((128 < L ∧ k0 = 64) ∨ (¬ 128 < L ∧ k0 = L)) := by
    by_cases h : 128 < L
    · exact ⟨64, by omega, fun i hi => by simp only [padKey64, if_pos h, if_neg (show ¬ i < 64 by omega)], Or.inl ⟨h, rfl⟩⟩
    · exact ⟨L, by omega, fun i hi => by simp only [padKey64, if_neg h, if_neg (show ¬ i < L by omega)], Or.inr ⟨h, rfl⟩⟩
  obtain ⟨k0, hk0, hz0, hcase⟩ := part
  have Hz0 := Lib.hid hz0
  clear hz0 hpl hx hap1 ho1 ga
  rcases hcase with ⟨hbig, rfl⟩ | ⟨hbig, rfl⟩
  · have i2 : (128 : Int) < L := by omega
    have hs := rsum2_64 L cap1 _ key w1 ho1'.rd hk hL
    have HS := Lib.hid hs
    have hpk : ∀ i, i < 64 → sumOf 64 80 P64 KC (H64 FC) key L i = padKey64 FC KC L key i := fun i hi => by simp only [padKey64, if_pos hbig, if_pos hi]
    have Hpk := Lib.hid hpk
    clear hs hpk hbig hk0
    generalize hpf : padKey64 FC KC L key = pf at *
    generalize sumOf 64 80 P64 KC (H64 FC) key L = sf at *
    clear hpf
    go_enter Tryd.func27, Tryd.ntmps27
    go_wp2_with (first
      | (at_builtin; refine wpList_append_run rfl (.tmp 9) (.tmp 10) 22 22 rfl (.slice (some ⟨w.heap.size, 0, none⟩) 0 0) (.slice a L c) _ _ rfl rfl HAP1.out ?_)
      | (go_at_call 25; refine (rsize64 _).mono ?_; rintro e w' ⟨rfl, rfl⟩)
      | (go_at_call 26; (with_reducible refine (HS.out).mono ?_); rintro e w2 ⟨v2, rfl, hv2, g2⟩))
    obtain ⟨g2', cap2, rfl, ho2, hb2⟩ := hv2.toR64 (by decide)
    have hoS : OwnR w2 g2' 64 cap2 pf := ho2.congr (fun i hi => Hpk.out i hi)
    have hgS := grown_trans hg1 g2
    have hbS : w.heap.size ≤ g2' := Nat.le_trans hg1.size hb2
    clear hv2 ho2 hb2 g2 HS ho1' hg1 hb1
    clear HAP1
    go_loopw [7] (fun u7 wq => ∃ (k gg cap : Nat), u7 = .slice (some ⟨gg, 0, none⟩) k cap ∧ 64 ≤ k ∧ k ≤ 128 ∧ OwnR wq gg k cap pf ∧ w.grownBy wq none ∧ w.heap.size ≤ gg) (fun u7 _ => match u7 with | .slice _ k _ => 128 - k | _ => 0)
    case atStart => exact ⟨64, _, _, rfl, Nat.le_refl _, by omega, hoS, hgS, hbS⟩
    case round =>
      clear hoS hgS hbS
      obtain ⟨k, gg, cap, rfl, hk1, hk2, ho, hgr, hgb⟩ := hrel
      by_cases hkb : k < 128
      · have j1 : (k : Int) < 128 := by omega
        have gb := World.grownBy_alloc wr (.cells #[.int .u8 0] 5) none
        have bb := heap_alloc_new wr (.cells #[.int .u8 0] 5)
        have hR1 : Rd (wr.alloc (.cells #[.int .u8 0] 5)) (wr.heap.size + 1) (some ⟨wr.heap.size, 0, none⟩) 1 (fun _ => 0) := ⟨fun _ => ⟨wr.heap.size, 0, rfl, by omega, fun i hi => by
          obtain rfl : i = 0 := by omega
          rw [cell_of_row _ _ _ _ _ _ bb]; rfl⟩⟩
        obtain ⟨g3, cap3, w3, hap3, ho3, hg3, hb3⟩ := app_next64 (w0 := w) 1 22 (grown_trans hgr gb) hgb (ho.grown gb (by simp)) hR1 (by omega)
        have ho3' : OwnR w3 g3 (k + 1) cap3 pf := ho3.congr (fun i hi => by
          unfold cat
          by_cases e : i < k
          · rw [if_pos e]
          · obtain rfl : i = k := by omega
            rw [if_neg e, Hz0.out i hk1])
        have HAP3 := Lib.hid hap3
        clear hap3 ho3 hR1 bb gb
        go_wp2_with (first
          | (go_at_call 25; refine (rsize64 _).mono ?_; rintro e w' ⟨rfl, rfl⟩)
          | (at_builtin; refine wpList_append_run rfl (.tmp 27) (.tmp 28) 22 22 rfl (.slice (some ⟨gg, 0, none⟩) k cap) (.slice (some ⟨wr.heap.size, 0, none⟩) 1 1) _ _ rfl rfl HAP3.out ?_))
        exact ⟨⟨k + 1, g3, cap3, rfl, by omega, by omega, ho3', hg3, hb3⟩, by show 128 - (k + 1) < 128 - k; omega⟩
      · have hkE : k = 128 := by omega
        have j1 : (128 : Int) ≤ k := by omega
        subst hkE
        clear hkb hk1 hk2
        go_wp2_with (go_at_call 25; refine (rsize64 _).mono ?_; rintro e w' ⟨rfl, rfl⟩)
        go_loopw [8] (fun u8 wq => ∃ i : Nat, i ≤ 128 ∧ u8 = .int .i64 i ∧ OwnR wq gg 128 cap (fun j => if j < i then x ^^^ pf j else pf j) ∧ w.grownBy wq none) (fun u8 _ => 128 - (intOf u8).toNat)
        case atStart => exact ⟨0, by omega, rfl, ho.congr (fun j _ => by rw [if_neg (by omega)]), hgr⟩
        case round =>
          clear ho hgr
          obtain ⟨i, hi, rfl, ho, hgr⟩ := hrel
          by_cases hib : i < 128
          · have j2 : (i : Int) < 128 := by omega
            have ci := ho.cell i hib
            rw [if_neg (by omega)] at ci
            have fi := ho.free i
            obtain ⟨z, hz⟩ : ∃ z, z = x ^^^ pf i := ⟨_, rfl⟩
            have ez : bits .xor .u8 (pf i : Int) (x : Int) = (z : Int) := by rw [bits_xor_u8 _ _ (Hpl.out i) Hx.out, hz, Nat.xor_comm]
            have O5 := ho.set i z hib
            have O6 : OwnR (wr.setCell ⟨gg, i, none⟩ (.int .u8 (z : Nat))) gg 128 cap (fun j => if j < i + 1 then x ^^^ pf j else pf j) := O5.congr (fun j hj => by
              by_cases e : j = i
              · subst e; rw [upd_same, if_pos (by omega), hz]
              · rw [upd_other _ _ _ _ e]
                by_cases e2 : j < i
                · rw [if_pos e2, if_pos (by omega)]
                · rw [if_neg e2, if_neg (by omega)])
            have G5 := grown_setCell_new hgr ⟨gg, i, none⟩ (.int .u8 (z : Nat)) (Or.inl hgb)
            generalize pf i = pi at ci ez
            clear O5 hz
            go_wp2_with fail
            first
              | exact ⟨⟨i + 1, by omega, by go_num, O6, G5⟩, by simp [intOf]; omega⟩
              | (go_roundw
                 case rel => exact ⟨i + 1, by omega, by go_num, O6, G5⟩
                 case measure => simp [intOf]; omega)
          · have hiE : i = 128 := by omega
            have j2 : (128 : Int) ≤ i := by omega
            subst hiE
            have ho9 : OwnR wr gg 128 cap (fun i => x ^^^ pf i) := ho.congr (fun j hj => by rw [if_pos hj])
            clear hib hi ho
            go_wp2_with fail
            go_ret
            exact ⟨gg, cap, rfl, ho9, hgr, hgb⟩
  · have i2 : (k0 : Int) ≤ 128 := by omega
    have hoS : OwnR w1 g1 k0 cap1 (padKey64 FC KC k0 key) := ho1'.congr (fun i hi => by simp only [padKey64, if_neg hbig, if_pos hi])
    have hgS := hg1
    have hbS := hb1
    clear ho1' hg1 hb1 hbig
    generalize hpf : padKey64 FC KC k0 key = pf at *
    clear hpf
    go_enter Tryd.func27, Tryd.ntmps27
    go_wp2_with (first
      | (at_builtin; refine wpList_append_run rfl (.tmp 9) (.tmp 10) 22 22 rfl (.slice (some ⟨w.heap.size, 0, none⟩) 0 0) (.slice a k0 c) _ _ rfl rfl HAP1.out ?_)
      | (go_at_call 25; refine (rsize64 _).mono ?_; rintro e w' ⟨rfl, rfl⟩))
    clear HAP1
    go_loopw [7] (fun u7 wq => ∃ (k gg cap : Nat), u7 = .slice (some ⟨gg, 0, none⟩) k cap ∧ k0 ≤ k ∧ k ≤ 128 ∧ OwnR wq gg k cap pf ∧ w.grownBy wq none ∧ w.heap.size ≤ gg) (fun u7 _ => match u7 with | .slice _ k _ => 128 - k | _ => 0)
    case atStart => exact ⟨k0, _, _, rfl, Nat.le_refl _, by omega, hoS, hgS, hbS⟩
    case round =>
      clear hoS hgS hbS
      obtain ⟨k, gg, cap, rfl, hk1, hk2, ho, hgr, hgb⟩ := hrel
      by_cases hkb : k < 128
      · have j1 : (k : Int) < 128 := by omega
        have gb := World.grownBy_alloc wr (.cells #[.int .u8 0] 5) none
        have bb := heap_alloc_new wr (.cells #[.int .u8 0] 5)
        have hR1 : Rd (wr.alloc (.cells #[.int .u8 0] 5)) (wr.heap.size + 1) (some ⟨wr.heap.size, 0, none⟩) 1 (fun _ => 0) := ⟨fun _ => ⟨wr.heap.size, 0, rfl, by omega, fun i hi => by
          obtain rfl : i = 0 := by omega
          rw [cell_of_row _ _ _ _ _ _ bb]; rfl⟩⟩
        obtain ⟨g3, cap3, w3, hap3, ho3, hg3, hb3⟩ := app_next64 (w0 := w) 1 22 (grown_trans hgr gb) hgb (ho.grown gb (by simp)) hR1 (by omega)
        have ho3' : OwnR w3 g3 (k + 1) cap3 pf := ho3.congr (fun i hi => by
          unfold cat
          by_cases e : i < k
          · rw [if_pos e]
          · obtain rfl : i = k := by omega
            rw [if_neg e, Hz0.out i hk1])
        have HAP3 := Lib.hid hap3
        clear hap3 ho3 hR1 bb gb
        go_wp2_with (first
          | (go_at_call 25; refine (rsize64 _).mono ?_; rintro e w' ⟨rfl, rfl⟩)
          | (at_builtin; refine wpList_append_run rfl (.tmp 27) (.tmp 28) 22 22 rfl (.slice (some ⟨gg, 0, none⟩) k cap) (.slice (some ⟨wr.heap.size, 0, none⟩) 1 1) _ _ rfl rfl HAP3.out ?_))
        exact ⟨⟨k + 1, g3, cap3, rfl, by omega, by omega, ho3', hg3, hb3⟩, by show 128 - (k + 1) < 128 - k; omega⟩
      · have hkE : k = 128 := by omega
        have j1 : (128 : Int) ≤ k := by omega
        subst hkE
        clear hkb hk1 hk2
        go_wp2_with (go_at_call 25; refine (rsize64 _).mono ?_; rintro e w' ⟨rfl, rfl⟩)
        go_loopw [8] (fun u8 wq => ∃ i : Nat, i ≤ 128 ∧ u8 = .int .i64 i ∧ OwnR wq gg 128 cap (fun j => if j < i then x ^^^ pf j else pf j) ∧ w.grownBy wq none) (fun u8 _ => 128 - (intOf u8).toNat)
        case atStart => exact ⟨0, by omega, rfl, ho.congr (fun j _ => by rw [if_neg (by omega)]), hgr⟩
        case round =>
          clear ho hgr
          obtain ⟨i, hi, rfl, ho, hgr⟩ := hrel
          by_cases hib : i < 128
          · have j2 : (i : Int) < 128 := by omega
            have ci := ho.cell i hib
            rw [if_neg (by omega)] at ci
            have fi := ho.free i
            obtain ⟨z, hz⟩ : ∃ z, z = x ^^^ pf i := ⟨_, rfl⟩
            have ez : bits .xor .u8 (pf i : Int) (x : Int) = (z : Int) := by rw [bits_xor_u8 _ _ (Hpl.out i) Hx.out, hz, Nat.xor_comm]
            have O5 := ho.set i z hib
            have O6 : OwnR (wr.setCell ⟨gg, i, none⟩ (.int .u8 (z : Nat))) gg 128 cap (fun j => if j < i + 1 then x ^^^ pf j else pf j) := O5.congr (fun j hj => by
              by_cases e : j = i
              · subst e; rw [upd_same, if_pos (by omega), hz]
              · rw [upd_other _ _ _ _ e]
                by_cases e2 : j < i
                · rw [if_pos e2, if_pos (by omega)]
                · rw [if_neg e2, if_neg (by omega)])
            have G5 := grown_setCell_new hgr ⟨gg, i, none⟩ (.int .u8 (z : Nat)) (Or.inl hgb)
            generalize pf i = pi at ci ez
            clear O5 hz
            go_wp2_with fail
            first
              | exact ⟨⟨i + 1, by omega, by go_num, O6, G5⟩, by simp [intOf]; omega⟩
              | (go_roundw
                 case rel => exact ⟨i + 1, by omega, by go_num, O6, G5⟩
                 case measure => simp [intOf]; omega)
          · have hiE : i = 128 := by omega
            have j2 : (128 : Int) ≤ i := by omega
            subst hiE
            have ho9 : OwnR wr gg 128 cap (fun i => x ^^^ pf i) := ho.congr (fun j hj => by rw [if_pos hj])
            clear hib hi ho
            go_wp2_with fail
            go_ret
            exact ⟨gg, cap, rfl, ho9, hgr, hgb⟩

theorem rmac64 (Lk ck N tc : Nat) (ka ta : Option Addr) (key g : Nat → Nat) (w : World) (hRk : Rd w w.heap.size ka Lk key) (hRt : Rd w w.heap.size ta N g) (hk : ∀ i, key i < 256) (hg : ∀ i, g i < 256) (hL : Lk ≤ 2 ^ 39) (hN : N ≤ 2 ^ 39) :
    Calls Tryd.prog 9 #[.int .u8 2, .slice ka Lk ck, .slice ta N tc] w (GaveN w 64 (macOf64 FC KC Lk key g N)) := by
  have hpl := padKey_lt64 FC KC Lk key hk
  have hr1 : Calls Tryd.prog 27 #[.int .u8 2, .slice ka Lk ck, .int .u8 54] w (GaveR64 w 128 (fun i => 54 ^^^ padKey64 FC KC Lk key i)) := rkey64 54 Lk ck ka key w (by decide) hRk hk (by omega)
  have HR1 := Lib.hid hr1
  clear hr1
  go_enter Tryd.func9, Tryd.ntmps9
  go_wp2_with (go_at_call 25; refine (rsize64 _).mono ?_; rintro e w' ⟨rfl, rfl⟩)
  go_at_call 27
  with_reducible refine (HR1.out).mono ?_
  rintro e w1 ⟨r1, cap1, rfl, ho1, g1, hb1⟩
  obtain ⟨r2, cap2, w2, hap2, ho2, g2, hb2⟩ := app_next64 (w0 := w) tc 22 g1 hb1 ho1 (hRt.up (Nat.le_refl _) g1) (by omega)
  have hc2 : ∀ i, cat 128 (fun i => 54 ^^^ padKey64 FC KC Lk key i) g i < 256 := fun i => by
    unfold cat
    split
    · exact Nat.xor_lt_two_pow (n := 8) (by decide) (hpl _)
    · exact hg _
  have hs2 := rsum2_64 (128 + N) cap2 _ _ w2 ho2.rd hc2 (by omega)
  obtain ⟨f1, hf1⟩ : ∃ f1, f1 = sumOf 64 80 P64 KC (H64 FC) (cat 128 (fun i => 54 ^^^ padKey64 FC KC Lk key i) g) (128 + N) := ⟨_, rfl⟩
  rw [← hf1] at hs2
  have hf1l : ∀ i, f1 i < 256 := fun i => by rw [hf1]; exact Nat.mod_lt _ (by decide)
  have HAP2 := Lib.hid hap2
  have HS2 := Lib.hid hs2
  have Hf1 := Lib.hid hf1
  have Hf1l := Lib.hid hf1l
  have Hpl := Lib.hid hpl
  clear hap2 hs2 hf1 hf1l hc2 ho2 ho1 g1 hb1 hpl
  go_wp2_with (at_builtin; refine wpList_append_run rfl (.tmp 14) (.tmp 15) 22 22 rfl (.slice (some ⟨r1, 0, none⟩) 128 cap1) (.slice ta N tc) _ _ rfl rfl HAP2.out ?_)
  go_at_call 26
  with_reducible refine (HS2.out).mono ?_
  rintro e w3 ⟨v3, rfl, hv3, g3⟩
  obtain ⟨r3, cap3, rfl, ho3, _⟩ := hv3.toR64 (by decide)
  have g03 := grown_trans g2 g3
  have hr4 : Calls Tryd.prog 27 #[.int .u8 2, .slice ka Lk ck, .int .u8 92] w3 (GaveR64 w3 128 (fun i => 92 ^^^ padKey64 FC KC Lk key i)) := rkey64 92 Lk ck ka key w3 (by decide) (hRk.up (Nat.le_refl _) g03) hk (by omega)
  have HR4 := Lib.hid hr4
  clear hr4 hv3 g2 g3
  go_wp2_with fail
  go_at_call 27
  with_reducible refine (HR4.out).mono ?_
  rintro e w4 ⟨r4, cap4, rfl, ho4, g4, hb4⟩
  have g04 := grown_trans g03 g4
  obtain ⟨r5, cap5, w5, hap5, ho5, g5, hb5⟩ := app_next64 (w0 := w) cap3 22 g04 (Nat.le_trans g03.size hb4) ho4 (ho3.grown g4 (by simp)).rd (by decide)
  have hc5 : ∀ i, cat 128 (fun i => 92 ^^^ padKey64 FC KC Lk key i) f1 i < 256 := fun i => by
    unfold cat
    split
    · exact Nat.xor_lt_two_pow (n := 8) (by decide) (Hpl.out _)
    · exact Hf1l.out _
  have hs5 := rsum2_64 (128 + 64) cap5 _ _ w5 ho5.rd hc5 (by decide)
  have HAP5 := Lib.hid hap5
  have HS5 := Lib.hid hs5
  have G5 := Lib.hid g5
  clear hap5 hs5 hc5 ho5 ho4 g4 hb4 g04 g03 ho3 g5
  go_wp2_with (at_builtin; refine wpList_append_run rfl (.tmp 21) (.tmp 22) 22 22 rfl (.slice (some ⟨r4, 0, none⟩) 128 cap4) (.slice (some ⟨r3, 0, none⟩) 64 cap3) _ _ rfl rfl HAP5.out ?_)
  go_at_call 26
  with_reducible refine (HS5.out).mono ?_
  rintro e w6 ⟨v6, rfl, hv6, g6⟩
  go_wp2_with fail
  go_ret
  refine ⟨v6, rfl, ?_, grown_trans G5.out g6⟩
  have e : macOf64 FC KC Lk key g N = sumOf 64 80 P64 KC (H64 FC) (cat 128 (fun i => 92 ^^^ padKey64 FC KC Lk key i) f1) (128 + 64) := by rw [Hf1.out]; rfl
  rw [e]
  exact hv6.base G5.out.size

end Go.Proofs.YtopepbkpcfbegaaDoor
namespace Go.Proofs.YtopepbkpcfbegaaDoor
open Go.ChangeShapes Go.WideShapes Go.ChangeAt Go.RowKit

set_option maxRecDepth 100000
set_option maxHeartbeats 1000000

theorem great_any (n c B : Nat) (a : Option Addr) (off g : Nat → Nat) (w : World) (hT : Texts w B a n off g) (hn : n ≤ 2 ^ 47) (hL : ∀ j, j < n → off (j + 1) ≤ off j + 2 ^ 47) :
    Calls Tryd.prog 7 #[.slice a n c, .int .i64 1500] w fun e w' => e = .returned (.bool (decide (1500 < n + off n))) ∧ w = w' := by
  have HT := Lib.hid hT
  have HL := Lib.hid hL
  have hz := hT.zero
  have Hz := Lib.hid hz
  clear hT hL hz
  go_enter Tryd.func7, Tryd.ntmps7
  go_wp2_with fail
  go_loop [5, 6] (fun u5 u6 => ∃ k : Nat, k ≤ n ∧ u6 = .int .i64 k ∧ u5 = .int .i64 ((n + off k : Nat) : Int) ∧ n + off k ≤ 2 ^ 49) (fun _ u6 => n - (intOf u6).toNat)
  case atStart => exact ⟨0, by omega, rfl, by rw [Hz.out]; rfl, by rw [Hz.out]; omega⟩
  case round =>
    obtain ⟨k, hk, rfl, rfl, hb⟩ := hrel
    by_cases hkn : k < n
    · by_cases hs : n + off k ≤ 1500
      · obtain ⟨lb, lo, h1, _, h3⟩ := HT.out.ex (by omega)
        obtain ⟨aj, L, cj, hc, _, ho, _⟩ := h3 k hkn
        have hLk := HL.out k hkn
        obtain ⟨m, hm⟩ : ∃ m, m = n + off k := ⟨_, rfl⟩
        have hm2 : n + off (k + 1) = m + L := by omega
        have i1 : (k : Int) < n := by omega
        have i2 : (m : Int) ≤ 1500 := by omega
        have i3 : (L : Int) ≤ 140737488355328 := by omega
        have i4 : m + L ≤ 2 ^ 49 := by omega
        rw [← hm]
        have Hm := Lib.hid hm
        have Hm2 := Lib.hid hm2
        have Hi4 := Lib.hid i4
        subst h1
        clear hm hm2 h3 ho hLk hb hs i4
        go_wp2_with fail
        first
          | exact ⟨⟨k + 1, by omega, by go_num, by rw [Hm2.out]; go_num, by rw [Hm2.out]; exact Hi4.out⟩, by simp [intOf]; omega⟩
          | (go_round
             case rel => exact ⟨k + 1, by omega, by go_num, by rw [Hm2.out]; go_num, by rw [Hm2.out]; exact Hi4.out⟩
             case measure => simp [intOf]; omega)
      · have hmo := HT.out.mono k n hk (Nat.le_refl _)
        have hr : decide (1500 < n + off n) = true := by simp; omega
        obtain ⟨m, hm⟩ : ∃ m, m = n + off k := ⟨_, rfl⟩
        have i1 : (k : Int) < n := by omega
        have i2 : (1500 : Int) < m := by omega
        rw [← hm]
        have Hr := Lib.hid hr
        clear hm hmo hb hs hr
        go_wp2_with fail
        go_ret
        rw [Hr.out]
        exact ⟨rfl, rfl⟩
    · obtain rfl : k = n := by omega
      obtain ⟨m, hm⟩ : ∃ m, m = k + off k := ⟨_, rfl⟩
      have Hr : Hid (decide ((1500 : Int) < m) = decide (1500 < k + off k)) := Lib.hid (by rw [hm, Bool.eq_iff_iff]; simp; omega)
      rw [← hm]
      clear hm hkn hk HL HT
      have i1 : (k : Int) ≤ k := by omega
      go_wp2_with fail
      go_ret
      exact ⟨ret_bool Hr.out, rfl⟩

theorem app_N0 {w0 w : World} {B n m : Nat} {v : Value} {a : Option Addr} {f f' : Nat → Nat} (c : Nat) (ty : TypeId) (h0 : w0.grownBy w none) (h : OwnN w w0.heap.size v n f) (hx : Rd w B a m f') (hn : n + m ≤ 2 ^ 46) :
    ∃ v' w', (Builtin.append_ #[22, 22] ty #[v, .slice a m c]).run Tryd.prog w = .ok v' w' ∧ OwnN w' w0.heap.size v' (n + m) (cat n f f') ∧ w0.grownBy w' none := by
  by_cases hm : 0 < m
  · obtain ⟨v', w', h1, h2, _, h3⟩ := app_N c ty h0 h hx hn hm
    exact ⟨v', w', h1, h2, h3⟩
  · obtain rfl : m = 0 := by omega
    rcases h.ex with ⟨rfl, rfl⟩ | ⟨g, cap, rfl, h2, h3⟩
    · obtain ⟨i0, hi, hz, hsz, hby⟩ := info_parts info_u8
      have hsrc := src_bytes c hx
      rw [← hsz] at hsrc
      exact ⟨_, w, run_append_nothing w 22 22 ty 5 i0 under_bytes hi none 0 0 (Nat.le_refl _) _ hsrc, OwnN.nil _ _ _, h0⟩
    · obtain ⟨v', w', hr, ⟨g', cap', rfl, k1, k2, k3, k4⟩⟩ := app_run c ty h2 hx hn
      refine ⟨_, w', hr, ⟨Or.inr ⟨g', cap', rfl, k1, ?_⟩⟩, grown_new h0 k3 h3⟩
      have := h0.size
      omega

theorem join_any (n c B : Nat) (a : Option Addr) (off g : Nat → Nat) (w : World) (hT : Texts w B a n off g) (hB : B ≤ w.heap.size) (hn : n ≤ 1500) (hN : off n ≤ 1500) :
    Calls Tryd.prog 8 #[.slice a n c] w (GaveN w (off n) g) := by
  have HT := Lib.hid hT
  have hz := hT.zero
  have Hz := Lib.hid hz
  have HB := Lib.hid hB
  have HN := Lib.hid hN
  clear hT hz hB hN
  go_enter Tryd.func8, Tryd.ntmps8
  go_wp2_with fail
  go_loopw [3, 4] (fun u3 u4 wr => ∃ k : Nat, k ≤ n ∧ u4 = .int .i64 k ∧ OwnN wr w.heap.size u3 (off k) g ∧ w.grownBy wr none) (fun _ u4 _ => n - (intOf u4).toNat)
  case atStart => exact ⟨0, by omega, rfl, by rw [Hz.out]; exact OwnN.nil _ _ _, grown_refl w none⟩
  case round =>
    obtain ⟨k, hk, rfl, hown, hgr⟩ := hrel
    by_cases hkn : k < n
    · have hTr := HT.out.grown hgr (fun k e => by cases e)
      have hmo := HT.out.mono (k + 1) n hkn (Nat.le_refl _)
      obtain ⟨lb, lo, h1, _, h3⟩ := hTr.ex (by omega)
      obtain ⟨aj, L, cj, hc, _, ho, hbytes⟩ := h3 k hkn
      have hoN := HN.out
      have hRj : Rd wr B aj L (fun i => g (off k + i)) := ⟨hbytes⟩
      obtain ⟨v', w', hap, hown', hgr'⟩ := app_N0 cj 22 hgr hown hRj (by omega)
      have hown2 : OwnN w' w.heap.size v' (off (k + 1)) g := by
        rw [ho]
        refine ⟨hown'.ex.imp id (fun ⟨g', cap', q1, q2, q3⟩ => ⟨g', cap', q1, q2.congr (fun i _ => ?_), q3⟩)⟩
        unfold cat
        split
        · rfl
        · show g (off k + (i - off k)) = g i
          rw [show off k + (i - off k) = i by omega]
      have i1 : (k : Int) < n := by omega
      have HAP := Lib.hid hap
      subst h1
      clear hown' hap hRj hbytes h3 ho hmo hTr hoN
      go_wp2_with (at_builtin; refine wpList_append_run rfl (.tmp 11) (.tmp 15) 22 22 rfl _ (.slice aj L cj) _ _ rfl rfl HAP.out ?_)
      first
        | exact ⟨⟨k + 1, by omega, by go_num, hown2, hgr'⟩, by simp [intOf]; omega⟩
        | (go_roundw
           case rel => exact ⟨k + 1, by omega, by go_num, hown2, hgr'⟩
           case measure => simp [intOf]; omega)
    · obtain rfl : k = n := by omega
      have i1 : (k : Int) ≤ k := by omega
      clear hkn hk
      go_wp2_with fail
      go_ret
      exact ⟨_, rfl, hown, hgr⟩

/-- Lengths summed up; texts one behind the other. -/
def offL (L : Nat → Nat) : Nat → Nat
  | 0 => 0
  | n + 1 => offL L n + L n
def catL (L : Nat → Nat) (f : Nat → Nat → Nat) : Nat → Nat → Nat
  | 0, _ => 0
  | n + 1, x => if offL L n ≤ x then f n (x - offL L n) else catL L f n x
theorem offL_mono (L : Nat → Nat) (i : Nat) : ∀ j, i ≤ j → offL L i ≤ offL L j
  | 0, h => by obtain rfl : i = 0 := by omega
               exact Nat.le_refl _
  | j + 1, h => by
    by_cases e : i = j + 1
    · rw [e]; exact Nat.le_refl _
    · have := offL_mono L i j (by omega)
      show _ ≤ offL L j + L j
      omega
theorem catL_at (L : Nat → Nat) (f : Nat → Nat → Nat) : ∀ n j i, j < n → i < L j → catL L f n (offL L j + i) = f j i
  | 0, _, _, h, _ => by omega
  | n + 1, j, i, h, hi => by
    unfold catL
    by_cases e : j = n
    · subst e
      rw [if_pos (by omega), show offL L j + i - offL L j = i by omega]
    · have h1 := offL_mono L (j + 1) n (by omega)
      have h2 : offL L (j + 1) = offL L j + L j := rfl
      rw [if_neg (by omega)]
      exact catL_at L f n j i (by omega) hi
theorem catL_lt (L : Nat → Nat) (f : Nat → Nat → Nat) (hf : ∀ j i, f j i < 256) : ∀ n x, catL L f n x < 256
  | 0, _ => (by decide : (0 : Nat) < 256)
  | n + 1, x => by
    unfold catL
    split
    · exact hf _ _
    · exact catL_lt L f hf n x

section
variable {H : Type} {enc : TypeId × Value → H} {P : Program}

theorem mem_weightsAll {t : TypeId} : ∀ (l : List (DataW H)) (d : DataW H) (y : Nat), d ∈ l → y ∈ d.weights P t → y ∈ DataW.weightsAll P t l
  | [], _, _, h, _ => by cases h
  | x :: r, d, y, h, hy => by
    unfold DataW.weightsAll
    rcases List.mem_cons.1 h with rfl | h
    · exact List.mem_append.2 (Or.inl hy)
    · exact List.mem_append.2 (Or.inr (mem_weightsAll r d y h hy))

theorem bytes_of_trod {W : World} {t e : TypeId} {fuel : Nat} {cs : List Value} {x : DataW H × List MemPlace} (ht : P.underlying t = some (.slice e)) (he : P.underlying e = some (.int .u8)) (hc : P.cellsOf e = 1) (hby : P.bytesOf e = 1)
    (hf : DataW.trod enc P W 0 (fun _ => true) true fuel t cs = some x) (hw : ∀ y, y ∈ x.1.weights P t → y ≤ reachBytes) :
    ∃ a n c f, cs = [.slice a n c] ∧ n ≤ c ∧ c ≤ 2 ^ 47 ∧ Rd W W.heap.size a n f ∧ ∀ i, f i < 256 := by
  rcases open_ints ht he hc hf with ⟨h1, _⟩ | ⟨a, len, cap, zs, h1, _, hlc, hmx, hzl, hx, hcell, hwf⟩
  · exact ⟨none, 0, 0, fun _ => 0, h1, Nat.le_refl _, Nat.zero_le _, ⟨fun h => absurd h (by omega)⟩, fun _ => (by decide : (0 : Nat) < 256)⟩
  · have hzl' : len ≤ zs.length := by rw [hzl]; simp [hlc]
    have hzc : zs.length = cap := by simpa using hzl
    have hcap : cap ≤ 2 ^ 47 := by
      have := hw cap (by
        rw [hx]
        unfold DataW.weights
        rw [ht]
        simp only [hby, Nat.mul_one]
        refine List.mem_cons.2 (Or.inl ?_)
        simp [lits]
        omega)
      unfold reachBytes at this
      omega
    have hb : ∀ i, 0 ≤ zs.getD i 0 ∧ zs.getD i 0 < 256 := fun i => by
      by_cases hi : i < zs.length
      · have e1 : zs.getD i 0 = zs[i] := by simp [List.getD, List.getElem?_eq_getElem hi]
        rw [e1]
        have := hwf zs[i] (List.getElem_mem hi)
        simp [Lit.wf, IntKind.min, IntKind.max, IntKind.bits, IntKind.signed] at this
        omega
      · have e1 : zs.getD i 0 = 0 := by simp [List.getD, List.getElem?_eq_none (Nat.le_of_not_lt hi)]
        rw [e1]; decide
    refine ⟨some a, len, cap, fun i => (zs.getD i 0).toNat, h1, hlc, hcap, ⟨fun h0 => ?_⟩, fun i => by have := hb i; show (zs.getD i 0).toNat < 256; omega⟩
    have h0' := hcell 0 (by omega)
    have hspot : a.spot = none := by simpa [Addr.add] using World.cell?_spot h0'
    obtain ⟨tb, o, sp⟩ := a
    simp only at hspot
    subst hspot
    refine ⟨tb, o, rfl, ?_, fun i hi => ?_⟩
    · have := World.block_lt_of_cell? W _ h0'
      simpa [Addr.add] using this
    · have h1 := hcell i (by omega)
      rw [Addr.add_mid] at h1
      rw [h1]
      have := hb i
      have e1 : ((zs.getD i 0).toNat : Int) = zs.getD i 0 := by omega
      show _ = some (Value.int .u8 (((zs.getD i 0).toNat : Nat) : Int))
      rw [e1]

/-- Texts that come in. -/
theorem open_texts {W : World} {t u e : TypeId} {v : Value} {d : DataW H} {ps : List MemPlace} {r : Reach} {b0 : Nat} (ht : P.underlying t = some (.slice u)) (hu : P.underlying u = some (.slice e)) (he : P.underlying e = some (.int .u8)) (hc : P.cellsOf e = 1) (hcu : P.cellsOf u = 1) (hby : P.bytesOf e = 1) (hbu : P.bytesOf u = 24)
    (hw : ∀ y, y ∈ d.weights P t → y ≤ reachBytes) (hval : Value.okWide P W r b0 t v) (h : DataW.Trod enc P W 0 (fun _ => true) true t v d ps) :
    ∃ a n c off g, v = .slice a n c ∧ n ≤ c ∧ n ≤ 2 ^ 47 ∧ Texts W W.heap.size a n off g ∧ (∀ j, j < n → off (j + 1) ≤ off j + 2 ^ 47) ∧ ∀ i, g i < 256 := by
  obtain ⟨a0, len, cap, rfl⟩ := okWide_slice ht hval
  obtain ⟨fuel, hf⟩ := h
  rcases Deep.open_slice1 ht hcu hf with ⟨h1, _⟩ | ⟨a, len', cap', m, n, V, D, Pl, h1, _, hlc, hmx, hm, hx0, hx⟩
  · simp [Value.cells] at h1
    obtain ⟨rfl, rfl, rfl⟩ := h1
    exact ⟨none, 0, 0, fun _ => 0, fun _ => 0, rfl, Nat.le_refl _, by decide, ⟨rfl, fun h => absurd h (by omega)⟩, fun j hj => absurd hj (by omega), fun _ => (by decide : (0 : Nat) < 256)⟩
  · simp [Value.cells] at h1
    obtain ⟨rfl, rfl, rfl⟩ := h1
    have hmc : m = cap := by simpa using hm
    have hd : d = .slice ((List.range len).map D) ((List.range (m - len)).map fun j => D (len + j)) := congrArg Prod.fst hx0
    have hwd : DataW.weights P t d = (((List.range len).map D).length + ((List.range (m - len)).map fun j => D (len + j)).length) * 24 :: (DataW.weightsAll P u ((List.range len).map D) ++ DataW.weightsAll P u ((List.range (m - len)).map fun j => D (len + j))) := by
      rw [hd]
      unfold DataW.weights
      rw [ht]
      simp only [hbu]
    rw [hwd] at hw
    have hlen : len ≤ 2 ^ 47 := by
      have := hw _ (List.mem_cons_self ..)
      simp at this
      unfold reachBytes at this
      omega
    have hwe : ∀ j, j < len → ∀ y, y ∈ (D j).weights P u → y ≤ reachBytes := fun j hj y hy =>
      hw y (List.mem_cons_of_mem _ (List.mem_append.2 (Or.inl (mem_weightsAll _ (D j) y (List.mem_map.2 ⟨j, List.mem_range.2 hj, rfl⟩) hy))))
    have key : ∀ j, ∃ (q : (Option Addr × Nat) × Nat × (Nat → Nat)), (∀ i, q.2.2 i < 256) ∧ (j < len → W.cell? (a.add j) = some (.slice q.1.1 q.1.2 q.2.1) ∧ q.1.2 ≤ q.2.1 ∧ q.1.2 ≤ 2 ^ 47 ∧ Rd W W.heap.size q.1.1 q.1.2 q.2.2) := fun j => by
      by_cases hj : j < len
      · obtain ⟨hcell, htrod⟩ := hx j (by omega)
        obtain ⟨aj, nj, cj, fj, hcs, hle, hmxj, hR, hfj⟩ := bytes_of_trod hu he hc hby htrod (hwe j hj)
        simp at hcs
        exact ⟨((aj, nj), cj, fj), hfj, fun _ => ⟨by rw [hcell, hcs], hle, Nat.le_trans hle hmxj, hR⟩⟩
      · exact ⟨((none, 0), 0, fun _ => 0), fun _ => (by decide : (0 : Nat) < 256), fun h => absurd h hj⟩
    obtain ⟨Q, hQ⟩ := Classical.axiomOfChoice key
    refine ⟨some a, len, cap, offL (fun j => (Q j).1.2), catL (fun j => (Q j).1.2) (fun j => (Q j).2.2) len, rfl, hlc, hlen, ⟨rfl, fun h0 => ?_⟩, fun j hj => ?_, catL_lt _ _ (fun j => (hQ j).1) _⟩
    · obtain ⟨h0', _⟩ := (hQ 0).2 h0
      have hspot : a.spot = none := by simpa [Addr.add] using World.cell?_spot h0'
      obtain ⟨tb, o, sp⟩ := a
      simp only at hspot
      subst hspot
      refine ⟨tb, o, rfl, ?_, fun j hj => ?_⟩
      · have := World.block_lt_of_cell? W _ h0'
        simpa [Addr.add] using this
      · obtain ⟨q1, q2, q3, q4⟩ := (hQ j).2 hj
        rw [Addr.add_mid] at q1
        refine ⟨_, _, _, q1, q2, rfl, fun hL => ?_⟩
        obtain ⟨tb', o', e1, e2, e3⟩ := q4.ex hL
        refine ⟨tb', o', e1, e2, fun i hi => ?_⟩
        have := catL_at (fun j => (Q j).1.2) (fun j => (Q j).2.2) len j i hj hi
        rw [this]
        exact e3 i hi
    · have := ((hQ j).2 hj).2.2.1
      show offL _ j + (Q j).1.2 ≤ _
      omega

end
end Go.Proofs.YtopepbkpcfbegaaDoor
namespace Go.Proofs.YtopepbkpcfbegaaDoor
open Go.RowKit

set_option maxRecDepth 100000
set_option maxHeartbeats 1000000

theorem rsize_other (h : Nat) (h1 : h ≠ 1) (h2 : h ≠ 2) (w : World) : Calls Tryd.prog 25 #[.int .u8 h] w fun e w' => e = .returned (.int .i64 0) ∧ w = w' := by
  have e1 : ((h : Int) == 1) = false := by rw [beq_eq_false_iff_ne]; omega
  have e2 : ((h : Int) == 2) = false := by rw [beq_eq_false_iff_ne]; omega
  clear h1 h2
  go_enter Tryd.func25, Tryd.ntmps25
  go_wp2
  go_ret
  exact ⟨rfl, rfl⟩

theorem rmac_none (h : Nat) (h1 : h ≠ 1) (h2 : h ≠ 2) (k l : Value) (w : World) :
    Calls Tryd.prog 9 #[.int .u8 h, k, l] w fun e w' => e = .returned (.slice none 0 0) ∧ w = w' := by
  go_enter Tryd.func9, Tryd.ntmps9
  go_wp2_with (go_at_call 25; refine (rsize_other h h1 h2 _).mono ?_; rintro e w' ⟨rfl, rfl⟩)
  go_ret
  exact ⟨rfl, rfl⟩

/-- Some bytes, whoever makes them. -/
structure PostM (W : World) (nb : Nat) (f : Nat → Nat) (e : Ending) (w' : World) : Prop where
  ex : ∃ a c, e = .returned (.slice a nb c) ∧ Rd w' w'.heap.size a nb f ∧ W.grownBy w' none
theorem PostM.ofGave {W : World} {T S : Nat} {f : Nat → Nat} {e : Ending} {w' : World} (h : Gave W T S f e w') : PostM W S f e w' := by
  obtain ⟨r, he, _, hO, hg⟩ := h
  exact ⟨_, _, he, hO.rd _ hO.lt S (Nat.le_refl _), hg⟩
theorem PostM.ofGaveN {W : World} {n : Nat} {f : Nat → Nat} {e : Ending} {w' : World} (h : GaveN W n f e w') : PostM W n f e w' := by
  obtain ⟨v, he, hv, hg⟩ := h
  obtain ⟨a, c, rfl, _, hR⟩ := hv.rd
  exact ⟨a, c, he, hR, hg⟩
theorem PostM.nothing {W : World} {f : Nat → Nat} {e : Ending} {w' : World} (he : e = .returned (.slice none 0 0)) (hg : W.grownBy w' none) : PostM W 0 f e w' :=
  ⟨none, 0, he, ⟨fun h => absurd h (by omega)⟩, hg⟩

theorem macTells_core (h Lk ck n lc nb : Nat) (ka la : Option Addr) (f off g : Nat → Nat) (w : World) (hL : Laid w 2 3 FC KC)
    (hT : Texts w w.heap.size la n off g) (hTL : ∀ j, j < n → off (j + 1) ≤ off j + 2 ^ 47) (hf : ∀ i, f i < 256) (hLk : Lk ≤ 1500) (hn : n + off n ≤ 1500)
    (C1 : ∀ W, w.grownBy W none → Calls Tryd.prog 10 #[.int .u8 h, .slice ka Lk ck, .slice la n lc] W (PostM W nb f))
    (C2 : ∀ W a c, w.grownBy W none → Rd W W.heap.size a (off n) g → off n ≤ c → Calls Tryd.prog 11 #[.int .u8 h, .slice ka Lk ck, .slice a (off n) c] W (PostM W nb f))
    (C3 : ∀ W a c, w.grownBy W none → Rd W W.heap.size a (off n) g → off n ≤ c → Calls Tryd.prog 9 #[.int .u8 h, .slice ka Lk ck, .slice a (off n) c] W (PostM W nb f)) :
    Calls Tryd.prog 3 #[.int .u8 h, .slice ka Lk ck, .slice la n lc] w (SaysTrue w) := by
  have hk := known02 w hL
  have HK := Lib.hid hk
  have HC1 := Lib.hid C1
  have HC2 := Lib.hid C2
  have HC3 := Lib.hid C3
  have HT := Lib.hid hT
  have HTL := Lib.hid hTL
  have HN := Lib.hid hn
  have i1 : (Lk : Int) ≤ 1500 := by omega
  clear hk C1 C2 C3 hT hTL hn hL
  go_enter Tryd.func3, Tryd.ntmps3
  go_wp2_with fail
  go_at_call 6
  with_reducible refine (HK.out).mono ?_
  rintro e w1 ⟨rfl, g1⟩
  have hT1 := HT.out.grown g1 (fun k e => by cases e)
  have hGr : Calls Tryd.prog 7 #[.slice la n lc, .int .i64 1500] w1 fun e w' => e = .returned (.bool false) ∧ w1 = w' := by
    have := great_any n lc w.heap.size la off g w1 hT1 (by have := HN.out; omega) HTL.out
    rwa [show decide (1500 < n + off n) = false by have := HN.out; simp; omega] at this
  have HGr := Lib.hid hGr
  have hJ := join_any n lc w.heap.size la off g w1 hT1 g1.size (by have := HN.out; omega) (by have := HN.out; omega)
  have HJ := Lib.hid hJ
  clear hGr hJ hT1
  go_wp2_with (go_at_call 7; (with_reducible refine (HGr.out).mono ?_); rintro e w' ⟨rfl, rfl⟩)
  go_at_call 8
  with_reducible refine (HJ.out).mono ?_
  rintro e w2 ⟨v2, rfl, hv2, g2⟩
  obtain ⟨a2, c2, rfl, hc2, hR2⟩ := hv2.rd
  have g02 := grown_trans g1 g2
  have HM := Lib.hid (HC3.out w2 a2 c2 g02 hR2 hc2)
  go_wp2_with fail
  go_at_call 9
  with_reducible refine (HM.out).mono ?_
  rintro e w3 ⟨a3, c3, rfl, hR3, g3⟩
  have g03 := grown_trans g02 g3
  have s3 := run_string c3 hR3 hf
  have HA := Lib.hid (HC1.out w3 g03)
  go_wp2_with fail
  go_at_call 10
  with_reducible refine (HA.out).mono ?_
  rintro e w4 ⟨a4, c4, rfl, hR4, g4⟩
  have g04 := grown_trans g03 g4
  have s4 := run_string c4 hR4 hf
  have HX := Lib.hid (HC2.out w4 a2 c2 g04 (hR2.up (Nat.le_refl _) (grown_trans g3 g4)) hc2)
  go_wp2_with fail
  go_at_call 11
  with_reducible refine (HX.out).mono ?_
  rintro e w5 ⟨a5, c5, rfl, hR5, g5⟩
  have g05 := grown_trans g04 g5
  have s5 := run_string c5 hR5 hf
  generalize strOf nb f = S at *
  have G05 := Lib.hid g05
  clear g05 g04 g03 g02 g1 g2 g3 g4 g5 hR5 hR4 hR3 hR2
  go_wp2_with fail
  go_ret
  exact ⟨rfl, G05.out⟩

theorem macTells_any (h Lk ck n lc : Nat) (ka la : Option Addr) (fk off g : Nat → Nat) (w : World) (hL : Laid w 2 3 FC KC)
    (hRk : Rd w w.heap.size ka Lk fk) (hT : Texts w w.heap.size la n off g) (hTn : n ≤ 2 ^ 47) (hTL : ∀ j, j < n → off (j + 1) ≤ off j + 2 ^ 47) (hfk : ∀ i, fk i < 256) (hg : ∀ i, g i < 256) (hck : Lk ≤ ck) :
    Calls Tryd.prog 3 #[.int .u8 h, .slice ka Lk ck, .slice la n lc] w (SaysTrue w) := by
  have hk := known02 w hL
  have HK := Lib.hid hk
  clear hk
  by_cases hLk : 1500 < Lk
  · have i1 : (1500 : Int) < Lk := by omega
    clear hT hTL hL hRk
    go_enter Tryd.func3, Tryd.ntmps3
    go_wp2_with (go_at_call 6; (with_reducible refine (HK.out).mono ?_); rintro e w1 ⟨rfl, g1⟩)
    go_ret
    exact ⟨rfl, g1⟩
  by_cases hn : 1500 < n + off n
  · have i1 : (Lk : Int) ≤ 1500 := by omega
    have HT := Lib.hid hT
    have HTL := Lib.hid hTL
    have hr : decide (1500 < n + off n) = true := by simpa using hn
    have Hr := Lib.hid hr
    clear hT hTL hL hRk hn hr
    go_enter Tryd.func3, Tryd.ntmps3
    go_wp2_with fail
    go_at_call 6
    with_reducible refine (HK.out).mono ?_
    rintro e w1 ⟨rfl, g1⟩
    have hGr : Calls Tryd.prog 7 #[.slice la n lc, .int .i64 1500] w1 fun e w' => e = .returned (.bool true) ∧ w1 = w' := by
      have := great_any n lc w.heap.size la off g w1 (HT.out.grown g1 (fun k e => by cases e)) hTn HTL.out
      rwa [Hr.out] at this
    have HGr := Lib.hid hGr
    clear hGr
    go_wp2_with (go_at_call 7; (with_reducible refine (HGr.out).mono ?_); rintro e w' ⟨rfl, rfl⟩)
    go_ret
    exact ⟨rfl, g1⟩
  have hLk' : Lk ≤ 1500 := by omega
  have hn' : n + off n ≤ 1500 := by omega
  have hT' : ∀ W, w.grownBy W none → Texts W W.heap.size la n off g := fun W hg => (hT.grown hg (fun k e => by cases e)).below32 hg.size
  by_cases h1 : h = 1
  · subst h1
    exact macTells_core 1 Lk ck n lc 32 ka la (macOf32 FC KC Lk fk g (off n)) off g w hL hT hTL (fun i => macOf_lt32 _ _ _ _ _ _ _) hLk' hn'
      (fun W hgr => (Mac_any32 n lc Lk ck la ka FC KC g off fk W (hL.grown hgr (by simp) (by simp)) (hT' W hgr) (hRk.up (Nat.le_refl _) hgr) hg hfk FC_lt KC_lt hck (by omega) (by omega) (by omega)).mono fun _ _ h => PostM.ofGave h)
      (fun W a c hgr hR hc => (Extract_any32 (off n) c Lk ck a ka FC KC g fk W (hL.grown hgr (by simp) (by simp)) hR (hRk.up (Nat.le_refl _) hgr) hg hfk FC_lt KC_lt hc hck (by omega) (by omega)).mono fun _ _ h => PostM.ofGave h)
      (fun W a c hgr hR hc => (rmac32 Lk ck (off n) c ka a fk g W (hRk.up (Nat.le_refl _) hgr) hR hfk hg (by omega) (by omega)).mono fun _ _ h => PostM.ofGaveN h)
  by_cases h2 : h = 2
  · subst h2
    exact macTells_core 2 Lk ck n lc 64 ka la (macOf64 FC KC Lk fk g (off n)) off g w hL hT hTL (fun i => macOf_lt64 _ _ _ _ _ _ _) hLk' hn'
      (fun W hgr => (Mac_any64 n lc Lk ck la ka FC KC g off fk W (hL.grown hgr (by simp) (by simp)) (hT' W hgr) (hRk.up (Nat.le_refl _) hgr) hg hfk FC_lt KC_lt hck (by omega) (by omega) (by omega)).mono fun _ _ h => PostM.ofGave h)
      (fun W a c hgr hR hc => (Extract_any64 (off n) c Lk ck a ka FC KC g fk W (hL.grown hgr (by simp) (by simp)) hR (hRk.up (Nat.le_refl _) hgr) hg hfk FC_lt KC_lt hc hck (by omega) (by omega)).mono fun _ _ h => PostM.ofGave h)
      (fun W a c hgr hR hc => (rmac64 Lk ck (off n) c ka a fk g W (hRk.up (Nat.le_refl _) hgr) hR hfk hg (by omega) (by omega)).mono fun _ _ h => PostM.ofGaveN h)
  exact macTells_core h Lk ck n lc 0 ka la (fun _ => 0) off g w hL hT hTL (fun _ => (by decide : (0 : Nat) < 256)) hLk' hn'
    (fun W hgr => (Mac_none h h1 h2 _ _ W).mono fun _ _ ⟨he, hw⟩ => by subst hw; exact PostM.nothing he (grown_refl W none))
    (fun W a c hgr hR hc => (Extract_none h h1 h2 _ a (off n) c W).mono fun _ _ ⟨he, hw⟩ => PostM.nothing he hw)
    (fun W a c hgr hR hc => (rmac_none h h1 h2 _ _ W).mono fun _ _ ⟨he, hw⟩ => by subst hw; exact PostM.nothing he (grown_refl W none))

end Go.Proofs.YtopepbkpcfbegaaDoor
namespace Go.Proofs.YtopepbkpcfbegaaDoor
open Go.ChangeShapes Go.WideShapes Go.ChangeAt Go.RowKit

set_option maxRecDepth 100000 in
theorem macTells_lifted (os : Os) (started : os.Started) (H : Type) (enc : TypeId × Value → H) :
    ReturnsInHanded {} Tryd.checked os 3 .any (fun w args => (Rows.macTellsSpec.pre enc Tryd.prog Tryd.f3 [] false w args ∧ laidMetH Tryd.prog theLaid w) ∧ sizedMet enc Tryd.prog Tryd.f3 (OpenSpec.ofChange Rows.macTellsSpec) false w args)
      (Rows.macTellsSpec.post enc Tryd.prog Tryd.f3 false true false false) := by
  refine returnsInHanded_of_change_and (C := Tryd.checked) (X := fun w _ => laidMetH Tryd.prog theLaid w) (fun _ _ _ hh h => h.of_heap hh) own started (by kernel_rfl) Tryd.func3
    (ChangeSpec.witness_shaped (enc := enc) (C := Tryd.checked) (os := os) (X := fun w _ => laidMetH Tryd.prog theLaid w) false (World.doorLaid Tryd.prog 400 os) #[.int .u8 0, .slice none 0 0, .slice none 0 0] 8 rfl (World.shaped_of_RefB (by kernel_rfl) (by kernel_rfl)) (by kernel_rfl) (by kernel_rfl) (by kernel_rfl) (door_met os _)) ?_
  intro W base args ds gs before hval0 hW _ hwt hL _
  have hval : ∀ (j : Nat) t v, Tryd.f3.params[j]? = some t → args[j]? = some v → Value.okWide Tryd.prog W .any base t v := hval0
  have hW' := hW
  obtain ⟨p, q, hA0, hV, rfl, _, _⟩ := hW
  have hA : DataW.TrodAll enc Tryd.prog W 0 (fun _ => true) true Tryd.f3.params.toList args.toList ds p := hA0
  have hwt' : (DataW.weightsEach Tryd.prog (Tryd.f3.params.toList ++ Rows.macTellsSpec.plain.varTypes Tryd.prog) (ds ++ gs)).all (· ≤ reachBytes) = true := hwt
  rw [Tryd.params3] at hA hval hwt'
  obtain ⟨v0, vs0, d0, ds0, p0, q0, hv0, rfl, rfl, h0, hA1⟩ := trodAll_cons hA
  obtain ⟨v1, vs1, d1, ds1, p1, q1, rfl, rfl, rfl, h1, hA2⟩ := trodAll_cons hA1
  obtain ⟨v2, vs2, d2, ds2, p2, q2, rfl, rfl, rfl, h2, hA3⟩ := trodAll_cons hA2
  obtain ⟨rfl, rfl, rfl⟩ := trodAll_nil hA3
  obtain ⟨l⟩ := args
  simp only at hv0
  subst hv0
  obtain ⟨rfl, rfl⟩ := trodVars_none hV
  obtain ⟨x, rfl, rfl, rfl, hx⟩ := open_int Tryd.underlying5 (hval 0 5 v0 rfl rfl) h0
  obtain ⟨a, n, c, f, rfl, hc, hR, hf⟩ := open_bytes (P := Tryd.prog) under_bytes (by kernel_rfl) (by kernel_rfl) (hval 1 22 v1 rfl rfl) h1
  have hw2 : ∀ y, y ∈ DataW.weights Tryd.prog 23 d2 → y ≤ reachBytes := fun y hy => by
    have hm : y ∈ DataW.weightsEach Tryd.prog (#[5, 22, 23].toList ++ Rows.macTellsSpec.plain.varTypes Tryd.prog) ([.lit (.int .u8 x), d1, d2] ++ []) :=
      List.mem_append.2 (Or.inr (List.mem_append.2 (Or.inr (List.mem_append.2 (Or.inl hy)))))
    simpa using List.all_eq_true.1 hwt' y hm
  obtain ⟨a2, n2, c2, off, g, rfl, hc2, hn2, hT, hTL, hg⟩ := open_texts (P := Tryd.prog) (t := 23) (u := 22) (e := 5) (by kernel_rfl) under_bytes (by kernel_rfl) (by kernel_rfl) (by kernel_rfl) (by kernel_rfl) (by kernel_rfl) hw2 (hval 2 23 v2 rfl rfl) h2
  clear hA0 hval0
  obtain ⟨y, rfl⟩ : ∃ y : Nat, x = y := ⟨x.toNat, by
    simp [Lit.wf, IntKind.min, IntKind.max, IntKind.bits, IntKind.signed] at hx
    omega⟩
  refine (macTells_any y n c n2 c2 a a2 f off g W (of_laid hL) hR hT hn2 hTL hf hg hc).mono fun e W' ⟨he, hg⟩ => ?_
  subst he
  exact ⟨_, rfl, law_post laidOut hW' rfl rfl (tb := 4) rfl Tryd.underlying4 (by
      rw [Tryd.params3]
      intro t ht
      have hall : ([5, 22, 23].all fun u => Tryd.prog.readableRec u && decide (u < Tryd.prog.types.size)) = true := by kernel_rfl
      have := List.all_eq_true.1 hall t (by simpa using ht)
      simpa using this) hg⟩

theorem macTells_holds : Rows.MacTellsSaid :=
  OpenClaim.holds_of_wide 3 Tryd.f3 rfl rfl rfl rfl rfl rfl rfl ⟨rfl, rfl, rfl, rfl, rfl⟩ rfl rfl rfl rfl rfl (by kernel_rfl) Tryd.func3 (by kernel_rfl)
    (of_decide_eq_true (by kernel_rfl)) (by unfold Func.isWrapper; first | (rw [if_pos (by decide +kernel)]; kernel_rfl) | (rw [if_neg (by decide +kernel)]; exact ⟨rfl, rfl⟩))
    (fun os started H enc _ => macTells_lifted os started H enc)

theorem macTells_card_holds : Rows.MacTellsCardSaid :=
  Claim7.holds_tied_plain_at .later [] [.data, .data] true _ false
    macTells_holds (fun _ h => by cases h) (by kernel_rfl) (fun _ h => by cases h) macTells_row_tie rfl ⟨rfl, rfl⟩ (by kernel_rfl) rfl
    (fun f fn hf hfn => by
      obtain rfl : f = 3 := Option.some.inj ((show Tryd.prog.funcNamed "hailer/hailerlaw02.MacTells" = some 3 by kernel_rfl).symm.trans hf) |>.symm
      obtain rfl : fn = Tryd.f3 := (Option.some.inj (Tryd.func3.symm.trans hfn)).symm
      exact ⟨by kernel_rfl, fun j t ht => by
        rw [Tryd.params3] at ht
        have hm : t ∈ [5, 22, 23] := by simpa using Array.mem_of_getElem? ht
        have hall : ([5, 22, 23].all fun u => !Tryd.prog.wantsStandIn u) = true := by kernel_rfl
        exact (show Tryd.prog.wantsStandIn t = false by simpa using List.all_eq_true.1 hall t hm)⟩)
    (by kernel_rfl)

end Go.Proofs.YtopepbkpcfbegaaDoor
