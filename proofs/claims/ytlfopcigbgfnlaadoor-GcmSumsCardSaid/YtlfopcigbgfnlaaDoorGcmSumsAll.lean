/-
  Proved: whatever block and two texts come in, 'GcmSums' answers true, and what came in reads afterwards as it read before. Conditions: the table of package aes reads as the program's text lays it (tied to that text by the card); the arguments can be read as data.
-/
import Derived.Test.YtlfopcigbgfnlaaDoorGcmFold
import Derived.Test.YtlfopcigbgfnlaaDoorGcmFirst
import Derived.Test.YtlfopcigbgfnlaaDoorCtrNext
import Derived.Test.YtlfopcigbgfnlaaDoorAesPair
import Derived.Test.YtlfopcigbgfnlaaDoorCtrTurn
import Derived.Test.YtlfopcigbgfnlaaDoorAesNew
import Derived.Test.YtlfopcigbgfnlaaDoorCells
import Derived.Test.YtlfopcigbgfnlaaDoorGcmCopy
import Derived.Test.YtlfopcigbgfnlaaDoorSame
import Derived.Test.YtlfopcigbgfnlaaDoorOrd3
import Derived.Test.YtlfopcigbgfnlaaDoorEnds
import Derived.Test.YtlfopcigbgfnlaaDoorAesEq
import Derived.BigQuiet
import Derived.Test.YtlfopcigbgfnlaaDoorLaidAes
import Derived.Test.YtlfopcigbgfnlaaDoorTie
import Derived.Test.YtlfopcigbgfnlaaDoorCards
import Derived.SevenTiedAt
namespace Go.Proofs.YtlfopcigbgfnlaaDoor
open Go.RowKit Go.Shelf

set_option maxRecDepth 100000
set_option maxHeartbeats 1000000

theorem two_zero : cellsOf .u64 2 (wd 0) = #[.int .u64 0, .int .u64 0] := by kernel_rfl

theorem ghash_any (n c : Nat) (a : Option Addr) (h f : Nat → Nat) (w : World) (hh : ∀ i, h i < 256) (hf : ∀ i, f i < 256) (hR : Rd w w.heap.size a n f) (hc : n ≤ c) (hn : n ≤ 2 ^ 50) :
    Calls Tryd.prog 6 #[.agg (cellsOf .u8 16 h), .slice a n c] w fun e w' => e = .returned (.agg (cellsOf .u8 16 (hashF h f n))) ∧ w.grownBy w' none := by
  have hA : Holds ((w.alloc (.cells (cellsOf .u8 16 h) 24)).alloc (.cells #[.int .u8 0, .int .u8 0, .int .u8 0, .int .u8 0, .int .u8 0, .int .u8 0, .int .u8 0, .int .u8 0, .int .u8 0, .int .u8 0, .int .u8 0, .int .u8 0, .int .u8 0, .int .u8 0, .int .u8 0, .int .u8 0] 24)) w.heap.size 24 .u8 16 h := (holds_alloc w 24 .u8 16 h _ rfl).of_block (by rw [heap_alloc_old]; simp)
  have hB : Holds ((w.alloc (.cells (cellsOf .u8 16 h) 24)).alloc (.cells #[.int .u8 0, .int .u8 0, .int .u8 0, .int .u8 0, .int .u8 0, .int .u8 0, .int .u8 0, .int .u8 0, .int .u8 0, .int .u8 0, .int .u8 0, .int .u8 0, .int .u8 0, .int .u8 0, .int .u8 0, .int .u8 0] 24)) (w.heap.size + 1) 24 .u8 16 (fun _ => 0) := by
    have := holds_alloc (w.alloc (.cells (cellsOf .u8 16 h) 24)) 24 .u8 16 (fun _ => 0) _ zero16
    rwa [World.size_alloc] at this
  have hg := grown_alloc (World.grownBy_alloc w (.cells (cellsOf .u8 16 h) 24) none) (.cells #[.int .u8 0, .int .u8 0, .int .u8 0, .int .u8 0, .int .u8 0, .int .u8 0, .int .u8 0, .int .u8 0, .int .u8 0, .int .u8 0, .int .u8 0, .int .u8 0, .int .u8 0, .int .u8 0, .int .u8 0, .int .u8 0] 24)
  have hR1 := hR.up (Nat.le_refl _) hg
  have HT : Hid (∀ W, Calls Tryd.prog 14 #[.agg (cellsOf .u8 16 h)] W fun e w' => e = .returned (.agg (cellsOf .u64 2 (wd (pl h)))) ∧ W.grownBy w' none) := Lib.hid (fun W => gtaken_any h W hh)
  have HF : Hid (∀ W, Rd W W.heap.size a n f → Calls Tryd.prog 13 #[.agg #[.int .u64 0, .int .u64 0], .agg (cellsOf .u64 2 (wd (pl h))), .slice a n c] W fun e w' => e = .returned (.agg (cellsOf .u64 2 (wd (fdA (pl h) 0 f n)))) ∧ W.grownBy w' none) := Lib.hid (fun W hW => by
    have := gfold_any (pl h) 0 n c a f W (pl_lt h) hf hW hc hn
    rwa [two_zero] at this)
  have HP : Hid (∀ W, Calls Tryd.prog 15 #[.agg (cellsOf .u64 2 (wd (fdA (pl h) 0 f n)))] W fun e w' => e = .returned (.agg (cellsOf .u8 16 (hashF h f n))) ∧ W.grownBy w' none) := Lib.hid (fun W => by
    have := gput_any (fdA (pl h) 0 f n) W
    rwa [cellsOf_congr .u8 16 _ (hashF h f n) (fun i hi => un_hash h f n i hi)] at this)
  generalize wd (fdA (pl h) 0 f n) = x at *
  generalize wd (pl h) = y at *
  generalize hashF h f n = z at *
  clear hh hf hR hc hn
  go_enter Tryd.func6, Tryd.ntmps6
  go_wp2_with (refine wpList_load_row rfl 24 (.tmp 2) rfl w.heap.size rfl 24 _ (0, 0) (.array 16 5) hA.block (by kernel_rfl) rfl (by rw [cellsOf_size]; kernel_rfl) ?_)
  generalize (w.alloc (.cells (cellsOf .u8 16 h) 24)).alloc (.cells #[.int .u8 0, .int .u8 0, .int .u8 0, .int .u8 0, .int .u8 0, .int .u8 0, .int .u8 0, .int .u8 0, .int .u8 0, .int .u8 0, .int .u8 0, .int .u8 0, .int .u8 0, .int .u8 0, .int .u8 0, .int .u8 0] 24) = w1 at *
  go_at_call 14
  with_reducible refine (HT.out _).mono ?_
  rintro e w2 ⟨rfl, g2⟩
  have hR2 := hR1.up (Nat.le_refl _) g2
  go_wp2_with fail
  go_at_call 13
  with_reducible refine (HF.out _ hR2).mono ?_
  rintro e w3 ⟨rfl, g3⟩
  go_wp2_with fail
  go_at_call 15
  with_reducible refine (HP.out _).mono ?_
  rintro e w4 ⟨rfl, g4⟩
  have g14 := grown_trans (grown_trans g2 g3) g4
  have hB4 := hB.grown g14 (by simp)
  have g04 := grown_trans hg g14
  go_wp2_with (refine wpList_store_row rfl 24 (.tmp 4) (.tmp 10) rfl (w.heap.size + 1) _ rfl rfl 24 _ hB4.block (by rw [cellsOf_size]; kernel_rfl) rfl (cellsOf_all _ _ _) ?_)
  exact bodyPost_ret (v := .agg (cellsOf .u8 16 z)) (results_cell_row rfl _ _ (w.heap.size + 1) 24 _ (0, 0) (.array 16 5) rfl (hB4.setRow .u8 16 z).block (by kernel_rfl) rfl (by rw [cellsOf_size]; kernel_rfl)) rfl ⟨rfl, grown_setRow_new g04 _ _ (Or.inl (by omega))⟩
/-- How many bits there are, of both, as 16 bytes. -/
def lnF (a b j : Nat) : Nat := if j < 8 then 8 * a / 256 ^ (7 - j) % 256 else 8 * b / 256 ^ (15 - j) % 256
theorem lnF_lt (a b j : Nat) : lnF a b j < 256 := by
  unfold lnF
  split <;> exact Nat.mod_lt _ (by decide)
theorem be_digits (x : Nat) (hx : x < 2 ^ 64) : be (fun j => x / 256 ^ (7 - j) % 256) 8 = x := by
  simp only [be, show 7 - 0 = 7 from rfl, show 7 - 1 = 6 from rfl, show 7 - 2 = 5 from rfl, show 7 - 3 = 4 from rfl, show 7 - 4 = 3 from rfl, show 7 - 5 = 2 from rfl, show 7 - 6 = 1 from rfl, show 7 - 7 = 0 from rfl]
  omega
theorem wd_ln0 (a b : Nat) (ha : 8 * a < 2 ^ 64) : wd (pl (lnF a b)) 0 = 8 * a := by
  rw [← wd_pl (lnF a b) (lnF_lt a b) 0 (by decide), ← be_digits (8 * a) ha]
  refine be_alike 8 fun i hi => ?_
  unfold lnF
  rw [if_pos (by omega), show 8 * 0 + i = i by omega]
theorem wd_ln1 (a b : Nat) (hb : 8 * b < 2 ^ 64) : wd (pl (lnF a b)) 1 = 8 * b := by
  rw [← wd_pl (lnF a b) (lnF_lt a b) 1 (by decide), ← be_digits (8 * b) hb]
  refine be_alike 8 fun i hi => ?_
  unfold lnF
  rw [if_neg (by omega), show 15 - (8 * 1 + i) = 7 - i by omega]
/-- What is hashed for a tag, under h. -/
def tagP (h na nt : Nat) (fa ft : Nat → Nat) : Nat := gMul (fdA h (fdA h 0 fa na) ft nt ^^^ pl (lnF na nt)) h
/-- A tag. -/
def tagF (R : Nat) (W f fa : Nat → Nat) (na : Nat) (ft : Nat → Nat) (nt i : Nat) : Nat := un (tagP (pl (sealA R W (fun _ => 0))) na nt fa ft ^^^ pl (sealA R W f)) i
theorem tagF_lt (R : Nat) (W f fa : Nat → Nat) (na : Nat) (ft : Nat → Nat) (nt i : Nat) : tagF R W f fa na ft nt i < 256 := un_lt _ _
theorem gbits_enters (args : Array Value) (w : World) : (callFunc 35 args).run Tryd.prog w = .ok (.enter 35 args) w := enters_of Tryd.func35 (by kernel_rfl) rfl args w

theorem gtag_any (m R na ca nt ct : Nat) (aa ta : Option Addr) (C W f fa ft : Nat → Nat) (w : World) (hW : ∀ i, W i < 256) (hf : ∀ i, f i < 256) (hfa : ∀ i, fa i < 256) (hft : ∀ i, ft i < 256) (h1 : 1 ≤ R) (hR : R ≤ 14) (hCc : Cols (4 * (R + 1)) W C)
    (hC : Ciph w m R C) (hL : LaidS w 0) (hA : Rd w w.heap.size aa na fa) (hca : na ≤ ca) (hna : na ≤ 2 ^ 40) (hT : Rd w w.heap.size ta nt ft) (hct : nt ≤ ct) (hnt : nt ≤ 2 ^ 40) :
    Calls Tryd.prog 20 #[.pointer (some ⟨m, 0, none⟩), .agg (cellsOf .u8 16 f), .slice aa na ca, .slice ta nt ct] w fun e w' => e = .returned (.agg (cellsOf .u8 16 (tagF R W f fa na ft nt))) ∧ w.grownBy w' none := by
  have hF : Holds ((w.alloc (.cells (cellsOf .u8 16 f) 24)).alloc (.cells #[.int .u8 0, .int .u8 0, .int .u8 0, .int .u8 0, .int .u8 0, .int .u8 0, .int .u8 0, .int .u8 0, .int .u8 0, .int .u8 0, .int .u8 0, .int .u8 0, .int .u8 0, .int .u8 0, .int .u8 0, .int .u8 0] 24)) w.heap.size 24 .u8 16 f := (holds_alloc w 24 .u8 16 f _ rfl).of_block (by rw [heap_alloc_old]; simp)
  have hO : Holds ((w.alloc (.cells (cellsOf .u8 16 f) 24)).alloc (.cells #[.int .u8 0, .int .u8 0, .int .u8 0, .int .u8 0, .int .u8 0, .int .u8 0, .int .u8 0, .int .u8 0, .int .u8 0, .int .u8 0, .int .u8 0, .int .u8 0, .int .u8 0, .int .u8 0, .int .u8 0, .int .u8 0] 24)) (w.heap.size + 1) 24 .u8 16 (fun _ => 0) := by
    have := holds_alloc (w.alloc (.cells (cellsOf .u8 16 f) 24)) 24 .u8 16 (fun _ => 0) _ zero16
    rwa [World.size_alloc] at this
  have hg := grown_alloc (World.grownBy_alloc w (.cells (cellsOf .u8 16 f) 24) none) (.cells #[.int .u8 0, .int .u8 0, .int .u8 0, .int .u8 0, .int .u8 0, .int .u8 0, .int .u8 0, .int .u8 0, .int .u8 0, .int .u8 0, .int .u8 0, .int .u8 0, .int .u8 0, .int .u8 0, .int .u8 0, .int .u8 0] 24)
  obtain ⟨hP, hhP⟩ : ∃ x, x = pl (sealA R W (fun _ => 0)) := ⟨_, rfl⟩
  have hPl : hP < 2 ^ 128 := by rw [hhP]; exact pl_lt _
  have HS0 : Hid (∀ U, w.grownBy U none → Calls Tryd.prog 34 #[.pointer (some ⟨m, 0, none⟩), .agg #[.int .u8 0, .int .u8 0, .int .u8 0, .int .u8 0, .int .u8 0, .int .u8 0, .int .u8 0, .int .u8 0, .int .u8 0, .int .u8 0, .int .u8 0, .int .u8 0, .int .u8 0, .int .u8 0, .int .u8 0, .int .u8 0]] U fun e w' => e = .returned (.agg (cellsOf .u8 16 (sealA R W (fun _ => 0)))) ∧ U.grownBy w' none) := Lib.hid (fun U hU => by
    have := seal_any m R C W (fun _ => 0) U (hL.grown hU (by simp)) (hC.grown hU (by simp)) hCc (fun _ => by decide) hW h1 hR
    rwa [← zero16] at this)
  have HS1 : Hid (∀ U row, w.grownBy U row → row ≠ some m → row ≠ some 0 → Calls Tryd.prog 34 #[.pointer (some ⟨m, 0, none⟩), .agg (cellsOf .u8 16 f)] U fun e w' => e = .returned (.agg (cellsOf .u8 16 (sealA R W f))) ∧ U.grownBy w' none) := Lib.hid (fun U row hU h1' h2' =>
    seal_any m R C W f U (hL.grown hU (fun e => h2' e.symm)) (hC.grown hU (fun e => h1' e.symm)) hCc hf hW h1 hR)
  have HT0 : Hid (∀ U, Calls Tryd.prog 14 #[.agg (cellsOf .u8 16 (sealA R W (fun _ => 0)))] U fun e w' => e = .returned (.agg (cellsOf .u64 2 (wd hP))) ∧ U.grownBy w' none) := Lib.hid (fun U => by
    rw [hhP]
    exact gtaken_any _ U (sealA_lt R W _ hW (fun _ => by decide)))
  have HT1 : Hid (∀ U, Calls Tryd.prog 14 #[.agg (cellsOf .u8 16 (sealA R W f))] U fun e w' => e = .returned (.agg (cellsOf .u64 2 (wd (pl (sealA R W f))))) ∧ U.grownBy w' none) := Lib.hid (fun U => gtaken_any _ U (sealA_lt R W _ hW hf))
  obtain ⟨X1, hX1⟩ : ∃ x, x = fdA hP 0 fa na := ⟨_, rfl⟩
  obtain ⟨X2, hX2⟩ : ∃ x, x = fdA hP X1 ft nt := ⟨_, rfl⟩
  obtain ⟨X3, hX3⟩ : ∃ x, x = gMul (X2 ^^^ pl (lnF na nt)) hP := ⟨_, rfl⟩
  have HF0 : Hid (∀ U, w.grownBy U none → Calls Tryd.prog 13 #[.agg #[.int .u64 0, .int .u64 0], .agg (cellsOf .u64 2 (wd hP)), .slice aa na ca] U fun e w' => e = .returned (.agg (cellsOf .u64 2 (wd X1))) ∧ U.grownBy w' none) := Lib.hid (fun U hU => by
    have := gfold_any hP 0 na ca aa fa U hPl hfa (hA.up (Nat.le_refl _) hU) hca (by omega)
    rw [two_zero] at this
    rw [hX1]; exact this)
  have HF1 : Hid (∀ U, w.grownBy U none → Calls Tryd.prog 13 #[.agg (cellsOf .u64 2 (wd X1)), .agg (cellsOf .u64 2 (wd hP)), .slice ta nt ct] U fun e w' => e = .returned (.agg (cellsOf .u64 2 (wd X2))) ∧ U.grownBy w' none) := Lib.hid (fun U hU => by
    rw [hX2]
    exact gfold_any hP X1 nt ct ta ft U hPl hft (hT.up (Nat.le_refl _) hU) hct (by omega))
  have HL : Hid (cellsOf .u64 2 (wd (pl (lnF na nt))) = #[.int .u64 ((8 * na : Nat) : Int), .int .u64 ((8 * nt : Nat) : Int)]) := Lib.hid (by
    rw [two_words, wd_ln0 na nt (by omega), wd_ln1 na nt (by omega)])
  have HM : Hid (∀ U, Calls Tryd.prog 28 #[.agg (cellsOf .u64 2 (wd (X2 ^^^ pl (lnF na nt)))), .agg (cellsOf .u64 2 (wd hP))] U fun e w' => e = .returned (.agg (cellsOf .u64 2 (wd X3))) ∧ U.grownBy w' none) := Lib.hid (fun U => by
    rw [hX3]
    exact gtimes_any _ _ U hPl)
  have HP : Hid (∀ U, Calls Tryd.prog 15 #[.agg (cellsOf .u64 2 (wd (X3 ^^^ pl (sealA R W f))))] U fun e w' => e = .returned (.agg (cellsOf .u8 16 (tagF R W f fa na ft nt))) ∧ U.grownBy w' none) := Lib.hid (fun U => by
    have := gput_any (X3 ^^^ pl (sealA R W f)) U
    rw [hX3, hX2, hX1, hhP] at this
    rw [hX3, hX2, hX1, hhP]
    exact this)
  have HB : Hid (∀ (a : Option Addr) (n c : Nat) U, n ≤ 2 ^ 40 → Calls Tryd.prog 35 #[.slice a n c] U fun e w' => e = .returned (.int .u64 ((8 * n : Nat) : Int)) ∧ U.grownBy w' none) := Lib.hid (fun a n c U hn => (gbits_any a n c U (by omega)).mono fun _ _ h => ⟨h.1, by rw [← h.2]; exact grown_refl _ _⟩)
  obtain ⟨S0, hS0⟩ : ∃ x, x = sealA R W (fun _ => 0) := ⟨_, rfl⟩
  obtain ⟨S1, hS1⟩ : ∃ x, x = sealA R W f := ⟨_, rfl⟩
  rw [← hS0] at HS0 HT0
  rw [← hS1] at HS1 HT1 HP
  obtain ⟨z, hz⟩ : ∃ x, x = tagF R W f fa na ft nt := ⟨_, rfl⟩
  rw [← hz] at HP ⊢
  have HLS := Lib.hid hL
  have HC := Lib.hid hC
  clear hz hS0 hS1 hX1 hX2 hX3 hhP hA hT hca hct hC hL hCc
  go_enter Tryd.func20, Tryd.ntmps20
  go_wp2_with fail
  generalize (w.alloc (.cells (cellsOf .u8 16 f) 24)).alloc (.cells #[.int .u8 0, .int .u8 0, .int .u8 0, .int .u8 0, .int .u8 0, .int .u8 0, .int .u8 0, .int .u8 0, .int .u8 0, .int .u8 0, .int .u8 0, .int .u8 0, .int .u8 0, .int .u8 0, .int .u8 0, .int .u8 0] 24) = w1 at *
  go_at_call 34
  with_reducible refine (HS0.out _ hg).mono ?_
  rintro e w2 ⟨rfl, g2⟩
  go_wp2_with fail
  go_at_call 14
  with_reducible refine (HT0.out _).mono ?_
  rintro e w3 ⟨rfl, g3⟩
  have hN0 : Holds (w3.alloc (.cells #[.int .u64 0, .int .u64 0] 41)) w3.heap.size 41 .u64 2 (fun _ => 0) := holds_alloc w3 _ .u64 2 _ _ rfl
  have hbn := hN0.block
  have hg3 := grown_trans (grown_trans hg g2) g3
  have hF3 := (hF.grown g2 (by simp)).grown g3 (by simp)
  have hO3 := (hO.grown g2 (by simp)).grown g3 (by simp)
  have hlF := hF3.lt
  have hlO := hO3.lt
  have hH4 := hN0.setRow .u64 2 (wd hP)
  have g4 := grown_setRow_new (World.grownBy_alloc w3 (.cells #[.int .u64 0, .int .u64 0] 41) none) w3.heap.size (cellsOf .u64 2 (wd hP)) (Or.inl (Nat.le_refl _))
  have hg4 := grown_trans hg3 g4
  have hF4 := hF3.grown g4 (by simp)
  have hO4 := hO3.grown g4 (by simp)
  obtain ⟨w4, hw4⟩ : ∃ w4, w4 = (w3.alloc (.cells #[.int .u64 0, .int .u64 0] 41)).setRow w3.heap.size (cellsOf .u64 2 (wd hP)) := ⟨_, rfl⟩
  rw [← hw4] at hH4 g4 hg4 hF4 hO4
  have HW4 := Lib.hid hw4
  have hl4 : w3.heap.size < w4.heap.size := hH4.lt
  clear hN0 hg3 hF3 hO3 g4 hw4 hF hO g2 g3 hg
  go_upto_region 2 with (refine wpList_store_row rfl 41 (.tmp 9) (.tmp 14) rfl w3.heap.size _ rfl rfl 41 _ hbn (by rw [cellsOf_size]; kernel_rfl) rfl (cellsOf_all _ _ _) ?_)
  rw [← HW4.out]
  generalize w3.heap.size = b9 at *
  clear hbn
  obtain ⟨V0, hV0⟩ : ∃ V0, V0 = w4.drew := ⟨_, rfl⟩
  have hv0 : w4.grownBy V0 none := by rw [hV0]; exact grown_drew (grown_refl w4 none)
  have HV0 := Lib.hid hV0.symm
  clear hV0
  simp only [Act.put]
  go_cut [10] (fun s10 wx => ∃ X, s10 = .pointer (some ⟨X, 0, none⟩) ∧ w4.grownBy wx none ∧ w4.heap.size ≤ X ∧ Holds wx X 41 .u64 2 (wd X2))
  case first =>
    refine wp_region_held (S := fun W => V0.grownBy W (none)) (by kernel_rfl) ?_
    change wpAnyH _ _ _ _ _ 9 #[false, false, false, false, false, false, false, false, false] _ (World.drew _)
    rw [HV0.out]
    have hS0 : V0.grownBy V0 (none) := grown_refl V0 _
    refine wpAnyH_takeD (some 15) (i := 0) (v := .agg #[.int .u64 0, .int .u64 0]) rfl rfl (by kernel_rfl) (by kernel_rfl) (by kernel_rfl) (fun _ _ _ h => h) (Or.inl ⟨rfl, fun W _ => by go_simp⟩) hS0 ?_
    simp only [Act.put, List.setIfInBounds_toArray, List.set_cons_succ, List.set_cons_zero]
    refine wpAnyH_takeD (some 16) (i := 1) (v := .agg (cellsOf .u64 2 (wd hP))) rfl rfl (by kernel_rfl) (by kernel_rfl) (by kernel_rfl) (fun _ _ _ h => h) (Or.inl ⟨rfl, fun W hW => run_two ((hH4.grown hv0 (by simp)).grown hW (by simp)) rfl rfl⟩) hS0 ?_
    simp only [Act.put, List.setIfInBounds_toArray, List.set_cons_succ, List.set_cons_zero]
    refine wpAnyH_takeD (some 17) (i := 2) (v := .slice aa na ca) rfl rfl (by kernel_rfl) (by kernel_rfl) (by kernel_rfl) (fun _ _ _ h => h) (Or.inl ⟨rfl, fun _ _ => rfl⟩) hS0 ?_
    simp only [Act.put, List.setIfInBounds_toArray, List.set_cons_succ, List.set_cons_zero]
    refine wpAnyH_takeD (some 19) (i := 4) (v := .agg (cellsOf .u64 2 (wd hP))) rfl rfl (by kernel_rfl) (by kernel_rfl) (by kernel_rfl) (fun _ _ _ h => h) (Or.inl ⟨rfl, fun W hW => run_two ((hH4.grown hv0 (by simp)).grown hW (by simp)) rfl rfl⟩) hS0 ?_
    simp only [Act.put, List.setIfInBounds_toArray, List.set_cons_succ, List.set_cons_zero]
    refine wpAnyH_takeD (some 20) (i := 5) (v := .slice ta nt ct) rfl rfl (by kernel_rfl) (by kernel_rfl) (by kernel_rfl) (fun _ _ _ h => h) (Or.inl ⟨rfl, fun _ _ => rfl⟩) hS0 ?_
    simp only [Act.put, List.setIfInBounds_toArray, List.set_cons_succ, List.set_cons_zero]
    refine wpAnyH_both (i := 3) (j := 7) (by kernel_rfl) ?_ ?_
    · refine (op_call (some 18) 13 #[.agg #[.int .u64 0, .int .u64 0], .agg (cellsOf .u64 2 (wd hP)), .slice aa na ca] (.agg (cellsOf .u64 2 (wd X1))) rfl rfl rfl (exec_fn3 _ _ _ _ _ _ _ rfl rfl rfl rfl) gfold_enters (HF0.out V0 (grown_trans hg4 (grown_trans hv0 hS0))) hS0 ?_)
      intro V1 gg1 hS1
      simp only [Act.put, List.setIfInBounds_toArray, List.set_cons_succ, List.set_cons_zero]
      refine wpAnyH_both (i := 6) (j := 7) (by kernel_rfl) ?_ ?_
      · refine (op_call (some 21) 13 #[.agg (cellsOf .u64 2 (wd X1)), .agg (cellsOf .u64 2 (wd hP)), .slice ta nt ct] (.agg (cellsOf .u64 2 (wd X2))) rfl rfl rfl (exec_fn3 _ _ _ _ _ _ _ rfl rfl rfl rfl) gfold_enters (HF1.out V1 (grown_trans hg4 (grown_trans hv0 hS1))) hS1 ?_)
        intro V2 gg2 hS2
        simp only [Act.put, List.setIfInBounds_toArray, List.set_cons_succ, List.set_cons_zero]
        refine wpAnyH_one (i := 7) (by kernel_rfl) (op_alloc (some 10) rfl rfl rfl (run_newtwo rfl) hS2 ?_)
        intro V3 gg3 hS3 hX
        have hS_X := hS2.size
        simp only [Act.put, List.setIfInBounds_toArray, List.set_cons_succ, List.set_cons_zero]
        refine wpAnyH_one (i := 8) (by kernel_rfl) (op_store 41 10 21 (V2.heap.size) (cellsOf .u64 2 (wd X2)) rfl rfl rfl rfl rfl rfl 41 _ (hX).block (by rw [cellsOf_size]; kernel_rfl) (by rw [cellsOf_size, cellsOf_size]) (cellsOf_all _ _ _) (grown_setRow_new hS3 _ _ (Or.inl hS_X)) ?_)
        simp only [List.setIfInBounds_toArray, List.set_cons_succ, List.set_cons_zero]
        refine wpAnyH_done (by kernel_rfl) ?_ _
        go_wp2_with fail
        go_meet
        case rel => exact ⟨_, rfl, grown_setRow_new (grown_trans hv0 hS3) _ _ (Or.inl (Nat.le_trans hv0.size hS_X)), Nat.le_trans hv0.size hS_X, (hX).setRow .u64 2 (wd X2)⟩
      · refine (op_alloc (some 10) rfl rfl rfl (run_newtwo rfl) hS1 ?_)
        intro V2 gg2 hS2 hX
        have hS_X := hS1.size
        simp only [Act.put, List.setIfInBounds_toArray, List.set_cons_succ, List.set_cons_zero]
        refine wpAnyH_one (i := 6) (by kernel_rfl) (op_call (some 21) 13 #[.agg (cellsOf .u64 2 (wd X1)), .agg (cellsOf .u64 2 (wd hP)), .slice ta nt ct] (.agg (cellsOf .u64 2 (wd X2))) rfl rfl rfl (exec_fn3 _ _ _ _ _ _ _ rfl rfl rfl rfl) gfold_enters (HF1.out V2 (grown_trans hg4 (grown_trans hv0 hS2))) hS2 ?_)
        intro V3 gg3 hS3
        simp only [Act.put, List.setIfInBounds_toArray, List.set_cons_succ, List.set_cons_zero]
        have hX_3 := hX.grown gg3 (by simp)
        refine wpAnyH_one (i := 8) (by kernel_rfl) (op_store 41 10 21 (V1.heap.size) (cellsOf .u64 2 (wd X2)) rfl rfl rfl rfl rfl rfl 41 _ (hX_3).block (by rw [cellsOf_size]; kernel_rfl) (by rw [cellsOf_size, cellsOf_size]) (cellsOf_all _ _ _) (grown_setRow_new hS3 _ _ (Or.inl hS_X)) ?_)
        simp only [List.setIfInBounds_toArray, List.set_cons_succ, List.set_cons_zero]
        refine wpAnyH_done (by kernel_rfl) ?_ _
        go_wp2_with fail
        go_meet
        case rel => exact ⟨_, rfl, grown_setRow_new (grown_trans hv0 hS3) _ _ (Or.inl (Nat.le_trans hv0.size hS_X)), Nat.le_trans hv0.size hS_X, (hX_3).setRow .u64 2 (wd X2)⟩
    · refine (op_alloc (some 10) rfl rfl rfl (run_newtwo rfl) hS0 ?_)
      intro V1 gg1 hS1 hX
      have hS_X := hS0.size
      simp only [Act.put, List.setIfInBounds_toArray, List.set_cons_succ, List.set_cons_zero]
      refine wpAnyH_one (i := 3) (by kernel_rfl) (op_call (some 18) 13 #[.agg #[.int .u64 0, .int .u64 0], .agg (cellsOf .u64 2 (wd hP)), .slice aa na ca] (.agg (cellsOf .u64 2 (wd X1))) rfl rfl rfl (exec_fn3 _ _ _ _ _ _ _ rfl rfl rfl rfl) gfold_enters (HF0.out V1 (grown_trans hg4 (grown_trans hv0 hS1))) hS1 ?_)
      intro V2 gg2 hS2
      simp only [Act.put, List.setIfInBounds_toArray, List.set_cons_succ, List.set_cons_zero]
      have hX_2 := hX.grown gg2 (by simp)
      refine wpAnyH_one (i := 6) (by kernel_rfl) (op_call (some 21) 13 #[.agg (cellsOf .u64 2 (wd X1)), .agg (cellsOf .u64 2 (wd hP)), .slice ta nt ct] (.agg (cellsOf .u64 2 (wd X2))) rfl rfl rfl (exec_fn3 _ _ _ _ _ _ _ rfl rfl rfl rfl) gfold_enters (HF1.out V2 (grown_trans hg4 (grown_trans hv0 hS2))) hS2 ?_)
      intro V3 gg3 hS3
      simp only [Act.put, List.setIfInBounds_toArray, List.set_cons_succ, List.set_cons_zero]
      have hX_3 := hX_2.grown gg3 (by simp)
      refine wpAnyH_one (i := 8) (by kernel_rfl) (op_store 41 10 21 (V0.heap.size) (cellsOf .u64 2 (wd X2)) rfl rfl rfl rfl rfl rfl 41 _ (hX_3).block (by rw [cellsOf_size]; kernel_rfl) (by rw [cellsOf_size, cellsOf_size]) (cellsOf_all _ _ _) (grown_setRow_new hS3 _ _ (Or.inl hS_X)) ?_)
      simp only [List.setIfInBounds_toArray, List.set_cons_succ, List.set_cons_zero]
      refine wpAnyH_done (by kernel_rfl) ?_ _
      go_wp2_with fail
      go_meet
      case rel => exact ⟨_, rfl, grown_setRow_new (grown_trans hv0 hS3) _ _ (Or.inl (Nat.le_trans hv0.size hS_X)), Nat.le_trans hv0.size hS_X, (hX_3).setRow .u64 2 (wd X2)⟩
  case rest =>
    obtain ⟨X, rfl, g5, hX5, hXH⟩ := hcut
    clear HV0 hv0
    have hg5 := grown_trans hg4 g5
    have hF5 := hF4.grown g5 (by simp)
    have hO5 := hO4.grown g5 (by simp)
    have hH5 := hH4.grown g5 (by simp)
    have hXl := hXH.lt
    have hXw : w.heap.size ≤ X := by omega
    have hX0 : w.heap.size ≠ X := by omega
    have hX1 : w.heap.size + 1 ≠ X := by omega
    have hX9 : b9 ≠ X := by omega
    clear hF4 hO4 hH4 hl4 hg4 g5 hX5
    go_upto_region 3 with fail
    obtain ⟨V0, hV0⟩ : ∃ V0, V0 = wc.drew := ⟨_, rfl⟩
    have hv0 : wc.grownBy V0 none := by rw [hV0]; exact grown_drew (grown_refl wc none)
    have HV0 := Lib.hid hV0.symm
    have hY := hXH.grown hv0 (by simp)
    have hFv := hF5.grown hv0 (by simp)
    have hOv := hO5.grown hv0 (by simp)
    have hHv := hH5.grown hv0 (by simp)
    have hgv := grown_trans hg5 hv0
    clear hV0
    go_cut [10] (fun s10 wx => s10 = .pointer (some ⟨X, 0, none⟩) ∧ w.grownBy wx none ∧ Holds wx X 41 .u64 2 (wd X3) ∧ Holds wx w.heap.size 24 .u8 16 f ∧ Holds wx (w.heap.size + 1) 24 .u8 16 (fun _ => 0))
    case first =>
      refine wp_region_held (S := fun W => V0.grownBy W (some X)) (by kernel_rfl) ?_
      change wpAnyH _ _ _ _ _ 10 #[false, false, false, false, false, false, false, false, false, false] _ (World.drew _)
      rw [HV0.out]
      have hS0 : V0.grownBy V0 (some X) := grown_refl V0 _
      refine wpAnyH_takeD (some 23) (i := 1) (v := .slice aa na ca) rfl rfl (by kernel_rfl) (by kernel_rfl) (by kernel_rfl) (fun _ _ _ h => h) (Or.inl ⟨rfl, fun _ _ => rfl⟩) hS0 ?_
      simp only [Act.put, List.setIfInBounds_toArray, List.set_cons_succ, List.set_cons_zero]
      refine wpAnyH_takeD (some 25) (i := 3) (v := .slice ta nt ct) rfl rfl (by kernel_rfl) (by kernel_rfl) (by kernel_rfl) (fun _ _ _ h => h) (Or.inl ⟨rfl, fun _ _ => rfl⟩) hS0 ?_
      simp only [Act.put, List.setIfInBounds_toArray, List.set_cons_succ, List.set_cons_zero]
      refine wpAnyH_takeD (some 29) (i := 7) (v := .agg (cellsOf .u64 2 (wd hP))) rfl rfl (by kernel_rfl) (by kernel_rfl) (by kernel_rfl) (fun _ _ _ h => h) (Or.inl ⟨rfl, fun W hW => run_two (hHv.grown hW (by simpa using hX9)) rfl rfl⟩) hS0 ?_
      simp only [Act.put, List.setIfInBounds_toArray, List.set_cons_succ, List.set_cons_zero]
      refine wpAnyH_both (i := 0) (j := 2) (by kernel_rfl) ?_ ?_
      · refine (op_yield (some 22) (v := .agg (cellsOf .u64 2 (wd X2))) (w' := V0) rfl rfl rfl (run_two hY rfl rfl) hS0 ?_)
        simp only [Act.put, List.setIfInBounds_toArray, List.set_cons_succ, List.set_cons_zero]
        refine wpAnyH_one (i := 2) (by kernel_rfl) (op_call (some 24) 35 #[.slice aa na ca] (.int .u64 ((8 * na : Nat) : Int)) rfl rfl rfl (exec_fn1 _ _ _ rfl rfl) gbits_enters (HB.out _ _ _ V0 hna) hS0 ?_)
        intro V1 gg1 hS1
        simp only [Act.put, List.setIfInBounds_toArray, List.set_cons_succ, List.set_cons_zero]
        have hY_1 := hY.grown gg1 (by simp)
        refine wpAnyH_one (i := 4) (by kernel_rfl) (op_call (some 26) 35 #[.slice ta nt ct] (.int .u64 ((8 * nt : Nat) : Int)) rfl rfl rfl (exec_fn1 _ _ _ rfl rfl) gbits_enters (HB.out _ _ _ V1 hnt) hS1 ?_)
        intro V2 gg2 hS2
        simp only [Act.put, List.setIfInBounds_toArray, List.set_cons_succ, List.set_cons_zero]
        have hY_2 := hY_1.grown gg2 (by simp)
        refine wpAnyH_takeD (some 27) (i := 5) (v := .agg (cellsOf .u64 2 (wd (pl (lnF na nt))))) rfl rfl (by kernel_rfl) (by kernel_rfl) (by kernel_rfl) (fun _ _ _ h => h) (Or.inl ⟨rfl, fun W _ => by rw [HL.out]; go_simp⟩) hS2 ?_
        simp only [Act.put, List.setIfInBounds_toArray, List.set_cons_succ, List.set_cons_zero]
        refine wpAnyH_one (i := 6) (by kernel_rfl) (op_call (some 28) 27 #[.agg (cellsOf .u64 2 (wd X2)), .agg (cellsOf .u64 2 (wd (pl (lnF na nt))))] (.agg (cellsOf .u64 2 (wd (X2 ^^^ pl (lnF na nt))))) rfl rfl rfl (exec_fn2 _ _ _ _ _ rfl rfl rfl) gplus_enters (gplus_any _ _ V2) hS2 ?_)
        intro V3 gg3 hS3
        simp only [Act.put, List.setIfInBounds_toArray, List.set_cons_succ, List.set_cons_zero]
        have hY_3 := hY_2.grown gg3 (by simp)
        refine wpAnyH_one (i := 8) (by kernel_rfl) (op_call (some 30) 28 #[.agg (cellsOf .u64 2 (wd (X2 ^^^ pl (lnF na nt)))), .agg (cellsOf .u64 2 (wd hP))] (.agg (cellsOf .u64 2 (wd X3))) rfl rfl rfl (exec_fn2 _ _ _ _ _ rfl rfl rfl) gtimes_enters (HM.out V3) hS3 ?_)
        intro V4 gg4 hS4
        simp only [Act.put, List.setIfInBounds_toArray, List.set_cons_succ, List.set_cons_zero]
        have hY_4 := hY_3.grown gg4 (by simp)
        refine wpAnyH_one (i := 9) (by kernel_rfl) (op_store 41 10 30 (X) (cellsOf .u64 2 (wd X3)) rfl rfl rfl rfl rfl rfl 41 _ (hY_4).block (by rw [cellsOf_size]; kernel_rfl) (by rw [cellsOf_size, cellsOf_size]) (cellsOf_all _ _ _) (grown_setRow_new hS4 _ _ (Or.inr rfl)) ?_)
        simp only [List.setIfInBounds_toArray, List.set_cons_succ, List.set_cons_zero]
        refine wpAnyH_done (by kernel_rfl) ?_ _
        go_wp2_with fail
        go_meet
        case rel => exact ⟨rfl, grown_setRow_new (grown_new hgv hS4 hXw) _ _ (Or.inl hXw), (hY_4).setRow .u64 2 (wd X3), (hFv.grown hS4 (by simpa using hX0)).of_block (setRow_other _ X _ _ hX0), (hOv.grown hS4 (by simpa using hX1)).of_block (setRow_other _ X _ _ hX1)⟩
      · refine (op_call (some 24) 35 #[.slice aa na ca] (.int .u64 ((8 * na : Nat) : Int)) rfl rfl rfl (exec_fn1 _ _ _ rfl rfl) gbits_enters (HB.out _ _ _ V0 hna) hS0 ?_)
        intro V1 gg1 hS1
        simp only [Act.put, List.setIfInBounds_toArray, List.set_cons_succ, List.set_cons_zero]
        have hY_1 := hY.grown gg1 (by simp)
        refine wpAnyH_both (i := 0) (j := 4) (by kernel_rfl) ?_ ?_
        · refine (op_yield (some 22) (v := .agg (cellsOf .u64 2 (wd X2))) (w' := V1) rfl rfl rfl (run_two hY_1 rfl rfl) hS1 ?_)
          simp only [Act.put, List.setIfInBounds_toArray, List.set_cons_succ, List.set_cons_zero]
          refine wpAnyH_one (i := 4) (by kernel_rfl) (op_call (some 26) 35 #[.slice ta nt ct] (.int .u64 ((8 * nt : Nat) : Int)) rfl rfl rfl (exec_fn1 _ _ _ rfl rfl) gbits_enters (HB.out _ _ _ V1 hnt) hS1 ?_)
          intro V2 gg2 hS2
          simp only [Act.put, List.setIfInBounds_toArray, List.set_cons_succ, List.set_cons_zero]
          have hY_2 := hY_1.grown gg2 (by simp)
          refine wpAnyH_takeD (some 27) (i := 5) (v := .agg (cellsOf .u64 2 (wd (pl (lnF na nt))))) rfl rfl (by kernel_rfl) (by kernel_rfl) (by kernel_rfl) (fun _ _ _ h => h) (Or.inl ⟨rfl, fun W _ => by rw [HL.out]; go_simp⟩) hS2 ?_
          simp only [Act.put, List.setIfInBounds_toArray, List.set_cons_succ, List.set_cons_zero]
          refine wpAnyH_one (i := 6) (by kernel_rfl) (op_call (some 28) 27 #[.agg (cellsOf .u64 2 (wd X2)), .agg (cellsOf .u64 2 (wd (pl (lnF na nt))))] (.agg (cellsOf .u64 2 (wd (X2 ^^^ pl (lnF na nt))))) rfl rfl rfl (exec_fn2 _ _ _ _ _ rfl rfl rfl) gplus_enters (gplus_any _ _ V2) hS2 ?_)
          intro V3 gg3 hS3
          simp only [Act.put, List.setIfInBounds_toArray, List.set_cons_succ, List.set_cons_zero]
          have hY_3 := hY_2.grown gg3 (by simp)
          refine wpAnyH_one (i := 8) (by kernel_rfl) (op_call (some 30) 28 #[.agg (cellsOf .u64 2 (wd (X2 ^^^ pl (lnF na nt)))), .agg (cellsOf .u64 2 (wd hP))] (.agg (cellsOf .u64 2 (wd X3))) rfl rfl rfl (exec_fn2 _ _ _ _ _ rfl rfl rfl) gtimes_enters (HM.out V3) hS3 ?_)
          intro V4 gg4 hS4
          simp only [Act.put, List.setIfInBounds_toArray, List.set_cons_succ, List.set_cons_zero]
          have hY_4 := hY_3.grown gg4 (by simp)
          refine wpAnyH_one (i := 9) (by kernel_rfl) (op_store 41 10 30 (X) (cellsOf .u64 2 (wd X3)) rfl rfl rfl rfl rfl rfl 41 _ (hY_4).block (by rw [cellsOf_size]; kernel_rfl) (by rw [cellsOf_size, cellsOf_size]) (cellsOf_all _ _ _) (grown_setRow_new hS4 _ _ (Or.inr rfl)) ?_)
          simp only [List.setIfInBounds_toArray, List.set_cons_succ, List.set_cons_zero]
          refine wpAnyH_done (by kernel_rfl) ?_ _
          go_wp2_with fail
          go_meet
          case rel => exact ⟨rfl, grown_setRow_new (grown_new hgv hS4 hXw) _ _ (Or.inl hXw), (hY_4).setRow .u64 2 (wd X3), (hFv.grown hS4 (by simpa using hX0)).of_block (setRow_other _ X _ _ hX0), (hOv.grown hS4 (by simpa using hX1)).of_block (setRow_other _ X _ _ hX1)⟩
        · refine (op_call (some 26) 35 #[.slice ta nt ct] (.int .u64 ((8 * nt : Nat) : Int)) rfl rfl rfl (exec_fn1 _ _ _ rfl rfl) gbits_enters (HB.out _ _ _ V1 hnt) hS1 ?_)
          intro V2 gg2 hS2
          simp only [Act.put, List.setIfInBounds_toArray, List.set_cons_succ, List.set_cons_zero]
          have hY_2 := hY_1.grown gg2 (by simp)
          refine wpAnyH_takeD (some 27) (i := 5) (v := .agg (cellsOf .u64 2 (wd (pl (lnF na nt))))) rfl rfl (by kernel_rfl) (by kernel_rfl) (by kernel_rfl) (fun _ _ _ h => h) (Or.inl ⟨rfl, fun W _ => by rw [HL.out]; go_simp⟩) hS2 ?_
          simp only [Act.put, List.setIfInBounds_toArray, List.set_cons_succ, List.set_cons_zero]
          refine wpAnyH_one (i := 0) (by kernel_rfl) (op_yield (some 22) (v := .agg (cellsOf .u64 2 (wd X2))) (w' := V2) rfl rfl rfl (run_two hY_2 rfl rfl) hS2 ?_)
          simp only [Act.put, List.setIfInBounds_toArray, List.set_cons_succ, List.set_cons_zero]
          refine wpAnyH_one (i := 6) (by kernel_rfl) (op_call (some 28) 27 #[.agg (cellsOf .u64 2 (wd X2)), .agg (cellsOf .u64 2 (wd (pl (lnF na nt))))] (.agg (cellsOf .u64 2 (wd (X2 ^^^ pl (lnF na nt))))) rfl rfl rfl (exec_fn2 _ _ _ _ _ rfl rfl rfl) gplus_enters (gplus_any _ _ V2) hS2 ?_)
          intro V3 gg3 hS3
          simp only [Act.put, List.setIfInBounds_toArray, List.set_cons_succ, List.set_cons_zero]
          have hY_3 := hY_2.grown gg3 (by simp)
          refine wpAnyH_one (i := 8) (by kernel_rfl) (op_call (some 30) 28 #[.agg (cellsOf .u64 2 (wd (X2 ^^^ pl (lnF na nt)))), .agg (cellsOf .u64 2 (wd hP))] (.agg (cellsOf .u64 2 (wd X3))) rfl rfl rfl (exec_fn2 _ _ _ _ _ rfl rfl rfl) gtimes_enters (HM.out V3) hS3 ?_)
          intro V4 gg4 hS4
          simp only [Act.put, List.setIfInBounds_toArray, List.set_cons_succ, List.set_cons_zero]
          have hY_4 := hY_3.grown gg4 (by simp)
          refine wpAnyH_one (i := 9) (by kernel_rfl) (op_store 41 10 30 (X) (cellsOf .u64 2 (wd X3)) rfl rfl rfl rfl rfl rfl 41 _ (hY_4).block (by rw [cellsOf_size]; kernel_rfl) (by rw [cellsOf_size, cellsOf_size]) (cellsOf_all _ _ _) (grown_setRow_new hS4 _ _ (Or.inr rfl)) ?_)
          simp only [List.setIfInBounds_toArray, List.set_cons_succ, List.set_cons_zero]
          refine wpAnyH_done (by kernel_rfl) ?_ _
          go_wp2_with fail
          go_meet
          case rel => exact ⟨rfl, grown_setRow_new (grown_new hgv hS4 hXw) _ _ (Or.inl hXw), (hY_4).setRow .u64 2 (wd X3), (hFv.grown hS4 (by simpa using hX0)).of_block (setRow_other _ X _ _ hX0), (hOv.grown hS4 (by simpa using hX1)).of_block (setRow_other _ X _ _ hX1)⟩
    case rest =>
      obtain ⟨rfl, hg6, hX6, hF6, hO6⟩ := hcut
      clear HV0 hv0 hY hFv hOv hHv hgv hF5 hO5 hH5 hg5 hXH hXl
      go_upto_region 4 with fail
      obtain ⟨V0, hV0⟩ : ∃ V0, V0 = wc.drew := ⟨_, rfl⟩
      have hv0 : wc.grownBy V0 none := by rw [hV0]; exact grown_drew (grown_refl wc none)
      have HV0 := Lib.hid hV0.symm
      have hXv := hX6.grown hv0 (by simp)
      have hFv := hF6.grown hv0 (by simp)
      have hOv := hO6.grown hv0 (by simp)
      have hgv := grown_trans hg6 hv0
      have hXs : X ≠ w.heap.size + 1 := fun e => hX1 e.symm
      clear hV0 hX6 hF6 hO6 hg6
      refine wp_region_held (S := fun W => V0.grownBy W (some (w.heap.size + 1))) (by kernel_rfl) ?_
      change wpAnyH _ _ _ _ _ 8 #[false, false, false, false, false, false, false, false] _ (World.drew _)
      rw [HV0.out]
      have hS0 : V0.grownBy V0 (some (w.heap.size + 1)) := grown_refl V0 _
      refine wpAnyH_takeD (some 31) (i := 0) (v := .agg (cellsOf .u64 2 (wd X3))) rfl rfl (by kernel_rfl) (by kernel_rfl) (by kernel_rfl) (fun _ _ _ h => h) (Or.inl ⟨rfl, fun W hW => run_two (hXv.grown hW (by simpa using hXs)) rfl rfl⟩) hS0 ?_
      simp only [Act.put, List.setIfInBounds_toArray, List.set_cons_succ, List.set_cons_zero]
      refine wpAnyH_takeD (some 32) (i := 1) (v := .pointer (some ⟨m, 0, none⟩)) rfl rfl (by kernel_rfl) (by kernel_rfl) (by kernel_rfl) (fun _ _ _ h => h) (Or.inl ⟨rfl, fun _ _ => rfl⟩) hS0 ?_
      simp only [Act.put, List.setIfInBounds_toArray, List.set_cons_succ, List.set_cons_zero]
      refine wpAnyH_takeD (some 33) (i := 2) (v := .agg (cellsOf .u8 16 f)) rfl rfl (by kernel_rfl) (by kernel_rfl) (by kernel_rfl) (fun _ _ _ h => h) (Or.inl ⟨rfl, fun W hW => run_sixteen (hFv.grown hW (by simp)) rfl rfl⟩) hS0 ?_
      simp only [Act.put, List.setIfInBounds_toArray, List.set_cons_succ, List.set_cons_zero]
      refine wpAnyH_one (i := 3) (by kernel_rfl) (op_call (some 34) 34 #[.pointer (some ⟨m, 0, none⟩), .agg (cellsOf .u8 16 f)] (.agg (cellsOf .u8 16 S1)) rfl rfl rfl (exec_fn2 _ _ _ _ _ rfl rfl rfl) seal_enters (HS1.out V0 none (grown_new hgv hS0 (by omega)) (by simp) (by simp)) hS0 ?_)
      intro V1 gg1 hS1
      simp only [Act.put, List.setIfInBounds_toArray, List.set_cons_succ, List.set_cons_zero]
      have hOv_1 := hOv.grown gg1 (by simp)
      refine wpAnyH_one (i := 4) (by kernel_rfl) (op_call (some 35) 14 #[.agg (cellsOf .u8 16 S1)] (.agg (cellsOf .u64 2 (wd (pl S1)))) rfl rfl rfl (exec_fn1 _ _ _ rfl rfl) gtaken_enters (HT1.out V1) hS1 ?_)
      intro V2 gg2 hS2
      simp only [Act.put, List.setIfInBounds_toArray, List.set_cons_succ, List.set_cons_zero]
      have hOv_2 := hOv_1.grown gg2 (by simp)
      refine wpAnyH_one (i := 5) (by kernel_rfl) (op_call (some 36) 27 #[.agg (cellsOf .u64 2 (wd X3)), .agg (cellsOf .u64 2 (wd (pl S1)))] (.agg (cellsOf .u64 2 (wd (X3 ^^^ pl S1)))) rfl rfl rfl (exec_fn2 _ _ _ _ _ rfl rfl rfl) gplus_enters (gplus_any _ _ V2) hS2 ?_)
      intro V3 gg3 hS3
      simp only [Act.put, List.setIfInBounds_toArray, List.set_cons_succ, List.set_cons_zero]
      have hOv_3 := hOv_2.grown gg3 (by simp)
      refine wpAnyH_one (i := 6) (by kernel_rfl) (op_call (some 37) 15 #[.agg (cellsOf .u64 2 (wd (X3 ^^^ pl S1)))] (.agg (cellsOf .u8 16 z)) rfl rfl rfl (exec_fn1 _ _ _ rfl rfl) gput_enters (HP.out V3) hS3 ?_)
      intro V4 gg4 hS4
      simp only [Act.put, List.setIfInBounds_toArray, List.set_cons_succ, List.set_cons_zero]
      have hOv_4 := hOv_3.grown gg4 (by simp)
      refine wpAnyH_one (i := 7) (by kernel_rfl) (op_store 24 8 37 (w.heap.size + 1) (cellsOf .u8 16 z) rfl rfl rfl rfl rfl rfl 24 _ (hOv_4).block (by rw [cellsOf_size]; kernel_rfl) (by rw [cellsOf_size, cellsOf_size]) (cellsOf_all _ _ _) (grown_setRow_new hS4 _ _ (Or.inr rfl)) ?_)
      simp only [List.setIfInBounds_toArray, List.set_cons_succ, List.set_cons_zero]
      refine wpAnyH_done (by kernel_rfl) ?_ _
      have hO8 := (hOv_4).setRow .u8 16 z
      have hg8 := grown_setRow_new (grown_new hgv hS4 (by omega)) (w.heap.size + 1) (cellsOf .u8 16 z) (Or.inl (by omega))
      go_wp2_with fail
      exact bodyPost_ret (v := .agg (cellsOf .u8 16 z)) (results_cell_row rfl _ _ (w.heap.size + 1) 24 _ (0, 0) (.array 16 5) rfl hO8.block (by kernel_rfl) rfl (by rw [cellsOf_size]; kernel_rfl)) rfl ⟨rfl, hg8⟩
end Go.Proofs.YtlfopcigbgfnlaaDoor
namespace Go.Proofs.YtlfopcigbgfnlaaDoor
open Go.RowKit Go.Shelf

set_option maxRecDepth 100000
set_option maxHeartbeats 2000000

/-- What is sealed. -/
def sealF (R : Nat) (W nf fa : Nat → Nat) (na : Nat) (ft : Nat → Nat) (nt : Nat) : Nat → Nat :=
  cat nt (turnF R W (nextF (firstF nf)) ft) (tagF R W (firstF nf) fa na (turnF R W (nextF (firstF nf)) ft) nt)

theorem gseal_err (n c na ca nt ct : Nat) (ka aa ta : Option Addr) (nf : Nat → Nat) (w : World) (h1 : n ≠ 16) (h2 : n ≠ 32) :
    Calls Tryd.prog 7 #[.slice ka n c, .agg (cellsOf .u8 12 nf), .slice aa na ca, .slice ta nt ct] w fun e w' => e = .returned (.tuple #[.slice none 0 0, .int .i64 2]) ∧ w.grownBy w' none := by
  have HN : Hid (∀ U, Calls Tryd.prog 16 #[.slice ka n c] U fun e w' => e = .returned (.tuple #[.pointer none, .int .i64 2]) ∧ U = w') := Lib.hid (fun U => new_err n c ka U h1 h2)
  clear h1 h2
  go_enter Tryd.func7, Tryd.ntmps7
  go_wp2_with fail
  go_at_call 16
  with_reducible refine (HN.out _).mono ?_
  rintro e w2 ⟨rfl, rfl⟩
  go_wp2_with fail
  go_ret2
  exact ⟨rfl, World.grownBy_alloc w _ none⟩

theorem gseal_any (N n c na ca nt ct : Nat) (ka aa ta : Option Addr) (fk nf fa ft : Nat → Nat) (w : World) (hL : LaidS w 0) (hsz : 0 < w.heap.size) (hN : N = 4 ∨ N = 8) (hLN : n = 4 * N)
    (hR : Rd w w.heap.size ka n fk) (hk : ∀ i, fk i < 256) (hnf : ∀ i, nf i < 256) (hA : Rd w w.heap.size aa na fa) (hfa : ∀ i, fa i < 256) (hca : na ≤ ca) (hna : na ≤ 2 ^ 39) (hT : Rd w w.heap.size ta nt ft) (hft : ∀ i, ft i < 256) (hct : nt ≤ ct) (hnt : nt ≤ 2 ^ 39) :
    Calls Tryd.prog 7 #[.slice ka n c, .agg (cellsOf .u8 12 nf), .slice aa na ca, .slice ta nt ct] w (Turned w (nt + 16) (sealF (N + 6) (keyW N fk) nf fa na ft nt)) := by
  have hB : Holds (w.alloc (.cells (cellsOf .u8 12 nf) 23)) w.heap.size 23 .u8 12 nf := holds_alloc w 23 .u8 12 nf _ rfl
  have g1 := World.grownBy_alloc w (.cells (cellsOf .u8 12 nf) 23) none
  have n1 := new_ok N n c ka fk _ (hL.grown g1 (by simp)) hN hLN (hR.up (Nat.le_refl _) g1) hk (by have := g1.size; omega)
  have N1 := Lib.hid n1
  have hN6 : N + 6 ≤ 14 := by omega
  have hN1 : 1 ≤ N + 6 := by omega
  have hkw : ∀ i, keyW N fk i < 256 := keyW_lt N fk hk
  obtain ⟨W, hW⟩ : ∃ W, W = keyW N fk := ⟨_, rfl⟩
  obtain ⟨F1, hF1⟩ : ∃ F, F = firstF nf := ⟨_, rfl⟩
  have hF1l : ∀ i, F1 i < 256 := fun i => by rw [hF1]; exact firstF_lt nf hnf i
  have HFi : Hid (∀ U, Calls Tryd.prog 17 #[.agg (cellsOf .u8 12 nf)] U fun e w' => e = .returned (.agg (cellsOf .u8 16 F1)) ∧ U.grownBy w' none) := Lib.hid (fun U => by
    rw [hF1]; exact first_any nf U)
  obtain ⟨F2, hF2⟩ : ∃ F, F = nextF F1 := ⟨_, rfl⟩
  have HNx : Hid (∀ U, Calls Tryd.prog 19 #[.agg (cellsOf .u8 16 F1)] U fun e w' => e = .returned (.agg (cellsOf .u8 16 F2)) ∧ U.grownBy w' none) := Lib.hid (fun U => by
    rw [hF2]; exact next_any F1 U hF1l)
  have hF2l : ∀ i, F2 i < 256 := fun i => by rw [hF2]; exact nextF_lt F1 hF1l i
  rw [← hW] at hkw
  obtain ⟨G, hG⟩ : ∃ G, G = turnF (N + 6) W F2 ft := ⟨_, rfl⟩
  have hGl : ∀ i, G i < 256 := fun i => by rw [hG]; exact turnF_lt _ _ _ _ hkw hF2l hft i
  obtain ⟨Z, hZ⟩ : ∃ Z, Z = tagF (N + 6) W F1 fa na G nt := ⟨_, rfl⟩
  have hfin : sealF (N + 6) (keyW N fk) nf fa na ft nt = cat nt G Z := by rw [hZ, hG, hF2, hF1, hW]; rfl
  have Hfin := Lib.hid hfin
  have HW := Lib.hid hW
  have HG := Lib.hid hG
  have HZ := Lib.hid hZ
  have HB := Lib.hid hB
  have HL := Lib.hid hL
  have HA := Lib.hid hA
  have HT := Lib.hid hT
  clear n1 hfin hW hG hZ hF1 hF2 hB hL hA hT hR hN hLN
  go_enter Tryd.func7, Tryd.ntmps7
  go_wp2_with fail
  generalize w.alloc (.cells (cellsOf .u8 12 nf) 23) = w1 at *
  go_at_call 16
  with_reducible refine (N1.out).mono ?_
  rintro e w2 ⟨m, C, rfl, hm, g2, hC, hc⟩
  rw [← HW.out] at hc
  have g02 := grown_trans g1 g2
  have hB2 := (HB.out.grown g2 (by simp)).block
  go_wp2_with (refine wpList_load_row rfl 23 (.tmp 5) rfl w.heap.size rfl 23 _ (0, 0) (.array 12 5) hB2 (by kernel_rfl) rfl (by rw [cellsOf_size]; kernel_rfl) ?_)
  go_at_call 17
  with_reducible refine (HFi.out _).mono ?_
  rintro e w3 ⟨rfl, g3⟩
  have hN0 : Holds (w3.alloc (.cells #[.int .u8 0, .int .u8 0, .int .u8 0, .int .u8 0, .int .u8 0, .int .u8 0, .int .u8 0, .int .u8 0, .int .u8 0, .int .u8 0, .int .u8 0, .int .u8 0, .int .u8 0, .int .u8 0, .int .u8 0, .int .u8 0] 24)) w3.heap.size 24 .u8 16 (fun _ => 0) := holds_alloc w3 _ .u8 16 _ _ zero16
  have hbn := hN0.block
  have hF3 := hN0.setRow .u8 16 F1
  have g34 := grown_setRow_new (World.grownBy_alloc w3 (.cells #[.int .u8 0, .int .u8 0, .int .u8 0, .int .u8 0, .int .u8 0, .int .u8 0, .int .u8 0, .int .u8 0, .int .u8 0, .int .u8 0, .int .u8 0, .int .u8 0, .int .u8 0, .int .u8 0, .int .u8 0, .int .u8 0] 24) none) w3.heap.size (cellsOf .u8 16 F1) (Or.inl (Nat.le_refl _))
  have g04 := grown_trans g02 (grown_trans g3 g34)
  have hC4 := (hC.grown g3 (by simp)).grown g34 (by simp)
  obtain ⟨w4, hw4⟩ : ∃ w4, w4 = (w3.alloc (.cells #[.int .u8 0, .int .u8 0, .int .u8 0, .int .u8 0, .int .u8 0, .int .u8 0, .int .u8 0, .int .u8 0, .int .u8 0, .int .u8 0, .int .u8 0, .int .u8 0, .int .u8 0, .int .u8 0, .int .u8 0, .int .u8 0] 24)).setRow w3.heap.size (cellsOf .u8 16 F1) := ⟨_, rfl⟩
  rw [← hw4] at hF3 g04 hC4
  have hb4 := hF3.block
  have HW4 := Lib.hid hw4
  clear hC hN0 hw4 g34 g3 g2 hm N1
  go_upto_region 5 with (refine wpList_store_row rfl 24 (.tmp 12) (.tmp 24) rfl w3.heap.size _ rfl rfl 24 _ hbn (by rw [cellsOf_size]; kernel_rfl) rfl (cellsOf_all _ _ _) ?_)
  rw [← HW4.out]
  simp only [Act.put]
  generalize w3.heap.size = b at *
  clear hbn HW4
  go_wp2_with (refine wpList_load_row rfl 24 (.tmp 12) rfl b rfl 24 _ (0, 0) (.array 16 5) hb4 (by kernel_rfl) rfl (by rw [cellsOf_size]; kernel_rfl) ?_)
  go_at_call 19
  with_reducible refine (HNx.out _).mono ?_
  rintro e w5 ⟨rfl, g5⟩
  have g05 := grown_trans g04 g5
  have hT5 := texts1 w5 ta nt ct ft w5.heap.size rfl hct (HT.out.up (Nat.le_refl _) g05)
  have g56 := World.grownBy_alloc w5 (.cells #[.slice ta nt ct] 22) none
  have g06 := grown_trans g05 g56
  have hC6 := (hC4.grown g5 (by simp)).grown g56 (by simp)
  have hF6 := (hF3.grown g5 (by simp)).grown g56 (by simp)
  have hml := World.block_lt_of_cell? _ _ hC6.rounds
  have hTn := turn_any m (N + 6) 1 1 (some ⟨w5.heap.size, 0, none⟩) C W F2 (fun j => if j = 0 then 0 else nt) ft _ hkw hF2l hft hN1 hN6 hc hC6 (HL.out.grown g06 (by simp)) hml (by have := g06.size; omega) hT5 (by decide) (by show nt ≤ 2 ^ 40; omega)
  rw [← HG.out] at hTn
  have HTn := Lib.hid hTn
  clear hTn hT5 hC4 hF3 g5 g05 hb4
  go_wp2_with fail
  go_at_call 18
  with_reducible refine (HTn.out).mono ?_
  rintro e w7 ⟨v7, rfl, hv7, g7⟩
  replace hv7 : OwnN w7 (w5.alloc (.cells #[.slice ta nt ct] 22)).heap.size v7 nt G := hv7
  have g07 := grown_trans g06 g7
  have hC7 := hC6.grown g7 (by simp)
  have hF7 := hF6.grown g7 (by simp)
  have hb7 := hF7.block
  have hv7' := hv7.base g06.size
  obtain ⟨va, vc, hve, hvc, hRv⟩ := hv7.rd
  have hTg := gtag_any m (N + 6) na ca nt vc aa va C W F1 fa G w7 hkw hF1l hfa hGl hN1 hN6 hc hC7 (HL.out.grown g07 (by simp)) (HA.out.up (Nat.le_refl _) g07) hca (by omega) hRv hvc (by omega)
  rw [← HZ.out, ← hve] at hTg
  have HTg := Lib.hid hTg
  have Hv7 := Lib.hid hv7'
  clear hTg hC7 hC6 hF6 g7 g06 g56 hv7 hv7' hRv hve HTn
  go_wp2_with (refine wpList_load_row rfl 24 (.tmp 12) rfl b rfl 24 _ (0, 0) (.array 16 5) hb7 (by kernel_rfl) rfl (by rw [cellsOf_size]; kernel_rfl) ?_)
  go_at_call 20
  with_reducible refine (HTg.out).mono ?_
  rintro e w8 ⟨rfl, g8⟩
  have hN0 : Holds (w8.alloc (.cells #[.int .u8 0, .int .u8 0, .int .u8 0, .int .u8 0, .int .u8 0, .int .u8 0, .int .u8 0, .int .u8 0, .int .u8 0, .int .u8 0, .int .u8 0, .int .u8 0, .int .u8 0, .int .u8 0, .int .u8 0, .int .u8 0] 24)) w8.heap.size 24 .u8 16 (fun _ => 0) := holds_alloc w8 _ .u8 16 _ _ zero16
  have hbn := hN0.block
  have hF9 := hN0.setRow .u8 16 Z
  have g89 := grown_setRow_new (World.grownBy_alloc w8 (.cells #[.int .u8 0, .int .u8 0, .int .u8 0, .int .u8 0, .int .u8 0, .int .u8 0, .int .u8 0, .int .u8 0, .int .u8 0, .int .u8 0, .int .u8 0, .int .u8 0, .int .u8 0, .int .u8 0, .int .u8 0, .int .u8 0] 24) none) w8.heap.size (cellsOf .u8 16 Z) (Or.inl (Nat.le_refl _))
  have g79 := grown_trans g8 g89
  have g09 := grown_trans g07 g79
  have hv9 := Hv7.out.grown g79
  obtain ⟨w9, hw9⟩ : ∃ w9, w9 = (w8.alloc (.cells #[.int .u8 0, .int .u8 0, .int .u8 0, .int .u8 0, .int .u8 0, .int .u8 0, .int .u8 0, .int .u8 0, .int .u8 0, .int .u8 0, .int .u8 0, .int .u8 0, .int .u8 0, .int .u8 0, .int .u8 0, .int .u8 0] 24)).setRow w8.heap.size (cellsOf .u8 16 Z) := ⟨_, rfl⟩
  rw [← hw9] at hF9 g09 hv9
  have HW9 := Lib.hid hw9
  obtain ⟨v', w', hap, hown, hgr⟩ := app_N0 16 22 g09 hv9 (hF9.rd w9.heap.size hF9.lt 16 (Nat.le_refl _)) (by omega)
  have HAP := Lib.hid hap
  have Hown := Lib.hid hown
  have Hgr := Lib.hid hgr
  clear hap hown hgr hN0 hw9 g79 g89 g8 g07 g09 hv9 hF7 hb7
  go_upto_region 9 with (refine wpList_store_row rfl 24 (.tmp 14) (.tmp 41) rfl w8.heap.size _ rfl rfl 24 _ hbn (by rw [cellsOf_size]; kernel_rfl) rfl (cellsOf_all _ _ _) ?_)
  rw [← HW9.out]
  simp only [Act.put]
  generalize w8.heap.size = b14 at *
  clear hbn HW9
  go_wp2_with (at_builtin; refine wpList_append_run rfl (.tmp 42) (.tmp 43) 22 22 rfl _ (.slice (some ⟨b14, 0, none⟩) 16 16) _ _ rfl rfl HAP.out ?_)
  go_ret2
  exact ⟨v', rfl, by rw [Hfin.out]; exact Hown.out, Hgr.out⟩
end Go.Proofs.YtlfopcigbgfnlaaDoor
namespace Go.Proofs.YtlfopcigbgfnlaaDoor
open Go.RowKit

section
variable {o : Oper} {a : Act} {W : World} {ad : Option Addr} {len cap l : Nat}
theorem run_head (ad : Option Addr) (len cap l : Nat) (h1 : l ≤ cap) : ∀ w, (Instr.sliceAt 22 (.slice ad len cap) none (some (.int .i64 (l : Int))) none).run Tryd.prog w = .ok (.slice ad l cap) w := by
  have hT : Tryd.prog.underlying 22 = some (.slice 5) := by kernel_rfl
  have e2 : Tryd.prog.elem 22 = 5 := by simp [Program.elem, hT]
  have hT' : Tryd.prog.underlying 22 = some (.slice (Tryd.prog.elem 22)) := by rw [e2]; exact hT
  intro w
  have hE : (sizeOf 5).run Tryd.prog w = .ok 1 w := by kernel_rfl
  rw [run_sliceAt_slice w 22 _ _ _ _ hT', run_slice_h w 22 ad len cap hT' .i64 l (by omega) (by omega), e2, hE]
  cases ad <;> simp [Result.andThen, sliced, Addr.add]
theorem ex_head (t1 t2 : Tmp) (ho : o.op = .slice 22 (.tmp t1) none (some (.tmp t2)) none) (h1 : a.eval (.tmp t1) = .slice ad len cap) (h2 : a.eval (.tmp t2) = .int .i64 (l : Int)) (h : l ≤ cap) :
    (execOp a.eval o).run Tryd.prog W = .ok (.value (.slice ad l cap)) W := by
  have hr := run_head ad len cap l h W
  unfold execOp
  simp only [ho, h1, h2, Option.map_some, Option.map_none, Sem.run_bind, hr]
  rfl
theorem ex_rest {b p l' cap' : Nat} {ad' : Option Addr} (t1 t2 : Tmp) (ho : o.op = .slice 22 (.tmp t1) (some (.tmp t2)) none none) (h1 : a.eval (.tmp t1) = .slice (some ⟨b, p, none⟩) len cap) (h2 : a.eval (.tmp t2) = .int .i64 (l : Int))
    (hr : ∀ w, (Instr.sliceAt 22 (.slice (some ⟨b, p, none⟩) len cap) (some (.int .i64 (l : Int))) none none).run Tryd.prog w = .ok (.slice ad' l' cap') w) :
    (execOp a.eval o).run Tryd.prog W = .ok (.value (.slice ad' l' cap')) W := by
  have hr' := hr W
  unfold execOp
  simp only [ho, h1, h2, Option.map_some, Option.map_none, Sem.run_bind, hr']
  rfl
/-- The bytes behind the first l of those that can be read. -/
theorem rest_of {B : Nat} {g : Nat → Nat} (h : Rd W B ad len g) (hl : l < len) (hc : len ≤ cap) : ∃ b p, ad = some ⟨b, p, none⟩ ∧ ∃ ad', (∀ w, (Instr.sliceAt 22 (.slice ad len cap) (some (.int .i64 (l : Int))) none none).run Tryd.prog w = .ok (.slice ad' (len - l) (cap - l)) w) ∧ ∀ W', Rd W' B ad len g → Rd W' B ad' (len - l) (fun i => g (l + i)) := by
  obtain ⟨tb, p, rfl, htb, _⟩ := h.ex (by omega)
  obtain ⟨a2, ha2, ht1, _⟩ := run_rest (Q := Tryd.prog) (T := 22) (E := 5) (by kernel_rfl) (fun _ => by kernel_rfl) tb p len cap l (by omega) hc
  obtain rfl := ha2 hl
  refine ⟨tb, p, rfl, _, ht1, fun W' h' => ⟨fun _ => ⟨tb, p + l, rfl, htb, fun i hi => ?_⟩⟩⟩
  obtain ⟨tb', p', e, _, hc'⟩ := h'.ex (by omega)
  cases e
  rw [Nat.add_assoc]
  exact hc' (l + i) (by omega)
theorem Rd.head {B : Nat} {g : Nat → Nat} (h : Rd W B ad len g) (hl : l ≤ len) : Rd W B ad l g := ⟨fun h0 => by
  obtain ⟨tb, p, h1, h2, h3⟩ := h.ex (by omega)
  exact ⟨tb, p, h1, h2, fun i hi => h3 i (by omega)⟩⟩
theorem ex_headC (t1 : Tmp) (ho : o.op = .slice 22 (.tmp t1) none (some (.const (.int .i64 (l : Int)))) none) (h1 : a.eval (.tmp t1) = .slice ad len cap) (h : l ≤ cap) :
    (execOp a.eval o).run Tryd.prog W = .ok (.value (.slice ad l cap)) W := by
  have hr := run_head ad len cap l h W
  have hc : a.eval (.const (.int .i64 (l : Int))) = .int .i64 (l : Int) := rfl
  unfold execOp
  simp only [ho, h1, hc, Option.map_some, Option.map_none, Sem.run_bind, hr]
  rfl
theorem ex_restC {b p l' cap' : Nat} {ad' : Option Addr} (t1 : Tmp) (ho : o.op = .slice 22 (.tmp t1) (some (.const (.int .i64 (l : Int)))) none none) (h1 : a.eval (.tmp t1) = .slice (some ⟨b, p, none⟩) len cap)
    (hr : ∀ w, (Instr.sliceAt 22 (.slice (some ⟨b, p, none⟩) len cap) (some (.int .i64 (l : Int))) none none).run Tryd.prog w = .ok (.slice ad' l' cap') w) :
    (execOp a.eval o).run Tryd.prog W = .ok (.value (.slice ad' l' cap')) W := by
  have hr' := hr W
  have hc : a.eval (.const (.int .i64 (l : Int))) = .int .i64 (l : Int) := rfl
  unfold execOp
  simp only [ho, h1, hc, Option.map_some, Option.map_none, Sem.run_bind, hr']
  rfl
/-- All of an array. -/
theorem ex_all {B : Nat} (t : Tmp) (ho : o.op = .slice 24 (.tmp t) none none none) (h1 : a.eval (.tmp t) = .pointer (some ⟨B, 0, none⟩)) :
    (execOp a.eval o).run Tryd.prog W = .ok (.value (.slice (some ⟨B, 0, none⟩) 16 16)) W := by
  unfold execOp
  simp only [ho, h1]
  go_simp
end
end Go.Proofs.YtlfopcigbgfnlaaDoor
namespace Go.Proofs.YtlfopcigbgfnlaaDoor
open Go.RowKit Go.Shelf

set_option maxRecDepth 100000
set_option maxHeartbeats 2000000

theorem gtag_enters (args : Array Value) (w : World) : (callFunc 20 args).run Tryd.prog w = .ok (.enter 20 args) w := enters_of Tryd.func20 (by kernel_rfl) rfl args w
theorem same_enters (args : Array Value) (w : World) : (callFunc 21 args).run Tryd.prog w = .ok (.enter 21 args) w := enters_of Tryd.func21 (by kernel_rfl) rfl args w
theorem cnext_enters (args : Array Value) (w : World) : (callFunc 19 args).run Tryd.prog w = .ok (.enter 19 args) w := enters_of Tryd.func19 (by kernel_rfl) rfl args w
theorem cturn_enters (args : Array Value) (w : World) : (callFunc 18 args).run Tryd.prog w = .ok (.enter 18 args) w := enters_of Tryd.func18 (by kernel_rfl) rfl args w
/-- One text, in a slice of its own that lies in a block. -/
theorem texts_cell {w : World} {b n c : Nat} {a : Option Addr} {f : Nat → Nat} (h : CellIs w b (.slice a n c)) (hc : n ≤ c) (hr : Rd w w.heap.size a n f) :
    Texts w w.heap.size (some ⟨b, 0, none⟩) 1 (fun j => if j = 0 then 0 else n) f := by
  refine ⟨rfl, fun _ => ⟨b, 0, rfl, h.lt, fun j hj => ?_⟩⟩
  obtain rfl : j = 0 := by omega
  refine ⟨a, n, c, h.at_, hc, by simp, fun h0 => ?_⟩
  obtain ⟨tb, o, h1, h2, h3⟩ := hr.ex h0
  exact ⟨tb, o, h1, h2, fun j hj => by rw [h3 j hj]; simp⟩
theorem run_build1 {o : Oper} {a : Act} {W : World} {v : Value} (t : Tmp) (ho : o.op = .buildSlice 62 1 #[(0, .tmp t)]) (h1 : a.eval (.tmp t) = v) (hv : ∃ ad n c, v = .slice ad n c) :
    (execOp a.eval o).run Tryd.prog W = .ok (.value (.slice (some ⟨W.heap.size, 0, none⟩) 1 1)) (W.alloc (.cells #[v] 22)) := by
  obtain ⟨ad, n, c, rfl⟩ := hv
  have hv2 : a.tmps[t]?.getD undef = .slice ad n c := by simpa [Act.eval] using h1
  unfold execOp
  simp only [ho]
  go_simp

/-- Whether it is opened. -/
def openB (R : Nat) (W nf fa : Nat → Nat) (na : Nat) (ft : Nat → Nat) (nt : Nat) : Bool := decide (16 ≤ nt) && sameB 16 16 (tagF R W (firstF nf) fa na ft (nt - 16)) (fun i => ft (nt - 16 + i))
/-- What Open hands back. -/
structure Opened (w : World) (ok : Bool) (N : Nat) (G : Nat → Nat) (e : Ending) (w' : World) : Prop where
  gr : w.grownBy w' none
  bad : ok = false → e = .returned (.tuple #[.slice none 0 0, .int .i64 140])
  good : ok = true → ∃ v, e = .returned (.tuple #[v, .int .i64 0]) ∧ OwnN w' w.heap.size v N G

theorem gopen_err (n c na ca nt ct : Nat) (ka aa ta : Option Addr) (nf : Nat → Nat) (w : World) (h1 : n ≠ 16) (h2 : n ≠ 32) :
    Calls Tryd.prog 8 #[.slice ka n c, .agg (cellsOf .u8 12 nf), .slice aa na ca, .slice ta nt ct] w fun e w' => e = .returned (.tuple #[.slice none 0 0, .int .i64 2]) ∧ w.grownBy w' none := by
  have HN : Hid (∀ U, Calls Tryd.prog 16 #[.slice ka n c] U fun e w' => e = .returned (.tuple #[.pointer none, .int .i64 2]) ∧ U = w') := Lib.hid (fun U => new_err n c ka U h1 h2)
  clear h1 h2
  go_enter Tryd.func8, Tryd.ntmps8
  go_wp2_with fail
  go_at_call 16
  with_reducible refine (HN.out _).mono ?_
  rintro e w2 ⟨rfl, rfl⟩
  go_wp2_with fail
  go_ret2
  exact ⟨rfl, World.grownBy_alloc w _ none⟩

theorem gopen_any (N n c na ca nt ct : Nat) (ka aa ta : Option Addr) (fk nf fa ft : Nat → Nat) (w : World) (hL : LaidS w 0) (hsz : 0 < w.heap.size) (hN : N = 4 ∨ N = 8) (hLN : n = 4 * N)
    (hR : Rd w w.heap.size ka n fk) (hk : ∀ i, fk i < 256) (hnf : ∀ i, nf i < 256) (hA : Rd w w.heap.size aa na fa) (hfa : ∀ i, fa i < 256) (hca : na ≤ ca) (hna : na ≤ 2 ^ 39) (hT : Rd w w.heap.size ta nt ft) (hft : ∀ i, ft i < 256) (hct : nt ≤ ct) (hnt : nt ≤ 2 ^ 39) :
    Calls Tryd.prog 8 #[.slice ka n c, .agg (cellsOf .u8 12 nf), .slice aa na ca, .slice ta nt ct] w (Opened w (openB (N + 6) (keyW N fk) nf fa na ft nt) (nt - 16) (turnF (N + 6) (keyW N fk) (nextF (firstF nf)) ft)) := by
  have hB : Holds (w.alloc (.cells (cellsOf .u8 12 nf) 23)) w.heap.size 23 .u8 12 nf := holds_alloc w 23 .u8 12 nf _ rfl
  have g1 := World.grownBy_alloc w (.cells (cellsOf .u8 12 nf) 23) none
  have n1 := new_ok N n c ka fk _ (hL.grown g1 (by simp)) hN hLN (hR.up (Nat.le_refl _) g1) hk (by have := g1.size; omega)
  have N1 := Lib.hid n1
  have hN6 : N + 6 ≤ 14 := by omega
  have hN1 : 1 ≤ N + 6 := by omega
  have hkw : ∀ i, keyW N fk i < 256 := keyW_lt N fk hk
  obtain ⟨W, hW⟩ : ∃ W, W = keyW N fk := ⟨_, rfl⟩
  rw [← hW] at hkw ⊢
  have HW := Lib.hid hW
  have HB := Lib.hid hB
  have HL := Lib.hid hL
  have HA := Lib.hid hA
  have HT := Lib.hid hT
  clear n1 hW hB hL hA hT hR hN hLN
  by_cases h16 : 16 ≤ nt
  · have j0 : ¬ ((nt : Int) < 16) := by omega
    obtain ⟨l, hl⟩ : ∃ l, l = nt - 16 := ⟨_, rfl⟩
    have j1 : (nt : Int) - 16 = (l : Int) := by omega
    have j2 : IntKind.i64.wrap (l : Int) = (l : Int) := by rw [IntKind.wrap_i64]; omega
    have j3 : (nt : Int) ≤ 549755813888 := by omega
    obtain ⟨F1, hF1⟩ : ∃ F, F = firstF nf := ⟨_, rfl⟩
    have hF1l : ∀ i, F1 i < 256 := fun i => by rw [hF1]; exact firstF_lt nf hnf i
    have HFi : Hid (∀ U, Calls Tryd.prog 17 #[.agg (cellsOf .u8 12 nf)] U fun e w' => e = .returned (.agg (cellsOf .u8 16 F1)) ∧ U.grownBy w' none) := Lib.hid (fun U => by
      rw [hF1]; exact first_any nf U)
    obtain ⟨F2, hF2⟩ : ∃ F, F = nextF F1 := ⟨_, rfl⟩
    have HNx : Hid (∀ U, Calls Tryd.prog 19 #[.agg (cellsOf .u8 16 F1)] U fun e w' => e = .returned (.agg (cellsOf .u8 16 F2)) ∧ U.grownBy w' none) := Lib.hid (fun U => by
      rw [hF2]; exact next_any F1 U hF1l)
    have hF2l : ∀ i, F2 i < 256 := fun i => by rw [hF2]; exact nextF_lt F1 hF1l i
    obtain ⟨Z, hZ⟩ : ∃ Z, Z = tagF (N + 6) W F1 fa na ft l := ⟨_, rfl⟩
    have hZl : ∀ i, Z i < 256 := fun i => by rw [hZ]; exact tagF_lt _ _ _ _ _ _ _ _
    have hob : openB (N + 6) W nf fa na ft nt = sameB 16 16 Z (fun i => ft (l + i)) := by
      unfold openB
      rw [← hl, ← hF1, ← hZ, decide_eq_true h16, Bool.true_and]
    obtain ⟨bb, hbb⟩ : ∃ b, b = sameB 16 16 Z (fun i => ft (l + i)) := ⟨_, rfl⟩
    rw [hob, ← hbb, ← hl, ← hF1, ← hF2]
    obtain ⟨G, hG⟩ : ∃ G, G = turnF (N + 6) W F2 ft := ⟨_, rfl⟩
    rw [← hG]
    obtain ⟨tb, p, rfl, ta2, hrest, hRd2⟩ := rest_of (len := nt) (cap := ct) (l := l) HT.out (by omega) hct
    have e16 : nt - l = 16 := by omega
    rw [e16] at hrest hRd2
    have HG := Lib.hid hG
    have HZ := Lib.hid hZ
    have HBB := Lib.hid hbb
    have Hrest := Lib.hid hrest
    have HRd2 := Lib.hid hRd2
    have hlc : l ≤ ct := by omega
    have hln : l ≤ nt := by omega
    have Hlc := Lib.hid hlc
    have Hln := Lib.hid hln
    clear hob hG hZ hbb hF1 hF2 hrest hRd2 hl e16 h16 hlc hln
    go_enter Tryd.func8, Tryd.ntmps8
    go_wp2_with fail
    generalize w.alloc (.cells (cellsOf .u8 12 nf) 23) = w1 at *
    go_at_call 16
    with_reducible refine (N1.out).mono ?_
    rintro e w2 ⟨m, C, rfl, hm, g2, hC, hc⟩
    rw [← HW.out] at hc
    have g02 := grown_trans g1 g2
    have hB2 := (HB.out.grown g2 (by simp)).block
    go_wp2_with (refine wpList_load_row rfl 23 (.tmp 5) rfl w.heap.size rfl 23 _ (0, 0) (.array 12 5) hB2 (by kernel_rfl) rfl (by rw [cellsOf_size]; kernel_rfl) ?_)
    go_at_call 17
    with_reducible refine (HFi.out _).mono ?_
    rintro e w3 ⟨rfl, g3⟩
    have hN0 : Holds (w3.alloc (.cells #[.int .u8 0, .int .u8 0, .int .u8 0, .int .u8 0, .int .u8 0, .int .u8 0, .int .u8 0, .int .u8 0, .int .u8 0, .int .u8 0, .int .u8 0, .int .u8 0, .int .u8 0, .int .u8 0, .int .u8 0, .int .u8 0] 24)) w3.heap.size 24 .u8 16 (fun _ => 0) := holds_alloc w3 _ .u8 16 _ _ zero16
    have hbn := hN0.block
    have hF3 := hN0.setRow .u8 16 F1
    have g34 := grown_setRow_new (World.grownBy_alloc w3 (.cells #[.int .u8 0, .int .u8 0, .int .u8 0, .int .u8 0, .int .u8 0, .int .u8 0, .int .u8 0, .int .u8 0, .int .u8 0, .int .u8 0, .int .u8 0, .int .u8 0, .int .u8 0, .int .u8 0, .int .u8 0, .int .u8 0] 24) none) w3.heap.size (cellsOf .u8 16 F1) (Or.inl (Nat.le_refl _))
    have g04 := grown_trans g02 (grown_trans g3 g34)
    have hC4 := (hC.grown g3 (by simp)).grown g34 (by simp)
    obtain ⟨w4, hw4⟩ : ∃ w4, w4 = (w3.alloc (.cells #[.int .u8 0, .int .u8 0, .int .u8 0, .int .u8 0, .int .u8 0, .int .u8 0, .int .u8 0, .int .u8 0, .int .u8 0, .int .u8 0, .int .u8 0, .int .u8 0, .int .u8 0, .int .u8 0, .int .u8 0, .int .u8 0] 24)).setRow w3.heap.size (cellsOf .u8 16 F1) := ⟨_, rfl⟩
    rw [← hw4] at hF3 g04 hC4
    have HW4 := Lib.hid hw4
    clear hC hN0 hw4 g34 g3 g2 hm N1
    go_upto_region 7 with (refine wpList_store_row rfl 24 (.tmp 12) (.tmp 27) rfl w3.heap.size _ rfl rfl 24 _ hbn (by rw [cellsOf_size]; kernel_rfl) rfl (cellsOf_all _ _ _) ?_)
    rw [← HW4.out]
    try simp only [Act.put]
    generalize w3.heap.size = b at *
    clear hbn HW4
    obtain ⟨V0, hV0⟩ : ∃ V0, V0 = w4.drew := ⟨_, rfl⟩
    have hv0 : w4.grownBy V0 none := by rw [hV0]; exact grown_drew (grown_refl w4 none)
    have HV0 := Lib.hid hV0.symm
    have gv := grown_trans g04 hv0
    have hFv := hF3.grown hv0 (by simp)
    have hCv := hC4.grown hv0 (by simp)
    have HTg : Hid (∀ U, V0.grownBy U none → Calls Tryd.prog 20 #[.pointer (some ⟨m, 0, none⟩), .agg (cellsOf .u8 16 F1), .slice aa na ca, .slice (some ⟨tb, p, none⟩) l ct] U fun e w' => e = .returned (.agg (cellsOf .u8 16 Z)) ∧ U.grownBy w' none) := Lib.hid (fun U hU => by
      rw [HZ.out]
      exact gtag_any m (N + 6) na ca l ct aa _ C W F1 fa ft U hkw hF1l hfa hft hN1 hN6 hc (hCv.grown hU (by simp)) (HL.out.grown (grown_trans gv hU) (by simp)) (HA.out.up (Nat.le_refl _) (grown_trans gv hU)) hca (by omega) ((HT.out.up (Nat.le_refl _) (grown_trans gv hU)).head Hln.out) Hlc.out (by have := Hln.out; omega))
    clear hV0 hv0
    go_cut [14] (fun s14 wx => ∃ X, s14 = .pointer (some ⟨X, 0, none⟩) ∧ V0.grownBy wx none ∧ V0.heap.size ≤ X ∧ Holds wx X 24 .u8 16 Z)
    case first =>
      refine wp_region_held (S := fun W => V0.grownBy W (none)) (by kernel_rfl) ?_
      change wpAnyH _ _ _ _ _ 9 #[false, false, false, false, false, false, false, false, false] _ (World.drew _)
      rw [HV0.out]
      have hS0 : V0.grownBy V0 (none) := grown_refl V0 _
      refine wpAnyH_takeD (some 31) (i := 0) (v := .pointer (some ⟨m, 0, none⟩)) rfl rfl (by kernel_rfl) (by kernel_rfl) (by kernel_rfl) (fun _ _ _ h => h) (Or.inl ⟨rfl, fun _ _ => rfl⟩) hS0 ?_
      simp only [Act.put, List.setIfInBounds_toArray, List.set_cons_succ, List.set_cons_zero]
      refine wpAnyH_takeD (some 32) (i := 1) (v := .agg (cellsOf .u8 16 F1)) rfl rfl (by kernel_rfl) (by kernel_rfl) (by kernel_rfl) (fun _ _ _ h => h) (Or.inl ⟨rfl, fun W hW => run_sixteen (hFv.grown hW (by simp)) rfl rfl⟩) hS0 ?_
      simp only [Act.put, List.setIfInBounds_toArray, List.set_cons_succ, List.set_cons_zero]
      refine wpAnyH_takeD (some 33) (i := 2) (v := .slice aa na ca) rfl rfl (by kernel_rfl) (by kernel_rfl) (by kernel_rfl) (fun _ _ _ h => h) (Or.inl ⟨rfl, fun _ _ => rfl⟩) hS0 ?_
      simp only [Act.put, List.setIfInBounds_toArray, List.set_cons_succ, List.set_cons_zero]
      refine wpAnyH_takeD (some 34) (i := 3) (v := .slice (some ⟨tb, p, none⟩) nt ct) rfl rfl (by kernel_rfl) (by kernel_rfl) (by kernel_rfl) (fun _ _ _ h => h) (Or.inl ⟨rfl, fun _ _ => rfl⟩) hS0 ?_
      simp only [Act.put, List.setIfInBounds_toArray, List.set_cons_succ, List.set_cons_zero]
      refine wpAnyH_takeD (some 35) (i := 4) (v := .int .i64 l) rfl rfl (by kernel_rfl) (by kernel_rfl) (by kernel_rfl) (fun _ _ _ h => h) (Or.inl ⟨rfl, fun _ _ => rfl⟩) hS0 ?_
      simp only [Act.put, List.setIfInBounds_toArray, List.set_cons_succ, List.set_cons_zero]
      refine wpAnyH_takeD (some 36) (i := 5) (v := .slice (some ⟨tb, p, none⟩) l ct) rfl rfl (by kernel_rfl) (by kernel_rfl) (by kernel_rfl) (fun _ _ _ h => h) (Or.inl ⟨rfl, fun W hW => ex_head 34 35 rfl rfl rfl Hlc.out⟩) hS0 ?_
      simp only [Act.put, List.setIfInBounds_toArray, List.set_cons_succ, List.set_cons_zero]
      refine wpAnyH_both (i := 6) (j := 7) (by kernel_rfl) ?_ ?_
      · refine (op_call (some 37) 20 #[.pointer (some ⟨m, 0, none⟩), .agg (cellsOf .u8 16 F1), .slice aa na ca, .slice (some ⟨tb, p, none⟩) l ct] (.agg (cellsOf .u8 16 Z)) rfl rfl rfl (exec_fn4 _ _ _ _ _ _ _ _ _ rfl rfl rfl rfl rfl) gtag_enters (HTg.out V0 hS0) hS0 ?_)
        intro V1 gg1 hS1
        simp only [Act.put, List.setIfInBounds_toArray, List.set_cons_succ, List.set_cons_zero]
        refine wpAnyH_one (i := 7) (by kernel_rfl) (op_alloc (some 14) rfl rfl rfl (run_newsixteen rfl) hS1 ?_)
        intro V2 gg2 hS2 hX
        have hS_X := hS1.size
        simp only [Act.put, List.setIfInBounds_toArray, List.set_cons_succ, List.set_cons_zero]
        refine wpAnyH_one (i := 8) (by kernel_rfl) (op_store 24 14 37 (V1.heap.size) (cellsOf .u8 16 Z) rfl rfl rfl rfl rfl rfl 24 _ (hX).block (by rw [cellsOf_size]; kernel_rfl) (by rw [cellsOf_size, cellsOf_size]) (cellsOf_all _ _ _) (grown_setRow_new hS2 _ _ (Or.inl hS_X)) ?_)
        simp only [List.setIfInBounds_toArray, List.set_cons_succ, List.set_cons_zero]
        refine wpAnyH_done (by kernel_rfl) ?_ _
        go_wp2_with fail
        go_meet
        case rel => exact ⟨_, rfl, grown_setRow_new hS2 _ _ (Or.inl hS_X), hS_X, (hX).setRow .u8 16 Z⟩
      · refine (op_alloc (some 14) rfl rfl rfl (run_newsixteen rfl) hS0 ?_)
        intro V1 gg1 hS1 hX
        have hS_X := hS0.size
        simp only [Act.put, List.setIfInBounds_toArray, List.set_cons_succ, List.set_cons_zero]
        refine wpAnyH_one (i := 6) (by kernel_rfl) (op_call (some 37) 20 #[.pointer (some ⟨m, 0, none⟩), .agg (cellsOf .u8 16 F1), .slice aa na ca, .slice (some ⟨tb, p, none⟩) l ct] (.agg (cellsOf .u8 16 Z)) rfl rfl rfl (exec_fn4 _ _ _ _ _ _ _ _ _ rfl rfl rfl rfl rfl) gtag_enters (HTg.out V1 hS1) hS1 ?_)
        intro V2 gg2 hS2
        simp only [Act.put, List.setIfInBounds_toArray, List.set_cons_succ, List.set_cons_zero]
        have hX_2 := hX.grown gg2 (by simp)
        refine wpAnyH_one (i := 8) (by kernel_rfl) (op_store 24 14 37 (V0.heap.size) (cellsOf .u8 16 Z) rfl rfl rfl rfl rfl rfl 24 _ (hX_2).block (by rw [cellsOf_size]; kernel_rfl) (by rw [cellsOf_size, cellsOf_size]) (cellsOf_all _ _ _) (grown_setRow_new hS2 _ _ (Or.inl hS_X)) ?_)
        simp only [List.setIfInBounds_toArray, List.set_cons_succ, List.set_cons_zero]
        refine wpAnyH_done (by kernel_rfl) ?_ _
        go_wp2_with fail
        go_meet
        case rel => exact ⟨_, rfl, grown_setRow_new hS2 _ _ (Or.inl hS_X), hS_X, (hX_2).setRow .u8 16 Z⟩
    case rest =>
      obtain ⟨X, rfl, g5, hX5, hXZ⟩ := hcut
      clear HV0 HTg
      have gc := grown_trans gv g5
      have hFc := hFv.grown g5 (by simp)
      have hCc := hCv.grown g5 (by simp)
      clear hFv hCv gv g5 hX5 hF3 hC4 g04
      go_upto_region 8 with fail
      obtain ⟨V0, hV0⟩ : ∃ V0, V0 = wc.drew := ⟨_, rfl⟩
      have hv0 : wc.grownBy V0 none := by rw [hV0]; exact grown_drew (grown_refl wc none)
      have HV0 := Lib.hid hV0.symm
      have gv := grown_trans gc hv0
      have hFv := hFc.grown hv0 (by simp)
      have hCv := hCc.grown hv0 (by simp)
      have hXv := hXZ.grown hv0 (by simp)
      have HSm : Hid (∀ U, V0.grownBy U none → Calls Tryd.prog 21 #[.slice (some ⟨X, 0, none⟩) 16 16, .slice ta2 16 (ct - l)] U fun e w' => e = .returned (.bool bb) ∧ U.grownBy w' none) := Lib.hid (fun U hU => by
        rw [HBB.out]
        exact (same_any 16 16 16 (ct - l) _ _ Z (fun i => ft (l + i)) U.heap.size U ((hXv.grown hU (by simp)).rd _ (hXv.grown hU (by simp)).lt 16 (Nat.le_refl _)) ((HRd2.out _ (HT.out.grown (grown_trans gv hU) (fun _ e => by cases e))).mono (grown_trans gv hU).size) hZl (fun i => hft _) (by decide) (by decide)).mono fun _ _ h => ⟨h.1, by rw [← h.2]; exact grown_refl _ _⟩)
      clear hV0 hv0 gc hFc hCc hXZ
      go_cut [43] (fun s43 wx => s43 = .bool (!bb) ∧ V0.grownBy wx none)
      case first =>
        refine wp_region_held (S := fun W => V0.grownBy W (none)) (by kernel_rfl) ?_
        change wpAnyH _ _ _ _ _ 6 #[false, false, false, false, false, false] _ (World.drew _)
        rw [HV0.out]
        have hS0 : V0.grownBy V0 (none) := grown_refl V0 _
        refine wpAnyH_takeD (some 38) (i := 0) (v := .slice (some ⟨X, 0, none⟩) 16 16) rfl rfl (by kernel_rfl) (by kernel_rfl) (by kernel_rfl) (fun _ _ _ h => h) (Or.inl ⟨rfl, fun W hW => ex_all 14 rfl rfl⟩) hS0 ?_
        simp only [Act.put, List.setIfInBounds_toArray, List.set_cons_succ, List.set_cons_zero]
        refine wpAnyH_takeD (some 39) (i := 1) (v := .slice (some ⟨tb, p, none⟩) nt ct) rfl rfl (by kernel_rfl) (by kernel_rfl) (by kernel_rfl) (fun _ _ _ h => h) (Or.inl ⟨rfl, fun _ _ => rfl⟩) hS0 ?_
        simp only [Act.put, List.setIfInBounds_toArray, List.set_cons_succ, List.set_cons_zero]
        refine wpAnyH_takeD (some 40) (i := 2) (v := .int .i64 l) rfl rfl (by kernel_rfl) (by kernel_rfl) (by kernel_rfl) (fun _ _ _ h => h) (Or.inl ⟨rfl, fun _ _ => rfl⟩) hS0 ?_
        simp only [Act.put, List.setIfInBounds_toArray, List.set_cons_succ, List.set_cons_zero]
        refine wpAnyH_takeD (some 41) (i := 3) (v := .slice ta2 16 (ct - l)) rfl rfl (by kernel_rfl) (by kernel_rfl) (by kernel_rfl) (fun _ _ _ h => h) (Or.inl ⟨rfl, fun W hW => ex_rest 39 40 rfl rfl rfl Hrest.out⟩) hS0 ?_
        simp only [Act.put, List.setIfInBounds_toArray, List.set_cons_succ, List.set_cons_zero]
        refine wpAnyH_one (i := 4) (by kernel_rfl) (op_call (some 42) 21 #[.slice (some ⟨X, 0, none⟩) 16 16, .slice ta2 16 (ct - l)] (.bool bb) rfl rfl rfl (exec_fn2 _ _ _ _ _ rfl rfl rfl) same_enters (HSm.out V0 hS0) hS0 ?_)
        intro V1 gg1 hS1
        simp only [Act.put, List.setIfInBounds_toArray, List.set_cons_succ, List.set_cons_zero]
        refine wpAnyH_takeD (some 43) (i := 5) (v := .bool (!bb)) rfl rfl (by kernel_rfl) (by kernel_rfl) (by kernel_rfl) (fun _ _ _ h => h) (Or.inl ⟨rfl, fun _ _ => by go_simp⟩) hS1 ?_
        simp only [Act.put, List.setIfInBounds_toArray, List.set_cons_succ, List.set_cons_zero]
        refine wpAnyH_done (by kernel_rfl) ?_ _
        go_wp2_with fail
        go_meet
        case rel => exact ⟨rfl, hS1⟩
      case rest =>
        obtain ⟨rfl, g6⟩ := hcut
        clear HV0 HSm
        have gd := grown_trans gv g6
        have hFd := hFv.grown g6 (by simp)
        have hCd := hCv.grown g6 (by simp)
        clear gv hFv hCv g6 hXv
        cases bb with
        | false =>
          go_wp2_with fail
          go_ret2
          exact ⟨gd, fun _ => rfl, fun h => by cases h⟩
        | true =>
          go_upto_region 10 with fail
          obtain ⟨V0, hV0⟩ : ∃ V0, V0 = wc.drew := ⟨_, rfl⟩
          have hv0 : wc.grownBy V0 none := by rw [hV0]; exact grown_drew (grown_refl wc none)
          have HV0 := Lib.hid hV0.symm
          have gv := grown_trans gd hv0
          have hFv := hFd.grown hv0 (by simp)
          have hCv := hCd.grown hv0 (by simp)
          have hml := hCv.lt
          have HTu : Hid (∀ U b, V0.grownBy U none → CellIs U b (.slice (some ⟨tb, p, none⟩) l ct) → Calls Tryd.prog 18 #[.pointer (some ⟨m, 0, none⟩), .agg (cellsOf .u8 16 F2), .slice (some ⟨b, 0, none⟩) 1 1] U fun e w' => ∃ v, e = .returned v ∧ (∃ x, v = .tuple #[x, .int .i64 0] ∧ OwnN w' w.heap.size x l G) ∧ U.grownBy w' none) := Lib.hid (fun U b hU hb => by
            have gU := grown_trans gv hU
            have hTe := texts_cell hb Hlc.out ((HT.out.up (Nat.le_refl _) gU).head Hln.out)
            have := turn_any m (N + 6) 1 1 _ C W F2 (fun j => if j = 0 then 0 else l) ft U hkw hF2l hft hN1 hN6 hc (hCv.grown hU (by simp)) (HL.out.grown gU (by simp)) (Nat.lt_of_lt_of_le hml hU.size) (Nat.lt_of_lt_of_le hsz gU.size) hTe (by decide) (by show l ≤ 2 ^ 40; have := Hln.out; omega)
            rw [← HG.out] at this
            exact this.mono fun e w' h => by
              obtain ⟨v, h1, h2, h3⟩ := h
              exact ⟨_, h1, ⟨v, rfl, h2.base gU.size⟩, h3⟩)
          clear hV0 hv0 gd hFd hCd
          refine wp_region_held (S := fun W => V0.grownBy W (none)) (by kernel_rfl) ?_
          change wpAnyH _ _ _ _ _ 12 #[false, false, false, false, false, false, false, false, false, false, false, false] _ (World.drew _)
          rw [HV0.out]
          have hS0 : V0.grownBy V0 (none) := grown_refl V0 _
          refine wpAnyH_takeD (some 44) (i := 0) (v := .pointer (some ⟨m, 0, none⟩)) rfl rfl (by kernel_rfl) (by kernel_rfl) (by kernel_rfl) (fun _ _ _ h => h) (Or.inl ⟨rfl, fun _ _ => rfl⟩) hS0 ?_
          simp only [Act.put, List.setIfInBounds_toArray, List.set_cons_succ, List.set_cons_zero]
          refine wpAnyH_takeD (some 45) (i := 1) (v := .agg (cellsOf .u8 16 F1)) rfl rfl (by kernel_rfl) (by kernel_rfl) (by kernel_rfl) (fun _ _ _ h => h) (Or.inl ⟨rfl, fun W hW => run_sixteen (hFv.grown hW (by simp)) rfl rfl⟩) hS0 ?_
          simp only [Act.put, List.setIfInBounds_toArray, List.set_cons_succ, List.set_cons_zero]
          refine wpAnyH_takeD (some 47) (i := 3) (v := .slice (some ⟨tb, p, none⟩) nt ct) rfl rfl (by kernel_rfl) (by kernel_rfl) (by kernel_rfl) (fun _ _ _ h => h) (Or.inl ⟨rfl, fun _ _ => rfl⟩) hS0 ?_
          simp only [Act.put, List.setIfInBounds_toArray, List.set_cons_succ, List.set_cons_zero]
          refine wpAnyH_takeD (some 48) (i := 4) (v := .int .i64 l) rfl rfl (by kernel_rfl) (by kernel_rfl) (by kernel_rfl) (fun _ _ _ h => h) (Or.inl ⟨rfl, fun _ _ => rfl⟩) hS0 ?_
          simp only [Act.put, List.setIfInBounds_toArray, List.set_cons_succ, List.set_cons_zero]
          refine wpAnyH_takeD (some 49) (i := 5) (v := .slice (some ⟨tb, p, none⟩) l ct) rfl rfl (by kernel_rfl) (by kernel_rfl) (by kernel_rfl) (fun _ _ _ h => h) (Or.inl ⟨rfl, fun W hW => ex_head 47 48 rfl rfl rfl Hlc.out⟩) hS0 ?_
          simp only [Act.put, List.setIfInBounds_toArray, List.set_cons_succ, List.set_cons_zero]
          refine wpAnyH_both (i := 2) (j := 6) (by kernel_rfl) ?_ ?_
          · refine (op_call (some 46) 19 #[.agg (cellsOf .u8 16 F1)] (.agg (cellsOf .u8 16 F2)) rfl rfl rfl (exec_fn1 _ _ _ rfl rfl) cnext_enters (HNx.out V0) hS0 ?_)
            intro V1 gg1 hS1
            simp only [Act.put, List.setIfInBounds_toArray, List.set_cons_succ, List.set_cons_zero]
            refine wpAnyH_one (i := 6) (by kernel_rfl) (op_mk (some 50) (.slice (some ⟨tb, p, none⟩) l ct) 22 rfl rfl rfl (run_build1 49 rfl rfl ⟨_, _, _, rfl⟩) hS1 ?_)
            intro V2 gg2 hS2 hX
            have hS_X := hS1.size
            simp only [Act.put, List.setIfInBounds_toArray, List.set_cons_succ, List.set_cons_zero]
            refine wpAnyH_one (i := 7) (by kernel_rfl) (op_callR (R := fun v w' => (∃ x, v = .tuple #[x, .int .i64 0] ∧ OwnN w' w.heap.size x l G) ∧ V2.grownBy w' none) (some 51) 18 #[.pointer (some ⟨m, 0, none⟩), .agg (cellsOf .u8 16 F2), .slice (some ⟨V1.heap.size, 0, none⟩) 1 1] rfl rfl rfl (exec_fn3 _ _ _ _ _ _ _ rfl rfl rfl rfl) cturn_enters (HTu.out V2 _ hS2 hX) ?_)
            rintro vv3 V3 ⟨⟨x, rfl, hx⟩, gg3⟩
            have hS3 := grown_trans hS2 (grown_some gg3)
            refine ⟨hS3, ?_⟩
            simp only [Act.put, List.setIfInBounds_toArray, List.set_cons_succ, List.set_cons_zero]
            have hX_3 := hX.grown gg3 (by simp)
            refine wpAnyH_takeD (some 52) (i := 8) (v := x) rfl rfl (by kernel_rfl) (by kernel_rfl) (by kernel_rfl) (fun _ _ _ h => h) (Or.inl ⟨rfl, fun _ _ => by go_simp⟩) hS3 ?_
            simp only [Act.put, List.setIfInBounds_toArray, List.set_cons_succ, List.set_cons_zero]
            refine wpAnyH_takeD (some 53) (i := 9) (v := .int .i64 0) rfl rfl (by kernel_rfl) (by kernel_rfl) (by kernel_rfl) (fun _ _ _ h => h) (Or.inl ⟨rfl, fun _ _ => by go_simp⟩) hS3 ?_
            simp only [Act.put, List.setIfInBounds_toArray, List.set_cons_succ, List.set_cons_zero]
            refine wpAnyH_takeD (some 8) (i := 10) (v := x) rfl rfl (by kernel_rfl) (by kernel_rfl) (by kernel_rfl) (fun _ _ _ h => h) (Or.inl ⟨rfl, fun _ _ => rfl⟩) hS3 ?_
            simp only [Act.put, List.setIfInBounds_toArray, List.set_cons_succ, List.set_cons_zero]
            refine wpAnyH_takeD (some 9) (i := 11) (v := .int .i64 0) rfl rfl (by kernel_rfl) (by kernel_rfl) (by kernel_rfl) (fun _ _ _ h => h) (Or.inl ⟨rfl, fun _ _ => rfl⟩) hS3 ?_
            simp only [Act.put, List.setIfInBounds_toArray, List.set_cons_succ, List.set_cons_zero]
            refine wpAnyH_done (by kernel_rfl) ?_ _
            go_wp2_with fail
            go_ret2
            exact ⟨grown_trans gv hS3, fun h => (by cases h), fun _ => ⟨x, rfl, hx⟩⟩
          · refine (op_mk (some 50) (.slice (some ⟨tb, p, none⟩) l ct) 22 rfl rfl rfl (run_build1 49 rfl rfl ⟨_, _, _, rfl⟩) hS0 ?_)
            intro V1 gg1 hS1 hX
            have hS_X := hS0.size
            simp only [Act.put, List.setIfInBounds_toArray, List.set_cons_succ, List.set_cons_zero]
            refine wpAnyH_one (i := 2) (by kernel_rfl) (op_call (some 46) 19 #[.agg (cellsOf .u8 16 F1)] (.agg (cellsOf .u8 16 F2)) rfl rfl rfl (exec_fn1 _ _ _ rfl rfl) cnext_enters (HNx.out V1) hS1 ?_)
            intro V2 gg2 hS2
            simp only [Act.put, List.setIfInBounds_toArray, List.set_cons_succ, List.set_cons_zero]
            have hX_2 := hX.grown gg2 (by simp)
            refine wpAnyH_one (i := 7) (by kernel_rfl) (op_callR (R := fun v w' => (∃ x, v = .tuple #[x, .int .i64 0] ∧ OwnN w' w.heap.size x l G) ∧ V2.grownBy w' none) (some 51) 18 #[.pointer (some ⟨m, 0, none⟩), .agg (cellsOf .u8 16 F2), .slice (some ⟨V0.heap.size, 0, none⟩) 1 1] rfl rfl rfl (exec_fn3 _ _ _ _ _ _ _ rfl rfl rfl rfl) cturn_enters (HTu.out V2 _ hS2 hX_2) ?_)
            rintro vv3 V3 ⟨⟨x, rfl, hx⟩, gg3⟩
            have hS3 := grown_trans hS2 (grown_some gg3)
            refine ⟨hS3, ?_⟩
            simp only [Act.put, List.setIfInBounds_toArray, List.set_cons_succ, List.set_cons_zero]
            have hX_3 := hX_2.grown gg3 (by simp)
            refine wpAnyH_takeD (some 52) (i := 8) (v := x) rfl rfl (by kernel_rfl) (by kernel_rfl) (by kernel_rfl) (fun _ _ _ h => h) (Or.inl ⟨rfl, fun _ _ => by go_simp⟩) hS3 ?_
            simp only [Act.put, List.setIfInBounds_toArray, List.set_cons_succ, List.set_cons_zero]
            refine wpAnyH_takeD (some 53) (i := 9) (v := .int .i64 0) rfl rfl (by kernel_rfl) (by kernel_rfl) (by kernel_rfl) (fun _ _ _ h => h) (Or.inl ⟨rfl, fun _ _ => by go_simp⟩) hS3 ?_
            simp only [Act.put, List.setIfInBounds_toArray, List.set_cons_succ, List.set_cons_zero]
            refine wpAnyH_takeD (some 8) (i := 10) (v := x) rfl rfl (by kernel_rfl) (by kernel_rfl) (by kernel_rfl) (fun _ _ _ h => h) (Or.inl ⟨rfl, fun _ _ => rfl⟩) hS3 ?_
            simp only [Act.put, List.setIfInBounds_toArray, List.set_cons_succ, List.set_cons_zero]
            refine wpAnyH_takeD (some 9) (i := 11) (v := .int .i64 0) rfl rfl (by kernel_rfl) (by kernel_rfl) (by kernel_rfl) (fun _ _ _ h => h) (Or.inl ⟨rfl, fun _ _ => rfl⟩) hS3 ?_
            simp only [Act.put, List.setIfInBounds_toArray, List.set_cons_succ, List.set_cons_zero]
            refine wpAnyH_done (by kernel_rfl) ?_ _
            go_wp2_with fail
            go_ret2
            exact ⟨grown_trans gv hS3, fun h => (by cases h), fun _ => ⟨x, rfl, hx⟩⟩
  · have j0 : (nt : Int) < 16 := by omega
    have hob : openB (N + 6) W nf fa na ft nt = false := by
      unfold openB
      rw [decide_eq_false h16, Bool.false_and]
    rw [hob]
    clear h16 hob
    go_enter Tryd.func8, Tryd.ntmps8
    go_wp2_with fail
    go_at_call 16
    with_reducible refine (N1.out).mono ?_
    rintro e w2 ⟨m, C, rfl, hm, g2, hC, hc⟩
    have g02 := grown_trans g1 g2
    go_wp2_with fail
    go_ret2
    exact ⟨g02, fun _ => rfl, fun h => by cases h⟩
end Go.Proofs.YtlfopcigbgfnlaaDoor
namespace Go.Proofs.YtlfopcigbgfnlaaDoor
open Go.RowKit

set_option maxRecDepth 100000

theorem fdP_cong {h v : Nat} {b b' : Nat → Nat} {L : Nat} (e : ∀ i, i < L → b i = b' i) : ∀ m, fdP h v b L m = fdP h v b' L m
  | 0 => rfl
  | m + 1 => by
    show gMul (fdP h v b L m ^^^ pl (blkF b L m)) h = gMul (fdP h v b' L m ^^^ pl (blkF b' L m)) h
    rw [fdP_cong e m, pl_congr (g := blkF b' L m) (fun i _ => blkF_congr e m i)]
theorem fdA_cong {h v : Nat} {b b' : Nat → Nat} {L : Nat} (e : ∀ i, i < L → b i = b' i) : fdA h v b L = fdA h v b' L := fdP_cong e _
theorem tagP_cong {h na nt : Nat} {fa fa' ft ft' : Nat → Nat} (ea : ∀ i, i < na → fa i = fa' i) (et : ∀ i, i < nt → ft i = ft' i) : tagP h na nt fa ft = tagP h na nt fa' ft' := by
  unfold tagP
  rw [fdA_cong ea, fdA_cong et]
theorem tagF_cong {R : Nat} {W f fa fa' ft ft' : Nat → Nat} {na nt : Nat} (ea : ∀ i, i < na → fa i = fa' i) (et : ∀ i, i < nt → ft i = ft' i) (i : Nat) : tagF R W f fa na ft nt i = tagF R W f fa' na ft' nt i := by
  unfold tagF
  rw [tagP_cong ea et]

def z16L : List Nat := [0, 0, 0, 0, 0, 0, 0, 0, 0, 0, 0, 0, 0, 0, 0, 0]
def z32L : List Nat := [0, 0, 0, 0, 0, 0, 0, 0, 0, 0, 0, 0, 0, 0, 0, 0, 0, 0, 0, 0, 0, 0, 0, 0, 0, 0, 0, 0, 0, 0, 0, 0]
def ct1L : List Nat := [0, 0, 0, 0, 0, 0, 0, 0, 0, 0, 0, 0, 0, 0, 0, 1]
def ct2L : List Nat := [0, 0, 0, 0, 0, 0, 0, 0, 0, 0, 0, 0, 0, 0, 0, 2]
def tgAL : List Nat := [88, 226, 252, 206, 250, 126, 48, 97, 54, 127, 29, 87, 164, 231, 69, 90]
def hhL : List Nat := [220, 149, 192, 120, 162, 64, 137, 137, 173, 72, 162, 20, 146, 132, 32, 135]
def eeL : List Nat := [83, 15, 138, 251, 199, 69, 54, 185, 169, 99, 180, 241, 196, 203, 115, 139]
def ccL : List Nat := [206, 167, 64, 61, 77, 96, 107, 110, 7, 78, 197, 211, 186, 243, 157, 24]
def ttL : List Nat := [208, 209, 200, 167, 153, 153, 107, 240, 38, 91, 152, 181, 212, 138, 185, 25]
def bbL : List Nat := [206, 167, 64, 61, 77, 96, 107, 110, 7, 78, 197, 211, 186, 243, 157, 24, 208, 209, 200, 167, 153, 153, 107, 240, 38, 91, 152, 181, 212, 138, 185, 25]
theorem tgA_val : evalSeal 4 z16L ct1L = tgAL := by kernel_rfl
theorem hh_val : evalSeal 8 z32L z16L = hhL := by kernel_rfl
theorem ee_val : evalSeal 8 z32L ct1L = eeL := by kernel_rfl
theorem cc_val : evalSeal 8 z32L ct2L = ccL := by kernel_rfl
def zF : Nat → Nat := fun _ => 0
theorem zF_lt (_i : Nat) : zF _i < 256 := by
  show 0 < 256
  decide
theorem first_zero (i : Nat) (hi : i < 16) : firstF zF i = lst ct1L i := by
  have h : (List.range 16).all (fun i => firstF zF i == lst ct1L i) = true := by kernel_rfl
  simpa using all_range h i hi
theorem second_zero (i : Nat) (hi : i < 16) : nextF (firstF zF) i = lst ct2L i := by
  have h : (List.range 16).all (fun i => nextF (firstF zF) i == lst ct2L i) = true := by kernel_rfl
  simpa using all_range h i hi
theorem key16_zero (x : Nat) (hx : x < 4 * 4) : zF x = lst z16L x := by
  have h : (List.range 16).all (fun i => zF i == lst z16L i) = true := by kernel_rfl
  simpa using all_range h x hx
theorem key32_zero (x : Nat) (hx : x < 4 * 8) : zF x = lst z32L x := by
  have h : (List.range 32).all (fun i => zF i == lst z32L i) = true := by kernel_rfl
  simpa using all_range h x hx
theorem seal_tgA (i : Nat) (hi : i < 16) : sealA 10 (keyW 4 zF) (firstF zF) i = lst tgAL i := by
  rw [← tgA_val]
  exact evalSeal_ok 4 z16L ct1L _ _ (by decide) (by decide) rfl key16_zero first_zero i hi
theorem seal_hh (i : Nat) (hi : i < 16) : sealA 14 (keyW 8 zF) zF i = lst hhL i := by
  rw [← hh_val]
  exact evalSeal_ok 8 z32L z16L _ _ (by decide) (by decide) rfl key32_zero (fun i hi => key16_zero i hi) i hi
theorem seal_ee (i : Nat) (hi : i < 16) : sealA 14 (keyW 8 zF) (firstF zF) i = lst eeL i := by
  rw [← ee_val]
  exact evalSeal_ok 8 z32L ct1L _ _ (by decide) (by decide) rfl key32_zero first_zero i hi
theorem turn_cc (i : Nat) (hi : i < 16) : strm 14 (keyW 8 zF) (nextF (firstF zF)) (i / 16) (i % 16) = lst ccL i := by
  rw [show i / 16 = 0 by omega, Nat.mod_eq_of_lt hi, ← cc_val]
  exact evalSeal_ok 8 z32L ct2L _ _ (by decide) (by decide) rfl key32_zero second_zero i hi
theorem pl_hhL : pl (lst hhL) = 299097743354675899386645093796486031675 := by kernel_rfl
theorem pl_hh : pl (sealA 14 (keyW 8 zF) (fun _ => 0)) = 299097743354675899386645093796486031675 := (pl_congr seal_hh).trans pl_hhL
theorem pl_ee : pl (sealA 14 (keyW 8 zF) (firstF zF)) = pl (lst eeL) := pl_congr seal_ee
theorem tagP_0 (h : Nat) (hh : h < 2 ^ 128) (fa ft : Nat → Nat) : tagP h 0 0 fa ft = 0 := by
  unfold tagP
  have e1 : fdA h 0 fa 0 = 0 := rfl
  have e2 : fdA h 0 ft 0 = 0 := rfl
  have e3 : pl (lnF 0 0) = 0 := by kernel_rfl
  rw [e1, e2, e3, Nat.xor_self, gMul_none h hh]
theorem tagP_16 (fa : Nat → Nat) : tagP 299097743354675899386645093796486031675 0 16 fa (lst ccL) = 97467241689216515405461124125959551937 := by
  have e : gMul (fdA 299097743354675899386645093796486031675 0 (lst ccL) 16 ^^^ pl (lnF 0 16)) 299097743354675899386645093796486031675 = 97467241689216515405461124125959551937 := by kernel_rfl
  exact e
def c15L : List Nat := [167, 64, 61, 77, 96, 107, 110, 7, 78, 197, 211, 186, 243, 157, 24]
theorem tagP_15 (fa : Nat → Nat) : tagP 299097743354675899386645093796486031675 0 15 fa (lst c15L) = 193534022970235350445733839838374918636 := by
  have e : gMul (fdA 299097743354675899386645093796486031675 0 (lst c15L) 15 ^^^ pl (lnF 0 15)) 299097743354675899386645093796486031675 = 193534022970235350445733839838374918636 := by kernel_rfl
  exact e
/-- The first row: 16 bytes of a tag. -/
theorem row_A (i : Nat) (hi : i < 16) : sealF 10 (keyW 4 zF) zF zF 0 zF 0 i = lst tgAL i := by
  unfold sealF cat tagF
  rw [if_neg (by omega), Nat.sub_zero, tagP_0 _ (pl_lt _), Nat.zero_xor, un_pl _ i hi (sealA_lt 10 _ _ (keyW_lt 4 zF zF_lt) (firstF_lt zF zF_lt) i), seal_tgA i hi]
theorem turn_zz (i : Nat) (hi : i < 16) : turnF 14 (keyW 8 zF) (nextF (firstF zF)) zF i = lst ccL i := by
  unfold turnF
  rw [turn_cc i hi]
  exact Nat.zero_xor _
theorem tag_16 (ft : Nat → Nat) (h : ∀ i, i < 16 → ft i = lst ccL i) (i : Nat) (hi : i < 16) : tagF 14 (keyW 8 zF) (firstF zF) zF 0 ft 16 i = lst ttL i := by
  rw [tagF_cong (fa' := zF) (ft' := lst ccL) (fun _ h => absurd h (by omega)) h]
  unfold tagF
  rw [pl_hh, tagP_16, pl_ee]
  have h : (List.range 16).all (fun i => un (97467241689216515405461124125959551937 ^^^ pl (lst eeL)) i == lst ttL i) = true := by kernel_rfl
  simpa using all_range h i hi
theorem tag_15 (ft : Nat → Nat) (h : ∀ i, i < 15 → ft i = lst c15L i) : tagF 14 (keyW 8 zF) (firstF zF) zF 0 ft 15 0 = 100 := by
  rw [tagF_cong (fa' := zF) (ft' := lst c15L) (fun _ h => absurd h (by omega)) h]
  unfold tagF
  rw [pl_hh, tagP_15, pl_ee]
  kernel_rfl
theorem bb_low (i : Nat) (hi : i < 16) : lst bbL i = lst ccL i := by
  have h : (List.range 16).all (fun i => lst bbL i == lst ccL i) = true := by kernel_rfl
  simpa using all_range h i hi
theorem bb_high (i : Nat) (hi : i < 16) : lst bbL (16 + i) = lst ttL i := by
  have h : (List.range 16).all (fun i => lst bbL (16 + i) == lst ttL i) = true := by kernel_rfl
  simpa using all_range h i hi
theorem bb_one (i : Nat) (hi : i < 15) : lst bbL (1 + i) = lst c15L i := by
  have h : (List.range 15).all (fun i => lst bbL (1 + i) == lst c15L i) = true := by kernel_rfl
  simpa using all_range h i hi
theorem bb_lt (i : Nat) : lst bbL i < 256 := getD_lt 256 (by decide) bbL (by decide) i
/-- The second row. -/
theorem row_B (i : Nat) (hi : i < 32) : sealF 14 (keyW 8 zF) zF zF 0 zF 16 i = lst bbL i := by
  unfold sealF cat
  by_cases e : i < 16
  · rw [if_pos e, turn_zz i e, bb_low i e]
  · obtain ⟨j, rfl⟩ : ∃ j, i = 16 + j := ⟨i - 16, by omega⟩
    rw [if_neg e, show 16 + j - 16 = j by omega, tag_16 _ turn_zz j (by omega), bb_high j (by omega)]
/-- The second row is opened, as it was. -/
theorem row_open : openB 14 (keyW 8 zF) zF zF 0 (lst bbL) 32 = true := by
  unfold openB
  rw [decide_eq_true (by decide), Bool.true_and]
  exact (sameB_iff _ _ _ _).2 ⟨rfl, fun i hi => by
    rw [tag_16 _ (fun i hi => bb_low i hi) i hi]
    exact (bb_high i hi).symm⟩
theorem row_text (i : Nat) (hi : i < 16) : turnF 14 (keyW 8 zF) (nextF (firstF zF)) (lst bbL) i = 0 := by
  unfold turnF
  rw [turn_cc i hi, bb_low i hi, Nat.xor_self]
/-- Without its first byte it isn't. -/
theorem row_less : openB 14 (keyW 8 zF) zF zF 0 (fun i => lst bbL (1 + i)) 31 = false := by
  unfold openB
  rw [decide_eq_true (by decide), Bool.true_and, Bool.eq_false_iff]
  intro h
  have := ((sameB_iff _ _ _ _).1 h).2 0 (by decide)
  rw [tag_15 _ (fun i hi => bb_one i hi)] at this
  exact absurd this (by decide)
theorem row_short : openB 14 (keyW 8 zF) zF zF 0 (lst bbL) 15 = false := by
  unfold openB
  rw [decide_eq_false (by decide), Bool.false_and]
end Go.Proofs.YtlfopcigbgfnlaaDoor
namespace Go.Proofs.YtlfopcigbgfnlaaDoor
open Go.RowKit

/-- n bytes 0 in block b. -/
structure FillIs (w : World) (b n : Nat) : Prop where
  rd_ : Rd w (b + 1) (some ⟨b, 0, none⟩) n (fun _ => 0)
  lt : b < w.heap.size
theorem FillIs.grown {w w' : World} {b n : Nat} (h : FillIs w b n) {row : Option Nat} (g : w.grownBy w' row) (hr : some b ≠ row) : FillIs w' b n where
  rd_ := ⟨fun h0 => by
    obtain ⟨tb, o, h1, h2, h3⟩ := h.rd_.ex h0
    cases h1
    exact ⟨b, 0, rfl, h2, fun i hi => g.cell (h3 i hi) hr⟩⟩
  lt := Nat.lt_of_lt_of_le h.lt g.size
theorem FillIs.rd {w : World} {b n : Nat} (h : FillIs w b n) : Rd w w.heap.size (some ⟨b, 0, none⟩) n (fun _ => 0) := h.rd_.mono h.lt

section
variable {ops : Array Oper} {Q : Exit → Act → World → Prop} {a : Act} {w : World}
theorem op_make {i : Nat} {o : Oper} {K : Act → World → Prop} {W0 : World} {row : Option Nat} (d : Option Tmp) (n : Nat) (hn : 0 < n ∧ n < 2 ^ 40) (hi : ops[i]? = some o) (hd : o.dst = d) (hw : Region.wanted o (yielded ops a.tmps) = true)
    (ho : o.op = .makeSlice 22 (.const (.int .i64 n)) (.const (.int .i64 n))) (hS : W0.grownBy w row)
    (h : ∀ w', w.grownBy w' none → W0.grownBy w' row → FillIs w' w.heap.size n → K (a.put d (.slice (some ⟨w.heap.size, 0, none⟩) n n)) w') : wpOp Tryd.prog ops Q i (fun a' w' => W0.grownBy w' row ∧ K a' w') a w := by
  subst hd
  obtain ⟨c, mk, hF⟩ := make_any n hn.2 w
  have g := World.grownBy_alloc w (.cells c 5) none
  have g2 := grown_trans hS (grown_some g)
  have he : (execOp a.eval o).run Tryd.prog w = .ok (.value (.slice (some ⟨w.heap.size, 0, none⟩) n n)) (w.alloc (.cells c 5)) := by
    unfold execOp
    simp only [ho, Act.eval, Sem.run_bind, mk]
    rfl
  have hl : w.heap.size < (w.alloc (.cells c 5)).heap.size := by simp
  refine wpOp_at hi hw (wp_yields he ⟨g2, h _ g g2 ⟨⟨fun h0 => ?_⟩, hl⟩⟩)
  exact ⟨w.heap.size, 0, rfl, Nat.lt_succ_self _, fun i hi => by rw [Nat.zero_add]; exact hF.cell i hi⟩
end
end Go.Proofs.YtlfopcigbgfnlaaDoor
namespace Go.Proofs.YtlfopcigbgfnlaaDoor
open Go.RowKit Go.Shelf

set_option maxRecDepth 100000
set_option maxHeartbeats 2000000

theorem gseal_enters (args : Array Value) (w : World) : (callFunc 7 args).run Tryd.prog w = .ok (.enter 7 args) w := enters_of Tryd.func7 (by kernel_rfl) rfl args w
theorem gopen_enters (args : Array Value) (w : World) : (callFunc 8 args).run Tryd.prog w = .ok (.enter 8 args) w := enters_of Tryd.func8 (by kernel_rfl) rfl args w
theorem run_twelve {o : Oper} {a : Act} {W : World} {B : Nat} {f : Nat → Nat} {t : Tmp} (h : Holds W B 23 .u8 12 f) (ho : o.op = .load 23 (.tmp t)) (ha : a.eval (.tmp t) = .pointer (some ⟨B, 0, none⟩)) :
    (execOp a.eval o).run Tryd.prog W = .ok (.value (.agg (cellsOf .u8 12 f))) W := run_row 23 (.array 12 5) h ho ha (by kernel_rfl) rfl (by kernel_rfl)
theorem rd_nil (w : World) (B : Nat) (f : Nat → Nat) : Rd w B none 0 f := ⟨fun h => absurd h (by decide)⟩
/-- Bytes are handed back, and no error. -/
structure GaveB (w : World) (n : Nat) (f : Nat → Nat) (v : Value) (w' : World) : Prop where
  ex : ∃ a c, v = .tuple #[.slice a n c, .int .i64 0] ∧ n ≤ c ∧ Rd w' w'.heap.size a n f
theorem Turned.gave {w : World} {n : Nat} {f g : Nat → Nat} {e : Ending} {w' : World} (h : Turned w n f e w') (hf : ∀ i, i < n → f i = g i) : ∃ v, e = .returned v ∧ GaveB w n g v w' ∧ w.grownBy w' none := by
  obtain ⟨v, h1, h2, h3⟩ := h
  obtain ⟨a, c, rfl, h4, h5⟩ := h2.rd
  exact ⟨_, h1, ⟨a, c, rfl, h4, h5.congr hf⟩, h3⟩

theorem known05 (w : World) (hL : LaidS w 0) (hsz : 0 < w.heap.size) : Calls Tryd.prog 5 #[] w (SaysYes w) := by
  have HSA : Hid (∀ U b, w.grownBy U none → FillIs U b 16 → Calls Tryd.prog 7 #[.slice (some ⟨b, 0, none⟩) 16 16, .agg (cellsOf .u8 12 zF), .slice none 0 0, .slice none 0 0] U fun e w' => ∃ v, e = .returned v ∧ GaveB U 16 (lst tgAL) v w' ∧ U.grownBy w' none) := Lib.hid (fun U b hU hb =>
    (gseal_any 4 16 16 0 0 0 0 _ none none zF zF zF zF U (hL.grown hU (by simp)) (Nat.lt_of_lt_of_le hsz hU.size) (Or.inl rfl) rfl hb.rd zF_lt zF_lt (rd_nil _ _ _) zF_lt (by decide) (by decide) (rd_nil _ _ _) zF_lt (by decide) (by decide)).mono fun e w' h => h.gave row_A)
  have HSB : Hid (∀ U b b', w.grownBy U none → FillIs U b 32 → FillIs U b' 16 → Calls Tryd.prog 7 #[.slice (some ⟨b, 0, none⟩) 32 32, .agg (cellsOf .u8 12 zF), .slice none 0 0, .slice (some ⟨b', 0, none⟩) 16 16] U fun e w' => ∃ v, e = .returned v ∧ GaveB U 32 (lst bbL) v w' ∧ U.grownBy w' none) := Lib.hid (fun U b b' hU hb hb' =>
    (gseal_any 8 32 32 0 0 16 16 _ none _ zF zF zF zF U (hL.grown hU (by simp)) (Nat.lt_of_lt_of_le hsz hU.size) (Or.inr rfl) rfl hb.rd zF_lt zF_lt (rd_nil _ _ _) zF_lt (by decide) (by decide) hb'.rd zF_lt (by decide) (by decide)).mono fun e w' h => h.gave row_B)
  have HSC : Hid (∀ U b, Calls Tryd.prog 7 #[.slice (some ⟨b, 0, none⟩) 24 24, .agg (cellsOf .u8 12 zF), .slice none 0 0, .slice none 0 0] U fun e w' => e = .returned (.tuple #[.slice none 0 0, .int .i64 2]) ∧ U.grownBy w' none) := Lib.hid (fun U b =>
    gseal_err 24 24 0 0 0 0 _ none none zF U (by decide) (by decide))
  have HOA : Hid (∀ U b a c, w.grownBy U none → FillIs U b 32 → Rd U U.heap.size a 32 (lst bbL) → 32 ≤ c → Calls Tryd.prog 8 #[.slice (some ⟨b, 0, none⟩) 32 32, .agg (cellsOf .u8 12 zF), .slice none 0 0, .slice a 32 c] U fun e w' => ∃ v, e = .returned v ∧ GaveB U 16 zF v w' ∧ U.grownBy w' none) := Lib.hid (fun U b a c hU hb ha hc =>
    (gopen_any 8 32 32 0 0 32 c _ none a zF zF zF (lst bbL) U (hL.grown hU (by simp)) (Nat.lt_of_lt_of_le hsz hU.size) (Or.inr rfl) rfl hb.rd zF_lt zF_lt (rd_nil _ _ _) zF_lt (by decide) (by decide) ha bb_lt hc (by decide)).mono fun e w' h => by
      obtain ⟨v, h1, h2⟩ := h.good row_open
      obtain ⟨a, c, rfl, h4, h5⟩ := h2.rd
      exact ⟨_, h1, ⟨a, c, rfl, h4, h5.congr row_text⟩, h.gr⟩)
  have HOB : Hid (∀ U b a c, w.grownBy U none → FillIs U b 32 → Rd U U.heap.size a 31 (fun i => lst bbL (1 + i)) → 31 ≤ c → Calls Tryd.prog 8 #[.slice (some ⟨b, 0, none⟩) 32 32, .agg (cellsOf .u8 12 zF), .slice none 0 0, .slice a 31 c] U fun e w' => e = .returned (.tuple #[.slice none 0 0, .int .i64 140]) ∧ U.grownBy w' none) := Lib.hid (fun U b a c hU hb ha hc =>
    (gopen_any 8 32 32 0 0 31 c _ none a zF zF zF (fun i => lst bbL (1 + i)) U (hL.grown hU (by simp)) (Nat.lt_of_lt_of_le hsz hU.size) (Or.inr rfl) rfl hb.rd zF_lt zF_lt (rd_nil _ _ _) zF_lt (by decide) (by decide) ha (fun i => bb_lt _) hc (by decide)).mono fun e w' h => ⟨h.bad row_less, h.gr⟩)
  have HOC : Hid (∀ U b a c, w.grownBy U none → FillIs U b 32 → Rd U U.heap.size a 15 (lst bbL) → 15 ≤ c → Calls Tryd.prog 8 #[.slice (some ⟨b, 0, none⟩) 32 32, .agg (cellsOf .u8 12 zF), .slice none 0 0, .slice a 15 c] U fun e w' => e = .returned (.tuple #[.slice none 0 0, .int .i64 140]) ∧ U.grownBy w' none) := Lib.hid (fun U b a c hU hb ha hc =>
    (gopen_any 8 32 32 0 0 15 c _ none a zF zF zF (lst bbL) U (hL.grown hU (by simp)) (Nat.lt_of_lt_of_le hsz hU.size) (Or.inr rfl) rfl hb.rd zF_lt zF_lt (rd_nil _ _ _) zF_lt (by decide) (by decide) ha bb_lt hc (by decide)).mono fun e w' h => ⟨h.bad row_short, h.gr⟩)
  have HOD : Hid (∀ U a c, Calls Tryd.prog 8 #[.slice none 0 0, .agg (cellsOf .u8 12 zF), .slice none 0 0, .slice a 32 c] U fun e w' => e = .returned (.tuple #[.slice none 0 0, .int .i64 2]) ∧ U.grownBy w' none) := Lib.hid (fun U a c =>
    gopen_err 0 0 0 0 32 c none none a zF U (by decide) (by decide))
  have hB : Holds (w.alloc (.cells #[.int .u8 0, .int .u8 0, .int .u8 0, .int .u8 0, .int .u8 0, .int .u8 0, .int .u8 0, .int .u8 0, .int .u8 0, .int .u8 0, .int .u8 0, .int .u8 0] 23)) w.heap.size 23 .u8 12 zF := holds_alloc w _ .u8 12 _ _ rfl
  have g1 := World.grownBy_alloc w (.cells #[.int .u8 0, .int .u8 0, .int .u8 0, .int .u8 0, .int .u8 0, .int .u8 0, .int .u8 0, .int .u8 0, .int .u8 0, .int .u8 0, .int .u8 0, .int .u8 0] 23) none
  have HsA : Hid (strOf 16 (lst tgAL) = ⟨#[88, 226, 252, 206, 250, 126, 48, 97, 54, 127, 29, 87, 164, 231, 69, 90]⟩) := Lib.hid (by kernel_rfl)
  have HsB : Hid (strOf 32 (lst bbL) = ⟨#[206, 167, 64, 61, 77, 96, 107, 110, 7, 78, 197, 211, 186, 243, 157, 24, 208, 209, 200, 167, 153, 153, 107, 240, 38, 91, 152, 181, 212, 138, 185, 25]⟩) := Lib.hid (by kernel_rfl)
  have tgA_lt : ∀ i, lst tgAL i < 256 := fun i => getD_lt 256 (by decide) tgAL (by decide) i
  clear hL hsz
  go_enter Tryd.func5, Tryd.ntmps5
  go_upto_region 2 with fail
  generalize w.alloc (.cells #[.int .u8 0, .int .u8 0, .int .u8 0, .int .u8 0, .int .u8 0, .int .u8 0, .int .u8 0, .int .u8 0, .int .u8 0, .int .u8 0, .int .u8 0, .int .u8 0] 23) = w1 at *
  obtain ⟨V0, hV0⟩ : ∃ V0, V0 = w1.drew := ⟨_, rfl⟩
  have hv0 : w1.grownBy V0 none := by rw [hV0]; exact grown_drew (grown_refl w1 none)
  have HV0 := Lib.hid hV0.symm
  have gv := grown_trans g1 hv0
  have hBv := hB.grown hv0 (by simp)
  clear hV0 hv0 hB g1
  go_cut [2, 3] (fun s2 s3 wx => ∃ a c, s2 = .slice a 16 c ∧ s3 = .int .i64 0 ∧ V0.grownBy wx none ∧ Rd wx wx.heap.size a 16 (lst tgAL))
  case first =>
    refine wp_region_held (S := fun W => V0.grownBy W (none)) (by kernel_rfl) ?_
    change wpAnyH _ _ _ _ _ 8 #[false, false, false, false, false, false, false, false] _ (World.drew _)
    rw [HV0.out]
    have hS0 : V0.grownBy V0 (none) := grown_refl V0 _
    refine wpAnyH_takeD (some 18) (i := 1) (v := .agg (cellsOf .u8 12 zF)) rfl rfl (by kernel_rfl) (by kernel_rfl) (by kernel_rfl) (fun _ _ _ h => h) (Or.inl ⟨rfl, fun W hW => run_twelve (hBv.grown hW (by simp)) rfl rfl⟩) hS0 ?_
    simp only [Act.put, List.setIfInBounds_toArray, List.set_cons_succ, List.set_cons_zero]
    refine wpAnyH_one (i := 0) (by kernel_rfl) (op_make (some 17) 16 ⟨by decide, by decide⟩ rfl rfl rfl rfl hS0 ?_)
    intro V1 gg1 hS1 hK
    have hS_K := hS0.size
    simp only [Act.put, List.setIfInBounds_toArray, List.set_cons_succ, List.set_cons_zero]
    refine wpAnyH_one (i := 2) (by kernel_rfl) (op_callR (R := fun v w' => GaveB V1 16 (lst tgAL) v w' ∧ V1.grownBy w' none) (some 19) 7 #[.slice (some ⟨V0.heap.size, 0, none⟩) 16 16, .agg (cellsOf .u8 12 zF), .slice none 0 0, .slice none 0 0] rfl rfl rfl (exec_fn4 _ _ _ _ _ _ _ _ _ rfl rfl rfl rfl rfl) gseal_enters (HSA.out V1 _ (grown_trans gv hS1) hK) ?_)
    rintro vv2 V2 ⟨⟨⟨x, y, rfl, hxc, hx⟩⟩, gg2⟩
    have hS2 := grown_trans hS1 (grown_some gg2)
    refine ⟨hS2, ?_⟩
    simp only [Act.put, List.setIfInBounds_toArray, List.set_cons_succ, List.set_cons_zero]
    have hK_2 := hK.grown gg2 (by simp)
    refine wpAnyH_takeD (some 16) (i := 3) (v := .tuple #[.slice x 16 y, .int .i64 0]) rfl rfl (by kernel_rfl) (by kernel_rfl) (by kernel_rfl) (fun _ _ _ h => h) (Or.inl ⟨rfl, fun _ _ => rfl⟩) hS2 ?_
    simp only [Act.put, List.setIfInBounds_toArray, List.set_cons_succ, List.set_cons_zero]
    refine wpAnyH_takeD (some 20) (i := 4) (v := .slice x 16 y) rfl rfl (by kernel_rfl) (by kernel_rfl) (by kernel_rfl) (fun _ _ _ h => h) (Or.inl ⟨rfl, fun _ _ => by go_simp⟩) hS2 ?_
    simp only [Act.put, List.setIfInBounds_toArray, List.set_cons_succ, List.set_cons_zero]
    refine wpAnyH_takeD (some 21) (i := 5) (v := .int .i64 0) rfl rfl (by kernel_rfl) (by kernel_rfl) (by kernel_rfl) (fun _ _ _ h => h) (Or.inl ⟨rfl, fun _ _ => by go_simp⟩) hS2 ?_
    simp only [Act.put, List.setIfInBounds_toArray, List.set_cons_succ, List.set_cons_zero]
    refine wpAnyH_takeD (some 2) (i := 6) (v := .slice x 16 y) rfl rfl (by kernel_rfl) (by kernel_rfl) (by kernel_rfl) (fun _ _ _ h => h) (Or.inl ⟨rfl, fun _ _ => rfl⟩) hS2 ?_
    simp only [Act.put, List.setIfInBounds_toArray, List.set_cons_succ, List.set_cons_zero]
    refine wpAnyH_takeD (some 3) (i := 7) (v := .int .i64 0) rfl rfl (by kernel_rfl) (by kernel_rfl) (by kernel_rfl) (fun _ _ _ h => h) (Or.inl ⟨rfl, fun _ _ => rfl⟩) hS2 ?_
    simp only [Act.put, List.setIfInBounds_toArray, List.set_cons_succ, List.set_cons_zero]
    refine wpAnyH_done (by kernel_rfl) ?_ _
    go_wp2_with fail
    go_meet
    case rel => exact ⟨_, _, rfl, rfl, hS2, hx⟩
  case rest =>
    obtain ⟨aA, cA, rfl, rfl, g2, hRA⟩ := hcut
    have g02 := grown_trans gv g2
    have hB2 := hBv.grown g2 (by simp)
    clear HV0 gv hBv g2
    go_upto_region 3 with fail
    obtain ⟨V0, hV0⟩ : ∃ V0, V0 = wc.drew := ⟨_, rfl⟩
    have hv0 : wc.grownBy V0 none := by rw [hV0]; exact grown_drew (grown_refl wc none)
    have HV0 := Lib.hid hV0.symm
    have gv := grown_trans g02 hv0
    have hBv := hB2.grown hv0 (by simp)
    have hRAv := hRA.up (Nat.le_refl _) hv0
    clear hV0 hv0 hB2 g02 hRA
    go_cut [4, 5] (fun s4 s5 wx => ∃ a c, s4 = .slice a 32 c ∧ s5 = .int .i64 0 ∧ 32 ≤ c ∧ V0.grownBy wx none ∧ Rd wx wx.heap.size a 32 (lst bbL))
    case first =>
      refine wp_region_held (S := fun W => V0.grownBy W (none)) (by kernel_rfl) ?_
      change wpAnyH _ _ _ _ _ 9 #[false, false, false, false, false, false, false, false, false] _ (World.drew _)
      rw [HV0.out]
      have hS0 : V0.grownBy V0 (none) := grown_refl V0 _
      refine wpAnyH_takeD (some 24) (i := 1) (v := .agg (cellsOf .u8 12 zF)) rfl rfl (by kernel_rfl) (by kernel_rfl) (by kernel_rfl) (fun _ _ _ h => h) (Or.inl ⟨rfl, fun W hW => run_twelve (hBv.grown hW (by simp)) rfl rfl⟩) hS0 ?_
      simp only [Act.put, List.setIfInBounds_toArray, List.set_cons_succ, List.set_cons_zero]
      refine wpAnyH_both (i := 0) (j := 2) (by kernel_rfl) ?_ ?_
      · refine (op_make (some 23) 32 ⟨by decide, by decide⟩ rfl rfl rfl rfl hS0 ?_)
        intro V1 gg1 hS1 hK
        have hS_K := hS0.size
        simp only [Act.put, List.setIfInBounds_toArray, List.set_cons_succ, List.set_cons_zero]
        refine wpAnyH_one (i := 2) (by kernel_rfl) (op_make (some 25) 16 ⟨by decide, by decide⟩ rfl rfl rfl rfl hS1 ?_)
        intro V2 gg2 hS2 hT
        have hS_T := hS1.size
        simp only [Act.put, List.setIfInBounds_toArray, List.set_cons_succ, List.set_cons_zero]
        have hK_2 := hK.grown gg2 (by simp)
        refine wpAnyH_one (i := 3) (by kernel_rfl) (op_callR (R := fun v w' => GaveB V2 32 (lst bbL) v w' ∧ V2.grownBy w' none) (some 26) 7 #[.slice (some ⟨V0.heap.size, 0, none⟩) 32 32, .agg (cellsOf .u8 12 zF), .slice none 0 0, .slice (some ⟨V1.heap.size, 0, none⟩) 16 16] rfl rfl rfl (exec_fn4 _ _ _ _ _ _ _ _ _ rfl rfl rfl rfl rfl) gseal_enters (HSB.out V2 _ _ (grown_trans gv hS2) hK_2 hT) ?_)
        rintro vv3 V3 ⟨⟨⟨x, y, rfl, hxc, hx⟩⟩, gg3⟩
        have hS3 := grown_trans hS2 (grown_some gg3)
        refine ⟨hS3, ?_⟩
        simp only [Act.put, List.setIfInBounds_toArray, List.set_cons_succ, List.set_cons_zero]
        have hK_3 := hK_2.grown gg3 (by simp)
        have hT_3 := hT.grown gg3 (by simp)
        refine wpAnyH_takeD (some 22) (i := 4) (v := .tuple #[.slice x 32 y, .int .i64 0]) rfl rfl (by kernel_rfl) (by kernel_rfl) (by kernel_rfl) (fun _ _ _ h => h) (Or.inl ⟨rfl, fun _ _ => rfl⟩) hS3 ?_
        simp only [Act.put, List.setIfInBounds_toArray, List.set_cons_succ, List.set_cons_zero]
        refine wpAnyH_takeD (some 27) (i := 5) (v := .slice x 32 y) rfl rfl (by kernel_rfl) (by kernel_rfl) (by kernel_rfl) (fun _ _ _ h => h) (Or.inl ⟨rfl, fun _ _ => by go_simp⟩) hS3 ?_
        simp only [Act.put, List.setIfInBounds_toArray, List.set_cons_succ, List.set_cons_zero]
        refine wpAnyH_takeD (some 28) (i := 6) (v := .int .i64 0) rfl rfl (by kernel_rfl) (by kernel_rfl) (by kernel_rfl) (fun _ _ _ h => h) (Or.inl ⟨rfl, fun _ _ => by go_simp⟩) hS3 ?_
        simp only [Act.put, List.setIfInBounds_toArray, List.set_cons_succ, List.set_cons_zero]
        refine wpAnyH_takeD (some 4) (i := 7) (v := .slice x 32 y) rfl rfl (by kernel_rfl) (by kernel_rfl) (by kernel_rfl) (fun _ _ _ h => h) (Or.inl ⟨rfl, fun _ _ => rfl⟩) hS3 ?_
        simp only [Act.put, List.setIfInBounds_toArray, List.set_cons_succ, List.set_cons_zero]
        refine wpAnyH_takeD (some 5) (i := 8) (v := .int .i64 0) rfl rfl (by kernel_rfl) (by kernel_rfl) (by kernel_rfl) (fun _ _ _ h => h) (Or.inl ⟨rfl, fun _ _ => rfl⟩) hS3 ?_
        simp only [Act.put, List.setIfInBounds_toArray, List.set_cons_succ, List.set_cons_zero]
        refine wpAnyH_done (by kernel_rfl) ?_ _
        go_wp2_with fail
        go_meet
        case rel => exact ⟨_, _, rfl, rfl, hxc, hS3, hx⟩
      · refine (op_make (some 25) 16 ⟨by decide, by decide⟩ rfl rfl rfl rfl hS0 ?_)
        intro V1 gg1 hS1 hT
        have hS_T := hS0.size
        simp only [Act.put, List.setIfInBounds_toArray, List.set_cons_succ, List.set_cons_zero]
        refine wpAnyH_one (i := 0) (by kernel_rfl) (op_make (some 23) 32 ⟨by decide, by decide⟩ rfl rfl rfl rfl hS1 ?_)
        intro V2 gg2 hS2 hK
        have hS_K := hS1.size
        simp only [Act.put, List.setIfInBounds_toArray, List.set_cons_succ, List.set_cons_zero]
        have hT_2 := hT.grown gg2 (by simp)
        refine wpAnyH_one (i := 3) (by kernel_rfl) (op_callR (R := fun v w' => GaveB V2 32 (lst bbL) v w' ∧ V2.grownBy w' none) (some 26) 7 #[.slice (some ⟨V1.heap.size, 0, none⟩) 32 32, .agg (cellsOf .u8 12 zF), .slice none 0 0, .slice (some ⟨V0.heap.size, 0, none⟩) 16 16] rfl rfl rfl (exec_fn4 _ _ _ _ _ _ _ _ _ rfl rfl rfl rfl rfl) gseal_enters (HSB.out V2 _ _ (grown_trans gv hS2) hK hT_2) ?_)
        rintro vv3 V3 ⟨⟨⟨x, y, rfl, hxc, hx⟩⟩, gg3⟩
        have hS3 := grown_trans hS2 (grown_some gg3)
        refine ⟨hS3, ?_⟩
        simp only [Act.put, List.setIfInBounds_toArray, List.set_cons_succ, List.set_cons_zero]
        have hT_3 := hT_2.grown gg3 (by simp)
        have hK_3 := hK.grown gg3 (by simp)
        refine wpAnyH_takeD (some 22) (i := 4) (v := .tuple #[.slice x 32 y, .int .i64 0]) rfl rfl (by kernel_rfl) (by kernel_rfl) (by kernel_rfl) (fun _ _ _ h => h) (Or.inl ⟨rfl, fun _ _ => rfl⟩) hS3 ?_
        simp only [Act.put, List.setIfInBounds_toArray, List.set_cons_succ, List.set_cons_zero]
        refine wpAnyH_takeD (some 27) (i := 5) (v := .slice x 32 y) rfl rfl (by kernel_rfl) (by kernel_rfl) (by kernel_rfl) (fun _ _ _ h => h) (Or.inl ⟨rfl, fun _ _ => by go_simp⟩) hS3 ?_
        simp only [Act.put, List.setIfInBounds_toArray, List.set_cons_succ, List.set_cons_zero]
        refine wpAnyH_takeD (some 28) (i := 6) (v := .int .i64 0) rfl rfl (by kernel_rfl) (by kernel_rfl) (by kernel_rfl) (fun _ _ _ h => h) (Or.inl ⟨rfl, fun _ _ => by go_simp⟩) hS3 ?_
        simp only [Act.put, List.setIfInBounds_toArray, List.set_cons_succ, List.set_cons_zero]
        refine wpAnyH_takeD (some 4) (i := 7) (v := .slice x 32 y) rfl rfl (by kernel_rfl) (by kernel_rfl) (by kernel_rfl) (fun _ _ _ h => h) (Or.inl ⟨rfl, fun _ _ => rfl⟩) hS3 ?_
        simp only [Act.put, List.setIfInBounds_toArray, List.set_cons_succ, List.set_cons_zero]
        refine wpAnyH_takeD (some 5) (i := 8) (v := .int .i64 0) rfl rfl (by kernel_rfl) (by kernel_rfl) (by kernel_rfl) (fun _ _ _ h => h) (Or.inl ⟨rfl, fun _ _ => rfl⟩) hS3 ?_
        simp only [Act.put, List.setIfInBounds_toArray, List.set_cons_succ, List.set_cons_zero]
        refine wpAnyH_done (by kernel_rfl) ?_ _
        go_wp2_with fail
        go_meet
        case rel => exact ⟨_, _, rfl, rfl, hxc, hS3, hx⟩
    case rest =>
      obtain ⟨aB, cB, rfl, rfl, hcB, g2, hRB⟩ := hcut
      have g02 := grown_trans gv g2
      have hB2 := hBv.grown g2 (by simp)
      have hRA2 := hRAv.up (Nat.le_refl _) g2
      clear HV0 gv hBv hRAv g2
      go_upto_region 4 with fail
      obtain ⟨V0, hV0⟩ : ∃ V0, V0 = wc.drew := ⟨_, rfl⟩
      have hv0 : wc.grownBy V0 none := by rw [hV0]; exact grown_drew (grown_refl wc none)
      have HV0 := Lib.hid hV0.symm
      have gv := grown_trans g02 hv0
      have hBv := hB2.grown hv0 (by simp)
      have hRAv := hRA2.up (Nat.le_refl _) hv0
      have hRBv := hRB.up (Nat.le_refl _) hv0
      clear hV0 hv0 hB2 g02 hRA2 hRB
      go_cut [6, 7] (fun s6 s7 wx => s6 = .slice none 0 0 ∧ s7 = .int .i64 2 ∧ V0.grownBy wx none)
      case first =>
        refine wp_region_held (S := fun W => V0.grownBy W (none)) (by kernel_rfl) ?_
        change wpAnyH _ _ _ _ _ 8 #[false, false, false, false, false, false, false, false] _ (World.drew _)
        rw [HV0.out]
        have hS0 : V0.grownBy V0 (none) := grown_refl V0 _
        refine wpAnyH_takeD (some 31) (i := 1) (v := .agg (cellsOf .u8 12 zF)) rfl rfl (by kernel_rfl) (by kernel_rfl) (by kernel_rfl) (fun _ _ _ h => h) (Or.inl ⟨rfl, fun W hW => run_twelve (hBv.grown hW (by simp)) rfl rfl⟩) hS0 ?_
        simp only [Act.put, List.setIfInBounds_toArray, List.set_cons_succ, List.set_cons_zero]
        refine wpAnyH_one (i := 0) (by kernel_rfl) (op_make (some 30) 24 ⟨by decide, by decide⟩ rfl rfl rfl rfl hS0 ?_)
        intro V1 gg1 hS1 hK
        have hS_K := hS0.size
        simp only [Act.put, List.setIfInBounds_toArray, List.set_cons_succ, List.set_cons_zero]
        refine wpAnyH_one (i := 2) (by kernel_rfl) (op_call (some 32) 7 #[.slice (some ⟨V0.heap.size, 0, none⟩) 24 24, .agg (cellsOf .u8 12 zF), .slice none 0 0, .slice none 0 0] (.tuple #[.slice none 0 0, .int .i64 2]) rfl rfl rfl (exec_fn4 _ _ _ _ _ _ _ _ _ rfl rfl rfl rfl rfl) gseal_enters (HSC.out V1 _) hS1 ?_)
        intro V2 gg2 hS2
        simp only [Act.put, List.setIfInBounds_toArray, List.set_cons_succ, List.set_cons_zero]
        have hK_2 := hK.grown gg2 (by simp)
        refine wpAnyH_takeD (some 29) (i := 3) (v := .tuple #[.slice none 0 0, .int .i64 2]) rfl rfl (by kernel_rfl) (by kernel_rfl) (by kernel_rfl) (fun _ _ _ h => h) (Or.inl ⟨rfl, fun _ _ => rfl⟩) hS2 ?_
        simp only [Act.put, List.setIfInBounds_toArray, List.set_cons_succ, List.set_cons_zero]
        refine wpAnyH_takeD (some 33) (i := 4) (v := .slice none 0 0) rfl rfl (by kernel_rfl) (by kernel_rfl) (by kernel_rfl) (fun _ _ _ h => h) (Or.inl ⟨rfl, fun _ _ => by go_simp⟩) hS2 ?_
        simp only [Act.put, List.setIfInBounds_toArray, List.set_cons_succ, List.set_cons_zero]
        refine wpAnyH_takeD (some 34) (i := 5) (v := .int .i64 2) rfl rfl (by kernel_rfl) (by kernel_rfl) (by kernel_rfl) (fun _ _ _ h => h) (Or.inl ⟨rfl, fun _ _ => by go_simp⟩) hS2 ?_
        simp only [Act.put, List.setIfInBounds_toArray, List.set_cons_succ, List.set_cons_zero]
        refine wpAnyH_takeD (some 6) (i := 6) (v := .slice none 0 0) rfl rfl (by kernel_rfl) (by kernel_rfl) (by kernel_rfl) (fun _ _ _ h => h) (Or.inl ⟨rfl, fun _ _ => rfl⟩) hS2 ?_
        simp only [Act.put, List.setIfInBounds_toArray, List.set_cons_succ, List.set_cons_zero]
        refine wpAnyH_takeD (some 7) (i := 7) (v := .int .i64 2) rfl rfl (by kernel_rfl) (by kernel_rfl) (by kernel_rfl) (fun _ _ _ h => h) (Or.inl ⟨rfl, fun _ _ => rfl⟩) hS2 ?_
        simp only [Act.put, List.setIfInBounds_toArray, List.set_cons_succ, List.set_cons_zero]
        refine wpAnyH_done (by kernel_rfl) ?_ _
        go_wp2_with fail
        go_meet
        case rel => exact ⟨rfl, rfl, hS2⟩
      case rest =>
        obtain ⟨rfl, rfl, g2⟩ := hcut
        have g02 := grown_trans gv g2
        have hB2 := hBv.grown g2 (by simp)
        have hRA2 := hRAv.up (Nat.le_refl _) g2
        have hRB2 := hRBv.up (Nat.le_refl _) g2
        have hcvA : (convert 22 9 (.slice aA 16 cA)).run Tryd.prog wc = .ok (.string ⟨#[88, 226, 252, 206, 250, 126, 48, 97, 54, 127, 29, 87, 164, 231, 69, 90]⟩) wc := by
          rw [← HsA.out]; exact run_string cA hRA2 tgA_lt
        have hcvB : (convert 22 9 (.slice aB 32 cB)).run Tryd.prog wc = .ok (.string ⟨#[206, 167, 64, 61, 77, 96, 107, 110, 7, 78, 197, 211, 186, 243, 157, 24, 208, 209, 200, 167, 153, 153, 107, 240, 38, 91, 152, 181, 212, 138, 185, 25]⟩) wc := by
          rw [← HsB.out]; exact run_string cB hRB2 bb_lt
        clear HV0 gv hBv hRAv hRBv g2 hRA2
        go_upto_region 7 with fail
        clear hcvA hcvB
        obtain ⟨V0, hV0⟩ : ∃ V0, V0 = wc.drew := ⟨_, rfl⟩
        have hv0 : wc.grownBy V0 none := by rw [hV0]; exact grown_drew (grown_refl wc none)
        have HV0 := Lib.hid hV0.symm
        have gv := grown_trans g02 hv0
        have hBv := hB2.grown hv0 (by simp)
        have hRBv := hRB2.up (Nat.le_refl _) hv0
        clear hV0 hv0 hB2 g02 hRB2
        go_cut [8, 9] (fun s8 s9 wx => ∃ a c, s8 = .slice a 16 c ∧ s9 = .int .i64 0 ∧ V0.grownBy wx none ∧ Rd wx wx.heap.size a 16 zF)
        case first =>
          refine wp_region_held (S := fun W => V0.grownBy W (none)) (by kernel_rfl) ?_
          change wpAnyH _ _ _ _ _ 9 #[false, false, false, false, false, false, false, false, false] _ (World.drew _)
          rw [HV0.out]
          have hS0 : V0.grownBy V0 (none) := grown_refl V0 _
          refine wpAnyH_takeD (some 57) (i := 1) (v := .agg (cellsOf .u8 12 zF)) rfl rfl (by kernel_rfl) (by kernel_rfl) (by kernel_rfl) (fun _ _ _ h => h) (Or.inl ⟨rfl, fun W hW => run_twelve (hBv.grown hW (by simp)) rfl rfl⟩) hS0 ?_
          simp only [Act.put, List.setIfInBounds_toArray, List.set_cons_succ, List.set_cons_zero]
          refine wpAnyH_takeD (some 58) (i := 2) (v := .slice aB 32 cB) rfl rfl (by kernel_rfl) (by kernel_rfl) (by kernel_rfl) (fun _ _ _ h => h) (Or.inl ⟨rfl, fun _ _ => rfl⟩) hS0 ?_
          simp only [Act.put, List.setIfInBounds_toArray, List.set_cons_succ, List.set_cons_zero]
          refine wpAnyH_one (i := 0) (by kernel_rfl) (op_make (some 56) 32 ⟨by decide, by decide⟩ rfl rfl rfl rfl hS0 ?_)
          intro V1 gg1 hS1 hK
          have hS_K := hS0.size
          simp only [Act.put, List.setIfInBounds_toArray, List.set_cons_succ, List.set_cons_zero]
          refine wpAnyH_one (i := 3) (by kernel_rfl) (op_callR (R := fun v w' => GaveB V1 16 (zF) v w' ∧ V1.grownBy w' none) (some 59) 8 #[.slice (some ⟨V0.heap.size, 0, none⟩) 32 32, .agg (cellsOf .u8 12 zF), .slice none 0 0, .slice aB 32 cB] rfl rfl rfl (exec_fn4 _ _ _ _ _ _ _ _ _ rfl rfl rfl rfl rfl) gopen_enters (HOA.out V1 _ _ _ (grown_trans gv hS1) hK (hRBv.up (Nat.le_refl _) hS1) hcB) ?_)
          rintro vv2 V2 ⟨⟨⟨x, y, rfl, hxc, hx⟩⟩, gg2⟩
          have hS2 := grown_trans hS1 (grown_some gg2)
          refine ⟨hS2, ?_⟩
          simp only [Act.put, List.setIfInBounds_toArray, List.set_cons_succ, List.set_cons_zero]
          have hK_2 := hK.grown gg2 (by simp)
          refine wpAnyH_takeD (some 55) (i := 4) (v := .tuple #[.slice x 16 y, .int .i64 0]) rfl rfl (by kernel_rfl) (by kernel_rfl) (by kernel_rfl) (fun _ _ _ h => h) (Or.inl ⟨rfl, fun _ _ => rfl⟩) hS2 ?_
          simp only [Act.put, List.setIfInBounds_toArray, List.set_cons_succ, List.set_cons_zero]
          refine wpAnyH_takeD (some 60) (i := 5) (v := .slice x 16 y) rfl rfl (by kernel_rfl) (by kernel_rfl) (by kernel_rfl) (fun _ _ _ h => h) (Or.inl ⟨rfl, fun _ _ => by go_simp⟩) hS2 ?_
          simp only [Act.put, List.setIfInBounds_toArray, List.set_cons_succ, List.set_cons_zero]
          refine wpAnyH_takeD (some 61) (i := 6) (v := .int .i64 0) rfl rfl (by kernel_rfl) (by kernel_rfl) (by kernel_rfl) (fun _ _ _ h => h) (Or.inl ⟨rfl, fun _ _ => by go_simp⟩) hS2 ?_
          simp only [Act.put, List.setIfInBounds_toArray, List.set_cons_succ, List.set_cons_zero]
          refine wpAnyH_takeD (some 8) (i := 7) (v := .slice x 16 y) rfl rfl (by kernel_rfl) (by kernel_rfl) (by kernel_rfl) (fun _ _ _ h => h) (Or.inl ⟨rfl, fun _ _ => rfl⟩) hS2 ?_
          simp only [Act.put, List.setIfInBounds_toArray, List.set_cons_succ, List.set_cons_zero]
          refine wpAnyH_takeD (some 9) (i := 8) (v := .int .i64 0) rfl rfl (by kernel_rfl) (by kernel_rfl) (by kernel_rfl) (fun _ _ _ h => h) (Or.inl ⟨rfl, fun _ _ => rfl⟩) hS2 ?_
          simp only [Act.put, List.setIfInBounds_toArray, List.set_cons_succ, List.set_cons_zero]
          refine wpAnyH_done (by kernel_rfl) ?_ _
          go_wp2_with fail
          go_meet
          case rel => exact ⟨_, _, rfl, rfl, hS2, hx⟩
        case rest =>
          obtain ⟨aC, cC, rfl, rfl, g2, hRC⟩ := hcut
          have g02 := grown_trans gv g2
          have hB2 := hBv.grown g2 (by simp)
          have hRB2 := hRBv.up (Nat.le_refl _) g2
          clear HV0 gv hBv hRBv g2
          go_upto_region 8 with fail
          obtain ⟨V0, hV0⟩ : ∃ V0, V0 = wc.drew := ⟨_, rfl⟩
          have hv0 : wc.grownBy V0 none := by rw [hV0]; exact grown_drew (grown_refl wc none)
          have HV0 := Lib.hid hV0.symm
          have gv := grown_trans g02 hv0
          have hBv := hB2.grown hv0 (by simp)
          have hRBv := hRB2.up (Nat.le_refl _) hv0
          have hRCv := hRC.up (Nat.le_refl _) hv0
          obtain ⟨tb, tp, rfl, aD, hrest, hRd2⟩ := rest_of (len := 32) (cap := cB) (l := 1) hRBv (by decide) hcB
          have Hrest := Lib.hid hrest
          have HRd2 := Lib.hid hRd2
          clear hV0 hv0 hB2 g02 hRB2 hRC hrest hRd2
          go_cut [10, 11] (fun s10 s11 wx => s10 = .slice none 0 0 ∧ s11 = .int .i64 140 ∧ V0.grownBy wx none)
          case first =>
            refine wp_region_held (S := fun W => V0.grownBy W (none)) (by kernel_rfl) ?_
            change wpAnyH _ _ _ _ _ 10 #[false, false, false, false, false, false, false, false, false, false] _ (World.drew _)
            rw [HV0.out]
            have hS0 : V0.grownBy V0 (none) := grown_refl V0 _
            refine wpAnyH_takeD (some 64) (i := 1) (v := .agg (cellsOf .u8 12 zF)) rfl rfl (by kernel_rfl) (by kernel_rfl) (by kernel_rfl) (fun _ _ _ h => h) (Or.inl ⟨rfl, fun W hW => run_twelve (hBv.grown hW (by simp)) rfl rfl⟩) hS0 ?_
            simp only [Act.put, List.setIfInBounds_toArray, List.set_cons_succ, List.set_cons_zero]
            refine wpAnyH_takeD (some 65) (i := 2) (v := .slice (some ⟨tb, tp, none⟩) 32 cB) rfl rfl (by kernel_rfl) (by kernel_rfl) (by kernel_rfl) (fun _ _ _ h => h) (Or.inl ⟨rfl, fun _ _ => rfl⟩) hS0 ?_
            simp only [Act.put, List.setIfInBounds_toArray, List.set_cons_succ, List.set_cons_zero]
            refine wpAnyH_takeD (some 66) (i := 3) (v := .slice aD 31 (cB - 1)) rfl rfl (by kernel_rfl) (by kernel_rfl) (by kernel_rfl) (fun _ _ _ h => h) (Or.inl ⟨rfl, fun W hW => ex_restC 65 rfl rfl Hrest.out⟩) hS0 ?_
            simp only [Act.put, List.setIfInBounds_toArray, List.set_cons_succ, List.set_cons_zero]
            refine wpAnyH_one (i := 0) (by kernel_rfl) (op_make (some 63) 32 ⟨by decide, by decide⟩ rfl rfl rfl rfl hS0 ?_)
            intro V1 gg1 hS1 hK
            have hS_K := hS0.size
            simp only [Act.put, List.setIfInBounds_toArray, List.set_cons_succ, List.set_cons_zero]
            refine wpAnyH_one (i := 4) (by kernel_rfl) (op_call (some 67) 8 #[.slice (some ⟨V0.heap.size, 0, none⟩) 32 32, .agg (cellsOf .u8 12 zF), .slice none 0 0, .slice aD 31 (cB - 1)] (.tuple #[.slice none 0 0, .int .i64 140]) rfl rfl rfl (exec_fn4 _ _ _ _ _ _ _ _ _ rfl rfl rfl rfl rfl) gopen_enters (HOB.out V1 _ _ _ (grown_trans gv hS1) hK ((HRd2.out _ (hRBv.grown hS1 (fun _ e => by cases e))).mono (hS1).size) (by omega)) hS1 ?_)
            intro V2 gg2 hS2
            simp only [Act.put, List.setIfInBounds_toArray, List.set_cons_succ, List.set_cons_zero]
            have hK_2 := hK.grown gg2 (by simp)
            refine wpAnyH_takeD (some 62) (i := 5) (v := .tuple #[.slice none 0 0, .int .i64 140]) rfl rfl (by kernel_rfl) (by kernel_rfl) (by kernel_rfl) (fun _ _ _ h => h) (Or.inl ⟨rfl, fun _ _ => rfl⟩) hS2 ?_
            simp only [Act.put, List.setIfInBounds_toArray, List.set_cons_succ, List.set_cons_zero]
            refine wpAnyH_takeD (some 68) (i := 6) (v := .slice none 0 0) rfl rfl (by kernel_rfl) (by kernel_rfl) (by kernel_rfl) (fun _ _ _ h => h) (Or.inl ⟨rfl, fun _ _ => by go_simp⟩) hS2 ?_
            simp only [Act.put, List.setIfInBounds_toArray, List.set_cons_succ, List.set_cons_zero]
            refine wpAnyH_takeD (some 69) (i := 7) (v := .int .i64 140) rfl rfl (by kernel_rfl) (by kernel_rfl) (by kernel_rfl) (fun _ _ _ h => h) (Or.inl ⟨rfl, fun _ _ => by go_simp⟩) hS2 ?_
            simp only [Act.put, List.setIfInBounds_toArray, List.set_cons_succ, List.set_cons_zero]
            refine wpAnyH_takeD (some 10) (i := 8) (v := .slice none 0 0) rfl rfl (by kernel_rfl) (by kernel_rfl) (by kernel_rfl) (fun _ _ _ h => h) (Or.inl ⟨rfl, fun _ _ => rfl⟩) hS2 ?_
            simp only [Act.put, List.setIfInBounds_toArray, List.set_cons_succ, List.set_cons_zero]
            refine wpAnyH_takeD (some 11) (i := 9) (v := .int .i64 140) rfl rfl (by kernel_rfl) (by kernel_rfl) (by kernel_rfl) (fun _ _ _ h => h) (Or.inl ⟨rfl, fun _ _ => rfl⟩) hS2 ?_
            simp only [Act.put, List.setIfInBounds_toArray, List.set_cons_succ, List.set_cons_zero]
            refine wpAnyH_done (by kernel_rfl) ?_ _
            go_wp2_with fail
            go_meet
            case rel => exact ⟨rfl, rfl, hS2⟩
          case rest =>
            obtain ⟨rfl, rfl, g2⟩ := hcut
            have g02 := grown_trans gv g2
            have hB2 := hBv.grown g2 (by simp)
            have hRB2 := hRBv.up (Nat.le_refl _) g2
            have hRC2 := hRCv.up (Nat.le_refl _) g2
            clear HV0 gv hBv hRBv hRCv g2 Hrest HRd2
            go_upto_region 9 with fail
            obtain ⟨V0, hV0⟩ : ∃ V0, V0 = wc.drew := ⟨_, rfl⟩
            have hv0 : wc.grownBy V0 none := by rw [hV0]; exact grown_drew (grown_refl wc none)
            have HV0 := Lib.hid hV0.symm
            have gv := grown_trans g02 hv0
            have hBv := hB2.grown hv0 (by simp)
            have hRBv := hRB2.up (Nat.le_refl _) hv0
            have hRCv := hRC2.up (Nat.le_refl _) hv0
            clear hV0 hv0 hB2 g02 hRB2 hRC2
            go_cut [12, 13] (fun s12 s13 wx => s12 = .slice none 0 0 ∧ s13 = .int .i64 140 ∧ V0.grownBy wx none)
            case first =>
              refine wp_region_held (S := fun W => V0.grownBy W (none)) (by kernel_rfl) ?_
              change wpAnyH _ _ _ _ _ 10 #[false, false, false, false, false, false, false, false, false, false] _ (World.drew _)
              rw [HV0.out]
              have hS0 : V0.grownBy V0 (none) := grown_refl V0 _
              refine wpAnyH_takeD (some 72) (i := 1) (v := .agg (cellsOf .u8 12 zF)) rfl rfl (by kernel_rfl) (by kernel_rfl) (by kernel_rfl) (fun _ _ _ h => h) (Or.inl ⟨rfl, fun W hW => run_twelve (hBv.grown hW (by simp)) rfl rfl⟩) hS0 ?_
              simp only [Act.put, List.setIfInBounds_toArray, List.set_cons_succ, List.set_cons_zero]
              refine wpAnyH_takeD (some 73) (i := 2) (v := .slice (some ⟨tb, tp, none⟩) 32 cB) rfl rfl (by kernel_rfl) (by kernel_rfl) (by kernel_rfl) (fun _ _ _ h => h) (Or.inl ⟨rfl, fun _ _ => rfl⟩) hS0 ?_
              simp only [Act.put, List.setIfInBounds_toArray, List.set_cons_succ, List.set_cons_zero]
              refine wpAnyH_takeD (some 74) (i := 3) (v := .slice (some ⟨tb, tp, none⟩) 15 cB) rfl rfl (by kernel_rfl) (by kernel_rfl) (by kernel_rfl) (fun _ _ _ h => h) (Or.inl ⟨rfl, fun W hW => ex_headC 73 rfl rfl (by omega)⟩) hS0 ?_
              simp only [Act.put, List.setIfInBounds_toArray, List.set_cons_succ, List.set_cons_zero]
              refine wpAnyH_one (i := 0) (by kernel_rfl) (op_make (some 71) 32 ⟨by decide, by decide⟩ rfl rfl rfl rfl hS0 ?_)
              intro V1 gg1 hS1 hK
              have hS_K := hS0.size
              simp only [Act.put, List.setIfInBounds_toArray, List.set_cons_succ, List.set_cons_zero]
              refine wpAnyH_one (i := 4) (by kernel_rfl) (op_call (some 75) 8 #[.slice (some ⟨V0.heap.size, 0, none⟩) 32 32, .agg (cellsOf .u8 12 zF), .slice none 0 0, .slice (some ⟨tb, tp, none⟩) 15 cB] (.tuple #[.slice none 0 0, .int .i64 140]) rfl rfl rfl (exec_fn4 _ _ _ _ _ _ _ _ _ rfl rfl rfl rfl rfl) gopen_enters (HOC.out V1 _ _ _ (grown_trans gv hS1) hK ((hRBv.up (Nat.le_refl _) hS1).head (by decide)) (by omega)) hS1 ?_)
              intro V2 gg2 hS2
              simp only [Act.put, List.setIfInBounds_toArray, List.set_cons_succ, List.set_cons_zero]
              have hK_2 := hK.grown gg2 (by simp)
              refine wpAnyH_takeD (some 70) (i := 5) (v := .tuple #[.slice none 0 0, .int .i64 140]) rfl rfl (by kernel_rfl) (by kernel_rfl) (by kernel_rfl) (fun _ _ _ h => h) (Or.inl ⟨rfl, fun _ _ => rfl⟩) hS2 ?_
              simp only [Act.put, List.setIfInBounds_toArray, List.set_cons_succ, List.set_cons_zero]
              refine wpAnyH_takeD (some 76) (i := 6) (v := .slice none 0 0) rfl rfl (by kernel_rfl) (by kernel_rfl) (by kernel_rfl) (fun _ _ _ h => h) (Or.inl ⟨rfl, fun _ _ => by go_simp⟩) hS2 ?_
              simp only [Act.put, List.setIfInBounds_toArray, List.set_cons_succ, List.set_cons_zero]
              refine wpAnyH_takeD (some 77) (i := 7) (v := .int .i64 140) rfl rfl (by kernel_rfl) (by kernel_rfl) (by kernel_rfl) (fun _ _ _ h => h) (Or.inl ⟨rfl, fun _ _ => by go_simp⟩) hS2 ?_
              simp only [Act.put, List.setIfInBounds_toArray, List.set_cons_succ, List.set_cons_zero]
              refine wpAnyH_takeD (some 12) (i := 8) (v := .slice none 0 0) rfl rfl (by kernel_rfl) (by kernel_rfl) (by kernel_rfl) (fun _ _ _ h => h) (Or.inl ⟨rfl, fun _ _ => rfl⟩) hS2 ?_
              simp only [Act.put, List.setIfInBounds_toArray, List.set_cons_succ, List.set_cons_zero]
              refine wpAnyH_takeD (some 13) (i := 9) (v := .int .i64 140) rfl rfl (by kernel_rfl) (by kernel_rfl) (by kernel_rfl) (fun _ _ _ h => h) (Or.inl ⟨rfl, fun _ _ => rfl⟩) hS2 ?_
              simp only [Act.put, List.setIfInBounds_toArray, List.set_cons_succ, List.set_cons_zero]
              refine wpAnyH_done (by kernel_rfl) ?_ _
              go_wp2_with fail
              go_meet
              case rel => exact ⟨rfl, rfl, hS2⟩
            case rest =>
              obtain ⟨rfl, rfl, g2⟩ := hcut
              have g02 := grown_trans gv g2
              have hB2 := (hBv.grown g2 (by simp)).block
              have hRC2 := hRCv.up (Nat.le_refl _) g2
              clear HV0 gv hBv hRBv hRCv g2
              go_wp2_with (refine wpList_load_row rfl 23 (.tmp 1) rfl w.heap.size rfl 23 _ (0, 0) (.array 12 5) hB2 (by kernel_rfl) rfl (by rw [cellsOf_size]; kernel_rfl) ?_)
              go_at_call 8
              with_reducible refine (HOD.out _ _ _).mono ?_
              rintro e w9 ⟨rfl, g9⟩
              have g09 := grown_trans g02 g9
              have hRC9 := hRC2.up (Nat.le_refl _) g9
              clear hB2 g9 hRC2 g02
              go_upto_region 11 with fail
              obtain ⟨V0, hV0⟩ : ∃ V0, V0 = w9.drew := ⟨_, rfl⟩
              have hv0 : w9.grownBy V0 none := by rw [hV0]; exact grown_drew (grown_refl w9 none)
              have HV0 := Lib.hid hV0.symm
              have gv := grown_trans g09 hv0
              have hRCv := hRC9.up (Nat.le_refl _) hv0
              clear hV0 hv0 g09 hRC9
              refine wp_region_held (S := fun W => V0.grownBy W (none)) (by kernel_rfl) ?_
              change wpAnyH _ _ _ _ _ 22 #[false, false, false, false, false, false, false, false, false, false, false, false, false, false, false, false, false, false, false, false, false, false] _ (World.drew _)
              rw [HV0.out]
              have hS0 : V0.grownBy V0 (none) := grown_refl V0 _
              refine wpAnyH_takeD (some 84) (i := 0) (v := .slice aC 16 cC) rfl rfl (by kernel_rfl) (by kernel_rfl) (by kernel_rfl) (fun _ _ _ h => h) (Or.inl ⟨rfl, fun _ _ => rfl⟩) hS0 ?_
              simp only [Act.put, List.setIfInBounds_toArray, List.set_cons_succ, List.set_cons_zero]
              refine wpAnyH_takeD (some 85) (i := 1) (v := .string (strOf 16 zF)) rfl rfl (by kernel_rfl) (by kernel_rfl) (by kernel_rfl) (fun _ _ _ h => h) (Or.inl ⟨rfl, fun W hW => run_convS 84 rfl rfl (hRCv.up (Nat.le_refl _) hW) zF_lt⟩) hS0 ?_
              simp only [Act.put, List.setIfInBounds_toArray, List.set_cons_succ, List.set_cons_zero]
              refine wpAnyH_one (i := 2) (by kernel_rfl) (op_make (some 86) 16 ⟨by decide, by decide⟩ rfl rfl rfl rfl hS0 ?_)
              intro V1 gg1 hS1 hK
              have hS_K := hS0.size
              simp only [Act.put, List.setIfInBounds_toArray, List.set_cons_succ, List.set_cons_zero]
              refine wpAnyH_one (i := 3) (by kernel_rfl) (op_yield (some 87) (v := .string (strOf 16 zF)) (w' := V1) rfl rfl rfl (run_convS 86 rfl rfl (FillIs.rd hK) zF_lt) hS1 ?_)
              simp only [Act.put, List.setIfInBounds_toArray, List.set_cons_succ, List.set_cons_zero]
              refine wpAnyH_takeD (some 88) (i := 4) (v := .bool true) rfl rfl (by kernel_rfl) (by kernel_rfl) (by kernel_rfl) (fun _ _ _ h => h) (Or.inl ⟨rfl, fun _ _ => by go_simp⟩) hS1 ?_
              simp only [Act.put, List.setIfInBounds_toArray, List.set_cons_succ, List.set_cons_zero]
              refine wpAnyH_takeD (some 89) (i := 5) (v := .bool true) rfl rfl (by kernel_rfl) (by kernel_rfl) (by kernel_rfl) (fun _ _ _ h => h) (Or.inl ⟨rfl, fun _ _ => rfl⟩) hS1 ?_
              simp only [Act.put, List.setIfInBounds_toArray, List.set_cons_succ, List.set_cons_zero]
              refine wpAnyH_takeD (some 90) (i := 6) (v := .int .i64 0) rfl rfl (by kernel_rfl) (by kernel_rfl) (by kernel_rfl) (fun _ _ _ h => h) (Or.inl ⟨rfl, fun _ _ => rfl⟩) hS1 ?_
              simp only [Act.put, List.setIfInBounds_toArray, List.set_cons_succ, List.set_cons_zero]
              refine wpAnyH_takeD (some 91) (i := 7) (v := .bool true) rfl rfl (by kernel_rfl) (by kernel_rfl) (by kernel_rfl) (fun _ _ _ h => h) (Or.inl ⟨rfl, fun _ _ => by go_simp⟩) hS1 ?_
              simp only [Act.put, List.setIfInBounds_toArray, List.set_cons_succ, List.set_cons_zero]
              refine wpAnyH_takeD (some 92) (i := 8) (v := .bool true) rfl rfl (by kernel_rfl) (by kernel_rfl) (by kernel_rfl) (fun _ _ _ h => h) (Or.inl ⟨rfl, fun _ _ => rfl⟩) hS1 ?_
              simp only [Act.put, List.setIfInBounds_toArray, List.set_cons_succ, List.set_cons_zero]
              refine wpAnyH_takeD (some 93) (i := 9) (v := .bool true) rfl rfl (by kernel_rfl) (by kernel_rfl) (by kernel_rfl) (fun _ _ _ h => h) (Or.inl ⟨rfl, fun _ _ => rfl⟩) hS1 ?_
              simp only [Act.put, List.setIfInBounds_toArray, List.set_cons_succ, List.set_cons_zero]
              refine wpAnyH_takeD (some 94) (i := 10) (v := .int .i64 140) rfl rfl (by kernel_rfl) (by kernel_rfl) (by kernel_rfl) (fun _ _ _ h => h) (Or.inl ⟨rfl, fun _ _ => rfl⟩) hS1 ?_
              simp only [Act.put, List.setIfInBounds_toArray, List.set_cons_succ, List.set_cons_zero]
              refine wpAnyH_takeD (some 95) (i := 11) (v := .bool true) rfl rfl (by kernel_rfl) (by kernel_rfl) (by kernel_rfl) (fun _ _ _ h => h) (Or.inl ⟨rfl, fun _ _ => by go_simp⟩) hS1 ?_
              simp only [Act.put, List.setIfInBounds_toArray, List.set_cons_succ, List.set_cons_zero]
              refine wpAnyH_takeD (some 96) (i := 12) (v := .bool true) rfl rfl (by kernel_rfl) (by kernel_rfl) (by kernel_rfl) (fun _ _ _ h => h) (Or.inl ⟨rfl, fun _ _ => rfl⟩) hS1 ?_
              simp only [Act.put, List.setIfInBounds_toArray, List.set_cons_succ, List.set_cons_zero]
              refine wpAnyH_takeD (some 97) (i := 13) (v := .bool true) rfl rfl (by kernel_rfl) (by kernel_rfl) (by kernel_rfl) (fun _ _ _ h => h) (Or.inl ⟨rfl, fun _ _ => rfl⟩) hS1 ?_
              simp only [Act.put, List.setIfInBounds_toArray, List.set_cons_succ, List.set_cons_zero]
              refine wpAnyH_takeD (some 98) (i := 14) (v := .int .i64 140) rfl rfl (by kernel_rfl) (by kernel_rfl) (by kernel_rfl) (fun _ _ _ h => h) (Or.inl ⟨rfl, fun _ _ => rfl⟩) hS1 ?_
              simp only [Act.put, List.setIfInBounds_toArray, List.set_cons_succ, List.set_cons_zero]
              refine wpAnyH_takeD (some 99) (i := 15) (v := .bool true) rfl rfl (by kernel_rfl) (by kernel_rfl) (by kernel_rfl) (fun _ _ _ h => h) (Or.inl ⟨rfl, fun _ _ => by go_simp⟩) hS1 ?_
              simp only [Act.put, List.setIfInBounds_toArray, List.set_cons_succ, List.set_cons_zero]
              refine wpAnyH_takeD (some 100) (i := 16) (v := .bool true) rfl rfl (by kernel_rfl) (by kernel_rfl) (by kernel_rfl) (fun _ _ _ h => h) (Or.inl ⟨rfl, fun _ _ => rfl⟩) hS1 ?_
              simp only [Act.put, List.setIfInBounds_toArray, List.set_cons_succ, List.set_cons_zero]
              refine wpAnyH_takeD (some 101) (i := 17) (v := .bool true) rfl rfl (by kernel_rfl) (by kernel_rfl) (by kernel_rfl) (fun _ _ _ h => h) (Or.inl ⟨rfl, fun _ _ => rfl⟩) hS1 ?_
              simp only [Act.put, List.setIfInBounds_toArray, List.set_cons_succ, List.set_cons_zero]
              refine wpAnyH_takeD (some 102) (i := 18) (v := .int .i64 2) rfl rfl (by kernel_rfl) (by kernel_rfl) (by kernel_rfl) (fun _ _ _ h => h) (Or.inl ⟨rfl, fun _ _ => rfl⟩) hS1 ?_
              simp only [Act.put, List.setIfInBounds_toArray, List.set_cons_succ, List.set_cons_zero]
              refine wpAnyH_takeD (some 103) (i := 19) (v := .bool true) rfl rfl (by kernel_rfl) (by kernel_rfl) (by kernel_rfl) (fun _ _ _ h => h) (Or.inl ⟨rfl, fun _ _ => by go_simp⟩) hS1 ?_
              simp only [Act.put, List.setIfInBounds_toArray, List.set_cons_succ, List.set_cons_zero]
              refine wpAnyH_takeD (some 104) (i := 20) (v := .bool true) rfl rfl (by kernel_rfl) (by kernel_rfl) (by kernel_rfl) (fun _ _ _ h => h) (Or.inl ⟨rfl, fun _ _ => rfl⟩) hS1 ?_
              simp only [Act.put, List.setIfInBounds_toArray, List.set_cons_succ, List.set_cons_zero]
              refine wpAnyH_takeD (some 0) (i := 21) (v := .bool true) rfl rfl (by kernel_rfl) (by kernel_rfl) (by kernel_rfl) (fun _ _ _ h => h) (Or.inl ⟨rfl, fun _ _ => rfl⟩) hS1 ?_
              simp only [Act.put, List.setIfInBounds_toArray, List.set_cons_succ, List.set_cons_zero]
              refine wpAnyH_done (by kernel_rfl) ?_ _
              go_wp2_with fail
              go_ret
              exact ⟨⟨rfl, grown_trans gv hS1⟩⟩
end Go.Proofs.YtlfopcigbgfnlaaDoor
namespace Go.Proofs.YtlfopcigbgfnlaaDoor
open Go.RowKit

def setO (p : Nat → Option Nat) (j X : Nat) (i : Nat) : Option Nat := if i = j then some X else p i
def cntN (p : Nat → Option Nat) : Nat → Nat
  | 0 => 0
  | j + 1 => cntN p j + if (p j).isNone then 1 else 0
theorem cntN_same {p p' : Nat → Option Nat} : ∀ n, (∀ i, i < n → p i = p' i) → cntN p n = cntN p' n
  | 0, _ => rfl
  | n + 1, h => by
    show cntN p n + _ = cntN p' n + _
    rw [cntN_same n (fun i hi => h i (by omega)), h n (by omega)]
theorem cntN_set (p : Nat → Option Nat) (j X : Nat) (hp : p j = none) : ∀ n, j < n → cntN (setO p j X) n + 1 = cntN p n
  | n + 1, h => by
    show cntN (setO p j X) n + _ + 1 = cntN p n + _
    by_cases e : j = n
    · subst e
      rw [cntN_same (p := setO p j X) (p' := p) j (fun i hi => if_neg (by omega))]
      simp [setO, hp]
    · have ih := cntN_set p j X hp n (by omega)
      have e2 : setO p j X n = p n := if_neg (by omega)
      rw [e2]
      omega
theorem cntN_zero {p : Nat → Option Nat} : ∀ n, cntN p n = 0 → ∀ i, i < n → ∃ X, p i = some X
  | n + 1, h, i, hi => by
    have h' : cntN p n + (if (p n).isNone then 1 else 0) = 0 := h
    by_cases e : i = n
    · subst e
      cases hp : p i with
      | none => rw [hp] at h'; simp at h'
      | some X => exact ⟨X, rfl⟩
    · exact cntN_zero n (by omega) i (by omega)

/-- What a frame holds: slot t. -/
def slotv (a : Act) (t : Nat) : Value := a.tmps[t]?.getD undef
theorem act_ext {a b : Act} (hd : a.defers = b.defers) (hs : a.tmps.size = b.tmps.size) (h : ∀ t, t < a.tmps.size → slotv a t = slotv b t) : a = b := by
  cases a with | mk ta da => cases b with | mk tb db =>
  simp only at hd hs h
  subst hd
  congr 1
  refine Array.ext hs fun i h1 h2 => ?_
  have := h i h1
  simpa [slotv, h1, h2] using this
theorem slotv_put (a : Act) (d t : Nat) (v : Value) (hd : d < a.tmps.size) : slotv (a.put (some d) v) t = if t = d then v else slotv a t := by
  unfold slotv
  by_cases e : t = d
  · subst e
    simp [Act.put, hd]
  · rw [if_neg e]
    simp [Act.put, Array.getElem?_setIfInBounds_ne (Ne.symm e)]
/-- The frame: c values, and those that are made. -/
structure Fr (a : Act) (dc da : Nat → Nat) (val : Nat → Value) (n c : Nat) (p : Nat → Option Nat) (b : Act) : Prop where
  defers : b.defers = a.defers
  size : b.tmps.size = a.tmps.size
  call : ∀ k, k < c → slotv b (dc k) = val k
  made : ∀ j X, j < n → p j = some X → slotv b (da j) = .pointer (some ⟨X, 0, none⟩)
  rest : ∀ t, (∀ k, k < c → t ≠ dc k) → (∀ j X, j < n → p j = some X → t ≠ da j) → slotv b t = slotv a t
section
variable {a b b' : Act} {dc da : Nat → Nat} {val : Nat → Value} {n c : Nat} {p : Nat → Option Nat}
theorem Fr.start (a : Act) (dc da : Nat → Nat) (val : Nat → Value) (n : Nat) : Fr a dc da val n 0 (fun _ => none) a :=
  ⟨rfl, rfl, (fun k h => absurd h (Nat.not_lt_zero k)), (fun _ _ _ h => by cases h), (fun _ _ _ => rfl)⟩
theorem Fr.callD (h : Fr a dc da val n c p b) (hc : c < n) (hi : ∀ k, k < n → dc k < a.tmps.size) (hcc : ∀ i k, i < n → k < n → dc i = dc k → i = k) (hca : ∀ k j, k < n → j < n → dc k ≠ da j) :
    Fr a dc da val n (c + 1) p (b.put (some (dc c)) (val c)) := by
  have hd : dc c < b.tmps.size := by rw [h.size]; exact hi c hc
  refine ⟨h.defers, by simp [Act.put, h.size], fun k hk => ?_, fun j X hj hp => ?_, fun t h1 h2 => ?_⟩
  · rw [slotv_put _ _ _ _ hd]
    by_cases e : dc k = dc c
    · rw [if_pos e, hcc k c (by omega) hc e]
    · rw [if_neg e]
      refine h.call k ?_
      have : k ≠ c := fun e' => e (by rw [e'])
      omega
  · rw [slotv_put _ _ _ _ hd, if_neg (fun e => hca c j hc hj e.symm)]
    exact h.made j X hj hp
  · rw [slotv_put _ _ _ _ hd, if_neg (h1 c (by omega))]
    exact h.rest t (fun k hk => h1 k (by omega)) h2
theorem Fr.makeD (h : Fr a dc da val n c p b) (j X : Nat) (hj : j < n) (hp : p j = none) (hc : c ≤ n) (hi : ∀ k, k < n → da k < a.tmps.size) (haa : ∀ i k, i < n → k < n → da i = da k → i = k) (hca : ∀ k j, k < n → j < n → dc k ≠ da j) :
    Fr a dc da val n c (setO p j X) (b.put (some (da j)) (.pointer (some ⟨X, 0, none⟩))) := by
  have hd : da j < b.tmps.size := by rw [h.size]; exact hi j hj
  refine ⟨h.defers, by simp [Act.put, h.size], fun k hk => ?_, fun i Y hi' hp' => ?_, fun t h1 h2 => ?_⟩
  · rw [slotv_put _ _ _ _ hd, if_neg (hca k j (by omega) hj)]
    exact h.call k hk
  · rw [slotv_put _ _ _ _ hd]
    by_cases e : i = j
    · subst e
      have : X = Y := by simpa [setO] using hp'
      subst this
      rw [if_pos rfl]
    · rw [if_neg (fun e' => e (haa i j hi' hj e'))]
      exact h.made i Y hi' (by simpa [setO, e] using hp')
  · rw [slotv_put _ _ _ _ hd, if_neg (h2 j X hj (by simp [setO]))]
    exact h.rest t h1 (fun i Y hi' hp' => by
      by_cases e : i = j
      · subst e; rw [hp] at hp'; cases hp'
      · exact h2 i Y hi' (by simpa [setO, e] using hp'))
theorem Fr.keep (h : Fr a dc da val n c p b) (t : Nat) (hc : c ≤ n) (h1 : ∀ k, k < n → t ≠ dc k) (h2 : ∀ j, j < n → t ≠ da j) : b.eval (.tmp t) = a.eval (.tmp t) := by
  have := h.rest t (fun k hk => h1 k (by omega)) (fun j _ hj _ => h2 j hj)
  simpa [slotv, Act.eval] using this
theorem Fr.sizes (_ : Fr a dc da val n c p b) {m : Nat} (hm : a.tmps.size = m) (d : Nat → Nat) (h : ∀ k, k < n → d k < m) : ∀ k, k < n → d k < a.tmps.size := fun k hk => by rw [hm]; exact h k hk
theorem Fr.congr {p' : Nat → Option Nat} (h : Fr a dc da val n c p b) (e : ∀ j, j < n → p j = p' j) : Fr a dc da val n c p' b :=
  ⟨h.defers, h.size, h.call, fun j X hj hp => h.made j X hj (by rw [e j hj]; exact hp), fun t h1 h2 => h.rest t h1 (fun j X hj hp => h2 j X hj (by rw [← e j hj]; exact hp))⟩
theorem Fr.same (h : Fr a dc da val n c p b) (h' : Fr a dc da val n c p b') : b = b' := by
  refine act_ext (h.defers.trans h'.defers.symm) (h.size.trans h'.size.symm) fun t _ => ?_
  by_cases e1 : ∃ k, k < c ∧ t = dc k
  · obtain ⟨k, hk, rfl⟩ := e1
    rw [h.call k hk, h'.call k hk]
  · by_cases e2 : ∃ j X, j < n ∧ p j = some X ∧ t = da j
    · obtain ⟨j, X, hj, hp, rfl⟩ := e2
      rw [h.made j X hj hp, h'.made j X hj hp]
    · have f1 : ∀ k, k < c → t ≠ dc k := fun k hk e => e1 ⟨k, hk, e⟩
      have f2 : ∀ j X, j < n → p j = some X → t ≠ da j := fun j X hj hp e => e2 ⟨j, X, hj, hp, e⟩
      rw [h.rest t f1 f2, h'.rest t f1 f2]
end
/-- What is made. -/
structure Mades (w0 W : World) (T : TypeId) (k : IntKind) (s n : Nat) (p : Nat → Option Nat) : Prop where
  gr : w0.grownBy W none
  at_ : ∀ j X, j < n → p j = some X → w0.heap.size ≤ X ∧ Holds W X T k s (fun _ => 0)
  ne : ∀ i j X, i < n → j < n → p i = some X → p j = some X → i = j
theorem Mades.start (w0 : World) (T : TypeId) (k : IntKind) (s n : Nat) : Mades w0 w0 T k s n (fun _ => none) := ⟨grown_refl _ _, (fun _ _ _ h => by cases h), (fun _ _ _ _ _ h => by cases h)⟩
theorem Mades.call {w0 W W' : World} {T : TypeId} {k : IntKind} {s n : Nat} {p : Nat → Option Nat} (h : Mades w0 W T k s n p) (g : W.grownBy W' none) : Mades w0 W' T k s n p :=
  ⟨grown_trans h.gr g, fun j X hj hp => ⟨(h.at_ j X hj hp).1, (h.at_ j X hj hp).2.grown g (by simp)⟩, h.ne⟩
theorem Mades.make {w0 W : World} {T : TypeId} {k : IntKind} {s n : Nat} {p : Nat → Option Nat} (h : Mades w0 W T k s n p) (j : Nat) :
    Mades w0 (W.alloc (.cells (cellsOf k s (fun _ => 0)) T)) T k s n (setO p j W.heap.size) := by
  have g := World.grownBy_alloc W (.cells (cellsOf k s (fun _ => 0)) T) none
  refine ⟨grown_trans h.gr g, fun i X hi hp => ?_, fun i i' X hi hi' h1 h2 => ?_⟩
  · by_cases e : i = j
    · have : X = W.heap.size := by simpa [setO, e] using hp.symm
      subst this
      exact ⟨h.gr.size, holds_alloc W T k s _ _ rfl⟩
    · have hp' : p i = some X := by simpa [setO, e] using hp
      exact ⟨(h.at_ i X hi hp').1, (h.at_ i X hi hp').2.grown g (by simp)⟩
  · by_cases e : i = j
    · by_cases e' : i' = j
      · rw [e, e']
      · have q1 : X = W.heap.size := by simpa [setO, e] using h1.symm
        have q2 : p i' = some X := by simpa [setO, e'] using h2
        have := (h.at_ i' X hi' q2).2.lt
        omega
    · have q1 : p i = some X := by simpa [setO, e] using h1
      by_cases e' : i' = j
      · have q2 : X = W.heap.size := by simpa [setO, e'] using h2.symm
        have := (h.at_ i X hi q1).2.lt
        omega
      · exact h.ne i i' X hi hi' q1 (by simpa [setO, e'] using h2)

section
variable {P : Program} {ops : Array Oper} {Q : Exit → Act → World → Prop}
theorem calls_makes {w0 : World} {T : TypeId} {kd : IntKind} {s : Nat} (n r : Nat) (ci ai dc da : Nat → Nat) (f : Nat → FuncId) (args : Nat → Array Value) (val : Nat → Value) (a : Act) (L : Nat → (Nat → Option Nat) → Array Bool)
    (hr : ∀ c p, c ≤ n → (c < n ∨ ∃ j, j < n ∧ p j = none) → ∃ rs, Region.ready .any ops (L c p) = rs ∧ rs ≠ [] ∧ ∀ i ∈ rs, (c < n ∧ i = ci c) ∨ (∃ j, j < n ∧ p j = none ∧ i = ai j))
    (hL1 : ∀ c p, c < n → (L c p).setIfInBounds (ci c) true = L (c + 1) p) (hL2 : ∀ c p j X, c ≤ n → j < n → (L c p).setIfInBounds (ai j) true = L c (setO p j X))
    (hid : ∀ k, k < n → dc k < a.tmps.size) (hia : ∀ k, k < n → da k < a.tmps.size) (hcc : ∀ i k, i < n → k < n → dc i = dc k → i = k) (haa : ∀ i k, i < n → k < n → da i = da k → i = k) (hca : ∀ k j, k < n → j < n → dc k ≠ da j)
    (hcall : ∀ k, k < n → ∃ o, ops[ci k]? = some o ∧ o.guard = none ∧ o.dst = some (dc k) ∧ ∀ p b, Fr a dc da val n k p b → execOp b.eval o = callFunc (f k) (args k))
    (hent : ∀ k args w, (callFunc (f k) args).run P w = .ok (.enter (f k) args) w)
    (hc : ∀ k W, k < n → w0.grownBy W none → Calls P (f k) (args k) W fun e w' => e = .returned (val k) ∧ W.grownBy w' none)
    (hmake : ∀ j, j < n → ∃ o, ops[ai j]? = some o ∧ o.guard = none ∧ o.dst = some (da j) ∧ ∀ (b : Act) (W : World), (execOp b.eval o).run P W = .ok (.value (.pointer (some ⟨W.heap.size, 0, none⟩))) (W.alloc (.cells (cellsOf kd s (fun _ => 0)) T)))
    (hfin : ∀ p b W, (∀ j, j < n → ∃ X, p j = some X) → Fr a dc da val n n p b → Mades w0 W T kd s n p → wpAnyH P .any ops Q (fun W => w0.grownBy W none) r (L n p) b W) :
    ∀ (m c : Nat) (p : Nat → Option Nat) (b : Act) (W : World), c ≤ n → m = (n - c) + cntN p n → Fr a dc da val n c p b → Mades w0 W T kd s n p → wpAnyH P .any ops Q (fun W => w0.grownBy W none) (m + r) (L c p) b W
  | 0, c, p, b, W, hcn, hm, hF, hM => by
    obtain rfl : c = n := by omega
    rw [Nat.zero_add]
    exact hfin p b W (cntN_zero c (by omega)) hF hM
  | m + 1, c, p, b, W, hcn, hm, hF, hM => by
    have hm1 : c < n → m = (n - (c + 1)) + cntN p n := fun h => by omega
    have hm2 : ∀ x, x + 1 = cntN p n → m = (n - c) + x := fun x h => by omega
    have hex : c < n ∨ ∃ j, j < n ∧ p j = none := by
      by_cases e : c < n
      · exact Or.inl e
      · refine Or.inr (Classical.byContradiction fun hno => ?_)
        have hz : cntN p n = cntN (fun _ => some 0) n := by
          have : ∀ k, k ≤ n → cntN p k = 0 := fun k => by
            induction k with
            | zero => intro _; rfl
            | succ k ih =>
              intro hk
              show cntN p k + _ = 0
              rw [ih (by omega)]
              cases hp : p k with
              | none => exact absurd ⟨k, by omega, hp⟩ hno
              | some X => rfl
          have h2 : ∀ k, cntN (fun _ => some 0) k = 0 := fun k => by
            induction k with
            | zero => rfl
            | succ k ih => show cntN _ k + _ = 0; rw [ih]; rfl
          rw [this n (Nat.le_refl _), h2]
        have h2 : ∀ k, cntN (fun _ => some 0) k = 0 := fun k => by
          induction k with
          | zero => rfl
          | succ k ih => show cntN _ k + _ = 0; rw [ih]; rfl
        rw [hz, h2] at hm
        omega
    obtain ⟨rs, h1, h2, h3⟩ := hr c p hcn hex
    rw [show m + 1 + r = (m + r) + 1 by omega]
    refine wpAnyH_all h1 h2 fun i hi => ?_
    rcases h3 i hi with ⟨hlt, rfl⟩ | ⟨j, hj, hp, rfl⟩
    · obtain ⟨o, ho, hg, hd, he⟩ := hcall c hlt
      refine wpOp_at ho (wanted_of hg) (wp_fnR (R := fun v w' => v = val c ∧ W.grownBy w' none) (some (dc c)) (f c) (args c) hd (he p b hF) (hent c) ((hc c W hlt hM.gr).mono fun _ _ h => ⟨_, h.1, rfl, h.2⟩) fun v w' h => ?_)
      obtain ⟨rfl, g⟩ := h
      refine ⟨grown_trans hM.gr g, ?_⟩
      rw [hL1 c p hlt]
      exact calls_makes n r ci ai dc da f args val a L hr hL1 hL2 hid hia hcc haa hca hcall hent hc hmake hfin m (c + 1) p _ w' hlt (hm1 hlt) (hF.callD hlt hid hcc hca) (hM.call g)
    · obtain ⟨o, ho, hg, hd, he⟩ := hmake j hj
      refine wpOp_at ho (wanted_of hg) (wp_yields (he b W) ?_)
      have hM' := hM.make (j := j)
      refine ⟨hM'.gr, ?_⟩
      rw [hd, hL2 c p j W.heap.size hcn hj]
      have hn := cntN_set p j W.heap.size hp n hj
      exact calls_makes n r ci ai dc da f args val a L hr hL1 hL2 hid hia hcc haa hca hcall hent hc hmake hfin m c _ _ _ hcn (hm2 _ hn) (hF.makeD j W.heap.size hj hp hcn hia haa hca) hM'
end
end Go.Proofs.YtlfopcigbgfnlaaDoor
namespace Go.Proofs.YtlfopcigbgfnlaaDoor
open Go.RowKit Go.Shelf

set_option maxRecDepth 100000
set_option maxHeartbeats 2000000

/-- Bytes added by their place in a block: the first i. -/
def accF (s : Nat → Nat) : Nat → Nat → Nat
  | 0, _ => 0
  | i + 1, j => if j = i % 16 then accF s i j ^^^ s i else accF s i j
theorem addF_step (s : Nat → Nat) (i j : Nat) (hj : j < 16) : ∀ M, addF s (i + 1) M j = addF s i M j ^^^ (if j = i % 16 ∧ i / 16 < M then s i else 0)
  | 0 => by
    rw [if_neg (by omega)]
    exact (Nat.xor_self 0).symm
  | M + 1 => by
    show addF s (i + 1) M j ^^^ blkF s (i + 1) M j = (addF s i M j ^^^ blkF s i M j) ^^^ _
    rw [addF_step s i j hj M]
    unfold blkF
    by_cases e : 16 * M + j = i
    · rw [if_neg (by omega), if_pos (by omega), if_neg (by omega), if_pos (by omega), e, Nat.xor_zero]
    · by_cases e2 : 16 * M + j < i
      · rw [if_pos (show 16 * M + j < i + 1 by omega), if_pos e2]
        by_cases e3 : j = i % 16 ∧ i / 16 < M
        · rw [if_pos e3, if_pos (by omega), Nat.xor_assoc, Nat.xor_assoc, Nat.xor_comm (s i)]
        · rw [if_neg e3, if_neg (by omega), Nat.xor_zero, Nat.xor_zero]
      · rw [if_neg (show ¬ 16 * M + j < i + 1 by omega), if_neg e2]
        by_cases e3 : j = i % 16 ∧ i / 16 < M
        · rw [if_pos e3, if_pos (by omega), Nat.xor_zero, Nat.xor_zero]
        · rw [if_neg e3, if_neg (by omega)]
theorem addF_none (s : Nat → Nat) (j : Nat) : ∀ M, addF s 0 M j = 0
  | 0 => rfl
  | M + 1 => by
    show addF s 0 M j ^^^ blkF s 0 M j = 0
    rw [addF_none s j M]
    unfold blkF
    rw [if_neg (by omega)]
    rfl
theorem accF_add (s : Nat → Nat) (j M : Nat) (hj : j < 16) : ∀ i, i ≤ 16 * M → accF s i j = addF s i M j
  | 0, _ => (addF_none s j M).symm
  | i + 1, h => by
    rw [addF_step s i j hj M, ← accF_add s j M hj i (by omega)]
    show (if j = i % 16 then accF s i j ^^^ s i else accF s i j) = _
    by_cases e : j = i % 16
    · rw [if_pos e, if_pos (by omega)]
    · rw [if_neg e, if_neg (by omega), Nat.xor_zero]
theorem accF_lt (s : Nat → Nat) (hs : ∀ i, s i < 256) (j : Nat) : ∀ i, accF s i j < 256
  | 0 => Nat.two_pow_pos 8
  | i + 1 => by
    show (if j = i % 16 then accF s i j ^^^ s i else accF s i j) < 256
    split
    · exact Nat.xor_lt_two_pow (n := 8) (accF_lt s hs j i) (hs i)
    · exact accF_lt s hs j i
theorem addF_lt (s : Nat → Nat) (hs : ∀ i, s i < 256) (L j : Nat) : ∀ M, addF s L M j < 256
  | 0 => Nat.two_pow_pos 8
  | M + 1 => by
    refine Nat.xor_lt_two_pow (n := 8) (addF_lt s hs L j M) ?_
    unfold blkF
    split
    · exact hs _
    · decide
/-- The block x^0. -/
def oneB (i : Nat) : Nat := if i = 0 then 128 else 0
theorem oneB_lt (i : Nat) : oneB i < 256 := by
  unfold oneB
  split <;> decide
theorem hash_one (s : Nat → Nat) (hs : ∀ i, s i < 256) (n i : Nat) (hi : i < 16) : hashF oneB s n i = accF s n i := by
  have h1 : pl oneB = 1 := pl_one oneB rfl (fun i h0 _ => if_neg (by omega))
  have h2 := congrArg (fun v => un v i) (hshF_one oneB s n h1 ((n + 15) / 16))
  change un (pl (hshF oneB s n ((n + 15) / 16))) i = un (pl (addF s n ((n + 15) / 16))) i at h2
  rw [un_pl _ i hi (hshF_lt _ _ _ _ _), un_pl _ i hi (addF_lt s hs n i _)] at h2
  rw [accF_add s i ((n + 15) / 16) hi n (by omega)]
  exact h2
theorem ghash_enters (args : Array Value) (w : World) : (callFunc 6 args).run Tryd.prog w = .ok (.enter 6 args) w := enters_of Tryd.func6 (by kernel_rfl) rfl args w

/-! The three hashes that one statement tells. -/
def sC (k : Nat) : Nat := if k = 0 then 2 else if k = 1 then 5 else 8
def sA (j : Nat) : Nat := 9 + j
def sD (k : Nat) : Nat := if k = 0 then 57 else if k = 1 then 60 else 63
def sE (j : Nat) : Nat := 10 + j
theorem sD_inj (i k : Nat) (hi : i < 3) (hk : k < 3) : sD i = sD k → i = k := by
  obtain rfl | rfl | rfl : i = 0 ∨ i = 1 ∨ i = 2 := by omega
  all_goals
    obtain rfl | rfl | rfl : k = 0 ∨ k = 1 ∨ k = 2 := by omega
    all_goals first | exact fun _ => rfl | exact fun h => absurd h (by decide)
theorem sE_inj (i k : Nat) (_ : i < 3) (_ : k < 3) : sE i = sE k → i = k := by
  unfold sE
  omega
theorem sDE (k j : Nat) (hk : k < 3) (hj : j < 3) : sD k ≠ sE j := by
  unfold sE
  obtain rfl | rfl | rfl : k = 0 ∨ k = 1 ∨ k = 2 := by omega
  all_goals
    obtain rfl | rfl | rfl : j = 0 ∨ j = 1 ∨ j = 2 := by omega
    all_goals decide
def sBits (c : Nat) (x y z : Bool) : Array Bool := #[true, true, decide (1 ≤ c), true, true, decide (2 ≤ c), true, true, decide (3 ≤ c), x, y, z, false, false, false]
def sL (c : Nat) (p : Nat → Option Nat) : Array Bool := sBits c (p 0).isSome (p 1).isSome (p 2).isSome
def sR (c : Nat) (x y z : Bool) : List Nat := (if c < 3 then [sC c] else []) ++ ((if x then [] else [9]) ++ ((if y then [] else [10]) ++ (if z then [] else [11])))
theorem sums_ready {ops : Array Oper} (ht : ((List.range 4).all fun c => [false, true].all fun x => [false, true].all fun y => [false, true].all fun z => (c == 3 && x && y && z) || Region.ready .any ops (sBits c x y z) == sR c x y z) = true)
    (c : Nat) (p : Nat → Option Nat) (hc : c ≤ 3) (hex : c < 3 ∨ ∃ j, j < 3 ∧ p j = none) :
    ∃ rs, Region.ready .any ops (sL c p) = rs ∧ rs ≠ [] ∧ ∀ i ∈ rs, (c < 3 ∧ i = sC c) ∨ (∃ j, j < 3 ∧ p j = none ∧ i = sA j) := by
  have hall : ∀ x y z, (c == 3 && x && y && z) = false → Region.ready .any ops (sBits c x y z) = sR c x y z := fun x y z hf => by
    have h1 := List.all_eq_true.1 ht c (by simp; omega)
    have h2 := List.all_eq_true.1 h1 x (by cases x <;> simp)
    have h3 := List.all_eq_true.1 h2 y (by cases y <;> simp)
    have h4 := List.all_eq_true.1 h3 z (by cases z <;> simp)
    rw [hf] at h4
    simpa using h4
  have hno : (c == 3 && (p 0).isSome && (p 1).isSome && (p 2).isSome) = false := by
    rcases hex with h | ⟨j, hj, hp⟩
    · have : (c == 3) = false := by rw [beq_eq_false_iff_ne]; omega
      rw [this]; rfl
    · obtain rfl | rfl | rfl : j = 0 ∨ j = 1 ∨ j = 2 := by omega
      · rw [hp]; simp
      · rw [hp]; simp
      · rw [hp]; simp
  refine ⟨_, hall _ _ _ hno, ?_, fun i hi => ?_⟩
  · intro he
    unfold sR at he
    simp only [List.append_eq_nil_iff] at he
    obtain ⟨h1, h2, h3, h4⟩ := he
    have hc3 : ¬ c < 3 := fun h => by rw [if_pos h] at h1; cases h1
    have hx : (p 0).isSome = true := by
      cases h : (p 0).isSome with
      | true => rfl
      | false => rw [h] at h2; cases h2
    have hy : (p 1).isSome = true := by
      cases h : (p 1).isSome with
      | true => rfl
      | false => rw [h] at h3; cases h3
    have hz : (p 2).isSome = true := by
      cases h : (p 2).isSome with
      | true => rfl
      | false => rw [h] at h4; cases h4
    rw [hx, hy, hz, show c = 3 by omega] at hno
    cases hno
  · unfold sR at hi
    simp only [List.mem_append] at hi
    have hone : ∀ j, (p j).isSome = false → p j = none := fun j h => by
      cases hp : p j with
      | none => rfl
      | some X => rw [hp] at h; cases h
    rcases hi with h | h | h | h
    · by_cases h3 : c < 3
      · rw [if_pos h3] at h
        exact Or.inl ⟨h3, by simpa using h⟩
      · rw [if_neg h3] at h
        cases h
    · cases hx : (p 0).isSome with
      | true => rw [hx] at h; cases h
      | false =>
        rw [hx] at h
        exact Or.inr ⟨0, by omega, hone 0 hx, (show i = 9 by simpa using h)⟩
    · cases hx : (p 1).isSome with
      | true => rw [hx] at h; cases h
      | false =>
        rw [hx] at h
        exact Or.inr ⟨1, by omega, hone 1 hx, (show i = 10 by simpa using h)⟩
    · cases hx : (p 2).isSome with
      | true => rw [hx] at h; cases h
      | false =>
        rw [hx] at h
        exact Or.inr ⟨2, by omega, hone 2 hx, (show i = 11 by simpa using h)⟩
theorem sums_call (c : Nat) (p : Nat → Option Nat) (hc : c < 3) : (sL c p).setIfInBounds (sC c) true = sL (c + 1) p := by
  obtain rfl | rfl | rfl : c = 0 ∨ c = 1 ∨ c = 2 := by omega
  all_goals rfl
theorem sums_make (c : Nat) (p : Nat → Option Nat) (j X : Nat) (_ : c ≤ 3) (hj : j < 3) : (sL c p).setIfInBounds (sA j) true = sL c (setO p j X) := by
  obtain rfl | rfl | rfl : j = 0 ∨ j = 1 ∨ j = 2 := by omega
  all_goals rfl

theorem gcmSums_any (n ca m cb : Nat) (aa ab : Option Addr) (fh fa fb : Nat → Nat) (w : World) (hL : LaidS w 0) (_hsz : 0 < w.heap.size) (hA : Rd w w.heap.size aa n fa) (hB : Rd w w.heap.size ab m fb) (hca : n ≤ ca) (hcb : m ≤ cb)
    (hh : ∀ i, fh i < 256) (hfa : ∀ i, fa i < 256) (hfb : ∀ i, fb i < 256) :
    Calls Tryd.prog 4 #[.agg (cellsOf .u8 16 fh), .slice aa n ca, .slice ab m cb] w (SaysYes w) := by
  have hH : Holds (w.alloc (.cells (cellsOf .u8 16 fh) 24)) w.heap.size 24 .u8 16 fh := holds_alloc w 24 .u8 16 fh _ rfl
  have g0 := World.grownBy_alloc w (.cells (cellsOf .u8 16 fh) 24) none
  have hK := known05 (w.alloc (.cells (cellsOf .u8 16 fh) 24)) (hL.grown g0 (by simp)) (by simp)
  have HK := Lib.hid hK
  clear hK hL
  go_enter Tryd.func4, Tryd.ntmps4
  go_wp2_with fail
  generalize w.alloc (.cells (cellsOf .u8 16 fh) 24) = w0 at *
  go_at_call 5
  with_reducible refine (HK.out).mono ?_
  rintro e w1 ⟨⟨rfl, g1⟩⟩
  have g01 := grown_trans g0 g1
  have hH1 := hH.grown g1 (by simp)
  clear HK hH g0 g1
  by_cases h4 : 400 < n
  · have j4 : (400 : Int) < n := by omega
    clear h4 hA hB hH1
    go_wp2_with fail
    go_ret
    exact ⟨⟨rfl, g01⟩⟩
  · by_cases hnm : n = m
    · subst hnm
      have j4 : (n : Int) ≤ 400 := by omega
      have j5 : ((n : Int) != (n : Int)) = false := by simp
      have hn4 : n ≤ 400 := by omega
      have hO := ownR_empty w1
      have hoE := World.grownBy_alloc w1 (.cells #[] 5) none
      obtain ⟨v2, w2, hap, g, cap, rfl, hO2, _, g2, hgn⟩ := app_run ca 22 hO ((hA.grown g01 (fun _ e => by cases e)).grown hoE (fun _ e => by cases e)) (by omega)
      have gO : w1.grownBy w2 none := grown_new hoE g2 (Nat.le_refl _)
      have hgw : w1.heap.size ≤ g := by
        rcases hgn with rfl | h
        · exact Nat.le_refl _
        · exact Nat.le_trans hoE.size h
      have hO3 : OwnR w2 g n cap fa := by
        have := hO2.congr (f' := fa) (fun i _ => by unfold cat; rw [if_neg (by omega), Nat.sub_zero])
        rwa [Nat.zero_add] at this
      rw [Nat.zero_add] at hap
      have HAP := Lib.hid hap
      have g02 := grown_trans g01 gO
      have hH2 := hH1.grown gO (by simp)
      have hB2 := hB.up (Nat.le_refl _) g02
      have hA2 := hA.up (Nat.le_refl _) g02
      have hgl : w.heap.size < g := by
        have := hH1.lt
        omega
      have HA := Lib.hid hA
      have HB := Lib.hid hB
      clear h4 hO hap hoE hO2 g2 hgn hgw gO hA2 hB2 hA hB
      go_wp2_with (at_builtin; refine wpList_append_run rfl (.tmp 26) (.tmp 27) 22 22 rfl _ (.slice aa n ca) _ _ rfl rfl HAP.out ?_)
      have hz0 := holds_alloc w2 24 .u8 16 (fun _ => 0) #[.int .u8 0, .int .u8 0, .int .u8 0, .int .u8 0, .int .u8 0, .int .u8 0, .int .u8 0, .int .u8 0, .int .u8 0, .int .u8 0, .int .u8 0, .int .u8 0, .int .u8 0, .int .u8 0, .int .u8 0, .int .u8 0] rfl
      have g3 := World.grownBy_alloc w2 (.cells #[.int .u8 0, .int .u8 0, .int .u8 0, .int .u8 0, .int .u8 0, .int .u8 0, .int .u8 0, .int .u8 0, .int .u8 0, .int .u8 0, .int .u8 0, .int .u8 0, .int .u8 0, .int .u8 0, .int .u8 0, .int .u8 0] 24) none
      have hH3 := hH2.grown g3 (by simp)
      have hO4 := hO3.grown g3 (by simp)
      have g03 := grown_trans g02 g3
      have hgX : g < w2.heap.size := hO3.lt
      have hHX : w.heap.size < w2.heap.size := hH2.lt
      generalize w2.alloc (.cells #[.int .u8 0, .int .u8 0, .int .u8 0, .int .u8 0, .int .u8 0, .int .u8 0, .int .u8 0, .int .u8 0, .int .u8 0, .int .u8 0, .int .u8 0, .int .u8 0, .int .u8 0, .int .u8 0, .int .u8 0, .int .u8 0] 24) = w3 at *
      generalize w2.heap.size = X at *
      clear hO3 hH1 hH2 g3 g02 g01 HAP
      obtain ⟨s, hs⟩ : ∃ s : Nat → Nat, s = fun i => fa i ^^^ fb i := ⟨_, rfl⟩
      have hsl : ∀ i, s i < 256 := fun i => by rw [hs]; exact Nat.xor_lt_two_pow (n := 8) (hfa i) (hfb i)
      have HS := Lib.hid hs
      go_loopw [9, 31] (fun _ u31 wr => ∃ i : Nat, i ≤ n ∧ u31 = .int .i64 i ∧ w.grownBy wr none ∧ OwnR wr g n cap (fun j => if j < i then s j else fa j) ∧ Holds wr X 24 .u8 16 (accF s i) ∧ Holds wr w.heap.size 24 .u8 16 fh) (fun _ u31 _ => n - (intOf u31).toNat)
      case atStart => exact ⟨0, by omega, rfl, g03, hO4.congr (fun i _ => by rw [if_neg (by omega)]), hz0, hH3⟩
      case round =>
        clear hz0 hH3 hO4 g03 hs
        obtain ⟨i, hi, rfl, hgr, hOi, hZi, hHi⟩ := hrel
        by_cases hin : i < n
        · have j6 : (i : Int) < n := by omega
          obtain ⟨q, hq⟩ : ∃ q, q = i % 16 := ⟨_, rfl⟩
          have x1 : (i : Int).tmod 16 = (q : Int) := by rw [Int.tmod_eq_emod_of_nonneg (by omega)]; omega
          have x2 : (i : Int) % 16 = (q : Int) := by omega
          have k1 : (q : Int) < 16 := by omega
          obtain ⟨tb, o, rfl, htb, hcb2⟩ := HB.out.ex (by omega)
          obtain ⟨U, hU⟩ : ∃ U, U = wr.drew := ⟨_, rfl⟩
          have gU : wr.grownBy U none := by rw [hU]; exact grown_drew (grown_refl wr none)
          have cb1 := (grown_trans hgr gU).cell (hcb2 i hin) (by simp)
          have hOU := hOi.grown gU (by simp)
          have hZU := hZi.grown gU (by simp)
          have hHU := hHi.grown gU (by simp)
          have hgU := grown_trans hgr gU
          have ca1 := hOU.cell i hin
          rw [if_neg (Nat.lt_irrefl i)] at ca1
          have fa1 := hOU.free i
          have hx1 : bits .xor .u8 (fa i : Int) (fb i : Int) = ((s i : Nat) : Int) := by rw [HS.out]; exact bits_xor_u8 _ _ (hfa i) (hfb i)
          obtain ⟨ai, hai⟩ : ∃ x, x = fa i := ⟨_, rfl⟩
          obtain ⟨bi, hbi⟩ : ∃ x, x = fb i := ⟨_, rfl⟩
          obtain ⟨si, hsi⟩ : ∃ x, x = s i := ⟨_, rfl⟩
          rw [← hai] at ca1
          rw [← hbi] at cb1
          rw [← hai, ← hbi, ← hsi] at hx1
          have hO5 : OwnR (U.setCell ⟨g, i, none⟩ (.int .u8 (si : Nat))) g n cap (fun j => if j < i + 1 then s j else fa j) := (hOU.set i si hin).congr (fun j _ => by
            by_cases e : j = i
            · subst e; rw [upd_same, if_pos (Nat.lt_succ_self _), hsi]
            · rw [upd_other _ _ _ _ e]
              by_cases e2 : j < i
              · rw [if_pos e2, if_pos (by omega)]
              · rw [if_neg e2, if_neg (by omega)])
          have hZ5 := hZU.setOther ⟨g, i, none⟩ (.int .u8 (si : Nat)) (by show X ≠ g; omega)
          have hH5 := hHU.setOther ⟨g, i, none⟩ (.int .u8 (si : Nat)) (by show w.heap.size ≠ g; omega)
          have hg5 := grown_setCell_new hgU ⟨g, i, none⟩ (.int .u8 (si : Nat)) (Or.inl (by show w.heap.size ≤ g; omega))
          have Hx1 := Lib.hid hx1
          have HU := Lib.hid hU.symm
          have Hq := Lib.hid hq
          have Hsi := Lib.hid hsi
          have Hin := Lib.hid hin
          have HO5 := Lib.hid hO5
          have HZ5 := Lib.hid hZ5
          have HH5 := Lib.hid hH5
          have HG5 := Lib.hid hg5
          clear hU hq hai hbi hsi hx1 hO5 hZ5 hH5 hg5 hOi hZi hHi hgr hOU hZU hHU hgU gU hcb2 hi hin
          go_wp2_with fail
          refine wp_region_still_tail 10 (by kernel_rfl) (by kernel_rfl) ?_
          change wpStill _ _ (World.drew wr) (fun a' => wpList _ _ _ _ a' (World.drew wr)) _ _
          rw [HU.out]
          simp only [List.take_succ_cons, List.take_zero, List.drop_succ_cons, List.drop_zero]
          repeat still_step
          refine wpStill_nil ?_
          simp only [Hx1.out]
          go_wp2_with fail
          obtain ⟨U1, hU1⟩ : ∃ U1, U1 = U.setCell ⟨g, i, none⟩ (.int .u8 (si : Nat)) := ⟨_, rfl⟩
          rw [← hU1] at HO5 HZ5 HH5 HG5 ⊢
          obtain ⟨V, hV⟩ : ∃ V, V = U1.drew := ⟨_, rfl⟩
          have gV : U1.grownBy V none := by rw [hV]; exact grown_drew (grown_refl U1 none)
          have hOV := HO5.out.grown gV (by simp)
          have hZV := HZ5.out.grown gV (by simp)
          have hHV := HH5.out.grown gV (by simp)
          have hgV := grown_trans HG5.out gV
          have ca2 := hOV.cell i Hin.out
          rw [if_pos (Nat.lt_succ_self _), ← Hsi.out] at ca2
          have cz2 := hZV.cell q (by omega)
          have fz2 := hZV.frozen q
          obtain ⟨t, ht⟩ : ∃ t, t = accF s (i + 1) q := ⟨_, rfl⟩
          have hx2 : bits .xor .u8 (accF s i q : Int) (si : Int) = ((t : Nat) : Int) := by
            rw [ht, Hsi.out, bits_xor_u8 _ _ (accF_lt s hsl q i) (hsl i)]
            show _ = (((if q = i % 16 then accF s i q ^^^ s i else accF s i q) : Nat) : Int)
            rw [if_pos Hq.out]
          have hZ6 : Holds (V.setCell ⟨X, q, none⟩ (.int .u8 (t : Nat))) X 24 .u8 16 (accF s (i + 1)) := (hZV.set q t).congr (fun j _ => by
            by_cases e : j = q
            · subst e; rw [upd_same, ht]
            · rw [upd_other _ _ _ _ e]
              show _ = if j = i % 16 then accF s i j ^^^ s i else accF s i j
              rw [if_neg (by rw [← Hq.out]; exact e)])
          have hO6 := hOV.of_block (w' := V.setCell ⟨X, q, none⟩ (.int .u8 (t : Nat))) (heap_setCell_other V ⟨X, q, none⟩ g _ (by show g ≠ X; omega)) (by simpa using hOV.lt)
          have hH6 := hHV.setOther ⟨X, q, none⟩ (.int .u8 (t : Nat)) (by show w.heap.size ≠ X; omega)
          have hg6 := grown_setCell_new hgV ⟨X, q, none⟩ (.int .u8 (t : Nat)) (Or.inl (by show w.heap.size ≤ X; omega))
          generalize accF s i q = aq at *
          have Hx2 := Lib.hid hx2
          have HV := Lib.hid hV.symm
          have HO6 := Lib.hid hO6
          have HZ6 := Lib.hid hZ6
          have HH6 := Lib.hid hH6
          have HG6 := Lib.hid hg6
          clear hU1 hV ht hx2 hZ6 hO6 hH6 hg6 hOV hZV hHV hgV gV HO5 HZ5 HH5 HG5 Hx1 HU ca1 cb1 fa1
          refine wp_region_still_tail 10 (by kernel_rfl) (by kernel_rfl) ?_
          change wpStill _ _ (World.drew U1) (fun a' => wpList _ _ _ _ a' (World.drew U1)) _ _
          rw [HV.out]
          simp only [List.take_succ_cons, List.take_zero, List.drop_succ_cons, List.drop_zero]
          repeat still_step
          refine wpStill_nil ?_
          simp only [Hx2.out]
          go_wp2_with fail
          exact ⟨⟨i + 1, Hin.out, by go_num, HG6.out, HO6.out, HZ6.out, HH6.out⟩, by simp [intOf]; have := Hin.out; omega⟩
        · obtain rfl : i = n := by omega
          have hOs := hOi.congr (f' := s) (fun j hj => by rw [if_pos hj])
          have j7 : (i : Int) ≤ i := by omega
          clear hi hin hOi
          go_upto_region 13 with fail
          obtain ⟨V0, hV0⟩ : ∃ V0, V0 = wr.drew := ⟨_, rfl⟩
          have hv0 : wr.grownBy V0 none := by rw [hV0]; exact grown_drew (grown_refl wr none)
          have HV0 := Lib.hid hV0.symm
          have gv := grown_trans hgr hv0
          have hHv := hHi.grown hv0 (by simp)
          have hZv := hZi.grown hv0 (by simp)
          have hOv := hOs.grown hv0 (by simp)
          have hOc := hOv.le
          obtain ⟨x, hx⟩ : ∃ x, x = hashF fh fa i := ⟨_, rfl⟩
          obtain ⟨y, hy⟩ : ∃ x, x = hashF fh fb i := ⟨_, rfl⟩
          obtain ⟨z, hz⟩ : ∃ x, x = hashF fh s i := ⟨_, rfl⟩
          have HC : Hid (∀ k W, k < 3 → V0.grownBy W none → Calls Tryd.prog 6 #[.agg (cellsOf .u8 16 fh), if k = 0 then .slice aa i ca else if k = 1 then .slice ab i cb else .slice (some ⟨g, 0, none⟩) i cap] W fun e w' => e = .returned (.agg (cellsOf .u8 16 (if k = 0 then x else if k = 1 then y else z))) ∧ W.grownBy w' none) := Lib.hid (fun k W hk hW => by
            have gW := grown_trans gv hW
            obtain rfl | rfl | rfl : k = 0 ∨ k = 1 ∨ k = 2 := by omega
            · rw [hx]; exact ghash_any i ca aa fh fa W hh hfa (HA.out.up (Nat.le_refl _) gW) hca (by omega)
            · rw [hy]; exact ghash_any i cb ab fh fb W hh hfb (HB.out.up (Nat.le_refl _) gW) hcb (by omega)
            · rw [hz]; exact ghash_any i cap _ fh s W hh hsl (hOv.grown hW (by simp)).rd hOc (by omega))
          have hxyz : ∀ j, j < 16 → z j = x j ^^^ y j := fun j hj => by
            rw [hx, hy, hz, HS.out]
            exact hashF_xor fh fa fb i j hj
          have hzl : ∀ j, z j < 256 := fun j => by rw [hz]; exact hashF_lt _ _ _ _
          have hxl : ∀ j, x j < 256 := fun j => by rw [hx]; exact hashF_lt _ _ _ _
          have hyl : ∀ j, y j < 256 := fun j => by rw [hy]; exact hashF_lt _ _ _ _
          have Hxyz := Lib.hid hxyz
          have Hxl := Lib.hid hxl
          have Hyl := Lib.hid hyl
          clear hV0 hv0 hgr hHi hZi hOs hx hy hz hxyz hzl hxl hyl
          go_cut [10, 11, 12] (fun s10 s11 s12 wx => ∃ X0 X1 X2, s10 = .pointer (some ⟨X0, 0, none⟩) ∧ s11 = .pointer (some ⟨X1, 0, none⟩) ∧ s12 = .pointer (some ⟨X2, 0, none⟩) ∧ V0.grownBy wx none ∧ Holds wx X0 24 .u8 16 x ∧ Holds wx X1 24 .u8 16 y ∧ Holds wx X2 24 .u8 16 z)
          case first =>
            refine wp_region_held (S := fun W => V0.grownBy W none) (by kernel_rfl) ?_
            change wpAnyH _ _ _ _ _ 15 #[false, false, false, false, false, false, false, false, false, false, false, false, false, false, false] _ (World.drew _)
            rw [HV0.out]
            have hS0 : V0.grownBy V0 none := grown_refl V0 _
            refine wpAnyH_takeD (some 55) (i := 0) (v := .agg (cellsOf .u8 16 fh)) rfl rfl (by kernel_rfl) (by kernel_rfl) (by kernel_rfl) (fun _ _ _ h => h) (Or.inl ⟨rfl, fun W hW => run_sixteen (hHv.grown hW (by simp)) rfl rfl⟩) hS0 ?_
            simp only [Act.put, List.setIfInBounds_toArray, List.set_cons_succ, List.set_cons_zero]
            refine wpAnyH_takeD (some 56) (i := 1) (v := .slice aa i ca) rfl rfl (by kernel_rfl) (by kernel_rfl) (by kernel_rfl) (fun _ _ _ h => h) (Or.inl ⟨rfl, fun _ _ => rfl⟩) hS0 ?_
            simp only [Act.put, List.setIfInBounds_toArray, List.set_cons_succ, List.set_cons_zero]
            refine wpAnyH_takeD (some 58) (i := 3) (v := .agg (cellsOf .u8 16 fh)) rfl rfl (by kernel_rfl) (by kernel_rfl) (by kernel_rfl) (fun _ _ _ h => h) (Or.inl ⟨rfl, fun W hW => run_sixteen (hHv.grown hW (by simp)) rfl rfl⟩) hS0 ?_
            simp only [Act.put, List.setIfInBounds_toArray, List.set_cons_succ, List.set_cons_zero]
            refine wpAnyH_takeD (some 59) (i := 4) (v := .slice ab i cb) rfl rfl (by kernel_rfl) (by kernel_rfl) (by kernel_rfl) (fun _ _ _ h => h) (Or.inl ⟨rfl, fun _ _ => rfl⟩) hS0 ?_
            simp only [Act.put, List.setIfInBounds_toArray, List.set_cons_succ, List.set_cons_zero]
            refine wpAnyH_takeD (some 61) (i := 6) (v := .agg (cellsOf .u8 16 fh)) rfl rfl (by kernel_rfl) (by kernel_rfl) (by kernel_rfl) (fun _ _ _ h => h) (Or.inl ⟨rfl, fun W hW => run_sixteen (hHv.grown hW (by simp)) rfl rfl⟩) hS0 ?_
            simp only [Act.put, List.setIfInBounds_toArray, List.set_cons_succ, List.set_cons_zero]
            refine wpAnyH_takeD (some 62) (i := 7) (v := .slice (some ⟨g, 0, none⟩) i cap) rfl rfl (by kernel_rfl) (by kernel_rfl) (by kernel_rfl) (fun _ _ _ h => h) (Or.inl ⟨rfl, fun _ _ => rfl⟩) hS0 ?_
            simp only [Act.put, List.setIfInBounds_toArray, List.set_cons_succ, List.set_cons_zero]
            refine calls_makes (T := 24) (kd := .u8) (s := 16) 3 3 sC sA sD sE (fun _ => 6) (fun k => #[.agg (cellsOf .u8 16 fh), if k = 0 then .slice aa i ca else if k = 1 then .slice ab i cb else .slice (some ⟨g, 0, none⟩) i cap]) (fun k => .agg (cellsOf .u8 16 (if k = 0 then x else if k = 1 then y else z))) _ sL (sums_ready (by kernel_rfl)) sums_call sums_make ?_ ?_ sD_inj sE_inj sDE ?_ (fun _ => ghash_enters) HC.out ?_ ?_ 6 0 (fun _ => none) _ _ (by decide) rfl (Fr.start _ _ _ _ _) (Mades.start _ _ _ _ _)
            · intro k hk
              obtain rfl | rfl | rfl : k = 0 ∨ k = 1 ∨ k = 2 := by omega
              · exact (by decide : (57 : Nat) < 84)
              · exact (by decide : (60 : Nat) < 84)
              · exact (by decide : (63 : Nat) < 84)
            · intro k hk
              obtain rfl | rfl | rfl : k = 0 ∨ k = 1 ∨ k = 2 := by omega
              · exact (by decide : (10 : Nat) < 84)
              · exact (by decide : (11 : Nat) < 84)
              · exact (by decide : (12 : Nat) < 84)
            · intro k hk
              obtain rfl | rfl | rfl : k = 0 ∨ k = 1 ∨ k = 2 := by omega
              · exact ⟨_, rfl, rfl, rfl, fun p b hF => exec_fn2 _ _ _ _ _ rfl ((hF.keep 55 (by decide) (by decide) (by decide)).trans rfl) ((hF.keep 56 (by decide) (by decide) (by decide)).trans rfl)⟩
              · exact ⟨_, rfl, rfl, rfl, fun p b hF => exec_fn2 _ _ _ _ _ rfl ((hF.keep 58 (by decide) (by decide) (by decide)).trans rfl) ((hF.keep 59 (by decide) (by decide) (by decide)).trans rfl)⟩
              · exact ⟨_, rfl, rfl, rfl, fun p b hF => exec_fn2 _ _ _ _ _ rfl ((hF.keep 61 (by decide) (by decide) (by decide)).trans rfl) ((hF.keep 62 (by decide) (by decide) (by decide)).trans rfl)⟩
            · intro j hj
              obtain rfl | rfl | rfl : j = 0 ∨ j = 1 ∨ j = 2 := by omega
              all_goals exact ⟨_, rfl, rfl, rfl, fun b W => run_newsixteen rfl⟩
            · intro p b W hp hF hM
              obtain ⟨X0, h0⟩ := hp 0 (by decide)
              obtain ⟨X1, h1⟩ := hp 1 (by decide)
              obtain ⟨X2, h2⟩ := hp 2 (by decide)
              have hszD := hF.sizes (m := 84) rfl sD (by decide)
              have hszE := hF.sizes (m := 84) rfl sE (by decide)
              have hb := hF.same ((((((((Fr.start _ sD sE _ 3).callD (by decide) hszD sD_inj sDE).callD (by decide) hszD sD_inj sDE).callD (by decide) hszD sD_inj sDE).makeD 0 X0 (by decide) rfl (by decide) hszE sE_inj sDE).makeD 1 X1 (by decide) rfl (by decide) hszE sE_inj sDE).makeD 2 X2 (by decide) rfl (by decide) hszE sE_inj sDE).congr ?_)
              · subst hb
                obtain ⟨q0, hX0⟩ := hM.at_ 0 X0 (by decide) h0
                obtain ⟨q1, hX1⟩ := hM.at_ 1 X1 (by decide) h1
                obtain ⟨q2, hX2⟩ := hM.at_ 2 X2 (by decide) h2
                have n01 : X0 ≠ X1 := fun e => by subst e; exact absurd (hM.ne 0 1 X0 (by decide) (by decide) h0 h1) (by decide)
                have n02 : X0 ≠ X2 := fun e => by subst e; exact absurd (hM.ne 0 2 X0 (by decide) (by decide) h0 h2) (by decide)
                have n12 : X1 ≠ X2 := fun e => by subst e; exact absurd (hM.ne 1 2 X1 (by decide) (by decide) h1 h2) (by decide)
                have hLf : sL 3 p = #[true, true, true, true, true, true, true, true, true, true, true, true, false, false, false] := by unfold sL; rw [h0, h1, h2]; rfl
                rw [hLf]
                simp only [show sD 0 = 57 from rfl, show sD 1 = 60 from rfl, show sD 2 = 63 from rfl, show sE 0 = 10 from rfl, show sE 1 = 11 from rfl, show sE 2 = 12 from rfl, show (if (2 : Nat) = 0 then x else if (2 : Nat) = 1 then y else z) = z from rfl, Act.put, List.setIfInBounds_toArray, List.set_cons_succ, List.set_cons_zero]
                have gS := hM.gr
                clear hM hF hLf hp hszD hszE h0 h1 h2
                have gS1 := grown_setRow_new gS X0 (cellsOf .u8 16 x) (Or.inl q0)
                have gS2 := grown_setRow_new gS1 X1 (cellsOf .u8 16 y) (Or.inl q1)
                have gS3 := grown_setRow_new gS2 X2 (cellsOf .u8 16 z) (Or.inl q2)
                have a0 := hX0.setRow .u8 16 x
                have a1 := hX1.of_block (setRow_other W X0 X1 (cellsOf .u8 16 x) n01.symm)
                have a2 := hX2.of_block (setRow_other W X0 X2 (cellsOf .u8 16 x) n02.symm)
                have b0 := a0.of_block (setRow_other _ X1 X0 (cellsOf .u8 16 y) n01)
                have b1 := a1.setRow .u8 16 y
                have b2 := a2.of_block (setRow_other _ X1 X2 (cellsOf .u8 16 y) n12.symm)
                have c0 := b0.of_block (setRow_other _ X2 X0 (cellsOf .u8 16 z) n02)
                have c1 := b1.of_block (setRow_other _ X2 X1 (cellsOf .u8 16 z) n12)
                have c2 := b2.setRow .u8 16 z
                refine wpAnyH_one (i := 12) (by kernel_rfl) (op_store 24 10 57 X0 (cellsOf .u8 16 x) rfl rfl rfl rfl rfl rfl 24 _ hX0.block (by rw [cellsOf_size]; kernel_rfl) (by rw [cellsOf_size, cellsOf_size]) (cellsOf_all _ _ _) gS1 ?_)
                simp only [List.setIfInBounds_toArray, List.set_cons_succ, List.set_cons_zero]
                refine wpAnyH_one (i := 13) (by kernel_rfl) (op_store 24 11 60 X1 (cellsOf .u8 16 y) rfl rfl rfl rfl rfl rfl 24 _ a1.block (by rw [cellsOf_size]; kernel_rfl) (by rw [cellsOf_size, cellsOf_size]) (cellsOf_all _ _ _) gS2 ?_)
                simp only [List.setIfInBounds_toArray, List.set_cons_succ, List.set_cons_zero]
                refine wpAnyH_one (i := 14) (by kernel_rfl) (op_store 24 12 63 X2 (cellsOf .u8 16 z) rfl rfl rfl rfl rfl rfl 24 _ b2.block (by rw [cellsOf_size]; kernel_rfl) (by rw [cellsOf_size, cellsOf_size]) (cellsOf_all _ _ _) gS3 ?_)
                simp only [List.setIfInBounds_toArray, List.set_cons_succ, List.set_cons_zero]
                refine wpAnyH_done (by kernel_rfl) ?_ _
                go_wp2_with fail
                go_meet
                case rel => exact ⟨X0, X1, X2, rfl, rfl, rfl, gS3, c0, c1, c2⟩
              · intro j hj
                obtain rfl | rfl | rfl : j = 0 ∨ j = 1 ∨ j = 2 := by omega
                · exact h0.symm
                · exact h1.symm
                · exact h2.symm
          case rest =>
            obtain ⟨X0, X1, X2, rfl, rfl, rfl, g6, hx6, hy6, hz6⟩ := hcut
            have gw := grown_trans gv g6
            have hOw := hOv.grown g6 (by simp)
            have hZw := hZv.grown g6 (by simp)
            clear HV0 HC hHv hZv hOv gv g6 HA HB
            go_wp2_with fail
            go_loopw [13, 64] (fun _ u64 wr => ∃ k : Nat, k ≤ 16 ∧ u64 = .int .i64 k ∧ wc.grownBy wr none) (fun _ u64 _ => 16 - (intOf u64).toNat)
            case atStart => exact ⟨0, by omega, rfl, grown_refl _ _⟩
            case round =>
              obtain ⟨k, hk, rfl, hgk⟩ := hrel
              by_cases hlt : k < 16
              · have j8 : (k : Int) < 16 := by omega
                have cx := (hx6.grown hgk (by simp)).cell k hlt
                have cy := (hy6.grown hgk (by simp)).cell k hlt
                have cz := (hz6.grown hgk (by simp)).cell k hlt
                have hxe : bits .xor .u8 (x k : Int) (y k : Int) = ((z k : Nat) : Int) := by
                  rw [bits_xor_u8 _ _ (Hxl.out k) (Hyl.out k), Hxyz.out k hlt]
                generalize x k = xk at *
                generalize y k = yk at *
                generalize z k = zk at *
                have Hgk := Lib.hid hgk
                have Hlt := Lib.hid hlt
                clear hgk hk hlt hx6 hy6 hz6
                go_wp2_with fail
                go_quiet (fail)
                go_wp2_with fail
                exact ⟨⟨k + 1, Hlt.out, by go_num, grown_drewN Hgk.out nq⟩, by simp [intOf]; have := Hlt.out; omega⟩
              · obtain rfl : k = 16 := by omega
                clear hlt hk hx6 hy6 hz6
                go_upto_region 20 with fail
                obtain ⟨V0, hV0⟩ : ∃ V0, V0 = wr.drew := ⟨_, rfl⟩
                have hv0 : wc.grownBy V0 none := by rw [hV0]; exact grown_drew hgk
                have HV0 := Lib.hid hV0.symm
                have gv := grown_trans gw hv0
                have hOv := hOw.grown hv0 (by simp)
                have hZv := hZw.grown hv0 (by simp)
                have hOc := hOv.le
                have HC : Hid (∀ W, V0.grownBy W none → Calls Tryd.prog 6 #[.agg (cellsOf .u8 16 oneB), .slice (some ⟨g, 0, none⟩) i cap] W fun e w' => e = .returned (.agg (cellsOf .u8 16 (hashF oneB s i))) ∧ W.grownBy w' none) := Lib.hid (fun W hW => ghash_any i cap _ oneB s W oneB_lt hsl (hOv.grown hW (by simp)).rd hOc (by omega))
                have hE : eq16 (hashF oneB s i) (accF s i) = true := (eq16_iff _ _).2 (fun j hj => hash_one s hsl i j hj)
                generalize hashF oneB s i = h1 at *
                generalize accF s i = a1 at *
                have HE := Lib.hid hE
                clear hV0 hv0 hgk hOw hZw gw hE
                refine wp_region_held (S := fun W => V0.grownBy W (none)) (by kernel_rfl) ?_
                change wpAnyH _ _ _ _ _ 6 #[false, false, false, false, false, false] _ (World.drew _)
                rw [HV0.out]
                have hS0 : V0.grownBy V0 (none) := grown_refl V0 _
                refine wpAnyH_takeD (some 79) (i := 0) (v := .agg (cellsOf .u8 16 oneB)) rfl rfl (by kernel_rfl) (by kernel_rfl) (by kernel_rfl) (fun _ _ _ h => h) (Or.inl ⟨rfl, fun _ _ => by go_simp; rfl⟩) hS0 ?_
                simp only [Act.put, List.setIfInBounds_toArray, List.set_cons_succ, List.set_cons_zero]
                refine wpAnyH_takeD (some 80) (i := 1) (v := .slice (some ⟨g, 0, none⟩) i cap) rfl rfl (by kernel_rfl) (by kernel_rfl) (by kernel_rfl) (fun _ _ _ h => h) (Or.inl ⟨rfl, fun _ _ => rfl⟩) hS0 ?_
                simp only [Act.put, List.setIfInBounds_toArray, List.set_cons_succ, List.set_cons_zero]
                refine wpAnyH_takeD (some 82) (i := 3) (v := .agg (cellsOf .u8 16 a1)) rfl rfl (by kernel_rfl) (by kernel_rfl) (by kernel_rfl) (fun _ _ _ h => h) (Or.inl ⟨rfl, fun W hW => run_sixteen (hZv.grown hW (by simp)) rfl rfl⟩) hS0 ?_
                simp only [Act.put, List.setIfInBounds_toArray, List.set_cons_succ, List.set_cons_zero]
                refine wpAnyH_one (i := 2) (by kernel_rfl) (op_call (some 81) 6 #[.agg (cellsOf .u8 16 oneB), .slice (some ⟨g, 0, none⟩) i cap] (.agg (cellsOf .u8 16 h1)) rfl rfl rfl (exec_fn2 _ _ _ _ _ rfl rfl rfl) ghash_enters (HC.out V0 hS0) hS0 ?_)
                intro V1 gg1 hS1
                simp only [Act.put, List.setIfInBounds_toArray, List.set_cons_succ, List.set_cons_zero]
                refine wpAnyH_takeD (some 83) (i := 4) (v := .bool true) rfl rfl (by kernel_rfl) (by kernel_rfl) (by kernel_rfl) (fun _ _ _ h => h) (Or.inl ⟨rfl, fun _ _ => (run_eqlB _ _ _ _ rfl rfl rfl).trans (by rw [HE.out])⟩) hS1 ?_
                simp only [Act.put, List.setIfInBounds_toArray, List.set_cons_succ, List.set_cons_zero]
                refine wpAnyH_takeD (some 6) (i := 5) (v := .bool true) rfl rfl (by kernel_rfl) (by kernel_rfl) (by kernel_rfl) (fun _ _ _ h => h) (Or.inl ⟨rfl, fun _ _ => rfl⟩) hS1 ?_
                simp only [Act.put, List.setIfInBounds_toArray, List.set_cons_succ, List.set_cons_zero]
                refine wpAnyH_done (by kernel_rfl) ?_ _
                go_wp2_with fail
                go_ret
                exact ⟨⟨rfl, grown_trans gv hS1⟩⟩
    · have j4 : (n : Int) ≤ 400 := by omega
      have j5 : ((n : Int) != (m : Int)) = true := by rw [bne_iff_ne]; omega
      clear h4 hnm hA hB hH1
      go_wp2_with fail
      go_ret
      exact ⟨⟨rfl, g01⟩⟩
end Go.Proofs.YtlfopcigbgfnlaaDoor
namespace Go.Proofs.YtlfopcigbgfnlaaDoor
open Go.ChangeShapes Go.WideShapes Go.ChangeAt Go.RowKit

set_option maxRecDepth 100000 in
theorem gcmSums_lifted (os : Os) (started : os.Started) (H : Type) (enc : TypeId × Value → H) :
    ReturnsInHanded {} Tryd.checked os 4 .any (fun w args => (Rows.gcmSumsSpec.pre enc Tryd.prog Tryd.f4 [] false w args ∧ laidMetH Tryd.prog theLaidA w) ∧ sizedMet enc Tryd.prog Tryd.f4 (OpenSpec.ofChange Rows.gcmSumsSpec) false w args)
      (Rows.gcmSumsSpec.post enc Tryd.prog Tryd.f4 false true false false) := by
  refine returnsInHanded_of_change_and (C := Tryd.checked) (X := fun w _ => laidMetH Tryd.prog theLaidA w) (fun _ _ _ hh h => h.of_heap hh) own started (by kernel_rfl) Tryd.func4
    (ChangeSpec.witness_shaped (enc := enc) (C := Tryd.checked) (os := os) (X := fun w _ => laidMetH Tryd.prog theLaidA w) false (World.doorLaid Tryd.prog 400 os) #[.agg (cellsOf .u8 16 (fun _ => 0)), .slice none 0 0, .slice none 0 0] 8 rfl (World.shaped_of_RefB (by kernel_rfl) (by kernel_rfl)) (by kernel_rfl) (by kernel_rfl) (by kernel_rfl) (door_metA os _)) ?_
  intro W base args ds gs before hval0 hW _ _ hL _
  have hval : ∀ (j : Nat) t v, Tryd.f4.params[j]? = some t → args[j]? = some v → Value.okWide Tryd.prog W .any base t v := hval0
  have hW' := hW
  obtain ⟨p, q, hA0, hV, rfl, _, _⟩ := hW
  have hA : DataW.TrodAll enc Tryd.prog W 0 (fun _ => true) true Tryd.f4.params.toList args.toList ds p := hA0
  rw [Tryd.params4] at hA hval
  obtain ⟨v0, vs0, d0, ds0, p0, q0, hv0, rfl, rfl, h0, hA1⟩ := trodAll_cons hA
  obtain ⟨v1, vs1, d1, ds1, p1, q1, rfl, rfl, rfl, h1, hA2⟩ := trodAll_cons hA1
  obtain ⟨v2, vs2, d2, ds2, p2, q2, rfl, rfl, rfl, h2, hA3⟩ := trodAll_cons hA2
  obtain ⟨rfl, rfl, rfl⟩ := trodAll_nil hA3
  obtain ⟨l⟩ := args
  simp only at hv0
  subst hv0
  obtain ⟨rfl, rfl⟩ := trodVars_none hV
  obtain ⟨f0, rfl, hf0⟩ := open_arr8 (P := Tryd.prog) (n := 16) (e := 5) (by kernel_rfl) (by kernel_rfl) (by kernel_rfl) (by kernel_rfl) (hval 0 24 v0 rfl rfl) h0
  obtain ⟨a1, n1, c1, f1, rfl, hc1, hR1, hf1⟩ := open_bytes (P := Tryd.prog) under_bytes (by kernel_rfl) (by kernel_rfl) (hval 1 22 v1 rfl rfl) h1
  obtain ⟨a2, n2, c2, f2, rfl, hc2, hR2, hf2⟩ := open_bytes (P := Tryd.prog) under_bytes (by kernel_rfl) (by kernel_rfl) (hval 2 22 v2 rfl rfl) h2
  obtain ⟨hLS, hsz⟩ := of_laidA hL
  clear hA0 hval0
  refine (gcmSums_any n1 c1 n2 c2 a1 a2 f0 f1 f2 W hLS hsz hR1 hR2 hc1 hc2 hf0 hf1 hf2).mono fun e W' ⟨⟨he, hg⟩⟩ => ?_
  subst he
  exact ⟨_, rfl, law_post laidOut hW' rfl rfl (tb := 4) rfl Tryd.underlying4 (by
      rw [Tryd.params4]
      intro t ht
      have hall : ([24, 22, 22].all fun u => Tryd.prog.readableRec u && decide (u < Tryd.prog.types.size)) = true := by kernel_rfl
      have := List.all_eq_true.1 hall t (by simpa using ht)
      simpa using this) hg⟩

theorem gcmSums_holds : Rows.GcmSumsSaid :=
  OpenClaim.holds_of_wide 4 Tryd.f4 rfl rfl rfl rfl rfl rfl rfl ⟨rfl, rfl, rfl, rfl, rfl⟩ rfl rfl rfl rfl rfl (by kernel_rfl) Tryd.func4 (by kernel_rfl)
    (of_decide_eq_true (by kernel_rfl)) (by unfold Func.isWrapper; first | (rw [if_pos (by decide +kernel)]; kernel_rfl) | (rw [if_neg (by decide +kernel)]; exact ⟨rfl, rfl⟩))
    (fun os started H enc _ => gcmSums_lifted os started H enc)

theorem gcmSums_card_holds : Rows.GcmSumsCardSaid :=
  Claim7.holds_tied_plain_at .later [] [.data] true _ false
    gcmSums_holds (fun _ h => by cases h) (by kernel_rfl) (fun _ h => by cases h) gcmSums_row_tie rfl ⟨rfl, rfl⟩ (by kernel_rfl) rfl
    (fun f fn hf hfn => by
      obtain rfl : f = 4 := Option.some.inj ((show Tryd.prog.funcNamed "hailer/hailerlaw05.GcmSums" = some 4 by kernel_rfl).symm.trans hf) |>.symm
      obtain rfl : fn = Tryd.f4 := (Option.some.inj (Tryd.func4.symm.trans hfn)).symm
      exact ⟨by kernel_rfl, fun j t ht => by
        rw [Tryd.params4] at ht
        have hm : t ∈ [24, 22, 22] := by simpa using Array.mem_of_getElem? ht
        have hall : ([24, 22, 22].all fun u => !Tryd.prog.wantsStandIn u) = true := by kernel_rfl
        exact (show Tryd.prog.wantsStandIn t = false by simpa using List.all_eq_true.1 hall t hm)⟩)
    (by kernel_rfl)

end Go.Proofs.YtlfopcigbgfnlaaDoor
