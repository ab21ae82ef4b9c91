/-
  gcm's Hash, and a text's tag.
-/
import Derived.Test.YtlfopcigbgfnlaaDoorGcmFold
import Derived.Test.YtlfopcigbgfnlaaDoorGcmFirst
import Derived.Test.YtlfopcigbgfnlaaDoorCtrNext
import Derived.Test.YtlfopcigbgfnlaaDoorAesPair
namespace Go.Proofs.YtlfopcigbgfnlaaDoor
open Go.RowKit Go.Shelf

set_option maxRecDepth 100000
set_option maxHeartbeats 1000000

theorem two_zero : cellsOf .u64 2 (wd 0) = #[.int .u64 0, .int .u64 0] := by kernel_rfl

theorem ghash_any (n c : Nat) (a : Option Addr) (h f : Nat → Nat) (w : World) (hh : ∀ i, h i < 256) (hf : ∀ i, f i < 256) (hR : Rd w w.heap.size a n f) (hc : n ≤ c) (hn : n ≤ 2 ^ 50) :
    Calls Tryd.prog 6 #[.agg (cellsOf .u8 16 h), .slice a n c] w fun e w' => e = .returned (.agg (cellsOf .u8 16 (hashF h f n))) ∧ w.grownBy w' none := by
  have hA : Holds ((w.alloc (.cells (cellsOf .u8 16 h) 24)).alloc (.cells #[.int .u8 0, .int .u8 0, .int .u8 0, .int .u8 0, .int .u8 0, .int .u8 0, .int .u8 0, .int .u8 0, .int .u8 0, .int .u8 0, .int .u8 0, .int .u8 0, .int .u8 0, .int .u8 0, .int .u8 0, .int .u8 0] 24)) w.heap.size 24 .u8 16 h := (holds_alloc w 24 .u8 16 h _ rfl).of_block (by rw [heap_alloc_old]; simp)
  have hB : Holds ((w.alloc (.cells (cellsOf .u8 16 h) 24)).alloc (.cells #[.int .u8 0, .int .u8 0, .int .u8 0, .int .u8 0, .int .u8 0, .int .u8 0, .int .u8 0, .int .u8 0, .int .u8 0, .int .u8 0, .int .u8 0, .int .u8 0, .int .u8 0, .int .u8 0, .int .u8 0, .int .u8 0] 24)) (w.heap.size + 1) 24 .u8 16 (fun _ => 0) := by
    have := holds_alloc (w.alloc (.cells (cellsOf .u8 16 h) 24)) 24 .u8 16 (fun _ => 0) _ zero16
    rwa [World.size_alloc] at this
  have hg := grown_alloc (World.grownBy_alloc w (.cells (cellsOf .u8 16 h) 24) none) (.cells #[.int .u8 0, .int .u8 0, .int .u8 0, .int .u8 0, .int .u8 0, .int .u8 0, .int .u8 0, .int .u8 0, .int .u8 0, .int .u8 0, .int .u8 0, .int .u8 0, .int .u8 0, .int .u8 0, .int .u8 0, .int .u8 0] 24)
  have hR1 := hR.up (Nat.le_refl _) hg
  have HT : Hid (∀ W, Calls Tryd.prog 14 #[.agg (cellsOf .u8 16 h)] W fun e w' => e = .returned (.agg (cellsOf .u64 2 (wd (pl h)))) ∧ W.grownBy w' none) := Lib.hid (fun W => gtaken_any h W hh)
  have HF : Hid (∀ W, Rd W W.heap.size a n f → Calls Tryd.prog 13 #[.agg #[.int .u64 0, .int .u64 0], .agg (cellsOf .u64 2 (wd (pl h))), .slice a n c] W fun e w' => e = .returned (.agg (cellsOf .u64 2 (wd (fdA (pl h) 0 f n)))) ∧ W.grownBy w' none) := Lib.hid (fun W hW => by
    have := gfold_any (pl h) 0 n c a f W (pl_lt h) hf hW hc hn
    rwa [two_zero] at this)
  have HP : Hid (∀ W, Calls Tryd.prog 15 #[.agg (cellsOf .u64 2 (wd (fdA (pl h) 0 f n)))] W fun e w' => e = .returned (.agg (cellsOf .u8 16 (hashF h f n))) ∧ W.grownBy w' none) := Lib.hid (fun W => by
    have := gput_any (fdA (pl h) 0 f n) W
    rwa [cellsOf_congr .u8 16 _ (hashF h f n) (fun i hi => un_hash h f n i hi)] at this)
  generalize wd (fdA (pl h) 0 f n) = x at *
  generalize wd (pl h) = y at *
  generalize hashF h f n = z at *
  clear hh hf hR hc hn
  go_enter Tryd.func6, Tryd.ntmps6
  go_wp2_with (refine wpList_load_row rfl 24 (.tmp 2) rfl w.heap.size rfl 24 _ (0, 0) (.array 16 5) hA.block (by kernel_rfl) rfl (by rw [cellsOf_size]; kernel_rfl) ?_)
  generalize (w.alloc (.cells (cellsOf .u8 16 h) 24)).alloc (.cells #[.int .u8 0, .int .u8 0, .int .u8 0, .int .u8 0, .int .u8 0, .int .u8 0, .int .u8 0, .int .u8 0, .int .u8 0, .int .u8 0, .int .u8 0, .int .u8 0, .int .u8 0, .int .u8 0, .int .u8 0, .int .u8 0] 24) = w1 at *
  go_at_call 14
  with_reducible refine (HT.out _).mono ?_
  rintro e w2 ⟨rfl, g2⟩
  have hR2 := hR1.up (Nat.le_refl _) g2
  go_wp2_with fail
  go_at_call 13
  with_reducible refine (HF.out _ hR2).mono ?_
  rintro e w3 ⟨rfl, g3⟩
  go_wp2_with fail
  go_at_call 15
  with_reducible refine (HP.out _).mono ?_
  rintro e w4 ⟨rfl, g4⟩
  have g14 := grown_trans (grown_trans g2 g3) g4
  have hB4 := hB.grown g14 (by simp)
  have g04 := grown_trans hg g14
  go_wp2_with (refine wpList_store_row rfl 24 (.tmp 4) (.tmp 10) rfl (w.heap.size + 1) _ rfl rfl 24 _ hB4.block (by rw [cellsOf_size]; kernel_rfl) rfl (cellsOf_all _ _ _) ?_)
  exact bodyPost_ret (v := .agg (cellsOf .u8 16 z)) (results_cell_row rfl _ _ (w.heap.size + 1) 24 _ (0, 0) (.array 16 5) rfl (hB4.setRow .u8 16 z).block (by kernel_rfl) rfl (by rw [cellsOf_size]; kernel_rfl)) rfl ⟨rfl, grown_setRow_new g04 _ _ (Or.inl (by omega))⟩
/-- How many bits there are, of both, as 16 bytes. -/
def lnF (a b j : Nat) : Nat := if j < 8 then 8 * a / 256 ^ (7 - j) % 256 else 8 * b / 256 ^ (15 - j) % 256
theorem lnF_lt (a b j : Nat) : lnF a b j < 256 := by
  unfold lnF
  split <;> exact Nat.mod_lt _ (by decide)
theorem be_digits (x : Nat) (hx : x < 2 ^ 64) : be (fun j => x / 256 ^ (7 - j) % 256) 8 = x := by
  simp only [be, show 7 - 0 = 7 from rfl, show 7 - 1 = 6 from rfl, show 7 - 2 = 5 from rfl, show 7 - 3 = 4 from rfl, show 7 - 4 = 3 from rfl, show 7 - 5 = 2 from rfl, show 7 - 6 = 1 from rfl, show 7 - 7 = 0 from rfl]
  omega
theorem wd_ln0 (a b : Nat) (ha : 8 * a < 2 ^ 64) : wd (pl (lnF a b)) 0 = 8 * a := by
  rw [← wd_pl (lnF a b) (lnF_lt a b) 0 (by decide), ← be_digits (8 * a) ha]
  refine be_alike 8 fun i hi => ?_
  unfold lnF
  rw [if_pos (by omega), show 8 * 0 + i = i by omega]
theorem wd_ln1 (a b : Nat) (hb : 8 * b < 2 ^ 64) : wd (pl (lnF a b)) 1 = 8 * b := by
  rw [← wd_pl (lnF a b) (lnF_lt a b) 1 (by decide), ← be_digits (8 * b) hb]
  refine be_alike 8 fun i hi => ?_
  unfold lnF
  rw [if_neg (by omega), show 15 - (8 * 1 + i) = 7 - i by omega]
/-- What is hashed for a tag, under h. -/
def tagP (h na nt : Nat) (fa ft : Nat → Nat) : Nat := gMul (fdA h (fdA h 0 fa na) ft nt ^^^ pl (lnF na nt)) h
/-- A tag. -/
def tagF (R : Nat) (W f fa : Nat → Nat) (na : Nat) (ft : Nat → Nat) (nt i : Nat) : Nat := un (tagP (pl (sealA R W (fun _ => 0))) na nt fa ft ^^^ pl (sealA R W f)) i
theorem tagF_lt (R : Nat) (W f fa : Nat → Nat) (na : Nat) (ft : Nat → Nat) (nt i : Nat) : tagF R W f fa na ft nt i < 256 := un_lt _ _
theorem gbits_enters (args : Array Value) (w : World) : (callFunc 35 args).run Tryd.prog w = .ok (.enter 35 args) w := enters_of Tryd.func35 (by kernel_rfl) rfl args w

theorem gtag_any (m R na ca nt ct : Nat) (aa ta : Option Addr) (C W f fa ft : Nat → Nat) (w : World) (hW : ∀ i, W i < 256) (hf : ∀ i, f i < 256) (hfa : ∀ i, fa i < 256) (hft : ∀ i, ft i < 256) (h1 : 1 ≤ R) (hR : R ≤ 14) (hCc : Cols (4 * (R + 1)) W C)
    (hC : Ciph w m R C) (hL : LaidS w 0) (hA : Rd w w.heap.size aa na fa) (hca : na ≤ ca) (hna : na ≤ 2 ^ 40) (hT : Rd w w.heap.size ta nt ft) (hct : nt ≤ ct) (hnt : nt ≤ 2 ^ 40) :
    Calls Tryd.prog 20 #[.pointer (some ⟨m, 0, none⟩), .agg (cellsOf .u8 16 f), .slice aa na ca, .slice ta nt ct] w fun e w' => e = .returned (.agg (cellsOf .u8 16 (tagF R W f fa na ft nt))) ∧ w.grownBy w' none := by
  have hF : Holds ((w.alloc (.cells (cellsOf .u8 16 f) 24)).alloc (.cells #[.int .u8 0, .int .u8 0, .int .u8 0, .int .u8 0, .int .u8 0, .int .u8 0, .int .u8 0, .int .u8 0, .int .u8 0, .int .u8 0, .int .u8 0, .int .u8 0, .int .u8 0, .int .u8 0, .int .u8 0, .int .u8 0] 24)) w.heap.size 24 .u8 16 f := (holds_alloc w 24 .u8 16 f _ rfl).of_block (by rw [heap_alloc_old]; simp)
  have hO : Holds ((w.alloc (.cells (cellsOf .u8 16 f) 24)).alloc (.cells #[.int .u8 0, .int .u8 0, .int .u8 0, .int .u8 0, .int .u8 0, .int .u8 0, .int .u8 0, .int .u8 0, .int .u8 0, .int .u8 0, .int .u8 0, .int .u8 0, .int .u8 0, .int .u8 0, .int .u8 0, .int .u8 0] 24)) (w.heap.size + 1) 24 .u8 16 (fun _ => 0) := by
    have := holds_alloc (w.alloc (.cells (cellsOf .u8 16 f) 24)) 24 .u8 16 (fun _ => 0) _ zero16
    rwa [World.size_alloc] at this
  have hg := grown_alloc (World.grownBy_alloc w (.cells (cellsOf .u8 16 f) 24) none) (.cells #[.int .u8 0, .int .u8 0, .int .u8 0, .int .u8 0, .int .u8 0, .int .u8 0, .int .u8 0, .int .u8 0, .int .u8 0, .int .u8 0, .int .u8 0, .int .u8 0, .int .u8 0, .int .u8 0, .int .u8 0, .int .u8 0] 24)
  obtain ⟨hP, hhP⟩ : ∃ x, x = pl (sealA R W (fun _ => 0)) := ⟨_, rfl⟩
  have hPl : hP < 2 ^ 128 := by rw [hhP]; exact pl_lt _
  have HS0 : Hid (∀ U, w.grownBy U none → Calls Tryd.prog 34 #[.pointer (some ⟨m, 0, none⟩), .agg #[.int .u8 0, .int .u8 0, .int .u8 0, .int .u8 0, .int .u8 0, .int .u8 0, .int .u8 0, .int .u8 0, .int .u8 0, .int .u8 0, .int .u8 0, .int .u8 0, .int .u8 0, .int .u8 0, .int .u8 0, .int .u8 0]] U fun e w' => e = .returned (.agg (cellsOf .u8 16 (sealA R W (fun _ => 0)))) ∧ U.grownBy w' none) := Lib.hid (fun U hU => by
    have := seal_any m R C W (fun _ => 0) U (hL.grown hU (by simp)) (hC.grown hU (by simp)) hCc (fun _ => by decide) hW h1 hR
    rwa [← zero16] at this)
  have HS1 : Hid (∀ U row, w.grownBy U row → row ≠ some m → row ≠ some 0 → Calls Tryd.prog 34 #[.pointer (some ⟨m, 0, none⟩), .agg (cellsOf .u8 16 f)] U fun e w' => e = .returned (.agg (cellsOf .u8 16 (sealA R W f))) ∧ U.grownBy w' none) := Lib.hid (fun U row hU h1' h2' =>
    seal_any m R C W f U (hL.grown hU (fun e => h2' e.symm)) (hC.grown hU (fun e => h1' e.symm)) hCc hf hW h1 hR)
  have HT0 : Hid (∀ U, Calls Tryd.prog 14 #[.agg (cellsOf .u8 16 (sealA R W (fun _ => 0)))] U fun e w' => e = .returned (.agg (cellsOf .u64 2 (wd hP))) ∧ U.grownBy w' none) := Lib.hid (fun U => by
    rw [hhP]
    exact gtaken_any _ U (sealA_lt R W _ hW (fun _ => by decide)))
  have HT1 : Hid (∀ U, Calls Tryd.prog 14 #[.agg (cellsOf .u8 16 (sealA R W f))] U fun e w' => e = .returned (.agg (cellsOf .u64 2 (wd (pl (sealA R W f))))) ∧ U.grownBy w' none) := Lib.hid (fun U => gtaken_any _ U (sealA_lt R W _ hW hf))
  obtain ⟨X1, hX1⟩ : ∃ x, x = fdA hP 0 fa na := ⟨_, rfl⟩
  obtain ⟨X2, hX2⟩ : ∃ x, x = fdA hP X1 ft nt := ⟨_, rfl⟩
  obtain ⟨X3, hX3⟩ : ∃ x, x = gMul (X2 ^^^ pl (lnF na nt)) hP := ⟨_, rfl⟩
  have HF0 : Hid (∀ U, w.grownBy U none → Calls Tryd.prog 13 #[.agg #[.int .u64 0, .int .u64 0], .agg (cellsOf .u64 2 (wd hP)), .slice aa na ca] U fun e w' => e = .returned (.agg (cellsOf .u64 2 (wd X1))) ∧ U.grownBy w' none) := Lib.hid (fun U hU => by
    have := gfold_any hP 0 na ca aa fa U hPl hfa (hA.up (Nat.le_refl _) hU) hca (by omega)
    rw [two_zero] at this
    rw [hX1]; exact this)
  have HF1 : Hid (∀ U, w.grownBy U none → Calls Tryd.prog 13 #[.agg (cellsOf .u64 2 (wd X1)), .agg (cellsOf .u64 2 (wd hP)), .slice ta nt ct] U fun e w' => e = .returned (.agg (cellsOf .u64 2 (wd X2))) ∧ U.grownBy w' none) := Lib.hid (fun U hU => by
    rw [hX2]
    exact gfold_any hP X1 nt ct ta ft U hPl hft (hT.up (Nat.le_refl _) hU) hct (by omega))
  have HL : Hid (cellsOf .u64 2 (wd (pl (lnF na nt))) = #[.int .u64 ((8 * na : Nat) : Int), .int .u64 ((8 * nt : Nat) : Int)]) := Lib.hid (by
    rw [two_words, wd_ln0 na nt (by omega), wd_ln1 na nt (by omega)])
  have HM : Hid (∀ U, Calls Tryd.prog 28 #[.agg (cellsOf .u64 2 (wd (X2 ^^^ pl (lnF na nt)))), .agg (cellsOf .u64 2 (wd hP))] U fun e w' => e = .returned (.agg (cellsOf .u64 2 (wd X3))) ∧ U.grownBy w' none) := Lib.hid (fun U => by
    rw [hX3]
    exact gtimes_any _ _ U hPl)
  have HP : Hid (∀ U, Calls Tryd.prog 15 #[.agg (cellsOf .u64 2 (wd (X3 ^^^ pl (sealA R W f))))] U fun e w' => e = .returned (.agg (cellsOf .u8 16 (tagF R W f fa na ft nt))) ∧ U.grownBy w' none) := Lib.hid (fun U => by
    have := gput_any (X3 ^^^ pl (sealA R W f)) U
    rw [hX3, hX2, hX1, hhP] at this
    rw [hX3, hX2, hX1, hhP]
    exact this)
  have HB : Hid (∀ (a : Option Addr) (n c : Nat) U, n ≤ 2 ^ 40 → Calls Tryd.prog 35 #[.slice a n c] U fun e w' => e = .returned (.int .u64 ((8 * n : Nat) : Int)) ∧ U.grownBy w' none) := Lib.hid (fun a n c U hn => (gbits_any a n c U (by omega)).mono fun _ _ h => ⟨h.1, by rw [← h.2]; exact grown_refl _ _⟩)
  obtain ⟨S0, hS0⟩ : ∃ x, x = sealA R W (fun _ => 0) := ⟨_, rfl⟩
  obtain ⟨S1, hS1⟩ : ∃ x, x = sealA R W f := ⟨_, rfl⟩
  rw [← hS0] at HS0 HT0
  rw [← hS1] at HS1 HT1 HP
  obtain ⟨z, hz⟩ : ∃ x, x = tagF R W f fa na ft nt := ⟨_, rfl⟩
  rw [← hz] at HP ⊢
  have HLS := Lib.hid hL
  have HC := Lib.hid hC
  clear hz hS0 hS1 hX1 hX2 hX3 hhP hA hT hca hct hC hL hCc
  go_enter Tryd.func20, Tryd.ntmps20
  go_wp2_with fail
  generalize (w.alloc (.cells (cellsOf .u8 16 f) 24)).alloc (.cells #[.int .u8 0, .int .u8 0, .int .u8 0, .int .u8 0, .int .u8 0, .int .u8 0, .int .u8 0, .int .u8 0, .int .u8 0, .int .u8 0, .int .u8 0, .int .u8 0, .int .u8 0, .int .u8 0, .int .u8 0, .int .u8 0] 24) = w1 at *
  go_at_call 34
  with_reducible refine (HS0.out _ hg).mono ?_
  rintro e w2 ⟨rfl, g2⟩
  go_wp2_with fail
  go_at_call 14
  with_reducible refine (HT0.out _).mono ?_
  rintro e w3 ⟨rfl, g3⟩
  have hN0 : Holds (w3.alloc (.cells #[.int .u64 0, .int .u64 0] 41)) w3.heap.size 41 .u64 2 (fun _ => 0) := holds_alloc w3 _ .u64 2 _ _ rfl
  have hbn := hN0.block
  have hg3 := grown_trans (grown_trans hg g2) g3
  have hF3 := (hF.grown g2 (by simp)).grown g3 (by simp)
  have hO3 := (hO.grown g2 (by simp)).grown g3 (by simp)
  have hlF := hF3.lt
  have hlO := hO3.lt
  have hH4 := hN0.setRow .u64 2 (wd hP)
  have g4 := grown_setRow_new (World.grownBy_alloc w3 (.cells #[.int .u64 0, .int .u64 0] 41) none) w3.heap.size (cellsOf .u64 2 (wd hP)) (Or.inl (Nat.le_refl _))
  have hg4 := grown_trans hg3 g4
  have hF4 := hF3.grown g4 (by simp)
  have hO4 := hO3.grown g4 (by simp)
  obtain ⟨w4, hw4⟩ : ∃ w4, w4 = (w3.alloc (.cells #[.int .u64 0, .int .u64 0] 41)).setRow w3.heap.size (cellsOf .u64 2 (wd hP)) := ⟨_, rfl⟩
  rw [← hw4] at hH4 g4 hg4 hF4 hO4
  have HW4 := Lib.hid hw4
  have hl4 : w3.heap.size < w4.heap.size := hH4.lt
  clear hN0 hg3 hF3 hO3 g4 hw4 hF hO g2 g3 hg
  go_upto_region 2 with (refine wpList_store_row rfl 41 (.tmp 9) (.tmp 14) rfl w3.heap.size _ rfl rfl 41 _ hbn (by rw [cellsOf_size]; kernel_rfl) rfl (cellsOf_all _ _ _) ?_)
  rw [← HW4.out]
  generalize w3.heap.size = b9 at *
  clear hbn
  obtain ⟨V0, hV0⟩ : ∃ V0, V0 = w4.drew := ⟨_, rfl⟩
  have hv0 : w4.grownBy V0 none := by rw [hV0]; exact grown_drew (grown_refl w4 none)
  have HV0 := Lib.hid hV0.symm
  clear hV0
  simp only [Act.put]
  go_cut [10] (fun s10 wx => ∃ X, s10 = .pointer (some ⟨X, 0, none⟩) ∧ w4.grownBy wx none ∧ w4.heap.size ≤ X ∧ Holds wx X 41 .u64 2 (wd X2))
  case first =>
    refine wp_region_held (S := fun W => V0.grownBy W (none)) (by kernel_rfl) ?_
    change wpAnyH _ _ _ _ _ 9 #[false, false, false, false, false, false, false, false, false] _ (World.drew _)
    rw [HV0.out]
    have hS0 : V0.grownBy V0 (none) := grown_refl V0 _
    refine wpAnyH_takeD (some 15) (i := 0) (v := .agg #[.int .u64 0, .int .u64 0]) rfl rfl (by kernel_rfl) (by kernel_rfl) (by kernel_rfl) (fun _ _ _ h => h) (Or.inl ⟨rfl, fun W _ => by go_simp⟩) hS0 ?_
    simp only [Act.put, List.setIfInBounds_toArray, List.set_cons_succ, List.set_cons_zero]
    refine wpAnyH_takeD (some 16) (i := 1) (v := .agg (cellsOf .u64 2 (wd hP))) rfl rfl (by kernel_rfl) (by kernel_rfl) (by kernel_rfl) (fun _ _ _ h => h) (Or.inl ⟨rfl, fun W hW => run_two ((hH4.grown hv0 (by simp)).grown hW (by simp)) rfl rfl⟩) hS0 ?_
    simp only [Act.put, List.setIfInBounds_toArray, List.set_cons_succ, List.set_cons_zero]
    refine wpAnyH_takeD (some 17) (i := 2) (v := .slice aa na ca) rfl rfl (by kernel_rfl) (by kernel_rfl) (by kernel_rfl) (fun _ _ _ h => h) (Or.inl ⟨rfl, fun _ _ => rfl⟩) hS0 ?_
    simp only [Act.put, List.setIfInBounds_toArray, List.set_cons_succ, List.set_cons_zero]
    refine wpAnyH_takeD (some 19) (i := 4) (v := .agg (cellsOf .u64 2 (wd hP))) rfl rfl (by kernel_rfl) (by kernel_rfl) (by kernel_rfl) (fun _ _ _ h => h) (Or.inl ⟨rfl, fun W hW => run_two ((hH4.grown hv0 (by simp)).grown hW (by simp)) rfl rfl⟩) hS0 ?_
    simp only [Act.put, List.setIfInBounds_toArray, List.set_cons_succ, List.set_cons_zero]
    refine wpAnyH_takeD (some 20) (i := 5) (v := .slice ta nt ct) rfl rfl (by kernel_rfl) (by kernel_rfl) (by kernel_rfl) (fun _ _ _ h => h) (Or.inl ⟨rfl, fun _ _ => rfl⟩) hS0 ?_
    simp only [Act.put, List.setIfInBounds_toArray, List.set_cons_succ, List.set_cons_zero]
    refine wpAnyH_both (i := 3) (j := 7) (by kernel_rfl) ?_ ?_
    · refine (op_call (some 18) 13 #[.agg #[.int .u64 0, .int .u64 0], .agg (cellsOf .u64 2 (wd hP)), .slice aa na ca] (.agg (cellsOf .u64 2 (wd X1))) rfl rfl rfl (exec_fn3 _ _ _ _ _ _ _ rfl rfl rfl rfl) gfold_enters (HF0.out V0 (grown_trans hg4 (grown_trans hv0 hS0))) hS0 ?_)
      intro V1 gg1 hS1
      simp only [Act.put, List.setIfInBounds_toArray, List.set_cons_succ, List.set_cons_zero]
      refine wpAnyH_both (i := 6) (j := 7) (by kernel_rfl) ?_ ?_
      · refine (op_call (some 21) 13 #[.agg (cellsOf .u64 2 (wd X1)), .agg (cellsOf .u64 2 (wd hP)), .slice ta nt ct] (.agg (cellsOf .u64 2 (wd X2))) rfl rfl rfl (exec_fn3 _ _ _ _ _ _ _ rfl rfl rfl rfl) gfold_enters (HF1.out V1 (grown_trans hg4 (grown_trans hv0 hS1))) hS1 ?_)
        intro V2 gg2 hS2
        simp only [Act.put, List.setIfInBounds_toArray, List.set_cons_succ, List.set_cons_zero]
        refine wpAnyH_one (i := 7) (by kernel_rfl) (op_alloc (some 10) rfl rfl rfl (run_newtwo rfl) hS2 ?_)
        intro V3 gg3 hS3 hX
        have hS_X := hS2.size
        simp only [Act.put, List.setIfInBounds_toArray, List.set_cons_succ, List.set_cons_zero]
        refine wpAnyH_one (i := 8) (by kernel_rfl) (op_store 41 10 21 (V2.heap.size) (cellsOf .u64 2 (wd X2)) rfl rfl rfl rfl rfl rfl 41 _ (hX).block (by rw [cellsOf_size]; kernel_rfl) (by rw [cellsOf_size, cellsOf_size]) (cellsOf_all _ _ _) (grown_setRow_new hS3 _ _ (Or.inl hS_X)) ?_)
        simp only [List.setIfInBounds_toArray, List.set_cons_succ, List.set_cons_zero]
        refine wpAnyH_done (by kernel_rfl) ?_ _
        go_wp2_with fail
        go_meet
        case rel => exact ⟨_, rfl, grown_setRow_new (grown_trans hv0 hS3) _ _ (Or.inl (Nat.le_trans hv0.size hS_X)), Nat.le_trans hv0.size hS_X, (hX).setRow .u64 2 (wd X2)⟩
      · refine (op_alloc (some 10) rfl rfl rfl (run_newtwo rfl) hS1 ?_)
        intro V2 gg2 hS2 hX
        have hS_X := hS1.size
        simp only [Act.put, List.setIfInBounds_toArray, List.set_cons_succ, List.set_cons_zero]
        refine wpAnyH_one (i := 6) (by kernel_rfl) (op_call (some 21) 13 #[.agg (cellsOf .u64 2 (wd X1)), .agg (cellsOf .u64 2 (wd hP)), .slice ta nt ct] (.agg (cellsOf .u64 2 (wd X2))) rfl rfl rfl (exec_fn3 _ _ _ _ _ _ _ rfl rfl rfl rfl) gfold_enters (HF1.out V2 (grown_trans hg4 (grown_trans hv0 hS2))) hS2 ?_)
        intro V3 gg3 hS3
        simp only [Act.put, List.setIfInBounds_toArray, List.set_cons_succ, List.set_cons_zero]
        have hX_3 := hX.grown gg3 (by simp)
        refine wpAnyH_one (i := 8) (by kernel_rfl) (op_store 41 10 21 (V1.heap.size) (cellsOf .u64 2 (wd X2)) rfl rfl rfl rfl rfl rfl 41 _ (hX_3).block (by rw [cellsOf_size]; kernel_rfl) (by rw [cellsOf_size, cellsOf_size]) (cellsOf_all _ _ _) (grown_setRow_new hS3 _ _ (Or.inl hS_X)) ?_)
        simp only [List.setIfInBounds_toArray, List.set_cons_succ, List.set_cons_zero]
        refine wpAnyH_done (by kernel_rfl) ?_ _
        go_wp2_with fail
        go_meet
        case rel => exact ⟨_, rfl, grown_setRow_new (grown_trans hv0 hS3) _ _ (Or.inl (Nat.le_trans hv0.size hS_X)), Nat.le_trans hv0.size hS_X, (hX_3).setRow .u64 2 (wd X2)⟩
    · refine (op_alloc (some 10) rfl rfl rfl (run_newtwo rfl) hS0 ?_)
      intro V1 gg1 hS1 hX
      have hS_X := hS0.size
      simp only [Act.put, List.setIfInBounds_toArray, List.set_cons_succ, List.set_cons_zero]
      refine wpAnyH_one (i := 3) (by kernel_rfl) (op_call (some 18) 13 #[.agg #[.int .u64 0, .int .u64 0], .agg (cellsOf .u64 2 (wd hP)), .slice aa na ca] (.agg (cellsOf .u64 2 (wd X1))) rfl rfl rfl (exec_fn3 _ _ _ _ _ _ _ rfl rfl rfl rfl) gfold_enters (HF0.out V1 (grown_trans hg4 (grown_trans hv0 hS1))) hS1 ?_)
      intro V2 gg2 hS2
      simp only [Act.put, List.setIfInBounds_toArray, List.set_cons_succ, List.set_cons_zero]
      have hX_2 := hX.grown gg2 (by simp)
      refine wpAnyH_one (i := 6) (by kernel_rfl) (op_call (some 21) 13 #[.agg (cellsOf .u64 2 (wd X1)), .agg (cellsOf .u64 2 (wd hP)), .slice ta nt ct] (.agg (cellsOf .u64 2 (wd X2))) rfl rfl rfl (exec_fn3 _ _ _ _ _ _ _ rfl rfl rfl rfl) gfold_enters (HF1.out V2 (grown_trans hg4 (grown_trans hv0 hS2))) hS2 ?_)
      intro V3 gg3 hS3
      simp only [Act.put, List.setIfInBounds_toArray, List.set_cons_succ, List.set_cons_zero]
      have hX_3 := hX_2.grown gg3 (by simp)
      refine wpAnyH_one (i := 8) (by kernel_rfl) (op_store 41 10 21 (V0.heap.size) (cellsOf .u64 2 (wd X2)) rfl rfl rfl rfl rfl rfl 41 _ (hX_3).block (by rw [cellsOf_size]; kernel_rfl) (by rw [cellsOf_size, cellsOf_size]) (cellsOf_all _ _ _) (grown_setRow_new hS3 _ _ (Or.inl hS_X)) ?_)
      simp only [List.setIfInBounds_toArray, List.set_cons_succ, List.set_cons_zero]
      refine wpAnyH_done (by kernel_rfl) ?_ _
      go_wp2_with fail
      go_meet
      case rel => exact ⟨_, rfl, grown_setRow_new (grown_trans hv0 hS3) _ _ (Or.inl (Nat.le_trans hv0.size hS_X)), Nat.le_trans hv0.size hS_X, (hX_3).setRow .u64 2 (wd X2)⟩
  case rest =>
    obtain ⟨X, rfl, g5, hX5, hXH⟩ := hcut
    clear HV0 hv0
    have hg5 := grown_trans hg4 g5
    have hF5 := hF4.grown g5 (by simp)
    have hO5 := hO4.grown g5 (by simp)
    have hH5 := hH4.grown g5 (by simp)
    have hXl := hXH.lt
    have hXw : w.heap.size ≤ X := by omega
    have hX0 : w.heap.size ≠ X := by omega
    have hX1 : w.heap.size + 1 ≠ X := by omega
    have hX9 : b9 ≠ X := by omega
    clear hF4 hO4 hH4 hl4 hg4 g5 hX5
    go_upto_region 3 with fail
    obtain ⟨V0, hV0⟩ : ∃ V0, V0 = wc.drew := ⟨_, rfl⟩
    have hv0 : wc.grownBy V0 none := by rw [hV0]; exact grown_drew (grown_refl wc none)
    have HV0 := Lib.hid hV0.symm
    have hY := hXH.grown hv0 (by simp)
    have hFv := hF5.grown hv0 (by simp)
    have hOv := hO5.grown hv0 (by simp)
    have hHv := hH5.grown hv0 (by simp)
    have hgv := grown_trans hg5 hv0
    clear hV0
    go_cut [10] (fun s10 wx => s10 = .pointer (some ⟨X, 0, none⟩) ∧ w.grownBy wx none ∧ Holds wx X 41 .u64 2 (wd X3) ∧ Holds wx w.heap.size 24 .u8 16 f ∧ Holds wx (w.heap.size + 1) 24 .u8 16 (fun _ => 0))
    case first =>
      refine wp_region_held (S := fun W => V0.grownBy W (some X)) (by kernel_rfl) ?_
      change wpAnyH _ _ _ _ _ 10 #[false, false, false, false, false, false, false, false, false, false] _ (World.drew _)
      rw [HV0.out]
      have hS0 : V0.grownBy V0 (some X) := grown_refl V0 _
      refine wpAnyH_takeD (some 23) (i := 1) (v := .slice aa na ca) rfl rfl (by kernel_rfl) (by kernel_rfl) (by kernel_rfl) (fun _ _ _ h => h) (Or.inl ⟨rfl, fun _ _ => rfl⟩) hS0 ?_
      simp only [Act.put, List.setIfInBounds_toArray, List.set_cons_succ, List.set_cons_zero]
      refine wpAnyH_takeD (some 25) (i := 3) (v := .slice ta nt ct) rfl rfl (by kernel_rfl) (by kernel_rfl) (by kernel_rfl) (fun _ _ _ h => h) (Or.inl ⟨rfl, fun _ _ => rfl⟩) hS0 ?_
      simp only [Act.put, List.setIfInBounds_toArray, List.set_cons_succ, List.set_cons_zero]
      refine wpAnyH_takeD (some 29) (i := 7) (v := .agg (cellsOf .u64 2 (wd hP))) rfl rfl (by kernel_rfl) (by kernel_rfl) (by kernel_rfl) (fun _ _ _ h => h) (Or.inl ⟨rfl, fun W hW => run_two (hHv.grown hW (by simpa using hX9)) rfl rfl⟩) hS0 ?_
      simp only [Act.put, List.setIfInBounds_toArray, List.set_cons_succ, List.set_cons_zero]
      refine wpAnyH_both (i := 0) (j := 2) (by kernel_rfl) ?_ ?_
      · refine (op_yield (some 22) (v := .agg (cellsOf .u64 2 (wd X2))) (w' := V0) rfl rfl rfl (run_two hY rfl rfl) hS0 ?_)
        simp only [Act.put, List.setIfInBounds_toArray, List.set_cons_succ, List.set_cons_zero]
        refine wpAnyH_one (i := 2) (by kernel_rfl) (op_call (some 24) 35 #[.slice aa na ca] (.int .u64 ((8 * na : Nat) : Int)) rfl rfl rfl (exec_fn1 _ _ _ rfl rfl) gbits_enters (HB.out _ _ _ V0 hna) hS0 ?_)
        intro V1 gg1 hS1
        simp only [Act.put, List.setIfInBounds_toArray, List.set_cons_succ, List.set_cons_zero]
        have hY_1 := hY.grown gg1 (by simp)
        refine wpAnyH_one (i := 4) (by kernel_rfl) (op_call (some 26) 35 #[.slice ta nt ct] (.int .u64 ((8 * nt : Nat) : Int)) rfl rfl rfl (exec_fn1 _ _ _ rfl rfl) gbits_enters (HB.out _ _ _ V1 hnt) hS1 ?_)
        intro V2 gg2 hS2
        simp only [Act.put, List.setIfInBounds_toArray, List.set_cons_succ, List.set_cons_zero]
        have hY_2 := hY_1.grown gg2 (by simp)
        refine wpAnyH_takeD (some 27) (i := 5) (v := .agg (cellsOf .u64 2 (wd (pl (lnF na nt))))) rfl rfl (by kernel_rfl) (by kernel_rfl) (by kernel_rfl) (fun _ _ _ h => h) (Or.inl ⟨rfl, fun W _ => by rw [HL.out]; go_simp⟩) hS2 ?_
        simp only [Act.put, List.setIfInBounds_toArray, List.set_cons_succ, List.set_cons_zero]
        refine wpAnyH_one (i := 6) (by kernel_rfl) (op_call (some 28) 27 #[.agg (cellsOf .u64 2 (wd X2)), .agg (cellsOf .u64 2 (wd (pl (lnF na nt))))] (.agg (cellsOf .u64 2 (wd (X2 ^^^ pl (lnF na nt))))) rfl rfl rfl (exec_fn2 _ _ _ _ _ rfl rfl rfl) gplus_enters (gplus_any _ _ V2) hS2 ?_)
        intro V3 gg3 hS3
        simp only [Act.put, List.setIfInBounds_toArray, List.set_cons_succ, List.set_cons_zero]
        have hY_3 := hY_2.grown gg3 (by simp)
        refine wpAnyH_one (i := 8) (by kernel_rfl) (op_call (some 30) 28 #[.agg (cellsOf .u64 2 (wd (X2 ^^^ pl (lnF na nt)))), .agg (cellsOf .u64 2 (wd hP))] (.agg (cellsOf .u64 2 (wd X3))) rfl rfl rfl (exec_fn2 _ _ _ _ _ rfl rfl rfl) gtimes_enters (HM.out V3) hS3 ?_)
        intro V4 gg4 hS4
        simp only [Act.put, List.setIfInBounds_toArray, List.set_cons_succ, List.set_cons_zero]
        have hY_4 := hY_3.grown gg4 (by simp)
        refine wpAnyH_one (i := 9) (by kernel_rfl) (op_store 41 10 30 (X) (cellsOf .u64 2 (wd X3)) rfl rfl rfl rfl rfl rfl 41 _ (hY_4).block (by rw [cellsOf_size]; kernel_rfl) (by rw [cellsOf_size, cellsOf_size]) (cellsOf_all _ _ _) (grown_setRow_new hS4 _ _ (Or.inr rfl)) ?_)
        simp only [List.setIfInBounds_toArray, List.set_cons_succ, List.set_cons_zero]
        refine wpAnyH_done (by kernel_rfl) ?_ _
        go_wp2_with fail
        go_meet
        case rel => exact ⟨rfl, grown_setRow_new (grown_new hgv hS4 hXw) _ _ (Or.inl hXw), (hY_4).setRow .u64 2 (wd X3), (hFv.grown hS4 (by simpa using hX0)).of_block (setRow_other _ X _ _ hX0), (hOv.grown hS4 (by simpa using hX1)).of_block (setRow_other _ X _ _ hX1)⟩
      · refine (op_call (some 24) 35 #[.slice aa na ca] (.int .u64 ((8 * na : Nat) : Int)) rfl rfl rfl (exec_fn1 _ _ _ rfl rfl) gbits_enters (HB.out _ _ _ V0 hna) hS0 ?_)
        intro V1 gg1 hS1
        simp only [Act.put, List.setIfInBounds_toArray, List.set_cons_succ, List.set_cons_zero]
        have hY_1 := hY.grown gg1 (by simp)
        refine wpAnyH_both (i := 0) (j := 4) (by kernel_rfl) ?_ ?_
        · refine (op_yield (some 22) (v := .agg (cellsOf .u64 2 (wd X2))) (w' := V1) rfl rfl rfl (run_two hY_1 rfl rfl) hS1 ?_)
          simp only [Act.put, List.setIfInBounds_toArray, List.set_cons_succ, List.set_cons_zero]
          refine wpAnyH_one (i := 4) (by kernel_rfl) (op_call (some 26) 35 #[.slice ta nt ct] (.int .u64 ((8 * nt : Nat) : Int)) rfl rfl rfl (exec_fn1 _ _ _ rfl rfl) gbits_enters (HB.out _ _ _ V1 hnt) hS1 ?_)
          intro V2 gg2 hS2
          simp only [Act.put, List.setIfInBounds_toArray, List.set_cons_succ, List.set_cons_zero]
          have hY_2 := hY_1.grown gg2 (by simp)
          refine wpAnyH_takeD (some 27) (i := 5) (v := .agg (cellsOf .u64 2 (wd (pl (lnF na nt))))) rfl rfl (by kernel_rfl) (by kernel_rfl) (by kernel_rfl) (fun _ _ _ h => h) (Or.inl ⟨rfl, fun W _ => by rw [HL.out]; go_simp⟩) hS2 ?_
          simp only [Act.put, List.setIfInBounds_toArray, List.set_cons_succ, List.set_cons_zero]
          refine wpAnyH_one (i := 6) (by kernel_rfl) (op_call (some 28) 27 #[.agg (cellsOf .u64 2 (wd X2)), .agg (cellsOf .u64 2 (wd (pl (lnF na nt))))] (.agg (cellsOf .u64 2 (wd (X2 ^^^ pl (lnF na nt))))) rfl rfl rfl (exec_fn2 _ _ _ _ _ rfl rfl rfl) gplus_enters (gplus_any _ _ V2) hS2 ?_)
          intro V3 gg3 hS3
          simp only [Act.put, List.setIfInBounds_toArray, List.set_cons_succ, List.set_cons_zero]
          have hY_3 := hY_2.grown gg3 (by simp)
          refine wpAnyH_one (i := 8) (by kernel_rfl) (op_call (some 30) 28 #[.agg (cellsOf .u64 2 (wd (X2 ^^^ pl (lnF na nt)))), .agg (cellsOf .u64 2 (wd hP))] (.agg (cellsOf .u64 2 (wd X3))) rfl rfl rfl (exec_fn2 _ _ _ _ _ rfl rfl rfl) gtimes_enters (HM.out V3) hS3 ?_)
          intro V4 gg4 hS4
          simp only [Act.put, List.setIfInBounds_toArray, List.set_cons_succ, List.set_cons_zero]
          have hY_4 := hY_3.grown gg4 (by simp)
          refine wpAnyH_one (i := 9) (by kernel_rfl) (op_store 41 10 30 (X) (cellsOf .u64 2 (wd X3)) rfl rfl rfl rfl rfl rfl 41 _ (hY_4).block (by rw [cellsOf_size]; kernel_rfl) (by rw [cellsOf_size, cellsOf_size]) (cellsOf_all _ _ _) (grown_setRow_new hS4 _ _ (Or.inr rfl)) ?_)
          simp only [List.setIfInBounds_toArray, List.set_cons_succ, List.set_cons_zero]
          refine wpAnyH_done (by kernel_rfl) ?_ _
          go_wp2_with fail
          go_meet
          case rel => exact ⟨rfl, grown_setRow_new (grown_new hgv hS4 hXw) _ _ (Or.inl hXw), (hY_4).setRow .u64 2 (wd X3), (hFv.grown hS4 (by simpa using hX0)).of_block (setRow_other _ X _ _ hX0), (hOv.grown hS4 (by simpa using hX1)).of_block (setRow_other _ X _ _ hX1)⟩
        · refine (op_call (some 26) 35 #[.slice ta nt ct] (.int .u64 ((8 * nt : Nat) : Int)) rfl rfl rfl (exec_fn1 _ _ _ rfl rfl) gbits_enters (HB.out _ _ _ V1 hnt) hS1 ?_)
          intro V2 gg2 hS2
          simp only [Act.put, List.setIfInBounds_toArray, List.set_cons_succ, List.set_cons_zero]
          have hY_2 := hY_1.grown gg2 (by simp)
          refine wpAnyH_takeD (some 27) (i := 5) (v := .agg (cellsOf .u64 2 (wd (pl (lnF na nt))))) rfl rfl (by kernel_rfl) (by kernel_rfl) (by kernel_rfl) (fun _ _ _ h => h) (Or.inl ⟨rfl, fun W _ => by rw [HL.out]; go_simp⟩) hS2 ?_
          simp only [Act.put, List.setIfInBounds_toArray, List.set_cons_succ, List.set_cons_zero]
          refine wpAnyH_one (i := 0) (by kernel_rfl) (op_yield (some 22) (v := .agg (cellsOf .u64 2 (wd X2))) (w' := V2) rfl rfl rfl (run_two hY_2 rfl rfl) hS2 ?_)
          simp only [Act.put, List.setIfInBounds_toArray, List.set_cons_succ, List.set_cons_zero]
          refine wpAnyH_one (i := 6) (by kernel_rfl) (op_call (some 28) 27 #[.agg (cellsOf .u64 2 (wd X2)), .agg (cellsOf .u64 2 (wd (pl (lnF na nt))))] (.agg (cellsOf .u64 2 (wd (X2 ^^^ pl (lnF na nt))))) rfl rfl rfl (exec_fn2 _ _ _ _ _ rfl rfl rfl) gplus_enters (gplus_any _ _ V2) hS2 ?_)
          intro V3 gg3 hS3
          simp only [Act.put, List.setIfInBounds_toArray, List.set_cons_succ, List.set_cons_zero]
          have hY_3 := hY_2.grown gg3 (by simp)
          refine wpAnyH_one (i := 8) (by kernel_rfl) (op_call (some 30) 28 #[.agg (cellsOf .u64 2 (wd (X2 ^^^ pl (lnF na nt)))), .agg (cellsOf .u64 2 (wd hP))] (.agg (cellsOf .u64 2 (wd X3))) rfl rfl rfl (exec_fn2 _ _ _ _ _ rfl rfl rfl) gtimes_enters (HM.out V3) hS3 ?_)
          intro V4 gg4 hS4
          simp only [Act.put, List.setIfInBounds_toArray, List.set_cons_succ, List.set_cons_zero]
          have hY_4 := hY_3.grown gg4 (by simp)
          refine wpAnyH_one (i := 9) (by kernel_rfl) (op_store 41 10 30 (X) (cellsOf .u64 2 (wd X3)) rfl rfl rfl rfl rfl rfl 41 _ (hY_4).block (by rw [cellsOf_size]; kernel_rfl) (by rw [cellsOf_size, cellsOf_size]) (cellsOf_all _ _ _) (grown_setRow_new hS4 _ _ (Or.inr rfl)) ?_)
          simp only [List.setIfInBounds_toArray, List.set_cons_succ, List.set_cons_zero]
          refine wpAnyH_done (by kernel_rfl) ?_ _
          go_wp2_with fail
          go_meet
          case rel => exact ⟨rfl, grown_setRow_new (grown_new hgv hS4 hXw) _ _ (Or.inl hXw), (hY_4).setRow .u64 2 (wd X3), (hFv.grown hS4 (by simpa using hX0)).of_block (setRow_other _ X _ _ hX0), (hOv.grown hS4 (by simpa using hX1)).of_block (setRow_other _ X _ _ hX1)⟩
    case rest =>
      obtain ⟨rfl, hg6, hX6, hF6, hO6⟩ := hcut
      clear HV0 hv0 hY hFv hOv hHv hgv hF5 hO5 hH5 hg5 hXH hXl
      go_upto_region 4 with fail
      obtain ⟨V0, hV0⟩ : ∃ V0, V0 = wc.drew := ⟨_, rfl⟩
      have hv0 : wc.grownBy V0 none := by rw [hV0]; exact grown_drew (grown_refl wc none)
      have HV0 := Lib.hid hV0.symm
      have hXv := hX6.grown hv0 (by simp)
      have hFv := hF6.grown hv0 (by simp)
      have hOv := hO6.grown hv0 (by simp)
      have hgv := grown_trans hg6 hv0
      have hXs : X ≠ w.heap.size + 1 := fun e => hX1 e.symm
      clear hV0 hX6 hF6 hO6 hg6
      refine wp_region_held (S := fun W => V0.grownBy W (some (w.heap.size + 1))) (by kernel_rfl) ?_
      change wpAnyH _ _ _ _ _ 8 #[false, false, false, false, false, false, false, false] _ (World.drew _)
      rw [HV0.out]
      have hS0 : V0.grownBy V0 (some (w.heap.size + 1)) := grown_refl V0 _
      refine wpAnyH_takeD (some 31) (i := 0) (v := .agg (cellsOf .u64 2 (wd X3))) rfl rfl (by kernel_rfl) (by kernel_rfl) (by kernel_rfl) (fun _ _ _ h => h) (Or.inl ⟨rfl, fun W hW => run_two (hXv.grown hW (by simpa using hXs)) rfl rfl⟩) hS0 ?_
      simp only [Act.put, List.setIfInBounds_toArray, List.set_cons_succ, List.set_cons_zero]
      refine wpAnyH_takeD (some 32) (i := 1) (v := .pointer (some ⟨m, 0, none⟩)) rfl rfl (by kernel_rfl) (by kernel_rfl) (by kernel_rfl) (fun _ _ _ h => h) (Or.inl ⟨rfl, fun _ _ => rfl⟩) hS0 ?_
      simp only [Act.put, List.setIfInBounds_toArray, List.set_cons_succ, List.set_cons_zero]
      refine wpAnyH_takeD (some 33) (i := 2) (v := .agg (cellsOf .u8 16 f)) rfl rfl (by kernel_rfl) (by kernel_rfl) (by kernel_rfl) (fun _ _ _ h => h) (Or.inl ⟨rfl, fun W hW => run_sixteen (hFv.grown hW (by simp)) rfl rfl⟩) hS0 ?_
      simp only [Act.put, List.setIfInBounds_toArray, List.set_cons_succ, List.set_cons_zero]
      refine wpAnyH_one (i := 3) (by kernel_rfl) (op_call (some 34) 34 #[.pointer (some ⟨m, 0, none⟩), .agg (cellsOf .u8 16 f)] (.agg (cellsOf .u8 16 S1)) rfl rfl rfl (exec_fn2 _ _ _ _ _ rfl rfl rfl) seal_enters (HS1.out V0 none (grown_new hgv hS0 (by omega)) (by simp) (by simp)) hS0 ?_)
      intro V1 gg1 hS1
      simp only [Act.put, List.setIfInBounds_toArray, List.set_cons_succ, List.set_cons_zero]
      have hOv_1 := hOv.grown gg1 (by simp)
      refine wpAnyH_one (i := 4) (by kernel_rfl) (op_call (some 35) 14 #[.agg (cellsOf .u8 16 S1)] (.agg (cellsOf .u64 2 (wd (pl S1)))) rfl rfl rfl (exec_fn1 _ _ _ rfl rfl) gtaken_enters (HT1.out V1) hS1 ?_)
      intro V2 gg2 hS2
      simp only [Act.put, List.setIfInBounds_toArray, List.set_cons_succ, List.set_cons_zero]
      have hOv_2 := hOv_1.grown gg2 (by simp)
      refine wpAnyH_one (i := 5) (by kernel_rfl) (op_call (some 36) 27 #[.agg (cellsOf .u64 2 (wd X3)), .agg (cellsOf .u64 2 (wd (pl S1)))] (.agg (cellsOf .u64 2 (wd (X3 ^^^ pl S1)))) rfl rfl rfl (exec_fn2 _ _ _ _ _ rfl rfl rfl) gplus_enters (gplus_any _ _ V2) hS2 ?_)
      intro V3 gg3 hS3
      simp only [Act.put, List.setIfInBounds_toArray, List.set_cons_succ, List.set_cons_zero]
      have hOv_3 := hOv_2.grown gg3 (by simp)
      refine wpAnyH_one (i := 6) (by kernel_rfl) (op_call (some 37) 15 #[.agg (cellsOf .u64 2 (wd (X3 ^^^ pl S1)))] (.agg (cellsOf .u8 16 z)) rfl rfl rfl (exec_fn1 _ _ _ rfl rfl) gput_enters (HP.out V3) hS3 ?_)
      intro V4 gg4 hS4
      simp only [Act.put, List.setIfInBounds_toArray, List.set_cons_succ, List.set_cons_zero]
      have hOv_4 := hOv_3.grown gg4 (by simp)
      refine wpAnyH_one (i := 7) (by kernel_rfl) (op_store 24 8 37 (w.heap.size + 1) (cellsOf .u8 16 z) rfl rfl rfl rfl rfl rfl 24 _ (hOv_4).block (by rw [cellsOf_size]; kernel_rfl) (by rw [cellsOf_size, cellsOf_size]) (cellsOf_all _ _ _) (grown_setRow_new hS4 _ _ (Or.inr rfl)) ?_)
      simp only [List.setIfInBounds_toArray, List.set_cons_succ, List.set_cons_zero]
      refine wpAnyH_done (by kernel_rfl) ?_ _
      have hO8 := (hOv_4).setRow .u8 16 z
      have hg8 := grown_setRow_new (grown_new hgv hS4 (by omega)) (w.heap.size + 1) (cellsOf .u8 16 z) (Or.inl (by omega))
      go_wp2_with fail
      exact bodyPost_ret (v := .agg (cellsOf .u8 16 z)) (results_cell_row rfl _ _ (w.heap.size + 1) 24 _ (0, 0) (.array 16 5) rfl hO8.block (by kernel_rfl) rfl (by rw [cellsOf_size]; kernel_rfl)) rfl ⟨rfl, hg8⟩
end Go.Proofs.YtlfopcigbgfnlaaDoor
