/-
  gcm's Seal.
-/
import Derived.Test.YtlfopcigbgfnlaaDoorGcmTag
import Derived.Test.YtlfopcigbgfnlaaDoorCtrTurn
import Derived.Test.YtlfopcigbgfnlaaDoorAesNew
namespace Go.Proofs.YtlfopcigbgfnlaaDoor
open Go.RowKit Go.Shelf

set_option maxRecDepth 100000
set_option maxHeartbeats 2000000

/-- What is sealed. -/
def sealF (R : Nat) (W nf fa : Nat → Nat) (na : Nat) (ft : Nat → Nat) (nt : Nat) : Nat → Nat :=
  cat nt (turnF R W (nextF (firstF nf)) ft) (tagF R W (firstF nf) fa na (turnF R W (nextF (firstF nf)) ft) nt)

theorem gseal_err (n c na ca nt ct : Nat) (ka aa ta : Option Addr) (nf : Nat → Nat) (w : World) (h1 : n ≠ 16) (h2 : n ≠ 32) :
    Calls Tryd.prog 7 #[.slice ka n c, .agg (cellsOf .u8 12 nf), .slice aa na ca, .slice ta nt ct] w fun e w' => e = .returned (.tuple #[.slice none 0 0, .int .i64 2]) ∧ w.grownBy w' none := by
  have HN : Hid (∀ U, Calls Tryd.prog 16 #[.slice ka n c] U fun e w' => e = .returned (.tuple #[.pointer none, .int .i64 2]) ∧ U = w') := Lib.hid (fun U => new_err n c ka U h1 h2)
  clear h1 h2
  go_enter Tryd.func7, Tryd.ntmps7
  go_wp2_with fail
  go_at_call 16
  with_reducible refine (HN.out _).mono ?_
  rintro e w2 ⟨rfl, rfl⟩
  go_wp2_with fail
  go_ret2
  exact ⟨rfl, World.grownBy_alloc w _ none⟩

theorem gseal_any (N n c na ca nt ct : Nat) (ka aa ta : Option Addr) (fk nf fa ft : Nat → Nat) (w : World) (hL : LaidS w 0) (hsz : 0 < w.heap.size) (hN : N = 4 ∨ N = 8) (hLN : n = 4 * N)
    (hR : Rd w w.heap.size ka n fk) (hk : ∀ i, fk i < 256) (hnf : ∀ i, nf i < 256) (hA : Rd w w.heap.size aa na fa) (hfa : ∀ i, fa i < 256) (hca : na ≤ ca) (hna : na ≤ 2 ^ 39) (hT : Rd w w.heap.size ta nt ft) (hft : ∀ i, ft i < 256) (hct : nt ≤ ct) (hnt : nt ≤ 2 ^ 39) :
    Calls Tryd.prog 7 #[.slice ka n c, .agg (cellsOf .u8 12 nf), .slice aa na ca, .slice ta nt ct] w (Turned w (nt + 16) (sealF (N + 6) (keyW N fk) nf fa na ft nt)) := by
  have hB : Holds (w.alloc (.cells (cellsOf .u8 12 nf) 23)) w.heap.size 23 .u8 12 nf := holds_alloc w 23 .u8 12 nf _ rfl
  have g1 := World.grownBy_alloc w (.cells (cellsOf .u8 12 nf) 23) none
  have n1 := new_ok N n c ka fk _ (hL.grown g1 (by simp)) hN hLN (hR.up (Nat.le_refl _) g1) hk (by have := g1.size; omega)
  have N1 := Lib.hid n1
  have hN6 : N + 6 ≤ 14 := by omega
  have hN1 : 1 ≤ N + 6 := by omega
  have hkw : ∀ i, keyW N fk i < 256 := keyW_lt N fk hk
  obtain ⟨W, hW⟩ : ∃ W, W = keyW N fk := ⟨_, rfl⟩
  obtain ⟨F1, hF1⟩ : ∃ F, F = firstF nf := ⟨_, rfl⟩
  have hF1l : ∀ i, F1 i < 256 := fun i => by rw [hF1]; exact firstF_lt nf hnf i
  have HFi : Hid (∀ U, Calls Tryd.prog 17 #[.agg (cellsOf .u8 12 nf)] U fun e w' => e = .returned (.agg (cellsOf .u8 16 F1)) ∧ U.grownBy w' none) := Lib.hid (fun U => by
    rw [hF1]; exact first_any nf U)
  obtain ⟨F2, hF2⟩ : ∃ F, F = nextF F1 := ⟨_, rfl⟩
  have HNx : Hid (∀ U, Calls Tryd.prog 19 #[.agg (cellsOf .u8 16 F1)] U fun e w' => e = .returned (.agg (cellsOf .u8 16 F2)) ∧ U.grownBy w' none) := Lib.hid (fun U => by
    rw [hF2]; exact next_any F1 U hF1l)
  have hF2l : ∀ i, F2 i < 256 := fun i => by rw [hF2]; exact nextF_lt F1 hF1l i
  rw [← hW] at hkw
  obtain ⟨G, hG⟩ : ∃ G, G = turnF (N + 6) W F2 ft := ⟨_, rfl⟩
  have hGl : ∀ i, G i < 256 := fun i => by rw [hG]; exact turnF_lt _ _ _ _ hkw hF2l hft i
  obtain ⟨Z, hZ⟩ : ∃ Z, Z = tagF (N + 6) W F1 fa na G nt := ⟨_, rfl⟩
  have hfin : sealF (N + 6) (keyW N fk) nf fa na ft nt = cat nt G Z := by rw [hZ, hG, hF2, hF1, hW]; rfl
  have Hfin := Lib.hid hfin
  have HW := Lib.hid hW
  have HG := Lib.hid hG
  have HZ := Lib.hid hZ
  have HB := Lib.hid hB
  have HL := Lib.hid hL
  have HA := Lib.hid hA
  have HT := Lib.hid hT
  clear n1 hfin hW hG hZ hF1 hF2 hB hL hA hT hR hN hLN
  go_enter Tryd.func7, Tryd.ntmps7
  go_wp2_with fail
  generalize w.alloc (.cells (cellsOf .u8 12 nf) 23) = w1 at *
  go_at_call 16
  with_reducible refine (N1.out).mono ?_
  rintro e w2 ⟨m, C, rfl, hm, g2, hC, hc⟩
  rw [← HW.out] at hc
  have g02 := grown_trans g1 g2
  have hB2 := (HB.out.grown g2 (by simp)).block
  go_wp2_with (refine wpList_load_row rfl 23 (.tmp 5) rfl w.heap.size rfl 23 _ (0, 0) (.array 12 5) hB2 (by kernel_rfl) rfl (by rw [cellsOf_size]; kernel_rfl) ?_)
  go_at_call 17
  with_reducible refine (HFi.out _).mono ?_
  rintro e w3 ⟨rfl, g3⟩
  have hN0 : Holds (w3.alloc (.cells #[.int .u8 0, .int .u8 0, .int .u8 0, .int .u8 0, .int .u8 0, .int .u8 0, .int .u8 0, .int .u8 0, .int .u8 0, .int .u8 0, .int .u8 0, .int .u8 0, .int .u8 0, .int .u8 0, .int .u8 0, .int .u8 0] 24)) w3.heap.size 24 .u8 16 (fun _ => 0) := holds_alloc w3 _ .u8 16 _ _ zero16
  have hbn := hN0.block
  have hF3 := hN0.setRow .u8 16 F1
  have g34 := grown_setRow_new (World.grownBy_alloc w3 (.cells #[.int .u8 0, .int .u8 0, .int .u8 0, .int .u8 0, .int .u8 0, .int .u8 0, .int .u8 0, .int .u8 0, .int .u8 0, .int .u8 0, .int .u8 0, .int .u8 0, .int .u8 0, .int .u8 0, .int .u8 0, .int .u8 0] 24) none) w3.heap.size (cellsOf .u8 16 F1) (Or.inl (Nat.le_refl _))
  have g04 := grown_trans g02 (grown_trans g3 g34)
  have hC4 := (hC.grown g3 (by simp)).grown g34 (by simp)
  obtain ⟨w4, hw4⟩ : ∃ w4, w4 = (w3.alloc (.cells #[.int .u8 0, .int .u8 0, .int .u8 0, .int .u8 0, .int .u8 0, .int .u8 0, .int .u8 0, .int .u8 0, .int .u8 0, .int .u8 0, .int .u8 0, .int .u8 0, .int .u8 0, .int .u8 0, .int .u8 0, .int .u8 0] 24)).setRow w3.heap.size (cellsOf .u8 16 F1) := ⟨_, rfl⟩
  rw [← hw4] at hF3 g04 hC4
  have hb4 := hF3.block
  have HW4 := Lib.hid hw4
  clear hC hN0 hw4 g34 g3 g2 hm N1
  go_upto_region 5 with (refine wpList_store_row rfl 24 (.tmp 12) (.tmp 24) rfl w3.heap.size _ rfl rfl 24 _ hbn (by rw [cellsOf_size]; kernel_rfl) rfl (cellsOf_all _ _ _) ?_)
  rw [← HW4.out]
  simp only [Act.put]
  generalize w3.heap.size = b at *
  clear hbn HW4
  go_wp2_with (refine wpList_load_row rfl 24 (.tmp 12) rfl b rfl 24 _ (0, 0) (.array 16 5) hb4 (by kernel_rfl) rfl (by rw [cellsOf_size]; kernel_rfl) ?_)
  go_at_call 19
  with_reducible refine (HNx.out _).mono ?_
  rintro e w5 ⟨rfl, g5⟩
  have g05 := grown_trans g04 g5
  have hT5 := texts1 w5 ta nt ct ft w5.heap.size rfl hct (HT.out.up (Nat.le_refl _) g05)
  have g56 := World.grownBy_alloc w5 (.cells #[.slice ta nt ct] 22) none
  have g06 := grown_trans g05 g56
  have hC6 := (hC4.grown g5 (by simp)).grown g56 (by simp)
  have hF6 := (hF3.grown g5 (by simp)).grown g56 (by simp)
  have hml := World.block_lt_of_cell? _ _ hC6.rounds
  have hTn := turn_any m (N + 6) 1 1 (some ⟨w5.heap.size, 0, none⟩) C W F2 (fun j => if j = 0 then 0 else nt) ft _ hkw hF2l hft hN1 hN6 hc hC6 (HL.out.grown g06 (by simp)) hml (by have := g06.size; omega) hT5 (by decide) (by show nt ≤ 2 ^ 40; omega)
  rw [← HG.out] at hTn
  have HTn := Lib.hid hTn
  clear hTn hT5 hC4 hF3 g5 g05 hb4
  go_wp2_with fail
  go_at_call 18
  with_reducible refine (HTn.out).mono ?_
  rintro e w7 ⟨v7, rfl, hv7, g7⟩
  replace hv7 : OwnN w7 (w5.alloc (.cells #[.slice ta nt ct] 22)).heap.size v7 nt G := hv7
  have g07 := grown_trans g06 g7
  have hC7 := hC6.grown g7 (by simp)
  have hF7 := hF6.grown g7 (by simp)
  have hb7 := hF7.block
  have hv7' := hv7.base g06.size
  obtain ⟨va, vc, hve, hvc, hRv⟩ := hv7.rd
  have hTg := gtag_any m (N + 6) na ca nt vc aa va C W F1 fa G w7 hkw hF1l hfa hGl hN1 hN6 hc hC7 (HL.out.grown g07 (by simp)) (HA.out.up (Nat.le_refl _) g07) hca (by omega) hRv hvc (by omega)
  rw [← HZ.out, ← hve] at hTg
  have HTg := Lib.hid hTg
  have Hv7 := Lib.hid hv7'
  clear hTg hC7 hC6 hF6 g7 g06 g56 hv7 hv7' hRv hve HTn
  go_wp2_with (refine wpList_load_row rfl 24 (.tmp 12) rfl b rfl 24 _ (0, 0) (.array 16 5) hb7 (by kernel_rfl) rfl (by rw [cellsOf_size]; kernel_rfl) ?_)
  go_at_call 20
  with_reducible refine (HTg.out).mono ?_
  rintro e w8 ⟨rfl, g8⟩
  have hN0 : Holds (w8.alloc (.cells #[.int .u8 0, .int .u8 0, .int .u8 0, .int .u8 0, .int .u8 0, .int .u8 0, .int .u8 0, .int .u8 0, .int .u8 0, .int .u8 0, .int .u8 0, .int .u8 0, .int .u8 0, .int .u8 0, .int .u8 0, .int .u8 0] 24)) w8.heap.size 24 .u8 16 (fun _ => 0) := holds_alloc w8 _ .u8 16 _ _ zero16
  have hbn := hN0.block
  have hF9 := hN0.setRow .u8 16 Z
  have g89 := grown_setRow_new (World.grownBy_alloc w8 (.cells #[.int .u8 0, .int .u8 0, .int .u8 0, .int .u8 0, .int .u8 0, .int .u8 0, .int .u8 0, .int .u8 0, .int .u8 0, .int .u8 0, .int .u8 0, .int .u8 0, .int .u8 0, .int .u8 0, .int .u8 0, .int .u8 0] 24) none) w8.heap.size (cellsOf .u8 16 Z) (Or.inl (Nat.le_refl _))
  have g79 := grown_trans g8 g89
  have g09 := grown_trans g07 g79
  have hv9 := Hv7.out.grown g79
  obtain ⟨w9, hw9⟩ : ∃ w9, w9 = (w8.alloc (.cells #[.int .u8 0, .int .u8 0, .int .u8 0, .int .u8 0, .int .u8 0, .int .u8 0, .int .u8 0, .int .u8 0, .int .u8 0, .int .u8 0, .int .u8 0, .int .u8 0, .int .u8 0, .int .u8 0, .int .u8 0, .int .u8 0] 24)).setRow w8.heap.size (cellsOf .u8 16 Z) := ⟨_, rfl⟩
  rw [← hw9] at hF9 g09 hv9
  have HW9 := Lib.hid hw9
  obtain ⟨v', w', hap, hown, hgr⟩ := app_N0 16 22 g09 hv9 (hF9.rd w9.heap.size hF9.lt 16 (Nat.le_refl _)) (by omega)
  have HAP := Lib.hid hap
  have Hown := Lib.hid hown
  have Hgr := Lib.hid hgr
  clear hap hown hgr hN0 hw9 g79 g89 g8 g07 g09 hv9 hF7 hb7
  go_upto_region 9 with (refine wpList_store_row rfl 24 (.tmp 14) (.tmp 41) rfl w8.heap.size _ rfl rfl 24 _ hbn (by rw [cellsOf_size]; kernel_rfl) rfl (cellsOf_all _ _ _) ?_)
  rw [← HW9.out]
  simp only [Act.put]
  generalize w8.heap.size = b14 at *
  clear hbn HW9
  go_wp2_with (at_builtin; refine wpList_append_run rfl (.tmp 42) (.tmp 43) 22 22 rfl _ (.slice (some ⟨b14, 0, none⟩) 16 16) _ _ rfl rfl HAP.out ?_)
  go_ret2
  exact ⟨v', rfl, by rw [Hfin.out]; exact Hown.out, Hgr.out⟩
end Go.Proofs.YtlfopcigbgfnlaaDoor
