/-
  The walk of 'AesSeals'.
-/
import Derived.Test.YtbjmgolkgpdenaaDoorAesApart
import Derived.Test.YtbjmgolkgpdenaaDoorRefAesBox
import Derived.Test.YtbjmgolkgpdenaaDoorRefAesCols
import Derived.Test.YtbjmgolkgpdenaaDoorRefAesSeal
namespace Go.Proofs.YtbjmgolkgpdenaaDoor
open Go.RowKit

set_option maxRecDepth 100000
set_option maxHeartbeats 2000000

theorem run_convS {o : Oper} {a : Act} {W : World} {B : Nat} {ad : Option Addr} {n c : Nat} {f : Nat → Nat} (t : Tmp) (ho : o.op = .convert 22 9 (.tmp t)) (h1 : a.eval (.tmp t) = .slice ad n c) (h : Rd W B ad n f) (hf : ∀ i, f i < 256) :
    (execOp a.eval o).run Tryd.prog W = .ok (.value (.string (strOf n f))) W := by
  have hr := run_string c h hf
  unfold execOp
  simp only [ho, h1]
  go_simp

theorem rounds_enters (args : Array Value) (w : World) : (callFunc 11 args).run Tryd.prog w = .ok (.enter 11 args) w :=
  enters_of Tryd.func11 (by kernel_rfl) rfl args w
theorem rcols_enters (args : Array Value) (w : World) : (callFunc 13 args).run Tryd.prog w = .ok (.enter 13 args) w :=
  enters_of Tryd.func13 (by kernel_rfl) rfl args w
theorem rseal_enters (args : Array Value) (w : World) : (callFunc 12 args).run Tryd.prog w = .ok (.enter 12 args) w :=
  enters_of Tryd.func12 (by kernel_rfl) rfl args w

theorem aesSeals_any (b n c : Nat) (ka : Option Addr) (fk fb : Nat → Nat) (w : World) (hL : LaidS w 0) (hsz : 0 < w.heap.size) (hb : b < 256) (hR : Rd w w.heap.size ka n fk)
    (hk : ∀ i, fk i < 256) (hfb : ∀ i, fb i < 256) :
    Calls Tryd.prog 3 #[.int .u8 b, .slice ka n c, .agg (cellsOf .u8 16 fb)] w (SaysYes w) := by
  go_enter Tryd.func3, Tryd.ntmps3
  go_wp2_with fail
  have hB0 := holds_alloc w 23 .u8 16 fb _ rfl
  have hg0 := World.grownBy_alloc w (.cells (cellsOf .u8 16 fb) 23) none
  generalize w.alloc (.cells (cellsOf .u8 16 fb) 23) = w0 at *
  obtain ⟨bb, hbb⟩ : ∃ bb, bb = w.heap.size := ⟨_, rfl⟩
  rw [← hbb] at hB0 ⊢
  clear hbb
  go_at_call 5
  with_reducible refine (known03 w0 (hL.grown hg0 (by simp)) (by have := hg0.size; omega)).mono ?_
  rintro e w1 ⟨⟨rfl, g1⟩⟩
  have hg1 := grown_trans hg0 g1
  have hB1 := hB0.grown g1 (by simp)
  have S1 := Lib.hid (s_any b w1 (hL.grown hg1 (by simp)) hb)
  have S2 := Lib.hid (rs_any b w1 hb)
  obtain ⟨s, hs⟩ : ∃ s, s = sB b := ⟨_, rfl⟩
  rw [← hs] at S1 S2
  have Hs := Lib.hid hs
  clear hs
  clear hB0 g1 hg0
  go_wp2_with fail
  go_at_call 6
  with_reducible refine (S1.out).mono ?_
  rintro e w' ⟨rfl, rfl⟩
  go_wp2_with fail
  go_at_call 7
  with_reducible refine (S2.out).mono ?_
  rintro e w2 ⟨rfl, g2⟩
  have hg2 := grown_trans hg1 g2
  have hB2 := hB1.grown g2 (by simp)
  have hR2 := hR.up (Nat.le_refl _) hg2
  have hsz2 : 0 < w2.heap.size := by have := hg2.size; omega
  have hL2 := hL.grown hg2 (by simp)
  clear hB1 g2 hg1 S1 S2
  by_cases hbad : n ≠ 16 ∧ n ≠ 32
  · have hn := new_err n c ka w2 hbad.1 hbad.2
    have HN := Lib.hid hn
    have e1 : ((n : Int) != 16) = true := by rw [bne_iff_ne]; omega
    have e2 : ((n : Int) != 32) = true := by rw [bne_iff_ne]; omega
    clear hn hbad
    go_wp2_with (go_at_call 8; (with_reducible refine (HN.out).mono ?_); rintro e w' ⟨rfl, rfl⟩)
    go_ret
    exact ⟨⟨rfl, hg2⟩⟩
  · obtain ⟨N, hN, hLN⟩ : ∃ N, (N = 4 ∨ N = 8) ∧ n = 4 * N := by
      by_cases h : n = 16
      · exact ⟨4, Or.inl rfl, h⟩
      · exact ⟨8, Or.inr rfl, by omega⟩
    have n1 := new_ok N n c ka fk w2 hL2 hN hLN hR2 hk hsz2
    have N1 := Lib.hid n1
    have HN := Lib.hid hN
    have HLN := Lib.hid hLN
    have hcase : ((n : Int) != 16) = false ∨ (((n : Int) != 16) = true ∧ ((n : Int) != 32) = false) := by
      by_cases h : n = 16
      · left; rw [bne_eq_false_iff_eq]; omega
      · right; exact ⟨by rw [bne_iff_ne]; omega, by rw [bne_eq_false_iff_eq]; omega⟩
    clear n1 hN hLN hbad
    go_wp2_with fail
    go_at_call 8
    with_reducible refine (N1.out).mono ?_
    rintro e w3 ⟨m, C, rfl, hm, g3, hC, hc⟩
    have hg3 := grown_trans hg2 g3
    have hB3 := hB2.grown g3 (by simp)
    have hbx := box_any w3
    have HBX := Lib.hid hbx
    clear hbx N1 hB2
    go_upto_region 6 with fail
    go_cut [30] (fun s30 wx => s30 = .bool false ∧ wx = w3)
    case first =>
      clear HBX hB3 hR2 hL2 hR hL
      rcases hcase with h | ⟨h1, h2⟩
      · go_wp2_with fail
        go_meet
        case rel => exact ⟨rfl, rfl⟩
      · go_wp2_with fail
        go_meet
        case rel => exact ⟨rfl, rfl⟩
    case rest =>
      obtain ⟨rfl, rfl⟩ := hcut
      clear hcase
      go_wp2_with fail
      go_at_call 9
      with_reducible refine (HBX.out).mono ?_
      rintro e w4 ⟨r, rfl, hr, hF4, g4⟩
      have hg4 := grown_trans hg3 g4
      have hB4 := hB3.grown g4 (by simp)
      have hC4 := hC.grown g4 (by simp)
      have hkw : ∀ i, keyW N fk i < 256 := keyW_lt N fk hk
      have hN6 : N + 6 ≤ 14 := by have := HN.out; omega
      obtain ⟨p, hp⟩ : ∃ p, p = sealA (N + 6) (keyW N fk) fb := ⟨_, rfl⟩
      have hpl : ∀ i, p i < 256 := fun i => by rw [hp]; exact sealA_lt _ _ _ hkw hfb i
      have sl := seal_any m (N + 6) C (keyW N fk) fb w4 (hL.grown hg4 (by simp)) hC4 hc hfb hkw (by omega) hN6
      rw [← hp] at sl
      have HSL := Lib.hid sl
      have HP := Lib.hid hp
      clear sl hp HBX hB3 hC
      go_upto_region 9 with fail
      go_cut [10] (fun s10 wx => ∃ X : Nat, s10 = .pointer (some ⟨X, 0, none⟩) ∧ Holds wx X 23 .u8 16 p ∧ w4.grownBy wx none)
      case first =>
        clear hF4 hC4 hL hL2 hR hR2
        go_wp2_with (first
          | refine wpList_load_rowG rfl 23 (.tmp 5) rfl bb rfl 23 _ (0, 0) (.array 16 5) hB4.block (by kernel_rfl) rfl (by rw [cellsOf_size]; kernel_rfl) ?_
          | (go_at_call 10; (with_reducible refine (HSL.out).mono ?_); rintro e w5 ⟨rfl, g5⟩
             have hN5 := new16 w5
             have ga5 := World.grownBy_alloc w5 (.cells (cellsOf .u8 16 (fun _ => 0)) 23) none)
          | refine wpList_store_row rfl 23 (.tmp 10) (.tmp 40) rfl w5.heap.size _ rfl rfl 23 _ hN5.block (by rw [cellsOf_size]; kernel_rfl) rfl (cellsOf_all _ _ _) ?_)
        go_meet
        case rel => exact ⟨w5.heap.size, rfl, hN5.setRow .u8 16 p, grown_setRow_new (grown_trans g5 ga5) _ _ (Or.inl g5.size)⟩
      case rest =>
        obtain ⟨X, rfl, hX, g5⟩ := hcut
        have hg5 := grown_trans hg4 g5
        have hF5 := hF4.grown (by decide) g5 (by simp)
        have hB5 := hB4.grown g5 (by simp)
        have hC5 := hC4.grown g5 (by simp)
        have hR5 := hR.up (Nat.le_refl _) hg5
        have hL5 := hL.grown hg5 (by simp)
        clear hF4 hB4 hC4 hL2 hR2 HSL hR hL
        have hnq : (n : Int) / 4 = (N : Int) := by have := HLN.out; omega
        have hN8 : N = 4 ∨ N = 8 := HN.out
        have hNl : (N : Int) ≤ 8 := by omega
        have hsl : s < 256 := by rw [Hs.out]; exact sB_lt b
        go_wp2_with fail
        refine wp_region_held (S := fun W => wc.grownBy W none) (by kernel_rfl) ?_
        change wpAnyH _ _ _ _ _ 33 #[false, false, false, false, false, false, false, false, false, false, false, false, false, false, false, false, false, false, false, false, false, false, false, false, false, false, false, false, false, false, false, false, false] _ (World.drew _)
        have hS0 := grown_drew (grown_refl wc none)
        generalize World.drew wc = W0 at *
        refine wpAnyH_takeD (some 41) (i := 0) (v := .int .i64 0) rfl rfl (by kernel_rfl) (by kernel_rfl) (by kernel_rfl) (fun _ _ _ h => h) (Or.inl ⟨rfl, fun _ _ => rfl⟩) hS0 ?_
        simp only [Act.put, List.setIfInBounds_toArray, List.set_cons_succ, List.set_cons_zero]
        refine wpAnyH_takeD (some 42) (i := 1) (v := .bool true) rfl rfl (by kernel_rfl) (by kernel_rfl) (by kernel_rfl) (fun _ _ _ h => h) (Or.inl ⟨rfl, fun W _ => by go_simp⟩) hS0 ?_
        simp only [Act.put, List.setIfInBounds_toArray, List.set_cons_succ, List.set_cons_zero]
        refine wpAnyH_takeD (some 43) (i := 2) (v := .bool true) rfl rfl (by kernel_rfl) (by kernel_rfl) (by kernel_rfl) (fun _ _ _ h => h) (Or.inl ⟨rfl, fun _ _ => rfl⟩) hS0 ?_
        simp only [Act.put, List.setIfInBounds_toArray, List.set_cons_succ, List.set_cons_zero]
        refine wpAnyH_takeD (some 44) (i := 3) (v := .pointer (some ⟨m, 0, none⟩)) rfl rfl (by kernel_rfl) (by kernel_rfl) (by kernel_rfl) (fun _ _ _ h => h) (Or.inl ⟨rfl, fun _ _ => rfl⟩) hS0 ?_
        simp only [Act.put, List.setIfInBounds_toArray, List.set_cons_succ, List.set_cons_zero]
        refine wpAnyH_takeD (some 46) (i := 5) (v := .slice ka n c) rfl rfl (by kernel_rfl) (by kernel_rfl) (by kernel_rfl) (fun _ _ _ h => h) (Or.inl ⟨rfl, fun _ _ => rfl⟩) hS0 ?_
        simp only [Act.put, List.setIfInBounds_toArray, List.set_cons_succ, List.set_cons_zero]
        refine wpAnyH_takeD (some 47) (i := 6) (v := .int .i64 (n : Nat)) rfl rfl (by kernel_rfl) (by kernel_rfl) (by kernel_rfl) (fun _ _ _ h => h) (Or.inl ⟨rfl, fun W _ => by go_simp⟩) hS0 ?_
        simp only [Act.put, List.setIfInBounds_toArray, List.set_cons_succ, List.set_cons_zero]
        refine wpAnyH_takeD (some 48) (i := 7) (v := .int .i64 (N : Nat)) rfl rfl (by kernel_rfl) (by kernel_rfl) (by kernel_rfl) (fun _ _ _ h => h) (Or.inl ⟨rfl, fun W _ => by go_simp; try (rw [IntKind.wrap_i64]; omega)⟩) hS0 ?_
        simp only [Act.put, List.setIfInBounds_toArray, List.set_cons_succ, List.set_cons_zero]
        refine wpAnyH_takeD (some 49) (i := 8) (v := .int .i64 (N + 6 : Nat)) rfl rfl (by kernel_rfl) (by kernel_rfl) (by kernel_rfl) (fun _ _ _ h => h) (Or.inl ⟨rfl, fun W _ => by go_simp; try (rw [IntKind.wrap_i64]; omega)⟩) hS0 ?_
        simp only [Act.put, List.setIfInBounds_toArray, List.set_cons_succ, List.set_cons_zero]
        refine wpAnyH_callD (i := 4) (R := fun v w' => v = .int .i64 (N + 6 : Nat) ∧ W0 = w') (some 45) 11 #[.pointer (some ⟨m, 0, none⟩)] (by kernel_rfl) rfl rfl rfl (exec_fn1 _ _ _ rfl rfl) rounds_enters ((rounds_any m (N + 6) C W0 (hC5.grown hS0 (by simp))).mono fun e w' h => ⟨_, h.1, rfl, h.2⟩) ?_
        rintro v W' ⟨rfl, rfl⟩
        refine ⟨hS0, ?_⟩
        simp only [Act.put, List.setIfInBounds_toArray, List.set_cons_succ, List.set_cons_zero]
        refine wpAnyH_takeD (some 50) (i := 9) (v := .bool true) rfl rfl (by kernel_rfl) (by kernel_rfl) (by kernel_rfl) (fun _ _ _ h => h) (Or.inl ⟨rfl, fun W _ => by go_simp⟩) hS0 ?_
        simp only [Act.put, List.setIfInBounds_toArray, List.set_cons_succ, List.set_cons_zero]
        refine wpAnyH_takeD (some 51) (i := 10) (v := .bool true) rfl rfl (by kernel_rfl) (by kernel_rfl) (by kernel_rfl) (fun _ _ _ h => h) (Or.inl ⟨rfl, fun _ _ => rfl⟩) hS0 ?_
        simp only [Act.put, List.setIfInBounds_toArray, List.set_cons_succ, List.set_cons_zero]
        refine wpAnyH_takeD (some 52) (i := 11) (v := .bool true) rfl rfl (by kernel_rfl) (by kernel_rfl) (by kernel_rfl) (fun _ _ _ h => h) (Or.inl ⟨rfl, fun _ _ => rfl⟩) hS0 ?_
        simp only [Act.put, List.setIfInBounds_toArray, List.set_cons_succ, List.set_cons_zero]
        refine wpAnyH_takeD (some 53) (i := 12) (v := .slice (some ⟨r, 0, none⟩) 256 256) rfl rfl (by kernel_rfl) (by kernel_rfl) (by kernel_rfl) (fun _ _ _ h => h) (Or.inl ⟨rfl, fun _ _ => rfl⟩) hS0 ?_
        simp only [Act.put, List.setIfInBounds_toArray, List.set_cons_succ, List.set_cons_zero]
        refine wpAnyH_takeD (some 54) (i := 13) (v := .int .u8 (b : Nat)) rfl rfl (by kernel_rfl) (by kernel_rfl) (by kernel_rfl) (fun _ _ _ h => h) (Or.inl ⟨rfl, fun _ _ => rfl⟩) hS0 ?_
        simp only [Act.put, List.setIfInBounds_toArray, List.set_cons_succ, List.set_cons_zero]
        refine wpAnyH_takeD (some 55) (i := 14) (v := .pointer (some ⟨r, b, none⟩)) rfl rfl (by kernel_rfl) (by kernel_rfl) (by kernel_rfl) (fun _ _ _ h => h) (Or.inl ⟨rfl, fun W _ => by have e7 : (b : Int) < 256 := (by omega); go_simp⟩) hS0 ?_
        simp only [Act.put, List.setIfInBounds_toArray, List.set_cons_succ, List.set_cons_zero]
        refine wpAnyH_takeD (some 56) (i := 15) (v := .int .u8 (s : Nat)) rfl rfl (by kernel_rfl) (by kernel_rfl) (by kernel_rfl) (fun _ _ _ h => h) (Or.inl ⟨rfl, fun W hW => by have c1 := (hF5.grown (by decide) hW (by simp)).cell b hb; rw [← Hs.out] at c1; go_simp⟩) hS0 ?_
        simp only [Act.put, List.setIfInBounds_toArray, List.set_cons_succ, List.set_cons_zero]
        refine wpAnyH_takeD (some 57) (i := 16) (v := .int .u8 (b : Nat)) rfl rfl (by kernel_rfl) (by kernel_rfl) (by kernel_rfl) (fun _ _ _ h => h) (Or.inl ⟨rfl, fun _ _ => rfl⟩) hS0 ?_
        simp only [Act.put, List.setIfInBounds_toArray, List.set_cons_succ, List.set_cons_zero]
        refine wpAnyH_callD (i := 17) (R := fun v w' => v = .int .u8 (s : Nat) ∧ W0 = w') (some 58) 6 #[.int .u8 (b : Nat)] (by kernel_rfl) rfl rfl rfl (exec_fn1 _ _ _ rfl rfl) s_enters ((s_any b W0 (hL5.grown hS0 (by simp)) hb).mono fun e w' h => ⟨_, h.1, by rw [← Hs.out], h.2⟩) ?_
        rintro v W' ⟨rfl, rfl⟩
        refine ⟨hS0, ?_⟩
        simp only [Act.put, List.setIfInBounds_toArray, List.set_cons_succ, List.set_cons_zero]
        refine wpAnyH_takeD (some 59) (i := 18) (v := .bool true) rfl rfl (by kernel_rfl) (by kernel_rfl) (by kernel_rfl) (fun _ _ _ h => h) (Or.inl ⟨rfl, fun W _ => by go_simp⟩) hS0 ?_
        simp only [Act.put, List.setIfInBounds_toArray, List.set_cons_succ, List.set_cons_zero]
        refine wpAnyH_takeD (some 60) (i := 19) (v := .bool true) rfl rfl (by kernel_rfl) (by kernel_rfl) (by kernel_rfl) (fun _ _ _ h => h) (Or.inl ⟨rfl, fun _ _ => rfl⟩) hS0 ?_
        simp only [Act.put, List.setIfInBounds_toArray, List.set_cons_succ, List.set_cons_zero]
        refine wpAnyH_takeD (some 61) (i := 20) (v := .bool true) rfl rfl (by kernel_rfl) (by kernel_rfl) (by kernel_rfl) (fun _ _ _ h => h) (Or.inl ⟨rfl, fun _ _ => rfl⟩) hS0 ?_
        simp only [Act.put, List.setIfInBounds_toArray, List.set_cons_succ, List.set_cons_zero]
        refine wpAnyH_takeD (some 62) (i := 21) (v := .slice (some ⟨X, 0, none⟩) 16 16) rfl rfl (by kernel_rfl) (by kernel_rfl) (by kernel_rfl) (fun _ _ _ h => h) (Or.inl ⟨rfl, fun W _ => by go_simp⟩) hS0 ?_
        simp only [Act.put, List.setIfInBounds_toArray, List.set_cons_succ, List.set_cons_zero]
        refine wpAnyH_takeD (some 63) (i := 22) (v := .string (strOf 16 p)) rfl rfl (by kernel_rfl) (by kernel_rfl) (by kernel_rfl) (fun _ _ _ h => h) (Or.inl ⟨rfl, fun W hW => run_convS 62 rfl rfl ((hX.grown hW (by simp)).rd _ (hX.grown hW (by simp)).lt 16 (Nat.le_refl _)) hpl⟩) hS0 ?_
        simp only [Act.put, List.setIfInBounds_toArray, List.set_cons_succ, List.set_cons_zero]
        refine wpAnyH_takeD (some 64) (i := 23) (v := .slice (some ⟨r, 0, none⟩) 256 256) rfl rfl (by kernel_rfl) (by kernel_rfl) (by kernel_rfl) (fun _ _ _ h => h) (Or.inl ⟨rfl, fun _ _ => rfl⟩) hS0 ?_
        simp only [Act.put, List.setIfInBounds_toArray, List.set_cons_succ, List.set_cons_zero]
        refine wpAnyH_takeD (some 65) (i := 24) (v := .slice (some ⟨r, 0, none⟩) 256 256) rfl rfl (by kernel_rfl) (by kernel_rfl) (by kernel_rfl) (fun _ _ _ h => h) (Or.inl ⟨rfl, fun _ _ => rfl⟩) hS0 ?_
        simp only [Act.put, List.setIfInBounds_toArray, List.set_cons_succ, List.set_cons_zero]
        refine wpAnyH_takeD (some 66) (i := 25) (v := .slice ka n c) rfl rfl (by kernel_rfl) (by kernel_rfl) (by kernel_rfl) (fun _ _ _ h => h) (Or.inl ⟨rfl, fun _ _ => rfl⟩) hS0 ?_
        simp only [Act.put, List.setIfInBounds_toArray, List.set_cons_succ, List.set_cons_zero]
        refine wpAnyH_takeD (some 68) (i := 27) (v := .slice (some ⟨bb, 0, none⟩) 16 16) rfl rfl (by kernel_rfl) (by kernel_rfl) (by kernel_rfl) (fun _ _ _ h => h) (Or.inl ⟨rfl, fun W _ => by go_simp⟩) hS0 ?_
        simp only [Act.put, List.setIfInBounds_toArray, List.set_cons_succ, List.set_cons_zero]
        refine wpAnyH_callD (i := 26) (R := fun v w' => ∃ g cap, v = .slice (some ⟨g, 0, none⟩) (16 * (N + 7) : Nat) cap ∧ OwnR w' g (16 * (N + 7)) cap (keyW N fk) ∧ W0.grownBy w' none) (some 67) 13 #[.slice (some ⟨r, 0, none⟩) 256 256, .slice ka n c] (by kernel_rfl) rfl rfl rfl (exec_fn2 _ _ _ _ _ rfl rfl rfl) rcols_enters
          ((rcols_any N n c r ka fk W0 HN.out HLN.out (hR5.up (Nat.le_refl _) hS0) hk ((hF5.grown (by decide) hS0 (by simp)).rd (by decide) 256 (Nat.le_refl _))).mono fun e w' h => by
            obtain ⟨g, cap, h1, h2, _, h4⟩ := h
            exact ⟨_, h1, g, cap, rfl, h2, h4⟩) ?_
        rintro v W1 ⟨g, cap, rfl, hO, hgW⟩
        have hS1 := grown_trans hS0 hgW
        refine ⟨hS1, ?_⟩
        simp only [Act.put, List.setIfInBounds_toArray, List.set_cons_succ, List.set_cons_zero]
        refine wpAnyH_callD (i := 28) (R := fun v w' => ∃ r3, v = .slice (some ⟨r3, 0, none⟩) 16 16 ∧ Fill w' r3 16 p ∧ W1.grownBy w' none) (some 69) 12 #[.slice (some ⟨r, 0, none⟩) 256 256, .slice (some ⟨g, 0, none⟩) (16 * (N + 7) : Nat) cap, .slice (some ⟨bb, 0, none⟩) 16 16] (by kernel_rfl) rfl rfl rfl (exec_fn3 _ _ _ _ _ _ _ rfl rfl rfl rfl) rseal_enters
          ((rseal_any (N + 6) r g cap bb 16 (keyW N fk) fb W1 (by omega) hN6 ((hF5.grown (by decide) hS1 (by simp)).rd (by decide) 256 (Nat.le_refl _)) hO.rd ((hB5.grown hS1 (by simp)).rd _ (hB5.grown hS1 (by simp)).lt 16 (Nat.le_refl _)) hkw hfb).mono fun e w' h => by
            obtain ⟨r3, h1, h2, _, h4⟩ := h
            exact ⟨_, h1, r3, rfl, by rw [HP.out]; exact h2, h4⟩) ?_
        rintro v W2 ⟨r3, rfl, hF3, hgW2⟩
        have hS2 := grown_trans hS1 hgW2
        refine ⟨hS2, ?_⟩
        simp only [Act.put, List.setIfInBounds_toArray, List.set_cons_succ, List.set_cons_zero]
        refine wpAnyH_yieldD (i := 29) (v := .string (strOf 16 p)) (w' := W2) (some 70) (by kernel_rfl) rfl rfl rfl (run_convS 69 rfl rfl (hF3.rd (by decide) 16 (Nat.le_refl _)) hpl) hS2 ?_
        simp only [Act.put, List.setIfInBounds_toArray, List.set_cons_succ, List.set_cons_zero]
        refine wpAnyH_takeD (some 71) (i := 30) (v := .bool true) rfl rfl (by kernel_rfl) (by kernel_rfl) (by kernel_rfl) (fun _ _ _ h => h) (Or.inl ⟨rfl, fun W _ => by go_simp⟩) hS2 ?_
        simp only [Act.put, List.setIfInBounds_toArray, List.set_cons_succ, List.set_cons_zero]
        refine wpAnyH_takeD (some 72) (i := 31) (v := .bool true) rfl rfl (by kernel_rfl) (by kernel_rfl) (by kernel_rfl) (fun _ _ _ h => h) (Or.inl ⟨rfl, fun _ _ => rfl⟩) hS2 ?_
        simp only [Act.put, List.setIfInBounds_toArray, List.set_cons_succ, List.set_cons_zero]
        refine wpAnyH_takeD (some 6) (i := 32) (v := .bool true) rfl rfl (by kernel_rfl) (by kernel_rfl) (by kernel_rfl) (fun _ _ _ h => h) (Or.inl ⟨rfl, fun _ _ => rfl⟩) hS2 ?_
        simp only [Act.put, List.setIfInBounds_toArray, List.set_cons_succ, List.set_cons_zero]
        refine wpAnyH_done (by kernel_rfl) ?_ _
        go_wp2_with fail
        go_ret
        exact ⟨⟨rfl, grown_trans hg5 hS2⟩⟩

end Go.Proofs.YtbjmgolkgpdenaaDoor
