/-
  sign: the closures that tell whether what a kind has may be, and that drop it.
-/
import Derived.Test.YtpddgiflljlpbaaSgKit
namespace Go.Proofs.Ytpddgiflljlpbaa
open Go.RowKit

set_option maxRecDepth 100000
set_option maxHeartbeats 4000000

def SV.noOffer (x : SV) : SV := { x with ac := 0, dv := 0, ce := 0, key := fun _ => 0 }
def SV.noKey (x : SV) : SV := { x with key := fun _ => 0 }
def SV.noCand (x : SV) : SV := { x with n := 0, ad := none, nd := 0, cd := 0 }
def SV.noHang (x : SV) : SV := { x with rs := 0 }
theorem mayOffer_any (b B : Nat) (x : SV) (w : World) (hb : BoxAt w b B) (hx : SAt w B x) : Calls Try.prog 40 #[.pointer (some ⟨b, 0, none⟩)] w fun e w' => e = .returned (.bool (decide (x.ac < 8) && decide (x.dv < 4) && decide (x.ce < 8))) ∧ w = w' := by
  obtain ⟨ck, cac, cdv, cce, cn, cd, crs⟩ := hx.cells
  have c0 := hb.cell
  clear hx hb
  generalize x.ac = p at *
  generalize x.dv = q at *
  generalize x.ce = r at *
  by_cases h1 : p < 8
  · have k1 : (p : Int) < 8 := by omega
    by_cases h2 : q < 4
    · have k2 : (q : Int) < 4 := by omega
      by_cases h3 : r < 8
      · have k3 : (r : Int) < 8 := by omega
        rw [decide_eq_true h1, decide_eq_true h2, decide_eq_true h3]
        clear h1 h2 h3
        go_enter Try.func40, Try.ntmps40
        go_wp2_with fail
        go_ret
        exact ⟨rfl, rfl⟩
      · have k3 : ¬ (r : Int) < 8 := by omega
        rw [decide_eq_true h1, decide_eq_true h2, decide_eq_false h3]
        clear h1 h2 h3
        go_enter Try.func40, Try.ntmps40
        go_wp2_with fail
        go_ret
        exact ⟨rfl, rfl⟩
    · have k2 : ¬ (q : Int) < 4 := by omega
      rw [decide_eq_true h1, decide_eq_false h2]
      clear h1 h2
      go_enter Try.func40, Try.ntmps40
      go_wp2_with fail
      go_ret
      exact ⟨rfl, rfl⟩
  · have k1 : ¬ (p : Int) < 8 := by omega
    rw [decide_eq_false h1]
    clear h1
    go_enter Try.func40, Try.ntmps40
    go_wp2_with fail
    go_ret
    exact ⟨rfl, rfl⟩
theorem mayAnswer_any (w : World) : Calls Try.prog 44 #[] w fun e w' => e = .returned (.bool true) ∧ w = w' := by
  go_enter Try.func44, Try.ntmps44
  go_wp2_with fail
  go_ret
  exact ⟨rfl, rfl⟩
theorem mayNothing_any (w : World) : Calls Try.prog 60 #[] w fun e w' => e = .returned (.bool true) ∧ w = w' := by
  go_enter Try.func60, Try.ntmps60
  go_wp2_with fail
  go_ret
  exact ⟨rfl, rfl⟩
theorem mayCand_any (b B : Nat) (x : SV) (w : World) (hb : BoxAt w b B) (hx : SAt w B x) : Calls Try.prog 48 #[.pointer (some ⟨b, 0, none⟩)] w fun e w' => e = .returned (.bool (decide (x.nd ≤ 1024))) ∧ w = w' := by
  obtain ⟨ck, cac, cdv, cce, cn, cd, crs⟩ := hx.cells
  have c0 := hb.cell
  clear hx hb
  generalize x.nd = p at *
  by_cases h1 : p ≤ 1024
  · have k1 : (p : Int) ≤ 1024 := by omega
    rw [decide_eq_true h1]
    clear h1
    go_enter Try.func48, Try.ntmps48
    go_wp2_with fail
    go_ret
    exact ⟨rfl, rfl⟩
  · have k1 : ¬ (p : Int) ≤ 1024 := by omega
    rw [decide_eq_false h1]
    clear h1
    go_enter Try.func48, Try.ntmps48
    go_wp2_with fail
    go_ret
    exact ⟨rfl, rfl⟩
theorem mayHang_any (b B : Nat) (x : SV) (w : World) (hb : BoxAt w b B) (hx : SAt w B x) : Calls Try.prog 56 #[.pointer (some ⟨b, 0, none⟩)] w fun e w' => e = .returned (.bool (decide (1 ≤ x.rs) && decide (x.rs ≤ 4))) ∧ w = w' := by
  obtain ⟨ck, cac, cdv, cce, cn, cd, crs⟩ := hx.cells
  have c0 := hb.cell
  clear hx hb
  generalize x.rs = p at *
  by_cases h1 : 1 ≤ p
  · have k1 : (1 : Int) ≤ (p : Int) := by omega
    by_cases h2 : p ≤ 4
    · have k2 : (p : Int) ≤ 4 := by omega
      rw [decide_eq_true h1, decide_eq_true h2]
      clear h1 h2
      go_enter Try.func56, Try.ntmps56
      go_wp2_with fail
      go_ret
      exact ⟨rfl, rfl⟩
    · have k2 : ¬ (p : Int) ≤ 4 := by omega
      rw [decide_eq_true h1, decide_eq_false h2]
      clear h1 h2
      go_enter Try.func56, Try.ntmps56
      go_wp2_with fail
      go_ret
      exact ⟨rfl, rfl⟩
  · obtain rfl : p = 0 := by omega
    replace crs : w.cell? ⟨B, 54, none⟩ = some (.int .u8 0) := crs
    rw [decide_eq_false h1]
    clear h1
    go_enter Try.func56, Try.ntmps56
    go_wp2_with fail
    go_ret
    exact ⟨rfl, rfl⟩
structure Dropped (w : World) (B : Nat) (y : SV) (e : Ending) (w' : World) : Prop where
  ex : e = .returned (.tuple #[])
  st : SAt w' B y
  gr : w.grownBy w' (some B)
theorem dropOffer_any (b B : Nat) (x : SV) (w : World) (hb : BoxAt w b B) (hx : SAt w B x) (hne : b ≠ B) : Calls Try.prog 43 #[.pointer (some ⟨b, 0, none⟩)] w (Dropped w B x.noOffer) := by
  go_enter Try.func43, Try.ntmps43
  refine wp_region_held (S := fun W => BoxAt W b B) (by kernel_rfl) ?_
  change wpAnyH _ _ _ _ _ 14 #[false, false, false, false, false, false, false, false, false, false, false, false, false, false] _ (World.drew _)
  have gq : w.grownBy (World.drew w) (some B) := grown_drew (grown_refl w _)
  have hb := hb.grown gq (by simp; omega)
  have hx : SAt (World.drew w) B x := ⟨hx.block⟩
  generalize World.drew w = w1 at *
  refine wpAnyH_takeD (some 1) (i := 0) (v := (.pointer (some ⟨B, 0, none⟩))) rfl rfl (by kernel_rfl) (by kernel_rfl) (by kernel_rfl) (fun _ _ _ h => h) (Or.inl ⟨rfl, fun W hW => exec_load (.tmp 0) (.pointer (some ⟨b, 0, none⟩)) (.pointer (some ⟨B, 0, none⟩)) rfl rfl hW.load⟩) hb ?_
  simp only [Act.put, List.setIfInBounds_toArray, List.set_cons_succ, List.set_cons_zero]
  refine wpAnyH_takeD (some 2) (i := 1) (v := (.pointer (some ⟨B, 0, none⟩))) rfl rfl (by kernel_rfl) (by kernel_rfl) (by kernel_rfl) (fun _ _ _ h => h) (Or.inl ⟨rfl, fun W hW => exec_load (.tmp 0) (.pointer (some ⟨b, 0, none⟩)) (.pointer (some ⟨B, 0, none⟩)) rfl rfl hW.load⟩) hb ?_
  simp only [Act.put, List.setIfInBounds_toArray, List.set_cons_succ, List.set_cons_zero]
  refine wpAnyH_takeD (some 3) (i := 2) (v := (.pointer (some ⟨B, 0, none⟩))) rfl rfl (by kernel_rfl) (by kernel_rfl) (by kernel_rfl) (fun _ _ _ h => h) (Or.inl ⟨rfl, fun W hW => exec_load (.tmp 0) (.pointer (some ⟨b, 0, none⟩)) (.pointer (some ⟨B, 0, none⟩)) rfl rfl hW.load⟩) hb ?_
  simp only [Act.put, List.setIfInBounds_toArray, List.set_cons_succ, List.set_cons_zero]
  refine wpAnyH_takeD (some 4) (i := 3) (v := (.agg #[.int .u8 0, .int .u8 0])) rfl rfl (by kernel_rfl) (by kernel_rfl) (by kernel_rfl) (fun _ _ _ h => h) (Or.inl ⟨rfl, fun _ _ => by go_simp⟩) hb ?_
  simp only [Act.put, List.setIfInBounds_toArray, List.set_cons_succ, List.set_cons_zero]
  refine wpAnyH_takeD (some 5) (i := 4) (v := (.agg (cellsOf .u8 32 (fun _ => 0)))) rfl rfl (by kernel_rfl) (by kernel_rfl) (by kernel_rfl) (fun _ _ _ h => h) (Or.inl ⟨rfl, fun _ _ => by go_simp; rfl⟩) hb ?_
  simp only [Act.put, List.setIfInBounds_toArray, List.set_cons_succ, List.set_cons_zero]
  refine wpAnyH_takeD (some 6) (i := 5) (v := (.pointer (some ⟨B, 0, none⟩))) rfl rfl (by kernel_rfl) (by kernel_rfl) (by kernel_rfl) (fun _ _ _ h => h) (Or.inl ⟨rfl, fun _ _ => by go_simp⟩) hb ?_
  simp only [Act.put, List.setIfInBounds_toArray, List.set_cons_succ, List.set_cons_zero]
  refine wpAnyH_takeD (some 7) (i := 6) (v := (.pointer (some ⟨B, 17, none⟩))) rfl rfl (by kernel_rfl) (by kernel_rfl) (by kernel_rfl) (fun _ _ _ h => h) (Or.inl ⟨rfl, fun _ _ => by go_simp⟩) hb ?_
  simp only [Act.put, List.setIfInBounds_toArray, List.set_cons_succ, List.set_cons_zero]
  have hx2 : SAt (w1.setCells B 17 [.int .u8 0, .int .u8 0]) B { x with ac := 0, dv := 0 } := hx.set 17 [.int .u8 0, .int .u8 0] _ (by kernel_rfl)
  have g2 := grown_setCells B (Or.inr rfl) [.int .u8 0, .int .u8 0] 17 w1 gq
  have hb2 : BoxAt (w1.setCells B 17 [.int .u8 0, .int .u8 0]) b B := hb.grown (grown_setCells B (Or.inr rfl) [.int .u8 0, .int .u8 0] 17 w1 (grown_refl w1 (some B))) (by simp; omega)
  refine wpAnyH_skipD (i := 7) (by kernel_rfl) rfl rfl rfl (exec_store (.tmp 7) (.tmp 4) _ _ rfl rfl rfl (hx.store 17 29 #[.int .u8 0, .int .u8 0] (by decide) (by kernel_rfl) (by simp [Value.oneCell']))) hb2 ?_
  generalize w1.setCells B 17 [.int .u8 0, .int .u8 0] = w2 at *
  refine wpAnyH_takeD (some 8) (i := 8) (v := (.pointer (some ⟨B, 0, none⟩))) rfl rfl (by kernel_rfl) (by kernel_rfl) (by kernel_rfl) (fun _ _ _ h => h) (Or.inl ⟨rfl, fun _ _ => by go_simp⟩) hb2 ?_
  simp only [Act.put, List.setIfInBounds_toArray, List.set_cons_succ, List.set_cons_zero]
  refine wpAnyH_takeD (some 9) (i := 9) (v := (.pointer (some ⟨B, 19, none⟩))) rfl rfl (by kernel_rfl) (by kernel_rfl) (by kernel_rfl) (fun _ _ _ h => h) (Or.inl ⟨rfl, fun _ _ => by go_simp⟩) hb2 ?_
  simp only [Act.put, List.setIfInBounds_toArray, List.set_cons_succ, List.set_cons_zero]
  have hx3 : SAt (w2.setCell ⟨B, 19, none⟩ (.int .u8 0)) B { x with ac := 0, dv := 0, ce := 0 } := hx2.put1 19 _ _ (by kernel_rfl)
  have g3 := grown_setCell_new g2 ⟨B, 19, none⟩ (.int .u8 0) (Or.inr rfl)
  have hb3 : BoxAt (w2.setCell ⟨B, 19, none⟩ (.int .u8 0)) b B := hb2.grown (grown_setCell_new (grown_refl w2 (some B)) ⟨B, 19, none⟩ (.int .u8 0) (Or.inr rfl)) (by simp; omega)
  refine wpAnyH_skipD (i := 10) (by kernel_rfl) rfl rfl rfl (exec_store (.tmp 9) (.const (.int .u8 0)) _ _ rfl rfl rfl (hx2.store8 19 0 (by decide))) hb3 ?_
  generalize w2.setCell ⟨B, 19, none⟩ (.int .u8 0) = w3 at *
  refine wpAnyH_takeD (some 10) (i := 11) (v := (.pointer (some ⟨B, 0, none⟩))) rfl rfl (by kernel_rfl) (by kernel_rfl) (by kernel_rfl) (fun _ _ _ h => h) (Or.inl ⟨rfl, fun _ _ => by go_simp⟩) hb3 ?_
  simp only [Act.put, List.setIfInBounds_toArray, List.set_cons_succ, List.set_cons_zero]
  refine wpAnyH_takeD (some 11) (i := 12) (v := (.pointer (some ⟨B, 20, none⟩))) rfl rfl (by kernel_rfl) (by kernel_rfl) (by kernel_rfl) (fun _ _ _ h => h) (Or.inl ⟨rfl, fun _ _ => by go_simp⟩) hb3 ?_
  simp only [Act.put, List.setIfInBounds_toArray, List.set_cons_succ, List.set_cons_zero]
  have hx4 : SAt (w3.setCells B 20 (cellsOf .u8 32 (fun _ => 0)).toList) B x.noOffer := hx3.set 20 _ _ (by kernel_rfl)
  have g4 := grown_setCells B (Or.inr rfl) (cellsOf .u8 32 (fun _ => 0)).toList 20 w3 g3
  have hb4 : BoxAt (w3.setCells B 20 (cellsOf .u8 32 (fun _ => 0)).toList) b B := hb3.grown (grown_setCells B (Or.inr rfl) _ 20 w3 (grown_refl w3 (some B))) (by simp; omega)
  refine wpAnyH_skipD (i := 13) (by kernel_rfl) rfl rfl rfl (exec_store (.tmp 11) (.tmp 5) _ _ rfl rfl rfl (hx3.store 20 31 (cellsOf .u8 32 (fun _ => 0)) (by rw [cellsOf_size]; decide) (by rw [cellsOf_size]; kernel_rfl) (cellsOf_all _ _ _))) hb4 ?_
  refine wpAnyH_done (by kernel_rfl) ?_ _
  go_end0
  exact ⟨rfl, hx4, g4⟩
theorem dropAnswer_any (b B : Nat) (x : SV) (w : World) (hb : BoxAt w b B) (hx : SAt w B x) : Calls Try.prog 47 #[.pointer (some ⟨b, 0, none⟩)] w (Dropped w B x.noKey) := by
  have c0 := hb.cell
  have hth := hx.there 20 32 (by decide)
  have hx4 : SAt (w.setCells B 20 (cellsOf .u8 32 (fun _ => 0)).toList) B x.noKey := hx.set 20 _ _ (by kernel_rfl)
  have g4 := grown_setCells B (Or.inr rfl) (cellsOf .u8 32 (fun _ => 0)).toList 20 w (grown_refl w (some B))
  have HX := Lib.hid hx4
  have HG := Lib.hid g4
  clear hx hb hx4 g4
  go_enter Try.func47, Try.ntmps47
  go_wp2_with (with_reducible refine wpList_here ?_; refine wpList_store_mid rfl 31 (.tmp 4) (.tmp 2) rfl B 20 (cellsOf .u8 32 (fun _ => 0)) rfl rfl (by rw [cellsOf_size]; exact hth) (by rw [cellsOf_size]; kernel_rfl) (cellsOf_all _ _ _) ?_)
  go_end0
  exact ⟨rfl, HX.out, HG.out⟩
theorem dropHang_any (b B : Nat) (x : SV) (w : World) (hb : BoxAt w b B) (hx : SAt w B x) : Calls Try.prog 59 #[.pointer (some ⟨b, 0, none⟩)] w (Dropped w B x.noHang) := by
  have c0 := hb.cell
  have c1 := hx.cells.rs
  have f1 := hx.frozen 54
  have hx4 : SAt (w.setCell ⟨B, 54, none⟩ (.int .u8 0)) B x.noHang := hx.put1 54 _ _ (by kernel_rfl)
  have g4 := grown_setCell_new (grown_refl w (some B)) ⟨B, 54, none⟩ (.int .u8 0) (Or.inr rfl)
  have HX := Lib.hid hx4
  have HG := Lib.hid g4
  clear hx hb hx4 g4
  go_enter Try.func59, Try.ntmps59
  go_wp2_with fail
  go_end0
  exact ⟨rfl, HX.out, HG.out⟩
theorem dropNothing_any (w : World) : Calls Try.prog 63 #[] w fun e w' => e = .returned (.tuple #[]) ∧ w = w' := by
  go_enter Try.func63, Try.ntmps63
  go_wp2_with fail
  go_end0
  exact ⟨rfl, rfl⟩
theorem dropCand_any (b B : Nat) (x : SV) (w : World) (hb : BoxAt w b B) (hx : SAt w B x) (hne : b ≠ B) : Calls Try.prog 55 #[.pointer (some ⟨b, 0, none⟩)] w (Dropped w B x.noCand) := by
  go_enter Try.func55, Try.ntmps55
  refine wp_region_held (S := fun W => BoxAt W b B) (by kernel_rfl) ?_
  change wpAnyH _ _ _ _ _ 8 #[false, false, false, false, false, false, false, false] _ (World.drew _)
  have gq : w.grownBy (World.drew w) (some B) := grown_drew (grown_refl w _)
  have hb := hb.grown gq (by simp; omega)
  have hx : SAt (World.drew w) B x := ⟨hx.block⟩
  generalize World.drew w = w1 at *
  refine wpAnyH_takeD (some 1) (i := 0) (v := (.pointer (some ⟨B, 0, none⟩))) rfl rfl (by kernel_rfl) (by kernel_rfl) (by kernel_rfl) (fun _ _ _ h => h) (Or.inl ⟨rfl, fun W hW => exec_load (.tmp 0) (.pointer (some ⟨b, 0, none⟩)) (.pointer (some ⟨B, 0, none⟩)) rfl rfl hW.load⟩) hb ?_
  simp only [Act.put, List.setIfInBounds_toArray, List.set_cons_succ, List.set_cons_zero]
  refine wpAnyH_takeD (some 2) (i := 1) (v := (.pointer (some ⟨B, 0, none⟩))) rfl rfl (by kernel_rfl) (by kernel_rfl) (by kernel_rfl) (fun _ _ _ h => h) (Or.inl ⟨rfl, fun W hW => exec_load (.tmp 0) (.pointer (some ⟨b, 0, none⟩)) (.pointer (some ⟨B, 0, none⟩)) rfl rfl hW.load⟩) hb ?_
  simp only [Act.put, List.setIfInBounds_toArray, List.set_cons_succ, List.set_cons_zero]
  refine wpAnyH_takeD (some 3) (i := 2) (v := (.pointer (some ⟨B, 0, none⟩))) rfl rfl (by kernel_rfl) (by kernel_rfl) (by kernel_rfl) (fun _ _ _ h => h) (Or.inl ⟨rfl, fun _ _ => by go_simp⟩) hb ?_
  simp only [Act.put, List.setIfInBounds_toArray, List.set_cons_succ, List.set_cons_zero]
  refine wpAnyH_takeD (some 4) (i := 3) (v := (.pointer (some ⟨B, 52, none⟩))) rfl rfl (by kernel_rfl) (by kernel_rfl) (by kernel_rfl) (fun _ _ _ h => h) (Or.inl ⟨rfl, fun _ _ => by go_simp⟩) hb ?_
  simp only [Act.put, List.setIfInBounds_toArray, List.set_cons_succ, List.set_cons_zero]
  have hx2 : SAt (w1.setCell ⟨B, 52, none⟩ (.int .u32 0)) B { x with n := 0 } := hx.put1 52 _ _ (by kernel_rfl)
  have g2 := grown_setCell_new gq ⟨B, 52, none⟩ (.int .u32 0) (Or.inr rfl)
  have hb2 : BoxAt (w1.setCell ⟨B, 52, none⟩ (.int .u32 0)) b B := hb.grown (grown_setCell_new (grown_refl w1 (some B)) ⟨B, 52, none⟩ (.int .u32 0) (Or.inr rfl)) (by simp; omega)
  refine wpAnyH_skipD (i := 4) (by kernel_rfl) rfl rfl rfl (exec_store (.tmp 4) (.const (.int .u32 0)) _ _ rfl rfl rfl (hx.store32 52 0 (by decide))) hb2 ?_
  generalize w1.setCell ⟨B, 52, none⟩ (.int .u32 0) = w2 at *
  refine wpAnyH_takeD (some 5) (i := 5) (v := (.pointer (some ⟨B, 0, none⟩))) rfl rfl (by kernel_rfl) (by kernel_rfl) (by kernel_rfl) (fun _ _ _ h => h) (Or.inl ⟨rfl, fun _ _ => by go_simp⟩) hb2 ?_
  simp only [Act.put, List.setIfInBounds_toArray, List.set_cons_succ, List.set_cons_zero]
  refine wpAnyH_takeD (some 6) (i := 6) (v := (.pointer (some ⟨B, 53, none⟩))) rfl rfl (by kernel_rfl) (by kernel_rfl) (by kernel_rfl) (fun _ _ _ h => h) (Or.inl ⟨rfl, fun _ _ => by go_simp⟩) hb2 ?_
  simp only [Act.put, List.setIfInBounds_toArray, List.set_cons_succ, List.set_cons_zero]
  have hx3 : SAt (w2.setCell ⟨B, 53, none⟩ (.slice none 0 0)) B x.noCand := hx2.put1 53 _ _ (by kernel_rfl)
  have g3 := grown_setCell_new g2 ⟨B, 53, none⟩ (.slice none 0 0) (Or.inr rfl)
  have hb3 : BoxAt (w2.setCell ⟨B, 53, none⟩ (.slice none 0 0)) b B := hb2.grown (grown_setCell_new (grown_refl w2 (some B)) ⟨B, 53, none⟩ (.slice none 0 0) (Or.inr rfl)) (by simp; omega)
  refine wpAnyH_skipD (i := 7) (by kernel_rfl) rfl rfl rfl (exec_store (.tmp 6) (.const (.slice none 0 0)) _ _ rfl rfl rfl (hx2.storeS 53 none 0 0 (by decide))) hb3 ?_
  refine wpAnyH_done (by kernel_rfl) ?_ _
  go_end0
  exact ⟨rfl, hx3, g3⟩
end Go.Proofs.Ytpddgiflljlpbaa
