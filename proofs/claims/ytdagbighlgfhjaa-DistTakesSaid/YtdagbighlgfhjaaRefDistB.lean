/-
  The reference's DistBytes.
-/
import Derived.Test.YtdagbighlgfhjaaRefHdrB
namespace Go.Proofs.Ytdagbighlgfhjaa
open Go.RowKit

set_option maxRecDepth 100000
set_option maxHeartbeats 4000000

/-- A sender's key. -/
structure DV where
  id : Nat → Nat
  ep : Nat
  sd : Nat → Nat
  kid : Nat
  key : Nat → Nat
def DV.v (x : DV) (i : Nat) : Value := if i < 16 then .int .u8 (x.id i) else if i < 17 then .int .u64 x.ep else if i < 19 then .int .u8 (x.sd (i - 17)) else if i < 20 then .int .u64 x.kid else .int .u8 (x.key (i - 20))
theorem DV.v_id (x : DV) (j : Nat) (hj : j < 16) : x.v (0 + j) = .int .u8 (x.id j) := by
  unfold DV.v
  rw [Nat.zero_add, if_pos hj]
theorem DV.v_sd (x : DV) (j : Nat) (hj : j < 2) : x.v (17 + j) = .int .u8 (x.sd j) := by
  unfold DV.v
  rw [if_neg (by omega), if_neg (by omega), if_pos (by omega), Nat.add_sub_cancel_left]
theorem DV.v_key (x : DV) (j : Nat) (hj : j < 32) : x.v (20 + j) = .int .u8 (x.key j) := by
  unfold DV.v
  rw [if_neg (by omega), if_neg (by omega), if_neg (by omega), if_neg (by omega), Nat.add_sub_cancel_left]
/-- Its bytes. -/
def DV.bytes (x : DV) : Nat → Nat := cat 34 (cat 26 (cat 24 (cat 16 x.id (nbF x.ep 8)) x.sd) (nbF x.kid 8)) x.key
theorem load_u64Q {w : World} {B o v : Nat} (h : w.cell? ⟨B, o, none⟩ = some (.int .u64 v)) : (Instr.loadAt 24 (.pointer (some ⟨B, o, none⟩))).run Try.prog w = .ok (.int .u64 v) w := by go_simp
theorem idQ_enters : ∀ args w, (callFunc 59 args).run Try.prog w = .ok (.enter 59 args) w := enters_of Try.func59 (by kernel_rfl) rfl
theorem devQ_enters : ∀ args w, (callFunc 61 args).run Try.prog w = .ok (.enter 61 args) w := enters_of Try.func61 (by kernel_rfl) rfl
theorem mayQ_enters : ∀ args w, (callFunc 63 args).run Try.prog w = .ok (.enter 63 args) w := enters_of Try.func63 (by kernel_rfl) rfl
structure GaveB2 (w : World) (n : Nat) (f : Nat → Nat) (b : Bool) (e : Ending) (w' : World) : Prop where
  ex : ∃ a c, e = .returned (.tuple #[.slice a n c, .bool b]) ∧ OwnN w' w.heap.size (.slice a n c) n f
  gr : w.grownBy w' none
theorem refDistBytes_any (x : DV) (w : World) (hx : x.ep < 18446744073709551616 ∧ x.kid < 18446744073709551616) : Calls Try.prog 12 #[.agg (rowOf 52 x.v)] w (GaveB2 w 66 x.bytes (devMay x.sd)) := by
  have hX := RowAt.new w 30 52 x.v _ rfl
  have hg := World.grownBy_alloc w (.cells (rowOf 52 x.v) 30) none
  have hz := World.size_alloc w (.cells (rowOf 52 x.v) 30)
  have HB := Lib.hid hx
  clear hx
  go_enter Try.func12, Try.ntmps12
  go_upto_region 1 with fail
  obtain ⟨R, hRR⟩ : ∃ R, R = w.heap.size := ⟨_, rfl⟩
  generalize w.alloc (.cells (rowOf 52 x.v) 30) = w1 at *
  rw [← hRR] at hX hz ⊢
  have HG := Lib.hid hg
  have HZ := Lib.hid hz
  have HRR := Lib.hid hRR
  have HXX := Lib.hid hX
  clear hg hz hRR hX
  refine wp_region_held (S := fun W => w1.grownBy W none) (by kernel_rfl) ?_
  change wpAnyH _ _ _ _ _ 8 #[false, false, false, false, false, false, false, false] _ (World.drew _)
  have gq := grown_drew (grown_refl w1 none)
  generalize World.drew w1 = q1 at *
  refine wpAnyH_takeD (some 5) (i := 0) (v := (.pointer (some ⟨R, 0, none⟩))) rfl rfl (by kernel_rfl) (by kernel_rfl) (by kernel_rfl) (fun _ _ _ h => h) (Or.inl ⟨rfl, fun _ _ => by go_simp⟩) gq ?_
  simp only [Act.put, List.setIfInBounds_toArray, List.set_cons_succ, List.set_cons_zero]
  refine wpAnyH_takeD (some 6) (i := 1) (v := (.agg (cellsOf .u8 16 x.id))) rfl rfl (by kernel_rfl) (by kernel_rfl) (by kernel_rfl) (fun _ _ _ h => h) (Or.inl ⟨rfl, fun W hW => exec_loadQ (.tmp 5) _ _ rfl rfl ((HXX.out.grown hW (by simp)).load (P := Try.prog) 0 23 16 (fun j => .int .u8 (x.id j)) (by decide) (fun j hj => DV.v_id x j hj) (by kernel_rfl) (by kernel_rfl))⟩) gq ?_
  simp only [Act.put, List.setIfInBounds_toArray, List.set_cons_succ, List.set_cons_zero]
  refine wpAnyH_takeD (some 8) (i := 3) (v := (.pointer (some ⟨R, 16, none⟩))) rfl rfl (by kernel_rfl) (by kernel_rfl) (by kernel_rfl) (fun _ _ _ h => h) (Or.inl ⟨rfl, fun _ _ => by go_simp⟩) gq ?_
  simp only [Act.put, List.setIfInBounds_toArray, List.set_cons_succ, List.set_cons_zero]
  refine wpAnyH_takeD (some 9) (i := 4) (v := (.int .u64 x.ep)) rfl rfl (by kernel_rfl) (by kernel_rfl) (by kernel_rfl) (fun _ _ _ h => h) (Or.inl ⟨rfl, fun W hW => exec_loadQ (.tmp 8) _ _ rfl rfl (load_u64Q ((HXX.out.grown hW (by simp)).cell 16 (by decide)))⟩) gq ?_
  simp only [Act.put, List.setIfInBounds_toArray, List.set_cons_succ, List.set_cons_zero]
  refine wpAnyH_callD (some 7) (i := 2) 59 #[.agg (cellsOf .u8 16 x.id)] (R := fun v W => OwnN W w1.heap.size v 16 x.id ∧ q1.grownBy W none) (by kernel_rfl) rfl rfl rfl (exec_fn1 _ _ _ rfl rfl) idQ_enters ((sgId_any x.id q1).mono fun e W' h => by
    obtain ⟨v, rfl, hO, hg⟩ := h.ex
    exact ⟨v, rfl, hO.base gq.size, hg⟩) ?_
  rintro v w2 ⟨hO_w2, hg_w2⟩
  have hG_w2 := grown_trans gq hg_w2
  refine ⟨hG_w2, ?_⟩
  simp only [Act.put, List.setIfInBounds_toArray, List.set_cons_succ, List.set_cons_zero]
  obtain ⟨a2, c2, rfl, _, _⟩ := hO_w2.rd
  refine wpAnyH_callD (some 10) (i := 5) 60 #[.int .u64 x.ep, .int .i64 (8 : Nat)] (R := fun v W => ∃ b, v = .slice (some ⟨b, 0, none⟩) 8 8 ∧ Rd W W.heap.size (some ⟨b, 0, none⟩) 8 (nbF x.ep 8) ∧ w2.grownBy W none) (by kernel_rfl) rfl rfl rfl (exec_fn2 _ _ _ _ _ rfl rfl rfl) numberQ_enters ((sgNumber_any x.ep 8 HB.out.1 (by decide) (by decide) w2).mono fun e W' h => by
    obtain ⟨b, rfl, _, hF⟩ := h.ex
    exact ⟨_, rfl, b, rfl, (hF.own (by decide)).rd, h.gr⟩) ?_
  rintro v w3 ⟨b_w3, rfl, hR_w3, hg_w3⟩
  have hG_w3 := grown_trans hG_w2 hg_w3
  refine ⟨hG_w3, ?_⟩
  simp only [Act.put, List.setIfInBounds_toArray, List.set_cons_succ, List.set_cons_zero]
  obtain ⟨a_w4, c_w4, w4, hap, hO_w4, hG_w4, _⟩ := app_N1 8 39 hG_w3 (hO_w2.grown hg_w3) hR_w3 (by omega)
  refine wpAnyH_yieldD (some 11) (i := 6) (v := .slice a_w4 24 c_w4) (by kernel_rfl) rfl rfl rfl (exec_appendQ (.tmp 7) (.tmp 10) _ _ _ rfl rfl rfl rfl hap) hG_w4 ?_
  simp only [Act.put, List.setIfInBounds_toArray, List.set_cons_succ, List.set_cons_zero]
  clear hap
  refine wpAnyH_yieldD (some 4) (i := 7) (v := .slice a_w4 24 c_w4) (by kernel_rfl) rfl rfl rfl rfl hG_w4 ?_
  simp only [Act.put, List.setIfInBounds_toArray, List.set_cons_succ, List.set_cons_zero]
  refine wpAnyH_done (by kernel_rfl) ?_ _
  have HO_w4 := Lib.hid hO_w4
  have HG_w4 := Lib.hid hG_w4
  clear hO_w2 hg_w2 hG_w2 hR_w3 hg_w3 hG_w3 gq hO_w4 hG_w4
  go_upto_region 2 with fail
  refine wp_region_held (S := fun W => w1.grownBy W none) (by kernel_rfl) ?_
  change wpAnyH _ _ _ _ _ 10 #[false, false, false, false, false, false, false, false, false, false] _ (World.drew _)
  have gq := grown_drew HG_w4.out
  have hOq := HO_w4.out.grown (grown_drew (grown_refl w4 none))
  generalize World.drew w4 = q4 at *
  refine wpAnyH_takeD (some 12) (i := 0) (v := (.slice a_w4 24 c_w4)) rfl rfl (by kernel_rfl) (by kernel_rfl) (by kernel_rfl) (fun _ _ _ h => h) (Or.inl ⟨rfl, fun _ _ => rfl⟩) gq ?_
  simp only [Act.put, List.setIfInBounds_toArray, List.set_cons_succ, List.set_cons_zero]
  refine wpAnyH_takeD (some 13) (i := 1) (v := (.pointer (some ⟨R, 17, none⟩))) rfl rfl (by kernel_rfl) (by kernel_rfl) (by kernel_rfl) (fun _ _ _ h => h) (Or.inl ⟨rfl, fun _ _ => by go_simp⟩) gq ?_
  simp only [Act.put, List.setIfInBounds_toArray, List.set_cons_succ, List.set_cons_zero]
  refine wpAnyH_takeD (some 14) (i := 2) (v := (.agg (cellsOf .u8 2 x.sd))) rfl rfl (by kernel_rfl) (by kernel_rfl) (by kernel_rfl) (fun _ _ _ h => h) (Or.inl ⟨rfl, fun W hW => exec_loadQ (.tmp 13) _ _ rfl rfl ((HXX.out.grown hW (by simp)).load (P := Try.prog) 17 26 2 (fun j => .int .u8 (x.sd j)) (by decide) (fun j hj => DV.v_sd x j hj) (by kernel_rfl) (by kernel_rfl))⟩) gq ?_
  simp only [Act.put, List.setIfInBounds_toArray, List.set_cons_succ, List.set_cons_zero]
  refine wpAnyH_takeD (some 17) (i := 5) (v := (.pointer (some ⟨R, 19, none⟩))) rfl rfl (by kernel_rfl) (by kernel_rfl) (by kernel_rfl) (fun _ _ _ h => h) (Or.inl ⟨rfl, fun _ _ => by go_simp⟩) gq ?_
  simp only [Act.put, List.setIfInBounds_toArray, List.set_cons_succ, List.set_cons_zero]
  refine wpAnyH_takeD (some 18) (i := 6) (v := (.int .u64 x.kid)) rfl rfl (by kernel_rfl) (by kernel_rfl) (by kernel_rfl) (fun _ _ _ h => h) (Or.inl ⟨rfl, fun W hW => exec_loadQ (.tmp 17) _ _ rfl rfl (load_u64Q ((HXX.out.grown hW (by simp)).cell 19 (by decide)))⟩) gq ?_
  simp only [Act.put, List.setIfInBounds_toArray, List.set_cons_succ, List.set_cons_zero]
  refine wpAnyH_callD (some 15) (i := 3) 61 #[.agg (cellsOf .u8 2 x.sd)] (R := fun v W => OwnN W w1.heap.size v 2 x.sd ∧ q4.grownBy W none) (by kernel_rfl) rfl rfl rfl (exec_fn1 _ _ _ rfl rfl) devQ_enters ((refdev_any x.sd q4).mono fun e W' h => by
    obtain ⟨v, rfl, hO, hg⟩ := h.ex
    exact ⟨v, rfl, hO.base gq.size, hg⟩) ?_
  rintro v w5 ⟨hO_w5, hg_w5⟩
  have hG_w5 := grown_trans gq hg_w5
  refine ⟨hG_w5, ?_⟩
  simp only [Act.put, List.setIfInBounds_toArray, List.set_cons_succ, List.set_cons_zero]
  obtain ⟨a5, c5, rfl, _, hR5⟩ := hO_w5.rd
  obtain ⟨a_w6, c_w6, w6, hap, hO_w6, hG_w6, _⟩ := app_N1 c5 39 hG_w5 (hOq.grown hg_w5) hR5 (by omega)
  refine wpAnyH_yieldD (some 16) (i := 4) (v := .slice a_w6 26 c_w6) (by kernel_rfl) rfl rfl rfl (exec_appendQ (.tmp 12) (.tmp 15) _ _ _ rfl rfl rfl rfl hap) hG_w6 ?_
  simp only [Act.put, List.setIfInBounds_toArray, List.set_cons_succ, List.set_cons_zero]
  clear hap
  refine wpAnyH_callD (some 19) (i := 7) 60 #[.int .u64 x.kid, .int .i64 (8 : Nat)] (R := fun v W => ∃ b, v = .slice (some ⟨b, 0, none⟩) 8 8 ∧ Rd W W.heap.size (some ⟨b, 0, none⟩) 8 (nbF x.kid 8) ∧ w6.grownBy W none) (by kernel_rfl) rfl rfl rfl (exec_fn2 _ _ _ _ _ rfl rfl rfl) numberQ_enters ((sgNumber_any x.kid 8 HB.out.2 (by decide) (by decide) w6).mono fun e W' h => by
    obtain ⟨b, rfl, _, hF⟩ := h.ex
    exact ⟨_, rfl, b, rfl, (hF.own (by decide)).rd, h.gr⟩) ?_
  rintro v w7 ⟨b_w7, rfl, hR_w7, hg_w7⟩
  have hG_w7 := grown_trans hG_w6 hg_w7
  refine ⟨hG_w7, ?_⟩
  simp only [Act.put, List.setIfInBounds_toArray, List.set_cons_succ, List.set_cons_zero]
  obtain ⟨a_w8, c_w8, w8, hap, hO_w8, hG_w8, _⟩ := app_N1 8 39 hG_w7 (hO_w6.grown hg_w7) hR_w7 (by omega)
  refine wpAnyH_yieldD (some 20) (i := 8) (v := .slice a_w8 34 c_w8) (by kernel_rfl) rfl rfl rfl (exec_appendQ (.tmp 16) (.tmp 19) _ _ _ rfl rfl rfl rfl hap) hG_w8 ?_
  simp only [Act.put, List.setIfInBounds_toArray, List.set_cons_succ, List.set_cons_zero]
  clear hap
  refine wpAnyH_yieldD (some 4) (i := 9) (v := .slice a_w8 34 c_w8) (by kernel_rfl) rfl rfl rfl rfl hG_w8 ?_
  simp only [Act.put, List.setIfInBounds_toArray, List.set_cons_succ, List.set_cons_zero]
  refine wpAnyH_done (by kernel_rfl) ?_ _
  have HO_w8 := Lib.hid hO_w8
  have HG_w8 := Lib.hid hG_w8
  clear hO_w5 hg_w5 hG_w5 hR5 hO_w6 hG_w6 hR_w7 hg_w7 hG_w7 gq hOq hO_w8 hG_w8
  go_upto_region 3 with fail
  refine wp_region_held (S := fun W => w1.grownBy W none) (by kernel_rfl) ?_
  change wpAnyH _ _ _ _ _ 10 #[false, false, false, false, false, false, false, false, false, false] _ (World.drew _)
  have gq := grown_drew HG_w8.out
  have hOq := HO_w8.out.grown (grown_drew (grown_refl w8 none))
  generalize World.drew w8 = q8 at *
  refine wpAnyH_takeD (some 21) (i := 0) (v := (.slice a_w8 34 c_w8)) rfl rfl (by kernel_rfl) (by kernel_rfl) (by kernel_rfl) (fun _ _ _ h => h) (Or.inl ⟨rfl, fun _ _ => rfl⟩) gq ?_
  simp only [Act.put, List.setIfInBounds_toArray, List.set_cons_succ, List.set_cons_zero]
  refine wpAnyH_takeD (some 22) (i := 1) (v := (.pointer (some ⟨R, 20, none⟩))) rfl rfl (by kernel_rfl) (by kernel_rfl) (by kernel_rfl) (fun _ _ _ h => h) (Or.inl ⟨rfl, fun _ _ => by go_simp⟩) gq ?_
  simp only [Act.put, List.setIfInBounds_toArray, List.set_cons_succ, List.set_cons_zero]
  refine wpAnyH_takeD (some 23) (i := 2) (v := (.agg (cellsOf .u8 32 x.key))) rfl rfl (by kernel_rfl) (by kernel_rfl) (by kernel_rfl) (fun _ _ _ h => h) (Or.inl ⟨rfl, fun W hW => exec_loadQ (.tmp 22) _ _ rfl rfl ((HXX.out.grown hW (by simp)).load (P := Try.prog) 20 28 32 (fun j => .int .u8 (x.key j)) (by decide) (fun j hj => DV.v_key x j hj) (by kernel_rfl) (by kernel_rfl))⟩) gq ?_
  simp only [Act.put, List.setIfInBounds_toArray, List.set_cons_succ, List.set_cons_zero]
  refine wpAnyH_takeD (some 26) (i := 5) (v := (.pointer (some ⟨R, 17, none⟩))) rfl rfl (by kernel_rfl) (by kernel_rfl) (by kernel_rfl) (fun _ _ _ h => h) (Or.inl ⟨rfl, fun _ _ => by go_simp⟩) gq ?_
  simp only [Act.put, List.setIfInBounds_toArray, List.set_cons_succ, List.set_cons_zero]
  refine wpAnyH_takeD (some 27) (i := 6) (v := (.agg (cellsOf .u8 2 x.sd))) rfl rfl (by kernel_rfl) (by kernel_rfl) (by kernel_rfl) (fun _ _ _ h => h) (Or.inl ⟨rfl, fun W hW => exec_loadQ (.tmp 26) _ _ rfl rfl ((HXX.out.grown hW (by simp)).load (P := Try.prog) 17 26 2 (fun j => .int .u8 (x.sd j)) (by decide) (fun j hj => DV.v_sd x j hj) (by kernel_rfl) (by kernel_rfl))⟩) gq ?_
  simp only [Act.put, List.setIfInBounds_toArray, List.set_cons_succ, List.set_cons_zero]
  refine wpAnyH_callD (some 24) (i := 3) 62 #[.agg (cellsOf .u8 32 x.key)] (R := fun v W => OwnN W w1.heap.size v 32 x.key ∧ q8.grownBy W none) (by kernel_rfl) rfl rfl rfl (exec_fn1 _ _ _ rfl rfl) keyQ_enters ((sgKey_any x.key q8).mono fun e W' h => by
    obtain ⟨v, rfl, hO, hg⟩ := h.ex
    exact ⟨v, rfl, hO.base gq.size, hg⟩) ?_
  rintro v w9 ⟨hO_w9, hg_w9⟩
  have hG_w9 := grown_trans gq hg_w9
  refine ⟨hG_w9, ?_⟩
  simp only [Act.put, List.setIfInBounds_toArray, List.set_cons_succ, List.set_cons_zero]
  obtain ⟨a9, c9, rfl, _, hR9⟩ := hO_w9.rd
  obtain ⟨a_wA, c_wA, wA, hap, hO_wA, hG_wA, _⟩ := app_N1 c9 39 hG_w9 (hOq.grown hg_w9) hR9 (by omega)
  refine wpAnyH_yieldD (some 25) (i := 4) (v := .slice a_wA 66 c_wA) (by kernel_rfl) rfl rfl rfl (exec_appendQ (.tmp 21) (.tmp 24) _ _ _ rfl rfl rfl rfl hap) hG_wA ?_
  simp only [Act.put, List.setIfInBounds_toArray, List.set_cons_succ, List.set_cons_zero]
  clear hap
  refine wpAnyH_callD (some 28) (i := 7) 63 #[.agg (cellsOf .u8 2 x.sd)] (R := fun v W => v = .bool (devMay x.sd) ∧ wA.grownBy W none) (by kernel_rfl) rfl rfl rfl (exec_fn1 _ _ _ rfl rfl) mayQ_enters ((refDev_any x.sd wA).mono fun e W' h => ⟨_, h.1, rfl, h.2⟩) ?_
  rintro v wB ⟨rfl, hgB⟩
  have hG_wB := grown_trans hG_wA hgB
  refine ⟨hG_wB, ?_⟩
  simp only [Act.put, List.setIfInBounds_toArray, List.set_cons_succ, List.set_cons_zero]
  refine wpAnyH_yieldD (some 2) (i := 8) (v := .slice a_wA 66 c_wA) (by kernel_rfl) rfl rfl rfl rfl hG_wB ?_
  simp only [Act.put, List.setIfInBounds_toArray, List.set_cons_succ, List.set_cons_zero]
  refine wpAnyH_yieldD (some 3) (i := 9) (v := .bool (devMay x.sd)) (by kernel_rfl) rfl rfl rfl rfl hG_wB ?_
  simp only [Act.put, List.setIfInBounds_toArray, List.set_cons_succ, List.set_cons_zero]
  refine wpAnyH_done (by kernel_rfl) ?_ _
  have HOB := Lib.hid (hO_wA.grown hgB)
  have HGB := Lib.hid hG_wB
  clear hO_w9 hg_w9 hG_w9 hR9 hO_wA hG_wA hgB hG_wB gq hOq
  go_wp2_with fail
  go_ret2
  exact ⟨⟨a_wA, c_wA, rfl, HOB.out.base (by have := HRR.out; have := HZ.out; omega)⟩, grown_trans HG.out HGB.out⟩
end Go.Proofs.Ytdagbighlgfhjaa
