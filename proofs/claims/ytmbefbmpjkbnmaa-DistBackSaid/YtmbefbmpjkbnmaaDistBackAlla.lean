/-
  dist: the codec of Envelope: made; May; Put.
-/
import Derived.Test.YtmbefbmpjkbnmaaRefHdrB
import Derived.Test.YtmbefbmpjkbnmaaOutKit
import Derived.Test.YtmbefbmpjkbnmaaOutRd
import Derived.Test.YtmbefbmpjkbnmaaInLeaf
import Derived.Test.YtmbefbmpjkbnmaaInNum
import Derived.Test.YtmbefbmpjkbnmaaInU8
import Derived.Test.YtmbefbmpjkbnmaaRefCurN
import Derived.Test.YtmbefbmpjkbnmaaRefHdr
import Derived.Test.YtmbefbmpjkbnmaaRowRun
import Derived.Test.YtmbefbmpjkbnmaaExecQ
import Derived.Test.YtmbefbmpjkbnmaaRefCurD
namespace Go.Proofs.Ytmbefbmpjkbnmaa
open Go.RowKit

set_option maxRecDepth 100000
set_option maxHeartbeats 4000000

/-- A sender's key. -/
structure DV where
  id : Nat → Nat
  ep : Nat
  sd : Nat → Nat
  kid : Nat
  key : Nat → Nat
def DV.v (x : DV) (i : Nat) : Value := if i < 16 then .int .u8 (x.id i) else if i < 17 then .int .u64 x.ep else if i < 19 then .int .u8 (x.sd (i - 17)) else if i < 20 then .int .u64 x.kid else .int .u8 (x.key (i - 20))
theorem DV.v_id (x : DV) (j : Nat) (hj : j < 16) : x.v (0 + j) = .int .u8 (x.id j) := by
  unfold DV.v
  rw [Nat.zero_add, if_pos hj]
theorem DV.v_sd (x : DV) (j : Nat) (hj : j < 2) : x.v (17 + j) = .int .u8 (x.sd j) := by
  unfold DV.v
  rw [if_neg (by omega), if_neg (by omega), if_pos (by omega), Nat.add_sub_cancel_left]
theorem DV.v_key (x : DV) (j : Nat) (hj : j < 32) : x.v (20 + j) = .int .u8 (x.key j) := by
  unfold DV.v
  rw [if_neg (by omega), if_neg (by omega), if_neg (by omega), if_neg (by omega), Nat.add_sub_cancel_left]
/-- Its bytes. -/
def DV.bytes (x : DV) : Nat → Nat := cat 34 (cat 26 (cat 24 (cat 16 x.id (nbF x.ep 8)) x.sd) (nbF x.kid 8)) x.key
theorem load_u64Q {w : World} {B o v : Nat} (h : w.cell? ⟨B, o, none⟩ = some (.int .u64 v)) : (Instr.loadAt 24 (.pointer (some ⟨B, o, none⟩))).run Try.prog w = .ok (.int .u64 v) w := by go_simp
theorem idQ_enters : ∀ args w, (callFunc 54 args).run Try.prog w = .ok (.enter 54 args) w := enters_of Try.func54 (by kernel_rfl) rfl
theorem devQ_enters : ∀ args w, (callFunc 56 args).run Try.prog w = .ok (.enter 56 args) w := enters_of Try.func56 (by kernel_rfl) rfl
theorem mayQ_enters : ∀ args w, (callFunc 58 args).run Try.prog w = .ok (.enter 58 args) w := enters_of Try.func58 (by kernel_rfl) rfl
structure GaveB2 (w : World) (n : Nat) (f : Nat → Nat) (b : Bool) (e : Ending) (w' : World) : Prop where
  ex : ∃ a c, e = .returned (.tuple #[.slice a n c, .bool b]) ∧ OwnN w' w.heap.size (.slice a n c) n f
  gr : w.grownBy w' none
theorem refDistBytes_any (x : DV) (w : World) (hx : x.ep < 18446744073709551616 ∧ x.kid < 18446744073709551616) : Calls Try.prog 10 #[.agg (rowOf 52 x.v)] w (GaveB2 w 66 x.bytes (devMay x.sd)) := by
  have hX := RowAt.new w 30 52 x.v _ rfl
  have hg := World.grownBy_alloc w (.cells (rowOf 52 x.v) 30) none
  have hz := World.size_alloc w (.cells (rowOf 52 x.v) 30)
  have HB := Lib.hid hx
  clear hx
  go_enter Try.func10, Try.ntmps10
  go_upto_region 1 with fail
  obtain ⟨R, hRR⟩ : ∃ R, R = w.heap.size := ⟨_, rfl⟩
  generalize w.alloc (.cells (rowOf 52 x.v) 30) = w1 at *
  rw [← hRR] at hX hz ⊢
  have HG := Lib.hid hg
  have HZ := Lib.hid hz
  have HRR := Lib.hid hRR
  have HXX := Lib.hid hX
  clear hg hz hRR hX
  refine wp_region_held (S := fun W => w1.grownBy W none) (by kernel_rfl) ?_
  change wpAnyH _ _ _ _ _ 8 #[false, false, false, false, false, false, false, false] _ (World.drew _)
  have gq := grown_drew (grown_refl w1 none)
  generalize World.drew w1 = q1 at *
  refine wpAnyH_takeD (some 5) (i := 0) (v := (.pointer (some ⟨R, 0, none⟩))) rfl rfl (by kernel_rfl) (by kernel_rfl) (by kernel_rfl) (fun _ _ _ h => h) (Or.inl ⟨rfl, fun _ _ => by go_simp⟩) gq ?_
  simp only [Act.put, List.setIfInBounds_toArray, List.set_cons_succ, List.set_cons_zero]
  refine wpAnyH_takeD (some 6) (i := 1) (v := (.agg (cellsOf .u8 16 x.id))) rfl rfl (by kernel_rfl) (by kernel_rfl) (by kernel_rfl) (fun _ _ _ h => h) (Or.inl ⟨rfl, fun W hW => exec_loadQ (.tmp 5) _ _ rfl rfl ((HXX.out.grown hW (by simp)).load (P := Try.prog) 0 23 16 (fun j => .int .u8 (x.id j)) (by decide) (fun j hj => DV.v_id x j hj) (by kernel_rfl) (by kernel_rfl))⟩) gq ?_
  simp only [Act.put, List.setIfInBounds_toArray, List.set_cons_succ, List.set_cons_zero]
  refine wpAnyH_takeD (some 8) (i := 3) (v := (.pointer (some ⟨R, 16, none⟩))) rfl rfl (by kernel_rfl) (by kernel_rfl) (by kernel_rfl) (fun _ _ _ h => h) (Or.inl ⟨rfl, fun _ _ => by go_simp⟩) gq ?_
  simp only [Act.put, List.setIfInBounds_toArray, List.set_cons_succ, List.set_cons_zero]
  refine wpAnyH_takeD (some 9) (i := 4) (v := (.int .u64 x.ep)) rfl rfl (by kernel_rfl) (by kernel_rfl) (by kernel_rfl) (fun _ _ _ h => h) (Or.inl ⟨rfl, fun W hW => exec_loadQ (.tmp 8) _ _ rfl rfl (load_u64Q ((HXX.out.grown hW (by simp)).cell 16 (by decide)))⟩) gq ?_
  simp only [Act.put, List.setIfInBounds_toArray, List.set_cons_succ, List.set_cons_zero]
  refine wpAnyH_callD (some 7) (i := 2) 54 #[.agg (cellsOf .u8 16 x.id)] (R := fun v W => OwnN W w1.heap.size v 16 x.id ∧ q1.grownBy W none) (by kernel_rfl) rfl rfl rfl (exec_fn1 _ _ _ rfl rfl) idQ_enters ((sgId_any x.id q1).mono fun e W' h => by
    obtain ⟨v, rfl, hO, hg⟩ := h.ex
    exact ⟨v, rfl, hO.base gq.size, hg⟩) ?_
  rintro v w2 ⟨hO_w2, hg_w2⟩
  have hG_w2 := grown_trans gq hg_w2
  refine ⟨hG_w2, ?_⟩
  simp only [Act.put, List.setIfInBounds_toArray, List.set_cons_succ, List.set_cons_zero]
  obtain ⟨a2, c2, rfl, _, _⟩ := hO_w2.rd
  refine wpAnyH_callD (some 10) (i := 5) 55 #[.int .u64 x.ep, .int .i64 (8 : Nat)] (R := fun v W => ∃ b, v = .slice (some ⟨b, 0, none⟩) 8 8 ∧ Rd W W.heap.size (some ⟨b, 0, none⟩) 8 (nbF x.ep 8) ∧ w2.grownBy W none) (by kernel_rfl) rfl rfl rfl (exec_fn2 _ _ _ _ _ rfl rfl rfl) numberQ_enters ((sgNumber_any x.ep 8 HB.out.1 (by decide) (by decide) w2).mono fun e W' h => by
    obtain ⟨b, rfl, _, hF⟩ := h.ex
    exact ⟨_, rfl, b, rfl, (hF.own (by decide)).rd, h.gr⟩) ?_
  rintro v w3 ⟨b_w3, rfl, hR_w3, hg_w3⟩
  have hG_w3 := grown_trans hG_w2 hg_w3
  refine ⟨hG_w3, ?_⟩
  simp only [Act.put, List.setIfInBounds_toArray, List.set_cons_succ, List.set_cons_zero]
  obtain ⟨a_w4, c_w4, w4, hap, hO_w4, hG_w4, _⟩ := app_N1 8 39 hG_w3 (hO_w2.grown hg_w3) hR_w3 (by omega)
  refine wpAnyH_yieldD (some 11) (i := 6) (v := .slice a_w4 24 c_w4) (by kernel_rfl) rfl rfl rfl (exec_appendQ (.tmp 7) (.tmp 10) _ _ _ rfl rfl rfl rfl hap) hG_w4 ?_
  simp only [Act.put, List.setIfInBounds_toArray, List.set_cons_succ, List.set_cons_zero]
  clear hap
  refine wpAnyH_yieldD (some 4) (i := 7) (v := .slice a_w4 24 c_w4) (by kernel_rfl) rfl rfl rfl rfl hG_w4 ?_
  simp only [Act.put, List.setIfInBounds_toArray, List.set_cons_succ, List.set_cons_zero]
  refine wpAnyH_done (by kernel_rfl) ?_ _
  have HO_w4 := Lib.hid hO_w4
  have HG_w4 := Lib.hid hG_w4
  clear hO_w2 hg_w2 hG_w2 hR_w3 hg_w3 hG_w3 gq hO_w4 hG_w4
  go_upto_region 2 with fail
  refine wp_region_held (S := fun W => w1.grownBy W none) (by kernel_rfl) ?_
  change wpAnyH _ _ _ _ _ 10 #[false, false, false, false, false, false, false, false, false, false] _ (World.drew _)
  have gq := grown_drew HG_w4.out
  have hOq := HO_w4.out.grown (grown_drew (grown_refl w4 none))
  generalize World.drew w4 = q4 at *
  refine wpAnyH_takeD (some 12) (i := 0) (v := (.slice a_w4 24 c_w4)) rfl rfl (by kernel_rfl) (by kernel_rfl) (by kernel_rfl) (fun _ _ _ h => h) (Or.inl ⟨rfl, fun _ _ => rfl⟩) gq ?_
  simp only [Act.put, List.setIfInBounds_toArray, List.set_cons_succ, List.set_cons_zero]
  refine wpAnyH_takeD (some 13) (i := 1) (v := (.pointer (some ⟨R, 17, none⟩))) rfl rfl (by kernel_rfl) (by kernel_rfl) (by kernel_rfl) (fun _ _ _ h => h) (Or.inl ⟨rfl, fun _ _ => by go_simp⟩) gq ?_
  simp only [Act.put, List.setIfInBounds_toArray, List.set_cons_succ, List.set_cons_zero]
  refine wpAnyH_takeD (some 14) (i := 2) (v := (.agg (cellsOf .u8 2 x.sd))) rfl rfl (by kernel_rfl) (by kernel_rfl) (by kernel_rfl) (fun _ _ _ h => h) (Or.inl ⟨rfl, fun W hW => exec_loadQ (.tmp 13) _ _ rfl rfl ((HXX.out.grown hW (by simp)).load (P := Try.prog) 17 26 2 (fun j => .int .u8 (x.sd j)) (by decide) (fun j hj => DV.v_sd x j hj) (by kernel_rfl) (by kernel_rfl))⟩) gq ?_
  simp only [Act.put, List.setIfInBounds_toArray, List.set_cons_succ, List.set_cons_zero]
  refine wpAnyH_takeD (some 17) (i := 5) (v := (.pointer (some ⟨R, 19, none⟩))) rfl rfl (by kernel_rfl) (by kernel_rfl) (by kernel_rfl) (fun _ _ _ h => h) (Or.inl ⟨rfl, fun _ _ => by go_simp⟩) gq ?_
  simp only [Act.put, List.setIfInBounds_toArray, List.set_cons_succ, List.set_cons_zero]
  refine wpAnyH_takeD (some 18) (i := 6) (v := (.int .u64 x.kid)) rfl rfl (by kernel_rfl) (by kernel_rfl) (by kernel_rfl) (fun _ _ _ h => h) (Or.inl ⟨rfl, fun W hW => exec_loadQ (.tmp 17) _ _ rfl rfl (load_u64Q ((HXX.out.grown hW (by simp)).cell 19 (by decide)))⟩) gq ?_
  simp only [Act.put, List.setIfInBounds_toArray, List.set_cons_succ, List.set_cons_zero]
  refine wpAnyH_callD (some 15) (i := 3) 56 #[.agg (cellsOf .u8 2 x.sd)] (R := fun v W => OwnN W w1.heap.size v 2 x.sd ∧ q4.grownBy W none) (by kernel_rfl) rfl rfl rfl (exec_fn1 _ _ _ rfl rfl) devQ_enters ((refdev_any x.sd q4).mono fun e W' h => by
    obtain ⟨v, rfl, hO, hg⟩ := h.ex
    exact ⟨v, rfl, hO.base gq.size, hg⟩) ?_
  rintro v w5 ⟨hO_w5, hg_w5⟩
  have hG_w5 := grown_trans gq hg_w5
  refine ⟨hG_w5, ?_⟩
  simp only [Act.put, List.setIfInBounds_toArray, List.set_cons_succ, List.set_cons_zero]
  obtain ⟨a5, c5, rfl, _, hR5⟩ := hO_w5.rd
  obtain ⟨a_w6, c_w6, w6, hap, hO_w6, hG_w6, _⟩ := app_N1 c5 39 hG_w5 (hOq.grown hg_w5) hR5 (by omega)
  refine wpAnyH_yieldD (some 16) (i := 4) (v := .slice a_w6 26 c_w6) (by kernel_rfl) rfl rfl rfl (exec_appendQ (.tmp 12) (.tmp 15) _ _ _ rfl rfl rfl rfl hap) hG_w6 ?_
  simp only [Act.put, List.setIfInBounds_toArray, List.set_cons_succ, List.set_cons_zero]
  clear hap
  refine wpAnyH_callD (some 19) (i := 7) 55 #[.int .u64 x.kid, .int .i64 (8 : Nat)] (R := fun v W => ∃ b, v = .slice (some ⟨b, 0, none⟩) 8 8 ∧ Rd W W.heap.size (some ⟨b, 0, none⟩) 8 (nbF x.kid 8) ∧ w6.grownBy W none) (by kernel_rfl) rfl rfl rfl (exec_fn2 _ _ _ _ _ rfl rfl rfl) numberQ_enters ((sgNumber_any x.kid 8 HB.out.2 (by decide) (by decide) w6).mono fun e W' h => by
    obtain ⟨b, rfl, _, hF⟩ := h.ex
    exact ⟨_, rfl, b, rfl, (hF.own (by decide)).rd, h.gr⟩) ?_
  rintro v w7 ⟨b_w7, rfl, hR_w7, hg_w7⟩
  have hG_w7 := grown_trans hG_w6 hg_w7
  refine ⟨hG_w7, ?_⟩
  simp only [Act.put, List.setIfInBounds_toArray, List.set_cons_succ, List.set_cons_zero]
  obtain ⟨a_w8, c_w8, w8, hap, hO_w8, hG_w8, _⟩ := app_N1 8 39 hG_w7 (hO_w6.grown hg_w7) hR_w7 (by omega)
  refine wpAnyH_yieldD (some 20) (i := 8) (v := .slice a_w8 34 c_w8) (by kernel_rfl) rfl rfl rfl (exec_appendQ (.tmp 16) (.tmp 19) _ _ _ rfl rfl rfl rfl hap) hG_w8 ?_
  simp only [Act.put, List.setIfInBounds_toArray, List.set_cons_succ, List.set_cons_zero]
  clear hap
  refine wpAnyH_yieldD (some 4) (i := 9) (v := .slice a_w8 34 c_w8) (by kernel_rfl) rfl rfl rfl rfl hG_w8 ?_
  simp only [Act.put, List.setIfInBounds_toArray, List.set_cons_succ, List.set_cons_zero]
  refine wpAnyH_done (by kernel_rfl) ?_ _
  have HO_w8 := Lib.hid hO_w8
  have HG_w8 := Lib.hid hG_w8
  clear hO_w5 hg_w5 hG_w5 hR5 hO_w6 hG_w6 hR_w7 hg_w7 hG_w7 gq hOq hO_w8 hG_w8
  go_upto_region 3 with fail
  refine wp_region_held (S := fun W => w1.grownBy W none) (by kernel_rfl) ?_
  change wpAnyH _ _ _ _ _ 10 #[false, false, false, false, false, false, false, false, false, false] _ (World.drew _)
  have gq := grown_drew HG_w8.out
  have hOq := HO_w8.out.grown (grown_drew (grown_refl w8 none))
  generalize World.drew w8 = q8 at *
  refine wpAnyH_takeD (some 21) (i := 0) (v := (.slice a_w8 34 c_w8)) rfl rfl (by kernel_rfl) (by kernel_rfl) (by kernel_rfl) (fun _ _ _ h => h) (Or.inl ⟨rfl, fun _ _ => rfl⟩) gq ?_
  simp only [Act.put, List.setIfInBounds_toArray, List.set_cons_succ, List.set_cons_zero]
  refine wpAnyH_takeD (some 22) (i := 1) (v := (.pointer (some ⟨R, 20, none⟩))) rfl rfl (by kernel_rfl) (by kernel_rfl) (by kernel_rfl) (fun _ _ _ h => h) (Or.inl ⟨rfl, fun _ _ => by go_simp⟩) gq ?_
  simp only [Act.put, List.setIfInBounds_toArray, List.set_cons_succ, List.set_cons_zero]
  refine wpAnyH_takeD (some 23) (i := 2) (v := (.agg (cellsOf .u8 32 x.key))) rfl rfl (by kernel_rfl) (by kernel_rfl) (by kernel_rfl) (fun _ _ _ h => h) (Or.inl ⟨rfl, fun W hW => exec_loadQ (.tmp 22) _ _ rfl rfl ((HXX.out.grown hW (by simp)).load (P := Try.prog) 20 28 32 (fun j => .int .u8 (x.key j)) (by decide) (fun j hj => DV.v_key x j hj) (by kernel_rfl) (by kernel_rfl))⟩) gq ?_
  simp only [Act.put, List.setIfInBounds_toArray, List.set_cons_succ, List.set_cons_zero]
  refine wpAnyH_takeD (some 26) (i := 5) (v := (.pointer (some ⟨R, 17, none⟩))) rfl rfl (by kernel_rfl) (by kernel_rfl) (by kernel_rfl) (fun _ _ _ h => h) (Or.inl ⟨rfl, fun _ _ => by go_simp⟩) gq ?_
  simp only [Act.put, List.setIfInBounds_toArray, List.set_cons_succ, List.set_cons_zero]
  refine wpAnyH_takeD (some 27) (i := 6) (v := (.agg (cellsOf .u8 2 x.sd))) rfl rfl (by kernel_rfl) (by kernel_rfl) (by kernel_rfl) (fun _ _ _ h => h) (Or.inl ⟨rfl, fun W hW => exec_loadQ (.tmp 26) _ _ rfl rfl ((HXX.out.grown hW (by simp)).load (P := Try.prog) 17 26 2 (fun j => .int .u8 (x.sd j)) (by decide) (fun j hj => DV.v_sd x j hj) (by kernel_rfl) (by kernel_rfl))⟩) gq ?_
  simp only [Act.put, List.setIfInBounds_toArray, List.set_cons_succ, List.set_cons_zero]
  refine wpAnyH_callD (some 24) (i := 3) 57 #[.agg (cellsOf .u8 32 x.key)] (R := fun v W => OwnN W w1.heap.size v 32 x.key ∧ q8.grownBy W none) (by kernel_rfl) rfl rfl rfl (exec_fn1 _ _ _ rfl rfl) keyQ_enters ((sgKey_any x.key q8).mono fun e W' h => by
    obtain ⟨v, rfl, hO, hg⟩ := h.ex
    exact ⟨v, rfl, hO.base gq.size, hg⟩) ?_
  rintro v w9 ⟨hO_w9, hg_w9⟩
  have hG_w9 := grown_trans gq hg_w9
  refine ⟨hG_w9, ?_⟩
  simp only [Act.put, List.setIfInBounds_toArray, List.set_cons_succ, List.set_cons_zero]
  obtain ⟨a9, c9, rfl, _, hR9⟩ := hO_w9.rd
  obtain ⟨a_wA, c_wA, wA, hap, hO_wA, hG_wA, _⟩ := app_N1 c9 39 hG_w9 (hOq.grown hg_w9) hR9 (by omega)
  refine wpAnyH_yieldD (some 25) (i := 4) (v := .slice a_wA 66 c_wA) (by kernel_rfl) rfl rfl rfl (exec_appendQ (.tmp 21) (.tmp 24) _ _ _ rfl rfl rfl rfl hap) hG_wA ?_
  simp only [Act.put, List.setIfInBounds_toArray, List.set_cons_succ, List.set_cons_zero]
  clear hap
  refine wpAnyH_callD (some 28) (i := 7) 58 #[.agg (cellsOf .u8 2 x.sd)] (R := fun v W => v = .bool (devMay x.sd) ∧ wA.grownBy W none) (by kernel_rfl) rfl rfl rfl (exec_fn1 _ _ _ rfl rfl) mayQ_enters ((refDev_any x.sd wA).mono fun e W' h => ⟨_, h.1, rfl, h.2⟩) ?_
  rintro v wB ⟨rfl, hgB⟩
  have hG_wB := grown_trans hG_wA hgB
  refine ⟨hG_wB, ?_⟩
  simp only [Act.put, List.setIfInBounds_toArray, List.set_cons_succ, List.set_cons_zero]
  refine wpAnyH_yieldD (some 2) (i := 8) (v := .slice a_wA 66 c_wA) (by kernel_rfl) rfl rfl rfl rfl hG_wB ?_
  simp only [Act.put, List.setIfInBounds_toArray, List.set_cons_succ, List.set_cons_zero]
  refine wpAnyH_yieldD (some 3) (i := 9) (v := .bool (devMay x.sd)) (by kernel_rfl) rfl rfl rfl rfl hG_wB ?_
  simp only [Act.put, List.setIfInBounds_toArray, List.set_cons_succ, List.set_cons_zero]
  refine wpAnyH_done (by kernel_rfl) ?_ _
  have HOB := Lib.hid (hO_wA.grown hgB)
  have HGB := Lib.hid hG_wB
  clear hO_w9 hg_w9 hG_w9 hR9 hO_wA hG_wA hgB hG_wB gq hOq
  go_wp2_with fail
  go_ret2
  exact ⟨⟨a_wA, c_wA, rfl, HOB.out.base (by have := HRR.out; have := HZ.out; omega)⟩, grown_trans HG.out HGB.out⟩
end Go.Proofs.Ytmbefbmpjkbnmaa
namespace Go.Proofs.Ytmbefbmpjkbnmaa
open Go.RowKit

set_option maxRecDepth 100000
set_option maxHeartbeats 4000000

theorem outU8_any {w0 w : World} {p : Option Addr} {s : OSt} (D m c : Nat) (a : Option Addr) (f : Nat → Nat) (h : OAt w0 w p s) (hR : Rd w D a m f) (hm : s.len + m ≤ 2 ^ 46) : Calls Try.prog 125 #[.pointer p, .slice a m c] w (OSays w0 p (s.put m f)) := by
  have HP := Lib.hid (outPut_any D m c a f h hR hm)
  clear h hR hm
  go_enter Try.func125, Try.ntmps125
  go_wp2_with fail
  go_at_call 123
  refine HP.out.mono ?_
  rintro e w' ⟨rfl, hE⟩
  have HE := Lib.hid hE
  clear hE HP
  go_wp2_with fail
  go_end0
  exact ⟨rfl, HE.out⟩
end Go.Proofs.Ytmbefbmpjkbnmaa
namespace Go.Proofs.Ytmbefbmpjkbnmaa
open Go.RowKit

set_option maxRecDepth 100000
set_option maxHeartbeats 4000000

/-- A truth value as a byte. -/
def flagB (b : Bool) : Nat := if b then 1 else 0
theorem outFlag_any {w0 w : World} {p : Option Addr} {s : OSt} (b : Bool) (tb o c : Nat) (h : OAt w0 w p s) (hc : w.cell? ⟨tb, o, none⟩ = some (.bool b)) (hm : s.len + 1 ≤ 2 ^ 46) :
    Calls Try.prog 134 #[.pointer p, .slice (some ⟨tb, o, none⟩) 1 c] w (OSays w0 p (s.put 1 (fun _ => flagB b))) := by
  have H := Lib.hid h
  have HM := Lib.hid hm
  clear h hm
  go_enter Try.func134, Try.ntmps134
  go_wp2_with fail
  go_loopw [8] (fun u8 wr => (u8 = .int .i64 0 ∧ w = wr) ∨ (u8 = .int .i64 1 ∧ OAt w0 wr p (s.put 1 (fun _ => flagB b)))) (fun u8 _ => 2 - (intOf u8).toNat)
  case atStart => exact Or.inl ⟨rfl, rfl⟩
  case round =>
    rcases hrel with ⟨rfl, rfl⟩ | ⟨rfl, hE⟩
    · cases b with
      | false =>
        have g1 := World.grownBy_alloc w (.cells #[.int .u8 0] 5) none
        have HP := Lib.hid (outU8_any _ 1 1 _ _ (H.out.grown g1) (rd_one w 0 (w.heap.size + 1) (by omega)) HM.out)
        clear g1
        go_wp2_with fail
        go_at_call 125
        refine HP.out.mono ?_
        rintro e w' ⟨rfl, hE⟩
        have HE := Lib.hid hE
        clear hE HP
        go_wp2_with fail
        go_roundw
        case rel => exact Or.inr ⟨rfl, HE.out⟩
        case measure => decide
      | true =>
        have g1 := World.grownBy_alloc w (.cells #[.int .u8 1] 5) none
        have HP := Lib.hid (outU8_any _ 1 1 _ _ (H.out.grown g1) (rd_one w 1 (w.heap.size + 1) (by omega)) HM.out)
        clear g1
        go_wp2_with fail
        go_at_call 125
        refine HP.out.mono ?_
        rintro e w' ⟨rfl, hE⟩
        have HE := Lib.hid hE
        clear hE HP
        go_wp2_with fail
        go_roundw
        case rel => exact Or.inr ⟨rfl, HE.out⟩
        case measure => decide
    · have HE := Lib.hid hE
      clear hE
      go_wp2_with fail
      go_end0
      exact ⟨rfl, HE.out⟩
end Go.Proofs.Ytmbefbmpjkbnmaa
namespace Go.Proofs.Ytmbefbmpjkbnmaa
open Go.RowKit

set_option maxRecDepth 100000

theorem cat_cat (n m : Nat) (f g h : Nat → Nat) : cat (n + m) (cat n f g) h = cat n f (cat m g h) := by
  funext i
  unfold cat
  by_cases h1 : i < n
  · rw [if_pos (by omega), if_pos h1, if_pos h1]
  · by_cases h2 : i < n + m
    · rw [if_pos h2, if_neg h1, if_neg h1, if_pos (by omega)]
    · rw [if_neg h2, if_neg h1, if_neg (by omega), Nat.sub_sub]
theorem cat_none (f g : Nat → Nat) : cat 0 f g = g := by
  funext i
  unfold cat
  rw [if_neg (by omega), Nat.sub_zero]
theorem HV.v_dh (x : HV) (j : Nat) (hj : j < 32) : x.v (0 + j) = .int .u8 (x.dh j) := by
  rw [Nat.zero_add]; exact if_pos hj
/-- A setup. -/
structure SetV where
  ident : Nat → Nat
  eph : Nat → Nat
  once : Bool
  oid : Nat
def SetV.v (x : SetV) (i : Nat) : Value := if i < 32 then .int .u8 (x.ident i) else if i < 64 then .int .u8 (x.eph (i - 32)) else if i < 65 then .bool x.once else .int .u32 x.oid
theorem SetV.v_ident (x : SetV) (j : Nat) (hj : j < 32) : x.v (0 + j) = .int .u8 (x.ident j) := by
  rw [Nat.zero_add]; exact if_pos hj
theorem SetV.v_eph (x : SetV) (j : Nat) (hj : j < 32) : x.v (32 + j) = .int .u8 (x.eph j) := by
  unfold SetV.v
  rw [if_neg (by omega), if_pos (by omega), Nat.add_sub_cancel_left]
theorem SetV.one (x : SetV) (j : Nat) : (x.v j).oneCell' = true := by
  unfold SetV.v
  repeat' split
  all_goals rfl
def SetV.zero : SetV := ⟨fun _ => 0, fun _ => 0, false, 0⟩
structure SetV.Ok (x : SetV) : Prop where
  ident : ∀ i, x.ident i < 256
  eph : ∀ i, x.eph i < 256
  oid : x.oid < 4294967296
/-- How many bytes it has, and these. -/
def SetV.sl (x : SetV) (has : Bool) : Nat := if has = true then (if x.once = true then 69 else 65) else 0
def SetV.sf (x : SetV) : Nat → Nat := cat 65 (cat 64 (cat 32 x.ident x.eph) (fun _ => flagB x.once)) (nbF x.oid 4)
/-- An envelope. -/
structure EV where
  fr : Nat → Nat
  tw : Nat → Nat
  has : Bool
  st : SetV
  hd : HV
  ad : Option Addr
  nb : Nat
  cb : Nat
def EV.v (x : EV) (i : Nat) : Value := if i < 2 then .int .u8 (x.fr i) else if i < 4 then .int .u8 (x.tw (i - 2)) else if i < 5 then .bool x.has else if i < 71 then x.st.v (i - 5) else if i < 105 then x.hd.v (i - 71) else .slice x.ad x.nb x.cb
theorem EV.v_fr (x : EV) (j : Nat) (hj : j < 2) : x.v (0 + j) = .int .u8 (x.fr j) := by
  rw [Nat.zero_add]; exact if_pos hj
theorem EV.v_to (x : EV) (j : Nat) (hj : j < 2) : x.v (2 + j) = .int .u8 (x.tw j) := by
  unfold EV.v
  rw [if_neg (by omega), if_pos (by omega), Nat.add_sub_cancel_left]
theorem EV.v_st (x : EV) (j : Nat) (hj : j < 66) : x.v (5 + j) = x.st.v j := by
  unfold EV.v
  rw [if_neg (by omega), if_neg (by omega), if_neg (by omega), if_pos (by omega), Nat.add_sub_cancel_left]
theorem EV.v_hd (x : EV) (j : Nat) (hj : j < 34) : x.v (71 + j) = x.hd.v j := by
  unfold EV.v
  rw [if_neg (by omega), if_neg (by omega), if_neg (by omega), if_neg (by omega), if_pos (by omega), Nat.add_sub_cancel_left]
theorem EV.one (x : EV) (j : Nat) : (x.v j).oneCell' = true := by
  unfold EV.v
  repeat' split
  all_goals first | rfl | exact SetV.one _ _ | exact HV.one _ _
structure EV.Ok (x : EV) : Prop where
  fr : ∀ i, x.fr i < 256
  tw : ∀ i, x.tw i < 256
  st : x.st.Ok
  hd : x.hd.Ok
/-- How many bytes it has, of a box of these; and its bytes. -/
def EV.len (x : EV) : Nat := 5 + x.st.sl x.has + 40 + 2 + x.nb
def EV.bytes (x : EV) (fb : Nat → Nat) : Nat → Nat := cat (5 + x.st.sl x.has + 40 + 2) (cat (5 + x.st.sl x.has + 40) (cat (5 + x.st.sl x.has) (cat 5 (cat 4 (cat 2 x.fr x.tw) (fun _ => flagB x.has)) x.st.sf) x.hd.bytes) (nbF x.nb 2)) fb
/-- A roster. -/
structure RV where
  id : Nat → Nat
  ep : Nat
  am : Option Addr
  nm : Nat
  cm : Nat
def RV.v (x : RV) (i : Nat) : Value := if i < 16 then .int .u8 (x.id i) else if i < 17 then .int .u64 x.ep else .slice x.am x.nm x.cm
theorem RV.v_id (x : RV) (j : Nat) (hj : j < 16) : x.v (0 + j) = .int .u8 (x.id j) := by
  rw [Nat.zero_add]; exact if_pos hj
theorem RV.one (x : RV) (j : Nat) : (x.v j).oneCell' = true := by
  unfold RV.v
  repeat' split
  all_goals rfl
/-- So many devices' bytes. -/
def devsB (fm : Nat → Nat → Nat) : Nat → (Nat → Nat)
  | 0 => fun _ => 0
  | i + 1 => cat (2 * i) (devsB fm i) (fm i)
def RV.len (x : RV) : Nat := 26 + 2 * x.nm
def RV.bytes (x : RV) (fm : Nat → Nat → Nat) : Nat → Nat := cat 26 (cat 24 (cat 16 x.id (nbF x.ep 8)) (nbF x.nm 2)) (devsB fm x.nm)
/-- A packet. -/
structure PV where
  fr : Nat → Nat
  tw : Nat → Nat
  id : Nat → Nat
  ad : Option Addr
  nb : Nat
  cb : Nat
def PV.v (x : PV) (i : Nat) : Value := if i < 2 then .int .u8 (x.fr i) else if i < 4 then .int .u8 (x.tw (i - 2)) else if i < 20 then .int .u8 (x.id (i - 4)) else .slice x.ad x.nb x.cb
theorem PV.v_fr (x : PV) (j : Nat) (hj : j < 2) : x.v (0 + j) = .int .u8 (x.fr j) := by
  rw [Nat.zero_add]; exact if_pos hj
theorem PV.v_to (x : PV) (j : Nat) (hj : j < 2) : x.v (2 + j) = .int .u8 (x.tw j) := by
  unfold PV.v
  rw [if_neg (by omega), if_pos (by omega), Nat.add_sub_cancel_left]
theorem PV.v_id (x : PV) (j : Nat) (hj : j < 16) : x.v (4 + j) = .int .u8 (x.id j) := by
  unfold PV.v
  rw [if_neg (by omega), if_neg (by omega), if_pos (by omega), Nat.add_sub_cancel_left]
theorem PV.one (x : PV) (j : Nat) : (x.v j).oneCell' = true := by
  unfold PV.v
  repeat' split
  all_goals rfl
def PV.len (x : PV) : Nat := 24 + x.nb
def PV.bytes (x : PV) (fb : Nat → Nat) : Nat → Nat := cat 24 (cat 20 (cat 4 (cat 2 x.fr x.tw) x.id) (nbF x.nb 4)) fb
end Go.Proofs.Ytmbefbmpjkbnmaa
namespace Go.Proofs.Ytmbefbmpjkbnmaa
open Go.RowKit

set_option maxRecDepth 100000
set_option maxHeartbeats 4000000

theorem grown_row {w0 w w' : World} {row r2 : Option Nat} (h : w0.grownBy w row) (g : w.grownBy w' r2) (hk : ∀ k, r2 = some k → w0.heap.size ≤ k) : w0.grownBy w' row := by
  cases r2 with
  | none => exact ⟨g.os.trans h.os, g.tape.trans h.tape, g.output.trans h.output, Nat.le_trans h.size g.size, fun i hi hr => (g.block i (Nat.lt_of_lt_of_le hi h.size) (by simp)).trans (h.block i hi hr)⟩
  | some k => exact grown_new h g (hk k rfl)
theorem IAt.lt {w : World} {p : Option Addr} {L : Nat} {F : Nat → Nat} {s : ISt} (h : IAt w p L F s) (g : Nat) (hp : p = some ⟨g, 0, none⟩) : g < w.heap.size := by
  have hs := h.st
  cases s with
  | nil =>
    have h0 : p = none := hs
    rw [h0] at hp
    cases hp
  | bad =>
    obtain ⟨g', h1, h2⟩ := hs
    rw [hp] at h1
    cases h1
    exact World.block_lt_of_cell? w _ h2.c0
  | good a =>
    obtain ⟨g', a', c', h1, h2, _⟩ := hs
    rw [hp] at h1
    cases h1
    exact World.block_lt_of_cell? w _ h2.c0
theorem IAt.rowP_lt {w : World} {p : Option Addr} {L : Nat} {F : Nat → Nat} {s : ISt} (h : IAt w p L F s) (k : Nat) (hp : rowP p = some k) : k < w.heap.size := by
  have hs := h.st
  cases s with
  | nil =>
    have h0 : p = none := hs
    rw [h0] at hp
    cases hp
  | bad =>
    obtain ⟨g', h1, h2⟩ := hs
    rw [h1] at hp
    cases hp
    exact World.block_lt_of_cell? w _ h2.c0
  | good a =>
    obtain ⟨g', a', c', h1, h2, _⟩ := hs
    rw [h1] at hp
    cases hp
    exact World.block_lt_of_cell? w _ h2.c0
/-- Its block is a new one. -/
theorem IAt.row_ge {w : World} {p : Option Addr} {L D : Nat} {F : Nat → Nat} {s : ISt} (h : IAt w p L F s) (hg : ∀ g, p = some ⟨g, 0, none⟩ → D ≤ g) (k : Nat) (hk : rowP p = some k) : D ≤ k := by
  have hs := h.st
  cases s with
  | nil =>
    have h0 : p = none := hs
    rw [h0] at hk; cases hk
  | bad =>
    obtain ⟨g, h1, _⟩ := hs
    rw [h1] at hk; cases hk
    exact hg g h1
  | good at' =>
    obtain ⟨g, a, c, h1, _⟩ := hs
    rw [h1] at hk; cases hk
    exact hg g h1
end Go.Proofs.Ytmbefbmpjkbnmaa
namespace Go.Proofs.Ytmbefbmpjkbnmaa
open Go.RowKit

set_option maxRecDepth 100000
set_option maxHeartbeats 2000000

/-- Block k is not the reader's. -/
def IForeign (w : World) (p : Option Addr) (k : Nat) : Prop := ∀ g, p = some ⟨g, 0, none⟩ → g ≠ k ∧ ∀ tb o n c, w.cell? ⟨g, 0, none⟩ = some (.slice (some ⟨tb, o, none⟩) n c) → tb ≠ k
theorem IAt.foreign {w w' : World} {p : Option Addr} {L k : Nat} {F : Nat → Nat} {s : ISt} (h : IAt w p L F s) (hf : IForeign w p k) (gr : w.grownBy w' (some k)) : IAt w' p L F s := by
  have hs := h.st
  cases s with
  | nil => exact ⟨hs⟩
  | bad =>
    obtain ⟨g, h1, h2⟩ := hs
    exact ⟨⟨g, h1, h2.of_block (gr.block g (World.block_lt_of_cell? w _ h2.c0) (fun e => (hf g h1).1 (Option.some.inj e)))⟩⟩
  | good at' =>
    obtain ⟨g, a, c, h1, h2, h3, h4, h5⟩ := hs
    have hb := gr.block g (World.block_lt_of_cell? w _ h2.c0) (fun e => (hf g h1).1 (Option.some.inj e))
    refine ⟨⟨g, a, c, h1, h2.of_block hb, h3, h4, ⟨fun hn => ?_⟩⟩⟩
    obtain ⟨tb, o, e1, e2, e3⟩ := h5.ex hn
    refine ⟨tb, o, e1, e2, fun i hi => gr.cell (e3 i hi) (fun e => ?_)⟩
    have hc := h2.c0
    rw [e1] at hc
    exact (hf g h1).2 tb o _ _ hc (Option.some.inj e)
theorem newInF_any (D L c : Nat) (a : Option Addr) (F : Nat → Nat) (w : World) (h : Rd w D a L F) (hL : L ≤ 2 ^ 46) : Calls Try.prog 106 #[.slice a L c] w fun e w' => ∃ p, e = .returned (.pointer p) ∧ IAt w' p L F (.good 0) ∧ (∀ g, p = some ⟨g, 0, none⟩ → w.heap.size ≤ g) ∧ w.grownBy w' none ∧ ∀ k, k < w.heap.size → IForeign w' p k := by
  have HC := Lib.hid (clone_any D L c a F w h hL)
  clear h hL
  go_enter Try.func106, Try.ntmps106
  go_wp2_with fail
  go_at_call 138
  refine HC.out.mono ?_
  rintro e w1 ⟨v, rfl, hO, g1⟩
  obtain ⟨a', c', rfl, hc', hR⟩ := hO.rd
  have hb := heap_alloc_new w1 (.cells #[.slice a' L c', .bool false] 204)
  have g2 := World.grownBy_alloc w1 (.cells #[.slice a' L c', .bool false] 204) none
  have hc0 : (w1.alloc (.cells #[.slice a' L c', .bool false] 204)).cell? ⟨w1.heap.size, 0, none⟩ = some (.slice a' L c') := cell_of_row _ _ _ _ _ _ hb
  have hE : IAt (w1.alloc (.cells #[.slice a' L c', .bool false] 204)) (some ⟨w1.heap.size, 0, none⟩) L F (.good 0) :=
    ⟨⟨w1.heap.size, a', c', rfl, ⟨hc0, cell_of_row _ _ _ _ _ _ hb, fun i => frozen_of_row _ _ _ _ _ hb⟩, hc', Nat.zero_le _, (hR.grown g2 (by simp)).congr (fun i _ => by rw [Nat.zero_add])⟩⟩
  have hF : ∀ k, k < w.heap.size → IForeign (w1.alloc (.cells #[.slice a' L c', .bool false] 204)) (some ⟨w1.heap.size, 0, none⟩) k := fun k hk g hg => by
    cases hg
    have := g1.size
    refine ⟨by omega, fun tb o n c h => ?_⟩
    rw [hc0] at h
    cases h
    rcases hO.ex with ⟨e, _⟩ | ⟨b, cap, e, _, h3⟩
    · cases e
    · cases e
      omega
  have HE := Lib.hid hE
  have HF := Lib.hid hF
  have G := Lib.hid (grown_trans g1 g2)
  have HS := Lib.hid g1.size
  clear hE g1 g2 hb hO hR hc' HC hF hc0
  go_wp2_with fail
  go_ret
  exact ⟨_, rfl, HE.out, fun g e => by cases e; exact HS.out, G.out, HF.out⟩
end Go.Proofs.Ytmbefbmpjkbnmaa
namespace Go.Proofs.Ytmbefbmpjkbnmaa
open Go.RowKit

set_option maxRecDepth 100000
set_option maxHeartbeats 4000000

/-- Bytes that are handed back. -/
structure Gots (w : World) (p : Option Addr) (L : Nat) (F : Nat → Nat) (s' : ISt) (N : Nat) (f : Nat → Nat) (e : Ending) (w' : World) : Prop where
  ex : ∃ a c, e = .returned (.slice a N c) ∧ OwnN w' w.heap.size (.slice a N c) N f
  says : ISays w p L F s' w'
theorem inFixed_any {w : World} {p : Option Addr} {L : Nat} {F : Nat → Nat} {s : ISt} (n : Int) (h : IAt w p L F s) (n0 : -9223372036854775808 ≤ n) (n1 : n < 9223372036854775808) (hL : L ≤ 2 ^ 46) : Calls Try.prog 104 #[.pointer p, .int .i64 n] w (Gots w p L F (s.take L n) (s.got L n) (fun i => F (s.off + i))) := by
  have HT := Lib.hid (inTake_any n h n0 n1)
  have HG := Lib.hid (ISt.got_leL L s n)
  have HL := Lib.hid hL
  clear h n0 n1 hL
  obtain ⟨k, hk⟩ : ∃ k, k = s.got L n := ⟨_, rfl⟩
  rw [← hk] at HG ⊢
  go_enter Try.func104, Try.ntmps104
  go_wp2_with fail
  go_at_call 137
  refine HT.out.mono ?_
  rintro e w1 ⟨⟨a, c, rfl, hc, hR⟩, hE⟩
  rw [← hk] at hR hc ⊢
  obtain ⟨a', c', w2, hap, hO, g2, hkeep⟩ := app_N1 c 39 (grown_refl w1 none) (OwnN.nil w1 w1.heap.size (fun _ => 0)) hR (by have := HG.out; have := HL.out; omega)
  have HE : Hid (ISays w p L F (s.take L n) w2) := ⟨hE.st.grown0 g2, grown_trans hE.gr (grown_some g2)⟩
  have HAP := Lib.hid hap
  have HO : Hid (OwnN w2 w.heap.size (.slice a' k c') k (fun i => F (s.off + i))) := by
    rw [Nat.zero_add] at hO
    rcases hO.ex with h | ⟨b, cap, e1, e2, e3⟩
    · exact ⟨Or.inl h⟩
    · exact ⟨Or.inr ⟨b, cap, e1, e2.congr (fun i _ => by unfold cat; rw [if_neg (by omega)]; rfl), Nat.le_trans hE.gr.size e3⟩⟩
  rw [Nat.zero_add] at HAP
  clear hap hO g2 hkeep hE hR hc HT hk
  go_wp2_with (at_builtin; refine wpList_append_run rfl (.const (.slice none 0 0)) (.tmp 7) 39 39 rfl _ _ _ _ rfl rfl HAP.out ?_)
  go_ret
  exact ⟨⟨a', c', rfl, HO.out⟩, HE.out⟩
end Go.Proofs.Ytmbefbmpjkbnmaa
namespace Go.Proofs.Ytmbefbmpjkbnmaa
open Go.RowKit

set_option maxRecDepth 100000
set_option maxHeartbeats 4000000

/-- A reader, and n cells behind it; since wS only the reader was written to, of what was there. -/
structure TX (wS w : World) (g L : Nat) (F : Nat → Nat) (s : ISt) (B : Nat) (T : TypeId) (N : Nat) (v : Nat → Value) : Prop where
  inn : IAt w (some ⟨g, 0, none⟩) L F s
  row : RowAt w B T N v
  gB : g < B
  hB : wS.heap.size ≤ B
  gr : wS.grownBy w (some g)
theorem grown_into2 {w w1 w2 : World} {g B : Nat} (h1 : w.grownBy w1 (some g)) (h2 : w1.grownBy w2 (some B)) (hB : w.heap.size ≤ B) : w.grownBy w2 (some g) :=
  ⟨h2.os.trans h1.os, h2.tape.trans h1.tape, h2.output.trans h1.output, Nat.le_trans h1.size h2.size, fun k hk hne => by
    rw [h2.block k (Nat.lt_of_lt_of_le hk h1.size) (fun e => by cases e; omega), h1.block k hk hne]⟩
section
variable {wS w w' : World} {g L : Nat} {F : Nat → Nat} {s s' : ISt} {B : Nat} {T : TypeId} {N : Nat} {v v' : Nat → Value}
theorem IAt.ltS (h : IAt w (some ⟨g, 0, none⟩) L F s) : g < w.heap.size := by
  have hs := h.st
  cases s with
  | nil => cases (show (some ⟨g, 0, none⟩ : Option Addr) = none from hs)
  | bad =>
    obtain ⟨g', h1, h2⟩ := hs
    cases h1
    exact World.block_lt_of_cell? w _ h2.c0
  | good at' =>
    obtain ⟨g', a, c, h1, h2, _⟩ := hs
    cases h1
    exact World.block_lt_of_cell? w _ h2.c0
theorem TX.begin (h : IAt w (some ⟨g, 0, none⟩) L F s) (T : TypeId) (N : Nat) (v : Nat → Value) (c : Array Value) (hc : c = rowOf N v) : TX w (w.alloc (.cells c T)) g L F s w.heap.size T N v :=
  have g1 := World.grownBy_alloc w (.cells c T) none
  ⟨h.grown0 g1, RowAt.new w T N v c hc, h.ltS, Nat.le_refl _, grown_some g1⟩
theorem TX.call (h : TX wS w g L F s B T N v) (hs : ISays w (some ⟨g, 0, none⟩) L F s' w') : TX wS w' g L F s' B T N v :=
  ⟨hs.st, h.row.grown hs.gr (fun e => by
    have := h.gB
    have e : B = g := by simpa [rowP] using e
    omega), h.gB, h.hB, grown_trans h.gr hs.gr⟩
theorem TX.grown (h : TX wS w g L F s B T N v) (g1 : w.grownBy w' none) : TX wS w' g L F s B T N v :=
  ⟨h.inn.grown0 g1, h.row.grown g1 (by simp), h.gB, h.hB, grown_trans h.gr (grown_some g1)⟩
theorem TX.write (h : TX wS w g L F s B T N v) (g1 : w.grownBy w' (some B)) (hr : RowAt w' B T N v') : TX wS w' g L F s B T N v' :=
  ⟨h.inn.grown g1 (fun g' k e1 e2 => by cases e1; cases e2; exact h.gB), hr, h.gB, h.hB, grown_into2 h.gr g1 h.hB⟩
theorem TX.put (h : TX wS w g L F s B T N v) (o : Nat) (x : Value) (ho : o < N) (e : ∀ i, i < N → (if i = o then x else v i) = v' i) : TX wS (w.setCell ⟨B, o, none⟩ x) g L F s B T N v' :=
  h.write (grown_setCell_new (grown_refl w _) _ _ (Or.inr rfl)) ((h.row.put o x ho).congr e)
theorem TX.store {P : Program} (h : TX wS w g L F s B T N v) (o : Nat) (U : TypeId) (m : Nat) (u : Nat → Value) (hm : o + m ≤ N) (hi : (P.info? U).map (·.size) = some m) (h1 : ∀ j, j < m → (u j).oneCell' = true) (e : ∀ i, i < N → (if o ≤ i ∧ i < o + m then u (i - o) else v i) = v' i) :
    (Instr.storeAt U (.pointer (some ⟨B, o, none⟩)) (.agg (rowOf m u))).run P w = .ok () (w.setCells B o (rowOf m u).toList) ∧ TX wS (w.setCells B o (rowOf m u).toList) g L F s B T N v' := by
  obtain ⟨k1, k2⟩ := RowAt.store (P := P) h.row o U m u hm hi h1
  exact ⟨k1, h.write (grown_setCells B (Or.inr rfl) _ o _ (grown_refl w _)) (k2.congr e)⟩
/-- What it leaves, all told. -/
theorem TX.says (h : TX wS w g L F s B T N v) : ISays wS (some ⟨g, 0, none⟩) L F s w := ⟨h.inn, h.gr⟩
theorem RowAt.copy {a : Option Addr} {D k : Nat} {f : Nat → Nat} (h : RowAt w B T N v) (o m cs : Nat) (ho : o + m ≤ N) (hR : Rd w D a k f) (hk : k = 0 ∨ k = m) :
    (Builtin.copy_ #[39, 39] 3 #[.slice (some ⟨B, o, none⟩) m m, .slice a k cs]).run Try.prog w = .ok (.int .i64 k) (w.setCells B o ((List.range k).map fun i => Value.int .u8 (f i))) := by
  by_cases h0 : k = 0
  · subst h0
    exact run_copy_none (P := Try.prog) w 39 39 3 5 _ _ _ _ _ _ (by kernel_rfl) (by kernel_rfl) (by simp)
  · obtain rfl : k = m := by omega
    obtain ⟨tb, so, rfl, _, hc⟩ := hR.ex (by omega)
    have hcp := run_copy_cells (P := Try.prog) w 39 39 3 5 B o k k ⟨tb, so, none⟩ k cs ((List.range k).map fun j => Value.int .u8 (f j)) (by kernel_rfl) (by kernel_rfl) (by simp)
      (fun j v hv => by
        have hj : j < k := by
          have := (List.getElem?_eq_some_iff.1 hv).1
          simpa using this
        have e : v = .int .u8 (f j) := by simpa [hj] using hv.symm
        subst e
        rw [Addr.add_mid]
        exact hc j hj)
      (fun j hj => by rw [h.cell (o + j) (by simp at hj; omega)]; rfl)
      (fun j _ => h.frozen _) (fun v hv => by
        obtain ⟨i, _, rfl⟩ := List.mem_map.1 hv
        rfl)
    rw [show ((List.range k).map fun j => Value.int .u8 (f j)).length = k by simp] at hcp
    exact hcp
end
/-- What a call that follows leaves. -/
abbrev Taken (wS : World) (g L : Nat) (F : Nat → Nat) (s : ISt) (B : Nat) (T : TypeId) (N : Nat) (v : Nat → Value) (e : Ending) (w' : World) : Prop := e = .returned (.tuple #[]) ∧ TX wS w' g L F s B T N v
theorem takeFixed_any {wS w : World} {g L : Nat} {F : Nat → Nat} {s : ISt} {B : Nat} {T : TypeId} {N : Nat} {v : Nat → Value} (o m : Nat) (v' : Nat → Value) (h : TX wS w g L F s B T N v) (ho : o + m ≤ N) (hz : ∀ j, j < m → v (o + j) = .int .u8 (0 : Nat)) (hm : m ≤ 1000) (hL : L ≤ 2 ^ 46) (e : ∀ i, i < N → (if o ≤ i ∧ i < o + m then .int .u8 (s.cF L F m (i - o)) else v i) = v' i) :
    Calls Try.prog 68 #[.pointer (some ⟨g, 0, none⟩), .slice (some ⟨B, o, none⟩) m m] w (Taken wS g L F (s.take L m) B T N v') := by
  have HF := Lib.hid (inFixed_any (m : Int) h.inn (by omega) (by omega) hL)
  have HX := Lib.hid (fun (w1 : World) (hs : ISays w (some ⟨g, 0, none⟩) L F (s.take L m) w1) (a : Option Addr) (c : Nat) (hO : OwnN w1 w.heap.size (.slice a (s.got L m) c) (s.got L m) (fun i => F (s.off + i))) => show (Builtin.copy_ #[39, 39] 3 #[.slice (some ⟨B, o, none⟩) m m, .slice a (s.got L m) c]).run Try.prog w1 = .ok (.int .i64 (s.got L m : Nat)) (w1.setCells B o ((List.range (s.got L m)).map fun i => Value.int .u8 (F (s.off + i)))) ∧ TX wS (w1.setCells B o ((List.range (s.got L m)).map fun i => Value.int .u8 (F (s.off + i)))) g L F (s.take L m) B T N v' from by
    have h1 := h.call hs
    obtain ⟨a', c', e', hac, hR⟩ := hO.rd
    cases e'
    have hk : s.got L m = 0 ∨ s.got L m = m := by
      rw [ISt.got_fits]
      split
      · exact Or.inr rfl
      · exact Or.inl rfl
    refine ⟨h1.row.copy o m c ho hR hk, h1.write (grown_setCells B (Or.inr rfl) _ o _ (grown_refl w1 _)) ?_⟩
    refine (heap_setCells_at B T N _ o w1 v h1.row (by rw [List.length_map, List.length_range]; omega)).congr fun i hi => ?_
    rw [← e i hi, List.length_map, List.length_range]
    have hg := ISt.got_fits L s m
    unfold ISt.cF
    by_cases hf : s.fits L m = true
    · rw [if_pos hf] at hg
      rw [hg]
      by_cases hi2 : o ≤ i ∧ i < o + m
      · rw [if_pos hi2, if_pos hi2, if_pos hf]
        simp [show i - o < m by omega]
      · rw [if_neg hi2, if_neg hi2]
    · rw [if_neg hf] at hg
      rw [hg, if_neg (by omega)]
      by_cases hi2 : o ≤ i ∧ i < o + m
      · rw [if_pos hi2, if_neg hf]
        have := hz (i - o) (by omega)
        rwa [show o + (i - o) = i by omega] at this
      · rw [if_neg hi2])
  clear h ho hz hL e hm
  go_enter Try.func68, Try.ntmps68
  go_wp2_with fail
  go_at_call 104
  refine HF.out.mono ?_
  rintro e w1 hE
  obtain ⟨⟨a, c, rfl, hO⟩, hs⟩ := hE
  obtain ⟨h1, h2⟩ := HX.out w1 hs a c hO
  have HT := Lib.hid h2
  clear h2 hO hs HX HF
  go_wp2_with fail
  go_end0
  exact ⟨rfl, HT.out⟩
/-- The next two bytes, one by one. -/
def ISt.devC (L : Nat) (F : Nat → Nat) (s : ISt) (i : Nat) : Nat := if i = 0 then s.num L F 1 else (s.take L 1).num L F 1
structure DevSays (w : World) (g L : Nat) (F : Nat → Nat) (s : ISt) (e : Ending) (w' : World) : Prop where
  ex : e = .returned (.agg (rowOf 2 (fun j => .int .u8 (s.devC L F j))))
  says : ISays w (some ⟨g, 0, none⟩) L F ((s.take L 1).take L 1) w'
theorem takeDevice_any {w : World} {g L : Nat} {F : Nat → Nat} {s : ISt} (h : IAt w (some ⟨g, 0, none⟩) L F s) (hF : ∀ i, F i < 256) :
    Calls Try.prog 70 #[.pointer (some ⟨g, 0, none⟩)] w (DevSays w g L F s) := by
  have hT := TX.begin h 26 2 (fun _ => .int .u8 (0 : Nat)) #[.int .u8 0, .int .u8 0] rfl
  have HF := Lib.hid hF
  clear h hF
  go_enter Try.func70, Try.ntmps70
  go_upto_region 1 with fail
  obtain ⟨B, hB⟩ : ∃ B, B = w.heap.size := ⟨_, rfl⟩
  rw [← hB] at hT ⊢
  generalize w.alloc (.cells #[.int .u8 0, .int .u8 0] 26) = w1 at *
  clear hB
  have HX := Lib.hid (inU8_any hT.inn HF.out)
  have HT := Lib.hid hT
  clear hT
  go_wp2_with fail
  go_at_call 127
  refine HX.out.mono ?_
  rintro e w2 ⟨rfl, hs⟩
  have hT := HT.out.call hs
  obtain ⟨x, hx⟩ : ∃ x, x = s.num L F 1 := ⟨_, rfl⟩
  rw [← hx]
  have c0 : w2.cell? ⟨B, 0, none⟩ = some (.int .u8 (0 : Nat)) := hT.row.cell 0 (by decide)
  have f0 := hT.row.frozen 0
  have hT2 := hT.put 0 (.int .u8 (x : Nat)) (by decide) (fun i _ => rfl)
  have HX2 := Lib.hid (inU8_any hT2.inn HF.out)
  have HT2 := Lib.hid hT2
  have HXX := Lib.hid hx
  clear hT hT2 HX HT hs hx
  go_wp2_with fail
  go_at_call 127
  refine HX2.out.mono ?_
  rintro e w3 ⟨rfl, hs⟩
  have hT := HT2.out.call hs
  obtain ⟨y, hy⟩ : ∃ y, y = (s.take L 1).num L F 1 := ⟨_, rfl⟩
  rw [← hy]
  have c1 : w3.cell? ⟨B, 1, none⟩ = some (.int .u8 (0 : Nat)) := hT.row.cell 1 (by decide)
  have f1 := hT.row.frozen 1
  have hT2 := hT.put 1 (.int .u8 (y : Nat)) (by decide) (v' := fun j => .int .u8 (s.devC L F j)) (fun i hi => by
    obtain rfl | rfl : i = 0 ∨ i = 1 := by omega
    · rw [if_neg (by decide), if_pos rfl, HXX.out]; rfl
    · rw [if_pos rfl, hy]; rfl)
  have HT2 := Lib.hid hT2
  clear HX2 hs hy hT c0 f0
  go_upto_region 3 with fail
  obtain ⟨w4, hw4⟩ : ∃ W, W = w3.setCell ⟨B, 1, none⟩ (.int .u8 (y : Nat)) := ⟨_, rfl⟩
  have hT := HT2.out
  rw [← hw4] at hT ⊢
  clear hw4 HT2 c1 f1
  have HL := Lib.hid (hT.row.load (P := Try.prog) 0 26 2 _ (by decide) (fun j _ => by rw [Nat.zero_add]) (by kernel_rfl) (by kernel_rfl))
  obtain ⟨k1, k2⟩ := hT.store (P := Try.prog) 0 26 2 (fun j => .int .u8 (s.devC L F j)) (by decide) (by kernel_rfl) (fun _ _ => rfl) (v' := fun j => .int .u8 (s.devC L F j)) (fun i hi => by rw [if_pos ⟨Nat.zero_le _, by omega⟩, Nat.sub_zero])
  have HS := Lib.hid k1
  have HK := Lib.hid k2
  clear k1 k2 hT
  go_wp2_with (first | ((with_reducible refine wpList_here ?_); refine wpList_ld (p := .pointer (some ⟨B, 0, none⟩)) 2 ?_ ?_ ?_ HL.out ?_; (· rfl); go_simp; (· kernel_rfl)) | ((with_reducible refine wpList_here ?_); refine wpList_st (T := 26) (p := .pointer (some ⟨B, 0, none⟩)) (v := .agg (rowOf 2 (fun j => .int .u8 (s.devC L F j)))) (.tmp 2) (.tmp 9) ?_ ?_ ?_ ?_ ?_ HS.out ?_; (· rfl); (· rfl); go_simp; (· kernel_rfl); (· kernel_rfl)))
  exact bodyPost_ret (res_rowAt rfl rfl HK.out.row (by kernel_rfl) (by kernel_rfl)) rfl ⟨rfl, HK.out.says⟩
end Go.Proofs.Ytmbefbmpjkbnmaa
namespace Go.Proofs.Ytmbefbmpjkbnmaa
open Go.RowKit

set_option maxRecDepth 100000
set_option maxHeartbeats 4000000

theorem inU32_any {w : World} {p : Option Addr} {L : Nat} {F : Nat → Nat} {s : ISt} (h : IAt w p L F s) (hF : ∀ i, F i < 256) : Calls Try.prog 105 #[.pointer p] w fun e w' => e = .returned (.int .u32 (s.num L F 4 : Nat)) ∧ ISays w p L F (s.take L 4) w' := by
  have HN := Lib.hid (inNumber_any 4 h (by decide) hF)
  have HV := Lib.hid (ISt.num_lt L F s 4 hF)
  obtain ⟨v, hv⟩ : ∃ v, v = s.num L F 4 := ⟨_, rfl⟩
  rw [← hv] at HV ⊢
  have l0 : (v : Int) < 4294967296 := by have := HV.out; omega
  have HVV := Lib.hid hv
  clear h hF hv
  go_enter Try.func105, Try.ntmps105
  go_wp2_with fail
  go_at_call 126
  refine HN.out.mono ?_
  rintro e w1 ⟨rfl, hE⟩
  rw [← HVV.out]
  have HE := Lib.hid hE
  clear hE HN
  go_wp2_with fail
  go_ret
  exact ⟨rfl, HE.out⟩
end Go.Proofs.Ytmbefbmpjkbnmaa
namespace Go.Proofs.Ytmbefbmpjkbnmaa
open Go.RowKit

set_option maxRecDepth 100000
set_option maxHeartbeats 4000000

structure HdrSays (w : World) (g L : Nat) (F : Nat → Nat) (s : ISt) (e : Ending) (w' : World) : Prop where
  ex : e = .returned (.agg (rowOf 34 (s.hdr L F).v))
  says : ISays w (some ⟨g, 0, none⟩) L F (s.hdrS L) w'
theorem takeHeader_any {w : World} {g L : Nat} {F : Nat → Nat} {s : ISt} (h : IAt w (some ⟨g, 0, none⟩) L F s) (hF : ∀ i, F i < 256) (hL : L ≤ 2 ^ 46) :
    Calls Try.prog 74 #[.pointer (some ⟨g, 0, none⟩)] w (HdrSays w g L F s) := by
  have hT := TX.begin h 36 34 HV.zero.v #[.int .u8 0, .int .u8 0, .int .u8 0, .int .u8 0, .int .u8 0, .int .u8 0, .int .u8 0, .int .u8 0, .int .u8 0, .int .u8 0, .int .u8 0, .int .u8 0, .int .u8 0, .int .u8 0, .int .u8 0, .int .u8 0, .int .u8 0, .int .u8 0, .int .u8 0, .int .u8 0, .int .u8 0, .int .u8 0, .int .u8 0, .int .u8 0, .int .u8 0, .int .u8 0, .int .u8 0, .int .u8 0, .int .u8 0, .int .u8 0, .int .u8 0, .int .u8 0, .int .u32 0, .int .u32 0] rfl
  have HF := Lib.hid hF
  have HL := Lib.hid hL
  clear h hF hL
  go_enter Try.func74, Try.ntmps74
  go_upto_region 1 with fail
  obtain ⟨B, hB⟩ : ∃ B, B = w.heap.size := ⟨_, rfl⟩
  rw [← hB] at hT ⊢
  generalize w.alloc (.cells #[.int .u8 0, .int .u8 0, .int .u8 0, .int .u8 0, .int .u8 0, .int .u8 0, .int .u8 0, .int .u8 0, .int .u8 0, .int .u8 0, .int .u8 0, .int .u8 0, .int .u8 0, .int .u8 0, .int .u8 0, .int .u8 0, .int .u8 0, .int .u8 0, .int .u8 0, .int .u8 0, .int .u8 0, .int .u8 0, .int .u8 0, .int .u8 0, .int .u8 0, .int .u8 0, .int .u8 0, .int .u8 0, .int .u8 0, .int .u8 0, .int .u8 0, .int .u8 0, .int .u32 0, .int .u32 0] 36) = w1 at *
  clear hB
  have HX := Lib.hid (takeFixed_any 0 32 (HV.mk (s.cF L F 32) 0 0).v hT (by decide) (fun j hj => HV.v_dh HV.zero j hj) (by decide) HL.out (fun i _ => HV.put_dh HV.zero _ i))
  clear hT
  go_wp2_with fail
  go_at_call 68
  refine HX.out.mono ?_
  rintro e w2 ⟨rfl, hT⟩
  replace hT : TX w w2 g L F (s.take L 32) B 36 34 (HV.mk (s.cF L F 32) 0 0).v := hT
  clear HX
  obtain ⟨f1, hf1⟩ : ∃ f, f = s.cF L F 32 := ⟨_, rfl⟩
  rw [← hf1] at hT
  have HF1 := Lib.hid hf1
  clear hf1
  have HX := Lib.hid (inU32_any hT.inn HF.out)
  have HT := Lib.hid hT
  clear hT
  go_wp2_with fail
  go_at_call 105
  refine HX.out.mono ?_
  rintro e w3 ⟨rfl, hs⟩
  have hT := HT.out.call hs
  obtain ⟨n2, hn2⟩ : ∃ x, x = (s.take L 32).num L F 4 := ⟨_, rfl⟩
  rw [← hn2]
  have HNn2 := Lib.hid hn2
  clear HX HT hs hn2
  have cc : w3.cell? ⟨B, 32, none⟩ = some (.int .u32 (0 : Nat)) := hT.row.cell 32 (by decide)
  have ff := hT.row.frozen 32
  have hT2 := hT.put 32 (.int .u32 (n2 : Nat)) (by decide) (v' := (HV.mk f1 n2 0).v) (fun i _ => HV.put_prev (HV.mk f1 0 0) n2 i)
  have HT2 := Lib.hid hT2
  clear hT hT2
  go_upto_region 3 with fail
  have hT := HT2.out
  obtain ⟨w3', hw'⟩ : ∃ W, W = w3.setCell ⟨B, 32, none⟩ (.int .u32 (n2 : Nat)) := ⟨_, rfl⟩
  rw [← hw'] at hT ⊢
  clear hw' HT2 cc ff
  have HX := Lib.hid (inU32_any hT.inn HF.out)
  have HT := Lib.hid hT
  clear hT
  go_wp2_with fail
  go_at_call 105
  refine HX.out.mono ?_
  rintro e w4 ⟨rfl, hs⟩
  have hT := HT.out.call hs
  obtain ⟨n3, hn3⟩ : ∃ x, x = ((s.take L 32).take L 4).num L F 4 := ⟨_, rfl⟩
  rw [← hn3]
  have HNn3 := Lib.hid hn3
  clear HX HT hs hn3
  have cc : w4.cell? ⟨B, 33, none⟩ = some (.int .u32 (0 : Nat)) := hT.row.cell 33 (by decide)
  have ff := hT.row.frozen 33
  have hT2 := hT.put 33 (.int .u32 (n3 : Nat)) (by decide) (v' := (HV.mk f1 n2 n3).v) (fun i hi => HV.put_n (HV.mk f1 n2 0) n3 i hi)
  have HT2 := Lib.hid hT2
  clear hT hT2
  go_upto_region 4 with fail
  have hT := HT2.out
  obtain ⟨w4', hw'⟩ : ∃ W, W = w4.setCell ⟨B, 33, none⟩ (.int .u32 (n3 : Nat)) := ⟨_, rfl⟩
  rw [← hw'] at hT ⊢
  clear hw' HT2 cc ff
  have HLD := Lib.hid (hT.row.load (P := Try.prog) 0 36 34 _ (by decide) (fun j _ => by rw [Nat.zero_add]) (by kernel_rfl) (by kernel_rfl))
  obtain ⟨k1, k2⟩ := hT.store (P := Try.prog) 0 36 34 (HV.mk f1 n2 n3).v (by decide) (by kernel_rfl) (fun j _ => by exact HV.one _ j) (v' := (HV.mk f1 n2 n3).v) (fun i hi => by rw [if_pos ⟨Nat.zero_le _, by omega⟩, Nat.sub_zero])
  have HS := Lib.hid k1
  have HK := Lib.hid k2
  clear k1 k2 hT
  go_wp2_with (first | ((with_reducible refine wpList_here ?_); refine wpList_ld (p := .pointer (some ⟨B, 0, none⟩)) 2 ?_ ?_ ?_ HLD.out ?_; (· rfl); go_simp; (· kernel_rfl)) | ((with_reducible refine wpList_here ?_); refine wpList_st (T := 36) (p := .pointer (some ⟨B, 0, none⟩)) (v := .agg (rowOf 34 (HV.mk f1 n2 n3).v)) (.tmp 2) (.tmp 13) ?_ ?_ ?_ ?_ ?_ HS.out ?_; (· rfl); (· rfl); go_simp; (· kernel_rfl); (· kernel_rfl)))
  exact bodyPost_ret (res_rowAt rfl rfl HK.out.row (by kernel_rfl) (by kernel_rfl)) rfl ⟨by rw [HF1.out, HNn2.out, HNn3.out]; rfl, HK.out.says⟩
end Go.Proofs.Ytmbefbmpjkbnmaa
namespace Go.Proofs.Ytmbefbmpjkbnmaa
open Go.RowKit

set_option maxRecDepth 100000
set_option maxHeartbeats 4000000

theorem outFixed_any {w0 w : World} {p : Option Addr} {s : OSt} (D m cv : Nat) (av : Option Addr) (f : Nat → Nat) (tb o c : Nat) (h : OAt w0 w p s) (hc : w.cell? ⟨tb, o, none⟩ = some (.slice av m cv)) (hR : Rd w D av m f) (hm : s.len + m ≤ 2 ^ 46) :
    Calls Try.prog 64 #[.pointer p, .slice (some ⟨tb, o, none⟩) 1 c] w (OSays w0 p (s.put m f)) := by
  have HP := Lib.hid (outPut_any D m cv av f h hR hm)
  clear h hm hR
  go_enter Try.func64, Try.ntmps64
  go_wp2_with fail
  go_loopw [8] (fun u8 wr => (u8 = .int .i64 0 ∧ w = wr) ∨ (u8 = .int .i64 1 ∧ OAt w0 wr p (s.put m f))) (fun u8 _ => 2 - (intOf u8).toNat)
  case atStart => exact Or.inl ⟨rfl, rfl⟩
  case round =>
    rcases hrel with ⟨rfl, rfl⟩ | ⟨rfl, hE⟩
    · go_wp2_with fail
      go_at_call 123
      refine HP.out.mono ?_
      rintro e w' ⟨rfl, hE⟩
      have HE := Lib.hid hE
      clear hE HP
      go_wp2_with fail
      go_roundw
      case rel => exact Or.inr ⟨rfl, HE.out⟩
      case measure => decide
    · have HE := Lib.hid hE
      clear hE
      go_wp2_with fail
      go_end0
      exact ⟨rfl, HE.out⟩
end Go.Proofs.Ytmbefbmpjkbnmaa
namespace Go.Proofs.Ytmbefbmpjkbnmaa
open Go.RowKit

set_option maxRecDepth 100000
set_option maxHeartbeats 4000000

/-- How many there are is put; of which there may be so many. -/
def OSt.count (s : OSt) (most : Int) (n : Nat) : OSt := if min most 65535 < (n : Int) then s.fail else s.put 2 (nbF n 2)
theorem OSt.len_count (s : OSt) (most : Int) (n : Nat) : (s.count most n).len ≤ s.len + 2 := by
  unfold OSt.count
  split
  · rw [OSt.len_fail]; omega
  · exact OSt.len_put _ _ _
theorem outCount_any {w0 w : World} {p : Option Addr} {s : OSt} (most : Int) (n : Nat) (h : OAt w0 w p s) (m0 : -9223372036854775808 ≤ most) (m1 : most < 9223372036854775808) (hm : s.len + 2 ≤ 2 ^ 46) :
    Calls Try.prog 130 #[.pointer p, .int .i64 most, .int .i64 n] w (OSays w0 p (s.count most n)) := by
  obtain ⟨hi, hhi⟩ : ∃ y, y = n / 256 % 256 := ⟨_, rfl⟩
  obtain ⟨lo, hlo⟩ : ∃ y, y = n % 256 := ⟨_, rfl⟩
  have e1 : (n : Int) / 256 % 256 = (hi : Int) := by omega
  have e2 : (n : Int) % 256 = (lo : Int) := by omega
  have hb : ∀ i, i < 2 → (if i = 0 then hi else lo) = nbF n 2 i := fun i h2 => by
    obtain rfl | rfl : i = 0 ∨ i = 1 := by omega
    · rw [if_pos rfl, hhi]; rfl
    · rw [if_neg (by decide), hlo]; unfold nbF; simp
  have HB := Lib.hid hb
  have HH := Lib.hid h
  have HM := Lib.hid hm
  clear hhi hlo hb hm h
  unfold OSt.count
  by_cases hmo : 65535 < most
  · rw [show min most 65535 = 65535 by omega]
    by_cases hw : (65535 : Int) < (n : Int)
    · rw [if_pos hw]
      have HF := Lib.hid (outFail_any HH.out)
      go_enter Try.func130, Try.ntmps130
      go_wp2_with fail
      go_at_call 129
      refine HF.out.mono ?_
      rintro e w1 ⟨rfl, hE⟩
      have HP := Lib.hid (outU8_any _ 2 2 _ _ (hE.grown (World.grownBy_alloc w1 (.cells #[.int .u8 hi, .int .u8 lo] 5) none)) (rd_two w1 hi lo (w1.heap.size + 1) (by omega)) (by rw [OSt.len_fail]; decide))
      clear hE HF
      go_wp2_with fail
      go_at_call 125
      refine HP.out.mono ?_
      rintro e w' ⟨rfl, hE⟩
      rw [OSt.put_fail] at hE
      have HE := Lib.hid hE
      clear hE HP
      go_wp2_with fail
      go_end0
      exact ⟨rfl, HE.out⟩
    · rw [if_neg hw]
      have e3 : (n : Int) / 256 = (hi : Int) := by omega
      have HP := Lib.hid (outU8_any _ 2 2 _ _ (HH.out.grown (World.grownBy_alloc w (.cells #[.int .u8 hi, .int .u8 lo] 5) none)) (rd_two w hi lo (w.heap.size + 1) (by omega)) HM.out)
      go_enter Try.func130, Try.ntmps130
      go_wp2_with fail
      go_at_call 125
      refine HP.out.mono ?_
      rintro e w' ⟨rfl, hE⟩
      have HE := Lib.hid (hE.putCongr HB.out)
      clear hE HP
      go_wp2_with fail
      go_end0
      exact ⟨rfl, HE.out⟩
  · rw [show min most 65535 = most by omega]
    by_cases hw : most < (n : Int)
    · rw [if_pos hw]
      have HF := Lib.hid (outFail_any HH.out)
      go_enter Try.func130, Try.ntmps130
      go_wp2_with fail
      go_at_call 129
      refine HF.out.mono ?_
      rintro e w1 ⟨rfl, hE⟩
      have HP := Lib.hid (outU8_any _ 2 2 _ _ (hE.grown (World.grownBy_alloc w1 (.cells #[.int .u8 hi, .int .u8 lo] 5) none)) (rd_two w1 hi lo (w1.heap.size + 1) (by omega)) (by rw [OSt.len_fail]; decide))
      clear hE HF
      go_wp2_with fail
      go_at_call 125
      refine HP.out.mono ?_
      rintro e w' ⟨rfl, hE⟩
      rw [OSt.put_fail] at hE
      have HE := Lib.hid hE
      clear hE HP
      go_wp2_with fail
      go_end0
      exact ⟨rfl, HE.out⟩
    · rw [if_neg hw]
      have e3 : (n : Int) / 256 = (hi : Int) := by omega
      have HP := Lib.hid (outU8_any _ 2 2 _ _ (HH.out.grown (World.grownBy_alloc w (.cells #[.int .u8 hi, .int .u8 lo] 5) none)) (rd_two w hi lo (w.heap.size + 1) (by omega)) HM.out)
      go_enter Try.func130, Try.ntmps130
      go_wp2_with fail
      go_at_call 125
      refine HP.out.mono ?_
      rintro e w' ⟨rfl, hE⟩
      have HE := Lib.hid (hE.putCongr HB.out)
      clear hE HP
      go_wp2_with fail
      go_end0
      exact ⟨rfl, HE.out⟩
theorem outSized_any {w0 w : World} {p : Option Addr} {s : OSt} (most : Int) (D m cv : Nat) (av : Option Addr) (f : Nat → Nat) (h : OAt w0 w p s) (hR : Rd w0 D av m f) (m0 : -9223372036854775808 ≤ most) (m1 : most < 9223372036854775808) (hm : s.len + 2 + m ≤ 2 ^ 46) :
    Calls Try.prog 93 #[.pointer p, .int .i64 most, .slice av m cv] w (OSays w0 p ((s.count most m).put m f)) := by
  have HC := Lib.hid (outCount_any most m h m0 m1 (by omega))
  have HM := Lib.hid hm
  have HR := Lib.hid hR
  clear h hm m0 m1 hR
  go_enter Try.func93, Try.ntmps93
  go_wp2_with fail
  go_at_call 130
  refine HC.out.mono ?_
  rintro e w1 ⟨rfl, hE⟩
  have HP := Lib.hid (outPut_any D m cv av f hE (HR.out.grown hE.gr (by simp)) (by have := OSt.len_count s most m; have := HM.out; omega))
  clear hE HC
  go_wp2_with fail
  go_at_call 123
  refine HP.out.mono ?_
  rintro e w' ⟨rfl, hE⟩
  have HE := Lib.hid hE
  clear hE HP
  go_wp2_with fail
  go_end0
  exact ⟨rfl, HE.out⟩
end Go.Proofs.Ytmbefbmpjkbnmaa
namespace Go.Proofs.Ytmbefbmpjkbnmaa
open Go.RowKit

set_option maxRecDepth 100000
set_option maxHeartbeats 2000000

/-- Block k is not the writer's. -/
def Foreign (w : World) (p : Option Addr) (k : Nat) : Prop := ∀ g, p = some ⟨g, 0, none⟩ → g ≠ k ∧ ∀ b n c, w.cell? ⟨g, 0, none⟩ = some (.slice (some ⟨b, 0, none⟩) n c) → b ≠ k
def Keep (w : World) (p : Option Addr) (w' : World) : Prop := ∀ k, k < w.heap.size → Foreign w p k → w'.heap[k]? = w.heap[k]? ∧ Foreign w' p k
theorem Keep.refl (w : World) (p : Option Addr) : Keep w p w := fun _ _ h => ⟨rfl, h⟩
theorem Keep.pre {w w1 w' : World} {g : Nat} {v : Value} (hc : w.cell? ⟨g, 0, none⟩ = some v) (gr : w.grownBy w1 none) (h : Keep w1 (some ⟨g, 0, none⟩) w') : Keep w (some ⟨g, 0, none⟩) w' := fun k hk hf => by
  have h1 := h k (Nat.lt_of_lt_of_le hk gr.size) (fun g' e => by
    cases e
    refine ⟨(hf g rfl).1, fun b n c hcell => ?_⟩
    rw [gr.cell hc (by simp)] at hcell
    cases hcell
    exact (hf g rfl).2 b n c hc)
  exact ⟨h1.1.trans (gr.block k hk (by simp)), h1.2⟩
structure OSaysK (w0 w : World) (p : Option Addr) (s : OSt) (e : Ending) (w' : World) : Prop where
  says : OSays w0 p s e w'
  kp : Keep w p w'
theorem outFailK_any {w0 w : World} {p : Option Addr} {s : OSt} (h : OAt w0 w p s) : Calls Try.prog 129 #[.pointer p] w (OSaysK w0 w p s.fail) := by
  have hs := h.st
  have gr := h.gr
  have key : ∀ (g : Nat) (v : Value) (l : Int) (wr : Bool), p = some ⟨g, 0, none⟩ → w0.heap.size ≤ g → OCells w g v l wr → Calls Try.prog 129 #[.pointer p] w (OSaysK w0 w p .bad) := by
    intro g v l wr hp hg hc
    subst hp
    have c0 := hc.c0
    have c1 := hc.c1
    have c2 := hc.c2
    have f0 := hc.fr 0
    have f1 := hc.fr 1
    have f2 := hc.fr 2
    have hE : OAt w0 (((w.setCell ⟨g, 0, none⟩ (.slice none 0 0)).setCell ⟨g, 1, none⟩ (.int .i64 0)).setCell ⟨g, 2, none⟩ (.bool true)) (some ⟨g, 0, none⟩) .bad := by
      refine ⟨⟨g, 0, rfl, hg, ⟨?_, ?_, ?_, fun i => ?_⟩⟩, grown_setCell_new (grown_setCell_new (grown_setCell_new gr _ _ (Or.inl hg)) _ _ (Or.inl hg)) _ _ (Or.inl hg)⟩
      · rw [World.cell?_setCell_other _ _ _ _ (by simp), World.cell?_setCell_other _ _ _ _ (by simp)]
        exact World.cell?_setCell_same w _ _ c0
      · rw [World.cell?_setCell_other _ _ _ _ (by simp)]
        exact World.cell?_setCell_same _ _ _ ((World.cell?_setCell_other _ _ _ _ (by simp)).trans c1)
      · exact World.cell?_setCell_same _ _ _ (((World.cell?_setCell_other _ _ _ _ (by simp)).trans (World.cell?_setCell_other _ _ _ _ (by simp))).trans c2)
      · rw [World.frozen?_setCell, World.frozen?_setCell, World.frozen?_setCell]; exact hc.fr i
    have HE := Lib.hid hE
    have HKP : Hid (Keep w (some ⟨g, 0, none⟩) (((w.setCell ⟨g, 0, none⟩ (.slice none 0 0)).setCell ⟨g, 1, none⟩ (.int .i64 0)).setCell ⟨g, 2, none⟩ (.bool true))) := fun k hk hf => by
      have hne := (hf g rfl).1
      refine ⟨?_, fun g' e => ?_⟩
      · rw [heap_setCell_other _ ⟨g, 2, none⟩ k _ (Ne.symm hne), heap_setCell_other _ ⟨g, 1, none⟩ k _ (Ne.symm hne), heap_setCell_other _ ⟨g, 0, none⟩ k _ (Ne.symm hne)]
      · cases e
        refine ⟨hne, fun b n c hcell => ?_⟩
        rw [World.cell?_setCell_other _ _ _ _ (by simp), World.cell?_setCell_other _ _ _ _ (by simp), World.cell?_setCell_same w _ _ c0] at hcell
        cases hcell
    clear hE hc gr hg h hs
    go_enter Try.func129, Try.ntmps129
    go_wp2_with fail
    go_end0
    exact ⟨⟨rfl, HE.out⟩, HKP.out⟩
  cases s with
  | nil =>
    obtain rfl : p = none := hs
    have HE := Lib.hid h
    clear h gr key
    go_enter Try.func129, Try.ntmps129
    go_wp2_with fail
    go_end0
    exact ⟨⟨rfl, HE.out⟩, Keep.refl _ _⟩
  | bad =>
    obtain ⟨g, l, h1, h2, h3⟩ := hs
    exact key g _ l _ h1 h2 h3
  | good lim n f =>
    obtain ⟨g, a, c, h1, h2, h3, h4, h5⟩ := hs
    exact key g _ _ _ h1 h2 h3
theorem outPutK_any {w0 w : World} {p : Option Addr} {s : OSt} (D m c : Nat) (a : Option Addr) (f : Nat → Nat) (h : OAt w0 w p s) (hR : Rd w D a m f) (hm : s.len + m ≤ 2 ^ 46) : Calls Try.prog 123 #[.pointer p, .slice a m c] w (OSaysK w0 w p (s.put m f)) := by
  have hs := h.st
  have HD := Lib.hid (done_any h)
  by_cases ho : s.over = true
  · have HE := Lib.hid h
    rw [OSt.put_over s m f ho]
    obtain ⟨b, hb⟩ : ∃ b, b = s.over := ⟨_, rfl⟩
    rw [← hb] at ho HD
    subst ho
    clear hb hs h hR hm
    go_enter Try.func123, Try.ntmps123
    go_wp2_with fail
    go_at_call 131
    refine HD.out.mono ?_
    rintro e w' ⟨rfl, rfl⟩
    go_wp2_with fail
    go_end0
    exact ⟨⟨rfl, HE.out⟩, Keep.refl _ _⟩
  · cases s with
    | nil => exact absurd rfl ho
    | bad => exact absurd rfl ho
    | good lim n f0 =>
      obtain ⟨g, av, cv, rfl, h2, h3, h4, h5, h6, h7⟩ := hs
      have HD2 : Hid (Calls Try.prog 131 #[.pointer (some ⟨g, 0, none⟩)] w fun e w' => e = .returned (.bool false) ∧ w = w') := HD
      have c0 := h3.c0
      have c1 := h3.c1
      have f0' := h3.fr 0
      have gr := h.gr
      have H3 := Lib.hid h3
      have hm' : n + m ≤ 2 ^ 46 := hm
      have k0 : (n : Int) ≤ (lim : Int) := by omega
      have k1 : (lim : Int) < 9223372036854775808 := by omega
      by_cases hroom : n + m ≤ lim
      · have k2 : ¬ ((lim : Int) - (n : Int) < (m : Int)) := by omega
        have e0 : OSt.put (.good lim n f0) m f = .good lim (n + m) (cat n f0 f) := by show (if n + m ≤ lim then _ else _) = _; rw [if_pos hroom]
        rw [e0]
        have H4 := Lib.hid h4
        have H5 := Lib.hid h5
        have H7 := Lib.hid h7
        have HM := Lib.hid hm'
        have HR := Lib.hid hR
        have HRM := Lib.hid hroom
        have G2 := Lib.hid h2
        have GR := Lib.hid gr
        clear e0 h3 h4 h5 h6 h7 hm hm' HD ho h hroom hR gr h2
        go_enter Try.func123, Try.ntmps123
        go_wp2_with fail
        go_at_call 131
        refine HD2.out.mono ?_
        rintro e w' ⟨rfl, rfl⟩
        go_wp2_with fail
        go_quiet (fail)
        have gq : w.grownBy (World.drewN w nq) none := grown_drewN (grown_refl w none) nq
        generalize World.drewN w nq = w5 at *
        have h3 := H3.out.grown gq (by simp)
        have h4 := H4.out.grown gq
        have gr := grown_trans GR.out gq
        have hR := HR.out.grown gq (by simp)
        have c0 := h3.c0
        have hm' := HM.out
        obtain ⟨a', c', w2, hap, hO2, g2, hkeep⟩ := app_N1 c 39 gr h4 hR hm'
        have HAP := Lib.hid hap
        clear hap
        obtain ⟨hbl, hne⟩ := hkeep g H5.out (World.block_lt_of_cell? w5 _ c0)
        have c0' := (World.cell?_of_block (a := ⟨g, 0, none⟩) hbl).trans c0
        have c1' := (World.cell?_of_block (a := ⟨g, 1, none⟩) hbl).trans h3.c1
        have c2' := (World.cell?_of_block (a := ⟨g, 2, none⟩) hbl).trans h3.c2
        have f1' : ∀ i, w2.frozen? ⟨g, i, none⟩ = false := fun i => (World.frozen?_of_block (a := ⟨g, i, none⟩) hbl).trans (h3.fr i)
        have f0'' := f1' 0
        have hO3 : OwnN (w2.setCell ⟨g, 0, none⟩ (.slice a' (n + m) c')) w0.heap.size (.slice a' (n + m) c') (n + m) (cat n f0 f) := by
          rcases hO2.ex with h | ⟨b, cap, e1, e2, e3⟩
          · exact ⟨Or.inl h⟩
          · cases e1
            exact ⟨Or.inr ⟨b, c', rfl, e2.of_block (heap_setCell_other w2 ⟨g, 0, none⟩ b _ (hne b rfl)) (by simpa [World.setCell] using e2.lt), e3⟩⟩
        have hE : OAt w0 (w2.setCell ⟨g, 0, none⟩ (.slice a' (n + m) c')) (some ⟨g, 0, none⟩) (.good lim (n + m) (cat n f0 f)) := by
          refine ⟨⟨g, a', c', rfl, G2.out, ⟨World.cell?_setCell_same w2 _ _ c0', ?_, ?_, fun i => ?_⟩, hO3, hne, HRM.out, H7.out⟩, grown_setCell_new g2 _ _ (Or.inl G2.out)⟩
          · rw [World.cell?_setCell_other _ _ _ _ (by simp)]; exact c1'
          · rw [World.cell?_setCell_other _ _ _ _ (by simp)]; exact c2'
          · rw [World.frozen?_setCell]; exact f1' i
        have HKP : Hid (Keep w (some ⟨g, 0, none⟩) (w2.setCell ⟨g, 0, none⟩ (.slice a' (n + m) c'))) := fun k hk hf => by
          have hne2 := (hf g rfl).1
          have hb := hkeep k (fun b e => by
            refine (hf g rfl).2 b n cv ?_
            rw [← e]
            exact H3.out.c0) (Nat.lt_of_lt_of_le hk gq.size)
          refine ⟨?_, fun g' e => ?_⟩
          · rw [heap_setCell_other _ ⟨g, 0, none⟩ k _ (Ne.symm hne2), hb.1, gq.block k hk (by simp)]
          · cases e
            refine ⟨hne2, fun b n' c2 hcell => ?_⟩
            rw [World.cell?_setCell_same w2 _ _ c0'] at hcell
            cases hcell
            exact hb.2 b rfl
        have HE := Lib.hid hE
        clear hE hO3 hO2 g2 hbl hne c1' c2' h3 h4 f1' hR gr hm' hkeep gq
        clear k0 k1
        go_wp2_with (at_builtin; refine wpList_append_run rfl (.tmp 25) (.tmp 26) 39 39 rfl _ _ _ _ rfl rfl HAP.out ?_)
        go_end0
        exact ⟨⟨rfl, HE.out⟩, HKP.out⟩
      · have k2 : (lim : Int) - (n : Int) < (m : Int) := by omega
        have HF := Lib.hid (fun W => outFailK_any (w0 := w0) (w := W) (p := some ⟨g, 0, none⟩) (s := .good lim n f0))
        have HE := Lib.hid h
        have e0 : OSt.put (.good lim n f0) m f = .bad := by show (if n + m ≤ lim then _ else _) = _; rw [if_neg hroom]
        rw [e0]
        clear h3 h4 h5 h6 h7 hm hm' hroom HD ho h gr h2
        go_enter Try.func123, Try.ntmps123
        go_wp2_with fail
        go_at_call 131
        refine HD2.out.mono ?_
        rintro e w' ⟨rfl, rfl⟩
        go_wp2_with fail
        go_quiet (fail)
        have HE2 := Lib.hid (HE.out.grown (grown_drewN (grown_refl _ none) nq))
        have HGQ : Hid (w.grownBy (World.drewN w nq) none) := grown_drewN (grown_refl w none) nq
        generalize World.drewN w nq = w5 at *
        go_wp2_with fail
        go_at_call 129
        refine (HF.out w5 HE2.out).mono ?_
        rintro e w' ⟨⟨rfl, hE⟩, hkp⟩
        have HE3 := Lib.hid hE
        have HKP := Lib.hid (Keep.pre H3.out.c0 HGQ.out hkp)
        clear hE hkp
        go_wp2_with fail
        go_end0
        exact ⟨⟨rfl, HE3.out⟩, HKP.out⟩
theorem outU8K_any {w0 w : World} {p : Option Addr} {s : OSt} (D m c : Nat) (a : Option Addr) (f : Nat → Nat) (h : OAt w0 w p s) (hR : Rd w D a m f) (hm : s.len + m ≤ 2 ^ 46) : Calls Try.prog 125 #[.pointer p, .slice a m c] w (OSaysK w0 w p (s.put m f)) := by
  have HP := Lib.hid (outPutK_any D m c a f h hR hm)
  clear h hR hm
  go_enter Try.func125, Try.ntmps125
  go_wp2_with fail
  go_at_call 123
  refine HP.out.mono ?_
  rintro e w' ⟨⟨rfl, hE⟩, hkp⟩
  have HKP := Lib.hid hkp
  have HE := Lib.hid hE
  clear hE HP hkp
  go_wp2_with fail
  go_end0
  exact ⟨⟨rfl, HE.out⟩, HKP.out⟩
theorem outCountK_any {w0 w : World} {g lim n0 : Nat} {f0 : Nat → Nat} (most : Int) (n : Nat) (h : OAt w0 w (some ⟨g, 0, none⟩) (.good lim n0 f0)) (hw : ¬ min most 65535 < (n : Int)) (m0 : -9223372036854775808 ≤ most) (m1 : most < 9223372036854775808) (hm : n0 + 2 ≤ 2 ^ 46) :
    Calls Try.prog 130 #[.pointer (some ⟨g, 0, none⟩), .int .i64 most, .int .i64 n] w (OSaysK w0 w (some ⟨g, 0, none⟩) (OSt.put (.good lim n0 f0) 2 (nbF n 2))) := by
  obtain ⟨hi, hhi⟩ : ∃ y, y = n / 256 % 256 := ⟨_, rfl⟩
  obtain ⟨lo, hlo⟩ : ∃ y, y = n % 256 := ⟨_, rfl⟩
  have e1 : (n : Int) / 256 % 256 = (hi : Int) := by omega
  have e2 : (n : Int) % 256 = (lo : Int) := by omega
  have hb : ∀ i, i < 2 → (if i = 0 then hi else lo) = nbF n 2 i := fun i h2 => by
    obtain rfl | rfl : i = 0 ∨ i = 1 := by omega
    · rw [if_pos rfl, hhi]; rfl
    · rw [if_neg (by decide), hlo]; unfold nbF; simp
  have HB := Lib.hid hb
  have HH := Lib.hid h
  have HM : Hid (OSt.len (.good lim n0 f0) + 2 ≤ 2 ^ 46) := hm
  obtain ⟨v, hv⟩ : ∃ v, w.cell? ⟨g, 0, none⟩ = some v := by
    obtain ⟨g', a, c, e, _, h3, _⟩ := h.st
    cases e
    exact ⟨_, h3.c0⟩
  have HC := Lib.hid hv
  clear hhi hlo hb hm h hv
  by_cases hmo : 65535 < most
  · rw [show min most 65535 = 65535 by omega] at hw
    · have e3 : (n : Int) / 256 = (hi : Int) := by omega
      have HP := Lib.hid (outU8K_any _ 2 2 _ _ (HH.out.grown (World.grownBy_alloc w (.cells #[.int .u8 hi, .int .u8 lo] 5) none)) (rd_two w hi lo (w.heap.size + 1) (by omega)) HM.out)
      go_enter Try.func130, Try.ntmps130
      go_wp2_with fail
      go_at_call 125
      refine HP.out.mono ?_
      rintro e w' ⟨⟨rfl, hE⟩, hkp⟩
      have HE := Lib.hid (hE.putCongr HB.out)
      have HKP := Lib.hid (Keep.pre HC.out (World.grownBy_alloc w (.cells #[.int .u8 hi, .int .u8 lo] 5) none) hkp)
      clear hE HP hkp
      go_wp2_with fail
      go_end0
      exact ⟨⟨rfl, HE.out⟩, HKP.out⟩
  · rw [show min most 65535 = most by omega] at hw
    · have e3 : (n : Int) / 256 = (hi : Int) := by omega
      have HP := Lib.hid (outU8K_any _ 2 2 _ _ (HH.out.grown (World.grownBy_alloc w (.cells #[.int .u8 hi, .int .u8 lo] 5) none)) (rd_two w hi lo (w.heap.size + 1) (by omega)) HM.out)
      go_enter Try.func130, Try.ntmps130
      go_wp2_with fail
      go_at_call 125
      refine HP.out.mono ?_
      rintro e w' ⟨⟨rfl, hE⟩, hkp⟩
      have HE := Lib.hid (hE.putCongr HB.out)
      have HKP := Lib.hid (Keep.pre HC.out (World.grownBy_alloc w (.cells #[.int .u8 hi, .int .u8 lo] 5) none) hkp)
      clear hE HP hkp
      go_wp2_with fail
      go_end0
      exact ⟨⟨rfl, HE.out⟩, HKP.out⟩
theorem outPutOver_any {w0 w : World} {p : Option Addr} {s : OSt} (m c : Nat) (a : Option Addr) (h : OAt w0 w p s) (ho : s.over = true) : Calls Try.prog 123 #[.pointer p, .slice a m c] w (OSays w0 p s) := by
  have HD := Lib.hid (done_any h)
  have HE := Lib.hid h
  rw [ho] at HD
  clear h ho
  go_enter Try.func123, Try.ntmps123
  go_wp2_with fail
  go_at_call 131
  refine HD.out.mono ?_
  rintro e w' ⟨rfl, rfl⟩
  go_wp2_with fail
  go_end0
  exact ⟨rfl, HE.out⟩
/-- Sized, of bytes that lie in a block that is not the writer's. -/
theorem outSized2_any {w0 w : World} {p : Option Addr} {lim n0 : Nat} {f0 : Nat → Nat} (most : Int) (m cv tb o : Nat) (f : Nat → Nat) (h : OAt w0 w p (.good lim n0 f0)) (hfr : Foreign w p tb) (htb : tb < w.heap.size) (hR : ∀ i, i < m → w.cell? ⟨tb, o + i, none⟩ = some (.int .u8 (f i))) (m0 : -9223372036854775808 ≤ most) (m1 : most < 9223372036854775808) (hm : n0 + 2 + m ≤ 2 ^ 46) :
    Calls Try.prog 93 #[.pointer p, .int .i64 most, .slice (some ⟨tb, o, none⟩) m cv] w (OSays w0 p ((OSt.count (.good lim n0 f0) most m).put m f)) := by
  by_cases hw : min most 65535 < (m : Int)
  · have e : OSt.count (.good lim n0 f0) most m = .bad := if_pos hw
    have HC := Lib.hid (outCount_any most m h m0 m1 (by show n0 + 2 ≤ _; omega))
    rw [e] at HC ⊢
    clear h hm m0 m1 hR hfr htb e hw
    go_enter Try.func93, Try.ntmps93
    go_wp2_with fail
    go_at_call 130
    refine HC.out.mono ?_
    rintro e w1 ⟨rfl, hE⟩
    have HP := Lib.hid (outPutOver_any m cv (some ⟨tb, o, none⟩) hE rfl)
    clear hE HC
    go_wp2_with fail
    go_at_call 123
    refine HP.out.mono ?_
    rintro e w' ⟨rfl, hE⟩
    have HE := Lib.hid hE
    clear hE HP
    go_wp2_with fail
    go_end0
    exact ⟨rfl, HE.out⟩
  · have e : OSt.count (.good lim n0 f0) most m = OSt.put (.good lim n0 f0) 2 (nbF m 2) := if_neg hw
    have hp : ∃ g, p = some ⟨g, 0, none⟩ := by
      obtain ⟨g, a, c, h1, _⟩ := h.st
      exact ⟨g, h1⟩
    obtain ⟨g, rfl⟩ := hp
    have HC := Lib.hid (outCountK_any most m h hw m0 m1 (by omega))
    rw [e]
    obtain ⟨t, ht⟩ : ∃ t, t = OSt.put (.good lim n0 f0) 2 (nbF m 2) := ⟨_, rfl⟩
    have HLN : Hid (t.len + m ≤ 2 ^ 46) := by
      have := OSt.len_put (.good lim n0 f0) 2 (nbF m 2)
      rw [← ht] at this
      have h2 : OSt.len (.good lim n0 f0) = n0 := rfl
      show _ ≤ _
      omega
    rw [← ht] at HC ⊢
    have HFR := Lib.hid hfr
    have HTB := Lib.hid htb
    have HR := Lib.hid hR
    clear h hm m0 m1 hR hfr htb e hw ht
    go_enter Try.func93, Try.ntmps93
    go_wp2_with fail
    go_at_call 130
    refine HC.out.mono ?_
    rintro e w1 ⟨⟨rfl, hE⟩, hkp⟩
    have hb := (hkp tb HTB.out HFR.out).1
    have HP := Lib.hid (outPut_any (tb + 1) m cv (some ⟨tb, o, none⟩) f hE ⟨fun _ => ⟨tb, o, rfl, Nat.lt_succ_self _, fun i hi => (World.cell?_of_block (a := ⟨tb, o + i, none⟩) hb).trans (HR.out i hi)⟩⟩ HLN.out)
    clear hE HC hkp hb
    go_wp2_with fail
    go_at_call 123
    refine HP.out.mono ?_
    rintro e w' ⟨rfl, hE⟩
    have HE := Lib.hid hE
    clear hE HP
    go_wp2_with fail
    go_end0
    exact ⟨rfl, HE.out⟩
end Go.Proofs.Ytmbefbmpjkbnmaa
namespace Go.Proofs.Ytmbefbmpjkbnmaa
open Go.RowKit

set_option maxRecDepth 100000
set_option maxHeartbeats 4000000

theorem Keep.trans {w w1 w2 : World} {p : Option Addr} (h1 : Keep w p w1) (h2 : Keep w1 p w2) : Keep w p w2 := fun k hk hf => by
  obtain ⟨e1, f1⟩ := h1 k hk hf
  have hk1 : k < w1.heap.size := by
    by_cases hlt : k < w1.heap.size
    · exact hlt
    · rw [Array.getElem?_eq_none (by omega), Array.getElem?_eq_getElem hk] at e1
      cases e1
  obtain ⟨e2, f2⟩ := h2 k hk1 f1
  exact ⟨e2.trans e1, f2⟩
/-- A good writer at block g, within lim bytes, of n bytes f. -/
abbrev Good (w0 w : World) (g lim n : Nat) (f : Nat → Nat) : Prop := OAt w0 w (some ⟨g, 0, none⟩) (.good lim n f)
/-- It stands so then, and what is not its own as before. -/
abbrev Goes (w0 w : World) (g lim n : Nat) (f : Nat → Nat) (e : Ending) (w' : World) : Prop := OSaysK w0 w (some ⟨g, 0, none⟩) (.good lim n f) e w'
theorem OSt.put_room (lim n m : Nat) (f h : Nat → Nat) (hr : n + m ≤ lim) : OSt.put (.good lim n f) m h = .good lim (n + m) (cat n f h) := by show (if n + m ≤ lim then _ else _) = _; rw [if_pos hr]
section
variable {w0 w w' : World} {g lim n : Nat} {f : Nat → Nat}
theorem OAt.cell0 (h : Good w0 w g lim n f) : ∃ a c, w.cell? ⟨g, 0, none⟩ = some (.slice a n c) := by
  obtain ⟨g', a, c, e, _, h3, _⟩ := h.st
  cases e
  exact ⟨a, c, h3.c0⟩
theorem OAt.base0 (h : Good w0 w g lim n f) : w0.heap.size ≤ g := by
  obtain ⟨g', a, c, e, h2, _⟩ := h.st
  cases e
  exact h2
theorem OAt.lt0 (h : Good w0 w g lim n f) : g < w.heap.size := by
  obtain ⟨a, c, h⟩ := h.cell0
  exact World.block_lt_of_cell? w _ h
/-- A new block is not the writer's. -/
theorem OAt.new (h : Good w0 w g lim n f) {w1 : World} (g1 : w.grownBy w1 none) (k : Nat) (hk : w.heap.size ≤ k) : Foreign w1 (some ⟨g, 0, none⟩) k := by
  obtain ⟨g', a, c, e, _, h3, h4, _⟩ := h.st
  cases e
  intro g2 e
  cases e
  have := World.block_lt_of_cell? w _ h3.c0
  dsimp at this
  refine ⟨by omega, fun b n' c' hcell => ?_⟩
  rw [g1.cell h3.c0 (by simp)] at hcell
  cases hcell
  rcases h4.ex with ⟨e, _⟩ | ⟨b2, cap, e, hO, _⟩
  · cases e
  · cases e
    have := hO.lt
    omega
theorem Foreign.grown {k : Nat} (hf : Foreign w (some ⟨g, 0, none⟩) k) (h : Good w0 w g lim n f) (g1 : w.grownBy w' none) : Foreign w' (some ⟨g, 0, none⟩) k := by
  obtain ⟨a, c, hc⟩ := h.cell0
  intro g2 e
  cases e
  refine ⟨(hf g rfl).1, fun b n' c' hcell => (hf g rfl).2 b n' c' ?_⟩
  rw [g1.cell hc (by simp)] at hcell
  cases hcell
  exact hc
theorem Keep.grown (h : Good w0 w g lim n f) (g1 : w.grownBy w' none) : Keep w (some ⟨g, 0, none⟩) w' := fun k hk hf => ⟨g1.block k hk (by simp), hf.grown h g1⟩
theorem outPutG (D m c : Nat) (a : Option Addr) (h : Nat → Nat) (hO : Good w0 w g lim n f) (hR : Rd w D a m h) (hr : n + m ≤ lim) (hl : lim ≤ 2 ^ 46) : Calls Try.prog 123 #[.pointer (some ⟨g, 0, none⟩), .slice a m c] w (Goes w0 w g lim (n + m) (cat n f h)) := by
  have := outPutK_any D m c a h hO hR (show n + m ≤ _ by omega)
  rwa [OSt.put_room _ _ _ _ _ hr] at this
theorem outU8G (D m c : Nat) (a : Option Addr) (h : Nat → Nat) (hO : Good w0 w g lim n f) (hR : Rd w D a m h) (hr : n + m ≤ lim) (hl : lim ≤ 2 ^ 46) : Calls Try.prog 125 #[.pointer (some ⟨g, 0, none⟩), .slice a m c] w (Goes w0 w g lim (n + m) (cat n f h)) := by
  have := outU8K_any D m c a h hO hR (show n + m ≤ _ by omega)
  rwa [OSt.put_room _ _ _ _ _ hr] at this
end
theorem meas_lt (N k : Nat) (v : Value) (h : v = .int .i64 ((k + 1 : Nat) : Int)) (hk : k < N) : N - (intOf v).toNat < N - (intOf (.int .i64 (k : Int))).toNat := by
  subst h
  simp [intOf]
  omega
/-- One slice. -/
theorem outFixedG {w0 w : World} {g lim n : Nat} {f : Nat → Nat} (D m cv : Nat) (av : Option Addr) (h : Nat → Nat) (tb c : Nat) (hO : Good w0 w g lim n f) (hc : w.cell? ⟨tb, 0, none⟩ = some (.slice av m cv)) (hR : Rd w D av m h) (hr : n + m ≤ lim) (hl : lim ≤ 2 ^ 46) :
    Calls Try.prog 64 #[.pointer (some ⟨g, 0, none⟩), .slice (some ⟨tb, 0, none⟩) 1 c] w (Goes w0 w g lim (n + m) (cat n f h)) := by
  have HP := Lib.hid (outPutG D m cv av h hO hR hr hl)
  clear hO hr hl hR
  go_enter Try.func64, Try.ntmps64
  go_wp2_with fail
  go_loopw [8] (fun u8 wr => (u8 = .int .i64 0 ∧ w = wr) ∨ (u8 = .int .i64 1 ∧ Goes w0 w g lim (n + m) (cat n f h) (.returned (.tuple #[])) wr)) (fun u8 _ => 2 - (intOf u8).toNat)
  case atStart => exact Or.inl ⟨rfl, rfl⟩
  case round =>
    rcases hrel with ⟨rfl, rfl⟩ | ⟨rfl, hE⟩
    · go_wp2_with fail
      go_at_call 123
      refine HP.out.mono ?_
      rintro e w' hE
      obtain ⟨⟨rfl, h1⟩, h2⟩ := hE
      have HE := Lib.hid (show Goes w0 w g lim (n + m) (cat n f h) (.returned (.tuple #[])) w' from ⟨⟨rfl, h1⟩, h2⟩)
      clear h1 h2 HP
      go_wp2_with fail
      go_roundw
      case rel => exact Or.inr ⟨rfl, HE.out⟩
      case measure => decide
    · have HE := Lib.hid hE
      clear hE
      go_wp2_with fail
      go_end0
      exact HE.out
/-- Two slices; the second one's bytes lie in a block that is not the writer's. -/
theorem outFixedG2 {w0 w : World} {g lim n : Nat} {f : Nat → Nat} (D m cv : Nat) (av : Option Addr) (h : Nat → Nat) (B o m2 cv2 : Nat) (h2 : Nat → Nat) (tb c : Nat) (hO : Good w0 w g lim n f) (hft : Foreign w (some ⟨g, 0, none⟩) tb) (hc : w.cell? ⟨tb, 0, none⟩ = some (.slice av m cv)) (hc2 : w.cell? ⟨tb, 1, none⟩ = some (.slice (some ⟨B, o, none⟩) m2 cv2)) (hR : Rd w D av m h)
    (hfB : Foreign w (some ⟨g, 0, none⟩) B) (hB : B < w.heap.size) (hR2 : ∀ i, i < m2 → w.cell? ⟨B, o + i, none⟩ = some (.int .u8 (h2 i))) (hr : n + m + m2 ≤ lim) (hl : lim ≤ 2 ^ 46) :
    Calls Try.prog 64 #[.pointer (some ⟨g, 0, none⟩), .slice (some ⟨tb, 0, none⟩) 2 c] w (Goes w0 w g lim (n + m + m2) (cat (n + m) (cat n f h) h2)) := by
  have HP := Lib.hid (outPutG D m cv av h hO hR (by omega) hl)
  have htb := World.block_lt_of_cell? w _ hc
  dsimp at htb
  have HX : Hid (∀ w', Goes w0 w g lim (n + m) (cat n f h) (.returned (.tuple #[])) w' → w'.cell? ⟨tb, 1, none⟩ = some (.slice (some ⟨B, o, none⟩) m2 cv2) ∧ Calls Try.prog 123 #[.pointer (some ⟨g, 0, none⟩), .slice (some ⟨B, o, none⟩) m2 cv2] w' (Goes w0 w' g lim (n + m + m2) (cat (n + m) (cat n f h) h2))) := fun w' hE => by
    have e1 := (hE.kp tb htb hft).1
    have e2 := (hE.kp B hB hfB).1
    exact ⟨(World.cell?_of_block (a := ⟨tb, 1, none⟩) e1).trans hc2, outPutG (B + 1) m2 cv2 (some ⟨B, o, none⟩) h2 hE.says.st ⟨fun _ => ⟨B, o, rfl, Nat.lt_succ_self _, fun i hi => (World.cell?_of_block (a := ⟨B, o + i, none⟩) e2).trans (hR2 i hi)⟩⟩ hr hl⟩
  clear hO hr hl hR hft hfB hB hR2 htb hc2
  go_enter Try.func64, Try.ntmps64
  go_wp2_with fail
  go_loopw [8] (fun u8 wr => (u8 = .int .i64 0 ∧ w = wr) ∨ (u8 = .int .i64 1 ∧ Goes w0 w g lim (n + m) (cat n f h) (.returned (.tuple #[])) wr) ∨ (u8 = .int .i64 2 ∧ Goes w0 w g lim (n + m + m2) (cat (n + m) (cat n f h) h2) (.returned (.tuple #[])) wr)) (fun u8 _ => 3 - (intOf u8).toNat)
  case atStart => exact Or.inl ⟨rfl, rfl⟩
  case round =>
    rcases hrel with ⟨rfl, rfl⟩ | ⟨rfl, hE⟩ | ⟨rfl, hE⟩
    · go_wp2_with fail
      go_at_call 123
      refine HP.out.mono ?_
      rintro e w' hE
      obtain ⟨⟨rfl, h1⟩, h2⟩ := hE
      have HE := Lib.hid (show Goes w0 w g lim (n + m) (cat n f h) (.returned (.tuple #[])) w' from ⟨⟨rfl, h1⟩, h2⟩)
      clear h1 h2 HP
      go_wp2_with fail
      go_roundw
      case rel => exact Or.inr (Or.inl ⟨rfl, HE.out⟩)
      case measure => decide
    · obtain ⟨cc, hcall⟩ := HX.out _ hE
      have HC := Lib.hid hcall
      have HK := Lib.hid hE.kp
      clear hcall hE HP HX hc
      go_wp2_with fail
      go_at_call 123
      refine HC.out.mono ?_
      rintro e w' hE
      obtain ⟨⟨rfl, h1⟩, h3⟩ := hE
      have HE := Lib.hid (show Goes w0 w g lim (n + m + m2) (cat (n + m) (cat n f h) h2) (.returned (.tuple #[])) w' from ⟨⟨rfl, h1⟩, HK.out.trans h3⟩)
      clear h1 h3 HC cc
      go_wp2_with fail
      go_roundw
      case rel => exact Or.inr (Or.inr ⟨rfl, HE.out⟩)
      case measure => decide
    · have HE := Lib.hid hE
      clear hE
      go_wp2_with fail
      go_end0
      exact HE.out
theorem outFlagG {w0 w : World} {g lim n : Nat} {f : Nat → Nat} (b : Bool) (tb c : Nat) (hO : Good w0 w g lim n f) (hc : w.cell? ⟨tb, 0, none⟩ = some (.bool b)) (hr : n + 1 ≤ lim) (hl : lim ≤ 2 ^ 46) :
    Calls Try.prog 134 #[.pointer (some ⟨g, 0, none⟩), .slice (some ⟨tb, 0, none⟩) 1 c] w (Goes w0 w g lim (n + 1) (cat n f (fun _ => flagB b))) := by
  have H := Lib.hid hO
  have HM : Hid (n + 1 ≤ lim ∧ lim ≤ 2 ^ 46) := ⟨hr, hl⟩
  clear hO hr hl
  go_enter Try.func134, Try.ntmps134
  go_wp2_with fail
  go_loopw [8] (fun u8 wr => (u8 = .int .i64 0 ∧ w = wr) ∨ (u8 = .int .i64 1 ∧ Goes w0 w g lim (n + 1) (cat n f (fun _ => flagB b)) (.returned (.tuple #[])) wr)) (fun u8 _ => 2 - (intOf u8).toNat)
  case atStart => exact Or.inl ⟨rfl, rfl⟩
  case round =>
    rcases hrel with ⟨rfl, rfl⟩ | ⟨rfl, hE⟩
    · cases b with
      | false =>
        have g1 := World.grownBy_alloc w (.cells #[.int .u8 0] 5) none
        have HP := Lib.hid (outU8G _ 1 1 _ _ (H.out.grown g1) (rd_one w 0 (w.heap.size + 1) (by omega)) HM.out.1 HM.out.2)
        have HK := Lib.hid (Keep.grown H.out g1)
        clear g1
        go_wp2_with fail
        go_at_call 125
        refine HP.out.mono ?_
        rintro e w' hE
        obtain ⟨⟨rfl, h1⟩, h3⟩ := hE
        have HE := Lib.hid (show Goes w0 w g lim (n + 1) (cat n f (fun _ => flagB false)) (.returned (.tuple #[])) w' from ⟨⟨rfl, h1⟩, HK.out.trans h3⟩)
        clear h1 h3 HP
        go_wp2_with fail
        go_roundw
        case rel => exact Or.inr ⟨rfl, HE.out⟩
        case measure => decide
      | true =>
        have g1 := World.grownBy_alloc w (.cells #[.int .u8 1] 5) none
        have HP := Lib.hid (outU8G _ 1 1 _ _ (H.out.grown g1) (rd_one w 1 (w.heap.size + 1) (by omega)) HM.out.1 HM.out.2)
        have HK := Lib.hid (Keep.grown H.out g1)
        clear g1
        go_wp2_with fail
        go_at_call 125
        refine HP.out.mono ?_
        rintro e w' hE
        obtain ⟨⟨rfl, h1⟩, h3⟩ := hE
        have HE := Lib.hid (show Goes w0 w g lim (n + 1) (cat n f (fun _ => flagB true)) (.returned (.tuple #[])) w' from ⟨⟨rfl, h1⟩, HK.out.trans h3⟩)
        clear h1 h3 HP
        go_wp2_with fail
        go_roundw
        case rel => exact Or.inr ⟨rfl, HE.out⟩
        case measure => decide
    · have HE := Lib.hid hE
      clear hE
      go_wp2_with fail
      go_end0
      exact HE.out
theorem outSizedG {w0 w : World} {g lim n : Nat} {f : Nat → Nat} (most : Int) (D m c : Nat) (a : Option Addr) (h : Nat → Nat) (hO : Good w0 w g lim n f) (hw : ¬ min most 65535 < (m : Int)) (hR : Rd w0 D a m h) (m0 : -9223372036854775808 ≤ most) (m1 : most < 9223372036854775808) (hr : n + 2 + m ≤ lim) (hl : lim ≤ 2 ^ 46) :
    Calls Try.prog 93 #[.pointer (some ⟨g, 0, none⟩), .int .i64 most, .slice a m c] w (Goes w0 w g lim (n + 2 + m) (cat (n + 2) (cat n f (nbF m 2)) h)) := by
  have HC := Lib.hid (outCountK_any most m hO hw m0 m1 (by omega))
  rw [OSt.put_room _ _ _ _ _ (by omega)] at HC
  have HX : Hid (∀ w', Goes w0 w g lim (n + 2) (cat n f (nbF m 2)) (.returned (.tuple #[])) w' → Calls Try.prog 123 #[.pointer (some ⟨g, 0, none⟩), .slice a m c] w' (Goes w0 w' g lim (n + 2 + m) (cat (n + 2) (cat n f (nbF m 2)) h))) := fun w' hE =>
    outPutG D m c a h hE.says.st (hR.grown hE.says.st.gr (by simp)) hr hl
  clear hO hw hR m0 m1 hr hl
  go_enter Try.func93, Try.ntmps93
  go_wp2_with fail
  go_at_call 130
  refine HC.out.mono ?_
  rintro e w1 ⟨⟨rfl, h1⟩, h3⟩
  have HP := Lib.hid (HX.out w1 ⟨⟨rfl, h1⟩, h3⟩)
  have HK := Lib.hid h3
  clear HX HC h1 h3
  go_wp2_with fail
  go_at_call 123
  refine HP.out.mono ?_
  rintro e w' ⟨⟨rfl, h1⟩, h3⟩
  have HE := Lib.hid (show Goes w0 w g lim (n + 2 + m) (cat (n + 2) (cat n f (nbF m 2)) h) (.returned (.tuple #[])) w' from ⟨⟨rfl, h1⟩, HK.out.trans h3⟩)
  clear h1 h3 HP
  go_wp2_with fail
  go_end0
  exact HE.out
end Go.Proofs.Ytmbefbmpjkbnmaa
namespace Go.Proofs.Ytmbefbmpjkbnmaa
open Go.RowKit

set_option maxRecDepth 100000
set_option maxHeartbeats 4000000

/-- So many numbers of 32 bits behind. -/
def nums32 (n : Nat) (f x : Nat → Nat) : Nat → (Nat → Nat)
  | 0 => f
  | i + 1 => cat (n + 4 * i) (nums32 n f x i) (nbF (x i) 4)
theorem nums32_succ (n : Nat) (f x : Nat → Nat) (i : Nat) : nums32 n f x (i + 1) = cat (n + 4 * i) (nums32 n f x i) (nbF (x i) 4) := rfl
theorem outNums32G {w0 w : World} {g lim n : Nat} {f : Nat → Nat} (N tb c : Nat) (x : Nat → Nat) (hO : Good w0 w g lim n f) (hft : Foreign w (some ⟨g, 0, none⟩) tb) (htb : tb < w.heap.size) (hN : N ≤ 1000) (hx : ∀ i, x i < 4294967296) (hc : ∀ i, i < N → w.cell? ⟨tb, 0 + i, none⟩ = some (.int .u32 (x i))) (hr : n + 4 * N ≤ lim) (hl : lim ≤ 2 ^ 46) :
    Calls Try.prog 136 #[.pointer (some ⟨g, 0, none⟩), .int .i64 4, .slice (some ⟨tb, 0, none⟩) N c] w (Goes w0 w g lim (n + 4 * N) (nums32 n f x N)) := by
  have HC := Lib.hid (And.intro hft (And.intro htb hc))
  have HM := Lib.hid (And.intro hr hl)
  have HX := Lib.hid hx
  have HN := Lib.hid hN
  have HO := Lib.hid hO
  clear hO hft htb hc hr hl hx hN
  go_enter Try.func136, Try.ntmps136
  go_wp2_with fail
  go_loopw [12] (fun u12 wr => ∃ i : Nat, i ≤ N ∧ u12 = .int .i64 i ∧ Goes w0 w g lim (n + 4 * i) (nums32 n f x i) (.returned (.tuple #[])) wr) (fun u12 _ => N - (intOf u12).toNat)
  case atStart => exact ⟨0, Nat.zero_le _, rfl, ⟨rfl, HO.out⟩, Keep.refl _ _⟩
  case round =>
    obtain ⟨k, hk, rfl, hG⟩ := hrel
    obtain ⟨N', hN'⟩ : ∃ y, y = N := ⟨_, rfl⟩
    have HNN := Lib.hid hN'
    by_cases hlt : k < N
    · have j0 : (k : Int) < (N : Int) := by omega
      have cx := (World.cell?_of_block (a := ⟨tb, 0 + k, none⟩) (hG.kp tb HC.out.2.1 HC.out.1).1).trans (HC.out.2.2 k hlt)
      rw [Nat.zero_add] at cx
      obtain ⟨y, hy⟩ : ∃ y, y = x k := ⟨_, rfl⟩
      rw [← hy] at cx
      have HY : Hid (y < 4294967296) := Lib.hid (by rw [hy]; exact HX.out k)
      have HYY := Lib.hid hy
      have gr0 := World.grownBy_alloc wr (.cells #[.int .u8 0, .int .u8 0, .int .u8 0, .int .u8 0, .int .u8 0, .int .u8 0, .int .u8 0, .int .u8 0] 213) none
      have hH := holds_alloc wr 213 .u8 8 (fun _ => 0) #[.int .u8 0, .int .u8 0, .int .u8 0, .int .u8 0, .int .u8 0, .int .u8 0, .int .u8 0, .int .u8 0] rfl
      have Gr := Lib.hid gr0
      have HH := Lib.hid hH
      have HG := Lib.hid hG
      have HLT := Lib.hid hlt
      have HK := Lib.hid hk
      clear gr0 hH hG hy hlt hk hN'
      have HNB := Lib.hid (show wrap64 ((k : Int) + 1) = ((k + 1 : Nat) : Int) by have := HLT.out; have := HN.out; unfold wrap64; omega)
      go_wp2_with fail
      obtain ⟨B, hB⟩ : ∃ B, B = wr.heap.size := ⟨_, rfl⟩
      have hH := HH.out
      have gr0 := Gr.out
      rw [← hB] at hH ⊢
      clear HH Gr
      have HB := Lib.hid hB
      clear hB
      generalize wr.alloc (.cells #[.int .u8 0, .int .u8 0, .int .u8 0, .int .u8 0, .int .u8 0, .int .u8 0, .int .u8 0, .int .u8 0] 213) = w1 at *
      obtain ⟨wr2, hwr2⟩ : ∃ y, y = wr := ⟨_, rfl⟩
      rw [← hwr2] at HB HG gr0
      clear hwr2 cx
      go_loopw [17] (fun u17 w2 => ∃ i : Nat, i ≤ 4 ∧ u17 = .int .i64 i ∧ Holds w2 B 213 .u8 8 (fun j => if 4 ≤ j + i ∧ j < 4 then nbF y 4 j else 0) ∧ wr2.grownBy w2 none) (fun u17 _ => 4 - (intOf u17).toNat)
      case atStart => exact ⟨0, Nat.zero_le _, rfl, hH.congr (fun j hj => (if_neg (by omega)).symm), gr0⟩
      case round =>
        clear hH gr0
        obtain ⟨i, hi, rfl, hH, gr⟩ := hrel
        by_cases hlt : i < 4
        · have c0 := hH.cell (4 - 1 - i) (by omega)
          have f0 := hH.frozen (4 - 1 - i)
          have Hi := Lib.hid hi
          have HL := Lib.hid hlt
          clear hi hlt
          have j1 : (i : Int) < 4 := by have := HL.out; omega
          obtain ⟨q, hq⟩ : ∃ q, q = nbF y 4 (4 - 1 - i) := ⟨_, rfl⟩
          have x0 := shr_byte y 4 i HL.out
          rw [← hq] at x0
          have hH2 := (hH.set (4 - 1 - i) q).congr (g := fun j => if 4 ≤ j + (i + 1) ∧ j < 4 then nbF y 4 j else 0) (fun j hj => by
            have := HL.out
            by_cases e : j = 4 - 1 - i
            · subst e; rw [upd_same, if_pos (by omega), hq]
            · rw [upd_other _ _ _ _ e]
              by_cases e2 : 4 ≤ j + i ∧ j < 4
              · rw [if_pos e2, if_pos (by omega)]
              · rw [if_neg e2, if_neg (by omega)])
          have g2 := grown_setCell_new gr ⟨B, 4 - 1 - i, none⟩ (.int .u8 (q : Nat)) (Or.inl (by show wr2.heap.size ≤ B; have := HB.out; omega))
          have HH2 := Lib.hid hH2
          have G2 := Lib.hid g2
          clear hH2 g2 hH gr hq
          go_wp2_with fail
          go_roundw
          case rel => exact ⟨i + 1, HL.out, by go_num, HH2.out, G2.out⟩
          case measure =>
            have := HL.out
            simp [intOf]
            try omega
        · obtain rfl : i = 4 := by omega
          have hE := hH.congr (g := fun j => if j < 4 then nbF y 4 j else 0) (fun j hj => by by_cases e : j < 4 <;> simp [e])
          have hR : Rd wr wr.heap.size (some ⟨B, 0, none⟩) 4 (nbF y 4) := (hE.rd _ hE.lt 4 (by decide)).congr (fun j hj => if_pos hj)
          have HP := Lib.hid (outPutG wr.heap.size 4 8 (some ⟨B, 0, none⟩) (nbF y 4) (HG.out.says.st.grown gr) hR (by have := HM.out.1; have := HLT.out; omega) HM.out.2)
          have HKK := Lib.hid (HG.out.kp.trans (Keep.grown HG.out.says.st gr))
          clear hE hR hH gr hi hlt
          go_wp2_with fail
          go_at_call 123
          refine HP.out.mono ?_
          rintro e w3 hE
          obtain ⟨⟨rfl, h1⟩, h3⟩ := hE
          have HE : Hid (Goes w0 w g lim (n + 4 * (k + 1)) (nums32 n f x (k + 1)) (.returned (.tuple #[])) w3) := Lib.hid (by
            rw [show n + 4 * (k + 1) = n + 4 * k + 4 by omega, nums32_succ, ← HYY.out]
            exact ⟨⟨rfl, h1⟩, HKK.out.trans h3⟩)
          clear h1 h3 HP HKK HG
          go_wp2_with fail
          go_roundw
          case rel => exact ⟨k + 1, HLT.out, by rw [HNB.out], HE.out⟩
          case measure =>
            have := HLT.out
            exact meas_lt N k _ (by rw [HNB.out]) HLT.out
    · obtain rfl : k = N := by omega
      have HE := Lib.hid hG
      clear hG hk hlt hN'
      go_wp2_with fail
      go_end0
      exact HE.out
theorem outU32G {w0 w : World} {g lim n : Nat} {f : Nat → Nat} (N tb c : Nat) (x : Nat → Nat) (hO : Good w0 w g lim n f) (hft : Foreign w (some ⟨g, 0, none⟩) tb) (htb : tb < w.heap.size) (hN : N ≤ 1000) (hx : ∀ i, x i < 4294967296) (hc : ∀ i, i < N → w.cell? ⟨tb, 0 + i, none⟩ = some (.int .u32 (x i))) (hr : n + 4 * N ≤ lim) (hl : lim ≤ 2 ^ 46) :
    Calls Try.prog 102 #[.pointer (some ⟨g, 0, none⟩), .slice (some ⟨tb, 0, none⟩) N c] w (Goes w0 w g lim (n + 4 * N) (nums32 n f x N)) := by
  have HP := Lib.hid (outNums32G N tb c x hO hft htb hN hx hc hr hl)
  clear hO hft htb hN hx hc hr hl
  go_enter Try.func102, Try.ntmps102
  go_wp2_with fail
  go_at_call 136
  refine HP.out.mono ?_
  rintro e w' ⟨⟨rfl, h1⟩, h3⟩
  have HE := Lib.hid (show Goes w0 w g lim (n + 4 * N) (nums32 n f x N) (.returned (.tuple #[])) w' from ⟨⟨rfl, h1⟩, h3⟩)
  clear h1 h3 HP
  go_wp2_with fail
  go_end0
  exact HE.out
end Go.Proofs.Ytmbefbmpjkbnmaa
namespace Go.Proofs.Ytmbefbmpjkbnmaa
open Go.RowKit

set_option maxRecDepth 100000
set_option maxHeartbeats 4000000

/-- So many numbers of 64 bits behind. -/
def nums64 (n : Nat) (f x : Nat → Nat) : Nat → (Nat → Nat)
  | 0 => f
  | i + 1 => cat (n + 8 * i) (nums64 n f x i) (nbF (x i) 8)
theorem nums64_succ (n : Nat) (f x : Nat → Nat) (i : Nat) : nums64 n f x (i + 1) = cat (n + 8 * i) (nums64 n f x i) (nbF (x i) 8) := rfl
theorem outNums64G {w0 w : World} {g lim n : Nat} {f : Nat → Nat} (N tb c : Nat) (x : Nat → Nat) (hO : Good w0 w g lim n f) (hft : Foreign w (some ⟨g, 0, none⟩) tb) (htb : tb < w.heap.size) (hN : N ≤ 1000) (hx : ∀ i, x i < 18446744073709551616) (hc : ∀ i, i < N → w.cell? ⟨tb, 0 + i, none⟩ = some (.int .u64 (x i))) (hr : n + 8 * N ≤ lim) (hl : lim ≤ 2 ^ 46) :
    Calls Try.prog 124 #[.pointer (some ⟨g, 0, none⟩), .int .i64 8, .slice (some ⟨tb, 0, none⟩) N c] w (Goes w0 w g lim (n + 8 * N) (nums64 n f x N)) := by
  have HC := Lib.hid (And.intro hft (And.intro htb hc))
  have HM := Lib.hid (And.intro hr hl)
  have HX := Lib.hid hx
  have HN := Lib.hid hN
  have HO := Lib.hid hO
  clear hO hft htb hc hr hl hx hN
  go_enter Try.func124, Try.ntmps124
  go_wp2_with fail
  go_loopw [12] (fun u12 wr => ∃ i : Nat, i ≤ N ∧ u12 = .int .i64 i ∧ Goes w0 w g lim (n + 8 * i) (nums64 n f x i) (.returned (.tuple #[])) wr) (fun u12 _ => N - (intOf u12).toNat)
  case atStart => exact ⟨0, Nat.zero_le _, rfl, ⟨rfl, HO.out⟩, Keep.refl _ _⟩
  case round =>
    obtain ⟨k, hk, rfl, hG⟩ := hrel
    obtain ⟨N', hN'⟩ : ∃ y, y = N := ⟨_, rfl⟩
    have HNN := Lib.hid hN'
    by_cases hlt : k < N
    · have j0 : (k : Int) < (N : Int) := by omega
      have cx := (World.cell?_of_block (a := ⟨tb, 0 + k, none⟩) (hG.kp tb HC.out.2.1 HC.out.1).1).trans (HC.out.2.2 k hlt)
      rw [Nat.zero_add] at cx
      obtain ⟨y, hy⟩ : ∃ y, y = x k := ⟨_, rfl⟩
      rw [← hy] at cx
      have HY : Hid (y < 18446744073709551616) := Lib.hid (by rw [hy]; exact HX.out k)
      have HYY := Lib.hid hy
      have gr0 := World.grownBy_alloc wr (.cells #[.int .u8 0, .int .u8 0, .int .u8 0, .int .u8 0, .int .u8 0, .int .u8 0, .int .u8 0, .int .u8 0] 213) none
      have hH := holds_alloc wr 213 .u8 8 (fun _ => 0) #[.int .u8 0, .int .u8 0, .int .u8 0, .int .u8 0, .int .u8 0, .int .u8 0, .int .u8 0, .int .u8 0] rfl
      have Gr := Lib.hid gr0
      have HH := Lib.hid hH
      have HG := Lib.hid hG
      have HLT := Lib.hid hlt
      have HK := Lib.hid hk
      clear gr0 hH hG hy hlt hk hN'
      have HNB := Lib.hid (show wrap64 ((k : Int) + 1) = ((k + 1 : Nat) : Int) by have := HLT.out; have := HN.out; unfold wrap64; omega)
      go_wp2_with fail
      obtain ⟨B, hB⟩ : ∃ B, B = wr.heap.size := ⟨_, rfl⟩
      have hH := HH.out
      have gr0 := Gr.out
      rw [← hB] at hH ⊢
      clear HH Gr
      have HB := Lib.hid hB
      clear hB
      generalize wr.alloc (.cells #[.int .u8 0, .int .u8 0, .int .u8 0, .int .u8 0, .int .u8 0, .int .u8 0, .int .u8 0, .int .u8 0] 213) = w1 at *
      obtain ⟨wr2, hwr2⟩ : ∃ y, y = wr := ⟨_, rfl⟩
      rw [← hwr2] at HB HG gr0
      clear hwr2 cx
      go_loopw [17] (fun u17 w2 => ∃ i : Nat, i ≤ 8 ∧ u17 = .int .i64 i ∧ Holds w2 B 213 .u8 8 (fun j => if 8 ≤ j + i ∧ j < 8 then nbF y 8 j else 0) ∧ wr2.grownBy w2 none) (fun u17 _ => 8 - (intOf u17).toNat)
      case atStart => exact ⟨0, Nat.zero_le _, rfl, hH.congr (fun j hj => (if_neg (by omega)).symm), gr0⟩
      case round =>
        clear hH gr0
        obtain ⟨i, hi, rfl, hH, gr⟩ := hrel
        by_cases hlt : i < 8
        · have c0 := hH.cell (8 - 1 - i) (by omega)
          have f0 := hH.frozen (8 - 1 - i)
          have Hi := Lib.hid hi
          have HL := Lib.hid hlt
          clear hi hlt
          have j1 : (i : Int) < 8 := by have := HL.out; omega
          obtain ⟨q, hq⟩ : ∃ q, q = nbF y 8 (8 - 1 - i) := ⟨_, rfl⟩
          have x0 := shr_byte y 8 i HL.out
          rw [← hq] at x0
          have hH2 := (hH.set (8 - 1 - i) q).congr (g := fun j => if 8 ≤ j + (i + 1) ∧ j < 8 then nbF y 8 j else 0) (fun j hj => by
            have := HL.out
            by_cases e : j = 8 - 1 - i
            · subst e; rw [upd_same, if_pos (by omega), hq]
            · rw [upd_other _ _ _ _ e]
              by_cases e2 : 8 ≤ j + i ∧ j < 8
              · rw [if_pos e2, if_pos (by omega)]
              · rw [if_neg e2, if_neg (by omega)])
          have g2 := grown_setCell_new gr ⟨B, 8 - 1 - i, none⟩ (.int .u8 (q : Nat)) (Or.inl (by show wr2.heap.size ≤ B; have := HB.out; omega))
          have HH2 := Lib.hid hH2
          have G2 := Lib.hid g2
          clear hH2 g2 hH gr hq
          go_wp2_with fail
          go_roundw
          case rel => exact ⟨i + 1, HL.out, by go_num, HH2.out, G2.out⟩
          case measure =>
            have := HL.out
            simp [intOf]
            try omega
        · obtain rfl : i = 8 := by omega
          have hE := hH.congr (g := fun j => if j < 8 then nbF y 8 j else 0) (fun j hj => by by_cases e : j < 8 <;> simp [e])
          have hR : Rd wr wr.heap.size (some ⟨B, 0, none⟩) 8 (nbF y 8) := (hE.rd _ hE.lt 8 (by decide)).congr (fun j hj => if_pos hj)
          have HP := Lib.hid (outPutG wr.heap.size 8 8 (some ⟨B, 0, none⟩) (nbF y 8) (HG.out.says.st.grown gr) hR (by have := HM.out.1; have := HLT.out; omega) HM.out.2)
          have HKK := Lib.hid (HG.out.kp.trans (Keep.grown HG.out.says.st gr))
          clear hE hR hH gr hi hlt
          go_wp2_with fail
          go_at_call 123
          refine HP.out.mono ?_
          rintro e w3 hE
          obtain ⟨⟨rfl, h1⟩, h3⟩ := hE
          have HE : Hid (Goes w0 w g lim (n + 8 * (k + 1)) (nums64 n f x (k + 1)) (.returned (.tuple #[])) w3) := Lib.hid (by
            rw [show n + 8 * (k + 1) = n + 8 * k + 8 by omega, nums64_succ, ← HYY.out]
            exact ⟨⟨rfl, h1⟩, HKK.out.trans h3⟩)
          clear h1 h3 HP HKK HG
          go_wp2_with fail
          go_roundw
          case rel => exact ⟨k + 1, HLT.out, by rw [HNB.out], HE.out⟩
          case measure =>
            have := HLT.out
            exact meas_lt N k _ (by rw [HNB.out]) HLT.out
    · obtain rfl : k = N := by omega
      have HE := Lib.hid hG
      clear hG hk hlt hN'
      go_wp2_with fail
      go_end0
      exact HE.out
theorem outU64G {w0 w : World} {g lim n : Nat} {f : Nat → Nat} (N tb c : Nat) (x : Nat → Nat) (hO : Good w0 w g lim n f) (hft : Foreign w (some ⟨g, 0, none⟩) tb) (htb : tb < w.heap.size) (hN : N ≤ 1000) (hx : ∀ i, x i < 18446744073709551616) (hc : ∀ i, i < N → w.cell? ⟨tb, 0 + i, none⟩ = some (.int .u64 (x i))) (hr : n + 8 * N ≤ lim) (hl : lim ≤ 2 ^ 46) :
    Calls Try.prog 65 #[.pointer (some ⟨g, 0, none⟩), .slice (some ⟨tb, 0, none⟩) N c] w (Goes w0 w g lim (n + 8 * N) (nums64 n f x N)) := by
  have HP := Lib.hid (outNums64G N tb c x hO hft htb hN hx hc hr hl)
  clear hO hft htb hN hx hc hr hl
  go_enter Try.func65, Try.ntmps65
  go_wp2_with fail
  go_at_call 124
  refine HP.out.mono ?_
  rintro e w' ⟨⟨rfl, h1⟩, h3⟩
  have HE := Lib.hid (show Goes w0 w g lim (n + 8 * N) (nums64 n f x N) (.returned (.tuple #[])) w' from ⟨⟨rfl, h1⟩, h3⟩)
  clear h1 h3 HP
  go_wp2_with fail
  go_end0
  exact HE.out
end Go.Proofs.Ytmbefbmpjkbnmaa
namespace Go.Proofs.Ytmbefbmpjkbnmaa
open Go.RowKit

set_option maxRecDepth 100000
set_option maxHeartbeats 4000000

/-- A good writer, and n cells that are not its own; since wS what is not its own stands still. -/
structure PX (w0 wS w : World) (g lim n : Nat) (f : Nat → Nat) (B : Nat) (T : TypeId) (N : Nat) (v : Nat → Value) : Prop where
  out : Good w0 w g lim n f
  row : RowAt w B T N v
  fr : Foreign w (some ⟨g, 0, none⟩) B
  kp : Keep wS (some ⟨g, 0, none⟩) w
section
variable {w0 wS w w' : World} {g lim n : Nat} {f : Nat → Nat} {B : Nat} {T : TypeId} {N : Nat} {v : Nat → Value}
theorem PX.begin (h : Good w0 w g lim n f) (T : TypeId) (N : Nat) (v : Nat → Value) : PX w0 w (w.alloc (.cells (rowOf N v) T)) g lim n f w.heap.size T N v :=
  have g1 := World.grownBy_alloc w (.cells (rowOf N v) T) none
  ⟨h.grown g1, RowAt.new w T N v _ rfl, h.new g1 _ (Nat.le_refl _), Keep.grown h g1⟩
theorem PX.grown (h : PX w0 wS w g lim n f B T N v) (g1 : w.grownBy w' none) : PX w0 wS w' g lim n f B T N v :=
  ⟨h.out.grown g1, h.row.grown g1 (by simp), h.fr.grown h.out g1, h.kp.trans (Keep.grown h.out g1)⟩
theorem PX.call (h : PX w0 wS w g lim n f B T N v) {n' : Nat} {f' : Nat → Nat} {e : Ending} (hs : Goes w0 w g lim n' f' e w') : e = .returned (.tuple #[]) ∧ PX w0 wS w' g lim n' f' B T N v :=
  have hb := hs.kp B h.row.lt h.fr
  ⟨hs.says.ex, hs.says.st, ⟨hb.1.trans h.row.block⟩, hb.2, h.kp.trans hs.kp⟩
theorem PX.done (h : PX w0 wS w g lim n f B T N v) : Goes w0 wS g lim n f (.returned (.tuple #[])) w := ⟨⟨rfl, h.out⟩, h.kp⟩
theorem PX.rd (h : PX w0 wS w g lim n f B T N v) (o m : Nat) (fb : Nat → Nat) (ho : o + m ≤ N) (hv : ∀ i, i < m → v (o + i) = .int .u8 (fb i)) : Rd w (B + 1) (some ⟨B, o, none⟩) m fb :=
  ⟨fun _ => ⟨B, o, rfl, Nat.lt_succ_self _, fun i hi => by rw [h.row.cell (o + i) (by omega), hv i hi]⟩⟩
/-- What a call that follows leaves. -/
abbrev Left (w0 wS : World) (g lim n : Nat) (f : Nat → Nat) (B : Nat) (T : TypeId) (N : Nat) (v : Nat → Value) (e : Ending) (w' : World) : Prop := e = .returned (.tuple #[]) ∧ PX w0 wS w' g lim n f B T N v
theorem PX.fixed (h : PX w0 wS w g lim n f B T N v) (T' : TypeId) (o m cv : Nat) (fb : Nat → Nat) (ho : o + m ≤ N) (hv : ∀ i, i < m → v (o + i) = .int .u8 (fb i)) (hr : n + m ≤ lim) (hl : lim ≤ 2 ^ 46) :
    Calls Try.prog 64 #[.pointer (some ⟨g, 0, none⟩), .slice (some ⟨w.heap.size, 0, none⟩) 1 1] (w.alloc (.cells #[.slice (some ⟨B, o, none⟩) m cv] T')) (Left w0 wS g lim (n + m) (cat n f fb) B T N v) := by
  have h2 := h.grown (World.grownBy_alloc w (.cells #[.slice (some ⟨B, o, none⟩) m cv] T') none)
  exact (outFixedG (B + 1) m cv (some ⟨B, o, none⟩) fb w.heap.size 1 h2.out (cell_of_row _ _ _ _ _ _ (heap_alloc_new w _)) (h2.rd o m fb ho hv) hr hl).mono fun e w' hs => h2.call hs
theorem PX.fixed2 (h : PX w0 wS w g lim n f B T N v) (T' : TypeId) (o m cv : Nat) (fb : Nat → Nat) (o2 m2 cv2 : Nat) (fb2 : Nat → Nat) (ho : o + m ≤ N) (hv : ∀ i, i < m → v (o + i) = .int .u8 (fb i)) (ho2 : o2 + m2 ≤ N) (hv2 : ∀ i, i < m2 → v (o2 + i) = .int .u8 (fb2 i)) (hr : n + m + m2 ≤ lim) (hl : lim ≤ 2 ^ 46) :
    Calls Try.prog 64 #[.pointer (some ⟨g, 0, none⟩), .slice (some ⟨w.heap.size, 0, none⟩) 2 2] (w.alloc (.cells #[.slice (some ⟨B, o, none⟩) m cv, .slice (some ⟨B, o2, none⟩) m2 cv2] T')) (Left w0 wS g lim (n + m + m2) (cat (n + m) (cat n f fb) fb2) B T N v) := by
  have g1 := World.grownBy_alloc w (.cells #[.slice (some ⟨B, o, none⟩) m cv, .slice (some ⟨B, o2, none⟩) m2 cv2] T') none
  have h2 := h.grown g1
  exact (outFixedG2 (B + 1) m cv (some ⟨B, o, none⟩) fb B o2 m2 cv2 fb2 w.heap.size 2 h2.out (h.out.new g1 _ (Nat.le_refl _)) (cell_of_row _ _ _ _ _ _ (heap_alloc_new w _)) (cell_of_row _ _ _ _ _ _ (heap_alloc_new w _)) (h2.rd o m fb ho hv) h2.fr h2.row.lt
    (fun i hi => by rw [h2.row.cell (o2 + i) (by omega), hv2 i hi]) hr hl).mono fun e w' hs => h2.call hs
theorem PX.flag (h : PX w0 wS w g lim n f B T N v) (T' : TypeId) (b : Bool) (hr : n + 1 ≤ lim) (hl : lim ≤ 2 ^ 46) :
    Calls Try.prog 134 #[.pointer (some ⟨g, 0, none⟩), .slice (some ⟨w.heap.size, 0, none⟩) 1 1] (w.alloc (.cells #[.bool b] T')) (Left w0 wS g lim (n + 1) (cat n f (fun _ => flagB b)) B T N v) := by
  have h2 := h.grown (World.grownBy_alloc w (.cells #[.bool b] T') none)
  exact (outFlagG b w.heap.size 1 h2.out (cell_of_row _ _ _ _ _ _ (heap_alloc_new w _)) hr hl).mono fun e w' hs => h2.call hs
theorem PX.u64 (h : PX w0 wS w g lim n f B T N v) (T' : TypeId) (x : Nat) (hx : x < 18446744073709551616) (hr : n + 8 ≤ lim) (hl : lim ≤ 2 ^ 46) :
    Calls Try.prog 65 #[.pointer (some ⟨g, 0, none⟩), .slice (some ⟨w.heap.size, 0, none⟩) 1 1] (w.alloc (.cells #[.int .u64 x] T')) (Left w0 wS g lim (n + 8) (cat n f (nbF x 8)) B T N v) := by
  have g1 := World.grownBy_alloc w (.cells #[.int .u64 x] T') none
  have h2 := h.grown g1
  exact (outU64G 1 w.heap.size 1 (fun _ => x) h2.out (h.out.new g1 _ (Nat.le_refl _)) (by rw [World.size_alloc]; omega) (by decide) (fun _ => hx) (fun i hi => by
    obtain rfl : i = 0 := by omega
    exact cell_of_row _ _ _ _ _ _ (heap_alloc_new w _)) hr hl).mono fun e w' hs => h2.call hs
theorem PX.u32 (h : PX w0 wS w g lim n f B T N v) (T' : TypeId) (x : Nat) (hx : x < 4294967296) (hr : n + 4 ≤ lim) (hl : lim ≤ 2 ^ 46) :
    Calls Try.prog 102 #[.pointer (some ⟨g, 0, none⟩), .slice (some ⟨w.heap.size, 0, none⟩) 1 1] (w.alloc (.cells #[.int .u32 x] T')) (Left w0 wS g lim (n + 4) (cat n f (nbF x 4)) B T N v) := by
  have g1 := World.grownBy_alloc w (.cells #[.int .u32 x] T') none
  have h2 := h.grown g1
  exact (outU32G 1 w.heap.size 1 (fun _ => x) h2.out (h.out.new g1 _ (Nat.le_refl _)) (by rw [World.size_alloc]; omega) (by decide) (fun _ => hx) (fun i hi => by
    obtain rfl : i = 0 := by omega
    exact cell_of_row _ _ _ _ _ _ (heap_alloc_new w _)) hr hl).mono fun e w' hs => h2.call hs
theorem PX.u32two (h : PX w0 wS w g lim n f B T N v) (T' : TypeId) (x y : Nat) (hx : x < 4294967296) (hy : y < 4294967296) (hr : n + 8 ≤ lim) (hl : lim ≤ 2 ^ 46) :
    Calls Try.prog 102 #[.pointer (some ⟨g, 0, none⟩), .slice (some ⟨w.heap.size, 0, none⟩) 2 2] (w.alloc (.cells #[.int .u32 x, .int .u32 y] T')) (Left w0 wS g lim (n + 8) (cat (n + 4) (cat n f (nbF x 4)) (nbF y 4)) B T N v) := by
  have g1 := World.grownBy_alloc w (.cells #[.int .u32 x, .int .u32 y] T') none
  have h2 := h.grown g1
  exact (outU32G 2 w.heap.size 2 (fun i => if i = 0 then x else y) h2.out (h.out.new g1 _ (Nat.le_refl _)) (by rw [World.size_alloc]; omega) (by decide) (fun i => by split <;> assumption) (fun i hi => by
    obtain rfl | rfl : i = 0 ∨ i = 1 := by omega
    · exact cell_of_row _ _ _ _ _ _ (heap_alloc_new w _)
    · exact cell_of_row _ _ _ _ _ _ (heap_alloc_new w _)) hr hl).mono fun e w' hs => h2.call hs
end
/-- A device. -/
abbrev devR (f : Nat → Nat) : Value := .agg (rowOf 2 (fun j => .int .u8 (f j)))
theorem putDevice_any {w0 w : World} {g lim n : Nat} {f : Nat → Nat} (d : Nat → Nat) (h : Good w0 w g lim n f) (hr : n + 2 ≤ lim) (hl : lim ≤ 2 ^ 46) :
    Calls Try.prog 66 #[.pointer (some ⟨g, 0, none⟩), devR d] w (Goes w0 w g lim (n + 2) (cat n f d)) := by
  have hP := PX.begin h 26 2 (fun j => .int .u8 (d j))
  go_enter Try.func66, Try.ntmps66
  go_upto_region 1 with fail
  obtain ⟨B, hB⟩ : ∃ B, B = w.heap.size := ⟨_, rfl⟩
  rw [← hB] at hP ⊢
  generalize w.alloc (.cells (rowOf 2 (fun j => .int .u8 (d j))) 26) = w2 at *
  have c0 : w2.cell? ⟨B, 0, none⟩ = some (.int .u8 (d 0)) := hP.row.cell 0 (by decide)
  have c1 : w2.cell? ⟨B, 1, none⟩ = some (.int .u8 (d 1)) := hP.row.cell 1 (by decide)
  have HX := Lib.hid ((outU8G (w2.heap.size + 1) 2 2 _ d (hP.out.grown (World.grownBy_alloc w2 (.cells #[.int .u8 (d 0), .int .u8 (d 1)] 5) none)) ((rd_two w2 (d 0) (d 1) (w2.heap.size + 1) (by omega)).congr (fun i hi => by
    obtain rfl | rfl : i = 0 ∨ i = 1 := by omega
    · rfl
    · rfl)) hr hl).mono fun e w' hs => (hP.grown (World.grownBy_alloc w2 (.cells #[.int .u8 (d 0), .int .u8 (d 1)] 5) none)).call hs)
  clear hP h hr hl hB
  go_wp2_with fail
  go_at_call 125
  refine HX.out.mono ?_
  rintro e w' ⟨rfl, hP⟩
  have HE := Lib.hid hP.done
  clear hP HX
  go_wp2_with fail
  go_end0
  exact HE.out
end Go.Proofs.Ytmbefbmpjkbnmaa
namespace Go.Proofs.Ytmbefbmpjkbnmaa
open Go.RowKit

set_option maxRecDepth 100000
set_option maxHeartbeats 4000000

/-- Bytes that are no part of the row. -/
theorem PX.bytes {w0 wS w : World} {g lim n : Nat} {f : Nat → Nat} {B : Nat} {T : TypeId} {N : Nat} {v : Nat → Value} (h : PX w0 wS w g lim n f B T N v) (T' : TypeId) (D m cv : Nat) (a : Option Addr) (fb : Nat → Nat) (hR : Rd w0 D a m fb) (hr : n + m ≤ lim) (hl : lim ≤ 2 ^ 46) :
    Calls Try.prog 64 #[.pointer (some ⟨g, 0, none⟩), .slice (some ⟨w.heap.size, 0, none⟩) 1 1] (w.alloc (.cells #[.slice a m cv] T')) (Left w0 wS g lim (n + m) (cat n f fb) B T N v) := by
  have h2 := h.grown (World.grownBy_alloc w (.cells #[.slice a m cv] T') none)
  exact (outFixedG D m cv a fb w.heap.size 1 h2.out (cell_of_row _ _ _ _ _ _ (heap_alloc_new w _)) (hR.grown h2.out.gr (by simp)) hr hl).mono fun e w' hs => h2.call hs
theorem putHeader_any {w0 w : World} {g lim n : Nat} {f : Nat → Nat} (x : HV) (hx : x.Ok) (h : Good w0 w g lim n f) (hr : n + 40 ≤ lim) (hl : lim ≤ 2 ^ 46) :
    Calls Try.prog 73 #[.pointer (some ⟨g, 0, none⟩), .agg (rowOf 34 x.v)] w (Goes w0 w g lim (n + 40) (cat n f x.bytes)) := by
  have HL := Lib.hid (And.intro hr hl)
  have HXX := Lib.hid hx
  clear hr hl hx
  have hP := PX.begin h 36 34 x.v
  clear h
  go_enter Try.func73, Try.ntmps73
  go_upto_region 1 with fail
  obtain ⟨B, hB⟩ : ∃ B, B = w.heap.size := ⟨_, rfl⟩
  rw [← hB] at hP ⊢
  generalize w.alloc (.cells (rowOf 34 x.v) 36) = wa at *
  clear hB
  have HX := Lib.hid (hP.fixed 39 0 32 32 x.dh (by decide) x.v_dh (by have := HL.out; omega) HL.out.2)
  clear hP
  go_wp2_with fail
  go_at_call 64
  refine HX.out.mono ?_
  rintro e w1 ⟨rfl, hP⟩
  clear HX
  have HX := Lib.hid (hP.u32two 34 x.prev x.n HXX.out.prev HXX.out.n (by have := HL.out; omega) HL.out.2)
  have c32 : w1.cell? ⟨B, 32, none⟩ = some (.int .u32 x.prev) := hP.row.cell 32 (by decide)
  have c33 : w1.cell? ⟨B, 33, none⟩ = some (.int .u32 x.n) := hP.row.cell 33 (by decide)
  clear hP
  go_wp2_with fail
  go_at_call 102
  refine HX.out.mono ?_
  rintro e w2 ⟨rfl, hP⟩
  clear HX
  have hD := hP.done
  clear hP
  rw [cat_cat n 32, show n + 32 + 4 = n + 36 by omega, cat_cat n 36, show n + 32 + 8 = n + 40 by omega] at hD
  have HE := Lib.hid (hD)
  clear hD
  go_wp2_with fail
  go_end0
  exact HE.out
theorem outFixed_enters : ∀ args w, (callFunc 64 args).run Try.prog w = .ok (.enter 64 args) w := enters_of Try.func64 (by kernel_rfl) rfl
/-- What is put is told as far as it goes. -/
theorem OAt.less {w0 w : World} {g lim n : Nat} {f f' : Nat → Nat} (h : Good w0 w g lim n f) (e : ∀ i, i < n → f i = f' i) : Good w0 w g lim n f' := by
  obtain ⟨g', a, c, e1, h2, h3, h4, h5, h6, h7⟩ := h.st
  exact ⟨⟨g', a, c, e1, h2, h3, h4.congr e, h5, h6, h7⟩, h.gr⟩
theorem goes_less {w0 w w' : World} {g lim n n' : Nat} {f f' : Nat → Nat} {e : Ending} (h : Goes w0 w g lim n f e w') (hn : n = n') (hf : ∀ i, i < n → f i = f' i) : Goes w0 w g lim n' f' e w' := by
  subst hn
  exact ⟨⟨h.says.ex, h.says.st.less hf⟩, h.kp⟩
theorem cat_low {n i : Nat} {f g : Nat → Nat} (h : i < n) : cat n f g i = f i := if_pos h
theorem putSetup_any {w0 w : World} {g lim n : Nat} {f : Nat → Nat} (has : Bool) (x : SetV) (hx : x.Ok) (h : Good w0 w g lim n f) (hr : n + 1 + 69 ≤ lim) (hl : lim ≤ 2 ^ 46) :
    Calls Try.prog 92 #[.pointer (some ⟨g, 0, none⟩), .bool has, .agg (rowOf 66 x.v)] w (Goes w0 w g lim (n + 1 + x.sl has) (cat (n + 1) (cat n f (fun _ => flagB has)) x.sf)) := by
  have HL := Lib.hid (And.intro hr hl)
  have HXX := Lib.hid hx
  clear hr hl hx
  have hP := PX.begin h 38 66 x.v
  clear h
  go_enter Try.func92, Try.ntmps92
  go_upto_region 1 with fail
  obtain ⟨B, hB⟩ : ∃ B, B = w.heap.size := ⟨_, rfl⟩
  rw [← hB] at hP ⊢
  generalize w.alloc (.cells (rowOf 66 x.v) 38) = wa at *
  clear hB
  have HX := Lib.hid (hP.flag 4 has (by have := HL.out; omega) HL.out.2)
  clear hP
  go_wp2_with fail
  go_at_call 134
  refine HX.out.mono ?_
  rintro e w1 ⟨rfl, hP⟩
  clear HX
  cases has with
  | false =>
    have HE := Lib.hid (goes_less hP.done (n' := n + 1 + x.sl false) (f' := cat (n + 1) (cat n f (fun _ => flagB false)) x.sf) rfl (fun i hi => (cat_low hi).symm))
    clear hP
    go_wp2_with fail
    go_end0
    exact HE.out
  | true =>
    go_upto_region 3 with fail
    refine wp_region_held (S := fun _ => True) (by kernel_rfl) ?_
    change wpAnyH _ _ _ _ _ 7 #[false, false, false, false, false, false, false] _ (World.drew _)
    have hP := hP.grown (grown_drew (grown_refl w1 none))
    generalize w1.drew = wd at *
    refine wpAnyH_takeD (some 12) (i := 0) (v := (.pointer (some ⟨g, 0, none⟩))) rfl rfl (by kernel_rfl) (by kernel_rfl) (by kernel_rfl) (fun _ _ _ h => h) (Or.inl ⟨rfl, fun _ _ => rfl⟩) trivial ?_
    simp only [Act.put, List.setIfInBounds_toArray, List.set_cons_succ, List.set_cons_zero]
    refine wpAnyH_takeD (some 13) (i := 1) (v := (.pointer (some ⟨B, 0, none⟩))) rfl rfl (by kernel_rfl) (by kernel_rfl) (by kernel_rfl) (fun _ _ _ h => h) (Or.inl ⟨rfl, fun _ _ => by go_simp⟩) trivial ?_
    simp only [Act.put, List.setIfInBounds_toArray, List.set_cons_succ, List.set_cons_zero]
    refine wpAnyH_takeD (some 14) (i := 2) (v := (.slice (some ⟨B, 0, none⟩) 32 32)) rfl rfl (by kernel_rfl) (by kernel_rfl) (by kernel_rfl) (fun _ _ _ h => h) (Or.inl ⟨rfl, fun _ _ => by go_simp⟩) trivial ?_
    simp only [Act.put, List.setIfInBounds_toArray, List.set_cons_succ, List.set_cons_zero]
    refine wpAnyH_takeD (some 15) (i := 3) (v := (.pointer (some ⟨B, 32, none⟩))) rfl rfl (by kernel_rfl) (by kernel_rfl) (by kernel_rfl) (fun _ _ _ h => h) (Or.inl ⟨rfl, fun _ _ => by go_simp⟩) trivial ?_
    simp only [Act.put, List.setIfInBounds_toArray, List.set_cons_succ, List.set_cons_zero]
    refine wpAnyH_takeD (some 16) (i := 4) (v := (.slice (some ⟨B, 32, none⟩) 32 32)) rfl rfl (by kernel_rfl) (by kernel_rfl) (by kernel_rfl) (fun _ _ _ h => h) (Or.inl ⟨rfl, fun _ _ => by go_simp⟩) trivial ?_
    simp only [Act.put, List.setIfInBounds_toArray, List.set_cons_succ, List.set_cons_zero]
    have hF := hP.fixed2 39 0 32 32 x.ident 32 32 32 x.eph (by decide) x.v_ident (by decide) x.v_eph (by have := HL.out; omega) HL.out.2
    refine wpAnyH_yieldD (some 17) (i := 5) (v := (.slice (some ⟨wd.heap.size, 0, none⟩) 2 2)) (w' := wd.alloc (.cells #[.slice (some ⟨B, 0, none⟩) 32 32, .slice (some ⟨B, 32, none⟩) 32 32] 39)) (by kernel_rfl) rfl rfl rfl (by go_simp) trivial ?_
    simp only [Act.put, List.setIfInBounds_toArray, List.set_cons_succ, List.set_cons_zero]
    refine wpAnyH_callD (some 18) (i := 6) 64 #[.pointer (some ⟨g, 0, none⟩), .slice (some ⟨wd.heap.size, 0, none⟩) 2 2] (R := fun v W => v = .tuple #[] ∧ PX w0 w W g lim (n + 1 + 32 + 32) (cat (n + 1 + 32) (cat (n + 1) (cat n f fun _ => flagB true) x.ident) x.eph) B 38 66 x.v) (by kernel_rfl) rfl rfl rfl (exec_fn2 _ _ _ _ _ rfl rfl rfl) outFixed_enters (hF.mono fun e W h => ⟨_, h.1, rfl, h.2⟩) ?_
    clear hF hP
    rintro v w2 ⟨rfl, hP⟩
    refine ⟨trivial, ?_⟩
    simp only [Act.put, List.setIfInBounds_toArray, List.set_cons_succ, List.set_cons_zero]
    refine wpAnyH_done (by kernel_rfl) ?_ _
    have HX := Lib.hid (hP.flag 4 x.once (by have := HL.out; omega) HL.out.2)
    have c64 : w2.cell? ⟨B, 64, none⟩ = some (.bool x.once) := hP.row.cell 64 (by decide)
    clear hP
    go_wp2_with fail
    go_at_call 134
    refine HX.out.mono ?_
    rintro e w3 ⟨rfl, hP⟩
    clear HX
    have c64 : w3.cell? ⟨B, 64, none⟩ = some (.bool x.once) := hP.row.cell 64 (by decide)
    have c65 : w3.cell? ⟨B, 65, none⟩ = some (.int .u32 x.oid) := hP.row.cell 65 (by decide)
    have HN := Lib.hid (show n + 1 + 32 + 32 + 1 = n + 66 by omega)
    obtain ⟨oc, hoc⟩ : ∃ o, o = x.once := ⟨_, rfl⟩
    have HOC := Lib.hid hoc
    rw [← hoc] at c64
    clear hoc
    cases oc with
    | false =>
      have HE := Lib.hid (goes_less hP.done (n' := n + 1 + x.sl true) (f' := cat (n + 1) (cat n f (fun _ => flagB true)) x.sf) (by unfold SetV.sl; rw [if_pos rfl, ← HOC.out, if_neg (by decide)]) (fun i hi => by
        rw [cat_cat (n + 1) 32, show n + 1 + 32 + 32 = n + 1 + 64 by omega, cat_cat (n + 1) 64]
        unfold cat
        by_cases h1 : i < n + 1
        · rw [if_pos h1, if_pos h1]
        · rw [if_neg h1, if_neg h1]
          unfold SetV.sf
          rw [cat_low (by omega)]
          rfl))
      clear hP c65
      go_wp2_with fail
      go_end0
      exact HE.out
    | true =>
      have HX := Lib.hid (hP.u32 34 x.oid HXX.out.oid (by have := HL.out; omega) HL.out.2)
      clear hP
      go_wp2_with fail
      go_at_call 102
      refine HX.out.mono ?_
      rintro e w4 ⟨rfl, hP⟩
      clear HX
      have HE := Lib.hid (goes_less hP.done (n' := n + 1 + x.sl true) (f' := cat (n + 1) (cat n f (fun _ => flagB true)) x.sf) (by unfold SetV.sl; rw [if_pos rfl, ← HOC.out, if_pos rfl]) (fun i _ => by
        rw [cat_cat (n + 1) 32, show n + 1 + 32 + 32 = n + 1 + 64 by omega, cat_cat (n + 1) 64, show n + 1 + 64 + 1 = n + 1 + 65 by omega, cat_cat (n + 1) 65]
        rfl))
      clear hP
      go_wp2_with fail
      go_end0
      exact HE.out
end Go.Proofs.Ytmbefbmpjkbnmaa
namespace Go.Proofs.Ytmbefbmpjkbnmaa
open Go.RowKit

set_option maxRecDepth 100000
set_option maxHeartbeats 4000000

/-- Bytes and no error, if it may be; else none, and ErrArg. -/
structure PutSays (w : World) (m : Bool) (n : Nat) (f : Nat → Nat) (e : Ending) (w' : World) : Prop where
  ex : ∃ a c, e = .returned (.tuple #[.slice a (if m = true then n else 0) c, .int .i64 (if m = true then 0 else 2)]) ∧ OwnN w' w.heap.size (.slice a (if m = true then n else 0) c) (if m = true then n else 0) f
  gr : w.grownBy w' none
theorem good_len {w0 w : World} {g n : Nat} {f : Nat → Nat} (h : Good w0 w g 70024 n f) : OSt.len (.good 70024 n f) ≤ 2 ^ 46 := by
  obtain ⟨g', a, c, e1, h2, h3, h4, h5, h6, h7⟩ := h.st
  show n ≤ _
  omega
end Go.Proofs.Ytmbefbmpjkbnmaa
namespace Go.Proofs.Ytmbefbmpjkbnmaa
open Go.RowKit

set_option maxRecDepth 100000
set_option maxHeartbeats 4000000

/-- The thing, and no error, if all is right; else zero, and ErrBytes. What it holds is new. -/
structure TakeSays (N : Nat) (Z : Nat → Value) (ok : Bool) (Q : (Nat → Value) → World → World → Prop) (w : World) (e : Ending) (w' : World) : Prop where
  ex : ∃ v w1 w2 r, e = .returned (.tuple #[.agg (rowOf N (if ok = true then v else Z)), .int .i64 (if ok = true then 0 else 9)]) ∧ w.heap.size ≤ w1.heap.size ∧ Q v w1 w2 ∧ r < w1.heap.size ∧ w2.grownBy w' (some r)
  gr : w.grownBy w' none
theorem IAt.code {w : World} {g L : Nat} {F : Nat → Nat} {s : ISt} (h : IAt w (some ⟨g, 0, none⟩) L F s) : match s.all L with | true => s.code L = 0 | false => ¬ s.code L = 0 := by
  have hs := h.st
  cases s with
  | nil => cases (show (some ⟨g, 0, none⟩ : Option Addr) = none from hs)
  | bad => show ¬ (9 : Int) = 0; decide
  | good at' =>
    obtain ⟨_, _, _, _, _, _, h4, _⟩ := hs
    show match decide (at' = L) with | true => (if 0 < L - at' then (9 : Int) else 0) = 0 | false => ¬ (if 0 < L - at' then (9 : Int) else 0) = 0
    by_cases e : at' = L
    · subst e
      simp
    · rw [decide_eq_false e, if_pos (by omega)]
      decide
end Go.Proofs.Ytmbefbmpjkbnmaa
namespace Go.Proofs.Ytmbefbmpjkbnmaa
open Go.RowKit

set_option maxRecDepth 100000
set_option maxHeartbeats 4000000

def codDist (i : Nat) : Value := if i = 0 then .func (.func 61) #[] #[] else if i = 1 then .func (.func 63) #[] #[] else .func (.func 67) #[] #[]
theorem codDist_any (w : World) : Calls Try.prog 12 #[] w fun e w' => e = .returned (.agg (rowOf 3 codDist)) ∧ w.grownBy w' none := by
  have ga := World.grownBy_alloc w (.cells #[.nilFunc, .nilFunc, .nilFunc] 54) none
  have hn := RowAt.new w 54 3 (fun _ => .nilFunc) #[.nilFunc, .nilFunc, .nilFunc] rfl
  obtain ⟨hs1, hs2⟩ := RowAt.store (P := Try.prog) hn 0 54 3 codDist (by decide) (by kernel_rfl) (fun j _ => by unfold codDist; (repeat' split) <;> rfl)
  have hrr := hs2.congr (v' := codDist) fun i hi => by rw [if_pos ⟨Nat.zero_le _, by omega⟩, Nat.sub_zero]
  have hG : w.grownBy _ none := grown_setCells w.heap.size (Or.inl (Nat.le_refl _)) (rowOf 3 codDist).toList 0 _ ga
  have HS := Lib.hid hs1
  have HRR := Lib.hid hrr
  have HG := Lib.hid hG
  clear ga hn hs1 hs2 hrr hG
  go_enter Try.func12, Try.ntmps12
  go_wp2_with (first | ((with_reducible refine wpList_here ?_); refine wpList_st (T := 54) (p := .pointer (some ⟨w.heap.size, 0, none⟩)) (v := .agg (rowOf 3 codDist)) (.tmp 0) (.tmp 1) ?_ ?_ ?_ ?_ ?_ HS.out ?_; (· rfl); (· rfl); go_simp; (· kernel_rfl); (· kernel_rfl)))
  exact bodyPost_ret (res_rowAt rfl rfl HRR.out (by kernel_rfl) (by kernel_rfl)) rfl ⟨rfl, HG.out⟩
theorem fmDist_some (w : World) : (binOp .neq 50 (.func (.func 61) #[] #[]) .nilFunc).run Try.prog w = .ok (.bool true) w := by kernel_rfl
theorem fpDist_some (w : World) : (binOp .eql 51 (.func (.func 63) #[] #[]) .nilFunc).run Try.prog w = .ok (.bool false) w := by kernel_rfl
theorem ftDist_some (w : World) : (binOp .eql 52 (.func (.func 67) #[] #[]) .nilFunc).run Try.prog w = .ok (.bool false) w := by kernel_rfl
theorem mayDist_any (v : Nat → Value) (m : Bool) (w : World) (HM : ∀ w1, w.grownBy w1 none → Calls Try.prog 61 #[.agg (rowOf 52 v)] w1 fun e w' => e = .returned (.bool m) ∧ w1.grownBy w' none) :
    Calls Try.prog 60 #[.agg (rowOf 3 codDist), .agg (rowOf 52 v)] w fun e w' => e = .returned (.bool m) ∧ w.grownBy w' none := by
  have ga := World.grownBy_alloc w (.cells (rowOf 3 codDist) 54) none
  have hz := World.size_alloc w (.cells (rowOf 3 codDist) 54)
  have hC := RowAt.new w 54 3 codDist _ rfl
  have gb := World.grownBy_alloc (w.alloc (.cells (rowOf 3 codDist) 54)) (.cells (rowOf 52 v) 30) none
  have hX := RowAt.new (w.alloc (.cells (rowOf 3 codDist) 54)) 30 52 v _ rfl
  rw [hz] at hX
  have hC := hC.grown gb (by simp)
  have hG := grown_trans ga gb
  have HHM := Lib.hid HM
  clear ga gb HM hz
  go_enter Try.func60, Try.ntmps60
  go_upto_region 1 with fail
  obtain ⟨B, hB⟩ : ∃ B, B = w.heap.size := ⟨_, rfl⟩
  rw [← hB] at hC hX ⊢
  generalize (w.alloc (.cells (rowOf 3 codDist) 54)).alloc (.cells (rowOf 52 v) 30) = w2 at *
  clear hB
  have c0 : w2.cell? ⟨B, 0, none⟩ = some (.func (.func 61) #[] #[]) := hC.cell 0 (by decide)
  have HL := Lib.hid (hX.load (P := Try.prog) 0 30 52 v (by decide) (fun j _ => by rw [Nat.zero_add]) (by kernel_rfl) (by kernel_rfl))
  have HX := Lib.hid (HHM.out w2 hG)
  have HG := Lib.hid hG
  have e0 := fmDist_some w2
  clear hC hX hG HHM
  go_wp2_with (first | ((with_reducible refine wpList_here ?_); refine wpList_ld (p := .pointer (some ⟨B + 1, 0, none⟩)) 3 ?_ ?_ ?_ HL.out ?_; (· rfl); go_simp; (· kernel_rfl)))
  go_at_call 61
  refine HX.out.mono ?_
  rintro e w3 ⟨rfl, g3⟩
  have HG3 := Lib.hid (grown_trans HG.out g3)
  clear HX HG HL c0 g3 e0
  go_wp2_with fail
  go_ret
  exact ⟨rfl, HG3.out⟩
theorem putDist_any (v : Nat → Value) (m : Bool) (n : Nat) (f : Nat → Nat) (w : World) (HM : ∀ w1, w.grownBy w1 none → Calls Try.prog 61 #[.agg (rowOf 52 v)] w1 fun e w' => e = .returned (.bool m) ∧ w1.grownBy w' none)
    (HP : m = true → ∀ w0 w1 g, w.grownBy w0 none → Good w0 w1 g 70024 0 (fun _ => 0) → Calls Try.prog 63 #[.pointer (some ⟨g, 0, none⟩), .agg (rowOf 52 v)] w1 (Goes w0 w1 g 70024 n f)) :
    Calls Try.prog 59 #[.agg (rowOf 3 codDist), .agg (rowOf 52 v)] w (PutSays w m n f) := by
  have ga := World.grownBy_alloc w (.cells (rowOf 3 codDist) 54) none
  have hz := World.size_alloc w (.cells (rowOf 3 codDist) 54)
  have hC := RowAt.new w 54 3 codDist _ rfl
  have gb := World.grownBy_alloc (w.alloc (.cells (rowOf 3 codDist) 54)) (.cells (rowOf 52 v) 30) none
  have hX := RowAt.new (w.alloc (.cells (rowOf 3 codDist) 54)) 30 52 v _ rfl
  rw [hz] at hX
  have hC := hC.grown gb (by simp)
  have hG := grown_trans ga gb
  have HHM := Lib.hid HM
  have HHP := Lib.hid HP
  clear ga gb HM HP hz
  go_enter Try.func59, Try.ntmps59
  go_upto_region 1 with fail
  obtain ⟨B, hB⟩ : ∃ B, B = w.heap.size := ⟨_, rfl⟩
  rw [← hB] at hC hX ⊢
  generalize (w.alloc (.cells (rowOf 3 codDist) 54)).alloc (.cells (rowOf 52 v) 30) = w2 at *
  have HB := Lib.hid hB
  clear hB
  have c1 : w2.cell? ⟨B, 1, none⟩ = some (.func (.func 63) #[] #[]) := hC.cell 1 (by decide)
  have HL := Lib.hid (hX.load (P := Try.prog) 0 30 52 v (by decide) (fun j _ => by rw [Nat.zero_add]) (by kernel_rfl) (by kernel_rfl))
  have HLC := Lib.hid (hC.load (P := Try.prog) 0 54 3 codDist (by decide) (fun j _ => by rw [Nat.zero_add]) (by kernel_rfl) (by kernel_rfl))
  have HX := Lib.hid (mayDist_any v m w2 (fun w1 h => HHM.out w1 (grown_trans hG h)))
  have HG := Lib.hid hG
  have HC := Lib.hid hC
  have HR := Lib.hid hX
  have e0 := fpDist_some w2
  clear hC hX hG HHM
  go_wp2_with (first | ((with_reducible refine wpList_here ?_); refine wpList_ld (p := .pointer (some ⟨B + 1, 0, none⟩)) 3 ?_ ?_ ?_ HL.out ?_; (· rfl); go_simp; (· kernel_rfl)) | ((with_reducible refine wpList_here ?_); refine wpList_ld (p := .pointer (some ⟨B, 0, none⟩)) 2 ?_ ?_ ?_ HLC.out ?_; (· rfl); go_simp; (· kernel_rfl)))
  go_at_call 60
  refine HX.out.mono ?_
  rintro e w3 ⟨rfl, g3⟩
  have HG3 := Lib.hid (grown_trans HG.out g3)
  clear HX HL HLC c1 e0
  cases m with
  | false =>
    clear g3
    go_wp2_with fail
    go_ret2
    exact ⟨⟨none, 0, rfl, OwnN.nil _ _ _⟩, HG3.out⟩
  | true =>
    have HN := Lib.hid (newOut_any 70024 (by decide) (by decide) w3)
    have HG3' := Lib.hid g3
    clear g3
    go_wp2_with fail
    go_at_call 121
    refine HN.out.mono ?_
    rintro e w4 ⟨p, rfl, hO⟩
    obtain ⟨g, rfl⟩ : ∃ g, p = some ⟨g, 0, none⟩ := by
      obtain ⟨g', a, c, e, _⟩ := (show OAt w3 w4 p (.good 70024 0 fun _ => 0) from hO).st
      exact ⟨g', e⟩
    have hO : Good w3 w4 g 70024 0 (fun _ => 0) := hO
    have hX := HR.out.grown (grown_trans HG3'.out hO.gr) (by simp)
    have hC := HC.out.grown (grown_trans HG3'.out hO.gr) (by simp)
    have c1 : w4.cell? ⟨B, 1, none⟩ = some (.func (.func 63) #[] #[]) := hC.cell 1 (by decide)
    have HL := Lib.hid (hX.load (P := Try.prog) 0 30 52 v (by decide) (fun j _ => by rw [Nat.zero_add]) (by kernel_rfl) (by kernel_rfl))
    have HX := Lib.hid (HHP.out (by first | rfl | trivial) w3 w4 g HG3.out hO)
    clear hX hC hO HHP HN HC HR HG3'
    go_wp2_with (first | ((with_reducible refine wpList_here ?_); refine wpList_ld (p := .pointer (some ⟨B + 1, 0, none⟩)) 3 ?_ ?_ ?_ HL.out ?_; (· rfl); go_simp; (· kernel_rfl)))
    go_at_call 63
    refine HX.out.mono ?_
    rintro e w5 ⟨⟨rfl, h5⟩, _⟩
    have HY := Lib.hid (outBytes_any h5 (good_len h5))
    have HG5 := Lib.hid (grown_trans HG3.out h5.gr)
    clear h5 HX HL c1
    go_wp2_with fail
    go_at_call 122
    refine HY.out.mono ?_
    rintro e w6 hE
    obtain ⟨a, c, rfl, hO, hg⟩ := hE.ex
    have HO := Lib.hid hO
    have HG6 := Lib.hid (grown_trans HG5.out hg)
    have HS5 := Lib.hid HG5.out.size
    clear hE hO hg HY
    go_wp2_with fail
    go_ret2
    exact ⟨⟨a, c, rfl, HO.out.base HS5.out⟩, HG6.out⟩
end Go.Proofs.Ytmbefbmpjkbnmaa
namespace Go.Proofs.Ytmbefbmpjkbnmaa
open Go.RowKit

set_option maxRecDepth 100000
set_option maxHeartbeats 4000000

theorem CAt.new (w : World) (L c : Nat) (a : Option Addr) (F : Nat → Nat) (hR : Rd w w.heap.size a L F) (hc : L ≤ c) (hL : L ≤ 1048576) : CAt (w.alloc (.cells #[.slice a L c, .int .i64 0, .bool false] 172)) w.heap.size L F (.good 0) := by
  have hh := heap_alloc_new w (.cells #[.slice a L c, .int .i64 0, .bool false] 172)
  have ga := World.grownBy_alloc w (.cells #[.slice a L c, .int .i64 0, .bool false] 172) none
  exact ⟨⟨a, c, ⟨(cell_of_row _ _ 0 _ _ _ hh).trans rfl, (cell_of_row _ _ 1 _ _ _ hh).trans rfl, (cell_of_row _ _ 2 _ _ _ hh).trans rfl, fun i => frozen_of_row _ _ _ _ _ hh⟩, hc, Nat.zero_le _, hR.grown ga (by simp)⟩, hL⟩
/-- The header that bytes are, if they are one. -/
def hdrOk (L : Nat) : Bool := ((ISt.good 0).hdrS L).all L
def hdrOf (L : Nat) (F : Nat → Nat) : HV := if hdrOk L = true then (ISt.good 0).hdr L F else HV.zero
theorem refTakeHdr_any (L c : Nat) (a : Option Addr) (F : Nat → Nat) (w : World) (hR : Rd w w.heap.size a L F) (hc : L ≤ c) (hL : L ≤ 1048576) (hF : ∀ i, F i < 256) : Calls Try.prog 31 #[.slice a L c] w fun e w' => e = .returned (.tuple #[.agg (rowOf 34 (hdrOf L F).v), .bool (hdrOk L)]) ∧ w.grownBy w' none := by
  have ga := World.grownBy_alloc w (.cells #[.int .u8 0, .int .u8 0, .int .u8 0, .int .u8 0, .int .u8 0, .int .u8 0, .int .u8 0, .int .u8 0, .int .u8 0, .int .u8 0, .int .u8 0, .int .u8 0, .int .u8 0, .int .u8 0, .int .u8 0, .int .u8 0, .int .u8 0, .int .u8 0, .int .u8 0, .int .u8 0, .int .u8 0, .int .u8 0, .int .u8 0, .int .u8 0, .int .u8 0, .int .u8 0, .int .u8 0, .int .u8 0, .int .u8 0, .int .u8 0, .int .u8 0, .int .u8 0, .int .u32 0, .int .u32 0] 36) none
  have hz := World.size_alloc w (.cells #[.int .u8 0, .int .u8 0, .int .u8 0, .int .u8 0, .int .u8 0, .int .u8 0, .int .u8 0, .int .u8 0, .int .u8 0, .int .u8 0, .int .u8 0, .int .u8 0, .int .u8 0, .int .u8 0, .int .u8 0, .int .u8 0, .int .u8 0, .int .u8 0, .int .u8 0, .int .u8 0, .int .u8 0, .int .u8 0, .int .u8 0, .int .u8 0, .int .u8 0, .int .u8 0, .int .u8 0, .int .u8 0, .int .u8 0, .int .u8 0, .int .u8 0, .int .u8 0, .int .u32 0, .int .u32 0] 36)
  have hn := RowAt.new w 36 34 HV.zero.v _ HV.zero_row
  have hR := hR.grown ga (by simp)
  have HF := Lib.hid hF
  have HC := Lib.hid hc
  have HL := Lib.hid hL
  clear hF hc hL
  go_enter Try.func31, Try.ntmps31
  go_upto_region 1 with fail
  obtain ⟨B, hB⟩ : ∃ B, B = w.heap.size := ⟨_, rfl⟩
  generalize w.alloc (.cells #[.int .u8 0, .int .u8 0, .int .u8 0, .int .u8 0, .int .u8 0, .int .u8 0, .int .u8 0, .int .u8 0, .int .u8 0, .int .u8 0, .int .u8 0, .int .u8 0, .int .u8 0, .int .u8 0, .int .u8 0, .int .u8 0, .int .u8 0, .int .u8 0, .int .u8 0, .int .u8 0, .int .u8 0, .int .u8 0, .int .u8 0, .int .u8 0, .int .u8 0, .int .u8 0, .int .u8 0, .int .u8 0, .int .u8 0, .int .u8 0, .int .u8 0, .int .u8 0, .int .u32 0, .int .u32 0] 36) = w1 at *
  rw [← hB] at hz hn hR ⊢
  have hC := CAt.new w1 L c a F (hR.mono (by omega)) HC.out HL.out
  have gb := World.grownBy_alloc w1 (.cells #[.slice a L c, .int .i64 0, .bool false] 172) none
  rw [hz] at hC
  have HB := Lib.hid hB
  clear hB
  go_upto_region 2 with fail
  obtain ⟨w2, hw2⟩ : ∃ W, W = w1.alloc (.cells #[.slice a L c, .int .i64 0, .bool false] 172) := ⟨_, rfl⟩
  rw [← hw2] at hC gb
  have HW2 := Lib.hid hw2.symm
  have hR1 := hn.grown gb (by simp)
  have hG := grown_trans ga gb
  have HZ := Lib.hid hz
  have HH := Lib.hid (curHdr_any hC HF.out)
  clear hw2 gb hn ga hz hR hC
  rw [HW2.out]
  go_wp2_with fail
  go_at_call 114
  refine HH.out.mono ?_
  rintro e w3 ⟨rfl, hst, hgr⟩
  have hG := grown_into hG hgr (by have := HB.out; omega)
  have hR1 := hR1.grown hgr (by simp)
  obtain ⟨x, hx⟩ : ∃ x, x = (ISt.good 0).hdr L F := ⟨_, rfl⟩
  rw [← hx]
  have HX := Lib.hid hx
  clear hx hgr HH
  have gc := World.grownBy_alloc w3 (.cells #[.int .u8 0, .int .u8 0, .int .u8 0, .int .u8 0, .int .u8 0, .int .u8 0, .int .u8 0, .int .u8 0, .int .u8 0, .int .u8 0, .int .u8 0, .int .u8 0, .int .u8 0, .int .u8 0, .int .u8 0, .int .u8 0, .int .u8 0, .int .u8 0, .int .u8 0, .int .u8 0, .int .u8 0, .int .u8 0, .int .u8 0, .int .u8 0, .int .u8 0, .int .u8 0, .int .u8 0, .int .u8 0, .int .u8 0, .int .u8 0, .int .u8 0, .int .u8 0, .int .u32 0, .int .u32 0] 36) none
  have hm := RowAt.new w3 36 34 HV.zero.v _ HV.zero_row
  obtain ⟨hs1, hs2⟩ := RowAt.store (P := Try.prog) hm 0 36 34 x.v (by decide) (by kernel_rfl) (fun j _ => HV.one _ j)
  obtain ⟨W, hW⟩ : ∃ W, W = (w3.alloc (.cells #[.int .u8 0, .int .u8 0, .int .u8 0, .int .u8 0, .int .u8 0, .int .u8 0, .int .u8 0, .int .u8 0, .int .u8 0, .int .u8 0, .int .u8 0, .int .u8 0, .int .u8 0, .int .u8 0, .int .u8 0, .int .u8 0, .int .u8 0, .int .u8 0, .int .u8 0, .int .u8 0, .int .u8 0, .int .u8 0, .int .u8 0, .int .u8 0, .int .u8 0, .int .u8 0, .int .u8 0, .int .u8 0, .int .u8 0, .int .u8 0, .int .u8 0, .int .u8 0, .int .u32 0, .int .u32 0] 36)).setCells w3.heap.size 0 (rowOf 34 x.v).toList := ⟨_, rfl⟩
  have gW : w3.grownBy W none := by rw [hW]; exact grown_setCells _ (Or.inl (Nat.le_refl _)) _ 0 _ gc
  rw [← hW] at hs2
  have hR2 := hs2.congr (v' := x.v) fun i hi => by rw [if_pos ⟨Nat.zero_le _, by omega⟩, Nat.sub_zero]
  have HW := Lib.hid hW.symm
  have HS := Lib.hid hs1
  have hC := hst.grown gW (by simp)
  have hR1 := hR1.grown gW (by simp)
  have hG := grown_trans hG gW
  clear hm hs1 hs2 hW gc gW hst
  obtain ⟨D, hD⟩ : ∃ D, D = w3.heap.size := ⟨_, rfl⟩
  rw [← hD] at hR2
  have HD := Lib.hid hD
  clear hD
  go_upto_region 3 with (first | ((with_reducible refine wpList_here ?_); refine wpList_st (T := 36) (p := .pointer (some ⟨w3.heap.size, 0, none⟩)) (v := .agg (rowOf 34 x.v)) (.tmp 5) (.tmp 10) ?_ ?_ ?_ ?_ ?_ HS.out ?_; (· rfl); (· rfl); go_simp; (· kernel_rfl); (· kernel_rfl)))
  rw [HW.out, ← HD.out]
  have HO := Lib.hid (curOk_any hC)
  clear hC
  go_wp2_with fail
  go_at_call 113
  refine HO.out.mono ?_
  rintro e w5 ⟨rfl, g5⟩
  have hR1 := hR1.grown g5 (by simp)
  have hR2 := hR2.grown g5 (by simp)
  have hG := grown_trans hG g5
  have HOK := Lib.hid (show ISt.all L ((ISt.good 0).hdrS L) = hdrOk L from rfl)
  rw [HOK.out]
  clear g5 HO
  by_cases ho : hdrOk L = true
  · have HX2 := Lib.hid (show hdrOf L F = x by unfold hdrOf; rw [if_pos ho, HX.out])
    have HOO := Lib.hid ho
    rw [ho]
    have HLD := Lib.hid (hR2.load (P := Try.prog) 0 36 34 x.v (by decide) (fun j _ => by rw [Nat.zero_add]) (by kernel_rfl) (by kernel_rfl))
    obtain ⟨hs1, hs2⟩ := RowAt.store (P := Try.prog) hR1 0 36 34 x.v (by decide) (by kernel_rfl) (fun j _ => HV.one _ j)
    have HS := Lib.hid hs1
    obtain ⟨U, hU⟩ : ∃ U, U = w5.setCells B 0 (rowOf 34 x.v).toList := ⟨_, rfl⟩
    rw [← hU] at hs2
    have hG : w.grownBy U none := by rw [hU]; exact grown_setCells B (Or.inl (by have := HB.out; omega)) _ 0 _ hG
    have HU := Lib.hid hU.symm
    have hRR := hs2.congr (v' := x.v) fun i hi => by rw [if_pos ⟨Nat.zero_le _, by omega⟩, Nat.sub_zero]
    have HG := Lib.hid hG
    have HRR := Lib.hid hRR
    clear hs1 hs2 hU hG hR1 hR2 hRR ho
    go_wp2_with (first | ((with_reducible refine wpList_here ?_); refine wpList_ld (p := .pointer (some ⟨D, 0, none⟩)) 5 ?_ ?_ ?_ HLD.out ?_; (· rfl); go_simp; (· kernel_rfl)) | ((with_reducible refine wpList_here ?_); refine wpList_st (T := 36) (p := .pointer (some ⟨B, 0, none⟩)) (v := .agg (rowOf 34 x.v)) (.tmp 2) (.tmp 15) ?_ ?_ ?_ ?_ ?_ HS.out ?_; (· rfl); (· rfl); go_simp; (· kernel_rfl); (· kernel_rfl)))
    rw [HU.out]
    exact bodyPost_ret (res_rowAt2 rfl rfl rfl HRR.out (by kernel_rfl) (by kernel_rfl)) rfl ⟨by rw [HX2.out, HOO.out]; rfl, HG.out⟩
  · have HX2 := Lib.hid (show hdrOf L F = HV.zero by unfold hdrOf; rw [if_neg ho])
    have hof : hdrOk L = false := by cases h : hdrOk L <;> simp_all
    have HOO := Lib.hid hof
    rw [hof]
    clear hof
    obtain ⟨hs1, hs2⟩ := RowAt.store (P := Try.prog) hR1 0 36 34 HV.zero.v (by decide) (by kernel_rfl) (fun j _ => HV.one _ j)
    have HS := Lib.hid hs1
    obtain ⟨U, hU⟩ : ∃ U, U = w5.setCells B 0 (rowOf 34 HV.zero.v).toList := ⟨_, rfl⟩
    rw [← hU] at hs2
    have hG : w.grownBy U none := by rw [hU]; exact grown_setCells B (Or.inl (by have := HB.out; omega)) _ 0 _ hG
    have HU := Lib.hid hU.symm
    have hRR := hs2.congr (v' := HV.zero.v) fun i hi => by rw [if_pos ⟨Nat.zero_le _, by omega⟩, Nat.sub_zero]
    have HG := Lib.hid hG
    have HRR := Lib.hid hRR
    clear hs1 hs2 hU hG hR1 hR2 hRR ho
    go_wp2_with (first | ((with_reducible refine wpList_here ?_); refine wpList_st (T := 36) (p := .pointer (some ⟨B, 0, none⟩)) (v := .agg (rowOf 34 HV.zero.v)) (.tmp 2) (.tmp 14) ?_ ?_ ?_ ?_ ?_ HS.out ?_; (· rfl); (· rfl); go_simp; (· kernel_rfl); (· kernel_rfl)))
    rw [HU.out]
    exact bodyPost_ret (res_rowAt2 rfl rfl rfl HRR.out (by kernel_rfl) (by kernel_rfl)) rfl ⟨by rw [HX2.out, HOO.out]; rfl, HG.out⟩
end Go.Proofs.Ytmbefbmpjkbnmaa
namespace Go.Proofs.Ytmbefbmpjkbnmaa
open Go.RowKit

set_option maxRecDepth 100000
set_option maxHeartbeats 4000000

def DV.zero : DV := ⟨fun _ => 0, 0, fun _ => 0, 0, fun _ => 0⟩
theorem DV.zero_row : (#[.int .u8 0, .int .u8 0, .int .u8 0, .int .u8 0, .int .u8 0, .int .u8 0, .int .u8 0, .int .u8 0, .int .u8 0, .int .u8 0, .int .u8 0, .int .u8 0, .int .u8 0, .int .u8 0, .int .u8 0, .int .u8 0, .int .u64 0, .int .u8 0, .int .u8 0, .int .u64 0, .int .u8 0, .int .u8 0, .int .u8 0, .int .u8 0, .int .u8 0, .int .u8 0, .int .u8 0, .int .u8 0, .int .u8 0, .int .u8 0, .int .u8 0, .int .u8 0, .int .u8 0, .int .u8 0, .int .u8 0, .int .u8 0, .int .u8 0, .int .u8 0, .int .u8 0, .int .u8 0, .int .u8 0, .int .u8 0, .int .u8 0, .int .u8 0, .int .u8 0, .int .u8 0, .int .u8 0, .int .u8 0, .int .u8 0, .int .u8 0, .int .u8 0, .int .u8 0] : Array Value) = rowOf 52 DV.zero.v := by kernel_rfl
theorem DV.one (x : DV) (j : Nat) : (x.v j).oneCell' = true := by
  unfold DV.v
  repeat' split
  all_goals rfl
theorem DV.put_id (x : DV) (f : Nat → Nat) (i : Nat) (hi : i < 52) : (if 0 ≤ i ∧ i < 0 + 16 then Value.int .u8 (f (i - 0)) else x.v i) = ({ x with id := f } : DV).v i := by
  unfold DV.v
  by_cases e : 0 ≤ i ∧ i < 0 + 16
  · rw [if_pos e]
    rw [if_pos (by omega), Nat.sub_zero]
  · rw [if_neg e]
    repeat' split
    all_goals first | rfl | (exfalso; omega)
theorem DV.put_ep (x : DV) (n : Nat) (i : Nat) (hi : i < 52) : (if i = 16 then Value.int .u64 n else x.v i) = ({ x with ep := n } : DV).v i := by
  unfold DV.v
  by_cases e : i = 16
  · rw [if_pos e]
    rw [if_neg (by omega), if_pos (by omega)]
  · rw [if_neg e]
    repeat' split
    all_goals first | rfl | (exfalso; omega)
theorem DV.put_sd (x : DV) (f : Nat → Nat) (i : Nat) (hi : i < 52) : (if 17 ≤ i ∧ i < 17 + 2 then Value.int .u8 (f (i - 17)) else x.v i) = ({ x with sd := f } : DV).v i := by
  unfold DV.v
  by_cases e : 17 ≤ i ∧ i < 17 + 2
  · rw [if_pos e]
    rw [if_neg (by omega), if_neg (by omega), if_pos (by omega)]
  · rw [if_neg e]
    repeat' split
    all_goals first | rfl | (exfalso; omega)
theorem DV.put_kid (x : DV) (n : Nat) (i : Nat) (hi : i < 52) : (if i = 19 then Value.int .u64 n else x.v i) = ({ x with kid := n } : DV).v i := by
  unfold DV.v
  by_cases e : i = 19
  · rw [if_pos e]
    rw [if_neg (by omega), if_neg (by omega), if_neg (by omega), if_pos (by omega)]
  · rw [if_neg e]
    repeat' split
    all_goals first | rfl | (exfalso; omega)
theorem DV.put_key (x : DV) (f : Nat → Nat) (i : Nat) (hi : i < 52) : (if 20 ≤ i ∧ i < 20 + 32 then Value.int .u8 (f (i - 20)) else x.v i) = ({ x with key := f } : DV).v i := by
  unfold DV.v
  by_cases e : 20 ≤ i ∧ i < 20 + 32
  · rw [if_pos e]
    rw [if_neg (by omega), if_neg (by omega), if_neg (by omega), if_neg (by omega)]
  · rw [if_neg e]
    repeat' split
    all_goals first | rfl | (exfalso; omega)
/-- The sender's key that bytes are. -/
def distS (L : Nat) : ISt := ((((((ISt.good 0).take L ((16 : Nat) : Int)).take L ((8 : Nat) : Int)).take L 2).take L ((8 : Nat) : Int)).take L ((32 : Nat) : Int))
def distV (L : Nat) (F : Nat → Nat) : DV := ⟨(ISt.good 0).cF L F 16, ((ISt.good 0).take L ((16 : Nat) : Int)).num L F 8, (((ISt.good 0).take L ((16 : Nat) : Int)).take L ((8 : Nat) : Int)).cF L F 2, ((((ISt.good 0).take L ((16 : Nat) : Int)).take L ((8 : Nat) : Int)).take L 2).num L F 8, (((((ISt.good 0).take L ((16 : Nat) : Int)).take L ((8 : Nat) : Int)).take L 2).take L ((8 : Nat) : Int)).cF L F 32⟩
def distOk (L : Nat) (F : Nat → Nat) : Bool := (distS L).all L && devMay (distV L F).sd
def distOf (L : Nat) (F : Nat → Nat) : DV := if distOk L F = true then distV L F else DV.zero
theorem refTakeDist_any (L c : Nat) (a : Option Addr) (F : Nat → Nat) (w : World) (hR : Rd w w.heap.size a L F) (hc : L ≤ c) (hL : L ≤ 1048576) (hF : ∀ i, F i < 256) : Calls Try.prog 26 #[.slice a L c] w fun e w' => e = .returned (.tuple #[.agg (rowOf 52 (distOf L F).v), .bool (distOk L F)]) ∧ w.grownBy w' none := by
  have ga := World.grownBy_alloc w (.cells #[.int .u8 0, .int .u8 0, .int .u8 0, .int .u8 0, .int .u8 0, .int .u8 0, .int .u8 0, .int .u8 0, .int .u8 0, .int .u8 0, .int .u8 0, .int .u8 0, .int .u8 0, .int .u8 0, .int .u8 0, .int .u8 0, .int .u64 0, .int .u8 0, .int .u8 0, .int .u64 0, .int .u8 0, .int .u8 0, .int .u8 0, .int .u8 0, .int .u8 0, .int .u8 0, .int .u8 0, .int .u8 0, .int .u8 0, .int .u8 0, .int .u8 0, .int .u8 0, .int .u8 0, .int .u8 0, .int .u8 0, .int .u8 0, .int .u8 0, .int .u8 0, .int .u8 0, .int .u8 0, .int .u8 0, .int .u8 0, .int .u8 0, .int .u8 0, .int .u8 0, .int .u8 0, .int .u8 0, .int .u8 0, .int .u8 0, .int .u8 0, .int .u8 0, .int .u8 0] 30) none
  have hz := World.size_alloc w (.cells #[.int .u8 0, .int .u8 0, .int .u8 0, .int .u8 0, .int .u8 0, .int .u8 0, .int .u8 0, .int .u8 0, .int .u8 0, .int .u8 0, .int .u8 0, .int .u8 0, .int .u8 0, .int .u8 0, .int .u8 0, .int .u8 0, .int .u64 0, .int .u8 0, .int .u8 0, .int .u64 0, .int .u8 0, .int .u8 0, .int .u8 0, .int .u8 0, .int .u8 0, .int .u8 0, .int .u8 0, .int .u8 0, .int .u8 0, .int .u8 0, .int .u8 0, .int .u8 0, .int .u8 0, .int .u8 0, .int .u8 0, .int .u8 0, .int .u8 0, .int .u8 0, .int .u8 0, .int .u8 0, .int .u8 0, .int .u8 0, .int .u8 0, .int .u8 0, .int .u8 0, .int .u8 0, .int .u8 0, .int .u8 0, .int .u8 0, .int .u8 0, .int .u8 0, .int .u8 0] 30)
  have hn := RowAt.new w 30 52 DV.zero.v _ DV.zero_row
  have hR := hR.grown ga (by simp)
  have HF := Lib.hid hF
  have HC := Lib.hid hc
  have HL := Lib.hid hL
  clear hF hc hL
  go_enter Try.func26, Try.ntmps26
  go_upto_region 1 with fail
  obtain ⟨B, hB⟩ : ∃ B, B = w.heap.size := ⟨_, rfl⟩
  generalize w.alloc (.cells #[.int .u8 0, .int .u8 0, .int .u8 0, .int .u8 0, .int .u8 0, .int .u8 0, .int .u8 0, .int .u8 0, .int .u8 0, .int .u8 0, .int .u8 0, .int .u8 0, .int .u8 0, .int .u8 0, .int .u8 0, .int .u8 0, .int .u64 0, .int .u8 0, .int .u8 0, .int .u64 0, .int .u8 0, .int .u8 0, .int .u8 0, .int .u8 0, .int .u8 0, .int .u8 0, .int .u8 0, .int .u8 0, .int .u8 0, .int .u8 0, .int .u8 0, .int .u8 0, .int .u8 0, .int .u8 0, .int .u8 0, .int .u8 0, .int .u8 0, .int .u8 0, .int .u8 0, .int .u8 0, .int .u8 0, .int .u8 0, .int .u8 0, .int .u8 0, .int .u8 0, .int .u8 0, .int .u8 0, .int .u8 0, .int .u8 0, .int .u8 0, .int .u8 0, .int .u8 0] 30) = w1 at *
  rw [← hB] at hz hn hR ⊢
  have hC := CAt.new w1 L c a F (hR.mono (by omega)) HC.out HL.out
  have gb := World.grownBy_alloc w1 (.cells #[.slice a L c, .int .i64 0, .bool false] 172) none
  have hz2 := World.size_alloc w1 (.cells #[.slice a L c, .int .i64 0, .bool false] 172)
  rw [hz] at hC hz2
  replace hz2 : (w1.alloc (.cells #[.slice a L c, .int .i64 0, .bool false] 172)).heap.size = B + 2 := by omega
  have HB := Lib.hid hB
  clear hB
  go_upto_region 2 with fail
  obtain ⟨w2, hw2⟩ : ∃ W, W = w1.alloc (.cells #[.slice a L c, .int .i64 0, .bool false] 172) := ⟨_, rfl⟩
  rw [← hw2] at hC gb hz2
  have HW2 := Lib.hid hw2.symm
  have hR1 := hn.grown gb (by simp)
  have hG := grown_trans ga gb
  clear hw2 gb hn ga hz hR
  rw [HW2.out]
  have gc := World.grownBy_alloc w2 (.cells #[.int .u8 0, .int .u8 0, .int .u8 0, .int .u8 0, .int .u8 0, .int .u8 0, .int .u8 0, .int .u8 0, .int .u8 0, .int .u8 0, .int .u8 0, .int .u8 0, .int .u8 0, .int .u8 0, .int .u8 0, .int .u8 0, .int .u64 0, .int .u8 0, .int .u8 0, .int .u64 0, .int .u8 0, .int .u8 0, .int .u8 0, .int .u8 0, .int .u8 0, .int .u8 0, .int .u8 0, .int .u8 0, .int .u8 0, .int .u8 0, .int .u8 0, .int .u8 0, .int .u8 0, .int .u8 0, .int .u8 0, .int .u8 0, .int .u8 0, .int .u8 0, .int .u8 0, .int .u8 0, .int .u8 0, .int .u8 0, .int .u8 0, .int .u8 0, .int .u8 0, .int .u8 0, .int .u8 0, .int .u8 0, .int .u8 0, .int .u8 0, .int .u8 0, .int .u8 0] 30) none
  have hm := RowAt.new w2 30 52 DV.zero.v _ DV.zero_row
  rw [hz2] at hm
  obtain ⟨hs1, hs2⟩ := RowAt.store (P := Try.prog) hm 0 30 52 DV.zero.v (by decide) (by kernel_rfl) (fun j _ => DV.one _ j)
  obtain ⟨W, hW⟩ : ∃ W, W = (w2.alloc (.cells #[.int .u8 0, .int .u8 0, .int .u8 0, .int .u8 0, .int .u8 0, .int .u8 0, .int .u8 0, .int .u8 0, .int .u8 0, .int .u8 0, .int .u8 0, .int .u8 0, .int .u8 0, .int .u8 0, .int .u8 0, .int .u8 0, .int .u64 0, .int .u8 0, .int .u8 0, .int .u64 0, .int .u8 0, .int .u8 0, .int .u8 0, .int .u8 0, .int .u8 0, .int .u8 0, .int .u8 0, .int .u8 0, .int .u8 0, .int .u8 0, .int .u8 0, .int .u8 0, .int .u8 0, .int .u8 0, .int .u8 0, .int .u8 0, .int .u8 0, .int .u8 0, .int .u8 0, .int .u8 0, .int .u8 0, .int .u8 0, .int .u8 0, .int .u8 0, .int .u8 0, .int .u8 0, .int .u8 0, .int .u8 0, .int .u8 0, .int .u8 0, .int .u8 0, .int .u8 0] 30)).setCells (B + 2) 0 (rowOf 52 DV.zero.v).toList := ⟨_, rfl⟩
  have gW : w2.grownBy W none := by rw [hW]; exact grown_setCells (B + 2) (Or.inl (by omega)) _ 0 _ gc
  have hR2 : RowAt W (B + 2) 30 52 DV.zero.v := by
    rw [hW]
    exact hs2.congr fun i hi => by rw [if_pos ⟨Nat.zero_le _, by omega⟩, Nat.sub_zero]
  have HW := Lib.hid hW.symm
  have HS := Lib.hid hs1
  have hC := hC.grown gW (by simp)
  have hR1 := hR1.grown gW (by simp)
  have hG := grown_trans hG gW
  clear hm hs1 hs2 hW gc gW
  go_upto_region 3 with (first | ((with_reducible refine wpList_here ?_); refine wpList_st (T := 30) (p := .pointer (some ⟨B + 2, 0, none⟩)) (v := .agg (rowOf 52 DV.zero.v)) (.tmp 5) (.tmp 9) ?_ ?_ ?_ ?_ ?_ HS.out ?_; (· rfl); (· rfl); go_simp; (· kernel_rfl); (· kernel_rfl)))
  rw [HW.out]
  clear HS HW hz2
  have HP := Lib.hid (curPart_any 16 hC (by decide) (by decide))
  clear hC
  go_wp2_with fail
  go_at_call 109
  refine HP.out.mono ?_
  rintro e u3 ⟨⟨ap, m, cp, rfl, hm, hcp, hR⟩, hst, hgr⟩
  have hR1 := hR1.grown hgr (by simp)
  have hR2 := hR2.grown hgr (by simp)
  have hG := grown_into hG hgr (by have := HB.out; omega)
  have HK := Lib.hid (sgOfId_any u3.heap.size m cp ap _ u3 hR hm)
  have HST := Lib.hid hst
  clear hst hgr HP hR hm hcp
  go_wp2_with fail
  go_at_call 108
  refine HK.out.mono ?_
  rintro e v3 ⟨rfl, g3⟩
  obtain ⟨f3, hf⟩ : ∃ f, f = (ISt.good 0).cF L F 16 := ⟨_, rfl⟩
  rw [← hf]
  have HF3 := Lib.hid hf
  clear hf HK
  have hR1 := hR1.grown g3 (by simp)
  have hR2 := hR2.grown g3 (by simp)
  have hC := HST.out.grown g3 (by simp)
  have hG := grown_trans hG g3
  clear g3 HST
  obtain ⟨hs1, hs2⟩ := RowAt.store (P := Try.prog) hR2 0 23 16 (fun j => .int .u8 (f3 j)) (by decide) (by kernel_rfl) (fun j _ => rfl)
  obtain ⟨W, hW⟩ : ∃ W, W = v3.setCells (B + 2) 0 (rowOf 16 (fun j => .int .u8 (f3 j))).toList := ⟨_, rfl⟩
  rw [← hW] at hs1 hs2
  have gW : v3.grownBy W (some (B + 2)) := by rw [hW]; exact grown_setCells (B + 2) (Or.inr rfl) _ 0 _ (grown_refl _ _)
  have hR2 : RowAt W (B + 2) 30 52 (DV.mk f3 0 (fun _ => 0) 0 (fun _ => 0)).v := hs2.congr fun i hi => DV.put_id DV.zero f3 i hi
  have hR1 := hR1.grown gW (by simp)
  have hC := hC.grown gW (fun k e => by cases e; omega)
  have hG := grown_into hG gW (by have := HB.out; omega)
  have HS := Lib.hid hs1
  clear hs1 hs2 gW hW
  go_upto_region 4 with (first | ((with_reducible refine wpList_here ?_); refine wpList_st (T := 23) (p := .pointer (some ⟨B + 2, 0, none⟩)) (v := .agg (rowOf 16 (fun j => .int .u8 (f3 j)))) (.tmp 13) (.tmp 12) ?_ ?_ ?_ ?_ ?_ HS.out ?_; (· rfl); (· rfl); go_simp; (· kernel_rfl); (· kernel_rfl)))
  clear HS
  have HP := Lib.hid (curNum_any 8 hC (by decide) (by decide) HF.out)
  clear hC
  go_wp2_with fail
  go_at_call 110
  refine HP.out.mono ?_
  rintro e v4 ⟨rfl, hst, hgr⟩
  obtain ⟨n4, hn4⟩ : ∃ n, n = ((ISt.good 0).take L ((16 : Nat) : Int)).num L F 8 := ⟨_, rfl⟩
  rw [← hn4]
  have HN4 := Lib.hid hn4
  have hR1 := hR1.grown hgr (by simp)
  have hR2 := hR2.grown hgr (by simp)
  have hG := grown_into hG hgr (by have := HB.out; omega)
  have cc : v4.cell? ⟨(B + 2), 16, none⟩ = some (.int .u64 0) := hR2.cell 16 (by decide)
  have ff := hR2.frozen 16
  obtain ⟨W, hW⟩ : ∃ W, W = v4.setCell ⟨(B + 2), 16, none⟩ (.int .u64 (n4 : Nat)) := ⟨_, rfl⟩
  have gW : v4.grownBy W (some (B + 2)) := by rw [hW]; exact grown_setCell_new (grown_refl _ _) _ _ (Or.inr rfl)
  have hR2' : RowAt W (B + 2) 30 52 (DV.mk f3 n4 (fun _ => 0) 0 (fun _ => 0)).v := by
    rw [hW]
    exact (hR2.put 16 (.int .u64 (n4 : Nat)) (by decide)).congr fun i hi => DV.put_ep (DV.mk f3 0 (fun _ => 0) 0 (fun _ => 0)) n4 i hi
  have hR1 := hR1.grown gW (by simp)
  have hC := CAt.grown hst gW (fun k e => by cases e; omega)
  have hG := grown_into hG gW (by have := HB.out; omega)
  have HW := Lib.hid hW.symm
  have hR2 := hR2'
  clear hW gW hR2' hst hgr hn4 HP
  go_upto_region 5 with fail
  rw [HW.out]
  clear cc ff HW
  have HP := Lib.hid (curDev_any hC)
  clear hC
  go_wp2_with fail
  go_at_call 111
  refine HP.out.mono ?_
  rintro e v5 ⟨rfl, hst, hgr⟩
  obtain ⟨f5, hf⟩ : ∃ f, f = (((ISt.good 0).take L ((16 : Nat) : Int)).take L ((8 : Nat) : Int)).cF L F 2 := ⟨_, rfl⟩
  rw [← hf]
  have HF5 := Lib.hid hf
  have hR1 := hR1.grown hgr (by simp)
  have hR2 := hR2.grown hgr (by simp)
  have hG := grown_into hG hgr (by have := HB.out; omega)
  have hC := hst
  clear hst hgr HP hf
  obtain ⟨hs1, hs2⟩ := RowAt.store (P := Try.prog) hR2 17 26 2 (fun j => .int .u8 (f5 j)) (by decide) (by kernel_rfl) (fun j _ => rfl)
  obtain ⟨W, hW⟩ : ∃ W, W = v5.setCells (B + 2) 17 (rowOf 2 (fun j => .int .u8 (f5 j))).toList := ⟨_, rfl⟩
  rw [← hW] at hs1 hs2
  have gW : v5.grownBy W (some (B + 2)) := by rw [hW]; exact grown_setCells (B + 2) (Or.inr rfl) _ 17 _ (grown_refl _ _)
  have hR2 : RowAt W (B + 2) 30 52 (DV.mk f3 n4 f5 0 (fun _ => 0)).v := hs2.congr fun i hi => DV.put_sd (DV.mk f3 n4 (fun _ => 0) 0 (fun _ => 0)) f5 i hi
  have hR1 := hR1.grown gW (by simp)
  have hC := hC.grown gW (fun k e => by cases e; omega)
  have hG := grown_into hG gW (by have := HB.out; omega)
  have HS := Lib.hid hs1
  clear hs1 hs2 gW hW
  go_upto_region 6 with (first | ((with_reducible refine wpList_here ?_); refine wpList_st (T := 26) (p := .pointer (some ⟨B + 2, 17, none⟩)) (v := .agg (rowOf 2 (fun j => .int .u8 (f5 j)))) (.tmp 19) (.tmp 18) ?_ ?_ ?_ ?_ ?_ HS.out ?_; (· rfl); (· rfl); go_simp; (· kernel_rfl); (· kernel_rfl)))
  clear HS
  have HP := Lib.hid (curNum_any 8 hC (by decide) (by decide) HF.out)
  clear hC
  go_wp2_with fail
  go_at_call 110
  refine HP.out.mono ?_
  rintro e v6 ⟨rfl, hst, hgr⟩
  obtain ⟨n6, hn6⟩ : ∃ n, n = ((((ISt.good 0).take L ((16 : Nat) : Int)).take L ((8 : Nat) : Int)).take L 2).num L F 8 := ⟨_, rfl⟩
  rw [← hn6]
  have HN6 := Lib.hid hn6
  have hR1 := hR1.grown hgr (by simp)
  have hR2 := hR2.grown hgr (by simp)
  have hG := grown_into hG hgr (by have := HB.out; omega)
  have cc : v6.cell? ⟨(B + 2), 19, none⟩ = some (.int .u64 0) := hR2.cell 19 (by decide)
  have ff := hR2.frozen 19
  obtain ⟨W, hW⟩ : ∃ W, W = v6.setCell ⟨(B + 2), 19, none⟩ (.int .u64 (n6 : Nat)) := ⟨_, rfl⟩
  have gW : v6.grownBy W (some (B + 2)) := by rw [hW]; exact grown_setCell_new (grown_refl _ _) _ _ (Or.inr rfl)
  have hR2' : RowAt W (B + 2) 30 52 (DV.mk f3 n4 f5 n6 (fun _ => 0)).v := by
    rw [hW]
    exact (hR2.put 19 (.int .u64 (n6 : Nat)) (by decide)).congr fun i hi => DV.put_kid (DV.mk f3 n4 f5 0 (fun _ => 0)) n6 i hi
  have hR1 := hR1.grown gW (by simp)
  have hC := CAt.grown hst gW (fun k e => by cases e; omega)
  have hG := grown_into hG gW (by have := HB.out; omega)
  have HW := Lib.hid hW.symm
  have hR2 := hR2'
  clear hW gW hR2' hst hgr hn6 HP
  go_upto_region 7 with fail
  rw [HW.out]
  clear cc ff HW
  have HP := Lib.hid (curPart_any 32 hC (by decide) (by decide))
  clear hC
  go_wp2_with fail
  go_at_call 109
  refine HP.out.mono ?_
  rintro e u7 ⟨⟨ap, m, cp, rfl, hm, hcp, hR⟩, hst, hgr⟩
  have hR1 := hR1.grown hgr (by simp)
  have hR2 := hR2.grown hgr (by simp)
  have hG := grown_into hG hgr (by have := HB.out; omega)
  have HK := Lib.hid (sgOfKey_any u7.heap.size m cp ap _ u7 hR hm)
  have HST := Lib.hid hst
  clear hst hgr HP hR hm hcp
  go_wp2_with fail
  go_at_call 112
  refine HK.out.mono ?_
  rintro e v7 ⟨rfl, g3⟩
  obtain ⟨f7, hf⟩ : ∃ f, f = (((((ISt.good 0).take L ((16 : Nat) : Int)).take L ((8 : Nat) : Int)).take L 2).take L ((8 : Nat) : Int)).cF L F 32 := ⟨_, rfl⟩
  rw [← hf]
  have HF7 := Lib.hid hf
  clear hf HK
  have hR1 := hR1.grown g3 (by simp)
  have hR2 := hR2.grown g3 (by simp)
  have hC := HST.out.grown g3 (by simp)
  have hG := grown_trans hG g3
  clear g3 HST
  obtain ⟨hs1, hs2⟩ := RowAt.store (P := Try.prog) hR2 20 28 32 (fun j => .int .u8 (f7 j)) (by decide) (by kernel_rfl) (fun j _ => rfl)
  obtain ⟨W, hW⟩ : ∃ W, W = v7.setCells (B + 2) 20 (rowOf 32 (fun j => .int .u8 (f7 j))).toList := ⟨_, rfl⟩
  rw [← hW] at hs1 hs2
  have gW : v7.grownBy W (some (B + 2)) := by rw [hW]; exact grown_setCells (B + 2) (Or.inr rfl) _ 20 _ (grown_refl _ _)
  have hR2 : RowAt W (B + 2) 30 52 (DV.mk f3 n4 f5 n6 f7).v := hs2.congr fun i hi => DV.put_key (DV.mk f3 n4 f5 n6 (fun _ => 0)) f7 i hi
  have hR1 := hR1.grown gW (by simp)
  have hC := hC.grown gW (fun k e => by cases e; omega)
  have hG := grown_into hG gW (by have := HB.out; omega)
  have HS := Lib.hid hs1
  clear hs1 hs2 gW hW
  go_upto_region 8 with (first | ((with_reducible refine wpList_here ?_); refine wpList_st (T := 28) (p := .pointer (some ⟨B + 2, 20, none⟩)) (v := .agg (rowOf 32 (fun j => .int .u8 (f7 j)))) (.tmp 26) (.tmp 25) ?_ ?_ ?_ ?_ ?_ HS.out ?_; (· rfl); (· rfl); go_simp; (· kernel_rfl); (· kernel_rfl)))
  clear HS
  have HO := Lib.hid (curOk_any hC)
  clear hC
  have HDV := Lib.hid (show distV L F = DV.mk f3 n4 f5 n6 f7 by rw [HF3.out, HN4.out, HF5.out, HN6.out, HF7.out]; rfl)
  obtain ⟨ok, hok⟩ : ∃ b, b = (distS L).all L := ⟨_, rfl⟩
  have hdk : distOk L F = (ok && devMay f5) := by unfold distOk; rw [← hok, HDV.out]
  have HOK := Lib.hid hok
  go_wp2_with fail
  go_at_call 113
  refine HO.out.mono ?_
  rintro e we ⟨he, g5⟩
  have he : e = .returned (.bool ok) := he.trans (by rw [HOK.out]; rfl)
  subst he
  have hR1 := hR1.grown g5 (by simp)
  have hR2 := hR2.grown g5 (by simp)
  have hG := grown_trans hG g5
  clear g5 HO hok
  cases ok with
  | false =>
    have hof : distOk L F = false := hdk
    clear hdk
    have HX2 := Lib.hid (show distOf L F = DV.zero by unfold distOf; rw [hof]; rfl)
    have HOO := Lib.hid hof
    clear hof
    obtain ⟨hs1, hs2⟩ := RowAt.store (P := Try.prog) hR1 0 30 52 DV.zero.v (by decide) (by kernel_rfl) (fun j _ => DV.one _ j)
    have HS := Lib.hid hs1
    obtain ⟨U, hU⟩ : ∃ U, U = we.setCells B 0 (rowOf 52 DV.zero.v).toList := ⟨_, rfl⟩
    rw [← hU] at hs2
    have hG : w.grownBy U none := by rw [hU]; exact grown_setCells B (Or.inl (by have := HB.out; omega)) _ 0 _ hG
    have HU := Lib.hid hU.symm
    have hRR := hs2.congr (v' := DV.zero.v) fun i hi => by rw [if_pos ⟨Nat.zero_le _, by omega⟩, Nat.sub_zero]
    have HG := Lib.hid hG
    have HRR := Lib.hid hRR
    clear hs1 hs2 hU hG hR1 hR2 hRR
    go_wp2_with (first | ((with_reducible refine wpList_here ?_); refine wpList_st (T := 30) (p := .pointer (some ⟨B, 0, none⟩)) (v := .agg (rowOf 52 DV.zero.v)) (.tmp 2) (.tmp 36) ?_ ?_ ?_ ?_ ?_ HS.out ?_; (· rfl); (· rfl); go_simp; (· kernel_rfl); (· kernel_rfl)))
    rw [HU.out]
    exact bodyPost_ret (res_rowAt2 rfl rfl rfl HRR.out (by kernel_rfl) (by kernel_rfl)) rfl ⟨by rw [HX2.out, HOO.out]; rfl, HG.out⟩
  | true =>
    have HLV := Lib.hid (hR2.load (P := Try.prog) 17 26 2 (fun j => .int .u8 (f5 j)) (by decide) (fun j hj => DV.v_sd _ j hj) (by kernel_rfl) (by kernel_rfl))
    have HMAY := Lib.hid (refDev_any f5 we)
    go_wp2_with (first | ((with_reducible refine wpList_here ?_); refine wpList_ld (p := .pointer (some ⟨B + 2, 17, none⟩)) 31 ?_ ?_ ?_ HLV.out ?_; (· rfl); go_simp; (· kernel_rfl)))
    go_at_call 58
    refine HMAY.out.mono ?_
    rintro e wf ⟨rfl, g6⟩
    have hR1 := hR1.grown g6 (by simp)
    have hR2 := hR2.grown g6 (by simp)
    have hG := grown_trans hG g6
    clear g6 HMAY HLV
    obtain ⟨b, hb⟩ : ∃ b, b = devMay f5 := ⟨_, rfl⟩
    rw [← hb] at hdk ⊢
    clear hb
    cases b with
    | false =>
      have hof : distOk L F = false := hdk
      clear hdk
      have HX2 := Lib.hid (show distOf L F = DV.zero by unfold distOf; rw [hof]; rfl)
      have HOO := Lib.hid hof
      clear hof
      obtain ⟨hs1, hs2⟩ := RowAt.store (P := Try.prog) hR1 0 30 52 DV.zero.v (by decide) (by kernel_rfl) (fun j _ => DV.one _ j)
      have HS := Lib.hid hs1
      obtain ⟨U, hU⟩ : ∃ U, U = wf.setCells B 0 (rowOf 52 DV.zero.v).toList := ⟨_, rfl⟩
      rw [← hU] at hs2
      have hG : w.grownBy U none := by rw [hU]; exact grown_setCells B (Or.inl (by have := HB.out; omega)) _ 0 _ hG
      have HU := Lib.hid hU.symm
      have hRR := hs2.congr (v' := DV.zero.v) fun i hi => by rw [if_pos ⟨Nat.zero_le _, by omega⟩, Nat.sub_zero]
      have HG := Lib.hid hG
      have HRR := Lib.hid hRR
      clear hs1 hs2 hU hG hR1 hR2 hRR
      go_wp2_with (first | ((with_reducible refine wpList_here ?_); refine wpList_st (T := 30) (p := .pointer (some ⟨B, 0, none⟩)) (v := .agg (rowOf 52 DV.zero.v)) (.tmp 2) (.tmp 36) ?_ ?_ ?_ ?_ ?_ HS.out ?_; (· rfl); (· rfl); go_simp; (· kernel_rfl); (· kernel_rfl)))
      rw [HU.out]
      exact bodyPost_ret (res_rowAt2 rfl rfl rfl HRR.out (by kernel_rfl) (by kernel_rfl)) rfl ⟨by rw [HX2.out, HOO.out]; rfl, HG.out⟩
    | true =>
      have hof : distOk L F = true := hdk
      clear hdk
      have HX2 := Lib.hid (show distOf L F = DV.mk f3 n4 f5 n6 f7 by unfold distOf; rw [hof, HDV.out]; rfl)
      have HOO := Lib.hid hof
      clear hof
      have HLD := Lib.hid (hR2.load (P := Try.prog) 0 30 52 (DV.mk f3 n4 f5 n6 f7).v (by decide) (fun j _ => by rw [Nat.zero_add]) (by kernel_rfl) (by kernel_rfl))
      obtain ⟨hs1, hs2⟩ := RowAt.store (P := Try.prog) hR1 0 30 52 (DV.mk f3 n4 f5 n6 f7).v (by decide) (by kernel_rfl) (fun j _ => DV.one _ j)
      have HS := Lib.hid hs1
      obtain ⟨U, hU⟩ : ∃ U, U = wf.setCells B 0 (rowOf 52 (DV.mk f3 n4 f5 n6 f7).v).toList := ⟨_, rfl⟩
      rw [← hU] at hs2
      have hG : w.grownBy U none := by rw [hU]; exact grown_setCells B (Or.inl (by have := HB.out; omega)) _ 0 _ hG
      have HU := Lib.hid hU.symm
      have hRR := hs2.congr (v' := (DV.mk f3 n4 f5 n6 f7).v) fun i hi => by rw [if_pos ⟨Nat.zero_le _, by omega⟩, Nat.sub_zero]
      have HG := Lib.hid hG
      have HRR := Lib.hid hRR
      clear hs1 hs2 hU hG hR1 hR2 hRR
      go_wp2_with (first | ((with_reducible refine wpList_here ?_); refine wpList_ld (p := .pointer (some ⟨B + 2, 0, none⟩)) 5 ?_ ?_ ?_ HLD.out ?_; (· rfl); go_simp; (· kernel_rfl)) | ((with_reducible refine wpList_here ?_); refine wpList_st (T := 30) (p := .pointer (some ⟨B, 0, none⟩)) (v := .agg (rowOf 52 (DV.mk f3 n4 f5 n6 f7).v)) (.tmp 2) (.tmp 37) ?_ ?_ ?_ ?_ ?_ HS.out ?_; (· rfl); (· rfl); go_simp; (· kernel_rfl); (· kernel_rfl)))
      rw [HU.out]
      exact bodyPost_ret (res_rowAt2 rfl rfl rfl HRR.out (by kernel_rfl) (by kernel_rfl)) rfl ⟨by rw [HX2.out, HOO.out]; rfl, HG.out⟩
end Go.Proofs.Ytmbefbmpjkbnmaa
namespace Go.Proofs.Ytmbefbmpjkbnmaa
open Go.RowKit

set_option maxRecDepth 100000
set_option maxHeartbeats 4000000

def zeroDist : Nat → Value := (⟨fun _ => 0, 0, fun _ => 0, 0, fun _ => 0⟩ : DV).v
theorem zeroDist_row : (#[.int .u8 0, .int .u8 0, .int .u8 0, .int .u8 0, .int .u8 0, .int .u8 0, .int .u8 0, .int .u8 0, .int .u8 0, .int .u8 0, .int .u8 0, .int .u8 0, .int .u8 0, .int .u8 0, .int .u8 0, .int .u8 0, .int .u64 0, .int .u8 0, .int .u8 0, .int .u64 0, .int .u8 0, .int .u8 0, .int .u8 0, .int .u8 0, .int .u8 0, .int .u8 0, .int .u8 0, .int .u8 0, .int .u8 0, .int .u8 0, .int .u8 0, .int .u8 0, .int .u8 0, .int .u8 0, .int .u8 0, .int .u8 0, .int .u8 0, .int .u8 0, .int .u8 0, .int .u8 0, .int .u8 0, .int .u8 0, .int .u8 0, .int .u8 0, .int .u8 0, .int .u8 0, .int .u8 0, .int .u8 0, .int .u8 0, .int .u8 0, .int .u8 0, .int .u8 0] : Array Value) = rowOf 52 zeroDist := by kernel_rfl
theorem zeroDist_one (j : Nat) : (zeroDist j).oneCell' = true := DV.one _ j
theorem takeDist_any (D L c : Nat) (a : Option Addr) (F : Nat → Nat) (s : ISt) (m : Bool) (Q : (Nat → Value) → World → World → Prop) (w : World) (hRd : Rd w D a L F) (hL : L ≤ 2 ^ 46)
    (HT : ∀ w1 g, w.grownBy w1 none → w.heap.size ≤ g → IAt w1 (some ⟨g, 0, none⟩) L F (.good 0) → Calls Try.prog 67 #[.pointer (some ⟨g, 0, none⟩)] w1 fun e w' => ∃ v, e = .returned (.agg (rowOf 52 v)) ∧ (∀ j, (v j).oneCell' = true) ∧ ISays w1 (some ⟨g, 0, none⟩) L F s w' ∧ Q v w1 w')
    (HM : s.all L = true → ∀ v w1 w2 w3, Q v w1 w2 → w2.grownBy w3 none → Calls Try.prog 61 #[.agg (rowOf 52 v)] w3 fun e w' => e = .returned (.bool m) ∧ w3.grownBy w' none) :
    Calls Try.prog 25 #[.agg (rowOf 3 codDist), .slice a L c] w (TakeSays 52 zeroDist (s.all L && m) Q w) := by
  have ga := World.grownBy_alloc w (.cells (rowOf 3 codDist) 54) none
  have hz1 := World.size_alloc w (.cells (rowOf 3 codDist) 54)
  have hC := RowAt.new w 54 3 codDist _ rfl
  have gb := World.grownBy_alloc (w.alloc (.cells (rowOf 3 codDist) 54)) (.cells #[.int .u8 0, .int .u8 0, .int .u8 0, .int .u8 0, .int .u8 0, .int .u8 0, .int .u8 0, .int .u8 0, .int .u8 0, .int .u8 0, .int .u8 0, .int .u8 0, .int .u8 0, .int .u8 0, .int .u8 0, .int .u8 0, .int .u64 0, .int .u8 0, .int .u8 0, .int .u64 0, .int .u8 0, .int .u8 0, .int .u8 0, .int .u8 0, .int .u8 0, .int .u8 0, .int .u8 0, .int .u8 0, .int .u8 0, .int .u8 0, .int .u8 0, .int .u8 0, .int .u8 0, .int .u8 0, .int .u8 0, .int .u8 0, .int .u8 0, .int .u8 0, .int .u8 0, .int .u8 0, .int .u8 0, .int .u8 0, .int .u8 0, .int .u8 0, .int .u8 0, .int .u8 0, .int .u8 0, .int .u8 0, .int .u8 0, .int .u8 0, .int .u8 0, .int .u8 0] 30) none
  have hz2 := World.size_alloc (w.alloc (.cells (rowOf 3 codDist) 54)) (.cells #[.int .u8 0, .int .u8 0, .int .u8 0, .int .u8 0, .int .u8 0, .int .u8 0, .int .u8 0, .int .u8 0, .int .u8 0, .int .u8 0, .int .u8 0, .int .u8 0, .int .u8 0, .int .u8 0, .int .u8 0, .int .u8 0, .int .u64 0, .int .u8 0, .int .u8 0, .int .u64 0, .int .u8 0, .int .u8 0, .int .u8 0, .int .u8 0, .int .u8 0, .int .u8 0, .int .u8 0, .int .u8 0, .int .u8 0, .int .u8 0, .int .u8 0, .int .u8 0, .int .u8 0, .int .u8 0, .int .u8 0, .int .u8 0, .int .u8 0, .int .u8 0, .int .u8 0, .int .u8 0, .int .u8 0, .int .u8 0, .int .u8 0, .int .u8 0, .int .u8 0, .int .u8 0, .int .u8 0, .int .u8 0, .int .u8 0, .int .u8 0, .int .u8 0, .int .u8 0] 30)
  have hR := RowAt.new (w.alloc (.cells (rowOf 3 codDist) 54)) 30 52 zeroDist _ zeroDist_row
  have gc := World.grownBy_alloc ((w.alloc (.cells (rowOf 3 codDist) 54)).alloc (.cells #[.int .u8 0, .int .u8 0, .int .u8 0, .int .u8 0, .int .u8 0, .int .u8 0, .int .u8 0, .int .u8 0, .int .u8 0, .int .u8 0, .int .u8 0, .int .u8 0, .int .u8 0, .int .u8 0, .int .u8 0, .int .u8 0, .int .u64 0, .int .u8 0, .int .u8 0, .int .u64 0, .int .u8 0, .int .u8 0, .int .u8 0, .int .u8 0, .int .u8 0, .int .u8 0, .int .u8 0, .int .u8 0, .int .u8 0, .int .u8 0, .int .u8 0, .int .u8 0, .int .u8 0, .int .u8 0, .int .u8 0, .int .u8 0, .int .u8 0, .int .u8 0, .int .u8 0, .int .u8 0, .int .u8 0, .int .u8 0, .int .u8 0, .int .u8 0, .int .u8 0, .int .u8 0, .int .u8 0, .int .u8 0, .int .u8 0, .int .u8 0, .int .u8 0, .int .u8 0] 30)) (.cells #[.int .u8 0, .int .u8 0, .int .u8 0, .int .u8 0, .int .u8 0, .int .u8 0, .int .u8 0, .int .u8 0, .int .u8 0, .int .u8 0, .int .u8 0, .int .u8 0, .int .u8 0, .int .u8 0, .int .u8 0, .int .u8 0, .int .u64 0, .int .u8 0, .int .u8 0, .int .u64 0, .int .u8 0, .int .u8 0, .int .u8 0, .int .u8 0, .int .u8 0, .int .u8 0, .int .u8 0, .int .u8 0, .int .u8 0, .int .u8 0, .int .u8 0, .int .u8 0, .int .u8 0, .int .u8 0, .int .u8 0, .int .u8 0, .int .u8 0, .int .u8 0, .int .u8 0, .int .u8 0, .int .u8 0, .int .u8 0, .int .u8 0, .int .u8 0, .int .u8 0, .int .u8 0, .int .u8 0, .int .u8 0, .int .u8 0, .int .u8 0, .int .u8 0, .int .u8 0] 30) none
  have hz3 := World.size_alloc ((w.alloc (.cells (rowOf 3 codDist) 54)).alloc (.cells #[.int .u8 0, .int .u8 0, .int .u8 0, .int .u8 0, .int .u8 0, .int .u8 0, .int .u8 0, .int .u8 0, .int .u8 0, .int .u8 0, .int .u8 0, .int .u8 0, .int .u8 0, .int .u8 0, .int .u8 0, .int .u8 0, .int .u64 0, .int .u8 0, .int .u8 0, .int .u64 0, .int .u8 0, .int .u8 0, .int .u8 0, .int .u8 0, .int .u8 0, .int .u8 0, .int .u8 0, .int .u8 0, .int .u8 0, .int .u8 0, .int .u8 0, .int .u8 0, .int .u8 0, .int .u8 0, .int .u8 0, .int .u8 0, .int .u8 0, .int .u8 0, .int .u8 0, .int .u8 0, .int .u8 0, .int .u8 0, .int .u8 0, .int .u8 0, .int .u8 0, .int .u8 0, .int .u8 0, .int .u8 0, .int .u8 0, .int .u8 0, .int .u8 0, .int .u8 0] 30)) (.cells #[.int .u8 0, .int .u8 0, .int .u8 0, .int .u8 0, .int .u8 0, .int .u8 0, .int .u8 0, .int .u8 0, .int .u8 0, .int .u8 0, .int .u8 0, .int .u8 0, .int .u8 0, .int .u8 0, .int .u8 0, .int .u8 0, .int .u64 0, .int .u8 0, .int .u8 0, .int .u64 0, .int .u8 0, .int .u8 0, .int .u8 0, .int .u8 0, .int .u8 0, .int .u8 0, .int .u8 0, .int .u8 0, .int .u8 0, .int .u8 0, .int .u8 0, .int .u8 0, .int .u8 0, .int .u8 0, .int .u8 0, .int .u8 0, .int .u8 0, .int .u8 0, .int .u8 0, .int .u8 0, .int .u8 0, .int .u8 0, .int .u8 0, .int .u8 0, .int .u8 0, .int .u8 0, .int .u8 0, .int .u8 0, .int .u8 0, .int .u8 0, .int .u8 0, .int .u8 0] 30)
  have hN := RowAt.new ((w.alloc (.cells (rowOf 3 codDist) 54)).alloc (.cells #[.int .u8 0, .int .u8 0, .int .u8 0, .int .u8 0, .int .u8 0, .int .u8 0, .int .u8 0, .int .u8 0, .int .u8 0, .int .u8 0, .int .u8 0, .int .u8 0, .int .u8 0, .int .u8 0, .int .u8 0, .int .u8 0, .int .u64 0, .int .u8 0, .int .u8 0, .int .u64 0, .int .u8 0, .int .u8 0, .int .u8 0, .int .u8 0, .int .u8 0, .int .u8 0, .int .u8 0, .int .u8 0, .int .u8 0, .int .u8 0, .int .u8 0, .int .u8 0, .int .u8 0, .int .u8 0, .int .u8 0, .int .u8 0, .int .u8 0, .int .u8 0, .int .u8 0, .int .u8 0, .int .u8 0, .int .u8 0, .int .u8 0, .int .u8 0, .int .u8 0, .int .u8 0, .int .u8 0, .int .u8 0, .int .u8 0, .int .u8 0, .int .u8 0, .int .u8 0] 30)) 30 52 zeroDist _ zeroDist_row
  rw [hz2, hz1] at hz3 hN
  rw [hz1] at hR
  have hC := (hC.grown gb (by simp)).grown gc (by simp)
  have hR := hR.grown gc (by simp)
  have hG := grown_trans (grown_trans ga gb) gc
  have hRd := hRd.grown hG (by simp)
  have HHT := Lib.hid HT
  have HHM := Lib.hid HM
  have HL := Lib.hid hL
  clear ga gb gc HT HM hz1 hz2 hL
  go_enter Try.func25, Try.ntmps25
  go_upto_region 2 with fail
  obtain ⟨B, hB⟩ : ∃ B, B = w.heap.size := ⟨_, rfl⟩
  rw [← hB] at hC hR hN hz3 ⊢
  generalize ((w.alloc (.cells (rowOf 3 codDist) 54)).alloc (.cells #[.int .u8 0, .int .u8 0, .int .u8 0, .int .u8 0, .int .u8 0, .int .u8 0, .int .u8 0, .int .u8 0, .int .u8 0, .int .u8 0, .int .u8 0, .int .u8 0, .int .u8 0, .int .u8 0, .int .u8 0, .int .u8 0, .int .u64 0, .int .u8 0, .int .u8 0, .int .u64 0, .int .u8 0, .int .u8 0, .int .u8 0, .int .u8 0, .int .u8 0, .int .u8 0, .int .u8 0, .int .u8 0, .int .u8 0, .int .u8 0, .int .u8 0, .int .u8 0, .int .u8 0, .int .u8 0, .int .u8 0, .int .u8 0, .int .u8 0, .int .u8 0, .int .u8 0, .int .u8 0, .int .u8 0, .int .u8 0, .int .u8 0, .int .u8 0, .int .u8 0, .int .u8 0, .int .u8 0, .int .u8 0, .int .u8 0, .int .u8 0, .int .u8 0, .int .u8 0] 30)).alloc (.cells #[.int .u8 0, .int .u8 0, .int .u8 0, .int .u8 0, .int .u8 0, .int .u8 0, .int .u8 0, .int .u8 0, .int .u8 0, .int .u8 0, .int .u8 0, .int .u8 0, .int .u8 0, .int .u8 0, .int .u8 0, .int .u8 0, .int .u64 0, .int .u8 0, .int .u8 0, .int .u64 0, .int .u8 0, .int .u8 0, .int .u8 0, .int .u8 0, .int .u8 0, .int .u8 0, .int .u8 0, .int .u8 0, .int .u8 0, .int .u8 0, .int .u8 0, .int .u8 0, .int .u8 0, .int .u8 0, .int .u8 0, .int .u8 0, .int .u8 0, .int .u8 0, .int .u8 0, .int .u8 0, .int .u8 0, .int .u8 0, .int .u8 0, .int .u8 0, .int .u8 0, .int .u8 0, .int .u8 0, .int .u8 0, .int .u8 0, .int .u8 0, .int .u8 0, .int .u8 0] 30) = w1 at *
  have HB := Lib.hid (And.intro hB hz3)
  clear hB hz3
  have c2 : w1.cell? ⟨B, 2, none⟩ = some (.func (.func 67) #[] #[]) := hC.cell 2 (by decide)
  have e0 := ftDist_some w1
  have HNI := Lib.hid (newInF_any D L c a F w1 hRd HL.out)
  clear hRd HL
  have HC := Lib.hid hC
  have HR := Lib.hid hR
  have HN := Lib.hid hN
  have HG1 := Lib.hid hG
  clear hC hR hN hG
  go_wp2_with fail
  go_at_call 106
  refine HNI.out.mono ?_
  rintro e w2 ⟨p, rfl, hI, hgp, g2, _⟩
  obtain ⟨g, rfl⟩ : ∃ g, p = some ⟨g, 0, none⟩ := by
    obtain ⟨g', a, c, e, _⟩ := hI.st
    exact ⟨g', e⟩
  have hgg := hgp g rfl
  clear hgp e0 c2 HNI
  have hC := HC.out.grown g2 (by simp)
  have hR := HR.out.grown g2 (by simp)
  have hN := HN.out.grown g2 (by simp)
  have hG := grown_trans HG1.out g2
  have HW2 := Lib.hid (show w.heap.size ≤ w2.heap.size ∧ B + 1 < w2.heap.size from ⟨hG.size, by have := g2.size; have := HB.out.2; omega⟩)
  have HGG := Lib.hid (show B + 2 < g from by have := HB.out.2; omega)
  have c2 : w2.cell? ⟨B, 2, none⟩ = some (.func (.func 67) #[] #[]) := hC.cell 2 (by decide)
  have HX := Lib.hid (HHT.out w2 g hG (by have := HG1.out.size; omega) hI)
  have HGW := Lib.hid hG
  clear hI g2 hgg HC HR HN HG1 HHT hG
  have HC := Lib.hid hC
  have HR := Lib.hid hR
  have HN := Lib.hid hN
  clear hC hR hN
  go_wp2_with fail
  go_at_call 67
  refine HX.out.mono ?_
  rintro e w3 ⟨v, rfl, hone, hs, hq⟩
  have HON := Lib.hid hone
  have HQ := Lib.hid hq
  have hC := HC.out.grown hs.gr (fun e => by have := HGG.out; have e : B = g := by simpa [rowP] using e
                                             omega)
  have hR := HR.out.grown hs.gr (fun e => by have := HGG.out; have e : B + 1 = g := by simpa [rowP] using e
                                             omega)
  have hN := HN.out.grown hs.gr (fun e => by have := HGG.out; have e : B + 2 = g := by simpa [rowP] using e
                                             omega)
  have hG : w.grownBy w3 none := grown_into HGW.out (show w2.grownBy w3 (some g) from hs.gr) (by have := HGG.out; have := HB.out.1; omega)
  have hX := RowAt.new w3 30 52 zeroDist _ zeroDist_row
  obtain ⟨k1, k2⟩ := RowAt.store (P := Try.prog) hX 0 30 52 v (by decide) (by kernel_rfl) (fun j _ => HON.out j)
  have gx : w3.grownBy ((w3.alloc (.cells #[.int .u8 0, .int .u8 0, .int .u8 0, .int .u8 0, .int .u8 0, .int .u8 0, .int .u8 0, .int .u8 0, .int .u8 0, .int .u8 0, .int .u8 0, .int .u8 0, .int .u8 0, .int .u8 0, .int .u8 0, .int .u8 0, .int .u64 0, .int .u8 0, .int .u8 0, .int .u64 0, .int .u8 0, .int .u8 0, .int .u8 0, .int .u8 0, .int .u8 0, .int .u8 0, .int .u8 0, .int .u8 0, .int .u8 0, .int .u8 0, .int .u8 0, .int .u8 0, .int .u8 0, .int .u8 0, .int .u8 0, .int .u8 0, .int .u8 0, .int .u8 0, .int .u8 0, .int .u8 0, .int .u8 0, .int .u8 0, .int .u8 0, .int .u8 0, .int .u8 0, .int .u8 0, .int .u8 0, .int .u8 0, .int .u8 0, .int .u8 0, .int .u8 0, .int .u8 0] 30)).setCells w3.heap.size 0 (rowOf 52 v).toList) none := grown_setCells w3.heap.size (Or.inl (Nat.le_refl _)) _ 0 _ (World.grownBy_alloc w3 _ none)
  have hX := k2.congr (v' := v) fun i hi => by rw [if_pos ⟨Nat.zero_le _, by omega⟩, Nat.sub_zero]
  have hI := hs.st.grown0 gx
  have hC := hC.grown gx (by simp)
  have hR := hR.grown gx (by simp)
  have hN := hN.grown gx (by simp)
  have hG := grown_trans hG gx
  obtain ⟨X, hXX⟩ : ∃ X, X = w3.heap.size := ⟨_, rfl⟩
  have HLT := Lib.hid (show B + 2 < X by rw [hXX]; have := hs.st.ltS; have := HGG.out; omega)
  rw [← hXX] at k1 k2 gx hX hI hC hR hN hG
  have HS := Lib.hid k1
  have HXX := Lib.hid hXX
  clear hs k1 k2 hone hq hXX HC HR HN HX HGW c2
  have HC := Lib.hid hC
  have HR := Lib.hid hR
  have HN := Lib.hid hN
  have HX := Lib.hid hX
  have HI := Lib.hid hI
  have HG := Lib.hid hG
  have HGQ := Lib.hid gx
  clear hC hR hN hX hI hG gx
  go_upto_region 6 with (first | ((with_reducible refine wpList_here ?_); refine wpList_st (T := 30) (p := .pointer (some ⟨w3.heap.size, 0, none⟩)) (v := .agg (rowOf 52 v)) (.tmp 8) (.tmp 18) ?_ ?_ ?_ ?_ ?_ (by rw [← HXX.out]; exact HS.out) ?_; (· rfl); (· rfl); go_simp; (· kernel_rfl); (· kernel_rfl)))
  rw [← HXX.out]
  obtain ⟨w4, hw4⟩ : ∃ W, W = (w3.alloc (.cells #[.int .u8 0, .int .u8 0, .int .u8 0, .int .u8 0, .int .u8 0, .int .u8 0, .int .u8 0, .int .u8 0, .int .u8 0, .int .u8 0, .int .u8 0, .int .u8 0, .int .u8 0, .int .u8 0, .int .u8 0, .int .u8 0, .int .u64 0, .int .u8 0, .int .u8 0, .int .u64 0, .int .u8 0, .int .u8 0, .int .u8 0, .int .u8 0, .int .u8 0, .int .u8 0, .int .u8 0, .int .u8 0, .int .u8 0, .int .u8 0, .int .u8 0, .int .u8 0, .int .u8 0, .int .u8 0, .int .u8 0, .int .u8 0, .int .u8 0, .int .u8 0, .int .u8 0, .int .u8 0, .int .u8 0, .int .u8 0, .int .u8 0, .int .u8 0, .int .u8 0, .int .u8 0, .int .u8 0, .int .u8 0, .int .u8 0, .int .u8 0, .int .u8 0, .int .u8 0] 30)).setCells X 0 (rowOf 52 v).toList := ⟨_, rfl⟩
  have hC := HC.out
  have hR := HR.out
  have hN := HN.out
  have hX := HX.out
  have hI := HI.out
  have hG := HG.out
  have hGQ := HGQ.out
  rw [← hw4] at hC hR hN hX hI hG hGQ ⊢
  clear HC HR HN HX HI HG HGQ hw4 HS
  have HE := Lib.hid (inEnd_any hI)
  have hcode := hI.code
  have HLX := Lib.hid (hX.load (P := Try.prog) 0 30 52 v (by decide) (fun j _ => by rw [Nat.zero_add]) (by kernel_rfl) (by kernel_rfl))
  have HLC := Lib.hid (hC.load (P := Try.prog) 0 54 3 codDist (by decide) (fun j _ => by rw [Nat.zero_add]) (by kernel_rfl) (by kernel_rfl))
  have HLN := Lib.hid (hN.load (P := Try.prog) 0 30 52 zeroDist (by decide) (fun j _ => by rw [Nat.zero_add]) (by kernel_rfl) (by kernel_rfl))
  have HG := Lib.hid hG
  have HGQ := Lib.hid hGQ
  clear hI hG hGQ
  obtain ⟨cd, hcd⟩ : ∃ x, x = s.code L := ⟨_, rfl⟩
  rw [← hcd] at hcode HE
  clear hcd
  obtain ⟨al, hal⟩ : ∃ x, x = s.all L := ⟨_, rfl⟩
  rw [← hal] at hcode HHM
  have HAL := Lib.hid hal
  clear hal
  have HR := Lib.hid hR
  have HC := Lib.hid hC
  have HN := Lib.hid hN
  have HX := Lib.hid hX
  clear hR hC hN hX
  go_wp2_with fail
  go_at_call 107
  refine HE.out.mono ?_
  rintro e w5 ⟨rfl, rfl⟩
  clear HE
  cases al with
  | false =>
    have hne : ¬ cd = 0 := hcode
    have HOK := Lib.hid (show (s.all L && m) = false by rw [← HAL.out]; rfl)
    clear hcode
    have hR := HR.out
    have hN := HN.out
    have hC := HC.out
    have hX := HX.out
    clear HR HN HC HX
    obtain ⟨k1, k2⟩ := RowAt.store (P := Try.prog) hR 0 30 52 zeroDist (by decide) (by kernel_rfl) (fun j _ => zeroDist_one j)
    obtain ⟨wz, hwz⟩ : ∃ W, W = w4.setCells (B + 1) 0 (rowOf 52 zeroDist).toList := ⟨_, rfl⟩
    rw [← hwz] at k1 k2
    have gz : w4.grownBy wz (some (B + 1)) := by rw [hwz]; exact grown_setCells (B + 1) (Or.inr rfl) _ 0 _ (grown_refl _ _)
    have HK := Lib.hid (k2.congr (v' := zeroDist) fun i hi => by rw [if_pos ⟨Nat.zero_le _, by omega⟩, Nat.sub_zero])
    have HS := Lib.hid k1
    have HGZ := Lib.hid (grown_into HG.out gz (by have := HB.out; omega))
    have HQZ := Lib.hid (grown_trans (grown_some (row := some (B + 1)) HGQ.out) gz)
    clear k1 k2 hwz gz hR hN hC hX
    go_wp2_with (first | ((with_reducible refine wpList_here ?_); refine wpList_ld (p := .pointer (some ⟨(B + 2), 0, none⟩)) 6 ?_ ?_ ?_ HLN.out ?_; (· rfl); go_simp; (· kernel_rfl)) | ((with_reducible refine wpList_here ?_); refine wpList_st (T := 30) (p := .pointer (some ⟨(B + 1), 0, none⟩)) (v := .agg (rowOf 52 zeroDist)) (.tmp 4) (.tmp 28) ?_ ?_ ?_ ?_ ?_ HS.out ?_; (· rfl); (· rfl); go_simp; (· kernel_rfl); (· kernel_rfl)))
    exact bodyPost_ret (res_rowAt2 rfl rfl rfl HK.out (by kernel_rfl) (by kernel_rfl)) rfl ⟨⟨v, w2, w3, B + 1, by first | rfl | (rw [HOK.out]; rfl), HW2.out.1, HQ.out, HW2.out.2, HQZ.out⟩, HGZ.out⟩
  | true =>
    obtain rfl : cd = 0 := hcode
    have HMY := Lib.hid (mayDist_any v m w4 (fun w6 h => HHM.out (by first | rfl | trivial) v w2 w3 w6 HQ.out (grown_trans HGQ.out h)))
    clear HHM
    go_wp2_with (first | ((with_reducible refine wpList_here ?_); refine wpList_ld (p := .pointer (some ⟨B, 0, none⟩)) 2 ?_ ?_ ?_ HLC.out ?_; (· rfl); go_simp; (· kernel_rfl)) | ((with_reducible refine wpList_here ?_); refine wpList_ld (p := .pointer (some ⟨X, 0, none⟩)) 8 ?_ ?_ ?_ HLX.out ?_; (· rfl); go_simp; (· kernel_rfl)))
    go_at_call 60
    refine HMY.out.mono ?_
    rintro e w6 ⟨rfl, g6⟩
    have hR := HR.out.grown g6 (by simp)
    have hN := HN.out.grown g6 (by simp)
    have hC := HC.out.grown g6 (by simp)
    have hX := HX.out.grown g6 (by simp)
    have HG2 := Lib.hid (grown_trans HG.out g6)
    have HGQ2 := Lib.hid (grown_trans HGQ.out g6)
    clear g6 HR HN HC HX HMY HLX HLN HLC HG HGQ
    have HG := HG2
    have HGQ := HGQ2
    clear HG2 HGQ2
    have HLX := Lib.hid (hX.load (P := Try.prog) 0 30 52 v (by decide) (fun j _ => by rw [Nat.zero_add]) (by kernel_rfl) (by kernel_rfl))
    have HLN := Lib.hid (hN.load (P := Try.prog) 0 30 52 zeroDist (by decide) (fun j _ => by rw [Nat.zero_add]) (by kernel_rfl) (by kernel_rfl))
    cases m with
    | false =>
      have HOK := Lib.hid (show (s.all L && false) = false by rw [← HAL.out]; rfl)
      obtain ⟨k1, k2⟩ := RowAt.store (P := Try.prog) hR 0 30 52 zeroDist (by decide) (by kernel_rfl) (fun j _ => zeroDist_one j)
      obtain ⟨wz, hwz⟩ : ∃ W, W = w6.setCells (B + 1) 0 (rowOf 52 zeroDist).toList := ⟨_, rfl⟩
      rw [← hwz] at k1 k2
      have gz : w6.grownBy wz (some (B + 1)) := by rw [hwz]; exact grown_setCells (B + 1) (Or.inr rfl) _ 0 _ (grown_refl _ _)
      have HK := Lib.hid (k2.congr (v' := zeroDist) fun i hi => by rw [if_pos ⟨Nat.zero_le _, by omega⟩, Nat.sub_zero])
      have HS := Lib.hid k1
      have HGZ := Lib.hid (grown_into HG.out gz (by have := HB.out; omega))
      have HQZ := Lib.hid (grown_trans (grown_some (row := some (B + 1)) HGQ.out) gz)
      clear k1 k2 hwz gz hR hN hC hX
      go_wp2_with (first | ((with_reducible refine wpList_here ?_); refine wpList_ld (p := .pointer (some ⟨(B + 2), 0, none⟩)) 6 ?_ ?_ ?_ HLN.out ?_; (· rfl); go_simp; (· kernel_rfl)) | ((with_reducible refine wpList_here ?_); refine wpList_st (T := 30) (p := .pointer (some ⟨(B + 1), 0, none⟩)) (v := .agg (rowOf 52 zeroDist)) (.tmp 4) (.tmp 28) ?_ ?_ ?_ ?_ ?_ HS.out ?_; (· rfl); (· rfl); go_simp; (· kernel_rfl); (· kernel_rfl)))
      exact bodyPost_ret (res_rowAt2 rfl rfl rfl HK.out (by kernel_rfl) (by kernel_rfl)) rfl ⟨⟨v, w2, w3, B + 1, by first | rfl | (rw [HOK.out]; rfl), HW2.out.1, HQ.out, HW2.out.2, HQZ.out⟩, HGZ.out⟩
    | true =>
      have HOK := Lib.hid (show (s.all L && true) = true by rw [← HAL.out]; rfl)
      obtain ⟨k1, k2⟩ := RowAt.store (P := Try.prog) hR 0 30 52 v (by decide) (by kernel_rfl) (fun j _ => HON.out j)
      obtain ⟨wz, hwz⟩ : ∃ W, W = w6.setCells (B + 1) 0 (rowOf 52 v).toList := ⟨_, rfl⟩
      rw [← hwz] at k1 k2
      have gz : w6.grownBy wz (some (B + 1)) := by rw [hwz]; exact grown_setCells (B + 1) (Or.inr rfl) _ 0 _ (grown_refl _ _)
      have HK := Lib.hid (k2.congr (v' := v) fun i hi => by rw [if_pos ⟨Nat.zero_le _, by omega⟩, Nat.sub_zero])
      have HS := Lib.hid k1
      have HGZ := Lib.hid (grown_into HG.out gz (by have := HB.out; omega))
      have HQZ := Lib.hid (grown_trans (grown_some (row := some (B + 1)) HGQ.out) gz)
      clear k1 k2 hwz gz hR hN hC hX
      go_wp2_with (first | ((with_reducible refine wpList_here ?_); refine wpList_ld (p := .pointer (some ⟨X, 0, none⟩)) 8 ?_ ?_ ?_ HLX.out ?_; (· rfl); go_simp; (· kernel_rfl)) | ((with_reducible refine wpList_here ?_); refine wpList_st (T := 30) (p := .pointer (some ⟨(B + 1), 0, none⟩)) (v := .agg (rowOf 52 v)) (.tmp 4) (.tmp 29) ?_ ?_ ?_ ?_ ?_ HS.out ?_; (· rfl); (· rfl); go_simp; (· kernel_rfl); (· kernel_rfl)))
      exact bodyPost_ret (res_rowAt2 rfl rfl rfl HK.out (by kernel_rfl) (by kernel_rfl)) rfl ⟨⟨v, w2, w3, B + 1, by first | rfl | (rw [HOK.out]; rfl), HW2.out.1, HQ.out, HW2.out.2, HQZ.out⟩, HGZ.out⟩
end Go.Proofs.Ytmbefbmpjkbnmaa
namespace Go.Proofs.Ytmbefbmpjkbnmaa
open Go.RowKit

set_option maxRecDepth 100000
set_option maxHeartbeats 4000000

def codHdr (i : Nat) : Value := if i = 0 then .func (.func 72) #[] #[] else if i = 1 then .func (.func 73) #[] #[] else .func (.func 74) #[] #[]
theorem codHdr_any (w : World) : Calls Try.prog 14 #[] w fun e w' => e = .returned (.agg (rowOf 3 codHdr)) ∧ w.grownBy w' none := by
  have ga := World.grownBy_alloc w (.cells #[.nilFunc, .nilFunc, .nilFunc] 61) none
  have hn := RowAt.new w 61 3 (fun _ => .nilFunc) #[.nilFunc, .nilFunc, .nilFunc] rfl
  obtain ⟨hs1, hs2⟩ := RowAt.store (P := Try.prog) hn 0 61 3 codHdr (by decide) (by kernel_rfl) (fun j _ => by unfold codHdr; (repeat' split) <;> rfl)
  have hrr := hs2.congr (v' := codHdr) fun i hi => by rw [if_pos ⟨Nat.zero_le _, by omega⟩, Nat.sub_zero]
  have hG : w.grownBy _ none := grown_setCells w.heap.size (Or.inl (Nat.le_refl _)) (rowOf 3 codHdr).toList 0 _ ga
  have HS := Lib.hid hs1
  have HRR := Lib.hid hrr
  have HG := Lib.hid hG
  clear ga hn hs1 hs2 hrr hG
  go_enter Try.func14, Try.ntmps14
  go_wp2_with (first | ((with_reducible refine wpList_here ?_); refine wpList_st (T := 61) (p := .pointer (some ⟨w.heap.size, 0, none⟩)) (v := .agg (rowOf 3 codHdr)) (.tmp 0) (.tmp 1) ?_ ?_ ?_ ?_ ?_ HS.out ?_; (· rfl); (· rfl); go_simp; (· kernel_rfl); (· kernel_rfl)))
  exact bodyPost_ret (res_rowAt rfl rfl HRR.out (by kernel_rfl) (by kernel_rfl)) rfl ⟨rfl, HG.out⟩
theorem fmHdr_some (w : World) : (binOp .neq 57 (.func (.func 72) #[] #[]) .nilFunc).run Try.prog w = .ok (.bool true) w := by kernel_rfl
theorem fpHdr_some (w : World) : (binOp .eql 58 (.func (.func 73) #[] #[]) .nilFunc).run Try.prog w = .ok (.bool false) w := by kernel_rfl
theorem ftHdr_some (w : World) : (binOp .eql 59 (.func (.func 74) #[] #[]) .nilFunc).run Try.prog w = .ok (.bool false) w := by kernel_rfl
theorem mayHdr_any (v : Nat → Value) (m : Bool) (w : World) (HM : ∀ w1, w.grownBy w1 none → Calls Try.prog 72 #[.agg (rowOf 34 v)] w1 fun e w' => e = .returned (.bool m) ∧ w1.grownBy w' none) :
    Calls Try.prog 71 #[.agg (rowOf 3 codHdr), .agg (rowOf 34 v)] w fun e w' => e = .returned (.bool m) ∧ w.grownBy w' none := by
  have ga := World.grownBy_alloc w (.cells (rowOf 3 codHdr) 61) none
  have hz := World.size_alloc w (.cells (rowOf 3 codHdr) 61)
  have hC := RowAt.new w 61 3 codHdr _ rfl
  have gb := World.grownBy_alloc (w.alloc (.cells (rowOf 3 codHdr) 61)) (.cells (rowOf 34 v) 36) none
  have hX := RowAt.new (w.alloc (.cells (rowOf 3 codHdr) 61)) 36 34 v _ rfl
  rw [hz] at hX
  have hC := hC.grown gb (by simp)
  have hG := grown_trans ga gb
  have HHM := Lib.hid HM
  clear ga gb HM hz
  go_enter Try.func71, Try.ntmps71
  go_upto_region 1 with fail
  obtain ⟨B, hB⟩ : ∃ B, B = w.heap.size := ⟨_, rfl⟩
  rw [← hB] at hC hX ⊢
  generalize (w.alloc (.cells (rowOf 3 codHdr) 61)).alloc (.cells (rowOf 34 v) 36) = w2 at *
  clear hB
  have c0 : w2.cell? ⟨B, 0, none⟩ = some (.func (.func 72) #[] #[]) := hC.cell 0 (by decide)
  have HL := Lib.hid (hX.load (P := Try.prog) 0 36 34 v (by decide) (fun j _ => by rw [Nat.zero_add]) (by kernel_rfl) (by kernel_rfl))
  have HX := Lib.hid (HHM.out w2 hG)
  have HG := Lib.hid hG
  have e0 := fmHdr_some w2
  clear hC hX hG HHM
  go_wp2_with (first | ((with_reducible refine wpList_here ?_); refine wpList_ld (p := .pointer (some ⟨B + 1, 0, none⟩)) 3 ?_ ?_ ?_ HL.out ?_; (· rfl); go_simp; (· kernel_rfl)))
  go_at_call 72
  refine HX.out.mono ?_
  rintro e w3 ⟨rfl, g3⟩
  have HG3 := Lib.hid (grown_trans HG.out g3)
  clear HX HG HL c0 g3 e0
  go_wp2_with fail
  go_ret
  exact ⟨rfl, HG3.out⟩
theorem putHdr_any (v : Nat → Value) (m : Bool) (n : Nat) (f : Nat → Nat) (w : World) (HM : ∀ w1, w.grownBy w1 none → Calls Try.prog 72 #[.agg (rowOf 34 v)] w1 fun e w' => e = .returned (.bool m) ∧ w1.grownBy w' none)
    (HP : m = true → ∀ w0 w1 g, w.grownBy w0 none → Good w0 w1 g 70024 0 (fun _ => 0) → Calls Try.prog 73 #[.pointer (some ⟨g, 0, none⟩), .agg (rowOf 34 v)] w1 (Goes w0 w1 g 70024 n f)) :
    Calls Try.prog 53 #[.agg (rowOf 3 codHdr), .agg (rowOf 34 v)] w (PutSays w m n f) := by
  have ga := World.grownBy_alloc w (.cells (rowOf 3 codHdr) 61) none
  have hz := World.size_alloc w (.cells (rowOf 3 codHdr) 61)
  have hC := RowAt.new w 61 3 codHdr _ rfl
  have gb := World.grownBy_alloc (w.alloc (.cells (rowOf 3 codHdr) 61)) (.cells (rowOf 34 v) 36) none
  have hX := RowAt.new (w.alloc (.cells (rowOf 3 codHdr) 61)) 36 34 v _ rfl
  rw [hz] at hX
  have hC := hC.grown gb (by simp)
  have hG := grown_trans ga gb
  have HHM := Lib.hid HM
  have HHP := Lib.hid HP
  clear ga gb HM HP hz
  go_enter Try.func53, Try.ntmps53
  go_upto_region 1 with fail
  obtain ⟨B, hB⟩ : ∃ B, B = w.heap.size := ⟨_, rfl⟩
  rw [← hB] at hC hX ⊢
  generalize (w.alloc (.cells (rowOf 3 codHdr) 61)).alloc (.cells (rowOf 34 v) 36) = w2 at *
  have HB := Lib.hid hB
  clear hB
  have c1 : w2.cell? ⟨B, 1, none⟩ = some (.func (.func 73) #[] #[]) := hC.cell 1 (by decide)
  have HL := Lib.hid (hX.load (P := Try.prog) 0 36 34 v (by decide) (fun j _ => by rw [Nat.zero_add]) (by kernel_rfl) (by kernel_rfl))
  have HLC := Lib.hid (hC.load (P := Try.prog) 0 61 3 codHdr (by decide) (fun j _ => by rw [Nat.zero_add]) (by kernel_rfl) (by kernel_rfl))
  have HX := Lib.hid (mayHdr_any v m w2 (fun w1 h => HHM.out w1 (grown_trans hG h)))
  have HG := Lib.hid hG
  have HC := Lib.hid hC
  have HR := Lib.hid hX
  have e0 := fpHdr_some w2
  clear hC hX hG HHM
  go_wp2_with (first | ((with_reducible refine wpList_here ?_); refine wpList_ld (p := .pointer (some ⟨B + 1, 0, none⟩)) 3 ?_ ?_ ?_ HL.out ?_; (· rfl); go_simp; (· kernel_rfl)) | ((with_reducible refine wpList_here ?_); refine wpList_ld (p := .pointer (some ⟨B, 0, none⟩)) 2 ?_ ?_ ?_ HLC.out ?_; (· rfl); go_simp; (· kernel_rfl)))
  go_at_call 71
  refine HX.out.mono ?_
  rintro e w3 ⟨rfl, g3⟩
  have HG3 := Lib.hid (grown_trans HG.out g3)
  clear HX HL HLC c1 e0
  cases m with
  | false =>
    clear g3
    go_wp2_with fail
    go_ret2
    exact ⟨⟨none, 0, rfl, OwnN.nil _ _ _⟩, HG3.out⟩
  | true =>
    have HN := Lib.hid (newOut_any 70024 (by decide) (by decide) w3)
    have HG3' := Lib.hid g3
    clear g3
    go_wp2_with fail
    go_at_call 121
    refine HN.out.mono ?_
    rintro e w4 ⟨p, rfl, hO⟩
    obtain ⟨g, rfl⟩ : ∃ g, p = some ⟨g, 0, none⟩ := by
      obtain ⟨g', a, c, e, _⟩ := (show OAt w3 w4 p (.good 70024 0 fun _ => 0) from hO).st
      exact ⟨g', e⟩
    have hO : Good w3 w4 g 70024 0 (fun _ => 0) := hO
    have hX := HR.out.grown (grown_trans HG3'.out hO.gr) (by simp)
    have hC := HC.out.grown (grown_trans HG3'.out hO.gr) (by simp)
    have c1 : w4.cell? ⟨B, 1, none⟩ = some (.func (.func 73) #[] #[]) := hC.cell 1 (by decide)
    have HL := Lib.hid (hX.load (P := Try.prog) 0 36 34 v (by decide) (fun j _ => by rw [Nat.zero_add]) (by kernel_rfl) (by kernel_rfl))
    have HX := Lib.hid (HHP.out (by first | rfl | trivial) w3 w4 g HG3.out hO)
    clear hX hC hO HHP HN HC HR HG3'
    go_wp2_with (first | ((with_reducible refine wpList_here ?_); refine wpList_ld (p := .pointer (some ⟨B + 1, 0, none⟩)) 3 ?_ ?_ ?_ HL.out ?_; (· rfl); go_simp; (· kernel_rfl)))
    go_at_call 73
    refine HX.out.mono ?_
    rintro e w5 ⟨⟨rfl, h5⟩, _⟩
    have HY := Lib.hid (outBytes_any h5 (good_len h5))
    have HG5 := Lib.hid (grown_trans HG3.out h5.gr)
    clear h5 HX HL c1
    go_wp2_with fail
    go_at_call 122
    refine HY.out.mono ?_
    rintro e w6 hE
    obtain ⟨a, c, rfl, hO, hg⟩ := hE.ex
    have HO := Lib.hid hO
    have HG6 := Lib.hid (grown_trans HG5.out hg)
    have HS5 := Lib.hid HG5.out.size
    clear hE hO hg HY
    go_wp2_with fail
    go_ret2
    exact ⟨⟨a, c, rfl, HO.out.base HS5.out⟩, HG6.out⟩
end Go.Proofs.Ytmbefbmpjkbnmaa
namespace Go.Proofs.Ytmbefbmpjkbnmaa
open Go.RowKit

set_option maxRecDepth 100000
set_option maxHeartbeats 4000000

def zeroHdr : Nat → Value := (⟨fun _ => 0, 0, 0⟩ : HV).v
theorem zeroHdr_row : (#[.int .u8 0, .int .u8 0, .int .u8 0, .int .u8 0, .int .u8 0, .int .u8 0, .int .u8 0, .int .u8 0, .int .u8 0, .int .u8 0, .int .u8 0, .int .u8 0, .int .u8 0, .int .u8 0, .int .u8 0, .int .u8 0, .int .u8 0, .int .u8 0, .int .u8 0, .int .u8 0, .int .u8 0, .int .u8 0, .int .u8 0, .int .u8 0, .int .u8 0, .int .u8 0, .int .u8 0, .int .u8 0, .int .u8 0, .int .u8 0, .int .u8 0, .int .u8 0, .int .u32 0, .int .u32 0] : Array Value) = rowOf 34 zeroHdr := by kernel_rfl
theorem zeroHdr_one (j : Nat) : (zeroHdr j).oneCell' = true := HV.one _ j
theorem takeHdr_any (D L c : Nat) (a : Option Addr) (F : Nat → Nat) (s : ISt) (m : Bool) (Q : (Nat → Value) → World → World → Prop) (w : World) (hRd : Rd w D a L F) (hL : L ≤ 2 ^ 46)
    (HT : ∀ w1 g, w.grownBy w1 none → w.heap.size ≤ g → IAt w1 (some ⟨g, 0, none⟩) L F (.good 0) → Calls Try.prog 74 #[.pointer (some ⟨g, 0, none⟩)] w1 fun e w' => ∃ v, e = .returned (.agg (rowOf 34 v)) ∧ (∀ j, (v j).oneCell' = true) ∧ ISays w1 (some ⟨g, 0, none⟩) L F s w' ∧ Q v w1 w')
    (HM : s.all L = true → ∀ v w1 w2 w3, Q v w1 w2 → w2.grownBy w3 none → Calls Try.prog 72 #[.agg (rowOf 34 v)] w3 fun e w' => e = .returned (.bool m) ∧ w3.grownBy w' none) :
    Calls Try.prog 30 #[.agg (rowOf 3 codHdr), .slice a L c] w (TakeSays 34 zeroHdr (s.all L && m) Q w) := by
  have ga := World.grownBy_alloc w (.cells (rowOf 3 codHdr) 61) none
  have hz1 := World.size_alloc w (.cells (rowOf 3 codHdr) 61)
  have hC := RowAt.new w 61 3 codHdr _ rfl
  have gb := World.grownBy_alloc (w.alloc (.cells (rowOf 3 codHdr) 61)) (.cells #[.int .u8 0, .int .u8 0, .int .u8 0, .int .u8 0, .int .u8 0, .int .u8 0, .int .u8 0, .int .u8 0, .int .u8 0, .int .u8 0, .int .u8 0, .int .u8 0, .int .u8 0, .int .u8 0, .int .u8 0, .int .u8 0, .int .u8 0, .int .u8 0, .int .u8 0, .int .u8 0, .int .u8 0, .int .u8 0, .int .u8 0, .int .u8 0, .int .u8 0, .int .u8 0, .int .u8 0, .int .u8 0, .int .u8 0, .int .u8 0, .int .u8 0, .int .u8 0, .int .u32 0, .int .u32 0] 36) none
  have hz2 := World.size_alloc (w.alloc (.cells (rowOf 3 codHdr) 61)) (.cells #[.int .u8 0, .int .u8 0, .int .u8 0, .int .u8 0, .int .u8 0, .int .u8 0, .int .u8 0, .int .u8 0, .int .u8 0, .int .u8 0, .int .u8 0, .int .u8 0, .int .u8 0, .int .u8 0, .int .u8 0, .int .u8 0, .int .u8 0, .int .u8 0, .int .u8 0, .int .u8 0, .int .u8 0, .int .u8 0, .int .u8 0, .int .u8 0, .int .u8 0, .int .u8 0, .int .u8 0, .int .u8 0, .int .u8 0, .int .u8 0, .int .u8 0, .int .u8 0, .int .u32 0, .int .u32 0] 36)
  have hR := RowAt.new (w.alloc (.cells (rowOf 3 codHdr) 61)) 36 34 zeroHdr _ zeroHdr_row
  have gc := World.grownBy_alloc ((w.alloc (.cells (rowOf 3 codHdr) 61)).alloc (.cells #[.int .u8 0, .int .u8 0, .int .u8 0, .int .u8 0, .int .u8 0, .int .u8 0, .int .u8 0, .int .u8 0, .int .u8 0, .int .u8 0, .int .u8 0, .int .u8 0, .int .u8 0, .int .u8 0, .int .u8 0, .int .u8 0, .int .u8 0, .int .u8 0, .int .u8 0, .int .u8 0, .int .u8 0, .int .u8 0, .int .u8 0, .int .u8 0, .int .u8 0, .int .u8 0, .int .u8 0, .int .u8 0, .int .u8 0, .int .u8 0, .int .u8 0, .int .u8 0, .int .u32 0, .int .u32 0] 36)) (.cells #[.int .u8 0, .int .u8 0, .int .u8 0, .int .u8 0, .int .u8 0, .int .u8 0, .int .u8 0, .int .u8 0, .int .u8 0, .int .u8 0, .int .u8 0, .int .u8 0, .int .u8 0, .int .u8 0, .int .u8 0, .int .u8 0, .int .u8 0, .int .u8 0, .int .u8 0, .int .u8 0, .int .u8 0, .int .u8 0, .int .u8 0, .int .u8 0, .int .u8 0, .int .u8 0, .int .u8 0, .int .u8 0, .int .u8 0, .int .u8 0, .int .u8 0, .int .u8 0, .int .u32 0, .int .u32 0] 36) none
  have hz3 := World.size_alloc ((w.alloc (.cells (rowOf 3 codHdr) 61)).alloc (.cells #[.int .u8 0, .int .u8 0, .int .u8 0, .int .u8 0, .int .u8 0, .int .u8 0, .int .u8 0, .int .u8 0, .int .u8 0, .int .u8 0, .int .u8 0, .int .u8 0, .int .u8 0, .int .u8 0, .int .u8 0, .int .u8 0, .int .u8 0, .int .u8 0, .int .u8 0, .int .u8 0, .int .u8 0, .int .u8 0, .int .u8 0, .int .u8 0, .int .u8 0, .int .u8 0, .int .u8 0, .int .u8 0, .int .u8 0, .int .u8 0, .int .u8 0, .int .u8 0, .int .u32 0, .int .u32 0] 36)) (.cells #[.int .u8 0, .int .u8 0, .int .u8 0, .int .u8 0, .int .u8 0, .int .u8 0, .int .u8 0, .int .u8 0, .int .u8 0, .int .u8 0, .int .u8 0, .int .u8 0, .int .u8 0, .int .u8 0, .int .u8 0, .int .u8 0, .int .u8 0, .int .u8 0, .int .u8 0, .int .u8 0, .int .u8 0, .int .u8 0, .int .u8 0, .int .u8 0, .int .u8 0, .int .u8 0, .int .u8 0, .int .u8 0, .int .u8 0, .int .u8 0, .int .u8 0, .int .u8 0, .int .u32 0, .int .u32 0] 36)
  have hN := RowAt.new ((w.alloc (.cells (rowOf 3 codHdr) 61)).alloc (.cells #[.int .u8 0, .int .u8 0, .int .u8 0, .int .u8 0, .int .u8 0, .int .u8 0, .int .u8 0, .int .u8 0, .int .u8 0, .int .u8 0, .int .u8 0, .int .u8 0, .int .u8 0, .int .u8 0, .int .u8 0, .int .u8 0, .int .u8 0, .int .u8 0, .int .u8 0, .int .u8 0, .int .u8 0, .int .u8 0, .int .u8 0, .int .u8 0, .int .u8 0, .int .u8 0, .int .u8 0, .int .u8 0, .int .u8 0, .int .u8 0, .int .u8 0, .int .u8 0, .int .u32 0, .int .u32 0] 36)) 36 34 zeroHdr _ zeroHdr_row
  rw [hz2, hz1] at hz3 hN
  rw [hz1] at hR
  have hC := (hC.grown gb (by simp)).grown gc (by simp)
  have hR := hR.grown gc (by simp)
  have hG := grown_trans (grown_trans ga gb) gc
  have hRd := hRd.grown hG (by simp)
  have HHT := Lib.hid HT
  have HHM := Lib.hid HM
  have HL := Lib.hid hL
  clear ga gb gc HT HM hz1 hz2 hL
  go_enter Try.func30, Try.ntmps30
  go_upto_region 2 with fail
  obtain ⟨B, hB⟩ : ∃ B, B = w.heap.size := ⟨_, rfl⟩
  rw [← hB] at hC hR hN hz3 ⊢
  generalize ((w.alloc (.cells (rowOf 3 codHdr) 61)).alloc (.cells #[.int .u8 0, .int .u8 0, .int .u8 0, .int .u8 0, .int .u8 0, .int .u8 0, .int .u8 0, .int .u8 0, .int .u8 0, .int .u8 0, .int .u8 0, .int .u8 0, .int .u8 0, .int .u8 0, .int .u8 0, .int .u8 0, .int .u8 0, .int .u8 0, .int .u8 0, .int .u8 0, .int .u8 0, .int .u8 0, .int .u8 0, .int .u8 0, .int .u8 0, .int .u8 0, .int .u8 0, .int .u8 0, .int .u8 0, .int .u8 0, .int .u8 0, .int .u8 0, .int .u32 0, .int .u32 0] 36)).alloc (.cells #[.int .u8 0, .int .u8 0, .int .u8 0, .int .u8 0, .int .u8 0, .int .u8 0, .int .u8 0, .int .u8 0, .int .u8 0, .int .u8 0, .int .u8 0, .int .u8 0, .int .u8 0, .int .u8 0, .int .u8 0, .int .u8 0, .int .u8 0, .int .u8 0, .int .u8 0, .int .u8 0, .int .u8 0, .int .u8 0, .int .u8 0, .int .u8 0, .int .u8 0, .int .u8 0, .int .u8 0, .int .u8 0, .int .u8 0, .int .u8 0, .int .u8 0, .int .u8 0, .int .u32 0, .int .u32 0] 36) = w1 at *
  have HB := Lib.hid (And.intro hB hz3)
  clear hB hz3
  have c2 : w1.cell? ⟨B, 2, none⟩ = some (.func (.func 74) #[] #[]) := hC.cell 2 (by decide)
  have e0 := ftHdr_some w1
  have HNI := Lib.hid (newInF_any D L c a F w1 hRd HL.out)
  clear hRd HL
  have HC := Lib.hid hC
  have HR := Lib.hid hR
  have HN := Lib.hid hN
  have HG1 := Lib.hid hG
  clear hC hR hN hG
  go_wp2_with fail
  go_at_call 106
  refine HNI.out.mono ?_
  rintro e w2 ⟨p, rfl, hI, hgp, g2, _⟩
  obtain ⟨g, rfl⟩ : ∃ g, p = some ⟨g, 0, none⟩ := by
    obtain ⟨g', a, c, e, _⟩ := hI.st
    exact ⟨g', e⟩
  have hgg := hgp g rfl
  clear hgp e0 c2 HNI
  have hC := HC.out.grown g2 (by simp)
  have hR := HR.out.grown g2 (by simp)
  have hN := HN.out.grown g2 (by simp)
  have hG := grown_trans HG1.out g2
  have HW2 := Lib.hid (show w.heap.size ≤ w2.heap.size ∧ B + 1 < w2.heap.size from ⟨hG.size, by have := g2.size; have := HB.out.2; omega⟩)
  have HGG := Lib.hid (show B + 2 < g from by have := HB.out.2; omega)
  have c2 : w2.cell? ⟨B, 2, none⟩ = some (.func (.func 74) #[] #[]) := hC.cell 2 (by decide)
  have HX := Lib.hid (HHT.out w2 g hG (by have := HG1.out.size; omega) hI)
  have HGW := Lib.hid hG
  clear hI g2 hgg HC HR HN HG1 HHT hG
  have HC := Lib.hid hC
  have HR := Lib.hid hR
  have HN := Lib.hid hN
  clear hC hR hN
  go_wp2_with fail
  go_at_call 74
  refine HX.out.mono ?_
  rintro e w3 ⟨v, rfl, hone, hs, hq⟩
  have HON := Lib.hid hone
  have HQ := Lib.hid hq
  have hC := HC.out.grown hs.gr (fun e => by have := HGG.out; have e : B = g := by simpa [rowP] using e
                                             omega)
  have hR := HR.out.grown hs.gr (fun e => by have := HGG.out; have e : B + 1 = g := by simpa [rowP] using e
                                             omega)
  have hN := HN.out.grown hs.gr (fun e => by have := HGG.out; have e : B + 2 = g := by simpa [rowP] using e
                                             omega)
  have hG : w.grownBy w3 none := grown_into HGW.out (show w2.grownBy w3 (some g) from hs.gr) (by have := HGG.out; have := HB.out.1; omega)
  have hX := RowAt.new w3 36 34 zeroHdr _ zeroHdr_row
  obtain ⟨k1, k2⟩ := RowAt.store (P := Try.prog) hX 0 36 34 v (by decide) (by kernel_rfl) (fun j _ => HON.out j)
  have gx : w3.grownBy ((w3.alloc (.cells #[.int .u8 0, .int .u8 0, .int .u8 0, .int .u8 0, .int .u8 0, .int .u8 0, .int .u8 0, .int .u8 0, .int .u8 0, .int .u8 0, .int .u8 0, .int .u8 0, .int .u8 0, .int .u8 0, .int .u8 0, .int .u8 0, .int .u8 0, .int .u8 0, .int .u8 0, .int .u8 0, .int .u8 0, .int .u8 0, .int .u8 0, .int .u8 0, .int .u8 0, .int .u8 0, .int .u8 0, .int .u8 0, .int .u8 0, .int .u8 0, .int .u8 0, .int .u8 0, .int .u32 0, .int .u32 0] 36)).setCells w3.heap.size 0 (rowOf 34 v).toList) none := grown_setCells w3.heap.size (Or.inl (Nat.le_refl _)) _ 0 _ (World.grownBy_alloc w3 _ none)
  have hX := k2.congr (v' := v) fun i hi => by rw [if_pos ⟨Nat.zero_le _, by omega⟩, Nat.sub_zero]
  have hI := hs.st.grown0 gx
  have hC := hC.grown gx (by simp)
  have hR := hR.grown gx (by simp)
  have hN := hN.grown gx (by simp)
  have hG := grown_trans hG gx
  obtain ⟨X, hXX⟩ : ∃ X, X = w3.heap.size := ⟨_, rfl⟩
  have HLT := Lib.hid (show B + 2 < X by rw [hXX]; have := hs.st.ltS; have := HGG.out; omega)
  rw [← hXX] at k1 k2 gx hX hI hC hR hN hG
  have HS := Lib.hid k1
  have HXX := Lib.hid hXX
  clear hs k1 k2 hone hq hXX HC HR HN HX HGW c2
  have HC := Lib.hid hC
  have HR := Lib.hid hR
  have HN := Lib.hid hN
  have HX := Lib.hid hX
  have HI := Lib.hid hI
  have HG := Lib.hid hG
  have HGQ := Lib.hid gx
  clear hC hR hN hX hI hG gx
  go_upto_region 6 with (first | ((with_reducible refine wpList_here ?_); refine wpList_st (T := 36) (p := .pointer (some ⟨w3.heap.size, 0, none⟩)) (v := .agg (rowOf 34 v)) (.tmp 8) (.tmp 18) ?_ ?_ ?_ ?_ ?_ (by rw [← HXX.out]; exact HS.out) ?_; (· rfl); (· rfl); go_simp; (· kernel_rfl); (· kernel_rfl)))
  rw [← HXX.out]
  obtain ⟨w4, hw4⟩ : ∃ W, W = (w3.alloc (.cells #[.int .u8 0, .int .u8 0, .int .u8 0, .int .u8 0, .int .u8 0, .int .u8 0, .int .u8 0, .int .u8 0, .int .u8 0, .int .u8 0, .int .u8 0, .int .u8 0, .int .u8 0, .int .u8 0, .int .u8 0, .int .u8 0, .int .u8 0, .int .u8 0, .int .u8 0, .int .u8 0, .int .u8 0, .int .u8 0, .int .u8 0, .int .u8 0, .int .u8 0, .int .u8 0, .int .u8 0, .int .u8 0, .int .u8 0, .int .u8 0, .int .u8 0, .int .u8 0, .int .u32 0, .int .u32 0] 36)).setCells X 0 (rowOf 34 v).toList := ⟨_, rfl⟩
  have hC := HC.out
  have hR := HR.out
  have hN := HN.out
  have hX := HX.out
  have hI := HI.out
  have hG := HG.out
  have hGQ := HGQ.out
  rw [← hw4] at hC hR hN hX hI hG hGQ ⊢
  clear HC HR HN HX HI HG HGQ hw4 HS
  have HE := Lib.hid (inEnd_any hI)
  have hcode := hI.code
  have HLX := Lib.hid (hX.load (P := Try.prog) 0 36 34 v (by decide) (fun j _ => by rw [Nat.zero_add]) (by kernel_rfl) (by kernel_rfl))
  have HLC := Lib.hid (hC.load (P := Try.prog) 0 61 3 codHdr (by decide) (fun j _ => by rw [Nat.zero_add]) (by kernel_rfl) (by kernel_rfl))
  have HLN := Lib.hid (hN.load (P := Try.prog) 0 36 34 zeroHdr (by decide) (fun j _ => by rw [Nat.zero_add]) (by kernel_rfl) (by kernel_rfl))
  have HG := Lib.hid hG
  have HGQ := Lib.hid hGQ
  clear hI hG hGQ
  obtain ⟨cd, hcd⟩ : ∃ x, x = s.code L := ⟨_, rfl⟩
  rw [← hcd] at hcode HE
  clear hcd
  obtain ⟨al, hal⟩ : ∃ x, x = s.all L := ⟨_, rfl⟩
  rw [← hal] at hcode HHM
  have HAL := Lib.hid hal
  clear hal
  have HR := Lib.hid hR
  have HC := Lib.hid hC
  have HN := Lib.hid hN
  have HX := Lib.hid hX
  clear hR hC hN hX
  go_wp2_with fail
  go_at_call 107
  refine HE.out.mono ?_
  rintro e w5 ⟨rfl, rfl⟩
  clear HE
  cases al with
  | false =>
    have hne : ¬ cd = 0 := hcode
    have HOK := Lib.hid (show (s.all L && m) = false by rw [← HAL.out]; rfl)
    clear hcode
    have hR := HR.out
    have hN := HN.out
    have hC := HC.out
    have hX := HX.out
    clear HR HN HC HX
    obtain ⟨k1, k2⟩ := RowAt.store (P := Try.prog) hR 0 36 34 zeroHdr (by decide) (by kernel_rfl) (fun j _ => zeroHdr_one j)
    obtain ⟨wz, hwz⟩ : ∃ W, W = w4.setCells (B + 1) 0 (rowOf 34 zeroHdr).toList := ⟨_, rfl⟩
    rw [← hwz] at k1 k2
    have gz : w4.grownBy wz (some (B + 1)) := by rw [hwz]; exact grown_setCells (B + 1) (Or.inr rfl) _ 0 _ (grown_refl _ _)
    have HK := Lib.hid (k2.congr (v' := zeroHdr) fun i hi => by rw [if_pos ⟨Nat.zero_le _, by omega⟩, Nat.sub_zero])
    have HS := Lib.hid k1
    have HGZ := Lib.hid (grown_into HG.out gz (by have := HB.out; omega))
    have HQZ := Lib.hid (grown_trans (grown_some (row := some (B + 1)) HGQ.out) gz)
    clear k1 k2 hwz gz hR hN hC hX
    go_wp2_with (first | ((with_reducible refine wpList_here ?_); refine wpList_ld (p := .pointer (some ⟨(B + 2), 0, none⟩)) 6 ?_ ?_ ?_ HLN.out ?_; (· rfl); go_simp; (· kernel_rfl)) | ((with_reducible refine wpList_here ?_); refine wpList_st (T := 36) (p := .pointer (some ⟨(B + 1), 0, none⟩)) (v := .agg (rowOf 34 zeroHdr)) (.tmp 4) (.tmp 28) ?_ ?_ ?_ ?_ ?_ HS.out ?_; (· rfl); (· rfl); go_simp; (· kernel_rfl); (· kernel_rfl)))
    exact bodyPost_ret (res_rowAt2 rfl rfl rfl HK.out (by kernel_rfl) (by kernel_rfl)) rfl ⟨⟨v, w2, w3, B + 1, by first | rfl | (rw [HOK.out]; rfl), HW2.out.1, HQ.out, HW2.out.2, HQZ.out⟩, HGZ.out⟩
  | true =>
    obtain rfl : cd = 0 := hcode
    have HMY := Lib.hid (mayHdr_any v m w4 (fun w6 h => HHM.out (by first | rfl | trivial) v w2 w3 w6 HQ.out (grown_trans HGQ.out h)))
    clear HHM
    go_wp2_with (first | ((with_reducible refine wpList_here ?_); refine wpList_ld (p := .pointer (some ⟨B, 0, none⟩)) 2 ?_ ?_ ?_ HLC.out ?_; (· rfl); go_simp; (· kernel_rfl)) | ((with_reducible refine wpList_here ?_); refine wpList_ld (p := .pointer (some ⟨X, 0, none⟩)) 8 ?_ ?_ ?_ HLX.out ?_; (· rfl); go_simp; (· kernel_rfl)))
    go_at_call 71
    refine HMY.out.mono ?_
    rintro e w6 ⟨rfl, g6⟩
    have hR := HR.out.grown g6 (by simp)
    have hN := HN.out.grown g6 (by simp)
    have hC := HC.out.grown g6 (by simp)
    have hX := HX.out.grown g6 (by simp)
    have HG2 := Lib.hid (grown_trans HG.out g6)
    have HGQ2 := Lib.hid (grown_trans HGQ.out g6)
    clear g6 HR HN HC HX HMY HLX HLN HLC HG HGQ
    have HG := HG2
    have HGQ := HGQ2
    clear HG2 HGQ2
    have HLX := Lib.hid (hX.load (P := Try.prog) 0 36 34 v (by decide) (fun j _ => by rw [Nat.zero_add]) (by kernel_rfl) (by kernel_rfl))
    have HLN := Lib.hid (hN.load (P := Try.prog) 0 36 34 zeroHdr (by decide) (fun j _ => by rw [Nat.zero_add]) (by kernel_rfl) (by kernel_rfl))
    cases m with
    | false =>
      have HOK := Lib.hid (show (s.all L && false) = false by rw [← HAL.out]; rfl)
      obtain ⟨k1, k2⟩ := RowAt.store (P := Try.prog) hR 0 36 34 zeroHdr (by decide) (by kernel_rfl) (fun j _ => zeroHdr_one j)
      obtain ⟨wz, hwz⟩ : ∃ W, W = w6.setCells (B + 1) 0 (rowOf 34 zeroHdr).toList := ⟨_, rfl⟩
      rw [← hwz] at k1 k2
      have gz : w6.grownBy wz (some (B + 1)) := by rw [hwz]; exact grown_setCells (B + 1) (Or.inr rfl) _ 0 _ (grown_refl _ _)
      have HK := Lib.hid (k2.congr (v' := zeroHdr) fun i hi => by rw [if_pos ⟨Nat.zero_le _, by omega⟩, Nat.sub_zero])
      have HS := Lib.hid k1
      have HGZ := Lib.hid (grown_into HG.out gz (by have := HB.out; omega))
      have HQZ := Lib.hid (grown_trans (grown_some (row := some (B + 1)) HGQ.out) gz)
      clear k1 k2 hwz gz hR hN hC hX
      go_wp2_with (first | ((with_reducible refine wpList_here ?_); refine wpList_ld (p := .pointer (some ⟨(B + 2), 0, none⟩)) 6 ?_ ?_ ?_ HLN.out ?_; (· rfl); go_simp; (· kernel_rfl)) | ((with_reducible refine wpList_here ?_); refine wpList_st (T := 36) (p := .pointer (some ⟨(B + 1), 0, none⟩)) (v := .agg (rowOf 34 zeroHdr)) (.tmp 4) (.tmp 28) ?_ ?_ ?_ ?_ ?_ HS.out ?_; (· rfl); (· rfl); go_simp; (· kernel_rfl); (· kernel_rfl)))
      exact bodyPost_ret (res_rowAt2 rfl rfl rfl HK.out (by kernel_rfl) (by kernel_rfl)) rfl ⟨⟨v, w2, w3, B + 1, by first | rfl | (rw [HOK.out]; rfl), HW2.out.1, HQ.out, HW2.out.2, HQZ.out⟩, HGZ.out⟩
    | true =>
      have HOK := Lib.hid (show (s.all L && true) = true by rw [← HAL.out]; rfl)
      obtain ⟨k1, k2⟩ := RowAt.store (P := Try.prog) hR 0 36 34 v (by decide) (by kernel_rfl) (fun j _ => HON.out j)
      obtain ⟨wz, hwz⟩ : ∃ W, W = w6.setCells (B + 1) 0 (rowOf 34 v).toList := ⟨_, rfl⟩
      rw [← hwz] at k1 k2
      have gz : w6.grownBy wz (some (B + 1)) := by rw [hwz]; exact grown_setCells (B + 1) (Or.inr rfl) _ 0 _ (grown_refl _ _)
      have HK := Lib.hid (k2.congr (v' := v) fun i hi => by rw [if_pos ⟨Nat.zero_le _, by omega⟩, Nat.sub_zero])
      have HS := Lib.hid k1
      have HGZ := Lib.hid (grown_into HG.out gz (by have := HB.out; omega))
      have HQZ := Lib.hid (grown_trans (grown_some (row := some (B + 1)) HGQ.out) gz)
      clear k1 k2 hwz gz hR hN hC hX
      go_wp2_with (first | ((with_reducible refine wpList_here ?_); refine wpList_ld (p := .pointer (some ⟨X, 0, none⟩)) 8 ?_ ?_ ?_ HLX.out ?_; (· rfl); go_simp; (· kernel_rfl)) | ((with_reducible refine wpList_here ?_); refine wpList_st (T := 36) (p := .pointer (some ⟨(B + 1), 0, none⟩)) (v := .agg (rowOf 34 v)) (.tmp 4) (.tmp 29) ?_ ?_ ?_ ?_ ?_ HS.out ?_; (· rfl); (· rfl); go_simp; (· kernel_rfl); (· kernel_rfl)))
      exact bodyPost_ret (res_rowAt2 rfl rfl rfl HK.out (by kernel_rfl) (by kernel_rfl)) rfl ⟨⟨v, w2, w3, B + 1, by first | rfl | (rw [HOK.out]; rfl), HW2.out.1, HQ.out, HW2.out.2, HQZ.out⟩, HGZ.out⟩
end Go.Proofs.Ytmbefbmpjkbnmaa
namespace Go.Proofs.Ytmbefbmpjkbnmaa
open Go.RowKit

set_option maxRecDepth 100000
set_option maxHeartbeats 4000000

def codRos (i : Nat) : Value := if i = 0 then .func (.func 78) #[] #[] else if i = 1 then .func (.func 80) #[] #[] else .func (.func 82) #[] #[]
theorem codRos_any (w : World) : Calls Try.prog 18 #[] w fun e w' => e = .returned (.agg (rowOf 3 codRos)) ∧ w.grownBy w' none := by
  have ga := World.grownBy_alloc w (.cells #[.nilFunc, .nilFunc, .nilFunc] 70) none
  have hn := RowAt.new w 70 3 (fun _ => .nilFunc) #[.nilFunc, .nilFunc, .nilFunc] rfl
  obtain ⟨hs1, hs2⟩ := RowAt.store (P := Try.prog) hn 0 70 3 codRos (by decide) (by kernel_rfl) (fun j _ => by unfold codRos; (repeat' split) <;> rfl)
  have hrr := hs2.congr (v' := codRos) fun i hi => by rw [if_pos ⟨Nat.zero_le _, by omega⟩, Nat.sub_zero]
  have hG : w.grownBy _ none := grown_setCells w.heap.size (Or.inl (Nat.le_refl _)) (rowOf 3 codRos).toList 0 _ ga
  have HS := Lib.hid hs1
  have HRR := Lib.hid hrr
  have HG := Lib.hid hG
  clear ga hn hs1 hs2 hrr hG
  go_enter Try.func18, Try.ntmps18
  go_wp2_with (first | ((with_reducible refine wpList_here ?_); refine wpList_st (T := 70) (p := .pointer (some ⟨w.heap.size, 0, none⟩)) (v := .agg (rowOf 3 codRos)) (.tmp 0) (.tmp 1) ?_ ?_ ?_ ?_ ?_ HS.out ?_; (· rfl); (· rfl); go_simp; (· kernel_rfl); (· kernel_rfl)))
  exact bodyPost_ret (res_rowAt rfl rfl HRR.out (by kernel_rfl) (by kernel_rfl)) rfl ⟨rfl, HG.out⟩
theorem fmRos_some (w : World) : (binOp .neq 66 (.func (.func 78) #[] #[]) .nilFunc).run Try.prog w = .ok (.bool true) w := by kernel_rfl
theorem fpRos_some (w : World) : (binOp .eql 67 (.func (.func 80) #[] #[]) .nilFunc).run Try.prog w = .ok (.bool false) w := by kernel_rfl
theorem ftRos_some (w : World) : (binOp .eql 68 (.func (.func 82) #[] #[]) .nilFunc).run Try.prog w = .ok (.bool false) w := by kernel_rfl
theorem mayRos_any (v : Nat → Value) (m : Bool) (w : World) (HM : ∀ w1, w.grownBy w1 none → Calls Try.prog 78 #[.agg (rowOf 18 v)] w1 fun e w' => e = .returned (.bool m) ∧ w1.grownBy w' none) :
    Calls Try.prog 77 #[.agg (rowOf 3 codRos), .agg (rowOf 18 v)] w fun e w' => e = .returned (.bool m) ∧ w.grownBy w' none := by
  have ga := World.grownBy_alloc w (.cells (rowOf 3 codRos) 70) none
  have hz := World.size_alloc w (.cells (rowOf 3 codRos) 70)
  have hC := RowAt.new w 70 3 codRos _ rfl
  have gb := World.grownBy_alloc (w.alloc (.cells (rowOf 3 codRos) 70)) (.cells (rowOf 18 v) 33) none
  have hX := RowAt.new (w.alloc (.cells (rowOf 3 codRos) 70)) 33 18 v _ rfl
  rw [hz] at hX
  have hC := hC.grown gb (by simp)
  have hG := grown_trans ga gb
  have HHM := Lib.hid HM
  clear ga gb HM hz
  go_enter Try.func77, Try.ntmps77
  go_upto_region 1 with fail
  obtain ⟨B, hB⟩ : ∃ B, B = w.heap.size := ⟨_, rfl⟩
  rw [← hB] at hC hX ⊢
  generalize (w.alloc (.cells (rowOf 3 codRos) 70)).alloc (.cells (rowOf 18 v) 33) = w2 at *
  clear hB
  have c0 : w2.cell? ⟨B, 0, none⟩ = some (.func (.func 78) #[] #[]) := hC.cell 0 (by decide)
  have HL := Lib.hid (hX.load (P := Try.prog) 0 33 18 v (by decide) (fun j _ => by rw [Nat.zero_add]) (by kernel_rfl) (by kernel_rfl))
  have HX := Lib.hid (HHM.out w2 hG)
  have HG := Lib.hid hG
  have e0 := fmRos_some w2
  clear hC hX hG HHM
  go_wp2_with (first | ((with_reducible refine wpList_here ?_); refine wpList_ld (p := .pointer (some ⟨B + 1, 0, none⟩)) 3 ?_ ?_ ?_ HL.out ?_; (· rfl); go_simp; (· kernel_rfl)))
  go_at_call 78
  refine HX.out.mono ?_
  rintro e w3 ⟨rfl, g3⟩
  have HG3 := Lib.hid (grown_trans HG.out g3)
  clear HX HG HL c0 g3 e0
  go_wp2_with fail
  go_ret
  exact ⟨rfl, HG3.out⟩
theorem putRos_any (v : Nat → Value) (m : Bool) (n : Nat) (f : Nat → Nat) (w : World) (HM : ∀ w1, w.grownBy w1 none → Calls Try.prog 78 #[.agg (rowOf 18 v)] w1 fun e w' => e = .returned (.bool m) ∧ w1.grownBy w' none)
    (HP : m = true → ∀ w0 w1 g, w.grownBy w0 none → Good w0 w1 g 70024 0 (fun _ => 0) → Calls Try.prog 80 #[.pointer (some ⟨g, 0, none⟩), .agg (rowOf 18 v)] w1 (Goes w0 w1 g 70024 n f)) :
    Calls Try.prog 76 #[.agg (rowOf 3 codRos), .agg (rowOf 18 v)] w (PutSays w m n f) := by
  have ga := World.grownBy_alloc w (.cells (rowOf 3 codRos) 70) none
  have hz := World.size_alloc w (.cells (rowOf 3 codRos) 70)
  have hC := RowAt.new w 70 3 codRos _ rfl
  have gb := World.grownBy_alloc (w.alloc (.cells (rowOf 3 codRos) 70)) (.cells (rowOf 18 v) 33) none
  have hX := RowAt.new (w.alloc (.cells (rowOf 3 codRos) 70)) 33 18 v _ rfl
  rw [hz] at hX
  have hC := hC.grown gb (by simp)
  have hG := grown_trans ga gb
  have HHM := Lib.hid HM
  have HHP := Lib.hid HP
  clear ga gb HM HP hz
  go_enter Try.func76, Try.ntmps76
  go_upto_region 1 with fail
  obtain ⟨B, hB⟩ : ∃ B, B = w.heap.size := ⟨_, rfl⟩
  rw [← hB] at hC hX ⊢
  generalize (w.alloc (.cells (rowOf 3 codRos) 70)).alloc (.cells (rowOf 18 v) 33) = w2 at *
  have HB := Lib.hid hB
  clear hB
  have c1 : w2.cell? ⟨B, 1, none⟩ = some (.func (.func 80) #[] #[]) := hC.cell 1 (by decide)
  have HL := Lib.hid (hX.load (P := Try.prog) 0 33 18 v (by decide) (fun j _ => by rw [Nat.zero_add]) (by kernel_rfl) (by kernel_rfl))
  have HLC := Lib.hid (hC.load (P := Try.prog) 0 70 3 codRos (by decide) (fun j _ => by rw [Nat.zero_add]) (by kernel_rfl) (by kernel_rfl))
  have HX := Lib.hid (mayRos_any v m w2 (fun w1 h => HHM.out w1 (grown_trans hG h)))
  have HG := Lib.hid hG
  have HC := Lib.hid hC
  have HR := Lib.hid hX
  have e0 := fpRos_some w2
  clear hC hX hG HHM
  go_wp2_with (first | ((with_reducible refine wpList_here ?_); refine wpList_ld (p := .pointer (some ⟨B + 1, 0, none⟩)) 3 ?_ ?_ ?_ HL.out ?_; (· rfl); go_simp; (· kernel_rfl)) | ((with_reducible refine wpList_here ?_); refine wpList_ld (p := .pointer (some ⟨B, 0, none⟩)) 2 ?_ ?_ ?_ HLC.out ?_; (· rfl); go_simp; (· kernel_rfl)))
  go_at_call 77
  refine HX.out.mono ?_
  rintro e w3 ⟨rfl, g3⟩
  have HG3 := Lib.hid (grown_trans HG.out g3)
  clear HX HL HLC c1 e0
  cases m with
  | false =>
    clear g3
    go_wp2_with fail
    go_ret2
    exact ⟨⟨none, 0, rfl, OwnN.nil _ _ _⟩, HG3.out⟩
  | true =>
    have HN := Lib.hid (newOut_any 70024 (by decide) (by decide) w3)
    have HG3' := Lib.hid g3
    clear g3
    go_wp2_with fail
    go_at_call 121
    refine HN.out.mono ?_
    rintro e w4 ⟨p, rfl, hO⟩
    obtain ⟨g, rfl⟩ : ∃ g, p = some ⟨g, 0, none⟩ := by
      obtain ⟨g', a, c, e, _⟩ := (show OAt w3 w4 p (.good 70024 0 fun _ => 0) from hO).st
      exact ⟨g', e⟩
    have hO : Good w3 w4 g 70024 0 (fun _ => 0) := hO
    have hX := HR.out.grown (grown_trans HG3'.out hO.gr) (by simp)
    have hC := HC.out.grown (grown_trans HG3'.out hO.gr) (by simp)
    have c1 : w4.cell? ⟨B, 1, none⟩ = some (.func (.func 80) #[] #[]) := hC.cell 1 (by decide)
    have HL := Lib.hid (hX.load (P := Try.prog) 0 33 18 v (by decide) (fun j _ => by rw [Nat.zero_add]) (by kernel_rfl) (by kernel_rfl))
    have HX := Lib.hid (HHP.out (by first | rfl | trivial) w3 w4 g HG3.out hO)
    clear hX hC hO HHP HN HC HR HG3'
    go_wp2_with (first | ((with_reducible refine wpList_here ?_); refine wpList_ld (p := .pointer (some ⟨B + 1, 0, none⟩)) 3 ?_ ?_ ?_ HL.out ?_; (· rfl); go_simp; (· kernel_rfl)))
    go_at_call 80
    refine HX.out.mono ?_
    rintro e w5 ⟨⟨rfl, h5⟩, _⟩
    have HY := Lib.hid (outBytes_any h5 (good_len h5))
    have HG5 := Lib.hid (grown_trans HG3.out h5.gr)
    clear h5 HX HL c1
    go_wp2_with fail
    go_at_call 122
    refine HY.out.mono ?_
    rintro e w6 hE
    obtain ⟨a, c, rfl, hO, hg⟩ := hE.ex
    have HO := Lib.hid hO
    have HG6 := Lib.hid (grown_trans HG5.out hg)
    have HS5 := Lib.hid HG5.out.size
    clear hE hO hg HY
    go_wp2_with fail
    go_ret2
    exact ⟨⟨a, c, rfl, HO.out.base HS5.out⟩, HG6.out⟩
end Go.Proofs.Ytmbefbmpjkbnmaa
namespace Go.Proofs.Ytmbefbmpjkbnmaa
open Go.RowKit

set_option maxRecDepth 100000
set_option maxHeartbeats 4000000

def zeroRos : Nat → Value := (⟨fun _ => 0, 0, none, 0, 0⟩ : RV).v
theorem zeroRos_row : (#[.int .u8 0, .int .u8 0, .int .u8 0, .int .u8 0, .int .u8 0, .int .u8 0, .int .u8 0, .int .u8 0, .int .u8 0, .int .u8 0, .int .u8 0, .int .u8 0, .int .u8 0, .int .u8 0, .int .u8 0, .int .u8 0, .int .u64 0, .slice none 0 0] : Array Value) = rowOf 18 zeroRos := by kernel_rfl
theorem zeroRos_one (j : Nat) : (zeroRos j).oneCell' = true := RV.one _ j
theorem takeRos_any (D L c : Nat) (a : Option Addr) (F : Nat → Nat) (s : ISt) (m : Bool) (Q : (Nat → Value) → World → World → Prop) (w : World) (hRd : Rd w D a L F) (hL : L ≤ 2 ^ 46)
    (HT : ∀ w1 g, w.grownBy w1 none → w.heap.size ≤ g → IAt w1 (some ⟨g, 0, none⟩) L F (.good 0) → Calls Try.prog 82 #[.pointer (some ⟨g, 0, none⟩)] w1 fun e w' => ∃ v, e = .returned (.agg (rowOf 18 v)) ∧ (∀ j, (v j).oneCell' = true) ∧ ISays w1 (some ⟨g, 0, none⟩) L F s w' ∧ Q v w1 w')
    (HM : s.all L = true → ∀ v w1 w2 w3, Q v w1 w2 → w2.grownBy w3 none → Calls Try.prog 78 #[.agg (rowOf 18 v)] w3 fun e w' => e = .returned (.bool m) ∧ w3.grownBy w' none) :
    Calls Try.prog 27 #[.agg (rowOf 3 codRos), .slice a L c] w (TakeSays 18 zeroRos (s.all L && m) Q w) := by
  have ga := World.grownBy_alloc w (.cells (rowOf 3 codRos) 70) none
  have hz1 := World.size_alloc w (.cells (rowOf 3 codRos) 70)
  have hC := RowAt.new w 70 3 codRos _ rfl
  have gb := World.grownBy_alloc (w.alloc (.cells (rowOf 3 codRos) 70)) (.cells #[.int .u8 0, .int .u8 0, .int .u8 0, .int .u8 0, .int .u8 0, .int .u8 0, .int .u8 0, .int .u8 0, .int .u8 0, .int .u8 0, .int .u8 0, .int .u8 0, .int .u8 0, .int .u8 0, .int .u8 0, .int .u8 0, .int .u64 0, .slice none 0 0] 33) none
  have hz2 := World.size_alloc (w.alloc (.cells (rowOf 3 codRos) 70)) (.cells #[.int .u8 0, .int .u8 0, .int .u8 0, .int .u8 0, .int .u8 0, .int .u8 0, .int .u8 0, .int .u8 0, .int .u8 0, .int .u8 0, .int .u8 0, .int .u8 0, .int .u8 0, .int .u8 0, .int .u8 0, .int .u8 0, .int .u64 0, .slice none 0 0] 33)
  have hR := RowAt.new (w.alloc (.cells (rowOf 3 codRos) 70)) 33 18 zeroRos _ zeroRos_row
  have gc := World.grownBy_alloc ((w.alloc (.cells (rowOf 3 codRos) 70)).alloc (.cells #[.int .u8 0, .int .u8 0, .int .u8 0, .int .u8 0, .int .u8 0, .int .u8 0, .int .u8 0, .int .u8 0, .int .u8 0, .int .u8 0, .int .u8 0, .int .u8 0, .int .u8 0, .int .u8 0, .int .u8 0, .int .u8 0, .int .u64 0, .slice none 0 0] 33)) (.cells #[.int .u8 0, .int .u8 0, .int .u8 0, .int .u8 0, .int .u8 0, .int .u8 0, .int .u8 0, .int .u8 0, .int .u8 0, .int .u8 0, .int .u8 0, .int .u8 0, .int .u8 0, .int .u8 0, .int .u8 0, .int .u8 0, .int .u64 0, .slice none 0 0] 33) none
  have hz3 := World.size_alloc ((w.alloc (.cells (rowOf 3 codRos) 70)).alloc (.cells #[.int .u8 0, .int .u8 0, .int .u8 0, .int .u8 0, .int .u8 0, .int .u8 0, .int .u8 0, .int .u8 0, .int .u8 0, .int .u8 0, .int .u8 0, .int .u8 0, .int .u8 0, .int .u8 0, .int .u8 0, .int .u8 0, .int .u64 0, .slice none 0 0] 33)) (.cells #[.int .u8 0, .int .u8 0, .int .u8 0, .int .u8 0, .int .u8 0, .int .u8 0, .int .u8 0, .int .u8 0, .int .u8 0, .int .u8 0, .int .u8 0, .int .u8 0, .int .u8 0, .int .u8 0, .int .u8 0, .int .u8 0, .int .u64 0, .slice none 0 0] 33)
  have hN := RowAt.new ((w.alloc (.cells (rowOf 3 codRos) 70)).alloc (.cells #[.int .u8 0, .int .u8 0, .int .u8 0, .int .u8 0, .int .u8 0, .int .u8 0, .int .u8 0, .int .u8 0, .int .u8 0, .int .u8 0, .int .u8 0, .int .u8 0, .int .u8 0, .int .u8 0, .int .u8 0, .int .u8 0, .int .u64 0, .slice none 0 0] 33)) 33 18 zeroRos _ zeroRos_row
  rw [hz2, hz1] at hz3 hN
  rw [hz1] at hR
  have hC := (hC.grown gb (by simp)).grown gc (by simp)
  have hR := hR.grown gc (by simp)
  have hG := grown_trans (grown_trans ga gb) gc
  have hRd := hRd.grown hG (by simp)
  have HHT := Lib.hid HT
  have HHM := Lib.hid HM
  have HL := Lib.hid hL
  clear ga gb gc HT HM hz1 hz2 hL
  go_enter Try.func27, Try.ntmps27
  go_upto_region 2 with fail
  obtain ⟨B, hB⟩ : ∃ B, B = w.heap.size := ⟨_, rfl⟩
  rw [← hB] at hC hR hN hz3 ⊢
  generalize ((w.alloc (.cells (rowOf 3 codRos) 70)).alloc (.cells #[.int .u8 0, .int .u8 0, .int .u8 0, .int .u8 0, .int .u8 0, .int .u8 0, .int .u8 0, .int .u8 0, .int .u8 0, .int .u8 0, .int .u8 0, .int .u8 0, .int .u8 0, .int .u8 0, .int .u8 0, .int .u8 0, .int .u64 0, .slice none 0 0] 33)).alloc (.cells #[.int .u8 0, .int .u8 0, .int .u8 0, .int .u8 0, .int .u8 0, .int .u8 0, .int .u8 0, .int .u8 0, .int .u8 0, .int .u8 0, .int .u8 0, .int .u8 0, .int .u8 0, .int .u8 0, .int .u8 0, .int .u8 0, .int .u64 0, .slice none 0 0] 33) = w1 at *
  have HB := Lib.hid (And.intro hB hz3)
  clear hB hz3
  have c2 : w1.cell? ⟨B, 2, none⟩ = some (.func (.func 82) #[] #[]) := hC.cell 2 (by decide)
  have e0 := ftRos_some w1
  have HNI := Lib.hid (newInF_any D L c a F w1 hRd HL.out)
  clear hRd HL
  have HC := Lib.hid hC
  have HR := Lib.hid hR
  have HN := Lib.hid hN
  have HG1 := Lib.hid hG
  clear hC hR hN hG
  go_wp2_with fail
  go_at_call 106
  refine HNI.out.mono ?_
  rintro e w2 ⟨p, rfl, hI, hgp, g2, _⟩
  obtain ⟨g, rfl⟩ : ∃ g, p = some ⟨g, 0, none⟩ := by
    obtain ⟨g', a, c, e, _⟩ := hI.st
    exact ⟨g', e⟩
  have hgg := hgp g rfl
  clear hgp e0 c2 HNI
  have hC := HC.out.grown g2 (by simp)
  have hR := HR.out.grown g2 (by simp)
  have hN := HN.out.grown g2 (by simp)
  have hG := grown_trans HG1.out g2
  have HW2 := Lib.hid (show w.heap.size ≤ w2.heap.size ∧ B + 1 < w2.heap.size from ⟨hG.size, by have := g2.size; have := HB.out.2; omega⟩)
  have HGG := Lib.hid (show B + 2 < g from by have := HB.out.2; omega)
  have c2 : w2.cell? ⟨B, 2, none⟩ = some (.func (.func 82) #[] #[]) := hC.cell 2 (by decide)
  have HX := Lib.hid (HHT.out w2 g hG (by have := HG1.out.size; omega) hI)
  have HGW := Lib.hid hG
  clear hI g2 hgg HC HR HN HG1 HHT hG
  have HC := Lib.hid hC
  have HR := Lib.hid hR
  have HN := Lib.hid hN
  clear hC hR hN
  go_wp2_with fail
  go_at_call 82
  refine HX.out.mono ?_
  rintro e w3 ⟨v, rfl, hone, hs, hq⟩
  have HON := Lib.hid hone
  have HQ := Lib.hid hq
  have hC := HC.out.grown hs.gr (fun e => by have := HGG.out; have e : B = g := by simpa [rowP] using e
                                             omega)
  have hR := HR.out.grown hs.gr (fun e => by have := HGG.out; have e : B + 1 = g := by simpa [rowP] using e
                                             omega)
  have hN := HN.out.grown hs.gr (fun e => by have := HGG.out; have e : B + 2 = g := by simpa [rowP] using e
                                             omega)
  have hG : w.grownBy w3 none := grown_into HGW.out (show w2.grownBy w3 (some g) from hs.gr) (by have := HGG.out; have := HB.out.1; omega)
  have hX := RowAt.new w3 33 18 zeroRos _ zeroRos_row
  obtain ⟨k1, k2⟩ := RowAt.store (P := Try.prog) hX 0 33 18 v (by decide) (by kernel_rfl) (fun j _ => HON.out j)
  have gx : w3.grownBy ((w3.alloc (.cells #[.int .u8 0, .int .u8 0, .int .u8 0, .int .u8 0, .int .u8 0, .int .u8 0, .int .u8 0, .int .u8 0, .int .u8 0, .int .u8 0, .int .u8 0, .int .u8 0, .int .u8 0, .int .u8 0, .int .u8 0, .int .u8 0, .int .u64 0, .slice none 0 0] 33)).setCells w3.heap.size 0 (rowOf 18 v).toList) none := grown_setCells w3.heap.size (Or.inl (Nat.le_refl _)) _ 0 _ (World.grownBy_alloc w3 _ none)
  have hX := k2.congr (v' := v) fun i hi => by rw [if_pos ⟨Nat.zero_le _, by omega⟩, Nat.sub_zero]
  have hI := hs.st.grown0 gx
  have hC := hC.grown gx (by simp)
  have hR := hR.grown gx (by simp)
  have hN := hN.grown gx (by simp)
  have hG := grown_trans hG gx
  obtain ⟨X, hXX⟩ : ∃ X, X = w3.heap.size := ⟨_, rfl⟩
  have HLT := Lib.hid (show B + 2 < X by rw [hXX]; have := hs.st.ltS; have := HGG.out; omega)
  rw [← hXX] at k1 k2 gx hX hI hC hR hN hG
  have HS := Lib.hid k1
  have HXX := Lib.hid hXX
  clear hs k1 k2 hone hq hXX HC HR HN HX HGW c2
  have HC := Lib.hid hC
  have HR := Lib.hid hR
  have HN := Lib.hid hN
  have HX := Lib.hid hX
  have HI := Lib.hid hI
  have HG := Lib.hid hG
  have HGQ := Lib.hid gx
  clear hC hR hN hX hI hG gx
  go_upto_region 6 with (first | ((with_reducible refine wpList_here ?_); refine wpList_st (T := 33) (p := .pointer (some ⟨w3.heap.size, 0, none⟩)) (v := .agg (rowOf 18 v)) (.tmp 8) (.tmp 18) ?_ ?_ ?_ ?_ ?_ (by rw [← HXX.out]; exact HS.out) ?_; (· rfl); (· rfl); go_simp; (· kernel_rfl); (· kernel_rfl)))
  rw [← HXX.out]
  obtain ⟨w4, hw4⟩ : ∃ W, W = (w3.alloc (.cells #[.int .u8 0, .int .u8 0, .int .u8 0, .int .u8 0, .int .u8 0, .int .u8 0, .int .u8 0, .int .u8 0, .int .u8 0, .int .u8 0, .int .u8 0, .int .u8 0, .int .u8 0, .int .u8 0, .int .u8 0, .int .u8 0, .int .u64 0, .slice none 0 0] 33)).setCells X 0 (rowOf 18 v).toList := ⟨_, rfl⟩
  have hC := HC.out
  have hR := HR.out
  have hN := HN.out
  have hX := HX.out
  have hI := HI.out
  have hG := HG.out
  have hGQ := HGQ.out
  rw [← hw4] at hC hR hN hX hI hG hGQ ⊢
  clear HC HR HN HX HI HG HGQ hw4 HS
  have HE := Lib.hid (inEnd_any hI)
  have hcode := hI.code
  have HLX := Lib.hid (hX.load (P := Try.prog) 0 33 18 v (by decide) (fun j _ => by rw [Nat.zero_add]) (by kernel_rfl) (by kernel_rfl))
  have HLC := Lib.hid (hC.load (P := Try.prog) 0 70 3 codRos (by decide) (fun j _ => by rw [Nat.zero_add]) (by kernel_rfl) (by kernel_rfl))
  have HLN := Lib.hid (hN.load (P := Try.prog) 0 33 18 zeroRos (by decide) (fun j _ => by rw [Nat.zero_add]) (by kernel_rfl) (by kernel_rfl))
  have HG := Lib.hid hG
  have HGQ := Lib.hid hGQ
  clear hI hG hGQ
  obtain ⟨cd, hcd⟩ : ∃ x, x = s.code L := ⟨_, rfl⟩
  rw [← hcd] at hcode HE
  clear hcd
  obtain ⟨al, hal⟩ : ∃ x, x = s.all L := ⟨_, rfl⟩
  rw [← hal] at hcode HHM
  have HAL := Lib.hid hal
  clear hal
  have HR := Lib.hid hR
  have HC := Lib.hid hC
  have HN := Lib.hid hN
  have HX := Lib.hid hX
  clear hR hC hN hX
  go_wp2_with fail
  go_at_call 107
  refine HE.out.mono ?_
  rintro e w5 ⟨rfl, rfl⟩
  clear HE
  cases al with
  | false =>
    have hne : ¬ cd = 0 := hcode
    have HOK := Lib.hid (show (s.all L && m) = false by rw [← HAL.out]; rfl)
    clear hcode
    have hR := HR.out
    have hN := HN.out
    have hC := HC.out
    have hX := HX.out
    clear HR HN HC HX
    obtain ⟨k1, k2⟩ := RowAt.store (P := Try.prog) hR 0 33 18 zeroRos (by decide) (by kernel_rfl) (fun j _ => zeroRos_one j)
    obtain ⟨wz, hwz⟩ : ∃ W, W = w4.setCells (B + 1) 0 (rowOf 18 zeroRos).toList := ⟨_, rfl⟩
    rw [← hwz] at k1 k2
    have gz : w4.grownBy wz (some (B + 1)) := by rw [hwz]; exact grown_setCells (B + 1) (Or.inr rfl) _ 0 _ (grown_refl _ _)
    have HK := Lib.hid (k2.congr (v' := zeroRos) fun i hi => by rw [if_pos ⟨Nat.zero_le _, by omega⟩, Nat.sub_zero])
    have HS := Lib.hid k1
    have HGZ := Lib.hid (grown_into HG.out gz (by have := HB.out; omega))
    have HQZ := Lib.hid (grown_trans (grown_some (row := some (B + 1)) HGQ.out) gz)
    clear k1 k2 hwz gz hR hN hC hX
    go_wp2_with (first | ((with_reducible refine wpList_here ?_); refine wpList_ld (p := .pointer (some ⟨(B + 2), 0, none⟩)) 6 ?_ ?_ ?_ HLN.out ?_; (· rfl); go_simp; (· kernel_rfl)) | ((with_reducible refine wpList_here ?_); refine wpList_st (T := 33) (p := .pointer (some ⟨(B + 1), 0, none⟩)) (v := .agg (rowOf 18 zeroRos)) (.tmp 4) (.tmp 28) ?_ ?_ ?_ ?_ ?_ HS.out ?_; (· rfl); (· rfl); go_simp; (· kernel_rfl); (· kernel_rfl)))
    exact bodyPost_ret (res_rowAt2 rfl rfl rfl HK.out (by kernel_rfl) (by kernel_rfl)) rfl ⟨⟨v, w2, w3, B + 1, by first | rfl | (rw [HOK.out]; rfl), HW2.out.1, HQ.out, HW2.out.2, HQZ.out⟩, HGZ.out⟩
  | true =>
    obtain rfl : cd = 0 := hcode
    have HMY := Lib.hid (mayRos_any v m w4 (fun w6 h => HHM.out (by first | rfl | trivial) v w2 w3 w6 HQ.out (grown_trans HGQ.out h)))
    clear HHM
    go_wp2_with (first | ((with_reducible refine wpList_here ?_); refine wpList_ld (p := .pointer (some ⟨B, 0, none⟩)) 2 ?_ ?_ ?_ HLC.out ?_; (· rfl); go_simp; (· kernel_rfl)) | ((with_reducible refine wpList_here ?_); refine wpList_ld (p := .pointer (some ⟨X, 0, none⟩)) 8 ?_ ?_ ?_ HLX.out ?_; (· rfl); go_simp; (· kernel_rfl)))
    go_at_call 77
    refine HMY.out.mono ?_
    rintro e w6 ⟨rfl, g6⟩
    have hR := HR.out.grown g6 (by simp)
    have hN := HN.out.grown g6 (by simp)
    have hC := HC.out.grown g6 (by simp)
    have hX := HX.out.grown g6 (by simp)
    have HG2 := Lib.hid (grown_trans HG.out g6)
    have HGQ2 := Lib.hid (grown_trans HGQ.out g6)
    clear g6 HR HN HC HX HMY HLX HLN HLC HG HGQ
    have HG := HG2
    have HGQ := HGQ2
    clear HG2 HGQ2
    have HLX := Lib.hid (hX.load (P := Try.prog) 0 33 18 v (by decide) (fun j _ => by rw [Nat.zero_add]) (by kernel_rfl) (by kernel_rfl))
    have HLN := Lib.hid (hN.load (P := Try.prog) 0 33 18 zeroRos (by decide) (fun j _ => by rw [Nat.zero_add]) (by kernel_rfl) (by kernel_rfl))
    cases m with
    | false =>
      have HOK := Lib.hid (show (s.all L && false) = false by rw [← HAL.out]; rfl)
      obtain ⟨k1, k2⟩ := RowAt.store (P := Try.prog) hR 0 33 18 zeroRos (by decide) (by kernel_rfl) (fun j _ => zeroRos_one j)
      obtain ⟨wz, hwz⟩ : ∃ W, W = w6.setCells (B + 1) 0 (rowOf 18 zeroRos).toList := ⟨_, rfl⟩
      rw [← hwz] at k1 k2
      have gz : w6.grownBy wz (some (B + 1)) := by rw [hwz]; exact grown_setCells (B + 1) (Or.inr rfl) _ 0 _ (grown_refl _ _)
      have HK := Lib.hid (k2.congr (v' := zeroRos) fun i hi => by rw [if_pos ⟨Nat.zero_le _, by omega⟩, Nat.sub_zero])
      have HS := Lib.hid k1
      have HGZ := Lib.hid (grown_into HG.out gz (by have := HB.out; omega))
      have HQZ := Lib.hid (grown_trans (grown_some (row := some (B + 1)) HGQ.out) gz)
      clear k1 k2 hwz gz hR hN hC hX
      go_wp2_with (first | ((with_reducible refine wpList_here ?_); refine wpList_ld (p := .pointer (some ⟨(B + 2), 0, none⟩)) 6 ?_ ?_ ?_ HLN.out ?_; (· rfl); go_simp; (· kernel_rfl)) | ((with_reducible refine wpList_here ?_); refine wpList_st (T := 33) (p := .pointer (some ⟨(B + 1), 0, none⟩)) (v := .agg (rowOf 18 zeroRos)) (.tmp 4) (.tmp 28) ?_ ?_ ?_ ?_ ?_ HS.out ?_; (· rfl); (· rfl); go_simp; (· kernel_rfl); (· kernel_rfl)))
      exact bodyPost_ret (res_rowAt2 rfl rfl rfl HK.out (by kernel_rfl) (by kernel_rfl)) rfl ⟨⟨v, w2, w3, B + 1, by first | rfl | (rw [HOK.out]; rfl), HW2.out.1, HQ.out, HW2.out.2, HQZ.out⟩, HGZ.out⟩
    | true =>
      have HOK := Lib.hid (show (s.all L && true) = true by rw [← HAL.out]; rfl)
      obtain ⟨k1, k2⟩ := RowAt.store (P := Try.prog) hR 0 33 18 v (by decide) (by kernel_rfl) (fun j _ => HON.out j)
      obtain ⟨wz, hwz⟩ : ∃ W, W = w6.setCells (B + 1) 0 (rowOf 18 v).toList := ⟨_, rfl⟩
      rw [← hwz] at k1 k2
      have gz : w6.grownBy wz (some (B + 1)) := by rw [hwz]; exact grown_setCells (B + 1) (Or.inr rfl) _ 0 _ (grown_refl _ _)
      have HK := Lib.hid (k2.congr (v' := v) fun i hi => by rw [if_pos ⟨Nat.zero_le _, by omega⟩, Nat.sub_zero])
      have HS := Lib.hid k1
      have HGZ := Lib.hid (grown_into HG.out gz (by have := HB.out; omega))
      have HQZ := Lib.hid (grown_trans (grown_some (row := some (B + 1)) HGQ.out) gz)
      clear k1 k2 hwz gz hR hN hC hX
      go_wp2_with (first | ((with_reducible refine wpList_here ?_); refine wpList_ld (p := .pointer (some ⟨X, 0, none⟩)) 8 ?_ ?_ ?_ HLX.out ?_; (· rfl); go_simp; (· kernel_rfl)) | ((with_reducible refine wpList_here ?_); refine wpList_st (T := 33) (p := .pointer (some ⟨(B + 1), 0, none⟩)) (v := .agg (rowOf 18 v)) (.tmp 4) (.tmp 29) ?_ ?_ ?_ ?_ ?_ HS.out ?_; (· rfl); (· rfl); go_simp; (· kernel_rfl); (· kernel_rfl)))
      exact bodyPost_ret (res_rowAt2 rfl rfl rfl HK.out (by kernel_rfl) (by kernel_rfl)) rfl ⟨⟨v, w2, w3, B + 1, by first | rfl | (rw [HOK.out]; rfl), HW2.out.1, HQ.out, HW2.out.2, HQZ.out⟩, HGZ.out⟩
end Go.Proofs.Ytmbefbmpjkbnmaa
namespace Go.Proofs.Ytmbefbmpjkbnmaa
open Go.RowKit

set_option maxRecDepth 100000
set_option maxHeartbeats 4000000

def codEnv (i : Nat) : Value := if i = 0 then .func (.func 88) #[] #[] else if i = 1 then .func (.func 91) #[] #[] else .func (.func 94) #[] #[]
theorem codEnv_any (w : World) : Calls Try.prog 21 #[] w fun e w' => e = .returned (.agg (rowOf 3 codEnv)) ∧ w.grownBy w' none := by
  have ga := World.grownBy_alloc w (.cells #[.nilFunc, .nilFunc, .nilFunc] 78) none
  have hn := RowAt.new w 78 3 (fun _ => .nilFunc) #[.nilFunc, .nilFunc, .nilFunc] rfl
  obtain ⟨hs1, hs2⟩ := RowAt.store (P := Try.prog) hn 0 78 3 codEnv (by decide) (by kernel_rfl) (fun j _ => by unfold codEnv; (repeat' split) <;> rfl)
  have hrr := hs2.congr (v' := codEnv) fun i hi => by rw [if_pos ⟨Nat.zero_le _, by omega⟩, Nat.sub_zero]
  have hG : w.grownBy _ none := grown_setCells w.heap.size (Or.inl (Nat.le_refl _)) (rowOf 3 codEnv).toList 0 _ ga
  have HS := Lib.hid hs1
  have HRR := Lib.hid hrr
  have HG := Lib.hid hG
  clear ga hn hs1 hs2 hrr hG
  go_enter Try.func21, Try.ntmps21
  go_wp2_with (first | ((with_reducible refine wpList_here ?_); refine wpList_st (T := 78) (p := .pointer (some ⟨w.heap.size, 0, none⟩)) (v := .agg (rowOf 3 codEnv)) (.tmp 0) (.tmp 1) ?_ ?_ ?_ ?_ ?_ HS.out ?_; (· rfl); (· rfl); go_simp; (· kernel_rfl); (· kernel_rfl)))
  exact bodyPost_ret (res_rowAt rfl rfl HRR.out (by kernel_rfl) (by kernel_rfl)) rfl ⟨rfl, HG.out⟩
theorem fmEnv_some (w : World) : (binOp .neq 74 (.func (.func 88) #[] #[]) .nilFunc).run Try.prog w = .ok (.bool true) w := by kernel_rfl
theorem fpEnv_some (w : World) : (binOp .eql 75 (.func (.func 91) #[] #[]) .nilFunc).run Try.prog w = .ok (.bool false) w := by kernel_rfl
theorem ftEnv_some (w : World) : (binOp .eql 76 (.func (.func 94) #[] #[]) .nilFunc).run Try.prog w = .ok (.bool false) w := by kernel_rfl
theorem mayEnv_any (v : Nat → Value) (m : Bool) (w : World) (HM : ∀ w1, w.grownBy w1 none → Calls Try.prog 88 #[.agg (rowOf 106 v)] w1 fun e w' => e = .returned (.bool m) ∧ w1.grownBy w' none) :
    Calls Try.prog 87 #[.agg (rowOf 3 codEnv), .agg (rowOf 106 v)] w fun e w' => e = .returned (.bool m) ∧ w.grownBy w' none := by
  have ga := World.grownBy_alloc w (.cells (rowOf 3 codEnv) 78) none
  have hz := World.size_alloc w (.cells (rowOf 3 codEnv) 78)
  have hC := RowAt.new w 78 3 codEnv _ rfl
  have gb := World.grownBy_alloc (w.alloc (.cells (rowOf 3 codEnv) 78)) (.cells (rowOf 106 v) 41) none
  have hX := RowAt.new (w.alloc (.cells (rowOf 3 codEnv) 78)) 41 106 v _ rfl
  rw [hz] at hX
  have hC := hC.grown gb (by simp)
  have hG := grown_trans ga gb
  have HHM := Lib.hid HM
  clear ga gb HM hz
  go_enter Try.func87, Try.ntmps87
  go_upto_region 1 with fail
  obtain ⟨B, hB⟩ : ∃ B, B = w.heap.size := ⟨_, rfl⟩
  rw [← hB] at hC hX ⊢
  generalize (w.alloc (.cells (rowOf 3 codEnv) 78)).alloc (.cells (rowOf 106 v) 41) = w2 at *
  clear hB
  have c0 : w2.cell? ⟨B, 0, none⟩ = some (.func (.func 88) #[] #[]) := hC.cell 0 (by decide)
  have HL := Lib.hid (hX.load (P := Try.prog) 0 41 106 v (by decide) (fun j _ => by rw [Nat.zero_add]) (by kernel_rfl) (by kernel_rfl))
  have HX := Lib.hid (HHM.out w2 hG)
  have HG := Lib.hid hG
  have e0 := fmEnv_some w2
  clear hC hX hG HHM
  go_wp2_with (first | ((with_reducible refine wpList_here ?_); refine wpList_ld (p := .pointer (some ⟨B + 1, 0, none⟩)) 3 ?_ ?_ ?_ HL.out ?_; (· rfl); go_simp; (· kernel_rfl)))
  go_at_call 88
  refine HX.out.mono ?_
  rintro e w3 ⟨rfl, g3⟩
  have HG3 := Lib.hid (grown_trans HG.out g3)
  clear HX HG HL c0 g3 e0
  go_wp2_with fail
  go_ret
  exact ⟨rfl, HG3.out⟩
theorem putEnv_any (v : Nat → Value) (m : Bool) (n : Nat) (f : Nat → Nat) (w : World) (HM : ∀ w1, w.grownBy w1 none → Calls Try.prog 88 #[.agg (rowOf 106 v)] w1 fun e w' => e = .returned (.bool m) ∧ w1.grownBy w' none)
    (HP : m = true → ∀ w0 w1 g, w.grownBy w0 none → Good w0 w1 g 70024 0 (fun _ => 0) → Calls Try.prog 91 #[.pointer (some ⟨g, 0, none⟩), .agg (rowOf 106 v)] w1 (Goes w0 w1 g 70024 n f)) :
    Calls Try.prog 86 #[.agg (rowOf 3 codEnv), .agg (rowOf 106 v)] w (PutSays w m n f) := by
  have ga := World.grownBy_alloc w (.cells (rowOf 3 codEnv) 78) none
  have hz := World.size_alloc w (.cells (rowOf 3 codEnv) 78)
  have hC := RowAt.new w 78 3 codEnv _ rfl
  have gb := World.grownBy_alloc (w.alloc (.cells (rowOf 3 codEnv) 78)) (.cells (rowOf 106 v) 41) none
  have hX := RowAt.new (w.alloc (.cells (rowOf 3 codEnv) 78)) 41 106 v _ rfl
  rw [hz] at hX
  have hC := hC.grown gb (by simp)
  have hG := grown_trans ga gb
  have HHM := Lib.hid HM
  have HHP := Lib.hid HP
  clear ga gb HM HP hz
  go_enter Try.func86, Try.ntmps86
  go_upto_region 1 with fail
  obtain ⟨B, hB⟩ : ∃ B, B = w.heap.size := ⟨_, rfl⟩
  rw [← hB] at hC hX ⊢
  generalize (w.alloc (.cells (rowOf 3 codEnv) 78)).alloc (.cells (rowOf 106 v) 41) = w2 at *
  have HB := Lib.hid hB
  clear hB
  have c1 : w2.cell? ⟨B, 1, none⟩ = some (.func (.func 91) #[] #[]) := hC.cell 1 (by decide)
  have HL := Lib.hid (hX.load (P := Try.prog) 0 41 106 v (by decide) (fun j _ => by rw [Nat.zero_add]) (by kernel_rfl) (by kernel_rfl))
  have HLC := Lib.hid (hC.load (P := Try.prog) 0 78 3 codEnv (by decide) (fun j _ => by rw [Nat.zero_add]) (by kernel_rfl) (by kernel_rfl))
  have HX := Lib.hid (mayEnv_any v m w2 (fun w1 h => HHM.out w1 (grown_trans hG h)))
  have HG := Lib.hid hG
  have HC := Lib.hid hC
  have HR := Lib.hid hX
  have e0 := fpEnv_some w2
  clear hC hX hG HHM
  go_wp2_with (first | ((with_reducible refine wpList_here ?_); refine wpList_ld (p := .pointer (some ⟨B + 1, 0, none⟩)) 3 ?_ ?_ ?_ HL.out ?_; (· rfl); go_simp; (· kernel_rfl)) | ((with_reducible refine wpList_here ?_); refine wpList_ld (p := .pointer (some ⟨B, 0, none⟩)) 2 ?_ ?_ ?_ HLC.out ?_; (· rfl); go_simp; (· kernel_rfl)))
  go_at_call 87
  refine HX.out.mono ?_
  rintro e w3 ⟨rfl, g3⟩
  have HG3 := Lib.hid (grown_trans HG.out g3)
  clear HX HL HLC c1 e0
  cases m with
  | false =>
    clear g3
    go_wp2_with fail
    go_ret2
    exact ⟨⟨none, 0, rfl, OwnN.nil _ _ _⟩, HG3.out⟩
  | true =>
    have HN := Lib.hid (newOut_any 70024 (by decide) (by decide) w3)
    have HG3' := Lib.hid g3
    clear g3
    go_wp2_with fail
    go_at_call 121
    refine HN.out.mono ?_
    rintro e w4 ⟨p, rfl, hO⟩
    obtain ⟨g, rfl⟩ : ∃ g, p = some ⟨g, 0, none⟩ := by
      obtain ⟨g', a, c, e, _⟩ := (show OAt w3 w4 p (.good 70024 0 fun _ => 0) from hO).st
      exact ⟨g', e⟩
    have hO : Good w3 w4 g 70024 0 (fun _ => 0) := hO
    have hX := HR.out.grown (grown_trans HG3'.out hO.gr) (by simp)
    have hC := HC.out.grown (grown_trans HG3'.out hO.gr) (by simp)
    have c1 : w4.cell? ⟨B, 1, none⟩ = some (.func (.func 91) #[] #[]) := hC.cell 1 (by decide)
    have HL := Lib.hid (hX.load (P := Try.prog) 0 41 106 v (by decide) (fun j _ => by rw [Nat.zero_add]) (by kernel_rfl) (by kernel_rfl))
    have HX := Lib.hid (HHP.out (by first | rfl | trivial) w3 w4 g HG3.out hO)
    clear hX hC hO HHP HN HC HR HG3'
    go_wp2_with (first | ((with_reducible refine wpList_here ?_); refine wpList_ld (p := .pointer (some ⟨B + 1, 0, none⟩)) 3 ?_ ?_ ?_ HL.out ?_; (· rfl); go_simp; (· kernel_rfl)))
    go_at_call 91
    refine HX.out.mono ?_
    rintro e w5 ⟨⟨rfl, h5⟩, _⟩
    have HY := Lib.hid (outBytes_any h5 (good_len h5))
    have HG5 := Lib.hid (grown_trans HG3.out h5.gr)
    clear h5 HX HL c1
    go_wp2_with fail
    go_at_call 122
    refine HY.out.mono ?_
    rintro e w6 hE
    obtain ⟨a, c, rfl, hO, hg⟩ := hE.ex
    have HO := Lib.hid hO
    have HG6 := Lib.hid (grown_trans HG5.out hg)
    have HS5 := Lib.hid HG5.out.size
    clear hE hO hg HY
    go_wp2_with fail
    go_ret2
    exact ⟨⟨a, c, rfl, HO.out.base HS5.out⟩, HG6.out⟩
end Go.Proofs.Ytmbefbmpjkbnmaa
