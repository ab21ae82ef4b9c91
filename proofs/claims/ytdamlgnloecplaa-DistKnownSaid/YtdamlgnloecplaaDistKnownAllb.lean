/-
  Proved: 'DistKnown' answers true. No condition: it takes nothing.
-/
import Derived.Test.YtdamlgnloecplaaDistKnownAlla
import Derived.Test.YtdamlgnloecplaaSliceQ
import Derived.Test.YtdamlgnloecplaaRefDistB
import Derived.Test.YtdamlgnloecplaaLaw
import Derived.Test.YtdamlgnloecplaaRows
import Derived.Stop.Joined
import Derived.LaidLaws
import Derived.Test.YtdamlgnloecplaaRd
import Derived.Deep.Slices
import Derived.SizedLaws
namespace Go.Proofs.Ytdamlgnloecplaa
open Go.RowKit

set_option maxRecDepth 100000
set_option maxHeartbeats 4000000

def payMay (k L : Nat) : Bool := decide (1 ≤ k) && decide (k ≤ 3) && decide (L ≤ 4095)
theorem mayPay_any (k L c : Nat) (a : Option Addr) (w : World) : Calls Try.prog 78 #[.int .u8 k, .slice a L c] w fun e w' => e = .returned (.bool (payMay k L)) ∧ w = w' := by
  unfold payMay
  by_cases h1 : 1 ≤ k
  · have j1 : (1 : Int) ≤ (k : Int) := by omega
    rw [decide_eq_true h1, Bool.true_and]
    by_cases h2 : k ≤ 3
    · have j2 : (k : Int) ≤ 3 := by omega
      rw [decide_eq_true h2, Bool.true_and]
      by_cases h3 : L ≤ 4095
      · have j3 : (L : Int) ≤ 4095 := by omega
        rw [decide_eq_true h3]
        go_enter Try.func78, Try.ntmps78
        go_wp2_with fail
        go_ret
        exact ⟨rfl, rfl⟩
      · have j3 : ¬ (L : Int) ≤ 4095 := by omega
        rw [decide_eq_false h3]
        go_enter Try.func78, Try.ntmps78
        go_wp2_with fail
        go_ret
        exact ⟨rfl, rfl⟩
    · have j2 : ¬ (k : Int) ≤ 3 := by omega
      rw [decide_eq_false h2, Bool.false_and]
      go_enter Try.func78, Try.ntmps78
      go_wp2_with fail
      go_ret
      exact ⟨rfl, rfl⟩
  · have j1 : ¬ (1 : Int) ≤ (k : Int) := by omega
    rw [decide_eq_false h1, Bool.false_and, Bool.false_and]
    go_enter Try.func78, Try.ntmps78
    go_wp2_with fail
    go_ret
    exact ⟨rfl, rfl⟩
theorem mayPay_enters : ∀ args w, (callFunc 78 args).run Try.prog w = .ok (.enter 78 args) w := enters_of Try.func78 (by kernel_rfl) rfl
theorem OwnV.ownN {n : Nat} {f : Nat → Nat} {x : Value} {W : World} (h : OwnV n f x W) (base : Nat) (hb : ∀ g, x.ownBlock = some g → base ≤ g) : OwnN W base x n f := by
  obtain ⟨g, cap, h1, h2⟩ := h
  exact ⟨Or.inr ⟨g, cap, h1, h2, hb g (by rw [h1]; rfl)⟩⟩
theorem pay_any (D k L c : Nat) (a : Option Addr) (f : Nat → Nat) (w : World) (hR : Rd w D a L f) (hL : L ≤ 1048576) : Calls Try.prog 12 #[.int .u8 k, .slice a L c] w (PutSays w (payMay k L) (1 + L) (cat 1 (fun _ => k) f)) := by
  have HM := Lib.hid (mayPay_any k L c a w)
  have HR := Lib.hid hR
  have HL := Lib.hid hL
  clear hR hL
  go_enter Try.func12, Try.ntmps12
  go_wp2_with fail
  go_at_call 78
  refine HM.out.mono ?_
  rintro e w1 ⟨rfl, rfl⟩
  obtain ⟨m, hm⟩ : ∃ m, m = payMay k L := ⟨_, rfl⟩
  have HMM := Lib.hid hm
  rw [← hm]
  clear hm HM
  cases m with
  | false =>
    go_wp2_with fail
    go_ret2
    exact ⟨⟨none, 0, by rw [← HMM.out]; rfl, by rw [← HMM.out]; exact OwnN.nil _ _ _⟩, grown_refl _ _⟩
  | true =>
    have ga := World.grownBy_alloc w (.cells #[.int .u8 k] 5) none
    have hO : OwnN (w.alloc (.cells #[.int .u8 k] 5)) w.heap.size (.slice (some ⟨w.heap.size, 0, none⟩) 1 1) 1 (fun _ => k) := ⟨Or.inr ⟨w.heap.size, 1, rfl, (fill_one w k).own (by decide), Nat.le_refl _⟩⟩
    obtain ⟨a', c', w2, hap, hO2, hg2, _⟩ := app_N1 c 22 ga hO (HR.out.grown ga (by simp)) (by have := HL.out; omega)
    have HAP := Lib.hid hap
    have HO := Lib.hid hO2
    have HG := Lib.hid hg2
    clear hap hO hO2 hg2 ga
    go_wp2_with (at_builtin; refine wpList_append_run rfl (.tmp 11) (.tmp 12) 22 22 rfl _ _ _ _ rfl rfl HAP.out ?_)
    go_ret2
    exact ⟨⟨a', c', by rw [← HMM.out]; rfl, by rw [← HMM.out]; exact HO.out⟩, HG.out⟩
/-- Its kind and its bytes, if it is a payload. -/
def paidOk (L : Nat) (f : Nat → Nat) : Bool := decide (1 ≤ L) && payMay (f 0) (L - 1)
structure PaidSays (w : World) (L : Nat) (f : Nat → Nat) (e : Ending) (w' : World) : Prop where
  ex : ∃ a c, e = .returned (.tuple #[.int .u8 (if paidOk L f = true then f 0 else 0 : Nat), .slice a (if paidOk L f = true then L - 1 else 0) c, .int .i64 (if paidOk L f = true then 0 else 9)]) ∧ OwnN w' w.heap.size (.slice a (if paidOk L f = true then L - 1 else 0) c) (if paidOk L f = true then L - 1 else 0) (fun i => f (1 + i))
  gr : w.grownBy w' none
theorem load_u8Q {w : World} {B o v : Nat} (h : w.cell? ⟨B, o, none⟩ = some (.int .u8 v)) : (Instr.loadAt 5 (.pointer (some ⟨B, o, none⟩))).run Try.prog w = .ok (.int .u8 v) w := by go_simp
theorem paid_any (D L c : Nat) (a : Option Addr) (f : Nat → Nat) (w : World) (hR : Rd w D a L f) (hc : L ≤ c) (hL : L ≤ 1048576) : Calls Try.prog 13 #[.slice a L c] w (PaidSays w L f) := by
  by_cases h0 : L = 0
  · subst h0
    have HOK := Lib.hid (show paidOk 0 f = false from rfl)
    clear hL hR hc
    go_enter Try.func13, Try.ntmps13
    go_upto_region 1 with fail
    go_quiet (fail)
    have HG : Hid (w.grownBy (World.drewN w nq) none) := grown_drewN (grown_refl w none) nq
    generalize World.drewN w nq = w1 at *
    go_wp2_with fail
    go_ret3
    exact ⟨⟨none, 0, by rw [HOK.out]; rfl, by rw [HOK.out]; exact OwnN.nil _ _ _⟩, HG.out⟩
  · obtain ⟨tb, o, rfl, _, hcl⟩ := hR.ex (by omega)
    obtain ⟨k0, hk0⟩ : ∃ k, k = f 0 := ⟨_, rfl⟩
    have hc0 : w.cell? ⟨tb, o, none⟩ = some (.int .u8 k0) := by rw [hk0]; exact hcl 0 (by omega)
    obtain ⟨a1, hsl, hrs⟩ := run_restQ c 1 hR (by omega) hc
    have HSL : Hid (∀ w, (Instr.slice 22 (.slice (some ⟨tb, o, none⟩) L c) (some (.int .i64 1)) none none).run Try.prog w = .ok (.slice a1 (L - 1) (c - 1)) w) := hsl
    have HRS := Lib.hid hrs
    have HC0 := Lib.hid hc0
    have HR := Lib.hid hR
    have HL := Lib.hid (And.intro hL h0)
    have j0 : ¬ (L : Int) = 0 := by omega
    have j1 : (0 : Int) < (L : Int) := by omega
    have HOK := Lib.hid (show paidOk L f = payMay k0 (L - 1) by unfold paidOk; rw [decide_eq_true (by omega), Bool.true_and, hk0])
    have HK := Lib.hid hk0
    clear hsl hrs hc0 hcl hR hL h0 hk0 hc
    go_enter Try.func13, Try.ntmps13
    go_upto_region 1 with fail
    refine wp_region_held (S := fun W => w.grownBy W none) (by kernel_rfl) ?_
    change wpAnyH _ _ _ _ _ 12 #[false, false, false, false, false, false, false, false, false, false, false, false] _ (World.drew _)
    have gq := grown_drew (grown_refl w none)
    generalize w.drew = w5 at *
    refine wpAnyH_takeD (some 5) (i := 0) (v := (.slice (some ⟨tb, o, none⟩) L c)) rfl rfl (by kernel_rfl) (by kernel_rfl) (by kernel_rfl) (fun _ _ _ h => h) (Or.inl ⟨rfl, fun _ _ => rfl⟩) gq ?_
    simp only [Act.put, List.setIfInBounds_toArray, List.set_cons_succ, List.set_cons_zero]
    refine wpAnyH_takeD (some 6) (i := 1) (v := (.int .i64 L)) rfl rfl (by kernel_rfl) (by kernel_rfl) (by kernel_rfl) (fun _ _ _ h => h) (Or.inl ⟨rfl, fun _ _ => by go_simp⟩) gq ?_
    simp only [Act.put, List.setIfInBounds_toArray, List.set_cons_succ, List.set_cons_zero]
    refine wpAnyH_takeD (some 7) (i := 2) (v := (.bool false)) rfl rfl (by kernel_rfl) (by kernel_rfl) (by kernel_rfl) (fun _ _ _ h => h) (Or.inl ⟨rfl, fun _ _ => by have := HL.out.2; go_simp⟩) gq ?_
    simp only [Act.put, List.setIfInBounds_toArray, List.set_cons_succ, List.set_cons_zero]
    refine wpAnyH_takeD (some 8) (i := 3) (v := (.bool false)) rfl rfl (by kernel_rfl) (by kernel_rfl) (by kernel_rfl) (fun _ _ _ h => h) (Or.inl ⟨rfl, fun _ _ => rfl⟩) gq ?_
    simp only [Act.put, List.setIfInBounds_toArray, List.set_cons_succ, List.set_cons_zero]
    refine wpAnyH_takeD (some 9) (i := 4) (v := (.slice (some ⟨tb, o, none⟩) L c)) rfl rfl (by kernel_rfl) (by kernel_rfl) (by kernel_rfl) (fun _ _ _ h => h) (Or.inl ⟨rfl, fun _ _ => rfl⟩) gq ?_
    simp only [Act.put, List.setIfInBounds_toArray, List.set_cons_succ, List.set_cons_zero]
    refine wpAnyH_takeD (some 10) (i := 5) (v := (.pointer (some ⟨tb, o, none⟩))) rfl rfl (by kernel_rfl) (by kernel_rfl) (by kernel_rfl) (fun _ _ _ h => h) (Or.inl ⟨rfl, fun _ _ => by have := HL.out.2; go_simp⟩) gq ?_
    simp only [Act.put, List.setIfInBounds_toArray, List.set_cons_succ, List.set_cons_zero]
    refine wpAnyH_takeD (some 11) (i := 6) (v := (.int .u8 k0)) rfl rfl (by kernel_rfl) (by kernel_rfl) (by kernel_rfl) (fun _ _ _ h => h) (Or.inl ⟨rfl, fun W hW => exec_loadQ (.tmp 10) _ _ rfl rfl (load_u8Q (hW.cell HC0.out (by simp)))⟩) gq ?_
    simp only [Act.put, List.setIfInBounds_toArray, List.set_cons_succ, List.set_cons_zero]
    refine wpAnyH_takeD (some 12) (i := 7) (v := (.slice (some ⟨tb, o, none⟩) L c)) rfl rfl (by kernel_rfl) (by kernel_rfl) (by kernel_rfl) (fun _ _ _ h => h) (Or.inl ⟨rfl, fun _ _ => rfl⟩) gq ?_
    simp only [Act.put, List.setIfInBounds_toArray, List.set_cons_succ, List.set_cons_zero]
    refine wpAnyH_takeD (some 13) (i := 8) (v := (.slice a1 (L - 1) (c - 1))) rfl rfl (by kernel_rfl) (by kernel_rfl) (by kernel_rfl) (fun _ _ _ h => h) (Or.inl ⟨rfl, fun W _ => by have := HSL.out W; unfold execOp; go_simp⟩) gq ?_
    simp only [Act.put, List.setIfInBounds_toArray, List.set_cons_succ, List.set_cons_zero]
    refine wpAnyH_callD (some 14) (i := 9) 78 #[.int .u8 k0, .slice a1 (L - 1) (c - 1)] (R := fun v W => v = .bool (payMay k0 (L - 1)) ∧ w5.grownBy W none) (by kernel_rfl) rfl rfl rfl (exec_fn2 _ _ _ _ _ rfl rfl rfl) mayPay_enters ((mayPay_any k0 (L - 1) (c - 1) a1 w5).mono fun e W h => ⟨_, h.1, rfl, h.2 ▸ grown_refl _ _⟩) ?_
    rintro v w6 ⟨rfl, hg6⟩
    have gq6 := grown_trans gq hg6
    refine ⟨gq6, ?_⟩
    simp only [Act.put, List.setIfInBounds_toArray, List.set_cons_succ, List.set_cons_zero]
    obtain ⟨m, hm⟩ : ∃ m, m = payMay k0 (L - 1) := ⟨_, rfl⟩
    rw [← hm]
    have HMM := Lib.hid hm
    clear hm hg6 gq
    refine wpAnyH_takeD (some 15) (i := 10) (v := (.bool (!m))) rfl rfl (by kernel_rfl) (by kernel_rfl) (by kernel_rfl) (fun _ _ _ h => h) (Or.inl ⟨rfl, fun _ _ => by go_simp⟩) gq6 ?_
    simp only [Act.put, List.setIfInBounds_toArray, List.set_cons_succ, List.set_cons_zero]
    refine wpAnyH_takeD (some 16) (i := 11) (v := (.bool (!m))) rfl rfl (by kernel_rfl) (by kernel_rfl) (by kernel_rfl) (fun _ _ _ h => h) (Or.inl ⟨rfl, fun _ _ => by go_simp⟩) gq6 ?_
    simp only [Act.put, List.setIfInBounds_toArray, List.set_cons_succ, List.set_cons_zero]
    refine wpAnyH_done (by kernel_rfl) ?_ _
    cases m with
    | false =>
      have HG6 := Lib.hid gq6
      clear gq6
      go_wp2_with fail
      go_ret3
      exact ⟨⟨none, 0, by rw [HOK.out, ← HMM.out]; rfl, by rw [HOK.out, ← HMM.out]; exact OwnN.nil _ _ _⟩, HG6.out⟩
    | true =>
      go_upto_region 3 with fail
      refine wp_region_held (S := fun W => w.grownBy W none) (by kernel_rfl) ?_
      change wpAnyH _ _ _ _ _ 9 #[false, false, false, false, false, false, false, false, false] _ (World.drew _)
      have gq := grown_drew gq6
      generalize w6.drew = w7 at *
      refine wpAnyH_takeD (some 17) (i := 0) (v := (.slice (some ⟨tb, o, none⟩) L c)) rfl rfl (by kernel_rfl) (by kernel_rfl) (by kernel_rfl) (fun _ _ _ h => h) (Or.inl ⟨rfl, fun _ _ => rfl⟩) gq ?_
      simp only [Act.put, List.setIfInBounds_toArray, List.set_cons_succ, List.set_cons_zero]
      refine wpAnyH_takeD (some 18) (i := 1) (v := (.pointer (some ⟨tb, o, none⟩))) rfl rfl (by kernel_rfl) (by kernel_rfl) (by kernel_rfl) (fun _ _ _ h => h) (Or.inl ⟨rfl, fun _ _ => by have := HL.out.2; go_simp⟩) gq ?_
      simp only [Act.put, List.setIfInBounds_toArray, List.set_cons_succ, List.set_cons_zero]
      refine wpAnyH_takeD (some 19) (i := 2) (v := (.int .u8 k0)) rfl rfl (by kernel_rfl) (by kernel_rfl) (by kernel_rfl) (fun _ _ _ h => h) (Or.inl ⟨rfl, fun W hW => exec_loadQ (.tmp 18) _ _ rfl rfl (load_u8Q (hW.cell HC0.out (by simp)))⟩) gq ?_
      simp only [Act.put, List.setIfInBounds_toArray, List.set_cons_succ, List.set_cons_zero]
      refine wpAnyH_takeD (some 20) (i := 3) (v := (.slice (some ⟨tb, o, none⟩) L c)) rfl rfl (by kernel_rfl) (by kernel_rfl) (by kernel_rfl) (fun _ _ _ h => h) (Or.inl ⟨rfl, fun _ _ => rfl⟩) gq ?_
      simp only [Act.put, List.setIfInBounds_toArray, List.set_cons_succ, List.set_cons_zero]
      refine wpAnyH_takeD (some 21) (i := 4) (v := (.slice a1 (L - 1) (c - 1))) rfl rfl (by kernel_rfl) (by kernel_rfl) (by kernel_rfl) (fun _ _ _ h => h) (Or.inl ⟨rfl, fun W _ => by have := HSL.out W; unfold execOp; go_simp⟩) gq ?_
      simp only [Act.put, List.setIfInBounds_toArray, List.set_cons_succ, List.set_cons_zero]
      obtain ⟨a', c', w8, hap, hO2, hg8, _⟩ := app_N1 (c - 1) 22 gq (OwnN.nil w7 w.heap.size (fun _ => 0)) ((HRS.out w HR.out).grown gq (by simp)) (by have := HL.out; omega)
      refine wpAnyH_yieldD (some 22) (i := 5) (v := (.slice a' (0 + (L - 1)) c')) (by kernel_rfl) rfl rfl rfl (exec_appendQ _ _ _ _ _ rfl rfl rfl rfl hap) hg8 ?_
      simp only [Act.put, List.setIfInBounds_toArray, List.set_cons_succ, List.set_cons_zero]
      refine wpAnyH_takeD (some 2) (i := 6) (v := (.int .u8 k0)) rfl rfl (by kernel_rfl) (by kernel_rfl) (by kernel_rfl) (fun _ _ _ h => h) (Or.inl ⟨rfl, fun _ _ => rfl⟩) hg8 ?_
      simp only [Act.put, List.setIfInBounds_toArray, List.set_cons_succ, List.set_cons_zero]
      refine wpAnyH_takeD (some 3) (i := 7) (v := (.slice a' (0 + (L - 1)) c')) rfl rfl (by kernel_rfl) (by kernel_rfl) (by kernel_rfl) (fun _ _ _ h => h) (Or.inl ⟨rfl, fun _ _ => rfl⟩) hg8 ?_
      simp only [Act.put, List.setIfInBounds_toArray, List.set_cons_succ, List.set_cons_zero]
      refine wpAnyH_takeD (some 4) (i := 8) (v := (.int .i64 0)) rfl rfl (by kernel_rfl) (by kernel_rfl) (by kernel_rfl) (fun _ _ _ h => h) (Or.inl ⟨rfl, fun _ _ => rfl⟩) hg8 ?_
      simp only [Act.put, List.setIfInBounds_toArray, List.set_cons_succ, List.set_cons_zero]
      refine wpAnyH_done (by kernel_rfl) ?_ _
      have HO := Lib.hid hO2
      have HG8 := Lib.hid hg8
      clear hap hO2 hg8 gq gq6
      go_wp2_with fail
      go_ret3
      refine ⟨⟨a', c', ?_, ?_⟩, HG8.out⟩
      · rw [HOK.out, ← HMM.out, ← HK.out]
        show _ = Ending.returned (.tuple #[.int .u8 k0, .slice a' (L - 1) c', .int .i64 0])
        rw [Nat.zero_add]
        rfl
      · rw [HOK.out, ← HMM.out]
        have := HO.out
        rw [Nat.zero_add, cat_none] at this
        exact this
end Go.Proofs.Ytdamlgnloecplaa
namespace Go.Proofs.Ytdamlgnloecplaa
open Go.RowKit

set_option maxRecDepth 100000
set_option maxHeartbeats 4000000

def codEnv (i : Nat) : Value := if i = 0 then .func (.func 51) #[] #[] else if i = 1 then .func (.func 54) #[] #[] else .func (.func 59) #[] #[]
theorem codEnv_any (w : World) : Calls Try.prog 8 #[] w fun e w' => e = .returned (.agg (rowOf 3 codEnv)) ∧ w.grownBy w' none := by
  have ga := World.grownBy_alloc w (.cells #[.nilFunc, .nilFunc, .nilFunc] 29) none
  have hn := RowAt.new w 29 3 (fun _ => .nilFunc) #[.nilFunc, .nilFunc, .nilFunc] rfl
  obtain ⟨hs1, hs2⟩ := RowAt.store (P := Try.prog) hn 0 29 3 codEnv (by decide) (by kernel_rfl) (fun j _ => by unfold codEnv; (repeat' split) <;> rfl)
  have hrr := hs2.congr (v' := codEnv) fun i hi => by rw [if_pos ⟨Nat.zero_le _, by omega⟩, Nat.sub_zero]
  have hG : w.grownBy _ none := grown_setCells w.heap.size (Or.inl (Nat.le_refl _)) (rowOf 3 codEnv).toList 0 _ ga
  have HS := Lib.hid hs1
  have HRR := Lib.hid hrr
  have HG := Lib.hid hG
  clear ga hn hs1 hs2 hrr hG
  go_enter Try.func8, Try.ntmps8
  go_wp2_with (first | ((with_reducible refine wpList_here ?_); refine wpList_st (T := 29) (p := .pointer (some ⟨w.heap.size, 0, none⟩)) (v := .agg (rowOf 3 codEnv)) (.tmp 0) (.tmp 1) ?_ ?_ ?_ ?_ ?_ HS.out ?_; (· rfl); (· rfl); go_simp; (· kernel_rfl); (· kernel_rfl)))
  exact bodyPost_ret (res_rowAt rfl rfl HRR.out (by kernel_rfl) (by kernel_rfl)) rfl ⟨rfl, HG.out⟩
theorem fmEnv_some (w : World) : (binOp .neq 25 (.func (.func 51) #[] #[]) .nilFunc).run Try.prog w = .ok (.bool true) w := by kernel_rfl
theorem fpEnv_some (w : World) : (binOp .eql 26 (.func (.func 54) #[] #[]) .nilFunc).run Try.prog w = .ok (.bool false) w := by kernel_rfl
theorem ftEnv_some (w : World) : (binOp .eql 27 (.func (.func 59) #[] #[]) .nilFunc).run Try.prog w = .ok (.bool false) w := by kernel_rfl
theorem mayEnv_any (v : Nat → Value) (m : Bool) (w : World) (HM : ∀ w1, w.grownBy w1 none → Calls Try.prog 51 #[.agg (rowOf 106 v)] w1 fun e w' => e = .returned (.bool m) ∧ w1.grownBy w' none) :
    Calls Try.prog 64 #[.agg (rowOf 3 codEnv), .agg (rowOf 106 v)] w fun e w' => e = .returned (.bool m) ∧ w.grownBy w' none := by
  have ga := World.grownBy_alloc w (.cells (rowOf 3 codEnv) 29) none
  have hz := World.size_alloc w (.cells (rowOf 3 codEnv) 29)
  have hC := RowAt.new w 29 3 codEnv _ rfl
  have gb := World.grownBy_alloc (w.alloc (.cells (rowOf 3 codEnv) 29)) (.cells (rowOf 106 v) 42) none
  have hX := RowAt.new (w.alloc (.cells (rowOf 3 codEnv) 29)) 42 106 v _ rfl
  rw [hz] at hX
  have hC := hC.grown gb (by simp)
  have hG := grown_trans ga gb
  have HHM := Lib.hid HM
  clear ga gb HM hz
  go_enter Try.func64, Try.ntmps64
  go_upto_region 1 with fail
  obtain ⟨B, hB⟩ : ∃ B, B = w.heap.size := ⟨_, rfl⟩
  rw [← hB] at hC hX ⊢
  generalize (w.alloc (.cells (rowOf 3 codEnv) 29)).alloc (.cells (rowOf 106 v) 42) = w2 at *
  clear hB
  have c0 : w2.cell? ⟨B, 0, none⟩ = some (.func (.func 51) #[] #[]) := hC.cell 0 (by decide)
  have HL := Lib.hid (hX.load (P := Try.prog) 0 42 106 v (by decide) (fun j _ => by rw [Nat.zero_add]) (by kernel_rfl) (by kernel_rfl))
  have HX := Lib.hid (HHM.out w2 hG)
  have HG := Lib.hid hG
  have e0 := fmEnv_some w2
  clear hC hX hG HHM
  go_wp2_with (first | ((with_reducible refine wpList_here ?_); refine wpList_ld (p := .pointer (some ⟨B + 1, 0, none⟩)) 3 ?_ ?_ ?_ HL.out ?_; (· rfl); go_simp; (· kernel_rfl)))
  go_at_call 51
  refine HX.out.mono ?_
  rintro e w3 ⟨rfl, g3⟩
  have HG3 := Lib.hid (grown_trans HG.out g3)
  clear HX HG HL c0 g3 e0
  go_wp2_with fail
  go_ret
  exact ⟨rfl, HG3.out⟩
theorem putEnv_any (v : Nat → Value) (m : Bool) (n : Nat) (f : Nat → Nat) (w : World) (HM : ∀ w1, w.grownBy w1 none → Calls Try.prog 51 #[.agg (rowOf 106 v)] w1 fun e w' => e = .returned (.bool m) ∧ w1.grownBy w' none)
    (HP : m = true → ∀ w0 w1 g, w.grownBy w0 none → Good w0 w1 g 70024 0 (fun _ => 0) → Calls Try.prog 54 #[.pointer (some ⟨g, 0, none⟩), .agg (rowOf 106 v)] w1 (Goes w0 w1 g 70024 n f)) :
    Calls Try.prog 9 #[.agg (rowOf 3 codEnv), .agg (rowOf 106 v)] w (PutSays w m n f) := by
  have ga := World.grownBy_alloc w (.cells (rowOf 3 codEnv) 29) none
  have hz := World.size_alloc w (.cells (rowOf 3 codEnv) 29)
  have hC := RowAt.new w 29 3 codEnv _ rfl
  have gb := World.grownBy_alloc (w.alloc (.cells (rowOf 3 codEnv) 29)) (.cells (rowOf 106 v) 42) none
  have hX := RowAt.new (w.alloc (.cells (rowOf 3 codEnv) 29)) 42 106 v _ rfl
  rw [hz] at hX
  have hC := hC.grown gb (by simp)
  have hG := grown_trans ga gb
  have HHM := Lib.hid HM
  have HHP := Lib.hid HP
  clear ga gb HM HP hz
  go_enter Try.func9, Try.ntmps9
  go_upto_region 1 with fail
  obtain ⟨B, hB⟩ : ∃ B, B = w.heap.size := ⟨_, rfl⟩
  rw [← hB] at hC hX ⊢
  generalize (w.alloc (.cells (rowOf 3 codEnv) 29)).alloc (.cells (rowOf 106 v) 42) = w2 at *
  have HB := Lib.hid hB
  clear hB
  have c1 : w2.cell? ⟨B, 1, none⟩ = some (.func (.func 54) #[] #[]) := hC.cell 1 (by decide)
  have HL := Lib.hid (hX.load (P := Try.prog) 0 42 106 v (by decide) (fun j _ => by rw [Nat.zero_add]) (by kernel_rfl) (by kernel_rfl))
  have HLC := Lib.hid (hC.load (P := Try.prog) 0 29 3 codEnv (by decide) (fun j _ => by rw [Nat.zero_add]) (by kernel_rfl) (by kernel_rfl))
  have HX := Lib.hid (mayEnv_any v m w2 (fun w1 h => HHM.out w1 (grown_trans hG h)))
  have HG := Lib.hid hG
  have HC := Lib.hid hC
  have HR := Lib.hid hX
  have e0 := fpEnv_some w2
  clear hC hX hG HHM
  go_wp2_with (first | ((with_reducible refine wpList_here ?_); refine wpList_ld (p := .pointer (some ⟨B + 1, 0, none⟩)) 3 ?_ ?_ ?_ HL.out ?_; (· rfl); go_simp; (· kernel_rfl)) | ((with_reducible refine wpList_here ?_); refine wpList_ld (p := .pointer (some ⟨B, 0, none⟩)) 2 ?_ ?_ ?_ HLC.out ?_; (· rfl); go_simp; (· kernel_rfl)))
  go_at_call 64
  refine HX.out.mono ?_
  rintro e w3 ⟨rfl, g3⟩
  have HG3 := Lib.hid (grown_trans HG.out g3)
  clear HX HL HLC c1 e0
  cases m with
  | false =>
    clear g3
    go_wp2_with fail
    go_ret2
    exact ⟨⟨none, 0, rfl, OwnN.nil _ _ _⟩, HG3.out⟩
  | true =>
    have HN := Lib.hid (newOut_any 70024 (by decide) (by decide) w3)
    have HG3' := Lib.hid g3
    clear g3
    go_wp2_with fail
    go_at_call 65
    refine HN.out.mono ?_
    rintro e w4 ⟨p, rfl, hO⟩
    obtain ⟨g, rfl⟩ : ∃ g, p = some ⟨g, 0, none⟩ := by
      obtain ⟨g', a, c, e, _⟩ := (show OAt w3 w4 p (.good 70024 0 fun _ => 0) from hO).st
      exact ⟨g', e⟩
    have hO : Good w3 w4 g 70024 0 (fun _ => 0) := hO
    have hX := HR.out.grown (grown_trans HG3'.out hO.gr) (by simp)
    have hC := HC.out.grown (grown_trans HG3'.out hO.gr) (by simp)
    have c1 : w4.cell? ⟨B, 1, none⟩ = some (.func (.func 54) #[] #[]) := hC.cell 1 (by decide)
    have HL := Lib.hid (hX.load (P := Try.prog) 0 42 106 v (by decide) (fun j _ => by rw [Nat.zero_add]) (by kernel_rfl) (by kernel_rfl))
    have HX := Lib.hid (HHP.out (by first | rfl | trivial) w3 w4 g HG3.out hO)
    clear hX hC hO HHP HN HC HR HG3'
    go_wp2_with (first | ((with_reducible refine wpList_here ?_); refine wpList_ld (p := .pointer (some ⟨B + 1, 0, none⟩)) 3 ?_ ?_ ?_ HL.out ?_; (· rfl); go_simp; (· kernel_rfl)))
    go_at_call 54
    refine HX.out.mono ?_
    rintro e w5 ⟨⟨rfl, h5⟩, _⟩
    have HY := Lib.hid (outBytes_any h5 (good_len h5))
    have HG5 := Lib.hid (grown_trans HG3.out h5.gr)
    clear h5 HX HL c1
    go_wp2_with fail
    go_at_call 66
    refine HY.out.mono ?_
    rintro e w6 hE
    obtain ⟨a, c, rfl, hO, hg⟩ := hE.ex
    have HO := Lib.hid hO
    have HG6 := Lib.hid (grown_trans HG5.out hg)
    have HS5 := Lib.hid HG5.out.size
    clear hE hO hg HY
    go_wp2_with fail
    go_ret2
    exact ⟨⟨a, c, rfl, HO.out.base HS5.out⟩, HG6.out⟩
end Go.Proofs.Ytdamlgnloecplaa
namespace Go.Proofs.Ytdamlgnloecplaa
open Go.RowKit

set_option maxRecDepth 100000
set_option maxHeartbeats 4000000

def codRos (i : Nat) : Value := if i = 0 then .func (.func 67) #[] #[] else if i = 1 then .func (.func 69) #[] #[] else .func (.func 73) #[] #[]
theorem codRos_any (w : World) : Calls Try.prog 10 #[] w fun e w' => e = .returned (.agg (rowOf 3 codRos)) ∧ w.grownBy w' none := by
  have ga := World.grownBy_alloc w (.cells #[.nilFunc, .nilFunc, .nilFunc] 47) none
  have hn := RowAt.new w 47 3 (fun _ => .nilFunc) #[.nilFunc, .nilFunc, .nilFunc] rfl
  obtain ⟨hs1, hs2⟩ := RowAt.store (P := Try.prog) hn 0 47 3 codRos (by decide) (by kernel_rfl) (fun j _ => by unfold codRos; (repeat' split) <;> rfl)
  have hrr := hs2.congr (v' := codRos) fun i hi => by rw [if_pos ⟨Nat.zero_le _, by omega⟩, Nat.sub_zero]
  have hG : w.grownBy _ none := grown_setCells w.heap.size (Or.inl (Nat.le_refl _)) (rowOf 3 codRos).toList 0 _ ga
  have HS := Lib.hid hs1
  have HRR := Lib.hid hrr
  have HG := Lib.hid hG
  clear ga hn hs1 hs2 hrr hG
  go_enter Try.func10, Try.ntmps10
  go_wp2_with (first | ((with_reducible refine wpList_here ?_); refine wpList_st (T := 47) (p := .pointer (some ⟨w.heap.size, 0, none⟩)) (v := .agg (rowOf 3 codRos)) (.tmp 0) (.tmp 1) ?_ ?_ ?_ ?_ ?_ HS.out ?_; (· rfl); (· rfl); go_simp; (· kernel_rfl); (· kernel_rfl)))
  exact bodyPost_ret (res_rowAt rfl rfl HRR.out (by kernel_rfl) (by kernel_rfl)) rfl ⟨rfl, HG.out⟩
theorem fmRos_some (w : World) : (binOp .neq 43 (.func (.func 67) #[] #[]) .nilFunc).run Try.prog w = .ok (.bool true) w := by kernel_rfl
theorem fpRos_some (w : World) : (binOp .eql 44 (.func (.func 69) #[] #[]) .nilFunc).run Try.prog w = .ok (.bool false) w := by kernel_rfl
theorem ftRos_some (w : World) : (binOp .eql 45 (.func (.func 73) #[] #[]) .nilFunc).run Try.prog w = .ok (.bool false) w := by kernel_rfl
theorem mayRos_any (v : Nat → Value) (m : Bool) (w : World) (HM : ∀ w1, w.grownBy w1 none → Calls Try.prog 67 #[.agg (rowOf 18 v)] w1 fun e w' => e = .returned (.bool m) ∧ w1.grownBy w' none) :
    Calls Try.prog 77 #[.agg (rowOf 3 codRos), .agg (rowOf 18 v)] w fun e w' => e = .returned (.bool m) ∧ w.grownBy w' none := by
  have ga := World.grownBy_alloc w (.cells (rowOf 3 codRos) 47) none
  have hz := World.size_alloc w (.cells (rowOf 3 codRos) 47)
  have hC := RowAt.new w 47 3 codRos _ rfl
  have gb := World.grownBy_alloc (w.alloc (.cells (rowOf 3 codRos) 47)) (.cells (rowOf 18 v) 55) none
  have hX := RowAt.new (w.alloc (.cells (rowOf 3 codRos) 47)) 55 18 v _ rfl
  rw [hz] at hX
  have hC := hC.grown gb (by simp)
  have hG := grown_trans ga gb
  have HHM := Lib.hid HM
  clear ga gb HM hz
  go_enter Try.func77, Try.ntmps77
  go_upto_region 1 with fail
  obtain ⟨B, hB⟩ : ∃ B, B = w.heap.size := ⟨_, rfl⟩
  rw [← hB] at hC hX ⊢
  generalize (w.alloc (.cells (rowOf 3 codRos) 47)).alloc (.cells (rowOf 18 v) 55) = w2 at *
  clear hB
  have c0 : w2.cell? ⟨B, 0, none⟩ = some (.func (.func 67) #[] #[]) := hC.cell 0 (by decide)
  have HL := Lib.hid (hX.load (P := Try.prog) 0 55 18 v (by decide) (fun j _ => by rw [Nat.zero_add]) (by kernel_rfl) (by kernel_rfl))
  have HX := Lib.hid (HHM.out w2 hG)
  have HG := Lib.hid hG
  have e0 := fmRos_some w2
  clear hC hX hG HHM
  go_wp2_with (first | ((with_reducible refine wpList_here ?_); refine wpList_ld (p := .pointer (some ⟨B + 1, 0, none⟩)) 3 ?_ ?_ ?_ HL.out ?_; (· rfl); go_simp; (· kernel_rfl)))
  go_at_call 67
  refine HX.out.mono ?_
  rintro e w3 ⟨rfl, g3⟩
  have HG3 := Lib.hid (grown_trans HG.out g3)
  clear HX HG HL c0 g3 e0
  go_wp2_with fail
  go_ret
  exact ⟨rfl, HG3.out⟩
theorem putRos_any (v : Nat → Value) (m : Bool) (n : Nat) (f : Nat → Nat) (w : World) (HM : ∀ w1, w.grownBy w1 none → Calls Try.prog 67 #[.agg (rowOf 18 v)] w1 fun e w' => e = .returned (.bool m) ∧ w1.grownBy w' none)
    (HP : m = true → ∀ w0 w1 g, w.grownBy w0 none → Good w0 w1 g 70024 0 (fun _ => 0) → Calls Try.prog 69 #[.pointer (some ⟨g, 0, none⟩), .agg (rowOf 18 v)] w1 (Goes w0 w1 g 70024 n f)) :
    Calls Try.prog 11 #[.agg (rowOf 3 codRos), .agg (rowOf 18 v)] w (PutSays w m n f) := by
  have ga := World.grownBy_alloc w (.cells (rowOf 3 codRos) 47) none
  have hz := World.size_alloc w (.cells (rowOf 3 codRos) 47)
  have hC := RowAt.new w 47 3 codRos _ rfl
  have gb := World.grownBy_alloc (w.alloc (.cells (rowOf 3 codRos) 47)) (.cells (rowOf 18 v) 55) none
  have hX := RowAt.new (w.alloc (.cells (rowOf 3 codRos) 47)) 55 18 v _ rfl
  rw [hz] at hX
  have hC := hC.grown gb (by simp)
  have hG := grown_trans ga gb
  have HHM := Lib.hid HM
  have HHP := Lib.hid HP
  clear ga gb HM HP hz
  go_enter Try.func11, Try.ntmps11
  go_upto_region 1 with fail
  obtain ⟨B, hB⟩ : ∃ B, B = w.heap.size := ⟨_, rfl⟩
  rw [← hB] at hC hX ⊢
  generalize (w.alloc (.cells (rowOf 3 codRos) 47)).alloc (.cells (rowOf 18 v) 55) = w2 at *
  have HB := Lib.hid hB
  clear hB
  have c1 : w2.cell? ⟨B, 1, none⟩ = some (.func (.func 69) #[] #[]) := hC.cell 1 (by decide)
  have HL := Lib.hid (hX.load (P := Try.prog) 0 55 18 v (by decide) (fun j _ => by rw [Nat.zero_add]) (by kernel_rfl) (by kernel_rfl))
  have HLC := Lib.hid (hC.load (P := Try.prog) 0 47 3 codRos (by decide) (fun j _ => by rw [Nat.zero_add]) (by kernel_rfl) (by kernel_rfl))
  have HX := Lib.hid (mayRos_any v m w2 (fun w1 h => HHM.out w1 (grown_trans hG h)))
  have HG := Lib.hid hG
  have HC := Lib.hid hC
  have HR := Lib.hid hX
  have e0 := fpRos_some w2
  clear hC hX hG HHM
  go_wp2_with (first | ((with_reducible refine wpList_here ?_); refine wpList_ld (p := .pointer (some ⟨B + 1, 0, none⟩)) 3 ?_ ?_ ?_ HL.out ?_; (· rfl); go_simp; (· kernel_rfl)) | ((with_reducible refine wpList_here ?_); refine wpList_ld (p := .pointer (some ⟨B, 0, none⟩)) 2 ?_ ?_ ?_ HLC.out ?_; (· rfl); go_simp; (· kernel_rfl)))
  go_at_call 77
  refine HX.out.mono ?_
  rintro e w3 ⟨rfl, g3⟩
  have HG3 := Lib.hid (grown_trans HG.out g3)
  clear HX HL HLC c1 e0
  cases m with
  | false =>
    clear g3
    go_wp2_with fail
    go_ret2
    exact ⟨⟨none, 0, rfl, OwnN.nil _ _ _⟩, HG3.out⟩
  | true =>
    have HN := Lib.hid (newOut_any 70024 (by decide) (by decide) w3)
    have HG3' := Lib.hid g3
    clear g3
    go_wp2_with fail
    go_at_call 65
    refine HN.out.mono ?_
    rintro e w4 ⟨p, rfl, hO⟩
    obtain ⟨g, rfl⟩ : ∃ g, p = some ⟨g, 0, none⟩ := by
      obtain ⟨g', a, c, e, _⟩ := (show OAt w3 w4 p (.good 70024 0 fun _ => 0) from hO).st
      exact ⟨g', e⟩
    have hO : Good w3 w4 g 70024 0 (fun _ => 0) := hO
    have hX := HR.out.grown (grown_trans HG3'.out hO.gr) (by simp)
    have hC := HC.out.grown (grown_trans HG3'.out hO.gr) (by simp)
    have c1 : w4.cell? ⟨B, 1, none⟩ = some (.func (.func 69) #[] #[]) := hC.cell 1 (by decide)
    have HL := Lib.hid (hX.load (P := Try.prog) 0 55 18 v (by decide) (fun j _ => by rw [Nat.zero_add]) (by kernel_rfl) (by kernel_rfl))
    have HX := Lib.hid (HHP.out (by first | rfl | trivial) w3 w4 g HG3.out hO)
    clear hX hC hO HHP HN HC HR HG3'
    go_wp2_with (first | ((with_reducible refine wpList_here ?_); refine wpList_ld (p := .pointer (some ⟨B + 1, 0, none⟩)) 3 ?_ ?_ ?_ HL.out ?_; (· rfl); go_simp; (· kernel_rfl)))
    go_at_call 69
    refine HX.out.mono ?_
    rintro e w5 ⟨⟨rfl, h5⟩, _⟩
    have HY := Lib.hid (outBytes_any h5 (good_len h5))
    have HG5 := Lib.hid (grown_trans HG3.out h5.gr)
    clear h5 HX HL c1
    go_wp2_with fail
    go_at_call 66
    refine HY.out.mono ?_
    rintro e w6 hE
    obtain ⟨a, c, rfl, hO, hg⟩ := hE.ex
    have HO := Lib.hid hO
    have HG6 := Lib.hid (grown_trans HG5.out hg)
    have HS5 := Lib.hid HG5.out.size
    clear hE hO hg HY
    go_wp2_with fail
    go_ret2
    exact ⟨⟨a, c, rfl, HO.out.base HS5.out⟩, HG6.out⟩
end Go.Proofs.Ytdamlgnloecplaa
namespace Go.Proofs.Ytdamlgnloecplaa
open Go.RowKit

set_option maxRecDepth 100000
set_option maxHeartbeats 4000000

def codDist (i : Nat) : Value := if i = 0 then .func (.func 87) #[] #[] else if i = 1 then .func (.func 89) #[] #[] else .func (.func 90) #[] #[]
theorem codDist_any (w : World) : Calls Try.prog 21 #[] w fun e w' => e = .returned (.agg (rowOf 3 codDist)) ∧ w.grownBy w' none := by
  have ga := World.grownBy_alloc w (.cells #[.nilFunc, .nilFunc, .nilFunc] 63) none
  have hn := RowAt.new w 63 3 (fun _ => .nilFunc) #[.nilFunc, .nilFunc, .nilFunc] rfl
  obtain ⟨hs1, hs2⟩ := RowAt.store (P := Try.prog) hn 0 63 3 codDist (by decide) (by kernel_rfl) (fun j _ => by unfold codDist; (repeat' split) <;> rfl)
  have hrr := hs2.congr (v' := codDist) fun i hi => by rw [if_pos ⟨Nat.zero_le _, by omega⟩, Nat.sub_zero]
  have hG : w.grownBy _ none := grown_setCells w.heap.size (Or.inl (Nat.le_refl _)) (rowOf 3 codDist).toList 0 _ ga
  have HS := Lib.hid hs1
  have HRR := Lib.hid hrr
  have HG := Lib.hid hG
  clear ga hn hs1 hs2 hrr hG
  go_enter Try.func21, Try.ntmps21
  go_wp2_with (first | ((with_reducible refine wpList_here ?_); refine wpList_st (T := 63) (p := .pointer (some ⟨w.heap.size, 0, none⟩)) (v := .agg (rowOf 3 codDist)) (.tmp 0) (.tmp 1) ?_ ?_ ?_ ?_ ?_ HS.out ?_; (· rfl); (· rfl); go_simp; (· kernel_rfl); (· kernel_rfl)))
  exact bodyPost_ret (res_rowAt rfl rfl HRR.out (by kernel_rfl) (by kernel_rfl)) rfl ⟨rfl, HG.out⟩
theorem fmDist_some (w : World) : (binOp .neq 59 (.func (.func 87) #[] #[]) .nilFunc).run Try.prog w = .ok (.bool true) w := by kernel_rfl
theorem fpDist_some (w : World) : (binOp .eql 60 (.func (.func 89) #[] #[]) .nilFunc).run Try.prog w = .ok (.bool false) w := by kernel_rfl
theorem ftDist_some (w : World) : (binOp .eql 61 (.func (.func 90) #[] #[]) .nilFunc).run Try.prog w = .ok (.bool false) w := by kernel_rfl
theorem mayDist_any (v : Nat → Value) (m : Bool) (w : World) (HM : ∀ w1, w.grownBy w1 none → Calls Try.prog 87 #[.agg (rowOf 52 v)] w1 fun e w' => e = .returned (.bool m) ∧ w1.grownBy w' none) :
    Calls Try.prog 17 #[.agg (rowOf 3 codDist), .agg (rowOf 52 v)] w fun e w' => e = .returned (.bool m) ∧ w.grownBy w' none := by
  have ga := World.grownBy_alloc w (.cells (rowOf 3 codDist) 63) none
  have hz := World.size_alloc w (.cells (rowOf 3 codDist) 63)
  have hC := RowAt.new w 63 3 codDist _ rfl
  have gb := World.grownBy_alloc (w.alloc (.cells (rowOf 3 codDist) 63)) (.cells (rowOf 52 v) 66) none
  have hX := RowAt.new (w.alloc (.cells (rowOf 3 codDist) 63)) 66 52 v _ rfl
  rw [hz] at hX
  have hC := hC.grown gb (by simp)
  have hG := grown_trans ga gb
  have HHM := Lib.hid HM
  clear ga gb HM hz
  go_enter Try.func17, Try.ntmps17
  go_upto_region 1 with fail
  obtain ⟨B, hB⟩ : ∃ B, B = w.heap.size := ⟨_, rfl⟩
  rw [← hB] at hC hX ⊢
  generalize (w.alloc (.cells (rowOf 3 codDist) 63)).alloc (.cells (rowOf 52 v) 66) = w2 at *
  clear hB
  have c0 : w2.cell? ⟨B, 0, none⟩ = some (.func (.func 87) #[] #[]) := hC.cell 0 (by decide)
  have HL := Lib.hid (hX.load (P := Try.prog) 0 66 52 v (by decide) (fun j _ => by rw [Nat.zero_add]) (by kernel_rfl) (by kernel_rfl))
  have HX := Lib.hid (HHM.out w2 hG)
  have HG := Lib.hid hG
  have e0 := fmDist_some w2
  clear hC hX hG HHM
  go_wp2_with (first | ((with_reducible refine wpList_here ?_); refine wpList_ld (p := .pointer (some ⟨B + 1, 0, none⟩)) 3 ?_ ?_ ?_ HL.out ?_; (· rfl); go_simp; (· kernel_rfl)))
  go_at_call 87
  refine HX.out.mono ?_
  rintro e w3 ⟨rfl, g3⟩
  have HG3 := Lib.hid (grown_trans HG.out g3)
  clear HX HG HL c0 g3 e0
  go_wp2_with fail
  go_ret
  exact ⟨rfl, HG3.out⟩
theorem putDist_any (v : Nat → Value) (m : Bool) (n : Nat) (f : Nat → Nat) (w : World) (HM : ∀ w1, w.grownBy w1 none → Calls Try.prog 87 #[.agg (rowOf 52 v)] w1 fun e w' => e = .returned (.bool m) ∧ w1.grownBy w' none)
    (HP : m = true → ∀ w0 w1 g, w.grownBy w0 none → Good w0 w1 g 70024 0 (fun _ => 0) → Calls Try.prog 89 #[.pointer (some ⟨g, 0, none⟩), .agg (rowOf 52 v)] w1 (Goes w0 w1 g 70024 n f)) :
    Calls Try.prog 14 #[.agg (rowOf 3 codDist), .agg (rowOf 52 v)] w (PutSays w m n f) := by
  have ga := World.grownBy_alloc w (.cells (rowOf 3 codDist) 63) none
  have hz := World.size_alloc w (.cells (rowOf 3 codDist) 63)
  have hC := RowAt.new w 63 3 codDist _ rfl
  have gb := World.grownBy_alloc (w.alloc (.cells (rowOf 3 codDist) 63)) (.cells (rowOf 52 v) 66) none
  have hX := RowAt.new (w.alloc (.cells (rowOf 3 codDist) 63)) 66 52 v _ rfl
  rw [hz] at hX
  have hC := hC.grown gb (by simp)
  have hG := grown_trans ga gb
  have HHM := Lib.hid HM
  have HHP := Lib.hid HP
  clear ga gb HM HP hz
  go_enter Try.func14, Try.ntmps14
  go_upto_region 1 with fail
  obtain ⟨B, hB⟩ : ∃ B, B = w.heap.size := ⟨_, rfl⟩
  rw [← hB] at hC hX ⊢
  generalize (w.alloc (.cells (rowOf 3 codDist) 63)).alloc (.cells (rowOf 52 v) 66) = w2 at *
  have HB := Lib.hid hB
  clear hB
  have c1 : w2.cell? ⟨B, 1, none⟩ = some (.func (.func 89) #[] #[]) := hC.cell 1 (by decide)
  have HL := Lib.hid (hX.load (P := Try.prog) 0 66 52 v (by decide) (fun j _ => by rw [Nat.zero_add]) (by kernel_rfl) (by kernel_rfl))
  have HLC := Lib.hid (hC.load (P := Try.prog) 0 63 3 codDist (by decide) (fun j _ => by rw [Nat.zero_add]) (by kernel_rfl) (by kernel_rfl))
  have HX := Lib.hid (mayDist_any v m w2 (fun w1 h => HHM.out w1 (grown_trans hG h)))
  have HG := Lib.hid hG
  have HC := Lib.hid hC
  have HR := Lib.hid hX
  have e0 := fpDist_some w2
  clear hC hX hG HHM
  go_wp2_with (first | ((with_reducible refine wpList_here ?_); refine wpList_ld (p := .pointer (some ⟨B + 1, 0, none⟩)) 3 ?_ ?_ ?_ HL.out ?_; (· rfl); go_simp; (· kernel_rfl)) | ((with_reducible refine wpList_here ?_); refine wpList_ld (p := .pointer (some ⟨B, 0, none⟩)) 2 ?_ ?_ ?_ HLC.out ?_; (· rfl); go_simp; (· kernel_rfl)))
  go_at_call 17
  refine HX.out.mono ?_
  rintro e w3 ⟨rfl, g3⟩
  have HG3 := Lib.hid (grown_trans HG.out g3)
  clear HX HL HLC c1 e0
  cases m with
  | false =>
    clear g3
    go_wp2_with fail
    go_ret2
    exact ⟨⟨none, 0, rfl, OwnN.nil _ _ _⟩, HG3.out⟩
  | true =>
    have HN := Lib.hid (newOut_any 70024 (by decide) (by decide) w3)
    have HG3' := Lib.hid g3
    clear g3
    go_wp2_with fail
    go_at_call 65
    refine HN.out.mono ?_
    rintro e w4 ⟨p, rfl, hO⟩
    obtain ⟨g, rfl⟩ : ∃ g, p = some ⟨g, 0, none⟩ := by
      obtain ⟨g', a, c, e, _⟩ := (show OAt w3 w4 p (.good 70024 0 fun _ => 0) from hO).st
      exact ⟨g', e⟩
    have hO : Good w3 w4 g 70024 0 (fun _ => 0) := hO
    have hX := HR.out.grown (grown_trans HG3'.out hO.gr) (by simp)
    have hC := HC.out.grown (grown_trans HG3'.out hO.gr) (by simp)
    have c1 : w4.cell? ⟨B, 1, none⟩ = some (.func (.func 89) #[] #[]) := hC.cell 1 (by decide)
    have HL := Lib.hid (hX.load (P := Try.prog) 0 66 52 v (by decide) (fun j _ => by rw [Nat.zero_add]) (by kernel_rfl) (by kernel_rfl))
    have HX := Lib.hid (HHP.out (by first | rfl | trivial) w3 w4 g HG3.out hO)
    clear hX hC hO HHP HN HC HR HG3'
    go_wp2_with (first | ((with_reducible refine wpList_here ?_); refine wpList_ld (p := .pointer (some ⟨B + 1, 0, none⟩)) 3 ?_ ?_ ?_ HL.out ?_; (· rfl); go_simp; (· kernel_rfl)))
    go_at_call 89
    refine HX.out.mono ?_
    rintro e w5 ⟨⟨rfl, h5⟩, _⟩
    have HY := Lib.hid (outBytes_any h5 (good_len h5))
    have HG5 := Lib.hid (grown_trans HG3.out h5.gr)
    clear h5 HX HL c1
    go_wp2_with fail
    go_at_call 66
    refine HY.out.mono ?_
    rintro e w6 hE
    obtain ⟨a, c, rfl, hO, hg⟩ := hE.ex
    have HO := Lib.hid hO
    have HG6 := Lib.hid (grown_trans HG5.out hg)
    have HS5 := Lib.hid HG5.out.size
    clear hE hO hg HY
    go_wp2_with fail
    go_ret2
    exact ⟨⟨a, c, rfl, HO.out.base HS5.out⟩, HG6.out⟩
end Go.Proofs.Ytdamlgnloecplaa
namespace Go.Proofs.Ytdamlgnloecplaa
open Go.RowKit

set_option maxRecDepth 100000
set_option maxHeartbeats 4000000

def DV.zero : DV := ⟨fun _ => 0, 0, fun _ => 0, 0, fun _ => 0⟩
theorem DV.zero_row : (#[.int .u8 0, .int .u8 0, .int .u8 0, .int .u8 0, .int .u8 0, .int .u8 0, .int .u8 0, .int .u8 0, .int .u8 0, .int .u8 0, .int .u8 0, .int .u8 0, .int .u8 0, .int .u8 0, .int .u8 0, .int .u8 0, .int .u64 0, .int .u8 0, .int .u8 0, .int .u64 0, .int .u8 0, .int .u8 0, .int .u8 0, .int .u8 0, .int .u8 0, .int .u8 0, .int .u8 0, .int .u8 0, .int .u8 0, .int .u8 0, .int .u8 0, .int .u8 0, .int .u8 0, .int .u8 0, .int .u8 0, .int .u8 0, .int .u8 0, .int .u8 0, .int .u8 0, .int .u8 0, .int .u8 0, .int .u8 0, .int .u8 0, .int .u8 0, .int .u8 0, .int .u8 0, .int .u8 0, .int .u8 0, .int .u8 0, .int .u8 0, .int .u8 0, .int .u8 0] : Array Value) = rowOf 52 DV.zero.v := by kernel_rfl
theorem DV.one (x : DV) (j : Nat) : (x.v j).oneCell' = true := by
  unfold DV.v
  repeat' split
  all_goals rfl
theorem DV.put_id (x : DV) (f : Nat → Nat) (i : Nat) (hi : i < 52) : (if 0 ≤ i ∧ i < 0 + 16 then Value.int .u8 (f (i - 0)) else x.v i) = ({ x with id := f } : DV).v i := by
  unfold DV.v
  by_cases e : 0 ≤ i ∧ i < 0 + 16
  · rw [if_pos e]
    rw [if_pos (by omega), Nat.sub_zero]
  · rw [if_neg e]
    repeat' split
    all_goals first | rfl | (exfalso; omega)
theorem DV.put_ep (x : DV) (n : Nat) (i : Nat) (hi : i < 52) : (if i = 16 then Value.int .u64 n else x.v i) = ({ x with ep := n } : DV).v i := by
  unfold DV.v
  by_cases e : i = 16
  · rw [if_pos e]
    rw [if_neg (by omega), if_pos (by omega)]
  · rw [if_neg e]
    repeat' split
    all_goals first | rfl | (exfalso; omega)
theorem DV.put_sd (x : DV) (f : Nat → Nat) (i : Nat) (hi : i < 52) : (if 17 ≤ i ∧ i < 17 + 2 then Value.int .u8 (f (i - 17)) else x.v i) = ({ x with sd := f } : DV).v i := by
  unfold DV.v
  by_cases e : 17 ≤ i ∧ i < 17 + 2
  · rw [if_pos e]
    rw [if_neg (by omega), if_neg (by omega), if_pos (by omega)]
  · rw [if_neg e]
    repeat' split
    all_goals first | rfl | (exfalso; omega)
theorem DV.put_kid (x : DV) (n : Nat) (i : Nat) (hi : i < 52) : (if i = 19 then Value.int .u64 n else x.v i) = ({ x with kid := n } : DV).v i := by
  unfold DV.v
  by_cases e : i = 19
  · rw [if_pos e]
    rw [if_neg (by omega), if_neg (by omega), if_neg (by omega), if_pos (by omega)]
  · rw [if_neg e]
    repeat' split
    all_goals first | rfl | (exfalso; omega)
theorem DV.put_key (x : DV) (f : Nat → Nat) (i : Nat) (hi : i < 52) : (if 20 ≤ i ∧ i < 20 + 32 then Value.int .u8 (f (i - 20)) else x.v i) = ({ x with key := f } : DV).v i := by
  unfold DV.v
  by_cases e : 20 ≤ i ∧ i < 20 + 32
  · rw [if_pos e]
    rw [if_neg (by omega), if_neg (by omega), if_neg (by omega), if_neg (by omega)]
  · rw [if_neg e]
    repeat' split
    all_goals first | rfl | (exfalso; omega)
/-- The sender's key that bytes are. -/
def distS (L : Nat) : ISt := ((((((ISt.good 0).take L ((16 : Nat) : Int)).take L ((8 : Nat) : Int)).take L 2).take L ((8 : Nat) : Int)).take L ((32 : Nat) : Int))
def distV (L : Nat) (F : Nat → Nat) : DV := ⟨(ISt.good 0).cF L F 16, ((ISt.good 0).take L ((16 : Nat) : Int)).num L F 8, (((ISt.good 0).take L ((16 : Nat) : Int)).take L ((8 : Nat) : Int)).cF L F 2, ((((ISt.good 0).take L ((16 : Nat) : Int)).take L ((8 : Nat) : Int)).take L 2).num L F 8, (((((ISt.good 0).take L ((16 : Nat) : Int)).take L ((8 : Nat) : Int)).take L 2).take L ((8 : Nat) : Int)).cF L F 32⟩
def distOk (L : Nat) (F : Nat → Nat) : Bool := (distS L).all L && devMay (distV L F).sd
def distOf (L : Nat) (F : Nat → Nat) : DV := if distOk L F = true then distV L F else DV.zero
theorem refTakeDist_any (L c : Nat) (a : Option Addr) (F : Nat → Nat) (w : World) (hR : Rd w w.heap.size a L F) (hc : L ≤ c) (hL : L ≤ 1048576) (hF : ∀ i, F i < 256) : Calls Try.prog 32 #[.slice a L c] w fun e w' => e = .returned (.tuple #[.agg (rowOf 52 (distOf L F).v), .bool (distOk L F)]) ∧ w.grownBy w' none := by
  have ga := World.grownBy_alloc w (.cells #[.int .u8 0, .int .u8 0, .int .u8 0, .int .u8 0, .int .u8 0, .int .u8 0, .int .u8 0, .int .u8 0, .int .u8 0, .int .u8 0, .int .u8 0, .int .u8 0, .int .u8 0, .int .u8 0, .int .u8 0, .int .u8 0, .int .u64 0, .int .u8 0, .int .u8 0, .int .u64 0, .int .u8 0, .int .u8 0, .int .u8 0, .int .u8 0, .int .u8 0, .int .u8 0, .int .u8 0, .int .u8 0, .int .u8 0, .int .u8 0, .int .u8 0, .int .u8 0, .int .u8 0, .int .u8 0, .int .u8 0, .int .u8 0, .int .u8 0, .int .u8 0, .int .u8 0, .int .u8 0, .int .u8 0, .int .u8 0, .int .u8 0, .int .u8 0, .int .u8 0, .int .u8 0, .int .u8 0, .int .u8 0, .int .u8 0, .int .u8 0, .int .u8 0, .int .u8 0] 66) none
  have hz := World.size_alloc w (.cells #[.int .u8 0, .int .u8 0, .int .u8 0, .int .u8 0, .int .u8 0, .int .u8 0, .int .u8 0, .int .u8 0, .int .u8 0, .int .u8 0, .int .u8 0, .int .u8 0, .int .u8 0, .int .u8 0, .int .u8 0, .int .u8 0, .int .u64 0, .int .u8 0, .int .u8 0, .int .u64 0, .int .u8 0, .int .u8 0, .int .u8 0, .int .u8 0, .int .u8 0, .int .u8 0, .int .u8 0, .int .u8 0, .int .u8 0, .int .u8 0, .int .u8 0, .int .u8 0, .int .u8 0, .int .u8 0, .int .u8 0, .int .u8 0, .int .u8 0, .int .u8 0, .int .u8 0, .int .u8 0, .int .u8 0, .int .u8 0, .int .u8 0, .int .u8 0, .int .u8 0, .int .u8 0, .int .u8 0, .int .u8 0, .int .u8 0, .int .u8 0, .int .u8 0, .int .u8 0] 66)
  have hn := RowAt.new w 66 52 DV.zero.v _ DV.zero_row
  have hR := hR.grown ga (by simp)
  have HF := Lib.hid hF
  have HC := Lib.hid hc
  have HL := Lib.hid hL
  clear hF hc hL
  go_enter Try.func32, Try.ntmps32
  go_upto_region 1 with fail
  obtain ⟨B, hB⟩ : ∃ B, B = w.heap.size := ⟨_, rfl⟩
  generalize w.alloc (.cells #[.int .u8 0, .int .u8 0, .int .u8 0, .int .u8 0, .int .u8 0, .int .u8 0, .int .u8 0, .int .u8 0, .int .u8 0, .int .u8 0, .int .u8 0, .int .u8 0, .int .u8 0, .int .u8 0, .int .u8 0, .int .u8 0, .int .u64 0, .int .u8 0, .int .u8 0, .int .u64 0, .int .u8 0, .int .u8 0, .int .u8 0, .int .u8 0, .int .u8 0, .int .u8 0, .int .u8 0, .int .u8 0, .int .u8 0, .int .u8 0, .int .u8 0, .int .u8 0, .int .u8 0, .int .u8 0, .int .u8 0, .int .u8 0, .int .u8 0, .int .u8 0, .int .u8 0, .int .u8 0, .int .u8 0, .int .u8 0, .int .u8 0, .int .u8 0, .int .u8 0, .int .u8 0, .int .u8 0, .int .u8 0, .int .u8 0, .int .u8 0, .int .u8 0, .int .u8 0] 66) = w1 at *
  rw [← hB] at hz hn hR ⊢
  have hC := CAt.new w1 L c a F (hR.mono (by omega)) HC.out HL.out
  have gb := World.grownBy_alloc w1 (.cells #[.slice a L c, .int .i64 0, .bool false] 165) none
  have hz2 := World.size_alloc w1 (.cells #[.slice a L c, .int .i64 0, .bool false] 165)
  rw [hz] at hC hz2
  replace hz2 : (w1.alloc (.cells #[.slice a L c, .int .i64 0, .bool false] 165)).heap.size = B + 2 := by omega
  have HB := Lib.hid hB
  clear hB
  go_upto_region 2 with fail
  obtain ⟨w2, hw2⟩ : ∃ W, W = w1.alloc (.cells #[.slice a L c, .int .i64 0, .bool false] 165) := ⟨_, rfl⟩
  rw [← hw2] at hC gb hz2
  have HW2 := Lib.hid hw2.symm
  have hR1 := hn.grown gb (by simp)
  have hG := grown_trans ga gb
  clear hw2 gb hn ga hz hR
  rw [HW2.out]
  have gc := World.grownBy_alloc w2 (.cells #[.int .u8 0, .int .u8 0, .int .u8 0, .int .u8 0, .int .u8 0, .int .u8 0, .int .u8 0, .int .u8 0, .int .u8 0, .int .u8 0, .int .u8 0, .int .u8 0, .int .u8 0, .int .u8 0, .int .u8 0, .int .u8 0, .int .u64 0, .int .u8 0, .int .u8 0, .int .u64 0, .int .u8 0, .int .u8 0, .int .u8 0, .int .u8 0, .int .u8 0, .int .u8 0, .int .u8 0, .int .u8 0, .int .u8 0, .int .u8 0, .int .u8 0, .int .u8 0, .int .u8 0, .int .u8 0, .int .u8 0, .int .u8 0, .int .u8 0, .int .u8 0, .int .u8 0, .int .u8 0, .int .u8 0, .int .u8 0, .int .u8 0, .int .u8 0, .int .u8 0, .int .u8 0, .int .u8 0, .int .u8 0, .int .u8 0, .int .u8 0, .int .u8 0, .int .u8 0] 66) none
  have hm := RowAt.new w2 66 52 DV.zero.v _ DV.zero_row
  rw [hz2] at hm
  obtain ⟨hs1, hs2⟩ := RowAt.store (P := Try.prog) hm 0 66 52 DV.zero.v (by decide) (by kernel_rfl) (fun j _ => DV.one _ j)
  obtain ⟨W, hW⟩ : ∃ W, W = (w2.alloc (.cells #[.int .u8 0, .int .u8 0, .int .u8 0, .int .u8 0, .int .u8 0, .int .u8 0, .int .u8 0, .int .u8 0, .int .u8 0, .int .u8 0, .int .u8 0, .int .u8 0, .int .u8 0, .int .u8 0, .int .u8 0, .int .u8 0, .int .u64 0, .int .u8 0, .int .u8 0, .int .u64 0, .int .u8 0, .int .u8 0, .int .u8 0, .int .u8 0, .int .u8 0, .int .u8 0, .int .u8 0, .int .u8 0, .int .u8 0, .int .u8 0, .int .u8 0, .int .u8 0, .int .u8 0, .int .u8 0, .int .u8 0, .int .u8 0, .int .u8 0, .int .u8 0, .int .u8 0, .int .u8 0, .int .u8 0, .int .u8 0, .int .u8 0, .int .u8 0, .int .u8 0, .int .u8 0, .int .u8 0, .int .u8 0, .int .u8 0, .int .u8 0, .int .u8 0, .int .u8 0] 66)).setCells (B + 2) 0 (rowOf 52 DV.zero.v).toList := ⟨_, rfl⟩
  have gW : w2.grownBy W none := by rw [hW]; exact grown_setCells (B + 2) (Or.inl (by omega)) _ 0 _ gc
  have hR2 : RowAt W (B + 2) 66 52 DV.zero.v := by
    rw [hW]
    exact hs2.congr fun i hi => by rw [if_pos ⟨Nat.zero_le _, by omega⟩, Nat.sub_zero]
  have HW := Lib.hid hW.symm
  have HS := Lib.hid hs1
  have hC := hC.grown gW (by simp)
  have hR1 := hR1.grown gW (by simp)
  have hG := grown_trans hG gW
  clear hm hs1 hs2 hW gc gW
  go_upto_region 3 with (first | ((with_reducible refine wpList_here ?_); refine wpList_st (T := 66) (p := .pointer (some ⟨B + 2, 0, none⟩)) (v := .agg (rowOf 52 DV.zero.v)) (.tmp 5) (.tmp 9) ?_ ?_ ?_ ?_ ?_ HS.out ?_; (· rfl); (· rfl); go_simp; (· kernel_rfl); (· kernel_rfl)))
  rw [HW.out]
  clear HS HW hz2
  have HP := Lib.hid (curPart_any 16 hC (by decide) (by decide))
  clear hC
  go_wp2_with fail
  go_at_call 106
  refine HP.out.mono ?_
  rintro e u3 ⟨⟨ap, m, cp, rfl, hm, hcp, hR⟩, hst, hgr⟩
  have hR1 := hR1.grown hgr (by simp)
  have hR2 := hR2.grown hgr (by simp)
  have hG := grown_into hG hgr (by have := HB.out; omega)
  have HK := Lib.hid (sgOfId_any u3.heap.size m cp ap _ u3 hR hm)
  have HST := Lib.hid hst
  clear hst hgr HP hR hm hcp
  go_wp2_with fail
  go_at_call 105
  refine HK.out.mono ?_
  rintro e v3 ⟨rfl, g3⟩
  obtain ⟨f3, hf⟩ : ∃ f, f = (ISt.good 0).cF L F 16 := ⟨_, rfl⟩
  rw [← hf]
  have HF3 := Lib.hid hf
  clear hf HK
  have hR1 := hR1.grown g3 (by simp)
  have hR2 := hR2.grown g3 (by simp)
  have hC := HST.out.grown g3 (by simp)
  have hG := grown_trans hG g3
  clear g3 HST
  obtain ⟨hs1, hs2⟩ := RowAt.store (P := Try.prog) hR2 0 51 16 (fun j => .int .u8 (f3 j)) (by decide) (by kernel_rfl) (fun j _ => rfl)
  obtain ⟨W, hW⟩ : ∃ W, W = v3.setCells (B + 2) 0 (rowOf 16 (fun j => .int .u8 (f3 j))).toList := ⟨_, rfl⟩
  rw [← hW] at hs1 hs2
  have gW : v3.grownBy W (some (B + 2)) := by rw [hW]; exact grown_setCells (B + 2) (Or.inr rfl) _ 0 _ (grown_refl _ _)
  have hR2 : RowAt W (B + 2) 66 52 (DV.mk f3 0 (fun _ => 0) 0 (fun _ => 0)).v := hs2.congr fun i hi => DV.put_id DV.zero f3 i hi
  have hR1 := hR1.grown gW (by simp)
  have hC := hC.grown gW (fun k e => by cases e; omega)
  have hG := grown_into hG gW (by have := HB.out; omega)
  have HS := Lib.hid hs1
  clear hs1 hs2 gW hW
  go_upto_region 4 with (first | ((with_reducible refine wpList_here ?_); refine wpList_st (T := 51) (p := .pointer (some ⟨B + 2, 0, none⟩)) (v := .agg (rowOf 16 (fun j => .int .u8 (f3 j)))) (.tmp 13) (.tmp 12) ?_ ?_ ?_ ?_ ?_ HS.out ?_; (· rfl); (· rfl); go_simp; (· kernel_rfl); (· kernel_rfl)))
  clear HS
  have HP := Lib.hid (curNum_any 8 hC (by decide) (by decide) HF.out)
  clear hC
  go_wp2_with fail
  go_at_call 107
  refine HP.out.mono ?_
  rintro e v4 ⟨rfl, hst, hgr⟩
  obtain ⟨n4, hn4⟩ : ∃ n, n = ((ISt.good 0).take L ((16 : Nat) : Int)).num L F 8 := ⟨_, rfl⟩
  rw [← hn4]
  have HN4 := Lib.hid hn4
  have hR1 := hR1.grown hgr (by simp)
  have hR2 := hR2.grown hgr (by simp)
  have hG := grown_into hG hgr (by have := HB.out; omega)
  have cc : v4.cell? ⟨(B + 2), 16, none⟩ = some (.int .u64 0) := hR2.cell 16 (by decide)
  have ff := hR2.frozen 16
  obtain ⟨W, hW⟩ : ∃ W, W = v4.setCell ⟨(B + 2), 16, none⟩ (.int .u64 (n4 : Nat)) := ⟨_, rfl⟩
  have gW : v4.grownBy W (some (B + 2)) := by rw [hW]; exact grown_setCell_new (grown_refl _ _) _ _ (Or.inr rfl)
  have hR2' : RowAt W (B + 2) 66 52 (DV.mk f3 n4 (fun _ => 0) 0 (fun _ => 0)).v := by
    rw [hW]
    exact (hR2.put 16 (.int .u64 (n4 : Nat)) (by decide)).congr fun i hi => DV.put_ep (DV.mk f3 0 (fun _ => 0) 0 (fun _ => 0)) n4 i hi
  have hR1 := hR1.grown gW (by simp)
  have hC := CAt.grown hst gW (fun k e => by cases e; omega)
  have hG := grown_into hG gW (by have := HB.out; omega)
  have HW := Lib.hid hW.symm
  have hR2 := hR2'
  clear hW gW hR2' hst hgr hn4 HP
  go_upto_region 5 with fail
  rw [HW.out]
  clear cc ff HW
  have HP := Lib.hid (curDev_any hC)
  clear hC
  go_wp2_with fail
  go_at_call 108
  refine HP.out.mono ?_
  rintro e v5 ⟨rfl, hst, hgr⟩
  obtain ⟨f5, hf⟩ : ∃ f, f = (((ISt.good 0).take L ((16 : Nat) : Int)).take L ((8 : Nat) : Int)).cF L F 2 := ⟨_, rfl⟩
  rw [← hf]
  have HF5 := Lib.hid hf
  have hR1 := hR1.grown hgr (by simp)
  have hR2 := hR2.grown hgr (by simp)
  have hG := grown_into hG hgr (by have := HB.out; omega)
  have hC := hst
  clear hst hgr HP hf
  obtain ⟨hs1, hs2⟩ := RowAt.store (P := Try.prog) hR2 17 33 2 (fun j => .int .u8 (f5 j)) (by decide) (by kernel_rfl) (fun j _ => rfl)
  obtain ⟨W, hW⟩ : ∃ W, W = v5.setCells (B + 2) 17 (rowOf 2 (fun j => .int .u8 (f5 j))).toList := ⟨_, rfl⟩
  rw [← hW] at hs1 hs2
  have gW : v5.grownBy W (some (B + 2)) := by rw [hW]; exact grown_setCells (B + 2) (Or.inr rfl) _ 17 _ (grown_refl _ _)
  have hR2 : RowAt W (B + 2) 66 52 (DV.mk f3 n4 f5 0 (fun _ => 0)).v := hs2.congr fun i hi => DV.put_sd (DV.mk f3 n4 (fun _ => 0) 0 (fun _ => 0)) f5 i hi
  have hR1 := hR1.grown gW (by simp)
  have hC := hC.grown gW (fun k e => by cases e; omega)
  have hG := grown_into hG gW (by have := HB.out; omega)
  have HS := Lib.hid hs1
  clear hs1 hs2 gW hW
  go_upto_region 6 with (first | ((with_reducible refine wpList_here ?_); refine wpList_st (T := 33) (p := .pointer (some ⟨B + 2, 17, none⟩)) (v := .agg (rowOf 2 (fun j => .int .u8 (f5 j)))) (.tmp 19) (.tmp 18) ?_ ?_ ?_ ?_ ?_ HS.out ?_; (· rfl); (· rfl); go_simp; (· kernel_rfl); (· kernel_rfl)))
  clear HS
  have HP := Lib.hid (curNum_any 8 hC (by decide) (by decide) HF.out)
  clear hC
  go_wp2_with fail
  go_at_call 107
  refine HP.out.mono ?_
  rintro e v6 ⟨rfl, hst, hgr⟩
  obtain ⟨n6, hn6⟩ : ∃ n, n = ((((ISt.good 0).take L ((16 : Nat) : Int)).take L ((8 : Nat) : Int)).take L 2).num L F 8 := ⟨_, rfl⟩
  rw [← hn6]
  have HN6 := Lib.hid hn6
  have hR1 := hR1.grown hgr (by simp)
  have hR2 := hR2.grown hgr (by simp)
  have hG := grown_into hG hgr (by have := HB.out; omega)
  have cc : v6.cell? ⟨(B + 2), 19, none⟩ = some (.int .u64 0) := hR2.cell 19 (by decide)
  have ff := hR2.frozen 19
  obtain ⟨W, hW⟩ : ∃ W, W = v6.setCell ⟨(B + 2), 19, none⟩ (.int .u64 (n6 : Nat)) := ⟨_, rfl⟩
  have gW : v6.grownBy W (some (B + 2)) := by rw [hW]; exact grown_setCell_new (grown_refl _ _) _ _ (Or.inr rfl)
  have hR2' : RowAt W (B + 2) 66 52 (DV.mk f3 n4 f5 n6 (fun _ => 0)).v := by
    rw [hW]
    exact (hR2.put 19 (.int .u64 (n6 : Nat)) (by decide)).congr fun i hi => DV.put_kid (DV.mk f3 n4 f5 0 (fun _ => 0)) n6 i hi
  have hR1 := hR1.grown gW (by simp)
  have hC := CAt.grown hst gW (fun k e => by cases e; omega)
  have hG := grown_into hG gW (by have := HB.out; omega)
  have HW := Lib.hid hW.symm
  have hR2 := hR2'
  clear hW gW hR2' hst hgr hn6 HP
  go_upto_region 7 with fail
  rw [HW.out]
  clear cc ff HW
  have HP := Lib.hid (curPart_any 32 hC (by decide) (by decide))
  clear hC
  go_wp2_with fail
  go_at_call 106
  refine HP.out.mono ?_
  rintro e u7 ⟨⟨ap, m, cp, rfl, hm, hcp, hR⟩, hst, hgr⟩
  have hR1 := hR1.grown hgr (by simp)
  have hR2 := hR2.grown hgr (by simp)
  have hG := grown_into hG hgr (by have := HB.out; omega)
  have HK := Lib.hid (sgOfKey_any u7.heap.size m cp ap _ u7 hR hm)
  have HST := Lib.hid hst
  clear hst hgr HP hR hm hcp
  go_wp2_with fail
  go_at_call 109
  refine HK.out.mono ?_
  rintro e v7 ⟨rfl, g3⟩
  obtain ⟨f7, hf⟩ : ∃ f, f = (((((ISt.good 0).take L ((16 : Nat) : Int)).take L ((8 : Nat) : Int)).take L 2).take L ((8 : Nat) : Int)).cF L F 32 := ⟨_, rfl⟩
  rw [← hf]
  have HF7 := Lib.hid hf
  clear hf HK
  have hR1 := hR1.grown g3 (by simp)
  have hR2 := hR2.grown g3 (by simp)
  have hC := HST.out.grown g3 (by simp)
  have hG := grown_trans hG g3
  clear g3 HST
  obtain ⟨hs1, hs2⟩ := RowAt.store (P := Try.prog) hR2 20 35 32 (fun j => .int .u8 (f7 j)) (by decide) (by kernel_rfl) (fun j _ => rfl)
  obtain ⟨W, hW⟩ : ∃ W, W = v7.setCells (B + 2) 20 (rowOf 32 (fun j => .int .u8 (f7 j))).toList := ⟨_, rfl⟩
  rw [← hW] at hs1 hs2
  have gW : v7.grownBy W (some (B + 2)) := by rw [hW]; exact grown_setCells (B + 2) (Or.inr rfl) _ 20 _ (grown_refl _ _)
  have hR2 : RowAt W (B + 2) 66 52 (DV.mk f3 n4 f5 n6 f7).v := hs2.congr fun i hi => DV.put_key (DV.mk f3 n4 f5 n6 (fun _ => 0)) f7 i hi
  have hR1 := hR1.grown gW (by simp)
  have hC := hC.grown gW (fun k e => by cases e; omega)
  have hG := grown_into hG gW (by have := HB.out; omega)
  have HS := Lib.hid hs1
  clear hs1 hs2 gW hW
  go_upto_region 8 with (first | ((with_reducible refine wpList_here ?_); refine wpList_st (T := 35) (p := .pointer (some ⟨B + 2, 20, none⟩)) (v := .agg (rowOf 32 (fun j => .int .u8 (f7 j)))) (.tmp 26) (.tmp 25) ?_ ?_ ?_ ?_ ?_ HS.out ?_; (· rfl); (· rfl); go_simp; (· kernel_rfl); (· kernel_rfl)))
  clear HS
  have HO := Lib.hid (curOk_any hC)
  clear hC
  have HDV := Lib.hid (show distV L F = DV.mk f3 n4 f5 n6 f7 by rw [HF3.out, HN4.out, HF5.out, HN6.out, HF7.out]; rfl)
  obtain ⟨ok, hok⟩ : ∃ b, b = (distS L).all L := ⟨_, rfl⟩
  have hdk : distOk L F = (ok && devMay f5) := by unfold distOk; rw [← hok, HDV.out]
  have HOK := Lib.hid hok
  go_wp2_with fail
  go_at_call 110
  refine HO.out.mono ?_
  rintro e we ⟨he, g5⟩
  have he : e = .returned (.bool ok) := he.trans (by rw [HOK.out]; rfl)
  subst he
  have hR1 := hR1.grown g5 (by simp)
  have hR2 := hR2.grown g5 (by simp)
  have hG := grown_trans hG g5
  clear g5 HO hok
  cases ok with
  | false =>
    have hof : distOk L F = false := hdk
    clear hdk
    have HX2 := Lib.hid (show distOf L F = DV.zero by unfold distOf; rw [hof]; rfl)
    have HOO := Lib.hid hof
    clear hof
    obtain ⟨hs1, hs2⟩ := RowAt.store (P := Try.prog) hR1 0 66 52 DV.zero.v (by decide) (by kernel_rfl) (fun j _ => DV.one _ j)
    have HS := Lib.hid hs1
    obtain ⟨U, hU⟩ : ∃ U, U = we.setCells B 0 (rowOf 52 DV.zero.v).toList := ⟨_, rfl⟩
    rw [← hU] at hs2
    have hG : w.grownBy U none := by rw [hU]; exact grown_setCells B (Or.inl (by have := HB.out; omega)) _ 0 _ hG
    have HU := Lib.hid hU.symm
    have hRR := hs2.congr (v' := DV.zero.v) fun i hi => by rw [if_pos ⟨Nat.zero_le _, by omega⟩, Nat.sub_zero]
    have HG := Lib.hid hG
    have HRR := Lib.hid hRR
    clear hs1 hs2 hU hG hR1 hR2 hRR
    go_wp2_with (first | ((with_reducible refine wpList_here ?_); refine wpList_st (T := 66) (p := .pointer (some ⟨B, 0, none⟩)) (v := .agg (rowOf 52 DV.zero.v)) (.tmp 2) (.tmp 36) ?_ ?_ ?_ ?_ ?_ HS.out ?_; (· rfl); (· rfl); go_simp; (· kernel_rfl); (· kernel_rfl)))
    rw [HU.out]
    exact bodyPost_ret (res_rowAt2 rfl rfl rfl HRR.out (by kernel_rfl) (by kernel_rfl)) rfl ⟨by rw [HX2.out, HOO.out]; rfl, HG.out⟩
  | true =>
    have HLV := Lib.hid (hR2.load (P := Try.prog) 17 33 2 (fun j => .int .u8 (f5 j)) (by decide) (fun j hj => DV.v_sd _ j hj) (by kernel_rfl) (by kernel_rfl))
    have HMAY := Lib.hid (refDev_any f5 we)
    go_wp2_with (first | ((with_reducible refine wpList_here ?_); refine wpList_ld (p := .pointer (some ⟨B + 2, 17, none⟩)) 31 ?_ ?_ ?_ HLV.out ?_; (· rfl); go_simp; (· kernel_rfl)))
    go_at_call 86
    refine HMAY.out.mono ?_
    rintro e wf ⟨rfl, g6⟩
    have hR1 := hR1.grown g6 (by simp)
    have hR2 := hR2.grown g6 (by simp)
    have hG := grown_trans hG g6
    clear g6 HMAY HLV
    obtain ⟨b, hb⟩ : ∃ b, b = devMay f5 := ⟨_, rfl⟩
    rw [← hb] at hdk ⊢
    clear hb
    cases b with
    | false =>
      have hof : distOk L F = false := hdk
      clear hdk
      have HX2 := Lib.hid (show distOf L F = DV.zero by unfold distOf; rw [hof]; rfl)
      have HOO := Lib.hid hof
      clear hof
      obtain ⟨hs1, hs2⟩ := RowAt.store (P := Try.prog) hR1 0 66 52 DV.zero.v (by decide) (by kernel_rfl) (fun j _ => DV.one _ j)
      have HS := Lib.hid hs1
      obtain ⟨U, hU⟩ : ∃ U, U = wf.setCells B 0 (rowOf 52 DV.zero.v).toList := ⟨_, rfl⟩
      rw [← hU] at hs2
      have hG : w.grownBy U none := by rw [hU]; exact grown_setCells B (Or.inl (by have := HB.out; omega)) _ 0 _ hG
      have HU := Lib.hid hU.symm
      have hRR := hs2.congr (v' := DV.zero.v) fun i hi => by rw [if_pos ⟨Nat.zero_le _, by omega⟩, Nat.sub_zero]
      have HG := Lib.hid hG
      have HRR := Lib.hid hRR
      clear hs1 hs2 hU hG hR1 hR2 hRR
      go_wp2_with (first | ((with_reducible refine wpList_here ?_); refine wpList_st (T := 66) (p := .pointer (some ⟨B, 0, none⟩)) (v := .agg (rowOf 52 DV.zero.v)) (.tmp 2) (.tmp 36) ?_ ?_ ?_ ?_ ?_ HS.out ?_; (· rfl); (· rfl); go_simp; (· kernel_rfl); (· kernel_rfl)))
      rw [HU.out]
      exact bodyPost_ret (res_rowAt2 rfl rfl rfl HRR.out (by kernel_rfl) (by kernel_rfl)) rfl ⟨by rw [HX2.out, HOO.out]; rfl, HG.out⟩
    | true =>
      have hof : distOk L F = true := hdk
      clear hdk
      have HX2 := Lib.hid (show distOf L F = DV.mk f3 n4 f5 n6 f7 by unfold distOf; rw [hof, HDV.out]; rfl)
      have HOO := Lib.hid hof
      clear hof
      have HLD := Lib.hid (hR2.load (P := Try.prog) 0 66 52 (DV.mk f3 n4 f5 n6 f7).v (by decide) (fun j _ => by rw [Nat.zero_add]) (by kernel_rfl) (by kernel_rfl))
      obtain ⟨hs1, hs2⟩ := RowAt.store (P := Try.prog) hR1 0 66 52 (DV.mk f3 n4 f5 n6 f7).v (by decide) (by kernel_rfl) (fun j _ => DV.one _ j)
      have HS := Lib.hid hs1
      obtain ⟨U, hU⟩ : ∃ U, U = wf.setCells B 0 (rowOf 52 (DV.mk f3 n4 f5 n6 f7).v).toList := ⟨_, rfl⟩
      rw [← hU] at hs2
      have hG : w.grownBy U none := by rw [hU]; exact grown_setCells B (Or.inl (by have := HB.out; omega)) _ 0 _ hG
      have HU := Lib.hid hU.symm
      have hRR := hs2.congr (v' := (DV.mk f3 n4 f5 n6 f7).v) fun i hi => by rw [if_pos ⟨Nat.zero_le _, by omega⟩, Nat.sub_zero]
      have HG := Lib.hid hG
      have HRR := Lib.hid hRR
      clear hs1 hs2 hU hG hR1 hR2 hRR
      go_wp2_with (first | ((with_reducible refine wpList_here ?_); refine wpList_ld (p := .pointer (some ⟨B + 2, 0, none⟩)) 5 ?_ ?_ ?_ HLD.out ?_; (· rfl); go_simp; (· kernel_rfl)) | ((with_reducible refine wpList_here ?_); refine wpList_st (T := 66) (p := .pointer (some ⟨B, 0, none⟩)) (v := .agg (rowOf 52 (DV.mk f3 n4 f5 n6 f7).v)) (.tmp 2) (.tmp 37) ?_ ?_ ?_ ?_ ?_ HS.out ?_; (· rfl); (· rfl); go_simp; (· kernel_rfl); (· kernel_rfl)))
      rw [HU.out]
      exact bodyPost_ret (res_rowAt2 rfl rfl rfl HRR.out (by kernel_rfl) (by kernel_rfl)) rfl ⟨by rw [HX2.out, HOO.out]; rfl, HG.out⟩
end Go.Proofs.Ytdamlgnloecplaa
namespace Go.Proofs.Ytdamlgnloecplaa
open Go.RowKit

set_option maxRecDepth 100000
set_option maxHeartbeats 4000000

def zeroDist : Nat → Value := (⟨fun _ => 0, 0, fun _ => 0, 0, fun _ => 0⟩ : DV).v
theorem zeroDist_row : (#[.int .u8 0, .int .u8 0, .int .u8 0, .int .u8 0, .int .u8 0, .int .u8 0, .int .u8 0, .int .u8 0, .int .u8 0, .int .u8 0, .int .u8 0, .int .u8 0, .int .u8 0, .int .u8 0, .int .u8 0, .int .u8 0, .int .u64 0, .int .u8 0, .int .u8 0, .int .u64 0, .int .u8 0, .int .u8 0, .int .u8 0, .int .u8 0, .int .u8 0, .int .u8 0, .int .u8 0, .int .u8 0, .int .u8 0, .int .u8 0, .int .u8 0, .int .u8 0, .int .u8 0, .int .u8 0, .int .u8 0, .int .u8 0, .int .u8 0, .int .u8 0, .int .u8 0, .int .u8 0, .int .u8 0, .int .u8 0, .int .u8 0, .int .u8 0, .int .u8 0, .int .u8 0, .int .u8 0, .int .u8 0, .int .u8 0, .int .u8 0, .int .u8 0, .int .u8 0] : Array Value) = rowOf 52 zeroDist := by kernel_rfl
theorem zeroDist_one (j : Nat) : (zeroDist j).oneCell' = true := DV.one _ j
theorem takeDist_any (D L c : Nat) (a : Option Addr) (F : Nat → Nat) (s : ISt) (m : Bool) (Q : (Nat → Value) → World → World → Prop) (w : World) (hRd : Rd w D a L F) (hL : L ≤ 2 ^ 46)
    (HT : ∀ w1 g, w.grownBy w1 none → w.heap.size ≤ g → IAt w1 (some ⟨g, 0, none⟩) L F (.good 0) → Calls Try.prog 90 #[.pointer (some ⟨g, 0, none⟩)] w1 fun e w' => ∃ v, e = .returned (.agg (rowOf 52 v)) ∧ (∀ j, (v j).oneCell' = true) ∧ ISays w1 (some ⟨g, 0, none⟩) L F s w' ∧ Q v w1 w')
    (HM : s.all L = true → ∀ v w1 w2 w3, Q v w1 w2 → w2.grownBy w3 none → Calls Try.prog 87 #[.agg (rowOf 52 v)] w3 fun e w' => e = .returned (.bool m) ∧ w3.grownBy w' none) :
    Calls Try.prog 15 #[.agg (rowOf 3 codDist), .slice a L c] w (TakeSays 52 zeroDist (s.all L && m) Q w) := by
  have ga := World.grownBy_alloc w (.cells (rowOf 3 codDist) 63) none
  have hz1 := World.size_alloc w (.cells (rowOf 3 codDist) 63)
  have hC := RowAt.new w 63 3 codDist _ rfl
  have gb := World.grownBy_alloc (w.alloc (.cells (rowOf 3 codDist) 63)) (.cells #[.int .u8 0, .int .u8 0, .int .u8 0, .int .u8 0, .int .u8 0, .int .u8 0, .int .u8 0, .int .u8 0, .int .u8 0, .int .u8 0, .int .u8 0, .int .u8 0, .int .u8 0, .int .u8 0, .int .u8 0, .int .u8 0, .int .u64 0, .int .u8 0, .int .u8 0, .int .u64 0, .int .u8 0, .int .u8 0, .int .u8 0, .int .u8 0, .int .u8 0, .int .u8 0, .int .u8 0, .int .u8 0, .int .u8 0, .int .u8 0, .int .u8 0, .int .u8 0, .int .u8 0, .int .u8 0, .int .u8 0, .int .u8 0, .int .u8 0, .int .u8 0, .int .u8 0, .int .u8 0, .int .u8 0, .int .u8 0, .int .u8 0, .int .u8 0, .int .u8 0, .int .u8 0, .int .u8 0, .int .u8 0, .int .u8 0, .int .u8 0, .int .u8 0, .int .u8 0] 66) none
  have hz2 := World.size_alloc (w.alloc (.cells (rowOf 3 codDist) 63)) (.cells #[.int .u8 0, .int .u8 0, .int .u8 0, .int .u8 0, .int .u8 0, .int .u8 0, .int .u8 0, .int .u8 0, .int .u8 0, .int .u8 0, .int .u8 0, .int .u8 0, .int .u8 0, .int .u8 0, .int .u8 0, .int .u8 0, .int .u64 0, .int .u8 0, .int .u8 0, .int .u64 0, .int .u8 0, .int .u8 0, .int .u8 0, .int .u8 0, .int .u8 0, .int .u8 0, .int .u8 0, .int .u8 0, .int .u8 0, .int .u8 0, .int .u8 0, .int .u8 0, .int .u8 0, .int .u8 0, .int .u8 0, .int .u8 0, .int .u8 0, .int .u8 0, .int .u8 0, .int .u8 0, .int .u8 0, .int .u8 0, .int .u8 0, .int .u8 0, .int .u8 0, .int .u8 0, .int .u8 0, .int .u8 0, .int .u8 0, .int .u8 0, .int .u8 0, .int .u8 0] 66)
  have hR := RowAt.new (w.alloc (.cells (rowOf 3 codDist) 63)) 66 52 zeroDist _ zeroDist_row
  have gc := World.grownBy_alloc ((w.alloc (.cells (rowOf 3 codDist) 63)).alloc (.cells #[.int .u8 0, .int .u8 0, .int .u8 0, .int .u8 0, .int .u8 0, .int .u8 0, .int .u8 0, .int .u8 0, .int .u8 0, .int .u8 0, .int .u8 0, .int .u8 0, .int .u8 0, .int .u8 0, .int .u8 0, .int .u8 0, .int .u64 0, .int .u8 0, .int .u8 0, .int .u64 0, .int .u8 0, .int .u8 0, .int .u8 0, .int .u8 0, .int .u8 0, .int .u8 0, .int .u8 0, .int .u8 0, .int .u8 0, .int .u8 0, .int .u8 0, .int .u8 0, .int .u8 0, .int .u8 0, .int .u8 0, .int .u8 0, .int .u8 0, .int .u8 0, .int .u8 0, .int .u8 0, .int .u8 0, .int .u8 0, .int .u8 0, .int .u8 0, .int .u8 0, .int .u8 0, .int .u8 0, .int .u8 0, .int .u8 0, .int .u8 0, .int .u8 0, .int .u8 0] 66)) (.cells #[.int .u8 0, .int .u8 0, .int .u8 0, .int .u8 0, .int .u8 0, .int .u8 0, .int .u8 0, .int .u8 0, .int .u8 0, .int .u8 0, .int .u8 0, .int .u8 0, .int .u8 0, .int .u8 0, .int .u8 0, .int .u8 0, .int .u64 0, .int .u8 0, .int .u8 0, .int .u64 0, .int .u8 0, .int .u8 0, .int .u8 0, .int .u8 0, .int .u8 0, .int .u8 0, .int .u8 0, .int .u8 0, .int .u8 0, .int .u8 0, .int .u8 0, .int .u8 0, .int .u8 0, .int .u8 0, .int .u8 0, .int .u8 0, .int .u8 0, .int .u8 0, .int .u8 0, .int .u8 0, .int .u8 0, .int .u8 0, .int .u8 0, .int .u8 0, .int .u8 0, .int .u8 0, .int .u8 0, .int .u8 0, .int .u8 0, .int .u8 0, .int .u8 0, .int .u8 0] 66) none
  have hz3 := World.size_alloc ((w.alloc (.cells (rowOf 3 codDist) 63)).alloc (.cells #[.int .u8 0, .int .u8 0, .int .u8 0, .int .u8 0, .int .u8 0, .int .u8 0, .int .u8 0, .int .u8 0, .int .u8 0, .int .u8 0, .int .u8 0, .int .u8 0, .int .u8 0, .int .u8 0, .int .u8 0, .int .u8 0, .int .u64 0, .int .u8 0, .int .u8 0, .int .u64 0, .int .u8 0, .int .u8 0, .int .u8 0, .int .u8 0, .int .u8 0, .int .u8 0, .int .u8 0, .int .u8 0, .int .u8 0, .int .u8 0, .int .u8 0, .int .u8 0, .int .u8 0, .int .u8 0, .int .u8 0, .int .u8 0, .int .u8 0, .int .u8 0, .int .u8 0, .int .u8 0, .int .u8 0, .int .u8 0, .int .u8 0, .int .u8 0, .int .u8 0, .int .u8 0, .int .u8 0, .int .u8 0, .int .u8 0, .int .u8 0, .int .u8 0, .int .u8 0] 66)) (.cells #[.int .u8 0, .int .u8 0, .int .u8 0, .int .u8 0, .int .u8 0, .int .u8 0, .int .u8 0, .int .u8 0, .int .u8 0, .int .u8 0, .int .u8 0, .int .u8 0, .int .u8 0, .int .u8 0, .int .u8 0, .int .u8 0, .int .u64 0, .int .u8 0, .int .u8 0, .int .u64 0, .int .u8 0, .int .u8 0, .int .u8 0, .int .u8 0, .int .u8 0, .int .u8 0, .int .u8 0, .int .u8 0, .int .u8 0, .int .u8 0, .int .u8 0, .int .u8 0, .int .u8 0, .int .u8 0, .int .u8 0, .int .u8 0, .int .u8 0, .int .u8 0, .int .u8 0, .int .u8 0, .int .u8 0, .int .u8 0, .int .u8 0, .int .u8 0, .int .u8 0, .int .u8 0, .int .u8 0, .int .u8 0, .int .u8 0, .int .u8 0, .int .u8 0, .int .u8 0] 66)
  have hN := RowAt.new ((w.alloc (.cells (rowOf 3 codDist) 63)).alloc (.cells #[.int .u8 0, .int .u8 0, .int .u8 0, .int .u8 0, .int .u8 0, .int .u8 0, .int .u8 0, .int .u8 0, .int .u8 0, .int .u8 0, .int .u8 0, .int .u8 0, .int .u8 0, .int .u8 0, .int .u8 0, .int .u8 0, .int .u64 0, .int .u8 0, .int .u8 0, .int .u64 0, .int .u8 0, .int .u8 0, .int .u8 0, .int .u8 0, .int .u8 0, .int .u8 0, .int .u8 0, .int .u8 0, .int .u8 0, .int .u8 0, .int .u8 0, .int .u8 0, .int .u8 0, .int .u8 0, .int .u8 0, .int .u8 0, .int .u8 0, .int .u8 0, .int .u8 0, .int .u8 0, .int .u8 0, .int .u8 0, .int .u8 0, .int .u8 0, .int .u8 0, .int .u8 0, .int .u8 0, .int .u8 0, .int .u8 0, .int .u8 0, .int .u8 0, .int .u8 0] 66)) 66 52 zeroDist _ zeroDist_row
  rw [hz2, hz1] at hz3 hN
  rw [hz1] at hR
  have hC := (hC.grown gb (by simp)).grown gc (by simp)
  have hR := hR.grown gc (by simp)
  have hG := grown_trans (grown_trans ga gb) gc
  have hRd := hRd.grown hG (by simp)
  have HHT := Lib.hid HT
  have HHM := Lib.hid HM
  have HL := Lib.hid hL
  clear ga gb gc HT HM hz1 hz2 hL
  go_enter Try.func15, Try.ntmps15
  go_upto_region 2 with fail
  obtain ⟨B, hB⟩ : ∃ B, B = w.heap.size := ⟨_, rfl⟩
  rw [← hB] at hC hR hN hz3 ⊢
  generalize ((w.alloc (.cells (rowOf 3 codDist) 63)).alloc (.cells #[.int .u8 0, .int .u8 0, .int .u8 0, .int .u8 0, .int .u8 0, .int .u8 0, .int .u8 0, .int .u8 0, .int .u8 0, .int .u8 0, .int .u8 0, .int .u8 0, .int .u8 0, .int .u8 0, .int .u8 0, .int .u8 0, .int .u64 0, .int .u8 0, .int .u8 0, .int .u64 0, .int .u8 0, .int .u8 0, .int .u8 0, .int .u8 0, .int .u8 0, .int .u8 0, .int .u8 0, .int .u8 0, .int .u8 0, .int .u8 0, .int .u8 0, .int .u8 0, .int .u8 0, .int .u8 0, .int .u8 0, .int .u8 0, .int .u8 0, .int .u8 0, .int .u8 0, .int .u8 0, .int .u8 0, .int .u8 0, .int .u8 0, .int .u8 0, .int .u8 0, .int .u8 0, .int .u8 0, .int .u8 0, .int .u8 0, .int .u8 0, .int .u8 0, .int .u8 0] 66)).alloc (.cells #[.int .u8 0, .int .u8 0, .int .u8 0, .int .u8 0, .int .u8 0, .int .u8 0, .int .u8 0, .int .u8 0, .int .u8 0, .int .u8 0, .int .u8 0, .int .u8 0, .int .u8 0, .int .u8 0, .int .u8 0, .int .u8 0, .int .u64 0, .int .u8 0, .int .u8 0, .int .u64 0, .int .u8 0, .int .u8 0, .int .u8 0, .int .u8 0, .int .u8 0, .int .u8 0, .int .u8 0, .int .u8 0, .int .u8 0, .int .u8 0, .int .u8 0, .int .u8 0, .int .u8 0, .int .u8 0, .int .u8 0, .int .u8 0, .int .u8 0, .int .u8 0, .int .u8 0, .int .u8 0, .int .u8 0, .int .u8 0, .int .u8 0, .int .u8 0, .int .u8 0, .int .u8 0, .int .u8 0, .int .u8 0, .int .u8 0, .int .u8 0, .int .u8 0, .int .u8 0] 66) = w1 at *
  have HB := Lib.hid (And.intro hB hz3)
  clear hB hz3
  have c2 : w1.cell? ⟨B, 2, none⟩ = some (.func (.func 90) #[] #[]) := hC.cell 2 (by decide)
  have e0 := ftDist_some w1
  have HNI := Lib.hid (newInF_any D L c a F w1 hRd HL.out)
  clear hRd HL
  have HC := Lib.hid hC
  have HR := Lib.hid hR
  have HN := Lib.hid hN
  have HG1 := Lib.hid hG
  clear hC hR hN hG
  go_wp2_with fail
  go_at_call 79
  refine HNI.out.mono ?_
  rintro e w2 ⟨p, rfl, hI, hgp, g2, _⟩
  obtain ⟨g, rfl⟩ : ∃ g, p = some ⟨g, 0, none⟩ := by
    obtain ⟨g', a, c, e, _⟩ := hI.st
    exact ⟨g', e⟩
  have hgg := hgp g rfl
  clear hgp e0 c2 HNI
  have hC := HC.out.grown g2 (by simp)
  have hR := HR.out.grown g2 (by simp)
  have hN := HN.out.grown g2 (by simp)
  have hG := grown_trans HG1.out g2
  have HW2 := Lib.hid (show w.heap.size ≤ w2.heap.size ∧ B + 1 < w2.heap.size from ⟨hG.size, by have := g2.size; have := HB.out.2; omega⟩)
  have HGG := Lib.hid (show B + 2 < g from by have := HB.out.2; omega)
  have c2 : w2.cell? ⟨B, 2, none⟩ = some (.func (.func 90) #[] #[]) := hC.cell 2 (by decide)
  have HX := Lib.hid (HHT.out w2 g hG (by have := HG1.out.size; omega) hI)
  have HGW := Lib.hid hG
  clear hI g2 hgg HC HR HN HG1 HHT hG
  have HC := Lib.hid hC
  have HR := Lib.hid hR
  have HN := Lib.hid hN
  clear hC hR hN
  go_wp2_with fail
  go_at_call 90
  refine HX.out.mono ?_
  rintro e w3 ⟨v, rfl, hone, hs, hq⟩
  have HON := Lib.hid hone
  have HQ := Lib.hid hq
  have hC := HC.out.grown hs.gr (fun e => by have := HGG.out; have e : B = g := by simpa [rowP] using e
                                             omega)
  have hR := HR.out.grown hs.gr (fun e => by have := HGG.out; have e : B + 1 = g := by simpa [rowP] using e
                                             omega)
  have hN := HN.out.grown hs.gr (fun e => by have := HGG.out; have e : B + 2 = g := by simpa [rowP] using e
                                             omega)
  have hG : w.grownBy w3 none := grown_into HGW.out (show w2.grownBy w3 (some g) from hs.gr) (by have := HGG.out; have := HB.out.1; omega)
  have hX := RowAt.new w3 66 52 zeroDist _ zeroDist_row
  obtain ⟨k1, k2⟩ := RowAt.store (P := Try.prog) hX 0 66 52 v (by decide) (by kernel_rfl) (fun j _ => HON.out j)
  have gx : w3.grownBy ((w3.alloc (.cells #[.int .u8 0, .int .u8 0, .int .u8 0, .int .u8 0, .int .u8 0, .int .u8 0, .int .u8 0, .int .u8 0, .int .u8 0, .int .u8 0, .int .u8 0, .int .u8 0, .int .u8 0, .int .u8 0, .int .u8 0, .int .u8 0, .int .u64 0, .int .u8 0, .int .u8 0, .int .u64 0, .int .u8 0, .int .u8 0, .int .u8 0, .int .u8 0, .int .u8 0, .int .u8 0, .int .u8 0, .int .u8 0, .int .u8 0, .int .u8 0, .int .u8 0, .int .u8 0, .int .u8 0, .int .u8 0, .int .u8 0, .int .u8 0, .int .u8 0, .int .u8 0, .int .u8 0, .int .u8 0, .int .u8 0, .int .u8 0, .int .u8 0, .int .u8 0, .int .u8 0, .int .u8 0, .int .u8 0, .int .u8 0, .int .u8 0, .int .u8 0, .int .u8 0, .int .u8 0] 66)).setCells w3.heap.size 0 (rowOf 52 v).toList) none := grown_setCells w3.heap.size (Or.inl (Nat.le_refl _)) _ 0 _ (World.grownBy_alloc w3 _ none)
  have hX := k2.congr (v' := v) fun i hi => by rw [if_pos ⟨Nat.zero_le _, by omega⟩, Nat.sub_zero]
  have hI := hs.st.grown0 gx
  have hC := hC.grown gx (by simp)
  have hR := hR.grown gx (by simp)
  have hN := hN.grown gx (by simp)
  have hG := grown_trans hG gx
  obtain ⟨X, hXX⟩ : ∃ X, X = w3.heap.size := ⟨_, rfl⟩
  have HLT := Lib.hid (show B + 2 < X by rw [hXX]; have := hs.st.ltS; have := HGG.out; omega)
  rw [← hXX] at k1 k2 gx hX hI hC hR hN hG
  have HS := Lib.hid k1
  have HXX := Lib.hid hXX
  clear hs k1 k2 hone hq hXX HC HR HN HX HGW c2
  have HC := Lib.hid hC
  have HR := Lib.hid hR
  have HN := Lib.hid hN
  have HX := Lib.hid hX
  have HI := Lib.hid hI
  have HG := Lib.hid hG
  have HGQ := Lib.hid gx
  clear hC hR hN hX hI hG gx
  go_upto_region 6 with (first | ((with_reducible refine wpList_here ?_); refine wpList_st (T := 66) (p := .pointer (some ⟨w3.heap.size, 0, none⟩)) (v := .agg (rowOf 52 v)) (.tmp 8) (.tmp 18) ?_ ?_ ?_ ?_ ?_ (by rw [← HXX.out]; exact HS.out) ?_; (· rfl); (· rfl); go_simp; (· kernel_rfl); (· kernel_rfl)))
  rw [← HXX.out]
  obtain ⟨w4, hw4⟩ : ∃ W, W = (w3.alloc (.cells #[.int .u8 0, .int .u8 0, .int .u8 0, .int .u8 0, .int .u8 0, .int .u8 0, .int .u8 0, .int .u8 0, .int .u8 0, .int .u8 0, .int .u8 0, .int .u8 0, .int .u8 0, .int .u8 0, .int .u8 0, .int .u8 0, .int .u64 0, .int .u8 0, .int .u8 0, .int .u64 0, .int .u8 0, .int .u8 0, .int .u8 0, .int .u8 0, .int .u8 0, .int .u8 0, .int .u8 0, .int .u8 0, .int .u8 0, .int .u8 0, .int .u8 0, .int .u8 0, .int .u8 0, .int .u8 0, .int .u8 0, .int .u8 0, .int .u8 0, .int .u8 0, .int .u8 0, .int .u8 0, .int .u8 0, .int .u8 0, .int .u8 0, .int .u8 0, .int .u8 0, .int .u8 0, .int .u8 0, .int .u8 0, .int .u8 0, .int .u8 0, .int .u8 0, .int .u8 0] 66)).setCells X 0 (rowOf 52 v).toList := ⟨_, rfl⟩
  have hC := HC.out
  have hR := HR.out
  have hN := HN.out
  have hX := HX.out
  have hI := HI.out
  have hG := HG.out
  have hGQ := HGQ.out
  rw [← hw4] at hC hR hN hX hI hG hGQ ⊢
  clear HC HR HN HX HI HG HGQ hw4 HS
  have HE := Lib.hid (inEnd_any hI)
  have hcode := hI.code
  have HLX := Lib.hid (hX.load (P := Try.prog) 0 66 52 v (by decide) (fun j _ => by rw [Nat.zero_add]) (by kernel_rfl) (by kernel_rfl))
  have HLC := Lib.hid (hC.load (P := Try.prog) 0 63 3 codDist (by decide) (fun j _ => by rw [Nat.zero_add]) (by kernel_rfl) (by kernel_rfl))
  have HLN := Lib.hid (hN.load (P := Try.prog) 0 66 52 zeroDist (by decide) (fun j _ => by rw [Nat.zero_add]) (by kernel_rfl) (by kernel_rfl))
  have HG := Lib.hid hG
  have HGQ := Lib.hid hGQ
  clear hI hG hGQ
  obtain ⟨cd, hcd⟩ : ∃ x, x = s.code L := ⟨_, rfl⟩
  rw [← hcd] at hcode HE
  clear hcd
  obtain ⟨al, hal⟩ : ∃ x, x = s.all L := ⟨_, rfl⟩
  rw [← hal] at hcode HHM
  have HAL := Lib.hid hal
  clear hal
  have HR := Lib.hid hR
  have HC := Lib.hid hC
  have HN := Lib.hid hN
  have HX := Lib.hid hX
  clear hR hC hN hX
  go_wp2_with fail
  go_at_call 80
  refine HE.out.mono ?_
  rintro e w5 ⟨rfl, rfl⟩
  clear HE
  cases al with
  | false =>
    have hne : ¬ cd = 0 := hcode
    have HOK := Lib.hid (show (s.all L && m) = false by rw [← HAL.out]; rfl)
    clear hcode
    have hR := HR.out
    have hN := HN.out
    have hC := HC.out
    have hX := HX.out
    clear HR HN HC HX
    obtain ⟨k1, k2⟩ := RowAt.store (P := Try.prog) hR 0 66 52 zeroDist (by decide) (by kernel_rfl) (fun j _ => zeroDist_one j)
    obtain ⟨wz, hwz⟩ : ∃ W, W = w4.setCells (B + 1) 0 (rowOf 52 zeroDist).toList := ⟨_, rfl⟩
    rw [← hwz] at k1 k2
    have gz : w4.grownBy wz (some (B + 1)) := by rw [hwz]; exact grown_setCells (B + 1) (Or.inr rfl) _ 0 _ (grown_refl _ _)
    have HK := Lib.hid (k2.congr (v' := zeroDist) fun i hi => by rw [if_pos ⟨Nat.zero_le _, by omega⟩, Nat.sub_zero])
    have HS := Lib.hid k1
    have HGZ := Lib.hid (grown_into HG.out gz (by have := HB.out; omega))
    have HQZ := Lib.hid (grown_trans (grown_some (row := some (B + 1)) HGQ.out) gz)
    clear k1 k2 hwz gz hR hN hC hX
    go_wp2_with (first | ((with_reducible refine wpList_here ?_); refine wpList_ld (p := .pointer (some ⟨(B + 2), 0, none⟩)) 6 ?_ ?_ ?_ HLN.out ?_; (· rfl); go_simp; (· kernel_rfl)) | ((with_reducible refine wpList_here ?_); refine wpList_st (T := 66) (p := .pointer (some ⟨(B + 1), 0, none⟩)) (v := .agg (rowOf 52 zeroDist)) (.tmp 4) (.tmp 28) ?_ ?_ ?_ ?_ ?_ HS.out ?_; (· rfl); (· rfl); go_simp; (· kernel_rfl); (· kernel_rfl)))
    exact bodyPost_ret (res_rowAt2 rfl rfl rfl HK.out (by kernel_rfl) (by kernel_rfl)) rfl ⟨⟨v, w2, w3, B + 1, by first | rfl | (rw [HOK.out]; rfl), HW2.out.1, HQ.out, HW2.out.2, HQZ.out⟩, HGZ.out⟩
  | true =>
    obtain rfl : cd = 0 := hcode
    have HMY := Lib.hid (mayDist_any v m w4 (fun w6 h => HHM.out (by first | rfl | trivial) v w2 w3 w6 HQ.out (grown_trans HGQ.out h)))
    clear HHM
    go_wp2_with (first | ((with_reducible refine wpList_here ?_); refine wpList_ld (p := .pointer (some ⟨B, 0, none⟩)) 2 ?_ ?_ ?_ HLC.out ?_; (· rfl); go_simp; (· kernel_rfl)) | ((with_reducible refine wpList_here ?_); refine wpList_ld (p := .pointer (some ⟨X, 0, none⟩)) 8 ?_ ?_ ?_ HLX.out ?_; (· rfl); go_simp; (· kernel_rfl)))
    go_at_call 17
    refine HMY.out.mono ?_
    rintro e w6 ⟨rfl, g6⟩
    have hR := HR.out.grown g6 (by simp)
    have hN := HN.out.grown g6 (by simp)
    have hC := HC.out.grown g6 (by simp)
    have hX := HX.out.grown g6 (by simp)
    have HG2 := Lib.hid (grown_trans HG.out g6)
    have HGQ2 := Lib.hid (grown_trans HGQ.out g6)
    clear g6 HR HN HC HX HMY HLX HLN HLC HG HGQ
    have HG := HG2
    have HGQ := HGQ2
    clear HG2 HGQ2
    have HLX := Lib.hid (hX.load (P := Try.prog) 0 66 52 v (by decide) (fun j _ => by rw [Nat.zero_add]) (by kernel_rfl) (by kernel_rfl))
    have HLN := Lib.hid (hN.load (P := Try.prog) 0 66 52 zeroDist (by decide) (fun j _ => by rw [Nat.zero_add]) (by kernel_rfl) (by kernel_rfl))
    cases m with
    | false =>
      have HOK := Lib.hid (show (s.all L && false) = false by rw [← HAL.out]; rfl)
      obtain ⟨k1, k2⟩ := RowAt.store (P := Try.prog) hR 0 66 52 zeroDist (by decide) (by kernel_rfl) (fun j _ => zeroDist_one j)
      obtain ⟨wz, hwz⟩ : ∃ W, W = w6.setCells (B + 1) 0 (rowOf 52 zeroDist).toList := ⟨_, rfl⟩
      rw [← hwz] at k1 k2
      have gz : w6.grownBy wz (some (B + 1)) := by rw [hwz]; exact grown_setCells (B + 1) (Or.inr rfl) _ 0 _ (grown_refl _ _)
      have HK := Lib.hid (k2.congr (v' := zeroDist) fun i hi => by rw [if_pos ⟨Nat.zero_le _, by omega⟩, Nat.sub_zero])
      have HS := Lib.hid k1
      have HGZ := Lib.hid (grown_into HG.out gz (by have := HB.out; omega))
      have HQZ := Lib.hid (grown_trans (grown_some (row := some (B + 1)) HGQ.out) gz)
      clear k1 k2 hwz gz hR hN hC hX
      go_wp2_with (first | ((with_reducible refine wpList_here ?_); refine wpList_ld (p := .pointer (some ⟨(B + 2), 0, none⟩)) 6 ?_ ?_ ?_ HLN.out ?_; (· rfl); go_simp; (· kernel_rfl)) | ((with_reducible refine wpList_here ?_); refine wpList_st (T := 66) (p := .pointer (some ⟨(B + 1), 0, none⟩)) (v := .agg (rowOf 52 zeroDist)) (.tmp 4) (.tmp 28) ?_ ?_ ?_ ?_ ?_ HS.out ?_; (· rfl); (· rfl); go_simp; (· kernel_rfl); (· kernel_rfl)))
      exact bodyPost_ret (res_rowAt2 rfl rfl rfl HK.out (by kernel_rfl) (by kernel_rfl)) rfl ⟨⟨v, w2, w3, B + 1, by first | rfl | (rw [HOK.out]; rfl), HW2.out.1, HQ.out, HW2.out.2, HQZ.out⟩, HGZ.out⟩
    | true =>
      have HOK := Lib.hid (show (s.all L && true) = true by rw [← HAL.out]; rfl)
      obtain ⟨k1, k2⟩ := RowAt.store (P := Try.prog) hR 0 66 52 v (by decide) (by kernel_rfl) (fun j _ => HON.out j)
      obtain ⟨wz, hwz⟩ : ∃ W, W = w6.setCells (B + 1) 0 (rowOf 52 v).toList := ⟨_, rfl⟩
      rw [← hwz] at k1 k2
      have gz : w6.grownBy wz (some (B + 1)) := by rw [hwz]; exact grown_setCells (B + 1) (Or.inr rfl) _ 0 _ (grown_refl _ _)
      have HK := Lib.hid (k2.congr (v' := v) fun i hi => by rw [if_pos ⟨Nat.zero_le _, by omega⟩, Nat.sub_zero])
      have HS := Lib.hid k1
      have HGZ := Lib.hid (grown_into HG.out gz (by have := HB.out; omega))
      have HQZ := Lib.hid (grown_trans (grown_some (row := some (B + 1)) HGQ.out) gz)
      clear k1 k2 hwz gz hR hN hC hX
      go_wp2_with (first | ((with_reducible refine wpList_here ?_); refine wpList_ld (p := .pointer (some ⟨X, 0, none⟩)) 8 ?_ ?_ ?_ HLX.out ?_; (· rfl); go_simp; (· kernel_rfl)) | ((with_reducible refine wpList_here ?_); refine wpList_st (T := 66) (p := .pointer (some ⟨(B + 1), 0, none⟩)) (v := .agg (rowOf 52 v)) (.tmp 4) (.tmp 29) ?_ ?_ ?_ ?_ ?_ HS.out ?_; (· rfl); (· rfl); go_simp; (· kernel_rfl); (· kernel_rfl)))
      exact bodyPost_ret (res_rowAt2 rfl rfl rfl HK.out (by kernel_rfl) (by kernel_rfl)) rfl ⟨⟨v, w2, w3, B + 1, by first | rfl | (rw [HOK.out]; rfl), HW2.out.1, HQ.out, HW2.out.2, HQZ.out⟩, HGZ.out⟩
end Go.Proofs.Ytdamlgnloecplaa
namespace Go.Proofs.Ytdamlgnloecplaa
open Go.RowKit

set_option maxRecDepth 100000
set_option maxHeartbeats 4000000

def zeroEnv : Nat → Value := (⟨fun _ => 0, fun _ => 0, false, ⟨fun _ => 0, fun _ => 0, false, 0⟩, ⟨fun _ => 0, 0, 0⟩, none, 0, 0⟩ : EV).v
theorem zeroEnv_row : (Try.zeroCells42 : Array Value) = rowOf 106 zeroEnv := by kernel_rfl
theorem zeroEnv_one (j : Nat) : (zeroEnv j).oneCell' = true := EV.one _ j
theorem takeEnv_any (D L c : Nat) (a : Option Addr) (F : Nat → Nat) (s : ISt) (m : Bool) (Q : (Nat → Value) → World → World → Prop) (w : World) (hRd : Rd w D a L F) (hL : L ≤ 2 ^ 46)
    (HT : ∀ w1 g, w.grownBy w1 none → w.heap.size ≤ g → IAt w1 (some ⟨g, 0, none⟩) L F (.good 0) → Calls Try.prog 59 #[.pointer (some ⟨g, 0, none⟩)] w1 fun e w' => ∃ v, e = .returned (.agg (rowOf 106 v)) ∧ (∀ j, (v j).oneCell' = true) ∧ ISays w1 (some ⟨g, 0, none⟩) L F s w' ∧ Q v w1 w')
    (HM : s.all L = true → ∀ v w1 w2 w3, Q v w1 w2 → w2.grownBy w3 none → Calls Try.prog 51 #[.agg (rowOf 106 v)] w3 fun e w' => e = .returned (.bool m) ∧ w3.grownBy w' none) :
    Calls Try.prog 38 #[.agg (rowOf 3 codEnv), .slice a L c] w (TakeSays 106 zeroEnv (s.all L && m) Q w) := by
  have ga := World.grownBy_alloc w (.cells (rowOf 3 codEnv) 29) none
  have hz1 := World.size_alloc w (.cells (rowOf 3 codEnv) 29)
  have hC := RowAt.new w 29 3 codEnv _ rfl
  have gb := World.grownBy_alloc (w.alloc (.cells (rowOf 3 codEnv) 29)) (.cells Try.zeroCells42 42) none
  have hz2 := World.size_alloc (w.alloc (.cells (rowOf 3 codEnv) 29)) (.cells Try.zeroCells42 42)
  have hR := RowAt.new (w.alloc (.cells (rowOf 3 codEnv) 29)) 42 106 zeroEnv _ zeroEnv_row
  have gc := World.grownBy_alloc ((w.alloc (.cells (rowOf 3 codEnv) 29)).alloc (.cells Try.zeroCells42 42)) (.cells Try.zeroCells42 42) none
  have hz3 := World.size_alloc ((w.alloc (.cells (rowOf 3 codEnv) 29)).alloc (.cells Try.zeroCells42 42)) (.cells Try.zeroCells42 42)
  have hN := RowAt.new ((w.alloc (.cells (rowOf 3 codEnv) 29)).alloc (.cells Try.zeroCells42 42)) 42 106 zeroEnv _ zeroEnv_row
  rw [hz2, hz1] at hz3 hN
  rw [hz1] at hR
  have hC := (hC.grown gb (by simp)).grown gc (by simp)
  have hR := hR.grown gc (by simp)
  have hG := grown_trans (grown_trans ga gb) gc
  have hRd := hRd.grown hG (by simp)
  have HHT := Lib.hid HT
  have HHM := Lib.hid HM
  have HL := Lib.hid hL
  clear ga gb gc HT HM hz1 hz2 hL
  go_enter Try.func38, Try.ntmps38
  go_upto_region 2 with fail
  obtain ⟨B, hB⟩ : ∃ B, B = w.heap.size := ⟨_, rfl⟩
  rw [← hB] at hC hR hN hz3 ⊢
  generalize ((w.alloc (.cells (rowOf 3 codEnv) 29)).alloc (.cells Try.zeroCells42 42)).alloc (.cells Try.zeroCells42 42) = w1 at *
  have HB := Lib.hid (And.intro hB hz3)
  clear hB hz3
  have c2 : w1.cell? ⟨B, 2, none⟩ = some (.func (.func 59) #[] #[]) := hC.cell 2 (by decide)
  have e0 := ftEnv_some w1
  have HNI := Lib.hid (newInF_any D L c a F w1 hRd HL.out)
  clear hRd HL
  have HC := Lib.hid hC
  have HR := Lib.hid hR
  have HN := Lib.hid hN
  have HG1 := Lib.hid hG
  clear hC hR hN hG
  go_wp2_with fail
  go_at_call 79
  refine HNI.out.mono ?_
  rintro e w2 ⟨p, rfl, hI, hgp, g2, _⟩
  obtain ⟨g, rfl⟩ : ∃ g, p = some ⟨g, 0, none⟩ := by
    obtain ⟨g', a, c, e, _⟩ := hI.st
    exact ⟨g', e⟩
  have hgg := hgp g rfl
  clear hgp e0 c2 HNI
  have hC := HC.out.grown g2 (by simp)
  have hR := HR.out.grown g2 (by simp)
  have hN := HN.out.grown g2 (by simp)
  have hG := grown_trans HG1.out g2
  have HW2 := Lib.hid (show w.heap.size ≤ w2.heap.size ∧ B + 1 < w2.heap.size from ⟨hG.size, by have := g2.size; have := HB.out.2; omega⟩)
  have HGG := Lib.hid (show B + 2 < g from by have := HB.out.2; omega)
  have c2 : w2.cell? ⟨B, 2, none⟩ = some (.func (.func 59) #[] #[]) := hC.cell 2 (by decide)
  have HX := Lib.hid (HHT.out w2 g hG (by have := HG1.out.size; omega) hI)
  have HGW := Lib.hid hG
  clear hI g2 hgg HC HR HN HG1 HHT hG
  have HC := Lib.hid hC
  have HR := Lib.hid hR
  have HN := Lib.hid hN
  clear hC hR hN
  go_wp2_with fail
  go_at_call 59
  refine HX.out.mono ?_
  rintro e w3 ⟨v, rfl, hone, hs, hq⟩
  have HON := Lib.hid hone
  have HQ := Lib.hid hq
  have hC := HC.out.grown hs.gr (fun e => by have := HGG.out; have e : B = g := by simpa [rowP] using e
                                             omega)
  have hR := HR.out.grown hs.gr (fun e => by have := HGG.out; have e : B + 1 = g := by simpa [rowP] using e
                                             omega)
  have hN := HN.out.grown hs.gr (fun e => by have := HGG.out; have e : B + 2 = g := by simpa [rowP] using e
                                             omega)
  have hG : w.grownBy w3 none := grown_into HGW.out (show w2.grownBy w3 (some g) from hs.gr) (by have := HGG.out; have := HB.out.1; omega)
  have hX := RowAt.new w3 42 106 zeroEnv _ zeroEnv_row
  obtain ⟨k1, k2⟩ := RowAt.store (P := Try.prog) hX 0 42 106 v (by decide) (by kernel_rfl) (fun j _ => HON.out j)
  have gx : w3.grownBy ((w3.alloc (.cells Try.zeroCells42 42)).setCells w3.heap.size 0 (rowOf 106 v).toList) none := grown_setCells w3.heap.size (Or.inl (Nat.le_refl _)) _ 0 _ (World.grownBy_alloc w3 _ none)
  have hX := k2.congr (v' := v) fun i hi => by rw [if_pos ⟨Nat.zero_le _, by omega⟩, Nat.sub_zero]
  have hI := hs.st.grown0 gx
  have hC := hC.grown gx (by simp)
  have hR := hR.grown gx (by simp)
  have hN := hN.grown gx (by simp)
  have hG := grown_trans hG gx
  obtain ⟨X, hXX⟩ : ∃ X, X = w3.heap.size := ⟨_, rfl⟩
  have HLT := Lib.hid (show B + 2 < X by rw [hXX]; have := hs.st.ltS; have := HGG.out; omega)
  rw [← hXX] at k1 k2 gx hX hI hC hR hN hG
  have HS := Lib.hid k1
  have HXX := Lib.hid hXX
  clear hs k1 k2 hone hq hXX HC HR HN HX HGW c2
  have HC := Lib.hid hC
  have HR := Lib.hid hR
  have HN := Lib.hid hN
  have HX := Lib.hid hX
  have HI := Lib.hid hI
  have HG := Lib.hid hG
  have HGQ := Lib.hid gx
  clear hC hR hN hX hI hG gx
  go_upto_region 6 with (first | ((with_reducible refine wpList_here ?_); refine wpList_st (T := 42) (p := .pointer (some ⟨w3.heap.size, 0, none⟩)) (v := .agg (rowOf 106 v)) (.tmp 8) (.tmp 18) ?_ ?_ ?_ ?_ ?_ (by rw [← HXX.out]; exact HS.out) ?_; (· rfl); (· rfl); go_simp; (· kernel_rfl); (· kernel_rfl)))
  rw [← HXX.out]
  obtain ⟨w4, hw4⟩ : ∃ W, W = (w3.alloc (.cells Try.zeroCells42 42)).setCells X 0 (rowOf 106 v).toList := ⟨_, rfl⟩
  have hC := HC.out
  have hR := HR.out
  have hN := HN.out
  have hX := HX.out
  have hI := HI.out
  have hG := HG.out
  have hGQ := HGQ.out
  rw [← hw4] at hC hR hN hX hI hG hGQ ⊢
  clear HC HR HN HX HI HG HGQ hw4 HS
  have HE := Lib.hid (inEnd_any hI)
  have hcode := hI.code
  have HLX := Lib.hid (hX.load (P := Try.prog) 0 42 106 v (by decide) (fun j _ => by rw [Nat.zero_add]) (by kernel_rfl) (by kernel_rfl))
  have HLC := Lib.hid (hC.load (P := Try.prog) 0 29 3 codEnv (by decide) (fun j _ => by rw [Nat.zero_add]) (by kernel_rfl) (by kernel_rfl))
  have HLN := Lib.hid (hN.load (P := Try.prog) 0 42 106 zeroEnv (by decide) (fun j _ => by rw [Nat.zero_add]) (by kernel_rfl) (by kernel_rfl))
  have HG := Lib.hid hG
  have HGQ := Lib.hid hGQ
  clear hI hG hGQ
  obtain ⟨cd, hcd⟩ : ∃ x, x = s.code L := ⟨_, rfl⟩
  rw [← hcd] at hcode HE
  clear hcd
  obtain ⟨al, hal⟩ : ∃ x, x = s.all L := ⟨_, rfl⟩
  rw [← hal] at hcode HHM
  have HAL := Lib.hid hal
  clear hal
  have HR := Lib.hid hR
  have HC := Lib.hid hC
  have HN := Lib.hid hN
  have HX := Lib.hid hX
  clear hR hC hN hX
  go_wp2_with fail
  go_at_call 80
  refine HE.out.mono ?_
  rintro e w5 ⟨rfl, rfl⟩
  clear HE
  cases al with
  | false =>
    have hne : ¬ cd = 0 := hcode
    have HOK := Lib.hid (show (s.all L && m) = false by rw [← HAL.out]; rfl)
    clear hcode
    have hR := HR.out
    have hN := HN.out
    have hC := HC.out
    have hX := HX.out
    clear HR HN HC HX
    obtain ⟨k1, k2⟩ := RowAt.store (P := Try.prog) hR 0 42 106 zeroEnv (by decide) (by kernel_rfl) (fun j _ => zeroEnv_one j)
    obtain ⟨wz, hwz⟩ : ∃ W, W = w4.setCells (B + 1) 0 (rowOf 106 zeroEnv).toList := ⟨_, rfl⟩
    rw [← hwz] at k1 k2
    have gz : w4.grownBy wz (some (B + 1)) := by rw [hwz]; exact grown_setCells (B + 1) (Or.inr rfl) _ 0 _ (grown_refl _ _)
    have HK := Lib.hid (k2.congr (v' := zeroEnv) fun i hi => by rw [if_pos ⟨Nat.zero_le _, by omega⟩, Nat.sub_zero])
    have HS := Lib.hid k1
    have HGZ := Lib.hid (grown_into HG.out gz (by have := HB.out; omega))
    have HQZ := Lib.hid (grown_trans (grown_some (row := some (B + 1)) HGQ.out) gz)
    clear k1 k2 hwz gz hR hN hC hX
    go_wp2_with (first | ((with_reducible refine wpList_here ?_); refine wpList_ld (p := .pointer (some ⟨(B + 2), 0, none⟩)) 6 ?_ ?_ ?_ HLN.out ?_; (· rfl); go_simp; (· kernel_rfl)) | ((with_reducible refine wpList_here ?_); refine wpList_st (T := 42) (p := .pointer (some ⟨(B + 1), 0, none⟩)) (v := .agg (rowOf 106 zeroEnv)) (.tmp 4) (.tmp 28) ?_ ?_ ?_ ?_ ?_ HS.out ?_; (· rfl); (· rfl); go_simp; (· kernel_rfl); (· kernel_rfl)))
    exact bodyPost_ret (res_rowAt2 rfl rfl rfl HK.out (by kernel_rfl) (by kernel_rfl)) rfl ⟨⟨v, w2, w3, B + 1, by first | rfl | (rw [HOK.out]; rfl), HW2.out.1, HQ.out, HW2.out.2, HQZ.out⟩, HGZ.out⟩
  | true =>
    obtain rfl : cd = 0 := hcode
    have HMY := Lib.hid (mayEnv_any v m w4 (fun w6 h => HHM.out (by first | rfl | trivial) v w2 w3 w6 HQ.out (grown_trans HGQ.out h)))
    clear HHM
    go_wp2_with (first | ((with_reducible refine wpList_here ?_); refine wpList_ld (p := .pointer (some ⟨B, 0, none⟩)) 2 ?_ ?_ ?_ HLC.out ?_; (· rfl); go_simp; (· kernel_rfl)) | ((with_reducible refine wpList_here ?_); refine wpList_ld (p := .pointer (some ⟨X, 0, none⟩)) 8 ?_ ?_ ?_ HLX.out ?_; (· rfl); go_simp; (· kernel_rfl)))
    go_at_call 64
    refine HMY.out.mono ?_
    rintro e w6 ⟨rfl, g6⟩
    have hR := HR.out.grown g6 (by simp)
    have hN := HN.out.grown g6 (by simp)
    have hC := HC.out.grown g6 (by simp)
    have hX := HX.out.grown g6 (by simp)
    have HG2 := Lib.hid (grown_trans HG.out g6)
    have HGQ2 := Lib.hid (grown_trans HGQ.out g6)
    clear g6 HR HN HC HX HMY HLX HLN HLC HG HGQ
    have HG := HG2
    have HGQ := HGQ2
    clear HG2 HGQ2
    have HLX := Lib.hid (hX.load (P := Try.prog) 0 42 106 v (by decide) (fun j _ => by rw [Nat.zero_add]) (by kernel_rfl) (by kernel_rfl))
    have HLN := Lib.hid (hN.load (P := Try.prog) 0 42 106 zeroEnv (by decide) (fun j _ => by rw [Nat.zero_add]) (by kernel_rfl) (by kernel_rfl))
    cases m with
    | false =>
      have HOK := Lib.hid (show (s.all L && false) = false by rw [← HAL.out]; rfl)
      obtain ⟨k1, k2⟩ := RowAt.store (P := Try.prog) hR 0 42 106 zeroEnv (by decide) (by kernel_rfl) (fun j _ => zeroEnv_one j)
      obtain ⟨wz, hwz⟩ : ∃ W, W = w6.setCells (B + 1) 0 (rowOf 106 zeroEnv).toList := ⟨_, rfl⟩
      rw [← hwz] at k1 k2
      have gz : w6.grownBy wz (some (B + 1)) := by rw [hwz]; exact grown_setCells (B + 1) (Or.inr rfl) _ 0 _ (grown_refl _ _)
      have HK := Lib.hid (k2.congr (v' := zeroEnv) fun i hi => by rw [if_pos ⟨Nat.zero_le _, by omega⟩, Nat.sub_zero])
      have HS := Lib.hid k1
      have HGZ := Lib.hid (grown_into HG.out gz (by have := HB.out; omega))
      have HQZ := Lib.hid (grown_trans (grown_some (row := some (B + 1)) HGQ.out) gz)
      clear k1 k2 hwz gz hR hN hC hX
      go_wp2_with (first | ((with_reducible refine wpList_here ?_); refine wpList_ld (p := .pointer (some ⟨(B + 2), 0, none⟩)) 6 ?_ ?_ ?_ HLN.out ?_; (· rfl); go_simp; (· kernel_rfl)) | ((with_reducible refine wpList_here ?_); refine wpList_st (T := 42) (p := .pointer (some ⟨(B + 1), 0, none⟩)) (v := .agg (rowOf 106 zeroEnv)) (.tmp 4) (.tmp 28) ?_ ?_ ?_ ?_ ?_ HS.out ?_; (· rfl); (· rfl); go_simp; (· kernel_rfl); (· kernel_rfl)))
      exact bodyPost_ret (res_rowAt2 rfl rfl rfl HK.out (by kernel_rfl) (by kernel_rfl)) rfl ⟨⟨v, w2, w3, B + 1, by first | rfl | (rw [HOK.out]; rfl), HW2.out.1, HQ.out, HW2.out.2, HQZ.out⟩, HGZ.out⟩
    | true =>
      have HOK := Lib.hid (show (s.all L && true) = true by rw [← HAL.out]; rfl)
      obtain ⟨k1, k2⟩ := RowAt.store (P := Try.prog) hR 0 42 106 v (by decide) (by kernel_rfl) (fun j _ => HON.out j)
      obtain ⟨wz, hwz⟩ : ∃ W, W = w6.setCells (B + 1) 0 (rowOf 106 v).toList := ⟨_, rfl⟩
      rw [← hwz] at k1 k2
      have gz : w6.grownBy wz (some (B + 1)) := by rw [hwz]; exact grown_setCells (B + 1) (Or.inr rfl) _ 0 _ (grown_refl _ _)
      have HK := Lib.hid (k2.congr (v' := v) fun i hi => by rw [if_pos ⟨Nat.zero_le _, by omega⟩, Nat.sub_zero])
      have HS := Lib.hid k1
      have HGZ := Lib.hid (grown_into HG.out gz (by have := HB.out; omega))
      have HQZ := Lib.hid (grown_trans (grown_some (row := some (B + 1)) HGQ.out) gz)
      clear k1 k2 hwz gz hR hN hC hX
      go_wp2_with (first | ((with_reducible refine wpList_here ?_); refine wpList_ld (p := .pointer (some ⟨X, 0, none⟩)) 8 ?_ ?_ ?_ HLX.out ?_; (· rfl); go_simp; (· kernel_rfl)) | ((with_reducible refine wpList_here ?_); refine wpList_st (T := 42) (p := .pointer (some ⟨(B + 1), 0, none⟩)) (v := .agg (rowOf 106 v)) (.tmp 4) (.tmp 29) ?_ ?_ ?_ ?_ ?_ HS.out ?_; (· rfl); (· rfl); go_simp; (· kernel_rfl); (· kernel_rfl)))
      exact bodyPost_ret (res_rowAt2 rfl rfl rfl HK.out (by kernel_rfl) (by kernel_rfl)) rfl ⟨⟨v, w2, w3, B + 1, by first | rfl | (rw [HOK.out]; rfl), HW2.out.1, HQ.out, HW2.out.2, HQZ.out⟩, HGZ.out⟩
end Go.Proofs.Ytdamlgnloecplaa
namespace Go.Proofs.Ytdamlgnloecplaa
open Go.RowKit

set_option maxRecDepth 100000
set_option maxHeartbeats 4000000

def zeroRos : Nat → Value := (⟨fun _ => 0, 0, none, 0, 0⟩ : RV).v
theorem zeroRos_row : (#[.int .u8 0, .int .u8 0, .int .u8 0, .int .u8 0, .int .u8 0, .int .u8 0, .int .u8 0, .int .u8 0, .int .u8 0, .int .u8 0, .int .u8 0, .int .u8 0, .int .u8 0, .int .u8 0, .int .u8 0, .int .u8 0, .int .u64 0, .slice none 0 0] : Array Value) = rowOf 18 zeroRos := by kernel_rfl
theorem zeroRos_one (j : Nat) : (zeroRos j).oneCell' = true := RV.one _ j
theorem takeRos_any (D L c : Nat) (a : Option Addr) (F : Nat → Nat) (s : ISt) (m : Bool) (Q : (Nat → Value) → World → World → Prop) (w : World) (hRd : Rd w D a L F) (hL : L ≤ 2 ^ 46)
    (HT : ∀ w1 g, w.grownBy w1 none → w.heap.size ≤ g → IAt w1 (some ⟨g, 0, none⟩) L F (.good 0) → Calls Try.prog 73 #[.pointer (some ⟨g, 0, none⟩)] w1 fun e w' => ∃ v, e = .returned (.agg (rowOf 18 v)) ∧ (∀ j, (v j).oneCell' = true) ∧ ISays w1 (some ⟨g, 0, none⟩) L F s w' ∧ Q v w1 w')
    (HM : s.all L = true → ∀ v w1 w2 w3, Q v w1 w2 → w2.grownBy w3 none → Calls Try.prog 67 #[.agg (rowOf 18 v)] w3 fun e w' => e = .returned (.bool m) ∧ w3.grownBy w' none) :
    Calls Try.prog 33 #[.agg (rowOf 3 codRos), .slice a L c] w (TakeSays 18 zeroRos (s.all L && m) Q w) := by
  have ga := World.grownBy_alloc w (.cells (rowOf 3 codRos) 47) none
  have hz1 := World.size_alloc w (.cells (rowOf 3 codRos) 47)
  have hC := RowAt.new w 47 3 codRos _ rfl
  have gb := World.grownBy_alloc (w.alloc (.cells (rowOf 3 codRos) 47)) (.cells #[.int .u8 0, .int .u8 0, .int .u8 0, .int .u8 0, .int .u8 0, .int .u8 0, .int .u8 0, .int .u8 0, .int .u8 0, .int .u8 0, .int .u8 0, .int .u8 0, .int .u8 0, .int .u8 0, .int .u8 0, .int .u8 0, .int .u64 0, .slice none 0 0] 55) none
  have hz2 := World.size_alloc (w.alloc (.cells (rowOf 3 codRos) 47)) (.cells #[.int .u8 0, .int .u8 0, .int .u8 0, .int .u8 0, .int .u8 0, .int .u8 0, .int .u8 0, .int .u8 0, .int .u8 0, .int .u8 0, .int .u8 0, .int .u8 0, .int .u8 0, .int .u8 0, .int .u8 0, .int .u8 0, .int .u64 0, .slice none 0 0] 55)
  have hR := RowAt.new (w.alloc (.cells (rowOf 3 codRos) 47)) 55 18 zeroRos _ zeroRos_row
  have gc := World.grownBy_alloc ((w.alloc (.cells (rowOf 3 codRos) 47)).alloc (.cells #[.int .u8 0, .int .u8 0, .int .u8 0, .int .u8 0, .int .u8 0, .int .u8 0, .int .u8 0, .int .u8 0, .int .u8 0, .int .u8 0, .int .u8 0, .int .u8 0, .int .u8 0, .int .u8 0, .int .u8 0, .int .u8 0, .int .u64 0, .slice none 0 0] 55)) (.cells #[.int .u8 0, .int .u8 0, .int .u8 0, .int .u8 0, .int .u8 0, .int .u8 0, .int .u8 0, .int .u8 0, .int .u8 0, .int .u8 0, .int .u8 0, .int .u8 0, .int .u8 0, .int .u8 0, .int .u8 0, .int .u8 0, .int .u64 0, .slice none 0 0] 55) none
  have hz3 := World.size_alloc ((w.alloc (.cells (rowOf 3 codRos) 47)).alloc (.cells #[.int .u8 0, .int .u8 0, .int .u8 0, .int .u8 0, .int .u8 0, .int .u8 0, .int .u8 0, .int .u8 0, .int .u8 0, .int .u8 0, .int .u8 0, .int .u8 0, .int .u8 0, .int .u8 0, .int .u8 0, .int .u8 0, .int .u64 0, .slice none 0 0] 55)) (.cells #[.int .u8 0, .int .u8 0, .int .u8 0, .int .u8 0, .int .u8 0, .int .u8 0, .int .u8 0, .int .u8 0, .int .u8 0, .int .u8 0, .int .u8 0, .int .u8 0, .int .u8 0, .int .u8 0, .int .u8 0, .int .u8 0, .int .u64 0, .slice none 0 0] 55)
  have hN := RowAt.new ((w.alloc (.cells (rowOf 3 codRos) 47)).alloc (.cells #[.int .u8 0, .int .u8 0, .int .u8 0, .int .u8 0, .int .u8 0, .int .u8 0, .int .u8 0, .int .u8 0, .int .u8 0, .int .u8 0, .int .u8 0, .int .u8 0, .int .u8 0, .int .u8 0, .int .u8 0, .int .u8 0, .int .u64 0, .slice none 0 0] 55)) 55 18 zeroRos _ zeroRos_row
  rw [hz2, hz1] at hz3 hN
  rw [hz1] at hR
  have hC := (hC.grown gb (by simp)).grown gc (by simp)
  have hR := hR.grown gc (by simp)
  have hG := grown_trans (grown_trans ga gb) gc
  have hRd := hRd.grown hG (by simp)
  have HHT := Lib.hid HT
  have HHM := Lib.hid HM
  have HL := Lib.hid hL
  clear ga gb gc HT HM hz1 hz2 hL
  go_enter Try.func33, Try.ntmps33
  go_upto_region 2 with fail
  obtain ⟨B, hB⟩ : ∃ B, B = w.heap.size := ⟨_, rfl⟩
  rw [← hB] at hC hR hN hz3 ⊢
  generalize ((w.alloc (.cells (rowOf 3 codRos) 47)).alloc (.cells #[.int .u8 0, .int .u8 0, .int .u8 0, .int .u8 0, .int .u8 0, .int .u8 0, .int .u8 0, .int .u8 0, .int .u8 0, .int .u8 0, .int .u8 0, .int .u8 0, .int .u8 0, .int .u8 0, .int .u8 0, .int .u8 0, .int .u64 0, .slice none 0 0] 55)).alloc (.cells #[.int .u8 0, .int .u8 0, .int .u8 0, .int .u8 0, .int .u8 0, .int .u8 0, .int .u8 0, .int .u8 0, .int .u8 0, .int .u8 0, .int .u8 0, .int .u8 0, .int .u8 0, .int .u8 0, .int .u8 0, .int .u8 0, .int .u64 0, .slice none 0 0] 55) = w1 at *
  have HB := Lib.hid (And.intro hB hz3)
  clear hB hz3
  have c2 : w1.cell? ⟨B, 2, none⟩ = some (.func (.func 73) #[] #[]) := hC.cell 2 (by decide)
  have e0 := ftRos_some w1
  have HNI := Lib.hid (newInF_any D L c a F w1 hRd HL.out)
  clear hRd HL
  have HC := Lib.hid hC
  have HR := Lib.hid hR
  have HN := Lib.hid hN
  have HG1 := Lib.hid hG
  clear hC hR hN hG
  go_wp2_with fail
  go_at_call 79
  refine HNI.out.mono ?_
  rintro e w2 ⟨p, rfl, hI, hgp, g2, _⟩
  obtain ⟨g, rfl⟩ : ∃ g, p = some ⟨g, 0, none⟩ := by
    obtain ⟨g', a, c, e, _⟩ := hI.st
    exact ⟨g', e⟩
  have hgg := hgp g rfl
  clear hgp e0 c2 HNI
  have hC := HC.out.grown g2 (by simp)
  have hR := HR.out.grown g2 (by simp)
  have hN := HN.out.grown g2 (by simp)
  have hG := grown_trans HG1.out g2
  have HW2 := Lib.hid (show w.heap.size ≤ w2.heap.size ∧ B + 1 < w2.heap.size from ⟨hG.size, by have := g2.size; have := HB.out.2; omega⟩)
  have HGG := Lib.hid (show B + 2 < g from by have := HB.out.2; omega)
  have c2 : w2.cell? ⟨B, 2, none⟩ = some (.func (.func 73) #[] #[]) := hC.cell 2 (by decide)
  have HX := Lib.hid (HHT.out w2 g hG (by have := HG1.out.size; omega) hI)
  have HGW := Lib.hid hG
  clear hI g2 hgg HC HR HN HG1 HHT hG
  have HC := Lib.hid hC
  have HR := Lib.hid hR
  have HN := Lib.hid hN
  clear hC hR hN
  go_wp2_with fail
  go_at_call 73
  refine HX.out.mono ?_
  rintro e w3 ⟨v, rfl, hone, hs, hq⟩
  have HON := Lib.hid hone
  have HQ := Lib.hid hq
  have hC := HC.out.grown hs.gr (fun e => by have := HGG.out; have e : B = g := by simpa [rowP] using e
                                             omega)
  have hR := HR.out.grown hs.gr (fun e => by have := HGG.out; have e : B + 1 = g := by simpa [rowP] using e
                                             omega)
  have hN := HN.out.grown hs.gr (fun e => by have := HGG.out; have e : B + 2 = g := by simpa [rowP] using e
                                             omega)
  have hG : w.grownBy w3 none := grown_into HGW.out (show w2.grownBy w3 (some g) from hs.gr) (by have := HGG.out; have := HB.out.1; omega)
  have hX := RowAt.new w3 55 18 zeroRos _ zeroRos_row
  obtain ⟨k1, k2⟩ := RowAt.store (P := Try.prog) hX 0 55 18 v (by decide) (by kernel_rfl) (fun j _ => HON.out j)
  have gx : w3.grownBy ((w3.alloc (.cells #[.int .u8 0, .int .u8 0, .int .u8 0, .int .u8 0, .int .u8 0, .int .u8 0, .int .u8 0, .int .u8 0, .int .u8 0, .int .u8 0, .int .u8 0, .int .u8 0, .int .u8 0, .int .u8 0, .int .u8 0, .int .u8 0, .int .u64 0, .slice none 0 0] 55)).setCells w3.heap.size 0 (rowOf 18 v).toList) none := grown_setCells w3.heap.size (Or.inl (Nat.le_refl _)) _ 0 _ (World.grownBy_alloc w3 _ none)
  have hX := k2.congr (v' := v) fun i hi => by rw [if_pos ⟨Nat.zero_le _, by omega⟩, Nat.sub_zero]
  have hI := hs.st.grown0 gx
  have hC := hC.grown gx (by simp)
  have hR := hR.grown gx (by simp)
  have hN := hN.grown gx (by simp)
  have hG := grown_trans hG gx
  obtain ⟨X, hXX⟩ : ∃ X, X = w3.heap.size := ⟨_, rfl⟩
  have HLT := Lib.hid (show B + 2 < X by rw [hXX]; have := hs.st.ltS; have := HGG.out; omega)
  rw [← hXX] at k1 k2 gx hX hI hC hR hN hG
  have HS := Lib.hid k1
  have HXX := Lib.hid hXX
  clear hs k1 k2 hone hq hXX HC HR HN HX HGW c2
  have HC := Lib.hid hC
  have HR := Lib.hid hR
  have HN := Lib.hid hN
  have HX := Lib.hid hX
  have HI := Lib.hid hI
  have HG := Lib.hid hG
  have HGQ := Lib.hid gx
  clear hC hR hN hX hI hG gx
  go_upto_region 6 with (first | ((with_reducible refine wpList_here ?_); refine wpList_st (T := 55) (p := .pointer (some ⟨w3.heap.size, 0, none⟩)) (v := .agg (rowOf 18 v)) (.tmp 8) (.tmp 18) ?_ ?_ ?_ ?_ ?_ (by rw [← HXX.out]; exact HS.out) ?_; (· rfl); (· rfl); go_simp; (· kernel_rfl); (· kernel_rfl)))
  rw [← HXX.out]
  obtain ⟨w4, hw4⟩ : ∃ W, W = (w3.alloc (.cells #[.int .u8 0, .int .u8 0, .int .u8 0, .int .u8 0, .int .u8 0, .int .u8 0, .int .u8 0, .int .u8 0, .int .u8 0, .int .u8 0, .int .u8 0, .int .u8 0, .int .u8 0, .int .u8 0, .int .u8 0, .int .u8 0, .int .u64 0, .slice none 0 0] 55)).setCells X 0 (rowOf 18 v).toList := ⟨_, rfl⟩
  have hC := HC.out
  have hR := HR.out
  have hN := HN.out
  have hX := HX.out
  have hI := HI.out
  have hG := HG.out
  have hGQ := HGQ.out
  rw [← hw4] at hC hR hN hX hI hG hGQ ⊢
  clear HC HR HN HX HI HG HGQ hw4 HS
  have HE := Lib.hid (inEnd_any hI)
  have hcode := hI.code
  have HLX := Lib.hid (hX.load (P := Try.prog) 0 55 18 v (by decide) (fun j _ => by rw [Nat.zero_add]) (by kernel_rfl) (by kernel_rfl))
  have HLC := Lib.hid (hC.load (P := Try.prog) 0 47 3 codRos (by decide) (fun j _ => by rw [Nat.zero_add]) (by kernel_rfl) (by kernel_rfl))
  have HLN := Lib.hid (hN.load (P := Try.prog) 0 55 18 zeroRos (by decide) (fun j _ => by rw [Nat.zero_add]) (by kernel_rfl) (by kernel_rfl))
  have HG := Lib.hid hG
  have HGQ := Lib.hid hGQ
  clear hI hG hGQ
  obtain ⟨cd, hcd⟩ : ∃ x, x = s.code L := ⟨_, rfl⟩
  rw [← hcd] at hcode HE
  clear hcd
  obtain ⟨al, hal⟩ : ∃ x, x = s.all L := ⟨_, rfl⟩
  rw [← hal] at hcode HHM
  have HAL := Lib.hid hal
  clear hal
  have HR := Lib.hid hR
  have HC := Lib.hid hC
  have HN := Lib.hid hN
  have HX := Lib.hid hX
  clear hR hC hN hX
  go_wp2_with fail
  go_at_call 80
  refine HE.out.mono ?_
  rintro e w5 ⟨rfl, rfl⟩
  clear HE
  cases al with
  | false =>
    have hne : ¬ cd = 0 := hcode
    have HOK := Lib.hid (show (s.all L && m) = false by rw [← HAL.out]; rfl)
    clear hcode
    have hR := HR.out
    have hN := HN.out
    have hC := HC.out
    have hX := HX.out
    clear HR HN HC HX
    obtain ⟨k1, k2⟩ := RowAt.store (P := Try.prog) hR 0 55 18 zeroRos (by decide) (by kernel_rfl) (fun j _ => zeroRos_one j)
    obtain ⟨wz, hwz⟩ : ∃ W, W = w4.setCells (B + 1) 0 (rowOf 18 zeroRos).toList := ⟨_, rfl⟩
    rw [← hwz] at k1 k2
    have gz : w4.grownBy wz (some (B + 1)) := by rw [hwz]; exact grown_setCells (B + 1) (Or.inr rfl) _ 0 _ (grown_refl _ _)
    have HK := Lib.hid (k2.congr (v' := zeroRos) fun i hi => by rw [if_pos ⟨Nat.zero_le _, by omega⟩, Nat.sub_zero])
    have HS := Lib.hid k1
    have HGZ := Lib.hid (grown_into HG.out gz (by have := HB.out; omega))
    have HQZ := Lib.hid (grown_trans (grown_some (row := some (B + 1)) HGQ.out) gz)
    clear k1 k2 hwz gz hR hN hC hX
    go_wp2_with (first | ((with_reducible refine wpList_here ?_); refine wpList_ld (p := .pointer (some ⟨(B + 2), 0, none⟩)) 6 ?_ ?_ ?_ HLN.out ?_; (· rfl); go_simp; (· kernel_rfl)) | ((with_reducible refine wpList_here ?_); refine wpList_st (T := 55) (p := .pointer (some ⟨(B + 1), 0, none⟩)) (v := .agg (rowOf 18 zeroRos)) (.tmp 4) (.tmp 28) ?_ ?_ ?_ ?_ ?_ HS.out ?_; (· rfl); (· rfl); go_simp; (· kernel_rfl); (· kernel_rfl)))
    exact bodyPost_ret (res_rowAt2 rfl rfl rfl HK.out (by kernel_rfl) (by kernel_rfl)) rfl ⟨⟨v, w2, w3, B + 1, by first | rfl | (rw [HOK.out]; rfl), HW2.out.1, HQ.out, HW2.out.2, HQZ.out⟩, HGZ.out⟩
  | true =>
    obtain rfl : cd = 0 := hcode
    have HMY := Lib.hid (mayRos_any v m w4 (fun w6 h => HHM.out (by first | rfl | trivial) v w2 w3 w6 HQ.out (grown_trans HGQ.out h)))
    clear HHM
    go_wp2_with (first | ((with_reducible refine wpList_here ?_); refine wpList_ld (p := .pointer (some ⟨B, 0, none⟩)) 2 ?_ ?_ ?_ HLC.out ?_; (· rfl); go_simp; (· kernel_rfl)) | ((with_reducible refine wpList_here ?_); refine wpList_ld (p := .pointer (some ⟨X, 0, none⟩)) 8 ?_ ?_ ?_ HLX.out ?_; (· rfl); go_simp; (· kernel_rfl)))
    go_at_call 77
    refine HMY.out.mono ?_
    rintro e w6 ⟨rfl, g6⟩
    have hR := HR.out.grown g6 (by simp)
    have hN := HN.out.grown g6 (by simp)
    have hC := HC.out.grown g6 (by simp)
    have hX := HX.out.grown g6 (by simp)
    have HG2 := Lib.hid (grown_trans HG.out g6)
    have HGQ2 := Lib.hid (grown_trans HGQ.out g6)
    clear g6 HR HN HC HX HMY HLX HLN HLC HG HGQ
    have HG := HG2
    have HGQ := HGQ2
    clear HG2 HGQ2
    have HLX := Lib.hid (hX.load (P := Try.prog) 0 55 18 v (by decide) (fun j _ => by rw [Nat.zero_add]) (by kernel_rfl) (by kernel_rfl))
    have HLN := Lib.hid (hN.load (P := Try.prog) 0 55 18 zeroRos (by decide) (fun j _ => by rw [Nat.zero_add]) (by kernel_rfl) (by kernel_rfl))
    cases m with
    | false =>
      have HOK := Lib.hid (show (s.all L && false) = false by rw [← HAL.out]; rfl)
      obtain ⟨k1, k2⟩ := RowAt.store (P := Try.prog) hR 0 55 18 zeroRos (by decide) (by kernel_rfl) (fun j _ => zeroRos_one j)
      obtain ⟨wz, hwz⟩ : ∃ W, W = w6.setCells (B + 1) 0 (rowOf 18 zeroRos).toList := ⟨_, rfl⟩
      rw [← hwz] at k1 k2
      have gz : w6.grownBy wz (some (B + 1)) := by rw [hwz]; exact grown_setCells (B + 1) (Or.inr rfl) _ 0 _ (grown_refl _ _)
      have HK := Lib.hid (k2.congr (v' := zeroRos) fun i hi => by rw [if_pos ⟨Nat.zero_le _, by omega⟩, Nat.sub_zero])
      have HS := Lib.hid k1
      have HGZ := Lib.hid (grown_into HG.out gz (by have := HB.out; omega))
      have HQZ := Lib.hid (grown_trans (grown_some (row := some (B + 1)) HGQ.out) gz)
      clear k1 k2 hwz gz hR hN hC hX
      go_wp2_with (first | ((with_reducible refine wpList_here ?_); refine wpList_ld (p := .pointer (some ⟨(B + 2), 0, none⟩)) 6 ?_ ?_ ?_ HLN.out ?_; (· rfl); go_simp; (· kernel_rfl)) | ((with_reducible refine wpList_here ?_); refine wpList_st (T := 55) (p := .pointer (some ⟨(B + 1), 0, none⟩)) (v := .agg (rowOf 18 zeroRos)) (.tmp 4) (.tmp 28) ?_ ?_ ?_ ?_ ?_ HS.out ?_; (· rfl); (· rfl); go_simp; (· kernel_rfl); (· kernel_rfl)))
      exact bodyPost_ret (res_rowAt2 rfl rfl rfl HK.out (by kernel_rfl) (by kernel_rfl)) rfl ⟨⟨v, w2, w3, B + 1, by first | rfl | (rw [HOK.out]; rfl), HW2.out.1, HQ.out, HW2.out.2, HQZ.out⟩, HGZ.out⟩
    | true =>
      have HOK := Lib.hid (show (s.all L && true) = true by rw [← HAL.out]; rfl)
      obtain ⟨k1, k2⟩ := RowAt.store (P := Try.prog) hR 0 55 18 v (by decide) (by kernel_rfl) (fun j _ => HON.out j)
      obtain ⟨wz, hwz⟩ : ∃ W, W = w6.setCells (B + 1) 0 (rowOf 18 v).toList := ⟨_, rfl⟩
      rw [← hwz] at k1 k2
      have gz : w6.grownBy wz (some (B + 1)) := by rw [hwz]; exact grown_setCells (B + 1) (Or.inr rfl) _ 0 _ (grown_refl _ _)
      have HK := Lib.hid (k2.congr (v' := v) fun i hi => by rw [if_pos ⟨Nat.zero_le _, by omega⟩, Nat.sub_zero])
      have HS := Lib.hid k1
      have HGZ := Lib.hid (grown_into HG.out gz (by have := HB.out; omega))
      have HQZ := Lib.hid (grown_trans (grown_some (row := some (B + 1)) HGQ.out) gz)
      clear k1 k2 hwz gz hR hN hC hX
      go_wp2_with (first | ((with_reducible refine wpList_here ?_); refine wpList_ld (p := .pointer (some ⟨X, 0, none⟩)) 8 ?_ ?_ ?_ HLX.out ?_; (· rfl); go_simp; (· kernel_rfl)) | ((with_reducible refine wpList_here ?_); refine wpList_st (T := 55) (p := .pointer (some ⟨(B + 1), 0, none⟩)) (v := .agg (rowOf 18 v)) (.tmp 4) (.tmp 29) ?_ ?_ ?_ ?_ ?_ HS.out ?_; (· rfl); (· rfl); go_simp; (· kernel_rfl); (· kernel_rfl)))
      exact bodyPost_ret (res_rowAt2 rfl rfl rfl HK.out (by kernel_rfl) (by kernel_rfl)) rfl ⟨⟨v, w2, w3, B + 1, by first | rfl | (rw [HOK.out]; rfl), HW2.out.1, HQ.out, HW2.out.2, HQZ.out⟩, HGZ.out⟩
end Go.Proofs.Ytdamlgnloecplaa
namespace Go.Proofs.Ytdamlgnloecplaa
open Go.RowKit

set_option maxRecDepth 100000
set_option maxHeartbeats 4000000

def nilC (_ : Nat) : Value := .nilFunc
theorem nil_eql (w : World) : (binOp .eql 60 .nilFunc .nilFunc).run Try.prog w = .ok (.bool true) w := by kernel_rfl
theorem nil_eql2 (w : World) : (binOp .eql 61 .nilFunc .nilFunc).run Try.prog w = .ok (.bool true) w := by kernel_rfl
theorem nil_neq (w : World) : (binOp .neq 59 .nilFunc .nilFunc).run Try.prog w = .ok (.bool false) w := by kernel_rfl
theorem nilPut_any (v : Nat → Value) (w : World) : Calls Try.prog 14 #[.agg (rowOf 3 nilC), .agg (rowOf 52 v)] w fun e w' => e = .returned (.tuple #[.slice none 0 0, .int .i64 1]) ∧ w.grownBy w' none := by
  have ga := World.grownBy_alloc w (.cells (rowOf 3 nilC) 63) none
  have hC := RowAt.new w 63 3 nilC _ rfl
  have gb := World.grownBy_alloc (w.alloc (.cells (rowOf 3 nilC) 63)) (.cells (rowOf 52 v) 66) none
  have hC := hC.grown gb (by simp)
  have HG := Lib.hid (grown_trans ga gb)
  clear ga gb
  have c1 : ((w.alloc (.cells (rowOf 3 nilC) 63)).alloc (.cells (rowOf 52 v) 66)).cell? ⟨w.heap.size, 1, none⟩ = some .nilFunc := hC.cell 1 (by decide)
  have e0 := nil_eql ((w.alloc (.cells (rowOf 3 nilC) 63)).alloc (.cells (rowOf 52 v) 66))
  clear hC
  go_enter Try.func14, Try.ntmps14
  go_wp2_with fail
  go_ret2
  exact ⟨rfl, HG.out⟩
theorem nilMay_any (v : Nat → Value) (w : World) : Calls Try.prog 17 #[.agg (rowOf 3 nilC), .agg (rowOf 52 v)] w fun e w' => e = .returned (.bool false) ∧ w.grownBy w' none := by
  have ga := World.grownBy_alloc w (.cells (rowOf 3 nilC) 63) none
  have hC := RowAt.new w 63 3 nilC _ rfl
  have gb := World.grownBy_alloc (w.alloc (.cells (rowOf 3 nilC) 63)) (.cells (rowOf 52 v) 66) none
  have hC := hC.grown gb (by simp)
  have HG := Lib.hid (grown_trans ga gb)
  clear ga gb
  have c0 : ((w.alloc (.cells (rowOf 3 nilC) 63)).alloc (.cells (rowOf 52 v) 66)).cell? ⟨w.heap.size, 0, none⟩ = some .nilFunc := hC.cell 0 (by decide)
  have e0 := nil_neq ((w.alloc (.cells (rowOf 3 nilC) 63)).alloc (.cells (rowOf 52 v) 66))
  clear hC
  go_enter Try.func17, Try.ntmps17
  go_wp2_with fail
  go_ret
  exact ⟨rfl, HG.out⟩
theorem nilTake_any (v : Value) (w : World) : Calls Try.prog 15 #[.agg (rowOf 3 nilC), v] w fun e w' => (∃ u, e = .returned (.tuple #[.agg (rowOf 52 u), .int .i64 1]) ∧ ∀ j, (u j).oneCell' = true) ∧ w.grownBy w' none := by
  have ga := World.grownBy_alloc w (.cells (rowOf 3 nilC) 63) none
  have hz1 := World.size_alloc w (.cells (rowOf 3 nilC) 63)
  have hC := RowAt.new w 63 3 nilC _ rfl
  have gb := World.grownBy_alloc (w.alloc (.cells (rowOf 3 nilC) 63)) (.cells #[.int .u8 0, .int .u8 0, .int .u8 0, .int .u8 0, .int .u8 0, .int .u8 0, .int .u8 0, .int .u8 0, .int .u8 0, .int .u8 0, .int .u8 0, .int .u8 0, .int .u8 0, .int .u8 0, .int .u8 0, .int .u8 0, .int .u64 0, .int .u8 0, .int .u8 0, .int .u64 0, .int .u8 0, .int .u8 0, .int .u8 0, .int .u8 0, .int .u8 0, .int .u8 0, .int .u8 0, .int .u8 0, .int .u8 0, .int .u8 0, .int .u8 0, .int .u8 0, .int .u8 0, .int .u8 0, .int .u8 0, .int .u8 0, .int .u8 0, .int .u8 0, .int .u8 0, .int .u8 0, .int .u8 0, .int .u8 0, .int .u8 0, .int .u8 0, .int .u8 0, .int .u8 0, .int .u8 0, .int .u8 0, .int .u8 0, .int .u8 0, .int .u8 0, .int .u8 0] 66) none
  have hz2 := World.size_alloc (w.alloc (.cells (rowOf 3 nilC) 63)) (.cells #[.int .u8 0, .int .u8 0, .int .u8 0, .int .u8 0, .int .u8 0, .int .u8 0, .int .u8 0, .int .u8 0, .int .u8 0, .int .u8 0, .int .u8 0, .int .u8 0, .int .u8 0, .int .u8 0, .int .u8 0, .int .u8 0, .int .u64 0, .int .u8 0, .int .u8 0, .int .u64 0, .int .u8 0, .int .u8 0, .int .u8 0, .int .u8 0, .int .u8 0, .int .u8 0, .int .u8 0, .int .u8 0, .int .u8 0, .int .u8 0, .int .u8 0, .int .u8 0, .int .u8 0, .int .u8 0, .int .u8 0, .int .u8 0, .int .u8 0, .int .u8 0, .int .u8 0, .int .u8 0, .int .u8 0, .int .u8 0, .int .u8 0, .int .u8 0, .int .u8 0, .int .u8 0, .int .u8 0, .int .u8 0, .int .u8 0, .int .u8 0, .int .u8 0, .int .u8 0] 66)
  have hR := RowAt.new (w.alloc (.cells (rowOf 3 nilC) 63)) 66 52 zeroDist _ zeroDist_row
  have gc := World.grownBy_alloc ((w.alloc (.cells (rowOf 3 nilC) 63)).alloc (.cells #[.int .u8 0, .int .u8 0, .int .u8 0, .int .u8 0, .int .u8 0, .int .u8 0, .int .u8 0, .int .u8 0, .int .u8 0, .int .u8 0, .int .u8 0, .int .u8 0, .int .u8 0, .int .u8 0, .int .u8 0, .int .u8 0, .int .u64 0, .int .u8 0, .int .u8 0, .int .u64 0, .int .u8 0, .int .u8 0, .int .u8 0, .int .u8 0, .int .u8 0, .int .u8 0, .int .u8 0, .int .u8 0, .int .u8 0, .int .u8 0, .int .u8 0, .int .u8 0, .int .u8 0, .int .u8 0, .int .u8 0, .int .u8 0, .int .u8 0, .int .u8 0, .int .u8 0, .int .u8 0, .int .u8 0, .int .u8 0, .int .u8 0, .int .u8 0, .int .u8 0, .int .u8 0, .int .u8 0, .int .u8 0, .int .u8 0, .int .u8 0, .int .u8 0, .int .u8 0] 66)) (.cells #[.int .u8 0, .int .u8 0, .int .u8 0, .int .u8 0, .int .u8 0, .int .u8 0, .int .u8 0, .int .u8 0, .int .u8 0, .int .u8 0, .int .u8 0, .int .u8 0, .int .u8 0, .int .u8 0, .int .u8 0, .int .u8 0, .int .u64 0, .int .u8 0, .int .u8 0, .int .u64 0, .int .u8 0, .int .u8 0, .int .u8 0, .int .u8 0, .int .u8 0, .int .u8 0, .int .u8 0, .int .u8 0, .int .u8 0, .int .u8 0, .int .u8 0, .int .u8 0, .int .u8 0, .int .u8 0, .int .u8 0, .int .u8 0, .int .u8 0, .int .u8 0, .int .u8 0, .int .u8 0, .int .u8 0, .int .u8 0, .int .u8 0, .int .u8 0, .int .u8 0, .int .u8 0, .int .u8 0, .int .u8 0, .int .u8 0, .int .u8 0, .int .u8 0, .int .u8 0] 66) none
  have hN := RowAt.new ((w.alloc (.cells (rowOf 3 nilC) 63)).alloc (.cells #[.int .u8 0, .int .u8 0, .int .u8 0, .int .u8 0, .int .u8 0, .int .u8 0, .int .u8 0, .int .u8 0, .int .u8 0, .int .u8 0, .int .u8 0, .int .u8 0, .int .u8 0, .int .u8 0, .int .u8 0, .int .u8 0, .int .u64 0, .int .u8 0, .int .u8 0, .int .u64 0, .int .u8 0, .int .u8 0, .int .u8 0, .int .u8 0, .int .u8 0, .int .u8 0, .int .u8 0, .int .u8 0, .int .u8 0, .int .u8 0, .int .u8 0, .int .u8 0, .int .u8 0, .int .u8 0, .int .u8 0, .int .u8 0, .int .u8 0, .int .u8 0, .int .u8 0, .int .u8 0, .int .u8 0, .int .u8 0, .int .u8 0, .int .u8 0, .int .u8 0, .int .u8 0, .int .u8 0, .int .u8 0, .int .u8 0, .int .u8 0, .int .u8 0, .int .u8 0] 66)) 66 52 zeroDist _ zeroDist_row
  rw [hz2, hz1] at hN
  rw [hz1] at hR
  have hC := (hC.grown gb (by simp)).grown gc (by simp)
  have hR := hR.grown gc (by simp)
  have hG := grown_trans (grown_trans ga gb) gc
  clear ga gb gc hz1 hz2
  go_enter Try.func15, Try.ntmps15
  go_upto_region 2 with fail
  obtain ⟨B, hB⟩ : ∃ B, B = w.heap.size := ⟨_, rfl⟩
  rw [← hB] at hC hR hN ⊢
  generalize ((w.alloc (.cells (rowOf 3 nilC) 63)).alloc (.cells #[.int .u8 0, .int .u8 0, .int .u8 0, .int .u8 0, .int .u8 0, .int .u8 0, .int .u8 0, .int .u8 0, .int .u8 0, .int .u8 0, .int .u8 0, .int .u8 0, .int .u8 0, .int .u8 0, .int .u8 0, .int .u8 0, .int .u64 0, .int .u8 0, .int .u8 0, .int .u64 0, .int .u8 0, .int .u8 0, .int .u8 0, .int .u8 0, .int .u8 0, .int .u8 0, .int .u8 0, .int .u8 0, .int .u8 0, .int .u8 0, .int .u8 0, .int .u8 0, .int .u8 0, .int .u8 0, .int .u8 0, .int .u8 0, .int .u8 0, .int .u8 0, .int .u8 0, .int .u8 0, .int .u8 0, .int .u8 0, .int .u8 0, .int .u8 0, .int .u8 0, .int .u8 0, .int .u8 0, .int .u8 0, .int .u8 0, .int .u8 0, .int .u8 0, .int .u8 0] 66)).alloc (.cells #[.int .u8 0, .int .u8 0, .int .u8 0, .int .u8 0, .int .u8 0, .int .u8 0, .int .u8 0, .int .u8 0, .int .u8 0, .int .u8 0, .int .u8 0, .int .u8 0, .int .u8 0, .int .u8 0, .int .u8 0, .int .u8 0, .int .u64 0, .int .u8 0, .int .u8 0, .int .u64 0, .int .u8 0, .int .u8 0, .int .u8 0, .int .u8 0, .int .u8 0, .int .u8 0, .int .u8 0, .int .u8 0, .int .u8 0, .int .u8 0, .int .u8 0, .int .u8 0, .int .u8 0, .int .u8 0, .int .u8 0, .int .u8 0, .int .u8 0, .int .u8 0, .int .u8 0, .int .u8 0, .int .u8 0, .int .u8 0, .int .u8 0, .int .u8 0, .int .u8 0, .int .u8 0, .int .u8 0, .int .u8 0, .int .u8 0, .int .u8 0, .int .u8 0, .int .u8 0] 66) = w1 at *
  have HB := Lib.hid hB
  clear hB
  have c2 : w1.cell? ⟨B, 2, none⟩ = some .nilFunc := hC.cell 2 (by decide)
  have e0 := nil_eql2 w1
  have HLN := Lib.hid (hN.load (P := Try.prog) 0 66 52 zeroDist (by decide) (fun j _ => by rw [Nat.zero_add]) (by kernel_rfl) (by kernel_rfl))
  obtain ⟨k1, k2⟩ := RowAt.store (P := Try.prog) hR 0 66 52 zeroDist (by decide) (by kernel_rfl) (fun j _ => zeroDist_one j)
  obtain ⟨wz, hwz⟩ : ∃ W, W = w1.setCells (B + 1) 0 (rowOf 52 zeroDist).toList := ⟨_, rfl⟩
  rw [← hwz] at k1 k2
  have gz : w1.grownBy wz (some (B + 1)) := by rw [hwz]; exact grown_setCells (B + 1) (Or.inr rfl) _ 0 _ (grown_refl _ _)
  have HK := Lib.hid (k2.congr (v' := zeroDist) fun i hi => by rw [if_pos ⟨Nat.zero_le _, by omega⟩, Nat.sub_zero])
  have HS := Lib.hid k1
  have HGZ := Lib.hid (grown_into hG gz (by have := HB.out; omega))
  clear k1 k2 hwz gz hR hN hC hG
  go_wp2_with (first | ((with_reducible refine wpList_here ?_); refine wpList_ld (p := .pointer (some ⟨(B + 2), 0, none⟩)) 6 ?_ ?_ ?_ HLN.out ?_; (· rfl); go_simp; (· kernel_rfl)) | ((with_reducible refine wpList_here ?_); refine wpList_st (T := 66) (p := .pointer (some ⟨(B + 1), 0, none⟩)) (v := .agg (rowOf 52 zeroDist)) (.tmp 4) (.tmp 12) ?_ ?_ ?_ ?_ ?_ HS.out ?_; (· rfl); (· rfl); go_simp; (· kernel_rfl); (· kernel_rfl)))
  exact bodyPost_ret (res_rowAt2 rfl rfl rfl HK.out (by kernel_rfl) (by kernel_rfl)) rfl ⟨⟨zeroDist, rfl, zeroDist_one⟩, HGZ.out⟩
def twoM (i j : Nat) : Nat := if i = 0 ∧ j = 1 then 1 else 0
theorem twoM_rd (w : World) : RdD (w.alloc (.cells #[.int .u8 0, .int .u8 1, .int .u8 0, .int .u8 0] 33)) (w.heap.size + 1) (some ⟨w.heap.size, 0, none⟩) 2 twoM := ⟨fun _ => ⟨w.heap.size, 0, rfl, Nat.lt_succ_self _, fun i j hi hj => by
  have hi2 : i = 0 ∨ i = 1 := by omega
  have hj2 : j = 0 ∨ j = 1 := by omega
  rcases hi2 with rfl | rfl <;> rcases hj2 with rfl | rfl <;> (rw [cell_of_row _ _ _ _ _ _ (heap_alloc_new w _)]; rfl)⟩⟩
structure Known (w : World) (e : Ending) (w' : World) : Prop where
  ex : e = .returned (.bool true)
  gr : w.grownBy w' none
theorem DistKnown_any (w : World) : Calls Try.prog 3 #[] w (Known w) := by
  have H1 := Lib.hid (codEnv_any w)
  go_enter Try.func3, Try.ntmps3
  go_wp2_with fail
  go_at_call 8
  refine H1.out.mono ?_
  rintro e w1 ⟨rfl, g1⟩
  have H2 := Lib.hid (putEnv_any zeroEnv false 0 (fun _ => 0) w1 (fun w2 _ => envMay_any _ w2) (fun h => by cases h))
  rw [← zeroEnv_row] at H2
  have G1 := Lib.hid g1
  clear g1 H1
  go_wp2_with fail
  go_at_call 9
  refine H2.out.mono ?_
  rintro e w2 ⟨⟨a2, c2, rfl, -⟩, g2⟩
  have G2 := Lib.hid (grown_trans G1.out g2)
  have H3 := Lib.hid (codRos_any w2)
  clear g2 H2
  go_wp2_with fail
  go_at_call 10
  refine H3.out.mono ?_
  rintro e w3 ⟨rfl, g3⟩
  have gA := World.grownBy_alloc w3 (.cells #[.int .u8 0, .int .u8 1, .int .u8 0, .int .u8 0] 33) none
  have H4 := Lib.hid (putRos_any (RV.mk (fun _ => 0) 0 (some ⟨w3.heap.size, 0, none⟩) 2 2).v false 0 (fun _ => 0) (w3.alloc (.cells #[.int .u8 0, .int .u8 1, .int .u8 0, .int .u8 0] 33)) (fun w4 h4 => (rosMay_any (w3.heap.size + 1) (RV.mk (fun _ => 0) 0 (some ⟨w3.heap.size, 0, none⟩) 2 2) twoM w4 ((twoM_rd w3).grown h4 (fun k e => by cases e)) (by show 2 ≤ 1048576; decide)).mono fun e w' h => ⟨h.1.trans (by rw [show memMay 2 twoM = false by decide]), h.2⟩) (fun h => by cases h))
  rw [show rowOf 18 (RV.mk (fun _ => 0) 0 (some ⟨w3.heap.size, 0, none⟩) 2 2).v = #[.int .u8 0, .int .u8 0, .int .u8 0, .int .u8 0, .int .u8 0, .int .u8 0, .int .u8 0, .int .u8 0, .int .u8 0, .int .u8 0, .int .u8 0, .int .u8 0, .int .u8 0, .int .u8 0, .int .u8 0, .int .u8 0, .int .u64 0, .slice (some ⟨w3.heap.size, 0, none⟩) 2 2] by kernel_rfl] at H4
  have G3 := Lib.hid (grown_trans (grown_trans G2.out g3) gA)
  clear g3 gA H3
  go_wp2_with fail
  go_at_call 11
  refine H4.out.mono ?_
  rintro e w4 ⟨⟨a4, c4, rfl, -⟩, g4⟩
  have G4 := Lib.hid (grown_trans G3.out g4)
  have H5 := Lib.hid (pay_any 0 4 0 0 none (fun _ => 0) w4 ⟨fun h => absurd h (by decide)⟩ (by decide))
  clear g4 H4
  go_wp2_with fail
  go_at_call 12
  refine H5.out.mono ?_
  rintro e w5 ⟨⟨a5, c5, rfl, -⟩, g5⟩
  have e5 : payMay 4 0 = false := by decide
  rw [e5]
  have G5 := Lib.hid (grown_trans G4.out g5)
  have H6 := Lib.hid (paid_any 0 0 0 none (fun _ => 0) w5 ⟨fun h => absurd h (by decide)⟩ (by decide) (by decide))
  clear g5 H5 e5
  go_wp2_with fail
  go_at_call 13
  refine H6.out.mono ?_
  rintro e w6 ⟨⟨a6, c6, rfl, -⟩, g6⟩
  have e6 : paidOk 0 (fun _ => 0) = false := by decide
  rw [e6]
  have G6 := Lib.hid (grown_trans G5.out g6)
  have gN := World.grownBy_alloc w6 (.cells #[.nilFunc, .nilFunc, .nilFunc] 63) none
  have hN := RowAt.new w6 63 3 nilC #[.nilFunc, .nilFunc, .nilFunc] rfl
  clear g6 H6 e6
  go_upto_region 6 with fail
  obtain ⟨B, hB⟩ : ∃ B, B = w6.heap.size := ⟨_, rfl⟩
  rw [← hB] at hN ⊢
  generalize w6.alloc (.cells #[.nilFunc, .nilFunc, .nilFunc] 63) = w7 at *
  have G7 := Lib.hid (grown_trans G6.out gN)
  have HN := Lib.hid hN
  clear hB gN hN
  have HL := Lib.hid (fun W (h : w7.grownBy W none) => (HN.out.grown h (by simp)).load (P := Try.prog) 0 63 3 nilC (by decide) (fun j _ => by rw [Nat.zero_add]) (by kernel_rfl) (by kernel_rfl))
  have HL7 := Lib.hid (HL.out w7 (grown_refl _ _))
  have H8 := Lib.hid (nilPut_any zeroDist w7)
  rw [← zeroDist_row] at H8
  go_wp2_with (first | ((with_reducible refine wpList_here ?_); refine wpList_ld (p := .pointer (some ⟨B, 0, none⟩)) 10 ?_ ?_ ?_ HL7.out ?_; (· rfl); go_simp; (· kernel_rfl)))
  go_at_call 14
  refine H8.out.mono ?_
  rintro e w8 ⟨rfl, g8⟩
  have G8 := Lib.hid (grown_trans G7.out g8)
  have HL8 := Lib.hid (HL.out w8 g8)
  have G78 := Lib.hid g8
  have H9 := Lib.hid (nilTake_any (.slice none 0 0) w8)
  clear g8 H8 HL7
  go_wp2_with (first | ((with_reducible refine wpList_here ?_); refine wpList_ld (p := .pointer (some ⟨B, 0, none⟩)) 10 ?_ ?_ ?_ HL8.out ?_; (· rfl); go_simp; (· kernel_rfl)))
  go_at_call 15
  refine H9.out.mono ?_
  rintro e w9 ⟨⟨u, rfl, hu⟩, g9⟩
  have gx := World.grownBy_alloc w9 (.cells #[.int .u8 0, .int .u8 0, .int .u8 0, .int .u8 0, .int .u8 0, .int .u8 0, .int .u8 0, .int .u8 0, .int .u8 0, .int .u8 0, .int .u8 0, .int .u8 0, .int .u8 0, .int .u8 0, .int .u8 0, .int .u8 0, .int .u64 0, .int .u8 0, .int .u8 0, .int .u64 0, .int .u8 0, .int .u8 0, .int .u8 0, .int .u8 0, .int .u8 0, .int .u8 0, .int .u8 0, .int .u8 0, .int .u8 0, .int .u8 0, .int .u8 0, .int .u8 0, .int .u8 0, .int .u8 0, .int .u8 0, .int .u8 0, .int .u8 0, .int .u8 0, .int .u8 0, .int .u8 0, .int .u8 0, .int .u8 0, .int .u8 0, .int .u8 0, .int .u8 0, .int .u8 0, .int .u8 0, .int .u8 0, .int .u8 0, .int .u8 0, .int .u8 0, .int .u8 0] 66) none
  have hX := RowAt.new w9 66 52 zeroDist _ zeroDist_row
  have k1 := (RowAt.store (P := Try.prog) hX 0 66 52 u (by decide) (by kernel_rfl) (fun j _ => hu j)).1
  have gX := grown_setCells (w0 := w9) w9.heap.size (Or.inl (Nat.le_refl _)) (rowOf 52 u).toList 0 _ gx
  obtain ⟨wA, hwA⟩ : ∃ W, W = (w9.alloc (.cells #[.int .u8 0, .int .u8 0, .int .u8 0, .int .u8 0, .int .u8 0, .int .u8 0, .int .u8 0, .int .u8 0, .int .u8 0, .int .u8 0, .int .u8 0, .int .u8 0, .int .u8 0, .int .u8 0, .int .u8 0, .int .u8 0, .int .u64 0, .int .u8 0, .int .u8 0, .int .u64 0, .int .u8 0, .int .u8 0, .int .u8 0, .int .u8 0, .int .u8 0, .int .u8 0, .int .u8 0, .int .u8 0, .int .u8 0, .int .u8 0, .int .u8 0, .int .u8 0, .int .u8 0, .int .u8 0, .int .u8 0, .int .u8 0, .int .u8 0, .int .u8 0, .int .u8 0, .int .u8 0, .int .u8 0, .int .u8 0, .int .u8 0, .int .u8 0, .int .u8 0, .int .u8 0, .int .u8 0, .int .u8 0, .int .u8 0, .int .u8 0, .int .u8 0, .int .u8 0] 66)).setCells w9.heap.size 0 (rowOf 52 u).toList := ⟨_, rfl⟩
  rw [← hwA] at gX k1
  have HS := Lib.hid k1
  have GA := Lib.hid (grown_trans (grown_trans G8.out g9) gX)
  have G7A := Lib.hid (grown_trans (grown_trans G78.out g9) gX)
  clear k1 gx gX hX g9 H9 HL8 hu hwA
  go_upto_region 8 with (first | ((with_reducible refine wpList_here ?_); refine wpList_st (T := 66) (p := .pointer (some ⟨w9.heap.size, 0, none⟩)) (v := .agg (rowOf 52 u)) (.tmp 13) (.tmp 48) ?_ ?_ ?_ ?_ ?_ (by exact HS.out) ?_; (· rfl); (· rfl); go_simp; (· kernel_rfl); (· kernel_rfl)))
  clear HS
  have HW := Lib.hid (works_any wA)
  go_wp2_with fail
  go_at_call 16
  refine HW.out.mono ?_
  rintro e wB ⟨rfl, gB⟩
  have HLB := Lib.hid (HL.out wB (grown_trans G7A.out gB))
  have HM := Lib.hid (nilMay_any zeroDist wB)
  rw [← zeroDist_row] at HM
  have GB := Lib.hid (grown_trans GA.out gB)
  clear gB HW
  go_wp2_with (first | ((with_reducible refine wpList_here ?_); refine wpList_ld (p := .pointer (some ⟨B, 0, none⟩)) 10 ?_ ?_ ?_ HLB.out ?_; (· rfl); go_simp; (· kernel_rfl)))
  go_at_call 17
  refine HM.out.mono ?_
  rintro e wC ⟨rfl, gC⟩
  have GC := Lib.hid (grown_trans GB.out gC)
  clear gC HM HLB
  go_wp2_with fail
  go_ret
  exact ⟨rfl, GC.out⟩
end Go.Proofs.Ytdamlgnloecplaa
namespace Go.Proofs.Ytdamlgnloecplaa
open Go.ChangeShapes Go.WideShapes Go.ChangeAt Go.RowKit

theorem getElem?_of_take_drop {α : Type} (l : List α) (i : Nat) (x : α) (h : (l.drop i).take 1 = [x]) : l[i]? = some x := by
  have h1 : ((l.drop i).take 1)[0]? = some x := by rw [h]; rfl
  simpa using h1

/-- A table of numbers, read. -/
theorem ints_of_trod {H : Type} {enc : TypeId × Value → H} {P : Program} {w : World} {base : Nat} {spare : Nat → Bool} {held : Bool} {fuel : Nat} {t e : TypeId} {k : IntKind} {n : Nat} {cs : List Value} {d : DataW H} {ps : List MemPlace} (L : List Int)
    (ht : P.underlying t = some (.array n e)) (he : P.underlying e = some (.int k)) (hc : P.cellsOf e = 1) (hd : DataW.trod enc P w base spare held fuel t cs = some (d, ps)) (hx : d = .agg (L.map fun z => .lit (.int k z))) :
    ∀ i, i < n → cs[i]? = some (.int k (L.getD i 0)) := by
  subst hx
  obtain ⟨xs, m, rfl, hx, _, hn, hel⟩ := DataW.trod_array ht hd
  intro i hi
  have h1 := hel i hi
  rw [hc, Nat.mul_one] at h1
  have hxi : xs[i]? = some xs[i] := List.getElem?_eq_getElem (by omega)
  rw [hxi] at h1
  obtain ⟨q, e1, e2, _⟩ := DataW.trod_int he h1
  have h2 : L.map (fun z => (DataW.lit (.int k z) : DataW H)) = xs.map (·.1) := by
    have := congrArg Prod.fst hx
    simpa using this
  have h3 : (L.map (fun z => (DataW.lit (.int k z) : DataW H)))[i]? = some (.lit (.int k q)) := by
    rw [h2]; simp [hxi, e2]
  have h4 : L[i]? = some q := by
    rw [List.getElem?_map] at h3
    cases hL : L[i]? with
    | none => rw [hL] at h3; cases h3
    | some z => rw [hL] at h3; simpa using h3
  rw [List.getD, h4]
  exact getElem?_of_take_drop cs i _ e1

theorem own : ownKnob Try.prog.godebug = none := by kernel_rfl
theorem laidOut : laidOutB Try.prog = true := by kernel_rfl

end Go.Proofs.Ytdamlgnloecplaa
namespace Go.Proofs.Ytdamlgnloecplaa
open Go.ChangeShapes Go.WideShapes Go.ChangeAt Go.RowKit

section
variable {H : Type} {enc : TypeId × Value → H} {P : Program}

theorem open_arr8 {W : World} {t e : TypeId} {n : Nat} {r : Reach} {b0 : Nat} {v : Value} {d : DataW H} {ps : List MemPlace} (ht : P.underlying t = some (.array n e)) (he : P.underlying e = some (.int .u8)) (hc : P.cellsOf e = 1) (hn : P.cellsOf t = n)
    (hval : Value.okWide P W r b0 t v) (h : DataW.Trod enc P W 0 (fun _ => true) true t v d ps) : ∃ f, v = .agg (cellsOf .u8 n f) ∧ ∀ i, f i < 256 := by
  have hv := hval
  simp only [Value.okWide, ht] at hv
  obtain ⟨cs, rfl, hs, _⟩ := hv
  obtain ⟨fuel, hf⟩ := h
  obtain ⟨xs, m, rfl, _, hl, _, hel⟩ := DataW.trod_array ht hf
  have key : ∀ i, i < n → ∃ q : Nat, q < 256 ∧ cs[i]? = some (.int .u8 q) := fun i hi => by
    have h1 := hel i hi
    rw [hc, Nat.mul_one] at h1
    cases hx : xs[i]? with
    | none =>
      rw [hx] at h1
      have hlen : i < cs.toList.length := by
        have : cs.size = n := by rw [hs, hn]
        simp [this]; exact hi
      exfalso
      rename_i hxl
      have : xs.length ≤ i := by simpa using hx
      omega
    | some x =>
      rw [hx] at h1
      obtain ⟨q, e1, _, hw⟩ := DataW.trod_int he h1
      have h2 := getElem?_of_take_drop _ i _ e1
      simp [Lit.wf, IntKind.min, IntKind.max, IntKind.bits, IntKind.signed] at hw
      refine ⟨q.toNat, by omega, ?_⟩
      have e2 : ((q.toNat : Nat) : Int) = q := by omega
      rw [e2]
      simpa [Value.cells] using h2
  refine ⟨fun i => (match cs[i]? with | some (.int _ q) => q.toNat | _ => 0) % 256, ?_, fun i => Nat.mod_lt _ (by decide)⟩
  congr 1
  apply Array.ext
  · rw [cellsOf_size, hs, hn]
  · intro i h1 h2
    have hi : i < n := by rwa [hs, hn] at h1
    obtain ⟨q, hq, hcq⟩ := key i hi
    have e1 := cellsOf_get .u8 n (fun i => (match cs[i]? with | some (.int _ q) => q.toNat | _ => 0) % 256) i hi
    rw [Array.getElem?_eq_getElem h2] at e1
    rw [Array.getElem?_eq_getElem h1] at hcq
    injection e1 with e1
    injection hcq with hcq'
    rw [e1, hcq']
    simp only [Array.getElem?_eq_getElem h1, hcq']
    congr 1
    simp; omega

/-- A byte that comes in. -/
theorem open_u8 {W : World} {t : TypeId} {r : Reach} {b0 : Nat} {v : Value} {d : DataW H} {ps : List MemPlace} (ht : P.underlying t = some (.int .u8))
    (hval : Value.okWide P W r b0 t v) (h : DataW.Trod enc P W 0 (fun _ => true) true t v d ps) : ∃ n : Nat, v = .int .u8 n ∧ n < 256 := by
  obtain ⟨x, rfl, _, _, hx⟩ := open_int ht hval h
  simp [Lit.wf, IntKind.min, IntKind.max, IntKind.bits, IntKind.signed] at hx
  exact ⟨x.toNat, by rw [show ((x.toNat : Nat) : Int) = x by omega], by omega⟩

end
end Go.Proofs.Ytdamlgnloecplaa
namespace Go.Proofs.Ytdamlgnloecplaa
open Go.ChangeShapes Go.WideShapes Go.ChangeAt Go.RowKit

set_option maxRecDepth 100000

section
variable {H : Type} {enc : TypeId × Value → H} {P : Program}
theorem at_drop {cs : List Value} {i : Nat} {v : Value} (h : (cs.drop i).take 1 = [v]) : cs[i]? = some v := getElem?_of_take_drop _ i _ h
/-- A slice of numbers, out of its cell. -/
theorem open_numsW {W : World} {t e : TypeId} {k : IntKind} {fuel : Nat} {cs : List Value} {x : DataW H × List MemPlace} (ht : P.underlying t = some (.slice e)) (he : P.underlying e = some (.int k)) (hc : P.cellsOf e = 1) (h0 : (Lit.int k 0).wf = true) (hby : 1 ≤ P.bytesOf e)
    (h : DataW.trod enc P W 0 (fun _ => true) true fuel t cs = some x) (hw : ∀ y, y ∈ x.1.weights P t → y ≤ reachBytes) :
    ∃ (a : Option Addr) (n c : Nat) (z : Nat → Int), cs = [.slice a n c] ∧ n ≤ 140737488355328 ∧ (∀ i, (Lit.int k (z i)).wf = true) ∧
      (0 < n → ∃ tb o, a = some ⟨tb, o, none⟩ ∧ tb < W.heap.size ∧ ∀ i, i < n → W.cell? ⟨tb, o + i, none⟩ = some (.int k (z i))) := by
  rcases open_ints ht he hc h with ⟨h1, _⟩ | ⟨a, len, cap, zs, h1, _, hlc, _, hzl, hx, hcell, hwf⟩
  · exact ⟨none, 0, 0, fun _ => 0, h1, Nat.zero_le _, fun _ => h0, fun h => absurd h (by omega)⟩
  · have hzl' : len ≤ zs.length := by rw [hzl]; simp [hlc]
    refine ⟨some a, len, cap, fun i => zs.getD i 0, h1, ?_, fun i => ?_, fun hn => ?_⟩
    · have := hw ((min len zs.length + (zs.length - len)) * P.bytesOf e) (by
        rw [hx]
        unfold DataW.weights
        rw [ht]
        refine List.mem_cons.2 (Or.inl ?_)
        simp [lits])
      have h2 : (min len zs.length + (zs.length - len)) * 1 ≤ (min len zs.length + (zs.length - len)) * P.bytesOf e := Nat.mul_le_mul_left _ hby
      unfold reachBytes at this
      omega
    · show (Lit.int k (zs.getD i 0)).wf = true
      by_cases hi : i < zs.length
      · have e1 : zs.getD i 0 = zs[i] := by simp [List.getD, List.getElem?_eq_getElem hi]
        rw [e1]
        exact hwf zs[i] (List.getElem_mem hi)
      · have e1 : zs.getD i 0 = 0 := by simp [List.getD, List.getElem?_eq_none (Nat.le_of_not_lt hi)]
        rw [e1]; exact h0
    · have h0' := hcell 0 (by omega)
      have hspot : a.spot = none := by simpa [Addr.add] using World.cell?_spot h0'
      obtain ⟨tb, o, sp⟩ := a
      simp only at hspot
      subst hspot
      refine ⟨tb, o, rfl, ?_, fun i hi => ?_⟩
      · have := World.block_lt_of_cell? W _ h0'
        simpa [Addr.add] using this
      · have h1 := hcell i (by omega)
        rw [Addr.add_mid] at h1
        exact h1
/-- Bytes that come in, and how many. -/
theorem open_bytesW {W : World} {t e : TypeId} {r : Reach} {b0 : Nat} {v : Value} {d : DataW H} {ps : List MemPlace} (ht : P.underlying t = some (.slice e)) (he : P.underlying e = some (.int .u8)) (hc : P.cellsOf e = 1) (hby : 1 ≤ P.bytesOf e)
    (hval : Value.okWide P W r b0 t v) (h : DataW.Trod enc P W 0 (fun _ => true) true t v d ps) (hw : ∀ y, y ∈ d.weights P t → y ≤ reachBytes) :
    ∃ a n c f, v = .slice a n c ∧ n ≤ c ∧ n ≤ 140737488355328 ∧ Rd W W.heap.size a n f ∧ ∀ i, f i < 256 := by
  obtain ⟨a0, len, cap, rfl⟩ := okWide_slice ht hval
  obtain ⟨fuel, hf⟩ := h
  obtain ⟨a, n, c, z, h1, hb, hwf, hcell⟩ := open_numsW ht he hc (by rfl) hby hf hw
  simp [Value.cells] at h1
  obtain ⟨rfl, rfl, rfl⟩ := h1
  have hlc : len ≤ cap := by
    rcases open_ints ht he hc hf with ⟨h2, _⟩ | ⟨_, _, _, _, h2, _, h3, _⟩
    · simp [Value.cells] at h2
      omega
    · simp [Value.cells] at h2
      omega
  have wb : ∀ i, 0 ≤ z i ∧ z i < 256 := fun i => by have := hwf i; simp [Lit.wf, IntKind.min, IntKind.max, IntKind.bits, IntKind.signed] at this; omega
  refine ⟨a0, len, cap, fun i => (z i).toNat, rfl, hlc, hb, ⟨fun hn => ?_⟩, fun i => by have := wb i; show (z i).toNat < 256; omega⟩
  obtain ⟨tb, o, e1, e2, e3⟩ := hcell hn
  refine ⟨tb, o, e1, e2, fun i hi => ?_⟩
  have := wb i
  rw [e3 i hi]
  show some (Value.int .u8 (z i)) = some (Value.int .u8 (((z i).toNat : Nat) : Int))
  rw [show (((z i).toNat : Nat) : Int) = z i by omega]
end
end Go.Proofs.Ytdamlgnloecplaa
namespace Go.Proofs.Ytdamlgnloecplaa
open Go.ChangeShapes Go.WideShapes Go.ChangeAt Go.RowKit

set_option maxRecDepth 100000 in
theorem distKnown_lifted (os : Os) (started : os.Started) (H : Type) (enc : TypeId × Value → H) :
    ReturnsInHanded {} Try.checked os 3 .any (Rows.distKnownSpec.pre6 enc Try.prog Try.f3 Rows.distKnownRow.domain false) (Rows.distKnownSpec.post enc Try.prog Try.f3 false true false false) := by
  refine returnsInHanded_of_change_sized (C := Try.checked) own started (by kernel_rfl) Try.func3
    (ChangeSpec.witness6 (enc := enc) (C := Try.checked) false ⟨#[], #[], []⟩ 8 (by kernel_rfl) (by kernel_rfl) (by kernel_rfl) (by kernel_rfl)) ?_
  intro W base args ds gs before hval0 hW _ hwt _
  have hval : ∀ (j : Nat) t v, Try.f3.params[j]? = some t → args[j]? = some v → Value.okWide Try.prog W .any base t v := hval0
  have hW' := hW
  obtain ⟨p, q, hA0, hV, rfl, _, _⟩ := hW
  have hA : DataW.TrodAll enc Try.prog W 0 (fun _ => true) true Try.f3.params.toList args.toList ds p := hA0
  have hwt' : (DataW.weightsEach Try.prog (Try.f3.params.toList ++ Rows.distKnownSpec.plain.varTypes Try.prog) (ds ++ gs)).all (· ≤ reachBytes) = true := hwt
  rw [Try.params3] at hA hval hwt'
  obtain ⟨hv0, rfl, rfl⟩ := trodAll_nil hA
  obtain ⟨l⟩ := args
  simp only at hv0
  subst hv0
  obtain ⟨rfl, rfl⟩ := trodVars_none hV
  clear hA0 hval0
  refine (DistKnown_any W).mono fun e W' ⟨he, hg⟩ => ?_
  subst he
  exact ⟨_, rfl, law_post laidOut hW' rfl rfl (tb := 4) rfl Try.underlying4 (by
      rw [Try.params3]
      intro t ht
      simp at ht) hg⟩

theorem distKnown_holds : Rows.DistKnownSaid :=
  OpenClaim.holds_of_wide 3 Try.f3 rfl rfl rfl rfl rfl rfl rfl ⟨rfl, rfl, rfl, rfl, rfl⟩ rfl rfl rfl rfl rfl (by kernel_rfl) Try.func3 (by kernel_rfl)
    (of_decide_eq_true (by kernel_rfl)) (by unfold Func.isWrapper; first | (rw [if_pos (by decide +kernel)]; kernel_rfl) | (rw [if_neg (by decide +kernel)]; exact ⟨rfl, rfl⟩))
    (fun os started H enc _ => distKnown_lifted os started H enc)

end Go.Proofs.Ytdamlgnloecplaa
