/-
  Proved: whatever comes in, one of each, bytes and a cut, 'DistBack' answers true, and what came in reads afterwards as it read before. Conditions: the arguments can be read as data.
-/
import Derived.Test.YtmbefbmpjkbnmaaDistBackAllb
import Derived.Test.YtmbefbmpjkbnmaaSliceQ
import Derived.Test.YtmbefbmpjkbnmaaDistBackAlld
import Derived.Test.YtmbefbmpjkbnmaaDistBackAllc
import Derived.SizedLaws
namespace Go.Proofs.Ytmbefbmpjkbnmaa
open Go.RowKit

set_option maxRecDepth 100000
set_option maxHeartbeats 4000000

def payMay (k L : Nat) : Bool := decide (1 ≤ k) && decide (k ≤ 3) && decide (L ≤ 4095)
theorem mayPay_any (k L c : Nat) (a : Option Addr) (w : World) : Calls Try.prog 116 #[.int .u8 k, .slice a L c] w fun e w' => e = .returned (.bool (payMay k L)) ∧ w = w' := by
  unfold payMay
  by_cases h1 : 1 ≤ k
  · have j1 : (1 : Int) ≤ (k : Int) := by omega
    rw [decide_eq_true h1, Bool.true_and]
    by_cases h2 : k ≤ 3
    · have j2 : (k : Int) ≤ 3 := by omega
      rw [decide_eq_true h2, Bool.true_and]
      by_cases h3 : L ≤ 4095
      · have j3 : (L : Int) ≤ 4095 := by omega
        rw [decide_eq_true h3]
        go_enter Try.func116, Try.ntmps116
        go_wp2_with fail
        go_ret
        exact ⟨rfl, rfl⟩
      · have j3 : ¬ (L : Int) ≤ 4095 := by omega
        rw [decide_eq_false h3]
        go_enter Try.func116, Try.ntmps116
        go_wp2_with fail
        go_ret
        exact ⟨rfl, rfl⟩
    · have j2 : ¬ (k : Int) ≤ 3 := by omega
      rw [decide_eq_false h2, Bool.false_and]
      go_enter Try.func116, Try.ntmps116
      go_wp2_with fail
      go_ret
      exact ⟨rfl, rfl⟩
  · have j1 : ¬ (1 : Int) ≤ (k : Int) := by omega
    rw [decide_eq_false h1, Bool.false_and, Bool.false_and]
    go_enter Try.func116, Try.ntmps116
    go_wp2_with fail
    go_ret
    exact ⟨rfl, rfl⟩
theorem mayPay_enters : ∀ args w, (callFunc 116 args).run Try.prog w = .ok (.enter 116 args) w := enters_of Try.func116 (by kernel_rfl) rfl
theorem OwnV.ownN {n : Nat} {f : Nat → Nat} {x : Value} {W : World} (h : OwnV n f x W) (base : Nat) (hb : ∀ g, x.ownBlock = some g → base ≤ g) : OwnN W base x n f := by
  obtain ⟨g, cap, h1, h2⟩ := h
  exact ⟨Or.inr ⟨g, cap, h1, h2, hb g (by rw [h1]; rfl)⟩⟩
theorem pay_any (D k L c : Nat) (a : Option Addr) (f : Nat → Nat) (w : World) (hR : Rd w D a L f) (hL : L ≤ 1048576) : Calls Try.prog 45 #[.int .u8 k, .slice a L c] w (PutSays w (payMay k L) (1 + L) (cat 1 (fun _ => k) f)) := by
  have HM := Lib.hid (mayPay_any k L c a w)
  have HR := Lib.hid hR
  have HL := Lib.hid hL
  clear hR hL
  go_enter Try.func45, Try.ntmps45
  go_wp2_with fail
  go_at_call 116
  refine HM.out.mono ?_
  rintro e w1 ⟨rfl, rfl⟩
  obtain ⟨m, hm⟩ : ∃ m, m = payMay k L := ⟨_, rfl⟩
  have HMM := Lib.hid hm
  rw [← hm]
  clear hm HM
  cases m with
  | false =>
    go_wp2_with fail
    go_ret2
    exact ⟨⟨none, 0, by rw [← HMM.out]; rfl, by rw [← HMM.out]; exact OwnN.nil _ _ _⟩, grown_refl _ _⟩
  | true =>
    have ga := World.grownBy_alloc w (.cells #[.int .u8 k] 5) none
    have hO : OwnN (w.alloc (.cells #[.int .u8 k] 5)) w.heap.size (.slice (some ⟨w.heap.size, 0, none⟩) 1 1) 1 (fun _ => k) := ⟨Or.inr ⟨w.heap.size, 1, rfl, (fill_one w k).own (by decide), Nat.le_refl _⟩⟩
    obtain ⟨a', c', w2, hap, hO2, hg2, _⟩ := app_N1 c 39 ga hO (HR.out.grown ga (by simp)) (by have := HL.out; omega)
    have HAP := Lib.hid hap
    have HO := Lib.hid hO2
    have HG := Lib.hid hg2
    clear hap hO hO2 hg2 ga
    go_wp2_with (at_builtin; refine wpList_append_run rfl (.tmp 11) (.tmp 12) 39 39 rfl _ _ _ _ rfl rfl HAP.out ?_)
    go_ret2
    exact ⟨⟨a', c', by rw [← HMM.out]; rfl, by rw [← HMM.out]; exact HO.out⟩, HG.out⟩
/-- Its kind and its bytes, if it is a payload. -/
def paidOk (L : Nat) (f : Nat → Nat) : Bool := decide (1 ≤ L) && payMay (f 0) (L - 1)
structure PaidSays (w : World) (L : Nat) (f : Nat → Nat) (e : Ending) (w' : World) : Prop where
  ex : ∃ a c, e = .returned (.tuple #[.int .u8 (if paidOk L f = true then f 0 else 0 : Nat), .slice a (if paidOk L f = true then L - 1 else 0) c, .int .i64 (if paidOk L f = true then 0 else 9)]) ∧ OwnN w' w.heap.size (.slice a (if paidOk L f = true then L - 1 else 0) c) (if paidOk L f = true then L - 1 else 0) (fun i => f (1 + i))
  gr : w.grownBy w' none
theorem load_u8Q {w : World} {B o v : Nat} (h : w.cell? ⟨B, o, none⟩ = some (.int .u8 v)) : (Instr.loadAt 5 (.pointer (some ⟨B, o, none⟩))).run Try.prog w = .ok (.int .u8 v) w := by go_simp
theorem paid_any (D L c : Nat) (a : Option Addr) (f : Nat → Nat) (w : World) (hR : Rd w D a L f) (hc : L ≤ c) (hL : L ≤ 1048576) : Calls Try.prog 46 #[.slice a L c] w (PaidSays w L f) := by
  by_cases h0 : L = 0
  · subst h0
    have HOK := Lib.hid (show paidOk 0 f = false from rfl)
    clear hL hR hc
    go_enter Try.func46, Try.ntmps46
    go_upto_region 1 with fail
    go_quiet (fail)
    have HG : Hid (w.grownBy (World.drewN w nq) none) := grown_drewN (grown_refl w none) nq
    generalize World.drewN w nq = w1 at *
    go_wp2_with fail
    go_ret3
    exact ⟨⟨none, 0, by rw [HOK.out]; rfl, by rw [HOK.out]; exact OwnN.nil _ _ _⟩, HG.out⟩
  · obtain ⟨tb, o, rfl, _, hcl⟩ := hR.ex (by omega)
    obtain ⟨k0, hk0⟩ : ∃ k, k = f 0 := ⟨_, rfl⟩
    have hc0 : w.cell? ⟨tb, o, none⟩ = some (.int .u8 k0) := by rw [hk0]; exact hcl 0 (by omega)
    obtain ⟨a1, hsl, hrs⟩ := run_restQ c 1 hR (by omega) hc
    have HSL : Hid (∀ w, (Instr.slice 39 (.slice (some ⟨tb, o, none⟩) L c) (some (.int .i64 1)) none none).run Try.prog w = .ok (.slice a1 (L - 1) (c - 1)) w) := hsl
    have HRS := Lib.hid hrs
    have HC0 := Lib.hid hc0
    have HR := Lib.hid hR
    have HL := Lib.hid (And.intro hL h0)
    have j0 : ¬ (L : Int) = 0 := by omega
    have j1 : (0 : Int) < (L : Int) := by omega
    have HOK := Lib.hid (show paidOk L f = payMay k0 (L - 1) by unfold paidOk; rw [decide_eq_true (by omega), Bool.true_and, hk0])
    have HK := Lib.hid hk0
    clear hsl hrs hc0 hcl hR hL h0 hk0 hc
    go_enter Try.func46, Try.ntmps46
    go_upto_region 1 with fail
    refine wp_region_held (S := fun W => w.grownBy W none) (by kernel_rfl) ?_
    change wpAnyH _ _ _ _ _ 12 #[false, false, false, false, false, false, false, false, false, false, false, false] _ (World.drew _)
    have gq := grown_drew (grown_refl w none)
    generalize w.drew = w5 at *
    refine wpAnyH_takeD (some 5) (i := 0) (v := (.slice (some ⟨tb, o, none⟩) L c)) rfl rfl (by kernel_rfl) (by kernel_rfl) (by kernel_rfl) (fun _ _ _ h => h) (Or.inl ⟨rfl, fun _ _ => rfl⟩) gq ?_
    simp only [Act.put, List.setIfInBounds_toArray, List.set_cons_succ, List.set_cons_zero]
    refine wpAnyH_takeD (some 6) (i := 1) (v := (.int .i64 L)) rfl rfl (by kernel_rfl) (by kernel_rfl) (by kernel_rfl) (fun _ _ _ h => h) (Or.inl ⟨rfl, fun _ _ => by go_simp⟩) gq ?_
    simp only [Act.put, List.setIfInBounds_toArray, List.set_cons_succ, List.set_cons_zero]
    refine wpAnyH_takeD (some 7) (i := 2) (v := (.bool false)) rfl rfl (by kernel_rfl) (by kernel_rfl) (by kernel_rfl) (fun _ _ _ h => h) (Or.inl ⟨rfl, fun _ _ => by have := HL.out.2; go_simp⟩) gq ?_
    simp only [Act.put, List.setIfInBounds_toArray, List.set_cons_succ, List.set_cons_zero]
    refine wpAnyH_takeD (some 8) (i := 3) (v := (.bool false)) rfl rfl (by kernel_rfl) (by kernel_rfl) (by kernel_rfl) (fun _ _ _ h => h) (Or.inl ⟨rfl, fun _ _ => rfl⟩) gq ?_
    simp only [Act.put, List.setIfInBounds_toArray, List.set_cons_succ, List.set_cons_zero]
    refine wpAnyH_takeD (some 9) (i := 4) (v := (.slice (some ⟨tb, o, none⟩) L c)) rfl rfl (by kernel_rfl) (by kernel_rfl) (by kernel_rfl) (fun _ _ _ h => h) (Or.inl ⟨rfl, fun _ _ => rfl⟩) gq ?_
    simp only [Act.put, List.setIfInBounds_toArray, List.set_cons_succ, List.set_cons_zero]
    refine wpAnyH_takeD (some 10) (i := 5) (v := (.pointer (some ⟨tb, o, none⟩))) rfl rfl (by kernel_rfl) (by kernel_rfl) (by kernel_rfl) (fun _ _ _ h => h) (Or.inl ⟨rfl, fun _ _ => by have := HL.out.2; go_simp⟩) gq ?_
    simp only [Act.put, List.setIfInBounds_toArray, List.set_cons_succ, List.set_cons_zero]
    refine wpAnyH_takeD (some 11) (i := 6) (v := (.int .u8 k0)) rfl rfl (by kernel_rfl) (by kernel_rfl) (by kernel_rfl) (fun _ _ _ h => h) (Or.inl ⟨rfl, fun W hW => exec_loadQ (.tmp 10) _ _ rfl rfl (load_u8Q (hW.cell HC0.out (by simp)))⟩) gq ?_
    simp only [Act.put, List.setIfInBounds_toArray, List.set_cons_succ, List.set_cons_zero]
    refine wpAnyH_takeD (some 12) (i := 7) (v := (.slice (some ⟨tb, o, none⟩) L c)) rfl rfl (by kernel_rfl) (by kernel_rfl) (by kernel_rfl) (fun _ _ _ h => h) (Or.inl ⟨rfl, fun _ _ => rfl⟩) gq ?_
    simp only [Act.put, List.setIfInBounds_toArray, List.set_cons_succ, List.set_cons_zero]
    refine wpAnyH_takeD (some 13) (i := 8) (v := (.slice a1 (L - 1) (c - 1))) rfl rfl (by kernel_rfl) (by kernel_rfl) (by kernel_rfl) (fun _ _ _ h => h) (Or.inl ⟨rfl, fun W _ => by have := HSL.out W; unfold execOp; go_simp⟩) gq ?_
    simp only [Act.put, List.setIfInBounds_toArray, List.set_cons_succ, List.set_cons_zero]
    refine wpAnyH_callD (some 14) (i := 9) 116 #[.int .u8 k0, .slice a1 (L - 1) (c - 1)] (R := fun v W => v = .bool (payMay k0 (L - 1)) ∧ w5.grownBy W none) (by kernel_rfl) rfl rfl rfl (exec_fn2 _ _ _ _ _ rfl rfl rfl) mayPay_enters ((mayPay_any k0 (L - 1) (c - 1) a1 w5).mono fun e W h => ⟨_, h.1, rfl, h.2 ▸ grown_refl _ _⟩) ?_
    rintro v w6 ⟨rfl, hg6⟩
    have gq6 := grown_trans gq hg6
    refine ⟨gq6, ?_⟩
    simp only [Act.put, List.setIfInBounds_toArray, List.set_cons_succ, List.set_cons_zero]
    obtain ⟨m, hm⟩ : ∃ m, m = payMay k0 (L - 1) := ⟨_, rfl⟩
    rw [← hm]
    have HMM := Lib.hid hm
    clear hm hg6 gq
    refine wpAnyH_takeD (some 15) (i := 10) (v := (.bool (!m))) rfl rfl (by kernel_rfl) (by kernel_rfl) (by kernel_rfl) (fun _ _ _ h => h) (Or.inl ⟨rfl, fun _ _ => by go_simp⟩) gq6 ?_
    simp only [Act.put, List.setIfInBounds_toArray, List.set_cons_succ, List.set_cons_zero]
    refine wpAnyH_takeD (some 16) (i := 11) (v := (.bool (!m))) rfl rfl (by kernel_rfl) (by kernel_rfl) (by kernel_rfl) (fun _ _ _ h => h) (Or.inl ⟨rfl, fun _ _ => by go_simp⟩) gq6 ?_
    simp only [Act.put, List.setIfInBounds_toArray, List.set_cons_succ, List.set_cons_zero]
    refine wpAnyH_done (by kernel_rfl) ?_ _
    cases m with
    | false =>
      have HG6 := Lib.hid gq6
      clear gq6
      go_wp2_with fail
      go_ret3
      exact ⟨⟨none, 0, by rw [HOK.out, ← HMM.out]; rfl, by rw [HOK.out, ← HMM.out]; exact OwnN.nil _ _ _⟩, HG6.out⟩
    | true =>
      go_upto_region 3 with fail
      refine wp_region_held (S := fun W => w.grownBy W none) (by kernel_rfl) ?_
      change wpAnyH _ _ _ _ _ 9 #[false, false, false, false, false, false, false, false, false] _ (World.drew _)
      have gq := grown_drew gq6
      generalize w6.drew = w7 at *
      refine wpAnyH_takeD (some 17) (i := 0) (v := (.slice (some ⟨tb, o, none⟩) L c)) rfl rfl (by kernel_rfl) (by kernel_rfl) (by kernel_rfl) (fun _ _ _ h => h) (Or.inl ⟨rfl, fun _ _ => rfl⟩) gq ?_
      simp only [Act.put, List.setIfInBounds_toArray, List.set_cons_succ, List.set_cons_zero]
      refine wpAnyH_takeD (some 18) (i := 1) (v := (.pointer (some ⟨tb, o, none⟩))) rfl rfl (by kernel_rfl) (by kernel_rfl) (by kernel_rfl) (fun _ _ _ h => h) (Or.inl ⟨rfl, fun _ _ => by have := HL.out.2; go_simp⟩) gq ?_
      simp only [Act.put, List.setIfInBounds_toArray, List.set_cons_succ, List.set_cons_zero]
      refine wpAnyH_takeD (some 19) (i := 2) (v := (.int .u8 k0)) rfl rfl (by kernel_rfl) (by kernel_rfl) (by kernel_rfl) (fun _ _ _ h => h) (Or.inl ⟨rfl, fun W hW => exec_loadQ (.tmp 18) _ _ rfl rfl (load_u8Q (hW.cell HC0.out (by simp)))⟩) gq ?_
      simp only [Act.put, List.setIfInBounds_toArray, List.set_cons_succ, List.set_cons_zero]
      refine wpAnyH_takeD (some 20) (i := 3) (v := (.slice (some ⟨tb, o, none⟩) L c)) rfl rfl (by kernel_rfl) (by kernel_rfl) (by kernel_rfl) (fun _ _ _ h => h) (Or.inl ⟨rfl, fun _ _ => rfl⟩) gq ?_
      simp only [Act.put, List.setIfInBounds_toArray, List.set_cons_succ, List.set_cons_zero]
      refine wpAnyH_takeD (some 21) (i := 4) (v := (.slice a1 (L - 1) (c - 1))) rfl rfl (by kernel_rfl) (by kernel_rfl) (by kernel_rfl) (fun _ _ _ h => h) (Or.inl ⟨rfl, fun W _ => by have := HSL.out W; unfold execOp; go_simp⟩) gq ?_
      simp only [Act.put, List.setIfInBounds_toArray, List.set_cons_succ, List.set_cons_zero]
      obtain ⟨a', c', w8, hap, hO2, hg8, _⟩ := app_N1 (c - 1) 39 gq (OwnN.nil w7 w.heap.size (fun _ => 0)) ((HRS.out w HR.out).grown gq (by simp)) (by have := HL.out; omega)
      refine wpAnyH_yieldD (some 22) (i := 5) (v := (.slice a' (0 + (L - 1)) c')) (by kernel_rfl) rfl rfl rfl (exec_appendQ _ _ _ _ _ rfl rfl rfl rfl hap) hg8 ?_
      simp only [Act.put, List.setIfInBounds_toArray, List.set_cons_succ, List.set_cons_zero]
      refine wpAnyH_takeD (some 2) (i := 6) (v := (.int .u8 k0)) rfl rfl (by kernel_rfl) (by kernel_rfl) (by kernel_rfl) (fun _ _ _ h => h) (Or.inl ⟨rfl, fun _ _ => rfl⟩) hg8 ?_
      simp only [Act.put, List.setIfInBounds_toArray, List.set_cons_succ, List.set_cons_zero]
      refine wpAnyH_takeD (some 3) (i := 7) (v := (.slice a' (0 + (L - 1)) c')) rfl rfl (by kernel_rfl) (by kernel_rfl) (by kernel_rfl) (fun _ _ _ h => h) (Or.inl ⟨rfl, fun _ _ => rfl⟩) hg8 ?_
      simp only [Act.put, List.setIfInBounds_toArray, List.set_cons_succ, List.set_cons_zero]
      refine wpAnyH_takeD (some 4) (i := 8) (v := (.int .i64 0)) rfl rfl (by kernel_rfl) (by kernel_rfl) (by kernel_rfl) (fun _ _ _ h => h) (Or.inl ⟨rfl, fun _ _ => rfl⟩) hg8 ?_
      simp only [Act.put, List.setIfInBounds_toArray, List.set_cons_succ, List.set_cons_zero]
      refine wpAnyH_done (by kernel_rfl) ?_ _
      have HO := Lib.hid hO2
      have HG8 := Lib.hid hg8
      clear hap hO2 hg8 gq gq6
      go_wp2_with fail
      go_ret3
      refine ⟨⟨a', c', ?_, ?_⟩, HG8.out⟩
      · rw [HOK.out, ← HMM.out, ← HK.out]
        show _ = Ending.returned (.tuple #[.int .u8 k0, .slice a' (L - 1) c', .int .i64 0])
        rw [Nat.zero_add]
        rfl
      · rw [HOK.out, ← HMM.out]
        have := HO.out
        rw [Nat.zero_add, cat_none] at this
        exact this
end Go.Proofs.Ytmbefbmpjkbnmaa
namespace Go.Proofs.Ytmbefbmpjkbnmaa
open Go.RowKit Go.Shelf

set_option maxRecDepth 100000
set_option maxHeartbeats 4000000

theorem bdBk_enters : ∀ args w, (callFunc 38 args).run Try.prog w = .ok (.enter 38 args) w := enters_of Try.func38 (by kernel_rfl) rfl
theorem bdCo_enters : ∀ args w, (callFunc 12 args).run Try.prog w = .ok (.enter 12 args) w := enters_of Try.func12 (by kernel_rfl) rfl
theorem bhBk_enters : ∀ args w, (callFunc 40 args).run Try.prog w = .ok (.enter 40 args) w := enters_of Try.func40 (by kernel_rfl) rfl
theorem bhCo_enters : ∀ args w, (callFunc 14 args).run Try.prog w = .ok (.enter 14 args) w := enters_of Try.func14 (by kernel_rfl) rfl
theorem brBk_enters : ∀ args w, (callFunc 42 args).run Try.prog w = .ok (.enter 42 args) w := enters_of Try.func42 (by kernel_rfl) rfl
theorem brCo_enters : ∀ args w, (callFunc 18 args).run Try.prog w = .ok (.enter 18 args) w := enters_of Try.func18 (by kernel_rfl) rfl
theorem beBk_enters : ∀ args w, (callFunc 43 args).run Try.prog w = .ok (.enter 43 args) w := enters_of Try.func43 (by kernel_rfl) rfl
theorem beCo_enters : ∀ args w, (callFunc 21 args).run Try.prog w = .ok (.enter 21 args) w := enters_of Try.func21 (by kernel_rfl) rfl
theorem bpBk_enters : ∀ args w, (callFunc 44 args).run Try.prog w = .ok (.enter 44 args) w := enters_of Try.func44 (by kernel_rfl) rfl
theorem bpCo_enters : ∀ args w, (callFunc 24 args).run Try.prog w = .ok (.enter 24 args) w := enters_of Try.func24 (by kernel_rfl) rfl
theorem exec_fn5 {o : Oper} {a : Act} (f : FuncId) (t1 t2 t3 t4 t5 : Operand) (v1 v2 v3 v4 v5 : Value) {ats : Array TypeId} (hop : o.op = .call { callee := .value (.func f), args := #[t1, t2, t3, t4, t5], argTypes := ats }) (h1 : a.eval t1 = v1)
    (h2 : a.eval t2 = v2) (h3 : a.eval t3 = v3) (h4 : a.eval t4 = v4) (h5 : a.eval t5 = v5) : execOp a.eval o = callFunc f #[v1, v2, v3, v4, v5] := by
  have e1 : execOp a.eval o = callFunc f #[a.eval t1, a.eval t2, a.eval t3, a.eval t4, a.eval t5] := by
    unfold execOp
    simp [hop, resolve, Deferred.ofValue, invoke, Act.eval]
  rw [e1, h1, h2, h3, h4, h5]
theorem DistBack_any (x : AV) (L c cut : Nat) (a : Option Addr) (F : Nat → Nat) (w : World) (hO : ∃ (fm : Nat → Nat → Nat) (eb pb : Nat → Nat), x.Ok fm eb pb w) (hR : Rd w w.heap.size a L F) (hc : L ≤ c) (hn : L ≤ 140737488355328) (hF : ∀ i, F i < 256) (hcut : cut < 65536) :
    Calls Try.prog 5 #[.agg (rowOf 231 x.v), .slice a L c, .int .u16 (cut : Nat)] w fun e w' => e = .returned (.bool true) ∧ w.grownBy w' none := by
  obtain ⟨fm, eb, pb, hok⟩ := hO
  have ga := World.grownBy_alloc w (.cells (rowOf 231 x.v) 45) none
  have hX := RowAt.new w 45 231 x.v _ rfl
  have HOK := Lib.hid hok
  have HR := Lib.hid hR
  have HF := Lib.hid hF
  have HLC := Lib.hid hc
  have HLN := Lib.hid hn
  have HCT := Lib.hid hcut
  clear hok hR hF hc hn hcut
  go_enter Try.func5, Try.ntmps5
  go_upto_region 1 with fail
  obtain ⟨B, hB⟩ : ∃ B, B = w.heap.size := ⟨_, rfl⟩
  rw [← hB] at hX ⊢
  generalize w.alloc (.cells (rowOf 231 x.v) 45) = w1 at *
  have HG1 := Lib.hid ga
  have HX1 := Lib.hid hX
  clear ga hX hB
  have HLA := Lib.hid (HX1.out.load (P := Try.prog) 0 45 231 x.v (by decide) (fun j _ => by rw [Nat.zero_add]) (by kernel_rfl) (by kernel_rfl))
  have HHV := Lib.hid (heavy_any x w1)
  obtain ⟨hv, hhv⟩ : ∃ b, b = x.heavy := ⟨_, rfl⟩
  rw [← hhv] at HHV
  have HHE := Lib.hid hhv
  clear hhv
  go_wp2_with (first | ((with_reducible refine wpList_here ?_); refine wpList_ld (p := .pointer (some ⟨B, 0, none⟩)) 3 ?_ ?_ ?_ HLA.out ?_; (· rfl); go_simp; (· kernel_rfl)))
  go_at_call 8
  refine HHV.out.mono ?_
  rintro e w2 ⟨rfl, g⟩
  have HX2 := Lib.hid (HX1.out.grown g (by simp))
  have HG2 := Lib.hid (grown_trans HG1.out g)
  clear g HLA HHV HX1 HG1
  cases hv with
  | true =>
    have HW := Lib.hid (works_any w2)
    go_wp2_with fail
    go_at_call 9
    refine HW.out.mono ?_
    rintro e w3 ⟨rfl, g⟩
    have HG3 := Lib.hid (grown_trans HG2.out g)
    clear g HW HG2
    go_wp2_with fail
    go_ret
    exact ⟨rfl, HG3.out⟩
  | false =>
    by_cases hbig : 9000 < L
    · have i1 : (L : Int) > 9000 := by omega
      have HW := Lib.hid (works_any w2)
      clear hbig
      go_wp2_with fail
      go_at_call 9
      refine HW.out.mono ?_
      rintro e w3 ⟨rfl, g⟩
      have HG3 := Lib.hid (grown_trans HG2.out g)
      clear g HW HG2
      go_wp2_with fail
      go_ret
      exact ⟨rfl, HG3.out⟩
    · have i1 : ¬ (L : Int) > 9000 := by omega
      have hl9 : L ≤ 9000 := by omega
      have HL9 := Lib.hid hl9
      have hl := HHE.out
      unfold AV.heavy at hl
      rw [eq_comm, Bool.or_eq_false_iff, Bool.or_eq_false_iff, decide_eq_false_iff_not, decide_eq_false_iff_not, decide_eq_false_iff_not] at hl
      have HN1 : Hid (x.r.nm ≤ 1048576) := Lib.hid (by omega)
      have HBd := Lib.hid (fun W (g : w.grownBy W none) => backDist_any x.d.v L c w.heap.size cut a F W (has_up IsD (hasD x.d w HOK.out.d) g (fun _ _ h => h)) (HR.out.grown g (fun k e => by cases e)) HF.out HLC.out HL9.out)
      have HBh := Lib.hid (fun W (g : w.grownBy W none) => backHdr_any x.h.v L c w.heap.size cut a F W (has_up IsH (hasH x.h w HOK.out.h) g (fun _ _ h => h)) (HR.out.grown g (fun k e => by cases e)) HF.out HLC.out HL9.out)
      have HBr := Lib.hid (fun W (g : w.grownBy W none) => backRos_any x.r.v L c w.heap.size cut a F W (has_up IsR (hasR x.r fm w.heap.size w HOK.out.r.id HOK.out.r.ep HOK.out.r.le HOK.out.r.fml HOK.out.r.rd HN1.out) g (fun _ _ h => kRos.grown h g)) (HR.out.grown g (fun k e => by cases e)) HF.out HLC.out HL9.out)
      have HBe := Lib.hid (fun W (g : w.grownBy W none) => backEnv_any x.e.v L c w.heap.size cut a F W (has_up IsE (hasE x.e eb w.heap.size w HOK.out.e HOK.out.eb.rd HOK.out.eb.fl) g (fun _ _ h => kEnv.grown h g)) (HR.out.grown g (fun k e => by cases e)) HF.out HLC.out HL9.out)
      have HBp := Lib.hid (fun W (g : w.grownBy W none) => backPkt_any x.p.v L c w.heap.size cut a F W (has_up IsP (hasP x.p pb w.heap.size w HOK.out.p HOK.out.pb.rd HOK.out.pb.fl) g (fun _ _ h => kPkt.grown h g)) (HR.out.grown g (fun k e => by cases e)) HF.out HLC.out HL9.out)
      have i2 : (cut : Int) ≤ 65535 := by have := HCT.out; omega
      clear hl HHE hbig hl9
      go_upto_region 4 with fail
      obtain ⟨w3, hw3⟩ : ∃ W, W = w2 := ⟨_, rfl⟩
      rw [← hw3] at HX2 HG2 ⊢
      have HX3 := HX2
      have HG3 := HG2
      clear hw3 HX2 HG2
      refine wp_region_held (S := (fun W => w3.grownBy W none)) (by kernel_rfl) ?_
      change wpAnyH _ _ _ _ _ 16 #[false, false, false, false, false, false, false, false, false, false, false, false, false, false, false, false] _ (World.drew _)
      have gq := grown_drew (grown_refl w3 none)
      generalize World.drew w3 = q at *
      refine wpAnyH_takeD (some 24) (i := 1) (v := (.pointer (some ⟨B, 0, none⟩))) rfl rfl (by kernel_rfl) (by kernel_rfl) (by kernel_rfl) (fun _ _ _ h => h) (Or.inl ⟨rfl, fun _ _ => by go_simp⟩) gq ?_
      simp only [Act.put, List.setIfInBounds_toArray, List.set_cons_succ, List.set_cons_zero]
      refine wpAnyH_takeD (some 25) (i := 2) (v := (.agg (rowOf 52 x.d.v))) rfl rfl (by kernel_rfl) (by kernel_rfl) (by kernel_rfl) (fun _ _ _ h => h) (Or.inl ⟨rfl, fun W hW => exec_loadQ (.tmp 24) _ _ rfl rfl ((HX3.out.grown hW (by simp)).load (P := Try.prog) 0 30 52 x.d.v (by decide) x.v_d (by kernel_rfl) (by kernel_rfl))⟩) gq ?_
      simp only [Act.put, List.setIfInBounds_toArray, List.set_cons_succ, List.set_cons_zero]
      refine wpAnyH_takeD (some 26) (i := 3) (v := (.slice a L c)) rfl rfl (by kernel_rfl) (by kernel_rfl) (by kernel_rfl) (fun _ _ _ h => h) (Or.inl ⟨rfl, fun _ _ => rfl⟩) gq ?_
      simp only [Act.put, List.setIfInBounds_toArray, List.set_cons_succ, List.set_cons_zero]
      refine wpAnyH_takeD (some 27) (i := 4) (v := (.int .i64 (cut : Nat))) rfl rfl (by kernel_rfl) (by kernel_rfl) (by kernel_rfl) (fun _ _ _ h => h) (Or.inl ⟨rfl, fun _ _ => rfl⟩) gq ?_
      simp only [Act.put, List.setIfInBounds_toArray, List.set_cons_succ, List.set_cons_zero]
      refine wpAnyH_callD (some 23) (i := 0) 12 #[] (R := fun v W => v = .agg (rowOf 3 codDist) ∧ q.grownBy W none) (by kernel_rfl) rfl rfl rfl (exec_fn0 _ rfl) bdCo_enters ((codDist_any q).mono fun e W h => ⟨_, h.1, rfl, h.2⟩) ?_
      rintro v y1 ⟨rfl, hy⟩
      have gy1 := grown_trans gq hy
      clear hy
      refine ⟨gy1, ?_⟩
      simp only [Act.put, List.setIfInBounds_toArray, List.set_cons_succ, List.set_cons_zero]
      refine wpAnyH_callD (some 28) (i := 5) 38 #[.agg (rowOf 3 codDist), .agg (rowOf 52 x.d.v), .slice a L c, .int .i64 (cut : Nat), .func (.func 39) #[] #[]] (R := fun v W => v = .bool true ∧ y1.grownBy W none) (by kernel_rfl) rfl rfl rfl (exec_fn5 _ _ _ _ _ _ _ _ _ _ _ rfl rfl rfl rfl rfl rfl) bdBk_enters ((HBd.out y1 (grown_trans HG3.out gy1)).mono fun e W h => ⟨_, h.1, rfl, h.2⟩) ?_
      rintro v y2 ⟨rfl, hy⟩
      have gy2 := grown_trans gy1 hy
      clear hy
      refine ⟨gy2, ?_⟩
      simp only [Act.put, List.setIfInBounds_toArray, List.set_cons_succ, List.set_cons_zero]
      refine wpAnyH_takeD (some 29) (i := 6) (v := (.bool false)) rfl rfl (by kernel_rfl) (by kernel_rfl) (by kernel_rfl) (fun _ _ _ h => h) (Or.inl ⟨rfl, fun _ _ => by go_simp⟩) gy2 ?_
      simp only [Act.put, List.setIfInBounds_toArray, List.set_cons_succ, List.set_cons_zero]
      refine wpAnyH_takeD (some 30) (i := 7) (v := (.bool false)) rfl rfl (by kernel_rfl) (by kernel_rfl) (by kernel_rfl) (fun _ _ _ h => h) (Or.inl ⟨rfl, fun _ _ => rfl⟩) gy2 ?_
      simp only [Act.put, List.setIfInBounds_toArray, List.set_cons_succ, List.set_cons_zero]
      refine wpAnyH_takeD (some 32) (i := 9) (v := (.pointer (some ⟨B, 70, none⟩))) rfl rfl (by kernel_rfl) (by kernel_rfl) (by kernel_rfl) (fun _ _ _ h => h) (Or.inl ⟨rfl, fun _ _ => by go_simp⟩) gy2 ?_
      simp only [Act.put, List.setIfInBounds_toArray, List.set_cons_succ, List.set_cons_zero]
      refine wpAnyH_takeD (some 33) (i := 10) (v := (.agg (rowOf 34 x.h.v))) rfl rfl (by kernel_rfl) (by kernel_rfl) (by kernel_rfl) (fun _ _ _ h => h) (Or.inl ⟨rfl, fun W hW => exec_loadQ (.tmp 32) _ _ rfl rfl ((HX3.out.grown hW (by simp)).load (P := Try.prog) 70 36 34 x.h.v (by decide) x.v_h (by kernel_rfl) (by kernel_rfl))⟩) gy2 ?_
      simp only [Act.put, List.setIfInBounds_toArray, List.set_cons_succ, List.set_cons_zero]
      refine wpAnyH_takeD (some 34) (i := 11) (v := (.slice a L c)) rfl rfl (by kernel_rfl) (by kernel_rfl) (by kernel_rfl) (fun _ _ _ h => h) (Or.inl ⟨rfl, fun _ _ => rfl⟩) gy2 ?_
      simp only [Act.put, List.setIfInBounds_toArray, List.set_cons_succ, List.set_cons_zero]
      refine wpAnyH_takeD (some 35) (i := 12) (v := (.int .i64 (cut : Nat))) rfl rfl (by kernel_rfl) (by kernel_rfl) (by kernel_rfl) (fun _ _ _ h => h) (Or.inl ⟨rfl, fun _ _ => rfl⟩) gy2 ?_
      simp only [Act.put, List.setIfInBounds_toArray, List.set_cons_succ, List.set_cons_zero]
      refine wpAnyH_callD (some 31) (i := 8) 14 #[] (R := fun v W => v = .agg (rowOf 3 codHdr) ∧ y2.grownBy W none) (by kernel_rfl) rfl rfl rfl (exec_fn0 _ rfl) bhCo_enters ((codHdr_any y2).mono fun e W h => ⟨_, h.1, rfl, h.2⟩) ?_
      rintro v y3 ⟨rfl, hy⟩
      have gy3 := grown_trans gy2 hy
      clear hy
      refine ⟨gy3, ?_⟩
      simp only [Act.put, List.setIfInBounds_toArray, List.set_cons_succ, List.set_cons_zero]
      refine wpAnyH_callD (some 36) (i := 13) 40 #[.agg (rowOf 3 codHdr), .agg (rowOf 34 x.h.v), .slice a L c, .int .i64 (cut : Nat), .func (.func 41) #[] #[]] (R := fun v W => v = .bool true ∧ y3.grownBy W none) (by kernel_rfl) rfl rfl rfl (exec_fn5 _ _ _ _ _ _ _ _ _ _ _ rfl rfl rfl rfl rfl rfl) bhBk_enters ((HBh.out y3 (grown_trans HG3.out gy3)).mono fun e W h => ⟨_, h.1, rfl, h.2⟩) ?_
      rintro v y4 ⟨rfl, hy⟩
      have gy4 := grown_trans gy3 hy
      clear hy
      refine ⟨gy4, ?_⟩
      simp only [Act.put, List.setIfInBounds_toArray, List.set_cons_succ, List.set_cons_zero]
      refine wpAnyH_takeD (some 37) (i := 14) (v := (.bool false)) rfl rfl (by kernel_rfl) (by kernel_rfl) (by kernel_rfl) (fun _ _ _ h => h) (Or.inl ⟨rfl, fun _ _ => by go_simp⟩) gy4 ?_
      simp only [Act.put, List.setIfInBounds_toArray, List.set_cons_succ, List.set_cons_zero]
      refine wpAnyH_takeD (some 38) (i := 15) (v := (.bool false)) rfl rfl (by kernel_rfl) (by kernel_rfl) (by kernel_rfl) (fun _ _ _ h => h) (Or.inl ⟨rfl, fun _ _ => by go_simp⟩) gy4 ?_
      simp only [Act.put, List.setIfInBounds_toArray, List.set_cons_succ, List.set_cons_zero]
      refine wpAnyH_done (by kernel_rfl) ?_ _
      obtain ⟨w4, hwj⟩ : ∃ W, W = y4 := ⟨_, rfl⟩
      rw [← hwj] at gy4 ⊢
      have HX4 := Lib.hid (HX3.out.grown gy4 (by simp))
      have HG4 := Lib.hid (grown_trans HG3.out gy4)
      clear HX3 HG3 gy1 gy2 gy3 gy4 gq hwj
      go_upto_region 6 with fail
      refine wp_region_held (S := (fun W => w4.grownBy W none)) (by kernel_rfl) ?_
      change wpAnyH _ _ _ _ _ 25 #[false, false, false, false, false, false, false, false, false, false, false, false, false, false, false, false, false, false, false, false, false, false, false, false, false] _ (World.drew _)
      have gq := grown_drew (grown_refl w4 none)
      generalize World.drew w4 = q at *
      refine wpAnyH_takeD (some 40) (i := 1) (v := (.pointer (some ⟨B, 52, none⟩))) rfl rfl (by kernel_rfl) (by kernel_rfl) (by kernel_rfl) (fun _ _ _ h => h) (Or.inl ⟨rfl, fun _ _ => by go_simp⟩) gq ?_
      simp only [Act.put, List.setIfInBounds_toArray, List.set_cons_succ, List.set_cons_zero]
      refine wpAnyH_takeD (some 41) (i := 2) (v := (.agg (rowOf 18 x.r.v))) rfl rfl (by kernel_rfl) (by kernel_rfl) (by kernel_rfl) (fun _ _ _ h => h) (Or.inl ⟨rfl, fun W hW => exec_loadQ (.tmp 40) _ _ rfl rfl ((HX4.out.grown hW (by simp)).load (P := Try.prog) 52 33 18 x.r.v (by decide) x.v_r (by kernel_rfl) (by kernel_rfl))⟩) gq ?_
      simp only [Act.put, List.setIfInBounds_toArray, List.set_cons_succ, List.set_cons_zero]
      refine wpAnyH_takeD (some 42) (i := 3) (v := (.slice a L c)) rfl rfl (by kernel_rfl) (by kernel_rfl) (by kernel_rfl) (fun _ _ _ h => h) (Or.inl ⟨rfl, fun _ _ => rfl⟩) gq ?_
      simp only [Act.put, List.setIfInBounds_toArray, List.set_cons_succ, List.set_cons_zero]
      refine wpAnyH_takeD (some 43) (i := 4) (v := (.int .i64 (cut : Nat))) rfl rfl (by kernel_rfl) (by kernel_rfl) (by kernel_rfl) (fun _ _ _ h => h) (Or.inl ⟨rfl, fun _ _ => rfl⟩) gq ?_
      simp only [Act.put, List.setIfInBounds_toArray, List.set_cons_succ, List.set_cons_zero]
      refine wpAnyH_callD (some 39) (i := 0) 18 #[] (R := fun v W => v = .agg (rowOf 3 codRos) ∧ q.grownBy W none) (by kernel_rfl) rfl rfl rfl (exec_fn0 _ rfl) brCo_enters ((codRos_any q).mono fun e W h => ⟨_, h.1, rfl, h.2⟩) ?_
      rintro v y1 ⟨rfl, hy⟩
      have gy1 := grown_trans gq hy
      clear hy
      refine ⟨gy1, ?_⟩
      simp only [Act.put, List.setIfInBounds_toArray, List.set_cons_succ, List.set_cons_zero]
      refine wpAnyH_callD (some 44) (i := 5) 42 #[.agg (rowOf 3 codRos), .agg (rowOf 18 x.r.v), .slice a L c, .int .i64 (cut : Nat), .func (.func 29) #[] #[]] (R := fun v W => v = .bool true ∧ y1.grownBy W none) (by kernel_rfl) rfl rfl rfl (exec_fn5 _ _ _ _ _ _ _ _ _ _ _ rfl rfl rfl rfl rfl rfl) brBk_enters ((HBr.out y1 (grown_trans HG4.out gy1)).mono fun e W h => ⟨_, h.1, rfl, h.2⟩) ?_
      rintro v y2 ⟨rfl, hy⟩
      have gy2 := grown_trans gy1 hy
      clear hy
      refine ⟨gy2, ?_⟩
      simp only [Act.put, List.setIfInBounds_toArray, List.set_cons_succ, List.set_cons_zero]
      refine wpAnyH_takeD (some 45) (i := 6) (v := (.bool false)) rfl rfl (by kernel_rfl) (by kernel_rfl) (by kernel_rfl) (fun _ _ _ h => h) (Or.inl ⟨rfl, fun _ _ => by go_simp⟩) gy2 ?_
      simp only [Act.put, List.setIfInBounds_toArray, List.set_cons_succ, List.set_cons_zero]
      refine wpAnyH_takeD (some 46) (i := 7) (v := (.bool false)) rfl rfl (by kernel_rfl) (by kernel_rfl) (by kernel_rfl) (fun _ _ _ h => h) (Or.inl ⟨rfl, fun _ _ => rfl⟩) gy2 ?_
      simp only [Act.put, List.setIfInBounds_toArray, List.set_cons_succ, List.set_cons_zero]
      refine wpAnyH_takeD (some 48) (i := 9) (v := (.pointer (some ⟨B, 104, none⟩))) rfl rfl (by kernel_rfl) (by kernel_rfl) (by kernel_rfl) (fun _ _ _ h => h) (Or.inl ⟨rfl, fun _ _ => by go_simp⟩) gy2 ?_
      simp only [Act.put, List.setIfInBounds_toArray, List.set_cons_succ, List.set_cons_zero]
      refine wpAnyH_takeD (some 49) (i := 10) (v := (.agg (rowOf 106 x.e.v))) rfl rfl (by kernel_rfl) (by kernel_rfl) (by kernel_rfl) (fun _ _ _ h => h) (Or.inl ⟨rfl, fun W hW => exec_loadQ (.tmp 48) _ _ rfl rfl ((HX4.out.grown hW (by simp)).load (P := Try.prog) 104 41 106 x.e.v (by decide) x.v_e (by kernel_rfl) (by kernel_rfl))⟩) gy2 ?_
      simp only [Act.put, List.setIfInBounds_toArray, List.set_cons_succ, List.set_cons_zero]
      refine wpAnyH_takeD (some 50) (i := 11) (v := (.slice a L c)) rfl rfl (by kernel_rfl) (by kernel_rfl) (by kernel_rfl) (fun _ _ _ h => h) (Or.inl ⟨rfl, fun _ _ => rfl⟩) gy2 ?_
      simp only [Act.put, List.setIfInBounds_toArray, List.set_cons_succ, List.set_cons_zero]
      refine wpAnyH_takeD (some 51) (i := 12) (v := (.int .i64 (cut : Nat))) rfl rfl (by kernel_rfl) (by kernel_rfl) (by kernel_rfl) (fun _ _ _ h => h) (Or.inl ⟨rfl, fun _ _ => rfl⟩) gy2 ?_
      simp only [Act.put, List.setIfInBounds_toArray, List.set_cons_succ, List.set_cons_zero]
      refine wpAnyH_callD (some 47) (i := 8) 21 #[] (R := fun v W => v = .agg (rowOf 3 codEnv) ∧ y2.grownBy W none) (by kernel_rfl) rfl rfl rfl (exec_fn0 _ rfl) beCo_enters ((codEnv_any y2).mono fun e W h => ⟨_, h.1, rfl, h.2⟩) ?_
      rintro v y3 ⟨rfl, hy⟩
      have gy3 := grown_trans gy2 hy
      clear hy
      refine ⟨gy3, ?_⟩
      simp only [Act.put, List.setIfInBounds_toArray, List.set_cons_succ, List.set_cons_zero]
      refine wpAnyH_callD (some 52) (i := 13) 43 #[.agg (rowOf 3 codEnv), .agg (rowOf 106 x.e.v), .slice a L c, .int .i64 (cut : Nat), .func (.func 34) #[] #[]] (R := fun v W => v = .bool true ∧ y3.grownBy W none) (by kernel_rfl) rfl rfl rfl (exec_fn5 _ _ _ _ _ _ _ _ _ _ _ rfl rfl rfl rfl rfl rfl) beBk_enters ((HBe.out y3 (grown_trans HG4.out gy3)).mono fun e W h => ⟨_, h.1, rfl, h.2⟩) ?_
      rintro v y4 ⟨rfl, hy⟩
      have gy4 := grown_trans gy3 hy
      clear hy
      refine ⟨gy4, ?_⟩
      simp only [Act.put, List.setIfInBounds_toArray, List.set_cons_succ, List.set_cons_zero]
      refine wpAnyH_takeD (some 53) (i := 14) (v := (.bool false)) rfl rfl (by kernel_rfl) (by kernel_rfl) (by kernel_rfl) (fun _ _ _ h => h) (Or.inl ⟨rfl, fun _ _ => by go_simp⟩) gy4 ?_
      simp only [Act.put, List.setIfInBounds_toArray, List.set_cons_succ, List.set_cons_zero]
      refine wpAnyH_takeD (some 54) (i := 15) (v := (.bool false)) rfl rfl (by kernel_rfl) (by kernel_rfl) (by kernel_rfl) (fun _ _ _ h => h) (Or.inl ⟨rfl, fun _ _ => by go_simp⟩) gy4 ?_
      simp only [Act.put, List.setIfInBounds_toArray, List.set_cons_succ, List.set_cons_zero]
      refine wpAnyH_takeD (some 55) (i := 16) (v := (.bool false)) rfl rfl (by kernel_rfl) (by kernel_rfl) (by kernel_rfl) (fun _ _ _ h => h) (Or.inl ⟨rfl, fun _ _ => rfl⟩) gy4 ?_
      simp only [Act.put, List.setIfInBounds_toArray, List.set_cons_succ, List.set_cons_zero]
      refine wpAnyH_takeD (some 57) (i := 18) (v := (.pointer (some ⟨B, 210, none⟩))) rfl rfl (by kernel_rfl) (by kernel_rfl) (by kernel_rfl) (fun _ _ _ h => h) (Or.inl ⟨rfl, fun _ _ => by go_simp⟩) gy4 ?_
      simp only [Act.put, List.setIfInBounds_toArray, List.set_cons_succ, List.set_cons_zero]
      refine wpAnyH_takeD (some 58) (i := 19) (v := (.agg (rowOf 21 x.p.v))) rfl rfl (by kernel_rfl) (by kernel_rfl) (by kernel_rfl) (fun _ _ _ h => h) (Or.inl ⟨rfl, fun W hW => exec_loadQ (.tmp 57) _ _ rfl rfl ((HX4.out.grown hW (by simp)).load (P := Try.prog) 210 43 21 x.p.v (by decide) x.v_p (by kernel_rfl) (by kernel_rfl))⟩) gy4 ?_
      simp only [Act.put, List.setIfInBounds_toArray, List.set_cons_succ, List.set_cons_zero]
      refine wpAnyH_takeD (some 59) (i := 20) (v := (.slice a L c)) rfl rfl (by kernel_rfl) (by kernel_rfl) (by kernel_rfl) (fun _ _ _ h => h) (Or.inl ⟨rfl, fun _ _ => rfl⟩) gy4 ?_
      simp only [Act.put, List.setIfInBounds_toArray, List.set_cons_succ, List.set_cons_zero]
      refine wpAnyH_takeD (some 60) (i := 21) (v := (.int .i64 (cut : Nat))) rfl rfl (by kernel_rfl) (by kernel_rfl) (by kernel_rfl) (fun _ _ _ h => h) (Or.inl ⟨rfl, fun _ _ => rfl⟩) gy4 ?_
      simp only [Act.put, List.setIfInBounds_toArray, List.set_cons_succ, List.set_cons_zero]
      refine wpAnyH_callD (some 56) (i := 17) 24 #[] (R := fun v W => v = .agg (rowOf 3 codPkt) ∧ y4.grownBy W none) (by kernel_rfl) rfl rfl rfl (exec_fn0 _ rfl) bpCo_enters ((codPkt_any y4).mono fun e W h => ⟨_, h.1, rfl, h.2⟩) ?_
      rintro v y5 ⟨rfl, hy⟩
      have gy5 := grown_trans gy4 hy
      clear hy
      refine ⟨gy5, ?_⟩
      simp only [Act.put, List.setIfInBounds_toArray, List.set_cons_succ, List.set_cons_zero]
      refine wpAnyH_callD (some 61) (i := 22) 44 #[.agg (rowOf 3 codPkt), .agg (rowOf 21 x.p.v), .slice a L c, .int .i64 (cut : Nat), .func (.func 37) #[] #[]] (R := fun v W => v = .bool true ∧ y5.grownBy W none) (by kernel_rfl) rfl rfl rfl (exec_fn5 _ _ _ _ _ _ _ _ _ _ _ rfl rfl rfl rfl rfl rfl) bpBk_enters ((HBp.out y5 (grown_trans HG4.out gy5)).mono fun e W h => ⟨_, h.1, rfl, h.2⟩) ?_
      rintro v y6 ⟨rfl, hy⟩
      have gy6 := grown_trans gy5 hy
      clear hy
      refine ⟨gy6, ?_⟩
      simp only [Act.put, List.setIfInBounds_toArray, List.set_cons_succ, List.set_cons_zero]
      refine wpAnyH_takeD (some 62) (i := 23) (v := (.bool false)) rfl rfl (by kernel_rfl) (by kernel_rfl) (by kernel_rfl) (fun _ _ _ h => h) (Or.inl ⟨rfl, fun _ _ => by go_simp⟩) gy6 ?_
      simp only [Act.put, List.setIfInBounds_toArray, List.set_cons_succ, List.set_cons_zero]
      refine wpAnyH_takeD (some 63) (i := 24) (v := (.bool false)) rfl rfl (by kernel_rfl) (by kernel_rfl) (by kernel_rfl) (fun _ _ _ h => h) (Or.inl ⟨rfl, fun _ _ => by go_simp⟩) gy6 ?_
      simp only [Act.put, List.setIfInBounds_toArray, List.set_cons_succ, List.set_cons_zero]
      refine wpAnyH_done (by kernel_rfl) ?_ _
      obtain ⟨w5, hwj⟩ : ∃ W, W = y6 := ⟨_, rfl⟩
      rw [← hwj] at gy6 ⊢
      have HX5 := Lib.hid (HX4.out.grown gy6 (by simp))
      have HG5 := Lib.hid (grown_trans HG4.out gy6)
      clear HX4 HG4 gy1 gy2 gy3 gy4 gy5 gy6 gq hwj
      have hkd : 1 + cut % 3 ≤ 3 := by omega
      obtain ⟨kd, hkde⟩ : ∃ q, q = 1 + cut % 3 := ⟨_, rfl⟩
      rw [← hkde] at hkd
      have hk1 : 1 ≤ kd := by omega
      have e3 : (cut : Int) % 3 + 1 = (kd : Int) := by omega
      have e4 : 1 + (cut : Int) % 3 = (kd : Int) := by omega
      have i5 : (kd : Int) ≤ 3 := by omega
      have HRw := Lib.hid (HR.out.grown HG5.out (fun k e => by cases e))
      have HP := Lib.hid (pay_any w.heap.size kd L c a F w5 HRw.out (by have := HL9.out; omega))
      have hm : payMay kd L = decide (L ≤ 4095) := by unfold payMay; rw [decide_eq_true hk1, decide_eq_true hkd]; rfl
      rw [hm] at HP
      have HKD := Lib.hid hkd
      have HK1 := Lib.hid hk1
      clear hkd hk1 hkde hm HBd HBh HBr HBe HBp
      by_cases h95 : L ≤ 4095
      · have j1 : ¬ (L : Int) > 4095 := by omega
        rw [decide_eq_true h95] at HP
        have H95 := Lib.hid h95
        clear h95
        go_wp2_with fail
        go_at_call 45
        refine HP.out.mono ?_
        rintro e w6 ⟨⟨pa, pc, rfl, hO⟩, g⟩
        have hO : OwnN w6 w5.heap.size (.slice pa (1 + L) pc) (1 + L) (cat 1 (fun _ => kd) F) := hO
        obtain ⟨hpc, hRp⟩ := own_rd hO
        rw [show (.slice pa (if true = true then 1 + L else 0) pc : Value) = .slice pa (1 + L) pc from rfl, show (.int .i64 (if true = true then 0 else 2) : Value) = .int .i64 0 from rfl]
        have HG6 := Lib.hid (grown_trans HG5.out g)
        have hpk : paidOk (1 + L) (cat 1 (fun _ => kd) F) = true := by
          have h1 := HK1.out
          have h2 := HKD.out
          have h3 := H95.out
          have e0 : cat 1 (fun _ => kd) F 0 = kd := rfl
          unfold paidOk payMay
          rw [e0, decide_eq_true (show 1 ≤ 1 + L by omega), decide_eq_true h1, decide_eq_true h2, decide_eq_true (show 1 + L - 1 ≤ 4095 by omega)]
          rfl
        have HD := Lib.hid (paid_any w6.heap.size (1 + L) pc pa (cat 1 (fun _ => kd) F) w6 hRp hpc (by have := H95.out; omega))
        have HPK := Lib.hid hpk
        clear g hO hRp hpc hpk HP HX5 HG5
        go_wp2_with fail
        go_at_call 46
        refine HD.out.mono ?_
        rintro e w7 ⟨⟨qa, qc, rfl, hO⟩, g⟩
        rw [HPK.out] at hO ⊢
        have hO : OwnN w7 w6.heap.size (.slice qa (1 + L - 1) qc) (1 + L - 1) (fun i => cat 1 (fun _ => kd) F (1 + i)) := hO
        have hO2 : OwnN w7 w6.heap.size (.slice qa L qc) L F := by
          rw [show 1 + L - 1 = L by omega] at hO
          rcases hO.ex with ⟨p, q⟩ | ⟨u, v, p, q, r⟩
          · exact ⟨Or.inl ⟨p, q⟩⟩
          · refine ⟨Or.inr ⟨u, v, p, q.congr (fun i _ => ?_), r⟩⟩
            show cat 1 (fun _ => kd) F (1 + i) = F i
            unfold cat
            rw [if_neg (by omega), Nat.add_sub_cancel_left]
        obtain ⟨_, hRq⟩ := own_rd hO2
        rw [show (.slice qa (if true = true then 1 + L - 1 else 0) qc : Value) = .slice qa L qc by rw [if_pos rfl, show 1 + L - 1 = L by omega], show (.int .u8 ((if true = true then cat 1 (fun _ => kd) F 0 else 0 : Nat) : Int) : Value) = .int .u8 kd from rfl, show (.int .i64 (if true = true then 0 else 9) : Value) = .int .i64 0 from rfl]
        have HG7 := Lib.hid (grown_trans HG6.out g)
        have hs1 := run_string qc hRq HF.out
        have hs2 := run_string c (HR.out.grown HG7.out (fun k e => by cases e)) HF.out
        obtain ⟨sx, hsx⟩ : ∃ s, s = strOf L F := ⟨_, rfl⟩
        rw [← hsx] at hs1 hs2
        have HW := Lib.hid (works_any w7)
        clear g hO hO2 hRq hsx HG6 HD HPK
        go_wp2_with fail
        go_at_call 9
        refine HW.out.mono ?_
        rintro e w8 ⟨rfl, g⟩
        have HG8 := Lib.hid (grown_trans HG7.out g)
        clear g HW HG7 hs1 hs2
        go_wp2_with fail
        go_ret
        exact ⟨rfl, HG8.out⟩
      · have j1 : (L : Int) > 4095 := by omega
        rw [decide_eq_false h95] at HP
        clear h95
        go_wp2_with fail
        go_at_call 45
        refine HP.out.mono ?_
        rintro e w6 ⟨⟨pa, pc, rfl, hO⟩, g⟩
        rw [show (.slice pa (if false = true then 1 + L else 0) pc : Value) = .slice pa 0 pc from rfl, show (.int .i64 (if false = true then 0 else 2) : Value) = .int .i64 2 from rfl]
        have HG6 := Lib.hid (grown_trans HG5.out g)
        have HW := Lib.hid (works_any w6)
        clear g hO HP HX5 HG5
        go_wp2_with fail
        go_at_call 9
        refine HW.out.mono ?_
        rintro e w7 ⟨rfl, g⟩
        have HG7 := Lib.hid (grown_trans HG6.out g)
        clear g HW HG6
        go_wp2_with fail
        go_ret
        exact ⟨rfl, HG7.out⟩
end Go.Proofs.Ytmbefbmpjkbnmaa
namespace Go.Proofs.Ytmbefbmpjkbnmaa
open Go.ChangeShapes Go.WideShapes Go.ChangeAt Go.RowKit

set_option maxRecDepth 100000 in
theorem distBack_lifted (os : Os) (started : os.Started) (H : Type) (enc : TypeId × Value → H) :
    ReturnsInHanded {} Try.checked os 5 .any (Rows.distBackSpec.pre6 enc Try.prog Try.f5 Rows.distBackRow.domain false) (Rows.distBackSpec.post enc Try.prog Try.f5 false true false false) := by
  refine returnsInHanded_of_change_sized (C := Try.checked) own started (by kernel_rfl) Try.func5
    (ChangeSpec.witness6 (enc := enc) (C := Try.checked) false ⟨#[], #[.agg Try.zeroCells45, .slice none 0 0, .int .u16 0], []⟩ 8 (by kernel_rfl) (by kernel_rfl) (by kernel_rfl) (by kernel_rfl)) ?_
  intro W base args ds gs before hval0 hW _ hwt _
  have hval : ∀ (j : Nat) t v, Try.f5.params[j]? = some t → args[j]? = some v → Value.okWide Try.prog W .any base t v := hval0
  have hW' := hW
  obtain ⟨p, q, hA0, hV, rfl, _, _⟩ := hW
  have hA : DataW.TrodAll enc Try.prog W 0 (fun _ => true) true Try.f5.params.toList args.toList ds p := hA0
  have hwt' : (DataW.weightsEach Try.prog (Try.f5.params.toList ++ Rows.distBackSpec.plain.varTypes Try.prog) (ds ++ gs)).all (· ≤ reachBytes) = true := hwt
  rw [Try.params5] at hA hval hwt'
  obtain ⟨v0, vs0, d0, ds0, p0, q0, hv0, rfl, rfl, h0, hA1⟩ := trodAll_cons hA
  obtain ⟨v1, vs1, d1, ds1, p1, q1, rfl, rfl, rfl, h1, hA2⟩ := trodAll_cons hA1
  obtain ⟨v2, vs2, d2, ds2, p2, q2, rfl, rfl, rfl, h2, hA3⟩ := trodAll_cons hA2
  obtain ⟨rfl, rfl, rfl⟩ := trodAll_nil hA3
  obtain ⟨l⟩ := args
  simp only at hv0
  subst hv0
  obtain ⟨rfl, rfl⟩ := trodVars_none hV
  have hw0 : ∀ y, y ∈ DataW.weights Try.prog 45 d0 → y ≤ reachBytes := fun y hy => by
    have hm : y ∈ DataW.weightsEach Try.prog (#[45, 39, 114].toList ++ Rows.distBackSpec.plain.varTypes Try.prog) ([d0, d1, d2] ++ []) := List.mem_append.2 (Or.inl hy)
    simpa using List.all_eq_true.1 hwt' y hm
  have hw1 : ∀ y, y ∈ DataW.weights Try.prog 39 d1 → y ≤ reachBytes := fun y hy => by
    have hm : y ∈ DataW.weightsEach Try.prog (#[45, 39, 114].toList ++ Rows.distBackSpec.plain.varTypes Try.prog) ([d0, d1, d2] ++ []) := List.mem_append.2 (Or.inr (List.mem_append.2 (Or.inl hy)))
    simpa using List.all_eq_true.1 hwt' y hm
  obtain ⟨x0, rfl, hO0⟩ := open_all (hval 0 45 v0 rfl rfl) h0 hw0
  obtain ⟨a1, n1, c1, f1, rfl, hc1, hn1, hR1, hf1⟩ := open_bytesW (P := Try.prog) under_bytes (by kernel_rfl) (by kernel_rfl) (by rw [show Try.prog.bytesOf 5 = 1 by kernel_rfl]; decide) (hval 1 39 v1 rfl rfl) h1 hw1
  obtain ⟨z2, rfl, rfl, rfl, hz2⟩ := open_int Try.underlying114 (hval 2 114 v2 rfl rfl) h2
  obtain ⟨x2, rfl, hr2⟩ : ∃ m : Nat, z2 = (m : Int) ∧ m < 65536 := by
    have := hz2
    simp [Lit.wf, IntKind.min, IntKind.max, IntKind.bits, IntKind.signed] at this
    exact ⟨z2.toNat, by omega, by omega⟩
  clear hA0 hval0
  refine (DistBack_any x0 n1 c1 x2 a1 f1 W hO0 hR1 hc1 hn1 hf1 hr2).mono fun e W' ⟨he, hg⟩ => ?_
  subst he
  exact ⟨_, rfl, law_post laidOut hW' rfl rfl (tb := 4) rfl Try.underlying4 (by
      rw [Try.params5]
      intro t ht
      have hall : (([45, 39, 114] : List TypeId).all fun u => Try.prog.readableRec u && decide (u < Try.prog.types.size)) = true := by kernel_rfl
      have := List.all_eq_true.1 hall t (by simpa using ht)
      simpa using this) hg⟩

theorem distBack_holds : Rows.DistBackSaid :=
  OpenClaim.holds_of_wide 5 Try.f5 rfl rfl rfl rfl rfl rfl rfl ⟨rfl, rfl, rfl, rfl, rfl⟩ rfl rfl rfl rfl rfl (by kernel_rfl) Try.func5 (by kernel_rfl)
    (of_decide_eq_true (by kernel_rfl)) (by unfold Func.isWrapper; first | (rw [if_pos (by decide +kernel)]; kernel_rfl) | (rw [if_neg (by decide +kernel)]; exact ⟨rfl, rfl⟩))
    (fun os started H enc _ => distBack_lifted os started H enc)

end Go.Proofs.Ytmbefbmpjkbnmaa
