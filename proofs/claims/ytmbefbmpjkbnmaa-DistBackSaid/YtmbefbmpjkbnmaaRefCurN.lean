/-
  The reference's cursor: num, flag, dev, ok.
-/
import Derived.Test.YtmbefbmpjkbnmaaRefCur
import Derived.Test.YtmbefbmpjkbnmaaRefSign1
import Derived.Test.YtmbefbmpjkbnmaaInFlag
namespace Go.Proofs.Ytmbefbmpjkbnmaa
open Go.RowKit

set_option maxRecDepth 100000
set_option maxHeartbeats 2000000

theorem Rd.firstQ {w : World} {D n k : Nat} {a : Option Addr} {f : Nat → Nat} (h : Rd w D a n f) (hk : k ≤ n) : Rd w D a k f := ⟨fun h0 => by
  obtain ⟨tb, o, h1, h2, h3⟩ := h.ex (by omega)
  exact ⟨tb, o, h1, h2, fun i hi => h3 i (by omega)⟩⟩
theorem ofB8_zero (k : Nat) : ofB8 (fun _ => 0) k = 0 := by
  induction k with
  | zero => rfl
  | succ k ih => simp [ofB8, ih]
theorem ISt.got_fits (L : Nat) (s : ISt) (n : Nat) : s.got L n = if s.fits L n = true then n else 0 := by
  cases s with
  | nil => rfl
  | bad => rfl
  | good p =>
    show (if 0 ≤ (n : Int) ∧ (n : Int) ≤ ((L - p : Nat) : Int) then (n : Int).toNat else 0) = if decide (n ≤ L - p) = true then n else 0
    by_cases h : n ≤ L - p
    · rw [if_pos (by omega), if_pos (by simp [h]), Int.toNat_natCast]
    · rw [if_neg (by omega), if_neg (by simp [h])]
theorem ISt.num_c (L : Nat) (F : Nat → Nat) (s : ISt) (n : Nat) : ofB8 (s.cF L F n) n = s.num L F n := by
  unfold ISt.num
  rw [ISt.got_fits]
  by_cases h : s.fits L n = true
  · rw [if_pos h]
    exact congrArg (fun f => ofB8 f n) (funext fun i => if_pos h)
  · rw [if_neg h]
    show _ = 0
    rw [show s.cF L F n = fun _ => 0 from funext fun i => if_neg h]
    exact ofB8_zero n
theorem ISt.cF_lt {L : Nat} {F : Nat → Nat} (s : ISt) (n : Nat) (hF : ∀ i, F i < 256) (i : Nat) : s.cF L F n i < 256 := by
  unfold ISt.cF
  split
  · exact hF _
  · omega
structure CNum (w : World) (g L : Nat) (F : Nat → Nat) (s : ISt) (n : Nat) (e : Ending) (w' : World) : Prop where
  ex : e = .returned (.int .u64 (s.num L F n : Nat))
  st : CAt w' g L F (s.take L n)
  gr : w.grownBy w' (some g)
theorem curNum_any {w : World} {g L : Nat} {F : Nat → Nat} {s : ISt} (n : Nat) (h : CAt w g L F s) (h0 : 0 < n) (h1 : n ≤ 8) (hF : ∀ i, F i < 256) : Calls Try.prog 110 #[.pointer (some ⟨g, 0, none⟩), .int .i64 n] w (CNum w g L F s n) := by
  have HP := Lib.hid (curPart_any n h h0 (by omega))
  have HF := Lib.hid hF
  have H1 := Lib.hid h1
  clear hF
  go_enter Try.func110, Try.ntmps110
  go_wp2_with fail
  go_at_call 109
  refine HP.out.mono ?_
  rintro e w1 ⟨⟨a, m, c, rfl, hnm, hmc, hR⟩, hst, hgr⟩
  have hs := run_aheadQ a m c n hmc hnm
  have HO := Lib.hid (sgOf_w (s.cF L F n) (s.cF_lt n HF.out) n c a w1.heap.size w1 h1 (hR.firstQ hnm))
  have HST := Lib.hid hst
  have HG := Lib.hid hgr
  clear hst hgr hR hnm hmc h1 h0 h
  go_wp2_with fail
  go_at_call 139
  refine HO.out.mono ?_
  rintro e w2 ⟨rfl, rfl⟩
  go_wp2_with fail
  go_ret
  exact ⟨by rw [← ISt.num_c]; rfl, HST.out, HG.out⟩
structure CFlag (w : World) (g L : Nat) (F : Nat → Nat) (s : ISt) (e : Ending) (w' : World) : Prop where
  ex : e = .returned (.bool (decide (s.num L F 1 = 1)))
  st : CAt w' g L F (s.flagS L F)
  gr : w.grownBy w' (some g)
theorem CAt.wrong {w : World} {g L : Nat} {F : Nat → Nat} {s : ISt} (h : CAt w g L F s) : ∃ a c p b, CCells w g (.slice a L c) p b ∧ p ≤ L ∧ L ≤ c ∧ CAt (w.setCell ⟨g, 2, none⟩ (.bool true)) g L F s.fail ∧ (b = false → CAt (w.setCell ⟨g, 2, none⟩ (.bool false)) g L F s ∧ s = .good p) ∧ (b = true → s = .bad) := by
  have hs := h.st
  cases s with
  | nil => exact hs.elim
  | bad =>
    obtain ⟨a, c, p, h1, h2, h3⟩ := hs
    exact ⟨a, c, p, true, h1, h3, h2, ⟨⟨a, c, p, h1.bad true, h2, h3⟩, h.big⟩, fun e => (by cases e), fun _ => rfl⟩
  | good p =>
    obtain ⟨a, c, h1, h2, h3, h4⟩ := hs
    exact ⟨a, c, p, false, h1, h3, h2, ⟨⟨a, c, p, h1.bad true, h2, h3⟩, h.big⟩, fun _ => ⟨⟨⟨a, c, h1.bad false, h2, h3, h4.grown (grown_setCell_new (row := some g) (grown_refl w _) ⟨g, 2, none⟩ (.bool false) (Or.inr rfl)) (by simp)⟩, h.big⟩, rfl⟩, fun e => (by cases e)⟩
theorem ISt.fail_bad {s : ISt} (h : s = .bad) : s.fail = s := by subst h; rfl
theorem ISt.num_bad {L : Nat} {F : Nat → Nat} {s : ISt} {n : Nat} (h : s.take L n = .bad) : s.num L F n = 0 := by
  have h2 : s.fits L n = false := by
    cases s with
    | nil => rfl
    | bad => rfl
    | good p =>
      show decide (n ≤ L - p) = false
      have h' : (if 0 ≤ (n : Int) ∧ (n : Int) ≤ ((L - p : Nat) : Int) then ISt.good (p + (n : Int).toNat) else .bad) = .bad := h
      by_cases e : n ≤ L - p
      · rw [if_pos (by omega)] at h'
        cases h'
      · simp [e]
  unfold ISt.num
  rw [ISt.got_fits, h2]
  rfl
theorem curFlag_any {w : World} {g L : Nat} {F : Nat → Nat} {s : ISt} (h : CAt w g L F s) (hF : ∀ i, F i < 256) : Calls Try.prog 115 #[.pointer (some ⟨g, 0, none⟩)] w (CFlag w g L F s) := by
  have HP := Lib.hid (curNum_any 1 h (by decide) (by decide) hF)
  clear hF h
  go_enter Try.func115, Try.ntmps115
  go_wp2_with fail
  go_at_call 110
  refine HP.out.mono ?_
  rintro e w1 ⟨rfl, hst, hgr⟩
  obtain ⟨v, hv⟩ : ∃ v, v = s.num L F 1 := ⟨_, rfl⟩
  obtain ⟨a, c, p, b, hc, hp, hL, hB, hN, hS⟩ := hst.wrong
  have HV := Lib.hid hv
  have HB := Lib.hid hB
  have HN := Lib.hid hN
  have HS := Lib.hid hS
  have HC := Lib.hid hc
  have HG := Lib.hid hgr
  rw [← hv]
  have c2 := hc.c2
  have f2 := hc.fr 2
  clear hv hB hN hS hc hgr hst hp hL
  have HEQ := Lib.hid (show ∀ q : Nat, (((q : Int) == 1) = decide (q = 1)) from fun q => by
    by_cases e : q = 1
    · subst e; rfl
    · rw [decide_eq_false e]; exact beq_eq_false_iff_ne.2 (by omega))
  by_cases hb : b = true
  · subst hb
    go_wp2_with fail
    go_ret
    have e1 := HS.out (by trivial)
    refine ⟨?_, ?_, grown_setCell_new HG.out _ _ (Or.inr rfl)⟩
    · rw [← HV.out]; exact congrArg (fun b => Ending.returned (.bool b)) (HEQ.out v)
    · unfold ISt.flagS
      rw [← HV.out, HV.out, ISt.num_bad e1, if_neg (by omega)]
      show CAt _ g L F (s.take L ((1 : Nat) : Int))
      rw [← ISt.fail_bad e1]
      exact HB.out
  · obtain rfl : b = false := by cases b <;> simp_all
    clear hb
    by_cases h1 : 1 < v
    · have j1 : (1 : Int) < (v : Int) := by omega
      go_wp2_with fail
      go_ret
      refine ⟨?_, ?_, grown_setCell_new HG.out _ _ (Or.inr rfl)⟩
      · rw [← HV.out]; exact congrArg (fun b => Ending.returned (.bool b)) (HEQ.out v)
      · unfold ISt.flagS
        rw [← HV.out, if_pos h1]
        exact HB.out
    · have j1 : ¬ (1 : Int) < (v : Int) := by omega
      go_wp2_with fail
      go_ret
      refine ⟨?_, ?_, grown_setCell_new HG.out _ _ (Or.inr rfl)⟩
      · rw [← HV.out]; exact congrArg (fun b => Ending.returned (.bool b)) (HEQ.out v)
      · unfold ISt.flagS
        rw [← HV.out, if_neg h1]
        rw [decide_eq_false (show ¬ (1 : Int) < (v : Int) by omega)]
        exact (HN.out (by trivial)).1
end Go.Proofs.Ytmbefbmpjkbnmaa
