/-
  dist: bytes of one's own, for back.
-/
import Derived.Test.YtmbefbmpjkbnmaaDistBackAllb
import Derived.Test.YtmbefbmpjkbnmaaDistBackAlla
import Derived.Test.YtmbefbmpjkbnmaaStr
import Derived.Test.YtmbefbmpjkbnmaaExecQ
import Derived.Test.YtmbefbmpjkbnmaaLaw
import Derived.Test.YtmbefbmpjkbnmaaRows
import Derived.Stop.Joined
import Derived.LaidLaws
import Derived.Test.YtmbefbmpjkbnmaaRd
import Derived.Deep.Slices
import Derived.Test.YtmbefbmpjkbnmaaOrd3
namespace Go.Proofs.Ytmbefbmpjkbnmaa
open Go.RowKit

set_option maxRecDepth 100000

theorem ISt.all_good (L : Nat) (s : ISt) (h : s.all L = true) : s = .good L := by
  cases s with
  | nil => cases h
  | bad => cases h
  | good a => rw [of_decide_eq_true h]
theorem ISt.all_ok2 (L : Nat) (s : ISt) (h : s.all L = true) : s.ok2 = true := by rw [ISt.all_good L s h]; rfl
theorem ISt.all_no (L : Nat) (s : ISt) (h : s.ok2 = false) : s.all L = false := by
  cases s with
  | nil => rfl
  | bad => rfl
  | good a => cases h
theorem devMay_ext {f g : Nat → Nat} (h : ∀ j, j < 2 → f j = g j) : devMay f = devMay g := by
  unfold devMay
  rw [h 0 (by decide), h 1 (by decide)]
theorem eqN_ext {n : Nat} {f f' g g' : Nat → Nat} (h : ∀ j, j < n → f j = f' j) (h' : ∀ j, j < n → g j = g' j) : eqN n f g = eqN n f' g' := by
  rw [Bool.eq_iff_iff, eqN_iff, eqN_iff]
  exact ⟨fun e i hi => by rw [← h i hi, ← h' i hi]; exact e i hi, fun e i hi => by rw [h i hi, h' i hi]; exact e i hi⟩
theorem goMay_ext {f f' g g' : Nat → Nat} (h : ∀ j, j < 2 → f j = f' j) (h' : ∀ j, j < 2 → g j = g' j) : goMay f g = goMay f' g' := by
  unfold goMay
  rw [devMay_ext h, devMay_ext h', eqN_ext h h']
/-- A state that is good is at most at the end. -/
def ISt.inL (L : Nat) (s : ISt) : Prop := ∀ p, s = .good p → p ≤ L
theorem ISt.inL_zero (L : Nat) : (ISt.good 0).inL L := fun p h => by cases h; exact Nat.zero_le _
theorem ISt.inL_take (L : Nat) (s : ISt) (n : Int) (h : s.inL L) : (s.take L n).inL L := by
  intro p hp
  cases s with
  | nil => cases hp
  | bad => cases hp
  | good a =>
    have ha := h a rfl
    by_cases e : 0 ≤ n ∧ n ≤ ((L - a : Nat) : Int)
    · have : ISt.take L (.good a) n = .good (a + n.toNat) := if_pos e
      rw [this] at hp
      cases hp
      omega
    · have : ISt.take L (.good a) n = .bad := if_neg e
      rw [this] at hp
      cases hp
theorem ISt.fail_no (s : ISt) (L : Nat) : s.fail.all L = false := by cases s <;> rfl
theorem ISt.take_end (L p n : Nat) (hp : p ≤ L) : (ISt.take L (.good p) (n : Int)).all L = decide (n = L - p) := by
  by_cases e : n ≤ L - p
  · have : ISt.take L (.good p) (n : Int) = .good (p + n) := if_pos ⟨by omega, by omega⟩
    rw [this]
    show decide (p + n = L) = _
    rw [decide_eq_decide]
    omega
  · have : ISt.take L (.good p) (n : Int) = .bad := if_neg (by omega)
    rw [this, decide_eq_false (by omega)]
    rfl
theorem ISt.got_end (L p n : Nat) (h : n = L - p) : ISt.got L (.good p) (n : Int) = n := if_pos ⟨by omega, by omega⟩
-- a sender's key
theorem distS_eq (L : Nat) : gd.distS L = distS L := by
  unfold ISt.distS distS
  rw [ISt.take11]
  rfl
theorem dist_sd (L : Nat) (F : Nat → Nat) (h : (distS L).all L = true) (j : Nat) (hj : j < 2) : (gd.dist L F).sd j = (distV L F).sd j := by
  have h1 := (ISt.take_good L _ 32 (ISt.all_ok2 L _ h)).1
  have h2 := (ISt.take_good L _ 8 h1).1
  have h3 := (ISt.take_good L _ 2 h2).2
  exact ISt.devC_cF L F _ h3 j hj
theorem dOk_eq (L : Nat) (F : Nat → Nat) : dOk L F = distOk L F := by
  unfold dOk distOk
  rw [distS_eq]
  cases h : (distS L).all L with
  | false => rfl
  | true => rw [devMay_ext (dist_sd L F h)]
theorem dVal_eq (L : Nat) (F : Nat → Nat) : rowOf 52 (if dOk L F = true then gd.dist L F else DV.zero).v = rowOf 52 (distOf L F).v := by
  unfold distOf
  rw [dOk_eq]
  cases h : distOk L F with
  | false => rfl
  | true =>
    rw [if_pos rfl, if_pos rfl]
    have hs : (distS L).all L = true := by
      unfold distOk at h
      rw [Bool.and_eq_true] at h
      exact h.1
    have e4 : (gd.dist L F).kid = (distV L F).kid := by
      show ((((gd.take L 16).take L 8).take L 1).take L 1).num L F 8 = _
      rw [ISt.take11]; rfl
    have e5 : (gd.dist L F).key = (distV L F).key := by
      show (((((gd.take L 16).take L 8).take L 1).take L 1).take L 8).cF L F 32 = _
      rw [ISt.take11]; rfl
    refine rowOf_congr fun i hi => ?_
    unfold DV.v
    rw [e4, e5]
    repeat' split
    all_goals first | rfl | exact congrArg (fun q : Nat => Value.int .u8 (q : Int)) (dist_sd L F hs _ (by omega))
-- a packet
theorem pktB_eq (L : Nat) : gd.pktB L = (((((ISt.good 0).take L 2).take L 2).take L ((16 : Nat) : Int)).take L ((4 : Nat) : Int)) := by
  unfold ISt.pktB
  rw [ISt.take11, ISt.take11]
  rfl
theorem pktN_eq (L : Nat) (F : Nat → Nat) : gd.pktN L F = ((((ISt.good 0).take L 2).take L 2).take L ((16 : Nat) : Int)).num L F 4 := by
  unfold ISt.pktN
  rw [ISt.take11, ISt.take11]
  rfl
theorem pkt_fr (L : Nat) (F : Nat → Nat) (a : Option Addr) (c : Nat) (h : (gd.pktB L).ok2 = true) (j : Nat) (hj : j < 2) : (gd.pkt L F a c).fr j = (pkt2 L F a c).fr j := by
  rw [pktB_eq] at h
  have h1 := (ISt.take_good L _ 4 h).1
  have h2 := (ISt.take_good L _ 16 h1).1
  have h3 := (ISt.take_good L _ 2 h2).1
  exact ISt.devC_cF L F _ (ISt.take_good L _ 2 h3).2 j hj
theorem pkt_tw (L : Nat) (F : Nat → Nat) (a : Option Addr) (c : Nat) (h : (gd.pktB L).ok2 = true) (j : Nat) (hj : j < 2) : (gd.pkt L F a c).tw j = (pkt2 L F a c).tw j := by
  rw [pktB_eq] at h
  have h1 := (ISt.take_good L _ 4 h).1
  have h2 := (ISt.take_good L _ 16 h1).1
  have h3 := (ISt.take_good L _ 2 h2).2
  show ((gd.take L 1).take L 1).devC L F j = _
  rw [ISt.take11]
  exact ISt.devC_cF L F _ h3 j hj
theorem pkt_id (L : Nat) (F : Nat → Nat) (a : Option Addr) (c : Nat) : (gd.pkt L F a c).id = (pkt2 L F a c).id := by
  show ((((gd.take L 1).take L 1).take L 1).take L 1).cF L F 16 = _
  rw [ISt.take11, ISt.take11]
  rfl
theorem pkt_in (L p : Nat) (h : gd.pktB L = .good p) : p ≤ L := by
  rw [pktB_eq] at h
  exact ISt.inL_take L _ _ (ISt.inL_take L _ _ (ISt.inL_take L _ _ (ISt.inL_take L _ _ (ISt.inL_zero L)))) p h
/-- What the code takes and what the document takes. -/
theorem pOk_eq (L : Nat) (F : Nat → Nat) : pOk L F = pOk2 L F := by
  unfold pOk pOk2
  rw [← pktB_eq, ← pktN_eq]
  unfold ISt.pktS
  cases h : gd.pktB L with
  | nil => rfl
  | bad => rfl
  | good p =>
    show ((ISt.take L (.good p) (gd.pktN L F : Int)).all L && _) = _
    rw [ISt.take_end L p _ (pkt_in L p h)]
    show (_ && _) = (decide (gd.pktN L F = L - p) && _)
    by_cases e : gd.pktN L F = L - p
    · rw [decide_eq_true e, Bool.true_and, Bool.true_and]
      have hg : (gd.pktB L).ok2 = true := by rw [h]; rfl
      have hl : gd.pktL L F = gd.pktN L F := by
        unfold ISt.pktL
        rw [h]
        exact ISt.got_end L p _ e
      unfold pktMay
      rw [goMay_ext (pkt_fr L F none 0 hg) (pkt_tw L F none 0 hg)]
      show (_ && decide (gd.pktL L F ≤ 70000)) = (_ && decide (_ ≤ 70000))
      rw [hl, pktN_eq]
      rfl
    · rw [decide_eq_false e, Bool.false_and, Bool.false_and]
theorem pOk_at (L : Nat) (F : Nat → Nat) (h : pOk2 L F = true) : gd.pktB L = .good (L - gd.pktN L F) ∧ gd.pktL L F = gd.pktN L F := by
  unfold pOk2 at h
  rw [← pktB_eq, ← pktN_eq] at h
  cases e : gd.pktB L with
  | nil => rw [e] at h; cases h
  | bad => rw [e] at h; cases h
  | good p =>
    rw [e] at h
    have h : (decide (gd.pktN L F = L - p) && _) = true := h
    rw [Bool.and_eq_true, decide_eq_true_eq] at h
    have hp := pkt_in L p e
    refine ⟨by rw [h.1, show L - (L - p) = p by omega], ?_⟩
    unfold ISt.pktL
    rw [e]
    exact ISt.got_end L p _ h.1
-- an envelope
theorem ISt.inL_flag (L : Nat) (F : Nat → Nat) (s : ISt) (h : s.inL L) : (s.flagS L F).inL L := by
  unfold ISt.flagS
  split
  · intro p hp
    cases e : s.take L 1 with
    | nil => rw [e] at hp; cases hp
    | bad => rw [e] at hp; cases hp
    | good a => rw [e] at hp; cases hp
  · exact ISt.inL_take L s 1 h
theorem ISt.inL_set (L : Nat) (F : Nat → Nat) (s : ISt) (h : s.inL L) : (s.setS L F).inL L := by
  have h1 := ISt.inL_flag L F s h
  have h2 := ISt.inL_flag L F _ (ISt.inL_take L _ 32 (ISt.inL_take L _ 32 h1))
  unfold ISt.setS
  split
  · unfold ISt.setS1
    split
    · exact ISt.inL_take L _ 4 h2
    · exact h2
  · exact h1
theorem ISt.set_ok2 (L : Nat) (F : Nat → Nat) (s : ISt) (h : (s.setS L F).ok2 = true) : s.ok2 = true := by
  cases s with
  | nil => cases h
  | bad => cases h
  | good a => rfl
theorem envH_eq (L : Nat) (F : Nat → Nat) : gd.envH L F = ((((ISt.good 0).take L 2).take L 2).setS L F).hdrS L := by
  unfold ISt.envH
  rw [ISt.take11, ISt.take11]
  rfl
theorem env_has (L : Nat) (F : Nat → Nat) (a : Option Addr) (c : Nat) : (gd.env L F a c).has = (env2 L F a c).has ∧ (gd.env L F a c).st = (env2 L F a c).st ∧ (gd.env L F a c).hd = (env2 L F a c).hd := by
  refine ⟨?_, ?_, ?_⟩
  · show decide (((((gd.take L 1).take L 1).take L 1).take L 1).num L F 1 = 1) = _
    rw [ISt.take11, ISt.take11]; rfl
  · show ((((gd.take L 1).take L 1).take L 1).take L 1).setV L F = _
    rw [ISt.take11, ISt.take11]; rfl
  · show (((((gd.take L 1).take L 1).take L 1).take L 1).setS L F).hdr L F = _
    rw [ISt.take11, ISt.take11]; rfl
theorem env_chain (L : Nat) (F : Nat → Nat) (h : ((gd.envH L F).take L 2).ok2 = true) : ((ISt.good 0).take L 2).fits L 2 = true ∧ (ISt.good 0).fits L 2 = true := by
  have h1 := (ISt.take_good L _ 2 h).1
  rw [envH_eq] at h1
  have h2 := (ISt.take_good L _ 32 (ISt.take_good L _ 4 (ISt.take_good L _ 4 h1).1).1).1
  have h3 := ISt.set_ok2 L F _ h2
  have h4 := ISt.take_good L _ 2 h3
  exact ⟨h4.2, (ISt.take_good L _ 2 h4.1).2⟩
theorem env_fr (L : Nat) (F : Nat → Nat) (a : Option Addr) (c : Nat) (h : ((gd.envH L F).take L 2).ok2 = true) (j : Nat) (hj : j < 2) : (gd.env L F a c).fr j = (env2 L F a c).fr j := ISt.devC_cF L F _ (env_chain L F h).2 j hj
theorem env_tw (L : Nat) (F : Nat → Nat) (a : Option Addr) (c : Nat) (h : ((gd.envH L F).take L 2).ok2 = true) (j : Nat) (hj : j < 2) : (gd.env L F a c).tw j = (env2 L F a c).tw j := by
  show ((gd.take L 1).take L 1).devC L F j = _
  rw [ISt.take11]
  exact ISt.devC_cF L F _ (env_chain L F h).1 j hj
theorem env_in (L : Nat) (F : Nat → Nat) (p : Nat) (h : (gd.envH L F).take L 2 = .good p) : p ≤ L := by
  rw [envH_eq] at h
  have h1 := ISt.inL_set L F _ (ISt.inL_take L _ 2 (ISt.inL_take L _ 2 (ISt.inL_zero L)))
  exact ISt.inL_take L _ 2 (ISt.inL_take L _ 4 (ISt.inL_take L _ 4 (ISt.inL_take L _ 32 h1))) p h
theorem ISt.bad_all (L : Nat) (s : ISt) (n : Int) : (s.fail.take L n).all L = false := by cases s <;> rfl
theorem env_small (L : Nat) (F : Nat → Nat) (h : (gd.envH L F).num L F 2 ≤ 4096) : gd.envB L F = (gd.envH L F).take L 2 ∧ (gd.envH L F).cntV L F 4096 = (gd.envH L F).num L F 2 := by
  unfold ISt.envB ISt.cntS ISt.cntV
  rw [if_neg (by omega), if_neg (by omega)]
  exact ⟨rfl, rfl⟩
theorem eOk2_is (L : Nat) (F : Nat → Nat) : eOk2 L F = match (gd.envH L F).take L 2 with
  | .good p => decide ((gd.envH L F).num L F 2 ≤ 4096) && decide ((gd.envH L F).num L F 2 = L - p) && envMay (env2 L F none 0)
  | _ => false := by
  rw [envH_eq]
  rfl
theorem eOk_eq (L : Nat) (F : Nat → Nat) : eOk L F = eOk2 L F := by
  rw [eOk2_is]
  unfold eOk ISt.envS
  by_cases h4 : (gd.envH L F).num L F 2 ≤ 4096
  · obtain ⟨e1, e2⟩ := env_small L F h4
    rw [e2]
    cases h : (gd.envH L F).take L 2 with
    | nil => rw [e1, h]; rfl
    | bad => rw [e1, h]; rfl
    | good p =>
      rw [e1, h, ISt.take_end L p _ (env_in L F p h)]
      show (_ && _) = (decide ((gd.envH L F).num L F 2 ≤ 4096) && decide ((gd.envH L F).num L F 2 = L - p) && _)
      rw [decide_eq_true h4, Bool.true_and]
      by_cases e : (gd.envH L F).num L F 2 = L - p
      · rw [decide_eq_true e, Bool.true_and, Bool.true_and]
        have hg : ((gd.envH L F).take L 2).ok2 = true := by rw [h]; rfl
        have hl : gd.envL L F = (gd.envH L F).num L F 2 := by
          unfold ISt.envL
          rw [e1, e2, h]
          exact ISt.got_end L p _ e
        obtain ⟨q1, q2, _⟩ := env_has L F none 0
        unfold envMay
        rw [goMay_ext (env_fr L F none 0 hg) (env_tw L F none 0 hg), q1, q2]
        show (_ && decide (gd.envL L F ≤ 4096)) = (_ && decide (_ ≤ 4096))
        rw [hl, envH_eq]
        rfl
      · rw [decide_eq_false e, Bool.false_and, Bool.false_and]
  · have e1 : gd.envB L F = ((gd.envH L F).take L 2).fail := by
      unfold ISt.envB ISt.cntS
      rw [if_pos (by omega)]
    rw [e1, ISt.bad_all, Bool.false_and]
    cases h : (gd.envH L F).take L 2 with
    | nil => rfl
    | bad => rfl
    | good p =>
      show false = (decide ((gd.envH L F).num L F 2 ≤ 4096) && _ && _)
      rw [decide_eq_false h4, Bool.false_and, Bool.false_and]
theorem eOk_at (L : Nat) (F : Nat → Nat) (h : eOk2 L F = true) : gd.envB L F = .good (L - (gd.envH L F).num L F 2) ∧ gd.envL L F = (gd.envH L F).num L F 2 ∧ ((gd.envH L F).take L 2).ok2 = true := by
  rw [eOk2_is] at h
  cases e : (gd.envH L F).take L 2 with
  | nil => rw [e] at h; cases h
  | bad => rw [e] at h; cases h
  | good p =>
    rw [e] at h
    have h : (decide ((gd.envH L F).num L F 2 ≤ 4096) && decide ((gd.envH L F).num L F 2 = L - p) && _) = true := h
    rw [Bool.and_eq_true, Bool.and_eq_true, decide_eq_true_eq, decide_eq_true_eq] at h
    have hp := env_in L F p e
    obtain ⟨e1, e2⟩ := env_small L F h.1.1
    refine ⟨by rw [e1, e, h.1.2, show L - (L - p) = p by omega], ?_, rfl⟩
    unfold ISt.envL
    rw [e1, e2, e]
    exact ISt.got_end L p _ h.1.2
-- a roster
theorem devs_dv2 (L : Nat) (s : ISt) : ∀ k, s.devs L k = s.dv2 L k
  | 0 => rfl
  | k + 1 => by
    show ((s.devs L k).take L 1).take L 1 = (s.dv2 L k).take L 2
    rw [ISt.take11, devs_dv2 L s k]
theorem memOk_ext {fm fm' : Nat → Nat → Nat} (i : Nat) (h : ∀ q, q ≤ i → ∀ j, j < 2 → fm q j = fm' q j) : memOk fm i = memOk fm' i := by
  unfold memOk
  rw [devMay_ext (h i (Nat.le_refl _))]
  by_cases e : i = 0
  · rw [decide_eq_true e, Bool.true_or, Bool.true_or]
  · unfold cmpD
    rw [h i (Nat.le_refl _) 0 (by decide), h i (Nat.le_refl _) 1 (by decide), h (i - 1) (by omega) 0 (by decide), h (i - 1) (by omega) 1 (by decide)]
theorem memMay_ext {n : Nat} {fm fm' : Nat → Nat → Nat} (h : ∀ q, q < n → ∀ j, j < 2 → fm q j = fm' q j) : memMay n fm = memMay n fm' := by
  unfold memMay
  congr 1
  rw [Bool.eq_iff_iff, List.all_eq_true, List.all_eq_true]
  exact ⟨fun e i hi => by rw [← memOk_ext i (fun q hq => h q (by have := List.mem_range.1 hi; omega))]; exact e i hi, fun e i hi => by rw [memOk_ext i (fun q hq => h q (by have := List.mem_range.1 hi; omega))]; exact e i hi⟩
theorem rosH_eq (L : Nat) : gd.rosH L = ((ISt.good 0).take L ((16 : Nat) : Int)).take L ((8 : Nat) : Int) := rfl
theorem dv2_good (L : Nat) (s : ISt) (n : Nat) (h : (s.dv2 L n).isGood = true) (i : Nat) (hi : i ≤ n) : (s.dv2 L i).ok2 = true := by
  cases e : s.dv2 L i with
  | good a => rfl
  | nil => exfalso; rw [ISt.dv2_stay L s i (by rw [e]; rfl) n hi, e] at h; cases h
  | bad => exfalso; rw [ISt.dv2_stay L s i (by rw [e]; rfl) n hi, e] at h; cases h
theorem ros_fm (L : Nat) (F : Nat → Nat) (s : ISt) (n : Nat) (h : (s.dv2 L n).isGood = true) (i : Nat) (hi : i < n) (j : Nat) (hj : j < 2) : (s.devs L i).devC L F j = (s.dv2 L i).cF L F 2 j := by
  rw [devs_dv2]
  exact ISt.devC_cF L F _ (ISt.take_good L _ 2 (dv2_good L s n h (i + 1) hi)).2 j hj
theorem ros_small (L : Nat) (F : Nat → Nat) (h : (gd.rosH L).num L F 2 ≤ 32) : gd.rosB L F = (gd.rosH L).take L 2 ∧ gd.rosN L F = (gd.rosH L).num L F 2 := by
  unfold ISt.rosB ISt.rosN ISt.cntS ISt.cntV
  rw [if_neg (by omega), if_neg (by omega)]
  exact ⟨rfl, rfl⟩
theorem fail_devs (L : Nat) (s : ISt) (k : Nat) : (s.fail.devs L k).all L = false := by
  have h : (s.fail.devs L 0).isGood = false := by cases s <;> rfl
  rw [ISt.devs_stay L s.fail 0 h k (Nat.zero_le _)]
  cases s <;> rfl
theorem rOk2_is (L : Nat) (F : Nat → Nat) : rOk2 L F = (decide ((gd.rosH L).num L F 2 ≤ 32) && (((gd.rosH L).take L 2).dv2 L ((gd.rosH L).num L F 2)).all L && memMay ((gd.rosH L).num L F 2) (fun q => (((gd.rosH L).take L 2).dv2 L q).cF L F 2)) := rfl
theorem rOk_eq (L : Nat) (F : Nat → Nat) : rOk L F = rOk2 L F := by
  rw [rOk2_is]
  unfold rOk ISt.rosS ISt.rosL ISt.rosM ISt.dvN
  by_cases h3 : (gd.rosH L).num L F 2 ≤ 32
  · obtain ⟨e1, e2⟩ := ros_small L F h3
    rw [e1, e2, decide_eq_true h3, Bool.true_and, devs_dv2]
    cases h : (((gd.rosH L).take L 2).dv2 L ((gd.rosH L).num L F 2)).all L with
    | false => rfl
    | true =>
      have hg : (((gd.rosH L).take L 2).dv2 L ((gd.rosH L).num L F 2)).isGood = true := by rw [ISt.all_good L _ h]; rfl
      rw [if_pos hg, memMay_ext (ros_fm L F _ _ hg)]
  · have e1 : gd.rosB L F = ((gd.rosH L).take L 2).fail := by
      unfold ISt.rosB ISt.cntS
      rw [if_pos (by omega)]
    rw [e1, fail_devs, decide_eq_false h3, Bool.false_and, Bool.false_and, Bool.false_and]
theorem rOk_at (L : Nat) (F : Nat → Nat) (h : rOk2 L F = true) : gd.rosL L F = (gd.rosH L).num L F 2 ∧ (gd.rosH L).num L F 2 ≤ 32 ∧ ∀ i, i < (gd.rosH L).num L F 2 → ∀ j, j < 2 → gd.rosM L F i j = (((gd.rosH L).take L 2).dv2 L i).cF L F 2 j := by
  rw [rOk2_is] at h
  rw [Bool.and_eq_true, Bool.and_eq_true, decide_eq_true_eq] at h
  obtain ⟨e1, e2⟩ := ros_small L F h.1.1
  have hg : (((gd.rosH L).take L 2).dv2 L ((gd.rosH L).num L F 2)).isGood = true := by rw [ISt.all_good L _ h.1.2]; rfl
  refine ⟨?_, h.1.1, fun i hi j hj => ?_⟩
  · unfold ISt.rosL ISt.dvN
    rw [e1, e2, devs_dv2, if_pos hg]
  · unfold ISt.rosM
    rw [e1]
    exact ros_fm L F _ _ hg i hi j hj
end Go.Proofs.Ytmbefbmpjkbnmaa
namespace Go.Proofs.Ytmbefbmpjkbnmaa
open Go.RowKit

set_option maxRecDepth 100000
set_option maxHeartbeats 4000000

theorem run_eql_dev (a b : Array Value) (r : Bool) (w : World) (he : (Op.equalIn 10000 26 (.agg a) (.agg b)).run Try.prog w = .ok r w) : (binOp .eql 26 (.agg a) (.agg b)).run Try.prog w = .ok (.bool (r)) w := by
  go_simp
theorem guard_eql_dev (t1 t2 : Nat) (a b : Array Value) (w : World) : (eqGuard .eql 26 (.tmp t1) (.tmp t2) (.agg a) (.agg b)).run Try.prog w = .ok () w := by
  unfold eqGuard; go_simp
theorem exec_eql_dev {o : Oper} {ac : Act} {W : World} (t1 t2 : Nat) (a b : Array Value) (r : Bool) (he : (Op.equalIn 10000 26 (.agg a) (.agg b)).run Try.prog W = .ok r W) (ho : o.op = .binOp .eql 26 (.tmp t1) (.tmp t2) 26) (h1 : ac.eval (.tmp t1) = .agg a) (h2 : ac.eval (.tmp t2) = .agg b) : (execOp ac.eval o).run Try.prog W = .ok (.value (.bool (r))) W := by
  have hb := run_eql_dev a b r W he
  have hg := guard_eql_dev t1 t2 a b W
  unfold execOp
  simp only [ho, h1, h2]
  simp only [Sem.run_bind, Sem.run_pure, Result.andThen_ok, hg, hb]
theorem run_neq_dev (a b : Array Value) (r : Bool) (w : World) (he : (Op.equalIn 10000 26 (.agg a) (.agg b)).run Try.prog w = .ok r w) : (binOp .neq 26 (.agg a) (.agg b)).run Try.prog w = .ok (.bool (!r)) w := by
  go_simp
theorem guard_neq_dev (t1 t2 : Nat) (a b : Array Value) (w : World) : (eqGuard .neq 26 (.tmp t1) (.tmp t2) (.agg a) (.agg b)).run Try.prog w = .ok () w := by
  unfold eqGuard; go_simp
theorem exec_neq_dev {o : Oper} {ac : Act} {W : World} (t1 t2 : Nat) (a b : Array Value) (r : Bool) (he : (Op.equalIn 10000 26 (.agg a) (.agg b)).run Try.prog W = .ok r W) (ho : o.op = .binOp .neq 26 (.tmp t1) (.tmp t2) 26) (h1 : ac.eval (.tmp t1) = .agg a) (h2 : ac.eval (.tmp t2) = .agg b) : (execOp ac.eval o).run Try.prog W = .ok (.value (.bool (!r))) W := by
  have hb := run_neq_dev a b r W he
  have hg := guard_neq_dev t1 t2 a b W
  unfold execOp
  simp only [ho, h1, h2]
  simp only [Sem.run_bind, Sem.run_pure, Result.andThen_ok, hg, hb]
theorem run_eql_id (a b : Array Value) (r : Bool) (w : World) (he : (Op.equalIn 10000 23 (.agg a) (.agg b)).run Try.prog w = .ok r w) : (binOp .eql 23 (.agg a) (.agg b)).run Try.prog w = .ok (.bool (r)) w := by
  go_simp
theorem guard_eql_id (t1 t2 : Nat) (a b : Array Value) (w : World) : (eqGuard .eql 23 (.tmp t1) (.tmp t2) (.agg a) (.agg b)).run Try.prog w = .ok () w := by
  unfold eqGuard; go_simp
theorem exec_eql_id {o : Oper} {ac : Act} {W : World} (t1 t2 : Nat) (a b : Array Value) (r : Bool) (he : (Op.equalIn 10000 23 (.agg a) (.agg b)).run Try.prog W = .ok r W) (ho : o.op = .binOp .eql 23 (.tmp t1) (.tmp t2) 23) (h1 : ac.eval (.tmp t1) = .agg a) (h2 : ac.eval (.tmp t2) = .agg b) : (execOp ac.eval o).run Try.prog W = .ok (.value (.bool (r))) W := by
  have hb := run_eql_id a b r W he
  have hg := guard_eql_id t1 t2 a b W
  unfold execOp
  simp only [ho, h1, h2]
  simp only [Sem.run_bind, Sem.run_pure, Result.andThen_ok, hg, hb]
theorem run_neq_id (a b : Array Value) (r : Bool) (w : World) (he : (Op.equalIn 10000 23 (.agg a) (.agg b)).run Try.prog w = .ok r w) : (binOp .neq 23 (.agg a) (.agg b)).run Try.prog w = .ok (.bool (!r)) w := by
  go_simp
theorem guard_neq_id (t1 t2 : Nat) (a b : Array Value) (w : World) : (eqGuard .neq 23 (.tmp t1) (.tmp t2) (.agg a) (.agg b)).run Try.prog w = .ok () w := by
  unfold eqGuard; go_simp
theorem exec_neq_id {o : Oper} {ac : Act} {W : World} (t1 t2 : Nat) (a b : Array Value) (r : Bool) (he : (Op.equalIn 10000 23 (.agg a) (.agg b)).run Try.prog W = .ok r W) (ho : o.op = .binOp .neq 23 (.tmp t1) (.tmp t2) 23) (h1 : ac.eval (.tmp t1) = .agg a) (h2 : ac.eval (.tmp t2) = .agg b) : (execOp ac.eval o).run Try.prog W = .ok (.value (.bool (!r))) W := by
  have hb := run_neq_id a b r W he
  have hg := guard_neq_id t1 t2 a b W
  unfold execOp
  simp only [ho, h1, h2]
  simp only [Sem.run_bind, Sem.run_pure, Result.andThen_ok, hg, hb]
theorem run_eql_set (a b : Array Value) (r : Bool) (w : World) (he : (Op.equalIn 10000 38 (.agg a) (.agg b)).run Try.prog w = .ok r w) : (binOp .eql 38 (.agg a) (.agg b)).run Try.prog w = .ok (.bool (r)) w := by
  go_simp
theorem guard_eql_set (t1 t2 : Nat) (a b : Array Value) (w : World) : (eqGuard .eql 38 (.tmp t1) (.tmp t2) (.agg a) (.agg b)).run Try.prog w = .ok () w := by
  unfold eqGuard; go_simp
theorem exec_eql_set {o : Oper} {ac : Act} {W : World} (t1 t2 : Nat) (a b : Array Value) (r : Bool) (he : (Op.equalIn 10000 38 (.agg a) (.agg b)).run Try.prog W = .ok r W) (ho : o.op = .binOp .eql 38 (.tmp t1) (.tmp t2) 38) (h1 : ac.eval (.tmp t1) = .agg a) (h2 : ac.eval (.tmp t2) = .agg b) : (execOp ac.eval o).run Try.prog W = .ok (.value (.bool (r))) W := by
  have hb := run_eql_set a b r W he
  have hg := guard_eql_set t1 t2 a b W
  unfold execOp
  simp only [ho, h1, h2]
  simp only [Sem.run_bind, Sem.run_pure, Result.andThen_ok, hg, hb]
theorem run_neq_set (a b : Array Value) (r : Bool) (w : World) (he : (Op.equalIn 10000 38 (.agg a) (.agg b)).run Try.prog w = .ok r w) : (binOp .neq 38 (.agg a) (.agg b)).run Try.prog w = .ok (.bool (!r)) w := by
  go_simp
theorem guard_neq_set (t1 t2 : Nat) (a b : Array Value) (w : World) : (eqGuard .neq 38 (.tmp t1) (.tmp t2) (.agg a) (.agg b)).run Try.prog w = .ok () w := by
  unfold eqGuard; go_simp
theorem exec_neq_set {o : Oper} {ac : Act} {W : World} (t1 t2 : Nat) (a b : Array Value) (r : Bool) (he : (Op.equalIn 10000 38 (.agg a) (.agg b)).run Try.prog W = .ok r W) (ho : o.op = .binOp .neq 38 (.tmp t1) (.tmp t2) 38) (h1 : ac.eval (.tmp t1) = .agg a) (h2 : ac.eval (.tmp t2) = .agg b) : (execOp ac.eval o).run Try.prog W = .ok (.value (.bool (!r))) W := by
  have hb := run_neq_set a b r W he
  have hg := guard_neq_set t1 t2 a b W
  unfold execOp
  simp only [ho, h1, h2]
  simp only [Sem.run_bind, Sem.run_pure, Result.andThen_ok, hg, hb]
theorem run_eql_hdr (a b : Array Value) (r : Bool) (w : World) (he : (Op.equalIn 10000 36 (.agg a) (.agg b)).run Try.prog w = .ok r w) : (binOp .eql 36 (.agg a) (.agg b)).run Try.prog w = .ok (.bool (r)) w := by
  go_simp
theorem guard_eql_hdr (t1 t2 : Nat) (a b : Array Value) (w : World) : (eqGuard .eql 36 (.tmp t1) (.tmp t2) (.agg a) (.agg b)).run Try.prog w = .ok () w := by
  unfold eqGuard; go_simp
theorem exec_eql_hdr {o : Oper} {ac : Act} {W : World} (t1 t2 : Nat) (a b : Array Value) (r : Bool) (he : (Op.equalIn 10000 36 (.agg a) (.agg b)).run Try.prog W = .ok r W) (ho : o.op = .binOp .eql 36 (.tmp t1) (.tmp t2) 36) (h1 : ac.eval (.tmp t1) = .agg a) (h2 : ac.eval (.tmp t2) = .agg b) : (execOp ac.eval o).run Try.prog W = .ok (.value (.bool (r))) W := by
  have hb := run_eql_hdr a b r W he
  have hg := guard_eql_hdr t1 t2 a b W
  unfold execOp
  simp only [ho, h1, h2]
  simp only [Sem.run_bind, Sem.run_pure, Result.andThen_ok, hg, hb]
theorem run_neq_hdr (a b : Array Value) (r : Bool) (w : World) (he : (Op.equalIn 10000 36 (.agg a) (.agg b)).run Try.prog w = .ok r w) : (binOp .neq 36 (.agg a) (.agg b)).run Try.prog w = .ok (.bool (!r)) w := by
  go_simp
theorem guard_neq_hdr (t1 t2 : Nat) (a b : Array Value) (w : World) : (eqGuard .neq 36 (.tmp t1) (.tmp t2) (.agg a) (.agg b)).run Try.prog w = .ok () w := by
  unfold eqGuard; go_simp
theorem exec_neq_hdr {o : Oper} {ac : Act} {W : World} (t1 t2 : Nat) (a b : Array Value) (r : Bool) (he : (Op.equalIn 10000 36 (.agg a) (.agg b)).run Try.prog W = .ok r W) (ho : o.op = .binOp .neq 36 (.tmp t1) (.tmp t2) 36) (h1 : ac.eval (.tmp t1) = .agg a) (h2 : ac.eval (.tmp t2) = .agg b) : (execOp ac.eval o).run Try.prog W = .ok (.value (.bool (!r))) W := by
  have hb := run_neq_hdr a b r W he
  have hg := guard_neq_hdr t1 t2 a b W
  unfold execOp
  simp only [ho, h1, h2]
  simp only [Sem.run_bind, Sem.run_pure, Result.andThen_ok, hg, hb]
theorem run_eql_dist (a b : Array Value) (r : Bool) (w : World) (he : (Op.equalIn 10000 30 (.agg a) (.agg b)).run Try.prog w = .ok r w) : (binOp .eql 30 (.agg a) (.agg b)).run Try.prog w = .ok (.bool (r)) w := by
  go_simp
theorem guard_eql_dist (t1 t2 : Nat) (a b : Array Value) (w : World) : (eqGuard .eql 30 (.tmp t1) (.tmp t2) (.agg a) (.agg b)).run Try.prog w = .ok () w := by
  unfold eqGuard; go_simp
theorem exec_eql_dist {o : Oper} {ac : Act} {W : World} (t1 t2 : Nat) (a b : Array Value) (r : Bool) (he : (Op.equalIn 10000 30 (.agg a) (.agg b)).run Try.prog W = .ok r W) (ho : o.op = .binOp .eql 30 (.tmp t1) (.tmp t2) 30) (h1 : ac.eval (.tmp t1) = .agg a) (h2 : ac.eval (.tmp t2) = .agg b) : (execOp ac.eval o).run Try.prog W = .ok (.value (.bool (r))) W := by
  have hb := run_eql_dist a b r W he
  have hg := guard_eql_dist t1 t2 a b W
  unfold execOp
  simp only [ho, h1, h2]
  simp only [Sem.run_bind, Sem.run_pure, Result.andThen_ok, hg, hb]
theorem run_neq_dist (a b : Array Value) (r : Bool) (w : World) (he : (Op.equalIn 10000 30 (.agg a) (.agg b)).run Try.prog w = .ok r w) : (binOp .neq 30 (.agg a) (.agg b)).run Try.prog w = .ok (.bool (!r)) w := by
  go_simp
theorem guard_neq_dist (t1 t2 : Nat) (a b : Array Value) (w : World) : (eqGuard .neq 30 (.tmp t1) (.tmp t2) (.agg a) (.agg b)).run Try.prog w = .ok () w := by
  unfold eqGuard; go_simp
theorem exec_neq_dist {o : Oper} {ac : Act} {W : World} (t1 t2 : Nat) (a b : Array Value) (r : Bool) (he : (Op.equalIn 10000 30 (.agg a) (.agg b)).run Try.prog W = .ok r W) (ho : o.op = .binOp .neq 30 (.tmp t1) (.tmp t2) 30) (h1 : ac.eval (.tmp t1) = .agg a) (h2 : ac.eval (.tmp t2) = .agg b) : (execOp ac.eval o).run Try.prog W = .ok (.value (.bool (!r))) W := by
  have hb := run_neq_dist a b r W he
  have hg := guard_neq_dist t1 t2 a b W
  unfold execOp
  simp only [ho, h1, h2]
  simp only [Sem.run_bind, Sem.run_pure, Result.andThen_ok, hg, hb]
theorem self_dev (f : Nat → Nat) (w : World) : (Op.equalIn 10000 26 (.agg (cellsOf .u8 2 f)) (.agg (cellsOf .u8 2 f))).run Try.prog w = .ok true w := by
  have h := eqi_dev 9998 f f w
  rwa [eqN_self] at h
theorem self_id (f : Nat → Nat) (w : World) : (Op.equalIn 10000 23 (.agg (cellsOf .u8 16 f)) (.agg (cellsOf .u8 16 f))).run Try.prog w = .ok true w := by
  have h := eqi_arr 9998 16 23 (by kernel_rfl) f f w
  rwa [eqN_self] at h
theorem self_set (x : SetV) (w : World) : (Op.equalIn 10000 38 (.agg (rowOf 66 x.v)) (.agg (rowOf 66 x.v))).run Try.prog w = .ok true w := by
  have h := eqi_set 9997 x x w
  rw [eqN_self, eqN_self] at h
  simpa using h
theorem self_hdr (x : HV) (w : World) : (Op.equalIn 10000 36 (.agg (rowOf 34 x.v)) (.agg (rowOf 34 x.v))).run Try.prog w = .ok true w := by
  have h := eqi_hdr 9997 x x w
  rw [eqN_self] at h
  simpa using h
theorem self_dist (x : DV) (w : World) : (Op.equalIn 10000 30 (.agg (rowOf 52 x.v)) (.agg (rowOf 52 x.v))).run Try.prog w = .ok true w := by
  have h := eqi_dist 9997 x x w
  rw [eqN_self, eqN_self] at h
  simpa using h
theorem samePkt_any {f f1 f2 f3 : Nat → Nat} {n c d D1 D2 : Nat} {a b : Option Addr} (w : World) (hf : ∀ i, f i < 256) (hRx : Rd w D1 a n f) (hRy : Rd w D2 b n f) :
    Calls Try.prog 37 #[.agg (rowOf 21 (PV.mk f1 f2 f3 a n c).v), .agg (rowOf 21 (PV.mk f1 f2 f3 b n d).v)] w fun e w' => e = .returned (.bool true) ∧ w.grownBy w' none := by
  have ga := World.grownBy_alloc w (.cells (rowOf 21 (PV.mk f1 f2 f3 a n c).v) 43) none
  have hz := World.size_alloc w (.cells (rowOf 21 (PV.mk f1 f2 f3 a n c).v) 43)
  have hX := RowAt.new w 43 21 ((PV.mk f1 f2 f3 a n c).v) _ rfl
  have gb := World.grownBy_alloc (w.alloc (.cells (rowOf 21 (PV.mk f1 f2 f3 a n c).v) 43)) (.cells (rowOf 21 (PV.mk f1 f2 f3 b n d).v) 43) none
  have hY := RowAt.new (w.alloc (.cells (rowOf 21 (PV.mk f1 f2 f3 a n c).v) 43)) 43 21 ((PV.mk f1 f2 f3 b n d).v) _ rfl
  rw [hz] at hY
  have hX := hX.grown gb (by simp)
  have hG := grown_trans ga gb
  have hsx := run_string c (hRx.grown hG (by simp)) hf
  have hsy := run_string d (hRy.grown hG (by simp)) hf
  have HG := Lib.hid hG
  clear ga gb hz hG hRx hRy hf
  go_enter Try.func37, Try.ntmps37
  go_upto_region 1 with fail
  obtain ⟨B, hB⟩ : ∃ B, B = w.heap.size := ⟨_, rfl⟩
  rw [← hB] at hX hY ⊢
  generalize (w.alloc (.cells (rowOf 21 (PV.mk f1 f2 f3 a n c).v) 43)).alloc (.cells (rowOf 21 (PV.mk f1 f2 f3 b n d).v) 43) = w1 at *
  obtain ⟨sx, hsx0⟩ : ∃ s, s = strOf n f := ⟨_, rfl⟩
  rw [← hsx0] at hsx hsy
  have cx : w1.cell? ⟨B, 20, none⟩ = some (.slice a n c) := hX.cell 20 (by decide)
  have cy : w1.cell? ⟨B + 1, 20, none⟩ = some (.slice b n d) := hY.cell 20 (by decide)
  clear hsx0 hB
  have HX0 := Lib.hid (hX.load (P := Try.prog) 0 26 2 (fun j => .int .u8 (f1 j)) (by decide) (PV.v_fr (PV.mk f1 f2 f3 a n c)) (by kernel_rfl) (by kernel_rfl))
  have HY0 := Lib.hid (hY.load (P := Try.prog) 0 26 2 (fun j => .int .u8 (f1 j)) (by decide) (PV.v_fr (PV.mk f1 f2 f3 b n d)) (by kernel_rfl) (by kernel_rfl))
  have HX2 := Lib.hid (hX.load (P := Try.prog) 2 26 2 (fun j => .int .u8 (f2 j)) (by decide) (PV.v_to (PV.mk f1 f2 f3 a n c)) (by kernel_rfl) (by kernel_rfl))
  have HY2 := Lib.hid (hY.load (P := Try.prog) 2 26 2 (fun j => .int .u8 (f2 j)) (by decide) (PV.v_to (PV.mk f1 f2 f3 b n d)) (by kernel_rfl) (by kernel_rfl))
  have HX4 := Lib.hid (hX.load (P := Try.prog) 4 23 16 (fun j => .int .u8 (f3 j)) (by decide) (PV.v_id (PV.mk f1 f2 f3 a n c)) (by kernel_rfl) (by kernel_rfl))
  have HY4 := Lib.hid (hY.load (P := Try.prog) 4 23 16 (fun j => .int .u8 (f3 j)) (by decide) (PV.v_id (PV.mk f1 f2 f3 b n d)) (by kernel_rfl) (by kernel_rfl))
  clear hX hY
  go_wp2_with (first | ((with_reducible refine wpList_here ?_); refine wpList_ld (p := .pointer (some ⟨B, 0, none⟩)) 5 ?_ ?_ ?_ HX0.out ?_; (· rfl); go_simp; (· kernel_rfl)) | ((with_reducible refine wpList_here ?_); refine wpList_ld (p := .pointer (some ⟨B + 1, 0, none⟩)) 7 ?_ ?_ ?_ HY0.out ?_; (· rfl); go_simp; (· kernel_rfl)) | ((with_reducible refine wpList_here ?_); refine wpList_ld (p := .pointer (some ⟨B, 2, none⟩)) 11 ?_ ?_ ?_ HX2.out ?_; (· rfl); go_simp; (· kernel_rfl)) | ((with_reducible refine wpList_here ?_); refine wpList_ld (p := .pointer (some ⟨B + 1, 2, none⟩)) 13 ?_ ?_ ?_ HY2.out ?_; (· rfl); go_simp; (· kernel_rfl)) | ((with_reducible refine wpList_here ?_); refine wpList_ld (p := .pointer (some ⟨B, 4, none⟩)) 18 ?_ ?_ ?_ HX4.out ?_; (· rfl); go_simp; (· kernel_rfl)) | ((with_reducible refine wpList_here ?_); refine wpList_ld (p := .pointer (some ⟨B + 1, 4, none⟩)) 20 ?_ ?_ ?_ HY4.out ?_; (· rfl); go_simp; (· kernel_rfl)) | ((with_reducible refine wpList_here ?_); refine wpList_want (v := .bool true) (w' := w1) ?_ (exec_eql_dev 6 8 _ _ true (self_dev f1 w1) rfl rfl rfl) ?_; go_simp) | ((with_reducible refine wpList_here ?_); refine wpList_want (v := .bool true) (w' := w1) ?_ (exec_eql_dev 12 14 _ _ true (self_dev f2 w1) rfl rfl rfl) ?_; go_simp) | ((with_reducible refine wpList_here ?_); refine wpList_want (v := .bool true) (w' := w1) ?_ (exec_eql_id 19 21 _ _ true (self_id f3 w1) rfl rfl rfl) ?_; go_simp))
  go_ret
  exact ⟨rfl, HG.out⟩
theorem sameEnv_any {f f1 f2 : Nat → Nat} {hs : Bool} {st : SetV} {hd : HV} {n c d D1 D2 : Nat} {a b : Option Addr} (w : World) (hf : ∀ i, f i < 256) (hRx : Rd w D1 a n f) (hRy : Rd w D2 b n f) :
    Calls Try.prog 34 #[.agg (rowOf 106 (EV.mk f1 f2 hs st hd a n c).v), .agg (rowOf 106 (EV.mk f1 f2 hs st hd b n d).v)] w fun e w' => e = .returned (.bool true) ∧ w.grownBy w' none := by
  have ga := World.grownBy_alloc w (.cells (rowOf 106 (EV.mk f1 f2 hs st hd a n c).v) 41) none
  have hz := World.size_alloc w (.cells (rowOf 106 (EV.mk f1 f2 hs st hd a n c).v) 41)
  have hX := RowAt.new w 41 106 ((EV.mk f1 f2 hs st hd a n c).v) _ rfl
  have gb := World.grownBy_alloc (w.alloc (.cells (rowOf 106 (EV.mk f1 f2 hs st hd a n c).v) 41)) (.cells (rowOf 106 (EV.mk f1 f2 hs st hd b n d).v) 41) none
  have hY := RowAt.new (w.alloc (.cells (rowOf 106 (EV.mk f1 f2 hs st hd a n c).v) 41)) 41 106 ((EV.mk f1 f2 hs st hd b n d).v) _ rfl
  rw [hz] at hY
  have hX := hX.grown gb (by simp)
  have hG := grown_trans ga gb
  have hsx := run_string c (hRx.grown hG (by simp)) hf
  have hsy := run_string d (hRy.grown hG (by simp)) hf
  have HG := Lib.hid hG
  clear ga gb hz hG hRx hRy hf
  go_enter Try.func34, Try.ntmps34
  go_upto_region 1 with fail
  obtain ⟨B, hB⟩ : ∃ B, B = w.heap.size := ⟨_, rfl⟩
  rw [← hB] at hX hY ⊢
  generalize (w.alloc (.cells (rowOf 106 (EV.mk f1 f2 hs st hd a n c).v) 41)).alloc (.cells (rowOf 106 (EV.mk f1 f2 hs st hd b n d).v) 41) = w1 at *
  obtain ⟨sx, hsx0⟩ : ∃ s, s = strOf n f := ⟨_, rfl⟩
  rw [← hsx0] at hsx hsy
  have cx : w1.cell? ⟨B, 105, none⟩ = some (.slice a n c) := hX.cell 105 (by decide)
  have cy : w1.cell? ⟨B + 1, 105, none⟩ = some (.slice b n d) := hY.cell 105 (by decide)
  clear hsx0 hB
  have HX0 := Lib.hid (hX.load (P := Try.prog) 0 26 2 (fun j => .int .u8 (f1 j)) (by decide) (EV.v_fr (EV.mk f1 f2 hs st hd a n c)) (by kernel_rfl) (by kernel_rfl))
  have HY0 := Lib.hid (hY.load (P := Try.prog) 0 26 2 (fun j => .int .u8 (f1 j)) (by decide) (EV.v_fr (EV.mk f1 f2 hs st hd b n d)) (by kernel_rfl) (by kernel_rfl))
  have HX2 := Lib.hid (hX.load (P := Try.prog) 2 26 2 (fun j => .int .u8 (f2 j)) (by decide) (EV.v_to (EV.mk f1 f2 hs st hd a n c)) (by kernel_rfl) (by kernel_rfl))
  have HY2 := Lib.hid (hY.load (P := Try.prog) 2 26 2 (fun j => .int .u8 (f2 j)) (by decide) (EV.v_to (EV.mk f1 f2 hs st hd b n d)) (by kernel_rfl) (by kernel_rfl))
  have HX4 := Lib.hid (hX.load (P := Try.prog) 5 38 66 st.v (by decide) (EV.v_st (EV.mk f1 f2 hs st hd a n c)) (by kernel_rfl) (by kernel_rfl))
  have HY4 := Lib.hid (hY.load (P := Try.prog) 5 38 66 st.v (by decide) (EV.v_st (EV.mk f1 f2 hs st hd b n d)) (by kernel_rfl) (by kernel_rfl))
  have HX6 := Lib.hid (hX.load (P := Try.prog) 71 36 34 hd.v (by decide) (EV.v_hd (EV.mk f1 f2 hs st hd a n c)) (by kernel_rfl) (by kernel_rfl))
  have HY6 := Lib.hid (hY.load (P := Try.prog) 71 36 34 hd.v (by decide) (EV.v_hd (EV.mk f1 f2 hs st hd b n d)) (by kernel_rfl) (by kernel_rfl))
  have cb4 : w1.cell? ⟨B, 4, none⟩ = some (.bool hs) := hX.cell 4 (by decide)
  have cd4 : w1.cell? ⟨B + 1, 4, none⟩ = some (.bool hs) := hY.cell 4 (by decide)
  clear hX hY
  go_wp2_with (first | ((with_reducible refine wpList_here ?_); refine wpList_ld (p := .pointer (some ⟨B, 0, none⟩)) 5 ?_ ?_ ?_ HX0.out ?_; (· rfl); go_simp; (· kernel_rfl)) | ((with_reducible refine wpList_here ?_); refine wpList_ld (p := .pointer (some ⟨B + 1, 0, none⟩)) 7 ?_ ?_ ?_ HY0.out ?_; (· rfl); go_simp; (· kernel_rfl)) | ((with_reducible refine wpList_here ?_); refine wpList_ld (p := .pointer (some ⟨B, 2, none⟩)) 11 ?_ ?_ ?_ HX2.out ?_; (· rfl); go_simp; (· kernel_rfl)) | ((with_reducible refine wpList_here ?_); refine wpList_ld (p := .pointer (some ⟨B + 1, 2, none⟩)) 13 ?_ ?_ ?_ HY2.out ?_; (· rfl); go_simp; (· kernel_rfl)) | ((with_reducible refine wpList_here ?_); refine wpList_ld (p := .pointer (some ⟨B, 5, none⟩)) 25 ?_ ?_ ?_ HX4.out ?_; (· rfl); go_simp; (· kernel_rfl)) | ((with_reducible refine wpList_here ?_); refine wpList_ld (p := .pointer (some ⟨B + 1, 5, none⟩)) 27 ?_ ?_ ?_ HY4.out ?_; (· rfl); go_simp; (· kernel_rfl)) | ((with_reducible refine wpList_here ?_); refine wpList_ld (p := .pointer (some ⟨B, 71, none⟩)) 32 ?_ ?_ ?_ HX6.out ?_; (· rfl); go_simp; (· kernel_rfl)) | ((with_reducible refine wpList_here ?_); refine wpList_ld (p := .pointer (some ⟨B + 1, 71, none⟩)) 34 ?_ ?_ ?_ HY6.out ?_; (· rfl); go_simp; (· kernel_rfl)) | ((with_reducible refine wpList_here ?_); refine wpList_want (v := .bool true) (w' := w1) ?_ (exec_eql_dev 6 8 _ _ true (self_dev f1 w1) rfl rfl rfl) ?_; go_simp) | ((with_reducible refine wpList_here ?_); refine wpList_want (v := .bool true) (w' := w1) ?_ (exec_eql_dev 12 14 _ _ true (self_dev f2 w1) rfl rfl rfl) ?_; go_simp) | ((with_reducible refine wpList_here ?_); refine wpList_want (v := .bool true) (w' := w1) ?_ (exec_eql_set 26 28 _ _ true (self_set st w1) rfl rfl rfl) ?_; go_simp) | ((with_reducible refine wpList_here ?_); refine wpList_want (v := .bool true) (w' := w1) ?_ (exec_eql_hdr 33 35 _ _ true (self_hdr hd w1) rfl rfl rfl) ?_; go_simp))
  go_ret
  exact ⟨rfl, HG.out⟩
end Go.Proofs.Ytmbefbmpjkbnmaa
namespace Go.Proofs.Ytmbefbmpjkbnmaa
open Go.RowKit

set_option maxRecDepth 100000
set_option maxHeartbeats 4000000

theorem sameRos_any {f1 : Nat → Nat} {fm : Nat → Nat → Nat} {e1 n c d D1 D2 : Nat} {a b : Option Addr} (w : World) (hn : n ≤ 1048576) (hx : n ≤ c) (hy : n ≤ d) (hRx : RdD w D1 a n fm) (hRy : RdD w D2 b n fm) :
    Calls Try.prog 29 #[.agg (rowOf 18 (RV.mk f1 e1 a n c).v), .agg (rowOf 18 (RV.mk f1 e1 b n d).v)] w fun e w' => e = .returned (.bool true) ∧ w.grownBy w' none := by
  have ga := World.grownBy_alloc w (.cells (rowOf 18 (RV.mk f1 e1 a n c).v) 33) none
  have hz := World.size_alloc w (.cells (rowOf 18 (RV.mk f1 e1 a n c).v) 33)
  have hX := RowAt.new w 33 18 ((RV.mk f1 e1 a n c).v) _ rfl
  have gb := World.grownBy_alloc (w.alloc (.cells (rowOf 18 (RV.mk f1 e1 a n c).v) 33)) (.cells (rowOf 18 (RV.mk f1 e1 b n d).v) 33) none
  have hY := RowAt.new (w.alloc (.cells (rowOf 18 (RV.mk f1 e1 a n c).v) 33)) 33 18 ((RV.mk f1 e1 b n d).v) _ rfl
  rw [hz] at hY
  have hX := hX.grown gb (by simp)
  have hG := grown_trans ga gb
  have hRx := hRx.grown hG (by simp)
  have hRy := hRy.grown hG (by simp)
  have HG := Lib.hid hG
  have HRX := Lib.hid hRx
  have HRY := Lib.hid hRy
  have HN := Lib.hid (And.intro hn (And.intro hx hy))
  clear ga gb hz hG hRx hRy hn hx hy
  go_enter Try.func29, Try.ntmps29
  go_upto_region 1 with fail
  obtain ⟨B, hB⟩ : ∃ B, B = w.heap.size := ⟨_, rfl⟩
  rw [← hB] at hX hY ⊢
  generalize (w.alloc (.cells (rowOf 18 (RV.mk f1 e1 a n c).v) 33)).alloc (.cells (rowOf 18 (RV.mk f1 e1 b n d).v) 33) = w1 at *
  have cx : w1.cell? ⟨B, 17, none⟩ = some (.slice a n c) := hX.cell 17 (by decide)
  have cy : w1.cell? ⟨B + 1, 17, none⟩ = some (.slice b n d) := hY.cell 17 (by decide)
  have ex : w1.cell? ⟨B, 16, none⟩ = some (.int .u64 e1) := hX.cell 16 (by decide)
  have ey : w1.cell? ⟨B + 1, 16, none⟩ = some (.int .u64 e1) := hY.cell 16 (by decide)
  have HX0 := Lib.hid (hX.load (P := Try.prog) 0 23 16 (fun j => .int .u8 (f1 j)) (by decide) (RV.v_id _) (by kernel_rfl) (by kernel_rfl))
  have HY0 := Lib.hid (hY.load (P := Try.prog) 0 23 16 (fun j => .int .u8 (f1 j)) (by decide) (RV.v_id _) (by kernel_rfl) (by kernel_rfl))
  have HCX := Lib.hid cx
  have HCY := Lib.hid cy
  clear hX hY hB
  go_upto_region 2 with (first | ((with_reducible refine wpList_here ?_); refine wpList_ld (p := .pointer (some ⟨B, 0, none⟩)) 7 ?_ ?_ ?_ HX0.out ?_; (· rfl); go_simp; (· kernel_rfl)) | ((with_reducible refine wpList_here ?_); refine wpList_ld (p := .pointer (some ⟨B + 1, 0, none⟩)) 9 ?_ ?_ ?_ HY0.out ?_; (· rfl); go_simp; (· kernel_rfl)) | ((with_reducible refine wpList_here ?_); refine wpList_want (v := .bool true) (w' := w1) ?_ (exec_eql_id 8 10 _ _ true (self_id f1 w1) rfl rfl rfl) ?_; go_simp))
  clear cx cy ex ey HX0 HY0
  go_wp2_with fail
  go_loopw [5, 6] (fun u5 u6 wr => ∃ i : Nat, i ≤ n ∧ u5 = .bool true ∧ u6 = .int .i64 i ∧ w1.grownBy wr none) (fun _ u6 _ => n - (intOf u6).toNat)
  case atStart => exact ⟨0, Nat.zero_le _, rfl, rfl, grown_refl _ _⟩
  case round =>
    obtain ⟨i, hi, rfl, rfl, hg⟩ := hrel
    have HGR := Lib.hid hg
    have cx : wr.cell? ⟨B, 17, none⟩ = some (.slice a n c) := hg.cell HCX.out (by simp)
    by_cases hlt : i < n
    · have j1 : (i : Int) < (n : Int) := by omega
      obtain ⟨tx, ox, rfl, htx, hdx⟩ := HRX.out.ex (by omega)
      obtain ⟨ty, oy, rfl, hty, hdy⟩ := HRY.out.ex (by omega)
      have HLT := Lib.hid hlt
      have HDX : Hid (∀ i j, i < n → j < 2 → wr.cell? ⟨tx, ox + i * 2 + j, none⟩ = some (.int .u8 (fm i j))) := Lib.hid fun i j hi hj => by rw [Nat.add_assoc]; exact hg.cell (hdx i j hi hj) (by simp)
      have HDY : Hid (∀ i j, i < n → j < 2 → wr.cell? ⟨ty, oy + i * 2 + j, none⟩ = some (.int .u8 (fm i j))) := Lib.hid fun i j hi hj => by rw [Nat.add_assoc]; exact hg.cell (hdy i j hi hj) (by simp)
      have HCX : Hid (wr.cell? ⟨B, 17, none⟩ = some (.slice (some ⟨tx, ox, none⟩) n c)) := Lib.hid (hg.cell HCX.out (by simp))
      have HCY : Hid (wr.cell? ⟨B + 1, 17, none⟩ = some (.slice (some ⟨ty, oy, none⟩) n d)) := Lib.hid (hg.cell HCY.out (by simp))
      clear hlt hdx hdy hi hg
      go_upto_region 5 with fail
      clear cx
      refine wp_region_plainR ?_
      refine wp_region_held (S := fun W => wr.grownBy W none) (by kernel_rfl) ?_
      change wpAnyH _ _ _ _ _ 12 #[false, false, false, false, false, false, false, false, false, false, false, false] _ (World.drew _)
      have gq := grown_drew (grown_refl wr none)
      generalize World.drew wr = q at *
      refine wpAnyH_takeD (some 38) (i := 0) (v := (.pointer (some ⟨B, 17, none⟩))) rfl rfl (by kernel_rfl) (by kernel_rfl) (by kernel_rfl) (fun _ _ _ h => absurd h.1 (by simp)) (Or.inl ⟨rfl, fun _ _ => by go_simp⟩) gq ?_
      simp only [Act.put, List.setIfInBounds_toArray, List.set_cons_succ, List.set_cons_zero]
      refine wpAnyH_takeD (some 39) (i := 1) (v := (.slice (some ⟨tx, ox, none⟩) n c)) rfl rfl (by kernel_rfl) (by kernel_rfl) (by kernel_rfl) (fun _ _ _ h => absurd h.1 (by simp)) (Or.inl ⟨rfl, fun W hW => by have cc : W.cell? ⟨B, 17, none⟩ = some (.slice (some ⟨tx, ox, none⟩) n c) := hW.cell HCX.out (by simp); go_simp⟩) gq ?_
      simp only [Act.put, List.setIfInBounds_toArray, List.set_cons_succ, List.set_cons_zero]
      refine wpAnyH_takeD (some 40) (i := 2) (v := (.int .i64 (i : Nat))) rfl rfl (by kernel_rfl) (by kernel_rfl) (by kernel_rfl) (fun _ _ _ h => absurd h.1 (by simp)) (Or.inl ⟨rfl, fun _ _ => rfl⟩) gq ?_
      simp only [Act.put, List.setIfInBounds_toArray, List.set_cons_succ, List.set_cons_zero]
      refine wpAnyH_takeD (some 41) (i := 3) (v := (.pointer (some ⟨tx, ox + i * 2, none⟩))) rfl rfl (by kernel_rfl) (by kernel_rfl) (by kernel_rfl) (fun _ _ _ h => absurd h.1 (by simp)) (Or.inl ⟨rfl, fun _ _ => by go_simp⟩) gq ?_
      simp only [Act.put, List.setIfInBounds_toArray, List.set_cons_succ, List.set_cons_zero]
      refine wpAnyH_takeD (some 42) (i := 4) (v := (.agg (cellsOf .u8 2 (fm i)))) rfl rfl (by kernel_rfl) (by kernel_rfl) (by kernel_rfl) (fun _ _ _ h => absurd h.1 (by simp)) (Or.inl ⟨rfl, fun W hW => exec_loadQ (.tmp 41) _ _ rfl rfl (load_devQ (hW.cell (HDX.out i 0 HLT.out (by decide)) (by simp)) (hW.cell (HDX.out i 1 HLT.out (by decide)) (by simp)))⟩) gq ?_
      simp only [Act.put, List.setIfInBounds_toArray, List.set_cons_succ, List.set_cons_zero]
      refine wpAnyH_takeD (some 43) (i := 5) (v := (.pointer (some ⟨B + 1, 17, none⟩))) rfl rfl (by kernel_rfl) (by kernel_rfl) (by kernel_rfl) (fun _ _ _ h => absurd h.1 (by simp)) (Or.inl ⟨rfl, fun _ _ => by go_simp⟩) gq ?_
      simp only [Act.put, List.setIfInBounds_toArray, List.set_cons_succ, List.set_cons_zero]
      refine wpAnyH_takeD (some 44) (i := 6) (v := (.slice (some ⟨ty, oy, none⟩) n d)) rfl rfl (by kernel_rfl) (by kernel_rfl) (by kernel_rfl) (fun _ _ _ h => absurd h.1 (by simp)) (Or.inl ⟨rfl, fun W hW => by have cc : W.cell? ⟨B + 1, 17, none⟩ = some (.slice (some ⟨ty, oy, none⟩) n d) := hW.cell HCY.out (by simp); go_simp⟩) gq ?_
      simp only [Act.put, List.setIfInBounds_toArray, List.set_cons_succ, List.set_cons_zero]
      refine wpAnyH_takeD (some 45) (i := 7) (v := (.int .i64 (i : Nat))) rfl rfl (by kernel_rfl) (by kernel_rfl) (by kernel_rfl) (fun _ _ _ h => absurd h.1 (by simp)) (Or.inl ⟨rfl, fun _ _ => rfl⟩) gq ?_
      simp only [Act.put, List.setIfInBounds_toArray, List.set_cons_succ, List.set_cons_zero]
      refine wpAnyH_takeD (some 46) (i := 8) (v := (.pointer (some ⟨ty, oy + i * 2, none⟩))) rfl rfl (by kernel_rfl) (by kernel_rfl) (by kernel_rfl) (fun _ _ _ h => absurd h.1 (by simp)) (Or.inl ⟨rfl, fun _ _ => by go_simp⟩) gq ?_
      simp only [Act.put, List.setIfInBounds_toArray, List.set_cons_succ, List.set_cons_zero]
      refine wpAnyH_takeD (some 47) (i := 9) (v := (.agg (cellsOf .u8 2 (fm i)))) rfl rfl (by kernel_rfl) (by kernel_rfl) (by kernel_rfl) (fun _ _ _ h => absurd h.1 (by simp)) (Or.inl ⟨rfl, fun W hW => exec_loadQ (.tmp 46) _ _ rfl rfl (load_devQ (hW.cell (HDY.out i 0 HLT.out (by decide)) (by simp)) (hW.cell (HDY.out i 1 HLT.out (by decide)) (by simp)))⟩) gq ?_
      simp only [Act.put, List.setIfInBounds_toArray, List.set_cons_succ, List.set_cons_zero]
      refine wpAnyH_takeD (some 48) (i := 10) (v := (.bool true)) rfl rfl (by kernel_rfl) (by kernel_rfl) (by kernel_rfl) (fun _ _ _ h => absurd h.1 (by simp)) (Or.inl ⟨rfl, fun W _ => exec_eql_dev 42 47 _ _ true (self_dev (fm i) W) rfl rfl rfl⟩) gq ?_
      simp only [Act.put, List.setIfInBounds_toArray, List.set_cons_succ, List.set_cons_zero]
      refine wpAnyH_takeD (some 5) (i := 11) (v := (.bool true)) rfl rfl (by kernel_rfl) (by kernel_rfl) (by kernel_rfl) (fun _ _ _ h => absurd h.1 (by simp)) (Or.inl ⟨rfl, fun _ _ => rfl⟩) gq ?_
      simp only [Act.put, List.setIfInBounds_toArray, List.set_cons_succ, List.set_cons_zero]
      refine wpAnyH_done (by kernel_rfl) ?_ _
      have HGQ := Lib.hid (grown_trans HGR.out gq)
      clear gq
      refine ⟨rfl, ?_⟩
      have kk : (i : Int) < 1048576 := by have := HLT.out; have := HN.out.1; omega
      go_wp2_with fail
      go_roundw
      case rel => exact ⟨i + 1, HLT.out, rfl, by go_num, HGQ.out⟩
      case measure =>
        have := HLT.out
        simp [intOf]
        try omega
    · obtain rfl : i = n := by omega
      have j1 : ¬ (i : Int) < (i : Int) := by omega
      clear hlt hi hg
      go_wp2_with fail
      go_ret
      exact ⟨rfl, grown_trans HG.out HGR.out⟩
end Go.Proofs.Ytmbefbmpjkbnmaa
namespace Go.Proofs.Ytmbefbmpjkbnmaa
open Go.RowKit

set_option maxRecDepth 100000

theorem hdr_val (L : Nat) (F : Nat → Nat) : (if hOk L = true then gd.hdr L F else HV.zero) = hdrOf L F := rfl
theorem pVal (L : Nat) (F : Nat → Nat) (a : Option Addr) (c : Nat) (h : pOk2 L F = true) : rowOf 21 (gd.pkt L F a c).v = rowOf 21 (pkt2 L F a c).v := by
  obtain ⟨h1, h2⟩ := pOk_at L F h
  have hg : (gd.pktB L).ok2 = true := by rw [h1]; rfl
  have e3 : (gd.pkt L F a c).nb = (pkt2 L F a c).nb := by show gd.pktL L F = _; rw [h2, pktN_eq]; rfl
  refine rowOf_congr fun i hi => ?_
  unfold PV.v
  rw [e3, pkt_id L F a c]
  repeat' split
  all_goals first | rfl | exact congrArg (fun q : Nat => Value.int .u8 (q : Int)) (pkt_fr L F a c hg _ (by omega)) | exact congrArg (fun q : Nat => Value.int .u8 (q : Int)) (pkt_tw L F a c hg _ (by omega))
theorem eVal (L : Nat) (F : Nat → Nat) (a : Option Addr) (c : Nat) (h : eOk2 L F = true) : rowOf 106 (gd.env L F a c).v = rowOf 106 (env2 L F a c).v := by
  obtain ⟨_, h2, hg⟩ := eOk_at L F h
  have e3 : (gd.env L F a c).nb = (env2 L F a c).nb := by show gd.envL L F = _; rw [h2, envH_eq]; rfl
  obtain ⟨q1, q2, q3⟩ := env_has L F a c
  refine rowOf_congr fun i hi => ?_
  unfold EV.v
  rw [e3, q1, q2, q3]
  repeat' split
  all_goals first | rfl | exact congrArg (fun q : Nat => Value.int .u8 (q : Int)) (env_fr L F a c hg _ (by omega)) | exact congrArg (fun q : Nat => Value.int .u8 (q : Int)) (env_tw L F a c hg _ (by omega))
theorem rVal (L : Nat) (F : Nat → Nat) (a : Option Addr) (c : Nat) (h : rOk2 L F = true) : rowOf 18 (gd.ros L F a c).v = rowOf 18 (ros2 L F a c).v := by
  obtain ⟨h1, _, _⟩ := rOk_at L F h
  have e3 : (gd.ros L F a c).nm = (ros2 L F a c).nm := by show gd.rosL L F = _; rw [h1]; rfl
  refine rowOf_congr fun i hi => ?_
  unfold RV.v
  rw [e3]
  repeat' split
  all_goals rfl
theorem tPkt2_any (D L c : Nat) (a : Option Addr) (F : Nat → Nat) (w : World) (hR : Rd w D a L F) (hF : ∀ i, F i < 256) (hL : L ≤ 2 ^ 46) :
    Calls Try.prog 35 #[.agg (rowOf 3 codPkt), .slice a L c] w fun e w' => ∃ a2 c2, e = .returned (.tuple #[.agg (rowOf 21 (if pOk2 L F = true then pkt2 L F a2 c2 else PV.zero).v), .int .i64 (errT (pOk2 L F))]) ∧ (pOk2 L F = true → OwnN w' w.heap.size (.slice a2 (((((ISt.good 0).take L 2).take L 2).take L ((16 : Nat) : Int)).num L F 4) c2) (((((ISt.good 0).take L 2).take L 2).take L ((16 : Nat) : Int)).num L F 4) (fun i => F ((L - ((((ISt.good 0).take L 2).take L 2).take L ((16 : Nat) : Int)).num L F 4) + i))) ∧ w.grownBy w' none := by
  refine (tPkt_any D L c a F w hR hF hL).mono fun e w' hs => ?_
  obtain ⟨a2, c2, he, ho, hg⟩ := hs
  refine ⟨a2, c2, ?_, fun hk => ?_, hg⟩
  · rw [he, pOk_eq]
    cases hk : pOk2 L F with
    | false => rfl
    | true => rw [if_pos rfl, if_pos rfl, pVal L F a2 c2 hk]
  · obtain ⟨h1, h2⟩ := pOk_at L F hk
    rw [h2, h1, pktN_eq] at ho
    exact ho
theorem tEnv2_any (D L c : Nat) (a : Option Addr) (F : Nat → Nat) (w : World) (hR : Rd w D a L F) (hF : ∀ i, F i < 256) (hL : L ≤ 2 ^ 46) :
    Calls Try.prog 32 #[.agg (rowOf 3 codEnv), .slice a L c] w fun e w' => ∃ a2 c2, e = .returned (.tuple #[.agg (rowOf 106 (if eOk2 L F = true then env2 L F a2 c2 else EV.zero).v), .int .i64 (errT (eOk2 L F))]) ∧ (eOk2 L F = true → OwnN w' w.heap.size (.slice a2 ((((((ISt.good 0).take L 2).take L 2).setS L F).hdrS L).num L F 2) c2) ((((((ISt.good 0).take L 2).take L 2).setS L F).hdrS L).num L F 2) (fun i => F ((L - (((((ISt.good 0).take L 2).take L 2).setS L F).hdrS L).num L F 2) + i))) ∧ w.grownBy w' none := by
  refine (tEnv_any D L c a F w hR hF hL).mono fun e w' hs => ?_
  obtain ⟨a2, c2, he, ho, hg⟩ := hs
  refine ⟨a2, c2, ?_, fun hk => ?_, hg⟩
  · rw [he, eOk_eq]
    cases hk : eOk2 L F with
    | false => rfl
    | true => rw [if_pos rfl, if_pos rfl, eVal L F a2 c2 hk]
  · obtain ⟨h1, h2, _⟩ := eOk_at L F hk
    rw [h2, h1, envH_eq] at ho
    exact ho
theorem tRos2_any (D L c : Nat) (a : Option Addr) (F : Nat → Nat) (w : World) (hR : Rd w D a L F) (hF : ∀ i, F i < 256) (hL : L ≤ 2 ^ 46) :
    Calls Try.prog 27 #[.agg (rowOf 3 codRos), .slice a L c] w fun e w' => ∃ a2 c2, e = .returned (.tuple #[.agg (rowOf 18 (if rOk2 L F = true then ros2 L F a2 c2 else RV.zero).v), .int .i64 (errT (rOk2 L F))]) ∧ (rOk2 L F = true → OwnNE w' w.heap.size 2 (.slice a2 ((((ISt.good 0).take L ((16 : Nat) : Int)).take L ((8 : Nat) : Int)).num L F 2) c2) ((((ISt.good 0).take L ((16 : Nat) : Int)).take L ((8 : Nat) : Int)).num L F 2) (fun q j => .int .u8 ((((((ISt.good 0).take L ((16 : Nat) : Int)).take L ((8 : Nat) : Int)).take L ((2 : Nat) : Int)).dv2 L q).cF L F 2 j))) ∧ w.grownBy w' none := by
  refine (tRos_any D L c a F w hR hF hL).mono fun e w' hs => ?_
  obtain ⟨a2, c2, he, ho, hg⟩ := hs
  refine ⟨a2, c2, ?_, fun hk => ?_, hg⟩
  · rw [he, rOk_eq]
    cases hk : rOk2 L F with
    | false => rfl
    | true => rw [if_pos rfl, if_pos rfl, rVal L F a2 c2 hk]
  · obtain ⟨h1, _, h3⟩ := rOk_at L F hk
    rw [h1] at ho
    exact ho.congrE fun q j hq hj => by rw [h3 q hq j hj]; rfl
theorem samePkt2_any (L c2 c3 : Nat) (a2 a3 : Option Addr) (F : Nat → Nat) (w : World) (hF : ∀ i, F i < 256) (h1 : pOk2 L F = true → ∃ D, Rd w D a2 (((((ISt.good 0).take L 2).take L 2).take L ((16 : Nat) : Int)).num L F 4) (fun i => F ((L - ((((ISt.good 0).take L 2).take L 2).take L ((16 : Nat) : Int)).num L F 4) + i))) (h2 : pOk2 L F = true → ∃ D, Rd w D a3 (((((ISt.good 0).take L 2).take L 2).take L ((16 : Nat) : Int)).num L F 4) (fun i => F ((L - ((((ISt.good 0).take L 2).take L 2).take L ((16 : Nat) : Int)).num L F 4) + i))) :
    Calls Try.prog 37 #[.agg (rowOf 21 (if pOk2 L F = true then pkt2 L F a2 c2 else PV.zero).v), .agg (rowOf 21 (if pOk2 L F = true then pkt2 L F a3 c3 else PV.zero).v)] w fun e w' => e = .returned (.bool true) ∧ w.grownBy w' none := by
  cases hk : pOk2 L F with
  | true =>
    rw [if_pos rfl, if_pos rfl]
    obtain ⟨D1, r1⟩ := h1 hk
    obtain ⟨D2, r2⟩ := h2 hk
    exact samePkt_any w (fun i => hF _) r1 r2
  | false =>
    rw [if_neg (by decide), if_neg (by decide)]
    exact samePkt_any (f := fun _ => 0) (D1 := 0) (D2 := 0) w (fun _ => by decide) ⟨fun h => absurd h (by decide)⟩ ⟨fun h => absurd h (by decide)⟩
theorem sameEnv2_any (L c2 c3 : Nat) (a2 a3 : Option Addr) (F : Nat → Nat) (w : World) (hF : ∀ i, F i < 256) (h1 : eOk2 L F = true → ∃ D, Rd w D a2 ((((((ISt.good 0).take L 2).take L 2).setS L F).hdrS L).num L F 2) (fun i => F ((L - (((((ISt.good 0).take L 2).take L 2).setS L F).hdrS L).num L F 2) + i))) (h2 : eOk2 L F = true → ∃ D, Rd w D a3 ((((((ISt.good 0).take L 2).take L 2).setS L F).hdrS L).num L F 2) (fun i => F ((L - (((((ISt.good 0).take L 2).take L 2).setS L F).hdrS L).num L F 2) + i))) :
    Calls Try.prog 34 #[.agg (rowOf 106 (if eOk2 L F = true then env2 L F a2 c2 else EV.zero).v), .agg (rowOf 106 (if eOk2 L F = true then env2 L F a3 c3 else EV.zero).v)] w fun e w' => e = .returned (.bool true) ∧ w.grownBy w' none := by
  cases hk : eOk2 L F with
  | true =>
    rw [if_pos rfl, if_pos rfl]
    obtain ⟨D1, r1⟩ := h1 hk
    obtain ⟨D2, r2⟩ := h2 hk
    exact sameEnv_any w (fun i => hF _) r1 r2
  | false =>
    rw [if_neg (by decide), if_neg (by decide)]
    exact sameEnv_any (f := fun _ => 0) (D1 := 0) (D2 := 0) w (fun _ => by decide) ⟨fun h => absurd h (by decide)⟩ ⟨fun h => absurd h (by decide)⟩
theorem sameRos2_any (L c2 c3 : Nat) (a2 a3 : Option Addr) (F : Nat → Nat) (w : World) (h1 : rOk2 L F = true → ∃ D, RdD w D a2 ((((ISt.good 0).take L ((16 : Nat) : Int)).take L ((8 : Nat) : Int)).num L F 2) (fun q => (((((ISt.good 0).take L ((16 : Nat) : Int)).take L ((8 : Nat) : Int)).take L ((2 : Nat) : Int)).dv2 L q).cF L F 2) ∧ (((ISt.good 0).take L ((16 : Nat) : Int)).take L ((8 : Nat) : Int)).num L F 2 ≤ c2) (h2 : rOk2 L F = true → ∃ D, RdD w D a3 ((((ISt.good 0).take L ((16 : Nat) : Int)).take L ((8 : Nat) : Int)).num L F 2) (fun q => (((((ISt.good 0).take L ((16 : Nat) : Int)).take L ((8 : Nat) : Int)).take L ((2 : Nat) : Int)).dv2 L q).cF L F 2) ∧ (((ISt.good 0).take L ((16 : Nat) : Int)).take L ((8 : Nat) : Int)).num L F 2 ≤ c3) :
    Calls Try.prog 29 #[.agg (rowOf 18 (if rOk2 L F = true then ros2 L F a2 c2 else RV.zero).v), .agg (rowOf 18 (if rOk2 L F = true then ros2 L F a3 c3 else RV.zero).v)] w fun e w' => e = .returned (.bool true) ∧ w.grownBy w' none := by
  cases hk : rOk2 L F with
  | true =>
    rw [if_pos rfl, if_pos rfl]
    obtain ⟨D1, r1, k1⟩ := h1 hk
    obtain ⟨D2, r2, k2⟩ := h2 hk
    obtain ⟨_, h32, _⟩ := rOk_at L F hk
    exact sameRos_any w (by have : (((ISt.good 0).take L ((16 : Nat) : Int)).take L ((8 : Nat) : Int)).num L F 2 ≤ 32 := h32; omega) k1 k2 r1 r2
  | false =>
    rw [if_neg (by decide), if_neg (by decide)]
    exact sameRos_any (fm := fun _ _ => 0) (D1 := 0) (D2 := 0) w (Nat.zero_le _) (Nat.le_refl _) (Nat.le_refl _) ⟨fun h => absurd h (by decide)⟩ ⟨fun h => absurd h (by decide)⟩
end Go.Proofs.Ytmbefbmpjkbnmaa
namespace Go.Proofs.Ytmbefbmpjkbnmaa
open Go.RowKit

set_option maxRecDepth 100000
set_option maxHeartbeats 4000000

/-- One of each. -/
structure AV where
  d : DV
  r : RV
  h : HV
  e : EV
  p : PV
def AV.v (x : AV) (i : Nat) : Value := if i < 52 then x.d.v i else if i < 70 then x.r.v (i - 52) else if i < 104 then x.h.v (i - 70) else if i < 210 then x.e.v (i - 104) else x.p.v (i - 210)
theorem AV.v_d (x : AV) (j : Nat) (hj : j < 52) : x.v (0 + j) = x.d.v j := by
  rw [Nat.zero_add]; exact if_pos hj
theorem AV.v_r (x : AV) (j : Nat) (hj : j < 18) : x.v (52 + j) = x.r.v j := by
  unfold AV.v
  rw [if_neg (by omega), if_pos (by omega), Nat.add_sub_cancel_left]
theorem AV.v_h (x : AV) (j : Nat) (hj : j < 34) : x.v (70 + j) = x.h.v j := by
  unfold AV.v
  rw [if_neg (by omega), if_neg (by omega), if_pos (by omega), Nat.add_sub_cancel_left]
theorem AV.v_e (x : AV) (j : Nat) (hj : j < 106) : x.v (104 + j) = x.e.v j := by
  unfold AV.v
  rw [if_neg (by omega), if_neg (by omega), if_neg (by omega), if_pos (by omega), Nat.add_sub_cancel_left]
theorem AV.v_p (x : AV) (j : Nat) (hj : j < 21) : x.v (210 + j) = x.p.v j := by
  unfold AV.v
  rw [if_neg (by omega), if_neg (by omega), if_neg (by omega), if_neg (by omega), Nat.add_sub_cancel_left]
/-- Is it more than is gone through? -/
def AV.heavy (x : AV) : Bool := decide (200 < x.r.nm) || decide (9000 < x.e.nb) || decide (80000 < x.p.nb)
theorem heavy_any (x : AV) (w : World) : Calls Try.prog 8 #[.agg (rowOf 231 x.v)] w fun e w' => e = .returned (.bool x.heavy) ∧ w.grownBy w' none := by
  have ga := World.grownBy_alloc w (.cells (rowOf 231 x.v) 45) none
  have hA := RowAt.new w 45 231 x.v _ rfl
  go_enter Try.func8, Try.ntmps8
  go_upto_region 1 with fail
  obtain ⟨B, hB⟩ : ∃ B, B = w.heap.size := ⟨_, rfl⟩
  rw [← hB] at hA ⊢
  generalize w.alloc (.cells (rowOf 231 x.v) 45) = w1 at *
  have c69 : w1.cell? ⟨B, 69, none⟩ = some (.slice x.r.am x.r.nm x.r.cm) := hA.cell 69 (by decide)
  have c209 : w1.cell? ⟨B, 209, none⟩ = some (.slice x.e.ad x.e.nb x.e.cb) := hA.cell 209 (by decide)
  have c230 : w1.cell? ⟨B, 230, none⟩ = some (.slice x.p.ad x.p.nb x.p.cb) := hA.cell 230 (by decide)
  have HG := Lib.hid ga
  obtain ⟨n1, h1⟩ : ∃ n, n = x.r.nm := ⟨_, rfl⟩
  obtain ⟨n2, h2⟩ : ∃ n, n = x.e.nb := ⟨_, rfl⟩
  obtain ⟨n3, h3⟩ : ∃ n, n = x.p.nb := ⟨_, rfl⟩
  have HH : Hid (x.heavy = (decide (200 < n1) || decide (9000 < n2) || decide (80000 < n3))) := Lib.hid (by rw [h1, h2, h3]; rfl)
  rw [← h1] at c69
  rw [← h2] at c209
  rw [← h3] at c230
  clear ga hA hB h1 h2 h3
  by_cases k1 : 200 < n1
  · have j1 : (200 : Int) < (n1 : Int) := by omega
    have HD := Lib.hid (decide_eq_true k1)
    clear k1
    go_wp2_with fail
    go_ret
    exact ⟨by rw [HH.out, HD.out]; rfl, HG.out⟩
  · have j1 : ¬ (200 : Int) < (n1 : Int) := by omega
    have HD := Lib.hid (decide_eq_false k1)
    clear k1
    by_cases k2 : 9000 < n2
    · have j2 : (9000 : Int) < (n2 : Int) := by omega
      have HD2 := Lib.hid (decide_eq_true k2)
      clear k2
      go_wp2_with fail
      go_ret
      exact ⟨by rw [HH.out, HD.out, HD2.out]; rfl, HG.out⟩
    · have j2 : ¬ (9000 : Int) < (n2 : Int) := by omega
      have HD2 := Lib.hid (decide_eq_false k2)
      clear k2
      by_cases k3 : 80000 < n3
      · have j3 : (80000 : Int) < (n3 : Int) := by omega
        have HD3 := Lib.hid (decide_eq_true k3)
        clear k3
        go_wp2_with fail
        go_ret
        exact ⟨by rw [HH.out, HD.out, HD2.out, HD3.out]; rfl, HG.out⟩
      · have j3 : ¬ (80000 : Int) < (n3 : Int) := by omega
        have HD3 := Lib.hid (decide_eq_false k3)
        clear k3
        go_wp2_with fail
        go_ret
        exact ⟨by rw [HH.out, HD.out, HD2.out, HD3.out]; first | rfl | (simp; omega), HG.out⟩
end Go.Proofs.Ytmbefbmpjkbnmaa
namespace Go.Proofs.Ytmbefbmpjkbnmaa
open Go.ChangeShapes Go.WideShapes Go.ChangeAt Go.RowKit

theorem getElem?_of_take_drop {α : Type} (l : List α) (i : Nat) (x : α) (h : (l.drop i).take 1 = [x]) : l[i]? = some x := by
  have h1 : ((l.drop i).take 1)[0]? = some x := by rw [h]; rfl
  simpa using h1

/-- A table of numbers, read. -/
theorem ints_of_trod {H : Type} {enc : TypeId × Value → H} {P : Program} {w : World} {base : Nat} {spare : Nat → Bool} {held : Bool} {fuel : Nat} {t e : TypeId} {k : IntKind} {n : Nat} {cs : List Value} {d : DataW H} {ps : List MemPlace} (L : List Int)
    (ht : P.underlying t = some (.array n e)) (he : P.underlying e = some (.int k)) (hc : P.cellsOf e = 1) (hd : DataW.trod enc P w base spare held fuel t cs = some (d, ps)) (hx : d = .agg (L.map fun z => .lit (.int k z))) :
    ∀ i, i < n → cs[i]? = some (.int k (L.getD i 0)) := by
  subst hx
  obtain ⟨xs, m, rfl, hx, _, hn, hel⟩ := DataW.trod_array ht hd
  intro i hi
  have h1 := hel i hi
  rw [hc, Nat.mul_one] at h1
  have hxi : xs[i]? = some xs[i] := List.getElem?_eq_getElem (by omega)
  rw [hxi] at h1
  obtain ⟨q, e1, e2, _⟩ := DataW.trod_int he h1
  have h2 : L.map (fun z => (DataW.lit (.int k z) : DataW H)) = xs.map (·.1) := by
    have := congrArg Prod.fst hx
    simpa using this
  have h3 : (L.map (fun z => (DataW.lit (.int k z) : DataW H)))[i]? = some (.lit (.int k q)) := by
    rw [h2]; simp [hxi, e2]
  have h4 : L[i]? = some q := by
    rw [List.getElem?_map] at h3
    cases hL : L[i]? with
    | none => rw [hL] at h3; cases h3
    | some z => rw [hL] at h3; simpa using h3
  rw [List.getD, h4]
  exact getElem?_of_take_drop cs i _ e1

theorem own : ownKnob Try.prog.godebug = none := by kernel_rfl
theorem laidOut : laidOutB Try.prog = true := by kernel_rfl

end Go.Proofs.Ytmbefbmpjkbnmaa
namespace Go.Proofs.Ytmbefbmpjkbnmaa
open Go.ChangeShapes Go.WideShapes Go.ChangeAt Go.RowKit

section
variable {H : Type} {enc : TypeId × Value → H} {P : Program}

theorem open_arr8 {W : World} {t e : TypeId} {n : Nat} {r : Reach} {b0 : Nat} {v : Value} {d : DataW H} {ps : List MemPlace} (ht : P.underlying t = some (.array n e)) (he : P.underlying e = some (.int .u8)) (hc : P.cellsOf e = 1) (hn : P.cellsOf t = n)
    (hval : Value.okWide P W r b0 t v) (h : DataW.Trod enc P W 0 (fun _ => true) true t v d ps) : ∃ f, v = .agg (cellsOf .u8 n f) ∧ ∀ i, f i < 256 := by
  have hv := hval
  simp only [Value.okWide, ht] at hv
  obtain ⟨cs, rfl, hs, _⟩ := hv
  obtain ⟨fuel, hf⟩ := h
  obtain ⟨xs, m, rfl, _, hl, _, hel⟩ := DataW.trod_array ht hf
  have key : ∀ i, i < n → ∃ q : Nat, q < 256 ∧ cs[i]? = some (.int .u8 q) := fun i hi => by
    have h1 := hel i hi
    rw [hc, Nat.mul_one] at h1
    cases hx : xs[i]? with
    | none =>
      rw [hx] at h1
      have hlen : i < cs.toList.length := by
        have : cs.size = n := by rw [hs, hn]
        simp [this]; exact hi
      exfalso
      rename_i hxl
      have : xs.length ≤ i := by simpa using hx
      omega
    | some x =>
      rw [hx] at h1
      obtain ⟨q, e1, _, hw⟩ := DataW.trod_int he h1
      have h2 := getElem?_of_take_drop _ i _ e1
      simp [Lit.wf, IntKind.min, IntKind.max, IntKind.bits, IntKind.signed] at hw
      refine ⟨q.toNat, by omega, ?_⟩
      have e2 : ((q.toNat : Nat) : Int) = q := by omega
      rw [e2]
      simpa [Value.cells] using h2
  refine ⟨fun i => (match cs[i]? with | some (.int _ q) => q.toNat | _ => 0) % 256, ?_, fun i => Nat.mod_lt _ (by decide)⟩
  congr 1
  apply Array.ext
  · rw [cellsOf_size, hs, hn]
  · intro i h1 h2
    have hi : i < n := by rwa [hs, hn] at h1
    obtain ⟨q, hq, hcq⟩ := key i hi
    have e1 := cellsOf_get .u8 n (fun i => (match cs[i]? with | some (.int _ q) => q.toNat | _ => 0) % 256) i hi
    rw [Array.getElem?_eq_getElem h2] at e1
    rw [Array.getElem?_eq_getElem h1] at hcq
    injection e1 with e1
    injection hcq with hcq'
    rw [e1, hcq']
    simp only [Array.getElem?_eq_getElem h1, hcq']
    congr 1
    simp; omega

/-- A byte that comes in. -/
theorem open_u8 {W : World} {t : TypeId} {r : Reach} {b0 : Nat} {v : Value} {d : DataW H} {ps : List MemPlace} (ht : P.underlying t = some (.int .u8))
    (hval : Value.okWide P W r b0 t v) (h : DataW.Trod enc P W 0 (fun _ => true) true t v d ps) : ∃ n : Nat, v = .int .u8 n ∧ n < 256 := by
  obtain ⟨x, rfl, _, _, hx⟩ := open_int ht hval h
  simp [Lit.wf, IntKind.min, IntKind.max, IntKind.bits, IntKind.signed] at hx
  exact ⟨x.toNat, by rw [show ((x.toNat : Nat) : Int) = x by omega], by omega⟩

end
end Go.Proofs.Ytmbefbmpjkbnmaa
namespace Go.Proofs.Ytmbefbmpjkbnmaa
open Go.ChangeShapes Go.WideShapes Go.ChangeAt Go.RowKit

set_option maxRecDepth 100000

section
variable {H : Type} {enc : TypeId × Value → H} {P : Program}
theorem at_drop {cs : List Value} {i : Nat} {v : Value} (h : (cs.drop i).take 1 = [v]) : cs[i]? = some v := getElem?_of_take_drop _ i _ h
/-- A slice of numbers, out of its cell. -/
theorem open_numsW {W : World} {t e : TypeId} {k : IntKind} {fuel : Nat} {cs : List Value} {x : DataW H × List MemPlace} (ht : P.underlying t = some (.slice e)) (he : P.underlying e = some (.int k)) (hc : P.cellsOf e = 1) (h0 : (Lit.int k 0).wf = true) (hby : 1 ≤ P.bytesOf e)
    (h : DataW.trod enc P W 0 (fun _ => true) true fuel t cs = some x) (hw : ∀ y, y ∈ x.1.weights P t → y ≤ reachBytes) :
    ∃ (a : Option Addr) (n c : Nat) (z : Nat → Int), cs = [.slice a n c] ∧ n ≤ 140737488355328 ∧ (∀ i, (Lit.int k (z i)).wf = true) ∧
      (0 < n → ∃ tb o, a = some ⟨tb, o, none⟩ ∧ tb < W.heap.size ∧ ∀ i, i < n → W.cell? ⟨tb, o + i, none⟩ = some (.int k (z i))) := by
  rcases open_ints ht he hc h with ⟨h1, _⟩ | ⟨a, len, cap, zs, h1, _, hlc, _, hzl, hx, hcell, hwf⟩
  · exact ⟨none, 0, 0, fun _ => 0, h1, Nat.zero_le _, fun _ => h0, fun h => absurd h (by omega)⟩
  · have hzl' : len ≤ zs.length := by rw [hzl]; simp [hlc]
    refine ⟨some a, len, cap, fun i => zs.getD i 0, h1, ?_, fun i => ?_, fun hn => ?_⟩
    · have := hw ((min len zs.length + (zs.length - len)) * P.bytesOf e) (by
        rw [hx]
        unfold DataW.weights
        rw [ht]
        refine List.mem_cons.2 (Or.inl ?_)
        simp [lits])
      have h2 : (min len zs.length + (zs.length - len)) * 1 ≤ (min len zs.length + (zs.length - len)) * P.bytesOf e := Nat.mul_le_mul_left _ hby
      unfold reachBytes at this
      omega
    · show (Lit.int k (zs.getD i 0)).wf = true
      by_cases hi : i < zs.length
      · have e1 : zs.getD i 0 = zs[i] := by simp [List.getD, List.getElem?_eq_getElem hi]
        rw [e1]
        exact hwf zs[i] (List.getElem_mem hi)
      · have e1 : zs.getD i 0 = 0 := by simp [List.getD, List.getElem?_eq_none (Nat.le_of_not_lt hi)]
        rw [e1]; exact h0
    · have h0' := hcell 0 (by omega)
      have hspot : a.spot = none := by simpa [Addr.add] using World.cell?_spot h0'
      obtain ⟨tb, o, sp⟩ := a
      simp only at hspot
      subst hspot
      refine ⟨tb, o, rfl, ?_, fun i hi => ?_⟩
      · have := World.block_lt_of_cell? W _ h0'
        simpa [Addr.add] using this
      · have h1 := hcell i (by omega)
        rw [Addr.add_mid] at h1
        exact h1
/-- Bytes that come in, and how many. -/
theorem open_bytesW {W : World} {t e : TypeId} {r : Reach} {b0 : Nat} {v : Value} {d : DataW H} {ps : List MemPlace} (ht : P.underlying t = some (.slice e)) (he : P.underlying e = some (.int .u8)) (hc : P.cellsOf e = 1) (hby : 1 ≤ P.bytesOf e)
    (hval : Value.okWide P W r b0 t v) (h : DataW.Trod enc P W 0 (fun _ => true) true t v d ps) (hw : ∀ y, y ∈ d.weights P t → y ≤ reachBytes) :
    ∃ a n c f, v = .slice a n c ∧ n ≤ c ∧ n ≤ 140737488355328 ∧ Rd W W.heap.size a n f ∧ ∀ i, f i < 256 := by
  obtain ⟨a0, len, cap, rfl⟩ := okWide_slice ht hval
  obtain ⟨fuel, hf⟩ := h
  obtain ⟨a, n, c, z, h1, hb, hwf, hcell⟩ := open_numsW ht he hc (by rfl) hby hf hw
  simp [Value.cells] at h1
  obtain ⟨rfl, rfl, rfl⟩ := h1
  have hlc : len ≤ cap := by
    rcases open_ints ht he hc hf with ⟨h2, _⟩ | ⟨_, _, _, _, h2, _, h3, _⟩
    · simp [Value.cells] at h2
      omega
    · simp [Value.cells] at h2
      omega
  have wb : ∀ i, 0 ≤ z i ∧ z i < 256 := fun i => by have := hwf i; simp [Lit.wf, IntKind.min, IntKind.max, IntKind.bits, IntKind.signed] at this; omega
  refine ⟨a0, len, cap, fun i => (z i).toNat, rfl, hlc, hb, ⟨fun hn => ?_⟩, fun i => by have := wb i; show (z i).toNat < 256; omega⟩
  obtain ⟨tb, o, e1, e2, e3⟩ := hcell hn
  refine ⟨tb, o, e1, e2, fun i hi => ?_⟩
  have := wb i
  rw [e3 i hi]
  show some (Value.int .u8 (z i)) = some (Value.int .u8 (((z i).toNat : Nat) : Int))
  rw [show (((z i).toNat : Nat) : Int) = z i by omega]
end
end Go.Proofs.Ytmbefbmpjkbnmaa
namespace Go.Proofs.Ytmbefbmpjkbnmaa
open Go.ChangeShapes Go.WideShapes Go.ChangeAt Go.RowKit

set_option maxRecDepth 100000
set_option maxHeartbeats 4000000

section
variable {H : Type} {enc : TypeId × Value → H} {P : Program}
theorem trod_st2 {W : World} {base : Nat} {spare : Nat → Bool} {held : Bool} {t : TypeId} {f0 f1 : Field} {fuel : Nat} {cs : List Value} {x : DataW H × List MemPlace} (ht : P.underlying t = some (.struct #[f0, f1])) (h : DataW.trod enc P W base spare held fuel t cs = some x) :
    ∃ y0 y1 n, x.1 = .agg [y0.1, y1.1] ∧ DataW.trod enc P W base spare held n f0.type ((cs.drop f0.offset).take (P.cellsOf f0.type)) = some y0 ∧ DataW.trod enc P W base spare held n f1.type ((cs.drop f1.offset).take (P.cellsOf f1.type)) = some y1 := by
  obtain ⟨xs, n, _, rfl, hl, hlen, hf⟩ := DataW.trod_struct ht h
  match xs, hlen with
  | [y0, y1], _ => exact ⟨y0, y1, n, by simp, by simpa using hf 0 f0 rfl, by simpa using hf 1 f1 rfl⟩
theorem weights_st2 {t : TypeId} {f0 f1 : Field} {ls : List (DataW H)} (ht : P.underlying t = some (.struct #[f0, f1])) : (DataW.agg ls).weights P t = DataW.weightsEach P [f0.type, f1.type] ls := by
  conv => lhs; unfold DataW.weights
  rw [ht]
  rfl
theorem trod_st3 {W : World} {base : Nat} {spare : Nat → Bool} {held : Bool} {t : TypeId} {f0 f1 f2 : Field} {fuel : Nat} {cs : List Value} {x : DataW H × List MemPlace} (ht : P.underlying t = some (.struct #[f0, f1, f2])) (h : DataW.trod enc P W base spare held fuel t cs = some x) :
    ∃ y0 y1 y2 n, x.1 = .agg [y0.1, y1.1, y2.1] ∧ DataW.trod enc P W base spare held n f0.type ((cs.drop f0.offset).take (P.cellsOf f0.type)) = some y0 ∧ DataW.trod enc P W base spare held n f1.type ((cs.drop f1.offset).take (P.cellsOf f1.type)) = some y1 ∧ DataW.trod enc P W base spare held n f2.type ((cs.drop f2.offset).take (P.cellsOf f2.type)) = some y2 := by
  obtain ⟨xs, n, _, rfl, hl, hlen, hf⟩ := DataW.trod_struct ht h
  match xs, hlen with
  | [y0, y1, y2], _ => exact ⟨y0, y1, y2, n, by simp, by simpa using hf 0 f0 rfl, by simpa using hf 1 f1 rfl, by simpa using hf 2 f2 rfl⟩
theorem weights_st3 {t : TypeId} {f0 f1 f2 : Field} {ls : List (DataW H)} (ht : P.underlying t = some (.struct #[f0, f1, f2])) : (DataW.agg ls).weights P t = DataW.weightsEach P [f0.type, f1.type, f2.type] ls := by
  conv => lhs; unfold DataW.weights
  rw [ht]
  rfl
theorem trod_st4 {W : World} {base : Nat} {spare : Nat → Bool} {held : Bool} {t : TypeId} {f0 f1 f2 f3 : Field} {fuel : Nat} {cs : List Value} {x : DataW H × List MemPlace} (ht : P.underlying t = some (.struct #[f0, f1, f2, f3])) (h : DataW.trod enc P W base spare held fuel t cs = some x) :
    ∃ y0 y1 y2 y3 n, x.1 = .agg [y0.1, y1.1, y2.1, y3.1] ∧ DataW.trod enc P W base spare held n f0.type ((cs.drop f0.offset).take (P.cellsOf f0.type)) = some y0 ∧ DataW.trod enc P W base spare held n f1.type ((cs.drop f1.offset).take (P.cellsOf f1.type)) = some y1 ∧ DataW.trod enc P W base spare held n f2.type ((cs.drop f2.offset).take (P.cellsOf f2.type)) = some y2 ∧ DataW.trod enc P W base spare held n f3.type ((cs.drop f3.offset).take (P.cellsOf f3.type)) = some y3 := by
  obtain ⟨xs, n, _, rfl, hl, hlen, hf⟩ := DataW.trod_struct ht h
  match xs, hlen with
  | [y0, y1, y2, y3], _ => exact ⟨y0, y1, y2, y3, n, by simp, by simpa using hf 0 f0 rfl, by simpa using hf 1 f1 rfl, by simpa using hf 2 f2 rfl, by simpa using hf 3 f3 rfl⟩
theorem weights_st4 {t : TypeId} {f0 f1 f2 f3 : Field} {ls : List (DataW H)} (ht : P.underlying t = some (.struct #[f0, f1, f2, f3])) : (DataW.agg ls).weights P t = DataW.weightsEach P [f0.type, f1.type, f2.type, f3.type] ls := by
  conv => lhs; unfold DataW.weights
  rw [ht]
  rfl
theorem trod_st5 {W : World} {base : Nat} {spare : Nat → Bool} {held : Bool} {t : TypeId} {f0 f1 f2 f3 f4 : Field} {fuel : Nat} {cs : List Value} {x : DataW H × List MemPlace} (ht : P.underlying t = some (.struct #[f0, f1, f2, f3, f4])) (h : DataW.trod enc P W base spare held fuel t cs = some x) :
    ∃ y0 y1 y2 y3 y4 n, x.1 = .agg [y0.1, y1.1, y2.1, y3.1, y4.1] ∧ DataW.trod enc P W base spare held n f0.type ((cs.drop f0.offset).take (P.cellsOf f0.type)) = some y0 ∧ DataW.trod enc P W base spare held n f1.type ((cs.drop f1.offset).take (P.cellsOf f1.type)) = some y1 ∧ DataW.trod enc P W base spare held n f2.type ((cs.drop f2.offset).take (P.cellsOf f2.type)) = some y2 ∧ DataW.trod enc P W base spare held n f3.type ((cs.drop f3.offset).take (P.cellsOf f3.type)) = some y3 ∧ DataW.trod enc P W base spare held n f4.type ((cs.drop f4.offset).take (P.cellsOf f4.type)) = some y4 := by
  obtain ⟨xs, n, _, rfl, hl, hlen, hf⟩ := DataW.trod_struct ht h
  match xs, hlen with
  | [y0, y1, y2, y3, y4], _ => exact ⟨y0, y1, y2, y3, y4, n, by simp, by simpa using hf 0 f0 rfl, by simpa using hf 1 f1 rfl, by simpa using hf 2 f2 rfl, by simpa using hf 3 f3 rfl, by simpa using hf 4 f4 rfl⟩
theorem weights_st5 {t : TypeId} {f0 f1 f2 f3 f4 : Field} {ls : List (DataW H)} (ht : P.underlying t = some (.struct #[f0, f1, f2, f3, f4])) : (DataW.agg ls).weights P t = DataW.weightsEach P [f0.type, f1.type, f2.type, f3.type, f4.type] ls := by
  conv => lhs; unfold DataW.weights
  rw [ht]
  rfl
theorem trod_st6 {W : World} {base : Nat} {spare : Nat → Bool} {held : Bool} {t : TypeId} {f0 f1 f2 f3 f4 f5 : Field} {fuel : Nat} {cs : List Value} {x : DataW H × List MemPlace} (ht : P.underlying t = some (.struct #[f0, f1, f2, f3, f4, f5])) (h : DataW.trod enc P W base spare held fuel t cs = some x) :
    ∃ y0 y1 y2 y3 y4 y5 n, x.1 = .agg [y0.1, y1.1, y2.1, y3.1, y4.1, y5.1] ∧ DataW.trod enc P W base spare held n f0.type ((cs.drop f0.offset).take (P.cellsOf f0.type)) = some y0 ∧ DataW.trod enc P W base spare held n f1.type ((cs.drop f1.offset).take (P.cellsOf f1.type)) = some y1 ∧ DataW.trod enc P W base spare held n f2.type ((cs.drop f2.offset).take (P.cellsOf f2.type)) = some y2 ∧ DataW.trod enc P W base spare held n f3.type ((cs.drop f3.offset).take (P.cellsOf f3.type)) = some y3 ∧ DataW.trod enc P W base spare held n f4.type ((cs.drop f4.offset).take (P.cellsOf f4.type)) = some y4 ∧ DataW.trod enc P W base spare held n f5.type ((cs.drop f5.offset).take (P.cellsOf f5.type)) = some y5 := by
  obtain ⟨xs, n, _, rfl, hl, hlen, hf⟩ := DataW.trod_struct ht h
  match xs, hlen with
  | [y0, y1, y2, y3, y4, y5], _ => exact ⟨y0, y1, y2, y3, y4, y5, n, by simp, by simpa using hf 0 f0 rfl, by simpa using hf 1 f1 rfl, by simpa using hf 2 f2 rfl, by simpa using hf 3 f3 rfl, by simpa using hf 4 f4 rfl, by simpa using hf 5 f5 rfl⟩
theorem weights_st6 {t : TypeId} {f0 f1 f2 f3 f4 f5 : Field} {ls : List (DataW H)} (ht : P.underlying t = some (.struct #[f0, f1, f2, f3, f4, f5])) : (DataW.agg ls).weights P t = DataW.weightsEach P [f0.type, f1.type, f2.type, f3.type, f4.type, f5.type] ls := by
  conv => lhs; unfold DataW.weights
  rw [ht]
  rfl
/-- An array of bytes among cells. -/
theorem trod_arr8 {W : World} {t e : TypeId} {n o fuel : Nat} {cs : List Value} {x : DataW H × List MemPlace} (ht : P.underlying t = some (.array n e)) (he : P.underlying e = some (.int .u8)) (hc : P.cellsOf e = 1)
    (h : DataW.trod enc P W 0 (fun _ => true) true fuel t ((cs.drop o).take n) = some x) : ∃ f : Nat → Nat, (∀ i, f i < 256) ∧ ∀ i, i < n → cs[o + i]? = some (.int .u8 (f i)) := by
  obtain ⟨xs, m, rfl, _, _, hxl, hel⟩ := DataW.trod_array ht h
  have key : ∀ i, i < n → ∃ q : Nat, q < 256 ∧ cs[o + i]? = some (.int .u8 q) := fun i hi => by
    have h1 := hel i hi
    rw [hc, Nat.mul_one] at h1
    have hx : ∃ y, xs[i]? = some y := ⟨xs[i]'(by omega), List.getElem?_eq_getElem (by omega)⟩
    obtain ⟨y, hx⟩ := hx
    rw [hx] at h1
    obtain ⟨q, e1, _, hw⟩ := DataW.trod_int he h1
    have h2 := getElem?_of_take_drop _ i _ e1
    simp [Lit.wf, IntKind.min, IntKind.max, IntKind.bits, IntKind.signed] at hw
    refine ⟨q.toNat, by omega, ?_⟩
    have e2 : ((q.toNat : Nat) : Int) = q := by omega
    rw [e2, ← h2, List.getElem?_take, if_pos hi, List.getElem?_drop]
  refine ⟨fun i => (match cs[o + i]? with | some (.int _ q) => q.toNat | _ => 0) % 256, fun i => Nat.mod_lt _ (by decide), fun i hi => ?_⟩
  obtain ⟨q, hq, hcq⟩ := key i hi
  have e : (match cs[o + i]? with | some (.int _ q) => q.toNat | _ => 0) = q := by rw [hcq]; rfl
  show cs[o + i]? = some (.int .u8 (((match cs[o + i]? with | some (.int _ q) => q.toNat | _ => 0) % 256 : Nat) : Int))
  rw [e, Nat.mod_eq_of_lt hq]
  exact hcq
theorem sub_cells (cs : List Value) (o n k m : Nat) (h : k + m ≤ n) : (((cs.drop o).take n).drop k).take m = (cs.drop (o + k)).take m := by
  rw [List.drop_take, List.take_take, List.drop_drop]
  congr 1
  omega
end
theorem nat_of_u8 {q : Int} (h : (Lit.int .u8 q).wf = true) : ∃ n : Nat, q = (n : Int) ∧ n < 256 := by
  simp [Lit.wf, IntKind.min, IntKind.max, IntKind.bits, IntKind.signed] at h
  exact ⟨q.toNat, by omega, by omega⟩
theorem nat_of_u32 {q : Int} (h : (Lit.int .u32 q).wf = true) : ∃ n : Nat, q = (n : Int) ∧ n < 4294967296 := by
  simp [Lit.wf, IntKind.min, IntKind.max, IntKind.bits, IntKind.signed] at h
  exact ⟨q.toNat, by omega, by omega⟩
theorem nat_of_u64 {q : Int} (h : (Lit.int .u64 q).wf = true) : ∃ n : Nat, q = (n : Int) ∧ n < 18446744073709551616 := by
  simp [Lit.wf, IntKind.min, IntKind.max, IntKind.bits, IntKind.signed] at h
  exact ⟨q.toNat, by omega, by omega⟩
section
variable {H : Type} {enc : TypeId × Value → H} {W : World} {cs : List Value} {fuel o : Nat} {y : DataW H × List MemPlace}
theorem o_u8 (h : DataW.trod enc Try.prog W 0 (fun _ => true) true fuel 5 ((cs.drop o).take 1) = some y) : ∃ q : Nat, cs[o]? = some (.int .u8 q) ∧ q < 256 := by
  obtain ⟨z, r, _, hw⟩ := DataW.trod_int Try.underlying5 h
  obtain ⟨q, rfl, hq⟩ := nat_of_u8 hw
  exact ⟨q, at_drop r, hq⟩
theorem o_u32 (h : DataW.trod enc Try.prog W 0 (fun _ => true) true fuel 34 ((cs.drop o).take 1) = some y) : ∃ q : Nat, cs[o]? = some (.int .u32 q) ∧ q < 4294967296 := by
  obtain ⟨z, r, _, hw⟩ := DataW.trod_int Try.underlying34 h
  obtain ⟨q, rfl, hq⟩ := nat_of_u32 hw
  exact ⟨q, at_drop r, hq⟩
theorem o_u64 (h : DataW.trod enc Try.prog W 0 (fun _ => true) true fuel 24 ((cs.drop o).take 1) = some y) : ∃ q : Nat, cs[o]? = some (.int .u64 q) ∧ q < 18446744073709551616 := by
  obtain ⟨z, r, _, hw⟩ := DataW.trod_int Try.underlying24 h
  obtain ⟨q, rfl, hq⟩ := nat_of_u64 hw
  exact ⟨q, at_drop r, hq⟩
theorem o_bool (h : DataW.trod enc Try.prog W 0 (fun _ => true) true fuel 4 ((cs.drop o).take 1) = some y) : ∃ q : Bool, cs[o]? = some (.bool q) := by
  obtain ⟨q, r, _⟩ := DataW.trod_bool Try.underlying4 h
  exact ⟨q, at_drop r⟩
theorem o_id (h : DataW.trod enc Try.prog W 0 (fun _ => true) true fuel 23 ((cs.drop o).take 16) = some y) : ∃ f : Nat → Nat, (∀ i, f i < 256) ∧ ∀ i, i < 16 → cs[o + i]? = some (.int .u8 (f i)) := trod_arr8 (t := 23) (n := 16) (e := 5) (by kernel_rfl) Try.underlying5 (by kernel_rfl) h
theorem o_key (h : DataW.trod enc Try.prog W 0 (fun _ => true) true fuel 28 ((cs.drop o).take 32) = some y) : ∃ f : Nat → Nat, (∀ i, f i < 256) ∧ ∀ i, i < 32 → cs[o + i]? = some (.int .u8 (f i)) := trod_arr8 (t := 28) (n := 32) (e := 5) (by kernel_rfl) Try.underlying5 (by kernel_rfl) h
theorem o_dev (h : DataW.trod enc Try.prog W 0 (fun _ => true) true fuel 26 ((cs.drop o).take 2) = some y) : ∃ f : Nat → Nat, (∀ i, f i < 256) ∧ ∀ i, i < 2 → cs[o + i]? = some (.int .u8 (f i)) := by
  obtain ⟨y0, y1, n, hx, q0, q1⟩ := trod_st2 Try.underlying26 h
  replace q0 : DataW.trod enc Try.prog W 0 (fun _ => true) true n 5 ((cs.drop (o + 0)).take 1) = some y0 := by rw [← sub_cells cs o 2 0 1 (by decide)]; exact q0
  replace q1 : DataW.trod enc Try.prog W 0 (fun _ => true) true n 5 ((cs.drop (o + 1)).take 1) = some y1 := by rw [← sub_cells cs o 2 1 1 (by decide)]; exact q1
  obtain ⟨a, ha, ha'⟩ := o_u8 q0
  obtain ⟨b, hb, hb'⟩ := o_u8 q1
  refine ⟨fun i => if i = 0 then a else b, fun i => by dsimp; split <;> assumption, fun i hi => ?_⟩
  obtain rfl | rfl : i = 0 ∨ i = 1 := by omega
  · exact ha
  · exact hb
theorem o_hdr (h : DataW.trod enc Try.prog W 0 (fun _ => true) true fuel 36 ((cs.drop o).take 34) = some y) : ∃ x : HV, x.Ok ∧ ∀ i, i < 34 → cs[o + i]? = some (x.v i) := by
  obtain ⟨y0, y1, y2, n, hx, q0, q1, q2⟩ := trod_st3 Try.underlying36 h
  replace q0 : DataW.trod enc Try.prog W 0 (fun _ => true) true n 28 ((cs.drop (o + 0)).take 32) = some y0 := by rw [← sub_cells cs o 34 0 32 (by decide)]; exact q0
  replace q1 : DataW.trod enc Try.prog W 0 (fun _ => true) true n 34 ((cs.drop (o + 32)).take 1) = some y1 := by rw [← sub_cells cs o 34 32 1 (by decide)]; exact q1
  replace q2 : DataW.trod enc Try.prog W 0 (fun _ => true) true n 34 ((cs.drop (o + 33)).take 1) = some y2 := by rw [← sub_cells cs o 34 33 1 (by decide)]; exact q2
  obtain ⟨f, hf, hc⟩ := o_key q0
  obtain ⟨a, ha, ha'⟩ := o_u32 q1
  obtain ⟨b, hb, hb'⟩ := o_u32 q2
  refine ⟨⟨f, a, b⟩, ⟨hf, ha', hb'⟩, fun i hi => ?_⟩
  unfold HV.v
  by_cases i1 : i < 32
  · rw [if_pos i1]
    exact hc i i1
  · rw [if_neg i1]
    by_cases i2 : i < 33
    · rw [if_pos i2]
      obtain rfl : i = 32 := by omega
      exact ha
    · rw [if_neg i2]
      obtain rfl : i = 33 := by omega
      exact hb
theorem o_set (h : DataW.trod enc Try.prog W 0 (fun _ => true) true fuel 38 ((cs.drop o).take 66) = some y) : ∃ x : SetV, x.Ok ∧ ∀ i, i < 66 → cs[o + i]? = some (x.v i) := by
  obtain ⟨y0, y1, y2, y3, n, hx, q0, q1, q2, q3⟩ := trod_st4 Try.underlying38 h
  replace q0 : DataW.trod enc Try.prog W 0 (fun _ => true) true n 28 ((cs.drop (o + 0)).take 32) = some y0 := by rw [← sub_cells cs o 66 0 32 (by decide)]; exact q0
  replace q1 : DataW.trod enc Try.prog W 0 (fun _ => true) true n 28 ((cs.drop (o + 32)).take 32) = some y1 := by rw [← sub_cells cs o 66 32 32 (by decide)]; exact q1
  replace q2 : DataW.trod enc Try.prog W 0 (fun _ => true) true n 4 ((cs.drop (o + 64)).take 1) = some y2 := by rw [← sub_cells cs o 66 64 1 (by decide)]; exact q2
  replace q3 : DataW.trod enc Try.prog W 0 (fun _ => true) true n 34 ((cs.drop (o + 65)).take 1) = some y3 := by rw [← sub_cells cs o 66 65 1 (by decide)]; exact q3
  obtain ⟨f, hf, hc⟩ := o_key q0
  obtain ⟨g, hg, hd⟩ := o_key q1
  obtain ⟨a, ha⟩ := o_bool q2
  obtain ⟨b, hb, hb'⟩ := o_u32 q3
  refine ⟨⟨f, g, a, b⟩, ⟨hf, hg, hb'⟩, fun i hi => ?_⟩
  unfold SetV.v
  by_cases i0 : i < 32
  · rw [if_pos i0]
    have := hc (i - 0) (by omega)
    rw [show o + 0 + (i - 0) = o + i by omega] at this
    exact this
  · rw [if_neg i0]
    by_cases i1 : i < 64
    · rw [if_pos i1]
      have := hd (i - 32) (by omega)
      rw [show o + 32 + (i - 32) = o + i by omega] at this
      exact this
    · rw [if_neg i1]
      by_cases i2 : i < 65
      · rw [if_pos i2]
        obtain rfl : i = 64 := by omega
        exact ha
      · rw [if_neg i2]
        obtain rfl : i = 65 := by omega
        exact hb
structure DV.Ok (x : DV) : Prop where
  id : ∀ i, x.id i < 256
  ep : x.ep < 18446744073709551616
  sd : ∀ i, x.sd i < 256
  kid : x.kid < 18446744073709551616
  key : ∀ i, x.key i < 256
theorem o_dist (h : DataW.trod enc Try.prog W 0 (fun _ => true) true fuel 30 ((cs.drop o).take 52) = some y) : ∃ x : DV, x.Ok ∧ ∀ i, i < 52 → cs[o + i]? = some (x.v i) := by
  obtain ⟨y0, y1, y2, y3, y4, n, hx, q0, q1, q2, q3, q4⟩ := trod_st5 Try.underlying30 h
  replace q0 : DataW.trod enc Try.prog W 0 (fun _ => true) true n 23 ((cs.drop (o + 0)).take 16) = some y0 := by rw [← sub_cells cs o 52 0 16 (by decide)]; exact q0
  replace q1 : DataW.trod enc Try.prog W 0 (fun _ => true) true n 24 ((cs.drop (o + 16)).take 1) = some y1 := by rw [← sub_cells cs o 52 16 1 (by decide)]; exact q1
  replace q2 : DataW.trod enc Try.prog W 0 (fun _ => true) true n 26 ((cs.drop (o + 17)).take 2) = some y2 := by rw [← sub_cells cs o 52 17 2 (by decide)]; exact q2
  replace q3 : DataW.trod enc Try.prog W 0 (fun _ => true) true n 24 ((cs.drop (o + 19)).take 1) = some y3 := by rw [← sub_cells cs o 52 19 1 (by decide)]; exact q3
  replace q4 : DataW.trod enc Try.prog W 0 (fun _ => true) true n 28 ((cs.drop (o + 20)).take 32) = some y4 := by rw [← sub_cells cs o 52 20 32 (by decide)]; exact q4
  obtain ⟨f, hf, hc⟩ := o_id q0
  obtain ⟨a, ha, ha'⟩ := o_u64 q1
  obtain ⟨g, hg, hd⟩ := o_dev q2
  obtain ⟨b, hb, hb'⟩ := o_u64 q3
  obtain ⟨k, hk, he⟩ := o_key q4
  refine ⟨⟨f, a, g, b, k⟩, ⟨hf, ha', hg, hb', hk⟩, fun i hi => ?_⟩
  unfold DV.v
  by_cases i0 : i < 16
  · rw [if_pos i0]
    have := hc (i - 0) (by omega)
    rw [show o + 0 + (i - 0) = o + i by omega] at this
    exact this
  · rw [if_neg i0]
    by_cases i1 : i < 17
    · rw [if_pos i1]
      obtain rfl : i = 16 := by omega
      exact ha
    · rw [if_neg i1]
      by_cases i2 : i < 19
      · rw [if_pos i2]
        have := hd (i - 17) (by omega)
        rw [show o + 17 + (i - 17) = o + i by omega] at this
        exact this
      · rw [if_neg i2]
        by_cases i3 : i < 20
        · rw [if_pos i3]
          obtain rfl : i = 19 := by omega
          exact hb
        · rw [if_neg i3]
          have := he (i - 20) (by omega)
          rw [show o + 20 + (i - 20) = o + i by omega] at this
          exact this
/-- Bytes that can be read, and how many. -/
theorem o_bytes (h : DataW.trod enc Try.prog W 0 (fun _ => true) true fuel 39 ((cs.drop o).take 1) = some y) (hw : ∀ z, z ∈ y.1.weights Try.prog 39 → z ≤ reachBytes) : ∃ (a : Option Addr) (n c : Nat) (f : Nat → Nat), cs[o]? = some (.slice a n c) ∧ n ≤ 140737488355328 ∧ (∀ i, f i < 256) ∧ Rd W W.heap.size a n f := by
  obtain ⟨a, n, c, z, r, l, hz, hR⟩ := open_numsW (t := 39) (e := 5) under_bytes Try.underlying5 (by kernel_rfl) (by rfl) (by rw [show Try.prog.bytesOf 5 = 1 by kernel_rfl]; decide) h hw
  refine ⟨a, n, c, fun i => (z i).toNat, at_drop r, l, fun i => ?_, ⟨fun hn => ?_⟩⟩
  · obtain ⟨q, e, hq⟩ := nat_of_u8 (hz i)
    show (z i).toNat < 256
    omega
  · obtain ⟨tb, o', e1, e2, e3⟩ := hR hn
    refine ⟨tb, o', e1, e2, fun i hi => ?_⟩
    obtain ⟨q, e, hq⟩ := nat_of_u8 (hz i)
    rw [e3 i hi]
    show some (Value.int .u8 (z i)) = some (Value.int .u8 (((z i).toNat : Nat) : Int))
    rw [show (((z i).toNat : Nat) : Int) = z i by omega]
theorem o_devs (h : DataW.trod enc Try.prog W 0 (fun _ => true) true fuel 31 ((cs.drop o).take 1) = some y) (hw : ∀ z, z ∈ y.1.weights Try.prog 31 → z ≤ reachBytes) : ∃ (a : Option Addr) (n c : Nat) (fm : Nat → Nat → Nat), cs[o]? = some (.slice a n c) ∧ n ≤ c ∧ n ≤ 140737488355328 ∧ (∀ i j, fm i j < 256) ∧ RdD W W.heap.size a n fm := by
  have ht := Try.underlying31
  rcases Deep.open_slice ht h with ⟨h1, _⟩ | ⟨a, len, cap, m, n, D, Pl, h1, _, hlc, hmx, hmm, hd, hx⟩
  · exact ⟨none, 0, 0, fun _ _ => 0, at_drop h1, Nat.zero_le _, Nat.zero_le _, fun _ _ => Nat.succ_pos _, ⟨fun h => absurd h (by decide)⟩⟩
  · have hmc : m = cap := by simpa using hmm
    have hdd : y.1 = .slice ((List.range len).map D) ((List.range (m - len)).map fun j => D (len + j)) := congrArg Prod.fst hd
    have hwd : DataW.weights Try.prog 31 y.1 = (((List.range len).map D).length + ((List.range (m - len)).map fun j => D (len + j)).length) * Try.prog.bytesOf 26 :: (DataW.weightsAll Try.prog 26 ((List.range len).map D) ++ DataW.weightsAll Try.prog 26 ((List.range (m - len)).map fun j => D (len + j))) := by
      rw [hdd]
      conv => lhs; unfold DataW.weights
      rw [ht]
    have hlen : len ≤ 140737488355328 := by
      have h1 := hw _ (by rw [hwd]; exact List.mem_cons_self ..)
      simp only [List.length_map, List.length_range] at h1
      have h2 : (len + (m - len)) * 1 ≤ (len + (m - len)) * Try.prog.bytesOf 26 := Nat.mul_le_mul_left _ (by rw [show Try.prog.bytesOf 26 = 2 by kernel_rfl]; decide)
      unfold reachBytes at h1
      omega
    have cu : Try.prog.cellsOf 26 = 2 := by kernel_rfl
    have hspot0 : 0 < len → a.spot = none := fun h0 => by
      obtain ⟨cs', g1, _⟩ := hx 0 (by omega)
      rw [cu] at g1
      obtain ⟨_, hl5, hc⟩ := World.cells?_some g1
      have c0 := hc 0 (by omega)
      obtain ⟨v0, hv0⟩ : ∃ v, cs'[0]? = some v := ⟨_, List.getElem?_eq_getElem (by omega)⟩
      rw [hv0] at c0
      simpa [Addr.add] using World.cell?_spot c0
    have key : ∀ i, ∃ f : Nat → Nat, (∀ j, f j < 256) ∧ (i < len → a.spot = none ∧ ∀ j, j < 2 → W.cell? ⟨a.block, a.off + (i * 2 + j), none⟩ = some (.int .u8 (f j))) := fun i => by
      by_cases hi : i < len
      · obtain ⟨cs', g1, g2⟩ := hx i (by omega)
        rw [cu] at g1
        obtain ⟨_, hl5, hc⟩ := World.cells?_some g1
        obtain ⟨f, hf, hq⟩ := o_dev (o := 0) (cs := cs') (by
          rw [List.drop_zero, List.take_of_length_le (by omega)]
          exact g2)
        have hspot := hspot0 (by omega)
        obtain ⟨tb', o', sp⟩ := a
        simp only at hspot
        subst hspot
        refine ⟨f, hf, fun _ => ⟨rfl, fun j hj => ?_⟩⟩
        have c := hc j (by omega)
        rw [Addr.add_mid, Addr.add_mid] at c
        have e := hq j hj
        rw [Nat.zero_add] at e
        rw [e] at c
        rw [← Nat.add_assoc]
        exact c
      · exact ⟨fun _ => 0, fun _ => Nat.succ_pos _, fun h => absurd h hi⟩
    obtain ⟨fm, hfm⟩ := Classical.axiomOfChoice key
    refine ⟨some a, len, cap, fm, at_drop h1, hlc, hlen, fun i j => (hfm i).1 j, ⟨fun h0 => ?_⟩⟩
    have h2 := (hfm 0).2 h0
    have hlt := World.block_lt_of_cell? W _ (h2.2 0 (by decide))
    obtain ⟨tb', o', sp⟩ := a
    have hspot := h2.1
    simp only at hspot
    subst hspot
    exact ⟨tb', o', rfl, hlt, fun i j hi hj => ((hfm i).2 hi).2 j hj⟩
end
end Go.Proofs.Ytmbefbmpjkbnmaa
namespace Go.Proofs.Ytmbefbmpjkbnmaa
open Go.ChangeShapes Go.WideShapes Go.ChangeAt Go.RowKit

set_option maxRecDepth 100000
set_option maxHeartbeats 4000000

structure RV.Ok (x : RV) (fm : Nat → Nat → Nat) (W : World) : Prop where
  id : ∀ i, x.id i < 256
  le : x.nm ≤ x.cm
  ep : x.ep < 18446744073709551616
  nm : x.nm ≤ 140737488355328
  fml : ∀ i j, fm i j < 256
  rd : RdD W W.heap.size x.am x.nm fm
structure BoxOk (a : Option Addr) (n : Nat) (f : Nat → Nat) (W : World) : Prop where
  nl : n ≤ 140737488355328
  fl : ∀ i, f i < 256
  rd : Rd W W.heap.size a n f
structure PV.Ok (x : PV) : Prop where
  fr : ∀ i, x.fr i < 256
  tw : ∀ i, x.tw i < 256
  id : ∀ i, x.id i < 256
section
variable {H : Type} {enc : TypeId × Value → H} {W : World} {cs : List Value} {fuel o : Nat} {y : DataW H × List MemPlace}
theorem o_ros (h : DataW.trod enc Try.prog W 0 (fun _ => true) true fuel 33 ((cs.drop o).take 18) = some y) (hw : ∀ z, z ∈ y.1.weights Try.prog 33 → z ≤ reachBytes) : ∃ (x : RV) (fm : Nat → Nat → Nat), x.Ok fm W ∧ ∀ i, i < 18 → cs[o + i]? = some (x.v i) := by
  obtain ⟨y0, y1, y2, n, hx, q0, q1, q2⟩ := trod_st3 Try.underlying33 h
  replace q0 : DataW.trod enc Try.prog W 0 (fun _ => true) true n 23 ((cs.drop (o + 0)).take 16) = some y0 := by rw [← sub_cells cs o 18 0 16 (by decide)]; exact q0
  replace q1 : DataW.trod enc Try.prog W 0 (fun _ => true) true n 24 ((cs.drop (o + 16)).take 1) = some y1 := by rw [← sub_cells cs o 18 16 1 (by decide)]; exact q1
  replace q2 : DataW.trod enc Try.prog W 0 (fun _ => true) true n 31 ((cs.drop (o + 17)).take 1) = some y2 := by rw [← sub_cells cs o 18 17 1 (by decide)]; exact q2
  have hwx : y.1.weights Try.prog 33 = DataW.weightsEach Try.prog [23, 24, 31] [y0.1, y1.1, y2.1] := by rw [hx]; exact weights_st3 Try.underlying33
  rw [hwx] at hw
  simp only [DataW.weightsEach, List.mem_append] at hw
  obtain ⟨f, hf, hc⟩ := o_id q0
  obtain ⟨a, ha, ha'⟩ := o_u64 q1
  obtain ⟨am, nm, cm, fm, hm, hle, hn, hfm, hR⟩ := o_devs q2 (fun z hz => hw z (Or.inr (Or.inr (Or.inl hz))))
  refine ⟨⟨f, a, am, nm, cm⟩, fm, ⟨hf, hle, ha', hn, hfm, hR⟩, fun i hi => ?_⟩
  unfold RV.v
  by_cases i0 : i < 16
  · rw [if_pos i0]
    have := hc (i - 0) (by omega)
    rw [show o + 0 + (i - 0) = o + i by omega] at this
    exact this
  · rw [if_neg i0]
    by_cases i1 : i < 17
    · rw [if_pos i1]
      obtain rfl : i = 16 := by omega
      exact ha
    · rw [if_neg i1]
      obtain rfl : i = 17 := by omega
      exact hm
theorem o_pkt (h : DataW.trod enc Try.prog W 0 (fun _ => true) true fuel 43 ((cs.drop o).take 21) = some y) (hw : ∀ z, z ∈ y.1.weights Try.prog 43 → z ≤ reachBytes) : ∃ (x : PV) (fb : Nat → Nat), x.Ok ∧ BoxOk x.ad x.nb fb W ∧ ∀ i, i < 21 → cs[o + i]? = some (x.v i) := by
  obtain ⟨y0, y1, y2, y3, n, hx, q0, q1, q2, q3⟩ := trod_st4 Try.underlying43 h
  replace q0 : DataW.trod enc Try.prog W 0 (fun _ => true) true n 26 ((cs.drop (o + 0)).take 2) = some y0 := by rw [← sub_cells cs o 21 0 2 (by decide)]; exact q0
  replace q1 : DataW.trod enc Try.prog W 0 (fun _ => true) true n 26 ((cs.drop (o + 2)).take 2) = some y1 := by rw [← sub_cells cs o 21 2 2 (by decide)]; exact q1
  replace q2 : DataW.trod enc Try.prog W 0 (fun _ => true) true n 23 ((cs.drop (o + 4)).take 16) = some y2 := by rw [← sub_cells cs o 21 4 16 (by decide)]; exact q2
  replace q3 : DataW.trod enc Try.prog W 0 (fun _ => true) true n 39 ((cs.drop (o + 20)).take 1) = some y3 := by rw [← sub_cells cs o 21 20 1 (by decide)]; exact q3
  have hwx : y.1.weights Try.prog 43 = DataW.weightsEach Try.prog [26, 26, 23, 39] [y0.1, y1.1, y2.1, y3.1] := by rw [hx]; exact weights_st4 Try.underlying43
  rw [hwx] at hw
  simp only [DataW.weightsEach, List.mem_append] at hw
  obtain ⟨f, hf, hc⟩ := o_dev q0
  obtain ⟨g, hg, hd⟩ := o_dev q1
  obtain ⟨k, hk, he⟩ := o_id q2
  obtain ⟨a, n, c, fb, hb, hn, hfb, hR⟩ := o_bytes q3 (fun z hz => hw z (Or.inr (Or.inr (Or.inr (Or.inl hz)))))
  refine ⟨⟨f, g, k, a, n, c⟩, fb, ⟨hf, hg, hk⟩, ⟨hn, hfb, hR⟩, fun i hi => ?_⟩
  unfold PV.v
  by_cases i0 : i < 2
  · rw [if_pos i0]
    have := hc (i - 0) (by omega)
    rw [show o + 0 + (i - 0) = o + i by omega] at this
    exact this
  · rw [if_neg i0]
    by_cases i1 : i < 4
    · rw [if_pos i1]
      have := hd (i - 2) (by omega)
      rw [show o + 2 + (i - 2) = o + i by omega] at this
      exact this
    · rw [if_neg i1]
      by_cases i2 : i < 20
      · rw [if_pos i2]
        have := he (i - 4) (by omega)
        rw [show o + 4 + (i - 4) = o + i by omega] at this
        exact this
      · rw [if_neg i2]
        obtain rfl : i = 20 := by omega
        exact hb
theorem o_env (h : DataW.trod enc Try.prog W 0 (fun _ => true) true fuel 41 ((cs.drop o).take 106) = some y) (hw : ∀ z, z ∈ y.1.weights Try.prog 41 → z ≤ reachBytes) : ∃ (x : EV) (fb : Nat → Nat), x.Ok ∧ BoxOk x.ad x.nb fb W ∧ ∀ i, i < 106 → cs[o + i]? = some (x.v i) := by
  obtain ⟨y0, y1, y2, y3, y4, y5, n, hx, q0, q1, q2, q3, q4, q5⟩ := trod_st6 Try.underlying41 h
  replace q0 : DataW.trod enc Try.prog W 0 (fun _ => true) true n 26 ((cs.drop (o + 0)).take 2) = some y0 := by rw [← sub_cells cs o 106 0 2 (by decide)]; exact q0
  replace q1 : DataW.trod enc Try.prog W 0 (fun _ => true) true n 26 ((cs.drop (o + 2)).take 2) = some y1 := by rw [← sub_cells cs o 106 2 2 (by decide)]; exact q1
  replace q2 : DataW.trod enc Try.prog W 0 (fun _ => true) true n 4 ((cs.drop (o + 4)).take 1) = some y2 := by rw [← sub_cells cs o 106 4 1 (by decide)]; exact q2
  replace q3 : DataW.trod enc Try.prog W 0 (fun _ => true) true n 38 ((cs.drop (o + 5)).take 66) = some y3 := by rw [← sub_cells cs o 106 5 66 (by decide)]; exact q3
  replace q4 : DataW.trod enc Try.prog W 0 (fun _ => true) true n 36 ((cs.drop (o + 71)).take 34) = some y4 := by rw [← sub_cells cs o 106 71 34 (by decide)]; exact q4
  replace q5 : DataW.trod enc Try.prog W 0 (fun _ => true) true n 39 ((cs.drop (o + 105)).take 1) = some y5 := by rw [← sub_cells cs o 106 105 1 (by decide)]; exact q5
  have hwx : y.1.weights Try.prog 41 = DataW.weightsEach Try.prog [26, 26, 4, 38, 36, 39] [y0.1, y1.1, y2.1, y3.1, y4.1, y5.1] := by rw [hx]; exact weights_st6 Try.underlying41
  rw [hwx] at hw
  simp only [DataW.weightsEach, List.mem_append] at hw
  obtain ⟨f, hf, hc⟩ := o_dev q0
  obtain ⟨g, hg, hd⟩ := o_dev q1
  obtain ⟨t, ht⟩ := o_bool q2
  obtain ⟨s, hs, hsc⟩ := o_set q3
  obtain ⟨k, hk, he⟩ := o_hdr q4
  obtain ⟨a, n, c, fb, hb, hn, hfb, hR⟩ := o_bytes q5 (fun z hz => hw z (Or.inr (Or.inr (Or.inr (Or.inr (Or.inr (Or.inl hz)))))))
  refine ⟨⟨f, g, t, s, k, a, n, c⟩, fb, ⟨hf, hg, hs, hk⟩, ⟨hn, hfb, hR⟩, fun i hi => ?_⟩
  unfold EV.v
  by_cases i0 : i < 2
  · rw [if_pos i0]
    have := hc (i - 0) (by omega)
    rw [show o + 0 + (i - 0) = o + i by omega] at this
    exact this
  · rw [if_neg i0]
    by_cases i1 : i < 4
    · rw [if_pos i1]
      have := hd (i - 2) (by omega)
      rw [show o + 2 + (i - 2) = o + i by omega] at this
      exact this
    · rw [if_neg i1]
      by_cases i2 : i < 5
      · rw [if_pos i2]
        obtain rfl : i = 4 := by omega
        exact ht
      · rw [if_neg i2]
        by_cases i3 : i < 71
        · rw [if_pos i3]
          have := hsc (i - 5) (by omega)
          rw [show o + 5 + (i - 5) = o + i by omega] at this
          exact this
        · rw [if_neg i3]
          by_cases i4 : i < 105
          · rw [if_pos i4]
            have := he (i - 71) (by omega)
            rw [show o + 71 + (i - 71) = o + i by omega] at this
            exact this
          · rw [if_neg i4]
            obtain rfl : i = 105 := by omega
            exact hb
structure AV.Ok (x : AV) (fm : Nat → Nat → Nat) (eb pb : Nat → Nat) (W : World) : Prop where
  d : x.d.Ok
  r : x.r.Ok fm W
  h : x.h.Ok
  e : x.e.Ok
  eb : BoxOk x.e.ad x.e.nb eb W
  p : x.p.Ok
  pb : BoxOk x.p.ad x.p.nb pb W
theorem o_all (h : DataW.trod enc Try.prog W 0 (fun _ => true) true fuel 45 ((cs.drop o).take 231) = some y) (hw : ∀ z, z ∈ y.1.weights Try.prog 45 → z ≤ reachBytes) : ∃ (x : AV) (fm : Nat → Nat → Nat) (eb pb : Nat → Nat), x.Ok fm eb pb W ∧ ∀ i, i < 231 → cs[o + i]? = some (x.v i) := by
  obtain ⟨y0, y1, y2, y3, y4, n, hx, q0, q1, q2, q3, q4⟩ := trod_st5 Try.underlying45 h
  replace q0 : DataW.trod enc Try.prog W 0 (fun _ => true) true n 30 ((cs.drop (o + 0)).take 52) = some y0 := by rw [← sub_cells cs o 231 0 52 (by decide)]; exact q0
  replace q1 : DataW.trod enc Try.prog W 0 (fun _ => true) true n 33 ((cs.drop (o + 52)).take 18) = some y1 := by rw [← sub_cells cs o 231 52 18 (by decide)]; exact q1
  replace q2 : DataW.trod enc Try.prog W 0 (fun _ => true) true n 36 ((cs.drop (o + 70)).take 34) = some y2 := by rw [← sub_cells cs o 231 70 34 (by decide)]; exact q2
  replace q3 : DataW.trod enc Try.prog W 0 (fun _ => true) true n 41 ((cs.drop (o + 104)).take 106) = some y3 := by rw [← sub_cells cs o 231 104 106 (by decide)]; exact q3
  replace q4 : DataW.trod enc Try.prog W 0 (fun _ => true) true n 43 ((cs.drop (o + 210)).take 21) = some y4 := by rw [← sub_cells cs o 231 210 21 (by decide)]; exact q4
  have hwx : y.1.weights Try.prog 45 = DataW.weightsEach Try.prog [30, 33, 36, 41, 43] [y0.1, y1.1, y2.1, y3.1, y4.1] := by rw [hx]; exact weights_st5 Try.underlying45
  rw [hwx] at hw
  simp only [DataW.weightsEach, List.mem_append] at hw
  obtain ⟨d, hd, dc⟩ := o_dist q0
  obtain ⟨r, fm, hr, rc⟩ := o_ros q1 (fun z hz => hw z (Or.inr (Or.inl hz)))
  obtain ⟨k, hk, kc⟩ := o_hdr q2
  obtain ⟨e, eb, he, heb, ec⟩ := o_env q3 (fun z hz => hw z (Or.inr (Or.inr (Or.inr (Or.inl hz)))))
  obtain ⟨p, pb, hp, hpb, pc⟩ := o_pkt q4 (fun z hz => hw z (Or.inr (Or.inr (Or.inr (Or.inr (Or.inl hz))))))
  refine ⟨⟨d, r, k, e, p⟩, fm, eb, pb, ⟨hd, hr, hk, he, heb, hp, hpb⟩, fun i hi => ?_⟩
  unfold AV.v
  by_cases i0 : i < 52
  · rw [if_pos i0]
    have := dc (i - 0) (by omega)
    rw [show o + 0 + (i - 0) = o + i by omega] at this
    exact this
  · rw [if_neg i0]
    by_cases i1 : i < 70
    · rw [if_pos i1]
      have := rc (i - 52) (by omega)
      rw [show o + 52 + (i - 52) = o + i by omega] at this
      exact this
    · rw [if_neg i1]
      by_cases i2 : i < 104
      · rw [if_pos i2]
        have := kc (i - 70) (by omega)
        rw [show o + 70 + (i - 70) = o + i by omega] at this
        exact this
      · rw [if_neg i2]
        by_cases i3 : i < 210
        · rw [if_pos i3]
          have := ec (i - 104) (by omega)
          rw [show o + 104 + (i - 104) = o + i by omega] at this
          exact this
        · rw [if_neg i3]
          have := pc (i - 210) (by omega)
          rw [show o + 210 + (i - 210) = o + i by omega] at this
          exact this
end
theorem open_all {H : Type} {enc : TypeId × Value → H} {W : World} {v : Value} {d : DataW H} {ps : List MemPlace} {r : Reach} {b0 : Nat}
    (hval : Value.okWide Try.prog W r b0 45 v) (h : DataW.Trod enc Try.prog W 0 (fun _ => true) true 45 v d ps) (hw : ∀ y, y ∈ d.weights Try.prog 45 → y ≤ reachBytes) :
    ∃ x : AV, v = .agg (rowOf 231 x.v) ∧ ∃ (fm : Nat → Nat → Nat) (eb pb : Nat → Nat), x.Ok fm eb pb W := by
  have hu := Try.underlying45
  have hv := hval
  simp only [Value.okWide, hu] at hv
  obtain ⟨cs, rfl, hs, _⟩ := hv
  have hsz : cs.size = 231 := by rw [hs]; kernel_rfl
  obtain ⟨fuel, hf⟩ := h
  obtain ⟨x, fm, eb, pb, hok, hc⟩ := o_all (W := W) (cs := cs.toList) (o := 0) (y := (d, ps)) (by
    rw [List.drop_zero, List.take_of_length_le (by rw [Array.length_toList, hsz]; exact Nat.le_refl _)]
    exact hf) hw
  refine ⟨x, ?_, fm, eb, pb, hok⟩
  congr 1
  apply Array.ext
  · rw [hsz, rowOf_size]
  · intro i h1 h2
    have hi : i < 231 := by omega
    have e1 := hc i hi
    rw [Nat.zero_add, Array.getElem?_toList, Array.getElem?_eq_getElem h1] at e1
    have e2 := rowOf_get 231 x.v i hi
    rw [Array.getElem?_eq_getElem h2] at e2
    exact (Option.some.inj e1).trans (Option.some.inj e2).symm
end Go.Proofs.Ytmbefbmpjkbnmaa
namespace Go.Proofs.Ytmbefbmpjkbnmaa
open Go.RowKit

set_option maxRecDepth 100000
set_option maxHeartbeats 4000000

theorem distPut_any {w0 w : World} {g lim : Nat} {f : Nat → Nat} (x : DV) (hx : x.ep < 18446744073709551616 ∧ x.kid < 18446744073709551616) (h : Good w0 w g lim 0 f) (hr : 66 ≤ lim) (hl : lim ≤ 2 ^ 46) :
    Calls Try.prog 63 #[.pointer (some ⟨g, 0, none⟩), .agg (rowOf 52 x.v)] w (Goes w0 w g lim 66 x.bytes) := by
  have HL := Lib.hid (And.intro hr hl)
  have HXX := Lib.hid hx
  clear hr hl hx
  have hP := PX.begin h 30 52 x.v
  clear h
  go_enter Try.func63, Try.ntmps63
  go_upto_region 1 with fail
  obtain ⟨B, hB⟩ : ∃ B, B = w.heap.size := ⟨_, rfl⟩
  rw [← hB] at hP ⊢
  generalize w.alloc (.cells (rowOf 52 x.v) 30) = wa at *
  clear hB
  have HX := Lib.hid (hP.fixed 39 0 16 16 x.id (by decide) x.v_id (by have := HL.out; omega) HL.out.2)
  clear hP
  go_wp2_with fail
  go_at_call 64
  refine HX.out.mono ?_
  rintro e w1 ⟨rfl, hP⟩
  clear HX
  have HX := Lib.hid (hP.u64 24 x.ep HXX.out.1 (by have := HL.out; omega) HL.out.2)
  have c16 : w1.cell? ⟨B, 16, none⟩ = some (.int .u64 x.ep) := hP.row.cell 16 (by decide)
  clear hP
  go_wp2_with fail
  go_at_call 65
  refine HX.out.mono ?_
  rintro e w2 ⟨rfl, hP⟩
  clear HX c16
  have HX := Lib.hid ((putDevice_any x.sd hP.out (by have := HL.out; omega) HL.out.2).mono fun e w' hs => hP.call hs)
  have HLD := Lib.hid (hP.row.load (P := Try.prog) 17 26 2 (fun j => .int .u8 (x.sd j)) (by decide) x.v_sd (by kernel_rfl) (by kernel_rfl))
  clear hP
  go_wp2_with (first | ((with_reducible refine wpList_here ?_); refine wpList_ld (p := .pointer (some ⟨B, 17, none⟩)) 15 ?_ ?_ ?_ HLD.out ?_; (· rfl); go_simp; (· kernel_rfl)))
  go_at_call 66
  refine HX.out.mono ?_
  rintro e w3 ⟨rfl, hP⟩
  clear HX HLD
  have HX := Lib.hid (hP.u64 24 x.kid HXX.out.2 (by have := HL.out; omega) HL.out.2)
  have c19 : w3.cell? ⟨B, 19, none⟩ = some (.int .u64 x.kid) := hP.row.cell 19 (by decide)
  clear hP
  go_wp2_with fail
  go_at_call 65
  refine HX.out.mono ?_
  rintro e w4 ⟨rfl, hP⟩
  clear HX c19
  have HX := Lib.hid (hP.fixed 39 20 32 32 x.key (by decide) x.v_key (by have := HL.out; omega) HL.out.2)
  clear hP
  go_wp2_with fail
  go_at_call 64
  refine HX.out.mono ?_
  rintro e w5 ⟨rfl, hP⟩
  clear HX
  have hD := hP.done
  clear hP
  rw [cat_none, Nat.zero_add] at hD
  have HE := Lib.hid (hD)
  clear hD
  go_wp2_with fail
  go_end0
  exact HE.out
theorem pktPut_any {w0 w : World} {g lim D : Nat} {f fb : Nat → Nat} (x : PV) (hR : Rd w0 D x.ad x.nb fb) (hn : x.nb ≤ 70000) (h : Good w0 w g lim 0 f) (hr : x.len ≤ lim) (hl : lim ≤ 2 ^ 46) :
    Calls Try.prog 101 #[.pointer (some ⟨g, 0, none⟩), .agg (rowOf 21 x.v)] w (Goes w0 w g lim x.len (x.bytes fb)) := by
  have HL := Lib.hid (And.intro (show 24 + x.nb ≤ lim from hr) hl)
  have HRR := Lib.hid hR
  have HN := Lib.hid hn
  have e0 : IntKind.u32.wrap (x.nb : Int) = (x.nb : Int) := by rw [IntKind.wrap_u32]; omega
  have E0 := Lib.hid e0
  clear hr hl hR hn e0
  have hP := PX.begin h 43 21 x.v
  clear h
  go_enter Try.func101, Try.ntmps101
  go_upto_region 1 with fail
  obtain ⟨B, hB⟩ : ∃ B, B = w.heap.size := ⟨_, rfl⟩
  rw [← hB] at hP ⊢
  generalize w.alloc (.cells (rowOf 21 x.v) 43) = wa at *
  clear hB
  have HX := Lib.hid ((putDevice_any x.fr hP.out (by have := HL.out; omega) HL.out.2).mono fun e w' hs => hP.call hs)
  have HLD := Lib.hid (hP.row.load (P := Try.prog) 0 26 2 (fun j => .int .u8 (x.fr j)) (by decide) x.v_fr (by kernel_rfl) (by kernel_rfl))
  clear hP
  go_wp2_with (first | ((with_reducible refine wpList_here ?_); refine wpList_ld (p := .pointer (some ⟨B, 0, none⟩)) 5 ?_ ?_ ?_ HLD.out ?_; (· rfl); go_simp; (· kernel_rfl)))
  go_at_call 66
  refine HX.out.mono ?_
  rintro e w1 ⟨rfl, hP⟩
  clear HX HLD
  have HX := Lib.hid ((putDevice_any x.tw hP.out (by have := HL.out; omega) HL.out.2).mono fun e w' hs => hP.call hs)
  have HLD := Lib.hid (hP.row.load (P := Try.prog) 2 26 2 (fun j => .int .u8 (x.tw j)) (by decide) x.v_to (by kernel_rfl) (by kernel_rfl))
  clear hP
  go_wp2_with (first | ((with_reducible refine wpList_here ?_); refine wpList_ld (p := .pointer (some ⟨B, 2, none⟩)) 9 ?_ ?_ ?_ HLD.out ?_; (· rfl); go_simp; (· kernel_rfl)))
  go_at_call 66
  refine HX.out.mono ?_
  rintro e w2 ⟨rfl, hP⟩
  clear HX HLD
  have HX := Lib.hid (hP.fixed 39 4 16 16 x.id (by decide) x.v_id (by have := HL.out; omega) HL.out.2)
  clear hP
  go_wp2_with fail
  go_at_call 64
  refine HX.out.mono ?_
  rintro e w3 ⟨rfl, hP⟩
  clear HX
  have HX := Lib.hid (hP.u32 34 x.nb (by have := HN.out; omega) (by have := HL.out; omega) HL.out.2)
  have c20 : w3.cell? ⟨B, 20, none⟩ = some (.slice x.ad x.nb x.cb) := hP.row.cell 20 (by decide)
  have e0 := E0.out
  clear hP
  go_wp2_with fail
  go_at_call 102
  refine HX.out.mono ?_
  rintro e w4 ⟨rfl, hP⟩
  clear HX c20 e0
  have HX := Lib.hid (hP.bytes 39 D x.nb x.cb x.ad fb HRR.out (by have := HL.out; omega) HL.out.2)
  have c20 : w4.cell? ⟨B, 20, none⟩ = some (.slice x.ad x.nb x.cb) := hP.row.cell 20 (by decide)
  clear hP
  go_wp2_with fail
  go_at_call 64
  refine HX.out.mono ?_
  rintro e w5 ⟨rfl, hP⟩
  clear HX c20
  have hD := hP.done
  clear hP
  rw [cat_none, Nat.zero_add] at hD
  have HE := Lib.hid (hD)
  clear hD
  go_wp2_with fail
  go_end0
  exact HE.out
theorem envPut_any {w0 w : World} {g lim D : Nat} {f fb : Nat → Nat} (x : EV) (hx : x.Ok) (hR : Rd w0 D x.ad x.nb fb) (hn : x.nb ≤ 4096) (h : Good w0 w g lim 0 f) (hr : 5 + 69 + 40 + 2 + x.nb ≤ lim) (hl : lim ≤ 2 ^ 46) :
    Calls Try.prog 91 #[.pointer (some ⟨g, 0, none⟩), .agg (rowOf 106 x.v)] w (Goes w0 w g lim x.len (x.bytes fb)) := by
  have hsl : x.st.sl x.has ≤ 69 := by
    unfold SetV.sl
    split
    · split <;> omega
    · omega
  have HL := Lib.hid (And.intro hr hl)
  have HSL := Lib.hid hsl
  have HRR := Lib.hid hR
  have HN := Lib.hid hn
  have HXX := Lib.hid hx
  clear hr hl hR hn hsl hx
  have hP := PX.begin h 41 106 x.v
  clear h
  go_enter Try.func91, Try.ntmps91
  go_upto_region 1 with fail
  obtain ⟨B, hB⟩ : ∃ B, B = w.heap.size := ⟨_, rfl⟩
  rw [← hB] at hP ⊢
  generalize w.alloc (.cells (rowOf 106 x.v) 41) = wa at *
  clear hB
  have HX := Lib.hid ((putDevice_any x.fr hP.out (by have := HL.out; omega) HL.out.2).mono fun e w' hs => hP.call hs)
  have HLD := Lib.hid (hP.row.load (P := Try.prog) 0 26 2 (fun j => .int .u8 (x.fr j)) (by decide) x.v_fr (by kernel_rfl) (by kernel_rfl))
  clear hP
  go_wp2_with (first | ((with_reducible refine wpList_here ?_); refine wpList_ld (p := .pointer (some ⟨B, 0, none⟩)) 5 ?_ ?_ ?_ HLD.out ?_; (· rfl); go_simp; (· kernel_rfl)))
  go_at_call 66
  refine HX.out.mono ?_
  rintro e w1 ⟨rfl, hP⟩
  clear HX HLD
  have HX := Lib.hid ((putDevice_any x.tw hP.out (by have := HL.out; omega) HL.out.2).mono fun e w' hs => hP.call hs)
  have HLD := Lib.hid (hP.row.load (P := Try.prog) 2 26 2 (fun j => .int .u8 (x.tw j)) (by decide) x.v_to (by kernel_rfl) (by kernel_rfl))
  clear hP
  go_wp2_with (first | ((with_reducible refine wpList_here ?_); refine wpList_ld (p := .pointer (some ⟨B, 2, none⟩)) 9 ?_ ?_ ?_ HLD.out ?_; (· rfl); go_simp; (· kernel_rfl)))
  go_at_call 66
  refine HX.out.mono ?_
  rintro e w2 ⟨rfl, hP⟩
  clear HX HLD
  have HX := Lib.hid ((putSetup_any x.has x.st HXX.out.st hP.out (by have := HL.out; omega) HL.out.2).mono fun e w' hs => hP.call hs)
  have c4 : w2.cell? ⟨B, 4, none⟩ = some (.bool x.has) := hP.row.cell 4 (by decide)
  have HLD := Lib.hid (hP.row.load (P := Try.prog) 5 38 66 x.st.v (by decide) x.v_st (by kernel_rfl) (by kernel_rfl))
  clear hP
  go_wp2_with (first | ((with_reducible refine wpList_here ?_); refine wpList_ld (p := .pointer (some ⟨B, 5, none⟩)) 15 ?_ ?_ ?_ HLD.out ?_; (· rfl); go_simp; (· kernel_rfl)))
  go_at_call 92
  refine HX.out.mono ?_
  rintro e w3 ⟨rfl, hP⟩
  clear HX c4 HLD
  obtain ⟨n3, hn3⟩ : ∃ n, n = 0 + 2 + 2 + 1 + x.st.sl x.has := ⟨_, rfl⟩
  rw [← hn3] at hP
  have HN3 := Lib.hid hn3
  clear hn3
  have HX := Lib.hid ((putHeader_any x.hd HXX.out.hd hP.out (by have := HL.out; have := HN3.out; have := HSL.out; omega) HL.out.2).mono fun e w' hs => hP.call hs)
  have HLD := Lib.hid (hP.row.load (P := Try.prog) 71 36 34 x.hd.v (by decide) x.v_hd (by kernel_rfl) (by kernel_rfl))
  clear hP
  go_wp2_with (first | ((with_reducible refine wpList_here ?_); refine wpList_ld (p := .pointer (some ⟨B, 71, none⟩)) 19 ?_ ?_ ?_ HLD.out ?_; (· rfl); go_simp; (· kernel_rfl)))
  go_at_call 73
  refine HX.out.mono ?_
  rintro e w4 ⟨rfl, hP⟩
  clear HX HLD
  have HX := Lib.hid ((outSizedG 4096 D x.nb x.cb x.ad fb hP.out (by have := HN.out; omega) HRR.out (by decide) (by decide) (by have := HL.out; have := HN3.out; have := HSL.out; omega) HL.out.2).mono fun e w' hs => hP.call hs)
  have c105 : w4.cell? ⟨B, 105, none⟩ = some (.slice x.ad x.nb x.cb) := hP.row.cell 105 (by decide)
  clear hP
  go_wp2_with fail
  go_at_call 93
  refine HX.out.mono ?_
  rintro e w5 ⟨rfl, hP⟩
  clear HX c105
  have hD := hP.done
  clear hP
  rw [HN3.out, cat_none] at hD
  have HE : Hid (Goes w0 w g lim x.len (x.bytes fb) (.returned (.tuple #[])) w5) := Lib.hid (goes_less hD (by unfold EV.len; omega) (fun i _ => by
    unfold EV.bytes
    rw [show 0 + 2 + 2 + 1 + x.st.sl x.has = 5 + x.st.sl x.has by omega]))
  clear hD
  go_wp2_with fail
  go_end0
  exact HE.out
end Go.Proofs.Ytmbefbmpjkbnmaa
namespace Go.Proofs.Ytmbefbmpjkbnmaa
open Go.RowKit

set_option maxRecDepth 100000
set_option maxHeartbeats 4000000

theorem fn_putDev (w : World) : (binOp .eql 147 (.func (.func 66) #[] #[]) .nilFunc).run Try.prog w = .ok (.bool false) w := by kernel_rfl
theorem devsB_succ (n : Nat) (f : Nat → Nat) (fm : Nat → Nat → Nat) (i : Nat) : cat (n + 2 * i) (cat n f (devsB fm i)) (fm i) = cat n f (devsB fm (i + 1)) := cat_cat n (2 * i) f _ _
theorem putDevs_any {w0 w : World} {g lim n0 : Nat} {f0 : Nat → Nat} (D n cv : Nat) (av : Option Addr) (fm : Nat → Nat → Nat) (h : Good w0 w g lim n0 f0) (hR : RdD w0 D av n fm) (hn : n ≤ 32) (hr : n0 + 2 + 2 * n ≤ lim) (hl : lim ≤ 2 ^ 46) :
    Calls Try.prog 81 #[.pointer (some ⟨g, 0, none⟩), .int .i64 32, .slice av n cv, .func (.func 66) #[] #[]] w (Goes w0 w g lim (n0 + 2 + 2 * n) (cat (n0 + 2) (cat n0 f0 (nbF n 2)) (devsB fm n))) := by
  have HC := Lib.hid (outCountK_any 32 n h (by omega) (by decide) (by decide) (by omega))
  rw [OSt.put_room _ _ _ _ _ (by omega)] at HC
  have HM := Lib.hid (And.intro hr hl)
  have HR := Lib.hid hR
  have HN := Lib.hid hn
  clear h hR hn hr hl
  have e0 := fn_putDev w
  go_enter Try.func81, Try.ntmps81
  go_wp2_with fail
  go_at_call 130
  refine HC.out.mono ?_
  rintro e w1 ⟨⟨rfl, h1⟩, h3⟩
  have HE : Hid (Goes w0 w g lim (n0 + 2) (cat n0 f0 (nbF n 2)) (.returned (.tuple #[])) w1) := Lib.hid ⟨⟨rfl, h1⟩, h3⟩
  clear h1 h3 HC e0
  go_wp2_with fail
  go_loopw [21] (fun u21 wr => ∃ i : Nat, i ≤ n ∧ u21 = .int .i64 i ∧ Goes w0 w g lim (n0 + 2 + 2 * i) (cat (n0 + 2) (cat n0 f0 (nbF n 2)) (devsB fm i)) (.returned (.tuple #[])) wr) (fun u21 _ => n - (intOf u21).toNat)
  case atStart => exact ⟨0, Nat.zero_le _, rfl, goes_less HE.out rfl (fun i hi => (cat_low hi).symm)⟩
  case round =>
    obtain ⟨i, hi, rfl, hG⟩ := hrel
    by_cases hlt : i < n
    case neg =>
      obtain rfl : i = n := by omega
      have j1 : ¬ (i : Int) < (i : Int) := by omega
      have HG := Lib.hid hG
      clear hG hi hlt
      go_wp2_with fail
      go_end0
      exact HG.out
    case pos =>
    have j1 : (i : Int) < (n : Int) := by omega
    obtain ⟨tb, o, rfl, htb, hcl⟩ := (HR.out.grown hG.says.st.gr (fun k e => by cases e)).ex (by omega)
    have h0 : wr.cell? ⟨tb, o + i * 2, none⟩ = some (.int .u8 (fm i 0)) := by simpa using hcl i 0 hlt (by decide)
    have h1 : wr.cell? ⟨tb, o + i * 2 + 1, none⟩ = some (.int .u8 (fm i 1)) := by simpa [Nat.add_assoc] using hcl i 1 hlt (by decide)
    have HLD := Lib.hid (load_devQ h0 h1)
    have gx := World.grownBy_alloc wr (.cells #[.int .u8 0, .int .u8 0] 26) none
    have hX := RowAt.new wr 26 2 (fun _ => .int .u8 (0 : Nat)) #[.int .u8 0, .int .u8 0] rfl
    obtain ⟨k1, k2⟩ := RowAt.store (P := Try.prog) hX 0 26 2 (fun j => .int .u8 (fm i j)) (by decide) (by kernel_rfl) (fun _ _ => rfl)
    have hX2 := k2.congr (v' := fun j => .int .u8 (fm i j)) fun k hk => by rw [if_pos ⟨Nat.zero_le _, by omega⟩, Nat.sub_zero]
    have gX := grown_setCells (w0 := wr) wr.heap.size (Or.inl (Nat.le_refl _)) (rowOf 2 (fun j => .int .u8 (fm i j))).toList 0 _ gx
    obtain ⟨X, hXX⟩ : ∃ X, X = wr.heap.size := ⟨_, rfl⟩
    obtain ⟨w5, hw5⟩ : ∃ W, W = (wr.alloc (.cells #[.int .u8 0, .int .u8 0] 26)).setCells wr.heap.size 0 (rowOf 2 (fun j => .int .u8 (fm i j))).toList := ⟨_, rfl⟩
    rw [← hw5] at k1 hX2 gX
    have HS := Lib.hid k1
    have HX := Lib.hid hX2
    have HXX := Lib.hid hXX
    have h5 := hG.says.st.grown gX
    have HK5 := Lib.hid (hG.kp.trans (Keep.grown hG.says.st gX))
    have HD := Lib.hid (done_any h5)
    have HP := Lib.hid (putDevice_any (fm i) h5 (by have := HM.out.1; omega) HM.out.2)
    have HLT := Lib.hid hlt
    clear h0 h1 hcl htb hX k1 k2 hX2 gX gx hG hi hlt hw5 hXX h5
    go_upto_region 6 with (first | ((with_reducible refine wpList_here ?_); refine wpList_ld (p := .pointer (some ⟨tb, o + i * 2, none⟩)) 23 ?_ ?_ ?_ HLD.out ?_; (· rfl); go_simp; (· kernel_rfl)) | ((with_reducible refine wpList_here ?_); refine wpList_st (T := 26) (p := .pointer (some ⟨wr.heap.size, 0, none⟩)) (v := .agg (rowOf 2 (fun j => .int .u8 (fm i j)))) (.tmp 9) (.tmp 24) ?_ ?_ ?_ ?_ ?_ (by exact HS.out) ?_; (· rfl); (· rfl); go_simp; (· kernel_rfl); (· kernel_rfl)))
    clear HLD HS
    have HLX := Lib.hid (HX.out.load (P := Try.prog) 0 26 2 _ (by decide) (fun j _ => by rw [Nat.zero_add]) (by kernel_rfl) (by kernel_rfl))
    go_wp2_with fail
    go_at_call 131
    refine HD.out.mono ?_
    rintro e w6 ⟨rfl, rfl⟩
    clear HD
    go_wp2_with (first | ((with_reducible refine wpList_here ?_); refine wpList_ld (p := .pointer (some ⟨wr.heap.size, 0, none⟩)) 9 ?_ ?_ ?_ HLX.out ?_; (· rfl); go_simp; (· kernel_rfl)))
    go_at_call 66
    refine HP.out.mono ?_
    rintro e w7 ⟨⟨rfl, h7⟩, h8⟩
    have HE2 : Hid (Goes w0 w g lim (n0 + 2 + 2 * (i + 1)) (cat (n0 + 2) (cat n0 f0 (nbF n 2)) (devsB fm (i + 1))) (.returned (.tuple #[])) w7) := Lib.hid (by
      rw [show n0 + 2 + 2 * (i + 1) = n0 + 2 + 2 * i + 2 by omega, ← devsB_succ]
      exact ⟨⟨rfl, h7⟩, HK5.out.trans h8⟩)
    have HW := Lib.hid (show wrap64 ((i : Int) + 1) = ((i + 1 : Nat) : Int) by have := HLT.out; have := HN.out; unfold wrap64; omega)
    clear h7 h8 HP HLX
    go_wp2_with fail
    go_roundw
    case rel => exact ⟨i + 1, HLT.out, by rw [HW.out], HE2.out⟩
    case measure => exact meas_lt n i _ (by rw [HW.out]) HLT.out
theorem rosPut_any {w0 w : World} {g lim D : Nat} {f : Nat → Nat} (x : RV) (fm : Nat → Nat → Nat) (hx : x.ep < 18446744073709551616) (hR : RdD w0 D x.am x.nm fm) (hn : x.nm ≤ 32) (h : Good w0 w g lim 0 f) (hr : x.len ≤ lim) (hl : lim ≤ 2 ^ 46) :
    Calls Try.prog 80 #[.pointer (some ⟨g, 0, none⟩), .agg (rowOf 18 x.v)] w (Goes w0 w g lim x.len (x.bytes fm)) := by
  have HL := Lib.hid (And.intro (show 26 + 2 * x.nm ≤ lim from hr) hl)
  have HXX := Lib.hid hx
  have HRR := Lib.hid hR
  have HN := Lib.hid hn
  clear hr hl hx hR hn
  have hP := PX.begin h 33 18 x.v
  clear h
  go_enter Try.func80, Try.ntmps80
  go_upto_region 1 with fail
  obtain ⟨B, hB⟩ : ∃ B, B = w.heap.size := ⟨_, rfl⟩
  rw [← hB] at hP ⊢
  generalize w.alloc (.cells (rowOf 18 x.v) 33) = wa at *
  clear hB
  have HX := Lib.hid (hP.fixed 39 0 16 16 x.id (by decide) x.v_id (by have := HL.out; omega) HL.out.2)
  clear hP
  go_wp2_with fail
  go_at_call 64
  refine HX.out.mono ?_
  rintro e w1 ⟨rfl, hP⟩
  clear HX
  have HX := Lib.hid (hP.u64 24 x.ep HXX.out (by have := HL.out; omega) HL.out.2)
  have c16 : w1.cell? ⟨B, 16, none⟩ = some (.int .u64 x.ep) := hP.row.cell 16 (by decide)
  clear hP
  go_wp2_with fail
  go_at_call 65
  refine HX.out.mono ?_
  rintro e w2 ⟨rfl, hP⟩
  clear HX c16
  have HX := Lib.hid ((putDevs_any D x.nm x.cm x.am fm hP.out HRR.out HN.out (by have := HL.out; omega) HL.out.2).mono fun e w' hs => hP.call hs)
  have c17 : w2.cell? ⟨B, 17, none⟩ = some (.slice x.am x.nm x.cm) := hP.row.cell 17 (by decide)
  clear hP
  go_wp2_with fail
  go_at_call 81
  refine HX.out.mono ?_
  rintro e w3 ⟨rfl, hP⟩
  clear HX c17
  have hD := hP.done
  clear hP
  rw [cat_none, Nat.zero_add] at hD
  have HE := Lib.hid (hD)
  clear hD
  go_wp2_with fail
  go_end0
  exact HE.out
end Go.Proofs.Ytmbefbmpjkbnmaa
namespace Go.Proofs.Ytmbefbmpjkbnmaa
open Go.RowKit

theorem catU {n : Nat} {f g : Nat → Nat} (hf : ∀ i, f i < 256) (hg : ∀ i, g i < 256) (i : Nat) : cat n f g i < 256 := by
  unfold cat
  split
  · exact hf i
  · exact hg _
theorem flagU (b : Bool) (i : Nat) : (fun _ : Nat => flagB b) i < 256 := by
  show flagB b < 256
  cases b <;> decide
theorem devsU {fm : Nat → Nat → Nat} (h : ∀ i j, fm i j < 256) : ∀ n i, devsB fm n i < 256
  | 0, _ => by unfold devsB; decide
  | n + 1, i => by unfold devsB; exact catU (devsU h n) (h n) i
theorem DV.b_u (x : DV) (h : x.Ok) : ∀ i, x.bytes i < 256 := catU (catU (catU (catU h.id (nbF_lt _ _)) h.sd) (nbF_lt _ _)) h.key
theorem HV.b_u (x : HV) (h : x.Ok) : ∀ i, x.bytes i < 256 := catU (catU h.dh (nbF_lt _ _)) (nbF_lt _ _)
theorem SetV.b_u (x : SetV) (h : x.Ok) : ∀ i, x.sf i < 256 := catU (catU (catU h.ident h.eph) (flagU _)) (nbF_lt _ _)
theorem EV.b_u (x : EV) (h : x.Ok) {fb : Nat → Nat} (hf : ∀ i, fb i < 256) : ∀ i, x.bytes fb i < 256 := catU (catU (catU (catU (catU (catU h.fr h.tw) (flagU _)) (SetV.b_u _ h.st)) (HV.b_u _ h.hd)) (nbF_lt _ _)) hf
theorem RV.b_u (x : RV) {fm : Nat → Nat → Nat} (hi : ∀ i, x.id i < 256) (hf : ∀ i j, fm i j < 256) : ∀ i, x.bytes fm i < 256 := catU (catU (catU hi (nbF_lt _ _)) (nbF_lt _ _)) (devsU hf _)
theorem PV.b_u (x : PV) (h : x.Ok) {fb : Nat → Nat} (hf : ∀ i, fb i < 256) : ∀ i, x.bytes fb i < 256 := catU (catU (catU (catU h.fr h.tw) h.id) (nbF_lt _ _)) hf
end Go.Proofs.Ytmbefbmpjkbnmaa
namespace Go.Proofs.Ytmbefbmpjkbnmaa
open Go.RowKit

set_option maxRecDepth 100000

theorem ISt.take_val (L : Nat) (s : ISt) (n p : Nat) (h : (s.take L n).ok2 = true) (hs : s = .good p) : s.take L n = .good (p + n) := by
  subst hs
  have h2 := (ISt.take_good L _ n h).2
  have h3 : n ≤ L - p := of_decide_eq_true h2
  exact if_pos ⟨by omega, by omega⟩
theorem ISt.good_cF (L : Nat) (F : Nat → Nat) (p n : Nat) (h : n ≤ L - p) (i : Nat) : (ISt.good p).cF L F n i = F (p + i) := by
  unfold ISt.cF
  rw [if_pos (show ISt.fits L (.good p) n = true from decide_eq_true h)]
  rfl
theorem ISt.good_num (L : Nat) (F : Nat → Nat) (p n : Nat) (h : n ≤ L - p) : (ISt.good p).num L F n = ofB8 (fun i => F (p + i)) n := by
  unfold ISt.num
  rw [show ISt.got L (.good p) (n : Int) = n from if_pos ⟨by omega, by omega⟩]
  rfl
theorem cat_hi {n i : Nat} {f g : Nat → Nat} (h : n ≤ i) : cat n f g i = g (i - n) := if_neg (by omega)
theorem num_of (F : Nat → Nat) (p v k : Nat) (hv : v < 256 ^ k) (h : ∀ i, i < k → F (p + i) = nbF v k i) : ofB8 (fun i => F (p + i)) k = v := by
  rw [ofB8_congr _ (nbF v k) k h, ofB8_number v k hv]
-- a sender's key: 66 bytes
theorem dist_len (L : Nat) (F : Nat → Nat) (h : distOk L F = true) : L = 66 := by
  unfold distOk at h
  rw [Bool.and_eq_true] at h
  have k5 := ISt.all_ok2 L _ h.1
  have k4 := (ISt.take_good L _ 32 k5).1
  have k3 := (ISt.take_good L _ 8 k4).1
  have k2 := (ISt.take_good L _ 2 k3).1
  have k1 := (ISt.take_good L _ 8 k2).1
  have e1 := ISt.take_val L _ 16 0 k1 rfl
  have e2 := ISt.take_val L _ 8 _ k2 e1
  have e3 := ISt.take_val L _ 2 _ k3 e2
  have e4 := ISt.take_val L _ 8 _ k4 e3
  have e5 := ISt.take_val L _ 32 _ k5 e4
  have e6 := ISt.all_good L _ h.1
  rw [show distS L = .good 66 from e5] at e6
  cases e6
  rfl
theorem dist_S66 : distS 66 = .good 66 := rfl
theorem dist_V66 (F : Nat → Nat) : distV 66 F = ⟨(ISt.good 0).cF 66 F 16, (ISt.good 16).num 66 F 8, (ISt.good 24).cF 66 F 2, (ISt.good 26).num 66 F 8, (ISt.good 34).cF 66 F 32⟩ := rfl
theorem dist_W66 (F : Nat → Nat) : distV 66 F = ⟨fun i => F (0 + i), ofB8 (fun i => F (16 + i)) 8, fun i => F (24 + i), ofB8 (fun i => F (26 + i)) 8, fun i => F (34 + i)⟩ := by
  rw [dist_V66, ISt.good_num 66 F 16 8 (by decide), ISt.good_num 66 F 26 8 (by decide)]
  rfl
theorem DV.by_id (x : DV) (i : Nat) (h : i < 16) : x.bytes (0 + i) = x.id i := by
  rw [Nat.zero_add]
  unfold DV.bytes
  rw [cat_low (by omega), cat_low (by omega), cat_low (by omega), cat_low (by omega)]
theorem DV.by_ep (x : DV) (i : Nat) (h : i < 8) : x.bytes (16 + i) = nbF x.ep 8 i := by
  unfold DV.bytes
  rw [cat_low (by omega), cat_low (by omega), cat_low (by omega), cat_hi (by omega), Nat.add_sub_cancel_left]
theorem DV.by_sd (x : DV) (i : Nat) (h : i < 2) : x.bytes (24 + i) = x.sd i := by
  unfold DV.bytes
  rw [cat_low (by omega), cat_low (by omega), cat_hi (by omega), Nat.add_sub_cancel_left]
theorem DV.by_kid (x : DV) (i : Nat) (h : i < 8) : x.bytes (26 + i) = nbF x.kid 8 i := by
  unfold DV.bytes
  rw [cat_low (by omega), cat_hi (by omega), Nat.add_sub_cancel_left]
theorem DV.by_key (x : DV) (i : Nat) : x.bytes (34 + i) = x.key i := by
  unfold DV.bytes
  rw [cat_hi (by omega), Nat.add_sub_cancel_left]
theorem dist_put (x : DV) (hx : x.Ok) (hm : devMay x.sd = true) (F : Nat → Nat) (hF : ∀ i, i < 66 → F i = x.bytes i) : distOk 66 F = true ∧ rowOf 52 (distOf 66 F).v = rowOf 52 x.v := by
  have hd : ∀ j, j < 2 → (distV 66 F).sd j = x.sd j := fun j hj => by
    rw [dist_W66]
    show F (24 + j) = _
    rw [hF _ (by omega), x.by_sd j hj]
  have hk : distOk 66 F = true := by
    unfold distOk
    rw [dist_S66, devMay_ext hd, hm]
    rfl
  refine ⟨hk, ?_⟩
  unfold distOf
  rw [if_pos hk]
  have n1 : (distV 66 F).ep = x.ep := by
    rw [dist_W66]
    exact num_of F 16 x.ep 8 (by have := hx.ep; omega) (fun i hi => by rw [hF _ (by omega), x.by_ep i hi])
  have n2 : (distV 66 F).kid = x.kid := by
    rw [dist_W66]
    exact num_of F 26 x.kid 8 (by have := hx.kid; omega) (fun i hi => by rw [hF _ (by omega), x.by_kid i hi])
  refine rowOf_congr fun i hi => ?_
  unfold DV.v
  rw [n1, n2]
  by_cases h1 : i < 16
  · rw [if_pos h1, if_pos h1, dist_W66]
    refine congrArg (fun q : Nat => Value.int .u8 (q : Int)) ?_
    show F (0 + i) = _
    rw [hF _ (by omega), x.by_id i h1]
  · rw [if_neg h1, if_neg h1]
    by_cases h2 : i < 17
    · rw [if_pos h2, if_pos h2]
    · rw [if_neg h2, if_neg h2]
      by_cases h3 : i < 19
      · rw [if_pos h3, if_pos h3, hd _ (by omega)]
      · rw [if_neg h3, if_neg h3]
        by_cases h4 : i < 20
        · rw [if_pos h4, if_pos h4]
        · rw [if_neg h4, if_neg h4, dist_W66]
          refine congrArg (fun q : Nat => Value.int .u8 (q : Int)) ?_
          show F (34 + (i - 20)) = _
          rw [hF _ (by omega), x.by_key]
theorem dist_taken (L : Nat) (F : Nat → Nat) (hF : ∀ i, F i < 256) (h : distOk L F = true) : L = 66 ∧ (distOf L F).Ok ∧ devMay (distOf L F).sd = true ∧ ∀ i, i < 66 → (distOf L F).bytes i = F i := by
  obtain rfl := dist_len L F h
  have e : distOf 66 F = distV 66 F := if_pos h
  have hm : devMay (distV 66 F).sd = true := by
    unfold distOk at h
    rw [Bool.and_eq_true] at h
    exact h.2
  rw [e]
  refine ⟨rfl, ?_, hm, fun i hi => ?_⟩
  · rw [dist_W66]
    have h8 : ∀ p, ofB8 (fun i => F (p + i)) 8 < 18446744073709551616 := fun p => ofB8_lt (fun i => F (p + i)) (fun i => hF _) 8
    exact ⟨fun i => hF _, h8 _, fun i => hF _, h8 _, fun i => hF _⟩
  · rw [dist_W66]
    unfold DV.bytes
    by_cases h1 : i < 34
    · rw [cat_low h1]
      by_cases h2 : i < 26
      · rw [cat_low h2]
        by_cases h3 : i < 24
        · rw [cat_low h3]
          by_cases h4 : i < 16
          · rw [cat_low h4]; show F (0 + i) = F i; rw [Nat.zero_add]
          · rw [cat_hi (by omega), nbF_ofB8 (fun i => F (16 + i)) (fun i => hF _) 8 _ (by omega)]
            show F (16 + (i - 16)) = F i
            rw [show 16 + (i - 16) = i by omega]
        · rw [cat_hi (by omega)]
          show F (24 + (i - 24)) = F i
          rw [show 24 + (i - 24) = i by omega]
      · rw [cat_hi (by omega), nbF_ofB8 (fun i => F (26 + i)) (fun i => hF _) 8 _ (by omega)]
        show F (26 + (i - 26)) = F i
        rw [show 26 + (i - 26) = i by omega]
    · rw [cat_hi (by omega)]
      show F (34 + (i - 34)) = F i
      rw [show 34 + (i - 34) = i by omega]
-- a header: 40 bytes
theorem hdr_len (L : Nat) (h : hdrOk L = true) : L = 40 := by
  unfold hdrOk at h
  have k3 := ISt.all_ok2 L _ h
  have k2 := (ISt.take_good L _ 4 k3).1
  have k1 := (ISt.take_good L _ 4 k2).1
  have e1 := ISt.take_val L _ 32 0 k1 rfl
  have e2 := ISt.take_val L _ 4 _ k2 e1
  have e3 := ISt.take_val L _ 4 _ k3 e2
  have e6 := ISt.all_good L _ h
  rw [show (ISt.good 0).hdrS L = .good 40 from e3] at e6
  cases e6
  rfl
theorem hdr_ok40 : hdrOk 40 = true := rfl
theorem hdr_V40 (F : Nat → Nat) : hdrOf 40 F = ⟨fun i => F (0 + i), ofB8 (fun i => F (32 + i)) 4, ofB8 (fun i => F (36 + i)) 4⟩ := by
  have h : hdrOf 40 F = ⟨(ISt.good 0).cF 40 F 32, (ISt.good 32).num 40 F 4, (ISt.good 36).num 40 F 4⟩ := rfl
  rw [h, ISt.good_num 40 F 32 4 (by decide), ISt.good_num 40 F 36 4 (by decide)]
  rfl
theorem hdr_put (x : HV) (hx : x.Ok) (F : Nat → Nat) (hF : ∀ i, i < 40 → F i = x.bytes i) : rowOf 34 (hdrOf 40 F).v = rowOf 34 x.v := by
  have n1 : (hdrOf 40 F).prev = x.prev := by
    rw [hdr_V40]
    exact num_of F 32 x.prev 4 (by have := hx.prev; omega) (fun i hi => by
      rw [hF _ (by omega)]; unfold HV.bytes; rw [cat_low (by omega), cat_hi (by omega), Nat.add_sub_cancel_left])
  have n2 : (hdrOf 40 F).n = x.n := by
    rw [hdr_V40]
    exact num_of F 36 x.n 4 (by have := hx.n; omega) (fun i hi => by
      rw [hF _ (by omega)]; unfold HV.bytes; rw [cat_hi (by omega), Nat.add_sub_cancel_left])
  refine rowOf_congr fun i hi => ?_
  unfold HV.v
  rw [n1, n2]
  by_cases h1 : i < 32
  · rw [if_pos h1, if_pos h1, hdr_V40]
    refine congrArg (fun q : Nat => Value.int .u8 (q : Int)) ?_
    show F (0 + i) = _
    rw [Nat.zero_add, hF _ (by omega)]; unfold HV.bytes; rw [cat_low (by omega), cat_low h1]
  · rw [if_neg h1, if_neg h1]
theorem hdr_taken (L : Nat) (F : Nat → Nat) (hF : ∀ i, F i < 256) (h : hdrOk L = true) : L = 40 ∧ (hdrOf L F).Ok ∧ ∀ i, i < 40 → (hdrOf L F).bytes i = F i := by
  obtain rfl := hdr_len L h
  refine ⟨rfl, ?_, fun i hi => ?_⟩
  · rw [hdr_V40]
    have h4 : ∀ p, ofB8 (fun i => F (p + i)) 4 < 4294967296 := fun p => ofB8_lt (fun i => F (p + i)) (fun i => hF _) 4
    exact ⟨fun i => hF _, h4 _, h4 _⟩
  · rw [hdr_V40]
    unfold HV.bytes
    by_cases h1 : i < 36
    · rw [cat_low h1]
      by_cases h2 : i < 32
      · rw [cat_low h2]; show F (0 + i) = F i; rw [Nat.zero_add]
      · rw [cat_hi (by omega), nbF_ofB8 (fun i => F (32 + i)) (fun i => hF _) 4 _ (by omega)]
        show F (32 + (i - 32)) = F i
        rw [show 32 + (i - 32) = i by omega]
    · rw [cat_hi (by omega), nbF_ofB8 (fun i => F (36 + i)) (fun i => hF _) 4 _ (by omega)]
      show F (36 + (i - 36)) = F i
      rw [show 36 + (i - 36) = i by omega]
end Go.Proofs.Ytmbefbmpjkbnmaa
namespace Go.Proofs.Ytmbefbmpjkbnmaa
open Go.RowKit

set_option maxRecDepth 100000

theorem ISt.good_take (L p n : Nat) (h : n ≤ L - p) : ISt.take L (.good p) (n : Int) = .good (p + n) := if_pos ⟨by omega, by omega⟩
theorem pkt_S4 (L : Nat) (h : 24 ≤ L) : (((((ISt.good 0).take L 2).take L 2).take L ((16 : Nat) : Int)).take L ((4 : Nat) : Int)) = .good 24 := by
  rw [show (ISt.good 0).take L 2 = .good 2 from ISt.good_take L 0 2 (by omega), show (ISt.good 2).take L 2 = .good 4 from ISt.good_take L 2 2 (by omega), ISt.good_take L 4 16 (by omega), ISt.good_take L 20 4 (by omega)]
theorem pkt_W (L : Nat) (F : Nat → Nat) (a : Option Addr) (c : Nat) (h : 24 ≤ L) : pkt2 L F a c = ⟨fun i => F (0 + i), fun i => F (2 + i), fun i => F (4 + i), a, ofB8 (fun i => F (20 + i)) 4, c⟩ := by
  unfold pkt2
  rw [show (ISt.good 0).take L 2 = .good 2 from ISt.good_take L 0 2 (by omega), show (ISt.good 2).take L 2 = .good 4 from ISt.good_take L 2 2 (by omega), ISt.good_take L 4 16 (by omega), ISt.good_num L F 20 4 (by omega),
    funext (ISt.good_cF L F 0 2 (by omega)), funext (ISt.good_cF L F 2 2 (by omega)), funext (ISt.good_cF L F 4 16 (by omega))]
theorem pkt_N (L : Nat) (F : Nat → Nat) (h : 24 ≤ L) : ((((ISt.good 0).take L 2).take L 2).take L ((16 : Nat) : Int)).num L F 4 = ofB8 (fun i => F (20 + i)) 4 := by
  rw [show (ISt.good 0).take L 2 = .good 2 from ISt.good_take L 0 2 (by omega), show (ISt.good 2).take L 2 = .good 4 from ISt.good_take L 2 2 (by omega), ISt.good_take L 4 16 (by omega), ISt.good_num L F 20 4 (by omega)]
theorem pkt_len (L : Nat) (F : Nat → Nat) (h : pOk2 L F = true) : 24 ≤ L ∧ ofB8 (fun i => F (20 + i)) 4 = L - 24 ∧ pktMay (pkt2 L F none 0) = true := by
  have h24 : 24 ≤ L := by
    obtain ⟨h1, _⟩ := pOk_at L F h
    rw [pktB_eq] at h1
    have k4 : (((((ISt.good 0).take L 2).take L 2).take L ((16 : Nat) : Int)).take L ((4 : Nat) : Int)).ok2 = true := by rw [h1]; rfl
    have k3 := (ISt.take_good L _ 4 k4).1
    have k2 := (ISt.take_good L _ 16 k3).1
    have k1 := (ISt.take_good L _ 2 k2).1
    have e1 := ISt.take_val L _ 2 0 k1 rfl
    have e2 := ISt.take_val L _ 2 _ k2 e1
    have e3 := ISt.take_val L _ 16 _ k3 e2
    have e4 := ISt.take_val L _ 4 _ k4 e3
    have hp := pkt_in L 24 (by rw [pktB_eq]; exact e4)
    exact hp
  unfold pOk2 at h
  rw [pkt_S4 L h24, pkt_N L F h24] at h
  have h : (decide (ofB8 (fun i => F (20 + i)) 4 = L - 24) && _) = true := h
  rw [Bool.and_eq_true, decide_eq_true_eq] at h
  exact ⟨h24, h.1, h.2⟩
theorem PV.by_fr (x : PV) (fb : Nat → Nat) (i : Nat) (h : i < 2) : x.bytes fb (0 + i) = x.fr i := by
  rw [Nat.zero_add]
  unfold PV.bytes
  rw [cat_low (by omega), cat_low (by omega), cat_low (by omega), cat_low (by omega)]
theorem PV.by_tw (x : PV) (fb : Nat → Nat) (i : Nat) (h : i < 2) : x.bytes fb (2 + i) = x.tw i := by
  unfold PV.bytes
  rw [cat_low (by omega), cat_low (by omega), cat_low (by omega), cat_hi (by omega), Nat.add_sub_cancel_left]
theorem PV.by_id (x : PV) (fb : Nat → Nat) (i : Nat) (h : i < 16) : x.bytes fb (4 + i) = x.id i := by
  unfold PV.bytes
  rw [cat_low (by omega), cat_low (by omega), cat_hi (by omega), Nat.add_sub_cancel_left]
theorem PV.by_nb (x : PV) (fb : Nat → Nat) (i : Nat) (h : i < 4) : x.bytes fb (20 + i) = nbF x.nb 4 i := by
  unfold PV.bytes
  rw [cat_low (by omega), cat_hi (by omega), Nat.add_sub_cancel_left]
theorem PV.by_b (x : PV) (fb : Nat → Nat) (i : Nat) : x.bytes fb (24 + i) = fb i := by
  unfold PV.bytes
  rw [cat_hi (by omega), Nat.add_sub_cancel_left]
theorem pkt_put (x : PV) (fb : Nat → Nat) (hm : pktMay x = true) (F : Nat → Nat) (hF : ∀ i, i < x.len → F i = x.bytes fb i) (a : Option Addr) (c : Nat) :
    pOk2 x.len F = true ∧ rowOf 21 (pkt2 x.len F a c).v = rowOf 21 (PV.mk x.fr x.tw x.id a x.nb c).v ∧ (pkt2 x.len F a c).nb = x.nb ∧ ∀ i, i < x.nb → F (24 + i) = fb i := by
  have hl : x.len = 24 + x.nb := rfl
  have h24 : 24 ≤ x.len := by omega
  have hm2 := hm
  unfold pktMay at hm2
  rw [Bool.and_eq_true, decide_eq_true_eq] at hm2
  have hn : ofB8 (fun i => F (20 + i)) 4 = x.nb := num_of F 20 x.nb 4 (by have := hm2.2; omega) (fun i hi => by rw [hF _ (by omega), x.by_nb fb i hi])
  have hf : ∀ j, j < 2 → F (0 + j) = x.fr j := fun j hj => by rw [hF _ (by omega), x.by_fr fb j hj]
  have ht : ∀ j, j < 2 → F (2 + j) = x.tw j := fun j hj => by rw [hF _ (by omega), x.by_tw fb j hj]
  refine ⟨?_, ?_, ?_, fun i hi => ?_⟩
  · unfold pOk2
    rw [pkt_S4 _ h24, pkt_N _ F h24]
    show (decide (ofB8 (fun i => F (20 + i)) 4 = x.len - 24) && _) = true
    rw [hn, decide_eq_true (by omega), Bool.true_and, pkt_W _ F none 0 h24]
    unfold pktMay
    rw [Bool.and_eq_true, decide_eq_true_eq]
    refine ⟨?_, ?_⟩
    · rw [← hm2.1]; exact goMay_ext hf ht
    · show ofB8 (fun i => F (20 + i)) 4 ≤ 70000
      rw [hn]; exact hm2.2
  · rw [pkt_W _ F a c h24, hn]
    refine rowOf_congr fun i hi => ?_
    unfold PV.v
    by_cases h1 : i < 2
    · rw [if_pos h1, if_pos h1]
      refine congrArg (fun q : Nat => Value.int .u8 (q : Int)) ?_
      exact hf i h1
    · rw [if_neg h1, if_neg h1]
      by_cases h2 : i < 4
      · rw [if_pos h2, if_pos h2]
        refine congrArg (fun q : Nat => Value.int .u8 (q : Int)) ?_
        exact ht _ (by omega)
      · rw [if_neg h2, if_neg h2]
        by_cases h3 : i < 20
        · rw [if_pos h3, if_pos h3]
          refine congrArg (fun q : Nat => Value.int .u8 (q : Int)) ?_
          show F (4 + (i - 4)) = _
          rw [hF _ (by omega), x.by_id fb _ (by omega)]
        · rw [if_neg h3, if_neg h3]
  · rw [pkt_W _ F a c h24]; exact hn
  · rw [hF _ (by omega), x.by_b]
theorem pkt_taken (L : Nat) (F : Nat → Nat) (hF : ∀ i, F i < 256) (h : pOk2 L F = true) (a : Option Addr) (c : Nat) :
    (pkt2 L F a c).Ok ∧ pktMay (pkt2 L F a c) = true ∧ (pkt2 L F a c).len = L ∧ ∀ i, i < L → (pkt2 L F a c).bytes (fun j => F (24 + j)) i = F i := by
  obtain ⟨h24, hn, hm⟩ := pkt_len L F h
  refine ⟨?_, hm, ?_, fun i hi => ?_⟩
  · rw [pkt_W L F a c h24]
    exact ⟨fun i => hF _, fun i => hF _, fun i => hF _⟩
  · rw [pkt_W L F a c h24]
    show 24 + ofB8 (fun i => F (20 + i)) 4 = L
    omega
  · rw [pkt_W L F a c h24]
    unfold PV.bytes
    by_cases h1 : i < 24
    · rw [cat_low h1]
      by_cases h2 : i < 20
      · rw [cat_low h2]
        by_cases h3 : i < 4
        · rw [cat_low h3]
          by_cases h4 : i < 2
          · rw [cat_low h4]; show F (0 + i) = F i; rw [Nat.zero_add]
          · rw [cat_hi (by omega)]
            show F (2 + (i - 2)) = F i
            rw [show 2 + (i - 2) = i by omega]
        · rw [cat_hi (by omega)]
          show F (4 + (i - 4)) = F i
          rw [show 4 + (i - 4) = i by omega]
      · rw [cat_hi (by omega), nbF_ofB8 (fun i => F (20 + i)) (fun i => hF _) 4 _ (by omega)]
        show F (20 + (i - 20)) = F i
        rw [show 20 + (i - 20) = i by omega]
    · rw [cat_hi (by omega)]
      show F (24 + (i - 24)) = F i
      rw [show 24 + (i - 24) = i by omega]
end Go.Proofs.Ytmbefbmpjkbnmaa
namespace Go.Proofs.Ytmbefbmpjkbnmaa
open Go.RowKit

set_option maxRecDepth 100000

theorem devsB_in (fm : Nat → Nat → Nat) : ∀ n q j, q < n → j < 2 → devsB fm n (2 * q + j) = fm q j
  | 0, _, _, h, _ => absurd h (by omega)
  | n + 1, q, j, hq, hj => by
    show cat (2 * n) (devsB fm n) (fm n) (2 * q + j) = _
    by_cases e : q < n
    · rw [cat_low (by omega)]
      exact devsB_in fm n q j e hj
    · obtain rfl : q = n := by omega
      rw [cat_hi (by omega), Nat.add_sub_cancel_left]
theorem dv2_at (L : Nat) : ∀ i, 26 + 2 * i ≤ L → (ISt.good 26).dv2 L i = .good (26 + 2 * i)
  | 0, _ => rfl
  | i + 1, h => by
    show ((ISt.good 26).dv2 L i).take L 2 = _
    rw [dv2_at L i (by omega)]
    exact ISt.good_take L (26 + 2 * i) 2 (by omega)
theorem ros_S (L : Nat) (h : 26 ≤ L) : ((((ISt.good 0).take L ((16 : Nat) : Int)).take L ((8 : Nat) : Int)).take L ((2 : Nat) : Int)) = .good 26 := by
  rw [ISt.good_take L 0 16 (by omega), ISt.good_take L 16 8 (by omega), ISt.good_take L 24 2 (by omega)]
theorem ros_W (L : Nat) (F : Nat → Nat) (a : Option Addr) (c : Nat) (h : 26 ≤ L) : ros2 L F a c = ⟨fun i => F (0 + i), ofB8 (fun i => F (16 + i)) 8, a, ofB8 (fun i => F (24 + i)) 2, c⟩ := by
  unfold ros2
  rw [ISt.good_take L 0 16 (by omega), ISt.good_take L (0 + 16) 8 (by omega), ISt.good_num L F (0 + 16) 8 (by omega), ISt.good_num L F (0 + 16 + 8) 2 (by omega), funext (ISt.good_cF L F 0 16 (by omega))]
theorem ros_N (L : Nat) (F : Nat → Nat) (h : 26 ≤ L) : (((ISt.good 0).take L ((16 : Nat) : Int)).take L ((8 : Nat) : Int)).num L F 2 = ofB8 (fun i => F (24 + i)) 2 := by
  rw [ISt.good_take L 0 16 (by omega), ISt.good_take L (0 + 16) 8 (by omega), ISt.good_num L F (0 + 16 + 8) 2 (by omega)]
theorem rOk2_at (L : Nat) (F : Nat → Nat) (h : 26 ≤ L) : rOk2 L F = (decide (ofB8 (fun i => F (24 + i)) 2 ≤ 32) && ((ISt.good 26).dv2 L (ofB8 (fun i => F (24 + i)) 2)).all L && memMay (ofB8 (fun i => F (24 + i)) 2) (fun q => ((ISt.good 26).dv2 L q).cF L F 2)) := by
  unfold rOk2
  rw [ros_S L h, ros_N L F h]
theorem ros_len (L : Nat) (F : Nat → Nat) (h : rOk2 L F = true) : L = 26 + 2 * ofB8 (fun i => F (24 + i)) 2 ∧ ofB8 (fun i => F (24 + i)) 2 ≤ 32 ∧ memMay (ofB8 (fun i => F (24 + i)) 2) (fun q => ((ISt.good 26).dv2 L q).cF L F 2) = true := by
  have h26 : 26 ≤ L := by
    have h' := h
    unfold rOk2 at h'
    rw [Bool.and_eq_true, Bool.and_eq_true] at h'
    have hg : (((((ISt.good 0).take L ((16 : Nat) : Int)).take L ((8 : Nat) : Int)).take L ((2 : Nat) : Int)).dv2 L ((((ISt.good 0).take L ((16 : Nat) : Int)).take L ((8 : Nat) : Int)).num L F 2)).isGood = true := by rw [ISt.all_good L _ h'.1.2]; rfl
    have k3 : ((((ISt.good 0).take L ((16 : Nat) : Int)).take L ((8 : Nat) : Int)).take L ((2 : Nat) : Int)).ok2 = true := dv2_good L _ _ hg 0 (Nat.zero_le _)
    have k2 := (ISt.take_good L _ 2 k3).1
    have k1 := (ISt.take_good L _ 8 k2).1
    have e1 := ISt.take_val L _ 16 0 k1 rfl
    have e2 := ISt.take_val L _ 8 _ k2 e1
    have e3 := ISt.take_val L _ 2 _ k3 e2
    exact ISt.inL_take L _ _ (ISt.inL_take L _ _ (ISt.inL_take L _ _ (ISt.inL_zero L))) 26 e3
  rw [rOk2_at L F h26, Bool.and_eq_true, Bool.and_eq_true, decide_eq_true_eq] at h
  refine ⟨?_, h.1.1, h.2⟩
  have hd := h.1.2
  generalize ofB8 (fun i => F (24 + i)) 2 = n at *
  by_cases e : 26 + 2 * n ≤ L
  · rw [dv2_at L n e] at hd
    exact (of_decide_eq_true hd).symm
  · exfalso
    have hg : ((ISt.good 26).dv2 L n).isGood = true := by rw [ISt.all_good L _ hd]; rfl
    have k : ∀ i, i ≤ n → 26 + 2 * i ≤ L := fun i => by
      induction i with
      | zero => intro _; exact h26
      | succ i ih =>
        intro hi
        have h1 := ih (by omega)
        have h2 := (ISt.take_good L _ 2 (dv2_good L _ n hg (i + 1) hi)).2
        rw [dv2_at L i h1] at h2
        have h3 : 2 ≤ L - (26 + 2 * i) := of_decide_eq_true h2
        omega
    exact e (k n (Nat.le_refl _))
theorem ros_dev (L : Nat) (F : Nat → Nat) (q j : Nat) (h : 26 + 2 * (q + 1) ≤ L) : ((ISt.good 26).dv2 L q).cF L F 2 j = F (26 + 2 * q + j) := by
  rw [dv2_at L q (by omega)]
  exact ISt.good_cF L F _ 2 (by omega) j
theorem RV.by_id (x : RV) (fm : Nat → Nat → Nat) (i : Nat) (h : i < 16) : x.bytes fm (0 + i) = x.id i := by
  rw [Nat.zero_add]
  unfold RV.bytes
  rw [cat_low (by omega), cat_low (by omega), cat_low (by omega)]
theorem RV.by_ep (x : RV) (fm : Nat → Nat → Nat) (i : Nat) (h : i < 8) : x.bytes fm (16 + i) = nbF x.ep 8 i := by
  unfold RV.bytes
  rw [cat_low (by omega), cat_low (by omega), cat_hi (by omega), Nat.add_sub_cancel_left]
theorem RV.by_nm (x : RV) (fm : Nat → Nat → Nat) (i : Nat) (h : i < 2) : x.bytes fm (24 + i) = nbF x.nm 2 i := by
  unfold RV.bytes
  rw [cat_low (by omega), cat_hi (by omega), Nat.add_sub_cancel_left]
theorem RV.by_m (x : RV) (fm : Nat → Nat → Nat) (q j : Nat) (hq : q < x.nm) (hj : j < 2) : x.bytes fm (26 + 2 * q + j) = fm q j := by
  unfold RV.bytes
  rw [cat_hi (by omega), show 26 + 2 * q + j - 26 = 2 * q + j by omega, devsB_in fm x.nm q j hq hj]
theorem ros_put (x : RV) (fm : Nat → Nat → Nat) (he : x.ep < 18446744073709551616) (hm : memMay x.nm fm = true) (F : Nat → Nat) (hF : ∀ i, i < x.len → F i = x.bytes fm i) (a : Option Addr) (c : Nat) :
    rOk2 x.len F = true ∧ rowOf 18 (ros2 x.len F a c).v = rowOf 18 (RV.mk x.id x.ep a x.nm c).v ∧ (ros2 x.len F a c).nm = x.nm ∧ ∀ q, q < x.nm → ∀ j, j < 2 → ((ISt.good 26).dv2 x.len q).cF x.len F 2 j = fm q j := by
  have hl : x.len = 26 + 2 * x.nm := rfl
  have h26 : 26 ≤ x.len := by omega
  have hn32 : x.nm ≤ 32 := by
    unfold memMay at hm
    rw [Bool.and_eq_true, decide_eq_true_eq] at hm
    exact hm.1
  have hn : ofB8 (fun i => F (24 + i)) 2 = x.nm := num_of F 24 x.nm 2 (by omega) (fun i hi => by rw [hF _ (by omega), x.by_nm fm i hi])
  have h8 : ofB8 (fun i => F (16 + i)) 8 = x.ep := num_of F 16 x.ep 8 (by omega) (fun i hi => by rw [hF _ (by omega), x.by_ep fm i hi])
  have hd : ∀ q, q < x.nm → ∀ j, j < 2 → ((ISt.good 26).dv2 x.len q).cF x.len F 2 j = fm q j := fun q hq j hj => by
    rw [ros_dev x.len F q j (by omega), hF _ (by omega), x.by_m fm q j hq hj]
  refine ⟨?_, ?_, ?_, hd⟩
  · rw [rOk2_at _ F h26, hn, decide_eq_true hn32, dv2_at _ _ (by omega), memMay_ext hd, hm]
    show (true && decide (26 + 2 * x.nm = x.len) && true) = true
    rw [decide_eq_true hl.symm]
    rfl
  · rw [ros_W _ F a c h26, hn, h8]
    refine rowOf_congr fun i hi => ?_
    unfold RV.v
    by_cases h1 : i < 16
    · rw [if_pos h1, if_pos h1]
      refine congrArg (fun q : Nat => Value.int .u8 (q : Int)) ?_
      show F (0 + i) = _
      rw [hF _ (by omega), x.by_id fm i h1]
    · rw [if_neg h1, if_neg h1]
  · rw [ros_W _ F a c h26]; exact hn
theorem ros_taken (L : Nat) (F : Nat → Nat) (hF : ∀ i, F i < 256) (h : rOk2 L F = true) (a : Option Addr) (c : Nat) :
    (∀ i, (ros2 L F a c).id i < 256) ∧ (ros2 L F a c).ep < 18446744073709551616 ∧ memMay (ros2 L F a c).nm (fun q => ((ISt.good 26).dv2 L q).cF L F 2) = true ∧ (ros2 L F a c).len = L ∧ ∀ i, i < L → (ros2 L F a c).bytes (fun q => ((ISt.good 26).dv2 L q).cF L F 2) i = F i := by
  obtain ⟨hl, h32, hm⟩ := ros_len L F h
  have h26 : 26 ≤ L := by omega
  rw [ros_W L F a c h26]
  refine ⟨fun i => hF _, ofB8_lt (fun i => F (16 + i)) (fun i => hF _) 8, hm, hl.symm, fun i hi => ?_⟩
  unfold RV.bytes
  by_cases h1 : i < 26
  · rw [cat_low h1]
    by_cases h2 : i < 24
    · rw [cat_low h2]
      by_cases h3 : i < 16
      · rw [cat_low h3]; show F (0 + i) = F i; rw [Nat.zero_add]
      · rw [cat_hi (by omega), nbF_ofB8 (fun i => F (16 + i)) (fun i => hF _) 8 _ (by omega)]
        show F (16 + (i - 16)) = F i
        rw [show 16 + (i - 16) = i by omega]
    · rw [cat_hi (by omega), nbF_ofB8 (fun i => F (24 + i)) (fun i => hF _) 2 _ (by omega)]
      show F (24 + (i - 24)) = F i
      rw [show 24 + (i - 24) = i by omega]
  · rw [cat_hi (by omega)]
    obtain ⟨q, j, hj, hq⟩ : ∃ q j, j < 2 ∧ i - 26 = 2 * q + j := ⟨(i - 26) / 2, (i - 26) % 2, Nat.mod_lt _ (by decide), by omega⟩
    show devsB _ (ofB8 (fun i => F (24 + i)) 2) (i - 26) = F i
    rw [hq, devsB_in _ _ q j (by omega) hj]
    rw [ros_dev L F q j (by omega), show 26 + 2 * q + j = i by omega]
end Go.Proofs.Ytmbefbmpjkbnmaa
namespace Go.Proofs.Ytmbefbmpjkbnmaa
open Go.RowKit

set_option maxRecDepth 100000

theorem flag_num (L : Nat) (F : Nat → Nat) (p : Nat) (h : 1 ≤ L - p) : (ISt.good p).num L F 1 = F p := by
  rw [ISt.good_num L F p 1 h]
  simp [ofB8]
theorem flag_st (L : Nat) (F : Nat → Nat) (p : Nat) (h : 1 ≤ L - p) (hb : F p ≤ 1) : (ISt.good p).flagS L F = .good (p + 1) := by
  unfold ISt.flagS
  rw [flag_num L F p h, if_neg (by omega)]
  exact ISt.good_take L p 1 h
/-- Where the header begins. -/
def hdAt (F : Nat → Nat) : Nat := if F 4 = 1 then (if F 69 = 1 then 74 else 70) else 5
/-- The setup, as it stands. -/
def setAt (F : Nat → Nat) : SetV := if F 4 = 1 then ⟨fun i => F (5 + i), fun i => F (37 + i), decide (F 69 = 1), if F 69 = 1 then ofB8 (fun i => F (70 + i)) 4 else 0⟩ else SetV.zero
theorem set_at (L : Nat) (F : Nat → Nat) (h : hdAt F ≤ L) (h1 : F 4 ≤ 1) (h2 : F 4 = 1 → F 69 ≤ 1) : (ISt.good 4).setS L F = .good (hdAt F) ∧ (ISt.good 4).setV L F = setAt F := by
  unfold hdAt at h
  unfold ISt.setS ISt.setV hdAt setAt
  by_cases e : F 4 = 1
  · rw [if_pos e] at h
    have hL : 70 ≤ L := by split at h <;> omega
    rw [flag_num L F 4 (by omega), if_pos (decide_eq_true e), if_pos (decide_eq_true e), if_pos e, if_pos e, flag_st L F 4 (by omega) h1]
    unfold ISt.setS1 ISt.setV1
    rw [show (ISt.good (4 + 1)).take L 32 = .good 37 from ISt.good_take L 5 32 (by omega), show (ISt.good 37).take L 32 = .good 69 from ISt.good_take L 37 32 (by omega), flag_num L F 69 (by omega), flag_st L F 69 (by omega) (h2 e),
      funext (ISt.good_cF L F (4 + 1) 32 (by omega)), funext (ISt.good_cF L F 37 32 (by omega))]
    by_cases e2 : F 69 = 1
    · rw [if_pos e2] at h
      rw [if_pos (decide_eq_true e2), if_pos e2, if_pos (decide_eq_true e2), if_pos e2, ISt.good_num L F (69 + 1) 4 (by omega)]
      exact ⟨ISt.good_take L 70 4 (by omega), rfl⟩
    · rw [if_neg (by rw [decide_eq_false e2]; decide), if_neg e2, if_neg (by rw [decide_eq_false e2]; decide), if_neg e2]
      exact ⟨rfl, rfl⟩
  · rw [if_neg e] at h
    rw [flag_num L F 4 (by omega), if_neg (show ¬ (decide (F 4 = 1) = true) by simp [e]), if_neg (show ¬ (decide (F 4 = 1) = true) by simp [e]), if_neg e, if_neg e, flag_st L F 4 (by omega) h1]
    exact ⟨rfl, rfl⟩
theorem env_S2 (L : Nat) (h : 4 ≤ L) : (((ISt.good 0).take L 2).take L 2) = .good 4 := by
  rw [show (ISt.good 0).take L 2 = .good 2 from ISt.good_take L 0 2 (by omega), show (ISt.good 2).take L 2 = .good 4 from ISt.good_take L 2 2 (by omega)]
/-- The envelope, as it stands. -/
def envAt (F : Nat → Nat) (a : Option Addr) (c : Nat) : EV := ⟨fun i => F (0 + i), fun i => F (2 + i), decide (F 4 = 1), setAt F, ⟨fun i => F (hdAt F + i), ofB8 (fun i => F (hdAt F + 32 + i)) 4, ofB8 (fun i => F (hdAt F + 36 + i)) 4⟩, a, ofB8 (fun i => F (hdAt F + 40 + i)) 2, c⟩
theorem hd_at (L : Nat) (F : Nat → Nat) (o : Nat) (h : o + 42 ≤ L) : (ISt.good o).hdrS L = .good (o + 40) ∧ (ISt.good o).hdr L F = ⟨fun i => F (o + i), ofB8 (fun i => F (o + 32 + i)) 4, ofB8 (fun i => F (o + 36 + i)) 4⟩ := by
  unfold ISt.hdrS ISt.hdr
  rw [show (ISt.good o).take L 32 = .good (o + 32) from ISt.good_take L o 32 (by omega), show (ISt.good (o + 32)).take L 4 = .good (o + 36) from ISt.good_take L (o + 32) 4 (by omega), funext (ISt.good_cF L F o 32 (by omega)), ISt.good_num L F (o + 32) 4 (by omega), ISt.good_num L F (o + 36) 4 (by omega)]
  exact ⟨ISt.good_take L (o + 36) 4 (by omega), rfl⟩
/-- What must stand so that there is an envelope. -/
structure EnvIs (L : Nat) (F : Nat → Nat) : Prop where
  le : hdAt F + 42 ≤ L
  has : F 4 ≤ 1
  once : F 4 = 1 → F 69 ≤ 1
theorem hdAt_ge (F : Nat → Nat) : 5 ≤ hdAt F := by
  unfold hdAt
  split
  · split <;> decide
  · decide
theorem env_W (L : Nat) (F : Nat → Nat) (a : Option Addr) (c : Nat) (h : EnvIs L F) : env2 L F a c = envAt F a c := by
  have h5 := hdAt_ge F
  have hle := h.le
  obtain ⟨s1, s2⟩ := set_at L F (by omega) h.has h.once
  obtain ⟨q1, q2⟩ := hd_at L F (hdAt F) h.le
  unfold env2 envAt
  rw [env_S2 L (by omega), s1, s2, q1, q2, show (ISt.good 0).take L 2 = .good 2 from ISt.good_take L 0 2 (by omega), flag_num L F 4 (by omega), ISt.good_num L F (hdAt F + 40) 2 (by omega), funext (ISt.good_cF L F 0 2 (by omega)), funext (ISt.good_cF L F 2 2 (by omega))]
theorem eOk2_at (L : Nat) (F : Nat → Nat) (h : EnvIs L F) : eOk2 L F = (decide (ofB8 (fun i => F (hdAt F + 40 + i)) 2 ≤ 4096) && decide (ofB8 (fun i => F (hdAt F + 40 + i)) 2 = L - (hdAt F + 42)) && envMay (envAt F none 0)) := by
  have h5 := hdAt_ge F
  have hle := h.le
  obtain ⟨s1, _⟩ := set_at L F (by omega) h.has h.once
  obtain ⟨q1, _⟩ := hd_at L F (hdAt F) h.le
  unfold eOk2
  rw [env_W L F none 0 h, env_S2 L (by omega), s1, q1, ISt.good_take L (hdAt F + 40) 2 (by omega), ISt.good_num L F (hdAt F + 40) 2 (by omega)]
theorem ISt.flag_ok (L : Nat) (F : Nat → Nat) (s : ISt) (h : (s.flagS L F).ok2 = true) : ∃ p, s = .good p ∧ 1 ≤ L - p ∧ F p ≤ 1 ∧ s.flagS L F = .good (p + 1) := by
  cases s with
  | nil => cases h
  | bad => cases h
  | good p =>
    by_cases e : 1 ≤ L - p
    · by_cases e2 : F p ≤ 1
      · exact ⟨p, rfl, e, e2, flag_st L F p e e2⟩
      · exfalso
        unfold ISt.flagS at h
        rw [flag_num L F p e, if_pos (by omega), show ISt.take L (.good p) 1 = .good (p + 1) from ISt.good_take L p 1 e] at h
        cases h
    · exfalso
      have hn : (ISt.good p).num L F 1 = 0 := by
        unfold ISt.num
        rw [show ISt.got L (.good p) ((1 : Nat) : Int) = 0 from if_neg (by omega)]
        rfl
      unfold ISt.flagS at h
      rw [hn, if_neg (by decide), show ISt.take L (.good p) 1 = .bad from if_neg (by omega)] at h
      cases h
theorem set_ok (L : Nat) (F : Nat → Nat) (h : ((ISt.good 4).setS L F).ok2 = true) : F 4 ≤ 1 ∧ (F 4 = 1 → F 69 ≤ 1) := by
  unfold ISt.setS at h
  by_cases e : decide ((ISt.good 4).num L F 1 = 1) = true
  · rw [if_pos e] at h
    unfold ISt.setS1 at h
    have h1 : (((((ISt.good 4).flagS L F).take L 32).take L 32).flagS L F).ok2 = true := by
      split at h
      · exact (ISt.take_good L _ 4 h).1
      · exact h
    obtain ⟨p, hp, _, hb, _⟩ := ISt.flag_ok L F _ h1
    have k2 : ((((ISt.good 4).flagS L F).take L 32).take L 32).ok2 = true := by rw [hp]; rfl
    have k1 := (ISt.take_good L _ 32 k2).1
    have k0 := (ISt.take_good L _ 32 k1).1
    obtain ⟨q, hq, _, hb0, hf⟩ := ISt.flag_ok L F _ k0
    cases hq
    have e1 := ISt.take_val L _ 32 _ k1 hf
    have e2 := ISt.take_val L _ 32 _ k2 e1
    have e3 : ISt.good p = .good (4 + 1 + 32 + 32) := hp.symm.trans e2
    cases e3
    exact ⟨hb0, fun _ => hb⟩
  · rw [if_neg e] at h
    obtain ⟨q, hq, hL, hb0, _⟩ := ISt.flag_ok L F _ h
    cases hq
    rw [flag_num L F 4 hL] at e
    exact ⟨hb0, fun k => absurd (decide_eq_true k) e⟩
theorem env_is (L : Nat) (F : Nat → Nat) (h : eOk2 L F = true) : EnvIs L F := by
  obtain ⟨_, _, k⟩ := eOk_at L F h
  rw [envH_eq] at k
  have k4 := (ISt.take_good L _ 2 k).1
  have k3 := (ISt.take_good L _ 4 k4).1
  have k2 := (ISt.take_good L _ 4 k3).1
  have k1 := (ISt.take_good L _ 32 k2).1
  have k0 := ISt.set_ok2 L F _ k1
  have j1 := (ISt.take_good L _ 2 k0).1
  have e1 := ISt.take_val L _ 2 0 j1 rfl
  have e2 := ISt.take_val L _ 2 _ k0 e1
  have hs2 : ((ISt.good 0).take L 2).take L 2 = .good 4 := e2
  rw [hs2] at k k1 k2 k3 k4
  obtain ⟨b1, b2⟩ := set_ok L F k1
  -- the header's beginning is within
  obtain ⟨p, hp⟩ : ∃ p, (ISt.good 4).setS L F = .good p := by
    cases e : (ISt.good 4).setS L F with
    | nil => rw [e] at k1; cases k1
    | bad => rw [e] at k1; cases k1
    | good p => exact ⟨p, rfl⟩
  have hin : ∀ s : ISt, s.inL L → ∀ q, s = .good q → q ≤ L := fun s h q e => h q e
  have i4 : (ISt.good 4).inL L := by rw [← hs2]; exact ISt.inL_take L _ 2 (ISt.inL_take L _ 2 (ISt.inL_zero L))
  have hpL := ISt.inL_set L F _ i4 p hp
  have hpv : p = hdAt F := by
    have h4 : 4 ≤ L := i4 4 rfl
    have hf := hp
    unfold ISt.setS at hf
    by_cases e : decide ((ISt.good 4).num L F 1 = 1) = true
    · rw [if_pos e] at hf
      unfold ISt.setS1 at hf
      have h1 : (((((ISt.good 4).flagS L F).take L 32).take L 32).flagS L F).ok2 = true := by
        split at hf
        · exact (ISt.take_good L _ 4 ((congrArg ISt.ok2 hf).trans rfl)).1
        · rw [hf]; rfl
      obtain ⟨p', hp', hL', hb, hfl⟩ := ISt.flag_ok L F _ h1
      have g2 : ((((ISt.good 4).flagS L F).take L 32).take L 32).ok2 = true := by rw [hp']; rfl
      have g1 := (ISt.take_good L _ 32 g2).1
      obtain ⟨q, hq, hLq, hb0, hf0⟩ := ISt.flag_ok L F _ (ISt.take_good L _ 32 g1).1
      cases hq
      have e3 : ISt.good p' = .good (4 + 1 + 32 + 32) := hp'.symm.trans (ISt.take_val L _ 32 _ g2 (ISt.take_val L _ 32 _ g1 hf0))
      cases e3
      rw [flag_num L F 4 hLq] at e
      have e := of_decide_eq_true e
      rw [hp', flag_num L F _ hL', flag_st L F _ hL' hb] at hf
      unfold hdAt
      rw [if_pos e]
      by_cases e2 : F 69 = 1
      · rw [if_pos (show decide (F (4 + 1 + 32 + 32) = 1) = true from decide_eq_true e2)] at hf
        have := ISt.take_val L (.good (4 + 1 + 32 + 32 + 1)) 4 70 ((congrArg ISt.ok2 hf).trans rfl) rfl
        rw [show ISt.take L (.good (4 + 1 + 32 + 32 + 1)) ((4 : Nat) : Int) = ISt.good p from hf] at this
        cases this
        rw [if_pos e2]
      · rw [if_neg (show ¬ (decide (F (4 + 1 + 32 + 32) = 1) = true) from fun h => e2 (of_decide_eq_true h))] at hf
        cases hf
        rw [if_neg e2]
    · rw [if_neg e] at hf
      obtain ⟨q, hq, hLq, hb0, hf0⟩ := ISt.flag_ok L F (.good 4) (by rw [hf]; rfl)
      cases hq
      rw [flag_num L F 4 hLq] at e
      rw [hf0] at hf
      cases hf
      unfold hdAt
      rw [if_neg (fun h => e (decide_eq_true h))]
  subst hpv
  rw [hp] at k k2 k3 k4
  have f1 := ISt.take_val L _ 32 _ k2 rfl
  have f2 := ISt.take_val L _ 4 _ k3 f1
  have f3 := ISt.take_val L _ 4 _ k4 f2
  have f4 := ISt.take_val L _ 2 _ k f3
  have i1 := ISt.inL_take L _ 2 (ISt.inL_take L _ 4 (ISt.inL_take L _ 4 (ISt.inL_take L _ 32 (show (ISt.good (hdAt F)).inL L from fun q e => by cases e; exact hpL)))) _ f4
  exact ⟨by omega, b1, b2⟩
theorem setAt_len (F : Nat → Nat) : 5 + (setAt F).sl (decide (F 4 = 1)) = hdAt F := by
  unfold setAt hdAt SetV.sl
  by_cases e : F 4 = 1
  · rw [if_pos e, if_pos e, if_pos (decide_eq_true e)]
    show 5 + (if decide (F 69 = 1) = true then 69 else 65) = _
    by_cases e2 : F 69 = 1
    · rw [if_pos (decide_eq_true e2), if_pos e2]
    · rw [if_neg (show ¬ (decide (F 69 = 1) = true) from fun h => e2 (of_decide_eq_true h)), if_neg e2]
  · rw [if_neg e, if_neg e, if_neg (show ¬ (decide (F 4 = 1) = true) from fun h => e (of_decide_eq_true h))]
theorem flag_is {b : Nat} (h : b ≤ 1) : flagB (decide (b = 1)) = b := by
  obtain rfl | rfl : b = 0 ∨ b = 1 := by omega
  · rfl
  · rfl
theorem set_bytes (F : Nat → Nat) (hF : ∀ i, F i < 256) (h2 : F 4 = 1 → F 69 ≤ 1) (i : Nat) (hi : 5 + i < hdAt F) : (setAt F).sf i = F (5 + i) := by
  by_cases e : F 4 = 1
  · have hs : setAt F = ⟨fun i => F (5 + i), fun i => F (37 + i), decide (F 69 = 1), if F 69 = 1 then ofB8 (fun i => F (70 + i)) 4 else 0⟩ := if_pos e
    have hh : hdAt F = if F 69 = 1 then 74 else 70 := if_pos e
    rw [hs]
    unfold SetV.sf
    by_cases h1 : i < 65
    · rw [cat_low h1]
      by_cases h3 : i < 64
      · rw [cat_low h3]
        by_cases h4 : i < 32
        · rw [cat_low h4]
        · rw [cat_hi (by omega)]
          show F (37 + (i - 32)) = F (5 + i)
          rw [show 37 + (i - 32) = 5 + i by omega]
      · rw [cat_hi (by omega)]
        obtain rfl : i = 64 := by omega
        exact flag_is (h2 e)
    · rw [cat_hi (by omega)]
      by_cases e2 : F 69 = 1
      · rw [if_pos e2] at hh
        show nbF (if F 69 = 1 then ofB8 (fun i => F (70 + i)) 4 else 0) 4 (i - 65) = _
        rw [if_pos e2, nbF_ofB8 (fun i => F (70 + i)) (fun i => hF _) 4 _ (by omega)]
        show F (70 + (i - 65)) = F (5 + i)
        rw [show 70 + (i - 65) = 5 + i by omega]
      · rw [if_neg e2] at hh
        omega
  · have hh : hdAt F = 5 := if_neg e
    omega
theorem env_taken (L : Nat) (F : Nat → Nat) (hF : ∀ i, F i < 256) (h : eOk2 L F = true) (a : Option Addr) (c : Nat) :
    (env2 L F a c).Ok ∧ envMay (env2 L F a c) = true ∧ (env2 L F a c).len = L ∧ ∀ i, i < L → (env2 L F a c).bytes (fun j => F (hdAt F + 42 + j)) i = F i := by
  have hE := env_is L F h
  rw [eOk2_at L F hE, Bool.and_eq_true, Bool.and_eq_true, decide_eq_true_eq, decide_eq_true_eq] at h
  have hl := setAt_len F
  have hle := hE.le
  have h5 := hdAt_ge F
  rw [env_W L F a c hE]
  refine ⟨⟨fun i => hF _, fun i => hF _, ?_, ⟨fun i => hF _, ?_, ?_⟩⟩, h.2, ?_, fun i hi => ?_⟩
  · show (setAt F).Ok
    unfold setAt
    split
    · refine ⟨fun i => hF _, fun i => hF _, ?_⟩
      show (if F 69 = 1 then ofB8 (fun i => F (70 + i)) 4 else 0) < 4294967296
      split
      · exact ofB8_lt (fun i => F (70 + i)) (fun i => hF _) 4
      · decide
    · exact ⟨fun i => by show 0 < 256; decide, fun i => by show 0 < 256; decide, by show 0 < 4294967296; decide⟩
  · exact ofB8_lt (fun i => F (hdAt F + 32 + i)) (fun i => hF _) 4
  · exact ofB8_lt (fun i => F (hdAt F + 36 + i)) (fun i => hF _) 4
  · show 5 + (setAt F).sl (decide (F 4 = 1)) + 40 + 2 + ofB8 (fun i => F (hdAt F + 40 + i)) 2 = L
    rw [hl]
    omega
  · unfold EV.bytes
    show cat (5 + (setAt F).sl (decide (F 4 = 1)) + 40 + 2) (cat (5 + (setAt F).sl (decide (F 4 = 1)) + 40) (cat (5 + (setAt F).sl (decide (F 4 = 1))) (cat 5 (cat 4 (cat 2 (fun i => F (0 + i)) (fun i => F (2 + i))) (fun _ => flagB (decide (F 4 = 1)))) (setAt F).sf) (HV.bytes ⟨fun i => F (hdAt F + i), ofB8 (fun i => F (hdAt F + 32 + i)) 4, ofB8 (fun i => F (hdAt F + 36 + i)) 4⟩)) (nbF (ofB8 (fun i => F (hdAt F + 40 + i)) 2) 2)) (fun j => F (hdAt F + 42 + j)) i = F i
    rw [hl]
    have sb := set_bytes F hF hE.once
    have hfl := flag_is hE.has
    generalize hdAt F = o at *
    by_cases h1 : i < o + 40 + 2
    · rw [cat_low h1]
      by_cases h2 : i < o + 40
      · rw [cat_low h2]
        by_cases h3 : i < o
        · rw [cat_low h3]
          by_cases h4 : i < 5
          · rw [cat_low h4]
            by_cases h6 : i < 4
            · rw [cat_low h6]
              by_cases h7 : i < 2
              · rw [cat_low h7]; show F (0 + i) = F i; rw [Nat.zero_add]
              · rw [cat_hi (by omega)]
                show F (2 + (i - 2)) = F i
                rw [show 2 + (i - 2) = i by omega]
            · rw [cat_hi (by omega)]
              obtain rfl : i = 4 := by omega
              exact hfl
          · rw [cat_hi (by omega), sb (i - 5) (by omega), show 5 + (i - 5) = i by omega]
        · rw [cat_hi (by omega)]
          unfold HV.bytes
          by_cases h4 : i - o < 36
          · rw [cat_low h4]
            by_cases h6 : i - o < 32
            · rw [cat_low h6]
              show F (o + (i - o)) = F i
              rw [show o + (i - o) = i by omega]
            · rw [cat_hi (by omega), nbF_ofB8 (fun i => F (o + 32 + i)) (fun i => hF _) 4 _ (by omega)]
              show F (o + 32 + (i - o - 32)) = F i
              rw [show o + 32 + (i - o - 32) = i by omega]
          · rw [cat_hi (by omega), nbF_ofB8 (fun i => F (o + 36 + i)) (fun i => hF _) 4 _ (by omega)]
            show F (o + 36 + (i - o - 36)) = F i
            rw [show o + 36 + (i - o - 36) = i by omega]
      · rw [cat_hi (by omega), nbF_ofB8 (fun i => F (o + 40 + i)) (fun i => hF _) 2 _ (by omega)]
        show F (o + 40 + (i - (o + 40))) = F i
        rw [show o + 40 + (i - (o + 40)) = i by omega]
    · rw [cat_hi (by omega)]
      show F (o + 42 + (i - (o + 40 + 2))) = F i
      rw [show o + 42 + (i - (o + 40 + 2)) = i by omega]
theorem EV.by_lo (x : EV) (fb : Nat → Nat) (i : Nat) (h : i < 5 + x.st.sl x.has) : x.bytes fb i = cat 5 (cat 4 (cat 2 x.fr x.tw) (fun _ => flagB x.has)) x.st.sf i := by
  unfold EV.bytes
  rw [cat_low (by omega), cat_low (by omega), cat_low h]
theorem EV.by_hd (x : EV) (fb : Nat → Nat) (o i : Nat) (ho : 5 + x.st.sl x.has = o) (h : i < 40) : x.bytes fb (o + i) = x.hd.bytes i := by
  unfold EV.bytes
  rw [ho, cat_low (by omega), cat_low (by omega), cat_hi (by omega), Nat.add_sub_cancel_left]
theorem EV.by_nb (x : EV) (fb : Nat → Nat) (o i : Nat) (ho : 5 + x.st.sl x.has = o) (h : i < 2) : x.bytes fb (o + 40 + i) = nbF x.nb 2 i := by
  unfold EV.bytes
  rw [ho, cat_low (by omega), cat_hi (by omega), Nat.add_sub_cancel_left]
theorem EV.by_b (x : EV) (fb : Nat → Nat) (o i : Nat) (ho : 5 + x.st.sl x.has = o) : x.bytes fb (o + 42 + i) = fb i := by
  unfold EV.bytes
  rw [ho, cat_hi (by omega), show o + 42 + i - (o + 40 + 2) = i by omega]
theorem flag_of (b : Bool) : decide (flagB b = 1) = b := by cases b <;> rfl
theorem flagB_le (b : Bool) : flagB b ≤ 1 := by cases b <;> decide
theorem flagB_one (b : Bool) : flagB b = 1 ↔ b = true := by cases b <;> decide
theorem sf_flag (x : SetV) : x.sf 64 = flagB x.once := by
  unfold SetV.sf
  rw [cat_low (by decide), cat_hi (by decide)]
theorem env_put (x : EV) (fb : Nat → Nat) (hx : x.Ok) (hm : envMay x = true) (F : Nat → Nat) (hF : ∀ i, i < x.len → F i = x.bytes fb i) (a : Option Addr) (c : Nat) :
    eOk2 x.len F = true ∧ rowOf 106 (env2 x.len F a c).v = rowOf 106 (EV.mk x.fr x.tw x.has x.st x.hd a x.nb c).v ∧ (env2 x.len F a c).nb = x.nb ∧ 5 + x.st.sl x.has = hdAt F ∧ ∀ i, i < x.nb → F (hdAt F + 42 + i) = fb i := by
  have hl : x.len = 5 + x.st.sl x.has + 40 + 2 + x.nb := rfl
  have hm2 := hm
  unfold envMay at hm2
  rw [Bool.and_eq_true, Bool.and_eq_true, decide_eq_true_eq] at hm2
  obtain ⟨⟨hgo, hset⟩, hnb⟩ := hm2
  have f4 : F 4 = flagB x.has := by
    rw [hF 4 (by omega), x.by_lo fb 4 (by omega), cat_low (by decide), cat_hi (by decide)]
  have fh : decide (F 4 = 1) = x.has := by rw [f4]; exact flag_of x.has
  have f69 : x.has = true → F 69 = flagB x.st.once := fun e => by
    have hs : 65 ≤ x.st.sl x.has := by unfold SetV.sl; rw [if_pos e]; split <;> omega
    rw [hF 69 (by omega), x.by_lo fb 69 (by omega), cat_hi (by decide)]
    exact sf_flag x.st
  have ho : 5 + x.st.sl x.has = hdAt F := by
    unfold hdAt SetV.sl
    cases e : x.has with
    | false => rw [if_neg (by decide), if_neg (show ¬ F 4 = 1 by rw [f4, e]; decide)]
    | true =>
      rw [if_pos rfl, if_pos (show F 4 = 1 by rw [f4, e]; rfl)]
      have h69 := f69 e
      cases e2 : x.st.once with
      | false => rw [if_neg (by decide), if_neg (show ¬ F 69 = 1 by rw [h69, e2]; decide)]
      | true => rw [if_pos rfl, if_pos (show F 69 = 1 by rw [h69, e2]; rfl)]
  have hE : EnvIs x.len F := ⟨by omega, by rw [f4]; exact flagB_le _, fun e => by
    rw [f69 (by rw [← fh]; exact decide_eq_true e)]; exact flagB_le _⟩
  have hn : ofB8 (fun i => F (hdAt F + 40 + i)) 2 = x.nb := num_of F (hdAt F + 40) x.nb 2 (by omega) (fun i hi => by rw [hF _ (by omega), x.by_nb fb _ i ho hi])
  have hf : ∀ j, j < 2 → F (0 + j) = x.fr j := fun j hj => by
    rw [Nat.zero_add, hF _ (by omega), x.by_lo fb j (by omega), cat_low (by omega), cat_low (by omega), cat_low hj]
  have ht : ∀ j, j < 2 → F (2 + j) = x.tw j := fun j hj => by
    rw [hF _ (by omega), x.by_lo fb _ (by omega), cat_low (by omega), cat_low (by omega), cat_hi (by omega), Nat.add_sub_cancel_left]
  -- the setup
  have hst : (∀ j, j < 32 → (setAt F).ident j = x.st.ident j) ∧ (∀ j, j < 32 → (setAt F).eph j = x.st.eph j) ∧ (setAt F).once = x.st.once ∧ (setAt F).oid = x.st.oid := by
    cases e : x.has with
    | false =>
      have hz : setAt F = SetV.zero := if_neg (show ¬ F 4 = 1 by rw [f4, e]; decide)
      unfold setMay at hset
      rw [e, if_neg (by decide), Bool.and_eq_true, Bool.and_eq_true, Bool.and_eq_true, decide_eq_true_eq, eqN_iff, eqN_iff] at hset
      obtain ⟨z1, z2, z3, z4⟩ := hset
      rw [hz]
      exact ⟨fun j hj => (z1 j hj).symm, fun j hj => (z2 j hj).symm, by rw [beq_iff_eq.1 z3]; rfl, z4.symm⟩
    | true =>
      have h69 := f69 e
      have hs : setAt F = ⟨fun i => F (5 + i), fun i => F (37 + i), decide (F 69 = 1), if F 69 = 1 then ofB8 (fun i => F (70 + i)) 4 else 0⟩ := if_pos (show F 4 = 1 by rw [f4, e]; rfl)
      have hsl : 65 ≤ x.st.sl x.has := by unfold SetV.sl; rw [if_pos e]; split <;> omega
      rw [hs]
      refine ⟨fun j hj => ?_, fun j hj => ?_, ?_, ?_⟩
      · show F (5 + j) = _
        rw [hF _ (by omega), x.by_lo fb _ (by omega), cat_hi (by omega), Nat.add_sub_cancel_left]
        unfold SetV.sf
        rw [cat_low (by omega), cat_low (by omega), cat_low hj]
      · show F (37 + j) = _
        rw [hF _ (by omega), x.by_lo fb _ (by omega), cat_hi (by omega), show 37 + j - 5 = 32 + j by omega]
        unfold SetV.sf
        rw [cat_low (by omega), cat_low (by omega), cat_hi (by omega), Nat.add_sub_cancel_left]
      · show decide (F 69 = 1) = _
        rw [h69]
        exact flag_of _
      · show (if F 69 = 1 then ofB8 (fun i => F (70 + i)) 4 else 0) = _
        cases e2 : x.st.once with
        | false =>
          rw [if_neg (show ¬ F 69 = 1 by rw [h69, e2]; decide)]
          unfold setMay at hset
          rw [e, if_pos rfl, e2, Bool.false_or, decide_eq_true_eq] at hset
          exact hset.symm
        | true =>
          rw [if_pos (show F 69 = 1 by rw [h69, e2]; rfl)]
          have hsl2 : x.st.sl x.has = 69 := by unfold SetV.sl; rw [if_pos e, if_pos e2]
          exact num_of F 70 x.st.oid 4 (by have := hx.st.oid; omega) (fun i hi => by
            rw [hF _ (by omega), x.by_lo fb _ (by omega), cat_hi (by omega), show 70 + i - 5 = 65 + i by omega]
            unfold SetV.sf
            rw [cat_hi (by omega), Nat.add_sub_cancel_left])
  have hrow : ∀ j, j < 66 → (setAt F).v j = x.st.v j := fun j hj => by
    unfold SetV.v
    rw [hst.2.2.1, hst.2.2.2]
    by_cases h1 : j < 32
    · rw [if_pos h1, if_pos h1, hst.1 j h1]
    · rw [if_neg h1, if_neg h1]
      by_cases h2 : j < 64
      · rw [if_pos h2, if_pos h2, hst.2.1 _ (by omega)]
      · rw [if_neg h2, if_neg h2]
  have hsm : setMay (decide (F 4 = 1)) (setAt F) = true := by
    rw [← hset, fh]
    unfold setMay
    rw [hst.2.2.1, hst.2.2.2, eqN_ext hst.1 (fun _ _ => rfl), eqN_ext hst.2.1 (fun _ _ => rfl)]
  refine ⟨?_, ?_, ?_, ho, fun i hi => ?_⟩
  · rw [eOk2_at _ F hE, hn, decide_eq_true hnb, decide_eq_true (by omega), Bool.true_and, Bool.true_and]
    unfold envMay
    rw [Bool.and_eq_true, Bool.and_eq_true, decide_eq_true_eq]
    refine ⟨⟨?_, hsm⟩, ?_⟩
    · rw [← hgo]; exact goMay_ext hf ht
    · show ofB8 (fun i => F (hdAt F + 40 + i)) 2 ≤ 4096
      rw [hn]; exact hnb
  · rw [env_W _ F a c hE]
    unfold envAt
    rw [hn, fh]
    refine rowOf_congr fun i hi => ?_
    unfold EV.v
    by_cases h1 : i < 2
    · rw [if_pos h1, if_pos h1]
      exact congrArg (fun q : Nat => Value.int .u8 (q : Int)) (hf i h1)
    · rw [if_neg h1, if_neg h1]
      by_cases h2 : i < 4
      · rw [if_pos h2, if_pos h2]
        exact congrArg (fun q : Nat => Value.int .u8 (q : Int)) (ht _ (by omega))
      · rw [if_neg h2, if_neg h2]
        by_cases h3 : i < 5
        · rw [if_pos h3, if_pos h3]
        · rw [if_neg h3, if_neg h3]
          by_cases h4 : i < 71
          · rw [if_pos h4, if_pos h4]
            exact hrow _ (by omega)
          · rw [if_neg h4, if_neg h4]
            by_cases h6 : i < 105
            · rw [if_pos h6, if_pos h6]
              have n1 : ofB8 (fun i => F (hdAt F + 32 + i)) 4 = x.hd.prev := num_of F (hdAt F + 32) x.hd.prev 4 (by have := hx.hd.prev; omega) (fun i hi => by
                rw [hF _ (by omega), show hdAt F + 32 + i = hdAt F + (32 + i) by omega, x.by_hd fb _ _ ho (by omega)]; unfold HV.bytes; rw [cat_low (by omega), cat_hi (by omega), Nat.add_sub_cancel_left])
              have n2 : ofB8 (fun i => F (hdAt F + 36 + i)) 4 = x.hd.n := num_of F (hdAt F + 36) x.hd.n 4 (by have := hx.hd.n; omega) (fun i hi => by
                rw [hF _ (by omega), show hdAt F + 36 + i = hdAt F + (36 + i) by omega, x.by_hd fb _ _ ho (by omega)]; unfold HV.bytes; rw [cat_hi (by omega), Nat.add_sub_cancel_left])
              rw [n1, n2]
              unfold HV.v
              by_cases h7 : i - 71 < 32
              · rw [if_pos h7, if_pos h7]
                refine congrArg (fun q : Nat => Value.int .u8 (q : Int)) ?_
                show F (hdAt F + (i - 71)) = _
                rw [hF _ (by omega), x.by_hd fb _ _ ho (by omega)]; unfold HV.bytes; rw [cat_low (by omega), cat_low h7]
              · rw [if_neg h7, if_neg h7]
            · rw [if_neg h6, if_neg h6]
  · rw [env_W _ F a c hE]; exact hn
  · rw [hF _ (by omega), x.by_b fb _ i ho]
end Go.Proofs.Ytmbefbmpjkbnmaa
namespace Go.Proofs.Ytmbefbmpjkbnmaa
open Go.RowKit

set_option maxRecDepth 100000

theorem dist_only (L : Nat) (F : Nat → Nat) (h : L ≠ 66) : distOk L F = false := by
  cases e : distOk L F with
  | false => rfl
  | true => exact absurd (dist_len L F e) h
theorem hdr_only (L : Nat) (h : L ≠ 40) : hdrOk L = false := by
  cases e : hdrOk L with
  | false => rfl
  | true => exact absurd (hdr_len L e) h
theorem pkt_only (x : PV) (fb : Nat → Nat) (hm : pktMay x = true) (L : Nat) (F : Nat → Nat) (hF : ∀ i, i < L → i < x.len → F i = x.bytes fb i) (h : L ≠ x.len) : pOk2 L F = false := by
  cases e : pOk2 L F with
  | false => rfl
  | true =>
    exfalso
    obtain ⟨h24, hn, _⟩ := pkt_len L F e
    have hl : x.len = 24 + x.nb := rfl
    unfold pktMay at hm
    rw [Bool.and_eq_true, decide_eq_true_eq] at hm
    rw [num_of F 20 x.nb 4 (by have := hm.2; omega) (fun i hi => by rw [hF _ (by omega) (by omega), x.by_nb fb i hi])] at hn
    omega
theorem ros_only (x : RV) (fm : Nat → Nat → Nat) (hm : memMay x.nm fm = true) (L : Nat) (F : Nat → Nat) (hF : ∀ i, i < L → i < x.len → F i = x.bytes fm i) (h : L ≠ x.len) : rOk2 L F = false := by
  cases e : rOk2 L F with
  | false => rfl
  | true =>
    exfalso
    obtain ⟨hl2, _, _⟩ := ros_len L F e
    have hl : x.len = 26 + 2 * x.nm := rfl
    have hn32 : x.nm ≤ 32 := by
      unfold memMay at hm
      rw [Bool.and_eq_true, decide_eq_true_eq] at hm
      exact hm.1
    have h26 : 26 ≤ L := by omega
    rw [num_of F 24 x.nm 2 (by omega) (fun i hi => by rw [hF _ (by omega) (by omega), x.by_nm fm i hi])] at hl2
    omega
theorem env_only (x : EV) (fb : Nat → Nat) (hm : envMay x = true) (L : Nat) (F : Nat → Nat) (hF : ∀ i, i < L → i < x.len → F i = x.bytes fb i) (h : L ≠ x.len) : eOk2 L F = false := by
  cases e : eOk2 L F with
  | false => rfl
  | true =>
    exfalso
    have hE := env_is L F e
    have hle := hE.le
    have h5 := hdAt_ge F
    have hl : x.len = 5 + x.st.sl x.has + 40 + 2 + x.nb := rfl
    unfold envMay at hm
    rw [Bool.and_eq_true, Bool.and_eq_true, decide_eq_true_eq] at hm
    have f4 : F 4 = flagB x.has := by
      rw [hF 4 (by omega) (by omega), x.by_lo fb 4 (by omega), cat_low (by decide), cat_hi (by decide)]
    have ho : 5 + x.st.sl x.has = hdAt F := by
      cases e1 : x.has with
      | false =>
        have : hdAt F = 5 := if_neg (show ¬ F 4 = 1 by rw [f4, e1]; decide)
        rw [this]
        rfl
      | true =>
        have h1 : F 4 = 1 := by rw [f4, e1]; rfl
        have hh : hdAt F = if F 69 = 1 then 74 else 70 := if_pos h1
        have h70 : 70 ≤ hdAt F := by rw [hh]; split <;> omega
        have hsl : 65 ≤ x.st.sl x.has := by unfold SetV.sl; rw [if_pos e1]; split <;> omega
        have f69 : F 69 = flagB x.st.once := by
          rw [hF 69 (by omega) (by omega), x.by_lo fb 69 (by omega), cat_hi (by decide)]
          exact sf_flag x.st
        rw [hh]
        unfold SetV.sl
        rw [if_pos rfl]
        cases e2 : x.st.once with
        | false => rw [if_neg (by decide), if_neg (show ¬ F 69 = 1 by rw [f69, e2]; decide)]
        | true => rw [if_pos rfl, if_pos (show F 69 = 1 by rw [f69, e2]; rfl)]
    rw [eOk2_at L F hE, num_of F (hdAt F + 40) x.nb 2 (by omega) (fun i hi => by rw [hF _ (by omega) (by omega), x.by_nb fb _ i ho hi]), Bool.and_eq_true, Bool.and_eq_true, decide_eq_true_eq, decide_eq_true_eq] at e
    omega
end Go.Proofs.Ytmbefbmpjkbnmaa
namespace Go.Proofs.Ytmbefbmpjkbnmaa
open Go.RowKit

set_option maxRecDepth 100000
set_option maxHeartbeats 4000000

theorem distIs_any (v : Nat → Value) (w : World) (h : ∀ W, (Op.equalIn 10000 30 (.agg (rowOf 52 v)) (.agg (rowOf 52 v))).run Try.prog W = .ok true W) : Calls Try.prog 39 #[.agg (rowOf 52 v), .agg (rowOf 52 v)] w fun e w' => e = .returned (.bool true) ∧ w.grownBy w' none := by
  have ga := World.grownBy_alloc w (.cells (rowOf 52 v) 30) none
  have hz := World.size_alloc w (.cells (rowOf 52 v) 30)
  have hX := RowAt.new w 30 52 v _ rfl
  have gb := World.grownBy_alloc (w.alloc (.cells (rowOf 52 v) 30)) (.cells (rowOf 52 v) 30) none
  have hY := RowAt.new (w.alloc (.cells (rowOf 52 v) 30)) 30 52 v _ rfl
  rw [hz] at hY
  have hX := hX.grown gb (by simp)
  have HG := Lib.hid (grown_trans ga gb)
  have HS := Lib.hid h
  clear ga gb hz h
  go_enter Try.func39, Try.ntmps39
  go_upto_region 1 with fail
  obtain ⟨B, hB⟩ : ∃ B, B = w.heap.size := ⟨_, rfl⟩
  rw [← hB] at hX hY ⊢
  generalize (w.alloc (.cells (rowOf 52 v) 30)).alloc (.cells (rowOf 52 v) 30) = w1 at *
  have HX := Lib.hid (hX.load (P := Try.prog) 0 30 52 v (by decide) (fun j _ => by rw [Nat.zero_add]) (by kernel_rfl) (by kernel_rfl))
  have HY := Lib.hid (hY.load (P := Try.prog) 0 30 52 v (by decide) (fun j _ => by rw [Nat.zero_add]) (by kernel_rfl) (by kernel_rfl))
  clear hX hY hB
  go_wp2_with (first | ((with_reducible refine wpList_here ?_); refine wpList_ld (p := .pointer (some ⟨B, 0, none⟩)) 2 ?_ ?_ ?_ HX.out ?_; (· rfl); go_simp; (· kernel_rfl)) | ((with_reducible refine wpList_here ?_); refine wpList_ld (p := .pointer (some ⟨B + 1, 0, none⟩)) 3 ?_ ?_ ?_ HY.out ?_; (· rfl); go_simp; (· kernel_rfl)) | ((with_reducible refine wpList_here ?_); refine wpList_want (v := .bool true) (w' := w1) ?_ (exec_eql_dist 5 6 _ _ true (HS.out w1) rfl rfl rfl) ?_; go_simp))
  go_ret
  exact ⟨rfl, HG.out⟩
theorem hdrIs_any (v : Nat → Value) (w : World) (h : ∀ W, (Op.equalIn 10000 36 (.agg (rowOf 34 v)) (.agg (rowOf 34 v))).run Try.prog W = .ok true W) : Calls Try.prog 41 #[.agg (rowOf 34 v), .agg (rowOf 34 v)] w fun e w' => e = .returned (.bool true) ∧ w.grownBy w' none := by
  have ga := World.grownBy_alloc w (.cells (rowOf 34 v) 36) none
  have hz := World.size_alloc w (.cells (rowOf 34 v) 36)
  have hX := RowAt.new w 36 34 v _ rfl
  have gb := World.grownBy_alloc (w.alloc (.cells (rowOf 34 v) 36)) (.cells (rowOf 34 v) 36) none
  have hY := RowAt.new (w.alloc (.cells (rowOf 34 v) 36)) 36 34 v _ rfl
  rw [hz] at hY
  have hX := hX.grown gb (by simp)
  have HG := Lib.hid (grown_trans ga gb)
  have HS := Lib.hid h
  clear ga gb hz h
  go_enter Try.func41, Try.ntmps41
  go_upto_region 1 with fail
  obtain ⟨B, hB⟩ : ∃ B, B = w.heap.size := ⟨_, rfl⟩
  rw [← hB] at hX hY ⊢
  generalize (w.alloc (.cells (rowOf 34 v) 36)).alloc (.cells (rowOf 34 v) 36) = w1 at *
  have HX := Lib.hid (hX.load (P := Try.prog) 0 36 34 v (by decide) (fun j _ => by rw [Nat.zero_add]) (by kernel_rfl) (by kernel_rfl))
  have HY := Lib.hid (hY.load (P := Try.prog) 0 36 34 v (by decide) (fun j _ => by rw [Nat.zero_add]) (by kernel_rfl) (by kernel_rfl))
  clear hX hY hB
  go_wp2_with (first | ((with_reducible refine wpList_here ?_); refine wpList_ld (p := .pointer (some ⟨B, 0, none⟩)) 2 ?_ ?_ ?_ HX.out ?_; (· rfl); go_simp; (· kernel_rfl)) | ((with_reducible refine wpList_here ?_); refine wpList_ld (p := .pointer (some ⟨B + 1, 0, none⟩)) 3 ?_ ?_ ?_ HY.out ?_; (· rfl); go_simp; (· kernel_rfl)) | ((with_reducible refine wpList_here ?_); refine wpList_want (v := .bool true) (w' := w1) ?_ (exec_eql_hdr 5 6 _ _ true (HS.out w1) rfl rfl rfl) ?_; go_simp))
  go_ret
  exact ⟨rfl, HG.out⟩
end Go.Proofs.Ytmbefbmpjkbnmaa
namespace Go.Proofs.Ytmbefbmpjkbnmaa
open Go.RowKit

set_option maxRecDepth 100000
set_option maxHeartbeats 4000000

/-- What a kind is: which rows are things whose bytes are these, which bytes are a thing's; and what its functions do. -/
structure BackK (N : Nat) (cod : Nat → Value) (PUT TAKE SAME : FuncId) (Is : World → (Nat → Value) → Nat → (Nat → Nat) → Prop) (ok : Nat → (Nat → Nat) → Bool) : Prop where
  grown : ∀ {w w' : World} {v : Nat → Value} {L : Nat} {F : Nat → Nat}, Is w v L F → w.grownBy w' none → Is w' v L F
  len : ∀ {w : World} {v : Nat → Value} {L : Nat} {F : Nat → Nat}, Is w v L F → L ≤ 100000
  byt : ∀ {w : World} {v : Nat → Value} {L : Nat} {F : Nat → Nat}, Is w v L F → ∀ i, F i < 256
  put : ∀ {w : World} {v : Nat → Value} {L : Nat} {F : Nat → Nat}, Is w v L F → Calls Try.prog PUT #[.agg (rowOf 3 cod), .agg (rowOf N v)] w (PutSays w true L F)
  take : ∀ {w : World} {D : Nat} {a : Option Addr} {L : Nat} {F : Nat → Nat} (c : Nat), Rd w D a L F → (∀ i, F i < 256) → L ≤ 2 ^ 46 → Calls Try.prog TAKE #[.agg (rowOf 3 cod), .slice a L c] w fun e w' => ∃ v, e = .returned (.tuple #[.agg (rowOf N v), .int .i64 (errT (ok L F))]) ∧ (∀ j, (v j).oneCell' = true) ∧ (ok L F = true → Is w' v L F) ∧ w.grownBy w' none
  same : ∀ {w : World} {v v' : Nat → Value} {L : Nat} {F : Nat → Nat}, Is w v L F → Is w v' L F → Calls Try.prog SAME #[.agg (rowOf N v), .agg (rowOf N v')] w fun e w' => e = .returned (.bool true) ∧ w.grownBy w' none
  isok : ∀ {w : World} {v : Nat → Value} {L : Nat} {F : Nat → Nat}, Is w v L F → ∀ F', (∀ i, i < L → F' i = F i) → ok L F' = true
  only : ∀ {w : World} {v : Nat → Value} {L : Nat} {F : Nat → Nat}, Is w v L F → ∀ L' F', (∀ i, i < L' → i < L → F' i = F i) → L' ≠ L → ok L' F' = false
theorem PutSays.bytes {w : World} {m : Bool} {n : Nat} {f g : Nat → Nat} {e : Ending} {w' : World} (h : PutSays w m n f e w') (hg : ∀ i, i < n → f i = g i) : PutSays w m n g e w' := by
  obtain ⟨⟨a, c, h1, h2⟩, h3⟩ := h
  refine ⟨⟨a, c, h1, ?_⟩, h3⟩
  rcases h2.ex with ⟨p, q⟩ | ⟨x, y, p, q, r⟩
  · exact ⟨Or.inl ⟨p, q⟩⟩
  · exact ⟨Or.inr ⟨x, y, p, q.congr (fun i hi => hg i (by split at hi <;> omega)), r⟩⟩

/-! Keys. -/
def IsD (_ : World) (v : Nat → Value) (L : Nat) (F : Nat → Nat) : Prop := L = 66 ∧ (∀ i, F i < 256) ∧ ∃ x : DV, x.Ok ∧ devMay x.sd = true ∧ rowOf 52 v = rowOf 52 x.v ∧ ∀ i, i < 66 → F i = x.bytes i
theorem kDist : BackK 52 codDist 59 25 39 IsD distOk where
  grown h _ := h
  len h := by rw [h.1]; decide
  byt h := h.2.1
  put {w v L F} h := by
    obtain ⟨rfl, hF, x, hx, hm, hv, hb⟩ := h
    rw [hv]
    have := putDist_any x.v (devMay x.sd) 66 x.bytes w (fun w1 _ => distMay_any x w1) (fun _ _ _ _ _ h => distPut_any x ⟨hx.ep, hx.kid⟩ h (by decide) (by decide))
    rw [hm] at this
    exact this.mono fun e w' h => h.bytes (fun i hi => (hb i hi).symm)
  take {w D a L F} c hR hF hL := by
    have hT := tDist_any D L c a F w hR hF hL
    rw [dVal_eq, dOk_eq] at hT
    exact hT.mono fun e w' h => ⟨_, h.1, fun j => DV.one _ j, fun hk => by
      obtain ⟨q1, q2, q3, q4⟩ := dist_taken L F hF hk
      exact ⟨q1, hF, _, q2, q3, rfl, fun i hi => (q4 i hi).symm⟩, h.2⟩
  same {w v v' L F} h h' := by
    obtain ⟨rfl, hF, x, hx, hm, hv, hb⟩ := h
    obtain ⟨_, _, x', hx', hm', hv', hb'⟩ := h'
    rw [hv, hv', ← (dist_put x hx hm F hb).2, ← (dist_put x' hx' hm' F hb').2]
    exact distIs_any _ w (self_dist _)
  isok {w v L F} h F' e := by
    obtain ⟨rfl, hF, x, hx, hm, hv, hb⟩ := h
    exact (dist_put x hx hm F' (fun i hi => (e i hi).trans (hb i hi))).1
  only {w v L F} h L' F' _ hne := dist_only L' F' (by rw [h.1] at hne; exact hne)

/-! Headers. -/
def IsH (_ : World) (v : Nat → Value) (L : Nat) (F : Nat → Nat) : Prop := L = 40 ∧ (∀ i, F i < 256) ∧ ∃ x : HV, x.Ok ∧ rowOf 34 v = rowOf 34 x.v ∧ ∀ i, i < 40 → F i = x.bytes i
def hdrOkF (L : Nat) (_ : Nat → Nat) : Bool := hdrOk L
theorem kHdr : BackK 34 codHdr 53 30 41 IsH hdrOkF where
  grown h _ := h
  len h := by rw [h.1]; decide
  byt h := h.2.1
  put {w v L F} h := by
    obtain ⟨rfl, hF, x, hx, hv, hb⟩ := h
    rw [hv]
    have := putHdr_any x.v true 40 x.bytes w (fun w1 _ => hdrMay_any x.v w1) (fun _ w0 w1 g _ h => by
      have := putHeader_any x hx h (by decide) (by decide)
      rw [cat_none] at this
      exact this)
    exact this.mono fun e w' h => h.bytes (fun i hi => (hb i hi).symm)
  take {w D a L F} c hR hF hL := by
    have hT := tHdr_any D L c a F w hR hF hL
    rw [hdr_val] at hT
    exact hT.mono fun e w' h => ⟨_, h.1, fun j => HV.one _ j, fun hk => by
      obtain ⟨q1, q2, q3⟩ := hdr_taken L F hF hk
      exact ⟨q1, hF, _, q2, rfl, fun i hi => (q3 i hi).symm⟩, h.2⟩
  same {w v v' L F} h h' := by
    obtain ⟨rfl, hF, x, hx, hv, hb⟩ := h
    obtain ⟨_, _, x', hx', hv', hb'⟩ := h'
    rw [hv, hv', ← hdr_put x hx F hb, ← hdr_put x' hx' F hb']
    exact hdrIs_any _ w (self_hdr _)
  isok {w v L F} h F' e := by rw [h.1]; exact hdr_ok40
  only {w v L F} h L' F' _ hne := hdr_only L' (by rw [h.1] at hne; exact hne)

/-! Packets. -/
def IsP (w : World) (v : Nat → Value) (L : Nat) (F : Nat → Nat) : Prop := (∀ i, F i < 256) ∧ ∃ (x : PV) (fb : Nat → Nat) (D : Nat), x.Ok ∧ pktMay x = true ∧ Rd w D x.ad x.nb fb ∧ (∀ i, fb i < 256) ∧ rowOf 21 v = rowOf 21 x.v ∧ L = x.len ∧ ∀ i, i < L → F i = x.bytes fb i
theorem pkt_le {x : PV} (hm : pktMay x = true) : x.len ≤ 100000 := by
  unfold pktMay at hm
  rw [Bool.and_eq_true, decide_eq_true_eq] at hm
  unfold PV.len
  have := hm.2
  omega
theorem kPkt : BackK 21 codPkt 98 35 37 IsP pOk2 where
  grown h g := by
    obtain ⟨hF, x, fb, D, hx, hm, hR, hf, hv, hL, hb⟩ := h
    exact ⟨hF, x, fb, D, hx, hm, hR.grown g (fun k e => by cases e), hf, hv, hL, hb⟩
  len h := by
    obtain ⟨hF, x, fb, D, hx, hm, hR, hf, hv, hL, hb⟩ := h
    rw [hL]
    exact pkt_le hm
  byt h := h.1
  put {w v L F} h := by
    obtain ⟨hF, x, fb, D, hx, hm, hR, hf, hv, rfl, hb⟩ := h
    rw [hv]
    have := putPkt_any x.v (pktMay x) x.len (x.bytes fb) w (fun w1 _ => pktMay_any x w1) (fun hm w0 w1 g h0 h => by
      unfold pktMay at hm
      rw [Bool.and_eq_true, decide_eq_true_eq] at hm
      exact pktPut_any (D := D) x (hR.grown h0 (by simp)) hm.2 h (by unfold PV.len; omega) (by decide))
    rw [hm] at this
    exact this.mono fun e w' h => h.bytes (fun i hi => (hb i hi).symm)
  take {w D a L F} c hR hF hL := by
    refine (tPkt2_any D L c a F w hR hF hL).mono fun e w' h => ?_
    obtain ⟨a2, c2, rfl, hO, hg⟩ := h
    cases hk : pOk2 L F with
    | false => exact ⟨_, rfl, fun j => PV.one _ j, fun h => absurd h (by decide), hg⟩
    | true =>
      refine ⟨_, rfl, fun j => PV.one _ j, fun _ => ?_, hg⟩
      rw [if_pos rfl]
      obtain ⟨q1, q2, q3, q4⟩ := pkt_taken L F hF hk a2 c2
      obtain ⟨r1, r2, _⟩ := pkt_len L F hk
      have hO := hO hk
      rw [pkt_N L F r1, r2] at hO
      obtain ⟨a3, c3, e3, _, hRd⟩ := hO.rd
      cases e3
      have hnb : (pkt2 L F a2 c2).nb = L - 24 := by unfold PV.len at q3; omega
      have had : (pkt2 L F a2 c2).ad = a2 := rfl
      refine ⟨hF, pkt2 L F a2 c2, fun j => F (24 + j), w'.heap.size, q1, q2, ?_, fun i => hF _, rfl, q3.symm, fun i hi => (q4 i hi).symm⟩
      rw [hnb, had]
      exact hRd.congr (fun i _ => by rw [show L - (L - 24) = 24 by omega])
  same {w v v' L F} h h' := by
    obtain ⟨hF, x, fb, D, hx, hm, hR, hf, hv, rfl, hb⟩ := h
    obtain ⟨_, x', fb', D', hx', hm', hR', hf', hv', hL', hb'⟩ := h'
    have p := pkt_put x fb hm F hb x.ad x.cb
    have p' := pkt_put x' fb' hm' F (fun i hi => hb' i (by rw [hL']; exact hi)) x'.ad x'.cb
    rw [← hL'] at p'
    have s := samePkt2_any x.len x.cb x'.cb x.ad x'.ad F w hF (fun _ => ⟨D, by
      obtain ⟨r1, r2, _⟩ := pkt_len x.len F p.1
      rw [pkt_N x.len F r1, r2]
      have hnb : x.nb = x.len - 24 := by unfold PV.len; omega
      rw [← hnb]
      exact hR.congr (fun i hi => by rw [show x.len - x.nb = 24 by unfold PV.len; omega]; exact (p.2.2.2 i hi).symm)⟩) (fun _ => ⟨D', by
      obtain ⟨r1, r2, _⟩ := pkt_len x.len F p.1
      rw [pkt_N x.len F r1, r2]
      have hnb : x'.nb = x.len - 24 := by rw [hL']; unfold PV.len; omega
      rw [← hnb]
      exact hR'.congr (fun i hi => by rw [show x.len - x'.nb = 24 by rw [hL']; unfold PV.len; omega]; exact (p'.2.2.2 i hi).symm)⟩)
    rw [p.1, if_pos rfl, if_pos rfl, p.2.1, p'.2.1] at s
    rw [hv, hv']
    exact s
  isok {w v L F} h F' e := by
    obtain ⟨hF, x, fb, D, hx, hm, hR, hf, hv, rfl, hb⟩ := h
    exact (pkt_put x fb hm F' (fun i hi => (e i hi).trans (hb i hi)) none 0).1
  only {w v L F} h L' F' e hne := by
    obtain ⟨hF, x, fb, D, hx, hm, hR, hf, hv, rfl, hb⟩ := h
    exact pkt_only x fb hm L' F' (fun i h1 h2 => (e i h1 h2).trans (hb i h2)) hne
end Go.Proofs.Ytmbefbmpjkbnmaa
namespace Go.Proofs.Ytmbefbmpjkbnmaa
open Go.RowKit

set_option maxRecDepth 100000
set_option maxHeartbeats 4000000

/-! Envelopes. -/
def IsE (w : World) (v : Nat → Value) (L : Nat) (F : Nat → Nat) : Prop := (∀ i, F i < 256) ∧ ∃ (x : EV) (fb : Nat → Nat) (D : Nat), x.Ok ∧ envMay x = true ∧ Rd w D x.ad x.nb fb ∧ (∀ i, fb i < 256) ∧ rowOf 106 v = rowOf 106 x.v ∧ L = x.len ∧ ∀ i, i < L → F i = x.bytes fb i
theorem env_le {x : EV} (hm : envMay x = true) : x.len ≤ 100000 := by
  unfold envMay at hm
  rw [Bool.and_eq_true, decide_eq_true_eq] at hm
  have h := hm.2
  have : x.st.sl x.has ≤ 69 := by
    unfold SetV.sl
    repeat' split
    all_goals decide
  unfold EV.len
  omega
/-- How many bytes the box has, and where. -/
theorem env_at (L : Nat) (F : Nat → Nat) (hk : eOk2 L F = true) : ((((((ISt.good 0).take L 2).take L 2).setS L F).hdrS L).num L F 2) = (envAt F none 0).nb ∧ L = hdAt F + 42 + (envAt F none 0).nb := by
  have hE := env_is L F hk
  have h2 := eOk2_at L F hE
  rw [hk] at h2
  have h3 := h2.symm
  simp only [Bool.and_eq_true, decide_eq_true_eq] at h3
  have h4 := env_W L F none 0 hE
  have h5 : (env2 L F none 0).nb = ((((((ISt.good 0).take L 2).take L 2).setS L F).hdrS L).num L F 2) := rfl
  rw [← h5, h4]
  have h6 : (envAt F none 0).nb = ofB8 (fun i => F (hdAt F + 40 + i)) 2 := rfl
  rw [h6]
  exact ⟨rfl, by have := h3.1.2; have := hE.1; omega⟩
theorem kEnv : BackK 106 codEnv 86 32 34 IsE eOk2 where
  grown h g := by
    obtain ⟨hF, x, fb, D, hx, hm, hR, hf, hv, hL, hb⟩ := h
    exact ⟨hF, x, fb, D, hx, hm, hR.grown g (fun k e => by cases e), hf, hv, hL, hb⟩
  len h := by
    obtain ⟨hF, x, fb, D, hx, hm, hR, hf, hv, hL, hb⟩ := h
    rw [hL]
    exact env_le hm
  byt h := h.1
  put {w v L F} h := by
    obtain ⟨hF, x, fb, D, hx, hm, hR, hf, hv, rfl, hb⟩ := h
    rw [hv]
    have := putEnv_any x.v (envMay x) x.len (x.bytes fb) w (fun w1 _ => envMay_any x w1) (fun hm w0 w1 g h0 h => by
      unfold envMay at hm
      rw [Bool.and_eq_true, decide_eq_true_eq] at hm
      exact envPut_any (D := D) x hx (hR.grown h0 (by simp)) hm.2 h (by omega) (by decide))
    rw [hm] at this
    exact this.mono fun e w' h => h.bytes (fun i hi => (hb i hi).symm)
  take {w D a L F} c hR hF hL := by
    refine (tEnv2_any D L c a F w hR hF hL).mono fun e w' h => ?_
    obtain ⟨a2, c2, rfl, hO, hg⟩ := h
    cases hk : eOk2 L F with
    | false => exact ⟨_, rfl, fun j => EV.one _ j, fun h => absurd h (by decide), hg⟩
    | true =>
      refine ⟨_, rfl, fun j => EV.one _ j, fun _ => ?_, hg⟩
      rw [if_pos rfl]
      obtain ⟨q1, q2, q3, q4⟩ := env_taken L F hF hk a2 c2
      obtain ⟨r1, r2⟩ := env_at L F hk
      have hO := hO hk
      rw [r1] at hO
      obtain ⟨a3, c3, e3, _, hRd⟩ := hO.rd
      cases e3
      have hnb : (env2 L F a2 c2).nb = (envAt F none 0).nb := r1
      have had : (env2 L F a2 c2).ad = a2 := rfl
      refine ⟨hF, env2 L F a2 c2, fun j => F (hdAt F + 42 + j), w'.heap.size, q1, q2, ?_, fun i => hF _, rfl, q3.symm, fun i hi => (q4 i hi).symm⟩
      rw [hnb, had]
      exact hRd.congr (fun i _ => by rw [show L - (envAt F none 0).nb = hdAt F + 42 by omega])
  same {w v v' L F} h h' := by
    obtain ⟨hF, x, fb, D, hx, hm, hR, hf, hv, rfl, hb⟩ := h
    obtain ⟨_, x', fb', D', hx', hm', hR', hf', hv', hL', hb'⟩ := h'
    have p := env_put x fb hx hm F hb x.ad x.cb
    have p' := env_put x' fb' hx' hm' F (fun i hi => hb' i (by rw [hL']; exact hi)) x'.ad x'.cb
    rw [← hL'] at p'
    obtain ⟨r1, r2⟩ := env_at x.len F p.1
    have n1 : x.nb = (envAt F none 0).nb := p.2.2.1.symm.trans r1
    have n2 : x'.nb = (envAt F none 0).nb := p'.2.2.1.symm.trans r1
    have s := sameEnv2_any x.len x.cb x'.cb x.ad x'.ad F w hF (fun _ => ⟨D, by
      rw [r1, ← n1]
      exact hR.congr (fun i hi => by rw [show x.len - x.nb = hdAt F + 42 by omega]; exact (p.2.2.2.2 i hi).symm)⟩) (fun _ => ⟨D', by
      rw [r1, ← n2]
      exact hR'.congr (fun i hi => by rw [show x.len - x'.nb = hdAt F + 42 by omega]; exact (p'.2.2.2.2 i hi).symm)⟩)
    rw [p.1, if_pos rfl, if_pos rfl, p.2.1, p'.2.1] at s
    rw [hv, hv']
    exact s
  isok {w v L F} h F' e := by
    obtain ⟨hF, x, fb, D, hx, hm, hR, hf, hv, rfl, hb⟩ := h
    exact (env_put x fb hx hm F' (fun i hi => (e i hi).trans (hb i hi)) none 0).1
  only {w v L F} h L' F' e hne := by
    obtain ⟨hF, x, fb, D, hx, hm, hR, hf, hv, rfl, hb⟩ := h
    exact env_only x fb hm L' F' (fun i h1 h2 => (e i h1 h2).trans (hb i h2)) hne

/-! Rosters. -/
def IsR (w : World) (v : Nat → Value) (L : Nat) (F : Nat → Nat) : Prop := (∀ i, F i < 256) ∧ ∃ (x : RV) (fm : Nat → Nat → Nat) (D : Nat), x.ep < 18446744073709551616 ∧ memMay x.nm fm = true ∧ x.nm ≤ x.cm ∧ RdD w D x.am x.nm fm ∧ rowOf 18 v = rowOf 18 x.v ∧ L = x.len ∧ ∀ i, i < L → F i = x.bytes fm i
theorem RdD.congr {w : World} {D n : Nat} {a : Option Addr} {fm fm' : Nat → Nat → Nat} (h : RdD w D a n fm) (e : ∀ i j, i < n → j < 2 → fm i j = fm' i j) : RdD w D a n fm' := ⟨fun hn => by
  obtain ⟨tb, o, h1, h2, h3⟩ := h.ex hn
  exact ⟨tb, o, h1, h2, fun i j hi hj => by rw [← e i j hi hj]; exact h3 i j hi hj⟩⟩
theorem mem_le {n : Nat} {fm : Nat → Nat → Nat} (hm : memMay n fm = true) : n ≤ 32 := by
  unfold memMay at hm
  rw [Bool.and_eq_true, decide_eq_true_eq] at hm
  exact hm.1
theorem kRos : BackK 18 codRos 76 27 29 IsR rOk2 where
  grown h g := by
    obtain ⟨hF, x, fm, D, he, hm, hc, hR, hv, hL, hb⟩ := h
    exact ⟨hF, x, fm, D, he, hm, hc, hR.grown g (by simp), hv, hL, hb⟩
  len h := by
    obtain ⟨hF, x, fm, D, he, hm, hc, hR, hv, hL, hb⟩ := h
    rw [hL]
    have := mem_le hm
    unfold RV.len
    omega
  byt h := h.1
  put {w v L F} h := by
    obtain ⟨hF, x, fm, D, he, hm, hc, hR, hv, rfl, hb⟩ := h
    rw [hv]
    have := putRos_any x.v (memMay x.nm fm) x.len (x.bytes fm) w (fun w1 h => rosMay_any D x fm w1 (hR.grown h (by simp)) (by have := mem_le hm; omega)) (fun hm w0 w1 g h0 h => by
      exact rosPut_any (D := D) x fm he (hR.grown h0 (by simp)) (mem_le hm) h (by have := mem_le hm; unfold RV.len; omega) (by decide))
    rw [hm] at this
    exact this.mono fun e w' h => h.bytes (fun i hi => (hb i hi).symm)
  take {w D a L F} c hR hF hL := by
    refine (tRos2_any D L c a F w hR hF hL).mono fun e w' h => ?_
    obtain ⟨a2, c2, rfl, hO, hg⟩ := h
    cases hk : rOk2 L F with
    | false => exact ⟨_, rfl, fun j => RV.one _ j, fun h => absurd h (by decide), hg⟩
    | true =>
      refine ⟨_, rfl, fun j => RV.one _ j, fun _ => ?_, hg⟩
      rw [if_pos rfl]
      obtain ⟨q1, q2, q3, q4, q5⟩ := ros_taken L F hF hk a2 c2
      obtain ⟨r1, r2, _⟩ := ros_len L F hk
      have hO := hO hk
      rw [ros_N L F (by omega), ros_S L (by omega)] at hO
      have hnm : (ros2 L F a2 c2).nm = ofB8 (fun i => F (24 + i)) 2 := by rw [ros_W L F a2 c2 (by omega)]
      have ham : (ros2 L F a2 c2).am = a2 := rfl
      have hcm : (ros2 L F a2 c2).cm = c2 := rfl
      refine ⟨hF, ros2 L F a2 c2, _, w'.heap.size, q2, q3, ?_, ?_, rfl, q4.symm, fun i hi => (q5 i hi).symm⟩
      · rw [hnm, hcm]
        rcases hO.ex with ⟨e1, e2⟩ | ⟨g, cap, e1, e2, _⟩
        · rw [e2]; exact Nat.zero_le _
        · cases e1; exact e2.le
      · rw [hnm, ham]
        exact RdD.of_own hO
  same {w v v' L F} h h' := by
    obtain ⟨hF, x, fm, D, he, hm, hc, hR, hv, rfl, hb⟩ := h
    obtain ⟨_, x', fm', D', he', hm', hc', hR', hv', hL', hb'⟩ := h'
    have p := ros_put x fm he hm F hb x.am x.cm
    have p' := ros_put x' fm' he' hm' F (fun i hi => hb' i (by rw [hL']; exact hi)) x'.am x'.cm
    rw [← hL'] at p'
    obtain ⟨r1, r2, _⟩ := ros_len x.len F p.1
    have hn : ofB8 (fun i => F (24 + i)) 2 = x.nm := by unfold RV.len at r1; omega
    have hn' : ofB8 (fun i => F (24 + i)) 2 = x'.nm := by rw [hL'] at r1; unfold RV.len at r1; omega
    have s := sameRos2_any x.len x.cm x'.cm x.am x'.am F w (fun _ => ⟨D, by
      rw [ros_N x.len F (by omega), ros_S x.len (by omega), hn]
      exact ⟨hR.congr (fun q j hq hj => (p.2.2.2 q hq j hj).symm), hc⟩⟩) (fun _ => ⟨D', by
      rw [ros_N x.len F (by omega), ros_S x.len (by omega), hn']
      exact ⟨hR'.congr (fun q j hq hj => (p'.2.2.2 q hq j hj).symm), hc'⟩⟩)
    rw [p.1, if_pos rfl, if_pos rfl, p.2.1, p'.2.1] at s
    rw [hv, hv']
    exact s
  isok {w v L F} h F' e := by
    obtain ⟨hF, x, fm, D, he, hm, hc, hR, hv, rfl, hb⟩ := h
    exact (ros_put x fm he hm F' (fun i hi => (e i hi).trans (hb i hi)) none 0).1
  only {w v L F} h L' F' e hne := by
    obtain ⟨hF, x, fm, D, he, hm, hc, hR, hv, rfl, hb⟩ := h
    exact ros_only x fm hm L' F' (fun i h1 h2 => (e i h1 h2).trans (hb i h2)) hne
end Go.Proofs.Ytmbefbmpjkbnmaa
namespace Go.Proofs.Ytmbefbmpjkbnmaa
open Go.RowKit

set_option maxRecDepth 100000

theorem ownR_one10 (w : World) (v : Nat) : OwnR (w.alloc (.cells #[.int .u8 (v : Nat)] 5)) w.heap.size 1 1 (fun _ => v) where
  cell := fun i hi => by
    obtain rfl : i = 0 := by omega
    rw [cell_of_row _ _ _ _ _ _ (heap_alloc_new w _)]; rfl
  there := fun i hi => by
    obtain rfl : i = 0 := by omega
    rw [cell_of_row _ _ _ _ _ _ (heap_alloc_new w _)]; rfl
  free := fun i => frozen_of_row _ _ _ _ _ (heap_alloc_new w (.cells #[.int .u8 (v : Nat)] 5))
  le := Nat.le_refl _
  lt := by simp
theorem cat_uB {n : Nat} {f g : Nat → Nat} (hf : ∀ i, f i < 256) (hg : ∀ i, g i < 256) (i : Nat) : cat n f g i < 256 := by
  unfold cat
  split
  · exact hf i
  · exact hg _
/-- What was read in a world between can be read behind. -/
theorem rd_up {w1 w2 w3 : World} {a : Option Addr} {n : Nat} {f : Nat → Nat} (h : Rd w2 w2.heap.size a n f) (_ : w1.grownBy w2 none) (g : w2.grownBy w3 none) : Rd w3 w3.heap.size a n f :=
  (h.grown g (fun k e => by cases e)).mono g.size
end Go.Proofs.Ytmbefbmpjkbnmaa
