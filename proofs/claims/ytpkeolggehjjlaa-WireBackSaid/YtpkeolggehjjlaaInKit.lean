/-
  wire's In: NewIn, U8, U32, U64, Flag, count, Fixed, Sized.
-/
import Derived.Test.YtpkeolggehjjlaaInTake
namespace Go.Proofs.Ytpkeolggehjjlaa
open Go.RowKit

set_option maxRecDepth 100000
set_option maxHeartbeats 2000000

theorem ISt.num_lt (L : Nat) (F : Nat → Nat) (s : ISt) (n : Nat) (hF : ∀ i, F i < 256) : s.num L F n < 256 ^ n := by
  have h1 := ofB8_lt (fun i => F (s.off + i)) (fun i => hF _) (s.got L n)
  have h2 : 256 ^ (s.got L n) ≤ 256 ^ n := Nat.pow_le_pow_right (by decide) (ISt.got_le L s n)
  exact Nat.lt_of_lt_of_le h1 h2
theorem ISt.got_leL (L : Nat) (s : ISt) (n : Int) : s.got L n ≤ L := by
  cases s with
  | nil => exact Nat.zero_le _
  | bad => exact Nat.zero_le _
  | good a =>
    show (if 0 ≤ n ∧ n ≤ ((L - a : Nat) : Int) then n.toNat else 0) ≤ L
    split
    · omega
    · exact Nat.zero_le _
/-- A reader that is made. -/
structure NewInSays (w : World) (L : Nat) (F : Nat → Nat) (e : Ending) (w' : World) : Prop where
  ex : ∃ p, e = .returned (.pointer p) ∧ IAt w' p L F (.good 0) ∧ (∀ g, p = some ⟨g, 0, none⟩ → w.heap.size ≤ g) ∧ w.grownBy w' none
theorem newIn_any (D L c : Nat) (a : Option Addr) (F : Nat → Nat) (w : World) (h : Rd w D a L F) (hL : L ≤ 2 ^ 46) : Calls Try.prog 12 #[.slice a L c] w (NewInSays w L F) := by
  have HC := Lib.hid (clone_any D L c a F w h hL)
  clear h hL
  go_enter Try.func12, Try.ntmps12
  go_wp2_with fail
  go_at_call 29
  refine HC.out.mono ?_
  rintro e w1 ⟨v, rfl, hO, g1⟩
  obtain ⟨a', c', rfl, hc', hR⟩ := hO.rd
  have hb := heap_alloc_new w1 (.cells #[.slice a' L c', .bool false] 68)
  have g2 := World.grownBy_alloc w1 (.cells #[.slice a' L c', .bool false] 68) none
  have hE : IAt (w1.alloc (.cells #[.slice a' L c', .bool false] 68)) (some ⟨w1.heap.size, 0, none⟩) L F (.good 0) :=
    ⟨⟨w1.heap.size, a', c', rfl, ⟨cell_of_row _ _ _ _ _ _ hb, cell_of_row _ _ _ _ _ _ hb, fun i => frozen_of_row _ _ _ _ _ hb⟩, hc', Nat.zero_le _, (hR.grown g2 (by simp)).congr (fun i _ => by rw [Nat.zero_add])⟩⟩
  have HE := Lib.hid hE
  have G := Lib.hid (grown_trans g1 g2)
  have HS := Lib.hid g1.size
  clear hE g1 g2 hb hO hR hc' HC
  go_wp2_with fail
  go_ret
  exact ⟨_, rfl, HE.out, fun g e => by cases e; exact HS.out, G.out⟩
theorem inU8_any {w : World} {p : Option Addr} {L : Nat} {F : Nat → Nat} {s : ISt} (h : IAt w p L F s) (hF : ∀ i, F i < 256) : Calls Try.prog 31 #[.pointer p] w fun e w' => e = .returned (.int .u8 (s.num L F 1 : Nat)) ∧ ISays w p L F (s.take L 1) w' := by
  have HN := Lib.hid (inNumber_any 1 h (by decide) hF)
  have HV := Lib.hid (ISt.num_lt L F s 1 hF)
  obtain ⟨v, hv⟩ : ∃ v, v = s.num L F 1 := ⟨_, rfl⟩
  rw [← hv] at HV ⊢
  have l0 : (v : Int) < 256 := by have := HV.out; omega
  have HVV := Lib.hid hv
  clear h hF hv
  go_enter Try.func31, Try.ntmps31
  go_wp2_with fail
  go_at_call 49
  refine HN.out.mono ?_
  rintro e w1 ⟨rfl, hE⟩
  rw [← HVV.out]
  have HE := Lib.hid hE
  clear hE HN
  go_wp2_with fail
  go_ret
  exact ⟨rfl, HE.out⟩
theorem inU32_any {w : World} {p : Option Addr} {L : Nat} {F : Nat → Nat} {s : ISt} (h : IAt w p L F s) (hF : ∀ i, F i < 256) : Calls Try.prog 32 #[.pointer p] w fun e w' => e = .returned (.int .u32 (s.num L F 4 : Nat)) ∧ ISays w p L F (s.take L 4) w' := by
  have HN := Lib.hid (inNumber_any 4 h (by decide) hF)
  have HV := Lib.hid (ISt.num_lt L F s 4 hF)
  obtain ⟨v, hv⟩ : ∃ v, v = s.num L F 4 := ⟨_, rfl⟩
  rw [← hv] at HV ⊢
  have l0 : (v : Int) < 4294967296 := by have := HV.out; omega
  have HVV := Lib.hid hv
  clear h hF hv
  go_enter Try.func32, Try.ntmps32
  go_wp2_with fail
  go_at_call 49
  refine HN.out.mono ?_
  rintro e w1 ⟨rfl, hE⟩
  rw [← HVV.out]
  have HE := Lib.hid hE
  clear hE HN
  go_wp2_with fail
  go_ret
  exact ⟨rfl, HE.out⟩
theorem inU64_any {w : World} {p : Option Addr} {L : Nat} {F : Nat → Nat} {s : ISt} (h : IAt w p L F s) (hF : ∀ i, F i < 256) : Calls Try.prog 33 #[.pointer p] w fun e w' => e = .returned (.int .u64 (s.num L F 8 : Nat)) ∧ ISays w p L F (s.take L 8) w' := by
  have HN := Lib.hid (inNumber_any 8 h (by decide) hF)
  have HV := Lib.hid (ISt.num_lt L F s 8 hF)
  obtain ⟨v, hv⟩ : ∃ v, v = s.num L F 8 := ⟨_, rfl⟩
  rw [← hv] at HV ⊢
  have HVV := Lib.hid hv
  clear h hF hv
  go_enter Try.func33, Try.ntmps33
  go_wp2_with fail
  go_at_call 49
  refine HN.out.mono ?_
  rintro e w1 ⟨rfl, hE⟩
  rw [← HVV.out]
  have HE := Lib.hid hE
  clear hE HN
  go_wp2_with fail
  go_ret
  exact ⟨rfl, HE.out⟩

/-- A truth value. -/
def ISt.flagS (L : Nat) (F : Nat → Nat) (s : ISt) : ISt := if 1 < s.num L F 1 then (s.take L 1).fail else s.take L 1
theorem inFlag_any {w : World} {p : Option Addr} {L : Nat} {F : Nat → Nat} {s : ISt} (h : IAt w p L F s) (hF : ∀ i, F i < 256) : Calls Try.prog 21 #[.pointer p] w fun e w' => e = .returned (.bool (decide (s.num L F 1 = 1))) ∧ ISays w p L F (s.flagS L F) w' := by
  have HN := Lib.hid (inU8_any h hF)
  unfold ISt.flagS
  obtain ⟨v, hv⟩ : ∃ v, v = s.num L F 1 := ⟨_, rfl⟩
  rw [← hv] at HN ⊢
  clear h hF hv
  by_cases h1 : 1 < v
  · rw [if_pos h1, decide_eq_false (show ¬ v = 1 by omega)]
    have j1 : (1 : Int) < (v : Int) := by omega
    have j2 : ((v : Int) == 1) = false := beq_eq_false_iff_ne.2 (by omega)
    clear h1
    go_enter Try.func21, Try.ntmps21
    go_wp2_with fail
    go_at_call 31
    refine HN.out.mono ?_
    rintro e w1 ⟨rfl, hE⟩
    have HF := Lib.hid (inFail_any hE.st)
    have G1 := Lib.hid hE.gr
    clear hE HN
    go_wp2_with fail
    go_at_call 43
    refine HF.out.mono ?_
    rintro e w2 ⟨rfl, hE⟩
    have HE : Hid (ISays w p L F (s.take L 1).fail w2) := ⟨hE.st, grown_trans G1.out hE.gr⟩
    clear hE HF
    go_wp2_with fail
    go_ret
    exact ⟨rfl, HE.out⟩
  · rw [if_neg h1]
    have j1 : ¬ (1 : Int) < (v : Int) := by omega
    obtain rfl | rfl : v = 0 ∨ v = 1 := by omega
    · clear h1 j1
      go_enter Try.func21, Try.ntmps21
      go_wp2_with fail
      go_at_call 31
      refine HN.out.mono ?_
      rintro e w1 ⟨rfl, hE⟩
      have HE := Lib.hid hE
      clear hE HN
      go_wp2_with fail
      go_ret
      exact ⟨rfl, HE.out⟩
    · clear h1 j1
      go_enter Try.func21, Try.ntmps21
      go_wp2_with fail
      go_at_call 31
      refine HN.out.mono ?_
      rintro e w1 ⟨rfl, hE⟩
      have HE := Lib.hid hE
      clear hE HN
      go_wp2_with fail
      go_ret
      exact ⟨rfl, HE.out⟩
/-- How many there are, of which there may be so many. -/
def ISt.cntS (L : Nat) (F : Nat → Nat) (s : ISt) (most : Int) : ISt := if most < (s.num L F 2 : Int) then (s.take L 2).fail else s.take L 2
def ISt.cntV (L : Nat) (F : Nat → Nat) (s : ISt) (most : Int) : Nat := if most < (s.num L F 2 : Int) then 0 else s.num L F 2
theorem ISt.cntV_lt (L : Nat) (F : Nat → Nat) (s : ISt) (most : Int) (hF : ∀ i, F i < 256) : s.cntV L F most < 65536 := by
  unfold ISt.cntV
  split
  · decide
  · exact ISt.num_lt L F s 2 hF
theorem inCount_any {w : World} {p : Option Addr} {L : Nat} {F : Nat → Nat} {s : ISt} (most : Int) (h : IAt w p L F s) (hF : ∀ i, F i < 256) : Calls Try.prog 46 #[.pointer p, .int .i64 most] w fun e w' => e = .returned (.int .i64 (s.cntV L F most : Nat)) ∧ ISays w p L F (s.cntS L F most) w' := by
  have HN := Lib.hid (inNumber_any 2 h (by decide) hF)
  have hlt := ISt.num_lt L F s 2 hF
  unfold ISt.cntV ISt.cntS
  obtain ⟨v, hv⟩ : ∃ v, v = s.num L F 2 := ⟨_, rfl⟩
  rw [← hv] at hlt ⊢
  have HV := Lib.hid hv
  have l0 : (v : Int) < 65536 := by omega
  clear h hF hv hlt
  by_cases h1 : most < (v : Int)
  · rw [if_pos h1, if_pos h1]
    go_enter Try.func46, Try.ntmps46
    go_wp2_with fail
    go_at_call 49
    refine HN.out.mono ?_
    rintro e w1 ⟨rfl, hE⟩
    rw [← HV.out]
    have HF := Lib.hid (inFail_any hE.st)
    have G1 := Lib.hid hE.gr
    clear hE HN
    go_wp2_with fail
    go_at_call 43
    refine HF.out.mono ?_
    rintro e w2 ⟨rfl, hE⟩
    have HE : Hid (ISays w p L F (s.take L 2).fail w2) := ⟨hE.st, grown_trans G1.out hE.gr⟩
    clear hE HF
    go_wp2_with fail
    go_ret
    exact ⟨rfl, HE.out⟩
  · rw [if_neg h1, if_neg h1]
    have j1 : decide (most < (v : Int)) = false := decide_eq_false h1
    clear h1
    go_enter Try.func46, Try.ntmps46
    go_wp2_with fail
    go_at_call 49
    refine HN.out.mono ?_
    rintro e w1 ⟨rfl, hE⟩
    rw [← HV.out]
    have HE := Lib.hid hE
    clear hE HN
    go_wp2_with fail
    go_ret
    exact ⟨rfl, HE.out⟩
/-- Bytes that are handed back. -/
structure Gots (w : World) (p : Option Addr) (L : Nat) (F : Nat → Nat) (s' : ISt) (N : Nat) (f : Nat → Nat) (e : Ending) (w' : World) : Prop where
  ex : ∃ a c, e = .returned (.slice a N c) ∧ OwnN w' w.heap.size (.slice a N c) N f
  says : ISays w p L F s' w'
theorem inFixed_any {w : World} {p : Option Addr} {L : Nat} {F : Nat → Nat} {s : ISt} (n : Int) (h : IAt w p L F s) (n0 : -9223372036854775808 ≤ n) (n1 : n < 9223372036854775808) (hL : L ≤ 2 ^ 46) : Calls Try.prog 34 #[.pointer p, .int .i64 n] w (Gots w p L F (s.take L n) (s.got L n) (fun i => F (s.off + i))) := by
  have HT := Lib.hid (inTake_any n h n0 n1)
  have HG := Lib.hid (ISt.got_leL L s n)
  have HL := Lib.hid hL
  clear h n0 n1 hL
  obtain ⟨k, hk⟩ : ∃ k, k = s.got L n := ⟨_, rfl⟩
  rw [← hk] at HG ⊢
  go_enter Try.func34, Try.ntmps34
  go_wp2_with fail
  go_at_call 50
  refine HT.out.mono ?_
  rintro e w1 ⟨⟨a, c, rfl, hc, hR⟩, hE⟩
  rw [← hk] at hR hc ⊢
  obtain ⟨a', c', w2, hap, hO, g2, hkeep⟩ := app_N1 c 28 (grown_refl w1 none) (OwnN.nil w1 w1.heap.size (fun _ => 0)) hR (by have := HG.out; have := HL.out; omega)
  have HE : Hid (ISays w p L F (s.take L n) w2) := ⟨hE.st.grown0 g2, grown_trans hE.gr (grown_some g2)⟩
  have HAP := Lib.hid hap
  have HO : Hid (OwnN w2 w.heap.size (.slice a' k c') k (fun i => F (s.off + i))) := by
    rw [Nat.zero_add] at hO
    rcases hO.ex with h | ⟨b, cap, e1, e2, e3⟩
    · exact ⟨Or.inl h⟩
    · exact ⟨Or.inr ⟨b, cap, e1, e2.congr (fun i _ => by unfold cat; rw [if_neg (by omega)]; rfl), Nat.le_trans hE.gr.size e3⟩⟩
  rw [Nat.zero_add] at HAP
  clear hap hO g2 hkeep hE hR hc HT hk
  go_wp2_with (at_builtin; refine wpList_append_run rfl (.const (.slice none 0 0)) (.tmp 7) 28 28 rfl _ _ _ _ rfl rfl HAP.out ?_)
  go_ret
  exact ⟨⟨a', c', rfl, HO.out⟩, HE.out⟩
theorem inSized_any {w : World} {p : Option Addr} {L : Nat} {F : Nat → Nat} {s : ISt} (most : Int) (h : IAt w p L F s) (hF : ∀ i, F i < 256) (hL : L ≤ 2 ^ 46) :
    Calls Try.prog 35 #[.pointer p, .int .i64 most] w (Gots w p L F ((s.cntS L F most).take L (s.cntV L F most : Nat)) ((s.cntS L F most).got L (s.cntV L F most : Nat)) (fun i => F ((s.cntS L F most).off + i))) := by
  have HC := Lib.hid (inCount_any most h hF)
  have hlt := ISt.cntV_lt L F s most hF
  generalize s.cntV L F most = k at *
  generalize s.cntS L F most = t at *
  obtain ⟨m, hm⟩ : ∃ m, m = t.got L (k : Nat) := ⟨_, rfl⟩
  rw [← hm]
  have HMM := Lib.hid hm
  clear hm
  have HK := Lib.hid hlt
  have HL := Lib.hid hL
  clear h hF hL hlt
  go_enter Try.func35, Try.ntmps35
  go_wp2_with fail
  go_at_call 46
  refine HC.out.mono ?_
  rintro e w1 ⟨rfl, hE⟩
  have HX := Lib.hid (inFixed_any (k : Nat) hE.st (by omega) (by have := HK.out; omega) HL.out)
  have G1 := Lib.hid hE.gr
  clear hE HC
  go_wp2_with fail
  go_at_call 34
  refine HX.out.mono ?_
  rintro e w2 ⟨⟨a, c, rfl, hO⟩, hE⟩
  rw [← HMM.out] at hO ⊢
  have HO := Lib.hid (hO.base G1.out.size)
  have HE : Hid (ISays w p L F (t.take L (k : Nat)) w2) := ⟨hE.st, grown_trans G1.out hE.gr⟩
  clear hO hE HX
  go_wp2_with fail
  go_ret
  exact ⟨⟨a, c, rfl, HO.out⟩, HE.out⟩
end Go.Proofs.Ytpkeolggehjjlaa
