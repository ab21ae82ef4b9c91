/-
  The document's own counter mode.
-/
import Derived.Test.YtapmpjmhcloejaaDoorCtrMath
import Derived.Test.YtapmpjmhcloejaaDoorRefAesSeal
import Derived.Test.YtapmpjmhcloejaaDoorAppTail
namespace Go.Proofs.YtapmpjmhcloejaaDoor
open Go.RowKit

set_option maxRecDepth 100000
set_option maxHeartbeats 1000000

/-- The number of the first i of a counter's four last bytes. -/
def ctrP (f : Nat → Nat) : Nat → Nat
  | 0 => 0
  | i + 1 => 256 * ctrP f i + f (12 + i)
theorem ctrP_lt (f : Nat → Nat) (hf : ∀ i, f i < 256) : ∀ i, ctrP f i < 256 ^ i
  | 0 => by simp [ctrP]
  | i + 1 => by
    have := ctrP_lt f hf i
    have := hf (12 + i)
    unfold ctrP
    rw [Nat.pow_succ]
    omega
theorem ctrP_all (f : Nat → Nat) : ctrP f 4 = ctrN f := by
  unfold ctrN
  show 256 * (256 * (256 * (256 * 0 + f 12) + f 13) + f 14) + f 15 = _
  omega

theorem Rd.less {w : World} {B : Nat} {a : Option Addr} {L : Nat} {g : Nat → Nat} (h : Rd w B a L g) (n : Nat) (hn : n ≤ L) : Rd w B a n g where
  ex := fun h0 => by
    obtain ⟨tb, o, h1, h2, h3⟩ := h.ex (by omega)
    exact ⟨tb, o, h1, h2, fun i hi => h3 i (by omega)⟩

theorem rnext_any (a : Option Addr) (c : Nat) (f : Nat → Nat) (w : World) (hf : ∀ i, f i < 256) (hR : Rd w w.heap.size a 16 f) (hc : 16 ≤ c) : Calls Tryd.prog 14 #[.slice a 16 c] w fun e w' => ∃ g cap, e = .returned (.slice (some ⟨g, 0, none⟩) 16 cap) ∧ OwnR w' g 16 cap (nextF f) ∧ w.heap.size ≤ g ∧ w.grownBy w' none := by
  obtain ⟨tb, o, rfl, htb, hcell⟩ := hR.ex (by decide)
  have Hcell := Lib.hid hcell
  have Hf := Lib.hid hf
  clear hcell hf
  go_enter Tryd.func14, Tryd.ntmps14
  go_wp2_with fail
  go_loop [3, 4] (fun u3 u4 => ∃ i : Nat, i ≤ 4 ∧ u4 = .int .i64 (12 + i : Nat) ∧ u3 = .int .u64 (ctrP f i : Nat)) (fun _ u4 => 16 - (intOf u4).toNat)
  case atStart => exact ⟨0, by omega, rfl, rfl⟩
  case round =>
    obtain ⟨i, hi, rfl, rfl⟩ := hrel
    by_cases hlt : i < 4
    · have c0 := Hcell.out (12 + i) (by omega)
      have j1 : ((12 + i : Nat) : Int) < 16 := by omega
      obtain ⟨x, hx⟩ : ∃ x, x = 12 + i := ⟨_, rfl⟩
      rw [← hx] at c0 j1 ⊢
      have b1 := ctrP_lt f Hf.out i
      have b2 := Hf.out x
      have b3 : 256 ^ i ≤ 256 ^ 3 := Nat.pow_le_pow_right (by decide) (by omega)
      have hn : ctrP f (i + 1) = 256 * ctrP f i + f x := by rw [hx]; rfl
      have HN := Lib.hid hn
      have Hx := Lib.hid hx
      generalize ctrP f i = p at *
      generalize f x = y at *
      have k1 : (p : Int) < 16777216 := by omega
      have k2 : (y : Int) < 256 := by omega
      clear hx hn b1 b3
      go_wp2_with fail
      exact ⟨⟨i + 1, by omega, by rw [show 12 + (i + 1) = x + 1 by rw [Hx.out]; omega]; go_num, by rw [HN.out]; go_num⟩, by simp [intOf]; omega⟩
    · obtain rfl : i = 4 := by omega
      have b1 := ctrP_lt f Hf.out 4
      rw [show 256 ^ 4 = 4294967296 from rfl] at b1
      have hNx := ctrP_all f
      rw [ctrP_all] at b1 ⊢
      obtain ⟨N, hN⟩ : ∃ N, N = ctrN f := ⟨_, rfl⟩
      rw [← hN] at b1 ⊢
      have k1 : (N : Int) < 4294967296 := by omega
      obtain ⟨M, hM⟩ : ∃ M, M = (N + 1) % 4294967296 := ⟨_, rfl⟩
      have m1 : ((N : Int) + 1) % 4294967296 = (M : Int) := by omega
      have m2 : ((N : Int) + 1).tmod 4294967296 = (M : Int) := by rw [Int.tmod_eq_emod_of_nonneg (by omega)]; omega
      have k2 : (M : Int) < 4294967296 := by omega
      obtain ⟨v1, w1, hap, ⟨g1, cap1, rfl, hO1, _, hg1, hor1⟩⟩ := app_run (B := w.heap.size) (a := some ⟨tb, o, none⟩) (f' := f) c 22 (ownR_empty w) (m := 12) ((hR.grown (World.grownBy_alloc w _ none) (fun k e => by cases e)).less 12 (by omega)) (by omega)
      have HAP := Lib.hid hap
      have HN := Lib.hid hN
      have HM := Lib.hid hM
      clear hap hN hM hNx hi hlt b1
      go_upto_region 8 with (at_builtin; refine wpList_append_run rfl (.tmp 21) (.tmp 23) 22 22 rfl _ (.slice (some ⟨tb, o, none⟩) 12 c) _ _ rfl rfl HAP.out ?_)
      obtain ⟨y0, hy0⟩ : ∃ y, y = M / 16777216 := ⟨_, rfl⟩
      obtain ⟨z1, hz1⟩ : ∃ y, y = M / 65536 := ⟨_, rfl⟩
      obtain ⟨y1, hy1⟩ : ∃ y, y = z1 % 256 := ⟨_, rfl⟩
      obtain ⟨z2, hz2⟩ : ∃ y, y = M / 256 := ⟨_, rfl⟩
      obtain ⟨y2, hy2⟩ : ∃ y, y = z2 % 256 := ⟨_, rfl⟩
      obtain ⟨y3, hy3⟩ : ∃ y, y = M % 256 := ⟨_, rfl⟩
      have q0 : (M : Int) / 16777216 = (y0 : Int) := by omega
      have q1 : (M : Int) / 65536 = (z1 : Int) := by omega
      have r1 : (z1 : Int) % 256 = (y1 : Int) := by omega
      have q2 : (M : Int) / 256 = (z2 : Int) := by omega
      have r2 : (z2 : Int) % 256 = (y2 : Int) := by omega
      have r3 : (M : Int) % 256 = (y3 : Int) := by omega
      have l0 : (y0 : Int) < 256 := by omega
      have l1 : (y1 : Int) < 256 := by omega
      have l2 : (y2 : Int) < 256 := by omega
      have l3 : (y3 : Int) < 256 := by omega
      have hbn := heap_alloc_new w1 (.cells #[.int .u8 (y0 : Nat), .int .u8 (y1 : Nat), .int .u8 (y2 : Nat), .int .u8 (y3 : Nat)] 5)
      have hga := World.grownBy_alloc w1 (.cells #[.int .u8 (y0 : Nat), .int .u8 (y1 : Nat), .int .u8 (y2 : Nat), .int .u8 (y3 : Nat)] 5) none
      have hRy : Rd (w1.alloc (.cells #[.int .u8 (y0 : Nat), .int .u8 (y1 : Nat), .int .u8 (y2 : Nat), .int .u8 (y3 : Nat)] 5)) (w1.heap.size + 1) (some ⟨w1.heap.size, 0, none⟩) 4 (fun j => if j = 0 then y0 else if j = 1 then y1 else if j = 2 then y2 else y3) := ⟨fun _ => ⟨w1.heap.size, 0, rfl, Nat.lt_succ_self _, fun j hj => by
        rw [cell_of_row _ _ _ _ _ _ hbn, Nat.zero_add]
        obtain rfl | rfl | rfl | rfl : j = 0 ∨ j = 1 ∨ j = 2 ∨ j = 3 := by omega
        all_goals rfl⟩⟩
      obtain ⟨v2, w2, hap2, ⟨g2, cap2, rfl, hO2, _, hg2, hor2⟩⟩ := app_run 4 22 (hO1.grown hga (by simp)) hRy (by omega)
      have hfin : OwnR w2 g2 16 cap2 (nextF f) := hO2.congr (fun i hi => by
        have hn := HN.out
        have hm := HM.out
        unfold cat nextF
        rw [← hn]
        by_cases e : i < 12
        · rw [if_pos e, if_neg (by omega), if_pos e]; rfl
        · obtain rfl | rfl | rfl | rfl : i = 12 ∨ i = 13 ∨ i = 14 ∨ i = 15 := by omega
          all_goals (simp; omega))
      have G1 := grown_new (World.grownBy_alloc w (.cells #[] 5) none) hg1 (Nat.le_refl _)
      rw [World.size_alloc] at hor1 hor2
      have hz0 := G1.size
      have hle1 : w.heap.size ≤ g1 := by omega
      have G2 := grown_new (grown_trans G1 hga) hg2 hle1
      have hle2 : w.heap.size ≤ g2 := by omega
      have HG2 := Lib.hid G2
      have HL2 := Lib.hid hle2
      have HAP2 := Lib.hid hap2
      have HF := Lib.hid hfin
      clear G1 G2 hle1 hle2 hz0 hor1 hor2 hg1 hg2 hap2 hfin hbn hga hRy hO2 hO1 hy0 hz1 hy1 hz2 hy2 hy3 HAP m1 m2
      go_wp2_with (at_builtin; refine wpList_append_run rfl (.tmp 25) (.tmp 40) 22 22 rfl _ (.slice (some ⟨w1.heap.size, 0, none⟩) 4 4) _ _ rfl rfl HAP2.out ?_)
      go_ret
      exact ⟨g2, cap2, rfl, HF.out, HL2.out, HG2.out⟩

end Go.Proofs.YtapmpjmhcloejaaDoor
