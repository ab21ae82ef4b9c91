/-
  field's products.
-/
import Derived.Test.YtpnddojcihdniaaFieldAdd
import Derived.Test.YtpnddojcihdniaaQuietTail
import Derived.Test.YtpnddojcihdniaaOrd3
import Derived.BigQuiet
import Derived.Shelf.Abstract
namespace Go.Proofs.Ytpnddojcihdniaa
open Go.RowKit Go.Shelf

set_option maxRecDepth 100000
set_option maxHeartbeats 4000000

theorem plus_enters (args : Array Value) (w : World) : (callFunc 34 args).run Try.prog w = .ok (.enter 34 args) w := enters_of Try.func34 (by kernel_rfl) rfl args w
theorem rest_enters (args : Array Value) (w : World) : (callFunc 35 args).run Try.prog w = .ok (.enter 35 args) w := enters_of Try.func35 (by kernel_rfl) rfl args w
theorem carry_enters (args : Array Value) (w : World) : (callFunc 36 args).run Try.prog w = .ok (.enter 36 args) w := enters_of Try.func36 (by kernel_rfl) rfl args w
theorem run_wide {o : Oper} {a : Act} {W : World} {B : Nat} {f : Nat → Nat} {t : Tmp} (h : Holds W B 65 .u64 2 f) (ho : o.op = .load 65 (.tmp t)) (ha : a.eval (.tmp t) = .pointer (some ⟨B, 0, none⟩)) :
    (execOp a.eval o).run Try.prog W = .ok (.value (.agg #[.int .u64 (f 0), .int .u64 (f 1)])) W := by
  obtain ⟨d, h1, h2⟩ := under_row (P := Try.prog) (T := 65) (by kernel_rfl)
  exact run_row 65 d h ho ha h1 (by cases d <;> first | rfl | exact h2) (by kernel_rfl)
theorem wide_zero : wide 0 = .agg #[.int .u64 0, .int .u64 0] := rfl
theorem wide_two (n : Nat) : ∃ f : Nat → Nat, wide n = .agg #[.int .u64 (f 0), .int .u64 (f 1)] := ⟨lst5 (n / 18446744073709551616) (n % 18446744073709551616) 0 0 0, rfl⟩

theorem mul_any {f g : Nat → Nat} {v u : Nat} (hf : Is5 f v) (hg : Is5 g u) (w : World) :
    Calls Try.prog 13 #[.agg (cellsOf .u64 5 f), .agg (cellsOf .u64 5 g)] w fun e w' => e = .returned (.agg (cellsOf .u64 5 (mulL f g))) ∧ w.grownBy w' none := by
  have hlt := mulLt hf.lt hg.lt
  have hx := mulX_lt hlt
  have HC := Lib.hid (carried_any (mulX f g) hx)
  obtain ⟨S, hS0⟩ : ∃ S, S = mulL f g := ⟨_, rfl⟩
  rw [← hS0]
  obtain ⟨o1, ho1⟩ : ∃ o, o = 19 * g 1 := ⟨_, rfl⟩
  have ko1 : IntKind.u64.wrap (19 * (g 1 : Int)) = (o1 : Int) := by
    have := hg.lt 1 (by decide)
    rw [ho1, IntKind.wrap_u64]
    omega
  have lo1 : o1 < 18446744073709551616 := by
    have := hg.lt 1 (by decide)
    omega
  have lf1 : f 1 < 18446744073709551616 := Nat.lt_trans (hf.lt 1 (by decide)) (by decide)
  have lg1 : g 1 < 18446744073709551616 := Nat.lt_trans (hg.lt 1 (by decide)) (by decide)
  obtain ⟨o2, ho2⟩ : ∃ o, o = 19 * g 2 := ⟨_, rfl⟩
  have ko2 : IntKind.u64.wrap (19 * (g 2 : Int)) = (o2 : Int) := by
    have := hg.lt 2 (by decide)
    rw [ho2, IntKind.wrap_u64]
    omega
  have lo2 : o2 < 18446744073709551616 := by
    have := hg.lt 2 (by decide)
    omega
  have lf2 : f 2 < 18446744073709551616 := Nat.lt_trans (hf.lt 2 (by decide)) (by decide)
  have lg2 : g 2 < 18446744073709551616 := Nat.lt_trans (hg.lt 2 (by decide)) (by decide)
  obtain ⟨o3, ho3⟩ : ∃ o, o = 19 * g 3 := ⟨_, rfl⟩
  have ko3 : IntKind.u64.wrap (19 * (g 3 : Int)) = (o3 : Int) := by
    have := hg.lt 3 (by decide)
    rw [ho3, IntKind.wrap_u64]
    omega
  have lo3 : o3 < 18446744073709551616 := by
    have := hg.lt 3 (by decide)
    omega
  have lf3 : f 3 < 18446744073709551616 := Nat.lt_trans (hf.lt 3 (by decide)) (by decide)
  have lg3 : g 3 < 18446744073709551616 := Nat.lt_trans (hg.lt 3 (by decide)) (by decide)
  obtain ⟨o4, ho4⟩ : ∃ o, o = 19 * g 4 := ⟨_, rfl⟩
  have ko4 : IntKind.u64.wrap (19 * (g 4 : Int)) = (o4 : Int) := by
    have := hg.lt 4 (by decide)
    rw [ho4, IntKind.wrap_u64]
    omega
  have lo4 : o4 < 18446744073709551616 := by
    have := hg.lt 4 (by decide)
    omega
  have lf4 : f 4 < 18446744073709551616 := Nat.lt_trans (hf.lt 4 (by decide)) (by decide)
  have lg4 : g 4 < 18446744073709551616 := Nat.lt_trans (hg.lt 4 (by decide)) (by decide)
  have lf0 : f 0 < 18446744073709551616 := Nat.lt_trans (hf.lt 0 (by decide)) (by decide)
  have lg0 : g 0 < 18446744073709551616 := Nat.lt_trans (hg.lt 0 (by decide)) (by decide)
  obtain ⟨nA0, hnA0⟩ : ∃ n, n = 0 + f 0 * g 0 := ⟨_, rfl⟩
  obtain ⟨nA1, hnA1⟩ : ∃ n, n = nA0 + f 1 * o4 := ⟨_, rfl⟩
  obtain ⟨nA2, hnA2⟩ : ∃ n, n = nA1 + f 2 * o3 := ⟨_, rfl⟩
  obtain ⟨nA3, hnA3⟩ : ∃ n, n = nA2 + f 3 * o2 := ⟨_, rfl⟩
  obtain ⟨nA4, hnA4⟩ : ∃ n, n = nA3 + f 4 * o1 := ⟨_, rfl⟩
  have eA : nA4 = mulA f g := by
    unfold mulA
    rw [hnA4, hnA3, hnA2, hnA1, hnA0, Nat.zero_add, ho4, ho3, ho2, ho1]
  have bA : nA4 < 1600000000000000000000000000000000 := by
    have := hlt.a
    omega
  have PA0 := Lib.hid (plus_any 0 (f 0) (g 0) lf0 lg0 (by omega))
  rw [← hnA0] at PA0
  have PA1 := Lib.hid (plus_any nA0 (f 1) (o4) lf1 lo4 (by omega))
  rw [← hnA1] at PA1
  have PA2 := Lib.hid (plus_any nA1 (f 2) (o3) lf2 lo3 (by omega))
  rw [← hnA2] at PA2
  have PA3 := Lib.hid (plus_any nA2 (f 3) (o2) lf3 lo2 (by omega))
  rw [← hnA3] at PA3
  have PA4 := Lib.hid (plus_any nA3 (f 4) (o1) lf4 lo1 (by omega))
  rw [← hnA4] at PA4
  have RA := Lib.hid (rest_any nA4)
  have CA := Lib.hid (carry_any nA4 (by omega))
  obtain ⟨rA, hrA⟩ : ∃ r, r = nA4 % 2251799813685248 := ⟨_, rfl⟩
  obtain ⟨cA, hcA⟩ : ∃ c, c = nA4 / 2251799813685248 := ⟨_, rfl⟩
  rw [← hrA] at RA
  rw [← hcA] at CA
  rw [wide_zero] at PA0
  obtain ⟨yA, hyA⟩ := wide_two nA4
  rw [hyA] at PA4 RA CA
  obtain ⟨VA0, hVA0⟩ : ∃ V, V = wide nA0 := ⟨_, rfl⟩
  rw [← hVA0] at PA0 PA1
  obtain ⟨VA1, hVA1⟩ : ∃ V, V = wide nA1 := ⟨_, rfl⟩
  rw [← hVA1] at PA1 PA2
  obtain ⟨VA2, hVA2⟩ : ∃ V, V = wide nA2 := ⟨_, rfl⟩
  rw [← hVA2] at PA2 PA3
  obtain ⟨VA3, hVA3⟩ : ∃ V, V = wide nA3 := ⟨_, rfl⟩
  rw [← hVA3] at PA3 PA4
  obtain ⟨nB0, hnB0⟩ : ∃ n, n = 0 + f 0 * g 1 := ⟨_, rfl⟩
  obtain ⟨nB1, hnB1⟩ : ∃ n, n = nB0 + f 1 * g 0 := ⟨_, rfl⟩
  obtain ⟨nB2, hnB2⟩ : ∃ n, n = nB1 + f 2 * o4 := ⟨_, rfl⟩
  obtain ⟨nB3, hnB3⟩ : ∃ n, n = nB2 + f 3 * o3 := ⟨_, rfl⟩
  obtain ⟨nB4, hnB4⟩ : ∃ n, n = nB3 + f 4 * o2 := ⟨_, rfl⟩
  have eB : nB4 = mulB f g := by
    unfold mulB
    rw [hnB4, hnB3, hnB2, hnB1, hnB0, Nat.zero_add, ho4, ho3, ho2]
  have bB : nB4 < 1600000000000000000000000000000000 := by
    have := hlt.b
    omega
  have PB0 := Lib.hid (plus_any 0 (f 0) (g 1) lf0 lg1 (by omega))
  rw [← hnB0] at PB0
  have PB1 := Lib.hid (plus_any nB0 (f 1) (g 0) lf1 lg0 (by omega))
  rw [← hnB1] at PB1
  have PB2 := Lib.hid (plus_any nB1 (f 2) (o4) lf2 lo4 (by omega))
  rw [← hnB2] at PB2
  have PB3 := Lib.hid (plus_any nB2 (f 3) (o3) lf3 lo3 (by omega))
  rw [← hnB3] at PB3
  have PB4 := Lib.hid (plus_any nB3 (f 4) (o2) lf4 lo2 (by omega))
  rw [← hnB4] at PB4
  have RB := Lib.hid (rest_any nB4)
  have CB := Lib.hid (carry_any nB4 (by omega))
  obtain ⟨rB, hrB⟩ : ∃ r, r = nB4 % 2251799813685248 := ⟨_, rfl⟩
  obtain ⟨cB, hcB⟩ : ∃ c, c = nB4 / 2251799813685248 := ⟨_, rfl⟩
  rw [← hrB] at RB
  rw [← hcB] at CB
  rw [wide_zero] at PB0
  obtain ⟨yB, hyB⟩ := wide_two nB4
  rw [hyB] at PB4 RB CB
  obtain ⟨VB0, hVB0⟩ : ∃ V, V = wide nB0 := ⟨_, rfl⟩
  rw [← hVB0] at PB0 PB1
  obtain ⟨VB1, hVB1⟩ : ∃ V, V = wide nB1 := ⟨_, rfl⟩
  rw [← hVB1] at PB1 PB2
  obtain ⟨VB2, hVB2⟩ : ∃ V, V = wide nB2 := ⟨_, rfl⟩
  rw [← hVB2] at PB2 PB3
  obtain ⟨VB3, hVB3⟩ : ∃ V, V = wide nB3 := ⟨_, rfl⟩
  rw [← hVB3] at PB3 PB4
  obtain ⟨nC0, hnC0⟩ : ∃ n, n = 0 + f 0 * g 2 := ⟨_, rfl⟩
  obtain ⟨nC1, hnC1⟩ : ∃ n, n = nC0 + f 1 * g 1 := ⟨_, rfl⟩
  obtain ⟨nC2, hnC2⟩ : ∃ n, n = nC1 + f 2 * g 0 := ⟨_, rfl⟩
  obtain ⟨nC3, hnC3⟩ : ∃ n, n = nC2 + f 3 * o4 := ⟨_, rfl⟩
  obtain ⟨nC4, hnC4⟩ : ∃ n, n = nC3 + f 4 * o3 := ⟨_, rfl⟩
  have eC : nC4 = mulC f g := by
    unfold mulC
    rw [hnC4, hnC3, hnC2, hnC1, hnC0, Nat.zero_add, ho4, ho3]
  have bC : nC4 < 1600000000000000000000000000000000 := by
    have := hlt.c
    omega
  have PC0 := Lib.hid (plus_any 0 (f 0) (g 2) lf0 lg2 (by omega))
  rw [← hnC0] at PC0
  have PC1 := Lib.hid (plus_any nC0 (f 1) (g 1) lf1 lg1 (by omega))
  rw [← hnC1] at PC1
  have PC2 := Lib.hid (plus_any nC1 (f 2) (g 0) lf2 lg0 (by omega))
  rw [← hnC2] at PC2
  have PC3 := Lib.hid (plus_any nC2 (f 3) (o4) lf3 lo4 (by omega))
  rw [← hnC3] at PC3
  have PC4 := Lib.hid (plus_any nC3 (f 4) (o3) lf4 lo3 (by omega))
  rw [← hnC4] at PC4
  have RC := Lib.hid (rest_any nC4)
  have CC := Lib.hid (carry_any nC4 (by omega))
  obtain ⟨rC, hrC⟩ : ∃ r, r = nC4 % 2251799813685248 := ⟨_, rfl⟩
  obtain ⟨cC, hcC⟩ : ∃ c, c = nC4 / 2251799813685248 := ⟨_, rfl⟩
  rw [← hrC] at RC
  rw [← hcC] at CC
  rw [wide_zero] at PC0
  obtain ⟨yC, hyC⟩ := wide_two nC4
  rw [hyC] at PC4 RC CC
  obtain ⟨VC0, hVC0⟩ : ∃ V, V = wide nC0 := ⟨_, rfl⟩
  rw [← hVC0] at PC0 PC1
  obtain ⟨VC1, hVC1⟩ : ∃ V, V = wide nC1 := ⟨_, rfl⟩
  rw [← hVC1] at PC1 PC2
  obtain ⟨VC2, hVC2⟩ : ∃ V, V = wide nC2 := ⟨_, rfl⟩
  rw [← hVC2] at PC2 PC3
  obtain ⟨VC3, hVC3⟩ : ∃ V, V = wide nC3 := ⟨_, rfl⟩
  rw [← hVC3] at PC3 PC4
  obtain ⟨nD0, hnD0⟩ : ∃ n, n = 0 + f 0 * g 3 := ⟨_, rfl⟩
  obtain ⟨nD1, hnD1⟩ : ∃ n, n = nD0 + f 1 * g 2 := ⟨_, rfl⟩
  obtain ⟨nD2, hnD2⟩ : ∃ n, n = nD1 + f 2 * g 1 := ⟨_, rfl⟩
  obtain ⟨nD3, hnD3⟩ : ∃ n, n = nD2 + f 3 * g 0 := ⟨_, rfl⟩
  obtain ⟨nD4, hnD4⟩ : ∃ n, n = nD3 + f 4 * o4 := ⟨_, rfl⟩
  have eD : nD4 = mulD f g := by
    unfold mulD
    rw [hnD4, hnD3, hnD2, hnD1, hnD0, Nat.zero_add, ho4]
  have bD : nD4 < 1600000000000000000000000000000000 := by
    have := hlt.d
    omega
  have PD0 := Lib.hid (plus_any 0 (f 0) (g 3) lf0 lg3 (by omega))
  rw [← hnD0] at PD0
  have PD1 := Lib.hid (plus_any nD0 (f 1) (g 2) lf1 lg2 (by omega))
  rw [← hnD1] at PD1
  have PD2 := Lib.hid (plus_any nD1 (f 2) (g 1) lf2 lg1 (by omega))
  rw [← hnD2] at PD2
  have PD3 := Lib.hid (plus_any nD2 (f 3) (g 0) lf3 lg0 (by omega))
  rw [← hnD3] at PD3
  have PD4 := Lib.hid (plus_any nD3 (f 4) (o4) lf4 lo4 (by omega))
  rw [← hnD4] at PD4
  have RD := Lib.hid (rest_any nD4)
  have CD := Lib.hid (carry_any nD4 (by omega))
  obtain ⟨rD, hrD⟩ : ∃ r, r = nD4 % 2251799813685248 := ⟨_, rfl⟩
  obtain ⟨cD, hcD⟩ : ∃ c, c = nD4 / 2251799813685248 := ⟨_, rfl⟩
  rw [← hrD] at RD
  rw [← hcD] at CD
  rw [wide_zero] at PD0
  obtain ⟨yD, hyD⟩ := wide_two nD4
  rw [hyD] at PD4 RD CD
  obtain ⟨VD0, hVD0⟩ : ∃ V, V = wide nD0 := ⟨_, rfl⟩
  rw [← hVD0] at PD0 PD1
  obtain ⟨VD1, hVD1⟩ : ∃ V, V = wide nD1 := ⟨_, rfl⟩
  rw [← hVD1] at PD1 PD2
  obtain ⟨VD2, hVD2⟩ : ∃ V, V = wide nD2 := ⟨_, rfl⟩
  rw [← hVD2] at PD2 PD3
  obtain ⟨VD3, hVD3⟩ : ∃ V, V = wide nD3 := ⟨_, rfl⟩
  rw [← hVD3] at PD3 PD4
  obtain ⟨nE0, hnE0⟩ : ∃ n, n = 0 + f 0 * g 4 := ⟨_, rfl⟩
  obtain ⟨nE1, hnE1⟩ : ∃ n, n = nE0 + f 1 * g 3 := ⟨_, rfl⟩
  obtain ⟨nE2, hnE2⟩ : ∃ n, n = nE1 + f 2 * g 2 := ⟨_, rfl⟩
  obtain ⟨nE3, hnE3⟩ : ∃ n, n = nE2 + f 3 * g 1 := ⟨_, rfl⟩
  obtain ⟨nE4, hnE4⟩ : ∃ n, n = nE3 + f 4 * g 0 := ⟨_, rfl⟩
  have eE : nE4 = mulE f g := by
    unfold mulE
    rw [hnE4, hnE3, hnE2, hnE1, hnE0, Nat.zero_add]
  have bE : nE4 < 1600000000000000000000000000000000 := by
    have := hlt.e
    omega
  have PE0 := Lib.hid (plus_any 0 (f 0) (g 4) lf0 lg4 (by omega))
  rw [← hnE0] at PE0
  have PE1 := Lib.hid (plus_any nE0 (f 1) (g 3) lf1 lg3 (by omega))
  rw [← hnE1] at PE1
  have PE2 := Lib.hid (plus_any nE1 (f 2) (g 2) lf2 lg2 (by omega))
  rw [← hnE2] at PE2
  have PE3 := Lib.hid (plus_any nE2 (f 3) (g 1) lf3 lg1 (by omega))
  rw [← hnE3] at PE3
  have PE4 := Lib.hid (plus_any nE3 (f 4) (g 0) lf4 lg0 (by omega))
  rw [← hnE4] at PE4
  have RE := Lib.hid (rest_any nE4)
  have CE := Lib.hid (carry_any nE4 (by omega))
  obtain ⟨rE, hrE⟩ : ∃ r, r = nE4 % 2251799813685248 := ⟨_, rfl⟩
  obtain ⟨cE, hcE⟩ : ∃ c, c = nE4 / 2251799813685248 := ⟨_, rfl⟩
  rw [← hrE] at RE
  rw [← hcE] at CE
  rw [wide_zero] at PE0
  obtain ⟨yE, hyE⟩ := wide_two nE4
  rw [hyE] at PE4 RE CE
  obtain ⟨VE0, hVE0⟩ : ∃ V, V = wide nE0 := ⟨_, rfl⟩
  rw [← hVE0] at PE0 PE1
  obtain ⟨VE1, hVE1⟩ : ∃ V, V = wide nE1 := ⟨_, rfl⟩
  rw [← hVE1] at PE1 PE2
  obtain ⟨VE2, hVE2⟩ : ∃ V, V = wide nE2 := ⟨_, rfl⟩
  rw [← hVE2] at PE2 PE3
  obtain ⟨VE3, hVE3⟩ : ∃ V, V = wide nE3 := ⟨_, rfl⟩
  rw [← hVE3] at PE3 PE4
  obtain ⟨q, hq⟩ : ∃ q, q = mulX f g := ⟨_, rfl⟩
  have hCar : carL q = S := by rw [hq, hS0]; rfl
  rw [← hq] at HC
  have q0 : q 0 = rA + 19 * cE := by
    rw [hq, hrA, hcE, eA, eE]
    rfl
  have lq0 : q 0 < 18446744073709551616 := by
    rw [hq]
    exact hx 0 (by decide)
  have z0 : IntKind.u64.wrap ((rA : Int) + IntKind.u64.wrap (19 * (cE : Int))) = (q 0 : Int) := by
    rw [IntKind.wrap_u64, IntKind.wrap_u64]
    omega
  have Z0 := Lib.hid z0
  have q1 : q 1 = rB + cA := by
    rw [hq, hrB, hcA, eB, eA]
    rfl
  have lq1 : q 1 < 18446744073709551616 := by
    rw [hq]
    exact hx 1 (by decide)
  have z1 : IntKind.u64.wrap ((rB : Int) + (cA : Int)) = (q 1 : Int) := by
    rw [IntKind.wrap_u64]
    omega
  have Z1 := Lib.hid z1
  have q2 : q 2 = rC + cB := by
    rw [hq, hrC, hcB, eC, eB]
    rfl
  have lq2 : q 2 < 18446744073709551616 := by
    rw [hq]
    exact hx 2 (by decide)
  have z2 : IntKind.u64.wrap ((rC : Int) + (cB : Int)) = (q 2 : Int) := by
    rw [IntKind.wrap_u64]
    omega
  have Z2 := Lib.hid z2
  have q3 : q 3 = rD + cC := by
    rw [hq, hrD, hcC, eD, eC]
    rfl
  have lq3 : q 3 < 18446744073709551616 := by
    rw [hq]
    exact hx 3 (by decide)
  have z3 : IntKind.u64.wrap ((rD : Int) + (cC : Int)) = (q 3 : Int) := by
    rw [IntKind.wrap_u64]
    omega
  have Z3 := Lib.hid z3
  have q4 : q 4 = rE + cD := by
    rw [hq, hrE, hcD, eE, eD]
    rfl
  have lq4 : q 4 < 18446744073709551616 := by
    rw [hq]
    exact hx 4 (by decide)
  have z4 : IntKind.u64.wrap ((rE : Int) + (cD : Int)) = (q 4 : Int) := by
    rw [IntKind.wrap_u64]
    omega
  have Z4 := Lib.hid z4
  have HCar := Lib.hid hCar
  clear ho1 lo1 ho2 lo2 ho3 lo3 ho4 lo4 lf0 lg0 lf1 lg1 lf2 lg2 lf3 lg3 lf4 lg4 hnA0 hnA1 hnA2 hnA3 hnA4 hnB0 hnB1 hnB2 hnB3 hnB4 hnC0 hnC1 hnC2 hnC3 hnC4 hnD0 hnD1 hnD2 hnD3 hnD4 hnE0 hnE1 hnE2 hnE3 hnE4 eA bA hrA hcA hyA eB bB hrB hcB hyB eC bC hrC hcC hyC eD bD hrD hcD hyD eE bE hrE hcE hyE hVA0 hVA1 hVA2 hVA3 hVB0 hVB1 hVB2 hVB3 hVC0 hVC1 hVC2 hVC3 hVD0 hVD1 hVD2 hVD3 hVE0 hVE1 hVE2 hVE3 q0 lq0 z0 q1 lq1 z1 q2 lq2 z2 q3 lq3 z3 q4 lq4 z4 hq hCar hS0 hlt hx hf hg
  have hA : Holds (((w.alloc (.cells (cellsOf .u64 5 f) 28)).alloc (.cells (cellsOf .u64 5 g) 28)).alloc (.cells #[.int .u64 0, .int .u64 0, .int .u64 0, .int .u64 0, .int .u64 0] 28)) w.heap.size 28 .u64 5 f := ((holds_alloc w 28 .u64 5 f _ rfl).grown (World.grownBy_alloc _ _ none) (by simp)).grown (World.grownBy_alloc _ _ none) (by simp)
  have hB : Holds (((w.alloc (.cells (cellsOf .u64 5 f) 28)).alloc (.cells (cellsOf .u64 5 g) 28)).alloc (.cells #[.int .u64 0, .int .u64 0, .int .u64 0, .int .u64 0, .int .u64 0] 28)) (w.heap.size + 1) 28 .u64 5 g := by
    have := (holds_alloc (w.alloc (.cells (cellsOf .u64 5 f) 28)) 28 .u64 5 g _ rfl).grown (World.grownBy_alloc _ (.cells #[.int .u64 0, .int .u64 0, .int .u64 0, .int .u64 0, .int .u64 0] 28) none) (by simp)
    rwa [World.size_alloc] at this
  have hD : Holds (((w.alloc (.cells (cellsOf .u64 5 f) 28)).alloc (.cells (cellsOf .u64 5 g) 28)).alloc (.cells #[.int .u64 0, .int .u64 0, .int .u64 0, .int .u64 0, .int .u64 0] 28)) (w.heap.size + 2) 28 .u64 5 (fun _ => 0) := by
    have := holds_alloc ((w.alloc (.cells (cellsOf .u64 5 f) 28)).alloc (.cells (cellsOf .u64 5 g) 28)) 28 .u64 5 (fun _ => 0) #[.int .u64 0, .int .u64 0, .int .u64 0, .int .u64 0, .int .u64 0] rfl
    rwa [World.size_alloc, World.size_alloc] at this
  have gr := grown_alloc (grown_alloc (World.grownBy_alloc w (.cells (cellsOf .u64 5 f) 28) none) (.cells (cellsOf .u64 5 g) 28)) (.cells #[.int .u64 0, .int .u64 0, .int .u64 0, .int .u64 0, .int .u64 0] 28)
  go_enter Try.func13, Try.ntmps13
  go_upto_region 1 with fail
  generalize ((w.alloc (.cells (cellsOf .u64 5 f) 28)).alloc (.cells (cellsOf .u64 5 g) 28)).alloc (.cells #[.int .u64 0, .int .u64 0, .int .u64 0, .int .u64 0, .int .u64 0] 28) = w1 at *
  have a0 := hA.cell 0 (by decide)
  have a1 := hA.cell 1 (by decide)
  have a2 := hA.cell 2 (by decide)
  have a3 := hA.cell 3 (by decide)
  have a4 := hA.cell 4 (by decide)
  generalize f 0 = f0 at *
  generalize f 1 = f1 at *
  generalize f 2 = f2 at *
  generalize f 3 = f3 at *
  generalize f 4 = f4 at *
  go_quiet (fail)
  go_wp2_with fail
  obtain ⟨w2, hw2⟩ : ∃ w2, w2 = w1.drewN nq := ⟨_, rfl⟩
  have g12 : w1.grownBy w2 none := by rw [hw2]; exact grown_drewN (grown_refl w1 none) nq
  have hB2 := hB.grown g12 (by simp)
  have hD2 := hD.grown g12 (by simp)
  have gr2 := grown_trans gr g12
  have HW2 := Lib.hid hw2.symm
  clear hw2 g12 hA hB hD gr a0 a1 a2 a3 a4
  rw [HW2.out]
  have a0 := hB2.cell 0 (by decide)
  have a1 := hB2.cell 1 (by decide)
  have a2 := hB2.cell 2 (by decide)
  have a3 := hB2.cell 3 (by decide)
  have a4 := hB2.cell 4 (by decide)
  generalize g 0 = g0 at *
  generalize g 1 = g1 at *
  generalize g 2 = g2 at *
  generalize g 3 = g3 at *
  generalize g 4 = g4 at *
  go_quiet (fail)
  go_upto_region 4 with fail
  obtain ⟨w3, hw3⟩ : ∃ w3, w3 = w2.drewN nq := ⟨_, rfl⟩
  have g23 : w2.grownBy w3 none := by rw [hw3]; exact grown_drewN (grown_refl w2 none) nq
  have hD3 := hD2.grown g23 (by simp)
  have gr3 := grown_trans gr2 g23
  have HW3 := Lib.hid hw3.symm
  clear hw3 g23 hB2 hD2 gr2 a0 a1 a2 a3 a4 ko1 ko2 ko3 ko4
  rw [HW3.out]
  go_wp2_with fail
  go_at_call 34
  refine (PA0.out _).mono ?_
  rintro e UA0 ⟨rfl, gg⟩
  replace hD3 := hD3.grown gg (by simp)
  replace gr3 := grown_trans gr3 gg
  clear gg
  go_wp2_with fail
  go_at_call 34
  refine (PA1.out _).mono ?_
  rintro e UA1 ⟨rfl, gg⟩
  replace hD3 := hD3.grown gg (by simp)
  replace gr3 := grown_trans gr3 gg
  clear gg
  go_wp2_with fail
  go_at_call 34
  refine (PA2.out _).mono ?_
  rintro e UA2 ⟨rfl, gg⟩
  replace hD3 := hD3.grown gg (by simp)
  replace gr3 := grown_trans gr3 gg
  clear gg
  go_wp2_with fail
  go_at_call 34
  refine (PA3.out _).mono ?_
  rintro e UA3 ⟨rfl, gg⟩
  replace hD3 := hD3.grown gg (by simp)
  replace gr3 := grown_trans gr3 gg
  clear gg
  go_wp2_with fail
  go_at_call 34
  refine (PA4.out _).mono ?_
  rintro e UA4 ⟨rfl, gg⟩
  replace hD3 := hD3.grown gg (by simp)
  replace gr3 := grown_trans gr3 gg
  clear gg
  have gg := World.grownBy_alloc UA4 (.cells #[.int .u64 (yA 0), .int .u64 (yA 1)] 65) none
  have hHA : Holds (UA4.alloc (.cells #[.int .u64 (yA 0), .int .u64 (yA 1)] 65)) UA4.heap.size 65 .u64 2 yA := holds_alloc UA4 65 .u64 2 yA _ rfl
  replace hD3 := hD3.grown gg (by simp)
  replace gr3 := grown_trans gr3 gg
  clear gg
  go_upto_region 5 with fail
  obtain ⟨pA, hpA⟩ : ∃ p, p = UA4.heap.size := ⟨_, rfl⟩
  generalize UA4.alloc (.cells #[.int .u64 (yA 0), .int .u64 (yA 1)] 65) = wA at *
  rw [← hpA] at hHA ⊢
  clear hpA
  go_wp2_with fail
  go_at_call 34
  refine (PB0.out _).mono ?_
  rintro e UB0 ⟨rfl, gg⟩
  replace hD3 := hD3.grown gg (by simp)
  replace gr3 := grown_trans gr3 gg
  replace hHA := hHA.grown gg (by simp)
  clear gg
  go_wp2_with fail
  go_at_call 34
  refine (PB1.out _).mono ?_
  rintro e UB1 ⟨rfl, gg⟩
  replace hD3 := hD3.grown gg (by simp)
  replace gr3 := grown_trans gr3 gg
  replace hHA := hHA.grown gg (by simp)
  clear gg
  go_wp2_with fail
  go_at_call 34
  refine (PB2.out _).mono ?_
  rintro e UB2 ⟨rfl, gg⟩
  replace hD3 := hD3.grown gg (by simp)
  replace gr3 := grown_trans gr3 gg
  replace hHA := hHA.grown gg (by simp)
  clear gg
  go_wp2_with fail
  go_at_call 34
  refine (PB3.out _).mono ?_
  rintro e UB3 ⟨rfl, gg⟩
  replace hD3 := hD3.grown gg (by simp)
  replace gr3 := grown_trans gr3 gg
  replace hHA := hHA.grown gg (by simp)
  clear gg
  go_wp2_with fail
  go_at_call 34
  refine (PB4.out _).mono ?_
  rintro e UB4 ⟨rfl, gg⟩
  replace hD3 := hD3.grown gg (by simp)
  replace gr3 := grown_trans gr3 gg
  replace hHA := hHA.grown gg (by simp)
  clear gg
  have gg := World.grownBy_alloc UB4 (.cells #[.int .u64 (yB 0), .int .u64 (yB 1)] 65) none
  have hHB : Holds (UB4.alloc (.cells #[.int .u64 (yB 0), .int .u64 (yB 1)] 65)) UB4.heap.size 65 .u64 2 yB := holds_alloc UB4 65 .u64 2 yB _ rfl
  replace hD3 := hD3.grown gg (by simp)
  replace gr3 := grown_trans gr3 gg
  replace hHA := hHA.grown gg (by simp)
  clear gg
  go_upto_region 6 with fail
  obtain ⟨pB, hpB⟩ : ∃ p, p = UB4.heap.size := ⟨_, rfl⟩
  generalize UB4.alloc (.cells #[.int .u64 (yB 0), .int .u64 (yB 1)] 65) = wB at *
  rw [← hpB] at hHB ⊢
  clear hpB
  go_wp2_with fail
  go_at_call 34
  refine (PC0.out _).mono ?_
  rintro e UC0 ⟨rfl, gg⟩
  replace hD3 := hD3.grown gg (by simp)
  replace gr3 := grown_trans gr3 gg
  replace hHA := hHA.grown gg (by simp)
  replace hHB := hHB.grown gg (by simp)
  clear gg
  go_wp2_with fail
  go_at_call 34
  refine (PC1.out _).mono ?_
  rintro e UC1 ⟨rfl, gg⟩
  replace hD3 := hD3.grown gg (by simp)
  replace gr3 := grown_trans gr3 gg
  replace hHA := hHA.grown gg (by simp)
  replace hHB := hHB.grown gg (by simp)
  clear gg
  go_wp2_with fail
  go_at_call 34
  refine (PC2.out _).mono ?_
  rintro e UC2 ⟨rfl, gg⟩
  replace hD3 := hD3.grown gg (by simp)
  replace gr3 := grown_trans gr3 gg
  replace hHA := hHA.grown gg (by simp)
  replace hHB := hHB.grown gg (by simp)
  clear gg
  go_wp2_with fail
  go_at_call 34
  refine (PC3.out _).mono ?_
  rintro e UC3 ⟨rfl, gg⟩
  replace hD3 := hD3.grown gg (by simp)
  replace gr3 := grown_trans gr3 gg
  replace hHA := hHA.grown gg (by simp)
  replace hHB := hHB.grown gg (by simp)
  clear gg
  go_wp2_with fail
  go_at_call 34
  refine (PC4.out _).mono ?_
  rintro e UC4 ⟨rfl, gg⟩
  replace hD3 := hD3.grown gg (by simp)
  replace gr3 := grown_trans gr3 gg
  replace hHA := hHA.grown gg (by simp)
  replace hHB := hHB.grown gg (by simp)
  clear gg
  have gg := World.grownBy_alloc UC4 (.cells #[.int .u64 (yC 0), .int .u64 (yC 1)] 65) none
  have hHC : Holds (UC4.alloc (.cells #[.int .u64 (yC 0), .int .u64 (yC 1)] 65)) UC4.heap.size 65 .u64 2 yC := holds_alloc UC4 65 .u64 2 yC _ rfl
  replace hD3 := hD3.grown gg (by simp)
  replace gr3 := grown_trans gr3 gg
  replace hHA := hHA.grown gg (by simp)
  replace hHB := hHB.grown gg (by simp)
  clear gg
  go_upto_region 7 with fail
  obtain ⟨pC, hpC⟩ : ∃ p, p = UC4.heap.size := ⟨_, rfl⟩
  generalize UC4.alloc (.cells #[.int .u64 (yC 0), .int .u64 (yC 1)] 65) = wC at *
  rw [← hpC] at hHC ⊢
  clear hpC
  go_wp2_with fail
  go_at_call 34
  refine (PD0.out _).mono ?_
  rintro e UD0 ⟨rfl, gg⟩
  replace hD3 := hD3.grown gg (by simp)
  replace gr3 := grown_trans gr3 gg
  replace hHA := hHA.grown gg (by simp)
  replace hHB := hHB.grown gg (by simp)
  replace hHC := hHC.grown gg (by simp)
  clear gg
  go_wp2_with fail
  go_at_call 34
  refine (PD1.out _).mono ?_
  rintro e UD1 ⟨rfl, gg⟩
  replace hD3 := hD3.grown gg (by simp)
  replace gr3 := grown_trans gr3 gg
  replace hHA := hHA.grown gg (by simp)
  replace hHB := hHB.grown gg (by simp)
  replace hHC := hHC.grown gg (by simp)
  clear gg
  go_wp2_with fail
  go_at_call 34
  refine (PD2.out _).mono ?_
  rintro e UD2 ⟨rfl, gg⟩
  replace hD3 := hD3.grown gg (by simp)
  replace gr3 := grown_trans gr3 gg
  replace hHA := hHA.grown gg (by simp)
  replace hHB := hHB.grown gg (by simp)
  replace hHC := hHC.grown gg (by simp)
  clear gg
  go_wp2_with fail
  go_at_call 34
  refine (PD3.out _).mono ?_
  rintro e UD3 ⟨rfl, gg⟩
  replace hD3 := hD3.grown gg (by simp)
  replace gr3 := grown_trans gr3 gg
  replace hHA := hHA.grown gg (by simp)
  replace hHB := hHB.grown gg (by simp)
  replace hHC := hHC.grown gg (by simp)
  clear gg
  go_wp2_with fail
  go_at_call 34
  refine (PD4.out _).mono ?_
  rintro e UD4 ⟨rfl, gg⟩
  replace hD3 := hD3.grown gg (by simp)
  replace gr3 := grown_trans gr3 gg
  replace hHA := hHA.grown gg (by simp)
  replace hHB := hHB.grown gg (by simp)
  replace hHC := hHC.grown gg (by simp)
  clear gg
  have gg := World.grownBy_alloc UD4 (.cells #[.int .u64 (yD 0), .int .u64 (yD 1)] 65) none
  have hHD : Holds (UD4.alloc (.cells #[.int .u64 (yD 0), .int .u64 (yD 1)] 65)) UD4.heap.size 65 .u64 2 yD := holds_alloc UD4 65 .u64 2 yD _ rfl
  replace hD3 := hD3.grown gg (by simp)
  replace gr3 := grown_trans gr3 gg
  replace hHA := hHA.grown gg (by simp)
  replace hHB := hHB.grown gg (by simp)
  replace hHC := hHC.grown gg (by simp)
  clear gg
  go_upto_region 8 with fail
  obtain ⟨pD, hpD⟩ : ∃ p, p = UD4.heap.size := ⟨_, rfl⟩
  generalize UD4.alloc (.cells #[.int .u64 (yD 0), .int .u64 (yD 1)] 65) = wD at *
  rw [← hpD] at hHD ⊢
  clear hpD
  go_wp2_with fail
  go_at_call 34
  refine (PE0.out _).mono ?_
  rintro e UE0 ⟨rfl, gg⟩
  replace hD3 := hD3.grown gg (by simp)
  replace gr3 := grown_trans gr3 gg
  replace hHA := hHA.grown gg (by simp)
  replace hHB := hHB.grown gg (by simp)
  replace hHC := hHC.grown gg (by simp)
  replace hHD := hHD.grown gg (by simp)
  clear gg
  go_wp2_with fail
  go_at_call 34
  refine (PE1.out _).mono ?_
  rintro e UE1 ⟨rfl, gg⟩
  replace hD3 := hD3.grown gg (by simp)
  replace gr3 := grown_trans gr3 gg
  replace hHA := hHA.grown gg (by simp)
  replace hHB := hHB.grown gg (by simp)
  replace hHC := hHC.grown gg (by simp)
  replace hHD := hHD.grown gg (by simp)
  clear gg
  go_wp2_with fail
  go_at_call 34
  refine (PE2.out _).mono ?_
  rintro e UE2 ⟨rfl, gg⟩
  replace hD3 := hD3.grown gg (by simp)
  replace gr3 := grown_trans gr3 gg
  replace hHA := hHA.grown gg (by simp)
  replace hHB := hHB.grown gg (by simp)
  replace hHC := hHC.grown gg (by simp)
  replace hHD := hHD.grown gg (by simp)
  clear gg
  go_wp2_with fail
  go_at_call 34
  refine (PE3.out _).mono ?_
  rintro e UE3 ⟨rfl, gg⟩
  replace hD3 := hD3.grown gg (by simp)
  replace gr3 := grown_trans gr3 gg
  replace hHA := hHA.grown gg (by simp)
  replace hHB := hHB.grown gg (by simp)
  replace hHC := hHC.grown gg (by simp)
  replace hHD := hHD.grown gg (by simp)
  clear gg
  go_wp2_with fail
  go_at_call 34
  refine (PE4.out _).mono ?_
  rintro e UE4 ⟨rfl, gg⟩
  replace hD3 := hD3.grown gg (by simp)
  replace gr3 := grown_trans gr3 gg
  replace hHA := hHA.grown gg (by simp)
  replace hHB := hHB.grown gg (by simp)
  replace hHC := hHC.grown gg (by simp)
  replace hHD := hHD.grown gg (by simp)
  clear gg
  have gg := World.grownBy_alloc UE4 (.cells #[.int .u64 (yE 0), .int .u64 (yE 1)] 65) none
  have hHE : Holds (UE4.alloc (.cells #[.int .u64 (yE 0), .int .u64 (yE 1)] 65)) UE4.heap.size 65 .u64 2 yE := holds_alloc UE4 65 .u64 2 yE _ rfl
  replace hD3 := hD3.grown gg (by simp)
  replace gr3 := grown_trans gr3 gg
  replace hHA := hHA.grown gg (by simp)
  replace hHB := hHB.grown gg (by simp)
  replace hHC := hHC.grown gg (by simp)
  replace hHD := hHD.grown gg (by simp)
  clear gg
  go_upto_region 9 with fail
  obtain ⟨pE, hpE⟩ : ∃ p, p = UE4.heap.size := ⟨_, rfl⟩
  generalize UE4.alloc (.cells #[.int .u64 (yE 0), .int .u64 (yE 1)] 65) = wE at *
  rw [← hpE] at hHE ⊢
  clear hpE
  refine wp_region_quiet_tail (C := fun W => wE.grownBy W none) 26 (by kernel_rfl) (by kernel_rfl) (grown_drew (grown_refl wE none)) ?_
  simp only [List.take_succ_cons, List.take_zero, List.drop_succ_cons, List.drop_zero]
  refine wpQ_val (some 142) (v := .agg #[.int .u64 (yA 0), .int .u64 (yA 1)]) rfl rfl (fun W hW => run_wide (hHA.grown hW (by simp)) rfl rfl) ?_
  simp only [Act.put, List.setIfInBounds_toArray, List.set_cons_succ, List.set_cons_zero]
  refine wpQ_call (some 143) 35 #[.agg #[.int .u64 (yA 0), .int .u64 (yA 1)]] (v := .int .u64 (rA : Nat)) rfl rfl (exec_fn1 _ _ _ rfl rfl) rest_enters (fun W hW => (RA.out W).mono fun e w' h => ⟨h.1, grown_trans hW h.2⟩) ?_
  simp only [Act.put, List.setIfInBounds_toArray, List.set_cons_succ, List.set_cons_zero]
  refine wpQ_val (some 144) (v := .agg #[.int .u64 (yE 0), .int .u64 (yE 1)]) rfl rfl (fun W hW => run_wide (hHE.grown hW (by simp)) rfl rfl) ?_
  simp only [Act.put, List.setIfInBounds_toArray, List.set_cons_succ, List.set_cons_zero]
  refine wpQ_call (some 145) 36 #[.agg #[.int .u64 (yE 0), .int .u64 (yE 1)]] (v := .int .u64 (cE : Nat)) rfl rfl (exec_fn1 _ _ _ rfl rfl) carry_enters (fun W hW => (CE.out W).mono fun e w' h => ⟨h.1, grown_trans hW h.2⟩) ?_
  simp only [Act.put, List.setIfInBounds_toArray, List.set_cons_succ, List.set_cons_zero]
  refine wpQ_val (some 146) (v := .int .u64 (IntKind.u64.wrap (19 * (cE : Int)))) rfl rfl (fun _ _ => by go_simp) ?_
  simp only [Act.put, List.setIfInBounds_toArray, List.set_cons_succ, List.set_cons_zero]
  refine wpQ_val (some 147) (v := .int .u64 (q 0 : Nat)) rfl rfl (fun _ _ => by have h := Z0.out; go_simp) ?_
  simp only [Act.put, List.setIfInBounds_toArray, List.set_cons_succ, List.set_cons_zero]
  refine wpQ_val (some 148) (v := .agg #[.int .u64 (yB 0), .int .u64 (yB 1)]) rfl rfl (fun W hW => run_wide (hHB.grown hW (by simp)) rfl rfl) ?_
  simp only [Act.put, List.setIfInBounds_toArray, List.set_cons_succ, List.set_cons_zero]
  refine wpQ_call (some 149) 35 #[.agg #[.int .u64 (yB 0), .int .u64 (yB 1)]] (v := .int .u64 (rB : Nat)) rfl rfl (exec_fn1 _ _ _ rfl rfl) rest_enters (fun W hW => (RB.out W).mono fun e w' h => ⟨h.1, grown_trans hW h.2⟩) ?_
  simp only [Act.put, List.setIfInBounds_toArray, List.set_cons_succ, List.set_cons_zero]
  refine wpQ_val (some 150) (v := .agg #[.int .u64 (yA 0), .int .u64 (yA 1)]) rfl rfl (fun W hW => run_wide (hHA.grown hW (by simp)) rfl rfl) ?_
  simp only [Act.put, List.setIfInBounds_toArray, List.set_cons_succ, List.set_cons_zero]
  refine wpQ_call (some 151) 36 #[.agg #[.int .u64 (yA 0), .int .u64 (yA 1)]] (v := .int .u64 (cA : Nat)) rfl rfl (exec_fn1 _ _ _ rfl rfl) carry_enters (fun W hW => (CA.out W).mono fun e w' h => ⟨h.1, grown_trans hW h.2⟩) ?_
  simp only [Act.put, List.setIfInBounds_toArray, List.set_cons_succ, List.set_cons_zero]
  refine wpQ_val (some 152) (v := .int .u64 (q 1 : Nat)) rfl rfl (fun _ _ => by have h := Z1.out; go_simp) ?_
  simp only [Act.put, List.setIfInBounds_toArray, List.set_cons_succ, List.set_cons_zero]
  refine wpQ_val (some 153) (v := .agg #[.int .u64 (yC 0), .int .u64 (yC 1)]) rfl rfl (fun W hW => run_wide (hHC.grown hW (by simp)) rfl rfl) ?_
  simp only [Act.put, List.setIfInBounds_toArray, List.set_cons_succ, List.set_cons_zero]
  refine wpQ_call (some 154) 35 #[.agg #[.int .u64 (yC 0), .int .u64 (yC 1)]] (v := .int .u64 (rC : Nat)) rfl rfl (exec_fn1 _ _ _ rfl rfl) rest_enters (fun W hW => (RC.out W).mono fun e w' h => ⟨h.1, grown_trans hW h.2⟩) ?_
  simp only [Act.put, List.setIfInBounds_toArray, List.set_cons_succ, List.set_cons_zero]
  refine wpQ_val (some 155) (v := .agg #[.int .u64 (yB 0), .int .u64 (yB 1)]) rfl rfl (fun W hW => run_wide (hHB.grown hW (by simp)) rfl rfl) ?_
  simp only [Act.put, List.setIfInBounds_toArray, List.set_cons_succ, List.set_cons_zero]
  refine wpQ_call (some 156) 36 #[.agg #[.int .u64 (yB 0), .int .u64 (yB 1)]] (v := .int .u64 (cB : Nat)) rfl rfl (exec_fn1 _ _ _ rfl rfl) carry_enters (fun W hW => (CB.out W).mono fun e w' h => ⟨h.1, grown_trans hW h.2⟩) ?_
  simp only [Act.put, List.setIfInBounds_toArray, List.set_cons_succ, List.set_cons_zero]
  refine wpQ_val (some 157) (v := .int .u64 (q 2 : Nat)) rfl rfl (fun _ _ => by have h := Z2.out; go_simp) ?_
  simp only [Act.put, List.setIfInBounds_toArray, List.set_cons_succ, List.set_cons_zero]
  refine wpQ_val (some 158) (v := .agg #[.int .u64 (yD 0), .int .u64 (yD 1)]) rfl rfl (fun W hW => run_wide (hHD.grown hW (by simp)) rfl rfl) ?_
  simp only [Act.put, List.setIfInBounds_toArray, List.set_cons_succ, List.set_cons_zero]
  refine wpQ_call (some 159) 35 #[.agg #[.int .u64 (yD 0), .int .u64 (yD 1)]] (v := .int .u64 (rD : Nat)) rfl rfl (exec_fn1 _ _ _ rfl rfl) rest_enters (fun W hW => (RD.out W).mono fun e w' h => ⟨h.1, grown_trans hW h.2⟩) ?_
  simp only [Act.put, List.setIfInBounds_toArray, List.set_cons_succ, List.set_cons_zero]
  refine wpQ_val (some 160) (v := .agg #[.int .u64 (yC 0), .int .u64 (yC 1)]) rfl rfl (fun W hW => run_wide (hHC.grown hW (by simp)) rfl rfl) ?_
  simp only [Act.put, List.setIfInBounds_toArray, List.set_cons_succ, List.set_cons_zero]
  refine wpQ_call (some 161) 36 #[.agg #[.int .u64 (yC 0), .int .u64 (yC 1)]] (v := .int .u64 (cC : Nat)) rfl rfl (exec_fn1 _ _ _ rfl rfl) carry_enters (fun W hW => (CC.out W).mono fun e w' h => ⟨h.1, grown_trans hW h.2⟩) ?_
  simp only [Act.put, List.setIfInBounds_toArray, List.set_cons_succ, List.set_cons_zero]
  refine wpQ_val (some 162) (v := .int .u64 (q 3 : Nat)) rfl rfl (fun _ _ => by have h := Z3.out; go_simp) ?_
  simp only [Act.put, List.setIfInBounds_toArray, List.set_cons_succ, List.set_cons_zero]
  refine wpQ_val (some 163) (v := .agg #[.int .u64 (yE 0), .int .u64 (yE 1)]) rfl rfl (fun W hW => run_wide (hHE.grown hW (by simp)) rfl rfl) ?_
  simp only [Act.put, List.setIfInBounds_toArray, List.set_cons_succ, List.set_cons_zero]
  refine wpQ_call (some 164) 35 #[.agg #[.int .u64 (yE 0), .int .u64 (yE 1)]] (v := .int .u64 (rE : Nat)) rfl rfl (exec_fn1 _ _ _ rfl rfl) rest_enters (fun W hW => (RE.out W).mono fun e w' h => ⟨h.1, grown_trans hW h.2⟩) ?_
  simp only [Act.put, List.setIfInBounds_toArray, List.set_cons_succ, List.set_cons_zero]
  refine wpQ_val (some 165) (v := .agg #[.int .u64 (yD 0), .int .u64 (yD 1)]) rfl rfl (fun W hW => run_wide (hHD.grown hW (by simp)) rfl rfl) ?_
  simp only [Act.put, List.setIfInBounds_toArray, List.set_cons_succ, List.set_cons_zero]
  refine wpQ_call (some 166) 36 #[.agg #[.int .u64 (yD 0), .int .u64 (yD 1)]] (v := .int .u64 (cD : Nat)) rfl rfl (exec_fn1 _ _ _ rfl rfl) carry_enters (fun W hW => (CD.out W).mono fun e w' h => ⟨h.1, grown_trans hW h.2⟩) ?_
  simp only [Act.put, List.setIfInBounds_toArray, List.set_cons_succ, List.set_cons_zero]
  refine wpQ_val (some 167) (v := .int .u64 (q 4 : Nat)) rfl rfl (fun _ _ => by have h := Z4.out; go_simp) ?_
  simp only [Act.put, List.setIfInBounds_toArray, List.set_cons_succ, List.set_cons_zero]
  refine wpQuiet_nil ?_
  intro W hW
  have hD4 := hD3.grown hW (by simp)
  have gr4 := grown_trans gr3 hW
  go_wp2_with fail
  go_at_call 32
  refine (HC.out _).mono ?_
  rintro e w' ⟨rfl, gV⟩
  rw [HCar.out] at *
  have hD5 := hD4.grown gV (by simp)
  go_wp2_with (refine wpList_store_row rfl 28 (.tmp 4) (.tmp 168) rfl (w.heap.size + 2) _ rfl rfl 28 _ hD5.block (by rw [cellsOf_size]; kernel_rfl) rfl (cellsOf_all _ _ _) ?_)
  exact bodyPost_ret (res_row rfl rfl (hD5.setRow .u64 5 _) (by kernel_rfl) (by kernel_rfl)) rfl ⟨rfl, grown_setRow_new (grown_trans gr4 gV) _ _ (Or.inl (by omega))⟩
end Go.Proofs.Ytpnddojcihdniaa
