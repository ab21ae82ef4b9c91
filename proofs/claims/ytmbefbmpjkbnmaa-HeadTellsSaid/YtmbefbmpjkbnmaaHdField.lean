/-
  head's takeField.
-/
import Derived.Test.YtmbefbmpjkbnmaaHdNib
import Derived.Test.YtmbefbmpjkbnmaaSliceQ
namespace Go.Proofs.Ytmbefbmpjkbnmaa
open Go.RowKit

set_option maxRecDepth 100000
set_option maxHeartbeats 4000000

theorem or_next (n x i : Nat) (hn : n < 256 ^ i) (hx : x < 256) (hi7 : i ≤ 7) : bits .or .u64 (IntKind.u64.wrap ((n : Int) * 256)) (IntKind.u64.wrap (x : Int)) = ((256 * n + x : Nat) : Int) := by
  have h1 : (256 : Nat) ^ i ≤ 256 ^ 7 := Nat.pow_le_pow_right (by decide) hi7
  rw [show (256 : Nat) ^ 7 = 72057594037927936 from rfl] at h1
  have e : IntKind.u64.wrap ((n : Int) * 256) = ((256 * n : Nat) : Int) := by rw [IntKind.wrap_u64]; omega
  have e2 : IntKind.u64.wrap (x : Int) = (x : Int) := by rw [IntKind.wrap_u64]; omega
  rw [e, e2, bits_or_u64_nat _ _ (by omega) (by omega)]
  have := Nat.two_pow_add_eq_or_of_lt (i := 8) (b := x) (by omega) n
  rw [show (2 : Nat) ^ 8 = 256 from rfl] at this
  rw [this]
theorem takeField_any (d L c D : Nat) (a : Option Addr) (F : Nat → Nat) (w : World) (hd : d < 16) (hR : Rd w D a L F) (hF : ∀ i, F i < 256) (hc : L ≤ c) :
    Calls Try.prog 118 #[.int .u8 d, .slice a L c] w fun e w' => e = .returned (.tuple #[.int .u64 (tfN d L F : Nat), .bool (tfOk d L F)]) ∧ w = w' := by
  by_cases h : d < 8
  · have j1 : (d : Int) < 8 := by omega
    have e1 : tfN d L F = d := by unfold tfN; rw [if_pos h]
    have e2 : tfOk d L F = true := by unfold tfOk; rw [if_pos h]
    rw [e1, e2]
    clear e1 e2 hR hF hd h hc
    go_enter Try.func118, Try.ntmps118
    go_wp2_with fail
    go_ret2
    exact ⟨rfl, rfl⟩
  · have j1 : ¬ (d : Int) < 8 := by omega
    have hb8 := behN_le d hd
    have hB := behind_any d w hd
    obtain ⟨b, hb⟩ : ∃ b, b = behN d := ⟨_, rfl⟩
    have e1 : tfN d L F = if L < b then 0 else ofB8 F b := by unfold tfN; rw [if_neg h, hb]
    have e2 : tfOk d L F = if L < b then false else nibN (ofB8 F b) == d := by unfold tfOk; rw [if_neg h, hb]
    rw [← hb] at hB hb8
    have HB := Lib.hid hB
    rw [e1, e2]
    by_cases hs : L < b
    · have j2 : (L : Int) < b := by omega
      rw [if_pos hs, if_pos hs]
      clear hR hF hd h hc hb8 hB hb e1 e2 hs
      go_enter Try.func118, Try.ntmps118
      go_wp2_with fail
      go_at_call 119
      with_reducible refine (HB.out).mono ?_
      rintro e w' ⟨rfl, rfl⟩
      clear HB
      go_wp2_with fail
      go_ret2
      exact ⟨rfl, rfl⟩
    · have j2 : ¬ (L : Int) < b := by omega
      rw [if_neg hs, if_neg hs]
      have x0 : (Instr.slice 39 (.slice a L c) none (some (.int .i64 (b : Int))) none).run Try.prog w = .ok (.slice a b c) w := run_aheadQ a L c b hc (by omega) w
      have hN := nibbleOf_any (ofB8 F b) w (by
        have h1 := ofB8_lt F hF b
        have h2 := pow256 b hb8
        omega)
      have hR2 : Rd w D a b F := ⟨fun h0 => by
        obtain ⟨tb, o, p1, p2, p3⟩ := hR.ex (by omega)
        exact ⟨tb, o, p1, p2, fun i hi => p3 i (by omega)⟩⟩
      have h1 : 1 ≤ b := by rw [hb]; unfold behN; rw [if_neg h]; omega
      have HN := Lib.hid hN
      have HR := Lib.hid hR2
      have HF := Lib.hid hF
      have Hb8 := Lib.hid hb8
      have j3 : (b : Int) ≤ 8 := by omega
      obtain ⟨q, hq⟩ : ∃ q, q = (nibN (ofB8 F b) == d) := ⟨_, rfl⟩
      rw [← hq]
      have hqi : (((nibN (ofB8 F b) : Nat) : Int) == (d : Int)) = q := by
        rw [hq, Bool.eq_iff_iff]
        simp
        omega
      have HQ := Lib.hid hqi
      obtain ⟨tb, o, rfl, p2, p3⟩ := hR2.ex h1
      have HC := Lib.hid p3
      clear hR hF hd h hc hb8 hB hb e1 e2 hs hN hR2 hq hqi p2 p3
      go_enter Try.func118, Try.ntmps118
      go_wp2_with fail
      go_at_call 119
      with_reducible refine (HB.out).mono ?_
      rintro e w' ⟨rfl, rfl⟩
      clear HB
      go_wp2_with fail
      clear x0
      go_loop [7, 9, 24] (fun u7 _ u24 => ∃ i : Nat, i ≤ b ∧ u24 = .int .i64 i ∧ u7 = .int .u64 (ofB8 F i : Nat)) (fun _ _ u24 => b - (intOf u24).toNat)
      case atStart => exact ⟨0, by omega, rfl, rfl⟩
      case round =>
        obtain ⟨i, hi, rfl, rfl⟩ := hrel
        by_cases hlt : i < b
        · have j4 : (i : Int) < b := by omega
          have cx := HC.out i hlt
          have hz := or_next (ofB8 F i) (F i) i (ofB8_lt F HF.out i) (HF.out i) (by have := Hb8.out; omega)
          have e3 : ofB8 F (i + 1) = 256 * ofB8 F i + F i := rfl
          rw [← e3] at hz
          obtain ⟨n1, hn1⟩ : ∃ n, n = ofB8 F (i + 1) := ⟨_, rfl⟩
          rw [← hn1] at hz
          have HN1 := Lib.hid hn1
          have HLT := Lib.hid hlt
          clear hn1 e3 hlt hi
          go_wp2_with fail
          go_round
          case rel => exact ⟨i + 1, by have := HLT.out; omega, by go_num, by first | rw [HN1.out] | rw [hz, HN1.out]⟩
          case measure => have := HLT.out; simp [intOf]; omega
        · obtain rfl : i = b := by omega
          clear hlt hi
          have hqi := HQ.out
          go_wp2_with fail
          go_at_call 140
          with_reducible refine (HN.out).mono ?_
          rintro e w' ⟨rfl, rfl⟩
          go_wp2_with fail
          go_ret2
          exact ⟨rfl, rfl⟩
end Go.Proofs.Ytmbefbmpjkbnmaa
