/-
  The document's functions of layer 3 on bytes: products, powers of two, bits.
-/
import Derived.Test.YtapmpjmhcloejaaDoorRefAesMath
import Derived.Test.YtapmpjmhcloejaaDoorAesLeaf
namespace Go.Proofs.YtapmpjmhcloejaaDoor
open Go.RowKit

set_option maxRecDepth 100000
set_option maxHeartbeats 1000000

theorem times_any (A B : Nat) (w : World) (hA : A < 256) (hB : B < 256) : Calls Tryd.prog 21 #[.int .u8 A, .int .u8 B] w fun e w' => e = .returned (.int .u8 (tms A B : Nat)) ∧ w = w' := by
  obtain ⟨T, hT⟩ : ∃ T, T = tms A B := ⟨_, rfl⟩
  have HT := Lib.hid hT
  rw [← hT]
  clear hT
  go_enter Tryd.func21, Tryd.ntmps21
  go_wp2_with fail
  go_loop [0, 1, 5] (fun u0 u1 u5 => ∃ (k o a b : Nat), u0 = .int .u8 a ∧ u1 = .int .u8 b ∧ u5 = .int .u8 o ∧ o < 256 ∧ a < 256 ∧ b < 2 ^ k ∧ b < 256 ∧ Hid (tmsF k o a b = T)) (fun _ u1 _ => (intOf u1).toNat)
  case atStart => exact ⟨8, 0, A, B, rfl, rfl, rfl, by decide, hA, hB, hB, Lib.hid HT.out.symm⟩
  case round =>
    obtain ⟨k, o, a, b, rfl, rfl, rfl, ho, ha, hb, hb8, HE⟩ := hrel
    clear hA hB
    by_cases h0 : b = 0
    · subst h0
      have hE := HE.out
      rw [tmsF_zero] at hE
      subst hE
      clear HE
      go_wp2_with fail
      go_ret
      exact ⟨rfl, rfl⟩
    · obtain ⟨k', rfl⟩ : ∃ k', k = k' + 1 := ⟨k - 1, by
        cases k with
        | zero => simp at hb; omega
        | succ k => rfl⟩
      have i1 : (0 : Int) < b := by omega
      have hb2 : b / 2 < 2 ^ k' := by rw [Nat.pow_succ] at hb; omega
      have hx := xt_lt a ha
      have hE : tmsF k' (o ^^^ a * (b % 2)) (xt a) (b / 2) = T := HE.out
      have hm := xor_lt256 ho (mul_bit a b ha)
      have hbs : b / 2 < b := by omega
      have e1 : IntKind.u8.wrap ((b : Int) / 2) = ((b / 2 : Nat) : Int) := by rw [IntKind.wrap_u8]; omega
      obtain ⟨r, hr⟩ : ∃ r, r = b % 2 := ⟨_, rfl⟩
      have e2 : (b : Int).tmod 2 = (r : Int) := by rw [Int.tmod_eq_emod_of_nonneg (by omega)]; omega
      rw [← hr] at hE hm
      have hr2 : r < 2 := by rw [hr]; exact Nat.mod_lt _ (by decide)
      have HEE := Lib.hid hE
      have Hx := Lib.hid hx
      have Hm := Lib.hid hm
      have Hb2 := Lib.hid hb2
      have HO := Lib.hid (bits_xor_u8 o a ho ha)
      have HA := Lib.hid ha
      clear hE hx hm hb2 hr HE hb
      by_cases h128 : a < 128
      · have j1 : (a : Int) < 128 := by omega
        have e3 : IntKind.u8.wrap (2 * (a : Int)) = ((xt a : Nat) : Int) := by
          rw [IntKind.wrap_u8]
          unfold xt
          rw [show a / 128 = 0 by omega, Nat.zero_mul, Nat.xor_zero]; omega
        generalize xt a = x at *
        obtain rfl | rfl : r = 0 ∨ r = 1 := by omega
        · rw [Nat.mul_zero, Nat.xor_zero] at HEE
          go_wp2_with fail
          exact ⟨⟨k', o, x, b / 2, by go_num, by go_num, rfl, ho, Hx.out, Hb2.out, by omega, HEE⟩, by simp [intOf]; omega⟩
        · rw [Nat.mul_one] at HEE Hm
          have hO := HO.out
          generalize o ^^^ a = y at *
          go_wp2_with fail
          exact ⟨⟨k', y, x, b / 2, by go_num, by go_num, rfl, Hm.out, Hx.out, Hb2.out, by omega, HEE⟩, by simp [intOf]; omega⟩
      · have j1 : (128 : Int) ≤ a := by omega
        obtain ⟨z, hz⟩ : ∃ z, z = 2 * a % 256 := ⟨_, rfl⟩
        have e3 : IntKind.u8.wrap (2 * (a : Int)) = (z : Int) := by rw [IntKind.wrap_u8]; omega
        have e4 : bits .xor .u8 (z : Int) 27 = ((xt a : Nat) : Int) := by
          have := bits_xor_u8 z 27 (by omega) (by decide)
          have e5 : xt a = z ^^^ 27 := by
            unfold xt
            rw [show a / 128 = 1 by omega, Nat.one_mul, hz]
          rw [e5, ← this]; rfl
        have hz2 : z < 256 := by omega
        clear hz
        generalize xt a = x at *
        obtain rfl | rfl : r = 0 ∨ r = 1 := by omega
        · rw [Nat.mul_zero, Nat.xor_zero] at HEE
          go_wp2_with fail
          exact ⟨⟨k', o, x, b / 2, by go_num, by go_num, rfl, ho, Hx.out, Hb2.out, by omega, HEE⟩, by simp [intOf]; omega⟩
        · rw [Nat.mul_one] at HEE Hm
          have hO := HO.out
          generalize o ^^^ a = y at *
          go_wp2_with fail
          exact ⟨⟨k', y, x, b / 2, by go_num, by go_num, rfl, Hm.out, Hx.out, Hb2.out, by omega, HEE⟩, by simp [intOf]; omega⟩

theorem power3_any (n P : Nat) (hn : n < 8) (hP : P = 2 ^ n) (w : World) : Calls Tryd.prog 23 #[.int .i64 n] w fun e w' => e = .returned (.int .u8 P) ∧ w = w' := by
  have HP := Lib.hid hP
  clear hP
  go_enter Tryd.func23, Tryd.ntmps23
  go_wp2_with fail
  go_loop [3, 4] (fun u3 u4 => ∃ (k p : Nat), k ≤ n ∧ u4 = .int .i64 k ∧ u3 = .int .u8 p ∧ Hid (p = 2 ^ k)) (fun _ u4 => n - (intOf u4).toNat)
  case atStart => exact ⟨0, 1, by omega, rfl, rfl, rfl⟩
  case round =>
    obtain ⟨k, p, hk, rfl, rfl, hp⟩ := hrel
    by_cases hlt : k < n
    · have i1 : (k : Int) < n := by omega
      have hb : p ≤ 2 ^ 6 := by rw [hp.out]; exact Nat.pow_le_pow_right (by decide) (by omega)
      have e1 : IntKind.u8.wrap (2 * (p : Int)) = ((2 * p : Nat) : Int) := by rw [IntKind.wrap_u8]; omega
      have HB := Lib.hid hb
      clear hb
      go_wp2_with fail
      refine ⟨⟨k + 1, 2 * p, by omega, by go_num, by go_num, Lib.hid (by rw [hp.out, Nat.pow_succ, Nat.mul_comm])⟩, by simp [intOf]; omega⟩
    · have hE : k = n := by omega
      have i1 : (n : Int) ≤ k := by omega
      have HE := Lib.hid hE
      clear hE hlt hk
      go_wp2_with fail
      go_ret
      have e : p = P := by rw [hp.out, HE.out, HP.out]
      exact ⟨by rw [← e]; rfl, rfl⟩

theorem bit_any (b i v : Nat) (hb : b < 256) (hi : i < 8) (hv : v = b / 2 ^ i % 2) (w : World) : Calls Tryd.prog 22 #[.int .u8 b, .int .i64 i] w fun e w' => e = .returned (.int .i64 v) ∧ w = w' := by
  obtain ⟨P, hP⟩ : ∃ P, P = 2 ^ i := ⟨_, rfl⟩
  have hp := power3_any i P hi hP w
  have HPw := Lib.hid hp
  have hP0 : 0 < P := by rw [hP]; exact Nat.two_pow_pos i
  rw [← hP] at hv
  have hP1 : (P : Int) ≠ 0 := by omega
  have hP2 : ((P : Int) == 0) = false := by rw [beq_eq_false_iff_ne]; exact hP1
  obtain ⟨q, hq⟩ : ∃ q, q = b / P := ⟨_, rfl⟩
  have e1 : (b : Int) / (P : Int) = (q : Int) := by rw [hq]; norm_cast
  have hq2 : q < 256 := by rw [hq]; exact Nat.lt_of_le_of_lt (Nat.div_le_self _ _) hb
  have e2 : (q : Int).tmod 2 = (v : Int) := by rw [hv, ← hq, Int.tmod_eq_emod_of_nonneg (by omega)]; omega
  have hv2 : (v : Int) < 2 := by rw [hv]; omega
  clear hP hp hv hq
  go_enter Tryd.func22, Tryd.ntmps22
  go_wp2_with (go_at_call 23; (with_reducible refine (HPw.out).mono ?_); rintro e w' ⟨rfl, rfl⟩)
  go_ret
  exact ⟨rfl, rfl⟩

end Go.Proofs.YtapmpjmhcloejaaDoor
