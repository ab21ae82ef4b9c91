/-
  S of a byte, as the document has it.
-/
import Derived.Test.YtbjmgolkgpdenaaDoorRefAes1
import Derived.Deep.DeepCutAuto
namespace Go.Proofs.YtbjmgolkgpdenaaDoor
open Go.RowKit

set_option maxRecDepth 100000
set_option maxHeartbeats 1000000

def kL : List Nat := [0, 4, 5, 6, 7]
def affS (y i : Nat) : Nat → Nat
  | 0 => 0
  | j + 1 => affS y i j + y / 2 ^ ((i + kL.getD j 0) % 8) % 2
theorem affS_le (y i : Nat) : ∀ j, affS y i j ≤ j
  | 0 => by simp [affS]
  | j + 1 => by
    have := affS_le y i j
    unfold affS
    omega
theorem affS_end (y i : Nat) (hi : i < 8) : affS y i 5 + 99 / 2 ^ i % 2 = affN y i := by
  unfold affN
  show 0 + y / 2 ^ ((i + 0) % 8) % 2 + y / 2 ^ ((i + 4) % 8) % 2 + y / 2 ^ ((i + 5) % 8) % 2 + y / 2 ^ ((i + 6) % 8) % 2 + y / 2 ^ ((i + 7) % 8) % 2 + 99 / 2 ^ i % 2 = _
  rw [Nat.zero_add, Nat.add_zero, Nat.mod_eq_of_lt hi]
theorem kL_lt (j : Nat) : kL.getD j 0 < 8 := getD_lt 8 (by decide) kL (by decide) j

theorem tmsF_none : ∀ k b, tmsF k 0 0 b = 0
  | 0, _ => rfl
  | k + 1, b => by
    show tmsF k (0 ^^^ 0 * (b % 2)) (xt 0) (b / 2) = 0
    rw [Nat.zero_mul]
    exact tmsF_none k (b / 2)
theorem invTo_none : ∀ i, invTo 0 i = 0
  | 0 => rfl
  | i + 1 => by
    unfold invTo
    rw [if_neg (by unfold tms; rw [tmsF_none]; decide)]
    exact invTo_none i

/-- One bit more of S. -/
theorem aff_step (y i : Nat) : aff y (i + 1) = aff y i + affN y i % 2 * 2 ^ i := rfl

theorem rs_any (b : Nat) (w : World) (hb : b < 256) : Calls Tryd.prog 7 #[.int .u8 b] w fun e w' => e = .returned (.int .u8 (sB b : Nat)) ∧ w.grownBy w' none := by
  obtain ⟨s, hs⟩ : ∃ s, s = sB b := ⟨_, rfl⟩
  have hres := aff_inv b hb
  rw [← hs] at hres ⊢
  have HRes := Lib.hid hres
  clear hres hs
  go_enter Tryd.func7, Tryd.ntmps7
  go_wp2_with fail
  go_loop [3, 4] (fun u3 u4 => ∃ (i y : Nat), 1 ≤ i ∧ i ≤ 256 ∧ u4 = .int .i64 i ∧ u3 = .int .u8 y ∧ Hid (y = invTo b i)) (fun _ u4 => 256 - (intOf u4).toNat)
  case atStart => exact ⟨1, 0, by omega, by omega, rfl, rfl, Lib.hid (by
    show 0 = if tms b 0 = 1 then 0 else invTo b 0
    split <;> rfl)⟩
  case round =>
    obtain ⟨i, y, hi1, hi, rfl, rfl, hy⟩ := hrel
    by_cases hgo : i < 256 ∧ 0 < b
    · obtain ⟨h1, h2⟩ := hgo
      have j1 : (i : Int) < 256 := by omega
      have j2 : (0 : Int) < b := by omega
      have ht := times_any b i w hb h1
      have HT := Lib.hid ht
      have hn : invTo b (i + 1) = if tms b i = 1 then i else invTo b i := rfl
      rw [← hy.out] at hn
      have HN := Lib.hid hn
      clear ht hn
      by_cases he : tms b i = 1
      · have hN := HN.out
        rw [if_pos he] at hN
        rw [he] at HT
        have HN2 := Lib.hid hN
        clear he hN HN
        go_wp2_with (go_at_call 14; (with_reducible refine (HT.out).mono ?_); rintro e w' ⟨rfl, rfl⟩)
        exact ⟨⟨i + 1, i, by omega, by omega, by go_num, rfl, Lib.hid HN2.out.symm⟩, by simp [intOf]; omega⟩
      · have hN := HN.out
        rw [if_neg he] at hN
        have he2 : ((tms b i : Nat) : Int) ≠ 1 := by omega
        have he3 : (((tms b i : Nat) : Int) == 1) = false := by rw [beq_eq_false_iff_ne]; exact he2
        generalize tms b i = z at *
        have HN2 := Lib.hid hN
        clear he hN HN
        go_wp2_with (go_at_call 14; (with_reducible refine (HT.out).mono ?_); rintro e w' ⟨rfl, rfl⟩)
        exact ⟨⟨i + 1, y, by omega, by omega, by go_num, rfl, Lib.hid HN2.out.symm⟩, by simp [intOf]; omega⟩
    · have hyv : y = inv b := by
        rw [hy.out]
        by_cases h0 : 0 < b
        · have : i = 256 := by omega
          rw [this]; exact invTo_end b hb h0
        · have h00 : b = 0 := by omega
          rw [h00]
          exact invTo_none i
      have hcase : (256 : Int) ≤ i ∨ ((i : Int) < 256 ∧ b = 0) := by omega
      have hy8 : y < 256 := by rw [hyv]; exact inv_lt b
      rw [← hyv] at HRes
      clear hyv hgo hy hi1 hi
      have hw0 := grown_refl w none
      rcases hcase with j1 | ⟨j1, rfl⟩
      all_goals
        go_wp2_with fail
        go_loopw [5, 6] (fun u5 u6 wr => ∃ i : Nat, i ≤ 8 ∧ u6 = .int .i64 i ∧ u5 = .int .u8 (aff y i : Nat) ∧ w.grownBy wr none) (fun _ u6 _ => 8 - (intOf u6).toNat)
        case atStart => exact ⟨0, by omega, rfl, rfl, hw0⟩
        case round =>
          obtain ⟨i, hi, rfl, rfl, hgr⟩ := hrel
          by_cases hlt : i < 8
          · have q1 : (i : Int) < 8 := by omega
            go_wp2_with fail
            have gb := grown_alloc hgr (.cells #[.int .i64 0, .int .i64 4, .int .i64 5, .int .i64 6, .int .i64 7] 3)
            have bb := heap_alloc_new wr (.cells #[.int .i64 0, .int .i64 4, .int .i64 5, .int .i64 6, .int .i64 7] 3)
            have hcell : ∀ j, j < 5 → (wr.alloc (.cells #[.int .i64 0, .int .i64 4, .int .i64 5, .int .i64 6, .int .i64 7] 3)).cell? ⟨wr.heap.size, j, none⟩ = some (.int .i64 (kL.getD j 0 : Nat)) := fun j hj => by
              rw [cell_of_row _ _ _ _ _ _ bb]
              obtain rfl | rfl | rfl | rfl | rfl : j = 0 ∨ j = 1 ∨ j = 2 ∨ j = 3 ∨ j = 4 := by omega
              all_goals rfl
            generalize wr.alloc (.cells #[.int .i64 0, .int .i64 4, .int .i64 5, .int .i64 6, .int .i64 7] 3) = w2 at *
            have HCell := Lib.hid hcell
            clear bb hgr hcell
            have Hgb := Lib.hid gb
            clear gb
            obtain ⟨o, ho⟩ : ∃ o, o = aff y i := ⟨_, rfl⟩
            rw [← ho]
            have HO := Lib.hid ho
            clear ho
            go_loop [7, 9, 31] (fun u7 _ u31 => ∃ j : Nat, j ≤ 5 ∧ u31 = .int .i64 j ∧ u7 = .int .i64 (affS y i j : Nat)) (fun _ _ u31 => 5 - (intOf u31).toNat)
            case atStart => exact ⟨0, by omega, rfl, rfl⟩
            case round =>
              obtain ⟨j, hj, rfl, rfl⟩ := hrel
              have hl := affS_le y i j
              by_cases hjl : j < 5
              · have q2 : (j : Int) < 5 := by omega
                have c1 := HCell.out j hjl
                have hk := kL_lt j
                have hn : affS y i (j + 1) = affS y i j + y / 2 ^ ((i + kL.getD j 0) % 8) % 2 := rfl
                generalize kL.getD j 0 = k at *
                obtain ⟨m, hm⟩ : ∃ m, m = (i + k) % 8 := ⟨_, rfl⟩
                have e1 : ((i : Int) + (k : Int)).tmod 8 = (m : Int) := by rw [Int.tmod_eq_emod_of_nonneg (by omega)]; omega
                rw [← hm] at hn
                obtain ⟨v, hv⟩ : ∃ v, v = y / 2 ^ m % 2 := ⟨_, rfl⟩
                rw [← hv] at hn
                have hb1 := bit_any y m v hy8 (by omega) hv w2
                have hv2 : v < 2 := by omega
                have HB := Lib.hid hb1
                have HN := Lib.hid hn
                have q3 : (k : Int) < 8 := by omega
                generalize affS y i j = x at *
                have q4 : (x : Int) ≤ 5 := by omega
                have q5 : (v : Int) < 2 := by omega
                clear hn hb1 hv hm hk hl
                go_wp2_with (go_at_call 15; (with_reducible refine (HB.out).mono ?_); rintro e w' ⟨rfl, rfl⟩)
                first
                  | exact ⟨⟨j + 1, by omega, by go_num, by rw [HN.out]; go_num⟩, by simp [intOf]; omega⟩
                  | (go_roundw
                     case rel => first | exact ⟨j + 1, by omega, by go_num, by rw [HN.out]; go_num⟩ | ((repeat apply Exists.intro); exact ⟨⟨j + 1, by omega, by go_num, by rw [HN.out]; go_num⟩, rfl⟩)
                     case measure => simp [intOf]; omega)
              · obtain rfl : j = 5 := by omega
                obtain ⟨v, hv⟩ : ∃ v, v = 99 / 2 ^ i % 2 := ⟨_, rfl⟩
                have hb1 := bit_any 99 i v (by decide) hlt hv w2
                have hv2 : v < 2 := by rw [hv]; exact Nat.mod_lt _ (by decide)
                have hE := affS_end y i hlt
                rw [← hv] at hE
                have hst := aff_step y i
                rw [← HO.out, ← hE] at hst
                have hlo := aff_lt y i
                rw [← HO.out] at hlo
                obtain ⟨p, hp⟩ : ∃ p, p = 2 ^ i := ⟨_, rfl⟩
                have hpw := power3_any i p hlt hp w2
                rw [← hp] at hst hlo
                have hp8 : p ≤ 128 := by rw [hp]; exact Nat.pow_le_pow_right (by decide) (by omega : i ≤ 7)
                have HB : Hid (Calls Tryd.prog 15 #[.int .u8 99, .int .i64 i] w2 fun e w' => e = .returned (.int .i64 v) ∧ w2 = w') := Lib.hid hb1
                have HP := Lib.hid hpw
                generalize affS y i 5 = x at *
                obtain ⟨c, hc⟩ : ∃ c, c = (x + v) % 2 := ⟨_, rfl⟩
                have q4 : (x : Int) ≤ 5 := by omega
                have q5 : (v : Int) < 2 := by omega
                have e1 : ((x : Int) + (v : Int)).tmod 2 = (c : Int) := by rw [Int.tmod_eq_emod_of_nonneg (by omega)]; omega
                have e2 : IntKind.u8.wrap ((o : Int) + (p : Int)) = ((o + p : Nat) : Int) := by rw [IntKind.wrap_u8]; omega
                rw [← hc] at hst
                have hc2 : c = 0 ∨ c = 1 := by omega
                have HS := Lib.hid hst
                clear hst hb1 hpw hE hv hp hc hjl hj hl hp8 hlo
                rcases hc2 with rfl | rfl
                · go_wp2_with (first
                    | (go_at_call 15; (with_reducible refine (HB.out).mono ?_); rintro e w' ⟨rfl, rfl⟩)
                    | (go_at_call 16; (with_reducible refine (HP.out).mono ?_); rintro e w' ⟨rfl, rfl⟩))
                  go_roundw
                  case rel => first | exact ⟨i + 1, by omega, by go_num, by rw [HS.out]; simp, Hgb.out⟩ | ((repeat apply Exists.intro); exact ⟨⟨i + 1, by omega, by go_num, by rw [HS.out]; simp, Hgb.out⟩, rfl⟩)
                  case measure => simp [intOf]; omega
                · go_wp2_with (first
                    | (go_at_call 15; (with_reducible refine (HB.out).mono ?_); rintro e w' ⟨rfl, rfl⟩)
                    | (go_at_call 16; (with_reducible refine (HP.out).mono ?_); rintro e w' ⟨rfl, rfl⟩))
                  go_roundw
                  case rel => first | exact ⟨i + 1, by omega, by go_num, by rw [HS.out]; go_num, Hgb.out⟩ | ((repeat apply Exists.intro); exact ⟨⟨i + 1, by omega, by go_num, by rw [HS.out]; go_num, Hgb.out⟩, rfl⟩)
                  case measure => simp [intOf]; omega
          · obtain rfl : i = 8 := by omega
            go_wp2_with fail
            go_ret
            exact ⟨by rw [← HRes.out]; rfl, hgr⟩

end Go.Proofs.YtbjmgolkgpdenaaDoor
