/-
  head's Size.
-/
import Derived.Test.YtmbefbmpjkbnmaaHdNib
namespace Go.Proofs.Ytmbefbmpjkbnmaa
open Go.RowKit

set_option maxRecDepth 100000
set_option maxHeartbeats 4000000

theorem size_any (k c : Nat) (w : World) (hk : k < 18446744073709551616) (hc : c < 18446744073709551616) :
    Calls Try.prog 52 #[.agg #[.int .u64 k, .int .u64 c]] w fun e w' => e = .returned (.int .i64 (hdLen k c : Nat)) ∧ w.grownBy w' none := by
  have ga := World.grownBy_alloc w (.cells #[.int .u64 k, .int .u64 c] 128) none
  have hX := holds_alloc w 128 .u64 2 (two k c) #[.int .u64 k, .int .u64 c] rfl
  have hN := fun w => nibblesOf_any k c w hk hc
  have hB1 := fun w => behind_any (nibN k) w (nibN_lt k)
  have hB2 := fun w => behind_any (nibN c) w (nibN_lt c)
  have p1 := behN_le _ (nibN_lt k)
  have p2 := behN_le _ (nibN_lt c)
  obtain ⟨L, hL⟩ : ∃ L, L = hdLen k c := ⟨_, rfl⟩
  have hL' : L = 1 + behN (nibN k) + behN (nibN c) := hL
  rw [← hL]
  generalize behN (nibN k) = b1 at *
  generalize behN (nibN c) = b2 at *
  have HN := Lib.hid hN
  have HB1 := Lib.hid hB1
  have HB2 := Lib.hid hB2
  have HL := Lib.hid hL'
  clear hN hB1 hB2 hk hc hL hL'
  have x0 := fun w => idx_nibs (nibN k) (nibN c) 0 0 rfl (by decide) w
  have x1 := fun w => idx_nibs (nibN k) (nibN c) 1 1 rfl (by decide) w
  rw [show two (nibN k) (nibN c) 0 = nibN k from rfl] at x0
  rw [show two (nibN k) (nibN c) 1 = nibN c from rfl] at x1
  generalize nibN k = d1 at *
  generalize nibN c = d2 at *
  have X0 := Lib.hid x0
  have X1 := Lib.hid x1
  clear x0 x1
  go_enter Try.func52, Try.ntmps52
  go_upto_region 1 with fail
  generalize w.alloc (.cells #[.int .u64 k, .int .u64 c] 128) = w1 at *
  have c0 : w1.cell? ⟨w.heap.size, 0, none⟩ = some (.int .u64 k) := hX.cell 0 (by decide)
  have c1 : w1.cell? ⟨w.heap.size, 1, none⟩ = some (.int .u64 c) := hX.cell 1 (by decide)
  have GA := Lib.hid ga
  clear hX ga
  go_wp2_with fail
  go_at_call 120
  with_reducible refine (HN.out w1).mono ?_
  rintro e w2 ⟨rfl, g⟩
  have G2 := Lib.hid (grown_trans GA.out g)
  clear g c0 c1 GA
  go_wp2_with fail
  go_loop [3, 5, 12] (fun u3 _ u12 => ∃ j : Nat, j ≤ 2 ∧ u12 = .int .i64 j ∧ u3 = .int .i64 ((if j = 0 then 1 else if j = 1 then 1 + b1 else L : Nat) : Int)) (fun _ _ u12 => 2 - (intOf u12).toNat)
  case atStart => exact ⟨0, by omega, rfl, rfl⟩
  case round =>
    obtain ⟨j, hj, rfl, rfl⟩ := hrel
    obtain rfl | rfl | rfl : j = 0 ∨ j = 1 ∨ j = 2 := by omega
    · have x0 := X0.out w2
      rw [if_pos rfl]
      go_wp2_with fail
      go_at_call 119
      with_reducible refine (HB1.out w2).mono ?_
      rintro e w' ⟨rfl, rfl⟩
      go_wp2_with fail
      go_round
      case rel => exact ⟨1, by decide, rfl, rfl⟩
      case measure => simp [intOf]
    · have x0 := X1.out w2
      rw [if_neg (by decide), if_pos rfl]
      go_wp2_with fail
      go_at_call 119
      with_reducible refine (HB2.out w2).mono ?_
      rintro e w' ⟨rfl, rfl⟩
      go_wp2_with fail
      go_round
      case rel => exact ⟨2, by decide, rfl, by rw [if_neg (by decide), if_neg (by decide), HL.out]; go_num⟩
      case measure => simp [intOf]
    · rw [if_neg (by decide), if_neg (by decide)]
      go_wp2_with fail
      go_ret
      exact ⟨rfl, G2.out⟩
end Go.Proofs.Ytmbefbmpjkbnmaa
