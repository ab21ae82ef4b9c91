/-
  The reference's number and of.
-/
import Derived.Test.YtmbefbmpjkbnmaaGave
namespace Go.Proofs.Ytmbefbmpjkbnmaa
open Go.RowKit

set_option maxRecDepth 100000
set_option maxHeartbeats 2000000

theorem sgNumber_any (n many : Nat) (hn : n < 18446744073709551616) (h0 : 0 < many) (h8 : many ≤ 8) (w : World) :
    Calls Try.prog 55 #[.int .u64 n, .int .i64 many] w (GaveF w many (nbF n many)) := by
  obtain ⟨c, hr, hF⟩ := make_any many (by omega) w
  have gr := World.grownBy_alloc w (.cells c 5) none
  have k0 : (many : Int) < 9 := by omega
  have k1 : (0 : Int) < many := by omega
  have hz : w.heap.size < (w.alloc (.cells c 5)).heap.size := by rw [World.size_alloc]; omega
  have HN := Lib.hid hn
  have H0 := Lib.hid h0
  have H8 := Lib.hid h8
  clear hn
  go_enter Try.func55, Try.ntmps55
  go_wp2_with fail
  generalize w.alloc (.cells c 5) = w1 at *
  obtain ⟨B, hB⟩ : ∃ B, B = w.heap.size := ⟨_, rfl⟩
  simp only [← hB] at hF hz ⊢
  have HB := Lib.hid hB
  clear hB hr
  go_loopw [0, 6] (fun u0 u6 wr => ∃ j : Nat, j ≤ many ∧ u0 = .int .u64 ((n / 256 ^ j : Nat) : Int) ∧ u6 = .int .i64 ((many : Int) - 1 - (j : Int)) ∧ Fill wr B many (fun i => if many - j ≤ i then nbF n many i else 0) ∧ w.grownBy wr none) (fun _ u6 _ => (intOf u6 + 1).toNat)
  case atStart => exact ⟨0, Nat.zero_le _, by rw [Nat.pow_zero, Nat.div_one], by go_num, hF.congr (fun i hi => (if_neg (by omega)).symm), gr⟩
  case round =>
    clear hF gr
    obtain ⟨j, hj, rfl, rfl, hF, gr⟩ := hrel
    by_cases hlt : j < many
    · obtain ⟨m, hm⟩ : ∃ m, m = many - 1 - j := ⟨_, rfl⟩
      have em : (many : Int) - 1 - (j : Int) = (m : Int) := by omega
      rw [em]
      have j1 : (m : Int) < (many : Int) := by omega
      obtain ⟨y, hy⟩ : ∃ y, y = n / 256 ^ j := ⟨_, rfl⟩
      have yl : y < 18446744073709551616 := by rw [hy]; exact Nat.lt_of_le_of_lt (Nat.div_le_self _ _) HN.out
      obtain ⟨q, hq⟩ : ∃ q, q = y % 256 := ⟨_, rfl⟩
      obtain ⟨d, hd⟩ : ∃ d, d = y / 256 := ⟨_, rfl⟩
      have hqn : q = nbF n many m := by
        unfold nbF
        rw [hq, hy, show many - 1 - m = j by omega]
      have hdn : d = n / 256 ^ (j + 1) := by rw [hd, hy, Nat.div_div_eq_div_mul, ← Nat.pow_succ]
      rw [← hy]
      have x0 : (y : Int) % 256 = (q : Int) := by omega
      have x0' : (y : Int).tmod 256 = (q : Int) := by rw [Int.tmod_eq_emod_of_nonneg (by omega)]; omega
      have x1 : (y : Int) / 256 = (d : Int) := by omega
      have x1' : (y : Int).tdiv 256 = (d : Int) := by rw [Int.tdiv_eq_ediv_of_nonneg (by omega)]; omega
      have l0 : (q : Int) < 256 := by omega
      have l1 : (d : Int) < 18446744073709551616 := by omega
      have c0 := hF.cell m (by omega)
      have f0 := hF.free m
      have hF2 := (hF.set m q (by omega)).congr (g := fun i => if many - (j + 1) ≤ i then nbF n many i else 0) (fun i hi => by
        by_cases e : i = m
        · subst e; rw [upd_same, if_pos (by omega), hqn]
        · rw [upd_other _ _ _ _ e]
          by_cases e2 : many - j ≤ i
          · rw [if_pos e2, if_pos (by omega)]
          · rw [if_neg e2, if_neg (by omega)])
      have g2 := grown_setCell_new gr ⟨B, m, none⟩ (.int .u8 (q : Nat)) (Or.inl (by show w.heap.size ≤ B; have := HB.out; omega))
      have HF2 := Lib.hid hF2
      have G2 := Lib.hid g2
      have HD := Lib.hid hdn
      have HJ := Lib.hid hlt
      have Hm := Lib.hid hm
      clear hF hF2 g2 gr hy hq hd hqn hdn yl em hm hlt hj
      go_wp2_with fail
      go_roundw
      case rel => exact ⟨j + 1, HJ.out, by rw [← HD.out], congrArg (Value.int .i64) (by have := Hm.out; have := HJ.out; omega), HF2.out, G2.out⟩
      case measure =>
        have := Hm.out
        have := HJ.out
        simp [intOf]
        try omega
    · obtain rfl : j = many := by omega
      have hE := hF.congr (g := nbF n j) (fun i hi => if_pos (by omega))
      have em : (j : Int) - 1 - (j : Int) = -1 := by omega
      rw [em]
      have HE := Lib.hid hE
      clear hF hlt hE em
      go_wp2_with fail
      go_ret
      exact ⟨⟨B, rfl, by have := HB.out; omega, HE.out⟩, gr⟩

theorem sgOf_w (f : Nat → Nat) (hf : ∀ i, f i < 256) (k c : Nat) (a : Option Addr) (D : Nat) (w : World) (h8 : k ≤ 8) (h : Rd w D a k f) :
    Calls Try.prog 139 #[.slice a k c] w fun e w' => e = .returned (.int .u64 (ofB8 f k : Nat)) ∧ w = w' := by
  have k0 : (k : Int) < 9 := by omega
  have H8 := Lib.hid h8
  have HF := Lib.hid hf
  have HR := Lib.hid h
  clear hf h h8
  go_enter Try.func139, Try.ntmps139
  go_wp2_with fail
  go_loopw [3, 4] (fun u3 u4 wr => ∃ j : Nat, j ≤ k ∧ u3 = .int .u64 (ofB8 f j : Nat) ∧ u4 = .int .i64 j ∧ wr = w) (fun _ u4 _ => k - (intOf u4).toNat)
  case atStart => exact ⟨0, Nat.zero_le _, rfl, rfl, rfl⟩
  case round =>
    obtain ⟨j, hj, rfl, rfl, rfl⟩ := hrel
    by_cases hlt : j < k
    · obtain ⟨tb, o, rfl, htb, hc⟩ := HR.out.ex (by omega)
      have j1 : (j : Int) < (k : Int) := by omega
      have c0 := hc j hlt
      have b0 := HF.out j
      have b1 : ofB8 f (j + 1) < 18446744073709551616 := Nat.lt_of_lt_of_le (ofB8_lt f HF.out (j + 1)) (pow256 _ (by have := H8.out; omega))
      obtain ⟨x, hx⟩ : ∃ x, x = ofB8 f (j + 1) := ⟨_, rfl⟩
      have hx2 : x = 256 * ofB8 f j + f j := hx
      rw [← hx] at b1
      obtain ⟨y, hy⟩ : ∃ x, x = ofB8 f j := ⟨_, rfl⟩
      obtain ⟨z, hz⟩ : ∃ x, x = f j := ⟨_, rfl⟩
      rw [← hy, ← hz] at hx2
      rw [← hz] at b0 c0
      rw [← hy]
      have l0 : (z : Int) < 256 := by omega
      have l1 : (x : Int) < 18446744073709551616 := by omega
      obtain ⟨p, hp⟩ : ∃ x, x = 256 * y := ⟨_, rfl⟩
      have p0 : 256 * (y : Int) = (p : Int) := by omega
      have p1 : (p : Int) < 18446744073709551616 := by omega
      have p2 : (p : Int) + (z : Int) = (x : Int) := by omega
      have HX := Lib.hid hx
      have HJ := Lib.hid hlt
      clear hx hx2 hy hz hp b0 b1 hc hlt hj
      go_wp2_with fail
      go_roundw
      case rel => exact ⟨j + 1, HJ.out, by rw [← HX.out], by go_num, trivial⟩
      case measure =>
        have := HJ.out
        simp [intOf]
        try omega
    · obtain rfl : j = k := by omega
      have j1 : ¬ (j : Int) < (j : Int) := by omega
      go_wp2_with fail
      go_ret
      exact ⟨rfl, rfl⟩
end Go.Proofs.Ytmbefbmpjkbnmaa
