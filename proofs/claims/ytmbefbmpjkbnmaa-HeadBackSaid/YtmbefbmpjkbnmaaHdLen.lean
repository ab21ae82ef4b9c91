/-
  head's nibbles; the library's bits.Len64.
-/
import Derived.Test.YtmbefbmpjkbnmaaHdMath
import Derived.Lib.BitFns
import Derived.Lib.Strings
import Derived.Lib.Slices
import Derived.Lib.Walk
import Derived.Lib.Small
namespace Go.Proofs.Ytmbefbmpjkbnmaa
open Go.RowKit

set_option maxRecDepth 100000
set_option maxHeartbeats 4000000

theorem len8_get (y : Int) (h : y.toNat < Lib.len8tab.size) : ((Lib.len8tab[y.toNat]'h).toNat : Int) = Lib.len8 y := by
  unfold Lib.len8
  rw [getElem?_pos Lib.len8tab y.toNat h]
  rfl
theorem wrap_two (k t : Nat) (ht : t ≤ 8) (hk : k ≤ 56) : wrap64 ((k : Int) + wrap64 (t : Int)) = ((k + t : Nat) : Int) := by
  unfold wrap64
  omega
theorem wrap_one (t : Nat) (ht : t ≤ 8) : wrap64 (wrap64 (t : Int)) = (t : Int) := by
  unfold wrap64
  omega
theorem tab_size : (Lib.len8tab.size : Int) = 256 := by
  have := Lib.len8tab_size
  omega
theorem len64_any (x : Int) (w : World) (h0 : 0 ≤ x) (h1 : x ≤ 18446744073709551615) :
    Calls Try.prog 144 #[.int .u64 x] w fun e w' => e = .returned (.int .i64 (Lib.bitLen x.toNat)) ∧ w = w' := by
  go_enter Try.func144, Try.ntmps144
  go_wp2
  all_goals first | (go_ret; refine ⟨congrArg Ending.returned (congrArg (Value.int IntKind.i64) ?_), rfl⟩) | (exfalso; have hs := tab_size; rename_i hh _ _; omega) | (exfalso; have hs := tab_size; omega)
  all_goals first
    | (rw [len8_get (x / 4294967296 / 65536 / 256) _, Lib.len8_of (x / 4294967296 / 65536 / 256) (by omega) (by omega)]
       have e1 : (x / 4294967296 / 65536 / 256).toNat = x.toNat / 72057594037927936 := by omega
       have e2 := Lib.bitLen_le8' (x / 4294967296 / 65536 / 256) (by omega) (by omega)
       have e3 := Lib.bitLen_shift56 x.toNat (by omega) (by omega)
       rw [e1] at e2 ⊢
       rw [e3]
       exact wrap_two 56 _ e2 (by decide))
    | (rw [len8_get (x / 4294967296 / 65536) _, Lib.len8_of (x / 4294967296 / 65536) (by omega) (by omega)]
       have e1 : (x / 4294967296 / 65536).toNat = x.toNat / 281474976710656 := by omega
       have e2 := Lib.bitLen_le8' (x / 4294967296 / 65536) (by omega) (by omega)
       have e3 := Lib.bitLen_shift48 x.toNat (by omega) (by omega)
       rw [e1] at e2 ⊢
       rw [e3]
       exact wrap_two 48 _ e2 (by decide))
    | (rw [len8_get (x / 4294967296 / 256) _, Lib.len8_of (x / 4294967296 / 256) (by omega) (by omega)]
       have e1 : (x / 4294967296 / 256).toNat = x.toNat / 1099511627776 := by omega
       have e2 := Lib.bitLen_le8' (x / 4294967296 / 256) (by omega) (by omega)
       have e3 := Lib.bitLen_shift40 x.toNat (by omega) (by omega)
       rw [e1] at e2 ⊢
       rw [e3]
       exact wrap_two 40 _ e2 (by decide))
    | (rw [len8_get (x / 4294967296) _, Lib.len8_of (x / 4294967296) (by omega) (by omega)]
       have e1 : (x / 4294967296).toNat = x.toNat / 4294967296 := by omega
       have e2 := Lib.bitLen_le8' (x / 4294967296) (by omega) (by omega)
       have e3 := Lib.bitLen_shift32 x.toNat (by omega) (by omega)
       rw [e1] at e2 ⊢
       rw [e3]
       exact wrap_two 32 _ e2 (by decide))
    | (rw [len8_get (x / 65536 / 256) _, Lib.len8_of (x / 65536 / 256) (by omega) (by omega)]
       have e1 : (x / 65536 / 256).toNat = x.toNat / 16777216 := by omega
       have e2 := Lib.bitLen_le8' (x / 65536 / 256) (by omega) (by omega)
       have e3 := Lib.bitLen_shift24 x.toNat (by omega) (by omega)
       rw [e1] at e2 ⊢
       rw [e3]
       exact wrap_two 24 _ e2 (by decide))
    | (rw [len8_get (x / 65536) _, Lib.len8_of (x / 65536) (by omega) (by omega)]
       have e1 : (x / 65536).toNat = x.toNat / 65536 := by omega
       have e2 := Lib.bitLen_le8' (x / 65536) (by omega) (by omega)
       have e3 := Lib.bitLen_shift16 x.toNat (by omega) (by omega)
       rw [e1] at e2 ⊢
       rw [e3]
       exact wrap_two 16 _ e2 (by decide))
    | (rw [len8_get (x / 256) _, Lib.len8_of (x / 256) (by omega) (by omega)]
       have e1 : (x / 256).toNat = x.toNat / 256 := by omega
       have e2 := Lib.bitLen_le8' (x / 256) (by omega) (by omega)
       have e3 := Lib.bitLen_shift8 x.toNat (by omega) (by omega)
       rw [e1] at e2 ⊢
       rw [e3]
       exact wrap_two 8 _ e2 (by decide))
    | (rw [len8_get x _, Lib.len8_of x (by omega) (by omega)]
       exact wrap_one _ (Lib.bitLen_le8' x (by omega) (by omega)))
theorem bit_small (m : Nat) (h1 : 1 ≤ m) (h2 : m ≤ 255) : 1 ≤ Lib.bitLen m ∧ Lib.bitLen m ≤ 8 := by
  have a := Lib.bitLen_le8 ⟨m, by omega⟩
  have b := Lib.bitLen_half m (by omega) (by omega)
  exact ⟨by omega, a⟩
theorem bl_bit (n : Nat) (hp : 1 ≤ n) (hn : n < 18446744073709551616) : (Lib.bitLen n - 1) / 8 + 1 = blN n ∧ 1 ≤ Lib.bitLen n ∧ Lib.bitLen n ≤ 64 := by
  by_cases h7 : 72057594037927936 ≤ n
  · have e := Lib.bitLen_shift56 n h7 hn
    have a := bit_small (n / 72057594037927936) (by omega) (by omega)
    have b : blN n = 8 := by unfold blN; simp only [if_neg (show ¬ n < 256 by omega), if_neg (show ¬ n < 65536 by omega), if_neg (show ¬ n < 16777216 by omega), if_neg (show ¬ n < 4294967296 by omega), if_neg (show ¬ n < 1099511627776 by omega), if_neg (show ¬ n < 281474976710656 by omega), if_neg (show ¬ n < 72057594037927936 by omega)]
    omega
  by_cases h6 : 281474976710656 ≤ n
  · have e := Lib.bitLen_shift48 n h6 hn
    have a := bit_small (n / 281474976710656) (by omega) (by omega)
    have b : blN n = 7 := by unfold blN; simp only [if_neg (show ¬ n < 256 by omega), if_neg (show ¬ n < 65536 by omega), if_neg (show ¬ n < 16777216 by omega), if_neg (show ¬ n < 4294967296 by omega), if_neg (show ¬ n < 1099511627776 by omega), if_neg (show ¬ n < 281474976710656 by omega), if_pos (show n < 72057594037927936 by omega)]
    omega
  by_cases h5 : 1099511627776 ≤ n
  · have e := Lib.bitLen_shift40 n h5 hn
    have a := bit_small (n / 1099511627776) (by omega) (by omega)
    have b : blN n = 6 := by unfold blN; simp only [if_neg (show ¬ n < 256 by omega), if_neg (show ¬ n < 65536 by omega), if_neg (show ¬ n < 16777216 by omega), if_neg (show ¬ n < 4294967296 by omega), if_neg (show ¬ n < 1099511627776 by omega), if_pos (show n < 281474976710656 by omega)]
    omega
  by_cases h4 : 4294967296 ≤ n
  · have e := Lib.bitLen_shift32 n h4 hn
    have a := bit_small (n / 4294967296) (by omega) (by omega)
    have b : blN n = 5 := by unfold blN; simp only [if_neg (show ¬ n < 256 by omega), if_neg (show ¬ n < 65536 by omega), if_neg (show ¬ n < 16777216 by omega), if_neg (show ¬ n < 4294967296 by omega), if_pos (show n < 1099511627776 by omega)]
    omega
  by_cases h3 : 16777216 ≤ n
  · have e := Lib.bitLen_shift24 n h3 hn
    have a := bit_small (n / 16777216) (by omega) (by omega)
    have b : blN n = 4 := by unfold blN; simp only [if_neg (show ¬ n < 256 by omega), if_neg (show ¬ n < 65536 by omega), if_neg (show ¬ n < 16777216 by omega), if_pos (show n < 4294967296 by omega)]
    omega
  by_cases h2 : 65536 ≤ n
  · have e := Lib.bitLen_shift16 n h2 hn
    have a := bit_small (n / 65536) (by omega) (by omega)
    have b : blN n = 3 := by unfold blN; simp only [if_neg (show ¬ n < 256 by omega), if_neg (show ¬ n < 65536 by omega), if_pos (show n < 16777216 by omega)]
    omega
  by_cases h1 : 256 ≤ n
  · have e := Lib.bitLen_shift8 n h1 hn
    have a := bit_small (n / 256) (by omega) (by omega)
    have b : blN n = 2 := by unfold blN; simp only [if_neg (show ¬ n < 256 by omega), if_pos (show n < 65536 by omega)]
    omega
  have a := bit_small n hp (by omega)
  have b : blN n = 1 := by unfold blN; rw [if_pos (by omega)]
  omega
theorem nibbleOf_any (n : Nat) (w : World) (hn : n < 18446744073709551616) : Calls Try.prog 140 #[.int .u64 n] w fun e w' => e = .returned (.int .u8 (nibN n : Nat)) ∧ w = w' := by
  by_cases h : n < 8
  · have j1 : (n : Int) < 8 := by omega
    have e : nibN n = n := by unfold nibN; rw [if_pos h]
    rw [e]
    clear e hn h
    go_enter Try.func140, Try.ntmps140
    go_wp2
    go_ret
    refine ⟨congrArg Ending.returned (congrArg (Value.int IntKind.u8) ?_), rfl⟩
    omega
  · have j1 : ¬ (n : Int) < 8 := by omega
    obtain ⟨b1, b2, b3⟩ := bl_bit n (by omega) hn
    have hc := len64_any (n : Int) w (by omega) (by omega)
    rw [Int.toNat_natCast] at hc
    have e : nibN n = 8 + (Lib.bitLen n - 1) / 8 := by unfold nibN; rw [if_neg h]; omega
    rw [e]
    generalize Lib.bitLen n = m at *
    have HC := Lib.hid hc
    have k1 : 1 ≤ (m : Int) := by omega
    have k2 : (m : Int) ≤ 64 := by omega
    clear hc e b1 b2 b3 hn h
    go_enter Try.func140, Try.ntmps140
    go_wp2_with fail
    go_at_call 144
    with_reducible refine (HC.out).mono ?_
    rintro e w' ⟨rfl, rfl⟩
    go_wp2
    go_ret
    refine ⟨congrArg Ending.returned (congrArg (Value.int IntKind.u8) ?_), rfl⟩
    omega
theorem behind_any (d : Nat) (w : World) (hd : d < 16) : Calls Try.prog 119 #[.int .u8 d] w fun e w' => e = .returned (.int .i64 (behN d : Nat)) ∧ w = w' := by
  by_cases h : d < 8
  · have j1 : (d : Int) < 8 := by omega
    have e : behN d = 0 := by unfold behN; rw [if_pos h]
    rw [e]
    clear e hd h
    go_enter Try.func119, Try.ntmps119
    go_wp2
    go_ret
    exact ⟨rfl, rfl⟩
  · have j1 : ¬ (d : Int) < 8 := by omega
    have j2 : (d : Int) < 16 := by omega
    have e : behN d = d - 7 := by unfold behN; rw [if_neg h]
    rw [e]
    obtain ⟨m, rfl⟩ : ∃ m, d = m + 8 := ⟨d - 8, by omega⟩
    clear e
    go_enter Try.func119, Try.ntmps119
    go_wp2
    go_ret
    refine ⟨congrArg Ending.returned (congrArg (Value.int IntKind.i64) ?_), rfl⟩
    omega
end Go.Proofs.Ytmbefbmpjkbnmaa
