/-
  wire's Out: count, Sized.
-/
import Derived.Test.YtpddgiflljlpbaaOutRd
import Derived.Test.YtpddgiflljlpbaaOutU8
import Derived.Test.YtpddgiflljlpbaaOutFixed
namespace Go.Proofs.Ytpddgiflljlpbaa
open Go.RowKit

set_option maxRecDepth 100000
set_option maxHeartbeats 4000000

/-- How many there are is put; of which there may be so many. -/
def OSt.count (s : OSt) (most : Int) (n : Nat) : OSt := if min most 65535 < (n : Int) then s.fail else s.put 2 (nbF n 2)
theorem OSt.len_count (s : OSt) (most : Int) (n : Nat) : (s.count most n).len ≤ s.len + 2 := by
  unfold OSt.count
  split
  · rw [OSt.len_fail]; omega
  · exact OSt.len_put _ _ _
theorem outCount_any {w0 w : World} {p : Option Addr} {s : OSt} (most : Int) (n : Nat) (h : OAt w0 w p s) (m0 : -9223372036854775808 ≤ most) (m1 : most < 9223372036854775808) (hm : s.len + 2 ≤ 2 ^ 46) :
    Calls Try.prog 69 #[.pointer p, .int .i64 most, .int .i64 n] w (OSays w0 p (s.count most n)) := by
  obtain ⟨hi, hhi⟩ : ∃ y, y = n / 256 % 256 := ⟨_, rfl⟩
  obtain ⟨lo, hlo⟩ : ∃ y, y = n % 256 := ⟨_, rfl⟩
  have e1 : (n : Int) / 256 % 256 = (hi : Int) := by omega
  have e2 : (n : Int) % 256 = (lo : Int) := by omega
  have hb : ∀ i, i < 2 → (if i = 0 then hi else lo) = nbF n 2 i := fun i h2 => by
    obtain rfl | rfl : i = 0 ∨ i = 1 := by omega
    · rw [if_pos rfl, hhi]; rfl
    · rw [if_neg (by decide), hlo]; unfold nbF; simp
  have HB := Lib.hid hb
  have HH := Lib.hid h
  have HM := Lib.hid hm
  clear hhi hlo hb hm h
  unfold OSt.count
  by_cases hmo : 65535 < most
  · rw [show min most 65535 = 65535 by omega]
    by_cases hw : (65535 : Int) < (n : Int)
    · rw [if_pos hw]
      have HF := Lib.hid (outFail_any HH.out)
      go_enter Try.func69, Try.ntmps69
      go_wp2_with fail
      go_at_call 65
      refine HF.out.mono ?_
      rintro e w1 ⟨rfl, hE⟩
      have HP := Lib.hid (outU8_any _ 2 2 _ _ (hE.grown (World.grownBy_alloc w1 (.cells #[.int .u8 hi, .int .u8 lo] 5) none)) (rd_two w1 hi lo (w1.heap.size + 1) (by omega)) (by rw [OSt.len_fail]; decide))
      clear hE HF
      go_wp2_with fail
      go_at_call 17
      refine HP.out.mono ?_
      rintro e w' ⟨rfl, hE⟩
      rw [OSt.put_fail] at hE
      have HE := Lib.hid hE
      clear hE HP
      go_wp2_with fail
      go_end0
      exact ⟨rfl, HE.out⟩
    · rw [if_neg hw]
      have e3 : (n : Int) / 256 = (hi : Int) := by omega
      have HP := Lib.hid (outU8_any _ 2 2 _ _ (HH.out.grown (World.grownBy_alloc w (.cells #[.int .u8 hi, .int .u8 lo] 5) none)) (rd_two w hi lo (w.heap.size + 1) (by omega)) HM.out)
      go_enter Try.func69, Try.ntmps69
      go_wp2_with fail
      go_at_call 17
      refine HP.out.mono ?_
      rintro e w' ⟨rfl, hE⟩
      have HE := Lib.hid (hE.putCongr HB.out)
      clear hE HP
      go_wp2_with fail
      go_end0
      exact ⟨rfl, HE.out⟩
  · rw [show min most 65535 = most by omega]
    by_cases hw : most < (n : Int)
    · rw [if_pos hw]
      have HF := Lib.hid (outFail_any HH.out)
      go_enter Try.func69, Try.ntmps69
      go_wp2_with fail
      go_at_call 65
      refine HF.out.mono ?_
      rintro e w1 ⟨rfl, hE⟩
      have HP := Lib.hid (outU8_any _ 2 2 _ _ (hE.grown (World.grownBy_alloc w1 (.cells #[.int .u8 hi, .int .u8 lo] 5) none)) (rd_two w1 hi lo (w1.heap.size + 1) (by omega)) (by rw [OSt.len_fail]; decide))
      clear hE HF
      go_wp2_with fail
      go_at_call 17
      refine HP.out.mono ?_
      rintro e w' ⟨rfl, hE⟩
      rw [OSt.put_fail] at hE
      have HE := Lib.hid hE
      clear hE HP
      go_wp2_with fail
      go_end0
      exact ⟨rfl, HE.out⟩
    · rw [if_neg hw]
      have e3 : (n : Int) / 256 = (hi : Int) := by omega
      have HP := Lib.hid (outU8_any _ 2 2 _ _ (HH.out.grown (World.grownBy_alloc w (.cells #[.int .u8 hi, .int .u8 lo] 5) none)) (rd_two w hi lo (w.heap.size + 1) (by omega)) HM.out)
      go_enter Try.func69, Try.ntmps69
      go_wp2_with fail
      go_at_call 17
      refine HP.out.mono ?_
      rintro e w' ⟨rfl, hE⟩
      have HE := Lib.hid (hE.putCongr HB.out)
      clear hE HP
      go_wp2_with fail
      go_end0
      exact ⟨rfl, HE.out⟩
theorem outSized_any {w0 w : World} {p : Option Addr} {s : OSt} (most : Int) (D m cv : Nat) (av : Option Addr) (f : Nat → Nat) (h : OAt w0 w p s) (hR : Rd w0 D av m f) (m0 : -9223372036854775808 ≤ most) (m1 : most < 9223372036854775808) (hm : s.len + 2 + m ≤ 2 ^ 46) :
    Calls Try.prog 51 #[.pointer p, .int .i64 most, .slice av m cv] w (OSays w0 p ((s.count most m).put m f)) := by
  have HC := Lib.hid (outCount_any most m h m0 m1 (by omega))
  have HM := Lib.hid hm
  have HR := Lib.hid hR
  clear h hm m0 m1 hR
  go_enter Try.func51, Try.ntmps51
  go_wp2_with fail
  go_at_call 69
  refine HC.out.mono ?_
  rintro e w1 ⟨rfl, hE⟩
  have HP := Lib.hid (outPut_any D m cv av f hE (HR.out.grown hE.gr (by simp)) (by have := OSt.len_count s most m; have := HM.out; omega))
  clear hE HC
  go_wp2_with fail
  go_at_call 36
  refine HP.out.mono ?_
  rintro e w' ⟨rfl, hE⟩
  have HE := Lib.hid hE
  clear hE HP
  go_wp2_with fail
  go_end0
  exact ⟨rfl, HE.out⟩
end Go.Proofs.Ytpddgiflljlpbaa
