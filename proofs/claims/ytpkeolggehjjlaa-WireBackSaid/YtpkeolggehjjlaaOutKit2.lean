/-
  wire's Out: U32, U64, Flag, Fixed of one thing; count, Sized.
-/
import Derived.Test.YtpkeolggehjjlaaOutKit
namespace Go.Proofs.Ytpkeolggehjjlaa
open Go.RowKit

set_option maxRecDepth 100000
set_option maxHeartbeats 2000000

theorem outU32_any {w0 w : World} {p : Option Addr} {s : OSt} (x tb o c : Nat) (h : OAt w0 w p s) (hx : x < 4294967296) (hc : w.cell? ⟨tb, o, none⟩ = some (.int .u32 x)) (hm : s.len + 4 ≤ 2 ^ 46) :
    Calls Try.prog 19 #[.pointer p, .slice (some ⟨tb, o, none⟩) 1 c] w (OSays w0 p (s.put 4 (nbF x 4))) := by
  have HP := Lib.hid (outNum32_any x tb o c h hx hc hm)
  clear h hx hc hm
  go_enter Try.func19, Try.ntmps19
  go_wp2_with fail
  go_at_call 41
  refine HP.out.mono ?_
  rintro e w' ⟨rfl, hE⟩
  have HE := Lib.hid hE
  clear hE HP
  go_wp2_with fail
  go_end0
  exact ⟨rfl, HE.out⟩
theorem outU64_any {w0 w : World} {p : Option Addr} {s : OSt} (x tb o c : Nat) (h : OAt w0 w p s) (hx : x < 18446744073709551616) (hc : w.cell? ⟨tb, o, none⟩ = some (.int .u64 x)) (hm : s.len + 8 ≤ 2 ^ 46) :
    Calls Try.prog 24 #[.pointer p, .slice (some ⟨tb, o, none⟩) 1 c] w (OSays w0 p (s.put 8 (nbF x 8))) := by
  have HP := Lib.hid (outNum64_any x tb o c h hx hc hm)
  clear h hx hc hm
  go_enter Try.func24, Try.ntmps24
  go_wp2_with fail
  go_at_call 47
  refine HP.out.mono ?_
  rintro e w' ⟨rfl, hE⟩
  have HE := Lib.hid hE
  clear hE HP
  go_wp2_with fail
  go_end0
  exact ⟨rfl, HE.out⟩
/-- A byte that is made for a call. -/
theorem rd_one (w : World) (v : Nat) (D : Nat) (hD : w.heap.size < D) : Rd (w.alloc (.cells #[.int .u8 v] 5)) D (some ⟨w.heap.size, 0, none⟩) 1 (fun _ => v) where
  ex := fun _ => ⟨w.heap.size, 0, rfl, hD, fun i hi => by
    obtain rfl : i = 0 := by omega
    rw [cell_of_row _ _ _ _ _ _ (heap_alloc_new w _)]; rfl⟩
theorem rd_two (w : World) (u v : Nat) (D : Nat) (hD : w.heap.size < D) : Rd (w.alloc (.cells #[.int .u8 u, .int .u8 v] 5)) D (some ⟨w.heap.size, 0, none⟩) 2 (fun i => if i = 0 then u else v) where
  ex := fun _ => ⟨w.heap.size, 0, rfl, hD, fun i hi => by
    obtain rfl | rfl : i = 0 ∨ i = 1 := by omega
    · rw [cell_of_row _ _ _ _ _ _ (heap_alloc_new w _)]; rfl
    · rw [cell_of_row _ _ _ _ _ _ (heap_alloc_new w _)]; rfl⟩
theorem OAt.eqv {w0 w : World} {p : Option Addr} {lim n : Nat} {f g : Nat → Nat} (h : OAt w0 w p (.good lim n f)) (e : ∀ i, i < n → f i = g i) : OAt w0 w p (.good lim n g) := by
  refine ⟨?_, h.gr⟩
  obtain ⟨b, a, c, h1, h2, h3, h4, h5⟩ := h.st
  refine ⟨b, a, c, h1, h2, h3, ?_, h5⟩
  rcases h4.ex with h | ⟨b', cap, k1, k2, k3⟩
  · exact ⟨Or.inl h⟩
  · exact ⟨Or.inr ⟨b', cap, k1, k2.congr e, k3⟩⟩
theorem OAt.putCongr {w0 w : World} {p : Option Addr} {s : OSt} {m : Nat} {f g : Nat → Nat} (h : OAt w0 w p (s.put m f)) (e : ∀ i, i < m → f i = g i) : OAt w0 w p (s.put m g) := by
  cases s with
  | nil => exact h
  | bad => exact h
  | good lim n f0 =>
    show OAt w0 w p (if n + m ≤ lim then _ else _)
    have h' : OAt w0 w p (if n + m ≤ lim then .good lim (n + m) (cat n f0 f) else .bad) := h
    by_cases hb : n + m ≤ lim
    · rw [if_pos hb] at h' ⊢
      exact h'.eqv (fun i hi => by
        unfold cat
        by_cases e1 : i < n
        · rw [if_pos e1, if_pos e1]
        · rw [if_neg e1, if_neg e1]; exact e _ (by omega))
    · rw [if_neg hb] at h' ⊢
      exact h'
/-- A truth value as a byte. -/
def flagB (b : Bool) : Nat := if b then 1 else 0
theorem outFlag_any {w0 w : World} {p : Option Addr} {s : OSt} (b : Bool) (tb o c : Nat) (h : OAt w0 w p s) (hc : w.cell? ⟨tb, o, none⟩ = some (.bool b)) (hm : s.len + 1 ≤ 2 ^ 46) :
    Calls Try.prog 25 #[.pointer p, .slice (some ⟨tb, o, none⟩) 1 c] w (OSays w0 p (s.put 1 (fun _ => flagB b))) := by
  have H := Lib.hid h
  have HM := Lib.hid hm
  clear h hm
  go_enter Try.func25, Try.ntmps25
  go_wp2_with fail
  go_loopw [8] (fun u8 wr => (u8 = .int .i64 0 ∧ w = wr) ∨ (u8 = .int .i64 1 ∧ OAt w0 wr p (s.put 1 (fun _ => flagB b)))) (fun u8 _ => 2 - (intOf u8).toNat)
  case atStart => exact Or.inl ⟨rfl, rfl⟩
  case round =>
    rcases hrel with ⟨rfl, rfl⟩ | ⟨rfl, hE⟩
    · cases b with
      | false =>
        have g1 := World.grownBy_alloc w (.cells #[.int .u8 0] 5) none
        have HP := Lib.hid (outU8_any _ 1 1 _ _ (H.out.grown g1) (rd_one w 0 (w.heap.size + 1) (by omega)) HM.out)
        clear g1
        go_wp2_with fail
        go_at_call 18
        refine HP.out.mono ?_
        rintro e w' ⟨rfl, hE⟩
        have HE := Lib.hid hE
        clear hE HP
        go_wp2_with fail
        go_roundw
        case rel => exact Or.inr ⟨rfl, HE.out⟩
        case measure => decide
      | true =>
        have g1 := World.grownBy_alloc w (.cells #[.int .u8 1] 5) none
        have HP := Lib.hid (outU8_any _ 1 1 _ _ (H.out.grown g1) (rd_one w 1 (w.heap.size + 1) (by omega)) HM.out)
        clear g1
        go_wp2_with fail
        go_at_call 18
        refine HP.out.mono ?_
        rintro e w' ⟨rfl, hE⟩
        have HE := Lib.hid hE
        clear hE HP
        go_wp2_with fail
        go_roundw
        case rel => exact Or.inr ⟨rfl, HE.out⟩
        case measure => decide
    · have HE := Lib.hid hE
      clear hE
      go_wp2_with fail
      go_end0
      exact ⟨rfl, HE.out⟩
theorem outFixed_any {w0 w : World} {p : Option Addr} {s : OSt} (D m cv : Nat) (av : Option Addr) (f : Nat → Nat) (tb o c : Nat) (h : OAt w0 w p s) (hc : w.cell? ⟨tb, o, none⟩ = some (.slice av m cv)) (hR : Rd w D av m f) (hm : s.len + m ≤ 2 ^ 46) :
    Calls Try.prog 26 #[.pointer p, .slice (some ⟨tb, o, none⟩) 1 c] w (OSays w0 p (s.put m f)) := by
  have HP := Lib.hid (outPut_any D m cv av f h hR hm)
  clear h hm hR
  go_enter Try.func26, Try.ntmps26
  go_wp2_with fail
  go_loopw [8] (fun u8 wr => (u8 = .int .i64 0 ∧ w = wr) ∨ (u8 = .int .i64 1 ∧ OAt w0 wr p (s.put m f))) (fun u8 _ => 2 - (intOf u8).toNat)
  case atStart => exact Or.inl ⟨rfl, rfl⟩
  case round =>
    rcases hrel with ⟨rfl, rfl⟩ | ⟨rfl, hE⟩
    · go_wp2_with fail
      go_at_call 40
      refine HP.out.mono ?_
      rintro e w' ⟨rfl, hE⟩
      have HE := Lib.hid hE
      clear hE HP
      go_wp2_with fail
      go_roundw
      case rel => exact Or.inr ⟨rfl, HE.out⟩
      case measure => decide
    · have HE := Lib.hid hE
      clear hE
      go_wp2_with fail
      go_end0
      exact ⟨rfl, HE.out⟩
/-- How many there are is put; of which there may be so many. -/
def OSt.count (s : OSt) (most : Int) (n : Nat) : OSt := if min most 65535 < (n : Int) then s.fail else s.put 2 (nbF n 2)
theorem OSt.len_count (s : OSt) (most : Int) (n : Nat) : (s.count most n).len ≤ s.len + 2 := by
  unfold OSt.count
  split
  · rw [OSt.len_fail]; omega
  · exact OSt.len_put _ _ _
theorem outCount_any {w0 w : World} {p : Option Addr} {s : OSt} (most : Int) (n : Nat) (h : OAt w0 w p s) (m0 : -9223372036854775808 ≤ most) (m1 : most < 9223372036854775808) (hm : s.len + 2 ≤ 2 ^ 46) :
    Calls Try.prog 42 #[.pointer p, .int .i64 most, .int .i64 n] w (OSays w0 p (s.count most n)) := by
  obtain ⟨hi, hhi⟩ : ∃ y, y = n / 256 % 256 := ⟨_, rfl⟩
  obtain ⟨lo, hlo⟩ : ∃ y, y = n % 256 := ⟨_, rfl⟩
  have e1 : (n : Int) / 256 % 256 = (hi : Int) := by omega
  have e2 : (n : Int) % 256 = (lo : Int) := by omega
  have hb : ∀ i, i < 2 → (if i = 0 then hi else lo) = nbF n 2 i := fun i h2 => by
    obtain rfl | rfl : i = 0 ∨ i = 1 := by omega
    · rw [if_pos rfl, hhi]; rfl
    · rw [if_neg (by decide), hlo]; unfold nbF; simp
  have HB := Lib.hid hb
  have HH := Lib.hid h
  have HM := Lib.hid hm
  clear hhi hlo hb hm h
  unfold OSt.count
  by_cases hmo : 65535 < most
  · rw [show min most 65535 = 65535 by omega]
    by_cases hw : (65535 : Int) < (n : Int)
    · rw [if_pos hw]
      have HF := Lib.hid (outFail_any HH.out)
      go_enter Try.func42, Try.ntmps42
      go_wp2_with fail
      go_at_call 44
      refine HF.out.mono ?_
      rintro e w1 ⟨rfl, hE⟩
      have HP := Lib.hid (outU8_any _ 2 2 _ _ (hE.grown (World.grownBy_alloc w1 (.cells #[.int .u8 hi, .int .u8 lo] 5) none)) (rd_two w1 hi lo (w1.heap.size + 1) (by omega)) (by rw [OSt.len_fail]; decide))
      clear hE HF
      go_wp2_with fail
      go_at_call 18
      refine HP.out.mono ?_
      rintro e w' ⟨rfl, hE⟩
      rw [OSt.put_fail] at hE
      have HE := Lib.hid hE
      clear hE HP
      go_wp2_with fail
      go_end0
      exact ⟨rfl, HE.out⟩
    · rw [if_neg hw]
      have e3 : (n : Int) / 256 = (hi : Int) := by omega
      have HP := Lib.hid (outU8_any _ 2 2 _ _ (HH.out.grown (World.grownBy_alloc w (.cells #[.int .u8 hi, .int .u8 lo] 5) none)) (rd_two w hi lo (w.heap.size + 1) (by omega)) HM.out)
      go_enter Try.func42, Try.ntmps42
      go_wp2_with fail
      go_at_call 18
      refine HP.out.mono ?_
      rintro e w' ⟨rfl, hE⟩
      have HE := Lib.hid (hE.putCongr HB.out)
      clear hE HP
      go_wp2_with fail
      go_end0
      exact ⟨rfl, HE.out⟩
  · rw [show min most 65535 = most by omega]
    by_cases hw : most < (n : Int)
    · rw [if_pos hw]
      have HF := Lib.hid (outFail_any HH.out)
      go_enter Try.func42, Try.ntmps42
      go_wp2_with fail
      go_at_call 44
      refine HF.out.mono ?_
      rintro e w1 ⟨rfl, hE⟩
      have HP := Lib.hid (outU8_any _ 2 2 _ _ (hE.grown (World.grownBy_alloc w1 (.cells #[.int .u8 hi, .int .u8 lo] 5) none)) (rd_two w1 hi lo (w1.heap.size + 1) (by omega)) (by rw [OSt.len_fail]; decide))
      clear hE HF
      go_wp2_with fail
      go_at_call 18
      refine HP.out.mono ?_
      rintro e w' ⟨rfl, hE⟩
      rw [OSt.put_fail] at hE
      have HE := Lib.hid hE
      clear hE HP
      go_wp2_with fail
      go_end0
      exact ⟨rfl, HE.out⟩
    · rw [if_neg hw]
      have e3 : (n : Int) / 256 = (hi : Int) := by omega
      have HP := Lib.hid (outU8_any _ 2 2 _ _ (HH.out.grown (World.grownBy_alloc w (.cells #[.int .u8 hi, .int .u8 lo] 5) none)) (rd_two w hi lo (w.heap.size + 1) (by omega)) HM.out)
      go_enter Try.func42, Try.ntmps42
      go_wp2_with fail
      go_at_call 18
      refine HP.out.mono ?_
      rintro e w' ⟨rfl, hE⟩
      have HE := Lib.hid (hE.putCongr HB.out)
      clear hE HP
      go_wp2_with fail
      go_end0
      exact ⟨rfl, HE.out⟩
theorem outSized_any {w0 w : World} {p : Option Addr} {s : OSt} (most : Int) (D m cv : Nat) (av : Option Addr) (f : Nat → Nat) (h : OAt w0 w p s) (hR : Rd w0 D av m f) (m0 : -9223372036854775808 ≤ most) (m1 : most < 9223372036854775808) (hm : s.len + 2 + m ≤ 2 ^ 46) :
    Calls Try.prog 20 #[.pointer p, .int .i64 most, .slice av m cv] w (OSays w0 p ((s.count most m).put m f)) := by
  have HC := Lib.hid (outCount_any most m h m0 m1 (by omega))
  have HM := Lib.hid hm
  have HR := Lib.hid hR
  clear h hm m0 m1 hR
  go_enter Try.func20, Try.ntmps20
  go_wp2_with fail
  go_at_call 42
  refine HC.out.mono ?_
  rintro e w1 ⟨rfl, hE⟩
  have HP := Lib.hid (outPut_any D m cv av f hE (HR.out.grown hE.gr (by simp)) (by have := OSt.len_count s most m; have := HM.out; omega))
  clear hE HC
  go_wp2_with fail
  go_at_call 40
  refine HP.out.mono ?_
  rintro e w' ⟨rfl, hE⟩
  have HE := Lib.hid hE
  clear hE HP
  go_wp2_with fail
  go_end0
  exact ⟨rfl, HE.out⟩
end Go.Proofs.Ytpkeolggehjjlaa
