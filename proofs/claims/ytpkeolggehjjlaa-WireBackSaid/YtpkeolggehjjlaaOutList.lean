/-
  wire's PutList, of numbers of 32 bits; one of no function.
-/
import Derived.Test.YtpkeolggehjjlaaOutKit2
namespace Go.Proofs.Ytpkeolggehjjlaa
open Go.RowKit

set_option maxRecDepth 100000
set_option maxHeartbeats 2000000

theorem rd_u32 (w : World) (x : Nat) : (w.alloc (.cells #[.int .u32 x] 49)).cell? ⟨w.heap.size, 0, none⟩ = some (.int .u32 x) := by
  rw [cell_of_row _ _ _ _ _ _ (heap_alloc_new w _)]; rfl
theorem putOne_any {w0 w : World} {p : Option Addr} {s : OSt} (x : Nat) (h : OAt w0 w p s) (hx : x < 4294967296) (hm : s.len + 4 ≤ 2 ^ 46) :
    Calls Try.prog 28 #[.pointer p, .int .u32 x] w (OSays w0 p (s.put 4 (nbF x 4))) := by
  have HP := Lib.hid (outU32_any x w.heap.size 0 1 (h.grown (World.grownBy_alloc w (.cells #[.int .u32 x] 49) none)) hx (rd_u32 w x) hm)
  clear h hx hm
  go_enter Try.func28, Try.ntmps28
  go_wp2_with fail
  go_at_call 19
  refine HP.out.mono ?_
  rintro e w' ⟨rfl, hE⟩
  have HE := Lib.hid hE
  clear hE HP
  go_wp2_with fail
  go_end0
  exact ⟨rfl, HE.out⟩
/-- Numbers of 32 bits are put. -/
def OSt.nums (s : OSt) (fl : Nat → Nat) : Nat → OSt
  | 0 => s
  | i + 1 => (OSt.nums s fl i).put 4 (nbF (fl i) 4)
theorem OSt.len_nums (s : OSt) (fl : Nat → Nat) : ∀ i, (s.nums fl i).len ≤ s.len + 4 * i
  | 0 => Nat.le_refl _
  | i + 1 => by
    have h1 := OSt.len_nums s fl i
    have h2 := OSt.len_put (s.nums fl i) 4 (nbF (fl i) 4)
    show ((s.nums fl i).put 4 _).len ≤ _
    omega
theorem OSt.nums_over (s : OSt) (fl : Nat → Nat) (h : s.over = true) : ∀ i, s.nums fl i = s
  | 0 => rfl
  | i + 1 => by
    show (s.nums fl i).put 4 _ = s
    rw [OSt.nums_over s fl h i, OSt.put_over _ _ _ h]
theorem OSt.nums_stay (s : OSt) (fl : Nat → Nat) (i : Nat) (h : (s.nums fl i).over = true) : ∀ n, i ≤ n → s.nums fl n = s.nums fl i
  | 0, hn => by
    obtain rfl : i = 0 := by omega
    rfl
  | n + 1, hn => by
    by_cases e : i = n + 1
    · rw [e]
    · show (s.nums fl n).put 4 _ = _
      rw [OSt.nums_stay s fl i h n (by omega), OSt.put_over _ _ _ h]
theorem fn_put_some (w : World) : (binOp .eql 64 (.func (.func 28) #[] #[]) .nilFunc).run Try.prog w = .ok (.bool false) w := by kernel_rfl
theorem fn_put_none (w : World) : (binOp .eql 80 .nilFunc .nilFunc).run Try.prog w = .ok (.bool true) w := by kernel_rfl
theorem outList_any {w0 w : World} {p : Option Addr} {s : OSt} (most : Int) (D n cv : Nat) (av : Option Addr) (fl : Nat → Nat) (h : OAt w0 w p s) (hR : RdL w0 D av n fl) (hfl : ∀ i, fl i < 4294967296) (hn : n ≤ 1048576) (m0 : -9223372036854775808 ≤ most) (m1 : most < 9223372036854775808) (hm : s.len + 2 + 4 * n ≤ 2 ^ 46) :
    Calls Try.prog 27 #[.pointer p, .int .i64 most, .slice av n cv, .func (.func 28) #[] #[]] w (OSays w0 p ((s.count most n).nums fl n)) := by
  have HC := Lib.hid (outCount_any most n h m0 m1 (by omega))
  have HM := Lib.hid hm
  have HR := Lib.hid hR
  have HN := Lib.hid hn
  have HFL := Lib.hid hfl
  have kn : (n : Int) ≤ 1048576 := by omega
  clear h hm m0 m1 hR hn hfl
  have e0 := fn_put_some w
  go_enter Try.func27, Try.ntmps27
  go_wp2_with fail
  go_at_call 42
  refine HC.out.mono ?_
  rintro e w1 ⟨rfl, hE⟩
  have HL := Lib.hid (OSt.len_count s most n)
  generalize s.count most n = t at *
  have HE := Lib.hid hE
  clear hE HC
  go_wp2_with fail
  go_loopw [21] (fun u21 wr => ∃ i : Nat, i ≤ n ∧ u21 = .int .i64 i ∧ OAt w0 wr p (t.nums fl i)) (fun u21 _ => n - (intOf u21).toNat)
  case atStart => exact ⟨0, Nat.zero_le _, rfl, HE.out⟩
  case round =>
    obtain ⟨i, hi, rfl, hE⟩ := hrel
    by_cases hlt : i < n
    · obtain ⟨tb, o, rfl, htb, hc⟩ := HR.out.ex (by omega)
      have c0 := hE.gr.cell (hc i hlt) (by simp)
      have j1 : (i : Int) < (n : Int) := by omega
      have HLT := Lib.hid hlt
      have HE2 := Lib.hid hE
      have HD := Lib.hid (done_any hE)
      by_cases ho : (t.nums fl i).over = true
      · have hst := OSt.nums_stay t fl i ho n (by omega)
        rw [ho] at HD
        rw [← hst] at hE
        have HE3 := Lib.hid hE
        clear hE hst ho hi hlt hc htb
        go_wp2_with fail
        go_at_call 45
        refine HD.out.mono ?_
        rintro e w3 ⟨rfl, rfl⟩
        go_wp2_with fail
        go_end0
        exact ⟨rfl, HE3.out⟩
      · rw [show (t.nums fl i).over = false by simpa using ho] at HD
        clear hE ho hi hlt hc htb
        go_wp2_with fail
        go_at_call 45
        refine HD.out.mono ?_
        rintro e w3 ⟨rfl, rfl⟩
        have HP := Lib.hid (putOne_any (fl i) HE2.out (HFL.out i) (by have := OSt.len_nums t fl i; have := HM.out; have := HL.out; have := HLT.out; omega))
        clear HD
        go_wp2_with fail
        go_at_call 28
        refine HP.out.mono ?_
        rintro e w4 ⟨rfl, hE⟩
        have HE3 := Lib.hid hE
        clear hE HP
        go_wp2_with fail
        go_roundw
        case rel => exact ⟨i + 1, HLT.out, by go_num, HE3.out⟩
        case measure =>
          have := HLT.out
          simp [intOf]
          try omega
    · obtain rfl : i = n := by omega
      have HE2 := Lib.hid hE
      have j1 : ¬ (i : Int) < (i : Int) := by omega
      clear hE hi hlt
      go_wp2_with fail
      go_end0
      exact ⟨rfl, HE2.out⟩
theorem outNone_any {w0 w : World} {p : Option Addr} {s : OSt} (h : OAt w0 w p s) :
    Calls Try.prog 22 #[.pointer p, .int .i64 1, .slice none 0 0, .nilFunc] w (OSays w0 p s.fail) := by
  have HF := Lib.hid (outFail_any h)
  clear h
  have e0 := fn_put_none w
  go_enter Try.func22, Try.ntmps22
  go_wp2_with fail
  go_at_call 44
  refine HF.out.mono ?_
  rintro e w1 ⟨rfl, hE⟩
  have HC := Lib.hid (outCount_any 1 0 hE (by decide) (by decide) (by rw [OSt.len_fail]; decide))
  clear hE HF
  go_wp2_with fail
  go_at_call 42
  refine HC.out.mono ?_
  rintro e w2 ⟨rfl, hE⟩
  have hE2 : OAt w0 w2 p s.fail := by
    have e : s.fail.count 1 (0 : Nat) = s.fail := by
      unfold OSt.count
      rw [if_neg (by decide), OSt.put_fail]
    rwa [e] at hE
  have HE := Lib.hid hE2
  clear hE HC hE2
  go_wp2_with fail
  go_loopw [21] (fun u21 wr => u21 = .int .i64 0 ∧ w2 = wr) (fun u21 _ => 0)
  case atStart => exact ⟨rfl, rfl⟩
  case round =>
    obtain ⟨rfl, rfl⟩ := hrel
    go_wp2_with fail
    go_end0
    exact ⟨rfl, HE.out⟩
end Go.Proofs.Ytpkeolggehjjlaa
