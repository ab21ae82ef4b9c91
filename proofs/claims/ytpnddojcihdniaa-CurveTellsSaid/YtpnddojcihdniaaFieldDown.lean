/-
  An exponent's bits, gone over by a function.
-/
import Derived.Test.YtpnddojcihdniaaFieldMul
import Derived.Test.YtpnddojcihdniaaFieldPowM
import Derived.Test.YtpnddojcihdniaaInRound
import Derived.Test.YtpnddojcihdniaaWideRow
namespace Go.Proofs.Ytpnddojcihdniaa
open Go.RowKit Go.Shelf

attribute [local go_sem] Oper.semAt_some

set_option maxRecDepth 100000
set_option maxHeartbeats 2000000

theorem down_any (x : Nat → Nat) (w : World) : Calls Try.prog 53 #[.agg (cellsOf .u64 4 x)] w fun e w' => e = .returned (.func (.func 57) #[] #[.pointer (some ⟨w.heap.size, 0, none⟩)]) ∧ w' = w.alloc (.cells (cellsOf .u64 4 x) 58) := by
  go_enter Try.func53, Try.ntmps53
  go_wp2
  go_ret
  exact ⟨rfl, rfl⟩

def encB (E : Nat) (k : Nat) : Array Value := #[.int .u64 (btE E k : Nat)]
/-- Block b is as it was. -/
def KeepB (b : Nat) (W W' : World) : Prop := W'.heap[b]? = W.heap[b]?

theorem down_run (n l Bs E : Nat) (hn : 1 ≤ n) (J Jx : List Nat → World → Prop)
    (hJ : ∀ pre W W', J pre W → W.grownBy W' none → J pre W')
    (hY : ∀ pre x W, J pre W → pre.length < 256 → YieldAt Fence.wide (n - 1) Try.prog l (encB E x) W fun e W' =>
      (e = .returned (.bool true) ∧ J (pre ++ [x]) W' ∧ KeepB Bs W W') ∨ (e = .returned (.bool false) ∧ Jx (pre ++ [x]) W'))
    (W : World) (hB : Holds W Bs 58 .u64 4 (lim 64 E)) (h0 : J [] W) :
    CallsIn Fence.wide n Try.prog 57 #[.func (.yield l) #[] #[], .pointer (some ⟨Bs, 0, none⟩)] W fun e W' => (∃ v, e = .returned v) ∧
      ((∃ ys, ys = List.range 256 ∧ J ys W') ∨ (∃ pre, True ∧ Jx pre W')) := by
  have HJ := Lib.hid hJ
  have HY := Lib.hid hY
  clear hJ hY
  refine callsIn_of_wp Try.func57 rfl trivial ?_ rfl
  simp only [Try.ntmps57, List.size_toArray, List.length_cons, List.length_nil, Nat.reduceAdd, Nat.reduceSub, Array.replicate_succ, Array.replicate_zero, List.push_toArray, List.append_toArray, List.nil_append, List.cons_append]
  gi_wp2
  gi_loopw [3] (fun u3 wr => ∃ k : Nat, k ≤ 256 ∧ u3 = .int .i64 (255 - (k : Int)) ∧ J (List.range k) wr ∧ Holds wr Bs 58 .u64 4 (lim 64 E)) (fun u3 _ => (intOf u3 + 1).toNat)
  case atStart => exact ⟨0, by omega, rfl, h0, hB⟩
  case round =>
    clear h0 hB
    obtain ⟨k, hk, rfl, hJk, hBk⟩ := hrel
    by_cases hlt : k < 256
    · obtain ⟨m, hm⟩ : ∃ m, m = 255 - k := ⟨_, rfl⟩
      have em : 255 - (k : Int) = (m : Int) := by omega
      rw [em]
      have j1 : (m : Int) < 256 := by omega
      obtain ⟨q, hq⟩ : ∃ q, q = m / 64 := ⟨_, rfl⟩
      obtain ⟨r, hr⟩ : ∃ r, r = m % 64 := ⟨_, rfl⟩
      have x0 : (m : Int) / 64 = (q : Int) := by omega
      have x1 : (m : Int).tmod 64 = (r : Int) := by rw [Int.tmod_eq_emod_of_nonneg (by omega)]; omega
      have x2 : (m : Int) % 64 = (r : Int) := by omega
      have x4 : (m : Int).tdiv 64 = (q : Int) := by rw [Int.tdiv_eq_ediv_of_nonneg (by omega)]; omega
      have w4 : IntKind.i64.wrap (q : Int) = (q : Int) := by rw [IntKind.wrap_i64]; omega
      have k0 : (q : Int) < 4 := by omega
      have k1 : (r : Int) < 64 := by omega
      have c0 := hBk.cell q (by omega)
      have hbit := lim_bit E m
      rw [← hq, ← hr] at hbit
      have hbt : btE E k = lim 64 E q / 2 ^ r % 2 := by rw [hbit, hm]; rfl
      have hlw : lim 64 E q < 18446744073709551616 := lim_lt 64 E q
      obtain ⟨b, hb⟩ : ∃ b, b = btE E k := ⟨_, rfl⟩
      rw [← hb] at hbt
      generalize lim 64 E q = xq at *
      have hand : bits .and .u64 ((xq : Int) / 2 ^ r) 1 = (b : Int) := by
        have e : ((2 : Int) ^ r) = ((2 ^ r : Nat) : Int) := by simp
        have h1 := bits_and_u64_nat (xq / 2 ^ r) 1 (Nat.lt_of_le_of_lt (Nat.div_le_self _ _) hlw) (by decide)
        rw [Nat.and_one_is_mod, ← hbt] at h1
        rw [e, ← Int.natCast_ediv]
        exact h1
      have HYk := HY.out (List.range k) k
      unfold encB at HYk
      rw [← hb] at HYk
      have HY2 := Lib.hid HYk
      have HA := Lib.hid hand
      have Hm := Lib.hid hm
      clear hbit hbt hlw hb hand hq hr hm HYk em
      gi_wp2
      rw [HA.out]
      obtain ⟨fn, tmps, assign, body, hy, hR⟩ := HY2.out wr hJk (by rw [List.length_range]; exact hlt)
      have HR := Lib.hid hR
      have Hk := Lib.hid hlt
      clear hR x0 x1 x2 x4 w4 c0 hJk hlt hk HY2
      rw [hy]
      gi_wp2
      refine HR.out.mono ?_
      rintro e W3 (⟨rfl, hJ3, hk3⟩ | ⟨rfl, hJx3⟩)
      · have hB3 : Holds W3 Bs 58 .u64 4 (lim 64 E) := hBk.of_block hk3
        rw [← List.range_succ] at hJ3
        gi_wp2
        go_roundw
        case rel => exact ⟨k + 1, Hk.out, congrArg (Value.int .i64) (by have := Hm.out; have := Hk.out; omega), hJ3, hB3⟩
        case measure =>
          have := Hm.out
          have := Hk.out
          simp [intOf]
          try omega
      · gi_wp2
        refine bodyPost_ret (results_none rfl _ _ _) rfl ?_
        exact ⟨⟨_, rfl⟩, .inr ⟨_, trivial, hJx3⟩⟩
    · obtain rfl : k = 256 := by omega
      gi_wp2
      go_end0
      exact ⟨⟨_, rfl⟩, .inl ⟨_, rfl, hJk⟩⟩

theorem down_stops (n Bs E : Nat) (hn : 1 ≤ n) (w : World) (hB : Holds w Bs 58 .u64 4 (lim 64 E)) :
    SeqStopsK Fence.wide n Try.prog 57 #[.pointer (some ⟨Bs, 0, none⟩)] (encB E) (KeepB Bs) (fun ys => ys = List.range 256) (fun _ => True) 256 w :=
  fun l J Jx W hW hJ _ hY h0 =>
    down_run n l Bs E hn J Jx (fun pre A B h hg => hJ pre A B none h hg (fun r e => by cases e)) hY W (hB.of_block (hW.block Bs hB.lt)) h0

end Go.Proofs.Ytpnddojcihdniaa
