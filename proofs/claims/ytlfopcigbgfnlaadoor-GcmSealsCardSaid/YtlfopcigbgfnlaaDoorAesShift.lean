/-
  The columns of a round, gone over by a function.
-/
import Derived.Test.YtlfopcigbgfnlaaDoorAesFill
import Derived.Test.YtlfopcigbgfnlaaDoorInRound
namespace Go.Proofs.YtlfopcigbgfnlaaDoor
open Go.RowKit Go.Shelf

attribute [local go_sem] Oper.semAt_some

set_option maxRecDepth 100000
set_option maxHeartbeats 2000000

theorem shifted_any (C : Nat → Nat) (w : World) : Calls Tryd.prog 56 #[.agg (cellsOf .u32 4 C)] w fun e w' => e = .returned (.func (.func 58) #[] #[.pointer (some ⟨w.heap.size, 0, none⟩)]) ∧ w' = w.alloc (.cells (cellsOf .u32 4 C) 81) := by
  go_enter Tryd.func56, Tryd.ntmps56
  go_wp2
  go_ret
  exact ⟨rfl, rfl⟩

/-- What comes when k rounds are over. -/
def upTo {α : Type} (f : Nat → α) (k : Nat) : List α := (List.range k).map f
theorem upTo_succ {α : Type} (f : Nat → α) (k : Nat) : upTo f (k + 1) = upTo f k ++ [f k] := by simp [upTo, List.range_succ]
theorem upTo_length {α : Type} (f : Nat → α) (k : Nat) : (upTo f k).length = k := by simp [upTo]

/-- The column that the shift tells. -/
def shC (s : Nat → Nat) (k : Nat) : Nat := col (s (4 * k)) (s (4 * ((k + 1) % 4) + 1)) (s (4 * ((k + 2) % 4) + 2)) (s (4 * ((k + 3) % 4) + 3))
abbrev Idx := { k : Nat // k < 4 }
def encC (s : Nat → Nat) (x : Idx) : Array Value := #[.int .i64 (x.1 : Int), .int .u32 (shC s x.1 : Nat)]
def idx (k : Nat) : Idx := ⟨k % 4, Nat.mod_lt _ (by decide)⟩
theorem idx_of (k : Nat) (h : k < 4) : idx k = ⟨k, h⟩ := Subtype.ext (Nat.mod_eq_of_lt h)

/-- Block b is as it was. -/
def KeepB (b : Nat) (W W' : World) : Prop := W'.heap[b]? = W.heap[b]?

theorem row_colS (s : Nat → Nat) (hs : ∀ i, s i < 256) (k r : Nat) (hr : r < 4) (x : Int) (hx : x = (r : Int)) (w : World) :
    Calls Tryd.prog 54 #[.int .u32 (colS s k : Nat), .int .i64 x] w fun e w' => e = .returned (.int .u8 (s (4 * k + r) : Nat)) ∧ w' = w := by
  subst hx
  exact (row_col (fun i => s (4 * k + i)) (fun i => hs _) r hr w).mono fun _ _ h => ⟨h.1, h.2.symm⟩

theorem shift_run (n l Bs : Nat) (s : Nat → Nat) (hs : ∀ i, s i < 256) (hn : 1 ≤ n) (J Jx : List Idx → World → Prop)
    (hJ : ∀ pre W W', J pre W → W.grownBy W' none → J pre W')
    (hY : ∀ pre x W, J pre W → pre.length < 4 → YieldAt Fence.wide (n - 1) Tryd.prog l (encC s x) W fun e W' =>
      (e = .returned (.bool true) ∧ J (pre ++ [x]) W' ∧ KeepB Bs W W') ∨ (e = .returned (.bool false) ∧ Jx (pre ++ [x]) W'))
    (W : World) (hB : Holds W Bs 81 .u32 4 (colS s)) (h0 : J [] W) :
    CallsIn Fence.wide n Tryd.prog 58 #[.func (.yield l) #[] #[], .pointer (some ⟨Bs, 0, none⟩)] W fun e W' => (∃ v, e = .returned v) ∧
      ((∃ ys, ys = upTo idx 4 ∧ J ys W') ∨ (∃ pre, (∃ k, k ≤ 4 ∧ pre = upTo idx k) ∧ Jx pre W')) := by
  have HJ := Lib.hid hJ
  have HY := Lib.hid hY
  have Hs := Lib.hid hs
  clear hJ hY hs
  refine callsIn_of_wp Tryd.func58 rfl trivial ?_ rfl
  simp only [Tryd.ntmps58, List.size_toArray, List.length_cons, List.length_nil, Nat.reduceAdd, Nat.reduceSub, Array.replicate_succ, Array.replicate_zero, List.push_toArray, List.append_toArray, List.nil_append, List.cons_append]
  gi_wp2
  gi_loopw [5] (fun u5 wr => ∃ k : Nat, k ≤ 4 ∧ u5 = .int .i64 k ∧ J (upTo idx k) wr ∧ Holds wr Bs 81 .u32 4 (colS s)) (fun u5 _ => 4 - (intOf u5).toNat)
  case atStart => exact ⟨0, by omega, rfl, h0, hB⟩
  case round =>
    clear h0 hB
    obtain ⟨k, hk, rfl, hJk, hBk⟩ := hrel
    by_cases hlt : k < 4
    · have j1 : (k : Int) < 4 := by omega
      obtain ⟨r1, hr1⟩ : ∃ r, r = (k + 1) % 4 := ⟨_, rfl⟩
      obtain ⟨r2, hr2⟩ : ∃ r, r = (k + 2) % 4 := ⟨_, rfl⟩
      obtain ⟨r3, hr3⟩ : ∃ r, r = (k + 3) % 4 := ⟨_, rfl⟩
      have a1 : (r1 : Int) < 4 := by omega
      have a2 : (r2 : Int) < 4 := by omega
      have a3 : (r3 : Int) < 4 := by omega
      have z1 : IntKind.i64.wrap ((k : Int) + 1) = (k : Int) + 1 := by rw [IntKind.wrap_i64]; omega
      have z2 : IntKind.i64.wrap ((k : Int) + 2) = (k : Int) + 2 := by rw [IntKind.wrap_i64]; omega
      have z3 : IntKind.i64.wrap ((k : Int) + 3) = (k : Int) + 3 := by rw [IntKind.wrap_i64]; omega
      have e1 : ((k : Int) + 1).tmod 4 = (r1 : Int) := by rw [Int.tmod_eq_emod_of_nonneg (by omega)]; omega
      have e2 : ((k : Int) + 2).tmod 4 = (r2 : Int) := by rw [Int.tmod_eq_emod_of_nonneg (by omega)]; omega
      have e3 : ((k : Int) + 3).tmod 4 = (r3 : Int) := by rw [Int.tmod_eq_emod_of_nonneg (by omega)]; omega
      have c0 : wr.drew.cell? ⟨Bs, k, none⟩ = some (.int .u32 (colS s k : Nat)) := hBk.cell k hlt
      have c1 : wr.drew.cell? ⟨Bs, r1, none⟩ = some (.int .u32 (colS s r1 : Nat)) := hBk.cell r1 (by omega)
      have c2 : wr.drew.cell? ⟨Bs, r2, none⟩ = some (.int .u32 (colS s r2 : Nat)) := hBk.cell r2 (by omega)
      have c3 : wr.drew.cell? ⟨Bs, r3, none⟩ = some (.int .u32 (colS s r3 : Nat)) := hBk.cell r3 (by omega)
      have q0 : Hid (∀ w, Calls Tryd.prog 54 #[.int .u32 (colS s k : Nat), .int .i64 0] w fun e w' => e = .returned (.int .u8 (s (4 * k) : Nat)) ∧ w' = w) := Lib.hid (row_colS s Hs.out k 0 (by decide) 0 rfl)
      have q1 : Hid (∀ w, Calls Tryd.prog 54 #[.int .u32 (colS s r1 : Nat), .int .i64 1] w fun e w' => e = .returned (.int .u8 (s (4 * r1 + 1) : Nat)) ∧ w' = w) := Lib.hid (row_colS s Hs.out r1 1 (by decide) 1 rfl)
      have q2 : Hid (∀ w, Calls Tryd.prog 54 #[.int .u32 (colS s r2 : Nat), .int .i64 2] w fun e w' => e = .returned (.int .u8 (s (4 * r2 + 2) : Nat)) ∧ w' = w) := Lib.hid (row_colS s Hs.out r2 2 (by decide) 2 rfl)
      have q3 : Hid (∀ w, Calls Tryd.prog 54 #[.int .u32 (colS s r3 : Nat), .int .i64 3] w fun e w' => e = .returned (.int .u8 (s (4 * r3 + 3) : Nat)) ∧ w' = w) := Lib.hid (row_colS s Hs.out r3 3 (by decide) 3 rfl)
      have q4 : Hid (∀ w, Calls Tryd.prog 29 #[.int .u8 (s (4 * k) : Nat), .int .u8 (s (4 * r1 + 1) : Nat), .int .u8 (s (4 * r2 + 2) : Nat), .int .u8 (s (4 * r3 + 3) : Nat)] w fun e w' => e = .returned (.int .u32 (shC s k : Nat)) ∧ w' = w) := Lib.hid fun w => by
        unfold shC
        rw [← hr1, ← hr2, ← hr3]
        exact (column_any _ _ _ _ w (Hs.out _) (Hs.out _) (Hs.out _) (Hs.out _)).mono fun _ _ h => ⟨h.1, h.2.symm⟩
      have hJd := HJ.out _ _ wr.drew hJk (grown_drew (grown_refl wr none))
      have hBd := hBk.drew
      generalize hv : shC s k = v at q4
      have Hv := Lib.hid hv
      generalize s (4 * k) = y0 at q0 q4
      generalize s (4 * r1 + 1) = y1 at q1 q4
      generalize s (4 * r2 + 2) = y2 at q2 q4
      generalize s (4 * r3 + 3) = y3 at q3 q4
      generalize colS s k = x0 at c0 q0
      generalize colS s r1 = x1 at c1 q1
      generalize colS s r2 = x2 at c2 q2
      generalize colS s r3 = x3 at c3 q3
      clear hr1 hr2 hr3 hv hJk hBk
      gi_wp2
      refine wpIn_wide.2 ?_
      refine wp_region_still_tail 23 (by kernel_rfl) (by kernel_rfl) ?_
      change wpStill _ _ wr.drew (fun a' => wpList _ _ _ _ a' wr.drew) _ _
      generalize wr.drew = w2' at *
      simp only [List.take_succ_cons, List.take_zero, List.drop_succ_cons, List.drop_zero]
      repeat still_step
      still_call (q0.out _)
      repeat still_step
      still_call (q1.out _)
      repeat still_step
      still_call (q2.out _)
      repeat still_step
      still_call (q3.out _)
      repeat still_step
      still_call (q4.out _)
      repeat still_step
      refine wpStill_nil ?_
      obtain ⟨fn, tmps, assign, body, hy, hR⟩ := HY.out _ ⟨k, hlt⟩ w2' hJd (by rw [upTo_length]; exact hlt)
      unfold encC at hy
      dsimp only at hy
      rw [Hv.out] at hy
      have HR := Lib.hid hR
      have HB := Lib.hid hBd
      clear z1 z2 z3 e1 e2 e3 c0 c1 c2 c3 hJd hR hBd
      go_wp2_with fail
      gi_wp2
      refine HR.out.mono ?_
      rintro e W3 (⟨rfl, hJ3, hk3⟩ | ⟨rfl, hJx3⟩)
      · have hB3 : Holds W3 Bs 81 .u32 4 (colS s) := HB.out.of_block hk3
        gi_wp2
        go_roundw
        case rel => exact ⟨k + 1, by omega, by go_num, by rw [upTo_succ, idx_of k hlt]; exact hJ3, hB3⟩
        case measure => simp [intOf]; omega
      · gi_wp2
        refine bodyPost_ret (results_none rfl _ _ _) rfl ?_
        exact ⟨⟨_, rfl⟩, .inr ⟨_, ⟨k + 1, by omega, by rw [upTo_succ, idx_of k hlt]⟩, hJx3⟩⟩
    · obtain rfl : k = 4 := by omega
      gi_wp2
      go_end0
      exact ⟨⟨_, rfl⟩, .inl ⟨_, rfl, hJk⟩⟩

theorem shift_stops (n Bs : Nat) (s : Nat → Nat) (hs : ∀ i, s i < 256) (hn : 1 ≤ n) (w : World) (hB : Holds w Bs 81 .u32 4 (colS s)) :
    SeqStopsK Fence.wide n Tryd.prog 58 #[.pointer (some ⟨Bs, 0, none⟩)] (encC s) (KeepB Bs) (fun ys => ys = upTo idx 4) (fun pre => ∃ k, k ≤ 4 ∧ pre = upTo idx k) 4 w :=
  fun l J Jx W hW hJ _ hY h0 =>
    shift_run n l Bs s hs hn J Jx (fun pre A B h hg => hJ pre A B none h hg (fun r e => by cases e)) hY W (hB.of_block (hW.block Bs hB.lt)) h0

end Go.Proofs.YtlfopcigbgfnlaaDoor
