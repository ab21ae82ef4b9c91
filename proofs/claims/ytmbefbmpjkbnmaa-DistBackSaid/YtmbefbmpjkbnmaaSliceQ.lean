/-
  Parts of bytes that can be read, as slices.
-/
import Derived.Test.YtmbefbmpjkbnmaaOutKit
import Derived.Test.YtmbefbmpjkbnmaaRefSign2
namespace Go.Proofs.Ytmbefbmpjkbnmaa
open Go.RowKit

set_option maxRecDepth 100000
set_option maxHeartbeats 2000000

/-- A part of bytes that can be read. -/
theorem run_subQ {D n : Nat} {a : Option Addr} {f : Nat → Nat} {w0 : World} (c l h : Nat) (_ : Rd w0 D a n f) (h1 : l ≤ h) (h2 : h ≤ n) (h3 : n ≤ c) :
    ∃ a' : Option Addr, (∀ w, (Instr.slice 39 (.slice a n c) (some (.int .i64 (l : Int))) (some (.int .i64 (h : Int))) none).run Try.prog w = .ok (.slice a' (h - l) (c - l)) w) ∧
      (∀ w, (Instr.sliceAt 39 (.slice a n c) (some (.int .i64 (l : Int))) (some (.int .i64 (h : Int))) none).run Try.prog w = .ok (.slice a' (h - l) (c - l)) w) ∧ (∀ w, Rd w D a n f → Rd w D a' (h - l) (fun i => f (l + i))) := by
  have hT : Try.prog.underlying 39 = some (.slice 5) := by kernel_rfl
  have hE : ∀ w, (sizeOf 5).run Try.prog w = .ok 1 w := fun w => by kernel_rfl
  have e2 : Try.prog.elem 39 = 5 := by simp [Program.elem, hT]
  have hT' : Try.prog.underlying 39 = some (.slice (Try.prog.elem 39)) := by rw [e2]; exact hT
  have hs : ∀ w, (Instr.slice 39 (.slice a n c) (some (.int .i64 (l : Int))) (some (.int .i64 (h : Int))) none).run Try.prog w = .ok (.slice (if c = l then a else a.map (·.add (l * 1))) (h - l) (c - l)) w := fun w => by
    rw [run_slice_lh w 39 a n c hT' .i64 .i64 l h (by omega) (by omega) (by omega), e2, hE w]
    simp [Result.andThen, sliced]
  refine ⟨if c = l then a else a.map (·.add (l * 1)), hs, fun w => by rw [run_sliceAt_slice w 39 _ _ _ _ hT']; exact hs w, fun w hw => ⟨fun hlt => ?_⟩⟩
  obtain ⟨tb, o, e, hD, hc⟩ := hw.ex (by omega)
  refine ⟨tb, o + l, ?_, hD, fun i hi => ?_⟩
  · rw [if_neg (by omega), e]
    simp [Addr.add]
  · rw [Nat.add_assoc]
    exact hc (l + i) (by omega)
theorem run_restQ {D n : Nat} {a : Option Addr} {f : Nat → Nat} {w0 : World} (c l : Nat) (_ : Rd w0 D a n f) (h2 : l ≤ n) (h3 : n ≤ c) :
    ∃ a' : Option Addr, (∀ w, (Instr.slice 39 (.slice a n c) (some (.int .i64 (l : Int))) none none).run Try.prog w = .ok (.slice a' (n - l) (c - l)) w) ∧ (∀ w, Rd w D a n f → Rd w D a' (n - l) (fun i => f (l + i))) := by
  have hT : Try.prog.underlying 39 = some (.slice 5) := by kernel_rfl
  have hE : ∀ w, (sizeOf 5).run Try.prog w = .ok 1 w := fun w => by kernel_rfl
  have e2 : Try.prog.elem 39 = 5 := by simp [Program.elem, hT]
  have hT' : Try.prog.underlying 39 = some (.slice (Try.prog.elem 39)) := by rw [e2]; exact hT
  refine ⟨if c = l then a else a.map (·.add (l * 1)), fun w => ?_, fun w hw => ⟨fun hlt => ?_⟩⟩
  · rw [run_slice_l w 39 a n c hT' .i64 l (by omega) (by omega), e2, hE w]
    simp [Result.andThen, sliced]
  obtain ⟨tb, o, e, hD, hc⟩ := hw.ex (by omega)
  refine ⟨tb, o + l, ?_, hD, fun i hi => ?_⟩
  · rw [if_neg (by omega), e]
    simp [Addr.add]
  · rw [Nat.add_assoc]
    exact hc (l + i) (by omega)
theorem run_aheadQ (a : Option Addr) (n c k : Nat) (hn : n ≤ c) (hk : k ≤ n) : ∀ w', (Instr.slice 39 (.slice a n c) none (some (.int .i64 (k : Int))) none).run Try.prog w' = .ok (.slice a k c) w' := fun w' => by
  have hT : Try.prog.underlying 39 = some (.slice (Try.prog.elem 39)) := by kernel_rfl
  have hE : ∀ w, (sizeOf (Try.prog.elem 39)).run Try.prog w = .ok 1 w := fun _ => by kernel_rfl
  rw [run_slice_h w' 39 a n c hT .i64 k (by omega) (by omega), hE w']
  cases a <;> simp [Result.andThen, sliced, Addr.add]
end Go.Proofs.Ytmbefbmpjkbnmaa
