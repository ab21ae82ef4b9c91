/-
  The reference's Dev, dev, bit.
-/
import Derived.Test.YtmbefbmpjkbnmaaRefCurD
namespace Go.Proofs.Ytmbefbmpjkbnmaa
open Go.RowKit

set_option maxRecDepth 100000
set_option maxHeartbeats 2000000

/-- May a device be? -/
def devMay (f : Nat → Nat) : Bool := decide (f 0 < 8) && decide (f 1 < 4)
theorem refDev_any (f : Nat → Nat) (w : World) : Calls Try.prog 58 #[.agg (cellsOf .u8 2 f)] w fun e w' => e = .returned (.bool (devMay f)) ∧ w.grownBy w' none := by
  have ga := World.grownBy_alloc w (.cells (cellsOf .u8 2 f) 26) none
  have hn := holds_alloc w 26 .u8 2 f _ rfl
  have c0 := hn.cell 0 (by decide)
  have c1 := hn.cell 1 (by decide)
  have HG := Lib.hid ga
  clear ga hn
  unfold devMay
  by_cases h0 : f 0 < 8
  · have j0 : (f 0 : Int) < 8 := by omega
    rw [decide_eq_true h0, Bool.true_and]
    by_cases h1 : f 1 < 4
    · have j1 : (f 1 : Int) < 4 := by omega
      rw [decide_eq_true h1]
      go_enter Try.func58, Try.ntmps58
      go_wp2_with fail
      go_ret
      exact ⟨rfl, HG.out⟩
    · have j1 : ¬ (f 1 : Int) < 4 := by omega
      rw [decide_eq_false h1]
      go_enter Try.func58, Try.ntmps58
      go_wp2_with fail
      go_ret
      exact ⟨rfl, HG.out⟩
  · have j0 : ¬ (f 0 : Int) < 8 := by omega
    rw [decide_eq_false h0, Bool.false_and]
    go_enter Try.func58, Try.ntmps58
    go_wp2_with fail
    go_ret
    exact ⟨rfl, HG.out⟩
theorem refBit_any (b : Bool) (w : World) : Calls Try.prog 84 #[.bool b] w fun e w' => e = .returned (.int .u8 (if b then 1 else 0 : Nat)) ∧ w = w' := by
  cases b
  · go_enter Try.func84, Try.ntmps84
    go_wp2_with fail
    go_ret
    exact ⟨rfl, rfl⟩
  · go_enter Try.func84, Try.ntmps84
    go_wp2_with fail
    go_ret
    exact ⟨rfl, rfl⟩
theorem ownN_row (w : World) (n : Nat) (f : Nat → Nat) (base : Nat) (hb : base ≤ w.heap.size) : OwnN (w.alloc (.cells (cellsOf .u8 n f) 5)) base (.slice (some ⟨w.heap.size, 0, none⟩) n n) n f := by
  have h := holds_alloc w 5 .u8 n f _ rfl
  have hh := heap_alloc_new w (.cells (cellsOf .u8 n f) 5)
  refine ⟨Or.inr ⟨w.heap.size, n, rfl, ⟨fun i hi => h.cell i hi, fun i hi => by rw [h.cell i hi]; rfl, fun i => frozen_of_row _ _ _ _ _ hh, Nat.le_refl _, by simp⟩, hb⟩⟩
theorem refdev_any (f : Nat → Nat) (w : World) : Calls Try.prog 56 #[.agg (cellsOf .u8 2 f)] w (GaveN w 2 f) := by
  have ga := World.grownBy_alloc w (.cells (cellsOf .u8 2 f) 26) none
  have hn := holds_alloc w 26 .u8 2 f _ rfl
  have c0 := hn.cell 0 (by decide)
  have c1 := hn.cell 1 (by decide)
  have hz := World.size_alloc w (.cells (cellsOf .u8 2 f) 26)
  have HG := Lib.hid ga
  have HZ := Lib.hid hz
  clear ga hn hz
  go_enter Try.func56, Try.ntmps56
  go_wp2_with fail
  go_ret
  have g2 := World.grownBy_alloc (w.alloc (.cells (cellsOf .u8 2 f) 26)) (.cells (cellsOf .u8 2 f) 5) none
  have hO := ownN_row (w.alloc (.cells (cellsOf .u8 2 f) 26)) 2 f w.heap.size (by rw [HZ.out]; omega)
  rw [HZ.out] at hO
  exact ⟨_, rfl, hO, grown_trans HG.out g2⟩
end Go.Proofs.Ytmbefbmpjkbnmaa
