/-
  The document's own tables of layer 1.
-/
import Derived.Test.YtopepbkpcfbegaaDoorConsts
import Derived.Test.YtopepbkpcfbegaaDoorWords
namespace Go.Proofs.YtopepbkpcfbegaaDoor
open Go.RowKit

set_option maxRecDepth 100000
set_option maxHeartbeats 1000000

/-- Words of a new block. -/
structure GaveH (w : World) (n : Nat) (f : Nat → Nat) (e : Ending) (w' : World) : Prop where
  ex : ∃ r, e = .returned (.slice (some ⟨r, 0, none⟩) n n) ∧ w.heap.size ≤ r ∧ Holds w' r 58 .u64 n f ∧ w.grownBy w' none

theorem First_any (w : World) : Calls Tryd.prog 51 #[] w (GaveH w 8 FC) := by
  have hH := fun C e => holds_alloc w 58 .u64 8 FC C e
  have HH := Lib.hid hH
  clear hH
  go_enter Tryd.func51, Tryd.ntmps51
  go_wp2_with fail
  go_ret
  exact ⟨_, rfl, Nat.le_refl _, HH.out _ (by kernel_rfl), World.grownBy_alloc w _ none⟩

theorem Constants_any (w : World) : Calls Tryd.prog 52 #[] w (GaveH w 80 KC) := by
  have hH := fun C e => holds_alloc w 58 .u64 80 KC C e
  have HH := Lib.hid hH
  clear hH
  go_enter Tryd.func52, Tryd.ntmps52
  go_wp2_with fail
  go_ret
  exact ⟨_, rfl, Nat.le_refl _, HH.out _ (by kernel_rfl), World.grownBy_alloc w _ none⟩

end Go.Proofs.YtopepbkpcfbegaaDoor
