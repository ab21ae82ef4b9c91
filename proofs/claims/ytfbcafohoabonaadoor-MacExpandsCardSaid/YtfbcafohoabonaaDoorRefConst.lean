/-
  The document's own tables of layer 1.
-/
import Derived.Test.YtfbcafohoabonaaDoorConsts
import Derived.Test.YtfbcafohoabonaaDoorWords
namespace Go.Proofs.YtfbcafohoabonaaDoor
open Go.RowKit

set_option maxRecDepth 100000
set_option maxHeartbeats 1000000

/-- Words of a new block. -/
structure GaveH (w : World) (n : Nat) (f : Nat → Nat) (e : Ending) (w' : World) : Prop where
  ex : ∃ r, e = .returned (.slice (some ⟨r, 0, none⟩) n n) ∧ w.heap.size ≤ r ∧ Holds w' r 53 .u64 n f ∧ w.grownBy w' none

theorem First_any (w : World) : Calls Tryd.prog 29 #[] w (GaveH w 8 FC) := by
  have hH := fun C e => holds_alloc w 53 .u64 8 FC C e
  have HH := Lib.hid hH
  clear hH
  go_enter Tryd.func29, Tryd.ntmps29
  go_wp2_with fail
  go_ret
  exact ⟨_, rfl, Nat.le_refl _, HH.out _ (by kernel_rfl), World.grownBy_alloc w _ none⟩

theorem Constants_any (w : World) : Calls Tryd.prog 30 #[] w (GaveH w 80 KC) := by
  have hH := fun C e => holds_alloc w 53 .u64 80 KC C e
  have HH := Lib.hid hH
  clear hH
  go_enter Tryd.func30, Tryd.ntmps30
  go_wp2_with fail
  go_ret
  exact ⟨_, rfl, Nat.le_refl _, HH.out _ (by kernel_rfl), World.grownBy_alloc w _ none⟩

end Go.Proofs.YtfbcafohoabonaaDoor
