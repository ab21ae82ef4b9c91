/-
  n bytes in a slice of their own.
-/
import Derived.Test.YtmbefbmpjkbnmaaWireM
import Derived.Test.YtmbefbmpjkbnmaaMake
import Derived.Test.YtmbefbmpjkbnmaaOwnR
namespace Go.Proofs.Ytmbefbmpjkbnmaa
open Go.RowKit

set_option maxRecDepth 100000
set_option maxHeartbeats 4000000

theorem Fill.own {w : World} {b n : Nat} {f : Nat → Nat} (h : Fill w b n f) (hn : 0 < n) : OwnR w b n n f :=
  ⟨h.cell, fun i hi => by rw [h.cell i hi]; rfl, h.free, Nat.le_refl _, h.lt hn⟩
/-- n bytes in a slice of their own. -/
structure GaveF (w : World) (n : Nat) (f : Nat → Nat) (e : Ending) (w' : World) : Prop where
  ex : ∃ b, e = .returned (.slice (some ⟨b, 0, none⟩) n n) ∧ w.heap.size ≤ b ∧ Fill w' b n f
  gr : w.grownBy w' none
end Go.Proofs.Ytmbefbmpjkbnmaa
