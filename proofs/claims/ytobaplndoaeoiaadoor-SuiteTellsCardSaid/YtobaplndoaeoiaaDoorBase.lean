/-
  What every text of this seat stands on.
-/
import Derived.Test.YtobaplndoaeoiaaDoorRows
import Derived.Test.YtobaplndoaeoiaaDoorShaMath
import Derived.WalkKit
import Derived.WalkSpells
import Derived.WalkLawsBesides
import Derived.KernelRfl
import Derived.Outline
import Derived.Lib.Hide
import Derived.Deep.QuietTactic
import Derived.BigQuiet
import Derived.Deep.RegionWith
namespace Go.Proofs.YtobaplndoaeoiaaDoor

theorem getD_lt (n : Nat) (hn : 0 < n) : ∀ (l : List Nat), (∀ x ∈ l, x < n) → ∀ i, l.getD i 0 < n
  | [], _, _ => by simpa using hn
  | x :: l, h, 0 => by simpa using h x (by simp)
  | x :: l, h, i + 1 => by
    have := getD_lt n hn l (fun y hy => h y (by simp [hy])) i
    simpa using this
end Go.Proofs.YtobaplndoaeoiaaDoor
