/-
  What a row's condition on a table of numbers gives.
-/
import Derived.Test.YtmbefbmpjkbnmaaLaw
import Derived.Test.YtmbefbmpjkbnmaaRows
import Derived.Stop.Joined
import Derived.LaidLaws
namespace Go.Proofs.Ytmbefbmpjkbnmaa
open Go.ChangeShapes Go.WideShapes Go.ChangeAt Go.RowKit

theorem getElem?_of_take_drop {α : Type} (l : List α) (i : Nat) (x : α) (h : (l.drop i).take 1 = [x]) : l[i]? = some x := by
  have h1 : ((l.drop i).take 1)[0]? = some x := by rw [h]; rfl
  simpa using h1

/-- A table of numbers, read. -/
theorem ints_of_trod {H : Type} {enc : TypeId × Value → H} {P : Program} {w : World} {base : Nat} {spare : Nat → Bool} {held : Bool} {fuel : Nat} {t e : TypeId} {k : IntKind} {n : Nat} {cs : List Value} {d : DataW H} {ps : List MemPlace} (L : List Int)
    (ht : P.underlying t = some (.array n e)) (he : P.underlying e = some (.int k)) (hc : P.cellsOf e = 1) (hd : DataW.trod enc P w base spare held fuel t cs = some (d, ps)) (hx : d = .agg (L.map fun z => .lit (.int k z))) :
    ∀ i, i < n → cs[i]? = some (.int k (L.getD i 0)) := by
  subst hx
  obtain ⟨xs, m, rfl, hx, _, hn, hel⟩ := DataW.trod_array ht hd
  intro i hi
  have h1 := hel i hi
  rw [hc, Nat.mul_one] at h1
  have hxi : xs[i]? = some xs[i] := List.getElem?_eq_getElem (by omega)
  rw [hxi] at h1
  obtain ⟨q, e1, e2, _⟩ := DataW.trod_int he h1
  have h2 : L.map (fun z => (DataW.lit (.int k z) : DataW H)) = xs.map (·.1) := by
    have := congrArg Prod.fst hx
    simpa using this
  have h3 : (L.map (fun z => (DataW.lit (.int k z) : DataW H)))[i]? = some (.lit (.int k q)) := by
    rw [h2]; simp [hxi, e2]
  have h4 : L[i]? = some q := by
    rw [List.getElem?_map] at h3
    cases hL : L[i]? with
    | none => rw [hL] at h3; cases h3
    | some z => rw [hL] at h3; simpa using h3
  rw [List.getD, h4]
  exact getElem?_of_take_drop cs i _ e1

theorem own : ownKnob Try.prog.godebug = none := by kernel_rfl
theorem laidOut : laidOutB Try.prog = true := by kernel_rfl

end Go.Proofs.Ytmbefbmpjkbnmaa
