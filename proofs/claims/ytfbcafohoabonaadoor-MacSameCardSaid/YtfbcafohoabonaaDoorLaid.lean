/-
  What the rows' condition on sha's two tables gives.
-/
import Derived.Test.YtfbcafohoabonaaDoorLaw
import Derived.Test.YtfbcafohoabonaaDoorConsts
import Derived.Test.YtfbcafohoabonaaDoorRows
import Derived.Stop.Joined
import Derived.LaidLaws
namespace Go.Proofs.YtfbcafohoabonaaDoor
open Go.ChangeShapes Go.WideShapes Go.ChangeAt Go.RowKit

theorem getElem?_of_take_drop {α : Type} (l : List α) (i : Nat) (x : α) (h : (l.drop i).take 1 = [x]) : l[i]? = some x := by
  have h1 : ((l.drop i).take 1)[0]? = some x := by rw [h]; rfl
  simpa using h1

/-- A table of numbers, read. -/
theorem ints_of_trod {H : Type} {enc : TypeId × Value → H} {P : Program} {w : World} {base : Nat} {spare : Nat → Bool} {held : Bool} {fuel : Nat} {t e : TypeId} {k : IntKind} {n : Nat} {cs : List Value} {d : DataW H} {ps : List MemPlace} (L : List Int)
    (ht : P.underlying t = some (.array n e)) (he : P.underlying e = some (.int k)) (hc : P.cellsOf e = 1) (hd : DataW.trod enc P w base spare held fuel t cs = some (d, ps)) (hx : d = .agg (L.map fun z => .lit (.int k z))) :
    ∀ i, i < n → cs[i]? = some (.int k (L.getD i 0)) := by
  subst hx
  obtain ⟨xs, m, rfl, hx, _, hn, hel⟩ := DataW.trod_array ht hd
  intro i hi
  have h1 := hel i hi
  rw [hc, Nat.mul_one] at h1
  have hxi : xs[i]? = some xs[i] := List.getElem?_eq_getElem (by omega)
  rw [hxi] at h1
  obtain ⟨q, e1, e2, _⟩ := DataW.trod_int he h1
  have h2 : L.map (fun z => (DataW.lit (.int k z) : DataW H)) = xs.map (·.1) := by
    have := congrArg Prod.fst hx
    simpa using this
  have h3 : (L.map (fun z => (DataW.lit (.int k z) : DataW H)))[i]? = some (.lit (.int k q)) := by
    rw [h2]; simp [hxi, e2]
  have h4 : L[i]? = some q := by
    rw [List.getElem?_map] at h3
    cases hL : L[i]? with
    | none => rw [hL] at h3; cases h3
    | some z => rw [hL] at h3; simpa using h3
  rw [List.getD, h4]
  exact getElem?_of_take_drop cs i _ e1

theorem gBegin : Tryd.prog.globalNamed "hailer/sha.beginWords" = some 1 := by kernel_rfl
theorem gRound : Tryd.prog.globalNamed "hailer/sha.roundWords" = some 2 := by kernel_rfl
theorem tBegin : (Tryd.prog.globals[1]?).map (·.type) = some 82 := by kernel_rfl
theorem tRound : (Tryd.prog.globals[2]?).map (·.type) = some 94 := by kernel_rfl
theorem own : ownKnob Tryd.prog.godebug = none := by kernel_rfl
theorem laidOut : laidOutB Tryd.prog = true := by kernel_rfl

def theLaid : List (String × DataW Unit) := [("hailer/sha.beginWords", Rows.laid_hailer_sha_beginWords), ("hailer/sha.roundWords", Rows.laid_hailer_sha_roundWords)]

set_option maxRecDepth 100000 in
theorem of_laid {W : World} (h : laidMetH Tryd.prog theLaid W) : Laid W 1 2 FC KC := by
  rw [MakeChecks.laidMetH_plain _ _ _ (by kernel_rfl)] at h
  obtain ⟨ps, ⟨g0, t0, cs0, f0, p0, q0, hg0, ht0, hv0, hd0, ⟨g1, t1, cs1, f1, p1, q1, hg1, ht1, hv1, hd1, _, _⟩, _⟩, _, _⟩ := h
  obtain rfl := Option.some.inj (gBegin.symm.trans hg0)
  obtain rfl := Option.some.inj (gRound.symm.trans hg1)
  obtain rfl := Option.some.inj (tBegin.symm.trans ht0)
  obtain rfl := Option.some.inj (tRound.symm.trans ht1)
  have c0 := ints_of_trod (P := Tryd.prog) (n := 8) (e := 53) (k := .u64) (FL.map Int.ofNat) (by kernel_rfl) (by kernel_rfl) (by kernel_rfl) hd0 (by rfl)
  have c1 := ints_of_trod (P := Tryd.prog) (n := 80) (e := 53) (k := .u64) (KL.map Int.ofNat) (by kernel_rfl) (by kernel_rfl) (by kernel_rfl) hd1 (by rfl)
  have hget : ∀ (l : List Nat) i, (l.map Int.ofNat).getD i 0 = ((l.getD i 0 : Nat) : Int) := fun l i => by
    by_cases h : i < l.length
    · simp [List.getD, h]
    · simp [List.getD, List.getElem?_eq_none (Nat.le_of_not_lt h)]
  constructor
  · intro i hi
    rw [World.var?_cell hg0 hv0 i]
    have := c0 i hi
    rw [hget, Array.getElem?_toList] at this
    exact this
  · intro i hi
    rw [World.var?_cell hg1 hv1 i]
    have := c1 i hi
    rw [hget, Array.getElem?_toList] at this
    exact this

/-- The door's own heap meets the condition. -/
theorem door_met (os : Os) (args : Array Value) : laidMetH Tryd.prog theLaid ((World.doorLaid Tryd.prog 400 os).forCall (fun _ _ => 0) ⟨#[], args, []⟩).memory :=
  laidMetH_of_parts3 (fuel := 8) (laidMet_of_run' 8 (by kernel_rfl) (by kernel_rfl)) (by kernel_rfl) (by kernel_rfl)

end Go.Proofs.YtfbcafohoabonaaDoor
