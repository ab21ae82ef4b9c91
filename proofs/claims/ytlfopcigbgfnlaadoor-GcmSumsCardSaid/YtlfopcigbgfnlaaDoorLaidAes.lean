/-
  What the rows' condition on the table of package aes gives.
-/
import Derived.Test.YtlfopcigbgfnlaaDoorOpenArr
import Derived.Test.YtlfopcigbgfnlaaDoorAesLeaf
namespace Go.Proofs.YtlfopcigbgfnlaaDoor
open Go.ChangeShapes Go.WideShapes Go.ChangeAt Go.RowKit

theorem gS : Tryd.prog.globalNamed "hailer/aes.sWords" = some 0 := by kernel_rfl
theorem tS : (Tryd.prog.globals[0]?).map (·.type) = some 89 := by kernel_rfl

def theLaidA : List (String × DataW Unit) := [("hailer/aes.sWords", Rows.laid_hailer_aes_sWords)]

set_option maxRecDepth 100000 in
theorem of_laidA {W : World} (h : laidMetH Tryd.prog theLaidA W) : LaidS W 0 ∧ 0 < W.heap.size := by
  rw [MakeChecks.laidMetH_plain _ _ _ (by kernel_rfl)] at h
  obtain ⟨ps, ⟨g0, t0, cs0, f0, p0, q0, hg0, ht0, hv0, hd0, _, _⟩, _, _⟩ := h
  obtain rfl := Option.some.inj (gS.symm.trans hg0)
  obtain rfl := Option.some.inj (tS.symm.trans ht0)
  have c0 := ints_of_trod (P := Tryd.prog) (n := 32) (e := 39) (k := .u64) (swL.map Int.ofNat) (by kernel_rfl) (by kernel_rfl) (by kernel_rfl) hd0 (by rfl)
  have hget : ∀ (l : List Nat) i, (l.map Int.ofNat).getD i 0 = ((l.getD i 0 : Nat) : Int) := fun l i => by
    by_cases h : i < l.length
    · simp [List.getD, h]
    · simp [List.getD, List.getElem?_eq_none (Nat.le_of_not_lt h)]
  have hat : ∀ i, i < 32 → W.cell? ⟨0, i, none⟩ = some (.int .u64 (SW i)) := fun i hi => by
    rw [World.var?_cell hg0 hv0 i]
    have := c0 i hi
    rw [hget, Array.getElem?_toList] at this
    exact this
  exact ⟨⟨hat⟩, World.block_lt_of_cell? W _ (hat 0 (by decide))⟩

/-- The door's own heap meets the condition. -/
theorem door_metA (os : Os) (args : Array Value) : laidMetH Tryd.prog theLaidA ((World.doorLaid Tryd.prog 400 os).forCall (fun _ _ => 0) ⟨#[], args, []⟩).memory :=
  laidMetH_of_parts3 (fuel := 8) (laidMet_of_run' 8 (by kernel_rfl) (by kernel_rfl)) (by kernel_rfl) (by kernel_rfl)

end Go.Proofs.YtlfopcigbgfnlaaDoor
