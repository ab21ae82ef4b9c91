/-
  A type whose values lie in a row of cells; a result that does. No program is named here.
-/
import Derived.Test.YtobaplndoaeoiaaDoorCells
import Derived.Test.YtobaplndoaeoiaaDoorBase
namespace Go.Proofs.YtobaplndoaeoiaaDoor
open Go.RowKit

set_option maxRecDepth 100000

theorem under_row {P : Program} {T : TypeId} (h : (P.underlying T).map (fun d => match d with | .struct _ | .array _ _ => true | _ => false) = some true) : ∃ d, P.underlying T = some d ∧ (match d with | .struct _ | .array _ _ => true | _ => false) = true := by
  cases hd : P.underlying T with
  | none => rw [hd] at h; cases h
  | some d => rw [hd] at h; exact ⟨d, rfl, by simpa using h⟩
/-- A result that lies in a block of numbers. -/
theorem res_row {P : Program} {fn : Func} {p : Tmp} {T : TypeId} {n : Nat} {k : IntKind} {f : Nat → Nat} {tmps : Array Value} {w : World} {g : Nat} {t : TypeId} (h : fn.results = #[.cell p T]) (hp : tmps.getD p undef = .pointer (some ⟨g, 0, none⟩)) (H : Holds w g t k n f)
    (hu : (P.underlying T).map (fun d => match d with | .struct _ | .array _ _ => true | _ => false) = some true) (hi : (P.info? T).map (·.size) = some n) : (results fn tmps).run P w = .ok (.agg (cellsOf k n f)) w := by
  obtain ⟨d, h1, h2⟩ := under_row hu
  exact results_cell_row h tmps w g t _ (0, 0) d hp H.block h1 (by cases d <;> first | rfl | exact h2) (by rw [cellsOf_size]; exact hi)
end Go.Proofs.YtobaplndoaeoiaaDoor
