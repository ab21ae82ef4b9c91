/-
  A store by its run; a result that is a block's cells. No program is named here.
-/
import Derived.Test.YtobaplndoaeoiaaDoorRowAt
import Derived.Test.YtobaplndoaeoiaaDoorOrd3
namespace Go.Proofs.YtobaplndoaeoiaaDoor
open Go.RowKit

set_option maxRecDepth 100000

theorem wpList_st {P : Program} {ops : Array Oper} {Q : Exit → Act → World → Prop} {rest : List Oper} {o : Oper} {a : Act} {w w' : World} {T : TypeId} {p v : Value} (x y : Operand) (ho : o.op = .store T x y) (hd : o.dst = none) (hw : Region.wanted o (yielded ops a.tmps) = true) (hx : a.eval x = p) (hy : a.eval y = v) (h : (Instr.storeAt T p v).run P w = .ok () w') (hk : wpList P ops Q rest a w') : wpList P ops Q (o :: rest) a w := by
  unfold wpList
  rw [if_pos hw]
  refine Or.inl ?_
  have he : (execOp a.eval o).run P w = .ok .skip w' := by
    unfold execOp
    simp only [ho, hx, hy, Sem.run_bind, h, Result.andThen_ok, Sem.run_pure]
  unfold Oper.wp
  rw [he, Oper.upon_skip, hd]
  exact hk
/-- A result that is a block's cells. -/
theorem res_rowAt {P : Program} {fn : Func} {p : Tmp} {T : TypeId} {n : Nat} {v : Nat → Value} {tmps : Array Value} {w : World} {g : Nat} {t : TypeId} (h : fn.results = #[.cell p T]) (hp : tmps.getD p undef = .pointer (some ⟨g, 0, none⟩)) (H : RowAt w g t n v)
    (hu : (P.underlying T).map (fun d => match d with | .struct _ | .array _ _ => true | _ => false) = some true) (hi : (P.info? T).map (·.size) = some n) : (results fn tmps).run P w = .ok (.agg (rowOf n v)) w := by
  obtain ⟨d, h1, h2⟩ := under_row hu
  exact results_cell_row h tmps w g t _ (0, 0) d hp H.block h1 (by cases d <;> first | rfl | exact h2) (by rw [rowOf_size]; exact hi)
/-- Likewise, with a value beside. -/
theorem res_rowAt2 {P : Program} {fn : Func} {p q : Tmp} {T : TypeId} {n : Nat} {v : Nat → Value} {x : Value} {tmps : Array Value} {w : World} {g : Nat} {t : TypeId} (hr : fn.results = #[.cell p T, .tmp q]) (hp : tmps.getD p undef = .pointer (some ⟨g, 0, none⟩)) (hq : tmps.getD q undef = x) (H : RowAt w g t n v)
    (hu : (P.underlying T).map (fun d => match d with | .struct _ | .array _ _ => true | _ => false) = some true) (hi : (P.info? T).map (·.size) = some n) : (results fn tmps).run P w = .ok (.tuple #[.agg (rowOf n v), x]) w := by
  obtain ⟨d, d1, d2⟩ := under_row hu
  have hp' : tmps[p]?.getD undef = .pointer (some ⟨g, 0, none⟩) := by simpa using hp
  have hq' : tmps[q]?.getD undef = x := by simpa using hq
  have r1 := run_loadVar_row (P := P) w g t T (rowOf n v) (0, 0) d H.block d1 (by cases d <;> first | rfl | exact d2) (by rw [rowOf_size]; exact hi)
  simp [results, hr, hp', hq', asAddr, r1]
/-- A block that is new may be written to. -/
theorem grown_into {w w1 w2 : World} {g : Nat} (h1 : w.grownBy w1 none) (h2 : w1.grownBy w2 (some g)) (hg : w.heap.size ≤ g) : w.grownBy w2 none := by
  have h := grown_trans (grown_some (row := some g) h1) h2
  exact ⟨h.os, h.tape, h.output, h.size, fun k hk _ => h.block k hk (by intro e; cases e; omega)⟩
end Go.Proofs.YtobaplndoaeoiaaDoor
