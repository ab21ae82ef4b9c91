/-
  An operation of a walk that is wanted, by its run: a load, a comparison. No program is named here.
-/
import Derived.Test.YtobaplndoaeoiaaDoorBase
import Derived.Test.YtobaplndoaeoiaaDoorOrd
namespace Go.Proofs.YtobaplndoaeoiaaDoor
open Go.RowKit

section
variable {P : Program} {ops : Array Oper} {Q : Exit → Act → World → Prop} {rest : List Oper} {o : Oper} {a : Act} {w w' : World}
theorem wpList_want {v : Value} (hw : Region.wanted o (yielded ops a.tmps) = true) (hr : (execOp a.eval o).run P w = .ok (.value v) w') (hk : wpList P ops Q rest (a.put o.dst v) w') : wpList P ops Q (o :: rest) a w := by
  unfold wpList
  rw [if_pos hw]
  exact Or.inl (wp_yields hr hk)
/-- Ahead of a try of these, by 'with_reducible refine': else a try at another goal runs away. -/
theorem wpList_here (h : wpList P ops Q (o :: rest) a w) : wpList P ops Q (o :: rest) a w := h
theorem wpList_ld {T : TypeId} {p v : Value} (t : Tmp) (ho : o.op = .load T (.tmp t)) (hw : Region.wanted o (yielded ops a.tmps) = true) (ha : a.eval (.tmp t) = p) (h : (Instr.loadAt T p).run P w = .ok v w) (hk : wpList P ops Q rest (a.put o.dst v) w) : wpList P ops Q (o :: rest) a w := by
  refine wpList_want hw ?_ hk
  unfold execOp
  simp only [ho, ha, Sem.run_bind, Sem.run_pure, Result.andThen_ok, h]
theorem wpList_eq {T : TypeId} {v1 v2 v : Value} (t1 t2 : Tmp) (ho : o.op = .binOp .eql T (.tmp t1) (.tmp t2) T) (hw : Region.wanted o (yielded ops a.tmps) = true) (h1 : a.eval (.tmp t1) = v1) (h2 : a.eval (.tmp t2) = v2) (hg : (eqGuard .eql T (.tmp t1) (.tmp t2) v1 v2).run P w = .ok () w) (h : (binOp .eql T v1 v2).run P w = .ok v w) (hk : wpList P ops Q rest (a.put o.dst v) w) : wpList P ops Q (o :: rest) a w := by
  refine wpList_want hw ?_ hk
  unfold execOp
  simp only [ho, h1, h2]
  simp only [Sem.run_bind, Sem.run_pure, Result.andThen_ok, hg, h]
end
end Go.Proofs.YtobaplndoaeoiaaDoor
