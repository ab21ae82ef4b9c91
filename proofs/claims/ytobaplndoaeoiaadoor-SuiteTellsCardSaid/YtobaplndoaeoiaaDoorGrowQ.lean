/-
  A region that draws its order and whose operations read, or call what only makes memory: walked once, in the text's order.
-/
import Derived.Test.YtobaplndoaeoiaaDoorBase
import Derived.Deep.Quiet
namespace Go.Proofs.YtobaplndoaeoiaaDoor
open Go.RowKit

theorem exec_fn0 {o : Oper} {a : Act} (f : FuncId) {ats : Array TypeId} (hop : o.op = .call { callee := .value (.func f), args := #[], argTypes := ats }) : execOp a.eval o = callFunc f #[] := by
  unfold execOp
  simp [hop, resolve, Deferred.ofValue, invoke, Act.eval]
theorem exec_fn1 {o : Oper} {a : Act} (f : FuncId) (t1 : Operand) (v1 : Value) {ats : Array TypeId} (hop : o.op = .call { callee := .value (.func f), args := #[t1], argTypes := ats }) (h1 : a.eval t1 = v1) :
    execOp a.eval o = callFunc f #[v1] := by
  have e1 : execOp a.eval o = callFunc f #[a.eval t1] := by
    unfold execOp
    simp [hop, resolve, Deferred.ofValue, invoke, Act.eval]
  rw [e1, h1]
theorem exec_fn2 {o : Oper} {a : Act} (f : FuncId) (t1 t2 : Operand) (v1 v2 : Value) {ats : Array TypeId} (hop : o.op = .call { callee := .value (.func f), args := #[t1, t2], argTypes := ats }) (h1 : a.eval t1 = v1)
    (h2 : a.eval t2 = v2) : execOp a.eval o = callFunc f #[v1, v2] := by
  have e1 : execOp a.eval o = callFunc f #[a.eval t1, a.eval t2] := by
    unfold execOp
    simp [hop, resolve, Deferred.ofValue, invoke, Act.eval]
  rw [e1, h1, h2]
theorem exec_fn3 {o : Oper} {a : Act} (f : FuncId) (t1 t2 t3 : Operand) (v1 v2 v3 : Value) {ats : Array TypeId} (hop : o.op = .call { callee := .value (.func f), args := #[t1, t2, t3], argTypes := ats }) (h1 : a.eval t1 = v1)
    (h2 : a.eval t2 = v2) (h3 : a.eval t3 = v3) : execOp a.eval o = callFunc f #[v1, v2, v3] := by
  have e1 : execOp a.eval o = callFunc f #[a.eval t1, a.eval t2, a.eval t3] := by
    unfold execOp
    simp [hop, resolve, Deferred.ofValue, invoke, Act.eval]
  rw [e1, h1, h2, h3]

section
variable {P : Program} {ops : Array Oper} {C : World → Prop} {Q : Act → Prop} {a : Act} {o : Oper} {rest : List Oper} {v : Value}

theorem wpQ_val (d : Option Tmp) (hw : Region.wanted o (yielded ops a.tmps) = true) (hd : o.dst = d) (hv : ∀ W, C W → (execOp a.eval o).run P W = .ok (.value v) W)
    (h : wpQuiet P ops C Q rest (a.put d v)) : wpQuiet P ops C Q (o :: rest) a := by
  subst hd
  refine wpQuiet_step fun K hK => ?_
  rw [if_pos hw]
  refine ⟨v, fun W hC => ?_, hK _ h⟩
  unfold Oper.quietAt
  rw [hv W hC]
  exact ⟨rfl, rfl⟩
theorem wpQ_skip (d : Option Tmp) (hw : Region.wanted o (yielded ops a.tmps) = false) (hd : o.dst = d) (h : wpQuiet P ops C Q rest (a.put d undef)) : wpQuiet P ops C Q (o :: rest) a := by
  subst hd
  refine wpQuiet_step fun K hK => ?_
  rw [if_neg (by rw [hw]; exact Bool.false_ne_true)]
  exact hK _ h
theorem wpQ_call (d : Option Tmp) (f : FuncId) (args : Array Value) (hw : Region.wanted o (yielded ops a.tmps) = true) (hd : o.dst = d) (he : execOp a.eval o = callFunc f args)
    (hent : ∀ args w, (callFunc f args).run P w = .ok (.enter f args) w) (hc : ∀ W, C W → Calls P f args W fun e w' => e = .returned v ∧ C w')
    (h : wpQuiet P ops C Q rest (a.put d v)) : wpQuiet P ops C Q (o :: rest) a := by
  subst hd
  refine wpQuiet_step fun K hK => ?_
  rw [if_pos hw]
  refine ⟨v, fun W hC => ?_, hK _ h⟩
  unfold Oper.quietAt
  rw [he, hent]
  exact ⟨rfl, hc W hC⟩
end

end Go.Proofs.YtobaplndoaeoiaaDoor
