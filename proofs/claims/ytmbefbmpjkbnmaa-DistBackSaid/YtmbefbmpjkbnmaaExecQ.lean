/-
  Operations by their run: a load, an append.
-/
import Derived.Test.YtmbefbmpjkbnmaaRowRun

import Derived.Test.YtmbefbmpjkbnmaaRefSign1
import Derived.Test.YtmbefbmpjkbnmaaRefSign2
import Derived.Shelf.Abstract
namespace Go.Proofs.Ytmbefbmpjkbnmaa
open Go.RowKit

set_option maxRecDepth 100000

theorem exec_loadQ {o : Oper} {a : Act} {w : World} {T : TypeId} (x : Operand) (p v : Value) (ho : o.op = .load T x) (hx : a.eval x = p) (h : (Instr.loadAt T p).run Try.prog w = .ok v w) : (execOp a.eval o).run Try.prog w = .ok (.value v) w := by
  unfold execOp
  simp only [ho, hx, Sem.run_bind, h, Result.andThen_ok, Sem.run_pure]
theorem exec_appendQ {o : Oper} {a : Act} {w w' : World} (x y : Operand) (vx vy v : Value) (ho : o.op = .call { callee := .builtin .append, args := #[x, y], argTypes := #[39, 39] }) (ht : o.type = 39) (hx : a.eval x = vx) (hy : a.eval y = vy)
    (h : (Builtin.append_ #[39, 39] 39 #[vx, vy]).run Try.prog w = .ok v w') : (execOp a.eval o).run Try.prog w = .ok (.value v) w' := by
  unfold execOp
  simp [ho, ht, resolve, invoke, builtin, hx, hy, h, Result.andThen]
theorem load_u32Q {w : World} {B o v : Nat} (h : w.cell? ⟨B, o, none⟩ = some (.int .u32 v)) : (Instr.loadAt 34 (.pointer (some ⟨B, o, none⟩))).run Try.prog w = .ok (.int .u32 v) w := by go_simp
theorem keyQ_enters : ∀ args w, (callFunc 57 args).run Try.prog w = .ok (.enter 57 args) w := enters_of Try.func57 (by kernel_rfl) rfl
theorem numberQ_enters : ∀ args w, (callFunc 55 args).run Try.prog w = .ok (.enter 55 args) w := enters_of Try.func55 (by kernel_rfl) rfl
end Go.Proofs.Ytmbefbmpjkbnmaa
