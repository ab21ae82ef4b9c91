/-
  Operations by their run: a load, an append.
-/
import Derived.Test.YtdamlgnloecplaaRowRun

import Derived.Test.YtdamlgnloecplaaRefSign1
import Derived.Test.YtdamlgnloecplaaRefSign2
import Derived.Shelf.Abstract
namespace Go.Proofs.Ytdamlgnloecplaa
open Go.RowKit

set_option maxRecDepth 100000

theorem exec_loadQ {o : Oper} {a : Act} {w : World} {T : TypeId} (x : Operand) (p v : Value) (ho : o.op = .load T x) (hx : a.eval x = p) (h : (Instr.loadAt T p).run Try.prog w = .ok v w) : (execOp a.eval o).run Try.prog w = .ok (.value v) w := by
  unfold execOp
  simp only [ho, hx, Sem.run_bind, h, Result.andThen_ok, Sem.run_pure]
theorem exec_appendQ {o : Oper} {a : Act} {w w' : World} (x y : Operand) (vx vy v : Value) (ho : o.op = .call { callee := .builtin .append, args := #[x, y], argTypes := #[22, 22] }) (ht : o.type = 22) (hx : a.eval x = vx) (hy : a.eval y = vy)
    (h : (Builtin.append_ #[22, 22] 22 #[vx, vy]).run Try.prog w = .ok v w') : (execOp a.eval o).run Try.prog w = .ok (.value v) w' := by
  unfold execOp
  simp [ho, ht, resolve, invoke, builtin, hx, hy, h, Result.andThen]
theorem load_u32Q {w : World} {B o v : Nat} (h : w.cell? ⟨B, o, none⟩ = some (.int .u32 v)) : (Instr.loadAt 36 (.pointer (some ⟨B, o, none⟩))).run Try.prog w = .ok (.int .u32 v) w := by go_simp
theorem keyQ_enters : ∀ args w, (callFunc 85 args).run Try.prog w = .ok (.enter 85 args) w := enters_of Try.func85 (by kernel_rfl) rfl
theorem numberQ_enters : ∀ args w, (callFunc 83 args).run Try.prog w = .ok (.enter 83 args) w := enters_of Try.func83 (by kernel_rfl) rfl
end Go.Proofs.Ytdamlgnloecplaa
