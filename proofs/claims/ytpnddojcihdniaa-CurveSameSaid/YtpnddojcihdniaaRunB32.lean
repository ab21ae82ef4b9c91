/-
  A load of 32 bytes; the number 0.
-/
import Derived.Test.YtpnddojcihdniaaOrd3
import Derived.Test.YtpnddojcihdniaaFieldBits
namespace Go.Proofs.Ytpnddojcihdniaa
open Go.RowKit

theorem run_b32 {o : Oper} {a : Act} {W : World} {B : Nat} {f : Nat → Nat} {t : Tmp} (h : Holds W B 22 .u8 32 f) (ho : o.op = .load 22 (.tmp t)) (ha : a.eval (.tmp t) = .pointer (some ⟨B, 0, none⟩)) :
    (execOp a.eval o).run Try.prog W = .ok (.value (.agg (cellsOf .u8 32 f))) W := run_row 22 (.array 32 5) h ho ha (by kernel_rfl) rfl (by kernel_rfl)
theorem smL_zero : smL 0 = fun _ => 0 := by
  funext i
  match i with
  | 0 => rfl
  | 1 => rfl
  | 2 => rfl
  | 3 => rfl
  | _ + 4 => rfl
end Go.Proofs.Ytpnddojcihdniaa
