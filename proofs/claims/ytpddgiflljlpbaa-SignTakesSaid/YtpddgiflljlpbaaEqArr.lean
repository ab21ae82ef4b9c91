/-
  Whether 32 bytes are one with 32 others.
-/
import Derived.Test.YtpddgiflljlpbaaOwnR
import Derived.Test.YtpddgiflljlpbaaSays
import Derived.ChangeKeysEq
namespace Go.Proofs.Ytpddgiflljlpbaa
open Go.RowKit

set_option maxRecDepth 100000

def eqN (n : Nat) (f g : Nat → Nat) : Bool := (List.range n).all fun i => f i == g i
theorem eqN_iff (n : Nat) (f g : Nat → Nat) : eqN n f g = true ↔ ∀ i, i < n → f i = g i := by
  unfold eqN
  rw [List.all_eq_true]
  simp
theorem eqN_refl (n : Nat) (f : Nat → Nat) : eqN n f f = true := (eqN_iff n f f).2 (fun _ _ => rfl)

theorem run_itemsN (d n : Nat) (f g : Nat → Nat) (w : World) : ∀ is : List Nat, (∀ i ∈ is, i < n) →
    (Op.eqItems (d + 1) 5 1 (cellsOf .u8 n f) (cellsOf .u8 n g) is).run Try.prog w = .ok (is.all fun i => f i == g i) w
  | [], _ => by simp [Op.eqItems]
  | i :: is, h => by
    have hi := h i (by simp)
    have hp : Try.prog.plainKey 5 = true := by kernel_rfl
    have p1 := run_part_plain w (P := Try.prog) hp (xs := cellsOf .u8 n f) (off := i * 1) (v := .int .u8 (f i)) (by rw [Nat.mul_one, cellsOf_get _ _ _ _ hi])
    have p2 := run_part_plain w (P := Try.prog) hp (xs := cellsOf .u8 n g) (off := i * 1) (v := .int .u8 (g i)) (by rw [Nat.mul_one, cellsOf_get _ _ _ _ hi])
    have p3 := run_equalIn_int (P := Try.prog) w d 5 .u8 .u8 (f i : Int) (g i : Int) (by kernel_rfl)
    have ih := run_itemsN d n f g w is (fun j hj => h j (by simp [hj]))
    have e : ((f i : Int) == (g i : Int)) = (f i == g i) := by rw [Bool.eq_iff_iff]; simp only [beq_iff_eq]; omega
    simp only [Op.eqItems, Sem.run_bind, p1, p2, p3, Result.andThen_ok, List.all_cons, e]
    cases hb : (f i == g i)
    · simp
    · simpa using ih

theorem run_eq32 (f g : Nat → Nat) (w : World) : (Op.equalIn 10000 30 (.agg (cellsOf .u8 32 f)) (.agg (cellsOf .u8 32 g))).run Try.prog w = .ok (eqN 32 f g) w := by
  obtain ⟨i0, hi, hz, hsz, hby⟩ := info_parts info_u8
  rw [run_equalIn_array (P := Try.prog) w 9999 (cellsOf .u8 32 f) (cellsOf .u8 32 g) (t := 30) (e := 5) (n := 32) (by kernel_rfl) hi]
  rw [show Try.prog.cellsOf 5 = 1 by kernel_rfl]
  exact run_itemsN 9998 32 f g w (List.range 32) (fun i hi => List.mem_range.1 hi)
theorem run_eql32 {o : Oper} {a : Act} {W : World} (t1 t2 : Tmp) (f g : Nat → Nat) (ho : o.op = .binOp .eql 30 (.tmp t1) (.tmp t2) 30)
    (h1 : a.eval (.tmp t1) = .agg (cellsOf .u8 32 f)) (h2 : a.eval (.tmp t2) = .agg (cellsOf .u8 32 g)) : (execOp a.eval o).run Try.prog W = .ok (.value (.bool (eqN 32 f g))) W := by
  have he := run_eq32 f g W
  unfold execOp
  simp only [ho, h1, h2]
  go_simp
end Go.Proofs.Ytpddgiflljlpbaa
