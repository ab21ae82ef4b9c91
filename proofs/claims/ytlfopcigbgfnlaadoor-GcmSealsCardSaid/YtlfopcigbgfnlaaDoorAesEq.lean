/-
  Whether two blocks are one.
-/
import Derived.Test.YtlfopcigbgfnlaaDoorAesSeal
import Derived.Test.YtlfopcigbgfnlaaDoorOwnR
import Derived.ChangeKeysEq
namespace Go.Proofs.YtlfopcigbgfnlaaDoor
open Go.RowKit

def eq16 (f g : Nat → Nat) : Bool := (List.range 16).all fun i => f i == g i
theorem eq16_iff (f g : Nat → Nat) : eq16 f g = true ↔ ∀ i, i < 16 → f i = g i := by
  unfold eq16
  rw [List.all_eq_true]
  simp

theorem run_items (d n : Nat) (f g : Nat → Nat) (w : World) : ∀ is : List Nat, (∀ i ∈ is, i < n) →
    (Op.eqItems (d + 1) 5 1 (cellsOf .u8 n f) (cellsOf .u8 n g) is).run Tryd.prog w = .ok (is.all fun i => f i == g i) w
  | [], _ => by simp [Op.eqItems]
  | i :: is, h => by
    have hi := h i (by simp)
    have hp : Tryd.prog.plainKey 5 = true := by kernel_rfl
    have p1 := run_part_plain w (P := Tryd.prog) hp (xs := cellsOf .u8 n f) (off := i * 1) (v := .int .u8 (f i)) (by rw [Nat.mul_one, cellsOf_get _ _ _ _ hi])
    have p2 := run_part_plain w (P := Tryd.prog) hp (xs := cellsOf .u8 n g) (off := i * 1) (v := .int .u8 (g i)) (by rw [Nat.mul_one, cellsOf_get _ _ _ _ hi])
    have p3 := run_equalIn_int (P := Tryd.prog) w d 5 .u8 .u8 (f i : Int) (g i : Int) (by kernel_rfl)
    have ih := run_items d n f g w is (fun j hj => h j (by simp [hj]))
    have e : ((f i : Int) == (g i : Int)) = (f i == g i) := by rw [Bool.eq_iff_iff]; simp only [beq_iff_eq]; omega
    simp only [Op.eqItems, Sem.run_bind, p1, p2, p3, Result.andThen_ok, List.all_cons, e]
    cases hb : (f i == g i)
    · simp
    · simpa using ih

theorem run_eq16 (f g : Nat → Nat) (w : World) : (Op.equalIn 10000 24 (.agg (cellsOf .u8 16 f)) (.agg (cellsOf .u8 16 g))).run Tryd.prog w = .ok (eq16 f g) w := by
  obtain ⟨i0, hi, hz, hsz, hby⟩ := info_parts info_u8
  rw [run_equalIn_array (P := Tryd.prog) w 9999 (cellsOf .u8 16 f) (cellsOf .u8 16 g) (t := 24) (e := 5) (n := 16) (by kernel_rfl) hi]
  rw [show Tryd.prog.cellsOf 5 = 1 by kernel_rfl]
  exact run_items 9998 16 f g w (List.range 16) (fun i hi => List.mem_range.1 hi)

/-- A load of a whole row, in its turn. -/
theorem wpList_load_rowG {P : Program} {ops : Array Oper} {rest : List Oper} {o : Oper} {a : Act} {w : World} {Q : Exit → Act → World → Prop} (hw : Region.wanted o (yielded ops a.tmps) = true) (ty : TypeId) (x : Operand) (ho : o.op = .load ty x)
    (g : Nat) (hx : a.eval x = .pointer (some ⟨g, 0, none⟩)) (t : TypeId) (cs : Array Value) (fr : Nat × Nat) (d : TypeDesc) (hg : w.heap[g]? = some (.cells cs t fr))
    (hu : P.underlying ty = some d) (hd : (match d with | .struct _ | .array _ _ => true | _ => false) = true) (hi : (P.info? ty).map (·.size) = some cs.size)
    (h : wpList P ops Q rest (a.put o.dst (.agg cs)) w) : wpList P ops Q (o :: rest) a w :=
  wpList_step fun K hK => by
    rw [if_pos hw]
    exact wp_load_row ty x ho g hx t cs fr d hg hu hd hi (hK _ _ h)

end Go.Proofs.YtlfopcigbgfnlaaDoor
