/-
  sign: a signal's block, written to; a region that draws its order: a store.
-/
import Derived.Test.YtpddgiflljlpbaaSgPart
import Derived.Test.YtpddgiflljlpbaaOrd3
namespace Go.Proofs.Ytpddgiflljlpbaa
open Go.RowKit

set_option maxRecDepth 100000
set_option maxHeartbeats 4000000

section
variable {P : Program} {ops : Array Oper} {Q : Exit → Act → World → Prop}
/-- The one that may come up next stores. -/
theorem wpAnyH_skipD {md : Region.Mode} {S : World → Prop} {i : Nat} {o : Oper} {fuel : Nat} {listed : Array Bool} {a : Act} {w w' : World}
    (hr : Region.ready md ops listed = [i]) (hi : ops[i]? = some o) (hd : o.dst = none) (hw : Region.wanted o (yielded ops a.tmps) = true) (he : (execOp a.eval o).run P w = .ok .skip w') (hS : S w')
    (h : wpAnyH P md ops Q S fuel (listed.setIfInBounds i true) a w') : wpAnyH P md ops Q S (fuel + 1) listed a w := by
  refine wpAnyH_all hr (by simp) fun j hj => ?_
  obtain rfl : j = i := by simpa using hj
  refine wpOp_at hi hw (wp_skips he ⟨hS, ?_⟩)
  rw [hd]
  exact h
end
/-- Values put into a row. -/
def putsA (cur : Array Value) (o : Nat) : List Value → Array Value
  | [] => cur
  | v :: r => putsA (cur.setIfInBounds o v) (o + 1) r
theorem heap_setCells_row (B : Nat) (t : TypeId) (fr : Nat × Nat) : ∀ (vs : List Value) (o : Nat) (w : World) (cur : Array Value), w.heap[B]? = some (.cells cur t fr) → (w.setCells B o vs).heap[B]? = some (.cells (putsA cur o vs) t fr)
  | [], _, _, _, h => h
  | v :: r, o, w, cur, h => by
    rw [World.setCells, setCell_eq_setRow w B o cur t fr v h]
    exact heap_setCells_row B t fr r (o + 1) _ _ (setRow_heap _ _ _ _ _ _ h)
theorem SAt.there {w : World} {B : Nat} {x : SV} (h : SAt w B x) (o n : Nat) (ho : o + n ≤ 55) : w.there B o n := fun j hj => by
  refine ⟨?_, frozen_of_row _ _ _ _ _ h.block⟩
  rw [h.cell, Array.getElem?_eq_getElem (by rw [x.size]; omega)]
  rfl
theorem SAt.set {w : World} {B : Nat} {x : SV} (h : SAt w B x) (o : Nat) (vs : List Value) (y : SV) (e : putsA x.cells o vs = y.cells) : SAt (w.setCells B o vs) B y :=
  ⟨by rw [heap_setCells_row B _ _ vs o w _ h.block, e]⟩
theorem SAt.put1 {w : World} {B : Nat} {x : SV} (h : SAt w B x) (o : Nat) (v : Value) (y : SV) (e : x.cells.setIfInBounds o v = y.cells) : SAt (w.setCell ⟨B, o, none⟩ v) B y :=
  ⟨by rw [setCell_eq_setRow w B o _ _ _ v h.block, setRow_heap _ _ _ _ _ _ h.block, e]⟩
theorem SAt.frozen {w : World} {B : Nat} {x : SV} (h : SAt w B x) (o : Nat) : w.frozen? ⟨B, o, none⟩ = false := frozen_of_row _ _ _ _ _ h.block
/-- A part of several cells is stored. -/
theorem SAt.store {w : World} {B : Nat} {x : SV} (h : SAt w B x) (o : Nat) (T : TypeId) (cells : Array Value) (ho : o + cells.size ≤ 55) (hi : (Try.prog.info? T).map (·.size) = some cells.size) (h1 : cells.all (·.oneCell') = true) :
    (Instr.storeAt T (.pointer (some ⟨B, o, none⟩)) (.agg cells)).run Try.prog w = .ok () (w.setCells B o cells.toList) := run_storeAt_mid w B o T cells (h.there o _ ho) hi h1
theorem exec_store {o : Oper} {a : Act} {w w' : World} {T : TypeId} (x y : Operand) (p v : Value) (ho : o.op = .store T x y) (hx : a.eval x = p) (hy : a.eval y = v) (h : (Instr.storeAt T p v).run Try.prog w = .ok () w') : (execOp a.eval o).run Try.prog w = .ok .skip w' := by
  unfold execOp
  simp only [ho, hx, hy, Sem.run_bind, h, Result.andThen_ok, Sem.run_pure]
theorem exec_load {o : Oper} {a : Act} {w : World} {T : TypeId} (x : Operand) (p v : Value) (ho : o.op = .load T x) (hx : a.eval x = p) (h : (Instr.loadAt T p).run Try.prog w = .ok v w) : (execOp a.eval o).run Try.prog w = .ok (.value v) w := by
  unfold execOp
  simp only [ho, hx, Sem.run_bind, h, Result.andThen_ok, Sem.run_pure]
/-- The signal's address, out of its block. -/
theorem BoxAt.load {w : World} {b B : Nat} (h : BoxAt w b B) : (Instr.loadAt 52 (.pointer (some ⟨b, 0, none⟩))).run Try.prog w = .ok (.pointer (some ⟨B, 0, none⟩)) w := by
  have c := h.cell
  go_simp
theorem SAt.one {w : World} {B : Nat} {x : SV} (h : SAt w B x) (o : Nat) (ho : o < 55) : ∃ v, w.cell? ⟨B, o, none⟩ = some v := by
  have hlt : o < x.cells.size := by rw [x.size]; exact ho
  exact ⟨x.cells[o], (h.cell o).trans (Array.getElem?_eq_getElem hlt)⟩
/-- A part of one cell is stored. -/
theorem SAt.store8 {w : World} {B : Nat} {x : SV} (h : SAt w B x) (o : Nat) (v : Int) (ho : o < 55) : (Instr.storeAt 5 (.pointer (some ⟨B, o, none⟩)) (.int .u8 v)).run Try.prog w = .ok () (w.setCell ⟨B, o, none⟩ (.int .u8 v)) := by
  obtain ⟨u, hc⟩ := h.one o ho
  have hf := h.frozen o
  go_simp
/-- A part of one cell is stored. -/
theorem SAt.store32 {w : World} {B : Nat} {x : SV} (h : SAt w B x) (o : Nat) (v : Int) (ho : o < 55) : (Instr.storeAt 32 (.pointer (some ⟨B, o, none⟩)) (.int .u32 v)).run Try.prog w = .ok () (w.setCell ⟨B, o, none⟩ (.int .u32 v)) := by
  obtain ⟨u, hc⟩ := h.one o ho
  have hf := h.frozen o
  go_simp
theorem SAt.storeS {w : World} {B : Nat} {x : SV} (h : SAt w B x) (o : Nat) (a : Option Addr) (n c : Nat) (ho : o < 55) : (Instr.storeAt 22 (.pointer (some ⟨B, o, none⟩)) (.slice a n c)).run Try.prog w = .ok () (w.setCell ⟨B, o, none⟩ (.slice a n c)) := by
  obtain ⟨u, hc⟩ := h.one o ho
  have hf := h.frozen o
  go_simp
end Go.Proofs.Ytpddgiflljlpbaa
