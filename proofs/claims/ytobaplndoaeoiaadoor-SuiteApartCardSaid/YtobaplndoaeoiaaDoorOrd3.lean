/-
  Regions that draw their order: the steps, one by one; blocks loaded, made, stored.
-/
import Derived.Test.YtobaplndoaeoiaaDoorOrd2
import Derived.Test.YtobaplndoaeoiaaDoorCells
namespace Go.Proofs.YtobaplndoaeoiaaDoor
open Go.RowKit


theorem exec_fn4 {o : Oper} {a : Act} (f : FuncId) (t1 t2 t3 t4 : Operand) (v1 v2 v3 v4 : Value) {ats : Array TypeId} (hop : o.op = .call { callee := .value (.func f), args := #[t1, t2, t3, t4], argTypes := ats }) (h1 : a.eval t1 = v1)
    (h2 : a.eval t2 = v2) (h3 : a.eval t3 = v3) (h4 : a.eval t4 = v4) : execOp a.eval o = callFunc f #[v1, v2, v3, v4] := by
  have e1 : execOp a.eval o = callFunc f #[a.eval t1, a.eval t2, a.eval t3, a.eval t4] := by
    unfold execOp
    simp [hop, resolve, Deferred.ofValue, invoke, Act.eval]
  rw [e1, h1, h2, h3, h4]
/-- What a block's first cell holds. -/
structure CellIs (w : World) (b : Nat) (v : Value) : Prop where
  at_ : w.cell? ⟨b, 0, none⟩ = some v
theorem CellIs.grown {w w' : World} {b : Nat} {v : Value} (h : CellIs w b v) {row : Option Nat} (g : w.grownBy w' row) (hr : some b ≠ row) : CellIs w' b v := ⟨g.cell h.at_ hr⟩
theorem CellIs.lt {w : World} {b : Nat} {v : Value} (h : CellIs w b v) : b < w.heap.size := World.block_lt_of_cell? w _ h.at_

section
variable {P : Program} {ops : Array Oper} {Q : Exit → Act → World → Prop} {md : Region.Mode} {S : World → Prop} {fuel : Nat} {listed : Array Bool} {a : Act} {w : World}

theorem wpAnyH_one {i : Nat} (hr : Region.ready md ops listed = [i]) (h : wpOp P ops Q i (fun a' w' => S w' ∧ wpAnyH P md ops Q S fuel (listed.setIfInBounds i true) a' w') a w) : wpAnyH P md ops Q S (fuel + 1) listed a w :=
  wpAnyH_all hr (by simp) fun j hj => by
    obtain rfl : j = i := by simpa using hj
    exact h
theorem wpAnyH_both {i j : Nat} (hr : Region.ready md ops listed = [i, j]) (h1 : wpOp P ops Q i (fun a' w' => S w' ∧ wpAnyH P md ops Q S fuel (listed.setIfInBounds i true) a' w') a w)
    (h2 : wpOp P ops Q j (fun a' w' => S w' ∧ wpAnyH P md ops Q S fuel (listed.setIfInBounds j true) a' w') a w) : wpAnyH P md ops Q S (fuel + 1) listed a w :=
  wpAnyH_all hr (by simp) fun k hk => by
    rcases (by simpa using hk : k = i ∨ k = j) with rfl | rfl
    · exact h1
    · exact h2
theorem op_callR {i : Nat} {o : Oper} {K : Act → World → Prop} (d : Option Tmp) (f : FuncId) (args : Array Value) {R : Value → World → Prop} (hi : ops[i]? = some o) (hd : o.dst = d) (hw : Region.wanted o (yielded ops a.tmps) = true) (he : execOp a.eval o = callFunc f args)
    (hent : ∀ args w, (callFunc f args).run P w = .ok (.enter f args) w) (hc : Calls P f args w fun e w' => ∃ v, e = .returned v ∧ R v w') (h : ∀ v w', R v w' → S w' ∧ K (a.put d v) w') : wpOp P ops Q i (fun a' w' => S w' ∧ K a' w') a w :=
  wpOp_at hi hw (wp_fnR d f args hd he hent hc h)
/-- A call whose value is known, and that only makes memory. -/
theorem op_call {i : Nat} {o : Oper} {K : Act → World → Prop} {W0 : World} {row : Option Nat} (d : Option Tmp) (f : FuncId) (args : Array Value) (v : Value) (hi : ops[i]? = some o) (hd : o.dst = d) (hw : Region.wanted o (yielded ops a.tmps) = true) (he : execOp a.eval o = callFunc f args)
    (hent : ∀ args w, (callFunc f args).run P w = .ok (.enter f args) w) (hc : Calls P f args w fun e w' => e = .returned v ∧ w.grownBy w' none) (hS : W0.grownBy w row)
    (h : ∀ w', w.grownBy w' none → W0.grownBy w' row → K (a.put d v) w') : wpOp P ops Q i (fun a' w' => W0.grownBy w' row ∧ K a' w') a w :=
  op_callR (R := fun u w' => u = v ∧ w.grownBy w' none) d f args hi hd hw he hent (hc.mono fun _ _ h => ⟨v, h.1, rfl, h.2⟩) fun u w' h' => by
    obtain ⟨rfl, g⟩ := h'
    have g2 := grown_trans hS (grown_some g)
    exact ⟨g2, h w' g g2⟩
theorem op_yield {i : Nat} {o : Oper} {K : Act → World → Prop} {w' : World} {v : Value} (d : Option Tmp) (hi : ops[i]? = some o) (hd : o.dst = d) (hw : Region.wanted o (yielded ops a.tmps) = true) (he : (execOp a.eval o).run P w = .ok (.value v) w') (hS : S w')
    (h : K (a.put d v) w') : wpOp P ops Q i (fun a' w' => S w' ∧ K a' w') a w := by
  subst hd
  exact wpOp_at hi hw (wp_yields he ⟨hS, h⟩)
theorem op_alloc {i : Nat} {o : Oper} {K : Act → World → Prop} {W0 : World} {row : Option Nat} {k : IntKind} {n T : Nat} (d : Option Tmp) (hi : ops[i]? = some o) (hd : o.dst = d) (hw : Region.wanted o (yielded ops a.tmps) = true)
    (he : (execOp a.eval o).run P w = .ok (.value (.pointer (some ⟨w.heap.size, 0, none⟩))) (w.alloc (.cells (cellsOf k n (fun _ => 0)) T))) (hS : W0.grownBy w row)
    (h : ∀ w', w.grownBy w' none → W0.grownBy w' row → Holds w' w.heap.size T k n (fun _ => 0) → K (a.put d (.pointer (some ⟨w.heap.size, 0, none⟩))) w') : wpOp P ops Q i (fun a' w' => W0.grownBy w' row ∧ K a' w') a w := by
  subst hd
  have g := World.grownBy_alloc w (.cells (cellsOf k n (fun _ => 0)) T) none
  have g2 := grown_trans hS (grown_some g)
  exact wpOp_at hi hw (wp_yields he ⟨g2, h _ g g2 (holds_alloc w T k n _ _ rfl)⟩)
theorem op_mk {i : Nat} {o : Oper} {K : Act → World → Prop} {W0 : World} {row : Option Nat} (d : Option Tmp) (v : Value) (T : TypeId) (hi : ops[i]? = some o) (hd : o.dst = d) (hw : Region.wanted o (yielded ops a.tmps) = true)
    (he : (execOp a.eval o).run P w = .ok (.value (.slice (some ⟨w.heap.size, 0, none⟩) 1 1)) (w.alloc (.cells #[v] T))) (hS : W0.grownBy w row)
    (h : ∀ w', w.grownBy w' none → W0.grownBy w' row → CellIs w' w.heap.size v → K (a.put d (.slice (some ⟨w.heap.size, 0, none⟩) 1 1)) w') : wpOp P ops Q i (fun a' w' => W0.grownBy w' row ∧ K a' w') a w := by
  subst hd
  have g := World.grownBy_alloc w (.cells #[v] T) none
  have g2 := grown_trans hS (grown_some g)
  exact wpOp_at hi hw (wp_yields he ⟨g2, h _ g g2 ⟨by rw [cell_of_row _ _ _ _ _ _ (heap_alloc_new w (.cells #[v] T))]; rfl⟩⟩)
theorem op_store {i : Nat} {o : Oper} {K : Act → World → Prop} (ty : TypeId) (x y : Tmp) (g : Nat) (cells : Array Value) (hi : ops[i]? = some o) (hd : o.dst = none) (hw : Region.wanted o (yielded ops a.tmps) = true) (ho : o.op = .store ty (.tmp x) (.tmp y)) (hx : a.eval (.tmp x) = .pointer (some ⟨g, 0, none⟩)) (hy : a.eval (.tmp y) = .agg cells)
    (t : TypeId) (old : Array Value) (hg : w.heap[g]? = some (.cells old t (0, 0))) (hs : (P.info? ty).map (·.size) = some cells.size) (hold : old.size = cells.size) (h1 : cells.all (·.oneCell') = true)
    (hS : S (w.setRow g cells)) (h : K a (w.setRow g cells)) : wpOp P ops Q i (fun a' w' => S w' ∧ K a' w') a w :=
  wpOp_at hi hw (wp_store_row ty (.tmp x) (.tmp y) ho g cells hx hy t old hg hs hold h1 (by rw [hd]; exact ⟨hS, h⟩))
/-- A block of numbers, loaded. -/
theorem run_row {o : Oper} {a : Act} {W : World} {B T n : Nat} {k : IntKind} {f : Nat → Nat} {t : Tmp} (ty : TypeId) (d : TypeDesc) (h : Holds W B T k n f) (ho : o.op = .load ty (.tmp t)) (ha : a.eval (.tmp t) = .pointer (some ⟨B, 0, none⟩)) (hu : P.underlying ty = some d)
    (hd : (match d with | .struct _ | .array _ _ => true | _ => false) = true) (hs : (P.info? ty).map (·.size) = some n) :
    (execOp a.eval o).run P W = .ok (.value (.agg (cellsOf k n f))) W := by
  have hl := run_loadVar_row (P := P) W B T ty _ (0, 0) d h.block hu hd (by rw [cellsOf_size]; exact hs)
  unfold execOp
  simp only [ho, ha, Instr.loadAt, Instr.sureAddr, Sem.run_bind, Sem.run_pure, Result.andThen_ok, hl]
end

end Go.Proofs.YtobaplndoaeoiaaDoor
