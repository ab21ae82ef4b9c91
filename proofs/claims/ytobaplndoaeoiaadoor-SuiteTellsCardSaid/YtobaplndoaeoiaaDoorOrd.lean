/-
  Regions that draw their order, one operation at a time.
-/
import Derived.Test.YtobaplndoaeoiaaDoorBase
import Derived.Test.YtobaplndoaeoiaaDoorGrowQ
import Derived.OrdersHeld
namespace Go.Proofs.YtobaplndoaeoiaaDoor
open Go.RowKit

theorem wanted_of {o : Oper} {y : Nat → Option Bool} (h : o.guard = none) : Region.wanted o y = true := by unfold Region.wanted; rw [h]

section
variable {P : Program} {ops : Array Oper} {Q : Exit → Act → World → Prop}

theorem wpOp_at {i : Nat} {o : Oper} {a : Act} {w : World} {K : Act → World → Prop} (ho : ops[i]? = some o) (hw : Region.wanted o (yielded ops a.tmps) = true) (h : o.wp P a w K Q) : wpOp P ops Q i K a w := by
  unfold wpOp
  simp only [ho, hw, if_true]
  exact .inl h
theorem wp_fn2 {o : Oper} {a : Act} {w : World} {K : Act → World → Prop} (f : FuncId) (t1 t2 : Tmp) (v1 v2 : Value) {ats : Array TypeId} {v : Value} {R : World → Prop} (hop : o.op = .call { callee := .value (.func f), args := #[.tmp t1, .tmp t2], argTypes := ats })
    (h1 : a.eval (.tmp t1) = v1) (h2 : a.eval (.tmp t2) = v2) (hent : ∀ args w, (callFunc f args).run P w = .ok (.enter f args) w)
    (hc : Calls P f #[v1, v2] w fun e w' => e = .returned v ∧ R w') (h : ∀ w', R w' → K (a.put o.dst v) w') : o.wp P a w K Q := by
  have he : execOp a.eval o = callFunc f #[v1, v2] := by
    have e1 : execOp a.eval o = callFunc f #[a.eval (.tmp t1), a.eval (.tmp t2)] := by
      unfold execOp
      simp [hop, resolve, Deferred.ofValue, invoke, Act.eval]
    rw [e1, h1, h2]
  unfold Oper.wp
  rw [he, hent]
  exact hc.mono fun e w' ⟨e1, r⟩ => by subst e1; exact h w' r
theorem wp_yields {o : Oper} {a : Act} {w w' : World} {K : Act → World → Prop} {v : Value} (he : (execOp a.eval o).run P w = .ok (.value v) w') (h : K (a.put o.dst v) w') : o.wp P a w K Q := by
  unfold Oper.wp
  rw [he]
  exact h
theorem wp_skips {o : Oper} {a : Act} {w w' : World} {K : Act → World → Prop} (he : (execOp a.eval o).run P w = .ok .skip w') (h : K (a.put o.dst undef) w') : o.wp P a w K Q := by
  unfold Oper.wp
  rw [he]
  exact h
theorem wpAnyH_takeD {md : Region.Mode} {S : World → Prop} {i : Nat} {oi : Oper} {v : Value} {fuel : Nat} {listed : Array Bool} {a : Act} {w : World} (d : Option Tmp) (hi : ops[i]? = some oi) (hd : oi.dst = d)
    (hs : Region.noSelect ops = true) (hf : Region.free md ops listed i = true) (hr : (Region.ready md ops listed).contains i = true)
    (hQ : ∀ c a w, Q (.panic c) (a.put oi.dst v) w → Q (.panic c) a w) (hy : YieldsIf P ops S oi v a) (hS : S w)
    (h : wpAnyH P md ops Q S fuel (listed.setIfInBounds i true) (a.put d v) w) : wpAnyH P md ops Q S (fuel + 1) listed a w := by
  subst hd
  exact wpAnyH_take hi hs hf hr hQ hy hS h

theorem wp_fnR {o : Oper} {a : Act} {w : World} {K : Act → World → Prop} (d : Option Tmp) (f : FuncId) (args : Array Value) {R : Value → World → Prop} (hd : o.dst = d) (he : execOp a.eval o = callFunc f args)
    (hent : ∀ args w, (callFunc f args).run P w = .ok (.enter f args) w) (hc : Calls P f args w fun e w' => ∃ v, e = .returned v ∧ R v w') (h : ∀ v w', R v w' → K (a.put d v) w') : o.wp P a w K Q := by
  subst hd
  unfold Oper.wp
  rw [he, hent]
  exact hc.mono fun e w' ⟨v, e1, r⟩ => by subst e1; exact h v w' r

/-- The one that may come up next is a call. -/
theorem wpAnyH_callD {md : Region.Mode} {S : World → Prop} {i : Nat} {o : Oper} {fuel : Nat} {listed : Array Bool} {a : Act} {w : World} (d : Option Tmp) (f : FuncId) (args : Array Value) {R : Value → World → Prop}
    (hr : Region.ready md ops listed = [i]) (hi : ops[i]? = some o) (hd : o.dst = d) (hw : Region.wanted o (yielded ops a.tmps) = true) (he : execOp a.eval o = callFunc f args)
    (hent : ∀ args w, (callFunc f args).run P w = .ok (.enter f args) w) (hc : Calls P f args w fun e w' => ∃ v, e = .returned v ∧ R v w')
    (h : ∀ v w', R v w' → S w' ∧ wpAnyH P md ops Q S fuel (listed.setIfInBounds i true) (a.put d v) w') : wpAnyH P md ops Q S (fuel + 1) listed a w := by
  refine wpAnyH_all hr (by simp) fun j hj => ?_
  obtain rfl : j = i := by simpa using hj
  exact wpOp_at hi hw (wp_fnR d f args hd he hent hc h)
/-- The one that may come up next yields a value here. -/
theorem wpAnyH_yieldD {md : Region.Mode} {S : World → Prop} {i : Nat} {o : Oper} {fuel : Nat} {listed : Array Bool} {a : Act} {w w' : World} {v : Value} (d : Option Tmp)
    (hr : Region.ready md ops listed = [i]) (hi : ops[i]? = some o) (hd : o.dst = d) (hw : Region.wanted o (yielded ops a.tmps) = true) (he : (execOp a.eval o).run P w = .ok (.value v) w') (hS : S w')
    (h : wpAnyH P md ops Q S fuel (listed.setIfInBounds i true) (a.put d v) w') : wpAnyH P md ops Q S (fuel + 1) listed a w := by
  subst hd
  refine wpAnyH_all hr (by simp) fun j hj => ?_
  obtain rfl : j = i := by simpa using hj
  exact wpOp_at hi hw (wp_yields he ⟨hS, h⟩)
end

end Go.Proofs.YtobaplndoaeoiaaDoor
