/-
  Regions that draw their order: a narrower condition; a call beside what makes memory.
-/
import Derived.Test.YtobaplndoaeoiaaDoorOrd
namespace Go.Proofs.YtobaplndoaeoiaaDoor
open Go.RowKit

section
variable {P : Program} {ops : Array Oper} {Q : Exit → Act → World → Prop} {S : World → Prop}

/-- A narrower condition serves. -/
theorem wpAnyH_sub {md : Region.Mode} {S S' : World → Prop} (hs : ∀ w, S' w → S w) : ∀ (fuel : Nat) (listed : Array Bool) (a : Act) (w : World), wpAnyH P md ops Q S' fuel listed a w → wpAnyH P md ops Q S fuel listed a w
  | 0, _, _, _, h => h
  | fuel + 1, _, _, _, h => ⟨h.1, fun i hi => wpOp_mono (fun a' w' h' => ⟨hs w' h'.1, wpAnyH_sub hs fuel _ a' w' h'.2⟩) (h.2 i hi)⟩
/-- Two may come up next: a call, or what yields a value here. -/
theorem wpAnyH_callOr {md : Region.Mode} {S : World → Prop} {i j : Nat} {o oj : Oper} {fuel : Nat} {listed : Array Bool} {a : Act} {w wj : World} {vj : Value} (d dj : Option Tmp) (f : FuncId) (args : Array Value) {R : Value → World → Prop}
    (hr : Region.ready md ops listed = [i, j]) (hi : ops[i]? = some o) (hd : o.dst = d) (hw : Region.wanted o (yielded ops a.tmps) = true) (he : execOp a.eval o = callFunc f args)
    (hent : ∀ args w, (callFunc f args).run P w = .ok (.enter f args) w) (hc : Calls P f args w fun e w' => ∃ v, e = .returned v ∧ R v w')
    (hj : ops[j]? = some oj) (hdj : oj.dst = dj) (hwj : Region.wanted oj (yielded ops a.tmps) = true) (hej : (execOp a.eval oj).run P w = .ok (.value vj) wj) (hSj : S wj)
    (h1 : ∀ v w', R v w' → S w' ∧ wpAnyH P md ops Q S fuel (listed.setIfInBounds i true) (a.put d v) w')
    (h2 : wpAnyH P md ops Q S fuel (listed.setIfInBounds j true) (a.put dj vj) wj) : wpAnyH P md ops Q S (fuel + 1) listed a w := by
  subst hdj
  refine wpAnyH_all hr (by simp) fun k hk => ?_
  rcases (by simpa using hk : k = i ∨ k = j) with rfl | rfl
  · exact wpOp_at hi hw (wp_fnR d f args hd he hent hc h1)
  · exact wpOp_at hj hwj (wp_yields hej ⟨hSj, h2⟩)
end

end Go.Proofs.YtobaplndoaeoiaaDoor
