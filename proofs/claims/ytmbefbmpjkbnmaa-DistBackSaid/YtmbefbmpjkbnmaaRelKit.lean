/-
  The steps of such a region.
-/
import Derived.Test.YtmbefbmpjkbnmaaRelRegion
import Derived.Test.YtmbefbmpjkbnmaaStr
import Derived.Test.YtmbefbmpjkbnmaaOwnR
namespace Go.Proofs.Ytmbefbmpjkbnmaa
open Go.RowKit

def relL (l : List (Value → World → Prop)) (k : Nat) : Value → World → Prop := l.getD k (fun _ _ => True)
def atL (l : List Nat) (k : Nat) : Nat := l.getD k 0
def depL (l : List (List Nat)) (k : Nat) : List Nat := l.getD k []
section
variable {P : Program} {Q : Exit → Act → World → Prop} {o : Oper} {b : Act} {W : World} {K : Act → World → Prop} {R : Value → World → Prop}
theorem rel_val {v : Value} (he : (execOp b.eval o).run P W = .ok (.value v) W) (hR : R v W) (hK : ∀ v W', W.grownBy W' none → R v W' → K (b.put o.dst v) W') : o.wp P b W K Q :=
  wp_yields he (hK v W (grown_refl _ _) hR)
theorem rel_move {v : Value} (t : Nat) (ho : o.op = .move (.tmp t)) (hv : slotv b t = v) (hR : R v W) (hK : ∀ v W', W.grownBy W' none → R v W' → K (b.put o.dst v) W') : o.wp P b W K Q :=
  rel_val (by
    have h := (eval_slot b t).trans hv
    unfold execOp
    simp [ho, h]) hR hK
theorem rel_assign {v : Value} (t : Nat) (ho : o.op = .assign (.tmp t)) (hv : slotv b t = v) (hR : R v W) (hK : ∀ v W', W.grownBy W' none → R v W' → K (b.put o.dst v) W') : o.wp P b W K Q :=
  rel_val (by
    have h := (eval_slot b t).trans hv
    unfold execOp
    simp [ho, h]) hR hK
theorem rel_call (f : FuncId) (args : Array Value) (he : execOp b.eval o = callFunc f args) (hent : ∀ args w, (callFunc f args).run P w = .ok (.enter f args) w)
    (hc : Calls P f args W fun e w' => ∃ v, e = .returned v ∧ W.grownBy w' none ∧ R v w') (hK : ∀ v W', W.grownBy W' none → R v W' → K (b.put o.dst v) W') : o.wp P b W K Q :=
  wp_fnR (R := fun v w' => W.grownBy w' none ∧ R v w') o.dst f args rfl he hent hc fun v w' h => hK v w' h.1 h.2
end
theorem run_convT {o : Oper} {a : Act} {W : World} {B : Nat} {ad : Option Addr} {n c : Nat} {f : Nat → Nat} (t : Tmp) (ho : o.op = .convert 39 9 (.tmp t)) (h1 : a.eval (.tmp t) = .slice ad n c) (h : Rd W B ad n f) (hf : ∀ i, f i < 256) :
    (execOp a.eval o).run Try.prog W = .ok (.value (.string (strOf n f))) W := by
  have hr := run_string c h hf
  unfold execOp
  simp only [ho, h1]
  go_simp
theorem toList_beq (s1 s2 : ByteArray) : (s1.toList == s2.toList) = decide (s1 = s2) := by
  rw [ByteArray.toList_eq, ByteArray.toList_eq]
  by_cases e : s1 = s2
  · subst e
    rw [decide_eq_true rfl]
    exact beq_self_eq_true _
  · have h : s1.data.toList ≠ s2.data.toList := fun h => e (ByteArray.ext (Array.toList_inj.1 h))
    rw [beq_eq_false_iff_ne.2 h, decide_eq_false e]
/-- 32 bytes that were handed back. -/
def BytesAt (f : Nat → Nat) (x : Value) (W : World) : Prop := ∃ g cap, x = .slice (some ⟨g, 0, none⟩) (32 : Nat) cap ∧ OwnR W g 32 cap f
theorem BytesAt.grown {f : Nat → Nat} {x : Value} {W W' : World} (h : BytesAt f x W) (g : W.grownBy W' none) : BytesAt f x W' := by
  obtain ⟨b, c, h1, h2⟩ := h
  exact ⟨b, c, h1, h2.grown g (by simp)⟩
theorem GaveN.bytes {w : World} {f : Nat → Nat} {e : Ending} {w' : World} (h : GaveN w 32 f e w') : ∃ v, e = .returned v ∧ w.grownBy w' none ∧ BytesAt f v w' := by
  obtain ⟨v, h1, h2, h3⟩ := h.ex
  rcases h2.ex with ⟨_, h4⟩ | ⟨g, cap, h4, h5, _⟩
  · cases h4
  · exact ⟨v, h1, h3, g, cap, h4, h5⟩
end Go.Proofs.Ytmbefbmpjkbnmaa
