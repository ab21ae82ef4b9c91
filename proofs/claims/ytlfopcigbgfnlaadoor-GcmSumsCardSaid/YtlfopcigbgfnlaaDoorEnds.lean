/-
  What the statements' ends ask: whether blocks are one, bytes as a string; true, and nothing that was is turned.
-/
import Derived.Test.YtlfopcigbgfnlaaDoorAesPair
import Derived.Test.YtlfopcigbgfnlaaDoorStr
namespace Go.Proofs.YtlfopcigbgfnlaaDoor
open Go.RowKit

theorem run_eqlB {o : Oper} {a : Act} {W : World} (t1 t2 : Tmp) (f g : Nat → Nat) (ho : o.op = .binOp .eql 24 (.tmp t1) (.tmp t2) 24)
    (h1 : a.eval (.tmp t1) = .agg (cellsOf .u8 16 f)) (h2 : a.eval (.tmp t2) = .agg (cellsOf .u8 16 g)) : (execOp a.eval o).run Tryd.prog W = .ok (.value (.bool (eq16 f g))) W := by
  have he := run_eq16 f g W
  unfold execOp
  simp only [ho, h1, h2]
  go_simp

theorem run_convS {o : Oper} {a : Act} {W : World} {B : Nat} {ad : Option Addr} {n c : Nat} {f : Nat → Nat} (t : Tmp) (ho : o.op = .convert 22 9 (.tmp t)) (h1 : a.eval (.tmp t) = .slice ad n c) (h : Rd W B ad n f) (hf : ∀ i, f i < 256) :
    (execOp a.eval o).run Tryd.prog W = .ok (.value (.string (strOf n f))) W := by
  have hr := run_string c h hf
  unfold execOp
  simp only [ho, h1]
  go_simp

theorem OwnN.made {w : World} {base : Nat} {v : Value} {n : Nat} {f : Nat → Nat} (h : OwnN w base v n f) (hn : 0 < n) : ∃ g cap, v = .slice (some ⟨g, 0, none⟩) n cap ∧ OwnR w g n cap f ∧ base ≤ g := by
  rcases h.ex with ⟨_, rfl⟩ | h
  · omega
  · exact h

/-- True, and nothing that was is turned. -/
structure SaysYes (w : World) (e : Ending) (w' : World) : Prop where
  ex : e = .returned (.bool true) ∧ w.grownBy w' none


end Go.Proofs.YtlfopcigbgfnlaaDoor
