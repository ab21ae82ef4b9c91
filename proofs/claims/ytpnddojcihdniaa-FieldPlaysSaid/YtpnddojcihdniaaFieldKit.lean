/-
  Small things for the walks of the field's laws: a number's slice, a slice of 32 bytes.
-/
import Derived.Test.YtpnddojcihdniaaKnown06
import Derived.Test.YtpnddojcihdniaaTriOrd
import Derived.Test.YtpnddojcihdniaaRunB32
import Derived.Test.YtpnddojcihdniaaRefFldC
import Derived.Test.YtpnddojcihdniaaRelKit
import Derived.Deep.DeepCutAuto
namespace Go.Proofs.Ytpnddojcihdniaa
open Go.RowKit Go.Shelf

set_option maxRecDepth 100000
set_option maxHeartbeats 8000000

/-- A number's slice. -/
def NumV (v : Nat) (x : Value) (W : World) : Prop := ∃ b, x = .slice (some ⟨b, 0, none⟩) 16 16 ∧ NumAt W b v
theorem NumV.grown {v : Nat} {x : Value} {W W' : World} (h : NumV v x W) (g : W.grownBy W' none) : NumV v x W' := by
  obtain ⟨b, h1, h2⟩ := h
  exact ⟨b, h1, h2.grown g⟩
theorem GaveNum.v {w : World} {v : Nat} {e : Ending} {w' : World} (h : GaveNum w v e w') : ∃ x, e = .returned x ∧ w.grownBy w' none ∧ NumV v x w' := by
  obtain ⟨⟨b, h1, _, h3⟩, h4⟩ := h
  exact ⟨_, h1, h4, b, rfl, h3⟩
theorem run_slice32 {o : Oper} {a : Act} {W : World} {B : Nat} (t : Nat) (ho : o.op = .slice 22 (.tmp t) none none none) (h : slotv a t = .pointer (some ⟨B, 0, none⟩)) : (execOp a.eval o).run Try.prog W = .ok (.value (.slice (some ⟨B, 0, none⟩) 32 32)) W := by
  have h1 : a.tmps[t]?.getD undef = .pointer (some ⟨B, 0, none⟩) := h
  unfold execOp
  simp only [ho]
  go_simp
theorem run_num5 {o : Oper} {a : Act} {W : World} {B : Nat} {f : Nat → Nat} {t : Tmp} (h : Holds W B 28 .u64 5 f) (ho : o.op = .load 28 (.tmp t)) (ha : a.eval (.tmp t) = .pointer (some ⟨B, 0, none⟩)) :
    (execOp a.eval o).run Try.prog W = .ok (.value (.agg (cellsOf .u64 5 f))) W := by
  obtain ⟨d, h1, h2⟩ := under_row (P := Try.prog) (T := 28) (by kernel_rfl)
  exact run_row 28 d h ho ha h1 (by cases d <;> first | rfl | exact h2) (by kernel_rfl)
theorem lim8_lt (v i : Nat) : lim 8 v i < 256 := Nat.mod_lt _ (by decide)
theorem lim8_inj (v u : Nat) (hv : v < pF) (hu : u < pF) (h : ∀ i, i < 32 → lim 8 v i = lim 8 u i) : v = u := by
  have h1 := val_lim 8 v 32
  have h2 := val_lim 8 u 32
  rw [val_congr (y := lim 8 u) 8 32 h] at h1
  have h3 : pF < 2 ^ (8 * 32) := by decide
  rw [Nat.mod_eq_of_lt (by omega)] at h1 h2
  omega
theorem str_is (v u : Nat) (hv : v < pF) (hu : u < pF) : decide (strOf 32 (lim 8 v) = strOf 32 (lim 8 u)) = decide (v = u) := by
  refine decide_eq_decide.2 ((strOf_inj 32 32 _ _ (lim8_lt v) (lim8_lt u)).trans ⟨fun h => lim8_inj v u hv hu h.2, fun h => ?_⟩)
  subst h
  exact ⟨rfl, fun _ _ => rfl⟩

theorem ofV_lim (v : Nat) (hv : v < pF) : ofV (lim 8 v) = v := by
  unfold ofV
  have h3 : pF < 57896044618658097711785492504343953926634992332820282019728792003956564819968 := by decide
  rw [val_lim, Nat.mod_eq_of_lt (show v < 2 ^ (8 * 32) from Nat.lt_trans hv (by decide)), Nat.mod_eq_of_lt (Nat.lt_trans hv h3), Nat.mod_eq_of_lt hv]
theorem Holds.rd32 {w : World} {B : Nat} {f : Nat → Nat} (h : Holds w B 22 .u8 32 f) : Rd w w.heap.size (some ⟨B, 0, none⟩) 32 f := ⟨fun _ => ⟨B, 0, rfl, h.lt, fun i hi => by rw [Nat.zero_add]; exact h.cell i hi⟩⟩
end Go.Proofs.Ytpnddojcihdniaa
