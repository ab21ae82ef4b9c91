/-
  Proved: whatever scalar's and point's bytes come in, and whichever of the bits that count for nothing are turned, 'CurveSame' answers true, and what came in reads afterwards as it read before. Conditions: the arguments can be read as data.
-/
import Derived.Test.YtpnddojcihdniaaCurveSameAlla
import Derived.Test.YtpnddojcihdniaaCurveM
import Derived.Test.YtpnddojcihdniaaCells
import Derived.Test.YtpnddojcihdniaaBytes
import Derived.Below
import Derived.ProofKit
import Derived.LaidMore
import Derived.OpenShut
import Derived.Carry
import Derived.Test.YtpnddojcihdniaaRows
import Derived.Stop.Joined
import Derived.LaidLaws
namespace Go.Proofs.Ytpnddojcihdniaa
open Go.RowKit Go.Shelf

set_option maxRecDepth 100000
set_option maxHeartbeats 4000000

theorem wpList_load_keyG {ops : Array Oper} {Q : Exit → Act → World → Prop} {rest : List Oper} {o : Oper} {a : Act} {w : World} {g : Nat} {f : Nat → Nat} (hw : Region.wanted o (yielded ops a.tmps) = true) (t : Tmp) (ho : o.op = .load 45 (.tmp t)) (hx : a.eval (.tmp t) = .pointer (some ⟨g, 0, none⟩))
    (H : Holds w g 45 .u8 32 f) (h : wpList Try.prog ops Q rest (a.put o.dst (.agg (cellsOf .u8 32 f))) w) : wpList Try.prog ops Q (o :: rest) a w :=
  wpList_step fun K hK => by
    rw [if_pos hw]
    exact wp_yields (run_key H ho hx) (hK _ _ h)
theorem wpList_eqkG {ops : Array Oper} {Q : Exit → Act → World → Prop} {rest : List Oper} {o : Oper} {a : Act} {w : World} (hw : Region.wanted o (yielded ops a.tmps) = true) (t1 t2 : Tmp) (f : Nat → Nat) (ho : o.op = .binOp .eql 45 (.tmp t1) (.tmp t2) 45)
    (h1 : a.eval (.tmp t1) = .agg (cellsOf .u8 32 f)) (h2 : a.eval (.tmp t2) = .agg (cellsOf .u8 32 f)) (h : wpList Try.prog ops Q rest (a.put o.dst (.bool true)) w) : wpList Try.prog ops Q (o :: rest) a w :=
  wpList_step fun K hK => by
    rw [if_pos hw]
    have hr := run_eqlk (W := w) t1 t2 f f ho h1 h2
    rw [eqN_refl] at hr
    exact wp_yields hr (hK _ _ h)
theorem res_three {P : Program} {fn : Func} {p q r : Tmp} {T : TypeId} {n : Nat} {k : IntKind} {f1 f2 f3 : Nat → Nat} {tmps : Array Value} {w : World} {g b c : Nat} {t : TypeId} (hr : fn.results = #[.cell p T, .cell q T, .cell r T]) (hp : tmps.getD p undef = .pointer (some ⟨g, 0, none⟩)) (hq : tmps.getD q undef = .pointer (some ⟨b, 0, none⟩)) (hs : tmps.getD r undef = .pointer (some ⟨c, 0, none⟩))
    (H1 : Holds w g t k n f1) (H2 : Holds w b t k n f2) (H3 : Holds w c t k n f3)
    (hu : (P.underlying T).map (fun d => match d with | .struct _ | .array _ _ => true | _ => false) = some true) (hi : (P.info? T).map (·.size) = some n) : (results fn tmps).run P w = .ok (.tuple #[.agg (cellsOf k n f1), .agg (cellsOf k n f2), .agg (cellsOf k n f3)]) w := by
  obtain ⟨d, d1, d2⟩ := under_row hu
  have hp' : tmps[p]?.getD undef = .pointer (some ⟨g, 0, none⟩) := by simpa using hp
  have hq' : tmps[q]?.getD undef = .pointer (some ⟨b, 0, none⟩) := by simpa using hq
  have hs' : tmps[r]?.getD undef = .pointer (some ⟨c, 0, none⟩) := by simpa using hs
  have r1 := run_loadVar_row (P := P) w g t T (cellsOf k n f1) (0, 0) d H1.block d1 (by cases d <;> first | rfl | exact d2) (by rw [cellsOf_size]; exact hi)
  have r2 := run_loadVar_row (P := P) w b t T (cellsOf k n f2) (0, 0) d H2.block d1 (by cases d <;> first | rfl | exact d2) (by rw [cellsOf_size]; exact hi)
  have r3 := run_loadVar_row (P := P) w c t T (cellsOf k n f3) (0, 0) d H3.block d1 (by cases d <;> first | rfl | exact d2) (by rw [cellsOf_size]; exact hi)
  simp [results, hr, hp', hq', hs', asAddr, r1, r2, r3]
/-- Three keys of noughts, one behind the other. -/
theorem three_keys (w : World) : Holds (((w.alloc (.cells #[.int .u8 0, .int .u8 0, .int .u8 0, .int .u8 0, .int .u8 0, .int .u8 0, .int .u8 0, .int .u8 0, .int .u8 0, .int .u8 0, .int .u8 0, .int .u8 0, .int .u8 0, .int .u8 0, .int .u8 0, .int .u8 0, .int .u8 0, .int .u8 0, .int .u8 0, .int .u8 0, .int .u8 0, .int .u8 0, .int .u8 0, .int .u8 0, .int .u8 0, .int .u8 0, .int .u8 0, .int .u8 0, .int .u8 0, .int .u8 0, .int .u8 0, .int .u8 0] 45)).alloc (.cells #[.int .u8 0, .int .u8 0, .int .u8 0, .int .u8 0, .int .u8 0, .int .u8 0, .int .u8 0, .int .u8 0, .int .u8 0, .int .u8 0, .int .u8 0, .int .u8 0, .int .u8 0, .int .u8 0, .int .u8 0, .int .u8 0, .int .u8 0, .int .u8 0, .int .u8 0, .int .u8 0, .int .u8 0, .int .u8 0, .int .u8 0, .int .u8 0, .int .u8 0, .int .u8 0, .int .u8 0, .int .u8 0, .int .u8 0, .int .u8 0, .int .u8 0, .int .u8 0] 45)).alloc (.cells #[.int .u8 0, .int .u8 0, .int .u8 0, .int .u8 0, .int .u8 0, .int .u8 0, .int .u8 0, .int .u8 0, .int .u8 0, .int .u8 0, .int .u8 0, .int .u8 0, .int .u8 0, .int .u8 0, .int .u8 0, .int .u8 0, .int .u8 0, .int .u8 0, .int .u8 0, .int .u8 0, .int .u8 0, .int .u8 0, .int .u8 0, .int .u8 0, .int .u8 0, .int .u8 0, .int .u8 0, .int .u8 0, .int .u8 0, .int .u8 0, .int .u8 0, .int .u8 0] 45)) w.heap.size 45 .u8 32 (fun _ => 0) ∧ Holds (((w.alloc (.cells #[.int .u8 0, .int .u8 0, .int .u8 0, .int .u8 0, .int .u8 0, .int .u8 0, .int .u8 0, .int .u8 0, .int .u8 0, .int .u8 0, .int .u8 0, .int .u8 0, .int .u8 0, .int .u8 0, .int .u8 0, .int .u8 0, .int .u8 0, .int .u8 0, .int .u8 0, .int .u8 0, .int .u8 0, .int .u8 0, .int .u8 0, .int .u8 0, .int .u8 0, .int .u8 0, .int .u8 0, .int .u8 0, .int .u8 0, .int .u8 0, .int .u8 0, .int .u8 0] 45)).alloc (.cells #[.int .u8 0, .int .u8 0, .int .u8 0, .int .u8 0, .int .u8 0, .int .u8 0, .int .u8 0, .int .u8 0, .int .u8 0, .int .u8 0, .int .u8 0, .int .u8 0, .int .u8 0, .int .u8 0, .int .u8 0, .int .u8 0, .int .u8 0, .int .u8 0, .int .u8 0, .int .u8 0, .int .u8 0, .int .u8 0, .int .u8 0, .int .u8 0, .int .u8 0, .int .u8 0, .int .u8 0, .int .u8 0, .int .u8 0, .int .u8 0, .int .u8 0, .int .u8 0] 45)).alloc (.cells #[.int .u8 0, .int .u8 0, .int .u8 0, .int .u8 0, .int .u8 0, .int .u8 0, .int .u8 0, .int .u8 0, .int .u8 0, .int .u8 0, .int .u8 0, .int .u8 0, .int .u8 0, .int .u8 0, .int .u8 0, .int .u8 0, .int .u8 0, .int .u8 0, .int .u8 0, .int .u8 0, .int .u8 0, .int .u8 0, .int .u8 0, .int .u8 0, .int .u8 0, .int .u8 0, .int .u8 0, .int .u8 0, .int .u8 0, .int .u8 0, .int .u8 0, .int .u8 0] 45)) (w.heap.size + 1) 45 .u8 32 (fun _ => 0) ∧ Holds (((w.alloc (.cells #[.int .u8 0, .int .u8 0, .int .u8 0, .int .u8 0, .int .u8 0, .int .u8 0, .int .u8 0, .int .u8 0, .int .u8 0, .int .u8 0, .int .u8 0, .int .u8 0, .int .u8 0, .int .u8 0, .int .u8 0, .int .u8 0, .int .u8 0, .int .u8 0, .int .u8 0, .int .u8 0, .int .u8 0, .int .u8 0, .int .u8 0, .int .u8 0, .int .u8 0, .int .u8 0, .int .u8 0, .int .u8 0, .int .u8 0, .int .u8 0, .int .u8 0, .int .u8 0] 45)).alloc (.cells #[.int .u8 0, .int .u8 0, .int .u8 0, .int .u8 0, .int .u8 0, .int .u8 0, .int .u8 0, .int .u8 0, .int .u8 0, .int .u8 0, .int .u8 0, .int .u8 0, .int .u8 0, .int .u8 0, .int .u8 0, .int .u8 0, .int .u8 0, .int .u8 0, .int .u8 0, .int .u8 0, .int .u8 0, .int .u8 0, .int .u8 0, .int .u8 0, .int .u8 0, .int .u8 0, .int .u8 0, .int .u8 0, .int .u8 0, .int .u8 0, .int .u8 0, .int .u8 0] 45)).alloc (.cells #[.int .u8 0, .int .u8 0, .int .u8 0, .int .u8 0, .int .u8 0, .int .u8 0, .int .u8 0, .int .u8 0, .int .u8 0, .int .u8 0, .int .u8 0, .int .u8 0, .int .u8 0, .int .u8 0, .int .u8 0, .int .u8 0, .int .u8 0, .int .u8 0, .int .u8 0, .int .u8 0, .int .u8 0, .int .u8 0, .int .u8 0, .int .u8 0, .int .u8 0, .int .u8 0, .int .u8 0, .int .u8 0, .int .u8 0, .int .u8 0, .int .u8 0, .int .u8 0] 45)) (w.heap.size + 1 + 1) 45 .u8 32 (fun _ => 0) ∧ w.grownBy (((w.alloc (.cells #[.int .u8 0, .int .u8 0, .int .u8 0, .int .u8 0, .int .u8 0, .int .u8 0, .int .u8 0, .int .u8 0, .int .u8 0, .int .u8 0, .int .u8 0, .int .u8 0, .int .u8 0, .int .u8 0, .int .u8 0, .int .u8 0, .int .u8 0, .int .u8 0, .int .u8 0, .int .u8 0, .int .u8 0, .int .u8 0, .int .u8 0, .int .u8 0, .int .u8 0, .int .u8 0, .int .u8 0, .int .u8 0, .int .u8 0, .int .u8 0, .int .u8 0, .int .u8 0] 45)).alloc (.cells #[.int .u8 0, .int .u8 0, .int .u8 0, .int .u8 0, .int .u8 0, .int .u8 0, .int .u8 0, .int .u8 0, .int .u8 0, .int .u8 0, .int .u8 0, .int .u8 0, .int .u8 0, .int .u8 0, .int .u8 0, .int .u8 0, .int .u8 0, .int .u8 0, .int .u8 0, .int .u8 0, .int .u8 0, .int .u8 0, .int .u8 0, .int .u8 0, .int .u8 0, .int .u8 0, .int .u8 0, .int .u8 0, .int .u8 0, .int .u8 0, .int .u8 0, .int .u8 0] 45)).alloc (.cells #[.int .u8 0, .int .u8 0, .int .u8 0, .int .u8 0, .int .u8 0, .int .u8 0, .int .u8 0, .int .u8 0, .int .u8 0, .int .u8 0, .int .u8 0, .int .u8 0, .int .u8 0, .int .u8 0, .int .u8 0, .int .u8 0, .int .u8 0, .int .u8 0, .int .u8 0, .int .u8 0, .int .u8 0, .int .u8 0, .int .u8 0, .int .u8 0, .int .u8 0, .int .u8 0, .int .u8 0, .int .u8 0, .int .u8 0, .int .u8 0, .int .u8 0, .int .u8 0] 45)) none := by
  have a1 := holds_alloc w 45 .u8 32 (fun _ => 0) #[.int .u8 0, .int .u8 0, .int .u8 0, .int .u8 0, .int .u8 0, .int .u8 0, .int .u8 0, .int .u8 0, .int .u8 0, .int .u8 0, .int .u8 0, .int .u8 0, .int .u8 0, .int .u8 0, .int .u8 0, .int .u8 0, .int .u8 0, .int .u8 0, .int .u8 0, .int .u8 0, .int .u8 0, .int .u8 0, .int .u8 0, .int .u8 0, .int .u8 0, .int .u8 0, .int .u8 0, .int .u8 0, .int .u8 0, .int .u8 0, .int .u8 0, .int .u8 0] rfl
  have a2 := holds_alloc (w.alloc (.cells #[.int .u8 0, .int .u8 0, .int .u8 0, .int .u8 0, .int .u8 0, .int .u8 0, .int .u8 0, .int .u8 0, .int .u8 0, .int .u8 0, .int .u8 0, .int .u8 0, .int .u8 0, .int .u8 0, .int .u8 0, .int .u8 0, .int .u8 0, .int .u8 0, .int .u8 0, .int .u8 0, .int .u8 0, .int .u8 0, .int .u8 0, .int .u8 0, .int .u8 0, .int .u8 0, .int .u8 0, .int .u8 0, .int .u8 0, .int .u8 0, .int .u8 0, .int .u8 0] 45)) 45 .u8 32 (fun _ => 0) #[.int .u8 0, .int .u8 0, .int .u8 0, .int .u8 0, .int .u8 0, .int .u8 0, .int .u8 0, .int .u8 0, .int .u8 0, .int .u8 0, .int .u8 0, .int .u8 0, .int .u8 0, .int .u8 0, .int .u8 0, .int .u8 0, .int .u8 0, .int .u8 0, .int .u8 0, .int .u8 0, .int .u8 0, .int .u8 0, .int .u8 0, .int .u8 0, .int .u8 0, .int .u8 0, .int .u8 0, .int .u8 0, .int .u8 0, .int .u8 0, .int .u8 0, .int .u8 0] rfl
  have a3 := holds_alloc ((w.alloc (.cells #[.int .u8 0, .int .u8 0, .int .u8 0, .int .u8 0, .int .u8 0, .int .u8 0, .int .u8 0, .int .u8 0, .int .u8 0, .int .u8 0, .int .u8 0, .int .u8 0, .int .u8 0, .int .u8 0, .int .u8 0, .int .u8 0, .int .u8 0, .int .u8 0, .int .u8 0, .int .u8 0, .int .u8 0, .int .u8 0, .int .u8 0, .int .u8 0, .int .u8 0, .int .u8 0, .int .u8 0, .int .u8 0, .int .u8 0, .int .u8 0, .int .u8 0, .int .u8 0] 45)).alloc (.cells #[.int .u8 0, .int .u8 0, .int .u8 0, .int .u8 0, .int .u8 0, .int .u8 0, .int .u8 0, .int .u8 0, .int .u8 0, .int .u8 0, .int .u8 0, .int .u8 0, .int .u8 0, .int .u8 0, .int .u8 0, .int .u8 0, .int .u8 0, .int .u8 0, .int .u8 0, .int .u8 0, .int .u8 0, .int .u8 0, .int .u8 0, .int .u8 0, .int .u8 0, .int .u8 0, .int .u8 0, .int .u8 0, .int .u8 0, .int .u8 0, .int .u8 0, .int .u8 0] 45)) 45 .u8 32 (fun _ => 0) #[.int .u8 0, .int .u8 0, .int .u8 0, .int .u8 0, .int .u8 0, .int .u8 0, .int .u8 0, .int .u8 0, .int .u8 0, .int .u8 0, .int .u8 0, .int .u8 0, .int .u8 0, .int .u8 0, .int .u8 0, .int .u8 0, .int .u8 0, .int .u8 0, .int .u8 0, .int .u8 0, .int .u8 0, .int .u8 0, .int .u8 0, .int .u8 0, .int .u8 0, .int .u8 0, .int .u8 0, .int .u8 0, .int .u8 0, .int .u8 0, .int .u8 0, .int .u8 0] rfl
  rw [World.size_alloc] at a2
  rw [World.size_alloc, World.size_alloc] at a3
  exact ⟨(a1.grown (World.grownBy_alloc _ (.cells #[.int .u8 0, .int .u8 0, .int .u8 0, .int .u8 0, .int .u8 0, .int .u8 0, .int .u8 0, .int .u8 0, .int .u8 0, .int .u8 0, .int .u8 0, .int .u8 0, .int .u8 0, .int .u8 0, .int .u8 0, .int .u8 0, .int .u8 0, .int .u8 0, .int .u8 0, .int .u8 0, .int .u8 0, .int .u8 0, .int .u8 0, .int .u8 0, .int .u8 0, .int .u8 0, .int .u8 0, .int .u8 0, .int .u8 0, .int .u8 0, .int .u8 0, .int .u8 0] 45) none) (by simp)).grown (World.grownBy_alloc _ (.cells #[.int .u8 0, .int .u8 0, .int .u8 0, .int .u8 0, .int .u8 0, .int .u8 0, .int .u8 0, .int .u8 0, .int .u8 0, .int .u8 0, .int .u8 0, .int .u8 0, .int .u8 0, .int .u8 0, .int .u8 0, .int .u8 0, .int .u8 0, .int .u8 0, .int .u8 0, .int .u8 0, .int .u8 0, .int .u8 0, .int .u8 0, .int .u8 0, .int .u8 0, .int .u8 0, .int .u8 0, .int .u8 0, .int .u8 0, .int .u8 0, .int .u8 0, .int .u8 0] 45) none) (by simp), a2.grown (World.grownBy_alloc _ (.cells #[.int .u8 0, .int .u8 0, .int .u8 0, .int .u8 0, .int .u8 0, .int .u8 0, .int .u8 0, .int .u8 0, .int .u8 0, .int .u8 0, .int .u8 0, .int .u8 0, .int .u8 0, .int .u8 0, .int .u8 0, .int .u8 0, .int .u8 0, .int .u8 0, .int .u8 0, .int .u8 0, .int .u8 0, .int .u8 0, .int .u8 0, .int .u8 0, .int .u8 0, .int .u8 0, .int .u8 0, .int .u8 0, .int .u8 0, .int .u8 0, .int .u8 0, .int .u8 0] 45) none) (by simp), a3, grown_alloc (grown_alloc (World.grownBy_alloc w (.cells #[.int .u8 0, .int .u8 0, .int .u8 0, .int .u8 0, .int .u8 0, .int .u8 0, .int .u8 0, .int .u8 0, .int .u8 0, .int .u8 0, .int .u8 0, .int .u8 0, .int .u8 0, .int .u8 0, .int .u8 0, .int .u8 0, .int .u8 0, .int .u8 0, .int .u8 0, .int .u8 0, .int .u8 0, .int .u8 0, .int .u8 0, .int .u8 0, .int .u8 0, .int .u8 0, .int .u8 0, .int .u8 0, .int .u8 0, .int .u8 0, .int .u8 0, .int .u8 0] 45) none) (.cells #[.int .u8 0, .int .u8 0, .int .u8 0, .int .u8 0, .int .u8 0, .int .u8 0, .int .u8 0, .int .u8 0, .int .u8 0, .int .u8 0, .int .u8 0, .int .u8 0, .int .u8 0, .int .u8 0, .int .u8 0, .int .u8 0, .int .u8 0, .int .u8 0, .int .u8 0, .int .u8 0, .int .u8 0, .int .u8 0, .int .u8 0, .int .u8 0, .int .u8 0, .int .u8 0, .int .u8 0, .int .u8 0, .int .u8 0, .int .u8 0, .int .u8 0, .int .u8 0] 45)) (.cells #[.int .u8 0, .int .u8 0, .int .u8 0, .int .u8 0, .int .u8 0, .int .u8 0, .int .u8 0, .int .u8 0, .int .u8 0, .int .u8 0, .int .u8 0, .int .u8 0, .int .u8 0, .int .u8 0, .int .u8 0, .int .u8 0, .int .u8 0, .int .u8 0, .int .u8 0, .int .u8 0, .int .u8 0, .int .u8 0, .int .u8 0, .int .u8 0, .int .u8 0, .int .u8 0, .int .u8 0, .int .u8 0, .int .u8 0, .int .u8 0, .int .u8 0, .int .u8 0] 45)⟩
/-- They are stored to, one after the other. -/
theorem three_set {V w : World} {B : Nat} {T n : Nat} {k : IntKind} {z : Nat → Nat} (f1 f2 f3 : Nat → Nat) (hB : V.heap.size ≤ B) (g : V.grownBy w none) (h1 : Holds w B T k n z) (h2 : Holds w (B + 1) T k n z) (h3 : Holds w (B + 1 + 1) T k n z) :
    Holds (w.setRow B (cellsOf k n f1)) (B + 1) T k n z ∧ Holds ((w.setRow B (cellsOf k n f1)).setRow (B + 1) (cellsOf k n f2)) (B + 1 + 1) T k n z ∧
    Holds (((w.setRow B (cellsOf k n f1)).setRow (B + 1) (cellsOf k n f2)).setRow (B + 1 + 1) (cellsOf k n f3)) B T k n f1 ∧ Holds (((w.setRow B (cellsOf k n f1)).setRow (B + 1) (cellsOf k n f2)).setRow (B + 1 + 1) (cellsOf k n f3)) (B + 1) T k n f2 ∧
    Holds (((w.setRow B (cellsOf k n f1)).setRow (B + 1) (cellsOf k n f2)).setRow (B + 1 + 1) (cellsOf k n f3)) (B + 1 + 1) T k n f3 ∧ V.grownBy (((w.setRow B (cellsOf k n f1)).setRow (B + 1) (cellsOf k n f2)).setRow (B + 1 + 1) (cellsOf k n f3)) none := by
  have a2 := h2.of_block (setRow_other w B (B + 1) (cellsOf k n f1) (by omega))
  have a3 := (h3.of_block (setRow_other w B (B + 1 + 1) (cellsOf k n f1) (by omega))).of_block (setRow_other _ (B + 1) (B + 1 + 1) (cellsOf k n f2) (by omega))
  have b1 := ((h1.setRow k n f1).of_block (setRow_other _ (B + 1) B (cellsOf k n f2) (by omega))).of_block (setRow_other _ (B + 1 + 1) B (cellsOf k n f3) (by omega))
  have b2 := (a2.setRow k n f2).of_block (setRow_other _ (B + 1 + 1) (B + 1) (cellsOf k n f3) (by omega))
  exact ⟨a2, a3, b1, b2, a3.setRow k n f3, grown_setRow_new (grown_setRow_new (grown_setRow_new g B _ (Or.inl hB)) (B + 1) _ (Or.inl (by omega))) (B + 1 + 1) _ (Or.inl (by omega))⟩

theorem rows_any (w : World) : Calls Try.prog 40 #[] w fun e w' => e = .returned (.tuple #[.agg (cellsOf .u8 32 rowK), .agg (cellsOf .u8 32 rowU), .agg (cellsOf .u8 32 rowW)]) ∧ w.grownBy w' none := by
  obtain ⟨h1, h2, h3, g⟩ := three_keys w
  obtain ⟨a2, a3, b1, b2, b3, g2⟩ := three_set rowK rowU rowW (Nat.le_refl w.heap.size) g h1 h2 h3
  have B1 := Lib.hid b1
  have B2 := Lib.hid b2
  have B3 := Lib.hid b3
  have G2 := Lib.hid g2
  clear b1 b2 b3 g2 g h2 h3
  go_enter Try.func40, Try.ntmps40
  go_upto_region 1 with fail
  generalize (((w.alloc (.cells #[.int .u8 0, .int .u8 0, .int .u8 0, .int .u8 0, .int .u8 0, .int .u8 0, .int .u8 0, .int .u8 0, .int .u8 0, .int .u8 0, .int .u8 0, .int .u8 0, .int .u8 0, .int .u8 0, .int .u8 0, .int .u8 0, .int .u8 0, .int .u8 0, .int .u8 0, .int .u8 0, .int .u8 0, .int .u8 0, .int .u8 0, .int .u8 0, .int .u8 0, .int .u8 0, .int .u8 0, .int .u8 0, .int .u8 0, .int .u8 0, .int .u8 0, .int .u8 0] 45)).alloc (.cells #[.int .u8 0, .int .u8 0, .int .u8 0, .int .u8 0, .int .u8 0, .int .u8 0, .int .u8 0, .int .u8 0, .int .u8 0, .int .u8 0, .int .u8 0, .int .u8 0, .int .u8 0, .int .u8 0, .int .u8 0, .int .u8 0, .int .u8 0, .int .u8 0, .int .u8 0, .int .u8 0, .int .u8 0, .int .u8 0, .int .u8 0, .int .u8 0, .int .u8 0, .int .u8 0, .int .u8 0, .int .u8 0, .int .u8 0, .int .u8 0, .int .u8 0, .int .u8 0] 45)).alloc (.cells #[.int .u8 0, .int .u8 0, .int .u8 0, .int .u8 0, .int .u8 0, .int .u8 0, .int .u8 0, .int .u8 0, .int .u8 0, .int .u8 0, .int .u8 0, .int .u8 0, .int .u8 0, .int .u8 0, .int .u8 0, .int .u8 0, .int .u8 0, .int .u8 0, .int .u8 0, .int .u8 0, .int .u8 0, .int .u8 0, .int .u8 0, .int .u8 0, .int .u8 0, .int .u8 0, .int .u8 0, .int .u8 0, .int .u8 0, .int .u8 0, .int .u8 0, .int .u8 0] 45)) = w1 at *
  go_wp2_with (first
    | refine wpList_store_row rfl 45 (.tmp 0) (.tmp 3) rfl w.heap.size (cellsOf .u8 32 rowK) rfl rfl 45 _ h1.block (by rw [cellsOf_size]; kernel_rfl) (by first | rfl | simp only [cellsOf_size]) (cellsOf_all _ _ _) ?_
    | refine wpList_store_row rfl 45 (.tmp 1) (.tmp 4) rfl (w.heap.size + 1) (cellsOf .u8 32 rowU) rfl rfl 45 _ a2.block (by rw [cellsOf_size]; kernel_rfl) (by first | rfl | simp only [cellsOf_size]) (cellsOf_all _ _ _) ?_
    | refine wpList_store_row rfl 45 (.tmp 2) (.tmp 5) rfl (w.heap.size + 1 + 1) (cellsOf .u8 32 rowW) rfl rfl 45 _ a3.block (by rw [cellsOf_size]; kernel_rfl) (by first | rfl | simp only [cellsOf_size]) (cellsOf_all _ _ _) ?_)
  refine bodyPost_ret (res_three rfl rfl rfl rfl B1.out B2.out B3.out (by kernel_rfl) (by kernel_rfl)) rfl ?_
  exact ⟨rfl, G2.out⟩

theorem cells_eq {f g : Nat → Nat} (h : eqL f g = true) : cellsOf .u8 32 f = cellsOf .u8 32 g := by
  refine Array.ext (by rw [cellsOf_size, cellsOf_size]) fun i h1 h2 => ?_
  have hi : i < 32 := by rwa [cellsOf_size] at h1
  have e := List.all_eq_true.1 h i (List.mem_range.2 hi)
  have e1 := cellsOf_get .u8 32 f i hi
  have e2 := cellsOf_get .u8 32 g i hi
  rw [Array.getElem?_eq_getElem h1] at e1
  rw [Array.getElem?_eq_getElem h2] at e2
  rw [Option.some.inj e1, Option.some.inj e2, eq_of_beq e]
theorem rowK_lt : ∀ i, rowK i < 256 := rowN_lt _ (by decide)
theorem rowU_lt : ∀ i, rowU i < 256 := rowN_lt _ (by decide)
theorem sh_row (w : World) : Calls Try.prog 22 #[.agg (cellsOf .u8 32 rowK), .agg (cellsOf .u8 32 rowU)] w fun e w' => e = .returned (.tuple #[.agg (cellsOf .u8 32 rowW), .int .i64 0]) ∧ w.grownBy w' none := by
  have h := shared_any rowK rowU rowK_lt rowU_lt w
  have hv : shV rowK rowU = _ := row_shared
  rw [hv, cells_eq row_w] at h
  exact h
theorem sh_zero (w : World) : Calls Try.prog 22 #[.agg (cellsOf .u8 32 rowK), .agg #[.int .u8 0, .int .u8 0, .int .u8 0, .int .u8 0, .int .u8 0, .int .u8 0, .int .u8 0, .int .u8 0, .int .u8 0, .int .u8 0, .int .u8 0, .int .u8 0, .int .u8 0, .int .u8 0, .int .u8 0, .int .u8 0, .int .u8 0, .int .u8 0, .int .u8 0, .int .u8 0, .int .u8 0, .int .u8 0, .int .u8 0, .int .u8 0, .int .u8 0, .int .u8 0, .int .u8 0, .int .u8 0, .int .u8 0, .int .u8 0, .int .u8 0, .int .u8 0]] w fun e w' => e = .returned (.tuple #[.agg (cellsOf .u8 32 (fun _ => 0)), .int .i64 70]) ∧ w.grownBy w' none := by
  have h := shared_any rowK (fun _ => 0) rowK_lt (fun _ => (by decide : (0 : Nat) < 256)) w
  have hv : shV rowK (fun _ => 0) = 0 := by unfold shV; rw [of_zero]; exact row_zero
  rw [hv, lim_zero] at h
  exact h
theorem sh_one (w : World) : Calls Try.prog 22 #[.agg (cellsOf .u8 32 rowK), .agg #[.int .u8 1, .int .u8 0, .int .u8 0, .int .u8 0, .int .u8 0, .int .u8 0, .int .u8 0, .int .u8 0, .int .u8 0, .int .u8 0, .int .u8 0, .int .u8 0, .int .u8 0, .int .u8 0, .int .u8 0, .int .u8 0, .int .u8 0, .int .u8 0, .int .u8 0, .int .u8 0, .int .u8 0, .int .u8 0, .int .u8 0, .int .u8 0, .int .u8 0, .int .u8 0, .int .u8 0, .int .u8 0, .int .u8 0, .int .u8 0, .int .u8 0, .int .u8 0]] w fun e w' => e = .returned (.tuple #[.agg (cellsOf .u8 32 (fun _ => 0)), .int .i64 70]) ∧ w.grownBy w' none := by
  have h := shared_any rowK (rowN [1]) rowK_lt (rowN_lt _ (by decide)) w
  have hv : shV rowK (rowN [1]) = 0 := by unfold shV; rw [of_one]; exact row_one
  rw [hv, lim_zero] at h
  exact h

theorem known07 (w : World) : Calls Try.prog 20 #[] w (SaysYes w) := by
  have HR := Lib.hid rows_any
  have H1 := Lib.hid sh_row
  have H2 := Lib.hid sh_zero
  have H3 := Lib.hid sh_one
  have hw : cellsOf .u8 32 rowW = cellsOf .u8 32 rowW := rfl
  obtain ⟨k, hk⟩ : ∃ k, k = rowK := ⟨_, rfl⟩
  obtain ⟨u, hu⟩ : ∃ k, k = rowU := ⟨_, rfl⟩
  obtain ⟨r, hr⟩ : ∃ k, k = rowW := ⟨_, rfl⟩
  rw [← hk, ← hu, ← hr] at HR
  rw [← hk, ← hu, ← hr] at H1
  rw [← hk] at H2 H3
  clear hk hu hr hw
  go_enter Try.func20, Try.ntmps20
  go_wp2_with fail
  go_at_call 40
  refine (HR.out _).mono ?_
  rintro e V ⟨rfl, g⟩
  obtain ⟨h1, h2, h3, ga⟩ := three_keys V
  obtain ⟨a2, a3, b1, b2, b3, g2⟩ := three_set k u r (Nat.le_refl V.heap.size) ga h1 h2 h3
  replace g := grown_trans g g2
  clear ga g2 h2 h3 HR
  go_upto_region 2 with (first
    | refine wpList_store_row rfl 45 (.tmp 1) (.tmp 12) rfl V.heap.size (cellsOf .u8 32 k) rfl rfl 45 _ h1.block (by rw [cellsOf_size]; kernel_rfl) (by first | rfl | simp only [cellsOf_size]) (cellsOf_all _ _ _) ?_
    | refine wpList_store_row rfl 45 (.tmp 2) (.tmp 13) rfl (V.heap.size + 1) (cellsOf .u8 32 u) rfl rfl 45 _ a2.block (by rw [cellsOf_size]; kernel_rfl) (by first | rfl | simp only [cellsOf_size]) (cellsOf_all _ _ _) ?_
    | refine wpList_store_row rfl 45 (.tmp 3) (.tmp 14) rfl (V.heap.size + 1 + 1) (cellsOf .u8 32 r) rfl rfl 45 _ a3.block (by rw [cellsOf_size]; kernel_rfl) (by first | rfl | simp only [cellsOf_size]) (cellsOf_all _ _ _) ?_)
  generalize (((((V.alloc (.cells #[.int .u8 0, .int .u8 0, .int .u8 0, .int .u8 0, .int .u8 0, .int .u8 0, .int .u8 0, .int .u8 0, .int .u8 0, .int .u8 0, .int .u8 0, .int .u8 0, .int .u8 0, .int .u8 0, .int .u8 0, .int .u8 0, .int .u8 0, .int .u8 0, .int .u8 0, .int .u8 0, .int .u8 0, .int .u8 0, .int .u8 0, .int .u8 0, .int .u8 0, .int .u8 0, .int .u8 0, .int .u8 0, .int .u8 0, .int .u8 0, .int .u8 0, .int .u8 0] 45)).alloc (.cells #[.int .u8 0, .int .u8 0, .int .u8 0, .int .u8 0, .int .u8 0, .int .u8 0, .int .u8 0, .int .u8 0, .int .u8 0, .int .u8 0, .int .u8 0, .int .u8 0, .int .u8 0, .int .u8 0, .int .u8 0, .int .u8 0, .int .u8 0, .int .u8 0, .int .u8 0, .int .u8 0, .int .u8 0, .int .u8 0, .int .u8 0, .int .u8 0, .int .u8 0, .int .u8 0, .int .u8 0, .int .u8 0, .int .u8 0, .int .u8 0, .int .u8 0, .int .u8 0] 45)).alloc (.cells #[.int .u8 0, .int .u8 0, .int .u8 0, .int .u8 0, .int .u8 0, .int .u8 0, .int .u8 0, .int .u8 0, .int .u8 0, .int .u8 0, .int .u8 0, .int .u8 0, .int .u8 0, .int .u8 0, .int .u8 0, .int .u8 0, .int .u8 0, .int .u8 0, .int .u8 0, .int .u8 0, .int .u8 0, .int .u8 0, .int .u8 0, .int .u8 0, .int .u8 0, .int .u8 0, .int .u8 0, .int .u8 0, .int .u8 0, .int .u8 0, .int .u8 0, .int .u8 0] 45)).setRow V.heap.size (cellsOf .u8 32 k)).setRow (V.heap.size + 1) (cellsOf .u8 32 u)).setRow (V.heap.size + 1 + 1) (cellsOf .u8 32 r) = V2 at *
  clear h1 a2 a3
  generalize V.heap.size = B at *
  go_wp2_with (first
    | refine wpList_load_key rfl 1 rfl rfl b1 ?_
    | refine wpList_load_key rfl 2 rfl rfl b2 ?_)
  go_at_call 22
  refine (H1.out _).mono ?_
  rintro e U1 ⟨rfl, g0⟩
  have hL := holds_alloc U1 45 .u8 32 (fun _ => 0) #[.int .u8 0, .int .u8 0, .int .u8 0, .int .u8 0, .int .u8 0, .int .u8 0, .int .u8 0, .int .u8 0, .int .u8 0, .int .u8 0, .int .u8 0, .int .u8 0, .int .u8 0, .int .u8 0, .int .u8 0, .int .u8 0, .int .u8 0, .int .u8 0, .int .u8 0, .int .u8 0, .int .u8 0, .int .u8 0, .int .u8 0, .int .u8 0, .int .u8 0, .int .u8 0, .int .u8 0, .int .u8 0, .int .u8 0, .int .u8 0, .int .u8 0, .int .u8 0] rfl
  have gg := grown_alloc g0 (.cells #[.int .u8 0, .int .u8 0, .int .u8 0, .int .u8 0, .int .u8 0, .int .u8 0, .int .u8 0, .int .u8 0, .int .u8 0, .int .u8 0, .int .u8 0, .int .u8 0, .int .u8 0, .int .u8 0, .int .u8 0, .int .u8 0, .int .u8 0, .int .u8 0, .int .u8 0, .int .u8 0, .int .u8 0, .int .u8 0, .int .u8 0, .int .u8 0, .int .u8 0, .int .u8 0, .int .u8 0, .int .u8 0, .int .u8 0, .int .u8 0, .int .u8 0, .int .u8 0] 45)
  have g2 := grown_setRow_new gg U1.heap.size (cellsOf .u8 32 r) (Or.inl g0.size)
  have d1 := hL.setRow .u8 32 r
  replace b1 := b1.grown g2 (by simp)
  replace b3 := b3.grown g2 (by simp)
  replace g := grown_trans g g2
  clear g0 gg g2 H1
  go_upto_region 3 with (refine wpList_store_row rfl 45 (.tmp 4) (.tmp 19) rfl U1.heap.size (cellsOf .u8 32 r) rfl rfl 45 _ hL.block (by rw [cellsOf_size]; kernel_rfl) (by first | rfl | simp only [cellsOf_size]) (cellsOf_all _ _ _) ?_)
  generalize (U1.alloc (.cells #[.int .u8 0, .int .u8 0, .int .u8 0, .int .u8 0, .int .u8 0, .int .u8 0, .int .u8 0, .int .u8 0, .int .u8 0, .int .u8 0, .int .u8 0, .int .u8 0, .int .u8 0, .int .u8 0, .int .u8 0, .int .u8 0, .int .u8 0, .int .u8 0, .int .u8 0, .int .u8 0, .int .u8 0, .int .u8 0, .int .u8 0, .int .u8 0, .int .u8 0, .int .u8 0, .int .u8 0, .int .u8 0, .int .u8 0, .int .u8 0, .int .u8 0, .int .u8 0] 45)).setRow U1.heap.size (cellsOf .u8 32 r) = V3 at *
  clear hL
  generalize U1.heap.size = B1 at *
  clear b2
  go_wp2_with (refine wpList_load_key rfl 1 rfl rfl b1 ?_)
  go_at_call 22
  refine (H2.out _).mono ?_
  rintro e U2 ⟨rfl, g0⟩
  have hL := holds_alloc U2 45 .u8 32 (fun _ => 0) #[.int .u8 0, .int .u8 0, .int .u8 0, .int .u8 0, .int .u8 0, .int .u8 0, .int .u8 0, .int .u8 0, .int .u8 0, .int .u8 0, .int .u8 0, .int .u8 0, .int .u8 0, .int .u8 0, .int .u8 0, .int .u8 0, .int .u8 0, .int .u8 0, .int .u8 0, .int .u8 0, .int .u8 0, .int .u8 0, .int .u8 0, .int .u8 0, .int .u8 0, .int .u8 0, .int .u8 0, .int .u8 0, .int .u8 0, .int .u8 0, .int .u8 0, .int .u8 0] rfl
  have gg := grown_alloc g0 (.cells #[.int .u8 0, .int .u8 0, .int .u8 0, .int .u8 0, .int .u8 0, .int .u8 0, .int .u8 0, .int .u8 0, .int .u8 0, .int .u8 0, .int .u8 0, .int .u8 0, .int .u8 0, .int .u8 0, .int .u8 0, .int .u8 0, .int .u8 0, .int .u8 0, .int .u8 0, .int .u8 0, .int .u8 0, .int .u8 0, .int .u8 0, .int .u8 0, .int .u8 0, .int .u8 0, .int .u8 0, .int .u8 0, .int .u8 0, .int .u8 0, .int .u8 0, .int .u8 0] 45)
  have g2 := grown_setRow_new gg U2.heap.size (cellsOf .u8 32 (fun _ => 0)) (Or.inl g0.size)
  have d2 := hL.setRow .u8 32 (fun _ => 0)
  replace b1 := b1.grown g2 (by simp)
  replace b3 := b3.grown g2 (by simp)
  replace d1 := d1.grown g2 (by simp)
  replace g := grown_trans g g2
  clear g0 gg g2 H2
  go_upto_region 4 with (refine wpList_store_row rfl 45 (.tmp 6) (.tmp 25) rfl U2.heap.size (cellsOf .u8 32 (fun _ => 0)) rfl rfl 45 _ hL.block (by rw [cellsOf_size]; kernel_rfl) (by first | rfl | simp only [cellsOf_size]) (cellsOf_all _ _ _) ?_)
  generalize (U2.alloc (.cells #[.int .u8 0, .int .u8 0, .int .u8 0, .int .u8 0, .int .u8 0, .int .u8 0, .int .u8 0, .int .u8 0, .int .u8 0, .int .u8 0, .int .u8 0, .int .u8 0, .int .u8 0, .int .u8 0, .int .u8 0, .int .u8 0, .int .u8 0, .int .u8 0, .int .u8 0, .int .u8 0, .int .u8 0, .int .u8 0, .int .u8 0, .int .u8 0, .int .u8 0, .int .u8 0, .int .u8 0, .int .u8 0, .int .u8 0, .int .u8 0, .int .u8 0, .int .u8 0] 45)).setRow U2.heap.size (cellsOf .u8 32 (fun _ => 0)) = V4 at *
  clear hL
  generalize U2.heap.size = B2 at *
  go_wp2_with (refine wpList_load_key rfl 1 rfl rfl b1 ?_)
  go_at_call 22
  refine (H3.out _).mono ?_
  rintro e U3 ⟨rfl, g0⟩
  have hL := holds_alloc U3 45 .u8 32 (fun _ => 0) #[.int .u8 0, .int .u8 0, .int .u8 0, .int .u8 0, .int .u8 0, .int .u8 0, .int .u8 0, .int .u8 0, .int .u8 0, .int .u8 0, .int .u8 0, .int .u8 0, .int .u8 0, .int .u8 0, .int .u8 0, .int .u8 0, .int .u8 0, .int .u8 0, .int .u8 0, .int .u8 0, .int .u8 0, .int .u8 0, .int .u8 0, .int .u8 0, .int .u8 0, .int .u8 0, .int .u8 0, .int .u8 0, .int .u8 0, .int .u8 0, .int .u8 0, .int .u8 0] rfl
  have gg := grown_alloc g0 (.cells #[.int .u8 0, .int .u8 0, .int .u8 0, .int .u8 0, .int .u8 0, .int .u8 0, .int .u8 0, .int .u8 0, .int .u8 0, .int .u8 0, .int .u8 0, .int .u8 0, .int .u8 0, .int .u8 0, .int .u8 0, .int .u8 0, .int .u8 0, .int .u8 0, .int .u8 0, .int .u8 0, .int .u8 0, .int .u8 0, .int .u8 0, .int .u8 0, .int .u8 0, .int .u8 0, .int .u8 0, .int .u8 0, .int .u8 0, .int .u8 0, .int .u8 0, .int .u8 0] 45)
  have g2 := grown_setRow_new gg U3.heap.size (cellsOf .u8 32 (fun _ => 0)) (Or.inl g0.size)
  have d3 := hL.setRow .u8 32 (fun _ => 0)
  replace b1 := b1.grown g2 (by simp)
  replace b3 := b3.grown g2 (by simp)
  replace d1 := d1.grown g2 (by simp)
  replace d2 := d2.grown g2 (by simp)
  replace g := grown_trans g g2
  clear g0 gg g2 H3
  go_upto_region 5 with (refine wpList_store_row rfl 45 (.tmp 8) (.tmp 31) rfl U3.heap.size (cellsOf .u8 32 (fun _ => 0)) rfl rfl 45 _ hL.block (by rw [cellsOf_size]; kernel_rfl) (by first | rfl | simp only [cellsOf_size]) (cellsOf_all _ _ _) ?_)
  generalize (U3.alloc (.cells #[.int .u8 0, .int .u8 0, .int .u8 0, .int .u8 0, .int .u8 0, .int .u8 0, .int .u8 0, .int .u8 0, .int .u8 0, .int .u8 0, .int .u8 0, .int .u8 0, .int .u8 0, .int .u8 0, .int .u8 0, .int .u8 0, .int .u8 0, .int .u8 0, .int .u8 0, .int .u8 0, .int .u8 0, .int .u8 0, .int .u8 0, .int .u8 0, .int .u8 0, .int .u8 0, .int .u8 0, .int .u8 0, .int .u8 0, .int .u8 0, .int .u8 0, .int .u8 0] 45)).setRow U3.heap.size (cellsOf .u8 32 (fun _ => 0)) = V5 at *
  clear hL
  generalize U3.heap.size = B3 at *
  clear b1
  go_wp2_with (first
    | refine wpList_load_keyG rfl 4 rfl rfl d1 ?_
    | refine wpList_load_keyG rfl 3 rfl rfl b3 ?_
    | refine wpList_load_keyG rfl 6 rfl rfl d2 ?_
    | refine wpList_load_keyG rfl 8 rfl rfl d3 ?_
    | refine wpList_eqkG rfl 33 34 r rfl rfl rfl ?_
    | refine wpList_eqkG rfl 41 42 (fun _ => 0) rfl rfl rfl ?_
    | refine wpList_eqkG rfl 46 47 (fun _ => 0) rfl rfl rfl ?_)
  go_ret
  exact ⟨⟨rfl, g⟩⟩
end Go.Proofs.Ytpnddojcihdniaa
namespace Go.Proofs.Ytpnddojcihdniaa
open Go.RowKit Go.Shelf

set_option maxRecDepth 100000
set_option maxHeartbeats 2000000

theorem run_slicek {o : Oper} {a : Act} {W : World} {B : Nat} (t : Nat) (ho : o.op = .slice 45 (.tmp t) none none none) (h : slotv a t = .pointer (some ⟨B, 0, none⟩)) : (execOp a.eval o).run Try.prog W = .ok (.value (.slice (some ⟨B, 0, none⟩) 32 32)) W := by
  have h1 : a.tmps[t]?.getD undef = .pointer (some ⟨B, 0, none⟩) := h
  unfold execOp
  simp only [ho]
  go_simp
theorem Holds.rdk {w : World} {B T : Nat} {f : Nat → Nat} (h : Holds w B T .u8 32 f) : Rd w w.heap.size (some ⟨B, 0, none⟩) 32 f := ⟨fun _ => ⟨B, 0, rfl, h.lt, fun i hi => by rw [Nat.zero_add]; exact h.cell i hi⟩⟩
theorem run_eqstr {o : Oper} {a : Act} {W : World} {s : ByteArray} (t1 t2 : Tmp) (ho : o.op = .binOp .eql 9 (.tmp t1) (.tmp t2) 9) (h1 : a.tmps[t1]?.getD undef = .string s) (h2 : a.tmps[t2]?.getD undef = .string s) : (execOp a.eval o).run Try.prog W = .ok (.value (.bool true)) W := by
  unfold execOp
  simp only [ho]
  go_simp
theorem run_newzero {o : Oper} {a : Act} {W : World} (ho : o.op = .build 45 #[]) : (execOp a.eval o).run Try.prog W = .ok (.value (.agg (cellsOf .u8 32 (fun _ => 0)))) W := by
  rw [show cellsOf .u8 32 (fun _ => 0) = #[.int .u8 0, .int .u8 0, .int .u8 0, .int .u8 0, .int .u8 0, .int .u8 0, .int .u8 0, .int .u8 0, .int .u8 0, .int .u8 0, .int .u8 0, .int .u8 0, .int .u8 0, .int .u8 0, .int .u8 0, .int .u8 0, .int .u8 0, .int .u8 0, .int .u8 0, .int .u8 0, .int .u8 0, .int .u8 0, .int .u8 0, .int .u8 0, .int .u8 0, .int .u8 0, .int .u8 0, .int .u8 0, .int .u8 0, .int .u8 0, .int .u8 0, .int .u8 0] from rfl]
  unfold execOp
  simp only [ho]
  go_simp
theorem run_eqlkb {o : Oper} {a : Act} {W : World} {r : Bool} (t1 t2 : Tmp) (f g : Nat → Nat) (hq : eqN 32 f g = r) (ho : o.op = .binOp .eql 45 (.tmp t1) (.tmp t2) 45)
    (h1 : a.eval (.tmp t1) = .agg (cellsOf .u8 32 f)) (h2 : a.eval (.tmp t2) = .agg (cellsOf .u8 32 g)) : (execOp a.eval o).run Try.prog W = .ok (.value (.bool r)) W := by
  have h := run_eqlk (W := W) t1 t2 f g ho h1 h2
  rwa [hq] at h
end Go.Proofs.Ytpnddojcihdniaa
namespace Go.Proofs.Ytpnddojcihdniaa
open Go.RowKit

set_option maxRecDepth 100000

theorem xor_low (x l : Nat) : (x ^^^ (l &&& 7)) / 8 = x / 8 := by
  have h1 : (l &&& 7) < 2 ^ 3 := Nat.and_lt_two_pow l (by decide)
  have h2 : (l &&& 7) / 8 = 0 := Nat.div_eq_of_lt h1
  have h3 : (x ^^^ (l &&& 7)) >>> 3 = x >>> 3 ^^^ (l &&& 7) >>> 3 := Nat.shiftRight_xor_distrib
  rw [Nat.shiftRight_eq_div_pow, Nat.shiftRight_eq_div_pow, Nat.shiftRight_eq_div_pow] at h3
  rw [show (2 : Nat) ^ 3 = 8 from rfl, h2, Nat.xor_zero] at h3
  exact h3
theorem xor_high (x h : Nat) : (x ^^^ (h &&& 192)) % 64 = x % 64 := by
  have h1 : (h &&& 192) % 2 ^ 6 = h % 2 ^ 6 &&& 192 % 2 ^ 6 := Nat.and_mod_two_pow
  have h2 : (x ^^^ (h &&& 192)) % 2 ^ 6 = x % 2 ^ 6 ^^^ (h &&& 192) % 2 ^ 6 := Nat.xor_mod_two_pow
  rw [h1, show (192 : Nat) % 2 ^ 6 = 0 from rfl, Nat.and_zero, Nat.xor_zero] at h2
  exact h2
theorem xor_top (x h : Nat) : (x ^^^ (h &&& 128)) % 128 = x % 128 := by
  have h1 : (h &&& 128) % 2 ^ 7 = h % 2 ^ 7 &&& 128 % 2 ^ 7 := Nat.and_mod_two_pow
  have h2 : (x ^^^ (h &&& 128)) % 2 ^ 7 = x % 2 ^ 7 ^^^ (h &&& 128) % 2 ^ 7 := Nat.xor_mod_two_pow
  rw [h1, show (128 : Nat) % 2 ^ 7 = 0 from rfl, Nat.and_zero, Nat.xor_zero] at h2
  exact h2
theorem clampF_same (f : Nat → Nat) (x y : Nat) (hx : x / 8 = f 0 / 8) (hy : y % 64 = f 31 % 64) : clampF (upd (upd f 0 x) 31 y) = clampF f := by
  funext i
  unfold clampF
  by_cases e0 : i = 0
  · rw [if_pos e0, if_pos e0, upd_other _ _ _ _ (by decide), upd_same, hx]
  · rw [if_neg e0, if_neg e0]
    by_cases e1 : i = 31
    · rw [if_pos e1, if_pos e1, upd_same, hy]
    · rw [if_neg e1, if_neg e1, upd_other _ _ _ _ e1, upd_other _ _ _ _ e0]
theorem clampF_twice (f : Nat → Nat) : clampF (clampF f) = clampF f := by
  funext i
  unfold clampF
  by_cases e0 : i = 0
  · simp only [if_pos e0, if_pos]; omega
  · by_cases e1 : i = 31
    · simp only [if_neg e0, if_pos e1]
      simp
    · simp only [if_neg e0, if_neg e1]
theorem ofV_same (f : Nat → Nat) (y : Nat) (hy : y % 128 = f 31 % 128) : ofV (upd f 31 y) = ofV f := by
  unfold ofV
  have h1 : val 8 (upd f 31 y) 32 = val 8 f 31 + y * 2 ^ (8 * 31) := by
    show val 8 (upd f 31 y) 31 + upd f 31 y 31 * 2 ^ (8 * 31) = _
    rw [upd_same, val_congr 8 31 (fun i hi => upd_other _ _ _ _ (by omega))]
  have h2 : val 8 f 32 = val 8 f 31 + f 31 * 2 ^ (8 * 31) := rfl
  rw [h1, h2]
  have e : (2 : Nat) ^ (8 * 31) = 452312848583266388373324160190187140051835877600158453279131187530910662656 := rfl
  rw [e]
  generalize val 8 f 31 = a
  generalize f 31 = b at *
  refine congrArg (· % pF) ?_
  omega
end Go.Proofs.Ytpnddojcihdniaa
namespace Go.Proofs.Ytpnddojcihdniaa
open Go.RowKit Go.Shelf

set_option maxRecDepth 100000
set_option maxHeartbeats 4000000

theorem upd_lt (f : Nat → Nat) (i v : Nat) (hf : ∀ i, f i < 256) (hv : v < 256) (j : Nat) : upd f i v j < 256 := by
  by_cases e : j = i
  · subst e; rw [upd_same]; exact hv
  · rw [upd_other _ _ _ _ e]; exact hf j
theorem curveSame_any (fa fb : Nat → Nat) (l h : Nat) (w : World) (hfa : ∀ i, fa i < 256) (hfb : ∀ i, fb i < 256) (hl : l < 256) (hh : h < 256) :
    Calls Try.prog 5 #[.agg (cellsOf .u8 32 fa), .agg (cellsOf .u8 32 fb), .int .u8 l, .int .u8 h] w (SaysYes w) := by
  obtain ⟨m0, hm0⟩ : ∃ x, x = l &&& 7 := ⟨_, rfl⟩
  obtain ⟨m1, hm1⟩ : ∃ x, x = h &&& 192 := ⟨_, rfl⟩
  obtain ⟨h2, hh2⟩ : ∃ x, x = h * 2 % 256 := ⟨_, rfl⟩
  obtain ⟨m2, hm2⟩ : ∃ x, x = h2 &&& 128 := ⟨_, rfl⟩
  obtain ⟨a0, ha0⟩ : ∃ x, x = fa 0 := ⟨_, rfl⟩
  obtain ⟨a31, ha31⟩ : ∃ x, x = fa 31 := ⟨_, rfl⟩
  obtain ⟨b31, hb31⟩ : ∃ x, x = fb 31 := ⟨_, rfl⟩
  have la0 : a0 < 256 := ha0 ▸ hfa 0
  have la31 : a31 < 256 := ha31 ▸ hfa 31
  have lb31 : b31 < 256 := hb31 ▸ hfb 31
  have lh2 : h2 < 256 := by omega
  have lm0 : m0 < 256 := hm0 ▸ Nat.lt_of_le_of_lt Nat.and_le_left hl
  have lm1 : m1 < 256 := hm1 ▸ Nat.lt_of_le_of_lt Nat.and_le_left hh
  have lm2 : m2 < 256 := hm2 ▸ Nat.lt_of_le_of_lt Nat.and_le_left lh2
  obtain ⟨x0, hx0⟩ : ∃ x, x = a0 ^^^ m0 := ⟨_, rfl⟩
  obtain ⟨x31, hx31⟩ : ∃ x, x = a31 ^^^ m1 := ⟨_, rfl⟩
  obtain ⟨y31, hy31⟩ : ∃ x, x = b31 ^^^ m2 := ⟨_, rfl⟩
  have lx0 : x0 < 256 := hx0 ▸ Nat.xor_lt_two_pow (n := 8) la0 lm0
  have lx31 : x31 < 256 := hx31 ▸ Nat.xor_lt_two_pow (n := 8) la31 lm1
  have ly31 : y31 < 256 := hy31 ▸ Nat.xor_lt_two_pow (n := 8) lb31 lm2
  have z0 : bits .and .u8 (l : Int) 7 = (m0 : Int) := hm0 ▸ bits_and_u8_nat l 7 hl (by decide)
  have z1 : bits .and .u8 (h : Int) 192 = (m1 : Int) := hm1 ▸ bits_and_u8_nat h 192 hh (by decide)
  have z2 : bits .and .u8 (h2 : Int) 128 = (m2 : Int) := hm2 ▸ bits_and_u8_nat h2 128 lh2 (by decide)
  have z3 : bits .xor .u8 (a0 : Int) (m0 : Int) = (x0 : Int) := hx0 ▸ bits_xor_u8 a0 m0 la0 lm0
  have z4 : bits .xor .u8 (a31 : Int) (m1 : Int) = (x31 : Int) := hx31 ▸ bits_xor_u8 a31 m1 la31 lm1
  have z5 : bits .xor .u8 (b31 : Int) (m2 : Int) = (y31 : Int) := hy31 ▸ bits_xor_u8 b31 m2 lb31 lm2
  have z6 : IntKind.u8.wrap ((h : Int) * 2) = (h2 : Int) := by rw [IntKind.wrap_u8]; omega
  obtain ⟨fs, hfs⟩ : ∃ f, f = upd (upd fa 0 x0) 31 x31 := ⟨_, rfl⟩
  obtain ⟨fp, hfp⟩ : ∃ f, f = upd fb 31 y31 := ⟨_, rfl⟩
  have lfs : ∀ i, fs i < 256 := hfs ▸ upd_lt _ _ _ (upd_lt _ _ _ hfa lx0) lx31
  have lfp : ∀ i, fp i < 256 := hfp ▸ upd_lt _ _ _ hfb ly31
  have es : clampF fs = clampF fa := by
    rw [hfs]
    exact clampF_same fa x0 x31 (by rw [hx0, hm0, ha0]; exact xor_low _ _) (by rw [hx31, hm1, ha31]; exact xor_high _ _)
  have ep : ofV fp = ofV fb := by
    rw [hfp]
    exact ofV_same fb y31 (by rw [hy31, hm2, hb31]; exact xor_top _ _)
  have HK := Lib.hid known07
  have hS := shared_any fa fb hfa hfb
  have hS2 := shared_any fs fp lfs lfp
  have e2 : shV fs fp = shV fa fb := by unfold shV; rw [es, ep]
  rw [e2] at hS2
  have hP := public_any fa hfa
  have hP2 := public_any fs lfs
  rw [es] at hP2
  have hC := clamp_any fa hfa
  have hC2 := clamp_any fs lfs
  rw [es] at hC2
  have hC3 := clamp_any (clampF fa) (clampF_lt fa hfa)
  rw [clampF_twice] at hC3
  obtain ⟨c, hc⟩ : ∃ c, c = clampF fa := ⟨_, rfl⟩
  obtain ⟨p, hp⟩ : ∃ c, c = lim 8 (timesF (clampF fa) 9) := ⟨_, rfl⟩
  rw [← hp] at hP hP2
  rw [← hc] at hC hC2 hC3
  obtain ⟨V, hV⟩ : ∃ c, c = shV fa fb := ⟨_, rfl⟩
  rw [← hV] at hS hS2
  obtain ⟨s, hs⟩ : ∃ c, c = lim 8 V := ⟨_, rfl⟩
  rw [← hs] at hS hS2
  obtain ⟨ev, hev⟩ : ∃ c, c = errV V := ⟨_, rfl⟩
  rw [← hev] at hS hS2
  have HS := Lib.hid hS
  have HS2 := Lib.hid hS2
  have HP := Lib.hid hP
  have HP2 := Lib.hid hP2
  have HC := Lib.hid hC
  have HC2 := Lib.hid hC2
  have HC3 := Lib.hid hC3
  have Hfs := Lib.hid hfs
  have Hfp := Lib.hid hfp
  have A0 := Lib.hid ha0
  have A31 := Lib.hid ha31
  have B31 := Lib.hid hb31
  have hA : Holds ((w.alloc (.cells (cellsOf .u8 32 fa) 45)).alloc (.cells (cellsOf .u8 32 fb) 45)) w.heap.size 45 .u8 32 fa := (holds_alloc w 45 .u8 32 fa _ rfl).grown (World.grownBy_alloc _ _ none) (by simp)
  have hB : Holds ((w.alloc (.cells (cellsOf .u8 32 fa) 45)).alloc (.cells (cellsOf .u8 32 fb) 45)) (w.heap.size + 1) 45 .u8 32 fb := by
    have := holds_alloc (w.alloc (.cells (cellsOf .u8 32 fa) 45)) 45 .u8 32 fb _ rfl
    rwa [World.size_alloc] at this
  have gr := grown_alloc (World.grownBy_alloc w (.cells (cellsOf .u8 32 fa) 45) none) (.cells (cellsOf .u8 32 fb) 45)
  have kh : (h : Int) < 256 := by omega
  clear hfa hfb hS hS2 hP hP2 hC hC2 hC3 hc hp hV hs hev e2 ep es lfs lfp hfs hfp ha0 ha31 hb31 hm0 hm1 hm2 hh2 hx0 hx31 hy31 la0 la31 lb31 lh2 lm0 lm1 lm2 lx0 lx31 ly31 hl hh
  go_enter Try.func5, Try.ntmps5
  go_wp2_with fail
  generalize ((w.alloc (.cells (cellsOf .u8 32 fa) 45)).alloc (.cells (cellsOf .u8 32 fb) 45)) = V0 at *
  obtain ⟨B, hBw⟩ : ∃ B, B = w.heap.size := ⟨_, rfl⟩
  simp only [← hBw] at hA hB ⊢
  clear hBw
  go_at_call 20
  refine (HK.out _).mono ?_
  rintro e V1 ⟨⟨rfl, g0⟩⟩
  replace hA := hA.grown g0 (by simp)
  replace hB := hB.grown g0 (by simp)
  replace gr := grown_trans gr g0
  clear g0 HK V0
  go_upto_region 3 with fail
  refine wp_region_plain ?_
  refine wp_region_held (S := fun W => V1.grownBy W none) (by kernel_rfl) ?_
  change wpAnyH _ _ _ _ _ 6 #[false, false, false, false, false, false] _ (World.drew _)
  have gd : V1.grownBy V1.drew none := grown_drew (grown_refl V1 none)
  refine wpAnyH_takeD (some 17) (i := 0) (v := .agg (cellsOf .u8 32 fa)) rfl rfl (by kernel_rfl) (by kernel_rfl) (by kernel_rfl) (fun _ _ _ h => absurd h.1 (by simp)) (Or.inl ⟨rfl, fun W hW => run_key (hA.grown hW (by simp)) rfl rfl⟩) gd ?_
  simp only [Act.put, List.setIfInBounds_toArray, List.set_cons_succ, List.set_cons_zero]
  refine wpAnyH_takeD (some 18) (i := 1) (v := .agg (cellsOf .u8 32 fb)) rfl rfl (by kernel_rfl) (by kernel_rfl) (by kernel_rfl) (fun _ _ _ h => absurd h.1 (by simp)) (Or.inl ⟨rfl, fun W hW => run_key (hB.grown hW (by simp)) rfl rfl⟩) gd ?_
  simp only [Act.put, List.setIfInBounds_toArray, List.set_cons_succ, List.set_cons_zero]
  refine two_new 45 .u8 32 fa fb 2 3 4 5 9 10 17 18 _ (by kernel_rfl) (by kernel_rfl) (by kernel_rfl) (by kernel_rfl) (by kernel_rfl) (by kernel_rfl) (by kernel_rfl) (by kernel_rfl) (by kernel_rfl) rfl rfl rfl rfl rfl rfl rfl rfl rfl rfl rfl rfl
    (fun _ _ => run_newkey rfl) (fun _ _ => run_newkey rfl) rfl rfl rfl rfl (by show (9 : Nat) < 73; decide) (by show (10 : Nat) < 73; decide) (by decide) (by decide) (by decide) (by decide) (by decide) (by kernel_rfl) gd ?_
  intro b9 b10 W ne hb9 hb10 hg h9 h10
  refine ⟨rfl, ?_⟩
  simp only [Act.put, List.setIfInBounds_toArray, List.set_cons_succ, List.set_cons_zero]
  have k9 := (h9.set 0 x0).set 31 x31
  rw [← Hfs.out] at k9
  have K9 := Lib.hid (k9.setOther ⟨b10, 31, none⟩ (.int .u8 (y31 : Nat)) (by show b9 ≠ b10; exact ne))
  have k10 := (h10.setOther ⟨b9, 0, none⟩ (.int .u8 (x0 : Nat)) (by show b10 ≠ b9; exact Ne.symm ne)).setOther ⟨b9, 31, none⟩ (.int .u8 (x31 : Nat)) (by show b10 ≠ b9; exact Ne.symm ne)
  have k11 := k10.set 31 y31
  rw [← Hfp.out] at k11
  have K11 := Lib.hid k11
  have c0 := h9.cell 0 (by decide)
  have f0 := h9.frozen 0
  have c1 := (h9.set 0 x0).cell 31 (by decide)
  have f1 := (h9.set 0 x0).frozen 31
  rw [upd_other _ _ _ _ (by decide)] at c1
  have c2 := k10.cell 31 (by decide)
  have f2 := k10.frozen 31
  rw [← A0.out] at c0
  rw [← A31.out] at c1
  rw [← B31.out] at c2
  have g3 := grown_setCell_new (grown_setCell_new (grown_setCell_new hg ⟨b9, 0, none⟩ (.int .u8 (x0 : Nat)) (Or.inl hb9)) ⟨b9, 31, none⟩ (.int .u8 (x31 : Nat)) (Or.inl hb9)) ⟨b10, 31, none⟩ (.int .u8 (y31 : Nat)) (Or.inl hb10)
  have HA := Lib.hid (hA.grown g3 (by simp))
  have HB := Lib.hid (hB.grown g3 (by simp))
  have G3 := Lib.hid (grown_trans gr g3)
  clear gd h9 h10 k9 k10 k11 g3 hA hB gr hg hb9 hb10 ne Hfs Hfp A0 A31 B31
  go_upto_region 7 with fail
  generalize ((W.setCell ⟨b9, 0, none⟩ (.int .u8 (x0 : Nat))).setCell ⟨b9, 31, none⟩ (.int .u8 (x31 : Nat))).setCell ⟨b10, 31, none⟩ (.int .u8 (y31 : Nat)) = V2 at *
  have hA := HA.out
  have hB := HB.out
  have gr := G3.out
  have h9 := K9.out
  have h10 := K11.out
  clear HA HB G3 K9 K11 c0 c1 c2 f0 f1 f2 z0 z1 z2 z3 z4 z5 z6 kh W V1
  generalize Value.int .u8 (a0 : Int) = u20
  generalize Value.int .u8 (x0 : Int) = u23
  generalize Value.int .u8 (a31 : Int) = u26
  generalize Value.int .u8 (x31 : Int) = u29
  go_wp2_with (first
    | refine wpList_load_key rfl 4 rfl rfl hA ?_
    | refine wpList_load_key rfl 5 rfl rfl hB ?_)
  go_at_call 22
  refine (HS.out _).mono ?_
  rintro e U1 ⟨rfl, g0⟩
  have hL := holds_alloc U1 45 .u8 32 (fun _ => 0) #[.int .u8 0, .int .u8 0, .int .u8 0, .int .u8 0, .int .u8 0, .int .u8 0, .int .u8 0, .int .u8 0, .int .u8 0, .int .u8 0, .int .u8 0, .int .u8 0, .int .u8 0, .int .u8 0, .int .u8 0, .int .u8 0, .int .u8 0, .int .u8 0, .int .u8 0, .int .u8 0, .int .u8 0, .int .u8 0, .int .u8 0, .int .u8 0, .int .u8 0, .int .u8 0, .int .u8 0, .int .u8 0, .int .u8 0, .int .u8 0, .int .u8 0, .int .u8 0] rfl
  have gg := grown_alloc g0 (.cells #[.int .u8 0, .int .u8 0, .int .u8 0, .int .u8 0, .int .u8 0, .int .u8 0, .int .u8 0, .int .u8 0, .int .u8 0, .int .u8 0, .int .u8 0, .int .u8 0, .int .u8 0, .int .u8 0, .int .u8 0, .int .u8 0, .int .u8 0, .int .u8 0, .int .u8 0, .int .u8 0, .int .u8 0, .int .u8 0, .int .u8 0, .int .u8 0, .int .u8 0, .int .u8 0, .int .u8 0, .int .u8 0, .int .u8 0, .int .u8 0, .int .u8 0, .int .u8 0] 45)
  have g2 := grown_setRow_new gg U1.heap.size (cellsOf .u8 32 s) (Or.inl g0.size)
  have d1 := hL.setRow .u8 32 s
  replace hA := hA.grown g2 (by simp)
  replace hB := hB.grown g2 (by simp)
  replace h9 := h9.grown g2 (by simp)
  replace h10 := h10.grown g2 (by simp)
  replace gr := grown_trans gr g2
  clear g0 gg g2 HS
  go_upto_region 8 with (refine wpList_store_row rfl 45 (.tmp 11) (.tmp 42) rfl U1.heap.size (cellsOf .u8 32 s) rfl rfl 45 _ hL.block (by rw [cellsOf_size]; kernel_rfl) (by first | rfl | simp only [cellsOf_size]) (cellsOf_all _ _ _) ?_)
  generalize (U1.alloc (.cells #[.int .u8 0, .int .u8 0, .int .u8 0, .int .u8 0, .int .u8 0, .int .u8 0, .int .u8 0, .int .u8 0, .int .u8 0, .int .u8 0, .int .u8 0, .int .u8 0, .int .u8 0, .int .u8 0, .int .u8 0, .int .u8 0, .int .u8 0, .int .u8 0, .int .u8 0, .int .u8 0, .int .u8 0, .int .u8 0, .int .u8 0, .int .u8 0, .int .u8 0, .int .u8 0, .int .u8 0, .int .u8 0, .int .u8 0, .int .u8 0, .int .u8 0, .int .u8 0] 45)).setRow U1.heap.size (cellsOf .u8 32 s) = V3 at *
  clear hL
  generalize U1.heap.size = B1 at *
  clear U1
  go_wp2_with (first | refine wpList_load_key rfl 9 rfl rfl h9 ?_ | refine wpList_load_key rfl 10 rfl rfl h10 ?_)
  clear hB
  go_at_call 22
  refine (HS2.out _).mono ?_
  rintro e U2 ⟨rfl, g0⟩
  have hL := holds_alloc U2 45 .u8 32 (fun _ => 0) #[.int .u8 0, .int .u8 0, .int .u8 0, .int .u8 0, .int .u8 0, .int .u8 0, .int .u8 0, .int .u8 0, .int .u8 0, .int .u8 0, .int .u8 0, .int .u8 0, .int .u8 0, .int .u8 0, .int .u8 0, .int .u8 0, .int .u8 0, .int .u8 0, .int .u8 0, .int .u8 0, .int .u8 0, .int .u8 0, .int .u8 0, .int .u8 0, .int .u8 0, .int .u8 0, .int .u8 0, .int .u8 0, .int .u8 0, .int .u8 0, .int .u8 0, .int .u8 0] rfl
  have gg := grown_alloc g0 (.cells #[.int .u8 0, .int .u8 0, .int .u8 0, .int .u8 0, .int .u8 0, .int .u8 0, .int .u8 0, .int .u8 0, .int .u8 0, .int .u8 0, .int .u8 0, .int .u8 0, .int .u8 0, .int .u8 0, .int .u8 0, .int .u8 0, .int .u8 0, .int .u8 0, .int .u8 0, .int .u8 0, .int .u8 0, .int .u8 0, .int .u8 0, .int .u8 0, .int .u8 0, .int .u8 0, .int .u8 0, .int .u8 0, .int .u8 0, .int .u8 0, .int .u8 0, .int .u8 0] 45)
  have g2 := grown_setRow_new gg U2.heap.size (cellsOf .u8 32 s) (Or.inl g0.size)
  have d2 := hL.setRow .u8 32 s
  replace hA := hA.grown g2 (by simp)
  replace h9 := h9.grown g2 (by simp)
  replace d1 := d1.grown g2 (by simp)
  replace gr := grown_trans gr g2
  clear g0 gg g2 HS2
  go_upto_region 9 with (refine wpList_store_row rfl 45 (.tmp 13) (.tmp 48) rfl U2.heap.size (cellsOf .u8 32 s) rfl rfl 45 _ hL.block (by rw [cellsOf_size]; kernel_rfl) (by first | rfl | simp only [cellsOf_size]) (cellsOf_all _ _ _) ?_)
  generalize (U2.alloc (.cells #[.int .u8 0, .int .u8 0, .int .u8 0, .int .u8 0, .int .u8 0, .int .u8 0, .int .u8 0, .int .u8 0, .int .u8 0, .int .u8 0, .int .u8 0, .int .u8 0, .int .u8 0, .int .u8 0, .int .u8 0, .int .u8 0, .int .u8 0, .int .u8 0, .int .u8 0, .int .u8 0, .int .u8 0, .int .u8 0, .int .u8 0, .int .u8 0, .int .u8 0, .int .u8 0, .int .u8 0, .int .u8 0, .int .u8 0, .int .u8 0, .int .u8 0, .int .u8 0] 45)).setRow U2.heap.size (cellsOf .u8 32 s) = V4 at *
  clear hL
  generalize U2.heap.size = B2 at *
  clear U2
  clear h10
  refine wp_region_rel_all (fun W => V4.grownBy W none) (fun _ h => h) (alL []) (relL [fun vv _ => vv = .agg (cellsOf .u8 32 s), fun vv _ => vv = .agg (cellsOf .u8 32 s), fun vv _ => vv = .bool true, fun vv _ => vv = .bool true, fun vv _ => vv = .int .i64 (ev : Nat), fun vv _ => vv = .int .i64 (ev : Nat), fun vv _ => vv = .bool true, fun vv _ => vv = .bool true, fun vv _ => vv = .bool true, fun vv _ => vv = .agg (cellsOf .u8 32 fs), fun vv _ => vv = .agg (cellsOf .u8 32 p), fun vv _ => vv = .agg (cellsOf .u8 32 fa), fun vv _ => vv = .agg (cellsOf .u8 32 p), fun vv _ => vv = .bool true, fun vv _ => vv = .bool true, fun vv _ => vv = .bool true, fun vv _ => vv = .agg (cellsOf .u8 32 fs), fun vv _ => vv = .agg (cellsOf .u8 32 c), fun vv _ => vv = .agg (cellsOf .u8 32 c), fun vv _ => vv = .agg (cellsOf .u8 32 fa), fun vv _ => vv = .agg (cellsOf .u8 32 c), fun vv _ => vv = .bool true, fun vv _ => vv = .bool true])
    23 1 (atL [50, 51, 52, 53, 54, 55, 56, 57, 58, 59, 60, 61, 62, 63, 64, 65, 66, 67, 68, 69, 70, 71, 72]) (depL [[], [], [0, 1], [2], [3], [3], [4, 5, 3], [3, 6], [7], [8], [9, 8], [8], [11, 8], [10, 12, 8], [8, 13], [14], [15], [16, 15], [17, 15], [15], [19, 15], [18, 20, 15], [15, 21]]) (by kernel_rfl) rfl (by kernel_rfl) (by kernel_rfl) (by kernel_rfl) (by decide) (by kernel_rfl) 73 rfl (by decide) (by decide) (by decide) ?mono9 ?al9 ?step9 ?fin9
  case mono9 =>
    intro k x W W' hk h g
    obtain rfl | rfl | rfl | rfl | rfl | rfl | rfl | rfl | rfl | rfl | rfl | rfl | rfl | rfl | rfl | rfl | rfl | rfl | rfl | rfl | rfl | rfl | rfl : k = 0 ∨ k = 1 ∨ k = 2 ∨ k = 3 ∨ k = 4 ∨ k = 5 ∨ k = 6 ∨ k = 7 ∨ k = 8 ∨ k = 9 ∨ k = 10 ∨ k = 11 ∨ k = 12 ∨ k = 13 ∨ k = 14 ∨ k = 15 ∨ k = 16 ∨ k = 17 ∨ k = 18 ∨ k = 19 ∨ k = 20 ∨ k = 21 ∨ k = 22 := by omega
    · exact h
    · exact h
    · exact h
    · exact h
    · exact h
    · exact h
    · exact h
    · exact h
    · exact h
    · exact h
    · exact h
    · exact h
    · exact h
    · exact h
    · exact h
    · exact h
    · exact h
    · exact h
    · exact h
    · exact h
    · exact h
    · exact h
    · exact h
  case al9 =>
    intro k x W hk e h
    obtain rfl | rfl | rfl | rfl | rfl | rfl | rfl | rfl | rfl | rfl | rfl | rfl | rfl | rfl | rfl | rfl | rfl | rfl | rfl | rfl | rfl | rfl | rfl : k = 0 ∨ k = 1 ∨ k = 2 ∨ k = 3 ∨ k = 4 ∨ k = 5 ∨ k = 6 ∨ k = 7 ∨ k = 8 ∨ k = 9 ∨ k = 10 ∨ k = 11 ∨ k = 12 ∨ k = 13 ∨ k = 14 ∨ k = 15 ∨ k = 16 ∨ k = 17 ∨ k = 18 ∨ k = 19 ∨ k = 20 ∨ k = 21 ∨ k = 22 := by omega
    · exact absurd e (by decide)
    · exact absurd e (by decide)
    · exact absurd e (by decide)
    · exact absurd e (by decide)
    · exact absurd e (by decide)
    · exact absurd e (by decide)
    · exact absurd e (by decide)
    · exact absurd e (by decide)
    · exact absurd e (by decide)
    · exact absurd e (by decide)
    · exact absurd e (by decide)
    · exact absurd e (by decide)
    · exact absurd e (by decide)
    · exact absurd e (by decide)
    · exact absurd e (by decide)
    · exact absurd e (by decide)
    · exact absurd e (by decide)
    · exact absurd e (by decide)
    · exact absurd e (by decide)
    · exact absurd e (by decide)
    · exact absurd e (by decide)
    · exact absurd e (by decide)
    · exact absurd e (by decide)
  case step9 =>
    intro k hk
    obtain rfl | rfl | rfl | rfl | rfl | rfl | rfl | rfl | rfl | rfl | rfl | rfl | rfl | rfl | rfl | rfl | rfl | rfl | rfl | rfl | rfl | rfl | rfl : k = 0 ∨ k = 1 ∨ k = 2 ∨ k = 3 ∨ k = 4 ∨ k = 5 ∨ k = 6 ∨ k = 7 ∨ k = 8 ∨ k = 9 ∨ k = 10 ∨ k = 11 ∨ k = 12 ∨ k = 13 ∨ k = 14 ∨ k = 15 ∨ k = 16 ∨ k = 17 ∨ k = 18 ∨ k = 19 ∨ k = 20 ∨ k = 21 ∨ k = 22 := by omega
    · refine ⟨_, rfl, rfl, fun b W hs hg hD => ⟨wanted_of rfl, fun K hK0 => ?_⟩⟩
      have hK := fun v W' g h => hK0 v W' g h (fun e => absurd e (by decide))
      exact rel_val (run_key (d1.grown hg (by simp)) rfl ((eval_slot b 11).trans (hs 11 (by decide)))) rfl hK
    · refine ⟨_, rfl, rfl, fun b W hs hg hD => ⟨wanted_of rfl, fun K hK0 => ?_⟩⟩
      have hK := fun v W' g h => hK0 v W' g h (fun e => absurd e (by decide))
      exact rel_val (run_key (d2.grown hg (by simp)) rfl ((eval_slot b 13).trans (hs 13 (by decide)))) rfl hK
    · refine ⟨_, rfl, rfl, fun b W hs hg hD => ⟨wanted_of rfl, fun K hK0 => ?_⟩⟩
      have hK := fun v W' g h => hK0 v W' g h (fun e => absurd e (by decide))
      have h0 : b.tmps[50]?.getD undef = .agg (cellsOf .u8 32 s) := (hD 0 (by decide))
      have h1 : b.tmps[51]?.getD undef = .agg (cellsOf .u8 32 s) := (hD 1 (by decide))
      exact rel_val (v := .bool true) (run_eqlkb 50 51 s s (eqN_refl 32 s) rfl ((eval_slot b 50).trans h0) ((eval_slot b 51).trans h1)) rfl hK
    · refine ⟨_, rfl, rfl, fun b W hs hg hD => ⟨wanted_of rfl, fun K hK0 => ?_⟩⟩
      have hK := fun v W' g h => hK0 v W' g h (fun e => absurd e (by decide))
      exact rel_move 52 rfl (hD 2 (by decide)) rfl hK
    · refine ⟨_, rfl, rfl, fun b W hs hg hD => ⟨wanted_at (j := 3) (t := 53) rfl rfl (hD 3 (by decide)), fun K hK0 => ?_⟩⟩
      have hK := fun v W' g h => hK0 v W' g h (fun e => absurd e (by decide))
      exact rel_move 12 rfl (hs 12 (by decide)) rfl hK
    · refine ⟨_, rfl, rfl, fun b W hs hg hD => ⟨wanted_at (j := 3) (t := 53) rfl rfl (hD 3 (by decide)), fun K hK0 => ?_⟩⟩
      have hK := fun v W' g h => hK0 v W' g h (fun e => absurd e (by decide))
      exact rel_move 14 rfl (hs 14 (by decide)) rfl hK
    · refine ⟨_, rfl, rfl, fun b W hs hg hD => ⟨wanted_at (j := 3) (t := 53) rfl rfl (hD 3 (by decide)), fun K hK0 => ?_⟩⟩
      have hK := fun v W' g h => hK0 v W' g h (fun e => absurd e (by decide))
      have h0 : b.tmps[54]?.getD undef = .int .i64 (ev : Nat) := (hD 4 (by decide))
      have h1 : b.tmps[55]?.getD undef = .int .i64 (ev : Nat) := (hD 5 (by decide))
      exact rel_val (v := .bool true) (by unfold execOp; go_simp) rfl hK
    · refine ⟨_, rfl, rfl, fun b W hs hg hD => ⟨wanted_of rfl, fun K hK0 => ?_⟩⟩
      have hK := fun v W' g h => hK0 v W' g h (fun e => absurd e (by decide))
      have h0 : b.tmps[53]?.getD undef = .bool true := (hD 3 (by decide))
      have h1 : b.tmps[56]?.getD undef = .bool true := (hD 6 (by decide))
      exact rel_val (v := .bool true) (by unfold execOp; go_simp) rfl hK
    · refine ⟨_, rfl, rfl, fun b W hs hg hD => ⟨wanted_of rfl, fun K hK0 => ?_⟩⟩
      have hK := fun v W' g h => hK0 v W' g h (fun e => absurd e (by decide))
      exact rel_move 57 rfl (hD 7 (by decide)) rfl hK
    · refine ⟨_, rfl, rfl, fun b W hs hg hD => ⟨wanted_at (j := 8) (t := 58) rfl rfl (hD 8 (by decide)), fun K hK0 => ?_⟩⟩
      have hK := fun v W' g h => hK0 v W' g h (fun e => absurd e (by decide))
      exact rel_val (run_key (h9.grown hg (by simp)) rfl ((eval_slot b 9).trans (hs 9 (by decide)))) rfl hK
    · refine ⟨_, rfl, rfl, fun b W hs hg hD => ⟨wanted_at (j := 8) (t := 58) rfl rfl (hD 8 (by decide)), fun K hK0 => ?_⟩⟩
      have hK := fun v W' g h => hK0 v W' g h (fun e => absurd e (by decide))
      refine rel_call 23 _ (exec_fn1 _ _ _ rfl ((eval_slot b 59).trans (hD 9 (by decide)))) public_enters ?_ hK
      exact (HP2.out W).mono fun e w' h => ⟨_, h.1, h.2, rfl⟩
    · refine ⟨_, rfl, rfl, fun b W hs hg hD => ⟨wanted_at (j := 8) (t := 58) rfl rfl (hD 8 (by decide)), fun K hK0 => ?_⟩⟩
      have hK := fun v W' g h => hK0 v W' g h (fun e => absurd e (by decide))
      exact rel_val (run_key (hA.grown hg (by simp)) rfl ((eval_slot b 4).trans (hs 4 (by decide)))) rfl hK
    · refine ⟨_, rfl, rfl, fun b W hs hg hD => ⟨wanted_at (j := 8) (t := 58) rfl rfl (hD 8 (by decide)), fun K hK0 => ?_⟩⟩
      have hK := fun v W' g h => hK0 v W' g h (fun e => absurd e (by decide))
      refine rel_call 23 _ (exec_fn1 _ _ _ rfl ((eval_slot b 61).trans (hD 11 (by decide)))) public_enters ?_ hK
      exact (HP.out W).mono fun e w' h => ⟨_, h.1, h.2, rfl⟩
    · refine ⟨_, rfl, rfl, fun b W hs hg hD => ⟨wanted_at (j := 8) (t := 58) rfl rfl (hD 8 (by decide)), fun K hK0 => ?_⟩⟩
      have hK := fun v W' g h => hK0 v W' g h (fun e => absurd e (by decide))
      have h0 : b.tmps[60]?.getD undef = .agg (cellsOf .u8 32 p) := (hD 10 (by decide))
      have h1 : b.tmps[62]?.getD undef = .agg (cellsOf .u8 32 p) := (hD 12 (by decide))
      exact rel_val (v := .bool true) (run_eqlkb 60 62 p p (eqN_refl 32 p) rfl ((eval_slot b 60).trans h0) ((eval_slot b 62).trans h1)) rfl hK
    · refine ⟨_, rfl, rfl, fun b W hs hg hD => ⟨wanted_of rfl, fun K hK0 => ?_⟩⟩
      have hK := fun v W' g h => hK0 v W' g h (fun e => absurd e (by decide))
      have h0 : b.tmps[58]?.getD undef = .bool true := (hD 8 (by decide))
      have h1 : b.tmps[63]?.getD undef = .bool true := (hD 13 (by decide))
      exact rel_val (v := .bool true) (by unfold execOp; go_simp) rfl hK
    · refine ⟨_, rfl, rfl, fun b W hs hg hD => ⟨wanted_of rfl, fun K hK0 => ?_⟩⟩
      have hK := fun v W' g h => hK0 v W' g h (fun e => absurd e (by decide))
      exact rel_move 64 rfl (hD 14 (by decide)) rfl hK
    · refine ⟨_, rfl, rfl, fun b W hs hg hD => ⟨wanted_at (j := 15) (t := 65) rfl rfl (hD 15 (by decide)), fun K hK0 => ?_⟩⟩
      have hK := fun v W' g h => hK0 v W' g h (fun e => absurd e (by decide))
      exact rel_val (run_key (h9.grown hg (by simp)) rfl ((eval_slot b 9).trans (hs 9 (by decide)))) rfl hK
    · refine ⟨_, rfl, rfl, fun b W hs hg hD => ⟨wanted_at (j := 15) (t := 65) rfl rfl (hD 15 (by decide)), fun K hK0 => ?_⟩⟩
      have hK := fun v W' g h => hK0 v W' g h (fun e => absurd e (by decide))
      refine rel_call 21 _ (exec_fn1 _ _ _ rfl ((eval_slot b 66).trans (hD 16 (by decide)))) clamp_enters ?_ hK
      exact (HC2.out W).mono fun e w' h => ⟨_, h.1, h.2, rfl⟩
    · refine ⟨_, rfl, rfl, fun b W hs hg hD => ⟨wanted_at (j := 15) (t := 65) rfl rfl (hD 15 (by decide)), fun K hK0 => ?_⟩⟩
      have hK := fun v W' g h => hK0 v W' g h (fun e => absurd e (by decide))
      refine rel_call 21 _ (exec_fn1 _ _ _ rfl ((eval_slot b 67).trans (hD 17 (by decide)))) clamp_enters ?_ hK
      exact (HC3.out W).mono fun e w' h => ⟨_, h.1, h.2, rfl⟩
    · refine ⟨_, rfl, rfl, fun b W hs hg hD => ⟨wanted_at (j := 15) (t := 65) rfl rfl (hD 15 (by decide)), fun K hK0 => ?_⟩⟩
      have hK := fun v W' g h => hK0 v W' g h (fun e => absurd e (by decide))
      exact rel_val (run_key (hA.grown hg (by simp)) rfl ((eval_slot b 4).trans (hs 4 (by decide)))) rfl hK
    · refine ⟨_, rfl, rfl, fun b W hs hg hD => ⟨wanted_at (j := 15) (t := 65) rfl rfl (hD 15 (by decide)), fun K hK0 => ?_⟩⟩
      have hK := fun v W' g h => hK0 v W' g h (fun e => absurd e (by decide))
      refine rel_call 21 _ (exec_fn1 _ _ _ rfl ((eval_slot b 69).trans (hD 19 (by decide)))) clamp_enters ?_ hK
      exact (HC.out W).mono fun e w' h => ⟨_, h.1, h.2, rfl⟩
    · refine ⟨_, rfl, rfl, fun b W hs hg hD => ⟨wanted_at (j := 15) (t := 65) rfl rfl (hD 15 (by decide)), fun K hK0 => ?_⟩⟩
      have hK := fun v W' g h => hK0 v W' g h (fun e => absurd e (by decide))
      have h0 : b.tmps[68]?.getD undef = .agg (cellsOf .u8 32 c) := (hD 18 (by decide))
      have h1 : b.tmps[70]?.getD undef = .agg (cellsOf .u8 32 c) := (hD 20 (by decide))
      exact rel_val (v := .bool true) (run_eqlkb 68 70 c c (eqN_refl 32 c) rfl ((eval_slot b 68).trans h0) ((eval_slot b 70).trans h1)) rfl hK
    · refine ⟨_, rfl, rfl, fun b W hs hg hD => ⟨wanted_of rfl, fun K hK0 => ?_⟩⟩
      have hK := fun v W' g h => hK0 v W' g h (fun e => absurd e (by decide))
      have h0 : b.tmps[65]?.getD undef = .bool true := (hD 15 (by decide))
      have h1 : b.tmps[71]?.getD undef = .bool true := (hD 21 (by decide))
      exact rel_val (v := .bool true) (by unfold execOp; go_simp) rfl hK
  intro vals W hg hR hap
  have e1 : vals 22 = .bool true := hR 22 (by decide)
  clear hR hap
  simp only [putsN, atL, Act.put, List.getD_cons_zero, List.getD_cons_succ, List.setIfInBounds_toArray, List.set_cons_succ, List.set_cons_zero, e1]
  generalize vals 0 = q0
  generalize vals 1 = q1
  generalize vals 2 = q2
  generalize vals 3 = q3
  generalize vals 4 = q4
  generalize vals 5 = q5
  generalize vals 6 = q6
  generalize vals 7 = q7
  generalize vals 8 = q8
  generalize vals 9 = q9
  generalize vals 10 = q10
  generalize vals 11 = q11
  generalize vals 12 = q12
  generalize vals 13 = q13
  generalize vals 14 = q14
  generalize vals 15 = q15
  generalize vals 16 = q16
  generalize vals 17 = q17
  generalize vals 18 = q18
  generalize vals 19 = q19
  generalize vals 20 = q20
  generalize vals 21 = q21
  clear e1 vals
  show wpAnyH _ _ _ _ _ 1 #[true, true, true, true, true, true, true, true, true, true, true, true, true, true, true, true, true, true, true, true, true, true, true, false] _ _
  refine wpAnyH_yieldD (some 8) (i := 23) (v := .bool true) (by kernel_rfl) rfl rfl rfl (by unfold execOp; go_simp) hg ?_
  simp only [Act.put, List.setIfInBounds_toArray, List.set_cons_succ, List.set_cons_zero]
  refine wpAnyH_done (by kernel_rfl) ?_ _
  have gF := grown_trans gr hg
  clear hg gr hA h9 d1 d2
  go_wp2_with fail
  go_ret
  exact ⟨⟨rfl, gF⟩⟩
end Go.Proofs.Ytpnddojcihdniaa
namespace Go.Proofs.Ytpnddojcihdniaa
open Go.ChangeShapes Go.WideShapes Go.ChangeAt Go.RowKit

section
variable {H : Type} {enc : TypeId × Value → H} {P : Program}

theorem below_of_grown {w w' : World} (h : w.grownBy w' none) : Below w.heap.size w w' := ⟨h.os, h.tape, h.output, h.size, fun k hk => h.block k hk (by simp)⟩

theorem trodAll_below (hl : laidOutB P = true) {W W' : World} (hb : Below W.heap.size W W') : ∀ (ts : List TypeId) (vs : List Value) (ds : List (DataW H)) (ps : List MemPlace),
    DataW.TrodAll enc P W 0 (fun _ => true) true ts vs ds ps → (∀ t ∈ ts, P.readableRec t = true ∧ t < P.types.size) → (∀ x ∈ ps, x.block < W.heap.size) →
    DataW.TrodAll enc P W' 0 (fun b => decide (b < W.heap.size)) true ts vs ds ps
  | [], vs, ds, ps, h, _, _ => by
    obtain ⟨rfl, rfl, rfl⟩ := trodAll_nil h
    rfl
  | t :: ts, vs, ds, ps, h, hr, hlt => by
    obtain ⟨v, vs', d, ds', p, q, rfl, rfl, rfl, h1, h2⟩ := trodAll_cons h
    have hrt := hr t (by simp)
    exact ⟨p, q, Below.trod hl hrt.1 hrt.2 h1 hb (fun x hx => hlt x (by simp [hx])), trodAll_below hl hb ts vs' ds' q h2 (fun t' ht' => hr t' (by simp [ht'])) (fun x hx => hlt x (by simp [hx])), rfl⟩

/-- The end of a statement that is a law: true, and all that came in reads as it did. -/
theorem law_post (hl : laidOutB P = true) {f : Func} {s : ChangeSpec} {W W' : World} {args : Array Value} {ds gs : List (DataW H)} {before : List MemPlace} {tb : TypeId}
    (hW : DataW.Whole enc P f.params.toList s.vars false W args.toList ds gs before) (hv : s.vars = []) (hs : s.fn H ds = { results := [.lit (.bool true)], args := ds, vars := [] })
    (hr : f.resultTypes = #[tb]) (htb : P.underlying tb = some .bool) (hread : ∀ t ∈ f.params.toList, P.readableRec t = true ∧ t < P.types.size) (hg : W.grownBy W' none) :
    s.post enc P f false true false false W args (.bool true) W' := by
  have hb := below_of_grown hg
  have hlt : ∀ p ∈ before, p.block < W.heap.size := fun p hp => hW.lt p hp
  have hW0 := hW
  obtain ⟨p, q, hA, hV, rfl, _, _⟩ := hW
  rw [hv] at hV
  obtain ⟨rfl, rfl⟩ := trodVars_none hV
  refine ⟨ds, [], p ++ [], [], p, [], hW0, ?_, ?_, ?_, World.keptBut_mono (fun x hx => ⟨hx, Or.inr (Or.inl (by simpa using hx))⟩) (hb.frame (· ∈ p ++ [])), fun h => by cases h⟩
  · rw [hr, List.append_nil, hs]
    exact trodAll_mk1 (shut_bool htb true)
  · rw [List.append_nil, hs]
    exact trodAll_below hl hb _ _ _ _ hA hread (fun x hx => hlt x (by simpa using hx))
  · rw [hv, List.append_nil, hs]
    rfl

/-- Bytes that come in. -/
theorem open_bytes {W : World} {t e : TypeId} {r : Reach} {b0 : Nat} {v : Value} {d : DataW H} {ps : List MemPlace} (ht : P.underlying t = some (.slice e)) (he : P.underlying e = some (.int .u8)) (hc : P.cellsOf e = 1)
    (hval : Value.okWide P W r b0 t v) (h : DataW.Trod enc P W 0 (fun _ => true) true t v d ps) :
    ∃ a n c f, v = .slice a n c ∧ n ≤ c ∧ Rd W W.heap.size a n f ∧ ∀ i, f i < 256 := by
  obtain ⟨a0, len, cap, rfl⟩ := okWide_slice ht hval
  obtain ⟨fuel, hf⟩ := h
  rcases open_ints ht he hc hf with ⟨h1, _⟩ | ⟨a, len', cap', zs, h1, _, hlc, _, hzl, _, hcell, hwf⟩
  · simp [Value.cells] at h1
    obtain ⟨rfl, rfl, rfl⟩ := h1
    exact ⟨none, 0, 0, fun _ => 0, rfl, Nat.le_refl _, ⟨fun h => absurd h (by omega)⟩, fun _ => (by decide : (0 : Nat) < 256)⟩
  · simp [Value.cells] at h1
    obtain ⟨rfl, rfl, rfl⟩ := h1
    have hzl' : len ≤ zs.length := by rw [hzl]; simp [hlc]
    have hb : ∀ i, 0 ≤ zs.getD i 0 ∧ zs.getD i 0 < 256 := fun i => by
      by_cases hi : i < zs.length
      · have e1 : zs.getD i 0 = zs[i] := by simp [List.getD, List.getElem?_eq_getElem hi]
        rw [e1]
        have := hwf zs[i] (List.getElem_mem hi)
        simp [Lit.wf, IntKind.min, IntKind.max, IntKind.bits, IntKind.signed] at this
        omega
      · have e1 : zs.getD i 0 = 0 := by simp [List.getD, List.getElem?_eq_none (Nat.le_of_not_lt hi)]
        rw [e1]; decide
    refine ⟨some a, len, cap, fun i => (zs.getD i 0).toNat, rfl, hlc, ⟨fun h0 => ?_⟩, fun i => by have := hb i; show (zs.getD i 0).toNat < 256; omega⟩
    have h0' := hcell 0 (by omega)
    have hspot : a.spot = none := by simpa [Addr.add] using World.cell?_spot h0'
    obtain ⟨tb, o, sp⟩ := a
    simp only at hspot
    subst hspot
    refine ⟨tb, o, rfl, ?_, fun i hi => ?_⟩
    · have := World.block_lt_of_cell? W _ h0'
      simpa [Addr.add] using this
    · have h1 := hcell i (by omega)
      rw [Addr.add_mid] at h1
      rw [h1]
      have := hb i
      have e1 : ((zs.getD i 0).toNat : Int) = zs.getD i 0 := by omega
      show _ = some (Value.int .u8 (((zs.getD i 0).toNat : Nat) : Int))
      rw [e1]

end
end Go.Proofs.Ytpnddojcihdniaa
namespace Go.Proofs.Ytpnddojcihdniaa
open Go.ChangeShapes Go.WideShapes Go.ChangeAt Go.RowKit

theorem getElem?_of_take_drop {α : Type} (l : List α) (i : Nat) (x : α) (h : (l.drop i).take 1 = [x]) : l[i]? = some x := by
  have h1 : ((l.drop i).take 1)[0]? = some x := by rw [h]; rfl
  simpa using h1

/-- A table of numbers, read. -/
theorem ints_of_trod {H : Type} {enc : TypeId × Value → H} {P : Program} {w : World} {base : Nat} {spare : Nat → Bool} {held : Bool} {fuel : Nat} {t e : TypeId} {k : IntKind} {n : Nat} {cs : List Value} {d : DataW H} {ps : List MemPlace} (L : List Int)
    (ht : P.underlying t = some (.array n e)) (he : P.underlying e = some (.int k)) (hc : P.cellsOf e = 1) (hd : DataW.trod enc P w base spare held fuel t cs = some (d, ps)) (hx : d = .agg (L.map fun z => .lit (.int k z))) :
    ∀ i, i < n → cs[i]? = some (.int k (L.getD i 0)) := by
  subst hx
  obtain ⟨xs, m, rfl, hx, _, hn, hel⟩ := DataW.trod_array ht hd
  intro i hi
  have h1 := hel i hi
  rw [hc, Nat.mul_one] at h1
  have hxi : xs[i]? = some xs[i] := List.getElem?_eq_getElem (by omega)
  rw [hxi] at h1
  obtain ⟨q, e1, e2, _⟩ := DataW.trod_int he h1
  have h2 : L.map (fun z => (DataW.lit (.int k z) : DataW H)) = xs.map (·.1) := by
    have := congrArg Prod.fst hx
    simpa using this
  have h3 : (L.map (fun z => (DataW.lit (.int k z) : DataW H)))[i]? = some (.lit (.int k q)) := by
    rw [h2]; simp [hxi, e2]
  have h4 : L[i]? = some q := by
    rw [List.getElem?_map] at h3
    cases hL : L[i]? with
    | none => rw [hL] at h3; cases h3
    | some z => rw [hL] at h3; simpa using h3
  rw [List.getD, h4]
  exact getElem?_of_take_drop cs i _ e1

theorem own : ownKnob Try.prog.godebug = none := by kernel_rfl
theorem laidOut : laidOutB Try.prog = true := by kernel_rfl

end Go.Proofs.Ytpnddojcihdniaa
namespace Go.Proofs.Ytpnddojcihdniaa
open Go.ChangeShapes Go.WideShapes Go.ChangeAt Go.RowKit

section
variable {H : Type} {enc : TypeId × Value → H} {P : Program}

theorem open_arr8 {W : World} {t e : TypeId} {n : Nat} {r : Reach} {b0 : Nat} {v : Value} {d : DataW H} {ps : List MemPlace} (ht : P.underlying t = some (.array n e)) (he : P.underlying e = some (.int .u8)) (hc : P.cellsOf e = 1) (hn : P.cellsOf t = n)
    (hval : Value.okWide P W r b0 t v) (h : DataW.Trod enc P W 0 (fun _ => true) true t v d ps) : ∃ f, v = .agg (cellsOf .u8 n f) ∧ ∀ i, f i < 256 := by
  have hv := hval
  simp only [Value.okWide, ht] at hv
  obtain ⟨cs, rfl, hs, _⟩ := hv
  obtain ⟨fuel, hf⟩ := h
  obtain ⟨xs, m, rfl, _, hl, _, hel⟩ := DataW.trod_array ht hf
  have key : ∀ i, i < n → ∃ q : Nat, q < 256 ∧ cs[i]? = some (.int .u8 q) := fun i hi => by
    have h1 := hel i hi
    rw [hc, Nat.mul_one] at h1
    cases hx : xs[i]? with
    | none =>
      rw [hx] at h1
      have hlen : i < cs.toList.length := by
        have : cs.size = n := by rw [hs, hn]
        simp [this]; exact hi
      exfalso
      rename_i hxl
      have : xs.length ≤ i := by simpa using hx
      omega
    | some x =>
      rw [hx] at h1
      obtain ⟨q, e1, _, hw⟩ := DataW.trod_int he h1
      have h2 := getElem?_of_take_drop _ i _ e1
      simp [Lit.wf, IntKind.min, IntKind.max, IntKind.bits, IntKind.signed] at hw
      refine ⟨q.toNat, by omega, ?_⟩
      have e2 : ((q.toNat : Nat) : Int) = q := by omega
      rw [e2]
      simpa [Value.cells] using h2
  refine ⟨fun i => (match cs[i]? with | some (.int _ q) => q.toNat | _ => 0) % 256, ?_, fun i => Nat.mod_lt _ (by decide)⟩
  congr 1
  apply Array.ext
  · rw [cellsOf_size, hs, hn]
  · intro i h1 h2
    have hi : i < n := by rwa [hs, hn] at h1
    obtain ⟨q, hq, hcq⟩ := key i hi
    have e1 := cellsOf_get .u8 n (fun i => (match cs[i]? with | some (.int _ q) => q.toNat | _ => 0) % 256) i hi
    rw [Array.getElem?_eq_getElem h2] at e1
    rw [Array.getElem?_eq_getElem h1] at hcq
    injection e1 with e1
    injection hcq with hcq'
    rw [e1, hcq']
    simp only [Array.getElem?_eq_getElem h1, hcq']
    congr 1
    simp; omega

/-- A byte that comes in. -/
theorem open_u8 {W : World} {t : TypeId} {r : Reach} {b0 : Nat} {v : Value} {d : DataW H} {ps : List MemPlace} (ht : P.underlying t = some (.int .u8))
    (hval : Value.okWide P W r b0 t v) (h : DataW.Trod enc P W 0 (fun _ => true) true t v d ps) : ∃ n : Nat, v = .int .u8 n ∧ n < 256 := by
  obtain ⟨x, rfl, _, _, hx⟩ := open_int ht hval h
  simp [Lit.wf, IntKind.min, IntKind.max, IntKind.bits, IntKind.signed] at hx
  exact ⟨x.toNat, by rw [show ((x.toNat : Nat) : Int) = x by omega], by omega⟩

end
end Go.Proofs.Ytpnddojcihdniaa
namespace Go.Proofs.Ytpnddojcihdniaa
open Go.ChangeShapes Go.WideShapes Go.ChangeAt Go.RowKit

set_option maxRecDepth 100000 in
theorem curveSame_lifted (os : Os) (started : os.Started) (H : Type) (enc : TypeId × Value → H) :
    ReturnsInHanded {} Try.checked os 5 .any (Rows.curveSameSpec.pre6 enc Try.prog Try.f5 Rows.curveSameRow.domain false) (Rows.curveSameSpec.post enc Try.prog Try.f5 false true false false) := by
  refine returnsInHanded_of_change (C := Try.checked) own started (by kernel_rfl) Try.func5
    (ChangeSpec.witness6 (enc := enc) (C := Try.checked) false ⟨#[], #[.agg (cellsOf .u8 32 (fun _ => 0)), .agg (cellsOf .u8 32 (fun _ => 0)), .int .u8 0, .int .u8 0], []⟩ 8 (by kernel_rfl) (by kernel_rfl) (by kernel_rfl) (by kernel_rfl)) ?_
  intro W base args ds gs before hval0 hW _ _
  have hval : ∀ (j : Nat) t v, Try.f5.params[j]? = some t → args[j]? = some v → Value.okWide Try.prog W .any base t v := hval0
  have hW' := hW
  obtain ⟨p, q, hA0, hV, rfl, _, _⟩ := hW
  have hA : DataW.TrodAll enc Try.prog W 0 (fun _ => true) true Try.f5.params.toList args.toList ds p := hA0
  rw [Try.params5] at hA hval
  obtain ⟨v0, vs0, d0, ds0, p0, q0, hv0, rfl, rfl, h0, hA1⟩ := trodAll_cons hA
  obtain ⟨v1, vs1, d1, ds1, p1, q1, rfl, rfl, rfl, h1, hA2⟩ := trodAll_cons hA1
  obtain ⟨v2, vs2, d2, ds2, p2, q2, rfl, rfl, rfl, h2, hA3⟩ := trodAll_cons hA2
  obtain ⟨v3, vs3, d3, ds3, p3, q3, rfl, rfl, rfl, h3, hA4⟩ := trodAll_cons hA3
  obtain ⟨rfl, rfl, rfl⟩ := trodAll_nil hA4
  obtain ⟨l⟩ := args
  simp only at hv0
  subst hv0
  obtain ⟨rfl, rfl⟩ := trodVars_none hV
  obtain ⟨f0, rfl, hf0⟩ := open_arr8 (P := Try.prog) (n := 32) (e := 5) (by kernel_rfl) (by kernel_rfl) (by kernel_rfl) (by kernel_rfl) (hval 0 45 v0 rfl rfl) h0
  obtain ⟨f1, rfl, hf1⟩ := open_arr8 (P := Try.prog) (n := 32) (e := 5) (by kernel_rfl) (by kernel_rfl) (by kernel_rfl) (by kernel_rfl) (hval 1 45 v1 rfl rfl) h1
  obtain ⟨x2, rfl, hx2⟩ := open_u8 (P := Try.prog) Try.underlying5 (hval 2 5 v2 rfl rfl) h2
  obtain ⟨x3, rfl, hx3⟩ := open_u8 (P := Try.prog) Try.underlying5 (hval 3 5 v3 rfl rfl) h3
  clear hA0 hval0
  refine (curveSame_any f0 f1 x2 x3 W hf0 hf1 hx2 hx3).mono fun e W' ⟨⟨he, hg⟩⟩ => ?_
  subst he
  exact ⟨_, rfl, law_post laidOut hW' rfl rfl (tb := 4) rfl Try.underlying4 (by
      rw [Try.params5]
      intro t ht
      have hall : ([45, 45, 5, 5].all fun u => Try.prog.readableRec u && decide (u < Try.prog.types.size)) = true := by kernel_rfl
      have := List.all_eq_true.1 hall t (by simpa using ht)
      simpa using this) hg⟩

theorem curveSame_holds : Rows.CurveSameSaid :=
  OpenClaim.holds_of_wide 5 Try.f5 rfl rfl rfl rfl rfl rfl rfl ⟨rfl, rfl, rfl, rfl, rfl⟩ rfl rfl rfl rfl rfl (by kernel_rfl) Try.func5 (by kernel_rfl)
    (of_decide_eq_true (by kernel_rfl)) (by unfold Func.isWrapper; first | (rw [if_pos (by decide +kernel)]; kernel_rfl) | (rw [if_neg (by decide +kernel)]; exact ⟨rfl, rfl⟩))
    (fun os started H enc _ => curveSame_lifted os started H enc)

end Go.Proofs.Ytpnddojcihdniaa
