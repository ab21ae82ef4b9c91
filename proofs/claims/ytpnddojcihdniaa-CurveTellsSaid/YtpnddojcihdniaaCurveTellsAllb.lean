/-
  Proved: whatever scalar's and point's bytes come in, 'CurveTells' answers true, and what came in reads afterwards as it read before. Conditions: the arguments can be read as data.
-/
import Derived.Test.YtpnddojcihdniaaCurveTellsAlla
import Derived.Test.YtpnddojcihdniaaCurveM
import Derived.Test.YtpnddojcihdniaaRefFldA
import Derived.Test.YtpnddojcihdniaaOwnR
import Derived.Test.YtpnddojcihdniaaRelAll
import Derived.Test.YtpnddojcihdniaaBytes
import Derived.Below
import Derived.ProofKit
import Derived.LaidMore
import Derived.OpenShut
import Derived.Carry
import Derived.Test.YtpnddojcihdniaaRows
import Derived.Stop.Joined
import Derived.LaidLaws
namespace Go.Proofs.Ytpnddojcihdniaa
open Go.RowKit Go.Shelf

set_option maxRecDepth 100000
set_option maxHeartbeats 4000000

theorem wpList_load_keyG {ops : Array Oper} {Q : Exit → Act → World → Prop} {rest : List Oper} {o : Oper} {a : Act} {w : World} {g : Nat} {f : Nat → Nat} (hw : Region.wanted o (yielded ops a.tmps) = true) (t : Tmp) (ho : o.op = .load 45 (.tmp t)) (hx : a.eval (.tmp t) = .pointer (some ⟨g, 0, none⟩))
    (H : Holds w g 45 .u8 32 f) (h : wpList Try.prog ops Q rest (a.put o.dst (.agg (cellsOf .u8 32 f))) w) : wpList Try.prog ops Q (o :: rest) a w :=
  wpList_step fun K hK => by
    rw [if_pos hw]
    exact wp_yields (run_key H ho hx) (hK _ _ h)
theorem wpList_eqkG {ops : Array Oper} {Q : Exit → Act → World → Prop} {rest : List Oper} {o : Oper} {a : Act} {w : World} (hw : Region.wanted o (yielded ops a.tmps) = true) (t1 t2 : Tmp) (f : Nat → Nat) (ho : o.op = .binOp .eql 45 (.tmp t1) (.tmp t2) 45)
    (h1 : a.eval (.tmp t1) = .agg (cellsOf .u8 32 f)) (h2 : a.eval (.tmp t2) = .agg (cellsOf .u8 32 f)) (h : wpList Try.prog ops Q rest (a.put o.dst (.bool true)) w) : wpList Try.prog ops Q (o :: rest) a w :=
  wpList_step fun K hK => by
    rw [if_pos hw]
    have hr := run_eqlk (W := w) t1 t2 f f ho h1 h2
    rw [eqN_refl] at hr
    exact wp_yields hr (hK _ _ h)
theorem res_three {P : Program} {fn : Func} {p q r : Tmp} {T : TypeId} {n : Nat} {k : IntKind} {f1 f2 f3 : Nat → Nat} {tmps : Array Value} {w : World} {g b c : Nat} {t : TypeId} (hr : fn.results = #[.cell p T, .cell q T, .cell r T]) (hp : tmps.getD p undef = .pointer (some ⟨g, 0, none⟩)) (hq : tmps.getD q undef = .pointer (some ⟨b, 0, none⟩)) (hs : tmps.getD r undef = .pointer (some ⟨c, 0, none⟩))
    (H1 : Holds w g t k n f1) (H2 : Holds w b t k n f2) (H3 : Holds w c t k n f3)
    (hu : (P.underlying T).map (fun d => match d with | .struct _ | .array _ _ => true | _ => false) = some true) (hi : (P.info? T).map (·.size) = some n) : (results fn tmps).run P w = .ok (.tuple #[.agg (cellsOf k n f1), .agg (cellsOf k n f2), .agg (cellsOf k n f3)]) w := by
  obtain ⟨d, d1, d2⟩ := under_row hu
  have hp' : tmps[p]?.getD undef = .pointer (some ⟨g, 0, none⟩) := by simpa using hp
  have hq' : tmps[q]?.getD undef = .pointer (some ⟨b, 0, none⟩) := by simpa using hq
  have hs' : tmps[r]?.getD undef = .pointer (some ⟨c, 0, none⟩) := by simpa using hs
  have r1 := run_loadVar_row (P := P) w g t T (cellsOf k n f1) (0, 0) d H1.block d1 (by cases d <;> first | rfl | exact d2) (by rw [cellsOf_size]; exact hi)
  have r2 := run_loadVar_row (P := P) w b t T (cellsOf k n f2) (0, 0) d H2.block d1 (by cases d <;> first | rfl | exact d2) (by rw [cellsOf_size]; exact hi)
  have r3 := run_loadVar_row (P := P) w c t T (cellsOf k n f3) (0, 0) d H3.block d1 (by cases d <;> first | rfl | exact d2) (by rw [cellsOf_size]; exact hi)
  simp [results, hr, hp', hq', hs', asAddr, r1, r2, r3]
/-- Three keys of noughts, one behind the other. -/
theorem three_keys (w : World) : Holds (((w.alloc (.cells #[.int .u8 0, .int .u8 0, .int .u8 0, .int .u8 0, .int .u8 0, .int .u8 0, .int .u8 0, .int .u8 0, .int .u8 0, .int .u8 0, .int .u8 0, .int .u8 0, .int .u8 0, .int .u8 0, .int .u8 0, .int .u8 0, .int .u8 0, .int .u8 0, .int .u8 0, .int .u8 0, .int .u8 0, .int .u8 0, .int .u8 0, .int .u8 0, .int .u8 0, .int .u8 0, .int .u8 0, .int .u8 0, .int .u8 0, .int .u8 0, .int .u8 0, .int .u8 0] 45)).alloc (.cells #[.int .u8 0, .int .u8 0, .int .u8 0, .int .u8 0, .int .u8 0, .int .u8 0, .int .u8 0, .int .u8 0, .int .u8 0, .int .u8 0, .int .u8 0, .int .u8 0, .int .u8 0, .int .u8 0, .int .u8 0, .int .u8 0, .int .u8 0, .int .u8 0, .int .u8 0, .int .u8 0, .int .u8 0, .int .u8 0, .int .u8 0, .int .u8 0, .int .u8 0, .int .u8 0, .int .u8 0, .int .u8 0, .int .u8 0, .int .u8 0, .int .u8 0, .int .u8 0] 45)).alloc (.cells #[.int .u8 0, .int .u8 0, .int .u8 0, .int .u8 0, .int .u8 0, .int .u8 0, .int .u8 0, .int .u8 0, .int .u8 0, .int .u8 0, .int .u8 0, .int .u8 0, .int .u8 0, .int .u8 0, .int .u8 0, .int .u8 0, .int .u8 0, .int .u8 0, .int .u8 0, .int .u8 0, .int .u8 0, .int .u8 0, .int .u8 0, .int .u8 0, .int .u8 0, .int .u8 0, .int .u8 0, .int .u8 0, .int .u8 0, .int .u8 0, .int .u8 0, .int .u8 0] 45)) w.heap.size 45 .u8 32 (fun _ => 0) ∧ Holds (((w.alloc (.cells #[.int .u8 0, .int .u8 0, .int .u8 0, .int .u8 0, .int .u8 0, .int .u8 0, .int .u8 0, .int .u8 0, .int .u8 0, .int .u8 0, .int .u8 0, .int .u8 0, .int .u8 0, .int .u8 0, .int .u8 0, .int .u8 0, .int .u8 0, .int .u8 0, .int .u8 0, .int .u8 0, .int .u8 0, .int .u8 0, .int .u8 0, .int .u8 0, .int .u8 0, .int .u8 0, .int .u8 0, .int .u8 0, .int .u8 0, .int .u8 0, .int .u8 0, .int .u8 0] 45)).alloc (.cells #[.int .u8 0, .int .u8 0, .int .u8 0, .int .u8 0, .int .u8 0, .int .u8 0, .int .u8 0, .int .u8 0, .int .u8 0, .int .u8 0, .int .u8 0, .int .u8 0, .int .u8 0, .int .u8 0, .int .u8 0, .int .u8 0, .int .u8 0, .int .u8 0, .int .u8 0, .int .u8 0, .int .u8 0, .int .u8 0, .int .u8 0, .int .u8 0, .int .u8 0, .int .u8 0, .int .u8 0, .int .u8 0, .int .u8 0, .int .u8 0, .int .u8 0, .int .u8 0] 45)).alloc (.cells #[.int .u8 0, .int .u8 0, .int .u8 0, .int .u8 0, .int .u8 0, .int .u8 0, .int .u8 0, .int .u8 0, .int .u8 0, .int .u8 0, .int .u8 0, .int .u8 0, .int .u8 0, .int .u8 0, .int .u8 0, .int .u8 0, .int .u8 0, .int .u8 0, .int .u8 0, .int .u8 0, .int .u8 0, .int .u8 0, .int .u8 0, .int .u8 0, .int .u8 0, .int .u8 0, .int .u8 0, .int .u8 0, .int .u8 0, .int .u8 0, .int .u8 0, .int .u8 0] 45)) (w.heap.size + 1) 45 .u8 32 (fun _ => 0) ∧ Holds (((w.alloc (.cells #[.int .u8 0, .int .u8 0, .int .u8 0, .int .u8 0, .int .u8 0, .int .u8 0, .int .u8 0, .int .u8 0, .int .u8 0, .int .u8 0, .int .u8 0, .int .u8 0, .int .u8 0, .int .u8 0, .int .u8 0, .int .u8 0, .int .u8 0, .int .u8 0, .int .u8 0, .int .u8 0, .int .u8 0, .int .u8 0, .int .u8 0, .int .u8 0, .int .u8 0, .int .u8 0, .int .u8 0, .int .u8 0, .int .u8 0, .int .u8 0, .int .u8 0, .int .u8 0] 45)).alloc (.cells #[.int .u8 0, .int .u8 0, .int .u8 0, .int .u8 0, .int .u8 0, .int .u8 0, .int .u8 0, .int .u8 0, .int .u8 0, .int .u8 0, .int .u8 0, .int .u8 0, .int .u8 0, .int .u8 0, .int .u8 0, .int .u8 0, .int .u8 0, .int .u8 0, .int .u8 0, .int .u8 0, .int .u8 0, .int .u8 0, .int .u8 0, .int .u8 0, .int .u8 0, .int .u8 0, .int .u8 0, .int .u8 0, .int .u8 0, .int .u8 0, .int .u8 0, .int .u8 0] 45)).alloc (.cells #[.int .u8 0, .int .u8 0, .int .u8 0, .int .u8 0, .int .u8 0, .int .u8 0, .int .u8 0, .int .u8 0, .int .u8 0, .int .u8 0, .int .u8 0, .int .u8 0, .int .u8 0, .int .u8 0, .int .u8 0, .int .u8 0, .int .u8 0, .int .u8 0, .int .u8 0, .int .u8 0, .int .u8 0, .int .u8 0, .int .u8 0, .int .u8 0, .int .u8 0, .int .u8 0, .int .u8 0, .int .u8 0, .int .u8 0, .int .u8 0, .int .u8 0, .int .u8 0] 45)) (w.heap.size + 1 + 1) 45 .u8 32 (fun _ => 0) ∧ w.grownBy (((w.alloc (.cells #[.int .u8 0, .int .u8 0, .int .u8 0, .int .u8 0, .int .u8 0, .int .u8 0, .int .u8 0, .int .u8 0, .int .u8 0, .int .u8 0, .int .u8 0, .int .u8 0, .int .u8 0, .int .u8 0, .int .u8 0, .int .u8 0, .int .u8 0, .int .u8 0, .int .u8 0, .int .u8 0, .int .u8 0, .int .u8 0, .int .u8 0, .int .u8 0, .int .u8 0, .int .u8 0, .int .u8 0, .int .u8 0, .int .u8 0, .int .u8 0, .int .u8 0, .int .u8 0] 45)).alloc (.cells #[.int .u8 0, .int .u8 0, .int .u8 0, .int .u8 0, .int .u8 0, .int .u8 0, .int .u8 0, .int .u8 0, .int .u8 0, .int .u8 0, .int .u8 0, .int .u8 0, .int .u8 0, .int .u8 0, .int .u8 0, .int .u8 0, .int .u8 0, .int .u8 0, .int .u8 0, .int .u8 0, .int .u8 0, .int .u8 0, .int .u8 0, .int .u8 0, .int .u8 0, .int .u8 0, .int .u8 0, .int .u8 0, .int .u8 0, .int .u8 0, .int .u8 0, .int .u8 0] 45)).alloc (.cells #[.int .u8 0, .int .u8 0, .int .u8 0, .int .u8 0, .int .u8 0, .int .u8 0, .int .u8 0, .int .u8 0, .int .u8 0, .int .u8 0, .int .u8 0, .int .u8 0, .int .u8 0, .int .u8 0, .int .u8 0, .int .u8 0, .int .u8 0, .int .u8 0, .int .u8 0, .int .u8 0, .int .u8 0, .int .u8 0, .int .u8 0, .int .u8 0, .int .u8 0, .int .u8 0, .int .u8 0, .int .u8 0, .int .u8 0, .int .u8 0, .int .u8 0, .int .u8 0] 45)) none := by
  have a1 := holds_alloc w 45 .u8 32 (fun _ => 0) #[.int .u8 0, .int .u8 0, .int .u8 0, .int .u8 0, .int .u8 0, .int .u8 0, .int .u8 0, .int .u8 0, .int .u8 0, .int .u8 0, .int .u8 0, .int .u8 0, .int .u8 0, .int .u8 0, .int .u8 0, .int .u8 0, .int .u8 0, .int .u8 0, .int .u8 0, .int .u8 0, .int .u8 0, .int .u8 0, .int .u8 0, .int .u8 0, .int .u8 0, .int .u8 0, .int .u8 0, .int .u8 0, .int .u8 0, .int .u8 0, .int .u8 0, .int .u8 0] rfl
  have a2 := holds_alloc (w.alloc (.cells #[.int .u8 0, .int .u8 0, .int .u8 0, .int .u8 0, .int .u8 0, .int .u8 0, .int .u8 0, .int .u8 0, .int .u8 0, .int .u8 0, .int .u8 0, .int .u8 0, .int .u8 0, .int .u8 0, .int .u8 0, .int .u8 0, .int .u8 0, .int .u8 0, .int .u8 0, .int .u8 0, .int .u8 0, .int .u8 0, .int .u8 0, .int .u8 0, .int .u8 0, .int .u8 0, .int .u8 0, .int .u8 0, .int .u8 0, .int .u8 0, .int .u8 0, .int .u8 0] 45)) 45 .u8 32 (fun _ => 0) #[.int .u8 0, .int .u8 0, .int .u8 0, .int .u8 0, .int .u8 0, .int .u8 0, .int .u8 0, .int .u8 0, .int .u8 0, .int .u8 0, .int .u8 0, .int .u8 0, .int .u8 0, .int .u8 0, .int .u8 0, .int .u8 0, .int .u8 0, .int .u8 0, .int .u8 0, .int .u8 0, .int .u8 0, .int .u8 0, .int .u8 0, .int .u8 0, .int .u8 0, .int .u8 0, .int .u8 0, .int .u8 0, .int .u8 0, .int .u8 0, .int .u8 0, .int .u8 0] rfl
  have a3 := holds_alloc ((w.alloc (.cells #[.int .u8 0, .int .u8 0, .int .u8 0, .int .u8 0, .int .u8 0, .int .u8 0, .int .u8 0, .int .u8 0, .int .u8 0, .int .u8 0, .int .u8 0, .int .u8 0, .int .u8 0, .int .u8 0, .int .u8 0, .int .u8 0, .int .u8 0, .int .u8 0, .int .u8 0, .int .u8 0, .int .u8 0, .int .u8 0, .int .u8 0, .int .u8 0, .int .u8 0, .int .u8 0, .int .u8 0, .int .u8 0, .int .u8 0, .int .u8 0, .int .u8 0, .int .u8 0] 45)).alloc (.cells #[.int .u8 0, .int .u8 0, .int .u8 0, .int .u8 0, .int .u8 0, .int .u8 0, .int .u8 0, .int .u8 0, .int .u8 0, .int .u8 0, .int .u8 0, .int .u8 0, .int .u8 0, .int .u8 0, .int .u8 0, .int .u8 0, .int .u8 0, .int .u8 0, .int .u8 0, .int .u8 0, .int .u8 0, .int .u8 0, .int .u8 0, .int .u8 0, .int .u8 0, .int .u8 0, .int .u8 0, .int .u8 0, .int .u8 0, .int .u8 0, .int .u8 0, .int .u8 0] 45)) 45 .u8 32 (fun _ => 0) #[.int .u8 0, .int .u8 0, .int .u8 0, .int .u8 0, .int .u8 0, .int .u8 0, .int .u8 0, .int .u8 0, .int .u8 0, .int .u8 0, .int .u8 0, .int .u8 0, .int .u8 0, .int .u8 0, .int .u8 0, .int .u8 0, .int .u8 0, .int .u8 0, .int .u8 0, .int .u8 0, .int .u8 0, .int .u8 0, .int .u8 0, .int .u8 0, .int .u8 0, .int .u8 0, .int .u8 0, .int .u8 0, .int .u8 0, .int .u8 0, .int .u8 0, .int .u8 0] rfl
  rw [World.size_alloc] at a2
  rw [World.size_alloc, World.size_alloc] at a3
  exact ⟨(a1.grown (World.grownBy_alloc _ (.cells #[.int .u8 0, .int .u8 0, .int .u8 0, .int .u8 0, .int .u8 0, .int .u8 0, .int .u8 0, .int .u8 0, .int .u8 0, .int .u8 0, .int .u8 0, .int .u8 0, .int .u8 0, .int .u8 0, .int .u8 0, .int .u8 0, .int .u8 0, .int .u8 0, .int .u8 0, .int .u8 0, .int .u8 0, .int .u8 0, .int .u8 0, .int .u8 0, .int .u8 0, .int .u8 0, .int .u8 0, .int .u8 0, .int .u8 0, .int .u8 0, .int .u8 0, .int .u8 0] 45) none) (by simp)).grown (World.grownBy_alloc _ (.cells #[.int .u8 0, .int .u8 0, .int .u8 0, .int .u8 0, .int .u8 0, .int .u8 0, .int .u8 0, .int .u8 0, .int .u8 0, .int .u8 0, .int .u8 0, .int .u8 0, .int .u8 0, .int .u8 0, .int .u8 0, .int .u8 0, .int .u8 0, .int .u8 0, .int .u8 0, .int .u8 0, .int .u8 0, .int .u8 0, .int .u8 0, .int .u8 0, .int .u8 0, .int .u8 0, .int .u8 0, .int .u8 0, .int .u8 0, .int .u8 0, .int .u8 0, .int .u8 0] 45) none) (by simp), a2.grown (World.grownBy_alloc _ (.cells #[.int .u8 0, .int .u8 0, .int .u8 0, .int .u8 0, .int .u8 0, .int .u8 0, .int .u8 0, .int .u8 0, .int .u8 0, .int .u8 0, .int .u8 0, .int .u8 0, .int .u8 0, .int .u8 0, .int .u8 0, .int .u8 0, .int .u8 0, .int .u8 0, .int .u8 0, .int .u8 0, .int .u8 0, .int .u8 0, .int .u8 0, .int .u8 0, .int .u8 0, .int .u8 0, .int .u8 0, .int .u8 0, .int .u8 0, .int .u8 0, .int .u8 0, .int .u8 0] 45) none) (by simp), a3, grown_alloc (grown_alloc (World.grownBy_alloc w (.cells #[.int .u8 0, .int .u8 0, .int .u8 0, .int .u8 0, .int .u8 0, .int .u8 0, .int .u8 0, .int .u8 0, .int .u8 0, .int .u8 0, .int .u8 0, .int .u8 0, .int .u8 0, .int .u8 0, .int .u8 0, .int .u8 0, .int .u8 0, .int .u8 0, .int .u8 0, .int .u8 0, .int .u8 0, .int .u8 0, .int .u8 0, .int .u8 0, .int .u8 0, .int .u8 0, .int .u8 0, .int .u8 0, .int .u8 0, .int .u8 0, .int .u8 0, .int .u8 0] 45) none) (.cells #[.int .u8 0, .int .u8 0, .int .u8 0, .int .u8 0, .int .u8 0, .int .u8 0, .int .u8 0, .int .u8 0, .int .u8 0, .int .u8 0, .int .u8 0, .int .u8 0, .int .u8 0, .int .u8 0, .int .u8 0, .int .u8 0, .int .u8 0, .int .u8 0, .int .u8 0, .int .u8 0, .int .u8 0, .int .u8 0, .int .u8 0, .int .u8 0, .int .u8 0, .int .u8 0, .int .u8 0, .int .u8 0, .int .u8 0, .int .u8 0, .int .u8 0, .int .u8 0] 45)) (.cells #[.int .u8 0, .int .u8 0, .int .u8 0, .int .u8 0, .int .u8 0, .int .u8 0, .int .u8 0, .int .u8 0, .int .u8 0, .int .u8 0, .int .u8 0, .int .u8 0, .int .u8 0, .int .u8 0, .int .u8 0, .int .u8 0, .int .u8 0, .int .u8 0, .int .u8 0, .int .u8 0, .int .u8 0, .int .u8 0, .int .u8 0, .int .u8 0, .int .u8 0, .int .u8 0, .int .u8 0, .int .u8 0, .int .u8 0, .int .u8 0, .int .u8 0, .int .u8 0] 45)⟩
/-- They are stored to, one after the other. -/
theorem three_set {V w : World} {B : Nat} {T n : Nat} {k : IntKind} {z : Nat → Nat} (f1 f2 f3 : Nat → Nat) (hB : V.heap.size ≤ B) (g : V.grownBy w none) (h1 : Holds w B T k n z) (h2 : Holds w (B + 1) T k n z) (h3 : Holds w (B + 1 + 1) T k n z) :
    Holds (w.setRow B (cellsOf k n f1)) (B + 1) T k n z ∧ Holds ((w.setRow B (cellsOf k n f1)).setRow (B + 1) (cellsOf k n f2)) (B + 1 + 1) T k n z ∧
    Holds (((w.setRow B (cellsOf k n f1)).setRow (B + 1) (cellsOf k n f2)).setRow (B + 1 + 1) (cellsOf k n f3)) B T k n f1 ∧ Holds (((w.setRow B (cellsOf k n f1)).setRow (B + 1) (cellsOf k n f2)).setRow (B + 1 + 1) (cellsOf k n f3)) (B + 1) T k n f2 ∧
    Holds (((w.setRow B (cellsOf k n f1)).setRow (B + 1) (cellsOf k n f2)).setRow (B + 1 + 1) (cellsOf k n f3)) (B + 1 + 1) T k n f3 ∧ V.grownBy (((w.setRow B (cellsOf k n f1)).setRow (B + 1) (cellsOf k n f2)).setRow (B + 1 + 1) (cellsOf k n f3)) none := by
  have a2 := h2.of_block (setRow_other w B (B + 1) (cellsOf k n f1) (by omega))
  have a3 := (h3.of_block (setRow_other w B (B + 1 + 1) (cellsOf k n f1) (by omega))).of_block (setRow_other _ (B + 1) (B + 1 + 1) (cellsOf k n f2) (by omega))
  have b1 := ((h1.setRow k n f1).of_block (setRow_other _ (B + 1) B (cellsOf k n f2) (by omega))).of_block (setRow_other _ (B + 1 + 1) B (cellsOf k n f3) (by omega))
  have b2 := (a2.setRow k n f2).of_block (setRow_other _ (B + 1 + 1) (B + 1) (cellsOf k n f3) (by omega))
  exact ⟨a2, a3, b1, b2, a3.setRow k n f3, grown_setRow_new (grown_setRow_new (grown_setRow_new g B _ (Or.inl hB)) (B + 1) _ (Or.inl (by omega))) (B + 1 + 1) _ (Or.inl (by omega))⟩

theorem rows_any (w : World) : Calls Try.prog 40 #[] w fun e w' => e = .returned (.tuple #[.agg (cellsOf .u8 32 rowK), .agg (cellsOf .u8 32 rowU), .agg (cellsOf .u8 32 rowW)]) ∧ w.grownBy w' none := by
  obtain ⟨h1, h2, h3, g⟩ := three_keys w
  obtain ⟨a2, a3, b1, b2, b3, g2⟩ := three_set rowK rowU rowW (Nat.le_refl w.heap.size) g h1 h2 h3
  have B1 := Lib.hid b1
  have B2 := Lib.hid b2
  have B3 := Lib.hid b3
  have G2 := Lib.hid g2
  clear b1 b2 b3 g2 g h2 h3
  go_enter Try.func40, Try.ntmps40
  go_upto_region 1 with fail
  generalize (((w.alloc (.cells #[.int .u8 0, .int .u8 0, .int .u8 0, .int .u8 0, .int .u8 0, .int .u8 0, .int .u8 0, .int .u8 0, .int .u8 0, .int .u8 0, .int .u8 0, .int .u8 0, .int .u8 0, .int .u8 0, .int .u8 0, .int .u8 0, .int .u8 0, .int .u8 0, .int .u8 0, .int .u8 0, .int .u8 0, .int .u8 0, .int .u8 0, .int .u8 0, .int .u8 0, .int .u8 0, .int .u8 0, .int .u8 0, .int .u8 0, .int .u8 0, .int .u8 0, .int .u8 0] 45)).alloc (.cells #[.int .u8 0, .int .u8 0, .int .u8 0, .int .u8 0, .int .u8 0, .int .u8 0, .int .u8 0, .int .u8 0, .int .u8 0, .int .u8 0, .int .u8 0, .int .u8 0, .int .u8 0, .int .u8 0, .int .u8 0, .int .u8 0, .int .u8 0, .int .u8 0, .int .u8 0, .int .u8 0, .int .u8 0, .int .u8 0, .int .u8 0, .int .u8 0, .int .u8 0, .int .u8 0, .int .u8 0, .int .u8 0, .int .u8 0, .int .u8 0, .int .u8 0, .int .u8 0] 45)).alloc (.cells #[.int .u8 0, .int .u8 0, .int .u8 0, .int .u8 0, .int .u8 0, .int .u8 0, .int .u8 0, .int .u8 0, .int .u8 0, .int .u8 0, .int .u8 0, .int .u8 0, .int .u8 0, .int .u8 0, .int .u8 0, .int .u8 0, .int .u8 0, .int .u8 0, .int .u8 0, .int .u8 0, .int .u8 0, .int .u8 0, .int .u8 0, .int .u8 0, .int .u8 0, .int .u8 0, .int .u8 0, .int .u8 0, .int .u8 0, .int .u8 0, .int .u8 0, .int .u8 0] 45)) = w1 at *
  go_wp2_with (first
    | refine wpList_store_row rfl 45 (.tmp 0) (.tmp 3) rfl w.heap.size (cellsOf .u8 32 rowK) rfl rfl 45 _ h1.block (by rw [cellsOf_size]; kernel_rfl) (by first | rfl | simp only [cellsOf_size]) (cellsOf_all _ _ _) ?_
    | refine wpList_store_row rfl 45 (.tmp 1) (.tmp 4) rfl (w.heap.size + 1) (cellsOf .u8 32 rowU) rfl rfl 45 _ a2.block (by rw [cellsOf_size]; kernel_rfl) (by first | rfl | simp only [cellsOf_size]) (cellsOf_all _ _ _) ?_
    | refine wpList_store_row rfl 45 (.tmp 2) (.tmp 5) rfl (w.heap.size + 1 + 1) (cellsOf .u8 32 rowW) rfl rfl 45 _ a3.block (by rw [cellsOf_size]; kernel_rfl) (by first | rfl | simp only [cellsOf_size]) (cellsOf_all _ _ _) ?_)
  refine bodyPost_ret (res_three rfl rfl rfl rfl B1.out B2.out B3.out (by kernel_rfl) (by kernel_rfl)) rfl ?_
  exact ⟨rfl, G2.out⟩

theorem cells_eq {f g : Nat → Nat} (h : eqL f g = true) : cellsOf .u8 32 f = cellsOf .u8 32 g := by
  refine Array.ext (by rw [cellsOf_size, cellsOf_size]) fun i h1 h2 => ?_
  have hi : i < 32 := by rwa [cellsOf_size] at h1
  have e := List.all_eq_true.1 h i (List.mem_range.2 hi)
  have e1 := cellsOf_get .u8 32 f i hi
  have e2 := cellsOf_get .u8 32 g i hi
  rw [Array.getElem?_eq_getElem h1] at e1
  rw [Array.getElem?_eq_getElem h2] at e2
  rw [Option.some.inj e1, Option.some.inj e2, eq_of_beq e]
theorem rowK_lt : ∀ i, rowK i < 256 := rowN_lt _ (by decide)
theorem rowU_lt : ∀ i, rowU i < 256 := rowN_lt _ (by decide)
theorem sh_row (w : World) : Calls Try.prog 22 #[.agg (cellsOf .u8 32 rowK), .agg (cellsOf .u8 32 rowU)] w fun e w' => e = .returned (.tuple #[.agg (cellsOf .u8 32 rowW), .int .i64 0]) ∧ w.grownBy w' none := by
  have h := shared_any rowK rowU rowK_lt rowU_lt w
  have hv : shV rowK rowU = _ := row_shared
  rw [hv, cells_eq row_w] at h
  exact h
theorem sh_zero (w : World) : Calls Try.prog 22 #[.agg (cellsOf .u8 32 rowK), .agg #[.int .u8 0, .int .u8 0, .int .u8 0, .int .u8 0, .int .u8 0, .int .u8 0, .int .u8 0, .int .u8 0, .int .u8 0, .int .u8 0, .int .u8 0, .int .u8 0, .int .u8 0, .int .u8 0, .int .u8 0, .int .u8 0, .int .u8 0, .int .u8 0, .int .u8 0, .int .u8 0, .int .u8 0, .int .u8 0, .int .u8 0, .int .u8 0, .int .u8 0, .int .u8 0, .int .u8 0, .int .u8 0, .int .u8 0, .int .u8 0, .int .u8 0, .int .u8 0]] w fun e w' => e = .returned (.tuple #[.agg (cellsOf .u8 32 (fun _ => 0)), .int .i64 70]) ∧ w.grownBy w' none := by
  have h := shared_any rowK (fun _ => 0) rowK_lt (fun _ => (by decide : (0 : Nat) < 256)) w
  have hv : shV rowK (fun _ => 0) = 0 := by unfold shV; rw [of_zero]; exact row_zero
  rw [hv, lim_zero] at h
  exact h
theorem sh_one (w : World) : Calls Try.prog 22 #[.agg (cellsOf .u8 32 rowK), .agg #[.int .u8 1, .int .u8 0, .int .u8 0, .int .u8 0, .int .u8 0, .int .u8 0, .int .u8 0, .int .u8 0, .int .u8 0, .int .u8 0, .int .u8 0, .int .u8 0, .int .u8 0, .int .u8 0, .int .u8 0, .int .u8 0, .int .u8 0, .int .u8 0, .int .u8 0, .int .u8 0, .int .u8 0, .int .u8 0, .int .u8 0, .int .u8 0, .int .u8 0, .int .u8 0, .int .u8 0, .int .u8 0, .int .u8 0, .int .u8 0, .int .u8 0, .int .u8 0]] w fun e w' => e = .returned (.tuple #[.agg (cellsOf .u8 32 (fun _ => 0)), .int .i64 70]) ∧ w.grownBy w' none := by
  have h := shared_any rowK (rowN [1]) rowK_lt (rowN_lt _ (by decide)) w
  have hv : shV rowK (rowN [1]) = 0 := by unfold shV; rw [of_one]; exact row_one
  rw [hv, lim_zero] at h
  exact h

theorem known07 (w : World) : Calls Try.prog 20 #[] w (SaysYes w) := by
  have HR := Lib.hid rows_any
  have H1 := Lib.hid sh_row
  have H2 := Lib.hid sh_zero
  have H3 := Lib.hid sh_one
  have hw : cellsOf .u8 32 rowW = cellsOf .u8 32 rowW := rfl
  obtain ⟨k, hk⟩ : ∃ k, k = rowK := ⟨_, rfl⟩
  obtain ⟨u, hu⟩ : ∃ k, k = rowU := ⟨_, rfl⟩
  obtain ⟨r, hr⟩ : ∃ k, k = rowW := ⟨_, rfl⟩
  rw [← hk, ← hu, ← hr] at HR
  rw [← hk, ← hu, ← hr] at H1
  rw [← hk] at H2 H3
  clear hk hu hr hw
  go_enter Try.func20, Try.ntmps20
  go_wp2_with fail
  go_at_call 40
  refine (HR.out _).mono ?_
  rintro e V ⟨rfl, g⟩
  obtain ⟨h1, h2, h3, ga⟩ := three_keys V
  obtain ⟨a2, a3, b1, b2, b3, g2⟩ := three_set k u r (Nat.le_refl V.heap.size) ga h1 h2 h3
  replace g := grown_trans g g2
  clear ga g2 h2 h3 HR
  go_upto_region 2 with (first
    | refine wpList_store_row rfl 45 (.tmp 1) (.tmp 12) rfl V.heap.size (cellsOf .u8 32 k) rfl rfl 45 _ h1.block (by rw [cellsOf_size]; kernel_rfl) (by first | rfl | simp only [cellsOf_size]) (cellsOf_all _ _ _) ?_
    | refine wpList_store_row rfl 45 (.tmp 2) (.tmp 13) rfl (V.heap.size + 1) (cellsOf .u8 32 u) rfl rfl 45 _ a2.block (by rw [cellsOf_size]; kernel_rfl) (by first | rfl | simp only [cellsOf_size]) (cellsOf_all _ _ _) ?_
    | refine wpList_store_row rfl 45 (.tmp 3) (.tmp 14) rfl (V.heap.size + 1 + 1) (cellsOf .u8 32 r) rfl rfl 45 _ a3.block (by rw [cellsOf_size]; kernel_rfl) (by first | rfl | simp only [cellsOf_size]) (cellsOf_all _ _ _) ?_)
  generalize (((((V.alloc (.cells #[.int .u8 0, .int .u8 0, .int .u8 0, .int .u8 0, .int .u8 0, .int .u8 0, .int .u8 0, .int .u8 0, .int .u8 0, .int .u8 0, .int .u8 0, .int .u8 0, .int .u8 0, .int .u8 0, .int .u8 0, .int .u8 0, .int .u8 0, .int .u8 0, .int .u8 0, .int .u8 0, .int .u8 0, .int .u8 0, .int .u8 0, .int .u8 0, .int .u8 0, .int .u8 0, .int .u8 0, .int .u8 0, .int .u8 0, .int .u8 0, .int .u8 0, .int .u8 0] 45)).alloc (.cells #[.int .u8 0, .int .u8 0, .int .u8 0, .int .u8 0, .int .u8 0, .int .u8 0, .int .u8 0, .int .u8 0, .int .u8 0, .int .u8 0, .int .u8 0, .int .u8 0, .int .u8 0, .int .u8 0, .int .u8 0, .int .u8 0, .int .u8 0, .int .u8 0, .int .u8 0, .int .u8 0, .int .u8 0, .int .u8 0, .int .u8 0, .int .u8 0, .int .u8 0, .int .u8 0, .int .u8 0, .int .u8 0, .int .u8 0, .int .u8 0, .int .u8 0, .int .u8 0] 45)).alloc (.cells #[.int .u8 0, .int .u8 0, .int .u8 0, .int .u8 0, .int .u8 0, .int .u8 0, .int .u8 0, .int .u8 0, .int .u8 0, .int .u8 0, .int .u8 0, .int .u8 0, .int .u8 0, .int .u8 0, .int .u8 0, .int .u8 0, .int .u8 0, .int .u8 0, .int .u8 0, .int .u8 0, .int .u8 0, .int .u8 0, .int .u8 0, .int .u8 0, .int .u8 0, .int .u8 0, .int .u8 0, .int .u8 0, .int .u8 0, .int .u8 0, .int .u8 0, .int .u8 0] 45)).setRow V.heap.size (cellsOf .u8 32 k)).setRow (V.heap.size + 1) (cellsOf .u8 32 u)).setRow (V.heap.size + 1 + 1) (cellsOf .u8 32 r) = V2 at *
  clear h1 a2 a3
  generalize V.heap.size = B at *
  go_wp2_with (first
    | refine wpList_load_key rfl 1 rfl rfl b1 ?_
    | refine wpList_load_key rfl 2 rfl rfl b2 ?_)
  go_at_call 22
  refine (H1.out _).mono ?_
  rintro e U1 ⟨rfl, g0⟩
  have hL := holds_alloc U1 45 .u8 32 (fun _ => 0) #[.int .u8 0, .int .u8 0, .int .u8 0, .int .u8 0, .int .u8 0, .int .u8 0, .int .u8 0, .int .u8 0, .int .u8 0, .int .u8 0, .int .u8 0, .int .u8 0, .int .u8 0, .int .u8 0, .int .u8 0, .int .u8 0, .int .u8 0, .int .u8 0, .int .u8 0, .int .u8 0, .int .u8 0, .int .u8 0, .int .u8 0, .int .u8 0, .int .u8 0, .int .u8 0, .int .u8 0, .int .u8 0, .int .u8 0, .int .u8 0, .int .u8 0, .int .u8 0] rfl
  have gg := grown_alloc g0 (.cells #[.int .u8 0, .int .u8 0, .int .u8 0, .int .u8 0, .int .u8 0, .int .u8 0, .int .u8 0, .int .u8 0, .int .u8 0, .int .u8 0, .int .u8 0, .int .u8 0, .int .u8 0, .int .u8 0, .int .u8 0, .int .u8 0, .int .u8 0, .int .u8 0, .int .u8 0, .int .u8 0, .int .u8 0, .int .u8 0, .int .u8 0, .int .u8 0, .int .u8 0, .int .u8 0, .int .u8 0, .int .u8 0, .int .u8 0, .int .u8 0, .int .u8 0, .int .u8 0] 45)
  have g2 := grown_setRow_new gg U1.heap.size (cellsOf .u8 32 r) (Or.inl g0.size)
  have d1 := hL.setRow .u8 32 r
  replace b1 := b1.grown g2 (by simp)
  replace b3 := b3.grown g2 (by simp)
  replace g := grown_trans g g2
  clear g0 gg g2 H1
  go_upto_region 3 with (refine wpList_store_row rfl 45 (.tmp 4) (.tmp 19) rfl U1.heap.size (cellsOf .u8 32 r) rfl rfl 45 _ hL.block (by rw [cellsOf_size]; kernel_rfl) (by first | rfl | simp only [cellsOf_size]) (cellsOf_all _ _ _) ?_)
  generalize (U1.alloc (.cells #[.int .u8 0, .int .u8 0, .int .u8 0, .int .u8 0, .int .u8 0, .int .u8 0, .int .u8 0, .int .u8 0, .int .u8 0, .int .u8 0, .int .u8 0, .int .u8 0, .int .u8 0, .int .u8 0, .int .u8 0, .int .u8 0, .int .u8 0, .int .u8 0, .int .u8 0, .int .u8 0, .int .u8 0, .int .u8 0, .int .u8 0, .int .u8 0, .int .u8 0, .int .u8 0, .int .u8 0, .int .u8 0, .int .u8 0, .int .u8 0, .int .u8 0, .int .u8 0] 45)).setRow U1.heap.size (cellsOf .u8 32 r) = V3 at *
  clear hL
  generalize U1.heap.size = B1 at *
  clear b2
  go_wp2_with (refine wpList_load_key rfl 1 rfl rfl b1 ?_)
  go_at_call 22
  refine (H2.out _).mono ?_
  rintro e U2 ⟨rfl, g0⟩
  have hL := holds_alloc U2 45 .u8 32 (fun _ => 0) #[.int .u8 0, .int .u8 0, .int .u8 0, .int .u8 0, .int .u8 0, .int .u8 0, .int .u8 0, .int .u8 0, .int .u8 0, .int .u8 0, .int .u8 0, .int .u8 0, .int .u8 0, .int .u8 0, .int .u8 0, .int .u8 0, .int .u8 0, .int .u8 0, .int .u8 0, .int .u8 0, .int .u8 0, .int .u8 0, .int .u8 0, .int .u8 0, .int .u8 0, .int .u8 0, .int .u8 0, .int .u8 0, .int .u8 0, .int .u8 0, .int .u8 0, .int .u8 0] rfl
  have gg := grown_alloc g0 (.cells #[.int .u8 0, .int .u8 0, .int .u8 0, .int .u8 0, .int .u8 0, .int .u8 0, .int .u8 0, .int .u8 0, .int .u8 0, .int .u8 0, .int .u8 0, .int .u8 0, .int .u8 0, .int .u8 0, .int .u8 0, .int .u8 0, .int .u8 0, .int .u8 0, .int .u8 0, .int .u8 0, .int .u8 0, .int .u8 0, .int .u8 0, .int .u8 0, .int .u8 0, .int .u8 0, .int .u8 0, .int .u8 0, .int .u8 0, .int .u8 0, .int .u8 0, .int .u8 0] 45)
  have g2 := grown_setRow_new gg U2.heap.size (cellsOf .u8 32 (fun _ => 0)) (Or.inl g0.size)
  have d2 := hL.setRow .u8 32 (fun _ => 0)
  replace b1 := b1.grown g2 (by simp)
  replace b3 := b3.grown g2 (by simp)
  replace d1 := d1.grown g2 (by simp)
  replace g := grown_trans g g2
  clear g0 gg g2 H2
  go_upto_region 4 with (refine wpList_store_row rfl 45 (.tmp 6) (.tmp 25) rfl U2.heap.size (cellsOf .u8 32 (fun _ => 0)) rfl rfl 45 _ hL.block (by rw [cellsOf_size]; kernel_rfl) (by first | rfl | simp only [cellsOf_size]) (cellsOf_all _ _ _) ?_)
  generalize (U2.alloc (.cells #[.int .u8 0, .int .u8 0, .int .u8 0, .int .u8 0, .int .u8 0, .int .u8 0, .int .u8 0, .int .u8 0, .int .u8 0, .int .u8 0, .int .u8 0, .int .u8 0, .int .u8 0, .int .u8 0, .int .u8 0, .int .u8 0, .int .u8 0, .int .u8 0, .int .u8 0, .int .u8 0, .int .u8 0, .int .u8 0, .int .u8 0, .int .u8 0, .int .u8 0, .int .u8 0, .int .u8 0, .int .u8 0, .int .u8 0, .int .u8 0, .int .u8 0, .int .u8 0] 45)).setRow U2.heap.size (cellsOf .u8 32 (fun _ => 0)) = V4 at *
  clear hL
  generalize U2.heap.size = B2 at *
  go_wp2_with (refine wpList_load_key rfl 1 rfl rfl b1 ?_)
  go_at_call 22
  refine (H3.out _).mono ?_
  rintro e U3 ⟨rfl, g0⟩
  have hL := holds_alloc U3 45 .u8 32 (fun _ => 0) #[.int .u8 0, .int .u8 0, .int .u8 0, .int .u8 0, .int .u8 0, .int .u8 0, .int .u8 0, .int .u8 0, .int .u8 0, .int .u8 0, .int .u8 0, .int .u8 0, .int .u8 0, .int .u8 0, .int .u8 0, .int .u8 0, .int .u8 0, .int .u8 0, .int .u8 0, .int .u8 0, .int .u8 0, .int .u8 0, .int .u8 0, .int .u8 0, .int .u8 0, .int .u8 0, .int .u8 0, .int .u8 0, .int .u8 0, .int .u8 0, .int .u8 0, .int .u8 0] rfl
  have gg := grown_alloc g0 (.cells #[.int .u8 0, .int .u8 0, .int .u8 0, .int .u8 0, .int .u8 0, .int .u8 0, .int .u8 0, .int .u8 0, .int .u8 0, .int .u8 0, .int .u8 0, .int .u8 0, .int .u8 0, .int .u8 0, .int .u8 0, .int .u8 0, .int .u8 0, .int .u8 0, .int .u8 0, .int .u8 0, .int .u8 0, .int .u8 0, .int .u8 0, .int .u8 0, .int .u8 0, .int .u8 0, .int .u8 0, .int .u8 0, .int .u8 0, .int .u8 0, .int .u8 0, .int .u8 0] 45)
  have g2 := grown_setRow_new gg U3.heap.size (cellsOf .u8 32 (fun _ => 0)) (Or.inl g0.size)
  have d3 := hL.setRow .u8 32 (fun _ => 0)
  replace b1 := b1.grown g2 (by simp)
  replace b3 := b3.grown g2 (by simp)
  replace d1 := d1.grown g2 (by simp)
  replace d2 := d2.grown g2 (by simp)
  replace g := grown_trans g g2
  clear g0 gg g2 H3
  go_upto_region 5 with (refine wpList_store_row rfl 45 (.tmp 8) (.tmp 31) rfl U3.heap.size (cellsOf .u8 32 (fun _ => 0)) rfl rfl 45 _ hL.block (by rw [cellsOf_size]; kernel_rfl) (by first | rfl | simp only [cellsOf_size]) (cellsOf_all _ _ _) ?_)
  generalize (U3.alloc (.cells #[.int .u8 0, .int .u8 0, .int .u8 0, .int .u8 0, .int .u8 0, .int .u8 0, .int .u8 0, .int .u8 0, .int .u8 0, .int .u8 0, .int .u8 0, .int .u8 0, .int .u8 0, .int .u8 0, .int .u8 0, .int .u8 0, .int .u8 0, .int .u8 0, .int .u8 0, .int .u8 0, .int .u8 0, .int .u8 0, .int .u8 0, .int .u8 0, .int .u8 0, .int .u8 0, .int .u8 0, .int .u8 0, .int .u8 0, .int .u8 0, .int .u8 0, .int .u8 0] 45)).setRow U3.heap.size (cellsOf .u8 32 (fun _ => 0)) = V5 at *
  clear hL
  generalize U3.heap.size = B3 at *
  clear b1
  go_wp2_with (first
    | refine wpList_load_keyG rfl 4 rfl rfl d1 ?_
    | refine wpList_load_keyG rfl 3 rfl rfl b3 ?_
    | refine wpList_load_keyG rfl 6 rfl rfl d2 ?_
    | refine wpList_load_keyG rfl 8 rfl rfl d3 ?_
    | refine wpList_eqkG rfl 33 34 r rfl rfl rfl ?_
    | refine wpList_eqkG rfl 41 42 (fun _ => 0) rfl rfl rfl ?_
    | refine wpList_eqkG rfl 46 47 (fun _ => 0) rfl rfl rfl ?_)
  go_ret
  exact ⟨⟨rfl, g⟩⟩
end Go.Proofs.Ytpnddojcihdniaa
namespace Go.Proofs.Ytpnddojcihdniaa
open Go.RowKit Go.Shelf

set_option maxRecDepth 100000
set_option maxHeartbeats 2000000

theorem At32.rd {w : World} {tb o : Nat} {f : Nat → Nat} (h : At32 w tb o f) : Rd w w.heap.size (some ⟨tb, o, none⟩) 32 f := ⟨fun _ => ⟨tb, o, rfl, h.lt, fun i hi => h.cell i hi⟩⟩
theorem refClamp_any (f : Nat → Nat) (hf : ∀ i, f i < 256) (tb o c : Nat) (w : World) (hb : At32 w tb o f) :
    Calls Try.prog 24 #[.slice (some ⟨tb, o, none⟩) 32 c] w (GaveN w 32 (clampF f)) := by
  have hR := hb.rd
  obtain ⟨v1, w1, hap, ⟨g1, cap1, rfl, hO1, _, hg1, hor1⟩⟩ := app_run (B := w.heap.size) (a := some ⟨tb, o, none⟩) (f' := f) c 33 (ownR_empty w) (m := 32) (hR.grown (World.grownBy_alloc w _ none) (fun k e => by cases e)) (by decide)
  have hO := hO1.congr (f' := f) (fun i hi => by unfold cat; rw [if_neg (by omega), Nat.sub_zero])
  rw [World.size_alloc] at hor1
  have G1 := grown_new (World.grownBy_alloc w (.cells #[] 5) none) hg1 (Nat.le_refl _)
  have hle : w.heap.size ≤ g1 := by omega
  have hl0 := hf 0
  have hl31 := hf 31
  obtain ⟨q0, hq0⟩ : ∃ q, q = f 0 / 8 := ⟨_, rfl⟩
  obtain ⟨y0, hy0⟩ : ∃ q, q = q0 * 8 := ⟨_, rfl⟩
  obtain ⟨q1, hq1⟩ : ∃ q, q = f 31 % 64 := ⟨_, rfl⟩
  obtain ⟨y1, hy1⟩ : ∃ q, q = q1 + 64 := ⟨_, rfl⟩
  have hA := hO.set 0 y0 (by decide)
  have hB := hA.set 31 y1 (by decide)
  have hC := hB.congr (f' := clampF f) (fun i hi => by
    unfold clampF
    by_cases e1 : i = 31
    · subst e1; rw [upd_same, if_neg (by decide), if_pos rfl, hy1, hq1]
    · rw [upd_other _ _ _ _ e1]
      by_cases e0 : i = 0
      · subst e0; rw [upd_same, if_pos rfl, hy0, hq0]
      · rw [upd_other _ _ _ _ e0, if_neg e0, if_neg e1])
  have g2 := grown_setCell_new (grown_setCell_new G1 ⟨g1, 0, none⟩ (.int .u8 (y0 : Nat)) (Or.inl hle)) ⟨g1, 31, none⟩ (.int .u8 (y1 : Nat)) (Or.inl hle)
  have c0 := hO.cell 0 (by decide)
  have f0 := hO.free 0
  have c1 := hA.cell 31 (by decide)
  have f1 := hA.free 31
  rw [upd_other _ _ _ _ (by decide)] at c1
  obtain ⟨x0, hx0⟩ : ∃ x, x = f 0 := ⟨_, rfl⟩
  obtain ⟨x1, hx1⟩ : ∃ x, x = f 31 := ⟨_, rfl⟩
  rw [← hx0] at c0 hq0 hl0
  rw [← hx1] at c1 hq1 hl31
  have z0 : (x0 : Int) / 8 = (q0 : Int) := by omega
  have z0' : (x0 : Int).tdiv 8 = (q0 : Int) := by rw [Int.tdiv_eq_ediv_of_nonneg (by omega)]; omega
  have z1 : (q0 : Int) * 8 = (y0 : Int) := by omega
  have z2 : (x1 : Int) % 64 = (q1 : Int) := by omega
  have z2' : (x1 : Int).tmod 64 = (q1 : Int) := by rw [Int.tmod_eq_emod_of_nonneg (by omega)]; omega
  have z3 : (q1 : Int) + 64 = (y1 : Int) := by omega
  have l0 : (y0 : Int) < 256 := by omega
  have l1 : (y1 : Int) < 256 := by omega
  have lq : (q0 : Int) < 256 := by omega
  have lr : (q1 : Int) < 256 := by omega
  have HAP := Lib.hid hap
  have HC := Lib.hid hC
  have G2 := Lib.hid g2
  have HLE := Lib.hid hle
  clear hap hR hb hf hO1 hO hA hB hC g2 G1 hg1 hor1 hle hl0 hl31 hq0 hy0 hq1 hy1 hx0 hx1
  go_enter Try.func24, Try.ntmps24
  go_upto_region 2 with (at_builtin; refine wpList_append_run rfl (.tmp 4) (.tmp 5) 33 33 rfl _ (.slice (some ⟨tb, o, none⟩) 32 c) _ _ rfl rfl HAP.out ?_)
  go_wp2_with fail
  go_ret
  exact ⟨⟨_, rfl, ⟨Or.inr ⟨g1, cap1, rfl, HC.out, HLE.out⟩⟩, G2.out⟩⟩

theorem refBit_any (f : Nat → Nat) (hf : ∀ i, f i < 256) (g cap i : Nat) (w : World) (hi : i < 255) (h : OwnR w g 32 cap f) :
    Calls Try.prog 50 #[.slice (some ⟨g, 0, none⟩) 32 cap, .int .i64 i] w fun e w' => e = .returned (.int .i64 (byBit f i : Nat)) ∧ w = w' := by
  obtain ⟨q, hq⟩ : ∃ q, q = i / 8 := ⟨_, rfl⟩
  obtain ⟨r, hr⟩ : ∃ r, r = i % 8 := ⟨_, rfl⟩
  have c0 := h.cell q (by omega)
  have hbit : byBit f i = f q / 2 ^ r % 2 := by unfold byBit; rw [← hq, ← hr]
  have hlt := hf q
  rw [hbit]
  generalize f q = x at *
  obtain ⟨b, hb⟩ : ∃ b, b = x / 2 ^ r % 2 := ⟨_, rfl⟩
  rw [← hb]
  have HB := Lib.hid hb
  clear hb
  have z0 : (i : Int) / 8 = (q : Int) := by omega
  have z0' : (i : Int).tdiv 8 = (q : Int) := by rw [Int.tdiv_eq_ediv_of_nonneg (by omega)]; omega
  have z1 : (i : Int) % 8 = (r : Int) := by omega
  have z1' : (i : Int).tmod 8 = (r : Int) := by rw [Int.tmod_eq_emod_of_nonneg (by omega)]; omega
  have k0 : (q : Int) < 32 := by omega
  have k1 : (r : Int) < 8 := by omega
  have k2 : (i : Int) < 255 := by omega
  have kx : (x : Int) < 256 := by omega
  have Hx := Lib.hid hlt
  have HR := Lib.hid (show r < 8 by omega)
  clear hq hr hbit hf h hi hlt
  go_enter Try.func50, Try.ntmps50
  go_wp2_with fail
  go_loopw [5, 6] (fun u5 u6 wr => ∃ j : Nat, j ≤ r ∧ u5 = .int .i64 ((x / 2 ^ j : Nat) : Int) ∧ u6 = .int .i64 j ∧ wr = w) (fun _ u6 _ => r - (intOf u6).toNat)
  case atStart => exact ⟨0, Nat.zero_le _, by rw [Nat.pow_zero, Nat.div_one], rfl, rfl⟩
  case round =>
    obtain ⟨j, hj, rfl, rfl, rfl⟩ := hrel
    obtain ⟨y, hy⟩ : ∃ y, y = x / 2 ^ j := ⟨_, rfl⟩
    have hyl : y < 256 := by rw [hy]; exact Nat.lt_of_le_of_lt (Nat.div_le_self _ _) Hx.out
    rw [← hy]
    by_cases hlt : j < r
    · have j1 : (j : Int) < (r : Int) := by omega
      obtain ⟨y2, hy2⟩ : ∃ z, z = y / 2 := ⟨_, rfl⟩
      have d0 : (y : Int) / 2 = (y2 : Int) := by omega
      have d1 : (y : Int).tdiv 2 = (y2 : Int) := by rw [Int.tdiv_eq_ediv_of_nonneg (by omega)]; omega
      have hn : y2 = x / 2 ^ (j + 1) := by rw [hy2, hy, Nat.div_div_eq_div_mul, ← Nat.pow_succ]
      have d2 : (y2 : Int) < 256 := by omega
      have HN := Lib.hid hn
      have HJ := Lib.hid hlt
      clear hy hy2 hn hlt hj
      go_wp2_with fail
      first
        | exact ⟨⟨j + 1, HJ.out, by rw [← HN.out], by go_num, trivial⟩, by have := HJ.out; simp [intOf]; omega⟩
        | (go_roundw
           case rel => exact ⟨j + 1, HJ.out, by rw [← HN.out], by go_num, trivial⟩
           case measure => have := HJ.out; simp [intOf]; omega)
    · obtain rfl : j = r := by omega
      have j1 : ¬ (j : Int) < (j : Int) := by omega
      obtain ⟨y2, hy2⟩ : ∃ z, z = y % 2 := ⟨_, rfl⟩
      have d0 : (y : Int) % 2 = (y2 : Int) := by omega
      have d1 : (y : Int).tmod 2 = (y2 : Int) := by rw [Int.tmod_eq_emod_of_nonneg (by omega)]; omega
      have HY := Lib.hid (show y2 = b by rw [hy2, hy, HB.out])
      clear hy hy2 hlt
      go_wp2_with fail
      go_ret
      exact ⟨by rw [HY.out]; rfl, rfl⟩
end Go.Proofs.Ytpnddojcihdniaa
namespace Go.Proofs.Ytpnddojcihdniaa
open Go.RowKit Go.Shelf

set_option maxRecDepth 100000
set_option maxHeartbeats 2000000

/-- A number's slice, as a value. -/
def nv (b : Nat) : Value := .slice (some ⟨b, 0, none⟩) 16 16
structure L4 (W : World) (g b0 b1 b2 b3 : Nat) (l : Lad) : Prop where
  c0 : W.cell? ⟨g, 0, none⟩ = some (.slice (some ⟨b0, 0, none⟩) 16 16)
  c1 : W.cell? ⟨g, 1, none⟩ = some (.slice (some ⟨b1, 0, none⟩) 16 16)
  c2 : W.cell? ⟨g, 2, none⟩ = some (.slice (some ⟨b2, 0, none⟩) 16 16)
  c3 : W.cell? ⟨g, 3, none⟩ = some (.slice (some ⟨b3, 0, none⟩) 16 16)
  n0 : NumAt W b0 l.x2
  n1 : NumAt W b1 l.z2
  n2 : NumAt W b2 l.x3
  n3 : NumAt W b3 l.z3
theorem L4.grown {W W' : World} {g b0 b1 b2 b3 : Nat} {l : Lad} (h : L4 W g b0 b1 b2 b3 l) (e : W.grownBy W' none) : L4 W' g b0 b1 b2 b3 l :=
  ⟨e.cell h.c0 (by simp), e.cell h.c1 (by simp), e.cell h.c2 (by simp), e.cell h.c3 (by simp), h.n0.grown e, h.n1.grown e, h.n2.grown e, h.n3.grown e⟩
def LV (l : Lad) (x : Value) (W : World) : Prop := ∃ g b0 b1 b2 b3, x = .slice (some ⟨g, 0, none⟩) 4 4 ∧ L4 W g b0 b1 b2 b3 l
theorem LV.grown {l : Lad} {x : Value} {W W' : World} (h : LV l x W) (e : W.grownBy W' none) : LV l x W' := by
  obtain ⟨g, b0, b1, b2, b3, h1, h2⟩ := h
  exact ⟨g, b0, b1, b2, b3, h1, h2.grown e⟩
theorem build4 (b0 b1 b2 b3 : Nat) (W : World) : (Instr.buildSlice 87 4 #[(0, .slice (some ⟨b0, 0, none⟩) 16 16), (1, .slice (some ⟨b1, 0, none⟩) 16 16), (2, .slice (some ⟨b2, 0, none⟩) 16 16), (3, .slice (some ⟨b3, 0, none⟩) 16 16)]).run Try.prog W =
    .ok (.slice (some ⟨W.heap.size, 0, none⟩) 4 4) (W.alloc (.cells #[.slice (some ⟨b0, 0, none⟩) 16 16, .slice (some ⟨b1, 0, none⟩) 16 16, .slice (some ⟨b2, 0, none⟩) 16 16, .slice (some ⟨b3, 0, none⟩) 16 16] 31)) := by
  go_simp
theorem L4.new {W : World} {b0 b1 b2 b3 : Nat} {l : Lad} (h0 : NumAt W b0 l.x2) (h1 : NumAt W b1 l.z2) (h2 : NumAt W b2 l.x3) (h3 : NumAt W b3 l.z3) :
    L4 (W.alloc (.cells #[.slice (some ⟨b0, 0, none⟩) 16 16, .slice (some ⟨b1, 0, none⟩) 16 16, .slice (some ⟨b2, 0, none⟩) 16 16, .slice (some ⟨b3, 0, none⟩) 16 16] 31)) W.heap.size b0 b1 b2 b3 l := by
  have g := World.grownBy_alloc W (.cells #[.slice (some ⟨b0, 0, none⟩) 16 16, .slice (some ⟨b1, 0, none⟩) 16 16, .slice (some ⟨b2, 0, none⟩) 16 16, .slice (some ⟨b3, 0, none⟩) 16 16] 31) none
  have hb := heap_alloc_new W (.cells #[.slice (some ⟨b0, 0, none⟩) 16 16, .slice (some ⟨b1, 0, none⟩) 16 16, .slice (some ⟨b2, 0, none⟩) 16 16, .slice (some ⟨b3, 0, none⟩) 16 16] 31)
  refine ⟨?_, ?_, ?_, ?_, h0.grown g, h1.grown g, h2.grown g, h3.grown g⟩
  all_goals (rw [cell_of_row _ _ _ _ _ _ hb]; rfl)
theorem run_build4 {o : Oper} {a : Act} {W : World} {b0 b1 b2 b3 : Nat} (t0 t1 t2 t3 : Nat) (ho : o.op = .buildSlice 87 4 #[(0, .tmp t0), (1, .tmp t1), (2, .tmp t2), (3, .tmp t3)])
    (h0 : a.eval (.tmp t0) = .slice (some ⟨b0, 0, none⟩) 16 16) (h1 : a.eval (.tmp t1) = .slice (some ⟨b1, 0, none⟩) 16 16) (h2 : a.eval (.tmp t2) = .slice (some ⟨b2, 0, none⟩) 16 16) (h3 : a.eval (.tmp t3) = .slice (some ⟨b3, 0, none⟩) 16 16) :
    (execOp a.eval o).run Try.prog W = .ok (.value (.slice (some ⟨W.heap.size, 0, none⟩) 4 4)) (W.alloc (.cells #[.slice (some ⟨b0, 0, none⟩) 16 16, .slice (some ⟨b1, 0, none⟩) 16 16, .slice (some ⟨b2, 0, none⟩) 16 16, .slice (some ⟨b3, 0, none⟩) 16 16] 31)) := by
  have hb := build4 b0 b1 b2 b3 W
  unfold execOp
  simp only [ho, List.map_toArray, List.map_cons, List.map_nil, h0, h1, h2, h3, Sem.run_bind, hb, Result.andThen_ok]
  rfl
/-- A number's slice, out of its cell. -/
theorem run_numcell {o : Oper} {a : Act} {W : World} {g i b : Nat} {t : Tmp} (h : W.cell? ⟨g, i, none⟩ = some (.slice (some ⟨b, 0, none⟩) 16 16)) (ho : o.op = .load 31 (.tmp t)) (ha : a.eval (.tmp t) = .pointer (some ⟨g, i, none⟩)) :
    (execOp a.eval o).run Try.prog W = .ok (.value (.slice (some ⟨b, 0, none⟩) 16 16)) W := by
  unfold execOp
  simp only [ho, ha]
  go_simp
end Go.Proofs.Ytpnddojcihdniaa
namespace Go.Proofs.Ytpnddojcihdniaa
open Go.RowKit Go.Shelf

set_option maxRecDepth 100000
set_option maxHeartbeats 4000000

theorem GaveNum.vn {w : World} {x v : Nat} {e : Ending} {w' : World} (h : GaveNum w x e w') (hv : v = x) : ∃ y, e = .returned y ∧ w.grownBy w' none ∧ NumV v y w' := by
  subst hv
  exact h.v

theorem refStep_any (bu U g b0 b1 b2 b3 X2 Z2 X3 Z3 : Nat) (w : World) (hu : NumAt w bu U) (hl : L4 w g b0 b1 b2 b3 ⟨X2, Z2, X3, Z3⟩) :
    Calls Try.prog 51 #[.slice (some ⟨bu, 0, none⟩) 16 16, .slice (some ⟨g, 0, none⟩) 4 4] w fun e w' => ∃ v, e = .returned v ∧ w.grownBy w' none ∧ LV (Lad.step U ⟨X2, Z2, X3, Z3⟩) v w' := by
  have c0 := hl.c0
  have c1 := hl.c1
  have c2 := hl.c2
  have c3 := hl.c3
  have n0 : NumAt w b0 X2 := hl.n0
  have n1 : NumAt w b1 Z2 := hl.n1
  have n2 : NumAt w b2 X3 := hl.n2
  have n3 : NumAt w b3 Z3 := hl.n3
  clear hl
  obtain ⟨va, ha⟩ : ∃ v, v = fAdd X2 Z2 := ⟨_, rfl⟩
  obtain ⟨vb, hb⟩ : ∃ v, v = fSub X2 Z2 := ⟨_, rfl⟩
  obtain ⟨vt1, ht1⟩ : ∃ v, v = fSub X3 Z3 := ⟨_, rfl⟩
  obtain ⟨vda, hda⟩ : ∃ v, v = fMul vt1 va := ⟨_, rfl⟩
  obtain ⟨vt2, ht2⟩ : ∃ v, v = fAdd X3 Z3 := ⟨_, rfl⟩
  obtain ⟨vcb, hcb⟩ : ∃ v, v = fMul vt2 vb := ⟨_, rfl⟩
  obtain ⟨vaa, haa⟩ : ∃ v, v = fMul va va := ⟨_, rfl⟩
  obtain ⟨vbb, hbb⟩ : ∃ v, v = fMul vb vb := ⟨_, rfl⟩
  obtain ⟨ve, he⟩ : ∃ v, v = fSub vaa vbb := ⟨_, rfl⟩
  obtain ⟨vs, hs⟩ : ∃ v, v = fAdd vda vcb := ⟨_, rfl⟩
  obtain ⟨vd, hd⟩ : ∃ v, v = fSub vda vcb := ⟨_, rfl⟩
  obtain ⟨vme, hme⟩ : ∃ v, v = fMul ve 121665 := ⟨_, rfl⟩
  obtain ⟨vz, hz⟩ : ∃ v, v = fAdd vaa vme := ⟨_, rfl⟩
  obtain ⟨vo1, ho1⟩ : ∃ v, v = fMul vaa vbb := ⟨_, rfl⟩
  obtain ⟨vo2, ho2⟩ : ∃ v, v = fMul ve vz := ⟨_, rfl⟩
  obtain ⟨vo3, ho3⟩ : ∃ v, v = fMul vs vs := ⟨_, rfl⟩
  obtain ⟨vdd, hdd⟩ : ∃ v, v = fMul vd vd := ⟨_, rfl⟩
  obtain ⟨vo4, ho4⟩ : ∃ v, v = fMul U vdd := ⟨_, rfl⟩
  have hL : Lad.step U ⟨X2, Z2, X3, Z3⟩ = ⟨vo1, vo2, vo3, vo4⟩ := by
    rw [ho1, ho2, ho3, ho4, hdd, hz, hme, hs, hd, he, haa, hbb, hda, hcb, ht1, ht2, ha, hb, fMul_comm _ 121665]
    rfl
  rw [hL]
  have Ha := Lib.hid ha
  have Hb := Lib.hid hb
  have Ht1 := Lib.hid ht1
  have Hda := Lib.hid hda
  have Ht2 := Lib.hid ht2
  have Hcb := Lib.hid hcb
  have Haa := Lib.hid haa
  have Hbb := Lib.hid hbb
  have He := Lib.hid he
  have Hs := Lib.hid hs
  have Hd := Lib.hid hd
  have Hme := Lib.hid hme
  have Hz := Lib.hid hz
  have Ho1 := Lib.hid ho1
  have Ho2 := Lib.hid ho2
  have Ho3 := Lib.hid ho3
  have Hdd := Lib.hid hdd
  have Ho4 := Lib.hid ho4
  clear hL ha hb ht1 hda ht2 hcb haa hbb he hs hd hme hz ho1 ho2 ho3 hdd ho4
  have HS := Lib.hid (refSmall_any 121665 (by decide))
  have HP := Lib.hid (show 121665 < pF by decide)
  have gr := grown_refl w none
  go_enter Try.func51, Try.ntmps51
  go_upto_region 1 with fail
  refine wp_region_rel_all (fun W => w.grownBy W none) (fun _ h => h) (alL []) (relL [fun vv _ => vv = .slice (some ⟨g, 0, none⟩) 4 4, fun vv _ => vv = .pointer (some ⟨g, 0, none⟩), fun vv _ => vv = .slice (some ⟨b0, 0, none⟩) 16 16, fun vv _ => vv = .slice (some ⟨g, 0, none⟩) 4 4, fun vv _ => vv = .pointer (some ⟨g, 1, none⟩), fun vv _ => vv = .slice (some ⟨b1, 0, none⟩) 16 16, NumV va])
    7 1 (atL [15, 16, 17, 18, 19, 20, 21]) (depL [[], [0], [1], [], [3], [4], [2, 5]]) (by kernel_rfl) rfl (by kernel_rfl) (by kernel_rfl) (by kernel_rfl) (by decide) (by kernel_rfl) 82 rfl (by decide) (by decide) (by decide) ?mono1 ?al1 ?step1 ?fin1
  case mono1 =>
    intro k x W W' hk h g
    obtain rfl | rfl | rfl | rfl | rfl | rfl | rfl : k = 0 ∨ k = 1 ∨ k = 2 ∨ k = 3 ∨ k = 4 ∨ k = 5 ∨ k = 6 := by omega
    · exact h
    · exact h
    · exact h
    · exact h
    · exact h
    · exact h
    · exact NumV.grown h g
  case al1 =>
    intro k x W hk e h
    obtain rfl | rfl | rfl | rfl | rfl | rfl | rfl : k = 0 ∨ k = 1 ∨ k = 2 ∨ k = 3 ∨ k = 4 ∨ k = 5 ∨ k = 6 := by omega
    · exact absurd e (by decide)
    · exact absurd e (by decide)
    · exact absurd e (by decide)
    · exact absurd e (by decide)
    · exact absurd e (by decide)
    · exact absurd e (by decide)
    · exact absurd e (by decide)
  case step1 =>
    intro k hk
    obtain rfl | rfl | rfl | rfl | rfl | rfl | rfl : k = 0 ∨ k = 1 ∨ k = 2 ∨ k = 3 ∨ k = 4 ∨ k = 5 ∨ k = 6 := by omega
    · refine ⟨_, rfl, rfl, fun b W hs hg hD => ⟨wanted_of rfl, fun K hK0 => ?_⟩⟩
      have hK := fun v W' g h => hK0 v W' g h (fun e => absurd e (by decide))
      exact rel_move 1 rfl (hs 1 (by decide)) rfl hK
    · refine ⟨_, rfl, rfl, fun b W hs hg hD => ⟨wanted_of rfl, fun K hK0 => ?_⟩⟩
      have hK := fun v W' g h => hK0 v W' g h (fun e => absurd e (by decide))
      have h0 : b.tmps[15]?.getD undef = .slice (some ⟨g, 0, none⟩) 4 4 := (hD 0 (by decide))
      exact rel_val (v := .pointer (some ⟨g, 0, none⟩)) (by unfold execOp; go_simp) rfl hK
    · refine ⟨_, rfl, rfl, fun b W hs hg hD => ⟨wanted_of rfl, fun K hK0 => ?_⟩⟩
      have hK := fun v W' g h => hK0 v W' g h (fun e => absurd e (by decide))
      have h0 : b.tmps[16]?.getD undef = .pointer (some ⟨g, 0, none⟩) := (hD 1 (by decide))
      exact rel_val (v := .slice (some ⟨b0, 0, none⟩) 16 16) (run_numcell (hg.cell c0 (by simp)) rfl ((eval_slot b 16).trans h0)) rfl hK
    · refine ⟨_, rfl, rfl, fun b W hs hg hD => ⟨wanted_of rfl, fun K hK0 => ?_⟩⟩
      have hK := fun v W' g h => hK0 v W' g h (fun e => absurd e (by decide))
      exact rel_move 1 rfl (hs 1 (by decide)) rfl hK
    · refine ⟨_, rfl, rfl, fun b W hs hg hD => ⟨wanted_of rfl, fun K hK0 => ?_⟩⟩
      have hK := fun v W' g h => hK0 v W' g h (fun e => absurd e (by decide))
      have h0 : b.tmps[18]?.getD undef = .slice (some ⟨g, 0, none⟩) 4 4 := (hD 3 (by decide))
      exact rel_val (v := .pointer (some ⟨g, 1, none⟩)) (by unfold execOp; go_simp) rfl hK
    · refine ⟨_, rfl, rfl, fun b W hs hg hD => ⟨wanted_of rfl, fun K hK0 => ?_⟩⟩
      have hK := fun v W' g h => hK0 v W' g h (fun e => absurd e (by decide))
      have h0 : b.tmps[19]?.getD undef = .pointer (some ⟨g, 1, none⟩) := (hD 4 (by decide))
      exact rel_val (v := .slice (some ⟨b1, 0, none⟩) 16 16) (run_numcell (hg.cell c1 (by simp)) rfl ((eval_slot b 19).trans h0)) rfl hK
    · refine ⟨_, rfl, rfl, fun b W hs hg hD => ⟨wanted_of rfl, fun K hK0 => ?_⟩⟩
      have hK := fun v W' g h => hK0 v W' g h (fun e => absurd e (by decide))
      refine rel_call 10 _ (exec_fn2 _ _ _ _ _ rfl ((eval_slot b 17).trans (hD 2 (by decide))) ((eval_slot b 20).trans (hD 5 (by decide)))) (fun _ _ => rfl) ?_ hK
      exact (refAdd_any b0 b1 X2 Z2 W (n0.grown hg) (n1.grown hg)).mono fun e w' h => h.vn Ha.out
  intro vals W hg hR hap
  obtain ⟨ba, e1, na⟩ := hR 6 (by decide)
  clear hR hap
  simp only [putsN, atL, Act.put, List.getD_cons_zero, List.getD_cons_succ, List.setIfInBounds_toArray, List.set_cons_succ, List.set_cons_zero, e1]
  generalize vals 0 = q1_0
  generalize vals 1 = q1_1
  generalize vals 2 = q1_2
  generalize vals 3 = q1_3
  generalize vals 4 = q1_4
  generalize vals 5 = q1_5
  clear e1 vals
  show wpAnyH _ _ _ _ _ 1 #[true, true, true, true, true, true, true, false] _ _
  refine wpAnyH_yieldD (some 5) (i := 7) (v := .slice (some ⟨ba, 0, none⟩) 16 16) (by kernel_rfl) rfl rfl rfl (by unfold execOp; go_simp) hg ?_
  simp only [Act.put, List.setIfInBounds_toArray, List.set_cons_succ, List.set_cons_zero]
  refine wpAnyH_done (by kernel_rfl) ?_ _
  replace hu := hu.grown hg
  replace n0 := n0.grown hg
  replace n1 := n1.grown hg
  replace n2 := n2.grown hg
  replace n3 := n3.grown hg
  replace c0 := hg.cell c0 (by simp)
  replace c1 := hg.cell c1 (by simp)
  replace c2 := hg.cell c2 (by simp)
  replace c3 := hg.cell c3 (by simp)
  replace gr := grown_trans gr hg
  obtain ⟨V1, hV⟩ : ∃ V, V = W := ⟨_, rfl⟩
  subst hV
  clear hg
  go_upto_region 2 with fail
  refine wp_region_rel_all (fun W => V1.grownBy W none) (fun _ h => h) (alL []) (relL [fun vv _ => vv = .slice (some ⟨g, 0, none⟩) 4 4, fun vv _ => vv = .pointer (some ⟨g, 0, none⟩), fun vv _ => vv = .slice (some ⟨b0, 0, none⟩) 16 16, fun vv _ => vv = .slice (some ⟨g, 0, none⟩) 4 4, fun vv _ => vv = .pointer (some ⟨g, 1, none⟩), fun vv _ => vv = .slice (some ⟨b1, 0, none⟩) 16 16, NumV vb])
    7 1 (atL [22, 23, 24, 25, 26, 27, 28]) (depL [[], [0], [1], [], [3], [4], [2, 5]]) (by kernel_rfl) rfl (by kernel_rfl) (by kernel_rfl) (by kernel_rfl) (by decide) (by kernel_rfl) 82 rfl (by decide) (by decide) (by decide) ?mono2 ?al2 ?step2 ?fin2
  case mono2 =>
    intro k x W W' hk h g
    obtain rfl | rfl | rfl | rfl | rfl | rfl | rfl : k = 0 ∨ k = 1 ∨ k = 2 ∨ k = 3 ∨ k = 4 ∨ k = 5 ∨ k = 6 := by omega
    · exact h
    · exact h
    · exact h
    · exact h
    · exact h
    · exact h
    · exact NumV.grown h g
  case al2 =>
    intro k x W hk e h
    obtain rfl | rfl | rfl | rfl | rfl | rfl | rfl : k = 0 ∨ k = 1 ∨ k = 2 ∨ k = 3 ∨ k = 4 ∨ k = 5 ∨ k = 6 := by omega
    · exact absurd e (by decide)
    · exact absurd e (by decide)
    · exact absurd e (by decide)
    · exact absurd e (by decide)
    · exact absurd e (by decide)
    · exact absurd e (by decide)
    · exact absurd e (by decide)
  case step2 =>
    intro k hk
    obtain rfl | rfl | rfl | rfl | rfl | rfl | rfl : k = 0 ∨ k = 1 ∨ k = 2 ∨ k = 3 ∨ k = 4 ∨ k = 5 ∨ k = 6 := by omega
    · refine ⟨_, rfl, rfl, fun b W hs hg hD => ⟨wanted_of rfl, fun K hK0 => ?_⟩⟩
      have hK := fun v W' g h => hK0 v W' g h (fun e => absurd e (by decide))
      exact rel_move 1 rfl (hs 1 (by decide)) rfl hK
    · refine ⟨_, rfl, rfl, fun b W hs hg hD => ⟨wanted_of rfl, fun K hK0 => ?_⟩⟩
      have hK := fun v W' g h => hK0 v W' g h (fun e => absurd e (by decide))
      have h0 : b.tmps[22]?.getD undef = .slice (some ⟨g, 0, none⟩) 4 4 := (hD 0 (by decide))
      exact rel_val (v := .pointer (some ⟨g, 0, none⟩)) (by unfold execOp; go_simp) rfl hK
    · refine ⟨_, rfl, rfl, fun b W hs hg hD => ⟨wanted_of rfl, fun K hK0 => ?_⟩⟩
      have hK := fun v W' g h => hK0 v W' g h (fun e => absurd e (by decide))
      have h0 : b.tmps[23]?.getD undef = .pointer (some ⟨g, 0, none⟩) := (hD 1 (by decide))
      exact rel_val (v := .slice (some ⟨b0, 0, none⟩) 16 16) (run_numcell (hg.cell c0 (by simp)) rfl ((eval_slot b 23).trans h0)) rfl hK
    · refine ⟨_, rfl, rfl, fun b W hs hg hD => ⟨wanted_of rfl, fun K hK0 => ?_⟩⟩
      have hK := fun v W' g h => hK0 v W' g h (fun e => absurd e (by decide))
      exact rel_move 1 rfl (hs 1 (by decide)) rfl hK
    · refine ⟨_, rfl, rfl, fun b W hs hg hD => ⟨wanted_of rfl, fun K hK0 => ?_⟩⟩
      have hK := fun v W' g h => hK0 v W' g h (fun e => absurd e (by decide))
      have h0 : b.tmps[25]?.getD undef = .slice (some ⟨g, 0, none⟩) 4 4 := (hD 3 (by decide))
      exact rel_val (v := .pointer (some ⟨g, 1, none⟩)) (by unfold execOp; go_simp) rfl hK
    · refine ⟨_, rfl, rfl, fun b W hs hg hD => ⟨wanted_of rfl, fun K hK0 => ?_⟩⟩
      have hK := fun v W' g h => hK0 v W' g h (fun e => absurd e (by decide))
      have h0 : b.tmps[26]?.getD undef = .pointer (some ⟨g, 1, none⟩) := (hD 4 (by decide))
      exact rel_val (v := .slice (some ⟨b1, 0, none⟩) 16 16) (run_numcell (hg.cell c1 (by simp)) rfl ((eval_slot b 26).trans h0)) rfl hK
    · refine ⟨_, rfl, rfl, fun b W hs hg hD => ⟨wanted_of rfl, fun K hK0 => ?_⟩⟩
      have hK := fun v W' g h => hK0 v W' g h (fun e => absurd e (by decide))
      refine rel_call 12 _ (exec_fn2 _ _ _ _ _ rfl ((eval_slot b 24).trans (hD 2 (by decide))) ((eval_slot b 27).trans (hD 5 (by decide)))) (fun _ _ => rfl) ?_ hK
      exact (refSub_any b0 b1 X2 Z2 W (n0.grown hg) (n1.grown hg)).mono fun e w' h => h.vn Hb.out
  intro vals W hg hR hap
  obtain ⟨bb, e1, nb⟩ := hR 6 (by decide)
  clear hR hap
  simp only [putsN, atL, Act.put, List.getD_cons_zero, List.getD_cons_succ, List.setIfInBounds_toArray, List.set_cons_succ, List.set_cons_zero, e1]
  generalize vals 0 = q2_0
  generalize vals 1 = q2_1
  generalize vals 2 = q2_2
  generalize vals 3 = q2_3
  generalize vals 4 = q2_4
  generalize vals 5 = q2_5
  clear e1 vals
  show wpAnyH _ _ _ _ _ 1 #[true, true, true, true, true, true, true, false] _ _
  refine wpAnyH_yieldD (some 6) (i := 7) (v := .slice (some ⟨bb, 0, none⟩) 16 16) (by kernel_rfl) rfl rfl rfl (by unfold execOp; go_simp) hg ?_
  simp only [Act.put, List.setIfInBounds_toArray, List.set_cons_succ, List.set_cons_zero]
  refine wpAnyH_done (by kernel_rfl) ?_ _
  replace hu := hu.grown hg
  replace n0 := n0.grown hg
  replace n1 := n1.grown hg
  replace n2 := n2.grown hg
  replace n3 := n3.grown hg
  replace na := na.grown hg
  replace c0 := hg.cell c0 (by simp)
  replace c1 := hg.cell c1 (by simp)
  replace c2 := hg.cell c2 (by simp)
  replace c3 := hg.cell c3 (by simp)
  replace gr := grown_trans gr hg
  obtain ⟨V2, hV⟩ : ∃ V, V = W := ⟨_, rfl⟩
  subst hV
  clear hg V1
  go_upto_region 3 with fail
  refine wp_region_rel_all (fun W => V2.grownBy W none) (fun _ h => h) (alL []) (relL [fun vv _ => vv = .slice (some ⟨g, 0, none⟩) 4 4, fun vv _ => vv = .pointer (some ⟨g, 2, none⟩), fun vv _ => vv = .slice (some ⟨b2, 0, none⟩) 16 16, fun vv _ => vv = .slice (some ⟨g, 0, none⟩) 4 4, fun vv _ => vv = .pointer (some ⟨g, 3, none⟩), fun vv _ => vv = .slice (some ⟨b3, 0, none⟩) 16 16, NumV vt1, fun vv _ => vv = .slice (some ⟨ba, 0, none⟩) 16 16, NumV vda])
    9 1 (atL [29, 30, 31, 32, 33, 34, 35, 36, 37]) (depL [[], [0], [1], [], [3], [4], [2, 5], [], [6, 7]]) (by kernel_rfl) rfl (by kernel_rfl) (by kernel_rfl) (by kernel_rfl) (by decide) (by kernel_rfl) 82 rfl (by decide) (by decide) (by decide) ?mono3 ?al3 ?step3 ?fin3
  case mono3 =>
    intro k x W W' hk h g
    obtain rfl | rfl | rfl | rfl | rfl | rfl | rfl | rfl | rfl : k = 0 ∨ k = 1 ∨ k = 2 ∨ k = 3 ∨ k = 4 ∨ k = 5 ∨ k = 6 ∨ k = 7 ∨ k = 8 := by omega
    · exact h
    · exact h
    · exact h
    · exact h
    · exact h
    · exact h
    · exact NumV.grown h g
    · exact h
    · exact NumV.grown h g
  case al3 =>
    intro k x W hk e h
    obtain rfl | rfl | rfl | rfl | rfl | rfl | rfl | rfl | rfl : k = 0 ∨ k = 1 ∨ k = 2 ∨ k = 3 ∨ k = 4 ∨ k = 5 ∨ k = 6 ∨ k = 7 ∨ k = 8 := by omega
    · exact absurd e (by decide)
    · exact absurd e (by decide)
    · exact absurd e (by decide)
    · exact absurd e (by decide)
    · exact absurd e (by decide)
    · exact absurd e (by decide)
    · exact absurd e (by decide)
    · exact absurd e (by decide)
    · exact absurd e (by decide)
  case step3 =>
    intro k hk
    obtain rfl | rfl | rfl | rfl | rfl | rfl | rfl | rfl | rfl : k = 0 ∨ k = 1 ∨ k = 2 ∨ k = 3 ∨ k = 4 ∨ k = 5 ∨ k = 6 ∨ k = 7 ∨ k = 8 := by omega
    · refine ⟨_, rfl, rfl, fun b W hs hg hD => ⟨wanted_of rfl, fun K hK0 => ?_⟩⟩
      have hK := fun v W' g h => hK0 v W' g h (fun e => absurd e (by decide))
      exact rel_move 1 rfl (hs 1 (by decide)) rfl hK
    · refine ⟨_, rfl, rfl, fun b W hs hg hD => ⟨wanted_of rfl, fun K hK0 => ?_⟩⟩
      have hK := fun v W' g h => hK0 v W' g h (fun e => absurd e (by decide))
      have h0 : b.tmps[29]?.getD undef = .slice (some ⟨g, 0, none⟩) 4 4 := (hD 0 (by decide))
      exact rel_val (v := .pointer (some ⟨g, 2, none⟩)) (by unfold execOp; go_simp) rfl hK
    · refine ⟨_, rfl, rfl, fun b W hs hg hD => ⟨wanted_of rfl, fun K hK0 => ?_⟩⟩
      have hK := fun v W' g h => hK0 v W' g h (fun e => absurd e (by decide))
      have h0 : b.tmps[30]?.getD undef = .pointer (some ⟨g, 2, none⟩) := (hD 1 (by decide))
      exact rel_val (v := .slice (some ⟨b2, 0, none⟩) 16 16) (run_numcell (hg.cell c2 (by simp)) rfl ((eval_slot b 30).trans h0)) rfl hK
    · refine ⟨_, rfl, rfl, fun b W hs hg hD => ⟨wanted_of rfl, fun K hK0 => ?_⟩⟩
      have hK := fun v W' g h => hK0 v W' g h (fun e => absurd e (by decide))
      exact rel_move 1 rfl (hs 1 (by decide)) rfl hK
    · refine ⟨_, rfl, rfl, fun b W hs hg hD => ⟨wanted_of rfl, fun K hK0 => ?_⟩⟩
      have hK := fun v W' g h => hK0 v W' g h (fun e => absurd e (by decide))
      have h0 : b.tmps[32]?.getD undef = .slice (some ⟨g, 0, none⟩) 4 4 := (hD 3 (by decide))
      exact rel_val (v := .pointer (some ⟨g, 3, none⟩)) (by unfold execOp; go_simp) rfl hK
    · refine ⟨_, rfl, rfl, fun b W hs hg hD => ⟨wanted_of rfl, fun K hK0 => ?_⟩⟩
      have hK := fun v W' g h => hK0 v W' g h (fun e => absurd e (by decide))
      have h0 : b.tmps[33]?.getD undef = .pointer (some ⟨g, 3, none⟩) := (hD 4 (by decide))
      exact rel_val (v := .slice (some ⟨b3, 0, none⟩) 16 16) (run_numcell (hg.cell c3 (by simp)) rfl ((eval_slot b 33).trans h0)) rfl hK
    · refine ⟨_, rfl, rfl, fun b W hs hg hD => ⟨wanted_of rfl, fun K hK0 => ?_⟩⟩
      have hK := fun v W' g h => hK0 v W' g h (fun e => absurd e (by decide))
      refine rel_call 12 _ (exec_fn2 _ _ _ _ _ rfl ((eval_slot b 31).trans (hD 2 (by decide))) ((eval_slot b 34).trans (hD 5 (by decide)))) (fun _ _ => rfl) ?_ hK
      exact (refSub_any b2 b3 X3 Z3 W (n2.grown hg) (n3.grown hg)).mono fun e w' h => h.vn Ht1.out
    · refine ⟨_, rfl, rfl, fun b W hs hg hD => ⟨wanted_of rfl, fun K hK0 => ?_⟩⟩
      have hK := fun v W' g h => hK0 v W' g h (fun e => absurd e (by decide))
      exact rel_move 5 rfl (hs 5 (by decide)) rfl hK
    · refine ⟨_, rfl, rfl, fun b W hs hg hD => ⟨wanted_of rfl, fun K hK0 => ?_⟩⟩
      have hK := fun v W' g h => hK0 v W' g h (fun e => absurd e (by decide))
      obtain ⟨bt, ht, nt⟩ := hD 6 (by decide)
      refine rel_call 14 _ (exec_fn2 _ _ _ _ _ rfl ((eval_slot b 35).trans ht) ((eval_slot b 36).trans (hD 7 (by decide)))) (fun _ _ => rfl) ?_ hK
      exact (refMul_any bt ba vt1 va W nt (na.grown hg)).mono fun e w' h => h.vn Hda.out
  intro vals W hg hR hap
  obtain ⟨bda, e1, nda⟩ := hR 8 (by decide)
  clear hR hap
  simp only [putsN, atL, Act.put, List.getD_cons_zero, List.getD_cons_succ, List.setIfInBounds_toArray, List.set_cons_succ, List.set_cons_zero, e1]
  generalize vals 0 = q3_0
  generalize vals 1 = q3_1
  generalize vals 2 = q3_2
  generalize vals 3 = q3_3
  generalize vals 4 = q3_4
  generalize vals 5 = q3_5
  generalize vals 6 = q3_6
  generalize vals 7 = q3_7
  clear e1 vals
  show wpAnyH _ _ _ _ _ 1 #[true, true, true, true, true, true, true, true, true, false] _ _
  refine wpAnyH_yieldD (some 7) (i := 9) (v := .slice (some ⟨bda, 0, none⟩) 16 16) (by kernel_rfl) rfl rfl rfl (by unfold execOp; go_simp) hg ?_
  simp only [Act.put, List.setIfInBounds_toArray, List.set_cons_succ, List.set_cons_zero]
  refine wpAnyH_done (by kernel_rfl) ?_ _
  replace hu := hu.grown hg
  replace n0 := n0.grown hg
  replace n1 := n1.grown hg
  replace n2 := n2.grown hg
  replace n3 := n3.grown hg
  replace na := na.grown hg
  replace nb := nb.grown hg
  replace c0 := hg.cell c0 (by simp)
  replace c1 := hg.cell c1 (by simp)
  replace c2 := hg.cell c2 (by simp)
  replace c3 := hg.cell c3 (by simp)
  replace gr := grown_trans gr hg
  obtain ⟨V3, hV⟩ : ∃ V, V = W := ⟨_, rfl⟩
  subst hV
  clear hg V2
  go_upto_region 4 with fail
  refine wp_region_rel_all (fun W => V3.grownBy W none) (fun _ h => h) (alL []) (relL [fun vv _ => vv = .slice (some ⟨g, 0, none⟩) 4 4, fun vv _ => vv = .pointer (some ⟨g, 2, none⟩), fun vv _ => vv = .slice (some ⟨b2, 0, none⟩) 16 16, fun vv _ => vv = .slice (some ⟨g, 0, none⟩) 4 4, fun vv _ => vv = .pointer (some ⟨g, 3, none⟩), fun vv _ => vv = .slice (some ⟨b3, 0, none⟩) 16 16, NumV vt2, fun vv _ => vv = .slice (some ⟨bb, 0, none⟩) 16 16, NumV vcb])
    9 1 (atL [38, 39, 40, 41, 42, 43, 44, 45, 46]) (depL [[], [0], [1], [], [3], [4], [2, 5], [], [6, 7]]) (by kernel_rfl) rfl (by kernel_rfl) (by kernel_rfl) (by kernel_rfl) (by decide) (by kernel_rfl) 82 rfl (by decide) (by decide) (by decide) ?mono4 ?al4 ?step4 ?fin4
  case mono4 =>
    intro k x W W' hk h g
    obtain rfl | rfl | rfl | rfl | rfl | rfl | rfl | rfl | rfl : k = 0 ∨ k = 1 ∨ k = 2 ∨ k = 3 ∨ k = 4 ∨ k = 5 ∨ k = 6 ∨ k = 7 ∨ k = 8 := by omega
    · exact h
    · exact h
    · exact h
    · exact h
    · exact h
    · exact h
    · exact NumV.grown h g
    · exact h
    · exact NumV.grown h g
  case al4 =>
    intro k x W hk e h
    obtain rfl | rfl | rfl | rfl | rfl | rfl | rfl | rfl | rfl : k = 0 ∨ k = 1 ∨ k = 2 ∨ k = 3 ∨ k = 4 ∨ k = 5 ∨ k = 6 ∨ k = 7 ∨ k = 8 := by omega
    · exact absurd e (by decide)
    · exact absurd e (by decide)
    · exact absurd e (by decide)
    · exact absurd e (by decide)
    · exact absurd e (by decide)
    · exact absurd e (by decide)
    · exact absurd e (by decide)
    · exact absurd e (by decide)
    · exact absurd e (by decide)
  case step4 =>
    intro k hk
    obtain rfl | rfl | rfl | rfl | rfl | rfl | rfl | rfl | rfl : k = 0 ∨ k = 1 ∨ k = 2 ∨ k = 3 ∨ k = 4 ∨ k = 5 ∨ k = 6 ∨ k = 7 ∨ k = 8 := by omega
    · refine ⟨_, rfl, rfl, fun b W hs hg hD => ⟨wanted_of rfl, fun K hK0 => ?_⟩⟩
      have hK := fun v W' g h => hK0 v W' g h (fun e => absurd e (by decide))
      exact rel_move 1 rfl (hs 1 (by decide)) rfl hK
    · refine ⟨_, rfl, rfl, fun b W hs hg hD => ⟨wanted_of rfl, fun K hK0 => ?_⟩⟩
      have hK := fun v W' g h => hK0 v W' g h (fun e => absurd e (by decide))
      have h0 : b.tmps[38]?.getD undef = .slice (some ⟨g, 0, none⟩) 4 4 := (hD 0 (by decide))
      exact rel_val (v := .pointer (some ⟨g, 2, none⟩)) (by unfold execOp; go_simp) rfl hK
    · refine ⟨_, rfl, rfl, fun b W hs hg hD => ⟨wanted_of rfl, fun K hK0 => ?_⟩⟩
      have hK := fun v W' g h => hK0 v W' g h (fun e => absurd e (by decide))
      have h0 : b.tmps[39]?.getD undef = .pointer (some ⟨g, 2, none⟩) := (hD 1 (by decide))
      exact rel_val (v := .slice (some ⟨b2, 0, none⟩) 16 16) (run_numcell (hg.cell c2 (by simp)) rfl ((eval_slot b 39).trans h0)) rfl hK
    · refine ⟨_, rfl, rfl, fun b W hs hg hD => ⟨wanted_of rfl, fun K hK0 => ?_⟩⟩
      have hK := fun v W' g h => hK0 v W' g h (fun e => absurd e (by decide))
      exact rel_move 1 rfl (hs 1 (by decide)) rfl hK
    · refine ⟨_, rfl, rfl, fun b W hs hg hD => ⟨wanted_of rfl, fun K hK0 => ?_⟩⟩
      have hK := fun v W' g h => hK0 v W' g h (fun e => absurd e (by decide))
      have h0 : b.tmps[41]?.getD undef = .slice (some ⟨g, 0, none⟩) 4 4 := (hD 3 (by decide))
      exact rel_val (v := .pointer (some ⟨g, 3, none⟩)) (by unfold execOp; go_simp) rfl hK
    · refine ⟨_, rfl, rfl, fun b W hs hg hD => ⟨wanted_of rfl, fun K hK0 => ?_⟩⟩
      have hK := fun v W' g h => hK0 v W' g h (fun e => absurd e (by decide))
      have h0 : b.tmps[42]?.getD undef = .pointer (some ⟨g, 3, none⟩) := (hD 4 (by decide))
      exact rel_val (v := .slice (some ⟨b3, 0, none⟩) 16 16) (run_numcell (hg.cell c3 (by simp)) rfl ((eval_slot b 42).trans h0)) rfl hK
    · refine ⟨_, rfl, rfl, fun b W hs hg hD => ⟨wanted_of rfl, fun K hK0 => ?_⟩⟩
      have hK := fun v W' g h => hK0 v W' g h (fun e => absurd e (by decide))
      refine rel_call 10 _ (exec_fn2 _ _ _ _ _ rfl ((eval_slot b 40).trans (hD 2 (by decide))) ((eval_slot b 43).trans (hD 5 (by decide)))) (fun _ _ => rfl) ?_ hK
      exact (refAdd_any b2 b3 X3 Z3 W (n2.grown hg) (n3.grown hg)).mono fun e w' h => h.vn Ht2.out
    · refine ⟨_, rfl, rfl, fun b W hs hg hD => ⟨wanted_of rfl, fun K hK0 => ?_⟩⟩
      have hK := fun v W' g h => hK0 v W' g h (fun e => absurd e (by decide))
      exact rel_move 6 rfl (hs 6 (by decide)) rfl hK
    · refine ⟨_, rfl, rfl, fun b W hs hg hD => ⟨wanted_of rfl, fun K hK0 => ?_⟩⟩
      have hK := fun v W' g h => hK0 v W' g h (fun e => absurd e (by decide))
      obtain ⟨bt, ht, nt⟩ := hD 6 (by decide)
      refine rel_call 14 _ (exec_fn2 _ _ _ _ _ rfl ((eval_slot b 44).trans ht) ((eval_slot b 45).trans (hD 7 (by decide)))) (fun _ _ => rfl) ?_ hK
      exact (refMul_any bt bb vt2 vb W nt (nb.grown hg)).mono fun e w' h => h.vn Hcb.out
  intro vals W hg hR hap
  obtain ⟨bcb, e1, ncb⟩ := hR 8 (by decide)
  clear hR hap
  simp only [putsN, atL, Act.put, List.getD_cons_zero, List.getD_cons_succ, List.setIfInBounds_toArray, List.set_cons_succ, List.set_cons_zero, e1]
  generalize vals 0 = q4_0
  generalize vals 1 = q4_1
  generalize vals 2 = q4_2
  generalize vals 3 = q4_3
  generalize vals 4 = q4_4
  generalize vals 5 = q4_5
  generalize vals 6 = q4_6
  generalize vals 7 = q4_7
  clear e1 vals
  show wpAnyH _ _ _ _ _ 1 #[true, true, true, true, true, true, true, true, true, false] _ _
  refine wpAnyH_yieldD (some 8) (i := 9) (v := .slice (some ⟨bcb, 0, none⟩) 16 16) (by kernel_rfl) rfl rfl rfl (by unfold execOp; go_simp) hg ?_
  simp only [Act.put, List.setIfInBounds_toArray, List.set_cons_succ, List.set_cons_zero]
  refine wpAnyH_done (by kernel_rfl) ?_ _
  replace hu := hu.grown hg
  replace n0 := n0.grown hg
  replace n1 := n1.grown hg
  replace n2 := n2.grown hg
  replace n3 := n3.grown hg
  replace na := na.grown hg
  replace nb := nb.grown hg
  replace nda := nda.grown hg
  replace c0 := hg.cell c0 (by simp)
  replace c1 := hg.cell c1 (by simp)
  replace c2 := hg.cell c2 (by simp)
  replace c3 := hg.cell c3 (by simp)
  replace gr := grown_trans gr hg
  obtain ⟨V4, hV⟩ : ∃ V, V = W := ⟨_, rfl⟩
  subst hV
  clear hg V3
  clear c0 c1 c2 c3 n0 n1 n2 n3
  go_wp2_with fail
  go_at_call 14
  refine (refMul_any ba ba va va _ na na).mono ?_
  intro e V5 h
  obtain ⟨x, rfl, g0, baa, rfl, naa⟩ := h.vn Haa.out
  replace hu := hu.grown g0
  replace na := na.grown g0
  replace nb := nb.grown g0
  replace nda := nda.grown g0
  replace ncb := ncb.grown g0
  replace gr := grown_trans gr g0
  clear h g0
  clear na
  go_wp2_with fail
  go_at_call 14
  refine (refMul_any bb bb vb vb _ nb nb).mono ?_
  intro e V6 h
  obtain ⟨x, rfl, g0, bbb, rfl, nbb⟩ := h.vn Hbb.out
  replace hu := hu.grown g0
  replace nb := nb.grown g0
  replace nda := nda.grown g0
  replace ncb := ncb.grown g0
  replace naa := naa.grown g0
  replace gr := grown_trans gr g0
  clear h g0
  clear nb
  go_wp2_with fail
  go_at_call 12
  refine (refSub_any baa bbb vaa vbb _ naa nbb).mono ?_
  intro e V7 h
  obtain ⟨x, rfl, g0, be, rfl, ne⟩ := h.vn He.out
  replace hu := hu.grown g0
  replace nda := nda.grown g0
  replace ncb := ncb.grown g0
  replace naa := naa.grown g0
  replace nbb := nbb.grown g0
  replace gr := grown_trans gr g0
  clear h g0
  go_wp2_with fail
  go_at_call 10
  refine (refAdd_any bda bcb vda vcb _ nda ncb).mono ?_
  intro e V8 h
  obtain ⟨x, rfl, g0, bs, rfl, ns⟩ := h.vn Hs.out
  replace hu := hu.grown g0
  replace nda := nda.grown g0
  replace ncb := ncb.grown g0
  replace naa := naa.grown g0
  replace nbb := nbb.grown g0
  replace ne := ne.grown g0
  replace gr := grown_trans gr g0
  clear h g0
  go_wp2_with fail
  go_at_call 12
  refine (refSub_any bda bcb vda vcb _ nda ncb).mono ?_
  intro e V9 h
  obtain ⟨x, rfl, g0, bd, rfl, nd⟩ := h.vn Hd.out
  replace hu := hu.grown g0
  replace nda := nda.grown g0
  replace ncb := ncb.grown g0
  replace naa := naa.grown g0
  replace nbb := nbb.grown g0
  replace ne := ne.grown g0
  replace ns := ns.grown g0
  replace gr := grown_trans gr g0
  clear h g0
  clear nda ncb
  go_wp2_with fail
  go_at_call 16
  refine (HS.out _).mono ?_
  intro e VS h
  obtain ⟨x, rfl, g0, bsm, rfl, nsm⟩ := (h.num HP.out).v
  replace hu := hu.grown g0
  replace naa := naa.grown g0
  replace nbb := nbb.grown g0
  replace ne := ne.grown g0
  replace ns := ns.grown g0
  replace nd := nd.grown g0
  replace gr := grown_trans gr g0
  clear h g0
  go_wp2_with fail
  go_at_call 14
  refine (refMul_any be bsm ve 121665 _ ne nsm).mono ?_
  intro e V11 h
  obtain ⟨x, rfl, g0, bme, rfl, nme⟩ := h.vn Hme.out
  replace hu := hu.grown g0
  replace naa := naa.grown g0
  replace nbb := nbb.grown g0
  replace ne := ne.grown g0
  replace ns := ns.grown g0
  replace nd := nd.grown g0
  replace nsm := nsm.grown g0
  replace gr := grown_trans gr g0
  clear h g0
  clear nsm
  go_wp2_with fail
  go_at_call 10
  refine (refAdd_any baa bme vaa vme _ naa nme).mono ?_
  intro e V12 h
  obtain ⟨x, rfl, g0, bz, rfl, nz⟩ := h.vn Hz.out
  replace hu := hu.grown g0
  replace naa := naa.grown g0
  replace nbb := nbb.grown g0
  replace ne := ne.grown g0
  replace ns := ns.grown g0
  replace nd := nd.grown g0
  replace nme := nme.grown g0
  replace gr := grown_trans gr g0
  clear h g0
  clear nme
  go_wp2_with fail
  go_at_call 14
  refine (refMul_any baa bbb vaa vbb _ naa nbb).mono ?_
  intro e V13 h
  obtain ⟨x, rfl, g0, bo1, rfl, no1⟩ := h.vn Ho1.out
  replace hu := hu.grown g0
  replace naa := naa.grown g0
  replace nbb := nbb.grown g0
  replace ne := ne.grown g0
  replace ns := ns.grown g0
  replace nd := nd.grown g0
  replace nz := nz.grown g0
  replace gr := grown_trans gr g0
  clear h g0
  clear naa nbb
  go_wp2_with fail
  go_at_call 14
  refine (refMul_any be bz ve vz _ ne nz).mono ?_
  intro e V14 h
  obtain ⟨x, rfl, g0, bo2, rfl, no2⟩ := h.vn Ho2.out
  replace hu := hu.grown g0
  replace ne := ne.grown g0
  replace ns := ns.grown g0
  replace nd := nd.grown g0
  replace nz := nz.grown g0
  replace no1 := no1.grown g0
  replace gr := grown_trans gr g0
  clear h g0
  clear ne nz
  go_wp2_with fail
  go_at_call 14
  refine (refMul_any bs bs vs vs _ ns ns).mono ?_
  intro e V15 h
  obtain ⟨x, rfl, g0, bo3, rfl, no3⟩ := h.vn Ho3.out
  replace hu := hu.grown g0
  replace ns := ns.grown g0
  replace nd := nd.grown g0
  replace no1 := no1.grown g0
  replace no2 := no2.grown g0
  replace gr := grown_trans gr g0
  clear h g0
  clear ns
  go_wp2_with fail
  go_at_call 14
  refine (refMul_any bd bd vd vd _ nd nd).mono ?_
  intro e V16 h
  obtain ⟨x, rfl, g0, bdd, rfl, ndd⟩ := h.vn Hdd.out
  replace hu := hu.grown g0
  replace nd := nd.grown g0
  replace no1 := no1.grown g0
  replace no2 := no2.grown g0
  replace no3 := no3.grown g0
  replace gr := grown_trans gr g0
  clear h g0
  clear nd
  go_wp2_with fail
  go_at_call 14
  refine (refMul_any bu bdd U vdd _ hu ndd).mono ?_
  intro e V17 h
  obtain ⟨x, rfl, g0, bo4, rfl, no4⟩ := h.vn Ho4.out
  replace hu := hu.grown g0
  replace no1 := no1.grown g0
  replace no2 := no2.grown g0
  replace no3 := no3.grown g0
  replace ndd := ndd.grown g0
  replace gr := grown_trans gr g0
  clear h g0
  clear hu ndd
  have hN := L4.new (l := ⟨vo1, vo2, vo3, vo4⟩) no1 no2 no3 no4
  have gN := grown_alloc gr (.cells #[.slice (some ⟨bo1, 0, none⟩) 16 16, .slice (some ⟨bo2, 0, none⟩) 16 16, .slice (some ⟨bo3, 0, none⟩) 16 16, .slice (some ⟨bo4, 0, none⟩) 16 16] 31)
  have HN := Lib.hid hN
  have GN := Lib.hid gN
  clear hN gN no1 no2 no3 no4 gr
  go_wp2_with fail
  go_ret
  exact ⟨_, rfl, GN.out, _, bo1, bo2, bo3, bo4, rfl, HN.out⟩
end Go.Proofs.Ytpnddojcihdniaa
namespace Go.Proofs.Ytpnddojcihdniaa
open Go.RowKit Go.Shelf

set_option maxRecDepth 100000
set_option maxHeartbeats 4000000

theorem Lad.bit_one (u : Nat) (l : Lad) (b : Nat) (h : b = 1) : l.bit u b = (l.swap.step u).swap := if_pos h
theorem Lad.bit_other (u : Nat) (l : Lad) (b : Nat) (h : b ≠ 1) : l.bit u b = l.step u := if_neg h

theorem refTimes_any (f : Nat → Nat) (hf : ∀ i, f i < 256) (tb o c bu U : Nat) (w : World) (hb : At32 w tb o f) (hu : NumAt w bu U) :
    Calls Try.prog 42 #[.slice (some ⟨tb, o, none⟩) 32 c, .slice (some ⟨bu, 0, none⟩) 16 16] w fun e w' => ∃ v, e = .returned v ∧ w.grownBy w' none ∧ BytesAt (lim 8 (timesF (clampF f) U)) v w' := by
  have HC := Lib.hid (refClamp_any f hf tb o c w hb)
  have hcl := clampF_lt f hf
  obtain ⟨n, hn⟩ : ∃ n, n = clampF f := ⟨_, rfl⟩
  rw [← hn] at HC hcl ⊢
  have HN := Lib.hid hcl
  have H1 := Lib.hid (refSmall_any 1 (by decide))
  have H0 := Lib.hid (refSmall_any 0 (by decide))
  have P1 := Lib.hid (show 1 < pF by decide)
  have P0 := Lib.hid (show 0 < pF by decide)
  obtain ⟨bt, hbt⟩ : ∃ b, b = ldB n := ⟨_, rfl⟩
  obtain ⟨t, ht⟩ : ∃ t, t = lim 8 (timesF n U) := ⟨_, rfl⟩
  rw [← ht]
  have HT := Lib.hid ht
  have HBt := Lib.hid hbt
  clear hn hcl hb hf hbt ht
  go_enter Try.func42, Try.ntmps42
  go_wp2_with fail
  go_at_call 24
  refine HC.out.mono ?_
  rintro e V1 ⟨v, rfl, hv, g1⟩
  rcases hv.ex with ⟨_, h⟩ | ⟨gn, cn, rfl, hO, _⟩
  · cases h
  replace hu := hu.grown g1
  clear hv HC
  go_wp2_with fail
  go_at_call 16
  refine (H1.out _).mono ?_
  intro e V2 h
  obtain ⟨x, rfl, g0, b0, rfl, n0⟩ := (h.num P1.out).v
  replace hu := hu.grown g0
  replace hO := hO.grown g0 (by simp)
  replace g1 := grown_trans g1 g0
  clear h g0
  go_wp2_with fail
  go_at_call 16
  refine (H0.out _).mono ?_
  intro e V3 h
  obtain ⟨x, rfl, g0, b1, rfl, n1⟩ := (h.num P0.out).v
  replace hu := hu.grown g0
  replace n0 := n0.grown g0
  replace hO := hO.grown g0 (by simp)
  replace g1 := grown_trans g1 g0
  clear h g0
  go_wp2_with fail
  go_at_call 16
  refine (H1.out _).mono ?_
  intro e V4 h
  obtain ⟨x, rfl, g0, b3, rfl, n3⟩ := (h.num P1.out).v
  replace hu := hu.grown g0
  replace n0 := n0.grown g0
  replace n1 := n1.grown g0
  replace hO := hO.grown g0 (by simp)
  replace g1 := grown_trans g1 g0
  clear h g0
  have hN := L4.new (l := ⟨1, 0, U, 1⟩) n0 n1 hu n3
  have gN := World.grownBy_alloc V4 (.cells #[.slice (some ⟨b0, 0, none⟩) 16 16, .slice (some ⟨b1, 0, none⟩) 16 16, .slice (some ⟨bu, 0, none⟩) 16 16, .slice (some ⟨b3, 0, none⟩) 16 16] 31) none
  replace hu := hu.grown gN
  replace hO := hO.grown gN (by simp)
  replace g1 := grown_trans g1 gN
  have HN4 := Lib.hid hN
  clear n0 n1 n3 gN hN H1 H0 P1 P0
  go_wp2_with fail
  generalize V4.alloc (.cells #[.slice (some ⟨b0, 0, none⟩) 16 16, .slice (some ⟨b1, 0, none⟩) 16 16, .slice (some ⟨bu, 0, none⟩) 16 16, .slice (some ⟨b3, 0, none⟩) 16 16] 31) = V5 at *
  generalize V4.heap.size = gl at *
  clear V1 V2 V3 V4
  go_loopw [6, 7] (fun u6 u7 wr => ∃ k : Nat, k ≤ 255 ∧ u7 = .int .i64 (254 - (k : Int)) ∧ LV (ladF U bt (List.range k)) u6 wr ∧ V5.grownBy wr none) (fun _ u7 _ => (intOf u7 + 1).toNat)
  case atStart => exact ⟨0, by omega, rfl, ⟨gl, b0, b1, bu, b3, rfl, HN4.out⟩, grown_refl V5 none⟩
  case round =>
    clear HN4
    obtain ⟨k, hk, rfl, ⟨g, d0, d1, d2, d3, rfl, hL⟩, hgr⟩ := hrel
    replace hu := hu.grown hgr
    replace hO := hO.grown hgr (by simp)
    replace g1 := grown_trans g1 hgr
    obtain ⟨l, hl⟩ : ∃ l, l = ladF U bt (List.range k) := ⟨_, rfl⟩
    rw [← hl] at hL
    obtain ⟨X2, Z2, X3, Z3⟩ := l
    have c0 := hL.c0
    have c1 := hL.c1
    have c2 := hL.c2
    have c3 := hL.c3
    have n0 : NumAt wr d0 X2 := hL.n0
    have n1 : NumAt wr d1 Z2 := hL.n1
    have n2 : NumAt wr d2 X3 := hL.n2
    have n3 : NumAt wr d3 Z3 := hL.n3
    by_cases hlt : k < 255
    · obtain ⟨m, hm⟩ : ∃ m, m = 254 - k := ⟨_, rfl⟩
      have em : 254 - (k : Int) = (m : Int) := by omega
      rw [em]
      have j1 : (m : Int) < 255 := by omega
      have hsn := ladF_snoc U bt (List.range k) k
      rw [← List.range_succ, ← hl] at hsn
      have hbit := refBit_any n HN.out gn cn m wr (by omega) hO
      have hbk : byBit n m = bt k := by rw [HBt.out, hm]; rfl
      rw [hbk] at hbit
      have HBI := Lib.hid hbit
      have Hm := Lib.hid hm
      have Hk := Lib.hid hlt
      have HL := Lib.hid hL
      clear em hm hlt hbit hbk hl hL hO hk
      by_cases hb1 : bt k = 1
      · have hb2 := Lad.bit_one U ⟨X2, Z2, X3, Z3⟩ (bt k) hb1
        rw [← hsn] at hb2
        have HS := Lib.hid hb2
        clear hsn hb2
        generalize bt k = y at *
        have jb : ((y : Int) == 1) = true := by rw [beq_iff_eq]; omega
        clear hb1
        obtain ⟨q, hq⟩ : ∃ q, q = Lad.step U ⟨X3, Z3, X2, Z2⟩ := ⟨_, rfl⟩
        have HQ := Lib.hid hq
        clear hq
        go_wp2_with fail
        go_at_call 50
        refine HBI.out.mono ?_
        rintro e V ⟨rfl, rfl⟩
        go_wp2_with fail
        refine wp_region_rel_all (fun W => wr.grownBy W none) (fun _ h => h) (alL []) (relL [fun vv _ => vv = .slice (some ⟨bu, 0, none⟩) 16 16, fun vv _ => vv = .slice (some ⟨g, 0, none⟩) 4 4, fun vv _ => vv = .pointer (some ⟨g, 2, none⟩), fun vv _ => vv = .slice (some ⟨d2, 0, none⟩) 16 16, fun vv _ => vv = .slice (some ⟨g, 0, none⟩) 4 4, fun vv _ => vv = .pointer (some ⟨g, 3, none⟩), fun vv _ => vv = .slice (some ⟨d3, 0, none⟩) 16 16, fun vv _ => vv = .slice (some ⟨g, 0, none⟩) 4 4, fun vv _ => vv = .pointer (some ⟨g, 0, none⟩), fun vv _ => vv = .slice (some ⟨d0, 0, none⟩) 16 16, fun vv _ => vv = .slice (some ⟨g, 0, none⟩) 4 4, fun vv _ => vv = .pointer (some ⟨g, 1, none⟩), fun vv _ => vv = .slice (some ⟨d1, 0, none⟩) 16 16, LV ⟨X3, Z3, X2, Z2⟩, LV q])
          15 1 (atL [24, 25, 26, 27, 28, 29, 30, 31, 32, 33, 34, 35, 36, 37, 38]) (depL [[], [], [1], [2], [], [4], [5], [], [7], [8], [], [10], [11], [3, 6, 9, 12], [0, 13]]) (by kernel_rfl) rfl (by kernel_rfl) (by kernel_rfl) (by kernel_rfl) (by decide) (by kernel_rfl) 64 rfl (by decide) (by decide) (by decide) ?mono7 ?al7 ?step7 ?fin7
        case mono7 =>
          intro k x W W' hk h g
          obtain rfl | rfl | rfl | rfl | rfl | rfl | rfl | rfl | rfl | rfl | rfl | rfl | rfl | rfl | rfl : k = 0 ∨ k = 1 ∨ k = 2 ∨ k = 3 ∨ k = 4 ∨ k = 5 ∨ k = 6 ∨ k = 7 ∨ k = 8 ∨ k = 9 ∨ k = 10 ∨ k = 11 ∨ k = 12 ∨ k = 13 ∨ k = 14 := by omega
          · exact h
          · exact h
          · exact h
          · exact h
          · exact h
          · exact h
          · exact h
          · exact h
          · exact h
          · exact h
          · exact h
          · exact h
          · exact h
          · exact LV.grown h g
          · exact LV.grown h g
        case al7 =>
          intro k x W hk e h
          obtain rfl | rfl | rfl | rfl | rfl | rfl | rfl | rfl | rfl | rfl | rfl | rfl | rfl | rfl | rfl : k = 0 ∨ k = 1 ∨ k = 2 ∨ k = 3 ∨ k = 4 ∨ k = 5 ∨ k = 6 ∨ k = 7 ∨ k = 8 ∨ k = 9 ∨ k = 10 ∨ k = 11 ∨ k = 12 ∨ k = 13 ∨ k = 14 := by omega
          · exact absurd e (by decide)
          · exact absurd e (by decide)
          · exact absurd e (by decide)
          · exact absurd e (by decide)
          · exact absurd e (by decide)
          · exact absurd e (by decide)
          · exact absurd e (by decide)
          · exact absurd e (by decide)
          · exact absurd e (by decide)
          · exact absurd e (by decide)
          · exact absurd e (by decide)
          · exact absurd e (by decide)
          · exact absurd e (by decide)
          · exact absurd e (by decide)
          · exact absurd e (by decide)
        case step7 =>
          intro k hk
          obtain rfl | rfl | rfl | rfl | rfl | rfl | rfl | rfl | rfl | rfl | rfl | rfl | rfl | rfl | rfl : k = 0 ∨ k = 1 ∨ k = 2 ∨ k = 3 ∨ k = 4 ∨ k = 5 ∨ k = 6 ∨ k = 7 ∨ k = 8 ∨ k = 9 ∨ k = 10 ∨ k = 11 ∨ k = 12 ∨ k = 13 ∨ k = 14 := by omega
          · refine ⟨_, rfl, rfl, fun b W hs hg hD => ⟨wanted_of rfl, fun K hK0 => ?_⟩⟩
            have hK := fun v W' g h => hK0 v W' g h (fun e => absurd e (by decide))
            exact rel_move 1 rfl (hs 1 (by decide)) rfl hK
          · refine ⟨_, rfl, rfl, fun b W hs hg hD => ⟨wanted_of rfl, fun K hK0 => ?_⟩⟩
            have hK := fun v W' g h => hK0 v W' g h (fun e => absurd e (by decide))
            exact rel_move 6 rfl (hs 6 (by decide)) rfl hK
          · refine ⟨_, rfl, rfl, fun b W hs hg hD => ⟨wanted_of rfl, fun K hK0 => ?_⟩⟩
            have hK := fun v W' g h => hK0 v W' g h (fun e => absurd e (by decide))
            have h0 : b.tmps[25]?.getD undef = .slice (some ⟨g, 0, none⟩) 4 4 := (hD 1 (by decide))
            exact rel_val (v := .pointer (some ⟨g, 2, none⟩)) (by unfold execOp; go_simp) rfl hK
          · refine ⟨_, rfl, rfl, fun b W hs hg hD => ⟨wanted_of rfl, fun K hK0 => ?_⟩⟩
            have hK := fun v W' g h => hK0 v W' g h (fun e => absurd e (by decide))
            have h0 : b.tmps[26]?.getD undef = .pointer (some ⟨g, 2, none⟩) := (hD 2 (by decide))
            exact rel_val (v := .slice (some ⟨d2, 0, none⟩) 16 16) (run_numcell (hg.cell c2 (by simp)) rfl ((eval_slot b 26).trans h0)) rfl hK
          · refine ⟨_, rfl, rfl, fun b W hs hg hD => ⟨wanted_of rfl, fun K hK0 => ?_⟩⟩
            have hK := fun v W' g h => hK0 v W' g h (fun e => absurd e (by decide))
            exact rel_move 6 rfl (hs 6 (by decide)) rfl hK
          · refine ⟨_, rfl, rfl, fun b W hs hg hD => ⟨wanted_of rfl, fun K hK0 => ?_⟩⟩
            have hK := fun v W' g h => hK0 v W' g h (fun e => absurd e (by decide))
            have h0 : b.tmps[28]?.getD undef = .slice (some ⟨g, 0, none⟩) 4 4 := (hD 4 (by decide))
            exact rel_val (v := .pointer (some ⟨g, 3, none⟩)) (by unfold execOp; go_simp) rfl hK
          · refine ⟨_, rfl, rfl, fun b W hs hg hD => ⟨wanted_of rfl, fun K hK0 => ?_⟩⟩
            have hK := fun v W' g h => hK0 v W' g h (fun e => absurd e (by decide))
            have h0 : b.tmps[29]?.getD undef = .pointer (some ⟨g, 3, none⟩) := (hD 5 (by decide))
            exact rel_val (v := .slice (some ⟨d3, 0, none⟩) 16 16) (run_numcell (hg.cell c3 (by simp)) rfl ((eval_slot b 29).trans h0)) rfl hK
          · refine ⟨_, rfl, rfl, fun b W hs hg hD => ⟨wanted_of rfl, fun K hK0 => ?_⟩⟩
            have hK := fun v W' g h => hK0 v W' g h (fun e => absurd e (by decide))
            exact rel_move 6 rfl (hs 6 (by decide)) rfl hK
          · refine ⟨_, rfl, rfl, fun b W hs hg hD => ⟨wanted_of rfl, fun K hK0 => ?_⟩⟩
            have hK := fun v W' g h => hK0 v W' g h (fun e => absurd e (by decide))
            have h0 : b.tmps[31]?.getD undef = .slice (some ⟨g, 0, none⟩) 4 4 := (hD 7 (by decide))
            exact rel_val (v := .pointer (some ⟨g, 0, none⟩)) (by unfold execOp; go_simp) rfl hK
          · refine ⟨_, rfl, rfl, fun b W hs hg hD => ⟨wanted_of rfl, fun K hK0 => ?_⟩⟩
            have hK := fun v W' g h => hK0 v W' g h (fun e => absurd e (by decide))
            have h0 : b.tmps[32]?.getD undef = .pointer (some ⟨g, 0, none⟩) := (hD 8 (by decide))
            exact rel_val (v := .slice (some ⟨d0, 0, none⟩) 16 16) (run_numcell (hg.cell c0 (by simp)) rfl ((eval_slot b 32).trans h0)) rfl hK
          · refine ⟨_, rfl, rfl, fun b W hs hg hD => ⟨wanted_of rfl, fun K hK0 => ?_⟩⟩
            have hK := fun v W' g h => hK0 v W' g h (fun e => absurd e (by decide))
            exact rel_move 6 rfl (hs 6 (by decide)) rfl hK
          · refine ⟨_, rfl, rfl, fun b W hs hg hD => ⟨wanted_of rfl, fun K hK0 => ?_⟩⟩
            have hK := fun v W' g h => hK0 v W' g h (fun e => absurd e (by decide))
            have h0 : b.tmps[34]?.getD undef = .slice (some ⟨g, 0, none⟩) 4 4 := (hD 10 (by decide))
            exact rel_val (v := .pointer (some ⟨g, 1, none⟩)) (by unfold execOp; go_simp) rfl hK
          · refine ⟨_, rfl, rfl, fun b W hs hg hD => ⟨wanted_of rfl, fun K hK0 => ?_⟩⟩
            have hK := fun v W' g h => hK0 v W' g h (fun e => absurd e (by decide))
            have h0 : b.tmps[35]?.getD undef = .pointer (some ⟨g, 1, none⟩) := (hD 11 (by decide))
            exact rel_val (v := .slice (some ⟨d1, 0, none⟩) 16 16) (run_numcell (hg.cell c1 (by simp)) rfl ((eval_slot b 35).trans h0)) rfl hK
          · refine ⟨_, rfl, rfl, fun b W hs hg hD => ⟨wanted_of rfl, fun K hK0 => ?_⟩⟩
            have hK := fun v W' g h => hK0 v W' g h (fun e => absurd e (by decide))
            have h0 : b.tmps[27]?.getD undef = .slice (some ⟨d2, 0, none⟩) 16 16 := (hD 3 (by decide))
            have h1 : b.tmps[30]?.getD undef = .slice (some ⟨d3, 0, none⟩) 16 16 := (hD 6 (by decide))
            have h2 : b.tmps[33]?.getD undef = .slice (some ⟨d0, 0, none⟩) 16 16 := (hD 9 (by decide))
            have h3 : b.tmps[36]?.getD undef = .slice (some ⟨d1, 0, none⟩) 16 16 := (hD 12 (by decide))
            exact wp_yields (run_build4 27 30 33 36 rfl ((eval_slot b 27).trans h0) ((eval_slot b 30).trans h1) ((eval_slot b 33).trans h2) ((eval_slot b 36).trans h3)) (hK _ _ (World.grownBy_alloc W _ none) ⟨_, d2, d3, d0, d1, rfl, L4.new (n2.grown hg) (n3.grown hg) (n0.grown hg) (n1.grown hg)⟩)
          · refine ⟨_, rfl, rfl, fun b W hs hg hD => ⟨wanted_of rfl, fun K hK0 => ?_⟩⟩
            have hK := fun v W' g h => hK0 v W' g h (fun e => absurd e (by decide))
            obtain ⟨g2, x0, x1, x2, x3, hx, hl⟩ := hD 13 (by decide)
            refine rel_call 51 _ (exec_fn2 _ _ _ _ _ rfl ((eval_slot b 24).trans (hD 0 (by decide))) ((eval_slot b 37).trans hx)) (fun _ _ => rfl) ?_ hK
            exact (refStep_any bu U g2 x0 x1 x2 x3 X3 Z3 X2 Z2 W (hu.grown hg) hl).mono fun e w' h => HQ.out ▸ h
        intro vals W hg hR hap
        obtain ⟨g3, x0, x1, x2, x3, e1, hM⟩ := hR 14 (by decide)
        clear hR hap
        simp only [putsN, atL, Act.put, List.getD_cons_zero, List.getD_cons_succ, List.setIfInBounds_toArray, List.set_cons_succ, List.set_cons_zero, e1]
        generalize vals 0 = q7_0
        generalize vals 1 = q7_1
        generalize vals 2 = q7_2
        generalize vals 3 = q7_3
        generalize vals 4 = q7_4
        generalize vals 5 = q7_5
        generalize vals 6 = q7_6
        generalize vals 7 = q7_7
        generalize vals 8 = q7_8
        generalize vals 9 = q7_9
        generalize vals 10 = q7_10
        generalize vals 11 = q7_11
        generalize vals 12 = q7_12
        generalize vals 13 = q7_13
        clear e1 vals
        show wpAnyH _ _ _ _ _ 1 #[true, true, true, true, true, true, true, true, true, true, true, true, true, true, true, false] _ _
        refine wpAnyH_yieldD (some 8) (i := 15) (v := .slice (some ⟨g3, 0, none⟩) 4 4) (by kernel_rfl) rfl rfl rfl (by unfold execOp; go_simp) hg ?_
        simp only [Act.put, List.setIfInBounds_toArray, List.set_cons_succ, List.set_cons_zero]
        refine wpAnyH_done (by kernel_rfl) ?_ _
        replace hgr := grown_trans hgr hg
        obtain ⟨Y2, W2, Y3, W3⟩ := q
        have k0 := hM.c0
        have k1 := hM.c1
        have k2 := hM.c2
        have k3 := hM.c3
        have m0 : NumAt W x0 Y2 := hM.n0
        have m1 : NumAt W x1 W2 := hM.n1
        have m2 : NumAt W x2 Y3 := hM.n2
        have m3 : NumAt W x3 W3 := hM.n3
        clear hM hg hu g1 c0 c1 c2 c3 n0 n1 n2 n3 HL HBI
        obtain ⟨V, hV⟩ : ∃ V, V = W := ⟨_, rfl⟩
        subst hV
        go_wp2_with fail
        refine wp_region_rel_all (fun W => V.grownBy W none) (fun _ h => h) (alL []) (relL [fun vv _ => vv = .slice (some ⟨g3, 0, none⟩) 4 4, fun vv _ => vv = .pointer (some ⟨g3, 2, none⟩), fun vv _ => vv = .slice (some ⟨x2, 0, none⟩) 16 16, fun vv _ => vv = .slice (some ⟨g3, 0, none⟩) 4 4, fun vv _ => vv = .pointer (some ⟨g3, 3, none⟩), fun vv _ => vv = .slice (some ⟨x3, 0, none⟩) 16 16, fun vv _ => vv = .slice (some ⟨g3, 0, none⟩) 4 4, fun vv _ => vv = .pointer (some ⟨g3, 0, none⟩), fun vv _ => vv = .slice (some ⟨x0, 0, none⟩) 16 16, fun vv _ => vv = .slice (some ⟨g3, 0, none⟩) 4 4, fun vv _ => vv = .pointer (some ⟨g3, 1, none⟩), fun vv _ => vv = .slice (some ⟨x1, 0, none⟩) 16 16, LV ⟨Y3, W3, Y2, W2⟩])
          13 1 (atL [39, 40, 41, 42, 43, 44, 45, 46, 47, 48, 49, 50, 51]) (depL [[], [0], [1], [], [3], [4], [], [6], [7], [], [9], [10], [2, 5, 8, 11]]) (by kernel_rfl) rfl (by kernel_rfl) (by kernel_rfl) (by kernel_rfl) (by decide) (by kernel_rfl) 64 rfl (by decide) (by decide) (by decide) ?mono8 ?al8 ?step8 ?fin8
        case mono8 =>
          intro k x W W' hk h g
          obtain rfl | rfl | rfl | rfl | rfl | rfl | rfl | rfl | rfl | rfl | rfl | rfl | rfl : k = 0 ∨ k = 1 ∨ k = 2 ∨ k = 3 ∨ k = 4 ∨ k = 5 ∨ k = 6 ∨ k = 7 ∨ k = 8 ∨ k = 9 ∨ k = 10 ∨ k = 11 ∨ k = 12 := by omega
          · exact h
          · exact h
          · exact h
          · exact h
          · exact h
          · exact h
          · exact h
          · exact h
          · exact h
          · exact h
          · exact h
          · exact h
          · exact LV.grown h g
        case al8 =>
          intro k x W hk e h
          obtain rfl | rfl | rfl | rfl | rfl | rfl | rfl | rfl | rfl | rfl | rfl | rfl | rfl : k = 0 ∨ k = 1 ∨ k = 2 ∨ k = 3 ∨ k = 4 ∨ k = 5 ∨ k = 6 ∨ k = 7 ∨ k = 8 ∨ k = 9 ∨ k = 10 ∨ k = 11 ∨ k = 12 := by omega
          · exact absurd e (by decide)
          · exact absurd e (by decide)
          · exact absurd e (by decide)
          · exact absurd e (by decide)
          · exact absurd e (by decide)
          · exact absurd e (by decide)
          · exact absurd e (by decide)
          · exact absurd e (by decide)
          · exact absurd e (by decide)
          · exact absurd e (by decide)
          · exact absurd e (by decide)
          · exact absurd e (by decide)
          · exact absurd e (by decide)
        case step8 =>
          intro k hk
          obtain rfl | rfl | rfl | rfl | rfl | rfl | rfl | rfl | rfl | rfl | rfl | rfl | rfl : k = 0 ∨ k = 1 ∨ k = 2 ∨ k = 3 ∨ k = 4 ∨ k = 5 ∨ k = 6 ∨ k = 7 ∨ k = 8 ∨ k = 9 ∨ k = 10 ∨ k = 11 ∨ k = 12 := by omega
          · refine ⟨_, rfl, rfl, fun b W hs hg hD => ⟨wanted_of rfl, fun K hK0 => ?_⟩⟩
            have hK := fun v W' g h => hK0 v W' g h (fun e => absurd e (by decide))
            exact rel_move 8 rfl (hs 8 (by decide)) rfl hK
          · refine ⟨_, rfl, rfl, fun b W hs hg hD => ⟨wanted_of rfl, fun K hK0 => ?_⟩⟩
            have hK := fun v W' g h => hK0 v W' g h (fun e => absurd e (by decide))
            have h0 : b.tmps[39]?.getD undef = .slice (some ⟨g3, 0, none⟩) 4 4 := (hD 0 (by decide))
            exact rel_val (v := .pointer (some ⟨g3, 2, none⟩)) (by unfold execOp; go_simp) rfl hK
          · refine ⟨_, rfl, rfl, fun b W hs hg hD => ⟨wanted_of rfl, fun K hK0 => ?_⟩⟩
            have hK := fun v W' g h => hK0 v W' g h (fun e => absurd e (by decide))
            have h0 : b.tmps[40]?.getD undef = .pointer (some ⟨g3, 2, none⟩) := (hD 1 (by decide))
            exact rel_val (v := .slice (some ⟨x2, 0, none⟩) 16 16) (run_numcell (hg.cell k2 (by simp)) rfl ((eval_slot b 40).trans h0)) rfl hK
          · refine ⟨_, rfl, rfl, fun b W hs hg hD => ⟨wanted_of rfl, fun K hK0 => ?_⟩⟩
            have hK := fun v W' g h => hK0 v W' g h (fun e => absurd e (by decide))
            exact rel_move 8 rfl (hs 8 (by decide)) rfl hK
          · refine ⟨_, rfl, rfl, fun b W hs hg hD => ⟨wanted_of rfl, fun K hK0 => ?_⟩⟩
            have hK := fun v W' g h => hK0 v W' g h (fun e => absurd e (by decide))
            have h0 : b.tmps[42]?.getD undef = .slice (some ⟨g3, 0, none⟩) 4 4 := (hD 3 (by decide))
            exact rel_val (v := .pointer (some ⟨g3, 3, none⟩)) (by unfold execOp; go_simp) rfl hK
          · refine ⟨_, rfl, rfl, fun b W hs hg hD => ⟨wanted_of rfl, fun K hK0 => ?_⟩⟩
            have hK := fun v W' g h => hK0 v W' g h (fun e => absurd e (by decide))
            have h0 : b.tmps[43]?.getD undef = .pointer (some ⟨g3, 3, none⟩) := (hD 4 (by decide))
            exact rel_val (v := .slice (some ⟨x3, 0, none⟩) 16 16) (run_numcell (hg.cell k3 (by simp)) rfl ((eval_slot b 43).trans h0)) rfl hK
          · refine ⟨_, rfl, rfl, fun b W hs hg hD => ⟨wanted_of rfl, fun K hK0 => ?_⟩⟩
            have hK := fun v W' g h => hK0 v W' g h (fun e => absurd e (by decide))
            exact rel_move 8 rfl (hs 8 (by decide)) rfl hK
          · refine ⟨_, rfl, rfl, fun b W hs hg hD => ⟨wanted_of rfl, fun K hK0 => ?_⟩⟩
            have hK := fun v W' g h => hK0 v W' g h (fun e => absurd e (by decide))
            have h0 : b.tmps[45]?.getD undef = .slice (some ⟨g3, 0, none⟩) 4 4 := (hD 6 (by decide))
            exact rel_val (v := .pointer (some ⟨g3, 0, none⟩)) (by unfold execOp; go_simp) rfl hK
          · refine ⟨_, rfl, rfl, fun b W hs hg hD => ⟨wanted_of rfl, fun K hK0 => ?_⟩⟩
            have hK := fun v W' g h => hK0 v W' g h (fun e => absurd e (by decide))
            have h0 : b.tmps[46]?.getD undef = .pointer (some ⟨g3, 0, none⟩) := (hD 7 (by decide))
            exact rel_val (v := .slice (some ⟨x0, 0, none⟩) 16 16) (run_numcell (hg.cell k0 (by simp)) rfl ((eval_slot b 46).trans h0)) rfl hK
          · refine ⟨_, rfl, rfl, fun b W hs hg hD => ⟨wanted_of rfl, fun K hK0 => ?_⟩⟩
            have hK := fun v W' g h => hK0 v W' g h (fun e => absurd e (by decide))
            exact rel_move 8 rfl (hs 8 (by decide)) rfl hK
          · refine ⟨_, rfl, rfl, fun b W hs hg hD => ⟨wanted_of rfl, fun K hK0 => ?_⟩⟩
            have hK := fun v W' g h => hK0 v W' g h (fun e => absurd e (by decide))
            have h0 : b.tmps[48]?.getD undef = .slice (some ⟨g3, 0, none⟩) 4 4 := (hD 9 (by decide))
            exact rel_val (v := .pointer (some ⟨g3, 1, none⟩)) (by unfold execOp; go_simp) rfl hK
          · refine ⟨_, rfl, rfl, fun b W hs hg hD => ⟨wanted_of rfl, fun K hK0 => ?_⟩⟩
            have hK := fun v W' g h => hK0 v W' g h (fun e => absurd e (by decide))
            have h0 : b.tmps[49]?.getD undef = .pointer (some ⟨g3, 1, none⟩) := (hD 10 (by decide))
            exact rel_val (v := .slice (some ⟨x1, 0, none⟩) 16 16) (run_numcell (hg.cell k1 (by simp)) rfl ((eval_slot b 49).trans h0)) rfl hK
          · refine ⟨_, rfl, rfl, fun b W hs hg hD => ⟨wanted_of rfl, fun K hK0 => ?_⟩⟩
            have hK := fun v W' g h => hK0 v W' g h (fun e => absurd e (by decide))
            have h0 : b.tmps[41]?.getD undef = .slice (some ⟨x2, 0, none⟩) 16 16 := (hD 2 (by decide))
            have h1 : b.tmps[44]?.getD undef = .slice (some ⟨x3, 0, none⟩) 16 16 := (hD 5 (by decide))
            have h2 : b.tmps[47]?.getD undef = .slice (some ⟨x0, 0, none⟩) 16 16 := (hD 8 (by decide))
            have h3 : b.tmps[50]?.getD undef = .slice (some ⟨x1, 0, none⟩) 16 16 := (hD 11 (by decide))
            exact wp_yields (run_build4 41 44 47 50 rfl ((eval_slot b 41).trans h0) ((eval_slot b 44).trans h1) ((eval_slot b 47).trans h2) ((eval_slot b 50).trans h3)) (hK _ _ (World.grownBy_alloc W _ none) ⟨_, x2, x3, x0, x1, rfl, L4.new (m2.grown hg) (m3.grown hg) (m0.grown hg) (m1.grown hg)⟩)
        intro vals W hg hR hap
        obtain ⟨g4, z0, z1, z2, z3, e1, hM⟩ := hR 12 (by decide)
        clear hR hap
        simp only [putsN, atL, Act.put, List.getD_cons_zero, List.getD_cons_succ, List.setIfInBounds_toArray, List.set_cons_succ, List.set_cons_zero, e1]
        generalize vals 0 = q8_0
        generalize vals 1 = q8_1
        generalize vals 2 = q8_2
        generalize vals 3 = q8_3
        generalize vals 4 = q8_4
        generalize vals 5 = q8_5
        generalize vals 6 = q8_6
        generalize vals 7 = q8_7
        generalize vals 8 = q8_8
        generalize vals 9 = q8_9
        generalize vals 10 = q8_10
        generalize vals 11 = q8_11
        clear e1 vals
        show wpAnyH _ _ _ _ _ 1 #[true, true, true, true, true, true, true, true, true, true, true, true, true, false] _ _
        refine wpAnyH_yieldD (some 6) (i := 13) (v := .slice (some ⟨g4, 0, none⟩) 4 4) (by kernel_rfl) rfl rfl rfl (by unfold execOp; go_simp) hg ?_
        simp only [Act.put, List.setIfInBounds_toArray, List.set_cons_succ, List.set_cons_zero]
        refine wpAnyH_done (by kernel_rfl) ?_ _
        replace hgr := grown_trans hgr hg
        clear hg k0 k1 k2 k3 m0 m1 m2 m3
        have hfin : ladF U bt (List.range (k + 1)) = ⟨Y3, W3, Y2, W2⟩ := by
          rw [HS.out]
          show (Lad.step U ⟨X3, Z3, X2, Z2⟩).swap = _
          rw [← HQ.out]
          rfl
        have HFin := Lib.hid (show LV (ladF U bt (List.range (k + 1))) (.slice (some ⟨g4, 0, none⟩) 4 4) W from ⟨g4, z0, z1, z2, z3, rfl, hfin ▸ hM⟩)
        clear hfin hM HS HQ
        go_wp2_with fail
        go_roundw
        case rel => exact ⟨k + 1, Hk.out, congrArg (Value.int .i64) (by have := Hm.out; have := Hk.out; omega), HFin.out, hgr⟩
        case measure =>
          have := Hm.out
          have := Hk.out
          simp [intOf]
          try omega
      · have hb2 := Lad.bit_other U ⟨X2, Z2, X3, Z3⟩ (bt k) hb1
        rw [← hsn] at hb2
        have HS := Lib.hid hb2
        clear hsn hb2
        generalize bt k = y at *
        have jb : ((y : Int) == 1) = false := by rw [beq_eq_false_iff_ne]; omega
        clear hb1 c0 c1 c2 c3 n0 n1 n2 n3
        go_wp2_with fail
        go_at_call 50
        refine HBI.out.mono ?_
        rintro e V ⟨rfl, rfl⟩
        go_wp2_with fail
        go_at_call 51
        refine (refStep_any bu U g d0 d1 d2 d3 X2 Z2 X3 Z3 _ hu HL.out).mono ?_
        rintro e V ⟨v, rfl, g0, hM⟩
        replace hgr := grown_trans hgr g0
        have HFin := Lib.hid (show LV (ladF U bt (List.range (k + 1))) v V from HS.out ▸ hM)
        clear hM HS g0 hu g1 HL HBI
        go_wp2_with fail
        go_roundw
        case rel => exact ⟨k + 1, Hk.out, congrArg (Value.int .i64) (by have := Hm.out; have := Hk.out; omega), HFin.out, hgr⟩
        case measure =>
          have := Hm.out
          have := Hk.out
          simp [intOf]
          try omega
    · obtain rfl : k = 255 := by omega
      have htt : timesF n U = fMul X2 (fInv Z2) := by
        unfold timesF
        rw [← HBt.out, ← hl]
      have HTT := Lib.hid htt
      obtain ⟨vi, hvi⟩ : ∃ v, v = fInv Z2 := ⟨_, rfl⟩
      obtain ⟨vt, hvt⟩ : ∃ v, v = fMul X2 vi := ⟨_, rfl⟩
      have HVi := Lib.hid hvi
      have HVt := Lib.hid hvt
      have htl : t = lim 8 vt := by rw [HT.out, htt, hvt, hvi]
      have HTL := Lib.hid htl
      clear htl hvi hvt htt hl hL hO hu hlt hk c2 c3 n2 n3 HTT HT
      go_wp2_with fail
      refine wp_region_rel_all (fun W => wr.grownBy W none) (fun _ h => h) (alL []) (relL [fun vv _ => vv = .slice (some ⟨g, 0, none⟩) 4 4, fun vv _ => vv = .pointer (some ⟨g, 0, none⟩), fun vv _ => vv = .slice (some ⟨d0, 0, none⟩) 16 16, fun vv _ => vv = .slice (some ⟨g, 0, none⟩) 4 4, fun vv _ => vv = .pointer (some ⟨g, 1, none⟩), fun vv _ => vv = .slice (some ⟨d1, 0, none⟩) 16 16, NumV vi, NumV vt, BytesAt t])
        9 1 (atL [55, 56, 57, 58, 59, 60, 61, 62, 63]) (depL [[], [0], [1], [], [3], [4], [5], [2, 6], [7]]) (by kernel_rfl) rfl (by kernel_rfl) (by kernel_rfl) (by kernel_rfl) (by decide) (by kernel_rfl) 64 rfl (by decide) (by decide) (by decide) ?mono10 ?al10 ?step10 ?fin10
      case mono10 =>
        intro k x W W' hk h g
        obtain rfl | rfl | rfl | rfl | rfl | rfl | rfl | rfl | rfl : k = 0 ∨ k = 1 ∨ k = 2 ∨ k = 3 ∨ k = 4 ∨ k = 5 ∨ k = 6 ∨ k = 7 ∨ k = 8 := by omega
        · exact h
        · exact h
        · exact h
        · exact h
        · exact h
        · exact h
        · exact NumV.grown h g
        · exact NumV.grown h g
        · exact BytesAt.grown h g
      case al10 =>
        intro k x W hk e h
        obtain rfl | rfl | rfl | rfl | rfl | rfl | rfl | rfl | rfl : k = 0 ∨ k = 1 ∨ k = 2 ∨ k = 3 ∨ k = 4 ∨ k = 5 ∨ k = 6 ∨ k = 7 ∨ k = 8 := by omega
        · exact absurd e (by decide)
        · exact absurd e (by decide)
        · exact absurd e (by decide)
        · exact absurd e (by decide)
        · exact absurd e (by decide)
        · exact absurd e (by decide)
        · exact absurd e (by decide)
        · exact absurd e (by decide)
        · exact absurd e (by decide)
      case step10 =>
        intro k hk
        obtain rfl | rfl | rfl | rfl | rfl | rfl | rfl | rfl | rfl : k = 0 ∨ k = 1 ∨ k = 2 ∨ k = 3 ∨ k = 4 ∨ k = 5 ∨ k = 6 ∨ k = 7 ∨ k = 8 := by omega
        · refine ⟨_, rfl, rfl, fun b W hs hg hD => ⟨wanted_of rfl, fun K hK0 => ?_⟩⟩
          have hK := fun v W' g h => hK0 v W' g h (fun e => absurd e (by decide))
          exact rel_move 6 rfl (hs 6 (by decide)) rfl hK
        · refine ⟨_, rfl, rfl, fun b W hs hg hD => ⟨wanted_of rfl, fun K hK0 => ?_⟩⟩
          have hK := fun v W' g h => hK0 v W' g h (fun e => absurd e (by decide))
          have h0 : b.tmps[55]?.getD undef = .slice (some ⟨g, 0, none⟩) 4 4 := (hD 0 (by decide))
          exact rel_val (v := .pointer (some ⟨g, 0, none⟩)) (by unfold execOp; go_simp) rfl hK
        · refine ⟨_, rfl, rfl, fun b W hs hg hD => ⟨wanted_of rfl, fun K hK0 => ?_⟩⟩
          have hK := fun v W' g h => hK0 v W' g h (fun e => absurd e (by decide))
          have h0 : b.tmps[56]?.getD undef = .pointer (some ⟨g, 0, none⟩) := (hD 1 (by decide))
          exact rel_val (v := .slice (some ⟨d0, 0, none⟩) 16 16) (run_numcell (hg.cell c0 (by simp)) rfl ((eval_slot b 56).trans h0)) rfl hK
        · refine ⟨_, rfl, rfl, fun b W hs hg hD => ⟨wanted_of rfl, fun K hK0 => ?_⟩⟩
          have hK := fun v W' g h => hK0 v W' g h (fun e => absurd e (by decide))
          exact rel_move 6 rfl (hs 6 (by decide)) rfl hK
        · refine ⟨_, rfl, rfl, fun b W hs hg hD => ⟨wanted_of rfl, fun K hK0 => ?_⟩⟩
          have hK := fun v W' g h => hK0 v W' g h (fun e => absurd e (by decide))
          have h0 : b.tmps[58]?.getD undef = .slice (some ⟨g, 0, none⟩) 4 4 := (hD 3 (by decide))
          exact rel_val (v := .pointer (some ⟨g, 1, none⟩)) (by unfold execOp; go_simp) rfl hK
        · refine ⟨_, rfl, rfl, fun b W hs hg hD => ⟨wanted_of rfl, fun K hK0 => ?_⟩⟩
          have hK := fun v W' g h => hK0 v W' g h (fun e => absurd e (by decide))
          have h0 : b.tmps[59]?.getD undef = .pointer (some ⟨g, 1, none⟩) := (hD 4 (by decide))
          exact rel_val (v := .slice (some ⟨d1, 0, none⟩) 16 16) (run_numcell (hg.cell c1 (by simp)) rfl ((eval_slot b 59).trans h0)) rfl hK
        · refine ⟨_, rfl, rfl, fun b W hs hg hD => ⟨wanted_of rfl, fun K hK0 => ?_⟩⟩
          have hK := fun v W' g h => hK0 v W' g h (fun e => absurd e (by decide))
          refine rel_call 52 _ (exec_fn1 _ _ _ rfl ((eval_slot b 60).trans (hD 5 (by decide)))) (fun _ _ => rfl) ?_ hK
          exact (refInverse_any d1 Z2 W (n1.grown hg)).mono fun e w' h => h.vn HVi.out
        · refine ⟨_, rfl, rfl, fun b W hs hg hD => ⟨wanted_of rfl, fun K hK0 => ?_⟩⟩
          have hK := fun v W' g h => hK0 v W' g h (fun e => absurd e (by decide))
          obtain ⟨bi, hi, ni⟩ := hD 6 (by decide)
          refine rel_call 14 _ (exec_fn2 _ _ _ _ _ rfl ((eval_slot b 57).trans (hD 2 (by decide))) ((eval_slot b 61).trans hi)) (fun _ _ => rfl) ?_ hK
          exact (refMul_any d0 bi X2 vi W (n0.grown hg) ni).mono fun e w' h => h.vn HVt.out
        · refine ⟨_, rfl, rfl, fun b W hs hg hD => ⟨wanted_of rfl, fun K hK0 => ?_⟩⟩
          have hK := fun v W' g h => hK0 v W' g h (fun e => absurd e (by decide))
          obtain ⟨bm, hm, nm⟩ := hD 7 (by decide)
          refine rel_call 18 _ (exec_fn1 _ _ _ rfl ((eval_slot b 62).trans hm)) (fun _ _ => rfl) ?_ hK
          exact (HTL.out ▸ refBytes_any bm vt W nm).mono fun e w' h => h.bytes
      intro vals W hg hR hap
      obtain ⟨gb, cb, e1, hM⟩ := hR 8 (by decide)
      clear hR hap
      simp only [putsN, atL, Act.put, List.getD_cons_zero, List.getD_cons_succ, List.setIfInBounds_toArray, List.set_cons_succ, List.set_cons_zero, e1]
      generalize vals 0 = q10_0
      generalize vals 1 = q10_1
      generalize vals 2 = q10_2
      generalize vals 3 = q10_3
      generalize vals 4 = q10_4
      generalize vals 5 = q10_5
      generalize vals 6 = q10_6
      generalize vals 7 = q10_7
      clear e1 vals
      show wpAnyH _ _ _ _ _ 1 #[true, true, true, true, true, true, true, true, true, false] _ _
      refine wpAnyH_yieldD (some 4) (i := 9) (v := .slice (some ⟨gb, 0, none⟩) (32 : Nat) cb) (by kernel_rfl) rfl rfl rfl (by unfold execOp; go_simp) hg ?_
      simp only [Act.put, List.setIfInBounds_toArray, List.set_cons_succ, List.set_cons_zero]
      refine wpAnyH_done (by kernel_rfl) ?_ _
      have hfin := grown_trans g1 hg
      have HM := Lib.hid hM
      have HF := Lib.hid hfin
      clear hM hfin hg hgr n0 n1 c0 c1 g1
      go_wp2_with fail
      go_ret
      exact ⟨_, rfl, HF.out, gb, cb, rfl, HM.out⟩
end Go.Proofs.Ytpnddojcihdniaa
namespace Go.Proofs.Ytpnddojcihdniaa
open Go.RowKit Go.Shelf

set_option maxRecDepth 100000
set_option maxHeartbeats 4000000

theorem refShared_any (f g : Nat → Nat) (hf : ∀ i, f i < 256) (hg : ∀ i, g i < 256) (tb o c tb2 o2 c2 : Nat) (w : World) (hb : At32 w tb o f) (hb2 : At32 w tb2 o2 g) :
    Calls Try.prog 25 #[.slice (some ⟨tb, o, none⟩) 32 c, .slice (some ⟨tb2, o2, none⟩) 32 c2] w fun e w' => ∃ v, e = .returned v ∧ w.grownBy w' none ∧ BytesAt (lim 8 (timesF (clampF f) (ofV g))) v w' := by
  have HO := Lib.hid (refOf_any g hg tb2 o2 c2 w hb2)
  have hlt : ofV g < pF := (is5_of g hg).less
  obtain ⟨U, hU⟩ : ∃ U, U = ofV g := ⟨_, rfl⟩
  rw [← hU] at HO hlt ⊢
  have HT := Lib.hid (fun (W : World) (h : w.grownBy W none) (bu : Nat) (hu : NumAt W bu U) => refTimes_any f hf tb o c bu U W (hb.grown h (by simp)) hu)
  obtain ⟨t, ht⟩ : ∃ t, t = lim 8 (timesF (clampF f) U) := ⟨_, rfl⟩
  rw [← ht] at HT ⊢
  have HP := Lib.hid hlt
  clear hU ht hf hg hb hb2 hlt
  go_enter Try.func25, Try.ntmps25
  go_wp2_with fail
  go_at_call 8
  refine HO.out.mono ?_
  intro e V h
  obtain ⟨x, rfl, g0, bu, rfl, nu⟩ := (h.num HP.out).v
  clear h HO
  go_wp2_with fail
  go_at_call 42
  refine (HT.out V g0 bu nu).mono ?_
  rintro e V2 ⟨v, rfl, g1, hB⟩
  have HF := Lib.hid (show w.grownBy V2 none ∧ BytesAt t v V2 from ⟨grown_trans g0 g1, hB⟩)
  clear g0 g1 hB nu
  go_wp2_with fail
  go_ret
  exact ⟨_, rfl, HF.out⟩
theorem refPublic_any (f : Nat → Nat) (hf : ∀ i, f i < 256) (tb o c : Nat) (w : World) (hb : At32 w tb o f) :
    Calls Try.prog 26 #[.slice (some ⟨tb, o, none⟩) 32 c] w fun e w' => ∃ v, e = .returned v ∧ w.grownBy w' none ∧ BytesAt (lim 8 (timesF (clampF f) 9)) v w' := by
  have HO := Lib.hid (refSmall_any 9 (by decide))
  have HT := Lib.hid (fun (W : World) (h : w.grownBy W none) (bu : Nat) (hu : NumAt W bu 9) => refTimes_any f hf tb o c bu 9 W (hb.grown h (by simp)) hu)
  obtain ⟨t, ht⟩ : ∃ t, t = lim 8 (timesF (clampF f) 9) := ⟨_, rfl⟩
  rw [← ht] at HT ⊢
  have HP := Lib.hid (show 9 < pF by decide)
  clear ht hf hb
  go_enter Try.func26, Try.ntmps26
  go_wp2_with fail
  go_at_call 16
  refine (HO.out _).mono ?_
  intro e V h
  obtain ⟨x, rfl, g0, bu, rfl, nu⟩ := (h.num HP.out).v
  clear h HO
  go_wp2_with fail
  go_at_call 42
  refine (HT.out V g0 bu nu).mono ?_
  rintro e V2 ⟨v, rfl, g1, hB⟩
  have HF := Lib.hid (show w.grownBy V2 none ∧ BytesAt t v V2 from ⟨grown_trans g0 g1, hB⟩)
  clear g0 g1 hB nu
  go_wp2_with fail
  go_ret
  exact ⟨_, rfl, HF.out⟩
end Go.Proofs.Ytpnddojcihdniaa
namespace Go.Proofs.Ytpnddojcihdniaa
open Go.RowKit

theorem wanted_is {ops : Array Oper} {o : Oper} {b : Act} {j t : Nat} {v : Bool} (hg : o.guard = some (j, v)) (hd : (ops[j]?).bind (·.dst) = some t) (h : slotv b t = .bool v) : Region.wanted o (yielded ops b.tmps) = true := by
  have h1 : b.tmps[t]? = some (.bool v) := by
    unfold slotv at h
    cases e : b.tmps[t]? with
    | none => rw [e] at h; cases h
    | some v => rw [e] at h; exact congrArg some h
  unfold Region.wanted yielded
  simp [hg, hd, h1]
theorem wanted_not {ops : Array Oper} {o : Oper} {b : Act} {j t : Nat} {v : Bool} (hg : o.guard = some (j, !v)) (hd : (ops[j]?).bind (·.dst) = some t) (h : slotv b t = .bool v) : Region.wanted o (yielded ops b.tmps) = false := by
  have h1 : b.tmps[t]? = some (.bool v) := by
    unfold slotv at h
    cases e : b.tmps[t]? with
    | none => rw [e] at h; cases h
    | some v => rw [e] at h; exact congrArg some h
  unfold Region.wanted yielded
  cases v <;> simp [hg, hd, h1]
theorem wpOp_skip {P : Program} {ops : Array Oper} {Q : Exit → Act → World → Prop} {i : Nat} {o : Oper} {a : Act} {w : World} {K : Act → World → Prop} (ho : ops[i]? = some o) (hw : Region.wanted o (yielded ops a.tmps) = false) (h : K (a.put o.dst undef) w) : wpOp P ops Q i K a w := by
  unfold wpOp
  rw [ho]
  simp only [hw]
  exact h
/-- What an operation does, where it may come up. -/
def RelStepC (P : Program) (ops : Array Oper) (Q : Exit → Act → World → Prop) (a : Act) (w0 : World) (al : Nat → Bool) (R : Nat → Value → World → Prop) (n : Nat) (d : Nat → Nat) (dep : Nat → List Nat) (i : Nat) : Prop :=
  ∃ o, ops[i]? = some o ∧ o.dst = some (d i) ∧ ∀ (b : Act) (W : World), (∀ t, (∀ k, k < n → t ≠ d k) → slotv b t = slotv a t) → w0.grownBy W none → (∀ j, j ∈ dep i → R j (slotv b (d j)) W) →
    ∀ K : Act → World → Prop, (∀ v W', W.grownBy W' none → R i v W' → (al i = true → ∀ B, v = .pointer (some ⟨B, 0, none⟩) → W.heap.size ≤ B) → K (b.put o.dst v) W') → wpOp P ops Q i K b W
section
variable {P : Program} {ops : Array Oper} {Q : Exit → Act → World → Prop} {a : Act} {w0 : World} {R : Nat → Value → World → Prop} {al : Nat → Bool}
theorem rel_steps_c (S : World → Prop) (hS : ∀ W, w0.grownBy W none → S W) (n r : Nat) (d : Nat → Nat) (dep : Nat → List Nat) (hsz : ops.size = n + r) (hb : backB ops = true) (hs : Region.sinkB .any ops n = true) (hch : Region.chainB .any ops n = true) (hr : 0 < r)
    (hdp : depB ops dep = true) (hd : ∀ k, k < n → d k < a.tmps.size) (hinj : ∀ i k, i < n → k < n → d i = d k → i = k)
    (hmono : ∀ k v W W', k < n → R k v W → W.grownBy W' none → R k v W') (hal : ∀ k v W, k < n → al k = true → R k v W → ∃ B, v = .pointer (some ⟨B, 0, none⟩) ∧ B < W.heap.size) (hstep : ∀ i, i < n → RelStepC P ops Q a w0 al R n d dep i) (hlt : ∀ i, i < n → ∀ j, j ∈ dep i → j < n)
    (hfin : ∀ ls b W, (∀ k, k < n → ls.getD k true = true) → RelAl a w0 al d n r R ops ls b W → wpAnyH P .any ops Q S r ls b W) :
    ∀ (m : Nat) (ls : Array Bool) (b : Act) (W : World), m = cntU ls n → RelAl a w0 al d n r R ops ls b W → wpAnyH P .any ops Q S (m + r) ls b W
  | 0, ls, b, W, hm, h => by
    rw [Nat.zero_add]
    exact hfin ls b W (cntU_zero n hm.symm) h
  | m + 1, ls, b, W, hm, h => by
    rw [Nat.add_right_comm]
    obtain ⟨i0, q1, q2, q3⟩ := first_un n (by omega : cntU ls n ≠ 0)
    refine ⟨fun he => ?_, fun i hi => ?_⟩
    · have hio : i0 < ops.size := by omega
      have : i0 ∈ Region.ready .any ops ls := mem_ready.2 ⟨q2, ops[i0], by simp [hio], fun e he' hbd => by
        have := backB_at hb (by simp [hio] : ops[i0]? = some ops[i0]) hio e he' hbd
        exact getD_tt (by rw [h.lsz]; omega) true false (q3 _ this)⟩
      rw [he] at this
      cases this
    · obtain ⟨hun, y, hy, hall⟩ := mem_ready.1 hi
      have hio : i < ops.size := (Array.getElem?_eq_some_iff.1 hy).1
      have hin : i < n := Nat.lt_of_not_le fun hge => tail_waits hs hch (by omega) h.inv _ i0 rfl q1 q2 i hge hi
      have hils : i < ls.size := by rw [h.lsz]; omega
      obtain ⟨o, ho, hdo, hw0⟩ := hstep i hin
      obtain rfl : y = o := by rw [hy] at ho; exact Option.some.inj ho
      refine hw0 b W h.rest h.gr (fun j hj => by
        obtain ⟨e, he, hbd, rfl⟩ := depB_at hdp hy hio hj
        exact h.has _ (hlt i hin _ hj) (getD_tt (by have := hlt i hin _ hj; rw [h.lsz]; omega) false true (hall e he hbd))) _ (fun v W' g hR hfr => ?_)
      · have hgr := grown_trans h.gr g
        rw [hdo]
        refine ⟨hS _ hgr, rel_steps_c S hS n r d dep hsz hb hs hch hr hdp hd hinj hmono hal hstep hlt hfin m _ _ W' ?_ ?_⟩
        · have := cntU_set hils hun n hin
          omega
        · have hdb : d i < b.tmps.size := by rw [h.size]; exact hd i hin
          refine ⟨h.defers, by simp [Act.put, h.size], fun t ht => ?_, fun k hk hl => ?_, hgr, by simp [h.lsz], h.inv.set hi hin, ?_⟩
          · rw [slotv_put _ _ _ _ hdb, if_neg (ht i hin)]
            exact h.rest t ht
          · rw [slotv_put _ _ _ _ hdb]
            by_cases e : k = i
            · subst e
              rw [if_pos rfl]
              exact hR
            · rw [if_neg (fun e' => e (hinj k i hk hin e'))]
              rw [getD_set_ne true (Ne.symm e)] at hl
              exact hmono k _ W W' hk (h.has k hk hl) g
          · intro p q hp hq hne a1 a2 l1 l2
            rw [slotv_put _ _ _ _ hdb, slotv_put _ _ _ _ hdb]
            by_cases e1 : p = i
            · subst e1
              have e2 : q ≠ p := fun e => hne e.symm
              rw [if_pos rfl, if_neg (fun e' => e2 (hinj q p hq hin e'))]
              rw [getD_set_ne true (Ne.symm e2)] at l2
              obtain ⟨B, hB, hlt2⟩ := hal q _ W hq a2 (h.has q hq l2)
              rw [hB]
              intro e
              have := hfr a1 B e
              omega
            · rw [if_neg (fun e' => e1 (hinj p i hp hin e'))]
              rw [getD_set_ne true (Ne.symm e1)] at l1
              by_cases e2 : q = i
              · subst e2
                rw [if_pos rfl]
                obtain ⟨B, hB, hlt2⟩ := hal p _ W hp a1 (h.has p hp l1)
                rw [hB]
                intro e
                have := hfr a2 B e.symm
                omega
              · rw [if_neg (fun e' => e2 (hinj q i hq hin e'))]
                rw [getD_set_ne true (Ne.symm e2)] at l2
                exact h.apart p q hp hq hne a1 a2 l1 l2
/-- The head in whatever order; then the tail, which keeps S. -/
theorem wp_region_rel_c {id : Nat} {w : World} (S : World → Prop) (hS : ∀ W, w.grownBy W none → S W) (al : Nat → Bool) (R : Nat → Value → World → Prop) (n r : Nat) (d : Nat → Nat) (dep : Nat → List Nat) (hm : P.follows .mixedOrders = true) (hsz : ops.size = n + r) (hb : backB ops = true) (hs : Region.sinkB .any ops n = true) (hch : Region.chainB .any ops n = true) (hr : 0 < r) (hdp : depB ops dep = true)
    (m : Nat) (hsm : a.tmps.size = m) (hd : ∀ k, k < n → d k < m) (hinj0 : ∀ i, i < n → ∀ k, k < n → d i = d k → i = k) (hlt : ∀ i, i < n → ∀ j, j ∈ dep i → j < n)
    (hmono : ∀ k v W W', k < n → R k v W → W.grownBy W' none → R k v W') (hal : ∀ k v W, k < n → al k = true → R k v W → ∃ B, v = .pointer (some ⟨B, 0, none⟩) ∧ B < W.heap.size) (hstep : ∀ i, i < n → RelStepC P ops Q a w al R n d dep i)
    (hfin : ∀ vals W, w.grownBy W none → (∀ k, k < n → R k (vals k) W) → (∀ i k, i < n → k < n → i ≠ k → al i = true → al k = true → vals i ≠ vals k) → wpAnyH P .any ops Q S r (headL n r) (putsN a d vals n) W) : (Code.region id ops true).wp P Q a w := by
  subst hsm
  have hinj : ∀ i k, i < n → k < n → d i = d k → i = k := fun i k h1 h2 => hinj0 i h1 k h2
  refine wp_region_held (S := S) hm ?_
  show wpAnyH P .any ops Q _ ops.size (Array.replicate ops.size false) a w.drew
  have hc : ∀ k, k ≤ ops.size → cntU (Array.replicate ops.size false) k = k := fun k => by
    induction k with
    | zero => intro _; rfl
    | succ k ih =>
      intro hk
      show cntU _ k + _ = _
      rw [ih (by omega), getD_in (by simp; omega) (getD_replicate_false _ _)]
      rfl
  have H := rel_steps_c (R := R) (al := al) (w0 := w) S hS n r d dep hsz hb hs hch hr hdp hd hinj hmono hal hstep hlt (fun ls b W hall h => ?_) n (Array.replicate ops.size false) a w.drew (hc n (by omega)).symm
    ⟨rfl, rfl, fun _ _ => rfl, fun k hk hl => (by rw [getD_in (by simp; omega) (getD_replicate_false _ _)] at hl; cases hl), grown_drew (grown_refl _ _), by simp [hsz], ⟨by simp, fun j y _ hl => (by rw [getD_replicate_false] at hl; cases hl), fun t _ ht => getD_in (by simpa using ht) (getD_replicate_false _ _)⟩, fun i k hi _ _ _ _ hl _ => (by rw [getD_in (by simp; omega) (getD_replicate_false _ _)] at hl; cases hl)⟩
  · rw [hsz] at H ⊢
    exact H
  · have he : b = putsN a d (fun k => slotv b (d k)) n := by
      refine act_ext (h.defers.trans (putsN_defers a d _ n).symm) (h.size.trans (putsN_size a d _ n).symm) fun t _ => ?_
      by_cases e : ∃ k, k < n ∧ t = d k
      · obtain ⟨k, hk, rfl⟩ := e
        exact (putsN_at a d (fun k => slotv b (d k)) n hd hinj k hk).symm
      · have e' : ∀ k, k < n → t ≠ d k := fun k hk h => e ⟨k, hk, h⟩
        rw [h.rest t e', putsN_rest a d _ n hd t e']
    have hl : ls = headL n r := by
      refine Array.ext (by simp [headL, h.lsz]) fun i h1 h2 => ?_
      have hi : i < n + r := by rw [← h.lsz]; exact h1
      by_cases e : i < n
      · have h3 := hall i e
        simp only [Array.getD_eq_getD_getElem?, Array.getElem?_eq_getElem h1, Option.getD_some] at h3
        rw [h3]
        simp [headL, e]
      · have h3 := h.inv.tail i (by omega) (by omega)
        simp only [Array.getD_eq_getD_getElem?, Array.getElem?_eq_getElem h1, Option.getD_some] at h3
        rw [h3]
        simp [headL, List.getElem_append, e]
    rw [he, hl]
    exact hfin _ W h.gr (fun k hk => h.has k hk (hall k hk)) (fun i k hi hk hne a1 a2 => h.apart i k hi hk hne a1 a2 (hall i hi) (hall k hk))
end
end Go.Proofs.Ytpnddojcihdniaa
namespace Go.Proofs.Ytpnddojcihdniaa
open Go.RowKit Go.Shelf

set_option maxRecDepth 100000
set_option maxHeartbeats 2000000

theorem run_slicek {o : Oper} {a : Act} {W : World} {B : Nat} (t : Nat) (ho : o.op = .slice 45 (.tmp t) none none none) (h : slotv a t = .pointer (some ⟨B, 0, none⟩)) : (execOp a.eval o).run Try.prog W = .ok (.value (.slice (some ⟨B, 0, none⟩) 32 32)) W := by
  have h1 : a.tmps[t]?.getD undef = .pointer (some ⟨B, 0, none⟩) := h
  unfold execOp
  simp only [ho]
  go_simp
theorem Holds.rdk {w : World} {B T : Nat} {f : Nat → Nat} (h : Holds w B T .u8 32 f) : Rd w w.heap.size (some ⟨B, 0, none⟩) 32 f := ⟨fun _ => ⟨B, 0, rfl, h.lt, fun i hi => by rw [Nat.zero_add]; exact h.cell i hi⟩⟩
theorem run_eqstr {o : Oper} {a : Act} {W : World} {s : ByteArray} (t1 t2 : Tmp) (ho : o.op = .binOp .eql 9 (.tmp t1) (.tmp t2) 9) (h1 : a.tmps[t1]?.getD undef = .string s) (h2 : a.tmps[t2]?.getD undef = .string s) : (execOp a.eval o).run Try.prog W = .ok (.value (.bool true)) W := by
  unfold execOp
  simp only [ho]
  go_simp
theorem run_newzero {o : Oper} {a : Act} {W : World} (ho : o.op = .build 45 #[]) : (execOp a.eval o).run Try.prog W = .ok (.value (.agg (cellsOf .u8 32 (fun _ => 0)))) W := by
  rw [show cellsOf .u8 32 (fun _ => 0) = #[.int .u8 0, .int .u8 0, .int .u8 0, .int .u8 0, .int .u8 0, .int .u8 0, .int .u8 0, .int .u8 0, .int .u8 0, .int .u8 0, .int .u8 0, .int .u8 0, .int .u8 0, .int .u8 0, .int .u8 0, .int .u8 0, .int .u8 0, .int .u8 0, .int .u8 0, .int .u8 0, .int .u8 0, .int .u8 0, .int .u8 0, .int .u8 0, .int .u8 0, .int .u8 0, .int .u8 0, .int .u8 0, .int .u8 0, .int .u8 0, .int .u8 0, .int .u8 0] from rfl]
  unfold execOp
  simp only [ho]
  go_simp
theorem run_eqlkb {o : Oper} {a : Act} {W : World} {r : Bool} (t1 t2 : Tmp) (f g : Nat → Nat) (hq : eqN 32 f g = r) (ho : o.op = .binOp .eql 45 (.tmp t1) (.tmp t2) 45)
    (h1 : a.eval (.tmp t1) = .agg (cellsOf .u8 32 f)) (h2 : a.eval (.tmp t2) = .agg (cellsOf .u8 32 g)) : (execOp a.eval o).run Try.prog W = .ok (.value (.bool r)) W := by
  have h := run_eqlk (W := W) t1 t2 f g ho h1 h2
  rwa [hq] at h
end Go.Proofs.Ytpnddojcihdniaa
namespace Go.Proofs.Ytpnddojcihdniaa
open Go.RowKit Go.Shelf

set_option maxRecDepth 100000
set_option maxHeartbeats 4000000

theorem curveTells_any (fa fb : Nat → Nat) (w : World) (hfa : ∀ i, fa i < 256) (hfb : ∀ i, fb i < 256) :
    Calls Try.prog 4 #[.agg (cellsOf .u8 32 fa), .agg (cellsOf .u8 32 fb)] w (SaysYes w) := by
  have HK := Lib.hid known07
  have HC := Lib.hid (clamp_any fa hfa)
  have HS := Lib.hid (shared_any fa fb hfa hfb)
  have HP := Lib.hid (public_any fa hfa)
  have RC := Lib.hid (fun (b : Nat) (W : World) (h : At32 W b 0 fa) => refClamp_any fa hfa b 0 32 W h)
  have RS := Lib.hid (fun (b d : Nat) (W : World) (h : At32 W b 0 fa) (k : At32 W d 0 fb) => refShared_any fa fb hfa hfb b 0 32 d 0 32 W h k)
  have RP := Lib.hid (fun (b : Nat) (W : World) (h : At32 W b 0 fa) => refPublic_any fa hfa b 0 32 W h)
  have hcl := clampF_lt fa hfa
  have heq := eq_zero (shV fa fb) (shV_lt fa fb)
  change Hid (∀ (b d : Nat) (W : World), At32 W b 0 fa → At32 W d 0 fb → Calls Try.prog 25 #[.slice (some ⟨b, 0, none⟩) 32 32, .slice (some ⟨d, 0, none⟩) 32 32] W fun e w' => ∃ v, e = .returned v ∧ W.grownBy w' none ∧ BytesAt (lim 8 (shV fa fb)) v w') at RS
  have s1l := lim8_lt (shV fa fb)
  have s2l := lim8_lt (timesF (clampF fa) 9)
  obtain ⟨c, hc⟩ : ∃ c, c = clampF fa := ⟨_, rfl⟩
  obtain ⟨p, hp⟩ : ∃ c, c = lim 8 (timesF (clampF fa) 9) := ⟨_, rfl⟩
  rw [← hp] at HP RP s2l
  rw [← hc] at HC RC hcl
  obtain ⟨V, hV⟩ : ∃ c, c = shV fa fb := ⟨_, rfl⟩
  rw [← hV] at HS RS heq s1l
  obtain ⟨s, hs⟩ : ∃ c, c = lim 8 V := ⟨_, rfl⟩
  rw [← hs] at HS RS heq s1l
  obtain ⟨ev, hev⟩ : ∃ c, c = errV V := ⟨_, rfl⟩
  rw [← hev] at HS
  obtain ⟨tc, htc⟩ : ∃ t, t = strOf 32 c := ⟨_, rfl⟩
  obtain ⟨ts, hts⟩ : ∃ t, t = strOf 32 s := ⟨_, rfl⟩
  obtain ⟨tp, htp⟩ : ∃ t, t = strOf 32 p := ⟨_, rfl⟩
  have LC := Lib.hid hcl
  have LS := Lib.hid s1l
  have LP := Lib.hid s2l
  have TC := Lib.hid htc
  have TS := Lib.hid hts
  have TP := Lib.hid htp
  have HE := Lib.hid heq
  have HEV := Lib.hid hev
  have hA : Holds ((w.alloc (.cells (cellsOf .u8 32 fa) 45)).alloc (.cells (cellsOf .u8 32 fb) 45)) w.heap.size 45 .u8 32 fa := (holds_alloc w 45 .u8 32 fa _ rfl).grown (World.grownBy_alloc _ _ none) (by simp)
  have hB : Holds ((w.alloc (.cells (cellsOf .u8 32 fa) 45)).alloc (.cells (cellsOf .u8 32 fb) 45)) (w.heap.size + 1) 45 .u8 32 fb := by
    have := holds_alloc (w.alloc (.cells (cellsOf .u8 32 fa) 45)) 45 .u8 32 fb _ rfl
    rwa [World.size_alloc] at this
  have gr := grown_alloc (World.grownBy_alloc w (.cells (cellsOf .u8 32 fa) 45) none) (.cells (cellsOf .u8 32 fb) 45)
  clear hfa hfb hcl heq s1l s2l hc hp hV hs hev htc hts htp
  go_enter Try.func4, Try.ntmps4
  go_wp2_with fail
  generalize ((w.alloc (.cells (cellsOf .u8 32 fa) 45)).alloc (.cells (cellsOf .u8 32 fb) 45)) = V0 at *
  obtain ⟨B, hBw⟩ : ∃ B, B = w.heap.size := ⟨_, rfl⟩
  simp only [← hBw] at hA hB ⊢
  clear hBw
  go_at_call 20
  refine (HK.out _).mono ?_
  rintro e V1 ⟨⟨rfl, g0⟩⟩
  replace hA := hA.grown g0 (by simp)
  replace hB := hB.grown g0 (by simp)
  replace gr := grown_trans gr g0
  clear g0 HK V0
  go_wp2_with (refine wpList_load_key rfl 2 rfl rfl hA ?_)
  go_at_call 21
  refine (HC.out _).mono ?_
  rintro e U1 ⟨rfl, g0⟩
  have hL := holds_alloc U1 45 .u8 32 (fun _ => 0) #[.int .u8 0, .int .u8 0, .int .u8 0, .int .u8 0, .int .u8 0, .int .u8 0, .int .u8 0, .int .u8 0, .int .u8 0, .int .u8 0, .int .u8 0, .int .u8 0, .int .u8 0, .int .u8 0, .int .u8 0, .int .u8 0, .int .u8 0, .int .u8 0, .int .u8 0, .int .u8 0, .int .u8 0, .int .u8 0, .int .u8 0, .int .u8 0, .int .u8 0, .int .u8 0, .int .u8 0, .int .u8 0, .int .u8 0, .int .u8 0, .int .u8 0, .int .u8 0] rfl
  have gg := grown_alloc g0 (.cells #[.int .u8 0, .int .u8 0, .int .u8 0, .int .u8 0, .int .u8 0, .int .u8 0, .int .u8 0, .int .u8 0, .int .u8 0, .int .u8 0, .int .u8 0, .int .u8 0, .int .u8 0, .int .u8 0, .int .u8 0, .int .u8 0, .int .u8 0, .int .u8 0, .int .u8 0, .int .u8 0, .int .u8 0, .int .u8 0, .int .u8 0, .int .u8 0, .int .u8 0, .int .u8 0, .int .u8 0, .int .u8 0, .int .u8 0, .int .u8 0, .int .u8 0, .int .u8 0] 45)
  have g2 := grown_setRow_new gg U1.heap.size (cellsOf .u8 32 c) (Or.inl g0.size)
  have d1 := hL.setRow .u8 32 c
  replace hA := hA.grown g2 (by simp)
  replace hB := hB.grown g2 (by simp)
  replace gr := grown_trans gr g2
  clear g0 gg g2 HC
  go_upto_region 4 with (refine wpList_store_row rfl 45 (.tmp 5) (.tmp 12) rfl U1.heap.size (cellsOf .u8 32 c) rfl rfl 45 _ hL.block (by rw [cellsOf_size]; kernel_rfl) (by first | rfl | simp only [cellsOf_size]) (cellsOf_all _ _ _) ?_)
  generalize (U1.alloc (.cells #[.int .u8 0, .int .u8 0, .int .u8 0, .int .u8 0, .int .u8 0, .int .u8 0, .int .u8 0, .int .u8 0, .int .u8 0, .int .u8 0, .int .u8 0, .int .u8 0, .int .u8 0, .int .u8 0, .int .u8 0, .int .u8 0, .int .u8 0, .int .u8 0, .int .u8 0, .int .u8 0, .int .u8 0, .int .u8 0, .int .u8 0, .int .u8 0, .int .u8 0, .int .u8 0, .int .u8 0, .int .u8 0, .int .u8 0, .int .u8 0, .int .u8 0, .int .u8 0] 45)).setRow U1.heap.size (cellsOf .u8 32 c) = V2 at *
  clear hL
  generalize U1.heap.size = B1 at *
  clear U1
  go_wp2_with (first | refine wpList_load_key rfl 2 rfl rfl hA ?_ | refine wpList_load_key rfl 3 rfl rfl hB ?_)
  go_at_call 22
  refine (HS.out _).mono ?_
  rintro e U2 ⟨rfl, g0⟩
  have hL := holds_alloc U2 45 .u8 32 (fun _ => 0) #[.int .u8 0, .int .u8 0, .int .u8 0, .int .u8 0, .int .u8 0, .int .u8 0, .int .u8 0, .int .u8 0, .int .u8 0, .int .u8 0, .int .u8 0, .int .u8 0, .int .u8 0, .int .u8 0, .int .u8 0, .int .u8 0, .int .u8 0, .int .u8 0, .int .u8 0, .int .u8 0, .int .u8 0, .int .u8 0, .int .u8 0, .int .u8 0, .int .u8 0, .int .u8 0, .int .u8 0, .int .u8 0, .int .u8 0, .int .u8 0, .int .u8 0, .int .u8 0] rfl
  have gg := grown_alloc g0 (.cells #[.int .u8 0, .int .u8 0, .int .u8 0, .int .u8 0, .int .u8 0, .int .u8 0, .int .u8 0, .int .u8 0, .int .u8 0, .int .u8 0, .int .u8 0, .int .u8 0, .int .u8 0, .int .u8 0, .int .u8 0, .int .u8 0, .int .u8 0, .int .u8 0, .int .u8 0, .int .u8 0, .int .u8 0, .int .u8 0, .int .u8 0, .int .u8 0, .int .u8 0, .int .u8 0, .int .u8 0, .int .u8 0, .int .u8 0, .int .u8 0, .int .u8 0, .int .u8 0] 45)
  have g2 := grown_setRow_new gg U2.heap.size (cellsOf .u8 32 s) (Or.inl g0.size)
  have d2 := hL.setRow .u8 32 s
  replace hA := hA.grown g2 (by simp)
  replace hB := hB.grown g2 (by simp)
  replace d1 := d1.grown g2 (by simp)
  replace gr := grown_trans gr g2
  clear g0 gg g2 HS
  go_upto_region 5 with (refine wpList_store_row rfl 45 (.tmp 6) (.tmp 17) rfl U2.heap.size (cellsOf .u8 32 s) rfl rfl 45 _ hL.block (by rw [cellsOf_size]; kernel_rfl) (by first | rfl | simp only [cellsOf_size]) (cellsOf_all _ _ _) ?_)
  generalize (U2.alloc (.cells #[.int .u8 0, .int .u8 0, .int .u8 0, .int .u8 0, .int .u8 0, .int .u8 0, .int .u8 0, .int .u8 0, .int .u8 0, .int .u8 0, .int .u8 0, .int .u8 0, .int .u8 0, .int .u8 0, .int .u8 0, .int .u8 0, .int .u8 0, .int .u8 0, .int .u8 0, .int .u8 0, .int .u8 0, .int .u8 0, .int .u8 0, .int .u8 0, .int .u8 0, .int .u8 0, .int .u8 0, .int .u8 0, .int .u8 0, .int .u8 0, .int .u8 0, .int .u8 0] 45)).setRow U2.heap.size (cellsOf .u8 32 s) = V3 at *
  clear hL
  generalize U2.heap.size = B2 at *
  clear U2
  go_wp2_with (first | refine wpList_load_key rfl 2 rfl rfl hA ?_)
  go_at_call 23
  refine (HP.out _).mono ?_
  rintro e U3 ⟨rfl, g0⟩
  have hL := holds_alloc U3 45 .u8 32 (fun _ => 0) #[.int .u8 0, .int .u8 0, .int .u8 0, .int .u8 0, .int .u8 0, .int .u8 0, .int .u8 0, .int .u8 0, .int .u8 0, .int .u8 0, .int .u8 0, .int .u8 0, .int .u8 0, .int .u8 0, .int .u8 0, .int .u8 0, .int .u8 0, .int .u8 0, .int .u8 0, .int .u8 0, .int .u8 0, .int .u8 0, .int .u8 0, .int .u8 0, .int .u8 0, .int .u8 0, .int .u8 0, .int .u8 0, .int .u8 0, .int .u8 0, .int .u8 0, .int .u8 0] rfl
  have gg := grown_alloc g0 (.cells #[.int .u8 0, .int .u8 0, .int .u8 0, .int .u8 0, .int .u8 0, .int .u8 0, .int .u8 0, .int .u8 0, .int .u8 0, .int .u8 0, .int .u8 0, .int .u8 0, .int .u8 0, .int .u8 0, .int .u8 0, .int .u8 0, .int .u8 0, .int .u8 0, .int .u8 0, .int .u8 0, .int .u8 0, .int .u8 0, .int .u8 0, .int .u8 0, .int .u8 0, .int .u8 0, .int .u8 0, .int .u8 0, .int .u8 0, .int .u8 0, .int .u8 0, .int .u8 0] 45)
  have g2 := grown_setRow_new gg U3.heap.size (cellsOf .u8 32 p) (Or.inl g0.size)
  have d3 := hL.setRow .u8 32 p
  replace hA := hA.grown g2 (by simp)
  replace hB := hB.grown g2 (by simp)
  replace d1 := d1.grown g2 (by simp)
  replace d2 := d2.grown g2 (by simp)
  replace gr := grown_trans gr g2
  clear g0 gg g2 HP
  go_upto_region 6 with (refine wpList_store_row rfl 45 (.tmp 8) (.tmp 20) rfl U3.heap.size (cellsOf .u8 32 p) rfl rfl 45 _ hL.block (by rw [cellsOf_size]; kernel_rfl) (by first | rfl | simp only [cellsOf_size]) (cellsOf_all _ _ _) ?_)
  generalize (U3.alloc (.cells #[.int .u8 0, .int .u8 0, .int .u8 0, .int .u8 0, .int .u8 0, .int .u8 0, .int .u8 0, .int .u8 0, .int .u8 0, .int .u8 0, .int .u8 0, .int .u8 0, .int .u8 0, .int .u8 0, .int .u8 0, .int .u8 0, .int .u8 0, .int .u8 0, .int .u8 0, .int .u8 0, .int .u8 0, .int .u8 0, .int .u8 0, .int .u8 0, .int .u8 0, .int .u8 0, .int .u8 0, .int .u8 0, .int .u8 0, .int .u8 0, .int .u8 0, .int .u8 0] 45)).setRow U3.heap.size (cellsOf .u8 32 p) = V4 at *
  clear hL
  generalize U3.heap.size = B3 at *
  clear U3
  by_cases hv : V = 0
  · as_aux_lemma =>
    have hq : eqN 32 s (fun _ => 0) = true := by rw [HE.out, hv]; rfl
    have HQ := Lib.hid hq
    have he : ev = 70 := by rw [HEV.out]; exact if_pos hv
    subst he
    clear hv hq HE HEV
    refine wp_region_rel_c (fun W => V4.grownBy W none) (fun _ h => h) (alL []) (relL [fun vv _ => vv = .slice (some ⟨B1, 0, none⟩) 32 32, fun vv _ => vv = .string tc, fun vv _ => vv = .slice (some ⟨B, 0, none⟩) 32 32, BytesAt c, fun vv _ => vv = .string tc, fun vv _ => vv = .bool true, fun vv _ => vv = .bool true, fun vv _ => vv = .slice (some ⟨B2, 0, none⟩) 32 32, fun vv _ => vv = .string ts, fun vv _ => vv = .slice (some ⟨B, 0, none⟩) 32 32, fun vv _ => vv = .slice (some ⟨B + 1, 0, none⟩) 32 32, BytesAt s, fun vv _ => vv = .string ts, fun vv _ => vv = .bool true, fun vv _ => vv = .bool true, fun vv _ => vv = .bool true, fun vv _ => vv = .int .i64 70, fun vv _ => vv = .bool true, fun vv _ => vv = .agg (cellsOf .u8 32 s), fun vv _ => vv = .agg (cellsOf .u8 32 (fun _ => 0)), fun vv _ => vv = .bool true, fun vv _ => vv = .bool true, fun vv _ => vv = .bool true, fun vv _ => vv = .bool true, fun vv _ => vv = .int .i64 70, fun vv _ => vv = .bool false, fun vv _ => vv = .bool false, fun vv _ => vv = .int .i64 70, fun vv _ => vv = .bool true, fun vv _ => vv = .bool true, fun vv _ => vv = .bool true, fun vv _ => vv = .bool true, fun vv _ => vv = .slice (some ⟨B3, 0, none⟩) 32 32, fun vv _ => vv = .string tp, fun vv _ => vv = .slice (some ⟨B, 0, none⟩) 32 32, BytesAt p, fun vv _ => vv = .string tp, fun vv _ => vv = .bool true, fun vv _ => vv = .bool true])
      39 1 (atL [21, 22, 23, 24, 25, 26, 27, 28, 29, 30, 31, 32, 33, 34, 35, 36, 37, 38, 39, 40, 41, 42, 43, 44, 45, 46, 47, 48, 49, 50, 51, 52, 53, 54, 55, 56, 57, 58, 59]) (depL [[], [0], [], [2], [3], [1, 4], [5], [6], [7, 6], [6], [6], [9, 10, 6], [11, 6], [8, 12, 6], [6, 13], [14], [15], [16, 15], [15], [15], [18, 19, 15], [17, 20, 15], [15, 21], [22], [23], [24, 23], [25, 23], [26], [27, 26], [26, 28, 23], [23, 29], [30], [31], [32, 31], [31], [34, 31], [35, 31], [33, 36, 31], [31, 37]]) (by kernel_rfl) rfl (by kernel_rfl) (by kernel_rfl) (by kernel_rfl) (by decide) (by kernel_rfl) 60 rfl (by decide) (by decide) (by decide) ?mono6b ?al6b ?step6b ?fin6b
    case mono6b =>
      intro k x W W' hk h g
      obtain rfl | rfl | rfl | rfl | rfl | rfl | rfl | rfl | rfl | rfl | rfl | rfl | rfl | rfl | rfl | rfl | rfl | rfl | rfl | rfl | rfl | rfl | rfl | rfl | rfl | rfl | rfl | rfl | rfl | rfl | rfl | rfl | rfl | rfl | rfl | rfl | rfl | rfl | rfl : k = 0 ∨ k = 1 ∨ k = 2 ∨ k = 3 ∨ k = 4 ∨ k = 5 ∨ k = 6 ∨ k = 7 ∨ k = 8 ∨ k = 9 ∨ k = 10 ∨ k = 11 ∨ k = 12 ∨ k = 13 ∨ k = 14 ∨ k = 15 ∨ k = 16 ∨ k = 17 ∨ k = 18 ∨ k = 19 ∨ k = 20 ∨ k = 21 ∨ k = 22 ∨ k = 23 ∨ k = 24 ∨ k = 25 ∨ k = 26 ∨ k = 27 ∨ k = 28 ∨ k = 29 ∨ k = 30 ∨ k = 31 ∨ k = 32 ∨ k = 33 ∨ k = 34 ∨ k = 35 ∨ k = 36 ∨ k = 37 ∨ k = 38 := by omega
      · exact h
      · exact h
      · exact h
      · exact BytesAt.grown h g
      · exact h
      · exact h
      · exact h
      · exact h
      · exact h
      · exact h
      · exact h
      · exact BytesAt.grown h g
      · exact h
      · exact h
      · exact h
      · exact h
      · exact h
      · exact h
      · exact h
      · exact h
      · exact h
      · exact h
      · exact h
      · exact h
      · exact h
      · exact h
      · exact h
      · exact h
      · exact h
      · exact h
      · exact h
      · exact h
      · exact h
      · exact h
      · exact h
      · exact BytesAt.grown h g
      · exact h
      · exact h
      · exact h
    case al6b =>
      intro k x W hk e h
      obtain rfl | rfl | rfl | rfl | rfl | rfl | rfl | rfl | rfl | rfl | rfl | rfl | rfl | rfl | rfl | rfl | rfl | rfl | rfl | rfl | rfl | rfl | rfl | rfl | rfl | rfl | rfl | rfl | rfl | rfl | rfl | rfl | rfl | rfl | rfl | rfl | rfl | rfl | rfl : k = 0 ∨ k = 1 ∨ k = 2 ∨ k = 3 ∨ k = 4 ∨ k = 5 ∨ k = 6 ∨ k = 7 ∨ k = 8 ∨ k = 9 ∨ k = 10 ∨ k = 11 ∨ k = 12 ∨ k = 13 ∨ k = 14 ∨ k = 15 ∨ k = 16 ∨ k = 17 ∨ k = 18 ∨ k = 19 ∨ k = 20 ∨ k = 21 ∨ k = 22 ∨ k = 23 ∨ k = 24 ∨ k = 25 ∨ k = 26 ∨ k = 27 ∨ k = 28 ∨ k = 29 ∨ k = 30 ∨ k = 31 ∨ k = 32 ∨ k = 33 ∨ k = 34 ∨ k = 35 ∨ k = 36 ∨ k = 37 ∨ k = 38 := by omega
      · exact absurd e (by decide)
      · exact absurd e (by decide)
      · exact absurd e (by decide)
      · exact absurd e (by decide)
      · exact absurd e (by decide)
      · exact absurd e (by decide)
      · exact absurd e (by decide)
      · exact absurd e (by decide)
      · exact absurd e (by decide)
      · exact absurd e (by decide)
      · exact absurd e (by decide)
      · exact absurd e (by decide)
      · exact absurd e (by decide)
      · exact absurd e (by decide)
      · exact absurd e (by decide)
      · exact absurd e (by decide)
      · exact absurd e (by decide)
      · exact absurd e (by decide)
      · exact absurd e (by decide)
      · exact absurd e (by decide)
      · exact absurd e (by decide)
      · exact absurd e (by decide)
      · exact absurd e (by decide)
      · exact absurd e (by decide)
      · exact absurd e (by decide)
      · exact absurd e (by decide)
      · exact absurd e (by decide)
      · exact absurd e (by decide)
      · exact absurd e (by decide)
      · exact absurd e (by decide)
      · exact absurd e (by decide)
      · exact absurd e (by decide)
      · exact absurd e (by decide)
      · exact absurd e (by decide)
      · exact absurd e (by decide)
      · exact absurd e (by decide)
      · exact absurd e (by decide)
      · exact absurd e (by decide)
      · exact absurd e (by decide)
    case step6b =>
      intro k hk
      obtain rfl | rfl | rfl | rfl | rfl | rfl | rfl | rfl | rfl | rfl | rfl | rfl | rfl | rfl | rfl | rfl | rfl | rfl | rfl | rfl | rfl | rfl | rfl | rfl | rfl | rfl | rfl | rfl | rfl | rfl | rfl | rfl | rfl | rfl | rfl | rfl | rfl | rfl | rfl : k = 0 ∨ k = 1 ∨ k = 2 ∨ k = 3 ∨ k = 4 ∨ k = 5 ∨ k = 6 ∨ k = 7 ∨ k = 8 ∨ k = 9 ∨ k = 10 ∨ k = 11 ∨ k = 12 ∨ k = 13 ∨ k = 14 ∨ k = 15 ∨ k = 16 ∨ k = 17 ∨ k = 18 ∨ k = 19 ∨ k = 20 ∨ k = 21 ∨ k = 22 ∨ k = 23 ∨ k = 24 ∨ k = 25 ∨ k = 26 ∨ k = 27 ∨ k = 28 ∨ k = 29 ∨ k = 30 ∨ k = 31 ∨ k = 32 ∨ k = 33 ∨ k = 34 ∨ k = 35 ∨ k = 36 ∨ k = 37 ∨ k = 38 := by omega
      · refine ⟨_, rfl, rfl, fun b W hs hg hD K hK0 => ?_⟩
        refine wpOp_at rfl (wanted_of rfl) ?_
        have hK := fun v W' g h => hK0 v W' g h (fun e => absurd e (by decide))
        have h0 : b.tmps[5]?.getD undef = .pointer (some ⟨B1, 0, none⟩) := (hs 5 (by decide))
        exact rel_val (v := .slice (some ⟨B1, 0, none⟩) 32 32) (run_slicek 5 rfl h0) rfl hK
      · refine ⟨_, rfl, rfl, fun b W hs hg hD K hK0 => ?_⟩
        refine wpOp_at rfl (wanted_of rfl) ?_
        have hK := fun v W' g h => hK0 v W' g h (fun e => absurd e (by decide))
        have h0 : b.tmps[21]?.getD undef = .slice (some ⟨B1, 0, none⟩) 32 32 := (hD 0 (by decide))
        exact rel_val (v := .string tc) (by rw [TC.out]; exact run_convT 21 rfl ((eval_slot b 21).trans h0) (d1.grown hg (by simp)).rdk LC.out) rfl hK
      · refine ⟨_, rfl, rfl, fun b W hs hg hD K hK0 => ?_⟩
        refine wpOp_at rfl (wanted_of rfl) ?_
        have hK := fun v W' g h => hK0 v W' g h (fun e => absurd e (by decide))
        have h0 : b.tmps[2]?.getD undef = .pointer (some ⟨B, 0, none⟩) := (hs 2 (by decide))
        exact rel_val (v := .slice (some ⟨B, 0, none⟩) 32 32) (run_slicek 2 rfl h0) rfl hK
      · refine ⟨_, rfl, rfl, fun b W hs hg hD K hK0 => ?_⟩
        refine wpOp_at rfl (wanted_of rfl) ?_
        have hK := fun v W' g h => hK0 v W' g h (fun e => absurd e (by decide))
        refine rel_call 24 _ (exec_fn1 _ _ _ rfl ((eval_slot b 23).trans (hD 2 (by decide)))) (fun _ _ => rfl) ?_ hK
        exact (RC.out B W (hA.grown hg (by simp)).at32).mono fun e w' h => h.bytes
      · refine ⟨_, rfl, rfl, fun b W hs hg hD K hK0 => ?_⟩
        refine wpOp_at rfl (wanted_of rfl) ?_
        have hK := fun v W' g h => hK0 v W' g h (fun e => absurd e (by decide))
        exact rel_val (v := .string tc) (by rw [TC.out]; obtain ⟨gg, cc, h1, h2⟩ := hD 3 (by decide); exact run_convT 24 rfl ((eval_slot b 24).trans h1) h2.rd LC.out) rfl hK
      · refine ⟨_, rfl, rfl, fun b W hs hg hD K hK0 => ?_⟩
        refine wpOp_at rfl (wanted_of rfl) ?_
        have hK := fun v W' g h => hK0 v W' g h (fun e => absurd e (by decide))
        have h0 : b.tmps[22]?.getD undef = .string tc := (hD 1 (by decide))
        have h1 : b.tmps[25]?.getD undef = .string tc := (hD 4 (by decide))
        exact rel_val (v := .bool true) (run_eqstr 22 25 rfl h0 h1) rfl hK
      · refine ⟨_, rfl, rfl, fun b W hs hg hD K hK0 => ?_⟩
        refine wpOp_at rfl (wanted_of rfl) ?_
        have hK := fun v W' g h => hK0 v W' g h (fun e => absurd e (by decide))
        exact rel_move 26 rfl (hD 5 (by decide)) rfl hK
      · refine ⟨_, rfl, rfl, fun b W hs hg hD K hK0 => ?_⟩
        refine wpOp_at rfl (wanted_is (j := 6) (t := 27) (v := true) rfl rfl (hD 6 (by decide))) ?_
        have hK := fun v W' g h => hK0 v W' g h (fun e => absurd e (by decide))
        have h0 : b.tmps[6]?.getD undef = .pointer (some ⟨B2, 0, none⟩) := (hs 6 (by decide))
        exact rel_val (v := .slice (some ⟨B2, 0, none⟩) 32 32) (run_slicek 6 rfl h0) rfl hK
      · refine ⟨_, rfl, rfl, fun b W hs hg hD K hK0 => ?_⟩
        refine wpOp_at rfl (wanted_is (j := 6) (t := 27) (v := true) rfl rfl (hD 6 (by decide))) ?_
        have hK := fun v W' g h => hK0 v W' g h (fun e => absurd e (by decide))
        have h0 : b.tmps[28]?.getD undef = .slice (some ⟨B2, 0, none⟩) 32 32 := (hD 7 (by decide))
        exact rel_val (v := .string ts) (by rw [TS.out]; exact run_convT 28 rfl ((eval_slot b 28).trans h0) (d2.grown hg (by simp)).rdk LS.out) rfl hK
      · refine ⟨_, rfl, rfl, fun b W hs hg hD K hK0 => ?_⟩
        refine wpOp_at rfl (wanted_is (j := 6) (t := 27) (v := true) rfl rfl (hD 6 (by decide))) ?_
        have hK := fun v W' g h => hK0 v W' g h (fun e => absurd e (by decide))
        have h0 : b.tmps[2]?.getD undef = .pointer (some ⟨B, 0, none⟩) := (hs 2 (by decide))
        exact rel_val (v := .slice (some ⟨B, 0, none⟩) 32 32) (run_slicek 2 rfl h0) rfl hK
      · refine ⟨_, rfl, rfl, fun b W hs hg hD K hK0 => ?_⟩
        refine wpOp_at rfl (wanted_is (j := 6) (t := 27) (v := true) rfl rfl (hD 6 (by decide))) ?_
        have hK := fun v W' g h => hK0 v W' g h (fun e => absurd e (by decide))
        have h0 : b.tmps[3]?.getD undef = .pointer (some ⟨B + 1, 0, none⟩) := (hs 3 (by decide))
        exact rel_val (v := .slice (some ⟨B + 1, 0, none⟩) 32 32) (run_slicek 3 rfl h0) rfl hK
      · refine ⟨_, rfl, rfl, fun b W hs hg hD K hK0 => ?_⟩
        refine wpOp_at rfl (wanted_is (j := 6) (t := 27) (v := true) rfl rfl (hD 6 (by decide))) ?_
        have hK := fun v W' g h => hK0 v W' g h (fun e => absurd e (by decide))
        refine rel_call 25 _ (exec_fn2 _ _ _ _ _ rfl ((eval_slot b 30).trans (hD 9 (by decide))) ((eval_slot b 31).trans (hD 10 (by decide)))) (fun _ _ => rfl) ?_ hK
        exact RS.out B (B + 1) W (hA.grown hg (by simp)).at32 (hB.grown hg (by simp)).at32
      · refine ⟨_, rfl, rfl, fun b W hs hg hD K hK0 => ?_⟩
        refine wpOp_at rfl (wanted_is (j := 6) (t := 27) (v := true) rfl rfl (hD 6 (by decide))) ?_
        have hK := fun v W' g h => hK0 v W' g h (fun e => absurd e (by decide))
        exact rel_val (v := .string ts) (by rw [TS.out]; obtain ⟨gg, cc, h1, h2⟩ := hD 11 (by decide); exact run_convT 32 rfl ((eval_slot b 32).trans h1) h2.rd LS.out) rfl hK
      · refine ⟨_, rfl, rfl, fun b W hs hg hD K hK0 => ?_⟩
        refine wpOp_at rfl (wanted_is (j := 6) (t := 27) (v := true) rfl rfl (hD 6 (by decide))) ?_
        have hK := fun v W' g h => hK0 v W' g h (fun e => absurd e (by decide))
        have h0 : b.tmps[29]?.getD undef = .string ts := (hD 8 (by decide))
        have h1 : b.tmps[33]?.getD undef = .string ts := (hD 12 (by decide))
        exact rel_val (v := .bool true) (run_eqstr 29 33 rfl h0 h1) rfl hK
      · refine ⟨_, rfl, rfl, fun b W hs hg hD K hK0 => ?_⟩
        refine wpOp_at rfl (wanted_of rfl) ?_
        have hK := fun v W' g h => hK0 v W' g h (fun e => absurd e (by decide))
        have h0 : b.tmps[27]?.getD undef = .bool true := (hD 6 (by decide))
        have h1 : b.tmps[34]?.getD undef = .bool true := (hD 13 (by decide))
        exact rel_val (v := .bool true) (by unfold execOp; go_simp) rfl hK
      · refine ⟨_, rfl, rfl, fun b W hs hg hD K hK0 => ?_⟩
        refine wpOp_at rfl (wanted_of rfl) ?_
        have hK := fun v W' g h => hK0 v W' g h (fun e => absurd e (by decide))
        exact rel_move 35 rfl (hD 14 (by decide)) rfl hK
      · refine ⟨_, rfl, rfl, fun b W hs hg hD K hK0 => ?_⟩
        refine wpOp_at rfl (wanted_is (j := 15) (t := 36) (v := true) rfl rfl (hD 15 (by decide))) ?_
        have hK := fun v W' g h => hK0 v W' g h (fun e => absurd e (by decide))
        exact rel_move 7 rfl (hs 7 (by decide)) rfl hK
      · refine ⟨_, rfl, rfl, fun b W hs hg hD K hK0 => ?_⟩
        refine wpOp_at rfl (wanted_is (j := 15) (t := 36) (v := true) rfl rfl (hD 15 (by decide))) ?_
        have hK := fun v W' g h => hK0 v W' g h (fun e => absurd e (by decide))
        have h0 : b.tmps[37]?.getD undef = .int .i64 70 := (hD 16 (by decide))
        exact rel_val (v := .bool true) (by unfold execOp; go_simp) rfl hK
      · refine ⟨_, rfl, rfl, fun b W hs hg hD K hK0 => ?_⟩
        refine wpOp_at rfl (wanted_is (j := 15) (t := 36) (v := true) rfl rfl (hD 15 (by decide))) ?_
        have hK := fun v W' g h => hK0 v W' g h (fun e => absurd e (by decide))
        exact rel_val (run_key (d2.grown hg (by simp)) rfl ((eval_slot b 6).trans (hs 6 (by decide)))) rfl hK
      · refine ⟨_, rfl, rfl, fun b W hs hg hD K hK0 => ?_⟩
        refine wpOp_at rfl (wanted_is (j := 15) (t := 36) (v := true) rfl rfl (hD 15 (by decide))) ?_
        have hK := fun v W' g h => hK0 v W' g h (fun e => absurd e (by decide))
        exact rel_val (v := .agg (cellsOf .u8 32 (fun _ => 0))) (run_newzero rfl) rfl hK
      · refine ⟨_, rfl, rfl, fun b W hs hg hD K hK0 => ?_⟩
        refine wpOp_at rfl (wanted_is (j := 15) (t := 36) (v := true) rfl rfl (hD 15 (by decide))) ?_
        have hK := fun v W' g h => hK0 v W' g h (fun e => absurd e (by decide))
        have h0 : b.tmps[39]?.getD undef = .agg (cellsOf .u8 32 s) := (hD 18 (by decide))
        have h1 : b.tmps[40]?.getD undef = .agg (cellsOf .u8 32 (fun _ => 0)) := (hD 19 (by decide))
        exact rel_val (v := .bool true) (run_eqlkb 39 40 s (fun _ => 0) HQ.out rfl ((eval_slot b 39).trans h0) ((eval_slot b 40).trans h1)) rfl hK
      · refine ⟨_, rfl, rfl, fun b W hs hg hD K hK0 => ?_⟩
        refine wpOp_at rfl (wanted_is (j := 15) (t := 36) (v := true) rfl rfl (hD 15 (by decide))) ?_
        have hK := fun v W' g h => hK0 v W' g h (fun e => absurd e (by decide))
        have h0 : b.tmps[38]?.getD undef = .bool true := (hD 17 (by decide))
        have h1 : b.tmps[41]?.getD undef = .bool true := (hD 20 (by decide))
        exact rel_val (v := .bool true) (by unfold execOp; go_simp) rfl hK
      · refine ⟨_, rfl, rfl, fun b W hs hg hD K hK0 => ?_⟩
        refine wpOp_at rfl (wanted_of rfl) ?_
        have hK := fun v W' g h => hK0 v W' g h (fun e => absurd e (by decide))
        have h0 : b.tmps[36]?.getD undef = .bool true := (hD 15 (by decide))
        have h1 : b.tmps[42]?.getD undef = .bool true := (hD 21 (by decide))
        exact rel_val (v := .bool true) (by unfold execOp; go_simp) rfl hK
      · refine ⟨_, rfl, rfl, fun b W hs hg hD K hK0 => ?_⟩
        refine wpOp_at rfl (wanted_of rfl) ?_
        have hK := fun v W' g h => hK0 v W' g h (fun e => absurd e (by decide))
        exact rel_move 43 rfl (hD 22 (by decide)) rfl hK
      · refine ⟨_, rfl, rfl, fun b W hs hg hD K hK0 => ?_⟩
        refine wpOp_at rfl (wanted_is (j := 23) (t := 44) (v := true) rfl rfl (hD 23 (by decide))) ?_
        have hK := fun v W' g h => hK0 v W' g h (fun e => absurd e (by decide))
        exact rel_move 7 rfl (hs 7 (by decide)) rfl hK
      · refine ⟨_, rfl, rfl, fun b W hs hg hD K hK0 => ?_⟩
        refine wpOp_at rfl (wanted_is (j := 23) (t := 44) (v := true) rfl rfl (hD 23 (by decide))) ?_
        have hK := fun v W' g h => hK0 v W' g h (fun e => absurd e (by decide))
        have h0 : b.tmps[45]?.getD undef = .int .i64 70 := (hD 24 (by decide))
        exact rel_val (v := .bool false) (by unfold execOp; go_simp) rfl hK
      · refine ⟨_, rfl, rfl, fun b W hs hg hD K hK0 => ?_⟩
        refine wpOp_at rfl (wanted_is (j := 23) (t := 44) (v := true) rfl rfl (hD 23 (by decide))) ?_
        have hK := fun v W' g h => hK0 v W' g h (fun e => absurd e (by decide))
        exact rel_move 46 rfl (hD 25 (by decide)) rfl hK
      · refine ⟨_, rfl, rfl, fun b W hs hg hD K hK0 => ?_⟩
        refine wpOp_at rfl (wanted_is (j := 26) (t := 47) (v := false) rfl rfl (hD 26 (by decide))) ?_
        have hK := fun v W' g h => hK0 v W' g h (fun e => absurd e (by decide))
        exact rel_move 7 rfl (hs 7 (by decide)) rfl hK
      · refine ⟨_, rfl, rfl, fun b W hs hg hD K hK0 => ?_⟩
        refine wpOp_at rfl (wanted_is (j := 26) (t := 47) (v := false) rfl rfl (hD 26 (by decide))) ?_
        have hK := fun v W' g h => hK0 v W' g h (fun e => absurd e (by decide))
        have h0 : b.tmps[48]?.getD undef = .int .i64 70 := (hD 27 (by decide))
        exact rel_val (v := .bool true) (by unfold execOp; go_simp) rfl hK
      · refine ⟨_, rfl, rfl, fun b W hs hg hD K hK0 => ?_⟩
        refine wpOp_at rfl (wanted_is (j := 23) (t := 44) (v := true) rfl rfl (hD 23 (by decide))) ?_
        have hK := fun v W' g h => hK0 v W' g h (fun e => absurd e (by decide))
        have h0 : b.tmps[47]?.getD undef = .bool false := (hD 26 (by decide))
        have h1 : b.tmps[49]?.getD undef = .bool true := (hD 28 (by decide))
        exact rel_val (v := .bool true) (by unfold execOp; go_simp) rfl hK
      · refine ⟨_, rfl, rfl, fun b W hs hg hD K hK0 => ?_⟩
        refine wpOp_at rfl (wanted_of rfl) ?_
        have hK := fun v W' g h => hK0 v W' g h (fun e => absurd e (by decide))
        have h0 : b.tmps[44]?.getD undef = .bool true := (hD 23 (by decide))
        have h1 : b.tmps[50]?.getD undef = .bool true := (hD 29 (by decide))
        exact rel_val (v := .bool true) (by unfold execOp; go_simp) rfl hK
      · refine ⟨_, rfl, rfl, fun b W hs hg hD K hK0 => ?_⟩
        refine wpOp_at rfl (wanted_of rfl) ?_
        have hK := fun v W' g h => hK0 v W' g h (fun e => absurd e (by decide))
        exact rel_move 51 rfl (hD 30 (by decide)) rfl hK
      · refine ⟨_, rfl, rfl, fun b W hs hg hD K hK0 => ?_⟩
        refine wpOp_at rfl (wanted_is (j := 31) (t := 52) (v := true) rfl rfl (hD 31 (by decide))) ?_
        have hK := fun v W' g h => hK0 v W' g h (fun e => absurd e (by decide))
        have h0 : b.tmps[8]?.getD undef = .pointer (some ⟨B3, 0, none⟩) := (hs 8 (by decide))
        exact rel_val (v := .slice (some ⟨B3, 0, none⟩) 32 32) (run_slicek 8 rfl h0) rfl hK
      · refine ⟨_, rfl, rfl, fun b W hs hg hD K hK0 => ?_⟩
        refine wpOp_at rfl (wanted_is (j := 31) (t := 52) (v := true) rfl rfl (hD 31 (by decide))) ?_
        have hK := fun v W' g h => hK0 v W' g h (fun e => absurd e (by decide))
        have h0 : b.tmps[53]?.getD undef = .slice (some ⟨B3, 0, none⟩) 32 32 := (hD 32 (by decide))
        exact rel_val (v := .string tp) (by rw [TP.out]; exact run_convT 53 rfl ((eval_slot b 53).trans h0) (d3.grown hg (by simp)).rdk LP.out) rfl hK
      · refine ⟨_, rfl, rfl, fun b W hs hg hD K hK0 => ?_⟩
        refine wpOp_at rfl (wanted_is (j := 31) (t := 52) (v := true) rfl rfl (hD 31 (by decide))) ?_
        have hK := fun v W' g h => hK0 v W' g h (fun e => absurd e (by decide))
        have h0 : b.tmps[2]?.getD undef = .pointer (some ⟨B, 0, none⟩) := (hs 2 (by decide))
        exact rel_val (v := .slice (some ⟨B, 0, none⟩) 32 32) (run_slicek 2 rfl h0) rfl hK
      · refine ⟨_, rfl, rfl, fun b W hs hg hD K hK0 => ?_⟩
        refine wpOp_at rfl (wanted_is (j := 31) (t := 52) (v := true) rfl rfl (hD 31 (by decide))) ?_
        have hK := fun v W' g h => hK0 v W' g h (fun e => absurd e (by decide))
        refine rel_call 26 _ (exec_fn1 _ _ _ rfl ((eval_slot b 55).trans (hD 34 (by decide)))) (fun _ _ => rfl) ?_ hK
        exact RP.out B W (hA.grown hg (by simp)).at32
      · refine ⟨_, rfl, rfl, fun b W hs hg hD K hK0 => ?_⟩
        refine wpOp_at rfl (wanted_is (j := 31) (t := 52) (v := true) rfl rfl (hD 31 (by decide))) ?_
        have hK := fun v W' g h => hK0 v W' g h (fun e => absurd e (by decide))
        exact rel_val (v := .string tp) (by rw [TP.out]; obtain ⟨gg, cc, h1, h2⟩ := hD 35 (by decide); exact run_convT 56 rfl ((eval_slot b 56).trans h1) h2.rd LP.out) rfl hK
      · refine ⟨_, rfl, rfl, fun b W hs hg hD K hK0 => ?_⟩
        refine wpOp_at rfl (wanted_is (j := 31) (t := 52) (v := true) rfl rfl (hD 31 (by decide))) ?_
        have hK := fun v W' g h => hK0 v W' g h (fun e => absurd e (by decide))
        have h0 : b.tmps[54]?.getD undef = .string tp := (hD 33 (by decide))
        have h1 : b.tmps[57]?.getD undef = .string tp := (hD 36 (by decide))
        exact rel_val (v := .bool true) (run_eqstr 54 57 rfl h0 h1) rfl hK
      · refine ⟨_, rfl, rfl, fun b W hs hg hD K hK0 => ?_⟩
        refine wpOp_at rfl (wanted_of rfl) ?_
        have hK := fun v W' g h => hK0 v W' g h (fun e => absurd e (by decide))
        have h0 : b.tmps[52]?.getD undef = .bool true := (hD 31 (by decide))
        have h1 : b.tmps[58]?.getD undef = .bool true := (hD 37 (by decide))
        exact rel_val (v := .bool true) (by unfold execOp; go_simp) rfl hK
    intro vals W hg hR hap
    have e1 : vals 38 = .bool true := hR 38 (by decide)
    clear hR hap
    simp only [putsN, atL, Act.put, List.getD_cons_zero, List.getD_cons_succ, List.setIfInBounds_toArray, List.set_cons_succ, List.set_cons_zero, e1]
    generalize vals 0 = q0
    generalize vals 1 = q1
    generalize vals 2 = q2
    generalize vals 3 = q3
    generalize vals 4 = q4
    generalize vals 5 = q5
    generalize vals 6 = q6
    generalize vals 7 = q7
    generalize vals 8 = q8
    generalize vals 9 = q9
    generalize vals 10 = q10
    generalize vals 11 = q11
    generalize vals 12 = q12
    generalize vals 13 = q13
    generalize vals 14 = q14
    generalize vals 15 = q15
    generalize vals 16 = q16
    generalize vals 17 = q17
    generalize vals 18 = q18
    generalize vals 19 = q19
    generalize vals 20 = q20
    generalize vals 21 = q21
    generalize vals 22 = q22
    generalize vals 23 = q23
    generalize vals 24 = q24
    generalize vals 25 = q25
    generalize vals 26 = q26
    generalize vals 27 = q27
    generalize vals 28 = q28
    generalize vals 29 = q29
    generalize vals 30 = q30
    generalize vals 31 = q31
    generalize vals 32 = q32
    generalize vals 33 = q33
    generalize vals 34 = q34
    generalize vals 35 = q35
    generalize vals 36 = q36
    generalize vals 37 = q37
    clear e1 vals
    show wpAnyH _ _ _ _ _ 1 #[true, true, true, true, true, true, true, true, true, true, true, true, true, true, true, true, true, true, true, true, true, true, true, true, true, true, true, true, true, true, true, true, true, true, true, true, true, true, true, false] _ _
    refine wpAnyH_yieldD (some 4) (i := 39) (v := .bool true) (by kernel_rfl) rfl rfl rfl (by unfold execOp; go_simp) hg ?_
    simp only [Act.put, List.setIfInBounds_toArray, List.set_cons_succ, List.set_cons_zero]
    refine wpAnyH_done (by kernel_rfl) ?_ _
    have gF := grown_trans gr hg
    clear hg gr hA hB d1 d2 d3
    go_wp2_with fail
    go_ret
    exact ⟨⟨rfl, gF⟩⟩
  · as_aux_lemma =>
    have hq : eqN 32 s (fun _ => 0) = false := by rw [HE.out]; exact beq_eq_false_iff_ne.2 hv
    have HQ := Lib.hid hq
    have he : ev = 0 := by rw [HEV.out]; exact if_neg hv
    subst he
    clear hv hq HE HEV
    refine wp_region_rel_c (fun W => V4.grownBy W none) (fun _ h => h) (alL []) (relL [fun vv _ => vv = .slice (some ⟨B1, 0, none⟩) 32 32, fun vv _ => vv = .string tc, fun vv _ => vv = .slice (some ⟨B, 0, none⟩) 32 32, BytesAt c, fun vv _ => vv = .string tc, fun vv _ => vv = .bool true, fun vv _ => vv = .bool true, fun vv _ => vv = .slice (some ⟨B2, 0, none⟩) 32 32, fun vv _ => vv = .string ts, fun vv _ => vv = .slice (some ⟨B, 0, none⟩) 32 32, fun vv _ => vv = .slice (some ⟨B + 1, 0, none⟩) 32 32, BytesAt s, fun vv _ => vv = .string ts, fun vv _ => vv = .bool true, fun vv _ => vv = .bool true, fun vv _ => vv = .bool true, fun vv _ => vv = .int .i64 0, fun vv _ => vv = .bool false, fun vv _ => vv = .agg (cellsOf .u8 32 s), fun vv _ => vv = .agg (cellsOf .u8 32 (fun _ => 0)), fun vv _ => vv = .bool false, fun vv _ => vv = .bool true, fun vv _ => vv = .bool true, fun vv _ => vv = .bool true, fun vv _ => vv = .int .i64 0, fun vv _ => vv = .bool true, fun vv _ => vv = .bool true, fun vv _ => vv = undef, fun vv _ => vv = undef, fun vv _ => vv = .bool true, fun vv _ => vv = .bool true, fun vv _ => vv = .bool true, fun vv _ => vv = .slice (some ⟨B3, 0, none⟩) 32 32, fun vv _ => vv = .string tp, fun vv _ => vv = .slice (some ⟨B, 0, none⟩) 32 32, BytesAt p, fun vv _ => vv = .string tp, fun vv _ => vv = .bool true, fun vv _ => vv = .bool true])
      39 1 (atL [21, 22, 23, 24, 25, 26, 27, 28, 29, 30, 31, 32, 33, 34, 35, 36, 37, 38, 39, 40, 41, 42, 43, 44, 45, 46, 47, 48, 49, 50, 51, 52, 53, 54, 55, 56, 57, 58, 59]) (depL [[], [0], [], [2], [3], [1, 4], [5], [6], [7, 6], [6], [6], [9, 10, 6], [11, 6], [8, 12, 6], [6, 13], [14], [15], [16, 15], [15], [15], [18, 19, 15], [17, 20, 15], [15, 21], [22], [23], [24, 23], [25, 23], [26], [27, 26], [26, 28, 23], [23, 29], [30], [31], [32, 31], [31], [34, 31], [35, 31], [33, 36, 31], [31, 37]]) (by kernel_rfl) rfl (by kernel_rfl) (by kernel_rfl) (by kernel_rfl) (by decide) (by kernel_rfl) 60 rfl (by decide) (by decide) (by decide) ?mono6a ?al6a ?step6a ?fin6a
    case mono6a =>
      intro k x W W' hk h g
      obtain rfl | rfl | rfl | rfl | rfl | rfl | rfl | rfl | rfl | rfl | rfl | rfl | rfl | rfl | rfl | rfl | rfl | rfl | rfl | rfl | rfl | rfl | rfl | rfl | rfl | rfl | rfl | rfl | rfl | rfl | rfl | rfl | rfl | rfl | rfl | rfl | rfl | rfl | rfl : k = 0 ∨ k = 1 ∨ k = 2 ∨ k = 3 ∨ k = 4 ∨ k = 5 ∨ k = 6 ∨ k = 7 ∨ k = 8 ∨ k = 9 ∨ k = 10 ∨ k = 11 ∨ k = 12 ∨ k = 13 ∨ k = 14 ∨ k = 15 ∨ k = 16 ∨ k = 17 ∨ k = 18 ∨ k = 19 ∨ k = 20 ∨ k = 21 ∨ k = 22 ∨ k = 23 ∨ k = 24 ∨ k = 25 ∨ k = 26 ∨ k = 27 ∨ k = 28 ∨ k = 29 ∨ k = 30 ∨ k = 31 ∨ k = 32 ∨ k = 33 ∨ k = 34 ∨ k = 35 ∨ k = 36 ∨ k = 37 ∨ k = 38 := by omega
      · exact h
      · exact h
      · exact h
      · exact BytesAt.grown h g
      · exact h
      · exact h
      · exact h
      · exact h
      · exact h
      · exact h
      · exact h
      · exact BytesAt.grown h g
      · exact h
      · exact h
      · exact h
      · exact h
      · exact h
      · exact h
      · exact h
      · exact h
      · exact h
      · exact h
      · exact h
      · exact h
      · exact h
      · exact h
      · exact h
      · exact h
      · exact h
      · exact h
      · exact h
      · exact h
      · exact h
      · exact h
      · exact h
      · exact BytesAt.grown h g
      · exact h
      · exact h
      · exact h
    case al6a =>
      intro k x W hk e h
      obtain rfl | rfl | rfl | rfl | rfl | rfl | rfl | rfl | rfl | rfl | rfl | rfl | rfl | rfl | rfl | rfl | rfl | rfl | rfl | rfl | rfl | rfl | rfl | rfl | rfl | rfl | rfl | rfl | rfl | rfl | rfl | rfl | rfl | rfl | rfl | rfl | rfl | rfl | rfl : k = 0 ∨ k = 1 ∨ k = 2 ∨ k = 3 ∨ k = 4 ∨ k = 5 ∨ k = 6 ∨ k = 7 ∨ k = 8 ∨ k = 9 ∨ k = 10 ∨ k = 11 ∨ k = 12 ∨ k = 13 ∨ k = 14 ∨ k = 15 ∨ k = 16 ∨ k = 17 ∨ k = 18 ∨ k = 19 ∨ k = 20 ∨ k = 21 ∨ k = 22 ∨ k = 23 ∨ k = 24 ∨ k = 25 ∨ k = 26 ∨ k = 27 ∨ k = 28 ∨ k = 29 ∨ k = 30 ∨ k = 31 ∨ k = 32 ∨ k = 33 ∨ k = 34 ∨ k = 35 ∨ k = 36 ∨ k = 37 ∨ k = 38 := by omega
      · exact absurd e (by decide)
      · exact absurd e (by decide)
      · exact absurd e (by decide)
      · exact absurd e (by decide)
      · exact absurd e (by decide)
      · exact absurd e (by decide)
      · exact absurd e (by decide)
      · exact absurd e (by decide)
      · exact absurd e (by decide)
      · exact absurd e (by decide)
      · exact absurd e (by decide)
      · exact absurd e (by decide)
      · exact absurd e (by decide)
      · exact absurd e (by decide)
      · exact absurd e (by decide)
      · exact absurd e (by decide)
      · exact absurd e (by decide)
      · exact absurd e (by decide)
      · exact absurd e (by decide)
      · exact absurd e (by decide)
      · exact absurd e (by decide)
      · exact absurd e (by decide)
      · exact absurd e (by decide)
      · exact absurd e (by decide)
      · exact absurd e (by decide)
      · exact absurd e (by decide)
      · exact absurd e (by decide)
      · exact absurd e (by decide)
      · exact absurd e (by decide)
      · exact absurd e (by decide)
      · exact absurd e (by decide)
      · exact absurd e (by decide)
      · exact absurd e (by decide)
      · exact absurd e (by decide)
      · exact absurd e (by decide)
      · exact absurd e (by decide)
      · exact absurd e (by decide)
      · exact absurd e (by decide)
      · exact absurd e (by decide)
    case step6a =>
      intro k hk
      obtain rfl | rfl | rfl | rfl | rfl | rfl | rfl | rfl | rfl | rfl | rfl | rfl | rfl | rfl | rfl | rfl | rfl | rfl | rfl | rfl | rfl | rfl | rfl | rfl | rfl | rfl | rfl | rfl | rfl | rfl | rfl | rfl | rfl | rfl | rfl | rfl | rfl | rfl | rfl : k = 0 ∨ k = 1 ∨ k = 2 ∨ k = 3 ∨ k = 4 ∨ k = 5 ∨ k = 6 ∨ k = 7 ∨ k = 8 ∨ k = 9 ∨ k = 10 ∨ k = 11 ∨ k = 12 ∨ k = 13 ∨ k = 14 ∨ k = 15 ∨ k = 16 ∨ k = 17 ∨ k = 18 ∨ k = 19 ∨ k = 20 ∨ k = 21 ∨ k = 22 ∨ k = 23 ∨ k = 24 ∨ k = 25 ∨ k = 26 ∨ k = 27 ∨ k = 28 ∨ k = 29 ∨ k = 30 ∨ k = 31 ∨ k = 32 ∨ k = 33 ∨ k = 34 ∨ k = 35 ∨ k = 36 ∨ k = 37 ∨ k = 38 := by omega
      · refine ⟨_, rfl, rfl, fun b W hs hg hD K hK0 => ?_⟩
        refine wpOp_at rfl (wanted_of rfl) ?_
        have hK := fun v W' g h => hK0 v W' g h (fun e => absurd e (by decide))
        have h0 : b.tmps[5]?.getD undef = .pointer (some ⟨B1, 0, none⟩) := (hs 5 (by decide))
        exact rel_val (v := .slice (some ⟨B1, 0, none⟩) 32 32) (run_slicek 5 rfl h0) rfl hK
      · refine ⟨_, rfl, rfl, fun b W hs hg hD K hK0 => ?_⟩
        refine wpOp_at rfl (wanted_of rfl) ?_
        have hK := fun v W' g h => hK0 v W' g h (fun e => absurd e (by decide))
        have h0 : b.tmps[21]?.getD undef = .slice (some ⟨B1, 0, none⟩) 32 32 := (hD 0 (by decide))
        exact rel_val (v := .string tc) (by rw [TC.out]; exact run_convT 21 rfl ((eval_slot b 21).trans h0) (d1.grown hg (by simp)).rdk LC.out) rfl hK
      · refine ⟨_, rfl, rfl, fun b W hs hg hD K hK0 => ?_⟩
        refine wpOp_at rfl (wanted_of rfl) ?_
        have hK := fun v W' g h => hK0 v W' g h (fun e => absurd e (by decide))
        have h0 : b.tmps[2]?.getD undef = .pointer (some ⟨B, 0, none⟩) := (hs 2 (by decide))
        exact rel_val (v := .slice (some ⟨B, 0, none⟩) 32 32) (run_slicek 2 rfl h0) rfl hK
      · refine ⟨_, rfl, rfl, fun b W hs hg hD K hK0 => ?_⟩
        refine wpOp_at rfl (wanted_of rfl) ?_
        have hK := fun v W' g h => hK0 v W' g h (fun e => absurd e (by decide))
        refine rel_call 24 _ (exec_fn1 _ _ _ rfl ((eval_slot b 23).trans (hD 2 (by decide)))) (fun _ _ => rfl) ?_ hK
        exact (RC.out B W (hA.grown hg (by simp)).at32).mono fun e w' h => h.bytes
      · refine ⟨_, rfl, rfl, fun b W hs hg hD K hK0 => ?_⟩
        refine wpOp_at rfl (wanted_of rfl) ?_
        have hK := fun v W' g h => hK0 v W' g h (fun e => absurd e (by decide))
        exact rel_val (v := .string tc) (by rw [TC.out]; obtain ⟨gg, cc, h1, h2⟩ := hD 3 (by decide); exact run_convT 24 rfl ((eval_slot b 24).trans h1) h2.rd LC.out) rfl hK
      · refine ⟨_, rfl, rfl, fun b W hs hg hD K hK0 => ?_⟩
        refine wpOp_at rfl (wanted_of rfl) ?_
        have hK := fun v W' g h => hK0 v W' g h (fun e => absurd e (by decide))
        have h0 : b.tmps[22]?.getD undef = .string tc := (hD 1 (by decide))
        have h1 : b.tmps[25]?.getD undef = .string tc := (hD 4 (by decide))
        exact rel_val (v := .bool true) (run_eqstr 22 25 rfl h0 h1) rfl hK
      · refine ⟨_, rfl, rfl, fun b W hs hg hD K hK0 => ?_⟩
        refine wpOp_at rfl (wanted_of rfl) ?_
        have hK := fun v W' g h => hK0 v W' g h (fun e => absurd e (by decide))
        exact rel_move 26 rfl (hD 5 (by decide)) rfl hK
      · refine ⟨_, rfl, rfl, fun b W hs hg hD K hK0 => ?_⟩
        refine wpOp_at rfl (wanted_is (j := 6) (t := 27) (v := true) rfl rfl (hD 6 (by decide))) ?_
        have hK := fun v W' g h => hK0 v W' g h (fun e => absurd e (by decide))
        have h0 : b.tmps[6]?.getD undef = .pointer (some ⟨B2, 0, none⟩) := (hs 6 (by decide))
        exact rel_val (v := .slice (some ⟨B2, 0, none⟩) 32 32) (run_slicek 6 rfl h0) rfl hK
      · refine ⟨_, rfl, rfl, fun b W hs hg hD K hK0 => ?_⟩
        refine wpOp_at rfl (wanted_is (j := 6) (t := 27) (v := true) rfl rfl (hD 6 (by decide))) ?_
        have hK := fun v W' g h => hK0 v W' g h (fun e => absurd e (by decide))
        have h0 : b.tmps[28]?.getD undef = .slice (some ⟨B2, 0, none⟩) 32 32 := (hD 7 (by decide))
        exact rel_val (v := .string ts) (by rw [TS.out]; exact run_convT 28 rfl ((eval_slot b 28).trans h0) (d2.grown hg (by simp)).rdk LS.out) rfl hK
      · refine ⟨_, rfl, rfl, fun b W hs hg hD K hK0 => ?_⟩
        refine wpOp_at rfl (wanted_is (j := 6) (t := 27) (v := true) rfl rfl (hD 6 (by decide))) ?_
        have hK := fun v W' g h => hK0 v W' g h (fun e => absurd e (by decide))
        have h0 : b.tmps[2]?.getD undef = .pointer (some ⟨B, 0, none⟩) := (hs 2 (by decide))
        exact rel_val (v := .slice (some ⟨B, 0, none⟩) 32 32) (run_slicek 2 rfl h0) rfl hK
      · refine ⟨_, rfl, rfl, fun b W hs hg hD K hK0 => ?_⟩
        refine wpOp_at rfl (wanted_is (j := 6) (t := 27) (v := true) rfl rfl (hD 6 (by decide))) ?_
        have hK := fun v W' g h => hK0 v W' g h (fun e => absurd e (by decide))
        have h0 : b.tmps[3]?.getD undef = .pointer (some ⟨B + 1, 0, none⟩) := (hs 3 (by decide))
        exact rel_val (v := .slice (some ⟨B + 1, 0, none⟩) 32 32) (run_slicek 3 rfl h0) rfl hK
      · refine ⟨_, rfl, rfl, fun b W hs hg hD K hK0 => ?_⟩
        refine wpOp_at rfl (wanted_is (j := 6) (t := 27) (v := true) rfl rfl (hD 6 (by decide))) ?_
        have hK := fun v W' g h => hK0 v W' g h (fun e => absurd e (by decide))
        refine rel_call 25 _ (exec_fn2 _ _ _ _ _ rfl ((eval_slot b 30).trans (hD 9 (by decide))) ((eval_slot b 31).trans (hD 10 (by decide)))) (fun _ _ => rfl) ?_ hK
        exact RS.out B (B + 1) W (hA.grown hg (by simp)).at32 (hB.grown hg (by simp)).at32
      · refine ⟨_, rfl, rfl, fun b W hs hg hD K hK0 => ?_⟩
        refine wpOp_at rfl (wanted_is (j := 6) (t := 27) (v := true) rfl rfl (hD 6 (by decide))) ?_
        have hK := fun v W' g h => hK0 v W' g h (fun e => absurd e (by decide))
        exact rel_val (v := .string ts) (by rw [TS.out]; obtain ⟨gg, cc, h1, h2⟩ := hD 11 (by decide); exact run_convT 32 rfl ((eval_slot b 32).trans h1) h2.rd LS.out) rfl hK
      · refine ⟨_, rfl, rfl, fun b W hs hg hD K hK0 => ?_⟩
        refine wpOp_at rfl (wanted_is (j := 6) (t := 27) (v := true) rfl rfl (hD 6 (by decide))) ?_
        have hK := fun v W' g h => hK0 v W' g h (fun e => absurd e (by decide))
        have h0 : b.tmps[29]?.getD undef = .string ts := (hD 8 (by decide))
        have h1 : b.tmps[33]?.getD undef = .string ts := (hD 12 (by decide))
        exact rel_val (v := .bool true) (run_eqstr 29 33 rfl h0 h1) rfl hK
      · refine ⟨_, rfl, rfl, fun b W hs hg hD K hK0 => ?_⟩
        refine wpOp_at rfl (wanted_of rfl) ?_
        have hK := fun v W' g h => hK0 v W' g h (fun e => absurd e (by decide))
        have h0 : b.tmps[27]?.getD undef = .bool true := (hD 6 (by decide))
        have h1 : b.tmps[34]?.getD undef = .bool true := (hD 13 (by decide))
        exact rel_val (v := .bool true) (by unfold execOp; go_simp) rfl hK
      · refine ⟨_, rfl, rfl, fun b W hs hg hD K hK0 => ?_⟩
        refine wpOp_at rfl (wanted_of rfl) ?_
        have hK := fun v W' g h => hK0 v W' g h (fun e => absurd e (by decide))
        exact rel_move 35 rfl (hD 14 (by decide)) rfl hK
      · refine ⟨_, rfl, rfl, fun b W hs hg hD K hK0 => ?_⟩
        refine wpOp_at rfl (wanted_is (j := 15) (t := 36) (v := true) rfl rfl (hD 15 (by decide))) ?_
        have hK := fun v W' g h => hK0 v W' g h (fun e => absurd e (by decide))
        exact rel_move 7 rfl (hs 7 (by decide)) rfl hK
      · refine ⟨_, rfl, rfl, fun b W hs hg hD K hK0 => ?_⟩
        refine wpOp_at rfl (wanted_is (j := 15) (t := 36) (v := true) rfl rfl (hD 15 (by decide))) ?_
        have hK := fun v W' g h => hK0 v W' g h (fun e => absurd e (by decide))
        have h0 : b.tmps[37]?.getD undef = .int .i64 0 := (hD 16 (by decide))
        exact rel_val (v := .bool false) (by unfold execOp; go_simp) rfl hK
      · refine ⟨_, rfl, rfl, fun b W hs hg hD K hK0 => ?_⟩
        refine wpOp_at rfl (wanted_is (j := 15) (t := 36) (v := true) rfl rfl (hD 15 (by decide))) ?_
        have hK := fun v W' g h => hK0 v W' g h (fun e => absurd e (by decide))
        exact rel_val (run_key (d2.grown hg (by simp)) rfl ((eval_slot b 6).trans (hs 6 (by decide)))) rfl hK
      · refine ⟨_, rfl, rfl, fun b W hs hg hD K hK0 => ?_⟩
        refine wpOp_at rfl (wanted_is (j := 15) (t := 36) (v := true) rfl rfl (hD 15 (by decide))) ?_
        have hK := fun v W' g h => hK0 v W' g h (fun e => absurd e (by decide))
        exact rel_val (v := .agg (cellsOf .u8 32 (fun _ => 0))) (run_newzero rfl) rfl hK
      · refine ⟨_, rfl, rfl, fun b W hs hg hD K hK0 => ?_⟩
        refine wpOp_at rfl (wanted_is (j := 15) (t := 36) (v := true) rfl rfl (hD 15 (by decide))) ?_
        have hK := fun v W' g h => hK0 v W' g h (fun e => absurd e (by decide))
        have h0 : b.tmps[39]?.getD undef = .agg (cellsOf .u8 32 s) := (hD 18 (by decide))
        have h1 : b.tmps[40]?.getD undef = .agg (cellsOf .u8 32 (fun _ => 0)) := (hD 19 (by decide))
        exact rel_val (v := .bool false) (run_eqlkb 39 40 s (fun _ => 0) HQ.out rfl ((eval_slot b 39).trans h0) ((eval_slot b 40).trans h1)) rfl hK
      · refine ⟨_, rfl, rfl, fun b W hs hg hD K hK0 => ?_⟩
        refine wpOp_at rfl (wanted_is (j := 15) (t := 36) (v := true) rfl rfl (hD 15 (by decide))) ?_
        have hK := fun v W' g h => hK0 v W' g h (fun e => absurd e (by decide))
        have h0 : b.tmps[38]?.getD undef = .bool false := (hD 17 (by decide))
        have h1 : b.tmps[41]?.getD undef = .bool false := (hD 20 (by decide))
        exact rel_val (v := .bool true) (by unfold execOp; go_simp) rfl hK
      · refine ⟨_, rfl, rfl, fun b W hs hg hD K hK0 => ?_⟩
        refine wpOp_at rfl (wanted_of rfl) ?_
        have hK := fun v W' g h => hK0 v W' g h (fun e => absurd e (by decide))
        have h0 : b.tmps[36]?.getD undef = .bool true := (hD 15 (by decide))
        have h1 : b.tmps[42]?.getD undef = .bool true := (hD 21 (by decide))
        exact rel_val (v := .bool true) (by unfold execOp; go_simp) rfl hK
      · refine ⟨_, rfl, rfl, fun b W hs hg hD K hK0 => ?_⟩
        refine wpOp_at rfl (wanted_of rfl) ?_
        have hK := fun v W' g h => hK0 v W' g h (fun e => absurd e (by decide))
        exact rel_move 43 rfl (hD 22 (by decide)) rfl hK
      · refine ⟨_, rfl, rfl, fun b W hs hg hD K hK0 => ?_⟩
        refine wpOp_at rfl (wanted_is (j := 23) (t := 44) (v := true) rfl rfl (hD 23 (by decide))) ?_
        have hK := fun v W' g h => hK0 v W' g h (fun e => absurd e (by decide))
        exact rel_move 7 rfl (hs 7 (by decide)) rfl hK
      · refine ⟨_, rfl, rfl, fun b W hs hg hD K hK0 => ?_⟩
        refine wpOp_at rfl (wanted_is (j := 23) (t := 44) (v := true) rfl rfl (hD 23 (by decide))) ?_
        have hK := fun v W' g h => hK0 v W' g h (fun e => absurd e (by decide))
        have h0 : b.tmps[45]?.getD undef = .int .i64 0 := (hD 24 (by decide))
        exact rel_val (v := .bool true) (by unfold execOp; go_simp) rfl hK
      · refine ⟨_, rfl, rfl, fun b W hs hg hD K hK0 => ?_⟩
        refine wpOp_at rfl (wanted_is (j := 23) (t := 44) (v := true) rfl rfl (hD 23 (by decide))) ?_
        have hK := fun v W' g h => hK0 v W' g h (fun e => absurd e (by decide))
        exact rel_move 46 rfl (hD 25 (by decide)) rfl hK
      · refine ⟨_, rfl, rfl, fun b W hs hg hD K hK0 => ?_⟩
        exact wpOp_skip rfl (wanted_not (j := 26) (t := 47) (v := true) rfl rfl (hD 26 (by decide))) (hK0 _ _ (grown_refl W none) rfl (fun e => absurd e (by decide)))
      · refine ⟨_, rfl, rfl, fun b W hs hg hD K hK0 => ?_⟩
        exact wpOp_skip rfl (wanted_not (j := 26) (t := 47) (v := true) rfl rfl (hD 26 (by decide))) (hK0 _ _ (grown_refl W none) rfl (fun e => absurd e (by decide)))
      · refine ⟨_, rfl, rfl, fun b W hs hg hD K hK0 => ?_⟩
        refine wpOp_at rfl (wanted_is (j := 23) (t := 44) (v := true) rfl rfl (hD 23 (by decide))) ?_
        have hK := fun v W' g h => hK0 v W' g h (fun e => absurd e (by decide))
        have h0 : b.tmps[47]?.getD undef = .bool true := (hD 26 (by decide))
        have h1 : b.tmps[49]?.getD undef = undef := (hD 28 (by decide))
        exact rel_val (v := .bool true) (by unfold execOp; go_simp) rfl hK
      · refine ⟨_, rfl, rfl, fun b W hs hg hD K hK0 => ?_⟩
        refine wpOp_at rfl (wanted_of rfl) ?_
        have hK := fun v W' g h => hK0 v W' g h (fun e => absurd e (by decide))
        have h0 : b.tmps[44]?.getD undef = .bool true := (hD 23 (by decide))
        have h1 : b.tmps[50]?.getD undef = .bool true := (hD 29 (by decide))
        exact rel_val (v := .bool true) (by unfold execOp; go_simp) rfl hK
      · refine ⟨_, rfl, rfl, fun b W hs hg hD K hK0 => ?_⟩
        refine wpOp_at rfl (wanted_of rfl) ?_
        have hK := fun v W' g h => hK0 v W' g h (fun e => absurd e (by decide))
        exact rel_move 51 rfl (hD 30 (by decide)) rfl hK
      · refine ⟨_, rfl, rfl, fun b W hs hg hD K hK0 => ?_⟩
        refine wpOp_at rfl (wanted_is (j := 31) (t := 52) (v := true) rfl rfl (hD 31 (by decide))) ?_
        have hK := fun v W' g h => hK0 v W' g h (fun e => absurd e (by decide))
        have h0 : b.tmps[8]?.getD undef = .pointer (some ⟨B3, 0, none⟩) := (hs 8 (by decide))
        exact rel_val (v := .slice (some ⟨B3, 0, none⟩) 32 32) (run_slicek 8 rfl h0) rfl hK
      · refine ⟨_, rfl, rfl, fun b W hs hg hD K hK0 => ?_⟩
        refine wpOp_at rfl (wanted_is (j := 31) (t := 52) (v := true) rfl rfl (hD 31 (by decide))) ?_
        have hK := fun v W' g h => hK0 v W' g h (fun e => absurd e (by decide))
        have h0 : b.tmps[53]?.getD undef = .slice (some ⟨B3, 0, none⟩) 32 32 := (hD 32 (by decide))
        exact rel_val (v := .string tp) (by rw [TP.out]; exact run_convT 53 rfl ((eval_slot b 53).trans h0) (d3.grown hg (by simp)).rdk LP.out) rfl hK
      · refine ⟨_, rfl, rfl, fun b W hs hg hD K hK0 => ?_⟩
        refine wpOp_at rfl (wanted_is (j := 31) (t := 52) (v := true) rfl rfl (hD 31 (by decide))) ?_
        have hK := fun v W' g h => hK0 v W' g h (fun e => absurd e (by decide))
        have h0 : b.tmps[2]?.getD undef = .pointer (some ⟨B, 0, none⟩) := (hs 2 (by decide))
        exact rel_val (v := .slice (some ⟨B, 0, none⟩) 32 32) (run_slicek 2 rfl h0) rfl hK
      · refine ⟨_, rfl, rfl, fun b W hs hg hD K hK0 => ?_⟩
        refine wpOp_at rfl (wanted_is (j := 31) (t := 52) (v := true) rfl rfl (hD 31 (by decide))) ?_
        have hK := fun v W' g h => hK0 v W' g h (fun e => absurd e (by decide))
        refine rel_call 26 _ (exec_fn1 _ _ _ rfl ((eval_slot b 55).trans (hD 34 (by decide)))) (fun _ _ => rfl) ?_ hK
        exact RP.out B W (hA.grown hg (by simp)).at32
      · refine ⟨_, rfl, rfl, fun b W hs hg hD K hK0 => ?_⟩
        refine wpOp_at rfl (wanted_is (j := 31) (t := 52) (v := true) rfl rfl (hD 31 (by decide))) ?_
        have hK := fun v W' g h => hK0 v W' g h (fun e => absurd e (by decide))
        exact rel_val (v := .string tp) (by rw [TP.out]; obtain ⟨gg, cc, h1, h2⟩ := hD 35 (by decide); exact run_convT 56 rfl ((eval_slot b 56).trans h1) h2.rd LP.out) rfl hK
      · refine ⟨_, rfl, rfl, fun b W hs hg hD K hK0 => ?_⟩
        refine wpOp_at rfl (wanted_is (j := 31) (t := 52) (v := true) rfl rfl (hD 31 (by decide))) ?_
        have hK := fun v W' g h => hK0 v W' g h (fun e => absurd e (by decide))
        have h0 : b.tmps[54]?.getD undef = .string tp := (hD 33 (by decide))
        have h1 : b.tmps[57]?.getD undef = .string tp := (hD 36 (by decide))
        exact rel_val (v := .bool true) (run_eqstr 54 57 rfl h0 h1) rfl hK
      · refine ⟨_, rfl, rfl, fun b W hs hg hD K hK0 => ?_⟩
        refine wpOp_at rfl (wanted_of rfl) ?_
        have hK := fun v W' g h => hK0 v W' g h (fun e => absurd e (by decide))
        have h0 : b.tmps[52]?.getD undef = .bool true := (hD 31 (by decide))
        have h1 : b.tmps[58]?.getD undef = .bool true := (hD 37 (by decide))
        exact rel_val (v := .bool true) (by unfold execOp; go_simp) rfl hK
    intro vals W hg hR hap
    have e1 : vals 38 = .bool true := hR 38 (by decide)
    clear hR hap
    simp only [putsN, atL, Act.put, List.getD_cons_zero, List.getD_cons_succ, List.setIfInBounds_toArray, List.set_cons_succ, List.set_cons_zero, e1]
    generalize vals 0 = q0
    generalize vals 1 = q1
    generalize vals 2 = q2
    generalize vals 3 = q3
    generalize vals 4 = q4
    generalize vals 5 = q5
    generalize vals 6 = q6
    generalize vals 7 = q7
    generalize vals 8 = q8
    generalize vals 9 = q9
    generalize vals 10 = q10
    generalize vals 11 = q11
    generalize vals 12 = q12
    generalize vals 13 = q13
    generalize vals 14 = q14
    generalize vals 15 = q15
    generalize vals 16 = q16
    generalize vals 17 = q17
    generalize vals 18 = q18
    generalize vals 19 = q19
    generalize vals 20 = q20
    generalize vals 21 = q21
    generalize vals 22 = q22
    generalize vals 23 = q23
    generalize vals 24 = q24
    generalize vals 25 = q25
    generalize vals 26 = q26
    generalize vals 27 = q27
    generalize vals 28 = q28
    generalize vals 29 = q29
    generalize vals 30 = q30
    generalize vals 31 = q31
    generalize vals 32 = q32
    generalize vals 33 = q33
    generalize vals 34 = q34
    generalize vals 35 = q35
    generalize vals 36 = q36
    generalize vals 37 = q37
    clear e1 vals
    show wpAnyH _ _ _ _ _ 1 #[true, true, true, true, true, true, true, true, true, true, true, true, true, true, true, true, true, true, true, true, true, true, true, true, true, true, true, true, true, true, true, true, true, true, true, true, true, true, true, false] _ _
    refine wpAnyH_yieldD (some 4) (i := 39) (v := .bool true) (by kernel_rfl) rfl rfl rfl (by unfold execOp; go_simp) hg ?_
    simp only [Act.put, List.setIfInBounds_toArray, List.set_cons_succ, List.set_cons_zero]
    refine wpAnyH_done (by kernel_rfl) ?_ _
    have gF := grown_trans gr hg
    clear hg gr hA hB d1 d2 d3
    go_wp2_with fail
    go_ret
    exact ⟨⟨rfl, gF⟩⟩
end Go.Proofs.Ytpnddojcihdniaa
namespace Go.Proofs.Ytpnddojcihdniaa
open Go.ChangeShapes Go.WideShapes Go.ChangeAt Go.RowKit

section
variable {H : Type} {enc : TypeId × Value → H} {P : Program}

theorem below_of_grown {w w' : World} (h : w.grownBy w' none) : Below w.heap.size w w' := ⟨h.os, h.tape, h.output, h.size, fun k hk => h.block k hk (by simp)⟩

theorem trodAll_below (hl : laidOutB P = true) {W W' : World} (hb : Below W.heap.size W W') : ∀ (ts : List TypeId) (vs : List Value) (ds : List (DataW H)) (ps : List MemPlace),
    DataW.TrodAll enc P W 0 (fun _ => true) true ts vs ds ps → (∀ t ∈ ts, P.readableRec t = true ∧ t < P.types.size) → (∀ x ∈ ps, x.block < W.heap.size) →
    DataW.TrodAll enc P W' 0 (fun b => decide (b < W.heap.size)) true ts vs ds ps
  | [], vs, ds, ps, h, _, _ => by
    obtain ⟨rfl, rfl, rfl⟩ := trodAll_nil h
    rfl
  | t :: ts, vs, ds, ps, h, hr, hlt => by
    obtain ⟨v, vs', d, ds', p, q, rfl, rfl, rfl, h1, h2⟩ := trodAll_cons h
    have hrt := hr t (by simp)
    exact ⟨p, q, Below.trod hl hrt.1 hrt.2 h1 hb (fun x hx => hlt x (by simp [hx])), trodAll_below hl hb ts vs' ds' q h2 (fun t' ht' => hr t' (by simp [ht'])) (fun x hx => hlt x (by simp [hx])), rfl⟩

/-- The end of a statement that is a law: true, and all that came in reads as it did. -/
theorem law_post (hl : laidOutB P = true) {f : Func} {s : ChangeSpec} {W W' : World} {args : Array Value} {ds gs : List (DataW H)} {before : List MemPlace} {tb : TypeId}
    (hW : DataW.Whole enc P f.params.toList s.vars false W args.toList ds gs before) (hv : s.vars = []) (hs : s.fn H ds = { results := [.lit (.bool true)], args := ds, vars := [] })
    (hr : f.resultTypes = #[tb]) (htb : P.underlying tb = some .bool) (hread : ∀ t ∈ f.params.toList, P.readableRec t = true ∧ t < P.types.size) (hg : W.grownBy W' none) :
    s.post enc P f false true false false W args (.bool true) W' := by
  have hb := below_of_grown hg
  have hlt : ∀ p ∈ before, p.block < W.heap.size := fun p hp => hW.lt p hp
  have hW0 := hW
  obtain ⟨p, q, hA, hV, rfl, _, _⟩ := hW
  rw [hv] at hV
  obtain ⟨rfl, rfl⟩ := trodVars_none hV
  refine ⟨ds, [], p ++ [], [], p, [], hW0, ?_, ?_, ?_, World.keptBut_mono (fun x hx => ⟨hx, Or.inr (Or.inl (by simpa using hx))⟩) (hb.frame (· ∈ p ++ [])), fun h => by cases h⟩
  · rw [hr, List.append_nil, hs]
    exact trodAll_mk1 (shut_bool htb true)
  · rw [List.append_nil, hs]
    exact trodAll_below hl hb _ _ _ _ hA hread (fun x hx => hlt x (by simpa using hx))
  · rw [hv, List.append_nil, hs]
    rfl

/-- Bytes that come in. -/
theorem open_bytes {W : World} {t e : TypeId} {r : Reach} {b0 : Nat} {v : Value} {d : DataW H} {ps : List MemPlace} (ht : P.underlying t = some (.slice e)) (he : P.underlying e = some (.int .u8)) (hc : P.cellsOf e = 1)
    (hval : Value.okWide P W r b0 t v) (h : DataW.Trod enc P W 0 (fun _ => true) true t v d ps) :
    ∃ a n c f, v = .slice a n c ∧ n ≤ c ∧ Rd W W.heap.size a n f ∧ ∀ i, f i < 256 := by
  obtain ⟨a0, len, cap, rfl⟩ := okWide_slice ht hval
  obtain ⟨fuel, hf⟩ := h
  rcases open_ints ht he hc hf with ⟨h1, _⟩ | ⟨a, len', cap', zs, h1, _, hlc, _, hzl, _, hcell, hwf⟩
  · simp [Value.cells] at h1
    obtain ⟨rfl, rfl, rfl⟩ := h1
    exact ⟨none, 0, 0, fun _ => 0, rfl, Nat.le_refl _, ⟨fun h => absurd h (by omega)⟩, fun _ => (by decide : (0 : Nat) < 256)⟩
  · simp [Value.cells] at h1
    obtain ⟨rfl, rfl, rfl⟩ := h1
    have hzl' : len ≤ zs.length := by rw [hzl]; simp [hlc]
    have hb : ∀ i, 0 ≤ zs.getD i 0 ∧ zs.getD i 0 < 256 := fun i => by
      by_cases hi : i < zs.length
      · have e1 : zs.getD i 0 = zs[i] := by simp [List.getD, List.getElem?_eq_getElem hi]
        rw [e1]
        have := hwf zs[i] (List.getElem_mem hi)
        simp [Lit.wf, IntKind.min, IntKind.max, IntKind.bits, IntKind.signed] at this
        omega
      · have e1 : zs.getD i 0 = 0 := by simp [List.getD, List.getElem?_eq_none (Nat.le_of_not_lt hi)]
        rw [e1]; decide
    refine ⟨some a, len, cap, fun i => (zs.getD i 0).toNat, rfl, hlc, ⟨fun h0 => ?_⟩, fun i => by have := hb i; show (zs.getD i 0).toNat < 256; omega⟩
    have h0' := hcell 0 (by omega)
    have hspot : a.spot = none := by simpa [Addr.add] using World.cell?_spot h0'
    obtain ⟨tb, o, sp⟩ := a
    simp only at hspot
    subst hspot
    refine ⟨tb, o, rfl, ?_, fun i hi => ?_⟩
    · have := World.block_lt_of_cell? W _ h0'
      simpa [Addr.add] using this
    · have h1 := hcell i (by omega)
      rw [Addr.add_mid] at h1
      rw [h1]
      have := hb i
      have e1 : ((zs.getD i 0).toNat : Int) = zs.getD i 0 := by omega
      show _ = some (Value.int .u8 (((zs.getD i 0).toNat : Nat) : Int))
      rw [e1]

end
end Go.Proofs.Ytpnddojcihdniaa
namespace Go.Proofs.Ytpnddojcihdniaa
open Go.ChangeShapes Go.WideShapes Go.ChangeAt Go.RowKit

theorem getElem?_of_take_drop {α : Type} (l : List α) (i : Nat) (x : α) (h : (l.drop i).take 1 = [x]) : l[i]? = some x := by
  have h1 : ((l.drop i).take 1)[0]? = some x := by rw [h]; rfl
  simpa using h1

/-- A table of numbers, read. -/
theorem ints_of_trod {H : Type} {enc : TypeId × Value → H} {P : Program} {w : World} {base : Nat} {spare : Nat → Bool} {held : Bool} {fuel : Nat} {t e : TypeId} {k : IntKind} {n : Nat} {cs : List Value} {d : DataW H} {ps : List MemPlace} (L : List Int)
    (ht : P.underlying t = some (.array n e)) (he : P.underlying e = some (.int k)) (hc : P.cellsOf e = 1) (hd : DataW.trod enc P w base spare held fuel t cs = some (d, ps)) (hx : d = .agg (L.map fun z => .lit (.int k z))) :
    ∀ i, i < n → cs[i]? = some (.int k (L.getD i 0)) := by
  subst hx
  obtain ⟨xs, m, rfl, hx, _, hn, hel⟩ := DataW.trod_array ht hd
  intro i hi
  have h1 := hel i hi
  rw [hc, Nat.mul_one] at h1
  have hxi : xs[i]? = some xs[i] := List.getElem?_eq_getElem (by omega)
  rw [hxi] at h1
  obtain ⟨q, e1, e2, _⟩ := DataW.trod_int he h1
  have h2 : L.map (fun z => (DataW.lit (.int k z) : DataW H)) = xs.map (·.1) := by
    have := congrArg Prod.fst hx
    simpa using this
  have h3 : (L.map (fun z => (DataW.lit (.int k z) : DataW H)))[i]? = some (.lit (.int k q)) := by
    rw [h2]; simp [hxi, e2]
  have h4 : L[i]? = some q := by
    rw [List.getElem?_map] at h3
    cases hL : L[i]? with
    | none => rw [hL] at h3; cases h3
    | some z => rw [hL] at h3; simpa using h3
  rw [List.getD, h4]
  exact getElem?_of_take_drop cs i _ e1

theorem own : ownKnob Try.prog.godebug = none := by kernel_rfl
theorem laidOut : laidOutB Try.prog = true := by kernel_rfl

end Go.Proofs.Ytpnddojcihdniaa
namespace Go.Proofs.Ytpnddojcihdniaa
open Go.ChangeShapes Go.WideShapes Go.ChangeAt Go.RowKit

section
variable {H : Type} {enc : TypeId × Value → H} {P : Program}

theorem open_arr8 {W : World} {t e : TypeId} {n : Nat} {r : Reach} {b0 : Nat} {v : Value} {d : DataW H} {ps : List MemPlace} (ht : P.underlying t = some (.array n e)) (he : P.underlying e = some (.int .u8)) (hc : P.cellsOf e = 1) (hn : P.cellsOf t = n)
    (hval : Value.okWide P W r b0 t v) (h : DataW.Trod enc P W 0 (fun _ => true) true t v d ps) : ∃ f, v = .agg (cellsOf .u8 n f) ∧ ∀ i, f i < 256 := by
  have hv := hval
  simp only [Value.okWide, ht] at hv
  obtain ⟨cs, rfl, hs, _⟩ := hv
  obtain ⟨fuel, hf⟩ := h
  obtain ⟨xs, m, rfl, _, hl, _, hel⟩ := DataW.trod_array ht hf
  have key : ∀ i, i < n → ∃ q : Nat, q < 256 ∧ cs[i]? = some (.int .u8 q) := fun i hi => by
    have h1 := hel i hi
    rw [hc, Nat.mul_one] at h1
    cases hx : xs[i]? with
    | none =>
      rw [hx] at h1
      have hlen : i < cs.toList.length := by
        have : cs.size = n := by rw [hs, hn]
        simp [this]; exact hi
      exfalso
      rename_i hxl
      have : xs.length ≤ i := by simpa using hx
      omega
    | some x =>
      rw [hx] at h1
      obtain ⟨q, e1, _, hw⟩ := DataW.trod_int he h1
      have h2 := getElem?_of_take_drop _ i _ e1
      simp [Lit.wf, IntKind.min, IntKind.max, IntKind.bits, IntKind.signed] at hw
      refine ⟨q.toNat, by omega, ?_⟩
      have e2 : ((q.toNat : Nat) : Int) = q := by omega
      rw [e2]
      simpa [Value.cells] using h2
  refine ⟨fun i => (match cs[i]? with | some (.int _ q) => q.toNat | _ => 0) % 256, ?_, fun i => Nat.mod_lt _ (by decide)⟩
  congr 1
  apply Array.ext
  · rw [cellsOf_size, hs, hn]
  · intro i h1 h2
    have hi : i < n := by rwa [hs, hn] at h1
    obtain ⟨q, hq, hcq⟩ := key i hi
    have e1 := cellsOf_get .u8 n (fun i => (match cs[i]? with | some (.int _ q) => q.toNat | _ => 0) % 256) i hi
    rw [Array.getElem?_eq_getElem h2] at e1
    rw [Array.getElem?_eq_getElem h1] at hcq
    injection e1 with e1
    injection hcq with hcq'
    rw [e1, hcq']
    simp only [Array.getElem?_eq_getElem h1, hcq']
    congr 1
    simp; omega

/-- A byte that comes in. -/
theorem open_u8 {W : World} {t : TypeId} {r : Reach} {b0 : Nat} {v : Value} {d : DataW H} {ps : List MemPlace} (ht : P.underlying t = some (.int .u8))
    (hval : Value.okWide P W r b0 t v) (h : DataW.Trod enc P W 0 (fun _ => true) true t v d ps) : ∃ n : Nat, v = .int .u8 n ∧ n < 256 := by
  obtain ⟨x, rfl, _, _, hx⟩ := open_int ht hval h
  simp [Lit.wf, IntKind.min, IntKind.max, IntKind.bits, IntKind.signed] at hx
  exact ⟨x.toNat, by rw [show ((x.toNat : Nat) : Int) = x by omega], by omega⟩

end
end Go.Proofs.Ytpnddojcihdniaa
namespace Go.Proofs.Ytpnddojcihdniaa
open Go.ChangeShapes Go.WideShapes Go.ChangeAt Go.RowKit

set_option maxRecDepth 100000 in
theorem curveTells_lifted (os : Os) (started : os.Started) (H : Type) (enc : TypeId × Value → H) :
    ReturnsInHanded {} Try.checked os 4 .any (Rows.curveTellsSpec.pre6 enc Try.prog Try.f4 Rows.curveTellsRow.domain false) (Rows.curveTellsSpec.post enc Try.prog Try.f4 false true false false) := by
  refine returnsInHanded_of_change (C := Try.checked) own started (by kernel_rfl) Try.func4
    (ChangeSpec.witness6 (enc := enc) (C := Try.checked) false ⟨#[], #[.agg (cellsOf .u8 32 (fun _ => 0)), .agg (cellsOf .u8 32 (fun _ => 0))], []⟩ 8 (by kernel_rfl) (by kernel_rfl) (by kernel_rfl) (by kernel_rfl)) ?_
  intro W base args ds gs before hval0 hW _ _
  have hval : ∀ (j : Nat) t v, Try.f4.params[j]? = some t → args[j]? = some v → Value.okWide Try.prog W .any base t v := hval0
  have hW' := hW
  obtain ⟨p, q, hA0, hV, rfl, _, _⟩ := hW
  have hA : DataW.TrodAll enc Try.prog W 0 (fun _ => true) true Try.f4.params.toList args.toList ds p := hA0
  rw [Try.params4] at hA hval
  obtain ⟨v0, vs0, d0, ds0, p0, q0, hv0, rfl, rfl, h0, hA1⟩ := trodAll_cons hA
  obtain ⟨v1, vs1, d1, ds1, p1, q1, rfl, rfl, rfl, h1, hA2⟩ := trodAll_cons hA1
  obtain ⟨rfl, rfl, rfl⟩ := trodAll_nil hA2
  obtain ⟨l⟩ := args
  simp only at hv0
  subst hv0
  obtain ⟨rfl, rfl⟩ := trodVars_none hV
  obtain ⟨f0, rfl, hf0⟩ := open_arr8 (P := Try.prog) (n := 32) (e := 5) (by kernel_rfl) (by kernel_rfl) (by kernel_rfl) (by kernel_rfl) (hval 0 45 v0 rfl rfl) h0
  obtain ⟨f1, rfl, hf1⟩ := open_arr8 (P := Try.prog) (n := 32) (e := 5) (by kernel_rfl) (by kernel_rfl) (by kernel_rfl) (by kernel_rfl) (hval 1 45 v1 rfl rfl) h1
  clear hA0 hval0
  refine (curveTells_any f0 f1 W hf0 hf1).mono fun e W' ⟨⟨he, hg⟩⟩ => ?_
  subst he
  exact ⟨_, rfl, law_post laidOut hW' rfl rfl (tb := 4) rfl Try.underlying4 (by
      rw [Try.params4]
      intro t ht
      have hall : ([45, 45].all fun u => Try.prog.readableRec u && decide (u < Try.prog.types.size)) = true := by kernel_rfl
      have := List.all_eq_true.1 hall t (by simpa using ht)
      simpa using this) hg⟩

theorem curveTells_holds : Rows.CurveTellsSaid :=
  OpenClaim.holds_of_wide 4 Try.f4 rfl rfl rfl rfl rfl rfl rfl ⟨rfl, rfl, rfl, rfl, rfl⟩ rfl rfl rfl rfl rfl (by kernel_rfl) Try.func4 (by kernel_rfl)
    (of_decide_eq_true (by kernel_rfl)) (by unfold Func.isWrapper; first | (rw [if_pos (by decide +kernel)]; kernel_rfl) | (rw [if_neg (by decide +kernel)]; exact ⟨rfl, rfl⟩))
    (fun os started H enc _ => curveTells_lifted os started H enc)

end Go.Proofs.Ytpnddojcihdniaa
