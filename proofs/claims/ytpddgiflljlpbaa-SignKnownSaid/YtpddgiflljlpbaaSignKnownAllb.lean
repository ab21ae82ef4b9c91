/-
  Proved: 'SignKnown' answers true. No condition: it takes nothing.
-/
import Derived.Test.YtpddgiflljlpbaaSignKnownAlla
import Derived.Test.YtpddgiflljlpbaaSgPut
import Derived.Lib.AppendZeros
import Derived.Test.YtpddgiflljlpbaaSays
import Derived.Lib.SlBytesConst
import Derived.Test.YtpddgiflljlpbaaLaw
import Derived.Test.YtpddgiflljlpbaaRows
import Derived.Stop.Joined
import Derived.LaidLaws
import Derived.Test.YtpddgiflljlpbaaRd
import Derived.Deep.Slices
import Derived.Test.YtpddgiflljlpbaaSignF
import Derived.SizedLaws
namespace Go.Proofs.Ytpddgiflljlpbaa
open Go.RowKit

set_option maxRecDepth 100000
set_option maxHeartbeats 4000000

def SV.ref0 (F : Nat → Nat) : SV := { SV.zeroV with k := F 0, id := fun i => F (1 + i) }
def SV.ref1 (F : Nat → Nat) : SV := { SV.ref0 F with ac := F 17, dv := F 18, ce := F 19, key := fun i => F (20 + i) }
def SV.ref2 (F : Nat → Nat) : SV := { SV.ref0 F with key := fun i => F (17 + i) }
def SV.ref3 (L : Nat) (F : Nat → Nat) : SV := { SV.ref0 F with n := ofB8 (fun i => F (17 + i)) 4, nd := L - 23, fd := fun i => F (23 + i) }
def SV.ref5 (F : Nat → Nat) : SV := { SV.ref0 F with rs := F 17 }
/-- The signal that bytes tell, if they have its shape. -/
def SV.shape (L : Nat) (F : Nat → Nat) : Option SV :=
  if L < 17 then none
  else if F 0 = 1 then (if L = 52 then some (SV.ref1 F) else none)
  else if F 0 = 2 then (if L = 49 then some (SV.ref2 F) else none)
  else if F 0 = 3 then (if 23 ≤ L ∧ ofB8 (fun i => F (21 + i)) 2 = L - 23 then some (SV.ref3 L F) else none)
  else if F 0 = 5 then (if L = 18 then some (SV.ref5 F) else none)
  else if F 0 = 4 ∨ F 0 = 6 then (if L = 17 then some (SV.ref0 F) else none)
  else none
def SV.may? (y : SV) : Option SV := if y.mayC = true then some y else none
def SV.takesR (L : Nat) (F : Nat → Nat) : Option SV := (SV.shape L F).bind SV.may?
def SV.withD (y : SV) (a : Option Addr) (c : Nat) : SV := { y with ad := a, cd := c }
/-- What the reference's Take answers. -/
structure RefTook (w : World) (r : Option SV) (e : Ending) (w' : World) : Prop where
  no : r = none → e = .returned (.tuple #[.agg SV.zeroV.cells, .bool false])
  yes : ∀ y, r = some y → ∃ a c, e = .returned (.tuple #[.agg (y.withD a c).cells, .bool true]) ∧ OwnN w' w.heap.size (.slice a y.nd c) y.nd y.fd
  gr : w.grownBy w' none
theorem rtook_none {w w' : World} {L : Nat} {F : Nat → Nat} (ht : SV.takesR L F = none) (g : w.grownBy w' none) : RefTook w (SV.takesR L F) (.returned (.tuple #[.agg SV.zeroV.cells, .bool false])) w' := by
  rw [ht]
  exact ⟨fun _ => rfl, (fun y h => by cases h), g⟩
theorem rtook_no {w w' : World} {L : Nat} {F : Nat → Nat} {y : SV} (ht : SV.shape L F = some y) (h : false = y.mayC) (g : w.grownBy w' none) : RefTook w (SV.takesR L F) (.returned (.tuple #[.agg SV.zeroV.cells, .bool false])) w' :=
  rtook_none (by unfold SV.takesR; rw [ht]; show SV.may? y = none; unfold SV.may?; rw [← h]; rfl) g
theorem rtook_yes {w w' : World} {L c : Nat} {a : Option Addr} {F : Nat → Nat} {y : SV} (ht : SV.shape L F = some y) (h : true = y.mayC) (hO : OwnN w' w.heap.size (.slice a y.nd c) y.nd y.fd) (g : w.grownBy w' none) :
    RefTook w (SV.takesR L F) (.returned (.tuple #[.agg (y.withD a c).cells, .bool true])) w' := by
  have e : SV.takesR L F = some y := by unfold SV.takesR; rw [ht]; show SV.may? y = some y; unfold SV.may?; rw [← h]; rfl
  rw [e]
  exact ⟨fun h => (by cases h), (fun y' h => by cases h; exact ⟨a, c, rfl, hO⟩), g⟩
theorem SV.Ok.ref0 {F : Nat → Nat} (hF : ∀ i, F i < 256) : (SV.ref0 F).Ok := ⟨hF 0, fun _ => hF _, Nat.succ_pos _, Nat.succ_pos _, Nat.succ_pos _, fun _ => Nat.succ_pos _, Nat.succ_pos _, fun _ => Nat.succ_pos _, Nat.succ_pos _⟩
theorem SV.Ok.ref1 {F : Nat → Nat} (hF : ∀ i, F i < 256) : (SV.ref1 F).Ok := ⟨hF 0, fun _ => hF _, hF _, hF _, hF _, fun _ => hF _, Nat.succ_pos _, fun _ => Nat.succ_pos _, Nat.succ_pos _⟩
theorem SV.Ok.ref2 {F : Nat → Nat} (hF : ∀ i, F i < 256) : (SV.ref2 F).Ok := ⟨hF 0, fun _ => hF _, Nat.succ_pos _, Nat.succ_pos _, Nat.succ_pos _, fun _ => hF _, Nat.succ_pos _, fun _ => Nat.succ_pos _, Nat.succ_pos _⟩
theorem SV.Ok.ref3 {F : Nat → Nat} (hF : ∀ i, F i < 256) (L : Nat) (a : Option Addr) (c : Nat) : ((SV.ref3 L F).withD a c).Ok := ⟨hF 0, fun _ => hF _, Nat.succ_pos _, Nat.succ_pos _, Nat.succ_pos _, fun _ => Nat.succ_pos _, ofB8_lt _ (fun _ => hF _) 4, fun _ => hF _, Nat.succ_pos _⟩
theorem SV.Ok.ref5 {F : Nat → Nat} (hF : ∀ i, F i < 256) : (SV.ref5 F).Ok := ⟨hF 0, fun _ => hF _, Nat.succ_pos _, Nat.succ_pos _, Nat.succ_pos _, fun _ => Nat.succ_pos _, Nat.succ_pos _, fun _ => Nat.succ_pos _, hF _⟩
/-- A part of bytes that can be read. -/
theorem run_subR {D n : Nat} {a : Option Addr} {f : Nat → Nat} {w0 : World} (c l h : Nat) (_ : Rd w0 D a n f) (h1 : l ≤ h) (h2 : h ≤ n) (h3 : n ≤ c) :
    ∃ a' : Option Addr, (∀ w, (Instr.slice 22 (.slice a n c) (some (.int .i64 (l : Int))) (some (.int .i64 (h : Int))) none).run Try.prog w = .ok (.slice a' (h - l) (c - l)) w) ∧
      (∀ w, (Instr.sliceAt 22 (.slice a n c) (some (.int .i64 (l : Int))) (some (.int .i64 (h : Int))) none).run Try.prog w = .ok (.slice a' (h - l) (c - l)) w) ∧ (∀ w, Rd w D a n f → Rd w D a' (h - l) (fun i => f (l + i))) := by
  have hT : Try.prog.underlying 22 = some (.slice 5) := by kernel_rfl
  have hE : ∀ w, (sizeOf 5).run Try.prog w = .ok 1 w := fun w => by kernel_rfl
  have e2 : Try.prog.elem 22 = 5 := by simp [Program.elem, hT]
  have hT' : Try.prog.underlying 22 = some (.slice (Try.prog.elem 22)) := by rw [e2]; exact hT
  have hs : ∀ w, (Instr.slice 22 (.slice a n c) (some (.int .i64 (l : Int))) (some (.int .i64 (h : Int))) none).run Try.prog w = .ok (.slice (if c = l then a else a.map (·.add (l * 1))) (h - l) (c - l)) w := fun w => by
    rw [run_slice_lh w 22 a n c hT' .i64 .i64 l h (by omega) (by omega) (by omega), e2, hE w]
    simp [Result.andThen, sliced]
  refine ⟨if c = l then a else a.map (·.add (l * 1)), hs, fun w => by rw [run_sliceAt_slice w 22 _ _ _ _ hT']; exact hs w, fun w hw => ⟨fun hlt => ?_⟩⟩
  obtain ⟨tb, o, e, hD, hc⟩ := hw.ex (by omega)
  refine ⟨tb, o + l, ?_, hD, fun i hi => ?_⟩
  · rw [if_neg (by omega), e]
    simp [Addr.add]
  · rw [Nat.add_assoc]
    exact hc (l + i) (by omega)
theorem run_restR {D n : Nat} {a : Option Addr} {f : Nat → Nat} {w0 : World} (c l : Nat) (_ : Rd w0 D a n f) (h2 : l ≤ n) (h3 : n ≤ c) :
    ∃ a' : Option Addr, (∀ w, (Instr.slice 22 (.slice a n c) (some (.int .i64 (l : Int))) none none).run Try.prog w = .ok (.slice a' (n - l) (c - l)) w) ∧ (∀ w, Rd w D a n f → Rd w D a' (n - l) (fun i => f (l + i))) := by
  have hT : Try.prog.underlying 22 = some (.slice 5) := by kernel_rfl
  have hE : ∀ w, (sizeOf 5).run Try.prog w = .ok 1 w := fun w => by kernel_rfl
  have e2 : Try.prog.elem 22 = 5 := by simp [Program.elem, hT]
  have hT' : Try.prog.underlying 22 = some (.slice (Try.prog.elem 22)) := by rw [e2]; exact hT
  refine ⟨if c = l then a else a.map (·.add (l * 1)), fun w => ?_, fun w hw => ⟨fun hlt => ?_⟩⟩
  · rw [run_slice_l w 22 a n c hT' .i64 l (by omega) (by omega), e2, hE w]
    simp [Result.andThen, sliced]
  obtain ⟨tb, o, e, hD, hc⟩ := hw.ex (by omega)
  refine ⟨tb, o + l, ?_, hD, fun i hi => ?_⟩
  · rw [if_neg (by omega), e]
    simp [Addr.add]
  · rw [Nat.add_assoc]
    exact hc (l + i) (by omega)
theorem sgOfId_enters : ∀ args w, (callFunc 28 args).run Try.prog w = .ok (.enter 28 args) w := enters_of Try.func28 (by kernel_rfl) rfl
theorem exec_build_first {o : Oper} {a : Act} {w : World} {k : Nat} {f : Nat → Nat} (s t : Tmp) (ho : o.op = .build 34 #[(0, .tmp s), (1, .tmp t)]) (h0 : a.eval (.tmp s) = .int .u8 k) (h1 : a.eval (.tmp t) = .agg (cellsOf .u8 16 f)) :
    (execOp a.eval o).run Try.prog w = .ok (.value (.agg ({ SV.zeroV with k := k, id := f } : SV).cells)) w := by
  have e : Try.prog.built 34 [(0, .int .u8 k), (1, .agg (cellsOf .u8 16 f))] = some ({ SV.zeroV with k := k, id := f } : SV).cells := by kernel_rfl
  unfold execOp
  simp only [ho]
  have e3 : (#[((0 : Nat), Operand.tmp s), (1, .tmp t)].map fun (i, x) => (i, a.eval x)) = #[(0, .int .u8 k), (1, .agg (cellsOf .u8 16 f))] := by simp only [List.map_toArray, List.map_cons, List.map_nil, h0, h1]
  rw [e3]
  simp only [Sem.run_bind, run_build _ _ _ _ e]
  rfl
theorem exec_sliceR {o : Oper} {a : Act} {w : World} (x lo hi : Operand) (vx vl vh v : Value) (ho : o.op = .slice 22 x (some lo) (some hi) none) (hx : a.eval x = vx) (hl : a.eval lo = vl) (hh : a.eval hi = vh)
    (h : (Instr.sliceAt 22 vx (some vl) (some vh) none).run Try.prog w = .ok v w) : (execOp a.eval o).run Try.prog w = .ok (.value v) w := by
  unfold execOp
  simp only [ho, Option.map_some, Option.map_none, hx, hl, hh, Sem.run_bind, h, Result.andThen_ok, Sem.run_pure]
theorem exec_storeRow {o : Oper} {a : Act} {w : World} {B : Nat} {x : SV} {old : Array Value} (p q : Operand) (ho : o.op = .store 34 p q) (h0 : a.eval p = .pointer (some ⟨B, 0, none⟩)) (h1 : a.eval q = .agg x.cells) (hb : w.heap[B]? = some (.cells old 34 (0, 0))) (hs : old.size = 55 := by rfl) :
    (execOp a.eval o).run Try.prog w = .ok .skip (w.setRow B x.cells) := by
  refine exec_store p q _ _ ho h0 h1 ?_
  simp only [Instr.storeAt, Instr.sureAddr, Sem.run_bind, Sem.run_pure, Result.andThen_ok, run_storeVar_row (P := Try.prog) w B 34 34 old x.cells hb (by rw [SV.size]; kernel_rfl) (by rw [SV.size]; exact hs) (SV.allV x)]
theorem wp_yieldsE {P : Program} {Q : Exit → Act → World → Prop} {o : Oper} {a : Act} {w w' : World} {K : Act → World → Prop} {v : Value} (d : Option Tmp) (hd : o.dst = d) (he : (execOp a.eval o).run P w = .ok (.value v) w') (h : K (a.put d v) w') : o.wp P a w K Q := by
  subst hd
  exact wp_yields he h
theorem set_key2 (F : Nat → Nat) (w : World) (B : Nat) (hS : SAt w B (SV.ref0 F)) : SAt (w.setCells B 20 (cellsOf .u8 32 (fun i => F (17 + i))).toList) B (SV.ref2 F) := hS.set 20 _ _ (by kernel_rfl)
theorem set_key1 (F : Nat → Nat) (w : World) (B : Nat) (hS : SAt w B { SV.ref0 F with ac := F 17, dv := F 18, ce := F 19 }) : SAt (w.setCells B 20 (cellsOf .u8 32 (fun i => F (20 + i))).toList) B (SV.ref1 F) := hS.set 20 _ _ (by kernel_rfl)
theorem refSgTake_any (D L c : Nat) (a : Option Addr) (F : Nat → Nat) (w : World) (hR : Rd w D a L F) (hF : ∀ i, F i < 256) (hL : L ≤ 1048576) (hLc : L ≤ c) : Calls Try.prog 13 #[.slice a L c] w (RefTook w (SV.takesR L F)) := by
  have hrz := heap_alloc_new w (.cells #[.int .u8 0, .int .u8 0, .int .u8 0, .int .u8 0, .int .u8 0, .int .u8 0, .int .u8 0, .int .u8 0, .int .u8 0, .int .u8 0, .int .u8 0, .int .u8 0, .int .u8 0, .int .u8 0, .int .u8 0, .int .u8 0, .int .u8 0, .int .u8 0, .int .u8 0, .int .u8 0, .int .u8 0, .int .u8 0, .int .u8 0, .int .u8 0, .int .u8 0, .int .u8 0, .int .u8 0, .int .u8 0, .int .u8 0, .int .u8 0, .int .u8 0, .int .u8 0, .int .u8 0, .int .u8 0, .int .u8 0, .int .u8 0, .int .u8 0, .int .u8 0, .int .u8 0, .int .u8 0, .int .u8 0, .int .u8 0, .int .u8 0, .int .u8 0, .int .u8 0, .int .u8 0, .int .u8 0, .int .u8 0, .int .u8 0, .int .u8 0, .int .u8 0, .int .u8 0, .int .u32 0, .slice none 0 0, .int .u8 0] 34)
  have hbz : ((w.alloc (.cells #[.int .u8 0, .int .u8 0, .int .u8 0, .int .u8 0, .int .u8 0, .int .u8 0, .int .u8 0, .int .u8 0, .int .u8 0, .int .u8 0, .int .u8 0, .int .u8 0, .int .u8 0, .int .u8 0, .int .u8 0, .int .u8 0, .int .u8 0, .int .u8 0, .int .u8 0, .int .u8 0, .int .u8 0, .int .u8 0, .int .u8 0, .int .u8 0, .int .u8 0, .int .u8 0, .int .u8 0, .int .u8 0, .int .u8 0, .int .u8 0, .int .u8 0, .int .u8 0, .int .u8 0, .int .u8 0, .int .u8 0, .int .u8 0, .int .u8 0, .int .u8 0, .int .u8 0, .int .u8 0, .int .u8 0, .int .u8 0, .int .u8 0, .int .u8 0, .int .u8 0, .int .u8 0, .int .u8 0, .int .u8 0, .int .u8 0, .int .u8 0, .int .u8 0, .int .u8 0, .int .u32 0, .slice none 0 0, .int .u8 0] 34)).alloc (.cells #[.int .u8 0, .int .u8 0, .int .u8 0, .int .u8 0, .int .u8 0, .int .u8 0, .int .u8 0, .int .u8 0, .int .u8 0, .int .u8 0, .int .u8 0, .int .u8 0, .int .u8 0, .int .u8 0, .int .u8 0, .int .u8 0, .int .u8 0, .int .u8 0, .int .u8 0, .int .u8 0, .int .u8 0, .int .u8 0, .int .u8 0, .int .u8 0, .int .u8 0, .int .u8 0, .int .u8 0, .int .u8 0, .int .u8 0, .int .u8 0, .int .u8 0, .int .u8 0, .int .u8 0, .int .u8 0, .int .u8 0, .int .u8 0, .int .u8 0, .int .u8 0, .int .u8 0, .int .u8 0, .int .u8 0, .int .u8 0, .int .u8 0, .int .u8 0, .int .u8 0, .int .u8 0, .int .u8 0, .int .u8 0, .int .u8 0, .int .u8 0, .int .u8 0, .int .u8 0, .int .u32 0, .slice none 0 0, .int .u8 0] 34)).heap[w.heap.size + 1]? = some (.cells #[.int .u8 0, .int .u8 0, .int .u8 0, .int .u8 0, .int .u8 0, .int .u8 0, .int .u8 0, .int .u8 0, .int .u8 0, .int .u8 0, .int .u8 0, .int .u8 0, .int .u8 0, .int .u8 0, .int .u8 0, .int .u8 0, .int .u8 0, .int .u8 0, .int .u8 0, .int .u8 0, .int .u8 0, .int .u8 0, .int .u8 0, .int .u8 0, .int .u8 0, .int .u8 0, .int .u8 0, .int .u8 0, .int .u8 0, .int .u8 0, .int .u8 0, .int .u8 0, .int .u8 0, .int .u8 0, .int .u8 0, .int .u8 0, .int .u8 0, .int .u8 0, .int .u8 0, .int .u8 0, .int .u8 0, .int .u8 0, .int .u8 0, .int .u8 0, .int .u8 0, .int .u8 0, .int .u8 0, .int .u8 0, .int .u8 0, .int .u8 0, .int .u8 0, .int .u8 0, .int .u32 0, .slice none 0 0, .int .u8 0] 34 (0, 0)) := by
    have := heap_alloc_new (w.alloc (.cells #[.int .u8 0, .int .u8 0, .int .u8 0, .int .u8 0, .int .u8 0, .int .u8 0, .int .u8 0, .int .u8 0, .int .u8 0, .int .u8 0, .int .u8 0, .int .u8 0, .int .u8 0, .int .u8 0, .int .u8 0, .int .u8 0, .int .u8 0, .int .u8 0, .int .u8 0, .int .u8 0, .int .u8 0, .int .u8 0, .int .u8 0, .int .u8 0, .int .u8 0, .int .u8 0, .int .u8 0, .int .u8 0, .int .u8 0, .int .u8 0, .int .u8 0, .int .u8 0, .int .u8 0, .int .u8 0, .int .u8 0, .int .u8 0, .int .u8 0, .int .u8 0, .int .u8 0, .int .u8 0, .int .u8 0, .int .u8 0, .int .u8 0, .int .u8 0, .int .u8 0, .int .u8 0, .int .u8 0, .int .u8 0, .int .u8 0, .int .u8 0, .int .u8 0, .int .u8 0, .int .u32 0, .slice none 0 0, .int .u8 0] 34)) (.cells #[.int .u8 0, .int .u8 0, .int .u8 0, .int .u8 0, .int .u8 0, .int .u8 0, .int .u8 0, .int .u8 0, .int .u8 0, .int .u8 0, .int .u8 0, .int .u8 0, .int .u8 0, .int .u8 0, .int .u8 0, .int .u8 0, .int .u8 0, .int .u8 0, .int .u8 0, .int .u8 0, .int .u8 0, .int .u8 0, .int .u8 0, .int .u8 0, .int .u8 0, .int .u8 0, .int .u8 0, .int .u8 0, .int .u8 0, .int .u8 0, .int .u8 0, .int .u8 0, .int .u8 0, .int .u8 0, .int .u8 0, .int .u8 0, .int .u8 0, .int .u8 0, .int .u8 0, .int .u8 0, .int .u8 0, .int .u8 0, .int .u8 0, .int .u8 0, .int .u8 0, .int .u8 0, .int .u8 0, .int .u8 0, .int .u8 0, .int .u8 0, .int .u8 0, .int .u8 0, .int .u32 0, .slice none 0 0, .int .u8 0] 34)
    rwa [World.size_alloc] at this
  have hrb : (((w.alloc (.cells #[.int .u8 0, .int .u8 0, .int .u8 0, .int .u8 0, .int .u8 0, .int .u8 0, .int .u8 0, .int .u8 0, .int .u8 0, .int .u8 0, .int .u8 0, .int .u8 0, .int .u8 0, .int .u8 0, .int .u8 0, .int .u8 0, .int .u8 0, .int .u8 0, .int .u8 0, .int .u8 0, .int .u8 0, .int .u8 0, .int .u8 0, .int .u8 0, .int .u8 0, .int .u8 0, .int .u8 0, .int .u8 0, .int .u8 0, .int .u8 0, .int .u8 0, .int .u8 0, .int .u8 0, .int .u8 0, .int .u8 0, .int .u8 0, .int .u8 0, .int .u8 0, .int .u8 0, .int .u8 0, .int .u8 0, .int .u8 0, .int .u8 0, .int .u8 0, .int .u8 0, .int .u8 0, .int .u8 0, .int .u8 0, .int .u8 0, .int .u8 0, .int .u8 0, .int .u8 0, .int .u32 0, .slice none 0 0, .int .u8 0] 34)).alloc (.cells #[.int .u8 0, .int .u8 0, .int .u8 0, .int .u8 0, .int .u8 0, .int .u8 0, .int .u8 0, .int .u8 0, .int .u8 0, .int .u8 0, .int .u8 0, .int .u8 0, .int .u8 0, .int .u8 0, .int .u8 0, .int .u8 0, .int .u8 0, .int .u8 0, .int .u8 0, .int .u8 0, .int .u8 0, .int .u8 0, .int .u8 0, .int .u8 0, .int .u8 0, .int .u8 0, .int .u8 0, .int .u8 0, .int .u8 0, .int .u8 0, .int .u8 0, .int .u8 0, .int .u8 0, .int .u8 0, .int .u8 0, .int .u8 0, .int .u8 0, .int .u8 0, .int .u8 0, .int .u8 0, .int .u8 0, .int .u8 0, .int .u8 0, .int .u8 0, .int .u8 0, .int .u8 0, .int .u8 0, .int .u8 0, .int .u8 0, .int .u8 0, .int .u8 0, .int .u8 0, .int .u32 0, .slice none 0 0, .int .u8 0] 34)).setRow (w.heap.size + 1) SV.zeroV.cells).heap[w.heap.size]? = some (.cells #[.int .u8 0, .int .u8 0, .int .u8 0, .int .u8 0, .int .u8 0, .int .u8 0, .int .u8 0, .int .u8 0, .int .u8 0, .int .u8 0, .int .u8 0, .int .u8 0, .int .u8 0, .int .u8 0, .int .u8 0, .int .u8 0, .int .u8 0, .int .u8 0, .int .u8 0, .int .u8 0, .int .u8 0, .int .u8 0, .int .u8 0, .int .u8 0, .int .u8 0, .int .u8 0, .int .u8 0, .int .u8 0, .int .u8 0, .int .u8 0, .int .u8 0, .int .u8 0, .int .u8 0, .int .u8 0, .int .u8 0, .int .u8 0, .int .u8 0, .int .u8 0, .int .u8 0, .int .u8 0, .int .u8 0, .int .u8 0, .int .u8 0, .int .u8 0, .int .u8 0, .int .u8 0, .int .u8 0, .int .u8 0, .int .u8 0, .int .u8 0, .int .u8 0, .int .u8 0, .int .u32 0, .slice none 0 0, .int .u8 0] 34 (0, 0)) := by
    rw [setRow_other _ _ _ _ (by omega), heap_old _ _ _ (by rw [World.size_alloc]; omega)]
    exact hrz
  have hZ : SAt (((w.alloc (.cells #[.int .u8 0, .int .u8 0, .int .u8 0, .int .u8 0, .int .u8 0, .int .u8 0, .int .u8 0, .int .u8 0, .int .u8 0, .int .u8 0, .int .u8 0, .int .u8 0, .int .u8 0, .int .u8 0, .int .u8 0, .int .u8 0, .int .u8 0, .int .u8 0, .int .u8 0, .int .u8 0, .int .u8 0, .int .u8 0, .int .u8 0, .int .u8 0, .int .u8 0, .int .u8 0, .int .u8 0, .int .u8 0, .int .u8 0, .int .u8 0, .int .u8 0, .int .u8 0, .int .u8 0, .int .u8 0, .int .u8 0, .int .u8 0, .int .u8 0, .int .u8 0, .int .u8 0, .int .u8 0, .int .u8 0, .int .u8 0, .int .u8 0, .int .u8 0, .int .u8 0, .int .u8 0, .int .u8 0, .int .u8 0, .int .u8 0, .int .u8 0, .int .u8 0, .int .u8 0, .int .u32 0, .slice none 0 0, .int .u8 0] 34)).alloc (.cells #[.int .u8 0, .int .u8 0, .int .u8 0, .int .u8 0, .int .u8 0, .int .u8 0, .int .u8 0, .int .u8 0, .int .u8 0, .int .u8 0, .int .u8 0, .int .u8 0, .int .u8 0, .int .u8 0, .int .u8 0, .int .u8 0, .int .u8 0, .int .u8 0, .int .u8 0, .int .u8 0, .int .u8 0, .int .u8 0, .int .u8 0, .int .u8 0, .int .u8 0, .int .u8 0, .int .u8 0, .int .u8 0, .int .u8 0, .int .u8 0, .int .u8 0, .int .u8 0, .int .u8 0, .int .u8 0, .int .u8 0, .int .u8 0, .int .u8 0, .int .u8 0, .int .u8 0, .int .u8 0, .int .u8 0, .int .u8 0, .int .u8 0, .int .u8 0, .int .u8 0, .int .u8 0, .int .u8 0, .int .u8 0, .int .u8 0, .int .u8 0, .int .u8 0, .int .u8 0, .int .u32 0, .slice none 0 0, .int .u8 0] 34)).setRow (w.heap.size + 1) SV.zeroV.cells) (w.heap.size + 1) SV.zeroV := ⟨setRow_heap _ _ _ _ _ _ hbz⟩
  have hg1 : w.grownBy (((w.alloc (.cells #[.int .u8 0, .int .u8 0, .int .u8 0, .int .u8 0, .int .u8 0, .int .u8 0, .int .u8 0, .int .u8 0, .int .u8 0, .int .u8 0, .int .u8 0, .int .u8 0, .int .u8 0, .int .u8 0, .int .u8 0, .int .u8 0, .int .u8 0, .int .u8 0, .int .u8 0, .int .u8 0, .int .u8 0, .int .u8 0, .int .u8 0, .int .u8 0, .int .u8 0, .int .u8 0, .int .u8 0, .int .u8 0, .int .u8 0, .int .u8 0, .int .u8 0, .int .u8 0, .int .u8 0, .int .u8 0, .int .u8 0, .int .u8 0, .int .u8 0, .int .u8 0, .int .u8 0, .int .u8 0, .int .u8 0, .int .u8 0, .int .u8 0, .int .u8 0, .int .u8 0, .int .u8 0, .int .u8 0, .int .u8 0, .int .u8 0, .int .u8 0, .int .u8 0, .int .u8 0, .int .u32 0, .slice none 0 0, .int .u8 0] 34)).alloc (.cells #[.int .u8 0, .int .u8 0, .int .u8 0, .int .u8 0, .int .u8 0, .int .u8 0, .int .u8 0, .int .u8 0, .int .u8 0, .int .u8 0, .int .u8 0, .int .u8 0, .int .u8 0, .int .u8 0, .int .u8 0, .int .u8 0, .int .u8 0, .int .u8 0, .int .u8 0, .int .u8 0, .int .u8 0, .int .u8 0, .int .u8 0, .int .u8 0, .int .u8 0, .int .u8 0, .int .u8 0, .int .u8 0, .int .u8 0, .int .u8 0, .int .u8 0, .int .u8 0, .int .u8 0, .int .u8 0, .int .u8 0, .int .u8 0, .int .u8 0, .int .u8 0, .int .u8 0, .int .u8 0, .int .u8 0, .int .u8 0, .int .u8 0, .int .u8 0, .int .u8 0, .int .u8 0, .int .u8 0, .int .u8 0, .int .u8 0, .int .u8 0, .int .u8 0, .int .u8 0, .int .u32 0, .slice none 0 0, .int .u8 0] 34)).setRow (w.heap.size + 1) SV.zeroV.cells) none := grown_setRow_new (grown_alloc (World.grownBy_alloc w _ none) _) _ _ (Or.inl (by omega))
  have hz1 : (((w.alloc (.cells #[.int .u8 0, .int .u8 0, .int .u8 0, .int .u8 0, .int .u8 0, .int .u8 0, .int .u8 0, .int .u8 0, .int .u8 0, .int .u8 0, .int .u8 0, .int .u8 0, .int .u8 0, .int .u8 0, .int .u8 0, .int .u8 0, .int .u8 0, .int .u8 0, .int .u8 0, .int .u8 0, .int .u8 0, .int .u8 0, .int .u8 0, .int .u8 0, .int .u8 0, .int .u8 0, .int .u8 0, .int .u8 0, .int .u8 0, .int .u8 0, .int .u8 0, .int .u8 0, .int .u8 0, .int .u8 0, .int .u8 0, .int .u8 0, .int .u8 0, .int .u8 0, .int .u8 0, .int .u8 0, .int .u8 0, .int .u8 0, .int .u8 0, .int .u8 0, .int .u8 0, .int .u8 0, .int .u8 0, .int .u8 0, .int .u8 0, .int .u8 0, .int .u8 0, .int .u8 0, .int .u32 0, .slice none 0 0, .int .u8 0] 34)).alloc (.cells #[.int .u8 0, .int .u8 0, .int .u8 0, .int .u8 0, .int .u8 0, .int .u8 0, .int .u8 0, .int .u8 0, .int .u8 0, .int .u8 0, .int .u8 0, .int .u8 0, .int .u8 0, .int .u8 0, .int .u8 0, .int .u8 0, .int .u8 0, .int .u8 0, .int .u8 0, .int .u8 0, .int .u8 0, .int .u8 0, .int .u8 0, .int .u8 0, .int .u8 0, .int .u8 0, .int .u8 0, .int .u8 0, .int .u8 0, .int .u8 0, .int .u8 0, .int .u8 0, .int .u8 0, .int .u8 0, .int .u8 0, .int .u8 0, .int .u8 0, .int .u8 0, .int .u8 0, .int .u8 0, .int .u8 0, .int .u8 0, .int .u8 0, .int .u8 0, .int .u8 0, .int .u8 0, .int .u8 0, .int .u8 0, .int .u8 0, .int .u8 0, .int .u8 0, .int .u8 0, .int .u32 0, .slice none 0 0, .int .u8 0] 34)).setRow (w.heap.size + 1) SV.zeroV.cells).heap.size = w.heap.size + 2 := by rw [setRow_size, World.size_alloc, World.size_alloc]
  have hR1 := hR.grown hg1 (by simp)
  have HF := Lib.hid hF
  have HL := Lib.hid hL
  have HLC := Lib.hid hLc
  have HZ1 := Lib.hid hz1
  have HG1 := Lib.hid hg1
  have HRB := Lib.hid hrb
  have HZ := Lib.hid hZ
  have HR1 := Lib.hid hR1
  clear hF hL hLc hR hrz hz1 hg1 hrb hZ hR1
  go_enter Try.func13, Try.ntmps13
  go_upto_region 2 with (first | ((with_reducible refine wpList_here ?_); refine wpList_store_row rfl 34 (.tmp 4) (.tmp 7) rfl (w.heap.size + 1) SV.zeroV.cells rfl (by kernel_rfl) 34 _ hbz (by kernel_rfl) (by kernel_rfl) (SV.allV _) ?_))
  try simp only [Act.put]
  clear hbz
  generalize (((w.alloc (.cells #[.int .u8 0, .int .u8 0, .int .u8 0, .int .u8 0, .int .u8 0, .int .u8 0, .int .u8 0, .int .u8 0, .int .u8 0, .int .u8 0, .int .u8 0, .int .u8 0, .int .u8 0, .int .u8 0, .int .u8 0, .int .u8 0, .int .u8 0, .int .u8 0, .int .u8 0, .int .u8 0, .int .u8 0, .int .u8 0, .int .u8 0, .int .u8 0, .int .u8 0, .int .u8 0, .int .u8 0, .int .u8 0, .int .u8 0, .int .u8 0, .int .u8 0, .int .u8 0, .int .u8 0, .int .u8 0, .int .u8 0, .int .u8 0, .int .u8 0, .int .u8 0, .int .u8 0, .int .u8 0, .int .u8 0, .int .u8 0, .int .u8 0, .int .u8 0, .int .u8 0, .int .u8 0, .int .u8 0, .int .u8 0, .int .u8 0, .int .u8 0, .int .u8 0, .int .u8 0, .int .u32 0, .slice none 0 0, .int .u8 0] 34)).alloc (.cells #[.int .u8 0, .int .u8 0, .int .u8 0, .int .u8 0, .int .u8 0, .int .u8 0, .int .u8 0, .int .u8 0, .int .u8 0, .int .u8 0, .int .u8 0, .int .u8 0, .int .u8 0, .int .u8 0, .int .u8 0, .int .u8 0, .int .u8 0, .int .u8 0, .int .u8 0, .int .u8 0, .int .u8 0, .int .u8 0, .int .u8 0, .int .u8 0, .int .u8 0, .int .u8 0, .int .u8 0, .int .u8 0, .int .u8 0, .int .u8 0, .int .u8 0, .int .u8 0, .int .u8 0, .int .u8 0, .int .u8 0, .int .u8 0, .int .u8 0, .int .u8 0, .int .u8 0, .int .u8 0, .int .u8 0, .int .u8 0, .int .u8 0, .int .u8 0, .int .u8 0, .int .u8 0, .int .u8 0, .int .u8 0, .int .u8 0, .int .u8 0, .int .u8 0, .int .u8 0, .int .u32 0, .slice none 0 0, .int .u8 0] 34)).setRow (w.heap.size + 1) SV.zeroV.cells) = w1 at *
  by_cases h17 : L < 17
  · have k17 : (L : Int) < 17 := by omega
    have HT := Lib.hid (show SV.takesR L F = none by unfold SV.takesR SV.shape; rw [if_pos h17]; rfl)
    clear h17
    obtain ⟨_, _, _, l0⟩ := HZ.out.loads
    go_wp2_with (first | ((with_reducible refine wpList_here ?_); refine wpList_ld (p := .pointer (some ⟨(w.heap.size + 1), 0, none⟩)) 4 ?_ ?_ ?_ l0 ?_; (· rfl); go_simp; (· kernel_rfl)) | ((with_reducible refine wpList_here ?_); refine wpList_store_row rfl 34 (.tmp 2) (.tmp 11) rfl w.heap.size SV.zeroV.cells rfl (by kernel_rfl) 34 _ HRB.out (by rw [SV.size]; kernel_rfl) (by rw [SV.size]; rfl) (SV.allV _) ?_))
    exact bodyPost_ret (v := .tuple #[.agg SV.zeroV.cells, .bool false]) (results_row2 rfl _ _ w.heap.size 34 _ (0, 0) rfl (setRow_heap _ _ _ _ _ _ HRB.out) (by kernel_rfl) (by rw [SV.size]; kernel_rfl) rfl) rfl (rtook_none HT.out (grown_setRow_new HG1.out _ _ (Or.inl (Nat.le_refl _))))
  have k17 : ¬ (L : Int) < 17 := by omega
  obtain ⟨tb, o, rfl, htb, hcell⟩ := HR1.out.ex (by omega)
  obtain ⟨a16, hs16, hs16', hR16⟩ := run_subR c 1 17 HR1.out (by omega) (by omega) HLC.out
  have HR16 := Lib.hid hR16
  have HC := Lib.hid hcell
  have H17 := Lib.hid h17
  clear hR16 h17
  go_upto_region 4 with fail
  clear k17
  have c00 : w1.cell? ⟨tb, o, none⟩ = some (.int .u8 (F 0)) := HC.out 0 (by have := H17.out; omega)
  have kL : ¬ L = 0 := by have := H17.out; omega
  clear hcell hs16
  go_cut [5] (fun s5 wx => ∃ B, s5 = .pointer (some ⟨B, 0, none⟩) ∧ SAt wx B (SV.ref0 F) ∧ w1.heap.size ≤ B ∧ w1.grownBy wx none)
  case first =>
    have hs16 := hs16'
    refine wp_region_held (S := fun W => w1.grownBy W none) (by kernel_rfl) ?_
    change wpAnyH _ _ _ _ _ 9 #[false, false, false, false, false, false, false, false, false] _ (World.drew _)
    have gq := grown_drew (grown_refl w1 none)
    generalize World.drew w1 = w2 at *
    refine wpAnyH_takeD (some 12) (i := 0) (v := (.slice (some ⟨tb, o, none⟩) L c)) rfl rfl (by kernel_rfl) (by kernel_rfl) (by kernel_rfl) (fun _ _ _ h => h) (Or.inl ⟨rfl, fun _ _ => rfl⟩) gq ?_
    simp only [Act.put, List.setIfInBounds_toArray, List.set_cons_succ, List.set_cons_zero]
    refine wpAnyH_takeD (some 13) (i := 1) (v := (.pointer (some ⟨tb, o, none⟩))) rfl rfl (by kernel_rfl) (by kernel_rfl) (by kernel_rfl) (fun _ _ _ h => h) (Or.inl ⟨rfl, fun _ _ => by go_simp⟩) gq ?_
    simp only [Act.put, List.setIfInBounds_toArray, List.set_cons_succ, List.set_cons_zero]
    refine wpAnyH_takeD (some 14) (i := 2) (v := (.int .u8 (F 0))) rfl rfl (by kernel_rfl) (by kernel_rfl) (by kernel_rfl) (fun _ _ _ h => h) (Or.inl ⟨rfl, fun W hW => exec_load (.tmp 13) _ _ rfl rfl (load_u8 (hW.cell c00 (by simp)))⟩) gq ?_
    simp only [Act.put, List.setIfInBounds_toArray, List.set_cons_succ, List.set_cons_zero]
    refine wpAnyH_takeD (some 15) (i := 3) (v := (.slice (some ⟨tb, o, none⟩) L c)) rfl rfl (by kernel_rfl) (by kernel_rfl) (by kernel_rfl) (fun _ _ _ h => h) (Or.inl ⟨rfl, fun _ _ => rfl⟩) gq ?_
    simp only [Act.put, List.setIfInBounds_toArray, List.set_cons_succ, List.set_cons_zero]
    refine wpAnyH_takeD (some 16) (i := 4) (v := (.slice a16 16 (c - 1 : Nat))) rfl rfl (by kernel_rfl) (by kernel_rfl) (by kernel_rfl) (fun _ _ _ h => h) (Or.inl ⟨rfl, fun W _ => exec_sliceR (.tmp 15) (.const (.int .i64 1)) (.const (.int .i64 17)) _ _ _ _ rfl rfl rfl rfl (hs16 W)⟩) gq ?_
    simp only [Act.put, List.setIfInBounds_toArray, List.set_cons_succ, List.set_cons_zero]
    clear hs16 hs16' kL c00
    refine wpAnyH_both (i := 5) (j := 7) (by kernel_rfl) ?_ ?_
    · refine wpOp_at rfl rfl (wp_fnR (some 17) 28 #[.slice a16 16 (c - 1 : Nat)] (R := fun v W => v = .agg (cellsOf .u8 16 (fun i => F (1 + i))) ∧ w2.grownBy W none) rfl (exec_fn1 _ _ _ rfl rfl) sgOfId_enters ((sgOfId_any D 16 (c - 1) a16 (fun i => F (1 + i)) w2 ((HR16.out w1 HR1.out).grown gq (by simp)) (Nat.le_refl _)).mono fun e W' h => ⟨_, h.1, rfl, h.2⟩) ?_)
      rintro v w3 ⟨rfl, hg3⟩
      have gA := grown_trans gq hg3
      refine ⟨gA, ?_⟩
      simp only [Act.put, List.setIfInBounds_toArray, List.set_cons_succ, List.set_cons_zero]
      refine wpAnyH_takeD (some 18) (i := 6) (v := .agg (SV.ref0 F).cells) rfl rfl (by kernel_rfl) (by kernel_rfl) (by kernel_rfl) (fun _ _ _ h => h) (Or.inl ⟨rfl, fun W hW => (exec_build_first 14 17 rfl rfl rfl)⟩) gA ?_
      simp only [Act.put, List.setIfInBounds_toArray, List.set_cons_succ, List.set_cons_zero]
      have ga := World.grownBy_alloc w3 (.cells #[.int .u8 0, .int .u8 0, .int .u8 0, .int .u8 0, .int .u8 0, .int .u8 0, .int .u8 0, .int .u8 0, .int .u8 0, .int .u8 0, .int .u8 0, .int .u8 0, .int .u8 0, .int .u8 0, .int .u8 0, .int .u8 0, .int .u8 0, .int .u8 0, .int .u8 0, .int .u8 0, .int .u8 0, .int .u8 0, .int .u8 0, .int .u8 0, .int .u8 0, .int .u8 0, .int .u8 0, .int .u8 0, .int .u8 0, .int .u8 0, .int .u8 0, .int .u8 0, .int .u8 0, .int .u8 0, .int .u8 0, .int .u8 0, .int .u8 0, .int .u8 0, .int .u8 0, .int .u8 0, .int .u8 0, .int .u8 0, .int .u8 0, .int .u8 0, .int .u8 0, .int .u8 0, .int .u8 0, .int .u8 0, .int .u8 0, .int .u8 0, .int .u8 0, .int .u8 0, .int .u32 0, .slice none 0 0, .int .u8 0] 34) none
      have hg9 := grown_trans gA ga
      have hbk := heap_alloc_new w3 (.cells #[.int .u8 0, .int .u8 0, .int .u8 0, .int .u8 0, .int .u8 0, .int .u8 0, .int .u8 0, .int .u8 0, .int .u8 0, .int .u8 0, .int .u8 0, .int .u8 0, .int .u8 0, .int .u8 0, .int .u8 0, .int .u8 0, .int .u8 0, .int .u8 0, .int .u8 0, .int .u8 0, .int .u8 0, .int .u8 0, .int .u8 0, .int .u8 0, .int .u8 0, .int .u8 0, .int .u8 0, .int .u8 0, .int .u8 0, .int .u8 0, .int .u8 0, .int .u8 0, .int .u8 0, .int .u8 0, .int .u8 0, .int .u8 0, .int .u8 0, .int .u8 0, .int .u8 0, .int .u8 0, .int .u8 0, .int .u8 0, .int .u8 0, .int .u8 0, .int .u8 0, .int .u8 0, .int .u8 0, .int .u8 0, .int .u8 0, .int .u8 0, .int .u8 0, .int .u8 0, .int .u32 0, .slice none 0 0, .int .u8 0] 34)
      have hB := gA.size
      refine wpAnyH_yieldD (some 5) (i := 7) (v := .pointer (some ⟨w3.heap.size, 0, none⟩)) (w' := w3.alloc (.cells #[.int .u8 0, .int .u8 0, .int .u8 0, .int .u8 0, .int .u8 0, .int .u8 0, .int .u8 0, .int .u8 0, .int .u8 0, .int .u8 0, .int .u8 0, .int .u8 0, .int .u8 0, .int .u8 0, .int .u8 0, .int .u8 0, .int .u8 0, .int .u8 0, .int .u8 0, .int .u8 0, .int .u8 0, .int .u8 0, .int .u8 0, .int .u8 0, .int .u8 0, .int .u8 0, .int .u8 0, .int .u8 0, .int .u8 0, .int .u8 0, .int .u8 0, .int .u8 0, .int .u8 0, .int .u8 0, .int .u8 0, .int .u8 0, .int .u8 0, .int .u8 0, .int .u8 0, .int .u8 0, .int .u8 0, .int .u8 0, .int .u8 0, .int .u8 0, .int .u8 0, .int .u8 0, .int .u8 0, .int .u8 0, .int .u8 0, .int .u8 0, .int .u8 0, .int .u8 0, .int .u32 0, .slice none 0 0, .int .u8 0] 34)) (by kernel_rfl) rfl rfl rfl (by go_simp) hg9 ?_
      simp only [Act.put, List.setIfInBounds_toArray, List.set_cons_succ, List.set_cons_zero]
      generalize w3.alloc (.cells #[.int .u8 0, .int .u8 0, .int .u8 0, .int .u8 0, .int .u8 0, .int .u8 0, .int .u8 0, .int .u8 0, .int .u8 0, .int .u8 0, .int .u8 0, .int .u8 0, .int .u8 0, .int .u8 0, .int .u8 0, .int .u8 0, .int .u8 0, .int .u8 0, .int .u8 0, .int .u8 0, .int .u8 0, .int .u8 0, .int .u8 0, .int .u8 0, .int .u8 0, .int .u8 0, .int .u8 0, .int .u8 0, .int .u8 0, .int .u8 0, .int .u8 0, .int .u8 0, .int .u8 0, .int .u8 0, .int .u8 0, .int .u8 0, .int .u8 0, .int .u8 0, .int .u8 0, .int .u8 0, .int .u8 0, .int .u8 0, .int .u8 0, .int .u8 0, .int .u8 0, .int .u8 0, .int .u8 0, .int .u8 0, .int .u8 0, .int .u8 0, .int .u8 0, .int .u8 0, .int .u32 0, .slice none 0 0, .int .u8 0] 34) = w4 at *
      generalize w3.heap.size = B at *
      refine wpAnyH_skipD (i := 8) (w' := w4.setRow B (SV.ref0 F).cells) (by kernel_rfl) rfl rfl rfl (exec_storeRow (.tmp 5) (.tmp 18) rfl rfl rfl hbk) (grown_setRow_new hg9 _ _ (Or.inl hB)) ?_
      refine wpAnyH_done (by kernel_rfl) ?_ _
      go_wp2_with fail
      go_meet
      case rel => exact ⟨B, rfl, ⟨setRow_heap _ _ _ _ _ _ hbk⟩, hB, grown_setRow_new hg9 _ _ (Or.inl hB)⟩
    · have ga := World.grownBy_alloc w2 (.cells #[.int .u8 0, .int .u8 0, .int .u8 0, .int .u8 0, .int .u8 0, .int .u8 0, .int .u8 0, .int .u8 0, .int .u8 0, .int .u8 0, .int .u8 0, .int .u8 0, .int .u8 0, .int .u8 0, .int .u8 0, .int .u8 0, .int .u8 0, .int .u8 0, .int .u8 0, .int .u8 0, .int .u8 0, .int .u8 0, .int .u8 0, .int .u8 0, .int .u8 0, .int .u8 0, .int .u8 0, .int .u8 0, .int .u8 0, .int .u8 0, .int .u8 0, .int .u8 0, .int .u8 0, .int .u8 0, .int .u8 0, .int .u8 0, .int .u8 0, .int .u8 0, .int .u8 0, .int .u8 0, .int .u8 0, .int .u8 0, .int .u8 0, .int .u8 0, .int .u8 0, .int .u8 0, .int .u8 0, .int .u8 0, .int .u8 0, .int .u8 0, .int .u8 0, .int .u8 0, .int .u32 0, .slice none 0 0, .int .u8 0] 34) none
      have gA := grown_trans gq ga
      have hbk := heap_alloc_new w2 (.cells #[.int .u8 0, .int .u8 0, .int .u8 0, .int .u8 0, .int .u8 0, .int .u8 0, .int .u8 0, .int .u8 0, .int .u8 0, .int .u8 0, .int .u8 0, .int .u8 0, .int .u8 0, .int .u8 0, .int .u8 0, .int .u8 0, .int .u8 0, .int .u8 0, .int .u8 0, .int .u8 0, .int .u8 0, .int .u8 0, .int .u8 0, .int .u8 0, .int .u8 0, .int .u8 0, .int .u8 0, .int .u8 0, .int .u8 0, .int .u8 0, .int .u8 0, .int .u8 0, .int .u8 0, .int .u8 0, .int .u8 0, .int .u8 0, .int .u8 0, .int .u8 0, .int .u8 0, .int .u8 0, .int .u8 0, .int .u8 0, .int .u8 0, .int .u8 0, .int .u8 0, .int .u8 0, .int .u8 0, .int .u8 0, .int .u8 0, .int .u8 0, .int .u8 0, .int .u8 0, .int .u32 0, .slice none 0 0, .int .u8 0] 34)
      have hB := gq.size
      refine wpOp_at rfl rfl (wp_yieldsE (some 5) rfl (v := .pointer (some ⟨w2.heap.size, 0, none⟩)) (w' := w2.alloc (.cells #[.int .u8 0, .int .u8 0, .int .u8 0, .int .u8 0, .int .u8 0, .int .u8 0, .int .u8 0, .int .u8 0, .int .u8 0, .int .u8 0, .int .u8 0, .int .u8 0, .int .u8 0, .int .u8 0, .int .u8 0, .int .u8 0, .int .u8 0, .int .u8 0, .int .u8 0, .int .u8 0, .int .u8 0, .int .u8 0, .int .u8 0, .int .u8 0, .int .u8 0, .int .u8 0, .int .u8 0, .int .u8 0, .int .u8 0, .int .u8 0, .int .u8 0, .int .u8 0, .int .u8 0, .int .u8 0, .int .u8 0, .int .u8 0, .int .u8 0, .int .u8 0, .int .u8 0, .int .u8 0, .int .u8 0, .int .u8 0, .int .u8 0, .int .u8 0, .int .u8 0, .int .u8 0, .int .u8 0, .int .u8 0, .int .u8 0, .int .u8 0, .int .u8 0, .int .u8 0, .int .u32 0, .slice none 0 0, .int .u8 0] 34)) (by go_simp) ⟨gA, ?_⟩)
      simp only [Act.put, List.setIfInBounds_toArray, List.set_cons_succ, List.set_cons_zero]
      have hlt : w2.heap.size < (w2.alloc (.cells #[.int .u8 0, .int .u8 0, .int .u8 0, .int .u8 0, .int .u8 0, .int .u8 0, .int .u8 0, .int .u8 0, .int .u8 0, .int .u8 0, .int .u8 0, .int .u8 0, .int .u8 0, .int .u8 0, .int .u8 0, .int .u8 0, .int .u8 0, .int .u8 0, .int .u8 0, .int .u8 0, .int .u8 0, .int .u8 0, .int .u8 0, .int .u8 0, .int .u8 0, .int .u8 0, .int .u8 0, .int .u8 0, .int .u8 0, .int .u8 0, .int .u8 0, .int .u8 0, .int .u8 0, .int .u8 0, .int .u8 0, .int .u8 0, .int .u8 0, .int .u8 0, .int .u8 0, .int .u8 0, .int .u8 0, .int .u8 0, .int .u8 0, .int .u8 0, .int .u8 0, .int .u8 0, .int .u8 0, .int .u8 0, .int .u8 0, .int .u8 0, .int .u8 0, .int .u8 0, .int .u32 0, .slice none 0 0, .int .u8 0] 34)).heap.size := by rw [World.size_alloc]; omega
      generalize w2.alloc (.cells #[.int .u8 0, .int .u8 0, .int .u8 0, .int .u8 0, .int .u8 0, .int .u8 0, .int .u8 0, .int .u8 0, .int .u8 0, .int .u8 0, .int .u8 0, .int .u8 0, .int .u8 0, .int .u8 0, .int .u8 0, .int .u8 0, .int .u8 0, .int .u8 0, .int .u8 0, .int .u8 0, .int .u8 0, .int .u8 0, .int .u8 0, .int .u8 0, .int .u8 0, .int .u8 0, .int .u8 0, .int .u8 0, .int .u8 0, .int .u8 0, .int .u8 0, .int .u8 0, .int .u8 0, .int .u8 0, .int .u8 0, .int .u8 0, .int .u8 0, .int .u8 0, .int .u8 0, .int .u8 0, .int .u8 0, .int .u8 0, .int .u8 0, .int .u8 0, .int .u8 0, .int .u8 0, .int .u8 0, .int .u8 0, .int .u8 0, .int .u8 0, .int .u8 0, .int .u8 0, .int .u32 0, .slice none 0 0, .int .u8 0] 34) = w3 at *
      generalize w2.heap.size = B at *
      refine wpAnyH_callD (some 17) (i := 5) 28 #[.slice a16 16 (c - 1 : Nat)] (R := fun v W => v = .agg (cellsOf .u8 16 (fun i => F (1 + i))) ∧ w3.grownBy W none) (by kernel_rfl) rfl rfl rfl (exec_fn1 _ _ _ rfl rfl) sgOfId_enters ((sgOfId_any D 16 (c - 1) a16 (fun i => F (1 + i)) w3 ((HR16.out w1 HR1.out).grown gA (by simp)) (Nat.le_refl _)).mono fun e W' h => ⟨_, h.1, rfl, h.2⟩) ?_
      rintro v w4 ⟨rfl, hg4⟩
      have hg9 := grown_trans gA hg4
      replace hbk := (hg4.block B hlt (by simp)).trans hbk
      refine ⟨hg9, ?_⟩
      simp only [Act.put, List.setIfInBounds_toArray, List.set_cons_succ, List.set_cons_zero]
      refine wpAnyH_takeD (some 18) (i := 6) (v := .agg (SV.ref0 F).cells) rfl rfl (by kernel_rfl) (by kernel_rfl) (by kernel_rfl) (fun _ _ _ h => h) (Or.inl ⟨rfl, fun W hW => (exec_build_first 14 17 rfl rfl rfl)⟩) hg9 ?_
      simp only [Act.put, List.setIfInBounds_toArray, List.set_cons_succ, List.set_cons_zero]
      refine wpAnyH_skipD (i := 8) (w' := w4.setRow B (SV.ref0 F).cells) (by kernel_rfl) rfl rfl rfl (exec_storeRow (.tmp 5) (.tmp 18) rfl rfl rfl hbk) (grown_setRow_new hg9 _ _ (Or.inl hB)) ?_
      refine wpAnyH_done (by kernel_rfl) ?_ _
      go_wp2_with fail
      go_meet
      case rel => exact ⟨B, rfl, ⟨setRow_heap _ _ _ _ _ _ hbk⟩, hB, grown_setRow_new hg9 _ _ (Or.inl hB)⟩
  case rest =>
    obtain ⟨B, rfl, hS, hB, hgc⟩ := hcut
    obtain ⟨n, hn⟩ : ∃ n, n = L - 17 := ⟨_, rfl⟩
    have e17 : (L : Int) - 17 = (n : Int) := by have := H17.out; omega
    have kn : (n : Int) < 9223372036854775808 := by have := HL.out; omega
    have HN := Lib.hid hn
    have HB := Lib.hid hB
    clear hn hB c00 hs16' kL htb
    go_upto_region 7 with fail
    clear e17 kn
    by_cases hk : F 0 = 1
    · as_aux_lemma =>
        have ck : wc.cell? ⟨B, 0, none⟩ = some (.int .u8 1) := hS.cells.k.trans (by show some (Value.int .u8 (F 0 : Nat)) = _; rw [hk]; rfl)
        by_cases h35 : n = 35
        · have h35i : (n : Int) = 35 := by omega
          have HN35 := Lib.hid h35
          have k19 : (19 : Int) < (L : Int) := by have := HN.out; have := H17.out; omega
          have k18 : (18 : Int) < (L : Int) := by omega
          have k17 : (17 : Int) < (L : Int) := by omega
          have m19 : 19 < L := by omega
          have m18 : 18 < L := by omega
          have m17 : 17 < L := by omega
          have HTK := Lib.hid (show SV.shape L F = some (SV.ref1 F) by unfold SV.shape; rw [if_neg (by have := H17.out; omega)]; rw [if_pos hk]; rw [if_pos (by have := HN.out; have := H17.out; omega)])
          clear h35 hk
          go_upto_region 8 with fail
          refine wp_region_held (S := fun W => w1.grownBy W none) (by kernel_rfl) ?_
          change wpAnyH _ _ _ _ _ 9 #[false, false, false, false, false, false, false, false, false] _ (World.drew _)
          replace hS : SAt (World.drew wc) B (SV.ref0 F) := ⟨hS.block⟩
          replace hgc := grown_drew hgc
          clear ck
          generalize World.drew wc = wq at *
          refine wpAnyH_takeD (some 31) (i := 0) (v := (.slice (some ⟨tb, o, none⟩) L c)) rfl rfl (by kernel_rfl) (by kernel_rfl) (by kernel_rfl) (fun _ _ _ h => h) (Or.inl ⟨rfl, fun _ _ => rfl⟩) hgc ?_
          simp only [Act.put, List.setIfInBounds_toArray, List.set_cons_succ, List.set_cons_zero]
          refine wpAnyH_takeD (some 32) (i := 1) (v := (.pointer (some ⟨tb, o + 17, none⟩))) rfl rfl (by kernel_rfl) (by kernel_rfl) (by kernel_rfl) (fun _ _ _ h => h) (Or.inl ⟨rfl, fun _ _ => by go_simp⟩) hgc ?_
          simp only [Act.put, List.setIfInBounds_toArray, List.set_cons_succ, List.set_cons_zero]
          refine wpAnyH_takeD (some 33) (i := 2) (v := (.int .u8 (F 17))) rfl rfl (by kernel_rfl) (by kernel_rfl) (by kernel_rfl) (fun _ _ _ h => h) (Or.inl ⟨rfl, fun W hW => exec_load (.tmp 32) _ _ rfl rfl (load_u8 (hW.cell (HC.out 17 (by have := HN.out; have := H17.out; have := HN35.out; omega)) (by simp)))⟩) hgc ?_
          simp only [Act.put, List.setIfInBounds_toArray, List.set_cons_succ, List.set_cons_zero]
          refine wpAnyH_takeD (some 34) (i := 3) (v := (.slice (some ⟨tb, o, none⟩) L c)) rfl rfl (by kernel_rfl) (by kernel_rfl) (by kernel_rfl) (fun _ _ _ h => h) (Or.inl ⟨rfl, fun _ _ => rfl⟩) hgc ?_
          simp only [Act.put, List.setIfInBounds_toArray, List.set_cons_succ, List.set_cons_zero]
          refine wpAnyH_takeD (some 35) (i := 4) (v := (.pointer (some ⟨tb, o + 18, none⟩))) rfl rfl (by kernel_rfl) (by kernel_rfl) (by kernel_rfl) (fun _ _ _ h => h) (Or.inl ⟨rfl, fun _ _ => by go_simp⟩) hgc ?_
          simp only [Act.put, List.setIfInBounds_toArray, List.set_cons_succ, List.set_cons_zero]
          refine wpAnyH_takeD (some 36) (i := 5) (v := (.int .u8 (F 18))) rfl rfl (by kernel_rfl) (by kernel_rfl) (by kernel_rfl) (fun _ _ _ h => h) (Or.inl ⟨rfl, fun W hW => exec_load (.tmp 35) _ _ rfl rfl (load_u8 (hW.cell (HC.out 18 (by have := HN.out; have := H17.out; have := HN35.out; omega)) (by simp)))⟩) hgc ?_
          simp only [Act.put, List.setIfInBounds_toArray, List.set_cons_succ, List.set_cons_zero]
          refine wpAnyH_takeD (some 37) (i := 6) (v := (.agg #[.int .u8 (F 17), .int .u8 (F 18)])) rfl rfl (by kernel_rfl) (by kernel_rfl) (by kernel_rfl) (fun _ _ _ h => h) (Or.inl ⟨rfl, fun _ _ => by go_simp⟩) hgc ?_
          simp only [Act.put, List.setIfInBounds_toArray, List.set_cons_succ, List.set_cons_zero]
          refine wpAnyH_takeD (some 38) (i := 7) (v := (.pointer (some ⟨B, 17, none⟩))) rfl rfl (by kernel_rfl) (by kernel_rfl) (by kernel_rfl) (fun _ _ _ h => h) (Or.inl ⟨rfl, fun _ _ => by go_simp⟩) hgc ?_
          simp only [Act.put, List.setIfInBounds_toArray, List.set_cons_succ, List.set_cons_zero]
          have hS2 := hS.set 17 [.int .u8 (F 17), .int .u8 (F 18)] { SV.ref0 F with ac := F 17, dv := F 18 } (by kernel_rfl)
          have hg2 := grown_setCells B (Or.inl HB.out) [.int .u8 (F 17), .int .u8 (F 18)] 17 wq hgc
          refine wpAnyH_skipD (i := 8) (by kernel_rfl) rfl rfl rfl (exec_store (.tmp 38) (.tmp 37) _ _ rfl rfl rfl (hS.store 17 29 #[.int .u8 (F 17), .int .u8 (F 18)] (show 17 + 2 ≤ 55 by decide) (by kernel_rfl) (by simp [Value.oneCell']))) hg2 ?_
          clear hS hgc
          refine wpAnyH_done (by kernel_rfl) ?_ _
          replace hgc := hg2
          have hS := hS2
          clear hg2 hS2
          generalize wq.setCells B 17 [.int .u8 (F 17), .int .u8 (F 18)] = wd at *
          have c19 := hgc.cell (HC.out 19 (by have := HN.out; have := H17.out; have := HN35.out; omega)) (by simp)
          have cb := hS.cells.ce
          have fb := hS.frozen 19
          have HS := Lib.hid (hS.put1 19 (.int .u8 (F 19)) { SV.ref0 F with ac := F 17, dv := F 18, ce := F 19 } (by kernel_rfl))
          have HG := Lib.hid (grown_setCell_new hgc ⟨B, 19, none⟩ (.int .u8 (F 19)) (Or.inl HB.out))
          clear hS hgc
          go_upto_region 10 with fail
          generalize wd.setCell ⟨B, 19, none⟩ (.int .u8 (F 19)) = we at *
          have hS := HS.out
          have hgc := HG.out
          clear HS HG c19 cb fb
          have ck : True := trivial
          obtain ⟨ak, hsk, hRk⟩ := run_restR c 20 HR1.out (by have := HN.out; have := H17.out; omega) HLC.out
          replace hsk : ∀ W, (Instr.slice 22 (.slice (some ⟨tb, o, none⟩) L c) (some (.int .i64 20)) none none).run Try.prog W = .ok (.slice ak (L - 20) (c - 20)) W := hsk
          have HK := Lib.hid (fun W (g : w1.grownBy W none) => sgOfKey_any D (L - 20) (c - 20) ak (fun i => F (20 + i)) W ((hRk w1 HR1.out).grown g (by simp)) (by have := HN.out; have := H17.out; have := HN35.out; omega))
          clear hRk
          go_wp2_with fail
          go_at_call 29
          refine (HK.out _ hgc).mono ?_
          rintro e wk ⟨rfl, gk⟩
          have hgk0 := grown_trans hgc gk
          replace hS := hS.grown gk (by simp)
          clear gk HK hgc hsk
          have hgk := grown_setCells B (Or.inl HB.out) (cellsOf .u8 32 (fun i => F (20 + i))).toList 20 wk hgk0
          have th := hS.there 20 32 (by decide)
          replace hS := set_key1 F wk B hS
          have HTH := Lib.hid th
          have HG := Lib.hid hgk
          have HS := Lib.hid hS
          clear th hgk hS hgk0 ck
          go_upto_region 19 with (first | ((with_reducible refine wpList_here ?_); refine wpList_store_mid rfl 31 (.tmp 46) (.tmp 45) rfl B 20 (cellsOf .u8 32 (fun i => F (20 + i))) rfl (by kernel_rfl) (by rw [cellsOf_size]; exact HTH.out) (by rw [cellsOf_size]; kernel_rfl) (cellsOf_all _ _ _) ?_))
          try simp only [Act.put]
          generalize wk.setCells B 20 (cellsOf .u8 32 (fun i => F (20 + i))).toList = wz at *
          have hgk := HG.out
          have hS := HS.out
          clear HG HS HTH
          have HZK := Lib.hid (HZ.out.grown hgk (by simp))
          have HRK := Lib.hid ((hgk.block w.heap.size (by have := HZ1.out; omega) (by simp)).trans HRB.out)
          have HGK := Lib.hid (grown_trans HG1.out hgk)
          obtain ⟨_, _, _, l5⟩ := hS.loads
          have HM := Lib.hid (refSgMay_any _ (SV.ref1 F) wz (SV.Ok.ref1 HF.out) (rd_none _ 0 _))
          have HSS := Lib.hid hS
          clear hS hgk
          obtain ⟨mb, hmb⟩ : ∃ mb, mb = (SV.ref1 F).mayC := ⟨_, rfl⟩
          rw [← hmb] at HM
          have HMB := Lib.hid hmb
          clear hmb
          go_wp2_with (first | ((with_reducible refine wpList_here ?_); refine wpList_ld (p := .pointer (some ⟨B, 0, none⟩)) 5 ?_ ?_ ?_ l5 ?_; (· rfl); go_simp; (· kernel_rfl)))
          go_at_call 10
          refine HM.out.mono ?_
          rintro e wm ⟨rfl, gm⟩
          replace HRK := Lib.hid ((gm.block w.heap.size (World.block_lt_of_cell? _ _ (cell_of_row _ _ 0 _ _ _ HRK.out)) (by simp)).trans HRK.out)
          replace HGK := Lib.hid (grown_trans HGK.out gm)
          replace HZK := Lib.hid (HZK.out.grown gm (by simp))
          replace HSS := Lib.hid (HSS.out.grown gm (by simp))
          clear gm HM l5
          cases mb with
          | false =>
            obtain ⟨_, _, _, l0⟩ := HZK.out.loads
            go_wp2_with (first | ((with_reducible refine wpList_here ?_); refine wpList_ld (p := .pointer (some ⟨(w.heap.size + 1), 0, none⟩)) 4 ?_ ?_ ?_ l0 ?_; (· rfl); go_simp; (· kernel_rfl)) | ((with_reducible refine wpList_here ?_); refine wpList_store_row rfl 34 (.tmp 2) (.tmp 114) rfl w.heap.size SV.zeroV.cells rfl (by kernel_rfl) 34 _ HRK.out (by rw [SV.size]; kernel_rfl) (by rw [SV.size]; rfl) (SV.allV _) ?_))
            exact bodyPost_ret (v := .tuple #[.agg SV.zeroV.cells, .bool false]) (results_row2 rfl _ _ w.heap.size 34 _ (0, 0) rfl (setRow_heap _ _ _ _ _ _ HRK.out) (by kernel_rfl) (by rw [SV.size]; kernel_rfl) rfl) rfl (rtook_no HTK.out HMB.out (grown_setRow_new HGK.out _ _ (Or.inl (Nat.le_refl _))))
          | true =>
            obtain ⟨_, _, _, l6⟩ := HSS.out.loads
            go_wp2_with (first | ((with_reducible refine wpList_here ?_); refine wpList_ld (p := .pointer (some ⟨B, 0, none⟩)) 5 ?_ ?_ ?_ l6 ?_; (· rfl); go_simp; (· kernel_rfl)) | ((with_reducible refine wpList_here ?_); refine wpList_store_row rfl 34 (.tmp 2) (.tmp 115) rfl w.heap.size (SV.ref1 F).cells rfl (by kernel_rfl) 34 _ HRK.out (by rw [SV.size]; kernel_rfl) (by rw [SV.size]; rfl) (SV.allV _) ?_))
            exact bodyPost_ret (v := .tuple #[.agg (SV.ref1 F).cells, .bool true]) (results_row2 rfl _ _ w.heap.size 34 _ (0, 0) rfl (setRow_heap _ _ _ _ _ _ HRK.out) (by kernel_rfl) (by rw [SV.size]; kernel_rfl) rfl) rfl (rtook_yes (a := none) (c := 0) HTK.out HMB.out (OwnN.nil _ _ _) (grown_setRow_new HGK.out _ _ (Or.inl (Nat.le_refl _))))
        · have h35i : ¬ (n : Int) = 35 := by omega
          have HT := Lib.hid (show SV.takesR L F = none by unfold SV.takesR SV.shape; rw [if_neg (by have := H17.out; omega)]; rw [if_pos hk]; rw [if_neg (by have := HN.out; have := H17.out; omega)]; rfl)
          clear h35 hk
          have HZK := Lib.hid (HZ.out.grown hgc (by simp))
          have HRK := Lib.hid ((hgc.block w.heap.size (by have := HZ1.out; omega) (by simp)).trans HRB.out)
          have HGK := Lib.hid (grown_trans HG1.out hgc)
          clear hS hgc
          obtain ⟨_, _, _, l0⟩ := HZK.out.loads
          go_wp2_with (first | ((with_reducible refine wpList_here ?_); refine wpList_ld (p := .pointer (some ⟨(w.heap.size + 1), 0, none⟩)) 4 ?_ ?_ ?_ l0 ?_; (· rfl); go_simp; (· kernel_rfl)) | ((with_reducible refine wpList_here ?_); refine wpList_store_row rfl 34 (.tmp 2) (.tmp 22) rfl w.heap.size SV.zeroV.cells rfl (by kernel_rfl) 34 _ HRK.out (by rw [SV.size]; kernel_rfl) (by rw [SV.size]; rfl) (SV.allV _) ?_))
          exact bodyPost_ret (v := .tuple #[.agg SV.zeroV.cells, .bool false]) (results_row2 rfl _ _ w.heap.size 34 _ (0, 0) rfl (setRow_heap _ _ _ _ _ _ HRK.out) (by kernel_rfl) (by rw [SV.size]; kernel_rfl) rfl) rfl (rtook_none HT.out (grown_setRow_new HGK.out _ _ (Or.inl (Nat.le_refl _))))
    have hk1 := hk
    clear hk
    by_cases hk : F 0 = 2
    · as_aux_lemma =>
        have ck : wc.cell? ⟨B, 0, none⟩ = some (.int .u8 2) := hS.cells.k.trans (by show some (Value.int .u8 (F 0 : Nat)) = _; rw [hk]; rfl)
        by_cases h35 : n = 32
        · have h35i : (n : Int) = 32 := by omega
          have HN35 := Lib.hid h35
          have HTK := Lib.hid (show SV.shape L F = some (SV.ref2 F) by unfold SV.shape; rw [if_neg (by have := H17.out; omega)]; rw [if_neg (by omega)]; rw [if_pos hk]; rw [if_pos (by have := HN.out; have := H17.out; omega)])
          clear h35 hk
          obtain ⟨ak, hsk, hRk⟩ := run_restR c 17 HR1.out (by have := HN.out; have := H17.out; omega) HLC.out
          replace hsk : ∀ W, (Instr.slice 22 (.slice (some ⟨tb, o, none⟩) L c) (some (.int .i64 17)) none none).run Try.prog W = .ok (.slice ak (L - 17) (c - 17)) W := hsk
          have HK := Lib.hid (fun W (g : w1.grownBy W none) => sgOfKey_any D (L - 17) (c - 17) ak (fun i => F (17 + i)) W ((hRk w1 HR1.out).grown g (by simp)) (by have := HN.out; have := H17.out; have := HN35.out; omega))
          clear hRk
          go_wp2_with fail
          go_at_call 29
          refine (HK.out _ hgc).mono ?_
          rintro e wk ⟨rfl, gk⟩
          have hgk0 := grown_trans hgc gk
          replace hS := hS.grown gk (by simp)
          clear gk HK hgc hsk
          have hgk := grown_setCells B (Or.inl HB.out) (cellsOf .u8 32 (fun i => F (17 + i))).toList 20 wk hgk0
          have th := hS.there 20 32 (by decide)
          replace hS := set_key2 F wk B hS
          have HTH := Lib.hid th
          have HG := Lib.hid hgk
          have HS := Lib.hid hS
          clear th hgk hS hgk0 ck
          go_upto_region 19 with (first | ((with_reducible refine wpList_here ?_); refine wpList_store_mid rfl 31 (.tmp 58) (.tmp 57) rfl B 20 (cellsOf .u8 32 (fun i => F (17 + i))) rfl (by kernel_rfl) (by rw [cellsOf_size]; exact HTH.out) (by rw [cellsOf_size]; kernel_rfl) (cellsOf_all _ _ _) ?_))
          try simp only [Act.put]
          generalize wk.setCells B 20 (cellsOf .u8 32 (fun i => F (17 + i))).toList = wz at *
          have hgk := HG.out
          have hS := HS.out
          clear HG HS HTH
          have HZK := Lib.hid (HZ.out.grown hgk (by simp))
          have HRK := Lib.hid ((hgk.block w.heap.size (by have := HZ1.out; omega) (by simp)).trans HRB.out)
          have HGK := Lib.hid (grown_trans HG1.out hgk)
          obtain ⟨_, _, _, l5⟩ := hS.loads
          have HM := Lib.hid (refSgMay_any _ (SV.ref2 F) wz (SV.Ok.ref2 HF.out) (rd_none _ 0 _))
          have HSS := Lib.hid hS
          clear hS hgk
          obtain ⟨mb, hmb⟩ : ∃ mb, mb = (SV.ref2 F).mayC := ⟨_, rfl⟩
          rw [← hmb] at HM
          have HMB := Lib.hid hmb
          clear hmb
          go_wp2_with (first | ((with_reducible refine wpList_here ?_); refine wpList_ld (p := .pointer (some ⟨B, 0, none⟩)) 5 ?_ ?_ ?_ l5 ?_; (· rfl); go_simp; (· kernel_rfl)))
          go_at_call 10
          refine HM.out.mono ?_
          rintro e wm ⟨rfl, gm⟩
          replace HRK := Lib.hid ((gm.block w.heap.size (World.block_lt_of_cell? _ _ (cell_of_row _ _ 0 _ _ _ HRK.out)) (by simp)).trans HRK.out)
          replace HGK := Lib.hid (grown_trans HGK.out gm)
          replace HZK := Lib.hid (HZK.out.grown gm (by simp))
          replace HSS := Lib.hid (HSS.out.grown gm (by simp))
          clear gm HM l5
          cases mb with
          | false =>
            obtain ⟨_, _, _, l0⟩ := HZK.out.loads
            go_wp2_with (first | ((with_reducible refine wpList_here ?_); refine wpList_ld (p := .pointer (some ⟨(w.heap.size + 1), 0, none⟩)) 4 ?_ ?_ ?_ l0 ?_; (· rfl); go_simp; (· kernel_rfl)) | ((with_reducible refine wpList_here ?_); refine wpList_store_row rfl 34 (.tmp 2) (.tmp 114) rfl w.heap.size SV.zeroV.cells rfl (by kernel_rfl) 34 _ HRK.out (by rw [SV.size]; kernel_rfl) (by rw [SV.size]; rfl) (SV.allV _) ?_))
            exact bodyPost_ret (v := .tuple #[.agg SV.zeroV.cells, .bool false]) (results_row2 rfl _ _ w.heap.size 34 _ (0, 0) rfl (setRow_heap _ _ _ _ _ _ HRK.out) (by kernel_rfl) (by rw [SV.size]; kernel_rfl) rfl) rfl (rtook_no HTK.out HMB.out (grown_setRow_new HGK.out _ _ (Or.inl (Nat.le_refl _))))
          | true =>
            obtain ⟨_, _, _, l6⟩ := HSS.out.loads
            go_wp2_with (first | ((with_reducible refine wpList_here ?_); refine wpList_ld (p := .pointer (some ⟨B, 0, none⟩)) 5 ?_ ?_ ?_ l6 ?_; (· rfl); go_simp; (· kernel_rfl)) | ((with_reducible refine wpList_here ?_); refine wpList_store_row rfl 34 (.tmp 2) (.tmp 115) rfl w.heap.size (SV.ref2 F).cells rfl (by kernel_rfl) 34 _ HRK.out (by rw [SV.size]; kernel_rfl) (by rw [SV.size]; rfl) (SV.allV _) ?_))
            exact bodyPost_ret (v := .tuple #[.agg (SV.ref2 F).cells, .bool true]) (results_row2 rfl _ _ w.heap.size 34 _ (0, 0) rfl (setRow_heap _ _ _ _ _ _ HRK.out) (by kernel_rfl) (by rw [SV.size]; kernel_rfl) rfl) rfl (rtook_yes (a := none) (c := 0) HTK.out HMB.out (OwnN.nil _ _ _) (grown_setRow_new HGK.out _ _ (Or.inl (Nat.le_refl _))))
        · have h35i : ¬ (n : Int) = 32 := by omega
          have HT := Lib.hid (show SV.takesR L F = none by unfold SV.takesR SV.shape; rw [if_neg (by have := H17.out; omega)]; rw [if_neg (by omega)]; rw [if_pos hk]; rw [if_neg (by have := HN.out; have := H17.out; omega)]; rfl)
          clear h35 hk
          have HZK := Lib.hid (HZ.out.grown hgc (by simp))
          have HRK := Lib.hid ((hgc.block w.heap.size (by have := HZ1.out; omega) (by simp)).trans HRB.out)
          have HGK := Lib.hid (grown_trans HG1.out hgc)
          clear hS hgc
          obtain ⟨_, _, _, l0⟩ := HZK.out.loads
          go_wp2_with (first | ((with_reducible refine wpList_here ?_); refine wpList_ld (p := .pointer (some ⟨(w.heap.size + 1), 0, none⟩)) 4 ?_ ?_ ?_ l0 ?_; (· rfl); go_simp; (· kernel_rfl)) | ((with_reducible refine wpList_here ?_); refine wpList_store_row rfl 34 (.tmp 2) (.tmp 22) rfl w.heap.size SV.zeroV.cells rfl (by kernel_rfl) 34 _ HRK.out (by rw [SV.size]; kernel_rfl) (by rw [SV.size]; rfl) (SV.allV _) ?_))
          exact bodyPost_ret (v := .tuple #[.agg SV.zeroV.cells, .bool false]) (results_row2 rfl _ _ w.heap.size 34 _ (0, 0) rfl (setRow_heap _ _ _ _ _ _ HRK.out) (by kernel_rfl) (by rw [SV.size]; kernel_rfl) rfl) rfl (rtook_none HT.out (grown_setRow_new HGK.out _ _ (Or.inl (Nat.le_refl _))))
    have hk2 := hk
    clear hk
    by_cases hk : F 0 = 5
    · as_aux_lemma =>
        have ck : wc.cell? ⟨B, 0, none⟩ = some (.int .u8 5) := hS.cells.k.trans (by show some (Value.int .u8 (F 0 : Nat)) = _; rw [hk]; rfl)
        by_cases h35 : n = 1
        · have h35i : (n : Int) = 1 := by omega
          have HN35 := Lib.hid h35
          have HTK := Lib.hid (show SV.shape L F = some (SV.ref5 F) by unfold SV.shape; rw [if_neg (by have := H17.out; omega)]; rw [if_neg (by omega)]; rw [if_neg (by omega)]; rw [if_neg (by omega)]; rw [if_pos hk]; rw [if_pos (by have := HN.out; have := H17.out; omega)])
          have k17 : (17 : Int) < (L : Int) := by have := HN.out; have := H17.out; omega
          have m17 : 17 < L := by omega
          clear h35 hk
          have c17 := hgc.cell (HC.out 17 (by have := HN.out; have := H17.out; have := HN35.out; omega)) (by simp)
          have cb := hS.cells.rs
          have fb := hS.frozen 54
          have HS := Lib.hid (hS.put1 54 (.int .u8 (F 17)) (SV.ref5 F) (by kernel_rfl))
          have HG := Lib.hid (grown_setCell_new hgc ⟨B, 54, none⟩ (.int .u8 (F 17)) (Or.inl HB.out))
          clear hS hgc
          go_upto_region 19 with fail
          generalize wc.setCell ⟨B, 54, none⟩ (.int .u8 (F 17)) = wz at *
          have hS := HS.out
          have hgk := HG.out
          clear HS HG c17 cb fb ck
          have HZK := Lib.hid (HZ.out.grown hgk (by simp))
          have HRK := Lib.hid ((hgk.block w.heap.size (by have := HZ1.out; omega) (by simp)).trans HRB.out)
          have HGK := Lib.hid (grown_trans HG1.out hgk)
          obtain ⟨_, _, _, l5⟩ := hS.loads
          have HM := Lib.hid (refSgMay_any _ (SV.ref5 F) wz (SV.Ok.ref5 HF.out) (rd_none _ 0 _))
          have HSS := Lib.hid hS
          clear hS hgk
          obtain ⟨mb, hmb⟩ : ∃ mb, mb = (SV.ref5 F).mayC := ⟨_, rfl⟩
          rw [← hmb] at HM
          have HMB := Lib.hid hmb
          clear hmb
          go_wp2_with (first | ((with_reducible refine wpList_here ?_); refine wpList_ld (p := .pointer (some ⟨B, 0, none⟩)) 5 ?_ ?_ ?_ l5 ?_; (· rfl); go_simp; (· kernel_rfl)))
          go_at_call 10
          refine HM.out.mono ?_
          rintro e wm ⟨rfl, gm⟩
          replace HRK := Lib.hid ((gm.block w.heap.size (World.block_lt_of_cell? _ _ (cell_of_row _ _ 0 _ _ _ HRK.out)) (by simp)).trans HRK.out)
          replace HGK := Lib.hid (grown_trans HGK.out gm)
          replace HZK := Lib.hid (HZK.out.grown gm (by simp))
          replace HSS := Lib.hid (HSS.out.grown gm (by simp))
          clear gm HM l5
          cases mb with
          | false =>
            obtain ⟨_, _, _, l0⟩ := HZK.out.loads
            go_wp2_with (first | ((with_reducible refine wpList_here ?_); refine wpList_ld (p := .pointer (some ⟨(w.heap.size + 1), 0, none⟩)) 4 ?_ ?_ ?_ l0 ?_; (· rfl); go_simp; (· kernel_rfl)) | ((with_reducible refine wpList_here ?_); refine wpList_store_row rfl 34 (.tmp 2) (.tmp 114) rfl w.heap.size SV.zeroV.cells rfl (by kernel_rfl) 34 _ HRK.out (by rw [SV.size]; kernel_rfl) (by rw [SV.size]; rfl) (SV.allV _) ?_))
            exact bodyPost_ret (v := .tuple #[.agg SV.zeroV.cells, .bool false]) (results_row2 rfl _ _ w.heap.size 34 _ (0, 0) rfl (setRow_heap _ _ _ _ _ _ HRK.out) (by kernel_rfl) (by rw [SV.size]; kernel_rfl) rfl) rfl (rtook_no HTK.out HMB.out (grown_setRow_new HGK.out _ _ (Or.inl (Nat.le_refl _))))
          | true =>
            obtain ⟨_, _, _, l6⟩ := HSS.out.loads
            go_wp2_with (first | ((with_reducible refine wpList_here ?_); refine wpList_ld (p := .pointer (some ⟨B, 0, none⟩)) 5 ?_ ?_ ?_ l6 ?_; (· rfl); go_simp; (· kernel_rfl)) | ((with_reducible refine wpList_here ?_); refine wpList_store_row rfl 34 (.tmp 2) (.tmp 115) rfl w.heap.size (SV.ref5 F).cells rfl (by kernel_rfl) 34 _ HRK.out (by rw [SV.size]; kernel_rfl) (by rw [SV.size]; rfl) (SV.allV _) ?_))
            exact bodyPost_ret (v := .tuple #[.agg (SV.ref5 F).cells, .bool true]) (results_row2 rfl _ _ w.heap.size 34 _ (0, 0) rfl (setRow_heap _ _ _ _ _ _ HRK.out) (by kernel_rfl) (by rw [SV.size]; kernel_rfl) rfl) rfl (rtook_yes (a := none) (c := 0) HTK.out HMB.out (OwnN.nil _ _ _) (grown_setRow_new HGK.out _ _ (Or.inl (Nat.le_refl _))))
        · have h35i : ¬ (n : Int) = 1 := by omega
          have HT := Lib.hid (show SV.takesR L F = none by unfold SV.takesR SV.shape; rw [if_neg (by have := H17.out; omega)]; rw [if_neg (by omega)]; rw [if_neg (by omega)]; rw [if_neg (by omega)]; rw [if_pos hk]; rw [if_neg (by have := HN.out; have := H17.out; omega)]; rfl)
          clear h35 hk
          have HZK := Lib.hid (HZ.out.grown hgc (by simp))
          have HRK := Lib.hid ((hgc.block w.heap.size (by have := HZ1.out; omega) (by simp)).trans HRB.out)
          have HGK := Lib.hid (grown_trans HG1.out hgc)
          clear hS hgc
          obtain ⟨_, _, _, l0⟩ := HZK.out.loads
          go_wp2_with (first | ((with_reducible refine wpList_here ?_); refine wpList_ld (p := .pointer (some ⟨(w.heap.size + 1), 0, none⟩)) 4 ?_ ?_ ?_ l0 ?_; (· rfl); go_simp; (· kernel_rfl)) | ((with_reducible refine wpList_here ?_); refine wpList_store_row rfl 34 (.tmp 2) (.tmp 22) rfl w.heap.size SV.zeroV.cells rfl (by kernel_rfl) 34 _ HRK.out (by rw [SV.size]; kernel_rfl) (by rw [SV.size]; rfl) (SV.allV _) ?_))
          exact bodyPost_ret (v := .tuple #[.agg SV.zeroV.cells, .bool false]) (results_row2 rfl _ _ w.heap.size 34 _ (0, 0) rfl (setRow_heap _ _ _ _ _ _ HRK.out) (by kernel_rfl) (by rw [SV.size]; kernel_rfl) rfl) rfl (rtook_none HT.out (grown_setRow_new HGK.out _ _ (Or.inl (Nat.le_refl _))))
    have hk5 := hk
    clear hk
    by_cases hk : F 0 = 4
    · as_aux_lemma =>
        have ck : wc.cell? ⟨B, 0, none⟩ = some (.int .u8 4) := hS.cells.k.trans (by show some (Value.int .u8 (F 0 : Nat)) = _; rw [hk]; rfl)
        by_cases h35 : n = 0
        · have h35i : (n : Int) = 0 := by omega
          have HTK := Lib.hid (show SV.shape L F = some (SV.ref0 F) by unfold SV.shape; rw [if_neg (by have := H17.out; omega)]; rw [if_neg (by omega)]; rw [if_neg (by omega)]; rw [if_neg (by omega)]; rw [if_neg (by omega)]; rw [if_pos (by omega)]; rw [if_pos (by have := HN.out; have := H17.out; omega)])
          clear h35 hk
          have HS := Lib.hid hS
          have HG := Lib.hid hgc
          clear hS hgc
          go_upto_region 19 with fail
          have hS := HS.out
          have hgk := HG.out
          clear HS HG ck
          have HZK := Lib.hid (HZ.out.grown hgk (by simp))
          have HRK := Lib.hid ((hgk.block w.heap.size (by have := HZ1.out; omega) (by simp)).trans HRB.out)
          have HGK := Lib.hid (grown_trans HG1.out hgk)
          obtain ⟨_, _, _, l5⟩ := hS.loads
          have HM := Lib.hid (refSgMay_any _ (SV.ref0 F) wc (SV.Ok.ref0 HF.out) (rd_none _ 0 _))
          have HSS := Lib.hid hS
          clear hS hgk
          obtain ⟨mb, hmb⟩ : ∃ mb, mb = (SV.ref0 F).mayC := ⟨_, rfl⟩
          rw [← hmb] at HM
          have HMB := Lib.hid hmb
          clear hmb
          go_wp2_with (first | ((with_reducible refine wpList_here ?_); refine wpList_ld (p := .pointer (some ⟨B, 0, none⟩)) 5 ?_ ?_ ?_ l5 ?_; (· rfl); go_simp; (· kernel_rfl)))
          go_at_call 10
          refine HM.out.mono ?_
          rintro e wm ⟨rfl, gm⟩
          replace HRK := Lib.hid ((gm.block w.heap.size (World.block_lt_of_cell? _ _ (cell_of_row _ _ 0 _ _ _ HRK.out)) (by simp)).trans HRK.out)
          replace HGK := Lib.hid (grown_trans HGK.out gm)
          replace HZK := Lib.hid (HZK.out.grown gm (by simp))
          replace HSS := Lib.hid (HSS.out.grown gm (by simp))
          clear gm HM l5
          cases mb with
          | false =>
            obtain ⟨_, _, _, l0⟩ := HZK.out.loads
            go_wp2_with (first | ((with_reducible refine wpList_here ?_); refine wpList_ld (p := .pointer (some ⟨(w.heap.size + 1), 0, none⟩)) 4 ?_ ?_ ?_ l0 ?_; (· rfl); go_simp; (· kernel_rfl)) | ((with_reducible refine wpList_here ?_); refine wpList_store_row rfl 34 (.tmp 2) (.tmp 114) rfl w.heap.size SV.zeroV.cells rfl (by kernel_rfl) 34 _ HRK.out (by rw [SV.size]; kernel_rfl) (by rw [SV.size]; rfl) (SV.allV _) ?_))
            exact bodyPost_ret (v := .tuple #[.agg SV.zeroV.cells, .bool false]) (results_row2 rfl _ _ w.heap.size 34 _ (0, 0) rfl (setRow_heap _ _ _ _ _ _ HRK.out) (by kernel_rfl) (by rw [SV.size]; kernel_rfl) rfl) rfl (rtook_no HTK.out HMB.out (grown_setRow_new HGK.out _ _ (Or.inl (Nat.le_refl _))))
          | true =>
            obtain ⟨_, _, _, l6⟩ := HSS.out.loads
            go_wp2_with (first | ((with_reducible refine wpList_here ?_); refine wpList_ld (p := .pointer (some ⟨B, 0, none⟩)) 5 ?_ ?_ ?_ l6 ?_; (· rfl); go_simp; (· kernel_rfl)) | ((with_reducible refine wpList_here ?_); refine wpList_store_row rfl 34 (.tmp 2) (.tmp 115) rfl w.heap.size (SV.ref0 F).cells rfl (by kernel_rfl) 34 _ HRK.out (by rw [SV.size]; kernel_rfl) (by rw [SV.size]; rfl) (SV.allV _) ?_))
            exact bodyPost_ret (v := .tuple #[.agg (SV.ref0 F).cells, .bool true]) (results_row2 rfl _ _ w.heap.size 34 _ (0, 0) rfl (setRow_heap _ _ _ _ _ _ HRK.out) (by kernel_rfl) (by rw [SV.size]; kernel_rfl) rfl) rfl (rtook_yes (a := none) (c := 0) HTK.out HMB.out (OwnN.nil _ _ _) (grown_setRow_new HGK.out _ _ (Or.inl (Nat.le_refl _))))
        · have h35i : ¬ (n : Int) = 0 := by omega
          have HT := Lib.hid (show SV.takesR L F = none by unfold SV.takesR SV.shape; rw [if_neg (by have := H17.out; omega)]; rw [if_neg (by omega)]; rw [if_neg (by omega)]; rw [if_neg (by omega)]; rw [if_neg (by omega)]; rw [if_pos (by omega)]; rw [if_neg (by have := HN.out; have := H17.out; omega)]; rfl)
          clear h35 hk
          have HZK := Lib.hid (HZ.out.grown hgc (by simp))
          have HRK := Lib.hid ((hgc.block w.heap.size (by have := HZ1.out; omega) (by simp)).trans HRB.out)
          have HGK := Lib.hid (grown_trans HG1.out hgc)
          clear hS hgc
          obtain ⟨_, _, _, l0⟩ := HZK.out.loads
          go_wp2_with (first | ((with_reducible refine wpList_here ?_); refine wpList_ld (p := .pointer (some ⟨(w.heap.size + 1), 0, none⟩)) 4 ?_ ?_ ?_ l0 ?_; (· rfl); go_simp; (· kernel_rfl)) | ((with_reducible refine wpList_here ?_); refine wpList_store_row rfl 34 (.tmp 2) (.tmp 22) rfl w.heap.size SV.zeroV.cells rfl (by kernel_rfl) 34 _ HRK.out (by rw [SV.size]; kernel_rfl) (by rw [SV.size]; rfl) (SV.allV _) ?_))
          exact bodyPost_ret (v := .tuple #[.agg SV.zeroV.cells, .bool false]) (results_row2 rfl _ _ w.heap.size 34 _ (0, 0) rfl (setRow_heap _ _ _ _ _ _ HRK.out) (by kernel_rfl) (by rw [SV.size]; kernel_rfl) rfl) rfl (rtook_none HT.out (grown_setRow_new HGK.out _ _ (Or.inl (Nat.le_refl _))))
    have hk4 := hk
    clear hk
    by_cases hk : F 0 = 6
    · as_aux_lemma =>
        have ck : wc.cell? ⟨B, 0, none⟩ = some (.int .u8 6) := hS.cells.k.trans (by show some (Value.int .u8 (F 0 : Nat)) = _; rw [hk]; rfl)
        by_cases h35 : n = 0
        · have h35i : (n : Int) = 0 := by omega
          have HTK := Lib.hid (show SV.shape L F = some (SV.ref0 F) by unfold SV.shape; rw [if_neg (by have := H17.out; omega)]; rw [if_neg (by omega)]; rw [if_neg (by omega)]; rw [if_neg (by omega)]; rw [if_neg (by omega)]; rw [if_pos (by omega)]; rw [if_pos (by have := HN.out; have := H17.out; omega)])
          clear h35 hk
          have HS := Lib.hid hS
          have HG := Lib.hid hgc
          clear hS hgc
          go_upto_region 19 with fail
          have hS := HS.out
          have hgk := HG.out
          clear HS HG ck
          have HZK := Lib.hid (HZ.out.grown hgk (by simp))
          have HRK := Lib.hid ((hgk.block w.heap.size (by have := HZ1.out; omega) (by simp)).trans HRB.out)
          have HGK := Lib.hid (grown_trans HG1.out hgk)
          obtain ⟨_, _, _, l5⟩ := hS.loads
          have HM := Lib.hid (refSgMay_any _ (SV.ref0 F) wc (SV.Ok.ref0 HF.out) (rd_none _ 0 _))
          have HSS := Lib.hid hS
          clear hS hgk
          obtain ⟨mb, hmb⟩ : ∃ mb, mb = (SV.ref0 F).mayC := ⟨_, rfl⟩
          rw [← hmb] at HM
          have HMB := Lib.hid hmb
          clear hmb
          go_wp2_with (first | ((with_reducible refine wpList_here ?_); refine wpList_ld (p := .pointer (some ⟨B, 0, none⟩)) 5 ?_ ?_ ?_ l5 ?_; (· rfl); go_simp; (· kernel_rfl)))
          go_at_call 10
          refine HM.out.mono ?_
          rintro e wm ⟨rfl, gm⟩
          replace HRK := Lib.hid ((gm.block w.heap.size (World.block_lt_of_cell? _ _ (cell_of_row _ _ 0 _ _ _ HRK.out)) (by simp)).trans HRK.out)
          replace HGK := Lib.hid (grown_trans HGK.out gm)
          replace HZK := Lib.hid (HZK.out.grown gm (by simp))
          replace HSS := Lib.hid (HSS.out.grown gm (by simp))
          clear gm HM l5
          cases mb with
          | false =>
            obtain ⟨_, _, _, l0⟩ := HZK.out.loads
            go_wp2_with (first | ((with_reducible refine wpList_here ?_); refine wpList_ld (p := .pointer (some ⟨(w.heap.size + 1), 0, none⟩)) 4 ?_ ?_ ?_ l0 ?_; (· rfl); go_simp; (· kernel_rfl)) | ((with_reducible refine wpList_here ?_); refine wpList_store_row rfl 34 (.tmp 2) (.tmp 114) rfl w.heap.size SV.zeroV.cells rfl (by kernel_rfl) 34 _ HRK.out (by rw [SV.size]; kernel_rfl) (by rw [SV.size]; rfl) (SV.allV _) ?_))
            exact bodyPost_ret (v := .tuple #[.agg SV.zeroV.cells, .bool false]) (results_row2 rfl _ _ w.heap.size 34 _ (0, 0) rfl (setRow_heap _ _ _ _ _ _ HRK.out) (by kernel_rfl) (by rw [SV.size]; kernel_rfl) rfl) rfl (rtook_no HTK.out HMB.out (grown_setRow_new HGK.out _ _ (Or.inl (Nat.le_refl _))))
          | true =>
            obtain ⟨_, _, _, l6⟩ := HSS.out.loads
            go_wp2_with (first | ((with_reducible refine wpList_here ?_); refine wpList_ld (p := .pointer (some ⟨B, 0, none⟩)) 5 ?_ ?_ ?_ l6 ?_; (· rfl); go_simp; (· kernel_rfl)) | ((with_reducible refine wpList_here ?_); refine wpList_store_row rfl 34 (.tmp 2) (.tmp 115) rfl w.heap.size (SV.ref0 F).cells rfl (by kernel_rfl) 34 _ HRK.out (by rw [SV.size]; kernel_rfl) (by rw [SV.size]; rfl) (SV.allV _) ?_))
            exact bodyPost_ret (v := .tuple #[.agg (SV.ref0 F).cells, .bool true]) (results_row2 rfl _ _ w.heap.size 34 _ (0, 0) rfl (setRow_heap _ _ _ _ _ _ HRK.out) (by kernel_rfl) (by rw [SV.size]; kernel_rfl) rfl) rfl (rtook_yes (a := none) (c := 0) HTK.out HMB.out (OwnN.nil _ _ _) (grown_setRow_new HGK.out _ _ (Or.inl (Nat.le_refl _))))
        · have h35i : ¬ (n : Int) = 0 := by omega
          have HT := Lib.hid (show SV.takesR L F = none by unfold SV.takesR SV.shape; rw [if_neg (by have := H17.out; omega)]; rw [if_neg (by omega)]; rw [if_neg (by omega)]; rw [if_neg (by omega)]; rw [if_neg (by omega)]; rw [if_pos (by omega)]; rw [if_neg (by have := HN.out; have := H17.out; omega)]; rfl)
          clear h35 hk
          have HZK := Lib.hid (HZ.out.grown hgc (by simp))
          have HRK := Lib.hid ((hgc.block w.heap.size (by have := HZ1.out; omega) (by simp)).trans HRB.out)
          have HGK := Lib.hid (grown_trans HG1.out hgc)
          clear hS hgc
          obtain ⟨_, _, _, l0⟩ := HZK.out.loads
          go_wp2_with (first | ((with_reducible refine wpList_here ?_); refine wpList_ld (p := .pointer (some ⟨(w.heap.size + 1), 0, none⟩)) 4 ?_ ?_ ?_ l0 ?_; (· rfl); go_simp; (· kernel_rfl)) | ((with_reducible refine wpList_here ?_); refine wpList_store_row rfl 34 (.tmp 2) (.tmp 22) rfl w.heap.size SV.zeroV.cells rfl (by kernel_rfl) 34 _ HRK.out (by rw [SV.size]; kernel_rfl) (by rw [SV.size]; rfl) (SV.allV _) ?_))
          exact bodyPost_ret (v := .tuple #[.agg SV.zeroV.cells, .bool false]) (results_row2 rfl _ _ w.heap.size 34 _ (0, 0) rfl (setRow_heap _ _ _ _ _ _ HRK.out) (by kernel_rfl) (by rw [SV.size]; kernel_rfl) rfl) rfl (rtook_none HT.out (grown_setRow_new HGK.out _ _ (Or.inl (Nat.le_refl _))))
    have hk6 := hk
    clear hk
    by_cases hk : F 0 = 3
    · as_aux_lemma =>
        have ck : wc.cell? ⟨B, 0, none⟩ = some (.int .u8 3) := hS.cells.k.trans (by show some (Value.int .u8 (F 0 : Nat)) = _; rw [hk]; rfl)
        by_cases h6 : 6 ≤ n
        · have h6i : (6 : Int) ≤ (n : Int) := by omega
          obtain ⟨a21, hs21, _, hR21⟩ := run_subR c 21 23 HR1.out (by omega) (by have := HN.out; have := H17.out; omega) HLC.out
          replace hs21 : ∀ W, (Instr.slice 22 (.slice (some ⟨tb, o, none⟩) L c) (some (.int .i64 21)) (some (.int .i64 23)) none).run Try.prog W = .ok (.slice a21 2 (c - 21)) W := hs21
          obtain ⟨q, hq⟩ : ∃ q, q = ofB8 (fun i => F (21 + i)) 2 := ⟨_, rfl⟩
          have HOF := Lib.hid (sgOf_w (fun i => F (21 + i)) (fun i => HF.out _) 2 (c - 21) a21 D wc (by decide) ((hR21 w1 HR1.out).grown hgc (by simp)))
          rw [← hq] at HOF
          have HQ := Lib.hid hq
          have HQL := Lib.hid (show q < 65536 by rw [hq]; exact ofB8_lt _ (fun _ => HF.out _) 2)
          obtain ⟨m, hm⟩ : ∃ m, m = n - 6 := ⟨_, rfl⟩
          have e6 : (n : Int) - 6 = (m : Int) := by omega
          have HM6 := Lib.hid hm
          have hw6 : IntKind.u64.wrap (m : Int) = (m : Int) := by rw [IntKind.wrap_u64]; have := HN.out; have := HL.out; omega
          have hw64 : wrap64 (m : Int) = (m : Int) := by unfold wrap64; have := HN.out; have := HL.out; omega
          clear hq hm hR21
          by_cases hqm : q = m
          · have hqi : (q : Int) = (m : Int) := by omega
            have HTK := Lib.hid (show SV.shape L F = some (SV.ref3 L F) by unfold SV.shape; rw [if_neg (by have := H17.out; omega)]; rw [if_neg (by omega)]; rw [if_neg (by omega)]; rw [if_pos hk]; rw [if_pos (by have := HN.out; have := H17.out; have := HQ.out; have := HM6.out; omega)])
            have HQM := Lib.hid hqm
            have H6 := Lib.hid h6
            clear hqm h6 hk
            go_wp2_with fail
            go_at_call 30
            refine HOF.out.mono ?_
            rintro e wo ⟨rfl, rfl⟩
            clear HOF hs21
            obtain ⟨a17, hs17, _, hR17⟩ := run_subR c 17 21 HR1.out (by omega) (by have := HN.out; have := H17.out; have := H6.out; omega) HLC.out
            replace hs17 : ∀ W, (Instr.slice 22 (.slice (some ⟨tb, o, none⟩) L c) (some (.int .i64 17)) (some (.int .i64 21)) none).run Try.prog W = .ok (.slice a17 4 (c - 17)) W := hs17
            obtain ⟨v, hv⟩ : ∃ v, v = ofB8 (fun i => F (17 + i)) 4 := ⟨_, rfl⟩
            have HOF := Lib.hid (sgOf_w (fun i => F (17 + i)) (fun i => HF.out _) 4 (c - 17) a17 D wc (by decide) ((hR17 w1 HR1.out).grown hgc (by simp)))
            rw [← hv] at HOF
            have hvl : v < 4294967296 := by rw [hv]; exact ofB8_lt _ (fun _ => HF.out _) 4
            have hwv : IntKind.u32.wrap (v : Int) = (v : Int) := by rw [IntKind.wrap_u32]; omega
            have HV := Lib.hid hv
            clear hv hvl hR17
            go_upto_region 14 with fail
            clear hw6
            go_wp2_with fail
            go_at_call 30
            refine HOF.out.mono ?_
            rintro e wo ⟨rfl, rfl⟩
            clear HOF hs17
            have cb := hS.cells.n
            have fb := hS.frozen 52
            have HS := Lib.hid (hS.put1 52 (.int .u32 v) { SV.ref0 F with n := v } (by kernel_rfl))
            have HG := Lib.hid (grown_setCell_new hgc ⟨B, 52, none⟩ (.int .u32 v) (Or.inl HB.out))
            clear hS hgc
            go_upto_region 15 with fail
            generalize wc.setCell ⟨B, 52, none⟩ (.int .u32 v) = wd at *
            have hS := HS.out
            have hgc := HG.out
            clear HS HG cb fb ck hwv
            obtain ⟨a23, hs23, hR23⟩ := run_restR c 23 HR1.out (by have := HN.out; have := H17.out; have := H6.out; omega) HLC.out
            replace hs23 : ∀ W, (Instr.slice 22 (.slice (some ⟨tb, o, none⟩) L c) (some (.int .i64 23)) none none).run Try.prog W = .ok (.slice a23 (L - 23) (c - 23)) W := hs23
            have ga := World.grownBy_alloc wd (.cells #[] 5) none
            have ho := ownR_empty wd
            obtain ⟨v', w', hr, ⟨g', cap', rfl, k1, k2, k3, k4⟩⟩ := app_run (c - 23) 22 ho (((hR23 w1 HR1.out).grown hgc (by simp)).grown ga (by simp)) (by have := HL.out; omega)
            rw [Nat.zero_add] at hr
            have hsa := World.size_alloc wd (.cells #[] 5)
            have HAP := Lib.hid hr
            have hlt := hS.lt
            have hga : wd.grownBy w' none := grown_new ga k3 (Nat.le_refl _)
            have hgn := grown_trans hgc hga
            have hS' := hS.grown hga (by simp)
            have hO0 : OwnN w' (B + 1) (.slice (some ⟨g', 0, none⟩) (L - 23 : Nat) cap') (L - 23) (fun i => F (23 + i)) := ⟨Or.inr ⟨g', cap', rfl, by
  have := k1.congr (f' := fun i => F (23 + i)) (fun i _ => by unfold cat; rw [if_neg (by omega)]; rfl)
  rwa [Nat.zero_add] at this, by omega⟩⟩
            clear k1 k2 k3 k4 ho ga hr hR23 hS hgc hga hsa
            have cb := hS'.cells.d
            have fb := hS'.frozen 53
            have HS := Lib.hid (hS'.put1 53 (.slice (some ⟨g', 0, none⟩) (L - 23 : Nat) cap') ((SV.ref3 L F).withD (some ⟨g', 0, none⟩) cap') (by rw [HV.out]; kernel_rfl))
            have HG := Lib.hid (grown_setCell_new hgn ⟨B, 53, none⟩ (.slice (some ⟨g', 0, none⟩) (L - 23 : Nat) cap') (Or.inl HB.out))
            have HO1 := Lib.hid (hO0.setOld (k := B) (w' := w'.setCell ⟨B, 53, none⟩ (.slice (some ⟨g', 0, none⟩) (L - 23 : Nat) cap')) (grown_setCell_new (grown_refl w' _) ⟨B, 53, none⟩ _ (Or.inr rfl)) (by omega))
            clear hS' hgn hO0 hlt
            go_upto_region 19 with (at_builtin; refine wpList_append_run rfl (.tmp 81) (.tmp 83) 22 22 rfl _ _ _ _ rfl rfl HAP.out ?_)
            try simp only [Act.put]
            clear hs23 cb fb HAP
            generalize w'.setCell ⟨B, 53, none⟩ (.slice (some ⟨g', 0, none⟩) (L - 23 : Nat) cap') = wz at *
            have hS := HS.out
            have hgk := HG.out
            have hO := HO1.out
            clear HS HG HO1
            obtain ⟨ad, had⟩ : ∃ ad, ad = some (⟨g', 0, none⟩ : Addr) := ⟨_, rfl⟩
            obtain ⟨cd, hcd⟩ : ∃ cd, cd = cap' := ⟨_, rfl⟩
            rw [← had, ← hcd] at hS hO
            clear had hcd
            obtain ⟨a', c', hx, _, hRd⟩ := hO.rd
            cases hx
            have HZK := Lib.hid (HZ.out.grown hgk (by simp))
            have HRK := Lib.hid ((hgk.block w.heap.size (by have := HZ1.out; omega) (by simp)).trans HRB.out)
            have HGK := Lib.hid (grown_trans HG1.out hgk)
            obtain ⟨_, _, _, l5⟩ := hS.loads
            have HM := Lib.hid (refSgMay_any _ ((SV.ref3 L F).withD ad cd) wz (SV.Ok.ref3 HF.out L ad cd) (hRd))
            have HSS := Lib.hid hS
            have HOO := Lib.hid hO
            clear hS hgk hO
            obtain ⟨mb, hmb⟩ : ∃ mb, mb = ((SV.ref3 L F).withD ad cd).mayC := ⟨_, rfl⟩
            rw [← hmb] at HM
            have HMB := Lib.hid hmb
            clear hmb
            go_wp2_with (first | ((with_reducible refine wpList_here ?_); refine wpList_ld (p := .pointer (some ⟨B, 0, none⟩)) 5 ?_ ?_ ?_ l5 ?_; (· rfl); go_simp; (· kernel_rfl)))
            go_at_call 10
            refine HM.out.mono ?_
            rintro e wm ⟨rfl, gm⟩
            replace HRK := Lib.hid ((gm.block w.heap.size (World.block_lt_of_cell? _ _ (cell_of_row _ _ 0 _ _ _ HRK.out)) (by simp)).trans HRK.out)
            replace HGK := Lib.hid (grown_trans HGK.out gm)
            replace HZK := Lib.hid (HZK.out.grown gm (by simp))
            replace HSS := Lib.hid (HSS.out.grown gm (by simp))
            replace HOO := Lib.hid (HOO.out.grown gm)
            clear gm HM l5
            cases mb with
            | false =>
              obtain ⟨_, _, _, l0⟩ := HZK.out.loads
              go_wp2_with (first | ((with_reducible refine wpList_here ?_); refine wpList_ld (p := .pointer (some ⟨(w.heap.size + 1), 0, none⟩)) 4 ?_ ?_ ?_ l0 ?_; (· rfl); go_simp; (· kernel_rfl)) | ((with_reducible refine wpList_here ?_); refine wpList_store_row rfl 34 (.tmp 2) (.tmp 114) rfl w.heap.size SV.zeroV.cells rfl (by kernel_rfl) 34 _ HRK.out (by rw [SV.size]; kernel_rfl) (by rw [SV.size]; rfl) (SV.allV _) ?_))
              exact bodyPost_ret (v := .tuple #[.agg SV.zeroV.cells, .bool false]) (results_row2 rfl _ _ w.heap.size 34 _ (0, 0) rfl (setRow_heap _ _ _ _ _ _ HRK.out) (by kernel_rfl) (by rw [SV.size]; kernel_rfl) rfl) rfl (rtook_no HTK.out HMB.out (grown_setRow_new HGK.out _ _ (Or.inl (Nat.le_refl _))))
            | true =>
              obtain ⟨_, _, _, l6⟩ := HSS.out.loads
              go_wp2_with (first | ((with_reducible refine wpList_here ?_); refine wpList_ld (p := .pointer (some ⟨B, 0, none⟩)) 5 ?_ ?_ ?_ l6 ?_; (· rfl); go_simp; (· kernel_rfl)) | ((with_reducible refine wpList_here ?_); refine wpList_store_row rfl 34 (.tmp 2) (.tmp 115) rfl w.heap.size ((SV.ref3 L F).withD ad cd).cells rfl (by kernel_rfl) 34 _ HRK.out (by rw [SV.size]; kernel_rfl) (by rw [SV.size]; rfl) (SV.allV _) ?_))
              exact bodyPost_ret (v := .tuple #[.agg ((SV.ref3 L F).withD ad cd).cells, .bool true]) (results_row2 rfl _ _ w.heap.size 34 _ (0, 0) rfl (setRow_heap _ _ _ _ _ _ HRK.out) (by kernel_rfl) (by rw [SV.size]; kernel_rfl) rfl) rfl (rtook_yes (a := ad) (c := cd) HTK.out HMB.out ((HOO.out.setOld (grown_setRow_new (grown_refl _ (some w.heap.size)) _ _ (Or.inr rfl)) (by have := HZ1.out; have := HB.out; omega)).base (by have := HZ1.out; have := HB.out; omega)) (grown_setRow_new HGK.out _ _ (Or.inl (Nat.le_refl _))))
          · have hqi : ¬ (q : Int) = (m : Int) := by omega
            have hqb : ((q : Int) == (m : Int)) = false := beq_eq_false_iff_ne.2 hqi
            have HT := Lib.hid (show SV.takesR L F = none by unfold SV.takesR SV.shape; rw [if_neg (by have := H17.out; omega)]; rw [if_neg (by omega)]; rw [if_neg (by omega)]; rw [if_pos hk]; rw [if_neg (by have := HN.out; have := H17.out; have := HQ.out; have := HM6.out; omega)]; rfl)
            clear hqm h6 hk
            go_wp2_with fail
            go_at_call 30
            refine HOF.out.mono ?_
            rintro e wo ⟨rfl, rfl⟩
            clear HOF hs21
            have HZK := Lib.hid (HZ.out.grown hgc (by simp))
            have HRK := Lib.hid ((hgc.block w.heap.size (by have := HZ1.out; omega) (by simp)).trans HRB.out)
            have HGK := Lib.hid (grown_trans HG1.out hgc)
            clear hS hgc
            obtain ⟨_, _, _, l0⟩ := HZK.out.loads
            go_wp2_with (first | ((with_reducible refine wpList_here ?_); refine wpList_ld (p := .pointer (some ⟨(w.heap.size + 1), 0, none⟩)) 4 ?_ ?_ ?_ l0 ?_; (· rfl); go_simp; (· kernel_rfl)) | ((with_reducible refine wpList_here ?_); refine wpList_store_row rfl 34 (.tmp 2) (.tmp 22) rfl w.heap.size SV.zeroV.cells rfl (by kernel_rfl) 34 _ HRK.out (by rw [SV.size]; kernel_rfl) (by rw [SV.size]; rfl) (SV.allV _) ?_))
            exact bodyPost_ret (v := .tuple #[.agg SV.zeroV.cells, .bool false]) (results_row2 rfl _ _ w.heap.size 34 _ (0, 0) rfl (setRow_heap _ _ _ _ _ _ HRK.out) (by kernel_rfl) (by rw [SV.size]; kernel_rfl) rfl) rfl (rtook_none HT.out (grown_setRow_new HGK.out _ _ (Or.inl (Nat.le_refl _))))
        · have h6i : ¬ (6 : Int) ≤ (n : Int) := by omega
          have HT := Lib.hid (show SV.takesR L F = none by unfold SV.takesR SV.shape; rw [if_neg (by have := H17.out; omega)]; rw [if_neg (by omega)]; rw [if_neg (by omega)]; rw [if_pos hk]; rw [if_neg (by have := HN.out; have := H17.out; omega)]; rfl)
          clear h6 hk
          have HZK := Lib.hid (HZ.out.grown hgc (by simp))
          have HRK := Lib.hid ((hgc.block w.heap.size (by have := HZ1.out; omega) (by simp)).trans HRB.out)
          have HGK := Lib.hid (grown_trans HG1.out hgc)
          clear hS hgc
          obtain ⟨_, _, _, l0⟩ := HZK.out.loads
          go_wp2_with (first | ((with_reducible refine wpList_here ?_); refine wpList_ld (p := .pointer (some ⟨(w.heap.size + 1), 0, none⟩)) 4 ?_ ?_ ?_ l0 ?_; (· rfl); go_simp; (· kernel_rfl)) | ((with_reducible refine wpList_here ?_); refine wpList_store_row rfl 34 (.tmp 2) (.tmp 22) rfl w.heap.size SV.zeroV.cells rfl (by kernel_rfl) 34 _ HRK.out (by rw [SV.size]; kernel_rfl) (by rw [SV.size]; rfl) (SV.allV _) ?_))
          exact bodyPost_ret (v := .tuple #[.agg SV.zeroV.cells, .bool false]) (results_row2 rfl _ _ w.heap.size 34 _ (0, 0) rfl (setRow_heap _ _ _ _ _ _ HRK.out) (by kernel_rfl) (by rw [SV.size]; kernel_rfl) rfl) rfl (rtook_none HT.out (grown_setRow_new HGK.out _ _ (Or.inl (Nat.le_refl _))))
    have hk3 := hk
    clear hk
    have HT := Lib.hid (show SV.takesR L F = none by
      unfold SV.takesR SV.shape
      rw [if_neg (by have := H17.out; omega), if_neg hk1, if_neg hk2, if_neg hk3, if_neg hk5, if_neg (by omega)]
      rfl)
    have c0 := hS.cells.k
    replace c0 : wc.cell? ⟨B, 0, none⟩ = some (.int .u8 (F 0 : Nat)) := c0
    have k1 : ¬ (F 0 : Int) = 1 := by omega
    have k2 : ¬ (F 0 : Int) = 2 := by omega
    have k3 : ¬ (F 0 : Int) = 3 := by omega
    have k4 : ¬ (F 0 : Int) = 4 := by omega
    have k5 : ¬ (F 0 : Int) = 5 := by omega
    have k6 : ¬ (F 0 : Int) = 6 := by omega
    clear hk1 hk2 hk3 hk4 hk5 hk6
    have HZK := Lib.hid (HZ.out.grown hgc (by simp))
    have HRK := Lib.hid ((hgc.block w.heap.size (by have := HZ1.out; omega) (by simp)).trans HRB.out)
    have HGK := Lib.hid (grown_trans HG1.out hgc)
    clear hS hgc
    obtain ⟨_, _, _, l0⟩ := HZK.out.loads
    go_wp2_with (first | ((with_reducible refine wpList_here ?_); refine wpList_ld (p := .pointer (some ⟨(w.heap.size + 1), 0, none⟩)) 4 ?_ ?_ ?_ l0 ?_; (· rfl); go_simp; (· kernel_rfl)) | ((with_reducible refine wpList_here ?_); refine wpList_store_row rfl 34 (.tmp 2) (.tmp 22) rfl w.heap.size SV.zeroV.cells rfl (by kernel_rfl) 34 _ HRK.out (by rw [SV.size]; kernel_rfl) (by rw [SV.size]; rfl) (SV.allV _) ?_))
    exact bodyPost_ret (v := .tuple #[.agg SV.zeroV.cells, .bool false]) (results_row2 rfl _ _ w.heap.size 34 _ (0, 0) rfl (setRow_heap _ _ _ _ _ _ HRK.out) (by kernel_rfl) (by rw [SV.size]; kernel_rfl) rfl) rfl (rtook_none HT.out (grown_setRow_new HGK.out _ _ (Or.inl (Nat.le_refl _))))
end Go.Proofs.Ytpddgiflljlpbaa
namespace Go.Proofs.Ytpddgiflljlpbaa
open Go.RowKit

set_option maxRecDepth 100000
set_option maxHeartbeats 4000000

/-- Kind and id. -/
def SV.hd (x : SV) : Nat → Nat := cat 1 (fun _ => x.k) x.id
def SV.bytesN (x : SV) : Nat := if x.k = 1 then 52 else if x.k = 2 then 49 else if x.k = 3 then 23 + x.nd else if x.k = 5 then 18 else 17
def SV.bytesF (x : SV) : Nat → Nat :=
  if x.k = 1 then cat 20 (cat 17 x.hd (three x.ac x.dv x.ce)) x.key
  else if x.k = 2 then cat 17 x.hd x.key
  else if x.k = 3 then cat 23 (cat 21 (cat 17 x.hd (nbF x.n 4)) (nbF x.nd 2)) x.fd
  else if x.k = 5 then cat 17 x.hd (fun _ => x.rs)
  else x.hd
/-- A signal's bytes. -/
structure GaveB (w : World) (n : Nat) (f : Nat → Nat) (e : Ending) (w' : World) : Prop where
  ex : ∃ a c, e = .returned (.slice a n c) ∧ OwnN w' w.heap.size (.slice a n c) n f
  gr : w.grownBy w' none
theorem wp_yieldsD {P : Program} {Q : Exit → Act → World → Prop} {o : Oper} {a : Act} {w w' : World} {K : Act → World → Prop} {v : Value} (d : Option Tmp) (hd : o.dst = d) (he : (execOp a.eval o).run P w = .ok (.value v) w') (h : K (a.put d v) w') : o.wp P a w K Q := by
  subst hd
  exact wp_yields he h
theorem exec_append {o : Oper} {a : Act} {w w' : World} (x y : Operand) (vx vy v : Value) (ho : o.op = .call { callee := .builtin .append, args := #[x, y], argTypes := #[22, 22] }) (ht : o.type = 22) (hx : a.eval x = vx) (hy : a.eval y = vy)
    (h : (Builtin.append_ #[22, 22] 22 #[vx, vy]).run Try.prog w = .ok v w') : (execOp a.eval o).run Try.prog w = .ok (.value v) w' := by
  unfold execOp
  simp [ho, ht, resolve, invoke, builtin, hx, hy, h, Result.andThen]
theorem load_u32 {w : World} {B o v : Nat} (h : w.cell? ⟨B, o, none⟩ = some (.int .u32 v)) : (Instr.loadAt 32 (.pointer (some ⟨B, o, none⟩))).run Try.prog w = .ok (.int .u32 v) w := by go_simp
theorem load_slice {w : World} {B o n c : Nat} {a : Option Addr} (h : w.cell? ⟨B, o, none⟩ = some (.slice a n c)) : (Instr.loadAt 22 (.pointer (some ⟨B, o, none⟩))).run Try.prog w = .ok (.slice a n c) w := by go_simp
theorem sgId_enters : ∀ args w, (callFunc 25 args).run Try.prog w = .ok (.enter 25 args) w := enters_of Try.func25 (by kernel_rfl) rfl
theorem sgKey_enters : ∀ args w, (callFunc 26 args).run Try.prog w = .ok (.enter 26 args) w := enters_of Try.func26 (by kernel_rfl) rfl
theorem sgNumber_enters : ∀ args w, (callFunc 27 args).run Try.prog w = .ok (.enter 27 args) w := enters_of Try.func27 (by kernel_rfl) rfl
theorem ownN_one (w : World) (v base : Nat) (hb : base ≤ w.heap.size) : OwnN (w.alloc (.cells #[.int .u8 v] 5)) base (.slice (some ⟨w.heap.size, 0, none⟩) 1 1) 1 (fun _ => v) := by
  have hn := heap_alloc_new w (.cells #[.int .u8 v] 5)
  refine ⟨Or.inr ⟨w.heap.size, 1, rfl, ⟨fun i hi => ?_, fun i hi => ?_, fun i => frozen_of_row _ _ _ _ _ hn, Nat.le_refl _, by simp⟩, hb⟩⟩
  · obtain rfl : i = 0 := by omega
    rw [cell_of_row _ _ _ _ _ _ hn]; rfl
  · obtain rfl : i = 0 := by omega
    rw [cell_of_row _ _ _ _ _ _ hn]; rfl
theorem refBytes_any (D : Nat) (x : SV) (w : World) (hO : x.Ok) (hR : Rd w D x.ad x.nd x.fd) (hnd : x.nd ≤ 1048576) : Calls Try.prog 12 #[.agg x.cells] w (GaveB w x.bytesN x.bytesF) := by
  have hX := SAt.new x w
  have hg := World.grownBy_alloc w (.cells x.cells 34) none
  have HR := Lib.hid (hR.grown hg (by simp))
  have HO := Lib.hid hO
  have HND := Lib.hid hnd
  clear hR hO hnd
  go_enter Try.func12, Try.ntmps12
  go_upto_region 1 with fail
  obtain ⟨R, hRR⟩ : ∃ R, R = w.heap.size := ⟨_, rfl⟩
  have hz := World.size_alloc w (.cells x.cells 34)
  generalize w.alloc (.cells x.cells 34) = w1 at *
  rw [← hRR] at hX hz ⊢
  have HG := Lib.hid hg
  have HZ := Lib.hid hz
  have HRR := Lib.hid hRR
  clear hg hz hRR
  go_cut [3] (fun s3 wx => ∃ a3 c3, s3 = .slice a3 17 c3 ∧ w1.grownBy wx none ∧ OwnN wx w1.heap.size (.slice a3 17 c3) 17 x.hd)
  case first =>
    refine wp_region_held (S := fun W => w1.grownBy W none) (by kernel_rfl) ?_
    change wpAnyH _ _ _ _ _ 8 #[false, false, false, false, false, false, false, false] _ (World.drew _)
    have gq := grown_drew (grown_refl w1 none)
    generalize World.drew w1 = w2 at *
    refine wpAnyH_takeD (some 4) (i := 0) (v := (.pointer (some ⟨R, 0, none⟩))) rfl rfl (by kernel_rfl) (by kernel_rfl) (by kernel_rfl) (fun _ _ _ h => h) (Or.inl ⟨rfl, fun _ _ => by go_simp⟩) gq ?_
    simp only [Act.put, List.setIfInBounds_toArray, List.set_cons_succ, List.set_cons_zero]
    refine wpAnyH_takeD (some 5) (i := 1) (v := (.int .u8 x.k)) rfl rfl (by kernel_rfl) (by kernel_rfl) (by kernel_rfl) (fun _ _ _ h => h) (Or.inl ⟨rfl, fun W hW => exec_load (.tmp 4) _ _ rfl rfl (load_u8 (hX.grown hW (by simp)).cells.k)⟩) gq ?_
    simp only [Act.put, List.setIfInBounds_toArray, List.set_cons_succ, List.set_cons_zero]
    refine wpAnyH_takeD (some 7) (i := 3) (v := (.pointer (some ⟨R, 1, none⟩))) rfl rfl (by kernel_rfl) (by kernel_rfl) (by kernel_rfl) (fun _ _ _ h => h) (Or.inl ⟨rfl, fun _ _ => by go_simp⟩) gq ?_
    simp only [Act.put, List.setIfInBounds_toArray, List.set_cons_succ, List.set_cons_zero]
    refine wpAnyH_takeD (some 8) (i := 4) (v := (.agg (cellsOf .u8 16 x.id))) rfl rfl (by kernel_rfl) (by kernel_rfl) (by kernel_rfl) (fun _ _ _ h => h) (Or.inl ⟨rfl, fun W hW => exec_load (.tmp 7) _ _ rfl rfl (hX.grown hW (by simp)).loads.id⟩) gq ?_
    simp only [Act.put, List.setIfInBounds_toArray, List.set_cons_succ, List.set_cons_zero]
    refine wpAnyH_both (i := 2) (j := 5) (by kernel_rfl) ?_ ?_
    · have ga := World.grownBy_alloc w2 (.cells #[.int .u8 x.k] 5) none
      have hO6 := ownN_one w2 x.k w1.heap.size gq.size
      have gA := grown_trans gq ga
      refine wpOp_at rfl rfl (wp_yieldsD (some 6) rfl (v := .slice (some ⟨w2.heap.size, 0, none⟩) 1 1) (w' := w2.alloc (.cells #[.int .u8 x.k] 5)) (by go_simp) ⟨gA, ?_⟩)
      simp only [Act.put, List.setIfInBounds_toArray, List.set_cons_succ, List.set_cons_zero]
      generalize hw3 : w2.alloc (.cells #[.int .u8 x.k] 5) = w3 at *
      refine wpAnyH_callD (some 9) (i := 5) 25 #[.agg (cellsOf .u8 16 x.id)] (R := fun v W => OwnN W w1.heap.size v 16 x.id ∧ w3.grownBy W none) (by kernel_rfl) rfl rfl rfl (exec_fn1 _ _ _ rfl rfl) sgId_enters ((sgId_any x.id w3).mono fun e W' h => by
    obtain ⟨v, rfl, hO, hg⟩ := h.ex
    exact ⟨v, rfl, hO.base gA.size, hg⟩) ?_
      rintro v w4 ⟨hO9, hg4⟩
      have hg9 := grown_trans gA hg4
      replace hO6 := hO6.grown hg4
      refine ⟨hg9, ?_⟩
      simp only [Act.put, List.setIfInBounds_toArray, List.set_cons_succ, List.set_cons_zero]
      obtain ⟨a9, c9, rfl, hc9, hR9⟩ := hO9.rd
      obtain ⟨a10, c10, w10, hap, hO10, hg10, _⟩ := app_N1 c9 22 hg9 hO6 hR9 (by omega)
      clear hO6 hR9
      refine wpAnyH_yieldD (some 10) (i := 6) (v := .slice a10 17 c10) (by kernel_rfl) rfl rfl rfl (exec_append (.tmp 6) (.tmp 9) _ _ _ rfl rfl rfl rfl hap) hg10 ?_
      simp only [Act.put, List.setIfInBounds_toArray, List.set_cons_succ, List.set_cons_zero]
      refine wpAnyH_yieldD (some 3) (i := 7) (v := .slice a10 17 c10) (by kernel_rfl) rfl rfl rfl rfl hg10 ?_
      simp only [Act.put, List.setIfInBounds_toArray, List.set_cons_succ, List.set_cons_zero]
      refine wpAnyH_done (by kernel_rfl) ?_ _
      go_wp2_with fail
      go_meet
      case rel => exact ⟨a10, c10, rfl, hg10, hO10⟩
    · refine wpOp_at rfl rfl (wp_fnR (some 9) 25 #[.agg (cellsOf .u8 16 x.id)] (R := fun v W => OwnN W w1.heap.size v 16 x.id ∧ w2.grownBy W none) rfl (exec_fn1 _ _ _ rfl rfl) sgId_enters ((sgId_any x.id w2).mono fun e W' h => by
    obtain ⟨v, rfl, hO, hg⟩ := h.ex
    exact ⟨v, rfl, hO.base gq.size, hg⟩) ?_)
      rintro v w3 ⟨hO9, hg3⟩
      have gA := grown_trans gq hg3
      refine ⟨gA, ?_⟩
      simp only [Act.put, List.setIfInBounds_toArray, List.set_cons_succ, List.set_cons_zero]
      have ga := World.grownBy_alloc w3 (.cells #[.int .u8 x.k] 5) none
      have hO6 := ownN_one w3 x.k w1.heap.size gA.size
      have hg9 := grown_trans gA ga
      replace hO9 := hO9.grown ga
      refine wpAnyH_yieldD (some 6) (i := 2) (v := .slice (some ⟨w3.heap.size, 0, none⟩) 1 1) (w' := w3.alloc (.cells #[.int .u8 x.k] 5)) (by kernel_rfl) rfl rfl rfl (by go_simp) hg9 ?_
      simp only [Act.put, List.setIfInBounds_toArray, List.set_cons_succ, List.set_cons_zero]
      generalize hw4 : w3.alloc (.cells #[.int .u8 x.k] 5) = w4 at *
      obtain ⟨a9, c9, rfl, hc9, hR9⟩ := hO9.rd
      obtain ⟨a10, c10, w10, hap, hO10, hg10, _⟩ := app_N1 c9 22 hg9 hO6 hR9 (by omega)
      clear hO6 hR9
      refine wpAnyH_yieldD (some 10) (i := 6) (v := .slice a10 17 c10) (by kernel_rfl) rfl rfl rfl (exec_append (.tmp 6) (.tmp 9) _ _ _ rfl rfl rfl rfl hap) hg10 ?_
      simp only [Act.put, List.setIfInBounds_toArray, List.set_cons_succ, List.set_cons_zero]
      refine wpAnyH_yieldD (some 3) (i := 7) (v := .slice a10 17 c10) (by kernel_rfl) rfl rfl rfl rfl hg10 ?_
      simp only [Act.put, List.setIfInBounds_toArray, List.set_cons_succ, List.set_cons_zero]
      refine wpAnyH_done (by kernel_rfl) ?_ _
      go_wp2_with fail
      go_meet
      case rel => exact ⟨a10, c10, rfl, hg10, hO10⟩
  case rest =>
    obtain ⟨a3, c3, rfl, hgc, hO3⟩ := hcut
    have hXc := hX.grown hgc (by simp)
    have HXX := Lib.hid hX
    clear hX
    by_cases hk : x.k = 1
    · as_aux_lemma =>
        have HN := Lib.hid (show x.bytesN = 52 by unfold SV.bytesN;  rw [if_pos hk])
        have HF := Lib.hid (show x.bytesF = cat 20 (cat 17 x.hd (three x.ac x.dv x.ce)) x.key by unfold SV.bytesF;  rw [if_pos hk])
        have ck : wc.cell? ⟨R, 0, none⟩ = some (.int .u8 1) := hXc.cells.k.trans (by rw [hk]; rfl)
        clear hk
        go_upto_region 4 with fail
        refine wp_region_held (S := fun W => w1.grownBy W none) (by kernel_rfl) ?_
        change wpAnyH _ _ _ _ _ 16 #[false, false, false, false, false, false, false, false, false, false, false, false, false, false, false, false] _ (World.drew _)
        have gq := grown_drew hgc
        have hOq := hO3.grown (grown_drew (grown_refl wc none))
        clear hO3 hgc
        generalize World.drew wc = wq at *
        refine wpAnyH_takeD (some 15) (i := 0) (v := (.slice a3 17 c3)) rfl rfl (by kernel_rfl) (by kernel_rfl) (by kernel_rfl) (fun _ _ _ h => h) (Or.inl ⟨rfl, fun _ _ => rfl⟩) gq ?_
        simp only [Act.put, List.setIfInBounds_toArray, List.set_cons_succ, List.set_cons_zero]
        refine wpAnyH_takeD (some 16) (i := 1) (v := (.pointer (some ⟨R, 17, none⟩))) rfl rfl (by kernel_rfl) (by kernel_rfl) (by kernel_rfl) (fun _ _ _ h => h) (Or.inl ⟨rfl, fun _ _ => by go_simp⟩) gq ?_
        simp only [Act.put, List.setIfInBounds_toArray, List.set_cons_succ, List.set_cons_zero]
        refine wpAnyH_takeD (some 17) (i := 2) (v := (.pointer (some ⟨R, 17, none⟩))) rfl rfl (by kernel_rfl) (by kernel_rfl) (by kernel_rfl) (fun _ _ _ h => h) (Or.inl ⟨rfl, fun _ _ => by go_simp⟩) gq ?_
        simp only [Act.put, List.setIfInBounds_toArray, List.set_cons_succ, List.set_cons_zero]
        refine wpAnyH_takeD (some 18) (i := 3) (v := (.int .u8 x.ac)) rfl rfl (by kernel_rfl) (by kernel_rfl) (by kernel_rfl) (fun _ _ _ h => h) (Or.inl ⟨rfl, fun W hW => exec_load (.tmp 17) _ _ rfl rfl (load_u8 (HXX.out.grown hW (by simp)).cells.ac)⟩) gq ?_
        simp only [Act.put, List.setIfInBounds_toArray, List.set_cons_succ, List.set_cons_zero]
        refine wpAnyH_takeD (some 19) (i := 4) (v := (.pointer (some ⟨R, 17, none⟩))) rfl rfl (by kernel_rfl) (by kernel_rfl) (by kernel_rfl) (fun _ _ _ h => h) (Or.inl ⟨rfl, fun _ _ => by go_simp⟩) gq ?_
        simp only [Act.put, List.setIfInBounds_toArray, List.set_cons_succ, List.set_cons_zero]
        refine wpAnyH_takeD (some 20) (i := 5) (v := (.pointer (some ⟨R, 18, none⟩))) rfl rfl (by kernel_rfl) (by kernel_rfl) (by kernel_rfl) (fun _ _ _ h => h) (Or.inl ⟨rfl, fun _ _ => by go_simp⟩) gq ?_
        simp only [Act.put, List.setIfInBounds_toArray, List.set_cons_succ, List.set_cons_zero]
        refine wpAnyH_takeD (some 21) (i := 6) (v := (.int .u8 x.dv)) rfl rfl (by kernel_rfl) (by kernel_rfl) (by kernel_rfl) (fun _ _ _ h => h) (Or.inl ⟨rfl, fun W hW => exec_load (.tmp 20) _ _ rfl rfl (load_u8 (HXX.out.grown hW (by simp)).cells.dv)⟩) gq ?_
        simp only [Act.put, List.setIfInBounds_toArray, List.set_cons_succ, List.set_cons_zero]
        refine wpAnyH_takeD (some 22) (i := 7) (v := (.pointer (some ⟨R, 19, none⟩))) rfl rfl (by kernel_rfl) (by kernel_rfl) (by kernel_rfl) (fun _ _ _ h => h) (Or.inl ⟨rfl, fun _ _ => by go_simp⟩) gq ?_
        simp only [Act.put, List.setIfInBounds_toArray, List.set_cons_succ, List.set_cons_zero]
        refine wpAnyH_takeD (some 23) (i := 8) (v := (.int .u8 x.ce)) rfl rfl (by kernel_rfl) (by kernel_rfl) (by kernel_rfl) (fun _ _ _ h => h) (Or.inl ⟨rfl, fun W hW => exec_load (.tmp 22) _ _ rfl rfl (load_u8 (HXX.out.grown hW (by simp)).cells.ce)⟩) gq ?_
        simp only [Act.put, List.setIfInBounds_toArray, List.set_cons_succ, List.set_cons_zero]
        refine wpAnyH_takeD (some 26) (i := 11) (v := (.pointer (some ⟨R, 20, none⟩))) rfl rfl (by kernel_rfl) (by kernel_rfl) (by kernel_rfl) (fun _ _ _ h => h) (Or.inl ⟨rfl, fun _ _ => by go_simp⟩) gq ?_
        simp only [Act.put, List.setIfInBounds_toArray, List.set_cons_succ, List.set_cons_zero]
        refine wpAnyH_takeD (some 27) (i := 12) (v := (.agg (cellsOf .u8 32 x.key))) rfl rfl (by kernel_rfl) (by kernel_rfl) (by kernel_rfl) (fun _ _ _ h => h) (Or.inl ⟨rfl, fun W hW => exec_load (.tmp 26) _ _ rfl rfl (HXX.out.grown hW (by simp)).loads.key⟩) gq ?_
        simp only [Act.put, List.setIfInBounds_toArray, List.set_cons_succ, List.set_cons_zero]
        have ga := World.grownBy_alloc wq (.cells #[.int .u8 x.ac, .int .u8 x.dv, .int .u8 x.ce] 5) none
        have gA := grown_trans gq ga
        obtain ⟨a4, c4, w4, hap, hO4, hg4, _⟩ := app_N1 3 22 gA (hOq.grown ga) (rd_three wq x.ac x.dv x.ce (wq.heap.size + 1) (by omega)) (by omega)
        refine wpAnyH_yieldD (some 24) (i := 9) (v := .slice (some ⟨wq.heap.size, 0, none⟩) 3 3) (w' := wq.alloc (.cells #[.int .u8 x.ac, .int .u8 x.dv, .int .u8 x.ce] 5)) (by kernel_rfl) rfl rfl rfl (by go_simp) gA ?_
        simp only [Act.put, List.setIfInBounds_toArray, List.set_cons_succ, List.set_cons_zero]
        refine wpAnyH_yieldD (some 25) (i := 10) (v := .slice a4 20 c4) (by kernel_rfl) rfl rfl rfl (exec_append (.tmp 15) (.tmp 24) _ _ _ rfl rfl rfl rfl hap) hg4 ?_
        simp only [Act.put, List.setIfInBounds_toArray, List.set_cons_succ, List.set_cons_zero]
        clear hap gA ga hOq gq
        refine wpAnyH_callD (some 28) (i := 13) 26 #[.agg (cellsOf .u8 32 x.key)] (R := fun v W => ∃ a c, v = .slice a 32 c ∧ Rd W W.heap.size a 32 x.key ∧ w4.grownBy W none) (by kernel_rfl) rfl rfl rfl (exec_fn1 _ _ _ rfl rfl) sgKey_enters ((sgKey_any x.key w4).mono fun e W' h => by
          obtain ⟨v, rfl, hO, hg⟩ := h.ex
          obtain ⟨a', c', e, _, hR⟩ := hO.rd
          exact ⟨v, rfl, a', c', e, hR, hg⟩) ?_
        rintro v w5 ⟨a5, c5, rfl, hR5, hg5⟩
        have hg6 := grown_trans hg4 hg5
        refine ⟨hg6, ?_⟩
        simp only [Act.put, List.setIfInBounds_toArray, List.set_cons_succ, List.set_cons_zero]
        obtain ⟨a7, c7, w7, hap, hO7, hg7, _⟩ := app_N1 c5 22 hg6 (hO4.grown hg5) hR5 (by omega)
        refine wpAnyH_yieldD (some 29) (i := 14) (v := .slice a7 52 c7) (by kernel_rfl) rfl rfl rfl (exec_append (.tmp 25) (.tmp 28) _ _ _ rfl rfl rfl rfl hap) hg7 ?_
        simp only [Act.put, List.setIfInBounds_toArray, List.set_cons_succ, List.set_cons_zero]
        refine wpAnyH_yieldD (some 3) (i := 15) (v := .slice a7 52 c7) (by kernel_rfl) rfl rfl rfl rfl hg7 ?_
        simp only [Act.put, List.setIfInBounds_toArray, List.set_cons_succ, List.set_cons_zero]
        refine wpAnyH_done (by kernel_rfl) ?_ _
        clear hap hO4 hg4 hg5 hg6 hR5 ck hXc
        have HGF := Lib.hid (grown_trans HG.out hg7)
        have HOF := Lib.hid hO7
        go_wp2_with fail
        go_ret
        refine ⟨⟨a7, c7, ?_, ?_⟩, HGF.out⟩
        · rw [HN.out]; rfl
        · rw [HN.out, HF.out]; exact HOF.out.base (by have := HRR.out; have := HZ.out; omega)
    have hk1 := hk
    clear hk
    by_cases hk : x.k = 2
    · as_aux_lemma =>
        have HN := Lib.hid (show x.bytesN = 49 by unfold SV.bytesN; rw [if_neg (by omega)]; rw [if_pos hk])
        have HF := Lib.hid (show x.bytesF = cat 17 x.hd x.key by unfold SV.bytesF; rw [if_neg (by omega)]; rw [if_pos hk])
        have ck : wc.cell? ⟨R, 0, none⟩ = some (.int .u8 2) := hXc.cells.k.trans (by rw [hk]; rfl)
        clear hk
        obtain ⟨_, _, l3, _⟩ := hXc.loads
        have HC := Lib.hid (sgKey_any x.key wc)
        have HGC := Lib.hid hgc
        have HO3 := Lib.hid hO3
        clear hgc hO3 hXc
        go_wp2_with (first | ((with_reducible refine wpList_here ?_); refine wpList_ld (p := .pointer (some ⟨R, 20, none⟩)) 33 ?_ ?_ ?_ l3 ?_; (· rfl); go_simp; (· kernel_rfl)))
        go_at_call 26
        refine HC.out.mono ?_
        rintro e w4 ⟨v, rfl, hO, hg⟩
        obtain ⟨a', c', rfl, _, hR⟩ := hO.rd
        obtain ⟨a7, c7, w7, hap, hO7, hg7, _⟩ := app_N1 c' 22 (grown_trans HGC.out hg) (HO3.out.grown hg) hR (by omega)
        have HAP := Lib.hid hap
        have HG7 := Lib.hid hg7
        have HO7 := Lib.hid hO7
        clear hap hg7 hO7 hR hO hg HC l3 ck HGC HO3
        go_wp2_with (at_builtin; refine wpList_append_run rfl (.tmp 32) (.tmp 35) 22 22 rfl _ _ _ _ rfl rfl HAP.out ?_)
        have HGF := Lib.hid (grown_trans HG.out HG7.out)
        have HOF := Lib.hid HO7.out
        go_wp2_with fail
        go_ret
        refine ⟨⟨a7, c7, ?_, ?_⟩, HGF.out⟩
        · rw [HN.out]; rfl
        · rw [HN.out, HF.out]; exact HOF.out.base (by have := HRR.out; have := HZ.out; omega)
    have hk2 := hk
    clear hk
    by_cases hk : x.k = 3
    · as_aux_lemma =>
        have HN := Lib.hid (show x.bytesN = 23 + x.nd by unfold SV.bytesN; rw [if_neg (by omega)]; rw [if_neg (by omega)]; rw [if_pos hk])
        have HF := Lib.hid (show x.bytesF = cat 23 (cat 21 (cat 17 x.hd (nbF x.n 4)) (nbF x.nd 2)) x.fd by unfold SV.bytesF; rw [if_neg (by omega)]; rw [if_neg (by omega)]; rw [if_pos hk])
        have ck : wc.cell? ⟨R, 0, none⟩ = some (.int .u8 3) := hXc.cells.k.trans (by rw [hk]; rfl)
        clear hk
        have HB := Lib.hid (show x.n < 18446744073709551616 ∧ x.nd < 18446744073709551616 from ⟨by have := HO.out.n; omega, by have := HND.out; omega⟩)
        have hw1 : IntKind.u64.wrap (x.n : Int) = (x.n : Int) := by have := HO.out.n; rw [IntKind.wrap_u64]; try omega
        have hw2 : IntKind.u64.wrap (x.nd : Int) = (x.nd : Int) := by have := HND.out; rw [IntKind.wrap_u64]; try omega
        go_upto_region 8 with fail
        refine wp_region_held (S := fun W => w1.grownBy W none) (by kernel_rfl) ?_
        change wpAnyH _ _ _ _ _ 16 #[false, false, false, false, false, false, false, false, false, false, false, false, false, false, false, false] _ (World.drew _)
        have gq := grown_drew hgc
        have hOq := hO3.grown (grown_drew (grown_refl wc none))
        clear hO3 hgc
        generalize World.drew wc = wq at *
        refine wpAnyH_takeD (some 39) (i := 0) (v := (.slice a3 17 c3)) rfl rfl (by kernel_rfl) (by kernel_rfl) (by kernel_rfl) (fun _ _ _ h => h) (Or.inl ⟨rfl, fun _ _ => rfl⟩) gq ?_
        simp only [Act.put, List.setIfInBounds_toArray, List.set_cons_succ, List.set_cons_zero]
        refine wpAnyH_takeD (some 40) (i := 1) (v := (.pointer (some ⟨R, 52, none⟩))) rfl rfl (by kernel_rfl) (by kernel_rfl) (by kernel_rfl) (fun _ _ _ h => h) (Or.inl ⟨rfl, fun _ _ => by go_simp⟩) gq ?_
        simp only [Act.put, List.setIfInBounds_toArray, List.set_cons_succ, List.set_cons_zero]
        refine wpAnyH_takeD (some 41) (i := 2) (v := (.int .u32 x.n)) rfl rfl (by kernel_rfl) (by kernel_rfl) (by kernel_rfl) (fun _ _ _ h => h) (Or.inl ⟨rfl, fun W hW => exec_load (.tmp 40) _ _ rfl rfl (load_u32 (HXX.out.grown hW (by simp)).cells.n)⟩) gq ?_
        simp only [Act.put, List.setIfInBounds_toArray, List.set_cons_succ, List.set_cons_zero]
        refine wpAnyH_takeD (some 42) (i := 3) (v := (.int .u64 x.n)) rfl rfl (by kernel_rfl) (by kernel_rfl) (by kernel_rfl) (fun _ _ _ h => h) (Or.inl ⟨rfl, fun W hW => by go_simp⟩) gq ?_
        simp only [Act.put, List.setIfInBounds_toArray, List.set_cons_succ, List.set_cons_zero]
        refine wpAnyH_takeD (some 45) (i := 6) (v := (.pointer (some ⟨R, 53, none⟩))) rfl rfl (by kernel_rfl) (by kernel_rfl) (by kernel_rfl) (fun _ _ _ h => h) (Or.inl ⟨rfl, fun _ _ => by go_simp⟩) gq ?_
        simp only [Act.put, List.setIfInBounds_toArray, List.set_cons_succ, List.set_cons_zero]
        refine wpAnyH_takeD (some 46) (i := 7) (v := (.slice x.ad x.nd x.cd)) rfl rfl (by kernel_rfl) (by kernel_rfl) (by kernel_rfl) (fun _ _ _ h => h) (Or.inl ⟨rfl, fun W hW => exec_load (.tmp 45) _ _ rfl rfl (load_slice (HXX.out.grown hW (by simp)).cells.d)⟩) gq ?_
        simp only [Act.put, List.setIfInBounds_toArray, List.set_cons_succ, List.set_cons_zero]
        refine wpAnyH_takeD (some 47) (i := 8) (v := (.int .i64 x.nd)) rfl rfl (by kernel_rfl) (by kernel_rfl) (by kernel_rfl) (fun _ _ _ h => h) (Or.inl ⟨rfl, fun W hW => by go_simp⟩) gq ?_
        simp only [Act.put, List.setIfInBounds_toArray, List.set_cons_succ, List.set_cons_zero]
        refine wpAnyH_takeD (some 48) (i := 9) (v := (.int .u64 x.nd)) rfl rfl (by kernel_rfl) (by kernel_rfl) (by kernel_rfl) (fun _ _ _ h => h) (Or.inl ⟨rfl, fun W hW => by go_simp⟩) gq ?_
        simp only [Act.put, List.setIfInBounds_toArray, List.set_cons_succ, List.set_cons_zero]
        refine wpAnyH_takeD (some 51) (i := 12) (v := (.pointer (some ⟨R, 53, none⟩))) rfl rfl (by kernel_rfl) (by kernel_rfl) (by kernel_rfl) (fun _ _ _ h => h) (Or.inl ⟨rfl, fun _ _ => by go_simp⟩) gq ?_
        simp only [Act.put, List.setIfInBounds_toArray, List.set_cons_succ, List.set_cons_zero]
        refine wpAnyH_takeD (some 52) (i := 13) (v := (.slice x.ad x.nd x.cd)) rfl rfl (by kernel_rfl) (by kernel_rfl) (by kernel_rfl) (fun _ _ _ h => h) (Or.inl ⟨rfl, fun W hW => exec_load (.tmp 51) _ _ rfl rfl (load_slice (HXX.out.grown hW (by simp)).cells.d)⟩) gq ?_
        simp only [Act.put, List.setIfInBounds_toArray, List.set_cons_succ, List.set_cons_zero]
        refine wpAnyH_callD (some 43) (i := 4) 27 #[.int .u64 x.n, .int .i64 (4 : Nat)] (R := fun v W => ∃ b, v = .slice (some ⟨b, 0, none⟩) 4 4 ∧ Rd W W.heap.size (some ⟨b, 0, none⟩) 4 (nbF x.n 4) ∧ wq.grownBy W none) (by kernel_rfl) rfl rfl rfl (exec_fn2 _ _ _ _ _ rfl rfl rfl) sgNumber_enters ((sgNumber_any x.n 4 (by have := HB.out; omega) (by decide) (by decide) wq).mono fun e W' h => by
          obtain ⟨b, rfl, _, hF⟩ := h.ex
          exact ⟨_, rfl, b, rfl, (hF.own (by decide)).rd, h.gr⟩) ?_
        rintro v w4 ⟨b4, rfl, hR4, hg4⟩
        have hgA := grown_trans gq hg4
        refine ⟨hgA, ?_⟩
        simp only [Act.put, List.setIfInBounds_toArray, List.set_cons_succ, List.set_cons_zero]
        obtain ⟨a5, c5, w5, hap, hO5, hg5, _⟩ := app_N1 4 22 hgA (hOq.grown hg4) hR4 (by omega)
        refine wpAnyH_yieldD (some 44) (i := 5) (v := .slice a5 21 c5) (by kernel_rfl) rfl rfl rfl (exec_append (.tmp 39) (.tmp 43) _ _ _ rfl rfl rfl rfl hap) hg5 ?_
        simp only [Act.put, List.setIfInBounds_toArray, List.set_cons_succ, List.set_cons_zero]
        clear hap hR4 hgA hOq gq hg4
        refine wpAnyH_callD (some 49) (i := 10) 27 #[.int .u64 x.nd, .int .i64 (2 : Nat)] (R := fun v W => ∃ b, v = .slice (some ⟨b, 0, none⟩) 2 2 ∧ Rd W W.heap.size (some ⟨b, 0, none⟩) 2 (nbF x.nd 2) ∧ w5.grownBy W none) (by kernel_rfl) rfl rfl rfl (exec_fn2 _ _ _ _ _ rfl rfl rfl) sgNumber_enters ((sgNumber_any x.nd 2 (by have := HB.out; omega) (by decide) (by decide) w5).mono fun e W' h => by
          obtain ⟨b, rfl, _, hF⟩ := h.ex
          exact ⟨_, rfl, b, rfl, (hF.own (by decide)).rd, h.gr⟩) ?_
        rintro v w6 ⟨b6, rfl, hR6, hg6⟩
        have hgA := grown_trans hg5 hg6
        refine ⟨hgA, ?_⟩
        simp only [Act.put, List.setIfInBounds_toArray, List.set_cons_succ, List.set_cons_zero]
        obtain ⟨a7, c7, w7, hap, hO7, hg7, _⟩ := app_N1 2 22 hgA (hO5.grown hg6) hR6 (by omega)
        refine wpAnyH_yieldD (some 50) (i := 11) (v := .slice a7 23 c7) (by kernel_rfl) rfl rfl rfl (exec_append (.tmp 44) (.tmp 49) _ _ _ rfl rfl rfl rfl hap) hg7 ?_
        simp only [Act.put, List.setIfInBounds_toArray, List.set_cons_succ, List.set_cons_zero]
        clear hap hR6 hgA hO5 hg5 hg6
        obtain ⟨a8, c8, w8, hap, hO8, hg8, _⟩ := app_N1 x.cd 22 hg7 hO7 (HR.out.grown hg7 (by simp)) (by have := HND.out; omega)
        refine wpAnyH_yieldD (some 53) (i := 14) (v := .slice a8 (23 + x.nd : Nat) c8) (by kernel_rfl) rfl rfl rfl (exec_append (.tmp 50) (.tmp 52) _ _ _ rfl rfl rfl rfl hap) hg8 ?_
        simp only [Act.put, List.setIfInBounds_toArray, List.set_cons_succ, List.set_cons_zero]
        refine wpAnyH_yieldD (some 3) (i := 15) (v := .slice a8 (23 + x.nd : Nat) c8) (by kernel_rfl) rfl rfl rfl rfl hg8 ?_
        simp only [Act.put, List.setIfInBounds_toArray, List.set_cons_succ, List.set_cons_zero]
        refine wpAnyH_done (by kernel_rfl) ?_ _
        clear hap hO7 hg7 ck hXc
        have HGF := Lib.hid (grown_trans HG.out hg8)
        have HOF := Lib.hid hO8
        go_wp2_with fail
        go_ret
        refine ⟨⟨a8, c8, ?_, ?_⟩, HGF.out⟩
        · rw [HN.out]; rfl
        · rw [HN.out, HF.out]; exact HOF.out.base (by have := HRR.out; have := HZ.out; omega)
    have hk3 := hk
    clear hk
    by_cases hk : x.k = 5
    · as_aux_lemma =>
        have HN := Lib.hid (show x.bytesN = 18 by unfold SV.bytesN; rw [if_neg (by omega)]; rw [if_neg (by omega)]; rw [if_neg (by omega)]; rw [if_pos hk])
        have HF := Lib.hid (show x.bytesF = cat 17 x.hd (fun _ => x.rs) by unfold SV.bytesF; rw [if_neg (by omega)]; rw [if_neg (by omega)]; rw [if_neg (by omega)]; rw [if_pos hk])
        have ck : wc.cell? ⟨R, 0, none⟩ = some (.int .u8 5) := hXc.cells.k.trans (by rw [hk]; rfl)
        clear hk
        have cr := hXc.cells.rs
        have ga := World.grownBy_alloc wc (.cells #[.int .u8 x.rs] 5) none
        obtain ⟨a7, c7, w7, hap, hO7, hg7, _⟩ := app_N1 1 22 (grown_trans hgc ga) (hO3.grown ga) (rd_one wc x.rs (wc.heap.size + 1) (by omega)) (by omega)
        have HAP := Lib.hid hap
        have HG7 := Lib.hid hg7
        have HO7 := Lib.hid hO7
        clear hap hg7 hO7 hgc hO3 hXc ga
        go_wp2_with (at_builtin; refine wpList_append_run rfl (.tmp 56) (.tmp 59) 22 22 rfl _ _ _ _ rfl rfl HAP.out ?_)
        have HGF := Lib.hid (grown_trans HG.out HG7.out)
        have HOF := Lib.hid HO7.out
        go_wp2_with fail
        go_ret
        refine ⟨⟨a7, c7, ?_, ?_⟩, HGF.out⟩
        · rw [HN.out]; rfl
        · rw [HN.out, HF.out]; exact HOF.out.base (by have := HRR.out; have := HZ.out; omega)
    have hk5 := hk
    clear hk
    have HN := Lib.hid (show x.bytesN = 17 by unfold SV.bytesN; rw [if_neg hk1, if_neg hk2, if_neg hk3, if_neg hk5])
    have HF := Lib.hid (show x.bytesF = x.hd by unfold SV.bytesF; rw [if_neg hk1, if_neg hk2, if_neg hk3, if_neg hk5])
    have c0 := hXc.cells.k
    have k1 : ¬ (x.k : Int) = 1 := by omega
    have k2 : ¬ (x.k : Int) = 2 := by omega
    have k3 : ¬ (x.k : Int) = 3 := by omega
    have k5 : ¬ (x.k : Int) = 5 := by omega
    have HGC := Lib.hid hgc
    have HO3 := Lib.hid hO3
    clear hgc hO3 hXc hk1 hk2 hk3 hk5
    have HGF := Lib.hid (grown_trans HG.out HGC.out)
    have HOF := Lib.hid HO3.out
    go_wp2_with fail
    go_ret
    refine ⟨⟨a3, c3, ?_, ?_⟩, HGF.out⟩
    · rw [HN.out]; rfl
    · rw [HN.out, HF.out]; exact HOF.out.base (by have := HRR.out; have := HZ.out; omega)
end Go.Proofs.Ytpddgiflljlpbaa
namespace Go.Proofs.Ytpddgiflljlpbaa
open Go.RowKit

set_option maxRecDepth 100000
set_option maxHeartbeats 4000000

/-- Two signals that are one. -/
structure SV.Like (y z : SV) : Prop where
  k : y.k = z.k
  id : ∀ i, i < 16 → y.id i = z.id i
  ac : y.ac = z.ac
  dv : y.dv = z.dv
  ce : y.ce = z.ce
  key : ∀ i, i < 32 → y.key i = z.key i
  n : y.n = z.n
  nd : y.nd = z.nd
  fd : ∀ i, i < y.nd → y.fd i = z.fd i
  rs : y.rs = z.rs
theorem SV.Like.refl (y : SV) : y.Like y := ⟨rfl, fun _ _ => rfl, rfl, rfl, rfl, fun _ _ => rfl, rfl, rfl, fun _ _ => rfl, rfl⟩
theorem SV.Like.symm {y z : SV} (h : y.Like z) : z.Like y := ⟨h.k.symm, fun i hi => (h.id i hi).symm, h.ac.symm, h.dv.symm, h.ce.symm, fun i hi => (h.key i hi).symm, h.n.symm, h.nd.symm, fun i hi => (h.fd i (by rw [h.nd]; exact hi)).symm, h.rs.symm⟩
theorem SV.Like.trans {x y z : SV} (h : x.Like y) (g : y.Like z) : x.Like z := ⟨h.k.trans g.k, fun i hi => (h.id i hi).trans (g.id i hi), h.ac.trans g.ac, h.dv.trans g.dv, h.ce.trans g.ce, fun i hi => (h.key i hi).trans (g.key i hi), h.n.trans g.n, h.nd.trans g.nd, fun i hi => (h.fd i hi).trans (g.fd i (by rw [← h.nd]; exact hi)), h.rs.trans g.rs⟩
theorem SV.same_iff {y z : SV} (hy : y.Ok) (hz : z.Ok) : y.same z = true ↔ y.Like z := by
  unfold SV.same
  simp only [Bool.and_eq_true, beq_iff_eq, decide_eq_true_eq, eqN_iff, strOf_inj _ _ _ _ hy.fd hz.fd]
  constructor
  · rintro ⟨⟨⟨⟨⟨⟨⟨h1, h2⟩, h3, h4⟩, h5⟩, h6⟩, h7⟩, h8, h9⟩, h10⟩
    exact ⟨by omega, h2, by omega, by omega, by omega, h6, by omega, h8, h9, by omega⟩
  · intro h
    exact ⟨⟨⟨⟨⟨⟨⟨by rw [h.k], h.id⟩, by rw [h.ac], by rw [h.dv]⟩, by rw [h.ce]⟩, h.key⟩, by rw [h.n]⟩, h.nd, h.fd⟩, by rw [h.rs]⟩
theorem eqN_congr {n : Nat} {f g h : Nat → Nat} (e : ∀ i, i < n → f i = g i) : eqN n f h = eqN n g h := by
  rw [Bool.eq_iff_iff, eqN_iff, eqN_iff]
  exact ⟨fun a i hi => (e i hi).symm.trans (a i hi), fun a i hi => (e i hi).trans (a i hi)⟩
theorem SV.Like.nothing {y z : SV} (h : y.Like z) : y.nothing = z.nothing := by
  unfold SV.nothing
  rw [h.ac, h.dv, h.ce, h.n, h.nd, h.rs, eqN_congr h.key]
theorem SV.Like.mayC {y z : SV} (h : y.Like z) : y.mayC = z.mayC := by
  have e1 : y.noOffer.nothing = z.noOffer.nothing := SV.Like.nothing ⟨h.k, h.id, rfl, rfl, rfl, fun _ _ => rfl, h.n, h.nd, h.fd, h.rs⟩
  have e2 : y.noKey.nothing = z.noKey.nothing := SV.Like.nothing ⟨h.k, h.id, h.ac, h.dv, h.ce, fun _ _ => rfl, h.n, h.nd, h.fd, h.rs⟩
  have e3 : y.noCand.nothing = z.noCand.nothing := SV.Like.nothing ⟨h.k, h.id, h.ac, h.dv, h.ce, h.key, rfl, rfl, fun i hi => absurd hi (by show ¬ i < 0; omega), h.rs⟩
  have e5 : y.noHang.nothing = z.noHang.nothing := SV.Like.nothing ⟨h.k, h.id, h.ac, h.dv, h.ce, h.key, h.n, h.nd, h.fd, rfl⟩
  unfold SV.mayC
  rw [e1, e2, e3, e5, h.nothing, h.k, h.ac, h.dv, h.ce, h.nd, h.rs]
/-! What is taken. -/
theorem take_fit {L a n : Nat} (h : a + n ≤ L) : (ISt.good a).take L (n : Nat) = .good (a + n) ∧ (ISt.good a).got L (n : Nat) = n := by
  have h' : 0 ≤ (n : Int) ∧ (n : Int) ≤ ((L - a : Nat) : Int) := by omega
  exact ⟨(if_pos h').trans (by rw [Int.toNat_natCast]), (if_pos h').trans (Int.toNat_natCast n)⟩
theorem take_short {L a n : Nat} (h : L < a + n) (ha : a ≤ L) : (ISt.good a).take L (n : Nat) = .bad := by
  have h' : ¬ (0 ≤ (n : Int) ∧ (n : Int) ≤ ((L - a : Nat) : Int)) := by omega
  exact if_neg h'
theorem num_fit {L a n : Nat} {F : Nat → Nat} (h : a + n ≤ L) : (ISt.good a).num L F n = ofB8 (fun i => F (a + i)) n := by
  unfold ISt.num
  rw [(take_fit h).2]
  rfl
def manyT (L : Nat) : ISt → List Nat → ISt
  | s, [] => s
  | s, n :: r => manyT L (s.take L (n : Nat)) r
theorem manyT_bad (L : Nat) : ∀ ns, manyT L .bad ns = .bad
  | [] => rfl
  | _ :: r => manyT_bad L r
theorem manyT_good (L : Nat) : ∀ (ns : List Nat) (a : Nat), a + ns.sum ≤ L → manyT L (.good a) ns = .good (a + ns.sum)
  | [], _, _ => rfl
  | n :: r, a, h => by
    rw [List.sum_cons] at h ⊢
    show manyT L ((ISt.good a).take L (n : Nat)) r = _
    rw [(take_fit (by omega)).1, manyT_good L r (a + n) (by omega), Nat.add_assoc]
theorem manyT_code (L : Nat) : ∀ (ns : List Nat) (a : Nat), a ≤ L → ((manyT L (.good a) ns).code L = 0 ↔ L = a + ns.sum)
  | [], a, h => by
    show (if 0 < L - a then (9 : Int) else 0) = 0 ↔ L = a + 0
    by_cases e : 0 < L - a
    · rw [if_pos e]; constructor
      · intro h; cases h
      · omega
    · rw [if_neg e]; exact ⟨fun _ => by omega, fun _ => rfl⟩
  | n :: r, a, h => by
    rw [List.sum_cons]
    show (manyT L ((ISt.good a).take L (n : Nat)) r).code L = 0 ↔ _
    by_cases e : a + n ≤ L
    · rw [(take_fit e).1, manyT_code L r (a + n) e]
      omega
    · rw [take_short (by omega) h, manyT_bad]
      constructor
      · intro h; cases h
      · omega
theorem ofB8_1 (f : Nat → Nat) : ofB8 f 1 = f 0 := by simp [ofB8]
theorem rk_at {L : Nat} {F : Nat → Nat} (h : 1 ≤ L) : rk L F = F 0 := by
  unfold rk
  rw [num_fit (by omega), ofB8_1]
theorem over_at {N i : Nat} {f g : Nat → Nat} (h : i < N) : over N f g i = f i := if_pos h
/-- None, or one, and that is what the document tells. -/
structure Alike (a b : Option SV) : Prop where
  ex : (a = none ∧ b = none) ∨ ∃ y z, a = some y ∧ b = some z ∧ y.Like z
theorem alike_fin {L : Nat} {s : ISt} {y z : SV} {b : Option SV} (hl : y.Like z) (h : s.code L = 0) (hb : b = some z) : Alike (SV.fin L s y) (b.bind SV.may?) := by
  subst hb
  show Alike (SV.fin L s y) (SV.may? z)
  unfold SV.fin SV.may?
  rw [hl.mayC]
  by_cases hm : z.mayC = true
  · rw [if_pos ⟨h, hm⟩, if_pos hm]; exact ⟨Or.inr ⟨y, z, rfl, rfl, hl⟩⟩
  · rw [if_neg (fun e => hm e.2), if_neg hm]; exact ⟨Or.inl ⟨rfl, rfl⟩⟩
theorem alike_no {L : Nat} {s : ISt} {y : SV} {b : Option SV} (h : ¬ s.code L = 0) (hb : b = none) : Alike (SV.fin L s y) (b.bind SV.may?) := by
  subst hb
  exact ⟨Or.inl ⟨if_neg (fun e => h e.1), rfl⟩⟩
theorem first_like {L : Nat} {F : Nat → Nat} (h : 17 ≤ L) : (SV.first L F).k = F 0 ∧ (∀ i, i < 16 → (SV.first L F).id i = F (1 + i)) ∧ rs2 L = .good 17 := by
  have e1 : rs1 L = .good 1 := (take_fit (L := L) (a := 0) (n := 1) (by omega)).1
  refine ⟨rk_at (by omega), fun i hi => ?_, ?_⟩
  · show over ((rs1 L).got L 16) (fun i => F ((rs1 L).off + i)) (fun _ => 0) i = F (1 + i)
    rw [e1, show (ISt.good 1).got L 16 = 16 from (take_fit (n := 16) (by omega)).2]
    exact over_at hi
  · unfold rs2
    rw [e1]
    exact (take_fit (n := 16) (by omega)).1
theorem bad_take (L : Nat) (n : Int) : ISt.bad.take L n = .bad := rfl
theorem cand_code {L : Nat} {F : Nat → Nat} (h : 17 ≤ L) : ((ISt.good 17).dataS L F).code L = 0 ↔ 23 ≤ L ∧ ofB8 (fun i => F (21 + i)) 2 ≤ 1024 ∧ L = 23 + ofB8 (fun i => F (21 + i)) 2 := by
  unfold ISt.dataS
  by_cases h1 : 21 ≤ L
  · rw [show (ISt.good 17).take L 4 = .good 21 from (take_fit (n := 4) (by omega)).1]
    by_cases h2 : 23 ≤ L
    · unfold ISt.cntS ISt.cntV
      rw [num_fit (a := 21) (n := 2) (by omega), show (ISt.good 21).take L 2 = .good 23 from (take_fit (n := 2) (by omega)).1]
      generalize ofB8 (fun i => F (21 + i)) 2 = v
      by_cases h3 : (1024 : Int) < (v : Int)
      · rw [if_pos h3, if_pos h3]
        show (ISt.code L .bad = 0) ↔ _
        constructor
        · intro h; cases h
        · omega
      · rw [if_neg h3, if_neg h3]
        have := manyT_code L [v] 23 h2
        rw [show manyT L (.good 23) [v] = (ISt.good 23).take L (v : Nat) from rfl, show 23 + [v].sum = 23 + v by simp] at this
        rw [this]
        omega
    · unfold ISt.cntS
      rw [show (ISt.good 21).take L 2 = .bad from take_short (n := 2) (by omega) h1]
      have e : (if (1024 : Int) < ((ISt.good 21).num L F 2 : Int) then ISt.bad.fail else .bad) = .bad := by split <;> rfl
      rw [e]
      constructor
      · intro h; cases h
      · omega
  · rw [show (ISt.good 17).take L 4 = .bad from take_short (n := 4) (by omega) h]
    have e : ISt.bad.cntS L F 1024 = .bad := by unfold ISt.cntS; rw [bad_take]; split <;> rfl
    rw [e]
    constructor
    · intro h; cases h
    · omega
theorem takes_like (L : Nat) (F : Nat → Nat) : Alike (SV.takes L F) (SV.takesR L F) := by
  unfold SV.takesR
  by_cases h17 : 17 ≤ L
  · obtain ⟨ek, eid, e2⟩ := first_like (F := F) h17
    have hrk : rk L F = F 0 := rk_at (by omega)
    unfold SV.takes SV.shape
    rw [hrk, if_neg (show ¬ L < 17 by omega), e2]
    by_cases k1 : F 0 = 1
    · rw [if_pos k1, if_pos k1]
      have hc := manyT_code L [1, 1, 1, 32] 17 h17
      by_cases hl : L = 52
      · rw [if_pos hl]
        refine alike_fin (z := SV.ref1 F) ?_ (hc.2 hl) rfl
        subst hl
        exact ⟨ek, eid, ofB8_1 _, ofB8_1 _, ofB8_1 _, fun i hi => over_at (N := 32) (f := fun j => F (20 + j)) (g := fun _ => 0) hi, rfl, rfl, fun i hi => absurd hi (by show ¬ i < 0; omega), rfl⟩
      · rw [if_neg hl]
        exact alike_no (fun h => hl (hc.1 h)) rfl
    rw [if_neg k1, if_neg k1]
    by_cases k2 : F 0 = 2
    · rw [if_pos k2, if_pos k2]
      have hc := manyT_code L [32] 17 h17
      by_cases hl : L = 49
      · rw [if_pos hl]
        refine alike_fin (z := SV.ref2 F) ?_ (hc.2 hl) rfl
        subst hl
        exact ⟨ek, eid, rfl, rfl, rfl, fun i hi => over_at (N := 32) (f := fun j => F (17 + j)) (g := fun _ => 0) hi, rfl, rfl, fun i hi => absurd hi (by show ¬ i < 0; omega), rfl⟩
      · rw [if_neg hl]
        exact alike_no (fun h => hl (hc.1 h)) rfl
    rw [if_neg k2, if_neg k2]
    by_cases k3 : F 0 = 3
    · rw [if_pos k3, if_pos k3]
      by_cases hl : 23 ≤ L ∧ ofB8 (fun i => F (21 + i)) 2 = L - 23
      · rw [if_pos hl]
        by_cases hv : ofB8 (fun i => F (21 + i)) 2 ≤ 1024
        · refine alike_fin (z := SV.ref3 L F) ?_ ((cand_code h17).2 ⟨hl.1, hv, by omega⟩) rfl
          have a1 : (ISt.good 17).take L 4 = .good 21 := (take_fit (n := 4) (by omega)).1
          have a2 : (ISt.good 21).take L 2 = .good 23 := (take_fit (n := 2) (by omega)).1
          have a3 : (ISt.good 21).num L F 2 = ofB8 (fun i => F (21 + i)) 2 := num_fit (by omega)
          have hv' : ¬ (1024 : Int) < (ofB8 (fun i => F (21 + i)) 2 : Int) := by omega
          have a4 : (ISt.good 21).cntS L F 1024 = .good 23 := by unfold ISt.cntS; rw [a3, if_neg hv', a2]
          have a5 : (ISt.good 21).cntV L F 1024 = L - 23 := by unfold ISt.cntV; rw [a3, if_neg hv', hl.2]
          refine ⟨ek, eid, rfl, rfl, rfl, fun i _ => rfl, num_fit (by omega), ?_, fun i _ => ?_, rfl⟩
          · show (ISt.good 17).dataN L F = L - 23
            unfold ISt.dataN
            rw [a1, a4, a5]
            exact (take_fit (n := L - 23) (by omega)).2
          · show (ISt.good 17).dataF L F i = F (23 + i)
            unfold ISt.dataF
            rw [a1, a4]
            rfl
        · have e1 : SV.fin L ((ISt.good 17).dataS L F) ((SV.first L F).takeCand L F (.good 17) none 0) = none := if_neg (fun h => hv ((cand_code h17).1 h.1).2.1)
          have e3 : SV.may? (SV.ref3 L F) = none := by
            refine if_neg (fun h => hv ?_)
            unfold SV.mayC at h
            rw [if_neg (show ¬ (SV.ref3 L F).k = 1 from k1), if_neg (show ¬ (SV.ref3 L F).k = 2 from k2), if_pos (show (SV.ref3 L F).k = 3 from k3), Bool.and_eq_true] at h
            have h2 : L - 23 ≤ 1024 := of_decide_eq_true h.1
            omega
          exact ⟨Or.inl ⟨e1, e3⟩⟩
      · rw [if_neg hl]
        exact alike_no (fun h => hl (by have := (cand_code h17).1 h; exact ⟨this.1, by omega⟩)) rfl
    rw [if_neg k3, if_neg k3]
    by_cases k5 : F 0 = 5
    · rw [if_pos k5, if_pos k5]
      have hc := manyT_code L [1] 17 h17
      by_cases hl : L = 18
      · rw [if_pos hl]
        refine alike_fin (z := SV.ref5 F) ?_ (hc.2 hl) rfl
        subst hl
        exact ⟨ek, eid, rfl, rfl, rfl, fun i hi => rfl, rfl, rfl, fun i hi => absurd hi (by show ¬ i < 0; omega), ofB8_1 _⟩
      · rw [if_neg hl]
        exact alike_no (fun h => hl (hc.1 h)) rfl
    rw [if_neg k5, if_neg k5]
    by_cases k4 : F 0 = 4 ∨ F 0 = 6
    · rw [if_pos k4, if_pos k4]
      have hc := manyT_code L [] 17 h17
      by_cases hl : L = 17
      · rw [if_pos hl]
        exact alike_fin (z := SV.ref0 F) ⟨ek, eid, rfl, rfl, rfl, fun i hi => rfl, rfl, rfl, fun i hi => absurd hi (by show ¬ i < 0; omega), rfl⟩ (hc.2 hl) rfl
      · rw [if_neg hl]
        exact alike_no (fun h => hl (hc.1 h)) rfl
    · rw [if_neg k4, if_neg k4]
      exact ⟨Or.inl ⟨rfl, rfl⟩⟩
  · have e0 : SV.shape L F = none := if_pos (by omega)
    rw [e0]
    have bad2 : rs2 L = .bad := by
      have h1 := manyT_code L [1, 16] 0 (Nat.zero_le _)
      by_cases hz : 1 ≤ L
      · have e1 : rs1 L = .good 1 := (take_fit (L := L) (a := 0) (n := 1) (by omega)).1
        unfold rs2
        rw [e1]
        exact take_short (n := 16) (by omega) hz
      · have e1 : rs1 L = .bad := take_short (L := L) (a := 0) (n := 1) (by omega) (by omega)
        unfold rs2
        rw [e1]
        rfl
    refine ⟨Or.inl ⟨?_, rfl⟩⟩
    unfold SV.takes
    rw [bad2]
    have hb : ∀ (y : SV), SV.fin L .bad y = none := fun y => if_neg (fun h => by cases h.1)
    have e3 : (ISt.bad).dataS L F = .bad := by
      unfold ISt.dataS
      have e : ISt.bad.cntS L F 1024 = .bad := by unfold ISt.cntS; rw [bad_take]; split <;> rfl
      rw [bad_take, e]
      rfl
    rw [e3]
    simp only [bad_take, hb]
    split
    · rfl
    split
    · rfl
    split
    · rfl
    split
    · rfl
    split <;> rfl
end Go.Proofs.Ytpddgiflljlpbaa
namespace Go.Proofs.Ytpddgiflljlpbaa
open Go.RowKit

set_option maxRecDepth 100000
set_option maxHeartbeats 4000000

theorem cat_l {n i : Nat} {f g : Nat → Nat} (h : i < n) : cat n f g i = f i := if_pos h
theorem cat_r {n : Nat} {f g : Nat → Nat} (i : Nat) : cat n f g (n + i) = g i := by
  unfold cat
  rw [if_neg (by omega), show n + i - n = i by omega]
theorem cat_z (f g : Nat → Nat) : cat 0 f g = g := by
  funext i
  unfold cat
  rw [if_neg (by omega), Nat.sub_zero]
theorem SV.head_eq (x : SV) : x.head = .good 1047 17 x.hd := by
  show OSt.good 1047 17 (cat 1 (cat 0 (fun _ => 0) (fun _ => x.k)) x.id) = _
  rw [cat_z]
  rfl
theorem put_good {lim n m : Nat} {f g : Nat → Nat} (h : n + m ≤ lim) : (OSt.good lim n f).put m g = .good lim (n + m) (cat n f g) := if_pos h
/-- What a signal that may be has not, beside its kind's. -/
theorem may_cases {x : SV} (h : x.mayC = true) : (x.k = 1 ∧ x.n = 0 ∧ x.nd = 0 ∧ x.rs = 0) ∨ (x.k = 2 ∧ x.ac = 0 ∧ x.dv = 0 ∧ x.ce = 0 ∧ x.n = 0 ∧ x.nd = 0 ∧ x.rs = 0) ∨
    (x.k = 3 ∧ x.ac = 0 ∧ x.dv = 0 ∧ x.ce = 0 ∧ (∀ i, i < 32 → x.key i = 0) ∧ x.rs = 0 ∧ x.nd ≤ 1024) ∨ (x.k = 5 ∧ x.ac = 0 ∧ x.dv = 0 ∧ x.ce = 0 ∧ (∀ i, i < 32 → x.key i = 0) ∧ x.n = 0 ∧ x.nd = 0) ∨
    ((x.k = 4 ∨ x.k = 6) ∧ x.ac = 0 ∧ x.dv = 0 ∧ x.ce = 0 ∧ (∀ i, i < 32 → x.key i = 0) ∧ x.n = 0 ∧ x.nd = 0 ∧ x.rs = 0) := by
  have nth : ∀ y : SV, y.nothing = true → y.ac = 0 ∧ y.dv = 0 ∧ y.ce = 0 ∧ (∀ i, i < 32 → y.key i = 0) ∧ y.n = 0 ∧ y.nd = 0 ∧ y.rs = 0 := fun y hy => by
    unfold SV.nothing at hy
    simp only [Bool.and_eq_true, beq_iff_eq, eqN_iff] at hy
    obtain ⟨⟨⟨⟨⟨⟨h1, h2⟩, h3⟩, h4⟩, h5⟩, h6⟩, h7⟩ := hy
    exact ⟨by omega, by omega, by omega, h4, by omega, by omega, by omega⟩
  unfold SV.mayC at h
  by_cases k1 : x.k = 1
  · rw [if_pos k1, Bool.and_eq_true] at h
    obtain ⟨_, _, _, _, a, b, c⟩ := nth _ h.2
    exact Or.inl ⟨k1, a, b, c⟩
  rw [if_neg k1] at h
  by_cases k2 : x.k = 2
  · rw [if_pos k2] at h
    obtain ⟨a, b, c, _, d, e, f⟩ := nth _ h
    exact Or.inr (Or.inl ⟨k2, a, b, c, d, e, f⟩)
  rw [if_neg k2] at h
  by_cases k3 : x.k = 3
  · rw [if_pos k3, Bool.and_eq_true] at h
    obtain ⟨a, b, c, d, _, _, f⟩ := nth _ h.2
    exact Or.inr (Or.inr (Or.inl ⟨k3, a, b, c, d, f, of_decide_eq_true h.1⟩))
  rw [if_neg k3] at h
  by_cases k5 : x.k = 5
  · rw [if_pos k5, Bool.and_eq_true] at h
    obtain ⟨a, b, c, d, e, f, _⟩ := nth _ h.2
    exact Or.inr (Or.inr (Or.inr (Or.inl ⟨k5, a, b, c, d, e, f⟩)))
  rw [if_neg k5] at h
  by_cases k4 : x.k = 4 ∨ x.k = 6
  · rw [if_pos k4] at h
    obtain ⟨a, b, c, d, e, f, g⟩ := nth _ h
    exact Or.inr (Or.inr (Or.inr (Or.inr ⟨k4, a, b, c, d, e, f, g⟩)))
  rw [if_neg k4] at h
  cases h
theorem out_eq {x : SV} (h : x.mayC = true) : x.out = .good 1047 x.bytesN x.bytesF := by
  unfold SV.out SV.bytesN SV.bytesF
  by_cases k1 : x.k = 1
  · rw [if_pos k1, if_pos k1, if_pos k1, x.head_eq, put_good (by omega), put_good (by omega)]
  rw [if_neg k1, if_neg k1, if_neg k1]
  by_cases k2 : x.k = 2
  · rw [if_pos k2, if_pos k2, if_pos k2, x.head_eq, put_good (by omega)]
  rw [if_neg k2, if_neg k2, if_neg k2]
  by_cases k3 : x.k = 3
  · have hn : x.nd ≤ 1024 := by
      rcases may_cases h with ⟨k, _⟩ | ⟨k, _⟩ | ⟨k, _, _, _, _, _, e⟩ | ⟨k, _⟩ | ⟨k, _⟩
      · omega
      · omega
      · exact e
      · omega
      · omega
    rw [if_pos k3, if_pos k3, if_pos k3, x.head_eq, put_good (by omega)]
    unfold OSt.count
    rw [if_neg (by omega), put_good (by omega), put_good (by omega)]
  rw [if_neg k3, if_neg k3, if_neg k3]
  by_cases k5 : x.k = 5
  · rw [if_pos k5, if_pos k5, if_pos k5, x.head_eq, put_good (by omega)]
  rw [if_neg k5, if_neg k5, if_neg k5, x.head_eq]
theorem bytesN_ge {x : SV} : 17 ≤ x.bytesN := by
  unfold SV.bytesN
  split
  · omega
  split
  · omega
  split
  · omega
  split <;> omega
theorem bytesN_le {x : SV} (h : x.mayC = true) : x.bytesN ≤ 1047 := by
  rcases may_cases h with ⟨k, _⟩ | ⟨k, _⟩ | ⟨k, _, _, _, _, _, e⟩ | ⟨k, _⟩ | ⟨k, _⟩ <;> unfold SV.bytesN <;> (repeat' split) <;> omega
/-- Kind and id stand ahead. -/
theorem bytesF_head (x : SV) : ∀ i, i < 17 → x.bytesF i = x.hd i := fun i hi => by
  unfold SV.bytesF
  split
  · rw [cat_l (by omega), cat_l (by omega)]
  split
  · rw [cat_l (by omega)]
  split
  · rw [cat_l (by omega), cat_l (by omega), cat_l (by omega)]
  split
  · rw [cat_l (by omega)]
  · rfl
theorem hd_k (x : SV) : x.hd 0 = x.k := cat_l (by omega)
theorem hd_id (x : SV) (i : Nat) : x.hd (1 + i) = x.id i := cat_r i
/-- Bytes that begin as a signal's do tell a signal just if they are all of its bytes. -/
theorem shape_of {x : SV} (hx : x.Ok) (h : x.mayC = true) {L : Nat} {F : Nat → Nat} (hF : ∀ i, i < L → i < x.bytesN → F i = x.bytesF i) :
    (L = x.bytesN → ∃ z, SV.shape L F = some z ∧ z.Like x) ∧ (L ≠ x.bytesN → SV.shape L F = none) := by
  by_cases h17 : L < 17
  · refine ⟨fun e => by have := bytesN_ge (x := x); omega, fun _ => if_pos h17⟩
  have hge := bytesN_ge (x := x)
  have e0 : F 0 = x.k := by rw [hF 0 (by omega) (by omega), bytesF_head x 0 (by omega), hd_k]
  have eid : ∀ i, i < 16 → F (1 + i) = x.id i := fun i hi => by rw [hF _ (by omega) (by omega), bytesF_head x _ (by omega), hd_id]
  unfold SV.shape
  rw [if_neg h17, e0]
  rcases may_cases h with ⟨k, hn, hd, hr⟩ | ⟨k, ha, hv, hc, hn, hd, hr⟩ | ⟨k, ha, hv, hc, hk, hr, hd⟩ | ⟨k, ha, hv, hc, hk, hn, hd⟩ | ⟨k, ha, hv, hc, hk, hn, hd, hr⟩
  · have eN : x.bytesN = 52 := if_pos k
    have eF : x.bytesF = cat 20 (cat 17 x.hd (three x.ac x.dv x.ce)) x.key := if_pos k
    rw [eN, eF] at hF
    rw [if_pos k, eN]
    refine ⟨fun hl => ⟨_, if_pos hl, ⟨e0, eid, ?_, ?_, ?_, fun i hi => ?_, hn.symm, hd.symm, fun i hi => absurd hi (by show ¬ i < 0; omega), hr.symm⟩⟩, fun hl => if_neg hl⟩
    · show F 17 = x.ac
      rw [hF 17 (by omega) (by omega), cat_l (by omega)]
      exact cat_r 0
    · show F 18 = x.dv
      rw [hF 18 (by omega) (by omega), cat_l (by omega)]
      exact cat_r 1
    · show F 19 = x.ce
      rw [hF 19 (by omega) (by omega), cat_l (by omega)]
      exact cat_r 2
    · show F (20 + i) = x.key i
      rw [hF _ (by omega) (by omega)]
      exact cat_r i
  · have eN : x.bytesN = 49 := by unfold SV.bytesN; rw [if_neg (by omega), if_pos k]
    have eF : x.bytesF = cat 17 x.hd x.key := by unfold SV.bytesF; rw [if_neg (by omega), if_pos k]
    rw [eN, eF] at hF
    rw [if_neg (by omega), if_pos k, eN]
    refine ⟨fun hl => ⟨_, if_pos hl, ⟨e0, eid, ha.symm, hv.symm, hc.symm, fun i hi => ?_, hn.symm, hd.symm, fun i hi => absurd hi (by show ¬ i < 0; omega), hr.symm⟩⟩, fun hl => if_neg hl⟩
    show F (17 + i) = x.key i
    rw [hF _ (by omega) (by omega)]
    exact cat_r i
  · have eN : x.bytesN = 23 + x.nd := by unfold SV.bytesN; rw [if_neg (by omega), if_neg (by omega), if_pos k]
    have eF : x.bytesF = cat 23 (cat 21 (cat 17 x.hd (nbF x.n 4)) (nbF x.nd 2)) x.fd := by unfold SV.bytesF; rw [if_neg (by omega), if_neg (by omega), if_pos k]
    rw [eN, eF] at hF
    rw [if_neg (by omega), if_neg (by omega), if_pos k, eN]
    have en : 23 ≤ L → ofB8 (fun i => F (21 + i)) 2 = x.nd := fun hl => by
      rw [ofB8_congr (fun i => F (21 + i)) (nbF x.nd 2) 2 (fun i hi => by
        show F (21 + i) = _
        rw [hF _ (by omega) (by omega), cat_l (by omega)]
        exact cat_r i)]
      exact ofB8_number x.nd 2 (by omega)
    refine ⟨fun hl => ?_, fun hl => if_neg (fun hc => hl (by have := en hc.1; omega))⟩
    refine ⟨_, if_pos ⟨by omega, by rw [en (by omega)]; omega⟩, ⟨e0, eid, ha.symm, hv.symm, hc.symm, fun i hi => (hk i hi).symm, ?_, ?_, fun i hi => ?_, hr.symm⟩⟩
    · show ofB8 (fun i => F (17 + i)) 4 = x.n
      rw [ofB8_congr (fun i => F (17 + i)) (nbF x.n 4) 4 (fun i hi => by
        show F (17 + i) = _
        rw [hF _ (by omega) (by omega), cat_l (by omega), cat_l (by omega)]
        exact cat_r i)]
      exact ofB8_number x.n 4 hx.n
    · show L - 23 = x.nd
      omega
    · have hi' : i < L - 23 := hi
      show F (23 + i) = x.fd i
      rw [hF _ (by omega) (by omega)]
      exact cat_r i
  · have eN : x.bytesN = 18 := by unfold SV.bytesN; rw [if_neg (by omega), if_neg (by omega), if_neg (by omega), if_pos k]
    have eF : x.bytesF = cat 17 x.hd (fun _ => x.rs) := by unfold SV.bytesF; rw [if_neg (by omega), if_neg (by omega), if_neg (by omega), if_pos k]
    rw [eN, eF] at hF
    rw [if_neg (by omega), if_neg (by omega), if_neg (by omega), if_pos k, eN]
    refine ⟨fun hl => ⟨_, if_pos hl, ⟨e0, eid, ha.symm, hv.symm, hc.symm, fun i hi => (hk i hi).symm, hn.symm, hd.symm, fun i hi => absurd hi (by show ¬ i < 0; omega), ?_⟩⟩, fun hl => if_neg hl⟩
    show F 17 = x.rs
    rw [hF _ (by omega) (by omega)]
    exact cat_r 0
  · have eN : x.bytesN = 17 := by unfold SV.bytesN; rw [if_neg (by omega), if_neg (by omega), if_neg (by omega), if_neg (by omega)]
    rw [if_neg (by omega), if_neg (by omega), if_neg (by omega), if_neg (by omega), if_pos k, eN]
    exact ⟨fun hl => ⟨_, if_pos hl, ⟨e0, eid, ha.symm, hv.symm, hc.symm, fun i hi => (hk i hi).symm, hn.symm, hd.symm, fun i hi => absurd hi (by show ¬ i < 0; omega), hr.symm⟩⟩, fun hl => if_neg hl⟩
/-- What was put is taken as it was. -/
theorem put_taken {x : SV} (hx : x.Ok) (h : x.mayC = true) {L : Nat} {F : Nat → Nat} (hL : L = x.bytesN) (hF : ∀ i, i < L → F i = x.bytesF i) : ∃ y, SV.takes L F = some y ∧ y.Like x := by
  obtain ⟨z, hz, hl⟩ := (shape_of hx h (L := L) (F := F) (fun i hi _ => hF i hi)).1 hL
  have hr : SV.takesR L F = some z := by unfold SV.takesR; rw [hz]; exact if_pos (by rw [hl.mayC]; exact h)
  rcases (takes_like L F).ex with ⟨_, e⟩ | ⟨y, z', e1, e2, e3⟩
  · rw [e] at hr; cases hr
  · rw [hr] at e2
    cases e2
    exact ⟨y, e1, e3.trans hl⟩
/-- Cut short, or with more behind, it is none. -/
theorem put_other {x : SV} (hx : x.Ok) (h : x.mayC = true) {L : Nat} {F : Nat → Nat} (hL : L ≠ x.bytesN) (hF : ∀ i, i < L → i < x.bytesN → F i = x.bytesF i) : SV.takes L F = none := by
  have hs := (shape_of hx h (L := L) (F := F) hF).2 hL
  have hr : SV.takesR L F = none := by unfold SV.takesR; rw [hs]; rfl
  rcases (takes_like L F).ex with ⟨e, _⟩ | ⟨y, z', e1, e2, e3⟩
  · exact e
  · rw [hr] at e2; cases e2
theorem SV.Like.hd {y z : SV} (h : y.Like z) : ∀ i, i < 17 → y.hd i = z.hd i := fun i hi => by
  unfold SV.hd cat
  split
  · exact h.k
  · exact h.id _ (by omega)
theorem cat_cong {n m : Nat} {f f' g g' : Nat → Nat} (h1 : ∀ i, i < n → f i = f' i) (h2 : ∀ i, i < m → g i = g' i) : ∀ i, i < n + m → cat n f g i = cat n f' g' i := fun i hi => by
  unfold cat
  split
  · exact h1 _ (by assumption)
  · exact h2 _ (by omega)
theorem SV.Like.bytes {y z : SV} (h : y.Like z) : y.bytesN = z.bytesN ∧ ∀ i, i < y.bytesN → y.bytesF i = z.bytesF i := by
  unfold SV.bytesN SV.bytesF
  rw [← h.k]
  by_cases k1 : y.k = 1
  · simp only [if_pos k1]
    refine ⟨trivial, ?_⟩
    rw [← h.ac, ← h.dv, ← h.ce]
    exact cat_cong (m := 32) (cat_cong (m := 3) h.hd (fun _ _ => rfl)) h.key
  simp only [if_neg k1]
  by_cases k2 : y.k = 2
  · simp only [if_pos k2]
    exact ⟨trivial, cat_cong (m := 32) h.hd h.key⟩
  simp only [if_neg k2]
  by_cases k3 : y.k = 3
  · simp only [if_pos k3]
    rw [← h.nd, ← h.n]
    exact ⟨rfl, cat_cong (cat_cong (m := 2) (cat_cong (m := 4) h.hd (fun _ _ => rfl)) (fun _ _ => rfl)) h.fd⟩
  simp only [if_neg k3]
  by_cases k5 : y.k = 5
  · simp only [if_pos k5]
    rw [← h.rs]
    exact ⟨trivial, cat_cong (m := 1) h.hd (fun _ _ => rfl)⟩
  simp only [if_neg k5]
  exact ⟨trivial, h.hd⟩
/-- What bytes tell is put as these bytes. -/
theorem shape_put {L : Nat} {F : Nat → Nat} (hF : ∀ i, F i < 256) {z : SV} (h : SV.shape L F = some z) : z.bytesN = L ∧ ∀ i, i < L → z.bytesF i = F i := by
  have hhd : ∀ (z : SV), z.k = F 0 → (∀ i, z.id i = F (1 + i)) → ∀ i, i < 17 → z.hd i = F i := fun z e0 e1 i hi => by
    unfold SV.hd cat
    split
    · rw [show i = 0 by omega]; exact e0
    · show z.id (i - 1) = F i
      rw [e1, show 1 + (i - 1) = i by omega]
  have cat_to : ∀ (n m : Nat) (f g : Nat → Nat), (∀ i, i < n → f i = F i) → (∀ i, i < m → g i = F (n + i)) → ∀ i, i < n + m → cat n f g i = F i := fun n m f g h1 h2 i hi => by
    unfold cat
    split
    · exact h1 _ (by assumption)
    · rw [h2 _ (by omega), show n + (i - n) = i by omega]
  unfold SV.shape at h
  by_cases h17 : L < 17
  · rw [if_pos h17] at h; cases h
  rw [if_neg h17] at h
  by_cases k1 : F 0 = 1
  · rw [if_pos k1] at h
    by_cases hl : L = 52
    · rw [if_pos hl] at h
      cases h
      subst hl
      refine ⟨if_pos k1, fun i hi => ?_⟩
      rw [show (SV.ref1 F).bytesF = cat 20 (cat 17 (SV.ref1 F).hd (three (F 17) (F 18) (F 19))) (fun i => F (20 + i)) from if_pos k1]
      refine cat_to 20 32 _ _ (cat_to 17 3 _ _ (hhd (SV.ref1 F) rfl (fun _ => rfl)) (fun i hi => ?_)) (fun i hi => rfl) i hi
      obtain rfl | rfl | rfl : i = 0 ∨ i = 1 ∨ i = 2 := by omega
      · rfl
      · rfl
      · rfl
    · rw [if_neg hl] at h; cases h
  rw [if_neg k1] at h
  by_cases k2 : F 0 = 2
  · rw [if_pos k2] at h
    by_cases hl : L = 49
    · rw [if_pos hl] at h
      cases h
      subst hl
      refine ⟨(if_neg k1).trans (if_pos k2), fun i hi => ?_⟩
      rw [show (SV.ref2 F).bytesF = cat 17 (SV.ref2 F).hd (fun i => F (17 + i)) from (if_neg k1).trans (if_pos k2)]
      exact cat_to 17 32 _ _ (hhd (SV.ref2 F) rfl (fun _ => rfl)) (fun i hi => rfl) i hi
    · rw [if_neg hl] at h; cases h
  rw [if_neg k2] at h
  by_cases k3 : F 0 = 3
  · rw [if_pos k3] at h
    by_cases hl : 23 ≤ L ∧ ofB8 (fun i => F (21 + i)) 2 = L - 23
    · rw [if_pos hl] at h
      cases h
      refine ⟨((if_neg k1).trans ((if_neg k2).trans (if_pos k3))).trans (by show 23 + (L - 23) = L; omega), fun i hi => ?_⟩
      rw [show (SV.ref3 L F).bytesF = cat 23 (cat 21 (cat 17 (SV.ref3 L F).hd (nbF (ofB8 (fun i => F (17 + i)) 4) 4)) (nbF (L - 23) 2)) (fun i => F (23 + i)) from (if_neg k1).trans ((if_neg k2).trans (if_pos k3))]
      rw [← hl.2]
      exact cat_to 23 (L - 23) _ _ (cat_to 21 2 _ _ (cat_to 17 4 _ _ (hhd (SV.ref3 L F) rfl (fun _ => rfl)) (fun i hi => nbF_ofB8 (fun i => F (17 + i)) (fun _ => hF _) 4 i hi)) (fun i hi => nbF_ofB8 (fun i => F (21 + i)) (fun _ => hF _) 2 i hi)) (fun i hi => rfl) i (by omega)
    · rw [if_neg hl] at h; cases h
  rw [if_neg k3] at h
  by_cases k5 : F 0 = 5
  · rw [if_pos k5] at h
    by_cases hl : L = 18
    · rw [if_pos hl] at h
      cases h
      subst hl
      refine ⟨(if_neg k1).trans ((if_neg k2).trans ((if_neg k3).trans (if_pos k5))), fun i hi => ?_⟩
      rw [show (SV.ref5 F).bytesF = cat 17 (SV.ref5 F).hd (fun _ => F 17) from (if_neg k1).trans ((if_neg k2).trans ((if_neg k3).trans (if_pos k5)))]
      exact cat_to 17 1 _ _ (hhd (SV.ref5 F) rfl (fun _ => rfl)) (fun i hi => by rw [show i = 0 by omega]) i hi
    · rw [if_neg hl] at h; cases h
  rw [if_neg k5] at h
  by_cases k4 : F 0 = 4 ∨ F 0 = 6
  · rw [if_pos k4] at h
    by_cases hl : L = 17
    · rw [if_pos hl] at h
      cases h
      subst hl
      refine ⟨(if_neg k1).trans ((if_neg k2).trans ((if_neg k3).trans (if_neg k5))), fun i hi => ?_⟩
      rw [show (SV.ref0 F).bytesF = (SV.ref0 F).hd from (if_neg k1).trans ((if_neg k2).trans ((if_neg k3).trans (if_neg k5)))]
      exact hhd (SV.ref0 F) rfl (fun _ => rfl) i hi
    · rw [if_neg hl] at h; cases h
  · rw [if_neg k4] at h; cases h
theorem taken_put {L : Nat} {F : Nat → Nat} (hF : ∀ i, F i < 256) {y : SV} (h : SV.takes L F = some y) : y.mayC = true ∧ y.bytesN = L ∧ ∀ i, i < L → y.bytesF i = F i := by
  rcases (takes_like L F).ex with ⟨e, _⟩ | ⟨y', z, e1, e2, e3⟩
  · rw [h] at e; cases e
  · rw [h] at e1
    cases e1
    have e2' := e2
    unfold SV.takesR at e2
    cases hs : SV.shape L F with
    | none => rw [hs] at e2; cases e2
    | some z' =>
      rw [hs] at e2
      have e4 : SV.may? z' = some z := e2
      unfold SV.may? at e4
      by_cases hm : z'.mayC = true
      · rw [if_pos hm] at e4
        cases e4
        obtain ⟨b1, b2⟩ := shape_put hF hs
        obtain ⟨c1, c2⟩ := e3.bytes
        exact ⟨by rw [e3.mayC]; exact hm, c1.trans b1, fun i hi => (c2 i (by omega)).trans (b2 i hi)⟩
      · rw [if_neg hm] at e4; cases e4
end Go.Proofs.Ytpddgiflljlpbaa
namespace Go.Proofs.Ytpddgiflljlpbaa
open Go.RowKit

set_option maxRecDepth 100000
set_option maxHeartbeats 4000000

structure PutYes (w : World) (x : SV) (e : Ending) (w' : World) : Prop where
  ex : ∃ a c, e = .returned (.tuple #[.slice a x.bytesN c, .int .i64 0]) ∧ OwnN w' w.heap.size (.slice a x.bytesN c) x.bytesN x.bytesF
  gr : w.grownBy w' none
structure PutNo (w : World) (e : Ending) (w' : World) : Prop where
  ex : ∃ a c, e = .returned (.tuple #[.slice a 0 c, .int .i64 2]) ∧ OwnN w' w.heap.size (.slice a 0 c) 0 (fun _ => 0)
  gr : w.grownBy w' none
theorem sgPut_yes (D : Nat) (x : SV) (w : World) (h : x.mayC = true) (hn : x.n < 4294967296) (hR : Rd w D x.ad x.nd x.fd) : Calls Try.prog 7 #[.agg x.cells] w (PutYes w x) := by
  have ho := out_eq h
  refine (sgPut_any D x w hn hR).mono ?_
  rintro e w' ⟨⟨a, c, e1, e2⟩, g⟩
  rw [if_pos h, if_pos h, ho] at e1
  rw [if_pos h, ho] at e2
  exact ⟨⟨a, c, e1, e2⟩, g⟩
theorem sgPut_no (D : Nat) (x : SV) (w : World) (h : x.mayC = false) (hn : x.n < 4294967296) (hR : Rd w D x.ad x.nd x.fd) : Calls Try.prog 7 #[.agg x.cells] w (PutNo w) := by
  refine (sgPut_any D x w hn hR).mono ?_
  rintro e w' ⟨⟨a, c, e1, e2⟩, g⟩
  rw [h] at e1 e2
  refine ⟨⟨a, c, e1, ?_⟩, g⟩
  rcases e2.ex with ⟨h1, h2⟩ | ⟨g', cap, h1, h2, h3⟩
  · exact ⟨Or.inl ⟨h1, h2⟩⟩
  · exact ⟨Or.inr ⟨g', cap, h1, h2.congr (fun i hi => absurd hi (by show ¬ i < 0; omega)), h3⟩⟩
/-- A byte, and sixteen noughts behind. -/
theorem app_zeros16 {w : World} {g v : Nat} (h : OwnR w g 1 1 (fun _ => v)) : ∃ b cap w', (Builtin.append_ #[22, 3] 22 #[.slice (some ⟨g, 0, none⟩) 1 1, .int .i64 16]).run Try.prog w = .ok (.slice (some ⟨b, 0, none⟩) 17 cap) w' ∧ OwnR w' b 17 cap (fun i => if i = 0 then v else 0) ∧ w.heap.size ≤ b ∧ w.grownBy w' none := by
  obtain ⟨i0, hi, hz, hsz, hby⟩ := info_parts info_u8
  have hold : (Builtin.firstCells i0.size 1 (.slice (some ⟨g, 0, none⟩) 1 1)).run Try.prog w.drew = .ok #[.int .u8 v] w.drew := by
    rw [hsz]
    refine run_firstCells_some w.drew 1 1 ⟨g, 0, none⟩ 1 1 [.int .u8 v] (by simp) (fun j u hj => ?_)
    have hj' : j < 1 := by
      have := (List.getElem?_eq_some_iff.1 hj).1
      simpa using this
    obtain rfl : j = 0 := by omega
    cases hj
    rw [Addr.add_mid]
    exact h.cell 0 (by omega)
  have hn : ¬ (1 + 16 ≤ 1) := by omega
  have hnx := nextslicecap_le (need := 17) (old := 1) (by omega)
  have h48' : ¬ (281474976710656 < Builtin.nextslicecap 17 1 * i0.bytes) := by rw [hby]; omega
  have htn : Try.prog.underlying 3 = some (.int .i64) := by kernel_rfl
  have hcg := grownCap_ge w 17 1 5
  have hr : (Builtin.append_ #[22, 3] 22 #[.slice (some ⟨g, 0, none⟩) 1 1, .int .i64 16]).run Try.prog w = .ok (.slice (some ⟨w.heap.size, 0, none⟩) 17 (grownCap w 17 1 5)) (w.drew.alloc (.cells (#[.int .u8 v] ++ Builtin.zeroCells (Value.cells (.int .u8 0)) 16 ++ Builtin.zeroCells (Value.cells (.int .u8 0)) (grownCap w 17 1 5 - 17)) 5)) := by
    have hw : IntKind.i64.wrap 16 = 16 := by decide
    have h63 : ¬ (9223372036854775807 < 1 + max (16 : Int) 0) := by decide
    rw [hsz] at hold
    rw [hby, Nat.mul_one] at h48'
    simp [Builtin.append_, h63, h48', run_underlying under_bytes, run_underlying htn, sizeOf, typeInfo, zeroValue, hi, hz, asInt, asIntOf, hw, hsz, hby, Question.forced, hold, newRow, grownCap]
    done
  generalize grownCap w 17 1 5 = cap at *
  have hb := heap_alloc_new w.drew (.cells (#[.int .u8 v] ++ Builtin.zeroCells (Value.cells (.int .u8 0)) 16 ++ Builtin.zeroCells (Value.cells (.int .u8 0)) (cap - 17)) 5)
  have hb' : w.drew.heap.size = w.heap.size := rfl
  rw [hb'] at hb
  refine ⟨w.heap.size, cap, _, hr, ⟨fun i hi2 => ?_, fun i hi2 => ?_, fun i => frozen_of_row _ _ _ _ _ hb, hcg, by simp [hb']⟩, Nat.le_refl _, grown_alloc (grown_drew (grown_refl w none)) _⟩
  · rw [cell_of_row _ _ _ _ _ _ hb, Array.getElem?_append_left (by simp [size_zeroCells, Value.cells]; omega)]
    by_cases e : i = 0
    · subst e
      rw [Array.getElem?_append_left (by simp)]
      rfl
    · obtain ⟨j, rfl⟩ : ∃ j, i = j + 1 := ⟨i - 1, by omega⟩
      rw [Array.getElem?_append_right (by simp), if_neg e]
      have hj : j < 16 := by omega
      simp [Builtin.zeroCells, Value.cells, hj, Nat.mod_one]
  · rw [cell_of_row _ _ _ _ _ _ hb, Array.getElem?_eq_getElem (by
      rw [Array.size_append, Array.size_append, size_zeroCells, size_zeroCells]
      simp [Value.cells]; omega)]
    rfl
def SV.busy : SV := { SV.zero with k := 4 }
theorem busy_ok : SV.busy.Ok := ⟨by decide, fun _ => Nat.succ_pos _, by decide, by decide, by decide, fun _ => Nat.succ_pos _, by decide, fun _ => Nat.succ_pos _, by decide⟩
theorem busy_may : SV.busy.mayC = true := by decide
theorem busy_cells : SV.busy.cells = #[.int .u8 4, .int .u8 0, .int .u8 0, .int .u8 0, .int .u8 0, .int .u8 0, .int .u8 0, .int .u8 0, .int .u8 0, .int .u8 0, .int .u8 0, .int .u8 0, .int .u8 0, .int .u8 0, .int .u8 0, .int .u8 0, .int .u8 0, .int .u8 0, .int .u8 0, .int .u8 0, .int .u8 0, .int .u8 0, .int .u8 0, .int .u8 0, .int .u8 0, .int .u8 0, .int .u8 0, .int .u8 0, .int .u8 0, .int .u8 0, .int .u8 0, .int .u8 0, .int .u8 0, .int .u8 0, .int .u8 0, .int .u8 0, .int .u8 0, .int .u8 0, .int .u8 0, .int .u8 0, .int .u8 0, .int .u8 0, .int .u8 0, .int .u8 0, .int .u8 0, .int .u8 0, .int .u8 0, .int .u8 0, .int .u8 0, .int .u8 0, .int .u8 0, .int .u8 0, .int .u32 0, .slice none 0 0, .int .u8 0] := by kernel_rfl
/-- A signal is put, and taken. -/
theorem works_any (w : World) : Calls Try.prog 8 #[] w fun e w' => e = .returned (.bool true) ∧ w.grownBy w' none := by
  have hp := sgPut_yes 0 SV.busy w busy_may (by decide) (rd_none _ _ _)
  rw [busy_cells] at hp
  have HP := Lib.hid hp
  clear hp
  go_enter Try.func8, Try.ntmps8
  go_wp2_with fail
  go_at_call 7
  refine HP.out.mono ?_
  rintro e w1 ⟨⟨a1, c1, rfl, hO1⟩, hg1⟩
  have hO1' : OwnN w1 w.heap.size (.slice a1 17 c1) 17 SV.busy.bytesF := hO1
  have hbn : SV.busy.bytesN = 17 := rfl
  rw [hbn]
  obtain ⟨a1', c1', e1, hc1, hR1⟩ := hO1'.rd
  cases e1
  obtain ⟨tb1, o1, rfl, htb1, hcl1⟩ := hR1.ex (by omega)
  have hk1 : w1.cell? ⟨tb1, o1, none⟩ = some (.int .u8 4) := hcl1 0 (by omega)
  have ga := World.grownBy_alloc w1 (.cells #[.int .u8 4] 5) none
  have hOa : OwnR (w1.alloc (.cells #[.int .u8 4] 5)) w1.heap.size 1 1 (fun _ => 4) := by
    rcases (ownN_one w1 4 w1.heap.size (Nat.le_refl _)).ex with ⟨h, _⟩ | ⟨g, cap, h, h2, _⟩
    · cases h
    · cases h; exact h2
  obtain ⟨b2, c2, w2, hap, hO2, hb2, hg2⟩ := app_zeros16 hOa
  have HAP := Lib.hid hap
  have hg12 := grown_trans ga hg2
  have hT := sgTake_any w2.heap.size 17 c2 (some ⟨b2, 0, none⟩) (fun i => if i = 0 then 4 else 0) w2 hO2.rd (fun i => by split <;> decide) (by decide)
  obtain ⟨y, hy, hl⟩ := put_taken busy_ok busy_may (L := 17) (F := fun i => if i = 0 then 4 else 0) rfl (fun i hi => by
    have : ∀ j, j < 17 → (if j = 0 then 4 else 0) = SV.busy.bytesF j := by decide
    exact this i hi)
  have HT := Lib.hid hT
  have HY := Lib.hid hy
  have HK := Lib.hid (hl.k.trans (show SV.busy.k = 4 from rfl))
  have hk2 := hg12.cell hk1 (by simp)
  have HG := Lib.hid (grown_trans hg1 hg12)
  clear hT hy hl hap hOa hO2 hb2 hg2 ga hg1 hg12 hO1 hO1' hR1 hcl1 htb1 hc1 hbn HP hk1
  go_wp2_with (at_builtin; refine Lib.wpList_append_run _ rfl (.tmp 11) (.const (.int .i64 16)) 22 3 rfl _ _ rfl rfl _ _ HAP.out ?_)
  go_at_call 9
  refine HT.out.mono ?_
  rintro e w3 ⟨_, hyes, hg3⟩
  obtain ⟨ad, cd, rfl, _⟩ := hyes y HY.out
  have hk3 := hg3.cell hk2 (by simp)
  have hbk := heap_alloc_new w3 (.cells #[.int .u8 0, .int .u8 0, .int .u8 0, .int .u8 0, .int .u8 0, .int .u8 0, .int .u8 0, .int .u8 0, .int .u8 0, .int .u8 0, .int .u8 0, .int .u8 0, .int .u8 0, .int .u8 0, .int .u8 0, .int .u8 0, .int .u8 0, .int .u8 0, .int .u8 0, .int .u8 0, .int .u8 0, .int .u8 0, .int .u8 0, .int .u8 0, .int .u8 0, .int .u8 0, .int .u8 0, .int .u8 0, .int .u8 0, .int .u8 0, .int .u8 0, .int .u8 0, .int .u8 0, .int .u8 0, .int .u8 0, .int .u8 0, .int .u8 0, .int .u8 0, .int .u8 0, .int .u8 0, .int .u8 0, .int .u8 0, .int .u8 0, .int .u8 0, .int .u8 0, .int .u8 0, .int .u8 0, .int .u8 0, .int .u8 0, .int .u8 0, .int .u8 0, .int .u8 0, .int .u32 0, .slice none 0 0, .int .u8 0] 34)
  have gB := World.grownBy_alloc w3 (.cells #[.int .u8 0, .int .u8 0, .int .u8 0, .int .u8 0, .int .u8 0, .int .u8 0, .int .u8 0, .int .u8 0, .int .u8 0, .int .u8 0, .int .u8 0, .int .u8 0, .int .u8 0, .int .u8 0, .int .u8 0, .int .u8 0, .int .u8 0, .int .u8 0, .int .u8 0, .int .u8 0, .int .u8 0, .int .u8 0, .int .u8 0, .int .u8 0, .int .u8 0, .int .u8 0, .int .u8 0, .int .u8 0, .int .u8 0, .int .u8 0, .int .u8 0, .int .u8 0, .int .u8 0, .int .u8 0, .int .u8 0, .int .u8 0, .int .u8 0, .int .u8 0, .int .u8 0, .int .u8 0, .int .u8 0, .int .u8 0, .int .u8 0, .int .u8 0, .int .u8 0, .int .u8 0, .int .u8 0, .int .u8 0, .int .u8 0, .int .u8 0, .int .u8 0, .int .u8 0, .int .u32 0, .slice none 0 0, .int .u8 0] 34) none
  have gS := grown_setRow_new gB w3.heap.size (y.withData ad cd).cells (Or.inl (Nat.le_refl _))
  have hk4 := gS.cell hk3 (by simp)
  have hS : SAt ((w3.alloc (.cells #[.int .u8 0, .int .u8 0, .int .u8 0, .int .u8 0, .int .u8 0, .int .u8 0, .int .u8 0, .int .u8 0, .int .u8 0, .int .u8 0, .int .u8 0, .int .u8 0, .int .u8 0, .int .u8 0, .int .u8 0, .int .u8 0, .int .u8 0, .int .u8 0, .int .u8 0, .int .u8 0, .int .u8 0, .int .u8 0, .int .u8 0, .int .u8 0, .int .u8 0, .int .u8 0, .int .u8 0, .int .u8 0, .int .u8 0, .int .u8 0, .int .u8 0, .int .u8 0, .int .u8 0, .int .u8 0, .int .u8 0, .int .u8 0, .int .u8 0, .int .u8 0, .int .u8 0, .int .u8 0, .int .u8 0, .int .u8 0, .int .u8 0, .int .u8 0, .int .u8 0, .int .u8 0, .int .u8 0, .int .u8 0, .int .u8 0, .int .u8 0, .int .u8 0, .int .u8 0, .int .u32 0, .slice none 0 0, .int .u8 0] 34)).setRow w3.heap.size (y.withData ad cd).cells) w3.heap.size (y.withData ad cd) := ⟨setRow_heap _ _ _ _ _ _ hbk⟩
  have hkk : ((w3.alloc (.cells #[.int .u8 0, .int .u8 0, .int .u8 0, .int .u8 0, .int .u8 0, .int .u8 0, .int .u8 0, .int .u8 0, .int .u8 0, .int .u8 0, .int .u8 0, .int .u8 0, .int .u8 0, .int .u8 0, .int .u8 0, .int .u8 0, .int .u8 0, .int .u8 0, .int .u8 0, .int .u8 0, .int .u8 0, .int .u8 0, .int .u8 0, .int .u8 0, .int .u8 0, .int .u8 0, .int .u8 0, .int .u8 0, .int .u8 0, .int .u8 0, .int .u8 0, .int .u8 0, .int .u8 0, .int .u8 0, .int .u8 0, .int .u8 0, .int .u8 0, .int .u8 0, .int .u8 0, .int .u8 0, .int .u8 0, .int .u8 0, .int .u8 0, .int .u8 0, .int .u8 0, .int .u8 0, .int .u8 0, .int .u8 0, .int .u8 0, .int .u8 0, .int .u8 0, .int .u8 0, .int .u32 0, .slice none 0 0, .int .u8 0] 34)).setRow w3.heap.size (y.withData ad cd).cells).cell? ⟨w3.heap.size, 0, none⟩ = some (.int .u8 4) := hS.cells.k.trans (by rw [show (y.withData ad cd).k = 4 from HK.out]; rfl)
  have HGS := Lib.hid (grown_trans (grown_trans HG.out hg3) gS)
  clear hyes hg3 gB gS hS hk2 hk3 HT HAP
  go_upto_region 3 with (first | ((with_reducible refine wpList_here ?_); refine wpList_store_row rfl 34 (.tmp 3) (.tmp 14) rfl w3.heap.size (y.withData ad cd).cells rfl (by kernel_rfl) 34 _ hbk (by rw [SV.size]; kernel_rfl) (by rw [SV.size]; rfl) (SV.allV _) ?_))
  clear hbk
  try simp only [Act.put]
  generalize (w3.alloc (.cells #[.int .u8 0, .int .u8 0, .int .u8 0, .int .u8 0, .int .u8 0, .int .u8 0, .int .u8 0, .int .u8 0, .int .u8 0, .int .u8 0, .int .u8 0, .int .u8 0, .int .u8 0, .int .u8 0, .int .u8 0, .int .u8 0, .int .u8 0, .int .u8 0, .int .u8 0, .int .u8 0, .int .u8 0, .int .u8 0, .int .u8 0, .int .u8 0, .int .u8 0, .int .u8 0, .int .u8 0, .int .u8 0, .int .u8 0, .int .u8 0, .int .u8 0, .int .u8 0, .int .u8 0, .int .u8 0, .int .u8 0, .int .u8 0, .int .u8 0, .int .u8 0, .int .u8 0, .int .u8 0, .int .u8 0, .int .u8 0, .int .u8 0, .int .u8 0, .int .u8 0, .int .u8 0, .int .u8 0, .int .u8 0, .int .u8 0, .int .u8 0, .int .u8 0, .int .u8 0, .int .u32 0, .slice none 0 0, .int .u8 0] 34)).setRow w3.heap.size (y.withData ad cd).cells = w4 at *
  go_wp2_with fail
  go_ret
  exact ⟨rfl, HGS.out⟩
end Go.Proofs.Ytpddgiflljlpbaa
namespace Go.Proofs.Ytpddgiflljlpbaa
open Go.RowKit

set_option maxRecDepth 100000
set_option maxHeartbeats 4000000

theorem SV.Ok.zero : SV.zero.Ok := ⟨Nat.succ_pos _, fun _ => Nat.succ_pos _, Nat.succ_pos _, Nat.succ_pos _, Nat.succ_pos _, fun _ => Nat.succ_pos _, Nat.succ_pos _, fun _ => Nat.succ_pos _, Nat.succ_pos _⟩
theorem num_ltI (L : Nat) (F : Nat → Nat) (s : ISt) (n : Nat) (hF : ∀ i, F i < 256) : s.num L F n < 256 ^ n := ISt.num_lt L F s n hF
theorem over_lt {N : Nat} {f g : Nat → Nat} (h1 : ∀ i, f i < 256) (h2 : ∀ i, g i < 256) (i : Nat) : over N f g i < 256 := by
  unfold over
  split
  · exact h1 _
  · exact h2 _
theorem first_ok {L : Nat} {F : Nat → Nat} (hF : ∀ i, F i < 256) : (SV.first L F).Ok :=
  ⟨num_ltI L F _ 1 hF, fun i => over_lt (f := fun i => F ((rs1 L).off + i)) (g := fun _ => 0) (fun _ => hF _) (fun _ => by decide) i, Nat.succ_pos _, Nat.succ_pos _, Nat.succ_pos _, fun _ => Nat.succ_pos _, Nat.succ_pos _, fun _ => Nat.succ_pos _, Nat.succ_pos _⟩
/-- What is taken has bytes for its numbers. -/
theorem takes_ok {L : Nat} {F : Nat → Nat} (hF : ∀ i, F i < 256) {y : SV} (h : SV.takes L F = some y) : y.Ok := by
  have hf := first_ok (L := L) hF
  have fin : ∀ (s : ISt) (z : SV), z.Ok → SV.fin L s z = some y → y.Ok := fun s z hz e => by
    unfold SV.fin at e
    split at e
    · cases e; exact hz
    · cases e
  unfold SV.takes at h
  split at h
  · refine fin _ _ ?_ h
    exact ⟨hf.k, hf.id, num_ltI L F _ 1 hF, num_ltI L F _ 1 hF, num_ltI L F _ 1 hF, fun i => over_lt (fun _ => hF _) hf.key i, hf.n, hf.fd, hf.rs⟩
  split at h
  · refine fin _ _ ?_ h
    exact ⟨hf.k, hf.id, hf.ac, hf.dv, hf.ce, fun i => over_lt (fun _ => hF _) hf.key i, hf.n, hf.fd, hf.rs⟩
  split at h
  · refine fin _ _ ?_ h
    exact ⟨hf.k, hf.id, hf.ac, hf.dv, hf.ce, hf.key, num_ltI L F _ 4 hF, fun _ => hF _, hf.rs⟩
  split at h
  · refine fin _ _ ?_ h
    exact ⟨hf.k, hf.id, hf.ac, hf.dv, hf.ce, hf.key, hf.n, hf.fd, num_ltI L F _ 1 hF⟩
  split at h
  · exact fin _ _ hf h
  · cases h
theorem withData_ok {y : SV} (h : y.Ok) (a : Option Addr) (c : Nat) : (y.withData a c).Ok := ⟨h.k, h.id, h.ac, h.dv, h.ce, h.key, h.n, h.fd, h.rs⟩
theorem withD_ok {y : SV} (h : y.Ok) (a : Option Addr) (c : Nat) : (y.withD a c).Ok := ⟨h.k, h.id, h.ac, h.dv, h.ce, h.key, h.n, h.fd, h.rs⟩
theorem takesR_ok {L : Nat} {F : Nat → Nat} (hF : ∀ i, F i < 256) {y : SV} (h : SV.takesR L F = some y) : y.Ok := by
  unfold SV.takesR at h
  cases hs : SV.shape L F with
  | none => rw [hs] at h; cases h
  | some z =>
    rw [hs] at h
    have h2 : SV.may? z = some y := h
    unfold SV.may? at h2
    split at h2
    · cases h2
      unfold SV.shape at hs
      split at hs
      · cases hs
      split at hs
      · split at hs
        · cases hs; exact SV.Ok.ref1 hF
        · cases hs
      split at hs
      · split at hs
        · cases hs; exact SV.Ok.ref2 hF
        · cases hs
      split at hs
      · split at hs
        · cases hs; exact withD_ok (SV.Ok.ref3 hF L none 0) none 0
        · cases hs
      split at hs
      · split at hs
        · cases hs; exact SV.Ok.ref5 hF
        · cases hs
      split at hs
      · split at hs
        · cases hs; exact SV.Ok.ref0 hF
        · cases hs
      · cases hs
    · cases h2
/-- A signal that Take answered, in memory, with its bytes. -/
structure SigAt (w0 w : World) (B : Nat) (x : SV) : Prop where
  at_ : SAt w B x
  own : OwnN w w0.heap.size (.slice x.ad x.nd x.cd) x.nd x.fd
theorem SigAt.grown {w0 w w' : World} {B : Nat} {x : SV} (h : SigAt w0 w B x) (g : w.grownBy w' none) : SigAt w0 w' B x := ⟨h.at_.grown g (by simp), h.own.grown g⟩
theorem SigAt.rd {w0 w : World} {B : Nat} {x : SV} (h : SigAt w0 w B x) : Rd w w.heap.size x.ad x.nd x.fd := by
  obtain ⟨a, c, e, _, hR⟩ := h.own.rd
  cases e
  exact hR
/-- What Take answers, as a law uses it: whether a signal, and it. -/
structure TookL (w : World) (r : Option SV) (e : Ending) (w' : World) : Prop where
  ex : ∃ (x : SV) (q : Int), e = .returned (.tuple #[.agg x.cells, .int .i64 q]) ∧ OwnN w' w.heap.size (.slice x.ad x.nd x.cd) x.nd x.fd ∧ x.Ok ∧ ((r = none ∧ x = SV.zero ∧ q = 9) ∨ ∃ y, r = some y ∧ x.Like y ∧ q = 0)
  gr : w.grownBy w' none
theorem sgTakeL_any (D L c : Nat) (a : Option Addr) (F : Nat → Nat) (w : World) (hR : Rd w D a L F) (hF : ∀ i, F i < 256) (hL : L ≤ 2 ^ 46) : Calls Try.prog 9 #[.slice a L c] w (TookL w (SV.takes L F)) := by
  refine (sgTake_any D L c a F w hR hF hL).mono ?_
  rintro e w' ⟨hno, hyes, hg⟩
  cases ht : SV.takes L F with
  | none => exact ⟨⟨SV.zero, 9, hno ht, OwnN.nil _ _ _, SV.Ok.zero, Or.inl ⟨rfl, rfl, rfl⟩⟩, hg⟩
  | some y =>
    obtain ⟨ad, cd, e1, e2⟩ := hyes y ht
    exact ⟨⟨y.withData ad cd, 0, e1, e2, withData_ok (takes_ok hF ht) ad cd, Or.inr ⟨y, rfl, ⟨rfl, fun _ _ => rfl, rfl, rfl, rfl, fun _ _ => rfl, rfl, rfl, fun _ _ => rfl, rfl⟩, rfl⟩⟩, hg⟩
structure RTookL (w : World) (r : Option SV) (e : Ending) (w' : World) : Prop where
  ex : ∃ (x : SV) (q : Bool), e = .returned (.tuple #[.agg x.cells, .bool q]) ∧ OwnN w' w.heap.size (.slice x.ad x.nd x.cd) x.nd x.fd ∧ x.Ok ∧ ((r = none ∧ x = SV.zero ∧ q = false) ∨ ∃ y, r = some y ∧ x.Like y ∧ q = true)
  gr : w.grownBy w' none
theorem refSgTakeL_any (D L c : Nat) (a : Option Addr) (F : Nat → Nat) (w : World) (hR : Rd w D a L F) (hF : ∀ i, F i < 256) (hL : L ≤ 1048576) (hLc : L ≤ c) : Calls Try.prog 13 #[.slice a L c] w (RTookL w (SV.takesR L F)) := by
  refine (refSgTake_any D L c a F w hR hF hL hLc).mono ?_
  rintro e w' ⟨hno, hyes, hg⟩
  cases ht : SV.takesR L F with
  | none => exact ⟨⟨SV.zero, false, hno ht, OwnN.nil _ _ _, SV.Ok.zero, Or.inl ⟨rfl, rfl, rfl⟩⟩, hg⟩
  | some y =>
    obtain ⟨ad, cd, e1, e2⟩ := hyes y ht
    exact ⟨⟨y.withD ad cd, true, e1, e2, withD_ok (takesR_ok hF ht) ad cd, Or.inr ⟨y, rfl, ⟨rfl, fun _ _ => rfl, rfl, rfl, rfl, fun _ _ => rfl, rfl, rfl, fun _ _ => rfl, rfl⟩, rfl⟩⟩, hg⟩
/-- A signal is laid into a new block. -/
theorem sig_new (w0 w : World) (x : SV) (h : OwnN w w0.heap.size (.slice x.ad x.nd x.cd) x.nd x.fd) : SigAt w0 ((w.alloc (.cells #[.int .u8 0, .int .u8 0, .int .u8 0, .int .u8 0, .int .u8 0, .int .u8 0, .int .u8 0, .int .u8 0, .int .u8 0, .int .u8 0, .int .u8 0, .int .u8 0, .int .u8 0, .int .u8 0, .int .u8 0, .int .u8 0, .int .u8 0, .int .u8 0, .int .u8 0, .int .u8 0, .int .u8 0, .int .u8 0, .int .u8 0, .int .u8 0, .int .u8 0, .int .u8 0, .int .u8 0, .int .u8 0, .int .u8 0, .int .u8 0, .int .u8 0, .int .u8 0, .int .u8 0, .int .u8 0, .int .u8 0, .int .u8 0, .int .u8 0, .int .u8 0, .int .u8 0, .int .u8 0, .int .u8 0, .int .u8 0, .int .u8 0, .int .u8 0, .int .u8 0, .int .u8 0, .int .u8 0, .int .u8 0, .int .u8 0, .int .u8 0, .int .u8 0, .int .u8 0, .int .u32 0, .slice none 0 0, .int .u8 0] 34)).setRow w.heap.size x.cells) w.heap.size x :=
  ⟨⟨setRow_heap _ _ _ _ _ _ (heap_alloc_new w _)⟩, h.grown (grown_setRow_new (World.grownBy_alloc w _ none) _ _ (Or.inl (Nat.le_refl _)))⟩
theorem sig_grown (w : World) (x : SV) : w.grownBy ((w.alloc (.cells #[.int .u8 0, .int .u8 0, .int .u8 0, .int .u8 0, .int .u8 0, .int .u8 0, .int .u8 0, .int .u8 0, .int .u8 0, .int .u8 0, .int .u8 0, .int .u8 0, .int .u8 0, .int .u8 0, .int .u8 0, .int .u8 0, .int .u8 0, .int .u8 0, .int .u8 0, .int .u8 0, .int .u8 0, .int .u8 0, .int .u8 0, .int .u8 0, .int .u8 0, .int .u8 0, .int .u8 0, .int .u8 0, .int .u8 0, .int .u8 0, .int .u8 0, .int .u8 0, .int .u8 0, .int .u8 0, .int .u8 0, .int .u8 0, .int .u8 0, .int .u8 0, .int .u8 0, .int .u8 0, .int .u8 0, .int .u8 0, .int .u8 0, .int .u8 0, .int .u8 0, .int .u8 0, .int .u8 0, .int .u8 0, .int .u8 0, .int .u8 0, .int .u8 0, .int .u8 0, .int .u32 0, .slice none 0 0, .int .u8 0] 34)).setRow w.heap.size x.cells) none := grown_setRow_new (World.grownBy_alloc w _ none) _ _ (Or.inl (Nat.le_refl _))
theorem signTakes_any (n c : Nat) (a : Option Addr) (f : Nat → Nat) (w : World) (hR : Rd w w.heap.size a n f) (hc : n ≤ c) (hn : n ≤ 140737488355328) (hf : ∀ i, f i < 256) : Calls Try.prog 5 #[.slice a n c] w (SaysYes w) := by
  by_cases hbig : n ≤ 3000
  · have k1 : ¬ (3000 : Int) < (n : Int) := by omega
    have HN := Lib.hid hbig
    have HR := Lib.hid hR
    have HF := Lib.hid hf
    have HC := Lib.hid hc
    have ga := World.grownBy_alloc w (.cells #[] 5) none
    have ho := ownR_empty w
    have hz := World.size_alloc w (.cells #[] 5)
    obtain ⟨v', w1, hr, ⟨g, cap, rfl, q1, q2, q3, q4⟩⟩ := app_run c 22 ho (hR.grown ga (by simp)) (by omega)
    rw [Nat.zero_add] at hr q1
    have HAP := Lib.hid hr
    have hO1 : OwnR w1 g n cap f := q1.congr (fun i _ => by unfold cat; rw [if_neg (by omega)]; rfl)
    have hg1 : w.grownBy w1 none := grown_new ga q3 (Nat.le_refl _)
    have HG := Lib.hid (show w.heap.size ≤ g by omega)
    have HO1 := Lib.hid hO1
    have HG1 := Lib.hid hg1
    have HT := Lib.hid (sgTakeL_any w1.heap.size n cap (some ⟨g, 0, none⟩) f w1 hO1.rd hf (by omega))
    clear q1 q2 q3 q4 hr ho ga hO1 hg1 hR hf hbig hc hn hz
    go_enter Try.func5, Try.ntmps5
    go_wp2_with (at_builtin; refine wpList_append_run rfl (.tmp 13) (.tmp 14) 22 22 rfl _ _ _ _ rfl rfl HAP.out ?_)
    go_at_call 9
    refine HT.out.mono ?_
    rintro e w2 ⟨⟨x, qe, rfl, hown, hxo, hcase⟩, hg2⟩
    have hbk := heap_alloc_new w2 (.cells #[.int .u8 0, .int .u8 0, .int .u8 0, .int .u8 0, .int .u8 0, .int .u8 0, .int .u8 0, .int .u8 0, .int .u8 0, .int .u8 0, .int .u8 0, .int .u8 0, .int .u8 0, .int .u8 0, .int .u8 0, .int .u8 0, .int .u8 0, .int .u8 0, .int .u8 0, .int .u8 0, .int .u8 0, .int .u8 0, .int .u8 0, .int .u8 0, .int .u8 0, .int .u8 0, .int .u8 0, .int .u8 0, .int .u8 0, .int .u8 0, .int .u8 0, .int .u8 0, .int .u8 0, .int .u8 0, .int .u8 0, .int .u8 0, .int .u8 0, .int .u8 0, .int .u8 0, .int .u8 0, .int .u8 0, .int .u8 0, .int .u8 0, .int .u8 0, .int .u8 0, .int .u8 0, .int .u8 0, .int .u8 0, .int .u8 0, .int .u8 0, .int .u8 0, .int .u8 0, .int .u32 0, .slice none 0 0, .int .u8 0] 34)
    have HS3 := Lib.hid (sig_new w1 w2 x hown)
    have HG3 := Lib.hid (grown_trans hg2 (sig_grown w2 x))
    have HX := Lib.hid hxo
    have HCA := Lib.hid hcase
    have HB3 := Lib.hid hg2.size
    clear hown hxo hcase hg2 HT HAP k1
    go_upto_region 5 with (first | ((with_reducible refine wpList_here ?_); refine wpList_store_row rfl 34 (.tmp 4) (.tmp 19) rfl w2.heap.size x.cells rfl (by kernel_rfl) 34 _ hbk (by rw [SV.size]; kernel_rfl) (by rw [SV.size]; rfl) (SV.allV _) ?_))
    try simp only [Act.put]
    clear hbk
    generalize (w2.alloc (.cells #[.int .u8 0, .int .u8 0, .int .u8 0, .int .u8 0, .int .u8 0, .int .u8 0, .int .u8 0, .int .u8 0, .int .u8 0, .int .u8 0, .int .u8 0, .int .u8 0, .int .u8 0, .int .u8 0, .int .u8 0, .int .u8 0, .int .u8 0, .int .u8 0, .int .u8 0, .int .u8 0, .int .u8 0, .int .u8 0, .int .u8 0, .int .u8 0, .int .u8 0, .int .u8 0, .int .u8 0, .int .u8 0, .int .u8 0, .int .u8 0, .int .u8 0, .int .u8 0, .int .u8 0, .int .u8 0, .int .u8 0, .int .u8 0, .int .u8 0, .int .u8 0, .int .u8 0, .int .u8 0, .int .u8 0, .int .u8 0, .int .u8 0, .int .u8 0, .int .u8 0, .int .u8 0, .int .u8 0, .int .u8 0, .int .u8 0, .int .u8 0, .int .u8 0, .int .u8 0, .int .u32 0, .slice none 0 0, .int .u8 0] 34)).setRow w2.heap.size x.cells = w3 at *
    generalize w2.heap.size = B at *
    have hO3 := HO1.out.grown HG3.out (by simp)
    have HO3 := Lib.hid hO3
    clear hO3
    have HGW := Lib.hid (grown_trans HG1.out HG3.out)
    have HGB : Hid (g < B) := Lib.hid (by have := HO1.out.lt; have := HB3.out; omega)
    have HL := Lib.hid HO1.out.lt
    clear HB3
    go_wp2_with fail
    go_loopw [23] (fun u23 wr => ∃ (i : Nat) (h : Nat → Nat), i ≤ n ∧ u23 = .int .i64 i ∧ (∀ j, h j < 256) ∧ OwnR wr g n cap h ∧ w3.grownBy wr (some g)) (fun u23 _ => n - (intOf u23).toNat)
    case atStart => exact ⟨0, f, Nat.zero_le _, rfl, HF.out, HO3.out, grown_refl _ _⟩
    case round =>
      obtain ⟨i, h, hi, rfl, hh, hO, hgr⟩ := hrel
      by_cases hlt : i < n
      · have j1 : (i : Int) < (n : Int) := by omega
        have j2 : (i : Int) < 3000 := by have := HN.out; omega
        have c0 := hO.cell i hlt
        have f0 := hO.free i
        obtain ⟨q, hq⟩ : ∃ q, q = h i := ⟨_, rfl⟩
        rw [← hq] at c0
        have hq256 : q < 256 := by rw [hq]; exact hh i
        have hx := bits_xor_u8 q 255 hq256 (by decide)
        obtain ⟨z, hz⟩ : ∃ z, z = q ^^^ 255 := ⟨_, rfl⟩
        have hzl : z < 256 := by rw [hz]; exact Nat.xor_lt_two_pow (n := 8) hq256 (by decide)
        rw [← hz] at hx
        have hx' : bits .xor .u8 (q : Int) 255 = (z : Int) := hx
        have hO2 := hO.set i z hlt
        have hg2 := grown_setCell_new hgr ⟨g, i, none⟩ (.int .u8 (z : Nat)) (Or.inr rfl)
        have HI := Lib.hid hlt
        have HO2 := Lib.hid hO2
        have HG2 := Lib.hid hg2
        have HHH := Lib.hid (show ∀ j, upd h i z j < 256 from fun j => by
          by_cases e : j = i
          · subst e; rw [upd_same]; exact hzl
          · rw [upd_other _ _ _ _ e]; exact hh j)
        clear hO hgr hO2 hg2 hh hi hlt hq hz hx hq256 hzl
        go_wp2_with fail
        go_roundw
        case rel => exact ⟨i + 1, _, HI.out, rfl, HHH.out, HO2.out, HG2.out⟩
        case measure =>
          have := HI.out
          simp [intOf]
          try omega
      · obtain rfl : i = n := by omega
        have HGR := Lib.hid hgr
        clear hO hgr hh hi hlt
        have hRw : Rd wr w.heap.size a i f := (HR.out.grown HGW.out (by simp)).grown HGR.out (fun k e => by cases e; exact HG.out)
        have HRT := Lib.hid (refSgTakeL_any w.heap.size i c a f wr hRw HF.out (by have := HN.out; omega) HC.out)
        have HS4 : Hid (SigAt w1 wr B x) := Lib.hid ⟨HS3.out.at_.grown HGR.out (by have := HGB.out; simp; omega), HS3.out.own.setOld HGR.out HL.out⟩
        have HG4 := Lib.hid (grown_new HGW.out HGR.out HG.out)
        clear hRw
        go_upto_region 10 with fail
        go_wp2_with fail
        go_at_call 13
        refine HRT.out.mono ?_
        rintro e w5 ⟨⟨y, qo, rfl, hown, hyo, hcase⟩, hg5⟩
        have hbk := heap_alloc_new w5 (.cells #[.int .u8 0, .int .u8 0, .int .u8 0, .int .u8 0, .int .u8 0, .int .u8 0, .int .u8 0, .int .u8 0, .int .u8 0, .int .u8 0, .int .u8 0, .int .u8 0, .int .u8 0, .int .u8 0, .int .u8 0, .int .u8 0, .int .u8 0, .int .u8 0, .int .u8 0, .int .u8 0, .int .u8 0, .int .u8 0, .int .u8 0, .int .u8 0, .int .u8 0, .int .u8 0, .int .u8 0, .int .u8 0, .int .u8 0, .int .u8 0, .int .u8 0, .int .u8 0, .int .u8 0, .int .u8 0, .int .u8 0, .int .u8 0, .int .u8 0, .int .u8 0, .int .u8 0, .int .u8 0, .int .u8 0, .int .u8 0, .int .u8 0, .int .u8 0, .int .u8 0, .int .u8 0, .int .u8 0, .int .u8 0, .int .u8 0, .int .u8 0, .int .u8 0, .int .u8 0, .int .u32 0, .slice none 0 0, .int .u8 0] 34)
        have HS6 := Lib.hid (sig_new wr w5 y hown)
        have HX6 := Lib.hid (HS4.out.grown (grown_trans hg5 (sig_grown w5 y)))
        have HG6 := Lib.hid (grown_trans (grown_trans HG4.out hg5) (sig_grown w5 y))
        have HYO := Lib.hid hyo
        have HCY := Lib.hid hcase
        clear hown hyo hcase hg5 HRT
        go_upto_region 11 with (first | ((with_reducible refine wpList_here ?_); refine wpList_store_row rfl 34 (.tmp 7) (.tmp 36) rfl w5.heap.size y.cells rfl (by kernel_rfl) 34 _ hbk (by rw [SV.size]; kernel_rfl) (by rw [SV.size]; rfl) (SV.allV _) ?_))
        try simp only [Act.put]
        clear hbk
        generalize (w5.alloc (.cells #[.int .u8 0, .int .u8 0, .int .u8 0, .int .u8 0, .int .u8 0, .int .u8 0, .int .u8 0, .int .u8 0, .int .u8 0, .int .u8 0, .int .u8 0, .int .u8 0, .int .u8 0, .int .u8 0, .int .u8 0, .int .u8 0, .int .u8 0, .int .u8 0, .int .u8 0, .int .u8 0, .int .u8 0, .int .u8 0, .int .u8 0, .int .u8 0, .int .u8 0, .int .u8 0, .int .u8 0, .int .u8 0, .int .u8 0, .int .u8 0, .int .u8 0, .int .u8 0, .int .u8 0, .int .u8 0, .int .u8 0, .int .u8 0, .int .u8 0, .int .u8 0, .int .u8 0, .int .u8 0, .int .u8 0, .int .u8 0, .int .u8 0, .int .u8 0, .int .u8 0, .int .u8 0, .int .u8 0, .int .u8 0, .int .u8 0, .int .u8 0, .int .u8 0, .int .u8 0, .int .u32 0, .slice none 0 0, .int .u8 0] 34)).setRow w5.heap.size y.cells = w6 at *
        generalize w5.heap.size = B2 at *
        have l1 := HX6.out.at_.loads.all
        have l2 := HS6.out.at_.loads.all
        have hsame := sgSame_any w6.heap.size x y w6 HX.out HYO.out HX6.out.rd HS6.out.rd
        have hst : x.same y = true := by
          refine (SV.same_iff HX.out HYO.out).2 ?_
          rcases (takes_like i f).ex with ⟨e1, e2⟩ | ⟨y1, y2, e1, e2, e3⟩
          · rcases HCA.out with ⟨_, rfl, _⟩ | ⟨_, h1, _⟩
            · rcases HCY.out with ⟨_, rfl, _⟩ | ⟨_, h1, _⟩
              · exact SV.Like.refl _
              · rw [e2] at h1; cases h1
            · rw [e1] at h1; cases h1
          · rcases HCA.out with ⟨h1, _⟩ | ⟨z1, h1, h2, _⟩
            · rw [e1] at h1; cases h1
            · rcases HCY.out with ⟨h3, _⟩ | ⟨z2, h3, h4, _⟩
              · rw [e2] at h3; cases h3
              · rw [e1] at h1; rw [e2] at h3
                cases h1; cases h3
                exact (h2.trans e3).trans h4.symm
        rw [hst] at hsame
        have HSM := Lib.hid hsame
        have hqq : (qe = 9 ∧ qo = false) ∨ (qe = 0 ∧ qo = true) := by
          rcases (takes_like i f).ex with ⟨e1, e2⟩ | ⟨y1, y2, e1, e2, e3⟩
          · rcases HCA.out with ⟨_, _, q1⟩ | ⟨_, h1, _⟩
            · rcases HCY.out with ⟨_, _, q2⟩ | ⟨_, h1, _⟩
              · exact Or.inl ⟨q1, q2⟩
              · rw [e2] at h1; cases h1
            · rw [e1] at h1; cases h1
          · rcases HCA.out with ⟨h1, _⟩ | ⟨z1, h1, _, q1⟩
            · rw [e1] at h1; cases h1
            · rcases HCY.out with ⟨h3, _⟩ | ⟨z2, h3, _, q2⟩
              · rw [e2] at h3; cases h3
              · exact Or.inr ⟨q1, q2⟩
        clear hsame hst
        rcases hqq with ⟨rfl, rfl⟩ | ⟨rfl, rfl⟩
        · go_wp2_with (first | ((with_reducible refine wpList_here ?_); refine wpList_ld (p := .pointer (some ⟨B, 0, none⟩)) 4 ?_ ?_ ?_ l1 ?_; (· rfl); go_simp; (· kernel_rfl)) | ((with_reducible refine wpList_here ?_); refine wpList_ld (p := .pointer (some ⟨B2, 0, none⟩)) 7 ?_ ?_ ?_ l2 ?_; (· rfl); go_simp; (· kernel_rfl)))
          go_at_call 14
          refine HSM.out.mono ?_
          rintro e w7 ⟨rfl, hg7⟩
          have HG7 := Lib.hid (grown_trans HG6.out hg7)
          clear hg7 HSM l1 l2
          go_wp2_with fail
          go_at_call 8
          refine (works_any w7).mono ?_
          rintro e w8 ⟨rfl, hg8⟩
          have HG8 := Lib.hid (grown_trans HG7.out hg8)
          clear hg8
          go_wp2_with fail
          go_ret
          exact ⟨rfl, HG8.out⟩
        · go_wp2_with (first | ((with_reducible refine wpList_here ?_); refine wpList_ld (p := .pointer (some ⟨B, 0, none⟩)) 4 ?_ ?_ ?_ l1 ?_; (· rfl); go_simp; (· kernel_rfl)) | ((with_reducible refine wpList_here ?_); refine wpList_ld (p := .pointer (some ⟨B2, 0, none⟩)) 7 ?_ ?_ ?_ l2 ?_; (· rfl); go_simp; (· kernel_rfl)))
          go_at_call 14
          refine HSM.out.mono ?_
          rintro e w7 ⟨rfl, hg7⟩
          have HG7 := Lib.hid (grown_trans HG6.out hg7)
          clear hg7 HSM l1 l2
          go_wp2_with fail
          go_at_call 8
          refine (works_any w7).mono ?_
          rintro e w8 ⟨rfl, hg8⟩
          have HG8 := Lib.hid (grown_trans HG7.out hg8)
          clear hg8
          go_wp2_with fail
          go_ret
          exact ⟨rfl, HG8.out⟩
  · have k1 : (3000 : Int) < (n : Int) := by omega
    clear hbig hR hf hc hn
    go_enter Try.func5, Try.ntmps5
    go_wp2_with fail
    go_at_call 8
    refine (works_any w).mono ?_
    rintro e w5 ⟨rfl, hg5⟩
    have HG5 := Lib.hid hg5
    clear hg5
    go_wp2_with fail
    go_ret
    exact ⟨rfl, HG5.out⟩
end Go.Proofs.Ytpddgiflljlpbaa
namespace Go.Proofs.Ytpddgiflljlpbaa
open Go.RowKit

set_option maxRecDepth 100000
set_option maxHeartbeats 4000000

def SV.hang0 : SV := { SV.zero with k := 5 }
def SV.busyK : SV := { SV.zero with k := 4, key := fun i => if i = 0 then 1 else 0 }
def SV.candX (b : Nat) : SV := { SV.zero with k := 3, ad := some ⟨b, 0, none⟩, nd := 1, cd := 1, fd := fun _ => 120 }
theorem hang0_cells : SV.hang0.cells = #[.int .u8 5, .int .u8 0, .int .u8 0, .int .u8 0, .int .u8 0, .int .u8 0, .int .u8 0, .int .u8 0, .int .u8 0, .int .u8 0, .int .u8 0, .int .u8 0, .int .u8 0, .int .u8 0, .int .u8 0, .int .u8 0, .int .u8 0, .int .u8 0, .int .u8 0, .int .u8 0, .int .u8 0, .int .u8 0, .int .u8 0, .int .u8 0, .int .u8 0, .int .u8 0, .int .u8 0, .int .u8 0, .int .u8 0, .int .u8 0, .int .u8 0, .int .u8 0, .int .u8 0, .int .u8 0, .int .u8 0, .int .u8 0, .int .u8 0, .int .u8 0, .int .u8 0, .int .u8 0, .int .u8 0, .int .u8 0, .int .u8 0, .int .u8 0, .int .u8 0, .int .u8 0, .int .u8 0, .int .u8 0, .int .u8 0, .int .u8 0, .int .u8 0, .int .u8 0, .int .u32 0, .slice none 0 0, .int .u8 0] := by kernel_rfl
theorem busyK_cells : SV.busyK.cells = #[.int .u8 4, .int .u8 0, .int .u8 0, .int .u8 0, .int .u8 0, .int .u8 0, .int .u8 0, .int .u8 0, .int .u8 0, .int .u8 0, .int .u8 0, .int .u8 0, .int .u8 0, .int .u8 0, .int .u8 0, .int .u8 0, .int .u8 0, .int .u8 0, .int .u8 0, .int .u8 0, .int .u8 1, .int .u8 0, .int .u8 0, .int .u8 0, .int .u8 0, .int .u8 0, .int .u8 0, .int .u8 0, .int .u8 0, .int .u8 0, .int .u8 0, .int .u8 0, .int .u8 0, .int .u8 0, .int .u8 0, .int .u8 0, .int .u8 0, .int .u8 0, .int .u8 0, .int .u8 0, .int .u8 0, .int .u8 0, .int .u8 0, .int .u8 0, .int .u8 0, .int .u8 0, .int .u8 0, .int .u8 0, .int .u8 0, .int .u8 0, .int .u8 0, .int .u8 0, .int .u32 0, .slice none 0 0, .int .u8 0] := by kernel_rfl
theorem candX_cells (b : Nat) : (SV.candX b).cells = #[.int .u8 3, .int .u8 0, .int .u8 0, .int .u8 0, .int .u8 0, .int .u8 0, .int .u8 0, .int .u8 0, .int .u8 0, .int .u8 0, .int .u8 0, .int .u8 0, .int .u8 0, .int .u8 0, .int .u8 0, .int .u8 0, .int .u8 0, .int .u8 0, .int .u8 0, .int .u8 0, .int .u8 0, .int .u8 0, .int .u8 0, .int .u8 0, .int .u8 0, .int .u8 0, .int .u8 0, .int .u8 0, .int .u8 0, .int .u8 0, .int .u8 0, .int .u8 0, .int .u8 0, .int .u8 0, .int .u8 0, .int .u8 0, .int .u8 0, .int .u8 0, .int .u8 0, .int .u8 0, .int .u8 0, .int .u8 0, .int .u8 0, .int .u8 0, .int .u8 0, .int .u8 0, .int .u8 0, .int .u8 0, .int .u8 0, .int .u8 0, .int .u8 0, .int .u8 0, .int .u32 0, .slice (some ⟨b, 0, none⟩) 1 1, .int .u8 0] := by kernel_rfl
theorem hang0_may : SV.hang0.mayC = false := by decide
theorem busyK_may : SV.busyK.mayC = false := by decide
theorem candX_may (b : Nat) : (SV.candX b).mayC = true := by kernel_rfl
theorem candX_ok (b : Nat) : (SV.candX b).Ok := ⟨Nat.le_of_ble_eq_true rfl, fun _ => Nat.succ_pos _, Nat.succ_pos _, Nat.succ_pos _, Nat.succ_pos _, fun _ => Nat.succ_pos _, Nat.succ_pos _, fun _ => Nat.le_of_ble_eq_true rfl, Nat.succ_pos _⟩
theorem run_aheadK (a : Option Addr) (n c k : Nat) (hn : n ≤ c) (hk : k ≤ n) : ∀ w', (Instr.slice 22 (.slice a n c) none (some (.int .i64 (k : Int))) none).run Try.prog w' = .ok (.slice a k c) w' := fun w' => by
  have hT : Try.prog.underlying 22 = some (.slice (Try.prog.elem 22)) := by kernel_rfl
  have hE : ∀ w, (sizeOf (Try.prog.elem 22)).run Try.prog w = .ok 1 w := fun _ => by kernel_rfl
  rw [run_slice_h w' 22 a n c hT .i64 k (by omega) (by omega), hE w']
  cases a <;> simp [Result.andThen, sliced, Addr.add]
theorem bytesF_lt3 {x : SV} (h : x.Ok) (i : Nat) : x.bytesF i < 256 := by
  have c : ∀ (n : Nat) (f g : Nat → Nat), (∀ i, f i < 256) → (∀ i, g i < 256) → ∀ i, cat n f g i < 256 := fun n f g h1 h2 i => by
    unfold cat
    split
    · exact h1 _
    · exact h2 _
  have hd : ∀ i, x.hd i < 256 := c 1 _ _ (fun _ => h.k) h.id
  have h3 : ∀ i, three x.ac x.dv x.ce i < 256 := fun i => by
    unfold three
    split
    · exact h.ac
    split
    · exact h.dv
    · exact h.ce
  unfold SV.bytesF
  split
  · exact c _ _ _ (c _ _ _ hd h3) h.key i
  split
  · exact c _ _ _ hd h.key i
  split
  · exact c _ _ _ (c _ _ _ (c _ _ _ hd (fun _ => nbF_lt _ _ _)) (fun _ => nbF_lt _ _ _)) h.fd i
  split
  · exact c _ _ _ hd (fun _ => h.rs) i
  · exact hd i
theorem Rd.first2 {w : World} {D n k : Nat} {a : Option Addr} {f : Nat → Nat} (h : Rd w D a n f) (hk : k ≤ n) : Rd w D a k f := ⟨fun h0 => by
  obtain ⟨tb, o, h1, h2, h3⟩ := h.ex (by omega)
  exact ⟨tb, o, h1, h2, fun i hi => h3 i (by omega)⟩⟩
theorem signKnown_any (w : World) : Calls Try.prog 3 #[] w (SaysYes w) := by
  have HP1 : Hid (Calls Try.prog 7 #[.agg #[.int .u8 5, .int .u8 0, .int .u8 0, .int .u8 0, .int .u8 0, .int .u8 0, .int .u8 0, .int .u8 0, .int .u8 0, .int .u8 0, .int .u8 0, .int .u8 0, .int .u8 0, .int .u8 0, .int .u8 0, .int .u8 0, .int .u8 0, .int .u8 0, .int .u8 0, .int .u8 0, .int .u8 0, .int .u8 0, .int .u8 0, .int .u8 0, .int .u8 0, .int .u8 0, .int .u8 0, .int .u8 0, .int .u8 0, .int .u8 0, .int .u8 0, .int .u8 0, .int .u8 0, .int .u8 0, .int .u8 0, .int .u8 0, .int .u8 0, .int .u8 0, .int .u8 0, .int .u8 0, .int .u8 0, .int .u8 0, .int .u8 0, .int .u8 0, .int .u8 0, .int .u8 0, .int .u8 0, .int .u8 0, .int .u8 0, .int .u8 0, .int .u8 0, .int .u8 0, .int .u32 0, .slice none 0 0, .int .u8 0]] w (PutNo w)) := Lib.hid (by
    have h := sgPut_no 0 SV.hang0 w hang0_may (Nat.succ_pos _) (rd_none _ _ _)
    rw [hang0_cells] at h
    exact h)
  go_enter Try.func3, Try.ntmps3
  go_wp2_with fail
  go_at_call 7
  refine HP1.out.mono ?_
  rintro e w1 ⟨⟨a1, c1, rfl, _⟩, hg1⟩
  have HG1 := Lib.hid hg1
  clear hg1 HP1
  have HP2 : Hid (Calls Try.prog 7 #[.agg #[.int .u8 4, .int .u8 0, .int .u8 0, .int .u8 0, .int .u8 0, .int .u8 0, .int .u8 0, .int .u8 0, .int .u8 0, .int .u8 0, .int .u8 0, .int .u8 0, .int .u8 0, .int .u8 0, .int .u8 0, .int .u8 0, .int .u8 0, .int .u8 0, .int .u8 0, .int .u8 0, .int .u8 1, .int .u8 0, .int .u8 0, .int .u8 0, .int .u8 0, .int .u8 0, .int .u8 0, .int .u8 0, .int .u8 0, .int .u8 0, .int .u8 0, .int .u8 0, .int .u8 0, .int .u8 0, .int .u8 0, .int .u8 0, .int .u8 0, .int .u8 0, .int .u8 0, .int .u8 0, .int .u8 0, .int .u8 0, .int .u8 0, .int .u8 0, .int .u8 0, .int .u8 0, .int .u8 0, .int .u8 0, .int .u8 0, .int .u8 0, .int .u8 0, .int .u8 0, .int .u32 0, .slice none 0 0, .int .u8 0]] w1 (PutNo w1)) := Lib.hid (by
    have h := sgPut_no 0 SV.busyK w1 busyK_may (Nat.succ_pos _) (rd_none _ _ _)
    rw [busyK_cells] at h
    exact h)
  go_wp2_with fail
  go_at_call 7
  refine HP2.out.mono ?_
  rintro e w2 ⟨⟨a2, c2, rfl, _⟩, hg2⟩
  have HG2 := Lib.hid (grown_trans HG1.out hg2)
  clear hg2 HP2
  have kc : (convert 22 22 (.slice (some ⟨w2.heap.size, 0, none⟩) 1 1)).run Try.prog (w2.alloc (.cells #[.int .u8 120] 5)) = .ok (.slice (some ⟨w2.heap.size, 0, none⟩) 1 1) (w2.alloc (.cells #[.int .u8 120] 5 (1, 2))) := Lib.run_convert_bytes_const (P := Try.prog) w2 22 5 #[.int .u8 120] 1 1 under_bytes (by kernel_rfl)
  have ga := World.grownBy_alloc w2 (.cells #[.int .u8 120] 5 (1, 2)) none
  have hrx : Rd (w2.alloc (.cells #[.int .u8 120] 5 (1, 2))) (w2.heap.size + 1) (some ⟨w2.heap.size, 0, none⟩) 1 (fun _ => 120) := ⟨fun _ => ⟨w2.heap.size, 0, rfl, by omega, fun i hi => by
    obtain rfl : i = 0 := by omega
    rw [cell_of_row _ _ _ _ _ _ (heap_alloc_new w2 _)]; rfl⟩⟩
  have HGA := Lib.hid (grown_trans HG2.out ga)
  have HP3 : Hid (Calls Try.prog 7 #[.agg #[.int .u8 3, .int .u8 0, .int .u8 0, .int .u8 0, .int .u8 0, .int .u8 0, .int .u8 0, .int .u8 0, .int .u8 0, .int .u8 0, .int .u8 0, .int .u8 0, .int .u8 0, .int .u8 0, .int .u8 0, .int .u8 0, .int .u8 0, .int .u8 0, .int .u8 0, .int .u8 0, .int .u8 0, .int .u8 0, .int .u8 0, .int .u8 0, .int .u8 0, .int .u8 0, .int .u8 0, .int .u8 0, .int .u8 0, .int .u8 0, .int .u8 0, .int .u8 0, .int .u8 0, .int .u8 0, .int .u8 0, .int .u8 0, .int .u8 0, .int .u8 0, .int .u8 0, .int .u8 0, .int .u8 0, .int .u8 0, .int .u8 0, .int .u8 0, .int .u8 0, .int .u8 0, .int .u8 0, .int .u8 0, .int .u8 0, .int .u8 0, .int .u8 0, .int .u8 0, .int .u32 0, .slice (some ⟨w2.heap.size, 0, none⟩) 1 1, .int .u8 0]] (w2.alloc (.cells #[.int .u8 120] 5 (1, 2))) (PutYes (w2.alloc (.cells #[.int .u8 120] 5 (1, 2))) (SV.candX w2.heap.size))) := Lib.hid (by
    have h := sgPut_yes _ (SV.candX w2.heap.size) (w2.alloc (.cells #[.int .u8 120] 5 (1, 2))) (candX_may _) (Nat.succ_pos _) hrx
    rw [candX_cells] at h
    exact h)
  clear ga hrx
  go_wp2_with fail
  go_at_call 7
  refine HP3.out.mono ?_
  rintro e w3 ⟨⟨a3, c3, rfl, hO3⟩, hg3⟩
  have HG3 := Lib.hid (grown_trans HGA.out hg3)
  generalize hX : SV.candX w2.heap.size = X at *
  have hXN : X.bytesN = 24 := by rw [← hX]; rfl
  have hXo : X.Ok := by rw [← hX]; exact candX_ok _
  have hXm : X.mayC = true := by rw [← hX]; exact candX_may _
  rw [hXN] at hO3 ⊢
  obtain ⟨a', c', e1, hc3, hR3⟩ := hO3.rd
  cases e1
  have HN := Lib.hid (put_other hXo hXm (L := 21) (F := X.bytesF) (by omega) (fun i _ _ => rfl))
  have HR3 := Lib.hid hR3
  have HBF := Lib.hid (show ∀ i, X.bytesF i < 256 from fun i => bytesF_lt3 hXo i)
  have hsl0 := run_aheadK a3 24 c3 21 hc3 (by decide)
  have HSL : Hid (∀ w', (Instr.slice 22 (.slice a3 24 c3) none (some (.int .i64 21)) none).run Try.prog w' = .ok (.slice a3 21 c3) w') := hsl0
  clear hg3 hO3 hR3 hXo hXm hX hXN HP3 hc3 hsl0
  go_wp2_with fail
  go_at_call 8
  refine (works_any w3).mono ?_
  rintro e w4 ⟨rfl, hg4⟩
  have HG4 := Lib.hid (grown_trans HG3.out hg4)
  have HT := Lib.hid (sgTakeL_any _ 21 c3 a3 X.bytesF w4 ((HR3.out.grown hg4 (by simp)).first2 (by decide)) HBF.out (by decide))
  clear hg4
  go_upto_region 6 with fail
  have hsl := HSL.out
  go_wp2_with fail
  go_at_call 9
  refine HT.out.mono ?_
  rintro e w5 ⟨⟨t, q, rfl, _, _, hcase⟩, hg5⟩
  have hq : q = 9 := by
    rcases hcase with ⟨_, _, h⟩ | ⟨y, h1, _⟩
    · exact h
    · rw [HN.out] at h1; cases h1
  subst hq
  have hbk := heap_alloc_new w5 (.cells #[.int .u8 0, .int .u8 0, .int .u8 0, .int .u8 0, .int .u8 0, .int .u8 0, .int .u8 0, .int .u8 0, .int .u8 0, .int .u8 0, .int .u8 0, .int .u8 0, .int .u8 0, .int .u8 0, .int .u8 0, .int .u8 0, .int .u8 0, .int .u8 0, .int .u8 0, .int .u8 0, .int .u8 0, .int .u8 0, .int .u8 0, .int .u8 0, .int .u8 0, .int .u8 0, .int .u8 0, .int .u8 0, .int .u8 0, .int .u8 0, .int .u8 0, .int .u8 0, .int .u8 0, .int .u8 0, .int .u8 0, .int .u8 0, .int .u8 0, .int .u8 0, .int .u8 0, .int .u8 0, .int .u8 0, .int .u8 0, .int .u8 0, .int .u8 0, .int .u8 0, .int .u8 0, .int .u8 0, .int .u8 0, .int .u8 0, .int .u8 0, .int .u8 0, .int .u8 0, .int .u32 0, .slice none 0 0, .int .u8 0] 34)
  have HG6 := Lib.hid (grown_trans (grown_trans HG4.out hg5) (sig_grown w5 t))
  clear hcase hg5 HT hsl
  go_upto_region 7 with (first | ((with_reducible refine wpList_here ?_); refine wpList_store_row rfl 34 (.tmp 7) (.tmp 50) rfl w5.heap.size t.cells rfl (by kernel_rfl) 34 _ hbk (by rw [SV.size]; kernel_rfl) (by rw [SV.size]; rfl) (SV.allV _) ?_))
  try simp only [Act.put]
  clear hbk
  generalize (w5.alloc (.cells #[.int .u8 0, .int .u8 0, .int .u8 0, .int .u8 0, .int .u8 0, .int .u8 0, .int .u8 0, .int .u8 0, .int .u8 0, .int .u8 0, .int .u8 0, .int .u8 0, .int .u8 0, .int .u8 0, .int .u8 0, .int .u8 0, .int .u8 0, .int .u8 0, .int .u8 0, .int .u8 0, .int .u8 0, .int .u8 0, .int .u8 0, .int .u8 0, .int .u8 0, .int .u8 0, .int .u8 0, .int .u8 0, .int .u8 0, .int .u8 0, .int .u8 0, .int .u8 0, .int .u8 0, .int .u8 0, .int .u8 0, .int .u8 0, .int .u8 0, .int .u8 0, .int .u8 0, .int .u8 0, .int .u8 0, .int .u8 0, .int .u8 0, .int .u8 0, .int .u8 0, .int .u8 0, .int .u8 0, .int .u8 0, .int .u8 0, .int .u8 0, .int .u8 0, .int .u8 0, .int .u32 0, .slice none 0 0, .int .u8 0] 34)).setRow w5.heap.size t.cells = w6 at *
  go_wp2_with fail
  go_ret
  exact ⟨rfl, HG6.out⟩
end Go.Proofs.Ytpddgiflljlpbaa
namespace Go.Proofs.Ytpddgiflljlpbaa
open Go.ChangeShapes Go.WideShapes Go.ChangeAt Go.RowKit

theorem getElem?_of_take_drop {α : Type} (l : List α) (i : Nat) (x : α) (h : (l.drop i).take 1 = [x]) : l[i]? = some x := by
  have h1 : ((l.drop i).take 1)[0]? = some x := by rw [h]; rfl
  simpa using h1

/-- A table of numbers, read. -/
theorem ints_of_trod {H : Type} {enc : TypeId × Value → H} {P : Program} {w : World} {base : Nat} {spare : Nat → Bool} {held : Bool} {fuel : Nat} {t e : TypeId} {k : IntKind} {n : Nat} {cs : List Value} {d : DataW H} {ps : List MemPlace} (L : List Int)
    (ht : P.underlying t = some (.array n e)) (he : P.underlying e = some (.int k)) (hc : P.cellsOf e = 1) (hd : DataW.trod enc P w base spare held fuel t cs = some (d, ps)) (hx : d = .agg (L.map fun z => .lit (.int k z))) :
    ∀ i, i < n → cs[i]? = some (.int k (L.getD i 0)) := by
  subst hx
  obtain ⟨xs, m, rfl, hx, _, hn, hel⟩ := DataW.trod_array ht hd
  intro i hi
  have h1 := hel i hi
  rw [hc, Nat.mul_one] at h1
  have hxi : xs[i]? = some xs[i] := List.getElem?_eq_getElem (by omega)
  rw [hxi] at h1
  obtain ⟨q, e1, e2, _⟩ := DataW.trod_int he h1
  have h2 : L.map (fun z => (DataW.lit (.int k z) : DataW H)) = xs.map (·.1) := by
    have := congrArg Prod.fst hx
    simpa using this
  have h3 : (L.map (fun z => (DataW.lit (.int k z) : DataW H)))[i]? = some (.lit (.int k q)) := by
    rw [h2]; simp [hxi, e2]
  have h4 : L[i]? = some q := by
    rw [List.getElem?_map] at h3
    cases hL : L[i]? with
    | none => rw [hL] at h3; cases h3
    | some z => rw [hL] at h3; simpa using h3
  rw [List.getD, h4]
  exact getElem?_of_take_drop cs i _ e1

theorem own : ownKnob Try.prog.godebug = none := by kernel_rfl
theorem laidOut : laidOutB Try.prog = true := by kernel_rfl

end Go.Proofs.Ytpddgiflljlpbaa
namespace Go.Proofs.Ytpddgiflljlpbaa
open Go.ChangeShapes Go.WideShapes Go.ChangeAt Go.RowKit

section
variable {H : Type} {enc : TypeId × Value → H} {P : Program}

theorem open_arr8 {W : World} {t e : TypeId} {n : Nat} {r : Reach} {b0 : Nat} {v : Value} {d : DataW H} {ps : List MemPlace} (ht : P.underlying t = some (.array n e)) (he : P.underlying e = some (.int .u8)) (hc : P.cellsOf e = 1) (hn : P.cellsOf t = n)
    (hval : Value.okWide P W r b0 t v) (h : DataW.Trod enc P W 0 (fun _ => true) true t v d ps) : ∃ f, v = .agg (cellsOf .u8 n f) ∧ ∀ i, f i < 256 := by
  have hv := hval
  simp only [Value.okWide, ht] at hv
  obtain ⟨cs, rfl, hs, _⟩ := hv
  obtain ⟨fuel, hf⟩ := h
  obtain ⟨xs, m, rfl, _, hl, _, hel⟩ := DataW.trod_array ht hf
  have key : ∀ i, i < n → ∃ q : Nat, q < 256 ∧ cs[i]? = some (.int .u8 q) := fun i hi => by
    have h1 := hel i hi
    rw [hc, Nat.mul_one] at h1
    cases hx : xs[i]? with
    | none =>
      rw [hx] at h1
      have hlen : i < cs.toList.length := by
        have : cs.size = n := by rw [hs, hn]
        simp [this]; exact hi
      exfalso
      rename_i hxl
      have : xs.length ≤ i := by simpa using hx
      omega
    | some x =>
      rw [hx] at h1
      obtain ⟨q, e1, _, hw⟩ := DataW.trod_int he h1
      have h2 := getElem?_of_take_drop _ i _ e1
      simp [Lit.wf, IntKind.min, IntKind.max, IntKind.bits, IntKind.signed] at hw
      refine ⟨q.toNat, by omega, ?_⟩
      have e2 : ((q.toNat : Nat) : Int) = q := by omega
      rw [e2]
      simpa [Value.cells] using h2
  refine ⟨fun i => (match cs[i]? with | some (.int _ q) => q.toNat | _ => 0) % 256, ?_, fun i => Nat.mod_lt _ (by decide)⟩
  congr 1
  apply Array.ext
  · rw [cellsOf_size, hs, hn]
  · intro i h1 h2
    have hi : i < n := by rwa [hs, hn] at h1
    obtain ⟨q, hq, hcq⟩ := key i hi
    have e1 := cellsOf_get .u8 n (fun i => (match cs[i]? with | some (.int _ q) => q.toNat | _ => 0) % 256) i hi
    rw [Array.getElem?_eq_getElem h2] at e1
    rw [Array.getElem?_eq_getElem h1] at hcq
    injection e1 with e1
    injection hcq with hcq'
    rw [e1, hcq']
    simp only [Array.getElem?_eq_getElem h1, hcq']
    congr 1
    simp; omega

/-- A byte that comes in. -/
theorem open_u8 {W : World} {t : TypeId} {r : Reach} {b0 : Nat} {v : Value} {d : DataW H} {ps : List MemPlace} (ht : P.underlying t = some (.int .u8))
    (hval : Value.okWide P W r b0 t v) (h : DataW.Trod enc P W 0 (fun _ => true) true t v d ps) : ∃ n : Nat, v = .int .u8 n ∧ n < 256 := by
  obtain ⟨x, rfl, _, _, hx⟩ := open_int ht hval h
  simp [Lit.wf, IntKind.min, IntKind.max, IntKind.bits, IntKind.signed] at hx
  exact ⟨x.toNat, by rw [show ((x.toNat : Nat) : Int) = x by omega], by omega⟩

end
end Go.Proofs.Ytpddgiflljlpbaa
namespace Go.Proofs.Ytpddgiflljlpbaa
open Go.ChangeShapes Go.WideShapes Go.ChangeAt Go.RowKit

set_option maxRecDepth 100000

section
variable {H : Type} {enc : TypeId × Value → H} {P : Program}
theorem at_drop {cs : List Value} {i : Nat} {v : Value} (h : (cs.drop i).take 1 = [v]) : cs[i]? = some v := getElem?_of_take_drop _ i _ h
/-- A slice of numbers, out of its cell. -/
theorem open_numsW {W : World} {t e : TypeId} {k : IntKind} {fuel : Nat} {cs : List Value} {x : DataW H × List MemPlace} (ht : P.underlying t = some (.slice e)) (he : P.underlying e = some (.int k)) (hc : P.cellsOf e = 1) (h0 : (Lit.int k 0).wf = true) (hby : 1 ≤ P.bytesOf e)
    (h : DataW.trod enc P W 0 (fun _ => true) true fuel t cs = some x) (hw : ∀ y, y ∈ x.1.weights P t → y ≤ reachBytes) :
    ∃ (a : Option Addr) (n c : Nat) (z : Nat → Int), cs = [.slice a n c] ∧ n ≤ 140737488355328 ∧ (∀ i, (Lit.int k (z i)).wf = true) ∧
      (0 < n → ∃ tb o, a = some ⟨tb, o, none⟩ ∧ tb < W.heap.size ∧ ∀ i, i < n → W.cell? ⟨tb, o + i, none⟩ = some (.int k (z i))) := by
  rcases open_ints ht he hc h with ⟨h1, _⟩ | ⟨a, len, cap, zs, h1, _, hlc, _, hzl, hx, hcell, hwf⟩
  · exact ⟨none, 0, 0, fun _ => 0, h1, Nat.zero_le _, fun _ => h0, fun h => absurd h (by omega)⟩
  · have hzl' : len ≤ zs.length := by rw [hzl]; simp [hlc]
    refine ⟨some a, len, cap, fun i => zs.getD i 0, h1, ?_, fun i => ?_, fun hn => ?_⟩
    · have := hw ((min len zs.length + (zs.length - len)) * P.bytesOf e) (by
        rw [hx]
        unfold DataW.weights
        rw [ht]
        refine List.mem_cons.2 (Or.inl ?_)
        simp [lits])
      have h2 : (min len zs.length + (zs.length - len)) * 1 ≤ (min len zs.length + (zs.length - len)) * P.bytesOf e := Nat.mul_le_mul_left _ hby
      unfold reachBytes at this
      omega
    · show (Lit.int k (zs.getD i 0)).wf = true
      by_cases hi : i < zs.length
      · have e1 : zs.getD i 0 = zs[i] := by simp [List.getD, List.getElem?_eq_getElem hi]
        rw [e1]
        exact hwf zs[i] (List.getElem_mem hi)
      · have e1 : zs.getD i 0 = 0 := by simp [List.getD, List.getElem?_eq_none (Nat.le_of_not_lt hi)]
        rw [e1]; exact h0
    · have h0' := hcell 0 (by omega)
      have hspot : a.spot = none := by simpa [Addr.add] using World.cell?_spot h0'
      obtain ⟨tb, o, sp⟩ := a
      simp only at hspot
      subst hspot
      refine ⟨tb, o, rfl, ?_, fun i hi => ?_⟩
      · have := World.block_lt_of_cell? W _ h0'
        simpa [Addr.add] using this
      · have h1 := hcell i (by omega)
        rw [Addr.add_mid] at h1
        exact h1
/-- Bytes that come in, and how many. -/
theorem open_bytesW {W : World} {t e : TypeId} {r : Reach} {b0 : Nat} {v : Value} {d : DataW H} {ps : List MemPlace} (ht : P.underlying t = some (.slice e)) (he : P.underlying e = some (.int .u8)) (hc : P.cellsOf e = 1) (hby : 1 ≤ P.bytesOf e)
    (hval : Value.okWide P W r b0 t v) (h : DataW.Trod enc P W 0 (fun _ => true) true t v d ps) (hw : ∀ y, y ∈ d.weights P t → y ≤ reachBytes) :
    ∃ a n c f, v = .slice a n c ∧ n ≤ c ∧ n ≤ 140737488355328 ∧ Rd W W.heap.size a n f ∧ ∀ i, f i < 256 := by
  obtain ⟨a0, len, cap, rfl⟩ := okWide_slice ht hval
  obtain ⟨fuel, hf⟩ := h
  obtain ⟨a, n, c, z, h1, hb, hwf, hcell⟩ := open_numsW ht he hc (by rfl) hby hf hw
  simp [Value.cells] at h1
  obtain ⟨rfl, rfl, rfl⟩ := h1
  have hlc : len ≤ cap := by
    rcases open_ints ht he hc hf with ⟨h2, _⟩ | ⟨_, _, _, _, h2, _, h3, _⟩
    · simp [Value.cells] at h2
      omega
    · simp [Value.cells] at h2
      omega
  have wb : ∀ i, 0 ≤ z i ∧ z i < 256 := fun i => by have := hwf i; simp [Lit.wf, IntKind.min, IntKind.max, IntKind.bits, IntKind.signed] at this; omega
  refine ⟨a0, len, cap, fun i => (z i).toNat, rfl, hlc, hb, ⟨fun hn => ?_⟩, fun i => by have := wb i; show (z i).toNat < 256; omega⟩
  obtain ⟨tb, o, e1, e2, e3⟩ := hcell hn
  refine ⟨tb, o, e1, e2, fun i hi => ?_⟩
  have := wb i
  rw [e3 i hi]
  show some (Value.int .u8 (z i)) = some (Value.int .u8 (((z i).toNat : Nat) : Int))
  rw [show (((z i).toNat : Nat) : Int) = z i by omega]
end
end Go.Proofs.Ytpddgiflljlpbaa
namespace Go.Proofs.Ytpddgiflljlpbaa
open Go.ChangeShapes Go.WideShapes Go.ChangeAt Go.RowKit

set_option maxRecDepth 100000
set_option maxHeartbeats 4000000

section
variable {H : Type} {enc : TypeId × Value → H} {P : Program}
theorem trod_struct8 {W : World} {base : Nat} {spare : Nat → Bool} {held : Bool} {t : TypeId} {f0 f1 f2 f3 f4 f5 f6 f7 : Field} {fuel : Nat} {cs : List Value} {x : DataW H × List MemPlace} (ht : P.underlying t = some (.struct #[f0, f1, f2, f3, f4, f5, f6, f7])) (h : DataW.trod enc P W base spare held fuel t cs = some x) :
    ∃ y0 y1 y2 y3 y4 y5 y6 y7 n, x.1 = .agg [y0.1, y1.1, y2.1, y3.1, y4.1, y5.1, y6.1, y7.1] ∧ DataW.trod enc P W base spare held n f0.type ((cs.drop f0.offset).take (P.cellsOf f0.type)) = some y0 ∧
      DataW.trod enc P W base spare held n f1.type ((cs.drop f1.offset).take (P.cellsOf f1.type)) = some y1 ∧ DataW.trod enc P W base spare held n f2.type ((cs.drop f2.offset).take (P.cellsOf f2.type)) = some y2 ∧
      DataW.trod enc P W base spare held n f3.type ((cs.drop f3.offset).take (P.cellsOf f3.type)) = some y3 ∧ DataW.trod enc P W base spare held n f4.type ((cs.drop f4.offset).take (P.cellsOf f4.type)) = some y4 ∧
      DataW.trod enc P W base spare held n f5.type ((cs.drop f5.offset).take (P.cellsOf f5.type)) = some y5 ∧ DataW.trod enc P W base spare held n f6.type ((cs.drop f6.offset).take (P.cellsOf f6.type)) = some y6 ∧
      DataW.trod enc P W base spare held n f7.type ((cs.drop f7.offset).take (P.cellsOf f7.type)) = some y7 := by
  obtain ⟨xs, n, _, rfl, hl, hlen, hf⟩ := DataW.trod_struct ht h
  match xs, hlen with
  | [y0, y1, y2, y3, y4, y5, y6, y7], _ => exact ⟨y0, y1, y2, y3, y4, y5, y6, y7, n, by simp, by simpa using hf 0 f0 rfl, by simpa using hf 1 f1 rfl, by simpa using hf 2 f2 rfl, by simpa using hf 3 f3 rfl, by simpa using hf 4 f4 rfl, by simpa using hf 5 f5 rfl, by simpa using hf 6 f6 rfl, by simpa using hf 7 f7 rfl⟩
/-- An array of bytes among cells. -/
theorem trod_arr8 {W : World} {t e : TypeId} {n o fuel : Nat} {cs : List Value} {x : DataW H × List MemPlace} (ht : P.underlying t = some (.array n e)) (he : P.underlying e = some (.int .u8)) (hc : P.cellsOf e = 1)
    (h : DataW.trod enc P W 0 (fun _ => true) true fuel t ((cs.drop o).take n) = some x) : ∃ f : Nat → Nat, (∀ i, f i < 256) ∧ ∀ i, i < n → cs[o + i]? = some (.int .u8 (f i)) := by
  obtain ⟨xs, m, rfl, _, _, hxl, hel⟩ := DataW.trod_array ht h
  have key : ∀ i, i < n → ∃ q : Nat, q < 256 ∧ cs[o + i]? = some (.int .u8 q) := fun i hi => by
    have h1 := hel i hi
    rw [hc, Nat.mul_one] at h1
    have hx : ∃ y, xs[i]? = some y := ⟨xs[i]'(by omega), List.getElem?_eq_getElem (by omega)⟩
    obtain ⟨y, hx⟩ := hx
    rw [hx] at h1
    obtain ⟨q, e1, _, hw⟩ := DataW.trod_int he h1
    have h2 := getElem?_of_take_drop _ i _ e1
    simp [Lit.wf, IntKind.min, IntKind.max, IntKind.bits, IntKind.signed] at hw
    refine ⟨q.toNat, by omega, ?_⟩
    have e2 : ((q.toNat : Nat) : Int) = q := by omega
    rw [e2, ← h2, List.getElem?_take, if_pos hi, List.getElem?_drop]
  refine ⟨fun i => (match cs[o + i]? with | some (.int _ q) => q.toNat | _ => 0) % 256, fun i => Nat.mod_lt _ (by decide), fun i hi => ?_⟩
  obtain ⟨q, hq, hcq⟩ := key i hi
  have e : (match cs[o + i]? with | some (.int _ q) => q.toNat | _ => 0) = q := by rw [hcq]; rfl
  show cs[o + i]? = some (.int .u8 (((match cs[o + i]? with | some (.int _ q) => q.toNat | _ => 0) % 256 : Nat) : Int))
  rw [e, Nat.mod_eq_of_lt hq]
  exact hcq
end
/-- A signal's cells, one by one. -/
theorem SV.cell_id (x : SV) (j : Nat) (hj : j < 16) : x.cells[1 + j]? = some (.int .u8 (x.id j)) := by
  unfold SV.cells
  rw [List.getElem?_toArray, Nat.add_comm, List.getElem?_cons_succ, List.getElem?_append_left (by simpa using hj)]
  simp [hj]
theorem SV.cell_key (x : SV) (j : Nat) (hj : j < 32) : x.cells[20 + j]? = some (.int .u8 (x.key j)) := by
  unfold SV.cells
  rw [List.getElem?_toArray, show 20 + j = (16 + (j + 3)) + 1 by omega, List.getElem?_cons_succ, List.getElem?_append_right (by simp), show 16 + (j + 3) - (List.map (fun i => Value.int .u8 (x.id i)) (List.range 16)).length = j + 3 by simp, List.getElem?_cons_succ, List.getElem?_cons_succ, List.getElem?_cons_succ, List.getElem?_append_left (by simpa using hj)]
  simp [hj]
theorem nat_of_u8 {q : Int} (h : (Lit.int .u8 q).wf = true) : ∃ n : Nat, q = (n : Int) ∧ n < 256 := by
  simp [Lit.wf, IntKind.min, IntKind.max, IntKind.bits, IntKind.signed] at h
  exact ⟨q.toNat, by omega, by omega⟩
theorem nat_of_u32 {q : Int} (h : (Lit.int .u32 q).wf = true) : ∃ n : Nat, q = (n : Int) ∧ n < 4294967296 := by
  simp [Lit.wf, IntKind.min, IntKind.max, IntKind.bits, IntKind.signed] at h
  exact ⟨q.toNat, by omega, by omega⟩
theorem open_sig {H : Type} {enc : TypeId × Value → H} {W : World} {v : Value} {d : DataW H} {ps : List MemPlace} {r : Reach} {b0 : Nat}
    (hval : Value.okWide Try.prog W r b0 34 v) (h : DataW.Trod enc Try.prog W 0 (fun _ => true) true 34 v d ps) (hw : ∀ y, y ∈ d.weights Try.prog 34 → y ≤ reachBytes) :
    ∃ x : SV, v = .agg x.cells ∧ x.Ok ∧ Rd W W.heap.size x.ad x.nd x.fd ∧ x.nd ≤ 140737488355328 := by
  have hu := Try.underlying34
  have hv := hval
  simp only [Value.okWide, hu] at hv
  obtain ⟨cs, rfl, hs, _⟩ := hv
  have hsz : cs.size = 55 := by rw [hs]; kernel_rfl
  obtain ⟨fuel, hf⟩ := h
  obtain ⟨y0, y1, y2, y3, y4, y5, y6, y7, n, hx, q0, q1, q2, q3, q4, q5, q6, q7⟩ := trod_struct8 hu hf
  have hx' : d = .agg [y0.1, y1.1, y2.1, y3.1, y4.1, y5.1, y6.1, y7.1] := hx
  have hwx : d.weights Try.prog 34 = DataW.weightsEach Try.prog [5, 27, 29, 5, 31, 32, 22, 5] [y0.1, y1.1, y2.1, y3.1, y4.1, y5.1, y6.1, y7.1] := by
    rw [hx']
    conv => lhs; unfold DataW.weights
    rw [hu]
    rfl
  rw [hwx] at hw
  have q0 : DataW.trod enc Try.prog W 0 (fun _ => true) true n 5 ((cs.toList.drop 0).take 1) = some y0 := q0
  have q1 : DataW.trod enc Try.prog W 0 (fun _ => true) true n 27 ((cs.toList.drop 1).take 16) = some y1 := q1
  have q2 : DataW.trod enc Try.prog W 0 (fun _ => true) true n 29 ((cs.toList.drop 17).take 2) = some y2 := q2
  have q3 : DataW.trod enc Try.prog W 0 (fun _ => true) true n 5 ((cs.toList.drop 19).take 1) = some y3 := q3
  have q4 : DataW.trod enc Try.prog W 0 (fun _ => true) true n 31 ((cs.toList.drop 20).take 32) = some y4 := q4
  have q5 : DataW.trod enc Try.prog W 0 (fun _ => true) true n 32 ((cs.toList.drop 52).take 1) = some y5 := q5
  have q6 : DataW.trod enc Try.prog W 0 (fun _ => true) true n 22 ((cs.toList.drop 53).take 1) = some y6 := q6
  have q7 : DataW.trod enc Try.prog W 0 (fun _ => true) true n 5 ((cs.toList.drop 54).take 1) = some y7 := q7
  have h8 := Try.underlying5
  have c8 : Try.prog.cellsOf 5 = 1 := by kernel_rfl
  obtain ⟨k0, r0, _, w0⟩ := DataW.trod_int h8 q0
  obtain ⟨fid, hid, r1⟩ := trod_arr8 (t := 27) (n := 16) (e := 5) (by kernel_rfl) h8 c8 q1
  obtain ⟨z0, z1, m, hz, hzl, s0, s1⟩ := trod_struct2 Try.underlying29 q2
  have s0 : DataW.trod enc Try.prog W 0 (fun _ => true) true m 5 ((((cs.toList.drop 17).take 2).drop 0).take 1) = some z0 := s0
  have s1 : DataW.trod enc Try.prog W 0 (fun _ => true) true m 5 ((((cs.toList.drop 17).take 2).drop 1).take 1) = some z1 := s1
  obtain ⟨k1, t1, _, w1⟩ := DataW.trod_int h8 s0
  obtain ⟨k2, t2, _, w2⟩ := DataW.trod_int h8 s1
  obtain ⟨k3, r3, _, w3⟩ := DataW.trod_int h8 q3
  obtain ⟨fkey, hkey, r4⟩ := trod_arr8 (t := 31) (n := 32) (e := 5) (by kernel_rfl) h8 c8 q4
  obtain ⟨k5, r5, _, w5⟩ := DataW.trod_int Try.underlying32 q5
  obtain ⟨a6, n6, c6, z6, r6, l6, w6, hR⟩ := open_numsW (t := 22) (e := 5) under_bytes h8 c8 (by rfl) (by rw [show Try.prog.bytesOf 5 = 1 by kernel_rfl]; decide) q6 (fun y hy => hw y (by
    simp only [DataW.weightsEach, List.mem_append]
    exact Or.inr (Or.inr (Or.inr (Or.inr (Or.inr (Or.inr (Or.inl hy))))))))
  obtain ⟨k7, r7, _, w7⟩ := DataW.trod_int h8 q7
  obtain ⟨k0, rfl, b0'⟩ := nat_of_u8 w0
  obtain ⟨k1, rfl, b1⟩ := nat_of_u8 w1
  obtain ⟨k2, rfl, b2⟩ := nat_of_u8 w2
  obtain ⟨k3, rfl, b3⟩ := nat_of_u8 w3
  obtain ⟨k5, rfl, b5⟩ := nat_of_u32 w5
  obtain ⟨k7, rfl, b7⟩ := nat_of_u8 w7
  have g0 : cs.toList[0]? = some (.int .u8 k0) := at_drop r0
  have g17 : cs.toList[17]? = some (.int .u8 k1) := by
    have := at_drop t1
    rwa [List.getElem?_take, if_pos (by omega), List.getElem?_drop] at this
  have g18 : cs.toList[18]? = some (.int .u8 k2) := by
    have := at_drop t2
    rwa [List.getElem?_take, if_pos (by omega), List.getElem?_drop] at this
  have g19 : cs.toList[19]? = some (.int .u8 k3) := at_drop r3
  have g52 : cs.toList[52]? = some (.int .u32 k5) := at_drop r5
  have g53 : cs.toList[53]? = some (.slice a6 n6 c6) := at_drop r6
  have g54 : cs.toList[54]? = some (.int .u8 k7) := at_drop r7
  have wb : ∀ i, ∃ q : Nat, z6 i = (q : Int) ∧ q < 256 := fun i => nat_of_u8 (w6 i)
  refine ⟨⟨k0, fid, k1, k2, k3, fkey, k5, a6, n6, c6, fun i => (z6 i).toNat, k7⟩, ?_, ⟨b0', hid, b1, b2, b3, hkey, b5, fun i => ?_, b7⟩, ⟨fun hn => ?_⟩, l6⟩
  · congr 1
    apply Array.ext
    · rw [hsz, SV.size]
    · intro i h1 h2
      have hi : i < 55 := by omega
      have e1 : ∀ u, cs.toList[i]? = some u → (⟨k0, fid, k1, k2, k3, fkey, k5, a6, n6, c6, fun i => (z6 i).toNat, k7⟩ : SV).cells[i]? = some u → cs[i] = (⟨k0, fid, k1, k2, k3, fkey, k5, a6, n6, c6, fun i => (z6 i).toNat, k7⟩ : SV).cells[i] := fun u p q => by
        rw [Array.getElem?_toList, Array.getElem?_eq_getElem h1] at p
        rw [Array.getElem?_eq_getElem h2] at q
        exact (Option.some.inj p).trans (Option.some.inj q).symm
      by_cases i0 : i = 0
      · subst i0; exact e1 _ g0 rfl
      by_cases i1 : i < 17
      · obtain ⟨j, rfl⟩ : ∃ j, i = 1 + j := ⟨i - 1, by omega⟩
        exact e1 _ (r1 j (by omega)) (SV.cell_id _ j (by omega))
      by_cases i17 : i = 17
      · subst i17; exact e1 _ g17 rfl
      by_cases i18 : i = 18
      · subst i18; exact e1 _ g18 rfl
      by_cases i19 : i = 19
      · subst i19; exact e1 _ g19 rfl
      by_cases i20 : i < 52
      · obtain ⟨j, rfl⟩ : ∃ j, i = 20 + j := ⟨i - 20, by omega⟩
        exact e1 _ (r4 j (by omega)) (SV.cell_key _ j (by omega))
      by_cases i52 : i = 52
      · subst i52; exact e1 _ g52 rfl
      by_cases i53 : i = 53
      · subst i53; exact e1 _ g53 rfl
      obtain rfl : i = 54 := by omega
      exact e1 _ g54 rfl
  · obtain ⟨q, e, hq⟩ := wb i
    show (z6 i).toNat < 256
    omega
  · obtain ⟨tb, o, e1, e2, e3⟩ := hR hn
    refine ⟨tb, o, e1, e2, fun i hi => ?_⟩
    obtain ⟨q, e, hq⟩ := wb i
    rw [e3 i hi]
    show some (Value.int .u8 (z6 i)) = some (Value.int .u8 (((z6 i).toNat : Nat) : Int))
    rw [show (((z6 i).toNat : Nat) : Int) = z6 i by omega]
end Go.Proofs.Ytpddgiflljlpbaa
namespace Go.Proofs.Ytpddgiflljlpbaa
open Go.ChangeShapes Go.WideShapes Go.ChangeAt Go.RowKit

set_option maxRecDepth 100000 in
theorem signKnown_lifted (os : Os) (started : os.Started) (H : Type) (enc : TypeId × Value → H) :
    ReturnsInHanded {} Try.checked os 3 .any (Rows.signKnownSpec.pre6 enc Try.prog Try.f3 Rows.signKnownRow.domain false) (Rows.signKnownSpec.post enc Try.prog Try.f3 false true false false) := by
  refine returnsInHanded_of_change_sized (C := Try.checked) own started (by kernel_rfl) Try.func3
    (ChangeSpec.witness6 (enc := enc) (C := Try.checked) false ⟨#[], #[], []⟩ 8 (by kernel_rfl) (by kernel_rfl) (by kernel_rfl) (by kernel_rfl)) ?_
  intro W base args ds gs before hval0 hW _ hwt _
  have hval : ∀ (j : Nat) t v, Try.f3.params[j]? = some t → args[j]? = some v → Value.okWide Try.prog W .any base t v := hval0
  have hW' := hW
  obtain ⟨p, q, hA0, hV, rfl, _, _⟩ := hW
  have hA : DataW.TrodAll enc Try.prog W 0 (fun _ => true) true Try.f3.params.toList args.toList ds p := hA0
  have hwt' : (DataW.weightsEach Try.prog (Try.f3.params.toList ++ Rows.signKnownSpec.plain.varTypes Try.prog) (ds ++ gs)).all (· ≤ reachBytes) = true := hwt
  rw [Try.params3] at hA hval hwt'
  obtain ⟨hv0, rfl, rfl⟩ := trodAll_nil hA
  obtain ⟨l⟩ := args
  simp only at hv0
  subst hv0
  obtain ⟨rfl, rfl⟩ := trodVars_none hV
  clear hA0 hval0
  refine (signKnown_any W).mono fun e W' ⟨⟨he, hg⟩⟩ => ?_
  subst he
  exact ⟨_, rfl, law_post laidOut hW' rfl rfl (tb := 4) rfl Try.underlying4 (by
      rw [Try.params3]
      intro t ht
      simp at ht) hg⟩

theorem signKnown_holds : Rows.SignKnownSaid :=
  OpenClaim.holds_of_wide 3 Try.f3 rfl rfl rfl rfl rfl rfl rfl ⟨rfl, rfl, rfl, rfl, rfl⟩ rfl rfl rfl rfl rfl (by kernel_rfl) Try.func3 (by kernel_rfl)
    (of_decide_eq_true (by kernel_rfl)) (by unfold Func.isWrapper; first | (rw [if_pos (by decide +kernel)]; kernel_rfl) | (rw [if_neg (by decide +kernel)]; exact ⟨rfl, rfl⟩))
    (fun os started H enc _ => signKnown_lifted os started H enc)

end Go.Proofs.Ytpddgiflljlpbaa
