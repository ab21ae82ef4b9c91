/-
  Parts of slices and arrays, as one operation.
-/
import Derived.Test.YtlfopcigbgfnlaaDoorCells
import Derived.Test.YtlfopcigbgfnlaaDoorGcmCopy
namespace Go.Proofs.YtlfopcigbgfnlaaDoor
open Go.RowKit

section
variable {o : Oper} {a : Act} {W : World} {ad : Option Addr} {len cap l : Nat}
theorem run_head (ad : Option Addr) (len cap l : Nat) (h1 : l ≤ cap) : ∀ w, (Instr.sliceAt 22 (.slice ad len cap) none (some (.int .i64 (l : Int))) none).run Tryd.prog w = .ok (.slice ad l cap) w := by
  have hT : Tryd.prog.underlying 22 = some (.slice 5) := by kernel_rfl
  have e2 : Tryd.prog.elem 22 = 5 := by simp [Program.elem, hT]
  have hT' : Tryd.prog.underlying 22 = some (.slice (Tryd.prog.elem 22)) := by rw [e2]; exact hT
  intro w
  have hE : (sizeOf 5).run Tryd.prog w = .ok 1 w := by kernel_rfl
  rw [run_sliceAt_slice w 22 _ _ _ _ hT', run_slice_h w 22 ad len cap hT' .i64 l (by omega) (by omega), e2, hE]
  cases ad <;> simp [Result.andThen, sliced, Addr.add]
theorem ex_head (t1 t2 : Tmp) (ho : o.op = .slice 22 (.tmp t1) none (some (.tmp t2)) none) (h1 : a.eval (.tmp t1) = .slice ad len cap) (h2 : a.eval (.tmp t2) = .int .i64 (l : Int)) (h : l ≤ cap) :
    (execOp a.eval o).run Tryd.prog W = .ok (.value (.slice ad l cap)) W := by
  have hr := run_head ad len cap l h W
  unfold execOp
  simp only [ho, h1, h2, Option.map_some, Option.map_none, Sem.run_bind, hr]
  rfl
theorem ex_rest {b p l' cap' : Nat} {ad' : Option Addr} (t1 t2 : Tmp) (ho : o.op = .slice 22 (.tmp t1) (some (.tmp t2)) none none) (h1 : a.eval (.tmp t1) = .slice (some ⟨b, p, none⟩) len cap) (h2 : a.eval (.tmp t2) = .int .i64 (l : Int))
    (hr : ∀ w, (Instr.sliceAt 22 (.slice (some ⟨b, p, none⟩) len cap) (some (.int .i64 (l : Int))) none none).run Tryd.prog w = .ok (.slice ad' l' cap') w) :
    (execOp a.eval o).run Tryd.prog W = .ok (.value (.slice ad' l' cap')) W := by
  have hr' := hr W
  unfold execOp
  simp only [ho, h1, h2, Option.map_some, Option.map_none, Sem.run_bind, hr']
  rfl
/-- The bytes behind the first l of those that can be read. -/
theorem rest_of {B : Nat} {g : Nat → Nat} (h : Rd W B ad len g) (hl : l < len) (hc : len ≤ cap) : ∃ b p, ad = some ⟨b, p, none⟩ ∧ ∃ ad', (∀ w, (Instr.sliceAt 22 (.slice ad len cap) (some (.int .i64 (l : Int))) none none).run Tryd.prog w = .ok (.slice ad' (len - l) (cap - l)) w) ∧ ∀ W', Rd W' B ad len g → Rd W' B ad' (len - l) (fun i => g (l + i)) := by
  obtain ⟨tb, p, rfl, htb, _⟩ := h.ex (by omega)
  obtain ⟨a2, ha2, ht1, _⟩ := run_rest (Q := Tryd.prog) (T := 22) (E := 5) (by kernel_rfl) (fun _ => by kernel_rfl) tb p len cap l (by omega) hc
  obtain rfl := ha2 hl
  refine ⟨tb, p, rfl, _, ht1, fun W' h' => ⟨fun _ => ⟨tb, p + l, rfl, htb, fun i hi => ?_⟩⟩⟩
  obtain ⟨tb', p', e, _, hc'⟩ := h'.ex (by omega)
  cases e
  rw [Nat.add_assoc]
  exact hc' (l + i) (by omega)
theorem Rd.head {B : Nat} {g : Nat → Nat} (h : Rd W B ad len g) (hl : l ≤ len) : Rd W B ad l g := ⟨fun h0 => by
  obtain ⟨tb, p, h1, h2, h3⟩ := h.ex (by omega)
  exact ⟨tb, p, h1, h2, fun i hi => h3 i (by omega)⟩⟩
theorem ex_headC (t1 : Tmp) (ho : o.op = .slice 22 (.tmp t1) none (some (.const (.int .i64 (l : Int)))) none) (h1 : a.eval (.tmp t1) = .slice ad len cap) (h : l ≤ cap) :
    (execOp a.eval o).run Tryd.prog W = .ok (.value (.slice ad l cap)) W := by
  have hr := run_head ad len cap l h W
  have hc : a.eval (.const (.int .i64 (l : Int))) = .int .i64 (l : Int) := rfl
  unfold execOp
  simp only [ho, h1, hc, Option.map_some, Option.map_none, Sem.run_bind, hr]
  rfl
theorem ex_restC {b p l' cap' : Nat} {ad' : Option Addr} (t1 : Tmp) (ho : o.op = .slice 22 (.tmp t1) (some (.const (.int .i64 (l : Int)))) none none) (h1 : a.eval (.tmp t1) = .slice (some ⟨b, p, none⟩) len cap)
    (hr : ∀ w, (Instr.sliceAt 22 (.slice (some ⟨b, p, none⟩) len cap) (some (.int .i64 (l : Int))) none none).run Tryd.prog w = .ok (.slice ad' l' cap') w) :
    (execOp a.eval o).run Tryd.prog W = .ok (.value (.slice ad' l' cap')) W := by
  have hr' := hr W
  have hc : a.eval (.const (.int .i64 (l : Int))) = .int .i64 (l : Int) := rfl
  unfold execOp
  simp only [ho, h1, hc, Option.map_some, Option.map_none, Sem.run_bind, hr']
  rfl
/-- All of an array. -/
theorem ex_all {B : Nat} (t : Tmp) (ho : o.op = .slice 24 (.tmp t) none none none) (h1 : a.eval (.tmp t) = .pointer (some ⟨B, 0, none⟩)) :
    (execOp a.eval o).run Tryd.prog W = .ok (.value (.slice (some ⟨B, 0, none⟩) 16 16)) W := by
  unfold execOp
  simp only [ho, h1]
  go_simp
end
end Go.Proofs.YtlfopcigbgfnlaaDoor
