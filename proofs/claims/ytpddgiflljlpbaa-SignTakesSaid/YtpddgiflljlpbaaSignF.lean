/-
  A signal as it lies in memory.
-/
import Derived.Test.YtpddgiflljlpbaaRefSign2
import Derived.Test.YtpddgiflljlpbaaEqArr
import Derived.Deep.MidRow
namespace Go.Proofs.Ytpddgiflljlpbaa
open Go.RowKit

set_option maxRecDepth 100000

/-- A signal: its kind, id, caller's account and device, callee, key, number, bytes, reason. -/
structure SV where
  k : Nat
  id : Nat → Nat
  ac : Nat
  dv : Nat
  ce : Nat
  key : Nat → Nat
  n : Nat
  ad : Option Addr
  nd : Nat
  cd : Nat
  fd : Nat → Nat
  rs : Nat
/-- Its cells. -/
def SV.cells (x : SV) : Array Value := (.int .u8 x.k :: ((List.range 16).map (fun i => Value.int .u8 (x.id i)) ++ (.int .u8 x.ac :: .int .u8 x.dv :: .int .u8 x.ce :: ((List.range 32).map (fun i => Value.int .u8 (x.key i)) ++ [.int .u32 x.n, .slice x.ad x.nd x.cd, .int .u8 x.rs])))).toArray
def SV.val (x : SV) : Value := .agg x.cells
theorem SV.size (x : SV) : x.cells.size = 55 := by simp [SV.cells]
/-- What is known of it. -/
structure SV.Ok (x : SV) : Prop where
  k : x.k < 256
  id : ∀ i, x.id i < 256
  ac : x.ac < 256
  dv : x.dv < 256
  ce : x.ce < 256
  key : ∀ i, x.key i < 256
  n : x.n < 4294967296
  fd : ∀ i, x.fd i < 256
  rs : x.rs < 256
/-- It lies there. -/
structure SAt (w : World) (B : Nat) (x : SV) : Prop where
  block : w.heap[B]? = some (.cells x.cells 34 (0, 0))
section
variable {w w' : World} {B : Nat} {x : SV}
theorem SAt.lt (h : SAt w B x) : B < w.heap.size := by
  have := h.block
  by_cases hlt : B < w.heap.size
  · exact hlt
  · rw [Array.getElem?_eq_none (by omega)] at this
    cases this
theorem SAt.grown (h : SAt w B x) {row : Option Nat} (hg : w.grownBy w' row) (hr : some B ≠ row) : SAt w' B x := ⟨(hg.block B h.lt hr).trans h.block⟩
theorem SAt.cell (h : SAt w B x) (j : Nat) : w.cell? ⟨B, j, none⟩ = x.cells[j]? := cell_of_row w B j _ _ (0, 0) h.block
theorem SAt.new (x : SV) (w : World) : SAt (w.alloc (.cells x.cells 34)) w.heap.size x := ⟨heap_alloc_new w _⟩
/-- Cells that the walk wants. -/
structure SCells (w : World) (B : Nat) (x : SV) : Prop where
  k : w.cell? ⟨B, 0, none⟩ = some (.int .u8 x.k)
  ac : w.cell? ⟨B, 17, none⟩ = some (.int .u8 x.ac)
  dv : w.cell? ⟨B, 18, none⟩ = some (.int .u8 x.dv)
  ce : w.cell? ⟨B, 19, none⟩ = some (.int .u8 x.ce)
  n : w.cell? ⟨B, 52, none⟩ = some (.int .u32 x.n)
  d : w.cell? ⟨B, 53, none⟩ = some (.slice x.ad x.nd x.cd)
  rs : w.cell? ⟨B, 54, none⟩ = some (.int .u8 x.rs)
theorem SAt.cells (h : SAt w B x) : SCells w B x := ⟨(h.cell 0).trans rfl, (h.cell 17).trans rfl, (h.cell 18).trans rfl, (h.cell 19).trans rfl, (h.cell 52).trans rfl, (h.cell 53).trans rfl, (h.cell 54).trans rfl⟩
theorem SAt.id (h : SAt w B x) (j : Nat) (hj : j < 16) : w.cell? ⟨B, 1 + j, none⟩ = some (.int .u8 (x.id j)) := by
  rw [h.cell]
  unfold SV.cells
  rw [List.getElem?_toArray, Nat.add_comm, List.getElem?_cons_succ, List.getElem?_append_left (by simpa using hj)]
  simp [hj]
theorem SAt.key (h : SAt w B x) (j : Nat) (hj : j < 32) : w.cell? ⟨B, 20 + j, none⟩ = some (.int .u8 (x.key j)) := by
  rw [h.cell]
  unfold SV.cells
  rw [List.getElem?_toArray, show 20 + j = (16 + (j + 3)) + 1 by omega, List.getElem?_cons_succ, List.getElem?_append_right (by simp), show 16 + (j + 3) - (List.map (fun i => Value.int .u8 (x.id i)) (List.range 16)).length = j + 3 by simp, List.getElem?_cons_succ, List.getElem?_cons_succ, List.getElem?_cons_succ, List.getElem?_append_left (by simpa using hj)]
  simp [hj]
/-- Its parts, loaded. -/
structure SLoads (w : World) (B : Nat) (x : SV) : Prop where
  id : (Instr.loadAt 27 (.pointer (some ⟨B, 1, none⟩))).run Try.prog w = .ok (.agg (cellsOf .u8 16 x.id)) w
  dev : (Instr.loadAt 29 (.pointer (some ⟨B, 17, none⟩))).run Try.prog w = .ok (.agg #[.int .u8 x.ac, .int .u8 x.dv]) w
  key : (Instr.loadAt 31 (.pointer (some ⟨B, 20, none⟩))).run Try.prog w = .ok (.agg (cellsOf .u8 32 x.key)) w
  all : (Instr.loadAt 34 (.pointer (some ⟨B, 0, none⟩))).run Try.prog w = .ok x.val w
theorem SAt.loads (h : SAt w B x) : SLoads w B x := by
  obtain ⟨d1, e1, k1⟩ := under_row (P := Try.prog) (T := 27) (by kernel_rfl)
  obtain ⟨d2, e2, k2⟩ := under_row (P := Try.prog) (T := 29) (by kernel_rfl)
  obtain ⟨d3, e3, k3⟩ := under_row (P := Try.prog) (T := 31) (by kernel_rfl)
  obtain ⟨d4, e4, k4⟩ := under_row (P := Try.prog) (T := 34) (by kernel_rfl)
  have c := h.cells
  refine ⟨?_, ?_, ?_, ?_⟩
  · have := run_loadAt_mid (P := Try.prog) w B 1 27 (cellsOf .u8 16 x.id).toList d1 (fun j v hv => by
      have hj : j < 16 := by
        have := (List.getElem?_eq_some_iff.1 hv).1
        simpa [cellsOf] using this
      rw [Array.getElem?_toList, cellsOf_get _ _ _ _ hj] at hv
      cases hv
      exact h.id j hj) e1 (by cases d1 <;> first | rfl | exact k1) (by kernel_rfl)
    simpa using this
  · exact run_loadAt_mid (P := Try.prog) w B 17 29 [.int .u8 x.ac, .int .u8 x.dv] d2 (fun j v hv => by
      match j, hv with
      | 0, hv => cases hv; exact c.ac
      | 1, hv => cases hv; exact c.dv) e2 (by cases d2 <;> first | rfl | exact k2) (by kernel_rfl)
  · have := run_loadAt_mid (P := Try.prog) w B 20 31 (cellsOf .u8 32 x.key).toList d3 (fun j v hv => by
      have hj : j < 32 := by
        have := (List.getElem?_eq_some_iff.1 hv).1
        simpa [cellsOf] using this
      rw [Array.getElem?_toList, cellsOf_get _ _ _ _ hj] at hv
      cases hv
      exact h.key j hj) e3 (by cases d3 <;> first | rfl | exact k3) (by kernel_rfl)
    simpa using this
  · have := run_loadAt_mid (P := Try.prog) w B 0 34 x.cells.toList d4 (fun j v hv => by
      rw [Nat.zero_add, h.cell]
      simpa using hv) e4 (by cases d4 <;> first | rfl | exact k4) (by rw [show x.cells.toList.length = 55 by rw [Array.length_toList, x.size]]; kernel_rfl)
    show (Instr.loadAt 34 (.pointer (some ⟨B, 0, none⟩))).run Try.prog w = .ok (.agg x.cells) w
    simpa using this
end
end Go.Proofs.Ytpddgiflljlpbaa
