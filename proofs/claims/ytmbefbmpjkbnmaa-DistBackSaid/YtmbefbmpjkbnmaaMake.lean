/-
  A slice of bytes 0 that is made.
-/
import Derived.Test.YtmbefbmpjkbnmaaBytes
namespace Go.Proofs.Ytmbefbmpjkbnmaa
open Go.RowKit

theorem make_any (n : Nat) (hn : n < 2 ^ 40) (w : World) : ∃ c, (Instr.makeSlice 39 (.int .i64 n) (.int .i64 n)).run Try.prog w = .ok (.slice (some ⟨w.heap.size, 0, none⟩) n n) (w.alloc (.cells c 5)) ∧ Fill (w.alloc (.cells c 5)) w.heap.size n (fun _ => 0) := by
  obtain ⟨i0, hi, hz, hs, hby⟩ := info_parts info_u8
  have hr := run_make (P := Try.prog) w 39 5 i0 (.int .u8 0) (by kernel_rfl) hi hz .i64 .i64 n n (by omega) (Int.le_refl _) (by rw [hby]; omega) (by omega)
  rw [hs] at hr
  simp only [Int.toNat_natCast, Nat.mul_one] at hr
  have hb := heap_alloc_new w (.cells (madeCells (Value.cells (.int .u8 0)) n) 5)
  refine ⟨_, hr, ⟨fun i hi => ?_, fun i => frozen_of_row _ _ _ _ _ hb⟩⟩
  rw [cell_of_row _ _ _ _ _ _ hb]
  simp [madeCells, hi, Value.cells, Nat.mod_one]

theorem Fill.congr {w : World} {r N : Nat} {f g : Nat → Nat} (h : Fill w r N f) (e : ∀ i, i < N → f i = g i) : Fill w r N g := ⟨fun i hi => by rw [← e i hi]; exact h.cell i hi, h.free⟩
theorem Fill.drew {w : World} {r N : Nat} {f : Nat → Nat} (h : Fill w r N f) : Fill w.drew r N f := ⟨h.cell, h.free⟩
theorem Fill.rd {w : World} {r N : Nat} {f : Nat → Nat} (h : Fill w r N f) (hN : 0 < N) (L : Nat) (hL : L ≤ N) : Rd w w.heap.size (some ⟨r, 0, none⟩) L f :=
  ⟨fun _ => ⟨r, 0, rfl, h.lt hN, fun i hi => by rw [Nat.zero_add]; exact h.cell i (by omega)⟩⟩
theorem Fill.drewN {w : World} {r N : Nat} {f : Nat → Nat} (h : Fill w r N f) (n : Nat) : Fill (w.drewN n) r N f := ⟨h.cell, h.free⟩
theorem Rd.at0 {w : World} {B r L : Nat} {f : Nat → Nat} (h : Rd w B (some ⟨r, 0, none⟩) L f) (i : Nat) (hi : i < L) : w.cell? ⟨r, i, none⟩ = some (.int .u8 (f i)) := by
  obtain ⟨tb, o, e1, _, e2⟩ := h.ex (by omega)
  cases e1
  have := e2 i hi
  rw [Nat.zero_add] at this
  exact this

end Go.Proofs.Ytmbefbmpjkbnmaa
