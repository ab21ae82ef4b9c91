/-
  Blocks of words that may be written (made out of Fill's text); slices of words 0 that are made.
-/
import Derived.Test.YtpnddojcihdniaaOwnR
namespace Go.Proofs.Ytpnddojcihdniaa
open Go.RowKit

/-- N words at block r, that may be written. -/
structure FillU (w : World) (r N : Nat) (f : Nat → Nat) : Prop where
  cell : ∀ i, i < N → w.cell? ⟨r, i, none⟩ = some (.int .u64 (f i))
  free : ∀ i, w.frozen? ⟨r, i, none⟩ = false

theorem FillU.grown {w w' : World} {r N : Nat} {f : Nat → Nat} (h : FillU w r N f) (hN : 0 < N) {row : Option Nat} (g : w.grownBy w' row) (hr : some r ≠ row) : FillU w' r N f :=
  have e := g.block r (World.block_lt_of_cell? w _ (h.cell 0 hN)) hr
  ⟨fun i hi => (World.cell?_of_block (a := ⟨r, i, none⟩) e).trans (h.cell i hi), fun i => (World.frozen?_of_block (a := ⟨r, i, none⟩) e).trans (h.free i)⟩
theorem FillU.set {w : World} {r N : Nat} {f : Nat → Nat} (h : FillU w r N f) (i v : Nat) (hi : i < N) : FillU (w.setCell ⟨r, i, none⟩ (.int .u64 v)) r N (upd f i v) where
  cell := fun j hj => by
    by_cases e : j = i
    · subst e; rw [upd_same]; exact World.cell?_setCell_same w _ _ (h.cell j hj)
    · rw [upd_other _ _ _ _ e]; exact cell_set (h.cell j hj) (ne_off (fun e' => e e'.symm))
  free := fun j => by rw [World.frozen?_setCell]; exact h.free j
theorem FillU.lt {w : World} {r N : Nat} {f : Nat → Nat} (h : FillU w r N f) (hN : 0 < N) : r < w.heap.size := World.block_lt_of_cell? w _ (h.cell 0 hN)
theorem FillU.setOther {w : World} {r N : Nat} {f : Nat → Nat} (h : FillU w r N f) (a : Addr) (v : Value) (hr : r ≠ a.block) : FillU (w.setCell a v) r N f where
  cell := fun j hj => cell_set (h.cell j hj) (fun e => hr (by rw [e]))
  free := fun j => by rw [World.frozen?_setCell]; exact h.free j
theorem FillU.of_block {w w' : World} {r N : Nat} {f : Nat → Nat} (h : FillU w r N f) (e : w'.heap[r]? = w.heap[r]?) : FillU w' r N f :=
  ⟨fun i hi => (World.cell?_of_block (a := ⟨r, i, none⟩) e).trans (h.cell i hi), fun i => (World.frozen?_of_block (a := ⟨r, i, none⟩) e).trans (h.free i)⟩


theorem FillU.congr {w : World} {r N : Nat} {f g : Nat → Nat} (h : FillU w r N f) (e : ∀ i, i < N → f i = g i) : FillU w r N g := ⟨fun i hi => by rw [← e i hi]; exact h.cell i hi, h.free⟩
theorem FillU.drew {w : World} {r N : Nat} {f : Nat → Nat} (h : FillU w r N f) : FillU w.drew r N f := ⟨h.cell, h.free⟩
theorem FillU.drewN {w : World} {r N : Nat} {f : Nat → Nat} (h : FillU w r N f) (n : Nat) : FillU (w.drewN n) r N f := ⟨h.cell, h.free⟩
theorem infoU64 : (Try.prog.info? 25).map (fun i => (i.zero, i.size, i.bytes)) = some (some (.int .u64 0), 1, 8) := by kernel_rfl
theorem makeU_any (T : TypeId) (hT : Try.prog.underlying T = some (.slice 25)) (n : Nat) (hn : n < 2 ^ 40) (w : World) : ∃ c, (Instr.makeSlice T (.int .i64 n) (.int .i64 n)).run Try.prog w = .ok (.slice (some ⟨w.heap.size, 0, none⟩) n n) (w.alloc (.cells c 25)) ∧ FillU (w.alloc (.cells c 25)) w.heap.size n (fun _ => 0) := by
  obtain ⟨i0, hi, hz, hs, hby⟩ := info_parts infoU64
  have hr := run_make (P := Try.prog) w T 25 i0 (.int .u64 0) hT hi hz .i64 .i64 n n (by omega) (Int.le_refl _) (by rw [hby]; omega) (by omega)
  rw [hs] at hr
  simp only [Int.toNat_natCast, Nat.mul_one] at hr
  have hb := heap_alloc_new w (.cells (madeCells (Value.cells (.int .u64 0)) n) 25)
  refine ⟨_, hr, ⟨fun i hi => ?_, fun i => frozen_of_row _ _ _ _ _ hb⟩⟩
  rw [cell_of_row _ _ _ _ _ _ hb]
  simp [madeCells, hi, Value.cells, Nat.mod_one]
/-- Words are handed back, in memory of their own. -/
structure GaveU (w : World) (n : Nat) (f : Nat → Nat) (e : Ending) (w' : World) : Prop where
  ex : ∃ b, e = .returned (.slice (some ⟨b, 0, none⟩) n n) ∧ w.heap.size ≤ b ∧ FillU w' b n f
  gr : w.grownBy w' none
end Go.Proofs.Ytpnddojcihdniaa
