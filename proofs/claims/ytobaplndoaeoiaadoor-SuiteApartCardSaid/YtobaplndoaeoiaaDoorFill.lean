/-
  Blocks of bytes that may be written.
-/
import Derived.Test.YtobaplndoaeoiaaDoorRd
namespace Go.Proofs.YtobaplndoaeoiaaDoor
open Go.RowKit

/-- N bytes c at block r, that may be written. -/
structure Fill (w : World) (r N : Nat) (f : Nat → Nat) : Prop where
  cell : ∀ i, i < N → w.cell? ⟨r, i, none⟩ = some (.int .u8 (f i))
  free : ∀ i, w.frozen? ⟨r, i, none⟩ = false

/-- N cells at block r that may be written; the first n of them are bytes c. -/
structure Begun (w : World) (r N n c : Nat) : Prop where
  cell : ∀ i, i < n → w.cell? ⟨r, i, none⟩ = some (.int .u8 c)
  there : ∀ i, i < N → (w.cell? ⟨r, i, none⟩).isSome = true
  free : ∀ i, w.frozen? ⟨r, i, none⟩ = false
theorem Begun.copy {w : World} {r N n c k : Nat} (h : Begun w r N n c) (hk : n + k ≤ N) : Begun (w.setCells r n ((List.range k).map fun _ => Value.int .u8 c)) r N (n + k) c where
  cell := fun i hi => by
    by_cases e : i < n
    · rw [World.cell?_setCells_out r _ _ w ⟨r, i, none⟩ (fun _ _ => Or.inl e)]; exact h.cell i e
    · have := World.cell?_setCells_in r ((List.range k).map fun _ => Value.int .u8 c) n w (fun j hj => h.there (n + j) (by have : j < k := by simpa using hj
                                                                                                                           omega)) (i - n) (by simp; omega)
      rw [show n + (i - n) = i by omega] at this
      rw [this]; simp
  there := fun i hi => by
    by_cases e : n ≤ i ∧ i < n + k
    · have := World.cell?_setCells_in r ((List.range k).map fun _ => Value.int .u8 c) n w (fun j hj => h.there (n + j) (by have : j < k := by simpa using hj
                                                                                                                           omega)) (i - n) (by simp; omega)
      rw [show n + (i - n) = i by omega] at this
      rw [this]; rfl
    · rw [World.cell?_setCells_out r _ _ w ⟨r, i, none⟩ (fun _ _ => by simp only [List.length_map, List.length_range]; omega)]; exact h.there i hi
  free := fun i => by rw [World.frozen?_setCells]; exact h.free i
theorem Begun.of_block {w w' : World} {r N n c : Nat} (h : Begun w r N n c) (e : w'.heap[r]? = w.heap[r]?) : Begun w' r N n c where
  cell := fun i hi => (World.cell?_of_block (a := ⟨r, i, none⟩) e).trans (h.cell i hi)
  there := fun i hi => by rw [World.cell?_of_block (a := ⟨r, i, none⟩) e]; exact h.there i hi
  free := fun i => (World.frozen?_of_block (a := ⟨r, i, none⟩) e).trans (h.free i)


theorem Fill.grown {w w' : World} {r N : Nat} {f : Nat → Nat} (h : Fill w r N f) (hN : 0 < N) {row : Option Nat} (g : w.grownBy w' row) (hr : some r ≠ row) : Fill w' r N f :=
  have e := g.block r (World.block_lt_of_cell? w _ (h.cell 0 hN)) hr
  ⟨fun i hi => (World.cell?_of_block (a := ⟨r, i, none⟩) e).trans (h.cell i hi), fun i => (World.frozen?_of_block (a := ⟨r, i, none⟩) e).trans (h.free i)⟩
theorem Fill.set {w : World} {r N : Nat} {f : Nat → Nat} (h : Fill w r N f) (i v : Nat) (hi : i < N) : Fill (w.setCell ⟨r, i, none⟩ (.int .u8 v)) r N (upd f i v) where
  cell := fun j hj => by
    by_cases e : j = i
    · subst e; rw [upd_same]; exact World.cell?_setCell_same w _ _ (h.cell j hj)
    · rw [upd_other _ _ _ _ e]; exact cell_set (h.cell j hj) (ne_off (fun e' => e e'.symm))
  free := fun j => by rw [World.frozen?_setCell]; exact h.free j
theorem Fill.lt {w : World} {r N : Nat} {f : Nat → Nat} (h : Fill w r N f) (hN : 0 < N) : r < w.heap.size := World.block_lt_of_cell? w _ (h.cell 0 hN)
theorem Fill.setOther {w : World} {r N : Nat} {f : Nat → Nat} (h : Fill w r N f) (a : Addr) (v : Value) (hr : r ≠ a.block) : Fill (w.setCell a v) r N f where
  cell := fun j hj => cell_set (h.cell j hj) (fun e => hr (by rw [e]))
  free := fun j => by rw [World.frozen?_setCell]; exact h.free j
theorem Fill.of_block {w w' : World} {r N : Nat} {f : Nat → Nat} (h : Fill w r N f) (e : w'.heap[r]? = w.heap[r]?) : Fill w' r N f :=
  ⟨fun i hi => (World.cell?_of_block (a := ⟨r, i, none⟩) e).trans (h.cell i hi), fun i => (World.frozen?_of_block (a := ⟨r, i, none⟩) e).trans (h.free i)⟩

end Go.Proofs.YtobaplndoaeoiaaDoor
