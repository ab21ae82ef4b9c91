/-
  A block of n cells, each by its number; parts of it, loaded and stored. No program is named here.
-/
import Derived.Test.YtobaplndoaeoiaaDoorUnderRow
import Derived.Test.YtobaplndoaeoiaaDoorWantRun
import Derived.Deep.MidRow
namespace Go.Proofs.YtobaplndoaeoiaaDoor
open Go.RowKit

set_option maxRecDepth 100000

/-- n cells. -/
def rowOf (n : Nat) (v : Nat → Value) : Array Value := ((List.range n).map v).toArray
theorem rowOf_size (n : Nat) (v : Nat → Value) : (rowOf n v).size = n := by simp [rowOf]
theorem rowOf_get (n : Nat) (v : Nat → Value) (i : Nat) (hi : i < n) : (rowOf n v)[i]? = some (v i) := by simp [rowOf, hi]
theorem rowOf_congr {n : Nat} {v v' : Nat → Value} (h : ∀ i, i < n → v i = v' i) : rowOf n v = rowOf n v' := by
  unfold rowOf
  rw [List.map_congr_left (fun i hi => h i (List.mem_range.1 hi))]
/-- They lie there. -/
structure RowAt (w : World) (B : Nat) (T : TypeId) (n : Nat) (v : Nat → Value) : Prop where
  block : w.heap[B]? = some (.cells (rowOf n v) T (0, 0))
section
variable {w w' : World} {B n : Nat} {T : TypeId} {v : Nat → Value}
theorem RowAt.lt (h : RowAt w B T n v) : B < w.heap.size := by
  have := h.block
  by_cases hlt : B < w.heap.size
  · exact hlt
  · rw [Array.getElem?_eq_none (by omega)] at this
    cases this
theorem RowAt.grown (h : RowAt w B T n v) {row : Option Nat} (hg : w.grownBy w' row) (hr : some B ≠ row) : RowAt w' B T n v := ⟨(hg.block B h.lt hr).trans h.block⟩
theorem RowAt.new (w : World) (T : TypeId) (n : Nat) (v : Nat → Value) (c : Array Value) (hc : c = rowOf n v) : RowAt (w.alloc (.cells c T)) w.heap.size T n v := ⟨by rw [hc]; exact heap_alloc_new w _⟩
theorem RowAt.cell (h : RowAt w B T n v) (j : Nat) (hj : j < n) : w.cell? ⟨B, j, none⟩ = some (v j) := by
  rw [cell_of_row w B j _ _ (0, 0) h.block, rowOf_get n v j hj]
theorem RowAt.frozen (h : RowAt w B T n v) (o : Nat) : w.frozen? ⟨B, o, none⟩ = false := frozen_of_row _ _ _ _ _ h.block
theorem RowAt.congr {v' : Nat → Value} (h : RowAt w B T n v) (e : ∀ i, i < n → v i = v' i) : RowAt w B T n v' := ⟨by rw [← rowOf_congr e]; exact h.block⟩
/-- A part, loaded. -/
theorem RowAt.load {P : Program} (h : RowAt w B T n v) (o : Nat) (U : TypeId) (m : Nat) (u : Nat → Value) (hm : o + m ≤ n) (hv : ∀ j, j < m → v (o + j) = u j) (hu : (P.underlying U).map (fun d => match d with | .struct _ | .array _ _ => true | _ => false) = some true) (hi : (P.info? U).map (·.size) = some m) :
    (Instr.loadAt U (.pointer (some ⟨B, o, none⟩))).run P w = .ok (.agg (rowOf m u)) w := by
  obtain ⟨d, e1, k1⟩ := under_row hu
  have := run_loadAt_mid (P := P) w B o U (rowOf m u).toList d (fun j x hx => by
    have hj : j < m := by
      have := (List.getElem?_eq_some_iff.1 hx).1
      simpa [rowOf] using this
    rw [Array.getElem?_toList, rowOf_get _ _ _ hj] at hx
    cases hx
    rw [h.cell _ (by omega), hv j hj]) e1 (by cases d <;> first | rfl | exact k1) (by rw [Array.length_toList, rowOf_size]; exact hi)
  simpa using this
theorem heap_setCells_at (B : Nat) (t : TypeId) (n : Nat) : ∀ (vs : List Value) (o : Nat) (w : World) (v : Nat → Value), RowAt w B t n v → o + vs.length ≤ n → RowAt (w.setCells B o vs) B t n (fun i => if o ≤ i ∧ i < o + vs.length then vs.getD (i - o) undef else v i)
  | [], _, _, _, h, _ => h.congr fun i _ => (if_neg (by simp <;> omega)).symm
  | x :: r, o, w, v, h, ho => by
    rw [World.setCells]
    have h1 : RowAt (w.setCell ⟨B, o, none⟩ x) B t n (fun i => if i = o then x else v i) := by
      refine ⟨?_⟩
      rw [setCell_eq_setRow w B o _ _ _ x h.block, setRow_heap _ _ _ _ _ _ h.block]
      have : (rowOf n v).setIfInBounds o x = rowOf n (fun i => if i = o then x else v i) := by
        apply Array.ext_getElem?
        intro i
        simp only [Array.getElem?_setIfInBounds, rowOf, List.getElem?_toArray, List.getElem?_map]
        by_cases hi : i < n
        · by_cases e : i = o
          · subst e; simp [hi]
          · simp [hi, e, Ne.symm e]
        · have : o ≠ i := by simp at ho; omega
          simp [hi, this]
      rw [this]
    have h2 := heap_setCells_at B t n r (o + 1) _ _ h1 (by simp at ho; omega)
    refine h2.congr fun i hi => ?_
    by_cases e : i = o
    · subst e
      rw [if_neg (by omega), if_pos rfl, if_pos ⟨Nat.le_refl _, by simp <;> omega⟩, Nat.sub_self]
      rfl
    · by_cases e2 : o + 1 ≤ i ∧ i < o + 1 + r.length
      · rw [if_pos e2, if_pos ⟨by omega, by simp <;> omega⟩]
        obtain ⟨k, hk⟩ : ∃ k, i - o = k + 1 := ⟨i - o - 1, by omega⟩
        rw [hk, show i - (o + 1) = k by omega]
        rfl
      · rw [if_neg e2, if_neg e, if_neg (by simp <;> omega)]
/-- A part, stored. -/
theorem RowAt.store {P : Program} (h : RowAt w B T n v) (o : Nat) (U : TypeId) (m : Nat) (u : Nat → Value) (hm : o + m ≤ n) (hi : (P.info? U).map (·.size) = some m) (h1 : ∀ j, j < m → (u j).oneCell' = true) :
    (Instr.storeAt U (.pointer (some ⟨B, o, none⟩)) (.agg (rowOf m u))).run P w = .ok () (w.setCells B o (rowOf m u).toList) ∧ RowAt (w.setCells B o (rowOf m u).toList) B T n (fun i => if o ≤ i ∧ i < o + m then u (i - o) else v i) := by
  refine ⟨run_storeAt_mid w B o U (rowOf m u) (fun j hj => ⟨?_, h.frozen _⟩) (by rw [rowOf_size]; exact hi) ?_, ?_⟩
  · rw [rowOf_size] at hj
    rw [h.cell _ (by omega)]
    rfl
  · rw [Array.all_eq_true]
    intro i hi'
    have hi2 : i < m := by rw [rowOf_size] at hi'; exact hi'
    simp [rowOf]
    exact h1 i hi2
  · have := heap_setCells_at B T n (rowOf m u).toList o w v h (by rw [Array.length_toList, rowOf_size]; exact hm)
    rw [Array.length_toList, rowOf_size] at this
    refine this.congr fun i hi' => ?_
    by_cases e : o ≤ i ∧ i < o + m
    · rw [if_pos e, if_pos e]
      simp [rowOf, show i - o < m by omega]
    · rw [if_neg e, if_neg e]
/-- A cell, stored. -/
theorem RowAt.put (h : RowAt w B T n v) (o : Nat) (x : Value) (ho : o < n) : RowAt (w.setCell ⟨B, o, none⟩ x) B T n (fun i => if i = o then x else v i) := by
  have := heap_setCells_at B T n [x] o w v h (by simp <;> omega)
  refine RowAt.congr this fun i hi => ?_
  by_cases e : i = o
  · subst e
    rw [if_pos ⟨Nat.le_refl _, by simp⟩, if_pos rfl, Nat.sub_self]
    rfl
  · rw [if_neg (by simp <;> omega), if_neg e]
end
end Go.Proofs.YtobaplndoaeoiaaDoor
