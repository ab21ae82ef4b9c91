/-
  Blocks of cells that a call makes, said by a function from the place to the number; and what grows.
-/
import Derived.Test.YtobaplndoaeoiaaDoorShaMath
namespace Go.Proofs.YtobaplndoaeoiaaDoor
open Go.RowKit

def upd (f : Nat → Nat) (i v : Nat) : Nat → Nat := fun j => if j = i then v else f j

theorem upd_same (f : Nat → Nat) (i v : Nat) : upd f i v i = v := by simp [upd]
theorem upd_other (f : Nat → Nat) (i v j : Nat) (h : j ≠ i) : upd f i v j = f j := by simp [upd, h]

/-- n cells of kind k. -/
def cellsOf (k : IntKind) (n : Nat) (f : Nat → Nat) : Array Value := ((List.range n).map fun i => Value.int k (f i)).toArray

theorem cellsOf_size (k : IntKind) (n : Nat) (f : Nat → Nat) : (cellsOf k n f).size = n := by simp [cellsOf]
theorem cellsOf_get (k : IntKind) (n : Nat) (f : Nat → Nat) (i : Nat) (h : i < n) : (cellsOf k n f)[i]? = some (.int k (f i)) := by
  simp [cellsOf, h]
theorem cellsOf_congr (k : IntKind) (n : Nat) (f g : Nat → Nat) (h : ∀ i, i < n → f i = g i) : cellsOf k n f = cellsOf k n g := by
  unfold cellsOf
  congr 1
  apply List.map_congr_left
  intro i hi
  rw [h i (List.mem_range.1 hi)]
theorem cellsOf_set (k : IntKind) (n : Nat) (f : Nat → Nat) (i v : Nat) : (cellsOf k n f).setIfInBounds i (.int k v) = cellsOf k n (upd f i v) := by
  apply Array.ext_getElem?
  intro j
  rw [Array.getElem?_setIfInBounds, cellsOf_size]
  by_cases hj : j < n
  · rw [cellsOf_get _ _ _ _ hj]
    by_cases h : i = j
    · subst h; rw [if_pos rfl, if_pos hj, cellsOf_get _ _ _ _ hj, upd_same]
    · rw [if_neg h, cellsOf_get _ _ _ _ hj, upd_other _ _ _ _ (fun e => h e.symm)]
  · have h1 : (cellsOf k n f)[j]? = none := by simp [cellsOf_size]; omega
    have h2 : (cellsOf k n (upd f i v))[j]? = none := by simp [cellsOf_size]; omega
    rw [h1, h2]
    by_cases h : i = j
    · subst h; simp [hj]
    · rw [if_neg h]
theorem cellsOf_all (k : IntKind) (n : Nat) (f : Nat → Nat) : (cellsOf k n f).all (·.oneCell') = true := by
  simp [cellsOf, Value.oneCell']

/-- Block B holds just these n cells. -/
structure Holds (w : World) (B : Nat) (T : TypeId) (k : IntKind) (n : Nat) (f : Nat → Nat) : Prop where
  block : w.heap[B]? = some (.cells (cellsOf k n f) T (0, 0))

section
variable {w w' : World} {B : Nat} {T : TypeId} {k : IntKind} {n : Nat} {f g : Nat → Nat}
theorem Holds.cell (h : Holds w B T k n f) (i : Nat) (hi : i < n) : w.cell? ⟨B, i, none⟩ = some (.int k (f i)) := by
  rw [cell_of_row w B i _ T (0, 0) h.block, cellsOf_get _ _ _ _ hi]
theorem Holds.frozen (h : Holds w B T k n f) (i : Nat) : w.frozen? ⟨B, i, none⟩ = false := frozen_of_row w B i _ T h.block
theorem Holds.lt (h : Holds w B T k n f) : B < w.heap.size := by
  have := h.block
  by_cases hlt : B < w.heap.size
  · exact hlt
  · have hn : w.heap[B]? = none := by simp; omega
    simp [hn] at this
theorem Holds.congr (h : Holds w B T k n f) (e : ∀ i, i < n → f i = g i) : Holds w B T k n g := ⟨by rw [← cellsOf_congr k n f g e]; exact h.block⟩
theorem Holds.set (h : Holds w B T k n f) (i v : Nat) : Holds (w.setCell ⟨B, i, none⟩ (.int k v)) B T k n (upd f i v) := by
  constructor
  rw [heap_setCell_same w B i _ T _ h.block, cellsOf_set]
theorem Holds.of_block (h : Holds w B T k n f) (e : w'.heap[B]? = w.heap[B]?) : Holds w' B T k n f := ⟨by rw [e]; exact h.block⟩
theorem Holds.drew (h : Holds w B T k n f) : Holds w.drew B T k n f := ⟨h.block⟩
theorem Holds.drewN (h : Holds w B T k n f) (m : Nat) : Holds (w.drewN m) B T k n f := ⟨h.block⟩
theorem Holds.grown (h : Holds w B T k n f) {row : Option Nat} (hg : w.grownBy w' row) (hr : some B ≠ row) : Holds w' B T k n f := h.of_block (hg.block B h.lt hr)
theorem Holds.setOther (h : Holds w B T k n f) (a : Addr) (v : Value) (hb : B ≠ a.block) : Holds (w.setCell a v) B T k n f := h.of_block (heap_setCell_other w a B v hb)
end

theorem holds_alloc (w : World) (T : TypeId) (k : IntKind) (n : Nat) (f : Nat → Nat) (c : Array Value) (e : c = cellsOf k n f) : Holds (w.alloc (.cells c T)) w.heap.size T k n f :=
  ⟨by rw [heap_alloc_new, e]⟩

/-- A store into what is new leaves what was. -/
theorem grown_setCell_new {w0 w : World} {row : Option Nat} (h : w0.grownBy w row) (a : Addr) (v : Value) (ha : w0.heap.size ≤ a.block ∨ some a.block = row) : w0.grownBy (w.setCell a v) row :=
  ⟨h.os, h.tape, h.output, by simpa [World.setCell] using h.size, fun k hk hr => (heap_setCell_other w a k v (by
    rcases ha with ha | ha
    · omega
    · intro e; subst e; exact hr ha)).trans (h.block k hk hr)⟩
theorem grown_alloc {w0 w : World} {row : Option Nat} (h : w0.grownBy w row) (o : Obj) : w0.grownBy (w.alloc o) row := grown_trans h (World.grownBy_alloc w o row)
theorem grown_drew {w0 w : World} {row : Option Nat} (h : w0.grownBy w row) : w0.grownBy w.drew row := ⟨h.os, h.tape, h.output, h.size, h.block⟩
/-- What was written is new. -/
theorem grown_new {w0 w w' : World} {row : Option Nat} {B : Nat} (h : w0.grownBy w row) (g : w.grownBy w' (some B)) (hB : w0.heap.size ≤ B) : w0.grownBy w' row :=
  ⟨g.os.trans h.os, g.tape.trans h.tape, g.output.trans h.output, Nat.le_trans h.size g.size, fun i hi hr => (g.block i (Nat.lt_of_lt_of_le hi h.size) (by intro e; injection e with e; omega)).trans (h.block i hi hr)⟩

/-- A part of an array whose elements are of one cell. -/
theorem run_part {Q : Program} {T E n : Nat} (hT : Q.underlying T = some (.array n E)) (hE : ∀ w, (sizeOf E).run Q w = .ok 1 w) (b o l h : Nat) (x y : Int) (hx : x = l) (hy : y = h) (h1 : l ≤ h) (h2 : h ≤ n) (h3 : l < n) (w : World) :
    (Instr.sliceAt T (.pointer (some ⟨b, o, none⟩)) (some (.int .i64 x)) (some (.int .i64 y)) none).run Q w = .ok (.slice (some ⟨b, o + l, none⟩) (h - l) (n - l)) w := by
  subst hx hy
  have e1 : Q.arrayLen T = n := by simp [Program.arrayLen, hT]
  have e2 : Q.elem T = E := by simp [Program.elem, hT]
  have hne : ¬ n = l := by omega
  rw [run_sliceAt_array_lh w T ⟨b, o, none⟩ (by rw [e1, e2]; exact hT) .i64 .i64 l h (by omega) (by omega) (by rw [e1]; omega), e1, e2, hE w]
  simp [Result.andThen, slicedAt, hne, Addr.add]
  try (intro h0; omega)

theorem grown_setRow_new {w0 w : World} {row : Option Nat} (h : w0.grownBy w row) (B : Nat) (cs : Array Value) (ha : w0.heap.size ≤ B ∨ some B = row) : w0.grownBy (w.setRow B cs) row :=
  ⟨h.os, h.tape, h.output, by simpa using h.size, fun k hk hr => (setRow_other w B k cs (by
    rcases ha with ha | ha
    · omega
    · intro e; subst e; exact hr ha)).trans (h.block k hk hr)⟩
theorem Holds.setRow {w : World} {B : Nat} {T : TypeId} {k : IntKind} {n : Nat} {f : Nat → Nat} (h : Holds w B T k n f) (k' : IntKind) (n' : Nat) (g : Nat → Nat) : Holds (w.setRow B (cellsOf k' n' g)) B T k' n' g :=
  ⟨setRow_heap w B _ _ T (0, 0) h.block⟩

/-- One element of an array of one-cell elements, by value. -/
theorem run_indexOf {Q : Program} {T E n : Nat} (hT : Q.underlying T = some (.array n E)) (hE : ∀ w, (sizeOf E).run Q w = .ok 1 w) (hA : ∀ w, (isAgg E).run Q w = .ok false w) (cs : Array Value) (i : Nat) (x : Int) (hx : x = i) (v : Value) (hi : i < n) (hv : cs[i]? = some v) (w : World) :
    (Instr.index T (.agg cs) (.int .i64 x)).run Q w = .ok v w := by
  subst hx
  have h1 : (0 : Int) ≤ (i : Int) ∧ (i : Int) < n := ⟨by omega, by omega⟩
  simp [Instr.index, asIntOf, run_underlying hT, Sem.run_bind, Result.andThen, h1, hE w, part, hA w, hv]
  intro h; omega

/-- What is left of a slice of one-cell elements from place l on. -/
theorem run_rest {Q : Program} {T E : Nat} (hT : Q.underlying T = some (.slice E)) (hE : ∀ w, (sizeOf E).run Q w = .ok 1 w) (b o len cap l : Nat) (h1 : l ≤ len) (h2 : len ≤ cap) :
    ∃ a : Option Addr, (l < len → a = some ⟨b, o + l, none⟩) ∧ (∀ w, (Instr.sliceAt T (.slice (some ⟨b, o, none⟩) len cap) (some (.int .i64 (l : Int))) none none).run Q w = .ok (.slice a (len - l) (cap - l)) w) ∧
      (∀ w, (Instr.slice T (.slice (some ⟨b, o, none⟩) len cap) (some (.int .i64 (l : Int))) none none).run Q w = .ok (.slice a (len - l) (cap - l)) w) := by
  have e2 : Q.elem T = E := by simp [Program.elem, hT]
  have hT' : Q.underlying T = some (.slice (Q.elem T)) := by rw [e2]; exact hT
  have hs : ∀ w, (Instr.slice T (.slice (some ⟨b, o, none⟩) len cap) (some (.int .i64 (l : Int))) none none).run Q w = .ok (.slice (if cap = l then some ⟨b, o, none⟩ else some ⟨b, o + l, none⟩) (len - l) (cap - l)) w := by
    intro w
    rw [run_slice_l w T (some ⟨b, o, none⟩) len cap hT' .i64 l (by omega) (by omega), e2, hE w]
    by_cases h : cap = l <;> simp [Result.andThen, sliced, h, Addr.add]
    try (intro h0; simp [h0])
  refine ⟨_, ?_, fun w => ?_, hs⟩
  · intro h
    rw [if_neg (by omega)]
  · rw [run_sliceAt_slice w T _ _ _ _ hT']; exact hs w

/-! A block of which one cell is being written. -/

/-- Block B holds these cells, but for the one at t, of which nothing is said. -/
structure But (w : World) (B : Nat) (T : TypeId) (k : IntKind) (n : Nat) (f : Nat → Nat) (t : Nat) : Prop where
  ex : ∃ c : Array Value, w.heap[B]? = some (.cells c T (0, 0)) ∧ c.size = n ∧ ∀ i, i < n → i ≠ t → c[i]? = some (.int k (f i))

/-- The number in a cell. -/
def numAt (w : World) (a : Addr) : Int := match w.cell? a with | some (.int _ n) => n | _ => 0

section
variable {w w' : World} {B : Nat} {T : TypeId} {k : IntKind} {n : Nat} {f : Nat → Nat} {t : Nat}
theorem Holds.but (h : Holds w B T k n f) (t : Nat) : But w B T k n f t := ⟨_, h.block, cellsOf_size k n f, fun i hi _ => cellsOf_get k n f i hi⟩
theorem But.of_block (h : But w B T k n f t) (e : w'.heap[B]? = w.heap[B]?) : But w' B T k n f t := by
  obtain ⟨c, h1, h2⟩ := h.ex
  exact ⟨c, e.trans h1, h2⟩
theorem But.lt (h : But w B T k n f t) : B < w.heap.size := by
  obtain ⟨c, h1, h2⟩ := h.ex
  by_cases hlt : B < w.heap.size
  · exact hlt
  · have hn : w.heap[B]? = none := by simp; omega
    simp [hn] at h1
theorem But.grown (h : But w B T k n f t) {row : Option Nat} (hg : w.grownBy w' row) (hr : some B ≠ row) : But w' B T k n f t := h.of_block (hg.block B h.lt hr)
theorem But.cell (h : But w B T k n f t) (i : Nat) (hi : i < n) (ht : i ≠ t) : w.cell? ⟨B, i, none⟩ = some (.int k (f i)) := by
  obtain ⟨c, h1, h2, h3⟩ := h.ex
  rw [cell_of_row w B i _ T (0, 0) h1, h3 i hi ht]
theorem But.frozen (h : But w B T k n f t) (i : Nat) : w.frozen? ⟨B, i, none⟩ = false := by
  obtain ⟨c, h1, h2, h3⟩ := h.ex
  exact frozen_of_row w B i _ T h1
theorem But.set (h : But w B T k n f t) (v : Value) : But (w.setCell ⟨B, t, none⟩ v) B T k n f t := by
  obtain ⟨c, h1, h2, h3⟩ := h.ex
  refine ⟨_, heap_setCell_same w B t c T v h1, by simpa using h2, fun i hi ht => ?_⟩
  rw [Array.getElem?_setIfInBounds, if_neg (fun e => ht e.symm)]
  exact h3 i hi ht
theorem But.close (h : But w B T k n f t) (v : Nat) (ht : t < n) : Holds (w.setCell ⟨B, t, none⟩ (.int k v)) B T k n (upd f t v) := by
  obtain ⟨c, h1, h2, h3⟩ := h.ex
  constructor
  rw [heap_setCell_same w B t c T _ h1]
  congr 2
  apply Array.ext_getElem?
  intro i
  rw [Array.getElem?_setIfInBounds, h2]
  by_cases hi : i < n
  · rw [cellsOf_get _ _ _ _ hi]
    by_cases e : t = i
    · subst e; rw [if_pos rfl, if_pos ht, upd_same]
    · rw [if_neg e, h3 i hi (fun e' => e e'.symm), upd_other _ _ _ _ (fun e' => e e'.symm)]
  · have e1 : ¬ t = i := by omega
    rw [if_neg e1]
    have h1' : c[i]? = none := by simp; omega
    have h2' : (cellsOf k n (upd f t v))[i]? = none := by simp [cellsOf_size]; omega
    rw [h1', h2']
theorem int_at_of (a : Addr) {x : Int} (h : w.cell? a = some (.int k x)) : w.cell? a = some (.int k (numAt w a)) := by
  unfold numAt; rw [h]
theorem int_at_grown {a : Addr} (h : w.cell? a = some (.int k (numAt w a))) {row : Option Nat} (g : w.grownBy w' row) (hr : some a.block ≠ row) : w'.cell? a = some (.int k (numAt w' a)) :=
  int_at_of a (g.cell h hr)
theorem int_at_set {a : Addr} {x : Value} (h : w.cell? a = some x) (v : Int) : (w.setCell a (.int k v)).cell? a = some (.int k (numAt (w.setCell a (.int k v)) a)) :=
  int_at_of a (World.cell?_setCell_same w a _ h)
theorem cell_set {a b : Addr} {x v : Value} (h : w.cell? b = some x) (e : a ≠ b) : (w.setCell a v).cell? b = some x := by rw [World.cell?_setCell_other w a _ _ e]; exact h
end

end Go.Proofs.YtobaplndoaeoiaaDoor
