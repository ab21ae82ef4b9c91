/-
  Bytes that a call has gathered by append: said by a function from the place to the byte.
-/
import Derived.Test.YtobaplndoaeoiaaDoorFill
import Derived.OwnWalk
namespace Go.Proofs.YtobaplndoaeoiaaDoor
open Go.RowKit

/-- n bytes as values. -/
def bytesOf (n : Nat) (f : Nat → Nat) : List Value := (List.range n).map fun i => .int .u8 (f i)
theorem bytesOf_length (n : Nat) (f : Nat → Nat) : (bytesOf n f).length = n := by simp [bytesOf]
theorem bytesOf_get (n : Nat) (f : Nat → Nat) (i : Nat) (h : i < n) : (bytesOf n f)[i]? = some (.int .u8 (f i)) := by simp [bytesOf, h]
theorem bytesOf_append (n m : Nat) (f g h : Nat → Nat) (h1 : ∀ i, i < n → h i = f i) (h2 : ∀ i, i < m → h (n + i) = g i) : bytesOf n f ++ bytesOf m g = bytesOf (n + m) h := by
  apply List.ext_getElem
  · simp [bytesOf]
  · intro i a b
    simp only [bytesOf, List.getElem_append, List.length_map, List.length_range, List.getElem_map, List.getElem_range]
    have hi : i < n + m := by simpa [bytesOf] using b
    by_cases e : i < n
    · simp [e, h1 i e]
    · have := h2 (i - n) (by omega)
      rw [show n + (i - n) = i by omega] at this
      simp [e, this]
theorem bytesOf_oneCell (n : Nat) (f : Nat → Nat) : ∀ u ∈ bytesOf n f, u.oneCell' = true := by
  intro u hu
  obtain ⟨i, _, rfl⟩ := List.mem_map.1 hu
  rfl

/-- The slice v owns n bytes, in a block from base on. -/
structure OwnB (w : World) (base : Nat) (v : Value) (n : Nat) (f : Nat → Nat) : Prop where
  row : w.ownsRow base 5 1 v n (bytesOf n f)

theorem OwnB.nil (w : World) (base : Nat) (f : Nat → Nat) : OwnB w base (.slice none 0 0) 0 f := ⟨World.ownsRow_nil w base _ _⟩
theorem OwnB.congr {w : World} {base : Nat} {v : Value} {n : Nat} {f g : Nat → Nat} (h : OwnB w base v n f) (e : ∀ i, i < n → f i = g i) : OwnB w base v n g := by
  have : bytesOf n f = bytesOf n g := List.map_congr_left (fun i hi => by rw [e i (List.mem_range.1 hi)])
  exact ⟨by rw [← this]; exact h.row⟩
theorem OwnB.ex {w : World} {base : Nat} {v : Value} {n : Nat} {f : Nat → Nat} (h : OwnB w base v n f) : ∃ a c, v = .slice a n c ∧ n ≤ c ∧ Rd w w.heap.size a n f := by
  rcases h.row with ⟨_, ⟨rfl, rfl⟩ | ⟨g, cap, cur, rfl, hb, hr, hnc, hm, hcs, htk⟩⟩
  · exact ⟨none, 0, rfl, Nat.le_refl _, ⟨fun h => absurd h (by omega)⟩⟩
  · refine ⟨_, _, rfl, hnc, ⟨fun _ => ⟨g, 0, rfl, ?_, fun i hi => ?_⟩⟩⟩
    · by_cases hg : g < w.heap.size
      · exact hg
      · have h0 : w.heap[g]? = none := by simp; omega
        rw [h0] at hr; cases hr
    · rw [Nat.zero_add, cell_of_row _ _ _ _ _ _ hr]
      have h2 := bytesOf_get n f i hi
      rw [← htk] at h2
      simp only [Nat.mul_one, List.getElem?_take, hi, if_true] at h2
      rw [← Array.getElem?_toList]; exact h2
theorem OwnB.grown {w w' : World} {base : Nat} {v : Value} {n : Nat} {f : Nat → Nat} (h : OwnB w base v n f) (g : w.grownBy w' none) : OwnB w' base v n f :=
  ⟨h.row.kept g (by cases hv : v.ownBlock <;> simp)⟩
/-- What is written by the call's own append is new. -/
theorem grown_own {w0 w w' : World} {v : Value} {n : Nat} {f : Nat → Nat} (h : w0.grownBy w none) (ho : OwnB w w0.heap.size v n f) (g : w.grownBy w' v.ownBlock) : w0.grownBy w' none := by
  cases hv : v.ownBlock with
  | none => rw [hv] at g; exact grown_trans h g
  | some b => rw [hv] at g; exact grown_new h g (ho.row.lt b hv).1

/-- What is handed back: n bytes of the call's own, or none. -/
structure GaveO (w : World) (n : Nat) (f : Nat → Nat) (e : Ending) (w' : World) : Prop where
  ex : ∃ v, e = .returned v ∧ OwnB w' w.heap.size v n f ∧ w.grownBy w' none

theorem info_u8 : (Tryd.prog.info? 5).map (fun i => (i.zero, i.size, i.bytes)) = some (some (.int .u8 0), 1, 1) := by kernel_rfl
theorem under_bytes : Tryd.prog.underlying 23 = some (.slice 5) := by kernel_rfl

/-- 'append(s, x...)' of bytes, s the call's own, x bytes that can be read. -/
theorem wpList_app {ops : Array Oper} {rest : List Oper} {o : Oper} {a : Act} {w : World} {Q : Exit → Act → World → Prop} (hgd : o.guard = none) (s x : Operand)
    (ho : o.op = .call { callee := .builtin .append, args := #[s, x], argTypes := #[23, 23] })
    (base : Nat) (v : Value) (n : Nat) (f : Nat → Nat) (hs : a.eval s = v) (hown : OwnB w base v n f) (ad : Addr) (m c : Nat) (g : Nat → Nat) (hx : a.eval x = .slice (some ad) m c)
    (hnews : ∀ j, j < m → w.cell? (ad.add j) = some (.int .u8 (g j))) (h63 : n + m ≤ 2 ^ 46) (hbase : base ≤ w.heap.size)
    (h : ∀ v' w', OwnB w' base v' (n + m) (fun i => if i < n then f i else g (i - n)) → w.grownBy w' v.ownBlock → wpList Tryd.prog ops Q rest (a.put o.dst v') w') : wpList Tryd.prog ops Q (o :: rest) a w := by
  obtain ⟨i0, hi, hz, hsz, hby⟩ := info_parts info_u8
  refine wpList_append_own w hgd s x 23 ho base 5 i0 (.int .u8 0) 1 1 under_bytes hi hz hsz hby rfl (by decide) v n (bytesOf n f) hs hown.row ad m c (bytesOf m g) hx (by simp [bytesOf]) (fun j u hj => ?_) (bytesOf_oneCell m g)
    (by unfold maxLen; omega) (by omega) hbase (fun v' w' h1 h2 _ => h v' w' ⟨?_⟩ h2)
  · have hjm : j < m := by
      have := (List.getElem?_eq_some_iff.1 hj).1
      simpa [bytesOf] using this
    rw [bytesOf_get m g j hjm] at hj
    cases hj
    exact hnews j hjm
  · rw [bytesOf_append n m f g (fun i => if i < n then f i else g (i - n)) (fun i hi => by simp [hi]) (fun i hi => by
      simp only [show ¬ (n + i < n) by omega, if_false, show n + i - n = i by omega])] at h1
    exact h1

end Go.Proofs.YtobaplndoaeoiaaDoor
