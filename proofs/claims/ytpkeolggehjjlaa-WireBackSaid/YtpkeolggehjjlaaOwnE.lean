/-
  A slice of elements of sz cells that the call itself has made; one more appended. No program is named here.
-/
import Derived.Test.YtpkeolggehjjlaaOwnR
namespace Go.Proofs.Ytpkeolggehjjlaa
open Go.RowKit

set_option maxRecDepth 100000

/-- Block g holds n elements of sz cells, and room for cap of them; ev i j: cell j of element i. -/
structure OwnE (w : World) (sz g n cap : Nat) (ev : Nat → Nat → Value) : Prop where
  cell : ∀ i j, i < n → j < sz → w.cell? ⟨g, i * sz + j, none⟩ = some (ev i j)
  there : ∀ k, k < cap * sz → (w.cell? ⟨g, k, none⟩).isSome = true
  free : ∀ i, w.frozen? ⟨g, i, none⟩ = false
  le : n ≤ cap
  lt : g < w.heap.size
theorem OwnE.of_block {w w' : World} {sz g n cap : Nat} {ev : Nat → Nat → Value} (h : OwnE w sz g n cap ev) (e : w'.heap[g]? = w.heap[g]?) (hl : g < w'.heap.size) : OwnE w' sz g n cap ev where
  cell := fun i j hi hj => (World.cell?_of_block (a := ⟨g, i * sz + j, none⟩) e).trans (h.cell i j hi hj)
  there := fun k hk => by rw [World.cell?_of_block (a := ⟨g, k, none⟩) e]; exact h.there k hk
  free := fun i => (World.frozen?_of_block (a := ⟨g, i, none⟩) e).trans (h.free i)
  le := h.le
  lt := hl
theorem OwnE.grown {w w' : World} {sz g n cap : Nat} {ev : Nat → Nat → Value} (h : OwnE w sz g n cap ev) {row : Option Nat} (e : w.grownBy w' row) (hr : some g ≠ row) : OwnE w' sz g n cap ev :=
  h.of_block (e.block g h.lt hr) (Nat.lt_of_lt_of_le h.lt e.size)
/-- Nil, or elements that the call has made. -/
structure OwnNE (w : World) (base : Nat) (sz : Nat) (v : Value) (n : Nat) (ev : Nat → Nat → Value) : Prop where
  ex : (v = .slice none 0 0 ∧ n = 0) ∨ ∃ g cap, v = .slice (some ⟨g, 0, none⟩) n cap ∧ OwnE w sz g n cap ev ∧ base ≤ g
theorem OwnNE.nil (w : World) (base sz : Nat) (ev : Nat → Nat → Value) : OwnNE w base sz (.slice none 0 0) 0 ev := ⟨Or.inl ⟨rfl, rfl⟩⟩
theorem OwnNE.grown {w w' : World} {base sz : Nat} {v : Value} {n : Nat} {ev : Nat → Nat → Value} (h : OwnNE w base sz v n ev) {row : Option Nat} (e : w.grownBy w' row) (hr : ∀ k, row = some k → k < base) : OwnNE w' base sz v n ev := by
  rcases h.ex with h | ⟨g, cap, h1, h2, h3⟩
  · exact ⟨Or.inl h⟩
  · exact ⟨Or.inr ⟨g, cap, h1, h2.grown e (fun e' => by have := hr g e'.symm; omega), h3⟩⟩
/-- One more. -/
def snocE (n : Nat) (ev : Nat → Nat → Value) (x : Nat → Value) : Nat → Nat → Value := fun i => if i < n then ev i else x
/-- Elements as a list of cells. -/
def rowsE (sz n : Nat) (ev : Nat → Nat → Value) : List Value := (List.range (n * sz)).map fun k => ev (k / sz) (k % sz)
theorem rowsE_length (sz n : Nat) (ev : Nat → Nat → Value) : (rowsE sz n ev).length = n * sz := by simp [rowsE]
theorem rowsE_get (sz n : Nat) (ev : Nat → Nat → Value) (k : Nat) (h : k < n * sz) : (rowsE sz n ev)[k]? = some (ev (k / sz) (k % sz)) := by simp [rowsE, h]
theorem div_mod_at (sz i j : Nat) (hj : j < sz) : (i * sz + j) / sz = i ∧ (i * sz + j) % sz = j := by
  have h0 : 0 < sz := by omega
  refine ⟨?_, ?_⟩
  · rw [Nat.mul_comm, Nat.mul_add_div h0, Nat.div_eq_of_lt hj, Nat.add_zero]
  · rw [Nat.mul_comm, Nat.mul_add_mod, Nat.mod_eq_of_lt hj]
theorem idx_lt (sz n i j : Nat) (hi : i < n) (hj : j < sz) : i * sz + j < n * sz := by
  have : (i + 1) * sz ≤ n * sz := Nat.mul_le_mul_right sz (by omega)
  rw [Nat.add_mul, Nat.one_mul] at this
  omega
/-- The cells of an element, as a list. -/
def cellsE (sz : Nat) (x : Nat → Value) : List Value := (List.range sz).map x
theorem cellsE_get (sz : Nat) (x : Nat → Value) (j : Nat) (h : j < sz) : (cellsE sz x)[j]? = some (x j) := by simp [cellsE, h]
section
variable {P : Program}
theorem app_E {w : World} {base0 : Nat} {T E : TypeId} {info : TypeInfo} {z : Value} {sz n : Nat} {v : Value} {ev : Nat → Nat → Value} {x : Nat → Value} (ty : TypeId) (b o c : Nat) (hT : P.underlying T = some (.slice E)) (hi : P.info? E = some info) (hz : info.zero = some z) (hsz : info.size = sz) (hby : info.bytes ≤ 128) (hzc : z.cells.size = sz) (hs0 : 0 < sz)
    (h0 : base0 ≤ w.heap.size) (h : OwnNE w base0 sz v n ev) (hx : ∀ j, j < sz → w.cell? ⟨b, o + j, none⟩ = some (x j)) (hone : ∀ j, (x j).oneCell' = true) (hn : n < 2 ^ 38) :
    ∃ a' c' w', (Builtin.append_ #[T, T] ty #[v, .slice (some ⟨b, o, none⟩) 1 c]).run P w = .ok (.slice a' (n + 1) c') w' ∧ OwnNE w' base0 sz (.slice a' (n + 1) c') (n + 1) (snocE n ev x) ∧
      ∃ row, w.grownBy w' row ∧ (∀ k, row = some k → base0 ≤ k) ∧ ∃ g', a' = some ⟨g', 0, none⟩ ∧ ((row = none ∧ w.heap.size ≤ g') ∨ (row = some g' ∧ ∃ c'', v = .slice (some ⟨g', 0, none⟩) n c'')) := by
  have hsrc : Src P info.size T (.slice (some ⟨b, o, none⟩) 1 c) 1 (cellsE sz x) w := by
    refine Src.ofSlice w hT ⟨b, o, none⟩ 1 c (cellsE sz x) (by simp [cellsE, hsz]) (fun j u hj => ?_) (fun u hu => ?_)
    · have hj' : j < sz := by
        have := (List.getElem?_eq_some_iff.1 hj).1
        simpa [cellsE] using this
      rw [cellsE_get sz x j hj'] at hj
      cases hj
      rw [Addr.add_mid]
      exact hx j hj'
    · obtain ⟨j, _, rfl⟩ := List.mem_map.1 hu
      exact hone j
  have grow : ∀ (base : Option Addr) (cap : Nat) (olds : List Value), v = .slice base n cap → cap < n + 1 → olds.length = n * sz → (∀ i j, i < n → j < sz → olds[i * sz + j]? = some (ev i j)) → (Builtin.firstCells info.size n (.slice base n cap)).run P w.drew = .ok olds.toArray w.drew →
      ∃ a' c' w', (Builtin.append_ #[T, T] ty #[v, .slice (some ⟨b, o, none⟩) 1 c]).run P w = .ok (.slice a' (n + 1) c') w' ∧ OwnNE w' base0 sz (.slice a' (n + 1) c') (n + 1) (snocE n ev x) ∧ ∃ row, w.grownBy w' row ∧ (∀ k, row = some k → base0 ≤ k) ∧ ∃ g', a' = some ⟨g', 0, none⟩ ∧ ((row = none ∧ w.heap.size ≤ g') ∨ (row = some g' ∧ ∃ c'', v = .slice (some ⟨g', 0, none⟩) n c'')) := by
    intro base cap olds hv hcap hol hog hold
    subst hv
    have hfit : Builtin.nextslicecap (n + 1) cap * info.bytes ≤ 281474976710656 := by
      have h1 := nextslicecap_le hcap
      have h2 : Builtin.nextslicecap (n + 1) cap * info.bytes ≤ (2 * (n + 1)) * 128 := Nat.mul_le_mul h1 hby
      omega
    have hr := run_append_grow_src w T T ty E info z hT hi hz base n cap olds hold (.slice (some ⟨b, o, none⟩) 1 c) 1 (cellsE sz x) hsrc hcap (by omega) hfit
    have hcg := grownCap_ge w (n + 1) cap E
    generalize grownCap w (n + 1) cap E = cap' at *
    have hb := heap_alloc_new w.drew (.cells ((olds ++ cellsE sz x).toArray ++ Builtin.zeroCells z.cells (cap' - (n + 1))) E)
    have hb' : w.drew.heap.size = w.heap.size := rfl
    rw [hb'] at hb
    have hg := grown_alloc (grown_drew (grown_refl w none)) (.cells ((olds ++ cellsE sz x).toArray ++ Builtin.zeroCells z.cells (cap' - (n + 1))) E)
    have hlen : (olds ++ cellsE sz x).length = (n + 1) * sz := by rw [List.length_append, hol, Nat.add_mul, Nat.one_mul]; simp [cellsE]
    refine ⟨_, _, _, hr, ⟨Or.inr ⟨w.heap.size, cap', rfl, ⟨fun i j hi2 hj => ?_, fun k hk => ?_, fun i => frozen_of_row _ _ _ _ _ hb, hcg, by simp [hb']⟩, h0⟩⟩, none, hg, (fun k e => by cases e), w.heap.size, rfl, Or.inl ⟨rfl, Nat.le_refl _⟩⟩
    · have hlt := idx_lt sz (n + 1) i j hi2 hj
      rw [cell_of_row _ _ _ _ _ _ hb, Array.getElem?_append_left (by rw [List.size_toArray, hlen]; exact hlt)]
      rw [List.getElem?_toArray]
      unfold snocE
      by_cases e : i < n
      · rw [if_pos e, List.getElem?_append_left (by rw [hol]; exact idx_lt sz n i j e hj)]
        exact hog i j e hj
      · obtain rfl : i = n := by omega
        rw [if_neg e, List.getElem?_append_right (by rw [hol]; omega), hol, show i * sz + j - i * sz = j by omega]
        exact cellsE_get sz x j hj
    · have hsize : ((olds ++ cellsE sz x).toArray ++ Builtin.zeroCells z.cells (cap' - (n + 1))).size = cap' * sz := by
        rw [Array.size_append, size_zeroCells, hzc, List.size_toArray, hlen, ← Nat.add_mul]
        congr 1
        omega
      rw [cell_of_row _ _ _ _ _ _ hb, Array.getElem?_eq_getElem (by rw [hsize]; exact hk)]
      rfl
  rcases h.ex with ⟨hv, h00⟩ | ⟨g, cap, hv, h2, h3⟩
  · exact grow none 0 [] (by rw [hv, h00]) (by omega) (by simp [h00]) (fun i j hi2 _ => absurd hi2 (by omega)) (by rw [h00]; exact run_firstCells_none w.drew info.size 0 0 0)
  · by_cases hroom : n + 1 ≤ cap
    · subst hv
      have hcz : (n + 1) * sz ≤ cap * sz := Nat.mul_le_mul_right sz hroom
      rw [Nat.add_mul, Nat.one_mul] at hcz
      have hlx : (cellsE sz x).length = sz := by simp [cellsE]
      have hr := run_append_room_src w T T ty E info hT hi g 0 n cap (.slice (some ⟨b, o, none⟩) 1 c) 1 (cellsE sz x) hsrc hroom
        (fun j hj => by rw [hsz, Nat.zero_add]; exact h2.there _ (by rw [hlx] at hj; omega)) (fun j _ => h2.free _)
      rw [hsz, Nat.zero_add] at hr
      have hout : ∀ k, k < n * sz → (w.setCells g (n * sz) (cellsE sz x)).cell? ⟨g, k, none⟩ = w.cell? ⟨g, k, none⟩ := fun k hk => World.cell?_setCells_out g _ _ w ⟨g, k, none⟩ (fun _ _ => Or.inl hk)
      have hin : ∀ j, j < sz → (w.setCells g (n * sz) (cellsE sz x)).cell? ⟨g, n * sz + j, none⟩ = some (x j) := fun j hj => by
        have := World.cell?_setCells_in g (cellsE sz x) (n * sz) w (fun i hi => h2.there _ (by rw [hlx] at hi; omega)) j (by rw [hlx]; exact hj)
        rw [this]
        simp [cellsE]
      have hg := grown_setCells g (Or.inr rfl) (cellsE sz x) (n * sz) w (grown_refl w (some g))
      refine ⟨_, _, _, hr, ⟨Or.inr ⟨g, cap, rfl, ⟨fun i j hi2 hj => ?_, fun k hk => ?_, fun i => (by rw [World.frozen?_setCells]; exact h2.free i), hroom, Nat.lt_of_lt_of_le h2.lt hg.size⟩, h3⟩⟩, some g, hg, (fun k e => by cases e; exact h3), g, rfl, Or.inr ⟨rfl, cap, rfl⟩⟩
      · unfold snocE
        by_cases e : i < n
        · rw [if_pos e, hout _ (idx_lt sz n i j e hj)]; exact h2.cell i j e hj
        · obtain rfl : i = n := by omega
          rw [if_neg e]; exact hin j hj
      · by_cases e : k < n * sz
        · rw [hout k e]; exact h2.there k hk
        · by_cases e2 : k < n * sz + sz
          · have := hin (k - n * sz) (by omega)
            rw [show n * sz + (k - n * sz) = k by omega] at this
            rw [this]; rfl
          · rw [World.cell?_setCells_out g _ _ w ⟨g, k, none⟩ (fun _ _ => Or.inr (by rw [hlx]; show n * sz + sz ≤ k; omega))]; exact h2.there k hk
    · refine grow (some ⟨g, 0, none⟩) cap (rowsE sz n ev) hv (by omega) (rowsE_length sz n ev) (fun i j hi2 hj => ?_) ?_
      · rw [rowsE_get sz n ev _ (idx_lt sz n i j hi2 hj), (div_mod_at sz i j hj).1, (div_mod_at sz i j hj).2]
      · refine run_firstCells_some w.drew info.size n ⟨g, 0, none⟩ n cap (rowsE sz n ev) (by rw [rowsE_length, hsz]) (fun k u hk => ?_)
        have hk' : k < n * sz := by
          have := (List.getElem?_eq_some_iff.1 hk).1
          rwa [rowsE_length] at this
        rw [rowsE_get sz n ev k hk'] at hk
        cases hk
        rw [Addr.add_mid, Nat.zero_add]
        have := h2.cell (k / sz) (k % sz) (Nat.div_lt_of_lt_mul (by rw [Nat.mul_comm]; exact hk')) (Nat.mod_lt _ hs0)
        rw [Nat.mul_comm, Nat.div_add_mod] at this
        exact this
end
end Go.Proofs.Ytpkeolggehjjlaa
