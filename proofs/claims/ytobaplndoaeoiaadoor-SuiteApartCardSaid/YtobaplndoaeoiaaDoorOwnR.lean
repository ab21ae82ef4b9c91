/-
  A slice of bytes that the call itself has made: what append makes of it, and of what it was.
-/
import Derived.Test.YtobaplndoaeoiaaDoorStr
import Derived.Deep.AppendSrc
namespace Go.Proofs.YtobaplndoaeoiaaDoor
open Go.RowKit

/-- Block g holds n bytes, and room for cap of them. -/
structure OwnR (w : World) (g n cap : Nat) (f : Nat → Nat) : Prop where
  cell : ∀ i, i < n → w.cell? ⟨g, i, none⟩ = some (.int .u8 (f i))
  there : ∀ i, i < cap → (w.cell? ⟨g, i, none⟩).isSome = true
  free : ∀ i, w.frozen? ⟨g, i, none⟩ = false
  le : n ≤ cap
  lt : g < w.heap.size

theorem OwnR.of_block {w w' : World} {g n cap : Nat} {f : Nat → Nat} (h : OwnR w g n cap f) (e : w'.heap[g]? = w.heap[g]?) (hl : g < w'.heap.size) : OwnR w' g n cap f where
  cell := fun i hi => (World.cell?_of_block (a := ⟨g, i, none⟩) e).trans (h.cell i hi)
  there := fun i hi => by rw [World.cell?_of_block (a := ⟨g, i, none⟩) e]; exact h.there i hi
  free := fun i => (World.frozen?_of_block (a := ⟨g, i, none⟩) e).trans (h.free i)
  le := h.le
  lt := hl
theorem OwnR.grown {w w' : World} {g n cap : Nat} {f : Nat → Nat} (h : OwnR w g n cap f) {row : Option Nat} (e : w.grownBy w' row) (hr : some g ≠ row) : OwnR w' g n cap f :=
  h.of_block (e.block g h.lt hr) (Nat.lt_of_lt_of_le h.lt e.size)
theorem OwnR.congr {w : World} {g n cap : Nat} {f f' : Nat → Nat} (h : OwnR w g n cap f) (e : ∀ i, i < n → f i = f' i) : OwnR w g n cap f' :=
  { h with cell := fun i hi => by rw [← e i hi]; exact h.cell i hi }
theorem OwnR.rd {w : World} {g n cap : Nat} {f : Nat → Nat} (h : OwnR w g n cap f) : Rd w w.heap.size (some ⟨g, 0, none⟩) n f :=
  ⟨fun _ => ⟨g, 0, rfl, h.lt, fun i hi => by rw [Nat.zero_add]; exact h.cell i hi⟩⟩
theorem OwnR.set {w : World} {g n cap : Nat} {f : Nat → Nat} (h : OwnR w g n cap f) (i v : Nat) (hi : i < n) : OwnR (w.setCell ⟨g, i, none⟩ (.int .u8 v)) g n cap (upd f i v) where
  cell := fun j hj => by
    by_cases e : j = i
    · subst e; rw [upd_same]; exact World.cell?_setCell_same w _ _ (h.cell j hj)
    · rw [upd_other _ _ _ _ e]; exact cell_set (h.cell j hj) (ne_off (fun e' => e e'.symm))
  there := fun j hj => by
    by_cases e : j = i
    · subst e; rw [World.cell?_setCell_same w _ _ (h.cell j hi)]; rfl
    · rw [World.cell?_setCell_other _ _ _ _ (ne_off (fun e' => e e'.symm))]; exact h.there j hj
  free := fun j => by rw [World.frozen?_setCell]; exact h.free j
  le := h.le
  lt := by simpa [World.setCell] using h.lt
theorem ownR_empty (w : World) : OwnR (w.alloc (.cells #[] 5)) w.heap.size 0 0 (fun _ => 0) where
  cell := fun i hi => absurd hi (by omega)
  there := fun i hi => absurd hi (by omega)
  free := fun i => frozen_of_row _ _ _ _ _ (heap_alloc_new w (.cells #[] 5))
  le := Nat.le_refl _
  lt := by simp

/-- Bytes that can be read, as what is appended. -/
theorem src_bytes {w : World} {B : Nat} {a : Option Addr} {m : Nat} {f : Nat → Nat} (c : Nat) (h : Rd w B a m f) : Src Tryd.prog 1 23 (.slice a m c) m (bytesOf m f) w := by
  cases a with
  | none =>
    have h0 : m = 0 := by
      by_cases e : 0 < m
      · obtain ⟨_, _, h1, _⟩ := h.ex e
        cases h1
      · omega
    subst h0
    exact Src.ofNil w under_bytes c
  | some ad =>
    refine Src.ofSlice w under_bytes ad m c (bytesOf m f) (by simp [bytesOf]) (fun j u hj => ?_) (bytesOf_oneCell m f)
    have hj' : j < m := by
      have := (List.getElem?_eq_some_iff.1 hj).1
      simpa [bytesOf] using this
    rw [bytesOf_get m f j hj'] at hj
    cases hj
    obtain ⟨tb, o, h1, _, h3⟩ := h.ex (by omega)
    cases h1
    rw [Addr.add_mid]
    exact h3 j hj'

/-- One behind the other. -/
def cat (n : Nat) (f g : Nat → Nat) : Nat → Nat := fun i => if i < n then f i else g (i - n)

/-- What append leaves. -/
structure Apped (w : World) (g n cap m : Nat) (f f' : Nat → Nat) (v : Value) (w' : World) : Prop where
  ex : ∃ g' cap', v = .slice (some ⟨g', 0, none⟩) (n + m) cap' ∧ OwnR w' g' (n + m) cap' (cat n f f') ∧ OwnR w' g n cap f ∧ w.grownBy w' (some g) ∧ (g' = g ∨ w.heap.size ≤ g')

theorem app_run {w : World} {B g n cap m : Nat} {a : Option Addr} {f f' : Nat → Nat} (c : Nat) (ty : TypeId) (h : OwnR w g n cap f) (hx : Rd w B a m f') (hn : n + m ≤ 2 ^ 46) :
    ∃ v w', (Builtin.append_ #[23, 23] ty #[.slice (some ⟨g, 0, none⟩) n cap, .slice a m c]).run Tryd.prog w = .ok v w' ∧ Apped w g n cap m f f' v w' := by
  obtain ⟨i0, hi, hz, hsz, hby⟩ := info_parts info_u8
  have hsrc := src_bytes c hx
  have hl : (bytesOf m f').length = m := bytesOf_length m f'
  rw [← hsz] at hsrc
  by_cases hroom : n + m ≤ cap
  · have hr := run_append_room_src w 23 23 ty 5 i0 under_bytes hi g 0 n cap (.slice a m c) m (bytesOf m f') hsrc hroom
      (fun j hj => by rw [hsz, Nat.zero_add, Nat.mul_one]; exact h.there _ (by omega)) (fun j _ => h.free _)
    rw [hsz, Nat.zero_add, Nat.mul_one] at hr
    have hout : ∀ i, i < n → (w.setCells g n (bytesOf m f')).cell? ⟨g, i, none⟩ = w.cell? ⟨g, i, none⟩ := fun i hi => World.cell?_setCells_out g _ _ w ⟨g, i, none⟩ (fun _ _ => Or.inl hi)
    have hin : ∀ j, j < m → (w.setCells g n (bytesOf m f')).cell? ⟨g, n + j, none⟩ = some (.int .u8 (f' j)) := fun j hj => by
      have := World.cell?_setCells_in g (bytesOf m f') n w (fun i hi => h.there _ (by omega)) j (by omega)
      rw [this]
      simp [bytesOf]
    have hth : ∀ i, i < cap → ((w.setCells g n (bytesOf m f')).cell? ⟨g, i, none⟩).isSome = true := fun i hi => by
      by_cases e : i < n
      · rw [hout i e]; exact h.there i hi
      · by_cases e2 : i < n + m
        · have := hin (i - n) (by omega)
          rw [show n + (i - n) = i by omega] at this
          rw [this]; rfl
        · rw [World.cell?_setCells_out g _ _ w ⟨g, i, none⟩ (fun _ _ => Or.inr (by rw [hl]; show n + m ≤ i; omega))]; exact h.there i hi
    have hfr : ∀ i, (w.setCells g n (bytesOf m f')).frozen? ⟨g, i, none⟩ = false := fun i => by rw [World.frozen?_setCells]; exact h.free i
    have hg := grown_setCells g (Or.inr rfl) (bytesOf m f') n w (grown_refl w (some g))
    have hlt := Nat.lt_of_lt_of_le h.lt hg.size
    refine ⟨_, _, hr, ⟨g, cap, rfl, ⟨fun i hi => ?_, hth, hfr, hroom, hlt⟩, ⟨fun i hi => (hout i hi).trans (h.cell i hi), hth, hfr, h.le, hlt⟩, hg, Or.inl rfl⟩⟩
    unfold cat
    by_cases e : i < n
    · rw [if_pos e, hout i e]; exact h.cell i e
    · have := hin (i - n) (by omega)
      rw [show n + (i - n) = i by omega] at this
      rw [if_neg e, this]
  · have hfit : Builtin.nextslicecap (n + m) cap * i0.bytes ≤ 281474976710656 := by
      rw [hby]
      have := nextslicecap_le (need := n + m) (old := cap) (by omega)
      omega
    have hr := run_append_grow_src w 23 23 ty 5 i0 (.int .u8 0) under_bytes hi hz (some ⟨g, 0, none⟩) n cap (bytesOf n f)
      (by
        rw [hsz]
        refine run_firstCells_some w.drew 1 n ⟨g, 0, none⟩ n cap (bytesOf n f) (by simp [bytesOf]) (fun j u hj => ?_)
        have hj' : j < n := by
          have := (List.getElem?_eq_some_iff.1 hj).1
          simpa [bytesOf] using this
        rw [bytesOf_get n f j hj'] at hj
        cases hj
        rw [Addr.add_mid, Nat.zero_add]
        exact h.cell j hj')
      (.slice a m c) m (bytesOf m f') hsrc (by omega) (by omega) hfit
    rw [bytesOf_append n m f f' (cat n f f') (fun i hi => by simp [cat, hi]) (fun i hi => by
      unfold cat; rw [if_neg (by omega), show n + i - n = i by omega])] at hr
    have hcg := grownCap_ge w (n + m) cap 5
    generalize grownCap w (n + m) cap 5 = cap' at *
    have hb := heap_alloc_new w.drew (.cells ((bytesOf (n + m) (cat n f f')).toArray ++ Builtin.zeroCells (Value.cells (.int .u8 0)) (cap' - (n + m))) 5)
    have hg := grown_alloc (grown_drew (grown_refl w (some g))) (.cells ((bytesOf (n + m) (cat n f f')).toArray ++ Builtin.zeroCells (Value.cells (.int .u8 0)) (cap' - (n + m))) 5)
    have hb' : w.drew.heap.size = w.heap.size := rfl
    rw [hb'] at hb
    have hg0 := grown_alloc (grown_drew (grown_refl w none)) (.cells ((bytesOf (n + m) (cat n f f')).toArray ++ Builtin.zeroCells (Value.cells (.int .u8 0)) (cap' - (n + m))) 5)
    refine ⟨_, _, hr, ⟨w.heap.size, cap', rfl, ⟨fun i hi => ?_, fun i hi => ?_, fun i => frozen_of_row _ _ _ _ _ hb, hcg, by simp [hb']⟩, h.grown hg0 (by simp), hg, Or.inr (Nat.le_refl _)⟩⟩
    · rw [cell_of_row _ _ _ _ _ _ hb, Array.getElem?_append_left (by simpa [bytesOf] using hi)]
      simpa using bytesOf_get (n + m) (cat n f f') i hi
    · rw [cell_of_row _ _ _ _ _ _ hb, Array.getElem?_eq_getElem (by
        rw [Array.size_append, size_zeroCells]
        simp [bytesOf, Value.cells]; omega)]
      rfl

/-- 'append' whose run is known, in its turn. -/
theorem wpList_append_run {ops : Array Oper} {rest : List Oper} {o : Oper} {a : Act} {w : World} {Q : Exit → Act → World → Prop} (hw : Region.wanted o (yielded ops a.tmps) = true) (s x : Operand) (t t' : TypeId)
    (ho : o.op = .call { callee := .builtin .append, args := #[s, x], argTypes := #[t, t'] }) (vs vx v : Value) (w' : World) (hs : a.eval s = vs) (hx : a.eval x = vx)
    (hrun : (Builtin.append_ #[t, t'] o.type #[vs, vx]).run Tryd.prog w = .ok v w') (h : wpList Tryd.prog ops Q rest (a.put o.dst v) w') : wpList Tryd.prog ops Q (o :: rest) a w :=
  wpList_step fun K hK => by
    rw [if_pos hw]
    unfold Oper.wp
    simp [execOp, ho, resolve, invoke, builtin, hs, hx, hrun, Result.andThen]
    exact hK _ _ h

theorem OwnB.base {w : World} {base base' : Nat} {v : Value} {n : Nat} {f : Nat → Nat} (h : OwnB w base v n f) (hb : base' ≤ base) : OwnB w base' v n f := ⟨Joins.ownsRow_le h.row hb⟩

/-- Nil, or bytes that the call has made itself. -/
structure OwnN (w : World) (base : Nat) (v : Value) (n : Nat) (f : Nat → Nat) : Prop where
  ex : (v = .slice none 0 0 ∧ n = 0) ∨ ∃ g cap, v = .slice (some ⟨g, 0, none⟩) n cap ∧ OwnR w g n cap f ∧ base ≤ g
theorem OwnN.nil (w : World) (base : Nat) (f : Nat → Nat) : OwnN w base (.slice none 0 0) 0 f := ⟨Or.inl ⟨rfl, rfl⟩⟩
theorem OwnN.grown {w w' : World} {base : Nat} {v : Value} {n : Nat} {f : Nat → Nat} (h : OwnN w base v n f) (e : w.grownBy w' none) : OwnN w' base v n f := by
  rcases h.ex with h | ⟨g, cap, h1, h2, h3⟩
  · exact ⟨Or.inl h⟩
  · exact ⟨Or.inr ⟨g, cap, h1, h2.grown e (by simp), h3⟩⟩
theorem OwnN.rd {w : World} {base : Nat} {v : Value} {n : Nat} {f : Nat → Nat} (h : OwnN w base v n f) : ∃ a c, v = .slice a n c ∧ n ≤ c ∧ Rd w w.heap.size a n f := by
  rcases h.ex with ⟨h1, rfl⟩ | ⟨g, cap, h1, h2, h3⟩
  · exact ⟨none, 0, h1, Nat.le_refl _, ⟨fun h => absurd h (by omega)⟩⟩
  · exact ⟨_, cap, h1, h2.le, h2.rd⟩
theorem OwnN.base {w : World} {base base' : Nat} {v : Value} {n : Nat} {f : Nat → Nat} (h : OwnN w base v n f) (hb : base' ≤ base) : OwnN w base' v n f := ⟨h.ex.imp id (fun ⟨g, cap, h1, h2, h3⟩ => ⟨g, cap, h1, h2, Nat.le_trans hb h3⟩)⟩
/-- What is handed back: nil, or bytes of the call's own. -/
structure GaveN (w : World) (n : Nat) (f : Nat → Nat) (e : Ending) (w' : World) : Prop where
  ex : ∃ v, e = .returned v ∧ OwnN w' w.heap.size v n f ∧ w.grownBy w' none

theorem app_N {w0 w : World} {B n m : Nat} {v : Value} {a : Option Addr} {f f' : Nat → Nat} (c : Nat) (ty : TypeId) (h0 : w0.grownBy w none) (h : OwnN w w0.heap.size v n f) (hx : Rd w B a m f') (hn : n + m ≤ 2 ^ 46) (hm : 0 < m) :
    ∃ v' w', (Builtin.append_ #[23, 23] ty #[v, .slice a m c]).run Tryd.prog w = .ok v' w' ∧ OwnN w' w0.heap.size v' (n + m) (cat n f f') ∧ OwnN w' w0.heap.size v n f ∧ w0.grownBy w' none := by
  rcases h.ex with ⟨rfl, rfl⟩ | ⟨g, cap, rfl, h2, h3⟩
  · obtain ⟨i0, hi, hz, hsz, hby⟩ := info_parts info_u8
    have hsrc := src_bytes c hx
    have hl : (bytesOf m f').length = m := bytesOf_length m f'
    rw [← hsz] at hsrc
    have hfit : Builtin.nextslicecap (0 + m) 0 * i0.bytes ≤ 281474976710656 := by
      rw [hby]
      have := nextslicecap_le (need := 0 + m) (old := 0) (by omega)
      omega
    have hr := run_append_grow_src w 23 23 ty 5 i0 (.int .u8 0) under_bytes hi hz none 0 0 [] (by rw [hsz]; exact run_firstCells_none w.drew 1 0 0 0)
      (.slice a m c) m (bytesOf m f') hsrc (by omega) (by omega) hfit
    rw [List.nil_append] at hr
    have hcg := grownCap_ge w (0 + m) 0 5
    generalize grownCap w (0 + m) 0 5 = cap' at *
    have hb := heap_alloc_new w.drew (.cells ((bytesOf m f').toArray ++ Builtin.zeroCells (Value.cells (.int .u8 0)) (cap' - (0 + m))) 5)
    have hg := grown_alloc (grown_drew (grown_refl w none)) (.cells ((bytesOf m f').toArray ++ Builtin.zeroCells (Value.cells (.int .u8 0)) (cap' - (0 + m))) 5)
    have hb' : w.drew.heap.size = w.heap.size := rfl
    rw [hb'] at hb
    refine ⟨_, _, hr, ⟨Or.inr ⟨w.heap.size, cap', rfl, ⟨fun i hi => ?_, fun i hi => ?_, fun i => frozen_of_row _ _ _ _ _ hb, hcg, by simp [hb']⟩, h0.size⟩⟩, OwnN.nil _ _ _, grown_trans h0 hg⟩
    · rw [cell_of_row _ _ _ _ _ _ hb, Array.getElem?_append_left (by simp [bytesOf]; omega)]
      have := bytesOf_get m f' i (by omega)
      simpa [cat] using this
    · rw [cell_of_row _ _ _ _ _ _ hb, Array.getElem?_eq_getElem (by
        rw [Array.size_append, size_zeroCells]
        simp [bytesOf, Value.cells]; omega)]
      rfl
  · obtain ⟨v', w', hr, ⟨g', cap', rfl, k1, k2, k3, k4⟩⟩ := app_run c ty h2 hx hn
    refine ⟨_, w', hr, ⟨Or.inr ⟨g', cap', rfl, k1, ?_⟩⟩, ⟨Or.inr ⟨g, cap, rfl, k2, h3⟩⟩, grown_new h0 k3 h3⟩
    have := h0.size
    omega

end Go.Proofs.YtobaplndoaeoiaaDoor
