/-
  Bytes of the call's own that can be appended to, though a mark stands behind them.
-/
import Derived.Test.YtobaplndoaeoiaaDoorOwnR
import Derived.Test.YtobaplndoaeoiaaDoorStr
import Derived.Laws.IdiomStrings
import Derived.Lib.SmallJoins
namespace Go.Proofs.YtobaplndoaeoiaaDoor
open Go.RowKit

set_option maxRecDepth 100000
set_option maxHeartbeats 2000000

structure OwnM (w : World) (g n cap : Nat) (f : Nat → Nat) : Prop where
  cell : ∀ i, i < n → w.cell? ⟨g, i, none⟩ = some (.int .u8 (f i))
  there : ∀ i, i < cap → (w.cell? ⟨g, i, none⟩).isSome = true
  free : ∀ i, i < cap → w.frozen? ⟨g, i, none⟩ = false
  le : n ≤ cap
  lt : g < w.heap.size
theorem OwnR.toM {w : World} {g n cap : Nat} {f : Nat → Nat} (h : OwnR w g n cap f) : OwnM w g n cap f := ⟨h.cell, h.there, fun i _ => h.free i, h.le, h.lt⟩
theorem OwnM.of_block {w w' : World} {g n cap : Nat} {f : Nat → Nat} (h : OwnM w g n cap f) (e : w'.heap[g]? = w.heap[g]?) (hl : g < w'.heap.size) : OwnM w' g n cap f where
  cell := fun i hi => (World.cell?_of_block (a := ⟨g, i, none⟩) e).trans (h.cell i hi)
  there := fun i hi => by rw [World.cell?_of_block (a := ⟨g, i, none⟩) e]; exact h.there i hi
  free := fun i hi => by
    have h1 := h.free i hi
    unfold World.frozen? at h1 ⊢
    simp only at h1 ⊢
    rw [e]; exact h1
  le := h.le
  lt := hl
theorem OwnM.grown {w w' : World} {g n cap : Nat} {f : Nat → Nat} (h : OwnM w g n cap f) {row : Option Nat} (e : w.grownBy w' row) (hr : some g ≠ row) : OwnM w' g n cap f :=
  h.of_block (e.block g h.lt hr) (Nat.lt_of_lt_of_le h.lt e.size)
theorem OwnM.congr {w : World} {g n cap : Nat} {f f' : Nat → Nat} (h : OwnM w g n cap f) (e : ∀ i, i < n → f i = f' i) : OwnM w g n cap f' :=
  ⟨fun i hi => by rw [← e i hi]; exact h.cell i hi, h.there, h.free, h.le, h.lt⟩
theorem OwnM.rd {w : World} {g n cap : Nat} {f : Nat → Nat} (h : OwnM w g n cap f) : Rd w w.heap.size (some ⟨g, 0, none⟩) n f :=
  ⟨fun _ => ⟨g, 0, rfl, h.lt, fun i hi => by rw [Nat.zero_add]; exact h.cell i hi⟩⟩

/-- What append leaves. -/
structure ApM (w : World) (g n m : Nat) (f f' : Nat → Nat) (v : Value) (w' : World) : Prop where
  ex : ∃ g' cap', v = .slice (some ⟨g', 0, none⟩) (n + m : Nat) cap' ∧ OwnM w' g' (n + m) cap' (cat n f f') ∧ w.grownBy w' (some g) ∧ (g' = g ∨ w.heap.size ≤ g')

theorem app_runM {w : World} {B g n cap m : Nat} {a : Option Addr} {f f' : Nat → Nat} (c : Nat) (ty : TypeId) (h : OwnM w g n cap f) (hx : Rd w B a m f') (hn : n + m ≤ 2 ^ 46) :
    ∃ v w', (Builtin.append_ #[23, 23] ty #[.slice (some ⟨g, 0, none⟩) n cap, .slice a m c]).run Tryd.prog w = .ok v w' ∧ ApM w g n m f f' v w' := by
  obtain ⟨i0, hi, hz, hsz, hby⟩ := info_parts info_u8
  have hsrc := src_bytes c hx
  have hl : (bytesOf m f').length = m := bytesOf_length m f'
  rw [← hsz] at hsrc
  by_cases hroom : n + m ≤ cap
  · have hr := run_append_room_src w 23 23 ty 5 i0 under_bytes hi g 0 n cap (.slice a m c) m (bytesOf m f') hsrc hroom
      (fun j hj => by rw [hsz, Nat.zero_add, Nat.mul_one]; exact h.there _ (by omega)) (fun j hj => h.free _ (by rw [hsz]; omega))
    rw [hsz, Nat.zero_add, Nat.mul_one] at hr
    have hout : ∀ i, i < n → (w.setCells g n (bytesOf m f')).cell? ⟨g, i, none⟩ = w.cell? ⟨g, i, none⟩ := fun i hi => World.cell?_setCells_out g _ _ w ⟨g, i, none⟩ (fun _ _ => Or.inl hi)
    have hin : ∀ j, j < m → (w.setCells g n (bytesOf m f')).cell? ⟨g, n + j, none⟩ = some (.int .u8 (f' j)) := fun j hj => by
      have := World.cell?_setCells_in g (bytesOf m f') n w (fun i hi => h.there _ (by omega)) j (by omega)
      rw [this]
      simp [bytesOf]
    have hth : ∀ i, i < cap → ((w.setCells g n (bytesOf m f')).cell? ⟨g, i, none⟩).isSome = true := fun i hi => by
      by_cases e : i < n
      · rw [hout i e]; exact h.there i hi
      · by_cases e2 : i < n + m
        · have := hin (i - n) (by omega)
          rw [show n + (i - n) = i by omega] at this
          rw [this]; rfl
        · rw [World.cell?_setCells_out g _ _ w ⟨g, i, none⟩ (fun _ _ => Or.inr (by rw [hl]; show n + m ≤ i; omega))]; exact h.there i hi
    have hfr : ∀ i, i < cap → (w.setCells g n (bytesOf m f')).frozen? ⟨g, i, none⟩ = false := fun i hi => by rw [World.frozen?_setCells]; exact h.free i hi
    have hg := grown_setCells g (Or.inr rfl) (bytesOf m f') n w (grown_refl w (some g))
    have hlt := Nat.lt_of_lt_of_le h.lt hg.size
    refine ⟨_, _, hr, ⟨g, cap, rfl, ⟨fun i hi => ?_, hth, hfr, hroom, hlt⟩, hg, Or.inl rfl⟩⟩
    unfold cat
    by_cases e : i < n
    · rw [if_pos e, hout i e]; exact h.cell i e
    · have := hin (i - n) (by omega)
      rw [show n + (i - n) = i by omega] at this
      rw [if_neg e, this]
  · have hfit : Builtin.nextslicecap (n + m) cap * i0.bytes ≤ 281474976710656 := by
      rw [hby]
      have := nextslicecap_le (need := n + m) (old := cap) (by omega)
      omega
    have hr := run_append_grow_src w 23 23 ty 5 i0 (.int .u8 0) under_bytes hi hz (some ⟨g, 0, none⟩) n cap (bytesOf n f)
      (by
        rw [hsz]
        refine run_firstCells_some w.drew 1 n ⟨g, 0, none⟩ n cap (bytesOf n f) (by simp [bytesOf]) (fun j u hj => ?_)
        have hj' : j < n := by
          have := (List.getElem?_eq_some_iff.1 hj).1
          simpa [bytesOf] using this
        rw [bytesOf_get n f j hj'] at hj
        cases hj
        rw [Addr.add_mid, Nat.zero_add]
        exact h.cell j hj')
      (.slice a m c) m (bytesOf m f') hsrc (by omega) (by omega) hfit
    rw [bytesOf_append n m f f' (cat n f f') (fun i hi => by simp [cat, hi]) (fun i hi => by
      unfold cat; rw [if_neg (by omega), show n + i - n = i by omega])] at hr
    have hcg := grownCap_ge w (n + m) cap 5
    generalize grownCap w (n + m) cap 5 = cap' at *
    have hb := heap_alloc_new w.drew (.cells ((bytesOf (n + m) (cat n f f')).toArray ++ Builtin.zeroCells (Value.cells (.int .u8 0)) (cap' - (n + m))) 5)
    have hg := grown_alloc (grown_drew (grown_refl w (some g))) (.cells ((bytesOf (n + m) (cat n f f')).toArray ++ Builtin.zeroCells (Value.cells (.int .u8 0)) (cap' - (n + m))) 5)
    have hb' : w.drew.heap.size = w.heap.size := rfl
    rw [hb'] at hb
    refine ⟨_, _, hr, ⟨w.heap.size, cap', rfl, ⟨fun i hi => ?_, fun i hi => ?_, fun i _ => frozen_of_row _ _ _ _ _ hb, hcg, by simp [hb']⟩, hg, Or.inr (Nat.le_refl _)⟩⟩
    · rw [cell_of_row _ _ _ _ _ _ hb, Array.getElem?_append_left (by simpa [bytesOf] using hi)]
      simpa using bytesOf_get (n + m) (cat n f f') i hi
    · rw [cell_of_row _ _ _ _ _ _ hb, Array.getElem?_eq_getElem (by
        rw [Array.size_append, size_zeroCells]
        simp [bytesOf, Value.cells]; omega)]
      rfl
/-- A text's bytes. -/
theorem bytes_ofM (w : World) (n : Nat) (f : Nat → Nat) (hf : ∀ i, f i < 256) : ∃ cap w', (convert 9 23 (.string (strOf n f))).run Tryd.prog w = .ok (.slice (some ⟨w.heap.size, 0, none⟩) n cap) w' ∧ w.grownBy w' none ∧ OwnM w' w.heap.size n cap f := by
  have hr := run_bytes_of_string (P := Tryd.prog) w 9 23 5 (strOf n f) (by kernel_rfl) (by kernel_rfl) (by kernel_rfl)
  rw [strOf_size] at hr
  have hcg := grownCap_ge w n 0 5
  generalize grownCap w n 0 5 = cap at *
  have hz : (bytesRow (strOf n f) cap).size = cap := by
    have h1 : (strOf n f).data.size = n := strOf_size n f
    have h2 : (strOf n f).size = n := strOf_size n f
    unfold bytesRow
    rw [Array.size_append, Array.size_map, Array.size_replicate, h1, h2]
    omega
  refine ⟨cap, _, hr, grown_alloc (grown_drew (grown_refl w none)) _, ⟨fun i hi => ?_, fun i hi => ?_, fun i hi => ?_, hcg, by simp⟩⟩
  · rw [Joins.cell_alloc_mark_at w.drew (bytesRow (strOf n f) cap) 5 _ w.heap.size i rfl]
    unfold bytesRow
    rw [Array.getElem?_append_left (by simpa [strOf] using hi)]
    have := hf i
    simp [strOf, hi, UInt8.toNat_ofNat']
    omega
  · rw [Joins.cell_alloc_mark_at w.drew (bytesRow (strOf n f) cap) 5 _ w.heap.size i rfl, Array.getElem?_eq_getElem (by rw [hz]; exact hi)]
    rfl
  · have := World.frozen?_alloc_mark w.drew (bytesRow (strOf n f) cap) 5 (bytesRow (strOf n f) cap).size ((bytesRow (strOf n f) cap).size + 1) i
    rw [show w.drew.heap.size = w.heap.size from rfl] at this
    rw [this, hz]
    simp
    omega
end Go.Proofs.YtobaplndoaeoiaaDoor
