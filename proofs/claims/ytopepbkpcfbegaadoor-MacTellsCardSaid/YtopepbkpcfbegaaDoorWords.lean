/-
  Words of 64 bits that a call has gathered: as Bytes and OwnR have it for bytes (made out of their texts by a program).
-/
import Derived.Test.YtopepbkpcfbegaaDoorOwnR
namespace Go.Proofs.YtopepbkpcfbegaaDoor
open Go.RowKit

/-- L words that can be read, below block B. -/
structure RdW (w : World) (B : Nat) (a : Option Addr) (L : Nat) (g : Nat → Nat) : Prop where
  ex : 0 < L → ∃ tb o, a = some ⟨tb, o, none⟩ ∧ tb < B ∧ ∀ i, i < L → w.cell? ⟨tb, o + i, none⟩ = some (.int .u64 (g i))
theorem RdW.grown {w w' : World} {B : Nat} {a : Option Addr} {L : Nat} {g : Nat → Nat} (h : RdW w B a L g) {row : Option Nat} (hg : w.grownBy w' row) (hr : ∀ k, row = some k → B ≤ k) : RdW w' B a L g where
  ex := fun hL => by
    obtain ⟨tb, o, h1, h2, h3⟩ := h.ex hL
    exact ⟨tb, o, h1, h2, fun i hi => hg.cell (h3 i hi) (fun e => by have := hr tb e.symm; omega)⟩
theorem RdW.mono {w : World} {B B' : Nat} {a : Option Addr} {L : Nat} {g : Nat → Nat} (h : RdW w B a L g) (hB : B ≤ B') : RdW w B' a L g where
  ex := fun hL => by
    obtain ⟨tb, o, h1, h2, h3⟩ := h.ex hL
    exact ⟨tb, o, h1, by omega, h3⟩
theorem RdW.of_block {w w' : World} {B : Nat} {a : Option Addr} {L : Nat} {g : Nat → Nat} (h : RdW w B a L g) (e : ∀ k, k < B → w'.heap[k]? = w.heap[k]?) : RdW w' B a L g where
  ex := fun hL => by
    obtain ⟨tb, o, h1, h2, h3⟩ := h.ex hL
    exact ⟨tb, o, h1, h2, fun i hi => (World.cell?_of_block (a := ⟨tb, o + i, none⟩) (e tb h2)).trans (h3 i hi)⟩
theorem RdW.congr {w : World} {B : Nat} {a : Option Addr} {L : Nat} {g g' : Nat → Nat} (h : RdW w B a L g) (e : ∀ i, i < L → g i = g' i) : RdW w B a L g' where
  ex := fun hL => by
    obtain ⟨tb, o, h1, h2, h3⟩ := h.ex hL
    exact ⟨tb, o, h1, h2, fun i hi => by rw [← e i hi]; exact h3 i hi⟩
/-- n words as values. -/
def wsOf (n : Nat) (f : Nat → Nat) : List Value := (List.range n).map fun i => .int .u64 (f i)
theorem wsOf_length (n : Nat) (f : Nat → Nat) : (wsOf n f).length = n := by simp [wsOf]
theorem wsOf_get (n : Nat) (f : Nat → Nat) (i : Nat) (h : i < n) : (wsOf n f)[i]? = some (.int .u64 (f i)) := by simp [wsOf, h]
theorem wsOf_append (n m : Nat) (f g h : Nat → Nat) (h1 : ∀ i, i < n → h i = f i) (h2 : ∀ i, i < m → h (n + i) = g i) : wsOf n f ++ wsOf m g = wsOf (n + m) h := by
  apply List.ext_getElem
  · simp [wsOf]
  · intro i a b
    simp only [wsOf, List.getElem_append, List.length_map, List.length_range, List.getElem_map, List.getElem_range]
    have hi : i < n + m := by simpa [wsOf] using b
    by_cases e : i < n
    · simp [e, h1 i e]
    · have := h2 (i - n) (by omega)
      rw [show n + (i - n) = i by omega] at this
      simp [e, this]
theorem wsOf_oneCell (n : Nat) (f : Nat → Nat) : ∀ u ∈ wsOf n f, u.oneCell' = true := by
  intro u hu
  obtain ⟨i, _, rfl⟩ := List.mem_map.1 hu
  rfl

/-- The slice v owns n words, in a block from base on. -/
structure OwnW (w : World) (base : Nat) (v : Value) (n : Nat) (f : Nat → Nat) : Prop where
  row : w.ownsRow base 58 1 v n (wsOf n f)

theorem OwnW.nil (w : World) (base : Nat) (f : Nat → Nat) : OwnW w base (.slice none 0 0) 0 f := ⟨World.ownsRow_nil w base _ _⟩
theorem OwnW.congr {w : World} {base : Nat} {v : Value} {n : Nat} {f g : Nat → Nat} (h : OwnW w base v n f) (e : ∀ i, i < n → f i = g i) : OwnW w base v n g := by
  have : wsOf n f = wsOf n g := List.map_congr_left (fun i hi => by rw [e i (List.mem_range.1 hi)])
  exact ⟨by rw [← this]; exact h.row⟩
theorem OwnW.ex {w : World} {base : Nat} {v : Value} {n : Nat} {f : Nat → Nat} (h : OwnW w base v n f) : ∃ a c, v = .slice a n c ∧ n ≤ c ∧ RdW w w.heap.size a n f := by
  rcases h.row with ⟨_, ⟨rfl, rfl⟩ | ⟨g, cap, cur, rfl, hb, hr, hnc, hm, hcs, htk⟩⟩
  · exact ⟨none, 0, rfl, Nat.le_refl _, ⟨fun h => absurd h (by omega)⟩⟩
  · refine ⟨_, _, rfl, hnc, ⟨fun _ => ⟨g, 0, rfl, ?_, fun i hi => ?_⟩⟩⟩
    · by_cases hg : g < w.heap.size
      · exact hg
      · have h0 : w.heap[g]? = none := by simp; omega
        rw [h0] at hr; cases hr
    · rw [Nat.zero_add, cell_of_row _ _ _ _ _ _ hr]
      have h2 := wsOf_get n f i hi
      rw [← htk] at h2
      simp only [Nat.mul_one, List.getElem?_take, hi, if_true] at h2
      rw [← Array.getElem?_toList]; exact h2
theorem OwnW.grown {w w' : World} {base : Nat} {v : Value} {n : Nat} {f : Nat → Nat} (h : OwnW w base v n f) (g : w.grownBy w' none) : OwnW w' base v n f :=
  ⟨h.row.kept g (by cases hv : v.ownBlock <;> simp)⟩
/-- What is written by the call's own append is new. -/
theorem grown_ownW {w0 w w' : World} {v : Value} {n : Nat} {f : Nat → Nat} (h : w0.grownBy w none) (ho : OwnW w w0.heap.size v n f) (g : w.grownBy w' v.ownBlock) : w0.grownBy w' none := by
  cases hv : v.ownBlock with
  | none => rw [hv] at g; exact grown_trans h g
  | some b => rw [hv] at g; exact grown_new h g (ho.row.lt b hv).1

/-- What is handed back: n words of the call's own, or none. -/
structure GaveW (w : World) (n : Nat) (f : Nat → Nat) (e : Ending) (w' : World) : Prop where
  ex : ∃ v, e = .returned v ∧ OwnW w' w.heap.size v n f ∧ w.grownBy w' none

theorem info_u64 : (Tryd.prog.info? 58).map (fun i => (i.zero, i.size, i.bytes)) = some (some (.int .u64 0), 1, 8) := by kernel_rfl
theorem under_words : Tryd.prog.underlying 85 = some (.slice 58) := by kernel_rfl

/-- 'append(s, x...)' of words, s the call's own, x words that can be read. -/
theorem wpList_appW {ops : Array Oper} {rest : List Oper} {o : Oper} {a : Act} {w : World} {Q : Exit → Act → World → Prop} (hgd : o.guard = none) (s x : Operand)
    (ho : o.op = .call { callee := .builtin .append, args := #[s, x], argTypes := #[85, 85] })
    (base : Nat) (v : Value) (n : Nat) (f : Nat → Nat) (hs : a.eval s = v) (hown : OwnW w base v n f) (ad : Addr) (m c : Nat) (g : Nat → Nat) (hx : a.eval x = .slice (some ad) m c)
    (hnews : ∀ j, j < m → w.cell? (ad.add j) = some (.int .u64 (g j))) (h63 : n + m ≤ 2 ^ 44) (hbase : base ≤ w.heap.size)
    (h : ∀ v' w', OwnW w' base v' (n + m) (fun i => if i < n then f i else g (i - n)) → w.grownBy w' v.ownBlock → wpList Tryd.prog ops Q rest (a.put o.dst v') w') : wpList Tryd.prog ops Q (o :: rest) a w := by
  obtain ⟨i0, hi, hz, hsz, hby⟩ := info_parts info_u64
  refine wpList_append_own w hgd s x 85 ho base 58 i0 (.int .u64 0) 1 8 under_words hi hz hsz hby rfl (by decide) v n (wsOf n f) hs hown.row ad m c (wsOf m g) hx (by simp [wsOf]) (fun j u hj => ?_) (wsOf_oneCell m g)
    (by unfold maxLen; omega) (by omega) hbase (fun v' w' h1 h2 _ => h v' w' ⟨?_⟩ h2)
  · have hjm : j < m := by
      have := (List.getElem?_eq_some_iff.1 hj).1
      simpa [wsOf] using this
    rw [wsOf_get m g j hjm] at hj
    cases hj
    exact hnews j hjm
  · rw [wsOf_append n m f g (fun i => if i < n then f i else g (i - n)) (fun i hi => by simp [hi]) (fun i hi => by
      simp only [show ¬ (n + i < n) by omega, if_false, show n + i - n = i by omega])] at h1
    exact h1

/-- Block g holds n words, and room for cap of them. -/
structure OwnV (w : World) (g n cap : Nat) (f : Nat → Nat) : Prop where
  cell : ∀ i, i < n → w.cell? ⟨g, i, none⟩ = some (.int .u64 (f i))
  there : ∀ i, i < cap → (w.cell? ⟨g, i, none⟩).isSome = true
  free : ∀ i, w.frozen? ⟨g, i, none⟩ = false
  le : n ≤ cap
  lt : g < w.heap.size

theorem OwnV.of_block {w w' : World} {g n cap : Nat} {f : Nat → Nat} (h : OwnV w g n cap f) (e : w'.heap[g]? = w.heap[g]?) (hl : g < w'.heap.size) : OwnV w' g n cap f where
  cell := fun i hi => (World.cell?_of_block (a := ⟨g, i, none⟩) e).trans (h.cell i hi)
  there := fun i hi => by rw [World.cell?_of_block (a := ⟨g, i, none⟩) e]; exact h.there i hi
  free := fun i => (World.frozen?_of_block (a := ⟨g, i, none⟩) e).trans (h.free i)
  le := h.le
  lt := hl
theorem OwnV.grown {w w' : World} {g n cap : Nat} {f : Nat → Nat} (h : OwnV w g n cap f) {row : Option Nat} (e : w.grownBy w' row) (hr : some g ≠ row) : OwnV w' g n cap f :=
  h.of_block (e.block g h.lt hr) (Nat.lt_of_lt_of_le h.lt e.size)
theorem OwnV.congr {w : World} {g n cap : Nat} {f f' : Nat → Nat} (h : OwnV w g n cap f) (e : ∀ i, i < n → f i = f' i) : OwnV w g n cap f' :=
  { h with cell := fun i hi => by rw [← e i hi]; exact h.cell i hi }
theorem OwnV.rd {w : World} {g n cap : Nat} {f : Nat → Nat} (h : OwnV w g n cap f) : RdW w w.heap.size (some ⟨g, 0, none⟩) n f :=
  ⟨fun _ => ⟨g, 0, rfl, h.lt, fun i hi => by rw [Nat.zero_add]; exact h.cell i hi⟩⟩
theorem OwnV.set {w : World} {g n cap : Nat} {f : Nat → Nat} (h : OwnV w g n cap f) (i v : Nat) (hi : i < n) : OwnV (w.setCell ⟨g, i, none⟩ (.int .u64 v)) g n cap (upd f i v) where
  cell := fun j hj => by
    by_cases e : j = i
    · subst e; rw [upd_same]; exact World.cell?_setCell_same w _ _ (h.cell j hj)
    · rw [upd_other _ _ _ _ e]; exact cell_set (h.cell j hj) (ne_off (fun e' => e e'.symm))
  there := fun j hj => by
    by_cases e : j = i
    · subst e; rw [World.cell?_setCell_same w _ _ (h.cell j hi)]; rfl
    · rw [World.cell?_setCell_other _ _ _ _ (ne_off (fun e' => e e'.symm))]; exact h.there j hj
  free := fun j => by rw [World.frozen?_setCell]; exact h.free j
  le := h.le
  lt := by simpa [World.setCell] using h.lt
theorem ownV_empty (w : World) : OwnV (w.alloc (.cells #[] 58)) w.heap.size 0 0 (fun _ => 0) where
  cell := fun i hi => absurd hi (by omega)
  there := fun i hi => absurd hi (by omega)
  free := fun i => frozen_of_row _ _ _ _ _ (heap_alloc_new w (.cells #[] 58))
  le := Nat.le_refl _
  lt := by simp

/-- Bytes that can be read, as what is appended. -/
theorem src_words {w : World} {B : Nat} {a : Option Addr} {m : Nat} {f : Nat → Nat} (c : Nat) (h : RdW w B a m f) : Src Tryd.prog 1 85 (.slice a m c) m (wsOf m f) w := by
  cases a with
  | none =>
    have h0 : m = 0 := by
      by_cases e : 0 < m
      · obtain ⟨_, _, h1, _⟩ := h.ex e
        cases h1
      · omega
    subst h0
    exact Src.ofNil w under_words c
  | some ad =>
    refine Src.ofSlice w under_words ad m c (wsOf m f) (by simp [wsOf]) (fun j u hj => ?_) (wsOf_oneCell m f)
    have hj' : j < m := by
      have := (List.getElem?_eq_some_iff.1 hj).1
      simpa [wsOf] using this
    rw [wsOf_get m f j hj'] at hj
    cases hj
    obtain ⟨tb, o, h1, _, h3⟩ := h.ex (by omega)
    cases h1
    rw [Addr.add_mid]
    exact h3 j hj'

/-- What append leaves. -/
structure AppedW (w : World) (g n cap m : Nat) (f f' : Nat → Nat) (v : Value) (w' : World) : Prop where
  ex : ∃ g' cap', v = .slice (some ⟨g', 0, none⟩) (n + m) cap' ∧ OwnV w' g' (n + m) cap' (cat n f f') ∧ OwnV w' g n cap f ∧ w.grownBy w' (some g) ∧ (g' = g ∨ w.heap.size ≤ g')

theorem app_runW {w : World} {B g n cap m : Nat} {a : Option Addr} {f f' : Nat → Nat} (c : Nat) (ty : TypeId) (h : OwnV w g n cap f) (hx : RdW w B a m f') (hn : n + m ≤ 2 ^ 44) :
    ∃ v w', (Builtin.append_ #[85, 85] ty #[.slice (some ⟨g, 0, none⟩) n cap, .slice a m c]).run Tryd.prog w = .ok v w' ∧ AppedW w g n cap m f f' v w' := by
  obtain ⟨i0, hi, hz, hsz, hby⟩ := info_parts info_u64
  have hsrc := src_words c hx
  have hl : (wsOf m f').length = m := wsOf_length m f'
  rw [← hsz] at hsrc
  by_cases hroom : n + m ≤ cap
  · have hr := run_append_room_src w 85 85 ty 58 i0 under_words hi g 0 n cap (.slice a m c) m (wsOf m f') hsrc hroom
      (fun j hj => by rw [hsz, Nat.zero_add, Nat.mul_one]; exact h.there _ (by omega)) (fun j _ => h.free _)
    rw [hsz, Nat.zero_add, Nat.mul_one] at hr
    have hout : ∀ i, i < n → (w.setCells g n (wsOf m f')).cell? ⟨g, i, none⟩ = w.cell? ⟨g, i, none⟩ := fun i hi => World.cell?_setCells_out g _ _ w ⟨g, i, none⟩ (fun _ _ => Or.inl hi)
    have hin : ∀ j, j < m → (w.setCells g n (wsOf m f')).cell? ⟨g, n + j, none⟩ = some (.int .u64 (f' j)) := fun j hj => by
      have := World.cell?_setCells_in g (wsOf m f') n w (fun i hi => h.there _ (by omega)) j (by omega)
      rw [this]
      simp [wsOf]
    have hth : ∀ i, i < cap → ((w.setCells g n (wsOf m f')).cell? ⟨g, i, none⟩).isSome = true := fun i hi => by
      by_cases e : i < n
      · rw [hout i e]; exact h.there i hi
      · by_cases e2 : i < n + m
        · have := hin (i - n) (by omega)
          rw [show n + (i - n) = i by omega] at this
          rw [this]; rfl
        · rw [World.cell?_setCells_out g _ _ w ⟨g, i, none⟩ (fun _ _ => Or.inr (by rw [hl]; show n + m ≤ i; omega))]; exact h.there i hi
    have hfr : ∀ i, (w.setCells g n (wsOf m f')).frozen? ⟨g, i, none⟩ = false := fun i => by rw [World.frozen?_setCells]; exact h.free i
    have hg := grown_setCells g (Or.inr rfl) (wsOf m f') n w (grown_refl w (some g))
    have hlt := Nat.lt_of_lt_of_le h.lt hg.size
    refine ⟨_, _, hr, ⟨g, cap, rfl, ⟨fun i hi => ?_, hth, hfr, hroom, hlt⟩, ⟨fun i hi => (hout i hi).trans (h.cell i hi), hth, hfr, h.le, hlt⟩, hg, Or.inl rfl⟩⟩
    unfold cat
    by_cases e : i < n
    · rw [if_pos e, hout i e]; exact h.cell i e
    · have := hin (i - n) (by omega)
      rw [show n + (i - n) = i by omega] at this
      rw [if_neg e, this]
  · have hfit : Builtin.nextslicecap (n + m) cap * i0.bytes ≤ 281474976710656 := by
      rw [hby]
      have := nextslicecap_le (need := n + m) (old := cap) (by omega)
      omega
    have hr := run_append_grow_src w 85 85 ty 58 i0 (.int .u64 0) under_words hi hz (some ⟨g, 0, none⟩) n cap (wsOf n f)
      (by
        rw [hsz]
        refine run_firstCells_some w.drew 1 n ⟨g, 0, none⟩ n cap (wsOf n f) (by simp [wsOf]) (fun j u hj => ?_)
        have hj' : j < n := by
          have := (List.getElem?_eq_some_iff.1 hj).1
          simpa [wsOf] using this
        rw [wsOf_get n f j hj'] at hj
        cases hj
        rw [Addr.add_mid, Nat.zero_add]
        exact h.cell j hj')
      (.slice a m c) m (wsOf m f') hsrc (by omega) (by omega) hfit
    rw [wsOf_append n m f f' (cat n f f') (fun i hi => by simp [cat, hi]) (fun i hi => by
      unfold cat; rw [if_neg (by omega), show n + i - n = i by omega])] at hr
    have hcg := grownCap_ge w (n + m) cap 58
    generalize grownCap w (n + m) cap 58 = cap' at *
    have hb := heap_alloc_new w.drew (.cells ((wsOf (n + m) (cat n f f')).toArray ++ Builtin.zeroCells (Value.cells (.int .u64 0)) (cap' - (n + m))) 58)
    have hg := grown_alloc (grown_drew (grown_refl w (some g))) (.cells ((wsOf (n + m) (cat n f f')).toArray ++ Builtin.zeroCells (Value.cells (.int .u64 0)) (cap' - (n + m))) 58)
    have hb' : w.drew.heap.size = w.heap.size := rfl
    rw [hb'] at hb
    have hg0 := grown_alloc (grown_drew (grown_refl w none)) (.cells ((wsOf (n + m) (cat n f f')).toArray ++ Builtin.zeroCells (Value.cells (.int .u64 0)) (cap' - (n + m))) 58)
    refine ⟨_, _, hr, ⟨w.heap.size, cap', rfl, ⟨fun i hi => ?_, fun i hi => ?_, fun i => frozen_of_row _ _ _ _ _ hb, hcg, by simp [hb']⟩, h.grown hg0 (by simp), hg, Or.inr (Nat.le_refl _)⟩⟩
    · rw [cell_of_row _ _ _ _ _ _ hb, Array.getElem?_append_left (by simpa [wsOf] using hi)]
      simpa using wsOf_get (n + m) (cat n f f') i hi
    · rw [cell_of_row _ _ _ _ _ _ hb, Array.getElem?_eq_getElem (by
        rw [Array.size_append, size_zeroCells]
        simp [wsOf, Value.cells]; omega)]
      rfl

theorem OwnW.toV {w : World} {base : Nat} {v : Value} {n : Nat} {f : Nat → Nat} (h : OwnW w base v n f) (hn : 0 < n) : ∃ g cap, v = .slice (some ⟨g, 0, none⟩) n cap ∧ OwnV w g n cap f ∧ base ≤ g := by
  rcases h.row with ⟨_, ⟨rfl, rfl⟩ | ⟨g, cap, cur, rfl, hb, hr, hnc, hm, hcs, htk⟩⟩
  · omega
  · refine ⟨g, cap, rfl, ⟨fun i hi => ?_, fun i hi => ?_, fun i => frozen_of_row _ _ _ _ _ hr, hnc, ?_⟩, hb⟩
    · rw [cell_of_row _ _ _ _ _ _ hr]
      have h2 := wsOf_get n f i hi
      rw [← htk] at h2
      simp only [Nat.mul_one, List.getElem?_take, hi, if_true] at h2
      rw [← Array.getElem?_toList]; exact h2
    · rw [cell_of_row _ _ _ _ _ _ hr, Array.getElem?_eq_getElem (by omega)]; rfl
    · by_cases hg : g < w.heap.size
      · exact hg
      · have h0 : w.heap[g]? = none := by simp; omega
        rw [h0] at hr; cases hr

/-- 'append' whose run is known, as a step of a region that draws its order. -/
theorem step_append_runW {Q0 : Program} {ops : Array Oper} {o : Oper} {a : Act} {w : World} {K : Act → World → Prop} {Q : Exit → Act → World → Prop} {E : Prop} (hgd : o.guard = none) (s x : Operand) (t t' : TypeId)
    (ho : o.op = .call { callee := .builtin .append, args := #[s, x], argTypes := #[t, t'] }) (vs vx v : Value) (w' : World) (hs : a.eval s = vs) (hx : a.eval x = vx)
    (hrun : (Builtin.append_ #[t, t'] o.type #[vs, vx]).run Q0 w = .ok v w') (h : K (a.put o.dst v) w') :
    if Region.wanted o (yielded ops a.tmps) = true then Oper.wp Q0 o a w K Q else E := by
  have hw : Region.wanted o (yielded ops a.tmps) = true := by simp [Region.wanted, hgd]
  rw [if_pos hw]
  unfold Oper.wp
  simp [execOp, ho, resolve, invoke, builtin, hs, hx, hrun, Result.andThen]
  exact h

end Go.Proofs.YtopepbkpcfbegaaDoor
