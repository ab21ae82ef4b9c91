/-
  The MAC under a key's block (Sum256).
-/
import Derived.Test.YtobaplndoaeoiaaDoorUnder32
import Derived.Deep.AppendSrc
import Derived.Deep.RegionHeld3
namespace Go.Proofs.YtobaplndoaeoiaaDoor
open Go.RowKit

set_option maxRecDepth 100000
set_option maxHeartbeats 2000000

/-- Bytes f, N of them, and g behind. -/
def gcat32 (N : Nat) (f g : Nat → Nat) : Nat → Nat := fun i => if i < N then f i else g (i - N)

/-- A slice of slices: one more ahead. -/
structure Ahead32 (w w' : World) (n : Nat) (off g kin : Nat → Nat) (v : Value) : Prop where
  ex : ∃ rb c, v = .slice (some ⟨rb, 0, none⟩) (n + 1) c ∧ n + 1 ≤ c ∧ w.grownBy w' none ∧ Texts w' w'.heap.size (some ⟨rb, 0, none⟩) (n + 1) (fun j => match j with | 0 => 0 | j + 1 => 64 + off j) (gcat32 64 kin g)

theorem info_bytes32 : (Tryd.prog.info? 23).map (fun i => (i.zero, i.size, i.bytes)) = some (some (.slice none 0 0), 1, 24) := by kernel_rfl

theorem Texts.below32 {w : World} {B B' : Nat} {a : Option Addr} {n : Nat} {off g : Nat → Nat} (h : Texts w B a n off g) (hB : B ≤ B') : Texts w B' a n off g where
  zero := h.zero
  ex := fun hn => by
    obtain ⟨lb, lo, h1, h2, h3⟩ := h.ex hn
    refine ⟨lb, lo, h1, by omega, fun j hj => ?_⟩
    obtain ⟨aj, L, c, k1, k2, k3, k4⟩ := h3 j hj
    refine ⟨aj, L, c, k1, k2, k3, fun hL => ?_⟩
    obtain ⟨tb, o, m1, m2, m3⟩ := k4 hL
    exact ⟨tb, o, m1, by omega, m3⟩

theorem append32 (ri n lc B : Nat) (la : Option Addr) (off g kin : Nat → Nat) (w1 : World) (hb : w1.heap[B]? = some (.cells #[.slice (some ⟨ri, 0, none⟩) 64 64] 23 (0, 0))) (hri : ri < w1.heap.size)
    (hka : ∀ i, i < 64 → w1.cell? ⟨ri, i, none⟩ = some (.int .u8 (kin i))) (hTa : Texts w1 w1.heap.size la n off g) (hn : n * 24 ≤ 2 ^ 47) (ty : TypeId) :
    ∃ v w', (Builtin.append_ #[71, 71] ty #[.slice (some ⟨B, 0, none⟩) 1 1, .slice la n lc]).run Tryd.prog w1 = .ok v w' ∧ Ahead32 w1 w' n off g kin v := by
  obtain ⟨i0, hi, hz, hs, hby⟩ := info_parts info_bytes32
  have hu : Tryd.prog.underlying 71 = some (.slice 23) := by kernel_rfl
  have hBl : B < w1.heap.size := by
    by_cases h : B < w1.heap.size
    · exact h
    · have h0 : w1.heap[B]? = none := by simp; omega
      rw [h0] at hb; cases hb
  by_cases h0 : n = 0
  · subst h0
    have hsrc : Src Tryd.prog i0.size 71 (.slice la 0 lc) 0 [] w1 := by
      cases la with
      | none => exact Src.ofNil w1 hu lc
      | some a => exact Src.ofSlice w1 hu a 0 lc [] (by simp) (by simp) (by simp)
    refine ⟨_, _, run_append_room_src w1 71 71 ty 23 i0 hu hi B 0 1 1 (.slice la 0 lc) 0 [] hsrc (by omega) (by simp) (by simp), ⟨B, 1, rfl, by omega, grown_refl _ _, rfl, fun _ => ⟨B, 0, rfl, by exact hBl, fun j hj => ?_⟩⟩⟩
    obtain rfl : j = 0 := by omega
    refine ⟨some ⟨ri, 0, none⟩, 64, 64, ?_, Nat.le_refl _, by simp [hTa.zero], fun _ => ⟨ri, 0, rfl, by show _ < w1.heap.size; omega, fun i hi => ?_⟩⟩
    · show w1.cell? _ = _
      rw [cell_of_row _ _ _ _ _ _ hb]; rfl
    · show w1.cell? _ = _
      rw [Nat.zero_add, hka i hi]; simp [gcat32, hi]
  · obtain ⟨lb, lo, rfl, hlb, hel⟩ := hTa.ex (by omega)
    obtain ⟨news, hnews⟩ : ∃ news : List Value, news = (List.range n).map fun j => (w1.cell? ⟨lb, lo + j, none⟩).getD undef := ⟨_, rfl⟩
    have hnl : news.length = n := by rw [hnews]; simp
    have hng : ∀ j, j < n → ∃ u, news[j]? = some u ∧ w1.cell? ⟨lb, lo + j, none⟩ = some u := by
      intro j hj
      obtain ⟨aj, L, c, k1, _⟩ := hel j hj
      exact ⟨_, by rw [hnews]; simp [hj, k1], k1⟩
    have hsrc : Src Tryd.prog i0.size 71 (.slice (some ⟨lb, lo, none⟩) n lc) n news w1 := by
      refine Src.ofSlice w1 hu ⟨lb, lo, none⟩ n lc news (by rw [hs, hnl, Nat.mul_one]) (fun j u hj => ?_) (fun u hu' => ?_)
      · have hjn : j < n := by rw [← hnl]; exact (List.getElem?_eq_some_iff.1 hj).1
        obtain ⟨u', h1, h2⟩ := hng j hjn
        rw [h1] at hj
        cases hj
        rw [Addr.add_mid]; exact h2
      · rw [hnews] at hu'
        obtain ⟨j, hj, rfl⟩ := List.mem_map.1 hu'
        obtain ⟨aj, L, c, k1, _⟩ := hel j (List.mem_range.1 hj)
        rw [k1]; rfl
    have hcap : Builtin.nextslicecap (1 + n) 1 * i0.bytes ≤ 281474976710656 := by
      rw [hby]
      unfold Builtin.nextslicecap
      split
      · omega
      · split <;> omega
    have hap := run_append_grow_src w1 71 71 ty 23 i0 (.slice none 0 0) hu hi hz (some ⟨B, 0, none⟩) 1 1 [.slice (some ⟨ri, 0, none⟩) 64 64]
      (by
        rw [hs]
        exact run_firstCells_some w1.drew 1 1 ⟨B, 0, none⟩ 1 1 [.slice (some ⟨ri, 0, none⟩) 64 64] rfl (fun j u hj => by
          have hj0 : j = 0 := by
            have := (List.getElem?_eq_some_iff.1 hj).1
            simp at this; omega
          subst hj0
          cases hj
          show w1.cell? ⟨B, 0, none⟩ = _
          rw [cell_of_row _ _ _ _ _ _ hb]; rfl))
      (.slice (some ⟨lb, lo, none⟩) n lc) n news hsrc (by omega) (by omega) hcap
    rw [Nat.add_comm 1 n] at hap
    refine ⟨_, _, hap, ⟨w1.heap.size, _, rfl, grownCap_ge w1 (n + 1) 1 23, grown_alloc (grown_drew (grown_refl _ _)) _, rfl, fun _ => ⟨w1.heap.size, 0, rfl, by simp, fun j hj => ?_⟩⟩⟩
    have hrow : (w1.drew.alloc (.cells (([Value.slice (some ⟨ri, 0, none⟩) 64 64] ++ news).toArray ++ Builtin.zeroCells (Value.cells (.slice none 0 0)) (grownCap w1 (n + 1) 1 23 - (n + 1))) 23)).heap[w1.heap.size]? = some (.cells (([Value.slice (some ⟨ri, 0, none⟩) 64 64] ++ news).toArray ++ Builtin.zeroCells (Value.cells (.slice none 0 0)) (grownCap w1 (n + 1) 1 23 - (n + 1))) 23) := heap_alloc_new w1.drew _
    have hgf := grown_alloc (grown_drew (grown_refl w1 none)) (.cells (([Value.slice (some ⟨ri, 0, none⟩) 64 64] ++ news).toArray ++ Builtin.zeroCells (Value.cells (.slice none 0 0)) (grownCap w1 (n + 1) 1 23 - (n + 1))) 23)
    cases j with
    | zero =>
      refine ⟨some ⟨ri, 0, none⟩, 64, 64, ?_, Nat.le_refl _, by simp [hTa.zero], fun _ => ⟨ri, 0, rfl, by simp; omega, fun i hi => ?_⟩⟩
      · rw [cell_of_row _ _ _ _ _ _ hrow, Array.getElem?_append_left (by simp)]; rfl
      · rw [Nat.zero_add, hgf.cell (hka i hi) (by simp)]; simp [gcat32, hi]
    | succ j =>
      have hjn : j < n := by omega
      obtain ⟨aj, L, c, k1, k2, k3, k4⟩ := hel j hjn
      obtain ⟨u, n1, n2⟩ := hng j hjn
      rw [k1] at n2
      cases n2
      refine ⟨aj, L, c, ?_, k2, by simp only; omega, fun hL => ?_⟩
      · rw [cell_of_row _ _ _ _ _ _ hrow, Nat.zero_add, Array.getElem?_append_left (by simp; omega)]
        simpa using n1
      · obtain ⟨tb, o, m1, m2, m3⟩ := k4 hL
        refine ⟨tb, o, m1, by have := hgf.size; omega, fun i hi => ?_⟩
        rw [hgf.cell (m3 i hi) (by simp)]
        have e1 : ¬ (64 + off j + i < 64) := by omega
        have e2 : 64 + off j + i - 64 = off j + i := by omega
        simp [gcat32, e1, e2]

theorem step_append_run32 {Q0 : Program} {ops : Array Oper} {o : Oper} {a : Act} {w : World} {K : Act → World → Prop} {Q : Exit → Act → World → Prop} {E : Prop} (hgd : o.guard = none) (s x : Operand) (t t' : TypeId)
    (ho : o.op = .call { callee := .builtin .append, args := #[s, x], argTypes := #[t, t'] }) (vs vx v : Value) (w' : World) (hs : a.eval s = vs) (hx : a.eval x = vx)
    (hrun : (Builtin.append_ #[t, t'] o.type #[vs, vx]).run Q0 w = .ok v w') (h : K (a.put o.dst v) w') :
    if Region.wanted o (yielded ops a.tmps) = true then Oper.wp Q0 o a w K Q else E := by
  have hw : Region.wanted o (yielded ops a.tmps) = true := by simp [Region.wanted, hgd]
  rw [if_pos hw]
  unfold Oper.wp
  simp [execOp, ho, resolve, invoke, builtin, hs, hx, hrun, Result.andThen]
  exact h

theorem kmac32 (ri ro n lc : Nat) (la : Option Addr) (F K g off kin kout : Nat → Nat) (w : World) (hL : Laid w 1 2 F K) (hT : Texts w w.heap.size la n off g)
    (hg : ∀ i, g i < 256) (hF : ∀ i, F i < 2 ^ 64) (hK : ∀ i, K i < 2 ^ 64) (hn : n * 24 ≤ 2 ^ 47) (hN : off n < 2 ^ 60)
    (hki : ∀ i, i < 64 → w.cell? ⟨ri, i, none⟩ = some (.int .u8 (kin i))) (hko : ∀ i, i < 64 → w.cell? ⟨ro, i, none⟩ = some (.int .u8 (kout i))) (hkin : ∀ i, kin i < 256) (hkout : ∀ i, kout i < 256) :
    Calls Tryd.prog 32 #[.agg #[.int .u8 1, .slice (some ⟨ri, 0, none⟩) 64 64, .slice (some ⟨ro, 0, none⟩) 64 64], .slice la n lc] w
      (Gave w 74 32 (sumOf 32 64 P32 K (H32 F) (gcat32 64 kout (sumOf 32 64 P32 K (H32 F) (gcat32 64 kin g) (64 + off n))) (64 + 32))) := by
  go_enter Tryd.func32, Tryd.ntmps32
  have hgb := World.grownBy_alloc w (.cells #[.int .u8 1, .slice (some ⟨ri, 0, none⟩) 64 64, .slice (some ⟨ro, 0, none⟩) 64 64] 59) none
  have hbx := heap_alloc_new w (.cells #[.int .u8 1, .slice (some ⟨ri, 0, none⟩) 64 64, .slice (some ⟨ro, 0, none⟩) 64 64] 59)
  have hszb : (w.alloc (.cells #[.int .u8 1, .slice (some ⟨ri, 0, none⟩) 64 64, .slice (some ⟨ro, 0, none⟩) 64 64] 59)).heap.size = w.heap.size + 1 := by simp
  have hrl := World.block_lt_of_cell? w _ (hki 0 (by decide))
  have hrl2 := World.block_lt_of_cell? w _ (hko 0 (by decide))
  go_wp2_with fail
  generalize w.alloc (.cells #[.int .u8 1, .slice (some ⟨ri, 0, none⟩) 64 64, .slice (some ⟨ro, 0, none⟩) 64 64] 59) = w1 at *
  generalize hbn : w.heap.size = bx at *
  have Hbn := Lib.hid hbn
  clear hbn
  have hga := grown_drew (World.grownBy_alloc w1 (.cells #[.slice (some ⟨ri, 0, none⟩) 64 64] 23) none)
  have hg2 := grown_trans hgb hga
  have hb2 := heap_alloc_new w1 (.cells #[.slice (some ⟨ri, 0, none⟩) 64 64] 23)
  rw [hszb] at hb2
  have hz2 : (w1.alloc (.cells #[.slice (some ⟨ri, 0, none⟩) 64 64] 23)).heap.size = bx + 2 := by simp [hszb]
  have b0 : w1.cell? ⟨bx, 0, none⟩ = some (.int .u8 1) := by rw [cell_of_row _ _ _ _ _ _ hbx]; rfl
  have b1 : w1.cell? ⟨bx, 1, none⟩ = some (.slice (some ⟨ri, 0, none⟩) 64 64) := by rw [cell_of_row _ _ _ _ _ _ hbx]; rfl
  have b2 : w1.cell? ⟨bx, 2, none⟩ = some (.slice (some ⟨ro, 0, none⟩) 64 64) := by rw [cell_of_row _ _ _ _ _ _ hbx]; rfl
  have hT2 : Texts (w1.alloc (.cells #[.slice (some ⟨ri, 0, none⟩) 64 64] 23)).drew (w1.alloc (.cells #[.slice (some ⟨ri, 0, none⟩) 64 64] 23)).drew.heap.size la n off g :=
    (hT.grown hg2 (fun k e => by cases e)).below32 (by show _ ≤ (w1.alloc _).heap.size; omega)
  obtain ⟨v, w3, hap, hAh⟩ := append32 ri n lc (bx + 1) la off g kin (w1.alloc (.cells #[.slice (some ⟨ri, 0, none⟩) 64 64] 23)).drew hb2 (by show ri < (w1.alloc _).heap.size; omega) (fun i hi => hg2.cell (hki i hi) (by simp)) hT2 hn 71
  obtain ⟨rb, c3, rfl, hc3, hg3, hT3⟩ := hAh.ex
  have hgd3 := grown_trans hga hg3
  have hL3 := hL.grown (grown_trans hgb hgd3) (by simp) (by simp)
  have hgc : ∀ i, gcat32 64 kin g i < 256 := fun i => by unfold gcat32; split; exact hkin _; exact hg _
  have hs3 := msum32 (n + 1) c3 _ F K _ _ _ hL3 hT3 hgc hF hK (by omega) (by show 64 + off n < _; omega)
  have HS3 := Lib.hid hs3
  clear hs3
  have Hga := Lib.hid hga
  have Hgd3 := Lib.hid hgd3
  have Hap := Lib.hid hap
  clear hga hgd3 hap
  have hgr := grown_drew (grown_refl w1 none)
  have Hz2 := Lib.hid hz2
  have Hszb := Lib.hid hszb
  clear hz2
  go_region_held3 (fun w' => w1.grownBy w' none ∧ w'.cell? ⟨bx, 0, none⟩ = some (.int .u8 1) ∧ w'.cell? ⟨bx, 1, none⟩ = some (.slice (some ⟨ri, 0, none⟩) 64 64))
    (first
      | (with_reducible exact ⟨hgr, b0, b1⟩)
      | (with_reducible exact ⟨hgr, hgr.cell b0 (by simp), hgr.cell b1 (by simp)⟩)
      | (with_reducible exact ⟨Hga.out, Hga.out.cell b0 (by simp), Hga.out.cell b1 (by simp)⟩)
      | (with_reducible exact ⟨Hgd3.out, Hgd3.out.cell b0 (by simp), Hgd3.out.cell b1 (by simp)⟩)
      | (with_reducible exact ⟨grown_trans Hgd3.out hg', (grown_trans Hgd3.out hg').cell b0 (by simp), (grown_trans Hgd3.out hg').cell b1 (by simp)⟩))
    (first
      | (go_at_call 30; (with_reducible refine (HS3.out).mono ?_); rintro e w' ⟨rs, rfl, hrs, hOs, hg'⟩)
      | (refine step_append_run32 rfl (.tmp 10) (.tmp 11) 71 71 rfl (.slice (some ⟨bx + 1, 0, none⟩) 1 1) (.slice la n lc) (.slice (some ⟨rb, 0, none⟩) (n + 1) c3) w3 rfl rfl Hap.out ?_))
  have gw := grown_trans Hgd3.out hg'
  have b0' := gw.cell b0 (by simp)
  have b2' := gw.cell b2 (by simp)
  have gall := grown_trans hgb gw
  obtain ⟨f1, hf1⟩ : ∃ f1, f1 = sumOf 32 64 P32 K (H32 F) (gcat32 64 kin g) (64 + off n) := ⟨_, rfl⟩
  rw [← hf1] at hOs
  have hf1l : ∀ i, f1 i < 256 := fun i => by rw [hf1]; exact Nat.mod_lt _ (by decide)
  have gW := World.grownBy_alloc w' (.cells #[.slice (some ⟨ro, 0, none⟩) 64 64, .slice (some ⟨rs, 0, none⟩) 32 32] 23) none
  have bW := heap_alloc_new w' (.cells #[.slice (some ⟨ro, 0, none⟩) 64 64, .slice (some ⟨rs, 0, none⟩) 32 32] 23)
  have hrs' : rs < w'.heap.size := hOs.lt
  have gl := gall.size
  have hzW : (w'.alloc (.cells #[.slice (some ⟨ro, 0, none⟩) 64 64, .slice (some ⟨rs, 0, none⟩) 32 32] 23)).heap.size = w'.heap.size + 1 := by simp
  have hbn := Hbn.out
  have hT5 : Texts (w'.alloc (.cells #[.slice (some ⟨ro, 0, none⟩) 64 64, .slice (some ⟨rs, 0, none⟩) 32 32] 23)) (w'.alloc (.cells #[.slice (some ⟨ro, 0, none⟩) 64 64, .slice (some ⟨rs, 0, none⟩) 32 32] 23)).heap.size
      (some ⟨w'.heap.size, 0, none⟩) 2 (fun j => if j = 0 then 0 else if j = 1 then 64 else 64 + 32) (gcat32 64 kout f1) := ⟨rfl, fun _ => ⟨w'.heap.size, 0, rfl, by omega, fun j hj => by
    obtain rfl | rfl : j = 0 ∨ j = 1 := by omega
    · refine ⟨some ⟨ro, 0, none⟩, 64, 64, by rw [cell_of_row _ _ _ _ _ _ bW]; rfl, Nat.le_refl _, rfl, fun _ => ⟨ro, 0, rfl, by omega, fun i hi => ?_⟩⟩
      rw [if_pos rfl, Nat.zero_add, gW.cell (gall.cell (hko i hi) (by simp)) (by simp)]
      simp [gcat32, hi]
    · refine ⟨some ⟨rs, 0, none⟩, 32, 32, by rw [cell_of_row _ _ _ _ _ _ bW]; rfl, Nat.le_refl _, rfl, fun _ => ⟨rs, 0, rfl, by omega, fun i hi => ?_⟩⟩
      rw [if_neg (by decide), if_pos rfl, Nat.zero_add, gW.cell (hOs.cell i hi) (by simp)]
      have e1 : ¬ (64 + i < 64) := by omega
      have e2 : 64 + i - 64 = i := by omega
      simp [gcat32, e1, e2]⟩⟩
  have hgc5 : ∀ i, gcat32 64 kout f1 i < 256 := fun i => by unfold gcat32; split; exact hkout _; exact hf1l _
  have hs5 := msum32 2 2 _ F K _ _ _ (hL.grown (grown_trans gall gW) (by simp) (by simp)) hT5 hgc5 hF hK (by decide) (by decide)
  have HS5 := Lib.hid hs5
  have Hf1 := Lib.hid hf1
  have HgW := Lib.hid (grown_trans gall gW)
  have HzW := Lib.hid hzW
  have Hbn2 := Lib.hid hbn
  clear hs5 hT5 gW bW hzW hbn hszb hki hko hf1 hbx hb2 b0 b1 b2 hOs hT2 hT3 hL3
  go_wp2_with (go_at_call 30; (with_reducible refine (HS5.out).mono ?_); rintro e w6 ⟨rt, rfl, hrt, hO6, hg6⟩)
  go_ret
  rw [← Hf1.out]
  refine ⟨rt, rfl, ?_, hO6, grown_trans HgW.out hg6⟩
  have := HzW.out
  have := Hbn2.out
  omega

end Go.Proofs.YtobaplndoaeoiaaDoor
