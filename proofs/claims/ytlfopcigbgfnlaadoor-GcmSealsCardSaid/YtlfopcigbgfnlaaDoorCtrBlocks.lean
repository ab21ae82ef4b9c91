/-
  ctr's Blocks: the stream.
-/
import Derived.Test.YtlfopcigbgfnlaaDoorCtrNext
import Derived.Test.YtlfopcigbgfnlaaDoorStream
import Derived.Test.YtlfopcigbgfnlaaDoorAesSeal
import Derived.Test.YtlfopcigbgfnlaaDoorWideRow
namespace Go.Proofs.YtlfopcigbgfnlaaDoor
open Go.RowKit Go.Shelf

attribute [local go_sem] Oper.semAt_some

set_option maxRecDepth 100000
set_option maxHeartbeats 2000000

theorem blocks_any (p : Option Addr) (f : Nat → Nat) (w : World) : Calls Tryd.prog 33 #[.pointer p, .agg (cellsOf .u8 16 f)] w fun e w' => e = .returned (.func (.func 48) #[] #[.pointer (some ⟨w.heap.size, 0, none⟩), .pointer (some ⟨w.heap.size + 1, 0, none⟩)]) ∧
    w' = (w.alloc (.cells #[.pointer p] 45)).alloc (.cells (cellsOf .u8 16 f) 24) := by
  go_enter Tryd.func33, Tryd.ntmps33
  go_wp2
  go_ret
  exact ⟨rfl, rfl⟩

/-- A loop whose rounds are counted beside the frame. -/
theorem wpIn_loop_ghost {F : Fence} {n : Nat} {P : Program} {Q : Exit → Act → World → Prop} {c : Code} (R : Nat → Act → World → Prop) (M : Nat) (hM : ∀ k a w, R k a w → k ≤ M)
    (hround : ∀ k a w, R k a w → c.wpIn F n P (Exit.then (R (k + 1)) Q) a w) (k : Nat) (a : Act) (w : World) (h : R k a w) : (Code.loop c).wpIn F n P Q a w := by
  have key : ∀ r k a w, M + 1 ≤ k + r → R k a w → Code.roundsIn F n P c Q r a w := fun r => by
    induction r with
    | zero => exact fun k a w hr h => absurd (hM k a w h) (by omega)
    | succ r ih =>
      intro k a w hr h
      refine wpIn_mono (hround k a w h) fun e a' w' hq => ?_
      cases e with
      | normal => exact ih (k + 1) a' w' (by omega) hq
      | _ => exact hq
  exact wpIn_loop_rounds (M + 1) (key _ k a w (by omega) h)

theorem stream_run (n l M m R b1 b2 : Nat) (C W f : Nat → Nat) (hW : ∀ i, W i < 256) (hf : ∀ i, f i < 256) (h1 : 1 ≤ R) (hR : R ≤ 14) (hCc : Cols (4 * (R + 1)) W C) (hn : 1 ≤ n) (X : Nat → Prop) (A : Nat)
    (hXm : m < A ∧ ¬ X m) (hXg : 0 < A ∧ ¬ X 0) (hX1 : b1 < A ∧ ¬ X b1) (J : (Nat → Prop) → Nat → World → Prop) (Jx : Nat → World → Prop) (Z0 : Nat → Prop) (W0 : World) (hA : A ≤ W0.heap.size)
    (hJ : Above W0.heap.size J) (hZ : Within W0.heap.size J) (hM : ∀ Z k U, J Z k U → k ≤ M)
    (hY : ∀ Z k U, J Z k U → YieldAt Fence.wide (n - 1) Tryd.prog l #[.agg (cellsOf .u8 16 (strm R W f k))] U fun e U' =>
      (e = .returned (.bool true) ∧ (∃ Z', J Z' (k + 1) U' ∧ ∀ z, Z' z → Z z ∨ U.heap.size ≤ z) ∧ KeepS A W0.heap.size X Z U U') ∨ (e = .returned (.bool false) ∧ Jx (k + 1) U'))
    (hC : Ciph W0 m R C) (hL : LaidS W0 0) (hB1 : W0.cell? ⟨b1, 0, none⟩ = some (.pointer (some ⟨m, 0, none⟩))) (hB2 : Holds W0 b2 24 .u8 16 f) (h0 : J Z0 0 W0) :
    CallsIn Fence.wide n Tryd.prog 48 #[.func (.yield l) #[] #[], .pointer (some ⟨b1, 0, none⟩), .pointer (some ⟨b2, 0, none⟩)] W0 fun e U => (∃ v, e = .returned v) ∧ ∃ k, Jx k U := by
  have HJ := Lib.hid hJ
  have HY := Lib.hid hY
  have HZ := Lib.hid hZ
  have Hf := Lib.hid hf
  clear hJ hY hf hZ
  have hb2 := hB2.block
  refine callsIn_of_wp Tryd.func48 rfl trivial ?_ rfl
  simp only [Tryd.ntmps48, List.size_toArray, List.length_cons, List.length_nil, Nat.reduceAdd, Nat.reduceSub, Array.replicate_succ, Array.replicate_zero, List.push_toArray, List.append_toArray, List.nil_append, List.cons_append]
  refine wpIn_wide.2 ?_
  have hbn := heap_alloc_new W0 (.cells #[.int .u8 0, .int .u8 0, .int .u8 0, .int .u8 0, .int .u8 0, .int .u8 0, .int .u8 0, .int .u8 0, .int .u8 0, .int .u8 0, .int .u8 0, .int .u8 0, .int .u8 0, .int .u8 0, .int .u8 0, .int .u8 0] 24)
  have hN0 : Holds (W0.alloc (.cells #[.int .u8 0, .int .u8 0, .int .u8 0, .int .u8 0, .int .u8 0, .int .u8 0, .int .u8 0, .int .u8 0, .int .u8 0, .int .u8 0, .int .u8 0, .int .u8 0, .int .u8 0, .int .u8 0, .int .u8 0, .int .u8 0] 24)) W0.heap.size 24 .u8 16 (fun _ => 0) := holds_alloc W0 24 .u8 16 (fun _ => 0) _ zero16
  have hN1 := hN0.setRow .u8 16 f
  have hG1 := grown_setRow_new (World.grownBy_alloc W0 (.cells #[.int .u8 0, .int .u8 0, .int .u8 0, .int .u8 0, .int .u8 0, .int .u8 0, .int .u8 0, .int .u8 0, .int .u8 0, .int .u8 0, .int .u8 0, .int .u8 0, .int .u8 0, .int .u8 0, .int .u8 0, .int .u8 0] 24) none) W0.heap.size (cellsOf .u8 16 f) (Or.inl (Nat.le_refl _))
  have HN := Lib.hid hN1
  have HG := Lib.hid hG1
  clear hN0 hN1 hG1
  go_wp2_with (first
    | refine wpList_load_row rfl 24 (.tmp 2) rfl b2 rfl 24 _ (0, 0) (.array 16 5) hb2 (by kernel_rfl) rfl (by rw [cellsOf_size]; kernel_rfl) ?_
    | refine wpList_store_row rfl 24 (.tmp 4) (.tmp 7) rfl W0.heap.size _ rfl rfl 24 _ hbn (by rw [cellsOf_size]; kernel_rfl) rfl (cellsOf_all _ _ _) ?_)
  obtain ⟨W1, hW1⟩ : ∃ W1, W1 = (W0.alloc (.cells #[.int .u8 0, .int .u8 0, .int .u8 0, .int .u8 0, .int .u8 0, .int .u8 0, .int .u8 0, .int .u8 0, .int .u8 0, .int .u8 0, .int .u8 0, .int .u8 0, .int .u8 0, .int .u8 0, .int .u8 0, .int .u8 0] 24)).setRow W0.heap.size (cellsOf .u8 16 f) := ⟨_, rfl⟩
  have hN := HN.out
  have hG := HG.out
  rw [← hW1] at hN hG ⊢
  clear HN HG hbn hW1 hb2
  have hNl := hN.lt
  have hCW := hC.grown hG (by simp)
  have hLW := hL.grown hG (by simp)
  have hB1W := hG.cell hB1 (by simp)
  have hJ1 := HJ.out Z0 0 W0 W1 none h0 hG (fun r e => by cases e)
  have hz1 := hG.size
  clear hC hL hB1 hB2 hG
  refine (wpIn_wide (n := n)).1 ?_
  refine wpIn_loop_ghost (fun k a U => ∃ Z b u5 u6 u7 u8 u9 u10 u11 u12 u13 u14 u15, a = { tmps := #[.func (.yield l) #[] #[], .pointer (some ⟨b1, 0, none⟩), .pointer (some ⟨b2, 0, none⟩), undef, .pointer (some ⟨b, 0, none⟩), u5, u6, u7, u8, u9, u10, u11, u12, u13, u14, u15], defers := [] } ∧
      (W0.heap.size ≤ b ∧ ¬ Z b) ∧ W0.heap.size ≤ U.heap.size ∧ Holds U b 24 .u8 16 (ctrAt f k) ∧ J Z k U ∧ Ciph U m R C ∧ LaidS U 0 ∧ U.cell? ⟨b1, 0, none⟩ = some (.pointer (some ⟨m, 0, none⟩))) M
    (fun k a U h => by
      obtain ⟨Z, b, u5, u6, u7, u8, u9, u10, u11, u12, u13, u14, u15, _, _, _, _, hj, _⟩ := h
      exact hM Z k U hj) ?_ 0 _ _ ⟨Z0, W0.heap.size, _, _, _, _, _, _, _, _, _, _, _, rfl, ⟨Nat.le_refl _, fun h => by have := (HZ.out Z0 0 W0 h0 _ h).2; omega⟩, hz1, hN, hJ1, hCW, hLW, hB1W⟩
  clear hN hNl hCW hLW hB1W hJ1 hz1 h0
  rintro k a U ⟨Z, b, u5, u6, u7, u8, u9, u10, u11, u12, u13, u14, u15, rfl, ⟨hb0, hbZ⟩, hUs, hH, hJk, hCU, hLU, hB1⟩
  have hHb := hH.block
  have hS := seal_any m R C W (ctrAt f k) U hLU hCU hCc (ctrAt_lt f Hf.out k) hW h1 hR
  obtain ⟨s, hs⟩ : ∃ s, s = sealA R W (ctrAt f k) := ⟨_, rfl⟩
  obtain ⟨q, hq⟩ : ∃ q, q = ctrAt f k := ⟨_, rfl⟩
  rw [← hs, ← hq] at hS
  rw [← hq] at hH hHb
  have HYk := HY.out Z k
  unfold strm at HYk
  rw [← hs] at HYk
  have HY2 := Lib.hid HYk
  have HS := Lib.hid hS
  have Hs := Lib.hid hs
  have Hq := Lib.hid hq
  clear hS hs hq HYk
  gi_wp2_with (first
    | refine wideIn_load_row rfl 24 (.tmp 4) rfl b rfl 24 _ (0, 0) (.array 16 5) hHb (by kernel_rfl) rfl (by rw [cellsOf_size]; kernel_rfl) ?_
    | (refine ⟨by simp [Fence.wide], ?_⟩; gi_at_call 34; (refine (callsIn_wide.2 HS.out).mono ?_); rintro e U1 ⟨rfl, g1⟩))
  have hHb1 := hH.grown g1 (by simp)
  have hC1 := hCU.grown g1 (by simp)
  have hL1 := hLU.grown g1 (by simp)
  have hB11 := g1.cell hB1 (by simp)
  have hJ1 := HJ.out Z k U U1 none hJk g1 (fun r e => by cases e)
  have hs1 := g1.size
  clear hH hCU hLU hB1 hJk g1 HS hHb
  obtain ⟨fn, tmps, assign, body, hy, hRd⟩ := HY2.out U1 hJ1
  have HR := Lib.hid hRd
  clear hRd
  gi_wp2
  rw [hy]
  gi_wp2
  refine HR.out.mono ?_
  rintro e U2 (⟨rfl, ⟨Z', hJ2, hZ2⟩, hk2⟩ | ⟨rfl, hJx2⟩)
  · have hmb := hHb1.lt
    have hm1 := World.block_lt_of_cell? U1 _ hC1.rounds
    have hg1 := World.block_lt_of_cell? U1 _ (hL1.at_ 0 (by decide))
    have hbb := World.block_lt_of_cell? U1 _ hB11
    have hH2 := hHb1.of_block (hk2.eq b hmb (Or.inl ⟨hb0, hbZ⟩))
    have hC2 := hC1.of_block (hk2.eq m hm1 (Or.inr hXm)) (Nat.lt_of_lt_of_le hm1 hk2.size)
    have hL2 : LaidS U2 0 := ⟨fun i hi => (World.cell?_of_block (a := ⟨0, i, none⟩) (hk2.eq _ hg1 (Or.inr hXg))).trans (hL1.at_ i hi)⟩
    have hB2 : U2.cell? ⟨b1, 0, none⟩ = some (.pointer (some ⟨m, 0, none⟩)) := (World.cell?_of_block (a := ⟨b1, 0, none⟩) (hk2.eq _ hbb (Or.inr hX1))).trans hB11
    have hs2 : W0.heap.size ≤ U2.heap.size := by have := hk2.size; omega
    have hHb2 := hH2.block
    have hbZ' : ¬ Z' b := fun h => by
      rcases hZ2 b h with h | h
      · exact hbZ h
      · omega
    obtain ⟨t, ht⟩ : ∃ t, t = nextF q := ⟨_, rfl⟩
    have hNx := next_any q U2 (by rw [Hq.out]; exact ctrAt_lt f Hf.out k)
    rw [← ht] at hNx
    have Ht : Hid (t = ctrAt f (k + 1)) := Lib.hid (by rw [ht, Hq.out]; rfl)
    have HN := Lib.hid hNx
    clear hNx ht hHb1 hC1 hL1 hB11 hJ1 hk2 hy HR HY2
    gi_wp2_with (first
      | refine wideIn_load_row rfl 24 (.tmp 4) rfl b rfl 24 _ (0, 0) (.array 16 5) hHb2 (by kernel_rfl) rfl (by rw [cellsOf_size]; kernel_rfl) ?_)
    refine ⟨by simp [Fence.wide], ?_⟩
    gi_at_call 19
    refine (callsIn_wide.2 HN.out).mono ?_
    rintro e U3 ⟨rfl, g3⟩
    have hH3 := hH2.grown g3 (by simp)
    have hHb3 := hH3.block
    have hH4 := hH3.setRow .u8 16 t
    have g4 : U2.grownBy (U3.setRow b (cellsOf .u8 16 t)) (some b) := grown_setRow_new (grown_some g3) b _ (Or.inr rfl)
    have hHb4 := hH4.block
    have hzU : (U3.setRow b (cellsOf .u8 16 t)).heap.size = U3.heap.size := by simp
    have hbn := heap_alloc_new (U3.setRow b (cellsOf .u8 16 t)) (.cells #[.int .u8 0, .int .u8 0, .int .u8 0, .int .u8 0, .int .u8 0, .int .u8 0, .int .u8 0, .int .u8 0, .int .u8 0, .int .u8 0, .int .u8 0, .int .u8 0, .int .u8 0, .int .u8 0, .int .u8 0, .int .u8 0] 24)
    have hN0 : Holds ((U3.setRow b (cellsOf .u8 16 t)).alloc (.cells #[.int .u8 0, .int .u8 0, .int .u8 0, .int .u8 0, .int .u8 0, .int .u8 0, .int .u8 0, .int .u8 0, .int .u8 0, .int .u8 0, .int .u8 0, .int .u8 0, .int .u8 0, .int .u8 0, .int .u8 0, .int .u8 0] 24)) (U3.setRow b (cellsOf .u8 16 t)).heap.size 24 .u8 16 (fun _ => 0) := holds_alloc (U3.setRow b (cellsOf .u8 16 t)) 24 .u8 16 (fun _ => 0) _ zero16
    have hN1 := hN0.setRow .u8 16 t
    have g5 := grown_setRow_new (World.grownBy_alloc (U3.setRow b (cellsOf .u8 16 t)) (.cells #[.int .u8 0, .int .u8 0, .int .u8 0, .int .u8 0, .int .u8 0, .int .u8 0, .int .u8 0, .int .u8 0, .int .u8 0, .int .u8 0, .int .u8 0, .int .u8 0, .int .u8 0, .int .u8 0, .int .u8 0, .int .u8 0] 24) none) (U3.setRow b (cellsOf .u8 16 t)).heap.size (cellsOf .u8 16 t) (Or.inl (Nat.le_refl _))
    have g25 := grown_trans g4 (grown_some g5)
    rw [hzU] at hbn hN1 g25
    have h3s := g3.size
    have HF : Hid ((W0.heap.size ≤ U3.heap.size ∧ ¬ Z' U3.heap.size) ∧ ∀ V, V = ((U3.setRow b (cellsOf .u8 16 t)).alloc (.cells #[.int .u8 0, .int .u8 0, .int .u8 0, .int .u8 0, .int .u8 0, .int .u8 0, .int .u8 0, .int .u8 0, .int .u8 0, .int .u8 0, .int .u8 0, .int .u8 0, .int .u8 0, .int .u8 0, .int .u8 0, .int .u8 0] 24)).setRow U3.heap.size (cellsOf .u8 16 t) →
        W0.heap.size ≤ V.heap.size ∧ Holds V U3.heap.size 24 .u8 16 (ctrAt f (k + 1)) ∧ J Z' (k + 1) V ∧ Ciph V m R C ∧ LaidS V 0 ∧ V.cell? ⟨b1, 0, none⟩ = some (.pointer (some ⟨m, 0, none⟩))) := Lib.hid ⟨⟨by omega, fun h => by have := (HZ.out Z' _ _ hJ2 _ h).2; omega⟩, fun V hV => by
      subst hV
      rw [← Ht.out]
      have hbm : b ≠ m := fun e => by subst e; omega
      exact ⟨by have := g25.size; omega, hN1, HJ.out _ _ _ _ (some b) hJ2 g25 (fun r e => by cases e; exact ⟨hb0, hbZ'⟩), hC2.grown g25 (by simp; omega), hL2.grown g25 (by simp; omega), g25.cell hB2 (by simp; omega)⟩⟩
    clear hN0 hN1 g5 g25 g4 hH4 hH3 hJ2 hC2 hL2 hB2 hH2 HN h3s
    gi_wp2_with (first
      | refine wideIn_load_row rfl 24 (.tmp 4) rfl b rfl 24 _ (0, 0) (.array 16 5) hHb4 (by kernel_rfl) rfl (by rw [cellsOf_size]; kernel_rfl) ?_
      | refine wideIn_store_row rfl 24 (.tmp 4) (.tmp 14) rfl b _ rfl rfl 24 _ hHb3 (by rw [cellsOf_size]; kernel_rfl) rfl (cellsOf_all _ _ _) ?_
      | refine wideIn_store_row rfl 24 (.tmp 4) (.tmp 15) rfl U3.heap.size _ rfl rfl 24 _ hbn (by rw [cellsOf_size]; kernel_rfl) rfl (cellsOf_all _ _ _) ?_)
    obtain ⟨q1, q2⟩ := HF.out
    exact ⟨Z', U3.heap.size, _, _, _, _, _, _, _, _, _, _, _, rfl, q1, q2 _ rfl⟩
  · gi_wp2
    go_end0
    exact ⟨⟨_, rfl⟩, _, hJx2⟩

/-- The stream of a cipher, from a counter on. -/
theorem stream_streams (n m R b1 b2 : Nat) (C W f : Nat → Nat) (w : World) (hW : ∀ i, W i < 256) (hf : ∀ i, f i < 256) (h1 : 1 ≤ R) (hR : R ≤ 14) (hCc : Cols (4 * (R + 1)) W C) (hn : 1 ≤ n) (X : Nat → Prop) (hXm : ¬ X m) (hXg : ¬ X 0) (hX1 : ¬ X b1)
    (hC : Ciph w m R C) (hL : LaidS w 0) (hB1 : w.cell? ⟨b1, 0, none⟩ = some (.pointer (some ⟨m, 0, none⟩))) (hB2 : Holds w b2 24 .u8 16 f) :
    Streams Fence.wide n Tryd.prog 48 #[.pointer (some ⟨b1, 0, none⟩), .pointer (some ⟨b2, 0, none⟩)] (fun k => #[.agg (cellsOf .u8 16 (strm R W f k))]) X w := by
  intro l M J Jx Z V hV hJ hZ hM hY h0
  have hm := World.block_lt_of_cell? w _ hC.rounds
  have hg := World.block_lt_of_cell? w _ (hL.at_ 0 (by decide))
  have hb := World.block_lt_of_cell? w _ hB1
  exact stream_run n l M m R b1 b2 C W f hW hf h1 hR hCc hn X w.heap.size ⟨hm, hXm⟩ ⟨hg, hXg⟩ ⟨hb, hX1⟩ J Jx Z V hV.size hJ hZ hM hY
    (hC.of_block (hV.block m hm) (Nat.lt_of_lt_of_le hm hV.size)) ⟨fun i hi => (World.cell?_of_block (a := ⟨0, i, none⟩) (hV.block _ hg)).trans (hL.at_ i hi)⟩
    ((World.cell?_of_block (a := ⟨b1, 0, none⟩) (hV.block b1 hb)).trans hB1) (hB2.of_block (hV.block b2 hB2.lt)) h0

end Go.Proofs.YtlfopcigbgfnlaaDoor
