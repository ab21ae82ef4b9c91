/-
  The first blocks of a stream, as the statements ask for them.
-/
import Derived.Test.YtapmpjmhcloejaaDoorCtrBlocks
import Derived.Test.YtapmpjmhcloejaaDoorAppTailV
namespace Go.Proofs.YtapmpjmhcloejaaDoor
open Go.RowKit Go.Shelf

attribute [local go_sem] Oper.semAt_some

set_option maxRecDepth 100000
set_option maxHeartbeats 2000000

theorem OwnV.grownRow {w w' : World} {v : Value} {n : Nat} {f : Nat → Nat} (h : OwnV w v n f) {row : Option Nat} (e : w.grownBy w' row) (hr : ∀ g, v.ownBlock = some g → some g ≠ row) : OwnV w' v n f :=
  ⟨h.ex.imp id (fun ⟨g, cap, h1, h2⟩ => ⟨g, cap, h1, h2.grown e (hr g (by rw [h1]; rfl))⟩)⟩
theorem OwnV.slice {w : World} {v : Value} {n : Nat} {f : Nat → Nat} (h : OwnV w v n f) : ∃ a c, v = .slice a n c := by
  rcases h.ex with ⟨h1, rfl⟩ | ⟨g, cap, h1, _⟩
  · exact ⟨_, _, h1⟩
  · exact ⟨_, _, h1⟩
theorem OwnV.rowv_lt {w : World} {v : Value} {n : Nat} {f : Nat → Nat} (h : OwnV w v n f) (g : Nat) (hg : v.ownBlock = some g) : g < w.heap.size := by
  rcases h.ex with ⟨rfl, _⟩ | ⟨g', cap, rfl, h2⟩
  · cases hg
  · cases hg; exact h2.lt
theorem cells_of_cell {w : World} {g i : Nat} {v : Value} {o : Obj} (h : w.cell? ⟨g, i, none⟩ = some v) (ho : w.heap[g]? = some o) : o.isCells = true := by
  unfold World.cell? at h
  simp only [ho] at h
  cases o <;> first | rfl | simp_all
theorem some_none {w0 w w' : World} {row : Option Nat} (h : w0.grownBy w none) (g : w.grownBy w' row) (hr : ∀ r, row = some r → w0.heap.size ≤ r) : w0.grownBy w' none := by
  cases row with
  | none => exact grown_trans h g
  | some r => exact grown_new h g (hr r rfl)

/-- What stands between two rounds. -/
structure SomeI (w : World) (ob mb A : Nat) (S : Nat → Nat) (Z : Nat → Prop) (k : Nat) (v : Value) (U : World) : Prop where
  box : U.cell? ⟨ob, 0, none⟩ = some v
  fz : U.frozen? ⟨ob, 0, none⟩ = false
  most : U.cell? ⟨mb, 0, none⟩ = some (.int .i64 3)
  own : OwnV U v (16 * k) S
  first : ∀ g, v.ownBlock = some g → 0 < k ∧ A + 2 ≤ g
  zs : ∀ z, Z z ↔ v.ownBlock = some z
  le : k ≤ 3
  gr : w.grownBy U none
def SomeIZ (w : World) (ob mb A : Nat) (S : Nat → Nat) (Z : Nat → Prop) (k : Nat) (U : World) : Prop := ∃ v, SomeI w ob mb A S Z k v U
theorem SomeI.keeps {w : World} {ob mb A : Nat} {S : Nat → Nat} {Z : Nat → Prop} {k : Nat} {v : Value} {U U' : World} {row : Option Nat} (h : SomeI w ob mb A S Z k v U) (ho : ob < A) (hm : mb < A) (hA : w.heap.size ≤ A) (hgr : U.grownBy U' row) (hr : ∀ r, row = some r → A ≤ r ∧ ¬ Z r) : SomeI w ob mb A S Z k v U' := by
  have hb : ∀ x, x < A → some x ≠ row := fun x hx e => by have := (hr _ e.symm).1; omega
  have hlt := World.block_lt_of_cell? U _ h.box
  exact ⟨hgr.cell h.box (hb _ ho), (World.frozen?_of_block (a := ⟨ob, 0, none⟩) (hgr.block _ hlt (hb _ ho))).trans h.fz, hgr.cell h.most (hb _ hm),
    h.own.grownRow hgr (fun g hg e => (hr _ e.symm).2 ((h.zs g).2 hg)), h.first, h.zs, h.le, some_none h.gr hgr (fun r e => by have := (hr r e).1; omega)⟩
theorem SomeI.above {w : World} {ob mb A : Nat} {S : Nat → Nat} (ho : ob < A) (hm : mb < A) (hA : w.heap.size ≤ A) : Above A (SomeIZ w ob mb A S) := fun _ _ _ _ _ ⟨v, h⟩ hgr hr => ⟨v, h.keeps ho hm hA hgr hr⟩

theorem OwnV.noWalk {w : World} {v : Value} {n : Nat} {f : Nat → Nat} (h : OwnV w v n f) (hn : 0 < n) {o : Obj} (g : Nat) (hg : v.ownBlock = some g) (ho : w.heap[g]? = some o) : o.isCells = true := by
  rcases h.ex with ⟨rfl, _⟩ | ⟨g', cap, rfl, h2⟩
  · cases hg
  · cases hg; exact cells_of_cell (h2.cell 0 hn) ho
theorem SomeI.others {w : World} {ob mb A : Nat} {S : Nat → Nat} {Z : Nat → Prop} {k : Nat} {v : Value} {U U' : World} {row : Option Nat} (h : SomeI w ob mb A S Z k v U) (ho : ob < A) (hm : mb < A) (hA : w.heap.size ≤ A) (hgr : U.grownBy U' row)
    (hr : ∀ r, row = some r → A ≤ r ∧ ∃ o : Obj, U.heap[r]? = some o ∧ o.isCells = false) : SomeI w ob mb A S Z k v U' :=
  h.keeps ho hm hA hgr (fun r e => ⟨(hr r e).1, fun hz => by
    obtain ⟨_, o, h1, h2⟩ := hr r e
    have hv := (h.zs r).1 hz
    have := h.own.noWalk (by have := (h.first r hv).1; omega) r hv h1
    rw [h2] at this
    cases this⟩)

/-- A round's frame. -/
def someAct (w : World) (ob mb b1 m b : Nat) (f s : Nat → Nat) : Act :=
  { tmps := #[.pointer (some ⟨m, 0, none⟩), .agg (cellsOf .u8 16 f), .int .i64 3, undef, .pointer (some ⟨w.heap.size, 0, none⟩), .pointer (some ⟨mb, 0, none⟩), .slice none 0 0, .pointer (some ⟨ob, 0, none⟩), .pointer (some ⟨b, 0, none⟩), .pointer (some ⟨m, 0, none⟩), .agg (cellsOf .u8 16 f), .func (.func 29) #[] #[.pointer (some ⟨b1, 0, none⟩), .pointer (some ⟨b1 + 1, 0, none⟩)], .agg (cellsOf .u8 16 s),
    undef, undef, undef, undef, undef, undef, undef, undef, undef], defers := [] }
def someAx (w : World) (ob mb A b1 m : Nat) (f S : Nat → Nat) (B : Nat → Nat → Nat) (Z : Nat → Prop) (k : Nat) (act : Act) (U : World) : Prop :=
  ∃ b v, act = someAct w ob mb b1 m b f (B k) ∧ A + 2 ≤ b ∧ (¬ Z b ∧ Holds U b 23 .u8 16 (B k)) ∧ SomeI w ob mb A S Z k v U

theorem some_any (m R : Nat) (C W f : Nat → Nat) (w : World) (hW : ∀ i, W i < 256) (hf : ∀ i, f i < 256) (h1 : 1 ≤ R) (hR : R ≤ 14) (hCc : Cols (4 * (R + 1)) W C)
    (hC : Ciph w m R C) (hL : LaidS w 0) :
    Calls Tryd.prog 15 #[.pointer (some ⟨m, 0, none⟩), .agg (cellsOf .u8 16 f), .int .i64 3] w (GaveN w 48 (fun i => strm R W f (i / 16) (i % 16))) := by
  have hml := World.block_lt_of_cell? w _ hC.rounds
  have hsl := World.block_lt_of_cell? w _ (hL.at_ 0 (by decide))
  obtain ⟨S, hS⟩ : ∃ S : Nat → Nat, S = (fun i => strm R W f (i / 16) (i % 16)) := ⟨_, rfl⟩
  rw [← hS]
  have hSl : ∀ x, S x < 256 := fun x => by rw [hS]; exact strm_lt R W f hW hf _ _
  have HS := Lib.hid hS
  have HSl := Lib.hid hSl
  clear hS hSl
  refine (callsIn_wide (n := 6)).1 ?_
  refine callsIn_of_wp_marks Tryd.func15 rfl trivial ?_ rfl
  simp only [Tryd.ntmps15, List.size_toArray, List.length_cons, List.length_nil, Nat.reduceAdd, Nat.reduceSub, Array.replicate_succ, Array.replicate_zero, List.push_toArray, List.append_toArray, List.nil_append, List.cons_append]
  refine wpIn_wide.2 ?_
  have hb0 : ((((w.alloc (.cells (cellsOf .u8 16 f) 23)).alloc (.cells #[.int .i64 3] 3)).alloc (.cells #[.slice none 0 0] 22))).heap[w.heap.size]? = some (.cells (cellsOf .u8 16 f) 23) := by
    rw [heap_alloc_old]
    · exact heap_alloc2_old w _ _
    · simp; omega
  have hm0 : ((((w.alloc (.cells (cellsOf .u8 16 f) 23)).alloc (.cells #[.int .i64 3] 3)).alloc (.cells #[.slice none 0 0] 22))).heap[w.heap.size + 1]? = some (.cells #[.int .i64 3] 3) := by
    rw [heap_alloc_old]
    · exact heap_alloc2_new w _ _
    · simp
  have ho0 : ((((w.alloc (.cells (cellsOf .u8 16 f) 23)).alloc (.cells #[.int .i64 3] 3)).alloc (.cells #[.slice none 0 0] 22))).heap[w.heap.size + 1 + 1]? = some (.cells #[.slice none 0 0] 22) := by
    have := heap_alloc2_new (w.alloc (.cells (cellsOf .u8 16 f) 23)) (.cells #[.int .i64 3] 3) (.cells #[.slice none 0 0] 22)
    rwa [World.size_alloc] at this
  have hg0 := grown_alloc (grown_alloc (World.grownBy_alloc w (.cells (cellsOf .u8 16 f) 23) none) (.cells #[.int .i64 3] 3)) (.cells #[.slice none 0 0] 22)
  have hz0 : ((((w.alloc (.cells (cellsOf .u8 16 f) 23)).alloc (.cells #[.int .i64 3] 3)).alloc (.cells #[.slice none 0 0] 22))).heap.size = w.heap.size + 3 := by simp
  go_wp2_with (refine wpList_load_row rfl 23 (.tmp 4) rfl w.heap.size rfl 23 _ (0, 0) (.array 16 5) hb0 (by kernel_rfl) rfl (by rw [cellsOf_size]; kernel_rfl) ?_)
  generalize (((w.alloc (.cells (cellsOf .u8 16 f) 23)).alloc (.cells #[.int .i64 3] 3)).alloc (.cells #[.slice none 0 0] 22)) = w2 at *
  go_at_call 20
  with_reducible refine (blocks_any (some ⟨m, 0, none⟩) f _).mono ?_
  rintro e w3 ⟨rfl, hw3⟩
  have g23 := grown_alloc (World.grownBy_alloc w2 (.cells #[.pointer (some ⟨m, 0, none⟩)] 27) none) (.cells (cellsOf .u8 16 f) 23)
  have hB1 : w3.cell? ⟨w2.heap.size, 0, none⟩ = some (.pointer (some ⟨m, 0, none⟩)) := by
    rw [hw3, cell_of_row _ _ _ _ _ _ (heap_alloc2_old w2 _ _)]; rfl
  have hB2 : Holds w3 (w2.heap.size + 1) 23 .u8 16 f := by
    have := holds_alloc (w2.alloc (.cells #[.pointer (some ⟨m, 0, none⟩)] 27)) 23 .u8 16 f _ rfl
    rw [World.size_alloc] at this
    rw [hw3]
    exact this
  rw [← hw3] at g23
  have hz3 : w3.heap.size = w.heap.size + 5 := by rw [hw3]; simp; omega
  have g03 := grown_trans hg0 g23
  have hC3 := hC.grown g03 (by simp)
  have hL3 := hL.grown g03 (by simp)
  have e2 : w3.heap[w.heap.size + 1 + 1]? = w2.heap[w.heap.size + 1 + 1]? := g23.block _ (by omega) (by simp)
  have e1 : w3.heap[w.heap.size + 1]? = w2.heap[w.heap.size + 1]? := g23.block _ (by omega) (by simp)
  have ho3 := e2.trans ho0
  have hm3 := e1.trans hm0
  obtain ⟨b1, hb1⟩ : ∃ b, b = w2.heap.size := ⟨_, rfl⟩
  have hI0 : SomeIZ w (w.heap.size + 1 + 1) (w.heap.size + 1) (w.heap.size + 5) S (fun _ => False) 0 w3 := ⟨.slice none 0 0, ⟨by rw [cell_of_row _ _ _ _ _ _ ho3]; rfl, frozen_of_row _ _ _ _ _ ho3, by rw [cell_of_row _ _ _ _ _ _ hm3]; rfl, ⟨Or.inl ⟨rfl, rfl⟩⟩, (fun g e => by cases e), (fun z => ⟨fun h => h.elim, fun h => by cases h⟩), by omega, g03⟩⟩
  rw [← hb1] at hB1 hB2 ⊢
  have HB1 : Hid (b1 = w.heap.size + 3) := Lib.hid (by omega)
  have HZ3 := Lib.hid hz3
  clear hz3 hw3 hb0 ho0 hm0 e1 e2 hg0 hz0 g23 hb1 ho3 hm3
  go_wp2_with fail
  refine (wpIn_wide (n := 6)).1 ?_
  refine wpIn_stream rfl (by decide) (gf := 29) (lb := #[.pointer (some ⟨b1, 0, none⟩), .pointer (some ⟨b1 + 1, 0, none⟩)]) rfl trivial (enters_of Tryd.func29 (by kernel_rfl) rfl)
    (X := fun x => x = w.heap.size + 1 + 1) (stream_streams (6 - 1) m R b1 (b1 + 1) C W f w3 hW hf h1 hR hCc (by decide) (fun x => x = w.heap.size + 1 + 1) (fun h => by omega) (fun h => by omega) (fun h => by have := HB1.out; omega) hC3 hL3 hB1 hB2) (fun _ => rfl)
    (SomeIZ w (w.heap.size + 1 + 1) (w.heap.size + 1) (w.heap.size + 5) S) (fun cd _ U => cd = .exit 0 ∧ ∃ v, U.cell? ⟨w.heap.size + 1 + 1, 0, none⟩ = some v ∧ OwnN U w.heap.size v 48 S ∧ w.grownBy U none) 3 (fun Z k U ⟨v, h⟩ => h.le)
    (by rw [HZ3.out]; exact SomeI.above (by omega) (by omega) (by omega)) (fun Z k U ⟨v, h⟩ z hz => ⟨by rw [HZ3.out]; exact (h.first z ((h.zs z).1 hz)).2, h.own.rowv_lt z ((h.zs z).1 hz)⟩)
    (fun cd k U U' row h hg hr => ⟨h.1, by
      obtain ⟨v, q1, q2, q3⟩ := h.2
      have hr2 : ∀ r, row = some r → w.heap.size + 5 ≤ r := fun r e => by have := (hr r e).1; have := HZ3.out; omega
      refine ⟨v, hg.cell q1 (fun e => by have := hr2 _ e.symm; change w.heap.size + 5 ≤ w.heap.size + 1 + 1 at this; omega), ?_, some_none q3 hg (fun r e => by have := hr2 r e; omega)⟩
      refine (q2.toV.grownRow hg (fun g hgv e => ?_)).toN (fun g hgv => q2.row g hgv)
      obtain ⟨_, o, h5, h6⟩ := hr _ e.symm
      have := q2.toV.noWalk (by decide) g hgv h5
      rw [h6] at this
      cases this⟩) hI0
    (someAx w (w.heap.size + 1 + 1) (w.heap.size + 1) (w.heap.size + 5) b1 m f S (strm R W f)) ?_ ?_ ?_ ?_
  · intro Z k a' _ U U' row h hgr hr
    obtain ⟨b, v, rfl, h2, ⟨h3, h4⟩, h5⟩ := h
    exact ⟨b, v, rfl, h2, ⟨h3, h4.grown hgr (fun e => by
      obtain ⟨_, o, ho, hc⟩ := hr _ e.symm
      rw [h4.block] at ho
      cases ho
      cases hc)⟩, h5.others (by omega) (by omega) (by omega) hgr (fun r e => ⟨by have := (hr r e).1; have := HZ3.out; omega, (hr r e).2⟩)⟩
  · rintro l k Z U K ⟨v, hI⟩ hU2 hK
    rw [HZ3.out] at hU2
    obtain ⟨B, hB⟩ : ∃ B, B = strm R W f := ⟨_, rfl⟩
    rw [← hB] at hK ⊢
    have hbn := heap_alloc_new U (.cells #[.int .u8 0, .int .u8 0, .int .u8 0, .int .u8 0, .int .u8 0, .int .u8 0, .int .u8 0, .int .u8 0, .int .u8 0, .int .u8 0, .int .u8 0, .int .u8 0, .int .u8 0, .int .u8 0, .int .u8 0, .int .u8 0] 23)
    have hN0 := (holds_alloc U 23 .u8 16 (fun _ => 0) _ zero16).setRow .u8 16 (B k)
    have hga := grown_setRow_new (World.grownBy_alloc U (.cells #[.int .u8 0, .int .u8 0, .int .u8 0, .int .u8 0, .int .u8 0, .int .u8 0, .int .u8 0, .int .u8 0, .int .u8 0, .int .u8 0, .int .u8 0, .int .u8 0, .int .u8 0, .int .u8 0, .int .u8 0, .int .u8 0] 23) none) U.heap.size (cellsOf .u8 16 (B k)) (Or.inl (Nat.le_refl _))
    have hUs : w.heap.size + 5 ≤ U.heap.size := by omega
    have hnz : ¬ Z U.heap.size := fun h => by have := hI.own.rowv_lt _ ((hI.zs _).1 h); omega
    have HN := Lib.hid hN0
    have HG := Lib.hid hga
    have HI := Lib.hid hI
    have HB := Lib.hid hB
    have HK := Lib.hid hK
    clear hN0 hga hI hB hK
    gi_wp2_with (refine roundIn_store_row rfl 23 (.tmp 8) (.tmp 12) rfl U.heap.size _ rfl rfl 23 _ hbn (by rw [cellsOf_size]; kernel_rfl) rfl (cellsOf_all _ _ _) ?_)
    exact HK.out _ _ (KeepsOthers.of_grownBy HG.out (fun _ _ e => by cases e)) (KeepS.grown HG.out) ⟨U.heap.size, v, rfl, by omega, ⟨hnz, HN.out⟩, HI.out.keeps (by omega) (by omega) (by omega) HG.out (fun r e => by cases e)⟩
  · rintro l k Z a' U ⟨b, v, rfl, hb, ⟨hbz, hH⟩, hI⟩
    unfold someAct
    obtain ⟨s, hs⟩ : ∃ s, s = strm R W f k := ⟨_, rfl⟩
    rw [← hs] at hH ⊢
    have hbox := hI.box
    have hmost := hI.most
    have hfz := hI.fz
    obtain ⟨va, vc, rfl⟩ := hI.own.slice
    have hle := hI.le
    have HI := Lib.hid hI
    have Hs := Lib.hid hs
    have HH := Lib.hid hH
    clear hs hI hH
    by_cases h3 : k = 3
    · subst h3
      gi_wp2
      exact ⟨KeepsOthers.refl U, rfl, _, hbox, HI.out.own.toN (fun g hg => by have := (HI.out.first g hg).2; omega), HI.out.gr⟩
    · have i1 : (16 * (k : Int)) < 48 := by omega
      have hsl8 : ∀ i, s i < 256 := fun i => by rw [Hs.out]; exact strm_lt R W f hW hf k i
      have hRb : Rd U.drew U.drew.heap.size (some ⟨b, 0, none⟩) 16 s := HH.out.drew.rd _ HH.out.drew.lt 16 (Nat.le_refl _)
      have hOd : OwnV U.drew (.slice va (16 * k) vc) (16 * k) S := ⟨HI.out.own.ex.imp id (fun ⟨g, cap, h1, h2⟩ => ⟨g, cap, h1, h2.of_block rfl h2.lt⟩)⟩
      obtain ⟨v', W3, hap, hO3, _, hg3, hor⟩ := app_V 16 22 hOd hRb (by omega) (by decide)
      obtain ⟨va', vc', rfl⟩ := hO3.slice
      have hbox3 : W3.cell? ⟨w.heap.size + 1 + 1, 0, none⟩ = some (.slice va (16 * k) vc) := hg3.cell (show U.drew.cell? _ = _ from hbox) (fun e => by have := (HI.out.first _ e.symm).2; change w.heap.size + 5 + 2 ≤ w.heap.size + 1 + 1 at this; omega)
      have hfz3 : W3.frozen? ⟨w.heap.size + 1 + 1, 0, none⟩ = false := (World.frozen?_of_block (a := ⟨w.heap.size + 1 + 1, 0, none⟩) (hg3.block _ (World.block_lt_of_cell? U _ hbox) (fun e => by have := (HI.out.first _ e.symm).2; change w.heap.size + 5 + 2 ≤ w.heap.size + 1 + 1 at this; omega))).trans hfz
      have hbd : U.drew.cell? ⟨w.heap.size + 1 + 1, 0, none⟩ = some (.slice va (16 * k) vc) := hbox
      have HAP := Lib.hid hap
      have HF : Hid (postS w3.heap.size (fun x => x = w.heap.size + 1 + 1) (SomeIZ w (w.heap.size + 1 + 1) (w.heap.size + 1) (w.heap.size + 5) S)
          (fun cd _ U => cd = .exit 0 ∧ ∃ v, U.cell? ⟨w.heap.size + 1 + 1, 0, none⟩ = some v ∧ OwnN U w.heap.size v 48 S ∧ w.grownBy U none) Z (k + 1) U .normal { tmps := #[], defers := [] } (W3.setCell ⟨w.heap.size + 1 + 1, 0, none⟩ (.slice va' (16 * k + 16) vc'))) := Lib.hid (by
        have hI := HI.out
        have hz := HZ3.out
        have hUd : U.grownBy W3 (Value.slice va (16 * k) vc).ownBlock := ⟨hg3.os, hg3.tape, hg3.output, hg3.size, hg3.block⟩
        have hbl := HH.out.lt
        have hrow : ∀ g, (Value.slice va' (16 * k + 16) vc').ownBlock = some g → (Value.slice va (16 * k) vc).ownBlock = some g ∨ U.heap.size ≤ g := fun g hg => by
          rcases hor with e | ⟨g', e, h5⟩
          · rw [e] at hg; exact Or.inl hg
          · rw [e] at hg; cases hg; exact Or.inr h5
        have hrow2 : ∀ g, (Value.slice va' (16 * k + 16) vc').ownBlock = some g → w.heap.size + 5 + 2 ≤ g := fun g hg => by
          rcases hrow g hg with h | h
          · exact (hI.first g h).2
          · omega
        refine ⟨(KeepsOthers.of_grownBy hUd (fun j o e ho => hI.own.noWalk (by have := (hI.first j e).1; omega) j e ho)).trans (KeepsOthers.setCell _ _ _), ⟨by have := hUd.size; simpa [World.setCell] using this, fun x hx hc => ?_⟩, fun z => (Value.slice va' (16 * k + 16) vc').ownBlock = some z,
          ⟨.slice va' (16 * k + 16) vc', ⟨World.cell?_setCell_same W3 _ _ hbox3, by rw [World.frozen?_setCell]; exact hfz3, cell_set (hUd.cell hI.most (fun e => by have := (hI.first _ e.symm).2; change w.heap.size + 5 + 2 ≤ w.heap.size + 1 at this; omega)) (by intro e; injection e with e; omega), ?_, fun g hg => ⟨by omega, hrow2 g hg⟩, fun z => Iff.rfl, by have := hI.le; omega, grown_setCell_new (some_none hI.gr hUd (fun r e => by have := (hI.first r e).2; omega)) _ _ (Or.inl (by show w.heap.size ≤ w.heap.size + 1 + 1; omega))⟩⟩, fun z hz => (hrow z hz).imp (fun h => (hI.zs z).2 h) id⟩
        · rw [hz] at hc
          have e1 : x ≠ w.heap.size + 1 + 1 := fun e => by
            rcases hc with ⟨hc, _⟩ | ⟨_, hn⟩
            · omega
            · exact hn e
          rw [heap_setCell_other _ _ _ _ (by exact e1)]
          refine hUd.block x hx (fun e => ?_)
          rcases hc with ⟨_, hn⟩ | ⟨hc, _⟩
          · exact hn ((hI.zs x).2 e.symm)
          · have := (hI.first x e.symm).2; omega
        · have hO4 : OwnV (W3.setCell ⟨w.heap.size + 1 + 1, 0, none⟩ (.slice va' (16 * k + 16) vc')) (.slice va' (16 * k + 16) vc') (16 * k + 16) (cat (16 * k) S s) := hO3.grownRow (row := some (w.heap.size + 1 + 1)) (grownBy_setCell' W3 _ _) (fun g hg e => by injection e with e; have := hrow2 g hg; omega)
          rw [show 16 * (k + 1) = 16 * k + 16 by omega]
          exact hO4.congr (fun i hi => by
            unfold cat
            by_cases e : i < 16 * k
            · rw [if_pos e]
            · rw [if_neg e, Hs.out, HS.out]
              show _ = strm R W f (i / 16) (i % 16)
              rw [show i / 16 = k by omega, show i % 16 = i - 16 * k by omega]))
      clear hap hO3 hor hg3 hOd hRb
      gi_wp2
      refine wpIn_region_still_tail 2 (by kernel_rfl) (by kernel_rfl) (by kernel_rfl) (by rintro ⟨_, _, h⟩; exact h) ?_
      change wpStill _ _ U.drew (fun a' => wpList _ _ _ _ a' U.drew) _ _
      generalize U.drew = V2 at *
      simp only [List.take_succ_cons, List.take_zero, List.drop_succ_cons, List.drop_zero]
      repeat still_step
      refine wpStill_nil ?_
      go_wp2_with (at_builtin; refine wpList_append_run rfl (.tmp 18) (.tmp 19) 22 22 rfl (.slice va (16 * k) vc) (.slice (some ⟨b, 0, none⟩) 16 16) _ _ rfl rfl HAP.out ?_)
      exact HF.out
  · rintro D cd k U hD ⟨rfl, v, hbox, hO2, hg2⟩ hDd
    obtain ⟨ra, rc, rfl⟩ := hO2.toV.slice
    have hO3 := (hO2.toV.grownRow (grownBy_putObj' U D (.deferred none)) (fun g hg e => by
      injection e with e
      have := hO2.toV.noWalk (by decide) g hg (by rw [e]; exact hDd)
      cases this)).toN (fun g hg => hO2.row g hg)
    have hg3 := grown_new hg2 (grownBy_putObj' U D (.deferred none)) (by have := HZ3.out; omega)
    have HD := Lib.hid hDd
    have HO3 := Lib.hid hO3
    have HG3 := Lib.hid hg3
    clear hO3 hg3 hDd hO2 hg2
    gi_wp2
    go_wp2_with fail
    refine ⟨by simp, .inl ⟨_, _, rfl, run_takeDeferred HD.out, ?_⟩⟩
    exact ⟨.slice ra 48 rc, by simp [results, Tryd.results15, go_sem], ⟨.slice ra 48 rc, rfl, HO3.out, HG3.out⟩⟩

end Go.Proofs.YtapmpjmhcloejaaDoor
