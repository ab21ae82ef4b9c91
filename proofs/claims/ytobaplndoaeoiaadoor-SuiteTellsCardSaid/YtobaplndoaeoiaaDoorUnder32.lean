/-
  A hash with a key's block (Sum256).
-/
import Derived.Test.YtobaplndoaeoiaaDoorMacSum32
import Derived.Test.YtobaplndoaeoiaaDoorRep32
namespace Go.Proofs.YtobaplndoaeoiaaDoor
open Go.RowKit

set_option maxRecDepth 100000
set_option maxHeartbeats 2000000

/-- The key's block. -/
def padKey32 (F K : Nat → Nat) (L : Nat) (g : Nat → Nat) : Nat → Nat := fun i =>
  if 64 < L then (if i < 32 then sumOf 32 64 P32 K (H32 F) g L i else 0) else (if i < L then g i else 0)

/-- The hash with the key: the blocks of its bytes and 54, and 92. -/
structure Keyed32 (w : World) (F K : Nat → Nat) (L : Nat) (g : Nat → Nat) (e : Ending) (w' : World) : Prop where
  ex : ∃ ri ro, e = .returned (.agg #[.int .u8 1, .slice (some ⟨ri, 0, none⟩) 64 64, .slice (some ⟨ro, 0, none⟩) 64 64]) ∧ w.heap.size ≤ ri ∧ w.heap.size ≤ ro ∧
    (∀ i, i < 64 → w'.cell? ⟨ri, i, none⟩ = some (.int .u8 (54 ^^^ padKey32 F K L g i : Nat))) ∧ (∀ i, i < 64 → w'.cell? ⟨ro, i, none⟩ = some (.int .u8 (92 ^^^ padKey32 F K L g i : Nat))) ∧ w.grownBy w' none

theorem under32 (L c : Nat) (a : Option Addr) (F K g : Nat → Nat) (w : World) (hL : Laid w 1 2 F K) (hR : Rd w w.heap.size a L g)
    (hg : ∀ i, g i < 256) (hF : ∀ i, F i < 2 ^ 64) (hK : ∀ i, K i < 2 ^ 64) (hc : L ≤ c) (hN : L < 2 ^ 61) :
    Calls Tryd.prog 24 #[.int .u8 1, .slice a L c] w (Keyed32 w F K L g) := by
  have L1 : (L : Int) ≤ 2305843009213693952 := by omega
  by_cases hbig : 64 < L
  · have L2 : (64 : Int) < L := by omega
    have hA1 : (w.alloc (.cells #[.int .u8 0, .slice none 0 0, .slice none 0 0] 59)).heap[w.heap.size]? = some (.cells #[.int .u8 0, .slice none 0 0, .slice none 0 0] 59 (0, 0)) := heap_alloc_new w _
    have hg1 := World.grownBy_alloc w (.cells #[.int .u8 0, .slice none 0 0, .slice none 0 0] 59) none
    have hR0 := hR.grown hg1 (fun k e => by cases e)
    have hz1 : (w.alloc (.cells #[.int .u8 0, .slice none 0 0, .slice none 0 0] 59)).heap.size = w.heap.size + 1 := by simp
    have hpad : ∀ i, i < 64 → padKey32 F K L g i = if i < 32 then sumOf 32 64 P32 K (H32 F) g L i else 0 := fun i _ => by simp [padKey32, hbig]
    have hL0 := hL.grown hg1 (by simp) (by simp)
    have hgs := World.grownBy_alloc (w.alloc (.cells #[.int .u8 0, .slice none 0 0, .slice none 0 0] 59)) (.cells #[.slice a L c] 23) none
    have hLs := hL0.grown hgs (by simp) (by simp)
    have hRs := hR0.grown hgs (fun k e => by cases e)
    have hsb := heap_alloc_new (w.alloc (.cells #[.int .u8 0, .slice none 0 0, .slice none 0 0] 59)) (.cells #[.slice a L c] 23)
    have hszs : ((w.alloc (.cells #[.int .u8 0, .slice none 0 0, .slice none 0 0] 59)).alloc (.cells #[.slice a L c] 23)).heap.size = w.heap.size + 2 := by simp
    rw [hz1] at hsb
    have hT : Texts ((w.alloc (.cells #[.int .u8 0, .slice none 0 0, .slice none 0 0] 59)).alloc (.cells #[.slice a L c] 23)) ((w.alloc (.cells #[.int .u8 0, .slice none 0 0, .slice none 0 0] 59)).alloc (.cells #[.slice a L c] 23)).heap.size (some ⟨w.heap.size + 1, 0, none⟩) 1 (fun j => if j = 0 then 0 else L) g :=
      ⟨rfl, fun _ => ⟨w.heap.size + 1, 0, rfl, by omega, fun j hj => by
        obtain rfl : j = 0 := by omega
        refine ⟨a, L, c, by rw [cell_of_row _ _ _ _ _ _ hsb]; rfl, hc, by simp, fun h0 => ?_⟩
        obtain ⟨tb, o, h1, h2, h3⟩ := hRs.ex h0
        exact ⟨tb, o, h1, by omega, fun i hi => by rw [if_pos rfl, Nat.zero_add]; exact h3 i hi⟩⟩⟩
    have hsum := msum32 1 1 _ F K g _ _ hLs hT hg hF hK (by decide) (by show L < _; exact hN)
    clear hT hsb hszs hRs hLs hL0 hR0
    have hA1s := (hgs.block w.heap.size (by omega) (by simp)).trans hA1
    have hg1s := grown_trans hg1 hgs
    have hA0l : w.heap.size < ((w.alloc (.cells #[.int .u8 0, .slice none 0 0, .slice none 0 0] 59)).alloc (.cells #[.slice a L c] 23)).heap.size := by simp; omega
    clear hgs hg1 hA1 hz1
    have HSUM := Lib.hid hsum
    clear hsum
    go_enter Tryd.func24, Tryd.ntmps24
    go_wp2_with (first
      | (go_at_call 29; refine (mblock32 _).mono ?_; rintro e w' ⟨rfl, rfl⟩)
      | (go_at_call 30; (with_reducible refine (HSUM.out).mono ?_); rintro e w1 ⟨rs, rfl, hrs, hOs, hgs⟩))
    have hA1 := (hgs.block w.heap.size hA0l (by simp)).trans hA1s
    have hg1 := grown_trans hg1s hgs
    have hR1 := hOs.rd w1.heap.size hOs.lt 32 (Nat.le_refl _)
    have hA1l : w.heap.size < w1.heap.size := Nat.lt_of_lt_of_le hA0l hgs.size
    have hgk : ∀ i, sumOf 32 64 P32 K (H32 F) g L i < 256 := fun i => Nat.mod_lt _ (by decide)
    have e1 : (if 1 = 0 then 0 else L) = L := rfl
    rw [e1] at hR1
    generalize sumOf 32 64 P32 K (H32 F) g L = gk at *
    clear hgs hOs hrs hA0l hg1s hA1s HSUM e1
    generalize (some (⟨rs, 0, none⟩ : Addr)) = ak at *
    generalize hn1 : w1.heap.size = n1 at *
    have Hn1 := Lib.hid hn1
    clear hn1
    have hA1l : w.heap.size < w1.heap.size := by rw [Hn1.out]; exact hA1l
    generalize hA0n : w.heap.size = A0 at *
    have HA0 := Lib.hid hA0n
    clear hA0n
    have hb0 : (w1.alloc (.cells #[.int .u8 54] 5)).cell? ⟨n1, 0, none⟩ = some (.int .u8 (54 : Nat)) := by
      rw [← Hn1.out, cell_of_row _ _ _ _ _ _ (heap_alloc_new w1 _)]; rfl
    have hg2 := World.grownBy_alloc w1 (.cells #[.int .u8 54] 5) none
    have hsz2 := hg2.size
    have hg0 := hg1
    have hA2 := (World.grownBy_alloc w1 (.cells #[.int .u8 54] 5) none).block A0 hA1l (by simp)
    rw [hA1] at hA2
    have hR2 := hR1.grown (World.grownBy_alloc w1 (.cells #[.int .u8 54] 5) none) (fun k e => by cases e)
    have hz2 : A0 < (w1.alloc (.cells #[.int .u8 54] 5)).heap.size := by simp; omega
    generalize w1.alloc (.cells #[.int .u8 54] 5) = w2 at *
    go_wp2_with (first
      | (go_at_call 31; (with_reducible refine (repeat64 n1 1 54 _ hb0).mono ?_); rintro e w3 ⟨ri, rfl, hri, hFi, hg3⟩;
         have hb3 : (w3.alloc (.cells #[.int .u8 92] 5)).cell? ⟨w3.heap.size, 0, none⟩ = some (.int .u8 (92 : Nat)) := by
           rw [cell_of_row _ _ _ _ _ _ (heap_alloc_new w3 _)]; rfl)
      | (go_at_call 31; (with_reducible refine (repeat64 w3.heap.size 1 92 _ hb3).mono ?_); rintro e w5 ⟨ro, rfl, hro, hFo, hg5⟩))
    have hb7 := heap_alloc_new w5 (.cells #[.int .u8 1, .slice (some ⟨ri, 0, none⟩) 64 64, .slice (some ⟨ro, 0, none⟩) 64 64] 59)
    have hga := World.grownBy_alloc w3 (.cells #[.int .u8 92] 5) none
    have hg7a := grown_alloc hg5 (.cells #[.int .u8 1, .slice (some ⟨ri, 0, none⟩) 64 64, .slice (some ⟨ro, 0, none⟩) 64 64] 59)
    have hl1 := hFi.lt (by decide)
    have hl2 := hFo.lt (by decide)
    have hz3 : w3.heap.size ≤ (w3.alloc (.cells #[.int .u8 92] 5)).heap.size := hga.size
    have hFi7 := (hFi.grown (by decide) hga (by simp)).grown (by decide) hg7a (by simp)
    have hFo7 := hFo.grown (by decide) (World.grownBy_alloc w5 (.cells #[.int .u8 1, .slice (some ⟨ri, 0, none⟩) 64 64, .slice (some ⟨ro, 0, none⟩) 64 64] 59) none) (by simp)
    have hg7 := grown_trans (grown_trans (grown_trans hg2 hg3) hga) hg7a
    have hA7 := (grown_trans (grown_trans hg3 hga) hg7a).block A0 (by omega) (by simp)
    rw [hA2] at hA7
    generalize hkn : w5.heap.size = kb at *
    generalize w5.alloc (.cells #[.int .u8 1, .slice (some ⟨ri, 0, none⟩) 64 64, .slice (some ⟨ro, 0, none⟩) 64 64] 59) = w7 at *
    have d1 : A0 < ri := by omega
    have d2 : ri < ro := by omega
    have d3 : ro < kb := by omega
    clear hg5 hga hg7a hg1 hFi hFo hb3 hg3 hb0 hg2 hA2 hR2 hz2 hA1 hA1l hkn hz3 hl1 hl2 hro
    go_loopw [29] (fun ui wr => ∃ i : Nat, i ≤ 32 ∧ ui = .int .i64 i ∧ w1.grownBy wr none ∧ wr.heap[A0]? = some (.cells #[.int .u8 0, .slice none 0 0, .slice none 0 0] 59 (0, 0)) ∧ wr.heap[kb]? = some (.cells #[.int .u8 1, .slice (some ⟨ri, 0, none⟩) 64 64, .slice (some ⟨ro, 0, none⟩) 64 64] 59 (0, 0)) ∧
      Fill wr ri 64 (fun j => if j < i then 54 ^^^ gk j else 54) ∧ Fill wr ro 64 (fun j => if j < i then 92 ^^^ gk j else 92)) (fun ui _ => 32 - (intOf ui).toNat)
    case atStart => exact ⟨0, by omega, rfl, hg7, hA7, hb7, ⟨fun j hj => by simpa using hFi7.cell j hj, hFi7.free⟩, ⟨fun j hj => by simpa using hFo7.cell j hj, hFo7.free⟩⟩
    case round =>
      clear hg7 hA7 hb7 hFi7 hFo7
      obtain ⟨i, hi, rfl, hgr, hAr, hkr, hFir, hFor⟩ := hrel
      have hk0 : wr.cell? ⟨kb, 1, none⟩ = some (.slice (some ⟨ri, 0, none⟩) 64 64) := by rw [cell_of_row _ _ _ _ _ _ hkr]; rfl
      have hk1 : wr.cell? ⟨kb, 2, none⟩ = some (.slice (some ⟨ro, 0, none⟩) 64 64) := by rw [cell_of_row _ _ _ _ _ _ hkr]; rfl
      by_cases hiL : i < 32
      · have i1 : (i : Int) < 32 := by omega
        have i2 : (i : Int) < 64 := by omega
        have i0 : i < 64 := by omega
        obtain ⟨tb, o, rfl, htb, cX⟩ := (hR1.grown hgr (fun k e => by cases e)).ex (by omega)
        have c0 := cX i hiL
        have c1 : wr.cell? ⟨ri, i, none⟩ = some (.int .u8 54) := by have := hFir.cell i i0; simpa using this
        have c2 : wr.cell? ⟨ro, i, none⟩ = some (.int .u8 92) := by have := hFor.cell i i0; simpa using this
        have f1 := hFir.free i
        have f2 := hFor.free i
        have x1 : bits .xor .u8 54 (gk i : Int) = ((54 ^^^ gk i : Nat) : Int) := bits_xor_u8 54 _ (by decide) (hgk i)
        have x2 : bits .xor .u8 92 (gk i : Int) = ((92 ^^^ gk i : Nat) : Int) := bits_xor_u8 92 _ (by decide) (hgk i)
        have m1 : (wr.setCell ⟨ri, i, none⟩ (.int .u8 (54 ^^^ gk i : Nat))).cell? ⟨kb, 2, none⟩ = some (.slice (some ⟨ro, 0, none⟩) 64 64) := cell_set hk1 (fun e => by injection e; omega)
        have m2 : (wr.setCell ⟨ri, i, none⟩ (.int .u8 (54 ^^^ gk i : Nat))).cell? ⟨ro, i, none⟩ = some (.int .u8 92) := cell_set c2 (fun e => by injection e; omega)
        have g5 := grown_setCell_new (grown_setCell_new hgr ⟨ri, i, none⟩ (.int .u8 (54 ^^^ gk i : Nat)) (Or.inl (by show _ ≤ ri; omega))) ⟨ro, i, none⟩ (.int .u8 (92 ^^^ gk i : Nat)) (Or.inl (by show _ ≤ ro; omega))
        have F1 := (hFir.set i (54 ^^^ gk i) i0).setOther ⟨ro, i, none⟩ (.int .u8 (92 ^^^ gk i : Nat)) (by show ri ≠ ro; omega)
        have F2 := (hFor.setOther ⟨ri, i, none⟩ (.int .u8 (54 ^^^ gk i : Nat)) (by show ro ≠ ri; omega)).set i (92 ^^^ gk i) i0
        have A5 : ((wr.setCell ⟨ri, i, none⟩ (.int .u8 (54 ^^^ gk i : Nat))).setCell ⟨ro, i, none⟩ (.int .u8 (92 ^^^ gk i : Nat))).heap[A0]? = wr.heap[A0]? := by
          rw [heap_setCell_other _ _ _ _ (by show A0 ≠ ro; omega), heap_setCell_other _ _ _ _ (by show A0 ≠ ri; omega)]
        have K5 : ((wr.setCell ⟨ri, i, none⟩ (.int .u8 (54 ^^^ gk i : Nat))).setCell ⟨ro, i, none⟩ (.int .u8 (92 ^^^ gk i : Nat))).heap[kb]? = wr.heap[kb]? := by
          rw [heap_setCell_other _ _ _ _ (by show kb ≠ ro; omega), heap_setCell_other _ _ _ _ (by show kb ≠ ri; omega)]
        have HA5 := Lib.hid (A5.trans hAr)
        have HK5 := Lib.hid (K5.trans hkr)
        clear A5 K5 cX
        go_wp2_with fail
        refine ⟨⟨i + 1, by omega, by go_num, g5, HA5.out, HK5.out, ⟨fun j hj => ?_, F1.free⟩, ⟨fun j hj => ?_, F2.free⟩⟩, by simp [intOf]; omega⟩
        · rw [F1.cell j hj]
          by_cases e : j = i
          · subst e; simp [upd]
          · have e1 : (j < i + 1) = (j < i) := by simp; omega
            simp [upd, e, e1]
        · rw [F2.cell j hj]
          by_cases e : j = i
          · subst e; simp [upd]
          · have e1 : (j < i + 1) = (j < i) := by simp; omega
            simp [upd, e, e1]
      · have hE : i = 32 := by omega
        have i1 : (32 : Int) ≤ i := by omega
        have HE := Lib.hid hE
        clear hE hiL hi
        clear hk0 hk1
        go_wp2_with (first
          | refine wpList_load_row rfl 59 (.tmp 6) rfl kb rfl 59 _ (0, 0) _ hkr Tryd.underlying59 rfl (by kernel_rfl) ?_
          | refine wpList_store_row rfl 59 (.tmp 4) (.tmp 51) rfl A0 #[.int .u8 1, .slice (some ⟨ri, 0, none⟩) 64 64, .slice (some ⟨ro, 0, none⟩) 64 64] rfl rfl 59 _ hAr (by kernel_rfl) rfl (by kernel_rfl) ?_)
        have hgf := grown_setRow_new (grown_trans hg0 hgr) A0 #[.int .u8 1, .slice (some ⟨ri, 0, none⟩) 64 64, .slice (some ⟨ro, 0, none⟩) 64 64] (Or.inl (by rw [HA0.out]; exact Nat.le_refl _))
        have hAf := setRow_heap wr A0 _ #[.int .u8 1, .slice (some ⟨ri, 0, none⟩) 64 64, .slice (some ⟨ro, 0, none⟩) 64 64] 59 (0, 0) hAr
        have hFi9 := hFir.of_block (w' := wr.setRow A0 #[.int .u8 1, .slice (some ⟨ri, 0, none⟩) 64 64, .slice (some ⟨ro, 0, none⟩) 64 64]) (setRow_other _ _ _ _ (by omega))
        have hFo9 := hFor.of_block (w' := wr.setRow A0 #[.int .u8 1, .slice (some ⟨ri, 0, none⟩) 64 64, .slice (some ⟨ro, 0, none⟩) 64 64]) (setRow_other _ _ _ _ (by omega))
        have HKd : Keyed32 w F K L g (.returned (.agg #[.int .u8 1, .slice (some ⟨ri, 0, none⟩) 64 64, .slice (some ⟨ro, 0, none⟩) 64 64])) (wr.setRow A0 #[.int .u8 1, .slice (some ⟨ri, 0, none⟩) 64 64, .slice (some ⟨ro, 0, none⟩) 64 64]) :=
          ⟨ri, ro, rfl, by rw [HA0.out]; omega, by rw [HA0.out]; omega, fun j hj => by
            rw [hFi9.cell j hj, hpad j hj, HE.out]
            by_cases e : j < 32 <;> simp [e], fun j hj => by
            rw [hFo9.cell j hj, hpad j hj, HE.out]
            by_cases e : j < 32 <;> simp [e], hgf⟩
        exact bodyPost_ret (v := .agg #[.int .u8 1, .slice (some ⟨ri, 0, none⟩) 64 64, .slice (some ⟨ro, 0, none⟩) 64 64]) (results_cell_row rfl _ _ A0 59 _ (0, 0) _ rfl hAf Tryd.underlying59 rfl (by kernel_rfl)) rfl HKd

  · have L2 : (L : Int) ≤ 64 := by omega
    have hA1 : (w.alloc (.cells #[.int .u8 0, .slice none 0 0, .slice none 0 0] 59)).heap[w.heap.size]? = some (.cells #[.int .u8 0, .slice none 0 0, .slice none 0 0] 59 (0, 0)) := heap_alloc_new w _
    have hg1 := World.grownBy_alloc w (.cells #[.int .u8 0, .slice none 0 0, .slice none 0 0] 59) none
    have hR1 := hR.grown hg1 (fun k e => by cases e)
    have hz1 : (w.alloc (.cells #[.int .u8 0, .slice none 0 0, .slice none 0 0] 59)).heap.size = w.heap.size + 1 := by simp
    have hpad : ∀ i, i < 64 → padKey32 F K L g i = if i < L then g i else 0 := fun i _ => by simp [padKey32, hbig]
    have hA1l : w.heap.size < (w.alloc (.cells #[.int .u8 0, .slice none 0 0, .slice none 0 0] 59)).heap.size := by omega
    have Hn1' := Lib.hid hz1
    clear hz1
    go_enter Tryd.func24, Tryd.ntmps24
    go_wp2_with (go_at_call 29; refine (mblock32 _).mono ?_; rintro e w' ⟨rfl, rfl⟩)
    generalize w.heap.size + 1 = n1 at *
    generalize w.alloc (.cells #[.int .u8 0, .slice none 0 0, .slice none 0 0] 59) = w1 at *
    have Hn1 : Hid (w1.heap.size = n1) := Hn1'
    clear Hn1'

    generalize hA0n : w.heap.size = A0 at *
    have HA0 := Lib.hid hA0n
    clear hA0n
    have hb0 : (w1.alloc (.cells #[.int .u8 54] 5)).cell? ⟨n1, 0, none⟩ = some (.int .u8 (54 : Nat)) := by
      rw [← Hn1.out, cell_of_row _ _ _ _ _ _ (heap_alloc_new w1 _)]; rfl
    have hg2 := World.grownBy_alloc w1 (.cells #[.int .u8 54] 5) none
    have hsz2 := hg2.size
    have hg0 := hg1
    have hA2 := (World.grownBy_alloc w1 (.cells #[.int .u8 54] 5) none).block A0 hA1l (by simp)
    rw [hA1] at hA2
    have hR2 := hR1.grown (World.grownBy_alloc w1 (.cells #[.int .u8 54] 5) none) (fun k e => by cases e)
    have hz2 : A0 < (w1.alloc (.cells #[.int .u8 54] 5)).heap.size := by simp; omega
    generalize w1.alloc (.cells #[.int .u8 54] 5) = w2 at *
    go_wp2_with (first
      | (go_at_call 31; (with_reducible refine (repeat64 n1 1 54 _ hb0).mono ?_); rintro e w3 ⟨ri, rfl, hri, hFi, hg3⟩;
         have hb3 : (w3.alloc (.cells #[.int .u8 92] 5)).cell? ⟨w3.heap.size, 0, none⟩ = some (.int .u8 (92 : Nat)) := by
           rw [cell_of_row _ _ _ _ _ _ (heap_alloc_new w3 _)]; rfl)
      | (go_at_call 31; (with_reducible refine (repeat64 w3.heap.size 1 92 _ hb3).mono ?_); rintro e w5 ⟨ro, rfl, hro, hFo, hg5⟩))
    have hb7 := heap_alloc_new w5 (.cells #[.int .u8 1, .slice (some ⟨ri, 0, none⟩) 64 64, .slice (some ⟨ro, 0, none⟩) 64 64] 59)
    have hga := World.grownBy_alloc w3 (.cells #[.int .u8 92] 5) none
    have hg7a := grown_alloc hg5 (.cells #[.int .u8 1, .slice (some ⟨ri, 0, none⟩) 64 64, .slice (some ⟨ro, 0, none⟩) 64 64] 59)
    have hl1 := hFi.lt (by decide)
    have hl2 := hFo.lt (by decide)
    have hz3 : w3.heap.size ≤ (w3.alloc (.cells #[.int .u8 92] 5)).heap.size := hga.size
    have hFi7 := (hFi.grown (by decide) hga (by simp)).grown (by decide) hg7a (by simp)
    have hFo7 := hFo.grown (by decide) (World.grownBy_alloc w5 (.cells #[.int .u8 1, .slice (some ⟨ri, 0, none⟩) 64 64, .slice (some ⟨ro, 0, none⟩) 64 64] 59) none) (by simp)
    have hg7 := grown_trans (grown_trans (grown_trans hg2 hg3) hga) hg7a
    have hA7 := (grown_trans (grown_trans hg3 hga) hg7a).block A0 (by omega) (by simp)
    rw [hA2] at hA7
    generalize hkn : w5.heap.size = kb at *
    generalize w5.alloc (.cells #[.int .u8 1, .slice (some ⟨ri, 0, none⟩) 64 64, .slice (some ⟨ro, 0, none⟩) 64 64] 59) = w7 at *
    have d1 : A0 < ri := by omega
    have d2 : ri < ro := by omega
    have d3 : ro < kb := by omega
    clear hg5 hga hg7a hg1 hFi hFo hb3 hg3 hb0 hg2 hA2 hR2 hz2 hA1 hA1l hkn hz3 hl1 hl2 hro
    go_loopw [29] (fun ui wr => ∃ i : Nat, i ≤ L ∧ ui = .int .i64 i ∧ w1.grownBy wr none ∧ wr.heap[A0]? = some (.cells #[.int .u8 0, .slice none 0 0, .slice none 0 0] 59 (0, 0)) ∧ wr.heap[kb]? = some (.cells #[.int .u8 1, .slice (some ⟨ri, 0, none⟩) 64 64, .slice (some ⟨ro, 0, none⟩) 64 64] 59 (0, 0)) ∧
      Fill wr ri 64 (fun j => if j < i then 54 ^^^ g j else 54) ∧ Fill wr ro 64 (fun j => if j < i then 92 ^^^ g j else 92)) (fun ui _ => L - (intOf ui).toNat)
    case atStart => exact ⟨0, by omega, rfl, hg7, hA7, hb7, ⟨fun j hj => by simpa using hFi7.cell j hj, hFi7.free⟩, ⟨fun j hj => by simpa using hFo7.cell j hj, hFo7.free⟩⟩
    case round =>
      clear hg7 hA7 hb7 hFi7 hFo7
      obtain ⟨i, hi, rfl, hgr, hAr, hkr, hFir, hFor⟩ := hrel
      have hk0 : wr.cell? ⟨kb, 1, none⟩ = some (.slice (some ⟨ri, 0, none⟩) 64 64) := by rw [cell_of_row _ _ _ _ _ _ hkr]; rfl
      have hk1 : wr.cell? ⟨kb, 2, none⟩ = some (.slice (some ⟨ro, 0, none⟩) 64 64) := by rw [cell_of_row _ _ _ _ _ _ hkr]; rfl
      by_cases hiL : i < L
      · have i1 : (i : Int) < L := by omega
        have i2 : (i : Int) < 64 := by omega
        have i0 : i < 64 := by omega
        obtain ⟨tb, o, rfl, htb, cX⟩ := (hR1.grown hgr (fun k e => by cases e)).ex (by omega)
        have c0 := cX i hiL
        have c1 : wr.cell? ⟨ri, i, none⟩ = some (.int .u8 54) := by have := hFir.cell i i0; simpa using this
        have c2 : wr.cell? ⟨ro, i, none⟩ = some (.int .u8 92) := by have := hFor.cell i i0; simpa using this
        have f1 := hFir.free i
        have f2 := hFor.free i
        have x1 : bits .xor .u8 54 (g i : Int) = ((54 ^^^ g i : Nat) : Int) := bits_xor_u8 54 _ (by decide) (hg i)
        have x2 : bits .xor .u8 92 (g i : Int) = ((92 ^^^ g i : Nat) : Int) := bits_xor_u8 92 _ (by decide) (hg i)
        have m1 : (wr.setCell ⟨ri, i, none⟩ (.int .u8 (54 ^^^ g i : Nat))).cell? ⟨kb, 2, none⟩ = some (.slice (some ⟨ro, 0, none⟩) 64 64) := cell_set hk1 (fun e => by injection e; omega)
        have m2 : (wr.setCell ⟨ri, i, none⟩ (.int .u8 (54 ^^^ g i : Nat))).cell? ⟨ro, i, none⟩ = some (.int .u8 92) := cell_set c2 (fun e => by injection e; omega)
        have g5 := grown_setCell_new (grown_setCell_new hgr ⟨ri, i, none⟩ (.int .u8 (54 ^^^ g i : Nat)) (Or.inl (by show _ ≤ ri; omega))) ⟨ro, i, none⟩ (.int .u8 (92 ^^^ g i : Nat)) (Or.inl (by show _ ≤ ro; omega))
        have F1 := (hFir.set i (54 ^^^ g i) i0).setOther ⟨ro, i, none⟩ (.int .u8 (92 ^^^ g i : Nat)) (by show ri ≠ ro; omega)
        have F2 := (hFor.setOther ⟨ri, i, none⟩ (.int .u8 (54 ^^^ g i : Nat)) (by show ro ≠ ri; omega)).set i (92 ^^^ g i) i0
        have A5 : ((wr.setCell ⟨ri, i, none⟩ (.int .u8 (54 ^^^ g i : Nat))).setCell ⟨ro, i, none⟩ (.int .u8 (92 ^^^ g i : Nat))).heap[A0]? = wr.heap[A0]? := by
          rw [heap_setCell_other _ _ _ _ (by show A0 ≠ ro; omega), heap_setCell_other _ _ _ _ (by show A0 ≠ ri; omega)]
        have K5 : ((wr.setCell ⟨ri, i, none⟩ (.int .u8 (54 ^^^ g i : Nat))).setCell ⟨ro, i, none⟩ (.int .u8 (92 ^^^ g i : Nat))).heap[kb]? = wr.heap[kb]? := by
          rw [heap_setCell_other _ _ _ _ (by show kb ≠ ro; omega), heap_setCell_other _ _ _ _ (by show kb ≠ ri; omega)]
        have HA5 := Lib.hid (A5.trans hAr)
        have HK5 := Lib.hid (K5.trans hkr)
        clear A5 K5 cX
        go_wp2_with fail
        refine ⟨⟨i + 1, by omega, by go_num, g5, HA5.out, HK5.out, ⟨fun j hj => ?_, F1.free⟩, ⟨fun j hj => ?_, F2.free⟩⟩, by simp [intOf]; omega⟩
        · rw [F1.cell j hj]
          by_cases e : j = i
          · subst e; simp [upd]
          · have e1 : (j < i + 1) = (j < i) := by simp; omega
            simp [upd, e, e1]
        · rw [F2.cell j hj]
          by_cases e : j = i
          · subst e; simp [upd]
          · have e1 : (j < i + 1) = (j < i) := by simp; omega
            simp [upd, e, e1]
      · have hE : i = L := by omega
        have i1 : (L : Int) ≤ i := by omega
        have HE := Lib.hid hE
        clear hE hiL hi
        clear hk0 hk1
        go_wp2_with (first
          | refine wpList_load_row rfl 59 (.tmp 6) rfl kb rfl 59 _ (0, 0) _ hkr Tryd.underlying59 rfl (by kernel_rfl) ?_
          | refine wpList_store_row rfl 59 (.tmp 4) (.tmp 51) rfl A0 #[.int .u8 1, .slice (some ⟨ri, 0, none⟩) 64 64, .slice (some ⟨ro, 0, none⟩) 64 64] rfl rfl 59 _ hAr (by kernel_rfl) rfl (by kernel_rfl) ?_)
        have hgf := grown_setRow_new (grown_trans hg0 hgr) A0 #[.int .u8 1, .slice (some ⟨ri, 0, none⟩) 64 64, .slice (some ⟨ro, 0, none⟩) 64 64] (Or.inl (by rw [HA0.out]; exact Nat.le_refl _))
        have hAf := setRow_heap wr A0 _ #[.int .u8 1, .slice (some ⟨ri, 0, none⟩) 64 64, .slice (some ⟨ro, 0, none⟩) 64 64] 59 (0, 0) hAr
        have hFi9 := hFir.of_block (w' := wr.setRow A0 #[.int .u8 1, .slice (some ⟨ri, 0, none⟩) 64 64, .slice (some ⟨ro, 0, none⟩) 64 64]) (setRow_other _ _ _ _ (by omega))
        have hFo9 := hFor.of_block (w' := wr.setRow A0 #[.int .u8 1, .slice (some ⟨ri, 0, none⟩) 64 64, .slice (some ⟨ro, 0, none⟩) 64 64]) (setRow_other _ _ _ _ (by omega))
        have HKd : Keyed32 w F K L g (.returned (.agg #[.int .u8 1, .slice (some ⟨ri, 0, none⟩) 64 64, .slice (some ⟨ro, 0, none⟩) 64 64])) (wr.setRow A0 #[.int .u8 1, .slice (some ⟨ri, 0, none⟩) 64 64, .slice (some ⟨ro, 0, none⟩) 64 64]) :=
          ⟨ri, ro, rfl, by rw [HA0.out]; omega, by rw [HA0.out]; omega, fun j hj => by
            rw [hFi9.cell j hj, hpad j hj, HE.out]
            by_cases e : j < L <;> simp [e], fun j hj => by
            rw [hFo9.cell j hj, hpad j hj, HE.out]
            by_cases e : j < L <;> simp [e], hgf⟩
        exact bodyPost_ret (v := .agg #[.int .u8 1, .slice (some ⟨ri, 0, none⟩) 64 64, .slice (some ⟨ro, 0, none⟩) 64 64]) (results_cell_row rfl _ _ A0 59 _ (0, 0) _ rfl hAf Tryd.underlying59 rfl (by kernel_rfl)) rfl HKd


end Go.Proofs.YtobaplndoaeoiaaDoor
