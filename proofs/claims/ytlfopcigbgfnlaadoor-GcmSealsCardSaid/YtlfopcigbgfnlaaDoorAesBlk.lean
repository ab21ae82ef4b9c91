/-
  Blocks as columns, and back.
-/
import Derived.Test.YtlfopcigbgfnlaaDoorAesFill
namespace Go.Proofs.YtlfopcigbgfnlaaDoor
open Go.RowKit

set_option maxRecDepth 100000
set_option maxHeartbeats 1000000

theorem taken_any (f : Nat → Nat) (w : World) (hf : ∀ i, f i < 256) : Calls Tryd.prog 49 #[.agg (cellsOf .u8 16 f)] w fun e w' => e = .returned (.agg (cellsOf .u32 4 (colS f))) ∧ w.grownBy w' none := by
  go_enter Tryd.func49, Tryd.ntmps49
  go_wp2_with fail
  have hA : Holds ((w.alloc (.cells (cellsOf .u8 16 f) 24)).alloc (.cells #[.int .u32 0, .int .u32 0, .int .u32 0, .int .u32 0] 81)) w.heap.size 24 .u8 16 f := (holds_alloc w 24 .u8 16 f _ rfl).of_block (by rw [heap_alloc_old]; simp)
  have hB : Holds ((w.alloc (.cells (cellsOf .u8 16 f) 24)).alloc (.cells #[.int .u32 0, .int .u32 0, .int .u32 0, .int .u32 0] 81)) (w.heap.size + 1) 81 .u32 4 (fun _ => 0) := by
    have := holds_alloc (w.alloc (.cells (cellsOf .u8 16 f) 24)) 81 .u32 4 (fun _ => 0) #[.int .u32 0, .int .u32 0, .int .u32 0, .int .u32 0] rfl
    rwa [World.size_alloc] at this
  have hg := grown_alloc (World.grownBy_alloc w (.cells (cellsOf .u8 16 f) 24) none) (.cells #[.int .u32 0, .int .u32 0, .int .u32 0, .int .u32 0] 81)
  generalize (w.alloc (.cells (cellsOf .u8 16 f) 24)).alloc (.cells #[.int .u32 0, .int .u32 0, .int .u32 0, .int .u32 0] 81) = w1 at *
  go_loopw [3, 4] (fun _ u4 wr => ∃ i : Nat, i ≤ 4 ∧ u4 = .int .i64 i ∧ w.grownBy wr none ∧ Holds wr w.heap.size 24 .u8 16 f ∧ Holds wr (w.heap.size + 1) 81 .u32 4 (fun j => if j < i then colS f j else 0)) (fun _ u4 _ => 4 - (intOf u4).toNat)
  case atStart => exact ⟨0, by omega, rfl, hg, hA, hB⟩
  case round =>
    clear hg hA hB
    obtain ⟨i, hi, rfl, hgr, hA, hB⟩ := hrel
    by_cases hlt : i < 4
    · have j1 : (i : Int) < 4 := by omega
      obtain ⟨q, hq⟩ : ∃ q, q = 4 * i := ⟨_, rfl⟩
      have x0 : 4 * (i : Int) = (q : Int) := by omega
      have k0 : (q : Int) < 16 := by omega
      have k1 : (q : Int) + 1 < 16 := by omega
      have k2 : (q : Int) + 2 < 16 := by omega
      have k3 : (q : Int) + 3 < 16 := by omega
      have p1 : (0 : Int) ≤ (q : Int) + 1 := by omega
      have p2 : (0 : Int) ≤ (q : Int) + 2 := by omega
      have p3 : (0 : Int) ≤ (q : Int) + 3 := by omega
      have w0 : IntKind.i64.wrap (q : Int) = (q : Int) := by rw [IntKind.wrap_i64]; omega
      have w1' : IntKind.i64.wrap ((q : Int) + 1) = (q : Int) + 1 := by rw [IntKind.wrap_i64]; omega
      have w2 : IntKind.i64.wrap ((q : Int) + 2) = (q : Int) + 2 := by rw [IntKind.wrap_i64]; omega
      have w3 : IntKind.i64.wrap ((q : Int) + 3) = (q : Int) + 3 := by rw [IntKind.wrap_i64]; omega
      have c0 : wr.drew.cell? ⟨w.heap.size, q, none⟩ = some (.int .u8 (f q : Nat)) := hA.cell q (by omega)
      have c1 : wr.drew.cell? ⟨w.heap.size, q + 1, none⟩ = some (.int .u8 (f (q + 1) : Nat)) := hA.cell (q + 1) (by omega)
      have c2 : wr.drew.cell? ⟨w.heap.size, q + 2, none⟩ = some (.int .u8 (f (q + 2) : Nat)) := hA.cell (q + 2) (by omega)
      have c3 : wr.drew.cell? ⟨w.heap.size, q + 3, none⟩ = some (.int .u8 (f (q + 3) : Nat)) := hA.cell (q + 3) (by omega)
      have c5 : wr.drew.cell? ⟨w.heap.size + 1, i, none⟩ = some (.int .u32 ((if i < i then colS f i else 0 : Nat) : Int)) := hB.cell i (by omega)
      rw [if_neg (by omega)] at c5
      have f5 : wr.drew.frozen? ⟨w.heap.size + 1, i, none⟩ = false := hB.frozen _
      have hAd := hA.drew
      have hBd := hB.drew
      have hgd := grown_drew hgr
      have hcol := fun W => column_any (f q) (f (q + 1)) (f (q + 2)) (f (q + 3)) W (hf _) (hf _) (hf _) (hf _)
      have hval : col (f q) (f (q + 1)) (f (q + 2)) (f (q + 3)) = colS f i := by unfold colS; rw [← hq]
      have HCol := Lib.hid hcol
      have Hval := Lib.hid hval
      generalize col (f q) (f (q + 1)) (f (q + 2)) (f (q + 3)) = v at *
      have Hq := Lib.hid hq
      have t2 : ((q : Int) + 2).toNat = q + 2 := by omega
      have t3 : ((q : Int) + 3).toNat = q + 3 := by omega
      clear hq hcol hval hgr hA hB
      go_wp2_with fail
      refine wp_region_still_tail 22 (by kernel_rfl) (by kernel_rfl) ?_
      change wpStill _ _ wr.drew (fun a' => wpList _ _ _ _ a' wr.drew) _ _
      generalize wr.drew = w2' at *
      simp only [List.take_succ_cons, List.take_zero, List.drop_succ_cons, List.drop_zero]
      repeat still_step
      still_call ((HCol.out _).mono fun _ _ h => ⟨h.1, h.2.symm⟩)
      repeat still_step
      refine wpStill_nil ?_
      clear t2 t3
      have HA : Hid (Holds (w2'.setCell ⟨w.heap.size + 1, i, none⟩ (.int .u32 (v : Nat))) w.heap.size 24 .u8 16 f) := Lib.hid (hAd.setOther _ _ (by show w.heap.size ≠ w.heap.size + 1; omega))
      have HB : Hid (Holds (w2'.setCell ⟨w.heap.size + 1, i, none⟩ (.int .u32 (v : Nat))) (w.heap.size + 1) 81 .u32 4 (fun j => if j < i + 1 then colS f j else 0)) := Lib.hid ((hBd.set i v).congr (fun j hj => by
        by_cases e : j = i
        · subst e; rw [upd_same, if_pos (by omega), Hval.out]
        · rw [upd_other _ _ _ _ e]
          by_cases e2 : j < i
          · rw [if_pos e2, if_pos (by omega)]
          · rw [if_neg e2, if_neg (by omega)]))
      have HG : Hid (w.grownBy (w2'.setCell ⟨w.heap.size + 1, i, none⟩ (.int .u32 (v : Nat))) none) := Lib.hid (grown_setCell_new hgd ⟨w.heap.size + 1, i, none⟩ (.int .u32 (v : Nat)) (Or.inl (by simp)))
      clear w0 w1' w2 w3 c0 c1 c2 c3 p1 p2 p3
      go_wp2_with fail
      first
        | exact ⟨⟨i + 1, by omega, by go_num, HG.out, HA.out, HB.out⟩, by simp [intOf]; omega⟩
        | (go_roundw
           case rel => exact ⟨i + 1, by omega, by go_num, HG.out, HA.out, HB.out⟩
           case measure => simp [intOf]; omega)
    · obtain rfl : i = 4 := by omega
      have hB4 : Holds wr (w.heap.size + 1) 81 .u32 4 (colS f) := hB.congr (fun j hj => by rw [if_pos hj])
      clear hlt hi hB
      go_wp2_with (first
        | refine wpList_load_row rfl 81 (.tmp 2) rfl (w.heap.size + 1) rfl 81 _ (0, 0) (.array 4 56) hB4.block (by kernel_rfl) rfl (by rw [cellsOf_size]; kernel_rfl) ?_
        | refine wpList_store_row rfl 81 (.tmp 2) (.tmp 30) rfl (w.heap.size + 1) _ rfl rfl 81 _ hB4.block (by rw [cellsOf_size]; kernel_rfl) rfl (cellsOf_all _ _ _) ?_)
      exact bodyPost_ret (v := .agg (cellsOf .u32 4 (colS f))) (results_cell_row rfl _ _ (w.heap.size + 1) 81 _ (0, 0) (.array 4 56) rfl (hB4.setRow .u32 4 (colS f)).block (by kernel_rfl) rfl (by rw [cellsOf_size]; kernel_rfl)) rfl ⟨rfl, grown_setRow_new hgr _ _ (Or.inl (by omega))⟩

theorem put_any (s : Nat → Nat) (w : World) (hs : ∀ i, s i < 256) : Calls Tryd.prog 51 #[.agg (cellsOf .u32 4 (colS s))] w fun e w' => e = .returned (.agg (cellsOf .u8 16 s)) ∧ w.grownBy w' none := by
  have z16 : (#[.int .u8 0, .int .u8 0, .int .u8 0, .int .u8 0, .int .u8 0, .int .u8 0, .int .u8 0, .int .u8 0, .int .u8 0, .int .u8 0, .int .u8 0, .int .u8 0, .int .u8 0, .int .u8 0, .int .u8 0, .int .u8 0] : Array Value) = cellsOf .u8 16 (fun _ => 0) := rfl
  have hA : Holds ((w.alloc (.cells (cellsOf .u32 4 (colS s)) 81)).alloc (.cells #[.int .u8 0, .int .u8 0, .int .u8 0, .int .u8 0, .int .u8 0, .int .u8 0, .int .u8 0, .int .u8 0, .int .u8 0, .int .u8 0, .int .u8 0, .int .u8 0, .int .u8 0, .int .u8 0, .int .u8 0, .int .u8 0] 24)) w.heap.size 81 .u32 4 (colS s) := (holds_alloc w 81 .u32 4 (colS s) _ rfl).of_block (by rw [heap_alloc_old]; simp)
  have hB : Holds ((w.alloc (.cells (cellsOf .u32 4 (colS s)) 81)).alloc (.cells #[.int .u8 0, .int .u8 0, .int .u8 0, .int .u8 0, .int .u8 0, .int .u8 0, .int .u8 0, .int .u8 0, .int .u8 0, .int .u8 0, .int .u8 0, .int .u8 0, .int .u8 0, .int .u8 0, .int .u8 0, .int .u8 0] 24)) (w.heap.size + 1) 24 .u8 16 (fun _ => 0) := by
    have := holds_alloc (w.alloc (.cells (cellsOf .u32 4 (colS s)) 81)) 24 .u8 16 (fun _ => 0) _ z16
    rwa [World.size_alloc] at this
  have hg := grown_alloc (World.grownBy_alloc w (.cells (cellsOf .u32 4 (colS s)) 81) none) (.cells #[.int .u8 0, .int .u8 0, .int .u8 0, .int .u8 0, .int .u8 0, .int .u8 0, .int .u8 0, .int .u8 0, .int .u8 0, .int .u8 0, .int .u8 0, .int .u8 0, .int .u8 0, .int .u8 0, .int .u8 0, .int .u8 0] 24)
  clear z16
  go_enter Tryd.func51, Tryd.ntmps51
  go_wp2_with fail
  generalize (w.alloc (.cells (cellsOf .u32 4 (colS s)) 81)).alloc (.cells #[.int .u8 0, .int .u8 0, .int .u8 0, .int .u8 0, .int .u8 0, .int .u8 0, .int .u8 0, .int .u8 0, .int .u8 0, .int .u8 0, .int .u8 0, .int .u8 0, .int .u8 0, .int .u8 0, .int .u8 0, .int .u8 0] 24) = w1 at *
  go_loopw [3, 4] (fun _ u4 wr => ∃ i : Nat, i ≤ 16 ∧ u4 = .int .i64 i ∧ w.grownBy wr none ∧ Holds wr w.heap.size 81 .u32 4 (colS s) ∧ Holds wr (w.heap.size + 1) 24 .u8 16 (fun j => if j < i then s j else 0)) (fun _ u4 _ => 16 - (intOf u4).toNat)
  case atStart => exact ⟨0, by omega, rfl, hg, hA, hB⟩
  case round =>
    clear hg hA hB
    obtain ⟨i, hi, rfl, hgr, hA, hB⟩ := hrel
    by_cases hlt : i < 16
    · have j1 : (i : Int) < 16 := by omega
      obtain ⟨q, hq⟩ : ∃ q, q = i / 4 := ⟨_, rfl⟩
      obtain ⟨r, hr⟩ : ∃ r, r = i % 4 := ⟨_, rfl⟩
      have x0 : (i : Int) / 4 = (q : Int) := by omega
      have x1 : (i : Int).tmod 4 = (r : Int) := by rw [Int.tmod_eq_emod_of_nonneg (by omega)]; omega
      have x2 : (i : Int) % 4 = (r : Int) := by omega
      have k0 : (q : Int) < 4 := by omega
      have k1 : (r : Int) < 4 := by omega
      have c0 := hA.cell q (by omega)
      have c1 := hB.cell i hlt
      have f1 := hB.frozen i
      have hc : Calls Tryd.prog 54 #[.int .u32 (colS s q : Nat), .int .i64 r] wr fun e w' => e = .returned (.int .u8 (s i : Nat)) ∧ wr = w' := by
        have := row_col (fun j => s (4 * q + j)) (fun j => hs _) r (by omega) wr
        have e : s (4 * q + r) = s i := by rw [show 4 * q + r = i by omega]
        simp only [e] at this
        exact this
      obtain ⟨v, hv⟩ : ∃ v, v = s i := ⟨_, rfl⟩
      rw [← hv] at hc
      have HC := Lib.hid hc
      have HA : Hid (Holds (wr.setCell ⟨w.heap.size + 1, i, none⟩ (.int .u8 (v : Nat))) w.heap.size 81 .u32 4 (colS s)) := Lib.hid (hA.setOther _ _ (by show w.heap.size ≠ w.heap.size + 1; omega))
      have HB : Hid (Holds (wr.setCell ⟨w.heap.size + 1, i, none⟩ (.int .u8 (v : Nat))) (w.heap.size + 1) 24 .u8 16 (fun j => if j < i + 1 then s j else 0)) := Lib.hid ((hB.set i v).congr (fun j hj => by
        by_cases e : j = i
        · subst e; rw [upd_same, if_pos (by omega), hv]
        · rw [upd_other _ _ _ _ e]
          by_cases e2 : j < i
          · rw [if_pos e2, if_pos (by omega)]
          · rw [if_neg e2, if_neg (by omega)]))
      have HG : Hid (w.grownBy (wr.setCell ⟨w.heap.size + 1, i, none⟩ (.int .u8 (v : Nat))) none) := Lib.hid (grown_setCell_new hgr ⟨w.heap.size + 1, i, none⟩ (.int .u8 (v : Nat)) (Or.inl (by simp)))
      generalize colS s q = y at c0 HC
      clear hq hr hc hv hgr hA hB
      go_wp2_with (go_at_call 54; (with_reducible refine (HC.out).mono ?_); rintro e w' ⟨rfl, rfl⟩)
      first
        | exact ⟨⟨i + 1, by omega, by go_num, HG.out, HA.out, HB.out⟩, by simp [intOf]; omega⟩
        | (go_roundw
           case rel => exact ⟨i + 1, by omega, by go_num, HG.out, HA.out, HB.out⟩
           case measure => simp [intOf]; omega)
    · obtain rfl : i = 16 := by omega
      have hB4 : Holds wr (w.heap.size + 1) 24 .u8 16 s := hB.congr (fun j hj => by rw [if_pos hj])
      clear hlt hi hB
      go_wp2_with (first
        | refine wpList_load_row rfl 24 (.tmp 2) rfl (w.heap.size + 1) rfl 24 _ (0, 0) (.array 16 5) hB4.block (by kernel_rfl) rfl (by rw [cellsOf_size]; kernel_rfl) ?_
        | refine wpList_store_row rfl 24 (.tmp 2) (.tmp 17) rfl (w.heap.size + 1) _ rfl rfl 24 _ hB4.block (by rw [cellsOf_size]; kernel_rfl) rfl (cellsOf_all _ _ _) ?_)
      exact bodyPost_ret (v := .agg (cellsOf .u8 16 s)) (results_cell_row rfl _ _ (w.heap.size + 1) 24 _ (0, 0) (.array 16 5) rfl (hB4.setRow .u8 16 s).block (by kernel_rfl) rfl (by rw [cellsOf_size]; kernel_rfl)) rfl ⟨rfl, grown_setRow_new hgr _ _ (Or.inl (by omega))⟩

end Go.Proofs.YtlfopcigbgfnlaaDoor
