/-
  The words of a block, as sha's machine of words of 32 bits makes them.
-/
import Derived.Test.YtobaplndoaeoiaaDoorMach
import Derived.Test.YtobaplndoaeoiaaDoorLeaf
namespace Go.Proofs.YtobaplndoaeoiaaDoor
open Go.RowKit

set_option maxRecDepth 100000
set_option maxHeartbeats 1000000


theorem schedule32 (m : Nat) (P : Nat → Nat) (st blk : Nat → Nat) (fl len : Nat) (w : World) (hM : Mach .u32 w m P 64 st blk fl len) (hb : ∀ i, blk i < 256) (hP : ∀ i, 0 < P i ∧ P i < 32) :
    Calls Tryd.prog 73 #[.pointer (some ⟨m, 0, none⟩)] w fun e w' => e = .returned (.agg (cellsOf .u32 80 (wordsTo 32 P blk 64))) ∧ w.grownBy w' none := by
  have hml := hM.lt
  go_enter Tryd.func73, Tryd.ntmps73
  go_wp2_with (go_at_call 66; refine (wordBytes32 _).mono ?_; rintro e w' ⟨rfl, rfl⟩)
  go_loopw [9] (fun u9 wr => ∃ t : Nat, t ≤ 16 ∧ u9 = .int .i64 t ∧ w.grownBy wr none ∧ Holds wr w.heap.size 116 .u32 80 (wordsTo 32 P blk t)) (fun u9 _ => 16 - (intOf u9).toNat)
  case atStart => exact ⟨0, by omega, rfl, World.grownBy_alloc _ _ _, holds_alloc w _ _ _ _ _ (by kernel_rfl)⟩
  case round =>
    obtain ⟨t, ht, rfl, hg, hH⟩ := hrel
    have hM1 := hM.grown hg (by simp)
    by_cases hlt : t < 16
    · have hlt' : (t : Int) < 16 := by omega
      have hsl := run_part (Q := Tryd.prog) (T := 100) (E := 5) (n := 128) (by kernel_rfl) (fun _ => by kernel_rfl) m 21 (t * 4) ((t + 1) * 4) ((t : Int) * 4) (((t : Int) + 1) * 4) (by omega) (by omega) (by omega) (by omega) (by omega)
      rw [show (t + 1) * 4 - t * 4 = 4 by omega] at hsl
      go_wp2_with fail
      clear hsl
      obtain ⟨wo, hwo⟩ : ∃ wo : World, wo = wr := ⟨_, rfl⟩
      go_loopw [24] (fun u24 wi => ∃ j : Nat, j ≤ 4 ∧ u24 = .int .i64 j ∧ w.grownBy wi none ∧ Holds wi w.heap.size 116 .u32 80 (upd (wordsTo 32 P blk t) t (be (fun j => blk (t * 4 + j)) j))) (fun u24 _ => 4 - (intOf u24).toNat)
      case atStart =>
        refine ⟨0, by omega, rfl, hg, hH.congr ?_⟩
        intro i hi
        by_cases e : i = t
        · subst e; simp [upd, be, wordsTo]
        · simp [upd, e]
      case round =>
        obtain ⟨j, hj, rfl, hg2, hH2⟩ := hrel
        have hM2 := hM.grown hg2 (by simp)
        by_cases hjt : j < 4
        · have hjt' : (j : Int) < 4 := by omega
          have c1 := hM2.block (t * 4 + j) (by omega)
          rw [show 21 + (t * 4 + j) = 21 + t * 4 + j by omega] at c1
          have c2 := hH2.cell t (by omega)
          rw [upd_same] at c2
          have c3 := hH2.frozen t
          go_wp2_with fail
          have hv := be_step32 (fun j => blk (t * 4 + j)) (fun _ => hb _) j hjt
          rw [hv]
          refine ⟨⟨j + 1, by omega, by go_num, grown_setCell_new hg2 _ _ (Or.inl (Nat.le_refl _)), (hH2.set t _).congr ?_⟩, by simp [intOf]; omega⟩
          intro i hi
          by_cases e : i = t
          · subst e; simp [upd]
          · simp [upd, e]
        · have hj4 : j = 4 := by omega
          subst hj4
          go_wp2_with fail
          refine ⟨⟨t + 1, by omega, by go_num, hg2, hH2.congr ?_⟩, by simp [intOf]; omega⟩
          intro i hi
          have hw := word_low 32 P blk t hlt
          by_cases e : i = t
          · subst e; simp [upd, wordsTo, hw]
          · have e1 : (i < t + 1) = (i < t) := by simp; omega
            simp [upd, e, wordsTo, e1]
    · have ht16 : t = 16 := by omega
      have hge : (16 : Int) ≤ t := by omega
      rw [ht16] at hH
      clear ht16 hlt ht hM1
      go_wp2_with fail
      go_loopw [7] (fun u7 wi => ∃ t : Nat, 16 ≤ t ∧ t ≤ 64 ∧ u7 = .int .i64 t ∧ w.grownBy wi none ∧ Holds wi w.heap.size 116 .u32 80 (wordsTo 32 P blk t)) (fun u7 _ => 64 - (intOf u7).toNat)
      case atStart => exact ⟨16, by omega, by omega, rfl, hg, hH⟩
      case round =>
        clear hg hH
        obtain ⟨t, ht, ht2, rfl, hg, hH⟩ := hrel
        have hM2 := hM.grown hg (by simp)
        have c1 := hM2.rounds
        by_cases htt : t < 64
        · have htt' : (t : Int) < 64 := by omega
          have w2 : IntKind.i64.wrap ((t : Int) - 2) = ((t - 2 : Nat) : Int) := by rw [IntKind.wrap_i64]; omega
          have w7 : IntKind.i64.wrap ((t : Int) - 7) = ((t - 7 : Nat) : Int) := by rw [IntKind.wrap_i64]; omega
          have w15 : IntKind.i64.wrap ((t : Int) - 15) = ((t - 15 : Nat) : Int) := by rw [IntKind.wrap_i64]; omega
          have w16 : IntKind.i64.wrap ((t : Int) - 16) = ((t - 16 : Nat) : Int) := by rw [IntKind.wrap_i64]; omega
          have b2 : ((t - 2 : Nat) : Int) < 80 := by omega
          have b7 : ((t - 7 : Nat) : Int) < 80 := by omega
          have b15 : ((t - 15 : Nat) : Int) < 80 := by omega
          have b16 : ((t - 16 : Nat) : Int) < 80 := by omega
          have bt : ((t : Nat) : Int) < 80 := by omega
          have v2 : wordsTo 32 P blk t (t - 2) = word 32 P blk (t - 2) := by simp [wordsTo]; omega
          have v7 : wordsTo 32 P blk t (t - 7) = word 32 P blk (t - 7) := by simp [wordsTo]; omega
          have v15 : wordsTo 32 P blk t (t - 15) = word 32 P blk (t - 15) := by simp [wordsTo]; omega
          have v16 : wordsTo 32 P blk t (t - 16) = word 32 P blk (t - 16) := by simp [wordsTo]; omega
          have d2 := hH.cell (t - 2) (by omega)
          have d7 := hH.cell (t - 7) (by omega)
          have d15 := hH.cell (t - 15) (by omega)
          have d16 := hH.cell (t - 16) (by omega)
          have dt := hH.cell t (by omega)
          have ft := hH.frozen t
          rw [v2] at d2; rw [v7] at d7; rw [v15] at d15; rw [v16] at d16
          clear v2 v7 v15 v16
          have p6 := hM2.by_ 6 (by omega)
          have p7 := hM2.by_ 7 (by omega)
          have p8 := hM2.by_ 8 (by omega)
          have p9 := hM2.by_ 9 (by omega)
          have p10 := hM2.by_ 10 (by omega)
          have p11 := hM2.by_ 11 (by omega)
          go_wp2_with fail
          have db := hH.but t
          have da := int_at_of _ dt
          go_region_held3 (fun w' => w.grownBy w' none ∧ But w' w.heap.size 116 .u32 80 (wordsTo 32 P blk t) t ∧
              w'.cell? ⟨w.heap.size, t - 2, none⟩ = some (.int .u32 (word 32 P blk (t - 2))) ∧ w'.cell? ⟨w.heap.size, t - 7, none⟩ = some (.int .u32 (word 32 P blk (t - 7))) ∧
              w'.cell? ⟨w.heap.size, t - 15, none⟩ = some (.int .u32 (word 32 P blk (t - 15))) ∧ w'.cell? ⟨w.heap.size, t - 16, none⟩ = some (.int .u32 (word 32 P blk (t - 16))) ∧
              w'.cell? ⟨w.heap.size, t, none⟩ = some (.int .u32 (numAt w' ⟨w.heap.size, t, none⟩)) ∧ w'.frozen? ⟨w.heap.size, t, none⟩ = false ∧
              w'.cell? ⟨m, 6, none⟩ = some (.int .u64 (P 6)) ∧ w'.cell? ⟨m, 7, none⟩ = some (.int .u64 (P 7)) ∧ w'.cell? ⟨m, 8, none⟩ = some (.int .u64 (P 8)) ∧
              w'.cell? ⟨m, 9, none⟩ = some (.int .u64 (P 9)) ∧ w'.cell? ⟨m, 10, none⟩ = some (.int .u64 (P 10)) ∧ w'.cell? ⟨m, 11, none⟩ = some (.int .u64 (P 11)))
            (first
              | exact ⟨grown_drew hg, db.of_block rfl, d2, d7, d15, d16, da, ft, p6, p7, p8, p9, p10, p11⟩
              | (go_split_ands; exact ⟨grown_trans (by assumption) hg', But.grown (by assumption) hg' (by simp), hg'.cell (by assumption) (by simp), hg'.cell (by assumption) (by simp), hg'.cell (by assumption) (by simp), hg'.cell (by assumption) (by simp), int_at_grown (by assumption) hg' (by simp), But.frozen (But.grown (by assumption) hg' (by simp)) _, hg'.cell (by assumption) (by simp), hg'.cell (by assumption) (by simp), hg'.cell (by assumption) (by simp), hg'.cell (by assumption) (by simp), hg'.cell (by assumption) (by simp), hg'.cell (by assumption) (by simp)⟩)
              | (go_split_ands; exact ⟨grown_setCell_new (by assumption) _ _ (Or.inl (Nat.le_refl _)), But.set (by assumption) _, cell_set (by assumption) (by first | (simp; done) | (simp; omega)), cell_set (by assumption) (by first | (simp; done) | (simp; omega)), cell_set (by assumption) (by first | (simp; done) | (simp; omega)), cell_set (by assumption) (by first | (simp; done) | (simp; omega)), int_at_set (by assumption) _, But.frozen (But.set (by assumption) _) _, cell_set (by assumption) (by first | (simp; done) | (simp; omega)), cell_set (by assumption) (by first | (simp; done) | (simp; omega)), cell_set (by assumption) (by first | (simp; done) | (simp; omega)), cell_set (by assumption) (by first | (simp; done) | (simp; omega)), cell_set (by assumption) (by first | (simp; done) | (simp; omega)), cell_set (by assumption) (by first | (simp; done) | (simp; omega))⟩))
            (first
              | (go_at_call 77; (with_reducible refine (shifted32 _ _ _ _ _ (word_lt32 P blk hb _) (hP 9) (hP 10) (hP 11)).mono ?_); rintro e w' ⟨rfl, hg'⟩)
              | (go_at_call 77; (with_reducible refine (shifted32 _ _ _ _ _ (word_lt32 P blk hb _) (hP 6) (hP 7) (hP 8)).mono ?_); rintro e w' ⟨rfl, hg'⟩))
          rename_i hHeld
          clear hHeld
          have G : wr.drew.grownBy w' none := grown_trans (by assumption) hg'
          have hV := word_sum32 (shifted 32 (word 32 P blk (t - 2)) (P 9) (P 10) (P 11)) (word 32 P blk (t - 7)) (shifted 32 (word 32 P blk (t - 15)) (P 6) (P 7) (P 8)) (word 32 P blk (t - 16))
          rw [← word_high 32 P blk t ht] at hV
          have HB := ((db.of_block (w' := wr.drew) rfl).grown G (by simp)).close (word 32 P blk t) (by omega)
          have HG : w.grownBy w' none := grown_trans hg (grown_trans (grown_drew (grown_refl _ _)) G)
          rw [hV]
          clear w2 w7 w15 w16 hV b2 b7 b15 b16 d2 d7 d15 d16 dt ft p6 p7 p8 p9 p10 p11 da c1 G hg'
          go_wp2_with fail
          refine ⟨⟨t + 1, by omega, by omega, by go_num, grown_setCell_new HG _ _ (Or.inl (Nat.le_refl _)), HB.congr ?_⟩, by simp [intOf]; omega⟩
          intro i hi
          by_cases e : i = t
          · subst e; simp [upd, wordsTo]
          · have e1 : (i < t + 1) = (i < t) := by simp; omega
            simp [upd, e, wordsTo, e1]
        · have h64 : t = 64 := by omega
          rw [h64] at hH
          have hge2 : (64 : Int) ≤ t := by omega
          clear h64 htt ht2
          go_wp2_with (first
            | refine wpList_load_row rfl 116 (.tmp 2) rfl w.heap.size rfl 116 _ (0, 0) (.array 80 88) hH.block (by kernel_rfl) rfl (by rw [cellsOf_size]; kernel_rfl) ?_
            | refine wpList_store_row rfl 116 (.tmp 2) (.tmp 80) rfl w.heap.size _ rfl rfl 116 _ hH.block (by rw [cellsOf_size]; kernel_rfl) rfl (cellsOf_all _ _ _) ?_)
          exact bodyPost_ret (v := .agg (cellsOf .u32 80 (wordsTo 32 P blk 64))) (results_cell_row rfl _ _ w.heap.size 116 _ (0, 0) (.array 80 88) rfl (hH.setRow .u32 80 (wordsTo 32 P blk 64)).block (by kernel_rfl) rfl (by rw [cellsOf_size]; kernel_rfl)) rfl ⟨rfl, grown_setRow_new hg _ _ (Or.inl (Nat.le_refl _))⟩

end Go.Proofs.YtobaplndoaeoiaaDoor
