/-
  ctr's Next.
-/
import Derived.Test.YtlfopcigbgfnlaaDoorCtrMath
import Derived.Test.YtlfopcigbgfnlaaDoorShaSpec
namespace Go.Proofs.YtlfopcigbgfnlaaDoor
open Go.RowKit

set_option maxRecDepth 100000
set_option maxHeartbeats 1000000

theorem next_any (f : Nat → Nat) (w : World) (hf : ∀ i, f i < 256) : Calls Tryd.prog 19 #[.agg (cellsOf .u8 16 f)] w fun e w' => e = .returned (.agg (cellsOf .u8 16 (nextF f))) ∧ w.grownBy w' none := by
  have Hf := Lib.hid hf
  go_enter Tryd.func19, Tryd.ntmps19
  go_wp2_with fail
  have hA : Holds ((w.alloc (.cells (cellsOf .u8 16 f) 24)).alloc (.cells #[.int .u8 0, .int .u8 0, .int .u8 0, .int .u8 0, .int .u8 0, .int .u8 0, .int .u8 0, .int .u8 0, .int .u8 0, .int .u8 0, .int .u8 0, .int .u8 0, .int .u8 0, .int .u8 0, .int .u8 0, .int .u8 0] 24)) w.heap.size 24 .u8 16 f := (holds_alloc w 24 .u8 16 f _ rfl).of_block (by rw [heap_alloc_old]; simp)
  have hB : Holds ((w.alloc (.cells (cellsOf .u8 16 f) 24)).alloc (.cells #[.int .u8 0, .int .u8 0, .int .u8 0, .int .u8 0, .int .u8 0, .int .u8 0, .int .u8 0, .int .u8 0, .int .u8 0, .int .u8 0, .int .u8 0, .int .u8 0, .int .u8 0, .int .u8 0, .int .u8 0, .int .u8 0] 24)) (w.heap.size + 1) 24 .u8 16 (fun _ => 0) := by
    have := holds_alloc (w.alloc (.cells (cellsOf .u8 16 f) 24)) 24 .u8 16 (fun _ => 0) #[.int .u8 0, .int .u8 0, .int .u8 0, .int .u8 0, .int .u8 0, .int .u8 0, .int .u8 0, .int .u8 0, .int .u8 0, .int .u8 0, .int .u8 0, .int .u8 0, .int .u8 0, .int .u8 0, .int .u8 0, .int .u8 0] rfl
    rwa [World.size_alloc] at this
  have hg := grown_alloc (World.grownBy_alloc w (.cells (cellsOf .u8 16 f) 24) none) (.cells #[.int .u8 0, .int .u8 0, .int .u8 0, .int .u8 0, .int .u8 0, .int .u8 0, .int .u8 0, .int .u8 0, .int .u8 0, .int .u8 0, .int .u8 0, .int .u8 0, .int .u8 0, .int .u8 0, .int .u8 0, .int .u8 0] 24)
  generalize (w.alloc (.cells (cellsOf .u8 16 f) 24)).alloc (.cells #[.int .u8 0, .int .u8 0, .int .u8 0, .int .u8 0, .int .u8 0, .int .u8 0, .int .u8 0, .int .u8 0, .int .u8 0, .int .u8 0, .int .u8 0, .int .u8 0, .int .u8 0, .int .u8 0, .int .u8 0, .int .u8 0] 24) = w1 at *
  clear hf
  go_loopw [3] (fun u3 wr => ∃ k : Nat, 11 ≤ k ∧ k ≤ 15 ∧ u3 = .int .i64 k ∧ Hid (∀ j, k < j → j < 16 → f j = 255) ∧ w.grownBy wr none ∧ Holds wr w.heap.size 24 .u8 16 (nxt f k) ∧ Holds wr (w.heap.size + 1) 24 .u8 16 (fun _ => 0)) (fun u3 _ => (intOf u3).toNat)
  case atStart => exact ⟨15, by omega, by omega, rfl, Lib.hid (fun j h1 h2 => by omega), hg, hA.congr (fun j hj => by unfold nxt; rw [if_pos (by omega)]), hB⟩
  case round =>
    clear hg hA hB
    obtain ⟨k, hk1, hk2, rfl, ha, hgr, hA, hB⟩ := hrel
    by_cases hlt : 12 ≤ k
    · have j1 : (12 : Int) ≤ k := by omega
      have j2 : (k : Int) < 16 := by omega
      have c0 : wr.cell? ⟨w.heap.size, k, none⟩ = some (.int .u8 (nxt f k k : Nat)) := hA.cell k (by omega)
      have f0 : wr.frozen? ⟨w.heap.size, k, none⟩ = false := hA.frozen k
      have ex : nxt f k k = f k := by unfold nxt; rw [if_pos (Nat.le_refl _)]
      rw [ex] at c0
      by_cases h255 : f k = 255
      · rw [h255] at c0
        have hA2 : Holds (wr.setCell ⟨w.heap.size, k, none⟩ (.int .u8 (0 : Nat))) w.heap.size 24 .u8 16 (nxt f (k - 1)) := (hA.set k 0).congr (fun j hj => by
          unfold upd nxt
          by_cases e : j = k
          · rw [if_pos e, if_neg (by omega)]
          · rw [if_neg e]
            by_cases e2 : j ≤ k
            · rw [if_pos e2, if_pos (by omega)]
            · rw [if_neg e2, if_neg (by omega)])
        have hB2 := hB.setOther ⟨w.heap.size, k, none⟩ (.int .u8 (0 : Nat)) (by show w.heap.size + 1 ≠ w.heap.size; omega)
        have hg2 := grown_setCell_new hgr ⟨w.heap.size, k, none⟩ (.int .u8 (0 : Nat)) (Or.inl (Nat.le_refl _))
        have c1 : (wr.setCell ⟨w.heap.size, k, none⟩ (.int .u8 0)).cell? ⟨w.heap.size, k, none⟩ = some (.int .u8 0) := World.cell?_setCell_same wr _ _ c0
        have ha2 : Hid (∀ j, k - 1 < j → j < 16 → f j = 255) := Lib.hid (fun j h1 h2 => by
          by_cases e : j = k
          · subst e; exact h255
          · exact ha.out j (by omega) h2)
        have HA := Lib.hid hA2
        have HB := Lib.hid hB2
        have HG := Lib.hid hg2
        obtain ⟨m, rfl⟩ : ∃ m, k = m + 1 := ⟨k - 1, by omega⟩
        clear hA2 hB2 hg2 h255 ex hA hB hgr ha
        go_wp2_with fail
        exact ⟨⟨m, by omega, by omega, rfl, ha2, HG.out, HA.out, HB.out⟩, by simp [intOf]⟩
      · have b0 := Hf.out k
        have hS : Holds (wr.setCell ⟨w.heap.size, k, none⟩ (.int .u8 (f k + 1 : Nat))) w.heap.size 24 .u8 16 (nextF f) := (hA.set k (f k + 1)).congr (nxt_stop f Hf.out k hlt (by omega) ha.out h255)
        have hB2 := hB.setOther ⟨w.heap.size, k, none⟩ (.int .u8 (f k + 1 : Nat)) (by show w.heap.size + 1 ≠ w.heap.size; omega)
        have hg2 := grown_setCell_new hgr ⟨w.heap.size, k, none⟩ (.int .u8 (f k + 1 : Nat)) (Or.inl (Nat.le_refl _))
        have c1 : (wr.setCell ⟨w.heap.size, k, none⟩ (.int .u8 (f k + 1 : Nat))).cell? ⟨w.heap.size, k, none⟩ = some (.int .u8 (f k + 1 : Nat)) := World.cell?_setCell_same wr _ _ c0
        have hbS := hS.block
        have hbB := hB2.block
        have hfin := grown_setRow_new hg2 (w.heap.size + 1) (cellsOf .u8 16 (nextF f)) (Or.inl (by omega))
        have hend := (hB2.setRow .u8 16 (nextF f)).block
        have z1 : IntKind.u8.wrap ((f k : Int) + 1) = ((f k + 1 : Nat) : Int) := by rw [IntKind.wrap_u8]; omega
        have z2 : (((f k + 1 : Nat) : Int) == 0) = false := by rw [beq_eq_false_iff_ne]; omega
        generalize hx : f k + 1 = x at *
        have Hz2 := Lib.hid z2
        have HS := Lib.hid hS
        have HX := Lib.hid hx
        clear hS hx ex hA hB hB2 hgr ha h255 b0
        go_wp2_with (first
          | refine wpList_load_row rfl 24 (.tmp 1) rfl w.heap.size rfl 24 _ (0, 0) (.array 16 5) hbS (by kernel_rfl) rfl (by rw [cellsOf_size]; kernel_rfl) ?_
          | refine wpList_store_row rfl 24 (.tmp 2) (.tmp 17) rfl (w.heap.size + 1) _ rfl rfl 24 _ hbB (by rw [cellsOf_size]; kernel_rfl) rfl (cellsOf_all _ _ _) ?_)
        exact bodyPost_ret (v := .agg (cellsOf .u8 16 (nextF f))) (results_cell_row rfl _ _ (w.heap.size + 1) 24 _ (0, 0) (.array 16 5) rfl hend (by kernel_rfl) rfl (by rw [cellsOf_size]; kernel_rfl)) rfl ⟨rfl, hfin⟩
    · obtain rfl : k = 11 := by omega
      have hS : Holds wr w.heap.size 24 .u8 16 (nextF f) := hA.congr (nxt_over f ha.out)
      have hbS := hS.block
      have hbB := hB.block
      have hfin := grown_setRow_new hgr (w.heap.size + 1) (cellsOf .u8 16 (nextF f)) (Or.inl (by omega))
      have hend := (hB.setRow .u8 16 (nextF f)).block
      clear hlt hk1 hk2 hS hA hB hgr ha
      go_wp2_with (first
        | refine wpList_load_row rfl 24 (.tmp 1) rfl w.heap.size rfl 24 _ (0, 0) (.array 16 5) hbS (by kernel_rfl) rfl (by rw [cellsOf_size]; kernel_rfl) ?_
        | refine wpList_store_row rfl 24 (.tmp 2) (.tmp 17) rfl (w.heap.size + 1) _ rfl rfl 24 _ hbB (by rw [cellsOf_size]; kernel_rfl) rfl (cellsOf_all _ _ _) ?_)
      exact bodyPost_ret (v := .agg (cellsOf .u8 16 (nextF f))) (results_cell_row rfl _ _ (w.heap.size + 1) 24 _ (0, 0) (.array 16 5) rfl hend (by kernel_rfl) rfl (by rw [cellsOf_size]; kernel_rfl)) rfl ⟨rfl, hfin⟩

end Go.Proofs.YtlfopcigbgfnlaaDoor
