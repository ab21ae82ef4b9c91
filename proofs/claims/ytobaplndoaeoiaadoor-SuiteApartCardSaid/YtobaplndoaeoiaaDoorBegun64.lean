/-
  sha's machine of words of 64 bits, begun.
-/
import Derived.Test.YtobaplndoaeoiaaDoorTake64
import Derived.Test.YtobaplndoaeoiaaDoorShaSpec
import Derived.StillTailTactics
namespace Go.Proofs.YtobaplndoaeoiaaDoor
open Go.RowKit

set_option maxRecDepth 100000
set_option maxHeartbeats 1000000

/-- The places of SHA-512. -/
def P64 (i : Nat) : Nat := [28, 34, 39, 14, 18, 41, 1, 8, 7, 19, 61, 6].getD i 1

theorem P64_ok (i : Nat) : 0 < P64 i ∧ P64 i < 64 := by
  unfold P64
  by_cases h : i < 12
  · have : i = 0 ∨ i = 1 ∨ i = 2 ∨ i = 3 ∨ i = 4 ∨ i = 5 ∨ i = 6 ∨ i = 7 ∨ i = 8 ∨ i = 9 ∨ i = 10 ∨ i = 11 := by omega
    rcases this with h | h | h | h | h | h | h | h | h | h | h | h <;> subst h <;> decide
  · rw [List.getD_eq_getElem?_getD, List.getElem?_eq_none (by simp; omega)]; decide

/-- The state at first, of SHA-512, by the table F. -/
def H64 (F : Nat → Nat) (i : Nat) : Nat := F i / 2 ^ 0
theorem H64_lt (F : Nat → Nat) (hF : ∀ i, F i < 2 ^ 64) (i : Nat) : H64 F i < 2 ^ 64 := by
  have := hF i
  unfold H64
  omega

/-- The machine's cells at first, as a walk builds them. -/
theorem cells64_eq : (((((((((((((Tryd.zeroCells102.setIfInBounds 0 (Value.int IntKind.u64 28)).setIfInBounds 1 (Value.int IntKind.u64 34)).setIfInBounds 2 (Value.int IntKind.u64 39)).setIfInBounds 3 (Value.int IntKind.u64 14)).setIfInBounds 4 (Value.int IntKind.u64 18)).setIfInBounds 5 (Value.int IntKind.u64 41)).setIfInBounds 6 (Value.int IntKind.u64 1)).setIfInBounds 7 (Value.int IntKind.u64 8)).setIfInBounds 8 (Value.int IntKind.u64 7)).setIfInBounds 9 (Value.int IntKind.u64 19)).setIfInBounds 10 (Value.int IntKind.u64 61)).setIfInBounds 11 (Value.int IntKind.u64 6)).setIfInBounds 12 (Value.int IntKind.i64 80)) = machCells .u64 P64 80 (fun _ => 0) (fun _ => 0) 0 0 := by kernel_rfl

theorem begun64 (F K g : Nat → Nat) (w : World) (hL : Laid w 1 2 F K) (hF : ∀ i, F i < 2 ^ 64) :
    Calls Tryd.prog 41 #[.int .i64 80, .agg #[.int .u64 28, .int .u64 34, .int .u64 39, .int .u64 14, .int .u64 18, .int .u64 41, .int .u64 1, .int .u64 8, .int .u64 7, .int .u64 19, .int .u64 61, .int .u64 6]] w fun e w' =>
      e = .returned (.pointer (some ⟨w.heap.size + 1, 0, none⟩)) ∧ w.grownBy w' none ∧ MT 64 80 .u64 P64 K (H64 F) g w' (w.heap.size + 1) 0 0 := by
  go_enter Tryd.func41, Tryd.ntmps41
  go_wp2_with fail
  have hMm := mach_of_cells (k := .u64) (w := (w.alloc (.cells #[.int .u64 28, .int .u64 34, .int .u64 39, .int .u64 14, .int .u64 18, .int .u64 41, .int .u64 1, .int .u64 8, .int .u64 7, .int .u64 19, .int .u64 61, .int .u64 6] 84)).alloc (.cells (((((((((((((Tryd.zeroCells102.setIfInBounds 0 (Value.int IntKind.u64 28)).setIfInBounds 1 (Value.int IntKind.u64 34)).setIfInBounds 2 (Value.int IntKind.u64 39)).setIfInBounds 3 (Value.int IntKind.u64 14)).setIfInBounds 4 (Value.int IntKind.u64 18)).setIfInBounds 5 (Value.int IntKind.u64 41)).setIfInBounds 6 (Value.int IntKind.u64 1)).setIfInBounds 7 (Value.int IntKind.u64 8)).setIfInBounds 8 (Value.int IntKind.u64 7)).setIfInBounds 9 (Value.int IntKind.u64 19)).setIfInBounds 10 (Value.int IntKind.u64 61)).setIfInBounds 11 (Value.int IntKind.u64 6)).setIfInBounds 12 (Value.int IntKind.i64 80)) 102)) (m := w.heap.size + 1) (T := 102) (P := P64) (R := 80) (st := fun _ => 0) (blk := fun _ => 0) (fl := 0) (len := 0) (by
    rw [← cells64_eq]; exact heap_alloc2_new w _ _)
  have hgm : w.grownBy ((w.alloc (.cells #[.int .u64 28, .int .u64 34, .int .u64 39, .int .u64 14, .int .u64 18, .int .u64 41, .int .u64 1, .int .u64 8, .int .u64 7, .int .u64 19, .int .u64 61, .int .u64 6] 84)).alloc (.cells (((((((((((((Tryd.zeroCells102.setIfInBounds 0 (Value.int IntKind.u64 28)).setIfInBounds 1 (Value.int IntKind.u64 34)).setIfInBounds 2 (Value.int IntKind.u64 39)).setIfInBounds 3 (Value.int IntKind.u64 14)).setIfInBounds 4 (Value.int IntKind.u64 18)).setIfInBounds 5 (Value.int IntKind.u64 41)).setIfInBounds 6 (Value.int IntKind.u64 1)).setIfInBounds 7 (Value.int IntKind.u64 8)).setIfInBounds 8 (Value.int IntKind.u64 7)).setIfInBounds 9 (Value.int IntKind.u64 19)).setIfInBounds 10 (Value.int IntKind.u64 61)).setIfInBounds 11 (Value.int IntKind.u64 6)).setIfInBounds 12 (Value.int IntKind.i64 80)) 102)) none := grown_alloc (grown_alloc (grown_refl w none) _) _
  go_wp2_with fail
  generalize (w.alloc (.cells #[.int .u64 28, .int .u64 34, .int .u64 39, .int .u64 14, .int .u64 18, .int .u64 41, .int .u64 1, .int .u64 8, .int .u64 7, .int .u64 19, .int .u64 61, .int .u64 6] 84)).alloc (.cells ((((((((((((((Tryd.zeroCells102.setIfInBounds 0 (Value.int IntKind.u64 28)).setIfInBounds 1 (Value.int IntKind.u64 34)).setIfInBounds 2 (Value.int IntKind.u64 39)).setIfInBounds 3 (Value.int IntKind.u64 14)).setIfInBounds 4 (Value.int IntKind.u64 18)).setIfInBounds 5 (Value.int IntKind.u64 41)).setIfInBounds 6 (Value.int IntKind.u64 1)).setIfInBounds 7 (Value.int IntKind.u64 8)).setIfInBounds 8 (Value.int IntKind.u64 7)).setIfInBounds 9 (Value.int IntKind.u64 19)).setIfInBounds 10 (Value.int IntKind.u64 61)).setIfInBounds 11 (Value.int IntKind.u64 6)).setIfInBounds 12 (Value.int IntKind.i64 80))) 102) = w1 at *
  go_loopw [11] (fun u11 wr => ∃ i : Nat, i ≤ 8 ∧ u11 = .int .i64 i ∧ w.grownBy wr none ∧ Mach .u64 wr (w.heap.size + 1) P64 80 (fun j => if j < i then H64 F j else 0) (fun _ => 0) 0 0) (fun u11 _ => 8 - (intOf u11).toNat)
  case atStart => exact ⟨0, by omega, rfl, hgm, hMm.congr (fun _ _ => by simp) (fun _ _ => rfl)⟩
  case round =>
    obtain ⟨i, hi, rfl, hgr, hMr⟩ := hrel
    by_cases hi8 : i < 8
    · have hi1 : (i : Int) < 8 := by omega
      have hLr := hL.grown hgr (by simp) (by simp)
      have c1 : wr.drew.cell? ⟨1, i, none⟩ = some (.int .u64 (F i)) := hLr.begin_ i hi8
      have c2 : wr.drew.cell? ⟨w.heap.size + 1, 13 + i, none⟩ = _ := hMr.state i hi8
      have f2 : wr.drew.frozen? ⟨w.heap.size + 1, 13 + i, none⟩ = false := hMr.free _
      have hM2 := (hMr.of_block (w' := wr.drew) rfl).setState i (H64 F i) hi8
      have hg2 := grown_setCell_new (grown_drew hgr) ⟨w.heap.size + 1, 13 + i, none⟩ (.int .u64 (H64 F i : Nat)) (Or.inl (by simp))
      go_wp2_with fail
      refine wp_region_still_tail 9 (by kernel_rfl) (by kernel_rfl) ?_
      change wpStill _ _ wr.drew (fun a' => wpList _ _ _ _ a' wr.drew) _ _
      generalize wr.drew = w2 at *
      simp only [List.take_succ_cons, List.take_zero, List.drop_succ_cons, List.drop_zero]
      repeat still_step
      still_call ((upper64 _ _ (hF _)).mono fun _ _ h => ⟨h.1, h.2.symm⟩)
      repeat still_step
      refine wpStill_nil ?_
      go_wp2_with fail
      have hv : (F i : Int) = ((H64 F i : Nat) : Int) := by unfold H64; simp
      rw [hv]
      refine ⟨⟨i + 1, by omega, by go_num, hg2, hM2.congr ?_ (fun _ _ => rfl)⟩, by simp [intOf]; omega⟩
      intro j hj
      by_cases e : j = i
      · subst e; simp [upd]
      · have e1 : (j < i + 1) = (j < i) := by simp; omega
        simp [upd, e, e1]
    · have h8 : i = 8 := by omega
      have hge : (8 : Int) ≤ i := by omega
      rw [h8] at hMr
      clear h8 hi8 hi hMm hgm
      go_wp2_with fail
      go_ret
      exact ⟨rfl, hgr, ⟨fun _ => 0, hMr.congr (fun j hj => by simp [hj, stAfter]) (fun _ _ => rfl), fun _ h => absurd h (by simp), fun _ => by show 0 < 256; decide⟩⟩

end Go.Proofs.YtobaplndoaeoiaaDoor
