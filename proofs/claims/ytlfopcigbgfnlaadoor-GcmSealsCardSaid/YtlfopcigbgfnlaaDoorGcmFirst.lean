/-
  A nonce's first counter; how many bits bytes have.
-/
import Derived.Test.YtlfopcigbgfnlaaDoorGcmCopy
import Derived.Deep.RegionHeld3
import Derived.StillTailTactics
namespace Go.Proofs.YtlfopcigbgfnlaaDoor
open Go.RowKit

set_option maxRecDepth 100000
set_option maxHeartbeats 1000000

theorem gbits_any (a : Option Addr) (n c : Nat) (w : World) (hn : n ≤ 2 ^ 50) : Calls Tryd.prog 35 #[.slice a n c] w fun e w' => e = .returned (.int .u64 ((8 * n : Nat) : Int)) ∧ w = w' := by
  have h1 : (n : Int) ≤ 1125899906842624 := by omega
  have hv : IntKind.u64.wrap (8 * (n : Int)) = ((8 * n : Nat) : Int) := by rw [IntKind.wrap_u64]; omega
  have HV := Lib.hid hv
  clear hn hv
  go_enter Tryd.func35, Tryd.ntmps35
  go_wp2_with fail
  go_ret
  refine ⟨ret_int ?_, rfl⟩
  omega

/-- A nonce's first counter. -/
def firstF (f : Nat → Nat) (j : Nat) : Nat := if j < 12 then f j else if j = 15 then 1 else 0
theorem firstF_lt (f : Nat → Nat) (hf : ∀ i, f i < 256) (j : Nat) : firstF f j < 256 := by
  unfold firstF
  split
  · exact hf j
  · split <;> decide

theorem first_any (f : Nat → Nat) (w : World) : Calls Tryd.prog 17 #[.agg (cellsOf .u8 12 f)] w fun e w' => e = .returned (.agg (cellsOf .u8 16 (firstF f))) ∧ w.grownBy w' none := by
  have hA : Holds (((w.alloc (.cells (cellsOf .u8 12 f) 23)).alloc (.cells #[.int .u8 0, .int .u8 0, .int .u8 0, .int .u8 0, .int .u8 0, .int .u8 0, .int .u8 0, .int .u8 0, .int .u8 0, .int .u8 0, .int .u8 0, .int .u8 0, .int .u8 0, .int .u8 0, .int .u8 0, .int .u8 0] 24)).alloc (.cells #[.int .u8 0, .int .u8 0, .int .u8 0, .int .u8 0, .int .u8 0, .int .u8 0, .int .u8 0, .int .u8 0, .int .u8 0, .int .u8 0, .int .u8 0, .int .u8 0, .int .u8 0, .int .u8 0, .int .u8 0, .int .u8 1] 24)) w.heap.size 23 .u8 12 f := ((holds_alloc w 23 .u8 12 f _ rfl).grown (World.grownBy_alloc _ _ none) (by simp)).grown (World.grownBy_alloc _ _ none) (by simp)
  have hB : Holds (((w.alloc (.cells (cellsOf .u8 12 f) 23)).alloc (.cells #[.int .u8 0, .int .u8 0, .int .u8 0, .int .u8 0, .int .u8 0, .int .u8 0, .int .u8 0, .int .u8 0, .int .u8 0, .int .u8 0, .int .u8 0, .int .u8 0, .int .u8 0, .int .u8 0, .int .u8 0, .int .u8 0] 24)).alloc (.cells #[.int .u8 0, .int .u8 0, .int .u8 0, .int .u8 0, .int .u8 0, .int .u8 0, .int .u8 0, .int .u8 0, .int .u8 0, .int .u8 0, .int .u8 0, .int .u8 0, .int .u8 0, .int .u8 0, .int .u8 0, .int .u8 1] 24)) (w.heap.size + 1) 24 .u8 16 (fun _ => 0) := by
    have := (holds_alloc (w.alloc (.cells (cellsOf .u8 12 f) 23)) 24 .u8 16 (fun _ => 0) #[.int .u8 0, .int .u8 0, .int .u8 0, .int .u8 0, .int .u8 0, .int .u8 0, .int .u8 0, .int .u8 0, .int .u8 0, .int .u8 0, .int .u8 0, .int .u8 0, .int .u8 0, .int .u8 0, .int .u8 0, .int .u8 0] rfl).grown (World.grownBy_alloc _ (.cells #[.int .u8 0, .int .u8 0, .int .u8 0, .int .u8 0, .int .u8 0, .int .u8 0, .int .u8 0, .int .u8 0, .int .u8 0, .int .u8 0, .int .u8 0, .int .u8 0, .int .u8 0, .int .u8 0, .int .u8 0, .int .u8 1] 24) none) (by simp)
    rwa [World.size_alloc] at this
  have hC : Holds (((w.alloc (.cells (cellsOf .u8 12 f) 23)).alloc (.cells #[.int .u8 0, .int .u8 0, .int .u8 0, .int .u8 0, .int .u8 0, .int .u8 0, .int .u8 0, .int .u8 0, .int .u8 0, .int .u8 0, .int .u8 0, .int .u8 0, .int .u8 0, .int .u8 0, .int .u8 0, .int .u8 0] 24)).alloc (.cells #[.int .u8 0, .int .u8 0, .int .u8 0, .int .u8 0, .int .u8 0, .int .u8 0, .int .u8 0, .int .u8 0, .int .u8 0, .int .u8 0, .int .u8 0, .int .u8 0, .int .u8 0, .int .u8 0, .int .u8 0, .int .u8 1] 24)) (w.heap.size + 1 + 1) 24 .u8 16 (fun j => if j = 15 then 1 else 0) := by
    have := holds_alloc ((w.alloc (.cells (cellsOf .u8 12 f) 23)).alloc (.cells #[.int .u8 0, .int .u8 0, .int .u8 0, .int .u8 0, .int .u8 0, .int .u8 0, .int .u8 0, .int .u8 0, .int .u8 0, .int .u8 0, .int .u8 0, .int .u8 0, .int .u8 0, .int .u8 0, .int .u8 0, .int .u8 0] 24)) 24 .u8 16 (fun j => if j = 15 then 1 else 0) #[.int .u8 0, .int .u8 0, .int .u8 0, .int .u8 0, .int .u8 0, .int .u8 0, .int .u8 0, .int .u8 0, .int .u8 0, .int .u8 0, .int .u8 0, .int .u8 0, .int .u8 0, .int .u8 0, .int .u8 0, .int .u8 1] rfl
    rwa [World.size_alloc, World.size_alloc] at this
  have hg := grown_alloc (grown_alloc (World.grownBy_alloc w (.cells (cellsOf .u8 12 f) 23) none) (.cells #[.int .u8 0, .int .u8 0, .int .u8 0, .int .u8 0, .int .u8 0, .int .u8 0, .int .u8 0, .int .u8 0, .int .u8 0, .int .u8 0, .int .u8 0, .int .u8 0, .int .u8 0, .int .u8 0, .int .u8 0, .int .u8 0] 24)) (.cells #[.int .u8 0, .int .u8 0, .int .u8 0, .int .u8 0, .int .u8 0, .int .u8 0, .int .u8 0, .int .u8 0, .int .u8 0, .int .u8 0, .int .u8 0, .int .u8 0, .int .u8 0, .int .u8 0, .int .u8 0, .int .u8 1] 24)
  go_enter Tryd.func17, Tryd.ntmps17
  go_wp2_with fail
  generalize (((w.alloc (.cells (cellsOf .u8 12 f) 23)).alloc (.cells #[.int .u8 0, .int .u8 0, .int .u8 0, .int .u8 0, .int .u8 0, .int .u8 0, .int .u8 0, .int .u8 0, .int .u8 0, .int .u8 0, .int .u8 0, .int .u8 0, .int .u8 0, .int .u8 0, .int .u8 0, .int .u8 0] 24)).alloc (.cells #[.int .u8 0, .int .u8 0, .int .u8 0, .int .u8 0, .int .u8 0, .int .u8 0, .int .u8 0, .int .u8 0, .int .u8 0, .int .u8 0, .int .u8 0, .int .u8 0, .int .u8 0, .int .u8 0, .int .u8 0, .int .u8 1] 24)) = w1 at *
  have hAd := hA.drew
  have hBd := hB.drew
  have hCd := hC.drew
  have hgd := grown_drew hg
  have hcp := copy_bytes (g := f) (a := some ⟨w.heap.size, 0, none⟩) 12 hCd (hAd.rd w1.heap.size hA.lt 12 (Nat.le_refl _)) (by decide) 12 rfl
  have hC2 := (hCd.copy 12 f).congr (g := firstF f) (fun j hj => rfl)
  have hB2 := hBd.grown (grown_setCells (w.heap.size + 1 + 1) (Or.inr rfl) ((List.range 12).map fun i => Value.int .u8 (f i)) 0 _ (grown_refl w1.drew (some (w.heap.size + 1 + 1)))) (by simp)
  have hg2 := grown_setCells (w.heap.size + 1 + 1) (Or.inl (by omega)) ((List.range 12).map fun i => Value.int .u8 (f i)) 0 _ hgd
  generalize w1.drew.setCells (w.heap.size + 1 + 1) 0 ((List.range 12).map fun i => Value.int .u8 (f i)) = w2 at *
  clear hA hB hC hg
  go_region
  go_wp2_with (first
    | refine wpList_load_row rfl 24 (.tmp 3) rfl (w.heap.size + 1 + 1) rfl 24 _ (0, 0) (.array 16 5) hC2.block (by kernel_rfl) rfl (by rw [cellsOf_size]; kernel_rfl) ?_
    | refine wpList_store_row rfl 24 (.tmp 2) (.tmp 8) rfl (w.heap.size + 1) _ rfl rfl 24 _ hB2.block (by rw [cellsOf_size]; kernel_rfl) rfl (cellsOf_all _ _ _) ?_)
  exact bodyPost_ret (v := .agg (cellsOf .u8 16 (firstF f))) (results_cell_row rfl _ _ (w.heap.size + 1) 24 _ (0, 0) (.array 16 5) rfl (hB2.setRow .u8 16 (firstF f)).block (by kernel_rfl) rfl (by rw [cellsOf_size]; kernel_rfl)) rfl ⟨rfl, grown_setRow_new hg2 _ _ (Or.inl (by omega))⟩
end Go.Proofs.YtlfopcigbgfnlaaDoor
