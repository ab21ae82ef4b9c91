/-
  curve's square and Clamp.
-/
import Derived.Test.YtpnddojcihdniaaFieldMul
import Derived.Test.YtpnddojcihdniaaFieldPow
import Derived.Test.YtpnddojcihdniaaCurveM
namespace Go.Proofs.Ytpnddojcihdniaa
open Go.RowKit Go.Shelf

set_option maxRecDepth 100000
set_option maxHeartbeats 2000000

theorem square_any {f : Nat → Nat} {v : Nat} (hf : Is5 f v) (w : World) :
    Calls Try.prog 56 #[.agg (cellsOf .u64 5 f)] w fun e w' => e = .returned (.agg (cellsOf .u64 5 (mulL f f))) ∧ w.grownBy w' none := by
  have HM := Lib.hid (fun U => mul_any hf hf U)
  obtain ⟨z, hz⟩ : ∃ z, z = mulL f f := ⟨_, rfl⟩
  rw [← hz] at HM ⊢
  clear hz hf
  have hA : Holds ((w.alloc (.cells (cellsOf .u64 5 f) 28)).alloc (.cells #[.int .u64 0, .int .u64 0, .int .u64 0, .int .u64 0, .int .u64 0] 28)) w.heap.size 28 .u64 5 f := (holds_alloc w 28 .u64 5 f _ rfl).grown (World.grownBy_alloc _ _ none) (by simp)
  have hD : Holds ((w.alloc (.cells (cellsOf .u64 5 f) 28)).alloc (.cells #[.int .u64 0, .int .u64 0, .int .u64 0, .int .u64 0, .int .u64 0] 28)) (w.heap.size + 1) 28 .u64 5 (fun _ => 0) := by
    have := holds_alloc (w.alloc (.cells (cellsOf .u64 5 f) 28)) 28 .u64 5 (fun _ => 0) #[.int .u64 0, .int .u64 0, .int .u64 0, .int .u64 0, .int .u64 0] rfl
    rwa [World.size_alloc] at this
  have gr := grown_alloc (World.grownBy_alloc w (.cells (cellsOf .u64 5 f) 28) none) (.cells #[.int .u64 0, .int .u64 0, .int .u64 0, .int .u64 0, .int .u64 0] 28)
  go_enter Try.func56, Try.ntmps56
  go_upto_region 1 with fail
  generalize (w.alloc (.cells (cellsOf .u64 5 f) 28)).alloc (.cells #[.int .u64 0, .int .u64 0, .int .u64 0, .int .u64 0, .int .u64 0] 28) = w1 at *
  go_wp2_with (refine wpList_load_num rfl 1 rfl rfl hA ?_)
  go_at_call 13
  refine (HM.out _).mono ?_
  rintro e U ⟨rfl, g⟩
  have hD2 := hD.grown g (by simp)
  have gr2 := grown_trans gr g
  have hE := hD2.setRow .u64 5 z
  have gE := grown_setRow_new gr2 (w.heap.size + 1) (cellsOf .u64 5 z) (Or.inl (by omega))
  have HE := Lib.hid hE
  have GE := Lib.hid gE
  clear g hA hD gr gr2 hE gE
  go_wp2_with (refine wpList_store_row rfl 28 (.tmp 2) (.tmp 5) rfl (w.heap.size + 1) _ rfl rfl 28 _ hD2.block (by rw [cellsOf_size]; kernel_rfl) rfl (cellsOf_all _ _ _) ?_)
  refine bodyPost_ret (res_row rfl rfl HE.out (by kernel_rfl) (by kernel_rfl)) rfl ?_
  exact ⟨rfl, GE.out⟩

theorem cl_and0 : ∀ x : Nat, x < 256 → bits .and .u8 (x : Int) 248 = ((x / 8 * 8 : Nat) : Int) := by decide +kernel
theorem cl_and31 : ∀ x : Nat, x < 256 → bits .and .u8 (x : Int) 63 = ((x % 64 : Nat) : Int) := by decide +kernel
theorem cl_or31 : ∀ x : Nat, x < 64 → bits .or .u8 (x : Int) 64 = ((x + 64 : Nat) : Int) := by decide +kernel
theorem clamp_any (f : Nat → Nat) (hf : ∀ i, f i < 256) (w : World) :
    Calls Try.prog 21 #[.agg (cellsOf .u8 32 f)] w fun e w' => e = .returned (.agg (cellsOf .u8 32 (clampF f))) ∧ w.grownBy w' none := by
  have hA : Holds ((w.alloc (.cells (cellsOf .u8 32 f) 45)).alloc (.cells #[.int .u8 0, .int .u8 0, .int .u8 0, .int .u8 0, .int .u8 0, .int .u8 0, .int .u8 0, .int .u8 0, .int .u8 0, .int .u8 0, .int .u8 0, .int .u8 0, .int .u8 0, .int .u8 0, .int .u8 0, .int .u8 0, .int .u8 0, .int .u8 0, .int .u8 0, .int .u8 0, .int .u8 0, .int .u8 0, .int .u8 0, .int .u8 0, .int .u8 0, .int .u8 0, .int .u8 0, .int .u8 0, .int .u8 0, .int .u8 0, .int .u8 0, .int .u8 0] 45)) w.heap.size 45 .u8 32 f := (holds_alloc w 45 .u8 32 f _ rfl).grown (World.grownBy_alloc _ _ none) (by simp)
  have hD : Holds ((w.alloc (.cells (cellsOf .u8 32 f) 45)).alloc (.cells #[.int .u8 0, .int .u8 0, .int .u8 0, .int .u8 0, .int .u8 0, .int .u8 0, .int .u8 0, .int .u8 0, .int .u8 0, .int .u8 0, .int .u8 0, .int .u8 0, .int .u8 0, .int .u8 0, .int .u8 0, .int .u8 0, .int .u8 0, .int .u8 0, .int .u8 0, .int .u8 0, .int .u8 0, .int .u8 0, .int .u8 0, .int .u8 0, .int .u8 0, .int .u8 0, .int .u8 0, .int .u8 0, .int .u8 0, .int .u8 0, .int .u8 0, .int .u8 0] 45)) (w.heap.size + 1) 45 .u8 32 (fun _ => 0) := by
    have := holds_alloc (w.alloc (.cells (cellsOf .u8 32 f) 45)) 45 .u8 32 (fun _ => 0) #[.int .u8 0, .int .u8 0, .int .u8 0, .int .u8 0, .int .u8 0, .int .u8 0, .int .u8 0, .int .u8 0, .int .u8 0, .int .u8 0, .int .u8 0, .int .u8 0, .int .u8 0, .int .u8 0, .int .u8 0, .int .u8 0, .int .u8 0, .int .u8 0, .int .u8 0, .int .u8 0, .int .u8 0, .int .u8 0, .int .u8 0, .int .u8 0, .int .u8 0, .int .u8 0, .int .u8 0, .int .u8 0, .int .u8 0, .int .u8 0, .int .u8 0, .int .u8 0] rfl
    rwa [World.size_alloc] at this
  have gr := grown_alloc (World.grownBy_alloc w (.cells (cellsOf .u8 32 f) 45) none) (.cells #[.int .u8 0, .int .u8 0, .int .u8 0, .int .u8 0, .int .u8 0, .int .u8 0, .int .u8 0, .int .u8 0, .int .u8 0, .int .u8 0, .int .u8 0, .int .u8 0, .int .u8 0, .int .u8 0, .int .u8 0, .int .u8 0, .int .u8 0, .int .u8 0, .int .u8 0, .int .u8 0, .int .u8 0, .int .u8 0, .int .u8 0, .int .u8 0, .int .u8 0, .int .u8 0, .int .u8 0, .int .u8 0, .int .u8 0, .int .u8 0, .int .u8 0, .int .u8 0] 45)
  have a0 := cl_and0 (f 0) (hf 0)
  have a1 := cl_and31 (f 31) (hf 31)
  have a2 := cl_or31 (f 31 % 64) (Nat.mod_lt _ (by decide))
  obtain ⟨y0, hy0⟩ : ∃ y, y = f 0 / 8 * 8 := ⟨_, rfl⟩
  obtain ⟨y31, hy31⟩ : ∃ y, y = f 31 % 64 + 64 := ⟨_, rfl⟩
  obtain ⟨m, hm⟩ : ∃ y, y = f 31 % 64 := ⟨_, rfl⟩
  rw [← hy0] at a0
  rw [← hy31] at a2
  rw [← hm] at a1 a2
  obtain ⟨b, hb⟩ : ∃ b, b = w.heap.size := ⟨_, rfl⟩
  go_enter Try.func21, Try.ntmps21
  go_upto_region 1 with fail
  generalize (w.alloc (.cells (cellsOf .u8 32 f) 45)).alloc (.cells #[.int .u8 0, .int .u8 0, .int .u8 0, .int .u8 0, .int .u8 0, .int .u8 0, .int .u8 0, .int .u8 0, .int .u8 0, .int .u8 0, .int .u8 0, .int .u8 0, .int .u8 0, .int .u8 0, .int .u8 0, .int .u8 0, .int .u8 0, .int .u8 0, .int .u8 0, .int .u8 0, .int .u8 0, .int .u8 0, .int .u8 0, .int .u8 0, .int .u8 0, .int .u8 0, .int .u8 0, .int .u8 0, .int .u8 0, .int .u8 0, .int .u8 0, .int .u8 0] 45) = w1 at *
  rw [← hb] at hA hD ⊢
  have hB := hA.set 0 y0
  have hC := hB.set 31 y31
  have hC2 : Holds _ b 45 .u8 32 (clampF f) := hC.congr (fun i hi => by
    unfold clampF
    by_cases e1 : i = 31
    · subst e1; rw [upd_same, if_neg (by decide), if_pos rfl, hy31]
    · rw [upd_other _ _ _ _ e1]
      by_cases e0 : i = 0
      · subst e0; rw [upd_same, if_pos rfl, hy0]
      · rw [upd_other _ _ _ _ e0, if_neg e0, if_neg e1])
  have g2 := grown_setCell_new (grown_setCell_new gr ⟨b, 0, none⟩ (.int .u8 (y0 : Nat)) (Or.inl (by show w.heap.size ≤ b; omega))) ⟨b, 31, none⟩ (.int .u8 (y31 : Nat)) (Or.inl (by show w.heap.size ≤ b; omega))
  have hD2 := (hD.setOther ⟨b, 0, none⟩ (.int .u8 (y0 : Nat)) (by show b + 1 ≠ b; omega)).setOther ⟨b, 31, none⟩ (.int .u8 (y31 : Nat)) (by show b + 1 ≠ b; omega)
  have hE := hD2.setRow .u8 32 (clampF f)
  have gE := grown_setRow_new g2 (b + 1) (cellsOf .u8 32 (clampF f)) (Or.inl (by omega))
  have c0 := hA.cell 0 (by decide)
  have f0 := hA.frozen 0
  have c1 := hB.cell 31 (by decide)
  have f1 := hB.frozen 31
  rw [upd_other _ _ _ _ (by decide)] at c1
  have HE := Lib.hid hE
  have GE := Lib.hid gE
  have hDb := hD2.block
  clear hE gE g2 hA hB hC gr hD hf hD2 hb hy0 hy31 hm
  go_wp2_with (first
    | refine wpList_load_row rfl 45 (.tmp 1) rfl b rfl 45 _ (0, 0) (.array 32 5) hC2.block (by kernel_rfl) rfl (by rw [cellsOf_size]; kernel_rfl) ?_
    | refine wpList_store_row rfl 45 (.tmp 2) (.tmp 12) rfl (b + 1) _ rfl rfl 45 _ hDb (by rw [cellsOf_size]; kernel_rfl) rfl (cellsOf_all _ _ _) ?_)
  refine bodyPost_ret (res_row rfl rfl HE.out (by kernel_rfl) (by kernel_rfl)) rfl ?_
  exact ⟨rfl, GE.out⟩
end Go.Proofs.Ytpnddojcihdniaa
