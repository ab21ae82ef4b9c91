/-
  field's sums and differences.
-/
import Derived.Test.YtpnddojcihdniaaFieldCar
import Derived.StillTailTactics
namespace Go.Proofs.Ytpnddojcihdniaa
open Go.RowKit

set_option maxRecDepth 100000
set_option maxHeartbeats 2000000

theorem add_any {f g : Nat → Nat} {v u : Nat} (hf : Is5 f v) (hg : Is5 g u) (w : World) :
    Calls Try.prog 9 #[.agg (cellsOf .u64 5 f), .agg (cellsOf .u64 5 g)] w fun e w' => e = .returned (.agg (cellsOf .u64 5 (addL f g))) ∧ w.grownBy w' none := by
  have hx : ∀ i, i < 5 → addX f g i < 18446744073709551616 := fun i hi => addX_lt hf hg i hi
  have HC := Lib.hid (carried_any (addX f g) hx)
  have z0 : IntKind.u64.wrap ((f 0 : Int) + (g 0 : Int)) = ((addX f g 0 : Nat) : Int) := by
    have := hx 0 (by decide)
    unfold addX at this ⊢
    rw [IntKind.wrap_u64]
    omega
  have z1 : IntKind.u64.wrap ((f 1 : Int) + (g 1 : Int)) = ((addX f g 1 : Nat) : Int) := by
    have := hx 1 (by decide)
    unfold addX at this ⊢
    rw [IntKind.wrap_u64]
    omega
  have z2 : IntKind.u64.wrap ((f 2 : Int) + (g 2 : Int)) = ((addX f g 2 : Nat) : Int) := by
    have := hx 2 (by decide)
    unfold addX at this ⊢
    rw [IntKind.wrap_u64]
    omega
  have z3 : IntKind.u64.wrap ((f 3 : Int) + (g 3 : Int)) = ((addX f g 3 : Nat) : Int) := by
    have := hx 3 (by decide)
    unfold addX at this ⊢
    rw [IntKind.wrap_u64]
    omega
  have z4 : IntKind.u64.wrap ((f 4 : Int) + (g 4 : Int)) = ((addX f g 4 : Nat) : Int) := by
    have := hx 4 (by decide)
    unfold addX at this ⊢
    rw [IntKind.wrap_u64]
    omega
  have hA : Holds (((w.alloc (.cells (cellsOf .u64 5 f) 28)).alloc (.cells (cellsOf .u64 5 g) 28)).alloc (.cells #[.int .u64 0, .int .u64 0, .int .u64 0, .int .u64 0, .int .u64 0] 28)) w.heap.size 28 .u64 5 f := ((holds_alloc w 28 .u64 5 f _ rfl).grown (World.grownBy_alloc _ _ none) (by simp)).grown (World.grownBy_alloc _ _ none) (by simp)
  have hB : Holds (((w.alloc (.cells (cellsOf .u64 5 f) 28)).alloc (.cells (cellsOf .u64 5 g) 28)).alloc (.cells #[.int .u64 0, .int .u64 0, .int .u64 0, .int .u64 0, .int .u64 0] 28)) (w.heap.size + 1) 28 .u64 5 g := by
    have := (holds_alloc (w.alloc (.cells (cellsOf .u64 5 f) 28)) 28 .u64 5 g _ rfl).grown (World.grownBy_alloc _ (.cells #[.int .u64 0, .int .u64 0, .int .u64 0, .int .u64 0, .int .u64 0] 28) none) (by simp)
    rwa [World.size_alloc] at this
  have hD : Holds (((w.alloc (.cells (cellsOf .u64 5 f) 28)).alloc (.cells (cellsOf .u64 5 g) 28)).alloc (.cells #[.int .u64 0, .int .u64 0, .int .u64 0, .int .u64 0, .int .u64 0] 28)) (w.heap.size + 2) 28 .u64 5 (fun _ => 0) := by
    have := holds_alloc ((w.alloc (.cells (cellsOf .u64 5 f) 28)).alloc (.cells (cellsOf .u64 5 g) 28)) 28 .u64 5 (fun _ => 0) #[.int .u64 0, .int .u64 0, .int .u64 0, .int .u64 0, .int .u64 0] rfl
    rwa [World.size_alloc, World.size_alloc] at this
  have gr := grown_alloc (grown_alloc (World.grownBy_alloc w (.cells (cellsOf .u64 5 f) 28) none) (.cells (cellsOf .u64 5 g) 28)) (.cells #[.int .u64 0, .int .u64 0, .int .u64 0, .int .u64 0, .int .u64 0] 28)
  obtain ⟨S, hS0⟩ : ∃ S, S = addL f g := ⟨_, rfl⟩
  rw [← hS0]
  have hS := Lib.hid hS0
  clear hS0
  go_enter Try.func9, Try.ntmps9
  go_upto_region 2 with fail
  generalize ((w.alloc (.cells (cellsOf .u64 5 f) 28)).alloc (.cells (cellsOf .u64 5 g) 28)).alloc (.cells #[.int .u64 0, .int .u64 0, .int .u64 0, .int .u64 0, .int .u64 0] 28) = w1 at *
  obtain ⟨W, hW⟩ : ∃ W, W = w1.drew := ⟨_, rfl⟩
  have gW : w1.grownBy W none := by rw [hW]; exact grown_drew (grown_refl w1 none)
  have hA2 := hA.grown gW (by simp)
  have hB2 := hB.grown gW (by simp)
  have hD2 := hD.grown gW (by simp)
  have gr2 := grown_trans gr gW
  have a0 := hA2.cell 0 (by decide)
  have b0 := hB2.cell 0 (by decide)
  have a1 := hA2.cell 1 (by decide)
  have b1 := hB2.cell 1 (by decide)
  have a2 := hA2.cell 2 (by decide)
  have b2 := hB2.cell 2 (by decide)
  have a3 := hA2.cell 3 (by decide)
  have b3 := hB2.cell 3 (by decide)
  have a4 := hA2.cell 4 (by decide)
  have b4 := hB2.cell 4 (by decide)
  obtain ⟨q, hq⟩ : ∃ q, q = addX f g := ⟨_, rfl⟩
  have eaddL : carL q = S := by rw [hq, hS.out]; rfl
  rw [← hq] at HC z0 z1 z2 z3 z4
  have Z0 := Lib.hid z0
  have Z1 := Lib.hid z1
  have Z2 := Lib.hid z2
  have Z3 := Lib.hid z3
  have Z4 := Lib.hid z4
  have HE := Lib.hid eaddL
  have HW := Lib.hid hW.symm
  clear hx z0 z1 z2 z3 z4 hq hS hW eaddL hA hB hD gr gW hf hg
  generalize f 0 = f0 at *
  generalize f 1 = f1 at *
  generalize f 2 = f2 at *
  generalize f 3 = f3 at *
  generalize f 4 = f4 at *
  generalize g 0 = g0 at *
  generalize g 1 = g1 at *
  generalize g 2 = g2 at *
  generalize g 3 = g3 at *
  generalize g 4 = g4 at *
  refine wp_region_still_tail 45 (by kernel_rfl) (by kernel_rfl) ?_
  change wpStill _ _ (World.drew w1) (fun a' => wpList _ _ _ _ a' (World.drew w1)) _ _
  rw [HW.out]
  simp only [List.take_succ_cons, List.take_zero, List.drop_succ_cons, List.drop_zero]
  repeat still_step
  refine wpStill_nil ?_
  simp only [Z0.out, Z1.out, Z2.out, Z3.out, Z4.out]
  clear a0 a1 a2 a3 a4 b0 b1 b2 b3 b4
  go_wp2_with fail
  go_at_call 32
  refine (HC.out _).mono ?_
  rintro e w' ⟨rfl, gV⟩
  rw [HE.out] at *
  have hD3 := hD2.grown gV (by simp)
  go_wp2_with (refine wpList_store_row rfl 28 (.tmp 4) (.tmp 54) rfl (w.heap.size + 2) _ rfl rfl 28 _ hD3.block (by rw [cellsOf_size]; kernel_rfl) rfl (cellsOf_all _ _ _) ?_)
  exact bodyPost_ret (res_row rfl rfl (hD3.setRow .u64 5 _) (by kernel_rfl) (by kernel_rfl)) rfl ⟨rfl, grown_setRow_new (grown_trans gr2 gV) _ _ (Or.inl (by omega))⟩

theorem sub_any {f g : Nat → Nat} {v u : Nat} (hf : Is5 f v) (hg : Is5 g u) (w : World) :
    Calls Try.prog 11 #[.agg (cellsOf .u64 5 f), .agg (cellsOf .u64 5 g)] w fun e w' => e = .returned (.agg (cellsOf .u64 5 (subL f g))) ∧ w.grownBy w' none := by
  have hx : ∀ i, i < 5 → subX f g i < 18446744073709551616 := fun i hi => subX_lt g hf i hi
  have HC := Lib.hid (carried_any (subX f g) hx)
  have z0 : IntKind.u64.wrap (IntKind.u64.wrap ((f 0 : Int) + 9007199254740916) - (g 0 : Int)) = ((subX f g 0 : Nat) : Int) := by
    have h1 := hf.lt 0 (by decide)
    have h2 := hg.lt 0 (by decide)
    have h3 : subK 0 = 9007199254740916 := rfl
    unfold subX
    rw [h3, IntKind.wrap_u64, IntKind.wrap_u64]
    omega
  have z1 : IntKind.u64.wrap (IntKind.u64.wrap ((f 1 : Int) + 9007199254740988) - (g 1 : Int)) = ((subX f g 1 : Nat) : Int) := by
    have h1 := hf.lt 1 (by decide)
    have h2 := hg.lt 1 (by decide)
    have h3 : subK 1 = 9007199254740988 := rfl
    unfold subX
    rw [h3, IntKind.wrap_u64, IntKind.wrap_u64]
    omega
  have z2 : IntKind.u64.wrap (IntKind.u64.wrap ((f 2 : Int) + 9007199254740988) - (g 2 : Int)) = ((subX f g 2 : Nat) : Int) := by
    have h1 := hf.lt 2 (by decide)
    have h2 := hg.lt 2 (by decide)
    have h3 : subK 2 = 9007199254740988 := rfl
    unfold subX
    rw [h3, IntKind.wrap_u64, IntKind.wrap_u64]
    omega
  have z3 : IntKind.u64.wrap (IntKind.u64.wrap ((f 3 : Int) + 9007199254740988) - (g 3 : Int)) = ((subX f g 3 : Nat) : Int) := by
    have h1 := hf.lt 3 (by decide)
    have h2 := hg.lt 3 (by decide)
    have h3 : subK 3 = 9007199254740988 := rfl
    unfold subX
    rw [h3, IntKind.wrap_u64, IntKind.wrap_u64]
    omega
  have z4 : IntKind.u64.wrap (IntKind.u64.wrap ((f 4 : Int) + 9007199254740988) - (g 4 : Int)) = ((subX f g 4 : Nat) : Int) := by
    have h1 := hf.lt 4 (by decide)
    have h2 := hg.lt 4 (by decide)
    have h3 : subK 4 = 9007199254740988 := rfl
    unfold subX
    rw [h3, IntKind.wrap_u64, IntKind.wrap_u64]
    omega
  have hA : Holds (((w.alloc (.cells (cellsOf .u64 5 f) 28)).alloc (.cells (cellsOf .u64 5 g) 28)).alloc (.cells #[.int .u64 0, .int .u64 0, .int .u64 0, .int .u64 0, .int .u64 0] 28)) w.heap.size 28 .u64 5 f := ((holds_alloc w 28 .u64 5 f _ rfl).grown (World.grownBy_alloc _ _ none) (by simp)).grown (World.grownBy_alloc _ _ none) (by simp)
  have hB : Holds (((w.alloc (.cells (cellsOf .u64 5 f) 28)).alloc (.cells (cellsOf .u64 5 g) 28)).alloc (.cells #[.int .u64 0, .int .u64 0, .int .u64 0, .int .u64 0, .int .u64 0] 28)) (w.heap.size + 1) 28 .u64 5 g := by
    have := (holds_alloc (w.alloc (.cells (cellsOf .u64 5 f) 28)) 28 .u64 5 g _ rfl).grown (World.grownBy_alloc _ (.cells #[.int .u64 0, .int .u64 0, .int .u64 0, .int .u64 0, .int .u64 0] 28) none) (by simp)
    rwa [World.size_alloc] at this
  have hD : Holds (((w.alloc (.cells (cellsOf .u64 5 f) 28)).alloc (.cells (cellsOf .u64 5 g) 28)).alloc (.cells #[.int .u64 0, .int .u64 0, .int .u64 0, .int .u64 0, .int .u64 0] 28)) (w.heap.size + 2) 28 .u64 5 (fun _ => 0) := by
    have := holds_alloc ((w.alloc (.cells (cellsOf .u64 5 f) 28)).alloc (.cells (cellsOf .u64 5 g) 28)) 28 .u64 5 (fun _ => 0) #[.int .u64 0, .int .u64 0, .int .u64 0, .int .u64 0, .int .u64 0] rfl
    rwa [World.size_alloc, World.size_alloc] at this
  have gr := grown_alloc (grown_alloc (World.grownBy_alloc w (.cells (cellsOf .u64 5 f) 28) none) (.cells (cellsOf .u64 5 g) 28)) (.cells #[.int .u64 0, .int .u64 0, .int .u64 0, .int .u64 0, .int .u64 0] 28)
  obtain ⟨S, hS0⟩ : ∃ S, S = subL f g := ⟨_, rfl⟩
  rw [← hS0]
  have hS := Lib.hid hS0
  clear hS0
  go_enter Try.func11, Try.ntmps11
  go_upto_region 2 with fail
  generalize ((w.alloc (.cells (cellsOf .u64 5 f) 28)).alloc (.cells (cellsOf .u64 5 g) 28)).alloc (.cells #[.int .u64 0, .int .u64 0, .int .u64 0, .int .u64 0, .int .u64 0] 28) = w1 at *
  obtain ⟨W, hW⟩ : ∃ W, W = w1.drew := ⟨_, rfl⟩
  have gW : w1.grownBy W none := by rw [hW]; exact grown_drew (grown_refl w1 none)
  have hA2 := hA.grown gW (by simp)
  have hB2 := hB.grown gW (by simp)
  have hD2 := hD.grown gW (by simp)
  have gr2 := grown_trans gr gW
  have a0 := hA2.cell 0 (by decide)
  have b0 := hB2.cell 0 (by decide)
  have a1 := hA2.cell 1 (by decide)
  have b1 := hB2.cell 1 (by decide)
  have a2 := hA2.cell 2 (by decide)
  have b2 := hB2.cell 2 (by decide)
  have a3 := hA2.cell 3 (by decide)
  have b3 := hB2.cell 3 (by decide)
  have a4 := hA2.cell 4 (by decide)
  have b4 := hB2.cell 4 (by decide)
  obtain ⟨q, hq⟩ : ∃ q, q = subX f g := ⟨_, rfl⟩
  have esubL : carL q = S := by rw [hq, hS.out]; rfl
  rw [← hq] at HC z0 z1 z2 z3 z4
  have Z0 := Lib.hid z0
  have Z1 := Lib.hid z1
  have Z2 := Lib.hid z2
  have Z3 := Lib.hid z3
  have Z4 := Lib.hid z4
  obtain ⟨y0, hy0⟩ : ∃ y : Nat, y = f 0 + 9007199254740916 := ⟨_, rfl⟩
  have k0 : IntKind.u64.wrap ((f 0 : Int) + 9007199254740916) = (y0 : Int) := by
    have h1 := hf.lt 0 (by decide)
    rw [hy0, IntKind.wrap_u64]
    omega
  have r0 := Z0.out
  rw [k0] at r0
  clear Z0 hy0
  obtain ⟨y1, hy1⟩ : ∃ y : Nat, y = f 1 + 9007199254740988 := ⟨_, rfl⟩
  have k1 : IntKind.u64.wrap ((f 1 : Int) + 9007199254740988) = (y1 : Int) := by
    have h1 := hf.lt 1 (by decide)
    rw [hy1, IntKind.wrap_u64]
    omega
  have r1 := Z1.out
  rw [k1] at r1
  clear Z1 hy1
  obtain ⟨y2, hy2⟩ : ∃ y : Nat, y = f 2 + 9007199254740988 := ⟨_, rfl⟩
  have k2 : IntKind.u64.wrap ((f 2 : Int) + 9007199254740988) = (y2 : Int) := by
    have h1 := hf.lt 2 (by decide)
    rw [hy2, IntKind.wrap_u64]
    omega
  have r2 := Z2.out
  rw [k2] at r2
  clear Z2 hy2
  obtain ⟨y3, hy3⟩ : ∃ y : Nat, y = f 3 + 9007199254740988 := ⟨_, rfl⟩
  have k3 : IntKind.u64.wrap ((f 3 : Int) + 9007199254740988) = (y3 : Int) := by
    have h1 := hf.lt 3 (by decide)
    rw [hy3, IntKind.wrap_u64]
    omega
  have r3 := Z3.out
  rw [k3] at r3
  clear Z3 hy3
  obtain ⟨y4, hy4⟩ : ∃ y : Nat, y = f 4 + 9007199254740988 := ⟨_, rfl⟩
  have k4 : IntKind.u64.wrap ((f 4 : Int) + 9007199254740988) = (y4 : Int) := by
    have h1 := hf.lt 4 (by decide)
    rw [hy4, IntKind.wrap_u64]
    omega
  have r4 := Z4.out
  rw [k4] at r4
  clear Z4 hy4
  have HE := Lib.hid esubL
  have HW := Lib.hid hW.symm
  clear hx z0 z1 z2 z3 z4 hq hS hW esubL hA hB hD gr gW hf hg
  generalize f 0 = f0 at *
  generalize f 1 = f1 at *
  generalize f 2 = f2 at *
  generalize f 3 = f3 at *
  generalize f 4 = f4 at *
  generalize g 0 = g0 at *
  generalize g 1 = g1 at *
  generalize g 2 = g2 at *
  generalize g 3 = g3 at *
  generalize g 4 = g4 at *
  refine wp_region_still_tail 50 (by kernel_rfl) (by kernel_rfl) ?_
  change wpStill _ _ (World.drew w1) (fun a' => wpList _ _ _ _ a' (World.drew w1)) _ _
  rw [HW.out]
  simp only [List.take_succ_cons, List.take_zero, List.drop_succ_cons, List.drop_zero]
  repeat still_step
  refine wpStill_nil ?_
  clear k0 k1 k2 k3 k4 r0 r1 r2 r3 r4
  clear a0 a1 a2 a3 a4 b0 b1 b2 b3 b4
  go_wp2_with fail
  go_at_call 32
  refine (HC.out _).mono ?_
  rintro e w' ⟨rfl, gV⟩
  rw [HE.out] at *
  have hD3 := hD2.grown gV (by simp)
  go_wp2_with (refine wpList_store_row rfl 28 (.tmp 4) (.tmp 59) rfl (w.heap.size + 2) _ rfl rfl 28 _ hD3.block (by rw [cellsOf_size]; kernel_rfl) rfl (cellsOf_all _ _ _) ?_)
  exact bodyPost_ret (res_row rfl rfl (hD3.setRow .u64 5 _) (by kernel_rfl) (by kernel_rfl)) rfl ⟨rfl, grown_setRow_new (grown_trans gr2 gV) _ _ (Or.inl (by omega))⟩

end Go.Proofs.Ytpnddojcihdniaa
