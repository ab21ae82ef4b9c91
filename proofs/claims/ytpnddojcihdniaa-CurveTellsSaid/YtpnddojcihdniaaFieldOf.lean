/-
  field's numbers of bytes, and back.
-/
import Derived.Test.YtpnddojcihdniaaFieldTake
namespace Go.Proofs.Ytpnddojcihdniaa
open Go.RowKit

set_option maxRecDepth 100000
set_option maxHeartbeats 2000000

theorem or_wrap (a b D E e : Nat) (hE : 2 ^ e = E) (hD : D * E = 18446744073709551616) (ha : a < E) (ha2 : a < 18446744073709551616) : bits .or .u64 (a : Int) (IntKind.u64.wrap ((b : Int) * (E : Int))) = ((a + b * E % 18446744073709551616 : Nat) : Int) := by
  rw [mulc, w64m, bits_or_u64_nat a _ ha2 (Nat.mod_lt _ (by decide)), ← hD, Nat.mul_mod_mul_right, or_parts' a (b % D) e E hE ha]
theorem cut_word (a b D E e : Nat) (hE : 2 ^ e = E) (hD : D * E = 18446744073709551616) (ha : a / D < E) (hs : a / D + b * E % 18446744073709551616 < 18446744073709551616) :
    bits .and .u64 (bits .or .u64 ((a : Int) / (D : Int)) (IntKind.u64.wrap ((b : Int) * (E : Int)))) 2251799813685247 = (((a / D + b * E % 18446744073709551616) % 2251799813685248 : Nat) : Int) := by
  rw [← Int.natCast_ediv, or_wrap (a / D) b D E e hE hD ha (Nat.lt_of_le_of_lt (Nat.le_add_right _ _) hs), and51 _ hs]
theorem outL_le (x : Nat → Nat) (c : Nat) (h : ∀ i, i < 5 → x i < 4503599627370496) (hc : c ≤ 1000) : ∀ i, i ≤ 5 → outL x c i ≤ 1000
  | 0, _ => by rw [outL_zero]; exact hc
  | i + 1, hi => by
    have h1 := outL_le x c h hc i (by omega)
    have h2 := h i (by omega)
    rw [← outL_step]
    omega

theorem cut_any (x : Nat → Nat) (h : ∀ i, i < 4 → x i < 18446744073709551616) (w : World) :
    Calls Try.prog 29 #[.agg (cellsOf .u64 4 x)] w fun e w' => e = .returned (.agg (cellsOf .u64 5 (cutL x))) ∧ w.grownBy w' none := by
  have hA : Holds ((w.alloc (.cells (cellsOf .u64 4 x) 58)).alloc (.cells #[.int .u64 0, .int .u64 0, .int .u64 0, .int .u64 0, .int .u64 0] 28)) w.heap.size 58 .u64 4 x := (holds_alloc w 58 .u64 4 x _ rfl).of_block (by rw [heap_alloc_old]; simp)
  have hD : Holds ((w.alloc (.cells (cellsOf .u64 4 x) 58)).alloc (.cells #[.int .u64 0, .int .u64 0, .int .u64 0, .int .u64 0, .int .u64 0] 28)) (w.heap.size + 1) 28 .u64 5 (fun _ => 0) := by
    have := holds_alloc (w.alloc (.cells (cellsOf .u64 4 x) 58)) 28 .u64 5 (fun _ => 0) #[.int .u64 0, .int .u64 0, .int .u64 0, .int .u64 0, .int .u64 0] rfl
    rwa [World.size_alloc] at this
  have g1 := grown_alloc (World.grownBy_alloc w (.cells (cellsOf .u64 4 x) 58) none) (.cells #[.int .u64 0, .int .u64 0, .int .u64 0, .int .u64 0, .int .u64 0] 28)
  have h0 := h 0 (by decide)
  have h1 := h 1 (by decide)
  have h2 := h 2 (by decide)
  have h3 := h 3 (by decide)
  have z0 := and51 (x 0) h0
  have z1 := cut_word (x 0) (x 1) 2251799813685248 8192 13 (by decide) (by decide) (by omega) (by omega)
  have z2 := cut_word (x 1) (x 2) 274877906944 67108864 26 (by decide) (by decide) (by omega) (by omega)
  have z3 := cut_word (x 2) (x 3) 33554432 549755813888 39 (by decide) (by decide) (by omega) (by omega)
  have z4 : bits .and .u64 ((x 3 : Int) / 4096) 2251799813685247 = ((x 3 / 4096 % 2251799813685248 : Nat) : Int) := and51 (x 3 / 4096) (by omega)
  have c0 := hA.cell 0 (by decide)
  have c1 := hA.cell 1 (by decide)
  have c2 := hA.cell 2 (by decide)
  have c3 := hA.cell 3 (by decide)
  unfold cutL
  generalize x 0 % 2251799813685248 = y0 at *
  generalize (x 0 / 2251799813685248 + x 1 * 8192 % 18446744073709551616) % 2251799813685248 = y1 at *
  generalize (x 1 / 274877906944 + x 2 * 67108864 % 18446744073709551616) % 2251799813685248 = y2 at *
  generalize (x 2 / 33554432 + x 3 * 549755813888 % 18446744073709551616) % 2251799813685248 = y3 at *
  generalize x 3 / 4096 % 2251799813685248 = y4 at *
  clear h h0 h1 h2 h3
  generalize x 0 = x0 at *
  generalize x 1 = x1 at *
  generalize x 2 = x2 at *
  generalize x 3 = x3 at *
  have Z0 := Lib.hid z0
  have Z1 := Lib.hid z1
  have Z2 := Lib.hid z2
  have Z3 := Lib.hid z3
  have Z4 := Lib.hid z4
  clear z0 z1 z2 z3 z4
  go_enter Try.func29, Try.ntmps29
  go_upto_region 1 with fail
  generalize (w.alloc (.cells (cellsOf .u64 4 x) 58)).alloc (.cells #[.int .u64 0, .int .u64 0, .int .u64 0, .int .u64 0, .int .u64 0] 28) = w1 at *
  have b0 := hD.cell 0 (by decide)
  have b1 := hD.cell 1 (by decide)
  have b2 := hD.cell 2 (by decide)
  have b3 := hD.cell 3 (by decide)
  have b4 := hD.cell 4 (by decide)
  have f0 := hD.frozen 0
  have f1 := hD.frozen 1
  have f2 := hD.frozen 2
  have f3 := hD.frozen 3
  have f4 := hD.frozen 4
  go_wp2_with fail
  have k0 := Z0.out
  have k1 := Z1.out
  have k2 := Z2.out
  have k3 := Z3.out
  have k4 := Z4.out
  simp only [Int.cast_ofNat_Int] at k1 k2 k3
  simp only [k0, k1, k2, k3, k4]
  have hs : w.heap.size ≤ w.heap.size + 1 := by omega
  exact bodyPost_ret (v := .agg (cellsOf .u64 5 (lst5 y0 y1 y2 y3 y4))) (res_row rfl rfl (store_five hD y0 y1 y2 y3 y4) (by kernel_rfl) (by kernel_rfl)) rfl ⟨rfl, grown_setCell_new (grown_setCell_new (grown_setCell_new (grown_setCell_new (grown_setCell_new g1 _ _ (Or.inl hs)) _ _ (Or.inl hs)) _ _ (Or.inl hs)) _ _ (Or.inl hs)) _ _ (Or.inl hs)⟩

theorem of_any (f : Nat → Nat) (hf : ∀ i, f i < 256) (w : World) : Calls Try.prog 7 #[.agg (cellsOf .u8 32 f)] w fun e w' => e = .returned (.agg (cellsOf .u64 5 (ofL f))) ∧ w.grownBy w' none := by
  have hA : Holds ((w.alloc (.cells (cellsOf .u8 32 f) 22)).alloc (.cells #[.int .u64 0, .int .u64 0, .int .u64 0, .int .u64 0, .int .u64 0] 28)) w.heap.size 22 .u8 32 f := (holds_alloc w 22 .u8 32 f _ rfl).of_block (by rw [heap_alloc_old]; simp)
  have hD : Holds ((w.alloc (.cells (cellsOf .u8 32 f) 22)).alloc (.cells #[.int .u64 0, .int .u64 0, .int .u64 0, .int .u64 0, .int .u64 0] 28)) (w.heap.size + 1) 28 .u64 5 (fun _ => 0) := by
    have := holds_alloc (w.alloc (.cells (cellsOf .u8 32 f) 22)) 28 .u64 5 (fun _ => 0) #[.int .u64 0, .int .u64 0, .int .u64 0, .int .u64 0, .int .u64 0] rfl
    rwa [World.size_alloc] at this
  have g1 := grown_alloc (World.grownBy_alloc w (.cells (cellsOf .u8 32 f) 22) none) (.cells #[.int .u64 0, .int .u64 0, .int .u64 0, .int .u64 0, .int .u64 0] 28)
  have HT := Lib.hid (fun W => taken_any f W hf)
  have HC := Lib.hid (cut_any (wdL f) (fun i _ => wdL_lt f hf i))
  unfold ofL
  obtain ⟨S, hS⟩ : ∃ S, S = cutL (wdL f) := ⟨_, rfl⟩
  obtain ⟨X, hX⟩ : ∃ X, X = wdL f := ⟨_, rfl⟩
  rw [← hS] at HC ⊢
  rw [← hX] at HC HT
  clear hS hX hf
  go_enter Try.func7, Try.ntmps7
  go_wp2_with (refine wpList_load_row rfl 22 (.tmp 1) rfl w.heap.size rfl 22 _ (0, 0) (.array 32 5) hA.block (by kernel_rfl) rfl (by rw [cellsOf_size]; kernel_rfl) ?_)
  generalize (w.alloc (.cells (cellsOf .u8 32 f) 22)).alloc (.cells #[.int .u64 0, .int .u64 0, .int .u64 0, .int .u64 0, .int .u64 0] 28) = w1 at *
  go_at_call 30
  refine (HT.out _).mono ?_
  rintro e U ⟨rfl, gU⟩
  have hD1 := hD.grown gU (by simp)
  have g2 := grown_trans g1 gU
  go_wp2_with fail
  go_at_call 29
  refine (HC.out _).mono ?_
  rintro e V ⟨rfl, gV⟩
  have hD2 := hD1.grown gV (by simp)
  have g3 := grown_trans g2 gV
  go_wp2_with (refine wpList_store_row rfl 28 (.tmp 2) (.tmp 5) rfl (w.heap.size + 1) _ rfl rfl 28 _ hD2.block (by rw [cellsOf_size]; kernel_rfl) rfl (cellsOf_all _ _ _) ?_)
  exact bodyPost_ret (res_row rfl rfl (hD2.setRow .u64 5 S) (by kernel_rfl) (by kernel_rfl)) rfl ⟨rfl, grown_setRow_new g3 _ _ (Or.inl (by omega))⟩

theorem joined_any (v : Nat) (hv : v < 57896044618658097711785492504343953926634992332820282019728792003956564819968) (w : World) :
    Calls Try.prog 39 #[.agg (cellsOf .u64 5 (lim 51 v))] w fun e w' => e = .returned (.agg (cellsOf .u64 4 (lim 64 v))) ∧ w.grownBy w' none := by
  have hA : Holds ((w.alloc (.cells (cellsOf .u64 5 (lim 51 v)) 28)).alloc (.cells #[.int .u64 0, .int .u64 0, .int .u64 0, .int .u64 0] 58)) w.heap.size 28 .u64 5 (lim 51 v) := (holds_alloc w 28 .u64 5 (lim 51 v) _ rfl).of_block (by rw [heap_alloc_old]; simp)
  have hD : Holds ((w.alloc (.cells (cellsOf .u64 5 (lim 51 v)) 28)).alloc (.cells #[.int .u64 0, .int .u64 0, .int .u64 0, .int .u64 0] 58)) (w.heap.size + 1) 58 .u64 4 (fun _ => 0) := by
    have := holds_alloc (w.alloc (.cells (cellsOf .u64 5 (lim 51 v)) 28)) 58 .u64 4 (fun _ => 0) #[.int .u64 0, .int .u64 0, .int .u64 0, .int .u64 0] rfl
    rwa [World.size_alloc] at this
  have gr := grown_alloc (World.grownBy_alloc w (.cells (cellsOf .u64 5 (lim 51 v)) 28) none) (.cells #[.int .u64 0, .int .u64 0, .int .u64 0, .int .u64 0] 58)
  have l0 : lim 51 v 0 < 2251799813685248 := lim_lt 51 v 0
  have l1 : lim 51 v 1 < 2251799813685248 := lim_lt 51 v 1
  have l2 : lim 51 v 2 < 2251799813685248 := lim_lt 51 v 2
  have l3 : lim 51 v 3 < 2251799813685248 := lim_lt 51 v 3
  have z0 : bits .or .u64 (lim 51 v 0 : Int) (IntKind.u64.wrap ((lim 51 v 1 : Int) * 2251799813685248)) = ((lim 64 v 0 : Nat) : Int) := by
    rw [← join_w0 v]
    exact or_wrap (lim 51 v 0) (lim 51 v 1) 8192 2251799813685248 51 (by decide) (by decide) l0 (by omega)
  have z1 : bits .or .u64 ((lim 51 v 1 : Int) / 8192) (IntKind.u64.wrap ((lim 51 v 2 : Int) * 274877906944)) = ((lim 64 v 1 : Nat) : Int) := by
    rw [← join_w1 v]
    exact or_wrap (lim 51 v 1 / 8192) (lim 51 v 2) 67108864 274877906944 38 (by decide) (by decide) (by omega) (by omega)
  have z2 : bits .or .u64 ((lim 51 v 2 : Int) / 67108864) (IntKind.u64.wrap ((lim 51 v 3 : Int) * 33554432)) = ((lim 64 v 2 : Nat) : Int) := by
    rw [← join_w2 v]
    exact or_wrap (lim 51 v 2 / 67108864) (lim 51 v 3) 549755813888 33554432 25 (by decide) (by decide) (by omega) (by omega)
  have z3 : bits .or .u64 ((lim 51 v 3 : Int) / 549755813888) (IntKind.u64.wrap ((lim 51 v 4 : Int) * 4096)) = ((lim 64 v 3 : Nat) : Int) := by
    rw [← join_w3 v hv]
    exact or_wrap (lim 51 v 3 / 549755813888) (lim 51 v 4) 4503599627370496 4096 12 (by decide) (by decide) (by omega) (by omega)
  obtain ⟨S, hS⟩ : ∃ S, S = lim 64 v := ⟨_, rfl⟩
  rw [← hS] at z0 z1 z2 z3 ⊢
  obtain ⟨x, hx⟩ : ∃ x, x = lim 51 v := ⟨_, rfl⟩
  rw [← hx] at hA hD gr z0 z1 z2 z3 ⊢
  have HE := Lib.hid (five S)
  have k4 : cellsOf .u64 4 S = #[.int .u64 (S 0), .int .u64 (S 1), .int .u64 (S 2), .int .u64 (S 3)] := rfl
  have K4 := Lib.hid k4.symm
  clear hv l0 l1 l2 l3 hS hx k4 HE
  have Z0 := Lib.hid z0
  have Z1 := Lib.hid z1
  have Z2 := Lib.hid z2
  have Z3 := Lib.hid z3
  clear z0 z1 z2 z3
  go_enter Try.func39, Try.ntmps39
  go_upto_region 2 with fail
  generalize (w.alloc (.cells (cellsOf .u64 5 (x)) 28)).alloc (.cells #[.int .u64 0, .int .u64 0, .int .u64 0, .int .u64 0] 58) = w1 at *
  obtain ⟨W, hW⟩ : ∃ W, W = w1.drew := ⟨_, rfl⟩
  have gW : w1.grownBy W none := by rw [hW]; exact grown_drew (grown_refl w1 none)
  have hA2 := hA.grown gW (by simp)
  have hD2 := hD.grown gW (by simp)
  have gr2 := grown_trans gr gW
  have a0 := hA2.cell 0 (by decide)
  have a1 := hA2.cell 1 (by decide)
  have a2 := hA2.cell 2 (by decide)
  have a3 := hA2.cell 3 (by decide)
  have a4 := hA2.cell 4 (by decide)
  have HW := Lib.hid hW.symm
  clear hW hA hD gr gW
  generalize x 0 = x0 at *
  generalize x 1 = x1 at *
  generalize x 2 = x2 at *
  generalize x 3 = x3 at *
  generalize x 4 = x4 at *
  generalize S 0 = s0 at *
  generalize S 1 = s1 at *
  generalize S 2 = s2 at *
  generalize S 3 = s3 at *
  refine wp_region_still_tail 44 (by kernel_rfl) (by kernel_rfl) ?_
  change wpStill _ _ (World.drew w1) (fun a' => wpList _ _ _ _ a' (World.drew w1)) _ _
  rw [HW.out]
  simp only [List.take_succ_cons, List.take_zero, List.drop_succ_cons, List.drop_zero]
  repeat still_step
  refine wpStill_nil ?_
  simp only [Z0.out, Z1.out, Z2.out, Z3.out, K4.out]
  clear a0 a1 a2 a3 a4
  go_wp2_with (refine wpList_store_row rfl 58 (.tmp 2) (.tmp 48) rfl (w.heap.size + 1) _ rfl rfl 58 _ hD2.block (by rw [cellsOf_size]; kernel_rfl) rfl (cellsOf_all _ _ _) ?_)
  exact bodyPost_ret (res_row rfl rfl (hD2.setRow .u64 4 S) (by kernel_rfl) (by kernel_rfl)) rfl ⟨rfl, grown_setRow_new gr2 _ _ (Or.inl (by omega))⟩

end Go.Proofs.Ytpnddojcihdniaa
