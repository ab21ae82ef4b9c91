/-
  The walk of 'FieldLaws'.
-/
import Derived.Test.YteglnceidneigaaKnown06
import Derived.Test.YteglnceidneigaaTriOrd
import Derived.Test.YteglnceidneigaaFieldLawsM
import Derived.Test.YteglnceidneigaaRunB32
import Derived.Deep.DeepCutAuto
namespace Go.Proofs.Yteglnceidneigaa
open Go.RowKit Go.Shelf

set_option maxRecDepth 100000
set_option maxHeartbeats 8000000

theorem fieldLaws_any (fa fb fc : Nat → Nat) (w : World) (hfa : ∀ i, fa i < 256) (hfb : ∀ i, fb i < 256) (hfc : ∀ i, fc i < 256) :
    Calls Try.prog 5 #[.agg (cellsOf .u8 32 fa), .agg (cellsOf .u8 32 fb), .agg (cellsOf .u8 32 fc)] w (SaysYes w) := by
  have hA : Holds (((w.alloc (.cells (cellsOf .u8 32 fa) 22)).alloc (.cells (cellsOf .u8 32 fb) 22)).alloc (.cells (cellsOf .u8 32 fc) 22)) w.heap.size 22 .u8 32 fa := ((holds_alloc w 22 .u8 32 fa _ rfl).grown (World.grownBy_alloc _ _ none) (by simp)).grown (World.grownBy_alloc _ _ none) (by simp)
  have hB : Holds (((w.alloc (.cells (cellsOf .u8 32 fa) 22)).alloc (.cells (cellsOf .u8 32 fb) 22)).alloc (.cells (cellsOf .u8 32 fc) 22)) (w.heap.size + 1) 22 .u8 32 fb := by
    have := (holds_alloc (w.alloc (.cells (cellsOf .u8 32 fa) 22)) 22 .u8 32 fb _ rfl).grown (World.grownBy_alloc _ (.cells (cellsOf .u8 32 fc) 22) none) (by simp)
    rwa [World.size_alloc] at this
  have hC : Holds (((w.alloc (.cells (cellsOf .u8 32 fa) 22)).alloc (.cells (cellsOf .u8 32 fb) 22)).alloc (.cells (cellsOf .u8 32 fc) 22)) (w.heap.size + 2) 22 .u8 32 fc := by
    have := holds_alloc ((w.alloc (.cells (cellsOf .u8 32 fa) 22)).alloc (.cells (cellsOf .u8 32 fb) 22)) 22 .u8 32 fc _ rfl
    rwa [World.size_alloc, World.size_alloc] at this
  have gr := grown_alloc (grown_alloc (World.grownBy_alloc w (.cells (cellsOf .u8 32 fa) 22) none) (.cells (cellsOf .u8 32 fb) 22)) (.cells (cellsOf .u8 32 fc) 22)
  have HK := Lib.hid known06
  have ix := is5_of fa hfa
  have iy := is5_of fb hfb
  have iz := is5_of fc hfc
  have HX := Lib.hid (of_any fa hfa)
  have HY := Lib.hid (of_any fb hfb)
  have HZ := Lib.hid (of_any fc hfc)
  obtain ⟨x, hx⟩ : ∃ x, x = ofL fa := ⟨_, rfl⟩
  obtain ⟨y, hy⟩ : ∃ x, x = ofL fb := ⟨_, rfl⟩
  obtain ⟨z, hz⟩ : ∃ x, x = ofL fc := ⟨_, rfl⟩
  rw [← hx] at ix HX
  rw [← hy] at iy HY
  rw [← hz] at iz HZ
  obtain ⟨a, ha⟩ : ∃ x, x = ofV fa := ⟨_, rfl⟩
  obtain ⟨b, hb⟩ : ∃ x, x = ofV fb := ⟨_, rfl⟩
  obtain ⟨c, hc⟩ : ∃ x, x = ofV fc := ⟨_, rfl⟩
  rw [← ha] at ix
  rw [← hb] at iy
  rw [← hc] at iz
  clear hx hy hz ha hb hc hfa hfb hfc
  have i0 := is5_small 0 (by decide)
  have i1 := is5_small 1 (by decide)
  have HS0 := Lib.hid (small_any 0 (by decide))
  have HS1 := Lib.hid (small_any 1 (by decide))
  have isxy := ix.add iy
  have Hsxy := Lib.hid (add_any ix iy)
  have isyx := iy.add ix
  have Hsyx := Lib.hid (add_any iy ix)
  have imxy := ix.mul iy
  have Hmxy := Lib.hid (mul_any ix iy)
  have imyx := iy.mul ix
  have Hmyx := Lib.hid (mul_any iy ix)
  have isxyz := isxy.add iz
  have Hsxyz := Lib.hid (add_any isxy iz)
  have isyz := iy.add iz
  have Hsyz := Lib.hid (add_any iy iz)
  have isx_yz := ix.add isyz
  have Hsx_yz := Lib.hid (add_any ix isyz)
  have imxyz := imxy.mul iz
  have Hmxyz := Lib.hid (mul_any imxy iz)
  have imyz := iy.mul iz
  have Hmyz := Lib.hid (mul_any iy iz)
  have imx_yz := ix.mul imyz
  have Hmx_yz := Lib.hid (mul_any ix imyz)
  have imxs := ix.mul isyz
  have Hmxs := Lib.hid (mul_any ix isyz)
  have imxz := ix.mul iz
  have Hmxz := Lib.hid (mul_any ix iz)
  have ismm := imxy.add imxz
  have Hsmm := Lib.hid (add_any imxy imxz)
  have idxy := isxy.sub iy
  have Hdxy := Lib.hid (sub_any isxy iy)
  have idxx := ix.sub ix
  have Hdxx := Lib.hid (sub_any ix ix)
  have iinv := ix.inv
  have Hinv := Lib.hid (inverse_any ix)
  have imi := ix.mul iinv
  have Hmi := Lib.hid (mul_any ix iinv)
  have im1 := ix.mul i1
  have Hm1 := Lib.hid (mul_any ix i1)
  have E1 := is_any isxy isyx
  rw [fAdd_comm a b, beq_self_eq_true] at E1
  have E2 := is_any imxy imyx
  rw [fMul_comm a b, beq_self_eq_true] at E2
  have E3 := is_any isxyz isx_yz
  rw [fAdd_assoc a b c, beq_self_eq_true] at E3
  have E4 := is_any imxyz imx_yz
  rw [fMul_assoc a b c, beq_self_eq_true] at E4
  have E5 := is_any imxs ismm
  rw [fMul_add a b c, beq_self_eq_true] at E5
  have E6 := is_any idxy ix
  rw [fSub_add a b ix.less iy.less, beq_self_eq_true] at E6
  have E7 := is_any idxx i0
  rw [fSub_self a, beq_self_eq_true] at E7
  have E8 := is_any ix i0
  have E9 : a = 0 → ∀ W, Calls Try.prog 22 #[.agg (cellsOf .u64 5 (invL x)), .agg (cellsOf .u64 5 (smL 0))] W fun e w' => e = .returned (.bool true) ∧ W.grownBy w' none := fun h W => by
    have h1 := is_any iinv i0 W
    rw [fInv_of_zero a h, beq_self_eq_true] at h1
    exact h1
  have E10 : a ≠ 0 → ∀ W, Calls Try.prog 22 #[.agg (cellsOf .u64 5 (mulL x (invL x))), .agg (cellsOf .u64 5 (smL 1))] W fun e w' => e = .returned (.bool true) ∧ W.grownBy w' none := fun h W => by
    have h1 := is_any imi i1 W
    rw [fInv_one a ix.less h, beq_self_eq_true] at h1
    exact h1
  have E11 := is_any im1 ix
  rw [fMul_one a ix.less, beq_self_eq_true] at E11
  have HE1 := Lib.hid E1
  have HE2 := Lib.hid E2
  have HE3 := Lib.hid E3
  have HE4 := Lib.hid E4
  have HE5 := Lib.hid E5
  have HE6 := Lib.hid E6
  have HE7 := Lib.hid E7
  have HE8 := Lib.hid E8
  have HE9 := Lib.hid E9
  have HE10 := Lib.hid E10
  have HE11 := Lib.hid E11
  clear E1 E2 E3 E4 E5 E6 E7 E8 E9 E10 E11 ix iy iz i0 i1 iinv imi im1 isxy isyx imxy imyx isxyz isyz isx_yz imxyz imyz imx_yz imxs imxz ismm idxy idxx
  generalize addL x y = sxy at *
  generalize addL y x = syx at *
  generalize mulL x y = mxy at *
  generalize mulL y x = myx at *
  generalize addL sxy z = sxyz at *
  generalize addL y z = syz at *
  generalize addL x syz = sx_yz at *
  generalize mulL mxy z = mxyz at *
  generalize mulL y z = myz at *
  generalize mulL x myz = mx_yz at *
  generalize mulL x syz = mxs at *
  generalize mulL x z = mxz at *
  generalize addL mxy mxz = smm at *
  generalize subL sxy y = dxy at *
  generalize subL x x = dxx at *
  generalize mulL x (invL x) = mi at *
  generalize invL x = inv at *
  generalize mulL x (smL 1) = m1 at *
  generalize smL 1 = u1 at *
  rw [smL_zero] at HS0 HE7 HE8 HE9
  go_enter Try.func5, Try.ntmps5
  go_wp2_with fail
  generalize ((w.alloc (.cells (cellsOf .u8 32 fa) 22)).alloc (.cells (cellsOf .u8 32 fb) 22)).alloc (.cells (cellsOf .u8 32 fc) 22) = w1 at *
  go_at_call 7
  refine (HK.out _).mono ?_
  rintro e U ⟨⟨rfl, gK⟩⟩
  replace hA := hA.grown gK (by simp)
  replace hB := hB.grown gK (by simp)
  replace hC := hC.grown gK (by simp)
  replace gr := grown_trans gr gK
  clear gK HK
  go_upto_region 3 with fail
  obtain ⟨V0, hV0⟩ : ∃ V0, V0 = U.drew := ⟨_, rfl⟩
  have gv : U.grownBy V0 none := by rw [hV0]; exact grown_drew (grown_refl U none)
  have HV0 := Lib.hid hV0.symm
  replace hA := hA.grown gv (by simp)
  replace hB := hB.grown gv (by simp)
  replace hC := hC.grown gv (by simp)
  replace gr := grown_trans gr gv
  clear hV0 gv
  have HCk : Hid (∀ k W, k < 3 → V0.grownBy W none → Calls Try.prog 8 #[.agg (cellsOf .u8 32 (pick3 fa fb fc k))] W fun e w' => e = .returned (.agg (cellsOf .u64 5 (pick3 x y z k))) ∧ W.grownBy w' none) := Lib.hid (fun k W hk _ => by
    obtain rfl | rfl | rfl : k = 0 ∨ k = 1 ∨ k = 2 := by omega
    · exact HX.out W
    · exact HY.out W
    · exact HZ.out W)
  go_cut [7, 8, 9] (fun s7 s8 s9 wx => ∃ X0 X1 X2, s7 = .pointer (some ⟨X0, 0, none⟩) ∧ s8 = .pointer (some ⟨X1, 0, none⟩) ∧ s9 = .pointer (some ⟨X2, 0, none⟩) ∧ V0.grownBy wx none ∧ Holds wx X0 28 .u64 5 x ∧ Holds wx X1 28 .u64 5 y ∧ Holds wx X2 28 .u64 5 z ∧ X0 ≠ X1 ∧ X0 ≠ X2 ∧ X1 ≠ X2)
  case first =>
    refine wp_region_held (S := fun W => V0.grownBy W none) (by kernel_rfl) ?_
    change wpAnyH _ _ _ _ _ 12 #[false, false, false, false, false, false, false, false, false, false, false, false] _ (World.drew _)
    rw [HV0.out]
    have hS0 : V0.grownBy V0 none := grown_refl V0 _
    refine wpAnyH_takeD (some 13) (i := 0) (v := .agg (cellsOf .u8 32 fa)) rfl rfl (by kernel_rfl) (by kernel_rfl) (by kernel_rfl) (fun _ _ _ h => h) (Or.inl ⟨rfl, fun W hW => run_b32 (hA.grown hW (by simp)) rfl rfl⟩) hS0 ?_
    simp only [Act.put, List.setIfInBounds_toArray, List.set_cons_succ, List.set_cons_zero]
    refine wpAnyH_takeD (some 15) (i := 2) (v := .agg (cellsOf .u8 32 fb)) rfl rfl (by kernel_rfl) (by kernel_rfl) (by kernel_rfl) (fun _ _ _ h => h) (Or.inl ⟨rfl, fun W hW => run_b32 (hB.grown hW (by simp)) rfl rfl⟩) hS0 ?_
    simp only [Act.put, List.setIfInBounds_toArray, List.set_cons_succ, List.set_cons_zero]
    refine wpAnyH_takeD (some 17) (i := 4) (v := .agg (cellsOf .u8 32 fc)) rfl rfl (by kernel_rfl) (by kernel_rfl) (by kernel_rfl) (fun _ _ _ h => h) (Or.inl ⟨rfl, fun W hW => run_b32 (hC.grown hW (by simp)) rfl rfl⟩) hS0 ?_
    simp only [Act.put, List.setIfInBounds_toArray, List.set_cons_succ, List.set_cons_zero]
    refine calls_makes (T := 28) (kd := .u64) (s := 5) 3 3 tC (tA 3) (tD 14) (tE 7) (fun _ => 8) (fun k => #[.agg (cellsOf .u8 32 (pick3 fa fb fc k))]) (fun k => .agg (cellsOf .u64 5 (pick3 x y z k))) _ tL (tri_ready (by kernel_rfl)) tri_call tri_make ?_ ?_ (tD_inj 3 14) (tE_inj 3 7) (tDE 3 14 7 (by decide)) ?_ (fun _ => of_enters) HCk.out ?_ ?_ 6 0 (fun _ => none) _ _ (by decide) rfl (Fr.start _ _ _ _ _) (Mades.start _ _ _ _ _)
    · intro k hk
      show 14 + 2 * k < 120
      omega
    · intro k hk
      show 7 + k < 120
      omega
    · intro k hk
      obtain rfl | rfl | rfl : k = 0 ∨ k = 1 ∨ k = 2 := by omega
      · exact ⟨_, rfl, rfl, rfl, fun p b hF => exec_fn1 _ _ _ rfl ((hF.keep 13 (by decide) (by unfold tD; omega) (by unfold tE; omega)).trans rfl)⟩
      · exact ⟨_, rfl, rfl, rfl, fun p b hF => exec_fn1 _ _ _ rfl ((hF.keep 15 (by decide) (by unfold tD; omega) (by unfold tE; omega)).trans rfl)⟩
      · exact ⟨_, rfl, rfl, rfl, fun p b hF => exec_fn1 _ _ _ rfl ((hF.keep 17 (by decide) (by unfold tD; omega) (by unfold tE; omega)).trans rfl)⟩
    · intro j hj
      obtain rfl | rfl | rfl : j = 0 ∨ j = 1 ∨ j = 2 := by omega
      all_goals exact ⟨_, rfl, rfl, rfl, fun b W => run_newnum rfl⟩
    · intro p b W hp hF hM
      obtain ⟨X0, h0⟩ := hp 0 (by decide)
      obtain ⟨X1, h1⟩ := hp 1 (by decide)
      obtain ⟨X2, h2⟩ := hp 2 (by decide)
      have hszD := hF.sizes (m := 120) rfl (tD 14) (fun k hk => by unfold tD; omega)
      have hszE := hF.sizes (m := 120) rfl (tE 7) (fun k hk => by unfold tE; omega)
      have hb := hF.same ((((((((Fr.start _ (tD 14) (tE 7) _ 3).callD (by decide) hszD (tD_inj 3 14) (tDE 3 14 7 (by decide))).callD (by decide) hszD (tD_inj 3 14) (tDE 3 14 7 (by decide))).callD (by decide) hszD (tD_inj 3 14) (tDE 3 14 7 (by decide))).makeD 0 X0 (by decide) rfl (by decide) hszE (tE_inj 3 7) (tDE 3 14 7 (by decide))).makeD 1 X1 (by decide) rfl (by decide) hszE (tE_inj 3 7) (tDE 3 14 7 (by decide))).makeD 2 X2 (by decide) rfl (by decide) hszE (tE_inj 3 7) (tDE 3 14 7 (by decide))).congr ?_)
      · subst hb
        obtain ⟨q0, hX0⟩ := hM.at_ 0 X0 (by decide) h0
        obtain ⟨q1, hX1⟩ := hM.at_ 1 X1 (by decide) h1
        obtain ⟨q2, hX2⟩ := hM.at_ 2 X2 (by decide) h2
        have n01 : X0 ≠ X1 := fun e => by subst e; exact absurd (hM.ne 0 1 X0 (by decide) (by decide) h0 h1) (by decide)
        have n02 : X0 ≠ X2 := fun e => by subst e; exact absurd (hM.ne 0 2 X0 (by decide) (by decide) h0 h2) (by decide)
        have n12 : X1 ≠ X2 := fun e => by subst e; exact absurd (hM.ne 1 2 X1 (by decide) (by decide) h1 h2) (by decide)
        have hLf : tL 3 p = #[true, true, true, true, true, true, true, true, true, false, false, false] := by unfold tL; rw [h0, h1, h2]; rfl
        rw [hLf]
        simp only [show tD 14 0 = 14 from rfl, show tD 14 1 = 16 from rfl, show tD 14 2 = 18 from rfl, show tE 7 0 = 7 from rfl, show tE 7 1 = 8 from rfl, show tE 7 2 = 9 from rfl]
        simp only [Act.put, List.setIfInBounds_toArray, List.set_cons_succ, List.set_cons_zero]
        have gS := hM.gr
        clear hM hF hLf hp hszD hszE h0 h1 h2
        have gS0 := grown_setRow_new gS X0 (cellsOf .u64 5 x) (Or.inl q0)
        have a00 := hX0.setRow .u64 5 x
        have a01 := hX1.of_block (setRow_other _ X0 X1 (cellsOf .u64 5 x) n01.symm)
        have a02 := hX2.of_block (setRow_other _ X0 X2 (cellsOf .u64 5 x) n02.symm)
        refine wpAnyH_one (i := 9) (by kernel_rfl) (op_store 28 7 14 X0 (cellsOf .u64 5 x) rfl rfl rfl rfl rfl rfl 28 _ hX0.block (by rw [cellsOf_size]; kernel_rfl) (by rw [cellsOf_size, cellsOf_size]) (cellsOf_all _ _ _) gS0 ?_)
        simp only [List.setIfInBounds_toArray, List.set_cons_succ, List.set_cons_zero]
        have gS1 := grown_setRow_new gS0 X1 (cellsOf .u64 5 y) (Or.inl q1)
        have a10 := a00.of_block (setRow_other _ X1 X0 (cellsOf .u64 5 y) n01)
        have a11 := a01.setRow .u64 5 y
        have a12 := a02.of_block (setRow_other _ X1 X2 (cellsOf .u64 5 y) n12.symm)
        refine wpAnyH_one (i := 10) (by kernel_rfl) (op_store 28 8 16 X1 (cellsOf .u64 5 y) rfl rfl rfl rfl rfl rfl 28 _ a01.block (by rw [cellsOf_size]; kernel_rfl) (by rw [cellsOf_size, cellsOf_size]) (cellsOf_all _ _ _) gS1 ?_)
        simp only [List.setIfInBounds_toArray, List.set_cons_succ, List.set_cons_zero]
        have gS2 := grown_setRow_new gS1 X2 (cellsOf .u64 5 z) (Or.inl q2)
        have a20 := a10.of_block (setRow_other _ X2 X0 (cellsOf .u64 5 z) n02)
        have a21 := a11.of_block (setRow_other _ X2 X1 (cellsOf .u64 5 z) n12)
        have a22 := a12.setRow .u64 5 z
        refine wpAnyH_one (i := 11) (by kernel_rfl) (op_store 28 9 18 X2 (cellsOf .u64 5 z) rfl rfl rfl rfl rfl rfl 28 _ a12.block (by rw [cellsOf_size]; kernel_rfl) (by rw [cellsOf_size, cellsOf_size]) (cellsOf_all _ _ _) gS2 ?_)
        simp only [List.setIfInBounds_toArray, List.set_cons_succ, List.set_cons_zero]
        refine wpAnyH_done (by kernel_rfl) ?_ _
        go_wp2_with fail
        go_meet
        case rel => exact ⟨X0, X1, X2, rfl, rfl, rfl, gS2, a20, a21, a22, n01, n02, n12⟩
      · intro j hj
        obtain rfl | rfl | rfl : j = 0 ∨ j = 1 ∨ j = 2 := by omega
        · exact h0.symm
        · exact h1.symm
        · exact h2.symm
  case rest =>
    obtain ⟨X0, X1, X2, rfl, rfl, rfl, g6, hX, hY, hZ, _, _, _⟩ := hcut
    have gw := grown_trans gr g6
    clear HV0 HCk hA hB hC gr g6 HX HY HZ
    go_wp2_with fail
    refine wp_region_quiet (C := fun W => wc.grownBy W none) (by kernel_rfl) (by kernel_rfl) (grown_drew (grown_refl wc none)) ?_
    refine wpQ_val (some 19) (v := .agg (cellsOf .u64 5 x)) rfl rfl (fun W hW => run_num (hX.grown hW (by simp)) rfl rfl) ?_
    simp only [Act.put, List.setIfInBounds_toArray, List.set_cons_succ, List.set_cons_zero]
    refine wpQ_val (some 20) (v := .agg (cellsOf .u64 5 y)) rfl rfl (fun W hW => run_num (hY.grown hW (by simp)) rfl rfl) ?_
    simp only [Act.put, List.setIfInBounds_toArray, List.set_cons_succ, List.set_cons_zero]
    refine wpQ_call (some 21) 13 #[.agg (cellsOf .u64 5 x), .agg (cellsOf .u64 5 y)] (v := .agg (cellsOf .u64 5 sxy)) rfl rfl (exec_fn2 _ _ _ _ _ rfl rfl rfl) add_enters (fun W hW => (Hsxy.out W).mono fun e w' h => ⟨h.1, grown_trans hW h.2⟩) ?_
    simp only [Act.put, List.setIfInBounds_toArray, List.set_cons_succ, List.set_cons_zero]
    refine wpQ_val (some 22) (v := .agg (cellsOf .u64 5 y)) rfl rfl (fun W hW => run_num (hY.grown hW (by simp)) rfl rfl) ?_
    simp only [Act.put, List.setIfInBounds_toArray, List.set_cons_succ, List.set_cons_zero]
    refine wpQ_val (some 23) (v := .agg (cellsOf .u64 5 x)) rfl rfl (fun W hW => run_num (hX.grown hW (by simp)) rfl rfl) ?_
    simp only [Act.put, List.setIfInBounds_toArray, List.set_cons_succ, List.set_cons_zero]
    refine wpQ_call (some 24) 13 #[.agg (cellsOf .u64 5 y), .agg (cellsOf .u64 5 x)] (v := .agg (cellsOf .u64 5 syx)) rfl rfl (exec_fn2 _ _ _ _ _ rfl rfl rfl) add_enters (fun W hW => (Hsyx.out W).mono fun e w' h => ⟨h.1, grown_trans hW h.2⟩) ?_
    simp only [Act.put, List.setIfInBounds_toArray, List.set_cons_succ, List.set_cons_zero]
    refine wpQ_call (some 25) 22 #[.agg (cellsOf .u64 5 sxy), .agg (cellsOf .u64 5 syx)] (v := .bool true) rfl rfl (exec_fn2 _ _ _ _ _ rfl rfl rfl) is_enters (fun W hW => (HE1.out W).mono fun e w' h => ⟨h.1, grown_trans hW h.2⟩) ?_
    simp only [Act.put, List.setIfInBounds_toArray, List.set_cons_succ, List.set_cons_zero]
    refine wpQ_val (some 26) (v := .bool false) rfl rfl (fun _ _ => rfl) ?_
    simp only [Act.put, List.setIfInBounds_toArray, List.set_cons_succ, List.set_cons_zero]
    refine wpQ_val (some 27) (v := .bool false) rfl rfl (fun _ _ => rfl) ?_
    simp only [Act.put, List.setIfInBounds_toArray, List.set_cons_succ, List.set_cons_zero]
    refine wpQ_val (some 28) (v := .agg (cellsOf .u64 5 x)) rfl rfl (fun W hW => run_num (hX.grown hW (by simp)) rfl rfl) ?_
    simp only [Act.put, List.setIfInBounds_toArray, List.set_cons_succ, List.set_cons_zero]
    refine wpQ_val (some 29) (v := .agg (cellsOf .u64 5 y)) rfl rfl (fun W hW => run_num (hY.grown hW (by simp)) rfl rfl) ?_
    simp only [Act.put, List.setIfInBounds_toArray, List.set_cons_succ, List.set_cons_zero]
    refine wpQ_call (some 30) 15 #[.agg (cellsOf .u64 5 x), .agg (cellsOf .u64 5 y)] (v := .agg (cellsOf .u64 5 mxy)) rfl rfl (exec_fn2 _ _ _ _ _ rfl rfl rfl) mul_enters (fun W hW => (Hmxy.out W).mono fun e w' h => ⟨h.1, grown_trans hW h.2⟩) ?_
    simp only [Act.put, List.setIfInBounds_toArray, List.set_cons_succ, List.set_cons_zero]
    refine wpQ_val (some 31) (v := .agg (cellsOf .u64 5 y)) rfl rfl (fun W hW => run_num (hY.grown hW (by simp)) rfl rfl) ?_
    simp only [Act.put, List.setIfInBounds_toArray, List.set_cons_succ, List.set_cons_zero]
    refine wpQ_val (some 32) (v := .agg (cellsOf .u64 5 x)) rfl rfl (fun W hW => run_num (hX.grown hW (by simp)) rfl rfl) ?_
    simp only [Act.put, List.setIfInBounds_toArray, List.set_cons_succ, List.set_cons_zero]
    refine wpQ_call (some 33) 15 #[.agg (cellsOf .u64 5 y), .agg (cellsOf .u64 5 x)] (v := .agg (cellsOf .u64 5 myx)) rfl rfl (exec_fn2 _ _ _ _ _ rfl rfl rfl) mul_enters (fun W hW => (Hmyx.out W).mono fun e w' h => ⟨h.1, grown_trans hW h.2⟩) ?_
    simp only [Act.put, List.setIfInBounds_toArray, List.set_cons_succ, List.set_cons_zero]
    refine wpQ_call (some 34) 22 #[.agg (cellsOf .u64 5 mxy), .agg (cellsOf .u64 5 myx)] (v := .bool true) rfl rfl (exec_fn2 _ _ _ _ _ rfl rfl rfl) is_enters (fun W hW => (HE2.out W).mono fun e w' h => ⟨h.1, grown_trans hW h.2⟩) ?_
    simp only [Act.put, List.setIfInBounds_toArray, List.set_cons_succ, List.set_cons_zero]
    refine wpQ_val (some 35) (v := .bool false) rfl rfl (fun _ _ => rfl) ?_
    simp only [Act.put, List.setIfInBounds_toArray, List.set_cons_succ, List.set_cons_zero]
    refine wpQ_val (some 36) (v := .bool false) rfl rfl (fun _ _ => rfl) ?_
    simp only [Act.put, List.setIfInBounds_toArray, List.set_cons_succ, List.set_cons_zero]
    refine wpQ_val (some 37) (v := .bool false) rfl rfl (fun _ _ => rfl) ?_
    simp only [Act.put, List.setIfInBounds_toArray, List.set_cons_succ, List.set_cons_zero]
    refine wpQ_val (some 38) (v := .agg (cellsOf .u64 5 x)) rfl rfl (fun W hW => run_num (hX.grown hW (by simp)) rfl rfl) ?_
    simp only [Act.put, List.setIfInBounds_toArray, List.set_cons_succ, List.set_cons_zero]
    refine wpQ_val (some 39) (v := .agg (cellsOf .u64 5 y)) rfl rfl (fun W hW => run_num (hY.grown hW (by simp)) rfl rfl) ?_
    simp only [Act.put, List.setIfInBounds_toArray, List.set_cons_succ, List.set_cons_zero]
    refine wpQ_call (some 40) 13 #[.agg (cellsOf .u64 5 x), .agg (cellsOf .u64 5 y)] (v := .agg (cellsOf .u64 5 sxy)) rfl rfl (exec_fn2 _ _ _ _ _ rfl rfl rfl) add_enters (fun W hW => (Hsxy.out W).mono fun e w' h => ⟨h.1, grown_trans hW h.2⟩) ?_
    simp only [Act.put, List.setIfInBounds_toArray, List.set_cons_succ, List.set_cons_zero]
    refine wpQ_val (some 41) (v := .agg (cellsOf .u64 5 z)) rfl rfl (fun W hW => run_num (hZ.grown hW (by simp)) rfl rfl) ?_
    simp only [Act.put, List.setIfInBounds_toArray, List.set_cons_succ, List.set_cons_zero]
    refine wpQ_call (some 42) 13 #[.agg (cellsOf .u64 5 sxy), .agg (cellsOf .u64 5 z)] (v := .agg (cellsOf .u64 5 sxyz)) rfl rfl (exec_fn2 _ _ _ _ _ rfl rfl rfl) add_enters (fun W hW => (Hsxyz.out W).mono fun e w' h => ⟨h.1, grown_trans hW h.2⟩) ?_
    simp only [Act.put, List.setIfInBounds_toArray, List.set_cons_succ, List.set_cons_zero]
    refine wpQ_val (some 43) (v := .agg (cellsOf .u64 5 x)) rfl rfl (fun W hW => run_num (hX.grown hW (by simp)) rfl rfl) ?_
    simp only [Act.put, List.setIfInBounds_toArray, List.set_cons_succ, List.set_cons_zero]
    refine wpQ_val (some 44) (v := .agg (cellsOf .u64 5 y)) rfl rfl (fun W hW => run_num (hY.grown hW (by simp)) rfl rfl) ?_
    simp only [Act.put, List.setIfInBounds_toArray, List.set_cons_succ, List.set_cons_zero]
    refine wpQ_val (some 45) (v := .agg (cellsOf .u64 5 z)) rfl rfl (fun W hW => run_num (hZ.grown hW (by simp)) rfl rfl) ?_
    simp only [Act.put, List.setIfInBounds_toArray, List.set_cons_succ, List.set_cons_zero]
    refine wpQ_call (some 46) 13 #[.agg (cellsOf .u64 5 y), .agg (cellsOf .u64 5 z)] (v := .agg (cellsOf .u64 5 syz)) rfl rfl (exec_fn2 _ _ _ _ _ rfl rfl rfl) add_enters (fun W hW => (Hsyz.out W).mono fun e w' h => ⟨h.1, grown_trans hW h.2⟩) ?_
    simp only [Act.put, List.setIfInBounds_toArray, List.set_cons_succ, List.set_cons_zero]
    refine wpQ_call (some 47) 13 #[.agg (cellsOf .u64 5 x), .agg (cellsOf .u64 5 syz)] (v := .agg (cellsOf .u64 5 sx_yz)) rfl rfl (exec_fn2 _ _ _ _ _ rfl rfl rfl) add_enters (fun W hW => (Hsx_yz.out W).mono fun e w' h => ⟨h.1, grown_trans hW h.2⟩) ?_
    simp only [Act.put, List.setIfInBounds_toArray, List.set_cons_succ, List.set_cons_zero]
    refine wpQ_call (some 48) 22 #[.agg (cellsOf .u64 5 sxyz), .agg (cellsOf .u64 5 sx_yz)] (v := .bool true) rfl rfl (exec_fn2 _ _ _ _ _ rfl rfl rfl) is_enters (fun W hW => (HE3.out W).mono fun e w' h => ⟨h.1, grown_trans hW h.2⟩) ?_
    simp only [Act.put, List.setIfInBounds_toArray, List.set_cons_succ, List.set_cons_zero]
    refine wpQ_val (some 49) (v := .bool false) rfl rfl (fun _ _ => rfl) ?_
    simp only [Act.put, List.setIfInBounds_toArray, List.set_cons_succ, List.set_cons_zero]
    refine wpQ_val (some 50) (v := .bool false) rfl rfl (fun _ _ => rfl) ?_
    simp only [Act.put, List.setIfInBounds_toArray, List.set_cons_succ, List.set_cons_zero]
    refine wpQ_val (some 51) (v := .bool false) rfl rfl (fun _ _ => rfl) ?_
    simp only [Act.put, List.setIfInBounds_toArray, List.set_cons_succ, List.set_cons_zero]
    refine wpQ_val (some 52) (v := .agg (cellsOf .u64 5 x)) rfl rfl (fun W hW => run_num (hX.grown hW (by simp)) rfl rfl) ?_
    simp only [Act.put, List.setIfInBounds_toArray, List.set_cons_succ, List.set_cons_zero]
    refine wpQ_val (some 53) (v := .agg (cellsOf .u64 5 y)) rfl rfl (fun W hW => run_num (hY.grown hW (by simp)) rfl rfl) ?_
    simp only [Act.put, List.setIfInBounds_toArray, List.set_cons_succ, List.set_cons_zero]
    refine wpQ_call (some 54) 15 #[.agg (cellsOf .u64 5 x), .agg (cellsOf .u64 5 y)] (v := .agg (cellsOf .u64 5 mxy)) rfl rfl (exec_fn2 _ _ _ _ _ rfl rfl rfl) mul_enters (fun W hW => (Hmxy.out W).mono fun e w' h => ⟨h.1, grown_trans hW h.2⟩) ?_
    simp only [Act.put, List.setIfInBounds_toArray, List.set_cons_succ, List.set_cons_zero]
    refine wpQ_val (some 55) (v := .agg (cellsOf .u64 5 z)) rfl rfl (fun W hW => run_num (hZ.grown hW (by simp)) rfl rfl) ?_
    simp only [Act.put, List.setIfInBounds_toArray, List.set_cons_succ, List.set_cons_zero]
    refine wpQ_call (some 56) 15 #[.agg (cellsOf .u64 5 mxy), .agg (cellsOf .u64 5 z)] (v := .agg (cellsOf .u64 5 mxyz)) rfl rfl (exec_fn2 _ _ _ _ _ rfl rfl rfl) mul_enters (fun W hW => (Hmxyz.out W).mono fun e w' h => ⟨h.1, grown_trans hW h.2⟩) ?_
    simp only [Act.put, List.setIfInBounds_toArray, List.set_cons_succ, List.set_cons_zero]
    refine wpQ_val (some 57) (v := .agg (cellsOf .u64 5 x)) rfl rfl (fun W hW => run_num (hX.grown hW (by simp)) rfl rfl) ?_
    simp only [Act.put, List.setIfInBounds_toArray, List.set_cons_succ, List.set_cons_zero]
    refine wpQ_val (some 58) (v := .agg (cellsOf .u64 5 y)) rfl rfl (fun W hW => run_num (hY.grown hW (by simp)) rfl rfl) ?_
    simp only [Act.put, List.setIfInBounds_toArray, List.set_cons_succ, List.set_cons_zero]
    refine wpQ_val (some 59) (v := .agg (cellsOf .u64 5 z)) rfl rfl (fun W hW => run_num (hZ.grown hW (by simp)) rfl rfl) ?_
    simp only [Act.put, List.setIfInBounds_toArray, List.set_cons_succ, List.set_cons_zero]
    refine wpQ_call (some 60) 15 #[.agg (cellsOf .u64 5 y), .agg (cellsOf .u64 5 z)] (v := .agg (cellsOf .u64 5 myz)) rfl rfl (exec_fn2 _ _ _ _ _ rfl rfl rfl) mul_enters (fun W hW => (Hmyz.out W).mono fun e w' h => ⟨h.1, grown_trans hW h.2⟩) ?_
    simp only [Act.put, List.setIfInBounds_toArray, List.set_cons_succ, List.set_cons_zero]
    refine wpQ_call (some 61) 15 #[.agg (cellsOf .u64 5 x), .agg (cellsOf .u64 5 myz)] (v := .agg (cellsOf .u64 5 mx_yz)) rfl rfl (exec_fn2 _ _ _ _ _ rfl rfl rfl) mul_enters (fun W hW => (Hmx_yz.out W).mono fun e w' h => ⟨h.1, grown_trans hW h.2⟩) ?_
    simp only [Act.put, List.setIfInBounds_toArray, List.set_cons_succ, List.set_cons_zero]
    refine wpQ_call (some 62) 22 #[.agg (cellsOf .u64 5 mxyz), .agg (cellsOf .u64 5 mx_yz)] (v := .bool true) rfl rfl (exec_fn2 _ _ _ _ _ rfl rfl rfl) is_enters (fun W hW => (HE4.out W).mono fun e w' h => ⟨h.1, grown_trans hW h.2⟩) ?_
    simp only [Act.put, List.setIfInBounds_toArray, List.set_cons_succ, List.set_cons_zero]
    refine wpQ_val (some 63) (v := .bool false) rfl rfl (fun _ _ => rfl) ?_
    simp only [Act.put, List.setIfInBounds_toArray, List.set_cons_succ, List.set_cons_zero]
    refine wpQ_val (some 64) (v := .bool false) rfl rfl (fun _ _ => rfl) ?_
    simp only [Act.put, List.setIfInBounds_toArray, List.set_cons_succ, List.set_cons_zero]
    refine wpQ_val (some 65) (v := .bool false) rfl rfl (fun _ _ => rfl) ?_
    simp only [Act.put, List.setIfInBounds_toArray, List.set_cons_succ, List.set_cons_zero]
    refine wpQ_val (some 66) (v := .agg (cellsOf .u64 5 x)) rfl rfl (fun W hW => run_num (hX.grown hW (by simp)) rfl rfl) ?_
    simp only [Act.put, List.setIfInBounds_toArray, List.set_cons_succ, List.set_cons_zero]
    refine wpQ_val (some 67) (v := .agg (cellsOf .u64 5 y)) rfl rfl (fun W hW => run_num (hY.grown hW (by simp)) rfl rfl) ?_
    simp only [Act.put, List.setIfInBounds_toArray, List.set_cons_succ, List.set_cons_zero]
    refine wpQ_val (some 68) (v := .agg (cellsOf .u64 5 z)) rfl rfl (fun W hW => run_num (hZ.grown hW (by simp)) rfl rfl) ?_
    simp only [Act.put, List.setIfInBounds_toArray, List.set_cons_succ, List.set_cons_zero]
    refine wpQ_call (some 69) 13 #[.agg (cellsOf .u64 5 y), .agg (cellsOf .u64 5 z)] (v := .agg (cellsOf .u64 5 syz)) rfl rfl (exec_fn2 _ _ _ _ _ rfl rfl rfl) add_enters (fun W hW => (Hsyz.out W).mono fun e w' h => ⟨h.1, grown_trans hW h.2⟩) ?_
    simp only [Act.put, List.setIfInBounds_toArray, List.set_cons_succ, List.set_cons_zero]
    refine wpQ_call (some 70) 15 #[.agg (cellsOf .u64 5 x), .agg (cellsOf .u64 5 syz)] (v := .agg (cellsOf .u64 5 mxs)) rfl rfl (exec_fn2 _ _ _ _ _ rfl rfl rfl) mul_enters (fun W hW => (Hmxs.out W).mono fun e w' h => ⟨h.1, grown_trans hW h.2⟩) ?_
    simp only [Act.put, List.setIfInBounds_toArray, List.set_cons_succ, List.set_cons_zero]
    refine wpQ_val (some 71) (v := .agg (cellsOf .u64 5 x)) rfl rfl (fun W hW => run_num (hX.grown hW (by simp)) rfl rfl) ?_
    simp only [Act.put, List.setIfInBounds_toArray, List.set_cons_succ, List.set_cons_zero]
    refine wpQ_val (some 72) (v := .agg (cellsOf .u64 5 y)) rfl rfl (fun W hW => run_num (hY.grown hW (by simp)) rfl rfl) ?_
    simp only [Act.put, List.setIfInBounds_toArray, List.set_cons_succ, List.set_cons_zero]
    refine wpQ_call (some 73) 15 #[.agg (cellsOf .u64 5 x), .agg (cellsOf .u64 5 y)] (v := .agg (cellsOf .u64 5 mxy)) rfl rfl (exec_fn2 _ _ _ _ _ rfl rfl rfl) mul_enters (fun W hW => (Hmxy.out W).mono fun e w' h => ⟨h.1, grown_trans hW h.2⟩) ?_
    simp only [Act.put, List.setIfInBounds_toArray, List.set_cons_succ, List.set_cons_zero]
    refine wpQ_val (some 74) (v := .agg (cellsOf .u64 5 x)) rfl rfl (fun W hW => run_num (hX.grown hW (by simp)) rfl rfl) ?_
    simp only [Act.put, List.setIfInBounds_toArray, List.set_cons_succ, List.set_cons_zero]
    refine wpQ_val (some 75) (v := .agg (cellsOf .u64 5 z)) rfl rfl (fun W hW => run_num (hZ.grown hW (by simp)) rfl rfl) ?_
    simp only [Act.put, List.setIfInBounds_toArray, List.set_cons_succ, List.set_cons_zero]
    refine wpQ_call (some 76) 15 #[.agg (cellsOf .u64 5 x), .agg (cellsOf .u64 5 z)] (v := .agg (cellsOf .u64 5 mxz)) rfl rfl (exec_fn2 _ _ _ _ _ rfl rfl rfl) mul_enters (fun W hW => (Hmxz.out W).mono fun e w' h => ⟨h.1, grown_trans hW h.2⟩) ?_
    simp only [Act.put, List.setIfInBounds_toArray, List.set_cons_succ, List.set_cons_zero]
    refine wpQ_call (some 77) 13 #[.agg (cellsOf .u64 5 mxy), .agg (cellsOf .u64 5 mxz)] (v := .agg (cellsOf .u64 5 smm)) rfl rfl (exec_fn2 _ _ _ _ _ rfl rfl rfl) add_enters (fun W hW => (Hsmm.out W).mono fun e w' h => ⟨h.1, grown_trans hW h.2⟩) ?_
    simp only [Act.put, List.setIfInBounds_toArray, List.set_cons_succ, List.set_cons_zero]
    refine wpQ_call (some 78) 22 #[.agg (cellsOf .u64 5 mxs), .agg (cellsOf .u64 5 smm)] (v := .bool true) rfl rfl (exec_fn2 _ _ _ _ _ rfl rfl rfl) is_enters (fun W hW => (HE5.out W).mono fun e w' h => ⟨h.1, grown_trans hW h.2⟩) ?_
    simp only [Act.put, List.setIfInBounds_toArray, List.set_cons_succ, List.set_cons_zero]
    refine wpQ_val (some 79) (v := .bool false) rfl rfl (fun _ _ => rfl) ?_
    simp only [Act.put, List.setIfInBounds_toArray, List.set_cons_succ, List.set_cons_zero]
    refine wpQ_val (some 80) (v := .bool false) rfl rfl (fun _ _ => rfl) ?_
    simp only [Act.put, List.setIfInBounds_toArray, List.set_cons_succ, List.set_cons_zero]
    refine wpQ_val (some 81) (v := .bool false) rfl rfl (fun _ _ => rfl) ?_
    simp only [Act.put, List.setIfInBounds_toArray, List.set_cons_succ, List.set_cons_zero]
    refine wpQ_val (some 82) (v := .agg (cellsOf .u64 5 x)) rfl rfl (fun W hW => run_num (hX.grown hW (by simp)) rfl rfl) ?_
    simp only [Act.put, List.setIfInBounds_toArray, List.set_cons_succ, List.set_cons_zero]
    refine wpQ_val (some 83) (v := .agg (cellsOf .u64 5 y)) rfl rfl (fun W hW => run_num (hY.grown hW (by simp)) rfl rfl) ?_
    simp only [Act.put, List.setIfInBounds_toArray, List.set_cons_succ, List.set_cons_zero]
    refine wpQ_call (some 84) 13 #[.agg (cellsOf .u64 5 x), .agg (cellsOf .u64 5 y)] (v := .agg (cellsOf .u64 5 sxy)) rfl rfl (exec_fn2 _ _ _ _ _ rfl rfl rfl) add_enters (fun W hW => (Hsxy.out W).mono fun e w' h => ⟨h.1, grown_trans hW h.2⟩) ?_
    simp only [Act.put, List.setIfInBounds_toArray, List.set_cons_succ, List.set_cons_zero]
    refine wpQ_val (some 85) (v := .agg (cellsOf .u64 5 y)) rfl rfl (fun W hW => run_num (hY.grown hW (by simp)) rfl rfl) ?_
    simp only [Act.put, List.setIfInBounds_toArray, List.set_cons_succ, List.set_cons_zero]
    refine wpQ_call (some 86) 14 #[.agg (cellsOf .u64 5 sxy), .agg (cellsOf .u64 5 y)] (v := .agg (cellsOf .u64 5 dxy)) rfl rfl (exec_fn2 _ _ _ _ _ rfl rfl rfl) sub_enters (fun W hW => (Hdxy.out W).mono fun e w' h => ⟨h.1, grown_trans hW h.2⟩) ?_
    simp only [Act.put, List.setIfInBounds_toArray, List.set_cons_succ, List.set_cons_zero]
    refine wpQ_val (some 87) (v := .agg (cellsOf .u64 5 x)) rfl rfl (fun W hW => run_num (hX.grown hW (by simp)) rfl rfl) ?_
    simp only [Act.put, List.setIfInBounds_toArray, List.set_cons_succ, List.set_cons_zero]
    refine wpQ_call (some 88) 22 #[.agg (cellsOf .u64 5 dxy), .agg (cellsOf .u64 5 x)] (v := .bool true) rfl rfl (exec_fn2 _ _ _ _ _ rfl rfl rfl) is_enters (fun W hW => (HE6.out W).mono fun e w' h => ⟨h.1, grown_trans hW h.2⟩) ?_
    simp only [Act.put, List.setIfInBounds_toArray, List.set_cons_succ, List.set_cons_zero]
    refine wpQ_val (some 89) (v := .bool false) rfl rfl (fun _ _ => rfl) ?_
    simp only [Act.put, List.setIfInBounds_toArray, List.set_cons_succ, List.set_cons_zero]
    refine wpQ_val (some 90) (v := .bool false) rfl rfl (fun _ _ => rfl) ?_
    simp only [Act.put, List.setIfInBounds_toArray, List.set_cons_succ, List.set_cons_zero]
    refine wpQ_val (some 91) (v := .bool false) rfl rfl (fun _ _ => rfl) ?_
    simp only [Act.put, List.setIfInBounds_toArray, List.set_cons_succ, List.set_cons_zero]
    refine wpQ_val (some 92) (v := .agg (cellsOf .u64 5 x)) rfl rfl (fun W hW => run_num (hX.grown hW (by simp)) rfl rfl) ?_
    simp only [Act.put, List.setIfInBounds_toArray, List.set_cons_succ, List.set_cons_zero]
    refine wpQ_val (some 93) (v := .agg (cellsOf .u64 5 x)) rfl rfl (fun W hW => run_num (hX.grown hW (by simp)) rfl rfl) ?_
    simp only [Act.put, List.setIfInBounds_toArray, List.set_cons_succ, List.set_cons_zero]
    refine wpQ_call (some 94) 14 #[.agg (cellsOf .u64 5 x), .agg (cellsOf .u64 5 x)] (v := .agg (cellsOf .u64 5 dxx)) rfl rfl (exec_fn2 _ _ _ _ _ rfl rfl rfl) sub_enters (fun W hW => (Hdxx.out W).mono fun e w' h => ⟨h.1, grown_trans hW h.2⟩) ?_
    simp only [Act.put, List.setIfInBounds_toArray, List.set_cons_succ, List.set_cons_zero]
    refine wpQ_call (some 95) 9 #[.int .u32 (0 : Nat)] (v := .agg (cellsOf .u64 5 (fun _ => 0))) rfl rfl (exec_fn1 _ _ _ rfl rfl) small_enters (fun W hW => (HS0.out W).mono fun e w' h => ⟨h.1, grown_trans hW h.2⟩) ?_
    simp only [Act.put, List.setIfInBounds_toArray, List.set_cons_succ, List.set_cons_zero]
    refine wpQ_call (some 96) 22 #[.agg (cellsOf .u64 5 dxx), .agg (cellsOf .u64 5 (fun _ => 0))] (v := .bool true) rfl rfl (exec_fn2 _ _ _ _ _ rfl rfl rfl) is_enters (fun W hW => (HE7.out W).mono fun e w' h => ⟨h.1, grown_trans hW h.2⟩) ?_
    simp only [Act.put, List.setIfInBounds_toArray, List.set_cons_succ, List.set_cons_zero]
    refine wpQ_val (some 97) (v := .bool false) rfl rfl (fun _ _ => rfl) ?_
    simp only [Act.put, List.setIfInBounds_toArray, List.set_cons_succ, List.set_cons_zero]
    refine wpQ_val (some 98) (v := .bool false) rfl rfl (fun _ _ => rfl) ?_
    simp only [Act.put, List.setIfInBounds_toArray, List.set_cons_succ, List.set_cons_zero]
    refine wpQuiet_nil ?_
    intro W hW
    replace hX := hX.grown hW (by simp)
    replace hY := hY.grown hW (by simp)
    replace hZ := hZ.grown hW (by simp)
    replace gw := grown_trans gw hW
    go_wp2_with fail
    go_at_call 9
    refine (HS1.out _).mono ?_
    rintro e U1 ⟨rfl, g1⟩
    replace hX := hX.grown g1 (by simp)
    replace gw := grown_trans gw g1
    have hL0 := holds_alloc U1 28 .u64 5 (fun _ => 0) #[.int .u64 0, .int .u64 0, .int .u64 0, .int .u64 0, .int .u64 0] rfl
    have gg := World.grownBy_alloc U1 (.cells #[.int .u64 0, .int .u64 0, .int .u64 0, .int .u64 0, .int .u64 0] 28) none
    have hXl := hX.lt
    replace hX := hX.grown gg (by simp)
    have hUs := gw.size
    replace gw := grown_trans gw gg
    go_upto_region 7 with (refine wpList_store_row rfl 28 (.tmp 10) (.tmp 99) rfl U1.heap.size _ rfl rfl 28 _ hL0.block (by rw [cellsOf_size]; kernel_rfl) rfl (cellsOf_all _ _ _) ?_)
    have hO := hL0.setRow .u64 5 u1
    replace hX := hX.of_block (setRow_other _ U1.heap.size X0 (cellsOf .u64 5 u1) (by omega))
    replace gw := grown_setRow_new gw U1.heap.size (cellsOf .u64 5 u1) (Or.inl hUs)
    generalize (U1.alloc (.cells #[.int .u64 0, .int .u64 0, .int .u64 0, .int .u64 0, .int .u64 0] 28)).setRow U1.heap.size (cellsOf .u64 5 u1) = w7 at *
    generalize U1.heap.size = bo at *
    clear hL0 gg g1 hXl hUs HS1
    by_cases hz : a = 0
    · have e8 : (a == 0) = true := by rw [hz]; rfl
      have HE8' := HE8.out
      rw [e8] at HE8'
      have HQ := Lib.hid HE8'
      have HE9' := Lib.hid (HE9.out hz)
      clear HE8' e8 hz HE8 HE9 HE10
      go_wp2_with (refine wpList_load_num rfl 7 rfl rfl hX ?_)
      go_at_call 22
      refine (HQ.out _).mono ?_
      rintro e U2 ⟨rfl, g2⟩
      replace hX := hX.grown g2 (by simp)
      replace gw := grown_trans gw g2
      go_wp2_with (refine wpList_load_num rfl 7 rfl rfl hX ?_)
      go_at_call 16
      refine (Hinv.out _).mono ?_
      rintro e U3 ⟨rfl, g3⟩
      replace gw := grown_trans gw g3
      go_wp2_with fail
      go_at_call 22
      refine (HE9'.out _).mono ?_
      rintro e U4 ⟨rfl, g4⟩
      replace gw := grown_trans gw g4
      go_wp2_with fail
      go_ret
      exact ⟨⟨rfl, gw⟩⟩
    · have e8 : (a == 0) = false := by rw [beq_eq_false_iff_ne]; exact hz
      have HE8' := HE8.out
      rw [e8] at HE8'
      have HQ := Lib.hid HE8'
      have HE10' := Lib.hid (HE10.out hz)
      clear HE8' e8 hz HE8 HE9 HE10
      go_wp2_with (refine wpList_load_num rfl 7 rfl rfl hX ?_)
      go_at_call 22
      refine (HQ.out _).mono ?_
      rintro e U2 ⟨rfl, g2⟩
      replace hX := hX.grown g2 (by simp)
      replace hO := hO.grown g2 (by simp)
      replace gw := grown_trans gw g2
      go_wp2_with fail
      refine wp_region_quiet (C := fun W => U2.grownBy W none) (by kernel_rfl) (by kernel_rfl) (grown_drew (grown_refl U2 none)) ?_
      refine wpQ_val (some 107) (v := .agg (cellsOf .u64 5 x)) rfl rfl (fun W hW => run_num (hX.grown hW (by simp)) rfl rfl) ?_
      simp only [Act.put, List.setIfInBounds_toArray, List.set_cons_succ, List.set_cons_zero]
      refine wpQ_val (some 108) (v := .agg (cellsOf .u64 5 x)) rfl rfl (fun W hW => run_num (hX.grown hW (by simp)) rfl rfl) ?_
      simp only [Act.put, List.setIfInBounds_toArray, List.set_cons_succ, List.set_cons_zero]
      refine wpQ_call (some 109) 16 #[.agg (cellsOf .u64 5 x)] (v := .agg (cellsOf .u64 5 inv)) rfl rfl (exec_fn1 _ _ _ rfl rfl) inverse_enters (fun W hW => (Hinv.out W).mono fun e w' h => ⟨h.1, grown_trans hW h.2⟩) ?_
      simp only [Act.put, List.setIfInBounds_toArray, List.set_cons_succ, List.set_cons_zero]
      refine wpQ_call (some 110) 15 #[.agg (cellsOf .u64 5 x), .agg (cellsOf .u64 5 inv)] (v := .agg (cellsOf .u64 5 mi)) rfl rfl (exec_fn2 _ _ _ _ _ rfl rfl rfl) mul_enters (fun W hW => (Hmi.out W).mono fun e w' h => ⟨h.1, grown_trans hW h.2⟩) ?_
      simp only [Act.put, List.setIfInBounds_toArray, List.set_cons_succ, List.set_cons_zero]
      refine wpQ_val (some 111) (v := .agg (cellsOf .u64 5 u1)) rfl rfl (fun W hW => run_num (hO.grown hW (by simp)) rfl rfl) ?_
      simp only [Act.put, List.setIfInBounds_toArray, List.set_cons_succ, List.set_cons_zero]
      refine wpQ_call (some 112) 22 #[.agg (cellsOf .u64 5 mi), .agg (cellsOf .u64 5 u1)] (v := .bool true) rfl rfl (exec_fn2 _ _ _ _ _ rfl rfl rfl) is_enters (fun W hW => (HE10'.out W).mono fun e w' h => ⟨h.1, grown_trans hW h.2⟩) ?_
      simp only [Act.put, List.setIfInBounds_toArray, List.set_cons_succ, List.set_cons_zero]
      refine wpQ_val (some 113) (v := .bool true) rfl rfl (fun _ _ => rfl) ?_
      simp only [Act.put, List.setIfInBounds_toArray, List.set_cons_succ, List.set_cons_zero]
      refine wpQ_val (some 114) (v := .agg (cellsOf .u64 5 x)) rfl rfl (fun W hW => run_num (hX.grown hW (by simp)) rfl rfl) ?_
      simp only [Act.put, List.setIfInBounds_toArray, List.set_cons_succ, List.set_cons_zero]
      refine wpQ_val (some 115) (v := .agg (cellsOf .u64 5 u1)) rfl rfl (fun W hW => run_num (hO.grown hW (by simp)) rfl rfl) ?_
      simp only [Act.put, List.setIfInBounds_toArray, List.set_cons_succ, List.set_cons_zero]
      refine wpQ_call (some 116) 15 #[.agg (cellsOf .u64 5 x), .agg (cellsOf .u64 5 u1)] (v := .agg (cellsOf .u64 5 m1)) rfl rfl (exec_fn2 _ _ _ _ _ rfl rfl rfl) mul_enters (fun W hW => (Hm1.out W).mono fun e w' h => ⟨h.1, grown_trans hW h.2⟩) ?_
      simp only [Act.put, List.setIfInBounds_toArray, List.set_cons_succ, List.set_cons_zero]
      refine wpQ_val (some 117) (v := .agg (cellsOf .u64 5 x)) rfl rfl (fun W hW => run_num (hX.grown hW (by simp)) rfl rfl) ?_
      simp only [Act.put, List.setIfInBounds_toArray, List.set_cons_succ, List.set_cons_zero]
      refine wpQ_call (some 118) 22 #[.agg (cellsOf .u64 5 m1), .agg (cellsOf .u64 5 x)] (v := .bool true) rfl rfl (exec_fn2 _ _ _ _ _ rfl rfl rfl) is_enters (fun W hW => (HE11.out W).mono fun e w' h => ⟨h.1, grown_trans hW h.2⟩) ?_
      simp only [Act.put, List.setIfInBounds_toArray, List.set_cons_succ, List.set_cons_zero]
      refine wpQ_val (some 119) (v := .bool true) rfl rfl (fun _ _ => rfl) ?_
      simp only [Act.put, List.setIfInBounds_toArray, List.set_cons_succ, List.set_cons_zero]
      refine wpQ_val (some 6) (v := .bool true) rfl rfl (fun _ _ => rfl) ?_
      simp only [Act.put, List.setIfInBounds_toArray, List.set_cons_succ, List.set_cons_zero]
      refine wpQuiet_nil ?_
      intro W2 hW2
      go_wp2_with fail
      go_ret
      exact ⟨⟨rfl, grown_trans gw hW2⟩⟩

end Go.Proofs.Yteglnceidneigaa
