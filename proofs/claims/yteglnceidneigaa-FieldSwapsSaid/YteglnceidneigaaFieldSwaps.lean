/-
  The walk of 'FieldSwaps'.
-/
import Derived.Test.YteglnceidneigaaKnown06
import Derived.Test.YteglnceidneigaaTriOrd
import Derived.Test.YteglnceidneigaaFieldSwap
import Derived.Test.YteglnceidneigaaRunB32
import Derived.Deep.DeepCutAuto
namespace Go.Proofs.Yteglnceidneigaa
open Go.RowKit Go.Shelf

set_option maxRecDepth 100000
set_option maxHeartbeats 8000000

theorem swap_enters (args : Array Value) (w : World) : (callFunc 24 args).run Try.prog w = .ok (.enter 24 args) w := enters_of Try.func24 (by kernel_rfl) rfl args w
theorem wpList_load_numG {ops : Array Oper} {Q : Exit → Act → World → Prop} {rest : List Oper} {o : Oper} {a : Act} {w : World} {g : Nat} {f : Nat → Nat} (hw : Region.wanted o (yielded ops a.tmps) = true) (t : Tmp) (ho : o.op = .load 28 (.tmp t)) (hx : a.eval (.tmp t) = .pointer (some ⟨g, 0, none⟩))
    (H : Holds w g 28 .u64 5 f) (h : wpList Try.prog ops Q rest (a.put o.dst (.agg (cellsOf .u64 5 f))) w) : wpList Try.prog ops Q (o :: rest) a w :=
  wpList_step fun K hK => by
    rw [if_pos hw]
    obtain ⟨d, h1, h2⟩ := under_row (P := Try.prog) (T := 28) (by kernel_rfl)
    exact wp_load_row 28 (.tmp t) ho g hx 28 _ (0, 0) d H.block h1 (by cases d <;> first | rfl | exact h2) (by rw [cellsOf_size]; kernel_rfl) (hK _ _ h)
theorem fieldSwaps_any (fa fb : Nat → Nat) (yes : Bool) (w : World) (hfa : ∀ i, fa i < 256) (hfb : ∀ i, fb i < 256) :
    Calls Try.prog 6 #[.agg (cellsOf .u8 32 fa), .agg (cellsOf .u8 32 fb), .bool yes] w (SaysYes w) := by
  have hA : Holds ((w.alloc (.cells (cellsOf .u8 32 fa) 22)).alloc (.cells (cellsOf .u8 32 fb) 22)) w.heap.size 22 .u8 32 fa := (holds_alloc w 22 .u8 32 fa _ rfl).grown (World.grownBy_alloc _ _ none) (by simp)
  have hB : Holds ((w.alloc (.cells (cellsOf .u8 32 fa) 22)).alloc (.cells (cellsOf .u8 32 fb) 22)) (w.heap.size + 1) 22 .u8 32 fb := by
    have := holds_alloc (w.alloc (.cells (cellsOf .u8 32 fa) 22)) 22 .u8 32 fb _ rfl
    rwa [World.size_alloc] at this
  have gr := grown_alloc (World.grownBy_alloc w (.cells (cellsOf .u8 32 fa) 22) none) (.cells (cellsOf .u8 32 fb) 22)
  have HK := Lib.hid known06
  have ix := is5_of fa hfa
  have iy := is5_of fb hfb
  have HX := Lib.hid (of_any fa hfa)
  have HY := Lib.hid (of_any fb hfb)
  obtain ⟨x, hx⟩ : ∃ x, x = ofL fa := ⟨_, rfl⟩
  obtain ⟨y, hy⟩ : ∃ x, x = ofL fb := ⟨_, rfl⟩
  rw [← hx] at ix HX
  rw [← hy] at iy HY
  obtain ⟨a, ha⟩ : ∃ x, x = ofV fa := ⟨_, rfl⟩
  obtain ⟨b, hb⟩ : ∃ x, x = ofV fb := ⟨_, rfl⟩
  rw [← ha] at ix
  rw [← hb] at iy
  clear hx hy ha hb hfa hfb
  have E1 := is_any ix ix
  have E2 := is_any iy iy
  rw [beq_self_eq_true] at E1 E2
  have HE1 := Lib.hid E1
  have HE2 := Lib.hid E2
  have LX := Lib.hid (fun i hi => Nat.lt_trans (ix.lt i hi) (show 4503599627370496 < 18446744073709551616 by decide))
  have LY := Lib.hid (fun i hi => Nat.lt_trans (iy.lt i hi) (show 4503599627370496 < 18446744073709551616 by decide))
  clear E1 E2 ix iy
  go_enter Try.func6, Try.ntmps6
  go_wp2_with fail
  generalize (w.alloc (.cells (cellsOf .u8 32 fa) 22)).alloc (.cells (cellsOf .u8 32 fb) 22) = w1 at *
  go_at_call 7
  refine (HK.out _).mono ?_
  rintro e U ⟨⟨rfl, gK⟩⟩
  replace hA := hA.grown gK (by simp)
  replace hB := hB.grown gK (by simp)
  replace gr := grown_trans gr gK
  clear gK HK
  go_upto_region 3 with fail
  obtain ⟨V0, hV0⟩ : ∃ V0, V0 = U.drew := ⟨_, rfl⟩
  have gv : U.grownBy V0 none := by rw [hV0]; exact grown_drew (grown_refl U none)
  have HV0 := Lib.hid hV0.symm
  replace hA := hA.grown gv (by simp)
  replace hB := hB.grown gv (by simp)
  replace gr := grown_trans gr gv
  clear hV0 gv
  have HCk : Hid (∀ k W, k < 2 → V0.grownBy W none → Calls Try.prog 8 #[.agg (cellsOf .u8 32 (pick2 fa fb k))] W fun e w' => e = .returned (.agg (cellsOf .u64 5 (pick2 x y k))) ∧ W.grownBy w' none) := Lib.hid (fun k W hk _ => by
    obtain rfl | rfl : k = 0 ∨ k = 1 := by omega
    · exact HX.out W
    · exact HY.out W)
  go_cut [7, 8] (fun s7 s8 wx => ∃ X0 X1, s7 = .pointer (some ⟨X0, 0, none⟩) ∧ s8 = .pointer (some ⟨X1, 0, none⟩) ∧ V0.grownBy wx none ∧ Holds wx X0 28 .u64 5 x ∧ Holds wx X1 28 .u64 5 y ∧ X0 ≠ X1 ∧ V0.heap.size ≤ X0 ∧ V0.heap.size ≤ X1)
  case first =>
    refine wp_region_held (S := fun W => V0.grownBy W none) (by kernel_rfl) ?_
    change wpAnyH _ _ _ _ _ 8 #[false, false, false, false, false, false, false, false] _ (World.drew _)
    rw [HV0.out]
    have hS0 : V0.grownBy V0 none := grown_refl V0 _
    refine wpAnyH_takeD (some 14) (i := 0) (v := .agg (cellsOf .u8 32 fa)) rfl rfl (by kernel_rfl) (by kernel_rfl) (by kernel_rfl) (fun _ _ _ h => h) (Or.inl ⟨rfl, fun W hW => run_b32 (hA.grown hW (by simp)) rfl rfl⟩) hS0 ?_
    simp only [Act.put, List.setIfInBounds_toArray, List.set_cons_succ, List.set_cons_zero]
    refine wpAnyH_takeD (some 16) (i := 2) (v := .agg (cellsOf .u8 32 fb)) rfl rfl (by kernel_rfl) (by kernel_rfl) (by kernel_rfl) (fun _ _ _ h => h) (Or.inl ⟨rfl, fun W hW => run_b32 (hB.grown hW (by simp)) rfl rfl⟩) hS0 ?_
    simp only [Act.put, List.setIfInBounds_toArray, List.set_cons_succ, List.set_cons_zero]
    refine calls_makes (T := 28) (kd := .u64) (s := 5) 2 2 tC (tA 2) (tD 15) (tE 7) (fun _ => 8) (fun k => #[.agg (cellsOf .u8 32 (pick2 fa fb k))]) (fun k => .agg (cellsOf .u64 5 (pick2 x y k))) _ dL (duo_ready (by kernel_rfl)) duo_call duo_make ?_ ?_ (tD_inj 2 15) (tE_inj 2 7) (tDE 2 15 7 (by decide)) ?_ (fun _ => of_enters) HCk.out ?_ ?_ 4 0 (fun _ => none) _ _ (by decide) rfl (Fr.start _ _ _ _ _) (Mades.start _ _ _ _ _)
    · intro k hk
      show 15 + 2 * k < 38
      omega
    · intro k hk
      show 7 + k < 38
      omega
    · intro k hk
      obtain rfl | rfl : k = 0 ∨ k = 1 := by omega
      · exact ⟨_, rfl, rfl, rfl, fun p b hF => exec_fn1 _ _ _ rfl ((hF.keep 14 (by decide) (by unfold tD; omega) (by unfold tE; omega)).trans rfl)⟩
      · exact ⟨_, rfl, rfl, rfl, fun p b hF => exec_fn1 _ _ _ rfl ((hF.keep 16 (by decide) (by unfold tD; omega) (by unfold tE; omega)).trans rfl)⟩
    · intro j hj
      obtain rfl | rfl : j = 0 ∨ j = 1 := by omega
      all_goals exact ⟨_, rfl, rfl, rfl, fun b W => run_newnum rfl⟩
    · intro p b W hp hF hM
      obtain ⟨X0, h0⟩ := hp 0 (by decide)
      obtain ⟨X1, h1⟩ := hp 1 (by decide)
      have hszD := hF.sizes (m := 38) rfl (tD 15) (fun k hk => by unfold tD; omega)
      have hszE := hF.sizes (m := 38) rfl (tE 7) (fun k hk => by unfold tE; omega)
      have hb := hF.same ((((((Fr.start _ (tD 15) (tE 7) _ 2).callD (by decide) hszD (tD_inj 2 15) (tDE 2 15 7 (by decide))).callD (by decide) hszD (tD_inj 2 15) (tDE 2 15 7 (by decide))).makeD 0 X0 (by decide) rfl (by decide) hszE (tE_inj 2 7) (tDE 2 15 7 (by decide))).makeD 1 X1 (by decide) rfl (by decide) hszE (tE_inj 2 7) (tDE 2 15 7 (by decide))).congr ?_)
      · subst hb
        obtain ⟨q0, hX0⟩ := hM.at_ 0 X0 (by decide) h0
        obtain ⟨q1, hX1⟩ := hM.at_ 1 X1 (by decide) h1
        have n01 : X0 ≠ X1 := fun e => by subst e; exact absurd (hM.ne 0 1 X0 (by decide) (by decide) h0 h1) (by decide)
        have hLf : dL 2 p = #[true, true, true, true, true, true, false, false] := by unfold dL; rw [h0, h1]; rfl
        rw [hLf]
        simp only [show tD 15 0 = 15 from rfl, show tD 15 1 = 17 from rfl, show tE 7 0 = 7 from rfl, show tE 7 1 = 8 from rfl]
        simp only [Act.put, List.setIfInBounds_toArray, List.set_cons_succ, List.set_cons_zero]
        have gS := hM.gr
        clear hM hF hLf hp hszD hszE h0 h1
        have gS0 := grown_setRow_new gS X0 (cellsOf .u64 5 x) (Or.inl q0)
        have a00 := hX0.setRow .u64 5 x
        have a01 := hX1.of_block (setRow_other _ X0 X1 (cellsOf .u64 5 x) n01.symm)
        refine wpAnyH_one (i := 6) (by kernel_rfl) (op_store 28 7 15 X0 (cellsOf .u64 5 x) rfl rfl rfl rfl rfl rfl 28 _ hX0.block (by rw [cellsOf_size]; kernel_rfl) (by rw [cellsOf_size, cellsOf_size]) (cellsOf_all _ _ _) gS0 ?_)
        simp only [List.setIfInBounds_toArray, List.set_cons_succ, List.set_cons_zero]
        have gS1 := grown_setRow_new gS0 X1 (cellsOf .u64 5 y) (Or.inl q1)
        have a10 := a00.of_block (setRow_other _ X1 X0 (cellsOf .u64 5 y) n01)
        have a11 := a01.setRow .u64 5 y
        refine wpAnyH_one (i := 7) (by kernel_rfl) (op_store 28 8 17 X1 (cellsOf .u64 5 y) rfl rfl rfl rfl rfl rfl 28 _ a01.block (by rw [cellsOf_size]; kernel_rfl) (by rw [cellsOf_size, cellsOf_size]) (cellsOf_all _ _ _) gS1 ?_)
        simp only [List.setIfInBounds_toArray, List.set_cons_succ, List.set_cons_zero]
        refine wpAnyH_done (by kernel_rfl) ?_ _
        go_wp2_with fail
        go_meet
        case rel => exact ⟨X0, X1, rfl, rfl, gS1, a10, a11, n01, q0, q1⟩
      · intro j hj
        obtain rfl | rfl : j = 0 ∨ j = 1 := by omega
        · exact h0.symm
        · exact h1.symm
  case rest =>
    obtain ⟨X0, X1, rfl, rfl, g6, hX, hY, n01, q0, q1⟩ := hcut
    clear HV0 HCk hA hB HX HY
    go_wp2_with fail
    obtain ⟨T0, hT0⟩ : ∃ T0, T0 = wc.drew := ⟨_, rfl⟩
    have gt : wc.grownBy T0 none := by rw [hT0]; exact grown_drew (grown_refl wc none)
    have HT0 := Lib.hid hT0.symm
    replace hX := hX.grown gt (by simp)
    replace hY := hY.grown gt (by simp)
    replace g6 := grown_trans g6 gt
    clear hT0 gt
    have HN01 := Lib.hid n01
    have HN10 := Lib.hid n01.symm
    have HQ0 := Lib.hid q0
    have HQ1 := Lib.hid q1
    clear n01 q0 q1
    go_cut [9, 10] (fun s9 s10 wx => ∃ U0 U1, s9 = .pointer (some ⟨U0, 0, none⟩) ∧ s10 = .pointer (some ⟨U1, 0, none⟩) ∧ T0.grownBy wx none ∧ Holds wx U0 28 .u64 5 x ∧ Holds wx U1 28 .u64 5 y ∧ U0 ≠ U1 ∧ T0.heap.size ≤ U0 ∧ T0.heap.size ≤ U1)
    case first =>
      refine wp_region_held (S := fun W => T0.grownBy W none) (by kernel_rfl) ?_
      change wpAnyH _ _ _ _ _ 6 #[false, false, false, false, false, false] _ (World.drew _)
      rw [HT0.out]
      have hS0 : T0.grownBy T0 none := grown_refl T0 _
      refine wpAnyH_takeD (some 18) (i := 0) (v := .agg (cellsOf .u64 5 x)) rfl rfl (by kernel_rfl) (by kernel_rfl) (by kernel_rfl) (fun _ _ _ h => h) (Or.inl ⟨rfl, fun W hW => run_num (hX.grown hW (by simp)) rfl rfl⟩) hS0 ?_
      simp only [Act.put, List.setIfInBounds_toArray, List.set_cons_succ, List.set_cons_zero]
      refine wpAnyH_takeD (some 19) (i := 1) (v := .agg (cellsOf .u64 5 y)) rfl rfl (by kernel_rfl) (by kernel_rfl) (by kernel_rfl) (fun _ _ _ h => h) (Or.inl ⟨rfl, fun W hW => run_num (hY.grown hW (by simp)) rfl rfl⟩) hS0 ?_
      simp only [Act.put, List.setIfInBounds_toArray, List.set_cons_succ, List.set_cons_zero]
      have gA := World.grownBy_alloc T0 (.cells (cellsOf .u64 5 (fun _ => 0)) 28) none
      have gB := World.grownBy_alloc (T0.alloc (.cells (cellsOf .u64 5 (fun _ => 0)) 28)) (.cells (cellsOf .u64 5 (fun _ => 0)) 28) none
      have hP := (holds_alloc T0 28 .u64 5 (fun _ => 0) _ rfl).grown gB (by simp)
      have hQ := holds_alloc (T0.alloc (.cells (cellsOf .u64 5 (fun _ => 0)) 28)) 28 .u64 5 (fun _ => 0) _ rfl
      have gAB := grown_trans gA gB
      have hs := World.size_alloc T0 (.cells (cellsOf .u64 5 (fun _ => 0)) 28)
      have hpq : T0.heap.size ≠ (T0.alloc (.cells (cellsOf .u64 5 (fun _ => 0)) 28)).heap.size := by omega
      have hql : T0.heap.size ≤ (T0.alloc (.cells (cellsOf .u64 5 (fun _ => 0)) 28)).heap.size := by omega
      refine wpAnyH_all (rs := [2, 3]) (by kernel_rfl) (by simp) fun k hk => ?_
      rcases (by simpa using hk : k = 2 ∨ k = 3) with rfl | rfl
      · refine wpOp_at rfl (wanted_of rfl) (wp_yields (run_newnum rfl) ?_)
        refine ⟨gA, ?_⟩
        simp only [Act.put, List.setIfInBounds_toArray, List.set_cons_succ, List.set_cons_zero]
        refine wpAnyH_yieldD (some 10) (i := 3) (by kernel_rfl) rfl rfl (wanted_of rfl) (run_newnum rfl) gAB ?_
        simp only [Act.put, List.setIfInBounds_toArray, List.set_cons_succ, List.set_cons_zero]
        have s1 := grown_setRow_new gAB (T0.heap.size) (cellsOf .u64 5 x) (Or.inl (Nat.le_refl _))
        have s2 := grown_setRow_new s1 ((T0.alloc (.cells (cellsOf .u64 5 (fun _ => 0)) 28)).heap.size) (cellsOf .u64 5 y) (Or.inl hql)
        have p9 := hP.setRow .u64 5 x
        have p10 := hQ.of_block (setRow_other _ (T0.heap.size) ((T0.alloc (.cells (cellsOf .u64 5 (fun _ => 0)) 28)).heap.size) (cellsOf .u64 5 x) hpq.symm)
        have r9 := p9.of_block (setRow_other _ ((T0.alloc (.cells (cellsOf .u64 5 (fun _ => 0)) 28)).heap.size) (T0.heap.size) (cellsOf .u64 5 y) hpq)
        have r10 := p10.setRow .u64 5 y
        refine wpAnyH_one (i := 4) (by kernel_rfl) (op_store 28 9 18 (T0.heap.size) (cellsOf .u64 5 x) rfl rfl rfl rfl rfl rfl 28 _ hP.block (by rw [cellsOf_size]; kernel_rfl) (by rw [cellsOf_size, cellsOf_size]) (cellsOf_all _ _ _) s1 ?_)
        simp only [List.setIfInBounds_toArray, List.set_cons_succ, List.set_cons_zero]
        refine wpAnyH_one (i := 5) (by kernel_rfl) (op_store 28 10 19 ((T0.alloc (.cells (cellsOf .u64 5 (fun _ => 0)) 28)).heap.size) (cellsOf .u64 5 y) rfl rfl rfl rfl rfl rfl 28 _ p10.block (by rw [cellsOf_size]; kernel_rfl) (by rw [cellsOf_size, cellsOf_size]) (cellsOf_all _ _ _) s2 ?_)
        simp only [List.setIfInBounds_toArray, List.set_cons_succ, List.set_cons_zero]
        refine wpAnyH_done (by kernel_rfl) ?_ _
        have hr := (show T0.grownBy _ none ∧ Holds _ (T0.heap.size) 28 .u64 5 x ∧ Holds _ ((T0.alloc (.cells (cellsOf .u64 5 (fun _ => 0)) 28)).heap.size) 28 .u64 5 y ∧ (T0.heap.size) ≠ ((T0.alloc (.cells (cellsOf .u64 5 (fun _ => 0)) 28)).heap.size) ∧ T0.heap.size ≤ (T0.heap.size) ∧ T0.heap.size ≤ ((T0.alloc (.cells (cellsOf .u64 5 (fun _ => 0)) 28)).heap.size) from ⟨s2, r9, r10, hpq, Nat.le_refl _, hql⟩)
        rw [hs] at hr
        have HR := Lib.hid hr
        clear hr
        clear s1 s2 p9 p10 r9 r10 gA gB gAB hP hQ hs hpq hql
        go_wp2_with fail
        go_meet
        case rel => exact ⟨_, _, rfl, rfl, HR.out⟩
      · refine wpOp_at rfl (wanted_of rfl) (wp_yields (run_newnum rfl) ?_)
        refine ⟨gA, ?_⟩
        simp only [Act.put, List.setIfInBounds_toArray, List.set_cons_succ, List.set_cons_zero]
        refine wpAnyH_yieldD (some 9) (i := 2) (by kernel_rfl) rfl rfl (wanted_of rfl) (run_newnum rfl) gAB ?_
        simp only [Act.put, List.setIfInBounds_toArray, List.set_cons_succ, List.set_cons_zero]
        have s1 := grown_setRow_new gAB ((T0.alloc (.cells (cellsOf .u64 5 (fun _ => 0)) 28)).heap.size) (cellsOf .u64 5 x) (Or.inl hql)
        have s2 := grown_setRow_new s1 (T0.heap.size) (cellsOf .u64 5 y) (Or.inl (Nat.le_refl _))
        have p9 := hQ.setRow .u64 5 x
        have p10 := hP.of_block (setRow_other _ ((T0.alloc (.cells (cellsOf .u64 5 (fun _ => 0)) 28)).heap.size) (T0.heap.size) (cellsOf .u64 5 x) hpq)
        have r9 := p9.of_block (setRow_other _ (T0.heap.size) ((T0.alloc (.cells (cellsOf .u64 5 (fun _ => 0)) 28)).heap.size) (cellsOf .u64 5 y) hpq.symm)
        have r10 := p10.setRow .u64 5 y
        refine wpAnyH_one (i := 4) (by kernel_rfl) (op_store 28 9 18 ((T0.alloc (.cells (cellsOf .u64 5 (fun _ => 0)) 28)).heap.size) (cellsOf .u64 5 x) rfl rfl rfl rfl rfl rfl 28 _ hQ.block (by rw [cellsOf_size]; kernel_rfl) (by rw [cellsOf_size, cellsOf_size]) (cellsOf_all _ _ _) s1 ?_)
        simp only [List.setIfInBounds_toArray, List.set_cons_succ, List.set_cons_zero]
        refine wpAnyH_one (i := 5) (by kernel_rfl) (op_store 28 10 19 (T0.heap.size) (cellsOf .u64 5 y) rfl rfl rfl rfl rfl rfl 28 _ p10.block (by rw [cellsOf_size]; kernel_rfl) (by rw [cellsOf_size, cellsOf_size]) (cellsOf_all _ _ _) s2 ?_)
        simp only [List.setIfInBounds_toArray, List.set_cons_succ, List.set_cons_zero]
        refine wpAnyH_done (by kernel_rfl) ?_ _
        have hr := (show T0.grownBy _ none ∧ Holds _ ((T0.alloc (.cells (cellsOf .u64 5 (fun _ => 0)) 28)).heap.size) 28 .u64 5 x ∧ Holds _ (T0.heap.size) 28 .u64 5 y ∧ ((T0.alloc (.cells (cellsOf .u64 5 (fun _ => 0)) 28)).heap.size) ≠ (T0.heap.size) ∧ T0.heap.size ≤ ((T0.alloc (.cells (cellsOf .u64 5 (fun _ => 0)) 28)).heap.size) ∧ T0.heap.size ≤ (T0.heap.size) from ⟨s2, r9, r10, hpq.symm, hql, Nat.le_refl _⟩)
        rw [hs] at hr
        have HR := Lib.hid hr
        clear hr
        clear s1 s2 p9 p10 r9 r10 gA gB gAB hP hQ hs hpq hql
        go_wp2_with fail
        go_meet
        case rel => exact ⟨_, _, rfl, rfl, HR.out⟩
    case rest =>
      obtain ⟨U0, U1, rfl, rfl, g7, hU, hV, nU, qU0, qU1⟩ := hcut
      have hX2 := hX.grown g7 (by simp)
      have hY2 := hY.grown g7 (by simp)
      have g67 := grown_trans g6 g7
      have NE := Lib.hid (show (U0 ≠ X0 ∧ U0 ≠ X1 ∧ U1 ≠ X0 ∧ U1 ≠ X1) from by
        have h1 := hX.lt
        have h2 := hY.lt
        exact ⟨by omega, by omega, by omega, by omega⟩)
      have HNU := Lib.hid nU
      have HNU2 := Lib.hid nU.symm
      have HQU := Lib.hid (show w.heap.size ≤ U0 ∧ w.heap.size ≤ U1 from by
        have h1 := (grown_trans gr g6).size
        exact ⟨by omega, by omega⟩)
      clear hX hY g6 g7 nU qU0 qU1 HT0
      cases yes with
      | false =>
        have hsw := swap_any 0 X0 X1 x y V0 wc (by decide) g67 HQ0.out HQ1.out HN01.out LX.out LY.out hX2 hY2
        have HSw := Lib.hid hsw
        clear hsw
        go_wp2_with fail
        go_at_call 24
        refine HSw.out.mono ?_
        rintro e W1 ⟨⟨v1, rfl⟩, hs⟩
        have hU1 := hU.of_block (hs.same U0 hU.lt NE.out.1 NE.out.2.1)
        have hV1 := hV.of_block (hs.same U1 hV.lt NE.out.2.2.1 NE.out.2.2.2)
        have hx1 := hs.x.congr (g := x) (fun j _ => if_neg (by decide))
        have hy1 := hs.y.congr (g := y) (fun j _ => if_neg (by decide))
        have gw := grown_trans gr hs.gr
        clear hs HSw hU hV hX2 hY2 g67
        go_wp2_with fail
        go_at_call 24
        refine (swap_nilx 0 _ _).mono ?_
        rintro e W2 ⟨⟨v2, rfl⟩, rfl⟩
        go_wp2_with fail
        go_at_call 24
        refine (swap_nily 0 _ _).mono ?_
        rintro e W2 ⟨⟨v3, rfl⟩, rfl⟩
        go_wp2_with (first
          | refine wpList_load_num rfl 7 rfl rfl hx1 ?_
          | refine wpList_load_num rfl 9 rfl rfl hU1 ?_)
        go_at_call 22
        refine (HE1.out _).mono ?_
        rintro e W3 ⟨rfl, gI⟩
        replace hy1 := hy1.grown gI (by simp)
        replace hV1 := hV1.grown gI (by simp)
        replace gw := grown_trans gw gI
        go_wp2_with (first
          | refine wpList_load_numG rfl 8 rfl rfl hy1 ?_
          | refine wpList_load_numG rfl 10 rfl rfl hV1 ?_)
        go_at_call 22
        refine (HE2.out _).mono ?_
        rintro e W4 ⟨rfl, gI⟩
        go_wp2_with fail
        go_ret
        exact ⟨⟨rfl, grown_trans gw gI⟩⟩
      | true =>
        have hsw := swap_any 1 X0 X1 x y V0 wc (by decide) g67 HQ0.out HQ1.out HN01.out LX.out LY.out hX2 hY2
        have HSw := Lib.hid hsw
        clear hsw
        go_wp2_with fail
        go_at_call 24
        refine HSw.out.mono ?_
        rintro e W1 ⟨⟨v1, rfl⟩, hs⟩
        have hU1 := hU.of_block (hs.same U0 hU.lt NE.out.1 NE.out.2.1)
        have hV1 := hV.of_block (hs.same U1 hV.lt NE.out.2.2.1 NE.out.2.2.2)
        have hx1 := hs.x.congr (g := y) (fun j _ => if_pos rfl)
        have hy1 := hs.y.congr (g := x) (fun j _ => if_pos rfl)
        have gw := grown_trans gr hs.gr
        clear hs HSw hU hV hX2 hY2 g67
        go_wp2_with fail
        go_at_call 24
        refine (swap_nilx 1 _ _).mono ?_
        rintro e W2 ⟨⟨v2, rfl⟩, rfl⟩
        go_wp2_with fail
        go_at_call 24
        refine (swap_nily 1 _ _).mono ?_
        rintro e W2 ⟨⟨v3, rfl⟩, rfl⟩
        have hU2 := hU1.setRow .u64 5 y
        have hV2 := hV1.of_block (setRow_other _ U0 U1 (cellsOf .u64 5 y) HNU2.out)
        have hU3 := hU2.of_block (setRow_other _ U1 U0 (cellsOf .u64 5 x) HNU.out)
        have hV3 := hV2.setRow .u64 5 x
        have hx2 := hx1.of_block (setRow_other _ U0 X0 (cellsOf .u64 5 y) (Ne.symm NE.out.1))
        have hx3 := hx2.of_block (setRow_other _ U1 X0 (cellsOf .u64 5 x) (Ne.symm NE.out.2.2.1))
        have hy2 := hy1.of_block (setRow_other _ U0 X1 (cellsOf .u64 5 y) (Ne.symm NE.out.2.1))
        have hy3 := hy2.of_block (setRow_other _ U1 X1 (cellsOf .u64 5 x) (Ne.symm NE.out.2.2.2))
        have gw2 := grown_setRow_new (grown_setRow_new gw U0 (cellsOf .u64 5 y) (Or.inl HQU.out.1)) U1 (cellsOf .u64 5 x) (Or.inl HQU.out.2)
        go_upto_region 13 with (first
          | refine wpList_load_num rfl 10 rfl rfl hV1 ?_
          | refine wpList_load_num rfl 9 rfl rfl hU1 ?_
          | refine wpList_store_row rfl 28 (.tmp 9) (.tmp 28) rfl U0 _ rfl rfl 28 _ hU1.block (by rw [cellsOf_size]; kernel_rfl) rfl (cellsOf_all _ _ _) ?_
          | refine wpList_store_row rfl 28 (.tmp 10) (.tmp 29) rfl U1 _ rfl rfl 28 _ hV2.block (by rw [cellsOf_size]; kernel_rfl) rfl (cellsOf_all _ _ _) ?_)
        clear hU1 hV1 hU2 hV2 hx1 hx2 hy1 hy2 gw
        generalize (W1.setRow U0 (cellsOf .u64 5 y)).setRow U1 (cellsOf .u64 5 x) = Wz at *
        go_wp2_with (first
          | refine wpList_load_num rfl 7 rfl rfl hx3 ?_
          | refine wpList_load_num rfl 9 rfl rfl hU3 ?_)
        go_at_call 22
        refine (HE2.out _).mono ?_
        rintro e W3 ⟨rfl, gI⟩
        replace hy3 := hy3.grown gI (by simp)
        replace hV3 := hV3.grown gI (by simp)
        replace gw2 := grown_trans gw2 gI
        go_wp2_with (first
          | refine wpList_load_numG rfl 8 rfl rfl hy3 ?_
          | refine wpList_load_numG rfl 10 rfl rfl hV3 ?_)
        go_at_call 22
        refine (HE1.out _).mono ?_
        rintro e W4 ⟨rfl, gI⟩
        go_wp2_with fail
        go_ret
        exact ⟨⟨rfl, grown_trans gw2 gI⟩⟩

end Go.Proofs.Yteglnceidneigaa
