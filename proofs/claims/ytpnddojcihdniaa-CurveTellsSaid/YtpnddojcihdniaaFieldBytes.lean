/-
  field's numbers from 0 to p - 1; their bytes.
-/
import Derived.Test.YtpnddojcihdniaaFieldOf
import Derived.Test.YtpnddojcihdniaaOrd
import Derived.Test.YtpnddojcihdniaaOrd3
import Derived.Test.YtpnddojcihdniaaEqArr
import Derived.Test.YtpnddojcihdniaaGrowQ
import Derived.Shelf.Abstract
namespace Go.Proofs.Ytpnddojcihdniaa
open Go.RowKit Go.Shelf

set_option maxRecDepth 100000
set_option maxHeartbeats 2000000

theorem run_build {o : Oper} {a : Act} {t : Tmp} {x : Nat → Nat} {U : World} (ho : o.op = .build 28 #[(0, .tmp t)]) (ha : a.eval (.tmp t) = .agg (cellsOf .u64 5 x)) : (execOp a.eval o).run Try.prog U = .ok (.value (.agg (cellsOf .u64 5 x))) U := by
  unfold execOp
  simp only [ho, List.map_toArray, List.map_cons, List.map_nil, ha]
  kernel_rfl
theorem run_field (x : Nat → Nat) (U : World) : (Instr.field 28 (.agg (cellsOf .u64 5 x)) 0).run Try.prog U = .ok (.agg (cellsOf .u64 5 x)) U := by
  kernel_rfl
theorem least_any {f : Nat → Nat} {v : Nat} (hf : Is5 f v) (w : World) :
    Calls Try.prog 38 #[.agg (cellsOf .u64 5 f)] w fun e w' => e = .returned (.agg (cellsOf .u64 5 (lim 51 v))) ∧ w.grownBy w' none := by
  have hA : Holds ((w.alloc (.cells (cellsOf .u64 5 f) 28)).alloc (.cells #[.int .u64 0, .int .u64 0, .int .u64 0, .int .u64 0, .int .u64 0] 28)) w.heap.size 28 .u64 5 f := (holds_alloc w 28 .u64 5 f _ rfl).of_block (by rw [heap_alloc_old]; simp)
  have hD : Holds ((w.alloc (.cells (cellsOf .u64 5 f) 28)).alloc (.cells #[.int .u64 0, .int .u64 0, .int .u64 0, .int .u64 0, .int .u64 0] 28)) (w.heap.size + 1) 28 .u64 5 (fun _ => 0) := by
    have := holds_alloc (w.alloc (.cells (cellsOf .u64 5 f) 28)) 28 .u64 5 (fun _ => 0) #[.int .u64 0, .int .u64 0, .int .u64 0, .int .u64 0, .int .u64 0] rfl
    rwa [World.size_alloc] at this
  have gr := grown_alloc (World.grownBy_alloc w (.cells (cellsOf .u64 5 f) 28) none) (.cells #[.int .u64 0, .int .u64 0, .int .u64 0, .int .u64 0, .int .u64 0] 28)
  have hx : ∀ i, i < 5 → carL f i < 4503599627370496 := car_lt f (fun i hi => Nat.lt_trans (hf.lt i hi) (by decide))
  have HC := Lib.hid (carried_any f (fun i hi => Nat.lt_trans (hf.lt i hi) (by decide)))
  have HEnd := Lib.hid (fun i hi => least_lim hf i hi)
  have hQ := leastQ_le hf
  obtain ⟨x, hxx⟩ : ∃ x, x = carL f := ⟨_, rfl⟩
  rw [← hxx] at hx HC HEnd hQ
  obtain ⟨q, hq⟩ : ∃ q, q = leastQ x := ⟨_, rfl⟩
  rw [← hq] at HEnd hQ
  have Hq := Lib.hid hq
  have HX := Lib.hid hx
  obtain ⟨S, hS⟩ : ∃ S, S = lim 51 v := ⟨_, rfl⟩
  rw [← hS] at HEnd ⊢
  have a0 := hA.cell 0 (by decide)
  have a1 := hA.cell 1 (by decide)
  have a2 := hA.cell 2 (by decide)
  have a3 := hA.cell 3 (by decide)
  have a4 := hA.cell 4 (by decide)
  clear hxx hq hS hx hf
  generalize f 0 = f0 at *
  generalize f 1 = f1 at *
  generalize f 2 = f2 at *
  generalize f 3 = f3 at *
  generalize f 4 = f4 at *
  go_enter Try.func38, Try.ntmps38
  go_wp2_with fail
  generalize (w.alloc (.cells (cellsOf .u64 5 f) 28)).alloc (.cells #[.int .u64 0, .int .u64 0, .int .u64 0, .int .u64 0, .int .u64 0] 28) = w1 at *
  go_at_call 32
  refine (HC.out _).mono ?_
  rintro e U ⟨rfl, gU⟩
  have hD1 := hD.grown gU (by simp)
  have g2 := grown_trans gr gU
  have hL0 := holds_alloc U 26 .u64 5 (fun _ => 0) #[.int .u64 0, .int .u64 0, .int .u64 0, .int .u64 0, .int .u64 0] rfl
  have gg := World.grownBy_alloc U (.cells #[.int .u64 0, .int .u64 0, .int .u64 0, .int .u64 0, .int .u64 0] 26) none
  have hD2 := hD1.grown gg (by simp)
  have hlt := hD1.lt
  have hne : w.heap.size + 1 ≠ U.heap.size := by omega
  have hUs := (grown_trans gr gU).size
  have hfld := run_field x
  go_upto_region 2 with (refine wpList_store_row rfl 26 (.tmp 3) (.tmp 24) rfl U.heap.size _ rfl rfl 26 _ hL0.block (by rw [cellsOf_size]; kernel_rfl) rfl (cellsOf_all _ _ _) ?_)
  have hL := hL0.setRow .u64 5 x
  have hD3 : Holds ((U.alloc (.cells #[.int .u64 0, .int .u64 0, .int .u64 0, .int .u64 0, .int .u64 0] 26)).setRow U.heap.size (cellsOf .u64 5 x)) (w.heap.size + 1) 28 .u64 5 (fun _ => 0) := hD2.grown (grown_setRow_new (row := some U.heap.size) (grown_refl _ _) _ _ (Or.inr rfl)) (by simpa using hne)
  have g3 := grown_setRow_new (grown_trans g2 gg) U.heap.size (cellsOf .u64 5 x) (Or.inl hUs)
  clear hA hD hD1 gr gU g2 gg a0 a1 a2 a3 a4 hL0 hD2 hfld hlt
  generalize (U.alloc (.cells #[.int .u64 0, .int .u64 0, .int .u64 0, .int .u64 0, .int .u64 0] 26)).setRow U.heap.size (cellsOf .u64 5 x) = w2 at *
  generalize U.heap.size = b at *
  go_wp2_with (refine wpList_load_row rfl 26 (.tmp 3) rfl b rfl 26 _ (0, 0) (.array 5 25) hL.block (by kernel_rfl) rfl (by rw [cellsOf_size]; kernel_rfl) ?_)
  go_loopw [4, 6, 26] (fun u4 _ u26 wr => ∃ i : Nat, i ≤ 5 ∧ u26 = .int .i64 i ∧ u4 = .int .u64 (outL x 19 i : Nat) ∧ w.grownBy wr none ∧ Holds wr b 26 .u64 5 x ∧ Holds wr (w.heap.size + 1) 28 .u64 5 (fun _ => 0)) (fun _ _ u26 _ => 5 - (intOf u26).toNat)
  case atStart => exact ⟨0, by omega, rfl, by rw [outL_zero]; rfl, g3, hL, hD3⟩
  case round =>
    clear g3 hL hD3
    obtain ⟨i, hi, rfl, rfl, hgr, hL, hD⟩ := hrel
    by_cases hlt : i < 5
    · have j1 : (i : Int) < 5 := by omega
      have hix := run_indexOf (Q := Try.prog) (T := 26) (E := 25) (n := 5) (by kernel_rfl) (fun _ => by kernel_rfl) (fun _ => by kernel_rfl) (cellsOf .u64 5 x) i i rfl (.int .u64 (x i)) hlt (cellsOf_get .u64 5 x i hlt)
      have h1 := HX.out i hlt
      have h2 := outL_le x 19 HX.out (by decide) i (by omega)
      have h3 := outL_step x 19 i
      obtain ⟨o0, ho0⟩ : ∃ o, o = outL x 19 i := ⟨_, rfl⟩
      obtain ⟨o1, ho1⟩ : ∃ o, o = outL x 19 (i + 1) := ⟨_, rfl⟩
      rw [← ho0] at h2 h3 ⊢
      rw [← ho1] at h3
      generalize x i = xi at *
      have z1 : IntKind.u64.wrap ((xi : Int) + (o0 : Int)) / 2251799813685248 = (o1 : Int) := by rw [IntKind.wrap_u64]; omega
      have HZ := Lib.hid z1
      have HO := Lib.hid ho1
      have HI := Lib.hid hlt
      have HG := Lib.hid hgr
      have HL := Lib.hid hL
      have HD := Lib.hid hD
      clear h1 h2 h3 z1 ho0 ho1 hi hgr hL hD
      go_wp2_with fail
      simp only [HZ.out]
      first
        | exact ⟨⟨i + 1, by omega, by go_num, by rw [HO.out], HG.out, HL.out, HD.out⟩, by simp [intOf]; omega⟩
        | (go_roundw
           case rel => exact ⟨i + 1, by omega, by go_num, by rw [HO.out], HG.out, HL.out, HD.out⟩
           case measure => simp [intOf]; omega)
    · obtain rfl : i = 5 := by omega
      have hq2 : q = 19 * outL x 19 5 := Hq.out
      have hb := outL_le x 19 HX.out (by decide) 5 (by decide)
      generalize outL x 19 5 = o5 at *
      have z1 : IntKind.u64.wrap ((o5 : Int) * 19) = (q : Int) := by rw [IntKind.wrap_u64]; omega
      clear hlt hi hq2 hb
      go_upto_region 9 with fail
      clear z1
      go_wp2_with fail
      go_loopw [4, 7, 36] (fun u4 _ u36 wt => ∃ i : Nat, i ≤ 5 ∧ u36 = .int .i64 i ∧ u4 = .int .u64 (outL x q i : Nat) ∧ w.grownBy wt none ∧ Holds wt b 26 .u64 5 (fun j => if j < i then S j else x j) ∧ Holds wt (w.heap.size + 1) 28 .u64 5 (fun _ => 0)) (fun _ _ u36 _ => 5 - (intOf u36).toNat)
      case atStart => exact ⟨0, by omega, rfl, by rw [outL_zero], hgr, hL, hD⟩
      case round =>
        clear hgr hL hD
        obtain ⟨i, hi, rfl, rfl, hgr, hL, hD⟩ := hrel
        by_cases hlt : i < 5
        · have j1 : (i : Int) < 5 := by omega
          have h1 := HX.out i hlt
          have h2 := outL_le x q HX.out (by omega) i (by omega)
          have h3 := outL_step x q i
          have h4 := lim_out x q i 5 hlt
          rw [HEnd.out i hlt] at h4
          obtain ⟨o0, ho0⟩ : ∃ o, o = outL x q i := ⟨_, rfl⟩
          obtain ⟨o1, ho1⟩ : ∃ o, o = outL x q (i + 1) := ⟨_, rfl⟩
          rw [← ho0] at h2 h3 h4 ⊢
          rw [← ho1] at h3
          have c0 := hL.cell i hlt
          rw [if_neg (Nat.lt_irrefl i)] at c0
          have f0 := hL.frozen i
          have hL1 := fun t : Nat => hL.set i t
          have c1 := fun t : Nat => (hL1 t).cell i hlt
          have f1 := fun t : Nat => (hL1 t).frozen i
          have hL2 := ((hL1 (x i + o0)).set i (S i)).congr (g := fun j => if j < i + 1 then S j else x j) (fun j hj => by
            by_cases e : j = i
            · subst e; rw [upd_same, if_pos (by omega)]
            · rw [upd_other _ _ _ _ e, upd_other _ _ _ _ e]
              by_cases e2 : j < i
              · rw [if_pos e2, if_pos (by omega)]
              · rw [if_neg e2, if_neg (by omega)])
          have hD2 := (hD.setOther ⟨b, i, none⟩ (.int .u64 (x i + o0 : Nat)) (by exact hne)).setOther ⟨b, i, none⟩ (.int .u64 (S i : Nat)) (by exact hne)
          have hg2 := grown_setCell_new (grown_setCell_new hgr ⟨b, i, none⟩ (.int .u64 (x i + o0 : Nat)) (Or.inl hUs)) ⟨b, i, none⟩ (.int .u64 (S i : Nat)) (Or.inl hUs)
          have c2 := c1 (x i + o0)
          rw [upd_same] at c2
          have f2 := f1 (x i + o0)
          obtain ⟨t, ht⟩ : ∃ t, t = x i + o0 := ⟨_, rfl⟩
          rw [← ht] at hL2 hD2 hg2 c2 f2
          generalize S i = si at *
          generalize x i = xi at *
          have z1 : IntKind.u64.wrap ((xi : Int) + (o0 : Int)) = (t : Int) := by rw [IntKind.wrap_u64]; omega
          have z2 : (t : Int) / 2251799813685248 = (o1 : Int) := by omega
          have z3 : bits .and .u64 (t : Int) 2251799813685247 = (si : Int) := by rw [and51 t (by omega), ht, h4]
          have HO := Lib.hid ho1
          have HI := Lib.hid hlt
          have HG := Lib.hid hg2
          have HL := Lib.hid hL2
          have HD := Lib.hid hD2
          clear h1 h2 h3 h4 ho0 ho1 ht hi hgr hL hD hL1 c1 f1 hg2 hL2 hD2
          go_wp2_with fail
          first
            | exact ⟨⟨i + 1, by omega, by go_num, by rw [HO.out], HG.out, HL.out, HD.out⟩, by simp [intOf]; omega⟩
            | (go_roundw
               case rel => exact ⟨i + 1, by omega, by go_num, by rw [HO.out], HG.out, HL.out, HD.out⟩
               case measure => simp [intOf]; omega)
        · obtain rfl : i = 5 := by omega
          have hL5 := hL.congr (g := S) (fun j hj => by rw [if_pos hj])
          clear hlt hi hL
          go_upto_region 16 with fail
          refine wp_region_lit ?_
          refine wpList_load_row rfl 26 (.tmp 3) rfl b rfl 26 _ (0, 0) (.array 5 25) hL5.block (by kernel_rfl) rfl (by rw [cellsOf_size]; kernel_rfl) ?_
          simp only [Act.put, List.setIfInBounds_toArray, List.set_cons_succ, List.set_cons_zero]
          refine wpList_plain rfl fun K hK => wp_yields (v := .agg (cellsOf .u64 5 S)) (run_build rfl rfl) (hK _ _ ?_)
          clear hK K
          simp only [Act.put, List.setIfInBounds_toArray, List.set_cons_succ, List.set_cons_zero]
          go_wp2_with (refine wpList_store_row rfl 28 (.tmp 2) (.tmp 56) rfl (w.heap.size + 1) _ rfl rfl 28 _ hD.block (by rw [cellsOf_size]; kernel_rfl) rfl (cellsOf_all _ _ _) ?_)
          exact bodyPost_ret (res_row rfl rfl (hD.setRow .u64 5 S) (by kernel_rfl) (by kernel_rfl)) rfl ⟨rfl, grown_setRow_new hgr _ _ (Or.inl (by omega))⟩

theorem run_num {o : Oper} {a : Act} {W : World} {B : Nat} {f : Nat → Nat} {t : Tmp} (h : Holds W B 28 .u64 5 f) (ho : o.op = .load 28 (.tmp t)) (ha : a.eval (.tmp t) = .pointer (some ⟨B, 0, none⟩)) :
    (execOp a.eval o).run Try.prog W = .ok (.value (.agg (cellsOf .u64 5 f))) W := by
  obtain ⟨d, h1, h2⟩ := under_row (P := Try.prog) (T := 28) (by kernel_rfl)
  exact run_row 28 d h ho ha h1 (by cases d <;> first | rfl | exact h2) (by kernel_rfl)
theorem bytes_any {f : Nat → Nat} {v : Nat} (hf : Is5 f v) (w : World) :
    Calls Try.prog 17 #[.agg (cellsOf .u64 5 f)] w fun e w' => e = .returned (.agg (cellsOf .u8 32 (lim 8 v))) ∧ w.grownBy w' none := by
  have z32 : (#[.int .u8 0, .int .u8 0, .int .u8 0, .int .u8 0, .int .u8 0, .int .u8 0, .int .u8 0, .int .u8 0, .int .u8 0, .int .u8 0, .int .u8 0, .int .u8 0, .int .u8 0, .int .u8 0, .int .u8 0, .int .u8 0, .int .u8 0, .int .u8 0, .int .u8 0, .int .u8 0, .int .u8 0, .int .u8 0, .int .u8 0, .int .u8 0, .int .u8 0, .int .u8 0, .int .u8 0, .int .u8 0, .int .u8 0, .int .u8 0, .int .u8 0, .int .u8 0] : Array Value) = cellsOf .u8 32 (fun _ => 0) := rfl
  have hA : Holds ((w.alloc (.cells (cellsOf .u64 5 f) 28)).alloc (.cells #[.int .u8 0, .int .u8 0, .int .u8 0, .int .u8 0, .int .u8 0, .int .u8 0, .int .u8 0, .int .u8 0, .int .u8 0, .int .u8 0, .int .u8 0, .int .u8 0, .int .u8 0, .int .u8 0, .int .u8 0, .int .u8 0, .int .u8 0, .int .u8 0, .int .u8 0, .int .u8 0, .int .u8 0, .int .u8 0, .int .u8 0, .int .u8 0, .int .u8 0, .int .u8 0, .int .u8 0, .int .u8 0, .int .u8 0, .int .u8 0, .int .u8 0, .int .u8 0] 22)) w.heap.size 28 .u64 5 f := (holds_alloc w 28 .u64 5 f _ rfl).of_block (by rw [heap_alloc_old]; simp)
  have hD : Holds ((w.alloc (.cells (cellsOf .u64 5 f) 28)).alloc (.cells #[.int .u8 0, .int .u8 0, .int .u8 0, .int .u8 0, .int .u8 0, .int .u8 0, .int .u8 0, .int .u8 0, .int .u8 0, .int .u8 0, .int .u8 0, .int .u8 0, .int .u8 0, .int .u8 0, .int .u8 0, .int .u8 0, .int .u8 0, .int .u8 0, .int .u8 0, .int .u8 0, .int .u8 0, .int .u8 0, .int .u8 0, .int .u8 0, .int .u8 0, .int .u8 0, .int .u8 0, .int .u8 0, .int .u8 0, .int .u8 0, .int .u8 0, .int .u8 0] 22)) (w.heap.size + 1) 22 .u8 32 (fun _ => 0) := by
    have := holds_alloc (w.alloc (.cells (cellsOf .u64 5 f) 28)) 22 .u8 32 (fun _ => 0) _ z32
    rwa [World.size_alloc] at this
  have gr := grown_alloc (World.grownBy_alloc w (.cells (cellsOf .u64 5 f) 28) none) (.cells #[.int .u8 0, .int .u8 0, .int .u8 0, .int .u8 0, .int .u8 0, .int .u8 0, .int .u8 0, .int .u8 0, .int .u8 0, .int .u8 0, .int .u8 0, .int .u8 0, .int .u8 0, .int .u8 0, .int .u8 0, .int .u8 0, .int .u8 0, .int .u8 0, .int .u8 0, .int .u8 0, .int .u8 0, .int .u8 0, .int .u8 0, .int .u8 0, .int .u8 0, .int .u8 0, .int .u8 0, .int .u8 0, .int .u8 0, .int .u8 0, .int .u8 0, .int .u8 0] 22)
  have hv : v < 57896044618658097711785492504343953926634992332820282019728792003956564819968 := Nat.lt_trans hf.less (by decide)
  have H1 := Lib.hid (fun W => least_any hf W)
  have H2 := Lib.hid (fun W => joined_any v hv W)
  have H3 := Lib.hid (fun W => put_any v W)
  obtain ⟨S, hS⟩ : ∃ S, S = lim 8 v := ⟨_, rfl⟩
  obtain ⟨x, hx⟩ : ∃ x, x = lim 51 v := ⟨_, rfl⟩
  obtain ⟨y, hy⟩ : ∃ y, y = lim 64 v := ⟨_, rfl⟩
  rw [← hS] at H3 ⊢
  rw [← hx] at H1 H2
  rw [← hy] at H2 H3
  clear z32 hv hS hx hy hf
  obtain ⟨d, hu, hd⟩ := under_row (P := Try.prog) (T := 28) (by kernel_rfl)
  have Hu := Lib.hid hu
  clear hu
  go_enter Try.func17, Try.ntmps17
  go_upto_region 1 with fail
  generalize (w.alloc (.cells (cellsOf .u64 5 f) 28)).alloc (.cells #[.int .u8 0, .int .u8 0, .int .u8 0, .int .u8 0, .int .u8 0, .int .u8 0, .int .u8 0, .int .u8 0, .int .u8 0, .int .u8 0, .int .u8 0, .int .u8 0, .int .u8 0, .int .u8 0, .int .u8 0, .int .u8 0, .int .u8 0, .int .u8 0, .int .u8 0, .int .u8 0, .int .u8 0, .int .u8 0, .int .u8 0, .int .u8 0, .int .u8 0, .int .u8 0, .int .u8 0, .int .u8 0, .int .u8 0, .int .u8 0, .int .u8 0, .int .u8 0] 22) = w1 at *
  go_wp2_with (refine wpList_load_row rfl 28 (.tmp 1) rfl w.heap.size rfl 28 _ (0, 0) d hA.block Hu.out (by cases d <;> first | rfl | exact hd) (by rw [cellsOf_size]; kernel_rfl) ?_)
  go_at_call 38
  refine (H1.out _).mono ?_
  rintro e U ⟨rfl, g1⟩
  replace hD := hD.grown g1 (by simp)
  replace gr := grown_trans gr g1
  go_wp2_with fail
  go_at_call 39
  refine (H2.out _).mono ?_
  rintro e V ⟨rfl, g2⟩
  replace hD := hD.grown g2 (by simp)
  replace gr := grown_trans gr g2
  go_wp2_with fail
  go_at_call 37
  refine (H3.out _).mono ?_
  rintro e X ⟨rfl, g3⟩
  replace hD := hD.grown g3 (by simp)
  replace gr := grown_trans gr g3
  go_wp2_with (refine wpList_store_row rfl 22 (.tmp 2) (.tmp 6) rfl (w.heap.size + 1) _ rfl rfl 22 _ hD.block (by rw [cellsOf_size]; kernel_rfl) rfl (cellsOf_all _ _ _) ?_)
  exact bodyPost_ret (res_row rfl rfl (hD.setRow .u8 32 S) (by kernel_rfl) (by kernel_rfl)) rfl ⟨rfl, grown_setRow_new gr _ _ (Or.inl (by omega))⟩
theorem bytes_enters (args : Array Value) (w : World) : (callFunc 17 args).run Try.prog w = .ok (.enter 17 args) w := enters_of Try.func17 (by kernel_rfl) rfl args w
theorem is_eq {v u : Nat} (hv : v < pF) (hu : u < pF) : eqN 32 (lim 8 v) (lim 8 u) = (v == u) := by
  by_cases e : v = u
  · subst e
    rw [eqN_refl, beq_self_eq_true]
  · rw [show (v == u) = false by simpa using e]
    cases h : eqN 32 (lim 8 v) (lim 8 u)
    · rfl
    · exact absurd (bytes_one hv hu ((eqN_iff _ _ _).1 h)) e
theorem is_any {f g : Nat → Nat} {v u : Nat} (hf : Is5 f v) (hg : Is5 g u) (w : World) :
    Calls Try.prog 19 #[.agg (cellsOf .u64 5 f), .agg (cellsOf .u64 5 g)] w fun e w' => e = .returned (.bool (v == u)) ∧ w.grownBy w' none := by
  have hA : Holds ((w.alloc (.cells (cellsOf .u64 5 f) 28)).alloc (.cells (cellsOf .u64 5 g) 28)) w.heap.size 28 .u64 5 f := (holds_alloc w 28 .u64 5 f _ rfl).of_block (by rw [heap_alloc_old]; simp)
  have hB : Holds ((w.alloc (.cells (cellsOf .u64 5 f) 28)).alloc (.cells (cellsOf .u64 5 g) 28)) (w.heap.size + 1) 28 .u64 5 g := by
    have := holds_alloc (w.alloc (.cells (cellsOf .u64 5 f) 28)) 28 .u64 5 g _ rfl
    rwa [World.size_alloc] at this
  have gr := grown_alloc (World.grownBy_alloc w (.cells (cellsOf .u64 5 f) 28) none) (.cells (cellsOf .u64 5 g) 28)
  have H1 := Lib.hid (fun W => bytes_any hf W)
  have H2 := Lib.hid (fun W => bytes_any hg W)
  have he := is_eq hf.less hg.less
  obtain ⟨b, hb⟩ : ∃ b, b = (v == u) := ⟨_, rfl⟩
  rw [← hb] at he ⊢
  obtain ⟨x, hx⟩ : ∃ x, x = lim 8 v := ⟨_, rfl⟩
  obtain ⟨y, hy⟩ : ∃ y, y = lim 8 u := ⟨_, rfl⟩
  rw [← hx] at H1 he
  rw [← hy] at H2 he
  have HE := Lib.hid he
  clear hb hx hy he hf hg
  go_enter Try.func19, Try.ntmps19
  go_upto_region 1 with fail
  generalize (w.alloc (.cells (cellsOf .u64 5 f) 28)).alloc (.cells (cellsOf .u64 5 g) 28) = w1 at *
  refine wp_region_quiet (C := fun W => w1.grownBy W none) (by kernel_rfl) (by kernel_rfl) (grown_drew (grown_refl w1 none)) ?_
  refine wpQ_val (some 5) (v := .agg (cellsOf .u64 5 f)) rfl rfl (fun W hW => run_num (hA.grown hW (by simp)) rfl rfl) ?_
  simp only [Act.put, List.setIfInBounds_toArray, List.set_cons_succ, List.set_cons_zero]
  refine wpQ_call (some 6) 17 #[.agg (cellsOf .u64 5 f)] (v := .agg (cellsOf .u8 32 x)) rfl rfl (exec_fn1 _ _ _ rfl rfl) bytes_enters (fun W hW => (H1.out W).mono fun e w' h => ⟨h.1, grown_trans hW h.2⟩) ?_
  simp only [Act.put, List.setIfInBounds_toArray, List.set_cons_succ, List.set_cons_zero]
  refine wpQ_val (some 7) (v := .agg (cellsOf .u64 5 g)) rfl rfl (fun W hW => run_num (hB.grown hW (by simp)) rfl rfl) ?_
  simp only [Act.put, List.setIfInBounds_toArray, List.set_cons_succ, List.set_cons_zero]
  refine wpQ_call (some 8) 17 #[.agg (cellsOf .u64 5 g)] (v := .agg (cellsOf .u8 32 y)) rfl rfl (exec_fn1 _ _ _ rfl rfl) bytes_enters (fun W hW => (H2.out W).mono fun e w' h => ⟨h.1, grown_trans hW h.2⟩) ?_
  simp only [Act.put, List.setIfInBounds_toArray, List.set_cons_succ, List.set_cons_zero]
  refine wpQ_val (some 9) (v := .bool b) rfl rfl (fun W _ => by rw [← HE.out]; exact run_eql32 6 8 x y rfl rfl rfl) ?_
  simp only [Act.put, List.setIfInBounds_toArray, List.set_cons_succ, List.set_cons_zero]
  refine wpQ_val (some 4) (v := .bool b) rfl rfl (fun _ _ => rfl) ?_
  simp only [Act.put, List.setIfInBounds_toArray, List.set_cons_succ, List.set_cons_zero]
  refine wpQuiet_nil ?_
  intro W hW
  go_wp2_with fail
  go_ret
  exact ⟨rfl, grown_trans gr hW⟩

end Go.Proofs.Ytpnddojcihdniaa
