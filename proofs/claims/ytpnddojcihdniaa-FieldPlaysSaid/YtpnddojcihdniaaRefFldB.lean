/-
  The reference's sums, differences, products.
-/
import Derived.Test.YtpnddojcihdniaaRefFldA
import Derived.Test.YtpnddojcihdniaaRefFldP
namespace Go.Proofs.Ytpnddojcihdniaa
open Go.RowKit

set_option maxRecDepth 100000
set_option maxHeartbeats 4000000

/-- A number, as the reference has it: its 16 parts. -/
structure NumAt (w : World) (b v : Nat) : Prop where
  fill : FillU w b 16 (lim 16 v)
  less : v < pF
theorem NumAt.grown {w w' : World} {b v : Nat} (h : NumAt w b v) (g : w.grownBy w' none) : NumAt w' b v := ⟨h.fill.grown (by decide) g (by simp), h.less⟩
theorem NumAt.lt {w : World} {b v : Nat} (h : NumAt w b v) : b < w.heap.size := h.fill.lt (by decide)
/-- A number is handed back. -/
structure GaveNum (w : World) (v : Nat) (e : Ending) (w' : World) : Prop where
  ex : ∃ b, e = .returned (.slice (some ⟨b, 0, none⟩) 16 16) ∧ w.heap.size ≤ b ∧ NumAt w' b v
  gr : w.grownBy w' none
theorem GaveU.num {w : World} {v : Nat} {e : Ending} {w' : World} (h : GaveU w 16 (lim 16 v) e w') (hv : v < pF) : GaveNum w v e w' := by
  obtain ⟨⟨b, h1, h2, h3⟩, h4⟩ := h
  exact ⟨⟨b, h1, h2, ⟨h3, hv⟩⟩, h4⟩
theorem fAdd_lt (v u : Nat) : fAdd v u < pF := Nat.mod_lt _ pF_pos
theorem fSub_lt (v u : Nat) : fSub v u < pF := Nat.mod_lt _ pF_pos
theorem fMul_lt (v u : Nat) : fMul v u < pF := Nat.mod_lt _ pF_pos

theorem refAdd_any (bx by' v u : Nat) (w : World) (hx : NumAt w bx v) (hy : NumAt w by' u) :
    Calls Try.prog 10 #[.slice (some ⟨bx, 0, none⟩) 16 16, .slice (some ⟨by', 0, none⟩) 16 16] w (GaveNum w (fAdd v u)) := by
  have hmod := add_parts v u hx.less hy.less
  have HX := Lib.hid hx
  have HY := Lib.hid hy
  obtain ⟨P, hP⟩ : ∃ P : Nat → Nat, P = fun i => lim 16 v i + lim 16 u i := ⟨_, rfl⟩
  rw [← hP] at hmod
  have HPe := Lib.hid hP
  have HP := Lib.hid (show ∀ k, k < 16 → P k ≤ 68719476736 from fun k _ => by
    have h1 := lim16_lt v k
    have h2 := lim16_lt u k
    rw [hP]
    show lim 16 v k + lim 16 u k ≤ _
    omega)
  have HV := Lib.hid hmod
  suffices hsuf : Calls Try.prog 10 #[.slice (some ⟨bx, 0, none⟩) 16 16, .slice (some ⟨by', 0, none⟩) 16 16] w (GaveU w 16 (lim 16 (fAdd v u))) from hsuf.mono fun e w' h => h.num (fAdd_lt v u)
  obtain ⟨S, hS⟩ : ∃ S, S = lim 16 (fAdd v u) := ⟨_, rfl⟩
  rw [← hS]
  have HS := Lib.hid hS
  clear hP hmod hS
  obtain ⟨cs, hr, hF⟩ := makeU_any 30 (by kernel_rfl) 16 (by decide) w
  have hr2 : (Instr.makeSlice 30 (.int .i64 16) (.int .i64 16)).run Try.prog w = .ok (.slice (some ⟨w.heap.size, 0, none⟩) 16 16) (w.alloc (.cells cs 25)) := hr
  have gr := World.grownBy_alloc w (.cells cs 25) none
  have hF0 := hF.congr (g := fun j => if j < 0 then P j else 0) (fun j _ => (if_neg (Nat.not_lt_zero j)).symm)
  have hx1 := hx.grown gr
  have hy1 := hy.grown gr
  clear hr hF hx hy
  go_enter Try.func10, Try.ntmps10
  go_wp2_with fail
  clear hr2
  generalize w.alloc (.cells cs 25) = w1 at *
  go_loopw [6] (fun u6 wr => ∃ i : Nat, i ≤ 16 ∧ u6 = .int .i64 i ∧ w.grownBy wr none ∧ FillU wr w.heap.size 16 (fun j => if j < i then P j else 0)) (fun u6 _ => 16 - (intOf u6).toNat)
  case atStart => exact ⟨0, by omega, rfl, gr, hF0⟩
  case round =>
    clear gr hF0 hx1 hy1
    obtain ⟨i, hi, rfl, hgr, hF⟩ := hrel
    by_cases hlt : i < 16
    · have j1 : (i : Int) < 16 := by omega
      obtain ⟨V, hV⟩ : ∃ V, V = wr.drew := ⟨_, rfl⟩
      have gV : wr.grownBy V none := by rw [hV]; exact grown_drew (grown_refl wr none)
      have hFV := hF.grown (by decide) gV (by simp)
      have hgV := grown_trans hgr gV
      have c0 := (HX.out.grown hgV).fill.cell i hlt
      have c1 := (HY.out.grown hgV).fill.cell i hlt
      have c2 := hFV.cell i hlt
      rw [if_neg (Nat.lt_irrefl i)] at c2
      have f2 := hFV.free i
      have h1 := lim16_lt v i
      have h2 := lim16_lt u i
      have hs : P i = lim 16 v i + lim 16 u i := by rw [HPe.out]
      have hF2 := (hFV.set i (P i) hlt).congr (g := fun j => if j < i + 1 then P j else 0) (fun j hj => by
        by_cases e : j = i
        · subst e; rw [upd_same, if_pos (by omega)]
        · rw [upd_other _ _ _ _ e]
          by_cases e2 : j < i
          · rw [if_pos e2, if_pos (by omega)]
          · rw [if_neg e2, if_neg (by omega)])
      have hg2 := grown_setCell_new hgV ⟨w.heap.size, i, none⟩ (.int .u64 (P i : Nat)) (Or.inl (Nat.le_refl _))
      generalize P i = s at *
      generalize lim 16 v i = xi at *
      generalize lim 16 u i = yi at *
      have z1 : IntKind.u64.wrap ((xi : Int) + (yi : Int)) = (s : Int) := by rw [IntKind.wrap_u64]; omega
      have HF := Lib.hid hF2
      have HG := Lib.hid hg2
      have HI := Lib.hid hlt
      have HVe := Lib.hid hV.symm
      have Z1 := Lib.hid z1
      clear hi hV gV hFV hgV h1 h2 hs hF2 hg2 hF hgr hlt z1
      go_wp2_with fail
      refine wp_region_still_tail 12 (by kernel_rfl) (by kernel_rfl) ?_
      change wpStill _ _ (World.drew wr) (fun a' => wpList _ _ _ _ a' (World.drew wr)) _ _
      rw [HVe.out]
      simp only [List.take_succ_cons, List.take_zero, List.drop_succ_cons, List.drop_zero]
      repeat still_step
      refine wpStill_nil ?_
      simp only [Z1.out]
      go_wp2_with fail
      go_roundw
      case rel => exact ⟨i + 1, by have := HI.out; omega, by go_num, HG.out, HF.out⟩
      case measure =>
        have := HI.out
        simp [intOf]
        try omega
    · obtain rfl : i = 16 := by omega
      replace hF := hF.congr (g := P) (fun j hj => if_pos hj)
      have hR := reduce_any 16 (Or.inl rfl) P HP.out w.heap.size wr hF
      rw [HV.out, ← HS.out] at hR
      have HR := Lib.hid hR
      have HSz := Lib.hid hgr.size
      clear hR hF hlt hi
      go_wp2_with fail
      go_at_call 31
      refine HR.out.mono ?_
      rintro e U ⟨⟨b, rfl, hb, hFb⟩, gU⟩
      have hsz := HSz.out
      go_wp2_with fail
      go_ret
      exact ⟨⟨b, rfl, by omega, hFb⟩, grown_trans hgr gU⟩

theorem refSub_any (bx by' v u : Nat) (w : World) (hx : NumAt w bx v) (hy : NumAt w by' u) :
    Calls Try.prog 12 #[.slice (some ⟨bx, 0, none⟩) 16 16, .slice (some ⟨by', 0, none⟩) 16 16] w (GaveNum w (fSub v u)) := by
  have hmod := sub_parts v u hx.less hy.less
  obtain ⟨P, hP⟩ : ∃ P : Nat → Nat, P = dff (lim 16 v) (lim 16 u) := ⟨_, rfl⟩
  rw [← hP] at hmod
  have HPe := Lib.hid hP
  have HP := Lib.hid (show ∀ k, k < 16 → P k ≤ 68719476736 from fun k _ => by
    rw [hP]
    exact Nat.le_trans (Nat.le_of_lt (dff_le (lim 16 v) (lim 16 u) (fun i => lim16_lt v i) k)) (by decide))
  have HV := Lib.hid hmod
  suffices hsuf : Calls Try.prog 12 #[.slice (some ⟨bx, 0, none⟩) 16 16, .slice (some ⟨by', 0, none⟩) 16 16] w (GaveU w 16 (lim 16 (fSub v u))) from hsuf.mono fun e w' h => h.num (fSub_lt v u)
  obtain ⟨S, hS⟩ : ∃ S, S = lim 16 (fSub v u) := ⟨_, rfl⟩
  rw [← hS]
  have HS := Lib.hid hS
  clear hP hmod hS
  have hp := prime_any w
  have HPr := Lib.hid hp
  clear hp
  go_enter Try.func12, Try.ntmps12
  go_wp2_with fail
  go_at_call 33
  refine HPr.out.mono ?_
  rintro e W ⟨⟨bp, rfl, hbp, hPr⟩, gW⟩
  have hx1 := hx.grown gW
  have hy1 := hy.grown gW
  clear HPr
  obtain ⟨cs, hr, hF⟩ := makeU_any 30 (by kernel_rfl) 16 (by decide) W
  have hr2 : (Instr.makeSlice 30 (.int .i64 16) (.int .i64 16)).run Try.prog W = .ok (.slice (some ⟨W.heap.size, 0, none⟩) 16 16) (W.alloc (.cells cs 25)) := hr
  have gr := World.grownBy_alloc W (.cells cs 25) none
  have hF0 := hF.congr (g := fun j => if j < 0 then P j else 0) (fun j _ => (if_neg (Nat.not_lt_zero j)).symm)
  have HX := Lib.hid hx1
  have HY := Lib.hid hy1
  have HPm := Lib.hid hPr
  clear hr hF hx hy hx1 hy1 hPr
  go_wp2_with fail
  clear hr2
  generalize W.alloc (.cells cs 25) = w1 at *
  go_loopw [7, 8, 9] (fun u7 u8 _ wr => ∃ i : Nat, i ≤ 16 ∧ u8 = .int .i64 i ∧ u7 = .int .u64 (dbo (lim 16 v) (lim 16 u) i : Nat) ∧ W.grownBy wr none ∧ FillU wr W.heap.size 16 (fun j => if j < i then P j else 0)) (fun _ u8 _ _ => 16 - (intOf u8).toNat)
  case atStart => exact ⟨0, by omega, rfl, rfl, gr, hF0⟩
  case round =>
    clear gr hF0
    obtain ⟨i, hi, rfl, rfl, hgr, hF⟩ := hrel
    by_cases hlt : i < 16
    · have j1 : (i : Int) < 16 := by omega
      have c0 := (HX.out.grown hgr).fill.cell i hlt
      have c1 := (HY.out.grown hgr).fill.cell i hlt
      have c2 := (HPm.out.grown (by decide) hgr (by simp)).cell i hlt
      have h1 := lim16_lt v i
      have h2 := lim16_lt u i
      have h3 := pL_lt i
      have h4 : dbo (lim 16 v) (lim 16 u) (i + 1) = if 65536 + lim 16 v i + pL i - lim 16 u i - dbo (lim 16 v) (lim 16 u) i < 65536 then 1 else 0 := rfl
      have h5 := dbo_le (lim 16 v) (lim 16 u) i
      have hs : P i = 65536 + lim 16 v i + pL i - lim 16 u i - dbo (lim 16 v) (lim 16 u) i - 65536 * (1 - dbo (lim 16 v) (lim 16 u) (i + 1)) := by rw [HPe.out]; rfl
      have hF2 := fun V (h : FillU V W.heap.size 16 (fun j => if j < i then P j else 0)) => (h.set i (P i) hlt).congr (g := fun j => if j < i + 1 then P j else 0) (fun j hj => by
        by_cases e : j = i
        · subst e; rw [upd_same, if_pos (by omega)]
        · rw [upd_other _ _ _ _ e]
          by_cases e2 : j < i
          · rw [if_pos e2, if_pos (by omega)]
          · rw [if_neg e2, if_neg (by omega)])
      obtain ⟨a0, ha0⟩ : ∃ a, a = dbo (lim 16 v) (lim 16 u) i := ⟨_, rfl⟩
      obtain ⟨a1, ha1⟩ : ∃ a, a = dbo (lim 16 v) (lim 16 u) (i + 1) := ⟨_, rfl⟩
      rw [← ha0] at h4 h5 hs ⊢
      rw [← ha1] at h4 hs
      obtain ⟨t, ht⟩ : ∃ t, t = P i := ⟨_, rfl⟩
      rw [← ht] at hs
      simp only [← ht] at hF2
      obtain ⟨d, hd⟩ : ∃ d, d = 65536 + lim 16 v i + pL i - lim 16 u i - a0 := ⟨_, rfl⟩
      rw [← hd] at h4 hs
      generalize lim 16 v i = xi at *
      generalize lim 16 u i = yi at *
      generalize pL i = pi at *
      have z1 : IntKind.u64.wrap (IntKind.u64.wrap (IntKind.u64.wrap (IntKind.u64.wrap (65536 + (xi : Int)) + (pi : Int)) - (yi : Int)) - (a0 : Int)) = (d : Int) := by
        rw [IntKind.wrap_u64, IntKind.wrap_u64, IntKind.wrap_u64, IntKind.wrap_u64]
        omega
      have hdl : d < 262144 := by omega
      have HA := Lib.hid ha1
      have HF := Lib.hid hF
      have HFV := Lib.hid hF2
      have HG := Lib.hid hgr
      have HI := Lib.hid hlt
      have Z1 := Lib.hid z1
      by_cases hd6 : d < 65536
      · rw [if_pos hd6] at h4
        have jd : (d : Int) < 65536 := by omega
        have et : t = d := by rw [hs, h4]; rfl
        have z2 : IntKind.u64.wrap (d : Int) = (t : Int) := by rw [IntKind.wrap_u64]; omega
        have H4 := Lib.hid h4
        clear h1 h2 h3 h4 h5 hs ha0 ha1 ht hd z1 hdl hd6 et hF2 hF hgr hlt hi
        go_wp2_with fail
        go_quiet (fail)
        simp only [Z1.out]
        obtain ⟨V, hV⟩ : ∃ V, V = wr.drewN nq := ⟨_, rfl⟩
        have hF1 : FillU V W.heap.size 16 (fun j => if j < i then P j else 0) := by rw [hV]; exact HF.out.drewN nq
        have hg1 : W.grownBy V none := by rw [hV]; exact grown_drewN HG.out nq
        rw [← hV]
        have c3 := hF1.cell i HI.out
        have f3 := hF1.free i
        rw [if_neg (Nat.lt_irrefl i)] at c3
        have HF2 := Lib.hid (HFV.out V hF1)
        have HG2 := Lib.hid (grown_setCell_new hg1 ⟨W.heap.size, i, none⟩ (.int .u64 (t : Nat)) (Or.inl (Nat.le_refl _)))
        clear hV hF1 hg1 c0 c1 c2
        go_wp2_with fail
        go_roundw
        case rel => exact ⟨i + 1, by have := HI.out; omega, by go_num, by rw [← HA.out, H4.out]; rfl, HG2.out, HF2.out⟩
        case measure =>
          have := HI.out
          simp [intOf]
          try omega
      · rw [if_neg hd6] at h4
        have jd : decide ((d : Int) < 65536) = false := by rw [decide_eq_false_iff_not]; omega
        have jd2 : decide (d < 65536) = false := decide_eq_false hd6
        have et : t = d - 65536 := by rw [hs, h4]
        have z2 : IntKind.u64.wrap ((d : Int) - 65536) = (t : Int) := by rw [IntKind.wrap_u64]; omega
        have H4 := Lib.hid h4
        clear h1 h2 h3 h4 h5 hs ha0 ha1 ht hd z1 hdl hd6 et hF2 hF hgr hlt hi
        go_wp2_with fail
        go_quiet (fail)
        simp only [Z1.out]
        obtain ⟨V, hV⟩ : ∃ V, V = wr.drewN nq := ⟨_, rfl⟩
        have hF1 : FillU V W.heap.size 16 (fun j => if j < i then P j else 0) := by rw [hV]; exact HF.out.drewN nq
        have hg1 : W.grownBy V none := by rw [hV]; exact grown_drewN HG.out nq
        rw [← hV]
        have c3 := hF1.cell i HI.out
        have f3 := hF1.free i
        rw [if_neg (Nat.lt_irrefl i)] at c3
        have HF2 := Lib.hid (HFV.out V hF1)
        have HG2 := Lib.hid (grown_setCell_new hg1 ⟨W.heap.size, i, none⟩ (.int .u64 (t : Nat)) (Or.inl (Nat.le_refl _)))
        clear hV hF1 hg1 c0 c1 c2
        go_wp2_with fail
        go_roundw
        case rel => exact ⟨i + 1, by have := HI.out; omega, by go_num, by rw [← HA.out, H4.out]; rfl, HG2.out, HF2.out⟩
        case measure =>
          have := HI.out
          simp [intOf]
          try omega
    · obtain rfl : i = 16 := by omega
      replace hF := hF.congr (g := P) (fun j hj => if_pos hj)
      have hR := reduce_any 16 (Or.inl rfl) P HP.out W.heap.size wr hF
      rw [HV.out, ← HS.out] at hR
      have HR := Lib.hid hR
      have HSz := Lib.hid hgr.size
      clear hR hF hlt hi
      go_wp2_with fail
      go_at_call 31
      refine HR.out.mono ?_
      rintro e U ⟨⟨b, rfl, hb, hFb⟩, gU⟩
      have hsz := HSz.out
      go_wp2_with fail
      go_ret
      have hws := gW.size
      exact ⟨⟨b, rfl, by omega, hFb⟩, grown_trans gW (grown_trans hgr gU)⟩

theorem refMul_any (bx by' v u : Nat) (w : World) (hx : NumAt w bx v) (hy : NumAt w by' u) :
    Calls Try.prog 14 #[.slice (some ⟨bx, 0, none⟩) 16 16, .slice (some ⟨by', 0, none⟩) 16 16] w (GaveNum w (fMul v u)) := by
  have hmod := mul_parts16 v u hx.less hy.less
  have HX := Lib.hid hx
  have HY := Lib.hid hy
  have HB := Lib.hid (rowM_le (lim 16 v) (lim 16 u) (lim16_lt v) (lim16_lt u))
  have HCl := Lib.hid (cellM_le (lim 16 v) (lim 16 u) (lim16_lt v) (lim16_lt u))
  have HP := Lib.hid (show ∀ k, k < 32 → rowM (lim 16 v) (lim 16 u) 16 k ≤ 68719476736 from fun k _ => Nat.le_trans (HB.out 16 k) (by decide))
  have HV := Lib.hid hmod
  suffices hsuf : Calls Try.prog 14 #[.slice (some ⟨bx, 0, none⟩) 16 16, .slice (some ⟨by', 0, none⟩) 16 16] w (GaveU w 16 (lim 16 (fMul v u))) from hsuf.mono fun e w' h => h.num (fMul_lt v u)
  obtain ⟨S, hS⟩ : ∃ S, S = lim 16 (fMul v u) := ⟨_, rfl⟩
  rw [← hS]
  have HS := Lib.hid hS
  clear hmod hS
  obtain ⟨cs, hr, hF⟩ := makeU_any 30 (by kernel_rfl) 32 (by decide) w
  have hr2 : (Instr.makeSlice 30 (.int .i64 32) (.int .i64 32)).run Try.prog w = .ok (.slice (some ⟨w.heap.size, 0, none⟩) 32 32) (w.alloc (.cells cs 25)) := hr
  have gr := World.grownBy_alloc w (.cells cs 25) none
  have hF0 : FillU (w.alloc (.cells cs 25)) w.heap.size 32 (rowM (lim 16 v) (lim 16 u) 0) := hF
  clear hr hF hx hy
  obtain ⟨x, hx⟩ : ∃ x, x = lim 16 v := ⟨_, rfl⟩
  obtain ⟨y, hy⟩ : ∃ y, y = lim 16 u := ⟨_, rfl⟩
  rw [← hx, ← hy] at HB HCl HP HV hF0
  have HXe := Lib.hid hx
  have HYe := Lib.hid hy
  clear hx hy
  go_enter Try.func14, Try.ntmps14
  go_wp2_with fail
  clear hr2
  generalize w.alloc (.cells cs 25) = w1 at *
  go_loopw [6, 7] (fun u6 _ wr => ∃ i : Nat, i ≤ 16 ∧ u6 = .int .i64 i ∧ w.grownBy wr none ∧ FillU wr w.heap.size 32 (rowM x y i)) (fun u6 _ _ => 16 - (intOf u6).toNat)
  case atStart => exact ⟨0, by omega, rfl, gr, hF0⟩
  case round =>
    clear gr hF0
    obtain ⟨i, hi, rfl, hgr, hF⟩ := hrel
    by_cases hlt : i < 16
    · have j1 : (i : Int) < 16 := by omega
      have HI := Lib.hid hlt
      have hF0 : FillU wr w.heap.size 32 (cellM x y i (rowM x y i) 0) := hF
      clear hi hlt hF
      go_wp2_with fail
      go_loopw [7] (fun u7 wr => ∃ j : Nat, j ≤ 16 ∧ u7 = .int .i64 j ∧ w.grownBy wr none ∧ FillU wr w.heap.size 32 (cellM x y i (rowM x y i) j)) (fun u7 _ => 16 - (intOf u7).toNat)
      case atStart => exact ⟨0, by omega, rfl, hgr, hF0⟩
      case round =>
        clear hgr hF0
        obtain ⟨j, hj, rfl, hgr, hF⟩ := hrel
        by_cases hlt : j < 16
        · have j2 : (j : Int) < 16 := by omega
          obtain ⟨k, hk⟩ : ∃ k, k = i + j := ⟨_, rfl⟩
          have hk32 : k < 32 := by have := HI.out; omega
          have zk : IntKind.i64.wrap ((i : Int) + (j : Int)) = (k : Int) := by have := HI.out; rw [IntKind.wrap_i64]; omega
          have zk2 : (i : Int) + (j : Int) = (k : Int) := by omega
          have zk3 : IntKind.i64.wrap (k : Int) = (k : Int) := by rw [IntKind.wrap_i64]; omega
          have k32 : (k : Int) < 32 := by omega
          obtain ⟨V, hV⟩ : ∃ V, V = wr.drew := ⟨_, rfl⟩
          have gV : wr.grownBy V none := by rw [hV]; exact grown_drew (grown_refl wr none)
          have hFV := hF.grown (by decide) gV (by simp)
          have hgV := grown_trans hgr gV
          have c0 := (HX.out.grown hgV).fill.cell i HI.out
          have c1 := (HY.out.grown hgV).fill.cell j hlt
          rw [← HXe.out] at c0
          rw [← HYe.out] at c1
          have c2 := hFV.cell k hk32
          have f2 := hFV.free k
          have hx1 : x i ≤ 65535 := by rw [HXe.out]; exact Nat.le_of_lt_succ (lim16_lt v i)
          have hy1 : y j ≤ 65535 := by rw [HYe.out]; exact Nat.le_of_lt_succ (lim16_lt u j)
          have hxy : x i * y j ≤ 4294836225 := Nat.mul_le_mul hx1 hy1
          have hcl := (HCl.out i (rowM x y i) j k).1
          have hcb := HB.out i k
          have hcs : (if k < i + j then 4294836225 else 0) ≤ 4294836225 := by split <;> decide
          have hib : i * 4294836225 ≤ 16 * 4294836225 := Nat.mul_le_mul_right _ (Nat.le_of_lt HI.out)
          have hF2 := (hFV.set k (cellM x y i (rowM x y i) j k + x i * y j) hk32).congr (g := cellM x y i (rowM x y i) (j + 1)) (fun t _ => by rw [hk]; rfl)
          have hg2 := grown_setCell_new hgV ⟨w.heap.size, k, none⟩ (.int .u64 (cellM x y i (rowM x y i) j k + x i * y j : Nat)) (Or.inl (Nat.le_refl _))
          obtain ⟨s, hs⟩ : ∃ s, s = cellM x y i (rowM x y i) j k + x i * y j := ⟨_, rfl⟩
          rw [← hs] at hF2 hg2
          have hck : cellM x y i (rowM x y i) j k ≤ 17 * 4294836225 := by omega
          generalize cellM x y i (rowM x y i) j k = ck at *
          generalize x i = xi at *
          generalize y j = yj at *
          have z1 : IntKind.u64.wrap ((ck : Int) + IntKind.u64.wrap ((xi : Int) * (yj : Int))) = (s : Int) := by
            rw [mulc, w64 _ (by omega), addc, w64 _ (by omega), hs]
          have HF := Lib.hid hF2
          have HG := Lib.hid hg2
          have HJ := Lib.hid hlt
          have HVe := Lib.hid hV.symm
          have Z1 := Lib.hid z1
          clear hj hk hk32 hV gV hFV hgV hx1 hy1 hxy hcl hcb hcs hib hF2 hg2 hs hck hF hgr hlt z1
          go_wp2_with fail
          refine wp_region_still_tail 21 (by kernel_rfl) (by kernel_rfl) ?_
          change wpStill _ _ (World.drew wr) (fun a' => wpList _ _ _ _ a' (World.drew wr)) _ _
          rw [HVe.out]
          simp only [List.take_succ_cons, List.take_zero, List.drop_succ_cons, List.drop_zero]
          repeat still_step
          refine wpStill_nil ?_
          simp only [Z1.out]
          clear zk zk2 zk3
          go_wp2_with fail
          go_roundw
          case rel => exact ⟨j + 1, by have := HJ.out; omega, by go_num, HG.out, HF.out⟩
          case measure =>
            have := HJ.out
            simp [intOf]
            try omega
        · obtain rfl : j = 16 := by omega
          have hF2 : FillU wr w.heap.size 32 (rowM x y (i + 1)) := hF
          have HF := Lib.hid hF2
          clear hlt hj hF hF2
          go_wp2_with fail
          go_roundw
          case rel => exact ⟨i + 1, by have := HI.out; omega, by go_num, hgr, HF.out⟩
          case measure =>
            have := HI.out
            simp [intOf]
            try omega
    · obtain rfl : i = 16 := by omega
      have hR := reduce_any 32 (Or.inr rfl) (rowM x y 16) HP.out w.heap.size wr hF
      rw [HV.out, ← HS.out] at hR
      have HR := Lib.hid hR
      have HSz := Lib.hid hgr.size
      clear hR hF hlt hi
      go_wp2_with fail
      go_at_call 31
      refine HR.out.mono ?_
      rintro e U ⟨⟨b, rfl, hb, hFb⟩, gU⟩
      have hsz := HSz.out
      go_wp2_with fail
      go_ret
      exact ⟨⟨b, rfl, by omega, hFb⟩, grown_trans hgr gU⟩

end Go.Proofs.Ytpnddojcihdniaa
