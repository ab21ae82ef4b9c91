/-
  curve's Shared and Public.
-/
import Derived.Test.YtpnddojcihdniaaFieldRef
import Derived.Test.YtpnddojcihdniaaFieldMath
import Derived.Test.YtpnddojcihdniaaRefFldA
import Derived.Test.YtpnddojcihdniaaOrd
import Derived.Test.YtpnddojcihdniaaOwnR
import Derived.Great.Frames
import Derived.Test.YtpnddojcihdniaaFieldInv
import Derived.Test.YtpnddojcihdniaaKnown06
import Derived.Test.YtpnddojcihdniaaTriOrd
import Derived.Test.YtpnddojcihdniaaRunB32
import Derived.Test.YtpnddojcihdniaaRelKit
import Derived.Deep.DeepCutAuto
import Derived.Test.YtpnddojcihdniaaRelAll
import Derived.Test.YtpnddojcihdniaaCurveLeaf
import Derived.Test.YtpnddojcihdniaaRd
import Derived.Test.YtpnddojcihdniaaInRound
import Derived.Test.YtpnddojcihdniaaWideRow
import Derived.Test.YtpnddojcihdniaaFieldCar
import Derived.StillTailTactics
import Derived.BigQuiet
import Derived.Test.YtpnddojcihdniaaCurveM
namespace Go.Proofs.Ytpnddojcihdniaa

set_option maxRecDepth 100000

theorem val_num (v : Nat) (hv : v < pF) : val 16 (lim 16 v) 16 = v := by
  have := pF_lt
  rw [val_lim, show 16 * 16 = 256 from rfl, Nat.mod_eq_of_lt]
  have h : (2 : Nat) ^ 255 < 2 ^ 256 := by decide
  omega
theorem lim16_lt (v i : Nat) : lim 16 v i < 65536 := lim_lt 16 v i
theorem add_parts (v u : Nat) (hv : v < pF) (hu : u < pF) : val 16 (fun i => lim 16 v i + lim 16 u i) 16 % pF = fAdd v u := by
  rw [val_add, val_num v hv, val_num u hu]
  rfl
theorem sub_parts (v u : Nat) (hv : v < pF) (hu : u < pF) : val 16 (dff (lim 16 v) (lim 16 u)) 16 % pF = fSub v u := by
  rw [val_sub _ _ (fun i => lim16_lt u i) (by rw [val_num u hu]; exact hu), val_num v hv, val_num u hu]
  rfl
/-- Products, one at a time. -/
def cellM (x y : Nat → Nat) (i : Nat) (base : Nat → Nat) : Nat → Nat → Nat
  | 0 => base
  | j + 1 => upd (cellM x y i base j) (i + j) (cellM x y i base j (i + j) + x i * y j)
def rowM (x y : Nat → Nat) : Nat → Nat → Nat
  | 0 => fun _ => 0
  | i + 1 => cellM x y i (rowM x y i) 16
theorem cellM_val (x y : Nat → Nat) (i : Nat) (base : Nat → Nat) : ∀ j, i + j ≤ 32 → val 16 (cellM x y i base j) 32 = val 16 base 32 + x i * 2 ^ (16 * i) * val 16 y j
  | 0, _ => by
    show val 16 base 32 = val 16 base 32 + _ * 0
    rw [Nat.mul_zero, Nat.add_zero]
  | j + 1, h => by
    have ih := cellM_val x y i base j (by omega)
    have h1 := val_upd 16 (cellM x y i base j) (i + j) (cellM x y i base j (i + j) + x i * y j) 32 (by omega)
    show val 16 (upd (cellM x y i base j) (i + j) (cellM x y i base j (i + j) + x i * y j)) 32 = val 16 base 32 + x i * 2 ^ (16 * i) * (val 16 y j + y j * 2 ^ (16 * j))
    rw [Nat.mul_add, ← Nat.add_assoc, ← ih]
    rw [Nat.add_mul] at h1
    have h2 : x i * 2 ^ (16 * i) * (y j * 2 ^ (16 * j)) = x i * y j * 2 ^ (16 * (i + j)) := by rw [Nat.mul_mul_mul_comm, ← Nat.pow_add, Nat.mul_add]
    rw [h2]
    omega
theorem rowM_val (x y : Nat → Nat) : ∀ i, i ≤ 16 → val 16 (rowM x y i) 32 = val 16 x i * val 16 y 16
  | 0, _ => by
    show val 16 (fun _ => 0) 32 = 0 * _
    rw [val_zero, Nat.zero_mul]
  | i + 1, h => by
    show val 16 (cellM x y i (rowM x y i) 16) 32 = (val 16 x i + x i * 2 ^ (16 * i)) * _
    rw [cellM_val x y i _ 16 (by omega), rowM_val x y i (by omega), Nat.add_mul]
theorem cellM_le (x y : Nat → Nat) (hx : ∀ i, x i < 65536) (hy : ∀ i, y i < 65536) (i : Nat) (base : Nat → Nat) : ∀ j k, cellM x y i base j k ≤ base k + (if k < i + j then 4294836225 else 0) ∧ (i + j ≤ k → cellM x y i base j k = base k)
  | 0, k => ⟨Nat.le_add_right _ _, fun _ => rfl⟩
  | j + 1, k => by
    have ih := cellM_le x y hx hy i base j k
    have hm : x i * y j ≤ 4294836225 := Nat.mul_le_mul (show x i ≤ 65535 from Nat.le_of_lt_succ (hx i)) (show y j ≤ 65535 from Nat.le_of_lt_succ (hy j))
    show upd (cellM x y i base j) (i + j) (cellM x y i base j (i + j) + x i * y j) k ≤ _ ∧ (_ → upd (cellM x y i base j) (i + j) (cellM x y i base j (i + j) + x i * y j) k = _)
    by_cases e : k = i + j
    · subst e
      have h2 := ih.2 (Nat.le_refl _)
      rw [upd_same, h2, if_pos (by omega)]
      exact ⟨by omega, fun h => absurd h (by omega)⟩
    · rw [upd_other _ _ _ _ e]
      refine ⟨?_, fun h => ih.2 (by omega)⟩
      by_cases e2 : k < i + j
      · have := ih.1
        rw [if_pos e2] at this
        rw [if_pos (by omega)]
        exact this
      · have := ih.1
        rw [if_neg e2] at this
        exact Nat.le_trans this (Nat.add_le_add_left (Nat.zero_le _) _)
theorem rowM_le (x y : Nat → Nat) (hx : ∀ i, x i < 65536) (hy : ∀ i, y i < 65536) : ∀ i k, rowM x y i k ≤ i * 4294836225
  | 0, _ => Nat.zero_le _
  | i + 1, k => by
    have h1 := (cellM_le x y hx hy i (rowM x y i) 16 k).1
    have h2 := rowM_le x y hx hy i k
    show cellM x y i (rowM x y i) 16 k ≤ _
    rw [Nat.add_mul]
    have h3 : (if k < i + 16 then 4294836225 else 0) ≤ 4294836225 := by split <;> decide
    omega
theorem mul_parts16 (v u : Nat) (hv : v < pF) (hu : u < pF) : val 16 (rowM (lim 16 v) (lim 16 u) 16) 32 % pF = fMul v u := by
  rw [rowM_val _ _ 16 (Nat.le_refl _), val_num v hv, val_num u hu]
  rfl
end Go.Proofs.Ytpnddojcihdniaa
namespace Go.Proofs.Ytpnddojcihdniaa
open Go.RowKit

set_option maxRecDepth 100000
set_option maxHeartbeats 4000000

/-- A number, as the reference has it: its 16 parts. -/
structure NumAt (w : World) (b v : Nat) : Prop where
  fill : FillU w b 16 (lim 16 v)
  less : v < pF
theorem NumAt.grown {w w' : World} {b v : Nat} (h : NumAt w b v) (g : w.grownBy w' none) : NumAt w' b v := ⟨h.fill.grown (by decide) g (by simp), h.less⟩
theorem NumAt.lt {w : World} {b v : Nat} (h : NumAt w b v) : b < w.heap.size := h.fill.lt (by decide)
/-- A number is handed back. -/
structure GaveNum (w : World) (v : Nat) (e : Ending) (w' : World) : Prop where
  ex : ∃ b, e = .returned (.slice (some ⟨b, 0, none⟩) 16 16) ∧ w.heap.size ≤ b ∧ NumAt w' b v
  gr : w.grownBy w' none
theorem GaveU.num {w : World} {v : Nat} {e : Ending} {w' : World} (h : GaveU w 16 (lim 16 v) e w') (hv : v < pF) : GaveNum w v e w' := by
  obtain ⟨⟨b, h1, h2, h3⟩, h4⟩ := h
  exact ⟨⟨b, h1, h2, ⟨h3, hv⟩⟩, h4⟩
theorem fAdd_lt (v u : Nat) : fAdd v u < pF := Nat.mod_lt _ pF_pos
theorem fSub_lt (v u : Nat) : fSub v u < pF := Nat.mod_lt _ pF_pos
theorem fMul_lt (v u : Nat) : fMul v u < pF := Nat.mod_lt _ pF_pos

theorem refAdd_any (bx by' v u : Nat) (w : World) (hx : NumAt w bx v) (hy : NumAt w by' u) :
    Calls Try.prog 10 #[.slice (some ⟨bx, 0, none⟩) 16 16, .slice (some ⟨by', 0, none⟩) 16 16] w (GaveNum w (fAdd v u)) := by
  have hmod := add_parts v u hx.less hy.less
  have HX := Lib.hid hx
  have HY := Lib.hid hy
  obtain ⟨P, hP⟩ : ∃ P : Nat → Nat, P = fun i => lim 16 v i + lim 16 u i := ⟨_, rfl⟩
  rw [← hP] at hmod
  have HPe := Lib.hid hP
  have HP := Lib.hid (show ∀ k, k < 16 → P k ≤ 68719476736 from fun k _ => by
    have h1 := lim16_lt v k
    have h2 := lim16_lt u k
    rw [hP]
    show lim 16 v k + lim 16 u k ≤ _
    omega)
  have HV := Lib.hid hmod
  suffices hsuf : Calls Try.prog 10 #[.slice (some ⟨bx, 0, none⟩) 16 16, .slice (some ⟨by', 0, none⟩) 16 16] w (GaveU w 16 (lim 16 (fAdd v u))) from hsuf.mono fun e w' h => h.num (fAdd_lt v u)
  obtain ⟨S, hS⟩ : ∃ S, S = lim 16 (fAdd v u) := ⟨_, rfl⟩
  rw [← hS]
  have HS := Lib.hid hS
  clear hP hmod hS
  obtain ⟨cs, hr, hF⟩ := makeU_any 30 (by kernel_rfl) 16 (by decide) w
  have hr2 : (Instr.makeSlice 30 (.int .i64 16) (.int .i64 16)).run Try.prog w = .ok (.slice (some ⟨w.heap.size, 0, none⟩) 16 16) (w.alloc (.cells cs 25)) := hr
  have gr := World.grownBy_alloc w (.cells cs 25) none
  have hF0 := hF.congr (g := fun j => if j < 0 then P j else 0) (fun j _ => (if_neg (Nat.not_lt_zero j)).symm)
  have hx1 := hx.grown gr
  have hy1 := hy.grown gr
  clear hr hF hx hy
  go_enter Try.func10, Try.ntmps10
  go_wp2_with fail
  clear hr2
  generalize w.alloc (.cells cs 25) = w1 at *
  go_loopw [6] (fun u6 wr => ∃ i : Nat, i ≤ 16 ∧ u6 = .int .i64 i ∧ w.grownBy wr none ∧ FillU wr w.heap.size 16 (fun j => if j < i then P j else 0)) (fun u6 _ => 16 - (intOf u6).toNat)
  case atStart => exact ⟨0, by omega, rfl, gr, hF0⟩
  case round =>
    clear gr hF0 hx1 hy1
    obtain ⟨i, hi, rfl, hgr, hF⟩ := hrel
    by_cases hlt : i < 16
    · have j1 : (i : Int) < 16 := by omega
      obtain ⟨V, hV⟩ : ∃ V, V = wr.drew := ⟨_, rfl⟩
      have gV : wr.grownBy V none := by rw [hV]; exact grown_drew (grown_refl wr none)
      have hFV := hF.grown (by decide) gV (by simp)
      have hgV := grown_trans hgr gV
      have c0 := (HX.out.grown hgV).fill.cell i hlt
      have c1 := (HY.out.grown hgV).fill.cell i hlt
      have c2 := hFV.cell i hlt
      rw [if_neg (Nat.lt_irrefl i)] at c2
      have f2 := hFV.free i
      have h1 := lim16_lt v i
      have h2 := lim16_lt u i
      have hs : P i = lim 16 v i + lim 16 u i := by rw [HPe.out]
      have hF2 := (hFV.set i (P i) hlt).congr (g := fun j => if j < i + 1 then P j else 0) (fun j hj => by
        by_cases e : j = i
        · subst e; rw [upd_same, if_pos (by omega)]
        · rw [upd_other _ _ _ _ e]
          by_cases e2 : j < i
          · rw [if_pos e2, if_pos (by omega)]
          · rw [if_neg e2, if_neg (by omega)])
      have hg2 := grown_setCell_new hgV ⟨w.heap.size, i, none⟩ (.int .u64 (P i : Nat)) (Or.inl (Nat.le_refl _))
      generalize P i = s at *
      generalize lim 16 v i = xi at *
      generalize lim 16 u i = yi at *
      have z1 : IntKind.u64.wrap ((xi : Int) + (yi : Int)) = (s : Int) := by rw [IntKind.wrap_u64]; omega
      have HF := Lib.hid hF2
      have HG := Lib.hid hg2
      have HI := Lib.hid hlt
      have HVe := Lib.hid hV.symm
      have Z1 := Lib.hid z1
      clear hi hV gV hFV hgV h1 h2 hs hF2 hg2 hF hgr hlt z1
      go_wp2_with fail
      refine wp_region_still_tail 12 (by kernel_rfl) (by kernel_rfl) ?_
      change wpStill _ _ (World.drew wr) (fun a' => wpList _ _ _ _ a' (World.drew wr)) _ _
      rw [HVe.out]
      simp only [List.take_succ_cons, List.take_zero, List.drop_succ_cons, List.drop_zero]
      repeat still_step
      refine wpStill_nil ?_
      simp only [Z1.out]
      go_wp2_with fail
      go_roundw
      case rel => exact ⟨i + 1, by have := HI.out; omega, by go_num, HG.out, HF.out⟩
      case measure =>
        have := HI.out
        simp [intOf]
        try omega
    · obtain rfl : i = 16 := by omega
      replace hF := hF.congr (g := P) (fun j hj => if_pos hj)
      have hR := reduce_any 16 (Or.inl rfl) P HP.out w.heap.size wr hF
      rw [HV.out, ← HS.out] at hR
      have HR := Lib.hid hR
      have HSz := Lib.hid hgr.size
      clear hR hF hlt hi
      go_wp2_with fail
      go_at_call 31
      refine HR.out.mono ?_
      rintro e U ⟨⟨b, rfl, hb, hFb⟩, gU⟩
      have hsz := HSz.out
      go_wp2_with fail
      go_ret
      exact ⟨⟨b, rfl, by omega, hFb⟩, grown_trans hgr gU⟩

theorem refSub_any (bx by' v u : Nat) (w : World) (hx : NumAt w bx v) (hy : NumAt w by' u) :
    Calls Try.prog 12 #[.slice (some ⟨bx, 0, none⟩) 16 16, .slice (some ⟨by', 0, none⟩) 16 16] w (GaveNum w (fSub v u)) := by
  have hmod := sub_parts v u hx.less hy.less
  obtain ⟨P, hP⟩ : ∃ P : Nat → Nat, P = dff (lim 16 v) (lim 16 u) := ⟨_, rfl⟩
  rw [← hP] at hmod
  have HPe := Lib.hid hP
  have HP := Lib.hid (show ∀ k, k < 16 → P k ≤ 68719476736 from fun k _ => by
    rw [hP]
    exact Nat.le_trans (Nat.le_of_lt (dff_le (lim 16 v) (lim 16 u) (fun i => lim16_lt v i) k)) (by decide))
  have HV := Lib.hid hmod
  suffices hsuf : Calls Try.prog 12 #[.slice (some ⟨bx, 0, none⟩) 16 16, .slice (some ⟨by', 0, none⟩) 16 16] w (GaveU w 16 (lim 16 (fSub v u))) from hsuf.mono fun e w' h => h.num (fSub_lt v u)
  obtain ⟨S, hS⟩ : ∃ S, S = lim 16 (fSub v u) := ⟨_, rfl⟩
  rw [← hS]
  have HS := Lib.hid hS
  clear hP hmod hS
  have hp := prime_any w
  have HPr := Lib.hid hp
  clear hp
  go_enter Try.func12, Try.ntmps12
  go_wp2_with fail
  go_at_call 33
  refine HPr.out.mono ?_
  rintro e W ⟨⟨bp, rfl, hbp, hPr⟩, gW⟩
  have hx1 := hx.grown gW
  have hy1 := hy.grown gW
  clear HPr
  obtain ⟨cs, hr, hF⟩ := makeU_any 30 (by kernel_rfl) 16 (by decide) W
  have hr2 : (Instr.makeSlice 30 (.int .i64 16) (.int .i64 16)).run Try.prog W = .ok (.slice (some ⟨W.heap.size, 0, none⟩) 16 16) (W.alloc (.cells cs 25)) := hr
  have gr := World.grownBy_alloc W (.cells cs 25) none
  have hF0 := hF.congr (g := fun j => if j < 0 then P j else 0) (fun j _ => (if_neg (Nat.not_lt_zero j)).symm)
  have HX := Lib.hid hx1
  have HY := Lib.hid hy1
  have HPm := Lib.hid hPr
  clear hr hF hx hy hx1 hy1 hPr
  go_wp2_with fail
  clear hr2
  generalize W.alloc (.cells cs 25) = w1 at *
  go_loopw [7, 8, 9] (fun u7 u8 _ wr => ∃ i : Nat, i ≤ 16 ∧ u8 = .int .i64 i ∧ u7 = .int .u64 (dbo (lim 16 v) (lim 16 u) i : Nat) ∧ W.grownBy wr none ∧ FillU wr W.heap.size 16 (fun j => if j < i then P j else 0)) (fun _ u8 _ _ => 16 - (intOf u8).toNat)
  case atStart => exact ⟨0, by omega, rfl, rfl, gr, hF0⟩
  case round =>
    clear gr hF0
    obtain ⟨i, hi, rfl, rfl, hgr, hF⟩ := hrel
    by_cases hlt : i < 16
    · have j1 : (i : Int) < 16 := by omega
      have c0 := (HX.out.grown hgr).fill.cell i hlt
      have c1 := (HY.out.grown hgr).fill.cell i hlt
      have c2 := (HPm.out.grown (by decide) hgr (by simp)).cell i hlt
      have h1 := lim16_lt v i
      have h2 := lim16_lt u i
      have h3 := pL_lt i
      have h4 : dbo (lim 16 v) (lim 16 u) (i + 1) = if 65536 + lim 16 v i + pL i - lim 16 u i - dbo (lim 16 v) (lim 16 u) i < 65536 then 1 else 0 := rfl
      have h5 := dbo_le (lim 16 v) (lim 16 u) i
      have hs : P i = 65536 + lim 16 v i + pL i - lim 16 u i - dbo (lim 16 v) (lim 16 u) i - 65536 * (1 - dbo (lim 16 v) (lim 16 u) (i + 1)) := by rw [HPe.out]; rfl
      have hF2 := fun V (h : FillU V W.heap.size 16 (fun j => if j < i then P j else 0)) => (h.set i (P i) hlt).congr (g := fun j => if j < i + 1 then P j else 0) (fun j hj => by
        by_cases e : j = i
        · subst e; rw [upd_same, if_pos (by omega)]
        · rw [upd_other _ _ _ _ e]
          by_cases e2 : j < i
          · rw [if_pos e2, if_pos (by omega)]
          · rw [if_neg e2, if_neg (by omega)])
      obtain ⟨a0, ha0⟩ : ∃ a, a = dbo (lim 16 v) (lim 16 u) i := ⟨_, rfl⟩
      obtain ⟨a1, ha1⟩ : ∃ a, a = dbo (lim 16 v) (lim 16 u) (i + 1) := ⟨_, rfl⟩
      rw [← ha0] at h4 h5 hs ⊢
      rw [← ha1] at h4 hs
      obtain ⟨t, ht⟩ : ∃ t, t = P i := ⟨_, rfl⟩
      rw [← ht] at hs
      simp only [← ht] at hF2
      obtain ⟨d, hd⟩ : ∃ d, d = 65536 + lim 16 v i + pL i - lim 16 u i - a0 := ⟨_, rfl⟩
      rw [← hd] at h4 hs
      generalize lim 16 v i = xi at *
      generalize lim 16 u i = yi at *
      generalize pL i = pi at *
      have z1 : IntKind.u64.wrap (IntKind.u64.wrap (IntKind.u64.wrap (IntKind.u64.wrap (65536 + (xi : Int)) + (pi : Int)) - (yi : Int)) - (a0 : Int)) = (d : Int) := by
        rw [IntKind.wrap_u64, IntKind.wrap_u64, IntKind.wrap_u64, IntKind.wrap_u64]
        omega
      have hdl : d < 262144 := by omega
      have HA := Lib.hid ha1
      have HF := Lib.hid hF
      have HFV := Lib.hid hF2
      have HG := Lib.hid hgr
      have HI := Lib.hid hlt
      have Z1 := Lib.hid z1
      by_cases hd6 : d < 65536
      · rw [if_pos hd6] at h4
        have jd : (d : Int) < 65536 := by omega
        have et : t = d := by rw [hs, h4]; rfl
        have z2 : IntKind.u64.wrap (d : Int) = (t : Int) := by rw [IntKind.wrap_u64]; omega
        have H4 := Lib.hid h4
        clear h1 h2 h3 h4 h5 hs ha0 ha1 ht hd z1 hdl hd6 et hF2 hF hgr hlt hi
        go_wp2_with fail
        go_quiet (fail)
        simp only [Z1.out]
        obtain ⟨V, hV⟩ : ∃ V, V = wr.drewN nq := ⟨_, rfl⟩
        have hF1 : FillU V W.heap.size 16 (fun j => if j < i then P j else 0) := by rw [hV]; exact HF.out.drewN nq
        have hg1 : W.grownBy V none := by rw [hV]; exact grown_drewN HG.out nq
        rw [← hV]
        have c3 := hF1.cell i HI.out
        have f3 := hF1.free i
        rw [if_neg (Nat.lt_irrefl i)] at c3
        have HF2 := Lib.hid (HFV.out V hF1)
        have HG2 := Lib.hid (grown_setCell_new hg1 ⟨W.heap.size, i, none⟩ (.int .u64 (t : Nat)) (Or.inl (Nat.le_refl _)))
        clear hV hF1 hg1 c0 c1 c2
        go_wp2_with fail
        go_roundw
        case rel => exact ⟨i + 1, by have := HI.out; omega, by go_num, by rw [← HA.out, H4.out]; rfl, HG2.out, HF2.out⟩
        case measure =>
          have := HI.out
          simp [intOf]
          try omega
      · rw [if_neg hd6] at h4
        have jd : decide ((d : Int) < 65536) = false := by rw [decide_eq_false_iff_not]; omega
        have jd2 : decide (d < 65536) = false := decide_eq_false hd6
        have et : t = d - 65536 := by rw [hs, h4]
        have z2 : IntKind.u64.wrap ((d : Int) - 65536) = (t : Int) := by rw [IntKind.wrap_u64]; omega
        have H4 := Lib.hid h4
        clear h1 h2 h3 h4 h5 hs ha0 ha1 ht hd z1 hdl hd6 et hF2 hF hgr hlt hi
        go_wp2_with fail
        go_quiet (fail)
        simp only [Z1.out]
        obtain ⟨V, hV⟩ : ∃ V, V = wr.drewN nq := ⟨_, rfl⟩
        have hF1 : FillU V W.heap.size 16 (fun j => if j < i then P j else 0) := by rw [hV]; exact HF.out.drewN nq
        have hg1 : W.grownBy V none := by rw [hV]; exact grown_drewN HG.out nq
        rw [← hV]
        have c3 := hF1.cell i HI.out
        have f3 := hF1.free i
        rw [if_neg (Nat.lt_irrefl i)] at c3
        have HF2 := Lib.hid (HFV.out V hF1)
        have HG2 := Lib.hid (grown_setCell_new hg1 ⟨W.heap.size, i, none⟩ (.int .u64 (t : Nat)) (Or.inl (Nat.le_refl _)))
        clear hV hF1 hg1 c0 c1 c2
        go_wp2_with fail
        go_roundw
        case rel => exact ⟨i + 1, by have := HI.out; omega, by go_num, by rw [← HA.out, H4.out]; rfl, HG2.out, HF2.out⟩
        case measure =>
          have := HI.out
          simp [intOf]
          try omega
    · obtain rfl : i = 16 := by omega
      replace hF := hF.congr (g := P) (fun j hj => if_pos hj)
      have hR := reduce_any 16 (Or.inl rfl) P HP.out W.heap.size wr hF
      rw [HV.out, ← HS.out] at hR
      have HR := Lib.hid hR
      have HSz := Lib.hid hgr.size
      clear hR hF hlt hi
      go_wp2_with fail
      go_at_call 31
      refine HR.out.mono ?_
      rintro e U ⟨⟨b, rfl, hb, hFb⟩, gU⟩
      have hsz := HSz.out
      go_wp2_with fail
      go_ret
      have hws := gW.size
      exact ⟨⟨b, rfl, by omega, hFb⟩, grown_trans gW (grown_trans hgr gU)⟩

theorem refMul_any (bx by' v u : Nat) (w : World) (hx : NumAt w bx v) (hy : NumAt w by' u) :
    Calls Try.prog 14 #[.slice (some ⟨bx, 0, none⟩) 16 16, .slice (some ⟨by', 0, none⟩) 16 16] w (GaveNum w (fMul v u)) := by
  have hmod := mul_parts16 v u hx.less hy.less
  have HX := Lib.hid hx
  have HY := Lib.hid hy
  have HB := Lib.hid (rowM_le (lim 16 v) (lim 16 u) (lim16_lt v) (lim16_lt u))
  have HCl := Lib.hid (cellM_le (lim 16 v) (lim 16 u) (lim16_lt v) (lim16_lt u))
  have HP := Lib.hid (show ∀ k, k < 32 → rowM (lim 16 v) (lim 16 u) 16 k ≤ 68719476736 from fun k _ => Nat.le_trans (HB.out 16 k) (by decide))
  have HV := Lib.hid hmod
  suffices hsuf : Calls Try.prog 14 #[.slice (some ⟨bx, 0, none⟩) 16 16, .slice (some ⟨by', 0, none⟩) 16 16] w (GaveU w 16 (lim 16 (fMul v u))) from hsuf.mono fun e w' h => h.num (fMul_lt v u)
  obtain ⟨S, hS⟩ : ∃ S, S = lim 16 (fMul v u) := ⟨_, rfl⟩
  rw [← hS]
  have HS := Lib.hid hS
  clear hmod hS
  obtain ⟨cs, hr, hF⟩ := makeU_any 30 (by kernel_rfl) 32 (by decide) w
  have hr2 : (Instr.makeSlice 30 (.int .i64 32) (.int .i64 32)).run Try.prog w = .ok (.slice (some ⟨w.heap.size, 0, none⟩) 32 32) (w.alloc (.cells cs 25)) := hr
  have gr := World.grownBy_alloc w (.cells cs 25) none
  have hF0 : FillU (w.alloc (.cells cs 25)) w.heap.size 32 (rowM (lim 16 v) (lim 16 u) 0) := hF
  clear hr hF hx hy
  obtain ⟨x, hx⟩ : ∃ x, x = lim 16 v := ⟨_, rfl⟩
  obtain ⟨y, hy⟩ : ∃ y, y = lim 16 u := ⟨_, rfl⟩
  rw [← hx, ← hy] at HB HCl HP HV hF0
  have HXe := Lib.hid hx
  have HYe := Lib.hid hy
  clear hx hy
  go_enter Try.func14, Try.ntmps14
  go_wp2_with fail
  clear hr2
  generalize w.alloc (.cells cs 25) = w1 at *
  go_loopw [6, 7] (fun u6 _ wr => ∃ i : Nat, i ≤ 16 ∧ u6 = .int .i64 i ∧ w.grownBy wr none ∧ FillU wr w.heap.size 32 (rowM x y i)) (fun u6 _ _ => 16 - (intOf u6).toNat)
  case atStart => exact ⟨0, by omega, rfl, gr, hF0⟩
  case round =>
    clear gr hF0
    obtain ⟨i, hi, rfl, hgr, hF⟩ := hrel
    by_cases hlt : i < 16
    · have j1 : (i : Int) < 16 := by omega
      have HI := Lib.hid hlt
      have hF0 : FillU wr w.heap.size 32 (cellM x y i (rowM x y i) 0) := hF
      clear hi hlt hF
      go_wp2_with fail
      go_loopw [7] (fun u7 wr => ∃ j : Nat, j ≤ 16 ∧ u7 = .int .i64 j ∧ w.grownBy wr none ∧ FillU wr w.heap.size 32 (cellM x y i (rowM x y i) j)) (fun u7 _ => 16 - (intOf u7).toNat)
      case atStart => exact ⟨0, by omega, rfl, hgr, hF0⟩
      case round =>
        clear hgr hF0
        obtain ⟨j, hj, rfl, hgr, hF⟩ := hrel
        by_cases hlt : j < 16
        · have j2 : (j : Int) < 16 := by omega
          obtain ⟨k, hk⟩ : ∃ k, k = i + j := ⟨_, rfl⟩
          have hk32 : k < 32 := by have := HI.out; omega
          have zk : IntKind.i64.wrap ((i : Int) + (j : Int)) = (k : Int) := by have := HI.out; rw [IntKind.wrap_i64]; omega
          have zk2 : (i : Int) + (j : Int) = (k : Int) := by omega
          have zk3 : IntKind.i64.wrap (k : Int) = (k : Int) := by rw [IntKind.wrap_i64]; omega
          have k32 : (k : Int) < 32 := by omega
          obtain ⟨V, hV⟩ : ∃ V, V = wr.drew := ⟨_, rfl⟩
          have gV : wr.grownBy V none := by rw [hV]; exact grown_drew (grown_refl wr none)
          have hFV := hF.grown (by decide) gV (by simp)
          have hgV := grown_trans hgr gV
          have c0 := (HX.out.grown hgV).fill.cell i HI.out
          have c1 := (HY.out.grown hgV).fill.cell j hlt
          rw [← HXe.out] at c0
          rw [← HYe.out] at c1
          have c2 := hFV.cell k hk32
          have f2 := hFV.free k
          have hx1 : x i ≤ 65535 := by rw [HXe.out]; exact Nat.le_of_lt_succ (lim16_lt v i)
          have hy1 : y j ≤ 65535 := by rw [HYe.out]; exact Nat.le_of_lt_succ (lim16_lt u j)
          have hxy : x i * y j ≤ 4294836225 := Nat.mul_le_mul hx1 hy1
          have hcl := (HCl.out i (rowM x y i) j k).1
          have hcb := HB.out i k
          have hcs : (if k < i + j then 4294836225 else 0) ≤ 4294836225 := by split <;> decide
          have hib : i * 4294836225 ≤ 16 * 4294836225 := Nat.mul_le_mul_right _ (Nat.le_of_lt HI.out)
          have hF2 := (hFV.set k (cellM x y i (rowM x y i) j k + x i * y j) hk32).congr (g := cellM x y i (rowM x y i) (j + 1)) (fun t _ => by rw [hk]; rfl)
          have hg2 := grown_setCell_new hgV ⟨w.heap.size, k, none⟩ (.int .u64 (cellM x y i (rowM x y i) j k + x i * y j : Nat)) (Or.inl (Nat.le_refl _))
          obtain ⟨s, hs⟩ : ∃ s, s = cellM x y i (rowM x y i) j k + x i * y j := ⟨_, rfl⟩
          rw [← hs] at hF2 hg2
          have hck : cellM x y i (rowM x y i) j k ≤ 17 * 4294836225 := by omega
          generalize cellM x y i (rowM x y i) j k = ck at *
          generalize x i = xi at *
          generalize y j = yj at *
          have z1 : IntKind.u64.wrap ((ck : Int) + IntKind.u64.wrap ((xi : Int) * (yj : Int))) = (s : Int) := by
            rw [mulc, w64 _ (by omega), addc, w64 _ (by omega), hs]
          have HF := Lib.hid hF2
          have HG := Lib.hid hg2
          have HJ := Lib.hid hlt
          have HVe := Lib.hid hV.symm
          have Z1 := Lib.hid z1
          clear hj hk hk32 hV gV hFV hgV hx1 hy1 hxy hcl hcb hcs hib hF2 hg2 hs hck hF hgr hlt z1
          go_wp2_with fail
          refine wp_region_still_tail 21 (by kernel_rfl) (by kernel_rfl) ?_
          change wpStill _ _ (World.drew wr) (fun a' => wpList _ _ _ _ a' (World.drew wr)) _ _
          rw [HVe.out]
          simp only [List.take_succ_cons, List.take_zero, List.drop_succ_cons, List.drop_zero]
          repeat still_step
          refine wpStill_nil ?_
          simp only [Z1.out]
          clear zk zk2 zk3
          go_wp2_with fail
          go_roundw
          case rel => exact ⟨j + 1, by have := HJ.out; omega, by go_num, HG.out, HF.out⟩
          case measure =>
            have := HJ.out
            simp [intOf]
            try omega
        · obtain rfl : j = 16 := by omega
          have hF2 : FillU wr w.heap.size 32 (rowM x y (i + 1)) := hF
          have HF := Lib.hid hF2
          clear hlt hj hF hF2
          go_wp2_with fail
          go_roundw
          case rel => exact ⟨i + 1, by have := HI.out; omega, by go_num, hgr, HF.out⟩
          case measure =>
            have := HI.out
            simp [intOf]
            try omega
    · obtain rfl : i = 16 := by omega
      have hR := reduce_any 32 (Or.inr rfl) (rowM x y 16) HP.out w.heap.size wr hF
      rw [HV.out, ← HS.out] at hR
      have HR := Lib.hid hR
      have HSz := Lib.hid hgr.size
      clear hR hF hlt hi
      go_wp2_with fail
      go_at_call 31
      refine HR.out.mono ?_
      rintro e U ⟨⟨b, rfl, hb, hFb⟩, gU⟩
      have hsz := HSz.out
      go_wp2_with fail
      go_ret
      exact ⟨⟨b, rfl, by omega, hFb⟩, grown_trans hgr gU⟩

end Go.Proofs.Ytpnddojcihdniaa
namespace Go.Proofs.Ytpnddojcihdniaa
open Go.RowKit

section
variable {ops : Array Oper} {Q : Exit → Act → World → Prop} {S : World → Prop}

theorem append_byte_tail {listed : Array Bool} {a : Act} {W : World} {g m cap v : Nat} {f : Nat → Nat} (n : Nat) (ob oa os : Oper) (ts tv db da ds : Tmp)
    (g1 : ops[n]? = some ob) (g2 : ops[n + 1]? = some oa) (g3 : ops[n + 2]? = some os)
    (u1 : ob.guard = none) (u2 : oa.guard = none) (u3 : os.guard = none)
    (k1 : ob.op = .buildSlice 33 1 #[(0, .tmp tv)]) (k2 : oa.op = .call { callee := .builtin .append, args := #[.tmp ts, .tmp db], argTypes := #[33, 33] }) (k3 : os.op = .assign (.tmp da))
    (e1 : ob.dst = some db) (e2 : oa.dst = some da) (e3 : os.dst = some ds) (t2 : oa.type = 33)
    (r1 : Region.ready .any ops listed = [n]) (r2 : Region.ready .any ops (listed.setIfInBounds n true) = [n + 1]) (r3 : Region.ready .any ops ((listed.setIfInBounds n true).setIfInBounds (n + 1) true) = [n + 2])
    (r4 : Region.ready .any ops (((listed.setIfInBounds n true).setIfInBounds (n + 1) true).setIfInBounds (n + 2) true) = [])
    (hs : a.eval (.tmp ts) = .slice (some ⟨g, 0, none⟩) m cap) (hv : a.eval (.tmp tv) = .int .u8 (v : Nat)) (hd : db ≠ ts) (zb : db < a.tmps.size) (za : da < a.tmps.size)
    (ho : OwnR W g m cap f) (hm : m + 1 ≤ 2 ^ 46) (hS : ∀ W', W.grownBy W' (some g) → OwnR W' g m cap f → S W')
    (hQ : ∀ B g' cap' W', OwnR W' g' (m + 1) cap' (cat m f (fun _ => v)) → OwnR W' g m cap f → W.grownBy W' (some g) → (g' = g ∨ W.heap.size ≤ g') →
      Q .normal (((a.put (some db) (.slice (some ⟨B, 0, none⟩) 1 1)).put (some da) (.slice (some ⟨g', 0, none⟩) (m + 1 : Nat) cap')).put (some ds) (.slice (some ⟨g', 0, none⟩) (m + 1 : Nat) cap')) W') :
    wpAnyH Try.prog .any ops Q S 3 listed a W := by
  refine wpAnyH_all r1 (by simp) fun i hi => ?_
  obtain rfl : i = n := by simpa using hi
  have hbuild : (execOp a.eval ob).run Try.prog W = .ok (.value (.slice (some ⟨W.heap.size, 0, none⟩) 1 1)) (W.alloc (.cells #[.int .u8 (v : Nat)] 5)) := by
    have hv2 : a.tmps[tv]?.getD undef = .int .u8 (v : Nat) := by simpa [Act.eval] using hv
    unfold execOp
    simp only [k1]
    go_simp
  refine wpOp_at g1 (wanted_of u1) (wp_yields hbuild ?_)
  have ga := World.grownBy_alloc W (.cells #[.int .u8 (v : Nat)] 5) none
  have bb := heap_alloc_new W (.cells #[.int .u8 (v : Nat)] 5)
  have hoa := ho.grown ga (by simp)
  have hz := World.size_alloc W (.cells #[.int .u8 (v : Nat)] 5)
  refine ⟨hS _ (grown_some ga) hoa, ?_⟩
  rw [e1]
  refine wpAnyH_all r2 (by simp) fun j hj => ?_
  obtain rfl : j = i + 1 := by simpa using hj
  have hR : Rd (W.alloc (.cells #[.int .u8 (v : Nat)] 5)) (W.heap.size + 1) (some ⟨W.heap.size, 0, none⟩) 1 (fun _ => v) := ⟨fun _ => ⟨W.heap.size, 0, rfl, by omega, fun k hk => by
    obtain rfl : k = 0 := by omega
    rw [cell_of_row _ _ _ _ _ _ bb]; rfl⟩⟩
  obtain ⟨v2, w2, hap, ⟨ex⟩⟩ := app_run 1 33 hoa hR hm
  obtain ⟨g', cap', rfl, ho', hold, hg2, hor⟩ := ex
  have happ : (execOp (a.put (some db) (.slice (some ⟨W.heap.size, 0, none⟩) 1 1)).eval oa).run Try.prog (W.alloc (.cells #[.int .u8 (v : Nat)] 5)) = .ok (.value (.slice (some ⟨g', 0, none⟩) (m + 1 : Nat) cap')) w2 := by
    have h1 := (Act.eval_put_ne a db ts (.slice (some ⟨W.heap.size, 0, none⟩) 1 1) hd).trans hs
    have h2 := Act.eval_put_same a db (.slice (some ⟨W.heap.size, 0, none⟩) 1 1) zb
    unfold execOp
    simp [k2, resolve, invoke, builtin, h1, h2, t2, hap, Result.andThen]
  have hgw : W.grownBy w2 (some g) := grown_trans (grown_some ga) hg2
  refine wpOp_at g2 (wanted_of u2) (wp_yields happ ⟨hS _ hgw hold, ?_⟩)
  rw [e2]
  refine wpAnyH_all r3 (by simp) fun k hk => ?_
  obtain rfl : k = i + 2 := by simpa using hk
  have has : (execOp ((a.put (some db) (.slice (some ⟨W.heap.size, 0, none⟩) 1 1)).put (some da) (.slice (some ⟨g', 0, none⟩) (m + 1 : Nat) cap')).eval os).run Try.prog w2 = .ok (.value (.slice (some ⟨g', 0, none⟩) (m + 1 : Nat) cap')) w2 := by
    have h1 := Act.eval_put_same (a.put (some db) (.slice (some ⟨W.heap.size, 0, none⟩) 1 1)) da (.slice (some ⟨g', 0, none⟩) (m + 1 : Nat) cap') (by simpa [Act.put] using za)
    unfold execOp
    simp [k3, h1]
  refine wpOp_at g3 (wanted_of u3) (wp_yields has ⟨hS _ hgw hold, ?_⟩)
  rw [e3]
  exact wpAnyH_done r4 (hQ _ _ _ _ ho' hold hgw (by omega)) _
end

end Go.Proofs.Ytpnddojcihdniaa
namespace Go.Proofs.Ytpnddojcihdniaa
open Go.RowKit

/-- Nil, or bytes that lie in a row of their own. -/
structure OwnV (w : World) (v : Value) (n : Nat) (f : Nat → Nat) : Prop where
  ex : (v = .slice none 0 0 ∧ n = 0) ∨ ∃ g cap, v = .slice (some ⟨g, 0, none⟩) n cap ∧ OwnR w g n cap f
theorem OwnN.toV {w : World} {base : Nat} {v : Value} {n : Nat} {f : Nat → Nat} (h : OwnN w base v n f) : OwnV w v n f := ⟨h.ex.imp id (fun ⟨g, cap, h1, h2, _⟩ => ⟨g, cap, h1, h2⟩)⟩
theorem OwnN.row {w : World} {base : Nat} {v : Value} {n : Nat} {f : Nat → Nat} (h : OwnN w base v n f) (g : Nat) (hg : v.ownBlock = some g) : base ≤ g := by
  rcases h.ex with ⟨rfl, _⟩ | ⟨g', cap, rfl, _, h3⟩
  · cases hg
  · cases hg; exact h3
theorem OwnV.toN {w : World} {base : Nat} {v : Value} {n : Nat} {f : Nat → Nat} (h : OwnV w v n f) (hb : ∀ g, v.ownBlock = some g → base ≤ g) : OwnN w base v n f := ⟨h.ex.imp id (fun ⟨g, cap, h1, h2⟩ => ⟨g, cap, h1, h2, hb g (by rw [h1]; rfl)⟩)⟩
theorem OwnV.grown {w w' : World} {v : Value} {n : Nat} {f : Nat → Nat} (h : OwnV w v n f) (e : w.grownBy w' none) : OwnV w' v n f := ⟨h.ex.imp id (fun ⟨g, cap, h1, h2⟩ => ⟨g, cap, h1, h2.grown e (by simp)⟩)⟩
theorem OwnV.congr {w : World} {v : Value} {n : Nat} {f f' : Nat → Nat} (h : OwnV w v n f) (e : ∀ i, i < n → f i = f' i) : OwnV w v n f' := ⟨h.ex.imp id (fun ⟨g, cap, h1, h2⟩ => ⟨g, cap, h1, h2.congr e⟩)⟩

theorem app_V {w : World} {B n m : Nat} {v : Value} {a : Option Addr} {f f' : Nat → Nat} (c : Nat) (ty : TypeId) (h : OwnV w v n f) (hx : Rd w B a m f') (hn : n + m ≤ 2 ^ 46) (hm : 0 < m) :
    ∃ v' w', (Builtin.append_ #[33, 33] ty #[v, .slice a m c]).run Try.prog w = .ok v' w' ∧ OwnV w' v' (n + m) (cat n f f') ∧ OwnV w' v n f ∧ w.grownBy w' v.ownBlock ∧ (v'.ownBlock = v.ownBlock ∨ ∃ g', v'.ownBlock = some g' ∧ w.heap.size ≤ g') := by
  rcases h.ex with ⟨rfl, rfl⟩ | ⟨g, cap, rfl, h2⟩
  · obtain ⟨v', w', h1, h2, h3, h4⟩ := app_N c ty (grown_refl w none) (OwnN.nil w w.heap.size f) hx hn hm
    refine ⟨v', w', h1, h2.toV, h3.toV, h4, Or.inr ?_⟩
    rcases h2.ex with ⟨_, e⟩ | ⟨g', cap', rfl, _, h5⟩
    · omega
    · exact ⟨g', rfl, h5⟩
  · obtain ⟨v', w', hr, ⟨g', cap', rfl, k1, k2, k3, k4⟩⟩ := app_run c ty h2 hx hn
    exact ⟨_, w', hr, ⟨Or.inr ⟨g', cap', rfl, k1⟩⟩, ⟨Or.inr ⟨g, cap, rfl, k2⟩⟩, k3, k4.imp (fun e => by rw [e]; rfl) (fun e => ⟨g', rfl, e⟩)⟩

section
variable {ops : Array Oper} {Q : Exit → Act → World → Prop} {S : World → Prop}

theorem append_byte_tailV {listed : Array Bool} {a : Act} {W : World} {v0 : Value} {m v : Nat} {f : Nat → Nat} (n : Nat) (ob oa os : Oper) (ts tv db da ds : Tmp)
    (g1 : ops[n]? = some ob) (g2 : ops[n + 1]? = some oa) (g3 : ops[n + 2]? = some os)
    (u1 : ob.guard = none) (u2 : oa.guard = none) (u3 : os.guard = none)
    (k1 : ob.op = .buildSlice 33 1 #[(0, .tmp tv)]) (k2 : oa.op = .call { callee := .builtin .append, args := #[.tmp ts, .tmp db], argTypes := #[33, 33] }) (k3 : os.op = .assign (.tmp da))
    (e1 : ob.dst = some db) (e2 : oa.dst = some da) (e3 : os.dst = some ds) (t2 : oa.type = 33)
    (r1 : Region.ready .any ops listed = [n]) (r2 : Region.ready .any ops (listed.setIfInBounds n true) = [n + 1]) (r3 : Region.ready .any ops ((listed.setIfInBounds n true).setIfInBounds (n + 1) true) = [n + 2])
    (r4 : Region.ready .any ops (((listed.setIfInBounds n true).setIfInBounds (n + 1) true).setIfInBounds (n + 2) true) = [])
    (hs : a.eval (.tmp ts) = v0) (hv : a.eval (.tmp tv) = .int .u8 (v : Nat)) (hd : db ≠ ts) (zb : db < a.tmps.size) (za : da < a.tmps.size)
    (ho : OwnV W v0 m f) (hm : m + 1 ≤ 2 ^ 46) (hS : ∀ W', W.grownBy W' v0.ownBlock → S W')
    (hQ : ∀ B v' W', OwnV W' v' (m + 1) (cat m f (fun _ => v)) → W.grownBy W' v0.ownBlock → (v'.ownBlock = v0.ownBlock ∨ ∃ g', v'.ownBlock = some g' ∧ W.heap.size ≤ g') →
      Q .normal (((a.put (some db) (.slice (some ⟨B, 0, none⟩) 1 1)).put (some da) v').put (some ds) v') W') :
    wpAnyH Try.prog .any ops Q S 3 listed a W := by
  refine wpAnyH_all r1 (by simp) fun i hi => ?_
  obtain rfl : i = n := by simpa using hi
  have hbuild : (execOp a.eval ob).run Try.prog W = .ok (.value (.slice (some ⟨W.heap.size, 0, none⟩) 1 1)) (W.alloc (.cells #[.int .u8 (v : Nat)] 5)) := by
    have hv2 : a.tmps[tv]?.getD undef = .int .u8 (v : Nat) := by simpa [Act.eval] using hv
    unfold execOp
    simp only [k1]
    go_simp
  refine wpOp_at g1 (wanted_of u1) (wp_yields hbuild ?_)
  have ga := World.grownBy_alloc W (.cells #[.int .u8 (v : Nat)] 5) none
  have gs : W.grownBy (W.alloc (.cells #[.int .u8 (v : Nat)] 5)) v0.ownBlock := World.grownBy_alloc W _ _
  have bb := heap_alloc_new W (.cells #[.int .u8 (v : Nat)] 5)
  have hoa := ho.grown ga
  have hz := World.size_alloc W (.cells #[.int .u8 (v : Nat)] 5)
  refine ⟨hS _ gs, ?_⟩
  rw [e1]
  refine wpAnyH_all r2 (by simp) fun j hj => ?_
  obtain rfl : j = i + 1 := by simpa using hj
  have hR : Rd (W.alloc (.cells #[.int .u8 (v : Nat)] 5)) (W.heap.size + 1) (some ⟨W.heap.size, 0, none⟩) 1 (fun _ => v) := ⟨fun _ => ⟨W.heap.size, 0, rfl, by omega, fun k hk => by
    obtain rfl : k = 0 := by omega
    rw [cell_of_row _ _ _ _ _ _ bb]; rfl⟩⟩
  obtain ⟨v2, w2, hap, ho', hold, hg2, hor⟩ := app_V 1 33 hoa hR hm (by decide)
  have happ : (execOp (a.put (some db) (.slice (some ⟨W.heap.size, 0, none⟩) 1 1)).eval oa).run Try.prog (W.alloc (.cells #[.int .u8 (v : Nat)] 5)) = .ok (.value v2) w2 := by
    have h1 := (Act.eval_put_ne a db ts (.slice (some ⟨W.heap.size, 0, none⟩) 1 1) hd).trans hs
    have h2 := Act.eval_put_same a db (.slice (some ⟨W.heap.size, 0, none⟩) 1 1) zb
    unfold execOp
    simp [k2, resolve, invoke, builtin, h1, h2, t2, hap, Result.andThen]
  have hgw : W.grownBy w2 v0.ownBlock := grown_trans gs hg2
  refine wpOp_at g2 (wanted_of u2) (wp_yields happ ⟨hS _ hgw, ?_⟩)
  rw [e2]
  refine wpAnyH_all r3 (by simp) fun k hk => ?_
  obtain rfl : k = i + 2 := by simpa using hk
  have has : (execOp ((a.put (some db) (.slice (some ⟨W.heap.size, 0, none⟩) 1 1)).put (some da) v2).eval os).run Try.prog w2 = .ok (.value v2) w2 := by
    have h1 := Act.eval_put_same (a.put (some db) (.slice (some ⟨W.heap.size, 0, none⟩) 1 1)) da v2 (by simpa [Act.put] using za)
    unfold execOp
    simp [k3, h1]
  refine wpOp_at g3 (wanted_of u3) (wp_yields has ⟨hS _ hgw, ?_⟩)
  rw [e3]
  exact wpAnyH_done r4 (hQ _ _ _ ho' hgw (hor.imp id (fun ⟨g', h1, h2⟩ => ⟨g', h1, by omega⟩))) _
end

end Go.Proofs.Ytpnddojcihdniaa
namespace Go.Proofs.Ytpnddojcihdniaa
open Go.RowKit

def pairF (v u : Nat) (k : Nat) : Nat := if k = 0 then v else u
section
variable {ops : Array Oper} {Q : Exit → Act → World → Prop} {S : World → Prop}

theorem append_two_tailV {listed : Array Bool} {a : Act} {W : World} {v0 : Value} {m v u : Nat} {f : Nat → Nat} (n : Nat) (ob oa os : Oper) (ts tv tu db da ds : Tmp)
    (g1 : ops[n]? = some ob) (g2 : ops[n + 1]? = some oa) (g3 : ops[n + 2]? = some os)
    (u1 : ob.guard = none) (u2 : oa.guard = none) (u3 : os.guard = none)
    (k1 : ob.op = .buildSlice 33 2 #[(0, .tmp tv), (1, .tmp tu)]) (k2 : oa.op = .call { callee := .builtin .append, args := #[.tmp ts, .tmp db], argTypes := #[33, 33] }) (k3 : os.op = .assign (.tmp da))
    (e1 : ob.dst = some db) (e2 : oa.dst = some da) (e3 : os.dst = some ds) (t2 : oa.type = 33)
    (r1 : Region.ready .any ops listed = [n]) (r2 : Region.ready .any ops (listed.setIfInBounds n true) = [n + 1]) (r3 : Region.ready .any ops ((listed.setIfInBounds n true).setIfInBounds (n + 1) true) = [n + 2])
    (r4 : Region.ready .any ops (((listed.setIfInBounds n true).setIfInBounds (n + 1) true).setIfInBounds (n + 2) true) = [])
    (hs : a.eval (.tmp ts) = v0) (hv : a.eval (.tmp tv) = .int .u8 (v : Nat)) (hu : a.eval (.tmp tu) = .int .u8 (u : Nat)) (hd : db ≠ ts) (zb : db < a.tmps.size) (za : da < a.tmps.size)
    (ho : OwnV W v0 m f) (hm : m + 2 ≤ 2 ^ 46) (hS : ∀ W', W.grownBy W' v0.ownBlock → S W')
    (hQ : ∀ B v' W', OwnV W' v' (m + 2) (cat m f (pairF v u)) → W.grownBy W' v0.ownBlock → (v'.ownBlock = v0.ownBlock ∨ ∃ g', v'.ownBlock = some g' ∧ W.heap.size ≤ g') →
      Q .normal (((a.put (some db) (.slice (some ⟨B, 0, none⟩) 2 2)).put (some da) v').put (some ds) v') W') :
    wpAnyH Try.prog .any ops Q S 3 listed a W := by
  refine wpAnyH_all r1 (by simp) fun i hi => ?_
  obtain rfl : i = n := by simpa using hi
  have hbuild : (execOp a.eval ob).run Try.prog W = .ok (.value (.slice (some ⟨W.heap.size, 0, none⟩) 2 2)) (W.alloc (.cells #[.int .u8 (v : Nat), .int .u8 (u : Nat)] 5)) := by
    have hv2 : a.tmps[tv]?.getD undef = .int .u8 (v : Nat) := by simpa [Act.eval] using hv
    have hu2 : a.tmps[tu]?.getD undef = .int .u8 (u : Nat) := by simpa [Act.eval] using hu
    unfold execOp
    simp only [k1]
    go_simp
  refine wpOp_at g1 (wanted_of u1) (wp_yields hbuild ?_)
  have ga := World.grownBy_alloc W (.cells #[.int .u8 (v : Nat), .int .u8 (u : Nat)] 5) none
  have gs : W.grownBy (W.alloc (.cells #[.int .u8 (v : Nat), .int .u8 (u : Nat)] 5)) v0.ownBlock := World.grownBy_alloc W _ _
  have bb := heap_alloc_new W (.cells #[.int .u8 (v : Nat), .int .u8 (u : Nat)] 5)
  have hoa := ho.grown ga
  have hz := World.size_alloc W (.cells #[.int .u8 (v : Nat), .int .u8 (u : Nat)] 5)
  refine ⟨hS _ gs, ?_⟩
  rw [e1]
  refine wpAnyH_all r2 (by simp) fun j hj => ?_
  obtain rfl : j = i + 1 := by simpa using hj
  have hR : Rd (W.alloc (.cells #[.int .u8 (v : Nat), .int .u8 (u : Nat)] 5)) (W.heap.size + 1) (some ⟨W.heap.size, 0, none⟩) 2 (pairF v u) := ⟨fun _ => ⟨W.heap.size, 0, rfl, by omega, fun k hk => by
    obtain rfl | rfl : k = 0 ∨ k = 1 := by omega
    · rw [cell_of_row _ _ _ _ _ _ bb]; rfl
    · rw [cell_of_row _ _ _ _ _ _ bb]; rfl⟩⟩
  obtain ⟨v2, w2, hap, ho', hold, hg2, hor⟩ := app_V 2 33 hoa hR hm (by decide)
  have happ : (execOp (a.put (some db) (.slice (some ⟨W.heap.size, 0, none⟩) 2 2)).eval oa).run Try.prog (W.alloc (.cells #[.int .u8 (v : Nat), .int .u8 (u : Nat)] 5)) = .ok (.value v2) w2 := by
    have h1 := (Act.eval_put_ne a db ts (.slice (some ⟨W.heap.size, 0, none⟩) 2 2) hd).trans hs
    have h2 := Act.eval_put_same a db (.slice (some ⟨W.heap.size, 0, none⟩) 2 2) zb
    unfold execOp
    simp [k2, resolve, invoke, builtin, h1, h2, t2, hap, Result.andThen]
  have hgw : W.grownBy w2 v0.ownBlock := grown_trans gs hg2
  refine wpOp_at g2 (wanted_of u2) (wp_yields happ ⟨hS _ hgw, ?_⟩)
  rw [e2]
  refine wpAnyH_all r3 (by simp) fun k hk => ?_
  obtain rfl : k = i + 2 := by simpa using hk
  have has : (execOp ((a.put (some db) (.slice (some ⟨W.heap.size, 0, none⟩) 2 2)).put (some da) v2).eval os).run Try.prog w2 = .ok (.value v2) w2 := by
    have h1 := Act.eval_put_same (a.put (some db) (.slice (some ⟨W.heap.size, 0, none⟩) 2 2)) da v2 (by simpa [Act.put] using za)
    unfold execOp
    simp [k3, h1]
  refine wpOp_at g3 (wanted_of u3) (wp_yields has ⟨hS _ hgw, ?_⟩)
  rw [e3]
  exact wpAnyH_done r4 (hQ _ _ _ ho' hgw (hor.imp id (fun ⟨g', h1, h2⟩ => ⟨g', h1, by omega⟩))) _
end

end Go.Proofs.Ytpnddojcihdniaa
namespace Go.Proofs.Ytpnddojcihdniaa
open Go.RowKit

set_option maxRecDepth 100000
set_option maxHeartbeats 4000000

def rI (v k : Nat) : Nat := v ^ ((pF - 2) / 2 ^ k) % pF
theorem rI_step (v E : Nat) (b : Nat) (hb : b = 0 ∨ b = 1) : v ^ (2 * E + b) % pF = if b = 0 then fMul (v ^ E % pF) (v ^ E % pF) else fMul (fMul (v ^ E % pF) (v ^ E % pF)) v := by
  have h2 : fMul (v ^ E % pF) (v ^ E % pF) = v ^ (2 * E) % pF := by
    unfold fMul
    rw [← Nat.mul_mod, ← Nat.pow_add, Nat.two_mul]
  rw [h2]
  rcases hb with rfl | rfl
  · rw [if_pos rfl, Nat.add_zero]
  · rw [if_neg (by decide), Nat.pow_succ]
    unfold fMul
    rw [Nat.mod_mul_mod]
theorem rI_ex (v : Nat) : ∃ R : Nat → Nat, R 255 = 1 ∧ R 0 = fInv v ∧ (∀ j, j < 255 → R j = if j = 2 ∨ j = 4 then fMul (R (j + 1)) (R (j + 1)) else fMul (fMul (R (j + 1)) (R (j + 1))) v) := by
  refine ⟨rI v, ?_, ?_, fun j hj => ?_⟩
  · unfold rI
    rw [exp_none, Nat.pow_zero]
    decide
  · unfold rI fInv
    rw [Nat.pow_zero, Nat.div_one]
  · have h := rI_step v ((pF - 2) / 2 ^ (j + 1)) (if j = 2 ∨ j = 4 then 0 else 1) (by by_cases e : j = 2 ∨ j = 4 <;> simp [e])
    rw [← exp_bit j hj] at h
    by_cases e : j = 2 ∨ j = 4
    · rw [if_pos e] at h ⊢
      exact h
    · rw [if_neg e] at h ⊢
      exact h

theorem grown_nobody {w0 w1 w2 : World} {row : Option Nat} (h0 : w0.grownBy w1 none) (h1 : w1.grownBy w2 row) (hr : ∀ g, row = some g → w0.heap.size ≤ g) : w0.grownBy w2 none := by
  cases row with
  | none => exact grown_trans h0 h1
  | some g => exact grown_new h0 h1 (hr g rfl)
theorem refInverse_any (bx v : Nat) (w : World) (hx : NumAt w bx v) :
    Calls Try.prog 52 #[.slice (some ⟨bx, 0, none⟩) 16 16] w (GaveNum w (fInv v)) := by
  obtain ⟨R, h255, h0, hst⟩ := rI_ex v
  rw [← h0]
  have H255 := Lib.hid h255
  have HST := Lib.hid hst
  have HX := Lib.hid hx
  have HS := Lib.hid (refSmall_any 1 (by decide) w)
  clear h255 h0 hst hx
  go_enter Try.func52, Try.ntmps52
  go_wp2_with fail
  go_at_call 16
  refine HS.out.mono ?_
  rintro e w1 ⟨⟨b0, rfl, hb0, hF0⟩, g1⟩
  have hn0 : NumAt w1 b0 (R 255) := by rw [H255.out]; exact ⟨hF0, by decide⟩
  go_wp2_with fail
  go_loopw [3, 4] (fun u3 u4 wr => ∃ (k b : Nat) (z : Int), k ≤ 255 ∧ z + 1 = (k : Int) ∧ u4 = .int .i64 z ∧ u3 = .slice (some ⟨b, 0, none⟩) 16 16 ∧ w.heap.size ≤ b ∧ w.grownBy wr none ∧ NumAt wr b (R k)) (fun _ u4 _ => (intOf u4 + 1).toNat)
  case atStart => exact ⟨255, b0, 254, by omega, by omega, rfl, rfl, hb0, g1, hn0⟩
  case round =>
    clear hF0 hn0 g1 hb0
    obtain ⟨k, b, z, hk, hz, rfl, rfl, hb, hgr, hn⟩ := hrel
    by_cases hlt : k = 0
    · subst hlt
      have j1 : (z : Int) < 0 := by omega
      obtain rfl : z = -1 := by omega
      clear j1
      go_wp2_with fail
      go_ret
      exact ⟨⟨b, rfl, hb, hn⟩, hgr⟩
    · obtain ⟨j, rfl⟩ : ∃ j, k = j + 1 := ⟨k - 1, by omega⟩
      obtain rfl : z = (j : Int) := by omega
      have HJ := Lib.hid hk
      have hr := HST.out j (by omega)
      obtain ⟨r, hrr⟩ : ∃ r, r = R (j + 1) := ⟨_, rfl⟩
      rw [← hrr] at hn hr
      obtain ⟨q, hq⟩ : ∃ q, q = fMul r r := ⟨_, rfl⟩
      rw [← hq] at hr
      have HM := Lib.hid (refMul_any b b r r wr hn hn)
      rw [← hq] at HM
      have HR := Lib.hid hr
      have jz : (0 : Int) ≤ (j : Int) := by omega
      clear hk hz hlt hr hrr hq hn
      go_wp2_with fail
      go_at_call 14
      refine HM.out.mono ?_
      rintro e U ⟨⟨b2, rfl, hb2, hn2⟩, gU⟩
      have gr2 := grown_trans hgr gU
      have hb3 : w.heap.size ≤ b2 := by have := hgr.size; omega
      clear HM gU hb2 hgr hb

      by_cases e2 : j = 2
      · subst e2
        have hR := HR.out
        rw [if_pos (by decide)] at hR
        rw [← hR] at hn2
        clear hR jz
        have HN2 := Lib.hid hn2
        clear hn2
        go_wp2_with fail
        go_roundw
        case rel => exact ⟨2, b2, 1, by decide, by decide, by go_num, rfl, hb3, gr2, HN2.out⟩
        case measure => simp [intOf]

      by_cases e4 : j = 4
      · subst e4
        have hR := HR.out
        rw [if_pos (by decide)] at hR
        rw [← hR] at hn2
        clear hR jz
        have HN2 := Lib.hid hn2
        clear hn2
        go_wp2_with fail
        go_roundw
        case rel => exact ⟨4, b2, 3, by decide, by decide, by go_num, rfl, hb3, gr2, HN2.out⟩
        case measure => simp [intOf]

      have hR := HR.out
      rw [if_neg (by omega)] at hR
      have i2 : ((j : Int) != 2) = true := by rw [bne_iff_ne]; omega
      have i4 : ((j : Int) != 4) = true := by rw [bne_iff_ne]; omega
      have zj : IntKind.i64.wrap ((j : Int) - 1) = (j : Int) - 1 := by have := HJ.out; rw [IntKind.wrap_i64]; omega
      have j255 : (j : Int) < 255 := by have := HJ.out; omega
      have HM2 := Lib.hid (refMul_any b2 bx q v U hn2 (HX.out.grown gr2))
      rw [← hR] at HM2
      clear hR hn2 e2 e4
      go_wp2_with fail
      go_at_call 14
      refine HM2.out.mono ?_
      rintro e U2 ⟨⟨b4, rfl, hb4, hn4⟩, gU2⟩
      have gr4 := grown_trans gr2 gU2
      have hb5 : w.heap.size ≤ b4 := by have := gr2.size; omega
      clear HM2 gU2 hb4 gr2 hb3
      go_wp2_with fail
      go_roundw
      case rel => exact ⟨j, b4, (j : Int) - 1, by have := HJ.out; omega, Int.sub_add_cancel _ _, by first | rfl | rw [zj] | go_num, rfl, hb5, gr4, hn4⟩
      case measure =>
        simp [intOf]
        try omega


theorem refBytes_any (bx v : Nat) (w : World) (hx : NumAt w bx v) :
    Calls Try.prog 18 #[.slice (some ⟨bx, 0, none⟩) 16 16] w (GaveN w 32 (lim 8 v)) := by
  have HX := Lib.hid hx
  have HL := Lib.hid hx.lt
  obtain ⟨S, hS⟩ : ∃ S, S = lim 8 v := ⟨_, rfl⟩
  rw [← hS]
  have HS := Lib.hid hS
  clear hx hS
  go_enter Try.func18, Try.ntmps18
  go_wp2_with fail
  go_loopw [3, 4] (fun u3 u4 wr => ∃ i : Nat, i ≤ 16 ∧ u4 = .int .i64 i ∧ w.grownBy wr none ∧ OwnV wr u3 (2 * i) S ∧ ∀ g, u3.ownBlock = some g → w.heap.size ≤ g) (fun _ u4 _ => 16 - (intOf u4).toNat)
  case atStart => exact ⟨0, by omega, rfl, grown_refl w none, (OwnN.nil w w.heap.size S).toV, fun g hg => by cases hg⟩
  case round =>
    obtain ⟨i, hi, rfl, hgr, ho, hb⟩ := hrel
    by_cases hlt : i < 16
    · have j1 : (i : Int) < 16 := by omega
      have gV : wr.grownBy wr.drew none := grown_drew (grown_refl wr none)
      have hgV := grown_trans hgr gV
      have cx := (HX.out.grown hgV).fill.cell i hlt
      have hoV := ho.grown gV
      obtain ⟨x, hxx⟩ : ∃ x, x = lim 16 v i := ⟨_, rfl⟩
      rw [← hxx] at cx
      have xl : x < 65536 := by rw [hxx]; exact lim16_lt v i
      obtain ⟨c, hc⟩ : ∃ c, c = x % 256 := ⟨_, rfl⟩
      obtain ⟨d, hd⟩ : ∃ d, d = x / 256 := ⟨_, rfl⟩
      have hc1 : c = S (2 * i) := by rw [hc, hxx, HS.out]; exact lim_byte0 v i
      have hd1 : d = S (2 * i + 1) := by rw [hd, hxx, HS.out]; exact lim_byte1 v i
      have z1 : (x : Int).tmod 256 = (c : Int) := by rw [Int.tmod_eq_emod_of_nonneg (by omega)]; omega
      have z2 : (x : Int).tdiv 256 = (d : Int) := by rw [Int.tdiv_eq_ediv_of_nonneg (by omega)]; omega
      have z3 : IntKind.u64.wrap (c : Int) = (c : Int) := by rw [IntKind.wrap_u64]; omega
      have z4 : IntKind.u64.wrap (d : Int) = (d : Int) := by rw [IntKind.wrap_u64]; omega
      have z5 : IntKind.u8.wrap (c : Int) = (c : Int) := by rw [IntKind.wrap_u8]; omega
      have z6 : IntKind.u8.wrap (d : Int) = (d : Int) := by rw [IntKind.wrap_u8]; omega
      have HC1 := Lib.hid hc1
      have HD1 := Lib.hid hd1
      have HG := Lib.hid hgV
      have HO := Lib.hid hoV
      have HI := Lib.hid hlt
      clear hi hlt hgr gV hgV ho hoV hxx xl hc hd hc1 hd1
      go_wp2_with fail
      refine wp_region_held (S := fun W => W.cell? ⟨bx, i, none⟩ = some (.int .u64 (x : Nat))) (by kernel_rfl) ?_
      change wpAnyH _ _ _ _ _ 16 #[false, false, false, false, false, false, false, false, false, false, false, false, false, false, false, false] _ (World.drew _)
      have hS0 : (World.drew wr).cell? ⟨bx, i, none⟩ = some (.int .u64 (x : Nat)) := cx
      have hg0 := HG.out
      have ho0 := HO.out
      clear HG HO cx
      generalize World.drew wr = W0 at *
      refine wpAnyH_takeD (some 9) (i := 0) (v := u3) rfl rfl (by kernel_rfl) (by kernel_rfl) (by kernel_rfl) (fun _ _ _ h => h) (Or.inl ⟨rfl, fun _ _ => rfl⟩) hS0 ?_
      simp only [Act.put, List.setIfInBounds_toArray, List.set_cons_succ, List.set_cons_zero]
      refine wpAnyH_takeD (some 10) (i := 1) (v := .slice (some ⟨bx, 0, none⟩) 16 16) rfl rfl (by kernel_rfl) (by kernel_rfl) (by kernel_rfl) (fun _ _ _ h => h) (Or.inl ⟨rfl, fun _ _ => rfl⟩) hS0 ?_
      simp only [Act.put, List.setIfInBounds_toArray, List.set_cons_succ, List.set_cons_zero]
      refine wpAnyH_takeD (some 11) (i := 2) (v := .int .i64 (i : Nat)) rfl rfl (by kernel_rfl) (by kernel_rfl) (by kernel_rfl) (fun _ _ _ h => h) (Or.inl ⟨rfl, fun _ _ => rfl⟩) hS0 ?_
      simp only [Act.put, List.setIfInBounds_toArray, List.set_cons_succ, List.set_cons_zero]
      refine wpAnyH_takeD (some 12) (i := 3) (v := .pointer (some ⟨bx, i, none⟩)) rfl rfl (by kernel_rfl) (by kernel_rfl) (by kernel_rfl) (fun _ _ _ h => h) (Or.inl ⟨rfl, fun W _ => by go_simp⟩) hS0 ?_
      simp only [Act.put, List.setIfInBounds_toArray, List.set_cons_succ, List.set_cons_zero]
      refine wpAnyH_takeD (some 13) (i := 4) (v := .int .u64 (x : Nat)) rfl rfl (by kernel_rfl) (by kernel_rfl) (by kernel_rfl) (fun _ _ _ h => h) (Or.inl ⟨rfl, fun W hW => by have c1 := hW; go_simp⟩) hS0 ?_
      simp only [Act.put, List.setIfInBounds_toArray, List.set_cons_succ, List.set_cons_zero]
      refine wpAnyH_takeD (some 14) (i := 5) (v := .int .u64 (c : Nat)) rfl rfl (by kernel_rfl) (by kernel_rfl) (by kernel_rfl) (fun _ _ _ h => h) (Or.inl ⟨rfl, fun W _ => by go_simp⟩) hS0 ?_
      simp only [Act.put, List.setIfInBounds_toArray, List.set_cons_succ, List.set_cons_zero]
      refine wpAnyH_takeD (some 15) (i := 6) (v := .int .u8 (c : Nat)) rfl rfl (by kernel_rfl) (by kernel_rfl) (by kernel_rfl) (fun _ _ _ h => h) (Or.inl ⟨rfl, fun W _ => by go_simp⟩) hS0 ?_
      simp only [Act.put, List.setIfInBounds_toArray, List.set_cons_succ, List.set_cons_zero]
      refine wpAnyH_takeD (some 16) (i := 7) (v := .slice (some ⟨bx, 0, none⟩) 16 16) rfl rfl (by kernel_rfl) (by kernel_rfl) (by kernel_rfl) (fun _ _ _ h => h) (Or.inl ⟨rfl, fun _ _ => rfl⟩) hS0 ?_
      simp only [Act.put, List.setIfInBounds_toArray, List.set_cons_succ, List.set_cons_zero]
      refine wpAnyH_takeD (some 17) (i := 8) (v := .int .i64 (i : Nat)) rfl rfl (by kernel_rfl) (by kernel_rfl) (by kernel_rfl) (fun _ _ _ h => h) (Or.inl ⟨rfl, fun _ _ => rfl⟩) hS0 ?_
      simp only [Act.put, List.setIfInBounds_toArray, List.set_cons_succ, List.set_cons_zero]
      refine wpAnyH_takeD (some 18) (i := 9) (v := .pointer (some ⟨bx, i, none⟩)) rfl rfl (by kernel_rfl) (by kernel_rfl) (by kernel_rfl) (fun _ _ _ h => h) (Or.inl ⟨rfl, fun W _ => by go_simp⟩) hS0 ?_
      simp only [Act.put, List.setIfInBounds_toArray, List.set_cons_succ, List.set_cons_zero]
      refine wpAnyH_takeD (some 19) (i := 10) (v := .int .u64 (x : Nat)) rfl rfl (by kernel_rfl) (by kernel_rfl) (by kernel_rfl) (fun _ _ _ h => h) (Or.inl ⟨rfl, fun W hW => by have c1 := hW; go_simp⟩) hS0 ?_
      simp only [Act.put, List.setIfInBounds_toArray, List.set_cons_succ, List.set_cons_zero]
      refine wpAnyH_takeD (some 20) (i := 11) (v := .int .u64 (d : Nat)) rfl rfl (by kernel_rfl) (by kernel_rfl) (by kernel_rfl) (fun _ _ _ h => h) (Or.inl ⟨rfl, fun W _ => by go_simp⟩) hS0 ?_
      simp only [Act.put, List.setIfInBounds_toArray, List.set_cons_succ, List.set_cons_zero]
      refine wpAnyH_takeD (some 21) (i := 12) (v := .int .u8 (d : Nat)) rfl rfl (by kernel_rfl) (by kernel_rfl) (by kernel_rfl) (fun _ _ _ h => h) (Or.inl ⟨rfl, fun W _ => by go_simp⟩) hS0 ?_
      simp only [Act.put, List.setIfInBounds_toArray, List.set_cons_succ, List.set_cons_zero]
      refine append_two_tailV (v0 := u3) (m := 2 * i) (v := c) (u := d) (f := S) 13 _ _ _ 9 15 21 22 23 3 rfl rfl rfl rfl rfl rfl rfl rfl rfl rfl rfl rfl rfl (by kernel_rfl) (by kernel_rfl) (by kernel_rfl) (by kernel_rfl) rfl rfl rfl (by decide) (by simp) (by simp) ho0 (by have := HI.out; omega)
        (fun W' hg => hg.cell hS0 (fun e => by have h9 := hb _ e.symm; have h8 := HL.out; change w.heap.size ≤ bx at h9; omega)) ?_
      intro B v' W3 hO3 hg3 hor
      simp only [Act.put, List.setIfInBounds_toArray, List.set_cons_succ, List.set_cons_zero]
      have hO4 : OwnV W3 v' (2 * (i + 1)) S := hO3.congr (fun z hz => by
        unfold cat pairF
        by_cases e : z < 2 * i
        · rw [if_pos e]
        · rw [if_neg e]
          by_cases e2 : z - 2 * i = 0
          · rw [if_pos e2, HC1.out, show z = 2 * i by omega]
          · rw [if_neg e2, HD1.out, show z = 2 * i + 1 by omega])
      have hb4 : ∀ g, v'.ownBlock = some g → w.heap.size ≤ g := fun g hg => by
        rcases hor with e | ⟨g', e, h5⟩
        · rw [e] at hg
          exact hb g hg
        · rw [e] at hg
          cases hg
          have := hg0.size
          omega
      have hg4 : w.grownBy W3 none := grown_nobody hg0 hg3 hb
      clear hO3 hg3 hor hg0 ho0 hb hS0 z1 z2 z3 z4 z5 z6
      go_wp2_with fail
      go_roundw
      case rel => exact ⟨i + 1, by have := HI.out; omega, by go_num, hg4, hO4, hb4⟩
      case measure =>
        have := HI.out
        simp [intOf]
        try omega
    · obtain rfl : i = 16 := by omega
      have HO := Lib.hid ho
      have HB := Lib.hid hb
      have HG := Lib.hid hgr
      clear ho hb hgr hi hlt
      go_wp2_with fail
      go_ret
      exact ⟨⟨u3, rfl, HO.out.toN HB.out, HG.out⟩⟩

end Go.Proofs.Ytpnddojcihdniaa
namespace Go.Proofs.Ytpnddojcihdniaa
open Go.RowKit Go.Shelf

set_option maxRecDepth 100000
set_option maxHeartbeats 8000000

/-- A number's slice. -/
def NumV (v : Nat) (x : Value) (W : World) : Prop := ∃ b, x = .slice (some ⟨b, 0, none⟩) 16 16 ∧ NumAt W b v
theorem NumV.grown {v : Nat} {x : Value} {W W' : World} (h : NumV v x W) (g : W.grownBy W' none) : NumV v x W' := by
  obtain ⟨b, h1, h2⟩ := h
  exact ⟨b, h1, h2.grown g⟩
theorem GaveNum.v {w : World} {v : Nat} {e : Ending} {w' : World} (h : GaveNum w v e w') : ∃ x, e = .returned x ∧ w.grownBy w' none ∧ NumV v x w' := by
  obtain ⟨⟨b, h1, _, h3⟩, h4⟩ := h
  exact ⟨_, h1, h4, b, rfl, h3⟩
theorem run_slice32 {o : Oper} {a : Act} {W : World} {B : Nat} (t : Nat) (ho : o.op = .slice 22 (.tmp t) none none none) (h : slotv a t = .pointer (some ⟨B, 0, none⟩)) : (execOp a.eval o).run Try.prog W = .ok (.value (.slice (some ⟨B, 0, none⟩) 32 32)) W := by
  have h1 : a.tmps[t]?.getD undef = .pointer (some ⟨B, 0, none⟩) := h
  unfold execOp
  simp only [ho]
  go_simp
theorem run_num5 {o : Oper} {a : Act} {W : World} {B : Nat} {f : Nat → Nat} {t : Tmp} (h : Holds W B 28 .u64 5 f) (ho : o.op = .load 28 (.tmp t)) (ha : a.eval (.tmp t) = .pointer (some ⟨B, 0, none⟩)) :
    (execOp a.eval o).run Try.prog W = .ok (.value (.agg (cellsOf .u64 5 f))) W := by
  obtain ⟨d, h1, h2⟩ := under_row (P := Try.prog) (T := 28) (by kernel_rfl)
  exact run_row 28 d h ho ha h1 (by cases d <;> first | rfl | exact h2) (by kernel_rfl)
theorem lim8_lt (v i : Nat) : lim 8 v i < 256 := Nat.mod_lt _ (by decide)
theorem lim8_inj (v u : Nat) (hv : v < pF) (hu : u < pF) (h : ∀ i, i < 32 → lim 8 v i = lim 8 u i) : v = u := by
  have h1 := val_lim 8 v 32
  have h2 := val_lim 8 u 32
  rw [val_congr (y := lim 8 u) 8 32 h] at h1
  have h3 : pF < 2 ^ (8 * 32) := by decide
  rw [Nat.mod_eq_of_lt (by omega)] at h1 h2
  omega
theorem str_is (v u : Nat) (hv : v < pF) (hu : u < pF) : decide (strOf 32 (lim 8 v) = strOf 32 (lim 8 u)) = decide (v = u) := by
  refine decide_eq_decide.2 ((strOf_inj 32 32 _ _ (lim8_lt v) (lim8_lt u)).trans ⟨fun h => lim8_inj v u hv hu h.2, fun h => ?_⟩)
  subst h
  exact ⟨rfl, fun _ _ => rfl⟩

theorem ofV_lim (v : Nat) (hv : v < pF) : ofV (lim 8 v) = v := by
  unfold ofV
  have h3 : pF < 57896044618658097711785492504343953926634992332820282019728792003956564819968 := by decide
  rw [val_lim, Nat.mod_eq_of_lt (show v < 2 ^ (8 * 32) from Nat.lt_trans hv (by decide)), Nat.mod_eq_of_lt (Nat.lt_trans hv h3), Nat.mod_eq_of_lt hv]
theorem Holds.rd32 {w : World} {B : Nat} {f : Nat → Nat} (h : Holds w B 22 .u8 32 f) : Rd w w.heap.size (some ⟨B, 0, none⟩) 32 f := ⟨fun _ => ⟨B, 0, rfl, h.lt, fun i hi => by rw [Nat.zero_add]; exact h.cell i hi⟩⟩
end Go.Proofs.Ytpnddojcihdniaa
namespace Go.Proofs.Ytpnddojcihdniaa
open Go.RowKit Go.Shelf

set_option maxRecDepth 100000
set_option maxHeartbeats 2000000

/-- A pair's limbs. -/
def prL (x z : Nat → Nat) (j : Nat) : Nat := if j < 5 then x j else z (j - 5)
/-- A new block of noughts. -/
def NewB (m : Nat) (T : TypeId) (k : IntKind) (n : Nat) (x : Value) (W : World) : Prop := ∃ B, x = .pointer (some ⟨B, 0, none⟩) ∧ m ≤ B ∧ Holds W B T k n (fun _ => 0)
theorem NewB.grown {m : Nat} {T : TypeId} {k : IntKind} {n : Nat} {x : Value} {W W' : World} (h : NewB m T k n x W) (g : W.grownBy W' none) : NewB m T k n x W' := by
  obtain ⟨B, h1, h2, h3⟩ := h
  exact ⟨B, h1, h2, h3.grown g (by simp)⟩
theorem NewB.at {m : Nat} {T : TypeId} {k : IntKind} {n : Nat} {x : Value} {W : World} (h : NewB m T k n x W) : ∃ B, x = .pointer (some ⟨B, 0, none⟩) ∧ B < W.heap.size := by
  obtain ⟨B, h1, _, h3⟩ := h
  exact ⟨B, h1, h3.lt⟩
theorem Holds.lo {W : World} {B T : Nat} {x z : Nat → Nat} (h : Holds W B T .u64 10 (prL x z)) (j : Nat) (hj : j < 5) : W.cell? ⟨B, 0 + j, none⟩ = some (.int .u64 (x j : Nat)) := by
  have := h.cell j (by omega)
  rw [Nat.zero_add]
  rwa [show prL x z j = x j from if_pos hj] at this
theorem Holds.hi {W : World} {B T : Nat} {x z : Nat → Nat} (h : Holds W B T .u64 10 (prL x z)) (j : Nat) (hj : j < 5) : W.cell? ⟨B, 5 + j, none⟩ = some (.int .u64 (z j : Nat)) := by
  have := h.cell (5 + j) (by omega)
  rwa [show prL x z (5 + j) = z j from by unfold prL; rw [if_neg (by omega), Nat.add_sub_cancel_left]] at this
theorem run_num_at {o : Oper} {a : Act} {W : World} {B off : Nat} {f : Nat → Nat} {t : Tmp} (h : ∀ j, j < 5 → W.cell? ⟨B, off + j, none⟩ = some (.int .u64 (f j : Nat))) (ho : o.op = .load 28 (.tmp t)) (ha : a.eval (.tmp t) = .pointer (some ⟨B, off, none⟩)) :
    (execOp a.eval o).run Try.prog W = .ok (.value (.agg (cellsOf .u64 5 f))) W := by
  obtain ⟨d, d1, d2⟩ := under_row (P := Try.prog) (T := 28) (by kernel_rfl)
  have hl := run_loadAt_mid (P := Try.prog) W B off 28 (cellsOf .u64 5 f).toList d (fun j v hv => by
    rw [Array.getElem?_toList] at hv
    have hj : j < 5 := by
      have := (Array.getElem?_eq_some_iff.1 hv).1
      rwa [cellsOf_size] at this
    rw [cellsOf_get _ _ _ _ hj] at hv
    cases hv
    exact h j hj) d1 (by cases d <;> first | rfl | exact d2) (by rw [Array.length_toList, cellsOf_size]; kernel_rfl)
  rw [Array.toArray_toList] at hl
  unfold execOp
  simp only [ho, ha, Sem.run_bind, Sem.run_pure, Result.andThen_ok, hl]
theorem run_pair {o : Oper} {a : Act} {W : World} {B : Nat} {f : Nat → Nat} {t : Tmp} (h : Holds W B 79 .u64 10 f) (ho : o.op = .load 79 (.tmp t)) (ha : a.eval (.tmp t) = .pointer (some ⟨B, 0, none⟩)) :
    (execOp a.eval o).run Try.prog W = .ok (.value (.agg (cellsOf .u64 10 f))) W := by
  obtain ⟨d, h1, h2⟩ := under_row (P := Try.prog) (T := 79) (by kernel_rfl)
  exact run_row 79 d h ho ha h1 (by cases d <;> first | rfl | exact h2) (by kernel_rfl)
theorem res_two {P : Program} {fn : Func} {p q : Tmp} {T U : TypeId} {n m : Nat} {k l : IntKind} {f h : Nat → Nat} {tmps : Array Value} {w : World} {g b : Nat} {t s : TypeId} (hr : fn.results = #[.cell p T, .cell q U]) (hp : tmps.getD p undef = .pointer (some ⟨g, 0, none⟩)) (hq : tmps.getD q undef = .pointer (some ⟨b, 0, none⟩))
    (H : Holds w g t k n f) (J : Holds w b s l m h)
    (hu : (P.underlying T).map (fun d => match d with | .struct _ | .array _ _ => true | _ => false) = some true) (hi : (P.info? T).map (·.size) = some n)
    (hv : (P.underlying U).map (fun d => match d with | .struct _ | .array _ _ => true | _ => false) = some true) (hj : (P.info? U).map (·.size) = some m) : (results fn tmps).run P w = .ok (.tuple #[.agg (cellsOf k n f), .agg (cellsOf l m h)]) w := by
  obtain ⟨d, d1, d2⟩ := under_row hu
  obtain ⟨e, e1, e2⟩ := under_row hv
  have hp' : tmps[p]?.getD undef = .pointer (some ⟨g, 0, none⟩) := by simpa using hp
  have hq' : tmps[q]?.getD undef = .pointer (some ⟨b, 0, none⟩) := by simpa using hq
  have r1 := run_loadVar_row (P := P) w g t T (cellsOf k n f) (0, 0) d H.block d1 (by cases d <;> first | rfl | exact d2) (by rw [cellsOf_size]; exact hi)
  have r2 := run_loadVar_row (P := P) w b s U (cellsOf l m h) (0, 0) e J.block e1 (by cases e <;> first | rfl | exact e2) (by rw [cellsOf_size]; exact hj)
  simp [results, hr, hp', hq', asAddr, r1, r2]
theorem res_cell_tmp {P : Program} {fn : Func} {p q : Tmp} {T : TypeId} {n : Nat} {k : IntKind} {f : Nat → Nat} {v : Value} {tmps : Array Value} {w : World} {g : Nat} {t : TypeId} (hr : fn.results = #[.cell p T, .tmp q]) (hp : tmps.getD p undef = .pointer (some ⟨g, 0, none⟩)) (hq : tmps.getD q undef = v)
    (H : Holds w g t k n f)
    (hu : (P.underlying T).map (fun d => match d with | .struct _ | .array _ _ => true | _ => false) = some true) (hi : (P.info? T).map (·.size) = some n) : (results fn tmps).run P w = .ok (.tuple #[.agg (cellsOf k n f), v]) w := by
  obtain ⟨d, d1, d2⟩ := under_row hu
  have hp' : tmps[p]?.getD undef = .pointer (some ⟨g, 0, none⟩) := by simpa using hp
  have hq' : tmps[q]?.getD undef = v := by simpa using hq
  have r1 := run_loadVar_row (P := P) w g t T (cellsOf k n f) (0, 0) d H.block d1 (by cases d <;> first | rfl | exact d2) (by rw [cellsOf_size]; exact hi)
  simp [results, hr, hp', hq', asAddr, r1]
theorem square_enters (args : Array Value) (w : World) : (callFunc 56 args).run Try.prog w = .ok (.enter 56 args) w := enters_of Try.func56 (by kernel_rfl) rfl args w
theorem step_enters (args : Array Value) (w : World) : (callFunc 49 args).run Try.prog w = .ok (.enter 49 args) w := enters_of Try.func49 (by kernel_rfl) rfl args w
theorem cells5 (x : Nat → Nat) : cellsOf .u64 5 x = #[.int .u64 (x 0 : Nat), .int .u64 (x 1 : Nat), .int .u64 (x 2 : Nat), .int .u64 (x 3 : Nat), .int .u64 (x 4 : Nat)] := rfl
theorem cells10 (x z : Nat → Nat) : cellsOf .u64 10 (prL x z) = #[.int .u64 (x 0 : Nat), .int .u64 (x 1 : Nat), .int .u64 (x 2 : Nat), .int .u64 (x 3 : Nat), .int .u64 (x 4 : Nat), .int .u64 (z 0 : Nat), .int .u64 (z 1 : Nat), .int .u64 (z 2 : Nat), .int .u64 (z 3 : Nat), .int .u64 (z 4 : Nat)] := rfl
/-- A pair is built of two numbers. -/
theorem run_build2 {o : Oper} {a : Act} {W : World} {x z : Nat → Nat} {s t : Tmp} (ho : o.op = .build 79 #[(0, .tmp s), (1, .tmp t)]) (h0 : a.tmps[s]?.getD undef = .agg (cellsOf .u64 5 x)) (h1 : a.tmps[t]?.getD undef = .agg (cellsOf .u64 5 z)) :
    (execOp a.eval o).run Try.prog W = .ok (.value (.agg (cellsOf .u64 10 (prL x z)))) W := by
  rw [cells5] at h0 h1
  rw [cells10]
  unfold execOp
  simp only [ho]
  go_simp
theorem run_build1 {o : Oper} {a : Act} {W : World} {x : Nat → Nat} {s : Tmp} (ho : o.op = .build 79 #[(0, .tmp s)]) (h0 : a.tmps[s]?.getD undef = .agg (cellsOf .u64 5 x)) :
    (execOp a.eval o).run Try.prog W = .ok (.value (.agg (cellsOf .u64 10 (prL x (fun _ => 0))))) W := by
  rw [cells5] at h0
  rw [cells10]
  unfold execOp
  simp only [ho]
  go_simp
theorem run_newpair {o : Oper} {a : Act} {W : World} (ho : o.op = .alloc 79) :
    (execOp a.eval o).run Try.prog W = .ok (.value (.pointer (some ⟨W.heap.size, 0, none⟩))) (W.alloc (.cells (cellsOf .u64 10 (fun _ => 0)) 79)) := by
  rw [show cellsOf .u64 10 (fun _ => 0) = #[.int .u64 0, .int .u64 0, .int .u64 0, .int .u64 0, .int .u64 0, .int .u64 0, .int .u64 0, .int .u64 0, .int .u64 0, .int .u64 0] from rfl]
  unfold execOp
  simp only [ho]
  go_simp
end Go.Proofs.Ytpnddojcihdniaa
namespace Go.Proofs.Ytpnddojcihdniaa
open Go.RowKit Go.Shelf

set_option maxRecDepth 100000
set_option maxHeartbeats 8000000

theorem cstep_any {x2 z2 x3 z3 u : Nat → Nat} {X2 Z2 X3 Z3 U : Nat} (ix2 : Is5 x2 X2) (iz2 : Is5 z2 Z2) (ix3 : Is5 x3 X3) (iz3 : Is5 z3 Z3) (iu : Is5 u U) :
    ∃ y2 v2 y3 v3, Is5 y2 (Lad.step U ⟨X2, Z2, X3, Z3⟩).x2 ∧ Is5 v2 (Lad.step U ⟨X2, Z2, X3, Z3⟩).z2 ∧ Is5 y3 (Lad.step U ⟨X2, Z2, X3, Z3⟩).x3 ∧ Is5 v3 (Lad.step U ⟨X2, Z2, X3, Z3⟩).z3 ∧
      ∀ w, Calls Try.prog 49 #[.agg (cellsOf .u64 10 (prL x2 z2)), .agg (cellsOf .u64 10 (prL x3 z3)), .agg (cellsOf .u64 5 u)] w fun e w' => e = .returned (.tuple #[.agg (cellsOf .u64 10 (prL y2 v2)), .agg (cellsOf .u64 10 (prL y3 v3))]) ∧ w.grownBy w' none := by
  obtain ⟨a, ia, Ha⟩ : ∃ z, Is5 z (fAdd X2 Z2) ∧ Hid (∀ W, Calls Try.prog 9 #[.agg (cellsOf .u64 5 x2), .agg (cellsOf .u64 5 z2)] W fun e w' => e = .returned (.agg (cellsOf .u64 5 z)) ∧ W.grownBy w' none) := ⟨_, ix2.add iz2, Lib.hid (add_any ix2 iz2)⟩
  obtain ⟨b, ib, Hb⟩ : ∃ z, Is5 z (fSub X2 Z2) ∧ Hid (∀ W, Calls Try.prog 11 #[.agg (cellsOf .u64 5 x2), .agg (cellsOf .u64 5 z2)] W fun e w' => e = .returned (.agg (cellsOf .u64 5 z)) ∧ W.grownBy w' none) := ⟨_, ix2.sub iz2, Lib.hid (sub_any ix2 iz2)⟩
  obtain ⟨c, ic, Hc⟩ : ∃ z, Is5 z (fAdd X3 Z3) ∧ Hid (∀ W, Calls Try.prog 9 #[.agg (cellsOf .u64 5 x3), .agg (cellsOf .u64 5 z3)] W fun e w' => e = .returned (.agg (cellsOf .u64 5 z)) ∧ W.grownBy w' none) := ⟨_, ix3.add iz3, Lib.hid (add_any ix3 iz3)⟩
  obtain ⟨d, id, Hd⟩ : ∃ z, Is5 z (fSub X3 Z3) ∧ Hid (∀ W, Calls Try.prog 11 #[.agg (cellsOf .u64 5 x3), .agg (cellsOf .u64 5 z3)] W fun e w' => e = .returned (.agg (cellsOf .u64 5 z)) ∧ W.grownBy w' none) := ⟨_, ix3.sub iz3, Lib.hid (sub_any ix3 iz3)⟩
  obtain ⟨aa, iaa, Haa⟩ : ∃ z, Is5 z (fMul (fAdd X2 Z2) (fAdd X2 Z2)) ∧ Hid (∀ W, Calls Try.prog 56 #[.agg (cellsOf .u64 5 a)] W fun e w' => e = .returned (.agg (cellsOf .u64 5 z)) ∧ W.grownBy w' none) := ⟨_, ia.mul ia, Lib.hid (square_any ia)⟩
  obtain ⟨bb, ibb, Hbb⟩ : ∃ z, Is5 z (fMul (fSub X2 Z2) (fSub X2 Z2)) ∧ Hid (∀ W, Calls Try.prog 56 #[.agg (cellsOf .u64 5 b)] W fun e w' => e = .returned (.agg (cellsOf .u64 5 z)) ∧ W.grownBy w' none) := ⟨_, ib.mul ib, Lib.hid (square_any ib)⟩
  obtain ⟨e, ie, He⟩ : ∃ z, Is5 z (fSub (fMul (fAdd X2 Z2) (fAdd X2 Z2)) (fMul (fSub X2 Z2) (fSub X2 Z2))) ∧ Hid (∀ W, Calls Try.prog 11 #[.agg (cellsOf .u64 5 aa), .agg (cellsOf .u64 5 bb)] W fun e w' => e = .returned (.agg (cellsOf .u64 5 z)) ∧ W.grownBy w' none) := ⟨_, iaa.sub ibb, Lib.hid (sub_any iaa ibb)⟩
  obtain ⟨da, ida, Hda⟩ : ∃ z, Is5 z (fMul (fSub X3 Z3) (fAdd X2 Z2)) ∧ Hid (∀ W, Calls Try.prog 13 #[.agg (cellsOf .u64 5 d), .agg (cellsOf .u64 5 a)] W fun e w' => e = .returned (.agg (cellsOf .u64 5 z)) ∧ W.grownBy w' none) := ⟨_, id.mul ia, Lib.hid (mul_any id ia)⟩
  obtain ⟨cb, icb, Hcb⟩ : ∃ z, Is5 z (fMul (fAdd X3 Z3) (fSub X2 Z2)) ∧ Hid (∀ W, Calls Try.prog 13 #[.agg (cellsOf .u64 5 c), .agg (cellsOf .u64 5 b)] W fun e w' => e = .returned (.agg (cellsOf .u64 5 z)) ∧ W.grownBy w' none) := ⟨_, ic.mul ib, Lib.hid (mul_any ic ib)⟩
  obtain ⟨tx, itx, Htx⟩ : ∃ z, Is5 z (fMul (fMul (fAdd X2 Z2) (fAdd X2 Z2)) (fMul (fSub X2 Z2) (fSub X2 Z2))) ∧ Hid (∀ W, Calls Try.prog 13 #[.agg (cellsOf .u64 5 aa), .agg (cellsOf .u64 5 bb)] W fun e w' => e = .returned (.agg (cellsOf .u64 5 z)) ∧ W.grownBy w' none) := ⟨_, iaa.mul ibb, Lib.hid (mul_any iaa ibb)⟩
  obtain ⟨sm, ism, Hsm⟩ : ∃ z, Is5 z 121665 ∧ Hid (∀ W, Calls Try.prog 15 #[.int .u32 121665] W fun e w' => e = .returned (.agg (cellsOf .u64 5 z)) ∧ W.grownBy w' none) := ⟨_, is5_small 121665 (by decide), Lib.hid (small_any 121665 (by decide))⟩
  obtain ⟨me, ime, Hme⟩ : ∃ z, Is5 z (fMul 121665 (fSub (fMul (fAdd X2 Z2) (fAdd X2 Z2)) (fMul (fSub X2 Z2) (fSub X2 Z2)))) ∧ Hid (∀ W, Calls Try.prog 13 #[.agg (cellsOf .u64 5 sm), .agg (cellsOf .u64 5 e)] W fun e w' => e = .returned (.agg (cellsOf .u64 5 z)) ∧ W.grownBy w' none) := ⟨_, ism.mul ie, Lib.hid (mul_any ism ie)⟩
  obtain ⟨ae, iae, Hae⟩ : ∃ z, Is5 z (fAdd (fMul (fAdd X2 Z2) (fAdd X2 Z2)) (fMul 121665 (fSub (fMul (fAdd X2 Z2) (fAdd X2 Z2)) (fMul (fSub X2 Z2) (fSub X2 Z2))))) ∧ Hid (∀ W, Calls Try.prog 9 #[.agg (cellsOf .u64 5 aa), .agg (cellsOf .u64 5 me)] W fun e w' => e = .returned (.agg (cellsOf .u64 5 z)) ∧ W.grownBy w' none) := ⟨_, iaa.add ime, Lib.hid (add_any iaa ime)⟩
  obtain ⟨tz, itz, Htz⟩ : ∃ z, Is5 z (fMul (fSub (fMul (fAdd X2 Z2) (fAdd X2 Z2)) (fMul (fSub X2 Z2) (fSub X2 Z2))) (fAdd (fMul (fAdd X2 Z2) (fAdd X2 Z2)) (fMul 121665 (fSub (fMul (fAdd X2 Z2) (fAdd X2 Z2)) (fMul (fSub X2 Z2) (fSub X2 Z2)))))) ∧ Hid (∀ W, Calls Try.prog 13 #[.agg (cellsOf .u64 5 e), .agg (cellsOf .u64 5 ae)] W fun e w' => e = .returned (.agg (cellsOf .u64 5 z)) ∧ W.grownBy w' none) := ⟨_, ie.mul iae, Lib.hid (mul_any ie iae)⟩
  obtain ⟨ss, iss, Hss⟩ : ∃ z, Is5 z (fAdd (fMul (fSub X3 Z3) (fAdd X2 Z2)) (fMul (fAdd X3 Z3) (fSub X2 Z2))) ∧ Hid (∀ W, Calls Try.prog 9 #[.agg (cellsOf .u64 5 da), .agg (cellsOf .u64 5 cb)] W fun e w' => e = .returned (.agg (cellsOf .u64 5 z)) ∧ W.grownBy w' none) := ⟨_, ida.add icb, Lib.hid (add_any ida icb)⟩
  obtain ⟨sx, isx, Hsx⟩ : ∃ z, Is5 z (fMul (fAdd (fMul (fSub X3 Z3) (fAdd X2 Z2)) (fMul (fAdd X3 Z3) (fSub X2 Z2))) (fAdd (fMul (fSub X3 Z3) (fAdd X2 Z2)) (fMul (fAdd X3 Z3) (fSub X2 Z2)))) ∧ Hid (∀ W, Calls Try.prog 56 #[.agg (cellsOf .u64 5 ss)] W fun e w' => e = .returned (.agg (cellsOf .u64 5 z)) ∧ W.grownBy w' none) := ⟨_, iss.mul iss, Lib.hid (square_any iss)⟩
  obtain ⟨sd, isd, Hsd⟩ : ∃ z, Is5 z (fSub (fMul (fSub X3 Z3) (fAdd X2 Z2)) (fMul (fAdd X3 Z3) (fSub X2 Z2))) ∧ Hid (∀ W, Calls Try.prog 11 #[.agg (cellsOf .u64 5 da), .agg (cellsOf .u64 5 cb)] W fun e w' => e = .returned (.agg (cellsOf .u64 5 z)) ∧ W.grownBy w' none) := ⟨_, ida.sub icb, Lib.hid (sub_any ida icb)⟩
  obtain ⟨s2, is2, Hs2⟩ : ∃ z, Is5 z (fMul (fSub (fMul (fSub X3 Z3) (fAdd X2 Z2)) (fMul (fAdd X3 Z3) (fSub X2 Z2))) (fSub (fMul (fSub X3 Z3) (fAdd X2 Z2)) (fMul (fAdd X3 Z3) (fSub X2 Z2)))) ∧ Hid (∀ W, Calls Try.prog 56 #[.agg (cellsOf .u64 5 sd)] W fun e w' => e = .returned (.agg (cellsOf .u64 5 z)) ∧ W.grownBy w' none) := ⟨_, isd.mul isd, Lib.hid (square_any isd)⟩
  obtain ⟨sz, isz, Hsz⟩ : ∃ z, Is5 z (fMul U (fMul (fSub (fMul (fSub X3 Z3) (fAdd X2 Z2)) (fMul (fAdd X3 Z3) (fSub X2 Z2))) (fSub (fMul (fSub X3 Z3) (fAdd X2 Z2)) (fMul (fAdd X3 Z3) (fSub X2 Z2))))) ∧ Hid (∀ W, Calls Try.prog 13 #[.agg (cellsOf .u64 5 u), .agg (cellsOf .u64 5 s2)] W fun e w' => e = .returned (.agg (cellsOf .u64 5 z)) ∧ W.grownBy w' none) := ⟨_, iu.mul is2, Lib.hid (mul_any iu is2)⟩
  refine ⟨tx, tz, sx, sz, itx, itz, isx, isz, fun w => ?_⟩
  clear ix2 iz2 ix3 iz3 iu ia ib ic id iaa ibb ie ida icb itx ism ime iae itz iss isx isd is2 isz
  have hP : Holds (((((w.alloc (.cells (cellsOf .u64 10 (prL x2 z2)) 79)).alloc (.cells (cellsOf .u64 10 (prL x3 z3)) 79)).alloc (.cells (cellsOf .u64 5 u) 28)).alloc (.cells #[.int .u64 0, .int .u64 0, .int .u64 0, .int .u64 0, .int .u64 0, .int .u64 0, .int .u64 0, .int .u64 0, .int .u64 0, .int .u64 0] 79)).alloc (.cells #[.int .u64 0, .int .u64 0, .int .u64 0, .int .u64 0, .int .u64 0, .int .u64 0, .int .u64 0, .int .u64 0, .int .u64 0, .int .u64 0] 79)) w.heap.size 79 .u64 10 (prL x2 z2) := by
    have := ((((holds_alloc w 79 .u64 10 (prL x2 z2) _ rfl).grown (World.grownBy_alloc _ (.cells (cellsOf .u64 10 (prL x3 z3)) 79) none) (by simp)).grown (World.grownBy_alloc _ (.cells (cellsOf .u64 5 u) 28) none) (by simp)).grown (World.grownBy_alloc _ (.cells #[.int .u64 0, .int .u64 0, .int .u64 0, .int .u64 0, .int .u64 0, .int .u64 0, .int .u64 0, .int .u64 0, .int .u64 0, .int .u64 0] 79) none) (by simp)).grown (World.grownBy_alloc _ (.cells #[.int .u64 0, .int .u64 0, .int .u64 0, .int .u64 0, .int .u64 0, .int .u64 0, .int .u64 0, .int .u64 0, .int .u64 0, .int .u64 0] 79) none) (by simp)
    simpa only [World.size_alloc, Nat.add_assoc] using this
  have hQ : Holds (((((w.alloc (.cells (cellsOf .u64 10 (prL x2 z2)) 79)).alloc (.cells (cellsOf .u64 10 (prL x3 z3)) 79)).alloc (.cells (cellsOf .u64 5 u) 28)).alloc (.cells #[.int .u64 0, .int .u64 0, .int .u64 0, .int .u64 0, .int .u64 0, .int .u64 0, .int .u64 0, .int .u64 0, .int .u64 0, .int .u64 0] 79)).alloc (.cells #[.int .u64 0, .int .u64 0, .int .u64 0, .int .u64 0, .int .u64 0, .int .u64 0, .int .u64 0, .int .u64 0, .int .u64 0, .int .u64 0] 79)) (w.heap.size + 1) 79 .u64 10 (prL x3 z3) := by
    have := (((holds_alloc (w.alloc (.cells (cellsOf .u64 10 (prL x2 z2)) 79)) 79 .u64 10 (prL x3 z3) _ rfl).grown (World.grownBy_alloc _ (.cells (cellsOf .u64 5 u) 28) none) (by simp)).grown (World.grownBy_alloc _ (.cells #[.int .u64 0, .int .u64 0, .int .u64 0, .int .u64 0, .int .u64 0, .int .u64 0, .int .u64 0, .int .u64 0, .int .u64 0, .int .u64 0] 79) none) (by simp)).grown (World.grownBy_alloc _ (.cells #[.int .u64 0, .int .u64 0, .int .u64 0, .int .u64 0, .int .u64 0, .int .u64 0, .int .u64 0, .int .u64 0, .int .u64 0, .int .u64 0] 79) none) (by simp)
    simpa only [World.size_alloc, Nat.add_assoc] using this
  have hU : Holds (((((w.alloc (.cells (cellsOf .u64 10 (prL x2 z2)) 79)).alloc (.cells (cellsOf .u64 10 (prL x3 z3)) 79)).alloc (.cells (cellsOf .u64 5 u) 28)).alloc (.cells #[.int .u64 0, .int .u64 0, .int .u64 0, .int .u64 0, .int .u64 0, .int .u64 0, .int .u64 0, .int .u64 0, .int .u64 0, .int .u64 0] 79)).alloc (.cells #[.int .u64 0, .int .u64 0, .int .u64 0, .int .u64 0, .int .u64 0, .int .u64 0, .int .u64 0, .int .u64 0, .int .u64 0, .int .u64 0] 79)) (w.heap.size + 2) 28 .u64 5 u := by
    have := ((holds_alloc ((w.alloc (.cells (cellsOf .u64 10 (prL x2 z2)) 79)).alloc (.cells (cellsOf .u64 10 (prL x3 z3)) 79)) 28 .u64 5 u _ rfl).grown (World.grownBy_alloc _ (.cells #[.int .u64 0, .int .u64 0, .int .u64 0, .int .u64 0, .int .u64 0, .int .u64 0, .int .u64 0, .int .u64 0, .int .u64 0, .int .u64 0] 79) none) (by simp)).grown (World.grownBy_alloc _ (.cells #[.int .u64 0, .int .u64 0, .int .u64 0, .int .u64 0, .int .u64 0, .int .u64 0, .int .u64 0, .int .u64 0, .int .u64 0, .int .u64 0] 79) none) (by simp)
    simpa only [World.size_alloc, Nat.add_assoc] using this
  have hT : Holds (((((w.alloc (.cells (cellsOf .u64 10 (prL x2 z2)) 79)).alloc (.cells (cellsOf .u64 10 (prL x3 z3)) 79)).alloc (.cells (cellsOf .u64 5 u) 28)).alloc (.cells #[.int .u64 0, .int .u64 0, .int .u64 0, .int .u64 0, .int .u64 0, .int .u64 0, .int .u64 0, .int .u64 0, .int .u64 0, .int .u64 0] 79)).alloc (.cells #[.int .u64 0, .int .u64 0, .int .u64 0, .int .u64 0, .int .u64 0, .int .u64 0, .int .u64 0, .int .u64 0, .int .u64 0, .int .u64 0] 79)) (w.heap.size + 3) 79 .u64 10 (fun _ => 0) := by
    have := (holds_alloc (((w.alloc (.cells (cellsOf .u64 10 (prL x2 z2)) 79)).alloc (.cells (cellsOf .u64 10 (prL x3 z3)) 79)).alloc (.cells (cellsOf .u64 5 u) 28)) 79 .u64 10 (fun _ => 0) #[.int .u64 0, .int .u64 0, .int .u64 0, .int .u64 0, .int .u64 0, .int .u64 0, .int .u64 0, .int .u64 0, .int .u64 0, .int .u64 0] rfl).grown (World.grownBy_alloc _ (.cells #[.int .u64 0, .int .u64 0, .int .u64 0, .int .u64 0, .int .u64 0, .int .u64 0, .int .u64 0, .int .u64 0, .int .u64 0, .int .u64 0] 79) none) (by simp)
    simpa only [World.size_alloc, Nat.add_assoc] using this
  have hS : Holds (((((w.alloc (.cells (cellsOf .u64 10 (prL x2 z2)) 79)).alloc (.cells (cellsOf .u64 10 (prL x3 z3)) 79)).alloc (.cells (cellsOf .u64 5 u) 28)).alloc (.cells #[.int .u64 0, .int .u64 0, .int .u64 0, .int .u64 0, .int .u64 0, .int .u64 0, .int .u64 0, .int .u64 0, .int .u64 0, .int .u64 0] 79)).alloc (.cells #[.int .u64 0, .int .u64 0, .int .u64 0, .int .u64 0, .int .u64 0, .int .u64 0, .int .u64 0, .int .u64 0, .int .u64 0, .int .u64 0] 79)) (w.heap.size + 4) 79 .u64 10 (fun _ => 0) := by
    have := holds_alloc ((((w.alloc (.cells (cellsOf .u64 10 (prL x2 z2)) 79)).alloc (.cells (cellsOf .u64 10 (prL x3 z3)) 79)).alloc (.cells (cellsOf .u64 5 u) 28)).alloc (.cells #[.int .u64 0, .int .u64 0, .int .u64 0, .int .u64 0, .int .u64 0, .int .u64 0, .int .u64 0, .int .u64 0, .int .u64 0, .int .u64 0] 79)) 79 .u64 10 (fun _ => 0) #[.int .u64 0, .int .u64 0, .int .u64 0, .int .u64 0, .int .u64 0, .int .u64 0, .int .u64 0, .int .u64 0, .int .u64 0, .int .u64 0] rfl
    simpa only [World.size_alloc, Nat.add_assoc] using this
  have gr : w.grownBy (((((w.alloc (.cells (cellsOf .u64 10 (prL x2 z2)) 79)).alloc (.cells (cellsOf .u64 10 (prL x3 z3)) 79)).alloc (.cells (cellsOf .u64 5 u) 28)).alloc (.cells #[.int .u64 0, .int .u64 0, .int .u64 0, .int .u64 0, .int .u64 0, .int .u64 0, .int .u64 0, .int .u64 0, .int .u64 0, .int .u64 0] 79)).alloc (.cells #[.int .u64 0, .int .u64 0, .int .u64 0, .int .u64 0, .int .u64 0, .int .u64 0, .int .u64 0, .int .u64 0, .int .u64 0, .int .u64 0] 79)) none := grown_alloc (grown_alloc (grown_alloc (grown_alloc (World.grownBy_alloc w (.cells (cellsOf .u64 10 (prL x2 z2)) 79) none) (.cells (cellsOf .u64 10 (prL x3 z3)) 79)) (.cells (cellsOf .u64 5 u) 28)) (.cells #[.int .u64 0, .int .u64 0, .int .u64 0, .int .u64 0, .int .u64 0, .int .u64 0, .int .u64 0, .int .u64 0, .int .u64 0, .int .u64 0] 79)) (.cells #[.int .u64 0, .int .u64 0, .int .u64 0, .int .u64 0, .int .u64 0, .int .u64 0, .int .u64 0, .int .u64 0, .int .u64 0, .int .u64 0] 79)
  have hz : w.heap.size + 4 < (((((w.alloc (.cells (cellsOf .u64 10 (prL x2 z2)) 79)).alloc (.cells (cellsOf .u64 10 (prL x3 z3)) 79)).alloc (.cells (cellsOf .u64 5 u) 28)).alloc (.cells #[.int .u64 0, .int .u64 0, .int .u64 0, .int .u64 0, .int .u64 0, .int .u64 0, .int .u64 0, .int .u64 0, .int .u64 0, .int .u64 0] 79)).alloc (.cells #[.int .u64 0, .int .u64 0, .int .u64 0, .int .u64 0, .int .u64 0, .int .u64 0, .int .u64 0, .int .u64 0, .int .u64 0, .int .u64 0] 79)).heap.size := by simp only [World.size_alloc]; omega
  go_enter Try.func49, Try.ntmps49
  go_upto_region 1 with fail
  generalize (((((w.alloc (.cells (cellsOf .u64 10 (prL x2 z2)) 79)).alloc (.cells (cellsOf .u64 10 (prL x3 z3)) 79)).alloc (.cells (cellsOf .u64 5 u) 28)).alloc (.cells #[.int .u64 0, .int .u64 0, .int .u64 0, .int .u64 0, .int .u64 0, .int .u64 0, .int .u64 0, .int .u64 0, .int .u64 0, .int .u64 0] 79)).alloc (.cells #[.int .u64 0, .int .u64 0, .int .u64 0, .int .u64 0, .int .u64 0, .int .u64 0, .int .u64 0, .int .u64 0, .int .u64 0, .int .u64 0] 79)) = W0 at *
  obtain ⟨B, hB⟩ : ∃ B, B = w.heap.size := ⟨_, rfl⟩
  simp only [← hB, Nat.add_assoc, Nat.reduceAdd] at hP hQ hU hT hS hz ⊢
  have HB := Lib.hid hB
  clear hB
  refine wp_region_rel_all (fun W => W0.grownBy W none) (fun _ h => h) (alL [10, 11]) (relL [fun y _ => y = .pointer (some ⟨B, 0, none⟩), fun y _ => y = .agg (cellsOf .u64 5 x2), fun y _ => y = .pointer (some ⟨B, 5, none⟩), fun y _ => y = .agg (cellsOf .u64 5 z2), fun y _ => y = .agg (cellsOf .u64 5 a), fun y _ => y = .pointer (some ⟨B, 0, none⟩), fun y _ => y = .agg (cellsOf .u64 5 x2), fun y _ => y = .pointer (some ⟨B, 5, none⟩), fun y _ => y = .agg (cellsOf .u64 5 z2), fun y _ => y = .agg (cellsOf .u64 5 b), NewB W0.heap.size 28 .u64 5, NewB W0.heap.size 28 .u64 5])
    12 2 (atL [17, 18, 19, 20, 21, 22, 23, 24, 25, 26, 8, 9]) (depL [[], [0], [], [2], [1, 3], [], [5], [], [7], [6, 8], [], []]) (by kernel_rfl) rfl (by kernel_rfl) (by kernel_rfl) (by kernel_rfl) (by decide) (by kernel_rfl) 74 rfl (by decide) (by decide) (by decide) ?mono1 ?al1 ?step1 ?fin1
  case mono1 =>
    intro k x W W' hk h g
    obtain rfl | rfl | rfl | rfl | rfl | rfl | rfl | rfl | rfl | rfl | rfl | rfl : k = 0 ∨ k = 1 ∨ k = 2 ∨ k = 3 ∨ k = 4 ∨ k = 5 ∨ k = 6 ∨ k = 7 ∨ k = 8 ∨ k = 9 ∨ k = 10 ∨ k = 11 := by omega
    · exact h
    · exact h
    · exact h
    · exact h
    · exact h
    · exact h
    · exact h
    · exact h
    · exact h
    · exact h
    · exact NewB.grown h g
    · exact NewB.grown h g
  case al1 =>
    intro k x W hk e h
    obtain rfl | rfl | rfl | rfl | rfl | rfl | rfl | rfl | rfl | rfl | rfl | rfl : k = 0 ∨ k = 1 ∨ k = 2 ∨ k = 3 ∨ k = 4 ∨ k = 5 ∨ k = 6 ∨ k = 7 ∨ k = 8 ∨ k = 9 ∨ k = 10 ∨ k = 11 := by omega
    · exact absurd e (by decide)
    · exact absurd e (by decide)
    · exact absurd e (by decide)
    · exact absurd e (by decide)
    · exact absurd e (by decide)
    · exact absurd e (by decide)
    · exact absurd e (by decide)
    · exact absurd e (by decide)
    · exact absurd e (by decide)
    · exact absurd e (by decide)
    · exact NewB.at h
    · exact NewB.at h
  case step1 =>
    intro k hk
    obtain rfl | rfl | rfl | rfl | rfl | rfl | rfl | rfl | rfl | rfl | rfl | rfl : k = 0 ∨ k = 1 ∨ k = 2 ∨ k = 3 ∨ k = 4 ∨ k = 5 ∨ k = 6 ∨ k = 7 ∨ k = 8 ∨ k = 9 ∨ k = 10 ∨ k = 11 := by omega
    · refine ⟨_, rfl, rfl, fun b W hs hg hD => ⟨wanted_of rfl, fun K hK0 => ?_⟩⟩
      have hK := fun v W' g h => hK0 v W' g h (fun e => absurd e (by decide))
      have h0 : b.tmps[3]?.getD undef = .pointer (some ⟨B, 0, none⟩) := (hs 3 (by decide))
      exact rel_val (by unfold execOp; go_simp) rfl hK
    · refine ⟨_, rfl, rfl, fun b W hs hg hD => ⟨wanted_of rfl, fun K hK0 => ?_⟩⟩
      have hK := fun v W' g h => hK0 v W' g h (fun e => absurd e (by decide))
      exact rel_val (run_num_at ((hP.grown hg (by simp)).lo) rfl ((eval_slot b 17).trans (hD 0 (by decide)))) rfl hK
    · refine ⟨_, rfl, rfl, fun b W hs hg hD => ⟨wanted_of rfl, fun K hK0 => ?_⟩⟩
      have hK := fun v W' g h => hK0 v W' g h (fun e => absurd e (by decide))
      have h0 : b.tmps[3]?.getD undef = .pointer (some ⟨B, 0, none⟩) := (hs 3 (by decide))
      exact rel_val (by unfold execOp; go_simp) rfl hK
    · refine ⟨_, rfl, rfl, fun b W hs hg hD => ⟨wanted_of rfl, fun K hK0 => ?_⟩⟩
      have hK := fun v W' g h => hK0 v W' g h (fun e => absurd e (by decide))
      exact rel_val (run_num_at ((hP.grown hg (by simp)).hi) rfl ((eval_slot b 19).trans (hD 2 (by decide)))) rfl hK
    · refine ⟨_, rfl, rfl, fun b W hs hg hD => ⟨wanted_of rfl, fun K hK0 => ?_⟩⟩
      have hK := fun v W' g h => hK0 v W' g h (fun e => absurd e (by decide))
      refine rel_call 9 _ (exec_fn2 _ _ _ _ _ rfl ((eval_slot b 18).trans (hD 1 (by decide))) ((eval_slot b 20).trans (hD 3 (by decide)))) add_enters ?_ hK
      exact (Ha.out W).mono fun e w' h => ⟨_, h.1, h.2, rfl⟩
    · refine ⟨_, rfl, rfl, fun b W hs hg hD => ⟨wanted_of rfl, fun K hK0 => ?_⟩⟩
      have hK := fun v W' g h => hK0 v W' g h (fun e => absurd e (by decide))
      have h0 : b.tmps[3]?.getD undef = .pointer (some ⟨B, 0, none⟩) := (hs 3 (by decide))
      exact rel_val (by unfold execOp; go_simp) rfl hK
    · refine ⟨_, rfl, rfl, fun b W hs hg hD => ⟨wanted_of rfl, fun K hK0 => ?_⟩⟩
      have hK := fun v W' g h => hK0 v W' g h (fun e => absurd e (by decide))
      exact rel_val (run_num_at ((hP.grown hg (by simp)).lo) rfl ((eval_slot b 22).trans (hD 5 (by decide)))) rfl hK
    · refine ⟨_, rfl, rfl, fun b W hs hg hD => ⟨wanted_of rfl, fun K hK0 => ?_⟩⟩
      have hK := fun v W' g h => hK0 v W' g h (fun e => absurd e (by decide))
      have h0 : b.tmps[3]?.getD undef = .pointer (some ⟨B, 0, none⟩) := (hs 3 (by decide))
      exact rel_val (by unfold execOp; go_simp) rfl hK
    · refine ⟨_, rfl, rfl, fun b W hs hg hD => ⟨wanted_of rfl, fun K hK0 => ?_⟩⟩
      have hK := fun v W' g h => hK0 v W' g h (fun e => absurd e (by decide))
      exact rel_val (run_num_at ((hP.grown hg (by simp)).hi) rfl ((eval_slot b 24).trans (hD 7 (by decide)))) rfl hK
    · refine ⟨_, rfl, rfl, fun b W hs hg hD => ⟨wanted_of rfl, fun K hK0 => ?_⟩⟩
      have hK := fun v W' g h => hK0 v W' g h (fun e => absurd e (by decide))
      refine rel_call 11 _ (exec_fn2 _ _ _ _ _ rfl ((eval_slot b 23).trans (hD 6 (by decide))) ((eval_slot b 25).trans (hD 8 (by decide)))) sub_enters ?_ hK
      exact (Hb.out W).mono fun e w' h => ⟨_, h.1, h.2, rfl⟩
    · refine ⟨_, rfl, rfl, fun b W hs hg hD => ⟨wanted_of rfl, fun K hK0 => ?_⟩⟩
      exact wp_yields (run_newnum rfl) (hK0 _ _ (World.grownBy_alloc W _ none) ⟨W.heap.size, rfl, hg.size, holds_alloc W 28 .u64 5 _ _ rfl⟩ (fun _ B e => by cases e; exact Nat.le_refl _))
    · refine ⟨_, rfl, rfl, fun b W hs hg hD => ⟨wanted_of rfl, fun K hK0 => ?_⟩⟩
      exact wp_yields (run_newnum rfl) (hK0 _ _ (World.grownBy_alloc W _ none) ⟨W.heap.size, rfl, hg.size, holds_alloc W 28 .u64 5 _ _ rfl⟩ (fun _ B e => by cases e; exact Nat.le_refl _))
  intro vals W hg hR hap
  have e1 : vals 4 = .agg (cellsOf .u64 5 a) := hR 4 (by decide)
  have e2 : vals 9 = .agg (cellsOf .u64 5 b) := hR 9 (by decide)
  obtain ⟨B8, e3, hB8, hN8⟩ := hR 10 (by decide)
  obtain ⟨B9, e4, hB9, hN9⟩ := hR 11 (by decide)
  have ne : B8 ≠ B9 := fun e => hap 10 11 (by decide) (by decide) (by decide) rfl rfl (by rw [e3, e4, e])
  clear hR hap
  simp only [putsN, atL, Act.put, List.getD_cons_zero, List.getD_cons_succ, List.setIfInBounds_toArray, List.set_cons_succ, List.set_cons_zero, e1, e2, e3, e4]
  generalize vals 0 = q1_0
  generalize vals 1 = q1_1
  generalize vals 2 = q1_2
  generalize vals 3 = q1_3
  generalize vals 5 = q1_5
  generalize vals 6 = q1_6
  generalize vals 7 = q1_7
  generalize vals 8 = q1_8
  clear e1 e2 e3 e4 vals
  have g1 := grown_setRow_new hg B8 (cellsOf .u64 5 a) (Or.inl hB8)
  have g2 := grown_setRow_new g1 B9 (cellsOf .u64 5 b) (Or.inl hB9)
  have k9 : Holds (W.setRow B8 (cellsOf .u64 5 a)) B9 28 .u64 5 (fun _ => 0) := hN9.of_block (setRow_other W B8 B9 (cellsOf .u64 5 a) (Ne.symm ne))
  have h8 : Holds ((W.setRow B8 (cellsOf .u64 5 a)).setRow B9 (cellsOf .u64 5 b)) B8 28 .u64 5 a := (hN8.setRow .u64 5 a).of_block (setRow_other _ B9 B8 (cellsOf .u64 5 b) ne)
  have h9 := k9.setRow .u64 5 b
  show wpAnyH _ _ _ _ _ 2 #[true, true, true, true, true, true, true, true, true, true, true, true, false, false] _ _
  refine wpAnyH_one (i := 12) (by kernel_rfl) (op_store 28 8 21 B8 (cellsOf .u64 5 a) rfl rfl rfl rfl rfl rfl 28 _ hN8.block (by rw [cellsOf_size]; kernel_rfl) (by simp only [cellsOf_size]) (cellsOf_all _ _ _) g1 ?_)
  simp only [List.setIfInBounds_toArray, List.set_cons_succ, List.set_cons_zero]
  refine wpAnyH_one (i := 13) (by kernel_rfl) (op_store 28 9 26 B9 (cellsOf .u64 5 b) rfl rfl rfl rfl rfl rfl 28 _ k9.block (by rw [cellsOf_size]; kernel_rfl) (by simp only [cellsOf_size]) (cellsOf_all _ _ _) g2 ?_)
  simp only [List.setIfInBounds_toArray, List.set_cons_succ, List.set_cons_zero]
  refine wpAnyH_done (by kernel_rfl) ?_ _
  have l8 : B + 4 < B8 := Nat.lt_of_lt_of_le hz hB8
  have l9 : B + 4 < B9 := Nat.lt_of_lt_of_le hz hB9
  replace hP := hP.grown g2 (by simp)
  replace hQ := hQ.grown g2 (by simp)
  replace hU := hU.grown g2 (by simp)
  replace hT := hT.grown g2 (by simp)
  replace hS := hS.grown g2 (by simp)
  replace gr := grown_trans gr g2
  replace hz := Nat.lt_of_lt_of_le hz g2.size
  clear hg hB8 hB9 hN8 hN9 ne g1 g2 k9
  generalize (W.setRow B8 (cellsOf .u64 5 a)).setRow B9 (cellsOf .u64 5 b) = W1 at *
  clear W W0
  go_upto_region 2 with fail
  refine wp_region_rel_all (fun W => W1.grownBy W none) (fun _ h => h) (alL [10, 11]) (relL [fun y _ => y = .pointer (some ⟨B + 1, 0, none⟩), fun y _ => y = .agg (cellsOf .u64 5 x3), fun y _ => y = .pointer (some ⟨B + 1, 5, none⟩), fun y _ => y = .agg (cellsOf .u64 5 z3), fun y _ => y = .agg (cellsOf .u64 5 c), fun y _ => y = .pointer (some ⟨B + 1, 0, none⟩), fun y _ => y = .agg (cellsOf .u64 5 x3), fun y _ => y = .pointer (some ⟨B + 1, 5, none⟩), fun y _ => y = .agg (cellsOf .u64 5 z3), fun y _ => y = .agg (cellsOf .u64 5 d), NewB W1.heap.size 28 .u64 5, NewB W1.heap.size 28 .u64 5])
    12 2 (atL [27, 28, 29, 30, 31, 32, 33, 34, 35, 36, 10, 11]) (depL [[], [0], [], [2], [1, 3], [], [5], [], [7], [6, 8], [], []]) (by kernel_rfl) rfl (by kernel_rfl) (by kernel_rfl) (by kernel_rfl) (by decide) (by kernel_rfl) 74 rfl (by decide) (by decide) (by decide) ?mono2 ?al2 ?step2 ?fin2
  case mono2 =>
    intro k x W W' hk h g
    obtain rfl | rfl | rfl | rfl | rfl | rfl | rfl | rfl | rfl | rfl | rfl | rfl : k = 0 ∨ k = 1 ∨ k = 2 ∨ k = 3 ∨ k = 4 ∨ k = 5 ∨ k = 6 ∨ k = 7 ∨ k = 8 ∨ k = 9 ∨ k = 10 ∨ k = 11 := by omega
    · exact h
    · exact h
    · exact h
    · exact h
    · exact h
    · exact h
    · exact h
    · exact h
    · exact h
    · exact h
    · exact NewB.grown h g
    · exact NewB.grown h g
  case al2 =>
    intro k x W hk e h
    obtain rfl | rfl | rfl | rfl | rfl | rfl | rfl | rfl | rfl | rfl | rfl | rfl : k = 0 ∨ k = 1 ∨ k = 2 ∨ k = 3 ∨ k = 4 ∨ k = 5 ∨ k = 6 ∨ k = 7 ∨ k = 8 ∨ k = 9 ∨ k = 10 ∨ k = 11 := by omega
    · exact absurd e (by decide)
    · exact absurd e (by decide)
    · exact absurd e (by decide)
    · exact absurd e (by decide)
    · exact absurd e (by decide)
    · exact absurd e (by decide)
    · exact absurd e (by decide)
    · exact absurd e (by decide)
    · exact absurd e (by decide)
    · exact absurd e (by decide)
    · exact NewB.at h
    · exact NewB.at h
  case step2 =>
    intro k hk
    obtain rfl | rfl | rfl | rfl | rfl | rfl | rfl | rfl | rfl | rfl | rfl | rfl : k = 0 ∨ k = 1 ∨ k = 2 ∨ k = 3 ∨ k = 4 ∨ k = 5 ∨ k = 6 ∨ k = 7 ∨ k = 8 ∨ k = 9 ∨ k = 10 ∨ k = 11 := by omega
    · refine ⟨_, rfl, rfl, fun b W hs hg hD => ⟨wanted_of rfl, fun K hK0 => ?_⟩⟩
      have hK := fun v W' g h => hK0 v W' g h (fun e => absurd e (by decide))
      have h0 : b.tmps[4]?.getD undef = .pointer (some ⟨B + 1, 0, none⟩) := (hs 4 (by decide))
      exact rel_val (by unfold execOp; go_simp) rfl hK
    · refine ⟨_, rfl, rfl, fun b W hs hg hD => ⟨wanted_of rfl, fun K hK0 => ?_⟩⟩
      have hK := fun v W' g h => hK0 v W' g h (fun e => absurd e (by decide))
      exact rel_val (run_num_at ((hQ.grown hg (by simp)).lo) rfl ((eval_slot b 27).trans (hD 0 (by decide)))) rfl hK
    · refine ⟨_, rfl, rfl, fun b W hs hg hD => ⟨wanted_of rfl, fun K hK0 => ?_⟩⟩
      have hK := fun v W' g h => hK0 v W' g h (fun e => absurd e (by decide))
      have h0 : b.tmps[4]?.getD undef = .pointer (some ⟨B + 1, 0, none⟩) := (hs 4 (by decide))
      exact rel_val (by unfold execOp; go_simp) rfl hK
    · refine ⟨_, rfl, rfl, fun b W hs hg hD => ⟨wanted_of rfl, fun K hK0 => ?_⟩⟩
      have hK := fun v W' g h => hK0 v W' g h (fun e => absurd e (by decide))
      exact rel_val (run_num_at ((hQ.grown hg (by simp)).hi) rfl ((eval_slot b 29).trans (hD 2 (by decide)))) rfl hK
    · refine ⟨_, rfl, rfl, fun b W hs hg hD => ⟨wanted_of rfl, fun K hK0 => ?_⟩⟩
      have hK := fun v W' g h => hK0 v W' g h (fun e => absurd e (by decide))
      refine rel_call 9 _ (exec_fn2 _ _ _ _ _ rfl ((eval_slot b 28).trans (hD 1 (by decide))) ((eval_slot b 30).trans (hD 3 (by decide)))) add_enters ?_ hK
      exact (Hc.out W).mono fun e w' h => ⟨_, h.1, h.2, rfl⟩
    · refine ⟨_, rfl, rfl, fun b W hs hg hD => ⟨wanted_of rfl, fun K hK0 => ?_⟩⟩
      have hK := fun v W' g h => hK0 v W' g h (fun e => absurd e (by decide))
      have h0 : b.tmps[4]?.getD undef = .pointer (some ⟨B + 1, 0, none⟩) := (hs 4 (by decide))
      exact rel_val (by unfold execOp; go_simp) rfl hK
    · refine ⟨_, rfl, rfl, fun b W hs hg hD => ⟨wanted_of rfl, fun K hK0 => ?_⟩⟩
      have hK := fun v W' g h => hK0 v W' g h (fun e => absurd e (by decide))
      exact rel_val (run_num_at ((hQ.grown hg (by simp)).lo) rfl ((eval_slot b 32).trans (hD 5 (by decide)))) rfl hK
    · refine ⟨_, rfl, rfl, fun b W hs hg hD => ⟨wanted_of rfl, fun K hK0 => ?_⟩⟩
      have hK := fun v W' g h => hK0 v W' g h (fun e => absurd e (by decide))
      have h0 : b.tmps[4]?.getD undef = .pointer (some ⟨B + 1, 0, none⟩) := (hs 4 (by decide))
      exact rel_val (by unfold execOp; go_simp) rfl hK
    · refine ⟨_, rfl, rfl, fun b W hs hg hD => ⟨wanted_of rfl, fun K hK0 => ?_⟩⟩
      have hK := fun v W' g h => hK0 v W' g h (fun e => absurd e (by decide))
      exact rel_val (run_num_at ((hQ.grown hg (by simp)).hi) rfl ((eval_slot b 34).trans (hD 7 (by decide)))) rfl hK
    · refine ⟨_, rfl, rfl, fun b W hs hg hD => ⟨wanted_of rfl, fun K hK0 => ?_⟩⟩
      have hK := fun v W' g h => hK0 v W' g h (fun e => absurd e (by decide))
      refine rel_call 11 _ (exec_fn2 _ _ _ _ _ rfl ((eval_slot b 33).trans (hD 6 (by decide))) ((eval_slot b 35).trans (hD 8 (by decide)))) sub_enters ?_ hK
      exact (Hd.out W).mono fun e w' h => ⟨_, h.1, h.2, rfl⟩
    · refine ⟨_, rfl, rfl, fun b W hs hg hD => ⟨wanted_of rfl, fun K hK0 => ?_⟩⟩
      exact wp_yields (run_newnum rfl) (hK0 _ _ (World.grownBy_alloc W _ none) ⟨W.heap.size, rfl, hg.size, holds_alloc W 28 .u64 5 _ _ rfl⟩ (fun _ B e => by cases e; exact Nat.le_refl _))
    · refine ⟨_, rfl, rfl, fun b W hs hg hD => ⟨wanted_of rfl, fun K hK0 => ?_⟩⟩
      exact wp_yields (run_newnum rfl) (hK0 _ _ (World.grownBy_alloc W _ none) ⟨W.heap.size, rfl, hg.size, holds_alloc W 28 .u64 5 _ _ rfl⟩ (fun _ B e => by cases e; exact Nat.le_refl _))
  intro vals W hg hR hap
  have e1 : vals 4 = .agg (cellsOf .u64 5 c) := hR 4 (by decide)
  have e2 : vals 9 = .agg (cellsOf .u64 5 d) := hR 9 (by decide)
  obtain ⟨B10, e3, hB10, hN10⟩ := hR 10 (by decide)
  obtain ⟨B11, e4, hB11, hN11⟩ := hR 11 (by decide)
  have ne : B10 ≠ B11 := fun e => hap 10 11 (by decide) (by decide) (by decide) rfl rfl (by rw [e3, e4, e])
  clear hR hap
  simp only [putsN, atL, Act.put, List.getD_cons_zero, List.getD_cons_succ, List.setIfInBounds_toArray, List.set_cons_succ, List.set_cons_zero, e1, e2, e3, e4]
  generalize vals 0 = q2_0
  generalize vals 1 = q2_1
  generalize vals 2 = q2_2
  generalize vals 3 = q2_3
  generalize vals 5 = q2_5
  generalize vals 6 = q2_6
  generalize vals 7 = q2_7
  generalize vals 8 = q2_8
  clear e1 e2 e3 e4 vals
  have g1 := grown_setRow_new hg B10 (cellsOf .u64 5 c) (Or.inl hB10)
  have g2 := grown_setRow_new g1 B11 (cellsOf .u64 5 d) (Or.inl hB11)
  have k11 : Holds (W.setRow B10 (cellsOf .u64 5 c)) B11 28 .u64 5 (fun _ => 0) := hN11.of_block (setRow_other W B10 B11 (cellsOf .u64 5 c) (Ne.symm ne))
  have h10 : Holds ((W.setRow B10 (cellsOf .u64 5 c)).setRow B11 (cellsOf .u64 5 d)) B10 28 .u64 5 c := (hN10.setRow .u64 5 c).of_block (setRow_other _ B11 B10 (cellsOf .u64 5 d) ne)
  have h11 := k11.setRow .u64 5 d
  show wpAnyH _ _ _ _ _ 2 #[true, true, true, true, true, true, true, true, true, true, true, true, false, false] _ _
  refine wpAnyH_one (i := 12) (by kernel_rfl) (op_store 28 10 31 B10 (cellsOf .u64 5 c) rfl rfl rfl rfl rfl rfl 28 _ hN10.block (by rw [cellsOf_size]; kernel_rfl) (by simp only [cellsOf_size]) (cellsOf_all _ _ _) g1 ?_)
  simp only [List.setIfInBounds_toArray, List.set_cons_succ, List.set_cons_zero]
  refine wpAnyH_one (i := 13) (by kernel_rfl) (op_store 28 11 36 B11 (cellsOf .u64 5 d) rfl rfl rfl rfl rfl rfl 28 _ k11.block (by rw [cellsOf_size]; kernel_rfl) (by simp only [cellsOf_size]) (cellsOf_all _ _ _) g2 ?_)
  simp only [List.setIfInBounds_toArray, List.set_cons_succ, List.set_cons_zero]
  refine wpAnyH_done (by kernel_rfl) ?_ _
  have l10 : B + 4 < B10 := Nat.lt_of_lt_of_le hz hB10
  have l11 : B + 4 < B11 := Nat.lt_of_lt_of_le hz hB11
  replace hP := hP.grown g2 (by simp)
  replace hQ := hQ.grown g2 (by simp)
  replace hU := hU.grown g2 (by simp)
  replace hT := hT.grown g2 (by simp)
  replace hS := hS.grown g2 (by simp)
  replace h8 := h8.grown g2 (by simp)
  replace h9 := h9.grown g2 (by simp)
  replace gr := grown_trans gr g2
  replace hz := Nat.lt_of_lt_of_le hz g2.size
  clear hg hB10 hB11 hN10 hN11 ne g1 g2 k11
  generalize (W.setRow B10 (cellsOf .u64 5 c)).setRow B11 (cellsOf .u64 5 d) = W2 at *
  clear W W1
  go_upto_region 3 with fail
  refine wp_region_rel_all (fun W => W2.grownBy W none) (fun _ h => h) (alL [4, 5]) (relL [fun y _ => y = .agg (cellsOf .u64 5 a), fun y _ => y = .agg (cellsOf .u64 5 aa), fun y _ => y = .agg (cellsOf .u64 5 b), fun y _ => y = .agg (cellsOf .u64 5 bb), NewB W2.heap.size 28 .u64 5, NewB W2.heap.size 28 .u64 5])
    6 2 (atL [37, 38, 39, 40, 12, 13]) (depL [[], [0], [], [2], [], []]) (by kernel_rfl) rfl (by kernel_rfl) (by kernel_rfl) (by kernel_rfl) (by decide) (by kernel_rfl) 74 rfl (by decide) (by decide) (by decide) ?mono3 ?al3 ?step3 ?fin3
  case mono3 =>
    intro k x W W' hk h g
    obtain rfl | rfl | rfl | rfl | rfl | rfl : k = 0 ∨ k = 1 ∨ k = 2 ∨ k = 3 ∨ k = 4 ∨ k = 5 := by omega
    · exact h
    · exact h
    · exact h
    · exact h
    · exact NewB.grown h g
    · exact NewB.grown h g
  case al3 =>
    intro k x W hk e h
    obtain rfl | rfl | rfl | rfl | rfl | rfl : k = 0 ∨ k = 1 ∨ k = 2 ∨ k = 3 ∨ k = 4 ∨ k = 5 := by omega
    · exact absurd e (by decide)
    · exact absurd e (by decide)
    · exact absurd e (by decide)
    · exact absurd e (by decide)
    · exact NewB.at h
    · exact NewB.at h
  case step3 =>
    intro k hk
    obtain rfl | rfl | rfl | rfl | rfl | rfl : k = 0 ∨ k = 1 ∨ k = 2 ∨ k = 3 ∨ k = 4 ∨ k = 5 := by omega
    · refine ⟨_, rfl, rfl, fun b W hs hg hD => ⟨wanted_of rfl, fun K hK0 => ?_⟩⟩
      have hK := fun v W' g h => hK0 v W' g h (fun e => absurd e (by decide))
      exact rel_val (run_num5 (h8.grown hg (by simp)) rfl ((eval_slot b 8).trans (hs 8 (by decide)))) rfl hK
    · refine ⟨_, rfl, rfl, fun b W hs hg hD => ⟨wanted_of rfl, fun K hK0 => ?_⟩⟩
      have hK := fun v W' g h => hK0 v W' g h (fun e => absurd e (by decide))
      refine rel_call 56 _ (exec_fn1 _ _ _ rfl ((eval_slot b 37).trans (hD 0 (by decide)))) square_enters ?_ hK
      exact (Haa.out W).mono fun e w' h => ⟨_, h.1, h.2, rfl⟩
    · refine ⟨_, rfl, rfl, fun b W hs hg hD => ⟨wanted_of rfl, fun K hK0 => ?_⟩⟩
      have hK := fun v W' g h => hK0 v W' g h (fun e => absurd e (by decide))
      exact rel_val (run_num5 (h9.grown hg (by simp)) rfl ((eval_slot b 9).trans (hs 9 (by decide)))) rfl hK
    · refine ⟨_, rfl, rfl, fun b W hs hg hD => ⟨wanted_of rfl, fun K hK0 => ?_⟩⟩
      have hK := fun v W' g h => hK0 v W' g h (fun e => absurd e (by decide))
      refine rel_call 56 _ (exec_fn1 _ _ _ rfl ((eval_slot b 39).trans (hD 2 (by decide)))) square_enters ?_ hK
      exact (Hbb.out W).mono fun e w' h => ⟨_, h.1, h.2, rfl⟩
    · refine ⟨_, rfl, rfl, fun b W hs hg hD => ⟨wanted_of rfl, fun K hK0 => ?_⟩⟩
      exact wp_yields (run_newnum rfl) (hK0 _ _ (World.grownBy_alloc W _ none) ⟨W.heap.size, rfl, hg.size, holds_alloc W 28 .u64 5 _ _ rfl⟩ (fun _ B e => by cases e; exact Nat.le_refl _))
    · refine ⟨_, rfl, rfl, fun b W hs hg hD => ⟨wanted_of rfl, fun K hK0 => ?_⟩⟩
      exact wp_yields (run_newnum rfl) (hK0 _ _ (World.grownBy_alloc W _ none) ⟨W.heap.size, rfl, hg.size, holds_alloc W 28 .u64 5 _ _ rfl⟩ (fun _ B e => by cases e; exact Nat.le_refl _))
  intro vals W hg hR hap
  have e1 : vals 1 = .agg (cellsOf .u64 5 aa) := hR 1 (by decide)
  have e2 : vals 3 = .agg (cellsOf .u64 5 bb) := hR 3 (by decide)
  obtain ⟨B12, e3, hB12, hN12⟩ := hR 4 (by decide)
  obtain ⟨B13, e4, hB13, hN13⟩ := hR 5 (by decide)
  have ne : B12 ≠ B13 := fun e => hap 4 5 (by decide) (by decide) (by decide) rfl rfl (by rw [e3, e4, e])
  clear hR hap
  simp only [putsN, atL, Act.put, List.getD_cons_zero, List.getD_cons_succ, List.setIfInBounds_toArray, List.set_cons_succ, List.set_cons_zero, e1, e2, e3, e4]
  generalize vals 0 = q3_0
  generalize vals 2 = q3_2
  clear e1 e2 e3 e4 vals
  have g1 := grown_setRow_new hg B12 (cellsOf .u64 5 aa) (Or.inl hB12)
  have g2 := grown_setRow_new g1 B13 (cellsOf .u64 5 bb) (Or.inl hB13)
  have k13 : Holds (W.setRow B12 (cellsOf .u64 5 aa)) B13 28 .u64 5 (fun _ => 0) := hN13.of_block (setRow_other W B12 B13 (cellsOf .u64 5 aa) (Ne.symm ne))
  have h12 : Holds ((W.setRow B12 (cellsOf .u64 5 aa)).setRow B13 (cellsOf .u64 5 bb)) B12 28 .u64 5 aa := (hN12.setRow .u64 5 aa).of_block (setRow_other _ B13 B12 (cellsOf .u64 5 bb) ne)
  have h13 := k13.setRow .u64 5 bb
  show wpAnyH _ _ _ _ _ 2 #[true, true, true, true, true, true, false, false] _ _
  refine wpAnyH_one (i := 6) (by kernel_rfl) (op_store 28 12 38 B12 (cellsOf .u64 5 aa) rfl rfl rfl rfl rfl rfl 28 _ hN12.block (by rw [cellsOf_size]; kernel_rfl) (by simp only [cellsOf_size]) (cellsOf_all _ _ _) g1 ?_)
  simp only [List.setIfInBounds_toArray, List.set_cons_succ, List.set_cons_zero]
  refine wpAnyH_one (i := 7) (by kernel_rfl) (op_store 28 13 40 B13 (cellsOf .u64 5 bb) rfl rfl rfl rfl rfl rfl 28 _ k13.block (by rw [cellsOf_size]; kernel_rfl) (by simp only [cellsOf_size]) (cellsOf_all _ _ _) g2 ?_)
  simp only [List.setIfInBounds_toArray, List.set_cons_succ, List.set_cons_zero]
  refine wpAnyH_done (by kernel_rfl) ?_ _
  have l12 : B + 4 < B12 := Nat.lt_of_lt_of_le hz hB12
  have l13 : B + 4 < B13 := Nat.lt_of_lt_of_le hz hB13
  replace hP := hP.grown g2 (by simp)
  replace hQ := hQ.grown g2 (by simp)
  replace hU := hU.grown g2 (by simp)
  replace hT := hT.grown g2 (by simp)
  replace hS := hS.grown g2 (by simp)
  replace h8 := h8.grown g2 (by simp)
  replace h9 := h9.grown g2 (by simp)
  replace h10 := h10.grown g2 (by simp)
  replace h11 := h11.grown g2 (by simp)
  replace gr := grown_trans gr g2
  replace hz := Nat.lt_of_lt_of_le hz g2.size
  clear hg hB12 hB13 hN12 hN13 ne g1 g2 k13
  generalize (W.setRow B12 (cellsOf .u64 5 aa)).setRow B13 (cellsOf .u64 5 bb) = W3 at *
  clear W W2
  go_wp2_with (first
    | refine wpList_load_num rfl 12 rfl rfl h12 ?_
    | refine wpList_load_num rfl 13 rfl rfl h13 ?_)
  go_at_call 11
  refine (He.out _).mono ?_
  rintro ee V ⟨rfl, g⟩
  have hL0 := holds_alloc V 28 .u64 5 (fun _ => 0) #[.int .u64 0, .int .u64 0, .int .u64 0, .int .u64 0, .int .u64 0] rfl
  have gg := grown_alloc g (.cells #[.int .u64 0, .int .u64 0, .int .u64 0, .int .u64 0, .int .u64 0] 28)
  have l14 : B + 4 < V.heap.size := Nat.lt_of_lt_of_le hz g.size
  go_upto_region 5 with (refine wpList_store_row rfl 28 (.tmp 14) (.tmp 43) rfl V.heap.size _ rfl rfl 28 _ hL0.block (by rw [cellsOf_size]; kernel_rfl) rfl (cellsOf_all _ _ _) ?_)
  have h14 := hL0.setRow .u64 5 e
  have g2 := grown_setRow_new gg V.heap.size (cellsOf .u64 5 e) (Or.inl g.size)
  replace hP := hP.grown g2 (by simp)
  replace hQ := hQ.grown g2 (by simp)
  replace hU := hU.grown g2 (by simp)
  replace hT := hT.grown g2 (by simp)
  replace hS := hS.grown g2 (by simp)
  replace h8 := h8.grown g2 (by simp)
  replace h9 := h9.grown g2 (by simp)
  replace h10 := h10.grown g2 (by simp)
  replace h11 := h11.grown g2 (by simp)
  replace h12 := h12.grown g2 (by simp)
  replace h13 := h13.grown g2 (by simp)
  replace gr := grown_trans gr g2
  replace hz := Nat.lt_of_lt_of_le hz g2.size
  generalize (V.alloc (.cells #[.int .u64 0, .int .u64 0, .int .u64 0, .int .u64 0, .int .u64 0] 28)).setRow V.heap.size (cellsOf .u64 5 e) = W4 at *
  clear hL0 gg g g2
  generalize V.heap.size = B14 at *
  clear V W3
  refine wp_region_rel_all (fun W => W4.grownBy W none) (fun _ h => h) (alL [6, 7]) (relL [fun y _ => y = .agg (cellsOf .u64 5 d), fun y _ => y = .agg (cellsOf .u64 5 a), fun y _ => y = .agg (cellsOf .u64 5 da), fun y _ => y = .agg (cellsOf .u64 5 c), fun y _ => y = .agg (cellsOf .u64 5 b), fun y _ => y = .agg (cellsOf .u64 5 cb), NewB W4.heap.size 28 .u64 5, NewB W4.heap.size 28 .u64 5])
    8 2 (atL [44, 45, 46, 47, 48, 49, 15, 16]) (depL [[], [], [0, 1], [], [], [3, 4], [], []]) (by kernel_rfl) rfl (by kernel_rfl) (by kernel_rfl) (by kernel_rfl) (by decide) (by kernel_rfl) 74 rfl (by decide) (by decide) (by decide) ?mono5 ?al5 ?step5 ?fin5
  case mono5 =>
    intro k x W W' hk h g
    obtain rfl | rfl | rfl | rfl | rfl | rfl | rfl | rfl : k = 0 ∨ k = 1 ∨ k = 2 ∨ k = 3 ∨ k = 4 ∨ k = 5 ∨ k = 6 ∨ k = 7 := by omega
    · exact h
    · exact h
    · exact h
    · exact h
    · exact h
    · exact h
    · exact NewB.grown h g
    · exact NewB.grown h g
  case al5 =>
    intro k x W hk e h
    obtain rfl | rfl | rfl | rfl | rfl | rfl | rfl | rfl : k = 0 ∨ k = 1 ∨ k = 2 ∨ k = 3 ∨ k = 4 ∨ k = 5 ∨ k = 6 ∨ k = 7 := by omega
    · exact absurd e (by decide)
    · exact absurd e (by decide)
    · exact absurd e (by decide)
    · exact absurd e (by decide)
    · exact absurd e (by decide)
    · exact absurd e (by decide)
    · exact NewB.at h
    · exact NewB.at h
  case step5 =>
    intro k hk
    obtain rfl | rfl | rfl | rfl | rfl | rfl | rfl | rfl : k = 0 ∨ k = 1 ∨ k = 2 ∨ k = 3 ∨ k = 4 ∨ k = 5 ∨ k = 6 ∨ k = 7 := by omega
    · refine ⟨_, rfl, rfl, fun b W hs hg hD => ⟨wanted_of rfl, fun K hK0 => ?_⟩⟩
      have hK := fun v W' g h => hK0 v W' g h (fun e => absurd e (by decide))
      exact rel_val (run_num5 (h11.grown hg (by simp)) rfl ((eval_slot b 11).trans (hs 11 (by decide)))) rfl hK
    · refine ⟨_, rfl, rfl, fun b W hs hg hD => ⟨wanted_of rfl, fun K hK0 => ?_⟩⟩
      have hK := fun v W' g h => hK0 v W' g h (fun e => absurd e (by decide))
      exact rel_val (run_num5 (h8.grown hg (by simp)) rfl ((eval_slot b 8).trans (hs 8 (by decide)))) rfl hK
    · refine ⟨_, rfl, rfl, fun b W hs hg hD => ⟨wanted_of rfl, fun K hK0 => ?_⟩⟩
      have hK := fun v W' g h => hK0 v W' g h (fun e => absurd e (by decide))
      refine rel_call 13 _ (exec_fn2 _ _ _ _ _ rfl ((eval_slot b 44).trans (hD 0 (by decide))) ((eval_slot b 45).trans (hD 1 (by decide)))) mul_enters ?_ hK
      exact (Hda.out W).mono fun e w' h => ⟨_, h.1, h.2, rfl⟩
    · refine ⟨_, rfl, rfl, fun b W hs hg hD => ⟨wanted_of rfl, fun K hK0 => ?_⟩⟩
      have hK := fun v W' g h => hK0 v W' g h (fun e => absurd e (by decide))
      exact rel_val (run_num5 (h10.grown hg (by simp)) rfl ((eval_slot b 10).trans (hs 10 (by decide)))) rfl hK
    · refine ⟨_, rfl, rfl, fun b W hs hg hD => ⟨wanted_of rfl, fun K hK0 => ?_⟩⟩
      have hK := fun v W' g h => hK0 v W' g h (fun e => absurd e (by decide))
      exact rel_val (run_num5 (h9.grown hg (by simp)) rfl ((eval_slot b 9).trans (hs 9 (by decide)))) rfl hK
    · refine ⟨_, rfl, rfl, fun b W hs hg hD => ⟨wanted_of rfl, fun K hK0 => ?_⟩⟩
      have hK := fun v W' g h => hK0 v W' g h (fun e => absurd e (by decide))
      refine rel_call 13 _ (exec_fn2 _ _ _ _ _ rfl ((eval_slot b 47).trans (hD 3 (by decide))) ((eval_slot b 48).trans (hD 4 (by decide)))) mul_enters ?_ hK
      exact (Hcb.out W).mono fun e w' h => ⟨_, h.1, h.2, rfl⟩
    · refine ⟨_, rfl, rfl, fun b W hs hg hD => ⟨wanted_of rfl, fun K hK0 => ?_⟩⟩
      exact wp_yields (run_newnum rfl) (hK0 _ _ (World.grownBy_alloc W _ none) ⟨W.heap.size, rfl, hg.size, holds_alloc W 28 .u64 5 _ _ rfl⟩ (fun _ B e => by cases e; exact Nat.le_refl _))
    · refine ⟨_, rfl, rfl, fun b W hs hg hD => ⟨wanted_of rfl, fun K hK0 => ?_⟩⟩
      exact wp_yields (run_newnum rfl) (hK0 _ _ (World.grownBy_alloc W _ none) ⟨W.heap.size, rfl, hg.size, holds_alloc W 28 .u64 5 _ _ rfl⟩ (fun _ B e => by cases e; exact Nat.le_refl _))
  intro vals W hg hR hap
  have e1 : vals 2 = .agg (cellsOf .u64 5 da) := hR 2 (by decide)
  have e2 : vals 5 = .agg (cellsOf .u64 5 cb) := hR 5 (by decide)
  obtain ⟨B15, e3, hB15, hN15⟩ := hR 6 (by decide)
  obtain ⟨B16, e4, hB16, hN16⟩ := hR 7 (by decide)
  have ne : B15 ≠ B16 := fun e => hap 6 7 (by decide) (by decide) (by decide) rfl rfl (by rw [e3, e4, e])
  clear hR hap
  simp only [putsN, atL, Act.put, List.getD_cons_zero, List.getD_cons_succ, List.setIfInBounds_toArray, List.set_cons_succ, List.set_cons_zero, e1, e2, e3, e4]
  generalize vals 0 = q5_0
  generalize vals 1 = q5_1
  generalize vals 3 = q5_3
  generalize vals 4 = q5_4
  clear e1 e2 e3 e4 vals
  have g1 := grown_setRow_new hg B15 (cellsOf .u64 5 da) (Or.inl hB15)
  have g2 := grown_setRow_new g1 B16 (cellsOf .u64 5 cb) (Or.inl hB16)
  have k16 : Holds (W.setRow B15 (cellsOf .u64 5 da)) B16 28 .u64 5 (fun _ => 0) := hN16.of_block (setRow_other W B15 B16 (cellsOf .u64 5 da) (Ne.symm ne))
  have h15 : Holds ((W.setRow B15 (cellsOf .u64 5 da)).setRow B16 (cellsOf .u64 5 cb)) B15 28 .u64 5 da := (hN15.setRow .u64 5 da).of_block (setRow_other _ B16 B15 (cellsOf .u64 5 cb) ne)
  have h16 := k16.setRow .u64 5 cb
  show wpAnyH _ _ _ _ _ 2 #[true, true, true, true, true, true, true, true, false, false] _ _
  refine wpAnyH_one (i := 8) (by kernel_rfl) (op_store 28 15 46 B15 (cellsOf .u64 5 da) rfl rfl rfl rfl rfl rfl 28 _ hN15.block (by rw [cellsOf_size]; kernel_rfl) (by simp only [cellsOf_size]) (cellsOf_all _ _ _) g1 ?_)
  simp only [List.setIfInBounds_toArray, List.set_cons_succ, List.set_cons_zero]
  refine wpAnyH_one (i := 9) (by kernel_rfl) (op_store 28 16 49 B16 (cellsOf .u64 5 cb) rfl rfl rfl rfl rfl rfl 28 _ k16.block (by rw [cellsOf_size]; kernel_rfl) (by simp only [cellsOf_size]) (cellsOf_all _ _ _) g2 ?_)
  simp only [List.setIfInBounds_toArray, List.set_cons_succ, List.set_cons_zero]
  refine wpAnyH_done (by kernel_rfl) ?_ _
  have l15 : B + 4 < B15 := Nat.lt_of_lt_of_le hz hB15
  have l16 : B + 4 < B16 := Nat.lt_of_lt_of_le hz hB16
  replace hP := hP.grown g2 (by simp)
  replace hQ := hQ.grown g2 (by simp)
  replace hU := hU.grown g2 (by simp)
  replace hT := hT.grown g2 (by simp)
  replace hS := hS.grown g2 (by simp)
  replace h8 := h8.grown g2 (by simp)
  replace h9 := h9.grown g2 (by simp)
  replace h10 := h10.grown g2 (by simp)
  replace h11 := h11.grown g2 (by simp)
  replace h12 := h12.grown g2 (by simp)
  replace h13 := h13.grown g2 (by simp)
  replace h14 := h14.grown g2 (by simp)
  replace gr := grown_trans gr g2
  replace hz := Nat.lt_of_lt_of_le hz g2.size
  clear hg hB15 hB16 hN15 hN16 ne g1 g2 k16
  generalize (W.setRow B15 (cellsOf .u64 5 da)).setRow B16 (cellsOf .u64 5 cb) = W5 at *
  clear W W4
  go_upto_region 6 with fail
  refine wp_region_rel_all (fun W => w.grownBy W none) (fun _ h => grown_trans gr h) (alL []) (relL [fun y _ => y = .agg (cellsOf .u64 5 aa), fun y _ => y = .agg (cellsOf .u64 5 bb), fun y _ => y = .agg (cellsOf .u64 5 tx), fun y _ => y = .agg (cellsOf .u64 5 e), fun y _ => y = .agg (cellsOf .u64 5 aa), fun y _ => y = .agg (cellsOf .u64 5 sm), fun y _ => y = .agg (cellsOf .u64 5 e), fun y _ => y = .agg (cellsOf .u64 5 me), fun y _ => y = .agg (cellsOf .u64 5 ae), fun y _ => y = .agg (cellsOf .u64 5 tz), fun y _ => y = .agg (cellsOf .u64 10 (prL tx tz))])
    11 1 (atL [50, 51, 52, 53, 54, 55, 56, 57, 58, 59, 60]) (depL [[], [], [0, 1], [], [], [], [], [5, 6], [4, 7], [3, 8], [2, 9]]) (by kernel_rfl) rfl (by kernel_rfl) (by kernel_rfl) (by kernel_rfl) (by decide) (by kernel_rfl) 74 rfl (by decide) (by decide) (by decide) ?mono6 ?al6 ?step6 ?fin6
  case mono6 =>
    intro k x W W' hk h g
    obtain rfl | rfl | rfl | rfl | rfl | rfl | rfl | rfl | rfl | rfl | rfl : k = 0 ∨ k = 1 ∨ k = 2 ∨ k = 3 ∨ k = 4 ∨ k = 5 ∨ k = 6 ∨ k = 7 ∨ k = 8 ∨ k = 9 ∨ k = 10 := by omega
    · exact h
    · exact h
    · exact h
    · exact h
    · exact h
    · exact h
    · exact h
    · exact h
    · exact h
    · exact h
    · exact h
  case al6 =>
    intro k x W hk e h
    obtain rfl | rfl | rfl | rfl | rfl | rfl | rfl | rfl | rfl | rfl | rfl : k = 0 ∨ k = 1 ∨ k = 2 ∨ k = 3 ∨ k = 4 ∨ k = 5 ∨ k = 6 ∨ k = 7 ∨ k = 8 ∨ k = 9 ∨ k = 10 := by omega
    · exact absurd e (by decide)
    · exact absurd e (by decide)
    · exact absurd e (by decide)
    · exact absurd e (by decide)
    · exact absurd e (by decide)
    · exact absurd e (by decide)
    · exact absurd e (by decide)
    · exact absurd e (by decide)
    · exact absurd e (by decide)
    · exact absurd e (by decide)
    · exact absurd e (by decide)
  case step6 =>
    intro k hk
    obtain rfl | rfl | rfl | rfl | rfl | rfl | rfl | rfl | rfl | rfl | rfl : k = 0 ∨ k = 1 ∨ k = 2 ∨ k = 3 ∨ k = 4 ∨ k = 5 ∨ k = 6 ∨ k = 7 ∨ k = 8 ∨ k = 9 ∨ k = 10 := by omega
    · refine ⟨_, rfl, rfl, fun b W hs hg hD => ⟨wanted_of rfl, fun K hK0 => ?_⟩⟩
      have hK := fun v W' g h => hK0 v W' g h (fun e => absurd e (by decide))
      exact rel_val (run_num5 (h12.grown hg (by simp)) rfl ((eval_slot b 12).trans (hs 12 (by decide)))) rfl hK
    · refine ⟨_, rfl, rfl, fun b W hs hg hD => ⟨wanted_of rfl, fun K hK0 => ?_⟩⟩
      have hK := fun v W' g h => hK0 v W' g h (fun e => absurd e (by decide))
      exact rel_val (run_num5 (h13.grown hg (by simp)) rfl ((eval_slot b 13).trans (hs 13 (by decide)))) rfl hK
    · refine ⟨_, rfl, rfl, fun b W hs hg hD => ⟨wanted_of rfl, fun K hK0 => ?_⟩⟩
      have hK := fun v W' g h => hK0 v W' g h (fun e => absurd e (by decide))
      refine rel_call 13 _ (exec_fn2 _ _ _ _ _ rfl ((eval_slot b 50).trans (hD 0 (by decide))) ((eval_slot b 51).trans (hD 1 (by decide)))) mul_enters ?_ hK
      exact (Htx.out W).mono fun e w' h => ⟨_, h.1, h.2, rfl⟩
    · refine ⟨_, rfl, rfl, fun b W hs hg hD => ⟨wanted_of rfl, fun K hK0 => ?_⟩⟩
      have hK := fun v W' g h => hK0 v W' g h (fun e => absurd e (by decide))
      exact rel_val (run_num5 (h14.grown hg (by simp)) rfl ((eval_slot b 14).trans (hs 14 (by decide)))) rfl hK
    · refine ⟨_, rfl, rfl, fun b W hs hg hD => ⟨wanted_of rfl, fun K hK0 => ?_⟩⟩
      have hK := fun v W' g h => hK0 v W' g h (fun e => absurd e (by decide))
      exact rel_val (run_num5 (h12.grown hg (by simp)) rfl ((eval_slot b 12).trans (hs 12 (by decide)))) rfl hK
    · refine ⟨_, rfl, rfl, fun b W hs hg hD => ⟨wanted_of rfl, fun K hK0 => ?_⟩⟩
      have hK := fun v W' g h => hK0 v W' g h (fun e => absurd e (by decide))
      refine rel_call 15 _ (exec_fn1 _ _ _ rfl rfl) small_enters ?_ hK
      exact (Hsm.out W).mono fun e w' h => ⟨_, h.1, h.2, rfl⟩
    · refine ⟨_, rfl, rfl, fun b W hs hg hD => ⟨wanted_of rfl, fun K hK0 => ?_⟩⟩
      have hK := fun v W' g h => hK0 v W' g h (fun e => absurd e (by decide))
      exact rel_val (run_num5 (h14.grown hg (by simp)) rfl ((eval_slot b 14).trans (hs 14 (by decide)))) rfl hK
    · refine ⟨_, rfl, rfl, fun b W hs hg hD => ⟨wanted_of rfl, fun K hK0 => ?_⟩⟩
      have hK := fun v W' g h => hK0 v W' g h (fun e => absurd e (by decide))
      refine rel_call 13 _ (exec_fn2 _ _ _ _ _ rfl ((eval_slot b 55).trans (hD 5 (by decide))) ((eval_slot b 56).trans (hD 6 (by decide)))) mul_enters ?_ hK
      exact (Hme.out W).mono fun e w' h => ⟨_, h.1, h.2, rfl⟩
    · refine ⟨_, rfl, rfl, fun b W hs hg hD => ⟨wanted_of rfl, fun K hK0 => ?_⟩⟩
      have hK := fun v W' g h => hK0 v W' g h (fun e => absurd e (by decide))
      refine rel_call 9 _ (exec_fn2 _ _ _ _ _ rfl ((eval_slot b 54).trans (hD 4 (by decide))) ((eval_slot b 57).trans (hD 7 (by decide)))) add_enters ?_ hK
      exact (Hae.out W).mono fun e w' h => ⟨_, h.1, h.2, rfl⟩
    · refine ⟨_, rfl, rfl, fun b W hs hg hD => ⟨wanted_of rfl, fun K hK0 => ?_⟩⟩
      have hK := fun v W' g h => hK0 v W' g h (fun e => absurd e (by decide))
      refine rel_call 13 _ (exec_fn2 _ _ _ _ _ rfl ((eval_slot b 53).trans (hD 3 (by decide))) ((eval_slot b 58).trans (hD 8 (by decide)))) mul_enters ?_ hK
      exact (Htz.out W).mono fun e w' h => ⟨_, h.1, h.2, rfl⟩
    · refine ⟨_, rfl, rfl, fun b W hs hg hD => ⟨wanted_of rfl, fun K hK0 => ?_⟩⟩
      have hK := fun v W' g h => hK0 v W' g h (fun e => absurd e (by decide))
      have h0 : b.tmps[52]?.getD undef = .agg (cellsOf .u64 5 tx) := (hD 2 (by decide))
      have h1 : b.tmps[59]?.getD undef = .agg (cellsOf .u64 5 tz) := (hD 9 (by decide))
      exact rel_val (v := .agg (cellsOf .u64 10 (prL tx tz))) (run_build2 rfl h0 h1) rfl hK
  intro vals W hg hR hap
  have e1 : vals 10 = .agg (cellsOf .u64 10 (prL tx tz)) := hR 10 (by decide)
  clear hR hap
  simp only [putsN, atL, Act.put, List.getD_cons_zero, List.getD_cons_succ, List.setIfInBounds_toArray, List.set_cons_succ, List.set_cons_zero, e1]
  generalize vals 0 = q6_0
  generalize vals 1 = q6_1
  generalize vals 2 = q6_2
  generalize vals 3 = q6_3
  generalize vals 4 = q6_4
  generalize vals 5 = q6_5
  generalize vals 6 = q6_6
  generalize vals 7 = q6_7
  generalize vals 8 = q6_8
  generalize vals 9 = q6_9
  clear e1 vals
  have g1 := grown_setRow_new (grown_trans gr hg) (B + 3) (cellsOf .u64 10 (prL tx tz)) (Or.inl (by have := HB.out; omega))
  have gs : W5.grownBy (W.setRow (B + 3) (cellsOf .u64 10 (prL tx tz))) (some (B + 3)) := grown_setRow_new (grown_some hg) _ _ (Or.inr rfl)
  have k0 := hT.grown hg (by simp)
  show wpAnyH _ _ _ _ _ 1 #[true, true, true, true, true, true, true, true, true, true, true, false] _ _
  refine wpAnyH_one (i := 11) (by kernel_rfl) (op_store 79 6 60 (B + 3) (cellsOf .u64 10 (prL tx tz)) rfl rfl rfl rfl rfl rfl 79 _ k0.block (by rw [cellsOf_size]; kernel_rfl) (by simp only [cellsOf_size]) (cellsOf_all _ _ _) g1 ?_)
  simp only [List.setIfInBounds_toArray, List.set_cons_succ, List.set_cons_zero]
  refine wpAnyH_done (by kernel_rfl) ?_ _
  replace hT := k0.setRow .u64 10 (prL tx tz)
  replace hP := hP.grown gs (by simp; try omega)
  replace hQ := hQ.grown gs (by simp; try omega)
  replace hU := hU.grown gs (by simp; try omega)
  replace hS := hS.grown gs (by simp; try omega)
  replace h8 := h8.grown gs (by simp; try omega)
  replace h9 := h9.grown gs (by simp; try omega)
  replace h10 := h10.grown gs (by simp; try omega)
  replace h11 := h11.grown gs (by simp; try omega)
  replace h12 := h12.grown gs (by simp; try omega)
  replace h13 := h13.grown gs (by simp; try omega)
  replace h14 := h14.grown gs (by simp; try omega)
  replace h15 := h15.grown gs (by simp; try omega)
  replace h16 := h16.grown gs (by simp; try omega)
  replace gr := g1
  replace hz := Nat.lt_of_lt_of_le hz gs.size
  clear hg g1 gs k0
  generalize W.setRow (B + 3) (cellsOf .u64 10 (prL tx tz)) = W6 at *
  clear W W5
  go_upto_region 7 with fail
  refine wp_region_rel_all (fun W => w.grownBy W none) (fun _ h => grown_trans gr h) (alL []) (relL [fun y _ => y = .agg (cellsOf .u64 5 da), fun y _ => y = .agg (cellsOf .u64 5 cb), fun y _ => y = .agg (cellsOf .u64 5 ss), fun y _ => y = .agg (cellsOf .u64 5 sx), fun y _ => y = .agg (cellsOf .u64 5 u), fun y _ => y = .agg (cellsOf .u64 5 da), fun y _ => y = .agg (cellsOf .u64 5 cb), fun y _ => y = .agg (cellsOf .u64 5 sd), fun y _ => y = .agg (cellsOf .u64 5 s2), fun y _ => y = .agg (cellsOf .u64 5 sz), fun y _ => y = .agg (cellsOf .u64 10 (prL sx sz))])
    11 1 (atL [61, 62, 63, 64, 65, 66, 67, 68, 69, 70, 71]) (depL [[], [], [0, 1], [2], [], [], [], [5, 6], [7], [4, 8], [3, 9]]) (by kernel_rfl) rfl (by kernel_rfl) (by kernel_rfl) (by kernel_rfl) (by decide) (by kernel_rfl) 74 rfl (by decide) (by decide) (by decide) ?mono7 ?al7 ?step7 ?fin7
  case mono7 =>
    intro k x W W' hk h g
    obtain rfl | rfl | rfl | rfl | rfl | rfl | rfl | rfl | rfl | rfl | rfl : k = 0 ∨ k = 1 ∨ k = 2 ∨ k = 3 ∨ k = 4 ∨ k = 5 ∨ k = 6 ∨ k = 7 ∨ k = 8 ∨ k = 9 ∨ k = 10 := by omega
    · exact h
    · exact h
    · exact h
    · exact h
    · exact h
    · exact h
    · exact h
    · exact h
    · exact h
    · exact h
    · exact h
  case al7 =>
    intro k x W hk e h
    obtain rfl | rfl | rfl | rfl | rfl | rfl | rfl | rfl | rfl | rfl | rfl : k = 0 ∨ k = 1 ∨ k = 2 ∨ k = 3 ∨ k = 4 ∨ k = 5 ∨ k = 6 ∨ k = 7 ∨ k = 8 ∨ k = 9 ∨ k = 10 := by omega
    · exact absurd e (by decide)
    · exact absurd e (by decide)
    · exact absurd e (by decide)
    · exact absurd e (by decide)
    · exact absurd e (by decide)
    · exact absurd e (by decide)
    · exact absurd e (by decide)
    · exact absurd e (by decide)
    · exact absurd e (by decide)
    · exact absurd e (by decide)
    · exact absurd e (by decide)
  case step7 =>
    intro k hk
    obtain rfl | rfl | rfl | rfl | rfl | rfl | rfl | rfl | rfl | rfl | rfl : k = 0 ∨ k = 1 ∨ k = 2 ∨ k = 3 ∨ k = 4 ∨ k = 5 ∨ k = 6 ∨ k = 7 ∨ k = 8 ∨ k = 9 ∨ k = 10 := by omega
    · refine ⟨_, rfl, rfl, fun b W hs hg hD => ⟨wanted_of rfl, fun K hK0 => ?_⟩⟩
      have hK := fun v W' g h => hK0 v W' g h (fun e => absurd e (by decide))
      exact rel_val (run_num5 (h15.grown hg (by simp)) rfl ((eval_slot b 15).trans (hs 15 (by decide)))) rfl hK
    · refine ⟨_, rfl, rfl, fun b W hs hg hD => ⟨wanted_of rfl, fun K hK0 => ?_⟩⟩
      have hK := fun v W' g h => hK0 v W' g h (fun e => absurd e (by decide))
      exact rel_val (run_num5 (h16.grown hg (by simp)) rfl ((eval_slot b 16).trans (hs 16 (by decide)))) rfl hK
    · refine ⟨_, rfl, rfl, fun b W hs hg hD => ⟨wanted_of rfl, fun K hK0 => ?_⟩⟩
      have hK := fun v W' g h => hK0 v W' g h (fun e => absurd e (by decide))
      refine rel_call 9 _ (exec_fn2 _ _ _ _ _ rfl ((eval_slot b 61).trans (hD 0 (by decide))) ((eval_slot b 62).trans (hD 1 (by decide)))) add_enters ?_ hK
      exact (Hss.out W).mono fun e w' h => ⟨_, h.1, h.2, rfl⟩
    · refine ⟨_, rfl, rfl, fun b W hs hg hD => ⟨wanted_of rfl, fun K hK0 => ?_⟩⟩
      have hK := fun v W' g h => hK0 v W' g h (fun e => absurd e (by decide))
      refine rel_call 56 _ (exec_fn1 _ _ _ rfl ((eval_slot b 63).trans (hD 2 (by decide)))) square_enters ?_ hK
      exact (Hsx.out W).mono fun e w' h => ⟨_, h.1, h.2, rfl⟩
    · refine ⟨_, rfl, rfl, fun b W hs hg hD => ⟨wanted_of rfl, fun K hK0 => ?_⟩⟩
      have hK := fun v W' g h => hK0 v W' g h (fun e => absurd e (by decide))
      exact rel_val (run_num5 (hU.grown hg (by simp)) rfl ((eval_slot b 5).trans (hs 5 (by decide)))) rfl hK
    · refine ⟨_, rfl, rfl, fun b W hs hg hD => ⟨wanted_of rfl, fun K hK0 => ?_⟩⟩
      have hK := fun v W' g h => hK0 v W' g h (fun e => absurd e (by decide))
      exact rel_val (run_num5 (h15.grown hg (by simp)) rfl ((eval_slot b 15).trans (hs 15 (by decide)))) rfl hK
    · refine ⟨_, rfl, rfl, fun b W hs hg hD => ⟨wanted_of rfl, fun K hK0 => ?_⟩⟩
      have hK := fun v W' g h => hK0 v W' g h (fun e => absurd e (by decide))
      exact rel_val (run_num5 (h16.grown hg (by simp)) rfl ((eval_slot b 16).trans (hs 16 (by decide)))) rfl hK
    · refine ⟨_, rfl, rfl, fun b W hs hg hD => ⟨wanted_of rfl, fun K hK0 => ?_⟩⟩
      have hK := fun v W' g h => hK0 v W' g h (fun e => absurd e (by decide))
      refine rel_call 11 _ (exec_fn2 _ _ _ _ _ rfl ((eval_slot b 66).trans (hD 5 (by decide))) ((eval_slot b 67).trans (hD 6 (by decide)))) sub_enters ?_ hK
      exact (Hsd.out W).mono fun e w' h => ⟨_, h.1, h.2, rfl⟩
    · refine ⟨_, rfl, rfl, fun b W hs hg hD => ⟨wanted_of rfl, fun K hK0 => ?_⟩⟩
      have hK := fun v W' g h => hK0 v W' g h (fun e => absurd e (by decide))
      refine rel_call 56 _ (exec_fn1 _ _ _ rfl ((eval_slot b 68).trans (hD 7 (by decide)))) square_enters ?_ hK
      exact (Hs2.out W).mono fun e w' h => ⟨_, h.1, h.2, rfl⟩
    · refine ⟨_, rfl, rfl, fun b W hs hg hD => ⟨wanted_of rfl, fun K hK0 => ?_⟩⟩
      have hK := fun v W' g h => hK0 v W' g h (fun e => absurd e (by decide))
      refine rel_call 13 _ (exec_fn2 _ _ _ _ _ rfl ((eval_slot b 65).trans (hD 4 (by decide))) ((eval_slot b 69).trans (hD 8 (by decide)))) mul_enters ?_ hK
      exact (Hsz.out W).mono fun e w' h => ⟨_, h.1, h.2, rfl⟩
    · refine ⟨_, rfl, rfl, fun b W hs hg hD => ⟨wanted_of rfl, fun K hK0 => ?_⟩⟩
      have hK := fun v W' g h => hK0 v W' g h (fun e => absurd e (by decide))
      have h0 : b.tmps[64]?.getD undef = .agg (cellsOf .u64 5 sx) := (hD 3 (by decide))
      have h1 : b.tmps[70]?.getD undef = .agg (cellsOf .u64 5 sz) := (hD 9 (by decide))
      exact rel_val (v := .agg (cellsOf .u64 10 (prL sx sz))) (run_build2 rfl h0 h1) rfl hK
  intro vals W hg hR hap
  have e1 : vals 10 = .agg (cellsOf .u64 10 (prL sx sz)) := hR 10 (by decide)
  clear hR hap
  simp only [putsN, atL, Act.put, List.getD_cons_zero, List.getD_cons_succ, List.setIfInBounds_toArray, List.set_cons_succ, List.set_cons_zero, e1]
  generalize vals 0 = q7_0
  generalize vals 1 = q7_1
  generalize vals 2 = q7_2
  generalize vals 3 = q7_3
  generalize vals 4 = q7_4
  generalize vals 5 = q7_5
  generalize vals 6 = q7_6
  generalize vals 7 = q7_7
  generalize vals 8 = q7_8
  generalize vals 9 = q7_9
  clear e1 vals
  have g1 := grown_setRow_new (grown_trans gr hg) (B + 4) (cellsOf .u64 10 (prL sx sz)) (Or.inl (by have := HB.out; omega))
  have gs : W6.grownBy (W.setRow (B + 4) (cellsOf .u64 10 (prL sx sz))) (some (B + 4)) := grown_setRow_new (grown_some hg) _ _ (Or.inr rfl)
  have k0 := hS.grown hg (by simp)
  show wpAnyH _ _ _ _ _ 1 #[true, true, true, true, true, true, true, true, true, true, true, false] _ _
  refine wpAnyH_one (i := 11) (by kernel_rfl) (op_store 79 7 71 (B + 4) (cellsOf .u64 10 (prL sx sz)) rfl rfl rfl rfl rfl rfl 79 _ k0.block (by rw [cellsOf_size]; kernel_rfl) (by simp only [cellsOf_size]) (cellsOf_all _ _ _) g1 ?_)
  simp only [List.setIfInBounds_toArray, List.set_cons_succ, List.set_cons_zero]
  refine wpAnyH_done (by kernel_rfl) ?_ _
  replace hS := k0.setRow .u64 10 (prL sx sz)
  replace hP := hP.grown gs (by simp; try omega)
  replace hQ := hQ.grown gs (by simp; try omega)
  replace hU := hU.grown gs (by simp; try omega)
  replace hT := hT.grown gs (by simp; try omega)
  replace h8 := h8.grown gs (by simp; try omega)
  replace h9 := h9.grown gs (by simp; try omega)
  replace h10 := h10.grown gs (by simp; try omega)
  replace h11 := h11.grown gs (by simp; try omega)
  replace h12 := h12.grown gs (by simp; try omega)
  replace h13 := h13.grown gs (by simp; try omega)
  replace h14 := h14.grown gs (by simp; try omega)
  replace h15 := h15.grown gs (by simp; try omega)
  replace h16 := h16.grown gs (by simp; try omega)
  replace gr := g1
  replace hz := Nat.lt_of_lt_of_le hz gs.size
  clear hg g1 gs k0
  generalize W.setRow (B + 4) (cellsOf .u64 10 (prL sx sz)) = W7 at *
  clear W W6
  go_upto_region 8 with fail
  clear hP hQ hU h8 h9 h10 h11 h12 h13 h14 h15 h16
  refine wp_region_held (S := fun W => Holds W (B + 3) 79 .u64 10 (prL tx tz) ∧ Holds W (B + 4) 79 .u64 10 (prL sx sz) ∧ w.grownBy W none) (by kernel_rfl) ?_
  change wpAnyH _ _ _ _ _ 4 #[false, false, false, false] _ (World.drew _)
  have k0 := hT.drew
  have k1 := hS.drew
  replace gr := grown_drew gr
  generalize W7.drew = V0 at *
  have g1 := grown_setRow_new gr (B + 3) (cellsOf .u64 10 (prL tx tz)) (Or.inl (by have := HB.out; omega))
  have g2 := grown_setRow_new g1 (B + 4) (cellsOf .u64 10 (prL sx sz)) (Or.inl (by have := HB.out; omega))
  have k2 := k0.setRow .u64 10 (prL tx tz)
  have k3 := k1.of_block (setRow_other V0 (B + 3) (B + 4) (cellsOf .u64 10 (prL tx tz)) (by omega))
  have r0 := k2.of_block (setRow_other _ (B + 4) (B + 3) (cellsOf .u64 10 (prL sx sz)) (by omega))
  have r1 := k3.setRow .u64 10 (prL sx sz)
  refine wpAnyH_takeD (some 72) (i := 0) (v := .agg (cellsOf .u64 10 (prL tx tz))) rfl rfl (by kernel_rfl) (by kernel_rfl) (by kernel_rfl) (fun _ _ _ h => h) (Or.inl ⟨rfl, fun W hW => run_pair hW.1 rfl rfl⟩) ⟨k0, k1, gr⟩ ?_
  simp only [Act.put, List.setIfInBounds_toArray, List.set_cons_succ, List.set_cons_zero]
  refine wpAnyH_takeD (some 73) (i := 1) (v := .agg (cellsOf .u64 10 (prL sx sz))) rfl rfl (by kernel_rfl) (by kernel_rfl) (by kernel_rfl) (fun _ _ _ h => h) (Or.inl ⟨rfl, fun W hW => run_pair hW.2.1 rfl rfl⟩) ⟨k0, k1, gr⟩ ?_
  simp only [Act.put, List.setIfInBounds_toArray, List.set_cons_succ, List.set_cons_zero]
  refine wpAnyH_one (i := 2) (by kernel_rfl) (op_store 79 6 72 (B + 3) (cellsOf .u64 10 (prL tx tz)) rfl rfl rfl rfl rfl rfl 79 _ k0.block (by rw [cellsOf_size]; kernel_rfl) (by simp only [cellsOf_size]) (cellsOf_all _ _ _) ⟨k2, k3, g1⟩ ?_)
  simp only [List.setIfInBounds_toArray, List.set_cons_succ, List.set_cons_zero]
  refine wpAnyH_one (i := 3) (by kernel_rfl) (op_store 79 7 73 (B + 4) (cellsOf .u64 10 (prL sx sz)) rfl rfl rfl rfl rfl rfl 79 _ k3.block (by rw [cellsOf_size]; kernel_rfl) (by simp only [cellsOf_size]) (cellsOf_all _ _ _) ⟨r0, r1, g2⟩ ?_)
  simp only [List.setIfInBounds_toArray, List.set_cons_succ, List.set_cons_zero]
  refine wpAnyH_done (by kernel_rfl) ?_ _
  have R0 := Lib.hid r0
  have R1 := Lib.hid r1
  have G2 := Lib.hid g2
  clear r0 r1 g1 g2 k0 k1 k2 k3 hT hS gr hz
  go_wp2_with fail
  refine bodyPost_ret (res_two rfl rfl rfl R0.out R1.out (by kernel_rfl) (by kernel_rfl) (by kernel_rfl) (by kernel_rfl)) rfl ?_
  exact ⟨rfl, G2.out⟩
end Go.Proofs.Ytpnddojcihdniaa
namespace Go.Proofs.Ytpnddojcihdniaa
open Go.RowKit Go.Shelf

attribute [local go_sem] Oper.semAt_some

set_option maxRecDepth 100000
set_option maxHeartbeats 2000000

theorem cdown_any (x : Nat → Nat) (w : World) : Calls Try.prog 47 #[.agg (cellsOf .u8 32 x)] w fun e w' => e = .returned (.func (.func 54) #[] #[.pointer (some ⟨w.heap.size, 0, none⟩)]) ∧ w' = w.alloc (.cells (cellsOf .u8 32 x) 45) := by
  go_enter Try.func47, Try.ntmps47
  go_wp2
  go_ret
  exact ⟨rfl, rfl⟩

def encC (f : Nat → Nat) (k : Nat) : Array Value := #[.int .u64 (ldB f k : Nat)]
theorem bits_and_u8_nat (a b : Nat) (ha : a < 256) (hb : b < 256) : bits .and .u8 (a : Int) (b : Int) = ((a &&& b : Nat) : Int) := by
  show IntKind.u8.wrap ((BitVec.ofInt 8 (a : Int) &&& BitVec.ofInt 8 (b : Int)).toNat : Int) = _
  have h : a &&& b < 2 ^ 8 := Nat.and_lt_two_pow a hb
  rw [BitVec.toNat_and, toNat_ofInt 8 a ha, toNat_ofInt 8 b hb, IntKind.wrap_u8]
  omega
theorem cdown_run (n l Bs : Nat) (f : Nat → Nat) (hf : ∀ i, f i < 256) (hn : 1 ≤ n) (J Jx : List Nat → World → Prop)
    (hJ : ∀ pre W W', J pre W → W.grownBy W' none → J pre W')
    (hY : ∀ pre x W, J pre W → pre.length < 255 → YieldAt Fence.wide (n - 1) Try.prog l (encC f x) W fun e W' =>
      (e = .returned (.bool true) ∧ J (pre ++ [x]) W' ∧ KeepB Bs W W') ∨ (e = .returned (.bool false) ∧ Jx (pre ++ [x]) W'))
    (W : World) (hB : Holds W Bs 45 .u8 32 f) (h0 : J [] W) :
    CallsIn Fence.wide n Try.prog 54 #[.func (.yield l) #[] #[], .pointer (some ⟨Bs, 0, none⟩)] W fun e W' => (∃ v, e = .returned v) ∧
      ((∃ ys, ys = List.range 255 ∧ J ys W') ∨ (∃ pre, True ∧ Jx pre W')) := by
  have HJ := Lib.hid hJ
  have HY := Lib.hid hY
  clear hJ hY
  refine callsIn_of_wp Try.func54 rfl trivial ?_ rfl
  simp only [Try.ntmps54, List.size_toArray, List.length_cons, List.length_nil, Nat.reduceAdd, Nat.reduceSub, Array.replicate_succ, Array.replicate_zero, List.push_toArray, List.append_toArray, List.nil_append, List.cons_append]
  gi_wp2
  gi_loopw [3] (fun u3 wr => ∃ k : Nat, k ≤ 255 ∧ u3 = .int .i64 (254 - (k : Int)) ∧ J (List.range k) wr ∧ Holds wr Bs 45 .u8 32 f) (fun u3 _ => (intOf u3 + 1).toNat)
  case atStart => exact ⟨0, by omega, rfl, h0, hB⟩
  case round =>
    clear h0 hB
    obtain ⟨k, hk, rfl, hJk, hBk⟩ := hrel
    by_cases hlt : k < 255
    · obtain ⟨m, hm⟩ : ∃ m, m = 254 - k := ⟨_, rfl⟩
      have em : 254 - (k : Int) = (m : Int) := by omega
      rw [em]
      have j1 : (m : Int) < 255 := by omega
      obtain ⟨q, hq⟩ : ∃ q, q = m / 8 := ⟨_, rfl⟩
      obtain ⟨r, hr⟩ : ∃ r, r = m % 8 := ⟨_, rfl⟩
      have x0 : (m : Int) / 8 = (q : Int) := by omega
      have x1 : (m : Int).tmod 8 = (r : Int) := by rw [Int.tmod_eq_emod_of_nonneg (by omega)]; omega
      have x2 : (m : Int) % 8 = (r : Int) := by omega
      have x4 : (m : Int).tdiv 8 = (q : Int) := by rw [Int.tdiv_eq_ediv_of_nonneg (by omega)]; omega
      have w4 : IntKind.i64.wrap (q : Int) = (q : Int) := by rw [IntKind.wrap_i64]; omega
      have k0 : (q : Int) < 32 := by omega
      have k1 : (r : Int) < 8 := by omega
      have c0 := hBk.cell q (by omega)
      have hbt : ldB f k = f q / 2 ^ r % 2 := by unfold ldB byBit; rw [← hm, ← hq, ← hr]
      have hlw : f q < 256 := hf q
      obtain ⟨b, hb⟩ : ∃ b, b = ldB f k := ⟨_, rfl⟩
      have hb2 : b < 2 := by rw [hb, hbt]; exact Nat.mod_lt _ (by decide)
      rw [← hb] at hbt
      generalize f q = xq at *
      have hand : bits .and .u8 ((xq : Int) / 2 ^ r) 1 = (b : Int) := by
        have e : ((2 : Int) ^ r) = ((2 ^ r : Nat) : Int) := by simp
        have h1 := bits_and_u8_nat (xq / 2 ^ r) 1 (Nat.lt_of_le_of_lt (Nat.div_le_self _ _) hlw) (by decide)
        rw [Nat.and_one_is_mod, ← hbt] at h1
        rw [e, ← Int.natCast_ediv]
        exact h1
      have hw64 : IntKind.u64.wrap (b : Int) = (b : Int) := by rw [IntKind.wrap_u64]; omega
      have HYk := HY.out (List.range k) k
      unfold encC at HYk
      rw [← hb] at HYk
      have HY2 := Lib.hid HYk
      have HA := Lib.hid hand
      have HW := Lib.hid hw64
      have Hm := Lib.hid hm
      clear hbt hlw hb hb2 hand hw64 hq hr hm HYk em
      gi_wp2
      rw [HA.out]
      simp only [HW.out]
      obtain ⟨fn, tmps, assign, body, hy, hR⟩ := HY2.out wr hJk (by rw [List.length_range]; exact hlt)
      have HR := Lib.hid hR
      have Hk := Lib.hid hlt
      clear hR x0 x1 x2 x4 w4 c0 hJk hlt hk HY2
      rw [hy]
      gi_wp2
      refine HR.out.mono ?_
      rintro e W3 (⟨rfl, hJ3, hk3⟩ | ⟨rfl, hJx3⟩)
      · have hB3 : Holds W3 Bs 45 .u8 32 f := hBk.of_block hk3
        rw [← List.range_succ] at hJ3
        gi_wp2
        go_roundw
        case rel => exact ⟨k + 1, Hk.out, congrArg (Value.int .i64) (by have := Hm.out; have := Hk.out; omega), hJ3, hB3⟩
        case measure =>
          have := Hm.out
          have := Hk.out
          simp [intOf]
          try omega
      · gi_wp2
        refine bodyPost_ret (results_none rfl _ _ _) rfl ?_
        exact ⟨⟨_, rfl⟩, .inr ⟨_, trivial, hJx3⟩⟩
    · obtain rfl : k = 255 := by omega
      gi_wp2
      go_end0
      exact ⟨⟨_, rfl⟩, .inl ⟨_, rfl, hJk⟩⟩

theorem cdown_stops (n Bs : Nat) (f : Nat → Nat) (hf : ∀ i, f i < 256) (hn : 1 ≤ n) (w : World) (hB : Holds w Bs 45 .u8 32 f) :
    SeqStopsK Fence.wide n Try.prog 54 #[.pointer (some ⟨Bs, 0, none⟩)] (encC f) (KeepB Bs) (fun ys => ys = List.range 255) (fun _ => True) 255 w :=
  fun l J Jx W hW hJ _ hY h0 =>
    cdown_run n l Bs f hf hn J Jx (fun pre A B h hg => hJ pre A B none h hg (fun r e => by cases e)) hY W (hB.of_block (hW.block Bs hB.lt)) h0

end Go.Proofs.Ytpnddojcihdniaa
namespace Go.Proofs.Ytpnddojcihdniaa
open Go.RowKit

set_option maxRecDepth 100000
set_option maxHeartbeats 2000000

/-- What the two numbers are behind it. -/
def swL (Y : Nat) (f g : Nat → Nat) (j : Nat) : Nat := if Y = 1 then g j else f j
structure Swp (w0 w : World) (bx by' : Nat) (F G : Nat → Nat) (w' : World) : Prop where
  gr : w0.grownBy w' none
  x : Holds w' bx 28 .u64 5 F
  y : Holds w' by' 28 .u64 5 G
  sz : w.heap.size ≤ w'.heap.size
  same : ∀ b, b < w.heap.size → b ≠ bx → b ≠ by' → w'.heap[b]? = w.heap[b]?
theorem Swp.drew {w0 w w' : World} {bx by' : Nat} {F G : Nat → Nat} (h : Swp w0 w bx by' F G w') : Swp w0 w bx by' F G w'.drew := ⟨grown_drew h.gr, h.x.drew, h.y.drew, h.sz, h.same⟩
theorem Swp.drewN {w0 w w' : World} {bx by' : Nat} {F G : Nat → Nat} (h : Swp w0 w bx by' F G w') (n : Nat) : Swp w0 w bx by' F G (w'.drewN n) := ⟨grown_drewN h.gr n, h.x.drewN n, h.y.drewN n, h.sz, h.same⟩
theorem Swp.setX {w0 w w' : World} {bx by' : Nat} {F G : Nat → Nat} (h : Swp w0 w bx by' F G w') (hx : w0.heap.size ≤ bx) (hne : bx ≠ by') (i v : Nat) : Swp w0 w bx by' (upd F i v) G (w'.setCell ⟨bx, i, none⟩ (.int .u64 v)) :=
  ⟨grown_setCell_new h.gr _ _ (Or.inl hx), h.x.set i v, h.y.setOther _ _ (Ne.symm hne), by rw [World.size_setCell]; exact h.sz, fun b hb h1 h2 => (heap_setCell_other _ _ b _ h1).trans (h.same b hb h1 h2)⟩
theorem Swp.setY {w0 w w' : World} {bx by' : Nat} {F G : Nat → Nat} (h : Swp w0 w bx by' F G w') (hy : w0.heap.size ≤ by') (hne : bx ≠ by') (i v : Nat) : Swp w0 w bx by' F (upd G i v) (w'.setCell ⟨by', i, none⟩ (.int .u64 v)) :=
  ⟨grown_setCell_new h.gr _ _ (Or.inl hy), h.x.setOther _ _ hne, h.y.set i v, by rw [World.size_setCell]; exact h.sz, fun b hb h1 h2 => (heap_setCell_other _ _ b _ h2).trans (h.same b hb h1 h2)⟩
theorem Swp.congr {w0 w w' : World} {bx by' : Nat} {F G F' G' : Nat → Nat} (h : Swp w0 w bx by' F G w') (hf : ∀ i, i < 5 → F i = F' i) (hg : ∀ i, i < 5 → G i = G' i) : Swp w0 w bx by' F' G' w' := ⟨h.gr, h.x.congr hf, h.y.congr hg, h.sz, h.same⟩

theorem xor_back (a b : Nat) : a ^^^ (a ^^^ b) = b := by rw [← Nat.xor_assoc, Nat.xor_self, Nat.zero_xor]
theorem bits_xor64 (a b : Nat) (ha : a < 18446744073709551616) (hb : b < 18446744073709551616) : bits .xor .u64 (a : Int) (b : Int) = ((a ^^^ b : Nat) : Int) := bits_xor_u64 a b ha hb
theorem swap_nilx (Y : Nat) (p : Option Addr) (w : World) : Calls Try.prog 55 #[.int .u64 Y, .pointer none, .pointer p] w fun e w' => (∃ v, e = .returned v) ∧ w = w' := by
  go_enter Try.func55, Try.ntmps55
  go_wp2_with fail
  refine bodyPost_ret (results_none rfl _ _ _) rfl ?_
  exact ⟨⟨_, rfl⟩, rfl⟩
theorem swap_nily (Y bx : Nat) (w : World) : Calls Try.prog 55 #[.int .u64 Y, .pointer (some ⟨bx, 0, none⟩), .pointer none] w fun e w' => (∃ v, e = .returned v) ∧ w = w' := by
  go_enter Try.func55, Try.ntmps55
  go_wp2_with fail
  refine bodyPost_ret (results_none rfl _ _ _) rfl ?_
  exact ⟨⟨_, rfl⟩, rfl⟩
theorem swap_any (Y bx by' : Nat) (f g : Nat → Nat) (w0 w : World) (hY : Y ≤ 1) (h0 : w0.grownBy w none) (hx0 : w0.heap.size ≤ bx) (hy0 : w0.heap.size ≤ by') (hne : bx ≠ by') (hf : ∀ i, i < 5 → f i < 18446744073709551616) (hg : ∀ i, i < 5 → g i < 18446744073709551616)
    (hx : Holds w bx 28 .u64 5 f) (hy : Holds w by' 28 .u64 5 g) :
    Calls Try.prog 55 #[.int .u64 Y, .pointer (some ⟨bx, 0, none⟩), .pointer (some ⟨by', 0, none⟩)] w fun e w' => (∃ v, e = .returned v) ∧ Swp w0 w bx by' (swL Y f g) (swL Y g f) w' := by
  have hS : Swp w0 w bx by' (fun j => if j < 0 then swL Y f g j else f j) (fun j => if j < 0 then swL Y g f j else g j) w := ⟨h0, hx.congr (fun j _ => (if_neg (Nat.not_lt_zero j)).symm), hy.congr (fun j _ => (if_neg (Nat.not_lt_zero j)).symm), Nat.le_refl _, fun _ _ _ _ => rfl⟩
  obtain ⟨m, hm⟩ : ∃ m, m = if Y = 1 then 18446744073709551615 else 0 := ⟨_, rfl⟩
  have zm : IntKind.u64.wrap (-(Y : Int)) = (m : Int) := by
    rw [hm, IntKind.wrap_u64]
    split <;> omega
  have HF := Lib.hid hf
  have HG := Lib.hid hg
  have HY := Lib.hid hY
  have HM := Lib.hid hm
  have HN := Lib.hid hne
  have HN2 := Lib.hid (Ne.symm hne)
  clear hx hy h0 hf hg hm hY
  go_enter Try.func55, Try.ntmps55
  go_upto_region 2 with fail
  clear zm
  go_wp2_with fail
  go_loopw [7, 8, 17] (fun _ _ u17 wr => ∃ i : Nat, i ≤ 5 ∧ u17 = .int .i64 i ∧ Swp w0 w bx by' (fun j => if j < i then swL Y f g j else f j) (fun j => if j < i then swL Y g f j else g j) wr) (fun _ _ u17 _ => 5 - (intOf u17).toNat)
  case atStart => exact ⟨0, by omega, rfl, hS⟩
  case round =>
    clear hS
    obtain ⟨i, hi, rfl, hS⟩ := hrel
    by_cases hlt : i < 5
    · have j1 : (i : Int) < 5 := by omega
      obtain ⟨d, hd⟩ : ∃ d, d = if Y = 1 then f i ^^^ g i else 0 := ⟨_, rfl⟩
      have h1 := HF.out i hlt
      have h2 := HG.out i hlt
      have hdl : d < 18446744073709551616 := by
        rw [hd]
        split
        · exact Nat.xor_lt_two_pow (n := 64) h1 h2
        · decide
      have z1 : bits .and .u64 (bits .xor .u64 (f i : Int) (g i : Int)) (m : Int) = (d : Int) := by
        rw [bits_xor64 _ _ h1 h2, HM.out, hd]
        by_cases e : Y = 1
        · rw [if_pos e, if_pos e, bits_and_u64_nat _ _ (Nat.xor_lt_two_pow (n := 64) h1 h2) (by decide), Nat.and_two_pow_sub_one_of_lt_two_pow (n := 64) (Nat.xor_lt_two_pow (n := 64) h1 h2)]
        · rw [if_neg e, if_neg e, bits_and_u64_nat _ _ (Nat.xor_lt_two_pow (n := 64) h1 h2) (by decide), Nat.and_zero]
      have e1 : f i ^^^ d = swL Y f g i := by
        rw [hd]
        unfold swL
        split
        · exact xor_back _ _
        · exact Nat.xor_zero _
      have e2 : g i ^^^ d = swL Y g f i := by
        rw [hd]
        unfold swL
        split
        · rw [Nat.xor_comm (f i), xor_back]
        · exact Nat.xor_zero _
      have z2 : bits .xor .u64 (f i : Int) (d : Int) = ((swL Y f g i : Nat) : Int) := by rw [bits_xor64 _ _ h1 hdl, e1]
      have z3 : bits .xor .u64 (g i : Int) (d : Int) = ((swL Y g f i : Nat) : Int) := by rw [bits_xor64 _ _ h2 hdl, e2]
      have cx := hS.x.cell i hlt
      have cy := hS.y.cell i hlt
      rw [if_neg (Nat.lt_irrefl i)] at cx cy
      have hS2 : ∀ V, Swp w0 w bx by' (fun j => if j < i then swL Y f g j else f j) (fun j => if j < i then swL Y g f j else g j) V → Swp w0 w bx by' (upd (fun j => if j < i then swL Y f g j else f j) i (swL Y f g i)) (fun j => if j < i then swL Y g f j else g j) (V.setCell ⟨bx, i, none⟩ (.int .u64 (swL Y f g i : Nat))) := fun V h => h.setX hx0 HN.out i _
      have hS3 : ∀ V, Swp w0 w bx by' (upd (fun j => if j < i then swL Y f g j else f j) i (swL Y f g i)) (fun j => if j < i then swL Y g f j else g j) V → Swp w0 w bx by' (fun j => if j < i + 1 then swL Y f g j else f j) (fun j => if j < i + 1 then swL Y g f j else g j) (V.setCell ⟨by', i, none⟩ (.int .u64 (swL Y g f i : Nat))) := fun V h => (h.setY hy0 HN.out i (swL Y g f i)).congr (fun j hj => by
          by_cases e : j = i
          · subst e; rw [upd_same, if_pos (by omega)]
          · rw [upd_other _ _ _ _ e]
            by_cases e3 : j < i
            · rw [if_pos e3, if_pos (by omega)]
            · rw [if_neg e3, if_neg (by omega)]) (fun j hj => by
          by_cases e : j = i
          · subst e; rw [upd_same, if_pos (by omega)]
          · rw [upd_other _ _ _ _ e]
            by_cases e3 : j < i
            · rw [if_pos e3, if_pos (by omega)]
            · rw [if_neg e3, if_neg (by omega)])
      have HS2 := Lib.hid hS2
      have HS3 := Lib.hid hS3
      obtain ⟨vx, hvx⟩ : ∃ v, v = swL Y f g i := ⟨_, rfl⟩
      obtain ⟨vy, hvy⟩ : ∃ v, v = swL Y g f i := ⟨_, rfl⟩
      rw [← hvx] at z2 HS2 HS3
      rw [← hvy] at z3 HS3
      have HI := Lib.hid hlt
      have HS := Lib.hid hS
      have Z1 := Lib.hid z1
      have Z2 := Lib.hid z2
      have Z3 := Lib.hid z3
      have CY := Lib.hid (show ∀ V, Swp w0 w bx by' (upd (fun j => if j < i then swL Y f g j else f j) i vx) (fun j => if j < i then swL Y g f j else g j) V → V.cell? ⟨by', i, none⟩ = some (.int .u64 (g i : Nat)) ∧ V.frozen? ⟨by', i, none⟩ = false from fun V h => by
        have := h.y.cell i hlt
        rw [if_neg (Nat.lt_irrefl i)] at this
        exact ⟨this, h.y.frozen i⟩)
      have CX := Lib.hid (show ∀ V, Swp w0 w bx by' (fun j => if j < i then swL Y f g j else f j) (fun j => if j < i then swL Y g f j else g j) V → V.cell? ⟨bx, i, none⟩ = some (.int .u64 (f i : Nat)) ∧ V.frozen? ⟨bx, i, none⟩ = false from fun V h => by
        have := h.x.cell i hlt
        rw [if_neg (Nat.lt_irrefl i)] at this
        exact ⟨this, h.x.frozen i⟩)
      clear hd h1 h2 hdl z1 z2 z3 e1 e2 hS2 hS3 hvx hvy hlt hi hS
      generalize f i = fi at *
      generalize g i = gi at *
      go_wp2_with fail
      go_quiet (fail)
      go_wp2_with fail
      obtain ⟨V1, hV1⟩ : ∃ V, V = (wr.drewN nq).drew := ⟨_, rfl⟩
      have s1 := (HS.out.drewN nq).drew
      rw [← hV1] at s1
      have HV1 := Lib.hid hV1.symm
      have S1 := Lib.hid s1
      obtain ⟨c1, f1⟩ := CX.out V1 s1
      clear hV1 s1 cx cy
      simp only [Z1.out]
      refine wp_region_still_tail 11 (by kernel_rfl) (by kernel_rfl) ?_
      change wpStill _ _ (World.drew (wr.drewN nq)) (fun a' => wpList _ _ _ _ a' (World.drew (wr.drewN nq))) _ _
      rw [HV1.out]
      simp only [List.take_succ_cons, List.take_zero, List.drop_succ_cons, List.drop_zero]
      repeat still_step
      refine wpStill_nil ?_
      simp only [Z2.out]
      go_wp2_with fail
      obtain ⟨V2, hV2⟩ : ∃ V, V = (V1.setCell ⟨bx, i, none⟩ (.int .u64 (vx : Nat))).drew := ⟨_, rfl⟩
      have s2 := (HS2.out V1 S1.out).drew
      rw [← hV2] at s2
      have HV2 := Lib.hid hV2.symm
      have S2 := Lib.hid s2
      obtain ⟨c2, f2⟩ := CY.out V2 s2
      clear hV2 s2 c1 f1
      refine wp_region_still_tail 11 (by kernel_rfl) (by kernel_rfl) ?_
      change wpStill _ _ (World.drew (V1.setCell ⟨bx, i, none⟩ (.int .u64 (vx : Nat)))) (fun a' => wpList _ _ _ _ a' (World.drew (V1.setCell ⟨bx, i, none⟩ (.int .u64 (vx : Nat))))) _ _
      rw [HV2.out]
      simp only [List.take_succ_cons, List.take_zero, List.drop_succ_cons, List.drop_zero]
      repeat still_step
      refine wpStill_nil ?_
      simp only [Z3.out]
      have hfin := HS3.out V2 S2.out
      have HFin := Lib.hid hfin
      clear hfin
      go_wp2_with fail
      first
        | exact ⟨⟨i + 1, by omega, by go_num, HFin.out⟩, by simp [intOf]; omega⟩
        | (go_roundw
           case rel => exact ⟨i + 1, by have := HI.out; omega, by go_num, HFin.out⟩
           case measure => have := HI.out; simp [intOf]; omega)
    · obtain rfl : i = 5 := by omega
      have hE := hS.congr (F' := swL Y f g) (G' := swL Y g f) (fun j hj => if_pos hj) (fun j hj => if_pos hj)
      clear hS hlt hi
      go_wp2_with fail
      go_end0
      exact ⟨⟨_, rfl⟩, hE⟩
end Go.Proofs.Ytpnddojcihdniaa
namespace Go.Proofs.Ytpnddojcihdniaa
open Go.RowKit

set_option maxRecDepth 100000
set_option maxHeartbeats 2000000

structure SwpP (w0 w : World) (bx by' : Nat) (F G : Nat → Nat) (w' : World) : Prop where
  gr : w0.grownBy w' none
  x : Holds w' bx 79 .u64 10 F
  y : Holds w' by' 79 .u64 10 G
  sz : w.heap.size ≤ w'.heap.size
  same : ∀ b, b < w.heap.size → b ≠ bx → b ≠ by' → w'.heap[b]? = w.heap[b]?
theorem SwpP.drew {w0 w w' : World} {bx by' : Nat} {F G : Nat → Nat} (h : SwpP w0 w bx by' F G w') : SwpP w0 w bx by' F G w'.drew := ⟨grown_drew h.gr, h.x.drew, h.y.drew, h.sz, h.same⟩
theorem SwpP.drewN {w0 w w' : World} {bx by' : Nat} {F G : Nat → Nat} (h : SwpP w0 w bx by' F G w') (n : Nat) : SwpP w0 w bx by' F G (w'.drewN n) := ⟨grown_drewN h.gr n, h.x.drewN n, h.y.drewN n, h.sz, h.same⟩
theorem SwpP.setX {w0 w w' : World} {bx by' : Nat} {F G : Nat → Nat} (h : SwpP w0 w bx by' F G w') (hx : w0.heap.size ≤ bx) (hne : bx ≠ by') (i v : Nat) : SwpP w0 w bx by' (upd F i v) G (w'.setCell ⟨bx, i, none⟩ (.int .u64 v)) :=
  ⟨grown_setCell_new h.gr _ _ (Or.inl hx), h.x.set i v, h.y.setOther _ _ (Ne.symm hne), by rw [World.size_setCell]; exact h.sz, fun b hb h1 h2 => (heap_setCell_other _ _ b _ h1).trans (h.same b hb h1 h2)⟩
theorem SwpP.setY {w0 w w' : World} {bx by' : Nat} {F G : Nat → Nat} (h : SwpP w0 w bx by' F G w') (hy : w0.heap.size ≤ by') (hne : bx ≠ by') (i v : Nat) : SwpP w0 w bx by' F (upd G i v) (w'.setCell ⟨by', i, none⟩ (.int .u64 v)) :=
  ⟨grown_setCell_new h.gr _ _ (Or.inl hy), h.x.setOther _ _ hne, h.y.set i v, by rw [World.size_setCell]; exact h.sz, fun b hb h1 h2 => (heap_setCell_other _ _ b _ h2).trans (h.same b hb h1 h2)⟩
theorem SwpP.congr {w0 w w' : World} {bx by' : Nat} {F G F' G' : Nat → Nat} (h : SwpP w0 w bx by' F G w') (hf : ∀ i, i < 10 → F i = F' i) (hg : ∀ i, i < 10 → G i = G' i) : SwpP w0 w bx by' F' G' w' := ⟨h.gr, h.x.congr hf, h.y.congr hg, h.sz, h.same⟩

/-- What two pairs are behind it. -/
def swO (o Y : Nat) (f g : Nat → Nat) (j : Nat) : Nat := if o ≤ j ∧ j < o + 5 then swL Y f g j else f j
theorem swapP_any (o Y bx by' : Nat) (f g : Nat → Nat) (w0 w : World) (ho : o + 5 ≤ 10) (hY : Y ≤ 1) (h0 : w0.grownBy w none) (hx0 : w0.heap.size ≤ bx) (hy0 : w0.heap.size ≤ by') (hne : bx ≠ by') (hf : ∀ i, i < 10 → f i < 18446744073709551616) (hg : ∀ i, i < 10 → g i < 18446744073709551616)
    (hx : Holds w bx 79 .u64 10 f) (hy : Holds w by' 79 .u64 10 g) :
    Calls Try.prog 55 #[.int .u64 Y, .pointer (some ⟨bx, o, none⟩), .pointer (some ⟨by', o, none⟩)] w fun e w' => (∃ v, e = .returned v) ∧ SwpP w0 w bx by' (swO o Y f g) (swO o Y g f) w' := by
  have hS : SwpP w0 w bx by' (fun j => if o ≤ j ∧ j < o + 0 then swL Y f g j else f j) (fun j => if o ≤ j ∧ j < o + 0 then swL Y g f j else g j) w := ⟨h0, hx.congr (fun j _ => (if_neg (by omega)).symm), hy.congr (fun j _ => (if_neg (by omega)).symm), Nat.le_refl _, fun _ _ _ _ => rfl⟩
  obtain ⟨m, hm⟩ : ∃ m, m = if Y = 1 then 18446744073709551615 else 0 := ⟨_, rfl⟩
  have zm : IntKind.u64.wrap (-(Y : Int)) = (m : Int) := by
    rw [hm, IntKind.wrap_u64]
    split <;> omega
  have HF := Lib.hid hf
  have HG := Lib.hid hg
  have HY := Lib.hid hY
  have HM := Lib.hid hm
  have HN := Lib.hid hne
  have HN2 := Lib.hid (Ne.symm hne)
  clear hx hy h0 hf hg hm hY
  go_enter Try.func55, Try.ntmps55
  go_upto_region 2 with fail
  clear zm
  go_wp2_with fail
  go_loopw [7, 8, 17] (fun _ _ u17 wr => ∃ i : Nat, i ≤ 5 ∧ u17 = .int .i64 i ∧ SwpP w0 w bx by' (fun j => if o ≤ j ∧ j < o + i then swL Y f g j else f j) (fun j => if o ≤ j ∧ j < o + i then swL Y g f j else g j) wr) (fun _ _ u17 _ => 5 - (intOf u17).toNat)
  case atStart => exact ⟨0, by omega, rfl, hS⟩
  case round =>
    clear hS
    obtain ⟨i, hi, rfl, hS⟩ := hrel
    by_cases hlt : i < 5
    · have j1 : (i : Int) < 5 := by omega
      obtain ⟨d, hd⟩ : ∃ d, d = if Y = 1 then f (o + i) ^^^ g (o + i) else 0 := ⟨_, rfl⟩
      have h1 := HF.out (o + i) (by omega)
      have h2 := HG.out (o + i) (by omega)
      have hdl : d < 18446744073709551616 := by
        rw [hd]
        split
        · exact Nat.xor_lt_two_pow (n := 64) h1 h2
        · decide
      have z1 : bits .and .u64 (bits .xor .u64 (f (o + i) : Int) (g (o + i) : Int)) (m : Int) = (d : Int) := by
        rw [bits_xor64 _ _ h1 h2, HM.out, hd]
        by_cases e : Y = 1
        · rw [if_pos e, if_pos e, bits_and_u64_nat _ _ (Nat.xor_lt_two_pow (n := 64) h1 h2) (by decide), Nat.and_two_pow_sub_one_of_lt_two_pow (n := 64) (Nat.xor_lt_two_pow (n := 64) h1 h2)]
        · rw [if_neg e, if_neg e, bits_and_u64_nat _ _ (Nat.xor_lt_two_pow (n := 64) h1 h2) (by decide), Nat.and_zero]
      have e1 : f (o + i) ^^^ d = swL Y f g (o + i) := by
        rw [hd]
        unfold swL
        split
        · exact xor_back _ _
        · exact Nat.xor_zero _
      have e2 : g (o + i) ^^^ d = swL Y g f (o + i) := by
        rw [hd]
        unfold swL
        split
        · rw [Nat.xor_comm (f (o + i)), xor_back]
        · exact Nat.xor_zero _
      have z2 : bits .xor .u64 (f (o + i) : Int) (d : Int) = ((swL Y f g (o + i) : Nat) : Int) := by rw [bits_xor64 _ _ h1 hdl, e1]
      have z3 : bits .xor .u64 (g (o + i) : Int) (d : Int) = ((swL Y g f (o + i) : Nat) : Int) := by rw [bits_xor64 _ _ h2 hdl, e2]
      have cx := hS.x.cell (o + i) (by omega)
      have cy := hS.y.cell (o + i) (by omega)
      rw [if_neg (by omega)] at cx cy
      have hS2 : ∀ V, SwpP w0 w bx by' (fun j => if o ≤ j ∧ j < o + i then swL Y f g j else f j) (fun j => if o ≤ j ∧ j < o + i then swL Y g f j else g j) V → SwpP w0 w bx by' (upd (fun j => if o ≤ j ∧ j < o + i then swL Y f g j else f j) (o + i) (swL Y f g (o + i))) (fun j => if o ≤ j ∧ j < o + i then swL Y g f j else g j) (V.setCell ⟨bx, o + i, none⟩ (.int .u64 (swL Y f g (o + i) : Nat))) := fun V h => h.setX hx0 HN.out (o + i) _
      have hS3 : ∀ V, SwpP w0 w bx by' (upd (fun j => if o ≤ j ∧ j < o + i then swL Y f g j else f j) (o + i) (swL Y f g (o + i))) (fun j => if o ≤ j ∧ j < o + i then swL Y g f j else g j) V → SwpP w0 w bx by' (fun j => if o ≤ j ∧ j < o + (i + 1) then swL Y f g j else f j) (fun j => if o ≤ j ∧ j < o + (i + 1) then swL Y g f j else g j) (V.setCell ⟨by', o + i, none⟩ (.int .u64 (swL Y g f (o + i) : Nat))) := fun V h => (h.setY hy0 HN.out (o + i) (swL Y g f (o + i))).congr (fun j hj => by
          by_cases e : j = o + i
          · subst e; rw [upd_same, if_pos (by omega)]
          · rw [upd_other _ _ _ _ e]
            by_cases e3 : o ≤ j ∧ j < o + i
            · rw [if_pos e3, if_pos (by omega)]
            · rw [if_neg e3, if_neg (by omega)]) (fun j hj => by
          by_cases e : j = o + i
          · subst e; rw [upd_same, if_pos (by omega)]
          · rw [upd_other _ _ _ _ e]
            by_cases e3 : o ≤ j ∧ j < o + i
            · rw [if_pos e3, if_pos (by omega)]
            · rw [if_neg e3, if_neg (by omega)])
      have HS2 := Lib.hid hS2
      have HS3 := Lib.hid hS3
      obtain ⟨vx, hvx⟩ : ∃ v, v = swL Y f g (o + i) := ⟨_, rfl⟩
      obtain ⟨vy, hvy⟩ : ∃ v, v = swL Y g f (o + i) := ⟨_, rfl⟩
      rw [← hvx] at z2 HS2 HS3
      rw [← hvy] at z3 HS3
      have HI := Lib.hid hlt
      have HS := Lib.hid hS
      have Z1 := Lib.hid z1
      have Z2 := Lib.hid z2
      have Z3 := Lib.hid z3
      have CY := Lib.hid (show ∀ V, SwpP w0 w bx by' (upd (fun j => if o ≤ j ∧ j < o + i then swL Y f g j else f j) (o + i) vx) (fun j => if o ≤ j ∧ j < o + i then swL Y g f j else g j) V → V.cell? ⟨by', o + i, none⟩ = some (.int .u64 (g (o + i) : Nat)) ∧ V.frozen? ⟨by', o + i, none⟩ = false from fun V h => by
        have := h.y.cell (o + i) (by omega)
        rw [if_neg (by omega)] at this
        exact ⟨this, h.y.frozen (o + i)⟩)
      have CX := Lib.hid (show ∀ V, SwpP w0 w bx by' (fun j => if o ≤ j ∧ j < o + i then swL Y f g j else f j) (fun j => if o ≤ j ∧ j < o + i then swL Y g f j else g j) V → V.cell? ⟨bx, o + i, none⟩ = some (.int .u64 (f (o + i) : Nat)) ∧ V.frozen? ⟨bx, o + i, none⟩ = false from fun V h => by
        have := h.x.cell (o + i) (by omega)
        rw [if_neg (by omega)] at this
        exact ⟨this, h.x.frozen (o + i)⟩)
      clear hd h1 h2 hdl z1 z2 z3 e1 e2 hS2 hS3 hvx hvy hlt hi hS
      generalize f (o + i) = fi at *
      generalize g (o + i) = gi at *
      go_wp2_with fail
      go_quiet (fail)
      go_wp2_with fail
      obtain ⟨V1, hV1⟩ : ∃ V, V = (wr.drewN nq).drew := ⟨_, rfl⟩
      have s1 := (HS.out.drewN nq).drew
      rw [← hV1] at s1
      have HV1 := Lib.hid hV1.symm
      have S1 := Lib.hid s1
      obtain ⟨c1, f1⟩ := CX.out V1 s1
      clear hV1 s1 cx cy
      simp only [Z1.out]
      refine wp_region_still_tail 11 (by kernel_rfl) (by kernel_rfl) ?_
      change wpStill _ _ (World.drew (wr.drewN nq)) (fun a' => wpList _ _ _ _ a' (World.drew (wr.drewN nq))) _ _
      rw [HV1.out]
      simp only [List.take_succ_cons, List.take_zero, List.drop_succ_cons, List.drop_zero]
      repeat still_step
      refine wpStill_nil ?_
      simp only [Z2.out]
      go_wp2_with fail
      obtain ⟨V2, hV2⟩ : ∃ V, V = (V1.setCell ⟨bx, o + i, none⟩ (.int .u64 (vx : Nat))).drew := ⟨_, rfl⟩
      have s2 := (HS2.out V1 S1.out).drew
      rw [← hV2] at s2
      have HV2 := Lib.hid hV2.symm
      have S2 := Lib.hid s2
      obtain ⟨c2, f2⟩ := CY.out V2 s2
      clear hV2 s2 c1 f1
      refine wp_region_still_tail 11 (by kernel_rfl) (by kernel_rfl) ?_
      change wpStill _ _ (World.drew (V1.setCell ⟨bx, o + i, none⟩ (.int .u64 (vx : Nat)))) (fun a' => wpList _ _ _ _ a' (World.drew (V1.setCell ⟨bx, o + i, none⟩ (.int .u64 (vx : Nat))))) _ _
      rw [HV2.out]
      simp only [List.take_succ_cons, List.take_zero, List.drop_succ_cons, List.drop_zero]
      repeat still_step
      refine wpStill_nil ?_
      simp only [Z3.out]
      have hfin := HS3.out V2 S2.out
      have HFin := Lib.hid hfin
      clear hfin
      go_wp2_with fail
      first
        | exact ⟨⟨i + 1, by omega, by go_num, HFin.out⟩, by simp [intOf]; omega⟩
        | (go_roundw
           case rel => exact ⟨i + 1, by have := HI.out; omega, by go_num, HFin.out⟩
           case measure => have := HI.out; simp [intOf]; omega)
    · obtain rfl : i = 5 := by omega
      have hE := hS.congr (F' := swO o Y f g) (G' := swO o Y g f) (fun _ _ => rfl) (fun _ _ => rfl)
      clear hS hlt hi
      go_wp2_with fail
      go_end0
      exact ⟨⟨_, rfl⟩, hE⟩
end Go.Proofs.Ytpnddojcihdniaa
namespace Go.Proofs.Ytpnddojcihdniaa
open Go.RowKit Go.Shelf

set_option maxRecDepth 100000
set_option maxHeartbeats 2000000

theorem SwpP.trans {w0 w w1 w2 : World} {bx by' : Nat} {F G F' G' : Nat → Nat} (h : SwpP w0 w bx by' F G w1) (k : SwpP w0 w1 bx by' F' G' w2) : SwpP w0 w bx by' F' G' w2 :=
  ⟨k.gr, k.x, k.y, Nat.le_trans h.sz k.sz, fun b hb h1 h2 => (k.same b (Nat.lt_of_lt_of_le hb h.sz) h1 h2).trans (h.same b hb h1 h2)⟩
theorem swO_lt (o Y : Nat) (f g : Nat → Nat) (hf : ∀ i, i < 10 → f i < 18446744073709551616) (hg : ∀ i, i < 10 → g i < 18446744073709551616) (i : Nat) (hi : i < 10) : swO o Y f g i < 18446744073709551616 := by
  unfold swO swL
  split
  · split
    · exact hg i hi
    · exact hf i hi
  · exact hf i hi
theorem swO_both (Y : Nat) (f g : Nat → Nat) (j : Nat) (hj : j < 10) : swO 5 Y (swO 0 Y f g) (swO 0 Y g f) j = swL Y f g j := by
  unfold swO swL
  by_cases e : j < 5
  · have h5 : ¬ (5 ≤ j ∧ j < 5 + 5) := by omega
    have h0 : 0 ≤ j ∧ j < 0 + 5 := by omega
    simp only [if_neg h5, if_pos h0]
  · have h5 : 5 ≤ j ∧ j < 5 + 5 := by omega
    have h0 : ¬ (0 ≤ j ∧ j < 0 + 5) := by omega
    simp only [if_pos h5, if_neg h0]
theorem swap_enters (args : Array Value) (w : World) : (callFunc 55 args).run Try.prog w = .ok (.enter 55 args) w := enters_of Try.func55 (by kernel_rfl) rfl args w
theorem cswap_any (Y bx by' : Nat) (f g : Nat → Nat) (w0 w : World) (hY : Y ≤ 1) (h0 : w0.grownBy w none) (hx0 : w0.heap.size ≤ bx) (hy0 : w0.heap.size ≤ by') (hne : bx ≠ by') (hf : ∀ i, i < 10 → f i < 18446744073709551616) (hg : ∀ i, i < 10 → g i < 18446744073709551616)
    (hx : Holds w bx 79 .u64 10 f) (hy : Holds w by' 79 .u64 10 g) :
    Calls Try.prog 48 #[.int .u64 Y, .pointer (some ⟨bx, 0, none⟩), .pointer (some ⟨by', 0, none⟩)] w fun e w' => (∃ v, e = .returned v) ∧ SwpP w0 w bx by' (swL Y f g) (swL Y g f) w' := by
  have H1 := Lib.hid (fun (V : World) (k : SwpP w0 w bx by' f g V) => swapP_any 0 Y bx by' f g w0 V (by decide) hY k.gr hx0 hy0 hne hf hg k.x k.y)
  have H2 := Lib.hid (fun (V : World) (k : SwpP w0 w bx by' (swO 0 Y f g) (swO 0 Y g f) V) => swapP_any 5 Y bx by' (swO 0 Y f g) (swO 0 Y g f) w0 V (by decide) hY k.gr hx0 hy0 hne (swO_lt 0 Y f g hf hg) (swO_lt 0 Y g f hg hf) k.x k.y)
  have S0 := Lib.hid (SwpP.drew (⟨h0, hx, hy, Nat.le_refl _, fun _ _ _ _ => rfl⟩ : SwpP w0 w bx by' f g w))
  clear h0 hx hy hx0 hy0 hne hf hg hY
  go_enter Try.func48, Try.ntmps48
  go_wp2_with fail
  refine wp_region_still_tail 7 (by kernel_rfl) (by kernel_rfl) ?_
  change wpStill _ _ w.drew (fun a' => wpList _ _ _ _ a' w.drew) _ _
  generalize w.drew = V0 at *
  simp only [List.take_succ_cons, List.take_zero, List.drop_succ_cons, List.drop_zero]
  repeat still_step
  refine wpStill_nil ?_
  go_wp2_with fail
  go_at_call 55
  refine (H1.out V0 S0.out).mono ?_
  rintro e V1 ⟨⟨v, rfl⟩, k1⟩
  have S1 := Lib.hid (S0.out.trans k1).drew
  clear k1 S0 H1
  go_wp2_with fail
  refine wp_region_still_tail 7 (by kernel_rfl) (by kernel_rfl) ?_
  change wpStill _ _ V1.drew (fun a' => wpList _ _ _ _ a' V1.drew) _ _
  generalize V1.drew = V2 at *
  simp only [List.take_succ_cons, List.take_zero, List.drop_succ_cons, List.drop_zero]
  repeat still_step
  refine wpStill_nil ?_
  go_wp2_with fail
  go_at_call 55
  refine (H2.out V2 S1.out).mono ?_
  rintro e V3 ⟨⟨v2, rfl⟩, k2⟩
  have S2 := Lib.hid ((S1.out.trans k2).congr (F' := swL Y f g) (G' := swL Y g f) (swO_both Y f g) (swO_both Y g f))
  clear k2 S1 H2
  go_wp2_with fail
  go_end0
  exact ⟨⟨_, rfl⟩, S2.out⟩
end Go.Proofs.Ytpnddojcihdniaa
namespace Go.Proofs.Ytpnddojcihdniaa
open Go.RowKit

theorem put_swap (a : Act) (p q : Nat) (x y : Value) (hp : p < a.tmps.size) (hq : q < a.tmps.size) (ne : p ≠ q) : (a.put (some q) y).put (some p) x = (a.put (some p) x).put (some q) y := by
  refine act_ext rfl (by simp [Act.put]) fun t _ => ?_
  rw [slotv_put _ _ _ _ (by simpa [Act.put] using hp), slotv_put _ _ _ _ hq, slotv_put _ _ _ _ (by simpa [Act.put] using hq), slotv_put _ _ _ _ hp]
  by_cases e1 : t = p
  · by_cases e2 : t = q
    · exact absurd (e1.symm.trans e2) ne
    · rw [if_pos e1, if_neg e2, if_pos e1]
  · rw [if_neg e1, if_neg e1]
/-- A region that ends plainly: nothing is asked of another end. -/
theorem wp_region_plain {P : Program} {Q : Exit → Act → World → Prop} {id : Nat} {ops : Array Oper} {b : Bool} {a : Act} {w : World} (h : (Code.region id ops b).wp P (fun e a' w' => e = .normal ∧ Q .normal a' w') a w) : (Code.region id ops b).wp P Q a w :=
  Code.wp_mono (fun e a' w' h => by
    obtain ⟨rfl, h⟩ := h
    exact h) h
section
variable {P : Program} {ops : Array Oper} {Q : Exit → Act → World → Prop} {V : World} {a : Act} {w : World}
theorem two_new (T : TypeId) (kd : IntKind) (n : Nat) (f g : Nat → Nat) (i j k l p q s t : Nat) (ls : Array Bool) {oi oj ok ol : Oper}
    (r0 : Region.ready .any ops ls = [i, j]) (r1 : Region.ready .any ops (ls.setIfInBounds i true) = [j]) (r2 : Region.ready .any ops (ls.setIfInBounds j true) = [i])
    (r3 : Region.ready .any ops ((ls.setIfInBounds i true).setIfInBounds j true) = [k]) (r3' : Region.ready .any ops ((ls.setIfInBounds j true).setIfInBounds i true) = [k])
    (r4 : Region.ready .any ops (((ls.setIfInBounds i true).setIfInBounds j true).setIfInBounds k true) = [l]) (r4' : Region.ready .any ops (((ls.setIfInBounds j true).setIfInBounds i true).setIfInBounds k true) = [l])
    (r5 : Region.ready .any ops ((((ls.setIfInBounds i true).setIfInBounds j true).setIfInBounds k true).setIfInBounds l true) = []) (r5' : Region.ready .any ops ((((ls.setIfInBounds j true).setIfInBounds i true).setIfInBounds k true).setIfInBounds l true) = [])
    (hi : ops[i]? = some oi) (hj : ops[j]? = some oj) (hk : ops[k]? = some ok) (hl : ops[l]? = some ol)
    (gi : oi.guard = none) (gj : oj.guard = none) (gk : ok.guard = none) (gl : ol.guard = none)
    (di : oi.dst = some p) (dj : oj.dst = some q) (dk : ok.dst = none) (dl : ol.dst = none)
    (ri : ∀ (b : Act) (W : World), (execOp b.eval oi).run P W = .ok (.value (.pointer (some ⟨W.heap.size, 0, none⟩))) (W.alloc (.cells (cellsOf kd n (fun _ => 0)) T)))
    (rj : ∀ (b : Act) (W : World), (execOp b.eval oj).run P W = .ok (.value (.pointer (some ⟨W.heap.size, 0, none⟩))) (W.alloc (.cells (cellsOf kd n (fun _ => 0)) T)))
    (ek : ok.op = .store T (.tmp p) (.tmp s)) (el : ol.op = .store T (.tmp q) (.tmp t))
    (hs : slotv a s = .agg (cellsOf kd n f)) (ht : slotv a t = .agg (cellsOf kd n g)) (np : p < a.tmps.size) (nq : q < a.tmps.size) (npq : p ≠ q) (nps : s ≠ p) (nqs : s ≠ q) (npt : t ≠ p) (nqt : t ≠ q)
    (hsz : (P.info? T).map (·.size) = some n) (hV : V.grownBy w none)
    (hfin : ∀ bp bq W, bp ≠ bq → V.heap.size ≤ bp → V.heap.size ≤ bq → V.grownBy W none → Holds W bp T kd n f → Holds W bq T kd n g →
      Q .normal ((a.put (some p) (.pointer (some ⟨bp, 0, none⟩))).put (some q) (.pointer (some ⟨bq, 0, none⟩))) W) :
    wpAnyH P .any ops Q (fun W => V.grownBy W none) 4 ls a w := by
  have key : ∀ (x y : Nat) (W : World) (lt : Array Bool), x ≠ y → V.heap.size ≤ x → V.heap.size ≤ y → V.grownBy W none → Holds W x T kd n (fun _ => 0) → Holds W y T kd n (fun _ => 0) →
      Region.ready .any ops lt = [k] → Region.ready .any ops (lt.setIfInBounds k true) = [l] → Region.ready .any ops ((lt.setIfInBounds k true).setIfInBounds l true) = [] →
      wpAnyH P .any ops Q (fun W => V.grownBy W none) 2 lt ((a.put (some p) (.pointer (some ⟨x, 0, none⟩))).put (some q) (.pointer (some ⟨y, 0, none⟩))) W := by
    intro x y W lt ne hx hy hg Hx Hy e1 e2 e3
    have s1 : ∀ u, slotv ((a.put (some p) (.pointer (some ⟨x, 0, none⟩))).put (some q) (.pointer (some ⟨y, 0, none⟩))) u = if u = q then .pointer (some ⟨y, 0, none⟩) else if u = p then .pointer (some ⟨x, 0, none⟩) else slotv a u := fun u => by
      rw [slotv_put _ _ _ _ (by simpa [Act.put] using nq), slotv_put _ _ _ _ np]
    have g1 := grown_setRow_new hg x (cellsOf kd n f) (Or.inl hx)
    have g2 := grown_setRow_new g1 y (cellsOf kd n g) (Or.inl hy)
    have Ky := Hy.of_block (setRow_other W x y (cellsOf kd n f) (Ne.symm ne))
    refine wpAnyH_one e1 (op_store T p s x (cellsOf kd n f) hk dk (wanted_of gk) ek ?_ ?_ T _ Hx.block (by rw [cellsOf_size]; exact hsz) (by simp only [cellsOf_size]) (cellsOf_all _ _ _) g1 ?_)
    · rw [eval_slot, s1, if_neg npq, if_pos rfl]
    · rw [eval_slot, s1, if_neg nqs, if_neg nps]; exact hs
    refine wpAnyH_one e2 (op_store T q t y (cellsOf kd n g) hl dl (wanted_of gl) el ?_ ?_ T _ Ky.block (by rw [cellsOf_size]; exact hsz) (by simp only [cellsOf_size]) (cellsOf_all _ _ _) g2 ?_)
    · rw [eval_slot, s1, if_pos rfl]
    · rw [eval_slot, s1, if_neg nqt, if_neg npt]; exact ht
    refine wpAnyH_done e3 ?_ _
    exact hfin x y _ ne hx hy g2 ((Hx.setRow kd n f).of_block (setRow_other _ y x (cellsOf kd n g) ne)) (Ky.setRow kd n g)
  have A1 := fun W => holds_alloc W T kd n (fun _ => 0) _ rfl
  refine wpAnyH_both r0 ?_ ?_
  · refine wpOp_at hi (wanted_of gi) (wp_yields (ri a w) ?_)
    rw [di]
    have h1 := grown_alloc hV (.cells (cellsOf kd n (fun _ => 0)) T)
    have h2 := grown_alloc h1 (.cells (cellsOf kd n (fun _ => 0)) T)
    refine ⟨h1, wpAnyH_yieldD (some q) r1 hj dj (wanted_of gj) (rj _ _) h2 ?_⟩
    have b2 := A1 (w.alloc (.cells (cellsOf kd n (fun _ => 0)) T))
    refine key _ _ _ _ ?_ hV.size h1.size h2 ((A1 w).grown (World.grownBy_alloc _ _ none) (by simp)) b2 r3 r4 r5
    rw [World.size_alloc]; omega
  · refine wpOp_at hj (wanted_of gj) (wp_yields (rj a w) ?_)
    rw [dj]
    have h1 := grown_alloc hV (.cells (cellsOf kd n (fun _ => 0)) T)
    have h2 := grown_alloc h1 (.cells (cellsOf kd n (fun _ => 0)) T)
    refine ⟨h1, wpAnyH_yieldD (some p) r2 hi di (wanted_of gi) (ri _ _) h2 ?_⟩
    rw [put_swap a p q _ _ np nq npq]
    have b2 := A1 (w.alloc (.cells (cellsOf kd n (fun _ => 0)) T))
    refine key _ _ _ _ ?_ h1.size hV.size h2 b2 ((A1 w).grown (World.grownBy_alloc _ _ none) (by simp)) r3' r4' r5'
    rw [World.size_alloc]; omega
end
end Go.Proofs.Ytpnddojcihdniaa
namespace Go.Proofs.Ytpnddojcihdniaa
open Go.RowKit Go.Shelf

attribute [local go_sem] Oper.semAt_some

set_option maxRecDepth 100000
set_option maxHeartbeats 8000000

/-- What stands when some bits have been gone over. -/
structure InT (w : World) (b0 bp bq bu br : Nat) (u : Nat → Nat) (U : Nat) (bt : Nat → Nat) (pre : List Nat) (W : World) : Prop where
  ex : ∃ x2 z2 x3 z3, Is5 x2 (ladF U bt pre).x2 ∧ Is5 z2 (ladF U bt pre).z2 ∧ Is5 x3 (ladF U bt pre).x3 ∧ Is5 z3 (ladF U bt pre).z3 ∧ Holds W bp 79 .u64 10 (prL x2 z2) ∧ Holds W bq 79 .u64 10 (prL x3 z3)
  u : Holds W bu 28 .u64 5 u
  r : Holds W br 28 .u64 5 (fun _ => 0)
  gr : w.grownBy W none
  sz : b0 ≤ W.heap.size
theorem InT.own {w : World} {b0 bp bq bu br : Nat} {u : Nat → Nat} {U : Nat} {bt : Nat → Nat} (B : Nat) (hw : w.heap.size < B) (h1 : bp < B) (h2 : bq < B) (h3 : bu < B) (h4 : br < B) : OwnFrom B (InT w b0 bp bq bu br u U bt) := fun pre W W' row h hg hr => by
  have hne : ∀ k, k < B → some k ≠ row := fun k hk e => by
    have := (hr k e.symm).1
    omega
  obtain ⟨x2, z2, x3, z3, i1, i2, i3, i4, k1, k2⟩ := h.ex
  exact ⟨⟨x2, z2, x3, z3, i1, i2, i3, i4, k1.grown hg (hne _ h1), k2.grown hg (hne _ h2)⟩, h.u.grown hg (hne _ h3), h.r.grown hg (hne _ h4), ⟨hg.os.trans h.gr.os, hg.tape.trans h.gr.tape, hg.output.trans h.gr.output, Nat.le_trans h.gr.size hg.size, fun k hk hr' => (hg.block k (Nat.lt_of_lt_of_le hk h.gr.size) (hne k (by omega))).trans (h.gr.block k hk hr')⟩, Nat.le_trans h.sz hg.size⟩
theorem swL_pr (Y : Nat) (x z y v : Nat → Nat) : ∀ j, j < 10 → swL Y (prL x z) (prL y v) j = prL (if Y = 1 then y else x) (if Y = 1 then v else z) j := fun j _ => by
  unfold swL
  by_cases e : Y = 1
  · simp only [if_pos e]
  · simp only [if_neg e]
theorem is5_if {Y X1 X2 : Nat} {x y : Nat → Nat} (hx : Is5 x X1) (hy : Is5 y X2) : Is5 (if Y = 1 then y else x) (if Y = 1 then X2 else X1) := by
  by_cases e : Y = 1
  · simp only [if_pos e]; exact hy
  · simp only [if_neg e]; exact hx
theorem pr_lt {x z : Nat → Nat} {X Z : Nat} (hx : Is5 x X) (hz : Is5 z Z) (i : Nat) (hi : i < 10) : prL x z i < 18446744073709551616 := by
  unfold prL
  split
  · exact Nat.lt_trans (hx.lt _ (by omega)) (by decide)
  · exact Nat.lt_trans (hz.lt _ (by omega)) (by decide)
/-- One round's numbers. -/
theorem round_nums {x2 z2 x3 z3 u : Nat → Nat} {l : Lad} {U : Nat} (Y : Nat) (i1 : Is5 x2 l.x2) (i2 : Is5 z2 l.z2) (i3 : Is5 x3 l.x3) (i4 : Is5 z3 l.z3) (iu : Is5 u U) :
    ∃ p2 q2 p3 q3 y2 v2 y3 v3 r2 t2 r3 t3, (∀ j, j < 10 → swL Y (prL x2 z2) (prL x3 z3) j = prL p2 q2 j) ∧ (∀ j, j < 10 → swL Y (prL x3 z3) (prL x2 z2) j = prL p3 q3 j) ∧
      (∀ j, j < 10 → prL y2 v2 j < 18446744073709551616) ∧ (∀ j, j < 10 → prL y3 v3 j < 18446744073709551616) ∧
      (∀ W, Calls Try.prog 49 #[.agg (cellsOf .u64 10 (prL p2 q2)), .agg (cellsOf .u64 10 (prL p3 q3)), .agg (cellsOf .u64 5 u)] W fun e w' => e = .returned (.tuple #[.agg (cellsOf .u64 10 (prL y2 v2)), .agg (cellsOf .u64 10 (prL y3 v3))]) ∧ W.grownBy w' none) ∧
      (∀ j, j < 10 → swL Y (prL y2 v2) (prL y3 v3) j = prL r2 t2 j) ∧ (∀ j, j < 10 → swL Y (prL y3 v3) (prL y2 v2) j = prL r3 t3 j) ∧
      Is5 r2 (l.bit U Y).x2 ∧ Is5 t2 (l.bit U Y).z2 ∧ Is5 r3 (l.bit U Y).x3 ∧ Is5 t3 (l.bit U Y).z3 := by
  obtain ⟨y2, v2, y3, v3, j1, j2, j3, j4, hC⟩ := cstep_any (is5_if (Y := Y) i1 i3) (is5_if (Y := Y) i2 i4) (is5_if (Y := Y) i3 i1) (is5_if (Y := Y) i4 i2) iu
  refine ⟨_, _, _, _, y2, v2, y3, v3, _, _, _, _, swL_pr Y x2 z2 x3 z3, swL_pr Y x3 z3 x2 z2, pr_lt j1 j2, pr_lt j3 j4, hC, swL_pr Y y2 v2 y3 v3, swL_pr Y y3 v3 y2 v2, ?_, ?_, ?_, ?_⟩ <;>
  · unfold Lad.bit
    by_cases e : Y = 1
    · simp only [if_pos e] at j1 j2 j3 j4 ⊢
      first | exact j1 | exact j2 | exact j3 | exact j4
    · simp only [if_neg e] at j1 j2 j3 j4 ⊢
      first | exact j1 | exact j2 | exact j3 | exact j4

theorem roundIn_load_pair {l n : Nat} {ops : Array Oper} {Q : Exit → Act → World → Prop} {rest : List Oper} {o : Oper} {a : Act} {w : World} {g : Nat} {f : Nat → Nat} (hgd : o.guard = none) (t : Tmp) (ho : o.op = .load 79 (.tmp t)) (hx : a.eval (.tmp t) = .pointer (some ⟨g, 0, none⟩))
    (H : Holds w g 79 .u64 10 f) (h : wpListIn (Fence.wide.inRound l) n Try.prog ops Q rest (a.put o.dst (.agg (cellsOf .u64 10 f))) w) : wpListIn (Fence.wide.inRound l) n Try.prog ops Q (o :: rest) a w := by
  obtain ⟨d, h1, h2⟩ := under_row (P := Try.prog) (T := 79) (by kernel_rfl)
  exact roundIn_load_row hgd 79 (.tmp t) ho g hx 79 _ (0, 0) d H.block h1 (by cases d <;> first | rfl | exact h2) (by rw [cellsOf_size]; kernel_rfl) h
theorem keeps_swp {w0 W W' : World} {bp bq : Nat} {F G f g : Nat → Nat} (h : SwpP w0 W bp bq F G W') (hp : Holds W bp 79 .u64 10 f) (hq : Holds W bq 79 .u64 10 g) : KeepsOthers W W' := ⟨h.sz, fun j o hj ho => by
  by_cases e : j = bp
  · subst e
    rw [hp.block] at hj
    cases hj
    cases ho
  · by_cases e2 : j = bq
    · subst e2
      rw [hq.block] at hj
      cases hj
      cases ho
    · exact (h.same j (Array.getElem?_eq_some_iff.1 hj).1 e e2).trans hj⟩

theorem times_any {f u : Nat → Nat} {U : Nat} (hf : ∀ i, f i < 256) (iu : Is5 u U) :
    ∀ w, Calls Try.prog 41 #[.agg (cellsOf .u8 32 f), .agg (cellsOf .u64 5 u)] w fun e w' => ∃ z, Is5 z (timesF f U) ∧ e = .returned (.agg (cellsOf .u64 5 z)) ∧ w.grownBy w' none := by
  intro w
  have Hf := Lib.hid hf
  have HU := Lib.hid iu
  have H1 := Lib.hid (small_any 1 (by decide))
  have i1 := is5_small 1 (by decide)
  obtain ⟨s1, hs1⟩ : ∃ s, s = smL 1 := ⟨_, rfl⟩
  rw [← hs1] at H1 i1
  have I1 := Lib.hid i1
  have hB : Holds (((w.alloc (.cells (cellsOf .u8 32 f) 45)).alloc (.cells (cellsOf .u64 5 u) 28)).alloc (.cells #[.int .u64 0, .int .u64 0, .int .u64 0, .int .u64 0, .int .u64 0] 28)) (w.heap.size + 1) 28 .u64 5 u := by
    have := (holds_alloc (w.alloc (.cells (cellsOf .u8 32 f) 45)) 28 .u64 5 u _ rfl).grown (World.grownBy_alloc _ (.cells #[.int .u64 0, .int .u64 0, .int .u64 0, .int .u64 0, .int .u64 0] 28) none) (by simp)
    rwa [World.size_alloc] at this
  have hA : Holds (((w.alloc (.cells (cellsOf .u8 32 f) 45)).alloc (.cells (cellsOf .u64 5 u) 28)).alloc (.cells #[.int .u64 0, .int .u64 0, .int .u64 0, .int .u64 0, .int .u64 0] 28)) w.heap.size 45 .u8 32 f := ((holds_alloc w 45 .u8 32 f _ rfl).grown (World.grownBy_alloc _ (.cells (cellsOf .u64 5 u) 28) none) (by simp)).grown (World.grownBy_alloc _ (.cells #[.int .u64 0, .int .u64 0, .int .u64 0, .int .u64 0, .int .u64 0] 28) none) (by simp)
  have hD : Holds (((w.alloc (.cells (cellsOf .u8 32 f) 45)).alloc (.cells (cellsOf .u64 5 u) 28)).alloc (.cells #[.int .u64 0, .int .u64 0, .int .u64 0, .int .u64 0, .int .u64 0] 28)) (w.heap.size + 2) 28 .u64 5 (fun _ => 0) := by
    have := holds_alloc ((w.alloc (.cells (cellsOf .u8 32 f) 45)).alloc (.cells (cellsOf .u64 5 u) 28)) 28 .u64 5 (fun _ => 0) #[.int .u64 0, .int .u64 0, .int .u64 0, .int .u64 0, .int .u64 0] rfl
    rwa [World.size_alloc, World.size_alloc] at this
  have gr := grown_alloc (grown_alloc (World.grownBy_alloc w (.cells (cellsOf .u8 32 f) 45) none) (.cells (cellsOf .u64 5 u) 28)) (.cells #[.int .u64 0, .int .u64 0, .int .u64 0, .int .u64 0, .int .u64 0] 28)
  have hz : w.heap.size + 2 < (((w.alloc (.cells (cellsOf .u8 32 f) 45)).alloc (.cells (cellsOf .u64 5 u) 28)).alloc (.cells #[.int .u64 0, .int .u64 0, .int .u64 0, .int .u64 0, .int .u64 0] 28)).heap.size := by simp only [World.size_alloc]; omega
  clear hf iu hs1 i1
  refine (callsIn_wide (n := 6)).1 ?_
  refine callsIn_of_wp_marks Try.func41 rfl trivial ?_ rfl
  simp only [Try.ntmps41, List.size_toArray, List.length_cons, List.length_nil, Nat.reduceAdd, Nat.reduceSub, Array.replicate_succ, Array.replicate_zero, List.push_toArray, List.append_toArray, List.nil_append, List.cons_append]
  refine wpIn_wide.2 ?_
  go_upto_region 1 with fail
  generalize (((w.alloc (.cells (cellsOf .u8 32 f) 45)).alloc (.cells (cellsOf .u64 5 u) 28)).alloc (.cells #[.int .u64 0, .int .u64 0, .int .u64 0, .int .u64 0, .int .u64 0] 28)) = V0 at *
  obtain ⟨B, hBw⟩ : ∃ B, B = w.heap.size := ⟨_, rfl⟩
  simp only [← hBw, Nat.add_assoc, Nat.reduceAdd] at hA hB hD hz ⊢
  have HB := Lib.hid hBw
  clear hBw
  go_wp2_with fail
  go_at_call 15
  refine (H1.out _).mono ?_
  rintro e V1 ⟨rfl, g⟩
  have hL0 := holds_alloc V1 28 .u64 5 (fun _ => 0) #[.int .u64 0, .int .u64 0, .int .u64 0, .int .u64 0, .int .u64 0] rfl
  have gg := grown_alloc g (.cells #[.int .u64 0, .int .u64 0, .int .u64 0, .int .u64 0, .int .u64 0] 28)
  have l5 : B + 2 < V1.heap.size := Nat.lt_of_lt_of_le hz g.size
  go_upto_region 2 with (refine wpList_store_row rfl 28 (.tmp 5) (.tmp 9) rfl V1.heap.size _ rfl rfl 28 _ hL0.block (by rw [cellsOf_size]; kernel_rfl) rfl (cellsOf_all _ _ _) ?_)
  have h5 := hL0.setRow .u64 5 s1
  have g2 := grown_setRow_new gg V1.heap.size (cellsOf .u64 5 s1) (Or.inl g.size)
  replace hA := hA.grown g2 (by simp)
  replace hB := hB.grown g2 (by simp)
  replace hD := hD.grown g2 (by simp)
  replace gr := grown_trans gr g2
  replace hz := Nat.lt_of_lt_of_le hz g2.size
  generalize (V1.alloc (.cells #[.int .u64 0, .int .u64 0, .int .u64 0, .int .u64 0, .int .u64 0] 28)).setRow V1.heap.size (cellsOf .u64 5 s1) = V2 at *
  clear hL0 gg g g2 H1
  generalize V1.heap.size = B5 at *
  clear V1 V0

  refine wp_region_plain ?_
  refine wp_region_held (S := fun W => V2.grownBy W none) (by kernel_rfl) ?_
  change wpAnyH _ _ _ _ _ 9 #[false, false, false, false, false, false, false, false, false] _ (World.drew _)
  have gd : V2.grownBy V2.drew none := grown_drew (grown_refl V2 none)
  refine wpAnyH_takeD (some 10) (i := 0) (v := .agg (cellsOf .u64 5 s1)) rfl rfl (by kernel_rfl) (by kernel_rfl) (by kernel_rfl) (fun _ _ _ h => absurd h.1 (by simp)) (Or.inl ⟨rfl, fun W hW => run_num5 (h5.grown hW (by simp)) rfl rfl⟩) gd ?_
  simp only [Act.put, List.setIfInBounds_toArray, List.set_cons_succ, List.set_cons_zero]
  refine wpAnyH_takeD (some 11) (i := 1) (v := .agg (cellsOf .u64 10 (prL s1 (fun _ => 0)))) rfl rfl (by kernel_rfl) (by kernel_rfl) (by kernel_rfl) (fun _ _ _ h => absurd h.1 (by simp)) (Or.inl ⟨rfl, fun W hW => run_build1 rfl rfl⟩) gd ?_
  simp only [Act.put, List.setIfInBounds_toArray, List.set_cons_succ, List.set_cons_zero]
  refine wpAnyH_takeD (some 12) (i := 2) (v := .agg (cellsOf .u64 5 u)) rfl rfl (by kernel_rfl) (by kernel_rfl) (by kernel_rfl) (fun _ _ _ h => absurd h.1 (by simp)) (Or.inl ⟨rfl, fun W hW => run_num5 (hB.grown hW (by simp)) rfl rfl⟩) gd ?_
  simp only [Act.put, List.setIfInBounds_toArray, List.set_cons_succ, List.set_cons_zero]
  refine wpAnyH_takeD (some 13) (i := 3) (v := .agg (cellsOf .u64 5 s1)) rfl rfl (by kernel_rfl) (by kernel_rfl) (by kernel_rfl) (fun _ _ _ h => absurd h.1 (by simp)) (Or.inl ⟨rfl, fun W hW => run_num5 (h5.grown hW (by simp)) rfl rfl⟩) gd ?_
  simp only [Act.put, List.setIfInBounds_toArray, List.set_cons_succ, List.set_cons_zero]
  refine wpAnyH_takeD (some 14) (i := 4) (v := .agg (cellsOf .u64 10 (prL u s1))) rfl rfl (by kernel_rfl) (by kernel_rfl) (by kernel_rfl) (fun _ _ _ h => absurd h.1 (by simp)) (Or.inl ⟨rfl, fun W hW => run_build2 rfl rfl rfl⟩) gd ?_
  simp only [Act.put, List.setIfInBounds_toArray, List.set_cons_succ, List.set_cons_zero]
  refine two_new 79 .u64 10 (prL s1 (fun _ => 0)) (prL u s1) 5 6 7 8 6 7 11 14 _ (by kernel_rfl) (by kernel_rfl) (by kernel_rfl) (by kernel_rfl) (by kernel_rfl) (by kernel_rfl) (by kernel_rfl) (by kernel_rfl) (by kernel_rfl) rfl rfl rfl rfl rfl rfl rfl rfl rfl rfl rfl rfl
    (fun _ _ => run_newpair rfl) (fun _ _ => run_newpair rfl) rfl rfl rfl rfl (by show (6 : Nat) < 35; decide) (by show (7 : Nat) < 35; decide) (by decide) (by decide) (by decide) (by decide) (by decide) (by kernel_rfl) gd ?_
  intro bp bq W ne hbp hbq hg hp hq
  refine ⟨rfl, ?_⟩
  simp only [Act.put, List.setIfInBounds_toArray, List.set_cons_succ, List.set_cons_zero]
  clear gd
  have lp : B + 2 < bp := Nat.lt_of_lt_of_le hz hbp
  have lq : B + 2 < bq := Nat.lt_of_lt_of_le hz hbq
  replace hA := hA.grown hg (by simp)
  replace hB := hB.grown hg (by simp)
  replace hD := hD.grown hg (by simp)
  replace gr := grown_trans gr hg
  replace hz := Nat.lt_of_lt_of_le hz hg.size
  clear hg hbp hbq h5
  clear V2
  go_wp2_with (first
    | refine wpList_load_row rfl 45 (.tmp 2) rfl B rfl 45 _ (0, 0) (.array 32 5) hA.block (by kernel_rfl) rfl (by rw [cellsOf_size]; kernel_rfl) ?_
    | (go_at_call 47; (with_reducible refine (cdown_any f _).mono ?_); rintro e w' ⟨rfl, rfl⟩))
  have hX4 := holds_alloc W 45 .u8 32 f _ rfl
  have gg := World.grownBy_alloc W (.cells (cellsOf .u8 32 f) 45) none
  have hZ : (W.alloc (.cells (cellsOf .u8 32 f) 45)).heap.size = W.heap.size + 1 := World.size_alloc _ _
  have hp3 := hp.lt
  have hq3 := hq.lt
  replace hB := hB.grown gg (by simp)
  replace hD := hD.grown gg (by simp)
  replace hp := hp.grown gg (by simp)
  replace hq := hq.grown gg (by simp)
  replace gr := grown_trans gr gg
  generalize W.alloc (.cells (cellsOf .u8 32 f) 45) = w3 at *
  obtain ⟨bx, hbx⟩ : ∃ b, b = W.heap.size := ⟨_, rfl⟩
  rw [← hbx] at hX4 hZ hp3 hq3 hz ⊢
  have Hbx := Lib.hid hbx
  clear hbx
  refine (wpIn_wide (n := 6)).1 ?_
  have i0 : Is5 (fun _ => 0) 0 := smL_zero ▸ is5_small 0 (by decide)
  have lw : w.heap.size + 2 < bp ∧ w.heap.size + 2 < bq := by have := HB.out; omega
  have LW := Lib.hid lw
  have NE := Lib.hid ne
  clear lw ne hA
  refine wpIn_rangeFunc_ownF rfl (by decide) (gf := 54) (lb := #[.pointer (some ⟨bx, 0, none⟩)]) rfl trivial (enters_of Try.func54 (by kernel_rfl) rfl)
    (cdown_stops (6 - 1) bx f Hf.out (by decide) w3 hX4) (fun h k => k.trans h) (fun A l o o' hl _ _ _ => World.putObj_heap_other (by omega)) (Below.refl _ _) (fun _ => rfl)
    (InT w w3.heap.size bp bq (B + 1) (B + 2) u U (ldB f)) (fun _ _ _ => False) (InT.own _ (by have := HB.out; omega) (by omega) (by omega) (by omega) (by omega)) (fun _ _ _ _ _ hs _ _ => hs)
    ⟨⟨s1, fun _ => 0, u, s1, I1.out, i0, HU.out, I1.out, hp, hq⟩, hB, hD, gr, Nat.le_refl _⟩
    (fun k => { tmps := #[.agg (cellsOf .u8 32 f), .agg (cellsOf .u64 5 u), .pointer (some ⟨B, 0, none⟩), .pointer (some ⟨B + 1, 0, none⟩), .pointer (some ⟨B + 2, 0, none⟩), .pointer (some ⟨B5, 0, none⟩), .pointer (some ⟨bp, 0, none⟩), .pointer (some ⟨bq, 0, none⟩), .int .u64 (ldB f k : Nat), .agg (cellsOf .u64 5 s1), .agg (cellsOf .u64 5 s1), .agg (cellsOf .u64 10 (prL s1 (fun _ => 0))), .agg (cellsOf .u64 5 u), .agg (cellsOf .u64 5 s1), .agg (cellsOf .u64 10 (prL u s1)), .agg (cellsOf .u8 32 f), .func (.func 54) #[] #[.pointer (some ⟨bx, 0, none⟩)], .int .u64 (ldB f k : Nat), undef, undef, undef, undef, undef, undef, undef, undef, undef, undef, undef, undef, undef, undef, undef, undef, undef], defers := [] }) ?assign ?body ?done ?stop
  case assign =>
    intro l x W' K hK
    unfold encC
    gi_wp2
    exact hK
  case body =>
    clear hp hq hB hD gr hX4 gg i0
    rintro l pre k W' hI _
    obtain ⟨x2, z2, x3, z3, i1, i2, i3, i4, hp, hq⟩ := hI.ex
    have hu := hI.u
    have hr := hI.r
    have hgr := hI.gr
    have hsz := hI.sz
    have hbs := ladF_snoc U (ldB f) pre k
    have hY : ldB f k ≤ 1 := by unfold ldB byBit; omega
    obtain ⟨p2, q2, p3, q3, y2, v2, y3, v3, r2, t2, r3, t3, e1, e2, m1, m2, hC, e3, e4, j1, j2, j3, j4⟩ := round_nums (ldB f k) i1 i2 i3 i4 HU.out
    rw [← hbs] at j1 j2 j3 j4
    have HC := Lib.hid hC
    have S1 := Lib.hid (fun (V : World) (g : w.grownBy V none) (a : Holds V bp 79 .u64 10 (prL x2 z2)) (b : Holds V bq 79 .u64 10 (prL x3 z3)) => cswap_any (ldB f k) bp bq (prL x2 z2) (prL x3 z3) w V hY g (by have := LW.out; omega) (by have := LW.out; omega) NE.out (pr_lt i1 i2) (pr_lt i3 i4) a b)
    have S2 := Lib.hid (fun (V : World) (g : w.grownBy V none) (a : Holds V bp 79 .u64 10 (prL y2 v2)) (b : Holds V bq 79 .u64 10 (prL y3 v3)) => cswap_any (ldB f k) bp bq (prL y2 v2) (prL y3 v3) w V hY g (by have := LW.out; omega) (by have := LW.out; omega) NE.out m1 m2 a b)
    have E1 := Lib.hid e1
    have E2 := Lib.hid e2
    have E3 := Lib.hid e3
    have E4 := Lib.hid e4
    have J := Lib.hid (And.intro j1 (And.intro j2 (And.intro j3 j4)))
    clear hI i1 i2 i3 i4 e1 e2 e3 e4 j1 j2 j3 j4 m1 m2 hC hbs hY
    generalize ldB f k = Y at *
    gi_wp2
    refine ⟨trivial, ?_⟩
    gi_at_call 48
    refine (CallsIn.inRound l (callsIn_wide.2 (S1.out W' hgr hp hq))).mono ?_
    rintro e U1 ⟨⟨v, rfl⟩, k1⟩
    have hp1 : Holds U1 bp 79 .u64 10 (prL p2 q2) := k1.x.congr E1.out
    have hq1 : Holds U1 bq 79 .u64 10 (prL p3 q3) := k1.y.congr E2.out
    have hu1 := hu.of_block (k1.same (B + 1) hu.lt (by omega) (by omega))
    have hr1 := hr.of_block (k1.same (B + 2) hr.lt (by omega) (by omega))
    have hgr1 := k1.gr
    have ko1 := keeps_swp k1 hp hq
    have kb1 : KeepB bx W' U1 := k1.same bx (by omega) (by omega) (by omega)
    have hz1 := Nat.le_trans hsz k1.sz
    clear k1 hp hq hu hr hgr hsz S1 E1 E2
    gi_wp2_with (first
      | refine roundIn_load_pair rfl 6 rfl rfl hp1 ?_
      | refine roundIn_load_pair rfl 7 rfl rfl hq1 ?_
      | refine roundIn_load_num rfl 3 rfl rfl hu1 ?_)
    refine ⟨trivial, ?_⟩
    gi_at_call 49
    refine (CallsIn.inRound l (callsIn_wide.2 (HC.out _))).mono ?_
    rintro e U2 ⟨rfl, g2⟩
    have hp2 := hp1.grown g2 (by simp)
    have hq2 := hq1.grown g2 (by simp)
    have hq2' := hq2.of_block (setRow_other U2 bp bq (cellsOf .u64 10 (prL y2 v2)) (Ne.symm NE.out))
    have hp3 := (hp2.setRow .u64 10 (prL y2 v2)).of_block (setRow_other _ bq bp (cellsOf .u64 10 (prL y3 v3)) NE.out)
    have hq3 := hq2'.setRow .u64 10 (prL y3 v3)
    have hu3 := ((hu1.grown g2 (by simp)).of_block (setRow_other U2 bp (B + 1) (cellsOf .u64 10 (prL y2 v2)) (by omega))).of_block (setRow_other _ bq (B + 1) (cellsOf .u64 10 (prL y3 v3)) (by omega))
    have hr3 := ((hr1.grown g2 (by simp)).of_block (setRow_other U2 bp (B + 2) (cellsOf .u64 10 (prL y2 v2)) (by omega))).of_block (setRow_other _ bq (B + 2) (cellsOf .u64 10 (prL y3 v3)) (by omega))
    have gw3 := grown_setRow_new (grown_setRow_new (grown_trans hgr1 g2) bp (cellsOf .u64 10 (prL y2 v2)) (Or.inl (by have := LW.out; omega))) bq (cellsOf .u64 10 (prL y3 v3)) (Or.inl (by have := LW.out; omega))
    have ko3 := ko1.trans ((keeps_grown g2).trans ((keeps_setRow U2 hp2 (cellsOf .u64 10 (prL y2 v2))).trans (keeps_setRow _ hq2' (cellsOf .u64 10 (prL y3 v3)))))
    have kb3 : KeepB bx W' ((U2.setRow bp (cellsOf .u64 10 (prL y2 v2))).setRow bq (cellsOf .u64 10 (prL y3 v3))) := (setRow_other _ bq bx (cellsOf .u64 10 (prL y3 v3)) (by omega)).trans ((setRow_other U2 bp bx (cellsOf .u64 10 (prL y2 v2)) (by omega)).trans ((g2.block bx (by omega) (by simp)).trans kb1))
    have hz3 : w3.heap.size ≤ ((U2.setRow bp (cellsOf .u64 10 (prL y2 v2))).setRow bq (cellsOf .u64 10 (prL y3 v3))).heap.size := by
      have := g2.size
      simp only [size_setRow]
      omega
    have HP2 := Lib.hid hp2
    have HQ2 := Lib.hid hq2'
    have HP3 := Lib.hid hp3
    have HQ3 := Lib.hid hq3
    clear g2 hp1 hq1 hu1 hr1 hgr1 ko1 kb1 hz1 hq2 hp2 hq2' hp3 hq3 HC
    gi_wp2_with (first
      | refine roundIn_store_row rfl 79 (.tmp 6) (.tmp 25) rfl bp _ rfl rfl 79 _ HP2.out.block (by rw [cellsOf_size]; kernel_rfl) (by simp only [cellsOf_size]) (cellsOf_all _ _ _) ?_
      | refine roundIn_store_row rfl 79 (.tmp 7) (.tmp 26) rfl bq _ rfl rfl 79 _ HQ2.out.block (by rw [cellsOf_size]; kernel_rfl) (by simp only [cellsOf_size]) (cellsOf_all _ _ _) ?_)
    clear HP2 HQ2
    generalize (U2.setRow bp (cellsOf .u64 10 (prL y2 v2))).setRow bq (cellsOf .u64 10 (prL y3 v3)) = V1 at *
    refine ⟨trivial, ?_⟩
    gi_at_call 48
    refine (CallsIn.inRound l (callsIn_wide.2 (S2.out V1 gw3 HP3.out HQ3.out))).mono ?_
    rintro e U4 ⟨⟨v4, rfl⟩, k4⟩
    have hp4 : Holds U4 bp 79 .u64 10 (prL r2 t2) := k4.x.congr E3.out
    have hq4 : Holds U4 bq 79 .u64 10 (prL r3 t3) := k4.y.congr E4.out
    have hu4 := hu3.of_block (k4.same (B + 1) hu3.lt (by omega) (by omega))
    have hr4 := hr3.of_block (k4.same (B + 2) hr3.lt (by omega) (by omega))
    have ko4 := ko3.trans (keeps_swp k4 HP3.out HQ3.out)
    have kb4 : KeepB bx W' U4 := (k4.same bx (by omega) (by omega) (by omega)).trans kb3
    have hz4 := Nat.le_trans hz3 k4.sz
    have HFin : Hid (KeepsOthers W' U4 ∧ KeepB bx W' U4 ∧ InT w w3.heap.size bp bq (B + 1) (B + 2) u U (ldB f) (pre ++ [k]) U4) := Lib.hid ⟨ko4, kb4, ⟨⟨r2, t2, r3, t3, J.out.1, J.out.2.1, J.out.2.2.1, J.out.2.2.2, hp4, hq4⟩, hu4, hr4, k4.gr, hz4⟩⟩
    clear k4 hp4 hq4 hu4 hr4 ko4 kb4 hz4 hu3 hr3 gw3 ko3 kb3 hz3 HP3 HQ3 S2 E3 E4 J
    gi_wp2
    exact HFin.out
  case done =>
    clear hp hq hB hD gr hX4 gg i0
    rintro D xs W' hD rfl hI hK
    obtain ⟨x2, z2, x3, z3, i1, i2, _, _, hp, _⟩ := hI.ex
    have hr := hI.r
    have hgr := hI.gr
    obtain ⟨yi, iy, Hy⟩ : ∃ y, Is5 y (fInv (ladF U (ldB f) (List.range 255)).z2) ∧ Hid (∀ W, Calls Try.prog 28 #[.agg (cellsOf .u64 5 z2)] W fun e w' => e = .returned (.agg (cellsOf .u64 5 y)) ∧ W.grownBy w' none) := ⟨_, i2.inv, Lib.hid (inverse_any i2)⟩
    obtain ⟨z, iz, Hz⟩ : ∃ z, Is5 z (timesF f U) ∧ Hid (∀ W, Calls Try.prog 13 #[.agg (cellsOf .u64 5 x2), .agg (cellsOf .u64 5 yi)] W fun e w' => e = .returned (.agg (cellsOf .u64 5 z)) ∧ W.grownBy w' none) := ⟨_, i1.mul iy, Lib.hid (mul_any i1 iy)⟩
    have IZ := Lib.hid iz
    have hDl : D < W'.heap.size := (Array.getElem?_eq_some_iff.1 hK).1
    have HK := Lib.hid hK
    clear hI i1 i2 iy iz hK
    go_wp2_with fail
    refine wp_region_rel_all (fun V => w.grownBy V none) (fun _ h => grown_trans hgr h) (alL []) (relL [fun vv _ => vv = .pointer (some ⟨bp, 0, none⟩), fun vv _ => vv = .agg (cellsOf .u64 5 x2), fun vv _ => vv = .pointer (some ⟨bp, 5, none⟩), fun vv _ => vv = .agg (cellsOf .u64 5 z2), fun vv _ => vv = .agg (cellsOf .u64 5 yi), fun vv _ => vv = .agg (cellsOf .u64 5 z)])
      6 1 (atL [29, 30, 31, 32, 33, 34]) (depL [[], [0], [], [2], [3], [1, 4]]) (by kernel_rfl) rfl (by kernel_rfl) (by kernel_rfl) (by kernel_rfl) (by decide) (by kernel_rfl) 35 rfl (by decide) (by decide) (by decide) ?mono8 ?al8 ?step8 ?fin8
    case mono8 =>
      intro k x W W' hk h g
      obtain rfl | rfl | rfl | rfl | rfl | rfl : k = 0 ∨ k = 1 ∨ k = 2 ∨ k = 3 ∨ k = 4 ∨ k = 5 := by omega
      · exact h
      · exact h
      · exact h
      · exact h
      · exact h
      · exact h
    case al8 =>
      intro k x W hk e h
      obtain rfl | rfl | rfl | rfl | rfl | rfl : k = 0 ∨ k = 1 ∨ k = 2 ∨ k = 3 ∨ k = 4 ∨ k = 5 := by omega
      · exact absurd e (by decide)
      · exact absurd e (by decide)
      · exact absurd e (by decide)
      · exact absurd e (by decide)
      · exact absurd e (by decide)
      · exact absurd e (by decide)
    case step8 =>
      intro k hk
      obtain rfl | rfl | rfl | rfl | rfl | rfl : k = 0 ∨ k = 1 ∨ k = 2 ∨ k = 3 ∨ k = 4 ∨ k = 5 := by omega
      · refine ⟨_, rfl, rfl, fun b W hs hg hD => ⟨wanted_of rfl, fun K hK0 => ?_⟩⟩
        have hK := fun v W' g h => hK0 v W' g h (fun e => absurd e (by decide))
        have h0 : b.tmps[6]?.getD undef = .pointer (some ⟨bp, 0, none⟩) := (hs 6 (by decide))
        exact rel_val (by unfold execOp; go_simp) rfl hK
      · refine ⟨_, rfl, rfl, fun b W hs hg hD => ⟨wanted_of rfl, fun K hK0 => ?_⟩⟩
        have hK := fun v W' g h => hK0 v W' g h (fun e => absurd e (by decide))
        exact rel_val (run_num_at ((hp.grown hg (by simp)).lo) rfl ((eval_slot b 29).trans (hD 0 (by decide)))) rfl hK
      · refine ⟨_, rfl, rfl, fun b W hs hg hD => ⟨wanted_of rfl, fun K hK0 => ?_⟩⟩
        have hK := fun v W' g h => hK0 v W' g h (fun e => absurd e (by decide))
        have h0 : b.tmps[6]?.getD undef = .pointer (some ⟨bp, 0, none⟩) := (hs 6 (by decide))
        exact rel_val (by unfold execOp; go_simp) rfl hK
      · refine ⟨_, rfl, rfl, fun b W hs hg hD => ⟨wanted_of rfl, fun K hK0 => ?_⟩⟩
        have hK := fun v W' g h => hK0 v W' g h (fun e => absurd e (by decide))
        exact rel_val (run_num_at ((hp.grown hg (by simp)).hi) rfl ((eval_slot b 31).trans (hD 2 (by decide)))) rfl hK
      · refine ⟨_, rfl, rfl, fun b W hs hg hD => ⟨wanted_of rfl, fun K hK0 => ?_⟩⟩
        have hK := fun v W' g h => hK0 v W' g h (fun e => absurd e (by decide))
        refine rel_call 28 _ (exec_fn1 _ _ _ rfl ((eval_slot b 32).trans (hD 3 (by decide)))) inverse_enters ?_ hK
        exact (Hy.out W).mono fun e w' h => ⟨_, h.1, h.2, rfl⟩
      · refine ⟨_, rfl, rfl, fun b W hs hg hD => ⟨wanted_of rfl, fun K hK0 => ?_⟩⟩
        have hK := fun v W' g h => hK0 v W' g h (fun e => absurd e (by decide))
        refine rel_call 13 _ (exec_fn2 _ _ _ _ _ rfl ((eval_slot b 30).trans (hD 1 (by decide))) ((eval_slot b 33).trans (hD 4 (by decide)))) mul_enters ?_ hK
        exact (Hz.out W).mono fun e w' h => ⟨_, h.1, h.2, rfl⟩
    intro vals V hg hR hap
    have e1 : vals 5 = .agg (cellsOf .u64 5 z) := hR 5 (by decide)
    clear hR hap
    simp only [putsN, atL, Act.put, List.getD_cons_zero, List.getD_cons_succ, List.setIfInBounds_toArray, List.set_cons_succ, List.set_cons_zero, e1]
    generalize vals 0 = q0
    generalize vals 1 = q1
    generalize vals 2 = q2
    generalize vals 3 = q3
    generalize vals 4 = q4
    clear e1 vals
    have hr2 := hr.grown hg (by simp)
    have g1 := grown_setRow_new (grown_trans hgr hg) (B + 2) (cellsOf .u64 5 z) (Or.inl (by have := HB.out; omega))
    have hKs : (V.setRow (B + 2) (cellsOf .u64 5 z)).heap[D]? = some (.deferred (some [])) := (setRow_other V (B + 2) D (cellsOf .u64 5 z) (by omega)).trans ((hg.block D hDl (by simp)).trans HK.out)
    have hHs := (hr2.setRow .u64 5 z).grown (grownBy_putObj' _ D (.deferred none)) (by intro e; injection e with e; omega)
    have hgs := grown_new g1 (grownBy_putObj' _ D (.deferred none)) (by have := HB.out; omega)
    have HKs := Lib.hid hKs
    have HHs := Lib.hid hHs
    have HGs := Lib.hid hgs
    show wpAnyH _ _ _ _ _ 1 #[true, true, true, true, true, true, false] _ _
    refine wpAnyH_one (i := 6) (by kernel_rfl) (op_store 28 4 34 (B + 2) (cellsOf .u64 5 z) rfl rfl rfl rfl rfl rfl 28 _ hr2.block (by rw [cellsOf_size]; kernel_rfl) (by simp only [cellsOf_size]) (cellsOf_all _ _ _) g1 ?_)
    simp only [List.setIfInBounds_toArray, List.set_cons_succ, List.set_cons_zero]
    refine wpAnyH_done (by kernel_rfl) ?_ _
    clear hKs hHs hgs hr2 g1 hg hp hr hgr
    go_wp2_with fail
    refine ⟨by simp, .inl ⟨_, _, rfl, run_takeDeferred HKs.out, ?_⟩⟩
    exact ⟨.agg (cellsOf .u64 5 z), res_row rfl rfl HHs.out (by kernel_rfl) (by kernel_rfl), z, IZ.out, rfl, HGs.out⟩
  case stop =>
    rintro D c pre W' _ _ h _
    exact h.elim
end Go.Proofs.Ytpnddojcihdniaa
namespace Go.Proofs.Ytpnddojcihdniaa

set_option maxRecDepth 100000

def rowN (l : List Nat) (i : Nat) : Nat := l.getD i 0
def rowK : Nat → Nat := rowN [165, 70, 227, 107, 240, 82, 124, 157, 59, 22, 21, 75, 130, 70, 94, 221, 98, 20, 76, 10, 193, 252, 90, 24, 80, 106, 34, 68, 186, 68, 154, 196]
def rowU : Nat → Nat := rowN [230, 219, 104, 103, 88, 48, 48, 219, 53, 148, 193, 164, 36, 177, 95, 124, 114, 102, 36, 236, 38, 179, 53, 59, 16, 169, 3, 166, 208, 171, 28, 76]
def rowW : Nat → Nat := rowN [195, 218, 85, 55, 157, 233, 198, 144, 142, 148, 234, 77, 242, 141, 8, 79, 50, 236, 207, 3, 73, 28, 113, 247, 84, 180, 7, 85, 119, 162, 133, 82]
def rowBs : List Nat := [1, 0, 0, 0, 1, 0, 0, 1, 0, 0, 1, 1, 0, 1, 0, 0, 1, 0, 0, 0, 1, 0, 0, 1, 0, 1, 1, 1, 0, 1, 0, 0, 1, 0, 0, 0, 1, 0, 0, 0, 0, 1, 0, 0, 0, 1, 0, 0, 1, 1, 0, 1, 0, 1, 0, 0, 1, 0, 1, 0, 0, 0, 0, 0, 0, 0, 1, 1, 0, 0, 0, 0, 1, 0, 1, 1, 0, 1, 0, 1, 1, 1, 1, 1, 1, 0, 0, 1, 1, 0, 0, 0, 0, 0, 1, 0, 0, 0, 0, 1, 0, 1, 0, 0, 1, 0, 0, 1, 1, 0, 0, 0, 0, 0, 1, 0, 1, 0, 0, 0, 1, 1, 0, 0, 0, 1, 0, 1, 1, 0, 1, 1, 1, 0, 1, 0, 1, 0, 1, 1, 1, 1, 0, 0, 1, 0, 0, 0, 1, 1, 0, 1, 0, 0, 0, 0, 0, 1, 0, 0, 1, 0, 0, 1, 0, 1, 1, 0, 0, 0, 1, 0, 1, 0, 1, 0, 0, 0, 1, 0, 1, 1, 0, 0, 0, 1, 1, 1, 0, 1, 1, 1, 0, 0, 1, 1, 1, 0, 1, 0, 1, 1, 1, 1, 1, 0, 0, 0, 1, 0, 1, 0, 0, 1, 0, 1, 1, 1, 1, 0, 0, 0, 0, 0, 1, 1, 0, 1, 0, 1, 1, 1, 1, 1, 0, 0, 0, 1, 1, 0, 1, 0, 0, 0, 1, 1, 0, 1, 0, 1, 0, 0, 0, 0, 0]
theorem row_bits : (List.range 255).map (ldB (clampF rowK)) = rowBs := by kernel_rfl
theorem row_u : ofV rowU = 34426434033919594451155107781188821651316167215306631574996226621102155684838 := by kernel_rfl
theorem row_shared : timesF (clampF rowK) (ofV rowU) = 37325765543539916631701301279660700968428932651319597985674090122993663859395 := by
  rw [row_u]
  exact timesF_of _ _ _ rowBs row_bits (by decide) (by kernel_rfl)
theorem row_w : eqL (lim 8 37325765543539916631701301279660700968428932651319597985674090122993663859395) rowW = true := by kernel_rfl
theorem row_zero : timesF (clampF rowK) 0 = 0 := timesF_zero _ _ rowBs row_bits (by kernel_rfl)
theorem row_one : timesF (clampF rowK) 1 = 0 := timesF_zero _ _ rowBs row_bits (by kernel_rfl)
theorem of_zero : ofV (fun _ => 0) = 0 := by kernel_rfl
theorem of_one : ofV (rowN [1]) = 1 := by kernel_rfl
theorem of_nine : ofV (rowN [9]) = 9 := by kernel_rfl
end Go.Proofs.Ytpnddojcihdniaa
namespace Go.Proofs.Ytpnddojcihdniaa
open Go.RowKit Go.Shelf

set_option maxRecDepth 100000
set_option maxHeartbeats 2000000

theorem run_key {o : Oper} {a : Act} {W : World} {B : Nat} {f : Nat → Nat} {t : Tmp} (h : Holds W B 45 .u8 32 f) (ho : o.op = .load 45 (.tmp t)) (ha : a.eval (.tmp t) = .pointer (some ⟨B, 0, none⟩)) :
    (execOp a.eval o).run Try.prog W = .ok (.value (.agg (cellsOf .u8 32 f))) W := run_row 45 (.array 32 5) h ho ha (by kernel_rfl) rfl (by kernel_rfl)
theorem wpList_load_key {ops : Array Oper} {Q : Exit → Act → World → Prop} {rest : List Oper} {o : Oper} {a : Act} {w : World} {g : Nat} {f : Nat → Nat} (hgd : o.guard = none) (t : Tmp) (ho : o.op = .load 45 (.tmp t)) (hx : a.eval (.tmp t) = .pointer (some ⟨g, 0, none⟩))
    (H : Holds w g 45 .u8 32 f) (h : wpList Try.prog ops Q rest (a.put o.dst (.agg (cellsOf .u8 32 f))) w) : wpList Try.prog ops Q (o :: rest) a w :=
  wpList_load_row hgd 45 (.tmp t) ho g hx 45 _ (0, 0) (.array 32 5) H.block (by kernel_rfl) rfl (by rw [cellsOf_size]; kernel_rfl) h
theorem run_newkey {o : Oper} {a : Act} {W : World} (ho : o.op = .alloc 45) :
    (execOp a.eval o).run Try.prog W = .ok (.value (.pointer (some ⟨W.heap.size, 0, none⟩))) (W.alloc (.cells (cellsOf .u8 32 (fun _ => 0)) 45)) := by
  rw [show cellsOf .u8 32 (fun _ => 0) = #[.int .u8 0, .int .u8 0, .int .u8 0, .int .u8 0, .int .u8 0, .int .u8 0, .int .u8 0, .int .u8 0, .int .u8 0, .int .u8 0, .int .u8 0, .int .u8 0, .int .u8 0, .int .u8 0, .int .u8 0, .int .u8 0, .int .u8 0, .int .u8 0, .int .u8 0, .int .u8 0, .int .u8 0, .int .u8 0, .int .u8 0, .int .u8 0, .int .u8 0, .int .u8 0, .int .u8 0, .int .u8 0, .int .u8 0, .int .u8 0, .int .u8 0, .int .u8 0] from rfl]
  unfold execOp
  simp only [ho]
  go_simp
theorem run_eqk (f g : Nat → Nat) (w : World) : (Op.equalIn 10000 45 (.agg (cellsOf .u8 32 f)) (.agg (cellsOf .u8 32 g))).run Try.prog w = .ok (eqN 32 f g) w := by
  obtain ⟨i0, hi, hz, hsz, hby⟩ := info_parts info_u8
  rw [run_equalIn_array (P := Try.prog) w 9999 (cellsOf .u8 32 f) (cellsOf .u8 32 g) (t := 45) (e := 5) (n := 32) (by kernel_rfl) hi]
  rw [show Try.prog.cellsOf 5 = 1 by kernel_rfl]
  exact run_itemsN 9998 32 f g w (List.range 32) (fun i hi => List.mem_range.1 hi)
theorem run_eqlk {o : Oper} {a : Act} {W : World} (t1 t2 : Tmp) (f g : Nat → Nat) (ho : o.op = .binOp .eql 45 (.tmp t1) (.tmp t2) 45)
    (h1 : a.eval (.tmp t1) = .agg (cellsOf .u8 32 f)) (h2 : a.eval (.tmp t2) = .agg (cellsOf .u8 32 g)) : (execOp a.eval o).run Try.prog W = .ok (.value (.bool (eqN 32 f g))) W := by
  have he := run_eqk f g W
  unfold execOp
  simp only [ho, h1, h2]
  go_simp
theorem wpList_eqk {ops : Array Oper} {Q : Exit → Act → World → Prop} {rest : List Oper} {o : Oper} {a : Act} {w : World} (hgd : o.guard = none) (t1 t2 : Tmp) (f g : Nat → Nat) (ho : o.op = .binOp .eql 45 (.tmp t1) (.tmp t2) 45)
    (h1 : a.eval (.tmp t1) = .agg (cellsOf .u8 32 f)) (h2 : a.eval (.tmp t2) = .agg (cellsOf .u8 32 g)) (h : wpList Try.prog ops Q rest (a.put o.dst (.bool (eqN 32 f g))) w) : wpList Try.prog ops Q (o :: rest) a w :=
  wpList_plain hgd fun _ hK => wp_yields (run_eqlk t1 t2 f g ho h1 h2) (hK _ _ h)
theorem clamp_enters (args : Array Value) (w : World) : (callFunc 21 args).run Try.prog w = .ok (.enter 21 args) w := enters_of Try.func21 (by kernel_rfl) rfl args w
theorem times_enters (args : Array Value) (w : World) : (callFunc 41 args).run Try.prog w = .ok (.enter 41 args) w := enters_of Try.func41 (by kernel_rfl) rfl args w
theorem shared_enters (args : Array Value) (w : World) : (callFunc 22 args).run Try.prog w = .ok (.enter 22 args) w := enters_of Try.func22 (by kernel_rfl) rfl args w
theorem public_enters (args : Array Value) (w : World) : (callFunc 23 args).run Try.prog w = .ok (.enter 23 args) w := enters_of Try.func23 (by kernel_rfl) rfl args w
theorem lim_zero : lim 8 0 = fun _ => 0 := by
  funext i
  unfold lim
  rw [Nat.zero_div, Nat.zero_mod]
theorem eq_zero (V : Nat) (hV : V < pF) : eqN 32 (lim 8 V) (fun _ => 0) = (V == 0) := by
  have := is_eq hV pF_pos
  rwa [lim_zero] at this
/-- What is shared, and the error beside it. -/
def shV (f g : Nat → Nat) : Nat := timesF (clampF f) (ofV g)
def errV (V : Nat) : Nat := if V = 0 then 70 else 0
theorem shV_lt (f g : Nat → Nat) : shV f g < pF := timesF_lt _ _
end Go.Proofs.Ytpnddojcihdniaa
namespace Go.Proofs.Ytpnddojcihdniaa
open Go.RowKit Go.Shelf

set_option maxRecDepth 100000
set_option maxHeartbeats 4000000

theorem shared_any (f g : Nat → Nat) (hf : ∀ i, f i < 256) (hg : ∀ i, g i < 256) (w : World) :
    Calls Try.prog 22 #[.agg (cellsOf .u8 32 f), .agg (cellsOf .u8 32 g)] w fun e w' => e = .returned (.tuple #[.agg (cellsOf .u8 32 (lim 8 (shV f g))), .int .i64 (errV (shV f g) : Nat)]) ∧ w.grownBy w' none := by
  have HC := Lib.hid (fun W => clamp_any f hf W)
  have HO := Lib.hid (fun W => of_any g hg W)
  have HT := Lib.hid (fun W => times_any (clampF_lt f hf) (is5_of g hg) W)
  have HB := Lib.hid (fun (z : Nat → Nat) (hz : Is5 z (shV f g)) (W : World) => bytes_any hz W)
  have heq := eq_zero (shV f g) (shV_lt f g)
  have ht0 : shV f g = 0 → lim 8 (shV f g) = fun _ => 0 := fun h => by rw [h, lim_zero]
  change Hid (∀ W, Calls Try.prog 41 #[.agg (cellsOf .u8 32 (clampF f)), .agg (cellsOf .u64 5 (ofL g))] W fun e w' => ∃ z, Is5 z (shV f g) ∧ e = .returned (.agg (cellsOf .u64 5 z)) ∧ W.grownBy w' none) at HT
  obtain ⟨c, hc⟩ : ∃ c, c = clampF f := ⟨_, rfl⟩
  obtain ⟨u, hu⟩ : ∃ u, u = ofL g := ⟨_, rfl⟩
  obtain ⟨V, hV⟩ : ∃ V, V = shV f g := ⟨_, rfl⟩
  rw [← hc] at HC HT
  rw [← hu] at HO HT
  rw [← hV] at HT HB heq ht0 ⊢
  obtain ⟨t, ht⟩ : ∃ t, t = lim 8 V := ⟨_, rfl⟩
  rw [← ht] at HB heq ht0 ⊢
  have HE := Lib.hid heq
  have HT0 := Lib.hid ht0
  have hA : Holds (((w.alloc (.cells (cellsOf .u8 32 f) 45)).alloc (.cells (cellsOf .u8 32 g) 45)).alloc (.cells #[.int .u8 0, .int .u8 0, .int .u8 0, .int .u8 0, .int .u8 0, .int .u8 0, .int .u8 0, .int .u8 0, .int .u8 0, .int .u8 0, .int .u8 0, .int .u8 0, .int .u8 0, .int .u8 0, .int .u8 0, .int .u8 0, .int .u8 0, .int .u8 0, .int .u8 0, .int .u8 0, .int .u8 0, .int .u8 0, .int .u8 0, .int .u8 0, .int .u8 0, .int .u8 0, .int .u8 0, .int .u8 0, .int .u8 0, .int .u8 0, .int .u8 0, .int .u8 0] 45)) w.heap.size 45 .u8 32 f := ((holds_alloc w 45 .u8 32 f _ rfl).grown (World.grownBy_alloc _ (.cells (cellsOf .u8 32 g) 45) none) (by simp)).grown (World.grownBy_alloc _ (.cells #[.int .u8 0, .int .u8 0, .int .u8 0, .int .u8 0, .int .u8 0, .int .u8 0, .int .u8 0, .int .u8 0, .int .u8 0, .int .u8 0, .int .u8 0, .int .u8 0, .int .u8 0, .int .u8 0, .int .u8 0, .int .u8 0, .int .u8 0, .int .u8 0, .int .u8 0, .int .u8 0, .int .u8 0, .int .u8 0, .int .u8 0, .int .u8 0, .int .u8 0, .int .u8 0, .int .u8 0, .int .u8 0, .int .u8 0, .int .u8 0, .int .u8 0, .int .u8 0] 45) none) (by simp)
  have hP : Holds (((w.alloc (.cells (cellsOf .u8 32 f) 45)).alloc (.cells (cellsOf .u8 32 g) 45)).alloc (.cells #[.int .u8 0, .int .u8 0, .int .u8 0, .int .u8 0, .int .u8 0, .int .u8 0, .int .u8 0, .int .u8 0, .int .u8 0, .int .u8 0, .int .u8 0, .int .u8 0, .int .u8 0, .int .u8 0, .int .u8 0, .int .u8 0, .int .u8 0, .int .u8 0, .int .u8 0, .int .u8 0, .int .u8 0, .int .u8 0, .int .u8 0, .int .u8 0, .int .u8 0, .int .u8 0, .int .u8 0, .int .u8 0, .int .u8 0, .int .u8 0, .int .u8 0, .int .u8 0] 45)) (w.heap.size + 1) 45 .u8 32 g := by
    have := (holds_alloc (w.alloc (.cells (cellsOf .u8 32 f) 45)) 45 .u8 32 g _ rfl).grown (World.grownBy_alloc _ (.cells #[.int .u8 0, .int .u8 0, .int .u8 0, .int .u8 0, .int .u8 0, .int .u8 0, .int .u8 0, .int .u8 0, .int .u8 0, .int .u8 0, .int .u8 0, .int .u8 0, .int .u8 0, .int .u8 0, .int .u8 0, .int .u8 0, .int .u8 0, .int .u8 0, .int .u8 0, .int .u8 0, .int .u8 0, .int .u8 0, .int .u8 0, .int .u8 0, .int .u8 0, .int .u8 0, .int .u8 0, .int .u8 0, .int .u8 0, .int .u8 0, .int .u8 0, .int .u8 0] 45) none) (by simp)
    rwa [World.size_alloc] at this
  have hD : Holds (((w.alloc (.cells (cellsOf .u8 32 f) 45)).alloc (.cells (cellsOf .u8 32 g) 45)).alloc (.cells #[.int .u8 0, .int .u8 0, .int .u8 0, .int .u8 0, .int .u8 0, .int .u8 0, .int .u8 0, .int .u8 0, .int .u8 0, .int .u8 0, .int .u8 0, .int .u8 0, .int .u8 0, .int .u8 0, .int .u8 0, .int .u8 0, .int .u8 0, .int .u8 0, .int .u8 0, .int .u8 0, .int .u8 0, .int .u8 0, .int .u8 0, .int .u8 0, .int .u8 0, .int .u8 0, .int .u8 0, .int .u8 0, .int .u8 0, .int .u8 0, .int .u8 0, .int .u8 0] 45)) (w.heap.size + 2) 45 .u8 32 (fun _ => 0) := by
    have := holds_alloc ((w.alloc (.cells (cellsOf .u8 32 f) 45)).alloc (.cells (cellsOf .u8 32 g) 45)) 45 .u8 32 (fun _ => 0) #[.int .u8 0, .int .u8 0, .int .u8 0, .int .u8 0, .int .u8 0, .int .u8 0, .int .u8 0, .int .u8 0, .int .u8 0, .int .u8 0, .int .u8 0, .int .u8 0, .int .u8 0, .int .u8 0, .int .u8 0, .int .u8 0, .int .u8 0, .int .u8 0, .int .u8 0, .int .u8 0, .int .u8 0, .int .u8 0, .int .u8 0, .int .u8 0, .int .u8 0, .int .u8 0, .int .u8 0, .int .u8 0, .int .u8 0, .int .u8 0, .int .u8 0, .int .u8 0] rfl
    rwa [World.size_alloc, World.size_alloc] at this
  have gr := grown_alloc (grown_alloc (World.grownBy_alloc w (.cells (cellsOf .u8 32 f) 45) none) (.cells (cellsOf .u8 32 g) 45)) (.cells #[.int .u8 0, .int .u8 0, .int .u8 0, .int .u8 0, .int .u8 0, .int .u8 0, .int .u8 0, .int .u8 0, .int .u8 0, .int .u8 0, .int .u8 0, .int .u8 0, .int .u8 0, .int .u8 0, .int .u8 0, .int .u8 0, .int .u8 0, .int .u8 0, .int .u8 0, .int .u8 0, .int .u8 0, .int .u8 0, .int .u8 0, .int .u8 0, .int .u8 0, .int .u8 0, .int .u8 0, .int .u8 0, .int .u8 0, .int .u8 0, .int .u8 0, .int .u8 0] 45)
  clear hf hg hc hu hV ht heq ht0
  go_enter Try.func22, Try.ntmps22
  go_upto_region 1 with fail
  generalize (((w.alloc (.cells (cellsOf .u8 32 f) 45)).alloc (.cells (cellsOf .u8 32 g) 45)).alloc (.cells #[.int .u8 0, .int .u8 0, .int .u8 0, .int .u8 0, .int .u8 0, .int .u8 0, .int .u8 0, .int .u8 0, .int .u8 0, .int .u8 0, .int .u8 0, .int .u8 0, .int .u8 0, .int .u8 0, .int .u8 0, .int .u8 0, .int .u8 0, .int .u8 0, .int .u8 0, .int .u8 0, .int .u8 0, .int .u8 0, .int .u8 0, .int .u8 0, .int .u8 0, .int .u8 0, .int .u8 0, .int .u8 0, .int .u8 0, .int .u8 0, .int .u8 0, .int .u8 0] 45)) = V0 at *
  obtain ⟨B, hBw⟩ : ∃ B, B = w.heap.size := ⟨_, rfl⟩
  simp only [← hBw, Nat.add_assoc, Nat.reduceAdd] at hA hP hD ⊢
  have HBw := Lib.hid hBw
  clear hBw
  refine wp_region_rel_all (fun W => V0.grownBy W none) (fun _ h => h) (alL [6]) (relL [fun vv _ => vv = .agg (cellsOf .u8 32 f), fun vv _ => vv = .agg (cellsOf .u8 32 c), fun vv _ => vv = .agg (cellsOf .u8 32 g), fun vv _ => vv = .agg (cellsOf .u64 5 u), fun vv _ => ∃ z, Is5 z V ∧ vv = .agg (cellsOf .u64 5 z), fun vv _ => vv = .agg (cellsOf .u8 32 t), NewB V0.heap.size 45 .u8 32])
    7 1 (atL [7, 8, 9, 10, 11, 12, 6]) (depL [[], [0], [], [2], [1, 3], [4], []]) (by kernel_rfl) rfl (by kernel_rfl) (by kernel_rfl) (by kernel_rfl) (by decide) (by kernel_rfl) 18 rfl (by decide) (by decide) (by decide) ?mono1 ?al1 ?step1 ?fin1
  case mono1 =>
    intro k x W W' hk h g
    obtain rfl | rfl | rfl | rfl | rfl | rfl | rfl : k = 0 ∨ k = 1 ∨ k = 2 ∨ k = 3 ∨ k = 4 ∨ k = 5 ∨ k = 6 := by omega
    · exact h
    · exact h
    · exact h
    · exact h
    · exact h
    · exact h
    · exact NewB.grown h g
  case al1 =>
    intro k x W hk e h
    obtain rfl | rfl | rfl | rfl | rfl | rfl | rfl : k = 0 ∨ k = 1 ∨ k = 2 ∨ k = 3 ∨ k = 4 ∨ k = 5 ∨ k = 6 := by omega
    · exact absurd e (by decide)
    · exact absurd e (by decide)
    · exact absurd e (by decide)
    · exact absurd e (by decide)
    · exact absurd e (by decide)
    · exact absurd e (by decide)
    · exact NewB.at h
  case step1 =>
    intro k hk
    obtain rfl | rfl | rfl | rfl | rfl | rfl | rfl : k = 0 ∨ k = 1 ∨ k = 2 ∨ k = 3 ∨ k = 4 ∨ k = 5 ∨ k = 6 := by omega
    · refine ⟨_, rfl, rfl, fun b W hs hg hD => ⟨wanted_of rfl, fun K hK0 => ?_⟩⟩
      have hK := fun v W' g h => hK0 v W' g h (fun e => absurd e (by decide))
      exact rel_val (run_key (hA.grown hg (by simp)) rfl ((eval_slot b 2).trans (hs 2 (by decide)))) rfl hK
    · refine ⟨_, rfl, rfl, fun b W hs hg hD => ⟨wanted_of rfl, fun K hK0 => ?_⟩⟩
      have hK := fun v W' g h => hK0 v W' g h (fun e => absurd e (by decide))
      refine rel_call 21 _ (exec_fn1 _ _ _ rfl ((eval_slot b 7).trans (hD 0 (by decide)))) clamp_enters ?_ hK
      exact (HC.out W).mono fun e w' h => ⟨_, h.1, h.2, rfl⟩
    · refine ⟨_, rfl, rfl, fun b W hs hg hD => ⟨wanted_of rfl, fun K hK0 => ?_⟩⟩
      have hK := fun v W' g h => hK0 v W' g h (fun e => absurd e (by decide))
      exact rel_val (run_key (hP.grown hg (by simp)) rfl ((eval_slot b 3).trans (hs 3 (by decide)))) rfl hK
    · refine ⟨_, rfl, rfl, fun b W hs hg hD => ⟨wanted_of rfl, fun K hK0 => ?_⟩⟩
      have hK := fun v W' g h => hK0 v W' g h (fun e => absurd e (by decide))
      refine rel_call 7 _ (exec_fn1 _ _ _ rfl ((eval_slot b 9).trans (hD 2 (by decide)))) of_enters ?_ hK
      exact (HO.out W).mono fun e w' h => ⟨_, h.1, h.2, rfl⟩
    · refine ⟨_, rfl, rfl, fun b W hs hg hD => ⟨wanted_of rfl, fun K hK0 => ?_⟩⟩
      have hK := fun v W' g h => hK0 v W' g h (fun e => absurd e (by decide))
      refine rel_call 41 _ (exec_fn2 _ _ _ _ _ rfl ((eval_slot b 8).trans (hD 1 (by decide))) ((eval_slot b 10).trans (hD 3 (by decide)))) times_enters ?_ hK
      exact (HT.out W).mono fun e w' ⟨z, h1, h2, h3⟩ => ⟨_, h2, h3, z, h1, rfl⟩
    · refine ⟨_, rfl, rfl, fun b W hs hg hD => ⟨wanted_of rfl, fun K hK0 => ?_⟩⟩
      have hK := fun v W' g h => hK0 v W' g h (fun e => absurd e (by decide))
      obtain ⟨z, hz, hb⟩ := hD 4 (by decide)
      refine rel_call 17 _ (exec_fn1 _ _ _ rfl ((eval_slot b 11).trans hb)) bytes_enters ?_ hK
      exact (HB.out z hz W).mono fun e w' h => ⟨_, h.1, h.2, rfl⟩
    · refine ⟨_, rfl, rfl, fun b W hs hg hD => ⟨wanted_of rfl, fun K hK0 => ?_⟩⟩
      exact wp_yields (run_newkey rfl) (hK0 _ _ (World.grownBy_alloc W _ none) ⟨W.heap.size, rfl, hg.size, holds_alloc W 45 .u8 32 _ _ rfl⟩ (fun _ B e => by cases e; exact Nat.le_refl _))
  intro vals W hg hR hap
  have e1 : vals 5 = .agg (cellsOf .u8 32 t) := hR 5 (by decide)
  obtain ⟨B6, e2, hB6, hN6⟩ := hR 6 (by decide)
  clear hR hap
  simp only [putsN, atL, Act.put, List.getD_cons_zero, List.getD_cons_succ, List.setIfInBounds_toArray, List.set_cons_succ, List.set_cons_zero, e1, e2]
  generalize vals 0 = q0
  generalize vals 1 = q1
  generalize vals 2 = q2
  generalize vals 3 = q3
  generalize vals 4 = q4
  clear e1 e2 vals
  have g1 := grown_setRow_new hg B6 (cellsOf .u8 32 t) (Or.inl hB6)
  have h6 := hN6.setRow .u8 32 t
  show wpAnyH _ _ _ _ _ 1 #[true, true, true, true, true, true, true, false] _ _
  refine wpAnyH_one (i := 7) (by kernel_rfl) (op_store 45 6 12 B6 (cellsOf .u8 32 t) rfl rfl rfl rfl rfl rfl 45 _ hN6.block (by rw [cellsOf_size]; kernel_rfl) (by simp only [cellsOf_size]) (cellsOf_all _ _ _) g1 ?_)
  simp only [List.setIfInBounds_toArray, List.set_cons_succ, List.set_cons_zero]
  refine wpAnyH_done (by kernel_rfl) ?_ _
  replace hD := hD.grown g1 (by simp)
  replace gr := grown_trans gr g1
  clear hA hP hg hB6 hN6 g1
  generalize W.setRow B6 (cellsOf .u8 32 t) = W2 at *
  clear W V0 HC HO HT HB
  have gS := grown_setRow_new gr (B + 2) (cellsOf .u8 32 t) (Or.inl (by have := HBw.out; omega))
  have hS := hD.setRow .u8 32 t
  have GS := Lib.hid gS
  have HS := Lib.hid hS
  by_cases hv : V = 0
  · have hq : eqN 32 t (fun _ => 0) = true := by rw [HE.out, hv]; rfl
    have ht := HT0.out hv
    have he : errV V = 70 := if_pos hv
    have HE2 := Lib.hid he
    subst ht
    clear he hv gr gS hS HE HT0
    go_wp2_with (first
      | refine wpList_load_key rfl 6 rfl rfl h6 ?_
      | (refine wpList_eqk rfl 13 14 (fun _ => 0) (fun _ => 0) rfl rfl rfl ?_; rw [hq])
      | refine wpList_store_row rfl 45 (.tmp 4) (.tmp 16) rfl (B + 2) (cellsOf .u8 32 (fun _ => 0)) rfl rfl 45 _ hD.block (by rw [cellsOf_size]; kernel_rfl) (by simp only [cellsOf_size]) (cellsOf_all _ _ _) ?_)
    refine bodyPost_ret (res_cell_tmp rfl rfl rfl HS.out (by kernel_rfl) (by kernel_rfl)) rfl ?_
    exact ⟨by rw [HE2.out]; rfl, GS.out⟩
  · have hq : eqN 32 t (fun _ => 0) = false := by rw [HE.out]; exact beq_eq_false_iff_ne.2 hv
    have he : errV V = 0 := if_neg hv
    have HE2 := Lib.hid he
    clear he hv gr gS hS HE HT0
    go_wp2_with (first
      | refine wpList_load_key rfl 6 rfl rfl h6 ?_
      | (refine wpList_eqk rfl 13 14 t (fun _ => 0) rfl rfl rfl ?_; rw [hq])
      | refine wpList_store_row rfl 45 (.tmp 4) (.tmp 17) rfl (B + 2) (cellsOf .u8 32 t) rfl rfl 45 _ hD.block (by rw [cellsOf_size]; kernel_rfl) (by simp only [cellsOf_size]) (cellsOf_all _ _ _) ?_)
    refine bodyPost_ret (res_cell_tmp rfl rfl rfl HS.out (by kernel_rfl) (by kernel_rfl)) rfl ?_
    exact ⟨by rw [HE2.out]; rfl, GS.out⟩

theorem rowN_lt (l : List Nat) (h : (l.all fun x => decide (x < 256)) = true) (i : Nat) : rowN l i < 256 := by
  unfold rowN
  rw [List.getD_eq_getElem?_getD]
  cases e : l[i]? with
  | none => exact (by decide : (0 : Nat) < 256)
  | some x => exact of_decide_eq_true (List.all_eq_true.1 h x (List.mem_of_getElem? e))
theorem public_any (f : Nat → Nat) (hf : ∀ i, f i < 256) (w : World) :
    Calls Try.prog 23 #[.agg (cellsOf .u8 32 f)] w fun e w' => e = .returned (.agg (cellsOf .u8 32 (lim 8 (timesF (clampF f) 9)))) ∧ w.grownBy w' none := by
  have hsh := shared_any f (rowN [9]) hf (rowN_lt [9] (by decide))
  unfold shV at hsh
  rw [of_nine] at hsh
  have h9 : cellsOf .u8 32 (rowN [9]) = #[.int .u8 9, .int .u8 0, .int .u8 0, .int .u8 0, .int .u8 0, .int .u8 0, .int .u8 0, .int .u8 0, .int .u8 0, .int .u8 0, .int .u8 0, .int .u8 0, .int .u8 0, .int .u8 0, .int .u8 0, .int .u8 0, .int .u8 0, .int .u8 0, .int .u8 0, .int .u8 0, .int .u8 0, .int .u8 0, .int .u8 0, .int .u8 0, .int .u8 0, .int .u8 0, .int .u8 0, .int .u8 0, .int .u8 0, .int .u8 0, .int .u8 0, .int .u8 0] := rfl
  rw [h9] at hsh
  obtain ⟨t, ht⟩ : ∃ t, t = lim 8 (timesF (clampF f) 9) := ⟨_, rfl⟩
  obtain ⟨ev, hev⟩ : ∃ t : Nat, t = errV (timesF (clampF f) 9) := ⟨_, rfl⟩
  rw [← ht] at hsh ⊢
  rw [← hev] at hsh
  have HS := Lib.hid hsh
  have hA : Holds ((w.alloc (.cells (cellsOf .u8 32 f) 45)).alloc (.cells #[.int .u8 0, .int .u8 0, .int .u8 0, .int .u8 0, .int .u8 0, .int .u8 0, .int .u8 0, .int .u8 0, .int .u8 0, .int .u8 0, .int .u8 0, .int .u8 0, .int .u8 0, .int .u8 0, .int .u8 0, .int .u8 0, .int .u8 0, .int .u8 0, .int .u8 0, .int .u8 0, .int .u8 0, .int .u8 0, .int .u8 0, .int .u8 0, .int .u8 0, .int .u8 0, .int .u8 0, .int .u8 0, .int .u8 0, .int .u8 0, .int .u8 0, .int .u8 0] 45)) w.heap.size 45 .u8 32 f := (holds_alloc w 45 .u8 32 f _ rfl).grown (World.grownBy_alloc _ (.cells #[.int .u8 0, .int .u8 0, .int .u8 0, .int .u8 0, .int .u8 0, .int .u8 0, .int .u8 0, .int .u8 0, .int .u8 0, .int .u8 0, .int .u8 0, .int .u8 0, .int .u8 0, .int .u8 0, .int .u8 0, .int .u8 0, .int .u8 0, .int .u8 0, .int .u8 0, .int .u8 0, .int .u8 0, .int .u8 0, .int .u8 0, .int .u8 0, .int .u8 0, .int .u8 0, .int .u8 0, .int .u8 0, .int .u8 0, .int .u8 0, .int .u8 0, .int .u8 0] 45) none) (by simp)
  have hD : Holds ((w.alloc (.cells (cellsOf .u8 32 f) 45)).alloc (.cells #[.int .u8 0, .int .u8 0, .int .u8 0, .int .u8 0, .int .u8 0, .int .u8 0, .int .u8 0, .int .u8 0, .int .u8 0, .int .u8 0, .int .u8 0, .int .u8 0, .int .u8 0, .int .u8 0, .int .u8 0, .int .u8 0, .int .u8 0, .int .u8 0, .int .u8 0, .int .u8 0, .int .u8 0, .int .u8 0, .int .u8 0, .int .u8 0, .int .u8 0, .int .u8 0, .int .u8 0, .int .u8 0, .int .u8 0, .int .u8 0, .int .u8 0, .int .u8 0] 45)) (w.heap.size + 1) 45 .u8 32 (fun _ => 0) := by
    have := holds_alloc (w.alloc (.cells (cellsOf .u8 32 f) 45)) 45 .u8 32 (fun _ => 0) #[.int .u8 0, .int .u8 0, .int .u8 0, .int .u8 0, .int .u8 0, .int .u8 0, .int .u8 0, .int .u8 0, .int .u8 0, .int .u8 0, .int .u8 0, .int .u8 0, .int .u8 0, .int .u8 0, .int .u8 0, .int .u8 0, .int .u8 0, .int .u8 0, .int .u8 0, .int .u8 0, .int .u8 0, .int .u8 0, .int .u8 0, .int .u8 0, .int .u8 0, .int .u8 0, .int .u8 0, .int .u8 0, .int .u8 0, .int .u8 0, .int .u8 0, .int .u8 0] rfl
    rwa [World.size_alloc] at this
  have gr := grown_alloc (World.grownBy_alloc w (.cells (cellsOf .u8 32 f) 45) none) (.cells #[.int .u8 0, .int .u8 0, .int .u8 0, .int .u8 0, .int .u8 0, .int .u8 0, .int .u8 0, .int .u8 0, .int .u8 0, .int .u8 0, .int .u8 0, .int .u8 0, .int .u8 0, .int .u8 0, .int .u8 0, .int .u8 0, .int .u8 0, .int .u8 0, .int .u8 0, .int .u8 0, .int .u8 0, .int .u8 0, .int .u8 0, .int .u8 0, .int .u8 0, .int .u8 0, .int .u8 0, .int .u8 0, .int .u8 0, .int .u8 0, .int .u8 0, .int .u8 0] 45)
  clear hf ht hev hsh h9
  go_enter Try.func23, Try.ntmps23
  go_upto_region 1 with fail
  generalize (w.alloc (.cells (cellsOf .u8 32 f) 45)).alloc (.cells #[.int .u8 0, .int .u8 0, .int .u8 0, .int .u8 0, .int .u8 0, .int .u8 0, .int .u8 0, .int .u8 0, .int .u8 0, .int .u8 0, .int .u8 0, .int .u8 0, .int .u8 0, .int .u8 0, .int .u8 0, .int .u8 0, .int .u8 0, .int .u8 0, .int .u8 0, .int .u8 0, .int .u8 0, .int .u8 0, .int .u8 0, .int .u8 0, .int .u8 0, .int .u8 0, .int .u8 0, .int .u8 0, .int .u8 0, .int .u8 0, .int .u8 0, .int .u8 0] 45) = V0 at *
  obtain ⟨B, hBw⟩ : ∃ B, B = w.heap.size := ⟨_, rfl⟩
  simp only [← hBw] at hA hD ⊢
  have HBw := Lib.hid hBw
  clear hBw
  go_wp2_with (refine wpList_load_key rfl 1 rfl rfl hA ?_)
  go_at_call 22
  refine (HS.out _).mono ?_
  rintro e U ⟨rfl, g⟩
  have hL0 := holds_alloc U 45 .u8 32 (fun _ => 0) #[.int .u8 0, .int .u8 0, .int .u8 0, .int .u8 0, .int .u8 0, .int .u8 0, .int .u8 0, .int .u8 0, .int .u8 0, .int .u8 0, .int .u8 0, .int .u8 0, .int .u8 0, .int .u8 0, .int .u8 0, .int .u8 0, .int .u8 0, .int .u8 0, .int .u8 0, .int .u8 0, .int .u8 0, .int .u8 0, .int .u8 0, .int .u8 0, .int .u8 0, .int .u8 0, .int .u8 0, .int .u8 0, .int .u8 0, .int .u8 0, .int .u8 0, .int .u8 0] rfl
  have gg := grown_alloc g (.cells #[.int .u8 0, .int .u8 0, .int .u8 0, .int .u8 0, .int .u8 0, .int .u8 0, .int .u8 0, .int .u8 0, .int .u8 0, .int .u8 0, .int .u8 0, .int .u8 0, .int .u8 0, .int .u8 0, .int .u8 0, .int .u8 0, .int .u8 0, .int .u8 0, .int .u8 0, .int .u8 0, .int .u8 0, .int .u8 0, .int .u8 0, .int .u8 0, .int .u8 0, .int .u8 0, .int .u8 0, .int .u8 0, .int .u8 0, .int .u8 0, .int .u8 0, .int .u8 0] 45)
  have h3 := hL0.setRow .u8 32 t
  have g2 := grown_setRow_new gg U.heap.size (cellsOf .u8 32 t) (Or.inl g.size)
  replace hD := hD.grown g2 (by simp)
  replace gr := grown_trans gr g2
  have gS := grown_setRow_new gr (B + 1) (cellsOf .u8 32 t) (Or.inl (by have := HBw.out; omega))
  have hS := hD.setRow .u8 32 t
  have GS := Lib.hid gS
  have HR := Lib.hid hS
  clear g gg g2 gr gS hS hA HS
  go_wp2_with (first
    | refine wpList_store_row rfl 45 (.tmp 3) (.tmp 9) rfl U.heap.size (cellsOf .u8 32 t) rfl rfl 45 _ hL0.block (by rw [cellsOf_size]; kernel_rfl) rfl (cellsOf_all _ _ _) ?_
    | refine wpList_load_key rfl 3 rfl rfl h3 ?_
    | refine wpList_store_row rfl 45 (.tmp 2) (.tmp 11) rfl (B + 1) (cellsOf .u8 32 t) rfl rfl 45 _ hD.block (by rw [cellsOf_size]; kernel_rfl) (by simp only [cellsOf_size]) (cellsOf_all _ _ _) ?_)
  refine bodyPost_ret (res_row rfl rfl HR.out (by kernel_rfl) (by kernel_rfl)) rfl ?_
  exact ⟨rfl, GS.out⟩

end Go.Proofs.Ytpnddojcihdniaa
