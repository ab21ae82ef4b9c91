/-
  The reference's small numbers, the modulus, and whether a number is below it.
-/
import Derived.Test.YtpnddojcihdniaaFillU
import Derived.Test.YtpnddojcihdniaaFieldRef
import Derived.Test.YtpnddojcihdniaaFieldWide
import Derived.BigQuiet
namespace Go.Proofs.Ytpnddojcihdniaa
open Go.RowKit

set_option maxRecDepth 100000
set_option maxHeartbeats 2000000

theorem refSmall_any (n : Nat) (hn : n < 4294967296) (w : World) : Calls Try.prog 16 #[.int .u32 n] w (GaveU w 16 (lim 16 n)) := by
  obtain ⟨c, hr, hF⟩ := makeU_any 31 (by kernel_rfl) 16 (by decide) w
  have hr2 : (Instr.makeSlice 31 (.int .i64 16) (.int .i64 16)).run Try.prog w = .ok (.slice (some ⟨w.heap.size, 0, none⟩) 16 16) (w.alloc (.cells c 25)) := hr
  have gr := World.grownBy_alloc w (.cells c 25) none
  have z0 : IntKind.u64.wrap (n : Int) = (n : Int) := by rw [IntKind.wrap_u64]; omega
  have h1 := hF.set 0 (n % 65536) (by decide)
  have h2 := (h1.set 1 (n / 65536) (by decide)).congr (g := lim 16 n) (fun j hj => by
    by_cases e : j = 1
    · subst e
      rw [upd_same]
      show _ = n / 65536 % 65536
      omega
    · rw [upd_other _ _ _ _ e]
      by_cases e2 : j = 0
      · subst e2
        rw [upd_same]
        show _ = n / 1 % 65536
        omega
      · rw [upd_other _ _ _ _ e2]
        unfold lim
        have h3 : 2 ^ 32 ≤ 2 ^ (16 * j) := Nat.pow_le_pow_right (by decide) (by omega)
        rw [Nat.div_eq_of_lt (Nat.lt_of_lt_of_le hn h3), Nat.zero_mod])
  have gs := Nat.le_refl w.heap.size
  have gr2 := grown_setCell_new (grown_setCell_new gr ⟨w.heap.size, 0, none⟩ (.int .u64 (n % 65536 : Nat)) (Or.inl gs)) ⟨w.heap.size, 1, none⟩ (.int .u64 (n / 65536 : Nat)) (Or.inl gs)
  have c0 := hF.cell 0 (by decide)
  have f0 := hF.free 0
  have c1 : _ = some (Value.int .u64 ((0 : Nat) : Int)) := hF.cell 1 (by decide)
  have f1 := hF.free 1
  have e0 : (n : Int) % 65536 = ((n % 65536 : Nat) : Int) := by omega
  have e1 : (n : Int) / 65536 = ((n / 65536 : Nat) : Int) := by omega
  have z1 : IntKind.u64.wrap ((n % 65536 : Nat) : Int) = ((n % 65536 : Nat) : Int) := by rw [IntKind.wrap_u64]; omega
  have z2 : IntKind.u64.wrap ((n / 65536 : Nat) : Int) = ((n / 65536 : Nat) : Int) := by rw [IntKind.wrap_u64]; omega
  have H2 := Lib.hid h2
  have G2 := Lib.hid gr2
  generalize n % 65536 = n0 at *
  generalize n / 65536 = n1 at *
  clear hr h1 h2 gr2 gr gs hF hn
  go_enter Try.func16, Try.ntmps16
  go_upto_region 2 with fail
  clear hr2
  generalize w.alloc (.cells c 25) = w1 at *
  go_wp2_with fail
  go_ret
  exact ⟨⟨_, rfl, Nat.le_refl _, H2.out⟩, G2.out⟩

theorem prime_any (w : World) : Calls Try.prog 33 #[] w (GaveU w 16 pL) := by
  obtain ⟨c, hr, hF⟩ := makeU_any 31 (by kernel_rfl) 16 (by decide) w
  have hr2 : (Instr.makeSlice 31 (.int .i64 16) (.int .i64 16)).run Try.prog w = .ok (.slice (some ⟨w.heap.size, 0, none⟩) 16 16) (w.alloc (.cells c 25)) := hr
  have gr := World.grownBy_alloc w (.cells c 25) none
  have hF0 := hF.congr (g := fun j => if j < 0 then 65535 else 0) (fun j _ => (if_neg (Nat.not_lt_zero j)).symm)
  clear hr hF
  go_enter Try.func33, Try.ntmps33
  go_wp2_with fail
  clear hr2
  generalize w.alloc (.cells c 25) = w1 at *
  go_loopw [2] (fun u2 wr => ∃ i : Nat, i ≤ 16 ∧ u2 = .int .i64 i ∧ w.grownBy wr none ∧ FillU wr w.heap.size 16 (fun j => if j < i then 65535 else 0)) (fun u2 _ => 16 - (intOf u2).toNat)
  case atStart => exact ⟨0, by omega, rfl, gr, hF0⟩
  case round =>
    clear gr hF0
    obtain ⟨i, hi, rfl, hgr, hF⟩ := hrel
    by_cases hlt : i < 16
    · have j1 : (i : Int) < 16 := by omega
      have c1 := hF.cell i hlt
      have f1 := hF.free i
      have HF : Hid (FillU (wr.setCell ⟨w.heap.size, i, none⟩ (.int .u64 65535)) w.heap.size 16 (fun j => if j < i + 1 then 65535 else 0)) := Lib.hid ((hF.set i 65535 hlt).congr (fun j hj => by
        by_cases e : j = i
        · subst e; rw [upd_same, if_pos (by omega)]
        · rw [upd_other _ _ _ _ e]
          by_cases e2 : j < i
          · rw [if_pos e2, if_pos (by omega)]
          · rw [if_neg e2, if_neg (by omega)]))
      have HG : Hid (w.grownBy (wr.setCell ⟨w.heap.size, i, none⟩ (.int .u64 65535)) none) := Lib.hid (grown_setCell_new hgr ⟨w.heap.size, i, none⟩ (.int .u64 65535) (Or.inl (Nat.le_refl _)))
      clear hgr hF hi
      go_wp2_with fail
      first
        | exact ⟨⟨i + 1, by omega, by go_num, HG.out, HF.out⟩, by simp [intOf]; omega⟩
        | (go_roundw
           case rel => exact ⟨i + 1, by omega, by go_num, HG.out, HF.out⟩
           case measure => simp [intOf]; omega)
    · obtain rfl : i = 16 := by omega
      replace hF := hF.congr (g := fun _ => 65535) (fun j hj => if_pos hj)
      have h1 := hF.set 0 65517 (by decide)
      have h2 := (h1.set 15 32767 (by decide)).congr (g := pL) (fun j hj => by
        unfold pL
        by_cases e : j = 15
        · subst e; rw [upd_same]; rfl
        · rw [upd_other _ _ _ _ e]
          by_cases e2 : j = 0
          · subst e2; rw [upd_same]; rfl
          · rw [upd_other _ _ _ _ e2, if_neg e2, if_neg e])
      have gs := Nat.le_refl w.heap.size
      have gr2 := grown_setCell_new (grown_setCell_new hgr ⟨w.heap.size, 0, none⟩ (.int .u64 65517) (Or.inl gs)) ⟨w.heap.size, 15, none⟩ (.int .u64 32767) (Or.inl gs)
      have c0 := hF.cell 0 (by decide)
      have f0 := hF.free 0
      have c1 := hF.cell 15 (by decide)
      have f1 := hF.free 15
      have H2 := Lib.hid h2
      have G2 := Lib.hid gr2
      clear h1 h2 gr2 hgr gs hF hlt hi
      go_wp2_with fail
      go_ret
      exact ⟨⟨_, rfl, Nat.le_refl _, H2.out⟩, G2.out⟩

theorem least_dec (f : Nat → Nat) (hf : ∀ i, i < 16 → f i < 65536) (i : Nat) (hi : i < 16) (he : ∀ j, i < j → j < 16 → f j = pL j) (hne : f i ≠ pL i) : decide (f i < pL i) = decide (val 16 f 16 < pF) := by
  rw [← pL_val]
  by_cases h : f i < pL i
  · have h1 := val_cmp 16 f pL i (fun j hj => hf j (by omega)) h 16 hi he
    rw [decide_eq_true h, decide_eq_true h1]
  · have h1 := val_cmp 16 pL f i (fun j _ => pL_lt j) (by omega) 16 hi (fun j h1 h2 => (he j h1 h2).symm)
    rw [decide_eq_false h, decide_eq_false (by omega)]
theorem refLeast_any (bx : Nat) (f : Nat → Nat) (w : World) (hf : ∀ i, i < 16 → f i < 65536) (hF : FillU w bx 16 f) :
    Calls Try.prog 44 #[.slice (some ⟨bx, 0, none⟩) 16 16] w fun e w' => e = .returned (.bool (decide (val 16 f 16 < pF))) ∧ w.grownBy w' none := by
  have Hf := Lib.hid hf
  have hp := prime_any w
  have HP := Lib.hid hp
  obtain ⟨D, hD⟩ : ∃ D, D = decide (val 16 f 16 < pF) := ⟨_, rfl⟩
  rw [← hD]
  have HD := Lib.hid hD
  clear hf hp hD
  go_enter Try.func44, Try.ntmps44
  go_wp2_with fail
  go_at_call 33
  refine HP.out.mono ?_
  rintro e U ⟨⟨bp, rfl, hbp, hPr⟩, gU⟩
  have hF1 := hF.grown (by decide) gU (by simp)
  clear HP hF
  go_wp2_with fail
  go_loopw [4] (fun u4 wr => ∃ k : Nat, k ≤ 16 ∧ u4 = .int .i64 (15 - (k : Int)) ∧ w.grownBy wr none ∧ FillU wr bx 16 f ∧ FillU wr bp 16 pL ∧ Hid (∀ j, 16 ≤ j + k → j < 16 → f j = pL j)) (fun u4 _ => (intOf u4 + 1).toNat)
  case atStart => exact ⟨0, by omega, rfl, gU, hF1, hPr, Lib.hid (fun j h1 h2 => by omega)⟩
  case round =>
    clear gU hF1 hPr
    obtain ⟨k, hk, rfl, hgr, hF, hPr, hE⟩ := hrel
    by_cases hlt : k < 16
    · obtain ⟨m, hm⟩ : ∃ m, m = 15 - k := ⟨_, rfl⟩
      have em : 15 - (k : Int) = (m : Int) := by omega
      rw [em]
      have j1 : (m : Int) < 16 := by omega
      have hm16 : m < 16 := by omega
      obtain ⟨V, hV⟩ : ∃ V, V = wr.drew := ⟨_, rfl⟩
      have c0 := hF.cell m hm16
      have c1 := hPr.cell m hm16
      have hld := fun he hne => least_dec f Hf.out m hm16 he hne
      have hEm := hE.out
      have hfm := Hf.out m hm16
      have hpm := pL_lt m
      obtain ⟨x, hx⟩ : ∃ x, x = f m := ⟨_, rfl⟩
      obtain ⟨y, hy⟩ : ∃ y, y = pL m := ⟨_, rfl⟩
      rw [← hx] at c0 hfm
      rw [← hy] at c1 hpm
      have HG := Lib.hid hgr
      have HF := Lib.hid hF
      have HPr := Lib.hid hPr
      by_cases hxy : x = y
      · have ne0 : ((x : Int) != (y : Int)) = false := by rw [hxy]; simp
        have hE2 : Hid (∀ j, 16 ≤ j + (k + 1) → j < 16 → f j = pL j) := Lib.hid (fun j h1 h2 => by
          by_cases e : j = m
          · rw [e, ← hx, ← hy, hxy]
          · exact hEm j (by omega) h2)
        have Hm := Lib.hid hm
        have Hk := Lib.hid hlt
        clear hx hy hxy hld hEm hE hV hm hm16 hk hlt hgr hF hPr hfm hpm em
        go_wp2_with fail
        go_quiet (fail)
        go_wp2_with fail
        go_roundw
        case rel => exact ⟨k + 1, Hk.out, congrArg (Value.int .i64) (by have := Hm.out; have := Hk.out; omega), grown_drewN HG.out nq, HF.out.drewN nq, HPr.out.drewN nq, hE2⟩
        case measure =>
          have := Hm.out
          have := Hk.out
          simp [intOf]
          try omega
      · have ne0 : ((x : Int) != (y : Int)) = true := by rw [bne_iff_ne]; omega
        have hd := hld (fun j h1 h2 => hEm j (by omega) h2) (by rw [← hx, ← hy]; exact hxy)
        rw [← hx, ← hy, ← HD.out] at hd
        have HD2 := Lib.hid hd
        clear hx hy hxy hld hEm hE hV hm hm16 hk hlt hgr hF hPr hfm hpm em hd
        go_wp2_with fail
        go_quiet (fail)
        go_wp2_with fail
        go_quiet (fail)
        go_wp2_with fail
        go_ret
        exact ⟨by rw [← HD2.out]; rfl, grown_drewN (grown_drewN HG.out _) _⟩
    · obtain rfl : k = 16 := by omega
      have hv : val 16 f 16 = pF := by rw [← pL_val]; exact val_congr 16 16 (fun j hj => hE.out j (by omega) hj)
      have hD2 : D = false := by rw [HD.out, hv]; exact decide_eq_false (Nat.lt_irrefl _)
      have HD2 := Lib.hid hD2
      clear hv hD2 hlt hk
      go_wp2_with fail
      go_ret
      exact ⟨by rw [HD2.out]; rfl, hgr⟩
end Go.Proofs.Ytpnddojcihdniaa
