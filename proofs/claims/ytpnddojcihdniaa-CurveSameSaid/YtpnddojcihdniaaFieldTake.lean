/-
  field's words of bytes, and back.
-/
import Derived.Test.YtpnddojcihdniaaFieldCar
import Derived.StillTailTactics
namespace Go.Proofs.Ytpnddojcihdniaa
open Go.RowKit

set_option maxRecDepth 100000
set_option maxHeartbeats 1000000

theorem or_word (v0 x p v1 : Nat) (h : v0 ||| x * 2 ^ p = v1) (hx : x < 256) (hv : v1 < 18446744073709551616) : bits .or .u64 (v0 : Int) (IntKind.u64.wrap (IntKind.u64.wrap (x : Int) * 2 ^ p)) = (v1 : Int) := by
  have h1 : v0 ≤ v1 := by rw [← h]; exact Nat.left_le_or
  have h2 : x * 2 ^ p ≤ v1 := by rw [← h]; exact Nat.right_le_or
  have e1 : IntKind.u64.wrap (x : Int) = (x : Int) := by rw [IntKind.wrap_u64]; omega
  have e2 : (x : Int) * 2 ^ p = ((x * 2 ^ p : Nat) : Int) := by simp
  rw [e1, e2, w64 _ (Nat.lt_of_le_of_lt h2 hv), bits_or_u64_nat _ _ (Nat.lt_of_le_of_lt h1 hv) (Nat.lt_of_le_of_lt h2 hv), h]
theorem taken_any (f : Nat → Nat) (w : World) (hf : ∀ i, f i < 256) : Calls Try.prog 30 #[.agg (cellsOf .u8 32 f)] w fun e w' => e = .returned (.agg (cellsOf .u64 4 (wdL f))) ∧ w.grownBy w' none := by
  have Hf := Lib.hid hf
  obtain ⟨S, hS0⟩ : ∃ S, S = wdL f := ⟨_, rfl⟩
  rw [← hS0]
  have hS := Lib.hid hS0
  clear hS0
  go_enter Try.func30, Try.ntmps30
  have hA : Holds ((w.alloc (.cells (cellsOf .u8 32 f) 22)).alloc (.cells #[.int .u64 0, .int .u64 0, .int .u64 0, .int .u64 0] 58)) w.heap.size 22 .u8 32 f := (holds_alloc w 22 .u8 32 f _ rfl).of_block (by rw [heap_alloc_old]; simp)
  have hB : Holds ((w.alloc (.cells (cellsOf .u8 32 f) 22)).alloc (.cells #[.int .u64 0, .int .u64 0, .int .u64 0, .int .u64 0] 58)) (w.heap.size + 1) 58 .u64 4 (tkL f 0) := by
    have := holds_alloc (w.alloc (.cells (cellsOf .u8 32 f) 22)) 58 .u64 4 (fun _ => 0) #[.int .u64 0, .int .u64 0, .int .u64 0, .int .u64 0] rfl
    rw [World.size_alloc] at this
    exact this.congr (fun j _ => (tkL_zero f j).symm)
  have hg := grown_alloc (World.grownBy_alloc w (.cells (cellsOf .u8 32 f) 22) none) (.cells #[.int .u64 0, .int .u64 0, .int .u64 0, .int .u64 0] 58)
  clear hf
  go_wp2_with (refine wpList_load_row rfl 22 (.tmp 1) rfl w.heap.size rfl 22 _ (0, 0) (.array 32 5) hA.block (by kernel_rfl) rfl (by rw [cellsOf_size]; kernel_rfl) ?_)
  generalize (w.alloc (.cells (cellsOf .u8 32 f) 22)).alloc (.cells #[.int .u64 0, .int .u64 0, .int .u64 0, .int .u64 0] 58) = w1 at *
  go_loopw [3, 4, 6] (fun _ _ u6 wr => ∃ i : Nat, i ≤ 32 ∧ u6 = .int .i64 i ∧ w.grownBy wr none ∧ Holds wr (w.heap.size + 1) 58 .u64 4 (tkL f i)) (fun _ _ u6 _ => 32 - (intOf u6).toNat)
  case atStart => exact ⟨0, by omega, rfl, hg, hB⟩
  case round =>
    clear hg hA hB
    obtain ⟨i, hi, rfl, hgr, hB⟩ := hrel
    by_cases hlt : i < 32
    · have j1 : (i : Int) < 32 := by omega
      obtain ⟨q, hq⟩ : ∃ q, q = i / 8 := ⟨_, rfl⟩
      obtain ⟨r, hr⟩ : ∃ r, r = i % 8 := ⟨_, rfl⟩
      obtain ⟨p, hp⟩ : ∃ p, p = 8 * r := ⟨_, rfl⟩
      have x0 : (i : Int) / 8 = (q : Int) := by omega
      have x1 : (i : Int).tmod 8 = (r : Int) := by rw [Int.tmod_eq_emod_of_nonneg (by omega)]; omega
      have x2 : (i : Int) % 8 = (r : Int) := by omega
      have x3 : 8 * (r : Int) = (p : Int) := by omega
      have x4 : (i : Int).tdiv 8 = (q : Int) := by rw [Int.tdiv_eq_ediv_of_nonneg (by omega)]; omega
      have w3 : IntKind.i64.wrap (p : Int) = (p : Int) := by rw [IntKind.wrap_i64]; omega
      have w4 : IntKind.i64.wrap (q : Int) = (q : Int) := by rw [IntKind.wrap_i64]; omega
      have k0 : (q : Int) < 4 := by omega
      have k1 : (p : Int) < 64 := by omega
      have hix := run_indexOf (Q := Try.prog) (T := 22) (E := 5) (n := 32) (by kernel_rfl) (fun _ => by kernel_rfl) (fun _ => by kernel_rfl) (cellsOf .u8 32 f) i i rfl (.int .u8 (f i)) hlt (cellsOf_get .u8 32 f i hlt)
      have hval := word_or (fun t => f (8 * q + t)) (fun t => Hf.out _) r
      have hfi : f (8 * q + r) = f i := by rw [show 8 * q + r = i by omega]
      rw [hfi, ← hp] at hval
      have hc0 : tkL f i q = val 8 (fun t => f (8 * q + t)) r := by rw [hq, hr]; exact tkL_at f i
      have hst : upd (tkL f i) q (val 8 (fun t => f (8 * q + t)) (r + 1)) = tkL f (i + 1) := by rw [hq, hr]; exact tkL_step f i
      have l1 : val 8 (fun t => f (8 * q + t)) (r + 1) < 18446744073709551616 := Nat.lt_of_lt_of_le (val8_lt _ (fun t => Hf.out _) (r + 1)) (Nat.pow_le_pow_right (by decide) (show 8 * (r + 1) ≤ 64 by omega))
      have hB0 := hB
      obtain ⟨v0, hv0⟩ : ∃ v, v = val 8 (fun t => f (8 * q + t)) r := ⟨_, rfl⟩
      obtain ⟨v1, hv1⟩ : ∃ v, v = val 8 (fun t => f (8 * q + t)) (r + 1) := ⟨_, rfl⟩
      rw [← hv0] at hval hc0
      rw [← hv1] at hval hst l1
      obtain ⟨U, hU⟩ : ∃ U, U = wr.drew := ⟨_, rfl⟩
      have gU : wr.grownBy U none := by rw [hU]; exact grown_drew (grown_refl wr none)
      have hBU := hB.grown gU (by simp)
      have hgU := grown_trans hgr gU
      have c0 := hBU.cell q (by omega)
      have f0 := hBU.frozen q
      rw [hc0] at c0
      have hfi2 := Hf.out i
      generalize f i = fi at *
      have HA : Hid (Holds (U.setCell ⟨w.heap.size + 1, q, none⟩ (.int .u64 (v1 : Nat))) (w.heap.size + 1) 58 .u64 4 (tkL f (i + 1))) := Lib.hid (by rw [← hst]; exact hBU.set q v1)
      have HG : Hid (w.grownBy (U.setCell ⟨w.heap.size + 1, q, none⟩ (.int .u64 (v1 : Nat))) none) := Lib.hid (grown_setCell_new hgU ⟨w.heap.size + 1, q, none⟩ (.int .u64 (v1 : Nat)) (Or.inl (by simp)))
      have HV := Lib.hid hval
      have HU := Lib.hid hU.symm
      have HL := Lib.hid l1
      have Hq := Lib.hid hq
      have Hp := Lib.hid hp
      clear hq hr hp hfi hc0 hst hv0 hv1 hgr hB hval hi hU hB0 hBU hgU gU l1
      go_wp2_with fail
      refine wp_region_still_tail 12 (by kernel_rfl) (by kernel_rfl) ?_
      change wpStill _ _ (World.drew wr) (fun a' => wpList _ _ _ _ a' (World.drew wr)) _ _
      rw [HU.out]
      simp only [List.take_succ_cons, List.take_zero, List.drop_succ_cons, List.drop_zero]
      repeat still_step
      refine wpStill_nil ?_
      have hor := or_word v0 fi p v1 HV.out hfi2 HL.out
      simp only [hor]
      clear hor
      go_wp2_with fail
      first
        | exact ⟨⟨i + 1, by omega, by go_num, HG.out, HA.out⟩, by simp [intOf]; omega⟩
        | (go_roundw
           case rel => exact ⟨i + 1, by omega, by go_num, HG.out, HA.out⟩
           case measure => simp [intOf]; omega)
    · obtain rfl : i = 32 := by omega
      have hB4 : Holds wr (w.heap.size + 1) 58 .u64 4 S := hB.congr (fun j hj => by rw [hS.out]; exact tkL_end f j hj)
      clear hlt hi hB
      go_wp2_with (first
        | refine wpList_load_row rfl 58 (.tmp 2) rfl (w.heap.size + 1) rfl 58 _ (0, 0) (.array 4 25) hB4.block (by kernel_rfl) rfl (by rw [cellsOf_size]; kernel_rfl) ?_
        | refine wpList_store_row rfl 58 (.tmp 2) (.tmp 23) rfl (w.heap.size + 1) _ rfl rfl 58 _ hB4.block (by rw [cellsOf_size]; kernel_rfl) rfl (cellsOf_all _ _ _) ?_)
      exact bodyPost_ret (v := .agg (cellsOf .u64 4 S)) (results_cell_row rfl _ _ (w.heap.size + 1) 58 _ (0, 0) (.array 4 25) rfl (hB4.setRow .u64 4 S).block (by kernel_rfl) rfl (by rw [cellsOf_size]; kernel_rfl)) rfl ⟨rfl, grown_setRow_new hgr _ _ (Or.inl (by omega))⟩
theorem put_any (v : Nat) (w : World) : Calls Try.prog 37 #[.agg (cellsOf .u64 4 (lim 64 v))] w fun e w' => e = .returned (.agg (cellsOf .u8 32 (lim 8 v))) ∧ w.grownBy w' none := by
  have z32 : (#[.int .u8 0, .int .u8 0, .int .u8 0, .int .u8 0, .int .u8 0, .int .u8 0, .int .u8 0, .int .u8 0, .int .u8 0, .int .u8 0, .int .u8 0, .int .u8 0, .int .u8 0, .int .u8 0, .int .u8 0, .int .u8 0, .int .u8 0, .int .u8 0, .int .u8 0, .int .u8 0, .int .u8 0, .int .u8 0, .int .u8 0, .int .u8 0, .int .u8 0, .int .u8 0, .int .u8 0, .int .u8 0, .int .u8 0, .int .u8 0, .int .u8 0, .int .u8 0] : Array Value) = cellsOf .u8 32 (fun _ => 0) := rfl
  have hA : Holds ((w.alloc (.cells (cellsOf .u64 4 (lim 64 v)) 58)).alloc (.cells #[.int .u8 0, .int .u8 0, .int .u8 0, .int .u8 0, .int .u8 0, .int .u8 0, .int .u8 0, .int .u8 0, .int .u8 0, .int .u8 0, .int .u8 0, .int .u8 0, .int .u8 0, .int .u8 0, .int .u8 0, .int .u8 0, .int .u8 0, .int .u8 0, .int .u8 0, .int .u8 0, .int .u8 0, .int .u8 0, .int .u8 0, .int .u8 0, .int .u8 0, .int .u8 0, .int .u8 0, .int .u8 0, .int .u8 0, .int .u8 0, .int .u8 0, .int .u8 0] 22)) w.heap.size 58 .u64 4 (lim 64 v) := (holds_alloc w 58 .u64 4 (lim 64 v) _ rfl).of_block (by rw [heap_alloc_old]; simp)
  have hB : Holds ((w.alloc (.cells (cellsOf .u64 4 (lim 64 v)) 58)).alloc (.cells #[.int .u8 0, .int .u8 0, .int .u8 0, .int .u8 0, .int .u8 0, .int .u8 0, .int .u8 0, .int .u8 0, .int .u8 0, .int .u8 0, .int .u8 0, .int .u8 0, .int .u8 0, .int .u8 0, .int .u8 0, .int .u8 0, .int .u8 0, .int .u8 0, .int .u8 0, .int .u8 0, .int .u8 0, .int .u8 0, .int .u8 0, .int .u8 0, .int .u8 0, .int .u8 0, .int .u8 0, .int .u8 0, .int .u8 0, .int .u8 0, .int .u8 0, .int .u8 0] 22)) (w.heap.size + 1) 22 .u8 32 (fun _ => 0) := by
    have := holds_alloc (w.alloc (.cells (cellsOf .u64 4 (lim 64 v)) 58)) 22 .u8 32 (fun _ => 0) _ z32
    rwa [World.size_alloc] at this
  have hg := grown_alloc (World.grownBy_alloc w (.cells (cellsOf .u64 4 (lim 64 v)) 58) none) (.cells #[.int .u8 0, .int .u8 0, .int .u8 0, .int .u8 0, .int .u8 0, .int .u8 0, .int .u8 0, .int .u8 0, .int .u8 0, .int .u8 0, .int .u8 0, .int .u8 0, .int .u8 0, .int .u8 0, .int .u8 0, .int .u8 0, .int .u8 0, .int .u8 0, .int .u8 0, .int .u8 0, .int .u8 0, .int .u8 0, .int .u8 0, .int .u8 0, .int .u8 0, .int .u8 0, .int .u8 0, .int .u8 0, .int .u8 0, .int .u8 0, .int .u8 0, .int .u8 0] 22)
  clear z32
  obtain ⟨S, hS0⟩ : ∃ S, S = lim 8 v := ⟨_, rfl⟩
  rw [← hS0]
  have hS := Lib.hid hS0
  clear hS0
  go_enter Try.func37, Try.ntmps37
  go_wp2_with fail
  generalize (w.alloc (.cells (cellsOf .u64 4 (lim 64 v)) 58)).alloc (.cells #[.int .u8 0, .int .u8 0, .int .u8 0, .int .u8 0, .int .u8 0, .int .u8 0, .int .u8 0, .int .u8 0, .int .u8 0, .int .u8 0, .int .u8 0, .int .u8 0, .int .u8 0, .int .u8 0, .int .u8 0, .int .u8 0, .int .u8 0, .int .u8 0, .int .u8 0, .int .u8 0, .int .u8 0, .int .u8 0, .int .u8 0, .int .u8 0, .int .u8 0, .int .u8 0, .int .u8 0, .int .u8 0, .int .u8 0, .int .u8 0, .int .u8 0, .int .u8 0] 22) = w1 at *
  go_loopw [3, 4] (fun _ u4 wr => ∃ i : Nat, i ≤ 32 ∧ u4 = .int .i64 i ∧ w.grownBy wr none ∧ Holds wr w.heap.size 58 .u64 4 (lim 64 v) ∧ Holds wr (w.heap.size + 1) 22 .u8 32 (fun j => if j < i then S j else 0)) (fun _ u4 _ => 32 - (intOf u4).toNat)
  case atStart => exact ⟨0, by omega, rfl, hg, hA, hB⟩
  case round =>
    clear hg hA hB
    obtain ⟨i, hi, rfl, hgr, hA, hB⟩ := hrel
    by_cases hlt : i < 32
    · have j1 : (i : Int) < 32 := by omega
      obtain ⟨q, hq⟩ : ∃ q, q = i / 8 := ⟨_, rfl⟩
      obtain ⟨r, hr⟩ : ∃ r, r = i % 8 := ⟨_, rfl⟩
      obtain ⟨p, hp⟩ : ∃ p, p = 8 * r := ⟨_, rfl⟩
      have x0 : (i : Int) / 8 = (q : Int) := by omega
      have x1 : (i : Int).tmod 8 = (r : Int) := by rw [Int.tmod_eq_emod_of_nonneg (by omega)]; omega
      have x2 : (i : Int) % 8 = (r : Int) := by omega
      have x3 : 8 * (r : Int) = (p : Int) := by omega
      have x4 : (i : Int).tdiv 8 = (q : Int) := by rw [Int.tdiv_eq_ediv_of_nonneg (by omega)]; omega
      have w3 : IntKind.i64.wrap (p : Int) = (p : Int) := by rw [IntKind.wrap_i64]; omega
      have w4 : IntKind.i64.wrap (q : Int) = (q : Int) := by rw [IntKind.wrap_i64]; omega
      have k0 : (q : Int) < 4 := by omega
      have k1 : (p : Int) < 64 := by omega
      have c0 := hA.cell q (by omega)
      have c1 := hB.cell i hlt
      have f1 := hB.frozen i
      have hval := lim_byte v i
      rw [← hq, ← hr, ← hp] at hval
      obtain ⟨u, hu⟩ : ∃ u, u = lim 8 v i := ⟨_, rfl⟩
      have HA : Hid (Holds (wr.setCell ⟨w.heap.size + 1, i, none⟩ (.int .u8 (u : Nat))) w.heap.size 58 .u64 4 (lim 64 v)) := Lib.hid (hA.setOther _ _ (by show w.heap.size ≠ w.heap.size + 1; omega))
      have HB : Hid (Holds (wr.setCell ⟨w.heap.size + 1, i, none⟩ (.int .u8 (u : Nat))) (w.heap.size + 1) 22 .u8 32 (fun j => if j < i + 1 then S j else 0)) := Lib.hid ((hB.set i u).congr (fun j hj => by
        by_cases e : j = i
        · subst e; rw [upd_same, if_pos (by omega), hu, hS.out]
        · rw [upd_other _ _ _ _ e]
          by_cases e2 : j < i
          · rw [if_pos e2, if_pos (by omega)]
          · rw [if_neg e2, if_neg (by omega)]))
      have HG : Hid (w.grownBy (wr.setCell ⟨w.heap.size + 1, i, none⟩ (.int .u8 (u : Nat))) none) := Lib.hid (grown_setCell_new hgr ⟨w.heap.size + 1, i, none⟩ (.int .u8 (u : Nat)) (Or.inl (by simp)))
      rw [← hu] at hval
      generalize lim 64 v q = x at *
      have HV : Hid ((x : Int) / 2 ^ p % 256 = (u : Int)) := Lib.hid (by
        rw [← hval]
        have e : ((2 : Int) ^ p) = ((2 ^ p : Nat) : Int) := by simp
        rw [e]
        generalize 2 ^ p = z
        rw [← Int.natCast_ediv]
        generalize x / z = y
        omega)
      clear hq hr hp hu hval hgr hA hB hi
      go_wp2_with fail
      rw [HV.out]
      exact ⟨⟨i + 1, by omega, by go_num, HG.out, HA.out, HB.out⟩, by simp [intOf]; omega⟩
    · obtain rfl : i = 32 := by omega
      have hB4 : Holds wr (w.heap.size + 1) 22 .u8 32 S := hB.congr (fun j hj => by rw [if_pos hj])
      clear hlt hi hB
      go_wp2_with (first
        | refine wpList_load_row rfl 22 (.tmp 2) rfl (w.heap.size + 1) rfl 22 _ (0, 0) (.array 32 5) hB4.block (by kernel_rfl) rfl (by rw [cellsOf_size]; kernel_rfl) ?_
        | refine wpList_store_row rfl 22 (.tmp 2) (.tmp 19) rfl (w.heap.size + 1) _ rfl rfl 22 _ hB4.block (by rw [cellsOf_size]; kernel_rfl) rfl (cellsOf_all _ _ _) ?_)
      exact bodyPost_ret (v := .agg (cellsOf .u8 32 S)) (results_cell_row rfl _ _ (w.heap.size + 1) 22 _ (0, 0) (.array 32 5) rfl (hB4.setRow .u8 32 S).block (by kernel_rfl) rfl (by rw [cellsOf_size]; kernel_rfl)) rfl ⟨rfl, grown_setRow_new hgr _ _ (Or.inl (by omega))⟩
end Go.Proofs.Ytpnddojcihdniaa
