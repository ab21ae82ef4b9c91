/-
  A block sealed, as the document has it.
-/
import Derived.Test.YtapmpjmhcloejaaDoorRefAes1
import Derived.Test.YtapmpjmhcloejaaDoorAesSpec
import Derived.Test.YtapmpjmhcloejaaDoorMake
import Derived.Test.YtapmpjmhcloejaaDoorStr
import Derived.BigQuiet
import Derived.Deep.DeepCutAuto
import Derived.StillTailTactics
namespace Go.Proofs.YtapmpjmhcloejaaDoor
open Go.RowKit

set_option maxRecDepth 100000
set_option maxHeartbeats 2000000

theorem rseal_any (R rb gw capw ba cb : Nat) (W s : Nat → Nat) (w : World) (hR1 : 1 ≤ R) (hR2 : R ≤ 14) (hB : Rd w w.heap.size (some ⟨rb, 0, none⟩) 256 sB) (hW : Rd w w.heap.size (some ⟨gw, 0, none⟩) (16 * (R + 1)) W)
    (hs : Rd w w.heap.size (some ⟨ba, 0, none⟩) 16 s) (hWl : ∀ i, W i < 256) (hsl : ∀ i, s i < 256) :
    Calls Tryd.prog 24 #[.slice (some ⟨rb, 0, none⟩) 256 256, .slice (some ⟨gw, 0, none⟩) (16 * (R + 1) : Nat) capw, .slice (some ⟨ba, 0, none⟩) 16 cb] w
      fun e w' => ∃ r, e = .returned (.slice (some ⟨r, 0, none⟩) 16 16) ∧ Fill w' r 16 (sealA R W s) ∧ w.heap.size ≤ r ∧ w.grownBy w' none := by
  obtain ⟨c1, hm1, hF1⟩ := make_any 16 (by decide) w
  have hm1' : (Instr.makeSlice 22 (.int .i64 16) (.int .i64 16)).run Tryd.prog w = .ok (.slice (some ⟨w.heap.size, 0, none⟩) 16 16) (w.alloc (.cells c1 5)) := hm1
  have hg1 := World.grownBy_alloc w (.cells c1 5) none
  generalize w.alloc (.cells c1 5) = w1 at *
  obtain ⟨l, hl⟩ : ∃ l, l = 16 * (R + 1) := ⟨_, rfl⟩
  rw [← hl] at hW ⊢
  have q1 : ((l : Int) / 16) = ((R : Int) + 1) := by omega
  have q2 : (R : Int) ≤ 14 := by omega
  have q3 : (1 : Int) ≤ R := by omega
  have q4 : (16 : Int) ≤ l := by omega
  have Hl := Lib.hid hl
  have HB := Lib.hid hB
  have HW := Lib.hid hW
  have HS := Lib.hid hs
  have HWl := Lib.hid hWl
  have HSl := Lib.hid hsl
  clear hm1 hB hW hs hl hWl hsl
  go_enter Tryd.func24, Tryd.ntmps24
  go_wp2_with fail
  clear hm1'
  obtain ⟨r1, hr1⟩ : ∃ r1, r1 = w.heap.size := ⟨_, rfl⟩
  rw [← hr1] at hF1 ⊢
  have hr1w : w.heap.size ≤ r1 := by omega
  clear hr1
  go_loopw [9] (fun u9 wr => ∃ i : Nat, i ≤ 16 ∧ u9 = .int .i64 i ∧ Fill wr r1 16 (fun j => if j < i then stA R W s 0 j else 0) ∧ w.grownBy wr none) (fun u9 _ => 16 - (intOf u9).toNat)
  case atStart => exact ⟨0, by omega, rfl, hF1, hg1⟩
  case round =>
    clear hF1 hg1
    obtain ⟨i, hi, rfl, hF, hg⟩ := hrel
    by_cases hlt : i < 16
    · have j1 : (i : Int) < 16 := by omega
      have j3 : (i : Int) < l := by omega
      have cb := (HS.out.up (Nat.le_refl _) hg).at0 i hlt
      have cw := (HW.out.up (Nat.le_refl _) hg).at0 i (by omega)
      have cf := hF.cell i hlt
      have ff := hF.free i
      have hx := bits_xor_u8 (s i) (W i) (HSl.out i) (HWl.out i)
      have HST : Hid (stA R W s 0 i = s i ^^^ W i) := rfl
      generalize s i = x at *
      generalize W i = y at *
      have cbd : wr.drew.cell? ⟨ba, i, none⟩ = some (.int .u8 (x : Nat)) := cb
      have cwd : wr.drew.cell? ⟨gw, i, none⟩ = some (.int .u8 (y : Nat)) := cw
      have cfd : wr.drew.cell? ⟨r1, i, none⟩ = some (.int .u8 ((if i < i then stA R W s 0 i else 0 : Nat))) := cf
      have ffd : wr.drew.frozen? ⟨r1, i, none⟩ = false := ff
      have hFd := hF.drew
      have hgd := grown_drew hg
      clear cb cw cf ff hF hg
      go_wp2_with fail
      refine wp_region_still_tail 12 (by kernel_rfl) (by kernel_rfl) ?_
      change wpStill _ _ wr.drew (fun a' => wpList _ _ _ _ a' wr.drew) _ _
      generalize wr.drew = w2 at *
      simp only [List.take_succ_cons, List.take_zero, List.drop_succ_cons, List.drop_zero]
      repeat still_step
      refine wpStill_nil ?_
      have HF : Hid (Fill (w2.setCell ⟨r1, i, none⟩ (.int .u8 (x ^^^ y : Nat))) r1 16 (fun j => if j < i + 1 then stA R W s 0 j else 0)) := Lib.hid ((hFd.set i (x ^^^ y) hlt).congr (fun j hj => by
        by_cases e : j = i
        · subst e; rw [upd_same, if_pos (by omega), HST.out]
        · rw [upd_other _ _ _ _ e]
          by_cases e2 : j < i
          · rw [if_pos e2, if_pos (by omega)]
          · rw [if_neg e2, if_neg (by omega)]))
      have HG : Hid (w.grownBy (w2.setCell ⟨r1, i, none⟩ (.int .u8 (x ^^^ y : Nat))) none) := Lib.hid (grown_setCell_new hgd ⟨r1, i, none⟩ (.int .u8 (x ^^^ y : Nat)) (Or.inl hr1w))
      clear hFd hgd
      go_wp2_with fail
      first
        | exact ⟨⟨i + 1, by omega, by go_num, HF.out, HG.out⟩, by simp [intOf]; omega⟩
        | (go_roundw
           case rel => first | exact ⟨i + 1, by omega, by go_num, HF.out, HG.out⟩ | ((repeat apply Exists.intro); exact ⟨⟨i + 1, by omega, by go_num, HF.out, HG.out⟩, rfl⟩)
           case measure => simp [intOf]; omega)
    · obtain rfl : i = 16 := by omega
      have hF0 : Fill wr r1 16 (stA R W s 0) := hF.congr (fun j hj => if_pos hj)
      clear hF hlt hi
      go_wp2_with fail
      go_loopw [10, 11, 12, 13, 14, 15, 16, 17, 18, 19] (fun u10 _ _ _ _ _ _ _ _ _ wq => ∃ n : Nat, n ≤ R ∧ u10 = .int .i64 ((n : Int) + 1) ∧ Fill wq r1 16 (stA R W s n) ∧ w.grownBy wq none) (fun u10 _ _ _ _ _ _ _ _ _ _ => 20 - (intOf u10).toNat)
      case atStart => exact ⟨0, by omega, rfl, hF0, hg⟩
      case round =>
        clear hF0 hg
        obtain ⟨n, hn, rfl, hF, hg⟩ := hrel
        by_cases hnR : n < R
        · have j1 : (n : Int) + 1 ≤ R := by omega
          obtain ⟨c2, hm2, hF2⟩ := make_any 16 (by decide) wr
          have hm2' : (Instr.makeSlice 22 (.int .i64 16) (.int .i64 16)).run Tryd.prog wr = .ok (.slice (some ⟨wr.heap.size, 0, none⟩) 16 16) (wr.alloc (.cells c2 5)) := hm2
          have hFl := hF.lt (by decide)
          have hF12 := hF.grown (by decide) (World.grownBy_alloc wr (.cells c2 5) none) (by simp)
          have hg2 := grown_alloc hg (.cells c2 5)
          generalize wr.alloc (.cells c2 5) = w2 at *
          clear hm2
          go_wp2_with fail
          clear hm2'
          obtain ⟨r2, hr2⟩ : ∃ r2, r2 = wr.heap.size := ⟨_, rfl⟩
          rw [← hr2] at hF2 hFl ⊢
          have hr2w : w.heap.size ≤ r2 := by rw [hr2]; exact hg.size
          obtain ⟨S, hS⟩ : ∃ S, S = stA R W s n := ⟨_, rfl⟩
          rw [← hS] at hF12
          have hSl : ∀ i, S i < 256 := fun i => by rw [hS]; exact stA_lt R W s HWl.out HSl.out n i
          have HSt : Hid (∀ i, stA R W s (n + 1) i = rndA (decide (n + 1 < R)) (fun j => W (16 * (n + 1) + j)) S i) := Lib.hid (fun i => by rw [hS]; rfl)
          have HSS := Lib.hid hSl
          clear hr2 hg hF hS hSl
          go_loopw [12] (fun u12 wq => ∃ i : Nat, i ≤ 16 ∧ u12 = .int .i64 i ∧ Fill wq r1 16 S ∧ Fill wq r2 16 (fun j => if j < i then subShift S j else 0) ∧ w.grownBy wq none) (fun u12 _ => 16 - (intOf u12).toNat)
          case atStart => exact ⟨0, by omega, rfl, hF12, hF2, hg2⟩
          case round =>
            clear hF12 hF2 hg2
            obtain ⟨i, hi, rfl, hFa, hFb, hg⟩ := hrel
            by_cases hlt : i < 16
            · have p1 : (i : Int) < 16 := by omega
              obtain ⟨a4, ha4⟩ : ∃ m, m = i % 4 := ⟨_, rfl⟩
              have e1 : (i : Int).tmod 4 = (a4 : Int) := by rw [Int.tmod_eq_emod_of_nonneg (by omega)]; omega
              have p2 : (a4 : Int) < 4 := by omega
              obtain ⟨m, hm⟩ : ∃ m, m = (i + 4 * a4) % 16 := ⟨_, rfl⟩
              have e2 : ((i : Int) + 4 * (a4 : Int)).tmod 16 = (m : Int) := by rw [Int.tmod_eq_emod_of_nonneg (by omega)]; omega
              have p3 : (m : Int) < 16 := by omega
              have cm := hFa.cell m (by omega)
              have hsm := HSS.out m
              have HSub : Hid (subShift S i = sB (S m)) := Lib.hid (by rw [hm, ha4]; rfl)
              generalize S m = x at *
              have p4 : (x : Int) < 256 := by omega
              have cbx := (HB.out.up (Nat.le_refl _) hg).at0 x hsm
              have cf := hFb.cell i hlt
              have ff := hFb.free i
              generalize sB x = v at *
              have HFa : Hid (Fill (wr.setCell ⟨r2, i, none⟩ (.int .u8 (v : Nat))) r1 16 S) := Lib.hid (hFa.setOther _ _ (by show r1 ≠ r2; omega))
              have HFb : Hid (Fill (wr.setCell ⟨r2, i, none⟩ (.int .u8 (v : Nat))) r2 16 (fun j => if j < i + 1 then subShift S j else 0)) := Lib.hid ((hFb.set i v hlt).congr (fun j hj => by
                by_cases e : j = i
                · subst e; rw [upd_same, if_pos (by omega), HSub.out]
                · rw [upd_other _ _ _ _ e]
                  by_cases e2 : j < i
                  · rw [if_pos e2, if_pos (by omega)]
                  · rw [if_neg e2, if_neg (by omega)]))
              have HG : Hid (w.grownBy (wr.setCell ⟨r2, i, none⟩ (.int .u8 (v : Nat))) none) := Lib.hid (grown_setCell_new hg ⟨r2, i, none⟩ (.int .u8 (v : Nat)) (Or.inl hr2w))
              clear hFa hFb hg hm ha4 hsm
              go_wp2_with fail
              first
                | exact ⟨⟨i + 1, by omega, by go_num, HFa.out, HFb.out, HG.out⟩, by simp [intOf]; omega⟩
                | (go_roundw
                   case rel => first | exact ⟨i + 1, by omega, by go_num, HFa.out, HFb.out, HG.out⟩ | ((repeat apply Exists.intro); exact ⟨⟨i + 1, by omega, by go_num, HFa.out, HFb.out, HG.out⟩, rfl⟩)
                   case measure => simp [intOf]; omega)
            · obtain rfl : i = 16 := by omega
              have hFT : Fill wr r2 16 (subShift S) := hFb.congr (fun j hj => if_pos hj)
              have hFS : Fill wr r1 16 (fun j => if j < 0 then stA R W s (n + 1) j else S j) := hFa.congr (fun j hj => by rw [if_neg (by omega)])
              obtain ⟨T, hT⟩ : ∃ T, T = subShift S := ⟨_, rfl⟩
              have hTl : ∀ i, T i < 256 := fun i => by rw [hT]; exact subShift_lt S i
              rw [← hT] at hFT
              have HTl := Lib.hid hTl
              have HT := Lib.hid hT
              clear hlt hi hFb hFa hTl hT
              go_wp2_with fail
              go_loopw [13, 14, 15, 16, 17, 18, 19] (fun u13 _ _ _ _ _ _ wq => ∃ i : Nat, i ≤ 16 ∧ u13 = .int .i64 i ∧ Fill wq r2 16 T ∧ Fill wq r1 16 (fun j => if j < i then stA R W s (n + 1) j else S j) ∧ w.grownBy wq none) (fun u13 _ _ _ _ _ _ _ => 16 - (intOf u13).toNat)
              case atStart => exact ⟨0, by omega, rfl, hFT, hFS, hg⟩
              case round =>
                clear hFT hFS hg
                obtain ⟨i, hi, rfl, hFa, hFb, hg⟩ := hrel
                by_cases hlt : i < 16
                · have p1 : (i : Int) < 16 := by omega
                  obtain ⟨at4, hat4⟩ : ∃ m, m = i / 4 * 4 := ⟨_, rfl⟩
                  have e0 : (i : Int) / 4 * 4 = (at4 : Int) := by omega
                  have p0 : (at4 : Int) ≤ 12 := by omega
                  obtain ⟨m1, hm1⟩ : ∃ m, m = (i + 1) % 4 := ⟨_, rfl⟩
                  have e1 : ((i : Int) + 1).tmod 4 = (m1 : Int) := by rw [Int.tmod_eq_emod_of_nonneg (by omega)]; omega
                  have p1 : (m1 : Int) < 4 := by omega
                  have c1 := hFa.cell (at4 + m1) (by omega)
                  have l1 := HTl.out (at4 + m1)
                  obtain ⟨m2, hm2⟩ : ∃ m, m = (i + 2) % 4 := ⟨_, rfl⟩
                  have e2 : ((i : Int) + 2).tmod 4 = (m2 : Int) := by rw [Int.tmod_eq_emod_of_nonneg (by omega)]; omega
                  have p2 : (m2 : Int) < 4 := by omega
                  have c2 := hFa.cell (at4 + m2) (by omega)
                  have l2 := HTl.out (at4 + m2)
                  obtain ⟨m3, hm3⟩ : ∃ m, m = (i + 3) % 4 := ⟨_, rfl⟩
                  have e3 : ((i : Int) + 3).tmod 4 = (m3 : Int) := by rw [Int.tmod_eq_emod_of_nonneg (by omega)]; omega
                  have p3 : (m3 : Int) < 4 := by omega
                  have c3 := hFa.cell (at4 + m3) (by omega)
                  have l3 := HTl.out (at4 + m3)
                  have cw := (HW.out.up (Nat.le_refl _) hg).at0 (16 * (n + 1) + i) (by have := Hl.out; omega)
                  have hwl := HWl.out (16 * (n + 1) + i)
                  have p9 : (16 * ((n : Int) + 1) + (i : Int)) < l := by have := Hl.out; omega
                  have c0 := hFa.cell i hlt
                  have l0 := HTl.out i
                  have cf := hFb.cell i hlt
                  have ff := hFb.free i
                  have hst := HSt.out i
                  unfold rndA at hst
                  rw [← HT.out] at hst
                  unfold mixOf at hst
                  rw [show (fun j => W (16 * (n + 1) + j)) i = W (16 * (n + 1) + i) from rfl] at hst
                  rw [← hat4, ← hm1, ← hm2, ← hm3, show at4 + i % 4 = i by omega] at hst
                  generalize T i = x0 at *
                  generalize T (at4 + m1) = x1 at *
                  generalize T (at4 + m2) = x2 at *
                  generalize T (at4 + m3) = x3 at *
                  generalize W (16 * (n + 1) + i) = y at *
                  clear hm1 hm2 hm3 hat4
                  obtain ⟨z, hz⟩ : ∃ z, z = stA R W s (n + 1) i := ⟨_, rfl⟩
                  rw [← hz] at hst
                  have HZ := Lib.hid hz
                  clear hz
                  have HFin : Hid (∀ W' : World, Fill W' r2 16 T → Fill W' r1 16 (fun j => if j < i then stA R W s (n + 1) j else S j) → w.grownBy W' none →
                      Fill (W'.setCell ⟨r1, i, none⟩ (.int .u8 (z : Nat))) r2 16 T ∧ Fill (W'.setCell ⟨r1, i, none⟩ (.int .u8 (z : Nat))) r1 16 (fun j => if j < i + 1 then stA R W s (n + 1) j else S j) ∧ w.grownBy (W'.setCell ⟨r1, i, none⟩ (.int .u8 (z : Nat))) none) := Lib.hid (fun W' k1 k2 k3 =>
                    ⟨k1.setOther _ _ (by show r2 ≠ r1; omega), (k2.set i z hlt).congr (fun j hj => by
                      by_cases e : j = i
                      · subst e; rw [upd_same, if_pos (by omega), HZ.out]
                      · rw [upd_other _ _ _ _ e]
                        by_cases e2 : j < i
                        · rw [if_pos e2, if_pos (by omega)]
                        · rw [if_neg e2, if_neg (by omega)]), grown_setCell_new k3 ⟨r1, i, none⟩ (.int .u8 (z : Nat)) (Or.inl hr1w)⟩)
                  by_cases hmx : n + 1 < R
                  · have j5 : (n : Int) + 1 < R := by omega
                    rw [if_pos (by simpa using hmx), M_parts _ _ _ _ l0 l1, ← tms2 _ l0, ← tms3 _ l1] at hst
                    have la := tms_lt x0 2 l0
                    have lb := tms_lt x1 3 l1
                    have TA : Hid (∀ W, Calls Tryd.prog 21 #[.int .u8 x0, .int .u8 2] W fun e w' => e = .returned (.int .u8 (tms x0 2 : Nat)) ∧ W = w') := Lib.hid (fun W => times_any x0 2 W l0 (by decide))
                    have TB : Hid (∀ W, Calls Tryd.prog 21 #[.int .u8 x1, .int .u8 3] W fun e w' => e = .returned (.int .u8 (tms x1 3 : Nat)) ∧ W = w') := Lib.hid (fun W => times_any x1 3 W l1 (by decide))
                    generalize tms x0 2 = a at *
                    generalize tms x1 3 = b at *
                    have y1 := bits_xor_u8 a b la lb
                    have y2 := bits_xor_u8 (a ^^^ b) x2 (xor_lt256 la lb) l2
                    have y3 := bits_xor_u8 (a ^^^ b ^^^ x2) x3 (xor_lt256 (xor_lt256 la lb) l2) l3
                    have y4 := bits_xor_u8 (a ^^^ b ^^^ x2 ^^^ x3) y (xor_lt256 (xor_lt256 (xor_lt256 la lb) l2) l3) hwl
                    rw [show (a ^^^ b ^^^ x2 ^^^ x3) ^^^ y = z from hst.symm] at y4
                    generalize a ^^^ b ^^^ x2 ^^^ x3 = b3 at *
                    generalize a ^^^ b ^^^ x2 = b2 at *
                    generalize a ^^^ b = b1 at *
                    clear hst hmx
                    go_upto_region 19 with fail
                    go_quiet (fail)
                    have fin := HFin.out _ (hFa.drewN nq) (hFb.drewN nq) (grown_drewN hg nq)
                    have FIN := Lib.hid fin
                    have cfd : (wr.drewN nq).cell? ⟨r1, i, none⟩ = some (.int .u8 ((if i < i then stA R W s (n + 1) i else S i : Nat))) := cf
                    have ffd : (wr.drewN nq).frozen? ⟨r1, i, none⟩ = false := ff
                    have cwd : (wr.drewN nq).cell? ⟨gw, 16 * (n + 1) + i, none⟩ = some (.int .u8 (y : Nat)) := cw
                    clear fin hFa hFb hg cf ff cw c0 c1 c2 c3
                    generalize wr.drewN nq = w5 at *
                    go_wp2_with (first
                      | (go_at_call 21; (with_reducible refine (TA.out _).mono ?_); rintro e w' ⟨rfl, rfl⟩)
                      | (go_at_call 21; (with_reducible refine (TB.out _).mono ?_); rintro e w' ⟨rfl, rfl⟩))
                    first
                      | exact ⟨⟨i + 1, by omega, by go_num, FIN.out.1, FIN.out.2.1, FIN.out.2.2⟩, by simp [intOf]; omega⟩
                      | (go_roundw
                         case rel => first | exact ⟨i + 1, by omega, by go_num, FIN.out.1, FIN.out.2.1, FIN.out.2.2⟩ | ((repeat apply Exists.intro); exact ⟨⟨i + 1, by omega, by go_num, FIN.out.1, FIN.out.2.1, FIN.out.2.2⟩, rfl⟩)
                         case measure => simp [intOf]; omega)
                  · have j5 : (R : Int) ≤ (n : Int) + 1 := by omega
                    rw [if_neg (by simpa using hmx)] at hst
                    have y4 := bits_xor_u8 x0 y l0 hwl
                    rw [show x0 ^^^ y = z from hst.symm] at y4
                    clear hst hmx
                    go_upto_region 19 with fail
                    go_quiet (fail)
                    have fin := HFin.out _ (hFa.drewN nq) (hFb.drewN nq) (grown_drewN hg nq)
                    have FIN := Lib.hid fin
                    have cfd : (wr.drewN nq).cell? ⟨r1, i, none⟩ = some (.int .u8 ((if i < i then stA R W s (n + 1) i else S i : Nat))) := cf
                    have ffd : (wr.drewN nq).frozen? ⟨r1, i, none⟩ = false := ff
                    have cwd : (wr.drewN nq).cell? ⟨gw, 16 * (n + 1) + i, none⟩ = some (.int .u8 (y : Nat)) := cw
                    clear fin hFa hFb hg cf ff cw c0 c1 c2 c3
                    generalize wr.drewN nq = w5 at *
                    go_wp2_with fail
                    first
                      | exact ⟨⟨i + 1, by omega, by go_num, FIN.out.1, FIN.out.2.1, FIN.out.2.2⟩, by simp [intOf]; omega⟩
                      | (go_roundw
                         case rel => first | exact ⟨i + 1, by omega, by go_num, FIN.out.1, FIN.out.2.1, FIN.out.2.2⟩ | ((repeat apply Exists.intro); exact ⟨⟨i + 1, by omega, by go_num, FIN.out.1, FIN.out.2.1, FIN.out.2.2⟩, rfl⟩)
                         case measure => simp [intOf]; omega)
                · obtain rfl : i = 16 := by omega
                  go_wp2_with fail
                  go_roundw
                  case rel => exact ⟨n + 1, by omega, by go_num, hFb.congr (fun j hj => if_pos hj), hg⟩
                  case measure => simp [intOf]; omega
        · obtain rfl : n = R := by omega
          go_wp2_with fail
          go_ret
          exact ⟨r1, rfl, hF, hr1w, hg⟩

end Go.Proofs.YtapmpjmhcloejaaDoor
