/-
  aes's Seal.
-/
import Derived.Test.YtlfopcigbgfnlaaDoorAesRound
import Derived.Test.YtlfopcigbgfnlaaDoorAesBlk
namespace Go.Proofs.YtlfopcigbgfnlaaDoor
open Go.RowKit

set_option maxRecDepth 100000
set_option maxHeartbeats 2000000

theorem zero16 : (#[.int .u8 0, .int .u8 0, .int .u8 0, .int .u8 0, .int .u8 0, .int .u8 0, .int .u8 0, .int .u8 0, .int .u8 0, .int .u8 0, .int .u8 0, .int .u8 0, .int .u8 0, .int .u8 0, .int .u8 0, .int .u8 0] : Array Value) = cellsOf .u8 16 (fun _ => 0) := rfl

theorem seal_any (m R : Nat) (C W s : Nat → Nat) (w : World) (hL : LaidS w 0) (hC : Ciph w m R C) (hCc : Cols (4 * (R + 1)) W C) (hs : ∀ i, s i < 256) (hW : ∀ i, W i < 256) (h1 : 1 ≤ R) (hR : R ≤ 14) :
    Calls Tryd.prog 34 #[.pointer (some ⟨m, 0, none⟩), .agg (cellsOf .u8 16 s)] w fun e w' => e = .returned (.agg (cellsOf .u8 16 (sealA R W s))) ∧ w.grownBy w' none := by
  have hA : Holds ((w.alloc (.cells (cellsOf .u8 16 s) 24)).alloc (.cells #[.int .u8 0, .int .u8 0, .int .u8 0, .int .u8 0, .int .u8 0, .int .u8 0, .int .u8 0, .int .u8 0, .int .u8 0, .int .u8 0, .int .u8 0, .int .u8 0, .int .u8 0, .int .u8 0, .int .u8 0, .int .u8 0] 24)) w.heap.size 24 .u8 16 s := (holds_alloc w 24 .u8 16 s _ rfl).of_block (by rw [heap_alloc_old]; simp)
  go_enter Tryd.func34, Tryd.ntmps34
  go_wp2_with (first
    | refine wpList_load_row rfl 24 (.tmp 3) rfl w.heap.size rfl 24 _ (0, 0) (.array 16 5) hA.block (by kernel_rfl) rfl (by rw [cellsOf_size]; kernel_rfl) ?_)
  have hO : Holds ((w.alloc (.cells (cellsOf .u8 16 s) 24)).alloc (.cells #[.int .u8 0, .int .u8 0, .int .u8 0, .int .u8 0, .int .u8 0, .int .u8 0, .int .u8 0, .int .u8 0, .int .u8 0, .int .u8 0, .int .u8 0, .int .u8 0, .int .u8 0, .int .u8 0, .int .u8 0, .int .u8 0] 24)) (w.heap.size + 1) 24 .u8 16 (fun _ => 0) := by
    have := holds_alloc (w.alloc (.cells (cellsOf .u8 16 s) 24)) 24 .u8 16 (fun _ => 0) _ zero16
    rwa [World.size_alloc] at this
  have hg0 : w.grownBy ((w.alloc (.cells (cellsOf .u8 16 s) 24)).alloc (.cells #[.int .u8 0, .int .u8 0, .int .u8 0, .int .u8 0, .int .u8 0, .int .u8 0, .int .u8 0, .int .u8 0, .int .u8 0, .int .u8 0, .int .u8 0, .int .u8 0, .int .u8 0, .int .u8 0, .int .u8 0, .int .u8 0] 24)) none := grown_alloc (World.grownBy_alloc w _ none) _
  have hz0 : ((w.alloc (.cells (cellsOf .u8 16 s) 24)).alloc (.cells #[.int .u8 0, .int .u8 0, .int .u8 0, .int .u8 0, .int .u8 0, .int .u8 0, .int .u8 0, .int .u8 0, .int .u8 0, .int .u8 0, .int .u8 0, .int .u8 0, .int .u8 0, .int .u8 0, .int .u8 0, .int .u8 0] 24)).heap.size = w.heap.size + 2 := by simp
  clear hA
  generalize ((w.alloc (.cells (cellsOf .u8 16 s) 24)).alloc (.cells #[.int .u8 0, .int .u8 0, .int .u8 0, .int .u8 0, .int .u8 0, .int .u8 0, .int .u8 0, .int .u8 0, .int .u8 0, .int .u8 0, .int .u8 0, .int .u8 0, .int .u8 0, .int .u8 0, .int .u8 0, .int .u8 0] 24)) = w0 at *
  go_at_call 49
  with_reducible refine (taken_any s _ hs).mono ?_
  rintro e w1 ⟨rfl, g1⟩
  have hO1 := hO.grown g1 (by simp)
  have hg1 := grown_trans hg0 g1
  have hs1 : w.heap.size + 2 ≤ w1.heap.size := by have := g1.size; omega
  obtain ⟨B, hB⟩ : ∃ B, B = w1.heap.size := ⟨_, rfl⟩
  have hb := heap_alloc_new w1 (.cells #[.int .u32 0, .int .u32 0, .int .u32 0, .int .u32 0] 81)
  have hbh : Holds (w1.alloc (.cells #[.int .u32 0, .int .u32 0, .int .u32 0, .int .u32 0] 81)) w1.heap.size 81 .u32 4 (fun _ => 0) := holds_alloc w1 81 .u32 4 (fun _ => 0) _ rfl
  have hH := hbh.setRow .u32 4 (colS s)
  have hO2 : Holds ((w1.alloc (.cells #[.int .u32 0, .int .u32 0, .int .u32 0, .int .u32 0] 81)).setRow w1.heap.size (cellsOf .u32 4 (colS s))) (w.heap.size + 1) 24 .u8 16 (fun _ => 0) :=
    (hO1.grown (World.grownBy_alloc w1 _ none) (by simp)).of_block (setRow_other _ _ _ _ (by omega))
  have hg2 : w.grownBy ((w1.alloc (.cells #[.int .u32 0, .int .u32 0, .int .u32 0, .int .u32 0] 81)).setRow w1.heap.size (cellsOf .u32 4 (colS s))) none := grown_setRow_new (grown_alloc hg1 _) _ _ (Or.inl (by omega))
  have HB := Lib.hid hB
  have Hz := Lib.hid hz0
  have Hs1 := Lib.hid hs1
  clear hO hg0 g1 hO1 hg1 hbh hB hz0 hs1
  go_wp2_with (refine wpList_store_row rfl 81 (.tmp 5) (.tmp 12) rfl w1.heap.size _ rfl rfl 81 _ hb (by kernel_rfl) rfl (cellsOf_all _ _ _) ?_)
  rw [← HB.out] at hH hO2 hg2 ⊢
  have hBs : w.heap.size + 2 ≤ B := by rw [HB.out]; exact Hs1.out
  generalize (w1.alloc (.cells #[.int .u32 0, .int .u32 0, .int .u32 0, .int .u32 0] 81)).setRow B (cellsOf .u32 4 (colS s)) = w3 at *
  clear hb
  go_loopw [6, 13] (fun _ u13 wr => ∃ i : Nat, i ≤ 4 ∧ u13 = .int .i64 i ∧ w.grownBy wr none ∧ Holds wr (w.heap.size + 1) 24 .u8 16 (fun _ => 0) ∧ Holds wr B 81 .u32 4 (fun j => if j < i then colS (stA R W s 0) j else colS s j)) (fun _ u13 _ => 4 - (intOf u13).toNat)
  case atStart => exact ⟨0, by omega, rfl, hg2, hO2, hH.congr (fun j _ => by rw [if_neg (by omega)])⟩
  case round =>
    clear hg2 hO2 hH
    obtain ⟨i, hi, rfl, hgr, hO, hH⟩ := hrel
    by_cases hlt : i < 4
    · have j1 : (i : Int) < 4 := by omega
      have j2 : (i : Int) < 60 := by omega
      have hCr := hC.grown hgr (by simp)
      have cK : wr.drew.cell? ⟨m, 1 + i, none⟩ = some (.int .u32 (C i : Nat)) := hCr.cols i (by omega)
      have cH : wr.drew.cell? ⟨B, i, none⟩ = some (.int .u32 ((if i < i then colS (stA R W s 0) i else colS s i : Nat) : Int)) := hH.cell i hlt
      rw [if_neg (by omega)] at cH
      have fH : wr.drew.frozen? ⟨B, i, none⟩ = false := hH.frozen i
      have hx : bits .xor .u32 ((colS s i : Nat) : Int) (C i : Int) = ((colS (stA R W s 0) i : Nat) : Int) := by
        rw [hCc.eq i (by omega)]
        have := bits_xor_u32 (colS s i) (colS W i) (colS_lt s hs i) (colS_lt W hW i)
        rw [this, colS_xor s W hs hW]
        rfl
      obtain ⟨v, hv⟩ : ∃ v, v = colS (stA R W s 0) i := ⟨_, rfl⟩
      rw [← hv] at hx
      have Hv := Lib.hid hv
      have hgd := grown_drew hgr
      have hOd := hO.drew
      have hHd := hH.drew
      clear hv hgr hO hH hCr
      go_wp2_with fail
      refine wp_region_still_tail 11 (by kernel_rfl) (by kernel_rfl) ?_
      change wpStill _ _ wr.drew (fun a' => wpList _ _ _ _ a' wr.drew) _ _
      generalize wr.drew = w2' at *
      simp only [List.take_succ_cons, List.take_zero, List.drop_succ_cons, List.drop_zero]
      repeat still_step
      refine wpStill_nil ?_
      have HA : Hid (Holds (w2'.setCell ⟨B, i, none⟩ (.int .u32 (v : Nat))) (w.heap.size + 1) 24 .u8 16 (fun _ => 0)) := Lib.hid (hOd.setOther _ _ (by show w.heap.size + 1 ≠ B; omega))
      have HB' : Hid (Holds (w2'.setCell ⟨B, i, none⟩ (.int .u32 (v : Nat))) B 81 .u32 4 (fun j => if j < i + 1 then colS (stA R W s 0) j else colS s j)) := Lib.hid ((hHd.set i v).congr (fun j hj => by
        by_cases e : j = i
        · subst e; rw [upd_same, if_pos (by omega), Hv.out]
        · rw [upd_other _ _ _ _ e]
          by_cases e2 : j < i
          · rw [if_pos e2, if_pos (by omega)]
          · rw [if_neg e2, if_neg (by omega)]))
      have HG : Hid (w.grownBy (w2'.setCell ⟨B, i, none⟩ (.int .u32 (v : Nat))) none) := Lib.hid (grown_setCell_new hgd ⟨B, i, none⟩ (.int .u32 (v : Nat)) (Or.inl (by show w.heap.size ≤ B; omega)))
      go_wp2_with fail
      first
        | exact ⟨⟨i + 1, by omega, by go_num, HG.out, HA.out, HB'.out⟩, by simp [intOf]; omega⟩
        | (go_roundw
           case rel => exact ⟨i + 1, by omega, by go_num, HG.out, HA.out, HB'.out⟩
           case measure => simp [intOf]; omega)
    · obtain rfl : i = 4 := by omega
      have hH4 : Holds wr B 81 .u32 4 (colS (stA R W s 0)) := hH.congr (fun j hj => by rw [if_pos hj])
      clear hlt hi hH
      go_wp2_with fail
      go_loopw [7] (fun u7 wq => ∃ n : Nat, 1 ≤ n ∧ n ≤ R + 1 ∧ u7 = .int .i64 n ∧ w.grownBy wq none ∧ Holds wq (w.heap.size + 1) 24 .u8 16 (fun _ => 0) ∧ Holds wq B 81 .u32 4 (colS (stA R W s (n - 1)))) (fun u7 _ => R + 1 - (intOf u7).toNat)
      case atStart => exact ⟨1, by omega, by omega, rfl, hgr, hO, hH4⟩
      case round =>
        clear hgr hO hH4
        obtain ⟨n, hn1, hn2, rfl, hgr, hO, hH⟩ := hrel
        have hCr := hC.grown hgr (by simp)
        have cr := hCr.rounds
        by_cases hnR : n ≤ R
        · have k1 : (n : Int) ≤ R := by omega
          have k2 : (n : Int) ≤ 14 := by omega
          have he : rndA (decide (n < R)) (fun j => W (16 * n + j)) (stA R W s (n - 1)) = stA R W s n := by
            obtain ⟨p, rfl⟩ : ∃ p, n = p + 1 := ⟨n - 1, by omega⟩
            rfl
          have hc := round_any m R n C W (stA R W s (n - 1)) wr (hL.grown hgr (by simp)) hCr hCc (stA_lt R W s hW hs (n - 1)) hW hn1 hnR hR
          rw [he] at hc
          have HC := Lib.hid hc
          clear hc he hCr
          go_wp2_with (refine wpList_load_row rfl 81 (.tmp 5) rfl B rfl 81 _ (0, 0) (.array 4 56) hH.block (by kernel_rfl) rfl (by rw [cellsOf_size]; kernel_rfl) ?_)
          go_at_call 50
          with_reducible refine (HC.out).mono ?_
          rintro e w5 ⟨rfl, g5⟩
          have hb5 := (hH.grown g5 (by simp)).block
          have HH5 : Hid (Holds (w5.setRow B (cellsOf .u32 4 (colS (stA R W s n)))) B 81 .u32 4 (colS (stA R W s (n + 1 - 1)))) := Lib.hid ((hH.grown g5 (by simp)).setRow .u32 4 (colS (stA R W s n)))
          have HO5 : Hid (Holds (w5.setRow B (cellsOf .u32 4 (colS (stA R W s n)))) (w.heap.size + 1) 24 .u8 16 (fun _ => 0)) := Lib.hid ((hO.grown g5 (by simp)).of_block (setRow_other _ _ _ _ (by omega)))
          have HG5 : Hid (w.grownBy (w5.setRow B (cellsOf .u32 4 (colS (stA R W s n)))) none) := Lib.hid (grown_setRow_new (grown_trans hgr g5) _ _ (Or.inl (by omega)))
          clear hH hO hgr g5 HC cr
          have cr5 : Hid ((w5.setRow B (cellsOf .u32 4 (colS (stA R W s n)))).cell? ⟨m, 0, none⟩ = some (.int .i64 R)) := Lib.hid ((hC.grown HG5.out (by simp)).rounds)
          go_wp2_with (refine wpList_store_row rfl 81 (.tmp 5) (.tmp 39) rfl B _ rfl rfl 81 _ hb5 (by rw [cellsOf_size]; kernel_rfl) rfl (cellsOf_all _ _ _) ?_)
          first
            | exact ⟨⟨n + 1, by omega, by omega, by go_num, HG5.out, HO5.out, HH5.out⟩, by simp [intOf]; omega⟩
            | (go_roundw
               case rel => first | exact ⟨n + 1, by omega, by omega, by go_num, HG5.out, HO5.out, HH5.out⟩ | ((repeat apply Exists.intro); exact ⟨⟨n + 1, by omega, by omega, by go_num, HG5.out, HO5.out, HH5.out⟩, rfl⟩)
               case measure => simp [intOf]; omega)
        · have hnE : n = R + 1 := by omega
          have k1 : (R : Int) < n := by omega
          have hHR : Holds wr B 81 .u32 4 (colS (sealA R W s)) := by
            rw [hnE] at hH
            exact hH
          have hp := put_any (sealA R W s) wr (sealA_lt R W s hW hs)
          have HP := Lib.hid hp
          clear hnE hnR hn1 hn2 hH hp hCr
          go_wp2_with (refine wpList_load_row rfl 81 (.tmp 5) rfl B rfl 81 _ (0, 0) (.array 4 56) hHR.block (by kernel_rfl) rfl (by rw [cellsOf_size]; kernel_rfl) ?_)
          go_at_call 51
          with_reducible refine (HP.out).mono ?_
          rintro e w5 ⟨rfl, g5⟩
          have hO5 := hO.grown g5 (by simp)
          have hb5 := hO5.block
          have hG5 := grown_setRow_new (grown_trans hgr g5) (w.heap.size + 1) (cellsOf .u8 16 (sealA R W s)) (Or.inl (by omega))
          clear hHR HP hgr g5 cr
          go_wp2_with (refine wpList_store_row rfl 24 (.tmp 4) (.tmp 41) rfl (w.heap.size + 1) _ rfl rfl 24 _ hb5 (by rw [cellsOf_size]; kernel_rfl) rfl (cellsOf_all _ _ _) ?_)
          exact bodyPost_ret (v := .agg (cellsOf .u8 16 (sealA R W s))) (results_cell_row rfl _ _ (w.heap.size + 1) 24 _ (0, 0) (.array 16 5) rfl (hO5.setRow .u8 16 (sealA R W s)).block (by kernel_rfl) rfl (by rw [cellsOf_size]; kernel_rfl)) rfl ⟨rfl, hG5⟩

theorem seal_nil (s : Nat → Nat) (w : World) : Calls Tryd.prog 34 #[.pointer none, .agg (cellsOf .u8 16 s)] w fun e w' => e = .returned (.agg (cellsOf .u8 16 (fun _ => 0))) ∧ w.grownBy w' none := by
  have hO : Holds ((w.alloc (.cells (cellsOf .u8 16 s) 24)).alloc (.cells #[.int .u8 0, .int .u8 0, .int .u8 0, .int .u8 0, .int .u8 0, .int .u8 0, .int .u8 0, .int .u8 0, .int .u8 0, .int .u8 0, .int .u8 0, .int .u8 0, .int .u8 0, .int .u8 0, .int .u8 0, .int .u8 0] 24)) (w.heap.size + 1) 24 .u8 16 (fun _ => 0) := by
    have := holds_alloc (w.alloc (.cells (cellsOf .u8 16 s) 24)) 24 .u8 16 (fun _ => 0) _ zero16
    rwa [World.size_alloc] at this
  have hg0 : w.grownBy ((w.alloc (.cells (cellsOf .u8 16 s) 24)).alloc (.cells #[.int .u8 0, .int .u8 0, .int .u8 0, .int .u8 0, .int .u8 0, .int .u8 0, .int .u8 0, .int .u8 0, .int .u8 0, .int .u8 0, .int .u8 0, .int .u8 0, .int .u8 0, .int .u8 0, .int .u8 0, .int .u8 0] 24)) none := grown_alloc (World.grownBy_alloc w _ none) _
  go_enter Tryd.func34, Tryd.ntmps34
  go_wp2_with (refine wpList_store_row rfl 24 (.tmp 4) (.tmp 10) rfl (w.heap.size + 1) (cellsOf .u8 16 (fun _ => 0)) rfl rfl 24 _ hO.block (by rw [cellsOf_size]; kernel_rfl) rfl (cellsOf_all _ _ _) ?_)
  exact bodyPost_ret (v := .agg (cellsOf .u8 16 (fun _ => 0))) (results_cell_row rfl _ _ (w.heap.size + 1) 24 _ (0, 0) (.array 16 5) rfl (hO.setRow .u8 16 (fun _ => 0)).block (by kernel_rfl) rfl (by rw [cellsOf_size]; kernel_rfl)) rfl ⟨rfl, grown_setRow_new hg0 _ _ (Or.inl (by omega))⟩

end Go.Proofs.YtlfopcigbgfnlaaDoor
