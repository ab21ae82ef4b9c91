/-
  The hash of what is behind, block by block.
-/
import Derived.Test.YtlfopcigbgfnlaaDoorGcmBlk
import Derived.Test.YtlfopcigbgfnlaaDoorGcmCopy
import Derived.Test.YtlfopcigbgfnlaaDoorOrd3
import Derived.Great.Frames
import Derived.RangeFuncCalls
import Derived.Shelf.Abstract
import Derived.Deep.DeepCutAuto
import Derived.StillTailTactics
namespace Go.Proofs.YtlfopcigbgfnlaaDoor
open Go.RowKit Go.Shelf

set_option maxRecDepth 100000
set_option maxHeartbeats 1000000

theorem gtaken_enters (args : Array Value) (w : World) : (callFunc 14 args).run Tryd.prog w = .ok (.enter 14 args) w := enters_of Tryd.func14 (by kernel_rfl) rfl args w
theorem gplus_enters (args : Array Value) (w : World) : (callFunc 27 args).run Tryd.prog w = .ok (.enter 27 args) w := enters_of Tryd.func27 (by kernel_rfl) rfl args w
theorem gtimes_enters (args : Array Value) (w : World) : (callFunc 28 args).run Tryd.prog w = .ok (.enter 28 args) w := enters_of Tryd.func28 (by kernel_rfl) rfl args w
theorem gput_enters (args : Array Value) (w : World) : (callFunc 15 args).run Tryd.prog w = .ok (.enter 15 args) w := enters_of Tryd.func15 (by kernel_rfl) rfl args w
theorem gfold_enters (args : Array Value) (w : World) : (callFunc 13 args).run Tryd.prog w = .ok (.enter 13 args) w := enters_of Tryd.func13 (by kernel_rfl) rfl args w
/-- A block of two words, loaded. -/
theorem run_two {o : Oper} {a : Act} {W : World} {B : Nat} {f : Nat → Nat} {t : Tmp} (h : Holds W B 41 .u64 2 f) (ho : o.op = .load 41 (.tmp t)) (ha : a.eval (.tmp t) = .pointer (some ⟨B, 0, none⟩)) :
    (execOp a.eval o).run Tryd.prog W = .ok (.value (.agg (cellsOf .u64 2 f))) W := run_row 41 (.array 2 39) h ho ha (by kernel_rfl) rfl (by kernel_rfl)
theorem run_sixteen {o : Oper} {a : Act} {W : World} {B : Nat} {f : Nat → Nat} {t : Tmp} (h : Holds W B 24 .u8 16 f) (ho : o.op = .load 24 (.tmp t)) (ha : a.eval (.tmp t) = .pointer (some ⟨B, 0, none⟩)) :
    (execOp a.eval o).run Tryd.prog W = .ok (.value (.agg (cellsOf .u8 16 f))) W := run_row 24 (.array 16 5) h ho ha (by kernel_rfl) rfl (by kernel_rfl)
theorem run_newtwo {o : Oper} {a : Act} {W : World} (ho : o.op = .alloc 41) :
    (execOp a.eval o).run Tryd.prog W = .ok (.value (.pointer (some ⟨W.heap.size, 0, none⟩))) (W.alloc (.cells (cellsOf .u64 2 (fun _ => 0)) 41)) := by
  rw [show cellsOf .u64 2 (fun _ => 0) = #[.int .u64 0, .int .u64 0] from rfl]
  unfold execOp
  simp only [ho]
  go_simp
theorem run_newsixteen {o : Oper} {a : Act} {W : World} (ho : o.op = .alloc 24) :
    (execOp a.eval o).run Tryd.prog W = .ok (.value (.pointer (some ⟨W.heap.size, 0, none⟩))) (W.alloc (.cells (cellsOf .u8 16 (fun _ => 0)) 24)) := by
  rw [show cellsOf .u8 16 (fun _ => 0) = #[.int .u8 0, .int .u8 0, .int .u8 0, .int .u8 0, .int .u8 0, .int .u8 0, .int .u8 0, .int .u8 0, .int .u8 0, .int .u8 0, .int .u8 0, .int .u8 0, .int .u8 0, .int .u8 0, .int .u8 0, .int .u8 0] from rfl]
  unfold execOp
  simp only [ho]
  go_simp
/-- The next block. -/
theorem blk_next (f : Nat → Nat) (n m j : Nat) (hj : j < 16) : (if j < Nat.min (n - 16 * m) 16 then f (16 * m + j) else 0) = blkF f n m j := by
  unfold blkF
  by_cases e : 16 * m + j < n
  · rw [if_pos e, if_pos]
    simp only [Nat.min_def]
    split <;> omega
  · rw [if_neg e, if_neg]
    simp only [Nat.min_def]
    split <;> omega

theorem gfold_any (h v n c : Nat) (a : Option Addr) (f : Nat → Nat) (w : World) (hh : h < 2 ^ 128) (hf : ∀ i, f i < 256) (hR : Rd w w.heap.size a n f) (hc : n ≤ c) (hn : n ≤ 2 ^ 50) :
    Calls Tryd.prog 13 #[.agg (cellsOf .u64 2 (wd v)), .agg (cellsOf .u64 2 (wd h)), .slice a n c] w fun e w' => e = .returned (.agg (cellsOf .u64 2 (wd (fdA h v f n)))) ∧ w.grownBy w' none := by
  have hA : Holds (((w.alloc (.cells (cellsOf .u64 2 (wd v)) 41)).alloc (.cells (cellsOf .u64 2 (wd h)) 41)).alloc (.cells #[.int .u64 0, .int .u64 0] 41)) w.heap.size 41 .u64 2 (wd v) := ((holds_alloc w 41 .u64 2 (wd v) _ rfl).grown (World.grownBy_alloc _ _ none) (by simp)).grown (World.grownBy_alloc _ _ none) (by simp)
  have hB : Holds (((w.alloc (.cells (cellsOf .u64 2 (wd v)) 41)).alloc (.cells (cellsOf .u64 2 (wd h)) 41)).alloc (.cells #[.int .u64 0, .int .u64 0] 41)) (w.heap.size + 1) 41 .u64 2 (wd h) := by
    have := (holds_alloc (w.alloc (.cells (cellsOf .u64 2 (wd v)) 41)) 41 .u64 2 (wd h) _ rfl).grown (World.grownBy_alloc _ (.cells #[.int .u64 0, .int .u64 0] 41) none) (by simp)
    rwa [World.size_alloc] at this
  have hC : Holds (((w.alloc (.cells (cellsOf .u64 2 (wd v)) 41)).alloc (.cells (cellsOf .u64 2 (wd h)) 41)).alloc (.cells #[.int .u64 0, .int .u64 0] 41)) (w.heap.size + 1 + 1) 41 .u64 2 (fun _ => 0) := by
    have := holds_alloc ((w.alloc (.cells (cellsOf .u64 2 (wd v)) 41)).alloc (.cells (cellsOf .u64 2 (wd h)) 41)) 41 .u64 2 (fun _ => 0) #[.int .u64 0, .int .u64 0] rfl
    rwa [World.size_alloc, World.size_alloc] at this
  have hg := grown_alloc (grown_alloc (World.grownBy_alloc w (.cells (cellsOf .u64 2 (wd v)) 41) none) (.cells (cellsOf .u64 2 (wd h)) 41)) (.cells #[.int .u64 0, .int .u64 0] 41)
  have Hf := Lib.hid hf
  have HR := Lib.hid hR
  clear hf hR
  go_enter Tryd.func13, Tryd.ntmps13
  go_wp2_with fail
  generalize (((w.alloc (.cells (cellsOf .u64 2 (wd v)) 41)).alloc (.cells (cellsOf .u64 2 (wd h)) 41)).alloc (.cells #[.int .u64 0, .int .u64 0] 41)) = w1 at *
  go_loopw [2] (fun u2 wr => ∃ (m : Nat) (a' : Option Addr) (c' : Nat), 16 * m < n + 16 ∧ u2 = .slice a' (n - 16 * m : Nat) c' ∧ n - 16 * m ≤ c' ∧ Rd w w.heap.size a' (n - 16 * m) (fun i => f (16 * m + i)) ∧ w.grownBy wr none ∧ Holds wr w.heap.size 41 .u64 2 (wd (fdP h v f n m)) ∧ Holds wr (w.heap.size + 1) 41 .u64 2 (wd h) ∧ Holds wr (w.heap.size + 1 + 1) 41 .u64 2 (fun _ => 0)) (fun u2 _ => match u2 with | .slice _ n _ => n | _ => 0)
  case atStart => exact ⟨0, a, c, by omega, by rw [Nat.mul_zero, Nat.sub_zero], by omega, by rw [Nat.mul_zero, Nat.sub_zero]; exact HR.out.congr (fun i _ => by rw [Nat.zero_add]), hg, hA, hB, hC⟩
  case round =>
    clear hg hA hB hC HR
    obtain ⟨m, a', c', hm, rfl, hc', hRm, hgr, hA, hB, hC⟩ := hrel
    obtain ⟨L, hL⟩ : ∃ L, L = n - 16 * m := ⟨_, rfl⟩
    rw [← hL] at hRm hc' ⊢
    by_cases h0 : 0 < L
    · have j0 : (0 : Int) < L := by omega
      have j1 : (L : Int) ≤ 1125899906842624 := by omega
      have hnx : Holds (wr.alloc (.cells #[.int .u8 0, .int .u8 0, .int .u8 0, .int .u8 0, .int .u8 0, .int .u8 0, .int .u8 0, .int .u8 0, .int .u8 0, .int .u8 0, .int .u8 0, .int .u8 0, .int .u8 0, .int .u8 0, .int .u8 0, .int .u8 0] 24)) wr.heap.size 24 .u8 16 (fun _ => 0) := holds_alloc wr 24 .u8 16 (fun _ => 0) _ rfl
      have g1 := World.grownBy_alloc wr (.cells #[.int .u8 0, .int .u8 0, .int .u8 0, .int .u8 0, .int .u8 0, .int .u8 0, .int .u8 0, .int .u8 0, .int .u8 0, .int .u8 0, .int .u8 0, .int .u8 0, .int .u8 0, .int .u8 0, .int .u8 0, .int .u8 0] 24) none
      obtain ⟨k, hk⟩ : ∃ k, k = Nat.min L 16 := ⟨_, rfl⟩
      have hk1 : k ≤ L := by rw [hk]; exact Nat.min_le_left _ _
      have hk2 : k ≤ 16 := by rw [hk]; exact Nat.min_le_right _ _
      have hk3 : k = L ∨ k = 16 := by rw [hk]; simp only [Nat.min_def]; split <;> simp
      obtain ⟨tb, o, rfl, htb, hcell⟩ := hRm.ex h0
      have hcp := copy_bytes (g := fun i => f (16 * m + i)) c' hnx ((hRm.grown hgr (fun _ e => by cases e)).grown g1 (fun _ e => by cases e)) h0 k hk
      obtain ⟨a2, ha2, ht1, ht2⟩ := run_rest (Q := Tryd.prog) (T := 22) (E := 5) (by kernel_rfl) (fun _ => by kernel_rfl) tb o L c' k hk1 hc'
      have hcy := hnx.copy k (fun i => f (16 * m + i))
      have hnb : Holds ((wr.alloc (.cells #[.int .u8 0, .int .u8 0, .int .u8 0, .int .u8 0, .int .u8 0, .int .u8 0, .int .u8 0, .int .u8 0, .int .u8 0, .int .u8 0, .int .u8 0, .int .u8 0, .int .u8 0, .int .u8 0, .int .u8 0, .int .u8 0] 24)).setCells wr.heap.size 0 ((List.range k).map fun i => Value.int .u8 (f (16 * m + i) : Nat))) wr.heap.size 24 .u8 16 (blkF f n m) := hcy.congr (fun j hj => by
        have := blk_next f n m j hj
        rw [← hL, ← hk] at this
        exact this)
      have g2 := grown_setCells wr.heap.size (Or.inl (Nat.le_refl _)) ((List.range k).map fun i => Value.int .u8 (f (16 * m + i) : Nat)) 0 _ g1
      have hA2 := hA.grown g2 (by simp)
      have hB2 := hB.grown g2 (by simp)
      have hC2 := hC.grown g2 (by simp)
      have hgr2 := grown_trans hgr g2
      obtain ⟨w2, hw2⟩ : ∃ w2, w2 = (wr.alloc (.cells #[.int .u8 0, .int .u8 0, .int .u8 0, .int .u8 0, .int .u8 0, .int .u8 0, .int .u8 0, .int .u8 0, .int .u8 0, .int .u8 0, .int .u8 0, .int .u8 0, .int .u8 0, .int .u8 0, .int .u8 0, .int .u8 0] 24)).setCells wr.heap.size 0 ((List.range k).map fun i => Value.int .u8 (f (16 * m + i) : Nat)) := ⟨_, rfl⟩
      rw [← hw2] at hcp hnb hA2 hB2 hC2 hgr2
      have hlA := hA.lt
      have hlB := hB.lt
      have hU : n - 16 * (m + 1) = L - k := by omega
      have hRd : Rd w w.heap.size a2 (L - k) (fun i => f (16 * (m + 1) + i)) := ⟨fun hp => ⟨tb, o + k, ha2 (by omega), htb, fun i hi => by
        have := hcell (k + i) (by omega)
        rw [show o + k + i = o + (k + i) by omega, this, show 16 * m + (k + i) = 16 * (m + 1) + i by omega]⟩⟩
      have hm2 : 16 * (m + 1) < n + 16 := by omega
      have hLk : L - k < L := by omega
      have hck : L - k ≤ c' - k := by omega
      obtain ⟨Y, hY⟩ : ∃ Y, Y = fdP h v f n (m + 1) := ⟨_, rfl⟩
      have hY2 : gMul (fdP h v f n m ^^^ pl (blkF f n m)) h = Y := hY.symm
      have hbl : ∀ i, blkF f n m i < 256 := fun i => by
        unfold blkF
        split
        · exact Hf.out _
        · decide
      obtain ⟨X, hX⟩ : ∃ X, X = fdP h v f n m := ⟨_, rfl⟩
      obtain ⟨N, hN⟩ : ∃ N, N = blkF f n m := ⟨_, rfl⟩
      rw [← hX] at hA2
      rw [← hN] at hnb hbl
      rw [← hX, ← hN] at hY2
      obtain ⟨V0, hV0⟩ : ∃ V0, V0 = w2.drew := ⟨_, rfl⟩
      have hx : Holds V0 w.heap.size 41 .u64 2 (wd X) := by rw [hV0]; exact hA2.drew
      have hh0 : Holds V0 (w.heap.size + 1) 41 .u64 2 (wd h) := by rw [hV0]; exact hB2.drew
      have hr0 : Holds V0 (w.heap.size + 1 + 1) 41 .u64 2 (fun _ => 0) := by rw [hV0]; exact hC2.drew
      have hn0 : Holds V0 wr.heap.size 24 .u8 16 N := by rw [hV0]; exact hnb.drew
      have hgv : w.grownBy V0 none := by rw [hV0]; exact grown_drew hgr2
      have hbe : wr.heap.size ≠ w.heap.size := by omega
      have HV0 := Lib.hid hV0.symm
      have HU := Lib.hid hU
      have HRd := Lib.hid hRd
      have Hm2 := Lib.hid hm2
      have HLk := Lib.hid hLk
      have Hck := Lib.hid hck
      have HY := Lib.hid hY
      have HY2 := Lib.hid hY2
      have Hbl := Lib.hid hbl
      clear hk hk1 hk2 hk3 hm hcell hw2 hcy g2 g1 hnx hA hB hC hgr hRm hL ha2 h0 hU hRd hm2 hLk hck hY hY2 hbl hX hN hV0 hA2 hB2 hC2 hnb hgr2 hlA hlB
      go_wp2_with fail
      refine wp_region_held (S := fun W => V0.grownBy W (some w.heap.size)) (by kernel_rfl) ?_
      change wpAnyH _ _ _ _ _ 7 #[false, false, false, false, false, false, false] _ (World.drew _)
      rw [HV0.out]
      have hS0 : V0.grownBy V0 (some w.heap.size) := grown_refl V0 _
      refine wpAnyH_takeD (some 17) (i := 1) (v := .agg (cellsOf .u8 16 N)) rfl rfl (by kernel_rfl) (by kernel_rfl) (by kernel_rfl) (fun _ _ _ h => h) (Or.inl ⟨rfl, fun W hW => run_sixteen (hn0.grown hW (by simpa using hbe)) rfl rfl⟩) hS0 ?_
      simp only [Act.put, List.setIfInBounds_toArray, List.set_cons_succ, List.set_cons_zero]
      refine wpAnyH_takeD (some 20) (i := 4) (v := .agg (cellsOf .u64 2 (wd h))) rfl rfl (by kernel_rfl) (by kernel_rfl) (by kernel_rfl) (fun _ _ _ h => h) (Or.inl ⟨rfl, fun W hW => run_two (hh0.grown hW (by simp)) rfl rfl⟩) hS0 ?_
      simp only [Act.put, List.setIfInBounds_toArray, List.set_cons_succ, List.set_cons_zero]
      refine wpAnyH_both (i := 0) (j := 2) (by kernel_rfl) ?_ ?_
      · refine (op_yield (some 16) (v := .agg (cellsOf .u64 2 (wd X))) (w' := V0) rfl rfl rfl (run_two hx rfl rfl) hS0 ?_)
        simp only [Act.put, List.setIfInBounds_toArray, List.set_cons_succ, List.set_cons_zero]
        refine wpAnyH_one (i := 2) (by kernel_rfl) (op_call (some 18) 14 #[.agg (cellsOf .u8 16 N)] (.agg (cellsOf .u64 2 (wd (pl N)))) rfl rfl rfl (exec_fn1 _ _ _ rfl rfl) gtaken_enters (gtaken_any _ V0 Hbl.out) hS0 ?_)
        intro V1 gg1 hS1
        simp only [Act.put, List.setIfInBounds_toArray, List.set_cons_succ, List.set_cons_zero]
        have hx_1 := hx.grown gg1 (by simp)
        refine wpAnyH_one (i := 3) (by kernel_rfl) (op_call (some 19) 27 #[.agg (cellsOf .u64 2 (wd X)), .agg (cellsOf .u64 2 (wd (pl N)))] (.agg (cellsOf .u64 2 (wd (X ^^^ pl N)))) rfl rfl rfl (exec_fn2 _ _ _ _ _ rfl rfl rfl) gplus_enters (gplus_any _ _ V1) hS1 ?_)
        intro V2 gg2 hS2
        simp only [Act.put, List.setIfInBounds_toArray, List.set_cons_succ, List.set_cons_zero]
        have hx_2 := hx_1.grown gg2 (by simp)
        refine wpAnyH_one (i := 5) (by kernel_rfl) (op_call (some 21) 28 #[.agg (cellsOf .u64 2 (wd (X ^^^ pl N))), .agg (cellsOf .u64 2 (wd h))] (.agg (cellsOf .u64 2 (wd Y))) rfl rfl rfl (exec_fn2 _ _ _ _ _ rfl rfl rfl) gtimes_enters (by have := gtimes_any (X ^^^ pl N) h V2 hh; rw [HY2.out] at this; exact this) hS2 ?_)
        intro V3 gg3 hS3
        simp only [Act.put, List.setIfInBounds_toArray, List.set_cons_succ, List.set_cons_zero]
        have hx_3 := hx_2.grown gg3 (by simp)
        refine wpAnyH_one (i := 6) (by kernel_rfl) (op_store 41 3 21 (w.heap.size) (cellsOf .u64 2 (wd Y)) rfl rfl rfl rfl rfl rfl 41 _ (hx_3).block (by rw [cellsOf_size]; kernel_rfl) (by rw [cellsOf_size, cellsOf_size]) (cellsOf_all _ _ _) (grown_setRow_new hS3 _ _ (Or.inr rfl)) ?_)
        simp only [List.setIfInBounds_toArray, List.set_cons_succ, List.set_cons_zero]
        refine wpAnyH_done (by kernel_rfl) ?_ _
        have hgr3 := grown_setRow_new (grown_new hgv hS3 (Nat.le_refl _)) w.heap.size (cellsOf .u64 2 (wd Y)) (Or.inl (Nat.le_refl _))
        have hA3 := (hx_3).setRow .u64 2 (wd Y)
        have hB3 := (hh0.grown hS3 (by simp)).of_block (setRow_other _ w.heap.size _ (cellsOf .u64 2 (wd Y)) (by omega))
        have hC3 := (hr0.grown hS3 (by simp; omega)).of_block (setRow_other _ w.heap.size _ (cellsOf .u64 2 (wd Y)) (by omega))
        go_wp2_with fail
        exact ⟨⟨m + 1, a2, c' - k, Hm2.out, by rw [HU.out], by rw [HU.out]; exact Hck.out, by rw [HU.out]; exact HRd.out, hgr3, by rw [← HY.out]; exact hA3, hB3, hC3⟩, HLk.out⟩
      · refine (op_call (some 18) 14 #[.agg (cellsOf .u8 16 N)] (.agg (cellsOf .u64 2 (wd (pl N)))) rfl rfl rfl (exec_fn1 _ _ _ rfl rfl) gtaken_enters (gtaken_any _ V0 Hbl.out) hS0 ?_)
        intro V1 gg1 hS1
        simp only [Act.put, List.setIfInBounds_toArray, List.set_cons_succ, List.set_cons_zero]
        have hx_1 := hx.grown gg1 (by simp)
        refine wpAnyH_one (i := 0) (by kernel_rfl) (op_yield (some 16) (v := .agg (cellsOf .u64 2 (wd X))) (w' := V1) rfl rfl rfl (run_two hx_1 rfl rfl) hS1 ?_)
        simp only [Act.put, List.setIfInBounds_toArray, List.set_cons_succ, List.set_cons_zero]
        refine wpAnyH_one (i := 3) (by kernel_rfl) (op_call (some 19) 27 #[.agg (cellsOf .u64 2 (wd X)), .agg (cellsOf .u64 2 (wd (pl N)))] (.agg (cellsOf .u64 2 (wd (X ^^^ pl N)))) rfl rfl rfl (exec_fn2 _ _ _ _ _ rfl rfl rfl) gplus_enters (gplus_any _ _ V1) hS1 ?_)
        intro V2 gg2 hS2
        simp only [Act.put, List.setIfInBounds_toArray, List.set_cons_succ, List.set_cons_zero]
        have hx_2 := hx_1.grown gg2 (by simp)
        refine wpAnyH_one (i := 5) (by kernel_rfl) (op_call (some 21) 28 #[.agg (cellsOf .u64 2 (wd (X ^^^ pl N))), .agg (cellsOf .u64 2 (wd h))] (.agg (cellsOf .u64 2 (wd Y))) rfl rfl rfl (exec_fn2 _ _ _ _ _ rfl rfl rfl) gtimes_enters (by have := gtimes_any (X ^^^ pl N) h V2 hh; rw [HY2.out] at this; exact this) hS2 ?_)
        intro V3 gg3 hS3
        simp only [Act.put, List.setIfInBounds_toArray, List.set_cons_succ, List.set_cons_zero]
        have hx_3 := hx_2.grown gg3 (by simp)
        refine wpAnyH_one (i := 6) (by kernel_rfl) (op_store 41 3 21 (w.heap.size) (cellsOf .u64 2 (wd Y)) rfl rfl rfl rfl rfl rfl 41 _ (hx_3).block (by rw [cellsOf_size]; kernel_rfl) (by rw [cellsOf_size, cellsOf_size]) (cellsOf_all _ _ _) (grown_setRow_new hS3 _ _ (Or.inr rfl)) ?_)
        simp only [List.setIfInBounds_toArray, List.set_cons_succ, List.set_cons_zero]
        refine wpAnyH_done (by kernel_rfl) ?_ _
        have hgr3 := grown_setRow_new (grown_new hgv hS3 (Nat.le_refl _)) w.heap.size (cellsOf .u64 2 (wd Y)) (Or.inl (Nat.le_refl _))
        have hA3 := (hx_3).setRow .u64 2 (wd Y)
        have hB3 := (hh0.grown hS3 (by simp)).of_block (setRow_other _ w.heap.size _ (cellsOf .u64 2 (wd Y)) (by omega))
        have hC3 := (hr0.grown hS3 (by simp; omega)).of_block (setRow_other _ w.heap.size _ (cellsOf .u64 2 (wd Y)) (by omega))
        go_wp2_with fail
        exact ⟨⟨m + 1, a2, c' - k, Hm2.out, by rw [HU.out], by rw [HU.out]; exact Hck.out, by rw [HU.out]; exact HRd.out, hgr3, by rw [← HY.out]; exact hA3, hB3, hC3⟩, HLk.out⟩
    · obtain rfl : L = 0 := by omega
      have hM : m = (n + 15) / 16 := by omega
      subst hM
      have hA4 : Holds wr w.heap.size 41 .u64 2 (wd (fdA h v f n)) := hA
      clear hA hm hRm hL h0 hc'
      go_wp2_with (first
        | refine wpList_load_row rfl 41 (.tmp 3) rfl w.heap.size rfl 41 _ (0, 0) (.array 2 39) hA4.block (by kernel_rfl) rfl (by rw [cellsOf_size]; kernel_rfl) ?_
        | refine wpList_store_row rfl 41 (.tmp 6) (.tmp 22) rfl (w.heap.size + 1 + 1) _ rfl rfl 41 _ hC.block (by rw [cellsOf_size]; kernel_rfl) rfl (cellsOf_all _ _ _) ?_)
      exact bodyPost_ret (v := .agg (cellsOf .u64 2 (wd (fdA h v f n)))) (results_cell_row rfl _ _ (w.heap.size + 1 + 1) 41 _ (0, 0) (.array 2 39) rfl (hC.setRow .u64 2 (wd (fdA h v f n))).block (by kernel_rfl) rfl (by rw [cellsOf_size]; kernel_rfl)) rfl ⟨rfl, grown_setRow_new hgr _ _ (Or.inl (by omega))⟩

end Go.Proofs.YtlfopcigbgfnlaaDoor
