/-
  Layer 6's rows, as the statements ask them: they are met.
-/
import Derived.Test.YtpnddojcihdniaaFieldPow
import Derived.Test.YtpnddojcihdniaaFieldInv
namespace Go.Proofs.Ytpnddojcihdniaa
open Go.RowKit Go.Shelf

set_option maxRecDepth 100000
set_option maxHeartbeats 4000000

theorem ofb_any (a b c : Nat) (w : World) : Calls Try.prog 27 #[.int .u8 a, .int .u8 b, .int .u8 c] w fun e w' => e = .returned (.agg (cellsOf .u8 32 (ofB a b c))) ∧ w.grownBy w' none := by
  have z32 : (#[.int .u8 0, .int .u8 0, .int .u8 0, .int .u8 0, .int .u8 0, .int .u8 0, .int .u8 0, .int .u8 0, .int .u8 0, .int .u8 0, .int .u8 0, .int .u8 0, .int .u8 0, .int .u8 0, .int .u8 0, .int .u8 0, .int .u8 0, .int .u8 0, .int .u8 0, .int .u8 0, .int .u8 0, .int .u8 0, .int .u8 0, .int .u8 0, .int .u8 0, .int .u8 0, .int .u8 0, .int .u8 0, .int .u8 0, .int .u8 0, .int .u8 0, .int .u8 0] : Array Value) = cellsOf .u8 32 (fun _ => 0) := rfl
  have hD : Holds ((w.alloc (.cells #[.int .u8 0, .int .u8 0, .int .u8 0, .int .u8 0, .int .u8 0, .int .u8 0, .int .u8 0, .int .u8 0, .int .u8 0, .int .u8 0, .int .u8 0, .int .u8 0, .int .u8 0, .int .u8 0, .int .u8 0, .int .u8 0, .int .u8 0, .int .u8 0, .int .u8 0, .int .u8 0, .int .u8 0, .int .u8 0, .int .u8 0, .int .u8 0, .int .u8 0, .int .u8 0, .int .u8 0, .int .u8 0, .int .u8 0, .int .u8 0, .int .u8 0, .int .u8 0] 22)).alloc (.cells #[.int .u8 0, .int .u8 0, .int .u8 0, .int .u8 0, .int .u8 0, .int .u8 0, .int .u8 0, .int .u8 0, .int .u8 0, .int .u8 0, .int .u8 0, .int .u8 0, .int .u8 0, .int .u8 0, .int .u8 0, .int .u8 0, .int .u8 0, .int .u8 0, .int .u8 0, .int .u8 0, .int .u8 0, .int .u8 0, .int .u8 0, .int .u8 0, .int .u8 0, .int .u8 0, .int .u8 0, .int .u8 0, .int .u8 0, .int .u8 0, .int .u8 0, .int .u8 0] 22)) w.heap.size 22 .u8 32 (fun _ => 0) := (holds_alloc w 22 .u8 32 (fun _ => 0) _ z32).of_block (by rw [heap_alloc_old]; simp)
  have hA : Holds ((w.alloc (.cells #[.int .u8 0, .int .u8 0, .int .u8 0, .int .u8 0, .int .u8 0, .int .u8 0, .int .u8 0, .int .u8 0, .int .u8 0, .int .u8 0, .int .u8 0, .int .u8 0, .int .u8 0, .int .u8 0, .int .u8 0, .int .u8 0, .int .u8 0, .int .u8 0, .int .u8 0, .int .u8 0, .int .u8 0, .int .u8 0, .int .u8 0, .int .u8 0, .int .u8 0, .int .u8 0, .int .u8 0, .int .u8 0, .int .u8 0, .int .u8 0, .int .u8 0, .int .u8 0] 22)).alloc (.cells #[.int .u8 0, .int .u8 0, .int .u8 0, .int .u8 0, .int .u8 0, .int .u8 0, .int .u8 0, .int .u8 0, .int .u8 0, .int .u8 0, .int .u8 0, .int .u8 0, .int .u8 0, .int .u8 0, .int .u8 0, .int .u8 0, .int .u8 0, .int .u8 0, .int .u8 0, .int .u8 0, .int .u8 0, .int .u8 0, .int .u8 0, .int .u8 0, .int .u8 0, .int .u8 0, .int .u8 0, .int .u8 0, .int .u8 0, .int .u8 0, .int .u8 0, .int .u8 0] 22)) (w.heap.size + 1) 22 .u8 32 (fun j => if j < 0 then b else 0) := by
    have := holds_alloc (w.alloc (.cells #[.int .u8 0, .int .u8 0, .int .u8 0, .int .u8 0, .int .u8 0, .int .u8 0, .int .u8 0, .int .u8 0, .int .u8 0, .int .u8 0, .int .u8 0, .int .u8 0, .int .u8 0, .int .u8 0, .int .u8 0, .int .u8 0, .int .u8 0, .int .u8 0, .int .u8 0, .int .u8 0, .int .u8 0, .int .u8 0, .int .u8 0, .int .u8 0, .int .u8 0, .int .u8 0, .int .u8 0, .int .u8 0, .int .u8 0, .int .u8 0, .int .u8 0, .int .u8 0] 22)) 22 .u8 32 (fun _ => 0) _ z32
    rw [World.size_alloc] at this
    exact this.congr (fun j _ => (if_neg (Nat.not_lt_zero j)).symm)
  have hg := grown_alloc (World.grownBy_alloc w (.cells #[.int .u8 0, .int .u8 0, .int .u8 0, .int .u8 0, .int .u8 0, .int .u8 0, .int .u8 0, .int .u8 0, .int .u8 0, .int .u8 0, .int .u8 0, .int .u8 0, .int .u8 0, .int .u8 0, .int .u8 0, .int .u8 0, .int .u8 0, .int .u8 0, .int .u8 0, .int .u8 0, .int .u8 0, .int .u8 0, .int .u8 0, .int .u8 0, .int .u8 0, .int .u8 0, .int .u8 0, .int .u8 0, .int .u8 0, .int .u8 0, .int .u8 0, .int .u8 0] 22) none) (.cells #[.int .u8 0, .int .u8 0, .int .u8 0, .int .u8 0, .int .u8 0, .int .u8 0, .int .u8 0, .int .u8 0, .int .u8 0, .int .u8 0, .int .u8 0, .int .u8 0, .int .u8 0, .int .u8 0, .int .u8 0, .int .u8 0, .int .u8 0, .int .u8 0, .int .u8 0, .int .u8 0, .int .u8 0, .int .u8 0, .int .u8 0, .int .u8 0, .int .u8 0, .int .u8 0, .int .u8 0, .int .u8 0, .int .u8 0, .int .u8 0, .int .u8 0, .int .u8 0] 22)
  clear z32
  obtain ⟨S, hS0⟩ : ∃ S, S = ofB a b c := ⟨_, rfl⟩
  rw [← hS0]
  have hS := Lib.hid hS0
  clear hS0
  go_enter Try.func27, Try.ntmps27
  go_wp2_with fail
  generalize (w.alloc (.cells #[.int .u8 0, .int .u8 0, .int .u8 0, .int .u8 0, .int .u8 0, .int .u8 0, .int .u8 0, .int .u8 0, .int .u8 0, .int .u8 0, .int .u8 0, .int .u8 0, .int .u8 0, .int .u8 0, .int .u8 0, .int .u8 0, .int .u8 0, .int .u8 0, .int .u8 0, .int .u8 0, .int .u8 0, .int .u8 0, .int .u8 0, .int .u8 0, .int .u8 0, .int .u8 0, .int .u8 0, .int .u8 0, .int .u8 0, .int .u8 0, .int .u8 0, .int .u8 0] 22)).alloc (.cells #[.int .u8 0, .int .u8 0, .int .u8 0, .int .u8 0, .int .u8 0, .int .u8 0, .int .u8 0, .int .u8 0, .int .u8 0, .int .u8 0, .int .u8 0, .int .u8 0, .int .u8 0, .int .u8 0, .int .u8 0, .int .u8 0, .int .u8 0, .int .u8 0, .int .u8 0, .int .u8 0, .int .u8 0, .int .u8 0, .int .u8 0, .int .u8 0, .int .u8 0, .int .u8 0, .int .u8 0, .int .u8 0, .int .u8 0, .int .u8 0, .int .u8 0, .int .u8 0] 22) = w1 at *
  go_loopw [8, 9] (fun _ u9 wr => ∃ i : Nat, i ≤ 32 ∧ u9 = .int .i64 i ∧ w.grownBy wr none ∧ Holds wr w.heap.size 22 .u8 32 (fun _ => 0) ∧ Holds wr (w.heap.size + 1) 22 .u8 32 (fun j => if j < i then b else 0)) (fun _ u9 _ => 32 - (intOf u9).toNat)
  case atStart => exact ⟨0, by omega, rfl, hg, hD, hA⟩
  case round =>
    clear hg hA hD
    obtain ⟨i, hi, rfl, hgr, hD, hA⟩ := hrel
    by_cases hlt : i < 32
    · have j1 : (i : Int) < 32 := by omega
      have c1 := hA.cell i hlt
      have f1 := hA.frozen i
      have HD : Hid (Holds (wr.setCell ⟨w.heap.size + 1, i, none⟩ (.int .u8 (b : Nat))) w.heap.size 22 .u8 32 (fun _ => 0)) := Lib.hid (hD.setOther _ _ (by show w.heap.size ≠ w.heap.size + 1; omega))
      have HA : Hid (Holds (wr.setCell ⟨w.heap.size + 1, i, none⟩ (.int .u8 (b : Nat))) (w.heap.size + 1) 22 .u8 32 (fun j => if j < i + 1 then b else 0)) := Lib.hid ((hA.set i b).congr (fun j hj => by
        by_cases e : j = i
        · subst e; rw [upd_same, if_pos (by omega)]
        · rw [upd_other _ _ _ _ e]
          by_cases e2 : j < i
          · rw [if_pos e2, if_pos (by omega)]
          · rw [if_neg e2, if_neg (by omega)]))
      have HG : Hid (w.grownBy (wr.setCell ⟨w.heap.size + 1, i, none⟩ (.int .u8 (b : Nat))) none) := Lib.hid (grown_setCell_new hgr ⟨w.heap.size + 1, i, none⟩ (.int .u8 (b : Nat)) (Or.inl (by simp)))
      clear hgr hA hD hi
      go_wp2_with fail
      exact ⟨⟨i + 1, by omega, by go_num, HG.out, HD.out, HA.out⟩, by simp [intOf]; omega⟩
    · obtain rfl : i = 32 := by omega
      have h1 := hA.set 0 a
      have h2 := (h1.set 31 c).congr (g := S) (fun j hj => by
        rw [hS.out]
        unfold ofB
        by_cases e : j = 31
        · subst e; rw [upd_same, if_neg (by decide), if_pos rfl]
        · rw [upd_other _ _ _ _ e]
          by_cases e2 : j = 0
          · subst e2; rw [upd_same, if_pos rfl]
          · rw [upd_other _ _ _ _ e2, if_pos hj, if_neg e2, if_neg e])
      have hD2 := (hD.setOther ⟨w.heap.size + 1, 0, none⟩ (.int .u8 (a : Nat)) (by show w.heap.size ≠ w.heap.size + 1; omega)).setOther ⟨w.heap.size + 1, 31, none⟩ (.int .u8 (c : Nat)) (by show w.heap.size ≠ w.heap.size + 1; omega)
      have hg2 := grown_setCell_new (grown_setCell_new hgr ⟨w.heap.size + 1, 0, none⟩ (.int .u8 (a : Nat)) (Or.inl (by simp))) ⟨w.heap.size + 1, 31, none⟩ (.int .u8 (c : Nat)) (Or.inl (by simp))
      have c0 := hA.cell 0 (by decide)
      have f0 := hA.frozen 0
      have c31 := h1.cell 31 (by decide)
      have f31 := h1.frozen 31
      have H2 := Lib.hid h2
      have HD2 := Lib.hid hD2
      have HG2 := Lib.hid hg2
      clear hlt hi hA hD h1 h2 hD2 hg2 hgr
      go_upto_region 8 with fail
      clear c0 f0 c31 f31
      have h2 := H2.out
      have hD2 := HD2.out
      have hg2 := HG2.out
      generalize (wr.setCell ⟨w.heap.size + 1, 0, none⟩ (.int .u8 (a : Nat))).setCell ⟨w.heap.size + 1, 31, none⟩ (.int .u8 (c : Nat)) = w2 at *
      clear H2 HD2 HG2
      go_wp2_with (first
        | refine wpList_load_row rfl 22 (.tmp 7) rfl (w.heap.size + 1) rfl 22 _ (0, 0) (.array 32 5) h2.block (by kernel_rfl) rfl (by rw [cellsOf_size]; kernel_rfl) ?_
        | refine wpList_store_row rfl 22 (.tmp 6) (.tmp 20) rfl w.heap.size _ rfl rfl 22 _ hD2.block (by rw [cellsOf_size]; kernel_rfl) rfl (cellsOf_all _ _ _) ?_)
      exact bodyPost_ret (res_row rfl rfl (hD2.setRow .u8 32 S) (by kernel_rfl) (by kernel_rfl)) rfl ⟨rfl, grown_setRow_new hg2 _ _ (Or.inl (Nat.le_refl _))⟩

theorem small_enters (args : Array Value) (w : World) : (callFunc 15 args).run Try.prog w = .ok (.enter 15 args) w := enters_of Try.func15 (by kernel_rfl) rfl args w
theorem sub_enters (args : Array Value) (w : World) : (callFunc 11 args).run Try.prog w = .ok (.enter 11 args) w := enters_of Try.func11 (by kernel_rfl) rfl args w
theorem ofb_enters (args : Array Value) (w : World) : (callFunc 27 args).run Try.prog w = .ok (.enter 27 args) w := enters_of Try.func27 (by kernel_rfl) rfl args w
theorem of_enters (args : Array Value) (w : World) : (callFunc 7 args).run Try.prog w = .ok (.enter 7 args) w := enters_of Try.func7 (by kernel_rfl) rfl args w
theorem inverse_enters (args : Array Value) (w : World) : (callFunc 28 args).run Try.prog w = .ok (.enter 28 args) w := enters_of Try.func28 (by kernel_rfl) rfl args w
theorem add_enters (args : Array Value) (w : World) : (callFunc 9 args).run Try.prog w = .ok (.enter 9 args) w := enters_of Try.func9 (by kernel_rfl) rfl args w
theorem mul_enters (args : Array Value) (w : World) : (callFunc 13 args).run Try.prog w = .ok (.enter 13 args) w := enters_of Try.func13 (by kernel_rfl) rfl args w
theorem is_enters (args : Array Value) (w : World) : (callFunc 19 args).run Try.prog w = .ok (.enter 19 args) w := enters_of Try.func19 (by kernel_rfl) rfl args w

theorem known06 (w : World) : Calls Try.prog 6 #[] w (SaysYes w) := by
  have i2 := is5_small 2 (by decide)
  have i3 := is5_small 3 (by decide)
  have HS2 := Lib.hid (small_any 2 (by decide))
  have HS3 := Lib.hid (small_any 3 (by decide))
  have HSub := Lib.hid (sub_any i2 i3)
  have HB1 := Lib.hid (bytes_any (i2.sub i3))
  have HO1 := Lib.hid (ofb_any 236 255 127)
  have HO2 := Lib.hid (ofb_any 237 255 127)
  have HO3 := Lib.hid (ofb_any 255 255 255)
  have HO4 := Lib.hid (ofb_any 247 255 63)
  have l2 := ofB_lt 237 255 127 (by decide) (by decide) (by decide)
  have l3 := ofB_lt 255 255 255 (by decide) (by decide) (by decide)
  have HF2 := Lib.hid (of_any (ofB 237 255 127) l2)
  have HF3 := Lib.hid (of_any (ofB 255 255 255) l3)
  have HB2 := Lib.hid (bytes_any (is5_of (ofB 237 255 127) l2))
  have HB3 := Lib.hid (bytes_any (is5_of (ofB 255 255 255) l3))
  have HI := Lib.hid (inverse_any i2)
  have HB4 := Lib.hid (bytes_any i2.inv)
  have e1 : eqN 32 (lim 8 (fSub 2 3)) (ofB 236 255 127) = true := row_sub
  have e2 : eqN 32 (lim 8 (ofV (ofB 237 255 127))) (fun _ => 0) = true := row_p
  have e3 : eqN 32 (lim 8 (ofV (ofB 255 255 255))) (fun i => if i = 0 then 18 else 0) = true := row_ff
  have e4 : eqN 32 (lim 8 (fInv 2)) (ofB 247 255 63) = true := row_two
  clear i2 i3 l2 l3
  obtain ⟨sb, hsb⟩ : ∃ x, x = subL (smL 2) (smL 3) := ⟨_, rfl⟩
  rw [← hsb] at HSub HB1
  clear hsb
  obtain ⟨iv, hiv⟩ : ∃ x, x = invL (smL 2) := ⟨_, rfl⟩
  rw [← hiv] at HI HB4
  clear hiv
  obtain ⟨s2, hs2⟩ : ∃ x, x = smL 2 := ⟨_, rfl⟩
  rw [← hs2] at HS2 HSub HI
  clear hs2
  obtain ⟨s3, hs3⟩ : ∃ x, x = smL 3 := ⟨_, rfl⟩
  rw [← hs3] at HS3 HSub
  clear hs3
  obtain ⟨y1, hy1⟩ : ∃ x, x = lim 8 (fSub 2 3) := ⟨_, rfl⟩
  rw [← hy1] at HB1 e1
  clear hy1
  obtain ⟨y2, hy2⟩ : ∃ x, x = lim 8 (ofV (ofB 237 255 127)) := ⟨_, rfl⟩
  rw [← hy2] at HB2 e2
  clear hy2
  obtain ⟨y3, hy3⟩ : ∃ x, x = lim 8 (ofV (ofB 255 255 255)) := ⟨_, rfl⟩
  rw [← hy3] at HB3 e3
  clear hy3
  obtain ⟨y4, hy4⟩ : ∃ x, x = lim 8 (fInv 2) := ⟨_, rfl⟩
  rw [← hy4] at HB4 e4
  clear hy4
  obtain ⟨o2, ho2⟩ : ∃ x, x = ofL (ofB 237 255 127) := ⟨_, rfl⟩
  rw [← ho2] at HF2 HB2
  clear ho2
  obtain ⟨o3, ho3⟩ : ∃ x, x = ofL (ofB 255 255 255) := ⟨_, rfl⟩
  rw [← ho3] at HF3 HB3
  clear ho3
  obtain ⟨b1, hb1⟩ : ∃ x, x = ofB 236 255 127 := ⟨_, rfl⟩
  rw [← hb1] at HO1 e1
  clear hb1
  obtain ⟨b2, hb2⟩ : ∃ x, x = ofB 237 255 127 := ⟨_, rfl⟩
  rw [← hb2] at HO2 HF2
  clear hb2
  obtain ⟨b3, hb3⟩ : ∃ x, x = ofB 255 255 255 := ⟨_, rfl⟩
  rw [← hb3] at HO3 HF3
  clear hb3
  obtain ⟨b4, hb4⟩ : ∃ x, x = ofB 247 255 63 := ⟨_, rfl⟩
  rw [← hb4] at HO4 e4
  clear hb4
  have E1 := Lib.hid e1
  have E2 := Lib.hid e2
  have E3 := Lib.hid e3
  have E4 := Lib.hid e4
  clear e1 e2 e3 e4
  go_enter Try.func6, Try.ntmps6
  go_wp2_with fail
  go_at_call 15
  refine (HS2.out _).mono ?_
  rintro e U ⟨rfl, gU⟩
  have hL0 := holds_alloc U 28 .u64 5 (fun _ => 0) #[.int .u64 0, .int .u64 0, .int .u64 0, .int .u64 0, .int .u64 0] rfl
  have gg := World.grownBy_alloc U (.cells #[.int .u64 0, .int .u64 0, .int .u64 0, .int .u64 0, .int .u64 0] 28) none
  have hUs := gU.size
  go_upto_region 2 with (refine wpList_store_row rfl 28 (.tmp 1) (.tmp 2) rfl U.heap.size _ rfl rfl 28 _ hL0.block (by rw [cellsOf_size]; kernel_rfl) rfl (cellsOf_all _ _ _) ?_)
  have hA := hL0.setRow .u64 5 s2
  have gr := grown_setRow_new (grown_trans gU gg) U.heap.size (cellsOf .u64 5 s2) (Or.inl hUs)
  generalize (U.alloc (.cells #[.int .u64 0, .int .u64 0, .int .u64 0, .int .u64 0, .int .u64 0] 28)).setRow U.heap.size (cellsOf .u64 5 s2) = w1 at *
  generalize U.heap.size = bn at *
  clear hL0 gg gU hUs
  refine wp_region_quiet (C := fun W => w1.grownBy W none) (by kernel_rfl) (by kernel_rfl) (grown_drew (grown_refl w1 none)) ?_
  refine wpQ_val (some 3) (v := .agg (cellsOf .u64 5 s2)) rfl rfl (fun W hW => run_num (hA.grown hW (by simp)) rfl rfl) ?_
  simp only [Act.put, List.setIfInBounds_toArray, List.set_cons_succ, List.set_cons_zero]
  refine wpQ_call (some 4) 15 #[.int .u32 (3 : Nat)] (v := .agg (cellsOf .u64 5 s3)) rfl rfl (exec_fn1 _ _ _ rfl rfl) small_enters (fun W hW => (HS3.out W).mono fun e w' h => ⟨h.1, grown_trans hW h.2⟩) ?_
  simp only [Act.put, List.setIfInBounds_toArray, List.set_cons_succ, List.set_cons_zero]
  refine wpQ_call (some 5) 11 #[.agg (cellsOf .u64 5 s2), .agg (cellsOf .u64 5 s3)] (v := .agg (cellsOf .u64 5 sb)) rfl rfl (exec_fn2 _ _ _ _ _ rfl rfl rfl) sub_enters (fun W hW => (HSub.out W).mono fun e w' h => ⟨h.1, grown_trans hW h.2⟩) ?_
  simp only [Act.put, List.setIfInBounds_toArray, List.set_cons_succ, List.set_cons_zero]
  refine wpQ_call (some 6) 17 #[.agg (cellsOf .u64 5 sb)] (v := .agg (cellsOf .u8 32 y1)) rfl rfl (exec_fn1 _ _ _ rfl rfl) bytes_enters (fun W hW => (HB1.out W).mono fun e w' h => ⟨h.1, grown_trans hW h.2⟩) ?_
  simp only [Act.put, List.setIfInBounds_toArray, List.set_cons_succ, List.set_cons_zero]
  refine wpQ_call (some 7) 27 #[.int .u8 (236 : Nat), .int .u8 (255 : Nat), .int .u8 (127 : Nat)] (v := .agg (cellsOf .u8 32 b1)) rfl rfl (exec_fn3 _ _ _ _ _ _ _ rfl rfl rfl rfl) ofb_enters (fun W hW => (HO1.out W).mono fun e w' h => ⟨h.1, grown_trans hW h.2⟩) ?_
  simp only [Act.put, List.setIfInBounds_toArray, List.set_cons_succ, List.set_cons_zero]
  refine wpQ_val (some 8) (v := .bool true) rfl rfl (fun W _ => by rw [← E1.out]; exact run_eql32 6 7 y1 b1 rfl rfl rfl) ?_
  simp only [Act.put, List.setIfInBounds_toArray, List.set_cons_succ, List.set_cons_zero]
  refine wpQ_val (some 9) (v := .bool true) rfl rfl (fun _ _ => rfl) ?_
  simp only [Act.put, List.setIfInBounds_toArray, List.set_cons_succ, List.set_cons_zero]
  refine wpQ_call (some 10) 27 #[.int .u8 (237 : Nat), .int .u8 (255 : Nat), .int .u8 (127 : Nat)] (v := .agg (cellsOf .u8 32 b2)) rfl rfl (exec_fn3 _ _ _ _ _ _ _ rfl rfl rfl rfl) ofb_enters (fun W hW => (HO2.out W).mono fun e w' h => ⟨h.1, grown_trans hW h.2⟩) ?_
  simp only [Act.put, List.setIfInBounds_toArray, List.set_cons_succ, List.set_cons_zero]
  refine wpQ_call (some 11) 7 #[.agg (cellsOf .u8 32 b2)] (v := .agg (cellsOf .u64 5 o2)) rfl rfl (exec_fn1 _ _ _ rfl rfl) of_enters (fun W hW => (HF2.out W).mono fun e w' h => ⟨h.1, grown_trans hW h.2⟩) ?_
  simp only [Act.put, List.setIfInBounds_toArray, List.set_cons_succ, List.set_cons_zero]
  refine wpQ_call (some 12) 17 #[.agg (cellsOf .u64 5 o2)] (v := .agg (cellsOf .u8 32 y2)) rfl rfl (exec_fn1 _ _ _ rfl rfl) bytes_enters (fun W hW => (HB2.out W).mono fun e w' h => ⟨h.1, grown_trans hW h.2⟩) ?_
  simp only [Act.put, List.setIfInBounds_toArray, List.set_cons_succ, List.set_cons_zero]
  refine wpQ_val (some 13) (v := .agg (cellsOf .u8 32 (fun _ => 0))) rfl rfl (fun W _ => by kernel_rfl) ?_
  simp only [Act.put, List.setIfInBounds_toArray, List.set_cons_succ, List.set_cons_zero]
  refine wpQ_val (some 14) (v := .bool true) rfl rfl (fun W _ => by rw [← E2.out]; exact run_eql32 12 13 y2 _ rfl rfl rfl) ?_
  simp only [Act.put, List.setIfInBounds_toArray, List.set_cons_succ, List.set_cons_zero]
  refine wpQ_val (some 15) (v := .bool true) rfl rfl (fun _ _ => rfl) ?_
  simp only [Act.put, List.setIfInBounds_toArray, List.set_cons_succ, List.set_cons_zero]
  refine wpQ_val (some 16) (v := .bool true) rfl rfl (fun _ _ => rfl) ?_
  simp only [Act.put, List.setIfInBounds_toArray, List.set_cons_succ, List.set_cons_zero]
  refine wpQ_call (some 17) 27 #[.int .u8 (255 : Nat), .int .u8 (255 : Nat), .int .u8 (255 : Nat)] (v := .agg (cellsOf .u8 32 b3)) rfl rfl (exec_fn3 _ _ _ _ _ _ _ rfl rfl rfl rfl) ofb_enters (fun W hW => (HO3.out W).mono fun e w' h => ⟨h.1, grown_trans hW h.2⟩) ?_
  simp only [Act.put, List.setIfInBounds_toArray, List.set_cons_succ, List.set_cons_zero]
  refine wpQ_call (some 18) 7 #[.agg (cellsOf .u8 32 b3)] (v := .agg (cellsOf .u64 5 o3)) rfl rfl (exec_fn1 _ _ _ rfl rfl) of_enters (fun W hW => (HF3.out W).mono fun e w' h => ⟨h.1, grown_trans hW h.2⟩) ?_
  simp only [Act.put, List.setIfInBounds_toArray, List.set_cons_succ, List.set_cons_zero]
  refine wpQ_call (some 19) 17 #[.agg (cellsOf .u64 5 o3)] (v := .agg (cellsOf .u8 32 y3)) rfl rfl (exec_fn1 _ _ _ rfl rfl) bytes_enters (fun W hW => (HB3.out W).mono fun e w' h => ⟨h.1, grown_trans hW h.2⟩) ?_
  simp only [Act.put, List.setIfInBounds_toArray, List.set_cons_succ, List.set_cons_zero]
  refine wpQ_val (some 20) (v := .agg (cellsOf .u8 32 (fun i => if i = 0 then 18 else 0))) rfl rfl (fun W _ => by kernel_rfl) ?_
  simp only [Act.put, List.setIfInBounds_toArray, List.set_cons_succ, List.set_cons_zero]
  refine wpQ_val (some 21) (v := .bool true) rfl rfl (fun W _ => by rw [← E3.out]; exact run_eql32 19 20 y3 _ rfl rfl rfl) ?_
  simp only [Act.put, List.setIfInBounds_toArray, List.set_cons_succ, List.set_cons_zero]
  refine wpQ_val (some 22) (v := .bool true) rfl rfl (fun _ _ => rfl) ?_
  simp only [Act.put, List.setIfInBounds_toArray, List.set_cons_succ, List.set_cons_zero]
  refine wpQ_val (some 23) (v := .bool true) rfl rfl (fun _ _ => rfl) ?_
  simp only [Act.put, List.setIfInBounds_toArray, List.set_cons_succ, List.set_cons_zero]
  refine wpQ_val (some 24) (v := .agg (cellsOf .u64 5 s2)) rfl rfl (fun W hW => run_num (hA.grown hW (by simp)) rfl rfl) ?_
  simp only [Act.put, List.setIfInBounds_toArray, List.set_cons_succ, List.set_cons_zero]
  refine wpQ_call (some 25) 28 #[.agg (cellsOf .u64 5 s2)] (v := .agg (cellsOf .u64 5 iv)) rfl rfl (exec_fn1 _ _ _ rfl rfl) inverse_enters (fun W hW => (HI.out W).mono fun e w' h => ⟨h.1, grown_trans hW h.2⟩) ?_
  simp only [Act.put, List.setIfInBounds_toArray, List.set_cons_succ, List.set_cons_zero]
  refine wpQ_call (some 26) 17 #[.agg (cellsOf .u64 5 iv)] (v := .agg (cellsOf .u8 32 y4)) rfl rfl (exec_fn1 _ _ _ rfl rfl) bytes_enters (fun W hW => (HB4.out W).mono fun e w' h => ⟨h.1, grown_trans hW h.2⟩) ?_
  simp only [Act.put, List.setIfInBounds_toArray, List.set_cons_succ, List.set_cons_zero]
  refine wpQ_call (some 27) 27 #[.int .u8 (247 : Nat), .int .u8 (255 : Nat), .int .u8 (63 : Nat)] (v := .agg (cellsOf .u8 32 b4)) rfl rfl (exec_fn3 _ _ _ _ _ _ _ rfl rfl rfl rfl) ofb_enters (fun W hW => (HO4.out W).mono fun e w' h => ⟨h.1, grown_trans hW h.2⟩) ?_
  simp only [Act.put, List.setIfInBounds_toArray, List.set_cons_succ, List.set_cons_zero]
  refine wpQ_val (some 28) (v := .bool true) rfl rfl (fun W _ => by rw [← E4.out]; exact run_eql32 26 27 y4 b4 rfl rfl rfl) ?_
  simp only [Act.put, List.setIfInBounds_toArray, List.set_cons_succ, List.set_cons_zero]
  refine wpQ_val (some 29) (v := .bool true) rfl rfl (fun _ _ => rfl) ?_
  simp only [Act.put, List.setIfInBounds_toArray, List.set_cons_succ, List.set_cons_zero]
  refine wpQ_val (some 0) (v := .bool true) rfl rfl (fun _ _ => rfl) ?_
  simp only [Act.put, List.setIfInBounds_toArray, List.set_cons_zero]
  refine wpQuiet_nil ?_
  intro W hW
  go_wp2_with fail
  go_ret
  exact ⟨⟨rfl, grown_trans gr hW⟩⟩
end Go.Proofs.Ytpnddojcihdniaa
