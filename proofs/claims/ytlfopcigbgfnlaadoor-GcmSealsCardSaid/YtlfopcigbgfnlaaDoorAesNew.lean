/-
  aes's New.
-/
import Derived.Test.YtlfopcigbgfnlaaDoorAesFill
namespace Go.Proofs.YtlfopcigbgfnlaaDoor
open Go.RowKit

set_option maxRecDepth 100000
set_option maxHeartbeats 1000000

theorem new_err (L c : Nat) (a : Option Addr) (w : World) (h1 : L ≠ 16) (h2 : L ≠ 32) : Calls Tryd.prog 16 #[.slice a L c] w fun e w' => e = .returned (.tuple #[.pointer none, .int .i64 2]) ∧ w = w' := by
  have e1 : ((L : Int) != 16) = true := by rw [bne_iff_ne]; omega
  have e2 : ((L : Int) != 32) = true := by rw [bne_iff_ne]; omega
  clear h1 h2
  go_enter Tryd.func16, Tryd.ntmps16
  go_wp2
  go_ret2
  exact ⟨rfl, rfl⟩

/-- A new cipher. -/
structure Newc (w : World) (N : Nat) (key : Nat → Nat) (e : Ending) (w' : World) : Prop where
  ex : ∃ m C, e = .returned (.tuple #[.pointer (some ⟨m, 0, none⟩), .int .i64 0]) ∧ w.heap.size ≤ m ∧ w.grownBy w' none ∧ Ciph w' m (N + 6) C ∧ Cols (4 * (N + 7)) (keyW N key) C

theorem ciph_of_cells {w : World} {m R : Nat} (h : w.heap[m]? = some (.cells (Value.int .i64 R :: List.replicate 60 (Value.int .u32 0)).toArray 59 (0, 0))) : Ciph w m R (fun _ => 0) where
  rounds := by rw [cell_of_row w m 0 _ 59 (0, 0) h]; rfl
  cols := fun j hj => by
    rw [cell_of_row w m _ _ 59 (0, 0) h, List.getElem?_toArray, show 1 + j = j + 1 by omega, List.getElem?_cons_succ, List.getElem?_replicate, if_pos hj]
    rfl
  free := fun i => frozen_of_row w m i _ 59 h
  lt := by
    by_cases hlt : m < w.heap.size
    · exact hlt
    · have hn : w.heap[m]? = none := by simp; omega
      simp [hn] at h

theorem new_ok (N L c : Nat) (a : Option Addr) (key : Nat → Nat) (w : World) (hL : LaidS w 0) (hN : N = 4 ∨ N = 8) (hLN : L = 4 * N) (hR : Rd w w.heap.size a L key) (hk : ∀ i, key i < 256) (hsz : 0 < w.heap.size) :
    Calls Tryd.prog 16 #[.slice a L c] w (Newc w N key) := by
  have n1 : (4 : Int) ≤ N := by omega
  have n2 : (N : Int) ≤ 8 := by omega
  have q1 : ((L : Int) / 4) = (N : Int) := by omega
  have hne : (((L : Int) != 16) = false) ∨ (((L : Int) != 16) = true ∧ ((L : Int) != 32) = false) := by
    rcases hN with h | h
    · left; rw [hLN, h]; rfl
    · right; rw [hLN, h]; exact ⟨rfl, rfl⟩
  obtain ⟨tb, o, rfl, htb, hcell⟩ := hR.ex (by omega)
  have HL := Lib.hid hLN
  have HN := Lib.hid hN
  have i0 : (0 : Int) ≤ L := by omega
  clear hR hLN hN
  rcases hne with hne | ⟨hne1, hne2⟩
  all_goals
    go_enter Tryd.func16, Tryd.ntmps16
    go_wp2_with fail
    have hb : (w.alloc (.cells #[.int .i64 ((N : Int) + 6), .int .u32 0, .int .u32 0, .int .u32 0, .int .u32 0, .int .u32 0, .int .u32 0, .int .u32 0, .int .u32 0, .int .u32 0, .int .u32 0, .int .u32 0, .int .u32 0, .int .u32 0, .int .u32 0, .int .u32 0, .int .u32 0, .int .u32 0, .int .u32 0, .int .u32 0, .int .u32 0, .int .u32 0, .int .u32 0, .int .u32 0, .int .u32 0, .int .u32 0, .int .u32 0, .int .u32 0, .int .u32 0, .int .u32 0, .int .u32 0, .int .u32 0, .int .u32 0, .int .u32 0, .int .u32 0, .int .u32 0, .int .u32 0, .int .u32 0, .int .u32 0, .int .u32 0, .int .u32 0, .int .u32 0, .int .u32 0, .int .u32 0, .int .u32 0, .int .u32 0, .int .u32 0, .int .u32 0, .int .u32 0, .int .u32 0, .int .u32 0, .int .u32 0, .int .u32 0, .int .u32 0, .int .u32 0, .int .u32 0, .int .u32 0, .int .u32 0, .int .u32 0, .int .u32 0, .int .u32 0] 59)).heap[w.heap.size]? = some (.cells (Value.int .i64 ((N + 6 : Nat) : Int) :: List.replicate 60 (Value.int .u32 0)).toArray 59 (0, 0)) := by
      rw [heap_alloc_new]; rfl
    have hC := ciph_of_cells hb
    have hg := World.grownBy_alloc w (.cells #[.int .i64 ((N : Int) + 6), .int .u32 0, .int .u32 0, .int .u32 0, .int .u32 0, .int .u32 0, .int .u32 0, .int .u32 0, .int .u32 0, .int .u32 0, .int .u32 0, .int .u32 0, .int .u32 0, .int .u32 0, .int .u32 0, .int .u32 0, .int .u32 0, .int .u32 0, .int .u32 0, .int .u32 0, .int .u32 0, .int .u32 0, .int .u32 0, .int .u32 0, .int .u32 0, .int .u32 0, .int .u32 0, .int .u32 0, .int .u32 0, .int .u32 0, .int .u32 0, .int .u32 0, .int .u32 0, .int .u32 0, .int .u32 0, .int .u32 0, .int .u32 0, .int .u32 0, .int .u32 0, .int .u32 0, .int .u32 0, .int .u32 0, .int .u32 0, .int .u32 0, .int .u32 0, .int .u32 0, .int .u32 0, .int .u32 0, .int .u32 0, .int .u32 0, .int .u32 0, .int .u32 0, .int .u32 0, .int .u32 0, .int .u32 0, .int .u32 0, .int .u32 0, .int .u32 0, .int .u32 0, .int .u32 0, .int .u32 0] 59) none
    clear hb
    generalize w.alloc (.cells #[.int .i64 ((N : Int) + 6), .int .u32 0, .int .u32 0, .int .u32 0, .int .u32 0, .int .u32 0, .int .u32 0, .int .u32 0, .int .u32 0, .int .u32 0, .int .u32 0, .int .u32 0, .int .u32 0, .int .u32 0, .int .u32 0, .int .u32 0, .int .u32 0, .int .u32 0, .int .u32 0, .int .u32 0, .int .u32 0, .int .u32 0, .int .u32 0, .int .u32 0, .int .u32 0, .int .u32 0, .int .u32 0, .int .u32 0, .int .u32 0, .int .u32 0, .int .u32 0, .int .u32 0, .int .u32 0, .int .u32 0, .int .u32 0, .int .u32 0, .int .u32 0, .int .u32 0, .int .u32 0, .int .u32 0, .int .u32 0, .int .u32 0, .int .u32 0, .int .u32 0, .int .u32 0, .int .u32 0, .int .u32 0, .int .u32 0, .int .u32 0, .int .u32 0, .int .u32 0, .int .u32 0, .int .u32 0, .int .u32 0, .int .u32 0, .int .u32 0, .int .u32 0, .int .u32 0, .int .u32 0, .int .u32 0, .int .u32 0] 59) = w1 at *
    go_loopw [6, 23] (fun _ u23 wr => ∃ (i : Nat) (C : Nat → Nat), i ≤ N ∧ u23 = .int .i64 i ∧ w.grownBy wr none ∧ Ciph wr w.heap.size (N + 6) C ∧ Cols i (keyW N key) C) (fun _ u23 _ => N - (intOf u23).toNat)
    case atStart => exact ⟨0, fun _ => 0, Nat.zero_le _, rfl, hg, hC, ⟨fun j hj => absurd hj (by omega)⟩⟩
    case round =>
      clear hg hC
      obtain ⟨i, C, hi, rfl, hgr, hCr, hCc⟩ := hrel
      by_cases hlt : i < N
      · have j1 : (i : Int) < N := by omega
        have j3 : (i : Int) < 60 := by omega
        obtain ⟨q, hq⟩ : ∃ q, q = 4 * i := ⟨_, rfl⟩
        have x0 : 4 * (i : Int) = (q : Int) := by omega
        have hql : q + 3 < L := by have := HL.out; omega
        have k0 : (q : Int) < L := by omega
        have k1 : (q : Int) + 1 < L := by omega
        have k2 : (q : Int) + 2 < L := by omega
        have k3 : (q : Int) + 3 < L := by omega
        have L32 : L ≤ 32 := by have := HL.out; omega
        have w0 : IntKind.i64.wrap (q : Int) = (q : Int) := by rw [IntKind.wrap_i64]; omega
        have w1' : IntKind.i64.wrap ((q : Int) + 1) = (q : Int) + 1 := by rw [IntKind.wrap_i64]; omega
        have w2 : IntKind.i64.wrap ((q : Int) + 2) = (q : Int) + 2 := by rw [IntKind.wrap_i64]; omega
        have w3 : IntKind.i64.wrap ((q : Int) + 3) = (q : Int) + 3 := by rw [IntKind.wrap_i64]; omega
        have c0 : wr.drew.cell? ⟨tb, o + q, none⟩ = some (.int .u8 (key q : Nat)) := hgr.cell (hcell q (by omega)) (by simp)
        have c1 : wr.drew.cell? ⟨tb, o + (q + 1), none⟩ = some (.int .u8 (key (q + 1) : Nat)) := hgr.cell (hcell (q + 1) (by omega)) (by simp)
        have c2 : wr.drew.cell? ⟨tb, o + (q + 2), none⟩ = some (.int .u8 (key (q + 2) : Nat)) := hgr.cell (hcell (q + 2) (by omega)) (by simp)
        have c3 : wr.drew.cell? ⟨tb, o + (q + 3), none⟩ = some (.int .u8 (key (q + 3) : Nat)) := hgr.cell (hcell (q + 3) (by omega)) (by simp)
        have p1 : (0 : Int) ≤ (q : Int) + 1 := by omega
        have p2 : (0 : Int) ≤ (q : Int) + 2 := by omega
        have p3 : (0 : Int) ≤ (q : Int) + 3 := by omega
        have c5 : wr.drew.cell? ⟨w.heap.size, 1 + i, none⟩ = some (.int .u32 (C i : Nat)) := hCr.cols i (by omega)
        have f5 : wr.drew.frozen? ⟨w.heap.size, 1 + i, none⟩ = false := hCr.free _
        have hCd := hCr.of_block (w' := wr.drew) rfl hCr.lt
        have hgd := grown_drew hgr
        have hcol := fun W => column_any (key q) (key (q + 1)) (key (q + 2)) (key (q + 3)) W (hk _) (hk _) (hk _) (hk _)
        have hval : col (key q) (key (q + 1)) (key (q + 2)) (key (q + 3)) = colS (keyW N key) i := by
          unfold colS
          rw [← hq, keyW_own N key q (by omega), keyW_own N key (q + 1) (by omega), keyW_own N key (q + 2) (by omega), keyW_own N key (q + 3) (by omega)]
        have HCol := Lib.hid hcol
        have Hval := Lib.hid hval
        generalize col (key q) (key (q + 1)) (key (q + 2)) (key (q + 3)) = v at *
        have Hq := Lib.hid hq
        have t2 : ((q : Int) + 2).toNat = q + 2 := by omega
        have t3 : ((q : Int) + 3).toNat = q + 3 := by omega
        clear hq hcol hval hgr hCr
        go_wp2_with fail
        refine wp_region_still_tail 29 (by kernel_rfl) (by kernel_rfl) ?_
        change wpStill _ _ wr.drew (fun a' => wpList _ _ _ _ a' wr.drew) _ _
        generalize wr.drew = w2' at *
        simp only [List.take_succ_cons, List.take_zero, List.drop_succ_cons, List.drop_zero]
        repeat still_step
        still_call ((HCol.out _).mono fun _ _ h => ⟨h.1, h.2.symm⟩)
        repeat still_step
        refine wpStill_nil ?_
        clear t2 t3
        have HF : Hid (Ciph (w2'.setCell ⟨w.heap.size, 1 + i, none⟩ (.int .u32 (v : Nat))) w.heap.size (N + 6) (upd C i v)) := Lib.hid (hCd.set i v (by omega))
        have HG : Hid (w.grownBy (w2'.setCell ⟨w.heap.size, 1 + i, none⟩ (.int .u32 (v : Nat))) none) := Lib.hid (grown_setCell_new hgd ⟨w.heap.size, 1 + i, none⟩ (.int .u32 (v : Nat)) (Or.inl (Nat.le_refl _)))
        have HCC : Hid (Cols (i + 1) (keyW N key) (upd C i v)) := Lib.hid (hCc.next v Hval.out)
        clear w0 w1' w2 w3 c0 c1 c2 c3 p1 p2 p3
        go_wp2_with fail
        first
          | exact ⟨⟨i + 1, _, by omega, by go_num, HG.out, HF.out, HCC.out⟩, by simp [intOf]; omega⟩
          | (go_roundw
             case rel => exact ⟨i + 1, _, by omega, by go_num, HG.out, HF.out, HCC.out⟩
             case measure => simp [intOf]; omega)
      · obtain rfl : i = N := by omega
        have j1 : (i : Int) ≤ i := by omega
        have hfill := fill_any i w.heap.size key C wr (hL.grown hgr (by simp)) HN.out hk hCr hCc (by omega)
        have HF := Lib.hid hfill
        have Hgr := Lib.hid hgr
        clear hfill hgr hCr hCc hlt hi
        go_wp2_with fail
        go_at_call 30
        with_reducible refine (HF.out).mono ?_
        rintro e w5 ⟨rfl, hg5, C5, hC5, hCc5⟩
        go_wp2_with fail
        go_ret2
        exact ⟨_, C5, rfl, Nat.le_refl _, grown_new Hgr.out hg5 (Nat.le_refl _), hC5, hCc5⟩

end Go.Proofs.YtlfopcigbgfnlaaDoor
