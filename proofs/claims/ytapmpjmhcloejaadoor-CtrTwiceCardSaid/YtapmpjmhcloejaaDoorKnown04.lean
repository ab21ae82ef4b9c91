/-
  Layer 4's rows, as the statements ask them: they are met.
-/
import Derived.Test.YtapmpjmhcloejaaDoorCtrTurn
import Derived.Test.YtapmpjmhcloejaaDoorAesNew
import Derived.Test.YtapmpjmhcloejaaDoorMake
import Derived.Test.YtapmpjmhcloejaaDoorEnds
import Derived.Test.YtapmpjmhcloejaaDoorGrowQ
namespace Go.Proofs.YtapmpjmhcloejaaDoor
open Go.RowKit

set_option maxRecDepth 100000
set_option maxHeartbeats 2000000

theorem next_enters (args : Array Value) (w : World) : (callFunc 9 args).run Tryd.prog w = .ok (.enter 9 args) w :=
  enters_of Tryd.func9 (by kernel_rfl) rfl args w

def zeroL : List Nat := [0, 0, 0, 0, 0, 0, 0, 0, 0, 0, 0, 0, 0, 0, 0, 0]
def ctZ : List Nat := [102, 233, 75, 212, 239, 138, 44, 59, 136, 76, 250, 89, 202, 52, 43, 46]
theorem ctZ_val : evalSeal 4 zeroL zeroL = ctZ := by kernel_rfl
theorem turn_zero (i : Nat) (hi : i < 16) : turnF 10 (keyW 4 (fun _ => 0)) (fun _ => 0) (fun _ => 0) i = lst ctZ i := by
  unfold turnF strm
  rw [show i / 16 = 0 by omega, Nat.mod_eq_of_lt hi, Nat.zero_xor, ← ctZ_val]
  exact evalSeal_ok 4 zeroL zeroL _ _ (by decide) (by decide) rfl (fun x hx => by decide +revert) (fun i hi => by decide +revert) i hi

/-- The rows' counters. -/
def cA (i : Nat) : Nat := if i = 15 then 255 else 0
def cB (i : Nat) : Nat := if i = 14 then 1 else 0
def cF (i : Nat) : Nat := if i = 0 then 1 else 255
def cW (i : Nat) : Nat := if i = 0 then 1 else if i < 12 then 255 else 0
theorem next_A : eq16 (nextF cA) cB = true := by kernel_rfl
theorem next_F : eq16 (nextF cF) cW = true := by kernel_rfl
theorem cA_lt (i : Nat) : cA i < 256 := by unfold cA; split <;> decide
theorem cF_lt (i : Nat) : cF i < 256 := by unfold cF; split <;> decide

theorem known04 (w : World) (hL : LaidS w 0) (hsz : 0 < w.heap.size) : Calls Tryd.prog 5 #[] w (SaysYes w) := by
  obtain ⟨c0, mk0, hF0⟩ := make_any 16 (by decide) w
  replace mk0 : (Instr.makeSlice 22 (.int .i64 16) (.int .i64 16)).run Tryd.prog w = .ok (.slice (some ⟨w.heap.size, 0, none⟩) 16 16) (w.alloc (.cells c0 5)) := mk0
  have g0 := World.grownBy_alloc w (.cells c0 5) none
  have n1 : Calls Tryd.prog 7 #[.slice (some ⟨w.heap.size, 0, none⟩) 16 16] (w.alloc (.cells c0 5)) (Newc (w.alloc (.cells c0 5)) 4 (fun _ => 0)) :=
    new_ok 4 16 16 _ _ _ (hL.grown g0 (by simp)) (Or.inl rfl) rfl (hF0.rd (by decide) 16 (Nat.le_refl _)) (fun _ => by decide) (by simp)
  have N1 := Lib.hid n1
  have G0 := Lib.hid g0
  clear n1 g0 hF0
  go_enter Tryd.func5, Tryd.ntmps5
  go_wp2_with fail
  generalize w.alloc (.cells c0 5) = w1 at *
  clear mk0
  go_at_call 7
  with_reducible refine (N1.out).mono ?_
  rintro e w2 ⟨m, C, rfl, hm, g2, hC, hc⟩
  have g02 := grown_trans G0.out g2
  obtain ⟨c2, mk2, hF2⟩ := make_any 16 (by decide) w2
  replace mk2 : (Instr.makeSlice 22 (.int .i64 16) (.int .i64 16)).run Tryd.prog w2 = .ok (.slice (some ⟨w2.heap.size, 0, none⟩) 16 16) (w2.alloc (.cells c2 5)) := mk2
  have g3 := World.grownBy_alloc w2 (.cells c2 5) none
  have hT := texts1 (w2.alloc (.cells c2 5)) (some ⟨w2.heap.size, 0, none⟩) 16 16 (fun _ => 0) _ rfl (Nat.le_refl _) (hF2.rd (by decide) 16 (Nat.le_refl _))
  have g4 := grown_alloc g3 (.cells #[.slice (some ⟨w2.heap.size, 0, none⟩) 16 16] 22)
  have hz4 : (w2.alloc (.cells c2 5)).heap.size = w2.heap.size + 1 := by simp
  rw [hz4] at hT
  have hm2 : m < w2.heap.size := World.block_lt_of_cell? w2 _ hC.rounds
  have hTn := turn_any m 10 1 1 (some ⟨w2.heap.size + 1, 0, none⟩) C (keyW 4 (fun _ => 0)) (fun _ => 0) (fun j => if j = 0 then 0 else 16) (fun _ => 0)
    ((w2.alloc (.cells c2 5)).alloc (.cells #[.slice (some ⟨w2.heap.size, 0, none⟩) 16 16] 22)) (keyW_lt 4 _ (fun _ => by decide)) (fun _ => by decide) (fun _ => by decide) (by decide) (by decide) hc
    (hC.grown g4 (by simp)) (hL.grown (grown_trans g02 g4) (by simp)) (by have := g4.size; omega) (by have := (grown_trans g02 g4).size; omega) hT (by decide) (by decide)
  rw [← zero16] at hTn
  have HT := Lib.hid hTn
  have G4 := Lib.hid (grown_trans g02 g4)
  clear hTn hT g3 g4 hF2 N1 G0 hz4
  go_wp2_with fail
  go_at_call 8
  with_reducible refine (HT.out).mono ?_
  rintro e w3 ⟨v3, rfl, hv3, g3⟩
  have g03 := grown_trans G4.out g3
  have hm3 : m < w3.heap.size := by have := g3.size; simp at this; omega
  obtain ⟨va, vc, rfl, _, hRv⟩ := hv3.rd
  have hF1 : Holds (w3.alloc (.cells #[.int .u8 1, .int .u8 0, .int .u8 0, .int .u8 0, .int .u8 0, .int .u8 0, .int .u8 0, .int .u8 0, .int .u8 0, .int .u8 0, .int .u8 0, .int .u8 0, .int .u8 0, .int .u8 0, .int .u8 0, .int .u8 0] 23)) w3.heap.size 23 .u8 16 (fun j => if j = 0 then 1 else if j < 1 then 255 else 0) := holds_alloc w3 23 .u8 16 _ _ rfl
  have g4 := World.grownBy_alloc w3 (.cells #[.int .u8 1, .int .u8 0, .int .u8 0, .int .u8 0, .int .u8 0, .int .u8 0, .int .u8 0, .int .u8 0, .int .u8 0, .int .u8 0, .int .u8 0, .int .u8 0, .int .u8 0, .int .u8 0, .int .u8 0, .int .u8 0] 23) none
  have HG4 := Lib.hid g4
  have HF1 := Lib.hid hF1
  have HG03 := Lib.hid g03
  replace hRv : Rd w3 w3.heap.size va 16 (turnF 10 (keyW 4 fun _ => 0) (fun _ => 0) fun _ => 0) := hRv
  have HRv := Lib.hid hRv
  have Hm3 := Lib.hid hm3
  clear g4 hF1 g03 g3 hv3 hRv HT G4 mk2 hm2 g02 g2 hm hc hC hm3
  go_wp2_with fail
  have hH0 := HF1.out
  have hG4 := HG4.out
  clear HF1 HG4
  generalize w3.alloc (.cells #[.int .u8 1, .int .u8 0, .int .u8 0, .int .u8 0, .int .u8 0, .int .u8 0, .int .u8 0, .int .u8 0, .int .u8 0, .int .u8 0, .int .u8 0, .int .u8 0, .int .u8 0, .int .u8 0, .int .u8 0, .int .u8 0] 23) = w4 at *
  go_loopw [6] (fun u6 wr => ∃ i : Nat, 1 ≤ i ∧ i ≤ 16 ∧ u6 = .int .i64 i ∧ w3.grownBy wr none ∧ Holds wr w3.heap.size 23 .u8 16 (fun j => if j = 0 then 1 else if j < i then 255 else 0)) (fun u6 _ => 16 - (intOf u6).toNat)
  case atStart => exact ⟨1, by omega, by omega, rfl, hG4, hH0⟩
  case round =>
    clear hG4 hH0
    obtain ⟨i, hi1, hi, rfl, hg, hH⟩ := hrel
    by_cases hlt : i < 16
    · have j1 : (i : Int) < 16 := by omega
      have c0 := hH.cell i hlt
      have f0 := hH.frozen i
      have hH2 : Holds (wr.setCell ⟨w3.heap.size, i, none⟩ (.int .u8 (255 : Nat))) w3.heap.size 23 .u8 16 (fun j => if j = 0 then 1 else if j < i + 1 then 255 else 0) := (hH.set i 255).congr (fun j hj => by
        unfold upd
        by_cases e : j = i
        · rw [if_pos e, if_neg (by omega), if_pos (by omega)]
        · rw [if_neg e]
          show (if j = 0 then 1 else if j < i then 255 else 0) = if j = 0 then 1 else if j < i + 1 then 255 else 0
          by_cases e0 : j = 0
          · rw [if_pos e0, if_pos e0]
          · rw [if_neg e0, if_neg e0]
            by_cases e2 : j < i
            · rw [if_pos e2, if_pos (by omega)]
            · rw [if_neg e2, if_neg (by omega)])
      have hg2 := grown_setCell_new hg ⟨w3.heap.size, i, none⟩ (.int .u8 (255 : Nat)) (Or.inl (Nat.le_refl _))
      have HH2 := Lib.hid hH2
      have HG2 := Lib.hid hg2
      clear hH2 hg2 hH hg
      go_wp2_with fail
      first
        | exact ⟨⟨i + 1, by omega, by omega, by go_num, HG2.out, HH2.out⟩, by simp [intOf]; omega⟩
        | (go_roundw
           case rel => exact ⟨i + 1, by omega, by omega, by go_num, HG2.out, HH2.out⟩
           case measure => simp [intOf]; omega)
    · obtain rfl : i = 16 := by omega
      have hF : Holds wr w3.heap.size 23 .u8 16 cF := hH.congr (fun j hj => by unfold cF; by_cases e : j = 0 <;> simp [e, hj])
      have hbF := hF.block
      have hbn := heap_alloc_new wr (.cells #[.int .u8 0, .int .u8 0, .int .u8 0, .int .u8 0, .int .u8 0, .int .u8 0, .int .u8 0, .int .u8 0, .int .u8 0, .int .u8 0, .int .u8 0, .int .u8 0, .int .u8 0, .int .u8 0, .int .u8 0, .int .u8 0] 23)
      have hN0 : Holds (wr.alloc (.cells #[.int .u8 0, .int .u8 0, .int .u8 0, .int .u8 0, .int .u8 0, .int .u8 0, .int .u8 0, .int .u8 0, .int .u8 0, .int .u8 0, .int .u8 0, .int .u8 0, .int .u8 0, .int .u8 0, .int .u8 0, .int .u8 0] 23)) wr.heap.size 23 .u8 16 (fun _ => 0) := holds_alloc wr 23 .u8 16 (fun _ => 0) _ zero16
      have hbF1 := (hF.grown (World.grownBy_alloc wr (.cells #[.int .u8 0, .int .u8 0, .int .u8 0, .int .u8 0, .int .u8 0, .int .u8 0, .int .u8 0, .int .u8 0, .int .u8 0, .int .u8 0, .int .u8 0, .int .u8 0, .int .u8 0, .int .u8 0, .int .u8 0, .int .u8 0] 23) none) (by simp)).block
      have g5 := grown_setRow_new (World.grownBy_alloc wr (.cells #[.int .u8 0, .int .u8 0, .int .u8 0, .int .u8 0, .int .u8 0, .int .u8 0, .int .u8 0, .int .u8 0, .int .u8 0, .int .u8 0, .int .u8 0, .int .u8 0, .int .u8 0, .int .u8 0, .int .u8 0, .int .u8 0] 23) none) wr.heap.size (cellsOf .u8 16 cF) (Or.inl (Nat.le_refl _))
      have hW1 := hN0.setRow .u8 16 cF
      have HG5 := Lib.hid g5
      have HF := Lib.hid hF
      have HG := Lib.hid hg
      clear hlt hi1 hi hH hN0 g5 hg
      go_upto_region 9 with (first
        | refine wpList_load_row rfl 23 (.tmp 5) rfl w3.heap.size rfl 23 _ (0, 0) (.array 16 5) hbF (by kernel_rfl) rfl (by rw [cellsOf_size]; kernel_rfl) ?_
        | refine wpList_load_row rfl 23 (.tmp 5) rfl w3.heap.size rfl 23 _ (0, 0) (.array 16 5) hbF1 (by kernel_rfl) rfl (by rw [cellsOf_size]; kernel_rfl) ?_
        | refine wpList_store_row rfl 23 (.tmp 7) (.tmp 30) rfl wr.heap.size _ rfl rfl 23 _ hbn (by rw [cellsOf_size]; kernel_rfl) rfl (cellsOf_all _ _ _) ?_)
      have HF5 := Lib.hid ((hF.grown (World.grownBy_alloc wr (.cells #[.int .u8 0, .int .u8 0, .int .u8 0, .int .u8 0, .int .u8 0, .int .u8 0, .int .u8 0, .int .u8 0, .int .u8 0, .int .u8 0, .int .u8 0, .int .u8 0, .int .u8 0, .int .u8 0, .int .u8 0, .int .u8 0] 23) none) (by simp)).of_block (setRow_other (wr.alloc (.cells #[.int .u8 0, .int .u8 0, .int .u8 0, .int .u8 0, .int .u8 0, .int .u8 0, .int .u8 0, .int .u8 0, .int .u8 0, .int .u8 0, .int .u8 0, .int .u8 0, .int .u8 0, .int .u8 0, .int .u8 0, .int .u8 0] 23)) wr.heap.size w3.heap.size (cellsOf .u8 16 cF) (by have := hF.lt; omega)))
      obtain ⟨b7, hb7⟩ : ∃ b, b = wr.heap.size := ⟨_, rfl⟩
      have h37 : w3.heap.size < b7 := by rw [hb7]; exact hF.lt
      rw [← hb7] at hW1 HG5 HF5 ⊢
      clear hbn hbF1 hbF hb7 HF
      generalize (wr.alloc (.cells #[.int .u8 0, .int .u8 0, .int .u8 0, .int .u8 0, .int .u8 0, .int .u8 0, .int .u8 0, .int .u8 0, .int .u8 0, .int .u8 0, .int .u8 0, .int .u8 0, .int .u8 0, .int .u8 0, .int .u8 0, .int .u8 0] 23)).setRow b7 (cellsOf .u8 16 cF) = w5 at *
      have a1 := hW1.cell 12 (by decide)
      have f1 := hW1.frozen 12
      have hW2 := hW1.set 12 0
      have a2 := hW2.cell 13 (by decide)
      have f2 := hW2.frozen 13
      have hW3 := hW2.set 13 0
      have a3 := hW3.cell 14 (by decide)
      have f3 := hW3.frozen 14
      have hW4 := hW3.set 14 0
      have a4 := hW4.cell 15 (by decide)
      have f4 := hW4.frozen 15
      have hW5 := (hW4.set 15 0).congr (g := cW) (fun j hj => by
        unfold upd cF cW
        obtain rfl | rfl | rfl | rfl | h : j = 12 ∨ j = 13 ∨ j = 14 ∨ j = 15 ∨ j < 12 := by omega
        all_goals (first | rfl | skip)
        rw [if_neg (by omega), if_neg (by omega), if_neg (by omega), if_neg (by omega)]
        by_cases e : j = 0
        · rw [if_pos e, if_pos e]
        · rw [if_neg e, if_neg e, if_pos h])
      have g7 := fun (U : World) (v : Value) (i : Nat) (h : w3.grownBy U none) => grown_setCell_new h ⟨b7, i, none⟩ v (Or.inl (by show w3.heap.size ≤ b7; omega))
      have HG7 := Lib.hid (g7 _ (.int .u8 (0 : Nat)) 15 (g7 _ (.int .u8 (0 : Nat)) 14 (g7 _ (.int .u8 (0 : Nat)) 13 (g7 _ (.int .u8 (0 : Nat)) 12 (grown_trans HG.out HG5.out)))))
      have HF7 := Lib.hid ((((HF5.out.setOther ⟨b7, 12, none⟩ (.int .u8 (0 : Nat)) (by show w3.heap.size ≠ b7; omega)).setOther ⟨b7, 13, none⟩ (.int .u8 (0 : Nat)) (by show w3.heap.size ≠ b7; omega)).setOther ⟨b7, 14, none⟩ (.int .u8 (0 : Nat)) (by show w3.heap.size ≠ b7; omega)).setOther ⟨b7, 15, none⟩ (.int .u8 (0 : Nat)) (by show w3.heap.size ≠ b7; omega))
      have HW5 := Lib.hid hW5
      clear hW1 hW2 hW3 hW4 hW5 g7 HF5 HG HG5
      replace a1 : w5.cell? ⟨b7, 12, none⟩ = some (.int .u8 255) := a1
      replace a2 : (w5.setCell ⟨b7, 12, none⟩ (.int .u8 0)).cell? ⟨b7, 13, none⟩ = some (.int .u8 255) := a2
      replace a3 : ((w5.setCell ⟨b7, 12, none⟩ (.int .u8 0)).setCell ⟨b7, 13, none⟩ (.int .u8 0)).cell? ⟨b7, 14, none⟩ = some (.int .u8 255) := a3
      replace a4 : (((w5.setCell ⟨b7, 12, none⟩ (.int .u8 0)).setCell ⟨b7, 13, none⟩ (.int .u8 0)).setCell ⟨b7, 14, none⟩ (.int .u8 0)).cell? ⟨b7, 15, none⟩ = some (.int .u8 255) := a4
      replace f2 : (w5.setCell ⟨b7, 12, none⟩ (.int .u8 0)).frozen? ⟨b7, 13, none⟩ = false := f2
      replace f3 : ((w5.setCell ⟨b7, 12, none⟩ (.int .u8 0)).setCell ⟨b7, 13, none⟩ (.int .u8 0)).frozen? ⟨b7, 14, none⟩ = false := f3
      replace f4 : (((w5.setCell ⟨b7, 12, none⟩ (.int .u8 0)).setCell ⟨b7, 13, none⟩ (.int .u8 0)).setCell ⟨b7, 14, none⟩ (.int .u8 0)).frozen? ⟨b7, 15, none⟩ = false := f4
      go_upto_region 10 with fail
      obtain ⟨w7, hw7⟩ : ∃ w7, w7 = (((w5.setCell ⟨b7, 12, none⟩ (.int .u8 0)).setCell ⟨b7, 13, none⟩ (.int .u8 0)).setCell ⟨b7, 14, none⟩ (.int .u8 0)).setCell ⟨b7, 15, none⟩ (.int .u8 0) := ⟨_, rfl⟩
      have G7 : Hid (w3.grownBy w7 none) := by rw [hw7]; exact HG7
      have F7 : Hid (Holds w7 w3.heap.size 23 .u8 16 cF) := by rw [hw7]; exact HF7
      have W7 : Hid (Holds w7 b7 23 .u8 16 cW) := by rw [hw7]; exact HW5
      rw [← hw7]
      have hb7F := F7.out.block
      clear a1 a2 a3 a4 f1 f2 f3 f4 HG7 HF7 HW5 hw7 hF
      go_upto_region 11 with (first
        | refine wpList_load_row rfl 23 (.tmp 5) rfl w3.heap.size rfl 23 _ (0, 0) (.array 16 5) hb7F (by kernel_rfl) rfl (by rw [cellsOf_size]; kernel_rfl) ?_
        | (go_at_call 8; (with_reducible refine (turn_nil cF _ _).mono ?_); rintro e w8 ⟨rfl, g8⟩))
      have g78 := grown_trans (grown_alloc (World.grownBy_alloc w7 (.cells #[.int .u8 1] 5) none) (.cells #[.slice (some ⟨w7.heap.size, 0, none⟩) 1 1] 22)) g8
      have HF8 := Lib.hid (F7.out.grown g78 (by simp))
      have HW8 := Lib.hid (W7.out.grown g78 (by simp))
      have g38 := grown_trans G7.out g78
      have HR8 := Lib.hid (HRv.out.up (Nat.le_refl _) g38)
      have HG8 := Lib.hid (grown_trans HG03.out g38)
      obtain ⟨G, hG⟩ : ∃ G, G = turnF 10 (keyW 4 fun _ => 0) (fun _ => 0) (fun _ => 0) := ⟨_, rfl⟩
      rw [← hG] at HR8
      have HGl : Hid (∀ i, G i < 256) := Lib.hid (fun i => by rw [hG]; exact turnF_lt _ _ _ _ (keyW_lt 4 _ (fun _ => by decide)) (fun _ => by decide) (fun _ => by decide) i)
      have Hstr : Hid (strOf 16 G = ⟨#[102, 233, 75, 212, 239, 138, 44, 59, 136, 76, 250, 89, 202, 52, 43, 46]⟩) := Lib.hid (by
        rw [hG, strOf_congr 16 _ (lst ctZ) turn_zero]
        kernel_rfl)
      obtain ⟨nA, hnA⟩ : ∃ n, n = nextF cA := ⟨_, rfl⟩
      obtain ⟨nF, hnF⟩ : ∃ n, n = nextF cF := ⟨_, rfl⟩
      have HeA : Hid (eq16 nA cB = true) := Lib.hid (by rw [hnA]; exact next_A)
      have HeF : Hid (eq16 nF cW = true) := Lib.hid (by rw [hnF]; exact next_F)
      have HcA : Hid (∀ W, w8.grownBy W none → Calls Tryd.prog 9 #[.agg (cellsOf .u8 16 cA)] W fun e w' => e = .returned (.agg (cellsOf .u8 16 nA)) ∧ w8.grownBy w' none) := Lib.hid (fun W hW => by
        rw [hnA]
        exact (next_any cA W cA_lt).mono fun e w' ⟨h1, h2⟩ => ⟨h1, grown_trans hW h2⟩)
      have HcF : Hid (∀ W, w8.grownBy W none → Calls Tryd.prog 9 #[.agg (cellsOf .u8 16 cF)] W fun e w' => e = .returned (.agg (cellsOf .u8 16 nF)) ∧ w8.grownBy w' none) := Lib.hid (fun W hW => by
        rw [hnF]
        exact (next_any cF W cF_lt).mono fun e w' ⟨h1, h2⟩ => ⟨h1, grown_trans hW h2⟩)
      clear g78 g38 g8 hG hnA hnF F7 W7 G7 hb7F HRv
      refine wp_region_quiet (C := fun W => w8.grownBy W none) (by kernel_rfl) (by kernel_rfl) (grown_drew (grown_refl w8 none)) ?_
      refine wpQ_val (some 42) (v := .int .i64 0) rfl rfl (fun _ _ => rfl) ?_
      simp only [Act.put, List.setIfInBounds_toArray, List.set_cons_succ, List.set_cons_zero]
      refine wpQ_val (some 43) (v := .bool true) rfl rfl (fun _ _ => by go_simp) ?_
      simp only [Act.put, List.setIfInBounds_toArray, List.set_cons_succ, List.set_cons_zero]
      refine wpQ_val (some 44) (v := .bool true) rfl rfl (fun _ _ => rfl) ?_
      simp only [Act.put, List.setIfInBounds_toArray, List.set_cons_succ, List.set_cons_zero]
      refine wpQ_val (some 45) (v := .int .i64 0) rfl rfl (fun _ _ => rfl) ?_
      simp only [Act.put, List.setIfInBounds_toArray, List.set_cons_succ, List.set_cons_zero]
      refine wpQ_val (some 46) (v := .bool true) rfl rfl (fun _ _ => by go_simp) ?_
      simp only [Act.put, List.setIfInBounds_toArray, List.set_cons_succ, List.set_cons_zero]
      refine wpQ_val (some 47) (v := .bool true) rfl rfl (fun _ _ => rfl) ?_
      simp only [Act.put, List.setIfInBounds_toArray, List.set_cons_succ, List.set_cons_zero]
      refine wpQ_val (some 48) (v := .bool true) rfl rfl (fun _ _ => rfl) ?_
      simp only [Act.put, List.setIfInBounds_toArray, List.set_cons_succ, List.set_cons_zero]
      refine wpQ_val (some 49) (v := .slice va 16 vc) rfl rfl (fun _ _ => rfl) ?_
      simp only [Act.put, List.setIfInBounds_toArray, List.set_cons_succ, List.set_cons_zero]
      refine wpQ_val (some 50) (v := .string ⟨#[102, 233, 75, 212, 239, 138, 44, 59, 136, 76, 250, 89, 202, 52, 43, 46]⟩) rfl rfl (fun W hW => by rw [← Hstr.out]; exact run_convS 49 rfl rfl (HR8.out.up (Nat.le_refl _) hW) HGl.out) ?_
      simp only [Act.put, List.setIfInBounds_toArray, List.set_cons_succ, List.set_cons_zero]
      refine wpQ_val (some 51) (v := .bool true) rfl rfl (fun _ _ => by go_simp) ?_
      simp only [Act.put, List.setIfInBounds_toArray, List.set_cons_succ, List.set_cons_zero]
      refine wpQ_val (some 52) (v := .bool true) rfl rfl (fun _ _ => rfl) ?_
      simp only [Act.put, List.setIfInBounds_toArray, List.set_cons_succ, List.set_cons_zero]
      refine wpQ_val (some 53) (v := .bool true) rfl rfl (fun _ _ => rfl) ?_
      simp only [Act.put, List.setIfInBounds_toArray, List.set_cons_succ, List.set_cons_zero]
      refine wpQ_val (some 54) (v := .agg (cellsOf .u8 16 cA)) rfl rfl (fun _ _ => by go_simp; rfl) ?_
      simp only [Act.put, List.setIfInBounds_toArray, List.set_cons_succ, List.set_cons_zero]
      refine wpQ_call (some 55) 9 #[.agg (cellsOf .u8 16 cA)] (v := .agg (cellsOf .u8 16 nA)) rfl rfl (exec_fn1 _ _ _ rfl rfl) next_enters (HcA.out) ?_
      simp only [Act.put, List.setIfInBounds_toArray, List.set_cons_succ, List.set_cons_zero]
      refine wpQ_val (some 56) (v := .agg (cellsOf .u8 16 cB)) rfl rfl (fun _ _ => by go_simp; rfl) ?_
      simp only [Act.put, List.setIfInBounds_toArray, List.set_cons_succ, List.set_cons_zero]
      refine wpQ_val (some 57) (v := .bool true) rfl rfl (fun _ _ => by rw [← HeA.out]; exact run_eqlB _ _ _ _ rfl rfl rfl) ?_
      simp only [Act.put, List.setIfInBounds_toArray, List.set_cons_succ, List.set_cons_zero]
      refine wpQ_val (some 58) (v := .bool true) rfl rfl (fun _ _ => rfl) ?_
      simp only [Act.put, List.setIfInBounds_toArray, List.set_cons_succ, List.set_cons_zero]
      refine wpQ_val (some 59) (v := .bool true) rfl rfl (fun _ _ => rfl) ?_
      simp only [Act.put, List.setIfInBounds_toArray, List.set_cons_succ, List.set_cons_zero]
      refine wpQ_val (some 60) (v := .agg (cellsOf .u8 16 cF)) rfl rfl (fun W hW => run_blk (HF8.out.grown hW (by simp)) rfl rfl) ?_
      simp only [Act.put, List.setIfInBounds_toArray, List.set_cons_succ, List.set_cons_zero]
      refine wpQ_call (some 61) 9 #[.agg (cellsOf .u8 16 cF)] (v := .agg (cellsOf .u8 16 nF)) rfl rfl (exec_fn1 _ _ _ rfl rfl) next_enters (HcF.out) ?_
      simp only [Act.put, List.setIfInBounds_toArray, List.set_cons_succ, List.set_cons_zero]
      refine wpQ_val (some 62) (v := .agg (cellsOf .u8 16 cW)) rfl rfl (fun W hW => run_blk (HW8.out.grown hW (by simp)) rfl rfl) ?_
      simp only [Act.put, List.setIfInBounds_toArray, List.set_cons_succ, List.set_cons_zero]
      refine wpQ_val (some 63) (v := .bool true) rfl rfl (fun _ _ => by rw [← HeF.out]; exact run_eqlB _ _ _ _ rfl rfl rfl) ?_
      simp only [Act.put, List.setIfInBounds_toArray, List.set_cons_succ, List.set_cons_zero]
      refine wpQ_val (some 64) (v := .bool true) rfl rfl (fun _ _ => rfl) ?_
      simp only [Act.put, List.setIfInBounds_toArray, List.set_cons_succ, List.set_cons_zero]
      refine wpQ_val (some 65) (v := .bool true) rfl rfl (fun _ _ => rfl) ?_
      simp only [Act.put, List.setIfInBounds_toArray, List.set_cons_succ, List.set_cons_zero]
      refine wpQ_val (some 66) (v := .int .i64 1) rfl rfl (fun _ _ => rfl) ?_
      simp only [Act.put, List.setIfInBounds_toArray, List.set_cons_succ, List.set_cons_zero]
      refine wpQ_val (some 67) (v := .bool true) rfl rfl (fun _ _ => by go_simp) ?_
      simp only [Act.put, List.setIfInBounds_toArray, List.set_cons_succ, List.set_cons_zero]
      refine wpQ_val (some 68) (v := .bool true) rfl rfl (fun _ _ => rfl) ?_
      simp only [Act.put, List.setIfInBounds_toArray, List.set_cons_succ, List.set_cons_zero]
      refine wpQ_val (some 0) (v := .bool true) rfl rfl (fun _ _ => rfl) ?_
      simp only [Act.put, List.setIfInBounds_toArray, List.set_cons_zero]
      refine wpQuiet_nil ?_
      intro W hW
      go_wp2_with fail
      go_ret
      exact ⟨⟨rfl, grown_trans HG8.out hW⟩⟩

end Go.Proofs.YtapmpjmhcloejaaDoor
