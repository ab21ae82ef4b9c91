/-
  Proved: whatever key, counter and texts come in, 'CtrTurns' answers true, and what came in reads afterwards as it read before. Conditions: the table of package aes reads as the program's text lays it (tied to that text by the card); the arguments can be read as data.
-/
import Derived.Test.YtapmpjmhcloejaaDoorCtrTurn
import Derived.Test.YtapmpjmhcloejaaDoorAesNew
import Derived.Test.YtapmpjmhcloejaaDoorMake
import Derived.Test.YtapmpjmhcloejaaDoorEnds
import Derived.Test.YtapmpjmhcloejaaDoorGrowQ
import Derived.Test.YtapmpjmhcloejaaDoorCtrSome
import Derived.Test.YtapmpjmhcloejaaDoorRefCtrTurn
import Derived.Test.YtapmpjmhcloejaaDoorRefAesBox
import Derived.Test.YtapmpjmhcloejaaDoorRefAesCols
import Derived.Test.YtapmpjmhcloejaaDoorOrd2
import Derived.Test.YtapmpjmhcloejaaDoorLaidAes
import Derived.Test.YtapmpjmhcloejaaDoorTie
import Derived.Test.YtapmpjmhcloejaaDoorCards
import Derived.SevenTiedAt
namespace Go.Proofs.YtapmpjmhcloejaaDoor
open Go.RowKit

set_option maxRecDepth 100000
set_option maxHeartbeats 2000000

theorem next_enters (args : Array Value) (w : World) : (callFunc 9 args).run Tryd.prog w = .ok (.enter 9 args) w :=
  enters_of Tryd.func9 (by kernel_rfl) rfl args w

def zeroL : List Nat := [0, 0, 0, 0, 0, 0, 0, 0, 0, 0, 0, 0, 0, 0, 0, 0]
def ctZ : List Nat := [102, 233, 75, 212, 239, 138, 44, 59, 136, 76, 250, 89, 202, 52, 43, 46]
theorem ctZ_val : evalSeal 4 zeroL zeroL = ctZ := by kernel_rfl
theorem turn_zero (i : Nat) (hi : i < 16) : turnF 10 (keyW 4 (fun _ => 0)) (fun _ => 0) (fun _ => 0) i = lst ctZ i := by
  unfold turnF strm
  rw [show i / 16 = 0 by omega, Nat.mod_eq_of_lt hi, Nat.zero_xor, ← ctZ_val]
  exact evalSeal_ok 4 zeroL zeroL _ _ (by decide) (by decide) rfl (fun x hx => by decide +revert) (fun i hi => by decide +revert) i hi

/-- The rows' counters. -/
def cA (i : Nat) : Nat := if i = 15 then 255 else 0
def cB (i : Nat) : Nat := if i = 14 then 1 else 0
def cF (i : Nat) : Nat := if i = 0 then 1 else 255
def cW (i : Nat) : Nat := if i = 0 then 1 else if i < 12 then 255 else 0
theorem next_A : eq16 (nextF cA) cB = true := by kernel_rfl
theorem next_F : eq16 (nextF cF) cW = true := by kernel_rfl
theorem cA_lt (i : Nat) : cA i < 256 := by unfold cA; split <;> decide
theorem cF_lt (i : Nat) : cF i < 256 := by unfold cF; split <;> decide

theorem known04 (w : World) (hL : LaidS w 0) (hsz : 0 < w.heap.size) : Calls Tryd.prog 5 #[] w (SaysYes w) := by
  obtain ⟨c0, mk0, hF0⟩ := make_any 16 (by decide) w
  replace mk0 : (Instr.makeSlice 22 (.int .i64 16) (.int .i64 16)).run Tryd.prog w = .ok (.slice (some ⟨w.heap.size, 0, none⟩) 16 16) (w.alloc (.cells c0 5)) := mk0
  have g0 := World.grownBy_alloc w (.cells c0 5) none
  have n1 : Calls Tryd.prog 7 #[.slice (some ⟨w.heap.size, 0, none⟩) 16 16] (w.alloc (.cells c0 5)) (Newc (w.alloc (.cells c0 5)) 4 (fun _ => 0)) :=
    new_ok 4 16 16 _ _ _ (hL.grown g0 (by simp)) (Or.inl rfl) rfl (hF0.rd (by decide) 16 (Nat.le_refl _)) (fun _ => by decide) (by simp)
  have N1 := Lib.hid n1
  have G0 := Lib.hid g0
  clear n1 g0 hF0
  go_enter Tryd.func5, Tryd.ntmps5
  go_wp2_with fail
  generalize w.alloc (.cells c0 5) = w1 at *
  clear mk0
  go_at_call 7
  with_reducible refine (N1.out).mono ?_
  rintro e w2 ⟨m, C, rfl, hm, g2, hC, hc⟩
  have g02 := grown_trans G0.out g2
  obtain ⟨c2, mk2, hF2⟩ := make_any 16 (by decide) w2
  replace mk2 : (Instr.makeSlice 22 (.int .i64 16) (.int .i64 16)).run Tryd.prog w2 = .ok (.slice (some ⟨w2.heap.size, 0, none⟩) 16 16) (w2.alloc (.cells c2 5)) := mk2
  have g3 := World.grownBy_alloc w2 (.cells c2 5) none
  have hT := texts1 (w2.alloc (.cells c2 5)) (some ⟨w2.heap.size, 0, none⟩) 16 16 (fun _ => 0) _ rfl (Nat.le_refl _) (hF2.rd (by decide) 16 (Nat.le_refl _))
  have g4 := grown_alloc g3 (.cells #[.slice (some ⟨w2.heap.size, 0, none⟩) 16 16] 22)
  have hz4 : (w2.alloc (.cells c2 5)).heap.size = w2.heap.size + 1 := by simp
  rw [hz4] at hT
  have hm2 : m < w2.heap.size := World.block_lt_of_cell? w2 _ hC.rounds
  have hTn := turn_any m 10 1 1 (some ⟨w2.heap.size + 1, 0, none⟩) C (keyW 4 (fun _ => 0)) (fun _ => 0) (fun j => if j = 0 then 0 else 16) (fun _ => 0)
    ((w2.alloc (.cells c2 5)).alloc (.cells #[.slice (some ⟨w2.heap.size, 0, none⟩) 16 16] 22)) (keyW_lt 4 _ (fun _ => by decide)) (fun _ => by decide) (fun _ => by decide) (by decide) (by decide) hc
    (hC.grown g4 (by simp)) (hL.grown (grown_trans g02 g4) (by simp)) (by have := g4.size; omega) (by have := (grown_trans g02 g4).size; omega) hT (by decide) (by decide)
  rw [← zero16] at hTn
  have HT := Lib.hid hTn
  have G4 := Lib.hid (grown_trans g02 g4)
  clear hTn hT g3 g4 hF2 N1 G0 hz4
  go_wp2_with fail
  go_at_call 8
  with_reducible refine (HT.out).mono ?_
  rintro e w3 ⟨v3, rfl, hv3, g3⟩
  have g03 := grown_trans G4.out g3
  have hm3 : m < w3.heap.size := by have := g3.size; simp at this; omega
  obtain ⟨va, vc, rfl, _, hRv⟩ := hv3.rd
  have hF1 : Holds (w3.alloc (.cells #[.int .u8 1, .int .u8 0, .int .u8 0, .int .u8 0, .int .u8 0, .int .u8 0, .int .u8 0, .int .u8 0, .int .u8 0, .int .u8 0, .int .u8 0, .int .u8 0, .int .u8 0, .int .u8 0, .int .u8 0, .int .u8 0] 23)) w3.heap.size 23 .u8 16 (fun j => if j = 0 then 1 else if j < 1 then 255 else 0) := holds_alloc w3 23 .u8 16 _ _ rfl
  have g4 := World.grownBy_alloc w3 (.cells #[.int .u8 1, .int .u8 0, .int .u8 0, .int .u8 0, .int .u8 0, .int .u8 0, .int .u8 0, .int .u8 0, .int .u8 0, .int .u8 0, .int .u8 0, .int .u8 0, .int .u8 0, .int .u8 0, .int .u8 0, .int .u8 0] 23) none
  have HG4 := Lib.hid g4
  have HF1 := Lib.hid hF1
  have HG03 := Lib.hid g03
  replace hRv : Rd w3 w3.heap.size va 16 (turnF 10 (keyW 4 fun _ => 0) (fun _ => 0) fun _ => 0) := hRv
  have HRv := Lib.hid hRv
  have Hm3 := Lib.hid hm3
  clear g4 hF1 g03 g3 hv3 hRv HT G4 mk2 hm2 g02 g2 hm hc hC hm3
  go_wp2_with fail
  have hH0 := HF1.out
  have hG4 := HG4.out
  clear HF1 HG4
  generalize w3.alloc (.cells #[.int .u8 1, .int .u8 0, .int .u8 0, .int .u8 0, .int .u8 0, .int .u8 0, .int .u8 0, .int .u8 0, .int .u8 0, .int .u8 0, .int .u8 0, .int .u8 0, .int .u8 0, .int .u8 0, .int .u8 0, .int .u8 0] 23) = w4 at *
  go_loopw [6] (fun u6 wr => ∃ i : Nat, 1 ≤ i ∧ i ≤ 16 ∧ u6 = .int .i64 i ∧ w3.grownBy wr none ∧ Holds wr w3.heap.size 23 .u8 16 (fun j => if j = 0 then 1 else if j < i then 255 else 0)) (fun u6 _ => 16 - (intOf u6).toNat)
  case atStart => exact ⟨1, by omega, by omega, rfl, hG4, hH0⟩
  case round =>
    clear hG4 hH0
    obtain ⟨i, hi1, hi, rfl, hg, hH⟩ := hrel
    by_cases hlt : i < 16
    · have j1 : (i : Int) < 16 := by omega
      have c0 := hH.cell i hlt
      have f0 := hH.frozen i
      have hH2 : Holds (wr.setCell ⟨w3.heap.size, i, none⟩ (.int .u8 (255 : Nat))) w3.heap.size 23 .u8 16 (fun j => if j = 0 then 1 else if j < i + 1 then 255 else 0) := (hH.set i 255).congr (fun j hj => by
        unfold upd
        by_cases e : j = i
        · rw [if_pos e, if_neg (by omega), if_pos (by omega)]
        · rw [if_neg e]
          show (if j = 0 then 1 else if j < i then 255 else 0) = if j = 0 then 1 else if j < i + 1 then 255 else 0
          by_cases e0 : j = 0
          · rw [if_pos e0, if_pos e0]
          · rw [if_neg e0, if_neg e0]
            by_cases e2 : j < i
            · rw [if_pos e2, if_pos (by omega)]
            · rw [if_neg e2, if_neg (by omega)])
      have hg2 := grown_setCell_new hg ⟨w3.heap.size, i, none⟩ (.int .u8 (255 : Nat)) (Or.inl (Nat.le_refl _))
      have HH2 := Lib.hid hH2
      have HG2 := Lib.hid hg2
      clear hH2 hg2 hH hg
      go_wp2_with fail
      first
        | exact ⟨⟨i + 1, by omega, by omega, by go_num, HG2.out, HH2.out⟩, by simp [intOf]; omega⟩
        | (go_roundw
           case rel => exact ⟨i + 1, by omega, by omega, by go_num, HG2.out, HH2.out⟩
           case measure => simp [intOf]; omega)
    · obtain rfl : i = 16 := by omega
      have hF : Holds wr w3.heap.size 23 .u8 16 cF := hH.congr (fun j hj => by unfold cF; by_cases e : j = 0 <;> simp [e, hj])
      have hbF := hF.block
      have hbn := heap_alloc_new wr (.cells #[.int .u8 0, .int .u8 0, .int .u8 0, .int .u8 0, .int .u8 0, .int .u8 0, .int .u8 0, .int .u8 0, .int .u8 0, .int .u8 0, .int .u8 0, .int .u8 0, .int .u8 0, .int .u8 0, .int .u8 0, .int .u8 0] 23)
      have hN0 : Holds (wr.alloc (.cells #[.int .u8 0, .int .u8 0, .int .u8 0, .int .u8 0, .int .u8 0, .int .u8 0, .int .u8 0, .int .u8 0, .int .u8 0, .int .u8 0, .int .u8 0, .int .u8 0, .int .u8 0, .int .u8 0, .int .u8 0, .int .u8 0] 23)) wr.heap.size 23 .u8 16 (fun _ => 0) := holds_alloc wr 23 .u8 16 (fun _ => 0) _ zero16
      have hbF1 := (hF.grown (World.grownBy_alloc wr (.cells #[.int .u8 0, .int .u8 0, .int .u8 0, .int .u8 0, .int .u8 0, .int .u8 0, .int .u8 0, .int .u8 0, .int .u8 0, .int .u8 0, .int .u8 0, .int .u8 0, .int .u8 0, .int .u8 0, .int .u8 0, .int .u8 0] 23) none) (by simp)).block
      have g5 := grown_setRow_new (World.grownBy_alloc wr (.cells #[.int .u8 0, .int .u8 0, .int .u8 0, .int .u8 0, .int .u8 0, .int .u8 0, .int .u8 0, .int .u8 0, .int .u8 0, .int .u8 0, .int .u8 0, .int .u8 0, .int .u8 0, .int .u8 0, .int .u8 0, .int .u8 0] 23) none) wr.heap.size (cellsOf .u8 16 cF) (Or.inl (Nat.le_refl _))
      have hW1 := hN0.setRow .u8 16 cF
      have HG5 := Lib.hid g5
      have HF := Lib.hid hF
      have HG := Lib.hid hg
      clear hlt hi1 hi hH hN0 g5 hg
      go_upto_region 9 with (first
        | refine wpList_load_row rfl 23 (.tmp 5) rfl w3.heap.size rfl 23 _ (0, 0) (.array 16 5) hbF (by kernel_rfl) rfl (by rw [cellsOf_size]; kernel_rfl) ?_
        | refine wpList_load_row rfl 23 (.tmp 5) rfl w3.heap.size rfl 23 _ (0, 0) (.array 16 5) hbF1 (by kernel_rfl) rfl (by rw [cellsOf_size]; kernel_rfl) ?_
        | refine wpList_store_row rfl 23 (.tmp 7) (.tmp 30) rfl wr.heap.size _ rfl rfl 23 _ hbn (by rw [cellsOf_size]; kernel_rfl) rfl (cellsOf_all _ _ _) ?_)
      have HF5 := Lib.hid ((hF.grown (World.grownBy_alloc wr (.cells #[.int .u8 0, .int .u8 0, .int .u8 0, .int .u8 0, .int .u8 0, .int .u8 0, .int .u8 0, .int .u8 0, .int .u8 0, .int .u8 0, .int .u8 0, .int .u8 0, .int .u8 0, .int .u8 0, .int .u8 0, .int .u8 0] 23) none) (by simp)).of_block (setRow_other (wr.alloc (.cells #[.int .u8 0, .int .u8 0, .int .u8 0, .int .u8 0, .int .u8 0, .int .u8 0, .int .u8 0, .int .u8 0, .int .u8 0, .int .u8 0, .int .u8 0, .int .u8 0, .int .u8 0, .int .u8 0, .int .u8 0, .int .u8 0] 23)) wr.heap.size w3.heap.size (cellsOf .u8 16 cF) (by have := hF.lt; omega)))
      obtain ⟨b7, hb7⟩ : ∃ b, b = wr.heap.size := ⟨_, rfl⟩
      have h37 : w3.heap.size < b7 := by rw [hb7]; exact hF.lt
      rw [← hb7] at hW1 HG5 HF5 ⊢
      clear hbn hbF1 hbF hb7 HF
      generalize (wr.alloc (.cells #[.int .u8 0, .int .u8 0, .int .u8 0, .int .u8 0, .int .u8 0, .int .u8 0, .int .u8 0, .int .u8 0, .int .u8 0, .int .u8 0, .int .u8 0, .int .u8 0, .int .u8 0, .int .u8 0, .int .u8 0, .int .u8 0] 23)).setRow b7 (cellsOf .u8 16 cF) = w5 at *
      have a1 := hW1.cell 12 (by decide)
      have f1 := hW1.frozen 12
      have hW2 := hW1.set 12 0
      have a2 := hW2.cell 13 (by decide)
      have f2 := hW2.frozen 13
      have hW3 := hW2.set 13 0
      have a3 := hW3.cell 14 (by decide)
      have f3 := hW3.frozen 14
      have hW4 := hW3.set 14 0
      have a4 := hW4.cell 15 (by decide)
      have f4 := hW4.frozen 15
      have hW5 := (hW4.set 15 0).congr (g := cW) (fun j hj => by
        unfold upd cF cW
        obtain rfl | rfl | rfl | rfl | h : j = 12 ∨ j = 13 ∨ j = 14 ∨ j = 15 ∨ j < 12 := by omega
        all_goals (first | rfl | skip)
        rw [if_neg (by omega), if_neg (by omega), if_neg (by omega), if_neg (by omega)]
        by_cases e : j = 0
        · rw [if_pos e, if_pos e]
        · rw [if_neg e, if_neg e, if_pos h])
      have g7 := fun (U : World) (v : Value) (i : Nat) (h : w3.grownBy U none) => grown_setCell_new h ⟨b7, i, none⟩ v (Or.inl (by show w3.heap.size ≤ b7; omega))
      have HG7 := Lib.hid (g7 _ (.int .u8 (0 : Nat)) 15 (g7 _ (.int .u8 (0 : Nat)) 14 (g7 _ (.int .u8 (0 : Nat)) 13 (g7 _ (.int .u8 (0 : Nat)) 12 (grown_trans HG.out HG5.out)))))
      have HF7 := Lib.hid ((((HF5.out.setOther ⟨b7, 12, none⟩ (.int .u8 (0 : Nat)) (by show w3.heap.size ≠ b7; omega)).setOther ⟨b7, 13, none⟩ (.int .u8 (0 : Nat)) (by show w3.heap.size ≠ b7; omega)).setOther ⟨b7, 14, none⟩ (.int .u8 (0 : Nat)) (by show w3.heap.size ≠ b7; omega)).setOther ⟨b7, 15, none⟩ (.int .u8 (0 : Nat)) (by show w3.heap.size ≠ b7; omega))
      have HW5 := Lib.hid hW5
      clear hW1 hW2 hW3 hW4 hW5 g7 HF5 HG HG5
      replace a1 : w5.cell? ⟨b7, 12, none⟩ = some (.int .u8 255) := a1
      replace a2 : (w5.setCell ⟨b7, 12, none⟩ (.int .u8 0)).cell? ⟨b7, 13, none⟩ = some (.int .u8 255) := a2
      replace a3 : ((w5.setCell ⟨b7, 12, none⟩ (.int .u8 0)).setCell ⟨b7, 13, none⟩ (.int .u8 0)).cell? ⟨b7, 14, none⟩ = some (.int .u8 255) := a3
      replace a4 : (((w5.setCell ⟨b7, 12, none⟩ (.int .u8 0)).setCell ⟨b7, 13, none⟩ (.int .u8 0)).setCell ⟨b7, 14, none⟩ (.int .u8 0)).cell? ⟨b7, 15, none⟩ = some (.int .u8 255) := a4
      replace f2 : (w5.setCell ⟨b7, 12, none⟩ (.int .u8 0)).frozen? ⟨b7, 13, none⟩ = false := f2
      replace f3 : ((w5.setCell ⟨b7, 12, none⟩ (.int .u8 0)).setCell ⟨b7, 13, none⟩ (.int .u8 0)).frozen? ⟨b7, 14, none⟩ = false := f3
      replace f4 : (((w5.setCell ⟨b7, 12, none⟩ (.int .u8 0)).setCell ⟨b7, 13, none⟩ (.int .u8 0)).setCell ⟨b7, 14, none⟩ (.int .u8 0)).frozen? ⟨b7, 15, none⟩ = false := f4
      go_upto_region 10 with fail
      obtain ⟨w7, hw7⟩ : ∃ w7, w7 = (((w5.setCell ⟨b7, 12, none⟩ (.int .u8 0)).setCell ⟨b7, 13, none⟩ (.int .u8 0)).setCell ⟨b7, 14, none⟩ (.int .u8 0)).setCell ⟨b7, 15, none⟩ (.int .u8 0) := ⟨_, rfl⟩
      have G7 : Hid (w3.grownBy w7 none) := by rw [hw7]; exact HG7
      have F7 : Hid (Holds w7 w3.heap.size 23 .u8 16 cF) := by rw [hw7]; exact HF7
      have W7 : Hid (Holds w7 b7 23 .u8 16 cW) := by rw [hw7]; exact HW5
      rw [← hw7]
      have hb7F := F7.out.block
      clear a1 a2 a3 a4 f1 f2 f3 f4 HG7 HF7 HW5 hw7 hF
      go_upto_region 11 with (first
        | refine wpList_load_row rfl 23 (.tmp 5) rfl w3.heap.size rfl 23 _ (0, 0) (.array 16 5) hb7F (by kernel_rfl) rfl (by rw [cellsOf_size]; kernel_rfl) ?_
        | (go_at_call 8; (with_reducible refine (turn_nil cF _ _).mono ?_); rintro e w8 ⟨rfl, g8⟩))
      have g78 := grown_trans (grown_alloc (World.grownBy_alloc w7 (.cells #[.int .u8 1] 5) none) (.cells #[.slice (some ⟨w7.heap.size, 0, none⟩) 1 1] 22)) g8
      have HF8 := Lib.hid (F7.out.grown g78 (by simp))
      have HW8 := Lib.hid (W7.out.grown g78 (by simp))
      have g38 := grown_trans G7.out g78
      have HR8 := Lib.hid (HRv.out.up (Nat.le_refl _) g38)
      have HG8 := Lib.hid (grown_trans HG03.out g38)
      obtain ⟨G, hG⟩ : ∃ G, G = turnF 10 (keyW 4 fun _ => 0) (fun _ => 0) (fun _ => 0) := ⟨_, rfl⟩
      rw [← hG] at HR8
      have HGl : Hid (∀ i, G i < 256) := Lib.hid (fun i => by rw [hG]; exact turnF_lt _ _ _ _ (keyW_lt 4 _ (fun _ => by decide)) (fun _ => by decide) (fun _ => by decide) i)
      have Hstr : Hid (strOf 16 G = ⟨#[102, 233, 75, 212, 239, 138, 44, 59, 136, 76, 250, 89, 202, 52, 43, 46]⟩) := Lib.hid (by
        rw [hG, strOf_congr 16 _ (lst ctZ) turn_zero]
        kernel_rfl)
      obtain ⟨nA, hnA⟩ : ∃ n, n = nextF cA := ⟨_, rfl⟩
      obtain ⟨nF, hnF⟩ : ∃ n, n = nextF cF := ⟨_, rfl⟩
      have HeA : Hid (eq16 nA cB = true) := Lib.hid (by rw [hnA]; exact next_A)
      have HeF : Hid (eq16 nF cW = true) := Lib.hid (by rw [hnF]; exact next_F)
      have HcA : Hid (∀ W, w8.grownBy W none → Calls Tryd.prog 9 #[.agg (cellsOf .u8 16 cA)] W fun e w' => e = .returned (.agg (cellsOf .u8 16 nA)) ∧ w8.grownBy w' none) := Lib.hid (fun W hW => by
        rw [hnA]
        exact (next_any cA W cA_lt).mono fun e w' ⟨h1, h2⟩ => ⟨h1, grown_trans hW h2⟩)
      have HcF : Hid (∀ W, w8.grownBy W none → Calls Tryd.prog 9 #[.agg (cellsOf .u8 16 cF)] W fun e w' => e = .returned (.agg (cellsOf .u8 16 nF)) ∧ w8.grownBy w' none) := Lib.hid (fun W hW => by
        rw [hnF]
        exact (next_any cF W cF_lt).mono fun e w' ⟨h1, h2⟩ => ⟨h1, grown_trans hW h2⟩)
      clear g78 g38 g8 hG hnA hnF F7 W7 G7 hb7F HRv
      refine wp_region_quiet (C := fun W => w8.grownBy W none) (by kernel_rfl) (by kernel_rfl) (grown_drew (grown_refl w8 none)) ?_
      refine wpQ_val (some 42) (v := .int .i64 0) rfl rfl (fun _ _ => rfl) ?_
      simp only [Act.put, List.setIfInBounds_toArray, List.set_cons_succ, List.set_cons_zero]
      refine wpQ_val (some 43) (v := .bool true) rfl rfl (fun _ _ => by go_simp) ?_
      simp only [Act.put, List.setIfInBounds_toArray, List.set_cons_succ, List.set_cons_zero]
      refine wpQ_val (some 44) (v := .bool true) rfl rfl (fun _ _ => rfl) ?_
      simp only [Act.put, List.setIfInBounds_toArray, List.set_cons_succ, List.set_cons_zero]
      refine wpQ_val (some 45) (v := .int .i64 0) rfl rfl (fun _ _ => rfl) ?_
      simp only [Act.put, List.setIfInBounds_toArray, List.set_cons_succ, List.set_cons_zero]
      refine wpQ_val (some 46) (v := .bool true) rfl rfl (fun _ _ => by go_simp) ?_
      simp only [Act.put, List.setIfInBounds_toArray, List.set_cons_succ, List.set_cons_zero]
      refine wpQ_val (some 47) (v := .bool true) rfl rfl (fun _ _ => rfl) ?_
      simp only [Act.put, List.setIfInBounds_toArray, List.set_cons_succ, List.set_cons_zero]
      refine wpQ_val (some 48) (v := .bool true) rfl rfl (fun _ _ => rfl) ?_
      simp only [Act.put, List.setIfInBounds_toArray, List.set_cons_succ, List.set_cons_zero]
      refine wpQ_val (some 49) (v := .slice va 16 vc) rfl rfl (fun _ _ => rfl) ?_
      simp only [Act.put, List.setIfInBounds_toArray, List.set_cons_succ, List.set_cons_zero]
      refine wpQ_val (some 50) (v := .string ⟨#[102, 233, 75, 212, 239, 138, 44, 59, 136, 76, 250, 89, 202, 52, 43, 46]⟩) rfl rfl (fun W hW => by rw [← Hstr.out]; exact run_convS 49 rfl rfl (HR8.out.up (Nat.le_refl _) hW) HGl.out) ?_
      simp only [Act.put, List.setIfInBounds_toArray, List.set_cons_succ, List.set_cons_zero]
      refine wpQ_val (some 51) (v := .bool true) rfl rfl (fun _ _ => by go_simp) ?_
      simp only [Act.put, List.setIfInBounds_toArray, List.set_cons_succ, List.set_cons_zero]
      refine wpQ_val (some 52) (v := .bool true) rfl rfl (fun _ _ => rfl) ?_
      simp only [Act.put, List.setIfInBounds_toArray, List.set_cons_succ, List.set_cons_zero]
      refine wpQ_val (some 53) (v := .bool true) rfl rfl (fun _ _ => rfl) ?_
      simp only [Act.put, List.setIfInBounds_toArray, List.set_cons_succ, List.set_cons_zero]
      refine wpQ_val (some 54) (v := .agg (cellsOf .u8 16 cA)) rfl rfl (fun _ _ => by go_simp; rfl) ?_
      simp only [Act.put, List.setIfInBounds_toArray, List.set_cons_succ, List.set_cons_zero]
      refine wpQ_call (some 55) 9 #[.agg (cellsOf .u8 16 cA)] (v := .agg (cellsOf .u8 16 nA)) rfl rfl (exec_fn1 _ _ _ rfl rfl) next_enters (HcA.out) ?_
      simp only [Act.put, List.setIfInBounds_toArray, List.set_cons_succ, List.set_cons_zero]
      refine wpQ_val (some 56) (v := .agg (cellsOf .u8 16 cB)) rfl rfl (fun _ _ => by go_simp; rfl) ?_
      simp only [Act.put, List.setIfInBounds_toArray, List.set_cons_succ, List.set_cons_zero]
      refine wpQ_val (some 57) (v := .bool true) rfl rfl (fun _ _ => by rw [← HeA.out]; exact run_eqlB _ _ _ _ rfl rfl rfl) ?_
      simp only [Act.put, List.setIfInBounds_toArray, List.set_cons_succ, List.set_cons_zero]
      refine wpQ_val (some 58) (v := .bool true) rfl rfl (fun _ _ => rfl) ?_
      simp only [Act.put, List.setIfInBounds_toArray, List.set_cons_succ, List.set_cons_zero]
      refine wpQ_val (some 59) (v := .bool true) rfl rfl (fun _ _ => rfl) ?_
      simp only [Act.put, List.setIfInBounds_toArray, List.set_cons_succ, List.set_cons_zero]
      refine wpQ_val (some 60) (v := .agg (cellsOf .u8 16 cF)) rfl rfl (fun W hW => run_blk (HF8.out.grown hW (by simp)) rfl rfl) ?_
      simp only [Act.put, List.setIfInBounds_toArray, List.set_cons_succ, List.set_cons_zero]
      refine wpQ_call (some 61) 9 #[.agg (cellsOf .u8 16 cF)] (v := .agg (cellsOf .u8 16 nF)) rfl rfl (exec_fn1 _ _ _ rfl rfl) next_enters (HcF.out) ?_
      simp only [Act.put, List.setIfInBounds_toArray, List.set_cons_succ, List.set_cons_zero]
      refine wpQ_val (some 62) (v := .agg (cellsOf .u8 16 cW)) rfl rfl (fun W hW => run_blk (HW8.out.grown hW (by simp)) rfl rfl) ?_
      simp only [Act.put, List.setIfInBounds_toArray, List.set_cons_succ, List.set_cons_zero]
      refine wpQ_val (some 63) (v := .bool true) rfl rfl (fun _ _ => by rw [← HeF.out]; exact run_eqlB _ _ _ _ rfl rfl rfl) ?_
      simp only [Act.put, List.setIfInBounds_toArray, List.set_cons_succ, List.set_cons_zero]
      refine wpQ_val (some 64) (v := .bool true) rfl rfl (fun _ _ => rfl) ?_
      simp only [Act.put, List.setIfInBounds_toArray, List.set_cons_succ, List.set_cons_zero]
      refine wpQ_val (some 65) (v := .bool true) rfl rfl (fun _ _ => rfl) ?_
      simp only [Act.put, List.setIfInBounds_toArray, List.set_cons_succ, List.set_cons_zero]
      refine wpQ_val (some 66) (v := .int .i64 1) rfl rfl (fun _ _ => rfl) ?_
      simp only [Act.put, List.setIfInBounds_toArray, List.set_cons_succ, List.set_cons_zero]
      refine wpQ_val (some 67) (v := .bool true) rfl rfl (fun _ _ => by go_simp) ?_
      simp only [Act.put, List.setIfInBounds_toArray, List.set_cons_succ, List.set_cons_zero]
      refine wpQ_val (some 68) (v := .bool true) rfl rfl (fun _ _ => rfl) ?_
      simp only [Act.put, List.setIfInBounds_toArray, List.set_cons_succ, List.set_cons_zero]
      refine wpQ_val (some 0) (v := .bool true) rfl rfl (fun _ _ => rfl) ?_
      simp only [Act.put, List.setIfInBounds_toArray, List.set_cons_zero]
      refine wpQuiet_nil ?_
      intro W hW
      go_wp2_with fail
      go_ret
      exact ⟨⟨rfl, grown_trans HG8.out hW⟩⟩

end Go.Proofs.YtapmpjmhcloejaaDoor
namespace Go.Proofs.YtapmpjmhcloejaaDoor
open Go.RowKit

set_option maxRecDepth 100000
set_option maxHeartbeats 2000000

theorem Texts.base {w : World} {B B' : Nat} {a : Option Addr} {n : Nat} {off g : Nat → Nat} (h : Texts w B a n off g) (hB : B ≤ B') : Texts w B' a n off g where
  zero := h.zero
  ex := fun h0 => by
    obtain ⟨lb, lo, h1, h2, h3⟩ := h.ex h0
    refine ⟨lb, lo, h1, by omega, fun j hj => ?_⟩
    obtain ⟨aj, L, c, q1, q2, q3, q4⟩ := h3 j hj
    exact ⟨aj, L, c, q1, q2, q3, fun hL => by
      obtain ⟨tb, o, r1, r2, r3⟩ := q4 hL
      exact ⟨tb, o, r1, by omega, r3⟩⟩
theorem exec_fn4 {o : Oper} {a : Act} (f : FuncId) (t1 t2 t3 t4 : Operand) (v1 v2 v3 v4 : Value) {ats : Array TypeId} (hop : o.op = .call { callee := .value (.func f), args := #[t1, t2, t3, t4], argTypes := ats }) (h1 : a.eval t1 = v1)
    (h2 : a.eval t2 = v2) (h3 : a.eval t3 = v3) (h4 : a.eval t4 = v4) : execOp a.eval o = callFunc f #[v1, v2, v3, v4] := by
  have e1 : execOp a.eval o = callFunc f #[a.eval t1, a.eval t2, a.eval t3, a.eval t4] := by
    unfold execOp
    simp [hop, resolve, Deferred.ofValue, invoke, Act.eval]
  rw [e1, h1, h2, h3, h4]
theorem join_enters (args : Array Value) (w : World) : (callFunc 13 args).run Tryd.prog w = .ok (.enter 13 args) w :=
  enters_of Tryd.func13 (by kernel_rfl) rfl args w
theorem rturn_enters (args : Array Value) (w : World) : (callFunc 12 args).run Tryd.prog w = .ok (.enter 12 args) w :=
  enters_of Tryd.func12 (by kernel_rfl) rfl args w
theorem rnext_enters (args : Array Value) (w : World) : (callFunc 14 args).run Tryd.prog w = .ok (.enter 14 args) w :=
  enters_of Tryd.func14 (by kernel_rfl) rfl args w
theorem some_enters (args : Array Value) (w : World) : (callFunc 15 args).run Tryd.prog w = .ok (.enter 15 args) w :=
  enters_of Tryd.func15 (by kernel_rfl) rfl args w

theorem ctrTurns_any (n c nl cl : Nat) (ka la : Option Addr) (fk ff off g : Nat → Nat) (w : World) (hL : LaidS w 0) (hsz : 0 < w.heap.size) (hR : Rd w w.heap.size ka n fk)
    (hT : Texts w w.heap.size la nl off g) (hnl : nl ≤ 2 ^ 47) (hTL : ∀ j, j < nl → off (j + 1) ≤ off j + 2 ^ 47) (hk : ∀ i, fk i < 256) (hf : ∀ i, ff i < 256) (hg : ∀ i, g i < 256) :
    Calls Tryd.prog 3 #[.slice ka n c, .agg (cellsOf .u8 16 ff), .slice la nl cl] w (SaysYes w) := by
  have hB0 : Holds (w.alloc (.cells (cellsOf .u8 16 ff) 23)) w.heap.size 23 .u8 16 ff := holds_alloc w 23 .u8 16 ff _ rfl
  have g0 := World.grownBy_alloc w (.cells (cellsOf .u8 16 ff) 23) none
  have hK := known04 (w.alloc (.cells (cellsOf .u8 16 ff) 23)) (hL.grown g0 (by simp)) (by simp)
  have HK := Lib.hid hK
  have HB0 := Lib.hid hB0
  have G0 := Lib.hid g0
  have HT := Lib.hid hT
  have HTL := Lib.hid hTL
  clear hK hB0 g0 hT hTL
  go_enter Tryd.func3, Tryd.ntmps3
  go_wp2_with fail
  go_at_call 5
  with_reducible refine (HK.out).mono ?_
  rintro e w1 ⟨⟨rfl, g1⟩⟩
  have g01 := grown_trans G0.out g1
  have hB1 := HB0.out.grown g1 (by simp)
  have hGr := great_M 1000 (by decide) nl cl w.heap.size la off g w1 (HT.out.grown g01 (fun k e => by cases e)) hnl HTL.out
  have HGr : Hid (Calls Tryd.prog 6 #[.slice la nl cl, .int .i64 1000] w1 fun e w' => e = .returned (.bool (decide (1000 < nl + off nl))) ∧ w1 = w') := Lib.hid hGr
  clear hGr hnl
  by_cases h16 : n = 16 ∨ n = 32
  · have hcase : (((n : Int) != 16) = false) ∨ (((n : Int) != 16) = true ∧ ((n : Int) != 32) = false) := by
      by_cases h : n = 16
      · left; rw [bne_eq_false_iff_eq]; omega
      · right; exact ⟨by rw [bne_iff_ne]; omega, by rw [bne_eq_false_iff_eq]; omega⟩
    go_upto_region 3 with fail
    go_cut [27] (fun s27 wx => s27 = .bool (decide (1000 < nl + off nl)) ∧ wx = w1)
    case first =>
      clear HTL HT HB0 HK h16 hB1 hR hL
      rcases hcase with h | ⟨h1, h2⟩
      · go_wp2_with (go_at_call 6; (with_reducible refine (HGr.out).mono ?_); rintro e w' ⟨rfl, rfl⟩)
        go_meet
        case rel => exact ⟨rfl, rfl⟩
      · go_wp2_with (go_at_call 6; (with_reducible refine (HGr.out).mono ?_); rintro e w' ⟨rfl, rfl⟩)
        go_meet
        case rel => exact ⟨rfl, rfl⟩
    case rest =>
      obtain ⟨rfl, rfl⟩ := hcut
      clear hcase HGr
      by_cases hgr : 1000 < nl + off nl
      · have hd : decide (1000 < nl + off nl) = true := by simpa using hgr
        rw [hd]
        clear hd hgr
        go_wp2_with fail
        go_ret
        exact ⟨⟨rfl, g01⟩⟩
      · have hd : decide (1000 < nl + off nl) = false := by simpa using hgr
        rw [hd]
        have hnl : nl ≤ 1000 := by omega
        have hoff : off nl ≤ 1000 := by omega
        clear hd hgr
        obtain ⟨N, hN, hLN⟩ : ∃ N, (N = 4 ∨ N = 8) ∧ n = 4 * N := by
          rcases h16 with h | h
          · exact ⟨4, Or.inl rfl, h⟩
          · exact ⟨8, Or.inr rfl, h⟩
        have hN6 : N + 6 ≤ 14 := by omega
        have hN1 : 1 ≤ N + 6 := by omega
        have HN := Lib.hid hN
        have HLN := Lib.hid hLN
        have n1 := new_ok N n c ka fk wc (hL.grown g01 (by simp)) hN hLN (hR.up (Nat.le_refl _) g01) hk (by have := g01.size; omega)
        have N1 := Lib.hid n1
        have hkw : ∀ i, keyW N fk i < 256 := keyW_lt N fk hk
        clear n1 h16 hN hLN
        go_wp2_with fail
        go_at_call 7
        with_reducible refine (N1.out).mono ?_
        rintro e w2 ⟨m, C, rfl, hm, g2, hC, hc⟩
        have g02 := grown_trans g01 g2
        have hB2 := hB1.grown g2 (by simp)
        have hb2 := hB2.block
        have hml := World.block_lt_of_cell? w2 _ hC.rounds
        have hTn := turn_any m (N + 6) nl cl la C (keyW N fk) ff off g w2 hkw hf hg hN1 hN6 hc hC (hL.grown g02 (by simp)) hml (by have := g02.size; omega) ((HT.out.grown g02 (fun k e => by cases e)).base g02.size) (by omega) (by omega)
        obtain ⟨G, hG⟩ : ∃ G, G = turnF (N + 6) (keyW N fk) ff g := ⟨_, rfl⟩
        rw [← hG] at hTn
        have HTn := Lib.hid hTn
        have HG := Lib.hid hG
        clear hTn hG N1 hB1 g2
        go_upto_region 7 with (first
          | refine wpList_load_row rfl 23 (.tmp 4) rfl w.heap.size rfl 23 _ (0, 0) (.array 16 5) hb2 (by kernel_rfl) rfl (by rw [cellsOf_size]; kernel_rfl) ?_
          | (go_at_call 8; (with_reducible refine (HTn.out).mono ?_); rintro e w3 ⟨v3, rfl, hv3, g3⟩))
        obtain ⟨va, vc, rfl, hvc, hRv⟩ := hv3.rd
        have g03 := grown_trans g02 g3
        have hB3 := hB2.grown g3 (by simp)
        have hb3 := hB3.block
        have hC3 := hC.grown g3 (by simp)
        obtain ⟨nF, hnF⟩ : ∃ x, x = nextF ff := ⟨_, rfl⟩
        have hNx := next_any ff w3 hf
        rw [← hnF] at hNx
        have HNx := Lib.hid hNx
        have HnF := Lib.hid hnF
        have HRv := Lib.hid hRv
        obtain ⟨bb, hbb⟩ : ∃ b, b = w.heap.size := ⟨_, rfl⟩
        rw [← hbb] at hB3 hb3 ⊢
        have hbbl : bb < w3.heap.size := hB3.lt
        have HBb := Lib.hid hbb
        clear hv3 hNx hnF hRv hB2 hb2 hC g3 g1 hm HTn hbb
        go_wp2_with (refine wpList_load_row rfl 23 (.tmp 4) rfl bb rfl 23 _ (0, 0) (.array 16 5) hb3 (by kernel_rfl) rfl (by rw [cellsOf_size]; kernel_rfl) ?_)
        go_at_call 9
        with_reducible refine (HNx.out).mono ?_
        rintro e w4 ⟨rfl, g4⟩
        have g04 := grown_trans g03 g4
        have hbn := heap_alloc_new w4 (.cells #[.int .u8 0, .int .u8 0, .int .u8 0, .int .u8 0, .int .u8 0, .int .u8 0, .int .u8 0, .int .u8 0, .int .u8 0, .int .u8 0, .int .u8 0, .int .u8 0, .int .u8 0, .int .u8 0, .int .u8 0, .int .u8 0] 23)
        have hN0 : Holds (w4.alloc (.cells #[.int .u8 0, .int .u8 0, .int .u8 0, .int .u8 0, .int .u8 0, .int .u8 0, .int .u8 0, .int .u8 0, .int .u8 0, .int .u8 0, .int .u8 0, .int .u8 0, .int .u8 0, .int .u8 0, .int .u8 0, .int .u8 0] 23)) w4.heap.size 23 .u8 16 (fun _ => 0) := holds_alloc w4 23 .u8 16 (fun _ => 0) _ zero16
        have hN1 := hN0.setRow .u8 16 nF
        have g45 := grown_setRow_new (World.grownBy_alloc w4 (.cells #[.int .u8 0, .int .u8 0, .int .u8 0, .int .u8 0, .int .u8 0, .int .u8 0, .int .u8 0, .int .u8 0, .int .u8 0, .int .u8 0, .int .u8 0, .int .u8 0, .int .u8 0, .int .u8 0, .int .u8 0, .int .u8 0] 23) none) w4.heap.size (cellsOf .u8 16 nF) (Or.inl (Nat.le_refl _))
        obtain ⟨w5, hw5⟩ : ∃ w5, w5 = (w4.alloc (.cells #[.int .u8 0, .int .u8 0, .int .u8 0, .int .u8 0, .int .u8 0, .int .u8 0, .int .u8 0, .int .u8 0, .int .u8 0, .int .u8 0, .int .u8 0, .int .u8 0, .int .u8 0, .int .u8 0, .int .u8 0, .int .u8 0] 23)).setRow w4.heap.size (cellsOf .u8 16 nF) := ⟨_, rfl⟩
        rw [← hw5] at hN1 g45
        have HW5 := Lib.hid hw5
        have HN11 := Lib.hid hN1
        have G45 := Lib.hid (grown_trans g4 g45)
        have hbx := box_any w5
        have HBX := Lib.hid hbx
        have Hbb3 := Lib.hid hbbl
        clear hbx hN0 hN1 g45 hw5 HNx g4 hbbl
        go_upto_region 8 with (refine wpList_store_row rfl 23 (.tmp 11) (.tmp 41) rfl w4.heap.size _ rfl rfl 23 _ hbn (by rw [cellsOf_size]; kernel_rfl) rfl (cellsOf_all _ _ _) ?_)
        rw [← HW5.out]
        obtain ⟨b11, hb11⟩ : ∃ b, b = w4.heap.size := ⟨_, rfl⟩
        rw [← hb11] at HN11 ⊢
        clear hbn HW5 hb11
        go_wp2_with fail
        go_at_call 10
        with_reducible refine (HBX.out).mono ?_
        rintro e w6 ⟨rb, rfl, _, hF6, g6⟩
        have g36 := grown_trans G45.out g6
        have g06 := grown_trans g03 g36
        have hCl := rcols_any N n c rb ka fk w6 HN.out HLN.out (hR.up (Nat.le_refl _) g06) hk (hF6.rd (by decide) 256 (Nat.le_refl _))
        have HCl := Lib.hid hCl
        have HF6 := Lib.hid hF6
        have G6 := Lib.hid g6
        have G36 := Lib.hid g36
        clear hCl hF6 g06 g6 g36 HBX
        go_wp2_with fail
        go_at_call 11
        with_reducible refine (HCl.out).mono ?_
        rintro e w7 ⟨gw, capw, rfl, hO7, _, g7⟩
        have g37 := grown_trans G36.out g7
        have HB7 := Lib.hid (hB3.grown g37 (by simp))
        have HC7 := Lib.hid (hC3.grown g37 (by simp))
        have HG7 := Lib.hid (grown_trans g03 g37)
        have HRv7 := Lib.hid (HRv.out.up (Nat.le_refl _) g37)
        have HN7 := Lib.hid ((HN11.out.grown G6.out (by simp)).grown g7 (by simp))
        have HF7 := Lib.hid (HF6.out.grown (by decide) g7 (by simp))
        have HO7 := Lib.hid hO7
        have HGl : Hid (∀ i, G i < 256) := Lib.hid (fun i => by rw [HG.out]; exact turnF_lt _ _ _ _ hkw hf hg i)
        have HnFl : Hid (∀ i, nF i < 256) := Lib.hid (fun i => by rw [HnF.out]; exact nextF_lt _ hf i)
        obtain ⟨Q, hQ⟩ : ∃ Q : Nat → Nat, Q = fun i => strm (N + 6) (keyW N fk) ff (i / 16) (i % 16) := ⟨_, rfl⟩
        have HQ := Lib.hid hQ
        have HQl : Hid (∀ i, Q i < 256) := Lib.hid (fun i => by rw [hQ]; exact strm_lt _ _ _ hkw hf _ _)
        have HSo : Hid (∀ W, w7.grownBy W none → Calls Tryd.prog 15 #[.pointer (some ⟨m, 0, none⟩), .agg (cellsOf .u8 16 ff), .int .i64 3] W (GaveN W 48 Q)) := Lib.hid (fun W hW => by
          rw [hQ]
          exact some_any m (N + 6) C (keyW N fk) ff W hkw hf hN1 hN6 hc (HC7.out.grown hW (by simp)) (hL.grown (grown_trans HG7.out hW) (by simp)))
        have HRt : Hid (∀ W, w7.grownBy W none → ∀ ab nb cb F, Rd W W.heap.size ab nb F → (∀ i, F i < 256) → nb ≤ 2 ^ 40 → Calls Tryd.prog 12 #[.slice (some ⟨rb, 0, none⟩) 256 256, .slice (some ⟨gw, 0, none⟩) (16 * (N + 7) : Nat) capw, .slice (some ⟨bb, 0, none⟩) 16 16, .slice ab nb cb] W (GaveN W nb (turnF (N + 6) (keyW N fk) ff F))) := Lib.hid (fun W hW ab nb cb F hRF hFl hnb =>
          rturn_any (N + 6) rb gw capw 16 nb cb ab (some ⟨bb, 0, none⟩) (keyW N fk) ff F W hN1 hN6 ((HF7.out.grown (by decide) hW (by simp)).rd (by decide) 256 (Nat.le_refl _)) (HO7.out.grown hW (by simp)).rd
            ((HB7.out.grown hW (by simp)).rd _ (HB7.out.grown hW (by simp)).lt 16 (Nat.le_refl _)) hRF hkw hf hFl hnb)
        clear hQ hO7 g7 g37 g03 HRv HN11 HF6 hB3 hC3 HCl G6 G36 G45 hb3
        go_wp2_with fail
        refine wp_region_held (S := fun W => w7.grownBy W none) (by kernel_rfl) ?_
        change wpAnyH _ _ _ _ _ 40 #[false, false, false, false, false, false, false, false, false, false, false, false, false, false, false, false, false, false, false, false, false, false, false, false, false, false, false, false, false, false, false, false, false, false, false, false, false, false, false, false] _ (World.drew _)
        have hS0 : w7.grownBy (World.drew w7) none := grown_drew (grown_refl w7 none)
        generalize World.drew w7 = W0 at *
        refine wpAnyH_takeD (some 46) (i := 0) (v := .int .i64 0) rfl rfl (by kernel_rfl) (by kernel_rfl) (by kernel_rfl) (fun _ _ _ h => h) (Or.inl ⟨rfl, fun _ _ => rfl⟩) hS0 ?_
        simp only [Act.put, List.setIfInBounds_toArray, List.set_cons_succ, List.set_cons_zero]
        refine wpAnyH_takeD (some 47) (i := 1) (v := .bool true) rfl rfl (by kernel_rfl) (by kernel_rfl) (by kernel_rfl) (fun _ _ _ h => h) (Or.inl ⟨rfl, fun W _ => by go_simp⟩) hS0 ?_
        simp only [Act.put, List.setIfInBounds_toArray, List.set_cons_succ, List.set_cons_zero]
        refine wpAnyH_takeD (some 48) (i := 2) (v := .bool true) rfl rfl (by kernel_rfl) (by kernel_rfl) (by kernel_rfl) (fun _ _ _ h => h) (Or.inl ⟨rfl, fun _ _ => rfl⟩) hS0 ?_
        simp only [Act.put, List.setIfInBounds_toArray, List.set_cons_succ, List.set_cons_zero]
        refine wpAnyH_takeD (some 49) (i := 3) (v := .int .i64 0) rfl rfl (by kernel_rfl) (by kernel_rfl) (by kernel_rfl) (fun _ _ _ h => h) (Or.inl ⟨rfl, fun _ _ => rfl⟩) hS0 ?_
        simp only [Act.put, List.setIfInBounds_toArray, List.set_cons_succ, List.set_cons_zero]
        refine wpAnyH_takeD (some 50) (i := 4) (v := .bool true) rfl rfl (by kernel_rfl) (by kernel_rfl) (by kernel_rfl) (fun _ _ _ h => h) (Or.inl ⟨rfl, fun W _ => by go_simp⟩) hS0 ?_
        simp only [Act.put, List.setIfInBounds_toArray, List.set_cons_succ, List.set_cons_zero]
        refine wpAnyH_takeD (some 51) (i := 5) (v := .bool true) rfl rfl (by kernel_rfl) (by kernel_rfl) (by kernel_rfl) (fun _ _ _ h => h) (Or.inl ⟨rfl, fun _ _ => rfl⟩) hS0 ?_
        simp only [Act.put, List.setIfInBounds_toArray, List.set_cons_succ, List.set_cons_zero]
        refine wpAnyH_takeD (some 52) (i := 6) (v := .bool true) rfl rfl (by kernel_rfl) (by kernel_rfl) (by kernel_rfl) (fun _ _ _ h => h) (Or.inl ⟨rfl, fun _ _ => rfl⟩) hS0 ?_
        simp only [Act.put, List.setIfInBounds_toArray, List.set_cons_succ, List.set_cons_zero]
        refine wpAnyH_takeD (some 53) (i := 7) (v := .slice va (off nl) vc) rfl rfl (by kernel_rfl) (by kernel_rfl) (by kernel_rfl) (fun _ _ _ h => h) (Or.inl ⟨rfl, fun _ _ => rfl⟩) hS0 ?_
        simp only [Act.put, List.setIfInBounds_toArray, List.set_cons_succ, List.set_cons_zero]
        refine wpAnyH_takeD (some 54) (i := 8) (v := .string (strOf (off nl) G)) rfl rfl (by kernel_rfl) (by kernel_rfl) (by kernel_rfl) (fun _ _ _ h => h) (Or.inl ⟨rfl, fun W hW => run_convS 53 rfl rfl (HRv7.out.up (Nat.le_refl _) hW) HGl.out⟩) hS0 ?_
        simp only [Act.put, List.setIfInBounds_toArray, List.set_cons_succ, List.set_cons_zero]
        refine wpAnyH_takeD (some 55) (i := 9) (v := .slice (some ⟨rb, 0, none⟩) 256 256) rfl rfl (by kernel_rfl) (by kernel_rfl) (by kernel_rfl) (fun _ _ _ h => h) (Or.inl ⟨rfl, fun _ _ => rfl⟩) hS0 ?_
        simp only [Act.put, List.setIfInBounds_toArray, List.set_cons_succ, List.set_cons_zero]
        refine wpAnyH_takeD (some 56) (i := 10) (v := .slice (some ⟨gw, 0, none⟩) (16 * (N + 7) : Nat) capw) rfl rfl (by kernel_rfl) (by kernel_rfl) (by kernel_rfl) (fun _ _ _ h => h) (Or.inl ⟨rfl, fun _ _ => rfl⟩) hS0 ?_
        simp only [Act.put, List.setIfInBounds_toArray, List.set_cons_succ, List.set_cons_zero]
        refine wpAnyH_takeD (some 57) (i := 11) (v := .slice (some ⟨bb, 0, none⟩) 16 16) rfl rfl (by kernel_rfl) (by kernel_rfl) (by kernel_rfl) (fun _ _ _ h => h) (Or.inl ⟨rfl, fun W _ => by go_simp⟩) hS0 ?_
        simp only [Act.put, List.setIfInBounds_toArray, List.set_cons_succ, List.set_cons_zero]
        refine wpAnyH_takeD (some 58) (i := 12) (v := .slice la nl cl) rfl rfl (by kernel_rfl) (by kernel_rfl) (by kernel_rfl) (fun _ _ _ h => h) (Or.inl ⟨rfl, fun _ _ => rfl⟩) hS0 ?_
        simp only [Act.put, List.setIfInBounds_toArray, List.set_cons_succ, List.set_cons_zero]
        refine wpAnyH_callD (i := 13) (R := fun v w' => ∃ a c, v = .slice a (off nl) c ∧ off nl ≤ c ∧ Rd w' w'.heap.size a (off nl) g ∧ W0.grownBy w' none) (some 59) 13 #[.slice la nl cl] (by kernel_rfl) rfl rfl rfl (exec_fn1 _ _ _ rfl rfl) join_enters ((join_any nl cl w.heap.size la off g W0 (HT.out.grown (grown_trans HG7.out hS0) (fun k e => by cases e)) (grown_trans HG7.out hS0).size (by omega) (by omega)).mono fun e w' h => by
            obtain ⟨v, h1, h2, h3⟩ := h
            obtain ⟨a, c, rfl, h5, h6⟩ := h2.rd
            exact ⟨_, h1, a, c, rfl, h5, h6, h3⟩) ?_
        rintro v W1 ⟨ja, jc, rfl, hjc, hRj, gj⟩
        have hS1 := grown_trans hS0 gj
        refine ⟨hS1, ?_⟩
        simp only [Act.put, List.setIfInBounds_toArray, List.set_cons_succ, List.set_cons_zero]
        refine wpAnyH_callD (i := 14) (R := fun v w' => ∃ a c, v = .slice a (off nl) c ∧ Rd w' w'.heap.size a (off nl) G ∧ W1.grownBy w' none) (some 60) 12 #[.slice (some ⟨rb, 0, none⟩) 256 256, .slice (some ⟨gw, 0, none⟩) (16 * (N + 7) : Nat) capw, .slice (some ⟨bb, 0, none⟩) 16 16, .slice ja (off nl) jc] (by kernel_rfl) rfl rfl rfl (exec_fn4 _ _ _ _ _ _ _ _ _ rfl rfl rfl rfl rfl) rturn_enters ((HRt.out W1 hS1 ja (off nl) jc g hRj hg (by omega)).mono fun e w' h => by
            obtain ⟨v, h1, h2, h3⟩ := h
            obtain ⟨a, c, rfl, h5, h6⟩ := h2.rd
            exact ⟨_, h1, a, c, rfl, by rw [HG.out]; exact h6, h3⟩) ?_
        rintro v W2 ⟨ta, tc, rfl, hRt, gt⟩
        have hS2 := grown_trans hS1 gt
        refine ⟨hS2, ?_⟩
        simp only [Act.put, List.setIfInBounds_toArray, List.set_cons_succ, List.set_cons_zero]
        refine wpAnyH_yieldD (i := 15) (v := .string (strOf (off nl) G)) (w' := W2) (some 61) (by kernel_rfl) rfl rfl rfl (run_convS 60 rfl rfl hRt HGl.out) hS2 ?_
        simp only [Act.put, List.setIfInBounds_toArray, List.set_cons_succ, List.set_cons_zero]
        refine wpAnyH_takeD (some 62) (i := 16) (v := .bool true) rfl rfl (by kernel_rfl) (by kernel_rfl) (by kernel_rfl) (fun _ _ _ h => h) (Or.inl ⟨rfl, fun W _ => by go_simp⟩) hS2 ?_
        simp only [Act.put, List.setIfInBounds_toArray, List.set_cons_succ, List.set_cons_zero]
        refine wpAnyH_takeD (some 63) (i := 17) (v := .bool true) rfl rfl (by kernel_rfl) (by kernel_rfl) (by kernel_rfl) (fun _ _ _ h => h) (Or.inl ⟨rfl, fun _ _ => rfl⟩) hS2 ?_
        simp only [Act.put, List.setIfInBounds_toArray, List.set_cons_succ, List.set_cons_zero]
        refine wpAnyH_takeD (some 64) (i := 18) (v := .bool true) rfl rfl (by kernel_rfl) (by kernel_rfl) (by kernel_rfl) (fun _ _ _ h => h) (Or.inl ⟨rfl, fun _ _ => rfl⟩) hS2 ?_
        simp only [Act.put, List.setIfInBounds_toArray, List.set_cons_succ, List.set_cons_zero]
        refine wpAnyH_takeD (some 65) (i := 19) (v := .slice (some ⟨b11, 0, none⟩) 16 16) rfl rfl (by kernel_rfl) (by kernel_rfl) (by kernel_rfl) (fun _ _ _ h => h) (Or.inl ⟨rfl, fun W _ => by go_simp⟩) hS2 ?_
        simp only [Act.put, List.setIfInBounds_toArray, List.set_cons_succ, List.set_cons_zero]
        refine wpAnyH_takeD (some 66) (i := 20) (v := .string (strOf 16 nF)) rfl rfl (by kernel_rfl) (by kernel_rfl) (by kernel_rfl) (fun _ _ _ h => h) (Or.inl ⟨rfl, fun W hW => run_convS 65 rfl rfl ((HN7.out.grown hW (by simp)).rd _ (HN7.out.grown hW (by simp)).lt 16 (Nat.le_refl _)) HnFl.out⟩) hS2 ?_
        simp only [Act.put, List.setIfInBounds_toArray, List.set_cons_succ, List.set_cons_zero]
        refine wpAnyH_takeD (some 67) (i := 21) (v := .slice (some ⟨bb, 0, none⟩) 16 16) rfl rfl (by kernel_rfl) (by kernel_rfl) (by kernel_rfl) (fun _ _ _ h => h) (Or.inl ⟨rfl, fun W _ => by go_simp⟩) hS2 ?_
        simp only [Act.put, List.setIfInBounds_toArray, List.set_cons_succ, List.set_cons_zero]
        refine wpAnyH_callD (i := 22) (R := fun v w' => ∃ q cap, v = .slice (some ⟨q, 0, none⟩) 16 cap ∧ OwnR w' q 16 cap nF ∧ W2.grownBy w' none) (some 68) 14 #[.slice (some ⟨bb, 0, none⟩) 16 16] (by kernel_rfl) rfl rfl rfl (exec_fn1 _ _ _ rfl rfl) rnext_enters ((rnext_any (some ⟨bb, 0, none⟩) 16 ff W2 hf ((HB7.out.grown hS2 (by simp)).rd _ (HB7.out.grown hS2 (by simp)).lt 16 (Nat.le_refl _)) (Nat.le_refl _)).mono fun e w' h => by
            obtain ⟨q, cap, h1, h2, _, h4⟩ := h
            exact ⟨_, h1, q, cap, rfl, by rw [HnF.out]; exact h2, h4⟩) ?_
        rintro v W3 ⟨q3, cap3, rfl, hO3, gn⟩
        have hS3 := grown_trans hS2 gn
        refine ⟨hS3, ?_⟩
        simp only [Act.put, List.setIfInBounds_toArray, List.set_cons_succ, List.set_cons_zero]
        refine wpAnyH_yieldD (i := 23) (v := .string (strOf 16 nF)) (w' := W3) (some 69) (by kernel_rfl) rfl rfl rfl (run_convS 68 rfl rfl hO3.rd HnFl.out) hS3 ?_
        simp only [Act.put, List.setIfInBounds_toArray, List.set_cons_succ, List.set_cons_zero]
        refine wpAnyH_takeD (some 70) (i := 24) (v := .bool true) rfl rfl (by kernel_rfl) (by kernel_rfl) (by kernel_rfl) (fun _ _ _ h => h) (Or.inl ⟨rfl, fun W _ => by go_simp⟩) hS3 ?_
        simp only [Act.put, List.setIfInBounds_toArray, List.set_cons_succ, List.set_cons_zero]
        refine wpAnyH_takeD (some 71) (i := 25) (v := .bool true) rfl rfl (by kernel_rfl) (by kernel_rfl) (by kernel_rfl) (fun _ _ _ h => h) (Or.inl ⟨rfl, fun _ _ => rfl⟩) hS3 ?_
        simp only [Act.put, List.setIfInBounds_toArray, List.set_cons_succ, List.set_cons_zero]
        refine wpAnyH_takeD (some 72) (i := 26) (v := .bool true) rfl rfl (by kernel_rfl) (by kernel_rfl) (by kernel_rfl) (fun _ _ _ h => h) (Or.inl ⟨rfl, fun _ _ => rfl⟩) hS3 ?_
        simp only [Act.put, List.setIfInBounds_toArray, List.set_cons_succ, List.set_cons_zero]
        refine wpAnyH_takeD (some 73) (i := 27) (v := .pointer (some ⟨m, 0, none⟩)) rfl rfl (by kernel_rfl) (by kernel_rfl) (by kernel_rfl) (fun _ _ _ h => h) (Or.inl ⟨rfl, fun _ _ => rfl⟩) hS3 ?_
        simp only [Act.put, List.setIfInBounds_toArray, List.set_cons_succ, List.set_cons_zero]
        refine wpAnyH_takeD (some 74) (i := 28) (v := .agg (cellsOf .u8 16 ff)) rfl rfl (by kernel_rfl) (by kernel_rfl) (by kernel_rfl) (fun _ _ _ h => h) (Or.inl ⟨rfl, fun W hW => run_blk (HB7.out.grown hW (by simp)) rfl rfl⟩) hS3 ?_
        simp only [Act.put, List.setIfInBounds_toArray, List.set_cons_succ, List.set_cons_zero]
        refine wpAnyH_takeD (some 77) (i := 31) (v := .slice (some ⟨rb, 0, none⟩) 256 256) rfl rfl (by kernel_rfl) (by kernel_rfl) (by kernel_rfl) (fun _ _ _ h => h) (Or.inl ⟨rfl, fun _ _ => rfl⟩) hS3 ?_
        simp only [Act.put, List.setIfInBounds_toArray, List.set_cons_succ, List.set_cons_zero]
        refine wpAnyH_takeD (some 78) (i := 32) (v := .slice (some ⟨gw, 0, none⟩) (16 * (N + 7) : Nat) capw) rfl rfl (by kernel_rfl) (by kernel_rfl) (by kernel_rfl) (fun _ _ _ h => h) (Or.inl ⟨rfl, fun _ _ => rfl⟩) hS3 ?_
        simp only [Act.put, List.setIfInBounds_toArray, List.set_cons_succ, List.set_cons_zero]
        refine wpAnyH_takeD (some 79) (i := 33) (v := .slice (some ⟨bb, 0, none⟩) 16 16) rfl rfl (by kernel_rfl) (by kernel_rfl) (by kernel_rfl) (fun _ _ _ h => h) (Or.inl ⟨rfl, fun W _ => by go_simp⟩) hS3 ?_
        simp only [Act.put, List.setIfInBounds_toArray, List.set_cons_succ, List.set_cons_zero]
        obtain ⟨c9, mk9, hF9⟩ := make_any 48 (by decide) W3
        replace mk9 : (Instr.makeSlice 22 (.int .i64 48) (.int .i64 48)).run Tryd.prog W3 = .ok (.slice (some ⟨W3.heap.size, 0, none⟩) 48 48) (W3.alloc (.cells c9 5)) := mk9
        have g9 := World.grownBy_alloc W3 (.cells c9 5) none
        refine wpAnyH_callOr (i := 29) (j := 34) (vj := .slice (some ⟨W3.heap.size, 0, none⟩) 48 48) (wj := W3.alloc (.cells c9 5)) (R := fun v w' => ∃ a c, v = .slice a 48 c ∧ Rd w' w'.heap.size a 48 Q ∧ W3.grownBy w' none) (some 75) (some 80) 15 #[.pointer (some ⟨m, 0, none⟩), .agg (cellsOf .u8 16 ff), .int .i64 3] (by kernel_rfl) rfl rfl rfl (exec_fn3 _ _ _ _ _ _ _ rfl rfl rfl rfl) some_enters ((HSo.out W3 hS3).mono fun e w' h => by
            obtain ⟨v, h1, h2, h3⟩ := h
            obtain ⟨a, c, rfl, h5, h6⟩ := h2.rd
            exact ⟨_, h1, a, c, rfl, h6, h3⟩)
          rfl rfl rfl (by unfold execOp; go_simp) (grown_trans hS3 g9) ?_ ?_
        · rintro v W4 ⟨sa, sc, rfl, hRs, gs⟩
          have hS4 := grown_trans hS3 gs
          refine ⟨hS4, ?_⟩
          simp only [Act.put, List.setIfInBounds_toArray, List.set_cons_succ, List.set_cons_zero]
          refine wpAnyH_sub (S' := fun W => W4.grownBy W none) (fun W h => grown_trans hS4 h) _ _ _ _ ?_
          have hz4 := grown_refl W4 none
          refine wpAnyH_takeD (some 76) (i := 30) (v := .string (strOf 48 Q)) rfl rfl (by kernel_rfl) (by kernel_rfl) (by kernel_rfl) (fun _ _ _ h => h) (Or.inl ⟨rfl, fun W hW => run_convS 75 rfl rfl (hRs.up (Nat.le_refl _) hW) HQl.out⟩) hz4 ?_
          simp only [Act.put, List.setIfInBounds_toArray, List.set_cons_succ, List.set_cons_zero]
          obtain ⟨c5, mk5, hF5⟩ := make_any 48 (by decide) W4
          replace mk5 : (Instr.makeSlice 22 (.int .i64 48) (.int .i64 48)).run Tryd.prog W4 = .ok (.slice (some ⟨W4.heap.size, 0, none⟩) 48 48) (W4.alloc (.cells c5 5)) := mk5
          have g5 := World.grownBy_alloc W4 (.cells c5 5) none
          have h75 := grown_trans hS4 g5
          refine wpAnyH_yieldD (i := 34) (v := .slice (some ⟨W4.heap.size, 0, none⟩) 48 48) (w' := W4.alloc (.cells c5 5)) (some 80) (by kernel_rfl) rfl rfl rfl (by unfold execOp; go_simp) g5 ?_
          simp only [Act.put, List.setIfInBounds_toArray, List.set_cons_succ, List.set_cons_zero]
          refine wpAnyH_callD (i := 35) (R := fun v w' => ∃ a c, v = .slice a 48 c ∧ Rd w' w'.heap.size a 48 Q ∧ (W4.alloc (.cells c5 5)).grownBy w' none) (some 81) 12 #[.slice (some ⟨rb, 0, none⟩) 256 256, .slice (some ⟨gw, 0, none⟩) (16 * (N + 7) : Nat) capw, .slice (some ⟨bb, 0, none⟩) 16 16, .slice (some ⟨W4.heap.size, 0, none⟩) 48 48] (by kernel_rfl) rfl rfl rfl (exec_fn4 _ _ _ _ _ _ _ _ _ rfl rfl rfl rfl rfl) rturn_enters ((HRt.out (W4.alloc (.cells c5 5)) h75 (some ⟨W4.heap.size, 0, none⟩) 48 48 (fun _ => 0) (hF5.rd (by decide) 48 (Nat.le_refl _)) (fun _ => by decide) (by decide)).mono fun e w' h => by
              obtain ⟨v, h1, h2, h3⟩ := h
              obtain ⟨a, c, rfl, h5, h6⟩ := h2.rd
              exact ⟨_, h1, a, c, rfl, h6.congr (fun i _ => by rw [HQ.out]; unfold turnF; rw [Nat.zero_xor]), h3⟩) ?_
          rintro v W6 ⟨ua, uc, rfl, hRu, gu⟩
          have hS6 := grown_trans g5 gu
          have hS76 := grown_trans h75 gu
          refine ⟨hS6, ?_⟩
          simp only [Act.put, List.setIfInBounds_toArray, List.set_cons_succ, List.set_cons_zero]
          refine wpAnyH_yieldD (i := 36) (v := .string (strOf 48 Q)) (w' := W6) (some 82) (by kernel_rfl) rfl rfl rfl (run_convS 81 rfl rfl hRu HQl.out) hS6 ?_
          simp only [Act.put, List.setIfInBounds_toArray, List.set_cons_succ, List.set_cons_zero]
          refine wpAnyH_takeD (some 83) (i := 37) (v := .bool true) rfl rfl (by kernel_rfl) (by kernel_rfl) (by kernel_rfl) (fun _ _ _ h => h) (Or.inl ⟨rfl, fun W _ => by go_simp⟩) hS6 ?_
          simp only [Act.put, List.setIfInBounds_toArray, List.set_cons_succ, List.set_cons_zero]
          refine wpAnyH_takeD (some 84) (i := 38) (v := .bool true) rfl rfl (by kernel_rfl) (by kernel_rfl) (by kernel_rfl) (fun _ _ _ h => h) (Or.inl ⟨rfl, fun _ _ => rfl⟩) hS6 ?_
          simp only [Act.put, List.setIfInBounds_toArray, List.set_cons_succ, List.set_cons_zero]
          refine wpAnyH_takeD (some 6) (i := 39) (v := .bool true) rfl rfl (by kernel_rfl) (by kernel_rfl) (by kernel_rfl) (fun _ _ _ h => h) (Or.inl ⟨rfl, fun _ _ => rfl⟩) hS6 ?_
          simp only [Act.put, List.setIfInBounds_toArray, List.set_cons_succ, List.set_cons_zero]
          refine wpAnyH_done (by kernel_rfl) ?_ _
          go_wp2_with fail
          go_ret
          exact ⟨⟨rfl, grown_trans HG7.out hS76⟩⟩
        · have hS4 := grown_trans hS3 g9
          have hR9 := hF9.rd (by decide) 48 (Nat.le_refl _)
          simp only [Act.put, List.setIfInBounds_toArray, List.set_cons_succ, List.set_cons_zero]
          generalize hW4 : W3.alloc (.cells c9 5) = W4 at *
          refine wpAnyH_callD (i := 29) (R := fun v w' => ∃ a c, v = .slice a 48 c ∧ Rd w' w'.heap.size a 48 Q ∧ W4.grownBy w' none) (some 75) 15 #[.pointer (some ⟨m, 0, none⟩), .agg (cellsOf .u8 16 ff), .int .i64 3] (by kernel_rfl) rfl rfl rfl (exec_fn3 _ _ _ _ _ _ _ rfl rfl rfl rfl) some_enters ((HSo.out W4 hS4).mono fun e w' h => by
            obtain ⟨v, h1, h2, h3⟩ := h
            obtain ⟨a, c, rfl, h5, h6⟩ := h2.rd
            exact ⟨_, h1, a, c, rfl, h6, h3⟩) ?_
          rintro v W5 ⟨sa, sc, rfl, hRs, gs⟩
          have hS5 := grown_trans hS4 gs
          refine ⟨hS5, ?_⟩
          simp only [Act.put, List.setIfInBounds_toArray, List.set_cons_succ, List.set_cons_zero]
          refine wpAnyH_sub (S' := fun W => W5.grownBy W none) (fun W h => grown_trans hS5 h) _ _ _ _ ?_
          have hz4 := grown_refl W5 none
          refine wpAnyH_takeD (some 76) (i := 30) (v := .string (strOf 48 Q)) rfl rfl (by kernel_rfl) (by kernel_rfl) (by kernel_rfl) (fun _ _ _ h => h) (Or.inl ⟨rfl, fun W hW => run_convS 75 rfl rfl (hRs.up (Nat.le_refl _) hW) HQl.out⟩) hz4 ?_
          simp only [Act.put, List.setIfInBounds_toArray, List.set_cons_succ, List.set_cons_zero]
          refine wpAnyH_callD (i := 35) (R := fun v w' => ∃ a c, v = .slice a 48 c ∧ Rd w' w'.heap.size a 48 Q ∧ W5.grownBy w' none) (some 81) 12 #[.slice (some ⟨rb, 0, none⟩) 256 256, .slice (some ⟨gw, 0, none⟩) (16 * (N + 7) : Nat) capw, .slice (some ⟨bb, 0, none⟩) 16 16, .slice (some ⟨W3.heap.size, 0, none⟩) 48 48] (by kernel_rfl) rfl rfl rfl (exec_fn4 _ _ _ _ _ _ _ _ _ rfl rfl rfl rfl rfl) rturn_enters ((HRt.out W5 hS5 (some ⟨W3.heap.size, 0, none⟩) 48 48 (fun _ => 0) (hR9.up (Nat.le_refl _) gs) (fun _ => by decide) (by decide)).mono fun e w' h => by
              obtain ⟨v, h1, h2, h3⟩ := h
              obtain ⟨a, c, rfl, h5, h6⟩ := h2.rd
              exact ⟨_, h1, a, c, rfl, h6.congr (fun i _ => by rw [HQ.out]; unfold turnF; rw [Nat.zero_xor]), h3⟩) ?_
          rintro v W6 ⟨ua, uc, rfl, hRu, gu⟩
          have hS6 := grown_trans hz4 gu
          have hS76 := grown_trans hS5 gu
          refine ⟨hS6, ?_⟩
          simp only [Act.put, List.setIfInBounds_toArray, List.set_cons_succ, List.set_cons_zero]
          refine wpAnyH_yieldD (i := 36) (v := .string (strOf 48 Q)) (w' := W6) (some 82) (by kernel_rfl) rfl rfl rfl (run_convS 81 rfl rfl hRu HQl.out) hS6 ?_
          simp only [Act.put, List.setIfInBounds_toArray, List.set_cons_succ, List.set_cons_zero]
          refine wpAnyH_takeD (some 83) (i := 37) (v := .bool true) rfl rfl (by kernel_rfl) (by kernel_rfl) (by kernel_rfl) (fun _ _ _ h => h) (Or.inl ⟨rfl, fun W _ => by go_simp⟩) hS6 ?_
          simp only [Act.put, List.setIfInBounds_toArray, List.set_cons_succ, List.set_cons_zero]
          refine wpAnyH_takeD (some 84) (i := 38) (v := .bool true) rfl rfl (by kernel_rfl) (by kernel_rfl) (by kernel_rfl) (fun _ _ _ h => h) (Or.inl ⟨rfl, fun _ _ => rfl⟩) hS6 ?_
          simp only [Act.put, List.setIfInBounds_toArray, List.set_cons_succ, List.set_cons_zero]
          refine wpAnyH_takeD (some 6) (i := 39) (v := .bool true) rfl rfl (by kernel_rfl) (by kernel_rfl) (by kernel_rfl) (fun _ _ _ h => h) (Or.inl ⟨rfl, fun _ _ => rfl⟩) hS6 ?_
          simp only [Act.put, List.setIfInBounds_toArray, List.set_cons_succ, List.set_cons_zero]
          refine wpAnyH_done (by kernel_rfl) ?_ _
          go_wp2_with fail
          go_ret
          exact ⟨⟨rfl, grown_trans HG7.out hS76⟩⟩
  · have b1 : ((n : Int) != 16) = true := by rw [bne_iff_ne]; omega
    have b2 : ((n : Int) != 32) = true := by rw [bne_iff_ne]; omega
    clear h16 hB1 hR hL HT HTL HB0 HK HGr
    go_wp2_with fail
    go_ret
    exact ⟨⟨rfl, g01⟩⟩

end Go.Proofs.YtapmpjmhcloejaaDoor
namespace Go.Proofs.YtapmpjmhcloejaaDoor
open Go.ChangeShapes Go.WideShapes Go.ChangeAt Go.RowKit

set_option maxRecDepth 100000 in
theorem ctrTurns_lifted (os : Os) (started : os.Started) (H : Type) (enc : TypeId × Value → H) :
    ReturnsInHanded {} Tryd.checked os 3 .any (fun w args => (Rows.ctrTurnsSpec.pre enc Tryd.prog Tryd.f3 [] false w args ∧ laidMetH Tryd.prog theLaidA w) ∧ sizedMet enc Tryd.prog Tryd.f3 (OpenSpec.ofChange Rows.ctrTurnsSpec) false w args)
      (Rows.ctrTurnsSpec.post enc Tryd.prog Tryd.f3 false true false false) := by
  refine returnsInHanded_of_change_and (C := Tryd.checked) (X := fun w _ => laidMetH Tryd.prog theLaidA w) (fun _ _ _ hh h => h.of_heap hh) own started (by kernel_rfl) Tryd.func3
    (ChangeSpec.witness_shaped (enc := enc) (C := Tryd.checked) (os := os) (X := fun w _ => laidMetH Tryd.prog theLaidA w) false (World.doorLaid Tryd.prog 400 os) #[.slice none 0 0, .agg (cellsOf .u8 16 (fun _ => 0)), .slice none 0 0] 8 rfl (World.shaped_of_RefB (by kernel_rfl) (by kernel_rfl)) (by kernel_rfl) (by kernel_rfl) (by kernel_rfl) (door_metA os _)) ?_
  intro W base args ds gs before hval0 hW _ hwt hL _
  have hval : ∀ (j : Nat) t v, Tryd.f3.params[j]? = some t → args[j]? = some v → Value.okWide Tryd.prog W .any base t v := hval0
  have hW' := hW
  obtain ⟨p, q, hA0, hV, rfl, _, _⟩ := hW
  have hA : DataW.TrodAll enc Tryd.prog W 0 (fun _ => true) true Tryd.f3.params.toList args.toList ds p := hA0
  have hwt' : (DataW.weightsEach Tryd.prog (Tryd.f3.params.toList ++ Rows.ctrTurnsSpec.plain.varTypes Tryd.prog) (ds ++ gs)).all (· ≤ reachBytes) = true := hwt
  rw [Tryd.params3] at hA hval hwt'
  obtain ⟨v0, vs0, d0, ds0, p0, q0, hv0, rfl, rfl, h0, hA1⟩ := trodAll_cons hA
  obtain ⟨v1, vs1, d1, ds1, p1, q1, rfl, rfl, rfl, h1, hA2⟩ := trodAll_cons hA1
  obtain ⟨v2, vs2, d2, ds2, p2, q2, rfl, rfl, rfl, h2, hA3⟩ := trodAll_cons hA2
  obtain ⟨rfl, rfl, rfl⟩ := trodAll_nil hA3
  obtain ⟨l⟩ := args
  simp only at hv0
  subst hv0
  obtain ⟨rfl, rfl⟩ := trodVars_none hV
  obtain ⟨a0, n0, c0, f0, rfl, hc0, hR0, hf0⟩ := open_bytes (P := Tryd.prog) under_bytes (by kernel_rfl) (by kernel_rfl) (hval 0 22 v0 rfl rfl) h0
  obtain ⟨f1, rfl, hf1⟩ := open_arr8 (P := Tryd.prog) (n := 16) (e := 5) (by kernel_rfl) (by kernel_rfl) (by kernel_rfl) (by kernel_rfl) (hval 1 23 v1 rfl rfl) h1
  have hw2 : ∀ y, y ∈ DataW.weights Tryd.prog 24 d2 → y ≤ reachBytes := fun y hy => by
    have hm : y ∈ DataW.weightsEach Tryd.prog (#[22, 23, 24].toList ++ Rows.ctrTurnsSpec.plain.varTypes Tryd.prog) ([d0, d1, d2] ++ []) := List.mem_append.2 (Or.inr (List.mem_append.2 (Or.inr (List.mem_append.2 (Or.inl hy)))))
    simpa using List.all_eq_true.1 hwt' y hm
  obtain ⟨a2, n2, c2, off2, g2, rfl, hc2, hn2, hT2, hTL2, hg2⟩ := open_texts (P := Tryd.prog) (t := 24) (u := 22) (e := 5) (by kernel_rfl) under_bytes (by kernel_rfl) (by kernel_rfl) (by kernel_rfl) (by kernel_rfl) (by kernel_rfl) hw2 (hval 2 24 v2 rfl rfl) h2
  obtain ⟨hLS, hsz⟩ := of_laidA hL
  clear hA0 hval0
  refine (ctrTurns_any n0 c0 n2 c2 a0 a2 f0 f1 off2 g2 W hLS hsz hR0 hT2 hn2 hTL2 hf0 hf1 hg2).mono fun e W' ⟨⟨he, hg⟩⟩ => ?_
  subst he
  exact ⟨_, rfl, law_post laidOut hW' rfl rfl (tb := 4) rfl Tryd.underlying4 (by
      rw [Tryd.params3]
      intro t ht
      have hall : ([22, 23, 24].all fun u => Tryd.prog.readableRec u && decide (u < Tryd.prog.types.size)) = true := by kernel_rfl
      have := List.all_eq_true.1 hall t (by simpa using ht)
      simpa using this) hg⟩

theorem ctrTurns_holds : Rows.CtrTurnsSaid :=
  OpenClaim.holds_of_wide 3 Tryd.f3 rfl rfl rfl rfl rfl rfl rfl ⟨rfl, rfl, rfl, rfl, rfl⟩ rfl rfl rfl rfl rfl (by kernel_rfl) Tryd.func3 (by kernel_rfl)
    (of_decide_eq_true (by kernel_rfl)) (by unfold Func.isWrapper; first | (rw [if_pos (by decide +kernel)]; kernel_rfl) | (rw [if_neg (by decide +kernel)]; exact ⟨rfl, rfl⟩))
    (fun os started H enc _ => ctrTurns_lifted os started H enc)

theorem ctrTurns_card_holds : Rows.CtrTurnsCardSaid :=
  Claim7.holds_tied_plain_at .later [] [.data] true _ false
    ctrTurns_holds (fun _ h => by cases h) (by kernel_rfl) (fun _ h => by cases h) ctrTurns_row_tie rfl ⟨rfl, rfl⟩ (by kernel_rfl) rfl
    (fun f fn hf hfn => by
      obtain rfl : f = 3 := Option.some.inj ((show Tryd.prog.funcNamed "hailer/hailerlaw04.CtrTurns" = some 3 by kernel_rfl).symm.trans hf) |>.symm
      obtain rfl : fn = Tryd.f3 := (Option.some.inj (Tryd.func3.symm.trans hfn)).symm
      exact ⟨by kernel_rfl, fun j t ht => by
        rw [Tryd.params3] at ht
        have hm : t ∈ [22, 23, 24] := by simpa using Array.mem_of_getElem? ht
        have hall : ([22, 23, 24].all fun u => !Tryd.prog.wantsStandIn u) = true := by kernel_rfl
        exact (show Tryd.prog.wantsStandIn t = false by simpa using List.all_eq_true.1 hall t hm)⟩)
    (by kernel_rfl)

end Go.Proofs.YtapmpjmhcloejaaDoor
