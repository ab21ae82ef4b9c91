/-
  sign: May.
-/
import Derived.Test.YtpddgiflljlpbaaSgMore
namespace Go.Proofs.Ytpddgiflljlpbaa
open Go.RowKit

set_option maxRecDepth 100000
set_option maxHeartbeats 4000000

/-- Closures lie there. -/
structure PartAt (w : World) (p : Nat) (c : Array Value) : Prop where
  block : w.heap[p]? = some (.cells c 49 (0, 0))
theorem PartAt.grown {w w' : World} {p : Nat} {c : Array Value} {row : Option Nat} (h : PartAt w p c) (g : w.grownBy w' row) (hr : some p ≠ row) : PartAt w' p c := by
  have hl : p < w.heap.size := by
    by_cases hlt : p < w.heap.size
    · exact hlt
    · have := h.block
      rw [Array.getElem?_eq_none (by omega)] at this
      cases this
  exact ⟨(g.block p hl hr).trans h.block⟩
theorem PartAt.cell {w : World} {p : Nat} {c : Array Value} (h : PartAt w p c) (i : Nat) : w.cell? ⟨p, i, none⟩ = c[i]? := cell_of_row w p i _ _ (0, 0) h.block
theorem PartAt.new (w : World) (c : Array Value) : PartAt ((w.alloc (.cells #[.nilFunc, .nilFunc, .nilFunc, .nilFunc] 49)).setRow w.heap.size c) w.heap.size c := ⟨setRow_heap _ _ _ _ _ _ (heap_alloc_new w _)⟩
theorem grown_part (w : World) (c : Array Value) : w.grownBy ((w.alloc (.cells #[.nilFunc, .nilFunc, .nilFunc, .nilFunc] 49)).setRow w.heap.size c) none := grown_setRow_new (World.grownBy_alloc w _ none) _ _ (Or.inl (Nat.le_refl _))
/-- Whether a signal may be, as the code asks. -/
def SV.mayC (x : SV) : Bool :=
  if x.k = 1 then (decide (x.ac < 8) && decide (x.dv < 4) && decide (x.ce < 8)) && x.noOffer.nothing
  else if x.k = 2 then x.noKey.nothing
  else if x.k = 3 then decide (x.nd ≤ 1024) && x.noCand.nothing
  else if x.k = 5 then (decide (1 ≤ x.rs) && decide (x.rs ≤ 4)) && x.noHang.nothing
  else if x.k = 4 ∨ x.k = 6 then x.nothing
  else false
structure MaySays (w : World) (b : Bool) (e : Ending) (w' : World) : Prop where
  ex : e = .returned (.bool b)
  gr : w.grownBy w' none
theorem may_offer (x : SV) (w : World) (hk : x.k = 1) : Calls Try.prog 11 #[.agg x.cells] w (MaySays w ((decide (x.ac < 8) && decide (x.dv < 4) && decide (x.ce < 8)) && x.noOffer.nothing)) := by
  obtain ⟨mb, hmb⟩ : ∃ mb, Hid (mb = (decide (x.ac < 8) && decide (x.dv < 4) && decide (x.ce < 8))) := ⟨_, Lib.hid rfl⟩
  rw [← hmb.out]
  have hX := SAt.new x w
  have hg := World.grownBy_alloc w (.cells x.cells 34) none
  have hck : (w.alloc (.cells x.cells 34)).cell? ⟨w.heap.size, 0, none⟩ = some (.int .u8 1) := hX.cells.k.trans (by rw [hk]; rfl)
  have HP := Lib.hid (partOf_offer w.heap.size _ hck)
  have HX := Lib.hid hX
  have HG := Lib.hid hg
  clear hX hg hck hk
  go_enter Try.func11, Try.ntmps11
  go_wp2_with fail
  generalize hw1 : w.alloc (.cells x.cells 34) = w1 at *
  go_at_call 15
  refine HP.out.mono ?_
  rintro e w2 ⟨b, rfl, hlt, hbx, hg2⟩
  have hx2 := HX.out.grown hg2 (by simp)
  have hz1 : w1.heap.size = w.heap.size + 1 := by rw [← hw1, World.size_alloc]
  have hbn : b ≠ w.heap.size := by omega
  have hpb := heap_alloc_new w2 (.cells #[.nilFunc, .nilFunc, .nilFunc, .nilFunc] 49)
  have hp3 := PartAt.new w2 (offerC b)
  have g3 := grown_part w2 (offerC b)
  have hx3 := hx2.grown g3 (by simp)
  have G3 := Lib.hid (grown_trans (grown_trans HG.out hg2) g3)
  have hb3 := hbx.grown g3 (by simp)
  clear hx2 hg2 HP HX HG g3 hbx hlt hz1
  clear hw1
  go_upto_region 2 with (first | (with_reducible refine wpList_here ?_; refine wpList_store_row rfl 49 (.tmp 3) (.tmp 7) rfl w2.heap.size (offerC b) rfl rfl 49 #[.nilFunc, .nilFunc, .nilFunc, .nilFunc] hpb (by kernel_rfl) rfl (by simp [offerC, clo, Value.oneCell']) ?_))
  clear hpb
  generalize hw3e : (w2.alloc (.cells #[.nilFunc, .nilFunc, .nilFunc, .nilFunc] 49)).setRow w2.heap.size (offerC b) = w3 at *
  clear hw3e
  generalize w2.heap.size = pb at *
  have cm : w3.cell? ⟨pb, 0, none⟩ = some (.func (.func 40) #[] #[.pointer (some ⟨b, 0, none⟩)]) := hp3.cell 0
  have cd : w3.cell? ⟨pb, 3, none⟩ = some (.func (.func 43) #[] #[.pointer (some ⟨b, 0, none⟩)]) := hp3.cell 3
  have HM := Lib.hid (mayOffer_any b w.heap.size x w3 hb3 hx3)
  have HX3 := Lib.hid hx3
  have HB3 := Lib.hid hb3
  clear hb3
  rw [← hmb.out] at HM
  clear hx3 hp3 hmb
  cases mb with
  | false =>
    go_wp2_with fail
    go_at_call 40
    refine HM.out.mono ?_
    rintro e w' ⟨rfl, rfl⟩
    go_wp2_with fail
    go_ret
    exact ⟨rfl, G3.out⟩
  | true =>
    go_wp2_with fail
    go_at_call 40
    refine HM.out.mono ?_
    rintro e w' ⟨rfl, rfl⟩
    have HD := Lib.hid (dropOffer_any b w.heap.size x w3 HB3.out HX3.out hbn)
    go_wp2_with fail
    go_at_call 43
    refine HD.out.mono ?_
    rintro e w4 ⟨rfl, hx4, g4⟩
    have G4 := Lib.hid (grown_new G3.out g4 (Nat.le_refl _))
    obtain ⟨_, _, _, l4⟩ := hx4.loads
    have HN := Lib.hid (nothingMore_any x.noOffer w4)
    clear hx4 g4 HD HM cm cd
    go_wp2_with (first | (with_reducible refine wpList_here ?_; refine wpList_ld (p := .pointer (some ⟨w.heap.size, 0, none⟩)) 1 ?_ ?_ ?_ l4 ?_; (· rfl); go_simp; (· kernel_rfl)))
    go_at_call 24
    refine HN.out.mono ?_
    rintro e w5 ⟨rfl, g5⟩
    have G5 := Lib.hid (grown_trans G4.out g5)
    clear g5 HN l4
    go_wp2_with fail
    go_ret
    exact ⟨rfl, G5.out⟩
theorem may_answer (x : SV) (w : World) (hk : x.k = 2) : Calls Try.prog 11 #[.agg x.cells] w (MaySays w (x.noKey.nothing)) := by
  skip
  skip
  have hX := SAt.new x w
  have hg := World.grownBy_alloc w (.cells x.cells 34) none
  have hck : (w.alloc (.cells x.cells 34)).cell? ⟨w.heap.size, 0, none⟩ = some (.int .u8 2) := hX.cells.k.trans (by rw [hk]; rfl)
  have HP := Lib.hid (partOf_answer w.heap.size _ hck)
  have HX := Lib.hid hX
  have HG := Lib.hid hg
  clear hX hg hck hk
  go_enter Try.func11, Try.ntmps11
  go_wp2_with fail
  generalize hw1 : w.alloc (.cells x.cells 34) = w1 at *
  go_at_call 15
  refine HP.out.mono ?_
  rintro e w2 ⟨b, rfl, hlt, hbx, hg2⟩
  have hx2 := HX.out.grown hg2 (by simp)
  have hz1 : w1.heap.size = w.heap.size + 1 := by rw [← hw1, World.size_alloc]
  have hbn : b ≠ w.heap.size := by omega
  have hpb := heap_alloc_new w2 (.cells #[.nilFunc, .nilFunc, .nilFunc, .nilFunc] 49)
  have hp3 := PartAt.new w2 (answerC b)
  have g3 := grown_part w2 (answerC b)
  have hx3 := hx2.grown g3 (by simp)
  have G3 := Lib.hid (grown_trans (grown_trans HG.out hg2) g3)
  have hb3 := hbx.grown g3 (by simp)
  clear hx2 hg2 HP HX HG g3 hbx hlt hz1
  clear hw1
  go_upto_region 2 with (first | (with_reducible refine wpList_here ?_; refine wpList_store_row rfl 49 (.tmp 3) (.tmp 7) rfl w2.heap.size (answerC b) rfl rfl 49 #[.nilFunc, .nilFunc, .nilFunc, .nilFunc] hpb (by kernel_rfl) rfl (by simp [answerC, clo, bare, Value.oneCell']) ?_))
  clear hpb
  generalize hw3e : (w2.alloc (.cells #[.nilFunc, .nilFunc, .nilFunc, .nilFunc] 49)).setRow w2.heap.size (answerC b) = w3 at *
  clear hw3e
  generalize w2.heap.size = pb at *
  have cm : w3.cell? ⟨pb, 0, none⟩ = some (.func (.func 44) #[] #[]) := hp3.cell 0
  have cd : w3.cell? ⟨pb, 3, none⟩ = some (.func (.func 47) #[] #[.pointer (some ⟨b, 0, none⟩)]) := hp3.cell 3
  have HM := Lib.hid (mayAnswer_any w3)
  have HX3 := Lib.hid hx3
  have HB3 := Lib.hid hb3
  clear hb3
  clear hx3 hp3
  go_wp2_with fail
  go_at_call 44
  refine HM.out.mono ?_
  rintro e w' ⟨rfl, rfl⟩
  have HD := Lib.hid (dropAnswer_any b w.heap.size x w3 HB3.out HX3.out)
  go_wp2_with fail
  go_at_call 47
  refine HD.out.mono ?_
  rintro e w4 ⟨rfl, hx4, g4⟩
  have G4 := Lib.hid (grown_new G3.out g4 (Nat.le_refl _))
  obtain ⟨_, _, _, l4⟩ := hx4.loads
  have HN := Lib.hid (nothingMore_any x.noKey w4)
  clear hx4 g4 HD HM cm cd
  go_wp2_with (first | (with_reducible refine wpList_here ?_; refine wpList_ld (p := .pointer (some ⟨w.heap.size, 0, none⟩)) 1 ?_ ?_ ?_ l4 ?_; (· rfl); go_simp; (· kernel_rfl)))
  go_at_call 24
  refine HN.out.mono ?_
  rintro e w5 ⟨rfl, g5⟩
  have G5 := Lib.hid (grown_trans G4.out g5)
  clear g5 HN l4
  go_wp2_with fail
  go_ret
  exact ⟨rfl, G5.out⟩
theorem may_cand (x : SV) (w : World) (hk : x.k = 3) : Calls Try.prog 11 #[.agg x.cells] w (MaySays w ((decide (x.nd ≤ 1024)) && x.noCand.nothing)) := by
  obtain ⟨mb, hmb⟩ : ∃ mb, Hid (mb = (decide (x.nd ≤ 1024))) := ⟨_, Lib.hid rfl⟩
  rw [← hmb.out]
  have hX := SAt.new x w
  have hg := World.grownBy_alloc w (.cells x.cells 34) none
  have hck : (w.alloc (.cells x.cells 34)).cell? ⟨w.heap.size, 0, none⟩ = some (.int .u8 3) := hX.cells.k.trans (by rw [hk]; rfl)
  have HP := Lib.hid (partOf_candidate w.heap.size _ hck)
  have HX := Lib.hid hX
  have HG := Lib.hid hg
  clear hX hg hck hk
  go_enter Try.func11, Try.ntmps11
  go_wp2_with fail
  generalize hw1 : w.alloc (.cells x.cells 34) = w1 at *
  go_at_call 15
  refine HP.out.mono ?_
  rintro e w2 ⟨b, rfl, hlt, hbx, hg2⟩
  have hx2 := HX.out.grown hg2 (by simp)
  have hz1 : w1.heap.size = w.heap.size + 1 := by rw [← hw1, World.size_alloc]
  have hbn : b ≠ w.heap.size := by omega
  have hpb := heap_alloc_new w2 (.cells #[.nilFunc, .nilFunc, .nilFunc, .nilFunc] 49)
  have hp3 := PartAt.new w2 (candC b)
  have g3 := grown_part w2 (candC b)
  have hx3 := hx2.grown g3 (by simp)
  have G3 := Lib.hid (grown_trans (grown_trans HG.out hg2) g3)
  have hb3 := hbx.grown g3 (by simp)
  clear hx2 hg2 HP HX HG g3 hbx hlt hz1
  clear hw1
  go_upto_region 2 with (first | (with_reducible refine wpList_here ?_; refine wpList_store_row rfl 49 (.tmp 3) (.tmp 7) rfl w2.heap.size (candC b) rfl rfl 49 #[.nilFunc, .nilFunc, .nilFunc, .nilFunc] hpb (by kernel_rfl) rfl (by simp [candC, clo, Value.oneCell']) ?_))
  clear hpb
  generalize hw3e : (w2.alloc (.cells #[.nilFunc, .nilFunc, .nilFunc, .nilFunc] 49)).setRow w2.heap.size (candC b) = w3 at *
  clear hw3e
  generalize w2.heap.size = pb at *
  have cm : w3.cell? ⟨pb, 0, none⟩ = some (.func (.func 48) #[] #[.pointer (some ⟨b, 0, none⟩)]) := hp3.cell 0
  have cd : w3.cell? ⟨pb, 3, none⟩ = some (.func (.func 55) #[] #[.pointer (some ⟨b, 0, none⟩)]) := hp3.cell 3
  have HM := Lib.hid (mayCand_any b w.heap.size x w3 hb3 hx3)
  have HX3 := Lib.hid hx3
  have HB3 := Lib.hid hb3
  clear hb3
  rw [← hmb.out] at HM
  clear hx3 hp3 hmb
  cases mb with
  | false =>
    go_wp2_with fail
    go_at_call 48
    refine HM.out.mono ?_
    rintro e w' ⟨rfl, rfl⟩
    go_wp2_with fail
    go_ret
    exact ⟨rfl, G3.out⟩
  | true =>
    go_wp2_with fail
    go_at_call 48
    refine HM.out.mono ?_
    rintro e w' ⟨rfl, rfl⟩
    have HD := Lib.hid (dropCand_any b w.heap.size x w3 HB3.out HX3.out hbn)
    go_wp2_with fail
    go_at_call 55
    refine HD.out.mono ?_
    rintro e w4 ⟨rfl, hx4, g4⟩
    have G4 := Lib.hid (grown_new G3.out g4 (Nat.le_refl _))
    obtain ⟨_, _, _, l4⟩ := hx4.loads
    have HN := Lib.hid (nothingMore_any x.noCand w4)
    clear hx4 g4 HD HM cm cd
    go_wp2_with (first | (with_reducible refine wpList_here ?_; refine wpList_ld (p := .pointer (some ⟨w.heap.size, 0, none⟩)) 1 ?_ ?_ ?_ l4 ?_; (· rfl); go_simp; (· kernel_rfl)))
    go_at_call 24
    refine HN.out.mono ?_
    rintro e w5 ⟨rfl, g5⟩
    have G5 := Lib.hid (grown_trans G4.out g5)
    clear g5 HN l4
    go_wp2_with fail
    go_ret
    exact ⟨rfl, G5.out⟩
theorem may_hang (x : SV) (w : World) (hk : x.k = 5) : Calls Try.prog 11 #[.agg x.cells] w (MaySays w ((decide (1 ≤ x.rs) && decide (x.rs ≤ 4)) && x.noHang.nothing)) := by
  obtain ⟨mb, hmb⟩ : ∃ mb, Hid (mb = (decide (1 ≤ x.rs) && decide (x.rs ≤ 4))) := ⟨_, Lib.hid rfl⟩
  rw [← hmb.out]
  have hX := SAt.new x w
  have hg := World.grownBy_alloc w (.cells x.cells 34) none
  have hck : (w.alloc (.cells x.cells 34)).cell? ⟨w.heap.size, 0, none⟩ = some (.int .u8 5) := hX.cells.k.trans (by rw [hk]; rfl)
  have HP := Lib.hid (partOf_hangup w.heap.size _ hck)
  have HX := Lib.hid hX
  have HG := Lib.hid hg
  clear hX hg hck hk
  go_enter Try.func11, Try.ntmps11
  go_wp2_with fail
  generalize hw1 : w.alloc (.cells x.cells 34) = w1 at *
  go_at_call 15
  refine HP.out.mono ?_
  rintro e w2 ⟨b, rfl, hlt, hbx, hg2⟩
  have hx2 := HX.out.grown hg2 (by simp)
  have hz1 : w1.heap.size = w.heap.size + 1 := by rw [← hw1, World.size_alloc]
  have hbn : b ≠ w.heap.size := by omega
  have hpb := heap_alloc_new w2 (.cells #[.nilFunc, .nilFunc, .nilFunc, .nilFunc] 49)
  have hp3 := PartAt.new w2 (hangC b)
  have g3 := grown_part w2 (hangC b)
  have hx3 := hx2.grown g3 (by simp)
  have G3 := Lib.hid (grown_trans (grown_trans HG.out hg2) g3)
  have hb3 := hbx.grown g3 (by simp)
  clear hx2 hg2 HP HX HG g3 hbx hlt hz1
  clear hw1
  go_upto_region 2 with (first | (with_reducible refine wpList_here ?_; refine wpList_store_row rfl 49 (.tmp 3) (.tmp 7) rfl w2.heap.size (hangC b) rfl rfl 49 #[.nilFunc, .nilFunc, .nilFunc, .nilFunc] hpb (by kernel_rfl) rfl (by simp [hangC, clo, Value.oneCell']) ?_))
  clear hpb
  generalize hw3e : (w2.alloc (.cells #[.nilFunc, .nilFunc, .nilFunc, .nilFunc] 49)).setRow w2.heap.size (hangC b) = w3 at *
  clear hw3e
  generalize w2.heap.size = pb at *
  have cm : w3.cell? ⟨pb, 0, none⟩ = some (.func (.func 56) #[] #[.pointer (some ⟨b, 0, none⟩)]) := hp3.cell 0
  have cd : w3.cell? ⟨pb, 3, none⟩ = some (.func (.func 59) #[] #[.pointer (some ⟨b, 0, none⟩)]) := hp3.cell 3
  have HM := Lib.hid (mayHang_any b w.heap.size x w3 hb3 hx3)
  have HX3 := Lib.hid hx3
  have HB3 := Lib.hid hb3
  clear hb3
  rw [← hmb.out] at HM
  clear hx3 hp3 hmb
  cases mb with
  | false =>
    go_wp2_with fail
    go_at_call 56
    refine HM.out.mono ?_
    rintro e w' ⟨rfl, rfl⟩
    go_wp2_with fail
    go_ret
    exact ⟨rfl, G3.out⟩
  | true =>
    go_wp2_with fail
    go_at_call 56
    refine HM.out.mono ?_
    rintro e w' ⟨rfl, rfl⟩
    have HD := Lib.hid (dropHang_any b w.heap.size x w3 HB3.out HX3.out)
    go_wp2_with fail
    go_at_call 59
    refine HD.out.mono ?_
    rintro e w4 ⟨rfl, hx4, g4⟩
    have G4 := Lib.hid (grown_new G3.out g4 (Nat.le_refl _))
    obtain ⟨_, _, _, l4⟩ := hx4.loads
    have HN := Lib.hid (nothingMore_any x.noHang w4)
    clear hx4 g4 HD HM cm cd
    go_wp2_with (first | (with_reducible refine wpList_here ?_; refine wpList_ld (p := .pointer (some ⟨w.heap.size, 0, none⟩)) 1 ?_ ?_ ?_ l4 ?_; (· rfl); go_simp; (· kernel_rfl)))
    go_at_call 24
    refine HN.out.mono ?_
    rintro e w5 ⟨rfl, g5⟩
    have G5 := Lib.hid (grown_trans G4.out g5)
    clear g5 HN l4
    go_wp2_with fail
    go_ret
    exact ⟨rfl, G5.out⟩
theorem may_nothing4 (x : SV) (w : World) (hk : x.k = 4) : Calls Try.prog 11 #[.agg x.cells] w (MaySays w (x.nothing)) := by
  skip
  skip
  have hX := SAt.new x w
  have hg := World.grownBy_alloc w (.cells x.cells 34) none
  have hck : (w.alloc (.cells x.cells 34)).cell? ⟨w.heap.size, 0, none⟩ = some (.int .u8 4) := hX.cells.k.trans (by rw [hk]; rfl)
  have HP := Lib.hid (partOf_nothing4 w.heap.size _ hck)
  have HX := Lib.hid hX
  have HG := Lib.hid hg
  clear hX hg hck hk
  go_enter Try.func11, Try.ntmps11
  go_wp2_with fail
  generalize hw1 : w.alloc (.cells x.cells 34) = w1 at *
  go_at_call 15
  refine HP.out.mono ?_
  rintro e w2 ⟨rfl, hg2⟩
  have hx2 := HX.out.grown hg2 (by simp)
  have hpb := heap_alloc_new w2 (.cells #[.nilFunc, .nilFunc, .nilFunc, .nilFunc] 49)
  have hp3 := PartAt.new w2 (nothC)
  have g3 := grown_part w2 (nothC)
  have hx3 := hx2.grown g3 (by simp)
  have G3 := Lib.hid (grown_trans (grown_trans HG.out hg2) g3)
  clear hx2 hg2 HP HX HG g3 
  clear hw1
  go_upto_region 2 with (first | (with_reducible refine wpList_here ?_; refine wpList_store_row rfl 49 (.tmp 3) (.tmp 7) rfl w2.heap.size (nothC) rfl rfl 49 #[.nilFunc, .nilFunc, .nilFunc, .nilFunc] hpb (by kernel_rfl) rfl (by simp [nothC, bare, Value.oneCell']) ?_))
  clear hpb
  generalize hw3e : (w2.alloc (.cells #[.nilFunc, .nilFunc, .nilFunc, .nilFunc] 49)).setRow w2.heap.size (nothC) = w3 at *
  clear hw3e
  generalize w2.heap.size = pb at *
  have cm : w3.cell? ⟨pb, 0, none⟩ = some (.func (.func 60) #[] #[]) := hp3.cell 0
  have cd : w3.cell? ⟨pb, 3, none⟩ = some (.func (.func 63) #[] #[]) := hp3.cell 3
  have HM := Lib.hid (mayNothing_any w3)
  have HX3 := Lib.hid hx3
  clear hx3 hp3
  go_wp2_with fail
  go_at_call 60
  refine HM.out.mono ?_
  rintro e w' ⟨rfl, rfl⟩
  have HD := Lib.hid (dropNothing_any w3)
  go_wp2_with fail
  go_at_call 63
  refine HD.out.mono ?_
  rintro e w4 ⟨rfl, rfl⟩
  have hx4 := HX3.out
  have G4 := Lib.hid G3.out
  obtain ⟨_, _, _, l4⟩ := hx4.loads
  have HN := Lib.hid (nothingMore_any x w3)
  clear hx4 HD HM cm cd
  go_wp2_with (first | (with_reducible refine wpList_here ?_; refine wpList_ld (p := .pointer (some ⟨w.heap.size, 0, none⟩)) 1 ?_ ?_ ?_ l4 ?_; (· rfl); go_simp; (· kernel_rfl)))
  go_at_call 24
  refine HN.out.mono ?_
  rintro e w5 ⟨rfl, g5⟩
  have G5 := Lib.hid (grown_trans G4.out g5)
  clear g5 HN l4
  go_wp2_with fail
  go_ret
  exact ⟨rfl, G5.out⟩
theorem may_nothing6 (x : SV) (w : World) (hk : x.k = 6) : Calls Try.prog 11 #[.agg x.cells] w (MaySays w (x.nothing)) := by
  skip
  skip
  have hX := SAt.new x w
  have hg := World.grownBy_alloc w (.cells x.cells 34) none
  have hck : (w.alloc (.cells x.cells 34)).cell? ⟨w.heap.size, 0, none⟩ = some (.int .u8 6) := hX.cells.k.trans (by rw [hk]; rfl)
  have HP := Lib.hid (partOf_nothing6 w.heap.size _ hck)
  have HX := Lib.hid hX
  have HG := Lib.hid hg
  clear hX hg hck hk
  go_enter Try.func11, Try.ntmps11
  go_wp2_with fail
  generalize hw1 : w.alloc (.cells x.cells 34) = w1 at *
  go_at_call 15
  refine HP.out.mono ?_
  rintro e w2 ⟨rfl, hg2⟩
  have hx2 := HX.out.grown hg2 (by simp)
  have hpb := heap_alloc_new w2 (.cells #[.nilFunc, .nilFunc, .nilFunc, .nilFunc] 49)
  have hp3 := PartAt.new w2 (nothC)
  have g3 := grown_part w2 (nothC)
  have hx3 := hx2.grown g3 (by simp)
  have G3 := Lib.hid (grown_trans (grown_trans HG.out hg2) g3)
  clear hx2 hg2 HP HX HG g3 
  clear hw1
  go_upto_region 2 with (first | (with_reducible refine wpList_here ?_; refine wpList_store_row rfl 49 (.tmp 3) (.tmp 7) rfl w2.heap.size (nothC) rfl rfl 49 #[.nilFunc, .nilFunc, .nilFunc, .nilFunc] hpb (by kernel_rfl) rfl (by simp [nothC, bare, Value.oneCell']) ?_))
  clear hpb
  generalize hw3e : (w2.alloc (.cells #[.nilFunc, .nilFunc, .nilFunc, .nilFunc] 49)).setRow w2.heap.size (nothC) = w3 at *
  clear hw3e
  generalize w2.heap.size = pb at *
  have cm : w3.cell? ⟨pb, 0, none⟩ = some (.func (.func 60) #[] #[]) := hp3.cell 0
  have cd : w3.cell? ⟨pb, 3, none⟩ = some (.func (.func 63) #[] #[]) := hp3.cell 3
  have HM := Lib.hid (mayNothing_any w3)
  have HX3 := Lib.hid hx3
  clear hx3 hp3
  go_wp2_with fail
  go_at_call 60
  refine HM.out.mono ?_
  rintro e w' ⟨rfl, rfl⟩
  have HD := Lib.hid (dropNothing_any w3)
  go_wp2_with fail
  go_at_call 63
  refine HD.out.mono ?_
  rintro e w4 ⟨rfl, rfl⟩
  have hx4 := HX3.out
  have G4 := Lib.hid G3.out
  obtain ⟨_, _, _, l4⟩ := hx4.loads
  have HN := Lib.hid (nothingMore_any x w3)
  clear hx4 HD HM cm cd
  go_wp2_with (first | (with_reducible refine wpList_here ?_; refine wpList_ld (p := .pointer (some ⟨w.heap.size, 0, none⟩)) 1 ?_ ?_ ?_ l4 ?_; (· rfl); go_simp; (· kernel_rfl)))
  go_at_call 24
  refine HN.out.mono ?_
  rintro e w5 ⟨rfl, g5⟩
  have G5 := Lib.hid (grown_trans G4.out g5)
  clear g5 HN l4
  go_wp2_with fail
  go_ret
  exact ⟨rfl, G5.out⟩
theorem may_none (x : SV) (w : World) (hk : x.k = 0 ∨ 6 < x.k) : Calls Try.prog 11 #[.agg x.cells] w (MaySays w false) := by
  have hX := SAt.new x w
  have hg := World.grownBy_alloc w (.cells x.cells 34) none
  have HP := Lib.hid (partOf_none w.heap.size x.k _ hX.cells.k hk)
  have HG := Lib.hid hg
  clear hX hg hk
  go_enter Try.func11, Try.ntmps11
  go_wp2_with fail
  generalize hw1 : w.alloc (.cells x.cells 34) = w1 at *
  go_at_call 15
  refine HP.out.mono ?_
  rintro e w2 ⟨rfl, hg2⟩
  have hpb := heap_alloc_new w2 (.cells #[.nilFunc, .nilFunc, .nilFunc, .nilFunc] 49)
  have g3 := grown_part w2 #[.nilFunc, .nilFunc, .nilFunc, .nilFunc]
  have G3 := Lib.hid (grown_trans (grown_trans HG.out hg2) g3)
  clear hg2 HP HG g3 hw1
  go_wp2_with (first | (with_reducible refine wpList_here ?_; refine wpList_store_row rfl 49 (.tmp 3) (.tmp 7) rfl w2.heap.size #[.nilFunc, .nilFunc, .nilFunc, .nilFunc] rfl rfl 49 #[.nilFunc, .nilFunc, .nilFunc, .nilFunc] hpb (by kernel_rfl) rfl (by simp [Value.oneCell']) ?_))
  go_ret
  exact ⟨rfl, G3.out⟩
/-- May: whether the signal may be. -/
theorem sgMay_any (x : SV) (w : World) : Calls Try.prog 11 #[.agg x.cells] w (MaySays w x.mayC) := by
  unfold SV.mayC
  by_cases h1 : x.k = 1
  · rw [if_pos h1]; exact may_offer x w h1
  rw [if_neg h1]
  by_cases h2 : x.k = 2
  · rw [if_pos h2]; exact may_answer x w h2
  rw [if_neg h2]
  by_cases h3 : x.k = 3
  · rw [if_pos h3]; exact may_cand x w h3
  rw [if_neg h3]
  by_cases h5 : x.k = 5
  · rw [if_pos h5]; exact may_hang x w h5
  rw [if_neg h5]
  by_cases h4 : x.k = 4
  · rw [if_pos (Or.inl h4)]; exact may_nothing4 x w h4
  by_cases h6 : x.k = 6
  · rw [if_pos (Or.inr h6)]; exact may_nothing6 x w h6
  rw [if_neg (by omega)]
  exact may_none x w (by omega)
end Go.Proofs.Ytpddgiflljlpbaa
