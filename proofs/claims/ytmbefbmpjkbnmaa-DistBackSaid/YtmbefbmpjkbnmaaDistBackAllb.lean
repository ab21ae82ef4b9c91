/-
  What bytes are, as packets, envelopes, rosters.
-/
import Derived.Test.YtmbefbmpjkbnmaaDistBackAlla
import Derived.Test.YtmbefbmpjkbnmaaBase
import Derived.Test.YtmbefbmpjkbnmaaOwnR
import Derived.ChangeKeysEq
import Derived.Laws.StructEq
import Derived.Test.YtmbefbmpjkbnmaaRelAll
import Derived.Test.YtmbefbmpjkbnmaaOrd
import Derived.Test.YtmbefbmpjkbnmaaRelKit
import Derived.Test.YtmbefbmpjkbnmaaMake
import Derived.Deep.MidRow
import Derived.Test.YtmbefbmpjkbnmaaInNum
import Derived.Test.YtmbefbmpjkbnmaaInFlag
import Derived.Test.YtmbefbmpjkbnmaaExecQ
import Derived.Test.YtmbefbmpjkbnmaaOrd3
import Derived.StillTail
namespace Go.Proofs.Ytmbefbmpjkbnmaa
open Go.RowKit

set_option maxRecDepth 100000
set_option maxHeartbeats 4000000

def zeroEnv : Nat → Value := (⟨fun _ => 0, fun _ => 0, false, ⟨fun _ => 0, fun _ => 0, false, 0⟩, ⟨fun _ => 0, 0, 0⟩, none, 0, 0⟩ : EV).v
theorem zeroEnv_row : (Try.zeroCells41 : Array Value) = rowOf 106 zeroEnv := by kernel_rfl
theorem zeroEnv_one (j : Nat) : (zeroEnv j).oneCell' = true := EV.one _ j
theorem takeEnv_any (D L c : Nat) (a : Option Addr) (F : Nat → Nat) (s : ISt) (m : Bool) (Q : (Nat → Value) → World → World → Prop) (w : World) (hRd : Rd w D a L F) (hL : L ≤ 2 ^ 46)
    (HT : ∀ w1 g, w.grownBy w1 none → w.heap.size ≤ g → IAt w1 (some ⟨g, 0, none⟩) L F (.good 0) → Calls Try.prog 94 #[.pointer (some ⟨g, 0, none⟩)] w1 fun e w' => ∃ v, e = .returned (.agg (rowOf 106 v)) ∧ (∀ j, (v j).oneCell' = true) ∧ ISays w1 (some ⟨g, 0, none⟩) L F s w' ∧ Q v w1 w')
    (HM : s.all L = true → ∀ v w1 w2 w3, Q v w1 w2 → w2.grownBy w3 none → Calls Try.prog 88 #[.agg (rowOf 106 v)] w3 fun e w' => e = .returned (.bool m) ∧ w3.grownBy w' none) :
    Calls Try.prog 32 #[.agg (rowOf 3 codEnv), .slice a L c] w (TakeSays 106 zeroEnv (s.all L && m) Q w) := by
  have ga := World.grownBy_alloc w (.cells (rowOf 3 codEnv) 78) none
  have hz1 := World.size_alloc w (.cells (rowOf 3 codEnv) 78)
  have hC := RowAt.new w 78 3 codEnv _ rfl
  have gb := World.grownBy_alloc (w.alloc (.cells (rowOf 3 codEnv) 78)) (.cells Try.zeroCells41 41) none
  have hz2 := World.size_alloc (w.alloc (.cells (rowOf 3 codEnv) 78)) (.cells Try.zeroCells41 41)
  have hR := RowAt.new (w.alloc (.cells (rowOf 3 codEnv) 78)) 41 106 zeroEnv _ zeroEnv_row
  have gc := World.grownBy_alloc ((w.alloc (.cells (rowOf 3 codEnv) 78)).alloc (.cells Try.zeroCells41 41)) (.cells Try.zeroCells41 41) none
  have hz3 := World.size_alloc ((w.alloc (.cells (rowOf 3 codEnv) 78)).alloc (.cells Try.zeroCells41 41)) (.cells Try.zeroCells41 41)
  have hN := RowAt.new ((w.alloc (.cells (rowOf 3 codEnv) 78)).alloc (.cells Try.zeroCells41 41)) 41 106 zeroEnv _ zeroEnv_row
  rw [hz2, hz1] at hz3 hN
  rw [hz1] at hR
  have hC := (hC.grown gb (by simp)).grown gc (by simp)
  have hR := hR.grown gc (by simp)
  have hG := grown_trans (grown_trans ga gb) gc
  have hRd := hRd.grown hG (by simp)
  have HHT := Lib.hid HT
  have HHM := Lib.hid HM
  have HL := Lib.hid hL
  clear ga gb gc HT HM hz1 hz2 hL
  go_enter Try.func32, Try.ntmps32
  go_upto_region 2 with fail
  obtain ⟨B, hB⟩ : ∃ B, B = w.heap.size := ⟨_, rfl⟩
  rw [← hB] at hC hR hN hz3 ⊢
  generalize ((w.alloc (.cells (rowOf 3 codEnv) 78)).alloc (.cells Try.zeroCells41 41)).alloc (.cells Try.zeroCells41 41) = w1 at *
  have HB := Lib.hid (And.intro hB hz3)
  clear hB hz3
  have c2 : w1.cell? ⟨B, 2, none⟩ = some (.func (.func 94) #[] #[]) := hC.cell 2 (by decide)
  have e0 := ftEnv_some w1
  have HNI := Lib.hid (newInF_any D L c a F w1 hRd HL.out)
  clear hRd HL
  have HC := Lib.hid hC
  have HR := Lib.hid hR
  have HN := Lib.hid hN
  have HG1 := Lib.hid hG
  clear hC hR hN hG
  go_wp2_with fail
  go_at_call 106
  refine HNI.out.mono ?_
  rintro e w2 ⟨p, rfl, hI, hgp, g2, _⟩
  obtain ⟨g, rfl⟩ : ∃ g, p = some ⟨g, 0, none⟩ := by
    obtain ⟨g', a, c, e, _⟩ := hI.st
    exact ⟨g', e⟩
  have hgg := hgp g rfl
  clear hgp e0 c2 HNI
  have hC := HC.out.grown g2 (by simp)
  have hR := HR.out.grown g2 (by simp)
  have hN := HN.out.grown g2 (by simp)
  have hG := grown_trans HG1.out g2
  have HW2 := Lib.hid (show w.heap.size ≤ w2.heap.size ∧ B + 1 < w2.heap.size from ⟨hG.size, by have := g2.size; have := HB.out.2; omega⟩)
  have HGG := Lib.hid (show B + 2 < g from by have := HB.out.2; omega)
  have c2 : w2.cell? ⟨B, 2, none⟩ = some (.func (.func 94) #[] #[]) := hC.cell 2 (by decide)
  have HX := Lib.hid (HHT.out w2 g hG (by have := HG1.out.size; omega) hI)
  have HGW := Lib.hid hG
  clear hI g2 hgg HC HR HN HG1 HHT hG
  have HC := Lib.hid hC
  have HR := Lib.hid hR
  have HN := Lib.hid hN
  clear hC hR hN
  go_wp2_with fail
  go_at_call 94
  refine HX.out.mono ?_
  rintro e w3 ⟨v, rfl, hone, hs, hq⟩
  have HON := Lib.hid hone
  have HQ := Lib.hid hq
  have hC := HC.out.grown hs.gr (fun e => by have := HGG.out; have e : B = g := by simpa [rowP] using e
                                             omega)
  have hR := HR.out.grown hs.gr (fun e => by have := HGG.out; have e : B + 1 = g := by simpa [rowP] using e
                                             omega)
  have hN := HN.out.grown hs.gr (fun e => by have := HGG.out; have e : B + 2 = g := by simpa [rowP] using e
                                             omega)
  have hG : w.grownBy w3 none := grown_into HGW.out (show w2.grownBy w3 (some g) from hs.gr) (by have := HGG.out; have := HB.out.1; omega)
  have hX := RowAt.new w3 41 106 zeroEnv _ zeroEnv_row
  obtain ⟨k1, k2⟩ := RowAt.store (P := Try.prog) hX 0 41 106 v (by decide) (by kernel_rfl) (fun j _ => HON.out j)
  have gx : w3.grownBy ((w3.alloc (.cells Try.zeroCells41 41)).setCells w3.heap.size 0 (rowOf 106 v).toList) none := grown_setCells w3.heap.size (Or.inl (Nat.le_refl _)) _ 0 _ (World.grownBy_alloc w3 _ none)
  have hX := k2.congr (v' := v) fun i hi => by rw [if_pos ⟨Nat.zero_le _, by omega⟩, Nat.sub_zero]
  have hI := hs.st.grown0 gx
  have hC := hC.grown gx (by simp)
  have hR := hR.grown gx (by simp)
  have hN := hN.grown gx (by simp)
  have hG := grown_trans hG gx
  obtain ⟨X, hXX⟩ : ∃ X, X = w3.heap.size := ⟨_, rfl⟩
  have HLT := Lib.hid (show B + 2 < X by rw [hXX]; have := hs.st.ltS; have := HGG.out; omega)
  rw [← hXX] at k1 k2 gx hX hI hC hR hN hG
  have HS := Lib.hid k1
  have HXX := Lib.hid hXX
  clear hs k1 k2 hone hq hXX HC HR HN HX HGW c2
  have HC := Lib.hid hC
  have HR := Lib.hid hR
  have HN := Lib.hid hN
  have HX := Lib.hid hX
  have HI := Lib.hid hI
  have HG := Lib.hid hG
  have HGQ := Lib.hid gx
  clear hC hR hN hX hI hG gx
  go_upto_region 6 with (first | ((with_reducible refine wpList_here ?_); refine wpList_st (T := 41) (p := .pointer (some ⟨w3.heap.size, 0, none⟩)) (v := .agg (rowOf 106 v)) (.tmp 8) (.tmp 18) ?_ ?_ ?_ ?_ ?_ (by rw [← HXX.out]; exact HS.out) ?_; (· rfl); (· rfl); go_simp; (· kernel_rfl); (· kernel_rfl)))
  rw [← HXX.out]
  obtain ⟨w4, hw4⟩ : ∃ W, W = (w3.alloc (.cells Try.zeroCells41 41)).setCells X 0 (rowOf 106 v).toList := ⟨_, rfl⟩
  have hC := HC.out
  have hR := HR.out
  have hN := HN.out
  have hX := HX.out
  have hI := HI.out
  have hG := HG.out
  have hGQ := HGQ.out
  rw [← hw4] at hC hR hN hX hI hG hGQ ⊢
  clear HC HR HN HX HI HG HGQ hw4 HS
  have HE := Lib.hid (inEnd_any hI)
  have hcode := hI.code
  have HLX := Lib.hid (hX.load (P := Try.prog) 0 41 106 v (by decide) (fun j _ => by rw [Nat.zero_add]) (by kernel_rfl) (by kernel_rfl))
  have HLC := Lib.hid (hC.load (P := Try.prog) 0 78 3 codEnv (by decide) (fun j _ => by rw [Nat.zero_add]) (by kernel_rfl) (by kernel_rfl))
  have HLN := Lib.hid (hN.load (P := Try.prog) 0 41 106 zeroEnv (by decide) (fun j _ => by rw [Nat.zero_add]) (by kernel_rfl) (by kernel_rfl))
  have HG := Lib.hid hG
  have HGQ := Lib.hid hGQ
  clear hI hG hGQ
  obtain ⟨cd, hcd⟩ : ∃ x, x = s.code L := ⟨_, rfl⟩
  rw [← hcd] at hcode HE
  clear hcd
  obtain ⟨al, hal⟩ : ∃ x, x = s.all L := ⟨_, rfl⟩
  rw [← hal] at hcode HHM
  have HAL := Lib.hid hal
  clear hal
  have HR := Lib.hid hR
  have HC := Lib.hid hC
  have HN := Lib.hid hN
  have HX := Lib.hid hX
  clear hR hC hN hX
  go_wp2_with fail
  go_at_call 107
  refine HE.out.mono ?_
  rintro e w5 ⟨rfl, rfl⟩
  clear HE
  cases al with
  | false =>
    have hne : ¬ cd = 0 := hcode
    have HOK := Lib.hid (show (s.all L && m) = false by rw [← HAL.out]; rfl)
    clear hcode
    have hR := HR.out
    have hN := HN.out
    have hC := HC.out
    have hX := HX.out
    clear HR HN HC HX
    obtain ⟨k1, k2⟩ := RowAt.store (P := Try.prog) hR 0 41 106 zeroEnv (by decide) (by kernel_rfl) (fun j _ => zeroEnv_one j)
    obtain ⟨wz, hwz⟩ : ∃ W, W = w4.setCells (B + 1) 0 (rowOf 106 zeroEnv).toList := ⟨_, rfl⟩
    rw [← hwz] at k1 k2
    have gz : w4.grownBy wz (some (B + 1)) := by rw [hwz]; exact grown_setCells (B + 1) (Or.inr rfl) _ 0 _ (grown_refl _ _)
    have HK := Lib.hid (k2.congr (v' := zeroEnv) fun i hi => by rw [if_pos ⟨Nat.zero_le _, by omega⟩, Nat.sub_zero])
    have HS := Lib.hid k1
    have HGZ := Lib.hid (grown_into HG.out gz (by have := HB.out; omega))
    have HQZ := Lib.hid (grown_trans (grown_some (row := some (B + 1)) HGQ.out) gz)
    clear k1 k2 hwz gz hR hN hC hX
    go_wp2_with (first | ((with_reducible refine wpList_here ?_); refine wpList_ld (p := .pointer (some ⟨(B + 2), 0, none⟩)) 6 ?_ ?_ ?_ HLN.out ?_; (· rfl); go_simp; (· kernel_rfl)) | ((with_reducible refine wpList_here ?_); refine wpList_st (T := 41) (p := .pointer (some ⟨(B + 1), 0, none⟩)) (v := .agg (rowOf 106 zeroEnv)) (.tmp 4) (.tmp 28) ?_ ?_ ?_ ?_ ?_ HS.out ?_; (· rfl); (· rfl); go_simp; (· kernel_rfl); (· kernel_rfl)))
    exact bodyPost_ret (res_rowAt2 rfl rfl rfl HK.out (by kernel_rfl) (by kernel_rfl)) rfl ⟨⟨v, w2, w3, B + 1, by first | rfl | (rw [HOK.out]; rfl), HW2.out.1, HQ.out, HW2.out.2, HQZ.out⟩, HGZ.out⟩
  | true =>
    obtain rfl : cd = 0 := hcode
    have HMY := Lib.hid (mayEnv_any v m w4 (fun w6 h => HHM.out (by first | rfl | trivial) v w2 w3 w6 HQ.out (grown_trans HGQ.out h)))
    clear HHM
    go_wp2_with (first | ((with_reducible refine wpList_here ?_); refine wpList_ld (p := .pointer (some ⟨B, 0, none⟩)) 2 ?_ ?_ ?_ HLC.out ?_; (· rfl); go_simp; (· kernel_rfl)) | ((with_reducible refine wpList_here ?_); refine wpList_ld (p := .pointer (some ⟨X, 0, none⟩)) 8 ?_ ?_ ?_ HLX.out ?_; (· rfl); go_simp; (· kernel_rfl)))
    go_at_call 87
    refine HMY.out.mono ?_
    rintro e w6 ⟨rfl, g6⟩
    have hR := HR.out.grown g6 (by simp)
    have hN := HN.out.grown g6 (by simp)
    have hC := HC.out.grown g6 (by simp)
    have hX := HX.out.grown g6 (by simp)
    have HG2 := Lib.hid (grown_trans HG.out g6)
    have HGQ2 := Lib.hid (grown_trans HGQ.out g6)
    clear g6 HR HN HC HX HMY HLX HLN HLC HG HGQ
    have HG := HG2
    have HGQ := HGQ2
    clear HG2 HGQ2
    have HLX := Lib.hid (hX.load (P := Try.prog) 0 41 106 v (by decide) (fun j _ => by rw [Nat.zero_add]) (by kernel_rfl) (by kernel_rfl))
    have HLN := Lib.hid (hN.load (P := Try.prog) 0 41 106 zeroEnv (by decide) (fun j _ => by rw [Nat.zero_add]) (by kernel_rfl) (by kernel_rfl))
    cases m with
    | false =>
      have HOK := Lib.hid (show (s.all L && false) = false by rw [← HAL.out]; rfl)
      obtain ⟨k1, k2⟩ := RowAt.store (P := Try.prog) hR 0 41 106 zeroEnv (by decide) (by kernel_rfl) (fun j _ => zeroEnv_one j)
      obtain ⟨wz, hwz⟩ : ∃ W, W = w6.setCells (B + 1) 0 (rowOf 106 zeroEnv).toList := ⟨_, rfl⟩
      rw [← hwz] at k1 k2
      have gz : w6.grownBy wz (some (B + 1)) := by rw [hwz]; exact grown_setCells (B + 1) (Or.inr rfl) _ 0 _ (grown_refl _ _)
      have HK := Lib.hid (k2.congr (v' := zeroEnv) fun i hi => by rw [if_pos ⟨Nat.zero_le _, by omega⟩, Nat.sub_zero])
      have HS := Lib.hid k1
      have HGZ := Lib.hid (grown_into HG.out gz (by have := HB.out; omega))
      have HQZ := Lib.hid (grown_trans (grown_some (row := some (B + 1)) HGQ.out) gz)
      clear k1 k2 hwz gz hR hN hC hX
      go_wp2_with (first | ((with_reducible refine wpList_here ?_); refine wpList_ld (p := .pointer (some ⟨(B + 2), 0, none⟩)) 6 ?_ ?_ ?_ HLN.out ?_; (· rfl); go_simp; (· kernel_rfl)) | ((with_reducible refine wpList_here ?_); refine wpList_st (T := 41) (p := .pointer (some ⟨(B + 1), 0, none⟩)) (v := .agg (rowOf 106 zeroEnv)) (.tmp 4) (.tmp 28) ?_ ?_ ?_ ?_ ?_ HS.out ?_; (· rfl); (· rfl); go_simp; (· kernel_rfl); (· kernel_rfl)))
      exact bodyPost_ret (res_rowAt2 rfl rfl rfl HK.out (by kernel_rfl) (by kernel_rfl)) rfl ⟨⟨v, w2, w3, B + 1, by first | rfl | (rw [HOK.out]; rfl), HW2.out.1, HQ.out, HW2.out.2, HQZ.out⟩, HGZ.out⟩
    | true =>
      have HOK := Lib.hid (show (s.all L && true) = true by rw [← HAL.out]; rfl)
      obtain ⟨k1, k2⟩ := RowAt.store (P := Try.prog) hR 0 41 106 v (by decide) (by kernel_rfl) (fun j _ => HON.out j)
      obtain ⟨wz, hwz⟩ : ∃ W, W = w6.setCells (B + 1) 0 (rowOf 106 v).toList := ⟨_, rfl⟩
      rw [← hwz] at k1 k2
      have gz : w6.grownBy wz (some (B + 1)) := by rw [hwz]; exact grown_setCells (B + 1) (Or.inr rfl) _ 0 _ (grown_refl _ _)
      have HK := Lib.hid (k2.congr (v' := v) fun i hi => by rw [if_pos ⟨Nat.zero_le _, by omega⟩, Nat.sub_zero])
      have HS := Lib.hid k1
      have HGZ := Lib.hid (grown_into HG.out gz (by have := HB.out; omega))
      have HQZ := Lib.hid (grown_trans (grown_some (row := some (B + 1)) HGQ.out) gz)
      clear k1 k2 hwz gz hR hN hC hX
      go_wp2_with (first | ((with_reducible refine wpList_here ?_); refine wpList_ld (p := .pointer (some ⟨X, 0, none⟩)) 8 ?_ ?_ ?_ HLX.out ?_; (· rfl); go_simp; (· kernel_rfl)) | ((with_reducible refine wpList_here ?_); refine wpList_st (T := 41) (p := .pointer (some ⟨(B + 1), 0, none⟩)) (v := .agg (rowOf 106 v)) (.tmp 4) (.tmp 29) ?_ ?_ ?_ ?_ ?_ HS.out ?_; (· rfl); (· rfl); go_simp; (· kernel_rfl); (· kernel_rfl)))
      exact bodyPost_ret (res_rowAt2 rfl rfl rfl HK.out (by kernel_rfl) (by kernel_rfl)) rfl ⟨⟨v, w2, w3, B + 1, by first | rfl | (rw [HOK.out]; rfl), HW2.out.1, HQ.out, HW2.out.2, HQZ.out⟩, HGZ.out⟩
end Go.Proofs.Ytmbefbmpjkbnmaa
namespace Go.Proofs.Ytmbefbmpjkbnmaa
open Go.RowKit

set_option maxRecDepth 100000
set_option maxHeartbeats 4000000

def codPkt (i : Nat) : Value := if i = 0 then .func (.func 100) #[] #[] else if i = 1 then .func (.func 101) #[] #[] else .func (.func 103) #[] #[]
theorem codPkt_any (w : World) : Calls Try.prog 24 #[] w fun e w' => e = .returned (.agg (rowOf 3 codPkt)) ∧ w.grownBy w' none := by
  have ga := World.grownBy_alloc w (.cells #[.nilFunc, .nilFunc, .nilFunc] 86) none
  have hn := RowAt.new w 86 3 (fun _ => .nilFunc) #[.nilFunc, .nilFunc, .nilFunc] rfl
  obtain ⟨hs1, hs2⟩ := RowAt.store (P := Try.prog) hn 0 86 3 codPkt (by decide) (by kernel_rfl) (fun j _ => by unfold codPkt; (repeat' split) <;> rfl)
  have hrr := hs2.congr (v' := codPkt) fun i hi => by rw [if_pos ⟨Nat.zero_le _, by omega⟩, Nat.sub_zero]
  have hG : w.grownBy _ none := grown_setCells w.heap.size (Or.inl (Nat.le_refl _)) (rowOf 3 codPkt).toList 0 _ ga
  have HS := Lib.hid hs1
  have HRR := Lib.hid hrr
  have HG := Lib.hid hG
  clear ga hn hs1 hs2 hrr hG
  go_enter Try.func24, Try.ntmps24
  go_wp2_with (first | ((with_reducible refine wpList_here ?_); refine wpList_st (T := 86) (p := .pointer (some ⟨w.heap.size, 0, none⟩)) (v := .agg (rowOf 3 codPkt)) (.tmp 0) (.tmp 1) ?_ ?_ ?_ ?_ ?_ HS.out ?_; (· rfl); (· rfl); go_simp; (· kernel_rfl); (· kernel_rfl)))
  exact bodyPost_ret (res_rowAt rfl rfl HRR.out (by kernel_rfl) (by kernel_rfl)) rfl ⟨rfl, HG.out⟩
theorem fmPkt_some (w : World) : (binOp .neq 82 (.func (.func 100) #[] #[]) .nilFunc).run Try.prog w = .ok (.bool true) w := by kernel_rfl
theorem fpPkt_some (w : World) : (binOp .eql 83 (.func (.func 101) #[] #[]) .nilFunc).run Try.prog w = .ok (.bool false) w := by kernel_rfl
theorem ftPkt_some (w : World) : (binOp .eql 84 (.func (.func 103) #[] #[]) .nilFunc).run Try.prog w = .ok (.bool false) w := by kernel_rfl
theorem mayPkt_any (v : Nat → Value) (m : Bool) (w : World) (HM : ∀ w1, w.grownBy w1 none → Calls Try.prog 100 #[.agg (rowOf 21 v)] w1 fun e w' => e = .returned (.bool m) ∧ w1.grownBy w' none) :
    Calls Try.prog 99 #[.agg (rowOf 3 codPkt), .agg (rowOf 21 v)] w fun e w' => e = .returned (.bool m) ∧ w.grownBy w' none := by
  have ga := World.grownBy_alloc w (.cells (rowOf 3 codPkt) 86) none
  have hz := World.size_alloc w (.cells (rowOf 3 codPkt) 86)
  have hC := RowAt.new w 86 3 codPkt _ rfl
  have gb := World.grownBy_alloc (w.alloc (.cells (rowOf 3 codPkt) 86)) (.cells (rowOf 21 v) 43) none
  have hX := RowAt.new (w.alloc (.cells (rowOf 3 codPkt) 86)) 43 21 v _ rfl
  rw [hz] at hX
  have hC := hC.grown gb (by simp)
  have hG := grown_trans ga gb
  have HHM := Lib.hid HM
  clear ga gb HM hz
  go_enter Try.func99, Try.ntmps99
  go_upto_region 1 with fail
  obtain ⟨B, hB⟩ : ∃ B, B = w.heap.size := ⟨_, rfl⟩
  rw [← hB] at hC hX ⊢
  generalize (w.alloc (.cells (rowOf 3 codPkt) 86)).alloc (.cells (rowOf 21 v) 43) = w2 at *
  clear hB
  have c0 : w2.cell? ⟨B, 0, none⟩ = some (.func (.func 100) #[] #[]) := hC.cell 0 (by decide)
  have HL := Lib.hid (hX.load (P := Try.prog) 0 43 21 v (by decide) (fun j _ => by rw [Nat.zero_add]) (by kernel_rfl) (by kernel_rfl))
  have HX := Lib.hid (HHM.out w2 hG)
  have HG := Lib.hid hG
  have e0 := fmPkt_some w2
  clear hC hX hG HHM
  go_wp2_with (first | ((with_reducible refine wpList_here ?_); refine wpList_ld (p := .pointer (some ⟨B + 1, 0, none⟩)) 3 ?_ ?_ ?_ HL.out ?_; (· rfl); go_simp; (· kernel_rfl)))
  go_at_call 100
  refine HX.out.mono ?_
  rintro e w3 ⟨rfl, g3⟩
  have HG3 := Lib.hid (grown_trans HG.out g3)
  clear HX HG HL c0 g3 e0
  go_wp2_with fail
  go_ret
  exact ⟨rfl, HG3.out⟩
theorem putPkt_any (v : Nat → Value) (m : Bool) (n : Nat) (f : Nat → Nat) (w : World) (HM : ∀ w1, w.grownBy w1 none → Calls Try.prog 100 #[.agg (rowOf 21 v)] w1 fun e w' => e = .returned (.bool m) ∧ w1.grownBy w' none)
    (HP : m = true → ∀ w0 w1 g, w.grownBy w0 none → Good w0 w1 g 70024 0 (fun _ => 0) → Calls Try.prog 101 #[.pointer (some ⟨g, 0, none⟩), .agg (rowOf 21 v)] w1 (Goes w0 w1 g 70024 n f)) :
    Calls Try.prog 98 #[.agg (rowOf 3 codPkt), .agg (rowOf 21 v)] w (PutSays w m n f) := by
  have ga := World.grownBy_alloc w (.cells (rowOf 3 codPkt) 86) none
  have hz := World.size_alloc w (.cells (rowOf 3 codPkt) 86)
  have hC := RowAt.new w 86 3 codPkt _ rfl
  have gb := World.grownBy_alloc (w.alloc (.cells (rowOf 3 codPkt) 86)) (.cells (rowOf 21 v) 43) none
  have hX := RowAt.new (w.alloc (.cells (rowOf 3 codPkt) 86)) 43 21 v _ rfl
  rw [hz] at hX
  have hC := hC.grown gb (by simp)
  have hG := grown_trans ga gb
  have HHM := Lib.hid HM
  have HHP := Lib.hid HP
  clear ga gb HM HP hz
  go_enter Try.func98, Try.ntmps98
  go_upto_region 1 with fail
  obtain ⟨B, hB⟩ : ∃ B, B = w.heap.size := ⟨_, rfl⟩
  rw [← hB] at hC hX ⊢
  generalize (w.alloc (.cells (rowOf 3 codPkt) 86)).alloc (.cells (rowOf 21 v) 43) = w2 at *
  have HB := Lib.hid hB
  clear hB
  have c1 : w2.cell? ⟨B, 1, none⟩ = some (.func (.func 101) #[] #[]) := hC.cell 1 (by decide)
  have HL := Lib.hid (hX.load (P := Try.prog) 0 43 21 v (by decide) (fun j _ => by rw [Nat.zero_add]) (by kernel_rfl) (by kernel_rfl))
  have HLC := Lib.hid (hC.load (P := Try.prog) 0 86 3 codPkt (by decide) (fun j _ => by rw [Nat.zero_add]) (by kernel_rfl) (by kernel_rfl))
  have HX := Lib.hid (mayPkt_any v m w2 (fun w1 h => HHM.out w1 (grown_trans hG h)))
  have HG := Lib.hid hG
  have HC := Lib.hid hC
  have HR := Lib.hid hX
  have e0 := fpPkt_some w2
  clear hC hX hG HHM
  go_wp2_with (first | ((with_reducible refine wpList_here ?_); refine wpList_ld (p := .pointer (some ⟨B + 1, 0, none⟩)) 3 ?_ ?_ ?_ HL.out ?_; (· rfl); go_simp; (· kernel_rfl)) | ((with_reducible refine wpList_here ?_); refine wpList_ld (p := .pointer (some ⟨B, 0, none⟩)) 2 ?_ ?_ ?_ HLC.out ?_; (· rfl); go_simp; (· kernel_rfl)))
  go_at_call 99
  refine HX.out.mono ?_
  rintro e w3 ⟨rfl, g3⟩
  have HG3 := Lib.hid (grown_trans HG.out g3)
  clear HX HL HLC c1 e0
  cases m with
  | false =>
    clear g3
    go_wp2_with fail
    go_ret2
    exact ⟨⟨none, 0, rfl, OwnN.nil _ _ _⟩, HG3.out⟩
  | true =>
    have HN := Lib.hid (newOut_any 70024 (by decide) (by decide) w3)
    have HG3' := Lib.hid g3
    clear g3
    go_wp2_with fail
    go_at_call 121
    refine HN.out.mono ?_
    rintro e w4 ⟨p, rfl, hO⟩
    obtain ⟨g, rfl⟩ : ∃ g, p = some ⟨g, 0, none⟩ := by
      obtain ⟨g', a, c, e, _⟩ := (show OAt w3 w4 p (.good 70024 0 fun _ => 0) from hO).st
      exact ⟨g', e⟩
    have hO : Good w3 w4 g 70024 0 (fun _ => 0) := hO
    have hX := HR.out.grown (grown_trans HG3'.out hO.gr) (by simp)
    have hC := HC.out.grown (grown_trans HG3'.out hO.gr) (by simp)
    have c1 : w4.cell? ⟨B, 1, none⟩ = some (.func (.func 101) #[] #[]) := hC.cell 1 (by decide)
    have HL := Lib.hid (hX.load (P := Try.prog) 0 43 21 v (by decide) (fun j _ => by rw [Nat.zero_add]) (by kernel_rfl) (by kernel_rfl))
    have HX := Lib.hid (HHP.out (by first | rfl | trivial) w3 w4 g HG3.out hO)
    clear hX hC hO HHP HN HC HR HG3'
    go_wp2_with (first | ((with_reducible refine wpList_here ?_); refine wpList_ld (p := .pointer (some ⟨B + 1, 0, none⟩)) 3 ?_ ?_ ?_ HL.out ?_; (· rfl); go_simp; (· kernel_rfl)))
    go_at_call 101
    refine HX.out.mono ?_
    rintro e w5 ⟨⟨rfl, h5⟩, _⟩
    have HY := Lib.hid (outBytes_any h5 (good_len h5))
    have HG5 := Lib.hid (grown_trans HG3.out h5.gr)
    clear h5 HX HL c1
    go_wp2_with fail
    go_at_call 122
    refine HY.out.mono ?_
    rintro e w6 hE
    obtain ⟨a, c, rfl, hO, hg⟩ := hE.ex
    have HO := Lib.hid hO
    have HG6 := Lib.hid (grown_trans HG5.out hg)
    have HS5 := Lib.hid HG5.out.size
    clear hE hO hg HY
    go_wp2_with fail
    go_ret2
    exact ⟨⟨a, c, rfl, HO.out.base HS5.out⟩, HG6.out⟩
end Go.Proofs.Ytmbefbmpjkbnmaa
namespace Go.Proofs.Ytmbefbmpjkbnmaa
open Go.RowKit

set_option maxRecDepth 100000
set_option maxHeartbeats 4000000

def zeroPkt : Nat → Value := (⟨fun _ => 0, fun _ => 0, fun _ => 0, none, 0, 0⟩ : PV).v
theorem zeroPkt_row : (#[.int .u8 0, .int .u8 0, .int .u8 0, .int .u8 0, .int .u8 0, .int .u8 0, .int .u8 0, .int .u8 0, .int .u8 0, .int .u8 0, .int .u8 0, .int .u8 0, .int .u8 0, .int .u8 0, .int .u8 0, .int .u8 0, .int .u8 0, .int .u8 0, .int .u8 0, .int .u8 0, .slice none 0 0] : Array Value) = rowOf 21 zeroPkt := by kernel_rfl
theorem zeroPkt_one (j : Nat) : (zeroPkt j).oneCell' = true := PV.one _ j
theorem takePkt_any (D L c : Nat) (a : Option Addr) (F : Nat → Nat) (s : ISt) (m : Bool) (Q : (Nat → Value) → World → World → Prop) (w : World) (hRd : Rd w D a L F) (hL : L ≤ 2 ^ 46)
    (HT : ∀ w1 g, w.grownBy w1 none → w.heap.size ≤ g → IAt w1 (some ⟨g, 0, none⟩) L F (.good 0) → Calls Try.prog 103 #[.pointer (some ⟨g, 0, none⟩)] w1 fun e w' => ∃ v, e = .returned (.agg (rowOf 21 v)) ∧ (∀ j, (v j).oneCell' = true) ∧ ISays w1 (some ⟨g, 0, none⟩) L F s w' ∧ Q v w1 w')
    (HM : s.all L = true → ∀ v w1 w2 w3, Q v w1 w2 → w2.grownBy w3 none → Calls Try.prog 100 #[.agg (rowOf 21 v)] w3 fun e w' => e = .returned (.bool m) ∧ w3.grownBy w' none) :
    Calls Try.prog 35 #[.agg (rowOf 3 codPkt), .slice a L c] w (TakeSays 21 zeroPkt (s.all L && m) Q w) := by
  have ga := World.grownBy_alloc w (.cells (rowOf 3 codPkt) 86) none
  have hz1 := World.size_alloc w (.cells (rowOf 3 codPkt) 86)
  have hC := RowAt.new w 86 3 codPkt _ rfl
  have gb := World.grownBy_alloc (w.alloc (.cells (rowOf 3 codPkt) 86)) (.cells #[.int .u8 0, .int .u8 0, .int .u8 0, .int .u8 0, .int .u8 0, .int .u8 0, .int .u8 0, .int .u8 0, .int .u8 0, .int .u8 0, .int .u8 0, .int .u8 0, .int .u8 0, .int .u8 0, .int .u8 0, .int .u8 0, .int .u8 0, .int .u8 0, .int .u8 0, .int .u8 0, .slice none 0 0] 43) none
  have hz2 := World.size_alloc (w.alloc (.cells (rowOf 3 codPkt) 86)) (.cells #[.int .u8 0, .int .u8 0, .int .u8 0, .int .u8 0, .int .u8 0, .int .u8 0, .int .u8 0, .int .u8 0, .int .u8 0, .int .u8 0, .int .u8 0, .int .u8 0, .int .u8 0, .int .u8 0, .int .u8 0, .int .u8 0, .int .u8 0, .int .u8 0, .int .u8 0, .int .u8 0, .slice none 0 0] 43)
  have hR := RowAt.new (w.alloc (.cells (rowOf 3 codPkt) 86)) 43 21 zeroPkt _ zeroPkt_row
  have gc := World.grownBy_alloc ((w.alloc (.cells (rowOf 3 codPkt) 86)).alloc (.cells #[.int .u8 0, .int .u8 0, .int .u8 0, .int .u8 0, .int .u8 0, .int .u8 0, .int .u8 0, .int .u8 0, .int .u8 0, .int .u8 0, .int .u8 0, .int .u8 0, .int .u8 0, .int .u8 0, .int .u8 0, .int .u8 0, .int .u8 0, .int .u8 0, .int .u8 0, .int .u8 0, .slice none 0 0] 43)) (.cells #[.int .u8 0, .int .u8 0, .int .u8 0, .int .u8 0, .int .u8 0, .int .u8 0, .int .u8 0, .int .u8 0, .int .u8 0, .int .u8 0, .int .u8 0, .int .u8 0, .int .u8 0, .int .u8 0, .int .u8 0, .int .u8 0, .int .u8 0, .int .u8 0, .int .u8 0, .int .u8 0, .slice none 0 0] 43) none
  have hz3 := World.size_alloc ((w.alloc (.cells (rowOf 3 codPkt) 86)).alloc (.cells #[.int .u8 0, .int .u8 0, .int .u8 0, .int .u8 0, .int .u8 0, .int .u8 0, .int .u8 0, .int .u8 0, .int .u8 0, .int .u8 0, .int .u8 0, .int .u8 0, .int .u8 0, .int .u8 0, .int .u8 0, .int .u8 0, .int .u8 0, .int .u8 0, .int .u8 0, .int .u8 0, .slice none 0 0] 43)) (.cells #[.int .u8 0, .int .u8 0, .int .u8 0, .int .u8 0, .int .u8 0, .int .u8 0, .int .u8 0, .int .u8 0, .int .u8 0, .int .u8 0, .int .u8 0, .int .u8 0, .int .u8 0, .int .u8 0, .int .u8 0, .int .u8 0, .int .u8 0, .int .u8 0, .int .u8 0, .int .u8 0, .slice none 0 0] 43)
  have hN := RowAt.new ((w.alloc (.cells (rowOf 3 codPkt) 86)).alloc (.cells #[.int .u8 0, .int .u8 0, .int .u8 0, .int .u8 0, .int .u8 0, .int .u8 0, .int .u8 0, .int .u8 0, .int .u8 0, .int .u8 0, .int .u8 0, .int .u8 0, .int .u8 0, .int .u8 0, .int .u8 0, .int .u8 0, .int .u8 0, .int .u8 0, .int .u8 0, .int .u8 0, .slice none 0 0] 43)) 43 21 zeroPkt _ zeroPkt_row
  rw [hz2, hz1] at hz3 hN
  rw [hz1] at hR
  have hC := (hC.grown gb (by simp)).grown gc (by simp)
  have hR := hR.grown gc (by simp)
  have hG := grown_trans (grown_trans ga gb) gc
  have hRd := hRd.grown hG (by simp)
  have HHT := Lib.hid HT
  have HHM := Lib.hid HM
  have HL := Lib.hid hL
  clear ga gb gc HT HM hz1 hz2 hL
  go_enter Try.func35, Try.ntmps35
  go_upto_region 2 with fail
  obtain ⟨B, hB⟩ : ∃ B, B = w.heap.size := ⟨_, rfl⟩
  rw [← hB] at hC hR hN hz3 ⊢
  generalize ((w.alloc (.cells (rowOf 3 codPkt) 86)).alloc (.cells #[.int .u8 0, .int .u8 0, .int .u8 0, .int .u8 0, .int .u8 0, .int .u8 0, .int .u8 0, .int .u8 0, .int .u8 0, .int .u8 0, .int .u8 0, .int .u8 0, .int .u8 0, .int .u8 0, .int .u8 0, .int .u8 0, .int .u8 0, .int .u8 0, .int .u8 0, .int .u8 0, .slice none 0 0] 43)).alloc (.cells #[.int .u8 0, .int .u8 0, .int .u8 0, .int .u8 0, .int .u8 0, .int .u8 0, .int .u8 0, .int .u8 0, .int .u8 0, .int .u8 0, .int .u8 0, .int .u8 0, .int .u8 0, .int .u8 0, .int .u8 0, .int .u8 0, .int .u8 0, .int .u8 0, .int .u8 0, .int .u8 0, .slice none 0 0] 43) = w1 at *
  have HB := Lib.hid (And.intro hB hz3)
  clear hB hz3
  have c2 : w1.cell? ⟨B, 2, none⟩ = some (.func (.func 103) #[] #[]) := hC.cell 2 (by decide)
  have e0 := ftPkt_some w1
  have HNI := Lib.hid (newInF_any D L c a F w1 hRd HL.out)
  clear hRd HL
  have HC := Lib.hid hC
  have HR := Lib.hid hR
  have HN := Lib.hid hN
  have HG1 := Lib.hid hG
  clear hC hR hN hG
  go_wp2_with fail
  go_at_call 106
  refine HNI.out.mono ?_
  rintro e w2 ⟨p, rfl, hI, hgp, g2, _⟩
  obtain ⟨g, rfl⟩ : ∃ g, p = some ⟨g, 0, none⟩ := by
    obtain ⟨g', a, c, e, _⟩ := hI.st
    exact ⟨g', e⟩
  have hgg := hgp g rfl
  clear hgp e0 c2 HNI
  have hC := HC.out.grown g2 (by simp)
  have hR := HR.out.grown g2 (by simp)
  have hN := HN.out.grown g2 (by simp)
  have hG := grown_trans HG1.out g2
  have HW2 := Lib.hid (show w.heap.size ≤ w2.heap.size ∧ B + 1 < w2.heap.size from ⟨hG.size, by have := g2.size; have := HB.out.2; omega⟩)
  have HGG := Lib.hid (show B + 2 < g from by have := HB.out.2; omega)
  have c2 : w2.cell? ⟨B, 2, none⟩ = some (.func (.func 103) #[] #[]) := hC.cell 2 (by decide)
  have HX := Lib.hid (HHT.out w2 g hG (by have := HG1.out.size; omega) hI)
  have HGW := Lib.hid hG
  clear hI g2 hgg HC HR HN HG1 HHT hG
  have HC := Lib.hid hC
  have HR := Lib.hid hR
  have HN := Lib.hid hN
  clear hC hR hN
  go_wp2_with fail
  go_at_call 103
  refine HX.out.mono ?_
  rintro e w3 ⟨v, rfl, hone, hs, hq⟩
  have HON := Lib.hid hone
  have HQ := Lib.hid hq
  have hC := HC.out.grown hs.gr (fun e => by have := HGG.out; have e : B = g := by simpa [rowP] using e
                                             omega)
  have hR := HR.out.grown hs.gr (fun e => by have := HGG.out; have e : B + 1 = g := by simpa [rowP] using e
                                             omega)
  have hN := HN.out.grown hs.gr (fun e => by have := HGG.out; have e : B + 2 = g := by simpa [rowP] using e
                                             omega)
  have hG : w.grownBy w3 none := grown_into HGW.out (show w2.grownBy w3 (some g) from hs.gr) (by have := HGG.out; have := HB.out.1; omega)
  have hX := RowAt.new w3 43 21 zeroPkt _ zeroPkt_row
  obtain ⟨k1, k2⟩ := RowAt.store (P := Try.prog) hX 0 43 21 v (by decide) (by kernel_rfl) (fun j _ => HON.out j)
  have gx : w3.grownBy ((w3.alloc (.cells #[.int .u8 0, .int .u8 0, .int .u8 0, .int .u8 0, .int .u8 0, .int .u8 0, .int .u8 0, .int .u8 0, .int .u8 0, .int .u8 0, .int .u8 0, .int .u8 0, .int .u8 0, .int .u8 0, .int .u8 0, .int .u8 0, .int .u8 0, .int .u8 0, .int .u8 0, .int .u8 0, .slice none 0 0] 43)).setCells w3.heap.size 0 (rowOf 21 v).toList) none := grown_setCells w3.heap.size (Or.inl (Nat.le_refl _)) _ 0 _ (World.grownBy_alloc w3 _ none)
  have hX := k2.congr (v' := v) fun i hi => by rw [if_pos ⟨Nat.zero_le _, by omega⟩, Nat.sub_zero]
  have hI := hs.st.grown0 gx
  have hC := hC.grown gx (by simp)
  have hR := hR.grown gx (by simp)
  have hN := hN.grown gx (by simp)
  have hG := grown_trans hG gx
  obtain ⟨X, hXX⟩ : ∃ X, X = w3.heap.size := ⟨_, rfl⟩
  have HLT := Lib.hid (show B + 2 < X by rw [hXX]; have := hs.st.ltS; have := HGG.out; omega)
  rw [← hXX] at k1 k2 gx hX hI hC hR hN hG
  have HS := Lib.hid k1
  have HXX := Lib.hid hXX
  clear hs k1 k2 hone hq hXX HC HR HN HX HGW c2
  have HC := Lib.hid hC
  have HR := Lib.hid hR
  have HN := Lib.hid hN
  have HX := Lib.hid hX
  have HI := Lib.hid hI
  have HG := Lib.hid hG
  have HGQ := Lib.hid gx
  clear hC hR hN hX hI hG gx
  go_upto_region 6 with (first | ((with_reducible refine wpList_here ?_); refine wpList_st (T := 43) (p := .pointer (some ⟨w3.heap.size, 0, none⟩)) (v := .agg (rowOf 21 v)) (.tmp 8) (.tmp 18) ?_ ?_ ?_ ?_ ?_ (by rw [← HXX.out]; exact HS.out) ?_; (· rfl); (· rfl); go_simp; (· kernel_rfl); (· kernel_rfl)))
  rw [← HXX.out]
  obtain ⟨w4, hw4⟩ : ∃ W, W = (w3.alloc (.cells #[.int .u8 0, .int .u8 0, .int .u8 0, .int .u8 0, .int .u8 0, .int .u8 0, .int .u8 0, .int .u8 0, .int .u8 0, .int .u8 0, .int .u8 0, .int .u8 0, .int .u8 0, .int .u8 0, .int .u8 0, .int .u8 0, .int .u8 0, .int .u8 0, .int .u8 0, .int .u8 0, .slice none 0 0] 43)).setCells X 0 (rowOf 21 v).toList := ⟨_, rfl⟩
  have hC := HC.out
  have hR := HR.out
  have hN := HN.out
  have hX := HX.out
  have hI := HI.out
  have hG := HG.out
  have hGQ := HGQ.out
  rw [← hw4] at hC hR hN hX hI hG hGQ ⊢
  clear HC HR HN HX HI HG HGQ hw4 HS
  have HE := Lib.hid (inEnd_any hI)
  have hcode := hI.code
  have HLX := Lib.hid (hX.load (P := Try.prog) 0 43 21 v (by decide) (fun j _ => by rw [Nat.zero_add]) (by kernel_rfl) (by kernel_rfl))
  have HLC := Lib.hid (hC.load (P := Try.prog) 0 86 3 codPkt (by decide) (fun j _ => by rw [Nat.zero_add]) (by kernel_rfl) (by kernel_rfl))
  have HLN := Lib.hid (hN.load (P := Try.prog) 0 43 21 zeroPkt (by decide) (fun j _ => by rw [Nat.zero_add]) (by kernel_rfl) (by kernel_rfl))
  have HG := Lib.hid hG
  have HGQ := Lib.hid hGQ
  clear hI hG hGQ
  obtain ⟨cd, hcd⟩ : ∃ x, x = s.code L := ⟨_, rfl⟩
  rw [← hcd] at hcode HE
  clear hcd
  obtain ⟨al, hal⟩ : ∃ x, x = s.all L := ⟨_, rfl⟩
  rw [← hal] at hcode HHM
  have HAL := Lib.hid hal
  clear hal
  have HR := Lib.hid hR
  have HC := Lib.hid hC
  have HN := Lib.hid hN
  have HX := Lib.hid hX
  clear hR hC hN hX
  go_wp2_with fail
  go_at_call 107
  refine HE.out.mono ?_
  rintro e w5 ⟨rfl, rfl⟩
  clear HE
  cases al with
  | false =>
    have hne : ¬ cd = 0 := hcode
    have HOK := Lib.hid (show (s.all L && m) = false by rw [← HAL.out]; rfl)
    clear hcode
    have hR := HR.out
    have hN := HN.out
    have hC := HC.out
    have hX := HX.out
    clear HR HN HC HX
    obtain ⟨k1, k2⟩ := RowAt.store (P := Try.prog) hR 0 43 21 zeroPkt (by decide) (by kernel_rfl) (fun j _ => zeroPkt_one j)
    obtain ⟨wz, hwz⟩ : ∃ W, W = w4.setCells (B + 1) 0 (rowOf 21 zeroPkt).toList := ⟨_, rfl⟩
    rw [← hwz] at k1 k2
    have gz : w4.grownBy wz (some (B + 1)) := by rw [hwz]; exact grown_setCells (B + 1) (Or.inr rfl) _ 0 _ (grown_refl _ _)
    have HK := Lib.hid (k2.congr (v' := zeroPkt) fun i hi => by rw [if_pos ⟨Nat.zero_le _, by omega⟩, Nat.sub_zero])
    have HS := Lib.hid k1
    have HGZ := Lib.hid (grown_into HG.out gz (by have := HB.out; omega))
    have HQZ := Lib.hid (grown_trans (grown_some (row := some (B + 1)) HGQ.out) gz)
    clear k1 k2 hwz gz hR hN hC hX
    go_wp2_with (first | ((with_reducible refine wpList_here ?_); refine wpList_ld (p := .pointer (some ⟨(B + 2), 0, none⟩)) 6 ?_ ?_ ?_ HLN.out ?_; (· rfl); go_simp; (· kernel_rfl)) | ((with_reducible refine wpList_here ?_); refine wpList_st (T := 43) (p := .pointer (some ⟨(B + 1), 0, none⟩)) (v := .agg (rowOf 21 zeroPkt)) (.tmp 4) (.tmp 28) ?_ ?_ ?_ ?_ ?_ HS.out ?_; (· rfl); (· rfl); go_simp; (· kernel_rfl); (· kernel_rfl)))
    exact bodyPost_ret (res_rowAt2 rfl rfl rfl HK.out (by kernel_rfl) (by kernel_rfl)) rfl ⟨⟨v, w2, w3, B + 1, by first | rfl | (rw [HOK.out]; rfl), HW2.out.1, HQ.out, HW2.out.2, HQZ.out⟩, HGZ.out⟩
  | true =>
    obtain rfl : cd = 0 := hcode
    have HMY := Lib.hid (mayPkt_any v m w4 (fun w6 h => HHM.out (by first | rfl | trivial) v w2 w3 w6 HQ.out (grown_trans HGQ.out h)))
    clear HHM
    go_wp2_with (first | ((with_reducible refine wpList_here ?_); refine wpList_ld (p := .pointer (some ⟨B, 0, none⟩)) 2 ?_ ?_ ?_ HLC.out ?_; (· rfl); go_simp; (· kernel_rfl)) | ((with_reducible refine wpList_here ?_); refine wpList_ld (p := .pointer (some ⟨X, 0, none⟩)) 8 ?_ ?_ ?_ HLX.out ?_; (· rfl); go_simp; (· kernel_rfl)))
    go_at_call 99
    refine HMY.out.mono ?_
    rintro e w6 ⟨rfl, g6⟩
    have hR := HR.out.grown g6 (by simp)
    have hN := HN.out.grown g6 (by simp)
    have hC := HC.out.grown g6 (by simp)
    have hX := HX.out.grown g6 (by simp)
    have HG2 := Lib.hid (grown_trans HG.out g6)
    have HGQ2 := Lib.hid (grown_trans HGQ.out g6)
    clear g6 HR HN HC HX HMY HLX HLN HLC HG HGQ
    have HG := HG2
    have HGQ := HGQ2
    clear HG2 HGQ2
    have HLX := Lib.hid (hX.load (P := Try.prog) 0 43 21 v (by decide) (fun j _ => by rw [Nat.zero_add]) (by kernel_rfl) (by kernel_rfl))
    have HLN := Lib.hid (hN.load (P := Try.prog) 0 43 21 zeroPkt (by decide) (fun j _ => by rw [Nat.zero_add]) (by kernel_rfl) (by kernel_rfl))
    cases m with
    | false =>
      have HOK := Lib.hid (show (s.all L && false) = false by rw [← HAL.out]; rfl)
      obtain ⟨k1, k2⟩ := RowAt.store (P := Try.prog) hR 0 43 21 zeroPkt (by decide) (by kernel_rfl) (fun j _ => zeroPkt_one j)
      obtain ⟨wz, hwz⟩ : ∃ W, W = w6.setCells (B + 1) 0 (rowOf 21 zeroPkt).toList := ⟨_, rfl⟩
      rw [← hwz] at k1 k2
      have gz : w6.grownBy wz (some (B + 1)) := by rw [hwz]; exact grown_setCells (B + 1) (Or.inr rfl) _ 0 _ (grown_refl _ _)
      have HK := Lib.hid (k2.congr (v' := zeroPkt) fun i hi => by rw [if_pos ⟨Nat.zero_le _, by omega⟩, Nat.sub_zero])
      have HS := Lib.hid k1
      have HGZ := Lib.hid (grown_into HG.out gz (by have := HB.out; omega))
      have HQZ := Lib.hid (grown_trans (grown_some (row := some (B + 1)) HGQ.out) gz)
      clear k1 k2 hwz gz hR hN hC hX
      go_wp2_with (first | ((with_reducible refine wpList_here ?_); refine wpList_ld (p := .pointer (some ⟨(B + 2), 0, none⟩)) 6 ?_ ?_ ?_ HLN.out ?_; (· rfl); go_simp; (· kernel_rfl)) | ((with_reducible refine wpList_here ?_); refine wpList_st (T := 43) (p := .pointer (some ⟨(B + 1), 0, none⟩)) (v := .agg (rowOf 21 zeroPkt)) (.tmp 4) (.tmp 28) ?_ ?_ ?_ ?_ ?_ HS.out ?_; (· rfl); (· rfl); go_simp; (· kernel_rfl); (· kernel_rfl)))
      exact bodyPost_ret (res_rowAt2 rfl rfl rfl HK.out (by kernel_rfl) (by kernel_rfl)) rfl ⟨⟨v, w2, w3, B + 1, by first | rfl | (rw [HOK.out]; rfl), HW2.out.1, HQ.out, HW2.out.2, HQZ.out⟩, HGZ.out⟩
    | true =>
      have HOK := Lib.hid (show (s.all L && true) = true by rw [← HAL.out]; rfl)
      obtain ⟨k1, k2⟩ := RowAt.store (P := Try.prog) hR 0 43 21 v (by decide) (by kernel_rfl) (fun j _ => HON.out j)
      obtain ⟨wz, hwz⟩ : ∃ W, W = w6.setCells (B + 1) 0 (rowOf 21 v).toList := ⟨_, rfl⟩
      rw [← hwz] at k1 k2
      have gz : w6.grownBy wz (some (B + 1)) := by rw [hwz]; exact grown_setCells (B + 1) (Or.inr rfl) _ 0 _ (grown_refl _ _)
      have HK := Lib.hid (k2.congr (v' := v) fun i hi => by rw [if_pos ⟨Nat.zero_le _, by omega⟩, Nat.sub_zero])
      have HS := Lib.hid k1
      have HGZ := Lib.hid (grown_into HG.out gz (by have := HB.out; omega))
      have HQZ := Lib.hid (grown_trans (grown_some (row := some (B + 1)) HGQ.out) gz)
      clear k1 k2 hwz gz hR hN hC hX
      go_wp2_with (first | ((with_reducible refine wpList_here ?_); refine wpList_ld (p := .pointer (some ⟨X, 0, none⟩)) 8 ?_ ?_ ?_ HLX.out ?_; (· rfl); go_simp; (· kernel_rfl)) | ((with_reducible refine wpList_here ?_); refine wpList_st (T := 43) (p := .pointer (some ⟨(B + 1), 0, none⟩)) (v := .agg (rowOf 21 v)) (.tmp 4) (.tmp 29) ?_ ?_ ?_ ?_ ?_ HS.out ?_; (· rfl); (· rfl); go_simp; (· kernel_rfl); (· kernel_rfl)))
      exact bodyPost_ret (res_rowAt2 rfl rfl rfl HK.out (by kernel_rfl) (by kernel_rfl)) rfl ⟨⟨v, w2, w3, B + 1, by first | rfl | (rw [HOK.out]; rfl), HW2.out.1, HQ.out, HW2.out.2, HQZ.out⟩, HGZ.out⟩
end Go.Proofs.Ytmbefbmpjkbnmaa
namespace Go.Proofs.Ytmbefbmpjkbnmaa
open Go.RowKit

set_option maxRecDepth 100000
set_option maxHeartbeats 4000000

theorem hdrMay_any (v : Nat → Value) (w : World) : Calls Try.prog 72 #[.agg (rowOf 34 v)] w fun e w' => e = .returned (.bool true) ∧ w.grownBy w' none := by
  have HG := Lib.hid (World.grownBy_alloc w (.cells (rowOf 34 v) 36) none)
  go_enter Try.func72, Try.ntmps72
  go_wp2_with fail
  go_ret
  exact ⟨rfl, HG.out⟩
theorem hdrPut_any (x : HV) (hx : x.Ok) (w : World) : Calls Try.prog 53 #[.agg (rowOf 3 codHdr), .agg (rowOf 34 x.v)] w (PutSays w true 40 x.bytes) :=
  putHdr_any x.v true 40 x.bytes w (fun w1 _ => hdrMay_any x.v w1) (fun _ w0 w1 g _ h => by
    have := putHeader_any x hx h (by decide) (by decide)
    rwa [cat_none, Nat.zero_add] at this)
theorem hdrTake_any (D L c : Nat) (a : Option Addr) (F : Nat → Nat) (w : World) (hR : Rd w D a L F) (hL : L ≤ 2 ^ 46) (hF : ∀ i, F i < 256) :
    Calls Try.prog 30 #[.agg (rowOf 3 codHdr), .slice a L c] w fun e w' => e = .returned (.tuple #[.agg (rowOf 34 (hdrOf L F).v), .int .i64 (if hdrOk L = true then 0 else 9)]) ∧ w.grownBy w' none := by
  refine (takeHdr_any D L c a F ((ISt.good 0).hdrS L) true (fun v _ _ => v = ((ISt.good 0).hdr L F).v) w hR hL (fun w1 g _ _ h => (takeHeader_any h hF hL).mono fun e w' hs => ⟨_, hs.ex, fun j => HV.one _ j, hs.says, rfl⟩) (fun _ v w1 w2 w3 _ _ => hdrMay_any v w3)).mono fun e w' hs => ?_
  obtain ⟨⟨v, w1, w2, r, rfl, _, rfl, _⟩, hg⟩ := hs
  refine ⟨?_, hg⟩
  rw [Bool.and_true]
  unfold hdrOf hdrOk
  split <;> rfl
end Go.Proofs.Ytmbefbmpjkbnmaa
namespace Go.Proofs.Ytmbefbmpjkbnmaa
open Go.RowKit

/-- True, and nothing that was is turned. -/
structure SaysYes (w : World) (e : Ending) (w' : World) : Prop where
  ex : e = .returned (.bool true) ∧ w.grownBy w' none
end Go.Proofs.Ytmbefbmpjkbnmaa
namespace Go.Proofs.Ytmbefbmpjkbnmaa
open Go.RowKit

set_option maxRecDepth 100000

def eqN (n : Nat) (f g : Nat → Nat) : Bool := (List.range n).all fun i => f i == g i
theorem eqN_iff (n : Nat) (f g : Nat → Nat) : eqN n f g = true ↔ ∀ i, i < n → f i = g i := by
  unfold eqN
  rw [List.all_eq_true]
  simp
theorem eqN_refl (n : Nat) (f : Nat → Nat) : eqN n f f = true := (eqN_iff n f f).2 (fun _ _ => rfl)

theorem run_itemsN (d n : Nat) (f g : Nat → Nat) (w : World) : ∀ is : List Nat, (∀ i ∈ is, i < n) →
    (Op.eqItems (d + 1) 5 1 (cellsOf .u8 n f) (cellsOf .u8 n g) is).run Try.prog w = .ok (is.all fun i => f i == g i) w
  | [], _ => by simp [Op.eqItems]
  | i :: is, h => by
    have hi := h i (by simp)
    have hp : Try.prog.plainKey 5 = true := by kernel_rfl
    have p1 := run_part_plain w (P := Try.prog) hp (xs := cellsOf .u8 n f) (off := i * 1) (v := .int .u8 (f i)) (by rw [Nat.mul_one, cellsOf_get _ _ _ _ hi])
    have p2 := run_part_plain w (P := Try.prog) hp (xs := cellsOf .u8 n g) (off := i * 1) (v := .int .u8 (g i)) (by rw [Nat.mul_one, cellsOf_get _ _ _ _ hi])
    have p3 := run_equalIn_int (P := Try.prog) w d 5 .u8 .u8 (f i : Int) (g i : Int) (by kernel_rfl)
    have ih := run_itemsN d n f g w is (fun j hj => h j (by simp [hj]))
    have e : ((f i : Int) == (g i : Int)) = (f i == g i) := by rw [Bool.eq_iff_iff]; simp only [beq_iff_eq]; omega
    simp only [Op.eqItems, Sem.run_bind, p1, p2, p3, Result.andThen_ok, List.all_cons, e]
    cases hb : (f i == g i)
    · simp
    · simpa using ih

theorem run_eq32 (f g : Nat → Nat) (w : World) : (Op.equalIn 10000 27 (.agg (cellsOf .u8 32 f)) (.agg (cellsOf .u8 32 g))).run Try.prog w = .ok (eqN 32 f g) w := by
  obtain ⟨i0, hi, hz, hsz, hby⟩ := info_parts info_u8
  rw [run_equalIn_array (P := Try.prog) w 9999 (cellsOf .u8 32 f) (cellsOf .u8 32 g) (t := 27) (e := 5) (n := 32) (by kernel_rfl) hi]
  rw [show Try.prog.cellsOf 5 = 1 by kernel_rfl]
  exact run_itemsN 9998 32 f g w (List.range 32) (fun i hi => List.mem_range.1 hi)
theorem run_eql32 {o : Oper} {a : Act} {W : World} (t1 t2 : Tmp) (f g : Nat → Nat) (ho : o.op = .binOp .eql 27 (.tmp t1) (.tmp t2) 27)
    (h1 : a.eval (.tmp t1) = .agg (cellsOf .u8 32 f)) (h2 : a.eval (.tmp t2) = .agg (cellsOf .u8 32 g)) : (execOp a.eval o).run Try.prog W = .ok (.value (.bool (eqN 32 f g))) W := by
  have he := run_eq32 f g W
  unfold execOp
  simp only [ho, h1, h2]
  go_simp
end Go.Proofs.Ytmbefbmpjkbnmaa
namespace Go.Proofs.Ytmbefbmpjkbnmaa
open Go.RowKit

set_option maxRecDepth 100000
set_option maxHeartbeats 4000000

theorem eqN_self (n : Nat) (f : Nat → Nat) : eqN n f f = true := by
  unfold eqN
  simp
theorem eqi_arr (d n : Nat) (T : TypeId) (hu : Try.prog.underlying T = some (.array n 5)) (f g : Nat → Nat) (w : World) : (Op.equalIn (d + 2) T (.agg (cellsOf .u8 n f)) (.agg (cellsOf .u8 n g))).run Try.prog w = .ok (eqN n f g) w := by
  obtain ⟨i0, hi, hz, hsz, hby⟩ := info_parts info_u8
  rw [run_equalIn_array (P := Try.prog) w (d + 1) (cellsOf .u8 n f) (cellsOf .u8 n g) (t := T) (e := 5) (n := n) hu hi]
  rw [show Try.prog.cellsOf 5 = 1 by kernel_rfl]
  exact run_itemsN d n f g w (List.range n) (fun i hi => List.mem_range.1 hi)
theorem int_beq (a b : Nat) : ((a : Int) == (b : Int)) = (a == b) := by
  by_cases h : a = b
  · subst h; rw [beq_self_eq_true, beq_self_eq_true]
  · rw [beq_eq_false_iff_ne.2 h, (beq_eq_false_iff_ne (a := (a : Int)) (b := (b : Int))).2 (by omega)]
theorem eqi_dev (d : Nat) (f g : Nat → Nat) (w : World) : (Op.equalIn (d + 2) 26 (.agg (cellsOf .u8 2 f)) (.agg (cellsOf .u8 2 g))).run Try.prog w = .ok (eqN 2 f g) w := by
  have h : (Op.equalIn (d + 2) 26 (.agg #[.int .u8 (f 0), .int .u8 (f 1)]) (.agg #[.int .u8 (g 0), .int .u8 (g 1)])).run Try.prog w = .ok (((f 0 : Int) == (g 0 : Int)) && ((f 1 : Int) == (g 1 : Int))) w := by
    go_simp
    by_cases h1 : (f 0 : Int) = g 0 <;> by_cases h2 : (f 1 : Int) = g 1 <;> simp [h1, h2]
  refine h.trans ?_
  congr 1
  unfold eqN
  simp [List.range, List.range.loop]
  rw [int_beq, int_beq]
theorem eqi_hdr (d : Nat) (x y : HV) (w : World) : (Op.equalIn (d + 3) 36 (.agg (rowOf 34 x.v)) (.agg (rowOf 34 y.v))).run Try.prog w = .ok (eqN 32 x.dh y.dh && (((x.prev : Int) == (y.prev : Int)) && ((x.n : Int) == (y.n : Int)))) w := by
  have h0 := eqi_arr d 32 28 (by kernel_rfl) x.dh y.dh w
  have e0 : ∀ x : HV, (rowOf 34 x.v).extract 0 32 = cellsOf .u8 32 x.dh := fun x => by kernel_rfl
  have e1 : ∀ x : HV, (rowOf 34 x.v)[32]? = some (.int .u32 x.prev) := fun x => by kernel_rfl
  have e2 : ∀ x : HV, (rowOf 34 x.v)[33]? = some (.int .u32 x.n) := fun x => by kernel_rfl
  rw [run_equalIn_struct w (d + 2) 36 _ _ (by kernel_rfl) (by kernel_rfl)]
  have hf := Try.underlying36
  simp only [Program.fieldsOf, hf, Op.eqFields]
  go_simp
  generalize eqN 32 x.dh y.dh = b0
  cases b0 <;> by_cases q1 : (x.prev : Int) = y.prev <;> by_cases q2 : (x.n : Int) = y.n <;> simp [q1, q2]
theorem eqi_set (d : Nat) (x y : SetV) (w : World) : (Op.equalIn (d + 3) 38 (.agg (rowOf 66 x.v)) (.agg (rowOf 66 y.v))).run Try.prog w = .ok (eqN 32 x.ident y.ident && (eqN 32 x.eph y.eph && ((x.once == y.once) && ((x.oid : Int) == (y.oid : Int))))) w := by
  have h0 := eqi_arr d 32 28 (by kernel_rfl) x.ident y.ident w
  have e0 : ∀ x : SetV, (rowOf 66 x.v).extract 0 32 = cellsOf .u8 32 x.ident := fun x => by kernel_rfl
  have h1 := eqi_arr d 32 28 (by kernel_rfl) x.eph y.eph w
  have e1 : ∀ x : SetV, (rowOf 66 x.v).extract 32 64 = cellsOf .u8 32 x.eph := fun x => by kernel_rfl
  have e2 : ∀ x : SetV, (rowOf 66 x.v)[64]? = some (.bool x.once) := fun x => by kernel_rfl
  have e3 : ∀ x : SetV, (rowOf 66 x.v)[65]? = some (.int .u32 x.oid) := fun x => by kernel_rfl
  rw [run_equalIn_struct w (d + 2) 38 _ _ (by kernel_rfl) (by kernel_rfl)]
  have hf := Try.underlying38
  simp only [Program.fieldsOf, hf, Op.eqFields]
  go_simp
  generalize eqN 32 x.ident y.ident = b0
  generalize eqN 32 x.eph y.eph = b1
  generalize x.once = c2
  generalize y.once = d2
  cases b0 <;> cases b1 <;> cases c2 <;> cases d2 <;> by_cases q3 : (x.oid : Int) = y.oid <;> simp [q3]
theorem eqi_dist (d : Nat) (x y : DV) (w : World) : (Op.equalIn (d + 3) 30 (.agg (rowOf 52 x.v)) (.agg (rowOf 52 y.v))).run Try.prog w = .ok (eqN 16 x.id y.id && (((x.ep : Int) == (y.ep : Int)) && ((((x.sd 0 : Nat) : Int) == ((y.sd 0 : Nat) : Int)) && ((((x.sd 1 : Nat) : Int) == ((y.sd 1 : Nat) : Int)) && (((x.kid : Int) == (y.kid : Int)) && eqN 32 x.key y.key))))) w := by
  have h0 := eqi_arr d 16 23 (by kernel_rfl) x.id y.id w
  have e0 : ∀ x : DV, (rowOf 52 x.v).extract 0 16 = cellsOf .u8 16 x.id := fun x => by kernel_rfl
  have e1 : ∀ x : DV, (rowOf 52 x.v)[16]? = some (.int .u64 x.ep) := fun x => by kernel_rfl
  have s0 : ∀ f : Nat → Nat, (cellsOf .u8 2 f)[0]? = some (.int .u8 (f 0)) := fun f => rfl
  have s1 : ∀ f : Nat → Nat, (cellsOf .u8 2 f)[1]? = some (.int .u8 (f 1)) := fun f => rfl
  have e2 : ∀ x : DV, (rowOf 52 x.v).extract 17 19 = cellsOf .u8 2 x.sd := fun x => by kernel_rfl
  have e3 : ∀ x : DV, (rowOf 52 x.v)[19]? = some (.int .u64 x.kid) := fun x => by kernel_rfl
  have h4 := eqi_arr d 32 28 (by kernel_rfl) x.key y.key w
  have e4 : ∀ x : DV, (rowOf 52 x.v).extract 20 52 = cellsOf .u8 32 x.key := fun x => by kernel_rfl
  rw [run_equalIn_struct w (d + 2) 30 _ _ (by kernel_rfl) (by kernel_rfl)]
  have hf := Try.underlying30
  simp only [Program.fieldsOf, hf, Op.eqFields]
  go_simp
  generalize eqN 16 x.id y.id = b0
  generalize eqN 32 x.key y.key = b4
  cases b0 <;> by_cases q1 : (x.ep : Int) = y.ep <;> by_cases q5 : ((x.sd 0 : Nat) : Int) = ((y.sd 0 : Nat) : Int) <;> by_cases q6 : ((x.sd 1 : Nat) : Int) = ((y.sd 1 : Nat) : Int) <;> by_cases q3 : (x.kid : Int) = y.kid <;> cases b4 <;> simp [q1, q3, q5, q6]
end Go.Proofs.Ytmbefbmpjkbnmaa
namespace Go.Proofs.Ytmbefbmpjkbnmaa
open Go.RowKit

set_option maxRecDepth 100000
set_option maxHeartbeats 4000000

theorem mayDevice_any (f : Nat → Nat) (w : World) : Calls Try.prog 62 #[.agg (cellsOf .u8 2 f)] w fun e w' => e = .returned (.bool (devMay f)) ∧ w.grownBy w' none := by
  have ga := World.grownBy_alloc w (.cells (cellsOf .u8 2 f) 26) none
  have hn := holds_alloc w 26 .u8 2 f _ rfl
  have c0 := hn.cell 0 (by decide)
  have c1 := hn.cell 1 (by decide)
  have HG := Lib.hid ga
  clear ga hn
  unfold devMay
  by_cases h0 : f 0 < 8
  · have j0 : (f 0 : Int) < 8 := by omega
    rw [decide_eq_true h0, Bool.true_and]
    by_cases h1 : f 1 < 4
    · have j1 : (f 1 : Int) < 4 := by omega
      rw [decide_eq_true h1]
      go_enter Try.func62, Try.ntmps62
      go_wp2_with fail
      go_ret
      exact ⟨rfl, HG.out⟩
    · have j1 : ¬ (f 1 : Int) < 4 := by omega
      rw [decide_eq_false h1]
      go_enter Try.func62, Try.ntmps62
      go_wp2_with fail
      go_ret
      exact ⟨rfl, HG.out⟩
  · have j0 : ¬ (f 0 : Int) < 8 := by omega
    rw [decide_eq_false h0, Bool.false_and]
    go_enter Try.func62, Try.ntmps62
    go_wp2_with fail
    go_ret
    exact ⟨rfl, HG.out⟩
theorem wpList_ne {P : Program} {ops : Array Oper} {Q : Exit → Act → World → Prop} {rest : List Oper} {o : Oper} {a : Act} {w : World} {T : TypeId} {v1 v2 v : Value} (t1 t2 : Tmp) (ho : o.op = .binOp .neq T (.tmp t1) (.tmp t2) T) (hw : Region.wanted o (yielded ops a.tmps) = true) (h1 : a.eval (.tmp t1) = v1) (h2 : a.eval (.tmp t2) = v2) (hg : (eqGuard .neq T (.tmp t1) (.tmp t2) v1 v2).run P w = .ok () w) (h : (binOp .neq T v1 v2).run P w = .ok v w) (hk : wpList P ops Q rest (a.put o.dst v) w) : wpList P ops Q (o :: rest) a w := by
  refine wpList_want hw ?_ hk
  unfold execOp
  simp only [ho, h1, h2]
  simp only [Sem.run_bind, Sem.run_pure, Result.andThen_ok, hg, h]
theorem eq_set (x y : SetV) (w : World) : (binOp .eql 38 (.agg (rowOf 66 x.v)) (.agg (rowOf 66 y.v))).run Try.prog w = .ok (.bool (eqN 32 x.ident y.ident && (eqN 32 x.eph y.eph && ((x.once == y.once) && ((x.oid : Int) == (y.oid : Int)))))) w := by
  have he := eqi_set 9997 x y w
  go_simp
theorem neq_dev (f g : Nat → Nat) (w : World) : (binOp .neq 26 (.agg (rowOf 2 (fun j => .int .u8 (f j)))) (.agg (rowOf 2 (fun j => .int .u8 (g j))))).run Try.prog w = .ok (.bool (!(eqN 2 f g))) w := by
  have he := eqi_dev 9998 f g w
  show (binOp .neq 26 (.agg (cellsOf .u8 2 f)) (.agg (cellsOf .u8 2 g))).run Try.prog w = _
  generalize cellsOf .u8 2 f = a at *
  generalize cellsOf .u8 2 g = b at *
  go_simp
def goMay (f g : Nat → Nat) : Bool := devMay f && devMay g && !(eqN 2 f g)
theorem mayGo_any (f g : Nat → Nat) (w : World) : Calls Try.prog 89 #[devR f, devR g] w fun e w' => e = .returned (.bool (goMay f g)) ∧ w.grownBy w' none := by
  have ga := World.grownBy_alloc w (.cells (rowOf 2 (fun j => .int .u8 (f j))) 26) none
  have hz := World.size_alloc w (.cells (rowOf 2 (fun j => .int .u8 (f j))) 26)
  have hA := RowAt.new w 26 2 (fun j => .int .u8 (f j)) _ rfl
  have gb := World.grownBy_alloc (w.alloc (.cells (rowOf 2 (fun j => .int .u8 (f j))) 26)) (.cells (rowOf 2 (fun j => .int .u8 (g j))) 26) none
  have hB := RowAt.new (w.alloc (.cells (rowOf 2 (fun j => .int .u8 (f j))) 26)) 26 2 (fun j => .int .u8 (g j)) _ rfl
  rw [hz] at hB
  have hA := hA.grown gb (by simp)
  have hG := grown_trans ga gb
  clear ga gb hz
  go_enter Try.func89, Try.ntmps89
  go_upto_region 1 with fail
  obtain ⟨B, hBB⟩ : ∃ B, B = w.heap.size := ⟨_, rfl⟩
  rw [← hBB] at hA hB ⊢
  generalize (w.alloc (.cells (rowOf 2 (fun j => .int .u8 (f j))) 26)).alloc (.cells (rowOf 2 (fun j => .int .u8 (g j))) 26) = w1 at *
  clear hBB
  have HLA := Lib.hid (fun W (h : w1.grownBy W none) => (hA.grown h (by simp)).load (P := Try.prog) 0 26 2 _ (by decide) (fun j _ => by rw [Nat.zero_add]) (by kernel_rfl) (by kernel_rfl))
  have HLB := Lib.hid (fun W (h : w1.grownBy W none) => (hB.grown h (by simp)).load (P := Try.prog) 0 26 2 _ (by decide) (fun j _ => by rw [Nat.zero_add]) (by kernel_rfl) (by kernel_rfl))
  have HG := Lib.hid hG
  have HM := Lib.hid (mayDevice_any f w1)
  have HGM := Lib.hid (show goMay f g = (devMay f && devMay g && !(eqN 2 f g)) from rfl)
  clear hA hB hG
  have HL1 := Lib.hid (HLA.out w1 (grown_refl _ _))
  go_wp2_with (first | ((with_reducible refine wpList_here ?_); refine wpList_ld (p := .pointer (some ⟨B, 0, none⟩)) 2 ?_ ?_ ?_ HL1.out ?_; (· rfl); go_simp; (· kernel_rfl)))
  go_at_call 62
  refine HM.out.mono ?_
  rintro e w2 ⟨rfl, g2⟩
  obtain ⟨b1, hb1⟩ : ∃ b, b = devMay f := ⟨_, rfl⟩
  rw [← hb1]
  have HB1 := Lib.hid hb1
  have HG2 := Lib.hid g2
  clear hb1 HM HL1 g2
  cases b1 with
  | false =>
    have HE := Lib.hid (grown_trans HG.out HG2.out)
    go_wp2_with fail
    go_ret
    exact ⟨by rw [HGM.out, ← HB1.out]; rfl, HE.out⟩
  | true =>
    have HL2 := Lib.hid (HLB.out w2 HG2.out)
    have HM2 := Lib.hid (mayDevice_any g w2)
    go_wp2_with (first | ((with_reducible refine wpList_here ?_); refine wpList_ld (p := .pointer (some ⟨(B + 1), 0, none⟩)) 3 ?_ ?_ ?_ HL2.out ?_; (· rfl); go_simp; (· kernel_rfl)))
    go_at_call 62
    refine HM2.out.mono ?_
    rintro e w3 ⟨rfl, g3⟩
    obtain ⟨b2, hb2⟩ : ∃ b, b = devMay g := ⟨_, rfl⟩
    rw [← hb2]
    have HB2 := Lib.hid hb2
    have HG3 := Lib.hid (grown_trans HG2.out g3)
    clear hb2 HM2 HL2 g3
    cases b2 with
    | false =>
      have HE := Lib.hid (grown_trans HG.out HG3.out)
      go_wp2_with fail
      go_ret
      exact ⟨by rw [HGM.out, ← HB1.out, ← HB2.out]; rfl, HE.out⟩
    | true =>
      have HE := Lib.hid (grown_trans HG.out HG3.out)
      have HL3 := Lib.hid (HLA.out w3 HG3.out)
      have HL4 := Lib.hid (HLB.out w3 HG3.out)
      have HNE := Lib.hid (neq_dev f g w3)
      obtain ⟨q, hq⟩ : ∃ q, q = eqN 2 f g := ⟨_, rfl⟩
      rw [← hq] at HNE
      have HQ := Lib.hid hq
      clear hq HLA HLB
      go_wp2_with (first | ((with_reducible refine wpList_here ?_); refine wpList_ld (p := .pointer (some ⟨B, 0, none⟩)) 2 ?_ ?_ ?_ HL3.out ?_; (· rfl); go_simp; (· kernel_rfl)) | ((with_reducible refine wpList_here ?_); refine wpList_ld (p := .pointer (some ⟨(B + 1), 0, none⟩)) 3 ?_ ?_ ?_ HL4.out ?_; (· rfl); go_simp; (· kernel_rfl)) | ((with_reducible refine wpList_here ?_); refine wpList_ne 12 13 ?_ ?_ ?_ ?_ ?_ HNE.out ?_; (· rfl); go_simp; (· kernel_rfl); (· kernel_rfl); (· kernel_rfl)))
      go_ret
      exact ⟨by rw [HGM.out, ← HB1.out, ← HB2.out, ← HQ.out]; rfl, HE.out⟩
/-- May an envelope have this setup, or none? -/
def setMay (has : Bool) (x : SetV) : Bool := if has = true then (x.once || decide (x.oid = 0)) else (eqN 32 x.ident (fun _ => 0) && (eqN 32 x.eph (fun _ => 0) && ((x.once == false) && decide (x.oid = 0))))
theorem maySetup_any (has : Bool) (x : SetV) (w : World) : Calls Try.prog 90 #[.bool has, .agg (rowOf 66 x.v)] w fun e w' => e = .returned (.bool (setMay has x)) ∧ w.grownBy w' none := by
  have ga := World.grownBy_alloc w (.cells (rowOf 66 x.v) 38) none
  have hA := RowAt.new w 38 66 x.v _ rfl
  cases has with
  | false =>
    have HL := Lib.hid (hA.load (P := Try.prog) 0 38 66 _ (by decide) (fun j _ => by rw [Nat.zero_add]) (by kernel_rfl) (by kernel_rfl))
    have HE := Lib.hid (eq_set x SetV.zero (w.alloc (.cells (rowOf 66 x.v) 38)))
    obtain ⟨q, hq⟩ : ∃ q, q = (eqN 32 x.ident SetV.zero.ident && (eqN 32 x.eph SetV.zero.eph && ((x.once == SetV.zero.once) && ((x.oid : Int) == (SetV.zero.oid : Int))))) := ⟨_, rfl⟩
    rw [← hq] at HE
    have HQ : Hid (setMay false x = q) := Lib.hid (by
      rw [hq]
      unfold setMay
      rw [if_neg (by decide), int_beq]
      rfl)
    have HG := Lib.hid ga
    clear ga hA hq
    go_enter Try.func90, Try.ntmps90
    go_wp2_with (first | ((with_reducible refine wpList_here ?_); refine wpList_ld (p := .pointer (some ⟨w.heap.size, 0, none⟩)) 3 ?_ ?_ ?_ HL.out ?_; (· rfl); go_simp; (· kernel_rfl)) | ((with_reducible refine wpList_here ?_); refine wpList_eq (v2 := .agg (rowOf 66 SetV.zero.v)) 7 8 ?_ ?_ ?_ ?_ ?_ HE.out ?_; (· rfl); go_simp; (· kernel_rfl); (· kernel_rfl); (· kernel_rfl)))
    go_ret
    exact ⟨by rw [HQ.out]; rfl, HG.out⟩
  | true =>
    have c64 : (w.alloc (.cells (rowOf 66 x.v) 38)).cell? ⟨w.heap.size, 64, none⟩ = some (.bool x.once) := hA.cell 64 (by decide)
    have c65 : (w.alloc (.cells (rowOf 66 x.v) 38)).cell? ⟨w.heap.size, 65, none⟩ = some (.int .u32 x.oid) := hA.cell 65 (by decide)
    have HG := Lib.hid ga
    obtain ⟨oc, hoc⟩ : ∃ q, q = x.once := ⟨_, rfl⟩
    obtain ⟨od, hod⟩ : ∃ q, q = x.oid := ⟨_, rfl⟩
    rw [← hoc] at c64
    rw [← hod] at c65
    have HQ : Hid (setMay true x = (oc || decide (od = 0))) := Lib.hid (by rw [hoc, hod]; rfl)
    clear ga hA hoc hod
    cases oc with
    | true =>
      go_enter Try.func90, Try.ntmps90
      go_wp2_with fail
      go_ret
      exact ⟨by rw [HQ.out]; rfl, HG.out⟩
    | false =>
      by_cases h0 : od = 0
      · subst h0
        go_enter Try.func90, Try.ntmps90
        go_wp2_with fail
        go_ret
        exact ⟨by rw [HQ.out]; rfl, HG.out⟩
      · have j0 : ¬ (od : Int) = 0 := by omega
        have HD := Lib.hid (decide_eq_false h0)
        clear h0
        have HJ := Lib.hid j0
        go_enter Try.func90, Try.ntmps90
        go_wp2_with fail
        go_ret
        exact ⟨by rw [HQ.out, HD.out]; first | rfl | (simp; have := HJ.out; omega), HG.out⟩
theorem distMay_any (x : DV) (w : World) : Calls Try.prog 61 #[.agg (rowOf 52 x.v)] w fun e w' => e = .returned (.bool (devMay x.sd)) ∧ w.grownBy w' none := by
  have ga := World.grownBy_alloc w (.cells (rowOf 52 x.v) 30) none
  have hA := RowAt.new w 30 52 x.v _ rfl
  have HL := Lib.hid (hA.load (P := Try.prog) 17 26 2 (fun j => .int .u8 (x.sd j)) (by decide) x.v_sd (by kernel_rfl) (by kernel_rfl))
  have HM := Lib.hid (mayDevice_any x.sd (w.alloc (.cells (rowOf 52 x.v) 30)))
  have HG := Lib.hid ga
  clear ga hA
  go_enter Try.func61, Try.ntmps61
  go_wp2_with (first | ((with_reducible refine wpList_here ?_); refine wpList_ld (p := .pointer (some ⟨w.heap.size, 17, none⟩)) 3 ?_ ?_ ?_ HL.out ?_; (· rfl); go_simp; (· kernel_rfl)))
  go_at_call 62
  refine HM.out.mono ?_
  rintro e w2 ⟨rfl, g2⟩
  have HG2 := Lib.hid (grown_trans HG.out g2)
  clear g2 HM HL
  go_wp2_with fail
  go_ret
  exact ⟨rfl, HG2.out⟩
def pktMay (x : PV) : Bool := goMay x.fr x.tw && decide (x.nb ≤ 70000)
theorem pktMay_any (x : PV) (w : World) : Calls Try.prog 100 #[.agg (rowOf 21 x.v)] w fun e w' => e = .returned (.bool (pktMay x)) ∧ w.grownBy w' none := by
  have ga := World.grownBy_alloc w (.cells (rowOf 21 x.v) 43) none
  have hA := RowAt.new w 43 21 x.v _ rfl
  have HL1 := Lib.hid (hA.load (P := Try.prog) 0 26 2 (fun j => .int .u8 (x.fr j)) (by decide) x.v_fr (by kernel_rfl) (by kernel_rfl))
  have HL2 := Lib.hid (hA.load (P := Try.prog) 2 26 2 (fun j => .int .u8 (x.tw j)) (by decide) x.v_to (by kernel_rfl) (by kernel_rfl))
  have HA := Lib.hid hA
  have HM := Lib.hid (mayGo_any x.fr x.tw (w.alloc (.cells (rowOf 21 x.v) 43)))
  have HG := Lib.hid ga
  obtain ⟨m, hm⟩ : ∃ m, m = goMay x.fr x.tw := ⟨_, rfl⟩
  rw [← hm] at HM
  have HP : Hid (pktMay x = (m && decide (x.nb ≤ 70000))) := Lib.hid (by rw [hm]; rfl)
  clear ga hA hm
  go_enter Try.func100, Try.ntmps100
  go_wp2_with (first | ((with_reducible refine wpList_here ?_); refine wpList_ld (p := .pointer (some ⟨w.heap.size, 0, none⟩)) 3 ?_ ?_ ?_ HL1.out ?_; (· rfl); go_simp; (· kernel_rfl)) | ((with_reducible refine wpList_here ?_); refine wpList_ld (p := .pointer (some ⟨w.heap.size, 2, none⟩)) 5 ?_ ?_ ?_ HL2.out ?_; (· rfl); go_simp; (· kernel_rfl)))
  go_at_call 89
  refine HM.out.mono ?_
  rintro e w2 ⟨rfl, g2⟩
  have HG2 := Lib.hid (grown_trans HG.out g2)
  have c20 : w2.cell? ⟨w.heap.size, 20, none⟩ = some (.slice x.ad x.nb x.cb) := (HA.out.grown g2 (by simp)).cell 20 (by decide)
  clear g2 HM HL1 HL2 HA HG
  cases m with
  | false =>
    clear c20
    go_wp2_with fail
    go_ret
    exact ⟨by rw [HP.out]; rfl, HG2.out⟩
  | true =>
    by_cases hn : x.nb ≤ 70000
    · have j0 : (x.nb : Int) ≤ 70000 := by omega
      have HN := Lib.hid (decide_eq_true hn)
      clear hn
      go_wp2_with fail
      go_ret
      exact ⟨by rw [HP.out, HN.out]; first | rfl | (simp; omega), HG2.out⟩
    · have j0 : ¬ (x.nb : Int) ≤ 70000 := by omega
      have HN := Lib.hid (decide_eq_false hn)
      clear hn
      go_wp2_with fail
      go_ret
      exact ⟨by rw [HP.out, HN.out]; first | rfl | (simp; omega), HG2.out⟩
def envMay (x : EV) : Bool := goMay x.fr x.tw && setMay x.has x.st && decide (x.nb ≤ 4096)
theorem envMay_any (x : EV) (w : World) : Calls Try.prog 88 #[.agg (rowOf 106 x.v)] w fun e w' => e = .returned (.bool (envMay x)) ∧ w.grownBy w' none := by
  have ga := World.grownBy_alloc w (.cells (rowOf 106 x.v) 41) none
  have hA := RowAt.new w 41 106 x.v _ rfl
  have HL1 := Lib.hid (hA.load (P := Try.prog) 0 26 2 (fun j => .int .u8 (x.fr j)) (by decide) x.v_fr (by kernel_rfl) (by kernel_rfl))
  have HL2 := Lib.hid (hA.load (P := Try.prog) 2 26 2 (fun j => .int .u8 (x.tw j)) (by decide) x.v_to (by kernel_rfl) (by kernel_rfl))
  have HA := Lib.hid hA
  have HM := Lib.hid (mayGo_any x.fr x.tw (w.alloc (.cells (rowOf 106 x.v) 41)))
  have HG := Lib.hid ga
  obtain ⟨m, hm⟩ : ∃ m, m = goMay x.fr x.tw := ⟨_, rfl⟩
  rw [← hm] at HM
  have HP : Hid (envMay x = (m && setMay x.has x.st && decide (x.nb ≤ 4096))) := Lib.hid (by rw [hm]; rfl)
  clear ga hA hm
  go_enter Try.func88, Try.ntmps88
  go_wp2_with (first | ((with_reducible refine wpList_here ?_); refine wpList_ld (p := .pointer (some ⟨w.heap.size, 0, none⟩)) 3 ?_ ?_ ?_ HL1.out ?_; (· rfl); go_simp; (· kernel_rfl)) | ((with_reducible refine wpList_here ?_); refine wpList_ld (p := .pointer (some ⟨w.heap.size, 2, none⟩)) 5 ?_ ?_ ?_ HL2.out ?_; (· rfl); go_simp; (· kernel_rfl)))
  go_at_call 89
  refine HM.out.mono ?_
  rintro e w2 ⟨rfl, g2⟩
  have HG2 := Lib.hid (grown_trans HG.out g2)
  have hA2 := HA.out.grown g2 (by simp)
  clear g2 HM HL1 HL2 HA HG
  cases m with
  | false =>
    clear hA2
    go_wp2_with fail
    go_ret
    exact ⟨by rw [HP.out]; rfl, HG2.out⟩
  | true =>
    have HLS := Lib.hid (hA2.load (P := Try.prog) 5 38 66 x.st.v (by decide) x.v_st (by kernel_rfl) (by kernel_rfl))
    have c4 : w2.cell? ⟨w.heap.size, 4, none⟩ = some (.bool x.has) := hA2.cell 4 (by decide)
    have HMS := Lib.hid (maySetup_any x.has x.st w2)
    have HA := Lib.hid hA2
    clear hA2
    go_wp2_with (first | ((with_reducible refine wpList_here ?_); refine wpList_ld (p := .pointer (some ⟨w.heap.size, 5, none⟩)) 11 ?_ ?_ ?_ HLS.out ?_; (· rfl); go_simp; (· kernel_rfl)))
    go_at_call 90
    refine HMS.out.mono ?_
    rintro e w3 ⟨rfl, g3⟩
    obtain ⟨m2, hm2⟩ : ∃ m, m = setMay x.has x.st := ⟨_, rfl⟩
    rw [← hm2]
    have HM2 := Lib.hid hm2
    have HG3 := Lib.hid (grown_trans HG2.out g3)
    have c105 : w3.cell? ⟨w.heap.size, 105, none⟩ = some (.slice x.ad x.nb x.cb) := (HA.out.grown g3 (by simp)).cell 105 (by decide)
    clear g3 HMS HLS HA HG2 c4 hm2
    cases m2 with
    | false =>
      clear c105
      go_wp2_with fail
      go_ret
      exact ⟨by rw [HP.out, ← HM2.out]; rfl, HG3.out⟩
    | true =>
      by_cases hn : x.nb ≤ 4096
      · have j0 : (x.nb : Int) ≤ 4096 := by omega
        have HN := Lib.hid (decide_eq_true hn)
        clear hn
        go_wp2_with fail
        go_ret
        exact ⟨by rw [HP.out, ← HM2.out, HN.out]; first | rfl | (simp; omega), HG3.out⟩
      · have j0 : ¬ (x.nb : Int) ≤ 4096 := by omega
        have HN := Lib.hid (decide_eq_false hn)
        clear hn
        go_wp2_with fail
        go_ret
        exact ⟨by rw [HP.out, ← HM2.out, HN.out]; first | rfl | (simp; omega), HG3.out⟩
end Go.Proofs.Ytmbefbmpjkbnmaa
namespace Go.Proofs.Ytmbefbmpjkbnmaa
open Go.RowKit

def headX (n r x : Nat) : Array Bool := ((List.range (n + r)).map fun i => decide (i < n) && decide (i ≠ x)).toArray
/-- What a tail's operation waits for: all of the head but x. -/
def tailX (n x t : Nat) : List Nat := if n ≤ t then (List.range n).filter (fun k => decide (k ≠ x)) else []
theorem mem_tailX {n x t k : Nat} : k ∈ tailX n x t ↔ n ≤ t ∧ k < n ∧ k ≠ x := by
  unfold tailX
  split
  · simp [*]
  · simp; omega
theorem cntU_of_all {ls : Array Bool} : ∀ n, (∀ i, i < n → ls.getD i true = true) → cntU ls n = 0
  | 0, _ => rfl
  | n + 1, h => by
    show cntU ls n + _ = 0
    rw [cntU_of_all n (fun i hi => h i (by omega)), h n (by omega), if_pos rfl]
/-- Operation x yields what its slots tell, whatever the world. -/
def PureX (P : Program) (ops : Array Oper) (S : World → Prop) (a : Act) (w0 : World) (R : Nat → Value → World → Prop) (n : Nat) (d : Nat → Nat) (dep : Nat → List Nat) (x : Nat) : Prop :=
  ∃ o, ops[x]? = some o ∧ o.dst = some (d x) ∧ ∀ (b : Act) (W : World), (∀ t, (∀ k, k < n → t ≠ d k) → slotv b t = slotv a t) → w0.grownBy W none → (∀ j, j ∈ dep x → R j (slotv b (d j)) W) → ∃ v, R x v W ∧ YieldsIf P ops S o v b
section
variable {P : Program} {ops : Array Oper} {Q : Exit → Act → World → Prop} {a : Act} {w0 : World} {R : Nat → Value → World → Prop} {al : Nat → Bool}
theorem rel_steps_x (S : World → Prop) (hS : ∀ W, w0.grownBy W none → S W) (n r : Nat) (d : Nat → Nat) (dep : Nat → List Nat) (hsz : ops.size = n + r) (hb : backB ops = true) (x : Nat) (hx : x < n) (hwt : depB ops (tailX n x) = true) (hns : Region.noSelect ops = true) (hfree : ∀ ls : Array Bool, ls = headX n r x → Region.free .any ops ls x = true) (hQ : ∀ c v b w, Q (.panic c) (b.put (some (d x)) v) w → Q (.panic c) b w) (hpure : PureX P ops S a w0 R n d dep x) (hxal : al x = false) (hr : 0 < r)
    (hdp : depB ops dep = true) (hd : ∀ k, k < n → d k < a.tmps.size) (hinj : ∀ i k, i < n → k < n → d i = d k → i = k)
    (hmono : ∀ k v W W', k < n → R k v W → W.grownBy W' none → R k v W') (hal : ∀ k v W, k < n → al k = true → R k v W → ∃ B, v = .pointer (some ⟨B, 0, none⟩) ∧ B < W.heap.size) (hstep : ∀ i, i < n → RelStepA P ops Q a w0 al R n d dep i) (hlt : ∀ i, i < n → ∀ j, j ∈ dep i → j < n)
    (hfin : ∀ ls b W, (∀ k, k < n → ls.getD k true = true) → RelAl a w0 al d n r R ops ls b W → wpAnyH P .any ops Q S r ls b W) :
    ∀ (m : Nat) (ls : Array Bool) (b : Act) (W : World), m = cntU ls n → RelAl a w0 al d n r R ops ls b W → wpAnyH P .any ops Q S (m + r) ls b W
  | 0, ls, b, W, hm, h => by
    rw [Nat.zero_add]
    exact hfin ls b W (cntU_zero n hm.symm) h
  | m + 1, ls, b, W, hm, h => by
    rw [Nat.add_right_comm]
    obtain ⟨i0, q1, q2, q3⟩ := first_un n (by omega : cntU ls n ≠ 0)
    by_cases hoth : ∃ k, k < n ∧ k ≠ x ∧ ls.getD k true = false
    case neg =>
      have hall : ∀ k, k < n → k ≠ x → ls.getD k true = true := fun k h1 h2 => by
        cases e : ls.getD k true with
        | true => rfl
        | false => exact absurd ⟨k, h1, h2, e⟩ hoth
      have hi0 : i0 = x := by
        by_cases e : i0 = x
        · exact e
        · rw [hall i0 q1 e] at q2; cases q2
      subst hi0
      have hls : ls = headX n r i0 := by
        refine Array.ext (by simp [headX, h.lsz]) fun i h1 h2 => ?_
        have hi : i < n + r := by rw [← h.lsz]; exact h1
        by_cases e : i < n
        · by_cases e2 : i = i0
          · subst e2
            have h3 := q2
            simp only [Array.getD_eq_getD_getElem?, Array.getElem?_eq_getElem h1, Option.getD_some] at h3
            rw [h3]
            simp [headX]
          · have h3 := hall i e e2
            simp only [Array.getD_eq_getD_getElem?, Array.getElem?_eq_getElem h1, Option.getD_some] at h3
            rw [h3]
            simp [headX, e, e2]
        · have h3 := h.inv.tail i (by omega) (by omega)
          simp only [Array.getD_eq_getD_getElem?, Array.getElem?_eq_getElem h1, Option.getD_some] at h3
          rw [h3]
          simp [headX, e]
      have hm0 : m = 0 := by
        have := cntU_set (by rw [h.lsz]; omega) q2 n q1
        have h0 : cntU (ls.setIfInBounds i0 true) n = 0 := by
          refine cntU_of_all n fun k hk => ?_
          by_cases e : k = i0
          · subst e; exact getD_set_same (by rw [h.lsz]; omega) true
          · rw [getD_set_ne true (Ne.symm e)]; exact hall k hk e
        omega
      subst hm0
      have hio : i0 < ops.size := by omega
      obtain ⟨o, ho, hdo, hp⟩ := hpure
      have hrd : i0 ∈ Region.ready .any ops ls := mem_ready.2 ⟨q2, o, ho, fun e he' hbd => by
        have := backB_at hb ho hio e he' hbd
        exact getD_tt (by rw [h.lsz]; omega) true false (q3 _ this)⟩
      obtain ⟨v, hRv, hy⟩ := hp b W h.rest h.gr (fun j hj => by
        obtain ⟨e, he, hbd, rfl⟩ := depB_at hdp ho hio hj
        have := backB_at hb ho hio e he hbd
        exact h.has _ (hlt i0 q1 _ hj) (q3 _ this))
      have hdb : d i0 < b.tmps.size := by rw [h.size]; exact hd i0 q1
      have hils : i0 < ls.size := by rw [h.lsz]; omega
      rw [Nat.zero_add]
      refine wpAnyH_takeD (some (d i0)) ho hdo hns (hfree ls hls) (by simpa using hrd) (fun c a' w' hq => hQ c v a' w' (by rw [hdo] at hq; exact hq)) hy (hS _ h.gr) ?_
      refine hfin _ _ _ (fun k hk => ?_) ⟨h.defers, by simp [Act.put, h.size], fun t ht => ?_, fun k hk hl => ?_, h.gr, by simp [h.lsz], h.inv.set hrd q1, ?_⟩
      · by_cases e : k = i0
        · subst e; exact getD_set_same hils true
        · rw [getD_set_ne true (Ne.symm e)]; exact hall k hk e
      · rw [slotv_put _ _ _ _ hdb, if_neg (ht i0 q1)]
        exact h.rest t ht
      · rw [slotv_put _ _ _ _ hdb]
        by_cases e : k = i0
        · subst e
          rw [if_pos rfl]
          exact hRv
        · rw [if_neg (fun e' => e (hinj k i0 hk q1 e'))]
          exact h.has k hk (hall k hk e)
      · intro p q hp1 hq1 hne a1 a2 l1 l2
        have p1 : p ≠ i0 := fun e => by rw [e] at a1; rw [hxal] at a1; cases a1
        have p2 : q ≠ i0 := fun e => by rw [e] at a2; rw [hxal] at a2; cases a2
        rw [slotv_put _ _ _ _ hdb, slotv_put _ _ _ _ hdb, if_neg (fun e' => p1 (hinj p i0 hp1 q1 e')), if_neg (fun e' => p2 (hinj q i0 hq1 q1 e'))]
        rw [getD_set_ne true (Ne.symm p1)] at l1
        rw [getD_set_ne true (Ne.symm p2)] at l2
        exact h.apart p q hp1 hq1 hne a1 a2 l1 l2
    have hother := hoth
    refine ⟨fun he => ?_, fun i hi => ?_⟩
    · have hio : i0 < ops.size := by omega
      have : i0 ∈ Region.ready .any ops ls := mem_ready.2 ⟨q2, ops[i0], by simp [hio], fun e he' hbd => by
        have := backB_at hb (by simp [hio] : ops[i0]? = some ops[i0]) hio e he' hbd
        exact getD_tt (by rw [h.lsz]; omega) true false (q3 _ this)⟩
      rw [he] at this
      cases this
    · obtain ⟨hun, y, hy, hall⟩ := mem_ready.1 hi
      have hio : i < ops.size := (Array.getElem?_eq_some_iff.1 hy).1
      have hin : i < n := Nat.lt_of_not_le fun hge => by
        obtain ⟨k0, c1, c2, c3⟩ := hother
        obtain ⟨e, he, hbd, he2⟩ := depB_at hwt hy hio (j := k0) (mem_tailX.2 ⟨hge, c1, c2⟩)
        have := getD_tt (by rw [h.lsz]; omega) false true (hall e he hbd)
        rw [he2] at this
        rw [this] at c3
        cases c3
      have hils : i < ls.size := by rw [h.lsz]; omega
      obtain ⟨o, ho, hdo, hw0⟩ := hstep i hin
      obtain rfl : y = o := by rw [hy] at ho; exact Option.some.inj ho
      obtain ⟨hg, hw⟩ := hw0 b W h.rest h.gr (fun j hj => by
        obtain ⟨e, he, hbd, rfl⟩ := depB_at hdp hy hio hj
        exact h.has _ (hlt i hin _ hj) (getD_tt (by have := hlt i hin _ hj; rw [h.lsz]; omega) false true (hall e he hbd)))
      refine wpOp_at hy hg (hw _ (fun v W' g hR hfr => ?_))
      · have hgr := grown_trans h.gr g
        rw [hdo]
        refine ⟨hS _ hgr, rel_steps_x S hS n r d dep hsz hb x hx hwt hns hfree hQ hpure hxal hr hdp hd hinj hmono hal hstep hlt hfin m _ _ W' ?_ ?_⟩
        · have := cntU_set hils hun n hin
          omega
        · have hdb : d i < b.tmps.size := by rw [h.size]; exact hd i hin
          refine ⟨h.defers, by simp [Act.put, h.size], fun t ht => ?_, fun k hk hl => ?_, hgr, by simp [h.lsz], h.inv.set hi hin, ?_⟩
          · rw [slotv_put _ _ _ _ hdb, if_neg (ht i hin)]
            exact h.rest t ht
          · rw [slotv_put _ _ _ _ hdb]
            by_cases e : k = i
            · subst e
              rw [if_pos rfl]
              exact hR
            · rw [if_neg (fun e' => e (hinj k i hk hin e'))]
              rw [getD_set_ne true (Ne.symm e)] at hl
              exact hmono k _ W W' hk (h.has k hk hl) g
          · intro p q hp hq hne a1 a2 l1 l2
            rw [slotv_put _ _ _ _ hdb, slotv_put _ _ _ _ hdb]
            by_cases e1 : p = i
            · subst e1
              have e2 : q ≠ p := fun e => hne e.symm
              rw [if_pos rfl, if_neg (fun e' => e2 (hinj q p hq hin e'))]
              rw [getD_set_ne true (Ne.symm e2)] at l2
              obtain ⟨B, hB, hlt2⟩ := hal q _ W hq a2 (h.has q hq l2)
              rw [hB]
              intro e
              have := hfr a1 B e
              omega
            · rw [if_neg (fun e' => e1 (hinj p i hp hin e'))]
              rw [getD_set_ne true (Ne.symm e1)] at l1
              by_cases e2 : q = i
              · subst e2
                rw [if_pos rfl]
                obtain ⟨B, hB, hlt2⟩ := hal p _ W hp a1 (h.has p hp l1)
                rw [hB]
                intro e
                have := hfr a2 B e.symm
                omega
              · rw [if_neg (fun e' => e2 (hinj q i hq hin e'))]
                rw [getD_set_ne true (Ne.symm e2)] at l2
                exact h.apart p q hp hq hne a1 a2 l1 l2
/-- The head in whatever order; then the tail, which keeps S. -/
theorem wp_region_rel_x {id : Nat} {w : World} (S : World → Prop) (hS : ∀ W, w.grownBy W none → S W) (al : Nat → Bool) (R : Nat → Value → World → Prop) (n r : Nat) (d : Nat → Nat) (dep : Nat → List Nat) (hm : P.follows .mixedOrders = true) (hsz : ops.size = n + r) (hb : backB ops = true) (x : Nat) (hx : x < n) (hwt : depB ops (tailX n x) = true) (hns : Region.noSelect ops = true) (hfree : Region.free .any ops (headX n r x) x = true) (hQ : ∀ c v b w, Q (.panic c) (b.put (some (d x)) v) w → Q (.panic c) b w) (hpure : PureX P ops S a w R n d dep x) (hxal : al x = false) (hr : 0 < r) (hdp : depB ops dep = true)
    (m : Nat) (hsm : a.tmps.size = m) (hd : ∀ k, k < n → d k < m) (hinj0 : ∀ i, i < n → ∀ k, k < n → d i = d k → i = k) (hlt : ∀ i, i < n → ∀ j, j ∈ dep i → j < n)
    (hmono : ∀ k v W W', k < n → R k v W → W.grownBy W' none → R k v W') (hal : ∀ k v W, k < n → al k = true → R k v W → ∃ B, v = .pointer (some ⟨B, 0, none⟩) ∧ B < W.heap.size) (hstep : ∀ i, i < n → RelStepA P ops Q a w al R n d dep i)
    (hfin : ∀ vals W, w.grownBy W none → (∀ k, k < n → R k (vals k) W) → (∀ i k, i < n → k < n → i ≠ k → al i = true → al k = true → vals i ≠ vals k) → wpAnyH P .any ops Q S r (headL n r) (putsN a d vals n) W) : (Code.region id ops true).wp P Q a w := by
  subst hsm
  have hinj : ∀ i k, i < n → k < n → d i = d k → i = k := fun i k h1 h2 => hinj0 i h1 k h2
  refine wp_region_held (S := S) hm ?_
  show wpAnyH P .any ops Q _ ops.size (Array.replicate ops.size false) a w.drew
  have hc : ∀ k, k ≤ ops.size → cntU (Array.replicate ops.size false) k = k := fun k => by
    induction k with
    | zero => intro _; rfl
    | succ k ih =>
      intro hk
      show cntU _ k + _ = _
      rw [ih (by omega), getD_in (by simp; omega) (getD_replicate_false _ _)]
      rfl
  have H := rel_steps_x (R := R) (al := al) (w0 := w) S hS n r d dep hsz hb x hx hwt hns (fun ls e => by rw [e]; exact hfree) hQ hpure hxal hr hdp hd hinj hmono hal hstep hlt (fun ls b W hall h => ?_) n (Array.replicate ops.size false) a w.drew (hc n (by omega)).symm
    ⟨rfl, rfl, fun _ _ => rfl, fun k hk hl => (by rw [getD_in (by simp; omega) (getD_replicate_false _ _)] at hl; cases hl), grown_drew (grown_refl _ _), by simp [hsz], ⟨by simp, fun j y _ hl => (by rw [getD_replicate_false] at hl; cases hl), fun t _ ht => getD_in (by simpa using ht) (getD_replicate_false _ _)⟩, fun i k hi _ _ _ _ hl _ => (by rw [getD_in (by simp; omega) (getD_replicate_false _ _)] at hl; cases hl)⟩
  · rw [hsz] at H ⊢
    exact H
  · have he : b = putsN a d (fun k => slotv b (d k)) n := by
      refine act_ext (h.defers.trans (putsN_defers a d _ n).symm) (h.size.trans (putsN_size a d _ n).symm) fun t _ => ?_
      by_cases e : ∃ k, k < n ∧ t = d k
      · obtain ⟨k, hk, rfl⟩ := e
        exact (putsN_at a d (fun k => slotv b (d k)) n hd hinj k hk).symm
      · have e' : ∀ k, k < n → t ≠ d k := fun k hk h => e ⟨k, hk, h⟩
        rw [h.rest t e', putsN_rest a d _ n hd t e']
    have hl : ls = headL n r := by
      refine Array.ext (by simp [headL, h.lsz]) fun i h1 h2 => ?_
      have hi : i < n + r := by rw [← h.lsz]; exact h1
      by_cases e : i < n
      · have h3 := hall i e
        simp only [Array.getD_eq_getD_getElem?, Array.getElem?_eq_getElem h1, Option.getD_some] at h3
        rw [h3]
        simp [headL, e]
      · have h3 := h.inv.tail i (by omega) (by omega)
        simp only [Array.getD_eq_getD_getElem?, Array.getElem?_eq_getElem h1, Option.getD_some] at h3
        rw [h3]
        simp [headL, List.getElem_append, e]
    rw [he, hl]
    exact hfin _ W h.gr (fun k hk => h.has k hk (hall k hk)) (fun i k hi hk hne a1 a2 => h.apart i k hi hk hne a1 a2 (hall i hi) (hall k hk))
end
end Go.Proofs.Ytmbefbmpjkbnmaa
namespace Go.Proofs.Ytmbefbmpjkbnmaa
open Go.RowKit

set_option maxRecDepth 100000

/-- Bytes in a slice of their own. -/
def OwnV (n : Nat) (f : Nat → Nat) (x : Value) (W : World) : Prop := ∃ g cap, x = .slice (some ⟨g, 0, none⟩) n cap ∧ OwnR W g n cap f
theorem OwnV.grown {n : Nat} {f : Nat → Nat} {x : Value} {W W' : World} (h : OwnV n f x W) (g : W.grownBy W' none) : OwnV n f x W' := by
  obtain ⟨b, c, h1, h2⟩ := h
  exact ⟨b, c, h1, h2.grown g (by simp)⟩
theorem app_full {w : World} {B g n m : Nat} {a : Option Addr} {f f' : Nat → Nat} (c : Nat) (ty : TypeId) (h : OwnR w g n n f) (hx : Rd w B a m f') (hn : n + m ≤ 2 ^ 46) :
    ∃ v w', (Builtin.append_ #[39, 39] ty #[.slice (some ⟨g, 0, none⟩) n n, .slice a m c]).run Try.prog w = .ok v w' ∧ w.grownBy w' none ∧ OwnV (n + m) (cat n f f') v w' := by
  obtain ⟨i0, hi, hz, hsz, hby⟩ := info_parts info_u8
  have hsrc := src_bytes c hx
  have hl : (bytesOf m f').length = m := bytesOf_length m f'
  rw [← hsz] at hsrc
  by_cases hroom : n + m ≤ n
  · obtain rfl : m = 0 := by omega
    have hr := run_append_room_src w 39 39 ty 5 i0 under_bytes hi g 0 n n (.slice a 0 c) 0 (bytesOf 0 f') hsrc hroom
      (fun j hj => by omega) (fun j _ => h.free _)
    rw [hsz, Nat.zero_add, Nat.mul_one] at hr
    refine ⟨_, _, hr, grown_refl w none, g, n, rfl, ?_⟩
    exact OwnR.congr (f := f) h (fun i hi => (if_pos (by omega)).symm)
  · have hfit : Builtin.nextslicecap (n + m) n * i0.bytes ≤ 281474976710656 := by
      rw [hby]
      have := nextslicecap_le (need := n + m) (old := n) (by omega)
      omega
    have hr := run_append_grow_src w 39 39 ty 5 i0 (.int .u8 0) under_bytes hi hz (some ⟨g, 0, none⟩) n n (bytesOf n f)
      (by
        rw [hsz]
        refine run_firstCells_some w.drew 1 n ⟨g, 0, none⟩ n n (bytesOf n f) (by simp [bytesOf]) (fun j u hj => ?_)
        have hj' : j < n := by
          have := (List.getElem?_eq_some_iff.1 hj).1
          simpa [bytesOf] using this
        rw [bytesOf_get n f j hj'] at hj
        cases hj
        rw [Addr.add_mid, Nat.zero_add]
        exact h.cell j hj')
      (.slice a m c) m (bytesOf m f') hsrc (by omega) (by omega) hfit
    rw [bytesOf_append n m f f' (cat n f f') (fun i hi => by simp [cat, hi]) (fun i hi => by
      unfold cat; rw [if_neg (by omega), show n + i - n = i by omega])] at hr
    have hcg := grownCap_ge w (n + m) n 5
    generalize grownCap w (n + m) n 5 = cap' at *
    have hb := heap_alloc_new w.drew (.cells ((bytesOf (n + m) (cat n f f')).toArray ++ Builtin.zeroCells (Value.cells (.int .u8 0)) (cap' - (n + m))) 5)
    have hb' : w.drew.heap.size = w.heap.size := rfl
    rw [hb'] at hb
    have hg0 := grown_alloc (grown_drew (grown_refl w none)) (.cells ((bytesOf (n + m) (cat n f f')).toArray ++ Builtin.zeroCells (Value.cells (.int .u8 0)) (cap' - (n + m))) 5)
    refine ⟨_, _, hr, hg0, w.heap.size, cap', rfl, ⟨fun i hi => ?_, fun i hi => ?_, fun i => frozen_of_row _ _ _ _ _ hb, hcg, by simp [hb']⟩⟩
    · rw [cell_of_row _ _ _ _ _ _ hb, Array.getElem?_append_left (by simpa [bytesOf] using hi)]
      simpa using bytesOf_get (n + m) (cat n f f') i hi
    · rw [cell_of_row _ _ _ _ _ _ hb, Array.getElem?_eq_getElem (by
        rw [Array.size_append, size_zeroCells]
        simp [bytesOf, Value.cells]; omega)]
      rfl
theorem rel_append {Q : Exit → Act → World → Prop} {o : Oper} {b : Act} {W : World} {K : Act → World → Prop} {R : Value → World → Prop} (s x : Operand) (t t' : TypeId)
    (ho : o.op = .call { callee := .builtin .append, args := #[s, x], argTypes := #[t, t'] }) (vs vx v : Value) (w' : World) (hs : b.eval s = vs) (hx : b.eval x = vx)
    (hrun : (Builtin.append_ #[t, t'] o.type #[vs, vx]).run Try.prog W = .ok v w') (hg : W.grownBy w' none) (hR : R v w') (hK : ∀ v W', W.grownBy W' none → R v W' → K (b.put o.dst v) W') : o.wp Try.prog b W K Q := by
  have h := hK v w' hg hR
  unfold Oper.wp
  simp [execOp, ho, resolve, invoke, builtin, hs, hx, hrun, Result.andThen]
  exact h
end Go.Proofs.Ytmbefbmpjkbnmaa
namespace Go.Proofs.Ytmbefbmpjkbnmaa
open Go.RowKit

set_option maxRecDepth 100000
set_option maxHeartbeats 4000000

def FullV (n : Nat) (f : Nat → Nat) (x : Value) (W : World) : Prop := ∃ g, x = .slice (some ⟨g, 0, none⟩) n n ∧ OwnR W g n n f
theorem FullV.grown {n : Nat} {f : Nat → Nat} {x : Value} {W W' : World} (h : FullV n f x W) (g : W.grownBy W' none) : FullV n f x W' := by
  obtain ⟨b, h1, h2⟩ := h
  exact ⟨b, h1, h2.grown g (by simp)⟩
theorem fill_one (w : World) (v : Nat) : Fill (w.alloc (.cells #[.int .u8 v] 5)) w.heap.size 1 (fun _ => v) :=
  ⟨fun i hi => by
    obtain rfl : i = 0 := by omega
    exact cell_of_row _ _ _ _ _ _ (heap_alloc_new w _), fun _ => frozen_of_row _ _ _ _ _ (heap_alloc_new w _)⟩
/-- A new block that has a header of noughts. -/
def NewR (base : Nat) (x : Value) (W : World) : Prop := ∃ B, x = .pointer (some ⟨B, 0, none⟩) ∧ base ≤ B ∧ RowAt W B 36 34 HV.zero.v
theorem NewR.grown {base : Nat} {x : Value} {W W' : World} (h : NewR base x W) (g : W.grownBy W' none) : NewR base x W' := by
  obtain ⟨b, h1, h2, h3⟩ := h
  exact ⟨b, h1, h2, h3.grown g (by simp)⟩
def H7 : HV := ⟨fun _ => 0, 0, 7⟩
theorem codHdr_enters : ∀ args w, (callFunc 14 args).run Try.prog w = .ok (.enter 14 args) w := enters_of Try.func14 (by kernel_rfl) rfl
theorem takeHdr_enters : ∀ args w, (callFunc 30 args).run Try.prog w = .ok (.enter 30 args) w := enters_of Try.func30 (by kernel_rfl) rfl
theorem take7 (g c : Nat) (W : World) (h : OwnR W g 40 c (cat 39 (fun _ => 0) (fun _ => 7))) : Calls Try.prog 30 #[.agg (rowOf 3 codHdr), .slice (some ⟨g, 0, none⟩) 40 c] W fun e w' => ∃ v, e = .returned v ∧ W.grownBy w' none ∧ v = .tuple #[.agg (rowOf 34 H7.v), .int .i64 0] := by
  refine (hdrTake_any (g + 1) 40 c (some ⟨g, 0, none⟩) _ W ⟨fun _ => ⟨g, 0, rfl, Nat.lt_succ_self _, fun i hi => by rw [Nat.zero_add]; exact h.cell i hi⟩⟩ (by decide) (fun i => by unfold cat; split <;> (dsimp; omega))).mono ?_
  rintro e w' ⟨rfl, hg⟩
  refine ⟨_, rfl, hg, ?_⟩
  rw [show hdrOk 40 = true from by decide, show rowOf 34 (hdrOf 40 (cat 39 (fun _ => 0) (fun _ => 7))).v = rowOf 34 H7.v from by kernel_rfl]
  rfl
theorem wpAnyH_skipQ {P : Program} {ops : Array Oper} {Q : Exit → Act → World → Prop} {md : Region.Mode} {S : World → Prop} {i : Nat} {o : Oper} {fuel : Nat} {listed : Array Bool} {a : Act} {w w' : World}
    (hr : Region.ready md ops listed = [i]) (hi : ops[i]? = some o) (hd : o.dst = none) (hw : Region.wanted o (yielded ops a.tmps) = true) (he : (execOp a.eval o).run P w = .ok .skip w') (hS : S w')
    (h : wpAnyH P md ops Q S fuel (listed.setIfInBounds i true) a w') : wpAnyH P md ops Q S (fuel + 1) listed a w := by
  refine wpAnyH_all hr (by simp) fun j hj => ?_
  obtain rfl : j = i := by simpa using hj
  refine wpOp_at hi hw (wp_skips he ⟨hS, ?_⟩)
  rw [hd]
  exact h
theorem exec_storeQ {o : Oper} {a : Act} {w w' : World} {T : TypeId} (x y : Operand) (p v : Value) (ho : o.op = .store T x y) (hx : a.eval x = p) (hy : a.eval y = v) (h : (Instr.storeAt T p v).run Try.prog w = .ok () w') : (execOp a.eval o).run Try.prog w = .ok .skip w' := by
  unfold execOp
  simp only [ho, hx, hy, Sem.run_bind, h, Result.andThen_ok, Sem.run_pure]
theorem exec_convQ {o : Oper} {a : Act} {w : World} {v u : Value} (x : Operand) (ho : o.op = .convert 39 9 x) (hx : a.eval x = v) (h : (convert 39 9 v).run Try.prog w = .ok u w) : (execOp a.eval o).run Try.prog w = .ok (.value u) w := by
  unfold execOp
  simp only [ho, hx, Sem.run_bind, h, Result.andThen_ok, Sem.run_pure]
theorem zeroB_lt (i : Nat) : HV.zero.bytes i < 256 := by
  unfold HV.bytes cat
  have h := fun i => nbF_lt 0 4 i
  split
  · split
    · exact (by decide : 0 < 256)
    · exact h _
  · exact h _
theorem str_zero : strOf 40 HV.zero.bytes = strOf 40 (fun _ => 0) := strOf_congr 40 _ _ fun i hi => by
  have h : ∀ i, nbF 0 4 i = 0 := fun i => by unfold nbF; simp
  unfold HV.bytes cat
  split
  · split
    · rfl
    · exact h _
  · exact h _
theorem exec_build7 {o : Oper} {a : Act} (ho : o.op = .build 36 #[(2, .const (.int .u32 7))]) (w : World) : (execOp a.eval o).run Try.prog w = .ok (.value (.agg (rowOf 34 H7.v))) w := by
  unfold execOp
  rw [ho]
  kernel_rfl
theorem exec_eq7 {o : Oper} {a : Act} (x y : Operand) (ho : o.op = .binOp .eql 36 x y 36) (hx : a.eval x = .agg (rowOf 34 H7.v)) (hy : a.eval y = .agg (rowOf 34 H7.v)) (w : World) : (execOp a.eval o).run Try.prog w = .ok (.value (.bool true)) w := by
  unfold execOp
  simp only [ho, hx, hy]
  kernel_rfl
theorem works_any (w : World) : Calls Try.prog 9 #[] w fun e w' => e = .returned (.bool true) ∧ w.grownBy w' none := by
  have HCW := Lib.hid (codHdr_any w)
  have HZO := Lib.hid (show HV.zero.Ok from ⟨fun _ => Nat.succ_pos _, by decide, by decide⟩)
  go_enter Try.func9, Try.ntmps9
  go_wp2_with fail
  go_at_call 14
  refine HCW.out.mono ?_
  rintro e w1 ⟨rfl, g1⟩
  have HP := Lib.hid (hdrPut_any HV.zero HZO.out w1)
  rw [← HV.zero_row] at HP
  have HG1 := Lib.hid g1
  clear g1 HCW
  go_wp2_with fail
  go_at_call 53
  refine HP.out.mono ?_
  rintro e w2 ⟨⟨a1, c1, rfl, hO⟩, g2⟩
  have hO : OwnN w2 w1.heap.size (.slice a1 40 c1) 40 HV.zero.bytes := hO
  obtain ⟨a1', c1', e1, hc1, hR⟩ := hO.rd
  cases e1
  have HR1 := Lib.hid hR
  have HG2 := Lib.hid (grown_trans HG1.out g2)
  clear hO g2 HP HG1 hR
  go_upto_region 2 with fail
  have HCO := Lib.hid (fun W => codHdr_any W)
  refine wp_region_rel_x (fun W => w2.grownBy W none) (fun _ h => h) (alL []) (relL [fun vv _ => vv = .agg (rowOf 3 codHdr), FullV 39 (fun _ => 0), FullV 1 (fun _ => 7), OwnV 40 (cat 39 (fun _ => 0) (fun _ => 7)), fun vv _ => vv = .tuple #[.agg (rowOf 34 H7.v), .int .i64 0], fun vv _ => vv = .tuple #[.agg (rowOf 34 H7.v), .int .i64 0], fun vv _ => vv = .agg (rowOf 34 H7.v), fun vv _ => vv = .int .i64 0, NewR w2.heap.size])
    9 2 (atL [12, 13, 14, 15, 16, 11, 17, 18, 3]) (depL [[], [], [], [1, 2], [0, 3], [4], [5], [5], []]) (by kernel_rfl) rfl (by kernel_rfl) 7 (by decide) (by kernel_rfl) (by kernel_rfl) (by kernel_rfl) (fun _ _ _ _ h => h) ?pureW2 rfl (by decide) (by kernel_rfl) 37 rfl (by decide) (by decide) (by decide) ?monoW2 ?alW2 ?stepW2 ?finW2
  case monoW2 =>
    intro k x W W' hk h g
    obtain rfl | rfl | rfl | rfl | rfl | rfl | rfl | rfl | rfl : k = 0 ∨ k = 1 ∨ k = 2 ∨ k = 3 ∨ k = 4 ∨ k = 5 ∨ k = 6 ∨ k = 7 ∨ k = 8 := by omega
    · exact h
    · exact FullV.grown h g
    · exact FullV.grown h g
    · exact OwnV.grown h g
    · exact h
    · exact h
    · exact h
    · exact h
    · exact NewR.grown h g
  case alW2 =>
    intro k x W hk e h
    obtain rfl | rfl | rfl | rfl | rfl | rfl | rfl | rfl | rfl : k = 0 ∨ k = 1 ∨ k = 2 ∨ k = 3 ∨ k = 4 ∨ k = 5 ∨ k = 6 ∨ k = 7 ∨ k = 8 := by omega
    · exact absurd e (by decide)
    · exact absurd e (by decide)
    · exact absurd e (by decide)
    · exact absurd e (by decide)
    · exact absurd e (by decide)
    · exact absurd e (by decide)
    · exact absurd e (by decide)
    · exact absurd e (by decide)
    · exact absurd e (by decide)
  case stepW2 =>
    intro k hk
    obtain rfl | rfl | rfl | rfl | rfl | rfl | rfl | rfl | rfl : k = 0 ∨ k = 1 ∨ k = 2 ∨ k = 3 ∨ k = 4 ∨ k = 5 ∨ k = 6 ∨ k = 7 ∨ k = 8 := by omega
    · refine ⟨_, rfl, rfl, fun b W hs hg hD => ⟨wanted_of rfl, fun K hK0 => ?_⟩⟩
      have hK := fun v W' g h => hK0 v W' g h (fun e => absurd e (by decide))
      refine rel_call 14 #[] (exec_fn0 _ rfl) codHdr_enters ?_ hK
      exact (HCO.out W).mono fun e w' h => ⟨_, h.1, h.2, rfl⟩
    · refine ⟨_, rfl, rfl, fun b W hs hg hD => ⟨wanted_of rfl, fun K hK0 => ?_⟩⟩
      have hK := fun v W' g h => hK0 v W' g h (fun e => absurd e (by decide))
      obtain ⟨c, hr0, hF⟩ := make_any 39 (by decide) W
      have hr : (Instr.makeSlice 39 (.int .i64 39) (.int .i64 39)).run Try.prog W = .ok (.slice (some ⟨W.heap.size, 0, none⟩) 39 39) (W.alloc (.cells c 5)) := hr0
      exact wp_yields (by unfold execOp; go_simp) (hK _ _ (World.grownBy_alloc W _ none) (show FullV 39 (fun _ => 0) _ _ from ⟨W.heap.size, rfl, hF.own (by decide)⟩))
    · refine ⟨_, rfl, rfl, fun b W hs hg hD => ⟨wanted_of rfl, fun K hK0 => ?_⟩⟩
      have hK := fun v W' g h => hK0 v W' g h (fun e => absurd e (by decide))
      exact wp_yields (by unfold execOp; go_simp) (hK _ _ (World.grownBy_alloc W (.cells #[.int .u8 7] 5) none) (show FullV 1 (fun _ => 7) _ _ from ⟨W.heap.size, rfl, (fill_one W 7).own (by decide)⟩))
    · refine ⟨_, rfl, rfl, fun b W hs hg hD => ⟨wanted_of rfl, fun K hK0 => ?_⟩⟩
      have hK := fun v W' g h => hK0 v W' g h (fun e => absurd e (by decide))
      obtain ⟨g1, e1, o1⟩ := hD 1 (by decide)
      obtain ⟨g2, e2, o2⟩ := hD 2 (by decide)
      obtain ⟨v, w', hr, hg2, hv⟩ := app_full (B := g2 + 1) 1 39 o1 (a := some ⟨g2, 0, none⟩) (m := 1) (f' := fun _ => 7) ⟨fun _ => ⟨g2, 0, rfl, Nat.lt_succ_self _, fun i hi => by rw [Nat.zero_add]; exact o2.cell i hi⟩⟩ (by decide)
      exact rel_append (.tmp 13) (.tmp 14) _ _ rfl _ _ v w' ((eval_slot b 13).trans e1) ((eval_slot b 14).trans e2) hr hg2 hv hK
    · refine ⟨_, rfl, rfl, fun b W hs hg hD => ⟨wanted_of rfl, fun K hK0 => ?_⟩⟩
      have hK := fun v W' g h => hK0 v W' g h (fun e => absurd e (by decide))
      obtain ⟨g3, c3, e3, o3⟩ := hD 3 (by decide)
      have h0 := hD 0 (by decide)
      refine rel_call 30 _ (exec_fn2 _ _ _ _ _ rfl ((eval_slot b 12).trans h0) ((eval_slot b 15).trans e3)) takeHdr_enters ?_ hK
      exact take7 g3 c3 W o3
    · refine ⟨_, rfl, rfl, fun b W hs hg hD => ⟨wanted_of rfl, fun K hK0 => ?_⟩⟩
      have hK := fun v W' g h => hK0 v W' g h (fun e => absurd e (by decide))
      exact rel_move 16 rfl (hD 4 (by decide)) rfl hK
    · refine ⟨_, rfl, rfl, fun b W hs hg hD => ⟨wanted_of rfl, fun K hK0 => ?_⟩⟩
      have hK := fun v W' g h => hK0 v W' g h (fun e => absurd e (by decide))
      have h0 : b.tmps[11]?.getD undef = .tuple #[.agg (rowOf 34 H7.v), .int .i64 0] := (hD 5 (by decide))
      exact rel_val (v := .agg (rowOf 34 H7.v)) (by unfold execOp; go_simp) rfl hK
    · refine ⟨_, rfl, rfl, fun b W hs hg hD => ⟨wanted_of rfl, fun K hK0 => ?_⟩⟩
      have hK := fun v W' g h => hK0 v W' g h (fun e => absurd e (by decide))
      have h0 : b.tmps[11]?.getD undef = .tuple #[.agg (rowOf 34 H7.v), .int .i64 0] := (hD 5 (by decide))
      exact rel_val (v := .int .i64 0) (by unfold execOp; go_simp) rfl hK
    · refine ⟨_, rfl, rfl, fun b W hs hg hD => ⟨wanted_of rfl, fun K hK0 => ?_⟩⟩
      have hK := fun v W' g h => hK0 v W' g h (fun e => absurd e (by decide))
      exact wp_yields (by unfold execOp; go_simp) (hK _ _ (World.grownBy_alloc W (.cells #[.int .u8 0, .int .u8 0, .int .u8 0, .int .u8 0, .int .u8 0, .int .u8 0, .int .u8 0, .int .u8 0, .int .u8 0, .int .u8 0, .int .u8 0, .int .u8 0, .int .u8 0, .int .u8 0, .int .u8 0, .int .u8 0, .int .u8 0, .int .u8 0, .int .u8 0, .int .u8 0, .int .u8 0, .int .u8 0, .int .u8 0, .int .u8 0, .int .u8 0, .int .u8 0, .int .u8 0, .int .u8 0, .int .u8 0, .int .u8 0, .int .u8 0, .int .u8 0, .int .u32 0, .int .u32 0] 36) none) (show NewR w2.heap.size _ _ from ⟨W.heap.size, rfl, hg.size, RowAt.new W 36 34 HV.zero.v _ HV.zero_row⟩))
  case pureW2 =>
    refine ⟨_, rfl, rfl, fun b W hs hg hD => ⟨.int .i64 0, rfl, Or.inl ⟨rfl, fun W' _ => ?_⟩⟩⟩
    have h0 : b.tmps[11]?.getD undef = .tuple #[.agg (rowOf 34 H7.v), .int .i64 0] := (hD 5 (by decide))
    unfold execOp
    go_simp
  case finW2 =>
    intro vals W hg hR hap
    have e6 : vals 6 = .agg (rowOf 34 H7.v) := hR 6 (by decide)
    have e7 : vals 7 = .int .i64 0 := hR 7 (by decide)
    obtain ⟨X, e8, hXb, hX⟩ := hR 8 (by decide)
    clear hR hap
    simp only [putsN, atL, Act.put, List.getD_cons_zero, List.getD_cons_succ, List.setIfInBounds_toArray, List.set_cons_succ, List.set_cons_zero, e6, e7, e8]
    generalize vals 0 = q0
    generalize vals 1 = q1
    generalize vals 2 = q2
    generalize vals 3 = q3
    generalize vals 4 = q4
    generalize vals 5 = q5
    clear e6 e7 e8 vals
    show wpAnyH _ _ _ _ _ 2 #[true, true, true, true, true, true, true, true, true, false, false] _ _
    obtain ⟨k1, k2⟩ := RowAt.store (P := Try.prog) hX 0 36 34 H7.v (by decide) (by kernel_rfl) (fun j _ => HV.one _ j)
    have hX2 := k2.congr (v' := H7.v) fun i hi => by rw [if_pos ⟨Nat.zero_le _, by omega⟩, Nat.sub_zero]
    have gX : w2.grownBy (W.setCells X 0 (rowOf 34 H7.v).toList) none := grown_setCells X (Or.inl hXb) _ 0 _ hg
    refine wpAnyH_skipQ (i := 9) (by kernel_rfl) rfl rfl rfl (exec_storeQ (.tmp 3) (.tmp 17) _ _ rfl rfl rfl k1) gX ?_
    simp only [List.setIfInBounds_toArray, List.set_cons_succ, List.set_cons_zero]
    refine wpAnyH_yieldD (some 4) (i := 10) (v := .int .i64 0) (by kernel_rfl) rfl rfl rfl (by unfold execOp; go_simp) gX ?_
    simp only [Act.put, List.setIfInBounds_toArray, List.set_cons_succ, List.set_cons_zero]
    refine wpAnyH_done (by kernel_rfl) ?_ _
    generalize W.setCells X 0 (rowOf 34 H7.v).toList = w4 at *
    have HX4 := Lib.hid hX2
    have HG4 := Lib.hid (grown_trans HG2.out gX)
    have HR4 := Lib.hid (HR1.out.grown gX (by simp))
    clear hg hXb hX k1 k2 hX2 gX HR1 HG2 HCO
    go_upto_region 3 with fail
    refine wp_region_held (S := fun W => w4.grownBy W none) (by kernel_rfl) ?_
    change wpAnyH _ _ _ _ _ 19 #[false, false, false, false, false, false, false, false, false, false, false, false, false, false, false, false, false, false, false] _ (World.drew _)
    have gq := grown_drew (grown_refl w4 none)
    generalize w4.drew = w5 at *
    refine wpAnyH_takeD (some 19) (i := 0) (v := (.int .i64 0)) rfl rfl (by kernel_rfl) (by kernel_rfl) (by kernel_rfl) (fun _ _ _ h => h) (Or.inl ⟨rfl, fun _ _ => rfl⟩) gq ?_
    simp only [Act.put, List.setIfInBounds_toArray, List.set_cons_succ, List.set_cons_zero]
    refine wpAnyH_takeD (some 20) (i := 1) (v := (.bool true)) rfl rfl (by kernel_rfl) (by kernel_rfl) (by kernel_rfl) (fun _ _ _ h => h) (Or.inl ⟨rfl, fun _ _ => by go_simp⟩) gq ?_
    simp only [Act.put, List.setIfInBounds_toArray, List.set_cons_succ, List.set_cons_zero]
    refine wpAnyH_takeD (some 21) (i := 2) (v := (.bool true)) rfl rfl (by kernel_rfl) (by kernel_rfl) (by kernel_rfl) (fun _ _ _ h => h) (Or.inl ⟨rfl, fun _ _ => rfl⟩) gq ?_
    simp only [Act.put, List.setIfInBounds_toArray, List.set_cons_succ, List.set_cons_zero]
    refine wpAnyH_takeD (some 22) (i := 3) (v := (.slice a1 40 c1)) rfl rfl (by kernel_rfl) (by kernel_rfl) (by kernel_rfl) (fun _ _ _ h => h) (Or.inl ⟨rfl, fun _ _ => rfl⟩) gq ?_
    simp only [Act.put, List.setIfInBounds_toArray, List.set_cons_succ, List.set_cons_zero]
    refine wpAnyH_takeD (some 23) (i := 4) (v := (.string (strOf 40 HV.zero.bytes))) rfl rfl (by kernel_rfl) (by kernel_rfl) (by kernel_rfl) (fun _ _ _ h => h) (Or.inl ⟨rfl, fun W hW => exec_convQ (.tmp 22) rfl rfl (run_string c1 (HR4.out.grown hW (by simp)) zeroB_lt)⟩) gq ?_
    simp only [Act.put, List.setIfInBounds_toArray, List.set_cons_succ, List.set_cons_zero]
    obtain ⟨cm, hmk, hF⟩ := make_any 40 (by decide) w5
    have hmk2 : (Instr.makeSlice 39 (.int .i64 40) (.int .i64 40)).run Try.prog w5 = .ok (.slice (some ⟨w5.heap.size, 0, none⟩) 40 40) (w5.alloc (.cells cm 5)) := hmk
    have gq6 := grown_trans gq (World.grownBy_alloc w5 (.cells cm 5) none)
    refine wpAnyH_yieldD (some 24) (i := 5) (v := (.slice (some ⟨w5.heap.size, 0, none⟩) 40 40)) (by kernel_rfl) rfl rfl rfl (by unfold execOp; go_simp) gq6 ?_
    simp only [Act.put, List.setIfInBounds_toArray, List.set_cons_succ, List.set_cons_zero]
    have hR6 := hF.rd (by decide) 40 (by decide)
    generalize w5.alloc (.cells cm 5) = w6 at *
    clear hmk hmk2
    have hcv := run_string 40 hR6 (fun _ => by decide)
    rw [← str_zero] at hcv
    refine wpAnyH_yieldD (some 25) (i := 6) (v := (.string (strOf 40 HV.zero.bytes))) (by kernel_rfl) rfl rfl rfl (exec_convQ (.tmp 24) rfl rfl hcv) gq6 ?_
    simp only [Act.put, List.setIfInBounds_toArray, List.set_cons_succ, List.set_cons_zero]
    obtain ⟨sx, hsx⟩ : ∃ s, s = strOf 40 HV.zero.bytes := ⟨_, rfl⟩
    rw [← hsx]
    clear hsx hcv hR6 hF
    refine wpAnyH_takeD (some 26) (i := 7) (v := (.bool true)) rfl rfl (by kernel_rfl) (by kernel_rfl) (by kernel_rfl) (fun _ _ _ h => h) (Or.inl ⟨rfl, fun _ _ => by go_simp⟩) gq6 ?_
    simp only [Act.put, List.setIfInBounds_toArray, List.set_cons_succ, List.set_cons_zero]
    refine wpAnyH_takeD (some 27) (i := 8) (v := (.bool true)) rfl rfl (by kernel_rfl) (by kernel_rfl) (by kernel_rfl) (fun _ _ _ h => h) (Or.inl ⟨rfl, fun _ _ => by go_simp⟩) gq6 ?_
    simp only [Act.put, List.setIfInBounds_toArray, List.set_cons_succ, List.set_cons_zero]
    refine wpAnyH_takeD (some 28) (i := 9) (v := (.bool true)) rfl rfl (by kernel_rfl) (by kernel_rfl) (by kernel_rfl) (fun _ _ _ h => h) (Or.inl ⟨rfl, fun _ _ => rfl⟩) gq6 ?_
    simp only [Act.put, List.setIfInBounds_toArray, List.set_cons_succ, List.set_cons_zero]
    refine wpAnyH_takeD (some 29) (i := 10) (v := (.int .i64 0)) rfl rfl (by kernel_rfl) (by kernel_rfl) (by kernel_rfl) (fun _ _ _ h => h) (Or.inl ⟨rfl, fun _ _ => rfl⟩) gq6 ?_
    simp only [Act.put, List.setIfInBounds_toArray, List.set_cons_succ, List.set_cons_zero]
    refine wpAnyH_takeD (some 30) (i := 11) (v := (.bool true)) rfl rfl (by kernel_rfl) (by kernel_rfl) (by kernel_rfl) (fun _ _ _ h => h) (Or.inl ⟨rfl, fun _ _ => by go_simp⟩) gq6 ?_
    simp only [Act.put, List.setIfInBounds_toArray, List.set_cons_succ, List.set_cons_zero]
    refine wpAnyH_takeD (some 31) (i := 12) (v := (.bool true)) rfl rfl (by kernel_rfl) (by kernel_rfl) (by kernel_rfl) (fun _ _ _ h => h) (Or.inl ⟨rfl, fun _ _ => by go_simp⟩) gq6 ?_
    simp only [Act.put, List.setIfInBounds_toArray, List.set_cons_succ, List.set_cons_zero]
    refine wpAnyH_takeD (some 32) (i := 13) (v := (.bool true)) rfl rfl (by kernel_rfl) (by kernel_rfl) (by kernel_rfl) (fun _ _ _ h => h) (Or.inl ⟨rfl, fun _ _ => rfl⟩) gq6 ?_
    simp only [Act.put, List.setIfInBounds_toArray, List.set_cons_succ, List.set_cons_zero]
    refine wpAnyH_takeD (some 33) (i := 14) (v := (.agg (rowOf 34 H7.v))) rfl rfl (by kernel_rfl) (by kernel_rfl) (by kernel_rfl) (fun _ _ _ h => h) (Or.inl ⟨rfl, fun W hW => exec_loadQ (.tmp 3) _ _ rfl rfl ((HX4.out.grown hW (by simp)).load (P := Try.prog) 0 36 34 H7.v (by decide) (fun j _ => by rw [Nat.zero_add]) (by kernel_rfl) (by kernel_rfl))⟩) gq6 ?_
    simp only [Act.put, List.setIfInBounds_toArray, List.set_cons_succ, List.set_cons_zero]
    refine wpAnyH_takeD (some 34) (i := 15) (v := (.agg (rowOf 34 H7.v))) rfl rfl (by kernel_rfl) (by kernel_rfl) (by kernel_rfl) (fun _ _ _ h => h) (Or.inl ⟨rfl, fun W _ => exec_build7 rfl W⟩) gq6 ?_
    simp only [Act.put, List.setIfInBounds_toArray, List.set_cons_succ, List.set_cons_zero]
    refine wpAnyH_takeD (some 35) (i := 16) (v := (.bool true)) rfl rfl (by kernel_rfl) (by kernel_rfl) (by kernel_rfl) (fun _ _ _ h => h) (Or.inl ⟨rfl, fun W _ => exec_eq7 (.tmp 33) (.tmp 34) rfl rfl rfl W⟩) gq6 ?_
    simp only [Act.put, List.setIfInBounds_toArray, List.set_cons_succ, List.set_cons_zero]
    refine wpAnyH_takeD (some 36) (i := 17) (v := (.bool true)) rfl rfl (by kernel_rfl) (by kernel_rfl) (by kernel_rfl) (fun _ _ _ h => h) (Or.inl ⟨rfl, fun _ _ => by go_simp⟩) gq6 ?_
    simp only [Act.put, List.setIfInBounds_toArray, List.set_cons_succ, List.set_cons_zero]
    refine wpAnyH_takeD (some 0) (i := 18) (v := (.bool true)) rfl rfl (by kernel_rfl) (by kernel_rfl) (by kernel_rfl) (fun _ _ _ h => h) (Or.inl ⟨rfl, fun _ _ => rfl⟩) gq6 ?_
    simp only [Act.put, List.setIfInBounds_toArray, List.set_cons_succ, List.set_cons_zero]
    refine wpAnyH_done (by kernel_rfl) ?_ _
    have HGF := Lib.hid (grown_trans HG4.out gq6)
    clear gq6 gq HX4 HG4 HR4
    go_wp2_with fail
    go_ret
    exact ⟨rfl, HGF.out⟩
end Go.Proofs.Ytmbefbmpjkbnmaa
namespace Go.Proofs.Ytmbefbmpjkbnmaa
open Go.RowKit

set_option maxRecDepth 100000
set_option maxHeartbeats 4000000

/-- n devices that can be read. -/
structure RdD (w : World) (D : Nat) (a : Option Addr) (n : Nat) (fm : Nat → Nat → Nat) : Prop where
  ex : 0 < n → ∃ tb o, a = some ⟨tb, o, none⟩ ∧ tb < D ∧ ∀ i j, i < n → j < 2 → w.cell? ⟨tb, o + (i * 2 + j), none⟩ = some (.int .u8 (fm i j))
theorem RdD.grown {w w' : World} {D n : Nat} {a : Option Addr} {fm : Nat → Nat → Nat} (h : RdD w D a n fm) {row : Option Nat} (hg : w.grownBy w' row) (hr : ∀ k, row = some k → D ≤ k) : RdD w' D a n fm where
  ex := fun hn => by
    obtain ⟨tb, o, h1, h2, h3⟩ := h.ex hn
    exact ⟨tb, o, h1, h2, fun i j hi hj => hg.cell (h3 i j hi hj) (fun e => by have := hr tb e.symm; omega)⟩
theorem RdD.mono {w : World} {D D' n : Nat} {a : Option Addr} {fm : Nat → Nat → Nat} (h : RdD w D a n fm) (hD : D ≤ D') : RdD w D' a n fm := ⟨fun hn => by
  obtain ⟨tb, o, h1, h2, h3⟩ := h.ex hn
  exact ⟨tb, o, h1, by omega, h3⟩⟩
theorem load_devQ {w : World} {B o : Nat} {f : Nat → Nat} (h0 : w.cell? ⟨B, o, none⟩ = some (.int .u8 (f 0))) (h1 : w.cell? ⟨B, o + 1, none⟩ = some (.int .u8 (f 1))) : (Instr.loadAt 26 (.pointer (some ⟨B, o, none⟩))).run Try.prog w = .ok (devR f) w := by
  obtain ⟨d, e1, k1⟩ := under_row (P := Try.prog) (T := 26) (by kernel_rfl)
  exact run_loadAt_mid (P := Try.prog) w B o 26 [.int .u8 (f 0), .int .u8 (f 1)] d (fun j x hx => by
    match j, hx with
    | 0, hx => cases hx; exact h0
    | 1, hx => cases hx; exact h1) e1 (by cases d <;> first | rfl | exact k1) (by kernel_rfl)
/-- How two bytes are to one another; two devices. -/
def cmpV (a b : Nat) : Int := if a < b then -1 else if b < a then 1 else 0
def cmpD (f g : Nat → Nat) : Int := if cmpV (f 0) (g 0) = 0 then cmpV (f 1) (g 1) else cmpV (f 0) (g 0)
theorem isNaN_any (a : Nat) (w : World) : Calls Try.prog 145 #[.int .u8 a] w fun e w' => e = .returned (.bool false) ∧ w = w' := by
  go_enter Try.func145, Try.ntmps145
  go_wp2_with fail
  go_ret
  exact ⟨by first | rfl | simp, rfl⟩
theorem cmpCompare_any (a b : Nat) (w : World) : Calls Try.prog 142 #[.int .u8 a, .int .u8 b] w fun e w' => e = .returned (.int .i64 (cmpV a b)) ∧ w = w' := by
  have HA := Lib.hid (isNaN_any a w)
  have HB := Lib.hid (isNaN_any b w)
  obtain ⟨c, hc⟩ : ∃ c, c = cmpV a b := ⟨_, rfl⟩
  rw [← hc]
  have HC : Hid ((a < b → c = -1) ∧ (¬ a < b → b < a → c = 1) ∧ (¬ a < b → ¬ b < a → c = 0)) := Lib.hid (by
    rw [hc]
    unfold cmpV
    refine ⟨fun h => if_pos h, fun h1 h2 => ?_, fun h1 h2 => ?_⟩
    · rw [if_neg h1, if_pos h2]
    · rw [if_neg h1, if_neg h2])
  clear hc
  go_enter Try.func142, Try.ntmps142
  go_wp2_with fail
  go_at_call 145
  refine HA.out.mono ?_
  rintro e w1 ⟨rfl, rfl⟩
  go_wp2_with fail
  go_at_call 145
  refine HB.out.mono ?_
  rintro e w1 ⟨rfl, rfl⟩
  by_cases h1 : a < b
  · have j1 : (a : Int) < (b : Int) := by omega
    have HE := Lib.hid (HC.out.1 h1)
    clear h1 HC
    go_wp2_with fail
    go_ret
    exact ⟨by rw [HE.out]; rfl, rfl⟩
  · have j1 : ¬ (a : Int) < (b : Int) := by omega
    by_cases h2 : b < a
    · have j2 : (b : Int) < (a : Int) := by omega
      have HE := Lib.hid (HC.out.2.1 h1 h2)
      clear h1 h2 HC
      go_wp2_with fail
      go_ret
      exact ⟨by rw [HE.out]; rfl, rfl⟩
    · have j2 : ¬ (b : Int) < (a : Int) := by omega
      have HE := Lib.hid (HC.out.2.2 h1 h2)
      clear h1 h2 HC
      go_wp2_with fail
      go_ret
      exact ⟨by rw [HE.out]; rfl, rfl⟩
theorem cmpOr_any (x y : Int) (tb c : Nat) (w : World) (h0 : w.cell? ⟨tb, 0, none⟩ = some (.int .i64 x)) (h1 : w.cell? ⟨tb, 1, none⟩ = some (.int .i64 y)) : Calls Try.prog 141 #[.slice (some ⟨tb, 0, none⟩) 2 c] w fun e w' => e = .returned (.int .i64 (if x = 0 then y else x)) ∧ w = w' := by
  by_cases hx : x = 0
  · rw [if_pos hx]
    subst hx
    by_cases hy : y = 0
    · subst hy
      go_enter Try.func141, Try.ntmps141
      go_wp2_with fail
      go_loopw [8] (fun u8 wr => w = wr ∧ (u8 = .int .i64 0 ∨ u8 = .int .i64 1 ∨ u8 = .int .i64 2)) (fun u8 _ => 3 - (intOf u8).toNat)
      case atStart => exact ⟨rfl, Or.inl rfl⟩
      case round =>
        obtain ⟨rfl, rfl | rfl | rfl⟩ := hrel
        · go_wp2_with fail
          go_roundw
          case rel => exact ⟨by trivial, Or.inr (Or.inl rfl)⟩
          case measure => decide
        · go_wp2_with fail
          go_roundw
          case rel => exact ⟨by trivial, Or.inr (Or.inr rfl)⟩
          case measure => decide
        · go_wp2_with fail
          go_ret
          exact ⟨rfl, rfl⟩
    · go_enter Try.func141, Try.ntmps141
      go_wp2_with fail
      go_loopw [8] (fun u8 wr => w = wr ∧ (u8 = .int .i64 0 ∨ u8 = .int .i64 1)) (fun u8 _ => 3 - (intOf u8).toNat)
      case atStart => exact ⟨rfl, Or.inl rfl⟩
      case round =>
        obtain ⟨rfl, rfl | rfl⟩ := hrel
        · go_wp2_with fail
          go_roundw
          case rel => exact ⟨by trivial, Or.inr rfl⟩
          case measure => decide
        · go_wp2_with fail
          go_ret
          exact ⟨rfl, rfl⟩
  · rw [if_neg hx]
    go_enter Try.func141, Try.ntmps141
    go_wp2_with fail
    go_loopw [8] (fun u8 wr => w = wr ∧ u8 = .int .i64 0) (fun u8 _ => 3 - (intOf u8).toNat)
    case atStart => exact ⟨rfl, rfl⟩
    case round =>
      obtain ⟨rfl, rfl⟩ := hrel
      go_wp2_with fail
      go_ret
      exact ⟨rfl, rfl⟩
theorem cmpCompare_enters : ∀ args w, (callFunc 142 args).run Try.prog w = .ok (.enter 142 args) w := enters_of Try.func142 (by kernel_rfl) rfl
theorem cmpOr_enters : ∀ args w, (callFunc 141 args).run Try.prog w = .ok (.enter 141 args) w := enters_of Try.func141 (by kernel_rfl) rfl
theorem load_u8D {w : World} {B o v : Nat} (h : w.cell? ⟨B, o, none⟩ = some (.int .u8 v)) : (Instr.loadAt 5 (.pointer (some ⟨B, o, none⟩))).run Try.prog w = .ok (.int .u8 v) w := by go_simp
theorem compare_any (f g : Nat → Nat) (w : World) : Calls Try.prog 128 #[devR f, devR g] w fun e w' => e = .returned (.int .i64 (cmpD f g)) ∧ w.grownBy w' none := by
  have ga := World.grownBy_alloc w (.cells (rowOf 2 (fun j => .int .u8 (f j))) 26) none
  have hz := World.size_alloc w (.cells (rowOf 2 (fun j => .int .u8 (f j))) 26)
  have hA := RowAt.new w 26 2 (fun j => .int .u8 (f j)) _ rfl
  have gb := World.grownBy_alloc (w.alloc (.cells (rowOf 2 (fun j => .int .u8 (f j))) 26)) (.cells (rowOf 2 (fun j => .int .u8 (g j))) 26) none
  have hB := RowAt.new (w.alloc (.cells (rowOf 2 (fun j => .int .u8 (f j))) 26)) 26 2 (fun j => .int .u8 (g j)) _ rfl
  rw [hz] at hB
  have hA := hA.grown gb (by simp)
  have hG := grown_trans ga gb
  clear ga gb hz
  go_enter Try.func128, Try.ntmps128
  go_upto_region 1 with fail
  obtain ⟨B, hBB⟩ : ∃ B, B = w.heap.size := ⟨_, rfl⟩
  rw [← hBB] at hA hB ⊢
  generalize (w.alloc (.cells (rowOf 2 (fun j => .int .u8 (f j))) 26)).alloc (.cells (rowOf 2 (fun j => .int .u8 (g j))) 26) = w1 at *
  have HA := Lib.hid hA
  have HBR := Lib.hid hB
  have HG := Lib.hid hG
  clear hBB hA hB hG
  refine wp_region_held (S := fun W => w1.grownBy W none) (by kernel_rfl) ?_
  change wpAnyH _ _ _ _ _ 13 #[false, false, false, false, false, false, false, false, false, false, false, false, false] _ (World.drew _)
  have gq := grown_drew (grown_refl w1 none)
  generalize w1.drew = w2 at *
  refine wpAnyH_takeD (some 5) (i := 0) (v := (.pointer (some ⟨B, 0, none⟩))) rfl rfl (by kernel_rfl) (by kernel_rfl) (by kernel_rfl) (fun _ _ _ h => h) (Or.inl ⟨rfl, fun _ _ => by go_simp⟩) gq ?_
  simp only [Act.put, List.setIfInBounds_toArray, List.set_cons_succ, List.set_cons_zero]
  refine wpAnyH_takeD (some 6) (i := 1) (v := (.int .u8 (f 0))) rfl rfl (by kernel_rfl) (by kernel_rfl) (by kernel_rfl) (fun _ _ _ h => h) (Or.inl ⟨rfl, fun W hW => exec_loadQ (.tmp 5) _ _ rfl rfl (load_u8D ((HA.out.grown hW (by simp)).cell 0 (by decide)))⟩) gq ?_
  simp only [Act.put, List.setIfInBounds_toArray, List.set_cons_succ, List.set_cons_zero]
  refine wpAnyH_takeD (some 7) (i := 2) (v := (.pointer (some ⟨B + 1, 0, none⟩))) rfl rfl (by kernel_rfl) (by kernel_rfl) (by kernel_rfl) (fun _ _ _ h => h) (Or.inl ⟨rfl, fun _ _ => by go_simp⟩) gq ?_
  simp only [Act.put, List.setIfInBounds_toArray, List.set_cons_succ, List.set_cons_zero]
  refine wpAnyH_takeD (some 8) (i := 3) (v := (.int .u8 (g 0))) rfl rfl (by kernel_rfl) (by kernel_rfl) (by kernel_rfl) (fun _ _ _ h => h) (Or.inl ⟨rfl, fun W hW => exec_loadQ (.tmp 7) _ _ rfl rfl (load_u8D ((HBR.out.grown hW (by simp)).cell 0 (by decide)))⟩) gq ?_
  simp only [Act.put, List.setIfInBounds_toArray, List.set_cons_succ, List.set_cons_zero]
  refine wpAnyH_takeD (some 10) (i := 5) (v := (.pointer (some ⟨B, 1, none⟩))) rfl rfl (by kernel_rfl) (by kernel_rfl) (by kernel_rfl) (fun _ _ _ h => h) (Or.inl ⟨rfl, fun _ _ => by go_simp⟩) gq ?_
  simp only [Act.put, List.setIfInBounds_toArray, List.set_cons_succ, List.set_cons_zero]
  refine wpAnyH_takeD (some 11) (i := 6) (v := (.int .u8 (f 1))) rfl rfl (by kernel_rfl) (by kernel_rfl) (by kernel_rfl) (fun _ _ _ h => h) (Or.inl ⟨rfl, fun W hW => exec_loadQ (.tmp 10) _ _ rfl rfl (load_u8D ((HA.out.grown hW (by simp)).cell 1 (by decide)))⟩) gq ?_
  simp only [Act.put, List.setIfInBounds_toArray, List.set_cons_succ, List.set_cons_zero]
  refine wpAnyH_takeD (some 12) (i := 7) (v := (.pointer (some ⟨B + 1, 1, none⟩))) rfl rfl (by kernel_rfl) (by kernel_rfl) (by kernel_rfl) (fun _ _ _ h => h) (Or.inl ⟨rfl, fun _ _ => by go_simp⟩) gq ?_
  simp only [Act.put, List.setIfInBounds_toArray, List.set_cons_succ, List.set_cons_zero]
  refine wpAnyH_takeD (some 13) (i := 8) (v := (.int .u8 (g 1))) rfl rfl (by kernel_rfl) (by kernel_rfl) (by kernel_rfl) (fun _ _ _ h => h) (Or.inl ⟨rfl, fun W hW => exec_loadQ (.tmp 12) _ _ rfl rfl (load_u8D ((HBR.out.grown hW (by simp)).cell 1 (by decide)))⟩) gq ?_
  simp only [Act.put, List.setIfInBounds_toArray, List.set_cons_succ, List.set_cons_zero]
  refine wpAnyH_callD (some 9) (i := 4) 142 #[.int .u8 (f 0 : Nat), .int .u8 (g 0 : Nat)] (R := fun v W => v = .int .i64 (cmpV (f 0) (g 0)) ∧ w2 = W) (by kernel_rfl) rfl rfl rfl (exec_fn2 _ _ _ _ _ rfl rfl rfl) cmpCompare_enters ((cmpCompare_any (f 0) (g 0) w2).mono fun e W h => ⟨_, h.1, rfl, h.2⟩) ?_
  rintro v w3 ⟨rfl, rfl⟩
  refine ⟨gq, ?_⟩
  simp only [Act.put, List.setIfInBounds_toArray, List.set_cons_succ, List.set_cons_zero]
  refine wpAnyH_callD (some 14) (i := 9) 142 #[.int .u8 (f 1 : Nat), .int .u8 (g 1 : Nat)] (R := fun v W => v = .int .i64 (cmpV (f 1) (g 1)) ∧ w2 = W) (by kernel_rfl) rfl rfl rfl (exec_fn2 _ _ _ _ _ rfl rfl rfl) cmpCompare_enters ((cmpCompare_any (f 1) (g 1) w2).mono fun e W h => ⟨_, h.1, rfl, h.2⟩) ?_
  rintro v w3 ⟨rfl, rfl⟩
  refine ⟨gq, ?_⟩
  simp only [Act.put, List.setIfInBounds_toArray, List.set_cons_succ, List.set_cons_zero]
  obtain ⟨c0, hc0⟩ : ∃ c, c = cmpV (f 0) (g 0) := ⟨_, rfl⟩
  obtain ⟨c1, hc1⟩ : ∃ c, c = cmpV (f 1) (g 1) := ⟨_, rfl⟩
  rw [← hc0, ← hc1]
  have HCD : Hid (cmpD f g = if c0 = 0 then c1 else c0) := Lib.hid (by rw [hc0, hc1]; rfl)
  clear hc0 hc1
  have gx := grown_trans gq (World.grownBy_alloc w2 (.cells #[.int .i64 c0, .int .i64 c1] 3) none)
  have k0 : (w2.alloc (.cells #[.int .i64 c0, .int .i64 c1] 3)).cell? ⟨w2.heap.size, 0, none⟩ = some (.int .i64 c0) := cell_of_row _ _ _ _ _ _ (heap_alloc_new w2 _)
  have k1 : (w2.alloc (.cells #[.int .i64 c0, .int .i64 c1] 3)).cell? ⟨w2.heap.size, 1, none⟩ = some (.int .i64 c1) := cell_of_row _ _ _ _ _ _ (heap_alloc_new w2 _)
  refine wpAnyH_yieldD (some 15) (i := 10) (v := (.slice (some ⟨w2.heap.size, 0, none⟩) 2 2)) (by kernel_rfl) rfl rfl rfl (by go_simp) gx ?_
  simp only [Act.put, List.setIfInBounds_toArray, List.set_cons_succ, List.set_cons_zero]
  refine wpAnyH_callD (some 16) (i := 11) 141 #[.slice (some ⟨w2.heap.size, 0, none⟩) 2 2] (R := fun v W => v = .int .i64 (cmpD f g) ∧ (w2.alloc (.cells #[.int .i64 c0, .int .i64 c1] 3)) = W) (by kernel_rfl) rfl rfl rfl (exec_fn1 _ _ _ rfl rfl) cmpOr_enters ((cmpOr_any c0 c1 w2.heap.size 2 _ k0 k1).mono fun e W h => ⟨_, h.1, by rw [HCD.out], h.2⟩) ?_
  rintro v w3 ⟨rfl, rfl⟩
  refine ⟨gx, ?_⟩
  simp only [Act.put, List.setIfInBounds_toArray, List.set_cons_succ, List.set_cons_zero]
  refine wpAnyH_takeD (some 4) (i := 12) (v := (.int .i64 (cmpD f g))) rfl rfl (by kernel_rfl) (by kernel_rfl) (by kernel_rfl) (fun _ _ _ h => h) (Or.inl ⟨rfl, fun _ _ => rfl⟩) gx ?_
  simp only [Act.put, List.setIfInBounds_toArray, List.set_cons_succ, List.set_cons_zero]
  refine wpAnyH_done (by kernel_rfl) ?_ _
  have HGF := Lib.hid (grown_trans HG.out gx)
  clear gx k0 k1 gq
  go_wp2_with fail
  go_ret
  exact ⟨rfl, HGF.out⟩
end Go.Proofs.Ytmbefbmpjkbnmaa
namespace Go.Proofs.Ytmbefbmpjkbnmaa
open Go.RowKit

set_option maxRecDepth 100000
set_option maxHeartbeats 4000000

/-- May member i be there, behind the one ahead of it? -/
def memOk (fm : Nat → Nat → Nat) (i : Nat) : Bool := devMay (fm i) && (decide (i = 0) || decide (cmpD (fm (i - 1)) (fm i) < 0))
def memMay (n : Nat) (fm : Nat → Nat → Nat) : Bool := decide (n ≤ 32) && (List.range n).all (memOk fm)
theorem memMay_no {n i : Nat} {fm : Nat → Nat → Nat} (hi : i < n) (h : memOk fm i = false) : memMay n fm = false := by
  unfold memMay
  have : (List.range n).all (memOk fm) = false := by
    cases e : (List.range n).all (memOk fm) with
    | false => rfl
    | true =>
      have := List.all_eq_true.1 e i (List.mem_range.2 hi)
      rw [h] at this
      cases this
  rw [this, Bool.and_false]
theorem memMay_yes {n : Nat} {fm : Nat → Nat → Nat} (hn : n ≤ 32) (h : ∀ i, i < n → memOk fm i = true) : memMay n fm = true := by
  unfold memMay
  rw [decide_eq_true hn, Bool.true_and]
  exact List.all_eq_true.2 fun i hi => h i (List.mem_range.1 hi)
theorem mayDevice_enters : ∀ args w, (callFunc 62 args).run Try.prog w = .ok (.enter 62 args) w := enters_of Try.func62 (by kernel_rfl) rfl
theorem compare_enters : ∀ args w, (callFunc 128 args).run Try.prog w = .ok (.enter 128 args) w := enters_of Try.func128 (by kernel_rfl) rfl
theorem mayMembers_any (D n c : Nat) (a : Option Addr) (fm : Nat → Nat → Nat) (w : World) (hR : RdD w D a n fm) (hn : n ≤ 1048576) : Calls Try.prog 79 #[.slice a n c] w fun e w' => e = .returned (.bool (memMay n fm)) ∧ w.grownBy w' none := by
  by_cases h32 : n ≤ 32
  case neg =>
    have j0 : (32 : Int) < (n : Int) := by omega
    have HM : Hid (memMay n fm = false) := Lib.hid (by unfold memMay; rw [decide_eq_false h32, Bool.false_and])
    clear h32 hn hR
    go_enter Try.func79, Try.ntmps79
    go_wp2_with fail
    go_ret
    exact ⟨by rw [HM.out]; rfl, grown_refl _ _⟩
  case pos =>
  have j0 : ¬ (32 : Int) < (n : Int) := by omega
  have HR := Lib.hid hR
  have HN := Lib.hid h32
  clear h32 hn hR
  go_enter Try.func79, Try.ntmps79
  go_wp2_with fail
  go_loopw [10] (fun u10 wr => ∃ i : Nat, i ≤ n ∧ u10 = .int .i64 i ∧ (∀ k, k < i → memOk fm k = true) ∧ w.grownBy wr none) (fun u10 _ => n - (intOf u10).toNat)
  case atStart => exact ⟨0, Nat.zero_le _, rfl, fun k hk => absurd hk (by omega), grown_refl _ _⟩
  case round =>
    obtain ⟨i, hi, rfl, hok, hg⟩ := hrel
    by_cases hlt : i < n
    case neg =>
      obtain rfl : i = n := by omega
      have HM := Lib.hid (memMay_yes HN.out hok)
      have HG := Lib.hid hg
      clear hok hg hi hlt
      go_wp2_with fail
      go_ret
      exact ⟨by rw [HM.out]; rfl, HG.out⟩
    case pos =>
    have j1 : (i : Int) < (n : Int) := by omega
    have hRr := HR.out.grown hg (fun k e => by cases e)
    obtain ⟨tb, o, rfl, htb, hcl⟩ := hRr.ex (by omega)
    have h0 : wr.cell? ⟨tb, o + i * 2, none⟩ = some (.int .u8 (fm i 0)) := by simpa using hcl i 0 hlt (by decide)
    have h1 : wr.cell? ⟨tb, o + i * 2 + 1, none⟩ = some (.int .u8 (fm i 1)) := by simpa [Nat.add_assoc] using hcl i 1 hlt (by decide)
    have HLD := Lib.hid (load_devQ h0 h1)
    have gx := World.grownBy_alloc wr (.cells #[.int .u8 0, .int .u8 0] 26) none
    have hX := RowAt.new wr 26 2 (fun _ => .int .u8 (0 : Nat)) #[.int .u8 0, .int .u8 0] rfl
    obtain ⟨k1, k2⟩ := RowAt.store (P := Try.prog) hX 0 26 2 (fun j => .int .u8 (fm i j)) (by decide) (by kernel_rfl) (fun _ _ => rfl)
    have hX2 := k2.congr (v' := fun j => .int .u8 (fm i j)) fun k hk => by rw [if_pos ⟨Nat.zero_le _, by omega⟩, Nat.sub_zero]
    have gX := grown_setCells (w0 := wr) wr.heap.size (Or.inl (Nat.le_refl _)) (rowOf 2 (fun j => .int .u8 (fm i j))).toList 0 _ gx
    have HS := Lib.hid k1
    have HX := Lib.hid hX2
    have HGX := Lib.hid gX
    have HG := Lib.hid hg
    have HOK := Lib.hid hok
    have HLT := Lib.hid hlt
    clear h0 h1 hcl htb hX k1 k2 hX2 gX gx hg hok hRr hi hlt
    go_upto_region 6 with (first | ((with_reducible refine wpList_here ?_); refine wpList_ld (p := .pointer (some ⟨tb, o + i * 2, none⟩)) 13 ?_ ?_ ?_ HLD.out ?_; (· rfl); go_simp; (· kernel_rfl)) | ((with_reducible refine wpList_here ?_); refine wpList_st (T := 26) (p := .pointer (some ⟨wr.heap.size, 0, none⟩)) (v := .agg (rowOf 2 (fun j => .int .u8 (fm i j)))) (.tmp 4) (.tmp 14) ?_ ?_ ?_ ?_ ?_ HS.out ?_; (· rfl); (· rfl); go_simp; (· kernel_rfl); (· kernel_rfl)))
    obtain ⟨X, hXX⟩ : ∃ X, X = wr.heap.size := ⟨_, rfl⟩
    obtain ⟨w5, hw5⟩ : ∃ W, W = (wr.alloc (.cells #[.int .u8 0, .int .u8 0] 26)).setCells wr.heap.size 0 (rowOf 2 (fun j => .int .u8 (fm i j))).toList := ⟨_, rfl⟩
    have hX := HX.out
    have hgx := HGX.out
    rw [← hw5] at hX hgx ⊢
    rw [← hXX] at hX ⊢
    have HG5 := Lib.hid (grown_trans HG.out hgx)
    have HX5 := Lib.hid hX
    clear HX HGX HS HLD hw5 hXX hX hgx HG
    refine wp_region_held (S := fun W => w5.grownBy W none) (by kernel_rfl) ?_
    change wpAnyH _ _ _ _ _ 17 #[false, false, false, false, false, false, false, false, false, false, false, false, false, false, false, false, false] _ (World.drew _)
    have gq := grown_drew (grown_refl w5 none)
    generalize w5.drew = w6 at *
    refine wpAnyH_takeD (some 15) (i := 0) (v := (devR (fm i))) rfl rfl (by kernel_rfl) (by kernel_rfl) (by kernel_rfl) (fun _ _ _ h => h) (Or.inl ⟨rfl, fun W hW => exec_loadQ (.tmp 4) _ _ rfl rfl ((HX5.out.grown hW (by simp)).load (P := Try.prog) 0 26 2 _ (by decide) (fun j _ => by rw [Nat.zero_add]) (by kernel_rfl) (by kernel_rfl))⟩) gq ?_
    simp only [Act.put, List.setIfInBounds_toArray, List.set_cons_succ, List.set_cons_zero]
    refine wpAnyH_callD (some 16) (i := 1) 62 #[devR (fm i)] (R := fun v W => v = .bool (devMay (fm i)) ∧ w6.grownBy W none) (by kernel_rfl) rfl rfl rfl (exec_fn1 _ _ _ rfl rfl) mayDevice_enters ((mayDevice_any (fm i) w6).mono fun e W h => ⟨_, h.1, rfl, h.2⟩) ?_
    rintro v w7 ⟨rfl, g7⟩
    have gq7 := grown_trans gq g7
    refine ⟨gq7, ?_⟩
    simp only [Act.put, List.setIfInBounds_toArray, List.set_cons_succ, List.set_cons_zero]
    obtain ⟨m, hm⟩ : ∃ m, m = devMay (fm i) := ⟨_, rfl⟩
    rw [← hm]
    have HM := Lib.hid hm
    clear hm gq g7
    refine wpAnyH_takeD (some 17) (i := 2) (v := (.bool (!m))) rfl rfl (by kernel_rfl) (by kernel_rfl) (by kernel_rfl) (fun _ _ _ h => h) (Or.inl ⟨rfl, fun _ _ => by go_simp⟩) gq7 ?_
    simp only [Act.put, List.setIfInBounds_toArray, List.set_cons_succ, List.set_cons_zero]
    refine wpAnyH_takeD (some 18) (i := 3) (v := (.bool (!m))) rfl rfl (by kernel_rfl) (by kernel_rfl) (by kernel_rfl) (fun _ _ _ h => h) (Or.inl ⟨rfl, fun _ _ => rfl⟩) gq7 ?_
    simp only [Act.put, List.setIfInBounds_toArray, List.set_cons_succ, List.set_cons_zero]
    cases m with
    | false =>
      refine wpAnyH_takeD (some 19) (i := 4) (v := undef) rfl rfl (by kernel_rfl) (by kernel_rfl) (by kernel_rfl) (fun _ _ _ h => h) (Or.inr ⟨by kernel_rfl, rfl⟩) gq7 ?_
      simp only [Act.put, List.setIfInBounds_toArray, List.set_cons_succ, List.set_cons_zero]
      refine wpAnyH_takeD (some 20) (i := 5) (v := undef) rfl rfl (by kernel_rfl) (by kernel_rfl) (by kernel_rfl) (fun _ _ _ h => h) (Or.inr ⟨by kernel_rfl, rfl⟩) gq7 ?_
      simp only [Act.put, List.setIfInBounds_toArray, List.set_cons_succ, List.set_cons_zero]
      refine wpAnyH_takeD (some 21) (i := 6) (v := undef) rfl rfl (by kernel_rfl) (by kernel_rfl) (by kernel_rfl) (fun _ _ _ h => h) (Or.inr ⟨by kernel_rfl, rfl⟩) gq7 ?_
      simp only [Act.put, List.setIfInBounds_toArray, List.set_cons_succ, List.set_cons_zero]
      refine wpAnyH_takeD (some 22) (i := 7) (v := undef) rfl rfl (by kernel_rfl) (by kernel_rfl) (by kernel_rfl) (fun _ _ _ h => h) (Or.inr ⟨by kernel_rfl, rfl⟩) gq7 ?_
      simp only [Act.put, List.setIfInBounds_toArray, List.set_cons_succ, List.set_cons_zero]
      refine wpAnyH_takeD (some 23) (i := 8) (v := undef) rfl rfl (by kernel_rfl) (by kernel_rfl) (by kernel_rfl) (fun _ _ _ h => h) (Or.inr ⟨by kernel_rfl, rfl⟩) gq7 ?_
      simp only [Act.put, List.setIfInBounds_toArray, List.set_cons_succ, List.set_cons_zero]
      refine wpAnyH_takeD (some 24) (i := 9) (v := undef) rfl rfl (by kernel_rfl) (by kernel_rfl) (by kernel_rfl) (fun _ _ _ h => h) (Or.inr ⟨by kernel_rfl, rfl⟩) gq7 ?_
      simp only [Act.put, List.setIfInBounds_toArray, List.set_cons_succ, List.set_cons_zero]
      refine wpAnyH_takeD (some 25) (i := 10) (v := undef) rfl rfl (by kernel_rfl) (by kernel_rfl) (by kernel_rfl) (fun _ _ _ h => h) (Or.inr ⟨by kernel_rfl, rfl⟩) gq7 ?_
      simp only [Act.put, List.setIfInBounds_toArray, List.set_cons_succ, List.set_cons_zero]
      refine wpAnyH_takeD (some 26) (i := 11) (v := undef) rfl rfl (by kernel_rfl) (by kernel_rfl) (by kernel_rfl) (fun _ _ _ h => h) (Or.inr ⟨by kernel_rfl, rfl⟩) gq7 ?_
      simp only [Act.put, List.setIfInBounds_toArray, List.set_cons_succ, List.set_cons_zero]
      refine wpAnyH_takeD (some 27) (i := 12) (v := undef) rfl rfl (by kernel_rfl) (by kernel_rfl) (by kernel_rfl) (fun _ _ _ h => h) (Or.inr ⟨by kernel_rfl, rfl⟩) gq7 ?_
      simp only [Act.put, List.setIfInBounds_toArray, List.set_cons_succ, List.set_cons_zero]
      refine wpAnyH_takeD (some 28) (i := 13) (v := undef) rfl rfl (by kernel_rfl) (by kernel_rfl) (by kernel_rfl) (fun _ _ _ h => h) (Or.inr ⟨by kernel_rfl, rfl⟩) gq7 ?_
      simp only [Act.put, List.setIfInBounds_toArray, List.set_cons_succ, List.set_cons_zero]
      refine wpAnyH_takeD (some 29) (i := 14) (v := undef) rfl rfl (by kernel_rfl) (by kernel_rfl) (by kernel_rfl) (fun _ _ _ h => h) (Or.inr ⟨by kernel_rfl, rfl⟩) gq7 ?_
      simp only [Act.put, List.setIfInBounds_toArray, List.set_cons_succ, List.set_cons_zero]
      refine wpAnyH_takeD (some 30) (i := 15) (v := undef) rfl rfl (by kernel_rfl) (by kernel_rfl) (by kernel_rfl) (fun _ _ _ h => h) (Or.inr ⟨by kernel_rfl, rfl⟩) gq7 ?_
      simp only [Act.put, List.setIfInBounds_toArray, List.set_cons_succ, List.set_cons_zero]
      refine wpAnyH_takeD (some 31) (i := 16) (v := (.bool true)) rfl rfl (by kernel_rfl) (by kernel_rfl) (by kernel_rfl) (fun _ _ _ h => h) (Or.inl ⟨rfl, fun _ _ => by go_simp⟩) gq7 ?_
      simp only [Act.put, List.setIfInBounds_toArray, List.set_cons_succ, List.set_cons_zero]
      refine wpAnyH_done (by kernel_rfl) ?_ _
      have HE := Lib.hid (grown_trans HG5.out gq7)
      have HMM : Hid (memMay n fm = false) := Lib.hid (memMay_no HLT.out (by unfold memOk; rw [← HM.out]; rfl))
      clear gq7
      go_wp2_with fail
      go_ret
      exact ⟨by rw [HMM.out]; rfl, HE.out⟩
    | true =>
      by_cases hi0 : i = 0
      · subst hi0
        refine wpAnyH_takeD (some 19) (i := 4) (v := (.int .i64 (0 : Nat))) rfl rfl (by kernel_rfl) (by kernel_rfl) (by kernel_rfl) (fun _ _ _ h => h) (Or.inl ⟨rfl, fun _ _ => rfl⟩) gq7 ?_
        simp only [Act.put, List.setIfInBounds_toArray, List.set_cons_succ, List.set_cons_zero]
        refine wpAnyH_takeD (some 20) (i := 5) (v := (.bool false)) rfl rfl (by kernel_rfl) (by kernel_rfl) (by kernel_rfl) (fun _ _ _ h => h) (Or.inl ⟨rfl, fun _ _ => by go_simp⟩) gq7 ?_
        simp only [Act.put, List.setIfInBounds_toArray, List.set_cons_succ, List.set_cons_zero]
        refine wpAnyH_takeD (some 21) (i := 6) (v := (.bool false)) rfl rfl (by kernel_rfl) (by kernel_rfl) (by kernel_rfl) (fun _ _ _ h => h) (Or.inl ⟨rfl, fun _ _ => rfl⟩) gq7 ?_
        simp only [Act.put, List.setIfInBounds_toArray, List.set_cons_succ, List.set_cons_zero]
        refine wpAnyH_takeD (some 22) (i := 7) (v := undef) rfl rfl (by kernel_rfl) (by kernel_rfl) (by kernel_rfl) (fun _ _ _ h => h) (Or.inr ⟨by kernel_rfl, rfl⟩) gq7 ?_
        simp only [Act.put, List.setIfInBounds_toArray, List.set_cons_succ, List.set_cons_zero]
        refine wpAnyH_takeD (some 23) (i := 8) (v := undef) rfl rfl (by kernel_rfl) (by kernel_rfl) (by kernel_rfl) (fun _ _ _ h => h) (Or.inr ⟨by kernel_rfl, rfl⟩) gq7 ?_
        simp only [Act.put, List.setIfInBounds_toArray, List.set_cons_succ, List.set_cons_zero]
        refine wpAnyH_takeD (some 24) (i := 9) (v := undef) rfl rfl (by kernel_rfl) (by kernel_rfl) (by kernel_rfl) (fun _ _ _ h => h) (Or.inr ⟨by kernel_rfl, rfl⟩) gq7 ?_
        simp only [Act.put, List.setIfInBounds_toArray, List.set_cons_succ, List.set_cons_zero]
        refine wpAnyH_takeD (some 25) (i := 10) (v := undef) rfl rfl (by kernel_rfl) (by kernel_rfl) (by kernel_rfl) (fun _ _ _ h => h) (Or.inr ⟨by kernel_rfl, rfl⟩) gq7 ?_
        simp only [Act.put, List.setIfInBounds_toArray, List.set_cons_succ, List.set_cons_zero]
        refine wpAnyH_takeD (some 26) (i := 11) (v := undef) rfl rfl (by kernel_rfl) (by kernel_rfl) (by kernel_rfl) (fun _ _ _ h => h) (Or.inr ⟨by kernel_rfl, rfl⟩) gq7 ?_
        simp only [Act.put, List.setIfInBounds_toArray, List.set_cons_succ, List.set_cons_zero]
        refine wpAnyH_takeD (some 27) (i := 12) (v := undef) rfl rfl (by kernel_rfl) (by kernel_rfl) (by kernel_rfl) (fun _ _ _ h => h) (Or.inr ⟨by kernel_rfl, rfl⟩) gq7 ?_
        simp only [Act.put, List.setIfInBounds_toArray, List.set_cons_succ, List.set_cons_zero]
        refine wpAnyH_takeD (some 28) (i := 13) (v := undef) rfl rfl (by kernel_rfl) (by kernel_rfl) (by kernel_rfl) (fun _ _ _ h => h) (Or.inr ⟨by kernel_rfl, rfl⟩) gq7 ?_
        simp only [Act.put, List.setIfInBounds_toArray, List.set_cons_succ, List.set_cons_zero]
        refine wpAnyH_takeD (some 29) (i := 14) (v := undef) rfl rfl (by kernel_rfl) (by kernel_rfl) (by kernel_rfl) (fun _ _ _ h => h) (Or.inr ⟨by kernel_rfl, rfl⟩) gq7 ?_
        simp only [Act.put, List.setIfInBounds_toArray, List.set_cons_succ, List.set_cons_zero]
        refine wpAnyH_takeD (some 30) (i := 15) (v := (.bool false)) rfl rfl (by kernel_rfl) (by kernel_rfl) (by kernel_rfl) (fun _ _ _ h => h) (Or.inl ⟨rfl, fun _ _ => by go_simp⟩) gq7 ?_
        simp only [Act.put, List.setIfInBounds_toArray, List.set_cons_succ, List.set_cons_zero]
        refine wpAnyH_takeD (some 31) (i := 16) (v := (.bool false)) rfl rfl (by kernel_rfl) (by kernel_rfl) (by kernel_rfl) (fun _ _ _ h => h) (Or.inl ⟨rfl, fun _ _ => by go_simp⟩) gq7 ?_
        simp only [Act.put, List.setIfInBounds_toArray, List.set_cons_succ, List.set_cons_zero]
        refine wpAnyH_done (by kernel_rfl) ?_ _
        have HE := Lib.hid (grown_trans HG5.out gq7)
        have HOK2 : Hid (∀ k, k < 0 + 1 → memOk fm k = true) := Lib.hid (fun k hk => by
          by_cases e : k = 0
          · subst e; exact by unfold memOk; rw [← HM.out]; rfl
          · exact HOK.out k (by omega))
        have HW := Lib.hid (show wrap64 (((0 : Nat) : Int) + 1) = ((0 + 1 : Nat) : Int) by have := HLT.out; have := HN.out; unfold wrap64; omega)
        clear gq7
        go_wp2_with fail
        go_roundw
        case rel => exact ⟨0 + 1, HLT.out, by first | rfl | rw [HW.out], HOK2.out, HE.out⟩
        case measure => exact meas_lt n 0 _ (by first | rfl | rw [HW.out]) HLT.out
      · obtain ⟨i', rfl⟩ : ∃ k, i = k + 1 := ⟨i - 1, by omega⟩
        have HLP : Hid (∀ W, w.grownBy W none → (Instr.loadAt 26 (.pointer (some ⟨tb, o + i' * 2, none⟩))).run Try.prog W = .ok (devR (fm i')) W) := Lib.hid (fun W hW => by
          obtain ⟨tb', o', e, _, hc⟩ := (HR.out.grown hW (fun k e => by cases e)).ex (by have := HLT.out; omega)
          cases e
          exact load_devQ (by simpa using hc i' 0 (by have := HLT.out; omega) (by decide)) (by simpa [Nat.add_assoc] using hc i' 1 (by have := HLT.out; omega) (by decide)))
        have HIB := Lib.hid (show (i' : Int) < (n : Int) by have := HLT.out; omega)
        have HNN := Lib.hid HN.out
        refine wpAnyH_takeD (some 19) (i := 4) (v := (.int .i64 (i' + 1 : Nat))) rfl rfl (by kernel_rfl) (by kernel_rfl) (by kernel_rfl) (fun _ _ _ h => h) (Or.inl ⟨rfl, fun _ _ => rfl⟩) gq7 ?_
        simp only [Act.put, List.setIfInBounds_toArray, List.set_cons_succ, List.set_cons_zero]
        refine wpAnyH_takeD (some 20) (i := 5) (v := (.bool true)) rfl rfl (by kernel_rfl) (by kernel_rfl) (by kernel_rfl) (fun _ _ _ h => h) (Or.inl ⟨rfl, fun _ _ => by unfold execOp; go_simp⟩) gq7 ?_
        simp only [Act.put, List.setIfInBounds_toArray, List.set_cons_succ, List.set_cons_zero]
        refine wpAnyH_takeD (some 21) (i := 6) (v := (.bool true)) rfl rfl (by kernel_rfl) (by kernel_rfl) (by kernel_rfl) (fun _ _ _ h => h) (Or.inl ⟨rfl, fun _ _ => rfl⟩) gq7 ?_
        simp only [Act.put, List.setIfInBounds_toArray, List.set_cons_succ, List.set_cons_zero]
        refine wpAnyH_takeD (some 22) (i := 7) (v := (.slice (some ⟨tb, o, none⟩) n c)) rfl rfl (by kernel_rfl) (by kernel_rfl) (by kernel_rfl) (fun _ _ _ h => h) (Or.inl ⟨rfl, fun _ _ => rfl⟩) gq7 ?_
        simp only [Act.put, List.setIfInBounds_toArray, List.set_cons_succ, List.set_cons_zero]
        refine wpAnyH_takeD (some 23) (i := 8) (v := (.int .i64 (i' + 1 : Nat))) rfl rfl (by kernel_rfl) (by kernel_rfl) (by kernel_rfl) (fun _ _ _ h => h) (Or.inl ⟨rfl, fun _ _ => rfl⟩) gq7 ?_
        simp only [Act.put, List.setIfInBounds_toArray, List.set_cons_succ, List.set_cons_zero]
        refine wpAnyH_takeD (some 24) (i := 9) (v := (.int .i64 i')) rfl rfl (by kernel_rfl) (by kernel_rfl) (by kernel_rfl) (fun _ _ _ h => h) (Or.inl ⟨rfl, fun _ _ => by have := HIB.out; have := HN.out; unfold execOp; go_simp; first | done | (rw [IntKind.wrap_i64]; omega)⟩) gq7 ?_
        simp only [Act.put, List.setIfInBounds_toArray, List.set_cons_succ, List.set_cons_zero]
        refine wpAnyH_takeD (some 25) (i := 10) (v := (.pointer (some ⟨tb, o + i' * 2, none⟩))) rfl rfl (by kernel_rfl) (by kernel_rfl) (by kernel_rfl) (fun _ _ _ h => h) (Or.inl ⟨rfl, fun _ _ => by have := HIB.out; unfold execOp; go_simp⟩) gq7 ?_
        simp only [Act.put, List.setIfInBounds_toArray, List.set_cons_succ, List.set_cons_zero]
        refine wpAnyH_takeD (some 26) (i := 11) (v := (devR (fm i'))) rfl rfl (by kernel_rfl) (by kernel_rfl) (by kernel_rfl) (fun _ _ _ h => h) (Or.inl ⟨rfl, fun W hW => exec_loadQ (.tmp 25) _ _ rfl rfl (HLP.out W (grown_trans HG5.out hW))⟩) gq7 ?_
        simp only [Act.put, List.setIfInBounds_toArray, List.set_cons_succ, List.set_cons_zero]
        refine wpAnyH_takeD (some 27) (i := 12) (v := (devR (fm (i' + 1)))) rfl rfl (by kernel_rfl) (by kernel_rfl) (by kernel_rfl) (fun _ _ _ h => h) (Or.inl ⟨rfl, fun W hW => exec_loadQ (.tmp 4) _ _ rfl rfl ((HX5.out.grown hW (by simp)).load (P := Try.prog) 0 26 2 _ (by decide) (fun j _ => by rw [Nat.zero_add]) (by kernel_rfl) (by kernel_rfl))⟩) gq7 ?_
        simp only [Act.put, List.setIfInBounds_toArray, List.set_cons_succ, List.set_cons_zero]
        refine wpAnyH_callD (some 28) (i := 13) 128 #[devR (fm i'), devR (fm (i' + 1))] (R := fun v W => v = .int .i64 (cmpD (fm i') (fm (i' + 1))) ∧ w7.grownBy W none) (by kernel_rfl) rfl rfl rfl (exec_fn2 _ _ _ _ _ rfl rfl rfl) compare_enters ((compare_any (fm i') (fm (i' + 1)) w7).mono fun e W h => ⟨_, h.1, rfl, h.2⟩) ?_
        rintro v w8 ⟨rfl, g8⟩
        have gq8 := grown_trans gq7 g8
        refine ⟨gq8, ?_⟩
        simp only [Act.put, List.setIfInBounds_toArray, List.set_cons_succ, List.set_cons_zero]
        obtain ⟨cv, hcv⟩ : ∃ c, c = cmpD (fm i') (fm (i' + 1)) := ⟨_, rfl⟩
        rw [← hcv]
        have HMO : Hid (memOk fm (i' + 1) = decide (cv < 0)) := Lib.hid (by unfold memOk; rw [← HM.out, Nat.add_sub_cancel, ← hcv, Bool.true_and, decide_eq_false (by omega), Bool.false_or])
        clear hcv g8 gq7
        by_cases hcv : cv < 0
        · have jc : ¬ (0 : Int) ≤ cv := by omega
          have HMY : Hid (memOk fm (i' + 1) = true) := Lib.hid (HMO.out.trans (decide_eq_true hcv))
          clear hcv
          refine wpAnyH_takeD (some 29) (i := 14) (v := (.bool false)) rfl rfl (by kernel_rfl) (by kernel_rfl) (by kernel_rfl) (fun _ _ _ h => h) (Or.inl ⟨rfl, fun _ _ => by unfold execOp; go_simp⟩) gq8 ?_
          simp only [Act.put, List.setIfInBounds_toArray, List.set_cons_succ, List.set_cons_zero]
          refine wpAnyH_takeD (some 30) (i := 15) (v := (.bool false)) rfl rfl (by kernel_rfl) (by kernel_rfl) (by kernel_rfl) (fun _ _ _ h => h) (Or.inl ⟨rfl, fun _ _ => by go_simp⟩) gq8 ?_
          simp only [Act.put, List.setIfInBounds_toArray, List.set_cons_succ, List.set_cons_zero]
          refine wpAnyH_takeD (some 31) (i := 16) (v := (.bool false)) rfl rfl (by kernel_rfl) (by kernel_rfl) (by kernel_rfl) (fun _ _ _ h => h) (Or.inl ⟨rfl, fun _ _ => by go_simp⟩) gq8 ?_
          simp only [Act.put, List.setIfInBounds_toArray, List.set_cons_succ, List.set_cons_zero]
          refine wpAnyH_done (by kernel_rfl) ?_ _
          have HE := Lib.hid (grown_trans HG5.out gq8)
          have HOK2 : Hid (∀ k, k < i' + 1 + 1 → memOk fm k = true) := Lib.hid (fun k hk => by
            by_cases e : k = i' + 1
            · subst e; exact HMY.out
            · exact HOK.out k (by omega))
          have HW := Lib.hid (show wrap64 (((i' + 1 : Nat) : Int) + 1) = ((i' + 1 + 1 : Nat) : Int) by have := HLT.out; have := HN.out; unfold wrap64; omega)
          clear gq8
          go_wp2_with fail
          go_roundw
          case rel => exact ⟨i' + 1 + 1, HLT.out, by first | rfl | rw [HW.out], HOK2.out, HE.out⟩
          case measure => exact meas_lt n (i' + 1) _ (by first | rfl | rw [HW.out]) HLT.out
        · have jc : (0 : Int) ≤ cv := by omega
          have HMY : Hid (memOk fm (i' + 1) = false) := Lib.hid (HMO.out.trans (decide_eq_false hcv))
          clear hcv
          refine wpAnyH_takeD (some 29) (i := 14) (v := (.bool true)) rfl rfl (by kernel_rfl) (by kernel_rfl) (by kernel_rfl) (fun _ _ _ h => h) (Or.inl ⟨rfl, fun _ _ => by unfold execOp; go_simp⟩) gq8 ?_
          simp only [Act.put, List.setIfInBounds_toArray, List.set_cons_succ, List.set_cons_zero]
          refine wpAnyH_takeD (some 30) (i := 15) (v := (.bool true)) rfl rfl (by kernel_rfl) (by kernel_rfl) (by kernel_rfl) (fun _ _ _ h => h) (Or.inl ⟨rfl, fun _ _ => by go_simp⟩) gq8 ?_
          simp only [Act.put, List.setIfInBounds_toArray, List.set_cons_succ, List.set_cons_zero]
          refine wpAnyH_takeD (some 31) (i := 16) (v := (.bool true)) rfl rfl (by kernel_rfl) (by kernel_rfl) (by kernel_rfl) (fun _ _ _ h => h) (Or.inl ⟨rfl, fun _ _ => by go_simp⟩) gq8 ?_
          simp only [Act.put, List.setIfInBounds_toArray, List.set_cons_succ, List.set_cons_zero]
          refine wpAnyH_done (by kernel_rfl) ?_ _
          have HE := Lib.hid (grown_trans HG5.out gq8)
          have HMM : Hid (memMay n fm = false) := Lib.hid (memMay_no HLT.out (HMY.out))
          clear gq8
          go_wp2_with fail
          go_ret
          exact ⟨by rw [HMM.out]; rfl, HE.out⟩
theorem rosMay_any (D : Nat) (x : RV) (fm : Nat → Nat → Nat) (w : World) (hR : RdD w D x.am x.nm fm) (hn : x.nm ≤ 1048576) : Calls Try.prog 78 #[.agg (rowOf 18 x.v)] w fun e w' => e = .returned (.bool (memMay x.nm fm)) ∧ w.grownBy w' none := by
  have ga := World.grownBy_alloc w (.cells (rowOf 18 x.v) 33) none
  have hA := RowAt.new w 33 18 x.v _ rfl
  have c17 : (w.alloc (.cells (rowOf 18 x.v) 33)).cell? ⟨w.heap.size, 17, none⟩ = some (.slice x.am x.nm x.cm) := hA.cell 17 (by decide)
  have HM := Lib.hid (mayMembers_any D x.nm x.cm x.am fm _ (hR.grown ga (fun k e => by cases e)) hn)
  have HG := Lib.hid ga
  clear ga hA hR hn
  go_enter Try.func78, Try.ntmps78
  go_wp2_with fail
  go_at_call 79
  refine HM.out.mono ?_
  rintro e w2 ⟨rfl, g2⟩
  have HG2 := Lib.hid (grown_trans HG.out g2)
  clear g2 HM c17
  go_wp2_with fail
  go_ret
  exact ⟨rfl, HG2.out⟩
end Go.Proofs.Ytmbefbmpjkbnmaa
namespace Go.Proofs.Ytmbefbmpjkbnmaa
open Go.RowKit

set_option maxRecDepth 100000
set_option maxHeartbeats 4000000

theorem inU64_any {w : World} {p : Option Addr} {L : Nat} {F : Nat → Nat} {s : ISt} (h : IAt w p L F s) (hF : ∀ i, F i < 256) : Calls Try.prog 69 #[.pointer p] w fun e w' => e = .returned (.int .u64 (s.num L F 8 : Nat)) ∧ ISays w p L F (s.take L 8) w' := by
  have HN := Lib.hid (inNumber_any 8 h (by decide) hF)
  have HV := Lib.hid (ISt.num_lt L F s 8 hF)
  obtain ⟨v, hv⟩ : ∃ v, v = s.num L F 8 := ⟨_, rfl⟩
  rw [← hv] at HV ⊢
  have HVV := Lib.hid hv
  clear h hF hv
  go_enter Try.func69, Try.ntmps69
  go_wp2_with fail
  go_at_call 126
  refine HN.out.mono ?_
  rintro e w1 ⟨rfl, hE⟩
  rw [← HVV.out]
  have HE := Lib.hid hE
  clear hE HN
  go_wp2_with fail
  go_ret
  exact ⟨rfl, HE.out⟩
end Go.Proofs.Ytmbefbmpjkbnmaa
namespace Go.Proofs.Ytmbefbmpjkbnmaa
open Go.RowKit

set_option maxRecDepth 100000
set_option maxHeartbeats 4000000

/-- What stands next, as a sender's key; and what is behind it. -/
def ISt.dist (L : Nat) (F : Nat → Nat) (s : ISt) : DV := ⟨s.cF L F 16, (s.take L 16).num L F 8, ((s.take L 16).take L 8).devC L F, ((((s.take L 16).take L 8).take L 1).take L 1).num L F 8, (((((s.take L 16).take L 8).take L 1).take L 1).take L 8).cF L F 32⟩
def ISt.distS (L : Nat) (s : ISt) : ISt := (((((s.take L 16).take L 8).take L 1).take L 1).take L 8).take L 32
structure DistSays (w : World) (g L : Nat) (F : Nat → Nat) (s : ISt) (e : Ending) (w' : World) : Prop where
  ex : e = .returned (.agg (rowOf 52 (s.dist L F).v))
  says : ISays w (some ⟨g, 0, none⟩) L F (s.distS L) w'
theorem distTake_any {w : World} {g L : Nat} {F : Nat → Nat} {s : ISt} (h : IAt w (some ⟨g, 0, none⟩) L F s) (hF : ∀ i, F i < 256) (hL : L ≤ 2 ^ 46) :
    Calls Try.prog 67 #[.pointer (some ⟨g, 0, none⟩)] w (DistSays w g L F s) := by
  have hT := TX.begin h 30 52 DV.zero.v #[.int .u8 0, .int .u8 0, .int .u8 0, .int .u8 0, .int .u8 0, .int .u8 0, .int .u8 0, .int .u8 0, .int .u8 0, .int .u8 0, .int .u8 0, .int .u8 0, .int .u8 0, .int .u8 0, .int .u8 0, .int .u8 0, .int .u64 0, .int .u8 0, .int .u8 0, .int .u64 0, .int .u8 0, .int .u8 0, .int .u8 0, .int .u8 0, .int .u8 0, .int .u8 0, .int .u8 0, .int .u8 0, .int .u8 0, .int .u8 0, .int .u8 0, .int .u8 0, .int .u8 0, .int .u8 0, .int .u8 0, .int .u8 0, .int .u8 0, .int .u8 0, .int .u8 0, .int .u8 0, .int .u8 0, .int .u8 0, .int .u8 0, .int .u8 0, .int .u8 0, .int .u8 0, .int .u8 0, .int .u8 0, .int .u8 0, .int .u8 0, .int .u8 0, .int .u8 0] rfl
  have HF := Lib.hid hF
  have HL := Lib.hid hL
  clear h hF hL
  go_enter Try.func67, Try.ntmps67
  go_upto_region 1 with fail
  obtain ⟨B, hB⟩ : ∃ B, B = w.heap.size := ⟨_, rfl⟩
  rw [← hB] at hT ⊢
  generalize w.alloc (.cells #[.int .u8 0, .int .u8 0, .int .u8 0, .int .u8 0, .int .u8 0, .int .u8 0, .int .u8 0, .int .u8 0, .int .u8 0, .int .u8 0, .int .u8 0, .int .u8 0, .int .u8 0, .int .u8 0, .int .u8 0, .int .u8 0, .int .u64 0, .int .u8 0, .int .u8 0, .int .u64 0, .int .u8 0, .int .u8 0, .int .u8 0, .int .u8 0, .int .u8 0, .int .u8 0, .int .u8 0, .int .u8 0, .int .u8 0, .int .u8 0, .int .u8 0, .int .u8 0, .int .u8 0, .int .u8 0, .int .u8 0, .int .u8 0, .int .u8 0, .int .u8 0, .int .u8 0, .int .u8 0, .int .u8 0, .int .u8 0, .int .u8 0, .int .u8 0, .int .u8 0, .int .u8 0, .int .u8 0, .int .u8 0, .int .u8 0, .int .u8 0, .int .u8 0, .int .u8 0] 30) = w1 at *
  clear hB
  have HX := Lib.hid (takeFixed_any 0 16 (DV.mk (s.cF L F 16) 0 (fun _ => 0) 0 (fun _ => 0)).v hT (by decide) (fun j hj => DV.v_id DV.zero j hj) (by decide) HL.out (fun i hi => by unfold DV.v; (repeat' split) <;> first | rfl | omega))
  clear hT
  go_wp2_with fail
  go_at_call 68
  refine HX.out.mono ?_
  rintro e w2 ⟨rfl, hT⟩
  replace hT : TX w w2 g L F (s.take L 16) B 30 52 (DV.mk (s.cF L F 16) 0 (fun _ => 0) 0 (fun _ => 0)).v := hT
  clear HX
  obtain ⟨f1, hf1⟩ : ∃ f, f = s.cF L F 16 := ⟨_, rfl⟩
  rw [← hf1] at hT
  have HF1 := Lib.hid hf1
  clear hf1
  have HX := Lib.hid (inU64_any hT.inn HF.out)
  have HT := Lib.hid hT
  clear hT
  go_wp2_with fail
  go_at_call 69
  refine HX.out.mono ?_
  rintro e w3 ⟨rfl, hs⟩
  have hT := HT.out.call hs
  obtain ⟨n2, hn2⟩ : ∃ x, x = ((s.take L 16)).num L F 8 := ⟨_, rfl⟩
  rw [← hn2]
  have HNn2 := Lib.hid hn2
  clear HX HT hs hn2
  have cc : w3.cell? ⟨B, 16, none⟩ = some (.int .u64 (0 : Nat)) := hT.row.cell 16 (by decide)
  have ff := hT.row.frozen 16
  have hT2 := hT.put 16 (.int .u64 (n2 : Nat)) (by decide) (v' := (DV.mk f1 n2 (fun _ => 0) 0 (fun _ => 0)).v) (fun i hi => by unfold DV.v; (repeat' split) <;> first | rfl | omega)
  have HT2 := Lib.hid hT2
  clear hT hT2
  go_upto_region 3 with fail
  have hT := HT2.out
  obtain ⟨w3', hw'⟩ : ∃ W, W = w3.setCell ⟨B, 16, none⟩ (.int .u64 (n2 : Nat)) := ⟨_, rfl⟩
  rw [← hw'] at hT ⊢
  clear hw' HT2 cc ff
  have HX := Lib.hid (takeDevice_any hT.inn HF.out)
  have HT := Lib.hid hT
  clear hT
  go_wp2_with fail
  go_at_call 70
  refine HX.out.mono ?_
  rintro e w4 ⟨rfl, hs⟩
  have hT := HT.out.call hs
  clear hs HT HX
  obtain ⟨f3, hf3⟩ : ∃ f, f = ISt.devC L F (((s.take L 16).take L 8)) := ⟨_, rfl⟩
  rw [← hf3]
  have HNf3 := Lib.hid hf3
  clear hf3
  obtain ⟨k1, k2⟩ := hT.store (P := Try.prog) 17 26 2 (fun j => .int .u8 (f3 j)) (by decide) (by kernel_rfl) (fun _ _ => rfl) (v' := (DV.mk f1 n2 f3 0 (fun _ => 0)).v) (fun i hi => by unfold DV.v; (repeat' split) <;> first | rfl | omega)
  obtain ⟨w4', hw'⟩ : ∃ W, W = w4.setCells B 17 (rowOf 2 (fun j => .int .u8 (f3 j))).toList := ⟨_, rfl⟩
  rw [← hw'] at k1 k2
  clear hw'
  have HS := Lib.hid k1
  have HT2 := Lib.hid k2
  clear hT k1 k2
  go_upto_region 4 with (first | ((with_reducible refine wpList_here ?_); refine wpList_st (T := 26) (p := .pointer (some ⟨B, 17, none⟩)) (v := .agg (rowOf 2 (fun j => .int .u8 (f3 j)))) (.tmp 12) (.tmp 11) ?_ ?_ ?_ ?_ ?_ HS.out ?_; (· rfl); (· rfl); go_simp; (· kernel_rfl); (· kernel_rfl)))
  have hT := HT2.out
  clear HS HT2
  have HX := Lib.hid (inU64_any hT.inn HF.out)
  have HT := Lib.hid hT
  clear hT
  go_wp2_with fail
  go_at_call 69
  refine HX.out.mono ?_
  rintro e w5 ⟨rfl, hs⟩
  have hT := HT.out.call hs
  obtain ⟨n4, hn4⟩ : ∃ x, x = (((((s.take L 16).take L 8).take L 1).take L 1)).num L F 8 := ⟨_, rfl⟩
  rw [← hn4]
  have HNn4 := Lib.hid hn4
  clear HX HT hs hn4
  have cc : w5.cell? ⟨B, 19, none⟩ = some (.int .u64 (0 : Nat)) := hT.row.cell 19 (by decide)
  have ff := hT.row.frozen 19
  have hT2 := hT.put 19 (.int .u64 (n4 : Nat)) (by decide) (v' := (DV.mk f1 n2 f3 n4 (fun _ => 0)).v) (fun i hi => by unfold DV.v; (repeat' split) <;> first | rfl | omega)
  have HT2 := Lib.hid hT2
  clear hT hT2
  go_upto_region 5 with fail
  have hT := HT2.out
  obtain ⟨w5', hw'⟩ : ∃ W, W = w5.setCell ⟨B, 19, none⟩ (.int .u64 (n4 : Nat)) := ⟨_, rfl⟩
  rw [← hw'] at hT ⊢
  clear hw' HT2 cc ff
  have HX := Lib.hid (takeFixed_any 20 32 (DV.mk f1 n2 f3 n4 ((((((s.take L 16).take L 8).take L 1).take L 1).take L 8).cF L F 32)).v hT (by decide) (fun j hj => DV.v_key (DV.mk f1 n2 f3 n4 (fun _ => 0)) j hj) (by decide) HL.out (fun i hi => by unfold DV.v; (repeat' split) <;> first | rfl | omega))
  clear hT
  go_wp2_with fail
  go_at_call 68
  refine HX.out.mono ?_
  rintro e w6 ⟨rfl, hT⟩
  replace hT : TX w w6 g L F ((((((s.take L 16).take L 8).take L 1).take L 1).take L 8).take L 32) B 30 52 (DV.mk f1 n2 f3 n4 ((((((s.take L 16).take L 8).take L 1).take L 1).take L 8).cF L F 32)).v := hT
  clear HX
  obtain ⟨f5, hf5⟩ : ∃ f, f = (((((s.take L 16).take L 8).take L 1).take L 1).take L 8).cF L F 32 := ⟨_, rfl⟩
  rw [← hf5] at hT
  have HF5 := Lib.hid hf5
  clear hf5
  have HLD := Lib.hid (hT.row.load (P := Try.prog) 0 30 52 _ (by decide) (fun j _ => by rw [Nat.zero_add]) (by kernel_rfl) (by kernel_rfl))
  obtain ⟨k1, k2⟩ := hT.store (P := Try.prog) 0 30 52 (DV.mk f1 n2 f3 n4 f5).v (by decide) (by kernel_rfl) (fun j _ => by exact DV.one _ j) (v' := (DV.mk f1 n2 f3 n4 f5).v) (fun i hi => by rw [if_pos ⟨Nat.zero_le _, by omega⟩, Nat.sub_zero])
  have HS := Lib.hid k1
  have HK := Lib.hid k2
  clear k1 k2 hT
  go_wp2_with (first | ((with_reducible refine wpList_here ?_); refine wpList_ld (p := .pointer (some ⟨B, 0, none⟩)) 2 ?_ ?_ ?_ HLD.out ?_; (· rfl); go_simp; (· kernel_rfl)) | ((with_reducible refine wpList_here ?_); refine wpList_st (T := 30) (p := .pointer (some ⟨B, 0, none⟩)) (v := .agg (rowOf 52 (DV.mk f1 n2 f3 n4 f5).v)) (.tmp 2) (.tmp 20) ?_ ?_ ?_ ?_ ?_ HS.out ?_; (· rfl); (· rfl); go_simp; (· kernel_rfl); (· kernel_rfl)))
  exact bodyPost_ret (res_rowAt rfl rfl HK.out.row (by kernel_rfl) (by kernel_rfl)) rfl ⟨by rw [HF1.out, HNn2.out, HNf3.out, HNn4.out, HF5.out]; rfl, HK.out.says⟩
end Go.Proofs.Ytmbefbmpjkbnmaa
namespace Go.Proofs.Ytmbefbmpjkbnmaa
open Go.RowKit

set_option maxRecDepth 100000
set_option maxHeartbeats 4000000

section
variable {P : Program} {ops : Array Oper} {Q : Exit → Act → World → Prop}
theorem wpAnyH_skipS {md : Region.Mode} {S : World → Prop} {i : Nat} {o : Oper} {fuel : Nat} {listed : Array Bool} {a : Act} {w w' : World}
    (hr : Region.ready md ops listed = [i]) (hi : ops[i]? = some o) (hd : o.dst = none) (hw : Region.wanted o (yielded ops a.tmps) = true) (he : (execOp a.eval o).run P w = .ok .skip w') (hS : S w')
    (h : wpAnyH P md ops Q S fuel (listed.setIfInBounds i true) a w') : wpAnyH P md ops Q S (fuel + 1) listed a w := by
  refine wpAnyH_all hr (by simp) fun j hj => ?_
  obtain rfl : j = i := by simpa using hj
  refine wpOp_at hi hw (wp_skips he ⟨hS, ?_⟩)
  rw [hd]
  exact h
end
theorem exec_storeS {o : Oper} {a : Act} {w w' : World} {T : TypeId} (x y : Operand) (p v : Value) (ho : o.op = .store T x y) (hx : a.eval x = p) (hy : a.eval y = v) (h : (Instr.storeAt T p v).run Try.prog w = .ok () w') : (execOp a.eval o).run Try.prog w = .ok .skip w' := by
  unfold execOp
  simp only [ho, hx, hy, Sem.run_bind, h, Result.andThen_ok, Sem.run_pure]
theorem res_rowAt2' {P : Program} {fn : Func} {p q : Tmp} {T : TypeId} {n : Nat} {v : Nat → Value} {x : Value} {tmps : Array Value} {w : World} {g : Nat} {t : TypeId} (hr : fn.results = #[.tmp q, .cell p T]) (hp : tmps.getD p undef = .pointer (some ⟨g, 0, none⟩)) (hq : tmps.getD q undef = x) (H : RowAt w g t n v)
    (hu : (P.underlying T).map (fun d => match d with | .struct _ | .array _ _ => true | _ => false) = some true) (hi : (P.info? T).map (·.size) = some n) : (results fn tmps).run P w = .ok (.tuple #[x, .agg (rowOf n v)]) w := by
  obtain ⟨d, d1, d2⟩ := under_row hu
  have hp' : tmps[p]?.getD undef = .pointer (some ⟨g, 0, none⟩) := by simpa using hp
  have hq' : tmps[q]?.getD undef = x := by simpa using hq
  have r1 := run_loadVar_row (P := P) w g t T (rowOf n v) (0, 0) d H.block d1 (by cases d <;> first | rfl | exact d2) (by rw [rowOf_size]; exact hi)
  simp [results, hr, hp', hq', asAddr, r1]
/-- The setup that stands next, if there is one: whether there is, it, and what is behind. -/
def ISt.setV1 (L : Nat) (F : Nat → Nat) (s : ISt) : SetV := ⟨(s.cF L F 32), (s.take L 32).cF L F 32, decide (((s.take L 32).take L 32).num L F 1 = 1), if decide (((s.take L 32).take L 32).num L F 1 = 1) = true then (((s.take L 32).take L 32).flagS L F).num L F 4 else 0⟩
def ISt.setS1 (L : Nat) (F : Nat → Nat) (s : ISt) : ISt := if decide (((s.take L 32).take L 32).num L F 1 = 1) = true then (((s.take L 32).take L 32).flagS L F).take L 4 else ((s.take L 32).take L 32).flagS L F
def ISt.setV (L : Nat) (F : Nat → Nat) (s : ISt) : SetV := if decide (s.num L F 1 = 1) = true then (s.flagS L F).setV1 L F else SetV.zero
def ISt.setS (L : Nat) (F : Nat → Nat) (s : ISt) : ISt := if decide (s.num L F 1 = 1) = true then (s.flagS L F).setS1 L F else s.flagS L F
structure SetSays (w : World) (g L : Nat) (F : Nat → Nat) (s : ISt) (e : Ending) (w' : World) : Prop where
  ex : e = .returned (.tuple #[.bool (decide (s.num L F 1 = 1)), .agg (rowOf 66 (s.setV L F).v)])
  says : ISays w (some ⟨g, 0, none⟩) L F (s.setS L F) w'
theorem takeSetup_any {w : World} {g L : Nat} {F : Nat → Nat} {s : ISt} (h : IAt w (some ⟨g, 0, none⟩) L F s) (hF : ∀ i, F i < 256) (hL : L ≤ 2 ^ 46) :
    Calls Try.prog 95 #[.pointer (some ⟨g, 0, none⟩)] w (SetSays w g L F s) := by
  have hT := TX.begin h 38 66 SetV.zero.v Try.zeroCells38 (by kernel_rfl)
  have HF := Lib.hid hF
  have HL := Lib.hid hL
  clear h hF hL
  go_enter Try.func95, Try.ntmps95
  go_upto_region 1 with fail
  obtain ⟨B, hB⟩ : ∃ B, B = w.heap.size := ⟨_, rfl⟩
  rw [← hB] at hT ⊢
  generalize w.alloc (.cells Try.zeroCells38 38) = w1 at *
  clear hB
  have HX := Lib.hid (inFlag_any hT.inn HF.out)
  have HT := Lib.hid hT
  clear hT
  obtain ⟨fl, hfl⟩ : ∃ b, b = decide (s.num L F 1 = 1) := ⟨_, rfl⟩
  rw [← hfl] at HX
  have HFL := Lib.hid hfl
  clear hfl
  go_wp2_with fail
  go_at_call 135
  refine HX.out.mono ?_
  rintro e w2 ⟨rfl, hs⟩
  have hT := HT.out.call hs
  clear hs HT HX
  cases fl with
  | false =>
    have HT := Lib.hid hT
    clear hT
    go_upto_region 2 with fail
    have hT := HT.out
    clear HT
    refine wp_region_held (S := fun W => TX w W g L F (s.flagS L F) B 38 66 (SetV.zero.v)) (by kernel_rfl) ?_
    change wpAnyH _ _ _ _ _ 3 #[false, false, false] _ (World.drew _)
    have hTq := hT.grown (grown_drew (grown_refl w2 none))
    generalize World.drew w2 = q at *
    refine wpAnyH_takeD (some 7) (i := 0) (v := (.agg (rowOf 66 (SetV.zero.v)))) rfl rfl (by kernel_rfl) (by kernel_rfl) (by kernel_rfl) (fun _ _ _ h => h) (Or.inl ⟨rfl, fun W hW => exec_loadQ (.tmp 3) _ _ rfl rfl (hW.row.load (P := Try.prog) 0 38 66 _ (by decide) (fun j _ => by rw [Nat.zero_add]) (by kernel_rfl) (by kernel_rfl))⟩) hTq ?_
    simp only [Act.put, List.setIfInBounds_toArray, List.set_cons_succ, List.set_cons_zero]
    refine wpAnyH_takeD (some 2) (i := 1) (v := (.bool false)) rfl rfl (by kernel_rfl) (by kernel_rfl) (by kernel_rfl) (fun _ _ _ h => h) (Or.inl ⟨rfl, fun _ _ => rfl⟩) hTq ?_
    simp only [Act.put, List.setIfInBounds_toArray, List.set_cons_succ, List.set_cons_zero]
    obtain ⟨k1, k2⟩ := hTq.store (P := Try.prog) 0 38 66 (SetV.zero.v) (by decide) (by kernel_rfl) (fun j _ => SetV.one _ j) (v' := SetV.zero.v) (fun i hi => by rw [if_pos ⟨Nat.zero_le _, by omega⟩, Nat.sub_zero])
    refine wpAnyH_skipS (i := 2) (by kernel_rfl) rfl rfl rfl (exec_storeS (.tmp 3) (.tmp 7) _ _ rfl rfl rfl k1) k2 ?_
    refine wpAnyH_done (by kernel_rfl) ?_ _
    have HK := Lib.hid k2
    clear k1 k2 hTq hT
    go_wp2_with fail
    exact bodyPost_ret (res_rowAt2' rfl rfl rfl HK.out.row (by kernel_rfl) (by kernel_rfl)) rfl ⟨by unfold ISt.setV; rw [← HFL.out]; rfl, by unfold ISt.setS; rw [← HFL.out]; exact HK.out.says⟩
  | true =>
    have HT := Lib.hid hT
    clear hT
    go_upto_region 3 with fail
    have hT := HT.out
    clear HT
    have HX := Lib.hid (takeFixed_any 0 32 (SetV.mk ((s.flagS L F).cF L F 32) (fun _ => 0) false 0).v hT (by decide) (fun j hj => SetV.v_ident SetV.zero j hj) (by decide) HL.out (fun i hi => by unfold SetV.v; (repeat' split) <;> first | rfl | omega))
    clear hT
    go_wp2_with fail
    go_at_call 68
    refine HX.out.mono ?_
    rintro e w3 ⟨rfl, hT⟩
    replace hT : TX w w3 g L F ((s.flagS L F).take L 32) B 38 66 (SetV.mk ((s.flagS L F).cF L F 32) (fun _ => 0) false 0).v := hT
    clear HX
    obtain ⟨f1, hf1⟩ : ∃ f, f = (s.flagS L F).cF L F 32 := ⟨_, rfl⟩
    rw [← hf1] at hT
    have HF1 := Lib.hid hf1
    clear hf1
    have HX := Lib.hid (takeFixed_any 32 32 (SetV.mk f1 (((s.flagS L F).take L 32).cF L F 32) false 0).v hT (by decide) (fun j hj => SetV.v_eph (SetV.mk f1 (fun _ => 0) false 0) j hj) (by decide) HL.out (fun i hi => by unfold SetV.v; (repeat' split) <;> first | rfl | omega))
    clear hT
    go_wp2_with fail
    go_at_call 68
    refine HX.out.mono ?_
    rintro e w4 ⟨rfl, hT⟩
    replace hT : TX w w4 g L F (((s.flagS L F).take L 32).take L 32) B 38 66 (SetV.mk f1 (((s.flagS L F).take L 32).cF L F 32) false 0).v := hT
    clear HX
    obtain ⟨f2, hf2⟩ : ∃ f, f = ((s.flagS L F).take L 32).cF L F 32 := ⟨_, rfl⟩
    rw [← hf2] at hT
    have HF2 := Lib.hid hf2
    clear hf2
    have HX := Lib.hid (inFlag_any hT.inn HF.out)
    have HT := Lib.hid hT
    clear hT
    obtain ⟨oc, hoc⟩ : ∃ b, b = decide ((((s.flagS L F).take L 32).take L 32).num L F 1 = 1) := ⟨_, rfl⟩
    rw [← hoc] at HX
    have HOC := Lib.hid hoc
    clear hoc
    go_wp2_with fail
    go_at_call 135
    refine HX.out.mono ?_
    rintro e w5 ⟨rfl, hs⟩
    have hT := HT.out.call hs
    clear hs HT HX
    have cc : w5.cell? ⟨B, 64, none⟩ = some (.bool false) := hT.row.cell 64 (by decide)
    have ff := hT.row.frozen 64
    have hT2 := hT.put 64 (.bool oc) (by decide) (v' := (SetV.mk f1 f2 oc 0).v) (fun i hi => by unfold SetV.v; (repeat' split) <;> first | rfl | omega)
    have HT2 := Lib.hid hT2
    clear hT hT2
    go_upto_region 6 with fail
    have hT := HT2.out
    obtain ⟨w5', hw'⟩ : ∃ W, W = w5.setCell ⟨B, 64, none⟩ (.bool oc) := ⟨_, rfl⟩
    rw [← hw'] at hT ⊢
    clear hw' HT2 cc ff
    have c64 : w5'.cell? ⟨B, 64, none⟩ = some (.bool oc) := hT.row.cell 64 (by decide)
    have HT := Lib.hid hT
    clear hT
    cases oc with
    | false =>
      go_upto_region 8 with fail
      have hT := HT.out
      clear HT c64
      refine wp_region_held (S := fun W => TX w W g L F ((((s.flagS L F).take L 32).take L 32).flagS L F) B 38 66 ((SetV.mk f1 f2 false 0).v)) (by kernel_rfl) ?_
      change wpAnyH _ _ _ _ _ 3 #[false, false, false] _ (World.drew _)
      have hTq := hT.grown (grown_drew (grown_refl w5' none))
      generalize World.drew w5' = q at *
      refine wpAnyH_takeD (some 24) (i := 0) (v := (.agg (rowOf 66 ((SetV.mk f1 f2 false 0).v)))) rfl rfl (by kernel_rfl) (by kernel_rfl) (by kernel_rfl) (fun _ _ _ h => h) (Or.inl ⟨rfl, fun W hW => exec_loadQ (.tmp 3) _ _ rfl rfl (hW.row.load (P := Try.prog) 0 38 66 _ (by decide) (fun j _ => by rw [Nat.zero_add]) (by kernel_rfl) (by kernel_rfl))⟩) hTq ?_
      simp only [Act.put, List.setIfInBounds_toArray, List.set_cons_succ, List.set_cons_zero]
      refine wpAnyH_takeD (some 2) (i := 1) (v := (.bool true)) rfl rfl (by kernel_rfl) (by kernel_rfl) (by kernel_rfl) (fun _ _ _ h => h) (Or.inl ⟨rfl, fun _ _ => rfl⟩) hTq ?_
      simp only [Act.put, List.setIfInBounds_toArray, List.set_cons_succ, List.set_cons_zero]
      obtain ⟨k1, k2⟩ := hTq.store (P := Try.prog) 0 38 66 ((SetV.mk f1 f2 false 0).v) (by decide) (by kernel_rfl) (fun j _ => SetV.one _ j) (v' := (SetV.mk f1 f2 false 0).v) (fun i hi => by rw [if_pos ⟨Nat.zero_le _, by omega⟩, Nat.sub_zero])
      refine wpAnyH_skipS (i := 2) (by kernel_rfl) rfl rfl rfl (exec_storeS (.tmp 3) (.tmp 24) _ _ rfl rfl rfl k1) k2 ?_
      refine wpAnyH_done (by kernel_rfl) ?_ _
      have HK := Lib.hid k2
      clear k1 k2 hTq hT
      go_wp2_with fail
      exact bodyPost_ret (res_rowAt2' rfl rfl rfl HK.out.row (by kernel_rfl) (by kernel_rfl)) rfl ⟨by unfold ISt.setV; rw [← HFL.out]; unfold ISt.setV1; rw [← HOC.out, HF1.out, HF2.out]; rfl, by unfold ISt.setS; rw [← HFL.out]; unfold ISt.setS1; rw [← HOC.out]; exact HK.out.says⟩
    | true =>
      go_upto_region 7 with fail
      have hT := HT.out
      clear HT c64
      have HX := Lib.hid (inU32_any hT.inn HF.out)
      have HT := Lib.hid hT
      clear hT
      go_wp2_with fail
      go_at_call 105
      refine HX.out.mono ?_
      rintro e w6 ⟨rfl, hs⟩
      have hT := HT.out.call hs
      obtain ⟨n5, hn5⟩ : ∃ x, x = (((((s.flagS L F).take L 32).take L 32).flagS L F)).num L F 4 := ⟨_, rfl⟩
      rw [← hn5]
      have HNn5 := Lib.hid hn5
      clear HX HT hs hn5
      have cc : w6.cell? ⟨B, 65, none⟩ = some (.int .u32 (0 : Nat)) := hT.row.cell 65 (by decide)
      have ff := hT.row.frozen 65
      have hT2 := hT.put 65 (.int .u32 (n5 : Nat)) (by decide) (v' := (SetV.mk f1 f2 true n5).v) (fun i hi => by unfold SetV.v; (repeat' split) <;> first | rfl | omega)
      have HT2 := Lib.hid hT2
      clear hT hT2
      go_upto_region 8 with fail
      have hT := HT2.out
      obtain ⟨w6', hw'⟩ : ∃ W, W = w6.setCell ⟨B, 65, none⟩ (.int .u32 (n5 : Nat)) := ⟨_, rfl⟩
      rw [← hw'] at hT ⊢
      clear hw' HT2 cc ff
      refine wp_region_held (S := fun W => TX w W g L F (((((s.flagS L F).take L 32).take L 32).flagS L F).take L 4) B 38 66 ((SetV.mk f1 f2 true n5).v)) (by kernel_rfl) ?_
      change wpAnyH _ _ _ _ _ 3 #[false, false, false] _ (World.drew _)
      have hTq := hT.grown (grown_drew (grown_refl w6' none))
      generalize World.drew w6' = q at *
      refine wpAnyH_takeD (some 24) (i := 0) (v := (.agg (rowOf 66 ((SetV.mk f1 f2 true n5).v)))) rfl rfl (by kernel_rfl) (by kernel_rfl) (by kernel_rfl) (fun _ _ _ h => h) (Or.inl ⟨rfl, fun W hW => exec_loadQ (.tmp 3) _ _ rfl rfl (hW.row.load (P := Try.prog) 0 38 66 _ (by decide) (fun j _ => by rw [Nat.zero_add]) (by kernel_rfl) (by kernel_rfl))⟩) hTq ?_
      simp only [Act.put, List.setIfInBounds_toArray, List.set_cons_succ, List.set_cons_zero]
      refine wpAnyH_takeD (some 2) (i := 1) (v := (.bool true)) rfl rfl (by kernel_rfl) (by kernel_rfl) (by kernel_rfl) (fun _ _ _ h => h) (Or.inl ⟨rfl, fun _ _ => rfl⟩) hTq ?_
      simp only [Act.put, List.setIfInBounds_toArray, List.set_cons_succ, List.set_cons_zero]
      obtain ⟨k1, k2⟩ := hTq.store (P := Try.prog) 0 38 66 ((SetV.mk f1 f2 true n5).v) (by decide) (by kernel_rfl) (fun j _ => SetV.one _ j) (v' := (SetV.mk f1 f2 true n5).v) (fun i hi => by rw [if_pos ⟨Nat.zero_le _, by omega⟩, Nat.sub_zero])
      refine wpAnyH_skipS (i := 2) (by kernel_rfl) rfl rfl rfl (exec_storeS (.tmp 3) (.tmp 24) _ _ rfl rfl rfl k1) k2 ?_
      refine wpAnyH_done (by kernel_rfl) ?_ _
      have HK := Lib.hid k2
      clear k1 k2 hTq hT
      go_wp2_with fail
      exact bodyPost_ret (res_rowAt2' rfl rfl rfl HK.out.row (by kernel_rfl) (by kernel_rfl)) rfl ⟨by unfold ISt.setV; rw [← HFL.out]; unfold ISt.setV1; rw [← HOC.out, HF1.out, HF2.out, HNn5.out]; rfl, by unfold ISt.setS; rw [← HFL.out]; unfold ISt.setS1; rw [← HOC.out]; exact HK.out.says⟩
end Go.Proofs.Ytmbefbmpjkbnmaa
namespace Go.Proofs.Ytmbefbmpjkbnmaa
open Go.RowKit

set_option maxRecDepth 100000
set_option maxHeartbeats 4000000

theorem OwnN.setOld2 {w w' : World} {base k : Nat} {v : Value} {n : Nat} {f : Nat → Nat} (h : OwnN w base v n f) (g : w.grownBy w' (some k)) (hk : k < base) : OwnN w' base v n f := by
  rcases h.ex with h | ⟨g', cap, h1, h2, h3⟩
  · exact ⟨Or.inl h⟩
  · exact ⟨Or.inr ⟨g', cap, h1, h2.grown g (fun e => by cases e; omega), h3⟩⟩
def PV.zero : PV := ⟨fun _ => 0, fun _ => 0, fun _ => 0, none, 0, 0⟩
/-- What stands next, as a packet whose bytes are there: how many bytes these are; where they begin; and what is behind. -/
def ISt.pktB (L : Nat) (s : ISt) : ISt := ((((((s.take L 1).take L 1).take L 1).take L 1).take L 16).take L 4)
def ISt.pktN (L : Nat) (F : Nat → Nat) (s : ISt) : Nat := (((((s.take L 1).take L 1).take L 1).take L 1).take L 16).num L F 4
def ISt.pktL (L : Nat) (F : Nat → Nat) (s : ISt) : Nat := (s.pktB L).got L (s.pktN L F : Int)
def ISt.pktS (L : Nat) (F : Nat → Nat) (s : ISt) : ISt := (s.pktB L).take L (s.pktN L F : Int)
def ISt.pkt (L : Nat) (F : Nat → Nat) (s : ISt) (a : Option Addr) (c : Nat) : PV := ⟨s.devC L F, ((s.take L 1).take L 1).devC L F, ((((s.take L 1).take L 1).take L 1).take L 1).cF L F 16, a, s.pktL L F, c⟩
structure PktSays (w : World) (g L : Nat) (F : Nat → Nat) (s : ISt) (a : Option Addr) (c : Nat) (e : Ending) (w' : World) : Prop where
  ex : e = .returned (.agg (rowOf 21 (s.pkt L F a c).v))
  own : OwnN w' w.heap.size (.slice a (s.pktL L F) c) (s.pktL L F) (fun i => F ((s.pktB L).off + i))
  says : ISays w (some ⟨g, 0, none⟩) L F (s.pktS L F) w'
theorem pktTake_any {w : World} {g L : Nat} {F : Nat → Nat} {s : ISt} (h : IAt w (some ⟨g, 0, none⟩) L F s) (hF : ∀ i, F i < 256) (hL : L ≤ 2 ^ 46) :
    Calls Try.prog 103 #[.pointer (some ⟨g, 0, none⟩)] w fun e w' => ∃ a c, PktSays w g L F s a c e w' := by
  have hT := TX.begin h 43 21 PV.zero.v #[.int .u8 0, .int .u8 0, .int .u8 0, .int .u8 0, .int .u8 0, .int .u8 0, .int .u8 0, .int .u8 0, .int .u8 0, .int .u8 0, .int .u8 0, .int .u8 0, .int .u8 0, .int .u8 0, .int .u8 0, .int .u8 0, .int .u8 0, .int .u8 0, .int .u8 0, .int .u8 0, .slice none 0 0] rfl
  have HF := Lib.hid hF
  have HL := Lib.hid hL
  clear h hF hL
  go_enter Try.func103, Try.ntmps103
  go_upto_region 1 with fail
  obtain ⟨B, hB⟩ : ∃ B, B = w.heap.size := ⟨_, rfl⟩
  rw [← hB] at hT ⊢
  generalize w.alloc (.cells #[.int .u8 0, .int .u8 0, .int .u8 0, .int .u8 0, .int .u8 0, .int .u8 0, .int .u8 0, .int .u8 0, .int .u8 0, .int .u8 0, .int .u8 0, .int .u8 0, .int .u8 0, .int .u8 0, .int .u8 0, .int .u8 0, .int .u8 0, .int .u8 0, .int .u8 0, .int .u8 0, .slice none 0 0] 43) = w1 at *
  clear hB
  have HX := Lib.hid (takeDevice_any hT.inn HF.out)
  have HT := Lib.hid hT
  clear hT
  go_wp2_with fail
  go_at_call 70
  refine HX.out.mono ?_
  rintro e w2 ⟨rfl, hs⟩
  have hT := HT.out.call hs
  clear hs HT HX
  obtain ⟨f1, hf1⟩ : ∃ f, f = ISt.devC L F (s) := ⟨_, rfl⟩
  rw [← hf1]
  have HNf1 := Lib.hid hf1
  clear hf1
  obtain ⟨k1, k2⟩ := hT.store (P := Try.prog) 0 26 2 (fun j => .int .u8 (f1 j)) (by decide) (by kernel_rfl) (fun _ _ => rfl) (v' := (PV.mk f1 (fun _ => 0) (fun _ => 0) none 0 0).v) (fun i hi => by unfold PV.v; (repeat' split) <;> first | rfl | omega)
  obtain ⟨w2', hw'⟩ : ∃ W, W = w2.setCells B 0 (rowOf 2 (fun j => .int .u8 (f1 j))).toList := ⟨_, rfl⟩
  rw [← hw'] at k1 k2
  clear hw'
  have HS := Lib.hid k1
  have HT2 := Lib.hid k2
  clear hT k1 k2
  go_upto_region 2 with (first | ((with_reducible refine wpList_here ?_); refine wpList_st (T := 26) (p := .pointer (some ⟨B, 0, none⟩)) (v := .agg (rowOf 2 (fun j => .int .u8 (f1 j)))) (.tmp 5) (.tmp 4) ?_ ?_ ?_ ?_ ?_ HS.out ?_; (· rfl); (· rfl); go_simp; (· kernel_rfl); (· kernel_rfl)))
  have hT := HT2.out
  clear HS HT2
  have HX := Lib.hid (takeDevice_any hT.inn HF.out)
  have HT := Lib.hid hT
  clear hT
  go_wp2_with fail
  go_at_call 70
  refine HX.out.mono ?_
  rintro e w3 ⟨rfl, hs⟩
  have hT := HT.out.call hs
  clear hs HT HX
  obtain ⟨f2, hf2⟩ : ∃ f, f = ISt.devC L F (((s.take L 1).take L 1)) := ⟨_, rfl⟩
  rw [← hf2]
  have HNf2 := Lib.hid hf2
  clear hf2
  obtain ⟨k1, k2⟩ := hT.store (P := Try.prog) 2 26 2 (fun j => .int .u8 (f2 j)) (by decide) (by kernel_rfl) (fun _ _ => rfl) (v' := (PV.mk f1 f2 (fun _ => 0) none 0 0).v) (fun i hi => by unfold PV.v; (repeat' split) <;> first | rfl | omega)
  obtain ⟨w3', hw'⟩ : ∃ W, W = w3.setCells B 2 (rowOf 2 (fun j => .int .u8 (f2 j))).toList := ⟨_, rfl⟩
  rw [← hw'] at k1 k2
  clear hw'
  have HS := Lib.hid k1
  have HT2 := Lib.hid k2
  clear hT k1 k2
  go_upto_region 3 with (first | ((with_reducible refine wpList_here ?_); refine wpList_st (T := 26) (p := .pointer (some ⟨B, 2, none⟩)) (v := .agg (rowOf 2 (fun j => .int .u8 (f2 j)))) (.tmp 8) (.tmp 7) ?_ ?_ ?_ ?_ ?_ HS.out ?_; (· rfl); (· rfl); go_simp; (· kernel_rfl); (· kernel_rfl)))
  have hT := HT2.out
  clear HS HT2
  have HX := Lib.hid (takeFixed_any 4 16 (PV.mk f1 f2 (((((s.take L 1).take L 1).take L 1).take L 1).cF L F 16) none 0 0).v hT (by decide) (fun j hj => PV.v_id (PV.mk f1 f2 (fun _ => 0) none 0 0) j hj) (by decide) HL.out (fun i hi => by unfold PV.v; (repeat' split) <;> first | rfl | omega))
  clear hT
  go_wp2_with fail
  go_at_call 68
  refine HX.out.mono ?_
  rintro e w4 ⟨rfl, hT⟩
  replace hT : TX w w4 g L F (((((s.take L 1).take L 1).take L 1).take L 1).take L 16) B 43 21 (PV.mk f1 f2 (((((s.take L 1).take L 1).take L 1).take L 1).cF L F 16) none 0 0).v := hT
  clear HX
  obtain ⟨f3, hf3⟩ : ∃ f, f = ((((s.take L 1).take L 1).take L 1).take L 1).cF L F 16 := ⟨_, rfl⟩
  rw [← hf3] at hT
  have HF3 := Lib.hid hf3
  clear hf3
  have HX := Lib.hid (inU32_any hT.inn HF.out)
  have hlt := ISt.num_lt L F (((((s.take L 1).take L 1).take L 1).take L 1).take L 16) 4 HF.out
  have HT := Lib.hid hT
  clear hT
  obtain ⟨n4, hn4⟩ : ∃ x, x = (((((s.take L 1).take L 1).take L 1).take L 1).take L 16).num L F 4 := ⟨_, rfl⟩
  rw [← hn4] at HX hlt
  have HN4 := Lib.hid hn4
  have hwr : IntKind.i64.wrap (n4 : Int) = (n4 : Int) := by rw [IntKind.wrap_i64]; omega
  clear hn4
  go_wp2_with fail
  go_at_call 105
  refine HX.out.mono ?_
  rintro e w5 ⟨rfl, hs⟩
  have hT := HT.out.call hs
  clear hs HT HX
  have HX := Lib.hid (inFixed_any (n4 : Int) hT.inn (by omega) (by omega) HL.out)
  have hBB := hT.row.lt
  have HT := Lib.hid hT
  clear hT
  go_wp2_with fail
  go_at_call 104
  refine HX.out.mono ?_
  rintro e w6 ⟨⟨a, c, rfl, hO⟩, hs⟩
  have hT := HT.out.call hs
  clear hs HT HX hwr hlt
  obtain ⟨m, hm⟩ : ∃ m, m = ((((((s.take L 1).take L 1).take L 1).take L 1).take L 16).take L 4).got L (n4 : Int) := ⟨_, rfl⟩
  rw [← hm] at hO ⊢
  have HM := Lib.hid hm
  clear hm
  have HBB := Lib.hid hBB
  clear hBB
  have cc : w6.cell? ⟨B, 20, none⟩ = some (.slice none 0 0) := hT.row.cell 20 (by decide)
  have ff := hT.row.frozen 20
  have hT2 := hT.put 20 (.slice a m c) (by decide) (v' := (PV.mk f1 f2 f3 a m c).v) (fun i hi => by unfold PV.v; (repeat' split) <;> first | rfl | omega)
  have HT2 := Lib.hid hT2
  have hO2 := hO.setOld2 (grown_setCell_new (grown_refl w6 (some B)) ⟨B, 20, none⟩ (.slice a m c) (Or.inr rfl)) HBB.out
  have HO2 := Lib.hid hO2
  clear hT hT2 hO hO2
  go_upto_region 5 with fail
  have hT := HT2.out
  have hO := HO2.out
  obtain ⟨w6', hw'⟩ : ∃ W, W = w6.setCell ⟨B, 20, none⟩ (.slice a m c) := ⟨_, rfl⟩
  rw [← hw'] at hT hO ⊢
  have HO := Lib.hid hO
  clear hw' HT2 cc ff hO HO2
  have HWB := Lib.hid (hT.hB)
  have HLD := Lib.hid (hT.row.load (P := Try.prog) 0 43 21 _ (by decide) (fun j _ => by rw [Nat.zero_add]) (by kernel_rfl) (by kernel_rfl))
  obtain ⟨k1, k2⟩ := hT.store (P := Try.prog) 0 43 21 (PV.mk f1 f2 f3 a m c).v (by decide) (by kernel_rfl) (fun j _ => by exact PV.one _ j) (v' := (PV.mk f1 f2 f3 a m c).v) (fun i hi => by rw [if_pos ⟨Nat.zero_le _, by omega⟩, Nat.sub_zero])
  have HS := Lib.hid k1
  have HK := Lib.hid k2
  clear k1 k2 hT
  go_wp2_with (first | ((with_reducible refine wpList_here ?_); refine wpList_ld (p := .pointer (some ⟨B, 0, none⟩)) 2 ?_ ?_ ?_ HLD.out ?_; (· rfl); go_simp; (· kernel_rfl)) | ((with_reducible refine wpList_here ?_); refine wpList_st (T := 43) (p := .pointer (some ⟨B, 0, none⟩)) (v := .agg (rowOf 21 (PV.mk f1 f2 f3 a m c).v)) (.tmp 2) (.tmp 19) ?_ ?_ ?_ ?_ ?_ HS.out ?_; (· rfl); (· rfl); go_simp; (· kernel_rfl); (· kernel_rfl)))
  exact bodyPost_ret (res_rowAt rfl rfl HK.out.row (by kernel_rfl) (by kernel_rfl)) rfl ⟨a, c, by rw [HNf1.out, HNf2.out, HF3.out, HM.out, HN4.out]; rfl, by rw [show s.pktL L F = m by rw [HM.out, HN4.out]; rfl]; exact (HO.out.setOld2 (grown_setCells B (Or.inr rfl) _ 0 _ (grown_refl _ (some B))) HBB.out).base (Nat.le_of_lt (Nat.lt_of_le_of_lt HWB.out HBB.out)), by unfold ISt.pktS; rw [show s.pktN L F = n4 from HN4.out.symm]; exact HK.out.says⟩
end Go.Proofs.Ytmbefbmpjkbnmaa
namespace Go.Proofs.Ytmbefbmpjkbnmaa
open Go.RowKit

set_option maxRecDepth 100000
set_option maxHeartbeats 4000000

/-- How many there are, of which there may be so many. -/
def ISt.cntS (L : Nat) (F : Nat → Nat) (s : ISt) (most : Int) : ISt := if most < (s.num L F 2 : Int) then (s.take L 2).fail else s.take L 2
def ISt.cntV (L : Nat) (F : Nat → Nat) (s : ISt) (most : Int) : Nat := if most < (s.num L F 2 : Int) then 0 else s.num L F 2
theorem ISt.cntV_lt (L : Nat) (F : Nat → Nat) (s : ISt) (most : Int) (hF : ∀ i, F i < 256) : s.cntV L F most < 65536 := by
  unfold ISt.cntV
  split
  · decide
  · exact ISt.num_lt L F s 2 hF
theorem inCount_any {w : World} {p : Option Addr} {L : Nat} {F : Nat → Nat} {s : ISt} (most : Int) (h : IAt w p L F s) (hF : ∀ i, F i < 256) : Calls Try.prog 133 #[.pointer p, .int .i64 most] w fun e w' => e = .returned (.int .i64 (s.cntV L F most : Nat)) ∧ ISays w p L F (s.cntS L F most) w' := by
  have HN := Lib.hid (inNumber_any 2 h (by decide) hF)
  have hlt := ISt.num_lt L F s 2 hF
  unfold ISt.cntV ISt.cntS
  obtain ⟨v, hv⟩ : ∃ v, v = s.num L F 2 := ⟨_, rfl⟩
  rw [← hv] at hlt ⊢
  have HV := Lib.hid hv
  have l0 : (v : Int) < 65536 := by omega
  clear h hF hv hlt
  by_cases h1 : most < (v : Int)
  · rw [if_pos h1, if_pos h1]
    go_enter Try.func133, Try.ntmps133
    go_wp2_with fail
    go_at_call 126
    refine HN.out.mono ?_
    rintro e w1 ⟨rfl, hE⟩
    rw [← HV.out]
    have HF := Lib.hid (inFail_any hE.st)
    have G1 := Lib.hid hE.gr
    clear hE HN
    go_wp2_with fail
    go_at_call 132
    refine HF.out.mono ?_
    rintro e w2 ⟨rfl, hE⟩
    have HE : Hid (ISays w p L F (s.take L 2).fail w2) := ⟨hE.st, grown_trans G1.out hE.gr⟩
    clear hE HF
    go_wp2_with fail
    go_ret
    exact ⟨rfl, HE.out⟩
  · rw [if_neg h1, if_neg h1]
    have j1 : decide (most < (v : Int)) = false := decide_eq_false h1
    clear h1
    go_enter Try.func133, Try.ntmps133
    go_wp2_with fail
    go_at_call 126
    refine HN.out.mono ?_
    rintro e w1 ⟨rfl, hE⟩
    rw [← HV.out]
    have HE := Lib.hid hE
    clear hE HN
    go_wp2_with fail
    go_ret
    exact ⟨rfl, HE.out⟩
end Go.Proofs.Ytmbefbmpjkbnmaa
namespace Go.Proofs.Ytmbefbmpjkbnmaa
open Go.RowKit

set_option maxRecDepth 100000
set_option maxHeartbeats 4000000

theorem inSized_any {w : World} {p : Option Addr} {L : Nat} {F : Nat → Nat} {s : ISt} (most : Int) (h : IAt w p L F s) (hF : ∀ i, F i < 256) (hL : L ≤ 2 ^ 46) :
    Calls Try.prog 96 #[.pointer p, .int .i64 most] w (Gots w p L F ((s.cntS L F most).take L (s.cntV L F most : Nat)) ((s.cntS L F most).got L (s.cntV L F most : Nat)) (fun i => F ((s.cntS L F most).off + i))) := by
  have HC := Lib.hid (inCount_any most h hF)
  have hlt := ISt.cntV_lt L F s most hF
  generalize s.cntV L F most = k at *
  generalize s.cntS L F most = t at *
  obtain ⟨m, hm⟩ : ∃ m, m = t.got L (k : Nat) := ⟨_, rfl⟩
  rw [← hm]
  have HMM := Lib.hid hm
  clear hm
  have HK := Lib.hid hlt
  have HL := Lib.hid hL
  clear h hF hL hlt
  go_enter Try.func96, Try.ntmps96
  go_wp2_with fail
  go_at_call 133
  refine HC.out.mono ?_
  rintro e w1 ⟨rfl, hE⟩
  have HX := Lib.hid (inFixed_any (k : Nat) hE.st (by omega) (by have := HK.out; omega) HL.out)
  have G1 := Lib.hid hE.gr
  clear hE HC
  go_wp2_with fail
  go_at_call 104
  refine HX.out.mono ?_
  rintro e w2 ⟨⟨a, c, rfl, hO⟩, hE⟩
  rw [← HMM.out] at hO ⊢
  have HO := Lib.hid (hO.base G1.out.size)
  have HE : Hid (ISays w p L F (t.take L (k : Nat)) w2) := ⟨hE.st, grown_trans G1.out hE.gr⟩
  clear hO hE HX
  go_wp2_with fail
  go_ret
  exact ⟨⟨a, c, rfl, HO.out⟩, HE.out⟩
end Go.Proofs.Ytmbefbmpjkbnmaa
namespace Go.Proofs.Ytmbefbmpjkbnmaa
open Go.RowKit

set_option maxRecDepth 100000
set_option maxHeartbeats 4000000

def EV.zero : EV := ⟨fun _ => 0, fun _ => 0, false, SetV.zero, HV.zero, none, 0, 0⟩
/-- What stands next, as an envelope whose box is there: where this begins, how many bytes it has; and what is behind. -/
def ISt.envH (L : Nat) (F : Nat → Nat) (s : ISt) : ISt := ((((((s.take L 1).take L 1).take L 1).take L 1).setS L F).hdrS L)
def ISt.envB (L : Nat) (F : Nat → Nat) (s : ISt) : ISt := (s.envH L F).cntS L F 4096
def ISt.envL (L : Nat) (F : Nat → Nat) (s : ISt) : Nat := (s.envB L F).got L ((s.envH L F).cntV L F 4096 : Nat)
def ISt.envS (L : Nat) (F : Nat → Nat) (s : ISt) : ISt := (s.envB L F).take L ((s.envH L F).cntV L F 4096 : Nat)
def ISt.env (L : Nat) (F : Nat → Nat) (s : ISt) (a : Option Addr) (c : Nat) : EV := ⟨s.devC L F, ((s.take L 1).take L 1).devC L F, decide (((((s.take L 1).take L 1).take L 1).take L 1).num L F 1 = 1), ((((s.take L 1).take L 1).take L 1).take L 1).setV L F, (((((s.take L 1).take L 1).take L 1).take L 1).setS L F).hdr L F, a, s.envL L F, c⟩
structure EnvSays (w : World) (g L : Nat) (F : Nat → Nat) (s : ISt) (a : Option Addr) (c : Nat) (e : Ending) (w' : World) : Prop where
  ex : e = .returned (.agg (rowOf 106 (s.env L F a c).v))
  own : OwnN w' w.heap.size (.slice a (s.envL L F) c) (s.envL L F) (fun i => F ((s.envB L F).off + i))
  says : ISays w (some ⟨g, 0, none⟩) L F (s.envS L F) w'
theorem envTake_any {w : World} {g L : Nat} {F : Nat → Nat} {s : ISt} (h : IAt w (some ⟨g, 0, none⟩) L F s) (hF : ∀ i, F i < 256) (hL : L ≤ 2 ^ 46) :
    Calls Try.prog 94 #[.pointer (some ⟨g, 0, none⟩)] w fun e w' => ∃ a c, EnvSays w g L F s a c e w' := by
  have hT := TX.begin h 41 106 EV.zero.v Try.zeroCells41 (by kernel_rfl)
  have HF := Lib.hid hF
  have HL := Lib.hid hL
  clear h hF hL
  go_enter Try.func94, Try.ntmps94
  go_upto_region 1 with fail
  obtain ⟨B, hB⟩ : ∃ B, B = w.heap.size := ⟨_, rfl⟩
  rw [← hB] at hT ⊢
  generalize w.alloc (.cells Try.zeroCells41 41) = w1 at *
  clear hB
  have HX := Lib.hid (takeDevice_any hT.inn HF.out)
  have HT := Lib.hid hT
  clear hT
  go_wp2_with fail
  go_at_call 70
  refine HX.out.mono ?_
  rintro e w2 ⟨rfl, hs⟩
  have hT := HT.out.call hs
  clear hs HT HX
  obtain ⟨f1, hf1⟩ : ∃ f, f = ISt.devC L F (s) := ⟨_, rfl⟩
  rw [← hf1]
  have HNf1 := Lib.hid hf1
  clear hf1
  obtain ⟨k1, k2⟩ := hT.store (P := Try.prog) 0 26 2 (fun j => .int .u8 (f1 j)) (by decide) (by kernel_rfl) (fun _ _ => rfl) (v' := (EV.mk f1 (fun _ => 0) false SetV.zero HV.zero none 0 0).v) (fun i hi => by unfold EV.v; (repeat' split) <;> first | rfl | omega)
  obtain ⟨w2', hw'⟩ : ∃ W, W = w2.setCells B 0 (rowOf 2 (fun j => .int .u8 (f1 j))).toList := ⟨_, rfl⟩
  rw [← hw'] at k1 k2
  clear hw'
  have HS := Lib.hid k1
  have HT2 := Lib.hid k2
  clear hT k1 k2
  go_upto_region 2 with (first | ((with_reducible refine wpList_here ?_); refine wpList_st (T := 26) (p := .pointer (some ⟨B, 0, none⟩)) (v := .agg (rowOf 2 (fun j => .int .u8 (f1 j)))) (.tmp 5) (.tmp 4) ?_ ?_ ?_ ?_ ?_ HS.out ?_; (· rfl); (· rfl); go_simp; (· kernel_rfl); (· kernel_rfl)))
  have hT := HT2.out
  clear HS HT2
  have HX := Lib.hid (takeDevice_any hT.inn HF.out)
  have HT := Lib.hid hT
  clear hT
  go_wp2_with fail
  go_at_call 70
  refine HX.out.mono ?_
  rintro e w3 ⟨rfl, hs⟩
  have hT := HT.out.call hs
  clear hs HT HX
  obtain ⟨f2, hf2⟩ : ∃ f, f = ISt.devC L F (((s.take L 1).take L 1)) := ⟨_, rfl⟩
  rw [← hf2]
  have HNf2 := Lib.hid hf2
  clear hf2
  obtain ⟨k1, k2⟩ := hT.store (P := Try.prog) 2 26 2 (fun j => .int .u8 (f2 j)) (by decide) (by kernel_rfl) (fun _ _ => rfl) (v' := (EV.mk f1 f2 false SetV.zero HV.zero none 0 0).v) (fun i hi => by unfold EV.v; (repeat' split) <;> first | rfl | omega)
  obtain ⟨w3', hw'⟩ : ∃ W, W = w3.setCells B 2 (rowOf 2 (fun j => .int .u8 (f2 j))).toList := ⟨_, rfl⟩
  rw [← hw'] at k1 k2
  clear hw'
  have HS := Lib.hid k1
  have HT2 := Lib.hid k2
  clear hT k1 k2
  go_upto_region 3 with (first | ((with_reducible refine wpList_here ?_); refine wpList_st (T := 26) (p := .pointer (some ⟨B, 2, none⟩)) (v := .agg (rowOf 2 (fun j => .int .u8 (f2 j)))) (.tmp 8) (.tmp 7) ?_ ?_ ?_ ?_ ?_ HS.out ?_; (· rfl); (· rfl); go_simp; (· kernel_rfl); (· kernel_rfl)))
  have hT := HT2.out
  clear HS HT2
  have HX := Lib.hid (takeSetup_any hT.inn HF.out HL.out)
  have HT := Lib.hid hT
  clear hT
  go_wp2_with fail
  go_at_call 95
  refine HX.out.mono ?_
  rintro e w4 ⟨rfl, hs⟩
  have hT := HT.out.call hs
  clear hs HT HX
  obtain ⟨hs, hhs⟩ : ∃ b, b = decide (((((s.take L 1).take L 1).take L 1).take L 1).num L F 1 = 1) := ⟨_, rfl⟩
  rw [← hhs]
  have HHS := Lib.hid hhs
  obtain ⟨st, hst⟩ : ∃ x, x = ((((s.take L 1).take L 1).take L 1).take L 1).setV L F := ⟨_, rfl⟩
  rw [← hst]
  have HST := Lib.hid hst
  clear hhs hst
  have cc : w4.cell? ⟨B, 4, none⟩ = some (.bool false) := hT.row.cell 4 (by decide)
  have ff := hT.row.frozen 4
  have hT2 := hT.put 4 (.bool hs) (by decide) (v' := (EV.mk f1 f2 hs SetV.zero HV.zero none 0 0).v) (fun i hi => by unfold EV.v; (repeat' split) <;> first | rfl | omega)
  obtain ⟨k1, k2⟩ := hT2.store (P := Try.prog) 5 38 66 st.v (by decide) (by kernel_rfl) (fun j _ => SetV.one _ j) (v' := (EV.mk f1 f2 hs st HV.zero none 0 0).v) (fun i hi => by unfold EV.v; (repeat' split) <;> first | rfl | omega)
  have HS := Lib.hid k1
  have HT2 := Lib.hid k2
  clear hT hT2 k1 k2
  go_upto_region 4 with (first | ((with_reducible refine wpList_here ?_); refine wpList_st (T := 38) (p := .pointer (some ⟨B, 5, none⟩)) (v := .agg (rowOf 66 st.v)) (.tmp 15) (.tmp 13) ?_ ?_ ?_ ?_ ?_ HS.out ?_; (· rfl); (· rfl); go_simp; (· kernel_rfl); (· kernel_rfl)))
  have hT := HT2.out
  obtain ⟨w4', hw'⟩ : ∃ W, W = (w4.setCell ⟨B, 4, none⟩ (.bool hs)).setCells B 5 (rowOf 66 st.v).toList := ⟨_, rfl⟩
  rw [← hw'] at hT ⊢
  clear hw' HS HT2 cc ff
  have HX := Lib.hid (takeHeader_any hT.inn HF.out HL.out)
  have HT := Lib.hid hT
  clear hT
  go_wp2_with fail
  go_at_call 74
  refine HX.out.mono ?_
  rintro e w5 ⟨rfl, hs'⟩
  have hT := HT.out.call hs'
  clear hs' HT HX
  obtain ⟨hd, hhd⟩ : ∃ x, x = (((((s.take L 1).take L 1).take L 1).take L 1).setS L F).hdr L F := ⟨_, rfl⟩
  rw [← hhd]
  have HHD := Lib.hid hhd
  clear hhd
  obtain ⟨k1, k2⟩ := hT.store (P := Try.prog) 71 36 34 hd.v (by decide) (by kernel_rfl) (fun j _ => HV.one _ j) (v' := (EV.mk f1 f2 hs st hd none 0 0).v) (fun i hi => by unfold EV.v; (repeat' split) <;> first | rfl | omega)
  obtain ⟨w5', hw'⟩ : ∃ W, W = w5.setCells B 71 (rowOf 34 hd.v).toList := ⟨_, rfl⟩
  rw [← hw'] at k1 k2
  clear hw'
  have HS := Lib.hid k1
  have HT2 := Lib.hid k2
  clear hT k1 k2
  go_upto_region 5 with (first | ((with_reducible refine wpList_here ?_); refine wpList_st (T := 36) (p := .pointer (some ⟨B, 71, none⟩)) (v := .agg (rowOf 34 hd.v)) (.tmp 18) (.tmp 17) ?_ ?_ ?_ ?_ ?_ HS.out ?_; (· rfl); (· rfl); go_simp; (· kernel_rfl); (· kernel_rfl)))
  have hT := HT2.out
  clear HS HT2
  have HX := Lib.hid (inSized_any 4096 hT.inn HF.out HL.out)
  have hBB := hT.row.lt
  have HBB := Lib.hid hBB
  have HT := Lib.hid hT
  clear hT hBB
  go_wp2_with fail
  go_at_call 96
  refine HX.out.mono ?_
  rintro e w6 ⟨⟨a, c, rfl, hO⟩, hs'⟩
  have hT := HT.out.call hs'
  clear hs' HT HX
  obtain ⟨m, hm⟩ : ∃ m, m = (((((((s.take L 1).take L 1).take L 1).take L 1).setS L F).hdrS L).cntS L F 4096).got L (((((((s.take L 1).take L 1).take L 1).take L 1).setS L F).hdrS L).cntV L F 4096 : Nat) := ⟨_, rfl⟩
  rw [← hm] at hO ⊢
  have HM := Lib.hid hm
  clear hm
  have cc : w6.cell? ⟨B, 105, none⟩ = some (.slice none 0 0) := hT.row.cell 105 (by decide)
  have ff := hT.row.frozen 105
  have hT2 := hT.put 105 (.slice a m c) (by decide) (v' := (EV.mk f1 f2 hs st hd a m c).v) (fun i hi => by unfold EV.v; (repeat' split) <;> first | rfl | omega)
  have HT2 := Lib.hid hT2
  have hO2 := hO.setOld2 (grown_setCell_new (grown_refl w6 (some B)) ⟨B, 105, none⟩ (.slice a m c) (Or.inr rfl)) HBB.out
  have HO2 := Lib.hid hO2
  clear hT hT2 hO hO2
  go_upto_region 6 with fail
  have hT := HT2.out
  have hO := HO2.out
  obtain ⟨w6', hw'⟩ : ∃ W, W = w6.setCell ⟨B, 105, none⟩ (.slice a m c) := ⟨_, rfl⟩
  rw [← hw'] at hT hO ⊢
  have HO := Lib.hid hO
  clear hw' HT2 cc ff hO HO2
  have HWB := Lib.hid (hT.hB)
  have HLD := Lib.hid (hT.row.load (P := Try.prog) 0 41 106 _ (by decide) (fun j _ => by rw [Nat.zero_add]) (by kernel_rfl) (by kernel_rfl))
  obtain ⟨k1, k2⟩ := hT.store (P := Try.prog) 0 41 106 (EV.mk f1 f2 hs st hd a m c).v (by decide) (by kernel_rfl) (fun j _ => by exact EV.one _ j) (v' := (EV.mk f1 f2 hs st hd a m c).v) (fun i hi => by rw [if_pos ⟨Nat.zero_le _, by omega⟩, Nat.sub_zero])
  have HS := Lib.hid k1
  have HK := Lib.hid k2
  clear k1 k2 hT
  go_wp2_with (first | ((with_reducible refine wpList_here ?_); refine wpList_ld (p := .pointer (some ⟨B, 0, none⟩)) 2 ?_ ?_ ?_ HLD.out ?_; (· rfl); go_simp; (· kernel_rfl)) | ((with_reducible refine wpList_here ?_); refine wpList_st (T := 41) (p := .pointer (some ⟨B, 0, none⟩)) (v := .agg (rowOf 106 (EV.mk f1 f2 hs st hd a m c).v)) (.tmp 2) (.tmp 22) ?_ ?_ ?_ ?_ ?_ HS.out ?_; (· rfl); (· rfl); go_simp; (· kernel_rfl); (· kernel_rfl)))
  exact bodyPost_ret (res_rowAt rfl rfl HK.out.row (by kernel_rfl) (by kernel_rfl)) rfl ⟨a, c, by rw [HNf1.out, HNf2.out, HHS.out, HST.out, HHD.out, HM.out]; rfl, by rw [show s.envL L F = m from HM.out.symm]; exact (HO.out.setOld2 (grown_setCells B (Or.inr rfl) _ 0 _ (grown_refl _ (some B))) HBB.out).base (Nat.le_of_lt (Nat.lt_of_le_of_lt HWB.out HBB.out)), HK.out.says⟩
end Go.Proofs.Ytmbefbmpjkbnmaa
namespace Go.Proofs.Ytmbefbmpjkbnmaa
open Go.RowKit

set_option maxRecDepth 100000

/-- Block g holds n elements of sz cells, and room for cap of them; ev i j: cell j of element i. -/
structure OwnE (w : World) (sz g n cap : Nat) (ev : Nat → Nat → Value) : Prop where
  cell : ∀ i j, i < n → j < sz → w.cell? ⟨g, i * sz + j, none⟩ = some (ev i j)
  there : ∀ k, k < cap * sz → (w.cell? ⟨g, k, none⟩).isSome = true
  free : ∀ i, w.frozen? ⟨g, i, none⟩ = false
  le : n ≤ cap
  lt : g < w.heap.size
theorem OwnE.of_block {w w' : World} {sz g n cap : Nat} {ev : Nat → Nat → Value} (h : OwnE w sz g n cap ev) (e : w'.heap[g]? = w.heap[g]?) (hl : g < w'.heap.size) : OwnE w' sz g n cap ev where
  cell := fun i j hi hj => (World.cell?_of_block (a := ⟨g, i * sz + j, none⟩) e).trans (h.cell i j hi hj)
  there := fun k hk => by rw [World.cell?_of_block (a := ⟨g, k, none⟩) e]; exact h.there k hk
  free := fun i => (World.frozen?_of_block (a := ⟨g, i, none⟩) e).trans (h.free i)
  le := h.le
  lt := hl
theorem OwnE.grown {w w' : World} {sz g n cap : Nat} {ev : Nat → Nat → Value} (h : OwnE w sz g n cap ev) {row : Option Nat} (e : w.grownBy w' row) (hr : some g ≠ row) : OwnE w' sz g n cap ev :=
  h.of_block (e.block g h.lt hr) (Nat.lt_of_lt_of_le h.lt e.size)
/-- Nil, or elements that the call has made. -/
structure OwnNE (w : World) (base : Nat) (sz : Nat) (v : Value) (n : Nat) (ev : Nat → Nat → Value) : Prop where
  ex : (v = .slice none 0 0 ∧ n = 0) ∨ ∃ g cap, v = .slice (some ⟨g, 0, none⟩) n cap ∧ OwnE w sz g n cap ev ∧ base ≤ g
theorem OwnNE.nil (w : World) (base sz : Nat) (ev : Nat → Nat → Value) : OwnNE w base sz (.slice none 0 0) 0 ev := ⟨Or.inl ⟨rfl, rfl⟩⟩
theorem OwnNE.grown {w w' : World} {base sz : Nat} {v : Value} {n : Nat} {ev : Nat → Nat → Value} (h : OwnNE w base sz v n ev) {row : Option Nat} (e : w.grownBy w' row) (hr : ∀ k, row = some k → k < base) : OwnNE w' base sz v n ev := by
  rcases h.ex with h | ⟨g, cap, h1, h2, h3⟩
  · exact ⟨Or.inl h⟩
  · exact ⟨Or.inr ⟨g, cap, h1, h2.grown e (fun e' => by have := hr g e'.symm; omega), h3⟩⟩
/-- One more. -/
def snocE (n : Nat) (ev : Nat → Nat → Value) (x : Nat → Value) : Nat → Nat → Value := fun i => if i < n then ev i else x
/-- Elements as a list of cells. -/
def rowsE (sz n : Nat) (ev : Nat → Nat → Value) : List Value := (List.range (n * sz)).map fun k => ev (k / sz) (k % sz)
theorem rowsE_length (sz n : Nat) (ev : Nat → Nat → Value) : (rowsE sz n ev).length = n * sz := by simp [rowsE]
theorem rowsE_get (sz n : Nat) (ev : Nat → Nat → Value) (k : Nat) (h : k < n * sz) : (rowsE sz n ev)[k]? = some (ev (k / sz) (k % sz)) := by simp [rowsE, h]
theorem div_mod_at (sz i j : Nat) (hj : j < sz) : (i * sz + j) / sz = i ∧ (i * sz + j) % sz = j := by
  have h0 : 0 < sz := by omega
  refine ⟨?_, ?_⟩
  · rw [Nat.mul_comm, Nat.mul_add_div h0, Nat.div_eq_of_lt hj, Nat.add_zero]
  · rw [Nat.mul_comm, Nat.mul_add_mod, Nat.mod_eq_of_lt hj]
theorem idx_lt (sz n i j : Nat) (hi : i < n) (hj : j < sz) : i * sz + j < n * sz := by
  have : (i + 1) * sz ≤ n * sz := Nat.mul_le_mul_right sz (by omega)
  rw [Nat.add_mul, Nat.one_mul] at this
  omega
/-- The cells of an element, as a list. -/
def cellsE (sz : Nat) (x : Nat → Value) : List Value := (List.range sz).map x
theorem cellsE_get (sz : Nat) (x : Nat → Value) (j : Nat) (h : j < sz) : (cellsE sz x)[j]? = some (x j) := by simp [cellsE, h]
section
variable {P : Program}
theorem app_E {w : World} {base0 : Nat} {T E : TypeId} {info : TypeInfo} {z : Value} {sz n : Nat} {v : Value} {ev : Nat → Nat → Value} {x : Nat → Value} (ty : TypeId) (b o c : Nat) (hT : P.underlying T = some (.slice E)) (hi : P.info? E = some info) (hz : info.zero = some z) (hsz : info.size = sz) (hby : info.bytes ≤ 128) (hzc : z.cells.size = sz) (hs0 : 0 < sz)
    (h0 : base0 ≤ w.heap.size) (h : OwnNE w base0 sz v n ev) (hx : ∀ j, j < sz → w.cell? ⟨b, o + j, none⟩ = some (x j)) (hone : ∀ j, (x j).oneCell' = true) (hn : n < 2 ^ 38) :
    ∃ a' c' w', (Builtin.append_ #[T, T] ty #[v, .slice (some ⟨b, o, none⟩) 1 c]).run P w = .ok (.slice a' (n + 1) c') w' ∧ OwnNE w' base0 sz (.slice a' (n + 1) c') (n + 1) (snocE n ev x) ∧
      ∃ row, w.grownBy w' row ∧ (∀ k, row = some k → base0 ≤ k) ∧ ∃ g', a' = some ⟨g', 0, none⟩ ∧ ((row = none ∧ w.heap.size ≤ g') ∨ (row = some g' ∧ ∃ c'', v = .slice (some ⟨g', 0, none⟩) n c'')) := by
  have hsrc : Src P info.size T (.slice (some ⟨b, o, none⟩) 1 c) 1 (cellsE sz x) w := by
    refine Src.ofSlice w hT ⟨b, o, none⟩ 1 c (cellsE sz x) (by simp [cellsE, hsz]) (fun j u hj => ?_) (fun u hu => ?_)
    · have hj' : j < sz := by
        have := (List.getElem?_eq_some_iff.1 hj).1
        simpa [cellsE] using this
      rw [cellsE_get sz x j hj'] at hj
      cases hj
      rw [Addr.add_mid]
      exact hx j hj'
    · obtain ⟨j, _, rfl⟩ := List.mem_map.1 hu
      exact hone j
  have grow : ∀ (base : Option Addr) (cap : Nat) (olds : List Value), v = .slice base n cap → cap < n + 1 → olds.length = n * sz → (∀ i j, i < n → j < sz → olds[i * sz + j]? = some (ev i j)) → (Builtin.firstCells info.size n (.slice base n cap)).run P w.drew = .ok olds.toArray w.drew →
      ∃ a' c' w', (Builtin.append_ #[T, T] ty #[v, .slice (some ⟨b, o, none⟩) 1 c]).run P w = .ok (.slice a' (n + 1) c') w' ∧ OwnNE w' base0 sz (.slice a' (n + 1) c') (n + 1) (snocE n ev x) ∧ ∃ row, w.grownBy w' row ∧ (∀ k, row = some k → base0 ≤ k) ∧ ∃ g', a' = some ⟨g', 0, none⟩ ∧ ((row = none ∧ w.heap.size ≤ g') ∨ (row = some g' ∧ ∃ c'', v = .slice (some ⟨g', 0, none⟩) n c'')) := by
    intro base cap olds hv hcap hol hog hold
    subst hv
    have hfit : Builtin.nextslicecap (n + 1) cap * info.bytes ≤ 281474976710656 := by
      have h1 := nextslicecap_le hcap
      have h2 : Builtin.nextslicecap (n + 1) cap * info.bytes ≤ (2 * (n + 1)) * 128 := Nat.mul_le_mul h1 hby
      omega
    have hr := run_append_grow_src w T T ty E info z hT hi hz base n cap olds hold (.slice (some ⟨b, o, none⟩) 1 c) 1 (cellsE sz x) hsrc hcap (by omega) hfit
    have hcg := grownCap_ge w (n + 1) cap E
    generalize grownCap w (n + 1) cap E = cap' at *
    have hb := heap_alloc_new w.drew (.cells ((olds ++ cellsE sz x).toArray ++ Builtin.zeroCells z.cells (cap' - (n + 1))) E)
    have hb' : w.drew.heap.size = w.heap.size := rfl
    rw [hb'] at hb
    have hg := grown_alloc (grown_drew (grown_refl w none)) (.cells ((olds ++ cellsE sz x).toArray ++ Builtin.zeroCells z.cells (cap' - (n + 1))) E)
    have hlen : (olds ++ cellsE sz x).length = (n + 1) * sz := by rw [List.length_append, hol, Nat.add_mul, Nat.one_mul]; simp [cellsE]
    refine ⟨_, _, _, hr, ⟨Or.inr ⟨w.heap.size, cap', rfl, ⟨fun i j hi2 hj => ?_, fun k hk => ?_, fun i => frozen_of_row _ _ _ _ _ hb, hcg, by simp [hb']⟩, h0⟩⟩, none, hg, (fun k e => by cases e), w.heap.size, rfl, Or.inl ⟨rfl, Nat.le_refl _⟩⟩
    · have hlt := idx_lt sz (n + 1) i j hi2 hj
      rw [cell_of_row _ _ _ _ _ _ hb, Array.getElem?_append_left (by rw [List.size_toArray, hlen]; exact hlt)]
      rw [List.getElem?_toArray]
      unfold snocE
      by_cases e : i < n
      · rw [if_pos e, List.getElem?_append_left (by rw [hol]; exact idx_lt sz n i j e hj)]
        exact hog i j e hj
      · obtain rfl : i = n := by omega
        rw [if_neg e, List.getElem?_append_right (by rw [hol]; omega), hol, show i * sz + j - i * sz = j by omega]
        exact cellsE_get sz x j hj
    · have hsize : ((olds ++ cellsE sz x).toArray ++ Builtin.zeroCells z.cells (cap' - (n + 1))).size = cap' * sz := by
        rw [Array.size_append, size_zeroCells, hzc, List.size_toArray, hlen, ← Nat.add_mul]
        congr 1
        omega
      rw [cell_of_row _ _ _ _ _ _ hb, Array.getElem?_eq_getElem (by rw [hsize]; exact hk)]
      rfl
  rcases h.ex with ⟨hv, h00⟩ | ⟨g, cap, hv, h2, h3⟩
  · exact grow none 0 [] (by rw [hv, h00]) (by omega) (by simp [h00]) (fun i j hi2 _ => absurd hi2 (by omega)) (by rw [h00]; exact run_firstCells_none w.drew info.size 0 0 0)
  · by_cases hroom : n + 1 ≤ cap
    · subst hv
      have hcz : (n + 1) * sz ≤ cap * sz := Nat.mul_le_mul_right sz hroom
      rw [Nat.add_mul, Nat.one_mul] at hcz
      have hlx : (cellsE sz x).length = sz := by simp [cellsE]
      have hr := run_append_room_src w T T ty E info hT hi g 0 n cap (.slice (some ⟨b, o, none⟩) 1 c) 1 (cellsE sz x) hsrc hroom
        (fun j hj => by rw [hsz, Nat.zero_add]; exact h2.there _ (by rw [hlx] at hj; omega)) (fun j _ => h2.free _)
      rw [hsz, Nat.zero_add] at hr
      have hout : ∀ k, k < n * sz → (w.setCells g (n * sz) (cellsE sz x)).cell? ⟨g, k, none⟩ = w.cell? ⟨g, k, none⟩ := fun k hk => World.cell?_setCells_out g _ _ w ⟨g, k, none⟩ (fun _ _ => Or.inl hk)
      have hin : ∀ j, j < sz → (w.setCells g (n * sz) (cellsE sz x)).cell? ⟨g, n * sz + j, none⟩ = some (x j) := fun j hj => by
        have := World.cell?_setCells_in g (cellsE sz x) (n * sz) w (fun i hi => h2.there _ (by rw [hlx] at hi; omega)) j (by rw [hlx]; exact hj)
        rw [this]
        simp [cellsE]
      have hg := grown_setCells g (Or.inr rfl) (cellsE sz x) (n * sz) w (grown_refl w (some g))
      refine ⟨_, _, _, hr, ⟨Or.inr ⟨g, cap, rfl, ⟨fun i j hi2 hj => ?_, fun k hk => ?_, fun i => (by rw [World.frozen?_setCells]; exact h2.free i), hroom, Nat.lt_of_lt_of_le h2.lt hg.size⟩, h3⟩⟩, some g, hg, (fun k e => by cases e; exact h3), g, rfl, Or.inr ⟨rfl, cap, rfl⟩⟩
      · unfold snocE
        by_cases e : i < n
        · rw [if_pos e, hout _ (idx_lt sz n i j e hj)]; exact h2.cell i j e hj
        · obtain rfl : i = n := by omega
          rw [if_neg e]; exact hin j hj
      · by_cases e : k < n * sz
        · rw [hout k e]; exact h2.there k hk
        · by_cases e2 : k < n * sz + sz
          · have := hin (k - n * sz) (by omega)
            rw [show n * sz + (k - n * sz) = k by omega] at this
            rw [this]; rfl
          · rw [World.cell?_setCells_out g _ _ w ⟨g, k, none⟩ (fun _ _ => Or.inr (by rw [hlx]; show n * sz + sz ≤ k; omega))]; exact h2.there k hk
    · refine grow (some ⟨g, 0, none⟩) cap (rowsE sz n ev) hv (by omega) (rowsE_length sz n ev) (fun i j hi2 hj => ?_) ?_
      · rw [rowsE_get sz n ev _ (idx_lt sz n i j hi2 hj), (div_mod_at sz i j hj).1, (div_mod_at sz i j hj).2]
      · refine run_firstCells_some w.drew info.size n ⟨g, 0, none⟩ n cap (rowsE sz n ev) (by rw [rowsE_length, hsz]) (fun k u hk => ?_)
        have hk' : k < n * sz := by
          have := (List.getElem?_eq_some_iff.1 hk).1
          rwa [rowsE_length] at this
        rw [rowsE_get sz n ev k hk'] at hk
        cases hk
        rw [Addr.add_mid, Nat.zero_add]
        have := h2.cell (k / sz) (k % sz) (Nat.div_lt_of_lt_mul (by rw [Nat.mul_comm]; exact hk')) (Nat.mod_lt _ hs0)
        rw [Nat.mul_comm, Nat.div_add_mod] at this
        exact this
end
end Go.Proofs.Ytmbefbmpjkbnmaa
namespace Go.Proofs.Ytmbefbmpjkbnmaa
open Go.RowKit

set_option maxRecDepth 100000
set_option maxHeartbeats 4000000

def ISt.isGood : ISt → Bool
  | .good _ => true
  | _ => false
/-- So many devices are taken. -/
def ISt.devs (L : Nat) (s : ISt) : Nat → ISt
  | 0 => s
  | i + 1 => ((ISt.devs L s i).take L 1).take L 1
theorem ISt.take_stay (L : Nat) (s : ISt) (n : Int) (h : s.isGood = false) : s.take L n = s := by
  cases s with
  | nil => rfl
  | bad => rfl
  | good a => cases h
theorem ISt.devs_stay (L : Nat) (s : ISt) (i : Nat) (h : (s.devs L i).isGood = false) : ∀ n, i ≤ n → s.devs L n = s.devs L i
  | 0, hn => by
    obtain rfl : i = 0 := by omega
    rfl
  | n + 1, hn => by
    by_cases e : i = n + 1
    · rw [e]
    · show ((s.devs L n).take L 1).take L 1 = _
      rw [ISt.devs_stay L s i h n (by omega), ISt.take_stay _ _ _ h, ISt.take_stay _ _ _ h]
theorem ISt.cnt_good (L : Nat) (F : Nat → Nat) (s : ISt) (most : Int) (h : (s.cntS L F most).isGood = false) : s.cntV L F most = 0 := by
  unfold ISt.cntV
  by_cases e : most < (s.num L F 2 : Int)
  · rw [if_pos e]
  · rw [if_neg e]
    unfold ISt.cntS at h
    rw [if_neg e] at h
    unfold ISt.num
    cases s with
    | nil => rfl
    | bad => rfl
    | good a =>
      have e2 : ISt.got L (.good a) (2 : Nat) = 0 := by
        show (if 0 ≤ ((2 : Nat) : Int) ∧ ((2 : Nat) : Int) ≤ ((L - a : Nat) : Int) then ((2 : Nat) : Int).toNat else 0) = 0
        by_cases e3 : 0 ≤ ((2 : Nat) : Int) ∧ ((2 : Nat) : Int) ≤ ((L - a : Nat) : Int)
        · exfalso
          have : ISt.take L (.good a) 2 = .good (a + 2) := if_pos e3
          rw [this] at h
          cases h
        · rw [if_neg e3]
      rw [e2]
      rfl
theorem ISt.take_nil (L : Nat) (s : ISt) (n : Int) (h : s.take L n = .nil) : s = .nil := by
  cases s with
  | nil => rfl
  | bad => cases h
  | good a => exact absurd h (by show ¬ (if _ then _ else _) = _; split <;> simp)
/-- How many are handed back. -/
def ISt.dvN (L : Nat) (t : ISt) (k : Nat) : Nat := if (t.devs L k).isGood = true then k else 0
/-- One more device. -/
theorem app_dev {w : World} {base0 n : Nat} {v : Value} {ev : Nat → Nat → Value} {x : Nat → Value} (b o c : Nat) (h0 : base0 ≤ w.heap.size) (h : OwnNE w base0 2 v n ev) (hx : ∀ j, j < 2 → w.cell? ⟨b, o + j, none⟩ = some (x j)) (hone : ∀ j, (x j).oneCell' = true) (hn : n < 2 ^ 38) :
    ∃ a' c' w', (Builtin.append_ #[31, 31] 31 #[v, .slice (some ⟨b, o, none⟩) 1 c]).run Try.prog w = .ok (.slice a' (n + 1) c') w' ∧ OwnNE w' base0 2 (.slice a' (n + 1) c') (n + 1) (snocE n ev x) ∧
      ∃ row, w.grownBy w' row ∧ (∀ k, row = some k → base0 ≤ k) ∧ ∃ g', a' = some ⟨g', 0, none⟩ ∧ ((row = none ∧ w.heap.size ≤ g') ∨ (row = some g' ∧ ∃ c'', v = .slice (some ⟨g', 0, none⟩) n c'')) := by
  have hi : (Try.prog.info? 26).map (fun i => (i.zero.map (fun z => z.cells.size), i.size, decide (i.bytes ≤ 128))) = some (some 2, 2, true) := by kernel_rfl
  obtain ⟨info, he⟩ : ∃ info, Try.prog.info? 26 = some info := by
    cases h : Try.prog.info? 26 with
    | none => rw [h] at hi; cases hi
    | some i => exact ⟨i, rfl⟩
  rw [he] at hi
  obtain ⟨z, hz⟩ : ∃ z, info.zero = some z := by
    cases h : info.zero with
    | none => simp [h] at hi
    | some z => exact ⟨z, rfl⟩
  simp [hz] at hi
  obtain ⟨h1, h2, h3⟩ := hi
  exact app_E (P := Try.prog) (T := 31) (E := 26) 31 b o c (by kernel_rfl) he hz h2 h3 h1 (by decide) h0 h hx hone hn
theorem run_buildD (f : Nat → Nat) (w : World) : (Instr.buildSlice 31 1 #[(0, .agg (rowOf 2 fun j => .int .u8 (f j)))]).run Try.prog w = .ok (.slice (some ⟨w.heap.size, 0, none⟩) 1 1) (w.alloc (.cells (rowOf 2 fun j => .int .u8 (f j)) 26)) := by kernel_rfl
theorem exec_buildD {o : Oper} {a : Act} {w : World} (t : Nat) (f : Nat → Nat) (ho : o.op = .buildSlice 31 1 #[(0, .tmp t)]) (h : a.eval (.tmp t) = .agg (rowOf 2 fun j => .int .u8 (f j))) : (execOp a.eval o).run Try.prog w = .ok (.value (.slice (some ⟨w.heap.size, 0, none⟩) 1 1)) (w.alloc (.cells (rowOf 2 fun j => .int .u8 (f j)) 26)) := by
  unfold execOp
  simp only [ho, h, List.map_toArray, List.map_cons, List.map_nil, Sem.run_bind, run_buildD, Result.andThen_ok, Sem.run_pure]
theorem fn_dev_some (w : World) : (binOp .eql 151 (.func (.func 70) #[] #[]) .nilFunc).run Try.prog w = .ok (.bool false) w := by kernel_rfl
/-- Devices that are handed back. -/
structure TookD (w : World) (g L : Nat) (F : Nat → Nat) (s' : ISt) (N : Nat) (fm : Nat → Nat → Nat) (e : Ending) (w' : World) : Prop where
  ex : ∃ a c, e = .returned (.slice a N c) ∧ OwnNE w' w.heap.size 2 (.slice a N c) N (fun i j => .int .u8 (fm i j))
  says : ISays w (some ⟨g, 0, none⟩) L F s' w'
theorem inDevs_any {w : World} {g L : Nat} {F : Nat → Nat} {s : ISt} (most : Int) (h : IAt w (some ⟨g, 0, none⟩) L F s) (hF : ∀ i, F i < 256) :
    Calls Try.prog 83 #[.pointer (some ⟨g, 0, none⟩), .int .i64 most, .func (.func 70) #[] #[]] w (TookD w g L F ((s.cntS L F most).devs L (s.cntV L F most)) ((s.cntS L F most).dvN L (s.cntV L F most)) (fun i => ((s.cntS L F most).devs L i).devC L F)) := by
  have HC := Lib.hid (inCount_any most h hF)
  have hlt := ISt.cntV_lt L F s most hF
  have hok := ISt.cnt_good L F s most
  have HLT := Lib.hid h.ltS
  generalize s.cntV L F most = k at *
  generalize s.cntS L F most = t at *
  have HOK : Hid (0 < k → t.isGood = true) := fun h0 => by
    by_cases e : t.isGood = true
    · exact e
    · exact absurd (hok (by simpa using e)) (by omega)
  have HFF := Lib.hid hF
  have kk : (k : Int) < 65536 := by omega
  have e0 := fn_dev_some w
  clear h hF hlt hok
  go_enter Try.func83, Try.ntmps83
  go_wp2_with fail
  go_at_call 133
  refine HC.out.mono ?_
  rintro e w1 ⟨rfl, hE⟩
  have HE := Lib.hid hE
  clear hE HC e0
  go_wp2_with fail
  go_loopw [7, 16] (fun u7 u16 wr => ∃ i : Nat, i ≤ k ∧ u16 = .int .i64 i ∧ OwnNE wr w.heap.size 2 u7 i (fun i j => .int .u8 ((t.devs L i).devC L F j : Nat)) ∧ (0 < k → (t.devs L i).isGood = true) ∧ ISays w (some ⟨g, 0, none⟩) L F (t.devs L i) wr) (fun _ u16 _ => k - (intOf u16).toNat)
  case atStart => exact ⟨0, Nat.zero_le _, rfl, OwnNE.nil _ _ _ _, HOK.out, HE.out⟩
  case round =>
    obtain ⟨i, hi, rfl, hO, hok, hE⟩ := hrel
    by_cases hlt : i < k
    · have j1 : (i : Int) < (k : Int) := by omega
      have HL2 := Lib.hid hlt
      have HP := Lib.hid (takeDevice_any hE.st HFF.out)
      have G0 := Lib.hid hE.gr
      obtain ⟨f, hf⟩ : ∃ f, f = (t.devs L i).devC L F := ⟨_, rfl⟩
      have HO := Lib.hid hO
      have HOKI := Lib.hid (hok (by omega))
      have HVV := Lib.hid hf
      clear hO hE hi hlt hok hf
      go_wp2_with fail
      go_at_call 70
      refine HP.out.mono ?_
      rintro e w2 ⟨rfl, hE⟩
      rw [← HVV.out]
      have hg2 := grown_trans G0.out hE.gr
      have hO2 := HO.out.grown hE.gr (fun q e => by
        have := HLT.out
        simp [rowP] at e
        omega)
      have hst : t.devs L (i + 1) = ((t.devs L i).take L 1).take L 1 := rfl
      rw [← hst] at hE
      obtain ⟨t2, ht2⟩ : ∃ t2, t2 = t.devs L (i + 1) := ⟨_, rfl⟩
      have HT2 := Lib.hid ht2
      rw [← ht2] at hE
      have hN := RowAt.new w2 26 2 (fun _ => .int .u8 0) #[.int .u8 0, .int .u8 0] rfl
      obtain ⟨k1, k2⟩ := RowAt.store (P := Try.prog) hN 0 26 2 (fun j => .int .u8 (f j)) (by decide) (by kernel_rfl) (fun _ _ => rfl)
      obtain ⟨w3, hw3⟩ : ∃ W, W = (w2.alloc (.cells #[.int .u8 0, .int .u8 0] 26)).setCells w2.heap.size 0 (rowOf 2 fun j => Value.int .u8 (f j)).toList := ⟨_, rfl⟩
      have g3 : w2.grownBy w3 none := by rw [hw3]; exact grown_setCells w2.heap.size (Or.inl (Nat.le_refl _)) _ 0 _ (World.grownBy_alloc w2 _ none)
      rw [← hw3] at k1 k2
      have hX := k2.congr (v' := fun j => .int .u8 (f j)) fun q hq => by rw [if_pos ⟨Nat.zero_le _, by omega⟩, Nat.sub_zero]
      have HLX := Lib.hid (hX.load (P := Try.prog) 0 26 2 (fun j => .int .u8 (f j)) (by decide) (fun j _ => by rw [Nat.zero_add]) (by kernel_rfl) (by kernel_rfl))
      obtain ⟨xb, hxb⟩ : ∃ xb, xb = w2.heap.size := ⟨_, rfl⟩
      rw [← hxb] at k1 HLX
      have HXB := Lib.hid hxb
      have HS := Lib.hid k1
      have hE3 := hE.st.grown0 g3
      have HG3 := Lib.hid (grown_trans hg2 (grown_some g3))
      have hO3 := hO2.grown g3 (by simp)
      clear hN k1 k2 hw3 hX hxb hst ht2 HP HO
      have hss := hE3.st
      have gA := World.grownBy_alloc w3 (.cells (rowOf 2 fun j => .int .u8 (f j)) 26) none
      have hA := RowAt.new w3 26 2 (fun j => .int .u8 (f j)) _ rfl
      obtain ⟨a4, c4, w4, hap, hO4, row, hgr, hrow, _⟩ := app_dev w3.heap.size 0 1 (by have := HG3.out.size; have := gA.size; omega) (hO3.grown gA (by simp)) (fun j hj => by rw [Nat.zero_add]; exact hA.cell j hj) (fun _ => rfl) (by omega)
      have hE4 : ISays w (some ⟨g, 0, none⟩) L F t2 w4 := ⟨(hE3.grown0 gA).grown hgr (fun g' q hp hq => by cases hp; have := HLT.out; have := hrow q hq; omega), grown_row (grown_row HG3.out gA (by simp)) hgr hrow⟩
      have hO5 : OwnNE w4 w.heap.size 2 (.slice a4 (i + 1) c4) (i + 1) (fun i j => .int .u8 ((t.devs L i).devC L F j : Nat)) := by
        rcases hO4.ex with h | ⟨b, cap, e1, e2, e3⟩
        · exact ⟨Or.inl h⟩
        · refine ⟨Or.inr ⟨b, cap, e1, { e2 with cell := fun q j hq hj => ?_ }, e3⟩⟩
          have := e2.cell q j hq hj
          unfold snocE at this
          by_cases e : q < i
          · rwa [if_pos e] at this
          · obtain rfl : q = i := by omega
            rw [if_neg e, HVV.out] at this
            exact this
      have HAP := Lib.hid hap
      have HE4 := Lib.hid hE4
      have HO5 := Lib.hid hO5
      have HE3 : Hid (ISays w (some ⟨g, 0, none⟩) L F t2 w3) := ⟨hE3, HG3.out⟩
      clear hap hE4 hO5 hO4 hgr hrow gA hA hE hE3 hg2 hO2 hO3 g3 HG3
      cases t2 with
      | nil =>
        exfalso
        have h1 := ISt.take_nil _ _ _ (ISt.take_nil _ _ _ (show ((t.devs L i).take L 1).take L 1 = .nil from HT2.out.symm))
        have h2 := HOKI.out
        rw [h1] at h2
        cases h2
      | bad =>
        obtain ⟨g', e, hc⟩ := hss
        cases e
        have c1 := hc.c1
        have hN : t.dvN L k = 0 := by
          unfold ISt.dvN
          rw [if_neg (by
            rw [ISt.devs_stay L t (i + 1) (by rw [← HT2.out]; rfl) k HL2.out, ← HT2.out]
            simp [ISt.isGood])]
        have hS : t.devs L k = .bad := by rw [ISt.devs_stay L t (i + 1) (by rw [← HT2.out]; rfl) k HL2.out, ← HT2.out]
        have HN := Lib.hid hN
        have HS2 := Lib.hid hS
        clear hc hN hS HAP HE4 HO5
        go_upto_region 7 with (first | ((with_reducible refine wpList_here ?_); refine wpList_st (T := 26) (p := .pointer (some ⟨w2.heap.size, 0, none⟩)) (v := .agg (rowOf 2 fun j => .int .u8 (f j))) (.tmp 8) (.tmp 20) ?_ ?_ ?_ ?_ ?_ (by rw [← HXB.out]; exact HS.out) ?_; (· rfl); (· rfl); go_simp; (· kernel_rfl); (· kernel_rfl)))
        go_wp2_with fail
        go_ret
        exact ⟨⟨none, 0, by rw [HN.out]; rfl, by rw [HN.out]; exact OwnNE.nil _ _ _ _⟩, by rw [HS2.out]; exact HE3.out⟩
      | good a =>
        obtain ⟨g', a', c', e, hc, _⟩ := hss
        cases e
        have c1 := hc.c1
        clear hc
        go_upto_region 7 with (first | ((with_reducible refine wpList_here ?_); refine wpList_st (T := 26) (p := .pointer (some ⟨w2.heap.size, 0, none⟩)) (v := .agg (rowOf 2 fun j => .int .u8 (f j))) (.tmp 8) (.tmp 20) ?_ ?_ ?_ ?_ ?_ (by rw [← HXB.out]; exact HS.out) ?_; (· rfl); (· rfl); go_simp; (· kernel_rfl); (· kernel_rfl)))
        rw [← HXB.out]
        go_wp2_with (first | ((with_reducible refine wpList_here ?_); refine wpList_ld (p := .pointer (some ⟨xb, 0, none⟩)) 8 ?_ ?_ ?_ HLX.out ?_; (· rfl); go_simp; (· kernel_rfl)) | ((with_reducible refine wpList_here ?_); refine wpList_want (v := .slice (some ⟨w3.heap.size, 0, none⟩) 1 1) (w' := w3.alloc (.cells (rowOf 2 fun j => .int .u8 (f j)) 26)) ?_ (exec_buildD 26 f rfl ?_) ?_; go_simp; (· rfl)) | (at_builtin; refine wpList_append_run rfl (.tmp 25) (.tmp 27) 31 31 rfl _ _ _ _ rfl rfl HAP.out ?_))
        go_roundw
        case rel => exact ⟨i + 1, HL2.out, by go_num, HO5.out, fun _ => by rw [← HT2.out]; rfl, by rw [← HT2.out]; exact HE4.out⟩
        case measure =>
          have := HL2.out
          simp [intOf]
          try omega
    · obtain rfl : i = k := by omega
      have j1 : ¬ (i : Int) < (i : Int) := by omega
      have hN : t.dvN L i = i := by
        unfold ISt.dvN
        by_cases h0 : 0 < i
        · rw [if_pos (hok h0)]
        · obtain rfl : i = 0 := by omega
          split <;> rfl
      have HN := Lib.hid hN
      have HE2 := Lib.hid hE
      rcases hO.ex with ⟨rfl, h0⟩ | ⟨g2, cap, rfl, h2⟩
      · have HI := Lib.hid h0
        clear hO hE hi hlt hok hN h0
        go_wp2_with fail
        go_ret
        exact ⟨⟨none, 0, by rw [HN.out, HI.out]; rfl, by rw [HN.out, HI.out]; exact OwnNE.nil _ _ _ _⟩, HE2.out⟩
      · have HO := Lib.hid hO
        clear hO hE hi hlt hok hN h2
        go_wp2_with fail
        go_ret
        exact ⟨⟨some ⟨g2, 0, none⟩, cap, by rw [HN.out]; rfl, by rw [HN.out]; exact HO.out⟩, HE2.out⟩
end Go.Proofs.Ytmbefbmpjkbnmaa
namespace Go.Proofs.Ytmbefbmpjkbnmaa
open Go.RowKit

set_option maxRecDepth 100000
set_option maxHeartbeats 4000000

theorem OwnNE.baseE {w : World} {base base' sz : Nat} {v : Value} {n : Nat} {ev : Nat → Nat → Value} (h : OwnNE w base sz v n ev) (hb : base' ≤ base) : OwnNE w base' sz v n ev := ⟨h.ex.imp id (fun ⟨g, cap, h1, h2, h3⟩ => ⟨g, cap, h1, h2, Nat.le_trans hb h3⟩)⟩
def RV.zero : RV := ⟨fun _ => 0, 0, none, 0, 0⟩
/-- What stands next, as a roster whose members are there: where these begin, and how many they are; which; and what is behind. -/
def ISt.rosH (L : Nat) (s : ISt) : ISt := ((s.take L 16).take L 8)
def ISt.rosB (L : Nat) (F : Nat → Nat) (s : ISt) : ISt := (s.rosH L).cntS L F 32
def ISt.rosN (L : Nat) (F : Nat → Nat) (s : ISt) : Nat := (s.rosH L).cntV L F 32
def ISt.rosL (L : Nat) (F : Nat → Nat) (s : ISt) : Nat := (s.rosB L F).dvN L (s.rosN L F)
def ISt.rosS (L : Nat) (F : Nat → Nat) (s : ISt) : ISt := (s.rosB L F).devs L (s.rosN L F)
def ISt.rosM (L : Nat) (F : Nat → Nat) (s : ISt) (i : Nat) : Nat → Nat := ((s.rosB L F).devs L i).devC L F
def ISt.ros (L : Nat) (F : Nat → Nat) (s : ISt) (a : Option Addr) (c : Nat) : RV := ⟨s.cF L F 16, (s.take L 16).num L F 8, a, s.rosL L F, c⟩
structure RosSays (w : World) (g L : Nat) (F : Nat → Nat) (s : ISt) (a : Option Addr) (c : Nat) (e : Ending) (w' : World) : Prop where
  ex : e = .returned (.agg (rowOf 18 (s.ros L F a c).v))
  own : OwnNE w' w.heap.size 2 (.slice a (s.rosL L F) c) (s.rosL L F) (fun i j => .int .u8 (s.rosM L F i j))
  says : ISays w (some ⟨g, 0, none⟩) L F (s.rosS L F) w'
theorem rosTake_any {w : World} {g L : Nat} {F : Nat → Nat} {s : ISt} (h : IAt w (some ⟨g, 0, none⟩) L F s) (hF : ∀ i, F i < 256) (hL : L ≤ 2 ^ 46) :
    Calls Try.prog 82 #[.pointer (some ⟨g, 0, none⟩)] w fun e w' => ∃ a c, RosSays w g L F s a c e w' := by
  have hT := TX.begin h 33 18 RV.zero.v #[.int .u8 0, .int .u8 0, .int .u8 0, .int .u8 0, .int .u8 0, .int .u8 0, .int .u8 0, .int .u8 0, .int .u8 0, .int .u8 0, .int .u8 0, .int .u8 0, .int .u8 0, .int .u8 0, .int .u8 0, .int .u8 0, .int .u64 0, .slice none 0 0] rfl
  have HF := Lib.hid hF
  have HL := Lib.hid hL
  clear h hF hL
  go_enter Try.func82, Try.ntmps82
  go_upto_region 1 with fail
  obtain ⟨B, hB⟩ : ∃ B, B = w.heap.size := ⟨_, rfl⟩
  rw [← hB] at hT ⊢
  generalize w.alloc (.cells #[.int .u8 0, .int .u8 0, .int .u8 0, .int .u8 0, .int .u8 0, .int .u8 0, .int .u8 0, .int .u8 0, .int .u8 0, .int .u8 0, .int .u8 0, .int .u8 0, .int .u8 0, .int .u8 0, .int .u8 0, .int .u8 0, .int .u64 0, .slice none 0 0] 33) = w1 at *
  clear hB
  have HX := Lib.hid (takeFixed_any 0 16 (RV.mk (s.cF L F 16) 0 none 0 0).v hT (by decide) (fun j hj => RV.v_id RV.zero j hj) (by decide) HL.out (fun i hi => by unfold RV.v; (repeat' split) <;> first | rfl | omega))
  clear hT
  go_wp2_with fail
  go_at_call 68
  refine HX.out.mono ?_
  rintro e w2 ⟨rfl, hT⟩
  replace hT : TX w w2 g L F (s.take L 16) B 33 18 (RV.mk (s.cF L F 16) 0 none 0 0).v := hT
  clear HX
  obtain ⟨f1, hf1⟩ : ∃ f, f = s.cF L F 16 := ⟨_, rfl⟩
  rw [← hf1] at hT
  have HF1 := Lib.hid hf1
  clear hf1
  have HX := Lib.hid (inU64_any hT.inn HF.out)
  have HT := Lib.hid hT
  clear hT
  go_wp2_with fail
  go_at_call 69
  refine HX.out.mono ?_
  rintro e w3 ⟨rfl, hs⟩
  have hT := HT.out.call hs
  obtain ⟨n2, hn2⟩ : ∃ x, x = ((s.take L 16)).num L F 8 := ⟨_, rfl⟩
  rw [← hn2]
  have HNn2 := Lib.hid hn2
  clear HX HT hs hn2
  have cc : w3.cell? ⟨B, 16, none⟩ = some (.int .u64 (0 : Nat)) := hT.row.cell 16 (by decide)
  have ff := hT.row.frozen 16
  have hT2 := hT.put 16 (.int .u64 (n2 : Nat)) (by decide) (v' := (RV.mk f1 n2 none 0 0).v) (fun i hi => by unfold RV.v; (repeat' split) <;> first | rfl | omega)
  have HT2 := Lib.hid hT2
  clear hT hT2
  go_upto_region 3 with fail
  have hT := HT2.out
  obtain ⟨w3', hw'⟩ : ∃ W, W = w3.setCell ⟨B, 16, none⟩ (.int .u64 (n2 : Nat)) := ⟨_, rfl⟩
  rw [← hw'] at hT ⊢
  clear hw' HT2 cc ff
  have HX := Lib.hid (inDevs_any 32 hT.inn HF.out)
  have hBB := hT.row.lt
  have HBB := Lib.hid hBB
  have HT := Lib.hid hT
  clear hT hBB
  go_wp2_with fail
  go_at_call 83
  refine HX.out.mono ?_
  rintro e w4 ⟨⟨a, c, rfl, hO⟩, hs'⟩
  have hT := HT.out.call hs'
  clear hs' HT HX
  obtain ⟨m, hm⟩ : ∃ m, m = (((s.take L 16).take L 8).cntS L F 32).dvN L (((s.take L 16).take L 8).cntV L F 32) := ⟨_, rfl⟩
  rw [← hm] at hO ⊢
  have HM := Lib.hid hm
  clear hm
  have cc : w4.cell? ⟨B, 17, none⟩ = some (.slice none 0 0) := hT.row.cell 17 (by decide)
  have ff := hT.row.frozen 17
  have hT2 := hT.put 17 (.slice a m c) (by decide) (v' := (RV.mk f1 n2 a m c).v) (fun i hi => by unfold RV.v; (repeat' split) <;> first | rfl | omega)
  have HT2 := Lib.hid hT2
  have hO2 := hO.grown (grown_setCell_new (grown_refl w4 (some B)) ⟨B, 17, none⟩ (.slice a m c) (Or.inr rfl)) (fun q e => by cases e; exact HBB.out)
  have HO2 := Lib.hid hO2
  clear hT hT2 hO hO2
  go_upto_region 4 with fail
  have hT := HT2.out
  have hO := HO2.out
  obtain ⟨w4', hw'⟩ : ∃ W, W = w4.setCell ⟨B, 17, none⟩ (.slice a m c) := ⟨_, rfl⟩
  rw [← hw'] at hT hO ⊢
  have HO := Lib.hid hO
  clear hw' HT2 cc ff hO HO2
  have HWB := Lib.hid (hT.hB)
  have HLD := Lib.hid (hT.row.load (P := Try.prog) 0 33 18 _ (by decide) (fun j _ => by rw [Nat.zero_add]) (by kernel_rfl) (by kernel_rfl))
  obtain ⟨k1, k2⟩ := hT.store (P := Try.prog) 0 33 18 (RV.mk f1 n2 a m c).v (by decide) (by kernel_rfl) (fun j _ => by exact RV.one _ j) (v' := (RV.mk f1 n2 a m c).v) (fun i hi => by rw [if_pos ⟨Nat.zero_le _, by omega⟩, Nat.sub_zero])
  have HS := Lib.hid k1
  have HK := Lib.hid k2
  clear k1 k2 hT
  go_wp2_with (first | ((with_reducible refine wpList_here ?_); refine wpList_ld (p := .pointer (some ⟨B, 0, none⟩)) 2 ?_ ?_ ?_ HLD.out ?_; (· rfl); go_simp; (· kernel_rfl)) | ((with_reducible refine wpList_here ?_); refine wpList_st (T := 33) (p := .pointer (some ⟨B, 0, none⟩)) (v := .agg (rowOf 18 (RV.mk f1 n2 a m c).v)) (.tmp 2) (.tmp 13) ?_ ?_ ?_ ?_ ?_ HS.out ?_; (· rfl); (· rfl); go_simp; (· kernel_rfl); (· kernel_rfl)))
  exact bodyPost_ret (res_rowAt rfl rfl HK.out.row (by kernel_rfl) (by kernel_rfl)) rfl ⟨a, c, by rw [HF1.out, HNn2.out, HM.out]; rfl, by rw [show s.rosL L F = m from HM.out.symm]; exact OwnNE.baseE (HO.out.grown (grown_setCells B (Or.inr rfl) _ 0 _ (grown_refl _ (some B))) (fun q e => by cases e; exact HBB.out)) (Nat.le_of_lt (Nat.lt_of_le_of_lt HWB.out HBB.out)), HK.out.says⟩
end Go.Proofs.Ytmbefbmpjkbnmaa
namespace Go.Proofs.Ytmbefbmpjkbnmaa
open Go.RowKit

set_option maxRecDepth 100000
set_option linter.unusedVariables false

/-- A state that is good, and at the end. -/
def gd : ISt := .good 0
theorem RdD.of_own {w : World} {base n c : Nat} {a : Option Addr} {fm : Nat → Nat → Nat} (h : OwnNE w base 2 (.slice a n c) n (fun i j => .int .u8 (fm i j))) : RdD w w.heap.size a n fm where
  ex := fun hn => by
    rcases h.ex with ⟨h1, rfl⟩ | ⟨g, cap, h1, h2, h3⟩
    · omega
    · cases h1
      exact ⟨g, 0, rfl, h2.lt, fun i j hi hj => by rw [Nat.zero_add]; exact h2.cell i j hi hj⟩
theorem own_rd {w : World} {base n c : Nat} {a : Option Addr} {f : Nat → Nat} (h : OwnN w base (.slice a n c) n f) : n ≤ c ∧ Rd w w.heap.size a n f := by
  obtain ⟨a', c', e, h1, h2⟩ := h.rd
  cases e
  exact ⟨h1, h2⟩
def dOk (L : Nat) (F : Nat → Nat) : Bool := (gd.distS L).all L && devMay (gd.dist L F).sd
def hOk (L : Nat) : Bool := (gd.hdrS L).all L
def rOk (L : Nat) (F : Nat → Nat) : Bool := (gd.rosS L F).all L && memMay (gd.rosL L F) (gd.rosM L F)
def eOk (L : Nat) (F : Nat → Nat) : Bool := (gd.envS L F).all L && envMay (gd.env L F none 0)
def pOk (L : Nat) (F : Nat → Nat) : Bool := (gd.pktS L F).all L && pktMay (gd.pkt L F none 0)
def errT (ok : Bool) : Int := if ok = true then 0 else 9
theorem tDist_any (D L c : Nat) (a : Option Addr) (F : Nat → Nat) (w : World) (hR : Rd w D a L F) (hF : ∀ i, F i < 256) (hL : L ≤ 2 ^ 46) :
    Calls Try.prog 25 #[.agg (rowOf 3 codDist), .slice a L c] w fun e w' => e = .returned (.tuple #[.agg (rowOf 52 (if dOk L F = true then gd.dist L F else DV.zero).v), .int .i64 (errT (dOk L F))]) ∧ w.grownBy w' none := by
  have HF := Lib.hid hF
  refine (takeDist_any D L c a F (gd.distS L) (devMay (gd.dist L F).sd) (fun v _ _ => v = (gd.dist L F).v) w hR hL (fun w1 g _ _ h => (distTake_any h HF.out hL).mono fun e w' hs => ⟨_, hs.ex, fun j => DV.one _ j, hs.says, rfl⟩)
    (fun _ v _ _ w3 e _ => by rw [e]; exact distMay_any (gd.dist L F) w3)).mono fun e w' hs => ⟨?_, hs.gr⟩
  obtain ⟨v, _, _, _, rfl, _, rfl, _⟩ := hs.ex
  change Ending.returned (.tuple #[.agg (rowOf 52 (if dOk L F = true then _ else _)), .int .i64 (if dOk L F = true then 0 else 9)]) = _
  unfold errT
  split <;> rfl
theorem tHdr_any (D L c : Nat) (a : Option Addr) (F : Nat → Nat) (w : World) (hR : Rd w D a L F) (hF : ∀ i, F i < 256) (hL : L ≤ 2 ^ 46) :
    Calls Try.prog 30 #[.agg (rowOf 3 codHdr), .slice a L c] w fun e w' => e = .returned (.tuple #[.agg (rowOf 34 (if hOk L = true then gd.hdr L F else HV.zero).v), .int .i64 (errT (hOk L))]) ∧ w.grownBy w' none := by
  have HF := Lib.hid hF
  refine (takeHdr_any D L c a F (gd.hdrS L) (true) (fun v _ _ => v = (gd.hdr L F).v) w hR hL (fun w1 g _ _ h => (takeHeader_any h HF.out hL).mono fun e w' hs => ⟨_, hs.ex, fun j => HV.one _ j, hs.says, rfl⟩)
    (fun _ v _ _ w3 e _ => by rw [e]; exact hdrMay_any (gd.hdr L F).v w3)).mono fun e w' hs => ⟨?_, hs.gr⟩
  obtain ⟨v, _, _, _, rfl, _, rfl, _⟩ := hs.ex
  rw [Bool.and_true]
  unfold errT
  unfold hOk
  split <;> rfl
theorem rosL_le (L : Nat) (F : Nat → Nat) (hF : ∀ i, F i < 256) : gd.rosL L F ≤ 1048576 := by
  unfold ISt.rosL ISt.dvN
  have := ISt.cntV_lt L F (gd.rosH L) 32 hF
  split
  · unfold ISt.rosN; omega
  · omega
theorem tRos_any (D L c : Nat) (a : Option Addr) (F : Nat → Nat) (w : World) (hR : Rd w D a L F) (hF : ∀ i, F i < 256) (hL : L ≤ 2 ^ 46) :
    Calls Try.prog 27 #[.agg (rowOf 3 codRos), .slice a L c] w fun e w' => ∃ a2 c2, e = .returned (.tuple #[.agg (rowOf 18 (if rOk L F = true then gd.ros L F a2 c2 else RV.zero).v), .int .i64 (errT (rOk L F))]) ∧ OwnNE w' w.heap.size 2 (.slice a2 (gd.rosL L F) c2) (gd.rosL L F) (fun i j => .int .u8 (gd.rosM L F i j)) ∧ w.grownBy w' none := by
  have HF := Lib.hid hF
  refine (takeRos_any D L c a F (gd.rosS L F) (memMay (gd.rosL L F) (gd.rosM L F)) (fun v w1 w2 => ∃ a2 c2, v = (gd.ros L F a2 c2).v ∧ OwnNE w2 w1.heap.size 2 (.slice a2 (gd.rosL L F) c2) (gd.rosL L F) (fun i j => .int .u8 (gd.rosM L F i j))) w hR hL (fun w1 g _ _ h => (rosTake_any h HF.out hL).mono fun e w' hs => by
    obtain ⟨a2, c2, h1, h2, h3⟩ := hs
    exact ⟨_, h1, fun j => RV.one _ j, h3, a2, c2, rfl, h2⟩)
    (fun _ v _ w2 w3 hq g3 => by
      obtain ⟨a2, c2, hv, ho⟩ := hq
      rw [hv]; exact rosMay_any w2.heap.size (gd.ros L F a2 c2) (gd.rosM L F) w3 ((RdD.of_own ho).grown g3 (by simp)) (by show gd.rosL L F ≤ 1048576; exact rosL_le L F HF.out))).mono fun e w' hs => ?_
  obtain ⟨v, w1, w2, r, rfl, h1, ⟨a2, c2, rfl, ho⟩, hr, g5⟩ := hs.ex
  refine ⟨a2, c2, ?_, OwnNE.baseE (ho.grown g5 (fun q e => by cases e; exact hr)) h1, hs.gr⟩
  change Ending.returned (.tuple #[.agg (rowOf 18 (if rOk L F = true then _ else _)), .int .i64 (if rOk L F = true then 0 else 9)]) = _
  unfold errT
  split <;> rfl
theorem tEnv_any (D L c : Nat) (a : Option Addr) (F : Nat → Nat) (w : World) (hR : Rd w D a L F) (hF : ∀ i, F i < 256) (hL : L ≤ 2 ^ 46) :
    Calls Try.prog 32 #[.agg (rowOf 3 codEnv), .slice a L c] w fun e w' => ∃ a2 c2, e = .returned (.tuple #[.agg (rowOf 106 (if eOk L F = true then gd.env L F a2 c2 else EV.zero).v), .int .i64 (errT (eOk L F))]) ∧ OwnN w' w.heap.size (.slice a2 (gd.envL L F) c2) (gd.envL L F) (fun i => F ((gd.envB L F).off + i)) ∧ w.grownBy w' none := by
  have HF := Lib.hid hF
  refine (takeEnv_any D L c a F (gd.envS L F) (envMay (gd.env L F none 0)) (fun v w1 w2 => ∃ a2 c2, v = (gd.env L F a2 c2).v ∧ OwnN w2 w1.heap.size (.slice a2 (gd.envL L F) c2) (gd.envL L F) (fun i => F ((gd.envB L F).off + i))) w hR hL (fun w1 g _ _ h => (envTake_any h HF.out hL).mono fun e w' hs => by
    obtain ⟨a2, c2, h1, h2, h3⟩ := hs
    exact ⟨_, h1, fun j => EV.one _ j, h3, a2, c2, rfl, h2⟩)
    (fun _ v _ w2 w3 hq g3 => by
      obtain ⟨a2, c2, hv, _⟩ := hq
      rw [hv]; exact envMay_any (gd.env L F a2 c2) w3)).mono fun e w' hs => ?_
  obtain ⟨v, w1, w2, r, rfl, h1, ⟨a2, c2, rfl, ho⟩, hr, g5⟩ := hs.ex
  refine ⟨a2, c2, ?_, OwnN.base (ho.setOld2 g5 hr) h1, hs.gr⟩
  change Ending.returned (.tuple #[.agg (rowOf 106 (if eOk L F = true then _ else _)), .int .i64 (if eOk L F = true then 0 else 9)]) = _
  unfold errT
  split <;> rfl
theorem tPkt_any (D L c : Nat) (a : Option Addr) (F : Nat → Nat) (w : World) (hR : Rd w D a L F) (hF : ∀ i, F i < 256) (hL : L ≤ 2 ^ 46) :
    Calls Try.prog 35 #[.agg (rowOf 3 codPkt), .slice a L c] w fun e w' => ∃ a2 c2, e = .returned (.tuple #[.agg (rowOf 21 (if pOk L F = true then gd.pkt L F a2 c2 else PV.zero).v), .int .i64 (errT (pOk L F))]) ∧ OwnN w' w.heap.size (.slice a2 (gd.pktL L F) c2) (gd.pktL L F) (fun i => F ((gd.pktB L).off + i)) ∧ w.grownBy w' none := by
  have HF := Lib.hid hF
  refine (takePkt_any D L c a F (gd.pktS L F) (pktMay (gd.pkt L F none 0)) (fun v w1 w2 => ∃ a2 c2, v = (gd.pkt L F a2 c2).v ∧ OwnN w2 w1.heap.size (.slice a2 (gd.pktL L F) c2) (gd.pktL L F) (fun i => F ((gd.pktB L).off + i))) w hR hL (fun w1 g _ _ h => (pktTake_any h HF.out hL).mono fun e w' hs => by
    obtain ⟨a2, c2, h1, h2, h3⟩ := hs
    exact ⟨_, h1, fun j => PV.one _ j, h3, a2, c2, rfl, h2⟩)
    (fun _ v _ w2 w3 hq g3 => by
      obtain ⟨a2, c2, hv, _⟩ := hq
      rw [hv]; exact pktMay_any (gd.pkt L F a2 c2) w3)).mono fun e w' hs => ?_
  obtain ⟨v, w1, w2, r, rfl, h1, ⟨a2, c2, rfl, ho⟩, hr, g5⟩ := hs.ex
  refine ⟨a2, c2, ?_, OwnN.base (ho.setOld2 g5 hr) h1, hs.gr⟩
  change Ending.returned (.tuple #[.agg (rowOf 21 (if pOk L F = true then _ else _)), .int .i64 (if pOk L F = true then 0 else 9)]) = _
  unfold errT
  split <;> rfl
end Go.Proofs.Ytmbefbmpjkbnmaa
namespace Go.Proofs.Ytmbefbmpjkbnmaa
open Go.RowKit

set_option maxRecDepth 100000

def ISt.ok2 : ISt → Bool
  | .good _ => true
  | _ => false
structure CX (w0 w : World) (L : Nat) (F : Nat → Nat) (s : ISt) (R : Nat) (T : TypeId) (N : Nat) (z v : Nat → Value) : Prop where
  cur : CAt w (R + 1) L F s
  res : RowAt w R T N z
  row : RowAt w (R + 2) T N v
  new : w0.heap.size ≤ R
  gr : w0.grownBy w none
section
variable {w0 w w' : World} {L : Nat} {F : Nat → Nat} {s s' : ISt} {R : Nat} {T : TypeId} {N : Nat} {z v v' : Nat → Value}
theorem CX.call (h : CX w0 w L F s R T N z v) (hst : CAt w' (R + 1) L F s') (hgr : w.grownBy w' (some (R + 1))) : CX w0 w' L F s' R T N z v :=
  ⟨hst, h.res.grown hgr (by simp), h.row.grown hgr (by simp), h.new, grown_into h.gr hgr (by have := h.new; omega)⟩
theorem CX.grown (h : CX w0 w L F s R T N z v) (g1 : w.grownBy w' none) : CX w0 w' L F s R T N z v :=
  ⟨h.cur.grown g1 (by simp), h.res.grown g1 (by simp), h.row.grown g1 (by simp), h.new, grown_trans h.gr g1⟩
theorem CX.write (h : CX w0 w L F s R T N z v) (g1 : w.grownBy w' (some (R + 2))) (hr : RowAt w' (R + 2) T N v') : CX w0 w' L F s R T N z v' :=
  ⟨h.cur.grown g1 (fun k e => by cases e; omega), h.res.grown g1 (by simp), hr, h.new, grown_into h.gr g1 (by have := h.new; omega)⟩
theorem CX.put (h : CX w0 w L F s R T N z v) (o : Nat) (x : Value) (ho : o < N) (e : ∀ i, i < N → (if i = o then x else v i) = v' i) : CX w0 (w.setCell ⟨R + 2, o, none⟩ x) L F s R T N z v' :=
  h.write (grown_setCell_new (grown_refl w _) _ _ (Or.inr rfl)) ((h.row.put o x ho).congr e)
theorem CX.store {P : Program} (h : CX w0 w L F s R T N z v) (o : Nat) (U : TypeId) (m : Nat) (u : Nat → Value) (hm : o + m ≤ N) (hi : (P.info? U).map (·.size) = some m) (h1 : ∀ j, j < m → (u j).oneCell' = true) (e : ∀ i, i < N → (if o ≤ i ∧ i < o + m then u (i - o) else v i) = v' i) :
    (Instr.storeAt U (.pointer (some ⟨R + 2, o, none⟩)) (.agg (rowOf m u))).run P w = .ok () (w.setCells (R + 2) o (rowOf m u).toList) ∧ CX w0 (w.setCells (R + 2) o (rowOf m u).toList) L F s R T N z v' := by
  obtain ⟨k1, k2⟩ := RowAt.store (P := P) h.row o U m u hm hi h1
  exact ⟨k1, h.write (grown_setCells (R + 2) (Or.inr rfl) _ o _ (grown_refl w _)) (k2.congr e)⟩
/-- What is handed back is stored. -/
theorem CX.give {P : Program} (h : CX w0 w L F s R T N z v) (u : Nat → Value) (hi : (P.info? T).map (·.size) = some N) (h1 : ∀ j, j < N → (u j).oneCell' = true) :
    (Instr.storeAt T (.pointer (some ⟨R, 0, none⟩)) (.agg (rowOf N u))).run P w = .ok () (w.setCells R 0 (rowOf N u).toList) ∧ RowAt (w.setCells R 0 (rowOf N u).toList) R T N u ∧ w.grownBy (w.setCells R 0 (rowOf N u).toList) (some R) ∧ w0.grownBy (w.setCells R 0 (rowOf N u).toList) none := by
  obtain ⟨k1, k2⟩ := RowAt.store (P := P) h.res 0 T N u (by omega) hi h1
  have g := grown_setCells R (Or.inr rfl) (rowOf N u).toList 0 _ (grown_refl w (some R))
  exact ⟨k1, k2.congr (fun i hi => by rw [if_pos ⟨Nat.zero_le _, by omega⟩, Nat.sub_zero]), g, grown_into h.gr g h.new⟩
/-- The beginning. -/
theorem CX.begin {P : Program} {c : Nat} {a : Option Addr} {Z : Array Value} (hR : Rd w w.heap.size a L F) (hc : L ≤ c) (hL : L ≤ 1048576) (hZ : Z = rowOf N z) (hi : (P.info? T).map (·.size) = some N) (h1 : ∀ j, j < N → (z j).oneCell' = true) :
    (Instr.storeAt T (.pointer (some ⟨w.heap.size + 2, 0, none⟩)) (.agg (rowOf N z))).run P (((w.alloc (.cells Z T)).alloc (.cells #[.slice a L c, .int .i64 0, .bool false] 172)).alloc (.cells Z T)) = .ok () ((((w.alloc (.cells Z T)).alloc (.cells #[.slice a L c, .int .i64 0, .bool false] 172)).alloc (.cells Z T)).setCells (w.heap.size + 2) 0 (rowOf N z).toList) ∧
    CX w ((((w.alloc (.cells Z T)).alloc (.cells #[.slice a L c, .int .i64 0, .bool false] 172)).alloc (.cells Z T)).setCells (w.heap.size + 2) 0 (rowOf N z).toList) L F (.good 0) w.heap.size T N z z := by
  have ga := World.grownBy_alloc w (.cells Z T) none
  have hz := World.size_alloc w (.cells Z T)
  have hn := RowAt.new w T N z _ hZ
  generalize w.alloc (.cells Z T) = w1 at *
  have hC := CAt.new w1 L c a F ((hR.grown ga (by simp)).mono (by omega)) hc hL
  have gb := World.grownBy_alloc w1 (.cells #[.slice a L c, .int .i64 0, .bool false] 172) none
  have hz2 := World.size_alloc w1 (.cells #[.slice a L c, .int .i64 0, .bool false] 172)
  have hn := hn.grown gb (by simp)
  rw [hz] at hC hz2
  generalize w1.alloc (.cells #[.slice a L c, .int .i64 0, .bool false] 172) = w2 at *
  have gc := World.grownBy_alloc w2 (.cells Z T) none
  have hm := RowAt.new w2 T N z _ hZ
  rw [show w2.heap.size = w.heap.size + 2 by omega] at hm
  have hX : CX w (w2.alloc (.cells Z T)) L F (.good 0) w.heap.size T N z z := ⟨hC.grown gc (by simp), hn.grown gc (by simp), hm, Nat.le_refl _, grown_trans (grown_trans ga gb) gc⟩
  exact hX.store 0 T N z (by omega) hi h1 (fun i hi => by rw [if_pos ⟨Nat.zero_le _, by omega⟩, Nat.sub_zero])
end
theorem ISt.take11 (L : Nat) (s : ISt) : (s.take L 1).take L 1 = s.take L 2 := by
  cases s with
  | nil => rfl
  | bad => rfl
  | good a =>
    show ISt.take L (if 0 ≤ (1 : Int) ∧ (1 : Int) ≤ ((L - a : Nat) : Int) then .good (a + (1 : Int).toNat) else .bad) 1 = if 0 ≤ (2 : Int) ∧ (2 : Int) ≤ ((L - a : Nat) : Int) then .good (a + (2 : Int).toNat) else .bad
    by_cases h : 1 ≤ L - a
    · rw [if_pos ⟨by decide, by omega⟩]
      show (if 0 ≤ (1 : Int) ∧ (1 : Int) ≤ ((L - (a + 1) : Nat) : Int) then ISt.good (a + 1 + (1 : Int).toNat) else .bad) = _
      by_cases h2 : 2 ≤ L - a
      · rw [if_pos ⟨by decide, by omega⟩, if_pos ⟨by decide, by omega⟩]; rfl
      · rw [if_neg (by omega), if_neg (by omega)]
    · rw [if_neg (by omega), if_neg (by omega)]
      rfl
/-- Where two bytes are there, they are the same, taken one by one. -/
theorem ISt.devC_cF (L : Nat) (F : Nat → Nat) (s : ISt) (hf : s.fits L 2 = true) (j : Nat) (hj : j < 2) : s.devC L F j = s.cF L F 2 j := by
  cases s with
  | nil => cases hf
  | bad => cases hf
  | good a =>
    have hf : 2 ≤ L - a := of_decide_eq_true hf
    have g1 : ISt.got L (.good a) 1 = 1 := if_pos ⟨by decide, by omega⟩
    have t1 : ISt.take L (.good a) 1 = .good (a + 1) := if_pos ⟨by decide, by omega⟩
    have g2 : ISt.got L (.good (a + 1)) 1 = 1 := if_pos ⟨by decide, by omega⟩
    have f2 : ISt.fits L (.good a) 2 = true := decide_eq_true hf
    unfold ISt.cF
    rw [if_pos f2]
    unfold ISt.devC ISt.num
    rw [t1]
    obtain rfl | rfl : j = 0 ∨ j = 1 := by omega
    · rw [if_pos rfl, show ISt.got L (.good a) ((1 : Nat) : Int) = 1 from g1]
      simp [ofB8, ISt.off]
    · rw [if_neg (by decide), show ISt.got L (.good (a + 1)) ((1 : Nat) : Int) = 1 from g2]
      simp [ofB8, ISt.off]
theorem ISt.take_good (L : Nat) (s : ISt) (n : Nat) (h : (s.take L n).ok2 = true) : s.ok2 = true ∧ s.fits L n = true := by
  cases s with
  | nil => cases h
  | bad => cases h
  | good a =>
    refine ⟨rfl, ?_⟩
    by_cases e : n ≤ L - a
    · exact decide_eq_true e
    · exfalso
      have : ISt.take L (.good a) (n : Int) = .bad := if_neg (by omega)
      rw [this] at h
      cases h
end Go.Proofs.Ytmbefbmpjkbnmaa
namespace Go.Proofs.Ytmbefbmpjkbnmaa
open Go.RowKit

section
variable {P : Program} {md : Region.Mode} {ops : Array Oper} {Q : Exit → Act → World → Prop} {S : World → Prop}
/-- The head (operations below n), in whatever order; S holds behind each of it; then L. -/
def wpAnyT (P : Program) (md : Region.Mode) (ops : Array Oper) (Q : Exit → Act → World → Prop) (S : World → Prop) (n : Nat) (L : Array Bool → Act → World → Prop) : Nat → Array Bool → Act → World → Prop
  | 0, listed, a, w => L listed a w
  | f + 1, listed, a, w => Region.ready md ops listed ≠ [] ∧ ∀ i ∈ Region.ready md ops listed, i < n ∧ wpOp P ops Q i (fun a' w' => S w' ∧ wpAnyT P md ops Q S n L f (listed.setIfInBounds i true) a' w') a w
theorem wpAny_of_T {n g : Nat} {L : Array Bool → Act → World → Prop} (hL : ∀ listed a w, L listed a w → wpAny P md ops Q g listed a w) :
    ∀ (f : Nat) (listed : Array Bool) (a : Act) (w : World), wpAnyT P md ops Q S n L f listed a w → wpAny P md ops Q (f + g) listed a w
  | 0, listed, a, w, h => by rw [Nat.zero_add]; exact hL _ _ _ h
  | f + 1, listed, a, w, h => by
    rw [show f + 1 + g = (f + g) + 1 by omega]
    exact ⟨fun h0 => absurd h0 h.1, fun i hi => wpOp_mono (fun a' w' h' => wpAny_of_T hL f _ a' w' h'.2) (h.2 i hi).2⟩
theorem wpAnyT_first {n i : Nat} {oi : Oper} {v : Value} {L : Array Bool → Act → World → Prop} (hi : ops[i]? = some oi) (hsel : ∀ (j : Nat) (o : Oper) cs b, ops[j]? = some o → o.op ≠ .select cs b)
    (hs : Region.sinkB md ops n = true) (hc : Region.chainB md ops n = true) (hn : n < ops.size) (hin : i < n)
    (hdone : ∀ listed a w, L listed a w → ∀ j ∈ Region.ready md ops listed, n ≤ j) (hQ : ∀ c a w, Q (.panic c) (a.put oi.dst v) w → Q (.panic c) a w) :
    ∀ (f : Nat) (listed : Array Bool) (a : Act) (w : World), HeadInv md ops n listed →
      (∀ j oj, ops[j]? = some oj → j ≠ i → listed.getD j true = false → (∀ e ∈ oj.after, Region.binds md e = true → e.on ≠ i) → oi.apart ops oj = true) →
      i ∈ Region.ready md ops listed → YieldsIf P ops S oi v a → S w →
      wpAnyT P md ops Q S n L f (listed.setIfInBounds i true) (a.put oi.dst v) w → wpAnyT P md ops Q S n L (f + 1) listed a w := by
  intro f
  induction f with
  | zero =>
    intro listed a w inv _ hr hy hS H
    have hun := (mem_ready.1 hr).1
    refine ⟨fun h => (by rw [h] at hr; cases hr), fun j hj => ?_⟩
    have hjn : j < n := by
      rcases Nat.lt_or_ge j n with h | h
      · exact h
      · exact absurd hj (tail_waits hs hc hn inv _ i rfl hin hun j h)
    refine ⟨hjn, ?_⟩
    by_cases hji : j = i
    · subst hji; exact hy.wpOp hi hS ⟨hS, H⟩
    · have := hdone _ _ _ H j (ready_mono hj hji)
      omega
  | succ f ih =>
    intro listed a w inv hfree hr hy hS H
    have hun := (mem_ready.1 hr).1
    refine ⟨fun h => (by rw [h] at hr; cases hr), fun j hj => ?_⟩
    have hjn : j < n := by
      rcases Nat.lt_or_ge j n with h | h
      · exact h
      · exact absurd hj (tail_waits hs hc hn inv _ i rfl hin hun j h)
    refine ⟨hjn, ?_⟩
    by_cases hji : j = i
    · subst hji; exact hy.wpOp hi hS ⟨hS, H⟩
    · have h1 := (H.2 j (ready_mono hj hji)).2
      obtain ⟨hjun, oj, hoj, hall⟩ := mem_ready.1 hj
      have hnot : ∀ e ∈ oj.after, Region.binds md e = true → e.on ≠ i := fun e he hb heq => by
        have h1 := hall e he hb
        rw [heq, getD_both hun] at h1
        cases h1
      have h2 := wpOp_putIf hoj (hfree j oj hoj hji hjun hnot) (fun cs b => hsel i oi cs b hi) (fun cs b => hsel j oj cs b hoj) hQ hy h1
      have hfree' : ∀ k ok, ops[k]? = some ok → k ≠ i → (listed.setIfInBounds j true).getD k true = false →
          (∀ e ∈ ok.after, Region.binds md e = true → e.on ≠ i) → oi.apart ops ok = true := fun k ok hk hki hun hno => by
        refine hfree k ok hk hki ?_ hno
        by_cases hjk : j = k
        · subst hjk; exact hjun
        · rw [getD_set_ne true hjk] at hun; exact hun
      refine wpOp_mono (fun a' w' h3 => ⟨h3.2.1, ih (listed.setIfInBounds j true) a' w' (inv.set hj hjn) hfree' (ready_mono hr (Ne.symm hji)) h3.1 h3.2.1 ?_⟩) h2
      rw [Array.setIfInBounds_comm _ _ hji]
      exact h3.2.2
variable {n i f : Nat} {L : Array Bool → Act → World → Prop} {oi : Oper} {listed : Array Bool} {a : Act} {w : World}
theorem wpAnyT_take {v : Value} (d : Option Tmp) (inv : HeadInv md ops n listed) (hi : ops[i]? = some oi) (hd : oi.dst = d) (hsel : Region.noSelect ops = true) (hs : Region.sinkB md ops n = true) (hc : Region.chainB md ops n = true) (hn : n < ops.size) (hin : i < n)
    (hdone : ∀ listed a w, L listed a w → ∀ j ∈ Region.ready md ops listed, n ≤ j) (hf : Region.free md ops listed i = true) (hr : (Region.ready md ops listed).contains i = true)
    (hQ : ∀ c a w, Q (.panic c) (a.put oi.dst v) w → Q (.panic c) a w) (hy : YieldsIf P ops S oi v a) (hS : S w)
    (h : HeadInv md ops n (listed.setIfInBounds i true) → wpAnyT P md ops Q S n L f (listed.setIfInBounds i true) (a.put d v) w) : wpAnyT P md ops Q S n L (f + 1) listed a w := by
  subst hd
  have hr' : i ∈ Region.ready md ops listed := by simpa using hr
  exact wpAnyT_first hi (Region.noSelect_spec hsel) hs hc hn hin hdone hQ f listed a w inv (Region.free_spec hi hf) hr' hy hS (h (inv.set hr' hin))
theorem wpAnyT_one (hr : Region.ready md ops listed = [i]) (hin : i < n) (h : wpOp P ops Q i (fun a' w' => S w' ∧ wpAnyT P md ops Q S n L f (listed.setIfInBounds i true) a' w') a w) : wpAnyT P md ops Q S n L (f + 1) listed a w :=
  ⟨by rw [hr]; simp, fun j hj => by
    rw [hr] at hj
    obtain rfl : j = i := by simpa using hj
    exact ⟨hin, h⟩⟩
theorem wpAnyT_both {j : Nat} (hr : Region.ready md ops listed = [i, j]) (hin : i < n) (hjn : j < n) (h1 : wpOp P ops Q i (fun a' w' => S w' ∧ wpAnyT P md ops Q S n L f (listed.setIfInBounds i true) a' w') a w)
    (h2 : wpOp P ops Q j (fun a' w' => S w' ∧ wpAnyT P md ops Q S n L f (listed.setIfInBounds j true) a' w') a w) : wpAnyT P md ops Q S n L (f + 1) listed a w :=
  ⟨by rw [hr]; simp, fun k hk => by
    rw [hr] at hk
    rcases (by simpa using hk : k = i ∨ k = j) with rfl | rfl
    · exact ⟨hin, h1⟩
    · exact ⟨hjn, h2⟩⟩
theorem headInv_start (n : Nat) : HeadInv md ops n (Array.replicate ops.size false) :=
  ⟨by simp, fun j oj _ hl => (by rw [getD_replicate_false] at hl; cases hl), fun t _ ht => getD_in (by simpa using ht) (getD_replicate_false _ _)⟩
/-- What is left when the head is done. -/
def TailH (P : Program) (md : Region.Mode) (ops : Array Oper) (Q : Exit → Act → World → Prop) (g : Nat) (lt : Array Bool) (listed : Array Bool) (a : Act) (w : World) : Prop := listed = lt ∧ wpAnyH P md ops Q (fun _ => True) g listed a w
theorem tailH_done {g k : Nat} {lt : Array Bool} (hr : Region.ready md ops lt = [k]) (hk : n ≤ k) : ∀ listed a w, TailH P md ops Q g lt listed a w → ∀ j ∈ Region.ready md ops listed, n ≤ j := fun listed a w h j hj => by
  rw [h.1, hr] at hj
  obtain rfl : j = k := by simpa using hj
  exact hk
theorem wp_region_head {ops : Array Oper} {id : Nat} (S : World → Prop) (n g : Nat) (lt : Array Bool) (hm : P.follows .mixedOrders = true) (hsz : n + g = ops.size) (h : wpAnyT P .any ops Q S n (TailH P .any ops Q g lt) n (Array.replicate ops.size false) a w.drew) : (Code.region id ops true).wp P Q a w := by
  refine wp_region_any hm ?_
  rw [← hsz]
  have := wpAny_of_T (fun listed a w h => wpAny_of_held _ _ _ _ h.2) n _ _ _ h
  rw [← hsz] at this
  exact this
end
end Go.Proofs.Ytmbefbmpjkbnmaa
namespace Go.Proofs.Ytmbefbmpjkbnmaa
open Go.RowKit

set_option maxRecDepth 100000
set_option maxHeartbeats 4000000

/-- What bytes are, as a packet whose bytes are there. -/
def pkt2 (L : Nat) (F : Nat → Nat) (a : Option Addr) (c : Nat) : PV := ⟨(ISt.good 0).cF L F 2, ((ISt.good 0).take L 2).cF L F 2, (((ISt.good 0).take L 2).take L 2).cF L F 16, a, ((((ISt.good 0).take L 2).take L 2).take L ((16 : Nat) : Int)).num L F 4, c⟩
def pOk2 (L : Nat) (F : Nat → Nat) : Bool :=
  match (((((ISt.good 0).take L 2).take L 2).take L ((16 : Nat) : Int)).take L ((4 : Nat) : Int)) with
  | .good p => decide (((((ISt.good 0).take L 2).take L 2).take L ((16 : Nat) : Int)).num L F 4 = L - p) && pktMay (pkt2 L F none 0)
  | _ => false
/-- What bytes are, as an envelope whose box is there. -/
def env2 (L : Nat) (F : Nat → Nat) (a : Option Addr) (c : Nat) : EV := ⟨(ISt.good 0).cF L F 2, ((ISt.good 0).take L 2).cF L F 2, decide ((((ISt.good 0).take L 2).take L 2).num L F 1 = 1), (((ISt.good 0).take L 2).take L 2).setV L F, ((((ISt.good 0).take L 2).take L 2).setS L F).hdr L F, a, (((((ISt.good 0).take L 2).take L 2).setS L F).hdrS L).num L F 2, c⟩
def eOk2 (L : Nat) (F : Nat → Nat) : Bool :=
  match ((((((ISt.good 0).take L 2).take L 2).setS L F).hdrS L).take L ((2 : Nat) : Int)) with
  | .good p => decide ((((((ISt.good 0).take L 2).take L 2).setS L F).hdrS L).num L F 2 ≤ 4096) && decide ((((((ISt.good 0).take L 2).take L 2).setS L F).hdrS L).num L F 2 = L - p) && envMay (env2 L F none 0)
  | _ => false
def ISt.dv2 (L : Nat) (s : ISt) : Nat → ISt
  | 0 => s
  | i + 1 => (ISt.dv2 L s i).take L 2
theorem ISt.dv2_stay (L : Nat) (s : ISt) (i : Nat) (h : (s.dv2 L i).isGood = false) : ∀ n, i ≤ n → s.dv2 L n = s.dv2 L i
  | 0, hn => by
    obtain rfl : i = 0 := by omega
    rfl
  | n + 1, hn => by
    by_cases e : i = n + 1
    · rw [e]
    · show (s.dv2 L n).take L 2 = _
      rw [ISt.dv2_stay L s i h n (by omega), ISt.take_stay _ _ _ h]
theorem wp_region_plainR {P : Program} {Q : Exit → Act → World → Prop} {id : Nat} {ops : Array Oper} {b : Bool} {a : Act} {w : World} (h : (Code.region id ops b).wp P (fun e a' w' => e = .normal ∧ Q .normal a' w') a w) : (Code.region id ops b).wp P Q a w :=
  Code.wp_mono (fun e a' w' h => by
    obtain ⟨rfl, h⟩ := h
    exact h) h
theorem OwnNE.congrE {w : World} {base sz n : Nat} {v : Value} {ev ev' : Nat → Nat → Value} (h : OwnNE w base sz v n ev) (e : ∀ i j, i < n → j < sz → ev i j = ev' i j) : OwnNE w base sz v n ev' := by
  rcases h.ex with h | ⟨g, cap, h1, h2, h3⟩
  · exact ⟨Or.inl h⟩
  · exact ⟨Or.inr ⟨g, cap, h1, { h2 with cell := fun i j hi hj => by rw [← e i j hi hj]; exact h2.cell i j hi hj }, h3⟩⟩
theorem RdD.of_own2 {w : World} {base n c : Nat} {a : Option Addr} {fm : Nat → Nat → Nat} (h : OwnNE w base 2 (.slice a n c) n (fun i j => .int .u8 (fm i j))) : RdD w w.heap.size a n fm where
  ex := fun hn => by
    rcases h.ex with ⟨h1, rfl⟩ | ⟨g, cap, h1, h2, h3⟩
    · omega
    · cases h1
      exact ⟨g, 0, rfl, h2.lt, fun i j hi hj => by rw [Nat.zero_add]; exact h2.cell i j hi hj⟩
/-- What bytes are, as a roster whose members are there. -/
def ros2 (L : Nat) (F : Nat → Nat) (a : Option Addr) (c : Nat) : RV := ⟨(ISt.good 0).cF L F 16, ((ISt.good 0).take L ((16 : Nat) : Int)).num L F 8, a, (((ISt.good 0).take L ((16 : Nat) : Int)).take L ((8 : Nat) : Int)).num L F 2, c⟩
def rOk2 (L : Nat) (F : Nat → Nat) : Bool := decide ((((ISt.good 0).take L ((16 : Nat) : Int)).take L ((8 : Nat) : Int)).num L F 2 ≤ 32) && ((((((ISt.good 0).take L ((16 : Nat) : Int)).take L ((8 : Nat) : Int)).take L ((2 : Nat) : Int))).dv2 L ((((ISt.good 0).take L ((16 : Nat) : Int)).take L ((8 : Nat) : Int)).num L F 2)).all L && memMay ((((ISt.good 0).take L ((16 : Nat) : Int)).take L ((8 : Nat) : Int)).num L F 2) (fun q => ((((((ISt.good 0).take L ((16 : Nat) : Int)).take L ((8 : Nat) : Int)).take L ((2 : Nat) : Int))).dv2 L q).cF L F 2)
end Go.Proofs.Ytmbefbmpjkbnmaa
