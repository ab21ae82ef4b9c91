/-
  The document's Take of a header.
-/
import Derived.Test.YtmbefbmpjkbnmaaHdRefP
import Derived.Test.YtmbefbmpjkbnmaaHdTake
import Derived.Test.YtmbefbmpjkbnmaaStr
import Derived.StillTailTactics
import Derived.BigQuiet
namespace Go.Proofs.Ytmbefbmpjkbnmaa
open Go.RowKit Go.Shelf

set_option maxRecDepth 100000
set_option maxHeartbeats 4000000

structure RTook (w : World) (L : Nat) (F : Nat → Nat) (e : Ending) (w' : World) : Prop where
  ret : e = .returned (.tuple #[.agg #[.int .u64 (ansK L F : Nat), .int .u64 (ansC L F : Nat)], .int .i64 (ansU L F : Nat)])
  gr : w.grownBy w' none
theorem rtook_bad {w w' : World} {L : Nat} {F : Nat → Nat} (h : tkOk L F = false) (g : w.grownBy w' none) : RTook w L F (.returned (.tuple #[.agg #[.int .u64 0, .int .u64 0], .int .i64 0])) w' :=
  ⟨by unfold ansK ansC ansU; simp only [h]; rfl, g⟩
theorem rtook_good {w w' : World} {L K C : Nat} {F : Nat → Nat} (h : tkOk L F = true) (hK : tkK L F = K) (hC : tkC L F = C) (g : w.grownBy w' none) : RTook w L F (.returned (.tuple #[.agg #[.int .u64 (K : Nat), .int .u64 (C : Nat)], .int .i64 (tkUsed F : Nat)])) w' :=
  ⟨by unfold ansK ansC ansU; simp only [h, hK, hC]; rfl, g⟩
theorem two_upd0 (a b x i : Nat) (hi : i < 2) : upd (two a b) 0 x i = two x b i := by
  obtain rfl | rfl : i = 0 ∨ i = 1 := by omega
  · rfl
  · rfl
theorem two_upd1 (a b x i : Nat) (hi : i < 2) : upd (two a b) 1 x i = two a x i := by
  obtain rfl | rfl : i = 0 ∨ i = 1 := by omega
  · rfl
  · rfl
/-- A field's number, i bytes on. -/
def fldAt (d : Nat) (f : Nat → Nat) (i : Nat) : Nat := if d < 8 then d else ofB8 f i
theorem fldAt_zero (d : Nat) (f : Nat → Nat) : fldAt d f 0 = if d < 8 then d else 0 := rfl
theorem fldAt_next (d : Nat) (f : Nat → Nat) (i : Nat) (h : ¬ d < 8) : fldAt d f (i + 1) = 256 * fldAt d f i + f i := by
  unfold fldAt
  rw [if_neg h, if_neg h]
  rfl
theorem fldAt_lt (d : Nat) (f : Nat → Nat) (hf : ∀ i, f i < 256) (i : Nat) (h : ¬ d < 8) (hi : i ≤ 7) : fldAt d f i < 72057594037927936 := by
  unfold fldAt
  rw [if_neg h]
  have h1 := ofB8_lt f hf i
  have h2 : (256 : Nat) ^ i ≤ 256 ^ 7 := Nat.pow_le_pow_right (by decide) hi
  exact Nat.lt_of_lt_of_le h1 h2
theorem fldAt_64 (d : Nat) (f : Nat → Nat) (hf : ∀ i, f i < 256) (i : Nat) (hd : d < 16) (hi : i ≤ 8) : fldAt d f i < 18446744073709551616 := by
  unfold fldAt
  split
  · omega
  · have h1 := ofB8_lt f hf i
    have h2 := pow256 i hi
    omega
theorem fld_sums (K X S : Nat) (hK : K < 72057594037927936) (hX : X < 256) (hS : S = 256 * K + X) : IntKind.u64.wrap (256 * (K : Int)) = ((256 * K : Nat) : Int) ∧ IntKind.u64.wrap (X : Int) = (X : Int) ∧ IntKind.u64.wrap (((256 * K : Nat) : Int) + (X : Int)) = (S : Int) := by
  refine ⟨?_, ?_, ?_⟩
  · rw [IntKind.wrap_u64]; omega
  · rw [IntKind.wrap_u64]; omega
  · rw [IntKind.wrap_u64]; omega
theorem hdP_enters (args : Array Value) (w : World) : (callFunc 48 args).run Try.prog w = .ok (.enter 48 args) w := enters_of Try.func48 (by kernel_rfl) rfl args w
theorem hdRefTake_any (L c D : Nat) (a : Option Addr) (F : Nat → Nat) (w : World) (hR : Rd w D a L F) (hF : ∀ i, F i < 256) (hc : L ≤ c) (hL : L ≤ 2 ^ 46) :
    Calls Try.prog 50 #[.slice a L c] w (RTook w L F) := by
  have ga := World.grownBy_alloc w (.cells #[.int .u64 0, .int .u64 0] 128) none
  have hB := holds_alloc w 128 .u64 2 (fun _ => 0) #[.int .u64 0, .int .u64 0] rfl
  by_cases h0 : L = 0
  · subst h0
    have hno : tkOk 0 F = false := rfl
    have HNO := Lib.hid hno
    clear hno hR hF hL
    go_enter Try.func50, Try.ntmps50
    go_upto_region 1 with fail
    obtain ⟨RB, hRB⟩ : ∃ B, B = w.heap.size := ⟨_, rfl⟩
    rw [← hRB] at hB ⊢
    generalize w.alloc (.cells #[.int .u64 0, .int .u64 0] 128) = w1 at *
    have HRB := Lib.hid hRB
    clear hRB
    have c0 : w1.cell? ⟨RB, 0, none⟩ = some (.int .u64 0) := hB.cell 0 (by decide)
    have c1 : w1.cell? ⟨RB, 1, none⟩ = some (.int .u64 0) := hB.cell 1 (by decide)
    have f0 := hB.frozen 0
    have f1 := hB.frozen 1
    have k1 := (hB.set 0 0).set 1 0
    have k2 := grown_setCell_new (grown_setCell_new ga ⟨RB, 0, none⟩ (.int .u64 (0 : Nat)) (Or.inl (by rw [HRB.out]; exact Nat.le_refl _))) ⟨RB, 1, none⟩ (.int .u64 (0 : Nat)) (Or.inl (by rw [HRB.out]; exact Nat.le_refl _))
    have HK1 := Lib.hid k1
    have HK2 := Lib.hid k2
    clear k1 k2
    go_wp2_with fail
    exact bodyPost_ret (res_h2 rfl rfl rfl HK1.out (by kernel_rfl) (by kernel_rfl)) rfl (rtook_bad HNO.out HK2.out)
  · obtain ⟨tb, o, rfl, p2, p3⟩ := hR.ex (by omega)
    have hC : ByteAt w tb o (F 0) := ⟨p3 0 (by omega)⟩
    have i1 : (L : Int) > 0 := by omega
    have i0 : ((L : Int) == 0) = false := by simp; omega
    have i2 : (L : Int) ≤ 70368744177664 := by omega
    have hb := hF 0
    obtain ⟨d1, hd1⟩ : ∃ d, d = tk1 F := ⟨_, rfl⟩
    obtain ⟨d2, hd2⟩ : ∃ d, d = tk2 F := ⟨_, rfl⟩
    have e1 : (F 0 : Int) / 16 = (d1 : Int) := by rw [hd1]; unfold tk1; omega
    have e2 : (F 0 : Int) % 16 = (d2 : Int) := by rw [hd2]; unfold tk2; omega
    have b1 : d1 < 16 := by omega
    have b2 : d2 < 16 := by omega
    have HR := Lib.hid hR
    have HF := Lib.hid hF
    have HLC := Lib.hid hc
    have HL0 := Lib.hid h0
    have HL := Lib.hid hL
    have HD1 := Lib.hid e1
    have HD2 := Lib.hid e2
    have HT1 := Lib.hid hd1
    have HT2 := Lib.hid hd2
    clear h0 hR hF hc hL p2 p3 hd1 hd2
    go_enter Try.func50, Try.ntmps50
    go_upto_region 1 with fail
    obtain ⟨RB, hRB⟩ : ∃ B, B = w.heap.size := ⟨_, rfl⟩
    rw [← hRB] at hB ⊢
    generalize w.alloc (.cells #[.int .u64 0, .int .u64 0] 128) = w1 at *
    have HB := Lib.hid hB
    have GA := Lib.hid ga
    have HRB := Lib.hid hRB
    have cF := (hC.grown ga).at_
    have HCw := Lib.hid (hC.grown ga)
    clear hB ga hRB hC
    go_upto_if 16 with fail
    go_cut [4] (fun s4 wx => w1 = wx ∧ s4 = .int .i64 (behN d1 : Nat))
    case first =>
      by_cases h8 : d1 < 8
      · have j1 : ¬ ((F 0 : Int) ≥ 128) := by omega
        have E1 := Lib.hid (show behN d1 = 0 by unfold behN; rw [if_pos h8])
        clear e1 e2 h8
        go_wp2_with fail
        go_meet
        case rel => exact ⟨rfl, by rw [E1.out]; go_num⟩
      · have j1 : (F 0 : Int) ≥ 128 := by omega
        have E1 := Lib.hid (show (d1 : Int) - 7 = (behN d1 : Nat) by unfold behN; rw [if_neg h8]; omega)
        have j2 : (d1 : Int) ≥ 8 := by omega
        have j3 : (d1 : Int) < 16 := by omega
        clear e2 h8
        go_wp2_with fail
        go_meet
        case rel => exact ⟨rfl, by rw [E1.out]⟩
    case rest =>
      obtain ⟨rfl, rfl⟩ := hcut
      go_upto_if 27 with fail
      go_cut [5] (fun s5 wx => w1 = wx ∧ s5 = .int .i64 (behN d2 : Nat))
      case first =>
        by_cases h8 : d2 < 8
        · have j1 : ¬ ((d2 : Int) ≥ 8) := by omega
          have E1 := Lib.hid (show behN d2 = 0 by unfold behN; rw [if_pos h8])
          clear e1 h8
          go_wp2_with fail
          go_meet
          case rel => exact ⟨rfl, by rw [E1.out]; go_num⟩
        · have j1 : (d2 : Int) ≥ 8 := by omega
          have E1 := Lib.hid (show (d2 : Int) - 7 = (behN d2 : Nat) by unfold behN; rw [if_neg h8]; omega)
          have j3 : (d2 : Int) < 16 := by omega
          clear e1 h8
          go_wp2_with fail
          go_meet
          case rel => exact ⟨rfl, by rw [E1.out]⟩
      case rest =>
        obtain ⟨rfl, rfl⟩ := hcut
        have hU : tkUsed F = 1 + behN d1 + behN d2 := by rw [HT1.out, HT2.out]; rfl
        have p1 := behN_le d1 b1
        have p2 := behN_le d2 b2
        obtain ⟨n1, hn1⟩ : ∃ n, n = behN d1 := ⟨_, rfl⟩
        obtain ⟨n2, hn2⟩ : ∃ n, n = behN d2 := ⟨_, rfl⟩
        rw [← hn1] at p1 hU ⊢
        rw [← hn2] at p2 hU ⊢
        have HN1 := Lib.hid hn1
        have HN2 := Lib.hid hn2
        have HU := Lib.hid hU
        have j1 : (n1 : Int) ≤ 8 := by omega
        have j2 : (n2 : Int) ≤ 8 := by omega
        clear e1 e2 cF hn1 hn2
        by_cases hs : L < 1 + n1 + n2
        · have j3 : (L : Int) < 1 + n1 + n2 := by omega
          have HNO := Lib.hid (rt_no L F HF.out (fun h => by omega))
          have hBw := HB.out
          clear hU hs
          have c0 : w1.cell? ⟨RB, 0, none⟩ = some (.int .u64 0) := hBw.cell 0 (by decide)
          have c1 : w1.cell? ⟨RB, 1, none⟩ = some (.int .u64 0) := hBw.cell 1 (by decide)
          have f0 := hBw.frozen 0
          have f1 := hBw.frozen 1
          have k1 := (hBw.set 0 0).set 1 0
          have k2 := grown_setCell_new (grown_setCell_new GA.out ⟨RB, 0, none⟩ (.int .u64 (0 : Nat)) (Or.inl (by rw [HRB.out]; exact Nat.le_refl _))) ⟨RB, 1, none⟩ (.int .u64 (0 : Nat)) (Or.inl (by rw [HRB.out]; exact Nat.le_refl _))
          have HK1 := Lib.hid k1
          have HK2 := Lib.hid k2
          clear k1 k2
          go_wp2_with fail
          exact bodyPost_ret (res_h2 rfl rfl rfl HK1.out (by kernel_rfl) (by kernel_rfl)) rfl (rtook_bad HNO.out HK2.out)
        · have j3 : ¬ ((L : Int) < 1 + n1 + n2) := by omega
          have HLE := Lib.hid (show 1 + n1 + n2 ≤ L by omega)
          clear hU hs
          go_upto_region 10 with fail
          obtain ⟨V0, hV0⟩ : ∃ V0, V0 = w1.drew := ⟨_, rfl⟩
          have hv0 : w1.grownBy V0 none := by rw [hV0]; exact grown_drew (grown_refl w1 none)
          have HV0 := Lib.hid hV0.symm
          have GV := Lib.hid (grown_trans GA.out hv0)
          have HBv := Lib.hid (HB.out.grown hv0 (by simp))
          have HC := Lib.hid (HCw.out.grown hv0)
          clear hV0 hv0 HB GA HCw
          refine wp_region_held (S := (fun W => V0.grownBy W none)) (by kernel_rfl) ?_
          change wpAnyH _ _ _ _ _ 13 #[false, false, false, false, false, false, false, false, false, false, false, false, false] _ (World.drew _)
          rw [HV0.out]
          have hS0 : V0.grownBy V0 none := grown_refl V0 _
          refine wpAnyH_takeD (some 42) (i := 0) (v := (.slice (some ⟨tb, o, none⟩) L c)) rfl rfl (by kernel_rfl) (by kernel_rfl) (by kernel_rfl) (fun _ _ _ h => h) (Or.inl ⟨rfl, fun _ _ => rfl⟩) hS0 ?_
          simp only [Act.put, List.setIfInBounds_toArray, List.set_cons_succ, List.set_cons_zero]
          refine wpAnyH_takeD (some 43) (i := 1) (v := (.pointer (some ⟨tb, o, none⟩))) rfl rfl (by kernel_rfl) (by kernel_rfl) (by kernel_rfl) (fun _ _ _ h => h) (Or.inl ⟨rfl, fun _ _ => by go_simp; exact fun e => absurd e HL0.out⟩) hS0 ?_
          simp only [Act.put, List.setIfInBounds_toArray, List.set_cons_succ, List.set_cons_zero]
          refine wpAnyH_takeD (some 44) (i := 2) (v := (.int .u8 (F 0 : Nat))) rfl rfl (by kernel_rfl) (by kernel_rfl) (by kernel_rfl) (fun _ _ _ h => h) (Or.inl ⟨rfl, fun W hW => by have cx := HC.out.grown hW; have cx := cx.at_; go_simp⟩) hS0 ?_
          simp only [Act.put, List.setIfInBounds_toArray, List.set_cons_succ, List.set_cons_zero]
          refine wpAnyH_takeD (some 45) (i := 3) (v := (.int .u8 (d1 : Nat))) rfl rfl (by kernel_rfl) (by kernel_rfl) (by kernel_rfl) (fun _ _ _ h => h) (Or.inl ⟨rfl, fun _ _ => by go_simp; first | exact HD1.out | (rw [IntKind.wrap_u8]; have := HD1.out; omega)⟩) hS0 ?_
          simp only [Act.put, List.setIfInBounds_toArray, List.set_cons_succ, List.set_cons_zero]
          refine wpAnyH_takeD (some 46) (i := 4) (v := (.int .u64 (d1 : Nat))) rfl rfl (by kernel_rfl) (by kernel_rfl) (by kernel_rfl) (fun _ _ _ h => h) (Or.inl ⟨rfl, fun _ _ => by go_simp; exact wrap_nat64 _ (by omega)⟩) hS0 ?_
          simp only [Act.put, List.setIfInBounds_toArray, List.set_cons_succ, List.set_cons_zero]
          refine wpAnyH_takeD (some 47) (i := 5) (v := (.slice (some ⟨tb, o, none⟩) L c)) rfl rfl (by kernel_rfl) (by kernel_rfl) (by kernel_rfl) (fun _ _ _ h => h) (Or.inl ⟨rfl, fun _ _ => rfl⟩) hS0 ?_
          simp only [Act.put, List.setIfInBounds_toArray, List.set_cons_succ, List.set_cons_zero]
          refine wpAnyH_takeD (some 48) (i := 6) (v := (.pointer (some ⟨tb, o, none⟩))) rfl rfl (by kernel_rfl) (by kernel_rfl) (by kernel_rfl) (fun _ _ _ h => h) (Or.inl ⟨rfl, fun _ _ => by go_simp; exact fun e => absurd e HL0.out⟩) hS0 ?_
          simp only [Act.put, List.setIfInBounds_toArray, List.set_cons_succ, List.set_cons_zero]
          refine wpAnyH_takeD (some 49) (i := 7) (v := (.int .u8 (F 0 : Nat))) rfl rfl (by kernel_rfl) (by kernel_rfl) (by kernel_rfl) (fun _ _ _ h => h) (Or.inl ⟨rfl, fun W hW => by have cx := HC.out.grown hW; have cx := cx.at_; go_simp⟩) hS0 ?_
          simp only [Act.put, List.setIfInBounds_toArray, List.set_cons_succ, List.set_cons_zero]
          refine wpAnyH_takeD (some 50) (i := 8) (v := (.int .u8 (d2 : Nat))) rfl rfl (by kernel_rfl) (by kernel_rfl) (by kernel_rfl) (fun _ _ _ h => h) (Or.inl ⟨rfl, fun _ _ => by go_simp; first | exact HD2.out | (rw [IntKind.wrap_u8]; have := HD2.out; omega)⟩) hS0 ?_
          simp only [Act.put, List.setIfInBounds_toArray, List.set_cons_succ, List.set_cons_zero]
          refine wpAnyH_takeD (some 51) (i := 9) (v := (.int .u64 (d2 : Nat))) rfl rfl (by kernel_rfl) (by kernel_rfl) (by kernel_rfl) (fun _ _ _ h => h) (Or.inl ⟨rfl, fun _ _ => by go_simp; exact wrap_nat64 _ (by omega)⟩) hS0 ?_
          simp only [Act.put, List.setIfInBounds_toArray, List.set_cons_succ, List.set_cons_zero]
          refine wpAnyH_takeD (some 52) (i := 10) (v := (.agg #[.int .u64 (d1 : Nat), .int .u64 (d2 : Nat)])) rfl rfl (by kernel_rfl) (by kernel_rfl) (by kernel_rfl) (fun _ _ _ h => h) (Or.inl ⟨rfl, fun _ _ => by go_simp⟩) hS0 ?_
          simp only [Act.put, List.setIfInBounds_toArray, List.set_cons_succ, List.set_cons_zero]
          refine wpAnyH_one (i := 11) (by kernel_rfl) (op_alloc (k := .u64) (n := 2) (T := 128) (some 6) rfl rfl rfl (by unfold execOp; go_simp; rfl) hS0 ?_)
          intro W1 g1 hS1 hN
          simp only [Act.put, List.setIfInBounds_toArray, List.set_cons_succ, List.set_cons_zero]
          refine wpAnyH_one (i := 12) (by kernel_rfl) (op_store 128 6 52 V0.heap.size #[.int .u64 (d1 : Nat), .int .u64 (d2 : Nat)] rfl rfl rfl rfl rfl rfl 128 _ hN.block (by kernel_rfl) rfl (by simp [Value.oneCell']) (grown_setRow_new hS1 _ _ (Or.inl (Nat.le_refl _))) ?_)
          simp only [List.setIfInBounds_toArray, List.set_cons_succ, List.set_cons_zero]
          refine wpAnyH_done (by kernel_rfl) ?_ _
          have hN2 := hN.setRow .u64 2 (two d1 d2)
          have g2 := grown_setRow_new hS1 V0.heap.size (cellsOf .u64 2 (two d1 d2)) (Or.inl (Nat.le_refl _))
          rw [show cellsOf .u64 2 (two d1 d2) = #[.int .u64 (d1 : Nat), .int .u64 (d2 : Nat)] from rfl] at hN2 g2
          obtain ⟨HB, hHB⟩ : ∃ B, B = V0.heap.size := ⟨_, rfl⟩
          rw [← hHB] at hN2 g2 ⊢
          generalize W1.setRow HB #[.int .u64 (d1 : Nat), .int .u64 (d2 : Nat)] = w2 at *
          have HN := Lib.hid hN2
          have HG2 := Lib.hid g2
          have HHB := Lib.hid hHB
          clear hN g1 hS1 hS0 hN2 g2 hHB HV0 HC
          have cH := HN.out.cell 0 (by decide)
          have fH := HN.out.frozen 0
          go_upto_if 54 with fail
          go_cut [6] (fun s6 wx => s6 = .pointer (some ⟨HB, 0, none⟩) ∧ V0.grownBy wx none ∧ Holds wx HB 128 .u64 2 (two (if d1 < 8 then d1 else 0) d2))
          case first =>
            by_cases h8 : d1 < 8
            · have E1 : n1 = 0 := by rw [HN1.out]; unfold behN; rw [if_pos h8]
              have k1 : ¬ ((n1 : Int) > 0) := by omega
              have HN' := Lib.hid (HN.out.congr (g := two (if d1 < 8 then d1 else 0) d2) (fun i _ => by rw [if_pos h8]))
              clear h8 E1 cH fH
              go_wp2_with fail
              go_meet
              case rel => exact ⟨rfl, HG2.out, HN'.out⟩
            · have k1 : (n1 : Int) > 0 := by have := HN1.out; unfold behN at this; rw [if_neg h8] at this; omega
              have HN' := Lib.hid ((HN.out.set 0 0).congr (g := two (if d1 < 8 then d1 else 0) d2) (fun i hi => by rw [if_neg h8]; exact two_upd0 _ _ _ i hi))
              have HG' := Lib.hid (grown_setCell_new HG2.out ⟨HB, 0, none⟩ (.int .u64 (0 : Nat)) (Or.inl (by rw [HHB.out]; exact Nat.le_refl _)))
              clear h8
              go_wp2_with fail
              go_meet
              case rel => exact ⟨rfl, HG'.out, HN'.out⟩
          case rest =>
            obtain ⟨rfl, hg, hN⟩ := hcut
            have HN3 := Lib.hid hN
            have HG3 := Lib.hid hg
            have cH := hN.cell 1 (by decide)
            have fH := hN.frozen 1
            clear hg hN HN HG2
            generalize wc = w3 at *
            go_upto_if 57 with fail
            go_cut [6] (fun s6 wx => s6 = .pointer (some ⟨HB, 0, none⟩) ∧ V0.grownBy wx none ∧ Holds wx HB 128 .u64 2 (two (if d1 < 8 then d1 else 0) (if d2 < 8 then d2 else 0)))
            case first =>
              by_cases h8 : d2 < 8
              · have E1 : n2 = 0 := by rw [HN2.out]; unfold behN; rw [if_pos h8]
                have k1 : ¬ ((n2 : Int) > 0) := by omega
                have HN' := Lib.hid (HN3.out.congr (g := two (if d1 < 8 then d1 else 0) (if d2 < 8 then d2 else 0)) (fun i _ => by rw [if_pos h8]))
                clear h8 E1 cH fH
                go_wp2_with fail
                go_meet
                case rel => exact ⟨rfl, HG3.out, HN'.out⟩
              · have k1 : (n2 : Int) > 0 := by have := HN2.out; unfold behN at this; rw [if_neg h8] at this; omega
                have HN' := Lib.hid ((HN3.out.set 1 0).congr (g := two (if d1 < 8 then d1 else 0) (if d2 < 8 then d2 else 0)) (fun i hi => by rw [if_neg h8]; exact two_upd1 _ _ _ i hi))
                have HG' := Lib.hid (grown_setCell_new HG3.out ⟨HB, 1, none⟩ (.int .u64 (0 : Nat)) (Or.inl (by rw [HHB.out]; exact Nat.le_refl _)))
                clear h8
                go_wp2_with fail
                go_meet
                case rel => exact ⟨rfl, HG'.out, HN'.out⟩
            case rest =>
              obtain ⟨rfl, hg, hN⟩ := hcut
              clear cH fH HN3 HG3
              generalize wc = w4 at *
              rw [← fldAt_zero d1 (fun i => F (1 + i)), ← fldAt_zero d2 (fun i => F (1 + n1 + i))] at hN
              have HN4 := Lib.hid hN
              have HG4 := Lib.hid hg
              clear hN hg
              go_wp2_with fail
              go_loopw [7] (fun u7 wr => ∃ i : Nat, i ≤ n1 ∧ u7 = .int .i64 i ∧ V0.grownBy wr none ∧ Holds wr HB 128 .u64 2 (two (fldAt d1 (fun i => F (1 + i)) i) (fldAt d2 (fun i => F (1 + n1 + i)) 0))) (fun u7 _ => n1 - (intOf u7).toNat)
              case atStart => exact ⟨0, Nat.zero_le _, rfl, HG4.out, HN4.out⟩
              case round =>
                clear HG4 HN4
                obtain ⟨i, hi, rfl, hg, hN⟩ := hrel
                by_cases hlt : i < n1
                · have k1 : (i : Int) < n1 := by omega
                  obtain ⟨V, hV⟩ : ∃ V, V = wr.drew := ⟨_, rfl⟩
                  have gV : wr.grownBy V none := by rw [hV]; exact grown_drew (grown_refl wr none)
                  have HVe := Lib.hid hV.symm
                  have hgV := grown_trans hg gV
                  have hNV := hN.grown gV (by simp)
                  have cK := hNV.cell 0 (by decide)
                  have fK := hNV.frozen 0
                  have hRV := HR.out.grown (grown_trans GV.out hgV) (fun k e => by cases e)
                  obtain ⟨_, _, q1, _, q3⟩ := hRV.ex (by omega)
                  cases q1
                  have cx := q3 (1 + i) (by have := HLE.out; omega)
                  clear q3 hRV
                  obtain ⟨K, hK⟩ : ∃ K, K = fldAt d1 (fun i => F (1 + i)) i := ⟨_, rfl⟩
                  obtain ⟨X, hX⟩ : ∃ X, X = F (1 + i) := ⟨_, rfl⟩
                  rw [show (two (fldAt d1 (fun i => F (1 + i)) i) (fldAt d2 (fun i => F (1 + n1 + i)) 0)) 0 = K from hK.symm] at cK
                  rw [← hX] at cx
                  obtain ⟨m, hm⟩ : ∃ m, m = 1 + i := ⟨_, rfl⟩
                  have xs : IntKind.i64.wrap (1 + (i : Int)) = (m : Int) := by rw [IntKind.wrap_i64]; omega
                  rw [← hm] at cx
                  have k2 : m < L := by have := HLE.out; omega
                  have k3 : (m : Int) < L := by omega
                  have HN5 := Lib.hid hNV
                  have HG5 := Lib.hid hgV
                  have hd8 : ¬ d1 < 8 := fun e => by have := HN1.out; unfold behN at this; rw [if_pos e] at this; omega
                  have hS := fldAt_next d1 (fun i => F (1 + i)) i hd8
                  have hKl := fldAt_lt d1 (fun i => F (1 + i)) (fun i => HF.out _) i hd8 (by omega)
                  have hXl := HF.out (1 + i)
                  obtain ⟨S, hSe⟩ : ∃ S, S = fldAt d1 (fun i => F (1 + i)) (i + 1) := ⟨_, rfl⟩
                  rw [← hSe, ← hK] at hS
                  rw [← hX] at hS
                  rw [← hK] at hKl
                  rw [← hX] at hXl
                  obtain ⟨z1, z2, z3⟩ := fld_sums K X S hKl hXl hS
                  obtain ⟨K2, hK2⟩ : ∃ K2, K2 = 256 * K := ⟨_, rfl⟩
                  rw [← hK2] at z1 z3
                  have k4 := (hNV.set 0 S).congr (g := (two (fldAt d1 (fun i => F (1 + i)) (i + 1)) (fldAt d2 (fun i => F (1 + n1 + i)) 0))) (fun i hi => by rw [← hSe]; exact two_upd0 _ _ _ i hi)
                  have k5 := grown_setCell_new hgV ⟨HB, 0, none⟩ (.int .u64 S) (Or.inl (by rw [HHB.out]; exact Nat.le_refl _))
                  have HK4 := Lib.hid k4
                  have HK5 := Lib.hid k5
                  clear hd8 hS hKl hXl hSe hK2 k4 k5
                  have HLT := Lib.hid hlt
                  clear hK hX hNV hgV gV hV hg hN hlt hi hb b1 b2 p1 p2 hm
                  go_wp2_with fail
                  refine wp_region_still_tail 11 (by kernel_rfl) (by kernel_rfl) ?_
                  change wpStill _ _ (World.drew wr) (fun a' => wpList _ _ _ _ a' (World.drew wr)) _ _
                  rw [HVe.out]
                  simp only [List.take_succ_cons, List.take_zero, List.drop_succ_cons, List.drop_zero]
                  repeat still_step
                  refine wpStill_nil ?_
                  go_wp2_with fail
                  go_roundw
                  case rel => exact ⟨i + 1, by have := HLT.out; omega, by go_num, HK5.out, HK4.out⟩
                  case measure => have := HLT.out; simp [intOf]; omega
                · obtain rfl : n1 = i := by omega
                  have HN6 := Lib.hid hN
                  have HG6 := Lib.hid hg
                  clear hN hg hlt hi
                  obtain ⟨w5, hw5⟩ : ∃ W, W = wr := ⟨_, rfl⟩
                  rw [← hw5] at HN6 HG6 ⊢
                  clear hw5 wr
                  go_wp2_with fail
                  go_loopw [8] (fun u7 wr => ∃ i : Nat, i ≤ n2 ∧ u7 = .int .i64 i ∧ V0.grownBy wr none ∧ Holds wr HB 128 .u64 2 (two (fldAt d1 (fun i => F (1 + i)) n1) (fldAt d2 (fun i => F (1 + n1 + i)) i))) (fun u7 _ => n2 - (intOf u7).toNat)
                  case atStart => exact ⟨0, Nat.zero_le _, rfl, HG6.out, HN6.out⟩
                  case round =>
                    clear HG6 HN6
                    obtain ⟨i, hi, rfl, hg, hN⟩ := hrel
                    by_cases hlt : i < n2
                    · have k1 : (i : Int) < n2 := by omega
                      obtain ⟨V, hV⟩ : ∃ V, V = wr.drew := ⟨_, rfl⟩
                      have gV : wr.grownBy V none := by rw [hV]; exact grown_drew (grown_refl wr none)
                      have HVe := Lib.hid hV.symm
                      have hgV := grown_trans hg gV
                      have hNV := hN.grown gV (by simp)
                      have cK := hNV.cell 1 (by decide)
                      have fK := hNV.frozen 1
                      have hRV := HR.out.grown (grown_trans GV.out hgV) (fun k e => by cases e)
                      obtain ⟨_, _, q1, _, q3⟩ := hRV.ex (by omega)
                      cases q1
                      have cx := q3 (1 + n1 + i) (by have := HLE.out; omega)
                      clear q3 hRV
                      obtain ⟨K, hK⟩ : ∃ K, K = fldAt d2 (fun i => F (1 + n1 + i)) i := ⟨_, rfl⟩
                      obtain ⟨X, hX⟩ : ∃ X, X = F (1 + n1 + i) := ⟨_, rfl⟩
                      rw [show (two (fldAt d1 (fun i => F (1 + i)) n1) (fldAt d2 (fun i => F (1 + n1 + i)) i)) 1 = K from hK.symm] at cK
                      rw [← hX] at cx
                      obtain ⟨m, hm⟩ : ∃ m, m = 1 + n1 + i := ⟨_, rfl⟩
                      obtain ⟨m1, hm1⟩ : ∃ m, m = 1 + n1 := ⟨_, rfl⟩
                      have xs0 : IntKind.i64.wrap (1 + (n1 : Int)) = (m1 : Int) := by rw [IntKind.wrap_i64]; omega
                      have xs : IntKind.i64.wrap ((m1 : Int) + (i : Int)) = (m : Int) := by rw [IntKind.wrap_i64]; omega
                      rw [← hm] at cx
                      have k2 : m < L := by have := HLE.out; omega
                      have k3 : (m : Int) < L := by omega
                      have HN5 := Lib.hid hNV
                      have HG5 := Lib.hid hgV
                      have hd8 : ¬ d2 < 8 := fun e => by have := HN2.out; unfold behN at this; rw [if_pos e] at this; omega
                      have hS := fldAt_next d2 (fun i => F (1 + n1 + i)) i hd8
                      have hKl := fldAt_lt d2 (fun i => F (1 + n1 + i)) (fun i => HF.out _) i hd8 (by omega)
                      have hXl := HF.out (1 + n1 + i)
                      obtain ⟨S, hSe⟩ : ∃ S, S = fldAt d2 (fun i => F (1 + n1 + i)) (i + 1) := ⟨_, rfl⟩
                      rw [← hSe, ← hK] at hS
                      rw [← hX] at hS
                      rw [← hK] at hKl
                      rw [← hX] at hXl
                      obtain ⟨z1, z2, z3⟩ := fld_sums K X S hKl hXl hS
                      obtain ⟨K2, hK2⟩ : ∃ K2, K2 = 256 * K := ⟨_, rfl⟩
                      rw [← hK2] at z1 z3
                      have k4 := (hNV.set 1 S).congr (g := (two (fldAt d1 (fun i => F (1 + i)) n1) (fldAt d2 (fun i => F (1 + n1 + i)) (i + 1)))) (fun i hi => by rw [← hSe]; exact two_upd1 _ _ _ i hi)
                      have k5 := grown_setCell_new hgV ⟨HB, 1, none⟩ (.int .u64 S) (Or.inl (by rw [HHB.out]; exact Nat.le_refl _))
                      have HK4 := Lib.hid k4
                      have HK5 := Lib.hid k5
                      clear hd8 hS hKl hXl hSe hK2 k4 k5
                      have HLT := Lib.hid hlt
                      clear hK hX hNV hgV gV hV hg hN hlt hi hb b1 b2 p1 p2 hm hm1
                      go_wp2_with fail
                      refine wp_region_still_tail 13 (by kernel_rfl) (by kernel_rfl) ?_
                      change wpStill _ _ (World.drew wr) (fun a' => wpList _ _ _ _ a' (World.drew wr)) _ _
                      rw [HVe.out]
                      simp only [List.take_succ_cons, List.take_zero, List.drop_succ_cons, List.drop_zero]
                      repeat still_step
                      refine wpStill_nil ?_
                      go_wp2_with fail
                      go_roundw
                      case rel => exact ⟨i + 1, by have := HLT.out; omega, by go_num, HK5.out, HK4.out⟩
                      case measure => have := HLT.out; simp [intOf]; omega
                    · obtain rfl : n2 = i := by omega
                      have HN7 := Lib.hid hN
                      have HG7 := Lib.hid hg
                      clear hN hg hlt hi
                      go_upto_region 23 with fail
                      have HKe := Lib.hid (show fldAt d1 (fun i => F (1 + i)) n1 = rtK F by rw [HN1.out, HT1.out]; rfl)
                      have HCe := Lib.hid (show fldAt d2 (fun i => F (1 + n1 + i)) n2 = rtC F by rw [HN1.out, HN2.out, HT1.out, HT2.out]; rfl)
                      have HK64 := Lib.hid (fldAt_64 d1 (fun i => F (1 + i)) (fun i => HF.out _) n1 b1 p1)
                      have HC64 := Lib.hid (fldAt_64 d2 (fun i => F (1 + n1 + i)) (fun i => HF.out _) n2 b2 p2)
                      obtain ⟨K, hK⟩ : ∃ K, K = fldAt d1 (fun i => F (1 + i)) n1 := ⟨_, rfl⟩
                      obtain ⟨C, hC⟩ : ∃ K, K = fldAt d2 (fun i => F (1 + n1 + i)) n2 := ⟨_, rfl⟩
                      rw [← hK] at HN7 HKe HK64
                      rw [← hC] at HN7 HCe HC64
                      obtain ⟨V1, hV1⟩ : ∃ V0, V0 = wr.drew := ⟨_, rfl⟩
                      have hv1 : wr.grownBy V1 none := by rw [hV1]; exact grown_drew (grown_refl wr none)
                      have HV1 := Lib.hid hV1.symm
                      have HN8 := Lib.hid (HN7.out.grown hv1 (by simp))
                      have G8 := Lib.hid (grown_trans HG7.out hv1)
                      have hRV := HR.out.grown (grown_trans GV.out G8.out) (fun k e => by cases e)
                      have hUL : tkUsed F ≤ L := by rw [HU.out]; exact HLE.out
                      have HRU : Hid (Rd V1 D (some ⟨tb, o, none⟩) (tkUsed F) F) := Lib.hid ⟨fun _ => by
                        obtain ⟨tb', o', q1, q2, q3⟩ := hRV.ex (by have := HL0.out; omega)
                        exact ⟨tb', o', q1, q2, fun i hi => q3 i (by omega)⟩⟩
                      obtain ⟨m1, hm1⟩ : ∃ m, m = 1 + n1 := ⟨_, rfl⟩
                      have XS1 : Hid (IntKind.i64.wrap (1 + (n1 : Int)) = (m1 : Int)) := Lib.hid (by rw [IntKind.wrap_i64]; omega)
                      obtain ⟨U, hUe⟩ : ∃ U, U = tkUsed F := ⟨_, rfl⟩
                      rw [← hUe] at HRU hUL
                      have hU2 : U = 1 + n1 + n2 := hUe.trans HU.out
                      have XS2 : Hid (IntKind.i64.wrap ((m1 : Int) + (n2 : Int)) = (U : Int)) := Lib.hid (by rw [IntKind.wrap_i64]; omega)
                      have Z1 := Lib.hid (fun W => run_aheadQ (some ⟨tb, o, none⟩) L c U HLC.out hUL W)
                      obtain ⟨sx, hsx⟩ : ∃ s, s = strOf (hdLen K C) (hdF K C) := ⟨_, rfl⟩
                      obtain ⟨sy, hsy⟩ : ∃ s, s = strOf U F := ⟨_, rfl⟩
                      have HSX := Lib.hid hsx
                      have HSY := Lib.hid hsy
                      have HUL := Lib.hid hUL
                      have HUe := Lib.hid hUe
                      have HU2 := Lib.hid hU2
                      have HB8 := Lib.hid (HBv.out.grown G8.out (by simp))
                      have GW8 := Lib.hid (grown_trans GV.out G8.out)
                      have hiff := strOf_inj (hdLen K C) U (hdF K C) F (hdF_lt K C) HF.out
                      rw [← hsx, ← hsy] at hiff
                      clear hV1 hv1 hRV hUL hm1 hUe hU2 hsx hsy HN7 HG7 hK hC
                      by_cases hsame : rtSame F
                      · have hxy : sx = sy := hiff.2 (by
                          obtain ⟨q1, q2⟩ := hsame
                          rw [← HKe.out, ← HCe.out, ← HUe.out] at q1 q2
                          exact ⟨q1, fun i hi => q2 i (by rw [← q1]; exact hi)⟩)
                        obtain ⟨t1, t2, t3⟩ := rt_yes L F HF.out (by have := HL0.out; omega) (by rw [← HUe.out]; exact HUL.out) hsame
                        have T1 := Lib.hid t1
                        have T2 := Lib.hid (t2.trans HKe.out.symm)
                        have T3 := Lib.hid (t3.trans HCe.out.symm)
                        subst hxy
                        clear hiff hsame t1 t2 t3
                        refine wp_region_held (S := (fun W => V1.grownBy W none)) (by kernel_rfl) ?_
                        change wpAnyH _ _ _ _ _ 11 #[false, false, false, false, false, false, false, false, false, false, false] _ (World.drew _)
                        rw [HV1.out]
                        have hS0 : V1.grownBy V1 none := grown_refl V1 _
                        refine wpAnyH_takeD (some 93) (i := 0) (v := (.agg #[.int .u64 (K : Nat), .int .u64 (C : Nat)])) rfl rfl (by kernel_rfl) (by kernel_rfl) (by kernel_rfl) (fun _ _ _ h => h) (Or.inl ⟨rfl, fun W hW => by have c0 := (HN8.out.grown hW (by simp)).cell 0 (by decide); have c1 := (HN8.out.grown hW (by simp)).cell 1 (by decide); rw [show two K C 0 = K from rfl] at c0; rw [show two K C 1 = C from rfl] at c1; go_simp⟩) hS0 ?_
                        simp only [Act.put, List.setIfInBounds_toArray, List.set_cons_succ, List.set_cons_zero]
                        refine wpAnyH_takeD (some 96) (i := 3) (v := (.slice (some ⟨tb, o, none⟩) L c)) rfl rfl (by kernel_rfl) (by kernel_rfl) (by kernel_rfl) (fun _ _ _ h => h) (Or.inl ⟨rfl, fun _ _ => rfl⟩) hS0 ?_
                        simp only [Act.put, List.setIfInBounds_toArray, List.set_cons_succ, List.set_cons_zero]
                        refine wpAnyH_takeD (some 97) (i := 4) (v := (.int .i64 (n1 : Nat))) rfl rfl (by kernel_rfl) (by kernel_rfl) (by kernel_rfl) (fun _ _ _ h => h) (Or.inl ⟨rfl, fun _ _ => rfl⟩) hS0 ?_
                        simp only [Act.put, List.setIfInBounds_toArray, List.set_cons_succ, List.set_cons_zero]
                        refine wpAnyH_takeD (some 98) (i := 5) (v := (.int .i64 (m1 : Nat))) rfl rfl (by kernel_rfl) (by kernel_rfl) (by kernel_rfl) (fun _ _ _ h => h) (Or.inl ⟨rfl, fun _ _ => by go_simp; exact XS1.out⟩) hS0 ?_
                        simp only [Act.put, List.setIfInBounds_toArray, List.set_cons_succ, List.set_cons_zero]
                        refine wpAnyH_takeD (some 99) (i := 6) (v := (.int .i64 (n2 : Nat))) rfl rfl (by kernel_rfl) (by kernel_rfl) (by kernel_rfl) (fun _ _ _ h => h) (Or.inl ⟨rfl, fun _ _ => rfl⟩) hS0 ?_
                        simp only [Act.put, List.setIfInBounds_toArray, List.set_cons_succ, List.set_cons_zero]
                        refine wpAnyH_takeD (some 100) (i := 7) (v := (.int .i64 (U : Nat))) rfl rfl (by kernel_rfl) (by kernel_rfl) (by kernel_rfl) (fun _ _ _ h => h) (Or.inl ⟨rfl, fun _ _ => by go_simp; exact XS2.out⟩) hS0 ?_
                        simp only [Act.put, List.setIfInBounds_toArray, List.set_cons_succ, List.set_cons_zero]
                        refine wpAnyH_takeD (some 101) (i := 8) (v := (.slice (some ⟨tb, o, none⟩) U c)) rfl rfl (by kernel_rfl) (by kernel_rfl) (by kernel_rfl) (fun _ _ _ h => h) (Or.inl ⟨rfl, fun W _ => by have z := Z1.out W; go_simp⟩) hS0 ?_
                        simp only [Act.put, List.setIfInBounds_toArray, List.set_cons_succ, List.set_cons_zero]
                        refine wpAnyH_takeD (some 102) (i := 9) (v := (.string sx)) rfl rfl (by kernel_rfl) (by kernel_rfl) (by kernel_rfl) (fun _ _ _ h => h) (Or.inl ⟨rfl, fun W hW => by have z := run_string c (HRU.out.grown hW (fun k e => by cases e)) HF.out; rw [← HSY.out] at z; go_simp⟩) hS0 ?_
                        simp only [Act.put, List.setIfInBounds_toArray, List.set_cons_succ, List.set_cons_zero]
                        refine wpAnyH_callD (some 94) (i := 1) 48 #[.agg #[.int .u64 (K : Nat), .int .u64 (C : Nat)]] (by kernel_rfl) rfl rfl rfl (exec_fn1 _ _ _ rfl rfl) hdP_enters ((hdRefPut_any K C V1 HK64.out HC64.out).mono fun e W1 h => h.val) ?_
                        rintro _ V2 ⟨gk, ck, rfl, hO, hgk, g1⟩
                        refine ⟨g1, ?_⟩
                        simp only [Act.put, List.setIfInBounds_toArray, List.set_cons_succ, List.set_cons_zero]
                        have z := run_string ck hO.rd (hdF_lt K C)
                        rw [← HSX.out] at z
                        have HO := Lib.hid hO
                        clear hO
                        refine wpAnyH_yieldD (some 95) (i := 2) (v := (.string sx)) (by kernel_rfl) rfl rfl rfl (by go_simp) g1 ?_
                        simp only [Act.put, List.setIfInBounds_toArray, List.set_cons_succ, List.set_cons_zero]
                        clear z
                        refine wpAnyH_takeD (some 103) (i := 10) (v := (.bool false)) rfl rfl (by kernel_rfl) (by kernel_rfl) (by kernel_rfl) (fun _ _ _ h => h) (Or.inl ⟨rfl, fun _ _ => by go_simp⟩) g1 ?_
                        simp only [Act.put, List.setIfInBounds_toArray, List.set_cons_succ, List.set_cons_zero]
                        refine wpAnyH_done (by kernel_rfl) ?_ _
                        have hRw := HB8.out.grown g1 (by simp)
                        have hNw := HN8.out.grown g1 (by simp)
                        have c0 : V2.cell? ⟨HB, 0, none⟩ = some (.int .u64 (K : Nat)) := hNw.cell 0 (by decide)
                        have c1 : V2.cell? ⟨HB, 1, none⟩ = some (.int .u64 (C : Nat)) := hNw.cell 1 (by decide)
                        have r0 : V2.cell? ⟨RB, 0, none⟩ = some (.int .u64 0) := hRw.cell 0 (by decide)
                        have r1 : V2.cell? ⟨RB, 1, none⟩ = some (.int .u64 0) := hRw.cell 1 (by decide)
                        have f0 := hRw.frozen 0
                        have f1 := hRw.frozen 1
                        have k1 := (hRw.set 0 K).set 1 C
                        have k2 := grown_setCell_new (grown_setCell_new (grown_trans GW8.out g1) ⟨RB, 0, none⟩ (.int .u64 (K : Nat)) (Or.inl (by rw [HRB.out]; exact Nat.le_refl _))) ⟨RB, 1, none⟩ (.int .u64 (C : Nat)) (Or.inl (by rw [HRB.out]; exact Nat.le_refl _))
                        have HK1 := Lib.hid k1
                        have HK2 := Lib.hid k2
                        have xs1 := XS1.out
                        have xs2 := XS2.out
                        clear k1 k2 hRw hNw g1 hgk hS0
                        go_wp2_with fail
                        have hgd := rtook_good T1.out T2.out T3.out HK2.out
                        rw [← HUe.out] at hgd
                        exact bodyPost_ret (res_h2 rfl rfl rfl HK1.out (by kernel_rfl) (by kernel_rfl)) rfl hgd
                      · have hxy : sx ≠ sy := fun e => hsame (by
                          obtain ⟨q1, q2⟩ := hiff.1 e
                          refine ⟨?_, ?_⟩
                          · rw [← HKe.out, ← HCe.out, ← HUe.out]; exact q1
                          · rw [← HKe.out, ← HCe.out, ← HUe.out]; exact fun i hi => q2 i (by rw [q1]; exact hi))
                        have HNO := Lib.hid (rt_no L F HF.out (fun _ => hsame))
                        have hx1 : ¬ sx.toList = sy.toList := fun e => hxy (by
                          cases sx; cases sy
                          simpa [ByteArray.toList_eq] using e)
                        clear hiff hsame
                        refine wp_region_held (S := (fun W => V1.grownBy W none)) (by kernel_rfl) ?_
                        change wpAnyH _ _ _ _ _ 11 #[false, false, false, false, false, false, false, false, false, false, false] _ (World.drew _)
                        rw [HV1.out]
                        have hS0 : V1.grownBy V1 none := grown_refl V1 _
                        refine wpAnyH_takeD (some 93) (i := 0) (v := (.agg #[.int .u64 (K : Nat), .int .u64 (C : Nat)])) rfl rfl (by kernel_rfl) (by kernel_rfl) (by kernel_rfl) (fun _ _ _ h => h) (Or.inl ⟨rfl, fun W hW => by have c0 := (HN8.out.grown hW (by simp)).cell 0 (by decide); have c1 := (HN8.out.grown hW (by simp)).cell 1 (by decide); rw [show two K C 0 = K from rfl] at c0; rw [show two K C 1 = C from rfl] at c1; go_simp⟩) hS0 ?_
                        simp only [Act.put, List.setIfInBounds_toArray, List.set_cons_succ, List.set_cons_zero]
                        refine wpAnyH_takeD (some 96) (i := 3) (v := (.slice (some ⟨tb, o, none⟩) L c)) rfl rfl (by kernel_rfl) (by kernel_rfl) (by kernel_rfl) (fun _ _ _ h => h) (Or.inl ⟨rfl, fun _ _ => rfl⟩) hS0 ?_
                        simp only [Act.put, List.setIfInBounds_toArray, List.set_cons_succ, List.set_cons_zero]
                        refine wpAnyH_takeD (some 97) (i := 4) (v := (.int .i64 (n1 : Nat))) rfl rfl (by kernel_rfl) (by kernel_rfl) (by kernel_rfl) (fun _ _ _ h => h) (Or.inl ⟨rfl, fun _ _ => rfl⟩) hS0 ?_
                        simp only [Act.put, List.setIfInBounds_toArray, List.set_cons_succ, List.set_cons_zero]
                        refine wpAnyH_takeD (some 98) (i := 5) (v := (.int .i64 (m1 : Nat))) rfl rfl (by kernel_rfl) (by kernel_rfl) (by kernel_rfl) (fun _ _ _ h => h) (Or.inl ⟨rfl, fun _ _ => by go_simp; exact XS1.out⟩) hS0 ?_
                        simp only [Act.put, List.setIfInBounds_toArray, List.set_cons_succ, List.set_cons_zero]
                        refine wpAnyH_takeD (some 99) (i := 6) (v := (.int .i64 (n2 : Nat))) rfl rfl (by kernel_rfl) (by kernel_rfl) (by kernel_rfl) (fun _ _ _ h => h) (Or.inl ⟨rfl, fun _ _ => rfl⟩) hS0 ?_
                        simp only [Act.put, List.setIfInBounds_toArray, List.set_cons_succ, List.set_cons_zero]
                        refine wpAnyH_takeD (some 100) (i := 7) (v := (.int .i64 (U : Nat))) rfl rfl (by kernel_rfl) (by kernel_rfl) (by kernel_rfl) (fun _ _ _ h => h) (Or.inl ⟨rfl, fun _ _ => by go_simp; exact XS2.out⟩) hS0 ?_
                        simp only [Act.put, List.setIfInBounds_toArray, List.set_cons_succ, List.set_cons_zero]
                        refine wpAnyH_takeD (some 101) (i := 8) (v := (.slice (some ⟨tb, o, none⟩) U c)) rfl rfl (by kernel_rfl) (by kernel_rfl) (by kernel_rfl) (fun _ _ _ h => h) (Or.inl ⟨rfl, fun W _ => by have z := Z1.out W; go_simp⟩) hS0 ?_
                        simp only [Act.put, List.setIfInBounds_toArray, List.set_cons_succ, List.set_cons_zero]
                        refine wpAnyH_takeD (some 102) (i := 9) (v := (.string sy)) rfl rfl (by kernel_rfl) (by kernel_rfl) (by kernel_rfl) (fun _ _ _ h => h) (Or.inl ⟨rfl, fun W hW => by have z := run_string c (HRU.out.grown hW (fun k e => by cases e)) HF.out; rw [← HSY.out] at z; go_simp⟩) hS0 ?_
                        simp only [Act.put, List.setIfInBounds_toArray, List.set_cons_succ, List.set_cons_zero]
                        refine wpAnyH_callD (some 94) (i := 1) 48 #[.agg #[.int .u64 (K : Nat), .int .u64 (C : Nat)]] (by kernel_rfl) rfl rfl rfl (exec_fn1 _ _ _ rfl rfl) hdP_enters ((hdRefPut_any K C V1 HK64.out HC64.out).mono fun e W1 h => h.val) ?_
                        rintro _ V2 ⟨gk, ck, rfl, hO, hgk, g1⟩
                        refine ⟨g1, ?_⟩
                        simp only [Act.put, List.setIfInBounds_toArray, List.set_cons_succ, List.set_cons_zero]
                        have z := run_string ck hO.rd (hdF_lt K C)
                        rw [← HSX.out] at z
                        have HO := Lib.hid hO
                        clear hO
                        refine wpAnyH_yieldD (some 95) (i := 2) (v := (.string sx)) (by kernel_rfl) rfl rfl rfl (by go_simp) g1 ?_
                        simp only [Act.put, List.setIfInBounds_toArray, List.set_cons_succ, List.set_cons_zero]
                        clear z
                        refine wpAnyH_takeD (some 103) (i := 10) (v := (.bool true)) rfl rfl (by kernel_rfl) (by kernel_rfl) (by kernel_rfl) (fun _ _ _ h => h) (Or.inl ⟨rfl, fun _ _ => by go_simp⟩) g1 ?_
                        simp only [Act.put, List.setIfInBounds_toArray, List.set_cons_succ, List.set_cons_zero]
                        refine wpAnyH_done (by kernel_rfl) ?_ _
                        have hRw := HB8.out.grown g1 (by simp)
                        have hGw := grown_trans GW8.out g1
                        clear g1 hgk hS0 hx1 hxy
                        have c0 : V2.cell? ⟨RB, 0, none⟩ = some (.int .u64 0) := hRw.cell 0 (by decide)
                        have c1 : V2.cell? ⟨RB, 1, none⟩ = some (.int .u64 0) := hRw.cell 1 (by decide)
                        have f0 := hRw.frozen 0
                        have f1 := hRw.frozen 1
                        have k1 := (hRw.set 0 0).set 1 0
                        have k2 := grown_setCell_new (grown_setCell_new hGw ⟨RB, 0, none⟩ (.int .u64 (0 : Nat)) (Or.inl (by rw [HRB.out]; exact Nat.le_refl _))) ⟨RB, 1, none⟩ (.int .u64 (0 : Nat)) (Or.inl (by rw [HRB.out]; exact Nat.le_refl _))
                        have HK1 := Lib.hid k1
                        have HK2 := Lib.hid k2
                        clear k1 k2
                        go_wp2_with fail
                        exact bodyPost_ret (res_h2 rfl rfl rfl HK1.out (by kernel_rfl) (by kernel_rfl)) rfl (rtook_bad HNO.out HK2.out)
end Go.Proofs.Ytmbefbmpjkbnmaa
