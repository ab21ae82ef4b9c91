/-
  dist: what the code takes and what the document takes are one.
-/
import Derived.Test.YtdagbighlgfhjaaDistTakesAllb
import Derived.Test.YtdagbighlgfhjaaDistTakesAlla
import Derived.Test.YtdagbighlgfhjaaSliceQ
import Derived.Test.YtdagbighlgfhjaaOutLeaf
import Derived.Test.YtdagbighlgfhjaaOrd3
import Derived.StillTail
namespace Go.Proofs.Ytdagbighlgfhjaa
open Go.RowKit

set_option maxRecDepth 100000
set_option maxHeartbeats 4000000

structure Stop (p : Prop) : Prop where
  un : p
theorem Stop.at {p : Prop} (h : Stop p) : p := h.un
theorem refEnvMay_eq (x : EV) : envMay x = (devMay x.fr && devMay x.tw && !(eqN 2 x.fr x.tw) && (x.has || (eqN 32 x.st.ident (fun _ => 0) && (eqN 32 x.st.eph (fun _ => 0) && ((x.st.once == false) && decide (x.st.oid = 0))))) && (x.st.once || decide (x.st.oid = 0)) && decide (x.nb ≤ 4096)) := by
  show (goMay x.fr x.tw && setMay x.has x.st && decide (x.nb ≤ 4096)) = _
  unfold goMay setMay
  generalize devMay x.fr = a1
  generalize devMay x.tw = a2
  generalize eqN 2 x.fr x.tw = a3
  generalize eqN 32 x.st.ident (fun _ => 0) = a4
  generalize eqN 32 x.st.eph (fun _ => 0) = a5
  generalize x.st.once = a6
  generalize decide (x.st.oid = 0) = a7
  generalize decide (x.nb ≤ 4096) = a8
  cases x.has <;> cases a1 <;> cases a2 <;> cases a3 <;> cases a4 <;> cases a5 <;> cases a6 <;> cases a7 <;> rfl
theorem refMayEnv_any (x : EV) (w : World) : Calls Try.prog 90 #[.agg (rowOf 106 x.v)] w fun e w' => e = .returned (.bool (envMay x)) ∧ w.grownBy w' none := by
  have ga := World.grownBy_alloc w (.cells (rowOf 106 x.v) 41) none
  have hz := World.size_alloc w (.cells (rowOf 106 x.v) 41)
  have hA := RowAt.new w 41 106 x.v _ rfl
  go_enter Try.func90, Try.ntmps90
  go_upto_region 1 with fail
  obtain ⟨B, hBB⟩ : ∃ B, B = w.heap.size := ⟨_, rfl⟩
  rw [← hBB] at hA hz ⊢
  generalize w.alloc (.cells (rowOf 106 x.v) 41) = w0 at *
  have gx := World.grownBy_alloc w0 (.cells Try.zeroCells38 38) none
  have hX := RowAt.new w0 38 66 SetV.zero.v Try.zeroCells38 (by kernel_rfl)
  obtain ⟨k1, k2⟩ := RowAt.store (P := Try.prog) hX 0 38 66 SetV.zero.v (by decide) (by kernel_rfl) (fun j _ => SetV.one _ j)
  have hX2 := k2.congr (v' := SetV.zero.v) fun i hi => by rw [if_pos ⟨Nat.zero_le _, by omega⟩, Nat.sub_zero]
  have gX := grown_setCells (w0 := w0) w0.heap.size (Or.inl (Nat.le_refl _)) (rowOf 66 SetV.zero.v).toList 0 _ gx
  have hA := hA.grown gX (by simp)
  have hG := grown_trans ga gX
  obtain ⟨w1, hw1⟩ : ∃ W, W = (w0.alloc (.cells Try.zeroCells38 38)).setCells w0.heap.size 0 (rowOf 66 SetV.zero.v).toList := ⟨_, rfl⟩
  rw [← hw1] at k1 hX2 hA hG
  obtain ⟨X, hXX⟩ : ∃ X, X = w0.heap.size := ⟨_, rfl⟩
  have HXX := Lib.hid hXX
  rw [← hXX] at k1 hX2
  have HS := Lib.hid k1
  have HX := Lib.hid hX2
  have HA := Lib.hid hA
  have HG := Lib.hid hG
  clear k1 k2 hX hX2 gx gX hA hG ga hw1 hBB hz hXX
  have HP := Lib.hid (refEnvMay_eq x)
  go_upto_region 2 with (first | ((with_reducible refine wpList_here ?_); refine wpList_st (T := 38) (p := .pointer (some ⟨w0.heap.size, 0, none⟩)) (v := .agg (rowOf 66 SetV.zero.v)) (.tmp 3) (.tmp 4) ?_ ?_ ?_ ?_ ?_ (by rw [← HXX.out]; exact HS.out) ?_; (· rfl); (· rfl); go_simp; (· kernel_rfl); (· kernel_rfl)))
  rw [← HXX.out]
  clear HS HXX
  have HLF := Lib.hid (fun W (h : w1.grownBy W none) => (HA.out.grown h (by simp)).load (P := Try.prog) 0 26 2 (fun j => .int .u8 (x.fr j)) (by decide) x.v_fr (by kernel_rfl) (by kernel_rfl))
  have HLT := Lib.hid (fun W (h : w1.grownBy W none) => (HA.out.grown h (by simp)).load (P := Try.prog) 2 26 2 (fun j => .int .u8 (x.tw j)) (by decide) x.v_to (by kernel_rfl) (by kernel_rfl))
  have HM := Lib.hid (refDev_any x.fr w1)
  have HL1 := Lib.hid (HLF.out w1 (grown_refl _ _))
  obtain ⟨b1, hb1⟩ : ∃ b, b = devMay x.fr := ⟨_, rfl⟩
  rw [← hb1] at HM HP
  clear hb1
  go_wp2_with (first | ((with_reducible refine wpList_here ?_); refine wpList_ld (p := .pointer (some ⟨B, 0, none⟩)) 5 ?_ ?_ ?_ HL1.out ?_; (· rfl); go_simp; (· kernel_rfl)))
  go_at_call 63
  refine HM.out.mono ?_
  rintro e w2 ⟨rfl, g2⟩
  have G2 := Lib.hid g2
  clear HM HL1 g2
  cases b1 with
  | false =>
    have HE := Lib.hid (grown_trans HG.out G2.out)
    go_wp2_with fail
    go_ret
    exact ⟨by rw [HP.out]; rfl, HE.out⟩
  | true =>
  have HL2 := Lib.hid (HLT.out w2 G2.out)
  have HM2 := Lib.hid (refDev_any x.tw w2)
  obtain ⟨b2, hb2⟩ : ∃ b, b = devMay x.tw := ⟨_, rfl⟩
  rw [← hb2] at HM2 HP
  clear hb2
  go_wp2_with (first | ((with_reducible refine wpList_here ?_); refine wpList_ld (p := .pointer (some ⟨B, 2, none⟩)) 9 ?_ ?_ ?_ HL2.out ?_; (· rfl); go_simp; (· kernel_rfl)))
  go_at_call 63
  refine HM2.out.mono ?_
  rintro e w3 ⟨rfl, g3⟩
  have G3 := Lib.hid (grown_trans G2.out g3)
  have HE := Lib.hid (grown_trans HG.out G3.out)
  clear HM2 HL2 g3
  cases b2 with
  | false =>
    go_wp2_with fail
    go_ret
    exact ⟨by rw [HP.out]; rfl, HE.out⟩
  | true =>
  have HL3 := Lib.hid (HLF.out w3 G3.out)
  have HL4 := Lib.hid (HLT.out w3 G3.out)
  have HNE := Lib.hid (neq_dev x.fr x.tw w3)
  obtain ⟨q, hq⟩ : ∃ q, q = !(eqN 2 x.fr x.tw) := ⟨_, rfl⟩
  rw [← hq] at HNE HP
  clear hq HLF HLT
  have c4 : w3.cell? ⟨B, 4, none⟩ = some (.bool x.has) := (HA.out.grown G3.out (by simp)).cell 4 (by decide)
  have c69 : w3.cell? ⟨B, 69, none⟩ = some (.bool x.st.once) := (HA.out.grown G3.out (by simp)).cell 69 (by decide)
  have c70 : w3.cell? ⟨B, 70, none⟩ = some (.int .u32 x.st.oid) := (HA.out.grown G3.out (by simp)).cell 70 (by decide)
  have c105 : w3.cell? ⟨B, 105, none⟩ = some (.slice x.ad x.nb x.cb) := (HA.out.grown G3.out (by simp)).cell 105 (by decide)
  cases q with
  | false =>
    clear c4 c69 c70 c105
    go_wp2_with (first | ((with_reducible refine wpList_here ?_); refine wpList_ld (p := .pointer (some ⟨B, 0, none⟩)) 14 ?_ ?_ ?_ HL3.out ?_; (· rfl); go_simp; (· kernel_rfl)) | ((with_reducible refine wpList_here ?_); refine wpList_ld (p := .pointer (some ⟨B, 2, none⟩)) 16 ?_ ?_ ?_ HL4.out ?_; (· rfl); go_simp; (· kernel_rfl)) | ((with_reducible refine wpList_here ?_); refine wpList_ne 15 17 ?_ ?_ ?_ ?_ ?_ HNE.out ?_; (· rfl); go_simp; (· kernel_rfl); (· kernel_rfl); (· kernel_rfl); simp only [Act.put, List.setIfInBounds_toArray, List.set_cons_succ, List.set_cons_zero]; refine Stop.at ?_))
    refine ⟨?_⟩
    with_reducible refine wpList_want (v := (.bool false)) (w' := w3) ?_ ?_ ?_
    (· kernel_rfl)
    (· go_simp)
    simp only [Act.put, List.setIfInBounds_toArray, List.set_cons_succ, List.set_cons_zero]
    with_reducible refine wpList_want (v := (.bool false)) (w' := w3) ?_ ?_ ?_
    (· kernel_rfl)
    (· go_simp)
    simp only [Act.put, List.setIfInBounds_toArray, List.set_cons_succ, List.set_cons_zero]
    with_reducible refine wpList_skipQ _ rfl ?_ ?_
    (· kernel_rfl)
    simp only [Act.put, List.setIfInBounds_toArray, List.set_cons_succ, List.set_cons_zero]
    with_reducible refine wpList_skipQ _ rfl ?_ ?_
    (· kernel_rfl)
    simp only [Act.put, List.setIfInBounds_toArray, List.set_cons_succ, List.set_cons_zero]
    with_reducible refine wpList_skipQ _ rfl ?_ ?_
    (· kernel_rfl)
    simp only [Act.put, List.setIfInBounds_toArray, List.set_cons_succ, List.set_cons_zero]
    with_reducible refine wpList_skipQ _ rfl ?_ ?_
    (· kernel_rfl)
    simp only [Act.put, List.setIfInBounds_toArray, List.set_cons_succ, List.set_cons_zero]
    with_reducible refine wpList_skipQ _ rfl ?_ ?_
    (· kernel_rfl)
    simp only [Act.put, List.setIfInBounds_toArray, List.set_cons_succ, List.set_cons_zero]
    with_reducible refine wpList_skipQ _ rfl ?_ ?_
    (· kernel_rfl)
    simp only [Act.put, List.setIfInBounds_toArray, List.set_cons_succ, List.set_cons_zero]
    with_reducible refine wpList_skipQ _ rfl ?_ ?_
    (· kernel_rfl)
    simp only [Act.put, List.setIfInBounds_toArray, List.set_cons_succ, List.set_cons_zero]
    with_reducible refine wpList_skipQ _ rfl ?_ ?_
    (· kernel_rfl)
    simp only [Act.put, List.setIfInBounds_toArray, List.set_cons_succ, List.set_cons_zero]
    with_reducible refine wpList_want (v := (.bool false)) (w' := w3) ?_ ?_ ?_
    (· kernel_rfl)
    (· go_simp)
    simp only [Act.put, List.setIfInBounds_toArray, List.set_cons_succ, List.set_cons_zero]
    with_reducible refine wpList_want (v := (.bool false)) (w' := w3) ?_ ?_ ?_
    (· kernel_rfl)
    (· go_simp)
    simp only [Act.put, List.setIfInBounds_toArray, List.set_cons_succ, List.set_cons_zero]
    with_reducible refine wpList_skipQ _ rfl ?_ ?_
    (· kernel_rfl)
    simp only [Act.put, List.setIfInBounds_toArray, List.set_cons_succ, List.set_cons_zero]
    with_reducible refine wpList_skipQ _ rfl ?_ ?_
    (· kernel_rfl)
    simp only [Act.put, List.setIfInBounds_toArray, List.set_cons_succ, List.set_cons_zero]
    with_reducible refine wpList_skipQ _ rfl ?_ ?_
    (· kernel_rfl)
    simp only [Act.put, List.setIfInBounds_toArray, List.set_cons_succ, List.set_cons_zero]
    with_reducible refine wpList_skipQ _ rfl ?_ ?_
    (· kernel_rfl)
    simp only [Act.put, List.setIfInBounds_toArray, List.set_cons_succ, List.set_cons_zero]
    with_reducible refine wpList_skipQ _ rfl ?_ ?_
    (· kernel_rfl)
    simp only [Act.put, List.setIfInBounds_toArray, List.set_cons_succ, List.set_cons_zero]
    with_reducible refine wpList_skipQ _ rfl ?_ ?_
    (· kernel_rfl)
    simp only [Act.put, List.setIfInBounds_toArray, List.set_cons_succ, List.set_cons_zero]
    with_reducible refine wpList_skipQ _ rfl ?_ ?_
    (· kernel_rfl)
    simp only [Act.put, List.setIfInBounds_toArray, List.set_cons_succ, List.set_cons_zero]
    with_reducible refine wpList_skipQ _ rfl ?_ ?_
    (· kernel_rfl)
    simp only [Act.put, List.setIfInBounds_toArray, List.set_cons_succ, List.set_cons_zero]
    with_reducible refine wpList_skipQ _ rfl ?_ ?_
    (· kernel_rfl)
    simp only [Act.put, List.setIfInBounds_toArray, List.set_cons_succ, List.set_cons_zero]
    with_reducible refine wpList_want (v := (.bool false)) (w' := w3) ?_ ?_ ?_
    (· kernel_rfl)
    (· go_simp)
    simp only [Act.put, List.setIfInBounds_toArray, List.set_cons_succ, List.set_cons_zero]
    with_reducible refine wpList_want (v := (.bool false)) (w' := w3) ?_ ?_ ?_
    (· kernel_rfl)
    (· go_simp)
    simp only [Act.put, List.setIfInBounds_toArray, List.set_cons_succ, List.set_cons_zero]
    with_reducible refine wpList_skipQ _ rfl ?_ ?_
    (· kernel_rfl)
    simp only [Act.put, List.setIfInBounds_toArray, List.set_cons_succ, List.set_cons_zero]
    with_reducible refine wpList_skipQ _ rfl ?_ ?_
    (· kernel_rfl)
    simp only [Act.put, List.setIfInBounds_toArray, List.set_cons_succ, List.set_cons_zero]
    with_reducible refine wpList_skipQ _ rfl ?_ ?_
    (· kernel_rfl)
    simp only [Act.put, List.setIfInBounds_toArray, List.set_cons_succ, List.set_cons_zero]
    with_reducible refine wpList_skipQ _ rfl ?_ ?_
    (· kernel_rfl)
    simp only [Act.put, List.setIfInBounds_toArray, List.set_cons_succ, List.set_cons_zero]
    with_reducible refine wpList_want (v := (.bool false)) (w' := w3) ?_ ?_ ?_
    (· kernel_rfl)
    (· go_simp)
    simp only [Act.put, List.setIfInBounds_toArray, List.set_cons_succ, List.set_cons_zero]
    with_reducible refine wpList_want (v := (.bool false)) (w' := w3) ?_ ?_ ?_
    (· kernel_rfl)
    (· go_simp)
    simp only [Act.put, List.setIfInBounds_toArray, List.set_cons_succ, List.set_cons_zero]
    go_wp2_with fail
    go_ret
    exact ⟨by rw [HP.out]; rfl, HE.out⟩
  | true =>
  have HL5 := Lib.hid ((HA.out.grown G3.out (by simp)).load (P := Try.prog) 5 38 66 x.st.v (by decide) x.v_st (by kernel_rfl) (by kernel_rfl))
  have HL6 := Lib.hid ((HX.out.grown G3.out (by simp)).load (P := Try.prog) 0 38 66 SetV.zero.v (by decide) (fun j _ => by rw [Nat.zero_add]) (by kernel_rfl) (by kernel_rfl))
  have HEQ := Lib.hid (eq_set x.st SetV.zero w3)
  obtain ⟨z, hz⟩ : ∃ z, z = (eqN 32 x.st.ident SetV.zero.ident && (eqN 32 x.st.eph SetV.zero.eph && ((x.st.once == SetV.zero.once) && ((x.st.oid : Int) == (SetV.zero.oid : Int))))) := ⟨_, rfl⟩
  rw [← hz] at HEQ
  have HZ : Hid ((eqN 32 x.st.ident (fun _ => 0) && (eqN 32 x.st.eph (fun _ => 0) && ((x.st.once == false) && decide (x.st.oid = 0)))) = z) := Lib.hid (by rw [hz, int_beq]; rfl)
  rw [HZ.out] at HP
  clear hz HZ
  obtain ⟨hs, hhs⟩ : ∃ z, z = x.has := ⟨_, rfl⟩
  obtain ⟨oc, hoc⟩ : ∃ z, z = x.st.once := ⟨_, rfl⟩
  obtain ⟨od, hod⟩ : ∃ z, z = x.st.oid := ⟨_, rfl⟩
  rw [← hhs] at c4 HP
  rw [← hoc] at c69 HP
  rw [← hod] at c70 HP
  clear hhs hoc hod HA HX
  have HP2 : Hid (∀ d1 d2 : Bool, decide (od = 0) = d1 → decide (x.nb ≤ 4096) = d2 → envMay x = ((hs || z) && (oc || d1) && d2)) := Lib.hid (fun d1 d2 h1 h2 => by rw [HP.out, h1, h2]; cases hs <;> cases z <;> rfl)
  clear HP
  have C4 := Lib.hid (load_boolQ c4)
  have C69 := Lib.hid (load_boolQ c69)
  have C70 := Lib.hid (load_u32Q c70)
  have C105 := Lib.hid (load_sliceQ c105)
  clear c4 c69 c70 c105
  have HNB : Hid (decide (x.nb ≤ 4096) = decide ((x.nb : Int) ≤ 4096)) := Lib.hid (by by_cases h : x.nb ≤ 4096 <;> simp [h] <;> omega)
  cases hs with
  | true =>
    cases oc with
    | true =>
      by_cases h2 : x.nb ≤ 4096
      · have HP3 : Hid (envMay x = true) := Lib.hid (by rw [HP2.out _ _ rfl (decide_eq_true h2)]; cases decide (od = 0) <;> rfl)
        have j2 : (x.nb : Int) ≤ 4096 := by omega
        clear h2
        go_wp2_with (first | ((with_reducible refine wpList_here ?_); refine wpList_ld (p := .pointer (some ⟨B, 0, none⟩)) 14 ?_ ?_ ?_ HL3.out ?_; (· rfl); go_simp; (· kernel_rfl)) | ((with_reducible refine wpList_here ?_); refine wpList_ld (p := .pointer (some ⟨B, 2, none⟩)) 16 ?_ ?_ ?_ HL4.out ?_; (· rfl); go_simp; (· kernel_rfl)) | ((with_reducible refine wpList_here ?_); refine wpList_ne 15 17 ?_ ?_ ?_ ?_ ?_ HNE.out ?_; (· rfl); go_simp; (· kernel_rfl); (· kernel_rfl); (· kernel_rfl); simp only [Act.put, List.setIfInBounds_toArray, List.set_cons_succ, List.set_cons_zero]; refine Stop.at ?_))
        refine ⟨?_⟩
        with_reducible refine wpList_want (v := (.bool true)) (w' := w3) ?_ ?_ ?_
        (· kernel_rfl)
        (· go_simp)
        simp only [Act.put, List.setIfInBounds_toArray, List.set_cons_succ, List.set_cons_zero]
        with_reducible refine wpList_want (v := (.bool true)) (w' := w3) ?_ ?_ ?_
        (· kernel_rfl)
        (· go_simp)
        simp only [Act.put, List.setIfInBounds_toArray, List.set_cons_succ, List.set_cons_zero]
        with_reducible refine wpList_want (v := (.pointer (some ⟨B, 4, none⟩))) (w' := w3) ?_ ?_ ?_
        (· kernel_rfl)
        (· go_simp)
        simp only [Act.put, List.setIfInBounds_toArray, List.set_cons_succ, List.set_cons_zero]
        with_reducible refine wpList_want (v := (.bool true)) (w' := w3) ?_ ?_ ?_
        (· kernel_rfl)
        (· exact exec_loadQ (.tmp 21) _ _ rfl rfl C4.out)
        simp only [Act.put, List.setIfInBounds_toArray, List.set_cons_succ, List.set_cons_zero]
        with_reducible refine wpList_want (v := (.bool true)) (w' := w3) ?_ ?_ ?_
        (· kernel_rfl)
        (· go_simp)
        simp only [Act.put, List.setIfInBounds_toArray, List.set_cons_succ, List.set_cons_zero]
        with_reducible refine wpList_skipQ _ rfl ?_ ?_
        (· kernel_rfl)
        simp only [Act.put, List.setIfInBounds_toArray, List.set_cons_succ, List.set_cons_zero]
        with_reducible refine wpList_skipQ _ rfl ?_ ?_
        (· kernel_rfl)
        simp only [Act.put, List.setIfInBounds_toArray, List.set_cons_succ, List.set_cons_zero]
        with_reducible refine wpList_skipQ _ rfl ?_ ?_
        (· kernel_rfl)
        simp only [Act.put, List.setIfInBounds_toArray, List.set_cons_succ, List.set_cons_zero]
        with_reducible refine wpList_skipQ _ rfl ?_ ?_
        (· kernel_rfl)
        simp only [Act.put, List.setIfInBounds_toArray, List.set_cons_succ, List.set_cons_zero]
        with_reducible refine wpList_want (v := (.bool true)) (w' := w3) ?_ ?_ ?_
        (· kernel_rfl)
        (· go_simp)
        simp only [Act.put, List.setIfInBounds_toArray, List.set_cons_succ, List.set_cons_zero]
        with_reducible refine wpList_want (v := (.bool true)) (w' := w3) ?_ ?_ ?_
        (· kernel_rfl)
        (· go_simp)
        simp only [Act.put, List.setIfInBounds_toArray, List.set_cons_succ, List.set_cons_zero]
        with_reducible refine wpList_want (v := (.bool true)) (w' := w3) ?_ ?_ ?_
        (· kernel_rfl)
        (· go_simp)
        simp only [Act.put, List.setIfInBounds_toArray, List.set_cons_succ, List.set_cons_zero]
        with_reducible refine wpList_want (v := (.pointer (some ⟨B, 5, none⟩))) (w' := w3) ?_ ?_ ?_
        (· kernel_rfl)
        (· go_simp)
        simp only [Act.put, List.setIfInBounds_toArray, List.set_cons_succ, List.set_cons_zero]
        with_reducible refine wpList_want (v := (.pointer (some ⟨B, 69, none⟩))) (w' := w3) ?_ ?_ ?_
        (· kernel_rfl)
        (· go_simp)
        simp only [Act.put, List.setIfInBounds_toArray, List.set_cons_succ, List.set_cons_zero]
        with_reducible refine wpList_want (v := (.bool true)) (w' := w3) ?_ ?_ ?_
        (· kernel_rfl)
        (· exact exec_loadQ (.tmp 32) _ _ rfl rfl C69.out)
        simp only [Act.put, List.setIfInBounds_toArray, List.set_cons_succ, List.set_cons_zero]
        with_reducible refine wpList_want (v := (.bool true)) (w' := w3) ?_ ?_ ?_
        (· kernel_rfl)
        (· go_simp)
        simp only [Act.put, List.setIfInBounds_toArray, List.set_cons_succ, List.set_cons_zero]
        with_reducible refine wpList_skipQ _ rfl ?_ ?_
        (· kernel_rfl)
        simp only [Act.put, List.setIfInBounds_toArray, List.set_cons_succ, List.set_cons_zero]
        with_reducible refine wpList_skipQ _ rfl ?_ ?_
        (· kernel_rfl)
        simp only [Act.put, List.setIfInBounds_toArray, List.set_cons_succ, List.set_cons_zero]
        with_reducible refine wpList_skipQ _ rfl ?_ ?_
        (· kernel_rfl)
        simp only [Act.put, List.setIfInBounds_toArray, List.set_cons_succ, List.set_cons_zero]
        with_reducible refine wpList_skipQ _ rfl ?_ ?_
        (· kernel_rfl)
        simp only [Act.put, List.setIfInBounds_toArray, List.set_cons_succ, List.set_cons_zero]
        with_reducible refine wpList_want (v := (.bool true)) (w' := w3) ?_ ?_ ?_
        (· kernel_rfl)
        (· go_simp)
        simp only [Act.put, List.setIfInBounds_toArray, List.set_cons_succ, List.set_cons_zero]
        with_reducible refine wpList_want (v := (.bool true)) (w' := w3) ?_ ?_ ?_
        (· kernel_rfl)
        (· go_simp)
        simp only [Act.put, List.setIfInBounds_toArray, List.set_cons_succ, List.set_cons_zero]
        with_reducible refine wpList_want (v := (.bool true)) (w' := w3) ?_ ?_ ?_
        (· kernel_rfl)
        (· go_simp)
        simp only [Act.put, List.setIfInBounds_toArray, List.set_cons_succ, List.set_cons_zero]
        with_reducible refine wpList_want (v := (.pointer (some ⟨B, 105, none⟩))) (w' := w3) ?_ ?_ ?_
        (· kernel_rfl)
        (· go_simp)
        simp only [Act.put, List.setIfInBounds_toArray, List.set_cons_succ, List.set_cons_zero]
        with_reducible refine wpList_want (v := (.slice x.ad x.nb x.cb)) (w' := w3) ?_ ?_ ?_
        (· kernel_rfl)
        (· exact exec_loadQ (.tmp 42) _ _ rfl rfl C105.out)
        simp only [Act.put, List.setIfInBounds_toArray, List.set_cons_succ, List.set_cons_zero]
        with_reducible refine wpList_want (v := (.int .i64 x.nb)) (w' := w3) ?_ ?_ ?_
        (· kernel_rfl)
        (· go_simp)
        simp only [Act.put, List.setIfInBounds_toArray, List.set_cons_succ, List.set_cons_zero]
        with_reducible refine wpList_want (v := (.bool true)) (w' := w3) ?_ ?_ ?_
        (· kernel_rfl)
        (· go_simp)
        simp only [Act.put, List.setIfInBounds_toArray, List.set_cons_succ, List.set_cons_zero]
        with_reducible refine wpList_want (v := (.bool true)) (w' := w3) ?_ ?_ ?_
        (· kernel_rfl)
        (· go_simp)
        simp only [Act.put, List.setIfInBounds_toArray, List.set_cons_succ, List.set_cons_zero]
        with_reducible refine wpList_want (v := (.bool true)) (w' := w3) ?_ ?_ ?_
        (· kernel_rfl)
        (· go_simp)
        simp only [Act.put, List.setIfInBounds_toArray, List.set_cons_succ, List.set_cons_zero]
        go_wp2_with fail
        go_ret
        exact ⟨by rw [HP3.out]; rfl, HE.out⟩
      · have HP3 : Hid (envMay x = false) := Lib.hid (by rw [HP2.out _ _ rfl (decide_eq_false h2)]; cases decide (od = 0) <;> rfl)
        have j2 : ¬ (x.nb : Int) ≤ 4096 := by omega
        clear h2
        go_wp2_with (first | ((with_reducible refine wpList_here ?_); refine wpList_ld (p := .pointer (some ⟨B, 0, none⟩)) 14 ?_ ?_ ?_ HL3.out ?_; (· rfl); go_simp; (· kernel_rfl)) | ((with_reducible refine wpList_here ?_); refine wpList_ld (p := .pointer (some ⟨B, 2, none⟩)) 16 ?_ ?_ ?_ HL4.out ?_; (· rfl); go_simp; (· kernel_rfl)) | ((with_reducible refine wpList_here ?_); refine wpList_ne 15 17 ?_ ?_ ?_ ?_ ?_ HNE.out ?_; (· rfl); go_simp; (· kernel_rfl); (· kernel_rfl); (· kernel_rfl); simp only [Act.put, List.setIfInBounds_toArray, List.set_cons_succ, List.set_cons_zero]; refine Stop.at ?_))
        refine ⟨?_⟩
        with_reducible refine wpList_want (v := (.bool true)) (w' := w3) ?_ ?_ ?_
        (· kernel_rfl)
        (· go_simp)
        simp only [Act.put, List.setIfInBounds_toArray, List.set_cons_succ, List.set_cons_zero]
        with_reducible refine wpList_want (v := (.bool true)) (w' := w3) ?_ ?_ ?_
        (· kernel_rfl)
        (· go_simp)
        simp only [Act.put, List.setIfInBounds_toArray, List.set_cons_succ, List.set_cons_zero]
        with_reducible refine wpList_want (v := (.pointer (some ⟨B, 4, none⟩))) (w' := w3) ?_ ?_ ?_
        (· kernel_rfl)
        (· go_simp)
        simp only [Act.put, List.setIfInBounds_toArray, List.set_cons_succ, List.set_cons_zero]
        with_reducible refine wpList_want (v := (.bool true)) (w' := w3) ?_ ?_ ?_
        (· kernel_rfl)
        (· exact exec_loadQ (.tmp 21) _ _ rfl rfl C4.out)
        simp only [Act.put, List.setIfInBounds_toArray, List.set_cons_succ, List.set_cons_zero]
        with_reducible refine wpList_want (v := (.bool true)) (w' := w3) ?_ ?_ ?_
        (· kernel_rfl)
        (· go_simp)
        simp only [Act.put, List.setIfInBounds_toArray, List.set_cons_succ, List.set_cons_zero]
        with_reducible refine wpList_skipQ _ rfl ?_ ?_
        (· kernel_rfl)
        simp only [Act.put, List.setIfInBounds_toArray, List.set_cons_succ, List.set_cons_zero]
        with_reducible refine wpList_skipQ _ rfl ?_ ?_
        (· kernel_rfl)
        simp only [Act.put, List.setIfInBounds_toArray, List.set_cons_succ, List.set_cons_zero]
        with_reducible refine wpList_skipQ _ rfl ?_ ?_
        (· kernel_rfl)
        simp only [Act.put, List.setIfInBounds_toArray, List.set_cons_succ, List.set_cons_zero]
        with_reducible refine wpList_skipQ _ rfl ?_ ?_
        (· kernel_rfl)
        simp only [Act.put, List.setIfInBounds_toArray, List.set_cons_succ, List.set_cons_zero]
        with_reducible refine wpList_want (v := (.bool true)) (w' := w3) ?_ ?_ ?_
        (· kernel_rfl)
        (· go_simp)
        simp only [Act.put, List.setIfInBounds_toArray, List.set_cons_succ, List.set_cons_zero]
        with_reducible refine wpList_want (v := (.bool true)) (w' := w3) ?_ ?_ ?_
        (· kernel_rfl)
        (· go_simp)
        simp only [Act.put, List.setIfInBounds_toArray, List.set_cons_succ, List.set_cons_zero]
        with_reducible refine wpList_want (v := (.bool true)) (w' := w3) ?_ ?_ ?_
        (· kernel_rfl)
        (· go_simp)
        simp only [Act.put, List.setIfInBounds_toArray, List.set_cons_succ, List.set_cons_zero]
        with_reducible refine wpList_want (v := (.pointer (some ⟨B, 5, none⟩))) (w' := w3) ?_ ?_ ?_
        (· kernel_rfl)
        (· go_simp)
        simp only [Act.put, List.setIfInBounds_toArray, List.set_cons_succ, List.set_cons_zero]
        with_reducible refine wpList_want (v := (.pointer (some ⟨B, 69, none⟩))) (w' := w3) ?_ ?_ ?_
        (· kernel_rfl)
        (· go_simp)
        simp only [Act.put, List.setIfInBounds_toArray, List.set_cons_succ, List.set_cons_zero]
        with_reducible refine wpList_want (v := (.bool true)) (w' := w3) ?_ ?_ ?_
        (· kernel_rfl)
        (· exact exec_loadQ (.tmp 32) _ _ rfl rfl C69.out)
        simp only [Act.put, List.setIfInBounds_toArray, List.set_cons_succ, List.set_cons_zero]
        with_reducible refine wpList_want (v := (.bool true)) (w' := w3) ?_ ?_ ?_
        (· kernel_rfl)
        (· go_simp)
        simp only [Act.put, List.setIfInBounds_toArray, List.set_cons_succ, List.set_cons_zero]
        with_reducible refine wpList_skipQ _ rfl ?_ ?_
        (· kernel_rfl)
        simp only [Act.put, List.setIfInBounds_toArray, List.set_cons_succ, List.set_cons_zero]
        with_reducible refine wpList_skipQ _ rfl ?_ ?_
        (· kernel_rfl)
        simp only [Act.put, List.setIfInBounds_toArray, List.set_cons_succ, List.set_cons_zero]
        with_reducible refine wpList_skipQ _ rfl ?_ ?_
        (· kernel_rfl)
        simp only [Act.put, List.setIfInBounds_toArray, List.set_cons_succ, List.set_cons_zero]
        with_reducible refine wpList_skipQ _ rfl ?_ ?_
        (· kernel_rfl)
        simp only [Act.put, List.setIfInBounds_toArray, List.set_cons_succ, List.set_cons_zero]
        with_reducible refine wpList_want (v := (.bool true)) (w' := w3) ?_ ?_ ?_
        (· kernel_rfl)
        (· go_simp)
        simp only [Act.put, List.setIfInBounds_toArray, List.set_cons_succ, List.set_cons_zero]
        with_reducible refine wpList_want (v := (.bool true)) (w' := w3) ?_ ?_ ?_
        (· kernel_rfl)
        (· go_simp)
        simp only [Act.put, List.setIfInBounds_toArray, List.set_cons_succ, List.set_cons_zero]
        with_reducible refine wpList_want (v := (.bool true)) (w' := w3) ?_ ?_ ?_
        (· kernel_rfl)
        (· go_simp)
        simp only [Act.put, List.setIfInBounds_toArray, List.set_cons_succ, List.set_cons_zero]
        with_reducible refine wpList_want (v := (.pointer (some ⟨B, 105, none⟩))) (w' := w3) ?_ ?_ ?_
        (· kernel_rfl)
        (· go_simp)
        simp only [Act.put, List.setIfInBounds_toArray, List.set_cons_succ, List.set_cons_zero]
        with_reducible refine wpList_want (v := (.slice x.ad x.nb x.cb)) (w' := w3) ?_ ?_ ?_
        (· kernel_rfl)
        (· exact exec_loadQ (.tmp 42) _ _ rfl rfl C105.out)
        simp only [Act.put, List.setIfInBounds_toArray, List.set_cons_succ, List.set_cons_zero]
        with_reducible refine wpList_want (v := (.int .i64 x.nb)) (w' := w3) ?_ ?_ ?_
        (· kernel_rfl)
        (· go_simp)
        simp only [Act.put, List.setIfInBounds_toArray, List.set_cons_succ, List.set_cons_zero]
        with_reducible refine wpList_want (v := (.bool false)) (w' := w3) ?_ ?_ ?_
        (· kernel_rfl)
        (· go_simp)
        simp only [Act.put, List.setIfInBounds_toArray, List.set_cons_succ, List.set_cons_zero]
        with_reducible refine wpList_want (v := (.bool false)) (w' := w3) ?_ ?_ ?_
        (· kernel_rfl)
        (· go_simp)
        simp only [Act.put, List.setIfInBounds_toArray, List.set_cons_succ, List.set_cons_zero]
        with_reducible refine wpList_want (v := (.bool false)) (w' := w3) ?_ ?_ ?_
        (· kernel_rfl)
        (· go_simp)
        simp only [Act.put, List.setIfInBounds_toArray, List.set_cons_succ, List.set_cons_zero]
        go_wp2_with fail
        go_ret
        exact ⟨by rw [HP3.out]; rfl, HE.out⟩
    | false =>
      by_cases h1 : od = 0
      · by_cases h2 : x.nb ≤ 4096
        · have HP3 : Hid (envMay x = true) := Lib.hid (by rw [HP2.out _ _ (decide_eq_true h1) (decide_eq_true h2)]; rfl)
          have j2 : (x.nb : Int) ≤ 4096 := by omega
          clear h2
          subst h1
          go_wp2_with (first | ((with_reducible refine wpList_here ?_); refine wpList_ld (p := .pointer (some ⟨B, 0, none⟩)) 14 ?_ ?_ ?_ HL3.out ?_; (· rfl); go_simp; (· kernel_rfl)) | ((with_reducible refine wpList_here ?_); refine wpList_ld (p := .pointer (some ⟨B, 2, none⟩)) 16 ?_ ?_ ?_ HL4.out ?_; (· rfl); go_simp; (· kernel_rfl)) | ((with_reducible refine wpList_here ?_); refine wpList_ne 15 17 ?_ ?_ ?_ ?_ ?_ HNE.out ?_; (· rfl); go_simp; (· kernel_rfl); (· kernel_rfl); (· kernel_rfl); simp only [Act.put, List.setIfInBounds_toArray, List.set_cons_succ, List.set_cons_zero]; refine Stop.at ?_))
          refine ⟨?_⟩
          with_reducible refine wpList_want (v := (.bool true)) (w' := w3) ?_ ?_ ?_
          (· kernel_rfl)
          (· go_simp)
          simp only [Act.put, List.setIfInBounds_toArray, List.set_cons_succ, List.set_cons_zero]
          with_reducible refine wpList_want (v := (.bool true)) (w' := w3) ?_ ?_ ?_
          (· kernel_rfl)
          (· go_simp)
          simp only [Act.put, List.setIfInBounds_toArray, List.set_cons_succ, List.set_cons_zero]
          with_reducible refine wpList_want (v := (.pointer (some ⟨B, 4, none⟩))) (w' := w3) ?_ ?_ ?_
          (· kernel_rfl)
          (· go_simp)
          simp only [Act.put, List.setIfInBounds_toArray, List.set_cons_succ, List.set_cons_zero]
          with_reducible refine wpList_want (v := (.bool true)) (w' := w3) ?_ ?_ ?_
          (· kernel_rfl)
          (· exact exec_loadQ (.tmp 21) _ _ rfl rfl C4.out)
          simp only [Act.put, List.setIfInBounds_toArray, List.set_cons_succ, List.set_cons_zero]
          with_reducible refine wpList_want (v := (.bool true)) (w' := w3) ?_ ?_ ?_
          (· kernel_rfl)
          (· go_simp)
          simp only [Act.put, List.setIfInBounds_toArray, List.set_cons_succ, List.set_cons_zero]
          with_reducible refine wpList_skipQ _ rfl ?_ ?_
          (· kernel_rfl)
          simp only [Act.put, List.setIfInBounds_toArray, List.set_cons_succ, List.set_cons_zero]
          with_reducible refine wpList_skipQ _ rfl ?_ ?_
          (· kernel_rfl)
          simp only [Act.put, List.setIfInBounds_toArray, List.set_cons_succ, List.set_cons_zero]
          with_reducible refine wpList_skipQ _ rfl ?_ ?_
          (· kernel_rfl)
          simp only [Act.put, List.setIfInBounds_toArray, List.set_cons_succ, List.set_cons_zero]
          with_reducible refine wpList_skipQ _ rfl ?_ ?_
          (· kernel_rfl)
          simp only [Act.put, List.setIfInBounds_toArray, List.set_cons_succ, List.set_cons_zero]
          with_reducible refine wpList_want (v := (.bool true)) (w' := w3) ?_ ?_ ?_
          (· kernel_rfl)
          (· go_simp)
          simp only [Act.put, List.setIfInBounds_toArray, List.set_cons_succ, List.set_cons_zero]
          with_reducible refine wpList_want (v := (.bool true)) (w' := w3) ?_ ?_ ?_
          (· kernel_rfl)
          (· go_simp)
          simp only [Act.put, List.setIfInBounds_toArray, List.set_cons_succ, List.set_cons_zero]
          with_reducible refine wpList_want (v := (.bool true)) (w' := w3) ?_ ?_ ?_
          (· kernel_rfl)
          (· go_simp)
          simp only [Act.put, List.setIfInBounds_toArray, List.set_cons_succ, List.set_cons_zero]
          with_reducible refine wpList_want (v := (.pointer (some ⟨B, 5, none⟩))) (w' := w3) ?_ ?_ ?_
          (· kernel_rfl)
          (· go_simp)
          simp only [Act.put, List.setIfInBounds_toArray, List.set_cons_succ, List.set_cons_zero]
          with_reducible refine wpList_want (v := (.pointer (some ⟨B, 69, none⟩))) (w' := w3) ?_ ?_ ?_
          (· kernel_rfl)
          (· go_simp)
          simp only [Act.put, List.setIfInBounds_toArray, List.set_cons_succ, List.set_cons_zero]
          with_reducible refine wpList_want (v := (.bool false)) (w' := w3) ?_ ?_ ?_
          (· kernel_rfl)
          (· exact exec_loadQ (.tmp 32) _ _ rfl rfl C69.out)
          simp only [Act.put, List.setIfInBounds_toArray, List.set_cons_succ, List.set_cons_zero]
          with_reducible refine wpList_want (v := (.bool false)) (w' := w3) ?_ ?_ ?_
          (· kernel_rfl)
          (· go_simp)
          simp only [Act.put, List.setIfInBounds_toArray, List.set_cons_succ, List.set_cons_zero]
          with_reducible refine wpList_want (v := (.pointer (some ⟨B, 5, none⟩))) (w' := w3) ?_ ?_ ?_
          (· kernel_rfl)
          (· go_simp)
          simp only [Act.put, List.setIfInBounds_toArray, List.set_cons_succ, List.set_cons_zero]
          with_reducible refine wpList_want (v := (.pointer (some ⟨B, 70, none⟩))) (w' := w3) ?_ ?_ ?_
          (· kernel_rfl)
          (· go_simp)
          simp only [Act.put, List.setIfInBounds_toArray, List.set_cons_succ, List.set_cons_zero]
          with_reducible refine wpList_want (v := (.int .u32 ((0 : Nat) : Int))) (w' := w3) ?_ ?_ ?_
          (· kernel_rfl)
          (· exact exec_loadQ (.tmp 36) _ _ rfl rfl C70.out)
          simp only [Act.put, List.setIfInBounds_toArray, List.set_cons_succ, List.set_cons_zero]
          with_reducible refine wpList_want (v := (.bool true)) (w' := w3) ?_ ?_ ?_
          (· kernel_rfl)
          (· go_simp)
          simp only [Act.put, List.setIfInBounds_toArray, List.set_cons_succ, List.set_cons_zero]
          with_reducible refine wpList_want (v := (.bool true)) (w' := w3) ?_ ?_ ?_
          (· kernel_rfl)
          (· go_simp)
          simp only [Act.put, List.setIfInBounds_toArray, List.set_cons_succ, List.set_cons_zero]
          with_reducible refine wpList_want (v := (.bool true)) (w' := w3) ?_ ?_ ?_
          (· kernel_rfl)
          (· go_simp)
          simp only [Act.put, List.setIfInBounds_toArray, List.set_cons_succ, List.set_cons_zero]
          with_reducible refine wpList_want (v := (.bool true)) (w' := w3) ?_ ?_ ?_
          (· kernel_rfl)
          (· go_simp)
          simp only [Act.put, List.setIfInBounds_toArray, List.set_cons_succ, List.set_cons_zero]
          with_reducible refine wpList_want (v := (.pointer (some ⟨B, 105, none⟩))) (w' := w3) ?_ ?_ ?_
          (· kernel_rfl)
          (· go_simp)
          simp only [Act.put, List.setIfInBounds_toArray, List.set_cons_succ, List.set_cons_zero]
          with_reducible refine wpList_want (v := (.slice x.ad x.nb x.cb)) (w' := w3) ?_ ?_ ?_
          (· kernel_rfl)
          (· exact exec_loadQ (.tmp 42) _ _ rfl rfl C105.out)
          simp only [Act.put, List.setIfInBounds_toArray, List.set_cons_succ, List.set_cons_zero]
          with_reducible refine wpList_want (v := (.int .i64 x.nb)) (w' := w3) ?_ ?_ ?_
          (· kernel_rfl)
          (· go_simp)
          simp only [Act.put, List.setIfInBounds_toArray, List.set_cons_succ, List.set_cons_zero]
          with_reducible refine wpList_want (v := (.bool true)) (w' := w3) ?_ ?_ ?_
          (· kernel_rfl)
          (· go_simp)
          simp only [Act.put, List.setIfInBounds_toArray, List.set_cons_succ, List.set_cons_zero]
          with_reducible refine wpList_want (v := (.bool true)) (w' := w3) ?_ ?_ ?_
          (· kernel_rfl)
          (· go_simp)
          simp only [Act.put, List.setIfInBounds_toArray, List.set_cons_succ, List.set_cons_zero]
          with_reducible refine wpList_want (v := (.bool true)) (w' := w3) ?_ ?_ ?_
          (· kernel_rfl)
          (· go_simp)
          simp only [Act.put, List.setIfInBounds_toArray, List.set_cons_succ, List.set_cons_zero]
          go_wp2_with fail
          go_ret
          exact ⟨by rw [HP3.out]; rfl, HE.out⟩
        · have HP3 : Hid (envMay x = false) := Lib.hid (by rw [HP2.out _ _ (decide_eq_true h1) (decide_eq_false h2)]; rfl)
          have j2 : ¬ (x.nb : Int) ≤ 4096 := by omega
          clear h2
          subst h1
          go_wp2_with (first | ((with_reducible refine wpList_here ?_); refine wpList_ld (p := .pointer (some ⟨B, 0, none⟩)) 14 ?_ ?_ ?_ HL3.out ?_; (· rfl); go_simp; (· kernel_rfl)) | ((with_reducible refine wpList_here ?_); refine wpList_ld (p := .pointer (some ⟨B, 2, none⟩)) 16 ?_ ?_ ?_ HL4.out ?_; (· rfl); go_simp; (· kernel_rfl)) | ((with_reducible refine wpList_here ?_); refine wpList_ne 15 17 ?_ ?_ ?_ ?_ ?_ HNE.out ?_; (· rfl); go_simp; (· kernel_rfl); (· kernel_rfl); (· kernel_rfl); simp only [Act.put, List.setIfInBounds_toArray, List.set_cons_succ, List.set_cons_zero]; refine Stop.at ?_))
          refine ⟨?_⟩
          with_reducible refine wpList_want (v := (.bool true)) (w' := w3) ?_ ?_ ?_
          (· kernel_rfl)
          (· go_simp)
          simp only [Act.put, List.setIfInBounds_toArray, List.set_cons_succ, List.set_cons_zero]
          with_reducible refine wpList_want (v := (.bool true)) (w' := w3) ?_ ?_ ?_
          (· kernel_rfl)
          (· go_simp)
          simp only [Act.put, List.setIfInBounds_toArray, List.set_cons_succ, List.set_cons_zero]
          with_reducible refine wpList_want (v := (.pointer (some ⟨B, 4, none⟩))) (w' := w3) ?_ ?_ ?_
          (· kernel_rfl)
          (· go_simp)
          simp only [Act.put, List.setIfInBounds_toArray, List.set_cons_succ, List.set_cons_zero]
          with_reducible refine wpList_want (v := (.bool true)) (w' := w3) ?_ ?_ ?_
          (· kernel_rfl)
          (· exact exec_loadQ (.tmp 21) _ _ rfl rfl C4.out)
          simp only [Act.put, List.setIfInBounds_toArray, List.set_cons_succ, List.set_cons_zero]
          with_reducible refine wpList_want (v := (.bool true)) (w' := w3) ?_ ?_ ?_
          (· kernel_rfl)
          (· go_simp)
          simp only [Act.put, List.setIfInBounds_toArray, List.set_cons_succ, List.set_cons_zero]
          with_reducible refine wpList_skipQ _ rfl ?_ ?_
          (· kernel_rfl)
          simp only [Act.put, List.setIfInBounds_toArray, List.set_cons_succ, List.set_cons_zero]
          with_reducible refine wpList_skipQ _ rfl ?_ ?_
          (· kernel_rfl)
          simp only [Act.put, List.setIfInBounds_toArray, List.set_cons_succ, List.set_cons_zero]
          with_reducible refine wpList_skipQ _ rfl ?_ ?_
          (· kernel_rfl)
          simp only [Act.put, List.setIfInBounds_toArray, List.set_cons_succ, List.set_cons_zero]
          with_reducible refine wpList_skipQ _ rfl ?_ ?_
          (· kernel_rfl)
          simp only [Act.put, List.setIfInBounds_toArray, List.set_cons_succ, List.set_cons_zero]
          with_reducible refine wpList_want (v := (.bool true)) (w' := w3) ?_ ?_ ?_
          (· kernel_rfl)
          (· go_simp)
          simp only [Act.put, List.setIfInBounds_toArray, List.set_cons_succ, List.set_cons_zero]
          with_reducible refine wpList_want (v := (.bool true)) (w' := w3) ?_ ?_ ?_
          (· kernel_rfl)
          (· go_simp)
          simp only [Act.put, List.setIfInBounds_toArray, List.set_cons_succ, List.set_cons_zero]
          with_reducible refine wpList_want (v := (.bool true)) (w' := w3) ?_ ?_ ?_
          (· kernel_rfl)
          (· go_simp)
          simp only [Act.put, List.setIfInBounds_toArray, List.set_cons_succ, List.set_cons_zero]
          with_reducible refine wpList_want (v := (.pointer (some ⟨B, 5, none⟩))) (w' := w3) ?_ ?_ ?_
          (· kernel_rfl)
          (· go_simp)
          simp only [Act.put, List.setIfInBounds_toArray, List.set_cons_succ, List.set_cons_zero]
          with_reducible refine wpList_want (v := (.pointer (some ⟨B, 69, none⟩))) (w' := w3) ?_ ?_ ?_
          (· kernel_rfl)
          (· go_simp)
          simp only [Act.put, List.setIfInBounds_toArray, List.set_cons_succ, List.set_cons_zero]
          with_reducible refine wpList_want (v := (.bool false)) (w' := w3) ?_ ?_ ?_
          (· kernel_rfl)
          (· exact exec_loadQ (.tmp 32) _ _ rfl rfl C69.out)
          simp only [Act.put, List.setIfInBounds_toArray, List.set_cons_succ, List.set_cons_zero]
          with_reducible refine wpList_want (v := (.bool false)) (w' := w3) ?_ ?_ ?_
          (· kernel_rfl)
          (· go_simp)
          simp only [Act.put, List.setIfInBounds_toArray, List.set_cons_succ, List.set_cons_zero]
          with_reducible refine wpList_want (v := (.pointer (some ⟨B, 5, none⟩))) (w' := w3) ?_ ?_ ?_
          (· kernel_rfl)
          (· go_simp)
          simp only [Act.put, List.setIfInBounds_toArray, List.set_cons_succ, List.set_cons_zero]
          with_reducible refine wpList_want (v := (.pointer (some ⟨B, 70, none⟩))) (w' := w3) ?_ ?_ ?_
          (· kernel_rfl)
          (· go_simp)
          simp only [Act.put, List.setIfInBounds_toArray, List.set_cons_succ, List.set_cons_zero]
          with_reducible refine wpList_want (v := (.int .u32 ((0 : Nat) : Int))) (w' := w3) ?_ ?_ ?_
          (· kernel_rfl)
          (· exact exec_loadQ (.tmp 36) _ _ rfl rfl C70.out)
          simp only [Act.put, List.setIfInBounds_toArray, List.set_cons_succ, List.set_cons_zero]
          with_reducible refine wpList_want (v := (.bool true)) (w' := w3) ?_ ?_ ?_
          (· kernel_rfl)
          (· go_simp)
          simp only [Act.put, List.setIfInBounds_toArray, List.set_cons_succ, List.set_cons_zero]
          with_reducible refine wpList_want (v := (.bool true)) (w' := w3) ?_ ?_ ?_
          (· kernel_rfl)
          (· go_simp)
          simp only [Act.put, List.setIfInBounds_toArray, List.set_cons_succ, List.set_cons_zero]
          with_reducible refine wpList_want (v := (.bool true)) (w' := w3) ?_ ?_ ?_
          (· kernel_rfl)
          (· go_simp)
          simp only [Act.put, List.setIfInBounds_toArray, List.set_cons_succ, List.set_cons_zero]
          with_reducible refine wpList_want (v := (.bool true)) (w' := w3) ?_ ?_ ?_
          (· kernel_rfl)
          (· go_simp)
          simp only [Act.put, List.setIfInBounds_toArray, List.set_cons_succ, List.set_cons_zero]
          with_reducible refine wpList_want (v := (.pointer (some ⟨B, 105, none⟩))) (w' := w3) ?_ ?_ ?_
          (· kernel_rfl)
          (· go_simp)
          simp only [Act.put, List.setIfInBounds_toArray, List.set_cons_succ, List.set_cons_zero]
          with_reducible refine wpList_want (v := (.slice x.ad x.nb x.cb)) (w' := w3) ?_ ?_ ?_
          (· kernel_rfl)
          (· exact exec_loadQ (.tmp 42) _ _ rfl rfl C105.out)
          simp only [Act.put, List.setIfInBounds_toArray, List.set_cons_succ, List.set_cons_zero]
          with_reducible refine wpList_want (v := (.int .i64 x.nb)) (w' := w3) ?_ ?_ ?_
          (· kernel_rfl)
          (· go_simp)
          simp only [Act.put, List.setIfInBounds_toArray, List.set_cons_succ, List.set_cons_zero]
          with_reducible refine wpList_want (v := (.bool false)) (w' := w3) ?_ ?_ ?_
          (· kernel_rfl)
          (· go_simp)
          simp only [Act.put, List.setIfInBounds_toArray, List.set_cons_succ, List.set_cons_zero]
          with_reducible refine wpList_want (v := (.bool false)) (w' := w3) ?_ ?_ ?_
          (· kernel_rfl)
          (· go_simp)
          simp only [Act.put, List.setIfInBounds_toArray, List.set_cons_succ, List.set_cons_zero]
          with_reducible refine wpList_want (v := (.bool false)) (w' := w3) ?_ ?_ ?_
          (· kernel_rfl)
          (· go_simp)
          simp only [Act.put, List.setIfInBounds_toArray, List.set_cons_succ, List.set_cons_zero]
          go_wp2_with fail
          go_ret
          exact ⟨by rw [HP3.out]; rfl, HE.out⟩
      · have HP3 : Hid (envMay x = false) := Lib.hid (by rw [HP2.out _ _ (decide_eq_false h1) rfl]; rfl)
        have j1 : ¬ (od : Int) = 0 := by omega
        clear h1
        go_wp2_with (first | ((with_reducible refine wpList_here ?_); refine wpList_ld (p := .pointer (some ⟨B, 0, none⟩)) 14 ?_ ?_ ?_ HL3.out ?_; (· rfl); go_simp; (· kernel_rfl)) | ((with_reducible refine wpList_here ?_); refine wpList_ld (p := .pointer (some ⟨B, 2, none⟩)) 16 ?_ ?_ ?_ HL4.out ?_; (· rfl); go_simp; (· kernel_rfl)) | ((with_reducible refine wpList_here ?_); refine wpList_ne 15 17 ?_ ?_ ?_ ?_ ?_ HNE.out ?_; (· rfl); go_simp; (· kernel_rfl); (· kernel_rfl); (· kernel_rfl); simp only [Act.put, List.setIfInBounds_toArray, List.set_cons_succ, List.set_cons_zero]; refine Stop.at ?_))
        refine ⟨?_⟩
        with_reducible refine wpList_want (v := (.bool true)) (w' := w3) ?_ ?_ ?_
        (· kernel_rfl)
        (· go_simp)
        simp only [Act.put, List.setIfInBounds_toArray, List.set_cons_succ, List.set_cons_zero]
        with_reducible refine wpList_want (v := (.bool true)) (w' := w3) ?_ ?_ ?_
        (· kernel_rfl)
        (· go_simp)
        simp only [Act.put, List.setIfInBounds_toArray, List.set_cons_succ, List.set_cons_zero]
        with_reducible refine wpList_want (v := (.pointer (some ⟨B, 4, none⟩))) (w' := w3) ?_ ?_ ?_
        (· kernel_rfl)
        (· go_simp)
        simp only [Act.put, List.setIfInBounds_toArray, List.set_cons_succ, List.set_cons_zero]
        with_reducible refine wpList_want (v := (.bool true)) (w' := w3) ?_ ?_ ?_
        (· kernel_rfl)
        (· exact exec_loadQ (.tmp 21) _ _ rfl rfl C4.out)
        simp only [Act.put, List.setIfInBounds_toArray, List.set_cons_succ, List.set_cons_zero]
        with_reducible refine wpList_want (v := (.bool true)) (w' := w3) ?_ ?_ ?_
        (· kernel_rfl)
        (· go_simp)
        simp only [Act.put, List.setIfInBounds_toArray, List.set_cons_succ, List.set_cons_zero]
        with_reducible refine wpList_skipQ _ rfl ?_ ?_
        (· kernel_rfl)
        simp only [Act.put, List.setIfInBounds_toArray, List.set_cons_succ, List.set_cons_zero]
        with_reducible refine wpList_skipQ _ rfl ?_ ?_
        (· kernel_rfl)
        simp only [Act.put, List.setIfInBounds_toArray, List.set_cons_succ, List.set_cons_zero]
        with_reducible refine wpList_skipQ _ rfl ?_ ?_
        (· kernel_rfl)
        simp only [Act.put, List.setIfInBounds_toArray, List.set_cons_succ, List.set_cons_zero]
        with_reducible refine wpList_skipQ _ rfl ?_ ?_
        (· kernel_rfl)
        simp only [Act.put, List.setIfInBounds_toArray, List.set_cons_succ, List.set_cons_zero]
        with_reducible refine wpList_want (v := (.bool true)) (w' := w3) ?_ ?_ ?_
        (· kernel_rfl)
        (· go_simp)
        simp only [Act.put, List.setIfInBounds_toArray, List.set_cons_succ, List.set_cons_zero]
        with_reducible refine wpList_want (v := (.bool true)) (w' := w3) ?_ ?_ ?_
        (· kernel_rfl)
        (· go_simp)
        simp only [Act.put, List.setIfInBounds_toArray, List.set_cons_succ, List.set_cons_zero]
        with_reducible refine wpList_want (v := (.bool true)) (w' := w3) ?_ ?_ ?_
        (· kernel_rfl)
        (· go_simp)
        simp only [Act.put, List.setIfInBounds_toArray, List.set_cons_succ, List.set_cons_zero]
        with_reducible refine wpList_want (v := (.pointer (some ⟨B, 5, none⟩))) (w' := w3) ?_ ?_ ?_
        (· kernel_rfl)
        (· go_simp)
        simp only [Act.put, List.setIfInBounds_toArray, List.set_cons_succ, List.set_cons_zero]
        with_reducible refine wpList_want (v := (.pointer (some ⟨B, 69, none⟩))) (w' := w3) ?_ ?_ ?_
        (· kernel_rfl)
        (· go_simp)
        simp only [Act.put, List.setIfInBounds_toArray, List.set_cons_succ, List.set_cons_zero]
        with_reducible refine wpList_want (v := (.bool false)) (w' := w3) ?_ ?_ ?_
        (· kernel_rfl)
        (· exact exec_loadQ (.tmp 32) _ _ rfl rfl C69.out)
        simp only [Act.put, List.setIfInBounds_toArray, List.set_cons_succ, List.set_cons_zero]
        with_reducible refine wpList_want (v := (.bool false)) (w' := w3) ?_ ?_ ?_
        (· kernel_rfl)
        (· go_simp)
        simp only [Act.put, List.setIfInBounds_toArray, List.set_cons_succ, List.set_cons_zero]
        with_reducible refine wpList_want (v := (.pointer (some ⟨B, 5, none⟩))) (w' := w3) ?_ ?_ ?_
        (· kernel_rfl)
        (· go_simp)
        simp only [Act.put, List.setIfInBounds_toArray, List.set_cons_succ, List.set_cons_zero]
        with_reducible refine wpList_want (v := (.pointer (some ⟨B, 70, none⟩))) (w' := w3) ?_ ?_ ?_
        (· kernel_rfl)
        (· go_simp)
        simp only [Act.put, List.setIfInBounds_toArray, List.set_cons_succ, List.set_cons_zero]
        with_reducible refine wpList_want (v := (.int .u32 od)) (w' := w3) ?_ ?_ ?_
        (· kernel_rfl)
        (· exact exec_loadQ (.tmp 36) _ _ rfl rfl C70.out)
        simp only [Act.put, List.setIfInBounds_toArray, List.set_cons_succ, List.set_cons_zero]
        with_reducible refine wpList_want (v := (.bool false)) (w' := w3) ?_ ?_ ?_
        (· kernel_rfl)
        (· (go_simp <;> omega))
        simp only [Act.put, List.setIfInBounds_toArray, List.set_cons_succ, List.set_cons_zero]
        with_reducible refine wpList_want (v := (.bool false)) (w' := w3) ?_ ?_ ?_
        (· kernel_rfl)
        (· go_simp)
        simp only [Act.put, List.setIfInBounds_toArray, List.set_cons_succ, List.set_cons_zero]
        with_reducible refine wpList_want (v := (.bool false)) (w' := w3) ?_ ?_ ?_
        (· kernel_rfl)
        (· go_simp)
        simp only [Act.put, List.setIfInBounds_toArray, List.set_cons_succ, List.set_cons_zero]
        with_reducible refine wpList_want (v := (.bool false)) (w' := w3) ?_ ?_ ?_
        (· kernel_rfl)
        (· go_simp)
        simp only [Act.put, List.setIfInBounds_toArray, List.set_cons_succ, List.set_cons_zero]
        with_reducible refine wpList_skipQ _ rfl ?_ ?_
        (· kernel_rfl)
        simp only [Act.put, List.setIfInBounds_toArray, List.set_cons_succ, List.set_cons_zero]
        with_reducible refine wpList_skipQ _ rfl ?_ ?_
        (· kernel_rfl)
        simp only [Act.put, List.setIfInBounds_toArray, List.set_cons_succ, List.set_cons_zero]
        with_reducible refine wpList_skipQ _ rfl ?_ ?_
        (· kernel_rfl)
        simp only [Act.put, List.setIfInBounds_toArray, List.set_cons_succ, List.set_cons_zero]
        with_reducible refine wpList_skipQ _ rfl ?_ ?_
        (· kernel_rfl)
        simp only [Act.put, List.setIfInBounds_toArray, List.set_cons_succ, List.set_cons_zero]
        with_reducible refine wpList_want (v := (.bool false)) (w' := w3) ?_ ?_ ?_
        (· kernel_rfl)
        (· go_simp)
        simp only [Act.put, List.setIfInBounds_toArray, List.set_cons_succ, List.set_cons_zero]
        with_reducible refine wpList_want (v := (.bool false)) (w' := w3) ?_ ?_ ?_
        (· kernel_rfl)
        (· go_simp)
        simp only [Act.put, List.setIfInBounds_toArray, List.set_cons_succ, List.set_cons_zero]
        go_wp2_with fail
        go_ret
        exact ⟨by rw [HP3.out]; rfl, HE.out⟩
  | false =>
    cases z with
    | true =>
      cases oc with
      | true =>
        by_cases h2 : x.nb ≤ 4096
        · have HP3 : Hid (envMay x = true) := Lib.hid (by rw [HP2.out _ _ rfl (decide_eq_true h2)]; cases decide (od = 0) <;> rfl)
          have j2 : (x.nb : Int) ≤ 4096 := by omega
          clear h2
          go_wp2_with (first | ((with_reducible refine wpList_here ?_); refine wpList_ld (p := .pointer (some ⟨B, 0, none⟩)) 14 ?_ ?_ ?_ HL3.out ?_; (· rfl); go_simp; (· kernel_rfl)) | ((with_reducible refine wpList_here ?_); refine wpList_ld (p := .pointer (some ⟨B, 2, none⟩)) 16 ?_ ?_ ?_ HL4.out ?_; (· rfl); go_simp; (· kernel_rfl)) | ((with_reducible refine wpList_here ?_); refine wpList_ne 15 17 ?_ ?_ ?_ ?_ ?_ HNE.out ?_; (· rfl); go_simp; (· kernel_rfl); (· kernel_rfl); (· kernel_rfl); simp only [Act.put, List.setIfInBounds_toArray, List.set_cons_succ, List.set_cons_zero]; refine Stop.at ?_))
          refine ⟨?_⟩
          with_reducible refine wpList_want (v := (.bool true)) (w' := w3) ?_ ?_ ?_
          (· kernel_rfl)
          (· go_simp)
          simp only [Act.put, List.setIfInBounds_toArray, List.set_cons_succ, List.set_cons_zero]
          with_reducible refine wpList_want (v := (.bool true)) (w' := w3) ?_ ?_ ?_
          (· kernel_rfl)
          (· go_simp)
          simp only [Act.put, List.setIfInBounds_toArray, List.set_cons_succ, List.set_cons_zero]
          with_reducible refine wpList_want (v := (.pointer (some ⟨B, 4, none⟩))) (w' := w3) ?_ ?_ ?_
          (· kernel_rfl)
          (· go_simp)
          simp only [Act.put, List.setIfInBounds_toArray, List.set_cons_succ, List.set_cons_zero]
          with_reducible refine wpList_want (v := (.bool false)) (w' := w3) ?_ ?_ ?_
          (· kernel_rfl)
          (· exact exec_loadQ (.tmp 21) _ _ rfl rfl C4.out)
          simp only [Act.put, List.setIfInBounds_toArray, List.set_cons_succ, List.set_cons_zero]
          with_reducible refine wpList_want (v := (.bool false)) (w' := w3) ?_ ?_ ?_
          (· kernel_rfl)
          (· go_simp)
          simp only [Act.put, List.setIfInBounds_toArray, List.set_cons_succ, List.set_cons_zero]
          with_reducible refine wpList_want (v := (.pointer (some ⟨B, 5, none⟩))) (w' := w3) ?_ ?_ ?_
          (· kernel_rfl)
          (· go_simp)
          simp only [Act.put, List.setIfInBounds_toArray, List.set_cons_succ, List.set_cons_zero]
          with_reducible refine wpList_want (v := (.agg (rowOf 66 x.st.v))) (w' := w3) ?_ ?_ ?_
          (· kernel_rfl)
          (· exact exec_loadQ (.tmp 24) _ _ rfl rfl HL5.out)
          simp only [Act.put, List.setIfInBounds_toArray, List.set_cons_succ, List.set_cons_zero]
          with_reducible refine wpList_want (v := (.agg (rowOf 66 SetV.zero.v))) (w' := w3) ?_ ?_ ?_
          (· kernel_rfl)
          (· exact exec_loadQ (.tmp 3) _ _ rfl rfl HL6.out)
          simp only [Act.put, List.setIfInBounds_toArray, List.set_cons_succ, List.set_cons_zero]
          with_reducible refine wpList_want (v := (.bool true)) (w' := w3) ?_ ?_ ?_
          (· kernel_rfl)
          (· exact exec_eqlQ (.tmp 25) (.tmp 26) _ _ rfl rfl rfl (by kernel_rfl) HEQ.out)
          simp only [Act.put, List.setIfInBounds_toArray, List.set_cons_succ, List.set_cons_zero]
          with_reducible refine wpList_want (v := (.bool true)) (w' := w3) ?_ ?_ ?_
          (· kernel_rfl)
          (· go_simp)
          simp only [Act.put, List.setIfInBounds_toArray, List.set_cons_succ, List.set_cons_zero]
          with_reducible refine wpList_want (v := (.bool true)) (w' := w3) ?_ ?_ ?_
          (· kernel_rfl)
          (· go_simp)
          simp only [Act.put, List.setIfInBounds_toArray, List.set_cons_succ, List.set_cons_zero]
          with_reducible refine wpList_want (v := (.bool true)) (w' := w3) ?_ ?_ ?_
          (· kernel_rfl)
          (· go_simp)
          simp only [Act.put, List.setIfInBounds_toArray, List.set_cons_succ, List.set_cons_zero]
          with_reducible refine wpList_want (v := (.pointer (some ⟨B, 5, none⟩))) (w' := w3) ?_ ?_ ?_
          (· kernel_rfl)
          (· go_simp)
          simp only [Act.put, List.setIfInBounds_toArray, List.set_cons_succ, List.set_cons_zero]
          with_reducible refine wpList_want (v := (.pointer (some ⟨B, 69, none⟩))) (w' := w3) ?_ ?_ ?_
          (· kernel_rfl)
          (· go_simp)
          simp only [Act.put, List.setIfInBounds_toArray, List.set_cons_succ, List.set_cons_zero]
          with_reducible refine wpList_want (v := (.bool true)) (w' := w3) ?_ ?_ ?_
          (· kernel_rfl)
          (· exact exec_loadQ (.tmp 32) _ _ rfl rfl C69.out)
          simp only [Act.put, List.setIfInBounds_toArray, List.set_cons_succ, List.set_cons_zero]
          with_reducible refine wpList_want (v := (.bool true)) (w' := w3) ?_ ?_ ?_
          (· kernel_rfl)
          (· go_simp)
          simp only [Act.put, List.setIfInBounds_toArray, List.set_cons_succ, List.set_cons_zero]
          with_reducible refine wpList_skipQ _ rfl ?_ ?_
          (· kernel_rfl)
          simp only [Act.put, List.setIfInBounds_toArray, List.set_cons_succ, List.set_cons_zero]
          with_reducible refine wpList_skipQ _ rfl ?_ ?_
          (· kernel_rfl)
          simp only [Act.put, List.setIfInBounds_toArray, List.set_cons_succ, List.set_cons_zero]
          with_reducible refine wpList_skipQ _ rfl ?_ ?_
          (· kernel_rfl)
          simp only [Act.put, List.setIfInBounds_toArray, List.set_cons_succ, List.set_cons_zero]
          with_reducible refine wpList_skipQ _ rfl ?_ ?_
          (· kernel_rfl)
          simp only [Act.put, List.setIfInBounds_toArray, List.set_cons_succ, List.set_cons_zero]
          with_reducible refine wpList_want (v := (.bool true)) (w' := w3) ?_ ?_ ?_
          (· kernel_rfl)
          (· go_simp)
          simp only [Act.put, List.setIfInBounds_toArray, List.set_cons_succ, List.set_cons_zero]
          with_reducible refine wpList_want (v := (.bool true)) (w' := w3) ?_ ?_ ?_
          (· kernel_rfl)
          (· go_simp)
          simp only [Act.put, List.setIfInBounds_toArray, List.set_cons_succ, List.set_cons_zero]
          with_reducible refine wpList_want (v := (.bool true)) (w' := w3) ?_ ?_ ?_
          (· kernel_rfl)
          (· go_simp)
          simp only [Act.put, List.setIfInBounds_toArray, List.set_cons_succ, List.set_cons_zero]
          with_reducible refine wpList_want (v := (.pointer (some ⟨B, 105, none⟩))) (w' := w3) ?_ ?_ ?_
          (· kernel_rfl)
          (· go_simp)
          simp only [Act.put, List.setIfInBounds_toArray, List.set_cons_succ, List.set_cons_zero]
          with_reducible refine wpList_want (v := (.slice x.ad x.nb x.cb)) (w' := w3) ?_ ?_ ?_
          (· kernel_rfl)
          (· exact exec_loadQ (.tmp 42) _ _ rfl rfl C105.out)
          simp only [Act.put, List.setIfInBounds_toArray, List.set_cons_succ, List.set_cons_zero]
          with_reducible refine wpList_want (v := (.int .i64 x.nb)) (w' := w3) ?_ ?_ ?_
          (· kernel_rfl)
          (· go_simp)
          simp only [Act.put, List.setIfInBounds_toArray, List.set_cons_succ, List.set_cons_zero]
          with_reducible refine wpList_want (v := (.bool true)) (w' := w3) ?_ ?_ ?_
          (· kernel_rfl)
          (· go_simp)
          simp only [Act.put, List.setIfInBounds_toArray, List.set_cons_succ, List.set_cons_zero]
          with_reducible refine wpList_want (v := (.bool true)) (w' := w3) ?_ ?_ ?_
          (· kernel_rfl)
          (· go_simp)
          simp only [Act.put, List.setIfInBounds_toArray, List.set_cons_succ, List.set_cons_zero]
          with_reducible refine wpList_want (v := (.bool true)) (w' := w3) ?_ ?_ ?_
          (· kernel_rfl)
          (· go_simp)
          simp only [Act.put, List.setIfInBounds_toArray, List.set_cons_succ, List.set_cons_zero]
          go_wp2_with fail
          go_ret
          exact ⟨by rw [HP3.out]; rfl, HE.out⟩
        · have HP3 : Hid (envMay x = false) := Lib.hid (by rw [HP2.out _ _ rfl (decide_eq_false h2)]; cases decide (od = 0) <;> rfl)
          have j2 : ¬ (x.nb : Int) ≤ 4096 := by omega
          clear h2
          go_wp2_with (first | ((with_reducible refine wpList_here ?_); refine wpList_ld (p := .pointer (some ⟨B, 0, none⟩)) 14 ?_ ?_ ?_ HL3.out ?_; (· rfl); go_simp; (· kernel_rfl)) | ((with_reducible refine wpList_here ?_); refine wpList_ld (p := .pointer (some ⟨B, 2, none⟩)) 16 ?_ ?_ ?_ HL4.out ?_; (· rfl); go_simp; (· kernel_rfl)) | ((with_reducible refine wpList_here ?_); refine wpList_ne 15 17 ?_ ?_ ?_ ?_ ?_ HNE.out ?_; (· rfl); go_simp; (· kernel_rfl); (· kernel_rfl); (· kernel_rfl); simp only [Act.put, List.setIfInBounds_toArray, List.set_cons_succ, List.set_cons_zero]; refine Stop.at ?_))
          refine ⟨?_⟩
          with_reducible refine wpList_want (v := (.bool true)) (w' := w3) ?_ ?_ ?_
          (· kernel_rfl)
          (· go_simp)
          simp only [Act.put, List.setIfInBounds_toArray, List.set_cons_succ, List.set_cons_zero]
          with_reducible refine wpList_want (v := (.bool true)) (w' := w3) ?_ ?_ ?_
          (· kernel_rfl)
          (· go_simp)
          simp only [Act.put, List.setIfInBounds_toArray, List.set_cons_succ, List.set_cons_zero]
          with_reducible refine wpList_want (v := (.pointer (some ⟨B, 4, none⟩))) (w' := w3) ?_ ?_ ?_
          (· kernel_rfl)
          (· go_simp)
          simp only [Act.put, List.setIfInBounds_toArray, List.set_cons_succ, List.set_cons_zero]
          with_reducible refine wpList_want (v := (.bool false)) (w' := w3) ?_ ?_ ?_
          (· kernel_rfl)
          (· exact exec_loadQ (.tmp 21) _ _ rfl rfl C4.out)
          simp only [Act.put, List.setIfInBounds_toArray, List.set_cons_succ, List.set_cons_zero]
          with_reducible refine wpList_want (v := (.bool false)) (w' := w3) ?_ ?_ ?_
          (· kernel_rfl)
          (· go_simp)
          simp only [Act.put, List.setIfInBounds_toArray, List.set_cons_succ, List.set_cons_zero]
          with_reducible refine wpList_want (v := (.pointer (some ⟨B, 5, none⟩))) (w' := w3) ?_ ?_ ?_
          (· kernel_rfl)
          (· go_simp)
          simp only [Act.put, List.setIfInBounds_toArray, List.set_cons_succ, List.set_cons_zero]
          with_reducible refine wpList_want (v := (.agg (rowOf 66 x.st.v))) (w' := w3) ?_ ?_ ?_
          (· kernel_rfl)
          (· exact exec_loadQ (.tmp 24) _ _ rfl rfl HL5.out)
          simp only [Act.put, List.setIfInBounds_toArray, List.set_cons_succ, List.set_cons_zero]
          with_reducible refine wpList_want (v := (.agg (rowOf 66 SetV.zero.v))) (w' := w3) ?_ ?_ ?_
          (· kernel_rfl)
          (· exact exec_loadQ (.tmp 3) _ _ rfl rfl HL6.out)
          simp only [Act.put, List.setIfInBounds_toArray, List.set_cons_succ, List.set_cons_zero]
          with_reducible refine wpList_want (v := (.bool true)) (w' := w3) ?_ ?_ ?_
          (· kernel_rfl)
          (· exact exec_eqlQ (.tmp 25) (.tmp 26) _ _ rfl rfl rfl (by kernel_rfl) HEQ.out)
          simp only [Act.put, List.setIfInBounds_toArray, List.set_cons_succ, List.set_cons_zero]
          with_reducible refine wpList_want (v := (.bool true)) (w' := w3) ?_ ?_ ?_
          (· kernel_rfl)
          (· go_simp)
          simp only [Act.put, List.setIfInBounds_toArray, List.set_cons_succ, List.set_cons_zero]
          with_reducible refine wpList_want (v := (.bool true)) (w' := w3) ?_ ?_ ?_
          (· kernel_rfl)
          (· go_simp)
          simp only [Act.put, List.setIfInBounds_toArray, List.set_cons_succ, List.set_cons_zero]
          with_reducible refine wpList_want (v := (.bool true)) (w' := w3) ?_ ?_ ?_
          (· kernel_rfl)
          (· go_simp)
          simp only [Act.put, List.setIfInBounds_toArray, List.set_cons_succ, List.set_cons_zero]
          with_reducible refine wpList_want (v := (.pointer (some ⟨B, 5, none⟩))) (w' := w3) ?_ ?_ ?_
          (· kernel_rfl)
          (· go_simp)
          simp only [Act.put, List.setIfInBounds_toArray, List.set_cons_succ, List.set_cons_zero]
          with_reducible refine wpList_want (v := (.pointer (some ⟨B, 69, none⟩))) (w' := w3) ?_ ?_ ?_
          (· kernel_rfl)
          (· go_simp)
          simp only [Act.put, List.setIfInBounds_toArray, List.set_cons_succ, List.set_cons_zero]
          with_reducible refine wpList_want (v := (.bool true)) (w' := w3) ?_ ?_ ?_
          (· kernel_rfl)
          (· exact exec_loadQ (.tmp 32) _ _ rfl rfl C69.out)
          simp only [Act.put, List.setIfInBounds_toArray, List.set_cons_succ, List.set_cons_zero]
          with_reducible refine wpList_want (v := (.bool true)) (w' := w3) ?_ ?_ ?_
          (· kernel_rfl)
          (· go_simp)
          simp only [Act.put, List.setIfInBounds_toArray, List.set_cons_succ, List.set_cons_zero]
          with_reducible refine wpList_skipQ _ rfl ?_ ?_
          (· kernel_rfl)
          simp only [Act.put, List.setIfInBounds_toArray, List.set_cons_succ, List.set_cons_zero]
          with_reducible refine wpList_skipQ _ rfl ?_ ?_
          (· kernel_rfl)
          simp only [Act.put, List.setIfInBounds_toArray, List.set_cons_succ, List.set_cons_zero]
          with_reducible refine wpList_skipQ _ rfl ?_ ?_
          (· kernel_rfl)
          simp only [Act.put, List.setIfInBounds_toArray, List.set_cons_succ, List.set_cons_zero]
          with_reducible refine wpList_skipQ _ rfl ?_ ?_
          (· kernel_rfl)
          simp only [Act.put, List.setIfInBounds_toArray, List.set_cons_succ, List.set_cons_zero]
          with_reducible refine wpList_want (v := (.bool true)) (w' := w3) ?_ ?_ ?_
          (· kernel_rfl)
          (· go_simp)
          simp only [Act.put, List.setIfInBounds_toArray, List.set_cons_succ, List.set_cons_zero]
          with_reducible refine wpList_want (v := (.bool true)) (w' := w3) ?_ ?_ ?_
          (· kernel_rfl)
          (· go_simp)
          simp only [Act.put, List.setIfInBounds_toArray, List.set_cons_succ, List.set_cons_zero]
          with_reducible refine wpList_want (v := (.bool true)) (w' := w3) ?_ ?_ ?_
          (· kernel_rfl)
          (· go_simp)
          simp only [Act.put, List.setIfInBounds_toArray, List.set_cons_succ, List.set_cons_zero]
          with_reducible refine wpList_want (v := (.pointer (some ⟨B, 105, none⟩))) (w' := w3) ?_ ?_ ?_
          (· kernel_rfl)
          (· go_simp)
          simp only [Act.put, List.setIfInBounds_toArray, List.set_cons_succ, List.set_cons_zero]
          with_reducible refine wpList_want (v := (.slice x.ad x.nb x.cb)) (w' := w3) ?_ ?_ ?_
          (· kernel_rfl)
          (· exact exec_loadQ (.tmp 42) _ _ rfl rfl C105.out)
          simp only [Act.put, List.setIfInBounds_toArray, List.set_cons_succ, List.set_cons_zero]
          with_reducible refine wpList_want (v := (.int .i64 x.nb)) (w' := w3) ?_ ?_ ?_
          (· kernel_rfl)
          (· go_simp)
          simp only [Act.put, List.setIfInBounds_toArray, List.set_cons_succ, List.set_cons_zero]
          with_reducible refine wpList_want (v := (.bool false)) (w' := w3) ?_ ?_ ?_
          (· kernel_rfl)
          (· go_simp)
          simp only [Act.put, List.setIfInBounds_toArray, List.set_cons_succ, List.set_cons_zero]
          with_reducible refine wpList_want (v := (.bool false)) (w' := w3) ?_ ?_ ?_
          (· kernel_rfl)
          (· go_simp)
          simp only [Act.put, List.setIfInBounds_toArray, List.set_cons_succ, List.set_cons_zero]
          with_reducible refine wpList_want (v := (.bool false)) (w' := w3) ?_ ?_ ?_
          (· kernel_rfl)
          (· go_simp)
          simp only [Act.put, List.setIfInBounds_toArray, List.set_cons_succ, List.set_cons_zero]
          go_wp2_with fail
          go_ret
          exact ⟨by rw [HP3.out]; rfl, HE.out⟩
      | false =>
        by_cases h1 : od = 0
        · by_cases h2 : x.nb ≤ 4096
          · have HP3 : Hid (envMay x = true) := Lib.hid (by rw [HP2.out _ _ (decide_eq_true h1) (decide_eq_true h2)]; rfl)
            have j2 : (x.nb : Int) ≤ 4096 := by omega
            clear h2
            subst h1
            go_wp2_with (first | ((with_reducible refine wpList_here ?_); refine wpList_ld (p := .pointer (some ⟨B, 0, none⟩)) 14 ?_ ?_ ?_ HL3.out ?_; (· rfl); go_simp; (· kernel_rfl)) | ((with_reducible refine wpList_here ?_); refine wpList_ld (p := .pointer (some ⟨B, 2, none⟩)) 16 ?_ ?_ ?_ HL4.out ?_; (· rfl); go_simp; (· kernel_rfl)) | ((with_reducible refine wpList_here ?_); refine wpList_ne 15 17 ?_ ?_ ?_ ?_ ?_ HNE.out ?_; (· rfl); go_simp; (· kernel_rfl); (· kernel_rfl); (· kernel_rfl); simp only [Act.put, List.setIfInBounds_toArray, List.set_cons_succ, List.set_cons_zero]; refine Stop.at ?_))
            refine ⟨?_⟩
            with_reducible refine wpList_want (v := (.bool true)) (w' := w3) ?_ ?_ ?_
            (· kernel_rfl)
            (· go_simp)
            simp only [Act.put, List.setIfInBounds_toArray, List.set_cons_succ, List.set_cons_zero]
            with_reducible refine wpList_want (v := (.bool true)) (w' := w3) ?_ ?_ ?_
            (· kernel_rfl)
            (· go_simp)
            simp only [Act.put, List.setIfInBounds_toArray, List.set_cons_succ, List.set_cons_zero]
            with_reducible refine wpList_want (v := (.pointer (some ⟨B, 4, none⟩))) (w' := w3) ?_ ?_ ?_
            (· kernel_rfl)
            (· go_simp)
            simp only [Act.put, List.setIfInBounds_toArray, List.set_cons_succ, List.set_cons_zero]
            with_reducible refine wpList_want (v := (.bool false)) (w' := w3) ?_ ?_ ?_
            (· kernel_rfl)
            (· exact exec_loadQ (.tmp 21) _ _ rfl rfl C4.out)
            simp only [Act.put, List.setIfInBounds_toArray, List.set_cons_succ, List.set_cons_zero]
            with_reducible refine wpList_want (v := (.bool false)) (w' := w3) ?_ ?_ ?_
            (· kernel_rfl)
            (· go_simp)
            simp only [Act.put, List.setIfInBounds_toArray, List.set_cons_succ, List.set_cons_zero]
            with_reducible refine wpList_want (v := (.pointer (some ⟨B, 5, none⟩))) (w' := w3) ?_ ?_ ?_
            (· kernel_rfl)
            (· go_simp)
            simp only [Act.put, List.setIfInBounds_toArray, List.set_cons_succ, List.set_cons_zero]
            with_reducible refine wpList_want (v := (.agg (rowOf 66 x.st.v))) (w' := w3) ?_ ?_ ?_
            (· kernel_rfl)
            (· exact exec_loadQ (.tmp 24) _ _ rfl rfl HL5.out)
            simp only [Act.put, List.setIfInBounds_toArray, List.set_cons_succ, List.set_cons_zero]
            with_reducible refine wpList_want (v := (.agg (rowOf 66 SetV.zero.v))) (w' := w3) ?_ ?_ ?_
            (· kernel_rfl)
            (· exact exec_loadQ (.tmp 3) _ _ rfl rfl HL6.out)
            simp only [Act.put, List.setIfInBounds_toArray, List.set_cons_succ, List.set_cons_zero]
            with_reducible refine wpList_want (v := (.bool true)) (w' := w3) ?_ ?_ ?_
            (· kernel_rfl)
            (· exact exec_eqlQ (.tmp 25) (.tmp 26) _ _ rfl rfl rfl (by kernel_rfl) HEQ.out)
            simp only [Act.put, List.setIfInBounds_toArray, List.set_cons_succ, List.set_cons_zero]
            with_reducible refine wpList_want (v := (.bool true)) (w' := w3) ?_ ?_ ?_
            (· kernel_rfl)
            (· go_simp)
            simp only [Act.put, List.setIfInBounds_toArray, List.set_cons_succ, List.set_cons_zero]
            with_reducible refine wpList_want (v := (.bool true)) (w' := w3) ?_ ?_ ?_
            (· kernel_rfl)
            (· go_simp)
            simp only [Act.put, List.setIfInBounds_toArray, List.set_cons_succ, List.set_cons_zero]
            with_reducible refine wpList_want (v := (.bool true)) (w' := w3) ?_ ?_ ?_
            (· kernel_rfl)
            (· go_simp)
            simp only [Act.put, List.setIfInBounds_toArray, List.set_cons_succ, List.set_cons_zero]
            with_reducible refine wpList_want (v := (.pointer (some ⟨B, 5, none⟩))) (w' := w3) ?_ ?_ ?_
            (· kernel_rfl)
            (· go_simp)
            simp only [Act.put, List.setIfInBounds_toArray, List.set_cons_succ, List.set_cons_zero]
            with_reducible refine wpList_want (v := (.pointer (some ⟨B, 69, none⟩))) (w' := w3) ?_ ?_ ?_
            (· kernel_rfl)
            (· go_simp)
            simp only [Act.put, List.setIfInBounds_toArray, List.set_cons_succ, List.set_cons_zero]
            with_reducible refine wpList_want (v := (.bool false)) (w' := w3) ?_ ?_ ?_
            (· kernel_rfl)
            (· exact exec_loadQ (.tmp 32) _ _ rfl rfl C69.out)
            simp only [Act.put, List.setIfInBounds_toArray, List.set_cons_succ, List.set_cons_zero]
            with_reducible refine wpList_want (v := (.bool false)) (w' := w3) ?_ ?_ ?_
            (· kernel_rfl)
            (· go_simp)
            simp only [Act.put, List.setIfInBounds_toArray, List.set_cons_succ, List.set_cons_zero]
            with_reducible refine wpList_want (v := (.pointer (some ⟨B, 5, none⟩))) (w' := w3) ?_ ?_ ?_
            (· kernel_rfl)
            (· go_simp)
            simp only [Act.put, List.setIfInBounds_toArray, List.set_cons_succ, List.set_cons_zero]
            with_reducible refine wpList_want (v := (.pointer (some ⟨B, 70, none⟩))) (w' := w3) ?_ ?_ ?_
            (· kernel_rfl)
            (· go_simp)
            simp only [Act.put, List.setIfInBounds_toArray, List.set_cons_succ, List.set_cons_zero]
            with_reducible refine wpList_want (v := (.int .u32 ((0 : Nat) : Int))) (w' := w3) ?_ ?_ ?_
            (· kernel_rfl)
            (· exact exec_loadQ (.tmp 36) _ _ rfl rfl C70.out)
            simp only [Act.put, List.setIfInBounds_toArray, List.set_cons_succ, List.set_cons_zero]
            with_reducible refine wpList_want (v := (.bool true)) (w' := w3) ?_ ?_ ?_
            (· kernel_rfl)
            (· go_simp)
            simp only [Act.put, List.setIfInBounds_toArray, List.set_cons_succ, List.set_cons_zero]
            with_reducible refine wpList_want (v := (.bool true)) (w' := w3) ?_ ?_ ?_
            (· kernel_rfl)
            (· go_simp)
            simp only [Act.put, List.setIfInBounds_toArray, List.set_cons_succ, List.set_cons_zero]
            with_reducible refine wpList_want (v := (.bool true)) (w' := w3) ?_ ?_ ?_
            (· kernel_rfl)
            (· go_simp)
            simp only [Act.put, List.setIfInBounds_toArray, List.set_cons_succ, List.set_cons_zero]
            with_reducible refine wpList_want (v := (.bool true)) (w' := w3) ?_ ?_ ?_
            (· kernel_rfl)
            (· go_simp)
            simp only [Act.put, List.setIfInBounds_toArray, List.set_cons_succ, List.set_cons_zero]
            with_reducible refine wpList_want (v := (.pointer (some ⟨B, 105, none⟩))) (w' := w3) ?_ ?_ ?_
            (· kernel_rfl)
            (· go_simp)
            simp only [Act.put, List.setIfInBounds_toArray, List.set_cons_succ, List.set_cons_zero]
            with_reducible refine wpList_want (v := (.slice x.ad x.nb x.cb)) (w' := w3) ?_ ?_ ?_
            (· kernel_rfl)
            (· exact exec_loadQ (.tmp 42) _ _ rfl rfl C105.out)
            simp only [Act.put, List.setIfInBounds_toArray, List.set_cons_succ, List.set_cons_zero]
            with_reducible refine wpList_want (v := (.int .i64 x.nb)) (w' := w3) ?_ ?_ ?_
            (· kernel_rfl)
            (· go_simp)
            simp only [Act.put, List.setIfInBounds_toArray, List.set_cons_succ, List.set_cons_zero]
            with_reducible refine wpList_want (v := (.bool true)) (w' := w3) ?_ ?_ ?_
            (· kernel_rfl)
            (· go_simp)
            simp only [Act.put, List.setIfInBounds_toArray, List.set_cons_succ, List.set_cons_zero]
            with_reducible refine wpList_want (v := (.bool true)) (w' := w3) ?_ ?_ ?_
            (· kernel_rfl)
            (· go_simp)
            simp only [Act.put, List.setIfInBounds_toArray, List.set_cons_succ, List.set_cons_zero]
            with_reducible refine wpList_want (v := (.bool true)) (w' := w3) ?_ ?_ ?_
            (· kernel_rfl)
            (· go_simp)
            simp only [Act.put, List.setIfInBounds_toArray, List.set_cons_succ, List.set_cons_zero]
            go_wp2_with fail
            go_ret
            exact ⟨by rw [HP3.out]; rfl, HE.out⟩
          · have HP3 : Hid (envMay x = false) := Lib.hid (by rw [HP2.out _ _ (decide_eq_true h1) (decide_eq_false h2)]; rfl)
            have j2 : ¬ (x.nb : Int) ≤ 4096 := by omega
            clear h2
            subst h1
            go_wp2_with (first | ((with_reducible refine wpList_here ?_); refine wpList_ld (p := .pointer (some ⟨B, 0, none⟩)) 14 ?_ ?_ ?_ HL3.out ?_; (· rfl); go_simp; (· kernel_rfl)) | ((with_reducible refine wpList_here ?_); refine wpList_ld (p := .pointer (some ⟨B, 2, none⟩)) 16 ?_ ?_ ?_ HL4.out ?_; (· rfl); go_simp; (· kernel_rfl)) | ((with_reducible refine wpList_here ?_); refine wpList_ne 15 17 ?_ ?_ ?_ ?_ ?_ HNE.out ?_; (· rfl); go_simp; (· kernel_rfl); (· kernel_rfl); (· kernel_rfl); simp only [Act.put, List.setIfInBounds_toArray, List.set_cons_succ, List.set_cons_zero]; refine Stop.at ?_))
            refine ⟨?_⟩
            with_reducible refine wpList_want (v := (.bool true)) (w' := w3) ?_ ?_ ?_
            (· kernel_rfl)
            (· go_simp)
            simp only [Act.put, List.setIfInBounds_toArray, List.set_cons_succ, List.set_cons_zero]
            with_reducible refine wpList_want (v := (.bool true)) (w' := w3) ?_ ?_ ?_
            (· kernel_rfl)
            (· go_simp)
            simp only [Act.put, List.setIfInBounds_toArray, List.set_cons_succ, List.set_cons_zero]
            with_reducible refine wpList_want (v := (.pointer (some ⟨B, 4, none⟩))) (w' := w3) ?_ ?_ ?_
            (· kernel_rfl)
            (· go_simp)
            simp only [Act.put, List.setIfInBounds_toArray, List.set_cons_succ, List.set_cons_zero]
            with_reducible refine wpList_want (v := (.bool false)) (w' := w3) ?_ ?_ ?_
            (· kernel_rfl)
            (· exact exec_loadQ (.tmp 21) _ _ rfl rfl C4.out)
            simp only [Act.put, List.setIfInBounds_toArray, List.set_cons_succ, List.set_cons_zero]
            with_reducible refine wpList_want (v := (.bool false)) (w' := w3) ?_ ?_ ?_
            (· kernel_rfl)
            (· go_simp)
            simp only [Act.put, List.setIfInBounds_toArray, List.set_cons_succ, List.set_cons_zero]
            with_reducible refine wpList_want (v := (.pointer (some ⟨B, 5, none⟩))) (w' := w3) ?_ ?_ ?_
            (· kernel_rfl)
            (· go_simp)
            simp only [Act.put, List.setIfInBounds_toArray, List.set_cons_succ, List.set_cons_zero]
            with_reducible refine wpList_want (v := (.agg (rowOf 66 x.st.v))) (w' := w3) ?_ ?_ ?_
            (· kernel_rfl)
            (· exact exec_loadQ (.tmp 24) _ _ rfl rfl HL5.out)
            simp only [Act.put, List.setIfInBounds_toArray, List.set_cons_succ, List.set_cons_zero]
            with_reducible refine wpList_want (v := (.agg (rowOf 66 SetV.zero.v))) (w' := w3) ?_ ?_ ?_
            (· kernel_rfl)
            (· exact exec_loadQ (.tmp 3) _ _ rfl rfl HL6.out)
            simp only [Act.put, List.setIfInBounds_toArray, List.set_cons_succ, List.set_cons_zero]
            with_reducible refine wpList_want (v := (.bool true)) (w' := w3) ?_ ?_ ?_
            (· kernel_rfl)
            (· exact exec_eqlQ (.tmp 25) (.tmp 26) _ _ rfl rfl rfl (by kernel_rfl) HEQ.out)
            simp only [Act.put, List.setIfInBounds_toArray, List.set_cons_succ, List.set_cons_zero]
            with_reducible refine wpList_want (v := (.bool true)) (w' := w3) ?_ ?_ ?_
            (· kernel_rfl)
            (· go_simp)
            simp only [Act.put, List.setIfInBounds_toArray, List.set_cons_succ, List.set_cons_zero]
            with_reducible refine wpList_want (v := (.bool true)) (w' := w3) ?_ ?_ ?_
            (· kernel_rfl)
            (· go_simp)
            simp only [Act.put, List.setIfInBounds_toArray, List.set_cons_succ, List.set_cons_zero]
            with_reducible refine wpList_want (v := (.bool true)) (w' := w3) ?_ ?_ ?_
            (· kernel_rfl)
            (· go_simp)
            simp only [Act.put, List.setIfInBounds_toArray, List.set_cons_succ, List.set_cons_zero]
            with_reducible refine wpList_want (v := (.pointer (some ⟨B, 5, none⟩))) (w' := w3) ?_ ?_ ?_
            (· kernel_rfl)
            (· go_simp)
            simp only [Act.put, List.setIfInBounds_toArray, List.set_cons_succ, List.set_cons_zero]
            with_reducible refine wpList_want (v := (.pointer (some ⟨B, 69, none⟩))) (w' := w3) ?_ ?_ ?_
            (· kernel_rfl)
            (· go_simp)
            simp only [Act.put, List.setIfInBounds_toArray, List.set_cons_succ, List.set_cons_zero]
            with_reducible refine wpList_want (v := (.bool false)) (w' := w3) ?_ ?_ ?_
            (· kernel_rfl)
            (· exact exec_loadQ (.tmp 32) _ _ rfl rfl C69.out)
            simp only [Act.put, List.setIfInBounds_toArray, List.set_cons_succ, List.set_cons_zero]
            with_reducible refine wpList_want (v := (.bool false)) (w' := w3) ?_ ?_ ?_
            (· kernel_rfl)
            (· go_simp)
            simp only [Act.put, List.setIfInBounds_toArray, List.set_cons_succ, List.set_cons_zero]
            with_reducible refine wpList_want (v := (.pointer (some ⟨B, 5, none⟩))) (w' := w3) ?_ ?_ ?_
            (· kernel_rfl)
            (· go_simp)
            simp only [Act.put, List.setIfInBounds_toArray, List.set_cons_succ, List.set_cons_zero]
            with_reducible refine wpList_want (v := (.pointer (some ⟨B, 70, none⟩))) (w' := w3) ?_ ?_ ?_
            (· kernel_rfl)
            (· go_simp)
            simp only [Act.put, List.setIfInBounds_toArray, List.set_cons_succ, List.set_cons_zero]
            with_reducible refine wpList_want (v := (.int .u32 ((0 : Nat) : Int))) (w' := w3) ?_ ?_ ?_
            (· kernel_rfl)
            (· exact exec_loadQ (.tmp 36) _ _ rfl rfl C70.out)
            simp only [Act.put, List.setIfInBounds_toArray, List.set_cons_succ, List.set_cons_zero]
            with_reducible refine wpList_want (v := (.bool true)) (w' := w3) ?_ ?_ ?_
            (· kernel_rfl)
            (· go_simp)
            simp only [Act.put, List.setIfInBounds_toArray, List.set_cons_succ, List.set_cons_zero]
            with_reducible refine wpList_want (v := (.bool true)) (w' := w3) ?_ ?_ ?_
            (· kernel_rfl)
            (· go_simp)
            simp only [Act.put, List.setIfInBounds_toArray, List.set_cons_succ, List.set_cons_zero]
            with_reducible refine wpList_want (v := (.bool true)) (w' := w3) ?_ ?_ ?_
            (· kernel_rfl)
            (· go_simp)
            simp only [Act.put, List.setIfInBounds_toArray, List.set_cons_succ, List.set_cons_zero]
            with_reducible refine wpList_want (v := (.bool true)) (w' := w3) ?_ ?_ ?_
            (· kernel_rfl)
            (· go_simp)
            simp only [Act.put, List.setIfInBounds_toArray, List.set_cons_succ, List.set_cons_zero]
            with_reducible refine wpList_want (v := (.pointer (some ⟨B, 105, none⟩))) (w' := w3) ?_ ?_ ?_
            (· kernel_rfl)
            (· go_simp)
            simp only [Act.put, List.setIfInBounds_toArray, List.set_cons_succ, List.set_cons_zero]
            with_reducible refine wpList_want (v := (.slice x.ad x.nb x.cb)) (w' := w3) ?_ ?_ ?_
            (· kernel_rfl)
            (· exact exec_loadQ (.tmp 42) _ _ rfl rfl C105.out)
            simp only [Act.put, List.setIfInBounds_toArray, List.set_cons_succ, List.set_cons_zero]
            with_reducible refine wpList_want (v := (.int .i64 x.nb)) (w' := w3) ?_ ?_ ?_
            (· kernel_rfl)
            (· go_simp)
            simp only [Act.put, List.setIfInBounds_toArray, List.set_cons_succ, List.set_cons_zero]
            with_reducible refine wpList_want (v := (.bool false)) (w' := w3) ?_ ?_ ?_
            (· kernel_rfl)
            (· go_simp)
            simp only [Act.put, List.setIfInBounds_toArray, List.set_cons_succ, List.set_cons_zero]
            with_reducible refine wpList_want (v := (.bool false)) (w' := w3) ?_ ?_ ?_
            (· kernel_rfl)
            (· go_simp)
            simp only [Act.put, List.setIfInBounds_toArray, List.set_cons_succ, List.set_cons_zero]
            with_reducible refine wpList_want (v := (.bool false)) (w' := w3) ?_ ?_ ?_
            (· kernel_rfl)
            (· go_simp)
            simp only [Act.put, List.setIfInBounds_toArray, List.set_cons_succ, List.set_cons_zero]
            go_wp2_with fail
            go_ret
            exact ⟨by rw [HP3.out]; rfl, HE.out⟩
        · have HP3 : Hid (envMay x = false) := Lib.hid (by rw [HP2.out _ _ (decide_eq_false h1) rfl]; rfl)
          have j1 : ¬ (od : Int) = 0 := by omega
          clear h1
          go_wp2_with (first | ((with_reducible refine wpList_here ?_); refine wpList_ld (p := .pointer (some ⟨B, 0, none⟩)) 14 ?_ ?_ ?_ HL3.out ?_; (· rfl); go_simp; (· kernel_rfl)) | ((with_reducible refine wpList_here ?_); refine wpList_ld (p := .pointer (some ⟨B, 2, none⟩)) 16 ?_ ?_ ?_ HL4.out ?_; (· rfl); go_simp; (· kernel_rfl)) | ((with_reducible refine wpList_here ?_); refine wpList_ne 15 17 ?_ ?_ ?_ ?_ ?_ HNE.out ?_; (· rfl); go_simp; (· kernel_rfl); (· kernel_rfl); (· kernel_rfl); simp only [Act.put, List.setIfInBounds_toArray, List.set_cons_succ, List.set_cons_zero]; refine Stop.at ?_))
          refine ⟨?_⟩
          with_reducible refine wpList_want (v := (.bool true)) (w' := w3) ?_ ?_ ?_
          (· kernel_rfl)
          (· go_simp)
          simp only [Act.put, List.setIfInBounds_toArray, List.set_cons_succ, List.set_cons_zero]
          with_reducible refine wpList_want (v := (.bool true)) (w' := w3) ?_ ?_ ?_
          (· kernel_rfl)
          (· go_simp)
          simp only [Act.put, List.setIfInBounds_toArray, List.set_cons_succ, List.set_cons_zero]
          with_reducible refine wpList_want (v := (.pointer (some ⟨B, 4, none⟩))) (w' := w3) ?_ ?_ ?_
          (· kernel_rfl)
          (· go_simp)
          simp only [Act.put, List.setIfInBounds_toArray, List.set_cons_succ, List.set_cons_zero]
          with_reducible refine wpList_want (v := (.bool false)) (w' := w3) ?_ ?_ ?_
          (· kernel_rfl)
          (· exact exec_loadQ (.tmp 21) _ _ rfl rfl C4.out)
          simp only [Act.put, List.setIfInBounds_toArray, List.set_cons_succ, List.set_cons_zero]
          with_reducible refine wpList_want (v := (.bool false)) (w' := w3) ?_ ?_ ?_
          (· kernel_rfl)
          (· go_simp)
          simp only [Act.put, List.setIfInBounds_toArray, List.set_cons_succ, List.set_cons_zero]
          with_reducible refine wpList_want (v := (.pointer (some ⟨B, 5, none⟩))) (w' := w3) ?_ ?_ ?_
          (· kernel_rfl)
          (· go_simp)
          simp only [Act.put, List.setIfInBounds_toArray, List.set_cons_succ, List.set_cons_zero]
          with_reducible refine wpList_want (v := (.agg (rowOf 66 x.st.v))) (w' := w3) ?_ ?_ ?_
          (· kernel_rfl)
          (· exact exec_loadQ (.tmp 24) _ _ rfl rfl HL5.out)
          simp only [Act.put, List.setIfInBounds_toArray, List.set_cons_succ, List.set_cons_zero]
          with_reducible refine wpList_want (v := (.agg (rowOf 66 SetV.zero.v))) (w' := w3) ?_ ?_ ?_
          (· kernel_rfl)
          (· exact exec_loadQ (.tmp 3) _ _ rfl rfl HL6.out)
          simp only [Act.put, List.setIfInBounds_toArray, List.set_cons_succ, List.set_cons_zero]
          with_reducible refine wpList_want (v := (.bool true)) (w' := w3) ?_ ?_ ?_
          (· kernel_rfl)
          (· exact exec_eqlQ (.tmp 25) (.tmp 26) _ _ rfl rfl rfl (by kernel_rfl) HEQ.out)
          simp only [Act.put, List.setIfInBounds_toArray, List.set_cons_succ, List.set_cons_zero]
          with_reducible refine wpList_want (v := (.bool true)) (w' := w3) ?_ ?_ ?_
          (· kernel_rfl)
          (· go_simp)
          simp only [Act.put, List.setIfInBounds_toArray, List.set_cons_succ, List.set_cons_zero]
          with_reducible refine wpList_want (v := (.bool true)) (w' := w3) ?_ ?_ ?_
          (· kernel_rfl)
          (· go_simp)
          simp only [Act.put, List.setIfInBounds_toArray, List.set_cons_succ, List.set_cons_zero]
          with_reducible refine wpList_want (v := (.bool true)) (w' := w3) ?_ ?_ ?_
          (· kernel_rfl)
          (· go_simp)
          simp only [Act.put, List.setIfInBounds_toArray, List.set_cons_succ, List.set_cons_zero]
          with_reducible refine wpList_want (v := (.pointer (some ⟨B, 5, none⟩))) (w' := w3) ?_ ?_ ?_
          (· kernel_rfl)
          (· go_simp)
          simp only [Act.put, List.setIfInBounds_toArray, List.set_cons_succ, List.set_cons_zero]
          with_reducible refine wpList_want (v := (.pointer (some ⟨B, 69, none⟩))) (w' := w3) ?_ ?_ ?_
          (· kernel_rfl)
          (· go_simp)
          simp only [Act.put, List.setIfInBounds_toArray, List.set_cons_succ, List.set_cons_zero]
          with_reducible refine wpList_want (v := (.bool false)) (w' := w3) ?_ ?_ ?_
          (· kernel_rfl)
          (· exact exec_loadQ (.tmp 32) _ _ rfl rfl C69.out)
          simp only [Act.put, List.setIfInBounds_toArray, List.set_cons_succ, List.set_cons_zero]
          with_reducible refine wpList_want (v := (.bool false)) (w' := w3) ?_ ?_ ?_
          (· kernel_rfl)
          (· go_simp)
          simp only [Act.put, List.setIfInBounds_toArray, List.set_cons_succ, List.set_cons_zero]
          with_reducible refine wpList_want (v := (.pointer (some ⟨B, 5, none⟩))) (w' := w3) ?_ ?_ ?_
          (· kernel_rfl)
          (· go_simp)
          simp only [Act.put, List.setIfInBounds_toArray, List.set_cons_succ, List.set_cons_zero]
          with_reducible refine wpList_want (v := (.pointer (some ⟨B, 70, none⟩))) (w' := w3) ?_ ?_ ?_
          (· kernel_rfl)
          (· go_simp)
          simp only [Act.put, List.setIfInBounds_toArray, List.set_cons_succ, List.set_cons_zero]
          with_reducible refine wpList_want (v := (.int .u32 od)) (w' := w3) ?_ ?_ ?_
          (· kernel_rfl)
          (· exact exec_loadQ (.tmp 36) _ _ rfl rfl C70.out)
          simp only [Act.put, List.setIfInBounds_toArray, List.set_cons_succ, List.set_cons_zero]
          with_reducible refine wpList_want (v := (.bool false)) (w' := w3) ?_ ?_ ?_
          (· kernel_rfl)
          (· (go_simp <;> omega))
          simp only [Act.put, List.setIfInBounds_toArray, List.set_cons_succ, List.set_cons_zero]
          with_reducible refine wpList_want (v := (.bool false)) (w' := w3) ?_ ?_ ?_
          (· kernel_rfl)
          (· go_simp)
          simp only [Act.put, List.setIfInBounds_toArray, List.set_cons_succ, List.set_cons_zero]
          with_reducible refine wpList_want (v := (.bool false)) (w' := w3) ?_ ?_ ?_
          (· kernel_rfl)
          (· go_simp)
          simp only [Act.put, List.setIfInBounds_toArray, List.set_cons_succ, List.set_cons_zero]
          with_reducible refine wpList_want (v := (.bool false)) (w' := w3) ?_ ?_ ?_
          (· kernel_rfl)
          (· go_simp)
          simp only [Act.put, List.setIfInBounds_toArray, List.set_cons_succ, List.set_cons_zero]
          with_reducible refine wpList_skipQ _ rfl ?_ ?_
          (· kernel_rfl)
          simp only [Act.put, List.setIfInBounds_toArray, List.set_cons_succ, List.set_cons_zero]
          with_reducible refine wpList_skipQ _ rfl ?_ ?_
          (· kernel_rfl)
          simp only [Act.put, List.setIfInBounds_toArray, List.set_cons_succ, List.set_cons_zero]
          with_reducible refine wpList_skipQ _ rfl ?_ ?_
          (· kernel_rfl)
          simp only [Act.put, List.setIfInBounds_toArray, List.set_cons_succ, List.set_cons_zero]
          with_reducible refine wpList_skipQ _ rfl ?_ ?_
          (· kernel_rfl)
          simp only [Act.put, List.setIfInBounds_toArray, List.set_cons_succ, List.set_cons_zero]
          with_reducible refine wpList_want (v := (.bool false)) (w' := w3) ?_ ?_ ?_
          (· kernel_rfl)
          (· go_simp)
          simp only [Act.put, List.setIfInBounds_toArray, List.set_cons_succ, List.set_cons_zero]
          with_reducible refine wpList_want (v := (.bool false)) (w' := w3) ?_ ?_ ?_
          (· kernel_rfl)
          (· go_simp)
          simp only [Act.put, List.setIfInBounds_toArray, List.set_cons_succ, List.set_cons_zero]
          go_wp2_with fail
          go_ret
          exact ⟨by rw [HP3.out]; rfl, HE.out⟩
    | false =>
      have HP3 : Hid (envMay x = false) := Lib.hid (by rw [HP2.out _ _ rfl rfl]; rfl)
      go_wp2_with (first | ((with_reducible refine wpList_here ?_); refine wpList_ld (p := .pointer (some ⟨B, 0, none⟩)) 14 ?_ ?_ ?_ HL3.out ?_; (· rfl); go_simp; (· kernel_rfl)) | ((with_reducible refine wpList_here ?_); refine wpList_ld (p := .pointer (some ⟨B, 2, none⟩)) 16 ?_ ?_ ?_ HL4.out ?_; (· rfl); go_simp; (· kernel_rfl)) | ((with_reducible refine wpList_here ?_); refine wpList_ne 15 17 ?_ ?_ ?_ ?_ ?_ HNE.out ?_; (· rfl); go_simp; (· kernel_rfl); (· kernel_rfl); (· kernel_rfl); simp only [Act.put, List.setIfInBounds_toArray, List.set_cons_succ, List.set_cons_zero]; refine Stop.at ?_))
      refine ⟨?_⟩
      with_reducible refine wpList_want (v := (.bool true)) (w' := w3) ?_ ?_ ?_
      (· kernel_rfl)
      (· go_simp)
      simp only [Act.put, List.setIfInBounds_toArray, List.set_cons_succ, List.set_cons_zero]
      with_reducible refine wpList_want (v := (.bool true)) (w' := w3) ?_ ?_ ?_
      (· kernel_rfl)
      (· go_simp)
      simp only [Act.put, List.setIfInBounds_toArray, List.set_cons_succ, List.set_cons_zero]
      with_reducible refine wpList_want (v := (.pointer (some ⟨B, 4, none⟩))) (w' := w3) ?_ ?_ ?_
      (· kernel_rfl)
      (· go_simp)
      simp only [Act.put, List.setIfInBounds_toArray, List.set_cons_succ, List.set_cons_zero]
      with_reducible refine wpList_want (v := (.bool false)) (w' := w3) ?_ ?_ ?_
      (· kernel_rfl)
      (· exact exec_loadQ (.tmp 21) _ _ rfl rfl C4.out)
      simp only [Act.put, List.setIfInBounds_toArray, List.set_cons_succ, List.set_cons_zero]
      with_reducible refine wpList_want (v := (.bool false)) (w' := w3) ?_ ?_ ?_
      (· kernel_rfl)
      (· go_simp)
      simp only [Act.put, List.setIfInBounds_toArray, List.set_cons_succ, List.set_cons_zero]
      with_reducible refine wpList_want (v := (.pointer (some ⟨B, 5, none⟩))) (w' := w3) ?_ ?_ ?_
      (· kernel_rfl)
      (· go_simp)
      simp only [Act.put, List.setIfInBounds_toArray, List.set_cons_succ, List.set_cons_zero]
      with_reducible refine wpList_want (v := (.agg (rowOf 66 x.st.v))) (w' := w3) ?_ ?_ ?_
      (· kernel_rfl)
      (· exact exec_loadQ (.tmp 24) _ _ rfl rfl HL5.out)
      simp only [Act.put, List.setIfInBounds_toArray, List.set_cons_succ, List.set_cons_zero]
      with_reducible refine wpList_want (v := (.agg (rowOf 66 SetV.zero.v))) (w' := w3) ?_ ?_ ?_
      (· kernel_rfl)
      (· exact exec_loadQ (.tmp 3) _ _ rfl rfl HL6.out)
      simp only [Act.put, List.setIfInBounds_toArray, List.set_cons_succ, List.set_cons_zero]
      with_reducible refine wpList_want (v := (.bool false)) (w' := w3) ?_ ?_ ?_
      (· kernel_rfl)
      (· exact exec_eqlQ (.tmp 25) (.tmp 26) _ _ rfl rfl rfl (by kernel_rfl) HEQ.out)
      simp only [Act.put, List.setIfInBounds_toArray, List.set_cons_succ, List.set_cons_zero]
      with_reducible refine wpList_want (v := (.bool false)) (w' := w3) ?_ ?_ ?_
      (· kernel_rfl)
      (· go_simp)
      simp only [Act.put, List.setIfInBounds_toArray, List.set_cons_succ, List.set_cons_zero]
      with_reducible refine wpList_want (v := (.bool false)) (w' := w3) ?_ ?_ ?_
      (· kernel_rfl)
      (· go_simp)
      simp only [Act.put, List.setIfInBounds_toArray, List.set_cons_succ, List.set_cons_zero]
      with_reducible refine wpList_want (v := (.bool false)) (w' := w3) ?_ ?_ ?_
      (· kernel_rfl)
      (· go_simp)
      simp only [Act.put, List.setIfInBounds_toArray, List.set_cons_succ, List.set_cons_zero]
      with_reducible refine wpList_skipQ _ rfl ?_ ?_
      (· kernel_rfl)
      simp only [Act.put, List.setIfInBounds_toArray, List.set_cons_succ, List.set_cons_zero]
      with_reducible refine wpList_skipQ _ rfl ?_ ?_
      (· kernel_rfl)
      simp only [Act.put, List.setIfInBounds_toArray, List.set_cons_succ, List.set_cons_zero]
      with_reducible refine wpList_skipQ _ rfl ?_ ?_
      (· kernel_rfl)
      simp only [Act.put, List.setIfInBounds_toArray, List.set_cons_succ, List.set_cons_zero]
      with_reducible refine wpList_skipQ _ rfl ?_ ?_
      (· kernel_rfl)
      simp only [Act.put, List.setIfInBounds_toArray, List.set_cons_succ, List.set_cons_zero]
      with_reducible refine wpList_skipQ _ rfl ?_ ?_
      (· kernel_rfl)
      simp only [Act.put, List.setIfInBounds_toArray, List.set_cons_succ, List.set_cons_zero]
      with_reducible refine wpList_skipQ _ rfl ?_ ?_
      (· kernel_rfl)
      simp only [Act.put, List.setIfInBounds_toArray, List.set_cons_succ, List.set_cons_zero]
      with_reducible refine wpList_skipQ _ rfl ?_ ?_
      (· kernel_rfl)
      simp only [Act.put, List.setIfInBounds_toArray, List.set_cons_succ, List.set_cons_zero]
      with_reducible refine wpList_skipQ _ rfl ?_ ?_
      (· kernel_rfl)
      simp only [Act.put, List.setIfInBounds_toArray, List.set_cons_succ, List.set_cons_zero]
      with_reducible refine wpList_skipQ _ rfl ?_ ?_
      (· kernel_rfl)
      simp only [Act.put, List.setIfInBounds_toArray, List.set_cons_succ, List.set_cons_zero]
      with_reducible refine wpList_want (v := (.bool false)) (w' := w3) ?_ ?_ ?_
      (· kernel_rfl)
      (· go_simp)
      simp only [Act.put, List.setIfInBounds_toArray, List.set_cons_succ, List.set_cons_zero]
      with_reducible refine wpList_want (v := (.bool false)) (w' := w3) ?_ ?_ ?_
      (· kernel_rfl)
      (· go_simp)
      simp only [Act.put, List.setIfInBounds_toArray, List.set_cons_succ, List.set_cons_zero]
      with_reducible refine wpList_skipQ _ rfl ?_ ?_
      (· kernel_rfl)
      simp only [Act.put, List.setIfInBounds_toArray, List.set_cons_succ, List.set_cons_zero]
      with_reducible refine wpList_skipQ _ rfl ?_ ?_
      (· kernel_rfl)
      simp only [Act.put, List.setIfInBounds_toArray, List.set_cons_succ, List.set_cons_zero]
      with_reducible refine wpList_skipQ _ rfl ?_ ?_
      (· kernel_rfl)
      simp only [Act.put, List.setIfInBounds_toArray, List.set_cons_succ, List.set_cons_zero]
      with_reducible refine wpList_skipQ _ rfl ?_ ?_
      (· kernel_rfl)
      simp only [Act.put, List.setIfInBounds_toArray, List.set_cons_succ, List.set_cons_zero]
      with_reducible refine wpList_want (v := (.bool false)) (w' := w3) ?_ ?_ ?_
      (· kernel_rfl)
      (· go_simp)
      simp only [Act.put, List.setIfInBounds_toArray, List.set_cons_succ, List.set_cons_zero]
      with_reducible refine wpList_want (v := (.bool false)) (w' := w3) ?_ ?_ ?_
      (· kernel_rfl)
      (· go_simp)
      simp only [Act.put, List.setIfInBounds_toArray, List.set_cons_succ, List.set_cons_zero]
      go_wp2_with fail
      go_ret
      exact ⟨by rw [HP3.out]; rfl, HE.out⟩
end Go.Proofs.Ytdagbighlgfhjaa
namespace Go.Proofs.Ytdagbighlgfhjaa
open Go.RowKit

set_option maxRecDepth 100000
set_option maxHeartbeats 4000000

/-- A flag that is set was there. -/
theorem ISt.flag_good (L : Nat) (F : Nat → Nat) (s : ISt) (h : true = decide (s.num L F 1 = 1)) : ∃ p, s.flagS L F = .good p := by
  have h := of_decide_eq_true h.symm
  unfold ISt.flagS
  rw [if_neg (by omega)]
  cases s with
  | nil => exact absurd h (by show ¬ (0 = 1); decide)
  | bad => exact absurd h (by show ¬ (0 = 1); decide)
  | good a =>
    by_cases e : 1 ≤ L - a
    · exact ⟨a + 1, if_pos ⟨by decide, by omega⟩⟩
    · exfalso
      unfold ISt.num at h
      have e2 : ISt.got L (.good a) ((1 : Nat) : Int) = 0 := if_neg (by omega)
      rw [e2] at h
      cases h
/-- What bytes are, as an envelope whose box is there. -/
def env2 (L : Nat) (F : Nat → Nat) (a : Option Addr) (c : Nat) : EV := ⟨(ISt.good 0).cF L F 2, ((ISt.good 0).take L 2).cF L F 2, decide ((((ISt.good 0).take L 2).take L 2).num L F 1 = 1), (((ISt.good 0).take L 2).take L 2).setV L F, ((((ISt.good 0).take L 2).take L 2).setS L F).hdr L F, a, (((((ISt.good 0).take L 2).take L 2).setS L F).hdrS L).num L F 2, c⟩
def eOk2 (L : Nat) (F : Nat → Nat) : Bool :=
  match ((((((ISt.good 0).take L 2).take L 2).setS L F).hdrS L).take L ((2 : Nat) : Int)) with
  | .good p => decide ((((((ISt.good 0).take L 2).take L 2).setS L F).hdrS L).num L F 2 ≤ 4096) && decide ((((((ISt.good 0).take L 2).take L 2).setS L F).hdrS L).num L F 2 = L - p) && envMay (env2 L F none 0)
  | _ => false
structure RefEnvSays (w : World) (L : Nat) (F : Nat → Nat) (e : Ending) (w' : World) : Prop where
  ex : ∃ a2 c2, e = .returned (.tuple #[.agg (rowOf 106 (if eOk2 L F = true then env2 L F a2 c2 else EV.zero).v), .bool (eOk2 L F)]) ∧ (eOk2 L F = true → OwnN w' w.heap.size (.slice a2 ((((((ISt.good 0).take L 2).take L 2).setS L F).hdrS L).num L F 2) c2) ((((((ISt.good 0).take L 2).take L 2).setS L F).hdrS L).num L F 2) (fun i => F ((L - (((((ISt.good 0).take L 2).take L 2).setS L F).hdrS L).num L F 2) + i)))
  gr : w.grownBy w' none
theorem RefEnvSays.no {w w' : World} {L : Nat} {F : Nat → Nat} {e : Ending} (h : eOk2 L F = false) (hg : w.grownBy w' none) (he : e = .returned (.tuple #[.agg (rowOf 106 EV.zero.v), .bool false])) : RefEnvSays w L F e w' :=
  ⟨⟨none, 0, by rw [h]; exact he, fun h2 => by rw [h] at h2; cases h2⟩, hg⟩
theorem RefEnvSays.yes {w w' : World} {L : Nat} {F : Nat → Nat} {e : Ending} (h : eOk2 L F = true) (a2 : Option Addr) (n c2 : Nat) (hn : n = (((((ISt.good 0).take L 2).take L 2).setS L F).hdrS L).num L F 2) (he : e = .returned (.tuple #[.agg (rowOf 106 (env2 L F a2 c2).v), .bool true])) (hO : OwnN w' w.heap.size (.slice a2 n c2) n (fun i => F ((L - n) + i))) (hg : w.grownBy w' none) : RefEnvSays w L F e w' :=
  ⟨⟨a2, c2, by rw [h]; exact he, fun _ => by rw [← hn]; exact hO⟩, hg⟩
theorem refTakeEnv_any (L c : Nat) (a : Option Addr) (F : Nat → Nat) (w : World) (hR : Rd w w.heap.size a L F) (hc : L ≤ c) (hL : L ≤ 1048576) (hF : ∀ i, F i < 256) :
    Calls Try.prog 35 #[.slice a L c] w (RefEnvSays w L F) := by
  obtain ⟨hs1, hX⟩ := CX.begin (P := Try.prog) (T := 41) (N := 106) (z := EV.zero.v) (Z := Try.zeroCells41) hR hc hL (by kernel_rfl) (by kernel_rfl) (fun j _ => EV.one _ j)
  have HS := Lib.hid hs1
  have HF := Lib.hid hF
  have HC := Lib.hid hc
  have HL := Lib.hid hL
  have HR := Lib.hid hR
  have HX := Lib.hid hX
  clear hs1 hF hc hL hR hX
  go_enter Try.func35, Try.ntmps35
  go_upto_region 3 with (first | ((with_reducible refine wpList_here ?_); refine wpList_st (T := 41) (p := .pointer (some ⟨w.heap.size + 2, 0, none⟩)) (v := .agg (rowOf 106 EV.zero.v)) (.tmp 5) (.tmp 10) ?_ ?_ ?_ ?_ ?_ HS.out ?_; (· rfl); (· rfl); go_simp; (· kernel_rfl); (· kernel_rfl)))
  have hX := HX.out
  clear HX HS
  obtain ⟨R, hR0⟩ : ∃ R, R = w.heap.size := ⟨_, rfl⟩
  rw [← hR0] at hX ⊢
  rw [show R + 1 + 1 = R + 2 from rfl]
  obtain ⟨w1, hw1⟩ : ∃ W, W = ((((w.alloc (.cells Try.zeroCells41 41)).alloc (.cells #[.slice a L c, .int .i64 0, .bool false] 179)).alloc (.cells Try.zeroCells41 41)).setCells (R + 2) 0 (rowOf 106 EV.zero.v).toList) := ⟨_, rfl⟩
  rw [← hw1] at hX ⊢
  have HR0 := Lib.hid hR0
  clear hw1 hR0
  have HQ := Lib.hid (curDev_any hX.cur)
  have HX := Lib.hid hX
  clear hX
  go_wp2_with fail
  go_at_call 116
  refine HQ.out.mono ?_
  rintro e w2 ⟨rfl, hst, hgr⟩
  have hX := HX.out.call hst hgr
  clear hst hgr
  obtain ⟨f1, hf⟩ : ∃ f, f = ISt.cF L F ((ISt.good 0)) 2 := ⟨_, rfl⟩
  rw [← hf]
  have Hf1 := Lib.hid hf
  clear hf
  clear HQ HX
  obtain ⟨k1, k2⟩ := hX.store (P := Try.prog) 0 26 2 (fun j => .int .u8 (f1 j)) (by decide) (by kernel_rfl) (fun _ _ => rfl) (v' := (EV.mk f1 (fun _ => 0) false SetV.zero HV.zero none 0 0).v) (fun i hi => by unfold EV.v; (repeat' split) <;> first | rfl | omega)
  obtain ⟨W, hW⟩ : ∃ W, W = w2.setCells (R + 2) 0 (rowOf 2 (fun j => .int .u8 (f1 j))).toList := ⟨_, rfl⟩
  rw [← hW] at k1 k2
  have HS := Lib.hid k1
  have HX := Lib.hid k2
  clear hX k1 k2
  go_upto_region 4 with (first | ((with_reducible refine wpList_here ?_); refine wpList_st (T := 26) (p := .pointer (some ⟨R + 2, 0, none⟩)) (v := .agg (rowOf 2 (fun j => .int .u8 (f1 j)))) (.tmp 13) (.tmp 12) ?_ ?_ ?_ ?_ ?_ HS.out ?_; (· rfl); (· rfl); go_simp; (· kernel_rfl); (· kernel_rfl)))
  have hX := HX.out
  clear HX HS hW
  have HQ := Lib.hid (curDev_any hX.cur)
  have HX := Lib.hid hX
  clear hX
  go_wp2_with fail
  go_at_call 116
  refine HQ.out.mono ?_
  rintro e w3 ⟨rfl, hst, hgr⟩
  have hX := HX.out.call hst hgr
  clear hst hgr
  obtain ⟨f2, hf⟩ : ∃ f, f = ISt.cF L F (((ISt.good 0).take L 2)) 2 := ⟨_, rfl⟩
  rw [← hf]
  have Hf2 := Lib.hid hf
  clear hf
  clear HQ HX
  obtain ⟨k1, k2⟩ := hX.store (P := Try.prog) 2 26 2 (fun j => .int .u8 (f2 j)) (by decide) (by kernel_rfl) (fun _ _ => rfl) (v' := (EV.mk f1 f2 false SetV.zero HV.zero none 0 0).v) (fun i hi => by unfold EV.v; (repeat' split) <;> first | rfl | omega)
  obtain ⟨W, hW⟩ : ∃ W, W = w3.setCells (R + 2) 2 (rowOf 2 (fun j => .int .u8 (f2 j))).toList := ⟨_, rfl⟩
  rw [← hW] at k1 k2
  have HS := Lib.hid k1
  have HX := Lib.hid k2
  clear hX k1 k2
  go_upto_region 5 with (first | ((with_reducible refine wpList_here ?_); refine wpList_st (T := 26) (p := .pointer (some ⟨R + 2, 2, none⟩)) (v := .agg (rowOf 2 (fun j => .int .u8 (f2 j)))) (.tmp 16) (.tmp 15) ?_ ?_ ?_ ?_ ?_ HS.out ?_; (· rfl); (· rfl); go_simp; (· kernel_rfl); (· kernel_rfl)))
  have hX := HX.out
  clear HX HS hW
  have hfl := curFlag_any hX.cur HF.out
  obtain ⟨hs, hn⟩ : ∃ b, b = decide (ISt.num L F ((((ISt.good 0).take L 2).take L 2)) 1 = 1) := ⟨_, rfl⟩
  have Hhs := Lib.hid hn
  have HQ := Lib.hid hfl
  have HX := Lib.hid hX
  clear hX hfl
  go_wp2_with fail
  go_at_call 120
  refine HQ.out.mono ?_
  rintro e w4 ⟨rfl, hst, hgr⟩
  have hX := HX.out.call hst hgr
  rw [← hn]
  clear hst hgr HQ HX hn
  have cc : w4.cell? ⟨R + 2, 4, none⟩ = some (.bool false) := hX.row.cell 4 (by decide)
  have ff := hX.row.frozen 4
  have hX2 := hX.put 4 (.bool hs) (by decide) (v' := (EV.mk f1 f2 hs SetV.zero HV.zero none 0 0).v) (fun i hi => by unfold EV.v; (repeat' split) <;> first | rfl | omega)
  have HX := Lib.hid hX2
  clear hX hX2
  go_upto_region 6 with fail
  have hX := HX.out
  obtain ⟨W, hW⟩ : ∃ W, W = w4.setCell ⟨R + 2, 4, none⟩ (.bool hs) := ⟨_, rfl⟩
  rw [← hW] at hX ⊢
  clear HX cc ff hW
  have c4 : W.cell? ⟨R + 2, 4, none⟩ = some (.bool hs) := hX.row.cell 4 (by decide)
  cases hs with
  | false =>
    have HX := Lib.hid hX
    clear hX
    go_upto_region 12 with fail
    have hX := HX.out
    clear HX c4
    obtain ⟨st, hst⟩ : ∃ x, x = (((ISt.good 0).take L 2).take L 2).setV L F := ⟨_, rfl⟩
    rw [show SetV.zero = st by rw [hst]; unfold ISt.setV; rw [← Hhs.out] <;> rfl] at hX
    have HST := Lib.hid hst
    clear hst
    rw [show ((((ISt.good 0).take L 2).take L 2).flagS L F) = ((((ISt.good 0).take L 2).take L 2).setS L F) by unfold ISt.setS; rw [← Hhs.out] <;> rfl] at hX
    have HQ := Lib.hid (curHdr_any hX.cur HF.out)
    have HX := Lib.hid hX
    clear hX
    go_wp2_with fail
    go_at_call 119
    refine HQ.out.mono ?_
    rintro e w5 ⟨rfl, hst, hgr⟩
    have hX := HX.out.call hst hgr
    clear hst hgr
    obtain ⟨hd, hf⟩ : ∃ x, x = ISt.hdr L F (((((ISt.good 0).take L 2).take L 2).setS L F)) := ⟨_, rfl⟩
    rw [← hf]
    have Hhd := Lib.hid hf
    clear hf
    clear HQ HX
    obtain ⟨k1, k2⟩ := hX.store (P := Try.prog) 71 36 34 hd.v (by decide) (by kernel_rfl) (fun j _ => HV.one _ j) (v' := (EV.mk f1 f2 false st hd none 0 0).v) (fun i hi => by unfold EV.v; (repeat' split) <;> first | rfl | omega)
    obtain ⟨W, hW⟩ : ∃ W, W = w5.setCells (R + 2) 71 (rowOf 34 hd.v).toList := ⟨_, rfl⟩
    rw [← hW] at k1 k2
    have HS := Lib.hid k1
    have HX := Lib.hid k2
    clear hX k1 k2
    go_upto_region 13 with (first | ((with_reducible refine wpList_here ?_); refine wpList_st (T := 36) (p := .pointer (some ⟨R + 2, 71, none⟩)) (v := .agg (rowOf 34 hd.v)) (.tmp 53) (.tmp 52) ?_ ?_ ?_ ?_ ?_ HS.out ?_; (· rfl); (· rfl); go_simp; (· kernel_rfl); (· kernel_rfl)))
    have hX := HX.out
    clear HX HS hW
    have hltn4 := ISt.num_lt L F ((((((ISt.good 0).take L 2).take L 2).setS L F).hdrS L)) 2 HF.out
    have hnum := curNum_any 2 hX.cur (by decide) (by decide) HF.out
    obtain ⟨n4, hn⟩ : ∃ n, n = ISt.num L F ((((((ISt.good 0).take L 2).take L 2).setS L F).hdrS L)) 2 := ⟨_, rfl⟩
    have Hn4 := Lib.hid hn
    rw [← hn] at hltn4
    have HQ := Lib.hid hnum
    have HX := Lib.hid hX
    clear hX hnum
    go_wp2_with fail
    go_at_call 115
    refine HQ.out.mono ?_
    rintro e w6 ⟨rfl, hst, hgr⟩
    have hX := HX.out.call hst hgr
    rw [← hn]
    clear hst hgr HQ HX hn
    have jw : IntKind.i64.wrap (n4 : Int) = (n4 : Int) := by rw [IntKind.wrap_i64]; omega
    have HX := Lib.hid hX
    clear hX
    go_upto_region 14 with fail
    have hX := HX.out
    clear HX jw
    obtain ⟨s5, hs5⟩ : ∃ s, s = ((((((ISt.good 0).take L 2).take L 2).setS L F).hdrS L).take L ((2 : Nat) : Int)) := ⟨_, rfl⟩
    rw [← hs5] at hX
    have HS5 := Lib.hid hs5
    have hst := hX.cur.st
    clear hs5
    cases s5 with
    | nil => exact hst.elim
    | bad =>
      obtain ⟨a', c', p', hcc, _⟩ := hst
      have c2 := hcc.c2
      clear hcc
      have HX := Lib.hid hX
      clear hX
      go_upto_region 15 with fail
      have hX := HX.out
      clear HX c2
      have HNO := Lib.hid (show eOk2 L F = false by unfold eOk2; rw [← HS5.out] <;> rfl)
      obtain ⟨k1, k2, k3, k4⟩ := hX.give (P := Try.prog) EV.zero.v (by kernel_rfl) (fun j _ => EV.one _ j)
      have HS := Lib.hid k1
      have HRR := Lib.hid k2
      have HG3 := Lib.hid k3
      have HG := Lib.hid k4
      clear k1 k2 k3 k4 hX
      go_wp2_with (first | ((with_reducible refine wpList_here ?_); refine wpList_st (T := 41) (p := .pointer (some ⟨R, 0, none⟩)) (v := .agg (rowOf 106 EV.zero.v)) (.tmp 2) (.tmp 76) ?_ ?_ ?_ ?_ ?_ HS.out ?_; (· rfl); (· rfl); go_simp; (· kernel_rfl); (· kernel_rfl)))
      exact bodyPost_ret (res_rowAt2 rfl rfl rfl HRR.out (by kernel_rfl) (by kernel_rfl)) rfl (RefEnvSays.no HNO.out HG.out rfl)
    | good p =>
      obtain ⟨a', c', hcc, _, hpL, _⟩ := hst
      have c1 : w6.cell? ⟨R + 1, 1, none⟩ = some (.int .i64 p) := hcc.c1
      have c2 : w6.cell? ⟨R + 1, 2, none⟩ = some (.bool false) := hcc.c2
      clear hcc
      obtain ⟨d, hd⟩ : ∃ d, d = L - p := ⟨_, rfl⟩
      have hLL := HL.out
      have j3 : (L : Int) - (p : Int) = (d : Int) := by omega
      have j5 : IntKind.i64.wrap (d : Int) = (d : Int) := by rw [IntKind.wrap_i64]; omega
      have HPL := Lib.hid hpL
      have HD := Lib.hid hd
      clear hpL hLL hd
      by_cases hbig : n4 ≤ 4096
      · have jb : ¬ (4096 : Int) < (n4 : Int) := by omega
        by_cases hnd : n4 = d
        · subst hnd
          have HBG := Lib.hid hbig
          clear hbig
          have hRD := HR.out.grown hX.gr (by simp)
          obtain ⟨a2, s1, r1⟩ := run_restQ c p hRD HPL.out HC.out
          have S1 := s1 (w6.alloc (.cells #[] 5))
          rw [← HD.out] at S1 r1
          have ga := World.grownBy_alloc w6 (.cells #[] 5) none
          have hE : OwnN (w6.alloc (.cells #[] 5)) w6.heap.size (.slice (some ⟨w6.heap.size, 0, none⟩) 0 0) 0 (fun _ => 0) := ⟨Or.inr ⟨w6.heap.size, 0, rfl, ⟨fun i hi => absurd hi (by omega), fun i hi => absurd hi (by omega), fun i => frozen_of_row _ _ _ _ _ (heap_alloc_new w6 _), Nat.le_refl _, by rw [World.size_alloc]; omega⟩, Nat.le_refl _⟩⟩
          have c1a : (w6.alloc (.cells #[] 5)).cell? ⟨R + 1, 1, none⟩ = some (.int .i64 p) := ga.cell c1 (by simp)
          obtain ⟨a3, c3, w9, hap, hO, hG9, _⟩ := app_N1 (c - p) 39 ga hE (r1 _ (hRD.grown ga (by simp))) (by have := HL.out; omega)
          rw [Nat.zero_add] at hap hO
          have hX9 := hX.grown hG9
          have cc : w9.cell? ⟨R + 2, 105, none⟩ = some (.slice none 0 0) := hX9.row.cell 105 (by decide)
          have ff := hX9.row.frozen 105
          have hX10 := hX9.put 105 (.slice a3 n4 c3) (by decide) (v' := (EV.mk f1 f2 false st hd a3 n4 c3).v) (fun i hi => by unfold EV.v; (repeat' split) <;> first | rfl | omega)
          have hO10 := hO.setOld2 (grown_setCell_new (grown_refl w9 (some (R + 2))) ⟨R + 2, 105, none⟩ (.slice a3 n4 c3) (Or.inr rfl)) hX.row.lt
          rw [cat_none] at hO10
          have HAP := Lib.hid hap
          have HX := Lib.hid hX10
          have HO := Lib.hid hO10
          have HBW := Lib.hid hX.gr.size
          have HBR := Lib.hid hX.row.lt
          clear hap hX9 hX10 hO hO10 hG9 hE ga r1 s1 hRD hX
          go_upto_region 17 with (first | (at_builtin; refine wpList_append_run rfl (.tmp 77) (.tmp 83) 39 39 rfl _ _ _ _ rfl rfl HAP.out ?_))
          have hX := HX.out
          have hO := HO.out
          obtain ⟨wa, hwa⟩ : ∃ W, W = w9.setCell ⟨R + 2, 105, none⟩ (.slice a3 n4 c3) := ⟨_, rfl⟩
          rw [← hwa] at hX hO ⊢
          clear HX HO HAP cc ff c1 c1a c2 S1 hwa j3 j5 jb
          have HLD := Lib.hid (hX.row.load (P := Try.prog) 0 41 106 _ (by decide) (fun j _ => by rw [Nat.zero_add]) (by kernel_rfl) (by kernel_rfl))
          have HMAY := Lib.hid (refMayEnv_any (EV.mk f1 f2 false st hd a3 n4 c3) wa)
          have HX := Lib.hid hX
          have HO := Lib.hid hO
          obtain ⟨mb, hmb⟩ : ∃ b, b = envMay (EV.mk f1 f2 false st hd a3 n4 c3) := ⟨_, rfl⟩
          rw [← hmb] at HMAY
          have HMB := Lib.hid hmb
          clear hX hO hmb
          go_wp2_with (first | ((with_reducible refine wpList_here ?_); refine wpList_ld (p := .pointer (some ⟨R + 2, 0, none⟩)) 5 ?_ ?_ ?_ HLD.out ?_; (· rfl); go_simp; (· kernel_rfl)))
          go_at_call 90
          refine HMAY.out.mono ?_
          rintro e wb ⟨rfl, g6⟩
          have hX := HX.out.grown g6
          have hO := HO.out.grown g6
          clear HX HO HLD HMAY g6
          have HOK2 := Lib.hid (show eOk2 L F = mb by unfold eOk2; rw [← HS5.out]; show (decide (_ ≤ 4096) && decide (_ = L - p) && _) = _; rw [← HD.out, ← Hn4.out, decide_eq_true HBG.out, decide_eq_true rfl, Bool.true_and, Bool.true_and, HMB.out]; unfold env2; rw [← Hf1.out, ← Hf2.out, ← Hhs.out, ← HST.out, ← Hhd.out, ← Hn4.out]; rfl)
          cases mb with
          | false =>
            clear hO
            obtain ⟨k1, k2, k3, k4⟩ := hX.give (P := Try.prog) EV.zero.v (by kernel_rfl) (fun j _ => EV.one _ j)
            have HS := Lib.hid k1
            have HRR := Lib.hid k2
            have HG3 := Lib.hid k3
            have HG := Lib.hid k4
            clear k1 k2 k3 k4 hX
            go_wp2_with (first | ((with_reducible refine wpList_here ?_); refine wpList_st (T := 41) (p := .pointer (some ⟨R, 0, none⟩)) (v := .agg (rowOf 106 EV.zero.v)) (.tmp 2) (.tmp 89) ?_ ?_ ?_ ?_ ?_ HS.out ?_; (· rfl); (· rfl); go_simp; (· kernel_rfl); (· kernel_rfl)))
            exact bodyPost_ret (res_rowAt2 rfl rfl rfl HRR.out (by kernel_rfl) (by kernel_rfl)) rfl (RefEnvSays.no HOK2.out HG.out rfl)
          | true =>
            have HLD := Lib.hid (hX.row.load (P := Try.prog) 0 41 106 _ (by decide) (fun j _ => by rw [Nat.zero_add]) (by kernel_rfl) (by kernel_rfl))
            have HO := Lib.hid hO
            clear hO
            obtain ⟨k1, k2, k3, k4⟩ := hX.give (P := Try.prog) (EV.mk f1 f2 false st hd a3 n4 c3).v (by kernel_rfl) (fun j _ => EV.one _ j)
            have HS := Lib.hid k1
            have HRR := Lib.hid k2
            have HG3 := Lib.hid k3
            have HG := Lib.hid k4
            clear k1 k2 k3 k4 hX
            go_wp2_with (first | ((with_reducible refine wpList_here ?_); refine wpList_ld (p := .pointer (some ⟨R + 2, 0, none⟩)) 5 ?_ ?_ ?_ HLD.out ?_; (· rfl); go_simp; (· kernel_rfl)) | ((with_reducible refine wpList_here ?_); refine wpList_st (T := 41) (p := .pointer (some ⟨R, 0, none⟩)) (v := .agg (rowOf 106 (EV.mk f1 f2 false st hd a3 n4 c3).v)) (.tmp 2) (.tmp 90) ?_ ?_ ?_ ?_ ?_ HS.out ?_; (· rfl); (· rfl); go_simp; (· kernel_rfl); (· kernel_rfl)))
            exact bodyPost_ret (res_rowAt2 rfl rfl rfl HRR.out (by kernel_rfl) (by kernel_rfl)) rfl (RefEnvSays.yes HOK2.out a3 n4 c3 Hn4.out (by unfold env2; rw [← Hf1.out, ← Hf2.out, ← Hhs.out, ← HST.out, ← Hhd.out, ← Hn4.out]; rfl) (by rw [show L - n4 = p by have := HD.out; have := HPL.out; omega]; exact (HO.out.setOld2 HG3.out (by have := HBR.out; omega)).base HBW.out) HG.out)
        · have jn : ¬ (n4 : Int) = (d : Int) := by omega
          have HNO := Lib.hid (show eOk2 L F = false by unfold eOk2; rw [← HS5.out]; show (decide (_ ≤ 4096) && decide (_ = L - p) && _) = _; rw [← HD.out, ← Hn4.out, decide_eq_false hnd, Bool.and_false, Bool.false_and])
          have HX := Lib.hid hX
          clear hX
          go_upto_region 15 with fail
          have hX := HX.out
          clear HX c1 c2 j3 j5 jn jb
          obtain ⟨k1, k2, k3, k4⟩ := hX.give (P := Try.prog) EV.zero.v (by kernel_rfl) (fun j _ => EV.one _ j)
          have HS := Lib.hid k1
          have HRR := Lib.hid k2
          have HG3 := Lib.hid k3
          have HG := Lib.hid k4
          clear k1 k2 k3 k4 hX
          go_wp2_with (first | ((with_reducible refine wpList_here ?_); refine wpList_st (T := 41) (p := .pointer (some ⟨R, 0, none⟩)) (v := .agg (rowOf 106 EV.zero.v)) (.tmp 2) (.tmp 76) ?_ ?_ ?_ ?_ ?_ HS.out ?_; (· rfl); (· rfl); go_simp; (· kernel_rfl); (· kernel_rfl)))
          exact bodyPost_ret (res_rowAt2 rfl rfl rfl HRR.out (by kernel_rfl) (by kernel_rfl)) rfl (RefEnvSays.no HNO.out HG.out rfl)
      · have jb : (4096 : Int) < (n4 : Int) := by omega
        have jn := trivial
        have HNO := Lib.hid (show eOk2 L F = false by unfold eOk2; rw [← HS5.out]; show (decide (_ ≤ 4096) && decide (_ = L - p) && _) = _; rw [← HD.out, ← Hn4.out, decide_eq_false hbig, Bool.false_and, Bool.false_and])
        have HX := Lib.hid hX
        clear hX
        go_upto_region 15 with fail
        have hX := HX.out
        clear HX c1 c2 j3 j5 jn jb
        obtain ⟨k1, k2, k3, k4⟩ := hX.give (P := Try.prog) EV.zero.v (by kernel_rfl) (fun j _ => EV.one _ j)
        have HS := Lib.hid k1
        have HRR := Lib.hid k2
        have HG3 := Lib.hid k3
        have HG := Lib.hid k4
        clear k1 k2 k3 k4 hX
        go_wp2_with (first | ((with_reducible refine wpList_here ?_); refine wpList_st (T := 41) (p := .pointer (some ⟨R, 0, none⟩)) (v := .agg (rowOf 106 EV.zero.v)) (.tmp 2) (.tmp 76) ?_ ?_ ?_ ?_ ?_ HS.out ?_; (· rfl); (· rfl); go_simp; (· kernel_rfl); (· kernel_rfl)))
        exact bodyPost_ret (res_rowAt2 rfl rfl rfl HRR.out (by kernel_rfl) (by kernel_rfl)) rfl (RefEnvSays.no HNO.out HG.out rfl)
  | true =>
    obtain ⟨q, hq⟩ := ISt.flag_good L F (((ISt.good 0).take L 2).take L 2) Hhs.out
    rw [hq] at hX
    have hcur := hX.cur.st
    obtain ⟨_, _, hcc, _⟩ := hcur
    have c2 := hcc.c2
    clear hcc
    rw [← hq] at hX
    have HX := Lib.hid hX
    clear hX hq
    go_upto_region 7 with fail
    have hX := HX.out
    clear HX c2 c4
    have HQ := Lib.hid (curPart_any 32 hX.cur (by decide) (by decide))
    have HX := Lib.hid hX
    clear hX
    go_wp2_with fail
    go_at_call 114
    refine HQ.out.mono ?_
    rintro e u5 ⟨⟨ap, m, cp, rfl, hm, hcp, hRp⟩, hst, hgr⟩
    have hX := HX.out.call hst hgr
    have HK := Lib.hid (sgOfKey_any u5.heap.size m cp ap _ u5 hRp hm)
    clear hst hgr hRp hm hcp
    clear HQ HX
    have HX := Lib.hid hX
    clear hX
    go_wp2_with fail
    go_at_call 117
    refine HK.out.mono ?_
    rintro e w5 ⟨rfl, g3⟩
    have hX := HX.out.grown g3
    clear g3 HX HK
    obtain ⟨g1, hf⟩ : ∃ f, f = ISt.cF L F (((((ISt.good 0).take L 2).take L 2).flagS L F)) 32 := ⟨_, rfl⟩
    rw [← hf]
    have Hg1 := Lib.hid hf
    clear hf
    obtain ⟨k1, k2⟩ := hX.store (P := Try.prog) 5 28 32 (fun j => .int .u8 (g1 j)) (by decide) (by kernel_rfl) (fun _ _ => rfl) (v' := (EV.mk f1 f2 true (SetV.mk g1 (fun _ => 0) false 0) HV.zero none 0 0).v) (fun i hi => by unfold EV.v SetV.v SetV.zero; (repeat' split) <;> first | rfl | omega)
    obtain ⟨W, hW⟩ : ∃ W, W = w5.setCells (R + 2) 5 (rowOf 32 (fun j => .int .u8 (g1 j))).toList := ⟨_, rfl⟩
    rw [← hW] at k1 k2
    have HS := Lib.hid k1
    have HX := Lib.hid k2
    clear hX k1 k2
    go_upto_region 8 with (first | ((with_reducible refine wpList_here ?_); refine wpList_st (T := 28) (p := .pointer (some ⟨R + 2, 5, none⟩)) (v := .agg (rowOf 32 (fun j => .int .u8 (g1 j)))) (.tmp 33) (.tmp 31) ?_ ?_ ?_ ?_ ?_ HS.out ?_; (· rfl); (· rfl); go_simp; (· kernel_rfl); (· kernel_rfl)))
    have hX := HX.out
    clear HX HS hW
    have HQ := Lib.hid (curPart_any 32 hX.cur (by decide) (by decide))
    have HX := Lib.hid hX
    clear hX
    go_wp2_with fail
    go_at_call 114
    refine HQ.out.mono ?_
    rintro e u6 ⟨⟨ap, m, cp, rfl, hm, hcp, hRp⟩, hst, hgr⟩
    have hX := HX.out.call hst hgr
    have HK := Lib.hid (sgOfKey_any u6.heap.size m cp ap _ u6 hRp hm)
    clear hst hgr hRp hm hcp
    clear HQ HX
    have HX := Lib.hid hX
    clear hX
    go_wp2_with fail
    go_at_call 117
    refine HK.out.mono ?_
    rintro e w6 ⟨rfl, g3⟩
    have hX := HX.out.grown g3
    clear g3 HX HK
    obtain ⟨g2, hf⟩ : ∃ f, f = ISt.cF L F ((((((ISt.good 0).take L 2).take L 2).flagS L F).take L ((32 : Nat) : Int))) 32 := ⟨_, rfl⟩
    rw [← hf]
    have Hg2 := Lib.hid hf
    clear hf
    obtain ⟨k1, k2⟩ := hX.store (P := Try.prog) 37 28 32 (fun j => .int .u8 (g2 j)) (by decide) (by kernel_rfl) (fun _ _ => rfl) (v' := (EV.mk f1 f2 true (SetV.mk g1 g2 false 0) HV.zero none 0 0).v) (fun i hi => by unfold EV.v SetV.v; (repeat' split) <;> first | rfl | omega | (refine congrArg (fun q => Value.int IntKind.u8 (g2 q)) ?_; omega))
    obtain ⟨W, hW⟩ : ∃ W, W = w6.setCells (R + 2) 37 (rowOf 32 (fun j => .int .u8 (g2 j))).toList := ⟨_, rfl⟩
    rw [← hW] at k1 k2
    have HS := Lib.hid k1
    have HX := Lib.hid k2
    clear hX k1 k2
    go_upto_region 9 with (first | ((with_reducible refine wpList_here ?_); refine wpList_st (T := 28) (p := .pointer (some ⟨R + 2, 37, none⟩)) (v := .agg (rowOf 32 (fun j => .int .u8 (g2 j)))) (.tmp 38) (.tmp 36) ?_ ?_ ?_ ?_ ?_ HS.out ?_; (· rfl); (· rfl); go_simp; (· kernel_rfl); (· kernel_rfl)))
    have hX := HX.out
    clear HX HS hW
    have hfl := curFlag_any hX.cur HF.out
    obtain ⟨oc, hn⟩ : ∃ b, b = decide (ISt.num L F (((((((ISt.good 0).take L 2).take L 2).flagS L F).take L ((32 : Nat) : Int)).take L ((32 : Nat) : Int))) 1 = 1) := ⟨_, rfl⟩
    have Hoc := Lib.hid hn
    have HQ := Lib.hid hfl
    have HX := Lib.hid hX
    clear hX hfl
    go_wp2_with fail
    go_at_call 120
    refine HQ.out.mono ?_
    rintro e w7 ⟨rfl, hst, hgr⟩
    have hX := HX.out.call hst hgr
    rw [← hn]
    clear hst hgr HQ HX hn
    have cc : w7.cell? ⟨R + 2, 69, none⟩ = some (.bool false) := hX.row.cell 69 (by decide)
    have ff := hX.row.frozen 69
    have hX2 := hX.put 69 (.bool oc) (by decide) (v' := (EV.mk f1 f2 true (SetV.mk g1 g2 oc 0) HV.zero none 0 0).v) (fun i hi => by unfold EV.v SetV.v; (repeat' split) <;> first | rfl | omega)
    have HX := Lib.hid hX2
    clear hX hX2
    go_upto_region 10 with fail
    have hX := HX.out
    obtain ⟨W, hW⟩ : ∃ W, W = w7.setCell ⟨R + 2, 69, none⟩ (.bool oc) := ⟨_, rfl⟩
    rw [← hW] at hX ⊢
    clear HX cc ff hW
    have c69 : W.cell? ⟨R + 2, 69, none⟩ = some (.bool oc) := hX.row.cell 69 (by decide)
    cases oc with
    | false =>
      have HX := Lib.hid hX
      clear hX
      go_upto_region 12 with fail
      have hX := HX.out
      clear HX c69
      have hoc3 : false = decide (((((((ISt.good 0).take L 2).take L 2).flagS L F).take L 32).take L 32).num L F 1 = 1) := Hoc.out
      obtain ⟨st, hst⟩ : ∃ x, x = (((ISt.good 0).take L 2).take L 2).setV L F := ⟨_, rfl⟩
      rw [show (SetV.mk g1 g2 false 0) = st by rw [hst]; unfold ISt.setV; rw [← Hhs.out]; unfold ISt.setV1; rw [← hoc3, Hg1.out, Hg2.out]; rfl] at hX
      have HST := Lib.hid hst
      clear hst
      rw [show (((((((ISt.good 0).take L 2).take L 2).flagS L F).take L ((32 : Nat) : Int)).take L ((32 : Nat) : Int)).flagS L F) = ((((ISt.good 0).take L 2).take L 2).setS L F) by unfold ISt.setS; rw [← Hhs.out]; unfold ISt.setS1; rw [← hoc3]; rfl] at hX
      clear hoc3
      have HQ := Lib.hid (curHdr_any hX.cur HF.out)
      have HX := Lib.hid hX
      clear hX
      go_wp2_with fail
      go_at_call 119
      refine HQ.out.mono ?_
      rintro e w8 ⟨rfl, hst, hgr⟩
      have hX := HX.out.call hst hgr
      clear hst hgr
      obtain ⟨hd, hf⟩ : ∃ x, x = ISt.hdr L F (((((ISt.good 0).take L 2).take L 2).setS L F)) := ⟨_, rfl⟩
      rw [← hf]
      have Hhd := Lib.hid hf
      clear hf
      clear HQ HX
      obtain ⟨k1, k2⟩ := hX.store (P := Try.prog) 71 36 34 hd.v (by decide) (by kernel_rfl) (fun j _ => HV.one _ j) (v' := (EV.mk f1 f2 true st hd none 0 0).v) (fun i hi => by unfold EV.v; (repeat' split) <;> first | rfl | omega)
      obtain ⟨W, hW⟩ : ∃ W, W = w8.setCells (R + 2) 71 (rowOf 34 hd.v).toList := ⟨_, rfl⟩
      rw [← hW] at k1 k2
      have HS := Lib.hid k1
      have HX := Lib.hid k2
      clear hX k1 k2
      go_upto_region 13 with (first | ((with_reducible refine wpList_here ?_); refine wpList_st (T := 36) (p := .pointer (some ⟨R + 2, 71, none⟩)) (v := .agg (rowOf 34 hd.v)) (.tmp 53) (.tmp 52) ?_ ?_ ?_ ?_ ?_ HS.out ?_; (· rfl); (· rfl); go_simp; (· kernel_rfl); (· kernel_rfl)))
      have hX := HX.out
      clear HX HS hW
      have hltn4 := ISt.num_lt L F ((((((ISt.good 0).take L 2).take L 2).setS L F).hdrS L)) 2 HF.out
      have hnum := curNum_any 2 hX.cur (by decide) (by decide) HF.out
      obtain ⟨n4, hn⟩ : ∃ n, n = ISt.num L F ((((((ISt.good 0).take L 2).take L 2).setS L F).hdrS L)) 2 := ⟨_, rfl⟩
      have Hn4 := Lib.hid hn
      rw [← hn] at hltn4
      have HQ := Lib.hid hnum
      have HX := Lib.hid hX
      clear hX hnum
      go_wp2_with fail
      go_at_call 115
      refine HQ.out.mono ?_
      rintro e w9 ⟨rfl, hst, hgr⟩
      have hX := HX.out.call hst hgr
      rw [← hn]
      clear hst hgr HQ HX hn
      have jw : IntKind.i64.wrap (n4 : Int) = (n4 : Int) := by rw [IntKind.wrap_i64]; omega
      have HX := Lib.hid hX
      clear hX
      go_upto_region 14 with fail
      have hX := HX.out
      clear HX jw
      obtain ⟨s5, hs5⟩ : ∃ s, s = ((((((ISt.good 0).take L 2).take L 2).setS L F).hdrS L).take L ((2 : Nat) : Int)) := ⟨_, rfl⟩
      rw [← hs5] at hX
      have HS5 := Lib.hid hs5
      have hst := hX.cur.st
      clear hs5
      cases s5 with
      | nil => exact hst.elim
      | bad =>
        obtain ⟨a', c', p', hcc, _⟩ := hst
        have c2 := hcc.c2
        clear hcc
        have HX := Lib.hid hX
        clear hX
        go_upto_region 15 with fail
        have hX := HX.out
        clear HX c2
        have HNO := Lib.hid (show eOk2 L F = false by unfold eOk2; rw [← HS5.out] <;> rfl)
        obtain ⟨k1, k2, k3, k4⟩ := hX.give (P := Try.prog) EV.zero.v (by kernel_rfl) (fun j _ => EV.one _ j)
        have HS := Lib.hid k1
        have HRR := Lib.hid k2
        have HG3 := Lib.hid k3
        have HG := Lib.hid k4
        clear k1 k2 k3 k4 hX
        go_wp2_with (first | ((with_reducible refine wpList_here ?_); refine wpList_st (T := 41) (p := .pointer (some ⟨R, 0, none⟩)) (v := .agg (rowOf 106 EV.zero.v)) (.tmp 2) (.tmp 76) ?_ ?_ ?_ ?_ ?_ HS.out ?_; (· rfl); (· rfl); go_simp; (· kernel_rfl); (· kernel_rfl)))
        exact bodyPost_ret (res_rowAt2 rfl rfl rfl HRR.out (by kernel_rfl) (by kernel_rfl)) rfl (RefEnvSays.no HNO.out HG.out rfl)
      | good p =>
        obtain ⟨a', c', hcc, _, hpL, _⟩ := hst
        have c1 : w9.cell? ⟨R + 1, 1, none⟩ = some (.int .i64 p) := hcc.c1
        have c2 : w9.cell? ⟨R + 1, 2, none⟩ = some (.bool false) := hcc.c2
        clear hcc
        obtain ⟨d, hd⟩ : ∃ d, d = L - p := ⟨_, rfl⟩
        have hLL := HL.out
        have j3 : (L : Int) - (p : Int) = (d : Int) := by omega
        have j5 : IntKind.i64.wrap (d : Int) = (d : Int) := by rw [IntKind.wrap_i64]; omega
        have HPL := Lib.hid hpL
        have HD := Lib.hid hd
        clear hpL hLL hd
        by_cases hbig : n4 ≤ 4096
        · have jb : ¬ (4096 : Int) < (n4 : Int) := by omega
          by_cases hnd : n4 = d
          · subst hnd
            have HBG := Lib.hid hbig
            clear hbig
            have hRD := HR.out.grown hX.gr (by simp)
            obtain ⟨a2, s1, r1⟩ := run_restQ c p hRD HPL.out HC.out
            have S1 := s1 (w9.alloc (.cells #[] 5))
            rw [← HD.out] at S1 r1
            have ga := World.grownBy_alloc w9 (.cells #[] 5) none
            have hE : OwnN (w9.alloc (.cells #[] 5)) w9.heap.size (.slice (some ⟨w9.heap.size, 0, none⟩) 0 0) 0 (fun _ => 0) := ⟨Or.inr ⟨w9.heap.size, 0, rfl, ⟨fun i hi => absurd hi (by omega), fun i hi => absurd hi (by omega), fun i => frozen_of_row _ _ _ _ _ (heap_alloc_new w9 _), Nat.le_refl _, by rw [World.size_alloc]; omega⟩, Nat.le_refl _⟩⟩
            have c1a : (w9.alloc (.cells #[] 5)).cell? ⟨R + 1, 1, none⟩ = some (.int .i64 p) := ga.cell c1 (by simp)
            obtain ⟨a3, c3, w9, hap, hO, hG9, _⟩ := app_N1 (c - p) 39 ga hE (r1 _ (hRD.grown ga (by simp))) (by have := HL.out; omega)
            rw [Nat.zero_add] at hap hO
            have hX9 := hX.grown hG9
            have cc : w9.cell? ⟨R + 2, 105, none⟩ = some (.slice none 0 0) := hX9.row.cell 105 (by decide)
            have ff := hX9.row.frozen 105
            have hX10 := hX9.put 105 (.slice a3 n4 c3) (by decide) (v' := (EV.mk f1 f2 true st hd a3 n4 c3).v) (fun i hi => by unfold EV.v; (repeat' split) <;> first | rfl | omega)
            have hO10 := hO.setOld2 (grown_setCell_new (grown_refl w9 (some (R + 2))) ⟨R + 2, 105, none⟩ (.slice a3 n4 c3) (Or.inr rfl)) hX.row.lt
            rw [cat_none] at hO10
            have HAP := Lib.hid hap
            have HX := Lib.hid hX10
            have HO := Lib.hid hO10
            have HBW := Lib.hid hX.gr.size
            have HBR := Lib.hid hX.row.lt
            clear hap hX9 hX10 hO hO10 hG9 hE ga r1 s1 hRD hX
            go_upto_region 17 with (first | (at_builtin; refine wpList_append_run rfl (.tmp 77) (.tmp 83) 39 39 rfl _ _ _ _ rfl rfl HAP.out ?_))
            have hX := HX.out
            have hO := HO.out
            obtain ⟨wa, hwa⟩ : ∃ W, W = w9.setCell ⟨R + 2, 105, none⟩ (.slice a3 n4 c3) := ⟨_, rfl⟩
            rw [← hwa] at hX hO ⊢
            clear HX HO HAP cc ff c1 c1a c2 S1 hwa j3 j5 jb
            have HLD := Lib.hid (hX.row.load (P := Try.prog) 0 41 106 _ (by decide) (fun j _ => by rw [Nat.zero_add]) (by kernel_rfl) (by kernel_rfl))
            have HMAY := Lib.hid (refMayEnv_any (EV.mk f1 f2 true st hd a3 n4 c3) wa)
            have HX := Lib.hid hX
            have HO := Lib.hid hO
            obtain ⟨mb, hmb⟩ : ∃ b, b = envMay (EV.mk f1 f2 true st hd a3 n4 c3) := ⟨_, rfl⟩
            rw [← hmb] at HMAY
            have HMB := Lib.hid hmb
            clear hX hO hmb
            go_wp2_with (first | ((with_reducible refine wpList_here ?_); refine wpList_ld (p := .pointer (some ⟨R + 2, 0, none⟩)) 5 ?_ ?_ ?_ HLD.out ?_; (· rfl); go_simp; (· kernel_rfl)))
            go_at_call 90
            refine HMAY.out.mono ?_
            rintro e wb ⟨rfl, g6⟩
            have hX := HX.out.grown g6
            have hO := HO.out.grown g6
            clear HX HO HLD HMAY g6
            have HOK2 := Lib.hid (show eOk2 L F = mb by unfold eOk2; rw [← HS5.out]; show (decide (_ ≤ 4096) && decide (_ = L - p) && _) = _; rw [← HD.out, ← Hn4.out, decide_eq_true HBG.out, decide_eq_true rfl, Bool.true_and, Bool.true_and, HMB.out]; unfold env2; rw [← Hf1.out, ← Hf2.out, ← Hhs.out, ← HST.out, ← Hhd.out, ← Hn4.out]; rfl)
            cases mb with
            | false =>
              clear hO
              obtain ⟨k1, k2, k3, k4⟩ := hX.give (P := Try.prog) EV.zero.v (by kernel_rfl) (fun j _ => EV.one _ j)
              have HS := Lib.hid k1
              have HRR := Lib.hid k2
              have HG3 := Lib.hid k3
              have HG := Lib.hid k4
              clear k1 k2 k3 k4 hX
              go_wp2_with (first | ((with_reducible refine wpList_here ?_); refine wpList_st (T := 41) (p := .pointer (some ⟨R, 0, none⟩)) (v := .agg (rowOf 106 EV.zero.v)) (.tmp 2) (.tmp 89) ?_ ?_ ?_ ?_ ?_ HS.out ?_; (· rfl); (· rfl); go_simp; (· kernel_rfl); (· kernel_rfl)))
              exact bodyPost_ret (res_rowAt2 rfl rfl rfl HRR.out (by kernel_rfl) (by kernel_rfl)) rfl (RefEnvSays.no HOK2.out HG.out rfl)
            | true =>
              have HLD := Lib.hid (hX.row.load (P := Try.prog) 0 41 106 _ (by decide) (fun j _ => by rw [Nat.zero_add]) (by kernel_rfl) (by kernel_rfl))
              have HO := Lib.hid hO
              clear hO
              obtain ⟨k1, k2, k3, k4⟩ := hX.give (P := Try.prog) (EV.mk f1 f2 true st hd a3 n4 c3).v (by kernel_rfl) (fun j _ => EV.one _ j)
              have HS := Lib.hid k1
              have HRR := Lib.hid k2
              have HG3 := Lib.hid k3
              have HG := Lib.hid k4
              clear k1 k2 k3 k4 hX
              go_wp2_with (first | ((with_reducible refine wpList_here ?_); refine wpList_ld (p := .pointer (some ⟨R + 2, 0, none⟩)) 5 ?_ ?_ ?_ HLD.out ?_; (· rfl); go_simp; (· kernel_rfl)) | ((with_reducible refine wpList_here ?_); refine wpList_st (T := 41) (p := .pointer (some ⟨R, 0, none⟩)) (v := .agg (rowOf 106 (EV.mk f1 f2 true st hd a3 n4 c3).v)) (.tmp 2) (.tmp 90) ?_ ?_ ?_ ?_ ?_ HS.out ?_; (· rfl); (· rfl); go_simp; (· kernel_rfl); (· kernel_rfl)))
              exact bodyPost_ret (res_rowAt2 rfl rfl rfl HRR.out (by kernel_rfl) (by kernel_rfl)) rfl (RefEnvSays.yes HOK2.out a3 n4 c3 Hn4.out (by unfold env2; rw [← Hf1.out, ← Hf2.out, ← Hhs.out, ← HST.out, ← Hhd.out, ← Hn4.out]; rfl) (by rw [show L - n4 = p by have := HD.out; have := HPL.out; omega]; exact (HO.out.setOld2 HG3.out (by have := HBR.out; omega)).base HBW.out) HG.out)
          · have jn : ¬ (n4 : Int) = (d : Int) := by omega
            have HNO := Lib.hid (show eOk2 L F = false by unfold eOk2; rw [← HS5.out]; show (decide (_ ≤ 4096) && decide (_ = L - p) && _) = _; rw [← HD.out, ← Hn4.out, decide_eq_false hnd, Bool.and_false, Bool.false_and])
            have HX := Lib.hid hX
            clear hX
            go_upto_region 15 with fail
            have hX := HX.out
            clear HX c1 c2 j3 j5 jn jb
            obtain ⟨k1, k2, k3, k4⟩ := hX.give (P := Try.prog) EV.zero.v (by kernel_rfl) (fun j _ => EV.one _ j)
            have HS := Lib.hid k1
            have HRR := Lib.hid k2
            have HG3 := Lib.hid k3
            have HG := Lib.hid k4
            clear k1 k2 k3 k4 hX
            go_wp2_with (first | ((with_reducible refine wpList_here ?_); refine wpList_st (T := 41) (p := .pointer (some ⟨R, 0, none⟩)) (v := .agg (rowOf 106 EV.zero.v)) (.tmp 2) (.tmp 76) ?_ ?_ ?_ ?_ ?_ HS.out ?_; (· rfl); (· rfl); go_simp; (· kernel_rfl); (· kernel_rfl)))
            exact bodyPost_ret (res_rowAt2 rfl rfl rfl HRR.out (by kernel_rfl) (by kernel_rfl)) rfl (RefEnvSays.no HNO.out HG.out rfl)
        · have jb : (4096 : Int) < (n4 : Int) := by omega
          have jn := trivial
          have HNO := Lib.hid (show eOk2 L F = false by unfold eOk2; rw [← HS5.out]; show (decide (_ ≤ 4096) && decide (_ = L - p) && _) = _; rw [← HD.out, ← Hn4.out, decide_eq_false hbig, Bool.false_and, Bool.false_and])
          have HX := Lib.hid hX
          clear hX
          go_upto_region 15 with fail
          have hX := HX.out
          clear HX c1 c2 j3 j5 jn jb
          obtain ⟨k1, k2, k3, k4⟩ := hX.give (P := Try.prog) EV.zero.v (by kernel_rfl) (fun j _ => EV.one _ j)
          have HS := Lib.hid k1
          have HRR := Lib.hid k2
          have HG3 := Lib.hid k3
          have HG := Lib.hid k4
          clear k1 k2 k3 k4 hX
          go_wp2_with (first | ((with_reducible refine wpList_here ?_); refine wpList_st (T := 41) (p := .pointer (some ⟨R, 0, none⟩)) (v := .agg (rowOf 106 EV.zero.v)) (.tmp 2) (.tmp 76) ?_ ?_ ?_ ?_ ?_ HS.out ?_; (· rfl); (· rfl); go_simp; (· kernel_rfl); (· kernel_rfl)))
          exact bodyPost_ret (res_rowAt2 rfl rfl rfl HRR.out (by kernel_rfl) (by kernel_rfl)) rfl (RefEnvSays.no HNO.out HG.out rfl)
    | true =>
      have HX := Lib.hid hX
      clear hX
      go_upto_region 11 with fail
      have hX := HX.out
      clear HX c69
      have hltn5 := ISt.num_lt L F ((((((((ISt.good 0).take L 2).take L 2).flagS L F).take L ((32 : Nat) : Int)).take L ((32 : Nat) : Int)).flagS L F)) 4 HF.out
      have hnum := curNum_any 4 hX.cur (by decide) (by decide) HF.out
      obtain ⟨n5, hn⟩ : ∃ n, n = ISt.num L F ((((((((ISt.good 0).take L 2).take L 2).flagS L F).take L ((32 : Nat) : Int)).take L ((32 : Nat) : Int)).flagS L F)) 4 := ⟨_, rfl⟩
      have Hn5 := Lib.hid hn
      rw [← hn] at hltn5
      have HQ := Lib.hid hnum
      have HX := Lib.hid hX
      clear hX hnum
      go_wp2_with fail
      go_at_call 115
      refine HQ.out.mono ?_
      rintro e w8 ⟨rfl, hst, hgr⟩
      have hX := HX.out.call hst hgr
      rw [← hn]
      clear hst hgr HQ HX hn
      have jw : IntKind.u32.wrap (n5 : Int) = (n5 : Int) := by rw [IntKind.wrap_u32]; omega
      have cc : w8.cell? ⟨R + 2, 70, none⟩ = some (.int .u32 (0 : Nat)) := hX.row.cell 70 (by decide)
      have ff := hX.row.frozen 70
      have hX2 := hX.put 70 (.int .u32 (n5 : Nat)) (by decide) (v' := (EV.mk f1 f2 true (SetV.mk g1 g2 true n5) HV.zero none 0 0).v) (fun i hi => by unfold EV.v SetV.v; (repeat' split) <;> first | rfl | omega)
      have HX := Lib.hid hX2
      clear hX hX2
      go_upto_region 12 with fail
      have hX := HX.out
      obtain ⟨W, hW⟩ : ∃ W, W = w8.setCell ⟨R + 2, 70, none⟩ (.int .u32 (n5 : Nat)) := ⟨_, rfl⟩
      rw [← hW] at hX ⊢
      clear HX cc ff hW
      clear jw hltn5
      have hoc3 : true = decide (((((((ISt.good 0).take L 2).take L 2).flagS L F).take L 32).take L 32).num L F 1 = 1) := Hoc.out
      obtain ⟨st, hst⟩ : ∃ x, x = (((ISt.good 0).take L 2).take L 2).setV L F := ⟨_, rfl⟩
      rw [show (SetV.mk g1 g2 true n5) = st by rw [hst]; unfold ISt.setV; rw [← Hhs.out]; unfold ISt.setV1; rw [← hoc3, Hg1.out, Hg2.out, Hn5.out]; rfl] at hX
      have HST := Lib.hid hst
      clear hst
      rw [show ((((((((ISt.good 0).take L 2).take L 2).flagS L F).take L ((32 : Nat) : Int)).take L ((32 : Nat) : Int)).flagS L F).take L ((4 : Nat) : Int)) = ((((ISt.good 0).take L 2).take L 2).setS L F) by unfold ISt.setS; rw [← Hhs.out]; unfold ISt.setS1; rw [← hoc3]; rfl] at hX
      clear hoc3
      have HQ := Lib.hid (curHdr_any hX.cur HF.out)
      have HX := Lib.hid hX
      clear hX
      go_wp2_with fail
      go_at_call 119
      refine HQ.out.mono ?_
      rintro e w9 ⟨rfl, hst, hgr⟩
      have hX := HX.out.call hst hgr
      clear hst hgr
      obtain ⟨hd, hf⟩ : ∃ x, x = ISt.hdr L F (((((ISt.good 0).take L 2).take L 2).setS L F)) := ⟨_, rfl⟩
      rw [← hf]
      have Hhd := Lib.hid hf
      clear hf
      clear HQ HX
      obtain ⟨k1, k2⟩ := hX.store (P := Try.prog) 71 36 34 hd.v (by decide) (by kernel_rfl) (fun j _ => HV.one _ j) (v' := (EV.mk f1 f2 true st hd none 0 0).v) (fun i hi => by unfold EV.v; (repeat' split) <;> first | rfl | omega)
      obtain ⟨W, hW⟩ : ∃ W, W = w9.setCells (R + 2) 71 (rowOf 34 hd.v).toList := ⟨_, rfl⟩
      rw [← hW] at k1 k2
      have HS := Lib.hid k1
      have HX := Lib.hid k2
      clear hX k1 k2
      go_upto_region 13 with (first | ((with_reducible refine wpList_here ?_); refine wpList_st (T := 36) (p := .pointer (some ⟨R + 2, 71, none⟩)) (v := .agg (rowOf 34 hd.v)) (.tmp 53) (.tmp 52) ?_ ?_ ?_ ?_ ?_ HS.out ?_; (· rfl); (· rfl); go_simp; (· kernel_rfl); (· kernel_rfl)))
      have hX := HX.out
      clear HX HS hW
      have hltn4 := ISt.num_lt L F ((((((ISt.good 0).take L 2).take L 2).setS L F).hdrS L)) 2 HF.out
      have hnum := curNum_any 2 hX.cur (by decide) (by decide) HF.out
      obtain ⟨n4, hn⟩ : ∃ n, n = ISt.num L F ((((((ISt.good 0).take L 2).take L 2).setS L F).hdrS L)) 2 := ⟨_, rfl⟩
      have Hn4 := Lib.hid hn
      rw [← hn] at hltn4
      have HQ := Lib.hid hnum
      have HX := Lib.hid hX
      clear hX hnum
      go_wp2_with fail
      go_at_call 115
      refine HQ.out.mono ?_
      rintro e w10 ⟨rfl, hst, hgr⟩
      have hX := HX.out.call hst hgr
      rw [← hn]
      clear hst hgr HQ HX hn
      have jw : IntKind.i64.wrap (n4 : Int) = (n4 : Int) := by rw [IntKind.wrap_i64]; omega
      have HX := Lib.hid hX
      clear hX
      go_upto_region 14 with fail
      have hX := HX.out
      clear HX jw
      obtain ⟨s5, hs5⟩ : ∃ s, s = ((((((ISt.good 0).take L 2).take L 2).setS L F).hdrS L).take L ((2 : Nat) : Int)) := ⟨_, rfl⟩
      rw [← hs5] at hX
      have HS5 := Lib.hid hs5
      have hst := hX.cur.st
      clear hs5
      cases s5 with
      | nil => exact hst.elim
      | bad =>
        obtain ⟨a', c', p', hcc, _⟩ := hst
        have c2 := hcc.c2
        clear hcc
        have HX := Lib.hid hX
        clear hX
        go_upto_region 15 with fail
        have hX := HX.out
        clear HX c2
        have HNO := Lib.hid (show eOk2 L F = false by unfold eOk2; rw [← HS5.out] <;> rfl)
        obtain ⟨k1, k2, k3, k4⟩ := hX.give (P := Try.prog) EV.zero.v (by kernel_rfl) (fun j _ => EV.one _ j)
        have HS := Lib.hid k1
        have HRR := Lib.hid k2
        have HG3 := Lib.hid k3
        have HG := Lib.hid k4
        clear k1 k2 k3 k4 hX
        go_wp2_with (first | ((with_reducible refine wpList_here ?_); refine wpList_st (T := 41) (p := .pointer (some ⟨R, 0, none⟩)) (v := .agg (rowOf 106 EV.zero.v)) (.tmp 2) (.tmp 76) ?_ ?_ ?_ ?_ ?_ HS.out ?_; (· rfl); (· rfl); go_simp; (· kernel_rfl); (· kernel_rfl)))
        exact bodyPost_ret (res_rowAt2 rfl rfl rfl HRR.out (by kernel_rfl) (by kernel_rfl)) rfl (RefEnvSays.no HNO.out HG.out rfl)
      | good p =>
        obtain ⟨a', c', hcc, _, hpL, _⟩ := hst
        have c1 : w10.cell? ⟨R + 1, 1, none⟩ = some (.int .i64 p) := hcc.c1
        have c2 : w10.cell? ⟨R + 1, 2, none⟩ = some (.bool false) := hcc.c2
        clear hcc
        obtain ⟨d, hd⟩ : ∃ d, d = L - p := ⟨_, rfl⟩
        have hLL := HL.out
        have j3 : (L : Int) - (p : Int) = (d : Int) := by omega
        have j5 : IntKind.i64.wrap (d : Int) = (d : Int) := by rw [IntKind.wrap_i64]; omega
        have HPL := Lib.hid hpL
        have HD := Lib.hid hd
        clear hpL hLL hd
        by_cases hbig : n4 ≤ 4096
        · have jb : ¬ (4096 : Int) < (n4 : Int) := by omega
          by_cases hnd : n4 = d
          · subst hnd
            have HBG := Lib.hid hbig
            clear hbig
            have hRD := HR.out.grown hX.gr (by simp)
            obtain ⟨a2, s1, r1⟩ := run_restQ c p hRD HPL.out HC.out
            have S1 := s1 (w10.alloc (.cells #[] 5))
            rw [← HD.out] at S1 r1
            have ga := World.grownBy_alloc w10 (.cells #[] 5) none
            have hE : OwnN (w10.alloc (.cells #[] 5)) w10.heap.size (.slice (some ⟨w10.heap.size, 0, none⟩) 0 0) 0 (fun _ => 0) := ⟨Or.inr ⟨w10.heap.size, 0, rfl, ⟨fun i hi => absurd hi (by omega), fun i hi => absurd hi (by omega), fun i => frozen_of_row _ _ _ _ _ (heap_alloc_new w10 _), Nat.le_refl _, by rw [World.size_alloc]; omega⟩, Nat.le_refl _⟩⟩
            have c1a : (w10.alloc (.cells #[] 5)).cell? ⟨R + 1, 1, none⟩ = some (.int .i64 p) := ga.cell c1 (by simp)
            obtain ⟨a3, c3, w9, hap, hO, hG9, _⟩ := app_N1 (c - p) 39 ga hE (r1 _ (hRD.grown ga (by simp))) (by have := HL.out; omega)
            rw [Nat.zero_add] at hap hO
            have hX9 := hX.grown hG9
            have cc : w9.cell? ⟨R + 2, 105, none⟩ = some (.slice none 0 0) := hX9.row.cell 105 (by decide)
            have ff := hX9.row.frozen 105
            have hX10 := hX9.put 105 (.slice a3 n4 c3) (by decide) (v' := (EV.mk f1 f2 true st hd a3 n4 c3).v) (fun i hi => by unfold EV.v; (repeat' split) <;> first | rfl | omega)
            have hO10 := hO.setOld2 (grown_setCell_new (grown_refl w9 (some (R + 2))) ⟨R + 2, 105, none⟩ (.slice a3 n4 c3) (Or.inr rfl)) hX.row.lt
            rw [cat_none] at hO10
            have HAP := Lib.hid hap
            have HX := Lib.hid hX10
            have HO := Lib.hid hO10
            have HBW := Lib.hid hX.gr.size
            have HBR := Lib.hid hX.row.lt
            clear hap hX9 hX10 hO hO10 hG9 hE ga r1 s1 hRD hX
            go_upto_region 17 with (first | (at_builtin; refine wpList_append_run rfl (.tmp 77) (.tmp 83) 39 39 rfl _ _ _ _ rfl rfl HAP.out ?_))
            have hX := HX.out
            have hO := HO.out
            obtain ⟨wa, hwa⟩ : ∃ W, W = w9.setCell ⟨R + 2, 105, none⟩ (.slice a3 n4 c3) := ⟨_, rfl⟩
            rw [← hwa] at hX hO ⊢
            clear HX HO HAP cc ff c1 c1a c2 S1 hwa j3 j5 jb
            have HLD := Lib.hid (hX.row.load (P := Try.prog) 0 41 106 _ (by decide) (fun j _ => by rw [Nat.zero_add]) (by kernel_rfl) (by kernel_rfl))
            have HMAY := Lib.hid (refMayEnv_any (EV.mk f1 f2 true st hd a3 n4 c3) wa)
            have HX := Lib.hid hX
            have HO := Lib.hid hO
            obtain ⟨mb, hmb⟩ : ∃ b, b = envMay (EV.mk f1 f2 true st hd a3 n4 c3) := ⟨_, rfl⟩
            rw [← hmb] at HMAY
            have HMB := Lib.hid hmb
            clear hX hO hmb
            go_wp2_with (first | ((with_reducible refine wpList_here ?_); refine wpList_ld (p := .pointer (some ⟨R + 2, 0, none⟩)) 5 ?_ ?_ ?_ HLD.out ?_; (· rfl); go_simp; (· kernel_rfl)))
            go_at_call 90
            refine HMAY.out.mono ?_
            rintro e wb ⟨rfl, g6⟩
            have hX := HX.out.grown g6
            have hO := HO.out.grown g6
            clear HX HO HLD HMAY g6
            have HOK2 := Lib.hid (show eOk2 L F = mb by unfold eOk2; rw [← HS5.out]; show (decide (_ ≤ 4096) && decide (_ = L - p) && _) = _; rw [← HD.out, ← Hn4.out, decide_eq_true HBG.out, decide_eq_true rfl, Bool.true_and, Bool.true_and, HMB.out]; unfold env2; rw [← Hf1.out, ← Hf2.out, ← Hhs.out, ← HST.out, ← Hhd.out, ← Hn4.out]; rfl)
            cases mb with
            | false =>
              clear hO
              obtain ⟨k1, k2, k3, k4⟩ := hX.give (P := Try.prog) EV.zero.v (by kernel_rfl) (fun j _ => EV.one _ j)
              have HS := Lib.hid k1
              have HRR := Lib.hid k2
              have HG3 := Lib.hid k3
              have HG := Lib.hid k4
              clear k1 k2 k3 k4 hX
              go_wp2_with (first | ((with_reducible refine wpList_here ?_); refine wpList_st (T := 41) (p := .pointer (some ⟨R, 0, none⟩)) (v := .agg (rowOf 106 EV.zero.v)) (.tmp 2) (.tmp 89) ?_ ?_ ?_ ?_ ?_ HS.out ?_; (· rfl); (· rfl); go_simp; (· kernel_rfl); (· kernel_rfl)))
              exact bodyPost_ret (res_rowAt2 rfl rfl rfl HRR.out (by kernel_rfl) (by kernel_rfl)) rfl (RefEnvSays.no HOK2.out HG.out rfl)
            | true =>
              have HLD := Lib.hid (hX.row.load (P := Try.prog) 0 41 106 _ (by decide) (fun j _ => by rw [Nat.zero_add]) (by kernel_rfl) (by kernel_rfl))
              have HO := Lib.hid hO
              clear hO
              obtain ⟨k1, k2, k3, k4⟩ := hX.give (P := Try.prog) (EV.mk f1 f2 true st hd a3 n4 c3).v (by kernel_rfl) (fun j _ => EV.one _ j)
              have HS := Lib.hid k1
              have HRR := Lib.hid k2
              have HG3 := Lib.hid k3
              have HG := Lib.hid k4
              clear k1 k2 k3 k4 hX
              go_wp2_with (first | ((with_reducible refine wpList_here ?_); refine wpList_ld (p := .pointer (some ⟨R + 2, 0, none⟩)) 5 ?_ ?_ ?_ HLD.out ?_; (· rfl); go_simp; (· kernel_rfl)) | ((with_reducible refine wpList_here ?_); refine wpList_st (T := 41) (p := .pointer (some ⟨R, 0, none⟩)) (v := .agg (rowOf 106 (EV.mk f1 f2 true st hd a3 n4 c3).v)) (.tmp 2) (.tmp 90) ?_ ?_ ?_ ?_ ?_ HS.out ?_; (· rfl); (· rfl); go_simp; (· kernel_rfl); (· kernel_rfl)))
              exact bodyPost_ret (res_rowAt2 rfl rfl rfl HRR.out (by kernel_rfl) (by kernel_rfl)) rfl (RefEnvSays.yes HOK2.out a3 n4 c3 Hn4.out (by unfold env2; rw [← Hf1.out, ← Hf2.out, ← Hhs.out, ← HST.out, ← Hhd.out, ← Hn4.out]; rfl) (by rw [show L - n4 = p by have := HD.out; have := HPL.out; omega]; exact (HO.out.setOld2 HG3.out (by have := HBR.out; omega)).base HBW.out) HG.out)
          · have jn : ¬ (n4 : Int) = (d : Int) := by omega
            have HNO := Lib.hid (show eOk2 L F = false by unfold eOk2; rw [← HS5.out]; show (decide (_ ≤ 4096) && decide (_ = L - p) && _) = _; rw [← HD.out, ← Hn4.out, decide_eq_false hnd, Bool.and_false, Bool.false_and])
            have HX := Lib.hid hX
            clear hX
            go_upto_region 15 with fail
            have hX := HX.out
            clear HX c1 c2 j3 j5 jn jb
            obtain ⟨k1, k2, k3, k4⟩ := hX.give (P := Try.prog) EV.zero.v (by kernel_rfl) (fun j _ => EV.one _ j)
            have HS := Lib.hid k1
            have HRR := Lib.hid k2
            have HG3 := Lib.hid k3
            have HG := Lib.hid k4
            clear k1 k2 k3 k4 hX
            go_wp2_with (first | ((with_reducible refine wpList_here ?_); refine wpList_st (T := 41) (p := .pointer (some ⟨R, 0, none⟩)) (v := .agg (rowOf 106 EV.zero.v)) (.tmp 2) (.tmp 76) ?_ ?_ ?_ ?_ ?_ HS.out ?_; (· rfl); (· rfl); go_simp; (· kernel_rfl); (· kernel_rfl)))
            exact bodyPost_ret (res_rowAt2 rfl rfl rfl HRR.out (by kernel_rfl) (by kernel_rfl)) rfl (RefEnvSays.no HNO.out HG.out rfl)
        · have jb : (4096 : Int) < (n4 : Int) := by omega
          have jn := trivial
          have HNO := Lib.hid (show eOk2 L F = false by unfold eOk2; rw [← HS5.out]; show (decide (_ ≤ 4096) && decide (_ = L - p) && _) = _; rw [← HD.out, ← Hn4.out, decide_eq_false hbig, Bool.false_and, Bool.false_and])
          have HX := Lib.hid hX
          clear hX
          go_upto_region 15 with fail
          have hX := HX.out
          clear HX c1 c2 j3 j5 jn jb
          obtain ⟨k1, k2, k3, k4⟩ := hX.give (P := Try.prog) EV.zero.v (by kernel_rfl) (fun j _ => EV.one _ j)
          have HS := Lib.hid k1
          have HRR := Lib.hid k2
          have HG3 := Lib.hid k3
          have HG := Lib.hid k4
          clear k1 k2 k3 k4 hX
          go_wp2_with (first | ((with_reducible refine wpList_here ?_); refine wpList_st (T := 41) (p := .pointer (some ⟨R, 0, none⟩)) (v := .agg (rowOf 106 EV.zero.v)) (.tmp 2) (.tmp 76) ?_ ?_ ?_ ?_ ?_ HS.out ?_; (· rfl); (· rfl); go_simp; (· kernel_rfl); (· kernel_rfl)))
          exact bodyPost_ret (res_rowAt2 rfl rfl rfl HRR.out (by kernel_rfl) (by kernel_rfl)) rfl (RefEnvSays.no HNO.out HG.out rfl)
end Go.Proofs.Ytdagbighlgfhjaa
namespace Go.Proofs.Ytdagbighlgfhjaa
open Go.RowKit

set_option maxRecDepth 100000
set_option maxHeartbeats 4000000

/-- A device's place. -/
def devQ (f : Nat → Nat) : Nat := 256 * f 0 + f 1
theorem cmpD_lt (f g : Nat → Nat) (hf : ∀ j, f j < 256) (hg : ∀ j, g j < 256) : decide (cmpD f g < 0) = !decide (devQ g ≤ devQ f) := by
  have a := hf 0
  have b := hf 1
  have c := hg 0
  have d := hg 1
  unfold cmpD devQ cmpV
  by_cases h1 : f 0 < g 0
  · rw [if_pos h1, if_neg (by decide), decide_eq_false (show ¬ 256 * g 0 + g 1 ≤ 256 * f 0 + f 1 by omega)]; rfl
  · rw [if_neg h1]
    by_cases h2 : g 0 < f 0
    · rw [if_pos h2, if_neg (by decide), decide_eq_true (show 256 * g 0 + g 1 ≤ 256 * f 0 + f 1 by omega)]; rfl
    · rw [if_neg h2, if_pos rfl]
      by_cases h3 : f 1 < g 1
      · rw [if_pos h3, decide_eq_false (show ¬ 256 * g 0 + g 1 ≤ 256 * f 0 + f 1 by omega)]; rfl
      · rw [if_neg h3, decide_eq_true (show 256 * g 0 + g 1 ≤ 256 * f 0 + f 1 by omega)]
        by_cases h4 : g 1 < f 1
        · rw [if_pos h4]; rfl
        · rw [if_neg h4]; rfl
theorem load_u8M {w : World} {B o v : Nat} (h : w.cell? ⟨B, o, none⟩ = some (.int .u8 v)) : (Instr.loadAt 5 (.pointer (some ⟨B, o, none⟩))).run Try.prog w = .ok (.int .u8 v) w := by go_simp
theorem refMembers_any (D n c : Nat) (a : Option Addr) (fm : Nat → Nat → Nat) (w : World) (hR : RdD w D a n fm) (hF : ∀ i j, fm i j < 256) (hn : n ≤ 1048576) : Calls Try.prog 80 #[.slice a n c] w fun e w' => e = .returned (.bool (memMay n fm)) ∧ w.grownBy w' none := by
  have HR := Lib.hid hR
  have HN := Lib.hid hn
  have HF := Lib.hid hF
  clear hn hR hF
  go_enter Try.func80, Try.ntmps80
  go_wp2_with fail
  go_loopw [3] (fun u3 wr => ∃ i : Nat, i ≤ n ∧ u3 = .int .i64 i ∧ (∀ k, k < i → memOk fm k = true) ∧ w.grownBy wr none) (fun u3 _ => n - (intOf u3).toNat)
  case atStart => exact ⟨0, Nat.zero_le _, rfl, fun k hk => absurd hk (by omega), grown_refl _ _⟩
  case round =>
    obtain ⟨i, hi, rfl, hok, hg⟩ := hrel
    by_cases hlt : i < n
    case neg =>
      obtain rfl : i = n := by omega
      have HM : Hid (memMay i fm = decide (i ≤ 32)) := Lib.hid (by
        unfold memMay
        rw [show (List.range i).all (memOk fm) = true from List.all_eq_true.2 fun k hk => hok k (List.mem_range.1 hk), Bool.and_true])
      have HG := Lib.hid hg
      by_cases h32 : i ≤ 32
      · have j0 : (i : Int) ≤ 32 := by omega
        have HD := Lib.hid (decide_eq_true h32)
        clear hok hg hi hlt h32
        go_wp2_with fail
        go_ret
        exact ⟨by rw [HM.out, HD.out]; rfl, HG.out⟩
      · have j0 : ¬ (i : Int) ≤ 32 := by omega
        have HD := Lib.hid (decide_eq_false h32)
        clear hok hg hi hlt h32
        go_wp2_with fail
        go_ret
        exact ⟨by rw [HM.out, HD.out]; first | rfl | (simp; omega), HG.out⟩
    case pos =>
    have j1 : (i : Int) < (n : Int) := by omega
    obtain ⟨tb, o, rfl, htb, hcl⟩ := (HR.out.grown hg (fun k e => by cases e)).ex (by omega)
    have HCL : Hid (∀ k, k < n → ∀ W, wr.grownBy W none → W.cell? ⟨tb, o + k * 2, none⟩ = some (.int .u8 (fm k 0)) ∧ W.cell? ⟨tb, o + k * 2 + 1, none⟩ = some (.int .u8 (fm k 1))) := Lib.hid (fun k hk W hW => ⟨by simpa using hW.cell (hcl k 0 hk (by decide)) (by simp), by simpa [Nat.add_assoc] using hW.cell (hcl k 1 hk (by decide)) (by simp)⟩)
    have HG := Lib.hid hg
    have HOK := Lib.hid hok
    have HLT := Lib.hid hlt
    clear hcl htb hg hok hi hlt
    go_upto_region 4 with fail
    refine wp_region_held (S := fun W => wr.grownBy W none) (by kernel_rfl) ?_
    change wpAnyH _ _ _ _ _ 43 #[false, false, false, false, false, false, false, false, false, false, false, false, false, false, false, false, false, false, false, false, false, false, false, false, false, false, false, false, false, false, false, false, false, false, false, false, false, false, false, false, false, false, false] _ (World.drew _)
    have gq := grown_drew (grown_refl wr none)
    generalize wr.drew = w6 at *
    refine wpAnyH_takeD (some 10) (i := 0) (v := (.slice (some ⟨tb, o, none⟩) n c)) rfl rfl (by kernel_rfl) (by kernel_rfl) (by kernel_rfl) (fun _ _ _ h => h) (Or.inl ⟨rfl, fun _ _ => rfl⟩) gq ?_
    simp only [Act.put, List.setIfInBounds_toArray, List.set_cons_succ, List.set_cons_zero]
    refine wpAnyH_takeD (some 11) (i := 1) (v := (.int .i64 i)) rfl rfl (by kernel_rfl) (by kernel_rfl) (by kernel_rfl) (fun _ _ _ h => h) (Or.inl ⟨rfl, fun _ _ => rfl⟩) gq ?_
    simp only [Act.put, List.setIfInBounds_toArray, List.set_cons_succ, List.set_cons_zero]
    refine wpAnyH_takeD (some 12) (i := 2) (v := (.pointer (some ⟨tb, o + i * 2, none⟩))) rfl rfl (by kernel_rfl) (by kernel_rfl) (by kernel_rfl) (fun _ _ _ h => h) (Or.inl ⟨rfl, fun _ _ => by have := j1; unfold execOp; go_simp⟩) gq ?_
    simp only [Act.put, List.setIfInBounds_toArray, List.set_cons_succ, List.set_cons_zero]
    refine wpAnyH_takeD (some 13) (i := 3) (v := (devR (fm i))) rfl rfl (by kernel_rfl) (by kernel_rfl) (by kernel_rfl) (fun _ _ _ h => h) (Or.inl ⟨rfl, fun W hW => exec_loadQ (.tmp 12) _ _ rfl rfl (load_devQ (HCL.out i HLT.out W hW).1 (HCL.out i HLT.out W hW).2)⟩) gq ?_
    simp only [Act.put, List.setIfInBounds_toArray, List.set_cons_succ, List.set_cons_zero]
    refine wpAnyH_callD (some 14) (i := 4) 63 #[devR (fm i)] (R := fun v W => v = .bool (devMay (fm i)) ∧ w6.grownBy W none) (by kernel_rfl) rfl rfl rfl (exec_fn1 _ _ _ rfl rfl) mayQ_enters ((refDev_any (fm i) w6).mono fun e W h => ⟨_, h.1, rfl, h.2⟩) ?_
    rintro v w7 ⟨rfl, g7⟩
    have gq7 := grown_trans gq g7
    refine ⟨gq7, ?_⟩
    simp only [Act.put, List.setIfInBounds_toArray, List.set_cons_succ, List.set_cons_zero]
    obtain ⟨m, hm⟩ : ∃ m, m = !(devMay (fm i)) := ⟨_, rfl⟩
    have HM := Lib.hid (show devMay (fm i) = !m by rw [hm, Bool.not_not])
    have HMM := Lib.hid hm
    clear hm gq g7
    refine wpAnyH_takeD (some 15) (i := 5) (v := (.bool m)) rfl rfl (by kernel_rfl) (by kernel_rfl) (by kernel_rfl) (fun _ _ _ h => h) (Or.inl ⟨rfl, fun _ _ => by have := HMM.out; unfold execOp; go_simp⟩) gq7 ?_
    simp only [Act.put, List.setIfInBounds_toArray, List.set_cons_succ, List.set_cons_zero]
    refine wpAnyH_takeD (some 16) (i := 6) (v := (.bool m)) rfl rfl (by kernel_rfl) (by kernel_rfl) (by kernel_rfl) (fun _ _ _ h => h) (Or.inl ⟨rfl, fun _ _ => rfl⟩) gq7 ?_
    simp only [Act.put, List.setIfInBounds_toArray, List.set_cons_succ, List.set_cons_zero]
    cases m with
    | true =>
      refine wpAnyH_takeD (some 17) (i := 7) (v := undef) rfl rfl (by kernel_rfl) (by kernel_rfl) (by kernel_rfl) (fun _ _ _ h => h) (Or.inr ⟨by kernel_rfl, rfl⟩) gq7 ?_
      simp only [Act.put, List.setIfInBounds_toArray, List.set_cons_succ, List.set_cons_zero]
      refine wpAnyH_takeD (some 18) (i := 8) (v := undef) rfl rfl (by kernel_rfl) (by kernel_rfl) (by kernel_rfl) (fun _ _ _ h => h) (Or.inr ⟨by kernel_rfl, rfl⟩) gq7 ?_
      simp only [Act.put, List.setIfInBounds_toArray, List.set_cons_succ, List.set_cons_zero]
      refine wpAnyH_takeD (some 19) (i := 9) (v := undef) rfl rfl (by kernel_rfl) (by kernel_rfl) (by kernel_rfl) (fun _ _ _ h => h) (Or.inr ⟨by kernel_rfl, rfl⟩) gq7 ?_
      simp only [Act.put, List.setIfInBounds_toArray, List.set_cons_succ, List.set_cons_zero]
      refine wpAnyH_takeD (some 20) (i := 10) (v := undef) rfl rfl (by kernel_rfl) (by kernel_rfl) (by kernel_rfl) (fun _ _ _ h => h) (Or.inr ⟨by kernel_rfl, rfl⟩) gq7 ?_
      simp only [Act.put, List.setIfInBounds_toArray, List.set_cons_succ, List.set_cons_zero]
      refine wpAnyH_takeD (some 21) (i := 11) (v := undef) rfl rfl (by kernel_rfl) (by kernel_rfl) (by kernel_rfl) (fun _ _ _ h => h) (Or.inr ⟨by kernel_rfl, rfl⟩) gq7 ?_
      simp only [Act.put, List.setIfInBounds_toArray, List.set_cons_succ, List.set_cons_zero]
      refine wpAnyH_takeD (some 22) (i := 12) (v := undef) rfl rfl (by kernel_rfl) (by kernel_rfl) (by kernel_rfl) (fun _ _ _ h => h) (Or.inr ⟨by kernel_rfl, rfl⟩) gq7 ?_
      simp only [Act.put, List.setIfInBounds_toArray, List.set_cons_succ, List.set_cons_zero]
      refine wpAnyH_takeD (some 23) (i := 13) (v := undef) rfl rfl (by kernel_rfl) (by kernel_rfl) (by kernel_rfl) (fun _ _ _ h => h) (Or.inr ⟨by kernel_rfl, rfl⟩) gq7 ?_
      simp only [Act.put, List.setIfInBounds_toArray, List.set_cons_succ, List.set_cons_zero]
      refine wpAnyH_takeD (some 24) (i := 14) (v := undef) rfl rfl (by kernel_rfl) (by kernel_rfl) (by kernel_rfl) (fun _ _ _ h => h) (Or.inr ⟨by kernel_rfl, rfl⟩) gq7 ?_
      simp only [Act.put, List.setIfInBounds_toArray, List.set_cons_succ, List.set_cons_zero]
      refine wpAnyH_takeD (some 25) (i := 15) (v := undef) rfl rfl (by kernel_rfl) (by kernel_rfl) (by kernel_rfl) (fun _ _ _ h => h) (Or.inr ⟨by kernel_rfl, rfl⟩) gq7 ?_
      simp only [Act.put, List.setIfInBounds_toArray, List.set_cons_succ, List.set_cons_zero]
      refine wpAnyH_takeD (some 26) (i := 16) (v := undef) rfl rfl (by kernel_rfl) (by kernel_rfl) (by kernel_rfl) (fun _ _ _ h => h) (Or.inr ⟨by kernel_rfl, rfl⟩) gq7 ?_
      simp only [Act.put, List.setIfInBounds_toArray, List.set_cons_succ, List.set_cons_zero]
      refine wpAnyH_takeD (some 27) (i := 17) (v := undef) rfl rfl (by kernel_rfl) (by kernel_rfl) (by kernel_rfl) (fun _ _ _ h => h) (Or.inr ⟨by kernel_rfl, rfl⟩) gq7 ?_
      simp only [Act.put, List.setIfInBounds_toArray, List.set_cons_succ, List.set_cons_zero]
      refine wpAnyH_takeD (some 28) (i := 18) (v := undef) rfl rfl (by kernel_rfl) (by kernel_rfl) (by kernel_rfl) (fun _ _ _ h => h) (Or.inr ⟨by kernel_rfl, rfl⟩) gq7 ?_
      simp only [Act.put, List.setIfInBounds_toArray, List.set_cons_succ, List.set_cons_zero]
      refine wpAnyH_takeD (some 29) (i := 19) (v := undef) rfl rfl (by kernel_rfl) (by kernel_rfl) (by kernel_rfl) (fun _ _ _ h => h) (Or.inr ⟨by kernel_rfl, rfl⟩) gq7 ?_
      simp only [Act.put, List.setIfInBounds_toArray, List.set_cons_succ, List.set_cons_zero]
      refine wpAnyH_takeD (some 30) (i := 20) (v := undef) rfl rfl (by kernel_rfl) (by kernel_rfl) (by kernel_rfl) (fun _ _ _ h => h) (Or.inr ⟨by kernel_rfl, rfl⟩) gq7 ?_
      simp only [Act.put, List.setIfInBounds_toArray, List.set_cons_succ, List.set_cons_zero]
      refine wpAnyH_takeD (some 31) (i := 21) (v := undef) rfl rfl (by kernel_rfl) (by kernel_rfl) (by kernel_rfl) (fun _ _ _ h => h) (Or.inr ⟨by kernel_rfl, rfl⟩) gq7 ?_
      simp only [Act.put, List.setIfInBounds_toArray, List.set_cons_succ, List.set_cons_zero]
      refine wpAnyH_takeD (some 32) (i := 22) (v := undef) rfl rfl (by kernel_rfl) (by kernel_rfl) (by kernel_rfl) (fun _ _ _ h => h) (Or.inr ⟨by kernel_rfl, rfl⟩) gq7 ?_
      simp only [Act.put, List.setIfInBounds_toArray, List.set_cons_succ, List.set_cons_zero]
      refine wpAnyH_takeD (some 33) (i := 23) (v := undef) rfl rfl (by kernel_rfl) (by kernel_rfl) (by kernel_rfl) (fun _ _ _ h => h) (Or.inr ⟨by kernel_rfl, rfl⟩) gq7 ?_
      simp only [Act.put, List.setIfInBounds_toArray, List.set_cons_succ, List.set_cons_zero]
      refine wpAnyH_takeD (some 34) (i := 24) (v := undef) rfl rfl (by kernel_rfl) (by kernel_rfl) (by kernel_rfl) (fun _ _ _ h => h) (Or.inr ⟨by kernel_rfl, rfl⟩) gq7 ?_
      simp only [Act.put, List.setIfInBounds_toArray, List.set_cons_succ, List.set_cons_zero]
      refine wpAnyH_takeD (some 35) (i := 25) (v := undef) rfl rfl (by kernel_rfl) (by kernel_rfl) (by kernel_rfl) (fun _ _ _ h => h) (Or.inr ⟨by kernel_rfl, rfl⟩) gq7 ?_
      simp only [Act.put, List.setIfInBounds_toArray, List.set_cons_succ, List.set_cons_zero]
      refine wpAnyH_takeD (some 36) (i := 26) (v := undef) rfl rfl (by kernel_rfl) (by kernel_rfl) (by kernel_rfl) (fun _ _ _ h => h) (Or.inr ⟨by kernel_rfl, rfl⟩) gq7 ?_
      simp only [Act.put, List.setIfInBounds_toArray, List.set_cons_succ, List.set_cons_zero]
      refine wpAnyH_takeD (some 37) (i := 27) (v := undef) rfl rfl (by kernel_rfl) (by kernel_rfl) (by kernel_rfl) (fun _ _ _ h => h) (Or.inr ⟨by kernel_rfl, rfl⟩) gq7 ?_
      simp only [Act.put, List.setIfInBounds_toArray, List.set_cons_succ, List.set_cons_zero]
      refine wpAnyH_takeD (some 38) (i := 28) (v := undef) rfl rfl (by kernel_rfl) (by kernel_rfl) (by kernel_rfl) (fun _ _ _ h => h) (Or.inr ⟨by kernel_rfl, rfl⟩) gq7 ?_
      simp only [Act.put, List.setIfInBounds_toArray, List.set_cons_succ, List.set_cons_zero]
      refine wpAnyH_takeD (some 39) (i := 29) (v := undef) rfl rfl (by kernel_rfl) (by kernel_rfl) (by kernel_rfl) (fun _ _ _ h => h) (Or.inr ⟨by kernel_rfl, rfl⟩) gq7 ?_
      simp only [Act.put, List.setIfInBounds_toArray, List.set_cons_succ, List.set_cons_zero]
      refine wpAnyH_takeD (some 40) (i := 30) (v := undef) rfl rfl (by kernel_rfl) (by kernel_rfl) (by kernel_rfl) (fun _ _ _ h => h) (Or.inr ⟨by kernel_rfl, rfl⟩) gq7 ?_
      simp only [Act.put, List.setIfInBounds_toArray, List.set_cons_succ, List.set_cons_zero]
      refine wpAnyH_takeD (some 41) (i := 31) (v := undef) rfl rfl (by kernel_rfl) (by kernel_rfl) (by kernel_rfl) (fun _ _ _ h => h) (Or.inr ⟨by kernel_rfl, rfl⟩) gq7 ?_
      simp only [Act.put, List.setIfInBounds_toArray, List.set_cons_succ, List.set_cons_zero]
      refine wpAnyH_takeD (some 42) (i := 32) (v := undef) rfl rfl (by kernel_rfl) (by kernel_rfl) (by kernel_rfl) (fun _ _ _ h => h) (Or.inr ⟨by kernel_rfl, rfl⟩) gq7 ?_
      simp only [Act.put, List.setIfInBounds_toArray, List.set_cons_succ, List.set_cons_zero]
      refine wpAnyH_takeD (some 43) (i := 33) (v := undef) rfl rfl (by kernel_rfl) (by kernel_rfl) (by kernel_rfl) (fun _ _ _ h => h) (Or.inr ⟨by kernel_rfl, rfl⟩) gq7 ?_
      simp only [Act.put, List.setIfInBounds_toArray, List.set_cons_succ, List.set_cons_zero]
      refine wpAnyH_takeD (some 44) (i := 34) (v := undef) rfl rfl (by kernel_rfl) (by kernel_rfl) (by kernel_rfl) (fun _ _ _ h => h) (Or.inr ⟨by kernel_rfl, rfl⟩) gq7 ?_
      simp only [Act.put, List.setIfInBounds_toArray, List.set_cons_succ, List.set_cons_zero]
      refine wpAnyH_takeD (some 45) (i := 35) (v := undef) rfl rfl (by kernel_rfl) (by kernel_rfl) (by kernel_rfl) (fun _ _ _ h => h) (Or.inr ⟨by kernel_rfl, rfl⟩) gq7 ?_
      simp only [Act.put, List.setIfInBounds_toArray, List.set_cons_succ, List.set_cons_zero]
      refine wpAnyH_takeD (some 46) (i := 36) (v := undef) rfl rfl (by kernel_rfl) (by kernel_rfl) (by kernel_rfl) (fun _ _ _ h => h) (Or.inr ⟨by kernel_rfl, rfl⟩) gq7 ?_
      simp only [Act.put, List.setIfInBounds_toArray, List.set_cons_succ, List.set_cons_zero]
      refine wpAnyH_takeD (some 47) (i := 37) (v := undef) rfl rfl (by kernel_rfl) (by kernel_rfl) (by kernel_rfl) (fun _ _ _ h => h) (Or.inr ⟨by kernel_rfl, rfl⟩) gq7 ?_
      simp only [Act.put, List.setIfInBounds_toArray, List.set_cons_succ, List.set_cons_zero]
      refine wpAnyH_takeD (some 48) (i := 38) (v := undef) rfl rfl (by kernel_rfl) (by kernel_rfl) (by kernel_rfl) (fun _ _ _ h => h) (Or.inr ⟨by kernel_rfl, rfl⟩) gq7 ?_
      simp only [Act.put, List.setIfInBounds_toArray, List.set_cons_succ, List.set_cons_zero]
      refine wpAnyH_takeD (some 49) (i := 39) (v := undef) rfl rfl (by kernel_rfl) (by kernel_rfl) (by kernel_rfl) (fun _ _ _ h => h) (Or.inr ⟨by kernel_rfl, rfl⟩) gq7 ?_
      simp only [Act.put, List.setIfInBounds_toArray, List.set_cons_succ, List.set_cons_zero]
      refine wpAnyH_takeD (some 50) (i := 40) (v := undef) rfl rfl (by kernel_rfl) (by kernel_rfl) (by kernel_rfl) (fun _ _ _ h => h) (Or.inr ⟨by kernel_rfl, rfl⟩) gq7 ?_
      simp only [Act.put, List.setIfInBounds_toArray, List.set_cons_succ, List.set_cons_zero]
      refine wpAnyH_takeD (some 51) (i := 41) (v := undef) rfl rfl (by kernel_rfl) (by kernel_rfl) (by kernel_rfl) (fun _ _ _ h => h) (Or.inr ⟨by kernel_rfl, rfl⟩) gq7 ?_
      simp only [Act.put, List.setIfInBounds_toArray, List.set_cons_succ, List.set_cons_zero]
      refine wpAnyH_takeD (some 52) (i := 42) (v := (.bool true)) rfl rfl (by kernel_rfl) (by kernel_rfl) (by kernel_rfl) (fun _ _ _ h => h) (Or.inl ⟨rfl, fun _ _ => by go_simp⟩) gq7 ?_
      simp only [Act.put, List.setIfInBounds_toArray, List.set_cons_succ, List.set_cons_zero]
      refine wpAnyH_done (by kernel_rfl) ?_ _
      have HE := Lib.hid (grown_trans HG.out gq7)
      have HMY : Hid (memMay n fm = false) := Lib.hid (memMay_no HLT.out (by unfold memOk; rw [HM.out]; rfl))
      clear gq7
      go_wp2_with fail
      go_ret
      exact ⟨by rw [HMY.out]; rfl, HE.out⟩
    | false =>
      by_cases hi0 : i = 0
      · subst hi0
        refine wpAnyH_takeD (some 17) (i := 7) (v := (.int .i64 (0 : Nat))) rfl rfl (by kernel_rfl) (by kernel_rfl) (by kernel_rfl) (fun _ _ _ h => h) (Or.inl ⟨rfl, fun _ _ => rfl⟩) gq7 ?_
        simp only [Act.put, List.setIfInBounds_toArray, List.set_cons_succ, List.set_cons_zero]
        refine wpAnyH_takeD (some 18) (i := 8) (v := (.bool false)) rfl rfl (by kernel_rfl) (by kernel_rfl) (by kernel_rfl) (fun _ _ _ h => h) (Or.inl ⟨rfl, fun _ _ => by go_simp⟩) gq7 ?_
        simp only [Act.put, List.setIfInBounds_toArray, List.set_cons_succ, List.set_cons_zero]
        refine wpAnyH_takeD (some 19) (i := 9) (v := (.bool false)) rfl rfl (by kernel_rfl) (by kernel_rfl) (by kernel_rfl) (fun _ _ _ h => h) (Or.inl ⟨rfl, fun _ _ => rfl⟩) gq7 ?_
        simp only [Act.put, List.setIfInBounds_toArray, List.set_cons_succ, List.set_cons_zero]
        refine wpAnyH_takeD (some 20) (i := 10) (v := undef) rfl rfl (by kernel_rfl) (by kernel_rfl) (by kernel_rfl) (fun _ _ _ h => h) (Or.inr ⟨by kernel_rfl, rfl⟩) gq7 ?_
        simp only [Act.put, List.setIfInBounds_toArray, List.set_cons_succ, List.set_cons_zero]
        refine wpAnyH_takeD (some 21) (i := 11) (v := undef) rfl rfl (by kernel_rfl) (by kernel_rfl) (by kernel_rfl) (fun _ _ _ h => h) (Or.inr ⟨by kernel_rfl, rfl⟩) gq7 ?_
        simp only [Act.put, List.setIfInBounds_toArray, List.set_cons_succ, List.set_cons_zero]
        refine wpAnyH_takeD (some 22) (i := 12) (v := undef) rfl rfl (by kernel_rfl) (by kernel_rfl) (by kernel_rfl) (fun _ _ _ h => h) (Or.inr ⟨by kernel_rfl, rfl⟩) gq7 ?_
        simp only [Act.put, List.setIfInBounds_toArray, List.set_cons_succ, List.set_cons_zero]
        refine wpAnyH_takeD (some 23) (i := 13) (v := undef) rfl rfl (by kernel_rfl) (by kernel_rfl) (by kernel_rfl) (fun _ _ _ h => h) (Or.inr ⟨by kernel_rfl, rfl⟩) gq7 ?_
        simp only [Act.put, List.setIfInBounds_toArray, List.set_cons_succ, List.set_cons_zero]
        refine wpAnyH_takeD (some 24) (i := 14) (v := undef) rfl rfl (by kernel_rfl) (by kernel_rfl) (by kernel_rfl) (fun _ _ _ h => h) (Or.inr ⟨by kernel_rfl, rfl⟩) gq7 ?_
        simp only [Act.put, List.setIfInBounds_toArray, List.set_cons_succ, List.set_cons_zero]
        refine wpAnyH_takeD (some 25) (i := 15) (v := undef) rfl rfl (by kernel_rfl) (by kernel_rfl) (by kernel_rfl) (fun _ _ _ h => h) (Or.inr ⟨by kernel_rfl, rfl⟩) gq7 ?_
        simp only [Act.put, List.setIfInBounds_toArray, List.set_cons_succ, List.set_cons_zero]
        refine wpAnyH_takeD (some 26) (i := 16) (v := undef) rfl rfl (by kernel_rfl) (by kernel_rfl) (by kernel_rfl) (fun _ _ _ h => h) (Or.inr ⟨by kernel_rfl, rfl⟩) gq7 ?_
        simp only [Act.put, List.setIfInBounds_toArray, List.set_cons_succ, List.set_cons_zero]
        refine wpAnyH_takeD (some 27) (i := 17) (v := undef) rfl rfl (by kernel_rfl) (by kernel_rfl) (by kernel_rfl) (fun _ _ _ h => h) (Or.inr ⟨by kernel_rfl, rfl⟩) gq7 ?_
        simp only [Act.put, List.setIfInBounds_toArray, List.set_cons_succ, List.set_cons_zero]
        refine wpAnyH_takeD (some 28) (i := 18) (v := undef) rfl rfl (by kernel_rfl) (by kernel_rfl) (by kernel_rfl) (fun _ _ _ h => h) (Or.inr ⟨by kernel_rfl, rfl⟩) gq7 ?_
        simp only [Act.put, List.setIfInBounds_toArray, List.set_cons_succ, List.set_cons_zero]
        refine wpAnyH_takeD (some 29) (i := 19) (v := undef) rfl rfl (by kernel_rfl) (by kernel_rfl) (by kernel_rfl) (fun _ _ _ h => h) (Or.inr ⟨by kernel_rfl, rfl⟩) gq7 ?_
        simp only [Act.put, List.setIfInBounds_toArray, List.set_cons_succ, List.set_cons_zero]
        refine wpAnyH_takeD (some 30) (i := 20) (v := undef) rfl rfl (by kernel_rfl) (by kernel_rfl) (by kernel_rfl) (fun _ _ _ h => h) (Or.inr ⟨by kernel_rfl, rfl⟩) gq7 ?_
        simp only [Act.put, List.setIfInBounds_toArray, List.set_cons_succ, List.set_cons_zero]
        refine wpAnyH_takeD (some 31) (i := 21) (v := undef) rfl rfl (by kernel_rfl) (by kernel_rfl) (by kernel_rfl) (fun _ _ _ h => h) (Or.inr ⟨by kernel_rfl, rfl⟩) gq7 ?_
        simp only [Act.put, List.setIfInBounds_toArray, List.set_cons_succ, List.set_cons_zero]
        refine wpAnyH_takeD (some 32) (i := 22) (v := undef) rfl rfl (by kernel_rfl) (by kernel_rfl) (by kernel_rfl) (fun _ _ _ h => h) (Or.inr ⟨by kernel_rfl, rfl⟩) gq7 ?_
        simp only [Act.put, List.setIfInBounds_toArray, List.set_cons_succ, List.set_cons_zero]
        refine wpAnyH_takeD (some 33) (i := 23) (v := undef) rfl rfl (by kernel_rfl) (by kernel_rfl) (by kernel_rfl) (fun _ _ _ h => h) (Or.inr ⟨by kernel_rfl, rfl⟩) gq7 ?_
        simp only [Act.put, List.setIfInBounds_toArray, List.set_cons_succ, List.set_cons_zero]
        refine wpAnyH_takeD (some 34) (i := 24) (v := undef) rfl rfl (by kernel_rfl) (by kernel_rfl) (by kernel_rfl) (fun _ _ _ h => h) (Or.inr ⟨by kernel_rfl, rfl⟩) gq7 ?_
        simp only [Act.put, List.setIfInBounds_toArray, List.set_cons_succ, List.set_cons_zero]
        refine wpAnyH_takeD (some 35) (i := 25) (v := undef) rfl rfl (by kernel_rfl) (by kernel_rfl) (by kernel_rfl) (fun _ _ _ h => h) (Or.inr ⟨by kernel_rfl, rfl⟩) gq7 ?_
        simp only [Act.put, List.setIfInBounds_toArray, List.set_cons_succ, List.set_cons_zero]
        refine wpAnyH_takeD (some 36) (i := 26) (v := undef) rfl rfl (by kernel_rfl) (by kernel_rfl) (by kernel_rfl) (fun _ _ _ h => h) (Or.inr ⟨by kernel_rfl, rfl⟩) gq7 ?_
        simp only [Act.put, List.setIfInBounds_toArray, List.set_cons_succ, List.set_cons_zero]
        refine wpAnyH_takeD (some 37) (i := 27) (v := undef) rfl rfl (by kernel_rfl) (by kernel_rfl) (by kernel_rfl) (fun _ _ _ h => h) (Or.inr ⟨by kernel_rfl, rfl⟩) gq7 ?_
        simp only [Act.put, List.setIfInBounds_toArray, List.set_cons_succ, List.set_cons_zero]
        refine wpAnyH_takeD (some 38) (i := 28) (v := undef) rfl rfl (by kernel_rfl) (by kernel_rfl) (by kernel_rfl) (fun _ _ _ h => h) (Or.inr ⟨by kernel_rfl, rfl⟩) gq7 ?_
        simp only [Act.put, List.setIfInBounds_toArray, List.set_cons_succ, List.set_cons_zero]
        refine wpAnyH_takeD (some 39) (i := 29) (v := undef) rfl rfl (by kernel_rfl) (by kernel_rfl) (by kernel_rfl) (fun _ _ _ h => h) (Or.inr ⟨by kernel_rfl, rfl⟩) gq7 ?_
        simp only [Act.put, List.setIfInBounds_toArray, List.set_cons_succ, List.set_cons_zero]
        refine wpAnyH_takeD (some 40) (i := 30) (v := undef) rfl rfl (by kernel_rfl) (by kernel_rfl) (by kernel_rfl) (fun _ _ _ h => h) (Or.inr ⟨by kernel_rfl, rfl⟩) gq7 ?_
        simp only [Act.put, List.setIfInBounds_toArray, List.set_cons_succ, List.set_cons_zero]
        refine wpAnyH_takeD (some 41) (i := 31) (v := undef) rfl rfl (by kernel_rfl) (by kernel_rfl) (by kernel_rfl) (fun _ _ _ h => h) (Or.inr ⟨by kernel_rfl, rfl⟩) gq7 ?_
        simp only [Act.put, List.setIfInBounds_toArray, List.set_cons_succ, List.set_cons_zero]
        refine wpAnyH_takeD (some 42) (i := 32) (v := undef) rfl rfl (by kernel_rfl) (by kernel_rfl) (by kernel_rfl) (fun _ _ _ h => h) (Or.inr ⟨by kernel_rfl, rfl⟩) gq7 ?_
        simp only [Act.put, List.setIfInBounds_toArray, List.set_cons_succ, List.set_cons_zero]
        refine wpAnyH_takeD (some 43) (i := 33) (v := undef) rfl rfl (by kernel_rfl) (by kernel_rfl) (by kernel_rfl) (fun _ _ _ h => h) (Or.inr ⟨by kernel_rfl, rfl⟩) gq7 ?_
        simp only [Act.put, List.setIfInBounds_toArray, List.set_cons_succ, List.set_cons_zero]
        refine wpAnyH_takeD (some 44) (i := 34) (v := undef) rfl rfl (by kernel_rfl) (by kernel_rfl) (by kernel_rfl) (fun _ _ _ h => h) (Or.inr ⟨by kernel_rfl, rfl⟩) gq7 ?_
        simp only [Act.put, List.setIfInBounds_toArray, List.set_cons_succ, List.set_cons_zero]
        refine wpAnyH_takeD (some 45) (i := 35) (v := undef) rfl rfl (by kernel_rfl) (by kernel_rfl) (by kernel_rfl) (fun _ _ _ h => h) (Or.inr ⟨by kernel_rfl, rfl⟩) gq7 ?_
        simp only [Act.put, List.setIfInBounds_toArray, List.set_cons_succ, List.set_cons_zero]
        refine wpAnyH_takeD (some 46) (i := 36) (v := undef) rfl rfl (by kernel_rfl) (by kernel_rfl) (by kernel_rfl) (fun _ _ _ h => h) (Or.inr ⟨by kernel_rfl, rfl⟩) gq7 ?_
        simp only [Act.put, List.setIfInBounds_toArray, List.set_cons_succ, List.set_cons_zero]
        refine wpAnyH_takeD (some 47) (i := 37) (v := undef) rfl rfl (by kernel_rfl) (by kernel_rfl) (by kernel_rfl) (fun _ _ _ h => h) (Or.inr ⟨by kernel_rfl, rfl⟩) gq7 ?_
        simp only [Act.put, List.setIfInBounds_toArray, List.set_cons_succ, List.set_cons_zero]
        refine wpAnyH_takeD (some 48) (i := 38) (v := undef) rfl rfl (by kernel_rfl) (by kernel_rfl) (by kernel_rfl) (fun _ _ _ h => h) (Or.inr ⟨by kernel_rfl, rfl⟩) gq7 ?_
        simp only [Act.put, List.setIfInBounds_toArray, List.set_cons_succ, List.set_cons_zero]
        refine wpAnyH_takeD (some 49) (i := 39) (v := undef) rfl rfl (by kernel_rfl) (by kernel_rfl) (by kernel_rfl) (fun _ _ _ h => h) (Or.inr ⟨by kernel_rfl, rfl⟩) gq7 ?_
        simp only [Act.put, List.setIfInBounds_toArray, List.set_cons_succ, List.set_cons_zero]
        refine wpAnyH_takeD (some 50) (i := 40) (v := undef) rfl rfl (by kernel_rfl) (by kernel_rfl) (by kernel_rfl) (fun _ _ _ h => h) (Or.inr ⟨by kernel_rfl, rfl⟩) gq7 ?_
        simp only [Act.put, List.setIfInBounds_toArray, List.set_cons_succ, List.set_cons_zero]
        refine wpAnyH_takeD (some 51) (i := 41) (v := (.bool false)) rfl rfl (by kernel_rfl) (by kernel_rfl) (by kernel_rfl) (fun _ _ _ h => h) (Or.inl ⟨rfl, fun _ _ => by go_simp⟩) gq7 ?_
        simp only [Act.put, List.setIfInBounds_toArray, List.set_cons_succ, List.set_cons_zero]
        refine wpAnyH_takeD (some 52) (i := 42) (v := (.bool false)) rfl rfl (by kernel_rfl) (by kernel_rfl) (by kernel_rfl) (fun _ _ _ h => h) (Or.inl ⟨rfl, fun _ _ => by go_simp⟩) gq7 ?_
        simp only [Act.put, List.setIfInBounds_toArray, List.set_cons_succ, List.set_cons_zero]
        refine wpAnyH_done (by kernel_rfl) ?_ _
        have HE := Lib.hid (grown_trans HG.out gq7)
        have HOK2 : Hid (∀ k, k < 0 + 1 → memOk fm k = true) := Lib.hid (fun k hk => by
          by_cases e : k = 0
          · subst e; exact by unfold memOk; rw [HM.out]; rfl
          · exact HOK.out k (by omega))
        have HW := Lib.hid (show wrap64 (((0 : Nat) : Int) + 1) = ((0 + 1 : Nat) : Int) by have := HLT.out; have := HN.out; unfold wrap64; omega)
        have HW2 := HW
        clear gq7
        go_wp2_with fail
        go_roundw
        case rel => exact ⟨0 + 1, HLT.out, by first | rfl | rw [HW.out] | rw [HW2.out], HOK2.out, HE.out⟩
        case measure => exact meas_lt n (0) _ (by first | rfl | rw [HW.out] | rw [HW2.out]) HLT.out
      · obtain ⟨i', rfl⟩ : ∃ k, i = k + 1 := ⟨i - 1, by omega⟩
        have HIB := Lib.hid (show (i' : Int) < (n : Int) by have := HLT.out; omega)
        have hF0 := HF.out (i' + 1) 0
        have hF1 := HF.out (i' + 1) 1
        have hP0 := HF.out i' 0
        have hP1 := HF.out i' 1
        obtain ⟨x0, hx0⟩ : ∃ x, x = fm (i' + 1) 0 := ⟨_, rfl⟩
        obtain ⟨x1, hx1⟩ : ∃ x, x = fm (i' + 1) 1 := ⟨_, rfl⟩
        obtain ⟨y0, hy0⟩ : ∃ x, x = fm i' 0 := ⟨_, rfl⟩
        obtain ⟨y1, hy1⟩ : ∃ x, x = fm i' 1 := ⟨_, rfl⟩
        have HX := Lib.hid (show (x0 < 256 ∧ x1 < 256) ∧ (y0 < 256 ∧ y1 < 256) by omega)
        have HLA : Hid (∀ W, wr.grownBy W none → (W.cell? ⟨tb, o + (i' + 1) * 2, none⟩ = some (.int .u8 x0) ∧ W.cell? ⟨tb, o + (i' + 1) * 2 + 1, none⟩ = some (.int .u8 x1)) ∧ W.cell? ⟨tb, o + i' * 2, none⟩ = some (.int .u8 y0) ∧ W.cell? ⟨tb, o + i' * 2 + 1, none⟩ = some (.int .u8 y1)) := Lib.hid (fun W hW => by
          rw [hx0, hx1, hy0, hy1]
          exact ⟨HCL.out (i' + 1) HLT.out W hW, HCL.out i' (by have := HLT.out; omega) W hW⟩)
        have HMO : Hid (memOk fm (i' + 1) = !decide (256 * x0 + x1 ≤ 256 * y0 + y1)) := Lib.hid (by
          unfold memOk
          rw [HM.out, decide_eq_false (show ¬ i' + 1 = 0 by omega), Bool.false_or, Nat.add_sub_cancel, cmpD_lt _ _ (HF.out i') (HF.out (i' + 1))]
          unfold devQ
          rw [← hx0, ← hx1, ← hy0, ← hy1]
          rfl)
        clear hF0 hF1 hP0 hP1 hx0 hx1 hy0 hy1
        refine wpAnyH_takeD (some 17) (i := 7) (v := (.int .i64 (i' + 1 : Nat))) rfl rfl (by kernel_rfl) (by kernel_rfl) (by kernel_rfl) (fun _ _ _ h => h) (Or.inl ⟨rfl, fun _ _ => rfl⟩) gq7 ?_
        simp only [Act.put, List.setIfInBounds_toArray, List.set_cons_succ, List.set_cons_zero]
        refine wpAnyH_takeD (some 18) (i := 8) (v := (.bool true)) rfl rfl (by kernel_rfl) (by kernel_rfl) (by kernel_rfl) (fun _ _ _ h => h) (Or.inl ⟨rfl, fun _ _ => by unfold execOp; go_simp⟩) gq7 ?_
        simp only [Act.put, List.setIfInBounds_toArray, List.set_cons_succ, List.set_cons_zero]
        refine wpAnyH_takeD (some 19) (i := 9) (v := (.bool true)) rfl rfl (by kernel_rfl) (by kernel_rfl) (by kernel_rfl) (fun _ _ _ h => h) (Or.inl ⟨rfl, fun _ _ => rfl⟩) gq7 ?_
        simp only [Act.put, List.setIfInBounds_toArray, List.set_cons_succ, List.set_cons_zero]
        refine wpAnyH_takeD (some 20) (i := 10) (v := (.slice (some ⟨tb, o, none⟩) n c)) rfl rfl (by kernel_rfl) (by kernel_rfl) (by kernel_rfl) (fun _ _ _ h => h) (Or.inl ⟨rfl, fun _ _ => rfl⟩) gq7 ?_
        simp only [Act.put, List.setIfInBounds_toArray, List.set_cons_succ, List.set_cons_zero]
        refine wpAnyH_takeD (some 21) (i := 11) (v := (.int .i64 (i' + 1 : Nat))) rfl rfl (by kernel_rfl) (by kernel_rfl) (by kernel_rfl) (fun _ _ _ h => h) (Or.inl ⟨rfl, fun _ _ => rfl⟩) gq7 ?_
        simp only [Act.put, List.setIfInBounds_toArray, List.set_cons_succ, List.set_cons_zero]
        refine wpAnyH_takeD (some 22) (i := 12) (v := (.pointer (some ⟨tb, o + (i' + 1) * 2, none⟩))) rfl rfl (by kernel_rfl) (by kernel_rfl) (by kernel_rfl) (fun _ _ _ h => h) (Or.inl ⟨rfl, fun _ _ => by have h1 := HIB.out; have h2 : (i' : Int) + 1 < (n : Int) := (by have := HLT.out; omega); have h3 : ¬ (i' : Int) + 1 < 0 := (by omega); unfold execOp; go_simp⟩) gq7 ?_
        simp only [Act.put, List.setIfInBounds_toArray, List.set_cons_succ, List.set_cons_zero]
        refine wpAnyH_takeD (some 23) (i := 13) (v := (.pointer (some ⟨tb, o + (i' + 1) * 2, none⟩))) rfl rfl (by kernel_rfl) (by kernel_rfl) (by kernel_rfl) (fun _ _ _ h => h) (Or.inl ⟨rfl, fun _ _ => by unfold execOp; go_simp⟩) gq7 ?_
        simp only [Act.put, List.setIfInBounds_toArray, List.set_cons_succ, List.set_cons_zero]
        refine wpAnyH_takeD (some 24) (i := 14) (v := (.int .u8 x0)) rfl rfl (by kernel_rfl) (by kernel_rfl) (by kernel_rfl) (fun _ _ _ h => h) (Or.inl ⟨rfl, fun W hW => exec_loadQ (.tmp 23) _ _ rfl rfl (load_u8M (HLA.out W hW).1.1)⟩) gq7 ?_
        simp only [Act.put, List.setIfInBounds_toArray, List.set_cons_succ, List.set_cons_zero]
        refine wpAnyH_takeD (some 25) (i := 15) (v := (.int .i64 x0)) rfl rfl (by kernel_rfl) (by kernel_rfl) (by kernel_rfl) (fun _ _ _ h => h) (Or.inl ⟨rfl, fun _ _ => by have := HX.out; unfold execOp; go_simp; first | done | (rw [IntKind.wrap_i64]; omega)⟩) gq7 ?_
        simp only [Act.put, List.setIfInBounds_toArray, List.set_cons_succ, List.set_cons_zero]
        refine wpAnyH_takeD (some 26) (i := 16) (v := (.int .i64 (256 * x0 : Nat))) rfl rfl (by kernel_rfl) (by kernel_rfl) (by kernel_rfl) (fun _ _ _ h => h) (Or.inl ⟨rfl, fun _ _ => by have := HX.out; unfold execOp; go_simp; first | done | (rw [IntKind.wrap_i64]; omega)⟩) gq7 ?_
        simp only [Act.put, List.setIfInBounds_toArray, List.set_cons_succ, List.set_cons_zero]
        refine wpAnyH_takeD (some 27) (i := 17) (v := (.slice (some ⟨tb, o, none⟩) n c)) rfl rfl (by kernel_rfl) (by kernel_rfl) (by kernel_rfl) (fun _ _ _ h => h) (Or.inl ⟨rfl, fun _ _ => rfl⟩) gq7 ?_
        simp only [Act.put, List.setIfInBounds_toArray, List.set_cons_succ, List.set_cons_zero]
        refine wpAnyH_takeD (some 28) (i := 18) (v := (.int .i64 (i' + 1 : Nat))) rfl rfl (by kernel_rfl) (by kernel_rfl) (by kernel_rfl) (fun _ _ _ h => h) (Or.inl ⟨rfl, fun _ _ => rfl⟩) gq7 ?_
        simp only [Act.put, List.setIfInBounds_toArray, List.set_cons_succ, List.set_cons_zero]
        refine wpAnyH_takeD (some 29) (i := 19) (v := (.pointer (some ⟨tb, o + (i' + 1) * 2, none⟩))) rfl rfl (by kernel_rfl) (by kernel_rfl) (by kernel_rfl) (fun _ _ _ h => h) (Or.inl ⟨rfl, fun _ _ => by have h1 := HIB.out; have h2 : (i' : Int) + 1 < (n : Int) := (by have := HLT.out; omega); have h3 : ¬ (i' : Int) + 1 < 0 := (by omega); unfold execOp; go_simp⟩) gq7 ?_
        simp only [Act.put, List.setIfInBounds_toArray, List.set_cons_succ, List.set_cons_zero]
        refine wpAnyH_takeD (some 30) (i := 20) (v := (.pointer (some ⟨tb, o + (i' + 1) * 2 + 1, none⟩))) rfl rfl (by kernel_rfl) (by kernel_rfl) (by kernel_rfl) (fun _ _ _ h => h) (Or.inl ⟨rfl, fun _ _ => by unfold execOp; go_simp⟩) gq7 ?_
        simp only [Act.put, List.setIfInBounds_toArray, List.set_cons_succ, List.set_cons_zero]
        refine wpAnyH_takeD (some 31) (i := 21) (v := (.int .u8 x1)) rfl rfl (by kernel_rfl) (by kernel_rfl) (by kernel_rfl) (fun _ _ _ h => h) (Or.inl ⟨rfl, fun W hW => exec_loadQ (.tmp 30) _ _ rfl rfl (load_u8M (HLA.out W hW).1.2)⟩) gq7 ?_
        simp only [Act.put, List.setIfInBounds_toArray, List.set_cons_succ, List.set_cons_zero]
        refine wpAnyH_takeD (some 32) (i := 22) (v := (.int .i64 x1)) rfl rfl (by kernel_rfl) (by kernel_rfl) (by kernel_rfl) (fun _ _ _ h => h) (Or.inl ⟨rfl, fun _ _ => by have := HX.out; unfold execOp; go_simp; first | done | (rw [IntKind.wrap_i64]; omega)⟩) gq7 ?_
        simp only [Act.put, List.setIfInBounds_toArray, List.set_cons_succ, List.set_cons_zero]
        refine wpAnyH_takeD (some 33) (i := 23) (v := (.int .i64 (256 * x0 + x1 : Nat))) rfl rfl (by kernel_rfl) (by kernel_rfl) (by kernel_rfl) (fun _ _ _ h => h) (Or.inl ⟨rfl, fun _ _ => by have := HX.out; unfold execOp; go_simp; first | done | (rw [IntKind.wrap_i64]; omega)⟩) gq7 ?_
        simp only [Act.put, List.setIfInBounds_toArray, List.set_cons_succ, List.set_cons_zero]
        refine wpAnyH_takeD (some 34) (i := 24) (v := (.slice (some ⟨tb, o, none⟩) n c)) rfl rfl (by kernel_rfl) (by kernel_rfl) (by kernel_rfl) (fun _ _ _ h => h) (Or.inl ⟨rfl, fun _ _ => rfl⟩) gq7 ?_
        simp only [Act.put, List.setIfInBounds_toArray, List.set_cons_succ, List.set_cons_zero]
        refine wpAnyH_takeD (some 35) (i := 25) (v := (.int .i64 (i' + 1 : Nat))) rfl rfl (by kernel_rfl) (by kernel_rfl) (by kernel_rfl) (fun _ _ _ h => h) (Or.inl ⟨rfl, fun _ _ => rfl⟩) gq7 ?_
        simp only [Act.put, List.setIfInBounds_toArray, List.set_cons_succ, List.set_cons_zero]
        refine wpAnyH_takeD (some 36) (i := 26) (v := (.int .i64 i')) rfl rfl (by kernel_rfl) (by kernel_rfl) (by kernel_rfl) (fun _ _ _ h => h) (Or.inl ⟨rfl, fun _ _ => by have := HIB.out; have := HN.out; unfold execOp; go_simp; first | done | (rw [IntKind.wrap_i64]; omega)⟩) gq7 ?_
        simp only [Act.put, List.setIfInBounds_toArray, List.set_cons_succ, List.set_cons_zero]
        refine wpAnyH_takeD (some 37) (i := 27) (v := (.pointer (some ⟨tb, o + i' * 2, none⟩))) rfl rfl (by kernel_rfl) (by kernel_rfl) (by kernel_rfl) (fun _ _ _ h => h) (Or.inl ⟨rfl, fun _ _ => by have h1 := HIB.out; have h2 : (i' : Int) + 1 < (n : Int) := (by have := HLT.out; omega); have h3 : ¬ (i' : Int) + 1 < 0 := (by omega); unfold execOp; go_simp⟩) gq7 ?_
        simp only [Act.put, List.setIfInBounds_toArray, List.set_cons_succ, List.set_cons_zero]
        refine wpAnyH_takeD (some 38) (i := 28) (v := (.pointer (some ⟨tb, o + i' * 2, none⟩))) rfl rfl (by kernel_rfl) (by kernel_rfl) (by kernel_rfl) (fun _ _ _ h => h) (Or.inl ⟨rfl, fun _ _ => by unfold execOp; go_simp⟩) gq7 ?_
        simp only [Act.put, List.setIfInBounds_toArray, List.set_cons_succ, List.set_cons_zero]
        refine wpAnyH_takeD (some 39) (i := 29) (v := (.int .u8 y0)) rfl rfl (by kernel_rfl) (by kernel_rfl) (by kernel_rfl) (fun _ _ _ h => h) (Or.inl ⟨rfl, fun W hW => exec_loadQ (.tmp 38) _ _ rfl rfl (load_u8M (HLA.out W hW).2.1)⟩) gq7 ?_
        simp only [Act.put, List.setIfInBounds_toArray, List.set_cons_succ, List.set_cons_zero]
        refine wpAnyH_takeD (some 40) (i := 30) (v := (.int .i64 y0)) rfl rfl (by kernel_rfl) (by kernel_rfl) (by kernel_rfl) (fun _ _ _ h => h) (Or.inl ⟨rfl, fun _ _ => by have := HX.out; unfold execOp; go_simp; first | done | (rw [IntKind.wrap_i64]; omega)⟩) gq7 ?_
        simp only [Act.put, List.setIfInBounds_toArray, List.set_cons_succ, List.set_cons_zero]
        refine wpAnyH_takeD (some 41) (i := 31) (v := (.int .i64 (256 * y0 : Nat))) rfl rfl (by kernel_rfl) (by kernel_rfl) (by kernel_rfl) (fun _ _ _ h => h) (Or.inl ⟨rfl, fun _ _ => by have := HX.out; unfold execOp; go_simp; first | done | (rw [IntKind.wrap_i64]; omega)⟩) gq7 ?_
        simp only [Act.put, List.setIfInBounds_toArray, List.set_cons_succ, List.set_cons_zero]
        refine wpAnyH_takeD (some 42) (i := 32) (v := (.slice (some ⟨tb, o, none⟩) n c)) rfl rfl (by kernel_rfl) (by kernel_rfl) (by kernel_rfl) (fun _ _ _ h => h) (Or.inl ⟨rfl, fun _ _ => rfl⟩) gq7 ?_
        simp only [Act.put, List.setIfInBounds_toArray, List.set_cons_succ, List.set_cons_zero]
        refine wpAnyH_takeD (some 43) (i := 33) (v := (.int .i64 (i' + 1 : Nat))) rfl rfl (by kernel_rfl) (by kernel_rfl) (by kernel_rfl) (fun _ _ _ h => h) (Or.inl ⟨rfl, fun _ _ => rfl⟩) gq7 ?_
        simp only [Act.put, List.setIfInBounds_toArray, List.set_cons_succ, List.set_cons_zero]
        refine wpAnyH_takeD (some 44) (i := 34) (v := (.int .i64 i')) rfl rfl (by kernel_rfl) (by kernel_rfl) (by kernel_rfl) (fun _ _ _ h => h) (Or.inl ⟨rfl, fun _ _ => by have := HIB.out; have := HN.out; unfold execOp; go_simp; first | done | (rw [IntKind.wrap_i64]; omega)⟩) gq7 ?_
        simp only [Act.put, List.setIfInBounds_toArray, List.set_cons_succ, List.set_cons_zero]
        refine wpAnyH_takeD (some 45) (i := 35) (v := (.pointer (some ⟨tb, o + i' * 2, none⟩))) rfl rfl (by kernel_rfl) (by kernel_rfl) (by kernel_rfl) (fun _ _ _ h => h) (Or.inl ⟨rfl, fun _ _ => by have h1 := HIB.out; have h2 : (i' : Int) + 1 < (n : Int) := (by have := HLT.out; omega); have h3 : ¬ (i' : Int) + 1 < 0 := (by omega); unfold execOp; go_simp⟩) gq7 ?_
        simp only [Act.put, List.setIfInBounds_toArray, List.set_cons_succ, List.set_cons_zero]
        refine wpAnyH_takeD (some 46) (i := 36) (v := (.pointer (some ⟨tb, o + i' * 2 + 1, none⟩))) rfl rfl (by kernel_rfl) (by kernel_rfl) (by kernel_rfl) (fun _ _ _ h => h) (Or.inl ⟨rfl, fun _ _ => by unfold execOp; go_simp⟩) gq7 ?_
        simp only [Act.put, List.setIfInBounds_toArray, List.set_cons_succ, List.set_cons_zero]
        refine wpAnyH_takeD (some 47) (i := 37) (v := (.int .u8 y1)) rfl rfl (by kernel_rfl) (by kernel_rfl) (by kernel_rfl) (fun _ _ _ h => h) (Or.inl ⟨rfl, fun W hW => exec_loadQ (.tmp 46) _ _ rfl rfl (load_u8M (HLA.out W hW).2.2)⟩) gq7 ?_
        simp only [Act.put, List.setIfInBounds_toArray, List.set_cons_succ, List.set_cons_zero]
        refine wpAnyH_takeD (some 48) (i := 38) (v := (.int .i64 y1)) rfl rfl (by kernel_rfl) (by kernel_rfl) (by kernel_rfl) (fun _ _ _ h => h) (Or.inl ⟨rfl, fun _ _ => by have := HX.out; unfold execOp; go_simp; first | done | (rw [IntKind.wrap_i64]; omega)⟩) gq7 ?_
        simp only [Act.put, List.setIfInBounds_toArray, List.set_cons_succ, List.set_cons_zero]
        refine wpAnyH_takeD (some 49) (i := 39) (v := (.int .i64 (256 * y0 + y1 : Nat))) rfl rfl (by kernel_rfl) (by kernel_rfl) (by kernel_rfl) (fun _ _ _ h => h) (Or.inl ⟨rfl, fun _ _ => by have := HX.out; unfold execOp; go_simp; first | done | (rw [IntKind.wrap_i64]; omega)⟩) gq7 ?_
        simp only [Act.put, List.setIfInBounds_toArray, List.set_cons_succ, List.set_cons_zero]
        by_cases hcv : 256 * x0 + x1 ≤ 256 * y0 + y1
        · have HMY : Hid (memOk fm (i' + 1) = false) := Lib.hid (by rw [HMO.out, decide_eq_true hcv]; rfl)
          have HJ := Lib.hid hcv
          clear hcv
          refine wpAnyH_takeD (some 50) (i := 40) (v := (.bool true)) rfl rfl (by kernel_rfl) (by kernel_rfl) (by kernel_rfl) (fun _ _ _ h => h) (Or.inl ⟨rfl, fun _ _ => by have := HJ.out; unfold execOp; go_simp; first | done | omega⟩) gq7 ?_
          simp only [Act.put, List.setIfInBounds_toArray, List.set_cons_succ, List.set_cons_zero]
          refine wpAnyH_takeD (some 51) (i := 41) (v := (.bool true)) rfl rfl (by kernel_rfl) (by kernel_rfl) (by kernel_rfl) (fun _ _ _ h => h) (Or.inl ⟨rfl, fun _ _ => by go_simp⟩) gq7 ?_
          simp only [Act.put, List.setIfInBounds_toArray, List.set_cons_succ, List.set_cons_zero]
          refine wpAnyH_takeD (some 52) (i := 42) (v := (.bool true)) rfl rfl (by kernel_rfl) (by kernel_rfl) (by kernel_rfl) (fun _ _ _ h => h) (Or.inl ⟨rfl, fun _ _ => by go_simp⟩) gq7 ?_
          simp only [Act.put, List.setIfInBounds_toArray, List.set_cons_succ, List.set_cons_zero]
          refine wpAnyH_done (by kernel_rfl) ?_ _
          have HE := Lib.hid (grown_trans HG.out gq7)
          have HMY : Hid (memMay n fm = false) := Lib.hid (memMay_no HLT.out (HMY.out))
          clear gq7
          go_wp2_with fail
          go_ret
          exact ⟨by rw [HMY.out]; rfl, HE.out⟩
        · have HMY : Hid (memOk fm (i' + 1) = true) := Lib.hid (by rw [HMO.out, decide_eq_false hcv]; rfl)
          have HJ := Lib.hid hcv
          clear hcv
          refine wpAnyH_takeD (some 50) (i := 40) (v := (.bool false)) rfl rfl (by kernel_rfl) (by kernel_rfl) (by kernel_rfl) (fun _ _ _ h => h) (Or.inl ⟨rfl, fun _ _ => by have := HJ.out; unfold execOp; go_simp; first | done | omega⟩) gq7 ?_
          simp only [Act.put, List.setIfInBounds_toArray, List.set_cons_succ, List.set_cons_zero]
          refine wpAnyH_takeD (some 51) (i := 41) (v := (.bool false)) rfl rfl (by kernel_rfl) (by kernel_rfl) (by kernel_rfl) (fun _ _ _ h => h) (Or.inl ⟨rfl, fun _ _ => by go_simp⟩) gq7 ?_
          simp only [Act.put, List.setIfInBounds_toArray, List.set_cons_succ, List.set_cons_zero]
          refine wpAnyH_takeD (some 52) (i := 42) (v := (.bool false)) rfl rfl (by kernel_rfl) (by kernel_rfl) (by kernel_rfl) (fun _ _ _ h => h) (Or.inl ⟨rfl, fun _ _ => by go_simp⟩) gq7 ?_
          simp only [Act.put, List.setIfInBounds_toArray, List.set_cons_succ, List.set_cons_zero]
          refine wpAnyH_done (by kernel_rfl) ?_ _
          have HE := Lib.hid (grown_trans HG.out gq7)
          have HOK2 : Hid (∀ k, k < i' + 1 + 1 → memOk fm k = true) := Lib.hid (fun k hk => by
            by_cases e : k = i' + 1
            · subst e; exact HMY.out
            · exact HOK.out k (by omega))
          have HW := Lib.hid (show wrap64 (((i' + 1 : Nat) : Int) + 1) = ((i' + 1 + 1 : Nat) : Int) by have := HLT.out; have := HN.out; unfold wrap64; omega)
          have HW2 := Lib.hid (show wrap64 ((i' : Int) + 1 + 1) = ((i' + 1 + 1 : Nat) : Int) by have := HLT.out; have := HN.out; unfold wrap64; omega)
          clear gq7
          go_wp2_with fail
          go_roundw
          case rel => exact ⟨i' + 1 + 1, HLT.out, by first | rfl | rw [HW.out] | rw [HW2.out], HOK2.out, HE.out⟩
          case measure => exact meas_lt n (i' + 1) _ (by first | rfl | rw [HW.out] | rw [HW2.out]) HLT.out
end Go.Proofs.Ytdagbighlgfhjaa
namespace Go.Proofs.Ytdagbighlgfhjaa
open Go.RowKit

section
variable {P : Program} {md : Region.Mode} {ops : Array Oper} {Q : Exit → Act → World → Prop} {S : World → Prop}
/-- The head (operations below n), in whatever order; S holds behind each of it; then L. -/
def wpAnyT (P : Program) (md : Region.Mode) (ops : Array Oper) (Q : Exit → Act → World → Prop) (S : World → Prop) (n : Nat) (L : Array Bool → Act → World → Prop) : Nat → Array Bool → Act → World → Prop
  | 0, listed, a, w => L listed a w
  | f + 1, listed, a, w => Region.ready md ops listed ≠ [] ∧ ∀ i ∈ Region.ready md ops listed, i < n ∧ wpOp P ops Q i (fun a' w' => S w' ∧ wpAnyT P md ops Q S n L f (listed.setIfInBounds i true) a' w') a w
theorem wpAny_of_T {n g : Nat} {L : Array Bool → Act → World → Prop} (hL : ∀ listed a w, L listed a w → wpAny P md ops Q g listed a w) :
    ∀ (f : Nat) (listed : Array Bool) (a : Act) (w : World), wpAnyT P md ops Q S n L f listed a w → wpAny P md ops Q (f + g) listed a w
  | 0, listed, a, w, h => by rw [Nat.zero_add]; exact hL _ _ _ h
  | f + 1, listed, a, w, h => by
    rw [show f + 1 + g = (f + g) + 1 by omega]
    exact ⟨fun h0 => absurd h0 h.1, fun i hi => wpOp_mono (fun a' w' h' => wpAny_of_T hL f _ a' w' h'.2) (h.2 i hi).2⟩
theorem wpAnyT_first {n i : Nat} {oi : Oper} {v : Value} {L : Array Bool → Act → World → Prop} (hi : ops[i]? = some oi) (hsel : ∀ (j : Nat) (o : Oper) cs b, ops[j]? = some o → o.op ≠ .select cs b)
    (hs : Region.sinkB md ops n = true) (hc : Region.chainB md ops n = true) (hn : n < ops.size) (hin : i < n)
    (hdone : ∀ listed a w, L listed a w → ∀ j ∈ Region.ready md ops listed, n ≤ j) (hQ : ∀ c a w, Q (.panic c) (a.put oi.dst v) w → Q (.panic c) a w) :
    ∀ (f : Nat) (listed : Array Bool) (a : Act) (w : World), HeadInv md ops n listed →
      (∀ j oj, ops[j]? = some oj → j ≠ i → listed.getD j true = false → (∀ e ∈ oj.after, Region.binds md e = true → e.on ≠ i) → oi.apart ops oj = true) →
      i ∈ Region.ready md ops listed → YieldsIf P ops S oi v a → S w →
      wpAnyT P md ops Q S n L f (listed.setIfInBounds i true) (a.put oi.dst v) w → wpAnyT P md ops Q S n L (f + 1) listed a w := by
  intro f
  induction f with
  | zero =>
    intro listed a w inv _ hr hy hS H
    have hun := (mem_ready.1 hr).1
    refine ⟨fun h => (by rw [h] at hr; cases hr), fun j hj => ?_⟩
    have hjn : j < n := by
      rcases Nat.lt_or_ge j n with h | h
      · exact h
      · exact absurd hj (tail_waits hs hc hn inv _ i rfl hin hun j h)
    refine ⟨hjn, ?_⟩
    by_cases hji : j = i
    · subst hji; exact hy.wpOp hi hS ⟨hS, H⟩
    · have := hdone _ _ _ H j (ready_mono hj hji)
      omega
  | succ f ih =>
    intro listed a w inv hfree hr hy hS H
    have hun := (mem_ready.1 hr).1
    refine ⟨fun h => (by rw [h] at hr; cases hr), fun j hj => ?_⟩
    have hjn : j < n := by
      rcases Nat.lt_or_ge j n with h | h
      · exact h
      · exact absurd hj (tail_waits hs hc hn inv _ i rfl hin hun j h)
    refine ⟨hjn, ?_⟩
    by_cases hji : j = i
    · subst hji; exact hy.wpOp hi hS ⟨hS, H⟩
    · have h1 := (H.2 j (ready_mono hj hji)).2
      obtain ⟨hjun, oj, hoj, hall⟩ := mem_ready.1 hj
      have hnot : ∀ e ∈ oj.after, Region.binds md e = true → e.on ≠ i := fun e he hb heq => by
        have h1 := hall e he hb
        rw [heq, getD_both hun] at h1
        cases h1
      have h2 := wpOp_putIf hoj (hfree j oj hoj hji hjun hnot) (fun cs b => hsel i oi cs b hi) (fun cs b => hsel j oj cs b hoj) hQ hy h1
      have hfree' : ∀ k ok, ops[k]? = some ok → k ≠ i → (listed.setIfInBounds j true).getD k true = false →
          (∀ e ∈ ok.after, Region.binds md e = true → e.on ≠ i) → oi.apart ops ok = true := fun k ok hk hki hun hno => by
        refine hfree k ok hk hki ?_ hno
        by_cases hjk : j = k
        · subst hjk; exact hjun
        · rw [getD_set_ne true hjk] at hun; exact hun
      refine wpOp_mono (fun a' w' h3 => ⟨h3.2.1, ih (listed.setIfInBounds j true) a' w' (inv.set hj hjn) hfree' (ready_mono hr (Ne.symm hji)) h3.1 h3.2.1 ?_⟩) h2
      rw [Array.setIfInBounds_comm _ _ hji]
      exact h3.2.2
variable {n i f : Nat} {L : Array Bool → Act → World → Prop} {oi : Oper} {listed : Array Bool} {a : Act} {w : World}
theorem wpAnyT_take {v : Value} (d : Option Tmp) (inv : HeadInv md ops n listed) (hi : ops[i]? = some oi) (hd : oi.dst = d) (hsel : Region.noSelect ops = true) (hs : Region.sinkB md ops n = true) (hc : Region.chainB md ops n = true) (hn : n < ops.size) (hin : i < n)
    (hdone : ∀ listed a w, L listed a w → ∀ j ∈ Region.ready md ops listed, n ≤ j) (hf : Region.free md ops listed i = true) (hr : (Region.ready md ops listed).contains i = true)
    (hQ : ∀ c a w, Q (.panic c) (a.put oi.dst v) w → Q (.panic c) a w) (hy : YieldsIf P ops S oi v a) (hS : S w)
    (h : HeadInv md ops n (listed.setIfInBounds i true) → wpAnyT P md ops Q S n L f (listed.setIfInBounds i true) (a.put d v) w) : wpAnyT P md ops Q S n L (f + 1) listed a w := by
  subst hd
  have hr' : i ∈ Region.ready md ops listed := by simpa using hr
  exact wpAnyT_first hi (Region.noSelect_spec hsel) hs hc hn hin hdone hQ f listed a w inv (Region.free_spec hi hf) hr' hy hS (h (inv.set hr' hin))
theorem wpAnyT_one (hr : Region.ready md ops listed = [i]) (hin : i < n) (h : wpOp P ops Q i (fun a' w' => S w' ∧ wpAnyT P md ops Q S n L f (listed.setIfInBounds i true) a' w') a w) : wpAnyT P md ops Q S n L (f + 1) listed a w :=
  ⟨by rw [hr]; simp, fun j hj => by
    rw [hr] at hj
    obtain rfl : j = i := by simpa using hj
    exact ⟨hin, h⟩⟩
theorem wpAnyT_both {j : Nat} (hr : Region.ready md ops listed = [i, j]) (hin : i < n) (hjn : j < n) (h1 : wpOp P ops Q i (fun a' w' => S w' ∧ wpAnyT P md ops Q S n L f (listed.setIfInBounds i true) a' w') a w)
    (h2 : wpOp P ops Q j (fun a' w' => S w' ∧ wpAnyT P md ops Q S n L f (listed.setIfInBounds j true) a' w') a w) : wpAnyT P md ops Q S n L (f + 1) listed a w :=
  ⟨by rw [hr]; simp, fun k hk => by
    rw [hr] at hk
    rcases (by simpa using hk : k = i ∨ k = j) with rfl | rfl
    · exact ⟨hin, h1⟩
    · exact ⟨hjn, h2⟩⟩
theorem headInv_start (n : Nat) : HeadInv md ops n (Array.replicate ops.size false) :=
  ⟨by simp, fun j oj _ hl => (by rw [getD_replicate_false] at hl; cases hl), fun t _ ht => getD_in (by simpa using ht) (getD_replicate_false _ _)⟩
/-- What is left when the head is done. -/
def TailH (P : Program) (md : Region.Mode) (ops : Array Oper) (Q : Exit → Act → World → Prop) (g : Nat) (lt : Array Bool) (listed : Array Bool) (a : Act) (w : World) : Prop := listed = lt ∧ wpAnyH P md ops Q (fun _ => True) g listed a w
theorem tailH_done {g k : Nat} {lt : Array Bool} (hr : Region.ready md ops lt = [k]) (hk : n ≤ k) : ∀ listed a w, TailH P md ops Q g lt listed a w → ∀ j ∈ Region.ready md ops listed, n ≤ j := fun listed a w h j hj => by
  rw [h.1, hr] at hj
  obtain rfl : j = k := by simpa using hj
  exact hk
theorem wp_region_head {ops : Array Oper} {id : Nat} (S : World → Prop) (n g : Nat) (lt : Array Bool) (hm : P.follows .mixedOrders = true) (hsz : n + g = ops.size) (h : wpAnyT P .any ops Q S n (TailH P .any ops Q g lt) n (Array.replicate ops.size false) a w.drew) : (Code.region id ops true).wp P Q a w := by
  refine wp_region_any hm ?_
  rw [← hsz]
  have := wpAny_of_T (fun listed a w h => wpAny_of_held _ _ _ _ h.2) n _ _ _ h
  rw [← hsz] at this
  exact this
end
end Go.Proofs.Ytdagbighlgfhjaa
namespace Go.Proofs.Ytdagbighlgfhjaa
open Go.RowKit

set_option maxRecDepth 100000
set_option maxHeartbeats 4000000

theorem exec_appendD {o : Oper} {a : Act} {w w' : World} (x y : Operand) (vx vy v : Value) (ho : o.op = .call { callee := .builtin .append, args := #[x, y], argTypes := #[31, 31] }) (ht : o.type = 31) (hx : a.eval x = vx) (hy : a.eval y = vy)
    (h : (Builtin.append_ #[31, 31] 31 #[vx, vy]).run Try.prog w = .ok v w') : (execOp a.eval o).run Try.prog w = .ok (.value v) w' := by
  unfold execOp
  simp [ho, ht, resolve, invoke, builtin, hx, hy, h, Result.andThen]
theorem refDev_enters : ∀ args w, (callFunc 116 args).run Try.prog w = .ok (.enter 116 args) w := enters_of Try.func116 (by kernel_rfl) rfl
def ISt.dv2 (L : Nat) (s : ISt) : Nat → ISt
  | 0 => s
  | i + 1 => (ISt.dv2 L s i).take L 2
theorem ISt.dv2_stay (L : Nat) (s : ISt) (i : Nat) (h : (s.dv2 L i).isGood = false) : ∀ n, i ≤ n → s.dv2 L n = s.dv2 L i
  | 0, hn => by
    obtain rfl : i = 0 := by omega
    rfl
  | n + 1, hn => by
    by_cases e : i = n + 1
    · rw [e]
    · show (s.dv2 L n).take L 2 = _
      rw [ISt.dv2_stay L s i h n (by omega), ISt.take_stay _ _ _ h]
theorem wp_region_plainR {P : Program} {Q : Exit → Act → World → Prop} {id : Nat} {ops : Array Oper} {b : Bool} {a : Act} {w : World} (h : (Code.region id ops b).wp P (fun e a' w' => e = .normal ∧ Q .normal a' w') a w) : (Code.region id ops b).wp P Q a w :=
  Code.wp_mono (fun e a' w' h => by
    obtain ⟨rfl, h⟩ := h
    exact h) h
theorem CX.rowed {w0 w w' : World} {L : Nat} {F : Nat → Nat} {s : ISt} {R : Nat} {T : TypeId} {N : Nat} {z v : Nat → Value} {row : Option Nat} (h : CX w0 w L F s R T N z v) (g : w.grownBy w' row) (hr : ∀ k, row = some k → R + 3 ≤ k) : CX w0 w' L F s R T N z v :=
  ⟨h.cur.grown g (fun k e => by have := hr k e; omega), h.res.grown g (fun e => by have := hr R e.symm; omega), h.row.grown g (fun e => by have := hr (R + 2) e.symm; omega), h.new, grown_row h.gr g (fun k e => by have := hr k e; have := h.new; omega)⟩
theorem OwnNE.congrE {w : World} {base sz n : Nat} {v : Value} {ev ev' : Nat → Nat → Value} (h : OwnNE w base sz v n ev) (e : ∀ i j, i < n → j < sz → ev i j = ev' i j) : OwnNE w base sz v n ev' := by
  rcases h.ex with h | ⟨g, cap, h1, h2, h3⟩
  · exact ⟨Or.inl h⟩
  · exact ⟨Or.inr ⟨g, cap, h1, { h2 with cell := fun i j hi hj => by rw [← e i j hi hj]; exact h2.cell i j hi hj }, h3⟩⟩
theorem RdD.of_own2 {w : World} {base n c : Nat} {a : Option Addr} {fm : Nat → Nat → Nat} (h : OwnNE w base 2 (.slice a n c) n (fun i j => .int .u8 (fm i j))) : RdD w w.heap.size a n fm where
  ex := fun hn => by
    rcases h.ex with ⟨h1, rfl⟩ | ⟨g, cap, h1, h2, h3⟩
    · omega
    · cases h1
      exact ⟨g, 0, rfl, h2.lt, fun i j hi hj => by rw [Nat.zero_add]; exact h2.cell i j hi hj⟩
/-- What bytes are, as a roster whose members are there. -/
def ros2 (L : Nat) (F : Nat → Nat) (a : Option Addr) (c : Nat) : RV := ⟨(ISt.good 0).cF L F 16, ((ISt.good 0).take L ((16 : Nat) : Int)).num L F 8, a, (((ISt.good 0).take L ((16 : Nat) : Int)).take L ((8 : Nat) : Int)).num L F 2, c⟩
def rOk2 (L : Nat) (F : Nat → Nat) : Bool := decide ((((ISt.good 0).take L ((16 : Nat) : Int)).take L ((8 : Nat) : Int)).num L F 2 ≤ 32) && ((((((ISt.good 0).take L ((16 : Nat) : Int)).take L ((8 : Nat) : Int)).take L ((2 : Nat) : Int))).dv2 L ((((ISt.good 0).take L ((16 : Nat) : Int)).take L ((8 : Nat) : Int)).num L F 2)).all L && memMay ((((ISt.good 0).take L ((16 : Nat) : Int)).take L ((8 : Nat) : Int)).num L F 2) (fun q => ((((((ISt.good 0).take L ((16 : Nat) : Int)).take L ((8 : Nat) : Int)).take L ((2 : Nat) : Int))).dv2 L q).cF L F 2)
structure RefRosSays (w : World) (L : Nat) (F : Nat → Nat) (e : Ending) (w' : World) : Prop where
  ex : ∃ a2 c2, e = .returned (.tuple #[.agg (rowOf 18 (if rOk2 L F = true then ros2 L F a2 c2 else RV.zero).v), .bool (rOk2 L F)]) ∧ (rOk2 L F = true → OwnNE w' w.heap.size 2 (.slice a2 ((((ISt.good 0).take L ((16 : Nat) : Int)).take L ((8 : Nat) : Int)).num L F 2) c2) ((((ISt.good 0).take L ((16 : Nat) : Int)).take L ((8 : Nat) : Int)).num L F 2) (fun q j => .int .u8 (((((((ISt.good 0).take L ((16 : Nat) : Int)).take L ((8 : Nat) : Int)).take L ((2 : Nat) : Int))).dv2 L q).cF L F 2 j)))
  gr : w.grownBy w' none
theorem RefRosSays.no {w w' : World} {L : Nat} {F : Nat → Nat} {e : Ending} (h : rOk2 L F = false) (hg : w.grownBy w' none) (he : e = .returned (.tuple #[.agg (rowOf 18 RV.zero.v), .bool false])) : RefRosSays w L F e w' :=
  ⟨⟨none, 0, by rw [h]; exact he, fun h2 => by rw [h] at h2; cases h2⟩, hg⟩
theorem RefRosSays.yes {w w' : World} {L : Nat} {F : Nat → Nat} {e : Ending} (h : rOk2 L F = true) (a2 : Option Addr) (n c2 : Nat) (hn : n = (((ISt.good 0).take L ((16 : Nat) : Int)).take L ((8 : Nat) : Int)).num L F 2) (he : e = .returned (.tuple #[.agg (rowOf 18 (ros2 L F a2 c2).v), .bool true])) (hO : OwnNE w' w.heap.size 2 (.slice a2 n c2) n (fun q j => .int .u8 (((((((ISt.good 0).take L ((16 : Nat) : Int)).take L ((8 : Nat) : Int)).take L ((2 : Nat) : Int))).dv2 L q).cF L F 2 j))) (hg : w.grownBy w' none) : RefRosSays w L F e w' :=
  ⟨⟨a2, c2, by rw [h]; exact he, fun _ => by rw [← hn]; exact hO⟩, hg⟩
theorem refTakeRos_any (L c : Nat) (a : Option Addr) (F : Nat → Nat) (w : World) (hR : Rd w w.heap.size a L F) (hc : L ≤ c) (hL : L ≤ 1048576) (hF : ∀ i, F i < 256) :
    Calls Try.prog 30 #[.slice a L c] w (RefRosSays w L F) := by
  obtain ⟨hs1, hX⟩ := CX.begin (P := Try.prog) (T := 33) (N := 18) (z := RV.zero.v) (Z := #[.int .u8 0, .int .u8 0, .int .u8 0, .int .u8 0, .int .u8 0, .int .u8 0, .int .u8 0, .int .u8 0, .int .u8 0, .int .u8 0, .int .u8 0, .int .u8 0, .int .u8 0, .int .u8 0, .int .u8 0, .int .u8 0, .int .u64 0, .slice none 0 0]) hR hc hL (by kernel_rfl) (by kernel_rfl) (fun j _ => RV.one _ j)
  have HS := Lib.hid hs1
  have HF := Lib.hid hF
  have HC := Lib.hid hc
  have HL := Lib.hid hL
  have HR := Lib.hid hR
  have HX := Lib.hid hX
  clear hs1 hF hc hL hR hX
  go_enter Try.func30, Try.ntmps30
  go_upto_region 3 with (first | ((with_reducible refine wpList_here ?_); refine wpList_st (T := 33) (p := .pointer (some ⟨w.heap.size + 2, 0, none⟩)) (v := .agg (rowOf 18 RV.zero.v)) (.tmp 5) (.tmp 11) ?_ ?_ ?_ ?_ ?_ HS.out ?_; (· rfl); (· rfl); go_simp; (· kernel_rfl); (· kernel_rfl)))
  have hX := HX.out
  clear HX HS
  obtain ⟨R, hR0⟩ : ∃ R, R = w.heap.size := ⟨_, rfl⟩
  rw [← hR0] at hX ⊢
  rw [show R + 1 + 1 = R + 2 from rfl]
  obtain ⟨w1, hw1⟩ : ∃ W, W = ((((w.alloc (.cells #[.int .u8 0, .int .u8 0, .int .u8 0, .int .u8 0, .int .u8 0, .int .u8 0, .int .u8 0, .int .u8 0, .int .u8 0, .int .u8 0, .int .u8 0, .int .u8 0, .int .u8 0, .int .u8 0, .int .u8 0, .int .u8 0, .int .u64 0, .slice none 0 0] 33)).alloc (.cells #[.slice a L c, .int .i64 0, .bool false] 179)).alloc (.cells #[.int .u8 0, .int .u8 0, .int .u8 0, .int .u8 0, .int .u8 0, .int .u8 0, .int .u8 0, .int .u8 0, .int .u8 0, .int .u8 0, .int .u8 0, .int .u8 0, .int .u8 0, .int .u8 0, .int .u8 0, .int .u8 0, .int .u64 0, .slice none 0 0] 33)).setCells (R + 2) 0 (rowOf 18 RV.zero.v).toList) := ⟨_, rfl⟩
  rw [← hw1] at hX ⊢
  have HR0 := Lib.hid hR0
  clear hw1 hR0
  have HQ := Lib.hid (curPart_any 16 hX.cur (by decide) (by decide))
  have HX := Lib.hid hX
  clear hX
  go_wp2_with fail
  go_at_call 114
  refine HQ.out.mono ?_
  rintro e u2 ⟨⟨ap, m, cp, rfl, hm, hcp, hRp⟩, hst, hgr⟩
  have hX := HX.out.call hst hgr
  have HK := Lib.hid (sgOfId_any u2.heap.size m cp ap _ u2 hRp hm)
  clear hst hgr hRp hm hcp
  clear HQ HX
  have HX := Lib.hid hX
  clear hX
  go_wp2_with fail
  go_at_call 113
  refine HK.out.mono ?_
  rintro e w2 ⟨rfl, g3⟩
  have hX := HX.out.grown g3
  clear g3 HX HK
  obtain ⟨f1, hf⟩ : ∃ f, f = ISt.cF L F ((ISt.good 0)) 16 := ⟨_, rfl⟩
  rw [← hf]
  have Hf1 := Lib.hid hf
  clear hf
  obtain ⟨k1, k2⟩ := hX.store (P := Try.prog) 0 23 16 (fun j => .int .u8 (f1 j)) (by decide) (by kernel_rfl) (fun _ _ => rfl) (v' := (RV.mk f1 0 none 0 0).v) (fun i hi => by unfold RV.v; (repeat' split) <;> first | rfl | omega)
  obtain ⟨W, hW⟩ : ∃ W, W = w2.setCells (R + 2) 0 (rowOf 16 (fun j => .int .u8 (f1 j))).toList := ⟨_, rfl⟩
  rw [← hW] at k1 k2
  have HS := Lib.hid k1
  have HX := Lib.hid k2
  clear hX k1 k2
  go_upto_region 4 with (first | ((with_reducible refine wpList_here ?_); refine wpList_st (T := 23) (p := .pointer (some ⟨R + 2, 0, none⟩)) (v := .agg (rowOf 16 (fun j => .int .u8 (f1 j)))) (.tmp 15) (.tmp 14) ?_ ?_ ?_ ?_ ?_ HS.out ?_; (· rfl); (· rfl); go_simp; (· kernel_rfl); (· kernel_rfl)))
  have hX := HX.out
  clear HX HS hW
  have hltn2 := ISt.num_lt L F (((ISt.good 0).take L ((16 : Nat) : Int))) 8 HF.out
  have hnum := curNum_any 8 hX.cur (by decide) (by decide) HF.out
  obtain ⟨n2, hn⟩ : ∃ n, n = ISt.num L F (((ISt.good 0).take L ((16 : Nat) : Int))) 8 := ⟨_, rfl⟩
  have Hn2 := Lib.hid hn
  rw [← hn] at hltn2
  have HQ := Lib.hid hnum
  have HX := Lib.hid hX
  clear hX hnum
  go_wp2_with fail
  go_at_call 115
  refine HQ.out.mono ?_
  rintro e w3 ⟨rfl, hst, hgr⟩
  have hX := HX.out.call hst hgr
  rw [← hn]
  clear hst hgr HQ HX hn
  have cc : w3.cell? ⟨R + 2, 16, none⟩ = some (.int .u64 (0 : Nat)) := hX.row.cell 16 (by decide)
  have ff := hX.row.frozen 16
  have hX2 := hX.put 16 (.int .u64 (n2 : Nat)) (by decide) (v' := (RV.mk f1 n2 none 0 0).v) (fun i hi => by unfold RV.v; (repeat' split) <;> first | rfl | omega)
  have HX := Lib.hid hX2
  clear hX hX2
  go_upto_region 5 with fail
  have hX := HX.out
  obtain ⟨W, hW⟩ : ∃ W, W = w3.setCell ⟨R + 2, 16, none⟩ (.int .u64 (n2 : Nat)) := ⟨_, rfl⟩
  rw [← hW] at hX ⊢
  clear HX cc ff hW
  have hltn := ISt.num_lt L F ((((ISt.good 0).take L ((16 : Nat) : Int)).take L ((8 : Nat) : Int))) 2 HF.out
  have hnum := curNum_any 2 hX.cur (by decide) (by decide) HF.out
  obtain ⟨n, hn⟩ : ∃ n, n = ISt.num L F ((((ISt.good 0).take L ((16 : Nat) : Int)).take L ((8 : Nat) : Int))) 2 := ⟨_, rfl⟩
  have Hn := Lib.hid hn
  rw [← hn] at hltn
  have HQ := Lib.hid hnum
  have HX := Lib.hid hX
  clear hX hnum
  go_wp2_with fail
  go_at_call 115
  refine HQ.out.mono ?_
  rintro e w4 ⟨rfl, hst, hgr⟩
  have hX := HX.out.call hst hgr
  rw [← hn]
  clear hst hgr HQ HX hn
  have jw : IntKind.i64.wrap (n : Int) = (n : Int) := by rw [IntKind.wrap_i64]; omega
  clear hltn2
  have HLN := Lib.hid hltn
  have HX := Lib.hid hX
  clear hX hltn
  obtain ⟨st, hst0⟩ : ∃ s, s = ((((ISt.good 0).take L ((16 : Nat) : Int)).take L ((8 : Nat) : Int)).take L ((2 : Nat) : Int)) := ⟨_, rfl⟩
  rw [← hst0] at HX
  have HST := Lib.hid hst0
  clear hst0
  go_wp2_with fail
  go_loopw [7] (fun u7 wr => ∃ (i : Nat) (a3 : Option Addr) (c3 : Nat), i ≤ n ∧ u7 = .int .i64 i ∧ CX w wr L F (st.dv2 L i) R 33 18 RV.zero.v (RV.mk f1 n2 a3 i c3).v ∧ OwnNE wr (R + 3) 2 (.slice a3 i c3) i (fun q j => .int .u8 ((st.dv2 L q).cF L F 2 j))) (fun u7 _ => n - (intOf u7).toNat)
  case atStart => exact ⟨0, none, 0, Nat.zero_le _, rfl, HX.out, OwnNE.nil _ _ _ _⟩
  case round =>
    clear HX jw
    obtain ⟨i, a3, c3, hi, rfl, hX, hO⟩ := hrel
    obtain ⟨si, hsi⟩ : ∃ s, s = st.dv2 L i := ⟨_, rfl⟩
    rw [← hsi] at hX
    have HSI := Lib.hid hsi
    have HO := Lib.hid hO
    have HI := Lib.hid hi
    clear hsi hO hi
    by_cases hlt : i < n
    · have j1 : (i : Int) < (n : Int) := by omega
      have HLT := Lib.hid hlt
      clear hlt
      have hst := hX.cur.st
      cases si with
      | nil => exact hst.elim
      | bad =>
        obtain ⟨a', c', p', hcc, _⟩ := hst
        have c2 := hcc.c2
        clear hcc
        have HNO := Lib.hid (show rOk2 L F = false by unfold rOk2; rw [← Hn.out, ← HST.out, ISt.dv2_stay L st i (by rw [← HSI.out]; rfl) n (Nat.le_of_lt HLT.out), ← HSI.out]; show (decide (n ≤ 32) && false && _) = false; rw [Bool.and_false]; rfl)
        have HQ := Lib.hid (curOk_any hX.cur)
        have HX := Lib.hid hX
        clear hX
        go_wp2_with fail
        go_at_call 118
        refine HQ.out.mono ?_
        rintro e we ⟨rfl, g5⟩
        have hX := HX.out.grown g5
        have hO := HO.out.grown g5 (by simp)
        clear g5 HQ HX HO
        rw [show ISt.all L .bad = false from rfl]
        clear c2
        clear hO
        obtain ⟨k1, k2, k3, k4⟩ := hX.give (P := Try.prog) RV.zero.v (by kernel_rfl) (fun j _ => RV.one _ j)
        have HS := Lib.hid k1
        have HRR := Lib.hid k2
        have HG3 := Lib.hid k3
        have HG := Lib.hid k4
        clear k1 k2 k3 k4 hX
        go_wp2_with (first | ((with_reducible refine wpList_here ?_); refine wpList_st (T := 33) (p := .pointer (some ⟨R, 0, none⟩)) (v := .agg (rowOf 18 RV.zero.v)) (.tmp 2) (.tmp 58) ?_ ?_ ?_ ?_ ?_ HS.out ?_; (· rfl); (· rfl); go_simp; (· kernel_rfl); (· kernel_rfl)))
        exact bodyPost_ret (res_rowAt2 rfl rfl rfl HRR.out (by kernel_rfl) (by kernel_rfl)) rfl (RefRosSays.no HNO.out HG.out rfl)
      | good p =>
        obtain ⟨a', c', hcc, _, _, _⟩ := hst
        have c2 := hcc.c2
        clear hcc
        by_cases h32 : n ≤ 32
        · have j32 : (n : Int) ≤ 32 := by omega
          have HX := Lib.hid hX
          clear hX h32
          go_upto_region 9 with fail
          have hX := HX.out
          clear HX c2 j32 j1
          refine wp_region_plainR ?_
          refine wp_region_head (fun W => W.cell? ⟨R + 2, 17, none⟩ = some (.slice a3 i c3)) 6 2 #[true, true, true, true, true, true, false, false] (by kernel_rfl) rfl ?_
          have hXq := hX.grown (grown_drew (grown_refl _ none))
          have hOq := HO.out.grown (grown_drew (grown_refl _ none)) (by simp)
          generalize World.drew _ = q1 at *
          clear hX
          have HSq : Hid (q1.cell? ⟨R + 2, 17, none⟩ = some (.slice a3 i c3)) := Lib.hid (hXq.row.cell 17 (by decide))
          change wpAnyT _ _ _ _ _ 6 _ 6 #[false, false, false, false, false, false, false, false] _ _
          refine wpAnyT_take (some 38) (i := 0) (v := (.pointer (some ⟨R + 2, 17, none⟩))) (headInv_start 6) rfl rfl (by kernel_rfl) (by kernel_rfl) (by kernel_rfl) (by decide) (by decide) (tailH_done (k := 6) (by kernel_rfl) (by decide)) (by kernel_rfl) (by kernel_rfl) (fun _ _ _ h => absurd h.1 (by simp)) (Or.inl ⟨rfl, fun _ _ => by go_simp⟩) HSq.out ?_
          intro inv
          simp only [Act.put, List.setIfInBounds_toArray, List.set_cons_succ, List.set_cons_zero]
          refine wpAnyT_take (some 39) (i := 1) (v := (.slice a3 i c3)) inv rfl rfl (by kernel_rfl) (by kernel_rfl) (by kernel_rfl) (by decide) (by decide) (tailH_done (k := 6) (by kernel_rfl) (by decide)) (by kernel_rfl) (by kernel_rfl) (fun _ _ _ h => absurd h.1 (by simp)) (Or.inl ⟨rfl, fun W hW => by have cc := (show W.cell? ⟨R + 2, 17, none⟩ = some (.slice a3 i c3) from hW); go_simp⟩) HSq.out ?_
          intro inv
          simp only [Act.put, List.setIfInBounds_toArray, List.set_cons_succ, List.set_cons_zero]
          refine wpAnyT_take (some 40) (i := 2) (v := (.pointer (some ⟨R + 1, 0, none⟩))) inv rfl rfl (by kernel_rfl) (by kernel_rfl) (by kernel_rfl) (by decide) (by decide) (tailH_done (k := 6) (by kernel_rfl) (by decide)) (by kernel_rfl) (by kernel_rfl) (fun _ _ _ h => absurd h.1 (by simp)) (Or.inl ⟨rfl, fun _ _ => rfl⟩) HSq.out ?_
          intro inv
          simp only [Act.put, List.setIfInBounds_toArray, List.set_cons_succ, List.set_cons_zero]
          clear inv
          obtain ⟨f, hf⟩ : ∃ f, f = ISt.cF L F (.good p) 2 := ⟨_, rfl⟩
          refine wpAnyT_one (i := 3) (by kernel_rfl) (by decide) (wpOp_at (i := 3) rfl (by kernel_rfl) (wp_fnR (some 41) 116 #[.pointer (some ⟨R + 1, 0, none⟩)] (R := fun v W => v = .agg (rowOf 2 fun j => .int .u8 (f j)) ∧ CAt W (R + 1) L F (ISt.take L (.good p) 2) ∧ q1.grownBy W (some (R + 1))) rfl (exec_fn1 _ _ _ rfl rfl) refDev_enters ((curDev_any hXq.cur).mono fun e W h => ⟨_, h.ex, by rw [hf]; rfl, h.st, h.gr⟩) ?_))
          rintro v W1 ⟨rfl, hst1, hgr1⟩
          have hX1 := hXq.call hst1 hgr1
          have hO1 := hOq.grown hgr1 (fun q e => by cases e; omega)
          refine ⟨hX1.row.cell 17 (by decide), ?_⟩
          simp only [Act.put, List.setIfInBounds_toArray, List.set_cons_succ, List.set_cons_zero]
          have gA := World.grownBy_alloc W1 (.cells (rowOf 2 fun j => .int .u8 (f j)) 26) none
          have hA := RowAt.new W1 26 2 (fun j => .int .u8 (f j)) _ rfl
          have hX2 := hX1.grown gA
          refine wpAnyT_one (i := 4) (by kernel_rfl) (by decide) (wpOp_at (i := 4) rfl (by kernel_rfl) (wp_yields (exec_buildD 41 f rfl rfl) ⟨hX2.row.cell 17 (by decide), ?_⟩))
          simp only [Act.put, List.setIfInBounds_toArray, List.set_cons_succ, List.set_cons_zero]
          obtain ⟨a4, c4, W4, hap, hO4, row, hgr, hrow, _⟩ := app_dev W1.heap.size 0 1 (by have := hX2.row.lt; omega) (hO1.grown gA (by simp)) (fun j hj => by rw [Nat.zero_add]; exact hA.cell j hj) (fun _ => rfl) (by have := HI.out; have := HLN.out; omega)
          have hX4 : CX w W4 L F (ISt.take L (.good p) 2) R 33 18 RV.zero.v (RV.mk f1 n2 a3 i c3).v := hX2.rowed hgr hrow
          refine wpAnyT_one (i := 5) (by kernel_rfl) (by decide) (wpOp_at (i := 5) rfl (by kernel_rfl) (wp_yields (exec_appendD (.tmp 39) (.tmp 42) _ _ _ rfl rfl rfl rfl hap) ⟨hX4.row.cell 17 (by decide), ?_⟩))
          simp only [Act.put, List.setIfInBounds_toArray, List.set_cons_succ, List.set_cons_zero]
          refine ⟨rfl, ?_⟩
          refine wpAnyH_yieldD (some 44) (i := 6) (v := .pointer (some ⟨R + 2, 17, none⟩)) (w' := W4) (by kernel_rfl) rfl rfl rfl (by go_simp) trivial ?_
          simp only [Act.put, List.setIfInBounds_toArray, List.set_cons_succ, List.set_cons_zero]
          refine wpAnyH_skipS (i := 7) (by kernel_rfl) rfl rfl rfl (exec_storeS (.tmp 44) (.tmp 43) _ _ rfl rfl rfl (w' := W4.setCell ⟨R + 2, 17, none⟩ (.slice a4 (i + 1) c4)) (by have cc : W4.cell? ⟨R + 2, 17, none⟩ = some (.slice a3 i c3) := hX4.row.cell 17 (by decide); have ff := hX4.row.frozen 17; go_simp)) trivial ?_
          simp only [List.setIfInBounds_toArray, List.set_cons_succ, List.set_cons_zero]
          refine wpAnyH_done (by kernel_rfl) ?_ _
          have hX5 := hX4.put 17 (.slice a4 (i + 1) c4) (by decide) (v' := (RV.mk f1 n2 a4 (i + 1) c4).v) (fun i hi => by unfold RV.v; (repeat' split) <;> first | rfl | omega)
          have hO5 := hO4.grown (grown_setCell_new (grown_refl W4 (some (R + 2))) ⟨R + 2, 17, none⟩ (.slice a4 (i + 1) c4) (Or.inr rfl)) (fun q e => by cases e; omega)
          generalize W4.setCell ⟨R + 2, 17, none⟩ (.slice a4 (i + 1) c4) = W5 at *
          have hsn : st.dv2 L (i + 1) = ISt.take L (.good p) 2 := by show (st.dv2 L i).take L 2 = _; rw [← HSI.out]
          have HX5 := Lib.hid hX5
          have HO5 : Hid (OwnNE W5 (R + 3) 2 (.slice a4 (i + 1) c4) (i + 1) (fun q j => .int .u8 ((st.dv2 L q).cF L F 2 j))) := Lib.hid (hO5.congrE fun q j hq hj => by
    unfold snocE
    by_cases e : q < i
    · rw [if_pos e]
    · rw [if_neg e, show q = i by omega, hf, HSI.out])
          have HSN := Lib.hid hsn
          clear hX5 hO5 hX4 hO4 hap hgr hrow hX2 hA gA hX1 hO1 hst1 hgr1 hXq hOq HSq hf hsn HO
          refine ⟨rfl, ?_⟩
          have kk : (i : Int) < 65536 := by have := HLN.out; have := HLT.out; omega
          go_wp2_with fail
          go_roundw
          case rel => exact ⟨i + 1, a4, c4, HLT.out, by go_num, by rw [HSN.out]; exact HX5.out, HO5.out⟩
          case measure =>
            have := HLT.out
            simp [intOf]
            try omega
        · have j32 : ¬ (n : Int) ≤ 32 := by omega
          have j33 : (32 : Int) < (n : Int) := by omega
          have HNO := Lib.hid (show rOk2 L F = false by unfold rOk2; rw [← Hn.out, decide_eq_false h32, Bool.false_and, Bool.false_and])
          clear h32
          have HQ := Lib.hid (curOk_any hX.cur)
          have HX := Lib.hid hX
          clear hX
          go_wp2_with fail
          go_at_call 118
          refine HQ.out.mono ?_
          rintro e we ⟨rfl, g5⟩
          have hX := HX.out.grown g5
          have hO := HO.out.grown g5 (by simp)
          clear g5 HQ HX HO
          clear c2
          obtain ⟨ok, hok⟩ : ∃ b, b = ISt.all L (.good p) := ⟨_, rfl⟩
          rw [← hok]
          clear hok
          cases ok with
          | false =>
            clear hO
            obtain ⟨k1, k2, k3, k4⟩ := hX.give (P := Try.prog) RV.zero.v (by kernel_rfl) (fun j _ => RV.one _ j)
            have HS := Lib.hid k1
            have HRR := Lib.hid k2
            have HG3 := Lib.hid k3
            have HG := Lib.hid k4
            clear k1 k2 k3 k4 hX
            go_wp2_with (first | ((with_reducible refine wpList_here ?_); refine wpList_st (T := 33) (p := .pointer (some ⟨R, 0, none⟩)) (v := .agg (rowOf 18 RV.zero.v)) (.tmp 2) (.tmp 58) ?_ ?_ ?_ ?_ ?_ HS.out ?_; (· rfl); (· rfl); go_simp; (· kernel_rfl); (· kernel_rfl)))
            exact bodyPost_ret (res_rowAt2 rfl rfl rfl HRR.out (by kernel_rfl) (by kernel_rfl)) rfl (RefRosSays.no HNO.out HG.out rfl)
          | true =>
            clear hO
            obtain ⟨k1, k2, k3, k4⟩ := hX.give (P := Try.prog) RV.zero.v (by kernel_rfl) (fun j _ => RV.one _ j)
            have HS := Lib.hid k1
            have HRR := Lib.hid k2
            have HG3 := Lib.hid k3
            have HG := Lib.hid k4
            clear k1 k2 k3 k4 hX
            go_wp2_with (first | ((with_reducible refine wpList_here ?_); refine wpList_st (T := 33) (p := .pointer (some ⟨R, 0, none⟩)) (v := .agg (rowOf 18 RV.zero.v)) (.tmp 2) (.tmp 58) ?_ ?_ ?_ ?_ ?_ HS.out ?_; (· rfl); (· rfl); go_simp; (· kernel_rfl); (· kernel_rfl)))
            exact bodyPost_ret (res_rowAt2 rfl rfl rfl HRR.out (by kernel_rfl) (by kernel_rfl)) rfl (RefRosSays.no HNO.out HG.out rfl)
    · obtain rfl : i = n := by have := HI.out; omega
      have j1 : ¬ (i : Int) < (i : Int) := by omega
      clear hlt
      by_cases h32 : i ≤ 32
      · have j33 : ¬ (32 : Int) < (i : Int) := by omega
        have H32 := Lib.hid h32
        clear h32
        have HQ := Lib.hid (curOk_any hX.cur)
        have HX := Lib.hid hX
        clear hX
        go_wp2_with fail
        go_at_call 118
        refine HQ.out.mono ?_
        rintro e we ⟨rfl, g5⟩
        have hX := HX.out.grown g5
        have hO := HO.out.grown g5 (by simp)
        clear g5 HQ HX HO
        obtain ⟨ok, hok⟩ : ∃ b, b = ISt.all L si := ⟨_, rfl⟩
        rw [← hok]
        have HOKB := Lib.hid hok
        clear hok
        cases ok with
        | false =>
          have HNO := Lib.hid (show rOk2 L F = false by unfold rOk2; rw [← Hn.out, ← HST.out, ← HSI.out, ← HOKB.out, Bool.and_false, Bool.false_and])
          clear hO
          obtain ⟨k1, k2, k3, k4⟩ := hX.give (P := Try.prog) RV.zero.v (by kernel_rfl) (fun j _ => RV.one _ j)
          have HS := Lib.hid k1
          have HRR := Lib.hid k2
          have HG3 := Lib.hid k3
          have HG := Lib.hid k4
          clear k1 k2 k3 k4 hX
          go_wp2_with (first | ((with_reducible refine wpList_here ?_); refine wpList_st (T := 33) (p := .pointer (some ⟨R, 0, none⟩)) (v := .agg (rowOf 18 RV.zero.v)) (.tmp 2) (.tmp 58) ?_ ?_ ?_ ?_ ?_ HS.out ?_; (· rfl); (· rfl); go_simp; (· kernel_rfl); (· kernel_rfl)))
          exact bodyPost_ret (res_rowAt2 rfl rfl rfl HRR.out (by kernel_rfl) (by kernel_rfl)) rfl (RefRosSays.no HNO.out HG.out rfl)
        | true =>
          have cs : we.cell? ⟨R + 2, 17, none⟩ = some (.slice a3 i c3) := hX.row.cell 17 (by decide)
          have HQ := Lib.hid (refMembers_any we.heap.size i c3 a3 (fun q => (st.dv2 L q).cF L F 2) we (RdD.of_own2 hO) (fun q j => ISt.cF_lt _ 2 HF.out j) (by have := H32.out; omega))
          obtain ⟨mb, hmb⟩ : ∃ b, b = memMay i (fun q => (st.dv2 L q).cF L F 2) := ⟨_, rfl⟩
          rw [← hmb] at HQ
          have HMB := Lib.hid hmb
          have HX := Lib.hid hX
          have HO := Lib.hid hO
          clear hX hO hmb
          go_wp2_with fail
          go_at_call 80
          refine HQ.out.mono ?_
          rintro e wf ⟨rfl, g6⟩
          have hX := HX.out.grown g6
          have hO := HO.out.grown g6 (by simp)
          clear g6 HQ HX HO cs
          have HOK2 := Lib.hid (show rOk2 L F = mb by unfold rOk2; rw [← Hn.out, ← HST.out, ← HSI.out, ← HOKB.out, decide_eq_true H32.out, Bool.true_and, Bool.true_and, HMB.out])
          cases mb with
          | false =>
            clear hO
            obtain ⟨k1, k2, k3, k4⟩ := hX.give (P := Try.prog) RV.zero.v (by kernel_rfl) (fun j _ => RV.one _ j)
            have HS := Lib.hid k1
            have HRR := Lib.hid k2
            have HG3 := Lib.hid k3
            have HG := Lib.hid k4
            clear k1 k2 k3 k4 hX
            go_wp2_with (first | ((with_reducible refine wpList_here ?_); refine wpList_st (T := 33) (p := .pointer (some ⟨R, 0, none⟩)) (v := .agg (rowOf 18 RV.zero.v)) (.tmp 2) (.tmp 58) ?_ ?_ ?_ ?_ ?_ HS.out ?_; (· rfl); (· rfl); go_simp; (· kernel_rfl); (· kernel_rfl)))
            exact bodyPost_ret (res_rowAt2 rfl rfl rfl HRR.out (by kernel_rfl) (by kernel_rfl)) rfl (RefRosSays.no HOK2.out HG.out rfl)
          | true =>
            have HLD := Lib.hid (hX.row.load (P := Try.prog) 0 33 18 _ (by decide) (fun j _ => by rw [Nat.zero_add]) (by kernel_rfl) (by kernel_rfl))
            have HO := Lib.hid hO
            have HNEW := Lib.hid hX.new
            clear hO
            obtain ⟨k1, k2, k3, k4⟩ := hX.give (P := Try.prog) (RV.mk f1 n2 a3 i c3).v (by kernel_rfl) (fun j _ => RV.one _ j)
            have HS := Lib.hid k1
            have HRR := Lib.hid k2
            have HG3 := Lib.hid k3
            have HG := Lib.hid k4
            clear k1 k2 k3 k4 hX
            go_wp2_with (first | ((with_reducible refine wpList_here ?_); refine wpList_ld (p := .pointer (some ⟨R + 2, 0, none⟩)) 5 ?_ ?_ ?_ HLD.out ?_; (· rfl); go_simp; (· kernel_rfl)) | ((with_reducible refine wpList_here ?_); refine wpList_st (T := 33) (p := .pointer (some ⟨R, 0, none⟩)) (v := .agg (rowOf 18 (RV.mk f1 n2 a3 i c3).v)) (.tmp 2) (.tmp 59) ?_ ?_ ?_ ?_ ?_ HS.out ?_; (· rfl); (· rfl); go_simp; (· kernel_rfl); (· kernel_rfl)))
            exact bodyPost_ret (res_rowAt2 rfl rfl rfl HRR.out (by kernel_rfl) (by kernel_rfl)) rfl (RefRosSays.yes HOK2.out a3 i c3 Hn.out (by unfold ros2; rw [← Hf1.out, ← Hn2.out, ← Hn.out]; rfl) (by rw [← HST.out]; exact (HO.out.grown HG3.out (fun q e => by cases e; omega)).baseE (by have := HNEW.out; have := HR0.out; omega)) HG.out)
      · have j33 : (32 : Int) < (i : Int) := by omega
        have HNO := Lib.hid (show rOk2 L F = false by unfold rOk2; rw [← Hn.out, decide_eq_false h32, Bool.false_and, Bool.false_and])
        clear h32
        have HQ := Lib.hid (curOk_any hX.cur)
        have HX := Lib.hid hX
        clear hX
        go_wp2_with fail
        go_at_call 118
        refine HQ.out.mono ?_
        rintro e we ⟨rfl, g5⟩
        have hX := HX.out.grown g5
        have hO := HO.out.grown g5 (by simp)
        clear g5 HQ HX HO
        obtain ⟨ok, hok⟩ : ∃ b, b = ISt.all L si := ⟨_, rfl⟩
        rw [← hok]
        have HOKB := Lib.hid hok
        clear hok
        cases ok with
        | false =>
          clear hO
          obtain ⟨k1, k2, k3, k4⟩ := hX.give (P := Try.prog) RV.zero.v (by kernel_rfl) (fun j _ => RV.one _ j)
          have HS := Lib.hid k1
          have HRR := Lib.hid k2
          have HG3 := Lib.hid k3
          have HG := Lib.hid k4
          clear k1 k2 k3 k4 hX
          go_wp2_with (first | ((with_reducible refine wpList_here ?_); refine wpList_st (T := 33) (p := .pointer (some ⟨R, 0, none⟩)) (v := .agg (rowOf 18 RV.zero.v)) (.tmp 2) (.tmp 58) ?_ ?_ ?_ ?_ ?_ HS.out ?_; (· rfl); (· rfl); go_simp; (· kernel_rfl); (· kernel_rfl)))
          exact bodyPost_ret (res_rowAt2 rfl rfl rfl HRR.out (by kernel_rfl) (by kernel_rfl)) rfl (RefRosSays.no HNO.out HG.out rfl)
        | true =>
          clear hO
          obtain ⟨k1, k2, k3, k4⟩ := hX.give (P := Try.prog) RV.zero.v (by kernel_rfl) (fun j _ => RV.one _ j)
          have HS := Lib.hid k1
          have HRR := Lib.hid k2
          have HG3 := Lib.hid k3
          have HG := Lib.hid k4
          clear k1 k2 k3 k4 hX
          go_wp2_with (first | ((with_reducible refine wpList_here ?_); refine wpList_st (T := 33) (p := .pointer (some ⟨R, 0, none⟩)) (v := .agg (rowOf 18 RV.zero.v)) (.tmp 2) (.tmp 58) ?_ ?_ ?_ ?_ ?_ HS.out ?_; (· rfl); (· rfl); go_simp; (· kernel_rfl); (· kernel_rfl)))
          exact bodyPost_ret (res_rowAt2 rfl rfl rfl HRR.out (by kernel_rfl) (by kernel_rfl)) rfl (RefRosSays.no HNO.out HG.out rfl)
end Go.Proofs.Ytdagbighlgfhjaa
namespace Go.Proofs.Ytdagbighlgfhjaa
open Go.RowKit

set_option maxRecDepth 100000

theorem ISt.all_good (L : Nat) (s : ISt) (h : s.all L = true) : s = .good L := by
  cases s with
  | nil => cases h
  | bad => cases h
  | good a => rw [of_decide_eq_true h]
theorem ISt.all_ok2 (L : Nat) (s : ISt) (h : s.all L = true) : s.ok2 = true := by rw [ISt.all_good L s h]; rfl
theorem ISt.all_no (L : Nat) (s : ISt) (h : s.ok2 = false) : s.all L = false := by
  cases s with
  | nil => rfl
  | bad => rfl
  | good a => cases h
theorem devMay_ext {f g : Nat → Nat} (h : ∀ j, j < 2 → f j = g j) : devMay f = devMay g := by
  unfold devMay
  rw [h 0 (by decide), h 1 (by decide)]
theorem eqN_ext {n : Nat} {f f' g g' : Nat → Nat} (h : ∀ j, j < n → f j = f' j) (h' : ∀ j, j < n → g j = g' j) : eqN n f g = eqN n f' g' := by
  rw [Bool.eq_iff_iff, eqN_iff, eqN_iff]
  exact ⟨fun e i hi => by rw [← h i hi, ← h' i hi]; exact e i hi, fun e i hi => by rw [h i hi, h' i hi]; exact e i hi⟩
theorem goMay_ext {f f' g g' : Nat → Nat} (h : ∀ j, j < 2 → f j = f' j) (h' : ∀ j, j < 2 → g j = g' j) : goMay f g = goMay f' g' := by
  unfold goMay
  rw [devMay_ext h, devMay_ext h', eqN_ext h h']
/-- A state that is good is at most at the end. -/
def ISt.inL (L : Nat) (s : ISt) : Prop := ∀ p, s = .good p → p ≤ L
theorem ISt.inL_zero (L : Nat) : (ISt.good 0).inL L := fun p h => by cases h; exact Nat.zero_le _
theorem ISt.inL_take (L : Nat) (s : ISt) (n : Int) (h : s.inL L) : (s.take L n).inL L := by
  intro p hp
  cases s with
  | nil => cases hp
  | bad => cases hp
  | good a =>
    have ha := h a rfl
    by_cases e : 0 ≤ n ∧ n ≤ ((L - a : Nat) : Int)
    · have : ISt.take L (.good a) n = .good (a + n.toNat) := if_pos e
      rw [this] at hp
      cases hp
      omega
    · have : ISt.take L (.good a) n = .bad := if_neg e
      rw [this] at hp
      cases hp
theorem ISt.fail_no (s : ISt) (L : Nat) : s.fail.all L = false := by cases s <;> rfl
theorem ISt.take_end (L p n : Nat) (hp : p ≤ L) : (ISt.take L (.good p) (n : Int)).all L = decide (n = L - p) := by
  by_cases e : n ≤ L - p
  · have : ISt.take L (.good p) (n : Int) = .good (p + n) := if_pos ⟨by omega, by omega⟩
    rw [this]
    show decide (p + n = L) = _
    rw [decide_eq_decide]
    omega
  · have : ISt.take L (.good p) (n : Int) = .bad := if_neg (by omega)
    rw [this, decide_eq_false (by omega)]
    rfl
theorem ISt.got_end (L p n : Nat) (h : n = L - p) : ISt.got L (.good p) (n : Int) = n := if_pos ⟨by omega, by omega⟩
-- a sender's key
theorem distS_eq (L : Nat) : gd.distS L = distS L := by
  unfold ISt.distS distS
  rw [ISt.take11]
  rfl
theorem dist_sd (L : Nat) (F : Nat → Nat) (h : (distS L).all L = true) (j : Nat) (hj : j < 2) : (gd.dist L F).sd j = (distV L F).sd j := by
  have h1 := (ISt.take_good L _ 32 (ISt.all_ok2 L _ h)).1
  have h2 := (ISt.take_good L _ 8 h1).1
  have h3 := (ISt.take_good L _ 2 h2).2
  exact ISt.devC_cF L F _ h3 j hj
theorem dOk_eq (L : Nat) (F : Nat → Nat) : dOk L F = distOk L F := by
  unfold dOk distOk
  rw [distS_eq]
  cases h : (distS L).all L with
  | false => rfl
  | true => rw [devMay_ext (dist_sd L F h)]
theorem dVal_eq (L : Nat) (F : Nat → Nat) : rowOf 52 (if dOk L F = true then gd.dist L F else DV.zero).v = rowOf 52 (distOf L F).v := by
  unfold distOf
  rw [dOk_eq]
  cases h : distOk L F with
  | false => rfl
  | true =>
    rw [if_pos rfl, if_pos rfl]
    have hs : (distS L).all L = true := by
      unfold distOk at h
      rw [Bool.and_eq_true] at h
      exact h.1
    have e4 : (gd.dist L F).kid = (distV L F).kid := by
      show ((((gd.take L 16).take L 8).take L 1).take L 1).num L F 8 = _
      rw [ISt.take11]; rfl
    have e5 : (gd.dist L F).key = (distV L F).key := by
      show (((((gd.take L 16).take L 8).take L 1).take L 1).take L 8).cF L F 32 = _
      rw [ISt.take11]; rfl
    refine rowOf_congr fun i hi => ?_
    unfold DV.v
    rw [e4, e5]
    repeat' split
    all_goals first | rfl | exact congrArg (fun q : Nat => Value.int .u8 (q : Int)) (dist_sd L F hs _ (by omega))
-- a packet
theorem pktB_eq (L : Nat) : gd.pktB L = (((((ISt.good 0).take L 2).take L 2).take L ((16 : Nat) : Int)).take L ((4 : Nat) : Int)) := by
  unfold ISt.pktB
  rw [ISt.take11, ISt.take11]
  rfl
theorem pktN_eq (L : Nat) (F : Nat → Nat) : gd.pktN L F = ((((ISt.good 0).take L 2).take L 2).take L ((16 : Nat) : Int)).num L F 4 := by
  unfold ISt.pktN
  rw [ISt.take11, ISt.take11]
  rfl
theorem pkt_fr (L : Nat) (F : Nat → Nat) (a : Option Addr) (c : Nat) (h : (gd.pktB L).ok2 = true) (j : Nat) (hj : j < 2) : (gd.pkt L F a c).fr j = (pkt2 L F a c).fr j := by
  rw [pktB_eq] at h
  have h1 := (ISt.take_good L _ 4 h).1
  have h2 := (ISt.take_good L _ 16 h1).1
  have h3 := (ISt.take_good L _ 2 h2).1
  exact ISt.devC_cF L F _ (ISt.take_good L _ 2 h3).2 j hj
theorem pkt_tw (L : Nat) (F : Nat → Nat) (a : Option Addr) (c : Nat) (h : (gd.pktB L).ok2 = true) (j : Nat) (hj : j < 2) : (gd.pkt L F a c).tw j = (pkt2 L F a c).tw j := by
  rw [pktB_eq] at h
  have h1 := (ISt.take_good L _ 4 h).1
  have h2 := (ISt.take_good L _ 16 h1).1
  have h3 := (ISt.take_good L _ 2 h2).2
  show ((gd.take L 1).take L 1).devC L F j = _
  rw [ISt.take11]
  exact ISt.devC_cF L F _ h3 j hj
theorem pkt_id (L : Nat) (F : Nat → Nat) (a : Option Addr) (c : Nat) : (gd.pkt L F a c).id = (pkt2 L F a c).id := by
  show ((((gd.take L 1).take L 1).take L 1).take L 1).cF L F 16 = _
  rw [ISt.take11, ISt.take11]
  rfl
theorem pkt_in (L p : Nat) (h : gd.pktB L = .good p) : p ≤ L := by
  rw [pktB_eq] at h
  exact ISt.inL_take L _ _ (ISt.inL_take L _ _ (ISt.inL_take L _ _ (ISt.inL_take L _ _ (ISt.inL_zero L)))) p h
/-- What the code takes and what the document takes. -/
theorem pOk_eq (L : Nat) (F : Nat → Nat) : pOk L F = pOk2 L F := by
  unfold pOk pOk2
  rw [← pktB_eq, ← pktN_eq]
  unfold ISt.pktS
  cases h : gd.pktB L with
  | nil => rfl
  | bad => rfl
  | good p =>
    show ((ISt.take L (.good p) (gd.pktN L F : Int)).all L && _) = _
    rw [ISt.take_end L p _ (pkt_in L p h)]
    show (_ && _) = (decide (gd.pktN L F = L - p) && _)
    by_cases e : gd.pktN L F = L - p
    · rw [decide_eq_true e, Bool.true_and, Bool.true_and]
      have hg : (gd.pktB L).ok2 = true := by rw [h]; rfl
      have hl : gd.pktL L F = gd.pktN L F := by
        unfold ISt.pktL
        rw [h]
        exact ISt.got_end L p _ e
      unfold pktMay
      rw [goMay_ext (pkt_fr L F none 0 hg) (pkt_tw L F none 0 hg)]
      show (_ && decide (gd.pktL L F ≤ 70000)) = (_ && decide (_ ≤ 70000))
      rw [hl, pktN_eq]
      rfl
    · rw [decide_eq_false e, Bool.false_and, Bool.false_and]
theorem pOk_at (L : Nat) (F : Nat → Nat) (h : pOk2 L F = true) : gd.pktB L = .good (L - gd.pktN L F) ∧ gd.pktL L F = gd.pktN L F := by
  unfold pOk2 at h
  rw [← pktB_eq, ← pktN_eq] at h
  cases e : gd.pktB L with
  | nil => rw [e] at h; cases h
  | bad => rw [e] at h; cases h
  | good p =>
    rw [e] at h
    have h : (decide (gd.pktN L F = L - p) && _) = true := h
    rw [Bool.and_eq_true, decide_eq_true_eq] at h
    have hp := pkt_in L p e
    refine ⟨by rw [h.1, show L - (L - p) = p by omega], ?_⟩
    unfold ISt.pktL
    rw [e]
    exact ISt.got_end L p _ h.1
-- an envelope
theorem ISt.inL_flag (L : Nat) (F : Nat → Nat) (s : ISt) (h : s.inL L) : (s.flagS L F).inL L := by
  unfold ISt.flagS
  split
  · intro p hp
    cases e : s.take L 1 with
    | nil => rw [e] at hp; cases hp
    | bad => rw [e] at hp; cases hp
    | good a => rw [e] at hp; cases hp
  · exact ISt.inL_take L s 1 h
theorem ISt.inL_set (L : Nat) (F : Nat → Nat) (s : ISt) (h : s.inL L) : (s.setS L F).inL L := by
  have h1 := ISt.inL_flag L F s h
  have h2 := ISt.inL_flag L F _ (ISt.inL_take L _ 32 (ISt.inL_take L _ 32 h1))
  unfold ISt.setS
  split
  · unfold ISt.setS1
    split
    · exact ISt.inL_take L _ 4 h2
    · exact h2
  · exact h1
theorem ISt.set_ok2 (L : Nat) (F : Nat → Nat) (s : ISt) (h : (s.setS L F).ok2 = true) : s.ok2 = true := by
  cases s with
  | nil => cases h
  | bad => cases h
  | good a => rfl
theorem envH_eq (L : Nat) (F : Nat → Nat) : gd.envH L F = ((((ISt.good 0).take L 2).take L 2).setS L F).hdrS L := by
  unfold ISt.envH
  rw [ISt.take11, ISt.take11]
  rfl
theorem env_has (L : Nat) (F : Nat → Nat) (a : Option Addr) (c : Nat) : (gd.env L F a c).has = (env2 L F a c).has ∧ (gd.env L F a c).st = (env2 L F a c).st ∧ (gd.env L F a c).hd = (env2 L F a c).hd := by
  refine ⟨?_, ?_, ?_⟩
  · show decide (((((gd.take L 1).take L 1).take L 1).take L 1).num L F 1 = 1) = _
    rw [ISt.take11, ISt.take11]; rfl
  · show ((((gd.take L 1).take L 1).take L 1).take L 1).setV L F = _
    rw [ISt.take11, ISt.take11]; rfl
  · show (((((gd.take L 1).take L 1).take L 1).take L 1).setS L F).hdr L F = _
    rw [ISt.take11, ISt.take11]; rfl
theorem env_chain (L : Nat) (F : Nat → Nat) (h : ((gd.envH L F).take L 2).ok2 = true) : ((ISt.good 0).take L 2).fits L 2 = true ∧ (ISt.good 0).fits L 2 = true := by
  have h1 := (ISt.take_good L _ 2 h).1
  rw [envH_eq] at h1
  have h2 := (ISt.take_good L _ 32 (ISt.take_good L _ 4 (ISt.take_good L _ 4 h1).1).1).1
  have h3 := ISt.set_ok2 L F _ h2
  have h4 := ISt.take_good L _ 2 h3
  exact ⟨h4.2, (ISt.take_good L _ 2 h4.1).2⟩
theorem env_fr (L : Nat) (F : Nat → Nat) (a : Option Addr) (c : Nat) (h : ((gd.envH L F).take L 2).ok2 = true) (j : Nat) (hj : j < 2) : (gd.env L F a c).fr j = (env2 L F a c).fr j := ISt.devC_cF L F _ (env_chain L F h).2 j hj
theorem env_tw (L : Nat) (F : Nat → Nat) (a : Option Addr) (c : Nat) (h : ((gd.envH L F).take L 2).ok2 = true) (j : Nat) (hj : j < 2) : (gd.env L F a c).tw j = (env2 L F a c).tw j := by
  show ((gd.take L 1).take L 1).devC L F j = _
  rw [ISt.take11]
  exact ISt.devC_cF L F _ (env_chain L F h).1 j hj
theorem env_in (L : Nat) (F : Nat → Nat) (p : Nat) (h : (gd.envH L F).take L 2 = .good p) : p ≤ L := by
  rw [envH_eq] at h
  have h1 := ISt.inL_set L F _ (ISt.inL_take L _ 2 (ISt.inL_take L _ 2 (ISt.inL_zero L)))
  exact ISt.inL_take L _ 2 (ISt.inL_take L _ 4 (ISt.inL_take L _ 4 (ISt.inL_take L _ 32 h1))) p h
theorem ISt.bad_all (L : Nat) (s : ISt) (n : Int) : (s.fail.take L n).all L = false := by cases s <;> rfl
theorem env_small (L : Nat) (F : Nat → Nat) (h : (gd.envH L F).num L F 2 ≤ 4096) : gd.envB L F = (gd.envH L F).take L 2 ∧ (gd.envH L F).cntV L F 4096 = (gd.envH L F).num L F 2 := by
  unfold ISt.envB ISt.cntS ISt.cntV
  rw [if_neg (by omega), if_neg (by omega)]
  exact ⟨rfl, rfl⟩
theorem eOk2_is (L : Nat) (F : Nat → Nat) : eOk2 L F = match (gd.envH L F).take L 2 with
  | .good p => decide ((gd.envH L F).num L F 2 ≤ 4096) && decide ((gd.envH L F).num L F 2 = L - p) && envMay (env2 L F none 0)
  | _ => false := by
  rw [envH_eq]
  rfl
theorem eOk_eq (L : Nat) (F : Nat → Nat) : eOk L F = eOk2 L F := by
  rw [eOk2_is]
  unfold eOk ISt.envS
  by_cases h4 : (gd.envH L F).num L F 2 ≤ 4096
  · obtain ⟨e1, e2⟩ := env_small L F h4
    rw [e2]
    cases h : (gd.envH L F).take L 2 with
    | nil => rw [e1, h]; rfl
    | bad => rw [e1, h]; rfl
    | good p =>
      rw [e1, h, ISt.take_end L p _ (env_in L F p h)]
      show (_ && _) = (decide ((gd.envH L F).num L F 2 ≤ 4096) && decide ((gd.envH L F).num L F 2 = L - p) && _)
      rw [decide_eq_true h4, Bool.true_and]
      by_cases e : (gd.envH L F).num L F 2 = L - p
      · rw [decide_eq_true e, Bool.true_and, Bool.true_and]
        have hg : ((gd.envH L F).take L 2).ok2 = true := by rw [h]; rfl
        have hl : gd.envL L F = (gd.envH L F).num L F 2 := by
          unfold ISt.envL
          rw [e1, e2, h]
          exact ISt.got_end L p _ e
        obtain ⟨q1, q2, _⟩ := env_has L F none 0
        unfold envMay
        rw [goMay_ext (env_fr L F none 0 hg) (env_tw L F none 0 hg), q1, q2]
        show (_ && decide (gd.envL L F ≤ 4096)) = (_ && decide (_ ≤ 4096))
        rw [hl, envH_eq]
        rfl
      · rw [decide_eq_false e, Bool.false_and, Bool.false_and]
  · have e1 : gd.envB L F = ((gd.envH L F).take L 2).fail := by
      unfold ISt.envB ISt.cntS
      rw [if_pos (by omega)]
    rw [e1, ISt.bad_all, Bool.false_and]
    cases h : (gd.envH L F).take L 2 with
    | nil => rfl
    | bad => rfl
    | good p =>
      show false = (decide ((gd.envH L F).num L F 2 ≤ 4096) && _ && _)
      rw [decide_eq_false h4, Bool.false_and, Bool.false_and]
theorem eOk_at (L : Nat) (F : Nat → Nat) (h : eOk2 L F = true) : gd.envB L F = .good (L - (gd.envH L F).num L F 2) ∧ gd.envL L F = (gd.envH L F).num L F 2 ∧ ((gd.envH L F).take L 2).ok2 = true := by
  rw [eOk2_is] at h
  cases e : (gd.envH L F).take L 2 with
  | nil => rw [e] at h; cases h
  | bad => rw [e] at h; cases h
  | good p =>
    rw [e] at h
    have h : (decide ((gd.envH L F).num L F 2 ≤ 4096) && decide ((gd.envH L F).num L F 2 = L - p) && _) = true := h
    rw [Bool.and_eq_true, Bool.and_eq_true, decide_eq_true_eq, decide_eq_true_eq] at h
    have hp := env_in L F p e
    obtain ⟨e1, e2⟩ := env_small L F h.1.1
    refine ⟨by rw [e1, e, h.1.2, show L - (L - p) = p by omega], ?_, rfl⟩
    unfold ISt.envL
    rw [e1, e2, e]
    exact ISt.got_end L p _ h.1.2
-- a roster
theorem devs_dv2 (L : Nat) (s : ISt) : ∀ k, s.devs L k = s.dv2 L k
  | 0 => rfl
  | k + 1 => by
    show ((s.devs L k).take L 1).take L 1 = (s.dv2 L k).take L 2
    rw [ISt.take11, devs_dv2 L s k]
theorem memOk_ext {fm fm' : Nat → Nat → Nat} (i : Nat) (h : ∀ q, q ≤ i → ∀ j, j < 2 → fm q j = fm' q j) : memOk fm i = memOk fm' i := by
  unfold memOk
  rw [devMay_ext (h i (Nat.le_refl _))]
  by_cases e : i = 0
  · rw [decide_eq_true e, Bool.true_or, Bool.true_or]
  · unfold cmpD
    rw [h i (Nat.le_refl _) 0 (by decide), h i (Nat.le_refl _) 1 (by decide), h (i - 1) (by omega) 0 (by decide), h (i - 1) (by omega) 1 (by decide)]
theorem memMay_ext {n : Nat} {fm fm' : Nat → Nat → Nat} (h : ∀ q, q < n → ∀ j, j < 2 → fm q j = fm' q j) : memMay n fm = memMay n fm' := by
  unfold memMay
  congr 1
  rw [Bool.eq_iff_iff, List.all_eq_true, List.all_eq_true]
  exact ⟨fun e i hi => by rw [← memOk_ext i (fun q hq => h q (by have := List.mem_range.1 hi; omega))]; exact e i hi, fun e i hi => by rw [memOk_ext i (fun q hq => h q (by have := List.mem_range.1 hi; omega))]; exact e i hi⟩
theorem rosH_eq (L : Nat) : gd.rosH L = ((ISt.good 0).take L ((16 : Nat) : Int)).take L ((8 : Nat) : Int) := rfl
theorem dv2_good (L : Nat) (s : ISt) (n : Nat) (h : (s.dv2 L n).isGood = true) (i : Nat) (hi : i ≤ n) : (s.dv2 L i).ok2 = true := by
  cases e : s.dv2 L i with
  | good a => rfl
  | nil => exfalso; rw [ISt.dv2_stay L s i (by rw [e]; rfl) n hi, e] at h; cases h
  | bad => exfalso; rw [ISt.dv2_stay L s i (by rw [e]; rfl) n hi, e] at h; cases h
theorem ros_fm (L : Nat) (F : Nat → Nat) (s : ISt) (n : Nat) (h : (s.dv2 L n).isGood = true) (i : Nat) (hi : i < n) (j : Nat) (hj : j < 2) : (s.devs L i).devC L F j = (s.dv2 L i).cF L F 2 j := by
  rw [devs_dv2]
  exact ISt.devC_cF L F _ (ISt.take_good L _ 2 (dv2_good L s n h (i + 1) hi)).2 j hj
theorem ros_small (L : Nat) (F : Nat → Nat) (h : (gd.rosH L).num L F 2 ≤ 32) : gd.rosB L F = (gd.rosH L).take L 2 ∧ gd.rosN L F = (gd.rosH L).num L F 2 := by
  unfold ISt.rosB ISt.rosN ISt.cntS ISt.cntV
  rw [if_neg (by omega), if_neg (by omega)]
  exact ⟨rfl, rfl⟩
theorem fail_devs (L : Nat) (s : ISt) (k : Nat) : (s.fail.devs L k).all L = false := by
  have h : (s.fail.devs L 0).isGood = false := by cases s <;> rfl
  rw [ISt.devs_stay L s.fail 0 h k (Nat.zero_le _)]
  cases s <;> rfl
theorem rOk2_is (L : Nat) (F : Nat → Nat) : rOk2 L F = (decide ((gd.rosH L).num L F 2 ≤ 32) && (((gd.rosH L).take L 2).dv2 L ((gd.rosH L).num L F 2)).all L && memMay ((gd.rosH L).num L F 2) (fun q => (((gd.rosH L).take L 2).dv2 L q).cF L F 2)) := rfl
theorem rOk_eq (L : Nat) (F : Nat → Nat) : rOk L F = rOk2 L F := by
  rw [rOk2_is]
  unfold rOk ISt.rosS ISt.rosL ISt.rosM ISt.dvN
  by_cases h3 : (gd.rosH L).num L F 2 ≤ 32
  · obtain ⟨e1, e2⟩ := ros_small L F h3
    rw [e1, e2, decide_eq_true h3, Bool.true_and, devs_dv2]
    cases h : (((gd.rosH L).take L 2).dv2 L ((gd.rosH L).num L F 2)).all L with
    | false => rfl
    | true =>
      have hg : (((gd.rosH L).take L 2).dv2 L ((gd.rosH L).num L F 2)).isGood = true := by rw [ISt.all_good L _ h]; rfl
      rw [if_pos hg, memMay_ext (ros_fm L F _ _ hg)]
  · have e1 : gd.rosB L F = ((gd.rosH L).take L 2).fail := by
      unfold ISt.rosB ISt.cntS
      rw [if_pos (by omega)]
    rw [e1, fail_devs, decide_eq_false h3, Bool.false_and, Bool.false_and, Bool.false_and]
theorem rOk_at (L : Nat) (F : Nat → Nat) (h : rOk2 L F = true) : gd.rosL L F = (gd.rosH L).num L F 2 ∧ (gd.rosH L).num L F 2 ≤ 32 ∧ ∀ i, i < (gd.rosH L).num L F 2 → ∀ j, j < 2 → gd.rosM L F i j = (((gd.rosH L).take L 2).dv2 L i).cF L F 2 j := by
  rw [rOk2_is] at h
  rw [Bool.and_eq_true, Bool.and_eq_true, decide_eq_true_eq] at h
  obtain ⟨e1, e2⟩ := ros_small L F h.1.1
  have hg : (((gd.rosH L).take L 2).dv2 L ((gd.rosH L).num L F 2)).isGood = true := by rw [ISt.all_good L _ h.1.2]; rfl
  refine ⟨?_, h.1.1, fun i hi j hj => ?_⟩
  · unfold ISt.rosL ISt.dvN
    rw [e1, e2, devs_dv2, if_pos hg]
  · unfold ISt.rosM
    rw [e1]
    exact ros_fm L F _ _ hg i hi j hj
end Go.Proofs.Ytdagbighlgfhjaa
