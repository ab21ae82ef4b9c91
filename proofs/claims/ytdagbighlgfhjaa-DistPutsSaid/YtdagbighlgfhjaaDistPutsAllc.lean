/-
  Proved: whatever comes in, one of each, 'DistPuts' answers true, and what came in reads afterwards as it read before. Conditions: the arguments can be read as data.
-/
import Derived.Test.YtdagbighlgfhjaaDistPutsAllb
import Derived.Test.YtdagbighlgfhjaaDistPutsAlla
import Derived.Test.YtdagbighlgfhjaaExecQ
import Derived.Test.YtdagbighlgfhjaaRefHdrB
import Derived.Test.YtdagbighlgfhjaaOrd3
import Derived.SizedLaws
namespace Go.Proofs.Ytdagbighlgfhjaa
open Go.RowKit

set_option maxRecDepth 100000
set_option maxHeartbeats 4000000

structure Stop (p : Prop) : Prop where
  un : p
theorem Stop.at {p : Prop} (h : Stop p) : p := h.un
theorem refEnvMay_eq (x : EV) : envMay x = (devMay x.fr && devMay x.tw && !(eqN 2 x.fr x.tw) && (x.has || (eqN 32 x.st.ident (fun _ => 0) && (eqN 32 x.st.eph (fun _ => 0) && ((x.st.once == false) && decide (x.st.oid = 0))))) && (x.st.once || decide (x.st.oid = 0)) && decide (x.nb ≤ 4096)) := by
  show (goMay x.fr x.tw && setMay x.has x.st && decide (x.nb ≤ 4096)) = _
  unfold goMay setMay
  generalize devMay x.fr = a1
  generalize devMay x.tw = a2
  generalize eqN 2 x.fr x.tw = a3
  generalize eqN 32 x.st.ident (fun _ => 0) = a4
  generalize eqN 32 x.st.eph (fun _ => 0) = a5
  generalize x.st.once = a6
  generalize decide (x.st.oid = 0) = a7
  generalize decide (x.nb ≤ 4096) = a8
  cases x.has <;> cases a1 <;> cases a2 <;> cases a3 <;> cases a4 <;> cases a5 <;> cases a6 <;> cases a7 <;> rfl
theorem refMayEnv_any (x : EV) (w : World) : Calls Try.prog 90 #[.agg (rowOf 106 x.v)] w fun e w' => e = .returned (.bool (envMay x)) ∧ w.grownBy w' none := by
  have ga := World.grownBy_alloc w (.cells (rowOf 106 x.v) 41) none
  have hz := World.size_alloc w (.cells (rowOf 106 x.v) 41)
  have hA := RowAt.new w 41 106 x.v _ rfl
  go_enter Try.func90, Try.ntmps90
  go_upto_region 1 with fail
  obtain ⟨B, hBB⟩ : ∃ B, B = w.heap.size := ⟨_, rfl⟩
  rw [← hBB] at hA hz ⊢
  generalize w.alloc (.cells (rowOf 106 x.v) 41) = w0 at *
  have gx := World.grownBy_alloc w0 (.cells Try.zeroCells38 38) none
  have hX := RowAt.new w0 38 66 SetV.zero.v Try.zeroCells38 (by kernel_rfl)
  obtain ⟨k1, k2⟩ := RowAt.store (P := Try.prog) hX 0 38 66 SetV.zero.v (by decide) (by kernel_rfl) (fun j _ => SetV.one _ j)
  have hX2 := k2.congr (v' := SetV.zero.v) fun i hi => by rw [if_pos ⟨Nat.zero_le _, by omega⟩, Nat.sub_zero]
  have gX := grown_setCells (w0 := w0) w0.heap.size (Or.inl (Nat.le_refl _)) (rowOf 66 SetV.zero.v).toList 0 _ gx
  have hA := hA.grown gX (by simp)
  have hG := grown_trans ga gX
  obtain ⟨w1, hw1⟩ : ∃ W, W = (w0.alloc (.cells Try.zeroCells38 38)).setCells w0.heap.size 0 (rowOf 66 SetV.zero.v).toList := ⟨_, rfl⟩
  rw [← hw1] at k1 hX2 hA hG
  obtain ⟨X, hXX⟩ : ∃ X, X = w0.heap.size := ⟨_, rfl⟩
  have HXX := Lib.hid hXX
  rw [← hXX] at k1 hX2
  have HS := Lib.hid k1
  have HX := Lib.hid hX2
  have HA := Lib.hid hA
  have HG := Lib.hid hG
  clear k1 k2 hX hX2 gx gX hA hG ga hw1 hBB hz hXX
  have HP := Lib.hid (refEnvMay_eq x)
  go_upto_region 2 with (first | ((with_reducible refine wpList_here ?_); refine wpList_st (T := 38) (p := .pointer (some ⟨w0.heap.size, 0, none⟩)) (v := .agg (rowOf 66 SetV.zero.v)) (.tmp 3) (.tmp 4) ?_ ?_ ?_ ?_ ?_ (by rw [← HXX.out]; exact HS.out) ?_; (· rfl); (· rfl); go_simp; (· kernel_rfl); (· kernel_rfl)))
  rw [← HXX.out]
  clear HS HXX
  have HLF := Lib.hid (fun W (h : w1.grownBy W none) => (HA.out.grown h (by simp)).load (P := Try.prog) 0 26 2 (fun j => .int .u8 (x.fr j)) (by decide) x.v_fr (by kernel_rfl) (by kernel_rfl))
  have HLT := Lib.hid (fun W (h : w1.grownBy W none) => (HA.out.grown h (by simp)).load (P := Try.prog) 2 26 2 (fun j => .int .u8 (x.tw j)) (by decide) x.v_to (by kernel_rfl) (by kernel_rfl))
  have HM := Lib.hid (refDev_any x.fr w1)
  have HL1 := Lib.hid (HLF.out w1 (grown_refl _ _))
  obtain ⟨b1, hb1⟩ : ∃ b, b = devMay x.fr := ⟨_, rfl⟩
  rw [← hb1] at HM HP
  clear hb1
  go_wp2_with (first | ((with_reducible refine wpList_here ?_); refine wpList_ld (p := .pointer (some ⟨B, 0, none⟩)) 5 ?_ ?_ ?_ HL1.out ?_; (· rfl); go_simp; (· kernel_rfl)))
  go_at_call 63
  refine HM.out.mono ?_
  rintro e w2 ⟨rfl, g2⟩
  have G2 := Lib.hid g2
  clear HM HL1 g2
  cases b1 with
  | false =>
    have HE := Lib.hid (grown_trans HG.out G2.out)
    go_wp2_with fail
    go_ret
    exact ⟨by rw [HP.out]; rfl, HE.out⟩
  | true =>
  have HL2 := Lib.hid (HLT.out w2 G2.out)
  have HM2 := Lib.hid (refDev_any x.tw w2)
  obtain ⟨b2, hb2⟩ : ∃ b, b = devMay x.tw := ⟨_, rfl⟩
  rw [← hb2] at HM2 HP
  clear hb2
  go_wp2_with (first | ((with_reducible refine wpList_here ?_); refine wpList_ld (p := .pointer (some ⟨B, 2, none⟩)) 9 ?_ ?_ ?_ HL2.out ?_; (· rfl); go_simp; (· kernel_rfl)))
  go_at_call 63
  refine HM2.out.mono ?_
  rintro e w3 ⟨rfl, g3⟩
  have G3 := Lib.hid (grown_trans G2.out g3)
  have HE := Lib.hid (grown_trans HG.out G3.out)
  clear HM2 HL2 g3
  cases b2 with
  | false =>
    go_wp2_with fail
    go_ret
    exact ⟨by rw [HP.out]; rfl, HE.out⟩
  | true =>
  have HL3 := Lib.hid (HLF.out w3 G3.out)
  have HL4 := Lib.hid (HLT.out w3 G3.out)
  have HNE := Lib.hid (neq_dev x.fr x.tw w3)
  obtain ⟨q, hq⟩ : ∃ q, q = !(eqN 2 x.fr x.tw) := ⟨_, rfl⟩
  rw [← hq] at HNE HP
  clear hq HLF HLT
  have c4 : w3.cell? ⟨B, 4, none⟩ = some (.bool x.has) := (HA.out.grown G3.out (by simp)).cell 4 (by decide)
  have c69 : w3.cell? ⟨B, 69, none⟩ = some (.bool x.st.once) := (HA.out.grown G3.out (by simp)).cell 69 (by decide)
  have c70 : w3.cell? ⟨B, 70, none⟩ = some (.int .u32 x.st.oid) := (HA.out.grown G3.out (by simp)).cell 70 (by decide)
  have c105 : w3.cell? ⟨B, 105, none⟩ = some (.slice x.ad x.nb x.cb) := (HA.out.grown G3.out (by simp)).cell 105 (by decide)
  cases q with
  | false =>
    clear c4 c69 c70 c105
    go_wp2_with (first | ((with_reducible refine wpList_here ?_); refine wpList_ld (p := .pointer (some ⟨B, 0, none⟩)) 14 ?_ ?_ ?_ HL3.out ?_; (· rfl); go_simp; (· kernel_rfl)) | ((with_reducible refine wpList_here ?_); refine wpList_ld (p := .pointer (some ⟨B, 2, none⟩)) 16 ?_ ?_ ?_ HL4.out ?_; (· rfl); go_simp; (· kernel_rfl)) | ((with_reducible refine wpList_here ?_); refine wpList_ne 15 17 ?_ ?_ ?_ ?_ ?_ HNE.out ?_; (· rfl); go_simp; (· kernel_rfl); (· kernel_rfl); (· kernel_rfl); simp only [Act.put, List.setIfInBounds_toArray, List.set_cons_succ, List.set_cons_zero]; refine Stop.at ?_))
    refine ⟨?_⟩
    with_reducible refine wpList_want (v := (.bool false)) (w' := w3) ?_ ?_ ?_
    (· kernel_rfl)
    (· go_simp)
    simp only [Act.put, List.setIfInBounds_toArray, List.set_cons_succ, List.set_cons_zero]
    with_reducible refine wpList_want (v := (.bool false)) (w' := w3) ?_ ?_ ?_
    (· kernel_rfl)
    (· go_simp)
    simp only [Act.put, List.setIfInBounds_toArray, List.set_cons_succ, List.set_cons_zero]
    with_reducible refine wpList_skipQ _ rfl ?_ ?_
    (· kernel_rfl)
    simp only [Act.put, List.setIfInBounds_toArray, List.set_cons_succ, List.set_cons_zero]
    with_reducible refine wpList_skipQ _ rfl ?_ ?_
    (· kernel_rfl)
    simp only [Act.put, List.setIfInBounds_toArray, List.set_cons_succ, List.set_cons_zero]
    with_reducible refine wpList_skipQ _ rfl ?_ ?_
    (· kernel_rfl)
    simp only [Act.put, List.setIfInBounds_toArray, List.set_cons_succ, List.set_cons_zero]
    with_reducible refine wpList_skipQ _ rfl ?_ ?_
    (· kernel_rfl)
    simp only [Act.put, List.setIfInBounds_toArray, List.set_cons_succ, List.set_cons_zero]
    with_reducible refine wpList_skipQ _ rfl ?_ ?_
    (· kernel_rfl)
    simp only [Act.put, List.setIfInBounds_toArray, List.set_cons_succ, List.set_cons_zero]
    with_reducible refine wpList_skipQ _ rfl ?_ ?_
    (· kernel_rfl)
    simp only [Act.put, List.setIfInBounds_toArray, List.set_cons_succ, List.set_cons_zero]
    with_reducible refine wpList_skipQ _ rfl ?_ ?_
    (· kernel_rfl)
    simp only [Act.put, List.setIfInBounds_toArray, List.set_cons_succ, List.set_cons_zero]
    with_reducible refine wpList_skipQ _ rfl ?_ ?_
    (· kernel_rfl)
    simp only [Act.put, List.setIfInBounds_toArray, List.set_cons_succ, List.set_cons_zero]
    with_reducible refine wpList_want (v := (.bool false)) (w' := w3) ?_ ?_ ?_
    (· kernel_rfl)
    (· go_simp)
    simp only [Act.put, List.setIfInBounds_toArray, List.set_cons_succ, List.set_cons_zero]
    with_reducible refine wpList_want (v := (.bool false)) (w' := w3) ?_ ?_ ?_
    (· kernel_rfl)
    (· go_simp)
    simp only [Act.put, List.setIfInBounds_toArray, List.set_cons_succ, List.set_cons_zero]
    with_reducible refine wpList_skipQ _ rfl ?_ ?_
    (· kernel_rfl)
    simp only [Act.put, List.setIfInBounds_toArray, List.set_cons_succ, List.set_cons_zero]
    with_reducible refine wpList_skipQ _ rfl ?_ ?_
    (· kernel_rfl)
    simp only [Act.put, List.setIfInBounds_toArray, List.set_cons_succ, List.set_cons_zero]
    with_reducible refine wpList_skipQ _ rfl ?_ ?_
    (· kernel_rfl)
    simp only [Act.put, List.setIfInBounds_toArray, List.set_cons_succ, List.set_cons_zero]
    with_reducible refine wpList_skipQ _ rfl ?_ ?_
    (· kernel_rfl)
    simp only [Act.put, List.setIfInBounds_toArray, List.set_cons_succ, List.set_cons_zero]
    with_reducible refine wpList_skipQ _ rfl ?_ ?_
    (· kernel_rfl)
    simp only [Act.put, List.setIfInBounds_toArray, List.set_cons_succ, List.set_cons_zero]
    with_reducible refine wpList_skipQ _ rfl ?_ ?_
    (· kernel_rfl)
    simp only [Act.put, List.setIfInBounds_toArray, List.set_cons_succ, List.set_cons_zero]
    with_reducible refine wpList_skipQ _ rfl ?_ ?_
    (· kernel_rfl)
    simp only [Act.put, List.setIfInBounds_toArray, List.set_cons_succ, List.set_cons_zero]
    with_reducible refine wpList_skipQ _ rfl ?_ ?_
    (· kernel_rfl)
    simp only [Act.put, List.setIfInBounds_toArray, List.set_cons_succ, List.set_cons_zero]
    with_reducible refine wpList_skipQ _ rfl ?_ ?_
    (· kernel_rfl)
    simp only [Act.put, List.setIfInBounds_toArray, List.set_cons_succ, List.set_cons_zero]
    with_reducible refine wpList_want (v := (.bool false)) (w' := w3) ?_ ?_ ?_
    (· kernel_rfl)
    (· go_simp)
    simp only [Act.put, List.setIfInBounds_toArray, List.set_cons_succ, List.set_cons_zero]
    with_reducible refine wpList_want (v := (.bool false)) (w' := w3) ?_ ?_ ?_
    (· kernel_rfl)
    (· go_simp)
    simp only [Act.put, List.setIfInBounds_toArray, List.set_cons_succ, List.set_cons_zero]
    with_reducible refine wpList_skipQ _ rfl ?_ ?_
    (· kernel_rfl)
    simp only [Act.put, List.setIfInBounds_toArray, List.set_cons_succ, List.set_cons_zero]
    with_reducible refine wpList_skipQ _ rfl ?_ ?_
    (· kernel_rfl)
    simp only [Act.put, List.setIfInBounds_toArray, List.set_cons_succ, List.set_cons_zero]
    with_reducible refine wpList_skipQ _ rfl ?_ ?_
    (· kernel_rfl)
    simp only [Act.put, List.setIfInBounds_toArray, List.set_cons_succ, List.set_cons_zero]
    with_reducible refine wpList_skipQ _ rfl ?_ ?_
    (· kernel_rfl)
    simp only [Act.put, List.setIfInBounds_toArray, List.set_cons_succ, List.set_cons_zero]
    with_reducible refine wpList_want (v := (.bool false)) (w' := w3) ?_ ?_ ?_
    (· kernel_rfl)
    (· go_simp)
    simp only [Act.put, List.setIfInBounds_toArray, List.set_cons_succ, List.set_cons_zero]
    with_reducible refine wpList_want (v := (.bool false)) (w' := w3) ?_ ?_ ?_
    (· kernel_rfl)
    (· go_simp)
    simp only [Act.put, List.setIfInBounds_toArray, List.set_cons_succ, List.set_cons_zero]
    go_wp2_with fail
    go_ret
    exact ⟨by rw [HP.out]; rfl, HE.out⟩
  | true =>
  have HL5 := Lib.hid ((HA.out.grown G3.out (by simp)).load (P := Try.prog) 5 38 66 x.st.v (by decide) x.v_st (by kernel_rfl) (by kernel_rfl))
  have HL6 := Lib.hid ((HX.out.grown G3.out (by simp)).load (P := Try.prog) 0 38 66 SetV.zero.v (by decide) (fun j _ => by rw [Nat.zero_add]) (by kernel_rfl) (by kernel_rfl))
  have HEQ := Lib.hid (eq_set x.st SetV.zero w3)
  obtain ⟨z, hz⟩ : ∃ z, z = (eqN 32 x.st.ident SetV.zero.ident && (eqN 32 x.st.eph SetV.zero.eph && ((x.st.once == SetV.zero.once) && ((x.st.oid : Int) == (SetV.zero.oid : Int))))) := ⟨_, rfl⟩
  rw [← hz] at HEQ
  have HZ : Hid ((eqN 32 x.st.ident (fun _ => 0) && (eqN 32 x.st.eph (fun _ => 0) && ((x.st.once == false) && decide (x.st.oid = 0)))) = z) := Lib.hid (by rw [hz, int_beq]; rfl)
  rw [HZ.out] at HP
  clear hz HZ
  obtain ⟨hs, hhs⟩ : ∃ z, z = x.has := ⟨_, rfl⟩
  obtain ⟨oc, hoc⟩ : ∃ z, z = x.st.once := ⟨_, rfl⟩
  obtain ⟨od, hod⟩ : ∃ z, z = x.st.oid := ⟨_, rfl⟩
  rw [← hhs] at c4 HP
  rw [← hoc] at c69 HP
  rw [← hod] at c70 HP
  clear hhs hoc hod HA HX
  have HP2 : Hid (∀ d1 d2 : Bool, decide (od = 0) = d1 → decide (x.nb ≤ 4096) = d2 → envMay x = ((hs || z) && (oc || d1) && d2)) := Lib.hid (fun d1 d2 h1 h2 => by rw [HP.out, h1, h2]; cases hs <;> cases z <;> rfl)
  clear HP
  have C4 := Lib.hid (load_boolQ c4)
  have C69 := Lib.hid (load_boolQ c69)
  have C70 := Lib.hid (load_u32Q c70)
  have C105 := Lib.hid (load_sliceQ c105)
  clear c4 c69 c70 c105
  have HNB : Hid (decide (x.nb ≤ 4096) = decide ((x.nb : Int) ≤ 4096)) := Lib.hid (by by_cases h : x.nb ≤ 4096 <;> simp [h] <;> omega)
  cases hs with
  | true =>
    cases oc with
    | true =>
      by_cases h2 : x.nb ≤ 4096
      · have HP3 : Hid (envMay x = true) := Lib.hid (by rw [HP2.out _ _ rfl (decide_eq_true h2)]; cases decide (od = 0) <;> rfl)
        have j2 : (x.nb : Int) ≤ 4096 := by omega
        clear h2
        go_wp2_with (first | ((with_reducible refine wpList_here ?_); refine wpList_ld (p := .pointer (some ⟨B, 0, none⟩)) 14 ?_ ?_ ?_ HL3.out ?_; (· rfl); go_simp; (· kernel_rfl)) | ((with_reducible refine wpList_here ?_); refine wpList_ld (p := .pointer (some ⟨B, 2, none⟩)) 16 ?_ ?_ ?_ HL4.out ?_; (· rfl); go_simp; (· kernel_rfl)) | ((with_reducible refine wpList_here ?_); refine wpList_ne 15 17 ?_ ?_ ?_ ?_ ?_ HNE.out ?_; (· rfl); go_simp; (· kernel_rfl); (· kernel_rfl); (· kernel_rfl); simp only [Act.put, List.setIfInBounds_toArray, List.set_cons_succ, List.set_cons_zero]; refine Stop.at ?_))
        refine ⟨?_⟩
        with_reducible refine wpList_want (v := (.bool true)) (w' := w3) ?_ ?_ ?_
        (· kernel_rfl)
        (· go_simp)
        simp only [Act.put, List.setIfInBounds_toArray, List.set_cons_succ, List.set_cons_zero]
        with_reducible refine wpList_want (v := (.bool true)) (w' := w3) ?_ ?_ ?_
        (· kernel_rfl)
        (· go_simp)
        simp only [Act.put, List.setIfInBounds_toArray, List.set_cons_succ, List.set_cons_zero]
        with_reducible refine wpList_want (v := (.pointer (some ⟨B, 4, none⟩))) (w' := w3) ?_ ?_ ?_
        (· kernel_rfl)
        (· go_simp)
        simp only [Act.put, List.setIfInBounds_toArray, List.set_cons_succ, List.set_cons_zero]
        with_reducible refine wpList_want (v := (.bool true)) (w' := w3) ?_ ?_ ?_
        (· kernel_rfl)
        (· exact exec_loadQ (.tmp 21) _ _ rfl rfl C4.out)
        simp only [Act.put, List.setIfInBounds_toArray, List.set_cons_succ, List.set_cons_zero]
        with_reducible refine wpList_want (v := (.bool true)) (w' := w3) ?_ ?_ ?_
        (· kernel_rfl)
        (· go_simp)
        simp only [Act.put, List.setIfInBounds_toArray, List.set_cons_succ, List.set_cons_zero]
        with_reducible refine wpList_skipQ _ rfl ?_ ?_
        (· kernel_rfl)
        simp only [Act.put, List.setIfInBounds_toArray, List.set_cons_succ, List.set_cons_zero]
        with_reducible refine wpList_skipQ _ rfl ?_ ?_
        (· kernel_rfl)
        simp only [Act.put, List.setIfInBounds_toArray, List.set_cons_succ, List.set_cons_zero]
        with_reducible refine wpList_skipQ _ rfl ?_ ?_
        (· kernel_rfl)
        simp only [Act.put, List.setIfInBounds_toArray, List.set_cons_succ, List.set_cons_zero]
        with_reducible refine wpList_skipQ _ rfl ?_ ?_
        (· kernel_rfl)
        simp only [Act.put, List.setIfInBounds_toArray, List.set_cons_succ, List.set_cons_zero]
        with_reducible refine wpList_want (v := (.bool true)) (w' := w3) ?_ ?_ ?_
        (· kernel_rfl)
        (· go_simp)
        simp only [Act.put, List.setIfInBounds_toArray, List.set_cons_succ, List.set_cons_zero]
        with_reducible refine wpList_want (v := (.bool true)) (w' := w3) ?_ ?_ ?_
        (· kernel_rfl)
        (· go_simp)
        simp only [Act.put, List.setIfInBounds_toArray, List.set_cons_succ, List.set_cons_zero]
        with_reducible refine wpList_want (v := (.bool true)) (w' := w3) ?_ ?_ ?_
        (· kernel_rfl)
        (· go_simp)
        simp only [Act.put, List.setIfInBounds_toArray, List.set_cons_succ, List.set_cons_zero]
        with_reducible refine wpList_want (v := (.pointer (some ⟨B, 5, none⟩))) (w' := w3) ?_ ?_ ?_
        (· kernel_rfl)
        (· go_simp)
        simp only [Act.put, List.setIfInBounds_toArray, List.set_cons_succ, List.set_cons_zero]
        with_reducible refine wpList_want (v := (.pointer (some ⟨B, 69, none⟩))) (w' := w3) ?_ ?_ ?_
        (· kernel_rfl)
        (· go_simp)
        simp only [Act.put, List.setIfInBounds_toArray, List.set_cons_succ, List.set_cons_zero]
        with_reducible refine wpList_want (v := (.bool true)) (w' := w3) ?_ ?_ ?_
        (· kernel_rfl)
        (· exact exec_loadQ (.tmp 32) _ _ rfl rfl C69.out)
        simp only [Act.put, List.setIfInBounds_toArray, List.set_cons_succ, List.set_cons_zero]
        with_reducible refine wpList_want (v := (.bool true)) (w' := w3) ?_ ?_ ?_
        (· kernel_rfl)
        (· go_simp)
        simp only [Act.put, List.setIfInBounds_toArray, List.set_cons_succ, List.set_cons_zero]
        with_reducible refine wpList_skipQ _ rfl ?_ ?_
        (· kernel_rfl)
        simp only [Act.put, List.setIfInBounds_toArray, List.set_cons_succ, List.set_cons_zero]
        with_reducible refine wpList_skipQ _ rfl ?_ ?_
        (· kernel_rfl)
        simp only [Act.put, List.setIfInBounds_toArray, List.set_cons_succ, List.set_cons_zero]
        with_reducible refine wpList_skipQ _ rfl ?_ ?_
        (· kernel_rfl)
        simp only [Act.put, List.setIfInBounds_toArray, List.set_cons_succ, List.set_cons_zero]
        with_reducible refine wpList_skipQ _ rfl ?_ ?_
        (· kernel_rfl)
        simp only [Act.put, List.setIfInBounds_toArray, List.set_cons_succ, List.set_cons_zero]
        with_reducible refine wpList_want (v := (.bool true)) (w' := w3) ?_ ?_ ?_
        (· kernel_rfl)
        (· go_simp)
        simp only [Act.put, List.setIfInBounds_toArray, List.set_cons_succ, List.set_cons_zero]
        with_reducible refine wpList_want (v := (.bool true)) (w' := w3) ?_ ?_ ?_
        (· kernel_rfl)
        (· go_simp)
        simp only [Act.put, List.setIfInBounds_toArray, List.set_cons_succ, List.set_cons_zero]
        with_reducible refine wpList_want (v := (.bool true)) (w' := w3) ?_ ?_ ?_
        (· kernel_rfl)
        (· go_simp)
        simp only [Act.put, List.setIfInBounds_toArray, List.set_cons_succ, List.set_cons_zero]
        with_reducible refine wpList_want (v := (.pointer (some ⟨B, 105, none⟩))) (w' := w3) ?_ ?_ ?_
        (· kernel_rfl)
        (· go_simp)
        simp only [Act.put, List.setIfInBounds_toArray, List.set_cons_succ, List.set_cons_zero]
        with_reducible refine wpList_want (v := (.slice x.ad x.nb x.cb)) (w' := w3) ?_ ?_ ?_
        (· kernel_rfl)
        (· exact exec_loadQ (.tmp 42) _ _ rfl rfl C105.out)
        simp only [Act.put, List.setIfInBounds_toArray, List.set_cons_succ, List.set_cons_zero]
        with_reducible refine wpList_want (v := (.int .i64 x.nb)) (w' := w3) ?_ ?_ ?_
        (· kernel_rfl)
        (· go_simp)
        simp only [Act.put, List.setIfInBounds_toArray, List.set_cons_succ, List.set_cons_zero]
        with_reducible refine wpList_want (v := (.bool true)) (w' := w3) ?_ ?_ ?_
        (· kernel_rfl)
        (· go_simp)
        simp only [Act.put, List.setIfInBounds_toArray, List.set_cons_succ, List.set_cons_zero]
        with_reducible refine wpList_want (v := (.bool true)) (w' := w3) ?_ ?_ ?_
        (· kernel_rfl)
        (· go_simp)
        simp only [Act.put, List.setIfInBounds_toArray, List.set_cons_succ, List.set_cons_zero]
        with_reducible refine wpList_want (v := (.bool true)) (w' := w3) ?_ ?_ ?_
        (· kernel_rfl)
        (· go_simp)
        simp only [Act.put, List.setIfInBounds_toArray, List.set_cons_succ, List.set_cons_zero]
        go_wp2_with fail
        go_ret
        exact ⟨by rw [HP3.out]; rfl, HE.out⟩
      · have HP3 : Hid (envMay x = false) := Lib.hid (by rw [HP2.out _ _ rfl (decide_eq_false h2)]; cases decide (od = 0) <;> rfl)
        have j2 : ¬ (x.nb : Int) ≤ 4096 := by omega
        clear h2
        go_wp2_with (first | ((with_reducible refine wpList_here ?_); refine wpList_ld (p := .pointer (some ⟨B, 0, none⟩)) 14 ?_ ?_ ?_ HL3.out ?_; (· rfl); go_simp; (· kernel_rfl)) | ((with_reducible refine wpList_here ?_); refine wpList_ld (p := .pointer (some ⟨B, 2, none⟩)) 16 ?_ ?_ ?_ HL4.out ?_; (· rfl); go_simp; (· kernel_rfl)) | ((with_reducible refine wpList_here ?_); refine wpList_ne 15 17 ?_ ?_ ?_ ?_ ?_ HNE.out ?_; (· rfl); go_simp; (· kernel_rfl); (· kernel_rfl); (· kernel_rfl); simp only [Act.put, List.setIfInBounds_toArray, List.set_cons_succ, List.set_cons_zero]; refine Stop.at ?_))
        refine ⟨?_⟩
        with_reducible refine wpList_want (v := (.bool true)) (w' := w3) ?_ ?_ ?_
        (· kernel_rfl)
        (· go_simp)
        simp only [Act.put, List.setIfInBounds_toArray, List.set_cons_succ, List.set_cons_zero]
        with_reducible refine wpList_want (v := (.bool true)) (w' := w3) ?_ ?_ ?_
        (· kernel_rfl)
        (· go_simp)
        simp only [Act.put, List.setIfInBounds_toArray, List.set_cons_succ, List.set_cons_zero]
        with_reducible refine wpList_want (v := (.pointer (some ⟨B, 4, none⟩))) (w' := w3) ?_ ?_ ?_
        (· kernel_rfl)
        (· go_simp)
        simp only [Act.put, List.setIfInBounds_toArray, List.set_cons_succ, List.set_cons_zero]
        with_reducible refine wpList_want (v := (.bool true)) (w' := w3) ?_ ?_ ?_
        (· kernel_rfl)
        (· exact exec_loadQ (.tmp 21) _ _ rfl rfl C4.out)
        simp only [Act.put, List.setIfInBounds_toArray, List.set_cons_succ, List.set_cons_zero]
        with_reducible refine wpList_want (v := (.bool true)) (w' := w3) ?_ ?_ ?_
        (· kernel_rfl)
        (· go_simp)
        simp only [Act.put, List.setIfInBounds_toArray, List.set_cons_succ, List.set_cons_zero]
        with_reducible refine wpList_skipQ _ rfl ?_ ?_
        (· kernel_rfl)
        simp only [Act.put, List.setIfInBounds_toArray, List.set_cons_succ, List.set_cons_zero]
        with_reducible refine wpList_skipQ _ rfl ?_ ?_
        (· kernel_rfl)
        simp only [Act.put, List.setIfInBounds_toArray, List.set_cons_succ, List.set_cons_zero]
        with_reducible refine wpList_skipQ _ rfl ?_ ?_
        (· kernel_rfl)
        simp only [Act.put, List.setIfInBounds_toArray, List.set_cons_succ, List.set_cons_zero]
        with_reducible refine wpList_skipQ _ rfl ?_ ?_
        (· kernel_rfl)
        simp only [Act.put, List.setIfInBounds_toArray, List.set_cons_succ, List.set_cons_zero]
        with_reducible refine wpList_want (v := (.bool true)) (w' := w3) ?_ ?_ ?_
        (· kernel_rfl)
        (· go_simp)
        simp only [Act.put, List.setIfInBounds_toArray, List.set_cons_succ, List.set_cons_zero]
        with_reducible refine wpList_want (v := (.bool true)) (w' := w3) ?_ ?_ ?_
        (· kernel_rfl)
        (· go_simp)
        simp only [Act.put, List.setIfInBounds_toArray, List.set_cons_succ, List.set_cons_zero]
        with_reducible refine wpList_want (v := (.bool true)) (w' := w3) ?_ ?_ ?_
        (· kernel_rfl)
        (· go_simp)
        simp only [Act.put, List.setIfInBounds_toArray, List.set_cons_succ, List.set_cons_zero]
        with_reducible refine wpList_want (v := (.pointer (some ⟨B, 5, none⟩))) (w' := w3) ?_ ?_ ?_
        (· kernel_rfl)
        (· go_simp)
        simp only [Act.put, List.setIfInBounds_toArray, List.set_cons_succ, List.set_cons_zero]
        with_reducible refine wpList_want (v := (.pointer (some ⟨B, 69, none⟩))) (w' := w3) ?_ ?_ ?_
        (· kernel_rfl)
        (· go_simp)
        simp only [Act.put, List.setIfInBounds_toArray, List.set_cons_succ, List.set_cons_zero]
        with_reducible refine wpList_want (v := (.bool true)) (w' := w3) ?_ ?_ ?_
        (· kernel_rfl)
        (· exact exec_loadQ (.tmp 32) _ _ rfl rfl C69.out)
        simp only [Act.put, List.setIfInBounds_toArray, List.set_cons_succ, List.set_cons_zero]
        with_reducible refine wpList_want (v := (.bool true)) (w' := w3) ?_ ?_ ?_
        (· kernel_rfl)
        (· go_simp)
        simp only [Act.put, List.setIfInBounds_toArray, List.set_cons_succ, List.set_cons_zero]
        with_reducible refine wpList_skipQ _ rfl ?_ ?_
        (· kernel_rfl)
        simp only [Act.put, List.setIfInBounds_toArray, List.set_cons_succ, List.set_cons_zero]
        with_reducible refine wpList_skipQ _ rfl ?_ ?_
        (· kernel_rfl)
        simp only [Act.put, List.setIfInBounds_toArray, List.set_cons_succ, List.set_cons_zero]
        with_reducible refine wpList_skipQ _ rfl ?_ ?_
        (· kernel_rfl)
        simp only [Act.put, List.setIfInBounds_toArray, List.set_cons_succ, List.set_cons_zero]
        with_reducible refine wpList_skipQ _ rfl ?_ ?_
        (· kernel_rfl)
        simp only [Act.put, List.setIfInBounds_toArray, List.set_cons_succ, List.set_cons_zero]
        with_reducible refine wpList_want (v := (.bool true)) (w' := w3) ?_ ?_ ?_
        (· kernel_rfl)
        (· go_simp)
        simp only [Act.put, List.setIfInBounds_toArray, List.set_cons_succ, List.set_cons_zero]
        with_reducible refine wpList_want (v := (.bool true)) (w' := w3) ?_ ?_ ?_
        (· kernel_rfl)
        (· go_simp)
        simp only [Act.put, List.setIfInBounds_toArray, List.set_cons_succ, List.set_cons_zero]
        with_reducible refine wpList_want (v := (.bool true)) (w' := w3) ?_ ?_ ?_
        (· kernel_rfl)
        (· go_simp)
        simp only [Act.put, List.setIfInBounds_toArray, List.set_cons_succ, List.set_cons_zero]
        with_reducible refine wpList_want (v := (.pointer (some ⟨B, 105, none⟩))) (w' := w3) ?_ ?_ ?_
        (· kernel_rfl)
        (· go_simp)
        simp only [Act.put, List.setIfInBounds_toArray, List.set_cons_succ, List.set_cons_zero]
        with_reducible refine wpList_want (v := (.slice x.ad x.nb x.cb)) (w' := w3) ?_ ?_ ?_
        (· kernel_rfl)
        (· exact exec_loadQ (.tmp 42) _ _ rfl rfl C105.out)
        simp only [Act.put, List.setIfInBounds_toArray, List.set_cons_succ, List.set_cons_zero]
        with_reducible refine wpList_want (v := (.int .i64 x.nb)) (w' := w3) ?_ ?_ ?_
        (· kernel_rfl)
        (· go_simp)
        simp only [Act.put, List.setIfInBounds_toArray, List.set_cons_succ, List.set_cons_zero]
        with_reducible refine wpList_want (v := (.bool false)) (w' := w3) ?_ ?_ ?_
        (· kernel_rfl)
        (· go_simp)
        simp only [Act.put, List.setIfInBounds_toArray, List.set_cons_succ, List.set_cons_zero]
        with_reducible refine wpList_want (v := (.bool false)) (w' := w3) ?_ ?_ ?_
        (· kernel_rfl)
        (· go_simp)
        simp only [Act.put, List.setIfInBounds_toArray, List.set_cons_succ, List.set_cons_zero]
        with_reducible refine wpList_want (v := (.bool false)) (w' := w3) ?_ ?_ ?_
        (· kernel_rfl)
        (· go_simp)
        simp only [Act.put, List.setIfInBounds_toArray, List.set_cons_succ, List.set_cons_zero]
        go_wp2_with fail
        go_ret
        exact ⟨by rw [HP3.out]; rfl, HE.out⟩
    | false =>
      by_cases h1 : od = 0
      · by_cases h2 : x.nb ≤ 4096
        · have HP3 : Hid (envMay x = true) := Lib.hid (by rw [HP2.out _ _ (decide_eq_true h1) (decide_eq_true h2)]; rfl)
          have j2 : (x.nb : Int) ≤ 4096 := by omega
          clear h2
          subst h1
          go_wp2_with (first | ((with_reducible refine wpList_here ?_); refine wpList_ld (p := .pointer (some ⟨B, 0, none⟩)) 14 ?_ ?_ ?_ HL3.out ?_; (· rfl); go_simp; (· kernel_rfl)) | ((with_reducible refine wpList_here ?_); refine wpList_ld (p := .pointer (some ⟨B, 2, none⟩)) 16 ?_ ?_ ?_ HL4.out ?_; (· rfl); go_simp; (· kernel_rfl)) | ((with_reducible refine wpList_here ?_); refine wpList_ne 15 17 ?_ ?_ ?_ ?_ ?_ HNE.out ?_; (· rfl); go_simp; (· kernel_rfl); (· kernel_rfl); (· kernel_rfl); simp only [Act.put, List.setIfInBounds_toArray, List.set_cons_succ, List.set_cons_zero]; refine Stop.at ?_))
          refine ⟨?_⟩
          with_reducible refine wpList_want (v := (.bool true)) (w' := w3) ?_ ?_ ?_
          (· kernel_rfl)
          (· go_simp)
          simp only [Act.put, List.setIfInBounds_toArray, List.set_cons_succ, List.set_cons_zero]
          with_reducible refine wpList_want (v := (.bool true)) (w' := w3) ?_ ?_ ?_
          (· kernel_rfl)
          (· go_simp)
          simp only [Act.put, List.setIfInBounds_toArray, List.set_cons_succ, List.set_cons_zero]
          with_reducible refine wpList_want (v := (.pointer (some ⟨B, 4, none⟩))) (w' := w3) ?_ ?_ ?_
          (· kernel_rfl)
          (· go_simp)
          simp only [Act.put, List.setIfInBounds_toArray, List.set_cons_succ, List.set_cons_zero]
          with_reducible refine wpList_want (v := (.bool true)) (w' := w3) ?_ ?_ ?_
          (· kernel_rfl)
          (· exact exec_loadQ (.tmp 21) _ _ rfl rfl C4.out)
          simp only [Act.put, List.setIfInBounds_toArray, List.set_cons_succ, List.set_cons_zero]
          with_reducible refine wpList_want (v := (.bool true)) (w' := w3) ?_ ?_ ?_
          (· kernel_rfl)
          (· go_simp)
          simp only [Act.put, List.setIfInBounds_toArray, List.set_cons_succ, List.set_cons_zero]
          with_reducible refine wpList_skipQ _ rfl ?_ ?_
          (· kernel_rfl)
          simp only [Act.put, List.setIfInBounds_toArray, List.set_cons_succ, List.set_cons_zero]
          with_reducible refine wpList_skipQ _ rfl ?_ ?_
          (· kernel_rfl)
          simp only [Act.put, List.setIfInBounds_toArray, List.set_cons_succ, List.set_cons_zero]
          with_reducible refine wpList_skipQ _ rfl ?_ ?_
          (· kernel_rfl)
          simp only [Act.put, List.setIfInBounds_toArray, List.set_cons_succ, List.set_cons_zero]
          with_reducible refine wpList_skipQ _ rfl ?_ ?_
          (· kernel_rfl)
          simp only [Act.put, List.setIfInBounds_toArray, List.set_cons_succ, List.set_cons_zero]
          with_reducible refine wpList_want (v := (.bool true)) (w' := w3) ?_ ?_ ?_
          (· kernel_rfl)
          (· go_simp)
          simp only [Act.put, List.setIfInBounds_toArray, List.set_cons_succ, List.set_cons_zero]
          with_reducible refine wpList_want (v := (.bool true)) (w' := w3) ?_ ?_ ?_
          (· kernel_rfl)
          (· go_simp)
          simp only [Act.put, List.setIfInBounds_toArray, List.set_cons_succ, List.set_cons_zero]
          with_reducible refine wpList_want (v := (.bool true)) (w' := w3) ?_ ?_ ?_
          (· kernel_rfl)
          (· go_simp)
          simp only [Act.put, List.setIfInBounds_toArray, List.set_cons_succ, List.set_cons_zero]
          with_reducible refine wpList_want (v := (.pointer (some ⟨B, 5, none⟩))) (w' := w3) ?_ ?_ ?_
          (· kernel_rfl)
          (· go_simp)
          simp only [Act.put, List.setIfInBounds_toArray, List.set_cons_succ, List.set_cons_zero]
          with_reducible refine wpList_want (v := (.pointer (some ⟨B, 69, none⟩))) (w' := w3) ?_ ?_ ?_
          (· kernel_rfl)
          (· go_simp)
          simp only [Act.put, List.setIfInBounds_toArray, List.set_cons_succ, List.set_cons_zero]
          with_reducible refine wpList_want (v := (.bool false)) (w' := w3) ?_ ?_ ?_
          (· kernel_rfl)
          (· exact exec_loadQ (.tmp 32) _ _ rfl rfl C69.out)
          simp only [Act.put, List.setIfInBounds_toArray, List.set_cons_succ, List.set_cons_zero]
          with_reducible refine wpList_want (v := (.bool false)) (w' := w3) ?_ ?_ ?_
          (· kernel_rfl)
          (· go_simp)
          simp only [Act.put, List.setIfInBounds_toArray, List.set_cons_succ, List.set_cons_zero]
          with_reducible refine wpList_want (v := (.pointer (some ⟨B, 5, none⟩))) (w' := w3) ?_ ?_ ?_
          (· kernel_rfl)
          (· go_simp)
          simp only [Act.put, List.setIfInBounds_toArray, List.set_cons_succ, List.set_cons_zero]
          with_reducible refine wpList_want (v := (.pointer (some ⟨B, 70, none⟩))) (w' := w3) ?_ ?_ ?_
          (· kernel_rfl)
          (· go_simp)
          simp only [Act.put, List.setIfInBounds_toArray, List.set_cons_succ, List.set_cons_zero]
          with_reducible refine wpList_want (v := (.int .u32 ((0 : Nat) : Int))) (w' := w3) ?_ ?_ ?_
          (· kernel_rfl)
          (· exact exec_loadQ (.tmp 36) _ _ rfl rfl C70.out)
          simp only [Act.put, List.setIfInBounds_toArray, List.set_cons_succ, List.set_cons_zero]
          with_reducible refine wpList_want (v := (.bool true)) (w' := w3) ?_ ?_ ?_
          (· kernel_rfl)
          (· go_simp)
          simp only [Act.put, List.setIfInBounds_toArray, List.set_cons_succ, List.set_cons_zero]
          with_reducible refine wpList_want (v := (.bool true)) (w' := w3) ?_ ?_ ?_
          (· kernel_rfl)
          (· go_simp)
          simp only [Act.put, List.setIfInBounds_toArray, List.set_cons_succ, List.set_cons_zero]
          with_reducible refine wpList_want (v := (.bool true)) (w' := w3) ?_ ?_ ?_
          (· kernel_rfl)
          (· go_simp)
          simp only [Act.put, List.setIfInBounds_toArray, List.set_cons_succ, List.set_cons_zero]
          with_reducible refine wpList_want (v := (.bool true)) (w' := w3) ?_ ?_ ?_
          (· kernel_rfl)
          (· go_simp)
          simp only [Act.put, List.setIfInBounds_toArray, List.set_cons_succ, List.set_cons_zero]
          with_reducible refine wpList_want (v := (.pointer (some ⟨B, 105, none⟩))) (w' := w3) ?_ ?_ ?_
          (· kernel_rfl)
          (· go_simp)
          simp only [Act.put, List.setIfInBounds_toArray, List.set_cons_succ, List.set_cons_zero]
          with_reducible refine wpList_want (v := (.slice x.ad x.nb x.cb)) (w' := w3) ?_ ?_ ?_
          (· kernel_rfl)
          (· exact exec_loadQ (.tmp 42) _ _ rfl rfl C105.out)
          simp only [Act.put, List.setIfInBounds_toArray, List.set_cons_succ, List.set_cons_zero]
          with_reducible refine wpList_want (v := (.int .i64 x.nb)) (w' := w3) ?_ ?_ ?_
          (· kernel_rfl)
          (· go_simp)
          simp only [Act.put, List.setIfInBounds_toArray, List.set_cons_succ, List.set_cons_zero]
          with_reducible refine wpList_want (v := (.bool true)) (w' := w3) ?_ ?_ ?_
          (· kernel_rfl)
          (· go_simp)
          simp only [Act.put, List.setIfInBounds_toArray, List.set_cons_succ, List.set_cons_zero]
          with_reducible refine wpList_want (v := (.bool true)) (w' := w3) ?_ ?_ ?_
          (· kernel_rfl)
          (· go_simp)
          simp only [Act.put, List.setIfInBounds_toArray, List.set_cons_succ, List.set_cons_zero]
          with_reducible refine wpList_want (v := (.bool true)) (w' := w3) ?_ ?_ ?_
          (· kernel_rfl)
          (· go_simp)
          simp only [Act.put, List.setIfInBounds_toArray, List.set_cons_succ, List.set_cons_zero]
          go_wp2_with fail
          go_ret
          exact ⟨by rw [HP3.out]; rfl, HE.out⟩
        · have HP3 : Hid (envMay x = false) := Lib.hid (by rw [HP2.out _ _ (decide_eq_true h1) (decide_eq_false h2)]; rfl)
          have j2 : ¬ (x.nb : Int) ≤ 4096 := by omega
          clear h2
          subst h1
          go_wp2_with (first | ((with_reducible refine wpList_here ?_); refine wpList_ld (p := .pointer (some ⟨B, 0, none⟩)) 14 ?_ ?_ ?_ HL3.out ?_; (· rfl); go_simp; (· kernel_rfl)) | ((with_reducible refine wpList_here ?_); refine wpList_ld (p := .pointer (some ⟨B, 2, none⟩)) 16 ?_ ?_ ?_ HL4.out ?_; (· rfl); go_simp; (· kernel_rfl)) | ((with_reducible refine wpList_here ?_); refine wpList_ne 15 17 ?_ ?_ ?_ ?_ ?_ HNE.out ?_; (· rfl); go_simp; (· kernel_rfl); (· kernel_rfl); (· kernel_rfl); simp only [Act.put, List.setIfInBounds_toArray, List.set_cons_succ, List.set_cons_zero]; refine Stop.at ?_))
          refine ⟨?_⟩
          with_reducible refine wpList_want (v := (.bool true)) (w' := w3) ?_ ?_ ?_
          (· kernel_rfl)
          (· go_simp)
          simp only [Act.put, List.setIfInBounds_toArray, List.set_cons_succ, List.set_cons_zero]
          with_reducible refine wpList_want (v := (.bool true)) (w' := w3) ?_ ?_ ?_
          (· kernel_rfl)
          (· go_simp)
          simp only [Act.put, List.setIfInBounds_toArray, List.set_cons_succ, List.set_cons_zero]
          with_reducible refine wpList_want (v := (.pointer (some ⟨B, 4, none⟩))) (w' := w3) ?_ ?_ ?_
          (· kernel_rfl)
          (· go_simp)
          simp only [Act.put, List.setIfInBounds_toArray, List.set_cons_succ, List.set_cons_zero]
          with_reducible refine wpList_want (v := (.bool true)) (w' := w3) ?_ ?_ ?_
          (· kernel_rfl)
          (· exact exec_loadQ (.tmp 21) _ _ rfl rfl C4.out)
          simp only [Act.put, List.setIfInBounds_toArray, List.set_cons_succ, List.set_cons_zero]
          with_reducible refine wpList_want (v := (.bool true)) (w' := w3) ?_ ?_ ?_
          (· kernel_rfl)
          (· go_simp)
          simp only [Act.put, List.setIfInBounds_toArray, List.set_cons_succ, List.set_cons_zero]
          with_reducible refine wpList_skipQ _ rfl ?_ ?_
          (· kernel_rfl)
          simp only [Act.put, List.setIfInBounds_toArray, List.set_cons_succ, List.set_cons_zero]
          with_reducible refine wpList_skipQ _ rfl ?_ ?_
          (· kernel_rfl)
          simp only [Act.put, List.setIfInBounds_toArray, List.set_cons_succ, List.set_cons_zero]
          with_reducible refine wpList_skipQ _ rfl ?_ ?_
          (· kernel_rfl)
          simp only [Act.put, List.setIfInBounds_toArray, List.set_cons_succ, List.set_cons_zero]
          with_reducible refine wpList_skipQ _ rfl ?_ ?_
          (· kernel_rfl)
          simp only [Act.put, List.setIfInBounds_toArray, List.set_cons_succ, List.set_cons_zero]
          with_reducible refine wpList_want (v := (.bool true)) (w' := w3) ?_ ?_ ?_
          (· kernel_rfl)
          (· go_simp)
          simp only [Act.put, List.setIfInBounds_toArray, List.set_cons_succ, List.set_cons_zero]
          with_reducible refine wpList_want (v := (.bool true)) (w' := w3) ?_ ?_ ?_
          (· kernel_rfl)
          (· go_simp)
          simp only [Act.put, List.setIfInBounds_toArray, List.set_cons_succ, List.set_cons_zero]
          with_reducible refine wpList_want (v := (.bool true)) (w' := w3) ?_ ?_ ?_
          (· kernel_rfl)
          (· go_simp)
          simp only [Act.put, List.setIfInBounds_toArray, List.set_cons_succ, List.set_cons_zero]
          with_reducible refine wpList_want (v := (.pointer (some ⟨B, 5, none⟩))) (w' := w3) ?_ ?_ ?_
          (· kernel_rfl)
          (· go_simp)
          simp only [Act.put, List.setIfInBounds_toArray, List.set_cons_succ, List.set_cons_zero]
          with_reducible refine wpList_want (v := (.pointer (some ⟨B, 69, none⟩))) (w' := w3) ?_ ?_ ?_
          (· kernel_rfl)
          (· go_simp)
          simp only [Act.put, List.setIfInBounds_toArray, List.set_cons_succ, List.set_cons_zero]
          with_reducible refine wpList_want (v := (.bool false)) (w' := w3) ?_ ?_ ?_
          (· kernel_rfl)
          (· exact exec_loadQ (.tmp 32) _ _ rfl rfl C69.out)
          simp only [Act.put, List.setIfInBounds_toArray, List.set_cons_succ, List.set_cons_zero]
          with_reducible refine wpList_want (v := (.bool false)) (w' := w3) ?_ ?_ ?_
          (· kernel_rfl)
          (· go_simp)
          simp only [Act.put, List.setIfInBounds_toArray, List.set_cons_succ, List.set_cons_zero]
          with_reducible refine wpList_want (v := (.pointer (some ⟨B, 5, none⟩))) (w' := w3) ?_ ?_ ?_
          (· kernel_rfl)
          (· go_simp)
          simp only [Act.put, List.setIfInBounds_toArray, List.set_cons_succ, List.set_cons_zero]
          with_reducible refine wpList_want (v := (.pointer (some ⟨B, 70, none⟩))) (w' := w3) ?_ ?_ ?_
          (· kernel_rfl)
          (· go_simp)
          simp only [Act.put, List.setIfInBounds_toArray, List.set_cons_succ, List.set_cons_zero]
          with_reducible refine wpList_want (v := (.int .u32 ((0 : Nat) : Int))) (w' := w3) ?_ ?_ ?_
          (· kernel_rfl)
          (· exact exec_loadQ (.tmp 36) _ _ rfl rfl C70.out)
          simp only [Act.put, List.setIfInBounds_toArray, List.set_cons_succ, List.set_cons_zero]
          with_reducible refine wpList_want (v := (.bool true)) (w' := w3) ?_ ?_ ?_
          (· kernel_rfl)
          (· go_simp)
          simp only [Act.put, List.setIfInBounds_toArray, List.set_cons_succ, List.set_cons_zero]
          with_reducible refine wpList_want (v := (.bool true)) (w' := w3) ?_ ?_ ?_
          (· kernel_rfl)
          (· go_simp)
          simp only [Act.put, List.setIfInBounds_toArray, List.set_cons_succ, List.set_cons_zero]
          with_reducible refine wpList_want (v := (.bool true)) (w' := w3) ?_ ?_ ?_
          (· kernel_rfl)
          (· go_simp)
          simp only [Act.put, List.setIfInBounds_toArray, List.set_cons_succ, List.set_cons_zero]
          with_reducible refine wpList_want (v := (.bool true)) (w' := w3) ?_ ?_ ?_
          (· kernel_rfl)
          (· go_simp)
          simp only [Act.put, List.setIfInBounds_toArray, List.set_cons_succ, List.set_cons_zero]
          with_reducible refine wpList_want (v := (.pointer (some ⟨B, 105, none⟩))) (w' := w3) ?_ ?_ ?_
          (· kernel_rfl)
          (· go_simp)
          simp only [Act.put, List.setIfInBounds_toArray, List.set_cons_succ, List.set_cons_zero]
          with_reducible refine wpList_want (v := (.slice x.ad x.nb x.cb)) (w' := w3) ?_ ?_ ?_
          (· kernel_rfl)
          (· exact exec_loadQ (.tmp 42) _ _ rfl rfl C105.out)
          simp only [Act.put, List.setIfInBounds_toArray, List.set_cons_succ, List.set_cons_zero]
          with_reducible refine wpList_want (v := (.int .i64 x.nb)) (w' := w3) ?_ ?_ ?_
          (· kernel_rfl)
          (· go_simp)
          simp only [Act.put, List.setIfInBounds_toArray, List.set_cons_succ, List.set_cons_zero]
          with_reducible refine wpList_want (v := (.bool false)) (w' := w3) ?_ ?_ ?_
          (· kernel_rfl)
          (· go_simp)
          simp only [Act.put, List.setIfInBounds_toArray, List.set_cons_succ, List.set_cons_zero]
          with_reducible refine wpList_want (v := (.bool false)) (w' := w3) ?_ ?_ ?_
          (· kernel_rfl)
          (· go_simp)
          simp only [Act.put, List.setIfInBounds_toArray, List.set_cons_succ, List.set_cons_zero]
          with_reducible refine wpList_want (v := (.bool false)) (w' := w3) ?_ ?_ ?_
          (· kernel_rfl)
          (· go_simp)
          simp only [Act.put, List.setIfInBounds_toArray, List.set_cons_succ, List.set_cons_zero]
          go_wp2_with fail
          go_ret
          exact ⟨by rw [HP3.out]; rfl, HE.out⟩
      · have HP3 : Hid (envMay x = false) := Lib.hid (by rw [HP2.out _ _ (decide_eq_false h1) rfl]; rfl)
        have j1 : ¬ (od : Int) = 0 := by omega
        clear h1
        go_wp2_with (first | ((with_reducible refine wpList_here ?_); refine wpList_ld (p := .pointer (some ⟨B, 0, none⟩)) 14 ?_ ?_ ?_ HL3.out ?_; (· rfl); go_simp; (· kernel_rfl)) | ((with_reducible refine wpList_here ?_); refine wpList_ld (p := .pointer (some ⟨B, 2, none⟩)) 16 ?_ ?_ ?_ HL4.out ?_; (· rfl); go_simp; (· kernel_rfl)) | ((with_reducible refine wpList_here ?_); refine wpList_ne 15 17 ?_ ?_ ?_ ?_ ?_ HNE.out ?_; (· rfl); go_simp; (· kernel_rfl); (· kernel_rfl); (· kernel_rfl); simp only [Act.put, List.setIfInBounds_toArray, List.set_cons_succ, List.set_cons_zero]; refine Stop.at ?_))
        refine ⟨?_⟩
        with_reducible refine wpList_want (v := (.bool true)) (w' := w3) ?_ ?_ ?_
        (· kernel_rfl)
        (· go_simp)
        simp only [Act.put, List.setIfInBounds_toArray, List.set_cons_succ, List.set_cons_zero]
        with_reducible refine wpList_want (v := (.bool true)) (w' := w3) ?_ ?_ ?_
        (· kernel_rfl)
        (· go_simp)
        simp only [Act.put, List.setIfInBounds_toArray, List.set_cons_succ, List.set_cons_zero]
        with_reducible refine wpList_want (v := (.pointer (some ⟨B, 4, none⟩))) (w' := w3) ?_ ?_ ?_
        (· kernel_rfl)
        (· go_simp)
        simp only [Act.put, List.setIfInBounds_toArray, List.set_cons_succ, List.set_cons_zero]
        with_reducible refine wpList_want (v := (.bool true)) (w' := w3) ?_ ?_ ?_
        (· kernel_rfl)
        (· exact exec_loadQ (.tmp 21) _ _ rfl rfl C4.out)
        simp only [Act.put, List.setIfInBounds_toArray, List.set_cons_succ, List.set_cons_zero]
        with_reducible refine wpList_want (v := (.bool true)) (w' := w3) ?_ ?_ ?_
        (· kernel_rfl)
        (· go_simp)
        simp only [Act.put, List.setIfInBounds_toArray, List.set_cons_succ, List.set_cons_zero]
        with_reducible refine wpList_skipQ _ rfl ?_ ?_
        (· kernel_rfl)
        simp only [Act.put, List.setIfInBounds_toArray, List.set_cons_succ, List.set_cons_zero]
        with_reducible refine wpList_skipQ _ rfl ?_ ?_
        (· kernel_rfl)
        simp only [Act.put, List.setIfInBounds_toArray, List.set_cons_succ, List.set_cons_zero]
        with_reducible refine wpList_skipQ _ rfl ?_ ?_
        (· kernel_rfl)
        simp only [Act.put, List.setIfInBounds_toArray, List.set_cons_succ, List.set_cons_zero]
        with_reducible refine wpList_skipQ _ rfl ?_ ?_
        (· kernel_rfl)
        simp only [Act.put, List.setIfInBounds_toArray, List.set_cons_succ, List.set_cons_zero]
        with_reducible refine wpList_want (v := (.bool true)) (w' := w3) ?_ ?_ ?_
        (· kernel_rfl)
        (· go_simp)
        simp only [Act.put, List.setIfInBounds_toArray, List.set_cons_succ, List.set_cons_zero]
        with_reducible refine wpList_want (v := (.bool true)) (w' := w3) ?_ ?_ ?_
        (· kernel_rfl)
        (· go_simp)
        simp only [Act.put, List.setIfInBounds_toArray, List.set_cons_succ, List.set_cons_zero]
        with_reducible refine wpList_want (v := (.bool true)) (w' := w3) ?_ ?_ ?_
        (· kernel_rfl)
        (· go_simp)
        simp only [Act.put, List.setIfInBounds_toArray, List.set_cons_succ, List.set_cons_zero]
        with_reducible refine wpList_want (v := (.pointer (some ⟨B, 5, none⟩))) (w' := w3) ?_ ?_ ?_
        (· kernel_rfl)
        (· go_simp)
        simp only [Act.put, List.setIfInBounds_toArray, List.set_cons_succ, List.set_cons_zero]
        with_reducible refine wpList_want (v := (.pointer (some ⟨B, 69, none⟩))) (w' := w3) ?_ ?_ ?_
        (· kernel_rfl)
        (· go_simp)
        simp only [Act.put, List.setIfInBounds_toArray, List.set_cons_succ, List.set_cons_zero]
        with_reducible refine wpList_want (v := (.bool false)) (w' := w3) ?_ ?_ ?_
        (· kernel_rfl)
        (· exact exec_loadQ (.tmp 32) _ _ rfl rfl C69.out)
        simp only [Act.put, List.setIfInBounds_toArray, List.set_cons_succ, List.set_cons_zero]
        with_reducible refine wpList_want (v := (.bool false)) (w' := w3) ?_ ?_ ?_
        (· kernel_rfl)
        (· go_simp)
        simp only [Act.put, List.setIfInBounds_toArray, List.set_cons_succ, List.set_cons_zero]
        with_reducible refine wpList_want (v := (.pointer (some ⟨B, 5, none⟩))) (w' := w3) ?_ ?_ ?_
        (· kernel_rfl)
        (· go_simp)
        simp only [Act.put, List.setIfInBounds_toArray, List.set_cons_succ, List.set_cons_zero]
        with_reducible refine wpList_want (v := (.pointer (some ⟨B, 70, none⟩))) (w' := w3) ?_ ?_ ?_
        (· kernel_rfl)
        (· go_simp)
        simp only [Act.put, List.setIfInBounds_toArray, List.set_cons_succ, List.set_cons_zero]
        with_reducible refine wpList_want (v := (.int .u32 od)) (w' := w3) ?_ ?_ ?_
        (· kernel_rfl)
        (· exact exec_loadQ (.tmp 36) _ _ rfl rfl C70.out)
        simp only [Act.put, List.setIfInBounds_toArray, List.set_cons_succ, List.set_cons_zero]
        with_reducible refine wpList_want (v := (.bool false)) (w' := w3) ?_ ?_ ?_
        (· kernel_rfl)
        (· (go_simp <;> omega))
        simp only [Act.put, List.setIfInBounds_toArray, List.set_cons_succ, List.set_cons_zero]
        with_reducible refine wpList_want (v := (.bool false)) (w' := w3) ?_ ?_ ?_
        (· kernel_rfl)
        (· go_simp)
        simp only [Act.put, List.setIfInBounds_toArray, List.set_cons_succ, List.set_cons_zero]
        with_reducible refine wpList_want (v := (.bool false)) (w' := w3) ?_ ?_ ?_
        (· kernel_rfl)
        (· go_simp)
        simp only [Act.put, List.setIfInBounds_toArray, List.set_cons_succ, List.set_cons_zero]
        with_reducible refine wpList_want (v := (.bool false)) (w' := w3) ?_ ?_ ?_
        (· kernel_rfl)
        (· go_simp)
        simp only [Act.put, List.setIfInBounds_toArray, List.set_cons_succ, List.set_cons_zero]
        with_reducible refine wpList_skipQ _ rfl ?_ ?_
        (· kernel_rfl)
        simp only [Act.put, List.setIfInBounds_toArray, List.set_cons_succ, List.set_cons_zero]
        with_reducible refine wpList_skipQ _ rfl ?_ ?_
        (· kernel_rfl)
        simp only [Act.put, List.setIfInBounds_toArray, List.set_cons_succ, List.set_cons_zero]
        with_reducible refine wpList_skipQ _ rfl ?_ ?_
        (· kernel_rfl)
        simp only [Act.put, List.setIfInBounds_toArray, List.set_cons_succ, List.set_cons_zero]
        with_reducible refine wpList_skipQ _ rfl ?_ ?_
        (· kernel_rfl)
        simp only [Act.put, List.setIfInBounds_toArray, List.set_cons_succ, List.set_cons_zero]
        with_reducible refine wpList_want (v := (.bool false)) (w' := w3) ?_ ?_ ?_
        (· kernel_rfl)
        (· go_simp)
        simp only [Act.put, List.setIfInBounds_toArray, List.set_cons_succ, List.set_cons_zero]
        with_reducible refine wpList_want (v := (.bool false)) (w' := w3) ?_ ?_ ?_
        (· kernel_rfl)
        (· go_simp)
        simp only [Act.put, List.setIfInBounds_toArray, List.set_cons_succ, List.set_cons_zero]
        go_wp2_with fail
        go_ret
        exact ⟨by rw [HP3.out]; rfl, HE.out⟩
  | false =>
    cases z with
    | true =>
      cases oc with
      | true =>
        by_cases h2 : x.nb ≤ 4096
        · have HP3 : Hid (envMay x = true) := Lib.hid (by rw [HP2.out _ _ rfl (decide_eq_true h2)]; cases decide (od = 0) <;> rfl)
          have j2 : (x.nb : Int) ≤ 4096 := by omega
          clear h2
          go_wp2_with (first | ((with_reducible refine wpList_here ?_); refine wpList_ld (p := .pointer (some ⟨B, 0, none⟩)) 14 ?_ ?_ ?_ HL3.out ?_; (· rfl); go_simp; (· kernel_rfl)) | ((with_reducible refine wpList_here ?_); refine wpList_ld (p := .pointer (some ⟨B, 2, none⟩)) 16 ?_ ?_ ?_ HL4.out ?_; (· rfl); go_simp; (· kernel_rfl)) | ((with_reducible refine wpList_here ?_); refine wpList_ne 15 17 ?_ ?_ ?_ ?_ ?_ HNE.out ?_; (· rfl); go_simp; (· kernel_rfl); (· kernel_rfl); (· kernel_rfl); simp only [Act.put, List.setIfInBounds_toArray, List.set_cons_succ, List.set_cons_zero]; refine Stop.at ?_))
          refine ⟨?_⟩
          with_reducible refine wpList_want (v := (.bool true)) (w' := w3) ?_ ?_ ?_
          (· kernel_rfl)
          (· go_simp)
          simp only [Act.put, List.setIfInBounds_toArray, List.set_cons_succ, List.set_cons_zero]
          with_reducible refine wpList_want (v := (.bool true)) (w' := w3) ?_ ?_ ?_
          (· kernel_rfl)
          (· go_simp)
          simp only [Act.put, List.setIfInBounds_toArray, List.set_cons_succ, List.set_cons_zero]
          with_reducible refine wpList_want (v := (.pointer (some ⟨B, 4, none⟩))) (w' := w3) ?_ ?_ ?_
          (· kernel_rfl)
          (· go_simp)
          simp only [Act.put, List.setIfInBounds_toArray, List.set_cons_succ, List.set_cons_zero]
          with_reducible refine wpList_want (v := (.bool false)) (w' := w3) ?_ ?_ ?_
          (· kernel_rfl)
          (· exact exec_loadQ (.tmp 21) _ _ rfl rfl C4.out)
          simp only [Act.put, List.setIfInBounds_toArray, List.set_cons_succ, List.set_cons_zero]
          with_reducible refine wpList_want (v := (.bool false)) (w' := w3) ?_ ?_ ?_
          (· kernel_rfl)
          (· go_simp)
          simp only [Act.put, List.setIfInBounds_toArray, List.set_cons_succ, List.set_cons_zero]
          with_reducible refine wpList_want (v := (.pointer (some ⟨B, 5, none⟩))) (w' := w3) ?_ ?_ ?_
          (· kernel_rfl)
          (· go_simp)
          simp only [Act.put, List.setIfInBounds_toArray, List.set_cons_succ, List.set_cons_zero]
          with_reducible refine wpList_want (v := (.agg (rowOf 66 x.st.v))) (w' := w3) ?_ ?_ ?_
          (· kernel_rfl)
          (· exact exec_loadQ (.tmp 24) _ _ rfl rfl HL5.out)
          simp only [Act.put, List.setIfInBounds_toArray, List.set_cons_succ, List.set_cons_zero]
          with_reducible refine wpList_want (v := (.agg (rowOf 66 SetV.zero.v))) (w' := w3) ?_ ?_ ?_
          (· kernel_rfl)
          (· exact exec_loadQ (.tmp 3) _ _ rfl rfl HL6.out)
          simp only [Act.put, List.setIfInBounds_toArray, List.set_cons_succ, List.set_cons_zero]
          with_reducible refine wpList_want (v := (.bool true)) (w' := w3) ?_ ?_ ?_
          (· kernel_rfl)
          (· exact exec_eqlQ (.tmp 25) (.tmp 26) _ _ rfl rfl rfl (by kernel_rfl) HEQ.out)
          simp only [Act.put, List.setIfInBounds_toArray, List.set_cons_succ, List.set_cons_zero]
          with_reducible refine wpList_want (v := (.bool true)) (w' := w3) ?_ ?_ ?_
          (· kernel_rfl)
          (· go_simp)
          simp only [Act.put, List.setIfInBounds_toArray, List.set_cons_succ, List.set_cons_zero]
          with_reducible refine wpList_want (v := (.bool true)) (w' := w3) ?_ ?_ ?_
          (· kernel_rfl)
          (· go_simp)
          simp only [Act.put, List.setIfInBounds_toArray, List.set_cons_succ, List.set_cons_zero]
          with_reducible refine wpList_want (v := (.bool true)) (w' := w3) ?_ ?_ ?_
          (· kernel_rfl)
          (· go_simp)
          simp only [Act.put, List.setIfInBounds_toArray, List.set_cons_succ, List.set_cons_zero]
          with_reducible refine wpList_want (v := (.pointer (some ⟨B, 5, none⟩))) (w' := w3) ?_ ?_ ?_
          (· kernel_rfl)
          (· go_simp)
          simp only [Act.put, List.setIfInBounds_toArray, List.set_cons_succ, List.set_cons_zero]
          with_reducible refine wpList_want (v := (.pointer (some ⟨B, 69, none⟩))) (w' := w3) ?_ ?_ ?_
          (· kernel_rfl)
          (· go_simp)
          simp only [Act.put, List.setIfInBounds_toArray, List.set_cons_succ, List.set_cons_zero]
          with_reducible refine wpList_want (v := (.bool true)) (w' := w3) ?_ ?_ ?_
          (· kernel_rfl)
          (· exact exec_loadQ (.tmp 32) _ _ rfl rfl C69.out)
          simp only [Act.put, List.setIfInBounds_toArray, List.set_cons_succ, List.set_cons_zero]
          with_reducible refine wpList_want (v := (.bool true)) (w' := w3) ?_ ?_ ?_
          (· kernel_rfl)
          (· go_simp)
          simp only [Act.put, List.setIfInBounds_toArray, List.set_cons_succ, List.set_cons_zero]
          with_reducible refine wpList_skipQ _ rfl ?_ ?_
          (· kernel_rfl)
          simp only [Act.put, List.setIfInBounds_toArray, List.set_cons_succ, List.set_cons_zero]
          with_reducible refine wpList_skipQ _ rfl ?_ ?_
          (· kernel_rfl)
          simp only [Act.put, List.setIfInBounds_toArray, List.set_cons_succ, List.set_cons_zero]
          with_reducible refine wpList_skipQ _ rfl ?_ ?_
          (· kernel_rfl)
          simp only [Act.put, List.setIfInBounds_toArray, List.set_cons_succ, List.set_cons_zero]
          with_reducible refine wpList_skipQ _ rfl ?_ ?_
          (· kernel_rfl)
          simp only [Act.put, List.setIfInBounds_toArray, List.set_cons_succ, List.set_cons_zero]
          with_reducible refine wpList_want (v := (.bool true)) (w' := w3) ?_ ?_ ?_
          (· kernel_rfl)
          (· go_simp)
          simp only [Act.put, List.setIfInBounds_toArray, List.set_cons_succ, List.set_cons_zero]
          with_reducible refine wpList_want (v := (.bool true)) (w' := w3) ?_ ?_ ?_
          (· kernel_rfl)
          (· go_simp)
          simp only [Act.put, List.setIfInBounds_toArray, List.set_cons_succ, List.set_cons_zero]
          with_reducible refine wpList_want (v := (.bool true)) (w' := w3) ?_ ?_ ?_
          (· kernel_rfl)
          (· go_simp)
          simp only [Act.put, List.setIfInBounds_toArray, List.set_cons_succ, List.set_cons_zero]
          with_reducible refine wpList_want (v := (.pointer (some ⟨B, 105, none⟩))) (w' := w3) ?_ ?_ ?_
          (· kernel_rfl)
          (· go_simp)
          simp only [Act.put, List.setIfInBounds_toArray, List.set_cons_succ, List.set_cons_zero]
          with_reducible refine wpList_want (v := (.slice x.ad x.nb x.cb)) (w' := w3) ?_ ?_ ?_
          (· kernel_rfl)
          (· exact exec_loadQ (.tmp 42) _ _ rfl rfl C105.out)
          simp only [Act.put, List.setIfInBounds_toArray, List.set_cons_succ, List.set_cons_zero]
          with_reducible refine wpList_want (v := (.int .i64 x.nb)) (w' := w3) ?_ ?_ ?_
          (· kernel_rfl)
          (· go_simp)
          simp only [Act.put, List.setIfInBounds_toArray, List.set_cons_succ, List.set_cons_zero]
          with_reducible refine wpList_want (v := (.bool true)) (w' := w3) ?_ ?_ ?_
          (· kernel_rfl)
          (· go_simp)
          simp only [Act.put, List.setIfInBounds_toArray, List.set_cons_succ, List.set_cons_zero]
          with_reducible refine wpList_want (v := (.bool true)) (w' := w3) ?_ ?_ ?_
          (· kernel_rfl)
          (· go_simp)
          simp only [Act.put, List.setIfInBounds_toArray, List.set_cons_succ, List.set_cons_zero]
          with_reducible refine wpList_want (v := (.bool true)) (w' := w3) ?_ ?_ ?_
          (· kernel_rfl)
          (· go_simp)
          simp only [Act.put, List.setIfInBounds_toArray, List.set_cons_succ, List.set_cons_zero]
          go_wp2_with fail
          go_ret
          exact ⟨by rw [HP3.out]; rfl, HE.out⟩
        · have HP3 : Hid (envMay x = false) := Lib.hid (by rw [HP2.out _ _ rfl (decide_eq_false h2)]; cases decide (od = 0) <;> rfl)
          have j2 : ¬ (x.nb : Int) ≤ 4096 := by omega
          clear h2
          go_wp2_with (first | ((with_reducible refine wpList_here ?_); refine wpList_ld (p := .pointer (some ⟨B, 0, none⟩)) 14 ?_ ?_ ?_ HL3.out ?_; (· rfl); go_simp; (· kernel_rfl)) | ((with_reducible refine wpList_here ?_); refine wpList_ld (p := .pointer (some ⟨B, 2, none⟩)) 16 ?_ ?_ ?_ HL4.out ?_; (· rfl); go_simp; (· kernel_rfl)) | ((with_reducible refine wpList_here ?_); refine wpList_ne 15 17 ?_ ?_ ?_ ?_ ?_ HNE.out ?_; (· rfl); go_simp; (· kernel_rfl); (· kernel_rfl); (· kernel_rfl); simp only [Act.put, List.setIfInBounds_toArray, List.set_cons_succ, List.set_cons_zero]; refine Stop.at ?_))
          refine ⟨?_⟩
          with_reducible refine wpList_want (v := (.bool true)) (w' := w3) ?_ ?_ ?_
          (· kernel_rfl)
          (· go_simp)
          simp only [Act.put, List.setIfInBounds_toArray, List.set_cons_succ, List.set_cons_zero]
          with_reducible refine wpList_want (v := (.bool true)) (w' := w3) ?_ ?_ ?_
          (· kernel_rfl)
          (· go_simp)
          simp only [Act.put, List.setIfInBounds_toArray, List.set_cons_succ, List.set_cons_zero]
          with_reducible refine wpList_want (v := (.pointer (some ⟨B, 4, none⟩))) (w' := w3) ?_ ?_ ?_
          (· kernel_rfl)
          (· go_simp)
          simp only [Act.put, List.setIfInBounds_toArray, List.set_cons_succ, List.set_cons_zero]
          with_reducible refine wpList_want (v := (.bool false)) (w' := w3) ?_ ?_ ?_
          (· kernel_rfl)
          (· exact exec_loadQ (.tmp 21) _ _ rfl rfl C4.out)
          simp only [Act.put, List.setIfInBounds_toArray, List.set_cons_succ, List.set_cons_zero]
          with_reducible refine wpList_want (v := (.bool false)) (w' := w3) ?_ ?_ ?_
          (· kernel_rfl)
          (· go_simp)
          simp only [Act.put, List.setIfInBounds_toArray, List.set_cons_succ, List.set_cons_zero]
          with_reducible refine wpList_want (v := (.pointer (some ⟨B, 5, none⟩))) (w' := w3) ?_ ?_ ?_
          (· kernel_rfl)
          (· go_simp)
          simp only [Act.put, List.setIfInBounds_toArray, List.set_cons_succ, List.set_cons_zero]
          with_reducible refine wpList_want (v := (.agg (rowOf 66 x.st.v))) (w' := w3) ?_ ?_ ?_
          (· kernel_rfl)
          (· exact exec_loadQ (.tmp 24) _ _ rfl rfl HL5.out)
          simp only [Act.put, List.setIfInBounds_toArray, List.set_cons_succ, List.set_cons_zero]
          with_reducible refine wpList_want (v := (.agg (rowOf 66 SetV.zero.v))) (w' := w3) ?_ ?_ ?_
          (· kernel_rfl)
          (· exact exec_loadQ (.tmp 3) _ _ rfl rfl HL6.out)
          simp only [Act.put, List.setIfInBounds_toArray, List.set_cons_succ, List.set_cons_zero]
          with_reducible refine wpList_want (v := (.bool true)) (w' := w3) ?_ ?_ ?_
          (· kernel_rfl)
          (· exact exec_eqlQ (.tmp 25) (.tmp 26) _ _ rfl rfl rfl (by kernel_rfl) HEQ.out)
          simp only [Act.put, List.setIfInBounds_toArray, List.set_cons_succ, List.set_cons_zero]
          with_reducible refine wpList_want (v := (.bool true)) (w' := w3) ?_ ?_ ?_
          (· kernel_rfl)
          (· go_simp)
          simp only [Act.put, List.setIfInBounds_toArray, List.set_cons_succ, List.set_cons_zero]
          with_reducible refine wpList_want (v := (.bool true)) (w' := w3) ?_ ?_ ?_
          (· kernel_rfl)
          (· go_simp)
          simp only [Act.put, List.setIfInBounds_toArray, List.set_cons_succ, List.set_cons_zero]
          with_reducible refine wpList_want (v := (.bool true)) (w' := w3) ?_ ?_ ?_
          (· kernel_rfl)
          (· go_simp)
          simp only [Act.put, List.setIfInBounds_toArray, List.set_cons_succ, List.set_cons_zero]
          with_reducible refine wpList_want (v := (.pointer (some ⟨B, 5, none⟩))) (w' := w3) ?_ ?_ ?_
          (· kernel_rfl)
          (· go_simp)
          simp only [Act.put, List.setIfInBounds_toArray, List.set_cons_succ, List.set_cons_zero]
          with_reducible refine wpList_want (v := (.pointer (some ⟨B, 69, none⟩))) (w' := w3) ?_ ?_ ?_
          (· kernel_rfl)
          (· go_simp)
          simp only [Act.put, List.setIfInBounds_toArray, List.set_cons_succ, List.set_cons_zero]
          with_reducible refine wpList_want (v := (.bool true)) (w' := w3) ?_ ?_ ?_
          (· kernel_rfl)
          (· exact exec_loadQ (.tmp 32) _ _ rfl rfl C69.out)
          simp only [Act.put, List.setIfInBounds_toArray, List.set_cons_succ, List.set_cons_zero]
          with_reducible refine wpList_want (v := (.bool true)) (w' := w3) ?_ ?_ ?_
          (· kernel_rfl)
          (· go_simp)
          simp only [Act.put, List.setIfInBounds_toArray, List.set_cons_succ, List.set_cons_zero]
          with_reducible refine wpList_skipQ _ rfl ?_ ?_
          (· kernel_rfl)
          simp only [Act.put, List.setIfInBounds_toArray, List.set_cons_succ, List.set_cons_zero]
          with_reducible refine wpList_skipQ _ rfl ?_ ?_
          (· kernel_rfl)
          simp only [Act.put, List.setIfInBounds_toArray, List.set_cons_succ, List.set_cons_zero]
          with_reducible refine wpList_skipQ _ rfl ?_ ?_
          (· kernel_rfl)
          simp only [Act.put, List.setIfInBounds_toArray, List.set_cons_succ, List.set_cons_zero]
          with_reducible refine wpList_skipQ _ rfl ?_ ?_
          (· kernel_rfl)
          simp only [Act.put, List.setIfInBounds_toArray, List.set_cons_succ, List.set_cons_zero]
          with_reducible refine wpList_want (v := (.bool true)) (w' := w3) ?_ ?_ ?_
          (· kernel_rfl)
          (· go_simp)
          simp only [Act.put, List.setIfInBounds_toArray, List.set_cons_succ, List.set_cons_zero]
          with_reducible refine wpList_want (v := (.bool true)) (w' := w3) ?_ ?_ ?_
          (· kernel_rfl)
          (· go_simp)
          simp only [Act.put, List.setIfInBounds_toArray, List.set_cons_succ, List.set_cons_zero]
          with_reducible refine wpList_want (v := (.bool true)) (w' := w3) ?_ ?_ ?_
          (· kernel_rfl)
          (· go_simp)
          simp only [Act.put, List.setIfInBounds_toArray, List.set_cons_succ, List.set_cons_zero]
          with_reducible refine wpList_want (v := (.pointer (some ⟨B, 105, none⟩))) (w' := w3) ?_ ?_ ?_
          (· kernel_rfl)
          (· go_simp)
          simp only [Act.put, List.setIfInBounds_toArray, List.set_cons_succ, List.set_cons_zero]
          with_reducible refine wpList_want (v := (.slice x.ad x.nb x.cb)) (w' := w3) ?_ ?_ ?_
          (· kernel_rfl)
          (· exact exec_loadQ (.tmp 42) _ _ rfl rfl C105.out)
          simp only [Act.put, List.setIfInBounds_toArray, List.set_cons_succ, List.set_cons_zero]
          with_reducible refine wpList_want (v := (.int .i64 x.nb)) (w' := w3) ?_ ?_ ?_
          (· kernel_rfl)
          (· go_simp)
          simp only [Act.put, List.setIfInBounds_toArray, List.set_cons_succ, List.set_cons_zero]
          with_reducible refine wpList_want (v := (.bool false)) (w' := w3) ?_ ?_ ?_
          (· kernel_rfl)
          (· go_simp)
          simp only [Act.put, List.setIfInBounds_toArray, List.set_cons_succ, List.set_cons_zero]
          with_reducible refine wpList_want (v := (.bool false)) (w' := w3) ?_ ?_ ?_
          (· kernel_rfl)
          (· go_simp)
          simp only [Act.put, List.setIfInBounds_toArray, List.set_cons_succ, List.set_cons_zero]
          with_reducible refine wpList_want (v := (.bool false)) (w' := w3) ?_ ?_ ?_
          (· kernel_rfl)
          (· go_simp)
          simp only [Act.put, List.setIfInBounds_toArray, List.set_cons_succ, List.set_cons_zero]
          go_wp2_with fail
          go_ret
          exact ⟨by rw [HP3.out]; rfl, HE.out⟩
      | false =>
        by_cases h1 : od = 0
        · by_cases h2 : x.nb ≤ 4096
          · have HP3 : Hid (envMay x = true) := Lib.hid (by rw [HP2.out _ _ (decide_eq_true h1) (decide_eq_true h2)]; rfl)
            have j2 : (x.nb : Int) ≤ 4096 := by omega
            clear h2
            subst h1
            go_wp2_with (first | ((with_reducible refine wpList_here ?_); refine wpList_ld (p := .pointer (some ⟨B, 0, none⟩)) 14 ?_ ?_ ?_ HL3.out ?_; (· rfl); go_simp; (· kernel_rfl)) | ((with_reducible refine wpList_here ?_); refine wpList_ld (p := .pointer (some ⟨B, 2, none⟩)) 16 ?_ ?_ ?_ HL4.out ?_; (· rfl); go_simp; (· kernel_rfl)) | ((with_reducible refine wpList_here ?_); refine wpList_ne 15 17 ?_ ?_ ?_ ?_ ?_ HNE.out ?_; (· rfl); go_simp; (· kernel_rfl); (· kernel_rfl); (· kernel_rfl); simp only [Act.put, List.setIfInBounds_toArray, List.set_cons_succ, List.set_cons_zero]; refine Stop.at ?_))
            refine ⟨?_⟩
            with_reducible refine wpList_want (v := (.bool true)) (w' := w3) ?_ ?_ ?_
            (· kernel_rfl)
            (· go_simp)
            simp only [Act.put, List.setIfInBounds_toArray, List.set_cons_succ, List.set_cons_zero]
            with_reducible refine wpList_want (v := (.bool true)) (w' := w3) ?_ ?_ ?_
            (· kernel_rfl)
            (· go_simp)
            simp only [Act.put, List.setIfInBounds_toArray, List.set_cons_succ, List.set_cons_zero]
            with_reducible refine wpList_want (v := (.pointer (some ⟨B, 4, none⟩))) (w' := w3) ?_ ?_ ?_
            (· kernel_rfl)
            (· go_simp)
            simp only [Act.put, List.setIfInBounds_toArray, List.set_cons_succ, List.set_cons_zero]
            with_reducible refine wpList_want (v := (.bool false)) (w' := w3) ?_ ?_ ?_
            (· kernel_rfl)
            (· exact exec_loadQ (.tmp 21) _ _ rfl rfl C4.out)
            simp only [Act.put, List.setIfInBounds_toArray, List.set_cons_succ, List.set_cons_zero]
            with_reducible refine wpList_want (v := (.bool false)) (w' := w3) ?_ ?_ ?_
            (· kernel_rfl)
            (· go_simp)
            simp only [Act.put, List.setIfInBounds_toArray, List.set_cons_succ, List.set_cons_zero]
            with_reducible refine wpList_want (v := (.pointer (some ⟨B, 5, none⟩))) (w' := w3) ?_ ?_ ?_
            (· kernel_rfl)
            (· go_simp)
            simp only [Act.put, List.setIfInBounds_toArray, List.set_cons_succ, List.set_cons_zero]
            with_reducible refine wpList_want (v := (.agg (rowOf 66 x.st.v))) (w' := w3) ?_ ?_ ?_
            (· kernel_rfl)
            (· exact exec_loadQ (.tmp 24) _ _ rfl rfl HL5.out)
            simp only [Act.put, List.setIfInBounds_toArray, List.set_cons_succ, List.set_cons_zero]
            with_reducible refine wpList_want (v := (.agg (rowOf 66 SetV.zero.v))) (w' := w3) ?_ ?_ ?_
            (· kernel_rfl)
            (· exact exec_loadQ (.tmp 3) _ _ rfl rfl HL6.out)
            simp only [Act.put, List.setIfInBounds_toArray, List.set_cons_succ, List.set_cons_zero]
            with_reducible refine wpList_want (v := (.bool true)) (w' := w3) ?_ ?_ ?_
            (· kernel_rfl)
            (· exact exec_eqlQ (.tmp 25) (.tmp 26) _ _ rfl rfl rfl (by kernel_rfl) HEQ.out)
            simp only [Act.put, List.setIfInBounds_toArray, List.set_cons_succ, List.set_cons_zero]
            with_reducible refine wpList_want (v := (.bool true)) (w' := w3) ?_ ?_ ?_
            (· kernel_rfl)
            (· go_simp)
            simp only [Act.put, List.setIfInBounds_toArray, List.set_cons_succ, List.set_cons_zero]
            with_reducible refine wpList_want (v := (.bool true)) (w' := w3) ?_ ?_ ?_
            (· kernel_rfl)
            (· go_simp)
            simp only [Act.put, List.setIfInBounds_toArray, List.set_cons_succ, List.set_cons_zero]
            with_reducible refine wpList_want (v := (.bool true)) (w' := w3) ?_ ?_ ?_
            (· kernel_rfl)
            (· go_simp)
            simp only [Act.put, List.setIfInBounds_toArray, List.set_cons_succ, List.set_cons_zero]
            with_reducible refine wpList_want (v := (.pointer (some ⟨B, 5, none⟩))) (w' := w3) ?_ ?_ ?_
            (· kernel_rfl)
            (· go_simp)
            simp only [Act.put, List.setIfInBounds_toArray, List.set_cons_succ, List.set_cons_zero]
            with_reducible refine wpList_want (v := (.pointer (some ⟨B, 69, none⟩))) (w' := w3) ?_ ?_ ?_
            (· kernel_rfl)
            (· go_simp)
            simp only [Act.put, List.setIfInBounds_toArray, List.set_cons_succ, List.set_cons_zero]
            with_reducible refine wpList_want (v := (.bool false)) (w' := w3) ?_ ?_ ?_
            (· kernel_rfl)
            (· exact exec_loadQ (.tmp 32) _ _ rfl rfl C69.out)
            simp only [Act.put, List.setIfInBounds_toArray, List.set_cons_succ, List.set_cons_zero]
            with_reducible refine wpList_want (v := (.bool false)) (w' := w3) ?_ ?_ ?_
            (· kernel_rfl)
            (· go_simp)
            simp only [Act.put, List.setIfInBounds_toArray, List.set_cons_succ, List.set_cons_zero]
            with_reducible refine wpList_want (v := (.pointer (some ⟨B, 5, none⟩))) (w' := w3) ?_ ?_ ?_
            (· kernel_rfl)
            (· go_simp)
            simp only [Act.put, List.setIfInBounds_toArray, List.set_cons_succ, List.set_cons_zero]
            with_reducible refine wpList_want (v := (.pointer (some ⟨B, 70, none⟩))) (w' := w3) ?_ ?_ ?_
            (· kernel_rfl)
            (· go_simp)
            simp only [Act.put, List.setIfInBounds_toArray, List.set_cons_succ, List.set_cons_zero]
            with_reducible refine wpList_want (v := (.int .u32 ((0 : Nat) : Int))) (w' := w3) ?_ ?_ ?_
            (· kernel_rfl)
            (· exact exec_loadQ (.tmp 36) _ _ rfl rfl C70.out)
            simp only [Act.put, List.setIfInBounds_toArray, List.set_cons_succ, List.set_cons_zero]
            with_reducible refine wpList_want (v := (.bool true)) (w' := w3) ?_ ?_ ?_
            (· kernel_rfl)
            (· go_simp)
            simp only [Act.put, List.setIfInBounds_toArray, List.set_cons_succ, List.set_cons_zero]
            with_reducible refine wpList_want (v := (.bool true)) (w' := w3) ?_ ?_ ?_
            (· kernel_rfl)
            (· go_simp)
            simp only [Act.put, List.setIfInBounds_toArray, List.set_cons_succ, List.set_cons_zero]
            with_reducible refine wpList_want (v := (.bool true)) (w' := w3) ?_ ?_ ?_
            (· kernel_rfl)
            (· go_simp)
            simp only [Act.put, List.setIfInBounds_toArray, List.set_cons_succ, List.set_cons_zero]
            with_reducible refine wpList_want (v := (.bool true)) (w' := w3) ?_ ?_ ?_
            (· kernel_rfl)
            (· go_simp)
            simp only [Act.put, List.setIfInBounds_toArray, List.set_cons_succ, List.set_cons_zero]
            with_reducible refine wpList_want (v := (.pointer (some ⟨B, 105, none⟩))) (w' := w3) ?_ ?_ ?_
            (· kernel_rfl)
            (· go_simp)
            simp only [Act.put, List.setIfInBounds_toArray, List.set_cons_succ, List.set_cons_zero]
            with_reducible refine wpList_want (v := (.slice x.ad x.nb x.cb)) (w' := w3) ?_ ?_ ?_
            (· kernel_rfl)
            (· exact exec_loadQ (.tmp 42) _ _ rfl rfl C105.out)
            simp only [Act.put, List.setIfInBounds_toArray, List.set_cons_succ, List.set_cons_zero]
            with_reducible refine wpList_want (v := (.int .i64 x.nb)) (w' := w3) ?_ ?_ ?_
            (· kernel_rfl)
            (· go_simp)
            simp only [Act.put, List.setIfInBounds_toArray, List.set_cons_succ, List.set_cons_zero]
            with_reducible refine wpList_want (v := (.bool true)) (w' := w3) ?_ ?_ ?_
            (· kernel_rfl)
            (· go_simp)
            simp only [Act.put, List.setIfInBounds_toArray, List.set_cons_succ, List.set_cons_zero]
            with_reducible refine wpList_want (v := (.bool true)) (w' := w3) ?_ ?_ ?_
            (· kernel_rfl)
            (· go_simp)
            simp only [Act.put, List.setIfInBounds_toArray, List.set_cons_succ, List.set_cons_zero]
            with_reducible refine wpList_want (v := (.bool true)) (w' := w3) ?_ ?_ ?_
            (· kernel_rfl)
            (· go_simp)
            simp only [Act.put, List.setIfInBounds_toArray, List.set_cons_succ, List.set_cons_zero]
            go_wp2_with fail
            go_ret
            exact ⟨by rw [HP3.out]; rfl, HE.out⟩
          · have HP3 : Hid (envMay x = false) := Lib.hid (by rw [HP2.out _ _ (decide_eq_true h1) (decide_eq_false h2)]; rfl)
            have j2 : ¬ (x.nb : Int) ≤ 4096 := by omega
            clear h2
            subst h1
            go_wp2_with (first | ((with_reducible refine wpList_here ?_); refine wpList_ld (p := .pointer (some ⟨B, 0, none⟩)) 14 ?_ ?_ ?_ HL3.out ?_; (· rfl); go_simp; (· kernel_rfl)) | ((with_reducible refine wpList_here ?_); refine wpList_ld (p := .pointer (some ⟨B, 2, none⟩)) 16 ?_ ?_ ?_ HL4.out ?_; (· rfl); go_simp; (· kernel_rfl)) | ((with_reducible refine wpList_here ?_); refine wpList_ne 15 17 ?_ ?_ ?_ ?_ ?_ HNE.out ?_; (· rfl); go_simp; (· kernel_rfl); (· kernel_rfl); (· kernel_rfl); simp only [Act.put, List.setIfInBounds_toArray, List.set_cons_succ, List.set_cons_zero]; refine Stop.at ?_))
            refine ⟨?_⟩
            with_reducible refine wpList_want (v := (.bool true)) (w' := w3) ?_ ?_ ?_
            (· kernel_rfl)
            (· go_simp)
            simp only [Act.put, List.setIfInBounds_toArray, List.set_cons_succ, List.set_cons_zero]
            with_reducible refine wpList_want (v := (.bool true)) (w' := w3) ?_ ?_ ?_
            (· kernel_rfl)
            (· go_simp)
            simp only [Act.put, List.setIfInBounds_toArray, List.set_cons_succ, List.set_cons_zero]
            with_reducible refine wpList_want (v := (.pointer (some ⟨B, 4, none⟩))) (w' := w3) ?_ ?_ ?_
            (· kernel_rfl)
            (· go_simp)
            simp only [Act.put, List.setIfInBounds_toArray, List.set_cons_succ, List.set_cons_zero]
            with_reducible refine wpList_want (v := (.bool false)) (w' := w3) ?_ ?_ ?_
            (· kernel_rfl)
            (· exact exec_loadQ (.tmp 21) _ _ rfl rfl C4.out)
            simp only [Act.put, List.setIfInBounds_toArray, List.set_cons_succ, List.set_cons_zero]
            with_reducible refine wpList_want (v := (.bool false)) (w' := w3) ?_ ?_ ?_
            (· kernel_rfl)
            (· go_simp)
            simp only [Act.put, List.setIfInBounds_toArray, List.set_cons_succ, List.set_cons_zero]
            with_reducible refine wpList_want (v := (.pointer (some ⟨B, 5, none⟩))) (w' := w3) ?_ ?_ ?_
            (· kernel_rfl)
            (· go_simp)
            simp only [Act.put, List.setIfInBounds_toArray, List.set_cons_succ, List.set_cons_zero]
            with_reducible refine wpList_want (v := (.agg (rowOf 66 x.st.v))) (w' := w3) ?_ ?_ ?_
            (· kernel_rfl)
            (· exact exec_loadQ (.tmp 24) _ _ rfl rfl HL5.out)
            simp only [Act.put, List.setIfInBounds_toArray, List.set_cons_succ, List.set_cons_zero]
            with_reducible refine wpList_want (v := (.agg (rowOf 66 SetV.zero.v))) (w' := w3) ?_ ?_ ?_
            (· kernel_rfl)
            (· exact exec_loadQ (.tmp 3) _ _ rfl rfl HL6.out)
            simp only [Act.put, List.setIfInBounds_toArray, List.set_cons_succ, List.set_cons_zero]
            with_reducible refine wpList_want (v := (.bool true)) (w' := w3) ?_ ?_ ?_
            (· kernel_rfl)
            (· exact exec_eqlQ (.tmp 25) (.tmp 26) _ _ rfl rfl rfl (by kernel_rfl) HEQ.out)
            simp only [Act.put, List.setIfInBounds_toArray, List.set_cons_succ, List.set_cons_zero]
            with_reducible refine wpList_want (v := (.bool true)) (w' := w3) ?_ ?_ ?_
            (· kernel_rfl)
            (· go_simp)
            simp only [Act.put, List.setIfInBounds_toArray, List.set_cons_succ, List.set_cons_zero]
            with_reducible refine wpList_want (v := (.bool true)) (w' := w3) ?_ ?_ ?_
            (· kernel_rfl)
            (· go_simp)
            simp only [Act.put, List.setIfInBounds_toArray, List.set_cons_succ, List.set_cons_zero]
            with_reducible refine wpList_want (v := (.bool true)) (w' := w3) ?_ ?_ ?_
            (· kernel_rfl)
            (· go_simp)
            simp only [Act.put, List.setIfInBounds_toArray, List.set_cons_succ, List.set_cons_zero]
            with_reducible refine wpList_want (v := (.pointer (some ⟨B, 5, none⟩))) (w' := w3) ?_ ?_ ?_
            (· kernel_rfl)
            (· go_simp)
            simp only [Act.put, List.setIfInBounds_toArray, List.set_cons_succ, List.set_cons_zero]
            with_reducible refine wpList_want (v := (.pointer (some ⟨B, 69, none⟩))) (w' := w3) ?_ ?_ ?_
            (· kernel_rfl)
            (· go_simp)
            simp only [Act.put, List.setIfInBounds_toArray, List.set_cons_succ, List.set_cons_zero]
            with_reducible refine wpList_want (v := (.bool false)) (w' := w3) ?_ ?_ ?_
            (· kernel_rfl)
            (· exact exec_loadQ (.tmp 32) _ _ rfl rfl C69.out)
            simp only [Act.put, List.setIfInBounds_toArray, List.set_cons_succ, List.set_cons_zero]
            with_reducible refine wpList_want (v := (.bool false)) (w' := w3) ?_ ?_ ?_
            (· kernel_rfl)
            (· go_simp)
            simp only [Act.put, List.setIfInBounds_toArray, List.set_cons_succ, List.set_cons_zero]
            with_reducible refine wpList_want (v := (.pointer (some ⟨B, 5, none⟩))) (w' := w3) ?_ ?_ ?_
            (· kernel_rfl)
            (· go_simp)
            simp only [Act.put, List.setIfInBounds_toArray, List.set_cons_succ, List.set_cons_zero]
            with_reducible refine wpList_want (v := (.pointer (some ⟨B, 70, none⟩))) (w' := w3) ?_ ?_ ?_
            (· kernel_rfl)
            (· go_simp)
            simp only [Act.put, List.setIfInBounds_toArray, List.set_cons_succ, List.set_cons_zero]
            with_reducible refine wpList_want (v := (.int .u32 ((0 : Nat) : Int))) (w' := w3) ?_ ?_ ?_
            (· kernel_rfl)
            (· exact exec_loadQ (.tmp 36) _ _ rfl rfl C70.out)
            simp only [Act.put, List.setIfInBounds_toArray, List.set_cons_succ, List.set_cons_zero]
            with_reducible refine wpList_want (v := (.bool true)) (w' := w3) ?_ ?_ ?_
            (· kernel_rfl)
            (· go_simp)
            simp only [Act.put, List.setIfInBounds_toArray, List.set_cons_succ, List.set_cons_zero]
            with_reducible refine wpList_want (v := (.bool true)) (w' := w3) ?_ ?_ ?_
            (· kernel_rfl)
            (· go_simp)
            simp only [Act.put, List.setIfInBounds_toArray, List.set_cons_succ, List.set_cons_zero]
            with_reducible refine wpList_want (v := (.bool true)) (w' := w3) ?_ ?_ ?_
            (· kernel_rfl)
            (· go_simp)
            simp only [Act.put, List.setIfInBounds_toArray, List.set_cons_succ, List.set_cons_zero]
            with_reducible refine wpList_want (v := (.bool true)) (w' := w3) ?_ ?_ ?_
            (· kernel_rfl)
            (· go_simp)
            simp only [Act.put, List.setIfInBounds_toArray, List.set_cons_succ, List.set_cons_zero]
            with_reducible refine wpList_want (v := (.pointer (some ⟨B, 105, none⟩))) (w' := w3) ?_ ?_ ?_
            (· kernel_rfl)
            (· go_simp)
            simp only [Act.put, List.setIfInBounds_toArray, List.set_cons_succ, List.set_cons_zero]
            with_reducible refine wpList_want (v := (.slice x.ad x.nb x.cb)) (w' := w3) ?_ ?_ ?_
            (· kernel_rfl)
            (· exact exec_loadQ (.tmp 42) _ _ rfl rfl C105.out)
            simp only [Act.put, List.setIfInBounds_toArray, List.set_cons_succ, List.set_cons_zero]
            with_reducible refine wpList_want (v := (.int .i64 x.nb)) (w' := w3) ?_ ?_ ?_
            (· kernel_rfl)
            (· go_simp)
            simp only [Act.put, List.setIfInBounds_toArray, List.set_cons_succ, List.set_cons_zero]
            with_reducible refine wpList_want (v := (.bool false)) (w' := w3) ?_ ?_ ?_
            (· kernel_rfl)
            (· go_simp)
            simp only [Act.put, List.setIfInBounds_toArray, List.set_cons_succ, List.set_cons_zero]
            with_reducible refine wpList_want (v := (.bool false)) (w' := w3) ?_ ?_ ?_
            (· kernel_rfl)
            (· go_simp)
            simp only [Act.put, List.setIfInBounds_toArray, List.set_cons_succ, List.set_cons_zero]
            with_reducible refine wpList_want (v := (.bool false)) (w' := w3) ?_ ?_ ?_
            (· kernel_rfl)
            (· go_simp)
            simp only [Act.put, List.setIfInBounds_toArray, List.set_cons_succ, List.set_cons_zero]
            go_wp2_with fail
            go_ret
            exact ⟨by rw [HP3.out]; rfl, HE.out⟩
        · have HP3 : Hid (envMay x = false) := Lib.hid (by rw [HP2.out _ _ (decide_eq_false h1) rfl]; rfl)
          have j1 : ¬ (od : Int) = 0 := by omega
          clear h1
          go_wp2_with (first | ((with_reducible refine wpList_here ?_); refine wpList_ld (p := .pointer (some ⟨B, 0, none⟩)) 14 ?_ ?_ ?_ HL3.out ?_; (· rfl); go_simp; (· kernel_rfl)) | ((with_reducible refine wpList_here ?_); refine wpList_ld (p := .pointer (some ⟨B, 2, none⟩)) 16 ?_ ?_ ?_ HL4.out ?_; (· rfl); go_simp; (· kernel_rfl)) | ((with_reducible refine wpList_here ?_); refine wpList_ne 15 17 ?_ ?_ ?_ ?_ ?_ HNE.out ?_; (· rfl); go_simp; (· kernel_rfl); (· kernel_rfl); (· kernel_rfl); simp only [Act.put, List.setIfInBounds_toArray, List.set_cons_succ, List.set_cons_zero]; refine Stop.at ?_))
          refine ⟨?_⟩
          with_reducible refine wpList_want (v := (.bool true)) (w' := w3) ?_ ?_ ?_
          (· kernel_rfl)
          (· go_simp)
          simp only [Act.put, List.setIfInBounds_toArray, List.set_cons_succ, List.set_cons_zero]
          with_reducible refine wpList_want (v := (.bool true)) (w' := w3) ?_ ?_ ?_
          (· kernel_rfl)
          (· go_simp)
          simp only [Act.put, List.setIfInBounds_toArray, List.set_cons_succ, List.set_cons_zero]
          with_reducible refine wpList_want (v := (.pointer (some ⟨B, 4, none⟩))) (w' := w3) ?_ ?_ ?_
          (· kernel_rfl)
          (· go_simp)
          simp only [Act.put, List.setIfInBounds_toArray, List.set_cons_succ, List.set_cons_zero]
          with_reducible refine wpList_want (v := (.bool false)) (w' := w3) ?_ ?_ ?_
          (· kernel_rfl)
          (· exact exec_loadQ (.tmp 21) _ _ rfl rfl C4.out)
          simp only [Act.put, List.setIfInBounds_toArray, List.set_cons_succ, List.set_cons_zero]
          with_reducible refine wpList_want (v := (.bool false)) (w' := w3) ?_ ?_ ?_
          (· kernel_rfl)
          (· go_simp)
          simp only [Act.put, List.setIfInBounds_toArray, List.set_cons_succ, List.set_cons_zero]
          with_reducible refine wpList_want (v := (.pointer (some ⟨B, 5, none⟩))) (w' := w3) ?_ ?_ ?_
          (· kernel_rfl)
          (· go_simp)
          simp only [Act.put, List.setIfInBounds_toArray, List.set_cons_succ, List.set_cons_zero]
          with_reducible refine wpList_want (v := (.agg (rowOf 66 x.st.v))) (w' := w3) ?_ ?_ ?_
          (· kernel_rfl)
          (· exact exec_loadQ (.tmp 24) _ _ rfl rfl HL5.out)
          simp only [Act.put, List.setIfInBounds_toArray, List.set_cons_succ, List.set_cons_zero]
          with_reducible refine wpList_want (v := (.agg (rowOf 66 SetV.zero.v))) (w' := w3) ?_ ?_ ?_
          (· kernel_rfl)
          (· exact exec_loadQ (.tmp 3) _ _ rfl rfl HL6.out)
          simp only [Act.put, List.setIfInBounds_toArray, List.set_cons_succ, List.set_cons_zero]
          with_reducible refine wpList_want (v := (.bool true)) (w' := w3) ?_ ?_ ?_
          (· kernel_rfl)
          (· exact exec_eqlQ (.tmp 25) (.tmp 26) _ _ rfl rfl rfl (by kernel_rfl) HEQ.out)
          simp only [Act.put, List.setIfInBounds_toArray, List.set_cons_succ, List.set_cons_zero]
          with_reducible refine wpList_want (v := (.bool true)) (w' := w3) ?_ ?_ ?_
          (· kernel_rfl)
          (· go_simp)
          simp only [Act.put, List.setIfInBounds_toArray, List.set_cons_succ, List.set_cons_zero]
          with_reducible refine wpList_want (v := (.bool true)) (w' := w3) ?_ ?_ ?_
          (· kernel_rfl)
          (· go_simp)
          simp only [Act.put, List.setIfInBounds_toArray, List.set_cons_succ, List.set_cons_zero]
          with_reducible refine wpList_want (v := (.bool true)) (w' := w3) ?_ ?_ ?_
          (· kernel_rfl)
          (· go_simp)
          simp only [Act.put, List.setIfInBounds_toArray, List.set_cons_succ, List.set_cons_zero]
          with_reducible refine wpList_want (v := (.pointer (some ⟨B, 5, none⟩))) (w' := w3) ?_ ?_ ?_
          (· kernel_rfl)
          (· go_simp)
          simp only [Act.put, List.setIfInBounds_toArray, List.set_cons_succ, List.set_cons_zero]
          with_reducible refine wpList_want (v := (.pointer (some ⟨B, 69, none⟩))) (w' := w3) ?_ ?_ ?_
          (· kernel_rfl)
          (· go_simp)
          simp only [Act.put, List.setIfInBounds_toArray, List.set_cons_succ, List.set_cons_zero]
          with_reducible refine wpList_want (v := (.bool false)) (w' := w3) ?_ ?_ ?_
          (· kernel_rfl)
          (· exact exec_loadQ (.tmp 32) _ _ rfl rfl C69.out)
          simp only [Act.put, List.setIfInBounds_toArray, List.set_cons_succ, List.set_cons_zero]
          with_reducible refine wpList_want (v := (.bool false)) (w' := w3) ?_ ?_ ?_
          (· kernel_rfl)
          (· go_simp)
          simp only [Act.put, List.setIfInBounds_toArray, List.set_cons_succ, List.set_cons_zero]
          with_reducible refine wpList_want (v := (.pointer (some ⟨B, 5, none⟩))) (w' := w3) ?_ ?_ ?_
          (· kernel_rfl)
          (· go_simp)
          simp only [Act.put, List.setIfInBounds_toArray, List.set_cons_succ, List.set_cons_zero]
          with_reducible refine wpList_want (v := (.pointer (some ⟨B, 70, none⟩))) (w' := w3) ?_ ?_ ?_
          (· kernel_rfl)
          (· go_simp)
          simp only [Act.put, List.setIfInBounds_toArray, List.set_cons_succ, List.set_cons_zero]
          with_reducible refine wpList_want (v := (.int .u32 od)) (w' := w3) ?_ ?_ ?_
          (· kernel_rfl)
          (· exact exec_loadQ (.tmp 36) _ _ rfl rfl C70.out)
          simp only [Act.put, List.setIfInBounds_toArray, List.set_cons_succ, List.set_cons_zero]
          with_reducible refine wpList_want (v := (.bool false)) (w' := w3) ?_ ?_ ?_
          (· kernel_rfl)
          (· (go_simp <;> omega))
          simp only [Act.put, List.setIfInBounds_toArray, List.set_cons_succ, List.set_cons_zero]
          with_reducible refine wpList_want (v := (.bool false)) (w' := w3) ?_ ?_ ?_
          (· kernel_rfl)
          (· go_simp)
          simp only [Act.put, List.setIfInBounds_toArray, List.set_cons_succ, List.set_cons_zero]
          with_reducible refine wpList_want (v := (.bool false)) (w' := w3) ?_ ?_ ?_
          (· kernel_rfl)
          (· go_simp)
          simp only [Act.put, List.setIfInBounds_toArray, List.set_cons_succ, List.set_cons_zero]
          with_reducible refine wpList_want (v := (.bool false)) (w' := w3) ?_ ?_ ?_
          (· kernel_rfl)
          (· go_simp)
          simp only [Act.put, List.setIfInBounds_toArray, List.set_cons_succ, List.set_cons_zero]
          with_reducible refine wpList_skipQ _ rfl ?_ ?_
          (· kernel_rfl)
          simp only [Act.put, List.setIfInBounds_toArray, List.set_cons_succ, List.set_cons_zero]
          with_reducible refine wpList_skipQ _ rfl ?_ ?_
          (· kernel_rfl)
          simp only [Act.put, List.setIfInBounds_toArray, List.set_cons_succ, List.set_cons_zero]
          with_reducible refine wpList_skipQ _ rfl ?_ ?_
          (· kernel_rfl)
          simp only [Act.put, List.setIfInBounds_toArray, List.set_cons_succ, List.set_cons_zero]
          with_reducible refine wpList_skipQ _ rfl ?_ ?_
          (· kernel_rfl)
          simp only [Act.put, List.setIfInBounds_toArray, List.set_cons_succ, List.set_cons_zero]
          with_reducible refine wpList_want (v := (.bool false)) (w' := w3) ?_ ?_ ?_
          (· kernel_rfl)
          (· go_simp)
          simp only [Act.put, List.setIfInBounds_toArray, List.set_cons_succ, List.set_cons_zero]
          with_reducible refine wpList_want (v := (.bool false)) (w' := w3) ?_ ?_ ?_
          (· kernel_rfl)
          (· go_simp)
          simp only [Act.put, List.setIfInBounds_toArray, List.set_cons_succ, List.set_cons_zero]
          go_wp2_with fail
          go_ret
          exact ⟨by rw [HP3.out]; rfl, HE.out⟩
    | false =>
      have HP3 : Hid (envMay x = false) := Lib.hid (by rw [HP2.out _ _ rfl rfl]; rfl)
      go_wp2_with (first | ((with_reducible refine wpList_here ?_); refine wpList_ld (p := .pointer (some ⟨B, 0, none⟩)) 14 ?_ ?_ ?_ HL3.out ?_; (· rfl); go_simp; (· kernel_rfl)) | ((with_reducible refine wpList_here ?_); refine wpList_ld (p := .pointer (some ⟨B, 2, none⟩)) 16 ?_ ?_ ?_ HL4.out ?_; (· rfl); go_simp; (· kernel_rfl)) | ((with_reducible refine wpList_here ?_); refine wpList_ne 15 17 ?_ ?_ ?_ ?_ ?_ HNE.out ?_; (· rfl); go_simp; (· kernel_rfl); (· kernel_rfl); (· kernel_rfl); simp only [Act.put, List.setIfInBounds_toArray, List.set_cons_succ, List.set_cons_zero]; refine Stop.at ?_))
      refine ⟨?_⟩
      with_reducible refine wpList_want (v := (.bool true)) (w' := w3) ?_ ?_ ?_
      (· kernel_rfl)
      (· go_simp)
      simp only [Act.put, List.setIfInBounds_toArray, List.set_cons_succ, List.set_cons_zero]
      with_reducible refine wpList_want (v := (.bool true)) (w' := w3) ?_ ?_ ?_
      (· kernel_rfl)
      (· go_simp)
      simp only [Act.put, List.setIfInBounds_toArray, List.set_cons_succ, List.set_cons_zero]
      with_reducible refine wpList_want (v := (.pointer (some ⟨B, 4, none⟩))) (w' := w3) ?_ ?_ ?_
      (· kernel_rfl)
      (· go_simp)
      simp only [Act.put, List.setIfInBounds_toArray, List.set_cons_succ, List.set_cons_zero]
      with_reducible refine wpList_want (v := (.bool false)) (w' := w3) ?_ ?_ ?_
      (· kernel_rfl)
      (· exact exec_loadQ (.tmp 21) _ _ rfl rfl C4.out)
      simp only [Act.put, List.setIfInBounds_toArray, List.set_cons_succ, List.set_cons_zero]
      with_reducible refine wpList_want (v := (.bool false)) (w' := w3) ?_ ?_ ?_
      (· kernel_rfl)
      (· go_simp)
      simp only [Act.put, List.setIfInBounds_toArray, List.set_cons_succ, List.set_cons_zero]
      with_reducible refine wpList_want (v := (.pointer (some ⟨B, 5, none⟩))) (w' := w3) ?_ ?_ ?_
      (· kernel_rfl)
      (· go_simp)
      simp only [Act.put, List.setIfInBounds_toArray, List.set_cons_succ, List.set_cons_zero]
      with_reducible refine wpList_want (v := (.agg (rowOf 66 x.st.v))) (w' := w3) ?_ ?_ ?_
      (· kernel_rfl)
      (· exact exec_loadQ (.tmp 24) _ _ rfl rfl HL5.out)
      simp only [Act.put, List.setIfInBounds_toArray, List.set_cons_succ, List.set_cons_zero]
      with_reducible refine wpList_want (v := (.agg (rowOf 66 SetV.zero.v))) (w' := w3) ?_ ?_ ?_
      (· kernel_rfl)
      (· exact exec_loadQ (.tmp 3) _ _ rfl rfl HL6.out)
      simp only [Act.put, List.setIfInBounds_toArray, List.set_cons_succ, List.set_cons_zero]
      with_reducible refine wpList_want (v := (.bool false)) (w' := w3) ?_ ?_ ?_
      (· kernel_rfl)
      (· exact exec_eqlQ (.tmp 25) (.tmp 26) _ _ rfl rfl rfl (by kernel_rfl) HEQ.out)
      simp only [Act.put, List.setIfInBounds_toArray, List.set_cons_succ, List.set_cons_zero]
      with_reducible refine wpList_want (v := (.bool false)) (w' := w3) ?_ ?_ ?_
      (· kernel_rfl)
      (· go_simp)
      simp only [Act.put, List.setIfInBounds_toArray, List.set_cons_succ, List.set_cons_zero]
      with_reducible refine wpList_want (v := (.bool false)) (w' := w3) ?_ ?_ ?_
      (· kernel_rfl)
      (· go_simp)
      simp only [Act.put, List.setIfInBounds_toArray, List.set_cons_succ, List.set_cons_zero]
      with_reducible refine wpList_want (v := (.bool false)) (w' := w3) ?_ ?_ ?_
      (· kernel_rfl)
      (· go_simp)
      simp only [Act.put, List.setIfInBounds_toArray, List.set_cons_succ, List.set_cons_zero]
      with_reducible refine wpList_skipQ _ rfl ?_ ?_
      (· kernel_rfl)
      simp only [Act.put, List.setIfInBounds_toArray, List.set_cons_succ, List.set_cons_zero]
      with_reducible refine wpList_skipQ _ rfl ?_ ?_
      (· kernel_rfl)
      simp only [Act.put, List.setIfInBounds_toArray, List.set_cons_succ, List.set_cons_zero]
      with_reducible refine wpList_skipQ _ rfl ?_ ?_
      (· kernel_rfl)
      simp only [Act.put, List.setIfInBounds_toArray, List.set_cons_succ, List.set_cons_zero]
      with_reducible refine wpList_skipQ _ rfl ?_ ?_
      (· kernel_rfl)
      simp only [Act.put, List.setIfInBounds_toArray, List.set_cons_succ, List.set_cons_zero]
      with_reducible refine wpList_skipQ _ rfl ?_ ?_
      (· kernel_rfl)
      simp only [Act.put, List.setIfInBounds_toArray, List.set_cons_succ, List.set_cons_zero]
      with_reducible refine wpList_skipQ _ rfl ?_ ?_
      (· kernel_rfl)
      simp only [Act.put, List.setIfInBounds_toArray, List.set_cons_succ, List.set_cons_zero]
      with_reducible refine wpList_skipQ _ rfl ?_ ?_
      (· kernel_rfl)
      simp only [Act.put, List.setIfInBounds_toArray, List.set_cons_succ, List.set_cons_zero]
      with_reducible refine wpList_skipQ _ rfl ?_ ?_
      (· kernel_rfl)
      simp only [Act.put, List.setIfInBounds_toArray, List.set_cons_succ, List.set_cons_zero]
      with_reducible refine wpList_skipQ _ rfl ?_ ?_
      (· kernel_rfl)
      simp only [Act.put, List.setIfInBounds_toArray, List.set_cons_succ, List.set_cons_zero]
      with_reducible refine wpList_want (v := (.bool false)) (w' := w3) ?_ ?_ ?_
      (· kernel_rfl)
      (· go_simp)
      simp only [Act.put, List.setIfInBounds_toArray, List.set_cons_succ, List.set_cons_zero]
      with_reducible refine wpList_want (v := (.bool false)) (w' := w3) ?_ ?_ ?_
      (· kernel_rfl)
      (· go_simp)
      simp only [Act.put, List.setIfInBounds_toArray, List.set_cons_succ, List.set_cons_zero]
      with_reducible refine wpList_skipQ _ rfl ?_ ?_
      (· kernel_rfl)
      simp only [Act.put, List.setIfInBounds_toArray, List.set_cons_succ, List.set_cons_zero]
      with_reducible refine wpList_skipQ _ rfl ?_ ?_
      (· kernel_rfl)
      simp only [Act.put, List.setIfInBounds_toArray, List.set_cons_succ, List.set_cons_zero]
      with_reducible refine wpList_skipQ _ rfl ?_ ?_
      (· kernel_rfl)
      simp only [Act.put, List.setIfInBounds_toArray, List.set_cons_succ, List.set_cons_zero]
      with_reducible refine wpList_skipQ _ rfl ?_ ?_
      (· kernel_rfl)
      simp only [Act.put, List.setIfInBounds_toArray, List.set_cons_succ, List.set_cons_zero]
      with_reducible refine wpList_want (v := (.bool false)) (w' := w3) ?_ ?_ ?_
      (· kernel_rfl)
      (· go_simp)
      simp only [Act.put, List.setIfInBounds_toArray, List.set_cons_succ, List.set_cons_zero]
      with_reducible refine wpList_want (v := (.bool false)) (w' := w3) ?_ ?_ ?_
      (· kernel_rfl)
      (· go_simp)
      simp only [Act.put, List.setIfInBounds_toArray, List.set_cons_succ, List.set_cons_zero]
      go_wp2_with fail
      go_ret
      exact ⟨by rw [HP3.out]; rfl, HE.out⟩
end Go.Proofs.Ytdagbighlgfhjaa
namespace Go.Proofs.Ytdagbighlgfhjaa
open Go.RowKit

set_option maxRecDepth 100000

theorem len_runQ (p : Option Addr) (n c : Nat) (w : World) : (Builtin.len_ #[39] 3 #[.slice p n c]).run Try.prog w = .ok (.int .i64 n) w := by go_simp
theorem exec_lenQ {o : Oper} {a : Act} {w : World} {p : Option Addr} {n c : Nat} (x : Operand) (ho : o.op = .call { callee := .builtin .len, args := #[x], argTypes := #[39] }) (hx : a.eval x = .slice p n c) : (execOp a.eval o).run Try.prog w = .ok (.value (.int .i64 n)) w := by
  unfold execOp
  have := len_runQ p n c w
  simp [ho, resolve, invoke, builtin, hx, Builtin.len_, Sem.run_bind] at this ⊢
  rw [this]
end Go.Proofs.Ytdagbighlgfhjaa
namespace Go.Proofs.Ytdagbighlgfhjaa
open Go.RowKit

set_option maxRecDepth 100000
set_option maxHeartbeats 4000000

theorem mayEnvQ_enters : ∀ args w, (callFunc 90 args).run Try.prog w = .ok (.enter 90 args) w := enters_of Try.func90 (by kernel_rfl) rfl
theorem bitQ_enters : ∀ args w, (callFunc 89 args).run Try.prog w = .ok (.enter 89 args) w := enters_of Try.func89 (by kernel_rfl) rfl
theorem hbQ_enters : ∀ args w, (callFunc 17 args).run Try.prog w = .ok (.enter 17 args) w := enters_of Try.func17 (by kernel_rfl) rfl
theorem EV.len_is (x : EV) (s : Nat) (h : x.st.sl x.has = s) (k : Nat) (hk : k = 5 + s + 42) : x.len = k + x.nb := by
  unfold EV.len
  rw [h]
  omega
theorem cat_ext {n : Nat} {f f' g : Nat → Nat} (h : ∀ i, i < n → f i = f' i) : cat n f g = cat n f' g := by
  funext i
  unfold cat
  split
  · exact h i ‹_›
  · rfl
theorem refEnvBytes_any (D : Nat) (x : EV) (fb : Nat → Nat) (w : World) (hok : x.Ok) (hR : Rd w D x.ad x.nb fb) (hn : x.nb ≤ 1048576) : Calls Try.prog 21 #[.agg (rowOf 106 x.v)] w (GaveB2 w x.len (x.bytes fb) (envMay x)) := by
  have hX := RowAt.new w 41 106 x.v _ rfl
  have hg := World.grownBy_alloc w (.cells (rowOf 106 x.v) 41) none
  have hz := World.size_alloc w (.cells (rowOf 106 x.v) 41)
  have HRX := Lib.hid hR
  have HNB := Lib.hid hn
  have HOK := Lib.hid hok
  have HWR := Lib.hid (show IntKind.u64.wrap (x.nb : Int) = (x.nb : Int) by rw [IntKind.wrap_u64]; omega)
  have HWO := Lib.hid (show IntKind.u64.wrap (x.st.oid : Int) = (x.st.oid : Int) by have := hok.st.oid; rw [IntKind.wrap_u64]; omega)
  clear hR hn hok
  go_enter Try.func21, Try.ntmps21
  go_upto_region 1 with fail
  obtain ⟨R, hRR⟩ : ∃ R, R = w.heap.size := ⟨_, rfl⟩
  generalize w.alloc (.cells (rowOf 106 x.v) 41) = w1 at *
  rw [← hRR] at hX hz ⊢
  have HG := Lib.hid hg
  have HZ := Lib.hid hz
  have HRR := Lib.hid hRR
  have HXX := Lib.hid hX
  clear hg hz hRR hX
  refine wp_region_held (S := fun W => w1.grownBy W none) (by kernel_rfl) ?_
  change wpAnyH _ _ _ _ _ 13 #[false, false, false, false, false, false, false, false, false, false, false, false, false] _ (World.drew _)
  have gq := grown_drew (grown_refl w1 none)
  generalize World.drew w1 = q1 at *
  refine wpAnyH_takeD (some 5) (i := 0) (v := (.pointer (some ⟨R, 0, none⟩))) rfl rfl (by kernel_rfl) (by kernel_rfl) (by kernel_rfl) (fun _ _ _ h => h) (Or.inl ⟨rfl, fun _ _ => by go_simp⟩) gq ?_
  simp only [Act.put, List.setIfInBounds_toArray, List.set_cons_succ, List.set_cons_zero]
  refine wpAnyH_takeD (some 6) (i := 1) (v := (.agg (cellsOf .u8 2 x.fr))) rfl rfl (by kernel_rfl) (by kernel_rfl) (by kernel_rfl) (fun _ _ _ h => h) (Or.inl ⟨rfl, fun W hW => exec_loadQ (.tmp 5) _ _ rfl rfl ((HXX.out.grown hW (by simp)).load (P := Try.prog) 0 26 2 (fun j => .int .u8 (x.fr j)) (by decide) x.v_fr (by kernel_rfl) (by kernel_rfl))⟩) gq ?_
  simp only [Act.put, List.setIfInBounds_toArray, List.set_cons_succ, List.set_cons_zero]
  refine wpAnyH_takeD (some 8) (i := 3) (v := (.pointer (some ⟨R, 2, none⟩))) rfl rfl (by kernel_rfl) (by kernel_rfl) (by kernel_rfl) (fun _ _ _ h => h) (Or.inl ⟨rfl, fun _ _ => by go_simp⟩) gq ?_
  simp only [Act.put, List.setIfInBounds_toArray, List.set_cons_succ, List.set_cons_zero]
  refine wpAnyH_takeD (some 9) (i := 4) (v := (.agg (cellsOf .u8 2 x.tw))) rfl rfl (by kernel_rfl) (by kernel_rfl) (by kernel_rfl) (fun _ _ _ h => h) (Or.inl ⟨rfl, fun W hW => exec_loadQ (.tmp 8) _ _ rfl rfl ((HXX.out.grown hW (by simp)).load (P := Try.prog) 2 26 2 (fun j => .int .u8 (x.tw j)) (by decide) x.v_to (by kernel_rfl) (by kernel_rfl))⟩) gq ?_
  simp only [Act.put, List.setIfInBounds_toArray, List.set_cons_succ, List.set_cons_zero]
  refine wpAnyH_takeD (some 12) (i := 7) (v := (.pointer (some ⟨R, 4, none⟩))) rfl rfl (by kernel_rfl) (by kernel_rfl) (by kernel_rfl) (fun _ _ _ h => h) (Or.inl ⟨rfl, fun _ _ => by go_simp⟩) gq ?_
  simp only [Act.put, List.setIfInBounds_toArray, List.set_cons_succ, List.set_cons_zero]
  refine wpAnyH_takeD (some 13) (i := 8) (v := (.bool x.has)) rfl rfl (by kernel_rfl) (by kernel_rfl) (by kernel_rfl) (fun _ _ _ h => h) (Or.inl ⟨rfl, fun W hW => exec_loadQ (.tmp 12) _ _ rfl rfl (load_boolQ ((HXX.out.grown hW (by simp)).cell 4 (by decide)))⟩) gq ?_
  simp only [Act.put, List.setIfInBounds_toArray, List.set_cons_succ, List.set_cons_zero]
  refine wpAnyH_callD (some 7) (i := 2) 61 #[.agg (cellsOf .u8 2 x.fr)] (R := fun v W => OwnN W w1.heap.size v 2 x.fr ∧ q1.grownBy W none) (by kernel_rfl) rfl rfl rfl (exec_fn1 _ _ _ rfl rfl) devQ_enters ((refdev_any x.fr q1).mono fun e W' h => by
    obtain ⟨v, rfl, hO, hg⟩ := h.ex
    exact ⟨v, rfl, hO.base gq.size, hg⟩) ?_
  rintro v w2 ⟨hO_w2, hg_w2⟩
  have hG_w2 := grown_trans gq hg_w2
  refine ⟨hG_w2, ?_⟩
  simp only [Act.put, List.setIfInBounds_toArray, List.set_cons_succ, List.set_cons_zero]
  obtain ⟨a2, c2, rfl, _, _⟩ := hO_w2.rd
  refine wpAnyH_callD (some 10) (i := 5) 61 #[.agg (cellsOf .u8 2 x.tw)] (R := fun v W => OwnN W w1.heap.size v 2 x.tw ∧ w2.grownBy W none) (by kernel_rfl) rfl rfl rfl (exec_fn1 _ _ _ rfl rfl) devQ_enters ((refdev_any x.tw w2).mono fun e W' h => by
    obtain ⟨v, rfl, hO, hg⟩ := h.ex
    exact ⟨v, rfl, hO.base hG_w2.size, hg⟩) ?_
  rintro v w3 ⟨hO_w3, hg_w3⟩
  have hG_w3 := grown_trans hG_w2 hg_w3
  refine ⟨hG_w3, ?_⟩
  simp only [Act.put, List.setIfInBounds_toArray, List.set_cons_succ, List.set_cons_zero]
  obtain ⟨a3, c3, rfl, _, hR3⟩ := hO_w3.rd
  obtain ⟨a_w4, c_w4, w4, hap, hO_w4, hG_w4, _⟩ := app_N1 c3 39 hG_w3 (hO_w2.grown hg_w3) hR3 (by omega)
  refine wpAnyH_yieldD (some 11) (i := 6) (v := .slice a_w4 4 c_w4) (by kernel_rfl) rfl rfl rfl (exec_appendQ (.tmp 7) (.tmp 10) _ _ _ rfl rfl rfl rfl hap) hG_w4 ?_
  simp only [Act.put, List.setIfInBounds_toArray, List.set_cons_succ, List.set_cons_zero]
  clear hap
  refine wpAnyH_callD (some 14) (i := 9) 89 #[.bool x.has] (R := fun v W => v = .int .u8 (flagB x.has) ∧ w4 = W) (by kernel_rfl) rfl rfl rfl (exec_fn1 _ _ _ rfl rfl) bitQ_enters ((refBit_any x.has w4).mono fun e W h => ⟨_, h.1, rfl, h.2⟩) ?_
  rintro v wb ⟨rfl, rfl⟩
  refine ⟨hG_w4, ?_⟩
  simp only [Act.put, List.setIfInBounds_toArray, List.set_cons_succ, List.set_cons_zero]
  have ga := World.grownBy_alloc w4 (.cells #[.int .u8 (flagB x.has)] 5) none
  have hRb := rd_one w4 (flagB x.has) (w4.heap.size + 1) (by omega)
  have hGa := grown_trans hG_w4 ga
  refine wpAnyH_yieldD (some 15) (i := 10) (v := .slice (some ⟨w4.heap.size, 0, none⟩) 1 1) (w' := w4.alloc (.cells #[.int .u8 (flagB x.has)] 5)) (by kernel_rfl) rfl rfl rfl (by go_simp) hGa ?_
  simp only [Act.put, List.setIfInBounds_toArray, List.set_cons_succ, List.set_cons_zero]
  obtain ⟨a_w5, c_w5, w5, hap, hO_w5, hG_w5, _⟩ := app_N1 1 39 hGa (hO_w4.grown ga) hRb (by omega)
  refine wpAnyH_yieldD (some 16) (i := 11) (v := .slice a_w5 5 c_w5) (by kernel_rfl) rfl rfl rfl (exec_appendQ (.tmp 11) (.tmp 15) _ _ _ rfl rfl rfl rfl hap) hG_w5 ?_
  simp only [Act.put, List.setIfInBounds_toArray, List.set_cons_succ, List.set_cons_zero]
  clear hap
  refine wpAnyH_yieldD (some 4) (i := 12) (v := .slice a_w5 5 c_w5) (by kernel_rfl) rfl rfl rfl rfl hG_w5 ?_
  simp only [Act.put, List.setIfInBounds_toArray, List.set_cons_succ, List.set_cons_zero]
  refine wpAnyH_done (by kernel_rfl) ?_ _
  have HO_w5 := Lib.hid hO_w5
  have HG_w5 := Lib.hid hG_w5
  clear hO_w2 hg_w2 hG_w2 hO_w3 hg_w3 hG_w3 hR3 hO_w4 hG_w4 ga hRb hGa gq hO_w5 hG_w5
  obtain ⟨hs, hhs⟩ : ∃ b, b = x.has := ⟨_, rfl⟩
  obtain ⟨oc, hoc⟩ : ∃ b, b = x.st.once := ⟨_, rfl⟩
  have c4 : w5.cell? ⟨R, 4, none⟩ = some (.bool hs) := by rw [hhs]; exact (HXX.out.grown HG_w5.out (by simp)).cell 4 (by decide)
  have HHS := Lib.hid hhs
  have HOC := Lib.hid hoc
  clear hhs hoc
  cases hs with
  | false =>
    have HSL := Lib.hid (show x.st.sl x.has = 0 by rw [← HHS.out]; rfl)
    go_upto_region 7 with fail
    clear c4
    refine wp_region_held (S := fun W => w1.grownBy W none) (by kernel_rfl) ?_
    change wpAnyH _ _ _ _ _ 12 #[false, false, false, false, false, false, false, false, false, false, false, false] _ (World.drew _)
    have gq := grown_drew HG_w5.out
    have hOq := HO_w5.out.grown (grown_drew (grown_refl w5 none))
    generalize World.drew w5 = q7 at *
    refine wpAnyH_takeD (some 47) (i := 0) (v := (.slice a_w5 5 c_w5)) rfl rfl (by kernel_rfl) (by kernel_rfl) (by kernel_rfl) (fun _ _ _ h => h) (Or.inl ⟨rfl, fun _ _ => rfl⟩) gq ?_
    simp only [Act.put, List.setIfInBounds_toArray, List.set_cons_succ, List.set_cons_zero]
    refine wpAnyH_takeD (some 48) (i := 1) (v := (.pointer (some ⟨R, 71, none⟩))) rfl rfl (by kernel_rfl) (by kernel_rfl) (by kernel_rfl) (fun _ _ _ h => h) (Or.inl ⟨rfl, fun _ _ => by go_simp⟩) gq ?_
    simp only [Act.put, List.setIfInBounds_toArray, List.set_cons_succ, List.set_cons_zero]
    refine wpAnyH_takeD (some 49) (i := 2) (v := (.agg (rowOf 34 x.hd.v))) rfl rfl (by kernel_rfl) (by kernel_rfl) (by kernel_rfl) (fun _ _ _ h => h) (Or.inl ⟨rfl, fun W hW => exec_loadQ (.tmp 48) _ _ rfl rfl ((HXX.out.grown hW (by simp)).load (P := Try.prog) 71 36 34 x.hd.v (by decide) x.v_hd (by kernel_rfl) (by kernel_rfl))⟩) gq ?_
    simp only [Act.put, List.setIfInBounds_toArray, List.set_cons_succ, List.set_cons_zero]
    refine wpAnyH_takeD (some 52) (i := 5) (v := (.pointer (some ⟨R, 105, none⟩))) rfl rfl (by kernel_rfl) (by kernel_rfl) (by kernel_rfl) (fun _ _ _ h => h) (Or.inl ⟨rfl, fun _ _ => by go_simp⟩) gq ?_
    simp only [Act.put, List.setIfInBounds_toArray, List.set_cons_succ, List.set_cons_zero]
    refine wpAnyH_takeD (some 53) (i := 6) (v := (.slice x.ad x.nb x.cb)) rfl rfl (by kernel_rfl) (by kernel_rfl) (by kernel_rfl) (fun _ _ _ h => h) (Or.inl ⟨rfl, fun W hW => exec_loadQ (.tmp 52) _ _ rfl rfl (load_sliceQ ((HXX.out.grown hW (by simp)).cell 105 (by decide)))⟩) gq ?_
    simp only [Act.put, List.setIfInBounds_toArray, List.set_cons_succ, List.set_cons_zero]
    refine wpAnyH_takeD (some 54) (i := 7) (v := (.int .i64 x.nb)) rfl rfl (by kernel_rfl) (by kernel_rfl) (by kernel_rfl) (fun _ _ _ h => h) (Or.inl ⟨rfl, fun _ _ => exec_lenQ (.tmp 53) rfl rfl⟩) gq ?_
    simp only [Act.put, List.setIfInBounds_toArray, List.set_cons_succ, List.set_cons_zero]
    refine wpAnyH_takeD (some 55) (i := 8) (v := (.int .u64 x.nb)) rfl rfl (by kernel_rfl) (by kernel_rfl) (by kernel_rfl) (fun _ _ _ h => h) (Or.inl ⟨rfl, fun _ _ => by have := HWR.out; unfold execOp; go_simp⟩) gq ?_
    simp only [Act.put, List.setIfInBounds_toArray, List.set_cons_succ, List.set_cons_zero]
    refine wpAnyH_callD (some 50) (i := 3) 17 #[.agg (rowOf 34 x.hd.v)] (R := fun v W => OwnN W w1.heap.size v 40 x.hd.bytes ∧ q7.grownBy W none) (by kernel_rfl) rfl rfl rfl (exec_fn1 _ _ _ rfl rfl) hbQ_enters ((refHdrBytes_any x.hd q7 HOK.out.hd).mono fun e W' h => by
      obtain ⟨a, c, rfl, hO⟩ := h.ex
      exact ⟨_, rfl, hO.base gq.size, h.gr⟩) ?_
    rintro v wA ⟨hO_wA, hg_wA⟩
    have hG_wA := grown_trans gq hg_wA
    refine ⟨hG_wA, ?_⟩
    simp only [Act.put, List.setIfInBounds_toArray, List.set_cons_succ, List.set_cons_zero]
    obtain ⟨aA, cA, rfl, _, hRA⟩ := hO_wA.rd
    obtain ⟨a_wB, c_wB, wB, hap, hO_wB, hG_wB, _⟩ := app_N1 cA 39 hG_wA (hOq.grown hg_wA) hRA (by omega)
    refine wpAnyH_yieldD (some 51) (i := 4) (v := .slice a_wB 45 c_wB) (by kernel_rfl) rfl rfl rfl (exec_appendQ (.tmp 47) (.tmp 50) _ _ _ rfl rfl rfl rfl hap) hG_wB ?_
    simp only [Act.put, List.setIfInBounds_toArray, List.set_cons_succ, List.set_cons_zero]
    clear hap
    refine wpAnyH_callD (some 56) (i := 9) 60 #[.int .u64 x.nb, .int .i64 (2 : Nat)] (R := fun v W => ∃ b, v = .slice (some ⟨b, 0, none⟩) 2 2 ∧ Rd W W.heap.size (some ⟨b, 0, none⟩) 2 (nbF x.nb 2) ∧ wB.grownBy W none) (by kernel_rfl) rfl rfl rfl (exec_fn2 _ _ _ _ _ rfl rfl rfl) numberQ_enters ((sgNumber_any x.nb 2 (by have := HNB.out; omega) (by decide) (by decide) wB).mono fun e W' h => by
      obtain ⟨b, rfl, _, hF⟩ := h.ex
      exact ⟨_, rfl, b, rfl, (hF.own (by decide)).rd, h.gr⟩) ?_
    rintro v wC ⟨b_wC, rfl, hR_wC, hg_wC⟩
    have hG_wC := grown_trans hG_wB hg_wC
    refine ⟨hG_wC, ?_⟩
    simp only [Act.put, List.setIfInBounds_toArray, List.set_cons_succ, List.set_cons_zero]
    obtain ⟨a_wD, c_wD, wD, hap, hO_wD, hG_wD, _⟩ := app_N1 2 39 hG_wC (hO_wB.grown hg_wC) hR_wC (by omega)
    refine wpAnyH_yieldD (some 57) (i := 10) (v := .slice a_wD 47 c_wD) (by kernel_rfl) rfl rfl rfl (exec_appendQ (.tmp 51) (.tmp 56) _ _ _ rfl rfl rfl rfl hap) hG_wD ?_
    simp only [Act.put, List.setIfInBounds_toArray, List.set_cons_succ, List.set_cons_zero]
    clear hap
    refine wpAnyH_yieldD (some 4) (i := 11) (v := .slice a_wD 47 c_wD) (by kernel_rfl) rfl rfl rfl rfl hG_wD ?_
    simp only [Act.put, List.setIfInBounds_toArray, List.set_cons_succ, List.set_cons_zero]
    refine wpAnyH_done (by kernel_rfl) ?_ _
    have HO_wD := Lib.hid hO_wD
    have HG_wD := Lib.hid hG_wD
    clear hO_wA hg_wA hG_wA hRA hO_wB hG_wB hR_wC hg_wC hG_wC gq hOq hO_wD hG_wD
    go_upto_region 8 with fail
    refine wp_region_held (S := fun W => w1.grownBy W none) (by kernel_rfl) ?_
    change wpAnyH _ _ _ _ _ 8 #[false, false, false, false, false, false, false, false] _ (World.drew _)
    have gq := grown_drew HG_wD.out
    have hOq := HO_wD.out.grown (grown_drew (grown_refl wD none))
    generalize World.drew wD = q8 at *
    refine wpAnyH_takeD (some 58) (i := 0) (v := (.slice a_wD 47 c_wD)) rfl rfl (by kernel_rfl) (by kernel_rfl) (by kernel_rfl) (fun _ _ _ h => h) (Or.inl ⟨rfl, fun _ _ => rfl⟩) gq ?_
    simp only [Act.put, List.setIfInBounds_toArray, List.set_cons_succ, List.set_cons_zero]
    refine wpAnyH_takeD (some 59) (i := 1) (v := (.pointer (some ⟨R, 105, none⟩))) rfl rfl (by kernel_rfl) (by kernel_rfl) (by kernel_rfl) (fun _ _ _ h => h) (Or.inl ⟨rfl, fun _ _ => by go_simp⟩) gq ?_
    simp only [Act.put, List.setIfInBounds_toArray, List.set_cons_succ, List.set_cons_zero]
    refine wpAnyH_takeD (some 60) (i := 2) (v := (.slice x.ad x.nb x.cb)) rfl rfl (by kernel_rfl) (by kernel_rfl) (by kernel_rfl) (fun _ _ _ h => h) (Or.inl ⟨rfl, fun W hW => exec_loadQ (.tmp 59) _ _ rfl rfl (load_sliceQ ((HXX.out.grown hW (by simp)).cell 105 (by decide)))⟩) gq ?_
    simp only [Act.put, List.setIfInBounds_toArray, List.set_cons_succ, List.set_cons_zero]
    refine wpAnyH_takeD (some 62) (i := 4) (v := (.agg (rowOf 106 x.v))) rfl rfl (by kernel_rfl) (by kernel_rfl) (by kernel_rfl) (fun _ _ _ h => h) (Or.inl ⟨rfl, fun W hW => exec_loadQ (.tmp 1) _ _ rfl rfl ((HXX.out.grown hW (by simp)).load (P := Try.prog) 0 41 106 x.v (by decide) (fun j _ => by rw [Nat.zero_add]) (by kernel_rfl) (by kernel_rfl))⟩) gq ?_
    simp only [Act.put, List.setIfInBounds_toArray, List.set_cons_succ, List.set_cons_zero]
    obtain ⟨a_wE, c_wE, wE, hap, hO_wE, hG_wE, _⟩ := app_N1 x.cb 39 gq hOq (HRX.out.grown (grown_trans HG.out gq) (by simp)) (by have := HNB.out; omega)
    refine wpAnyH_yieldD (some 61) (i := 3) (v := .slice a_wE (47 + x.nb) c_wE) (by kernel_rfl) rfl rfl rfl (exec_appendQ (.tmp 58) (.tmp 60) _ _ _ rfl rfl rfl rfl hap) hG_wE ?_
    simp only [Act.put, List.setIfInBounds_toArray, List.set_cons_succ, List.set_cons_zero]
    clear hap
    refine wpAnyH_callD (some 63) (i := 5) 90 #[.agg (rowOf 106 x.v)] (R := fun v W => v = .bool (envMay x) ∧ wE.grownBy W none) (by kernel_rfl) rfl rfl rfl (exec_fn1 _ _ _ rfl rfl) mayEnvQ_enters ((refMayEnv_any x wE).mono fun e W' h => ⟨_, h.1, rfl, h.2⟩) ?_
    rintro v wF ⟨rfl, hgF⟩
    have hG_wF := grown_trans hG_wE hgF
    refine ⟨hG_wF, ?_⟩
    simp only [Act.put, List.setIfInBounds_toArray, List.set_cons_succ, List.set_cons_zero]
    refine wpAnyH_yieldD (some 2) (i := 6) (v := .slice a_wE (47 + x.nb) c_wE) (by kernel_rfl) rfl rfl rfl rfl hG_wF ?_
    simp only [Act.put, List.setIfInBounds_toArray, List.set_cons_succ, List.set_cons_zero]
    refine wpAnyH_yieldD (some 3) (i := 7) (v := .bool (envMay x)) (by kernel_rfl) rfl rfl rfl rfl hG_wF ?_
    simp only [Act.put, List.setIfInBounds_toArray, List.set_cons_succ, List.set_cons_zero]
    refine wpAnyH_done (by kernel_rfl) ?_ _
    have HOF := Lib.hid (hO_wE.grown hgF)
    have HGF := Lib.hid hG_wF
    clear hO_wE hG_wE hgF hG_wF gq hOq
    go_wp2_with fail
    go_ret2
    exact ⟨⟨a_wE, c_wE, by rw [EV.len_is x 0 HSL.out 47 (by decide)]; rfl, by rw [EV.len_is x 0 HSL.out 47 (by decide)]; exact (HOF.out.base (by have := HRR.out; have := HZ.out; omega)).congr (fun i hi => by unfold EV.bytes; rw [HSL.out]; exact congrFun (congrArg (fun q => cat 47 (cat 45 (cat 5 q x.hd.bytes) (nbF x.nb 2)) fb) rfl) i |>.trans (by rw [show cat 5 (cat 5 (cat 4 (cat 2 x.fr x.tw) fun _ => flagB x.has) x.st.sf) x.hd.bytes = cat 5 (cat 4 (cat 2 x.fr x.tw) fun _ => flagB x.has) x.hd.bytes from cat_ext (fun k hk => cat_low hk)]))⟩, grown_trans HG.out HGF.out⟩
  | true =>
    go_upto_region 3 with fail
    clear c4
    refine wp_region_held (S := fun W => w1.grownBy W none) (by kernel_rfl) ?_
    change wpAnyH _ _ _ _ _ 12 #[false, false, false, false, false, false, false, false, false, false, false, false] _ (World.drew _)
    have gq := grown_drew HG_w5.out
    have hOq := HO_w5.out.grown (grown_drew (grown_refl w5 none))
    generalize World.drew w5 = q3 at *
    refine wpAnyH_takeD (some 19) (i := 0) (v := (.slice a_w5 5 c_w5)) rfl rfl (by kernel_rfl) (by kernel_rfl) (by kernel_rfl) (fun _ _ _ h => h) (Or.inl ⟨rfl, fun _ _ => rfl⟩) gq ?_
    simp only [Act.put, List.setIfInBounds_toArray, List.set_cons_succ, List.set_cons_zero]
    refine wpAnyH_takeD (some 20) (i := 1) (v := (.pointer (some ⟨R, 5, none⟩))) rfl rfl (by kernel_rfl) (by kernel_rfl) (by kernel_rfl) (fun _ _ _ h => h) (Or.inl ⟨rfl, fun _ _ => by go_simp⟩) gq ?_
    simp only [Act.put, List.setIfInBounds_toArray, List.set_cons_succ, List.set_cons_zero]
    refine wpAnyH_takeD (some 21) (i := 2) (v := (.pointer (some ⟨R, 5, none⟩))) rfl rfl (by kernel_rfl) (by kernel_rfl) (by kernel_rfl) (fun _ _ _ h => h) (Or.inl ⟨rfl, fun _ _ => by go_simp⟩) gq ?_
    simp only [Act.put, List.setIfInBounds_toArray, List.set_cons_succ, List.set_cons_zero]
    refine wpAnyH_takeD (some 22) (i := 3) (v := (.agg (cellsOf .u8 32 x.st.ident))) rfl rfl (by kernel_rfl) (by kernel_rfl) (by kernel_rfl) (fun _ _ _ h => h) (Or.inl ⟨rfl, fun W hW => exec_loadQ (.tmp 21) _ _ rfl rfl ((HXX.out.grown hW (by simp)).load (P := Try.prog) 5 28 32 (fun j => .int .u8 (x.st.ident j)) (by decide) (fun j hj => (EV.v_st x j (by omega)).trans (by have := x.st.v_ident j hj; rwa [Nat.zero_add] at this)) (by kernel_rfl) (by kernel_rfl))⟩) gq ?_
    simp only [Act.put, List.setIfInBounds_toArray, List.set_cons_succ, List.set_cons_zero]
    refine wpAnyH_takeD (some 25) (i := 6) (v := (.pointer (some ⟨R, 5, none⟩))) rfl rfl (by kernel_rfl) (by kernel_rfl) (by kernel_rfl) (fun _ _ _ h => h) (Or.inl ⟨rfl, fun _ _ => by go_simp⟩) gq ?_
    simp only [Act.put, List.setIfInBounds_toArray, List.set_cons_succ, List.set_cons_zero]
    refine wpAnyH_takeD (some 26) (i := 7) (v := (.pointer (some ⟨R, 37, none⟩))) rfl rfl (by kernel_rfl) (by kernel_rfl) (by kernel_rfl) (fun _ _ _ h => h) (Or.inl ⟨rfl, fun _ _ => by go_simp⟩) gq ?_
    simp only [Act.put, List.setIfInBounds_toArray, List.set_cons_succ, List.set_cons_zero]
    refine wpAnyH_takeD (some 27) (i := 8) (v := (.agg (cellsOf .u8 32 x.st.eph))) rfl rfl (by kernel_rfl) (by kernel_rfl) (by kernel_rfl) (fun _ _ _ h => h) (Or.inl ⟨rfl, fun W hW => exec_loadQ (.tmp 26) _ _ rfl rfl ((HXX.out.grown hW (by simp)).load (P := Try.prog) 37 28 32 (fun j => .int .u8 (x.st.eph j)) (by decide) (fun j hj => by rw [show 37 + j = 5 + (32 + j) by omega]; exact (EV.v_st x (32 + j) (by omega)).trans (x.st.v_eph j hj)) (by kernel_rfl) (by kernel_rfl))⟩) gq ?_
    simp only [Act.put, List.setIfInBounds_toArray, List.set_cons_succ, List.set_cons_zero]
    refine wpAnyH_callD (some 23) (i := 4) 62 #[.agg (cellsOf .u8 32 x.st.ident)] (R := fun v W => OwnN W w1.heap.size v 32 x.st.ident ∧ q3.grownBy W none) (by kernel_rfl) rfl rfl rfl (exec_fn1 _ _ _ rfl rfl) keyQ_enters ((sgKey_any x.st.ident q3).mono fun e W' h => by
    obtain ⟨v, rfl, hO, hg⟩ := h.ex
    exact ⟨v, rfl, hO.base gq.size, hg⟩) ?_
    rintro v w6 ⟨hO_w6, hg_w6⟩
    have hG_w6 := grown_trans gq hg_w6
    refine ⟨hG_w6, ?_⟩
    simp only [Act.put, List.setIfInBounds_toArray, List.set_cons_succ, List.set_cons_zero]
    obtain ⟨a6, c6, rfl, _, hR6⟩ := hO_w6.rd
    obtain ⟨a_w7, c_w7, w7, hap, hO_w7, hG_w7, _⟩ := app_N1 c6 39 hG_w6 (hOq.grown hg_w6) hR6 (by omega)
    refine wpAnyH_yieldD (some 24) (i := 5) (v := .slice a_w7 37 c_w7) (by kernel_rfl) rfl rfl rfl (exec_appendQ (.tmp 19) (.tmp 23) _ _ _ rfl rfl rfl rfl hap) hG_w7 ?_
    simp only [Act.put, List.setIfInBounds_toArray, List.set_cons_succ, List.set_cons_zero]
    clear hap
    refine wpAnyH_callD (some 28) (i := 9) 62 #[.agg (cellsOf .u8 32 x.st.eph)] (R := fun v W => OwnN W w1.heap.size v 32 x.st.eph ∧ w7.grownBy W none) (by kernel_rfl) rfl rfl rfl (exec_fn1 _ _ _ rfl rfl) keyQ_enters ((sgKey_any x.st.eph w7).mono fun e W' h => by
    obtain ⟨v, rfl, hO, hg⟩ := h.ex
    exact ⟨v, rfl, hO.base hG_w7.size, hg⟩) ?_
    rintro v w8 ⟨hO_w8, hg_w8⟩
    have hG_w8 := grown_trans hG_w7 hg_w8
    refine ⟨hG_w8, ?_⟩
    simp only [Act.put, List.setIfInBounds_toArray, List.set_cons_succ, List.set_cons_zero]
    obtain ⟨a8, c8, rfl, _, hR8⟩ := hO_w8.rd
    obtain ⟨a_w9, c_w9, w9, hap, hO_w9, hG_w9, _⟩ := app_N1 c8 39 hG_w8 (hO_w7.grown hg_w8) hR8 (by omega)
    refine wpAnyH_yieldD (some 29) (i := 10) (v := .slice a_w9 69 c_w9) (by kernel_rfl) rfl rfl rfl (exec_appendQ (.tmp 24) (.tmp 28) _ _ _ rfl rfl rfl rfl hap) hG_w9 ?_
    simp only [Act.put, List.setIfInBounds_toArray, List.set_cons_succ, List.set_cons_zero]
    clear hap
    refine wpAnyH_yieldD (some 4) (i := 11) (v := .slice a_w9 69 c_w9) (by kernel_rfl) rfl rfl rfl rfl hG_w9 ?_
    simp only [Act.put, List.setIfInBounds_toArray, List.set_cons_succ, List.set_cons_zero]
    refine wpAnyH_done (by kernel_rfl) ?_ _
    have HO_w9 := Lib.hid hO_w9
    have HG_w9 := Lib.hid hG_w9
    clear hO_w6 hg_w6 hG_w6 hR6 hO_w7 hG_w7 hO_w8 hg_w8 hG_w8 hR8 gq hOq hO_w9 hG_w9
    have c69 : w9.cell? ⟨R, 69, none⟩ = some (.bool oc) := (HXX.out.grown HG_w9.out (by simp)).cell 69 (by decide) |>.trans (by rw [HOC.out]; rfl)
    have HBI := Lib.hid (refBit_any oc w9)
    go_wp2_with fail
    go_at_call 89
    refine HBI.out.mono ?_
    rintro e wb ⟨rfl, rfl⟩
    have ga := World.grownBy_alloc w9 (.cells #[.int .u8 (flagB oc)] 5) none
    have hRb := rd_one w9 (flagB oc) (w9.heap.size + 1) (by omega)
    obtain ⟨a_wG, c_wG, wG, hap, hO_wG, hG_wG, _⟩ := app_N1 1 39 (grown_trans HG_w9.out ga) (HO_w9.out.grown ga) hRb (by omega)
    have HAP := Lib.hid hap
    have HO_wG := Lib.hid hO_wG
    have HG_wG := Lib.hid hG_wG
    clear hap hO_wG hG_wG ga hRb HBI c69
    go_upto_region 5 with (at_builtin; refine wpList_append_run rfl (.tmp 30) (.tmp 35) 39 39 rfl _ _ _ _ rfl rfl HAP.out ?_)
    have c69 : wG.cell? ⟨R, 69, none⟩ = some (.bool oc) := (HXX.out.grown HG_wG.out (by simp)).cell 69 (by decide) |>.trans (by rw [HOC.out]; rfl)
    clear HAP
    cases oc with
    | false =>
      go_upto_region 7 with fail
      clear c69
      have HSL := Lib.hid (show x.st.sl x.has = 65 by rw [← HHS.out]; unfold SetV.sl; rw [← HOC.out]; rfl)
      refine wp_region_held (S := fun W => w1.grownBy W none) (by kernel_rfl) ?_
      change wpAnyH _ _ _ _ _ 12 #[false, false, false, false, false, false, false, false, false, false, false, false] _ (World.drew _)
      have gq := grown_drew HG_wG.out
      have hOq := HO_wG.out.grown (grown_drew (grown_refl wG none))
      generalize World.drew wG = q7 at *
      refine wpAnyH_takeD (some 47) (i := 0) (v := (.slice a_wG 70 c_wG)) rfl rfl (by kernel_rfl) (by kernel_rfl) (by kernel_rfl) (fun _ _ _ h => h) (Or.inl ⟨rfl, fun _ _ => rfl⟩) gq ?_
      simp only [Act.put, List.setIfInBounds_toArray, List.set_cons_succ, List.set_cons_zero]
      refine wpAnyH_takeD (some 48) (i := 1) (v := (.pointer (some ⟨R, 71, none⟩))) rfl rfl (by kernel_rfl) (by kernel_rfl) (by kernel_rfl) (fun _ _ _ h => h) (Or.inl ⟨rfl, fun _ _ => by go_simp⟩) gq ?_
      simp only [Act.put, List.setIfInBounds_toArray, List.set_cons_succ, List.set_cons_zero]
      refine wpAnyH_takeD (some 49) (i := 2) (v := (.agg (rowOf 34 x.hd.v))) rfl rfl (by kernel_rfl) (by kernel_rfl) (by kernel_rfl) (fun _ _ _ h => h) (Or.inl ⟨rfl, fun W hW => exec_loadQ (.tmp 48) _ _ rfl rfl ((HXX.out.grown hW (by simp)).load (P := Try.prog) 71 36 34 x.hd.v (by decide) x.v_hd (by kernel_rfl) (by kernel_rfl))⟩) gq ?_
      simp only [Act.put, List.setIfInBounds_toArray, List.set_cons_succ, List.set_cons_zero]
      refine wpAnyH_takeD (some 52) (i := 5) (v := (.pointer (some ⟨R, 105, none⟩))) rfl rfl (by kernel_rfl) (by kernel_rfl) (by kernel_rfl) (fun _ _ _ h => h) (Or.inl ⟨rfl, fun _ _ => by go_simp⟩) gq ?_
      simp only [Act.put, List.setIfInBounds_toArray, List.set_cons_succ, List.set_cons_zero]
      refine wpAnyH_takeD (some 53) (i := 6) (v := (.slice x.ad x.nb x.cb)) rfl rfl (by kernel_rfl) (by kernel_rfl) (by kernel_rfl) (fun _ _ _ h => h) (Or.inl ⟨rfl, fun W hW => exec_loadQ (.tmp 52) _ _ rfl rfl (load_sliceQ ((HXX.out.grown hW (by simp)).cell 105 (by decide)))⟩) gq ?_
      simp only [Act.put, List.setIfInBounds_toArray, List.set_cons_succ, List.set_cons_zero]
      refine wpAnyH_takeD (some 54) (i := 7) (v := (.int .i64 x.nb)) rfl rfl (by kernel_rfl) (by kernel_rfl) (by kernel_rfl) (fun _ _ _ h => h) (Or.inl ⟨rfl, fun _ _ => exec_lenQ (.tmp 53) rfl rfl⟩) gq ?_
      simp only [Act.put, List.setIfInBounds_toArray, List.set_cons_succ, List.set_cons_zero]
      refine wpAnyH_takeD (some 55) (i := 8) (v := (.int .u64 x.nb)) rfl rfl (by kernel_rfl) (by kernel_rfl) (by kernel_rfl) (fun _ _ _ h => h) (Or.inl ⟨rfl, fun _ _ => by have := HWR.out; unfold execOp; go_simp⟩) gq ?_
      simp only [Act.put, List.setIfInBounds_toArray, List.set_cons_succ, List.set_cons_zero]
      refine wpAnyH_callD (some 50) (i := 3) 17 #[.agg (rowOf 34 x.hd.v)] (R := fun v W => OwnN W w1.heap.size v 40 x.hd.bytes ∧ q7.grownBy W none) (by kernel_rfl) rfl rfl rfl (exec_fn1 _ _ _ rfl rfl) hbQ_enters ((refHdrBytes_any x.hd q7 HOK.out.hd).mono fun e W' h => by
        obtain ⟨a, c, rfl, hO⟩ := h.ex
        exact ⟨_, rfl, hO.base gq.size, h.gr⟩) ?_
      rintro v wA ⟨hO_wA, hg_wA⟩
      have hG_wA := grown_trans gq hg_wA
      refine ⟨hG_wA, ?_⟩
      simp only [Act.put, List.setIfInBounds_toArray, List.set_cons_succ, List.set_cons_zero]
      obtain ⟨aA, cA, rfl, _, hRA⟩ := hO_wA.rd
      obtain ⟨a_wB, c_wB, wB, hap, hO_wB, hG_wB, _⟩ := app_N1 cA 39 hG_wA (hOq.grown hg_wA) hRA (by omega)
      refine wpAnyH_yieldD (some 51) (i := 4) (v := .slice a_wB 110 c_wB) (by kernel_rfl) rfl rfl rfl (exec_appendQ (.tmp 47) (.tmp 50) _ _ _ rfl rfl rfl rfl hap) hG_wB ?_
      simp only [Act.put, List.setIfInBounds_toArray, List.set_cons_succ, List.set_cons_zero]
      clear hap
      refine wpAnyH_callD (some 56) (i := 9) 60 #[.int .u64 x.nb, .int .i64 (2 : Nat)] (R := fun v W => ∃ b, v = .slice (some ⟨b, 0, none⟩) 2 2 ∧ Rd W W.heap.size (some ⟨b, 0, none⟩) 2 (nbF x.nb 2) ∧ wB.grownBy W none) (by kernel_rfl) rfl rfl rfl (exec_fn2 _ _ _ _ _ rfl rfl rfl) numberQ_enters ((sgNumber_any x.nb 2 (by have := HNB.out; omega) (by decide) (by decide) wB).mono fun e W' h => by
        obtain ⟨b, rfl, _, hF⟩ := h.ex
        exact ⟨_, rfl, b, rfl, (hF.own (by decide)).rd, h.gr⟩) ?_
      rintro v wC ⟨b_wC, rfl, hR_wC, hg_wC⟩
      have hG_wC := grown_trans hG_wB hg_wC
      refine ⟨hG_wC, ?_⟩
      simp only [Act.put, List.setIfInBounds_toArray, List.set_cons_succ, List.set_cons_zero]
      obtain ⟨a_wD, c_wD, wD, hap, hO_wD, hG_wD, _⟩ := app_N1 2 39 hG_wC (hO_wB.grown hg_wC) hR_wC (by omega)
      refine wpAnyH_yieldD (some 57) (i := 10) (v := .slice a_wD 112 c_wD) (by kernel_rfl) rfl rfl rfl (exec_appendQ (.tmp 51) (.tmp 56) _ _ _ rfl rfl rfl rfl hap) hG_wD ?_
      simp only [Act.put, List.setIfInBounds_toArray, List.set_cons_succ, List.set_cons_zero]
      clear hap
      refine wpAnyH_yieldD (some 4) (i := 11) (v := .slice a_wD 112 c_wD) (by kernel_rfl) rfl rfl rfl rfl hG_wD ?_
      simp only [Act.put, List.setIfInBounds_toArray, List.set_cons_succ, List.set_cons_zero]
      refine wpAnyH_done (by kernel_rfl) ?_ _
      have HO_wD := Lib.hid hO_wD
      have HG_wD := Lib.hid hG_wD
      clear hO_wA hg_wA hG_wA hRA hO_wB hG_wB hR_wC hg_wC hG_wC gq hOq hO_wD hG_wD
      go_upto_region 8 with fail
      refine wp_region_held (S := fun W => w1.grownBy W none) (by kernel_rfl) ?_
      change wpAnyH _ _ _ _ _ 8 #[false, false, false, false, false, false, false, false] _ (World.drew _)
      have gq := grown_drew HG_wD.out
      have hOq := HO_wD.out.grown (grown_drew (grown_refl wD none))
      generalize World.drew wD = q8 at *
      refine wpAnyH_takeD (some 58) (i := 0) (v := (.slice a_wD 112 c_wD)) rfl rfl (by kernel_rfl) (by kernel_rfl) (by kernel_rfl) (fun _ _ _ h => h) (Or.inl ⟨rfl, fun _ _ => rfl⟩) gq ?_
      simp only [Act.put, List.setIfInBounds_toArray, List.set_cons_succ, List.set_cons_zero]
      refine wpAnyH_takeD (some 59) (i := 1) (v := (.pointer (some ⟨R, 105, none⟩))) rfl rfl (by kernel_rfl) (by kernel_rfl) (by kernel_rfl) (fun _ _ _ h => h) (Or.inl ⟨rfl, fun _ _ => by go_simp⟩) gq ?_
      simp only [Act.put, List.setIfInBounds_toArray, List.set_cons_succ, List.set_cons_zero]
      refine wpAnyH_takeD (some 60) (i := 2) (v := (.slice x.ad x.nb x.cb)) rfl rfl (by kernel_rfl) (by kernel_rfl) (by kernel_rfl) (fun _ _ _ h => h) (Or.inl ⟨rfl, fun W hW => exec_loadQ (.tmp 59) _ _ rfl rfl (load_sliceQ ((HXX.out.grown hW (by simp)).cell 105 (by decide)))⟩) gq ?_
      simp only [Act.put, List.setIfInBounds_toArray, List.set_cons_succ, List.set_cons_zero]
      refine wpAnyH_takeD (some 62) (i := 4) (v := (.agg (rowOf 106 x.v))) rfl rfl (by kernel_rfl) (by kernel_rfl) (by kernel_rfl) (fun _ _ _ h => h) (Or.inl ⟨rfl, fun W hW => exec_loadQ (.tmp 1) _ _ rfl rfl ((HXX.out.grown hW (by simp)).load (P := Try.prog) 0 41 106 x.v (by decide) (fun j _ => by rw [Nat.zero_add]) (by kernel_rfl) (by kernel_rfl))⟩) gq ?_
      simp only [Act.put, List.setIfInBounds_toArray, List.set_cons_succ, List.set_cons_zero]
      obtain ⟨a_wE, c_wE, wE, hap, hO_wE, hG_wE, _⟩ := app_N1 x.cb 39 gq hOq (HRX.out.grown (grown_trans HG.out gq) (by simp)) (by have := HNB.out; omega)
      refine wpAnyH_yieldD (some 61) (i := 3) (v := .slice a_wE (112 + x.nb) c_wE) (by kernel_rfl) rfl rfl rfl (exec_appendQ (.tmp 58) (.tmp 60) _ _ _ rfl rfl rfl rfl hap) hG_wE ?_
      simp only [Act.put, List.setIfInBounds_toArray, List.set_cons_succ, List.set_cons_zero]
      clear hap
      refine wpAnyH_callD (some 63) (i := 5) 90 #[.agg (rowOf 106 x.v)] (R := fun v W => v = .bool (envMay x) ∧ wE.grownBy W none) (by kernel_rfl) rfl rfl rfl (exec_fn1 _ _ _ rfl rfl) mayEnvQ_enters ((refMayEnv_any x wE).mono fun e W' h => ⟨_, h.1, rfl, h.2⟩) ?_
      rintro v wF ⟨rfl, hgF⟩
      have hG_wF := grown_trans hG_wE hgF
      refine ⟨hG_wF, ?_⟩
      simp only [Act.put, List.setIfInBounds_toArray, List.set_cons_succ, List.set_cons_zero]
      refine wpAnyH_yieldD (some 2) (i := 6) (v := .slice a_wE (112 + x.nb) c_wE) (by kernel_rfl) rfl rfl rfl rfl hG_wF ?_
      simp only [Act.put, List.setIfInBounds_toArray, List.set_cons_succ, List.set_cons_zero]
      refine wpAnyH_yieldD (some 3) (i := 7) (v := .bool (envMay x)) (by kernel_rfl) rfl rfl rfl rfl hG_wF ?_
      simp only [Act.put, List.setIfInBounds_toArray, List.set_cons_succ, List.set_cons_zero]
      refine wpAnyH_done (by kernel_rfl) ?_ _
      have HOF := Lib.hid (hO_wE.grown hgF)
      have HGF := Lib.hid hG_wF
      clear hO_wE hG_wE hgF hG_wF gq hOq
      go_wp2_with fail
      go_ret2
      exact ⟨⟨a_wE, c_wE, by rw [EV.len_is x 65 HSL.out 112 (by decide)]; rfl, by rw [EV.len_is x 65 HSL.out 112 (by decide)]; exact (HOF.out.base (by have := HRR.out; have := HZ.out; omega)).congr (fun i hi => by unfold EV.bytes; rw [HSL.out]; exact congrFun (congrArg (fun q => cat 112 (cat 110 q (nbF x.nb 2)) fb) (cat_ext (fun k hk => by rw [cat_cat 5 32, show 5 + 32 + 32 = 5 + 64 by decide, cat_cat 5 64]; unfold SetV.sf; rw [← HOC.out]; unfold cat; repeat (first | rfl | omega | split)))) i)⟩, grown_trans HG.out HGF.out⟩
    | true =>
      have c70 : wG.cell? ⟨R, 70, none⟩ = some (.int .u32 x.st.oid) := (HXX.out.grown HG_wG.out (by simp)).cell 70 (by decide)
      have hwo : IntKind.u64.wrap (x.st.oid : Int) = (x.st.oid : Int) := HWO.out
      have HN := Lib.hid (sgNumber_any x.st.oid 4 (by have := HOK.out.st.oid; omega) (by decide) (by decide) wG)
      go_wp2_with fail
      go_at_call 60
      refine HN.out.mono ?_
      rintro e wh ⟨⟨b, rfl, _, hF⟩, gh⟩
      obtain ⟨a_wI, c_wI, wI, hap, hO_wI, hG_wI, _⟩ := app_N1 4 39 (grown_trans HG_wG.out gh) (HO_wG.out.grown gh) (hF.own (by decide)).rd (by omega)
      have HAP := Lib.hid hap
      have HO_wI := Lib.hid hO_wI
      have HG_wI := Lib.hid hG_wI
      clear hap hO_wI hG_wI hF gh HN c69 c70 hwo
      go_upto_region 7 with (at_builtin; refine wpList_append_run rfl (.tmp 40) (.tmp 45) 39 39 rfl _ _ _ _ rfl rfl HAP.out ?_)
      clear HAP
      have HSL := Lib.hid (show x.st.sl x.has = 69 by rw [← HHS.out]; unfold SetV.sl; rw [← HOC.out]; rfl)
      refine wp_region_held (S := fun W => w1.grownBy W none) (by kernel_rfl) ?_
      change wpAnyH _ _ _ _ _ 12 #[false, false, false, false, false, false, false, false, false, false, false, false] _ (World.drew _)
      have gq := grown_drew HG_wI.out
      have hOq := HO_wI.out.grown (grown_drew (grown_refl wI none))
      generalize World.drew wI = q7 at *
      refine wpAnyH_takeD (some 47) (i := 0) (v := (.slice a_wI 74 c_wI)) rfl rfl (by kernel_rfl) (by kernel_rfl) (by kernel_rfl) (fun _ _ _ h => h) (Or.inl ⟨rfl, fun _ _ => rfl⟩) gq ?_
      simp only [Act.put, List.setIfInBounds_toArray, List.set_cons_succ, List.set_cons_zero]
      refine wpAnyH_takeD (some 48) (i := 1) (v := (.pointer (some ⟨R, 71, none⟩))) rfl rfl (by kernel_rfl) (by kernel_rfl) (by kernel_rfl) (fun _ _ _ h => h) (Or.inl ⟨rfl, fun _ _ => by go_simp⟩) gq ?_
      simp only [Act.put, List.setIfInBounds_toArray, List.set_cons_succ, List.set_cons_zero]
      refine wpAnyH_takeD (some 49) (i := 2) (v := (.agg (rowOf 34 x.hd.v))) rfl rfl (by kernel_rfl) (by kernel_rfl) (by kernel_rfl) (fun _ _ _ h => h) (Or.inl ⟨rfl, fun W hW => exec_loadQ (.tmp 48) _ _ rfl rfl ((HXX.out.grown hW (by simp)).load (P := Try.prog) 71 36 34 x.hd.v (by decide) x.v_hd (by kernel_rfl) (by kernel_rfl))⟩) gq ?_
      simp only [Act.put, List.setIfInBounds_toArray, List.set_cons_succ, List.set_cons_zero]
      refine wpAnyH_takeD (some 52) (i := 5) (v := (.pointer (some ⟨R, 105, none⟩))) rfl rfl (by kernel_rfl) (by kernel_rfl) (by kernel_rfl) (fun _ _ _ h => h) (Or.inl ⟨rfl, fun _ _ => by go_simp⟩) gq ?_
      simp only [Act.put, List.setIfInBounds_toArray, List.set_cons_succ, List.set_cons_zero]
      refine wpAnyH_takeD (some 53) (i := 6) (v := (.slice x.ad x.nb x.cb)) rfl rfl (by kernel_rfl) (by kernel_rfl) (by kernel_rfl) (fun _ _ _ h => h) (Or.inl ⟨rfl, fun W hW => exec_loadQ (.tmp 52) _ _ rfl rfl (load_sliceQ ((HXX.out.grown hW (by simp)).cell 105 (by decide)))⟩) gq ?_
      simp only [Act.put, List.setIfInBounds_toArray, List.set_cons_succ, List.set_cons_zero]
      refine wpAnyH_takeD (some 54) (i := 7) (v := (.int .i64 x.nb)) rfl rfl (by kernel_rfl) (by kernel_rfl) (by kernel_rfl) (fun _ _ _ h => h) (Or.inl ⟨rfl, fun _ _ => exec_lenQ (.tmp 53) rfl rfl⟩) gq ?_
      simp only [Act.put, List.setIfInBounds_toArray, List.set_cons_succ, List.set_cons_zero]
      refine wpAnyH_takeD (some 55) (i := 8) (v := (.int .u64 x.nb)) rfl rfl (by kernel_rfl) (by kernel_rfl) (by kernel_rfl) (fun _ _ _ h => h) (Or.inl ⟨rfl, fun _ _ => by have := HWR.out; unfold execOp; go_simp⟩) gq ?_
      simp only [Act.put, List.setIfInBounds_toArray, List.set_cons_succ, List.set_cons_zero]
      refine wpAnyH_callD (some 50) (i := 3) 17 #[.agg (rowOf 34 x.hd.v)] (R := fun v W => OwnN W w1.heap.size v 40 x.hd.bytes ∧ q7.grownBy W none) (by kernel_rfl) rfl rfl rfl (exec_fn1 _ _ _ rfl rfl) hbQ_enters ((refHdrBytes_any x.hd q7 HOK.out.hd).mono fun e W' h => by
        obtain ⟨a, c, rfl, hO⟩ := h.ex
        exact ⟨_, rfl, hO.base gq.size, h.gr⟩) ?_
      rintro v wA ⟨hO_wA, hg_wA⟩
      have hG_wA := grown_trans gq hg_wA
      refine ⟨hG_wA, ?_⟩
      simp only [Act.put, List.setIfInBounds_toArray, List.set_cons_succ, List.set_cons_zero]
      obtain ⟨aA, cA, rfl, _, hRA⟩ := hO_wA.rd
      obtain ⟨a_wB, c_wB, wB, hap, hO_wB, hG_wB, _⟩ := app_N1 cA 39 hG_wA (hOq.grown hg_wA) hRA (by omega)
      refine wpAnyH_yieldD (some 51) (i := 4) (v := .slice a_wB 114 c_wB) (by kernel_rfl) rfl rfl rfl (exec_appendQ (.tmp 47) (.tmp 50) _ _ _ rfl rfl rfl rfl hap) hG_wB ?_
      simp only [Act.put, List.setIfInBounds_toArray, List.set_cons_succ, List.set_cons_zero]
      clear hap
      refine wpAnyH_callD (some 56) (i := 9) 60 #[.int .u64 x.nb, .int .i64 (2 : Nat)] (R := fun v W => ∃ b, v = .slice (some ⟨b, 0, none⟩) 2 2 ∧ Rd W W.heap.size (some ⟨b, 0, none⟩) 2 (nbF x.nb 2) ∧ wB.grownBy W none) (by kernel_rfl) rfl rfl rfl (exec_fn2 _ _ _ _ _ rfl rfl rfl) numberQ_enters ((sgNumber_any x.nb 2 (by have := HNB.out; omega) (by decide) (by decide) wB).mono fun e W' h => by
        obtain ⟨b, rfl, _, hF⟩ := h.ex
        exact ⟨_, rfl, b, rfl, (hF.own (by decide)).rd, h.gr⟩) ?_
      rintro v wC ⟨b_wC, rfl, hR_wC, hg_wC⟩
      have hG_wC := grown_trans hG_wB hg_wC
      refine ⟨hG_wC, ?_⟩
      simp only [Act.put, List.setIfInBounds_toArray, List.set_cons_succ, List.set_cons_zero]
      obtain ⟨a_wD, c_wD, wD, hap, hO_wD, hG_wD, _⟩ := app_N1 2 39 hG_wC (hO_wB.grown hg_wC) hR_wC (by omega)
      refine wpAnyH_yieldD (some 57) (i := 10) (v := .slice a_wD 116 c_wD) (by kernel_rfl) rfl rfl rfl (exec_appendQ (.tmp 51) (.tmp 56) _ _ _ rfl rfl rfl rfl hap) hG_wD ?_
      simp only [Act.put, List.setIfInBounds_toArray, List.set_cons_succ, List.set_cons_zero]
      clear hap
      refine wpAnyH_yieldD (some 4) (i := 11) (v := .slice a_wD 116 c_wD) (by kernel_rfl) rfl rfl rfl rfl hG_wD ?_
      simp only [Act.put, List.setIfInBounds_toArray, List.set_cons_succ, List.set_cons_zero]
      refine wpAnyH_done (by kernel_rfl) ?_ _
      have HO_wD := Lib.hid hO_wD
      have HG_wD := Lib.hid hG_wD
      clear hO_wA hg_wA hG_wA hRA hO_wB hG_wB hR_wC hg_wC hG_wC gq hOq hO_wD hG_wD
      go_upto_region 8 with fail
      refine wp_region_held (S := fun W => w1.grownBy W none) (by kernel_rfl) ?_
      change wpAnyH _ _ _ _ _ 8 #[false, false, false, false, false, false, false, false] _ (World.drew _)
      have gq := grown_drew HG_wD.out
      have hOq := HO_wD.out.grown (grown_drew (grown_refl wD none))
      generalize World.drew wD = q8 at *
      refine wpAnyH_takeD (some 58) (i := 0) (v := (.slice a_wD 116 c_wD)) rfl rfl (by kernel_rfl) (by kernel_rfl) (by kernel_rfl) (fun _ _ _ h => h) (Or.inl ⟨rfl, fun _ _ => rfl⟩) gq ?_
      simp only [Act.put, List.setIfInBounds_toArray, List.set_cons_succ, List.set_cons_zero]
      refine wpAnyH_takeD (some 59) (i := 1) (v := (.pointer (some ⟨R, 105, none⟩))) rfl rfl (by kernel_rfl) (by kernel_rfl) (by kernel_rfl) (fun _ _ _ h => h) (Or.inl ⟨rfl, fun _ _ => by go_simp⟩) gq ?_
      simp only [Act.put, List.setIfInBounds_toArray, List.set_cons_succ, List.set_cons_zero]
      refine wpAnyH_takeD (some 60) (i := 2) (v := (.slice x.ad x.nb x.cb)) rfl rfl (by kernel_rfl) (by kernel_rfl) (by kernel_rfl) (fun _ _ _ h => h) (Or.inl ⟨rfl, fun W hW => exec_loadQ (.tmp 59) _ _ rfl rfl (load_sliceQ ((HXX.out.grown hW (by simp)).cell 105 (by decide)))⟩) gq ?_
      simp only [Act.put, List.setIfInBounds_toArray, List.set_cons_succ, List.set_cons_zero]
      refine wpAnyH_takeD (some 62) (i := 4) (v := (.agg (rowOf 106 x.v))) rfl rfl (by kernel_rfl) (by kernel_rfl) (by kernel_rfl) (fun _ _ _ h => h) (Or.inl ⟨rfl, fun W hW => exec_loadQ (.tmp 1) _ _ rfl rfl ((HXX.out.grown hW (by simp)).load (P := Try.prog) 0 41 106 x.v (by decide) (fun j _ => by rw [Nat.zero_add]) (by kernel_rfl) (by kernel_rfl))⟩) gq ?_
      simp only [Act.put, List.setIfInBounds_toArray, List.set_cons_succ, List.set_cons_zero]
      obtain ⟨a_wE, c_wE, wE, hap, hO_wE, hG_wE, _⟩ := app_N1 x.cb 39 gq hOq (HRX.out.grown (grown_trans HG.out gq) (by simp)) (by have := HNB.out; omega)
      refine wpAnyH_yieldD (some 61) (i := 3) (v := .slice a_wE (116 + x.nb) c_wE) (by kernel_rfl) rfl rfl rfl (exec_appendQ (.tmp 58) (.tmp 60) _ _ _ rfl rfl rfl rfl hap) hG_wE ?_
      simp only [Act.put, List.setIfInBounds_toArray, List.set_cons_succ, List.set_cons_zero]
      clear hap
      refine wpAnyH_callD (some 63) (i := 5) 90 #[.agg (rowOf 106 x.v)] (R := fun v W => v = .bool (envMay x) ∧ wE.grownBy W none) (by kernel_rfl) rfl rfl rfl (exec_fn1 _ _ _ rfl rfl) mayEnvQ_enters ((refMayEnv_any x wE).mono fun e W' h => ⟨_, h.1, rfl, h.2⟩) ?_
      rintro v wF ⟨rfl, hgF⟩
      have hG_wF := grown_trans hG_wE hgF
      refine ⟨hG_wF, ?_⟩
      simp only [Act.put, List.setIfInBounds_toArray, List.set_cons_succ, List.set_cons_zero]
      refine wpAnyH_yieldD (some 2) (i := 6) (v := .slice a_wE (116 + x.nb) c_wE) (by kernel_rfl) rfl rfl rfl rfl hG_wF ?_
      simp only [Act.put, List.setIfInBounds_toArray, List.set_cons_succ, List.set_cons_zero]
      refine wpAnyH_yieldD (some 3) (i := 7) (v := .bool (envMay x)) (by kernel_rfl) rfl rfl rfl rfl hG_wF ?_
      simp only [Act.put, List.setIfInBounds_toArray, List.set_cons_succ, List.set_cons_zero]
      refine wpAnyH_done (by kernel_rfl) ?_ _
      have HOF := Lib.hid (hO_wE.grown hgF)
      have HGF := Lib.hid hG_wF
      clear hO_wE hG_wE hgF hG_wF gq hOq
      go_wp2_with fail
      go_ret2
      exact ⟨⟨a_wE, c_wE, by rw [EV.len_is x 69 HSL.out 116 (by decide)]; rfl, by rw [EV.len_is x 69 HSL.out 116 (by decide)]; exact (HOF.out.base (by have := HRR.out; have := HZ.out; omega)).congr (fun i hi => by unfold EV.bytes; rw [HSL.out]; exact congrFun (congrArg (fun q => cat 116 (cat 114 (cat 74 q x.hd.bytes) (nbF x.nb 2)) fb) (by rw [cat_cat 5 32, show 5 + 32 + 32 = 5 + 64 by decide, cat_cat 5 64, show 5 + 64 + 1 = 5 + 65 by decide, cat_cat 5 65]; unfold SetV.sf; rw [← HOC.out])) i)⟩, grown_trans HG.out HGF.out⟩
end Go.Proofs.Ytdagbighlgfhjaa
namespace Go.Proofs.Ytdagbighlgfhjaa
open Go.RowKit

set_option maxRecDepth 100000
set_option maxHeartbeats 4000000

theorem qdBy_enters : ∀ args w, (callFunc 12 args).run Try.prog w = .ok (.enter 12 args) w := enters_of Try.func12 (by kernel_rfl) rfl
theorem qdOf_enters : ∀ args w, (callFunc 13 args).run Try.prog w = .ok (.enter 13 args) w := enters_of Try.func13 (by kernel_rfl) rfl
theorem qdCo_enters : ∀ args w, (callFunc 14 args).run Try.prog w = .ok (.enter 14 args) w := enters_of Try.func14 (by kernel_rfl) rfl
theorem qhBy_enters : ∀ args w, (callFunc 17 args).run Try.prog w = .ok (.enter 17 args) w := enters_of Try.func17 (by kernel_rfl) rfl
theorem qhOf_enters : ∀ args w, (callFunc 15 args).run Try.prog w = .ok (.enter 15 args) w := enters_of Try.func15 (by kernel_rfl) rfl
theorem qhCo_enters : ∀ args w, (callFunc 16 args).run Try.prog w = .ok (.enter 16 args) w := enters_of Try.func16 (by kernel_rfl) rfl
theorem qrBy_enters : ∀ args w, (callFunc 18 args).run Try.prog w = .ok (.enter 18 args) w := enters_of Try.func18 (by kernel_rfl) rfl
theorem qrOf_enters : ∀ args w, (callFunc 19 args).run Try.prog w = .ok (.enter 19 args) w := enters_of Try.func19 (by kernel_rfl) rfl
theorem qrCo_enters : ∀ args w, (callFunc 20 args).run Try.prog w = .ok (.enter 20 args) w := enters_of Try.func20 (by kernel_rfl) rfl
theorem qeBy_enters : ∀ args w, (callFunc 21 args).run Try.prog w = .ok (.enter 21 args) w := enters_of Try.func21 (by kernel_rfl) rfl
theorem qeOf_enters : ∀ args w, (callFunc 22 args).run Try.prog w = .ok (.enter 22 args) w := enters_of Try.func22 (by kernel_rfl) rfl
theorem qeCo_enters : ∀ args w, (callFunc 23 args).run Try.prog w = .ok (.enter 23 args) w := enters_of Try.func23 (by kernel_rfl) rfl
theorem qpBy_enters : ∀ args w, (callFunc 24 args).run Try.prog w = .ok (.enter 24 args) w := enters_of Try.func24 (by kernel_rfl) rfl
theorem qpOf_enters : ∀ args w, (callFunc 25 args).run Try.prog w = .ok (.enter 25 args) w := enters_of Try.func25 (by kernel_rfl) rfl
theorem qpCo_enters : ∀ args w, (callFunc 26 args).run Try.prog w = .ok (.enter 26 args) w := enters_of Try.func26 (by kernel_rfl) rfl
theorem works10_enters : ∀ args w, (callFunc 11 args).run Try.prog w = .ok (.enter 11 args) w := enters_of Try.func11 (by kernel_rfl) rfl
theorem DistPuts_any (x : AV) (w : World) (hO : ∃ (fm : Nat → Nat → Nat) (eb pb : Nat → Nat), x.Ok fm eb pb w) :
    Calls Try.prog 3 #[.agg (rowOf 231 x.v)] w fun e w' => e = .returned (.bool true) ∧ w.grownBy w' none := by
  obtain ⟨fm, eb, pb, hok⟩ := hO
  have ga := World.grownBy_alloc w (.cells (rowOf 231 x.v) 45) none
  have hX := RowAt.new w 45 231 x.v _ rfl
  have HOK := Lib.hid hok
  clear hok
  go_enter Try.func3, Try.ntmps3
  go_upto_region 1 with fail
  obtain ⟨B, hB⟩ : ∃ B, B = w.heap.size := ⟨_, rfl⟩
  rw [← hB] at hX ⊢
  generalize w.alloc (.cells (rowOf 231 x.v) 45) = w1 at *
  have HG1 := Lib.hid ga
  have HX1 := Lib.hid hX
  clear ga hX hB
  have HLA := Lib.hid (HX1.out.load (P := Try.prog) 0 45 231 x.v (by decide) (fun j _ => by rw [Nat.zero_add]) (by kernel_rfl) (by kernel_rfl))
  have HHV := Lib.hid (heavy_any x w1)
  obtain ⟨hv, hhv⟩ : ∃ b, b = x.heavy := ⟨_, rfl⟩
  rw [← hhv] at HHV
  have HHE := Lib.hid hhv
  clear hhv
  go_wp2_with (first | ((with_reducible refine wpList_here ?_); refine wpList_ld (p := .pointer (some ⟨B, 0, none⟩)) 1 ?_ ?_ ?_ HLA.out ?_; (· rfl); go_simp; (· kernel_rfl)))
  go_at_call 10
  refine HHV.out.mono ?_
  rintro e w2 ⟨rfl, g⟩
  have HX2 := Lib.hid (HX1.out.grown g (by simp))
  have HG2 := Lib.hid (grown_trans HG1.out g)
  clear g HLA HHV HX1 HG1
  cases hv with
  | true =>
    have HW := Lib.hid (works_any w2)
    go_wp2_with fail
    go_at_call 11
    refine HW.out.mono ?_
    rintro e w3 ⟨rfl, g⟩
    have HG3 := Lib.hid (grown_trans HG2.out g)
    clear g HW HG2
    go_wp2_with fail
    go_ret
    exact ⟨rfl, HG3.out⟩
  | false =>
    have hl := HHE.out
    unfold AV.heavy at hl
    rw [eq_comm, Bool.or_eq_false_iff, Bool.or_eq_false_iff, decide_eq_false_iff_not, decide_eq_false_iff_not, decide_eq_false_iff_not] at hl
    have HN1 : Hid (x.r.nm ≤ 1048576) := Lib.hid (by omega)
    have HN2 : Hid (x.e.nb ≤ 1048576) := Lib.hid (by omega)
    have HN3 : Hid (x.p.nb ≤ 1048576) := Lib.hid (by omega)
    clear hl HHE
    have HL := Lib.hid (HX2.out.load (P := Try.prog) 0 30 52 x.d.v (by decide) x.v_d (by kernel_rfl) (by kernel_rfl))
    have HBY := Lib.hid (refDistBytes_any x.d w2 ⟨HOK.out.d.ep, HOK.out.d.kid⟩)
    go_wp2_with (first | ((with_reducible refine wpList_here ?_); refine wpList_ld (p := .pointer (some ⟨B, 0, none⟩)) 9 ?_ ?_ ?_ HL.out ?_; (· rfl); go_simp; (· kernel_rfl)))
    go_at_call 12
    refine HBY.out.mono ?_
    rintro e w3 ⟨⟨a, c, rfl, hO⟩, g⟩
    have HX3 := Lib.hid (HX2.out.grown g (by simp))
    have HG3 := Lib.hid (grown_trans HG2.out g)
    obtain ⟨D0, hD0⟩ : ∃ D0, D0 = w3.heap.size := ⟨_, rfl⟩
    have HR : Hid (Rd w3 D0 a 66 x.d.bytes) := Lib.hid (by rw [hD0]; obtain ⟨a', c', e, _, hR⟩ := hO.rd; cases e; exact hR)
    have HOF := Lib.hid (fun W (h : w3.grownBy W none) => ofD_any D0 c a x.d W HOK.out.d (HR.out.grown h (by simp)))
    obtain ⟨m, hm⟩ : ∃ m, m = devMay x.d.sd := ⟨_, rfl⟩
    rw [← hm] at HOF ⊢
    clear hO g hD0 hm HL HBY HX2 HG2 HR
    go_upto_region 4 with fail
    refine wp_region_held (S := fun W => w3.grownBy W none) (by kernel_rfl) ?_
    change wpAnyH _ _ _ _ _ 17 #[false, false, false, false, false, false, false, false, false, false, false, false, false, false, false, false, false] _ (World.drew _)
    have gq := grown_drew (grown_refl w3 none)
    generalize World.drew w3 = q at *
    refine wpAnyH_takeD (some 15) (i := 1) (v := (.pointer (some ⟨B, 0, none⟩))) rfl rfl (by kernel_rfl) (by kernel_rfl) (by kernel_rfl) (fun _ _ _ h => h) (Or.inl ⟨rfl, fun _ _ => by go_simp⟩) gq ?_
    simp only [Act.put, List.setIfInBounds_toArray, List.set_cons_succ, List.set_cons_zero]
    refine wpAnyH_takeD (some 16) (i := 2) (v := (.agg (rowOf 52 x.d.v))) rfl rfl (by kernel_rfl) (by kernel_rfl) (by kernel_rfl) (fun _ _ _ h => h) (Or.inl ⟨rfl, fun W hW => exec_loadQ (.tmp 15) _ _ rfl rfl ((HX3.out.grown hW (by simp)).load (P := Try.prog) 0 30 52 x.d.v (by decide) x.v_d (by kernel_rfl) (by kernel_rfl))⟩) gq ?_
    simp only [Act.put, List.setIfInBounds_toArray, List.set_cons_succ, List.set_cons_zero]
    refine wpAnyH_takeD (some 17) (i := 3) (v := (.slice a 66 c)) rfl rfl (by kernel_rfl) (by kernel_rfl) (by kernel_rfl) (fun _ _ _ h => h) (Or.inl ⟨rfl, fun _ _ => rfl⟩) gq ?_
    simp only [Act.put, List.setIfInBounds_toArray, List.set_cons_succ, List.set_cons_zero]
    refine wpAnyH_takeD (some 18) (i := 4) (v := (.bool m)) rfl rfl (by kernel_rfl) (by kernel_rfl) (by kernel_rfl) (fun _ _ _ h => h) (Or.inl ⟨rfl, fun _ _ => rfl⟩) gq ?_
    simp only [Act.put, List.setIfInBounds_toArray, List.set_cons_succ, List.set_cons_zero]
    refine wpAnyH_callD (some 14) (i := 0) 14 #[] (R := fun v W => v = .agg (rowOf 3 codDist) ∧ q.grownBy W none) (by kernel_rfl) rfl rfl rfl (exec_fn0 _ rfl) qdCo_enters ((codDist_any q).mono fun e W h => ⟨_, h.1, rfl, h.2⟩) ?_
    rintro v y1 ⟨rfl, hy⟩
    have gy1 := grown_trans gq hy
    clear hy
    refine ⟨gy1, ?_⟩
    simp only [Act.put, List.setIfInBounds_toArray, List.set_cons_succ, List.set_cons_zero]
    refine wpAnyH_callD (some 19) (i := 5) 13 #[.agg (rowOf 3 codDist), .agg (rowOf 52 x.d.v), .slice a 66 c, .bool m] (R := fun v W => v = .bool true ∧ y1.grownBy W none) (by kernel_rfl) rfl rfl rfl (exec_fn4 _ _ _ _ _ _ _ _ _ rfl rfl rfl rfl rfl) qdOf_enters ((HOF.out y1 gy1).mono fun e W h => ⟨_, h.1, rfl, h.2⟩) ?_
    rintro v y2 ⟨rfl, hy⟩
    have gy2 := grown_trans gy1 hy
    clear hy
    refine ⟨gy2, ?_⟩
    simp only [Act.put, List.setIfInBounds_toArray, List.set_cons_succ, List.set_cons_zero]
    refine wpAnyH_takeD (some 20) (i := 6) (v := (.bool false)) rfl rfl (by kernel_rfl) (by kernel_rfl) (by kernel_rfl) (fun _ _ _ h => h) (Or.inl ⟨rfl, fun _ _ => by go_simp⟩) gy2 ?_
    simp only [Act.put, List.setIfInBounds_toArray, List.set_cons_succ, List.set_cons_zero]
    refine wpAnyH_takeD (some 21) (i := 7) (v := (.bool false)) rfl rfl (by kernel_rfl) (by kernel_rfl) (by kernel_rfl) (fun _ _ _ h => h) (Or.inl ⟨rfl, fun _ _ => rfl⟩) gy2 ?_
    simp only [Act.put, List.setIfInBounds_toArray, List.set_cons_succ, List.set_cons_zero]
    refine wpAnyH_takeD (some 23) (i := 9) (v := (.pointer (some ⟨B, 70, none⟩))) rfl rfl (by kernel_rfl) (by kernel_rfl) (by kernel_rfl) (fun _ _ _ h => h) (Or.inl ⟨rfl, fun _ _ => by go_simp⟩) gy2 ?_
    simp only [Act.put, List.setIfInBounds_toArray, List.set_cons_succ, List.set_cons_zero]
    refine wpAnyH_takeD (some 24) (i := 10) (v := (.agg (rowOf 34 x.h.v))) rfl rfl (by kernel_rfl) (by kernel_rfl) (by kernel_rfl) (fun _ _ _ h => h) (Or.inl ⟨rfl, fun W hW => exec_loadQ (.tmp 23) _ _ rfl rfl ((HX3.out.grown hW (by simp)).load (P := Try.prog) 70 36 34 x.h.v (by decide) x.v_h (by kernel_rfl) (by kernel_rfl))⟩) gy2 ?_
    simp only [Act.put, List.setIfInBounds_toArray, List.set_cons_succ, List.set_cons_zero]
    refine wpAnyH_takeD (some 25) (i := 11) (v := (.pointer (some ⟨B, 70, none⟩))) rfl rfl (by kernel_rfl) (by kernel_rfl) (by kernel_rfl) (fun _ _ _ h => h) (Or.inl ⟨rfl, fun _ _ => by go_simp⟩) gy2 ?_
    simp only [Act.put, List.setIfInBounds_toArray, List.set_cons_succ, List.set_cons_zero]
    refine wpAnyH_takeD (some 26) (i := 12) (v := (.agg (rowOf 34 x.h.v))) rfl rfl (by kernel_rfl) (by kernel_rfl) (by kernel_rfl) (fun _ _ _ h => h) (Or.inl ⟨rfl, fun W hW => exec_loadQ (.tmp 25) _ _ rfl rfl ((HX3.out.grown hW (by simp)).load (P := Try.prog) 70 36 34 x.h.v (by decide) x.v_h (by kernel_rfl) (by kernel_rfl))⟩) gy2 ?_
    simp only [Act.put, List.setIfInBounds_toArray, List.set_cons_succ, List.set_cons_zero]
    refine wpAnyH_callD (some 22) (i := 8) 16 #[] (R := fun v W => v = .agg (rowOf 3 codHdr) ∧ y2.grownBy W none) (by kernel_rfl) rfl rfl rfl (exec_fn0 _ rfl) qhCo_enters ((codHdr_any y2).mono fun e W h => ⟨_, h.1, rfl, h.2⟩) ?_
    rintro v y3 ⟨rfl, hy⟩
    have gy3 := grown_trans gy2 hy
    clear hy
    refine ⟨gy3, ?_⟩
    simp only [Act.put, List.setIfInBounds_toArray, List.set_cons_succ, List.set_cons_zero]
    refine wpAnyH_callD (some 27) (i := 13) 17 #[.agg (rowOf 34 x.h.v)] (R := fun v W => ∃ a c, v = .slice a 40 c ∧ Rd W W.heap.size a 40 x.h.bytes ∧ y3.grownBy W none) (by kernel_rfl) rfl rfl rfl (exec_fn1 _ _ _ rfl rfl) qhBy_enters ((refHdrBytes_any x.h y3 HOK.out.h).mono fun e W h => by
      obtain ⟨a', c', rfl, hO⟩ := h.ex
      obtain ⟨a2, c2, e2, _, hR⟩ := hO.rd
      cases e2
      exact ⟨_, rfl, a', c', rfl, hR, h.gr⟩) ?_
    rintro v y4 ⟨ah, ch, rfl, hRh, hy⟩
    have gy4 := grown_trans gy3 hy
    clear hy
    refine ⟨gy4, ?_⟩
    simp only [Act.put, List.setIfInBounds_toArray, List.set_cons_succ, List.set_cons_zero]
    refine wpAnyH_callD (some 28) (i := 14) 15 #[.agg (rowOf 3 codHdr), .agg (rowOf 34 x.h.v), .slice ah 40 ch, .bool true] (R := fun v W => v = .bool true ∧ y4.grownBy W none) (by kernel_rfl) rfl rfl rfl (exec_fn4 _ _ _ _ _ _ _ _ _ rfl rfl rfl rfl rfl) qhOf_enters ((ofH_any y4.heap.size ch ah x.h y4 HOK.out.h hRh).mono fun e W h => ⟨_, h.1, rfl, h.2⟩) ?_
    rintro v y5 ⟨rfl, hy⟩
    have gy5 := grown_trans gy4 hy
    clear hy
    refine ⟨gy5, ?_⟩
    simp only [Act.put, List.setIfInBounds_toArray, List.set_cons_succ, List.set_cons_zero]
    clear hRh
    refine wpAnyH_takeD (some 29) (i := 15) (v := (.bool false)) rfl rfl (by kernel_rfl) (by kernel_rfl) (by kernel_rfl) (fun _ _ _ h => h) (Or.inl ⟨rfl, fun _ _ => by go_simp⟩) gy5 ?_
    simp only [Act.put, List.setIfInBounds_toArray, List.set_cons_succ, List.set_cons_zero]
    refine wpAnyH_takeD (some 30) (i := 16) (v := (.bool false)) rfl rfl (by kernel_rfl) (by kernel_rfl) (by kernel_rfl) (fun _ _ _ h => h) (Or.inl ⟨rfl, fun _ _ => by go_simp⟩) gy5 ?_
    simp only [Act.put, List.setIfInBounds_toArray, List.set_cons_succ, List.set_cons_zero]
    refine wpAnyH_done (by kernel_rfl) ?_ _
    obtain ⟨w4, hwj⟩ : ∃ W, W = y5 := ⟨_, rfl⟩
    rw [← hwj] at gy5 ⊢
    have HX4 := Lib.hid (HX3.out.grown gy5 (by simp))
    have HG4 := Lib.hid (grown_trans HG3.out gy5)
    clear HX3 HG3 HOF gy1 gy2 gy3 gy4 gy5 gq hwj
    have HL := Lib.hid (HX4.out.load (P := Try.prog) 52 33 18 x.r.v (by decide) x.v_r (by kernel_rfl) (by kernel_rfl))
    have HBY := Lib.hid (refRosBytes_any w.heap.size x.r fm w4 HOK.out.r.ep (HOK.out.r.rd.grown HG4.out (by simp)) HOK.out.r.fml HN1.out)
    go_wp2_with (first | ((with_reducible refine wpList_here ?_); refine wpList_ld (p := .pointer (some ⟨B, 52, none⟩)) 32 ?_ ?_ ?_ HL.out ?_; (· rfl); go_simp; (· kernel_rfl)))
    go_at_call 18
    refine HBY.out.mono ?_
    rintro e w5 ⟨⟨a, c, rfl, hO⟩, g⟩
    have HX5 := Lib.hid (HX4.out.grown g (by simp))
    have HG5 := Lib.hid (grown_trans HG4.out g)
    obtain ⟨D0, hD0⟩ : ∃ D0, D0 = w5.heap.size := ⟨_, rfl⟩
    have HR : Hid (Rd w5 D0 a x.r.len (x.r.bytes fm)) := Lib.hid (by rw [hD0]; obtain ⟨a', c', e, _, hR⟩ := hO.rd; cases e; exact hR)
    have HOF := Lib.hid (fun W (h : w5.grownBy W none) => ofR_any D0 w.heap.size c a x.r fm W HOK.out.r.id HOK.out.r.ep HOK.out.r.fml (HOK.out.r.rd.grown (grown_trans HG5.out h) (by simp)) HN1.out (HR.out.grown h (by simp)))
    obtain ⟨m, hm⟩ : ∃ m, m = memMay x.r.nm fm := ⟨_, rfl⟩
    rw [← hm] at HOF ⊢
    obtain ⟨n1, hn⟩ : ∃ n, n = x.r.len := ⟨_, rfl⟩
    rw [← hn] at HOF ⊢
    clear hn
    clear hO g hD0 hm HL HBY HX4 HG4 HR
    go_upto_region 7 with fail
    refine wp_region_held (S := fun W => w5.grownBy W none) (by kernel_rfl) ?_
    change wpAnyH _ _ _ _ _ 7 #[false, false, false, false, false, false, false] _ (World.drew _)
    have gq := grown_drew (grown_refl w5 none)
    generalize World.drew w5 = q at *
    refine wpAnyH_takeD (some 38) (i := 1) (v := (.pointer (some ⟨B, 52, none⟩))) rfl rfl (by kernel_rfl) (by kernel_rfl) (by kernel_rfl) (fun _ _ _ h => h) (Or.inl ⟨rfl, fun _ _ => by go_simp⟩) gq ?_
    simp only [Act.put, List.setIfInBounds_toArray, List.set_cons_succ, List.set_cons_zero]
    refine wpAnyH_takeD (some 39) (i := 2) (v := (.agg (rowOf 18 x.r.v))) rfl rfl (by kernel_rfl) (by kernel_rfl) (by kernel_rfl) (fun _ _ _ h => h) (Or.inl ⟨rfl, fun W hW => exec_loadQ (.tmp 38) _ _ rfl rfl ((HX5.out.grown hW (by simp)).load (P := Try.prog) 52 33 18 x.r.v (by decide) x.v_r (by kernel_rfl) (by kernel_rfl))⟩) gq ?_
    simp only [Act.put, List.setIfInBounds_toArray, List.set_cons_succ, List.set_cons_zero]
    refine wpAnyH_takeD (some 40) (i := 3) (v := (.slice a n1 c)) rfl rfl (by kernel_rfl) (by kernel_rfl) (by kernel_rfl) (fun _ _ _ h => h) (Or.inl ⟨rfl, fun _ _ => rfl⟩) gq ?_
    simp only [Act.put, List.setIfInBounds_toArray, List.set_cons_succ, List.set_cons_zero]
    refine wpAnyH_takeD (some 41) (i := 4) (v := (.bool m)) rfl rfl (by kernel_rfl) (by kernel_rfl) (by kernel_rfl) (fun _ _ _ h => h) (Or.inl ⟨rfl, fun _ _ => rfl⟩) gq ?_
    simp only [Act.put, List.setIfInBounds_toArray, List.set_cons_succ, List.set_cons_zero]
    refine wpAnyH_callD (some 37) (i := 0) 20 #[] (R := fun v W => v = .agg (rowOf 3 codRos) ∧ q.grownBy W none) (by kernel_rfl) rfl rfl rfl (exec_fn0 _ rfl) qrCo_enters ((codRos_any q).mono fun e W h => ⟨_, h.1, rfl, h.2⟩) ?_
    rintro v y1 ⟨rfl, hy⟩
    have gy1 := grown_trans gq hy
    clear hy
    refine ⟨gy1, ?_⟩
    simp only [Act.put, List.setIfInBounds_toArray, List.set_cons_succ, List.set_cons_zero]
    refine wpAnyH_callD (some 42) (i := 5) 19 #[.agg (rowOf 3 codRos), .agg (rowOf 18 x.r.v), .slice a n1 c, .bool m] (R := fun v W => v = .bool true ∧ y1.grownBy W none) (by kernel_rfl) rfl rfl rfl (exec_fn4 _ _ _ _ _ _ _ _ _ rfl rfl rfl rfl rfl) qrOf_enters ((HOF.out y1 gy1).mono fun e W h => ⟨_, h.1, rfl, h.2⟩) ?_
    rintro v y2 ⟨rfl, hy⟩
    have gy2 := grown_trans gy1 hy
    clear hy
    refine ⟨gy2, ?_⟩
    simp only [Act.put, List.setIfInBounds_toArray, List.set_cons_succ, List.set_cons_zero]
    refine wpAnyH_takeD (some 43) (i := 6) (v := (.bool false)) rfl rfl (by kernel_rfl) (by kernel_rfl) (by kernel_rfl) (fun _ _ _ h => h) (Or.inl ⟨rfl, fun _ _ => by go_simp⟩) gy2 ?_
    simp only [Act.put, List.setIfInBounds_toArray, List.set_cons_succ, List.set_cons_zero]
    refine wpAnyH_done (by kernel_rfl) ?_ _
    obtain ⟨w6, hwj⟩ : ∃ W, W = y2 := ⟨_, rfl⟩
    rw [← hwj] at gy2 ⊢
    have HX6 := Lib.hid (HX5.out.grown gy2 (by simp))
    have HG6 := Lib.hid (grown_trans HG5.out gy2)
    clear HX5 HG5 HOF gy1 gy2 gq hwj
    have HL := Lib.hid (HX6.out.load (P := Try.prog) 104 41 106 x.e.v (by decide) x.v_e (by kernel_rfl) (by kernel_rfl))
    have HBY := Lib.hid (refEnvBytes_any w.heap.size x.e eb w6 HOK.out.e (HOK.out.eb.rd.grown HG6.out (by simp)) HN2.out)
    go_wp2_with (first | ((with_reducible refine wpList_here ?_); refine wpList_ld (p := .pointer (some ⟨B, 104, none⟩)) 45 ?_ ?_ ?_ HL.out ?_; (· rfl); go_simp; (· kernel_rfl)))
    go_at_call 21
    refine HBY.out.mono ?_
    rintro e w7 ⟨⟨a, c, rfl, hO⟩, g⟩
    have HX7 := Lib.hid (HX6.out.grown g (by simp))
    have HG7 := Lib.hid (grown_trans HG6.out g)
    obtain ⟨D0, hD0⟩ : ∃ D0, D0 = w7.heap.size := ⟨_, rfl⟩
    have HR : Hid (Rd w7 D0 a x.e.len (x.e.bytes eb)) := Lib.hid (by rw [hD0]; obtain ⟨a', c', e, _, hR⟩ := hO.rd; cases e; exact hR)
    have HOF := Lib.hid (fun W (h : w7.grownBy W none) => ofE_any D0 w.heap.size c a x.e eb W HOK.out.e HOK.out.eb.fl (HOK.out.eb.rd.grown (grown_trans HG7.out h) (by simp)) (HR.out.grown h (by simp)))
    obtain ⟨m, hm⟩ : ∃ m, m = envMay x.e := ⟨_, rfl⟩
    rw [← hm] at HOF ⊢
    obtain ⟨n2, hn⟩ : ∃ n, n = x.e.len := ⟨_, rfl⟩
    rw [← hn] at HOF ⊢
    clear hn
    clear hO g hD0 hm HL HBY HX6 HG6 HR
    go_upto_region 10 with fail
    refine wp_region_held (S := fun W => w7.grownBy W none) (by kernel_rfl) ?_
    change wpAnyH _ _ _ _ _ 7 #[false, false, false, false, false, false, false] _ (World.drew _)
    have gq := grown_drew (grown_refl w7 none)
    generalize World.drew w7 = q at *
    refine wpAnyH_takeD (some 51) (i := 1) (v := (.pointer (some ⟨B, 104, none⟩))) rfl rfl (by kernel_rfl) (by kernel_rfl) (by kernel_rfl) (fun _ _ _ h => h) (Or.inl ⟨rfl, fun _ _ => by go_simp⟩) gq ?_
    simp only [Act.put, List.setIfInBounds_toArray, List.set_cons_succ, List.set_cons_zero]
    refine wpAnyH_takeD (some 52) (i := 2) (v := (.agg (rowOf 106 x.e.v))) rfl rfl (by kernel_rfl) (by kernel_rfl) (by kernel_rfl) (fun _ _ _ h => h) (Or.inl ⟨rfl, fun W hW => exec_loadQ (.tmp 51) _ _ rfl rfl ((HX7.out.grown hW (by simp)).load (P := Try.prog) 104 41 106 x.e.v (by decide) x.v_e (by kernel_rfl) (by kernel_rfl))⟩) gq ?_
    simp only [Act.put, List.setIfInBounds_toArray, List.set_cons_succ, List.set_cons_zero]
    refine wpAnyH_takeD (some 53) (i := 3) (v := (.slice a n2 c)) rfl rfl (by kernel_rfl) (by kernel_rfl) (by kernel_rfl) (fun _ _ _ h => h) (Or.inl ⟨rfl, fun _ _ => rfl⟩) gq ?_
    simp only [Act.put, List.setIfInBounds_toArray, List.set_cons_succ, List.set_cons_zero]
    refine wpAnyH_takeD (some 54) (i := 4) (v := (.bool m)) rfl rfl (by kernel_rfl) (by kernel_rfl) (by kernel_rfl) (fun _ _ _ h => h) (Or.inl ⟨rfl, fun _ _ => rfl⟩) gq ?_
    simp only [Act.put, List.setIfInBounds_toArray, List.set_cons_succ, List.set_cons_zero]
    refine wpAnyH_callD (some 50) (i := 0) 23 #[] (R := fun v W => v = .agg (rowOf 3 codEnv) ∧ q.grownBy W none) (by kernel_rfl) rfl rfl rfl (exec_fn0 _ rfl) qeCo_enters ((codEnv_any q).mono fun e W h => ⟨_, h.1, rfl, h.2⟩) ?_
    rintro v y1 ⟨rfl, hy⟩
    have gy1 := grown_trans gq hy
    clear hy
    refine ⟨gy1, ?_⟩
    simp only [Act.put, List.setIfInBounds_toArray, List.set_cons_succ, List.set_cons_zero]
    refine wpAnyH_callD (some 55) (i := 5) 22 #[.agg (rowOf 3 codEnv), .agg (rowOf 106 x.e.v), .slice a n2 c, .bool m] (R := fun v W => v = .bool true ∧ y1.grownBy W none) (by kernel_rfl) rfl rfl rfl (exec_fn4 _ _ _ _ _ _ _ _ _ rfl rfl rfl rfl rfl) qeOf_enters ((HOF.out y1 gy1).mono fun e W h => ⟨_, h.1, rfl, h.2⟩) ?_
    rintro v y2 ⟨rfl, hy⟩
    have gy2 := grown_trans gy1 hy
    clear hy
    refine ⟨gy2, ?_⟩
    simp only [Act.put, List.setIfInBounds_toArray, List.set_cons_succ, List.set_cons_zero]
    refine wpAnyH_takeD (some 56) (i := 6) (v := (.bool false)) rfl rfl (by kernel_rfl) (by kernel_rfl) (by kernel_rfl) (fun _ _ _ h => h) (Or.inl ⟨rfl, fun _ _ => by go_simp⟩) gy2 ?_
    simp only [Act.put, List.setIfInBounds_toArray, List.set_cons_succ, List.set_cons_zero]
    refine wpAnyH_done (by kernel_rfl) ?_ _
    obtain ⟨w8, hwj⟩ : ∃ W, W = y2 := ⟨_, rfl⟩
    rw [← hwj] at gy2 ⊢
    have HX8 := Lib.hid (HX7.out.grown gy2 (by simp))
    have HG8 := Lib.hid (grown_trans HG7.out gy2)
    clear HX7 HG7 HOF gy1 gy2 gq hwj
    have HL := Lib.hid (HX8.out.load (P := Try.prog) 210 43 21 x.p.v (by decide) x.v_p (by kernel_rfl) (by kernel_rfl))
    have HBY := Lib.hid (refPktBytes_any w.heap.size x.p pb w8 (HOK.out.pb.rd.grown HG8.out (by simp)) HN3.out)
    go_wp2_with (first | ((with_reducible refine wpList_here ?_); refine wpList_ld (p := .pointer (some ⟨B, 210, none⟩)) 58 ?_ ?_ ?_ HL.out ?_; (· rfl); go_simp; (· kernel_rfl)))
    go_at_call 24
    refine HBY.out.mono ?_
    rintro e w9 ⟨⟨a, c, rfl, hO⟩, g⟩
    have HX9 := Lib.hid (HX8.out.grown g (by simp))
    have HG9 := Lib.hid (grown_trans HG8.out g)
    obtain ⟨D0, hD0⟩ : ∃ D0, D0 = w9.heap.size := ⟨_, rfl⟩
    have HR : Hid (Rd w9 D0 a x.p.len (x.p.bytes pb)) := Lib.hid (by rw [hD0]; obtain ⟨a', c', e, _, hR⟩ := hO.rd; cases e; exact hR)
    have HOF := Lib.hid (fun W (h : w9.grownBy W none) => ofP_any D0 w.heap.size c a x.p pb W HOK.out.p HOK.out.pb.fl (HOK.out.pb.rd.grown (grown_trans HG9.out h) (by simp)) (HR.out.grown h (by simp)))
    obtain ⟨m, hm⟩ : ∃ m, m = pktMay x.p := ⟨_, rfl⟩
    rw [← hm] at HOF ⊢
    obtain ⟨n3, hn⟩ : ∃ n, n = x.p.len := ⟨_, rfl⟩
    rw [← hn] at HOF ⊢
    clear hn
    clear hO g hD0 hm HL HBY HX8 HG8 HR
    go_upto_region 13 with fail
    refine wp_region_held (S := fun W => w9.grownBy W none) (by kernel_rfl) ?_
    change wpAnyH _ _ _ _ _ 10 #[false, false, false, false, false, false, false, false, false, false] _ (World.drew _)
    have gq := grown_drew (grown_refl w9 none)
    generalize World.drew w9 = q at *
    refine wpAnyH_takeD (some 64) (i := 1) (v := (.pointer (some ⟨B, 210, none⟩))) rfl rfl (by kernel_rfl) (by kernel_rfl) (by kernel_rfl) (fun _ _ _ h => h) (Or.inl ⟨rfl, fun _ _ => by go_simp⟩) gq ?_
    simp only [Act.put, List.setIfInBounds_toArray, List.set_cons_succ, List.set_cons_zero]
    refine wpAnyH_takeD (some 65) (i := 2) (v := (.agg (rowOf 21 x.p.v))) rfl rfl (by kernel_rfl) (by kernel_rfl) (by kernel_rfl) (fun _ _ _ h => h) (Or.inl ⟨rfl, fun W hW => exec_loadQ (.tmp 64) _ _ rfl rfl ((HX9.out.grown hW (by simp)).load (P := Try.prog) 210 43 21 x.p.v (by decide) x.v_p (by kernel_rfl) (by kernel_rfl))⟩) gq ?_
    simp only [Act.put, List.setIfInBounds_toArray, List.set_cons_succ, List.set_cons_zero]
    refine wpAnyH_takeD (some 66) (i := 3) (v := (.slice a n3 c)) rfl rfl (by kernel_rfl) (by kernel_rfl) (by kernel_rfl) (fun _ _ _ h => h) (Or.inl ⟨rfl, fun _ _ => rfl⟩) gq ?_
    simp only [Act.put, List.setIfInBounds_toArray, List.set_cons_succ, List.set_cons_zero]
    refine wpAnyH_takeD (some 67) (i := 4) (v := (.bool m)) rfl rfl (by kernel_rfl) (by kernel_rfl) (by kernel_rfl) (fun _ _ _ h => h) (Or.inl ⟨rfl, fun _ _ => rfl⟩) gq ?_
    simp only [Act.put, List.setIfInBounds_toArray, List.set_cons_succ, List.set_cons_zero]
    refine wpAnyH_callD (some 63) (i := 0) 26 #[] (R := fun v W => v = .agg (rowOf 3 codPkt) ∧ q.grownBy W none) (by kernel_rfl) rfl rfl rfl (exec_fn0 _ rfl) qpCo_enters ((codPkt_any q).mono fun e W h => ⟨_, h.1, rfl, h.2⟩) ?_
    rintro v y1 ⟨rfl, hy⟩
    have gy1 := grown_trans gq hy
    clear hy
    refine ⟨gy1, ?_⟩
    simp only [Act.put, List.setIfInBounds_toArray, List.set_cons_succ, List.set_cons_zero]
    refine wpAnyH_callD (some 68) (i := 5) 25 #[.agg (rowOf 3 codPkt), .agg (rowOf 21 x.p.v), .slice a n3 c, .bool m] (R := fun v W => v = .bool true ∧ y1.grownBy W none) (by kernel_rfl) rfl rfl rfl (exec_fn4 _ _ _ _ _ _ _ _ _ rfl rfl rfl rfl rfl) qpOf_enters ((HOF.out y1 gy1).mono fun e W h => ⟨_, h.1, rfl, h.2⟩) ?_
    rintro v y2 ⟨rfl, hy⟩
    have gy2 := grown_trans gy1 hy
    clear hy
    refine ⟨gy2, ?_⟩
    simp only [Act.put, List.setIfInBounds_toArray, List.set_cons_succ, List.set_cons_zero]
    refine wpAnyH_takeD (some 69) (i := 6) (v := (.bool true)) rfl rfl (by kernel_rfl) (by kernel_rfl) (by kernel_rfl) (fun _ _ _ h => h) (Or.inl ⟨rfl, fun _ _ => rfl⟩) gy2 ?_
    simp only [Act.put, List.setIfInBounds_toArray, List.set_cons_succ, List.set_cons_zero]
    refine wpAnyH_callD (some 70) (i := 7) 11 #[] (R := fun v W => v = .bool true ∧ y2.grownBy W none) (by kernel_rfl) rfl rfl rfl (exec_fn0 _ rfl) works10_enters ((works_any y2).mono fun e W h => ⟨_, h.1, rfl, h.2⟩) ?_
    rintro v y3 ⟨rfl, hy⟩
    have gy3 := grown_trans gy2 hy
    clear hy
    refine ⟨gy3, ?_⟩
    simp only [Act.put, List.setIfInBounds_toArray, List.set_cons_succ, List.set_cons_zero]
    refine wpAnyH_takeD (some 71) (i := 8) (v := (.bool true)) rfl rfl (by kernel_rfl) (by kernel_rfl) (by kernel_rfl) (fun _ _ _ h => h) (Or.inl ⟨rfl, fun _ _ => by go_simp⟩) gy3 ?_
    simp only [Act.put, List.setIfInBounds_toArray, List.set_cons_succ, List.set_cons_zero]
    refine wpAnyH_takeD (some 2) (i := 9) (v := (.bool true)) rfl rfl (by kernel_rfl) (by kernel_rfl) (by kernel_rfl) (fun _ _ _ h => h) (Or.inl ⟨rfl, fun _ _ => rfl⟩) gy3 ?_
    simp only [Act.put, List.setIfInBounds_toArray, List.set_cons_succ, List.set_cons_zero]
    refine wpAnyH_done (by kernel_rfl) ?_ _
    obtain ⟨w10, hwj⟩ : ∃ W, W = y3 := ⟨_, rfl⟩
    rw [← hwj] at gy3 ⊢
    have HX10 := Lib.hid (HX9.out.grown gy3 (by simp))
    have HG10 := Lib.hid (grown_trans HG9.out gy3)
    clear HX9 HG9 HOF gy1 gy2 gy3 gq hwj
    go_wp2_with fail
    go_ret
    exact ⟨rfl, HG10.out⟩
end Go.Proofs.Ytdagbighlgfhjaa
namespace Go.Proofs.Ytdagbighlgfhjaa
open Go.ChangeShapes Go.WideShapes Go.ChangeAt Go.RowKit

set_option maxRecDepth 100000 in
theorem distPuts_lifted (os : Os) (started : os.Started) (H : Type) (enc : TypeId × Value → H) :
    ReturnsInHanded {} Try.checked os 3 .any (Rows.distPutsSpec.pre6 enc Try.prog Try.f3 Rows.distPutsRow.domain false) (Rows.distPutsSpec.post enc Try.prog Try.f3 false true false false) := by
  refine returnsInHanded_of_change_sized (C := Try.checked) own started (by kernel_rfl) Try.func3
    (ChangeSpec.witness6 (enc := enc) (C := Try.checked) false ⟨#[], #[.agg Try.zeroCells45], []⟩ 8 (by kernel_rfl) (by kernel_rfl) (by kernel_rfl) (by kernel_rfl)) ?_
  intro W base args ds gs before hval0 hW _ hwt _
  have hval : ∀ (j : Nat) t v, Try.f3.params[j]? = some t → args[j]? = some v → Value.okWide Try.prog W .any base t v := hval0
  have hW' := hW
  obtain ⟨p, q, hA0, hV, rfl, _, _⟩ := hW
  have hA : DataW.TrodAll enc Try.prog W 0 (fun _ => true) true Try.f3.params.toList args.toList ds p := hA0
  have hwt' : (DataW.weightsEach Try.prog (Try.f3.params.toList ++ Rows.distPutsSpec.plain.varTypes Try.prog) (ds ++ gs)).all (· ≤ reachBytes) = true := hwt
  rw [Try.params3] at hA hval hwt'
  obtain ⟨v0, vs0, d0, ds0, p0, q0, hv0, rfl, rfl, h0, hA1⟩ := trodAll_cons hA
  obtain ⟨rfl, rfl, rfl⟩ := trodAll_nil hA1
  obtain ⟨l⟩ := args
  simp only at hv0
  subst hv0
  obtain ⟨rfl, rfl⟩ := trodVars_none hV
  have hw0 : ∀ y, y ∈ DataW.weights Try.prog 45 d0 → y ≤ reachBytes := fun y hy => by
    have hm : y ∈ DataW.weightsEach Try.prog (#[45].toList ++ Rows.distPutsSpec.plain.varTypes Try.prog) ([d0] ++ []) := List.mem_append.2 (Or.inl hy)
    simpa using List.all_eq_true.1 hwt' y hm
  obtain ⟨x0, rfl, hO0⟩ := open_all (hval 0 45 v0 rfl rfl) h0 hw0
  clear hA0 hval0
  refine (DistPuts_any x0 W hO0).mono fun e W' ⟨he, hg⟩ => ?_
  subst he
  exact ⟨_, rfl, law_post laidOut hW' rfl rfl (tb := 4) rfl Try.underlying4 (by
      rw [Try.params3]
      intro t ht
      have hall : (([45] : List TypeId).all fun u => Try.prog.readableRec u && decide (u < Try.prog.types.size)) = true := by kernel_rfl
      have := List.all_eq_true.1 hall t (by simpa using ht)
      simpa using this) hg⟩

theorem distPuts_holds : Rows.DistPutsSaid :=
  OpenClaim.holds_of_wide 3 Try.f3 rfl rfl rfl rfl rfl rfl rfl ⟨rfl, rfl, rfl, rfl, rfl⟩ rfl rfl rfl rfl rfl (by kernel_rfl) Try.func3 (by kernel_rfl)
    (of_decide_eq_true (by kernel_rfl)) (by unfold Func.isWrapper; first | (rw [if_pos (by decide +kernel)]; kernel_rfl) | (rw [if_neg (by decide +kernel)]; exact ⟨rfl, rfl⟩))
    (fun os started H enc _ => distPuts_lifted os started H enc)

end Go.Proofs.Ytdagbighlgfhjaa
