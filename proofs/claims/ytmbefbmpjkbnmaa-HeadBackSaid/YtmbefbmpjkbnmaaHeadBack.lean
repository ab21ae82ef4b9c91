/-
  HeadBack.
-/
import Derived.Test.YtmbefbmpjkbnmaaHdKnown
import Derived.Test.YtmbefbmpjkbnmaaHdSize
import Derived.Test.YtmbefbmpjkbnmaaSliceQ
namespace Go.Proofs.Ytmbefbmpjkbnmaa
open Go.RowKit Go.Shelf

set_option maxRecDepth 100000
set_option maxHeartbeats 4000000

theorem cat_u {n : Nat} {f g : Nat → Nat} (hf : ∀ i, f i < 256) (hg : ∀ i, g i < 256) (i : Nat) : cat n f g i < 256 := by
  unfold cat
  split
  · exact hf i
  · exact hg _
theorem HeadBack_any (k c k' c' m cp D : Nat) (a : Option Addr) (G : Nat → Nat) (w : World) (hk : k < 18446744073709551616) (hc : c < 18446744073709551616) (hk' : k' < 18446744073709551616) (hc' : c' < 18446744073709551616) (hR : Rd w D a m G) (hG : ∀ i, G i < 256) (hcp : m ≤ cp) :
    Calls Try.prog 7 #[.agg #[.int .u64 k, .int .u64 c], .agg #[.int .u64 k', .int .u64 c'], .slice a m cp] w fun e w' => e = .returned (.bool true) ∧ w.grownBy w' none := by
  have ga := World.grownBy_alloc w (.cells #[.int .u64 k, .int .u64 c] 128) none
  have hz := World.size_alloc w (.cells #[.int .u64 k, .int .u64 c] 128)
  have hX := holds_alloc w 128 .u64 2 (two k c) #[.int .u64 k, .int .u64 c] rfl
  have gb := World.grownBy_alloc (w.alloc (.cells #[.int .u64 k, .int .u64 c] 128)) (.cells #[.int .u64 k', .int .u64 c'] 128) none
  have hY := holds_alloc (w.alloc (.cells #[.int .u64 k, .int .u64 c] 128)) 128 .u64 2 (two k' c') #[.int .u64 k', .int .u64 c'] rfl
  rw [hz] at hY
  replace hX := hX.grown gb (by simp)
  have HPT := Lib.hid (fun W => hdPut_any k c W hk hc)
  have HPT2 := Lib.hid (fun W => hdPut_any k' c' W hk' hc')
  have HSZ := Lib.hid (fun W => size_any k c W hk hc)
  have HBG := Lib.hid (hd_begin k c k' c' hk hc hk' hc')
  have HBK := Lib.hid (fun L cp D a F w h1 h2 h3 h4 h5 h6 => hdBack_any k c L cp D a F w hk hc h1 h2 h3 h4 h5 h6)
  have HFL := Lib.hid (hdF_lt k c)
  have HFL2 := Lib.hid (hdF_lt k' c')
  have hn17 := (hdLen_bd k c).2
  obtain ⟨n, hn⟩ : ∃ n, n = hdLen k c := ⟨_, rfl⟩
  obtain ⟨fh, hfh⟩ : ∃ f, f = hdF k c := ⟨_, rfl⟩
  obtain ⟨n', hn'⟩ : ∃ n, n = hdLen k' c' := ⟨_, rfl⟩
  obtain ⟨fh', hfh'⟩ : ∃ f, f = hdF k' c' := ⟨_, rfl⟩
  rw [← hn, ← hfh] at HPT HBK
  rw [← hn, ← hfh, ← hn', ← hfh'] at HBG
  rw [← hn', ← hfh'] at HPT2
  rw [← hn] at HSZ hn17
  rw [← hfh] at HFL
  rw [← hfh'] at HFL2
  have G0 := Lib.hid (grown_trans ga gb)
  clear hn hfh hn' hfh' hk hc hk' hc' ga gb hz
  go_enter Try.func7, Try.ntmps7
  go_upto_region 1 with fail
  obtain ⟨XB, hXB⟩ : ∃ B, B = w.heap.size := ⟨_, rfl⟩
  rw [← hXB] at hX hY ⊢
  generalize (w.alloc (.cells #[.int .u64 k, .int .u64 c] 128)).alloc (.cells #[.int .u64 k', .int .u64 c'] 128) = w1 at *
  have HX1 := Lib.hid hX
  have HY1 := Lib.hid hY
  clear hX hY hXB
  go_wp2_with fail
  go_at_call 47
  refine (hdKnown_any w1).mono ?_
  rintro e w2 ⟨rfl, g⟩
  have HX2 := Lib.hid (HX1.out.grown g (by simp))
  have HY2 := Lib.hid (HY1.out.grown g (by simp))
  have G2 := Lib.hid (grown_trans G0.out g)
  clear g HX1 HY1 G0
  by_cases hbig : 1000 < m
  · have i1 : (m : Int) > 1000 := by omega
    clear hR hG hcp hbig HPT HPT2 HSZ HBG HBK HFL HFL2 hn17
    go_wp2_with fail
    go_ret
    exact ⟨rfl, G2.out⟩
  · have i1 : ¬ (m : Int) > 1000 := by omega
    have hm : m ≤ 1000 := by omega
    have HM := Lib.hid hm
    have HR0 := Lib.hid hR
    have HGu := Lib.hid hG
    have HCP := Lib.hid hcp
    have HN17 := Lib.hid hn17
    clear hR hG hcp hbig hm hn17
    go_upto_region 5 with fail
    obtain ⟨V0, hV0⟩ : ∃ V0, V0 = w2.drew := ⟨_, rfl⟩
    have hv0 : w2.grownBy V0 none := by rw [hV0]; exact grown_drew (grown_refl w2 none)
    have HV0 := Lib.hid hV0.symm
    have HX := Lib.hid (HX2.out.grown hv0 (by simp))
    have HY := Lib.hid (HY2.out.grown hv0 (by simp))
    have G5 := Lib.hid (grown_trans G2.out hv0)
    clear hV0 hv0 HX2 HY2 G2
    refine wp_region_held (S := (fun W => V0.grownBy W none)) (by kernel_rfl) ?_
    change wpAnyH _ _ _ _ _ 6 #[false, false, false, false, false, false] _ (World.drew _)
    rw [HV0.out]
    have hS0 : V0.grownBy V0 none := grown_refl V0 _
    refine wpAnyH_takeD (some 17) (i := 0) (v := (.agg #[.int .u64 (k : Nat), .int .u64 (c : Nat)])) rfl rfl (by kernel_rfl) (by kernel_rfl) (by kernel_rfl) (fun _ _ _ h => h) (Or.inl ⟨rfl, fun W hW => by have c0 := (HX.out.grown hW (by simp)).cell 0 (by decide); have c1 := (HX.out.grown hW (by simp)).cell 1 (by decide); rw [show two k c 0 = k from rfl] at c0; rw [show two k c 1 = c from rfl] at c1; go_simp⟩) hS0 ?_
    simp only [Act.put, List.setIfInBounds_toArray, List.set_cons_succ, List.set_cons_zero]
    refine wpAnyH_takeD (some 19) (i := 2) (v := (.agg #[.int .u64 (k' : Nat), .int .u64 (c' : Nat)])) rfl rfl (by kernel_rfl) (by kernel_rfl) (by kernel_rfl) (fun _ _ _ h => h) (Or.inl ⟨rfl, fun W hW => by have c0 := (HY.out.grown hW (by simp)).cell 0 (by decide); have c1 := (HY.out.grown hW (by simp)).cell 1 (by decide); rw [show two k' c' 0 = k' from rfl] at c0; rw [show two k' c' 1 = c' from rfl] at c1; go_simp⟩) hS0 ?_
    simp only [Act.put, List.setIfInBounds_toArray, List.set_cons_succ, List.set_cons_zero]
    refine wpAnyH_callD (some 18) (i := 1) 51 #[.agg #[.int .u64 (k : Nat), .int .u64 (c : Nat)]] (by kernel_rfl) rfl rfl rfl (exec_fn1 _ _ _ rfl rfl) hdPut_enters ((HPT.out V0).mono fun e W1 h => h.valP) ?_
    rintro _ V1 ⟨gb, cb, rfl, hO, hgb, g1⟩
    refine ⟨g1, ?_⟩
    simp only [Act.put, List.setIfInBounds_toArray, List.set_cons_succ, List.set_cons_zero]
    refine wpAnyH_callD (some 20) (i := 3) 51 #[.agg #[.int .u64 (k' : Nat), .int .u64 (c' : Nat)]] (by kernel_rfl) rfl rfl rfl (exec_fn1 _ _ _ rfl rfl) hdPut_enters ((HPT2.out V1).mono fun e W1 h => h.valP) ?_
    rintro _ V2 ⟨gc, cc, rfl, hO2, hgc, g2⟩
    have g12 := grown_trans g1 g2
    refine ⟨g12, ?_⟩
    simp only [Act.put, List.setIfInBounds_toArray, List.set_cons_succ, List.set_cons_zero]
    refine wpAnyH_takeD (some 7) (i := 4) (v := (.slice (some ⟨gb, 0, none⟩) n cb)) rfl rfl (by kernel_rfl) (by kernel_rfl) (by kernel_rfl) (fun _ _ _ h => h) (Or.inl ⟨rfl, fun _ _ => rfl⟩) g12 ?_
    simp only [Act.put, List.setIfInBounds_toArray, List.set_cons_succ, List.set_cons_zero]
    refine wpAnyH_takeD (some 8) (i := 5) (v := (.slice (some ⟨gc, 0, none⟩) n' cc)) rfl rfl (by kernel_rfl) (by kernel_rfl) (by kernel_rfl) (fun _ _ _ h => h) (Or.inl ⟨rfl, fun _ _ => rfl⟩) g12 ?_
    simp only [Act.put, List.setIfInBounds_toArray, List.set_cons_succ, List.set_cons_zero]
    refine wpAnyH_done (by kernel_rfl) ?_ _
    have HX6 := Lib.hid (HX.out.grown g12 (by simp))
    have HY6 := Lib.hid (HY.out.grown g12 (by simp))
    have HO6 := Lib.hid (hO.grown g2 (by simp))
    have HP6 := Lib.hid hO2
    have G6 := Lib.hid (grown_trans G5.out g12)
    clear hO hO2 hgb hgc g1 g2 g12 hS0 HX HY G5 HV0 HPT HPT2
    have hE := ownR_empty V2
    have gE := World.grownBy_alloc V2 (.cells #[] 5) none
    obtain ⟨x1, w3, hap1, ⟨ex⟩⟩ := app_run cb 39 hE (HO6.out.grown gE (by simp)).rd (by have := HN17.out; omega)
    obtain ⟨g1, cap1, rfl, hO1, _, g3, q1⟩ := ex
    rw [Nat.zero_add] at hap1 hO1
    have gz := grown_new gE g3 (Nat.le_refl _)
    obtain ⟨x2, w4, hap2, ⟨ex⟩⟩ := app_run cp 39 hO1 (HR0.out.grown (grown_trans G6.out gz) (fun k e => by cases e)) (by have := HN17.out; have := HM.out; omega)
    obtain ⟨g2, cap2, rfl, hO2, _, g4, q2⟩ := ex
    have q1' : V2.heap.size ≤ g1 := by
      have := gE.size
      rcases q1 with q1 | q1 <;> omega
    have gf := grown_new gz g4 q1'
    have hle := hO2.le
    have hB := HBK.out (n + m) cap2 _ _ _ w4 hO2.rd (cat_u (cat_u (fun _ => (by decide : (0 : Nat) < 256)) HFL.out) HGu.out) hle (by have := HN17.out; have := HM.out; omega) (by omega) (fun i hi => by
      unfold cat
      rw [if_pos hi, if_neg (by omega), Nat.sub_zero])
    have HA1 := Lib.hid hap1
    have HA2 := Lib.hid hap2
    have HB := Lib.hid hB
    have HX7 := Lib.hid (HX6.out.grown gf (by simp))
    have HY7 := Lib.hid (HY6.out.grown gf (by simp))
    have HO7 := Lib.hid (HO6.out.grown gf (by simp))
    have HP7 := Lib.hid (HP6.out.grown gf (by simp))
    have G7 := Lib.hid (grown_trans G6.out gf)
    clear hap1 hap2 hE gE hO1 hO2 g3 g4 q1 q2 q1' gz gf hle hB HX6 HY6 HO6 HP6 G6
    go_wp2_with (first | (at_builtin; refine wpList_append_run rfl (.tmp 22) (.tmp 23) 39 39 rfl (.slice (some ⟨V2.heap.size, 0, none⟩) 0 0) (.slice (some ⟨gb, 0, none⟩) n cb) _ _ rfl rfl HA1.out ?_) | (at_builtin; refine wpList_append_run rfl (.tmp 24) (.tmp 25) 39 39 rfl (.slice (some ⟨g1, 0, none⟩) n cap1) (.slice a m cp) _ _ rfl rfl HA2.out ?_))
    go_at_call 49
    refine (HB.out).mono ?_
    rintro e w5 ⟨rfl, g5⟩
    have gb' := World.grownBy_alloc w5 (.cells #[.int .u64 (k : Nat), .int .u64 (c : Nat)] 128) none
    have HR8 := Lib.hid (holds_alloc w5 128 .u64 2 (two k c) #[.int .u64 (k : Nat), .int .u64 (c : Nat)] rfl)
    have g5b := grown_trans g5 gb'
    have HX8 := Lib.hid (HX7.out.grown g5b (by simp))
    have HY8 := Lib.hid (HY7.out.grown g5b (by simp))
    have HO8 := Lib.hid (HO7.out.grown g5b (by simp))
    have HP8 := Lib.hid (HP7.out.grown g5b (by simp))
    have G8 := Lib.hid (grown_trans G7.out g5b)
    clear g5 gb' g5b HX7 HY7 HO7 HP7 G7 HA1 HA2 HB HBK
    go_upto_region 7 with fail
    obtain ⟨RB, hRB⟩ : ∃ B, B = w5.heap.size := ⟨_, rfl⟩
    rw [← hRB] at HR8 ⊢
    generalize w5.alloc (.cells #[.int .u64 (k : Nat), .int .u64 (c : Nat)] 128) = w6 at *
    clear hRB
    have c0 : w6.cell? ⟨XB, 0, none⟩ = some (.int .u64 k) := HX8.out.cell 0 (by decide)
    have c1 : w6.cell? ⟨XB, 1, none⟩ = some (.int .u64 c) := HX8.out.cell 1 (by decide)
    have r0 : w6.cell? ⟨RB, 0, none⟩ = some (.int .u64 k) := HR8.out.cell 0 (by decide)
    have r1 : w6.cell? ⟨RB, 1, none⟩ = some (.int .u64 c) := HR8.out.cell 1 (by decide)
    have i2 : (n : Int) ≤ 17 := by have := HN17.out; omega
    go_wp2_with fail
    go_at_call 52
    refine (HSZ.out w6).mono ?_
    rintro e w7 ⟨rfl, g7⟩
    have HX9' := Lib.hid (HX8.out.grown g7 (by simp))
    have HY9' := Lib.hid (HY8.out.grown g7 (by simp))
    have HO9' := Lib.hid (HO8.out.grown g7 (by simp))
    have HP9' := Lib.hid (HP8.out.grown g7 (by simp))
    have G9' := Lib.hid (grown_trans G8.out g7)
    clear g7 c0 c1 r0 r1 HX8 HY8 HO8 HP8 G8 HR8 HSZ
    go_upto_region 9 with fail
    obtain ⟨V3, hV3⟩ : ∃ V3, V3 = w7.drew := ⟨_, rfl⟩
    have hv3 : w7.grownBy V3 none := by rw [hV3]; exact grown_drew (grown_refl w7 none)
    have HV3 := Lib.hid hV3.symm
    have HX9 := Lib.hid (HX9'.out.grown hv3 (by simp))
    have HY9 := Lib.hid (HY9'.out.grown hv3 (by simp))
    have HO9 := Lib.hid (HO9'.out.grown hv3 (by simp))
    have HP9 := Lib.hid (HP9'.out.grown hv3 (by simp))
    have G9 := Lib.hid (grown_trans G9'.out hv3)
    clear hV3 hv3 HX9' HY9' HO9' HP9' G9'
    by_cases heq : k = k' ∧ c = c'
    · obtain ⟨rfl, rfl⟩ := heq
      refine wp_region_held (S := (fun W => V3.grownBy W none)) (by kernel_rfl) ?_
      change wpAnyH _ _ _ _ _ 21 #[false, false, false, false, false, false, false, false, false, false, false, false, false, false, false, false, false, false, false, false, false] _ (World.drew _)
      rw [HV3.out]
      have hS0 : V3.grownBy V3 none := grown_refl V3 _
      refine wpAnyH_takeD (some 56) (i := 0) (v := (.agg #[.int .u64 (k : Nat), .int .u64 (c : Nat)])) rfl rfl (by kernel_rfl) (by kernel_rfl) (by kernel_rfl) (fun _ _ _ h => h) (Or.inl ⟨rfl, fun W hW => by have c0 := (HX9.out.grown hW (by simp)).cell 0 (by decide); have c1 := (HX9.out.grown hW (by simp)).cell 1 (by decide); rw [show two k c 0 = k from rfl] at c0; rw [show two k c 1 = c from rfl] at c1; go_simp⟩) hS0 ?_
      simp only [Act.put, List.setIfInBounds_toArray, List.set_cons_succ, List.set_cons_zero]
      refine wpAnyH_takeD (some 57) (i := 1) (v := (.agg #[.int .u64 (k : Nat), .int .u64 (c : Nat)])) rfl rfl (by kernel_rfl) (by kernel_rfl) (by kernel_rfl) (fun _ _ _ h => h) (Or.inl ⟨rfl, fun W hW => by have c0 := (HY9.out.grown hW (by simp)).cell 0 (by decide); have c1 := (HY9.out.grown hW (by simp)).cell 1 (by decide); rw [show two k c 0 = k from rfl] at c0; rw [show two k c 1 = c from rfl] at c1; go_simp⟩) hS0 ?_
      simp only [Act.put, List.setIfInBounds_toArray, List.set_cons_succ, List.set_cons_zero]
      refine wpAnyH_takeD (some 58) (i := 2) (v := (.bool true)) rfl rfl (by kernel_rfl) (by kernel_rfl) (by kernel_rfl) (fun _ _ _ h => h) (Or.inl ⟨rfl, fun _ _ => by go_simp⟩) hS0 ?_
      simp only [Act.put, List.setIfInBounds_toArray, List.set_cons_succ, List.set_cons_zero]
      refine wpAnyH_takeD (some 59) (i := 3) (v := (.bool true)) rfl rfl (by kernel_rfl) (by kernel_rfl) (by kernel_rfl) (fun _ _ _ h => h) (Or.inl ⟨rfl, fun _ _ => rfl⟩) hS0 ?_
      simp only [Act.put, List.setIfInBounds_toArray, List.set_cons_succ, List.set_cons_zero]
      refine wpAnyH_takeD (some 60) (i := 4) (v := undef) rfl rfl (by kernel_rfl) (by kernel_rfl) (by kernel_rfl) (fun _ _ _ h => h) (Or.inr ⟨by kernel_rfl, rfl⟩) hS0 ?_
      simp only [Act.put, List.setIfInBounds_toArray, List.set_cons_succ, List.set_cons_zero]
      refine wpAnyH_takeD (some 61) (i := 5) (v := undef) rfl rfl (by kernel_rfl) (by kernel_rfl) (by kernel_rfl) (fun _ _ _ h => h) (Or.inr ⟨by kernel_rfl, rfl⟩) hS0 ?_
      simp only [Act.put, List.setIfInBounds_toArray, List.set_cons_succ, List.set_cons_zero]
      refine wpAnyH_takeD (some 62) (i := 6) (v := undef) rfl rfl (by kernel_rfl) (by kernel_rfl) (by kernel_rfl) (fun _ _ _ h => h) (Or.inr ⟨by kernel_rfl, rfl⟩) hS0 ?_
      simp only [Act.put, List.setIfInBounds_toArray, List.set_cons_succ, List.set_cons_zero]
      refine wpAnyH_takeD (some 63) (i := 7) (v := undef) rfl rfl (by kernel_rfl) (by kernel_rfl) (by kernel_rfl) (fun _ _ _ h => h) (Or.inr ⟨by kernel_rfl, rfl⟩) hS0 ?_
      simp only [Act.put, List.setIfInBounds_toArray, List.set_cons_succ, List.set_cons_zero]
      refine wpAnyH_takeD (some 64) (i := 8) (v := undef) rfl rfl (by kernel_rfl) (by kernel_rfl) (by kernel_rfl) (fun _ _ _ h => h) (Or.inr ⟨by kernel_rfl, rfl⟩) hS0 ?_
      simp only [Act.put, List.setIfInBounds_toArray, List.set_cons_succ, List.set_cons_zero]
      refine wpAnyH_takeD (some 65) (i := 9) (v := (.bool true)) rfl rfl (by kernel_rfl) (by kernel_rfl) (by kernel_rfl) (fun _ _ _ h => h) (Or.inl ⟨rfl, fun _ _ => by go_simp⟩) hS0 ?_
      simp only [Act.put, List.setIfInBounds_toArray, List.set_cons_succ, List.set_cons_zero]
      refine wpAnyH_takeD (some 66) (i := 10) (v := (.bool true)) rfl rfl (by kernel_rfl) (by kernel_rfl) (by kernel_rfl) (fun _ _ _ h => h) (Or.inl ⟨rfl, fun _ _ => rfl⟩) hS0 ?_
      simp only [Act.put, List.setIfInBounds_toArray, List.set_cons_succ, List.set_cons_zero]
      refine wpAnyH_takeD (some 67) (i := 11) (v := undef) rfl rfl (by kernel_rfl) (by kernel_rfl) (by kernel_rfl) (fun _ _ _ h => h) (Or.inr ⟨by kernel_rfl, rfl⟩) hS0 ?_
      simp only [Act.put, List.setIfInBounds_toArray, List.set_cons_succ, List.set_cons_zero]
      refine wpAnyH_takeD (some 68) (i := 12) (v := undef) rfl rfl (by kernel_rfl) (by kernel_rfl) (by kernel_rfl) (fun _ _ _ h => h) (Or.inr ⟨by kernel_rfl, rfl⟩) hS0 ?_
      simp only [Act.put, List.setIfInBounds_toArray, List.set_cons_succ, List.set_cons_zero]
      refine wpAnyH_takeD (some 69) (i := 13) (v := undef) rfl rfl (by kernel_rfl) (by kernel_rfl) (by kernel_rfl) (fun _ _ _ h => h) (Or.inr ⟨by kernel_rfl, rfl⟩) hS0 ?_
      simp only [Act.put, List.setIfInBounds_toArray, List.set_cons_succ, List.set_cons_zero]
      refine wpAnyH_takeD (some 70) (i := 14) (v := undef) rfl rfl (by kernel_rfl) (by kernel_rfl) (by kernel_rfl) (fun _ _ _ h => h) (Or.inr ⟨by kernel_rfl, rfl⟩) hS0 ?_
      simp only [Act.put, List.setIfInBounds_toArray, List.set_cons_succ, List.set_cons_zero]
      refine wpAnyH_takeD (some 71) (i := 15) (v := undef) rfl rfl (by kernel_rfl) (by kernel_rfl) (by kernel_rfl) (fun _ _ _ h => h) (Or.inr ⟨by kernel_rfl, rfl⟩) hS0 ?_
      simp only [Act.put, List.setIfInBounds_toArray, List.set_cons_succ, List.set_cons_zero]
      refine wpAnyH_takeD (some 72) (i := 16) (v := undef) rfl rfl (by kernel_rfl) (by kernel_rfl) (by kernel_rfl) (fun _ _ _ h => h) (Or.inr ⟨by kernel_rfl, rfl⟩) hS0 ?_
      simp only [Act.put, List.setIfInBounds_toArray, List.set_cons_succ, List.set_cons_zero]
      refine wpAnyH_takeD (some 73) (i := 17) (v := undef) rfl rfl (by kernel_rfl) (by kernel_rfl) (by kernel_rfl) (fun _ _ _ h => h) (Or.inr ⟨by kernel_rfl, rfl⟩) hS0 ?_
      simp only [Act.put, List.setIfInBounds_toArray, List.set_cons_succ, List.set_cons_zero]
      refine wpAnyH_takeD (some 74) (i := 18) (v := undef) rfl rfl (by kernel_rfl) (by kernel_rfl) (by kernel_rfl) (fun _ _ _ h => h) (Or.inr ⟨by kernel_rfl, rfl⟩) hS0 ?_
      simp only [Act.put, List.setIfInBounds_toArray, List.set_cons_succ, List.set_cons_zero]
      refine wpAnyH_takeD (some 75) (i := 19) (v := (.bool true)) rfl rfl (by kernel_rfl) (by kernel_rfl) (by kernel_rfl) (fun _ _ _ h => h) (Or.inl ⟨rfl, fun _ _ => by go_simp⟩) hS0 ?_
      simp only [Act.put, List.setIfInBounds_toArray, List.set_cons_succ, List.set_cons_zero]
      refine wpAnyH_takeD (some 6) (i := 20) (v := (.bool true)) rfl rfl (by kernel_rfl) (by kernel_rfl) (by kernel_rfl) (fun _ _ _ h => h) (Or.inl ⟨rfl, fun _ _ => rfl⟩) hS0 ?_
      simp only [Act.put, List.setIfInBounds_toArray, List.set_cons_succ, List.set_cons_zero]
      refine wpAnyH_done (by kernel_rfl) ?_ _
      have HGF := Lib.hid G9.out
      clear hS0
      go_wp2_with fail
      go_ret
      exact ⟨rfl, HGF.out⟩
    · by_cases hgt : n' < n
      · have HGT := Lib.hid (show (n : Int) > n' by omega)
        have HNE := Lib.hid heq
        clear heq hgt
        refine wp_region_held (S := (fun W => V3.grownBy W none)) (by kernel_rfl) ?_
        change wpAnyH _ _ _ _ _ 21 #[false, false, false, false, false, false, false, false, false, false, false, false, false, false, false, false, false, false, false, false, false] _ (World.drew _)
        rw [HV3.out]
        have hS0 : V3.grownBy V3 none := grown_refl V3 _
        refine wpAnyH_takeD (some 56) (i := 0) (v := (.agg #[.int .u64 (k : Nat), .int .u64 (c : Nat)])) rfl rfl (by kernel_rfl) (by kernel_rfl) (by kernel_rfl) (fun _ _ _ h => h) (Or.inl ⟨rfl, fun W hW => by have c0 := (HX9.out.grown hW (by simp)).cell 0 (by decide); have c1 := (HX9.out.grown hW (by simp)).cell 1 (by decide); rw [show two k c 0 = k from rfl] at c0; rw [show two k c 1 = c from rfl] at c1; go_simp⟩) hS0 ?_
        simp only [Act.put, List.setIfInBounds_toArray, List.set_cons_succ, List.set_cons_zero]
        refine wpAnyH_takeD (some 57) (i := 1) (v := (.agg #[.int .u64 (k' : Nat), .int .u64 (c' : Nat)])) rfl rfl (by kernel_rfl) (by kernel_rfl) (by kernel_rfl) (fun _ _ _ h => h) (Or.inl ⟨rfl, fun W hW => by have c0 := (HY9.out.grown hW (by simp)).cell 0 (by decide); have c1 := (HY9.out.grown hW (by simp)).cell 1 (by decide); rw [show two k' c' 0 = k' from rfl] at c0; rw [show two k' c' 1 = c' from rfl] at c1; go_simp⟩) hS0 ?_
        simp only [Act.put, List.setIfInBounds_toArray, List.set_cons_succ, List.set_cons_zero]
        refine wpAnyH_takeD (some 58) (i := 2) (v := (.bool false)) rfl rfl (by kernel_rfl) (by kernel_rfl) (by kernel_rfl) (fun _ _ _ h => h) (Or.inl ⟨rfl, fun _ _ => by go_simp; exact fun e1 e2 => HNE.out ⟨by omega, by omega⟩⟩) hS0 ?_
        simp only [Act.put, List.setIfInBounds_toArray, List.set_cons_succ, List.set_cons_zero]
        refine wpAnyH_takeD (some 59) (i := 3) (v := (.bool false)) rfl rfl (by kernel_rfl) (by kernel_rfl) (by kernel_rfl) (fun _ _ _ h => h) (Or.inl ⟨rfl, fun _ _ => rfl⟩) hS0 ?_
        simp only [Act.put, List.setIfInBounds_toArray, List.set_cons_succ, List.set_cons_zero]
        refine wpAnyH_takeD (some 60) (i := 4) (v := (.slice (some ⟨gb, 0, none⟩) n cb)) rfl rfl (by kernel_rfl) (by kernel_rfl) (by kernel_rfl) (fun _ _ _ h => h) (Or.inl ⟨rfl, fun _ _ => rfl⟩) hS0 ?_
        simp only [Act.put, List.setIfInBounds_toArray, List.set_cons_succ, List.set_cons_zero]
        refine wpAnyH_takeD (some 61) (i := 5) (v := (.int .i64 (n : Nat))) rfl rfl (by kernel_rfl) (by kernel_rfl) (by kernel_rfl) (fun _ _ _ h => h) (Or.inl ⟨rfl, fun _ _ => by go_simp⟩) hS0 ?_
        simp only [Act.put, List.setIfInBounds_toArray, List.set_cons_succ, List.set_cons_zero]
        refine wpAnyH_takeD (some 62) (i := 6) (v := (.slice (some ⟨gc, 0, none⟩) n' cc)) rfl rfl (by kernel_rfl) (by kernel_rfl) (by kernel_rfl) (fun _ _ _ h => h) (Or.inl ⟨rfl, fun _ _ => rfl⟩) hS0 ?_
        simp only [Act.put, List.setIfInBounds_toArray, List.set_cons_succ, List.set_cons_zero]
        refine wpAnyH_takeD (some 63) (i := 7) (v := (.int .i64 (n' : Nat))) rfl rfl (by kernel_rfl) (by kernel_rfl) (by kernel_rfl) (fun _ _ _ h => h) (Or.inl ⟨rfl, fun _ _ => by go_simp⟩) hS0 ?_
        simp only [Act.put, List.setIfInBounds_toArray, List.set_cons_succ, List.set_cons_zero]
        refine wpAnyH_takeD (some 64) (i := 8) (v := (.bool true)) rfl rfl (by kernel_rfl) (by kernel_rfl) (by kernel_rfl) (fun _ _ _ h => h) (Or.inl ⟨rfl, fun _ _ => by have hq := HGT.out; go_simp⟩) hS0 ?_
        simp only [Act.put, List.setIfInBounds_toArray, List.set_cons_succ, List.set_cons_zero]
        refine wpAnyH_takeD (some 65) (i := 9) (v := (.bool true)) rfl rfl (by kernel_rfl) (by kernel_rfl) (by kernel_rfl) (fun _ _ _ h => h) (Or.inl ⟨rfl, fun _ _ => by go_simp⟩) hS0 ?_
        simp only [Act.put, List.setIfInBounds_toArray, List.set_cons_succ, List.set_cons_zero]
        refine wpAnyH_takeD (some 66) (i := 10) (v := (.bool true)) rfl rfl (by kernel_rfl) (by kernel_rfl) (by kernel_rfl) (fun _ _ _ h => h) (Or.inl ⟨rfl, fun _ _ => rfl⟩) hS0 ?_
        simp only [Act.put, List.setIfInBounds_toArray, List.set_cons_succ, List.set_cons_zero]
        refine wpAnyH_takeD (some 67) (i := 11) (v := undef) rfl rfl (by kernel_rfl) (by kernel_rfl) (by kernel_rfl) (fun _ _ _ h => h) (Or.inr ⟨by kernel_rfl, rfl⟩) hS0 ?_
        simp only [Act.put, List.setIfInBounds_toArray, List.set_cons_succ, List.set_cons_zero]
        refine wpAnyH_takeD (some 68) (i := 12) (v := undef) rfl rfl (by kernel_rfl) (by kernel_rfl) (by kernel_rfl) (fun _ _ _ h => h) (Or.inr ⟨by kernel_rfl, rfl⟩) hS0 ?_
        simp only [Act.put, List.setIfInBounds_toArray, List.set_cons_succ, List.set_cons_zero]
        refine wpAnyH_takeD (some 69) (i := 13) (v := undef) rfl rfl (by kernel_rfl) (by kernel_rfl) (by kernel_rfl) (fun _ _ _ h => h) (Or.inr ⟨by kernel_rfl, rfl⟩) hS0 ?_
        simp only [Act.put, List.setIfInBounds_toArray, List.set_cons_succ, List.set_cons_zero]
        refine wpAnyH_takeD (some 70) (i := 14) (v := undef) rfl rfl (by kernel_rfl) (by kernel_rfl) (by kernel_rfl) (fun _ _ _ h => h) (Or.inr ⟨by kernel_rfl, rfl⟩) hS0 ?_
        simp only [Act.put, List.setIfInBounds_toArray, List.set_cons_succ, List.set_cons_zero]
        refine wpAnyH_takeD (some 71) (i := 15) (v := undef) rfl rfl (by kernel_rfl) (by kernel_rfl) (by kernel_rfl) (fun _ _ _ h => h) (Or.inr ⟨by kernel_rfl, rfl⟩) hS0 ?_
        simp only [Act.put, List.setIfInBounds_toArray, List.set_cons_succ, List.set_cons_zero]
        refine wpAnyH_takeD (some 72) (i := 16) (v := undef) rfl rfl (by kernel_rfl) (by kernel_rfl) (by kernel_rfl) (fun _ _ _ h => h) (Or.inr ⟨by kernel_rfl, rfl⟩) hS0 ?_
        simp only [Act.put, List.setIfInBounds_toArray, List.set_cons_succ, List.set_cons_zero]
        refine wpAnyH_takeD (some 73) (i := 17) (v := undef) rfl rfl (by kernel_rfl) (by kernel_rfl) (by kernel_rfl) (fun _ _ _ h => h) (Or.inr ⟨by kernel_rfl, rfl⟩) hS0 ?_
        simp only [Act.put, List.setIfInBounds_toArray, List.set_cons_succ, List.set_cons_zero]
        refine wpAnyH_takeD (some 74) (i := 18) (v := undef) rfl rfl (by kernel_rfl) (by kernel_rfl) (by kernel_rfl) (fun _ _ _ h => h) (Or.inr ⟨by kernel_rfl, rfl⟩) hS0 ?_
        simp only [Act.put, List.setIfInBounds_toArray, List.set_cons_succ, List.set_cons_zero]
        refine wpAnyH_takeD (some 75) (i := 19) (v := (.bool true)) rfl rfl (by kernel_rfl) (by kernel_rfl) (by kernel_rfl) (fun _ _ _ h => h) (Or.inl ⟨rfl, fun _ _ => by go_simp⟩) hS0 ?_
        simp only [Act.put, List.setIfInBounds_toArray, List.set_cons_succ, List.set_cons_zero]
        refine wpAnyH_takeD (some 6) (i := 20) (v := (.bool true)) rfl rfl (by kernel_rfl) (by kernel_rfl) (by kernel_rfl) (fun _ _ _ h => h) (Or.inl ⟨rfl, fun _ _ => rfl⟩) hS0 ?_
        simp only [Act.put, List.setIfInBounds_toArray, List.set_cons_succ, List.set_cons_zero]
        refine wpAnyH_done (by kernel_rfl) ?_ _
        have HGF := Lib.hid G9.out
        clear hS0
        go_wp2_with fail
        go_ret
        exact ⟨rfl, HGF.out⟩
      · have HGT := Lib.hid (show ¬ ((n : Int) > n') by omega)
        have HNE := Lib.hid heq
        obtain ⟨sx, hsx⟩ : ∃ s, s = strOf n fh' := ⟨_, rfl⟩
        obtain ⟨sy, hsy⟩ : ∃ s, s = strOf n fh := ⟨_, rfl⟩
        have hxy : sx ≠ sy := fun e => heq (HBG.out (by omega) (fun i hi => ((strOf_inj n n fh' fh HFL2.out HFL.out).1 (by rw [← hsx, ← hsy]; exact e)).2 i hi))
        have HXY : Hid (¬ sx.toList = sy.toList) := Lib.hid (fun e => hxy (by
          cases sx; cases sy
          simpa [ByteArray.toList_eq] using e))
        have HSX := Lib.hid hsx
        have HSY := Lib.hid hsy
        have Z9 := Lib.hid (fun W => run_aheadQ (some ⟨gc, 0, none⟩) n' cc n HP9.out.le (by omega) W)
        have HRC : Hid (Rd V3 V3.heap.size (some ⟨gc, 0, none⟩) n fh') := Lib.hid ⟨fun _ => ⟨gc, 0, rfl, HP9.out.lt, fun i hi => by rw [Nat.zero_add]; exact HP9.out.cell i (by omega)⟩⟩
        clear heq hgt hsx hsy hxy
        refine wp_region_held (S := (fun W => V3.grownBy W none)) (by kernel_rfl) ?_
        change wpAnyH _ _ _ _ _ 21 #[false, false, false, false, false, false, false, false, false, false, false, false, false, false, false, false, false, false, false, false, false] _ (World.drew _)
        rw [HV3.out]
        have hS0 : V3.grownBy V3 none := grown_refl V3 _
        refine wpAnyH_takeD (some 56) (i := 0) (v := (.agg #[.int .u64 (k : Nat), .int .u64 (c : Nat)])) rfl rfl (by kernel_rfl) (by kernel_rfl) (by kernel_rfl) (fun _ _ _ h => h) (Or.inl ⟨rfl, fun W hW => by have c0 := (HX9.out.grown hW (by simp)).cell 0 (by decide); have c1 := (HX9.out.grown hW (by simp)).cell 1 (by decide); rw [show two k c 0 = k from rfl] at c0; rw [show two k c 1 = c from rfl] at c1; go_simp⟩) hS0 ?_
        simp only [Act.put, List.setIfInBounds_toArray, List.set_cons_succ, List.set_cons_zero]
        refine wpAnyH_takeD (some 57) (i := 1) (v := (.agg #[.int .u64 (k' : Nat), .int .u64 (c' : Nat)])) rfl rfl (by kernel_rfl) (by kernel_rfl) (by kernel_rfl) (fun _ _ _ h => h) (Or.inl ⟨rfl, fun W hW => by have c0 := (HY9.out.grown hW (by simp)).cell 0 (by decide); have c1 := (HY9.out.grown hW (by simp)).cell 1 (by decide); rw [show two k' c' 0 = k' from rfl] at c0; rw [show two k' c' 1 = c' from rfl] at c1; go_simp⟩) hS0 ?_
        simp only [Act.put, List.setIfInBounds_toArray, List.set_cons_succ, List.set_cons_zero]
        refine wpAnyH_takeD (some 58) (i := 2) (v := (.bool false)) rfl rfl (by kernel_rfl) (by kernel_rfl) (by kernel_rfl) (fun _ _ _ h => h) (Or.inl ⟨rfl, fun _ _ => by go_simp; exact fun e1 e2 => HNE.out ⟨by omega, by omega⟩⟩) hS0 ?_
        simp only [Act.put, List.setIfInBounds_toArray, List.set_cons_succ, List.set_cons_zero]
        refine wpAnyH_takeD (some 59) (i := 3) (v := (.bool false)) rfl rfl (by kernel_rfl) (by kernel_rfl) (by kernel_rfl) (fun _ _ _ h => h) (Or.inl ⟨rfl, fun _ _ => rfl⟩) hS0 ?_
        simp only [Act.put, List.setIfInBounds_toArray, List.set_cons_succ, List.set_cons_zero]
        refine wpAnyH_takeD (some 60) (i := 4) (v := (.slice (some ⟨gb, 0, none⟩) n cb)) rfl rfl (by kernel_rfl) (by kernel_rfl) (by kernel_rfl) (fun _ _ _ h => h) (Or.inl ⟨rfl, fun _ _ => rfl⟩) hS0 ?_
        simp only [Act.put, List.setIfInBounds_toArray, List.set_cons_succ, List.set_cons_zero]
        refine wpAnyH_takeD (some 61) (i := 5) (v := (.int .i64 (n : Nat))) rfl rfl (by kernel_rfl) (by kernel_rfl) (by kernel_rfl) (fun _ _ _ h => h) (Or.inl ⟨rfl, fun _ _ => by go_simp⟩) hS0 ?_
        simp only [Act.put, List.setIfInBounds_toArray, List.set_cons_succ, List.set_cons_zero]
        refine wpAnyH_takeD (some 62) (i := 6) (v := (.slice (some ⟨gc, 0, none⟩) n' cc)) rfl rfl (by kernel_rfl) (by kernel_rfl) (by kernel_rfl) (fun _ _ _ h => h) (Or.inl ⟨rfl, fun _ _ => rfl⟩) hS0 ?_
        simp only [Act.put, List.setIfInBounds_toArray, List.set_cons_succ, List.set_cons_zero]
        refine wpAnyH_takeD (some 63) (i := 7) (v := (.int .i64 (n' : Nat))) rfl rfl (by kernel_rfl) (by kernel_rfl) (by kernel_rfl) (fun _ _ _ h => h) (Or.inl ⟨rfl, fun _ _ => by go_simp⟩) hS0 ?_
        simp only [Act.put, List.setIfInBounds_toArray, List.set_cons_succ, List.set_cons_zero]
        refine wpAnyH_takeD (some 64) (i := 8) (v := (.bool false)) rfl rfl (by kernel_rfl) (by kernel_rfl) (by kernel_rfl) (fun _ _ _ h => h) (Or.inl ⟨rfl, fun _ _ => by have hq := HGT.out; go_simp⟩) hS0 ?_
        simp only [Act.put, List.setIfInBounds_toArray, List.set_cons_succ, List.set_cons_zero]
        refine wpAnyH_takeD (some 65) (i := 9) (v := (.bool false)) rfl rfl (by kernel_rfl) (by kernel_rfl) (by kernel_rfl) (fun _ _ _ h => h) (Or.inl ⟨rfl, fun _ _ => by go_simp⟩) hS0 ?_
        simp only [Act.put, List.setIfInBounds_toArray, List.set_cons_succ, List.set_cons_zero]
        refine wpAnyH_takeD (some 66) (i := 10) (v := (.bool false)) rfl rfl (by kernel_rfl) (by kernel_rfl) (by kernel_rfl) (fun _ _ _ h => h) (Or.inl ⟨rfl, fun _ _ => rfl⟩) hS0 ?_
        simp only [Act.put, List.setIfInBounds_toArray, List.set_cons_succ, List.set_cons_zero]
        refine wpAnyH_takeD (some 67) (i := 11) (v := (.slice (some ⟨gc, 0, none⟩) n' cc)) rfl rfl (by kernel_rfl) (by kernel_rfl) (by kernel_rfl) (fun _ _ _ h => h) (Or.inl ⟨rfl, fun _ _ => rfl⟩) hS0 ?_
        simp only [Act.put, List.setIfInBounds_toArray, List.set_cons_succ, List.set_cons_zero]
        refine wpAnyH_takeD (some 68) (i := 12) (v := (.slice (some ⟨gb, 0, none⟩) n cb)) rfl rfl (by kernel_rfl) (by kernel_rfl) (by kernel_rfl) (fun _ _ _ h => h) (Or.inl ⟨rfl, fun _ _ => rfl⟩) hS0 ?_
        simp only [Act.put, List.setIfInBounds_toArray, List.set_cons_succ, List.set_cons_zero]
        refine wpAnyH_takeD (some 69) (i := 13) (v := (.int .i64 (n : Nat))) rfl rfl (by kernel_rfl) (by kernel_rfl) (by kernel_rfl) (fun _ _ _ h => h) (Or.inl ⟨rfl, fun _ _ => by go_simp⟩) hS0 ?_
        simp only [Act.put, List.setIfInBounds_toArray, List.set_cons_succ, List.set_cons_zero]
        refine wpAnyH_takeD (some 70) (i := 14) (v := (.slice (some ⟨gc, 0, none⟩) n cc)) rfl rfl (by kernel_rfl) (by kernel_rfl) (by kernel_rfl) (fun _ _ _ h => h) (Or.inl ⟨rfl, fun W _ => by have z := Z9.out W; go_simp⟩) hS0 ?_
        simp only [Act.put, List.setIfInBounds_toArray, List.set_cons_succ, List.set_cons_zero]
        refine wpAnyH_takeD (some 71) (i := 15) (v := (.string sx)) rfl rfl (by kernel_rfl) (by kernel_rfl) (by kernel_rfl) (fun _ _ _ h => h) (Or.inl ⟨rfl, fun W hW => by have z := run_string cc (HRC.out.grown hW (fun k e => by cases e)) HFL2.out; rw [← HSX.out] at z; go_simp⟩) hS0 ?_
        simp only [Act.put, List.setIfInBounds_toArray, List.set_cons_succ, List.set_cons_zero]
        refine wpAnyH_takeD (some 72) (i := 16) (v := (.slice (some ⟨gb, 0, none⟩) n cb)) rfl rfl (by kernel_rfl) (by kernel_rfl) (by kernel_rfl) (fun _ _ _ h => h) (Or.inl ⟨rfl, fun _ _ => rfl⟩) hS0 ?_
        simp only [Act.put, List.setIfInBounds_toArray, List.set_cons_succ, List.set_cons_zero]
        refine wpAnyH_takeD (some 73) (i := 17) (v := (.string sy)) rfl rfl (by kernel_rfl) (by kernel_rfl) (by kernel_rfl) (fun _ _ _ h => h) (Or.inl ⟨rfl, fun W hW => by have z := run_string cb (HO9.out.grown hW (by simp)).rd HFL.out; rw [← HSY.out] at z; go_simp⟩) hS0 ?_
        simp only [Act.put, List.setIfInBounds_toArray, List.set_cons_succ, List.set_cons_zero]
        refine wpAnyH_takeD (some 74) (i := 18) (v := (.bool true)) rfl rfl (by kernel_rfl) (by kernel_rfl) (by kernel_rfl) (fun _ _ _ h => h) (Or.inl ⟨rfl, fun _ _ => by have hq := HXY.out; go_simp⟩) hS0 ?_
        simp only [Act.put, List.setIfInBounds_toArray, List.set_cons_succ, List.set_cons_zero]
        refine wpAnyH_takeD (some 75) (i := 19) (v := (.bool true)) rfl rfl (by kernel_rfl) (by kernel_rfl) (by kernel_rfl) (fun _ _ _ h => h) (Or.inl ⟨rfl, fun _ _ => by go_simp⟩) hS0 ?_
        simp only [Act.put, List.setIfInBounds_toArray, List.set_cons_succ, List.set_cons_zero]
        refine wpAnyH_takeD (some 6) (i := 20) (v := (.bool true)) rfl rfl (by kernel_rfl) (by kernel_rfl) (by kernel_rfl) (fun _ _ _ h => h) (Or.inl ⟨rfl, fun _ _ => rfl⟩) hS0 ?_
        simp only [Act.put, List.setIfInBounds_toArray, List.set_cons_succ, List.set_cons_zero]
        refine wpAnyH_done (by kernel_rfl) ?_ _
        have HGF := Lib.hid G9.out
        clear hS0
        go_wp2_with fail
        go_ret
        exact ⟨rfl, HGF.out⟩
end Go.Proofs.Ytmbefbmpjkbnmaa
