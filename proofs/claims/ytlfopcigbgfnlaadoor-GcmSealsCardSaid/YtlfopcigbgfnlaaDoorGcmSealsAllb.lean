/-
  Proved: whatever key, nonce, associated data, text and block come in, 'GcmSeals' answers true, and what came in reads afterwards as it read before. Conditions: the table of package aes reads as the program's text lays it (tied to that text by the card); the arguments can be read as data.
-/
import Derived.Test.YtlfopcigbgfnlaaDoorGcmSealsAlla
import Derived.BigQuiet
import Derived.Test.YtlfopcigbgfnlaaDoorGcmSeal
import Derived.Deep.DeepCutAuto
import Derived.Test.YtlfopcigbgfnlaaDoorMake
import Derived.Test.YtlfopcigbgfnlaaDoorGrowQ
import Derived.StillTailTactics
import Derived.Test.YtlfopcigbgfnlaaDoorAesSpec
import Derived.Test.YtlfopcigbgfnlaaDoorLaw
import Derived.Test.YtlfopcigbgfnlaaDoorRows
import Derived.Stop.Joined
import Derived.LaidLaws
import Derived.Test.YtlfopcigbgfnlaaDoorAesLeaf
import Derived.Test.YtlfopcigbgfnlaaDoorTie
import Derived.Test.YtlfopcigbgfnlaaDoorCards
import Derived.SevenTiedAt
namespace Go.Proofs.YtlfopcigbgfnlaaDoor
open Go.RowKit Go.Shelf

set_option maxRecDepth 100000
set_option maxHeartbeats 2000000

theorem rseal_enters (args : Array Value) (w : World) : (callFunc 42 args).run Tryd.prog w = .ok (.enter 42 args) w := enters_of Tryd.func42 (by kernel_rfl) rfl args w
theorem rhash_enters (args : Array Value) (w : World) : (callFunc 9 args).run Tryd.prog w = .ok (.enter 9 args) w := enters_of Tryd.func9 (by kernel_rfl) rfl args w
theorem OwnN.congr {w : World} {base : Nat} {v : Value} {n : Nat} {f f' : Nat → Nat} (h : OwnN w base v n f) (e : ∀ i, i < n → f i = f' i) : OwnN w base v n f' := ⟨h.ex.imp id (fun ⟨g, cap, h1, h2, h3⟩ => ⟨g, cap, h1, h2.congr e, h3⟩)⟩

theorem rktag_any (R rb gw capw na nt ca ct cn : Nat) (an aa ta : Option Addr) (W nf fa ft : Nat → Nat) (w : World) (hR1 : 1 ≤ R) (hR2 : R ≤ 14) (hB : Rd w w.heap.size (some ⟨rb, 0, none⟩) 256 sB) (hW : Rd w w.heap.size (some ⟨gw, 0, none⟩) (16 * (R + 1)) W)
    (hn : Rd w w.heap.size an 12 nf) (hA : Rd w w.heap.size aa na fa) (hT : Rd w w.heap.size ta nt ft) (hWl : ∀ i, W i < 256) (hnl : ∀ i, nf i < 256) (hfa : ∀ i, fa i < 256) (hft : ∀ i, ft i < 256) (hna : na ≤ 2 ^ 38) (hnt : nt ≤ 2 ^ 38) :
    Calls Tryd.prog 25 #[.agg #[.slice (some ⟨rb, 0, none⟩) 256 256, .slice (some ⟨gw, 0, none⟩) (16 * (R + 1) : Nat) capw], .slice an 12 cn, .slice aa na ca, .slice ta nt ct] w (GaveN w 16 (tagF R W (firstF nf) fa na ft nt)) := by
  have hK := keyAt_alloc w (.slice (some ⟨rb, 0, none⟩) 256 256) (.slice (some ⟨gw, 0, none⟩) (16 * (R + 1) : Nat) capw)
  have g1 := World.grownBy_alloc w (.cells #[.slice (some ⟨rb, 0, none⟩) 256 256, .slice (some ⟨gw, 0, none⟩) (16 * (R + 1) : Nat) capw] 32) none
  obtain ⟨F1, hF1⟩ : ∃ F1, F1 = firstF nf := ⟨_, rfl⟩
  have hF1l : ∀ i, F1 i < 256 := fun i => by rw [hF1]; exact firstF_lt nf hnl i
  obtain ⟨H, hH⟩ : ∃ H, H = sealA R W (fun _ => 0) := ⟨_, rfl⟩
  have hHl : ∀ i, H i < 256 := fun i => by rw [hH]; exact sealA_lt R W _ hWl (fun _ => by decide) i
  obtain ⟨Y, hY⟩ : ∃ Y, Y = hashF H (allF na nt fa ft) (allN na nt) := ⟨_, rfl⟩
  have hYl : ∀ i, Y i < 256 := fun i => by rw [hY]; exact hashF_lt _ _ _ _
  obtain ⟨Z, hZ⟩ : ∃ Z, Z = tagF R W (firstF nf) fa na ft nt := ⟨_, rfl⟩
  have hYZ : ∀ i, i < 16 → turnF R W F1 Y i = Z i := fun i hi => by
    rw [hY, hH, hZ, hF1]
    exact tag_turn R na nt W (firstF nf) fa ft hWl (firstF_lt nf hnl) i hi
  rw [← hZ]
  have HSe : Hid (∀ U b, w.grownBy U none → FillIs U b 16 → Calls Tryd.prog 42 #[.slice (some ⟨rb, 0, none⟩) 256 256, .slice (some ⟨gw, 0, none⟩) (16 * (R + 1) : Nat) capw, .slice (some ⟨b, 0, none⟩) 16 16] U fun e w' => ∃ v, e = .returned v ∧ (∃ r, v = .slice (some ⟨r, 0, none⟩) 16 16 ∧ Fill w' r 16 H ∧ U.heap.size ≤ r) ∧ U.grownBy w' none) := Lib.hid (fun U b hU hb => by
    rw [hH]
    exact (rseal_any R rb gw capw b 16 W (fun _ => 0) U hR1 hR2 (hB.up (Nat.le_refl _) hU) (hW.up (Nat.le_refl _) hU) hb.rd hWl (fun _ => by decide)).mono fun e w' h => by
      obtain ⟨r, h1, h2, h3, h4⟩ := h
      exact ⟨_, h1, ⟨r, rfl, h2, h3⟩, h4⟩)
  have HHs : Hid (∀ U r g N cap, N = allN na nt → w.grownBy U none → Fill U r 16 H → OwnR U g N cap (allF na nt fa ft) → Calls Tryd.prog 9 #[.slice (some ⟨r, 0, none⟩) 16 16, .slice (some ⟨g, 0, none⟩) N cap] U fun e w' => ∃ v, e = .returned v ∧ (∃ q, v = .slice (some ⟨q, 0, none⟩) 16 16 ∧ Fill w' q 16 Y) ∧ U.grownBy w' none) := Lib.hid (fun U r g N cap hN hU hr hO => by
    subst hN
    rw [hY]
    exact (rhash_any (some ⟨r, 0, none⟩) (some ⟨g, 0, none⟩) 16 cap (allN na nt) H (allF na nt fa ft) U (hr.rd (by decide) 16 (Nat.le_refl _)) hO.rd hHl (allF_lt na nt fa ft hfa hft) (by unfold allN padN; omega)).mono fun e w' h => by
      obtain ⟨q, h1, h2, h3, h4⟩ := h
      exact ⟨_, h1, ⟨q, rfl, h2⟩, h4⟩)
  have HT : Hid (∀ U g cap q, w.grownBy U none → OwnR U g 16 cap F1 → Fill U q 16 Y → Calls Tryd.prog 43 #[.slice (some ⟨rb, 0, none⟩) 256 256, .slice (some ⟨gw, 0, none⟩) (16 * (R + 1) : Nat) capw, .slice (some ⟨g, 0, none⟩) 16 cap, .slice (some ⟨q, 0, none⟩) 16 16] U fun e w' => ∃ v, e = .returned v ∧ OwnN w' w.heap.size v 16 Z ∧ U.grownBy w' none) := Lib.hid (fun U g cap q hU hO hq => by
    have := rturn_any R rb gw capw cap 16 16 (some ⟨q, 0, none⟩) (some ⟨g, 0, none⟩) W F1 Y U hR1 hR2 (hB.up (Nat.le_refl _) hU) (hW.up (Nat.le_refl _) hU) hO.rd (hq.rd (by decide) 16 (Nat.le_refl _)) hWl hF1l hYl (by decide)
    exact this.mono fun e w' h => by
      obtain ⟨v, h1, h2, h3⟩ := h
      exact ⟨v, h1, (h2.base hU.size).congr hYZ, h3⟩)
  have HC : Hid (∀ i, i < 16 → cat (0 + 12) (cat 0 (fun _ => 0) nf) (fourF 1) i = F1 i) := Lib.hid (fun i hi => by rw [hF1]; exact ctr_one nf i hi)
  have HPa : Hid (∀ U, w.grownBy U none → Calls Tryd.prog 40 #[.slice aa na ca] U fun e w' => ∃ g cap, e = .returned (.slice (some ⟨g, 0, none⟩) (padN na : Nat) cap) ∧ OwnR w' g (padN na) cap (padF na fa) ∧ U.heap.size ≤ g ∧ U.grownBy w' none) := Lib.hid (fun U hU => rpad_any aa ca na fa U (hA.up (Nat.le_refl _) hU) (by omega))
  have HPt : Hid (∀ U, w.grownBy U none → Calls Tryd.prog 40 #[.slice ta nt ct] U fun e w' => ∃ g cap, e = .returned (.slice (some ⟨g, 0, none⟩) (padN nt : Nat) cap) ∧ OwnR w' g (padN nt) cap (padF nt ft) ∧ U.heap.size ≤ g ∧ U.grownBy w' none) := Lib.hid (fun U hU => rpad_any ta ct nt ft U (hT.up (Nat.le_refl _) hU) (by omega))
  have HEa : Hid (∀ U, Calls Tryd.prog 41 #[.slice aa na ca] U fun e w' => ∃ r, e = .returned (.slice (some ⟨r, 0, none⟩) 8 8) ∧ Fill w' r 8 (lnB na) ∧ U.heap.size ≤ r ∧ U.grownBy w' none) := Lib.hid (fun U => reight_any aa ca na U (by omega))
  have HEt : Hid (∀ U, Calls Tryd.prog 41 #[.slice ta nt ct] U fun e w' => ∃ r, e = .returned (.slice (some ⟨r, 0, none⟩) 8 8) ∧ Fill w' r 8 (lnB nt) ∧ U.heap.size ≤ r ∧ U.grownBy w' none) := Lib.hid (fun U => reight_any ta ct nt U (by omega))
  obtain ⟨A, hAd⟩ : ∃ A, A = padN na := ⟨_, rfl⟩
  obtain ⟨B, hBd⟩ : ∃ B, B = padN nt := ⟨_, rfl⟩
  have hAl : A ≤ 2 ^ 39 := by rw [hAd]; unfold padN; omega
  have hBl : B ≤ 2 ^ 39 := by rw [hBd]; unfold padN; omega
  have HN := Lib.hid hn
  have HAD := Lib.hid hAd
  have HBD := Lib.hid hBd
  rw [← hAd] at HPa
  rw [← hBd] at HPt
  clear hB hW hn hA hT hWl hnl hfa hft hna hnt hH hF1 hY hZ hYZ hHl hYl hF1l hR1 hR2 hAd hBd
  go_enter Tryd.func25, Tryd.ntmps25
  go_wp2_with fail
  generalize w.alloc (.cells #[.slice (some ⟨rb, 0, none⟩) 256 256, .slice (some ⟨gw, 0, none⟩) (16 * (R + 1) : Nat) capw] 32) = w1 at *
  have hkl : w.heap.size < w1.heap.size := hK.lt
  go_at_call 40
  with_reducible refine (HPa.out _ g1).mono ?_
  rintro e w2 ⟨ga, capa, rfl, hOa, hga, g2⟩
  have g02 := grown_trans g1 g2
  have hK2 := hK.grown g2 (by simp)
  clear hK HPa
  go_wp2_with fail
  go_at_call 40
  with_reducible refine (HPt.out _ g02).mono ?_
  rintro e w3 ⟨gb, capb, rfl, hOb, hgb, g3⟩
  have g03 := grown_trans g02 g3
  have hK3 := hK2.grown g3 (by simp)
  have hOa3 := hOa.grown g3 (by simp)
  obtain ⟨v4, w4, hap, ⟨ex⟩⟩ := app_run capb 22 hOa3 hOb.rd (by omega)
  obtain ⟨g4, cap4, rfl, hO4, _, gg4, hor4⟩ := ex
  obtain ⟨n4, hn4⟩ : ∃ n, n = A + B := ⟨_, rfl⟩
  rw [← hn4] at hap hO4
  have HAP := Lib.hid hap
  have z2 := g2.size
  have z3 := g3.size
  have g04 : w.grownBy w4 none := grown_new g03 gg4 (by omega)
  have hK4 := hK3.grown gg4 (fun e => by have := Option.some.inj e; omega)
  have hge4 : w1.heap.size ≤ g4 := by omega
  have Hn4 := Lib.hid hn4
  have hl4 : n4 ≤ 2 ^ 40 := by omega
  clear hK2 hK3 hOa hOa3 hOb hap hor4 gg4 g03 g02 g3 g2 hgb HPt hn4
  go_wp2_with (at_builtin; refine wpList_append_run rfl (.tmp 12) (.tmp 14) 22 22 rfl (.slice (some ⟨ga, 0, none⟩) A capa) (.slice (some ⟨gb, 0, none⟩) B capb) _ _ rfl rfl HAP.out ?_)
  go_at_call 41
  with_reducible refine (HEa.out _).mono ?_
  rintro e w5 ⟨re, rfl, hFe, hre, g5⟩
  have g05 := grown_trans g04 g5
  have hK5 := hK4.grown g5 (by simp)
  have hO5 := hO4.grown g5 (by simp)
  obtain ⟨v6, w6, hap, ⟨ex⟩⟩ := app_run 8 22 hO5 (hFe.rd (by decide) 8 (Nat.le_refl _)) (by omega)
  obtain ⟨g6, cap6, rfl, hO6, _, gg6, hor6⟩ := ex
  obtain ⟨n6, hn6⟩ : ∃ n, n = n4 + 8 := ⟨_, rfl⟩
  rw [← hn6] at hap hO6
  have HAP2 := Lib.hid hap
  have z4 := g04.size
  have z5 := g5.size
  have z14 : w1.heap.size ≤ w4.heap.size := by
    have := hO4.lt
    omega
  have g06 : w.grownBy w6 none := grown_new g05 gg6 (by omega)
  have hK6 := hK5.grown gg6 (fun e => by have := Option.some.inj e; omega)
  have hge6 : w1.heap.size ≤ g6 := by omega
  have Hn6 := Lib.hid hn6
  have hl6 : n6 ≤ 2 ^ 41 := by omega
  clear hK4 hK5 hO4 hO5 hFe hap hor6 gg6 g05 g04 g5 hre HAP hn6 HEa
  go_wp2_with (at_builtin; refine wpList_append_run rfl (.tmp 16) (.tmp 18) 22 22 rfl (.slice (some ⟨g4, 0, none⟩) n4 cap4) (.slice (some ⟨re, 0, none⟩) 8 8) _ _ rfl rfl HAP2.out ?_)
  go_at_call 41
  with_reducible refine (HEt.out _).mono ?_
  rintro e w7 ⟨rt, rfl, hFt, hrt, g7⟩
  have g07 := grown_trans g06 g7
  have hK7 := hK6.grown g7 (by simp)
  have hO7 := hO6.grown g7 (by simp)
  obtain ⟨v8, w8, hap, ⟨ex⟩⟩ := app_run 8 22 hO7 (hFt.rd (by decide) 8 (Nat.le_refl _)) (by omega)
  obtain ⟨g8, cap8, rfl, hO8, _, gg8, hor8⟩ := ex
  obtain ⟨T, hTd⟩ : ∃ n, n = n6 + 8 := ⟨_, rfl⟩
  rw [← hTd] at hap hO8
  have HAP3 := Lib.hid hap
  have g08 : w.grownBy w8 none := grown_new g07 gg8 (by omega)
  have hK8 := hK7.grown gg8 (fun e => by have := Option.some.inj e; omega)
  have hTN : T = allN na nt := by
    have e1 := Hn4.out
    have e2 := Hn6.out
    have e3 := HAD.out
    have e4 := HBD.out
    unfold allN
    omega
  have hOT : OwnR w8 g8 T cap8 (allF na nt fa ft) := hO8.congr (fun i hi => by
    have e1 := Hn4.out
    have e2 := Hn6.out
    unfold allF
    rw [e2, e1, HAD.out, HBD.out])
  have HTN := Lib.hid hTN
  clear hK6 hK7 hO6 hO7 hFt hap hor8 gg8 g07 g06 g7 hrt HAP2 hTd hO8 hTN HEt
  go_upto_region 3 with (at_builtin; refine wpList_append_run rfl (.tmp 19) (.tmp 21) 22 22 rfl (.slice (some ⟨g6, 0, none⟩) n6 cap6) (.slice (some ⟨rt, 0, none⟩) 8 8) _ _ rfl rfl HAP3.out ?_)
  obtain ⟨V0, hV0⟩ : ∃ V0, V0 = w8.drew := ⟨_, rfl⟩
  have hv0 : w8.grownBy V0 none := by rw [hV0]; exact grown_drew (grown_refl w8 none)
  have HV0 := Lib.hid hV0.symm
  have gv := grown_trans g08 hv0
  have hKv := hK8.grown hv0 (by simp)
  have hOv := hOT.grown hv0 (by simp)
  clear hV0 hv0 hK8 g08 hOT HAP3
  go_cut [10] (fun s10 wx => ∃ r, s10 = .slice (some ⟨r, 0, none⟩) 16 16 ∧ Fill wx r 16 H ∧ V0.grownBy wx none)
  case first =>
    refine wp_region_held (S := fun W => V0.grownBy W (none)) (by kernel_rfl) ?_
    change wpAnyH _ _ _ _ _ 7 #[false, false, false, false, false, false, false] _ (World.drew _)
    rw [HV0.out]
    have hS0 : V0.grownBy V0 (none) := grown_refl V0 _
    refine wpAnyH_takeD (some 23) (i := 0) (v := .pointer (some ⟨w.heap.size, 0, none⟩)) rfl rfl (by kernel_rfl) (by kernel_rfl) (by kernel_rfl) (fun _ _ _ h => h) (Or.inl ⟨rfl, fun _ _ => by go_simp⟩) hS0 ?_
    simp only [Act.put, List.setIfInBounds_toArray, List.set_cons_succ, List.set_cons_zero]
    refine wpAnyH_takeD (some 24) (i := 1) (v := .slice (some ⟨rb, 0, none⟩) 256 256) rfl rfl (by kernel_rfl) (by kernel_rfl) (by kernel_rfl) (fun _ _ _ h => h) (Or.inl ⟨rfl, fun W hW => by have c := (hKv.grown hW (by simp)).c0; go_simp⟩) hS0 ?_
    simp only [Act.put, List.setIfInBounds_toArray, List.set_cons_succ, List.set_cons_zero]
    refine wpAnyH_takeD (some 25) (i := 2) (v := .pointer (some ⟨w.heap.size, 1, none⟩)) rfl rfl (by kernel_rfl) (by kernel_rfl) (by kernel_rfl) (fun _ _ _ h => h) (Or.inl ⟨rfl, fun _ _ => by go_simp⟩) hS0 ?_
    simp only [Act.put, List.setIfInBounds_toArray, List.set_cons_succ, List.set_cons_zero]
    refine wpAnyH_takeD (some 26) (i := 3) (v := .slice (some ⟨gw, 0, none⟩) (16 * (R + 1) : Nat) capw) rfl rfl (by kernel_rfl) (by kernel_rfl) (by kernel_rfl) (fun _ _ _ h => h) (Or.inl ⟨rfl, fun W hW => by have c := (hKv.grown hW (by simp)).c1; go_simp⟩) hS0 ?_
    simp only [Act.put, List.setIfInBounds_toArray, List.set_cons_succ, List.set_cons_zero]
    refine wpAnyH_one (i := 4) (by kernel_rfl) (op_make (some 27) 16 ⟨by decide, by decide⟩ rfl rfl rfl rfl hS0 ?_)
    intro V1 gg1 hS1 hZ
    have hS_Z := hS0.size
    simp only [Act.put, List.setIfInBounds_toArray, List.set_cons_succ, List.set_cons_zero]
    refine wpAnyH_one (i := 5) (by kernel_rfl) (op_callR (R := fun v w' => (∃ r, v = .slice (some ⟨r, 0, none⟩) 16 16 ∧ Fill w' r 16 H ∧ V1.heap.size ≤ r) ∧ V1.grownBy w' none) (some 28) 42 #[.slice (some ⟨rb, 0, none⟩) 256 256, .slice (some ⟨gw, 0, none⟩) (16 * (R + 1) : Nat) capw, .slice (some ⟨V0.heap.size, 0, none⟩) 16 16] rfl rfl rfl (exec_fn3 _ _ _ _ _ _ _ rfl rfl rfl rfl) rseal_enters (HSe.out V1 _ (grown_trans gv hS1) hZ) ?_)
    rintro vv2 V2 ⟨⟨r, rfl, hH2, hr2⟩, gg2⟩
    have hS2 := grown_trans hS1 (grown_some gg2)
    refine ⟨hS2, ?_⟩
    simp only [Act.put, List.setIfInBounds_toArray, List.set_cons_succ, List.set_cons_zero]
    have hZ_2 := hZ.grown gg2 (by simp)
    refine wpAnyH_takeD (some 10) (i := 6) (v := .slice (some ⟨r, 0, none⟩) 16 16) rfl rfl (by kernel_rfl) (by kernel_rfl) (by kernel_rfl) (fun _ _ _ h => h) (Or.inl ⟨rfl, fun _ _ => rfl⟩) hS2 ?_
    simp only [Act.put, List.setIfInBounds_toArray, List.set_cons_succ, List.set_cons_zero]
    refine wpAnyH_done (by kernel_rfl) ?_ _
    go_wp2_with fail
    go_meet
    case rel => exact ⟨r, rfl, hH2, hS2⟩
  case rest =>
    obtain ⟨r, rfl, hHr, g9⟩ := hcut
    have g09 := grown_trans gv g9
    have hK9 := hKv.grown g9 (by simp)
    have hO9 := hOv.grown g9 (by simp)
    clear HV0 gv hKv hOv g9 HSe
    go_upto_region 4 with fail
    obtain ⟨V0, hV0⟩ : ∃ V0, V0 = wc.drew := ⟨_, rfl⟩
    have hv0 : wc.grownBy V0 none := by rw [hV0]; exact grown_drew (grown_refl wc none)
    have HV0 := Lib.hid hV0.symm
    have gv := grown_trans g09 hv0
    have hKv := hK9.grown hv0 (by simp)
    have hOv := hO9.grown hv0 (by simp)
    have hHv := hHr.grown (by decide) hv0 (by simp)
    have hNv := HN.out.up (Nat.le_refl _) gv
    clear hV0 hv0 hK9 hO9 hHr g09 HN
    refine wp_region_held (S := fun W => V0.grownBy W (none)) (by kernel_rfl) ?_
    change wpAnyH _ _ _ _ _ 14 #[false, false, false, false, false, false, false, false, false, false, false, false, false, false] _ (World.drew _)
    rw [HV0.out]
    have hS0 : V0.grownBy V0 (none) := grown_refl V0 _
    refine wpAnyH_takeD (some 29) (i := 0) (v := .pointer (some ⟨w.heap.size, 0, none⟩)) rfl rfl (by kernel_rfl) (by kernel_rfl) (by kernel_rfl) (fun _ _ _ h => h) (Or.inl ⟨rfl, fun _ _ => by go_simp⟩) hS0 ?_
    simp only [Act.put, List.setIfInBounds_toArray, List.set_cons_succ, List.set_cons_zero]
    refine wpAnyH_takeD (some 30) (i := 1) (v := .slice (some ⟨rb, 0, none⟩) 256 256) rfl rfl (by kernel_rfl) (by kernel_rfl) (by kernel_rfl) (fun _ _ _ h => h) (Or.inl ⟨rfl, fun W hW => by have c := (hKv.grown hW (by simp)).c0; go_simp⟩) hS0 ?_
    simp only [Act.put, List.setIfInBounds_toArray, List.set_cons_succ, List.set_cons_zero]
    refine wpAnyH_takeD (some 31) (i := 2) (v := .pointer (some ⟨w.heap.size, 1, none⟩)) rfl rfl (by kernel_rfl) (by kernel_rfl) (by kernel_rfl) (fun _ _ _ h => h) (Or.inl ⟨rfl, fun _ _ => by go_simp⟩) hS0 ?_
    simp only [Act.put, List.setIfInBounds_toArray, List.set_cons_succ, List.set_cons_zero]
    refine wpAnyH_takeD (some 32) (i := 3) (v := .slice (some ⟨gw, 0, none⟩) (16 * (R + 1) : Nat) capw) rfl rfl (by kernel_rfl) (by kernel_rfl) (by kernel_rfl) (fun _ _ _ h => h) (Or.inl ⟨rfl, fun W hW => by have c := (hKv.grown hW (by simp)).c1; go_simp⟩) hS0 ?_
    simp only [Act.put, List.setIfInBounds_toArray, List.set_cons_succ, List.set_cons_zero]
    refine wpAnyH_takeD (some 34) (i := 5) (v := .slice an 12 cn) rfl rfl (by kernel_rfl) (by kernel_rfl) (by kernel_rfl) (fun _ _ _ h => h) (Or.inl ⟨rfl, fun _ _ => rfl⟩) hS0 ?_
    simp only [Act.put, List.setIfInBounds_toArray, List.set_cons_succ, List.set_cons_zero]
    refine wpAnyH_takeD (some 38) (i := 9) (v := .slice (some ⟨r, 0, none⟩) 16 16) rfl rfl (by kernel_rfl) (by kernel_rfl) (by kernel_rfl) (fun _ _ _ h => h) (Or.inl ⟨rfl, fun _ _ => rfl⟩) hS0 ?_
    simp only [Act.put, List.setIfInBounds_toArray, List.set_cons_succ, List.set_cons_zero]
    refine wpAnyH_takeD (some 39) (i := 10) (v := .slice (some ⟨g8, 0, none⟩) T cap8) rfl rfl (by kernel_rfl) (by kernel_rfl) (by kernel_rfl) (fun _ _ _ h => h) (Or.inl ⟨rfl, fun _ _ => rfl⟩) hS0 ?_
    simp only [Act.put, List.setIfInBounds_toArray, List.set_cons_succ, List.set_cons_zero]
    refine wpAnyH_both (i := 4) (j := 7) (by kernel_rfl) ?_ ?_
    · refine (op_empty (some 33) rfl rfl rfl rfl hS0 ?_)
      intro V1 gg1 hS1 hE
      have lo_E := hS0.size
      have lt_E := hE.lt
      simp only [Act.put, List.setIfInBounds_toArray, List.set_cons_succ, List.set_cons_zero]
      have zz1 := gg1.size
      refine wpAnyH_both (i := 6) (j := 7) (by kernel_rfl) ?_ ?_
      · refine (op_app (some 35) (.tmp 33) (.tmp 34) rfl rfl rfl rfl rfl rfl (hE) (hNv.up (Nat.le_refl _) hS1) (by omega) hS1 (lo_E) ?_)
        intro V2 g_A cap_A gg2 hS2 hA or_A
        have lo_A : V0.heap.size ≤ g_A := by have := hS1.size; omega
        have lt_A := hA.lt
        simp only [Act.put, List.setIfInBounds_toArray, List.set_cons_succ, List.set_cons_zero]
        have zz2 := gg2.size
        refine wpAnyH_one (i := 7) (by kernel_rfl) (op_four (some 36) 1 rfl rfl rfl rfl hS2 ?_)
        intro V3 gg3 hS3 hD
        have lo_D := hS2.size
        have lt_D := hD.lt
        simp only [Act.put, List.setIfInBounds_toArray, List.set_cons_succ, List.set_cons_zero]
        have zz3 := gg3.size
        have hA_3 := hA.grown gg3 (by simp)
        refine wpAnyH_one (i := 8) (by kernel_rfl) (op_app (some 37) (.tmp 35) (.tmp 36) rfl rfl rfl rfl rfl rfl (hA_3) ((hD).rd) (by omega) hS3 (lo_A) ?_)
        intro V4 g_C cap_C gg4 hS4 hC or_C
        have lo_C : V0.heap.size ≤ g_C := by have := hS3.size; omega
        have lt_C := hC.lt
        simp only [Act.put, List.setIfInBounds_toArray, List.set_cons_succ, List.set_cons_zero]
        have zz4 := gg4.size
        have hD_4 := hD.grown gg4 (fun e => by have := Option.some.inj e; omega)
        refine wpAnyH_one (i := 11) (by kernel_rfl) (op_callR (R := fun v w' => (∃ q, v = .slice (some ⟨q, 0, none⟩) 16 16 ∧ Fill w' q 16 Y) ∧ V4.grownBy w' none) (some 40) 9 #[.slice (some ⟨r, 0, none⟩) 16 16, .slice (some ⟨g8, 0, none⟩) T cap8] rfl rfl rfl (exec_fn2 _ _ _ _ _ rfl rfl rfl) rhash_enters (HHs.out V4 _ _ _ _ HTN.out (grown_trans gv hS4) (hHv.grown (by decide) hS4 (by simp)) (hOv.grown hS4 (by simp))) ?_)
        rintro vv5 V5 ⟨⟨q, rfl, hQ⟩, gg5⟩
        have hS5 := grown_trans hS4 (grown_some gg5)
        refine ⟨hS5, ?_⟩
        simp only [Act.put, List.setIfInBounds_toArray, List.set_cons_succ, List.set_cons_zero]
        have zz5 := gg5.size
        have hD_5 := hD_4.grown gg5 (by simp)
        have hC_5 := hC.grown gg5 (by simp)
        refine wpAnyH_one (i := 12) (by kernel_rfl) (op_callR (R := fun v w' => OwnN w' w.heap.size v 16 Z ∧ V5.grownBy w' none) (some 41) 43 #[.slice (some ⟨rb, 0, none⟩) 256 256, .slice (some ⟨gw, 0, none⟩) (16 * (R + 1) : Nat) capw, .slice (some ⟨g_C, 0, none⟩) 16 cap_C, .slice (some ⟨q, 0, none⟩) 16 16] rfl rfl rfl (exec_fn4 _ _ _ _ _ _ _ _ _ rfl rfl rfl rfl rfl) rturn_enters (HT.out V5 _ _ _ (grown_trans gv hS5) ((hC_5).congr HC.out) hQ) ?_)
        rintro vv6 V6 ⟨hx, gg6⟩
        have hS6 := grown_trans hS5 (grown_some gg6)
        refine ⟨hS6, ?_⟩
        simp only [Act.put, List.setIfInBounds_toArray, List.set_cons_succ, List.set_cons_zero]
        have zz6 := gg6.size
        have hD_6 := hD_5.grown gg6 (by simp)
        have hC_6 := hC_5.grown gg6 (by simp)
        refine wpAnyH_takeD (some 8) (i := 13) (v := vv6) rfl rfl (by kernel_rfl) (by kernel_rfl) (by kernel_rfl) (fun _ _ _ h => h) (Or.inl ⟨rfl, fun _ _ => rfl⟩) hS6 ?_
        simp only [Act.put, List.setIfInBounds_toArray, List.set_cons_succ, List.set_cons_zero]
        refine wpAnyH_done (by kernel_rfl) ?_ _
        go_wp2_with fail
        go_ret
        exact ⟨vv6, rfl, hx, grown_trans gv hS6⟩
      · refine (op_four (some 36) 1 rfl rfl rfl rfl hS1 ?_)
        intro V2 gg2 hS2 hD
        have lo_D := hS1.size
        have lt_D := hD.lt
        simp only [Act.put, List.setIfInBounds_toArray, List.set_cons_succ, List.set_cons_zero]
        have zz2 := gg2.size
        have hE_2 := hE.grown gg2 (by simp)
        refine wpAnyH_one (i := 6) (by kernel_rfl) (op_app (some 35) (.tmp 33) (.tmp 34) rfl rfl rfl rfl rfl rfl (hE_2) (hNv.up (Nat.le_refl _) hS2) (by omega) hS2 (lo_E) ?_)
        intro V3 g_A cap_A gg3 hS3 hA or_A
        have lo_A : V0.heap.size ≤ g_A := by have := hS2.size; omega
        have lt_A := hA.lt
        simp only [Act.put, List.setIfInBounds_toArray, List.set_cons_succ, List.set_cons_zero]
        have zz3 := gg3.size
        have hD_3 := hD.grown gg3 (fun e => by have := Option.some.inj e; omega)
        refine wpAnyH_one (i := 8) (by kernel_rfl) (op_app (some 37) (.tmp 35) (.tmp 36) rfl rfl rfl rfl rfl rfl (hA) ((hD_3).rd) (by omega) hS3 (lo_A) ?_)
        intro V4 g_C cap_C gg4 hS4 hC or_C
        have lo_C : V0.heap.size ≤ g_C := by have := hS3.size; omega
        have lt_C := hC.lt
        simp only [Act.put, List.setIfInBounds_toArray, List.set_cons_succ, List.set_cons_zero]
        have zz4 := gg4.size
        have hD_4 := hD_3.grown gg4 (fun e => by have := Option.some.inj e; omega)
        refine wpAnyH_one (i := 11) (by kernel_rfl) (op_callR (R := fun v w' => (∃ q, v = .slice (some ⟨q, 0, none⟩) 16 16 ∧ Fill w' q 16 Y) ∧ V4.grownBy w' none) (some 40) 9 #[.slice (some ⟨r, 0, none⟩) 16 16, .slice (some ⟨g8, 0, none⟩) T cap8] rfl rfl rfl (exec_fn2 _ _ _ _ _ rfl rfl rfl) rhash_enters (HHs.out V4 _ _ _ _ HTN.out (grown_trans gv hS4) (hHv.grown (by decide) hS4 (by simp)) (hOv.grown hS4 (by simp))) ?_)
        rintro vv5 V5 ⟨⟨q, rfl, hQ⟩, gg5⟩
        have hS5 := grown_trans hS4 (grown_some gg5)
        refine ⟨hS5, ?_⟩
        simp only [Act.put, List.setIfInBounds_toArray, List.set_cons_succ, List.set_cons_zero]
        have zz5 := gg5.size
        have hD_5 := hD_4.grown gg5 (by simp)
        have hC_5 := hC.grown gg5 (by simp)
        refine wpAnyH_one (i := 12) (by kernel_rfl) (op_callR (R := fun v w' => OwnN w' w.heap.size v 16 Z ∧ V5.grownBy w' none) (some 41) 43 #[.slice (some ⟨rb, 0, none⟩) 256 256, .slice (some ⟨gw, 0, none⟩) (16 * (R + 1) : Nat) capw, .slice (some ⟨g_C, 0, none⟩) 16 cap_C, .slice (some ⟨q, 0, none⟩) 16 16] rfl rfl rfl (exec_fn4 _ _ _ _ _ _ _ _ _ rfl rfl rfl rfl rfl) rturn_enters (HT.out V5 _ _ _ (grown_trans gv hS5) ((hC_5).congr HC.out) hQ) ?_)
        rintro vv6 V6 ⟨hx, gg6⟩
        have hS6 := grown_trans hS5 (grown_some gg6)
        refine ⟨hS6, ?_⟩
        simp only [Act.put, List.setIfInBounds_toArray, List.set_cons_succ, List.set_cons_zero]
        have zz6 := gg6.size
        have hD_6 := hD_5.grown gg6 (by simp)
        have hC_6 := hC_5.grown gg6 (by simp)
        refine wpAnyH_takeD (some 8) (i := 13) (v := vv6) rfl rfl (by kernel_rfl) (by kernel_rfl) (by kernel_rfl) (fun _ _ _ h => h) (Or.inl ⟨rfl, fun _ _ => rfl⟩) hS6 ?_
        simp only [Act.put, List.setIfInBounds_toArray, List.set_cons_succ, List.set_cons_zero]
        refine wpAnyH_done (by kernel_rfl) ?_ _
        go_wp2_with fail
        go_ret
        exact ⟨vv6, rfl, hx, grown_trans gv hS6⟩
    · refine (op_four (some 36) 1 rfl rfl rfl rfl hS0 ?_)
      intro V1 gg1 hS1 hD
      have lo_D := hS0.size
      have lt_D := hD.lt
      simp only [Act.put, List.setIfInBounds_toArray, List.set_cons_succ, List.set_cons_zero]
      have zz1 := gg1.size
      refine wpAnyH_one (i := 4) (by kernel_rfl) (op_empty (some 33) rfl rfl rfl rfl hS1 ?_)
      intro V2 gg2 hS2 hE
      have lo_E := hS1.size
      have lt_E := hE.lt
      simp only [Act.put, List.setIfInBounds_toArray, List.set_cons_succ, List.set_cons_zero]
      have zz2 := gg2.size
      have hD_2 := hD.grown gg2 (by simp)
      refine wpAnyH_one (i := 6) (by kernel_rfl) (op_app (some 35) (.tmp 33) (.tmp 34) rfl rfl rfl rfl rfl rfl (hE) (hNv.up (Nat.le_refl _) hS2) (by omega) hS2 (lo_E) ?_)
      intro V3 g_A cap_A gg3 hS3 hA or_A
      have lo_A : V0.heap.size ≤ g_A := by have := hS2.size; omega
      have lt_A := hA.lt
      simp only [Act.put, List.setIfInBounds_toArray, List.set_cons_succ, List.set_cons_zero]
      have zz3 := gg3.size
      have hD_3 := hD_2.grown gg3 (fun e => by have := Option.some.inj e; omega)
      refine wpAnyH_one (i := 8) (by kernel_rfl) (op_app (some 37) (.tmp 35) (.tmp 36) rfl rfl rfl rfl rfl rfl (hA) ((hD_3).rd) (by omega) hS3 (lo_A) ?_)
      intro V4 g_C cap_C gg4 hS4 hC or_C
      have lo_C : V0.heap.size ≤ g_C := by have := hS3.size; omega
      have lt_C := hC.lt
      simp only [Act.put, List.setIfInBounds_toArray, List.set_cons_succ, List.set_cons_zero]
      have zz4 := gg4.size
      have hD_4 := hD_3.grown gg4 (fun e => by have := Option.some.inj e; omega)
      refine wpAnyH_one (i := 11) (by kernel_rfl) (op_callR (R := fun v w' => (∃ q, v = .slice (some ⟨q, 0, none⟩) 16 16 ∧ Fill w' q 16 Y) ∧ V4.grownBy w' none) (some 40) 9 #[.slice (some ⟨r, 0, none⟩) 16 16, .slice (some ⟨g8, 0, none⟩) T cap8] rfl rfl rfl (exec_fn2 _ _ _ _ _ rfl rfl rfl) rhash_enters (HHs.out V4 _ _ _ _ HTN.out (grown_trans gv hS4) (hHv.grown (by decide) hS4 (by simp)) (hOv.grown hS4 (by simp))) ?_)
      rintro vv5 V5 ⟨⟨q, rfl, hQ⟩, gg5⟩
      have hS5 := grown_trans hS4 (grown_some gg5)
      refine ⟨hS5, ?_⟩
      simp only [Act.put, List.setIfInBounds_toArray, List.set_cons_succ, List.set_cons_zero]
      have zz5 := gg5.size
      have hD_5 := hD_4.grown gg5 (by simp)
      have hC_5 := hC.grown gg5 (by simp)
      refine wpAnyH_one (i := 12) (by kernel_rfl) (op_callR (R := fun v w' => OwnN w' w.heap.size v 16 Z ∧ V5.grownBy w' none) (some 41) 43 #[.slice (some ⟨rb, 0, none⟩) 256 256, .slice (some ⟨gw, 0, none⟩) (16 * (R + 1) : Nat) capw, .slice (some ⟨g_C, 0, none⟩) 16 cap_C, .slice (some ⟨q, 0, none⟩) 16 16] rfl rfl rfl (exec_fn4 _ _ _ _ _ _ _ _ _ rfl rfl rfl rfl rfl) rturn_enters (HT.out V5 _ _ _ (grown_trans gv hS5) ((hC_5).congr HC.out) hQ) ?_)
      rintro vv6 V6 ⟨hx, gg6⟩
      have hS6 := grown_trans hS5 (grown_some gg6)
      refine ⟨hS6, ?_⟩
      simp only [Act.put, List.setIfInBounds_toArray, List.set_cons_succ, List.set_cons_zero]
      have zz6 := gg6.size
      have hD_6 := hD_5.grown gg6 (by simp)
      have hC_6 := hC_5.grown gg6 (by simp)
      refine wpAnyH_takeD (some 8) (i := 13) (v := vv6) rfl rfl (by kernel_rfl) (by kernel_rfl) (by kernel_rfl) (fun _ _ _ h => h) (Or.inl ⟨rfl, fun _ _ => rfl⟩) hS6 ?_
      simp only [Act.put, List.setIfInBounds_toArray, List.set_cons_succ, List.set_cons_zero]
      refine wpAnyH_done (by kernel_rfl) ?_ _
      go_wp2_with fail
      go_ret
      exact ⟨vv6, rfl, hx, grown_trans gv hS6⟩
end Go.Proofs.YtlfopcigbgfnlaaDoor
namespace Go.Proofs.YtlfopcigbgfnlaaDoor
open Go.RowKit Go.Shelf

set_option maxRecDepth 100000
set_option maxHeartbeats 2000000

section
variable {ops : Array Oper} {Q : Exit → Act → World → Prop} {a : Act} {w : World}
theorem op_app0 {i : Nat} {o : Oper} {K : Act → World → Prop} {W0 : World} {B g cap m c : Nat} {ad : Option Addr} {f f' : Nat → Nat} (d : Option Tmp) (s x : Operand) (hi : ops[i]? = some o) (hd : o.dst = d) (hw : Region.wanted o (yielded ops a.tmps) = true)
    (ho : o.op = .call { callee := .builtin .append, args := #[s, x], argTypes := #[22, 22] }) (hs : a.eval s = .slice (some ⟨g, 0, none⟩) 0 cap) (hx : a.eval x = .slice ad m c)
    (hO : OwnR w g 0 cap f) (hR : Rd w B ad m f') (hn : m ≤ 2 ^ 46) (hS : W0.grownBy w none) (hb : W0.heap.size ≤ g)
    (h : ∀ w' g' cap', w.grownBy w' (some g) → W0.grownBy w' none → OwnR w' g' m cap' f' → (g' = g ∨ w.heap.size ≤ g') → K (a.put d (.slice (some ⟨g', 0, none⟩) m cap')) w') : wpOp Tryd.prog ops Q i (fun a' w' => W0.grownBy w' none ∧ K a' w') a w :=
  op_app (n := 0) d s x hi hd hw ho hs hx hO hR (by omega) hS hb (fun w' g' cap' e1 e2 e3 e4 => by
    have e5 := e3.congr (f' := f') (fun i _ => by unfold cat; rw [if_neg (Nat.not_lt_zero _), Nat.sub_zero])
    rw [Nat.zero_add] at e5 ⊢
    exact h w' g' cap' e1 e2 e5 e4)
end
theorem rktag_enters (args : Array Value) (w : World) : (callFunc 25 args).run Tryd.prog w = .ok (.enter 25 args) w := enters_of Tryd.func25 (by kernel_rfl) rfl args w
theorem rkturn_enters (args : Array Value) (w : World) : (callFunc 26 args).run Tryd.prog w = .ok (.enter 26 args) w := enters_of Tryd.func26 (by kernel_rfl) rfl args w

theorem rkseal_any (R rb gw capw na nt ca ct cn : Nat) (an aa ta : Option Addr) (W nf fa ft : Nat → Nat) (w : World) (hR1 : 1 ≤ R) (hR2 : R ≤ 14) (hB : Rd w w.heap.size (some ⟨rb, 0, none⟩) 256 sB) (hW : Rd w w.heap.size (some ⟨gw, 0, none⟩) (16 * (R + 1)) W)
    (hn : Rd w w.heap.size an 12 nf) (hA : Rd w w.heap.size aa na fa) (hT : Rd w w.heap.size ta nt ft) (hWl : ∀ i, W i < 256) (hnl : ∀ i, nf i < 256) (hfa : ∀ i, fa i < 256) (hft : ∀ i, ft i < 256) (hna : na ≤ 2 ^ 38) (hnt : nt ≤ 2 ^ 38) :
    Calls Tryd.prog 12 #[.agg #[.slice (some ⟨rb, 0, none⟩) 256 256, .slice (some ⟨gw, 0, none⟩) (16 * (R + 1) : Nat) capw], .slice an 12 cn, .slice aa na ca, .slice ta nt ct] w fun e w' => ∃ g cap, e = .returned (.slice (some ⟨g, 0, none⟩) (nt + 16 : Nat) cap) ∧ OwnR w' g (nt + 16) cap (sealF R W nf fa na ft nt) ∧ w.grownBy w' none := by
  have hK := keyAt_alloc w (.slice (some ⟨rb, 0, none⟩) 256 256) (.slice (some ⟨gw, 0, none⟩) (16 * (R + 1) : Nat) capw)
  have g1 := World.grownBy_alloc w (.cells #[.slice (some ⟨rb, 0, none⟩) 256 256, .slice (some ⟨gw, 0, none⟩) (16 * (R + 1) : Nat) capw] 32) none
  obtain ⟨G, hG⟩ : ∃ G, G = turnF R W (nextF (firstF nf)) ft := ⟨_, rfl⟩
  have hGl : ∀ i, G i < 256 := fun i => by rw [hG]; exact turnF_lt _ _ _ _ hWl (nextF_lt _ (firstF_lt nf hnl)) hft i
  obtain ⟨Z, hZ⟩ : ∃ Z, Z = tagF R W (firstF nf) fa na G nt := ⟨_, rfl⟩
  have hfin : sealF R W nf fa na ft nt = cat nt G Z := by rw [hZ, hG]; rfl
  rw [hfin]
  have HTu : Hid (∀ U, w.grownBy U none → Calls Tryd.prog 26 #[.agg #[.slice (some ⟨rb, 0, none⟩) 256 256, .slice (some ⟨gw, 0, none⟩) (16 * (R + 1) : Nat) capw], .slice an 12 cn, .slice ta nt ct] U (GaveN U nt G)) := Lib.hid (fun U hU => by
    rw [hG]
    exact rkturn_any R rb gw capw nt ct cn an ta W nf ft U hR1 hR2 (hB.up (Nat.le_refl _) hU) (hW.up (Nat.le_refl _) hU) (hn.up (Nat.le_refl _) hU) (hT.up (Nat.le_refl _) hU) hWl hnl hft (by omega))
  have HTg : Hid (∀ U av cv, w.grownBy U none → Rd U U.heap.size av nt G → Calls Tryd.prog 25 #[.agg #[.slice (some ⟨rb, 0, none⟩) 256 256, .slice (some ⟨gw, 0, none⟩) (16 * (R + 1) : Nat) capw], .slice an 12 cn, .slice aa na ca, .slice av nt cv] U fun e w' => ∃ v, e = .returned v ∧ (∃ a c, v = .slice a 16 c ∧ Rd w' w'.heap.size a 16 Z) ∧ U.grownBy w' none) := Lib.hid (fun U av cv hU hv => by
    have := rktag_any R rb gw capw na nt ca cv cn an aa av W nf fa G U hR1 hR2 (hB.up (Nat.le_refl _) hU) (hW.up (Nat.le_refl _) hU) (hn.up (Nat.le_refl _) hU) (hA.up (Nat.le_refl _) hU) hv hWl hnl hfa hGl hna hnt
    rw [← hZ] at this
    exact this.mono fun e w' h => by
      obtain ⟨v, h1, h2, h3⟩ := h
      obtain ⟨a, c, e1, _, e3⟩ := h2.rd
      exact ⟨v, h1, ⟨a, c, e1, e3⟩, h3⟩)
  clear hB hW hn hA hT hWl hnl hfa hft hna hG hGl hZ hfin hR1 hR2
  go_enter Tryd.func12, Tryd.ntmps12
  obtain ⟨d, hu, hd⟩ := under_key
  go_upto_region 1 with fail
  generalize w.alloc (.cells #[.slice (some ⟨rb, 0, none⟩) 256 256, .slice (some ⟨gw, 0, none⟩) (16 * (R + 1) : Nat) capw] 32) = w1 at *
  have hkl : w.heap.size < w1.heap.size := hK.lt
  go_wp2_with (refine wpList_load_row rfl 32 (.tmp 4) rfl w.heap.size rfl 32 _ (0, 0) d hK.block hu (by cases d <;> first | rfl | exact hd) (by kernel_rfl) ?_)
  go_at_call 26
  with_reducible refine (HTu.out _ g1).mono ?_
  rintro e w2 ⟨v2, rfl, hv2, g2⟩
  obtain ⟨av, cv, rfl, _, hRv⟩ := hv2.rd
  have g02 := grown_trans g1 g2
  have hK2 := hK.grown g2 (by simp)
  clear hK g1 g2 HTu hv2
  go_upto_region 2 with fail
  obtain ⟨V0, hV0⟩ : ∃ V0, V0 = w2.drew := ⟨_, rfl⟩
  have hv0 : w2.grownBy V0 none := by rw [hV0]; exact grown_drew (grown_refl w2 none)
  have HV0 := Lib.hid hV0.symm
  have gv := grown_trans g02 hv0
  have hKv := hK2.grown hv0 (by simp)
  have hRw := hRv.up (Nat.le_refl _) hv0
  clear hV0 hv0 hK2 g02 hRv
  refine wp_region_held (S := fun W => V0.grownBy W (none)) (by kernel_rfl) ?_
  change wpAnyH _ _ _ _ _ 10 #[false, false, false, false, false, false, false, false, false, false] _ (World.drew _)
  rw [HV0.out]
  have hS0 : V0.grownBy V0 (none) := grown_refl V0 _
  refine wpAnyH_takeD (some 15) (i := 1) (v := .slice av nt cv) rfl rfl (by kernel_rfl) (by kernel_rfl) (by kernel_rfl) (fun _ _ _ h => h) (Or.inl ⟨rfl, fun _ _ => rfl⟩) hS0 ?_
  simp only [Act.put, List.setIfInBounds_toArray, List.set_cons_succ, List.set_cons_zero]
  refine wpAnyH_takeD (some 17) (i := 3) (v := .agg #[.slice (some ⟨rb, 0, none⟩) 256 256, .slice (some ⟨gw, 0, none⟩) (16 * (R + 1) : Nat) capw]) rfl rfl (by kernel_rfl) (by kernel_rfl) (by kernel_rfl) (fun _ _ _ h => h) (Or.inl ⟨rfl, fun W hW => run_key (hKv.grown hW (by simp)) rfl rfl⟩) hS0 ?_
  simp only [Act.put, List.setIfInBounds_toArray, List.set_cons_succ, List.set_cons_zero]
  refine wpAnyH_takeD (some 18) (i := 4) (v := .slice an 12 cn) rfl rfl (by kernel_rfl) (by kernel_rfl) (by kernel_rfl) (fun _ _ _ h => h) (Or.inl ⟨rfl, fun _ _ => rfl⟩) hS0 ?_
  simp only [Act.put, List.setIfInBounds_toArray, List.set_cons_succ, List.set_cons_zero]
  refine wpAnyH_takeD (some 19) (i := 5) (v := .slice aa na ca) rfl rfl (by kernel_rfl) (by kernel_rfl) (by kernel_rfl) (fun _ _ _ h => h) (Or.inl ⟨rfl, fun _ _ => rfl⟩) hS0 ?_
  simp only [Act.put, List.setIfInBounds_toArray, List.set_cons_succ, List.set_cons_zero]
  refine wpAnyH_takeD (some 20) (i := 6) (v := .slice av nt cv) rfl rfl (by kernel_rfl) (by kernel_rfl) (by kernel_rfl) (fun _ _ _ h => h) (Or.inl ⟨rfl, fun _ _ => rfl⟩) hS0 ?_
  simp only [Act.put, List.setIfInBounds_toArray, List.set_cons_succ, List.set_cons_zero]
  refine wpAnyH_one (i := 0) (by kernel_rfl) (op_empty (some 14) rfl rfl rfl rfl hS0 ?_)
  intro V1 gg1 hS1 hE
  have lo_E := hS0.size
  have lt_E := hE.lt
  simp only [Act.put, List.setIfInBounds_toArray, List.set_cons_succ, List.set_cons_zero]
  have zz1 := gg1.size
  refine wpAnyH_one (i := 2) (by kernel_rfl) (op_app0 (some 16) (.tmp 14) (.tmp 15) rfl rfl rfl rfl rfl rfl (hE) (hRw.up (Nat.le_refl _) hS1) (by omega) hS1 (lo_E) ?_)
  intro V2 g_A cap_A gg2 hS2 hA or_A
  have lo_A : V0.heap.size ≤ g_A := by have := hS1.size; omega
  have lt_A := hA.lt
  simp only [Act.put, List.setIfInBounds_toArray, List.set_cons_succ, List.set_cons_zero]
  have zz2 := gg2.size
  refine wpAnyH_one (i := 7) (by kernel_rfl) (op_callR (R := fun v w' => (∃ a c, v = .slice a 16 c ∧ Rd w' w'.heap.size a 16 Z) ∧ V2.grownBy w' none) (some 21) 25 #[.agg #[.slice (some ⟨rb, 0, none⟩) 256 256, .slice (some ⟨gw, 0, none⟩) (16 * (R + 1) : Nat) capw], .slice an 12 cn, .slice aa na ca, .slice av nt cv] rfl rfl rfl (exec_fn4 _ _ _ _ _ _ _ _ _ rfl rfl rfl rfl rfl) rktag_enters (HTg.out V2 _ _ (grown_trans gv hS2) (hRw.up (Nat.le_refl _) hS2)) ?_)
  rintro vv3 V3 ⟨⟨at2, ct2, rfl, hZr⟩, gg3⟩
  have hS3 := grown_trans hS2 (grown_some gg3)
  refine ⟨hS3, ?_⟩
  simp only [Act.put, List.setIfInBounds_toArray, List.set_cons_succ, List.set_cons_zero]
  have zz3 := gg3.size
  have hA_3 := hA.grown gg3 (by simp)
  refine wpAnyH_one (i := 8) (by kernel_rfl) (op_app (some 22) (.tmp 16) (.tmp 21) rfl rfl rfl rfl rfl rfl (hA_3) (hZr) (by omega) hS3 (lo_A) ?_)
  intro V4 g_C cap_C gg4 hS4 hC or_C
  have lo_C : V0.heap.size ≤ g_C := by have := hS3.size; omega
  have lt_C := hC.lt
  simp only [Act.put, List.setIfInBounds_toArray, List.set_cons_succ, List.set_cons_zero]
  have zz4 := gg4.size
  refine wpAnyH_takeD (some 8) (i := 9) (v := .slice (some ⟨g_C, 0, none⟩) (nt + 16 : Nat) cap_C) rfl rfl (by kernel_rfl) (by kernel_rfl) (by kernel_rfl) (fun _ _ _ h => h) (Or.inl ⟨rfl, fun _ _ => rfl⟩) hS4 ?_
  simp only [Act.put, List.setIfInBounds_toArray, List.set_cons_succ, List.set_cons_zero]
  refine wpAnyH_done (by kernel_rfl) ?_ _
  go_wp2_with fail
  go_ret
  exact ⟨g_C, cap_C, rfl, hC, grown_trans gv hS4⟩
end Go.Proofs.YtlfopcigbgfnlaaDoor
namespace Go.Proofs.YtlfopcigbgfnlaaDoor
open Go.RowKit Go.Shelf

set_option maxRecDepth 100000
set_option maxHeartbeats 2000000

/-- What the reference's Open hands back. -/
structure ROpened (w : World) (ok : Bool) (N : Nat) (G : Nat → Nat) (e : Ending) (w' : World) : Prop where
  gr : w.grownBy w' none
  bad : ok = false → e = .returned (.tuple #[.slice none 0 0, .bool false])
  good : ok = true → ∃ v, e = .returned (.tuple #[v, .bool true]) ∧ OwnN w' w.heap.size v N G

theorem str_beq (s t : ByteArray) (b : Bool) (h : s = t ↔ b = true) : (s.toList == t.toList) = b := by
  cases b with
  | true => rw [h.2 rfl]; exact beq_self_eq_true _
  | false =>
    refine beq_eq_false_iff_ne.2 fun e => ?_
    rw [ByteArray.toList_eq, ByteArray.toList_eq] at e
    have : s = t := ByteArray.ext (Array.toList_inj.1 e)
    cases h.1 this

theorem rkopen_any (R rb gw capw na nt ca ct cn : Nat) (an aa ta : Option Addr) (W nf fa ft : Nat → Nat) (w : World) (hR1 : 1 ≤ R) (hR2 : R ≤ 14) (hB : Rd w w.heap.size (some ⟨rb, 0, none⟩) 256 sB) (hW : Rd w w.heap.size (some ⟨gw, 0, none⟩) (16 * (R + 1)) W)
    (hn : Rd w w.heap.size an 12 nf) (hA : Rd w w.heap.size aa na fa) (hT : Rd w w.heap.size ta nt ft) (hWl : ∀ i, W i < 256) (hnl : ∀ i, nf i < 256) (hfa : ∀ i, fa i < 256) (hft : ∀ i, ft i < 256) (hna : na ≤ 2 ^ 38) (hnt : nt ≤ 2 ^ 38) (hct : nt ≤ ct) :
    Calls Tryd.prog 11 #[.agg #[.slice (some ⟨rb, 0, none⟩) 256 256, .slice (some ⟨gw, 0, none⟩) (16 * (R + 1) : Nat) capw], .slice an 12 cn, .slice aa na ca, .slice ta nt ct] w (ROpened w (openB R W nf fa na ft nt) (nt - 16) (turnF R W (nextF (firstF nf)) ft)) := by
  have hK := keyAt_alloc w (.slice (some ⟨rb, 0, none⟩) 256 256) (.slice (some ⟨gw, 0, none⟩) (16 * (R + 1) : Nat) capw)
  have g1 := World.grownBy_alloc w (.cells #[.slice (some ⟨rb, 0, none⟩) 256 256, .slice (some ⟨gw, 0, none⟩) (16 * (R + 1) : Nat) capw] 32) none
  have hnI : (nt : Int) ≤ 549755813888 := by omega
  by_cases h16 : 16 ≤ nt
  · obtain ⟨l, hl⟩ : ∃ l, l = nt - 16 := ⟨_, rfl⟩
    have j1 : (nt : Int) - 16 = (l : Int) := by omega
    have j3 : (l : Int) ≤ 549755813888 := by omega
    have j4 : ¬ ((l : Int) < 0) := by omega
    obtain ⟨Z, hZ⟩ : ∃ Z, Z = tagF R W (firstF nf) fa na ft l := ⟨_, rfl⟩
    have hZl : ∀ i, Z i < 256 := fun i => by rw [hZ]; exact tagF_lt _ _ _ _ _ _ _ _
    have hob : openB R W nf fa na ft nt = sameB 16 16 Z (fun i => ft (l + i)) := by
      unfold openB
      rw [← hl, ← hZ, decide_eq_true h16, Bool.true_and]
    have hsm := sameB_iff 16 16 Z (fun i => ft (l + i))
    have hst := strOf_inj 16 16 Z (fun i => ft (l + i)) hZl (fun i => hft (l + i))
    obtain ⟨bb, hbb⟩ : ∃ b, b = sameB 16 16 Z (fun i => ft (l + i)) := ⟨_, rfl⟩
    rw [hob, ← hbb, ← hl]
    rw [← hbb] at hsm
    obtain ⟨s1, hs1⟩ : ∃ s, s = strOf 16 Z := ⟨_, rfl⟩
    obtain ⟨s2, hs2⟩ : ∃ s, s = strOf 16 (fun i => ft (l + i)) := ⟨_, rfl⟩
    rw [← hs1, ← hs2] at hst
    have hbs : (s1.toList == s2.toList) = bb := str_beq s1 s2 bb ⟨fun e => hsm.2 (hst.1 e), fun e => hst.2 (hsm.1 e)⟩
    obtain ⟨G, hG⟩ : ∃ G, G = turnF R W (nextF (firstF nf)) ft := ⟨_, rfl⟩
    rw [← hG]
    obtain ⟨tb, p, rfl, ta2, hrest, hRd2⟩ := rest_of (len := nt) (cap := ct) (l := l) hT (by omega) hct
    have e16 : nt - l = 16 := by omega
    rw [e16] at hrest hRd2
    have hlc : l ≤ ct := by omega
    have hln : l ≤ nt := by omega
    have HTg : Hid (∀ U, w.grownBy U none → Calls Tryd.prog 25 #[.agg #[.slice (some ⟨rb, 0, none⟩) 256 256, .slice (some ⟨gw, 0, none⟩) (16 * (R + 1) : Nat) capw], .slice an 12 cn, .slice aa na ca, .slice (some ⟨tb, p, none⟩) l ct] U fun e w' => ∃ v, e = .returned v ∧ (∃ a c, v = .slice a 16 c ∧ Rd w' w'.heap.size a 16 Z) ∧ U.grownBy w' none) := Lib.hid (fun U hU => by
      have := rktag_any R rb gw capw na l ca ct cn an aa (some ⟨tb, p, none⟩) W nf fa ft U hR1 hR2 (hB.up (Nat.le_refl _) hU) (hW.up (Nat.le_refl _) hU) (hn.up (Nat.le_refl _) hU) (hA.up (Nat.le_refl _) hU) ((hT.up (Nat.le_refl _) hU).head hln) hWl hnl hfa hft hna (by omega)
      rw [← hZ] at this
      exact this.mono fun e w' h => by
        obtain ⟨v, h1, h2, h3⟩ := h
        obtain ⟨a, c, e1, _, e3⟩ := h2.rd
        exact ⟨v, h1, ⟨a, c, e1, e3⟩, h3⟩)
    have HTu : Hid (∀ U, w.grownBy U none → Calls Tryd.prog 26 #[.agg #[.slice (some ⟨rb, 0, none⟩) 256 256, .slice (some ⟨gw, 0, none⟩) (16 * (R + 1) : Nat) capw], .slice an 12 cn, .slice (some ⟨tb, p, none⟩) l ct] U fun e w' => ∃ v, e = .returned v ∧ OwnN w' w.heap.size v l G ∧ U.grownBy w' none) := Lib.hid (fun U hU => by
      have := rkturn_any R rb gw capw l ct cn an (some ⟨tb, p, none⟩) W nf ft U hR1 hR2 (hB.up (Nat.le_refl _) hU) (hW.up (Nat.le_refl _) hU) (hn.up (Nat.le_refl _) hU) ((hT.up (Nat.le_refl _) hU).head hln) hWl hnl hft (by omega)
      rw [← hG] at this
      exact this.mono fun e w' h => by
        obtain ⟨v, h1, h2, h3⟩ := h
        exact ⟨v, h1, h2.base hU.size, h3⟩)
    have HT := Lib.hid hT
    have HBS := Lib.hid hbs
    have Hrest := Lib.hid hrest
    have HRd2 := Lib.hid hRd2
    have Hs1 : Hid (∀ W a c, Rd W W.heap.size a 16 Z → (convert 22 9 (.slice a 16 c)).run Tryd.prog W = .ok (.string s1) W) := Lib.hid (fun W a c h => by rw [hs1]; exact run_string c h hZl)
    have Hft := Lib.hid hft
    have Hs2 := Lib.hid hs2
    have Hlc := Lib.hid hlc
    have Hln := Lib.hid hln
    clear hB hW hn hA hWl hnl hfa hft hna hG hZ hZl hR1 hR2 hT hbs hsm hst hob hbb hl hrest hRd2 hs1 hs2 e16 h16 hnt hct hlc hln
    go_enter Tryd.func11, Tryd.ntmps11
    go_upto_region 2 with fail
    generalize w.alloc (.cells #[.slice (some ⟨rb, 0, none⟩) 256 256, .slice (some ⟨gw, 0, none⟩) (16 * (R + 1) : Nat) capw] 32) = w1 at *
    have hkl : w.heap.size < w1.heap.size := hK.lt
    obtain ⟨V0, hV0⟩ : ∃ V0, V0 = w1.drew := ⟨_, rfl⟩
    have hv0 : w1.grownBy V0 none := by rw [hV0]; exact grown_drew (grown_refl w1 none)
    have HV0 := Lib.hid hV0.symm
    have gv := grown_trans g1 hv0
    have hKv := hK.grown hv0 (by simp)
    clear hV0 hv0 hK g1
    go_cut [30] (fun s30 wx => s30 = .bool (!bb) ∧ V0.grownBy wx none)
    case first =>
      refine wp_region_held (S := fun W => V0.grownBy W (none)) (by kernel_rfl) ?_
      change wpAnyH _ _ _ _ _ 17 #[false, false, false, false, false, false, false, false, false, false, false, false, false, false, false, false, false] _ (World.drew _)
      rw [HV0.out]
      have hS0 : V0.grownBy V0 (none) := grown_refl V0 _
      refine wpAnyH_takeD (some 14) (i := 0) (v := .int .i64 l) rfl rfl (by kernel_rfl) (by kernel_rfl) (by kernel_rfl) (fun _ _ _ h => h) (Or.inl ⟨rfl, fun _ _ => rfl⟩) hS0 ?_
      simp only [Act.put, List.setIfInBounds_toArray, List.set_cons_succ, List.set_cons_zero]
      refine wpAnyH_takeD (some 15) (i := 1) (v := .bool false) rfl rfl (by kernel_rfl) (by kernel_rfl) (by kernel_rfl) (fun _ _ _ h => h) (Or.inl ⟨rfl, fun _ _ => by go_simp⟩) hS0 ?_
      simp only [Act.put, List.setIfInBounds_toArray, List.set_cons_succ, List.set_cons_zero]
      refine wpAnyH_takeD (some 16) (i := 2) (v := .bool false) rfl rfl (by kernel_rfl) (by kernel_rfl) (by kernel_rfl) (fun _ _ _ h => h) (Or.inl ⟨rfl, fun _ _ => rfl⟩) hS0 ?_
      simp only [Act.put, List.setIfInBounds_toArray, List.set_cons_succ, List.set_cons_zero]
      refine wpAnyH_takeD (some 17) (i := 3) (v := .agg #[.slice (some ⟨rb, 0, none⟩) 256 256, .slice (some ⟨gw, 0, none⟩) (16 * (R + 1) : Nat) capw]) rfl rfl (by kernel_rfl) (by kernel_rfl) (by kernel_rfl) (fun _ _ _ h => h) (Or.inl ⟨rfl, fun W hW => run_key (hKv.grown hW (by simp)) rfl rfl⟩) hS0 ?_
      simp only [Act.put, List.setIfInBounds_toArray, List.set_cons_succ, List.set_cons_zero]
      refine wpAnyH_takeD (some 18) (i := 4) (v := .slice an 12 cn) rfl rfl (by kernel_rfl) (by kernel_rfl) (by kernel_rfl) (fun _ _ _ h => h) (Or.inl ⟨rfl, fun _ _ => rfl⟩) hS0 ?_
      simp only [Act.put, List.setIfInBounds_toArray, List.set_cons_succ, List.set_cons_zero]
      refine wpAnyH_takeD (some 19) (i := 5) (v := .slice aa na ca) rfl rfl (by kernel_rfl) (by kernel_rfl) (by kernel_rfl) (fun _ _ _ h => h) (Or.inl ⟨rfl, fun _ _ => rfl⟩) hS0 ?_
      simp only [Act.put, List.setIfInBounds_toArray, List.set_cons_succ, List.set_cons_zero]
      refine wpAnyH_takeD (some 20) (i := 6) (v := .slice (some ⟨tb, p, none⟩) nt ct) rfl rfl (by kernel_rfl) (by kernel_rfl) (by kernel_rfl) (fun _ _ _ h => h) (Or.inl ⟨rfl, fun _ _ => rfl⟩) hS0 ?_
      simp only [Act.put, List.setIfInBounds_toArray, List.set_cons_succ, List.set_cons_zero]
      refine wpAnyH_takeD (some 21) (i := 7) (v := .int .i64 l) rfl rfl (by kernel_rfl) (by kernel_rfl) (by kernel_rfl) (fun _ _ _ h => h) (Or.inl ⟨rfl, fun _ _ => rfl⟩) hS0 ?_
      simp only [Act.put, List.setIfInBounds_toArray, List.set_cons_succ, List.set_cons_zero]
      refine wpAnyH_takeD (some 22) (i := 8) (v := .slice (some ⟨tb, p, none⟩) l ct) rfl rfl (by kernel_rfl) (by kernel_rfl) (by kernel_rfl) (fun _ _ _ h => h) (Or.inl ⟨rfl, fun W hW => ex_head 20 21 rfl rfl rfl Hlc.out⟩) hS0 ?_
      simp only [Act.put, List.setIfInBounds_toArray, List.set_cons_succ, List.set_cons_zero]
      refine wpAnyH_takeD (some 25) (i := 11) (v := .slice (some ⟨tb, p, none⟩) nt ct) rfl rfl (by kernel_rfl) (by kernel_rfl) (by kernel_rfl) (fun _ _ _ h => h) (Or.inl ⟨rfl, fun _ _ => rfl⟩) hS0 ?_
      simp only [Act.put, List.setIfInBounds_toArray, List.set_cons_succ, List.set_cons_zero]
      refine wpAnyH_takeD (some 26) (i := 12) (v := .int .i64 l) rfl rfl (by kernel_rfl) (by kernel_rfl) (by kernel_rfl) (fun _ _ _ h => h) (Or.inl ⟨rfl, fun _ _ => rfl⟩) hS0 ?_
      simp only [Act.put, List.setIfInBounds_toArray, List.set_cons_succ, List.set_cons_zero]
      refine wpAnyH_takeD (some 27) (i := 13) (v := .slice ta2 16 (ct - l)) rfl rfl (by kernel_rfl) (by kernel_rfl) (by kernel_rfl) (fun _ _ _ h => h) (Or.inl ⟨rfl, fun W hW => ex_rest 25 26 rfl rfl rfl Hrest.out⟩) hS0 ?_
      simp only [Act.put, List.setIfInBounds_toArray, List.set_cons_succ, List.set_cons_zero]
      refine wpAnyH_takeD (some 28) (i := 14) (v := .string s2) rfl rfl (by kernel_rfl) (by kernel_rfl) (by kernel_rfl) (fun _ _ _ h => h) (Or.inl ⟨rfl, fun W hW => by rw [Hs2.out]; exact run_convS 27 rfl rfl ((HRd2.out _ (HT.out.grown (grown_trans gv hW) (fun _ e => by cases e))).mono (grown_trans gv hW).size) (fun i => Hft.out _)⟩) hS0 ?_
      simp only [Act.put, List.setIfInBounds_toArray, List.set_cons_succ, List.set_cons_zero]
      refine wpAnyH_one (i := 9) (by kernel_rfl) (op_callR (R := fun v w' => (∃ a c, v = .slice a 16 c ∧ Rd w' w'.heap.size a 16 Z) ∧ V0.grownBy w' none) (some 23) 25 #[.agg #[.slice (some ⟨rb, 0, none⟩) 256 256, .slice (some ⟨gw, 0, none⟩) (16 * (R + 1) : Nat) capw], .slice an 12 cn, .slice aa na ca, .slice (some ⟨tb, p, none⟩) l ct] rfl rfl rfl (exec_fn4 _ _ _ _ _ _ _ _ _ rfl rfl rfl rfl rfl) rktag_enters (HTg.out V0 (grown_trans gv hS0)) ?_)
      rintro vv1 V1 ⟨⟨at2, ct2, rfl, hZr⟩, gg1⟩
      have hS1 := grown_trans hS0 (grown_some gg1)
      refine ⟨hS1, ?_⟩
      simp only [Act.put, List.setIfInBounds_toArray, List.set_cons_succ, List.set_cons_zero]
      refine wpAnyH_one (i := 10) (by kernel_rfl) (op_yield (some 24) (v := .string s1) (w' := V1) rfl rfl rfl (by have c := Hs1.out _ _ ct2 hZr; unfold execOp; simp only [Act.eval]; go_simp) hS1 ?_)
      simp only [Act.put, List.setIfInBounds_toArray, List.set_cons_succ, List.set_cons_zero]
      refine wpAnyH_takeD (some 29) (i := 15) (v := .bool (!bb)) rfl rfl (by kernel_rfl) (by kernel_rfl) (by kernel_rfl) (fun _ _ _ h => h) (Or.inl ⟨rfl, fun _ _ => by have c := HBS.out; go_simp⟩) hS1 ?_
      simp only [Act.put, List.setIfInBounds_toArray, List.set_cons_succ, List.set_cons_zero]
      refine wpAnyH_takeD (some 30) (i := 16) (v := .bool (!bb)) rfl rfl (by kernel_rfl) (by kernel_rfl) (by kernel_rfl) (fun _ _ _ h => h) (Or.inl ⟨rfl, fun _ _ => by go_simp⟩) hS1 ?_
      simp only [Act.put, List.setIfInBounds_toArray, List.set_cons_succ, List.set_cons_zero]
      refine wpAnyH_done (by kernel_rfl) ?_ _
      go_wp2_with fail
      go_meet
      case rel => exact ⟨rfl, hS1⟩
    case rest =>
      obtain ⟨rfl, g6⟩ := hcut
      have gd := grown_trans gv g6
      have hKd := hKv.grown g6 (by simp)
      clear HV0 HTg gv hKv g6
      cases bb with
      | false =>
        go_wp2_with fail
        go_ret2
        exact ⟨gd, fun _ => rfl, fun h => by cases h⟩
      | true =>
        go_upto_region 4 with fail
        obtain ⟨V0, hV0⟩ : ∃ V0, V0 = wc.drew := ⟨_, rfl⟩
        have hv0 : wc.grownBy V0 none := by rw [hV0]; exact grown_drew (grown_refl wc none)
        have HV0 := Lib.hid hV0.symm
        have gv := grown_trans gd hv0
        have hKv := hKd.grown hv0 (by simp)
        clear hV0 hv0 gd hKd
        refine wp_region_held (S := fun W => V0.grownBy W (none)) (by kernel_rfl) ?_
        change wpAnyH _ _ _ _ _ 8 #[false, false, false, false, false, false, false, false] _ (World.drew _)
        rw [HV0.out]
        have hS0 : V0.grownBy V0 (none) := grown_refl V0 _
        refine wpAnyH_takeD (some 31) (i := 0) (v := .agg #[.slice (some ⟨rb, 0, none⟩) 256 256, .slice (some ⟨gw, 0, none⟩) (16 * (R + 1) : Nat) capw]) rfl rfl (by kernel_rfl) (by kernel_rfl) (by kernel_rfl) (fun _ _ _ h => h) (Or.inl ⟨rfl, fun W hW => run_key (hKv.grown hW (by simp)) rfl rfl⟩) hS0 ?_
        simp only [Act.put, List.setIfInBounds_toArray, List.set_cons_succ, List.set_cons_zero]
        refine wpAnyH_takeD (some 32) (i := 1) (v := .slice an 12 cn) rfl rfl (by kernel_rfl) (by kernel_rfl) (by kernel_rfl) (fun _ _ _ h => h) (Or.inl ⟨rfl, fun _ _ => rfl⟩) hS0 ?_
        simp only [Act.put, List.setIfInBounds_toArray, List.set_cons_succ, List.set_cons_zero]
        refine wpAnyH_takeD (some 33) (i := 2) (v := .slice (some ⟨tb, p, none⟩) nt ct) rfl rfl (by kernel_rfl) (by kernel_rfl) (by kernel_rfl) (fun _ _ _ h => h) (Or.inl ⟨rfl, fun _ _ => rfl⟩) hS0 ?_
        simp only [Act.put, List.setIfInBounds_toArray, List.set_cons_succ, List.set_cons_zero]
        refine wpAnyH_takeD (some 34) (i := 3) (v := .int .i64 l) rfl rfl (by kernel_rfl) (by kernel_rfl) (by kernel_rfl) (fun _ _ _ h => h) (Or.inl ⟨rfl, fun _ _ => rfl⟩) hS0 ?_
        simp only [Act.put, List.setIfInBounds_toArray, List.set_cons_succ, List.set_cons_zero]
        refine wpAnyH_takeD (some 35) (i := 4) (v := .slice (some ⟨tb, p, none⟩) l ct) rfl rfl (by kernel_rfl) (by kernel_rfl) (by kernel_rfl) (fun _ _ _ h => h) (Or.inl ⟨rfl, fun W hW => ex_head 33 34 rfl rfl rfl Hlc.out⟩) hS0 ?_
        simp only [Act.put, List.setIfInBounds_toArray, List.set_cons_succ, List.set_cons_zero]
        refine wpAnyH_one (i := 5) (by kernel_rfl) (op_callR (R := fun v w' => OwnN w' w.heap.size v l G ∧ V0.grownBy w' none) (some 36) 26 #[.agg #[.slice (some ⟨rb, 0, none⟩) 256 256, .slice (some ⟨gw, 0, none⟩) (16 * (R + 1) : Nat) capw], .slice an 12 cn, .slice (some ⟨tb, p, none⟩) l ct] rfl rfl rfl (exec_fn3 _ _ _ _ _ _ _ rfl rfl rfl rfl) rkturn_enters (HTu.out V0 (grown_trans gv hS0)) ?_)
        rintro vv1 V1 ⟨hx, gg1⟩
        have hS1 := grown_trans hS0 (grown_some gg1)
        refine ⟨hS1, ?_⟩
        simp only [Act.put, List.setIfInBounds_toArray, List.set_cons_succ, List.set_cons_zero]
        refine wpAnyH_takeD (some 8) (i := 6) (v := vv1) rfl rfl (by kernel_rfl) (by kernel_rfl) (by kernel_rfl) (fun _ _ _ h => h) (Or.inl ⟨rfl, fun _ _ => rfl⟩) hS1 ?_
        simp only [Act.put, List.setIfInBounds_toArray, List.set_cons_succ, List.set_cons_zero]
        refine wpAnyH_takeD (some 9) (i := 7) (v := .bool true) rfl rfl (by kernel_rfl) (by kernel_rfl) (by kernel_rfl) (fun _ _ _ h => h) (Or.inl ⟨rfl, fun _ _ => rfl⟩) hS1 ?_
        simp only [Act.put, List.setIfInBounds_toArray, List.set_cons_succ, List.set_cons_zero]
        refine wpAnyH_done (by kernel_rfl) ?_ _
        go_wp2_with fail
        go_ret2
        exact ⟨grown_trans gv hS1, fun h => (by cases h), fun _ => ⟨vv1, rfl, hx⟩⟩
  · have hob : openB R W nf fa na ft nt = false := by
      unfold openB
      rw [decide_eq_false h16, Bool.false_and]
    rw [hob]
    have j0 : (nt : Int) - 16 < 0 := by omega
    have w0 : IntKind.i64.wrap ((nt : Int) - 16) = (nt : Int) - 16 := by rw [IntKind.wrap_i64]; omega
    clear hB hW hn hA hT hWl hnl hfa hft hna hnt hob h16 hct hK
    go_enter Tryd.func11, Tryd.ntmps11
    go_upto_region 2 with fail
    generalize w.alloc (.cells #[.slice (some ⟨rb, 0, none⟩) 256 256, .slice (some ⟨gw, 0, none⟩) (16 * (R + 1) : Nat) capw] 32) = w1 at *
    go_quiet (fail)
    go_wp2_with fail
    go_ret2
    exact ⟨grown_drewN g1 nq, fun _ => rfl, fun h => by cases h⟩
end Go.Proofs.YtlfopcigbgfnlaaDoor
namespace Go.Proofs.YtlfopcigbgfnlaaDoor
open Go.RowKit

set_option maxRecDepth 100000
set_option maxHeartbeats 1000000

def kL : List Nat := [0, 4, 5, 6, 7]
def affS (y i : Nat) : Nat → Nat
  | 0 => 0
  | j + 1 => affS y i j + y / 2 ^ ((i + kL.getD j 0) % 8) % 2
theorem affS_le (y i : Nat) : ∀ j, affS y i j ≤ j
  | 0 => by simp [affS]
  | j + 1 => by
    have := affS_le y i j
    unfold affS
    omega
theorem affS_end (y i : Nat) (hi : i < 8) : affS y i 5 + 99 / 2 ^ i % 2 = affN y i := by
  unfold affN
  show 0 + y / 2 ^ ((i + 0) % 8) % 2 + y / 2 ^ ((i + 4) % 8) % 2 + y / 2 ^ ((i + 5) % 8) % 2 + y / 2 ^ ((i + 6) % 8) % 2 + y / 2 ^ ((i + 7) % 8) % 2 + 99 / 2 ^ i % 2 = _
  rw [Nat.zero_add, Nat.add_zero, Nat.mod_eq_of_lt hi]
theorem kL_lt (j : Nat) : kL.getD j 0 < 8 := getD_lt 8 (by decide) kL (by decide) j

theorem tmsF_none : ∀ k b, tmsF k 0 0 b = 0
  | 0, _ => rfl
  | k + 1, b => by
    show tmsF k (0 ^^^ 0 * (b % 2)) (xt 0) (b / 2) = 0
    rw [Nat.zero_mul]
    exact tmsF_none k (b / 2)
theorem invTo_none : ∀ i, invTo 0 i = 0
  | 0 => rfl
  | i + 1 => by
    unfold invTo
    rw [if_neg (by unfold tms; rw [tmsF_none]; decide)]
    exact invTo_none i

/-- One bit more of S. -/
theorem aff_step (y i : Nat) : aff y (i + 1) = aff y i + affN y i % 2 * 2 ^ i := rfl


end Go.Proofs.YtlfopcigbgfnlaaDoor
namespace Go.Proofs.YtlfopcigbgfnlaaDoor
open Go.RowKit

set_option maxRecDepth 100000
set_option maxHeartbeats 2000000

theorem box_any (w : World) : Calls Tryd.prog 23 #[] w fun e w' => ∃ r, e = .returned (.slice (some ⟨r, 0, none⟩) 256 256) ∧ w.heap.size ≤ r ∧ Fill w' r 256 sB ∧ w.grownBy w' none := by
  obtain ⟨c1, hm1, hF1⟩ := make_any 256 (by decide) w
  have hm1' : (Instr.makeSlice 22 (.int .i64 256) (.int .i64 256)).run Tryd.prog w = .ok (.slice (some ⟨w.heap.size, 0, none⟩) 256 256) (w.alloc (.cells c1 5)) := hm1
  have hg1 := World.grownBy_alloc w (.cells c1 5) none
  have hz1 := World.size_alloc w (.cells c1 5)
  generalize w.alloc (.cells c1 5) = w1 at *
  clear hm1
  go_enter Tryd.func23, Tryd.ntmps23
  go_wp2_with fail
  clear hm1'
  obtain ⟨r1, hr1⟩ : ∃ r1, r1 = w.heap.size := ⟨_, rfl⟩
  rw [← hr1] at hF1 ⊢
  have Hr1 := Lib.hid hr1
  clear hr1
  go_loopw [2, 3, 4] (fun u2 u3 u4 wr => ∃ i : Nat, i ≤ 255 ∧ u4 = .int .i64 i ∧ u2 = .int .u8 (upS i : Nat) ∧ u3 = .int .u8 (dnS i : Nat) ∧ Fill wr r1 256 (invT i) ∧ w.grownBy wr none) (fun _ _ u4 _ => 255 - (intOf u4).toNat)
  case atStart => exact ⟨0, by omega, rfl, rfl, rfl, hF1, hg1⟩
  case round =>
    clear hF1 hg1
    obtain ⟨i, hi, rfl, rfl, rfl, hF, hg⟩ := hrel
    by_cases hlt : i < 255
    · have j1 : (i : Int) < 255 := by omega
      have hup := upS_lt i
      have hdn := dnS_lt i
      have HU : Hid (upS (i + 1) = tms (upS i) 3) := rfl
      have HD : Hid (dnS (i + 1) = tms (dnS i) 246) := rfl
      have hT : Hid (invT (i + 1) = upd (invT i) (upS i) (dnS i)) := rfl
      generalize upS i = u at *
      generalize dnS i = d at *
      have j2 : (u : Int) < 256 := by omega
      have c1 := hF.cell u hup
      have f1 := hF.free u
      have HF : Hid (Fill (wr.setCell ⟨r1, u, none⟩ (.int .u8 (d : Nat))) r1 256 (invT (i + 1))) := Lib.hid (by rw [hT.out]; exact hF.set u d hup)
      have HG : Hid (w.grownBy (wr.setCell ⟨r1, u, none⟩ (.int .u8 (d : Nat))) none) := Lib.hid (grown_setCell_new hg ⟨r1, u, none⟩ (.int .u8 (d : Nat)) (Or.inl (by show w.heap.size ≤ r1; rw [Hr1.out]; omega)))
      have T1 : Hid (∀ W, Calls Tryd.prog 37 #[.int .u8 u, .int .u8 3] W fun e w' => e = .returned (.int .u8 (tms u 3 : Nat)) ∧ W = w') := Lib.hid (fun W => times_any u 3 W hup (by decide))
      have T2 : Hid (∀ W, Calls Tryd.prog 37 #[.int .u8 d, .int .u8 246] W fun e w' => e = .returned (.int .u8 (tms d 246 : Nat)) ∧ W = w') := Lib.hid (fun W => times_any d 246 W hdn (by decide))
      clear hF hg hT hup hdn
      go_wp2_with (first
        | (go_at_call 37; (with_reducible refine (T1.out _).mono ?_); rintro e w' ⟨rfl, rfl⟩)
        | (go_at_call 37; (with_reducible refine (T2.out _).mono ?_); rintro e w' ⟨rfl, rfl⟩))
      first
        | exact ⟨⟨i + 1, by omega, by go_num, by rw [HU.out], by rw [HD.out], HF.out, HG.out⟩, by simp [intOf]; omega⟩
        | (go_roundw
           case rel => first | exact ⟨i + 1, by omega, by go_num, by rw [HU.out], by rw [HD.out], HF.out, HG.out⟩ | ((repeat apply Exists.intro); exact ⟨⟨i + 1, by omega, by go_num, by rw [HU.out], by rw [HD.out], HF.out, HG.out⟩, rfl⟩)
           case measure => simp [intOf]; omega)
    · obtain rfl : i = 255 := by omega
      obtain ⟨c2, hm2, hF2⟩ := make_any 256 (by decide) wr
      have hm2' : (Instr.makeSlice 22 (.int .i64 256) (.int .i64 256)).run Tryd.prog wr = .ok (.slice (some ⟨wr.heap.size, 0, none⟩) 256 256) (wr.alloc (.cells c2 5)) := hm2
      have hg2 := grown_alloc hg (.cells c2 5)
      have hF12 := hF.grown (by decide) (World.grownBy_alloc wr (.cells c2 5) none) (by simp)
      have hlt1 := hF.lt (by decide)
      generalize wr.alloc (.cells c2 5) = w2 at *
      clear hm2 hlt hi
      go_wp2_with fail
      clear hm2'
      obtain ⟨r2, hr2⟩ : ∃ r2, r2 = wr.heap.size := ⟨_, rfl⟩
      rw [← hr2] at hF2 hlt1 ⊢
      have hr2w : w.heap.size ≤ r2 := by rw [hr2]; exact hg.size
      clear hr2 hg hF
      go_loopw [6, 7, 8, 9] (fun u6 _ _ _ wq => ∃ i : Nat, i ≤ 256 ∧ u6 = .int .i64 i ∧ Fill wq r1 256 (invT 255) ∧ Fill wq r2 256 (fun j => if j < i then sB j else 0) ∧ w.grownBy wq none) (fun u6 _ _ _ _ => 256 - (intOf u6).toNat)
      case atStart => exact ⟨0, by omega, rfl, hF12, hF2, hg2⟩
      case round =>
        obtain ⟨i, hi, rfl, hFa, hFb, hgq⟩ := hrel
        clear hF12 hF2 hg2
        by_cases hlt : i < 256
        · have j1 : (i : Int) < 256 := by omega
          have c1 := hFa.cell i hlt
          have hHa := Lib.hid hFa
          have hHb := Lib.hid hFb
          have hHg := Lib.hid hgq
          have hII : Hid (0 < i → invT 255 i = inv i) := Lib.hid (fun h => invT_end i hlt h)
          generalize invT 255 i = z at *
          clear hFa hFb hgq
          go_upto_if 33 with fail
          go_cut [7] (fun s7 wx => s7 = .int .u8 (inv i : Nat) ∧ wx = wr)
          case first =>
            clear hHa hHb hHg
            by_cases h0 : i = 0
            · subst h0
              clear hII
              go_wp2_with fail
              go_meet
              case rel => exact ⟨rfl, rfl⟩
            · have hz := hII.out (by omega)
              have hn : ((i : Int) == 0) = false := by rw [beq_eq_false_iff_ne]; omega
              subst hz
              clear hII h0
              go_wp2_with fail
              go_meet
              case rel => exact ⟨rfl, rfl⟩
          case rest =>
            obtain ⟨rfl, rfl⟩ := hcut
            have hy8 := inv_lt i
            have hS : Hid (aff (inv i) 8 = sB i) := Lib.hid (aff_inv i hlt)
            generalize inv i = y at *
            clear c1 hII
            have hHb0 : Hid (Fill wc r2 256 (fun j => if j < i then sB j else if j = i then aff y 0 else 0)) := Lib.hid (hHb.out.congr (fun j hj => by
              by_cases e : j < i
              · rw [if_pos e, if_pos e]
              · rw [if_neg e, if_neg e]; show 0 = if j = i then 0 else 0; split <;> rfl))
            clear hHb
            go_wp2_with fail
            go_loopw [8, 9] (fun u8 _ wq => ∃ k : Nat, k ≤ 8 ∧ u8 = .int .i64 k ∧ Fill wq r1 256 (invT 255) ∧ Fill wq r2 256 (fun j => if j < i then sB j else if j = i then aff y k else 0) ∧ w.grownBy wq none) (fun u8 _ _ => 8 - (intOf u8).toNat)
            case atStart => exact ⟨0, by omega, rfl, hHa.out, hHb0.out, hHg.out⟩
            case round =>
              clear hHa hHb0 hHg
              obtain ⟨k, hk, rfl, hFa, hFb, hgq⟩ := hrel
              by_cases hlk : k < 8
              · have q1 : (k : Int) < 8 := by omega
                have hst := aff_step y k
                unfold affN at hst
                obtain ⟨v0, hv0⟩ : ∃ v, v = y / 2 ^ k % 2 := ⟨_, rfl⟩
                have B0 : Hid (∀ W, Calls Tryd.prog 38 #[.int .u8 y, .int .i64 k] W fun e w' => e = .returned (.int .i64 v0) ∧ W = w') := Lib.hid (fun W => bit_any y k v0 hy8 hlk hv0 W)
                have q20 : v0 < 2 := by rw [hv0]; exact Nat.mod_lt _ (by decide)
                rw [← hv0] at hst
                have q30 : (v0 : Int) < 2 := by omega
                clear hv0
                obtain ⟨m4, hm4⟩ : ∃ m, m = (k + 4) % 8 := ⟨_, rfl⟩
                have e14 : ((k : Int) + 4).tmod 8 = (m4 : Int) := by rw [Int.tmod_eq_emod_of_nonneg (by omega)]; omega
                rw [← hm4] at hst
                obtain ⟨v4, hv4⟩ : ∃ v, v = y / 2 ^ m4 % 2 := ⟨_, rfl⟩
                have B4 : Hid (∀ W, Calls Tryd.prog 38 #[.int .u8 y, .int .i64 m4] W fun e w' => e = .returned (.int .i64 v4) ∧ W = w') := Lib.hid (fun W => bit_any y m4 v4 hy8 (by omega) hv4 W)
                have q24 : v4 < 2 := by rw [hv4]; exact Nat.mod_lt _ (by decide)
                rw [← hv4] at hst
                have q34 : (v4 : Int) < 2 := by omega
                clear hv4 hm4
                obtain ⟨m5, hm5⟩ : ∃ m, m = (k + 5) % 8 := ⟨_, rfl⟩
                have e15 : ((k : Int) + 5).tmod 8 = (m5 : Int) := by rw [Int.tmod_eq_emod_of_nonneg (by omega)]; omega
                rw [← hm5] at hst
                obtain ⟨v5, hv5⟩ : ∃ v, v = y / 2 ^ m5 % 2 := ⟨_, rfl⟩
                have B5 : Hid (∀ W, Calls Tryd.prog 38 #[.int .u8 y, .int .i64 m5] W fun e w' => e = .returned (.int .i64 v5) ∧ W = w') := Lib.hid (fun W => bit_any y m5 v5 hy8 (by omega) hv5 W)
                have q25 : v5 < 2 := by rw [hv5]; exact Nat.mod_lt _ (by decide)
                rw [← hv5] at hst
                have q35 : (v5 : Int) < 2 := by omega
                clear hv5 hm5
                obtain ⟨m6, hm6⟩ : ∃ m, m = (k + 6) % 8 := ⟨_, rfl⟩
                have e16 : ((k : Int) + 6).tmod 8 = (m6 : Int) := by rw [Int.tmod_eq_emod_of_nonneg (by omega)]; omega
                rw [← hm6] at hst
                obtain ⟨v6, hv6⟩ : ∃ v, v = y / 2 ^ m6 % 2 := ⟨_, rfl⟩
                have B6 : Hid (∀ W, Calls Tryd.prog 38 #[.int .u8 y, .int .i64 m6] W fun e w' => e = .returned (.int .i64 v6) ∧ W = w') := Lib.hid (fun W => bit_any y m6 v6 hy8 (by omega) hv6 W)
                have q26 : v6 < 2 := by rw [hv6]; exact Nat.mod_lt _ (by decide)
                rw [← hv6] at hst
                have q36 : (v6 : Int) < 2 := by omega
                clear hv6 hm6
                obtain ⟨m7, hm7⟩ : ∃ m, m = (k + 7) % 8 := ⟨_, rfl⟩
                have e17 : ((k : Int) + 7).tmod 8 = (m7 : Int) := by rw [Int.tmod_eq_emod_of_nonneg (by omega)]; omega
                rw [← hm7] at hst
                obtain ⟨v7, hv7⟩ : ∃ v, v = y / 2 ^ m7 % 2 := ⟨_, rfl⟩
                have B7 : Hid (∀ W, Calls Tryd.prog 38 #[.int .u8 y, .int .i64 m7] W fun e w' => e = .returned (.int .i64 v7) ∧ W = w') := Lib.hid (fun W => bit_any y m7 v7 hy8 (by omega) hv7 W)
                have q27 : v7 < 2 := by rw [hv7]; exact Nat.mod_lt _ (by decide)
                rw [← hv7] at hst
                have q37 : (v7 : Int) < 2 := by omega
                clear hv7 hm7
                obtain ⟨v9, hv9⟩ : ∃ v, v = 99 / 2 ^ k % 2 := ⟨_, rfl⟩
                have B9 : Hid (∀ W, Calls Tryd.prog 38 #[.int .u8 99, .int .i64 k] W fun e w' => e = .returned (.int .i64 v9) ∧ W = w') := Lib.hid (fun W => bit_any 99 k v9 (by decide) hlk hv9 W)
                have q29 : v9 < 2 := by rw [hv9]; exact Nat.mod_lt _ (by decide)
                rw [← hv9] at hst
                have q39 : (v9 : Int) < 2 := by omega
                clear hv9
                obtain ⟨p, hp⟩ : ∃ p, p = 2 ^ k := ⟨_, rfl⟩
                have hpw : Hid (∀ W, Calls Tryd.prog 39 #[.int .i64 k] W fun e w' => e = .returned (.int .u8 p) ∧ W = w') := Lib.hid (fun W => power3_any k p hlk hp W)
                have hp8 : p ≤ 128 := by rw [hp]; exact Nat.pow_le_pow_right (by decide) (by omega : k ≤ 7)
                obtain ⟨o, ho⟩ : ∃ o, o = aff y k := ⟨_, rfl⟩
                have hlo := aff_lt y k
                rw [← ho, ← hp] at hst hlo
                have hc2 := hFb.cell i hlt
                rw [if_neg (by omega), if_pos rfl, ← ho] at hc2
                have f2 := hFb.free i
                obtain ⟨c, hc⟩ : ∃ c, c = (v0 + v4 + v5 + v6 + v7 + v9) % 2 := ⟨_, rfl⟩
                rw [← hc] at hst
                have e2 : IntKind.u8.wrap ((o : Int) + (p : Int)) = ((o + p : Nat) : Int) := by rw [IntKind.wrap_u8]; omega
                have e3 : ((v0 : Int) + v4 + v5 + v6 + v7 + v9).tmod 2 = (c : Int) := by rw [Int.tmod_eq_emod_of_nonneg (by omega)]; omega
                have hcc : c = 0 ∨ c = 1 := by omega
                have HS := Lib.hid hst
                have HFa := Lib.hid hFa
                have HFb := Lib.hid hFb
                have HG := Lib.hid hgq
                have HO := Lib.hid ho
                clear hst hp ho hc hFa hFb hgq hp8 hlo
                rcases hcc with rfl | rfl
                · go_wp2_with (first
                    | (go_at_call 38; (with_reducible refine (B0.out _).mono ?_); rintro e w' ⟨rfl, rfl⟩)
                    | (go_at_call 38; (with_reducible refine (B4.out _).mono ?_); rintro e w' ⟨rfl, rfl⟩)
                    | (go_at_call 38; (with_reducible refine (B5.out _).mono ?_); rintro e w' ⟨rfl, rfl⟩)
                    | (go_at_call 38; (with_reducible refine (B6.out _).mono ?_); rintro e w' ⟨rfl, rfl⟩)
                    | (go_at_call 38; (with_reducible refine (B7.out _).mono ?_); rintro e w' ⟨rfl, rfl⟩)
                    | (go_at_call 38; (with_reducible refine (B9.out _).mono ?_); rintro e w' ⟨rfl, rfl⟩))
                  go_roundw
                  case rel => first | exact ⟨k + 1, by omega, by go_num, HFa.out, HFb.out.congr (fun j hj => by rw [HS.out, HO.out]; simp), HG.out⟩ | ((repeat apply Exists.intro); exact ⟨⟨k + 1, by omega, by go_num, HFa.out, HFb.out.congr (fun j hj => by rw [HS.out, HO.out]; simp), HG.out⟩, rfl⟩)
                  case measure => simp [intOf]; omega
                · go_wp2_with (first
                    | (go_at_call 38; (with_reducible refine (B0.out _).mono ?_); rintro e w' ⟨rfl, rfl⟩)
                    | (go_at_call 38; (with_reducible refine (B4.out _).mono ?_); rintro e w' ⟨rfl, rfl⟩)
                    | (go_at_call 38; (with_reducible refine (B5.out _).mono ?_); rintro e w' ⟨rfl, rfl⟩)
                    | (go_at_call 38; (with_reducible refine (B6.out _).mono ?_); rintro e w' ⟨rfl, rfl⟩)
                    | (go_at_call 38; (with_reducible refine (B7.out _).mono ?_); rintro e w' ⟨rfl, rfl⟩)
                    | (go_at_call 38; (with_reducible refine (B9.out _).mono ?_); rintro e w' ⟨rfl, rfl⟩))
                  have c2d : wr.drew.cell? ⟨r2, i, none⟩ = some (.int .u8 (o : Nat)) := hc2
                  have f2d : wr.drew.frozen? ⟨r2, i, none⟩ = false := f2
                  have hFad := HFa.out.drew
                  have hFbd := HFb.out.drew
                  have hGd := grown_drew HG.out
                  clear hc2 f2 HFa HFb HG
                  refine wp_region_still_tail 10 (by kernel_rfl) (by kernel_rfl) ?_
                  change wpStill _ _ wr.drew (fun a' => wpList _ _ _ _ a' wr.drew) _ _
                  generalize wr.drew = w2' at *
                  simp only [List.take_succ_cons, List.take_zero, List.drop_succ_cons, List.drop_zero]
                  repeat still_step
                  still_call ((hpw.out _).mono fun _ _ h => ⟨h.1, h.2.symm⟩)
                  repeat still_step
                  refine wpStill_nil ?_
                  have HFa2 : Hid (Fill (w2'.setCell ⟨r2, i, none⟩ (.int .u8 (o + p : Nat))) r1 256 (invT 255)) := Lib.hid (hFad.setOther _ _ (by show r1 ≠ r2; omega))
                  have HFb2 : Hid (Fill (w2'.setCell ⟨r2, i, none⟩ (.int .u8 (o + p : Nat))) r2 256 (fun j => if j < i then sB j else if j = i then aff y (k + 1) else 0)) := Lib.hid ((hFbd.set i (o + p) hlt).congr (fun j hj => by
                    by_cases e : j = i
                    · subst e; rw [upd_same, if_neg (by omega), if_pos rfl, HS.out, Nat.one_mul]
                    · rw [upd_other _ _ _ _ e, if_neg e, if_neg e]))
                  have HG2 : Hid (w.grownBy (w2'.setCell ⟨r2, i, none⟩ (.int .u8 (o + p : Nat))) none) := Lib.hid (grown_setCell_new hGd ⟨r2, i, none⟩ (.int .u8 (o + p : Nat)) (Or.inl hr2w))
                  clear hFad hFbd hGd
                  go_wp2_with fail
                  go_roundw
                  case rel => first | exact ⟨k + 1, by omega, by go_num, HFa2.out, HFb2.out, HG2.out⟩ | ((repeat apply Exists.intro); exact ⟨⟨k + 1, by omega, by go_num, HFa2.out, HFb2.out, HG2.out⟩, rfl⟩)
                  case measure => simp [intOf]; omega
              · obtain rfl : k = 8 := by omega
                go_wp2_with fail
                go_roundw
                case rel => exact ⟨i + 1, by omega, by go_num, hFa, hFb.congr (fun j hj => by
                    by_cases e : j < i
                    · rw [if_pos e, if_pos (by omega)]
                    · by_cases e2 : j = i
                      · subst e2
                        rw [if_neg e, if_pos rfl, if_pos (by omega)]; exact hS.out
                      · rw [if_neg e, if_neg e2, if_neg (by omega)]), hgq⟩
                case measure => simp [intOf]; omega
        · obtain rfl : i = 256 := by omega
          go_wp2_with fail
          go_ret
          exact ⟨r2, rfl, hr2w, hFb.congr (fun j hj => if_pos hj), hgq⟩

end Go.Proofs.YtlfopcigbgfnlaaDoor
namespace Go.Proofs.YtlfopcigbgfnlaaDoor
open Go.RowKit

set_option maxRecDepth 100000
set_option maxHeartbeats 2000000

theorem div_mid (N i : Nat) (hN : N = 4 ∨ N = 8) (h : i % N ≠ 0) : i / N = (i - 1) / N := by rcases hN with rfl | rfl <;> omega
theorem div_first (N i : Nat) (hN : N = 4 ∨ N = 8) (hi : 0 < i) (h : i % N = 0) : i / N = (i - 1) / N + 1 := by rcases hN with rfl | rfl <;> omega

/-- The document's columns, given back. -/
structure ColsR (w : World) (N : Nat) (key : Nat → Nat) (e : Ending) (w' : World) : Prop where
  ex : ∃ g cap, e = .returned (.slice (some ⟨g, 0, none⟩) (16 * (N + 7) : Nat) cap) ∧ OwnR w' g (16 * (N + 7)) cap (keyW N key) ∧ w.heap.size ≤ g ∧ w.grownBy w' none

theorem rcols_any (N L c rb : Nat) (a : Option Addr) (key : Nat → Nat) (w : World) (hN : N = 4 ∨ N = 8) (hLN : L = 4 * N) (hR : Rd w w.heap.size a L key) (hk : ∀ i, key i < 256) (hB : Rd w w.heap.size (some ⟨rb, 0, none⟩) 256 sB) :
    Calls Tryd.prog 24 #[.slice (some ⟨rb, 0, none⟩) 256 256, .slice a L c] w (ColsR w N key) := by
  have ho0 := ownR_empty w
  have ga := World.grownBy_alloc w (.cells #[] 5) none
  have hRa := hR.up (Nat.le_refl _) ga
  obtain ⟨v, w2, hap, ⟨ex⟩⟩ := app_run c 22 ho0 hRa (by omega)
  obtain ⟨gc, cap, rfl, ho2, _, g2, hgc⟩ := ex
  rw [Nat.zero_add] at hap ho2
  have ho2' : OwnR w2 gc L cap key := ho2.congr (fun i hi => by unfold cat; rw [if_neg (by omega), Nat.sub_zero])
  have hg2 : w.grownBy w2 none := grown_new ga g2 (Nat.le_refl _)
  have hgc0 : w.heap.size ≤ gc := by have := World.size_alloc w (.cells #[] 5); omega
  have n1 : (4 : Int) ≤ N := by omega
  have n2 : (N : Int) ≤ 8 := by omega
  have q1 : ((L : Int) / 4) = (N : Int) := by omega
  have HAP := Lib.hid hap
  have HL := Lib.hid hLN
  have HN := Lib.hid hN
  have hB2 := hB.up (Nat.le_refl _) hg2
  have i0 : (0 : Int) ≤ L := by omega
  have HRk := Lib.hid hk
  clear hap ho2 ho0 hRa ga hgc hLN hN g2 hR hk
  go_enter Tryd.func24, Tryd.ntmps24
  go_wp2_with (at_builtin; refine wpList_append_run rfl (.tmp 14) (.tmp 15) 22 22 rfl (.slice (some ⟨w.heap.size, 0, none⟩) 0 0) (.slice a L c) _ _ rfl rfl HAP.out ?_)
  go_loopw [6, 7, 8, 9, 10] (fun u6 u7 u8 _ _ wr => ∃ i g cap : Nat, N ≤ i ∧ i ≤ 4 * (N + 7) ∧ u8 = .int .i64 i ∧ u7 = .int .u8 (rc ((i - 1) / N) : Nat) ∧ u6 = .slice (some ⟨g, 0, none⟩) (4 * i : Nat) cap ∧ OwnR wr g (4 * i) cap (keyW N key) ∧ w.heap.size ≤ g ∧ w.grownBy wr none)
    (fun _ _ u8 _ _ _ => 4 * (N + 7) - (intOf u8).toNat)
  case atStart =>
    have hN := HN.out
    have hL := HL.out
    exact ⟨N, gc, cap, by omega, by omega, rfl, by rw [show (N - 1) / N = 0 from Nat.div_eq_of_lt (by omega)]; rfl, by rw [hL], by rw [← hL]; exact ho2'.congr (fun x hx => (keyW_own N key x (by omega)).symm), hgc0, hg2⟩
  case round =>
    clear ho2' hgc0 hg2 HAP
    obtain ⟨i, g, cap, hi1, hi2, rfl, rfl, rfl, ho, hg0, hgr⟩ := hrel
    by_cases hlt : i < 4 * (N + 7)
    · have j1 : (i : Int) < 4 * ((N : Int) + 7) := by omega
      have j2 : (4 : Int) ≤ i := by omega
      have j3 : (i : Int) ≤ 60 := by omega
      have hle := ho.le
      have j4 : (4 * (i : Int)) ≤ cap := by omega
      have e4 : 4 * i - (4 * i - 4) = 4 := by omega
      have hot0 := ownR_empty wr
      have gta := World.grownBy_alloc wr (.cells #[] 5) none
      have hz0 := World.size_alloc wr (.cells #[] 5)
      obtain ⟨K, hK⟩ : ∃ K, K = keyW N key := ⟨_, rfl⟩
      rw [← hK] at ho
      have hoa := ho.grown gta (by simp)
      have hRt : Rd (wr.alloc (.cells #[] 5)) (wr.alloc (.cells #[] 5)).heap.size (some ⟨g, 4 * i - 4, none⟩) 4 (fun k => K (4 * (i - 1) + k)) := ⟨fun _ => ⟨g, 4 * i - 4, rfl, hoa.lt, fun k hk => by
        have := hoa.cell (4 * i - 4 + k) (by omega)
        rw [this, show 4 * (i - 1) + k = 4 * i - 4 + k by omega]⟩⟩
      obtain ⟨vt, w3, hapt, ⟨ext⟩⟩ := app_run (cap - (4 * i - 4)) 22 hot0 hRt (by omega)
      obtain ⟨gt, capt, rfl, hot, _, g3, hgt⟩ := ext
      rw [Nat.zero_add] at hapt hot
      have hot' : OwnR w3 gt 4 capt (fun k => K (4 * (i - 1) + k)) := hot.congr (fun k hk => by unfold cat; rw [if_neg (by omega), Nat.sub_zero])
      have hg3 : w.grownBy w3 none := grown_new (grown_trans hgr gta) g3 hgr.size
      have ho3 := hoa.grown g3 (by have := ho.lt; simp; omega)
      have hgtg : gt ≠ g := by have := ho.lt; omega
      have HAPT : Hid ((Builtin.append_ #[22, 22] 22 #[.slice (some ⟨wr.heap.size, 0, none⟩) 0 0, .slice (some ⟨g, 4 * i - 4, none⟩) (4 * i - (4 * i - 4)) (cap - (4 * i - 4))]).run Tryd.prog (wr.alloc (.cells #[] 5)) = .ok (.slice (some ⟨gt, 0, none⟩) 4 capt) w3) := by
        show _ = _
        rw [e4]; exact hapt
      have HK := Lib.hid hK
      have hB3 := hB.up (Nat.le_refl _) hg3
      have hi0 : 0 < i := by omega
      have hgt0 : w.heap.size ≤ gt := by have := hgr.size; omega
      clear e4 hapt hot hRt hoa hot0 gta g3 hgt hz0 hK ho hgr
      obtain ⟨cc, hcc⟩ : ∃ cc, cc = rc ((i - 1) / N) := ⟨_, rfl⟩
      rw [← hcc]
      have hcc8 : cc < 256 := by rw [hcc]; exact rc_lt _
      have HCC := Lib.hid hcc
      clear hcc
      obtain ⟨r, hr⟩ : ∃ r, r = i % N := ⟨_, rfl⟩
      have er : (i : Int).tmod (N : Int) = (r : Int) := by rw [Int.tmod_eq_emod_of_nonneg (by omega), hr]; norm_cast
      have HR := Lib.hid hr
      have hN0 : (N : Int) ≠ 0 := by omega
      have hN1 : ((N : Int) == 0) = false := by rw [beq_eq_false_iff_ne]; exact hN0
      clear hr
      have hKlt : ∀ x, K x < 256 := fun x => by rw [HK.out]; exact keyW_lt N key HRk.out x
      obtain ⟨t0, ht0⟩ : ∃ t, t = K (4 * (i - 1) + 0) := ⟨_, rfl⟩
      have ct0 : w3.drew.cell? ⟨gt, 0, none⟩ = some (.int .u8 (t0 : Nat)) := by rw [ht0]; exact hot'.cell 0 (by decide)
      have lt0 : t0 < 256 := by rw [ht0]; exact hKlt _
      have bt0 : w3.drew.cell? ⟨rb, t0, none⟩ = some (.int .u8 (sB t0 : Nat)) := by
        obtain ⟨tb, o, e1, _, e2⟩ := hB3.ex (by decide)
        cases e1
        have := e2 t0 lt0
        rw [Nat.zero_add] at this
        exact this
      have jt0 : (t0 : Int) < 256 := by omega
      have HT0 := Lib.hid ht0
      clear ht0
      obtain ⟨t1, ht1⟩ : ∃ t, t = K (4 * (i - 1) + 1) := ⟨_, rfl⟩
      have ct1 : w3.drew.cell? ⟨gt, 1, none⟩ = some (.int .u8 (t1 : Nat)) := by rw [ht1]; exact hot'.cell 1 (by decide)
      have lt1 : t1 < 256 := by rw [ht1]; exact hKlt _
      have bt1 : w3.drew.cell? ⟨rb, t1, none⟩ = some (.int .u8 (sB t1 : Nat)) := by
        obtain ⟨tb, o, e1, _, e2⟩ := hB3.ex (by decide)
        cases e1
        have := e2 t1 lt1
        rw [Nat.zero_add] at this
        exact this
      have jt1 : (t1 : Int) < 256 := by omega
      have HT1 := Lib.hid ht1
      clear ht1
      obtain ⟨t2, ht2⟩ : ∃ t, t = K (4 * (i - 1) + 2) := ⟨_, rfl⟩
      have ct2 : w3.drew.cell? ⟨gt, 2, none⟩ = some (.int .u8 (t2 : Nat)) := by rw [ht2]; exact hot'.cell 2 (by decide)
      have lt2 : t2 < 256 := by rw [ht2]; exact hKlt _
      have bt2 : w3.drew.cell? ⟨rb, t2, none⟩ = some (.int .u8 (sB t2 : Nat)) := by
        obtain ⟨tb, o, e1, _, e2⟩ := hB3.ex (by decide)
        cases e1
        have := e2 t2 lt2
        rw [Nat.zero_add] at this
        exact this
      have jt2 : (t2 : Int) < 256 := by omega
      have HT2 := Lib.hid ht2
      clear ht2
      obtain ⟨t3, ht3⟩ : ∃ t, t = K (4 * (i - 1) + 3) := ⟨_, rfl⟩
      have ct3 : w3.drew.cell? ⟨gt, 3, none⟩ = some (.int .u8 (t3 : Nat)) := by rw [ht3]; exact hot'.cell 3 (by decide)
      have lt3 : t3 < 256 := by rw [ht3]; exact hKlt _
      have bt3 : w3.drew.cell? ⟨rb, t3, none⟩ = some (.int .u8 (sB t3 : Nat)) := by
        obtain ⟨tb, o, e1, _, e2⟩ := hB3.ex (by decide)
        cases e1
        have := e2 t3 lt3
        rw [Nat.zero_add] at this
        exact this
      have jt3 : (t3 : Int) < 256 := by omega
      have HT3 := Lib.hid ht3
      clear ht3
      go_upto_if 37 with (at_builtin; refine wpList_append_run rfl (.tmp 25) (.tmp 32) 22 22 rfl (.slice (some ⟨wr.heap.size, 0, none⟩) 0 0) (.slice (some ⟨g, 4 * i - 4, none⟩) (4 * i - (4 * i - 4)) (cap - (4 * i - 4))) _ _ rfl rfl HAPT.out ?_)
      go_cut [7, 9] (fun s7 s9 wx => ∃ (gt capt : Nat), s9 = .slice (some ⟨gt, 0, none⟩) 4 capt ∧ s7 = .int .u8 (rc (i / N) : Nat) ∧ (∀ k, k < 4 → wx.cell? ⟨gt, k, none⟩ = some (.int .u8 (kTurn N K i cc k : Nat))) ∧ OwnR wx g (4 * i) cap K ∧ w.grownBy wx none ∧ gt ≠ g)
      case first =>
        have HOT := Lib.hid hot'
        have HO3 := Lib.hid ho3
        have HG3 := Lib.hid hg3
        clear HAPT hot' ho3 hg3 hB hB2
        by_cases hr0 : r = 0
        · subst hr0
          have hrc : rc (i / N) = tms cc 2 := by
            rw [tms2 cc hcc8, HCC.out]
            have : i / N = (i - 1) / N + 1 := div_first N i HN.out hi0 HR.out.symm
            rw [this]; rfl
          have hT := times_any cc 2
          have HTm : Hid (∀ W, Calls Tryd.prog 37 #[.int .u8 cc, .int .u8 2] W fun e w' => e = .returned (.int .u8 (tms cc 2 : Nat)) ∧ W = w') := Lib.hid (fun W => times_any cc 2 W hcc8 (by decide))
          have hkt : ∀ k, kTurn N K i cc k = sB (K (4 * (i - 1) + (k + 1) % 4)) ^^^ (if k = 0 then cc else 0) := fun k => by unfold kTurn; rw [if_pos HR.out.symm]
          have hx := bits_xor_u8 (sB t1) cc (sB_lt _) hcc8
          have Hkt := Lib.hid hkt
          have HRC := Lib.hid hrc
          have hoD := HO3.out.grown (grown_drew (grown_refl w3 none)) (by simp)
          have hgD := grown_drew HG3.out
          clear hkt hrc hT
          generalize tms cc 2 = c2 at *
          go_wp2_with fail
          refine wp_region_still_tail 26 (by kernel_rfl) (by kernel_rfl) ?_
          change wpStill _ _ w3.drew (fun a' => wpList _ _ _ _ a' w3.drew) _ _
          generalize w3.drew = w3' at *
          simp only [List.take_succ_cons, List.take_zero, List.drop_succ_cons, List.drop_zero]
          repeat still_step
          refine wpStill_nil ?_
          go_wp2_with (go_at_call 37; (with_reducible refine (HTm.out _).mono ?_); rintro e w' ⟨rfl, rfl⟩)
          have bb := heap_alloc_new w3' (.cells #[.int .u8 (sB t1 ^^^ cc : Nat), .int .u8 (sB t2 : Nat), .int .u8 (sB t3 : Nat), .int .u8 (sB t0 : Nat)] 5)
          have gb := World.grownBy_alloc w3' (.cells #[.int .u8 (sB t1 ^^^ cc : Nat), .int .u8 (sB t2 : Nat), .int .u8 (sB t3 : Nat), .int .u8 (sB t0 : Nat)] 5) none
          go_meet
          case rel =>
            refine ⟨w3'.heap.size, 4, rfl, by rw [HRC.out], fun k hk => ?_, hoD.grown gb (by simp), grown_trans hgD gb, by have := hoD.lt; omega⟩
            rw [cell_of_row _ _ _ _ _ _ bb, Hkt.out]
            obtain rfl | rfl | rfl | rfl : k = 0 ∨ k = 1 ∨ k = 2 ∨ k = 3 := by omega
            · rw [show (0 + 1) % 4 = 1 from rfl, ← HT1.out, if_pos rfl]; rfl
            · rw [show (1 + 1) % 4 = 2 from rfl, ← HT2.out, if_neg (by decide), Nat.xor_zero]; rfl
            · rw [show (2 + 1) % 4 = 3 from rfl, ← HT3.out, if_neg (by decide), Nat.xor_zero]; rfl
            · rw [show (3 + 1) % 4 = 0 from rfl, ← HT0.out, if_neg (by decide), Nat.xor_zero]; rfl
        · have hrc : rc (i / N) = cc := by
            rw [HCC.out]
            have : i / N = (i - 1) / N := div_mid N i HN.out (by rw [← HR.out]; exact hr0)
            rw [this]
          have hr1 : ((r : Int) == 0) = false := by rw [beq_eq_false_iff_ne]; omega
          have hrn : ¬ i % N = 0 := by rw [← HR.out]; exact hr0
          have Hrn := Lib.hid hrn
          have HRC := Lib.hid hrc
          obtain ⟨m, hm⟩ : ∃ m, m = i % 8 := ⟨_, rfl⟩
          have em : (i : Int).tmod 8 = (m : Int) := by rw [Int.tmod_eq_emod_of_nonneg (by omega)]; omega
          have HM := Lib.hid hm
          clear hrc hrn hr0 hm
          by_cases h8 : N = 8 ∧ m = 4
          · have j8 : ((N : Int) == 8) = true := by rw [beq_iff_eq]; omega
            have j4' : ((m : Int) == 4) = true := by rw [beq_iff_eq]; omega
            have hkt : ∀ k, kTurn N K i cc k = sB (K (4 * (i - 1) + k)) := fun k => by unfold kTurn; rw [if_neg Hrn.out, if_pos ⟨h8.1, by rw [← HM.out]; exact h8.2⟩]
            have Hkt := Lib.hid hkt
            have hoD := HO3.out.grown (grown_drew (grown_refl w3 none)) (by simp)
            have hgD := grown_drew HG3.out
            clear hkt h8
            go_wp2_with fail
            refine wp_region_still_tail 24 (by kernel_rfl) (by kernel_rfl) ?_
            change wpStill _ _ w3.drew (fun a' => wpList _ _ _ _ a' w3.drew) _ _
            generalize w3.drew = w3' at *
            simp only [List.take_succ_cons, List.take_zero, List.drop_succ_cons, List.drop_zero]
            repeat still_step
            refine wpStill_nil ?_
            go_wp2_with fail
            have bb := heap_alloc_new w3' (.cells #[.int .u8 (sB t0 : Nat), .int .u8 (sB t1 : Nat), .int .u8 (sB t2 : Nat), .int .u8 (sB t3 : Nat)] 5)
            have gb := World.grownBy_alloc w3' (.cells #[.int .u8 (sB t0 : Nat), .int .u8 (sB t1 : Nat), .int .u8 (sB t2 : Nat), .int .u8 (sB t3 : Nat)] 5) none
            go_meet
            case rel =>
              refine ⟨w3'.heap.size, 4, rfl, by rw [HRC.out], fun k hk => ?_, hoD.grown gb (by simp), grown_trans hgD gb, by have := hoD.lt; omega⟩
              rw [cell_of_row _ _ _ _ _ _ bb, Hkt.out]
              obtain rfl | rfl | rfl | rfl : k = 0 ∨ k = 1 ∨ k = 2 ∨ k = 3 := by omega
              · rw [← HT0.out]; rfl
              · rw [← HT1.out]; rfl
              · rw [← HT2.out]; rfl
              · rw [← HT3.out]; rfl
          · have hkt : ∀ k, kTurn N K i cc k = K (4 * (i - 1) + k) := fun k => by unfold kTurn; rw [if_neg Hrn.out, if_neg (by rw [← HM.out]; exact h8)]
            have Hkt := Lib.hid hkt
            have hcase : ((N : Int) == 8) = false ∨ (((N : Int) == 8) = true ∧ ((m : Int) == 4) = false) := by
              by_cases e : N = 8
              · right; exact ⟨by rw [beq_iff_eq]; omega, by rw [beq_eq_false_iff_ne]; omega⟩
              · left; rw [beq_eq_false_iff_ne]; omega
            clear hkt h8
            rcases hcase with j8 | ⟨j8, j9⟩
            all_goals
              go_wp2_with fail
              go_meet
              case rel => exact ⟨gt, capt, rfl, by rw [HRC.out], fun k hk => by rw [Hkt.out]; exact HOT.out.cell k hk, HO3.out, HG3.out, hgtg⟩
      case rest =>
        clear hot' ho3 hg3 HAPT hB hB2 hB3
        obtain ⟨gt2, capt2, rfl, rfl, hct, ho, hgr, hne⟩ := hcut
        obtain ⟨T, hTd⟩ : ∃ T, T = kTurn N K i cc := ⟨_, rfl⟩
        rw [← hTd] at hct
        have hnext : ∀ k, k < 4 → K (4 * i + k) = T k ^^^ K (4 * (i - N) + k) := fun k hk => by
          have h1 := keyW_next N key i k (by omega) hi1 (by omega) hk
          rw [← HK.out, ← HCC.out] at h1
          rw [h1, hTd]; rfl
        have hTlt : ∀ k, k < 4 → T k < 256 := fun k hk => by
          have h1 := hnext k hk
          have h2 : T k = K (4 * i + k) ^^^ K (4 * (i - N) + k) := by rw [h1, Nat.xor_assoc, Nat.xor_self, Nat.xor_zero]
          rw [h2]; exact xor_lt256 (hKlt _) (hKlt _)
        have HTl := Lib.hid hTlt
        have Hnx := Lib.hid hnext
        have Hct := Lib.hid hct
        have HKl := Lib.hid hKlt
        clear hTd hnext hTlt hct hKlt hgtg hgt0 ct0 ct1 ct2 ct3 bt0 bt1 bt2 bt3 HT0 HT1 HT2 HT3 lt0 lt1 lt2 lt3 jt0 jt1 jt2 jt3 er HR r hN0 hN1 j4 hle
        go_wp2_with fail
        go_loopw [6, 10] (fun u6 u10 wq => ∃ k g2 cap2 : Nat, k ≤ 4 ∧ u10 = .int .i64 k ∧ u6 = .slice (some ⟨g2, 0, none⟩) (4 * i + k : Nat) cap2 ∧ OwnR wq g2 (4 * i + k) cap2 K ∧ (∀ j, j < 4 → wq.cell? ⟨gt2, j, none⟩ = some (.int .u8 (T j : Nat))) ∧ w.heap.size ≤ g2 ∧ gt2 ≠ g2 ∧ w.grownBy wq none)
          (fun _ u10 _ => 4 - (intOf u10).toNat)
        case atStart => exact ⟨0, g, cap, by omega, rfl, rfl, ho, Hct.out, hg0, hne, hgr⟩
        case round =>
          clear ho Hct hne hgr hg0
          obtain ⟨k, g2, cap2, hk, rfl, rfl, ho, hct, hg0, hne, hgr⟩ := hrel
          by_cases hk4 : k < 4
          · have m1 : (k : Int) < 4 := by omega
            obtain ⟨d, hd⟩ : ∃ d, d = i - N := ⟨_, rfl⟩
            have m2 : (i : Int) - (N : Int) = (d : Int) := by omega
            have m3 : (d : Int) ≤ 60 := by omega
            have hnx := Hnx.out k hk4
            rw [← hd] at hnx
            have hx := HTl.out k hk4
            have hcx := hct k hk4
            have hy := HKl.out (4 * d + k)
            have hcy := ho.cell (4 * d + k) (by omega)
            generalize hxe : T k = x at *
            generalize K (4 * d + k) = y at *
            have hxy := bits_xor_u8 x y hx hy
            have Hxe := Lib.hid hxe
            have Hk1 := Lib.hid hd
            have hod := ho.grown (grown_drew (grown_refl wr none)) (by simp)
            have hcd := hct
            clear hxe hd
            go_wp2_with fail
            refine wp_region_held (S := fun W => W.cell? ⟨gt2, k, none⟩ = some (.int .u8 (x : Nat)) ∧ W.cell? ⟨g2, 4 * d + k, none⟩ = some (.int .u8 (y : Nat))) (by kernel_rfl) ?_
            change wpAnyH _ _ _ _ _ 18 #[false, false, false, false, false, false, false, false, false, false, false, false, false, false, false, false, false, false] _ (World.drew _)
            have hS0 : (World.drew wr).cell? ⟨gt2, k, none⟩ = some (.int .u8 (x : Nat)) ∧ (World.drew wr).cell? ⟨g2, 4 * d + k, none⟩ = some (.int .u8 (y : Nat)) := ⟨hcx, hcy⟩
            have hct3 : ∀ j, j < 4 → (World.drew wr).cell? ⟨gt2, j, none⟩ = some (.int .u8 (T j : Nat)) := hct
            have hgd := grown_drew hgr
            have Hxy := Lib.hid hnx
            clear hcx hcy hct hcd ho hgr hnx
            generalize World.drew wr = W0 at *
            refine wpAnyH_takeD (some 103) (i := 0) (v := .slice (some ⟨g2, 0, none⟩) (4 * i + k : Nat) cap2) rfl rfl (by kernel_rfl) (by kernel_rfl) (by kernel_rfl) (fun _ _ _ h => h) (Or.inl ⟨rfl, fun _ _ => rfl⟩) hS0 ?_
            simp only [Act.put, List.setIfInBounds_toArray, List.set_cons_succ, List.set_cons_zero]
            refine wpAnyH_takeD (some 104) (i := 1) (v := .slice (some ⟨gt2, 0, none⟩) 4 capt2) rfl rfl (by kernel_rfl) (by kernel_rfl) (by kernel_rfl) (fun _ _ _ h => h) (Or.inl ⟨rfl, fun _ _ => rfl⟩) hS0 ?_
            simp only [Act.put, List.setIfInBounds_toArray, List.set_cons_succ, List.set_cons_zero]
            refine wpAnyH_takeD (some 105) (i := 2) (v := .int .i64 (k : Nat)) rfl rfl (by kernel_rfl) (by kernel_rfl) (by kernel_rfl) (fun _ _ _ h => h) (Or.inl ⟨rfl, fun _ _ => rfl⟩) hS0 ?_
            simp only [Act.put, List.setIfInBounds_toArray, List.set_cons_succ, List.set_cons_zero]
            refine wpAnyH_takeD (some 106) (i := 3) (v := .pointer (some ⟨gt2, k, none⟩)) rfl rfl (by kernel_rfl) (by kernel_rfl) (by kernel_rfl) (fun _ _ _ h => h) (Or.inl ⟨rfl, fun W _ => by go_simp⟩) hS0 ?_
            simp only [Act.put, List.setIfInBounds_toArray, List.set_cons_succ, List.set_cons_zero]
            refine wpAnyH_takeD (some 107) (i := 4) (v := .int .u8 (x : Nat)) rfl rfl (by kernel_rfl) (by kernel_rfl) (by kernel_rfl) (fun _ _ _ h => h) (Or.inl ⟨rfl, fun W hW => by have c1 := hW.1; go_simp⟩) hS0 ?_
            simp only [Act.put, List.setIfInBounds_toArray, List.set_cons_succ, List.set_cons_zero]
            refine wpAnyH_takeD (some 108) (i := 5) (v := .slice (some ⟨g2, 0, none⟩) (4 * i + k : Nat) cap2) rfl rfl (by kernel_rfl) (by kernel_rfl) (by kernel_rfl) (fun _ _ _ h => h) (Or.inl ⟨rfl, fun _ _ => rfl⟩) hS0 ?_
            simp only [Act.put, List.setIfInBounds_toArray, List.set_cons_succ, List.set_cons_zero]
            refine wpAnyH_takeD (some 109) (i := 6) (v := .int .i64 (i : Nat)) rfl rfl (by kernel_rfl) (by kernel_rfl) (by kernel_rfl) (fun _ _ _ h => h) (Or.inl ⟨rfl, fun _ _ => rfl⟩) hS0 ?_
            simp only [Act.put, List.setIfInBounds_toArray, List.set_cons_succ, List.set_cons_zero]
            refine wpAnyH_takeD (some 110) (i := 7) (v := .int .i64 (N : Nat)) rfl rfl (by kernel_rfl) (by kernel_rfl) (by kernel_rfl) (fun _ _ _ h => h) (Or.inl ⟨rfl, fun _ _ => rfl⟩) hS0 ?_
            simp only [Act.put, List.setIfInBounds_toArray, List.set_cons_succ, List.set_cons_zero]
            refine wpAnyH_takeD (some 111) (i := 8) (v := .int .i64 (d : Nat)) rfl rfl (by kernel_rfl) (by kernel_rfl) (by kernel_rfl) (fun _ _ _ h => h) (Or.inl ⟨rfl, fun W _ => by go_simp; rw [IntKind.wrap_i64]; omega⟩) hS0 ?_
            simp only [Act.put, List.setIfInBounds_toArray, List.set_cons_succ, List.set_cons_zero]
            refine wpAnyH_takeD (some 112) (i := 9) (v := .int .i64 (4 * d : Nat)) rfl rfl (by kernel_rfl) (by kernel_rfl) (by kernel_rfl) (fun _ _ _ h => h) (Or.inl ⟨rfl, fun W _ => by go_simp; rw [IntKind.wrap_i64]; omega⟩) hS0 ?_
            simp only [Act.put, List.setIfInBounds_toArray, List.set_cons_succ, List.set_cons_zero]
            refine wpAnyH_takeD (some 113) (i := 10) (v := .int .i64 (k : Nat)) rfl rfl (by kernel_rfl) (by kernel_rfl) (by kernel_rfl) (fun _ _ _ h => h) (Or.inl ⟨rfl, fun _ _ => rfl⟩) hS0 ?_
            simp only [Act.put, List.setIfInBounds_toArray, List.set_cons_succ, List.set_cons_zero]
            refine wpAnyH_takeD (some 114) (i := 11) (v := .int .i64 (4 * d + k : Nat)) rfl rfl (by kernel_rfl) (by kernel_rfl) (by kernel_rfl) (fun _ _ _ h => h) (Or.inl ⟨rfl, fun W _ => by go_simp; rw [IntKind.wrap_i64]; omega⟩) hS0 ?_
            simp only [Act.put, List.setIfInBounds_toArray, List.set_cons_succ, List.set_cons_zero]
            refine wpAnyH_takeD (some 115) (i := 12) (v := .pointer (some ⟨g2, 4 * d + k, none⟩)) rfl rfl (by kernel_rfl) (by kernel_rfl) (by kernel_rfl) (fun _ _ _ h => h) (Or.inl ⟨rfl, fun W _ => by
              have e9 : (4 * (d : Int) + (k : Int)).toNat = 4 * d + k := by omega
              have e8 : (0 : Int) ≤ 4 * (d : Int) + k := by omega
              have e7 : d < i := by omega
              go_simp⟩) hS0 ?_
            simp only [Act.put, List.setIfInBounds_toArray, List.set_cons_succ, List.set_cons_zero]
            refine wpAnyH_takeD (some 116) (i := 13) (v := .int .u8 (y : Nat)) rfl rfl (by kernel_rfl) (by kernel_rfl) (by kernel_rfl) (fun _ _ _ h => h) (Or.inl ⟨rfl, fun W hW => by have c1 := hW.2; go_simp⟩) hS0 ?_
            simp only [Act.put, List.setIfInBounds_toArray, List.set_cons_succ, List.set_cons_zero]
            refine wpAnyH_takeD (some 117) (i := 14) (v := .int .u8 (x ^^^ y : Nat)) rfl rfl (by kernel_rfl) (by kernel_rfl) (by kernel_rfl) (fun _ _ _ h => h) (Or.inl ⟨rfl, fun W _ => by go_simp⟩) hS0 ?_
            simp only [Act.put, List.setIfInBounds_toArray, List.set_cons_succ, List.set_cons_zero]
            refine append_byte_tail (g := g2) (m := 4 * i + k) (cap := cap2) (v := x ^^^ y) (f := K) 15 _ _ _ 103 117 118 119 6 rfl rfl rfl rfl rfl rfl rfl rfl rfl rfl rfl rfl rfl (by kernel_rfl) (by kernel_rfl) (by kernel_rfl) (by kernel_rfl) rfl rfl (by decide) (by simp) (by simp) hod (by omega)
              (fun W' hg hO => ⟨hg.cell hS0.1 (by simp; omega), by
                have h1 := hO.cell (4 * d + k) (by have := Hk1.out; omega)
                have h2 := hod.cell (4 * d + k) (by have := Hk1.out; omega)
                rw [h1, ← h2]; exact hS0.2⟩) ?_
            intro B g3 cap3 W3 hO3 _ hg3 hor
            simp only [Act.put, List.setIfInBounds_toArray, List.set_cons_succ, List.set_cons_zero]
            have hz : gt2 < W0.heap.size := World.block_lt_of_cell? W0 _ (hct3 0 (by decide))
            have hO4 : OwnR W3 g3 (4 * i + (k + 1)) cap3 K := hO3.congr (fun z hz => by
              unfold cat
              by_cases e : z < 4 * i + k
              · rw [if_pos e]
              · have ez : z = 4 * i + k := by omega
                rw [if_neg e, ez, Hxy.out])
            have hct4 : ∀ j, j < 4 → W3.cell? ⟨gt2, j, none⟩ = some (.int .u8 (T j : Nat)) := fun j hj => hg3.cell (hct3 j hj) (by simp; omega)
            have hgW := grown_new hgd hg3 hg0
            have hg03 : w.heap.size ≤ g3 := by have := hgd.size; omega
            have hne3 : gt2 ≠ g3 := by omega
            clear hS0 hct3 hgd hO3 hod hg3
            go_wp2_with fail
            go_roundw
            case rel => first
              | exact ⟨k + 1, g3, cap3, by omega, by go_num, rfl, hO4, hct4, hg03, hne3, hgW⟩
              | ((repeat apply Exists.intro); exact ⟨⟨k + 1, g3, cap3, by omega, by go_num, rfl, hO4, hct4, hg03, hne3, hgW⟩, rfl⟩)
            case measure => simp [intOf]; omega
          · obtain rfl : k = 4 := by omega
            go_wp2_with fail
            have e44 : 4 * (i + 1) = 4 * i + 4 := by omega
            first
              | exact ⟨⟨i + 1, g2, cap2, by omega, by omega, by go_num, by rw [Nat.add_sub_cancel], by rw [e44], by rw [e44, ← HK.out]; exact ho, hg0, hgr⟩, by simp [intOf]; omega⟩
              | (go_roundw
                 case rel => exact ⟨i + 1, g2, cap2, by omega, by omega, by go_num, by rw [Nat.add_sub_cancel], by rw [e44], by rw [e44, ← HK.out]; exact ho, hg0, hgr⟩
                 case measure => simp [intOf]; omega)
    · have hiE : i = 4 * (N + 7) := by omega
      have j1 : 4 * ((N : Int) + 7) ≤ i := by omega
      have e16 : 16 * (N + 7) = 4 * i := by omega
      have HE := Lib.hid e16
      clear hiE e16 hlt
      go_wp2_with fail
      go_ret
      exact ⟨⟨g, cap, by rw [HE.out]; rfl, by rw [HE.out]; exact ho, hg0, hgr⟩⟩

end Go.Proofs.YtlfopcigbgfnlaaDoor
namespace Go.Proofs.YtlfopcigbgfnlaaDoor
open Go.RowKit Go.Shelf

set_option maxRecDepth 100000
set_option maxHeartbeats 2000000

theorem rnewk_any (N L c : Nat) (a : Option Addr) (key : Nat → Nat) (w : World) (hN : N = 4 ∨ N = 8) (hLN : L = 4 * N) (hR : Rd w w.heap.size a L key) (hk : ∀ i, key i < 256) :
    Calls Tryd.prog 10 #[.slice a L c] w fun e w' => ∃ rb gw cap, e = .returned (.agg #[.slice (some ⟨rb, 0, none⟩) 256 256, .slice (some ⟨gw, 0, none⟩) (16 * (N + 7) : Nat) cap]) ∧ Fill w' rb 256 sB ∧ OwnR w' gw (16 * (N + 7)) cap (keyW N key) ∧ w.grownBy w' none := by
  have hK := keyAt_alloc w (.slice none 0 0) (.slice none 0 0)
  have g1 := World.grownBy_alloc w (.cells #[.slice none 0 0, .slice none 0 0] 32) none
  have HBox : Hid (∀ U, Calls Tryd.prog 23 #[] U fun e w' => ∃ r, e = .returned (.slice (some ⟨r, 0, none⟩) 256 256) ∧ U.heap.size ≤ r ∧ Fill w' r 256 sB ∧ U.grownBy w' none) := Lib.hid box_any
  have HC : Hid (∀ U rb, w.grownBy U none → Rd U U.heap.size (some ⟨rb, 0, none⟩) 256 sB → Calls Tryd.prog 24 #[.slice (some ⟨rb, 0, none⟩) 256 256, .slice a L c] U (ColsR U N key)) := Lib.hid (fun U rb hU hB => rcols_any N L c rb a key U hN hLN (hR.up (Nat.le_refl _) hU) hk hB)
  clear hN hLN hR hk
  go_enter Tryd.func10, Tryd.ntmps10
  go_wp2_with fail
  generalize w.alloc (.cells #[.slice none 0 0, .slice none 0 0] 32) = w1 at *
  go_at_call 23
  with_reducible refine (HBox.out _).mono ?_
  rintro e w2 ⟨rb, rfl, hrb, hF, g2⟩
  have g02 := grown_trans g1 g2
  have hK2 := hK.grown g2 (by simp)
  have hlt := hK.lt
  clear HBox hK
  go_wp2_with fail
  go_at_call 24
  with_reducible refine (HC.out _ rb g02 (hF.rd (by decide) 256 (Nat.le_refl _))).mono ?_
  rintro e w3 ⟨⟨gw, cap, rfl, hO, hgw, g3⟩⟩
  have g03 := grown_trans g02 g3
  have hK3 := hK2.grown g3 (by simp)
  have hF3 := hF.grown (by decide) g3 (by simp)
  clear HC hK2 hF g02
  have c0 := hK3.c0
  have c1 := hK3.c1
  have f0 : ∀ i, w3.frozen? ⟨w.heap.size, i, none⟩ = false := fun i => frozen_of_row _ _ _ _ _ hK3.block
  have fa := f0 0
  have fb := f0 1
  go_wp2_with fail
  obtain ⟨d, hu, hd⟩ := under_key
  have hs1 := heap_setCell_same w3 w.heap.size 0 _ _ (.slice (some ⟨rb, 0, none⟩) 256 256) hK3.block
  have hs2 := heap_setCell_same _ w.heap.size 1 _ _ (.slice (some ⟨gw, 0, none⟩) (16 * (N + 7) : Nat) cap) hs1
  have g5 := grown_setCell_new (grown_setCell_new g03 ⟨w.heap.size, 0, none⟩ (.slice (some ⟨rb, 0, none⟩) 256 256) (Or.inl (Nat.le_refl _))) ⟨w.heap.size, 1, none⟩ (.slice (some ⟨gw, 0, none⟩) (16 * (N + 7) : Nat) cap) (Or.inl (Nat.le_refl _))
  have hr : w.heap.size ≠ rb := by omega
  have hq : w.heap.size ≠ gw := by have := g2.size; omega
  have hF5 := (hF3.setOther ⟨w.heap.size, 0, none⟩ (.slice (some ⟨rb, 0, none⟩) 256 256) (fun e => hr e.symm)).setOther ⟨w.heap.size, 1, none⟩ (.slice (some ⟨gw, 0, none⟩) (16 * (N + 7) : Nat) cap) (fun e => hr e.symm)
  have hO4 := hO.of_block (heap_setCell_other w3 ⟨w.heap.size, 0, none⟩ gw (.slice (some ⟨rb, 0, none⟩) 256 256) (fun e => hq e.symm)) (by simpa using hO.lt)
  have hO5 := hO4.of_block (heap_setCell_other _ ⟨w.heap.size, 1, none⟩ gw (.slice (some ⟨gw, 0, none⟩) (16 * (N + 7) : Nat) cap) (fun e => hq e.symm)) (by simpa using hO.lt)
  exact bodyPost_ret (v := .agg #[.slice (some ⟨rb, 0, none⟩) 256 256, .slice (some ⟨gw, 0, none⟩) (16 * (N + 7) : Nat) cap]) (results_cell_row rfl _ _ w.heap.size 32 _ (0, 0) d rfl hs2 hu (by cases d <;> first | rfl | exact hd) (by kernel_rfl)) rfl ⟨rb, gw, cap, rfl, hF5, hO5, g5⟩

end Go.Proofs.YtlfopcigbgfnlaaDoor
namespace Go.Proofs.YtlfopcigbgfnlaaDoor
open Go.RowKit Go.Shelf

set_option maxRecDepth 100000
set_option maxHeartbeats 4000000

theorem ex_all12 {o : Oper} {a : Act} {W : World} {B : Nat} (t : Tmp) (ho : o.op = .slice 23 (.tmp t) none none none) (h1 : a.eval (.tmp t) = .pointer (some ⟨B, 0, none⟩)) :
    (execOp a.eval o).run Tryd.prog W = .ok (.value (.slice (some ⟨B, 0, none⟩) 12 12)) W := by
  unfold execOp
  simp only [ho, h1]
  go_simp
theorem rkopen_enters (args : Array Value) (w : World) : (callFunc 11 args).run Tryd.prog w = .ok (.enter 11 args) w := enters_of Tryd.func11 (by kernel_rfl) rfl args w
theorem rkseal_enters (args : Array Value) (w : World) : (callFunc 12 args).run Tryd.prog w = .ok (.enter 12 args) w := enters_of Tryd.func12 (by kernel_rfl) rfl args w
/-- How many bytes are opened. -/
def opN (ok : Bool) (n : Nat) : Nat := if ok then n - 16 else 0
/-- The error that is told. -/
def opE (ok : Bool) : Int := if ok then 0 else 140

theorem gcmSeals_any (n c na ca nt ct : Nat) (ka aa ta : Option Addr) (fk nf fa ft fh : Nat → Nat) (w : World) (hL : LaidS w 0) (hsz : 0 < w.heap.size) (hR : Rd w w.heap.size ka n fk) (hA : Rd w w.heap.size aa na fa) (hT : Rd w w.heap.size ta nt ft)
    (hca : na ≤ ca) (hct : nt ≤ ct) (hfk : ∀ i, fk i < 256) (hnf : ∀ i, nf i < 256) (hfa : ∀ i, fa i < 256) (hft : ∀ i, ft i < 256) (hfh : ∀ i, fh i < 256) :
    Calls Tryd.prog 3 #[.slice ka n c, .agg (cellsOf .u8 12 nf), .slice aa na ca, .slice ta nt ct, .agg (cellsOf .u8 16 fh)] w (SaysYes w) := by
  have hN0 : Holds ((w.alloc (.cells (cellsOf .u8 12 nf) 23)).alloc (.cells (cellsOf .u8 16 fh) 24)) w.heap.size 23 .u8 12 nf := (holds_alloc w 23 .u8 12 nf _ rfl).of_block (by rw [heap_alloc_old]; simp)
  have hH0 : Holds ((w.alloc (.cells (cellsOf .u8 12 nf) 23)).alloc (.cells (cellsOf .u8 16 fh) 24)) (w.heap.size + 1) 24 .u8 16 fh := by
    have := holds_alloc (w.alloc (.cells (cellsOf .u8 12 nf) 23)) 24 .u8 16 fh _ rfl
    rwa [World.size_alloc] at this
  have g0 := grown_alloc (World.grownBy_alloc w (.cells (cellsOf .u8 12 nf) 23) none) (.cells (cellsOf .u8 16 fh) 24)
  have HK : Hid (∀ U, w.grownBy U none → Calls Tryd.prog 5 #[] U (SaysYes U)) := Lib.hid (fun U hU => known05 U (hL.grown hU (by simp)) (Nat.lt_of_lt_of_le hsz hU.size))
  obtain ⟨b6, hb6⟩ : ∃ b, b = w.heap.size := ⟨_, rfl⟩
  obtain ⟨b9, hb9⟩ : ∃ b, b = b6 + 1 := ⟨_, rfl⟩
  rw [← hb6] at hN0
  rw [← hb6, ← hb9] at hH0
  have HB6 := Lib.hid hb6.symm
  have HB9 := Lib.hid hb9.symm
  have hb69 : b6 ≠ b9 := by omega
  clear hb6 hb9
  by_cases ha4 : 400 < na
  · have j4 : (400 : Int) < na := by omega
    clear ha4 hA hT hR hN0 hH0 hL hsz hfk hnf hfa hft hfh
    go_enter Tryd.func3, Tryd.ntmps3
    go_wp2_with fail
    generalize (w.alloc (.cells (cellsOf .u8 12 nf) 23)).alloc (.cells (cellsOf .u8 16 fh) 24) = w0 at *
    go_at_call 5
    with_reducible refine (HK.out _ g0).mono ?_
    rintro e w1 ⟨⟨rfl, g1⟩⟩
    go_wp2_with fail
    go_ret
    exact ⟨⟨rfl, grown_trans g0 g1⟩⟩
  · have j4 : (na : Int) ≤ 400 := by omega
    by_cases ht4 : 400 < nt
    · have j5 : (400 : Int) < nt := by omega
      clear ha4 ht4 hA hT hR hN0 hH0 hL hsz hfk hnf hfa hft hfh
      go_enter Tryd.func3, Tryd.ntmps3
      go_wp2_with fail
      generalize (w.alloc (.cells (cellsOf .u8 12 nf) 23)).alloc (.cells (cellsOf .u8 16 fh) 24) = w0 at *
      go_at_call 5
      with_reducible refine (HK.out _ g0).mono ?_
      rintro e w1 ⟨⟨rfl, g1⟩⟩
      go_wp2_with fail
      go_ret
      exact ⟨⟨rfl, grown_trans g0 g1⟩⟩
    · have j5 : (nt : Int) ≤ 400 := by omega
      obtain ⟨Y, hY⟩ : ∃ Y, Y = hashF fh ft nt := ⟨_, rfl⟩
      have hYl : ∀ i, Y i < 256 := fun i => by rw [hY]; exact hashF_lt _ _ _ _
      have HHash : Hid (∀ U, w.grownBy U none → Calls Tryd.prog 6 #[.agg (cellsOf .u8 16 fh), .slice ta nt ct] U fun e w' => e = .returned (.agg (cellsOf .u8 16 Y)) ∧ U.grownBy w' none) := Lib.hid (fun U hU => by
        rw [hY]; exact ghash_any nt ct ta fh ft U hfh hft (hT.up (Nat.le_refl _) hU) hct (by omega))
      have HRH : Hid (∀ U b, w.grownBy U none → Holds U b 24 .u8 16 fh → Calls Tryd.prog 9 #[.slice (some ⟨b, 0, none⟩) 16 16, .slice ta nt ct] U fun e w' => ∃ v, e = .returned v ∧ (∃ q, v = .slice (some ⟨q, 0, none⟩) 16 16 ∧ Fill w' q 16 Y) ∧ U.grownBy w' none) := Lib.hid (fun U b hU hb => by
        rw [hY]
        exact (rhash_any (some ⟨b, 0, none⟩) ta 16 ct nt fh ft U (hb.rd _ hb.lt 16 (Nat.le_refl _)) (hT.up (Nat.le_refl _) hU) hfh hft (by omega)).mono fun e w' h => by
          obtain ⟨q, h1, h2, h3, h4⟩ := h
          exact ⟨_, h1, ⟨q, rfl, h2⟩, h4⟩)
      have HYl := Lib.hid hYl
      clear hY hYl
      by_cases hN : n = 16 ∨ n = 32
      · obtain ⟨N, hN4, hn4⟩ : ∃ N, (N = 4 ∨ N = 8) ∧ n = 4 * N := by
          rcases hN with rfl | rfl
          · exact ⟨4, Or.inl rfl, rfl⟩
          · exact ⟨8, Or.inr rfl, rfl⟩
        have hN6 : N + 6 ≤ 14 := by omega
        have hN1 : 1 ≤ N + 6 := by omega
        obtain ⟨W, hW⟩ : ∃ W, W = keyW N fk := ⟨_, rfl⟩
        have hWl : ∀ i, W i < 256 := fun i => by rw [hW]; exact keyW_lt N fk hfk i
        obtain ⟨SF, hSF⟩ : ∃ S, S = sealF (N + 6) W nf fa na ft nt := ⟨_, rfl⟩
        obtain ⟨G, hG⟩ : ∃ G, G = turnF (N + 6) W (nextF (firstF nf)) ft := ⟨_, rfl⟩
        have hGl : ∀ i, G i < 256 := fun i => by rw [hG]; exact turnF_lt _ _ _ _ hWl (nextF_lt _ (firstF_lt nf hnf)) hft i
        have hSFl : ∀ i, SF i < 256 := fun i => by
          rw [hSF]
          exact cat_lt _ _ _ (turnF_lt _ _ _ _ hWl (nextF_lt _ (firstF_lt nf hnf)) hft) (tagF_lt _ _ _ _ _ _ _) i
        obtain ⟨ok, hok⟩ : ∃ b, b = openB (N + 6) W nf fa na ft nt := ⟨_, rfl⟩
        obtain ⟨m, hm⟩ : ∃ m, m = opN ok nt := ⟨_, rfl⟩
        obtain ⟨M, hM⟩ : ∃ M, M = nt + 16 := ⟨_, rfl⟩
        obtain ⟨LW, hLW⟩ : ∃ L, L = 16 * (N + 7) := ⟨_, rfl⟩
        have HS : Hid (∀ U, w.grownBy U none → Calls Tryd.prog 7 #[.slice ka n c, .agg (cellsOf .u8 12 nf), .slice aa na ca, .slice ta nt ct] U fun e w' => ∃ a c, e = .returned (.tuple #[.slice a M c, .int .i64 0]) ∧ Rd w' w'.heap.size a M SF ∧ U.grownBy w' none) := Lib.hid (fun U hU => by
          have := gseal_any N n c na ca nt ct ka aa ta fk nf fa ft U (hL.grown hU (by simp)) (Nat.lt_of_lt_of_le hsz hU.size) hN4 hn4 (hR.up (Nat.le_refl _) hU) hfk hnf (hA.up (Nat.le_refl _) hU) hfa hca (by omega) (hT.up (Nat.le_refl _) hU) hft hct (by omega)
          rw [← hW, ← hSF, ← hM] at this
          exact this.mono fun e w' h => by
            obtain ⟨v, h1, h2, h3⟩ := h
            obtain ⟨a, c, rfl, _, h5⟩ := h2.rd
            exact ⟨a, c, h1, h5, h3⟩)
        have HO : Hid (∀ U, w.grownBy U none → Calls Tryd.prog 8 #[.slice ka n c, .agg (cellsOf .u8 12 nf), .slice aa na ca, .slice ta nt ct] U fun e w' => ∃ a c, e = .returned (.tuple #[.slice a m c, .int .i64 (opE ok)]) ∧ Rd w' w'.heap.size a m G ∧ U.grownBy w' none) := Lib.hid (fun U hU => by
          have := gopen_any N n c na ca nt ct ka aa ta fk nf fa ft U (hL.grown hU (by simp)) (Nat.lt_of_lt_of_le hsz hU.size) hN4 hn4 (hR.up (Nat.le_refl _) hU) hfk hnf (hA.up (Nat.le_refl _) hU) hfa hca (by omega) (hT.up (Nat.le_refl _) hU) hft hct (by omega)
          rw [← hW, ← hG, ← hok] at this
          refine this.mono fun e w' h => ?_
          obtain ⟨h1, h2, h3⟩ := h
          rw [hm]
          cases ok with
          | false => exact ⟨none, 0, h2 rfl, rd_nil _ _ _, h1⟩
          | true =>
            obtain ⟨v, h4, h5⟩ := h3 rfl
            obtain ⟨a, c, rfl, _, h6⟩ := h5.rd
            exact ⟨a, c, h4, h6, h1⟩)
        have HNew : Hid (∀ U, w.grownBy U none → Calls Tryd.prog 10 #[.slice ka n c] U fun e w' => ∃ rb gw cap, e = .returned (.agg #[.slice (some ⟨rb, 0, none⟩) 256 256, .slice (some ⟨gw, 0, none⟩) LW cap]) ∧ Fill w' rb 256 sB ∧ OwnR w' gw LW cap W ∧ U.grownBy w' none) := Lib.hid (fun U hU => by
          rw [hLW, hW]
          exact rnewk_any N n c ka fk U hN4 hn4 (hR.up (Nat.le_refl _) hU) hfk)
        have HROp : Hid (∀ U rb gw capw, w.grownBy U none → Rd U U.heap.size (some ⟨rb, 0, none⟩) 256 sB → Rd U U.heap.size (some ⟨gw, 0, none⟩) LW W → Holds U b6 23 .u8 12 nf → Calls Tryd.prog 11 #[.agg #[.slice (some ⟨rb, 0, none⟩) 256 256, .slice (some ⟨gw, 0, none⟩) LW capw], .slice (some ⟨b6, 0, none⟩) 12 12, .slice aa na ca, .slice ta nt ct] U fun e w' => ∃ v, e = .returned v ∧ (∃ a c, v = .tuple #[.slice a m c, .bool ok] ∧ Rd w' w'.heap.size a m G) ∧ U.grownBy w' none) := Lib.hid (fun U rb gw capw hU hrb hgw hb => by
          subst hLW
          have := rkopen_any (N + 6) rb gw capw na nt ca ct 12 (some ⟨b6, 0, none⟩) aa ta W nf fa ft U hN1 hN6 hrb hgw (hb.rd _ hb.lt 12 (Nat.le_refl _)) (hA.up (Nat.le_refl _) hU) (hT.up (Nat.le_refl _) hU) hWl hnf hfa hft (by omega) (by omega) hct
          rw [← hG, ← hok] at this
          refine this.mono fun e w' h => ?_
          obtain ⟨h1, h2, h3⟩ := h
          rw [hm]
          cases ok with
          | false => exact ⟨_, h2 rfl, ⟨none, 0, rfl, rd_nil _ _ _⟩, h1⟩
          | true =>
            obtain ⟨v, h4, h5⟩ := h3 rfl
            obtain ⟨a, c, rfl, _, h6⟩ := h5.rd
            exact ⟨_, h4, ⟨a, c, rfl, h6⟩, h1⟩)
        have HRSe : Hid (∀ U rb gw capw, w.grownBy U none → Rd U U.heap.size (some ⟨rb, 0, none⟩) 256 sB → Rd U U.heap.size (some ⟨gw, 0, none⟩) LW W → Holds U b6 23 .u8 12 nf → Calls Tryd.prog 12 #[.agg #[.slice (some ⟨rb, 0, none⟩) 256 256, .slice (some ⟨gw, 0, none⟩) LW capw], .slice (some ⟨b6, 0, none⟩) 12 12, .slice aa na ca, .slice ta nt ct] U fun e w' => ∃ v, e = .returned v ∧ (∃ a c, v = .slice a M c ∧ Rd w' w'.heap.size a M SF) ∧ U.grownBy w' none) := Lib.hid (fun U rb gw capw hU hrb hgw hb => by
          subst hLW
          have := rkseal_any (N + 6) rb gw capw na nt ca ct 12 (some ⟨b6, 0, none⟩) aa ta W nf fa ft U hN1 hN6 hrb hgw (hb.rd _ hb.lt 12 (Nat.le_refl _)) (hA.up (Nat.le_refl _) hU) (hT.up (Nat.le_refl _) hU) hWl hnf hfa hft (by omega) (by omega)
          rw [← hSF, ← hM] at this
          exact this.mono fun e w' h => by
            obtain ⟨g, cap, h1, h2, h3⟩ := h
            exact ⟨_, h1, ⟨_, cap, rfl, h2.rd⟩, h3⟩)
        have HGl := Lib.hid hGl
        have HSFl := Lib.hid hSFl
        have HN := Lib.hid hN
        clear ha4 ht4 hA hT hR hL hsz hfk hnf hfa hft hfh hN hN4 hn4 hN6 hN1 hW hWl hSF hG hGl hSFl hok hm hM hLW
        go_enter Tryd.func3, Tryd.ntmps3
        go_wp2_with fail
        generalize (w.alloc (.cells (cellsOf .u8 12 nf) 23)).alloc (.cells (cellsOf .u8 16 fh) 24) = w0 at *
        rw [HB6.out, HB9.out]
        go_at_call 5
        with_reducible refine (HK.out _ g0).mono ?_
        rintro e w1 ⟨⟨rfl, g1⟩⟩
        have g01 := grown_trans g0 g1
        have hN1 := hN0.grown g1 (by simp)
        have hH1 := hH0.grown g1 (by simp)
        clear HK g0 g1 hN0 hH0
        go_wp2_with (refine wpList_load_row rfl 24 (.tmp 9) rfl b9 rfl 24 _ (0, 0) (.array 16 5) hH1.block (by kernel_rfl) rfl (by rw [cellsOf_size]; kernel_rfl) ?_)
        go_at_call 6
        with_reducible refine (HHash.out _ g01).mono ?_
        rintro e w2 ⟨rfl, g2⟩
        have g02 := grown_trans g01 g2
        have hN2 := hN1.grown g2 (by simp)
        have hH2 := hH1.grown g2 (by simp)
        have hN0 : Holds (w2.alloc (.cells #[.int .u8 0, .int .u8 0, .int .u8 0, .int .u8 0, .int .u8 0, .int .u8 0, .int .u8 0, .int .u8 0, .int .u8 0, .int .u8 0, .int .u8 0, .int .u8 0, .int .u8 0, .int .u8 0, .int .u8 0, .int .u8 0] 24)) w2.heap.size 24 .u8 16 (fun _ => 0) := holds_alloc w2 _ .u8 16 _ _ zero16
        have hbn := hN0.block
        have hX4 := hN0.setRow .u8 16 Y
        have g34 := grown_setRow_new (World.grownBy_alloc w2 (.cells #[.int .u8 0, .int .u8 0, .int .u8 0, .int .u8 0, .int .u8 0, .int .u8 0, .int .u8 0, .int .u8 0, .int .u8 0, .int .u8 0, .int .u8 0, .int .u8 0, .int .u8 0, .int .u8 0, .int .u8 0, .int .u8 0] 24) none) w2.heap.size (cellsOf .u8 16 Y) (Or.inl (Nat.le_refl _))
        have g04 := grown_trans g02 g34
        have hN4 := hN2.grown g34 (by simp)
        have hH4 := hH2.grown g34 (by simp)
        obtain ⟨w4, hw4⟩ : ∃ w4, w4 = (w2.alloc (.cells #[.int .u8 0, .int .u8 0, .int .u8 0, .int .u8 0, .int .u8 0, .int .u8 0, .int .u8 0, .int .u8 0, .int .u8 0, .int .u8 0, .int .u8 0, .int .u8 0, .int .u8 0, .int .u8 0, .int .u8 0, .int .u8 0] 24)).setRow w2.heap.size (cellsOf .u8 16 Y) := ⟨_, rfl⟩
        rw [← hw4] at hX4 g04 hN4 hH4
        have HW4 := Lib.hid hw4
        clear hN0 hw4 g34 g2 g01 g02 hN1 hH1 hN2 hH2 HHash
        go_upto_region 6 with (refine wpList_store_row rfl 24 (.tmp 11) (.tmp 31) rfl w2.heap.size _ rfl rfl 24 _ hbn (by rw [cellsOf_size]; kernel_rfl) rfl (cellsOf_all _ _ _) ?_)
        rw [← HW4.out]
        try simp only [Act.put]
        generalize w2.heap.size = b11 at *
        clear hbn HW4
        go_wp2_with (refine wpList_load_row rfl 23 (.tmp 6) rfl b6 rfl 23 _ (0, 0) (.array 12 5) hN4.block (by kernel_rfl) rfl (by rw [cellsOf_size]; kernel_rfl) ?_)
        go_at_call 7
        with_reducible refine (HS.out _ g04).mono ?_
        rintro e w5 ⟨a1, c1, rfl, hS5, g5⟩
        have g05 := grown_trans g04 g5
        have hN5 := hN4.grown g5 (by simp)
        have hH5 := hH4.grown g5 (by simp)
        have hX5 := hX4.grown g5 (by simp)
        clear hN4 hH4 hX4 g04 g5 HS
        go_wp2_with (refine wpList_load_row rfl 23 (.tmp 6) rfl b6 rfl 23 _ (0, 0) (.array 12 5) hN5.block (by kernel_rfl) rfl (by rw [cellsOf_size]; kernel_rfl) ?_)
        go_at_call 8
        with_reducible refine (HO.out _ g05).mono ?_
        rintro e w6 ⟨a2, c2, rfl, hO6, g6⟩
        have g06 := grown_trans g05 g6
        have hN6 := hN5.grown g6 (by simp)
        have hH6 := hH5.grown g6 (by simp)
        have hX6 := hX5.grown g6 (by simp)
        have hS6 := hS5.up (Nat.le_refl _) g6
        clear hN5 hH5 hX5 hS5 g05 g6 HO
        go_upto_region 8 with fail
        obtain ⟨V0, hV0⟩ : ∃ V0, V0 = w6.drew := ⟨_, rfl⟩
        have hv0 : w6.grownBy V0 none := by rw [hV0]; exact grown_drew (grown_refl w6 none)
        have HV0 := Lib.hid hV0.symm
        have gv := grown_trans g06 hv0
        have hNv := hN6.grown hv0 (by simp)
        have hHv := hH6.grown hv0 (by simp)
        have hXv := hX6.grown hv0 (by simp)
        have hSv := hS6.up (Nat.le_refl _) hv0
        have hOv := hO6.up (Nat.le_refl _) hv0
        clear hV0 hv0 hN6 hH6 hX6 hS6 hO6 g06
        go_cut [54] (fun s54 wx => s54 = .bool false ∧ V0.grownBy wx none)
        case first =>
          refine wp_region_held (S := fun W => V0.grownBy W (none)) (by kernel_rfl) ?_
          change wpAnyH _ _ _ _ _ 7 #[false, false, false, false, false, false, false] _ (World.drew _)
          rw [HV0.out]
          have hS0 : V0.grownBy V0 (none) := grown_refl V0 _
          refine wpAnyH_takeD (some 48) (i := 0) (v := .slice (some ⟨b11, 0, none⟩) 16 16) rfl rfl (by kernel_rfl) (by kernel_rfl) (by kernel_rfl) (fun _ _ _ h => h) (Or.inl ⟨rfl, fun W hW => ex_all 11 rfl rfl⟩) hS0 ?_
          simp only [Act.put, List.setIfInBounds_toArray, List.set_cons_succ, List.set_cons_zero]
          refine wpAnyH_takeD (some 49) (i := 1) (v := .string (strOf 16 Y)) rfl rfl (by kernel_rfl) (by kernel_rfl) (by kernel_rfl) (fun _ _ _ h => h) (Or.inl ⟨rfl, fun W hW => run_convS 48 rfl rfl ((hXv.grown hW (by simp)).rd _ (hXv.grown hW (by simp)).lt 16 (Nat.le_refl _)) HYl.out⟩) hS0 ?_
          simp only [Act.put, List.setIfInBounds_toArray, List.set_cons_succ, List.set_cons_zero]
          refine wpAnyH_takeD (some 50) (i := 2) (v := .slice (some ⟨b9, 0, none⟩) 16 16) rfl rfl (by kernel_rfl) (by kernel_rfl) (by kernel_rfl) (fun _ _ _ h => h) (Or.inl ⟨rfl, fun W hW => ex_all 9 rfl rfl⟩) hS0 ?_
          simp only [Act.put, List.setIfInBounds_toArray, List.set_cons_succ, List.set_cons_zero]
          refine wpAnyH_takeD (some 51) (i := 3) (v := .slice ta nt ct) rfl rfl (by kernel_rfl) (by kernel_rfl) (by kernel_rfl) (fun _ _ _ h => h) (Or.inl ⟨rfl, fun _ _ => rfl⟩) hS0 ?_
          simp only [Act.put, List.setIfInBounds_toArray, List.set_cons_succ, List.set_cons_zero]
          refine wpAnyH_one (i := 4) (by kernel_rfl) (op_callR (R := fun v w' => (∃ q, v = .slice (some ⟨q, 0, none⟩) 16 16 ∧ Fill w' q 16 Y) ∧ V0.grownBy w' none) (some 52) 9 #[.slice (some ⟨b9, 0, none⟩) 16 16, .slice ta nt ct] rfl rfl rfl (exec_fn2 _ _ _ _ _ rfl rfl rfl) rhash_enters (HRH.out V0 _ (grown_trans gv hS0) (hHv.grown hS0 (by simp))) ?_)
          rintro vv1 V1 ⟨⟨q, rfl, hQ⟩, gg1⟩
          have hS1 := grown_trans hS0 (grown_some gg1)
          refine ⟨hS1, ?_⟩
          simp only [Act.put, List.setIfInBounds_toArray, List.set_cons_succ, List.set_cons_zero]
          refine wpAnyH_one (i := 5) (by kernel_rfl) (op_yield (some 53) (v := .string (strOf 16 Y)) (w' := V1) rfl rfl rfl (run_convS 52 rfl rfl (hQ.rd (by decide) 16 (Nat.le_refl _)) HYl.out) hS1 ?_)
          simp only [Act.put, List.setIfInBounds_toArray, List.set_cons_succ, List.set_cons_zero]
          refine wpAnyH_takeD (some 54) (i := 6) (v := .bool false) rfl rfl (by kernel_rfl) (by kernel_rfl) (by kernel_rfl) (fun _ _ _ h => h) (Or.inl ⟨rfl, fun _ _ => by go_simp⟩) hS1 ?_
          simp only [Act.put, List.setIfInBounds_toArray, List.set_cons_succ, List.set_cons_zero]
          refine wpAnyH_done (by kernel_rfl) ?_ _
          go_wp2_with fail
          go_meet
          case rel => exact ⟨rfl, hS1⟩
        case rest =>
          obtain ⟨rfl, g7⟩ := hcut
          obtain ⟨w7, hw7⟩ : ∃ x, x = wc := ⟨_, rfl⟩
          subst hw7
          have g07 := grown_trans gv g7
          have hN7 := hNv.grown g7 (by simp)
          have hS7 := hSv.up (Nat.le_refl _) g7
          have hO7 := hOv.up (Nat.le_refl _) g7
          clear HV0 gv g7 hNv hHv hXv hSv hOv HRH
          go_upto_region 10 with fail
          go_cut [62] (fun s62 wx => s62 = .bool false ∧ w7.grownBy wx none)
          case first =>
            have hN := HN.out
            rcases hN with rfl | rfl
            · go_wp2_with fail
              go_meet
              case rel => exact ⟨rfl, grown_refl _ _⟩
            · go_wp2_with fail
              go_meet
              case rel => exact ⟨rfl, grown_refl _ _⟩
          case rest =>
            obtain ⟨rfl, g8⟩ := hcut
            have g08 := grown_trans g07 g8
            have hN8 := hN7.grown g8 (by simp)
            have hS8 := hS7.up (Nat.le_refl _) g8
            have hO8 := hO7.up (Nat.le_refl _) g8
            clear g07 g8 hN7 hS7 hO7 HN
            go_wp2_with fail
            go_at_call 10
            with_reducible refine (HNew.out _ g08).mono ?_
            rintro e w9 ⟨rb, gw, capw, rfl, hrb, hgw, g9⟩
            have hKx := keyAt_alloc w9 (.slice (some ⟨rb, 0, none⟩) 256 256) (.slice (some ⟨gw, 0, none⟩) LW capw)
            have hKn := keyAt_alloc w9 (.slice none 0 0) (.slice none 0 0)
            have g5 := World.grownBy_alloc w9 (.cells #[.slice (some ⟨rb, 0, none⟩) 256 256, .slice (some ⟨gw, 0, none⟩) LW capw] 32) none
            have c0 := hKn.c0
            have c1 := hKn.c1
            have f0 : ∀ i, (w9.alloc (.cells #[.slice none 0 0, .slice none 0 0] 32)).frozen? ⟨w9.heap.size, i, none⟩ = false := fun i => frozen_of_row _ _ _ _ _ hKn.block
            have fe0 := f0 0
            have fe1 := f0 1
            have g9x := grown_trans g9 g5
            have g0x := grown_trans g08 g9x
            have hrx := (hrb.grown (by decide) g5 (by simp)).rd (by decide) 256 (Nat.le_refl _)
            have hwx := (hgw.grown g5 (by simp)).rd
            have hNx := hN8.grown g9x (by simp)
            have hSx := hS8.up (Nat.le_refl _) g9x
            have hOx := hO8.up (Nat.le_refl _) g9x
            clear f0 hKn g5 g9 g9x hrb hgw g08 hN8 hS8 hO8 HNew
            go_upto_region 13 with fail
            generalize w9.alloc (.cells #[.slice (some ⟨rb, 0, none⟩) 256 256, .slice (some ⟨gw, 0, none⟩) LW capw] 32) = w10 at *
            generalize w9.heap.size = b16 at *
            clear c0 c1 fe0 fe1
            obtain ⟨V0, hV0⟩ : ∃ V0, V0 = w10.drew := ⟨_, rfl⟩
            have hv0 : w10.grownBy V0 none := by rw [hV0]; exact grown_drew (grown_refl w10 none)
            have HV0 := Lib.hid hV0.symm
            have gv := grown_trans g0x hv0
            have hKv := hKx.grown hv0 (by simp)
            have hrv := hrx.up (Nat.le_refl _) hv0
            have hwv := hwx.up (Nat.le_refl _) hv0
            have hNv := hNx.grown hv0 (by simp)
            have hSv := hSx.up (Nat.le_refl _) hv0
            have hOv := hOx.up (Nat.le_refl _) hv0
            clear hV0 hv0 hKx hrx hwx hNx hSx hOx g0x
            go_cut [17, 18] (fun s17 s18 wx => ∃ a c, s17 = .slice a m c ∧ s18 = .bool ok ∧ Rd wx wx.heap.size a m G ∧ V0.grownBy wx none)
            case first =>
              refine wp_region_held (S := fun W => V0.grownBy W (none)) (by kernel_rfl) ?_
              change wpAnyH _ _ _ _ _ 10 #[false, false, false, false, false, false, false, false, false, false] _ (World.drew _)
              rw [HV0.out]
              have hS0 : V0.grownBy V0 (none) := grown_refl V0 _
              refine wpAnyH_takeD (some 80) (i := 0) (v := .agg #[.slice (some ⟨rb, 0, none⟩) 256 256, .slice (some ⟨gw, 0, none⟩) LW capw]) rfl rfl (by kernel_rfl) (by kernel_rfl) (by kernel_rfl) (fun _ _ _ h => h) (Or.inl ⟨rfl, fun W hW => run_key (hKv.grown hW (by simp)) rfl rfl⟩) hS0 ?_
              simp only [Act.put, List.setIfInBounds_toArray, List.set_cons_succ, List.set_cons_zero]
              refine wpAnyH_takeD (some 81) (i := 1) (v := .slice (some ⟨b6, 0, none⟩) 12 12) rfl rfl (by kernel_rfl) (by kernel_rfl) (by kernel_rfl) (fun _ _ _ h => h) (Or.inl ⟨rfl, fun W hW => ex_all12 6 rfl rfl⟩) hS0 ?_
              simp only [Act.put, List.setIfInBounds_toArray, List.set_cons_succ, List.set_cons_zero]
              refine wpAnyH_takeD (some 82) (i := 2) (v := .slice aa na ca) rfl rfl (by kernel_rfl) (by kernel_rfl) (by kernel_rfl) (fun _ _ _ h => h) (Or.inl ⟨rfl, fun _ _ => rfl⟩) hS0 ?_
              simp only [Act.put, List.setIfInBounds_toArray, List.set_cons_succ, List.set_cons_zero]
              refine wpAnyH_takeD (some 83) (i := 3) (v := .slice ta nt ct) rfl rfl (by kernel_rfl) (by kernel_rfl) (by kernel_rfl) (fun _ _ _ h => h) (Or.inl ⟨rfl, fun _ _ => rfl⟩) hS0 ?_
              simp only [Act.put, List.setIfInBounds_toArray, List.set_cons_succ, List.set_cons_zero]
              refine wpAnyH_one (i := 4) (by kernel_rfl) (op_callR (R := fun v w' => (∃ a c, v = .tuple #[.slice a m c, .bool ok] ∧ Rd w' w'.heap.size a m G) ∧ V0.grownBy w' none) (some 84) 11 #[.agg #[.slice (some ⟨rb, 0, none⟩) 256 256, .slice (some ⟨gw, 0, none⟩) LW capw], .slice (some ⟨b6, 0, none⟩) 12 12, .slice aa na ca, .slice ta nt ct] rfl rfl rfl (exec_fn4 _ _ _ _ _ _ _ _ _ rfl rfl rfl rfl rfl) rkopen_enters (HROp.out V0 _ _ _ (grown_trans gv hS0) (hrv.up (Nat.le_refl _) hS0) (hwv.up (Nat.le_refl _) hS0) (hNv.grown hS0 (by simp))) ?_)
              rintro vv1 V1 ⟨⟨a3, c3, rfl, hP⟩, gg1⟩
              have hS1 := grown_trans hS0 (grown_some gg1)
              refine ⟨hS1, ?_⟩
              simp only [Act.put, List.setIfInBounds_toArray, List.set_cons_succ, List.set_cons_zero]
              refine wpAnyH_takeD (some 79) (i := 5) (v := .tuple #[.slice a3 m c3, .bool ok]) rfl rfl (by kernel_rfl) (by kernel_rfl) (by kernel_rfl) (fun _ _ _ h => h) (Or.inl ⟨rfl, fun _ _ => rfl⟩) hS1 ?_
              simp only [Act.put, List.setIfInBounds_toArray, List.set_cons_succ, List.set_cons_zero]
              refine wpAnyH_takeD (some 85) (i := 6) (v := .slice a3 m c3) rfl rfl (by kernel_rfl) (by kernel_rfl) (by kernel_rfl) (fun _ _ _ h => h) (Or.inl ⟨rfl, fun _ _ => by go_simp⟩) hS1 ?_
              simp only [Act.put, List.setIfInBounds_toArray, List.set_cons_succ, List.set_cons_zero]
              refine wpAnyH_takeD (some 86) (i := 7) (v := .bool ok) rfl rfl (by kernel_rfl) (by kernel_rfl) (by kernel_rfl) (fun _ _ _ h => h) (Or.inl ⟨rfl, fun _ _ => by go_simp⟩) hS1 ?_
              simp only [Act.put, List.setIfInBounds_toArray, List.set_cons_succ, List.set_cons_zero]
              refine wpAnyH_takeD (some 17) (i := 8) (v := .slice a3 m c3) rfl rfl (by kernel_rfl) (by kernel_rfl) (by kernel_rfl) (fun _ _ _ h => h) (Or.inl ⟨rfl, fun _ _ => rfl⟩) hS1 ?_
              simp only [Act.put, List.setIfInBounds_toArray, List.set_cons_succ, List.set_cons_zero]
              refine wpAnyH_takeD (some 18) (i := 9) (v := .bool ok) rfl rfl (by kernel_rfl) (by kernel_rfl) (by kernel_rfl) (fun _ _ _ h => h) (Or.inl ⟨rfl, fun _ _ => rfl⟩) hS1 ?_
              simp only [Act.put, List.setIfInBounds_toArray, List.set_cons_succ, List.set_cons_zero]
              refine wpAnyH_done (by kernel_rfl) ?_ _
              go_wp2_with fail
              go_meet
              case rel => exact ⟨a3, c3, rfl, rfl, hP, hS1⟩
            case rest =>
              obtain ⟨a3, c3, rfl, rfl, hP, g11⟩ := hcut
              have gd := grown_trans gv g11
              have hKd := hKv.grown g11 (by simp)
              have hrd := hrv.up (Nat.le_refl _) g11
              have hwd := hwv.up (Nat.le_refl _) g11
              have hNd := hNv.grown g11 (by simp)
              have hSd := hSv.up (Nat.le_refl _) g11
              have hOd := hOv.up (Nat.le_refl _) g11
              clear HV0 gv hKv hrv hwv hNv hSv hOv g11 HROp
              go_upto_region 14 with fail
              obtain ⟨V0, hV0⟩ : ∃ V0, V0 = wc.drew := ⟨_, rfl⟩
              have hv0 : wc.grownBy V0 none := by rw [hV0]; exact grown_drew (grown_refl wc none)
              have HV0 := Lib.hid hV0.symm
              have gv := grown_trans gd hv0
              have hKv := hKd.grown hv0 (by simp)
              have hrv := hrd.up (Nat.le_refl _) hv0
              have hwv := hwd.up (Nat.le_refl _) hv0
              have hNv := hNd.grown hv0 (by simp)
              have hSv := hSd.up (Nat.le_refl _) hv0
              have hOv := hOd.up (Nat.le_refl _) hv0
              have hPv := hP.up (Nat.le_refl _) hv0
              clear hV0 hv0 hKd hrd hwd hNd hSd hOd hP gd
              cases ok with
              | true =>
                refine wp_region_held (S := fun W => V0.grownBy W (none)) (by kernel_rfl) ?_
                change wpAnyH _ _ _ _ _ 34 #[false, false, false, false, false, false, false, false, false, false, false, false, false, false, false, false, false, false, false, false, false, false, false, false, false, false, false, false, false, false, false, false, false, false] _ (World.drew _)
                rw [HV0.out]
                have hS0 : V0.grownBy V0 (none) := grown_refl V0 _
                refine wpAnyH_takeD (some 87) (i := 0) (v := .slice a1 M c1) rfl rfl (by kernel_rfl) (by kernel_rfl) (by kernel_rfl) (fun _ _ _ h => h) (Or.inl ⟨rfl, fun _ _ => rfl⟩) hS0 ?_
                simp only [Act.put, List.setIfInBounds_toArray, List.set_cons_succ, List.set_cons_zero]
                refine wpAnyH_takeD (some 88) (i := 1) (v := .string (strOf M SF)) rfl rfl (by kernel_rfl) (by kernel_rfl) (by kernel_rfl) (fun _ _ _ h => h) (Or.inl ⟨rfl, fun W hW => run_convS 87 rfl rfl (hSv.up (Nat.le_refl _) hW) HSFl.out⟩) hS0 ?_
                simp only [Act.put, List.setIfInBounds_toArray, List.set_cons_succ, List.set_cons_zero]
                refine wpAnyH_takeD (some 89) (i := 2) (v := .agg #[.slice (some ⟨rb, 0, none⟩) 256 256, .slice (some ⟨gw, 0, none⟩) LW capw]) rfl rfl (by kernel_rfl) (by kernel_rfl) (by kernel_rfl) (fun _ _ _ h => h) (Or.inl ⟨rfl, fun W hW => run_key (hKv.grown hW (by simp)) rfl rfl⟩) hS0 ?_
                simp only [Act.put, List.setIfInBounds_toArray, List.set_cons_succ, List.set_cons_zero]
                refine wpAnyH_takeD (some 90) (i := 3) (v := .slice (some ⟨b6, 0, none⟩) 12 12) rfl rfl (by kernel_rfl) (by kernel_rfl) (by kernel_rfl) (fun _ _ _ h => h) (Or.inl ⟨rfl, fun W hW => ex_all12 6 rfl rfl⟩) hS0 ?_
                simp only [Act.put, List.setIfInBounds_toArray, List.set_cons_succ, List.set_cons_zero]
                refine wpAnyH_takeD (some 91) (i := 4) (v := .slice aa na ca) rfl rfl (by kernel_rfl) (by kernel_rfl) (by kernel_rfl) (fun _ _ _ h => h) (Or.inl ⟨rfl, fun _ _ => rfl⟩) hS0 ?_
                simp only [Act.put, List.setIfInBounds_toArray, List.set_cons_succ, List.set_cons_zero]
                refine wpAnyH_takeD (some 92) (i := 5) (v := .slice ta nt ct) rfl rfl (by kernel_rfl) (by kernel_rfl) (by kernel_rfl) (fun _ _ _ h => h) (Or.inl ⟨rfl, fun _ _ => rfl⟩) hS0 ?_
                simp only [Act.put, List.setIfInBounds_toArray, List.set_cons_succ, List.set_cons_zero]
                refine wpAnyH_one (i := 6) (by kernel_rfl) (op_callR (R := fun v w' => (∃ a c, v = .slice a M c ∧ Rd w' w'.heap.size a M SF) ∧ V0.grownBy w' none) (some 93) 12 #[.agg #[.slice (some ⟨rb, 0, none⟩) 256 256, .slice (some ⟨gw, 0, none⟩) LW capw], .slice (some ⟨b6, 0, none⟩) 12 12, .slice aa na ca, .slice ta nt ct] rfl rfl rfl (exec_fn4 _ _ _ _ _ _ _ _ _ rfl rfl rfl rfl rfl) rkseal_enters (HRSe.out V0 _ _ _ (grown_trans gv hS0) (hrv.up (Nat.le_refl _) hS0) (hwv.up (Nat.le_refl _) hS0) (hNv.grown hS0 (by simp))) ?_)
                rintro vv1 V1 ⟨⟨a4, c4, rfl, hQ⟩, gg1⟩
                have hS1 := grown_trans hS0 (grown_some gg1)
                refine ⟨hS1, ?_⟩
                simp only [Act.put, List.setIfInBounds_toArray, List.set_cons_succ, List.set_cons_zero]
                refine wpAnyH_one (i := 7) (by kernel_rfl) (op_yield (some 94) (v := .string (strOf M SF)) (w' := V1) rfl rfl rfl (run_convS 93 rfl rfl hQ HSFl.out) hS1 ?_)
                simp only [Act.put, List.setIfInBounds_toArray, List.set_cons_succ, List.set_cons_zero]
                refine wpAnyH_takeD (some 95) (i := 8) (v := .bool true) rfl rfl (by kernel_rfl) (by kernel_rfl) (by kernel_rfl) (fun _ _ _ h => h) (Or.inl ⟨rfl, fun _ _ => by go_simp⟩) hS1 ?_
                simp only [Act.put, List.setIfInBounds_toArray, List.set_cons_succ, List.set_cons_zero]
                refine wpAnyH_takeD (some 96) (i := 9) (v := .bool true) rfl rfl (by kernel_rfl) (by kernel_rfl) (by kernel_rfl) (fun _ _ _ h => h) (Or.inl ⟨rfl, fun _ _ => rfl⟩) hS1 ?_
                simp only [Act.put, List.setIfInBounds_toArray, List.set_cons_succ, List.set_cons_zero]
                refine wpAnyH_takeD (some 97) (i := 10) (v := .int .i64 0) rfl rfl (by kernel_rfl) (by kernel_rfl) (by kernel_rfl) (fun _ _ _ h => h) (Or.inl ⟨rfl, fun _ _ => rfl⟩) hS1 ?_
                simp only [Act.put, List.setIfInBounds_toArray, List.set_cons_succ, List.set_cons_zero]
                refine wpAnyH_takeD (some 98) (i := 11) (v := .bool true) rfl rfl (by kernel_rfl) (by kernel_rfl) (by kernel_rfl) (fun _ _ _ h => h) (Or.inl ⟨rfl, fun _ _ => by go_simp⟩) hS1 ?_
                simp only [Act.put, List.setIfInBounds_toArray, List.set_cons_succ, List.set_cons_zero]
                refine wpAnyH_takeD (some 99) (i := 12) (v := .bool true) rfl rfl (by kernel_rfl) (by kernel_rfl) (by kernel_rfl) (fun _ _ _ h => h) (Or.inl ⟨rfl, fun _ _ => rfl⟩) hS1 ?_
                simp only [Act.put, List.setIfInBounds_toArray, List.set_cons_succ, List.set_cons_zero]
                refine wpAnyH_takeD (some 100) (i := 13) (v := .bool true) rfl rfl (by kernel_rfl) (by kernel_rfl) (by kernel_rfl) (fun _ _ _ h => h) (Or.inl ⟨rfl, fun _ _ => rfl⟩) hS1 ?_
                simp only [Act.put, List.setIfInBounds_toArray, List.set_cons_succ, List.set_cons_zero]
                refine wpAnyH_takeD (some 101) (i := 14) (v := .slice a2 m c2) rfl rfl (by kernel_rfl) (by kernel_rfl) (by kernel_rfl) (fun _ _ _ h => h) (Or.inl ⟨rfl, fun _ _ => rfl⟩) hS1 ?_
                simp only [Act.put, List.setIfInBounds_toArray, List.set_cons_succ, List.set_cons_zero]
                refine wpAnyH_takeD (some 102) (i := 15) (v := .string (strOf m G)) rfl rfl (by kernel_rfl) (by kernel_rfl) (by kernel_rfl) (fun _ _ _ h => h) (Or.inl ⟨rfl, fun W hW => run_convS 101 rfl rfl (hOv.up (Nat.le_refl _) hW) HGl.out⟩) hS1 ?_
                simp only [Act.put, List.setIfInBounds_toArray, List.set_cons_succ, List.set_cons_zero]
                refine wpAnyH_takeD (some 103) (i := 16) (v := .slice a3 m c3) rfl rfl (by kernel_rfl) (by kernel_rfl) (by kernel_rfl) (fun _ _ _ h => h) (Or.inl ⟨rfl, fun _ _ => rfl⟩) hS1 ?_
                simp only [Act.put, List.setIfInBounds_toArray, List.set_cons_succ, List.set_cons_zero]
                refine wpAnyH_takeD (some 104) (i := 17) (v := .string (strOf m G)) rfl rfl (by kernel_rfl) (by kernel_rfl) (by kernel_rfl) (fun _ _ _ h => h) (Or.inl ⟨rfl, fun W hW => run_convS 103 rfl rfl (hPv.up (Nat.le_refl _) hW) HGl.out⟩) hS1 ?_
                simp only [Act.put, List.setIfInBounds_toArray, List.set_cons_succ, List.set_cons_zero]
                refine wpAnyH_takeD (some 105) (i := 18) (v := .bool true) rfl rfl (by kernel_rfl) (by kernel_rfl) (by kernel_rfl) (fun _ _ _ h => h) (Or.inl ⟨rfl, fun _ _ => by go_simp⟩) hS1 ?_
                simp only [Act.put, List.setIfInBounds_toArray, List.set_cons_succ, List.set_cons_zero]
                refine wpAnyH_takeD (some 106) (i := 19) (v := .bool true) rfl rfl (by kernel_rfl) (by kernel_rfl) (by kernel_rfl) (fun _ _ _ h => h) (Or.inl ⟨rfl, fun _ _ => rfl⟩) hS1 ?_
                simp only [Act.put, List.setIfInBounds_toArray, List.set_cons_succ, List.set_cons_zero]
                refine wpAnyH_takeD (some 107) (i := 20) (v := .bool true) rfl rfl (by kernel_rfl) (by kernel_rfl) (by kernel_rfl) (fun _ _ _ h => h) (Or.inl ⟨rfl, fun _ _ => rfl⟩) hS1 ?_
                simp only [Act.put, List.setIfInBounds_toArray, List.set_cons_succ, List.set_cons_zero]
                refine wpAnyH_takeD (some 108) (i := 21) (v := .int .i64 0) rfl rfl (by kernel_rfl) (by kernel_rfl) (by kernel_rfl) (fun _ _ _ h => h) (Or.inl ⟨rfl, fun _ _ => rfl⟩) hS1 ?_
                simp only [Act.put, List.setIfInBounds_toArray, List.set_cons_succ, List.set_cons_zero]
                refine wpAnyH_takeD (some 109) (i := 22) (v := .bool true) rfl rfl (by kernel_rfl) (by kernel_rfl) (by kernel_rfl) (fun _ _ _ h => h) (Or.inl ⟨rfl, fun _ _ => by go_simp⟩) hS1 ?_
                simp only [Act.put, List.setIfInBounds_toArray, List.set_cons_succ, List.set_cons_zero]
                refine wpAnyH_takeD (some 110) (i := 23) (v := .bool true) rfl rfl (by kernel_rfl) (by kernel_rfl) (by kernel_rfl) (fun _ _ _ h => h) (Or.inl ⟨rfl, fun _ _ => rfl⟩) hS1 ?_
                simp only [Act.put, List.setIfInBounds_toArray, List.set_cons_succ, List.set_cons_zero]
                refine wpAnyH_takeD (some 111) (i := 24) (v := .bool true) rfl rfl (by kernel_rfl) (by kernel_rfl) (by kernel_rfl) (fun _ _ _ h => h) (Or.inl ⟨rfl, fun _ _ => by go_simp⟩) hS1 ?_
                simp only [Act.put, List.setIfInBounds_toArray, List.set_cons_succ, List.set_cons_zero]
                refine wpAnyH_takeD (some 112) (i := 25) (v := .bool true) rfl rfl (by kernel_rfl) (by kernel_rfl) (by kernel_rfl) (fun _ _ _ h => h) (Or.inl ⟨rfl, fun _ _ => rfl⟩) hS1 ?_
                simp only [Act.put, List.setIfInBounds_toArray, List.set_cons_succ, List.set_cons_zero]
                refine wpAnyH_takeD (some 113) (i := 26) (v := .bool true) rfl rfl (by kernel_rfl) (by kernel_rfl) (by kernel_rfl) (fun _ _ _ h => h) (Or.inl ⟨rfl, fun _ _ => rfl⟩) hS1 ?_
                simp only [Act.put, List.setIfInBounds_toArray, List.set_cons_succ, List.set_cons_zero]
                refine wpAnyH_takeD (some 114) (i := 27) (v := .bool true) rfl rfl (by kernel_rfl) (by kernel_rfl) (by kernel_rfl) (fun _ _ _ h => h) (Or.inl ⟨rfl, fun _ _ => rfl⟩) hS1 ?_
                simp only [Act.put, List.setIfInBounds_toArray, List.set_cons_succ, List.set_cons_zero]
                refine wpAnyH_takeD (some 115) (i := 28) (v := .bool true) rfl rfl (by kernel_rfl) (by kernel_rfl) (by kernel_rfl) (fun _ _ _ h => h) (Or.inl ⟨rfl, fun _ _ => rfl⟩) hS1 ?_
                simp only [Act.put, List.setIfInBounds_toArray, List.set_cons_succ, List.set_cons_zero]
                refine wpAnyH_takeD (some 116) (i := 29) (v := undef) rfl rfl (by kernel_rfl) (by kernel_rfl) (by kernel_rfl) (fun _ _ _ h => h) (Or.inr ⟨rfl, rfl⟩) hS1 ?_
                simp only [Act.put, List.setIfInBounds_toArray, List.set_cons_succ, List.set_cons_zero]
                refine wpAnyH_takeD (some 117) (i := 30) (v := undef) rfl rfl (by kernel_rfl) (by kernel_rfl) (by kernel_rfl) (fun _ _ _ h => h) (Or.inr ⟨rfl, rfl⟩) hS1 ?_
                simp only [Act.put, List.setIfInBounds_toArray, List.set_cons_succ, List.set_cons_zero]
                refine wpAnyH_takeD (some 118) (i := 31) (v := .bool true) rfl rfl (by kernel_rfl) (by kernel_rfl) (by kernel_rfl) (fun _ _ _ h => h) (Or.inl ⟨rfl, fun _ _ => rfl⟩) hS1 ?_
                simp only [Act.put, List.setIfInBounds_toArray, List.set_cons_succ, List.set_cons_zero]
                refine wpAnyH_takeD (some 119) (i := 32) (v := .bool true) rfl rfl (by kernel_rfl) (by kernel_rfl) (by kernel_rfl) (fun _ _ _ h => h) (Or.inl ⟨rfl, fun _ _ => rfl⟩) hS1 ?_
                simp only [Act.put, List.setIfInBounds_toArray, List.set_cons_succ, List.set_cons_zero]
                refine wpAnyH_takeD (some 10) (i := 33) (v := .bool true) rfl rfl (by kernel_rfl) (by kernel_rfl) (by kernel_rfl) (fun _ _ _ h => h) (Or.inl ⟨rfl, fun _ _ => rfl⟩) hS1 ?_
                simp only [Act.put, List.setIfInBounds_toArray, List.set_cons_succ, List.set_cons_zero]
                refine wpAnyH_done (by kernel_rfl) ?_ _
                go_wp2_with fail
                go_ret
                exact ⟨⟨rfl, grown_trans gv hS1⟩⟩
              | false =>
                refine wp_region_held (S := fun W => V0.grownBy W (none)) (by kernel_rfl) ?_
                change wpAnyH _ _ _ _ _ 34 #[false, false, false, false, false, false, false, false, false, false, false, false, false, false, false, false, false, false, false, false, false, false, false, false, false, false, false, false, false, false, false, false, false, false] _ (World.drew _)
                rw [HV0.out]
                have hS0 : V0.grownBy V0 (none) := grown_refl V0 _
                refine wpAnyH_takeD (some 87) (i := 0) (v := .slice a1 M c1) rfl rfl (by kernel_rfl) (by kernel_rfl) (by kernel_rfl) (fun _ _ _ h => h) (Or.inl ⟨rfl, fun _ _ => rfl⟩) hS0 ?_
                simp only [Act.put, List.setIfInBounds_toArray, List.set_cons_succ, List.set_cons_zero]
                refine wpAnyH_takeD (some 88) (i := 1) (v := .string (strOf M SF)) rfl rfl (by kernel_rfl) (by kernel_rfl) (by kernel_rfl) (fun _ _ _ h => h) (Or.inl ⟨rfl, fun W hW => run_convS 87 rfl rfl (hSv.up (Nat.le_refl _) hW) HSFl.out⟩) hS0 ?_
                simp only [Act.put, List.setIfInBounds_toArray, List.set_cons_succ, List.set_cons_zero]
                refine wpAnyH_takeD (some 89) (i := 2) (v := .agg #[.slice (some ⟨rb, 0, none⟩) 256 256, .slice (some ⟨gw, 0, none⟩) LW capw]) rfl rfl (by kernel_rfl) (by kernel_rfl) (by kernel_rfl) (fun _ _ _ h => h) (Or.inl ⟨rfl, fun W hW => run_key (hKv.grown hW (by simp)) rfl rfl⟩) hS0 ?_
                simp only [Act.put, List.setIfInBounds_toArray, List.set_cons_succ, List.set_cons_zero]
                refine wpAnyH_takeD (some 90) (i := 3) (v := .slice (some ⟨b6, 0, none⟩) 12 12) rfl rfl (by kernel_rfl) (by kernel_rfl) (by kernel_rfl) (fun _ _ _ h => h) (Or.inl ⟨rfl, fun W hW => ex_all12 6 rfl rfl⟩) hS0 ?_
                simp only [Act.put, List.setIfInBounds_toArray, List.set_cons_succ, List.set_cons_zero]
                refine wpAnyH_takeD (some 91) (i := 4) (v := .slice aa na ca) rfl rfl (by kernel_rfl) (by kernel_rfl) (by kernel_rfl) (fun _ _ _ h => h) (Or.inl ⟨rfl, fun _ _ => rfl⟩) hS0 ?_
                simp only [Act.put, List.setIfInBounds_toArray, List.set_cons_succ, List.set_cons_zero]
                refine wpAnyH_takeD (some 92) (i := 5) (v := .slice ta nt ct) rfl rfl (by kernel_rfl) (by kernel_rfl) (by kernel_rfl) (fun _ _ _ h => h) (Or.inl ⟨rfl, fun _ _ => rfl⟩) hS0 ?_
                simp only [Act.put, List.setIfInBounds_toArray, List.set_cons_succ, List.set_cons_zero]
                refine wpAnyH_one (i := 6) (by kernel_rfl) (op_callR (R := fun v w' => (∃ a c, v = .slice a M c ∧ Rd w' w'.heap.size a M SF) ∧ V0.grownBy w' none) (some 93) 12 #[.agg #[.slice (some ⟨rb, 0, none⟩) 256 256, .slice (some ⟨gw, 0, none⟩) LW capw], .slice (some ⟨b6, 0, none⟩) 12 12, .slice aa na ca, .slice ta nt ct] rfl rfl rfl (exec_fn4 _ _ _ _ _ _ _ _ _ rfl rfl rfl rfl rfl) rkseal_enters (HRSe.out V0 _ _ _ (grown_trans gv hS0) (hrv.up (Nat.le_refl _) hS0) (hwv.up (Nat.le_refl _) hS0) (hNv.grown hS0 (by simp))) ?_)
                rintro vv1 V1 ⟨⟨a4, c4, rfl, hQ⟩, gg1⟩
                have hS1 := grown_trans hS0 (grown_some gg1)
                refine ⟨hS1, ?_⟩
                simp only [Act.put, List.setIfInBounds_toArray, List.set_cons_succ, List.set_cons_zero]
                refine wpAnyH_one (i := 7) (by kernel_rfl) (op_yield (some 94) (v := .string (strOf M SF)) (w' := V1) rfl rfl rfl (run_convS 93 rfl rfl hQ HSFl.out) hS1 ?_)
                simp only [Act.put, List.setIfInBounds_toArray, List.set_cons_succ, List.set_cons_zero]
                refine wpAnyH_takeD (some 95) (i := 8) (v := .bool true) rfl rfl (by kernel_rfl) (by kernel_rfl) (by kernel_rfl) (fun _ _ _ h => h) (Or.inl ⟨rfl, fun _ _ => by go_simp⟩) hS1 ?_
                simp only [Act.put, List.setIfInBounds_toArray, List.set_cons_succ, List.set_cons_zero]
                refine wpAnyH_takeD (some 96) (i := 9) (v := .bool true) rfl rfl (by kernel_rfl) (by kernel_rfl) (by kernel_rfl) (fun _ _ _ h => h) (Or.inl ⟨rfl, fun _ _ => rfl⟩) hS1 ?_
                simp only [Act.put, List.setIfInBounds_toArray, List.set_cons_succ, List.set_cons_zero]
                refine wpAnyH_takeD (some 97) (i := 10) (v := .int .i64 0) rfl rfl (by kernel_rfl) (by kernel_rfl) (by kernel_rfl) (fun _ _ _ h => h) (Or.inl ⟨rfl, fun _ _ => rfl⟩) hS1 ?_
                simp only [Act.put, List.setIfInBounds_toArray, List.set_cons_succ, List.set_cons_zero]
                refine wpAnyH_takeD (some 98) (i := 11) (v := .bool true) rfl rfl (by kernel_rfl) (by kernel_rfl) (by kernel_rfl) (fun _ _ _ h => h) (Or.inl ⟨rfl, fun _ _ => by go_simp⟩) hS1 ?_
                simp only [Act.put, List.setIfInBounds_toArray, List.set_cons_succ, List.set_cons_zero]
                refine wpAnyH_takeD (some 99) (i := 12) (v := .bool true) rfl rfl (by kernel_rfl) (by kernel_rfl) (by kernel_rfl) (fun _ _ _ h => h) (Or.inl ⟨rfl, fun _ _ => rfl⟩) hS1 ?_
                simp only [Act.put, List.setIfInBounds_toArray, List.set_cons_succ, List.set_cons_zero]
                refine wpAnyH_takeD (some 100) (i := 13) (v := .bool true) rfl rfl (by kernel_rfl) (by kernel_rfl) (by kernel_rfl) (fun _ _ _ h => h) (Or.inl ⟨rfl, fun _ _ => rfl⟩) hS1 ?_
                simp only [Act.put, List.setIfInBounds_toArray, List.set_cons_succ, List.set_cons_zero]
                refine wpAnyH_takeD (some 101) (i := 14) (v := .slice a2 m c2) rfl rfl (by kernel_rfl) (by kernel_rfl) (by kernel_rfl) (fun _ _ _ h => h) (Or.inl ⟨rfl, fun _ _ => rfl⟩) hS1 ?_
                simp only [Act.put, List.setIfInBounds_toArray, List.set_cons_succ, List.set_cons_zero]
                refine wpAnyH_takeD (some 102) (i := 15) (v := .string (strOf m G)) rfl rfl (by kernel_rfl) (by kernel_rfl) (by kernel_rfl) (fun _ _ _ h => h) (Or.inl ⟨rfl, fun W hW => run_convS 101 rfl rfl (hOv.up (Nat.le_refl _) hW) HGl.out⟩) hS1 ?_
                simp only [Act.put, List.setIfInBounds_toArray, List.set_cons_succ, List.set_cons_zero]
                refine wpAnyH_takeD (some 103) (i := 16) (v := .slice a3 m c3) rfl rfl (by kernel_rfl) (by kernel_rfl) (by kernel_rfl) (fun _ _ _ h => h) (Or.inl ⟨rfl, fun _ _ => rfl⟩) hS1 ?_
                simp only [Act.put, List.setIfInBounds_toArray, List.set_cons_succ, List.set_cons_zero]
                refine wpAnyH_takeD (some 104) (i := 17) (v := .string (strOf m G)) rfl rfl (by kernel_rfl) (by kernel_rfl) (by kernel_rfl) (fun _ _ _ h => h) (Or.inl ⟨rfl, fun W hW => run_convS 103 rfl rfl (hPv.up (Nat.le_refl _) hW) HGl.out⟩) hS1 ?_
                simp only [Act.put, List.setIfInBounds_toArray, List.set_cons_succ, List.set_cons_zero]
                refine wpAnyH_takeD (some 105) (i := 18) (v := .bool true) rfl rfl (by kernel_rfl) (by kernel_rfl) (by kernel_rfl) (fun _ _ _ h => h) (Or.inl ⟨rfl, fun _ _ => by go_simp⟩) hS1 ?_
                simp only [Act.put, List.setIfInBounds_toArray, List.set_cons_succ, List.set_cons_zero]
                refine wpAnyH_takeD (some 106) (i := 19) (v := .bool true) rfl rfl (by kernel_rfl) (by kernel_rfl) (by kernel_rfl) (fun _ _ _ h => h) (Or.inl ⟨rfl, fun _ _ => rfl⟩) hS1 ?_
                simp only [Act.put, List.setIfInBounds_toArray, List.set_cons_succ, List.set_cons_zero]
                refine wpAnyH_takeD (some 107) (i := 20) (v := .bool true) rfl rfl (by kernel_rfl) (by kernel_rfl) (by kernel_rfl) (fun _ _ _ h => h) (Or.inl ⟨rfl, fun _ _ => rfl⟩) hS1 ?_
                simp only [Act.put, List.setIfInBounds_toArray, List.set_cons_succ, List.set_cons_zero]
                refine wpAnyH_takeD (some 108) (i := 21) (v := .int .i64 140) rfl rfl (by kernel_rfl) (by kernel_rfl) (by kernel_rfl) (fun _ _ _ h => h) (Or.inl ⟨rfl, fun _ _ => rfl⟩) hS1 ?_
                simp only [Act.put, List.setIfInBounds_toArray, List.set_cons_succ, List.set_cons_zero]
                refine wpAnyH_takeD (some 109) (i := 22) (v := .bool false) rfl rfl (by kernel_rfl) (by kernel_rfl) (by kernel_rfl) (fun _ _ _ h => h) (Or.inl ⟨rfl, fun _ _ => by go_simp⟩) hS1 ?_
                simp only [Act.put, List.setIfInBounds_toArray, List.set_cons_succ, List.set_cons_zero]
                refine wpAnyH_takeD (some 110) (i := 23) (v := .bool false) rfl rfl (by kernel_rfl) (by kernel_rfl) (by kernel_rfl) (fun _ _ _ h => h) (Or.inl ⟨rfl, fun _ _ => rfl⟩) hS1 ?_
                simp only [Act.put, List.setIfInBounds_toArray, List.set_cons_succ, List.set_cons_zero]
                refine wpAnyH_takeD (some 111) (i := 24) (v := .bool true) rfl rfl (by kernel_rfl) (by kernel_rfl) (by kernel_rfl) (fun _ _ _ h => h) (Or.inl ⟨rfl, fun _ _ => by go_simp⟩) hS1 ?_
                simp only [Act.put, List.setIfInBounds_toArray, List.set_cons_succ, List.set_cons_zero]
                refine wpAnyH_takeD (some 112) (i := 25) (v := .bool true) rfl rfl (by kernel_rfl) (by kernel_rfl) (by kernel_rfl) (fun _ _ _ h => h) (Or.inl ⟨rfl, fun _ _ => rfl⟩) hS1 ?_
                simp only [Act.put, List.setIfInBounds_toArray, List.set_cons_succ, List.set_cons_zero]
                refine wpAnyH_takeD (some 113) (i := 26) (v := .bool true) rfl rfl (by kernel_rfl) (by kernel_rfl) (by kernel_rfl) (fun _ _ _ h => h) (Or.inl ⟨rfl, fun _ _ => rfl⟩) hS1 ?_
                simp only [Act.put, List.setIfInBounds_toArray, List.set_cons_succ, List.set_cons_zero]
                refine wpAnyH_takeD (some 114) (i := 27) (v := .bool false) rfl rfl (by kernel_rfl) (by kernel_rfl) (by kernel_rfl) (fun _ _ _ h => h) (Or.inl ⟨rfl, fun _ _ => rfl⟩) hS1 ?_
                simp only [Act.put, List.setIfInBounds_toArray, List.set_cons_succ, List.set_cons_zero]
                refine wpAnyH_takeD (some 115) (i := 28) (v := .bool false) rfl rfl (by kernel_rfl) (by kernel_rfl) (by kernel_rfl) (fun _ _ _ h => h) (Or.inl ⟨rfl, fun _ _ => rfl⟩) hS1 ?_
                simp only [Act.put, List.setIfInBounds_toArray, List.set_cons_succ, List.set_cons_zero]
                refine wpAnyH_takeD (some 116) (i := 29) (v := .int .i64 140) rfl rfl (by kernel_rfl) (by kernel_rfl) (by kernel_rfl) (fun _ _ _ h => h) (Or.inl ⟨rfl, fun _ _ => rfl⟩) hS1 ?_
                simp only [Act.put, List.setIfInBounds_toArray, List.set_cons_succ, List.set_cons_zero]
                refine wpAnyH_takeD (some 117) (i := 30) (v := .bool true) rfl rfl (by kernel_rfl) (by kernel_rfl) (by kernel_rfl) (fun _ _ _ h => h) (Or.inl ⟨rfl, fun _ _ => by go_simp⟩) hS1 ?_
                simp only [Act.put, List.setIfInBounds_toArray, List.set_cons_succ, List.set_cons_zero]
                refine wpAnyH_takeD (some 118) (i := 31) (v := .bool true) rfl rfl (by kernel_rfl) (by kernel_rfl) (by kernel_rfl) (fun _ _ _ h => h) (Or.inl ⟨rfl, fun _ _ => rfl⟩) hS1 ?_
                simp only [Act.put, List.setIfInBounds_toArray, List.set_cons_succ, List.set_cons_zero]
                refine wpAnyH_takeD (some 119) (i := 32) (v := .bool true) rfl rfl (by kernel_rfl) (by kernel_rfl) (by kernel_rfl) (fun _ _ _ h => h) (Or.inl ⟨rfl, fun _ _ => rfl⟩) hS1 ?_
                simp only [Act.put, List.setIfInBounds_toArray, List.set_cons_succ, List.set_cons_zero]
                refine wpAnyH_takeD (some 10) (i := 33) (v := .bool true) rfl rfl (by kernel_rfl) (by kernel_rfl) (by kernel_rfl) (fun _ _ _ h => h) (Or.inl ⟨rfl, fun _ _ => rfl⟩) hS1 ?_
                simp only [Act.put, List.setIfInBounds_toArray, List.set_cons_succ, List.set_cons_zero]
                refine wpAnyH_done (by kernel_rfl) ?_ _
                go_wp2_with fail
                go_ret
                exact ⟨⟨rfl, grown_trans gv hS1⟩⟩
      · have hn16 : n ≠ 16 := fun e => hN (Or.inl e)
        have hn32 : n ≠ 32 := fun e => hN (Or.inr e)
        have k16 : ((n : Int) != 16) = true := by rw [bne_iff_ne]; omega
        have k32 : ((n : Int) != 32) = true := by rw [bne_iff_ne]; omega
        have HS : Hid (∀ U, Calls Tryd.prog 7 #[.slice ka n c, .agg (cellsOf .u8 12 nf), .slice aa na ca, .slice ta nt ct] U fun e w' => e = .returned (.tuple #[.slice none 0 0, .int .i64 2]) ∧ U.grownBy w' none) := Lib.hid (fun U => gseal_err n c na ca nt ct ka aa ta nf U hn16 hn32)
        have HO : Hid (∀ U, Calls Tryd.prog 8 #[.slice ka n c, .agg (cellsOf .u8 12 nf), .slice aa na ca, .slice ta nt ct] U fun e w' => e = .returned (.tuple #[.slice none 0 0, .int .i64 2]) ∧ U.grownBy w' none) := Lib.hid (fun U => gopen_err n c na ca nt ct ka aa ta nf U hn16 hn32)
        clear ha4 ht4 hA hT hR hL hsz hfk hnf hfa hft hfh hN hn16 hn32
        go_enter Tryd.func3, Tryd.ntmps3
        go_wp2_with fail
        generalize (w.alloc (.cells (cellsOf .u8 12 nf) 23)).alloc (.cells (cellsOf .u8 16 fh) 24) = w0 at *
        rw [HB6.out, HB9.out]
        go_at_call 5
        with_reducible refine (HK.out _ g0).mono ?_
        rintro e w1 ⟨⟨rfl, g1⟩⟩
        have g01 := grown_trans g0 g1
        have hN1 := hN0.grown g1 (by simp)
        have hH1 := hH0.grown g1 (by simp)
        clear HK g0 g1 hN0 hH0
        go_wp2_with (refine wpList_load_row rfl 24 (.tmp 9) rfl b9 rfl 24 _ (0, 0) (.array 16 5) hH1.block (by kernel_rfl) rfl (by rw [cellsOf_size]; kernel_rfl) ?_)
        go_at_call 6
        with_reducible refine (HHash.out _ g01).mono ?_
        rintro e w2 ⟨rfl, g2⟩
        have g02 := grown_trans g01 g2
        have hN2 := hN1.grown g2 (by simp)
        have hH2 := hH1.grown g2 (by simp)
        have hN0 : Holds (w2.alloc (.cells #[.int .u8 0, .int .u8 0, .int .u8 0, .int .u8 0, .int .u8 0, .int .u8 0, .int .u8 0, .int .u8 0, .int .u8 0, .int .u8 0, .int .u8 0, .int .u8 0, .int .u8 0, .int .u8 0, .int .u8 0, .int .u8 0] 24)) w2.heap.size 24 .u8 16 (fun _ => 0) := holds_alloc w2 _ .u8 16 _ _ zero16
        have hbn := hN0.block
        have hX4 := hN0.setRow .u8 16 Y
        have g34 := grown_setRow_new (World.grownBy_alloc w2 (.cells #[.int .u8 0, .int .u8 0, .int .u8 0, .int .u8 0, .int .u8 0, .int .u8 0, .int .u8 0, .int .u8 0, .int .u8 0, .int .u8 0, .int .u8 0, .int .u8 0, .int .u8 0, .int .u8 0, .int .u8 0, .int .u8 0] 24) none) w2.heap.size (cellsOf .u8 16 Y) (Or.inl (Nat.le_refl _))
        have g04 := grown_trans g02 g34
        have hN4 := hN2.grown g34 (by simp)
        have hH4 := hH2.grown g34 (by simp)
        obtain ⟨w4, hw4⟩ : ∃ w4, w4 = (w2.alloc (.cells #[.int .u8 0, .int .u8 0, .int .u8 0, .int .u8 0, .int .u8 0, .int .u8 0, .int .u8 0, .int .u8 0, .int .u8 0, .int .u8 0, .int .u8 0, .int .u8 0, .int .u8 0, .int .u8 0, .int .u8 0, .int .u8 0] 24)).setRow w2.heap.size (cellsOf .u8 16 Y) := ⟨_, rfl⟩
        rw [← hw4] at hX4 g04 hN4 hH4
        have HW4 := Lib.hid hw4
        clear hN0 hw4 g34 g2 g01 g02 hN1 hH1 hN2 hH2 HHash
        go_upto_region 6 with (refine wpList_store_row rfl 24 (.tmp 11) (.tmp 31) rfl w2.heap.size _ rfl rfl 24 _ hbn (by rw [cellsOf_size]; kernel_rfl) rfl (cellsOf_all _ _ _) ?_)
        rw [← HW4.out]
        try simp only [Act.put]
        generalize w2.heap.size = b11 at *
        clear hbn HW4
        go_wp2_with (refine wpList_load_row rfl 23 (.tmp 6) rfl b6 rfl 23 _ (0, 0) (.array 12 5) hN4.block (by kernel_rfl) rfl (by rw [cellsOf_size]; kernel_rfl) ?_)
        go_at_call 7
        with_reducible refine (HS.out _).mono ?_
        rintro e w5 ⟨rfl, g5⟩
        have g05 := grown_trans g04 g5
        have hN5 := hN4.grown g5 (by simp)
        have hH5 := hH4.grown g5 (by simp)
        have hX5 := hX4.grown g5 (by simp)
        clear hN4 hH4 hX4 g04 g5 HS
        go_wp2_with (refine wpList_load_row rfl 23 (.tmp 6) rfl b6 rfl 23 _ (0, 0) (.array 12 5) hN5.block (by kernel_rfl) rfl (by rw [cellsOf_size]; kernel_rfl) ?_)
        go_at_call 8
        with_reducible refine (HO.out _).mono ?_
        rintro e w6 ⟨rfl, g6⟩
        have g06 := grown_trans g05 g6
        have hH6 := hH5.grown g6 (by simp)
        have hX6 := hX5.grown g6 (by simp)
        clear hN5 hH5 hX5 g05 g6 HO
        go_upto_region 8 with fail
        obtain ⟨V0, hV0⟩ : ∃ V0, V0 = w6.drew := ⟨_, rfl⟩
        have hv0 : w6.grownBy V0 none := by rw [hV0]; exact grown_drew (grown_refl w6 none)
        have HV0 := Lib.hid hV0.symm
        have gv := grown_trans g06 hv0
        have hHv := hH6.grown hv0 (by simp)
        have hXv := hX6.grown hv0 (by simp)
        clear hV0 hv0 hH6 hX6 g06
        go_cut [54] (fun s54 wx => s54 = .bool false ∧ V0.grownBy wx none)
        case first =>
          refine wp_region_held (S := fun W => V0.grownBy W (none)) (by kernel_rfl) ?_
          change wpAnyH _ _ _ _ _ 7 #[false, false, false, false, false, false, false] _ (World.drew _)
          rw [HV0.out]
          have hS0 : V0.grownBy V0 (none) := grown_refl V0 _
          refine wpAnyH_takeD (some 48) (i := 0) (v := .slice (some ⟨b11, 0, none⟩) 16 16) rfl rfl (by kernel_rfl) (by kernel_rfl) (by kernel_rfl) (fun _ _ _ h => h) (Or.inl ⟨rfl, fun W hW => ex_all 11 rfl rfl⟩) hS0 ?_
          simp only [Act.put, List.setIfInBounds_toArray, List.set_cons_succ, List.set_cons_zero]
          refine wpAnyH_takeD (some 49) (i := 1) (v := .string (strOf 16 Y)) rfl rfl (by kernel_rfl) (by kernel_rfl) (by kernel_rfl) (fun _ _ _ h => h) (Or.inl ⟨rfl, fun W hW => run_convS 48 rfl rfl ((hXv.grown hW (by simp)).rd _ (hXv.grown hW (by simp)).lt 16 (Nat.le_refl _)) HYl.out⟩) hS0 ?_
          simp only [Act.put, List.setIfInBounds_toArray, List.set_cons_succ, List.set_cons_zero]
          refine wpAnyH_takeD (some 50) (i := 2) (v := .slice (some ⟨b9, 0, none⟩) 16 16) rfl rfl (by kernel_rfl) (by kernel_rfl) (by kernel_rfl) (fun _ _ _ h => h) (Or.inl ⟨rfl, fun W hW => ex_all 9 rfl rfl⟩) hS0 ?_
          simp only [Act.put, List.setIfInBounds_toArray, List.set_cons_succ, List.set_cons_zero]
          refine wpAnyH_takeD (some 51) (i := 3) (v := .slice ta nt ct) rfl rfl (by kernel_rfl) (by kernel_rfl) (by kernel_rfl) (fun _ _ _ h => h) (Or.inl ⟨rfl, fun _ _ => rfl⟩) hS0 ?_
          simp only [Act.put, List.setIfInBounds_toArray, List.set_cons_succ, List.set_cons_zero]
          refine wpAnyH_one (i := 4) (by kernel_rfl) (op_callR (R := fun v w' => (∃ q, v = .slice (some ⟨q, 0, none⟩) 16 16 ∧ Fill w' q 16 Y) ∧ V0.grownBy w' none) (some 52) 9 #[.slice (some ⟨b9, 0, none⟩) 16 16, .slice ta nt ct] rfl rfl rfl (exec_fn2 _ _ _ _ _ rfl rfl rfl) rhash_enters (HRH.out V0 _ (grown_trans gv hS0) (hHv.grown hS0 (by simp))) ?_)
          rintro vv1 V1 ⟨⟨q, rfl, hQ⟩, gg1⟩
          have hS1 := grown_trans hS0 (grown_some gg1)
          refine ⟨hS1, ?_⟩
          simp only [Act.put, List.setIfInBounds_toArray, List.set_cons_succ, List.set_cons_zero]
          refine wpAnyH_one (i := 5) (by kernel_rfl) (op_yield (some 53) (v := .string (strOf 16 Y)) (w' := V1) rfl rfl rfl (run_convS 52 rfl rfl (hQ.rd (by decide) 16 (Nat.le_refl _)) HYl.out) hS1 ?_)
          simp only [Act.put, List.setIfInBounds_toArray, List.set_cons_succ, List.set_cons_zero]
          refine wpAnyH_takeD (some 54) (i := 6) (v := .bool false) rfl rfl (by kernel_rfl) (by kernel_rfl) (by kernel_rfl) (fun _ _ _ h => h) (Or.inl ⟨rfl, fun _ _ => by go_simp⟩) hS1 ?_
          simp only [Act.put, List.setIfInBounds_toArray, List.set_cons_succ, List.set_cons_zero]
          refine wpAnyH_done (by kernel_rfl) ?_ _
          go_wp2_with fail
          go_meet
          case rel => exact ⟨rfl, hS1⟩
        case rest =>
          obtain ⟨rfl, g7⟩ := hcut
          have g07 := grown_trans gv g7
          clear HV0 gv g7 hHv hXv HRH
          go_wp2_with fail
          go_ret
          exact ⟨⟨rfl, g07⟩⟩
end Go.Proofs.YtlfopcigbgfnlaaDoor
namespace Go.Proofs.YtlfopcigbgfnlaaDoor
open Go.ChangeShapes Go.WideShapes Go.ChangeAt Go.RowKit

theorem getElem?_of_take_drop {α : Type} (l : List α) (i : Nat) (x : α) (h : (l.drop i).take 1 = [x]) : l[i]? = some x := by
  have h1 : ((l.drop i).take 1)[0]? = some x := by rw [h]; rfl
  simpa using h1

/-- A table of numbers, read. -/
theorem ints_of_trod {H : Type} {enc : TypeId × Value → H} {P : Program} {w : World} {base : Nat} {spare : Nat → Bool} {held : Bool} {fuel : Nat} {t e : TypeId} {k : IntKind} {n : Nat} {cs : List Value} {d : DataW H} {ps : List MemPlace} (L : List Int)
    (ht : P.underlying t = some (.array n e)) (he : P.underlying e = some (.int k)) (hc : P.cellsOf e = 1) (hd : DataW.trod enc P w base spare held fuel t cs = some (d, ps)) (hx : d = .agg (L.map fun z => .lit (.int k z))) :
    ∀ i, i < n → cs[i]? = some (.int k (L.getD i 0)) := by
  subst hx
  obtain ⟨xs, m, rfl, hx, _, hn, hel⟩ := DataW.trod_array ht hd
  intro i hi
  have h1 := hel i hi
  rw [hc, Nat.mul_one] at h1
  have hxi : xs[i]? = some xs[i] := List.getElem?_eq_getElem (by omega)
  rw [hxi] at h1
  obtain ⟨q, e1, e2, _⟩ := DataW.trod_int he h1
  have h2 : L.map (fun z => (DataW.lit (.int k z) : DataW H)) = xs.map (·.1) := by
    have := congrArg Prod.fst hx
    simpa using this
  have h3 : (L.map (fun z => (DataW.lit (.int k z) : DataW H)))[i]? = some (.lit (.int k q)) := by
    rw [h2]; simp [hxi, e2]
  have h4 : L[i]? = some q := by
    rw [List.getElem?_map] at h3
    cases hL : L[i]? with
    | none => rw [hL] at h3; cases h3
    | some z => rw [hL] at h3; simpa using h3
  rw [List.getD, h4]
  exact getElem?_of_take_drop cs i _ e1

theorem own : ownKnob Tryd.prog.godebug = none := by kernel_rfl
theorem laidOut : laidOutB Tryd.prog = true := by kernel_rfl

end Go.Proofs.YtlfopcigbgfnlaaDoor
namespace Go.Proofs.YtlfopcigbgfnlaaDoor
open Go.ChangeShapes Go.WideShapes Go.ChangeAt Go.RowKit

section
variable {H : Type} {enc : TypeId × Value → H} {P : Program}

theorem open_arr8 {W : World} {t e : TypeId} {n : Nat} {r : Reach} {b0 : Nat} {v : Value} {d : DataW H} {ps : List MemPlace} (ht : P.underlying t = some (.array n e)) (he : P.underlying e = some (.int .u8)) (hc : P.cellsOf e = 1) (hn : P.cellsOf t = n)
    (hval : Value.okWide P W r b0 t v) (h : DataW.Trod enc P W 0 (fun _ => true) true t v d ps) : ∃ f, v = .agg (cellsOf .u8 n f) ∧ ∀ i, f i < 256 := by
  have hv := hval
  simp only [Value.okWide, ht] at hv
  obtain ⟨cs, rfl, hs, _⟩ := hv
  obtain ⟨fuel, hf⟩ := h
  obtain ⟨xs, m, rfl, _, hl, _, hel⟩ := DataW.trod_array ht hf
  have key : ∀ i, i < n → ∃ q : Nat, q < 256 ∧ cs[i]? = some (.int .u8 q) := fun i hi => by
    have h1 := hel i hi
    rw [hc, Nat.mul_one] at h1
    cases hx : xs[i]? with
    | none =>
      rw [hx] at h1
      have hlen : i < cs.toList.length := by
        have : cs.size = n := by rw [hs, hn]
        simp [this]; exact hi
      exfalso
      rename_i hxl
      have : xs.length ≤ i := by simpa using hx
      omega
    | some x =>
      rw [hx] at h1
      obtain ⟨q, e1, _, hw⟩ := DataW.trod_int he h1
      have h2 := getElem?_of_take_drop _ i _ e1
      simp [Lit.wf, IntKind.min, IntKind.max, IntKind.bits, IntKind.signed] at hw
      refine ⟨q.toNat, by omega, ?_⟩
      have e2 : ((q.toNat : Nat) : Int) = q := by omega
      rw [e2]
      simpa [Value.cells] using h2
  refine ⟨fun i => (match cs[i]? with | some (.int _ q) => q.toNat | _ => 0) % 256, ?_, fun i => Nat.mod_lt _ (by decide)⟩
  congr 1
  apply Array.ext
  · rw [cellsOf_size, hs, hn]
  · intro i h1 h2
    have hi : i < n := by rwa [hs, hn] at h1
    obtain ⟨q, hq, hcq⟩ := key i hi
    have e1 := cellsOf_get .u8 n (fun i => (match cs[i]? with | some (.int _ q) => q.toNat | _ => 0) % 256) i hi
    rw [Array.getElem?_eq_getElem h2] at e1
    rw [Array.getElem?_eq_getElem h1] at hcq
    injection e1 with e1
    injection hcq with hcq'
    rw [e1, hcq']
    simp only [Array.getElem?_eq_getElem h1, hcq']
    congr 1
    simp; omega

/-- A byte that comes in. -/
theorem open_u8 {W : World} {t : TypeId} {r : Reach} {b0 : Nat} {v : Value} {d : DataW H} {ps : List MemPlace} (ht : P.underlying t = some (.int .u8))
    (hval : Value.okWide P W r b0 t v) (h : DataW.Trod enc P W 0 (fun _ => true) true t v d ps) : ∃ n : Nat, v = .int .u8 n ∧ n < 256 := by
  obtain ⟨x, rfl, _, _, hx⟩ := open_int ht hval h
  simp [Lit.wf, IntKind.min, IntKind.max, IntKind.bits, IntKind.signed] at hx
  exact ⟨x.toNat, by rw [show ((x.toNat : Nat) : Int) = x by omega], by omega⟩

end
end Go.Proofs.YtlfopcigbgfnlaaDoor
namespace Go.Proofs.YtlfopcigbgfnlaaDoor
open Go.ChangeShapes Go.WideShapes Go.ChangeAt Go.RowKit

theorem gS : Tryd.prog.globalNamed "hailer/aes.sWords" = some 0 := by kernel_rfl
theorem tS : (Tryd.prog.globals[0]?).map (·.type) = some 89 := by kernel_rfl

def theLaidA : List (String × DataW Unit) := [("hailer/aes.sWords", Rows.laid_hailer_aes_sWords)]

set_option maxRecDepth 100000 in
theorem of_laidA {W : World} (h : laidMetH Tryd.prog theLaidA W) : LaidS W 0 ∧ 0 < W.heap.size := by
  rw [MakeChecks.laidMetH_plain _ _ _ (by kernel_rfl)] at h
  obtain ⟨ps, ⟨g0, t0, cs0, f0, p0, q0, hg0, ht0, hv0, hd0, _, _⟩, _, _⟩ := h
  obtain rfl := Option.some.inj (gS.symm.trans hg0)
  obtain rfl := Option.some.inj (tS.symm.trans ht0)
  have c0 := ints_of_trod (P := Tryd.prog) (n := 32) (e := 39) (k := .u64) (swL.map Int.ofNat) (by kernel_rfl) (by kernel_rfl) (by kernel_rfl) hd0 (by rfl)
  have hget : ∀ (l : List Nat) i, (l.map Int.ofNat).getD i 0 = ((l.getD i 0 : Nat) : Int) := fun l i => by
    by_cases h : i < l.length
    · simp [List.getD, h]
    · simp [List.getD, List.getElem?_eq_none (Nat.le_of_not_lt h)]
  have hat : ∀ i, i < 32 → W.cell? ⟨0, i, none⟩ = some (.int .u64 (SW i)) := fun i hi => by
    rw [World.var?_cell hg0 hv0 i]
    have := c0 i hi
    rw [hget, Array.getElem?_toList] at this
    exact this
  exact ⟨⟨hat⟩, World.block_lt_of_cell? W _ (hat 0 (by decide))⟩

/-- The door's own heap meets the condition. -/
theorem door_metA (os : Os) (args : Array Value) : laidMetH Tryd.prog theLaidA ((World.doorLaid Tryd.prog 400 os).forCall (fun _ _ => 0) ⟨#[], args, []⟩).memory :=
  laidMetH_of_parts3 (fuel := 8) (laidMet_of_run' 8 (by kernel_rfl) (by kernel_rfl)) (by kernel_rfl) (by kernel_rfl)

end Go.Proofs.YtlfopcigbgfnlaaDoor
namespace Go.Proofs.YtlfopcigbgfnlaaDoor
open Go.ChangeShapes Go.WideShapes Go.ChangeAt Go.RowKit

set_option maxRecDepth 100000 in
theorem gcmSeals_lifted (os : Os) (started : os.Started) (H : Type) (enc : TypeId × Value → H) :
    ReturnsInHanded {} Tryd.checked os 3 .any (fun w args => (Rows.gcmSealsSpec.pre enc Tryd.prog Tryd.f3 [] false w args ∧ laidMetH Tryd.prog theLaidA w) ∧ sizedMet enc Tryd.prog Tryd.f3 (OpenSpec.ofChange Rows.gcmSealsSpec) false w args)
      (Rows.gcmSealsSpec.post enc Tryd.prog Tryd.f3 false true false false) := by
  refine returnsInHanded_of_change_and (C := Tryd.checked) (X := fun w _ => laidMetH Tryd.prog theLaidA w) (fun _ _ _ hh h => h.of_heap hh) own started (by kernel_rfl) Tryd.func3
    (ChangeSpec.witness_shaped (enc := enc) (C := Tryd.checked) (os := os) (X := fun w _ => laidMetH Tryd.prog theLaidA w) false (World.doorLaid Tryd.prog 400 os) #[.slice none 0 0, .agg (cellsOf .u8 12 (fun _ => 0)), .slice none 0 0, .slice none 0 0, .agg (cellsOf .u8 16 (fun _ => 0))] 8 rfl (World.shaped_of_RefB (by kernel_rfl) (by kernel_rfl)) (by kernel_rfl) (by kernel_rfl) (by kernel_rfl) (door_metA os _)) ?_
  intro W base args ds gs before hval0 hW _ _ hL _
  have hval : ∀ (j : Nat) t v, Tryd.f3.params[j]? = some t → args[j]? = some v → Value.okWide Tryd.prog W .any base t v := hval0
  have hW' := hW
  obtain ⟨p, q, hA0, hV, rfl, _, _⟩ := hW
  have hA : DataW.TrodAll enc Tryd.prog W 0 (fun _ => true) true Tryd.f3.params.toList args.toList ds p := hA0
  rw [Tryd.params3] at hA hval
  obtain ⟨v0, vs0, d0, ds0, p0, q0, hv0, rfl, rfl, h0, hA1⟩ := trodAll_cons hA
  obtain ⟨v1, vs1, d1, ds1, p1, q1, rfl, rfl, rfl, h1, hA2⟩ := trodAll_cons hA1
  obtain ⟨v2, vs2, d2, ds2, p2, q2, rfl, rfl, rfl, h2, hA3⟩ := trodAll_cons hA2
  obtain ⟨v3, vs3, d3, ds3, p3, q3, rfl, rfl, rfl, h3, hA4⟩ := trodAll_cons hA3
  obtain ⟨v4, vs4, d4, ds4, p4, q4, rfl, rfl, rfl, h4, hA5⟩ := trodAll_cons hA4
  obtain ⟨rfl, rfl, rfl⟩ := trodAll_nil hA5
  obtain ⟨l⟩ := args
  simp only at hv0
  subst hv0
  obtain ⟨rfl, rfl⟩ := trodVars_none hV
  obtain ⟨a0, n0, c0, f0, rfl, hc0, hR0, hf0⟩ := open_bytes (P := Tryd.prog) under_bytes (by kernel_rfl) (by kernel_rfl) (hval 0 22 v0 rfl rfl) h0
  obtain ⟨f1, rfl, hf1⟩ := open_arr8 (P := Tryd.prog) (n := 12) (e := 5) (by kernel_rfl) (by kernel_rfl) (by kernel_rfl) (by kernel_rfl) (hval 1 23 v1 rfl rfl) h1
  obtain ⟨a2, n2, c2, f2, rfl, hc2, hR2, hf2⟩ := open_bytes (P := Tryd.prog) under_bytes (by kernel_rfl) (by kernel_rfl) (hval 2 22 v2 rfl rfl) h2
  obtain ⟨a3, n3, c3, f3, rfl, hc3, hR3, hf3⟩ := open_bytes (P := Tryd.prog) under_bytes (by kernel_rfl) (by kernel_rfl) (hval 3 22 v3 rfl rfl) h3
  obtain ⟨f4, rfl, hf4⟩ := open_arr8 (P := Tryd.prog) (n := 16) (e := 5) (by kernel_rfl) (by kernel_rfl) (by kernel_rfl) (by kernel_rfl) (hval 4 24 v4 rfl rfl) h4
  obtain ⟨hLS, hsz⟩ := of_laidA hL
  clear hA0 hval0
  refine (gcmSeals_any n0 c0 n2 c2 n3 c3 a0 a2 a3 f0 f1 f2 f3 f4 W hLS hsz hR0 hR2 hR3 hc2 hc3 hf0 hf1 hf2 hf3 hf4).mono fun e W' ⟨⟨he, hg⟩⟩ => ?_
  subst he
  exact ⟨_, rfl, law_post laidOut hW' rfl rfl (tb := 4) rfl Tryd.underlying4 (by
      rw [Tryd.params3]
      intro t ht
      have hall : ([22, 23, 22, 22, 24].all fun u => Tryd.prog.readableRec u && decide (u < Tryd.prog.types.size)) = true := by kernel_rfl
      have := List.all_eq_true.1 hall t (by simpa using ht)
      simpa using this) hg⟩

theorem gcmSeals_holds : Rows.GcmSealsSaid :=
  OpenClaim.holds_of_wide 3 Tryd.f3 rfl rfl rfl rfl rfl rfl rfl ⟨rfl, rfl, rfl, rfl, rfl⟩ rfl rfl rfl rfl rfl (by kernel_rfl) Tryd.func3 (by kernel_rfl)
    (of_decide_eq_true (by kernel_rfl)) (by unfold Func.isWrapper; first | (rw [if_pos (by decide +kernel)]; kernel_rfl) | (rw [if_neg (by decide +kernel)]; exact ⟨rfl, rfl⟩))
    (fun os started H enc _ => gcmSeals_lifted os started H enc)

theorem gcmSeals_card_holds : Rows.GcmSealsCardSaid :=
  Claim7.holds_tied_plain_at .later [] [.data] true _ false
    gcmSeals_holds (fun _ h => by cases h) (by kernel_rfl) (fun _ h => by cases h) gcmSeals_row_tie rfl ⟨rfl, rfl⟩ (by kernel_rfl) rfl
    (fun f fn hf hfn => by
      obtain rfl : f = 3 := Option.some.inj ((show Tryd.prog.funcNamed "hailer/hailerlaw05.GcmSeals" = some 3 by kernel_rfl).symm.trans hf) |>.symm
      obtain rfl : fn = Tryd.f3 := (Option.some.inj (Tryd.func3.symm.trans hfn)).symm
      exact ⟨by kernel_rfl, fun j t ht => by
        rw [Tryd.params3] at ht
        have hm : t ∈ [22, 23, 22, 22, 24] := by simpa using Array.mem_of_getElem? ht
        have hall : ([22, 23, 22, 22, 24].all fun u => !Tryd.prog.wantsStandIn u) = true := by kernel_rfl
        exact (show Tryd.prog.wantsStandIn t = false by simpa using List.all_eq_true.1 hall t hm)⟩)
    (by kernel_rfl)

end Go.Proofs.YtlfopcigbgfnlaaDoor
