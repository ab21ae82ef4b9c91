/-
  A key's columns, as the document has them.
-/
import Derived.Test.YtapmpjmhcloejaaDoorRefAes1
import Derived.Test.YtapmpjmhcloejaaDoorAesSpec
import Derived.Test.YtapmpjmhcloejaaDoorAppTail
import Derived.Test.YtapmpjmhcloejaaDoorMake
import Derived.StillTailTactics
import Derived.Deep.DeepCutAuto
namespace Go.Proofs.YtapmpjmhcloejaaDoor
open Go.RowKit

set_option maxRecDepth 100000
set_option maxHeartbeats 2000000

theorem div_mid (N i : Nat) (hN : N = 4 ∨ N = 8) (h : i % N ≠ 0) : i / N = (i - 1) / N := by rcases hN with rfl | rfl <;> omega
theorem div_first (N i : Nat) (hN : N = 4 ∨ N = 8) (hi : 0 < i) (h : i % N = 0) : i / N = (i - 1) / N + 1 := by rcases hN with rfl | rfl <;> omega

/-- The document's columns, given back. -/
structure ColsR (w : World) (N : Nat) (key : Nat → Nat) (e : Ending) (w' : World) : Prop where
  ex : ∃ g cap, e = .returned (.slice (some ⟨g, 0, none⟩) (16 * (N + 7) : Nat) cap) ∧ OwnR w' g (16 * (N + 7)) cap (keyW N key) ∧ w.heap.size ≤ g ∧ w.grownBy w' none

theorem rcols_any (N L c rb : Nat) (a : Option Addr) (key : Nat → Nat) (w : World) (hN : N = 4 ∨ N = 8) (hLN : L = 4 * N) (hR : Rd w w.heap.size a L key) (hk : ∀ i, key i < 256) (hB : Rd w w.heap.size (some ⟨rb, 0, none⟩) 256 sB) :
    Calls Tryd.prog 11 #[.slice (some ⟨rb, 0, none⟩) 256 256, .slice a L c] w (ColsR w N key) := by
  have ho0 := ownR_empty w
  have ga := World.grownBy_alloc w (.cells #[] 5) none
  have hRa := hR.up (Nat.le_refl _) ga
  obtain ⟨v, w2, hap, ⟨ex⟩⟩ := app_run c 22 ho0 hRa (by omega)
  obtain ⟨gc, cap, rfl, ho2, _, g2, hgc⟩ := ex
  rw [Nat.zero_add] at hap ho2
  have ho2' : OwnR w2 gc L cap key := ho2.congr (fun i hi => by unfold cat; rw [if_neg (by omega), Nat.sub_zero])
  have hg2 : w.grownBy w2 none := grown_new ga g2 (Nat.le_refl _)
  have hgc0 : w.heap.size ≤ gc := by have := World.size_alloc w (.cells #[] 5); omega
  have n1 : (4 : Int) ≤ N := by omega
  have n2 : (N : Int) ≤ 8 := by omega
  have q1 : ((L : Int) / 4) = (N : Int) := by omega
  have HAP := Lib.hid hap
  have HL := Lib.hid hLN
  have HN := Lib.hid hN
  have hB2 := hB.up (Nat.le_refl _) hg2
  have i0 : (0 : Int) ≤ L := by omega
  have HRk := Lib.hid hk
  clear hap ho2 ho0 hRa ga hgc hLN hN g2 hR hk
  go_enter Tryd.func11, Tryd.ntmps11
  go_wp2_with (at_builtin; refine wpList_append_run rfl (.tmp 14) (.tmp 15) 22 22 rfl (.slice (some ⟨w.heap.size, 0, none⟩) 0 0) (.slice a L c) _ _ rfl rfl HAP.out ?_)
  go_loopw [6, 7, 8, 9, 10] (fun u6 u7 u8 _ _ wr => ∃ i g cap : Nat, N ≤ i ∧ i ≤ 4 * (N + 7) ∧ u8 = .int .i64 i ∧ u7 = .int .u8 (rc ((i - 1) / N) : Nat) ∧ u6 = .slice (some ⟨g, 0, none⟩) (4 * i : Nat) cap ∧ OwnR wr g (4 * i) cap (keyW N key) ∧ w.heap.size ≤ g ∧ w.grownBy wr none)
    (fun _ _ u8 _ _ _ => 4 * (N + 7) - (intOf u8).toNat)
  case atStart =>
    have hN := HN.out
    have hL := HL.out
    exact ⟨N, gc, cap, by omega, by omega, rfl, by rw [show (N - 1) / N = 0 from Nat.div_eq_of_lt (by omega)]; rfl, by rw [hL], by rw [← hL]; exact ho2'.congr (fun x hx => (keyW_own N key x (by omega)).symm), hgc0, hg2⟩
  case round =>
    clear ho2' hgc0 hg2 HAP
    obtain ⟨i, g, cap, hi1, hi2, rfl, rfl, rfl, ho, hg0, hgr⟩ := hrel
    by_cases hlt : i < 4 * (N + 7)
    · have j1 : (i : Int) < 4 * ((N : Int) + 7) := by omega
      have j2 : (4 : Int) ≤ i := by omega
      have j3 : (i : Int) ≤ 60 := by omega
      have hle := ho.le
      have j4 : (4 * (i : Int)) ≤ cap := by omega
      have e4 : 4 * i - (4 * i - 4) = 4 := by omega
      have hot0 := ownR_empty wr
      have gta := World.grownBy_alloc wr (.cells #[] 5) none
      have hz0 := World.size_alloc wr (.cells #[] 5)
      obtain ⟨K, hK⟩ : ∃ K, K = keyW N key := ⟨_, rfl⟩
      rw [← hK] at ho
      have hoa := ho.grown gta (by simp)
      have hRt : Rd (wr.alloc (.cells #[] 5)) (wr.alloc (.cells #[] 5)).heap.size (some ⟨g, 4 * i - 4, none⟩) 4 (fun k => K (4 * (i - 1) + k)) := ⟨fun _ => ⟨g, 4 * i - 4, rfl, hoa.lt, fun k hk => by
        have := hoa.cell (4 * i - 4 + k) (by omega)
        rw [this, show 4 * (i - 1) + k = 4 * i - 4 + k by omega]⟩⟩
      obtain ⟨vt, w3, hapt, ⟨ext⟩⟩ := app_run (cap - (4 * i - 4)) 22 hot0 hRt (by omega)
      obtain ⟨gt, capt, rfl, hot, _, g3, hgt⟩ := ext
      rw [Nat.zero_add] at hapt hot
      have hot' : OwnR w3 gt 4 capt (fun k => K (4 * (i - 1) + k)) := hot.congr (fun k hk => by unfold cat; rw [if_neg (by omega), Nat.sub_zero])
      have hg3 : w.grownBy w3 none := grown_new (grown_trans hgr gta) g3 hgr.size
      have ho3 := hoa.grown g3 (by have := ho.lt; simp; omega)
      have hgtg : gt ≠ g := by have := ho.lt; omega
      have HAPT : Hid ((Builtin.append_ #[22, 22] 22 #[.slice (some ⟨wr.heap.size, 0, none⟩) 0 0, .slice (some ⟨g, 4 * i - 4, none⟩) (4 * i - (4 * i - 4)) (cap - (4 * i - 4))]).run Tryd.prog (wr.alloc (.cells #[] 5)) = .ok (.slice (some ⟨gt, 0, none⟩) 4 capt) w3) := by
        show _ = _
        rw [e4]; exact hapt
      have HK := Lib.hid hK
      have hB3 := hB.up (Nat.le_refl _) hg3
      have hi0 : 0 < i := by omega
      have hgt0 : w.heap.size ≤ gt := by have := hgr.size; omega
      clear e4 hapt hot hRt hoa hot0 gta g3 hgt hz0 hK ho hgr
      obtain ⟨cc, hcc⟩ : ∃ cc, cc = rc ((i - 1) / N) := ⟨_, rfl⟩
      rw [← hcc]
      have hcc8 : cc < 256 := by rw [hcc]; exact rc_lt _
      have HCC := Lib.hid hcc
      clear hcc
      obtain ⟨r, hr⟩ : ∃ r, r = i % N := ⟨_, rfl⟩
      have er : (i : Int).tmod (N : Int) = (r : Int) := by rw [Int.tmod_eq_emod_of_nonneg (by omega), hr]; norm_cast
      have HR := Lib.hid hr
      have hN0 : (N : Int) ≠ 0 := by omega
      have hN1 : ((N : Int) == 0) = false := by rw [beq_eq_false_iff_ne]; exact hN0
      clear hr
      have hKlt : ∀ x, K x < 256 := fun x => by rw [HK.out]; exact keyW_lt N key HRk.out x
      obtain ⟨t0, ht0⟩ : ∃ t, t = K (4 * (i - 1) + 0) := ⟨_, rfl⟩
      have ct0 : w3.drew.cell? ⟨gt, 0, none⟩ = some (.int .u8 (t0 : Nat)) := by rw [ht0]; exact hot'.cell 0 (by decide)
      have lt0 : t0 < 256 := by rw [ht0]; exact hKlt _
      have bt0 : w3.drew.cell? ⟨rb, t0, none⟩ = some (.int .u8 (sB t0 : Nat)) := by
        obtain ⟨tb, o, e1, _, e2⟩ := hB3.ex (by decide)
        cases e1
        have := e2 t0 lt0
        rw [Nat.zero_add] at this
        exact this
      have jt0 : (t0 : Int) < 256 := by omega
      have HT0 := Lib.hid ht0
      clear ht0
      obtain ⟨t1, ht1⟩ : ∃ t, t = K (4 * (i - 1) + 1) := ⟨_, rfl⟩
      have ct1 : w3.drew.cell? ⟨gt, 1, none⟩ = some (.int .u8 (t1 : Nat)) := by rw [ht1]; exact hot'.cell 1 (by decide)
      have lt1 : t1 < 256 := by rw [ht1]; exact hKlt _
      have bt1 : w3.drew.cell? ⟨rb, t1, none⟩ = some (.int .u8 (sB t1 : Nat)) := by
        obtain ⟨tb, o, e1, _, e2⟩ := hB3.ex (by decide)
        cases e1
        have := e2 t1 lt1
        rw [Nat.zero_add] at this
        exact this
      have jt1 : (t1 : Int) < 256 := by omega
      have HT1 := Lib.hid ht1
      clear ht1
      obtain ⟨t2, ht2⟩ : ∃ t, t = K (4 * (i - 1) + 2) := ⟨_, rfl⟩
      have ct2 : w3.drew.cell? ⟨gt, 2, none⟩ = some (.int .u8 (t2 : Nat)) := by rw [ht2]; exact hot'.cell 2 (by decide)
      have lt2 : t2 < 256 := by rw [ht2]; exact hKlt _
      have bt2 : w3.drew.cell? ⟨rb, t2, none⟩ = some (.int .u8 (sB t2 : Nat)) := by
        obtain ⟨tb, o, e1, _, e2⟩ := hB3.ex (by decide)
        cases e1
        have := e2 t2 lt2
        rw [Nat.zero_add] at this
        exact this
      have jt2 : (t2 : Int) < 256 := by omega
      have HT2 := Lib.hid ht2
      clear ht2
      obtain ⟨t3, ht3⟩ : ∃ t, t = K (4 * (i - 1) + 3) := ⟨_, rfl⟩
      have ct3 : w3.drew.cell? ⟨gt, 3, none⟩ = some (.int .u8 (t3 : Nat)) := by rw [ht3]; exact hot'.cell 3 (by decide)
      have lt3 : t3 < 256 := by rw [ht3]; exact hKlt _
      have bt3 : w3.drew.cell? ⟨rb, t3, none⟩ = some (.int .u8 (sB t3 : Nat)) := by
        obtain ⟨tb, o, e1, _, e2⟩ := hB3.ex (by decide)
        cases e1
        have := e2 t3 lt3
        rw [Nat.zero_add] at this
        exact this
      have jt3 : (t3 : Int) < 256 := by omega
      have HT3 := Lib.hid ht3
      clear ht3
      go_upto_if 37 with (at_builtin; refine wpList_append_run rfl (.tmp 25) (.tmp 32) 22 22 rfl (.slice (some ⟨wr.heap.size, 0, none⟩) 0 0) (.slice (some ⟨g, 4 * i - 4, none⟩) (4 * i - (4 * i - 4)) (cap - (4 * i - 4))) _ _ rfl rfl HAPT.out ?_)
      go_cut [7, 9] (fun s7 s9 wx => ∃ (gt capt : Nat), s9 = .slice (some ⟨gt, 0, none⟩) 4 capt ∧ s7 = .int .u8 (rc (i / N) : Nat) ∧ (∀ k, k < 4 → wx.cell? ⟨gt, k, none⟩ = some (.int .u8 (kTurn N K i cc k : Nat))) ∧ OwnR wx g (4 * i) cap K ∧ w.grownBy wx none ∧ gt ≠ g)
      case first =>
        have HOT := Lib.hid hot'
        have HO3 := Lib.hid ho3
        have HG3 := Lib.hid hg3
        clear HAPT hot' ho3 hg3 hB hB2
        by_cases hr0 : r = 0
        · subst hr0
          have hrc : rc (i / N) = tms cc 2 := by
            rw [tms2 cc hcc8, HCC.out]
            have : i / N = (i - 1) / N + 1 := div_first N i HN.out hi0 HR.out.symm
            rw [this]; rfl
          have hT := times_any cc 2
          have HTm : Hid (∀ W, Calls Tryd.prog 21 #[.int .u8 cc, .int .u8 2] W fun e w' => e = .returned (.int .u8 (tms cc 2 : Nat)) ∧ W = w') := Lib.hid (fun W => times_any cc 2 W hcc8 (by decide))
          have hkt : ∀ k, kTurn N K i cc k = sB (K (4 * (i - 1) + (k + 1) % 4)) ^^^ (if k = 0 then cc else 0) := fun k => by unfold kTurn; rw [if_pos HR.out.symm]
          have hx := bits_xor_u8 (sB t1) cc (sB_lt _) hcc8
          have Hkt := Lib.hid hkt
          have HRC := Lib.hid hrc
          have hoD := HO3.out.grown (grown_drew (grown_refl w3 none)) (by simp)
          have hgD := grown_drew HG3.out
          clear hkt hrc hT
          generalize tms cc 2 = c2 at *
          go_wp2_with fail
          refine wp_region_still_tail 26 (by kernel_rfl) (by kernel_rfl) ?_
          change wpStill _ _ w3.drew (fun a' => wpList _ _ _ _ a' w3.drew) _ _
          generalize w3.drew = w3' at *
          simp only [List.take_succ_cons, List.take_zero, List.drop_succ_cons, List.drop_zero]
          repeat still_step
          refine wpStill_nil ?_
          go_wp2_with (go_at_call 21; (with_reducible refine (HTm.out _).mono ?_); rintro e w' ⟨rfl, rfl⟩)
          have bb := heap_alloc_new w3' (.cells #[.int .u8 (sB t1 ^^^ cc : Nat), .int .u8 (sB t2 : Nat), .int .u8 (sB t3 : Nat), .int .u8 (sB t0 : Nat)] 5)
          have gb := World.grownBy_alloc w3' (.cells #[.int .u8 (sB t1 ^^^ cc : Nat), .int .u8 (sB t2 : Nat), .int .u8 (sB t3 : Nat), .int .u8 (sB t0 : Nat)] 5) none
          go_meet
          case rel =>
            refine ⟨w3'.heap.size, 4, rfl, by rw [HRC.out], fun k hk => ?_, hoD.grown gb (by simp), grown_trans hgD gb, by have := hoD.lt; omega⟩
            rw [cell_of_row _ _ _ _ _ _ bb, Hkt.out]
            obtain rfl | rfl | rfl | rfl : k = 0 ∨ k = 1 ∨ k = 2 ∨ k = 3 := by omega
            · rw [show (0 + 1) % 4 = 1 from rfl, ← HT1.out, if_pos rfl]; rfl
            · rw [show (1 + 1) % 4 = 2 from rfl, ← HT2.out, if_neg (by decide), Nat.xor_zero]; rfl
            · rw [show (2 + 1) % 4 = 3 from rfl, ← HT3.out, if_neg (by decide), Nat.xor_zero]; rfl
            · rw [show (3 + 1) % 4 = 0 from rfl, ← HT0.out, if_neg (by decide), Nat.xor_zero]; rfl
        · have hrc : rc (i / N) = cc := by
            rw [HCC.out]
            have : i / N = (i - 1) / N := div_mid N i HN.out (by rw [← HR.out]; exact hr0)
            rw [this]
          have hr1 : ((r : Int) == 0) = false := by rw [beq_eq_false_iff_ne]; omega
          have hrn : ¬ i % N = 0 := by rw [← HR.out]; exact hr0
          have Hrn := Lib.hid hrn
          have HRC := Lib.hid hrc
          obtain ⟨m, hm⟩ : ∃ m, m = i % 8 := ⟨_, rfl⟩
          have em : (i : Int).tmod 8 = (m : Int) := by rw [Int.tmod_eq_emod_of_nonneg (by omega)]; omega
          have HM := Lib.hid hm
          clear hrc hrn hr0 hm
          by_cases h8 : N = 8 ∧ m = 4
          · have j8 : ((N : Int) == 8) = true := by rw [beq_iff_eq]; omega
            have j4' : ((m : Int) == 4) = true := by rw [beq_iff_eq]; omega
            have hkt : ∀ k, kTurn N K i cc k = sB (K (4 * (i - 1) + k)) := fun k => by unfold kTurn; rw [if_neg Hrn.out, if_pos ⟨h8.1, by rw [← HM.out]; exact h8.2⟩]
            have Hkt := Lib.hid hkt
            have hoD := HO3.out.grown (grown_drew (grown_refl w3 none)) (by simp)
            have hgD := grown_drew HG3.out
            clear hkt h8
            go_wp2_with fail
            refine wp_region_still_tail 24 (by kernel_rfl) (by kernel_rfl) ?_
            change wpStill _ _ w3.drew (fun a' => wpList _ _ _ _ a' w3.drew) _ _
            generalize w3.drew = w3' at *
            simp only [List.take_succ_cons, List.take_zero, List.drop_succ_cons, List.drop_zero]
            repeat still_step
            refine wpStill_nil ?_
            go_wp2_with fail
            have bb := heap_alloc_new w3' (.cells #[.int .u8 (sB t0 : Nat), .int .u8 (sB t1 : Nat), .int .u8 (sB t2 : Nat), .int .u8 (sB t3 : Nat)] 5)
            have gb := World.grownBy_alloc w3' (.cells #[.int .u8 (sB t0 : Nat), .int .u8 (sB t1 : Nat), .int .u8 (sB t2 : Nat), .int .u8 (sB t3 : Nat)] 5) none
            go_meet
            case rel =>
              refine ⟨w3'.heap.size, 4, rfl, by rw [HRC.out], fun k hk => ?_, hoD.grown gb (by simp), grown_trans hgD gb, by have := hoD.lt; omega⟩
              rw [cell_of_row _ _ _ _ _ _ bb, Hkt.out]
              obtain rfl | rfl | rfl | rfl : k = 0 ∨ k = 1 ∨ k = 2 ∨ k = 3 := by omega
              · rw [← HT0.out]; rfl
              · rw [← HT1.out]; rfl
              · rw [← HT2.out]; rfl
              · rw [← HT3.out]; rfl
          · have hkt : ∀ k, kTurn N K i cc k = K (4 * (i - 1) + k) := fun k => by unfold kTurn; rw [if_neg Hrn.out, if_neg (by rw [← HM.out]; exact h8)]
            have Hkt := Lib.hid hkt
            have hcase : ((N : Int) == 8) = false ∨ (((N : Int) == 8) = true ∧ ((m : Int) == 4) = false) := by
              by_cases e : N = 8
              · right; exact ⟨by rw [beq_iff_eq]; omega, by rw [beq_eq_false_iff_ne]; omega⟩
              · left; rw [beq_eq_false_iff_ne]; omega
            clear hkt h8
            rcases hcase with j8 | ⟨j8, j9⟩
            all_goals
              go_wp2_with fail
              go_meet
              case rel => exact ⟨gt, capt, rfl, by rw [HRC.out], fun k hk => by rw [Hkt.out]; exact HOT.out.cell k hk, HO3.out, HG3.out, hgtg⟩
      case rest =>
        clear hot' ho3 hg3 HAPT hB hB2 hB3
        obtain ⟨gt2, capt2, rfl, rfl, hct, ho, hgr, hne⟩ := hcut
        obtain ⟨T, hTd⟩ : ∃ T, T = kTurn N K i cc := ⟨_, rfl⟩
        rw [← hTd] at hct
        have hnext : ∀ k, k < 4 → K (4 * i + k) = T k ^^^ K (4 * (i - N) + k) := fun k hk => by
          have h1 := keyW_next N key i k (by omega) hi1 (by omega) hk
          rw [← HK.out, ← HCC.out] at h1
          rw [h1, hTd]; rfl
        have hTlt : ∀ k, k < 4 → T k < 256 := fun k hk => by
          have h1 := hnext k hk
          have h2 : T k = K (4 * i + k) ^^^ K (4 * (i - N) + k) := by rw [h1, Nat.xor_assoc, Nat.xor_self, Nat.xor_zero]
          rw [h2]; exact xor_lt256 (hKlt _) (hKlt _)
        have HTl := Lib.hid hTlt
        have Hnx := Lib.hid hnext
        have Hct := Lib.hid hct
        have HKl := Lib.hid hKlt
        clear hTd hnext hTlt hct hKlt hgtg hgt0 ct0 ct1 ct2 ct3 bt0 bt1 bt2 bt3 HT0 HT1 HT2 HT3 lt0 lt1 lt2 lt3 jt0 jt1 jt2 jt3 er HR r hN0 hN1 j4 hle
        go_wp2_with fail
        go_loopw [6, 10] (fun u6 u10 wq => ∃ k g2 cap2 : Nat, k ≤ 4 ∧ u10 = .int .i64 k ∧ u6 = .slice (some ⟨g2, 0, none⟩) (4 * i + k : Nat) cap2 ∧ OwnR wq g2 (4 * i + k) cap2 K ∧ (∀ j, j < 4 → wq.cell? ⟨gt2, j, none⟩ = some (.int .u8 (T j : Nat))) ∧ w.heap.size ≤ g2 ∧ gt2 ≠ g2 ∧ w.grownBy wq none)
          (fun _ u10 _ => 4 - (intOf u10).toNat)
        case atStart => exact ⟨0, g, cap, by omega, rfl, rfl, ho, Hct.out, hg0, hne, hgr⟩
        case round =>
          clear ho Hct hne hgr hg0
          obtain ⟨k, g2, cap2, hk, rfl, rfl, ho, hct, hg0, hne, hgr⟩ := hrel
          by_cases hk4 : k < 4
          · have m1 : (k : Int) < 4 := by omega
            obtain ⟨d, hd⟩ : ∃ d, d = i - N := ⟨_, rfl⟩
            have m2 : (i : Int) - (N : Int) = (d : Int) := by omega
            have m3 : (d : Int) ≤ 60 := by omega
            have hnx := Hnx.out k hk4
            rw [← hd] at hnx
            have hx := HTl.out k hk4
            have hcx := hct k hk4
            have hy := HKl.out (4 * d + k)
            have hcy := ho.cell (4 * d + k) (by omega)
            generalize hxe : T k = x at *
            generalize K (4 * d + k) = y at *
            have hxy := bits_xor_u8 x y hx hy
            have Hxe := Lib.hid hxe
            have Hk1 := Lib.hid hd
            have hod := ho.grown (grown_drew (grown_refl wr none)) (by simp)
            have hcd := hct
            clear hxe hd
            go_wp2_with fail
            refine wp_region_held (S := fun W => W.cell? ⟨gt2, k, none⟩ = some (.int .u8 (x : Nat)) ∧ W.cell? ⟨g2, 4 * d + k, none⟩ = some (.int .u8 (y : Nat))) (by kernel_rfl) ?_
            change wpAnyH _ _ _ _ _ 18 #[false, false, false, false, false, false, false, false, false, false, false, false, false, false, false, false, false, false] _ (World.drew _)
            have hS0 : (World.drew wr).cell? ⟨gt2, k, none⟩ = some (.int .u8 (x : Nat)) ∧ (World.drew wr).cell? ⟨g2, 4 * d + k, none⟩ = some (.int .u8 (y : Nat)) := ⟨hcx, hcy⟩
            have hct3 : ∀ j, j < 4 → (World.drew wr).cell? ⟨gt2, j, none⟩ = some (.int .u8 (T j : Nat)) := hct
            have hgd := grown_drew hgr
            have Hxy := Lib.hid hnx
            clear hcx hcy hct hcd ho hgr hnx
            generalize World.drew wr = W0 at *
            refine wpAnyH_takeD (some 103) (i := 0) (v := .slice (some ⟨g2, 0, none⟩) (4 * i + k : Nat) cap2) rfl rfl (by kernel_rfl) (by kernel_rfl) (by kernel_rfl) (fun _ _ _ h => h) (Or.inl ⟨rfl, fun _ _ => rfl⟩) hS0 ?_
            simp only [Act.put, List.setIfInBounds_toArray, List.set_cons_succ, List.set_cons_zero]
            refine wpAnyH_takeD (some 104) (i := 1) (v := .slice (some ⟨gt2, 0, none⟩) 4 capt2) rfl rfl (by kernel_rfl) (by kernel_rfl) (by kernel_rfl) (fun _ _ _ h => h) (Or.inl ⟨rfl, fun _ _ => rfl⟩) hS0 ?_
            simp only [Act.put, List.setIfInBounds_toArray, List.set_cons_succ, List.set_cons_zero]
            refine wpAnyH_takeD (some 105) (i := 2) (v := .int .i64 (k : Nat)) rfl rfl (by kernel_rfl) (by kernel_rfl) (by kernel_rfl) (fun _ _ _ h => h) (Or.inl ⟨rfl, fun _ _ => rfl⟩) hS0 ?_
            simp only [Act.put, List.setIfInBounds_toArray, List.set_cons_succ, List.set_cons_zero]
            refine wpAnyH_takeD (some 106) (i := 3) (v := .pointer (some ⟨gt2, k, none⟩)) rfl rfl (by kernel_rfl) (by kernel_rfl) (by kernel_rfl) (fun _ _ _ h => h) (Or.inl ⟨rfl, fun W _ => by go_simp⟩) hS0 ?_
            simp only [Act.put, List.setIfInBounds_toArray, List.set_cons_succ, List.set_cons_zero]
            refine wpAnyH_takeD (some 107) (i := 4) (v := .int .u8 (x : Nat)) rfl rfl (by kernel_rfl) (by kernel_rfl) (by kernel_rfl) (fun _ _ _ h => h) (Or.inl ⟨rfl, fun W hW => by have c1 := hW.1; go_simp⟩) hS0 ?_
            simp only [Act.put, List.setIfInBounds_toArray, List.set_cons_succ, List.set_cons_zero]
            refine wpAnyH_takeD (some 108) (i := 5) (v := .slice (some ⟨g2, 0, none⟩) (4 * i + k : Nat) cap2) rfl rfl (by kernel_rfl) (by kernel_rfl) (by kernel_rfl) (fun _ _ _ h => h) (Or.inl ⟨rfl, fun _ _ => rfl⟩) hS0 ?_
            simp only [Act.put, List.setIfInBounds_toArray, List.set_cons_succ, List.set_cons_zero]
            refine wpAnyH_takeD (some 109) (i := 6) (v := .int .i64 (i : Nat)) rfl rfl (by kernel_rfl) (by kernel_rfl) (by kernel_rfl) (fun _ _ _ h => h) (Or.inl ⟨rfl, fun _ _ => rfl⟩) hS0 ?_
            simp only [Act.put, List.setIfInBounds_toArray, List.set_cons_succ, List.set_cons_zero]
            refine wpAnyH_takeD (some 110) (i := 7) (v := .int .i64 (N : Nat)) rfl rfl (by kernel_rfl) (by kernel_rfl) (by kernel_rfl) (fun _ _ _ h => h) (Or.inl ⟨rfl, fun _ _ => rfl⟩) hS0 ?_
            simp only [Act.put, List.setIfInBounds_toArray, List.set_cons_succ, List.set_cons_zero]
            refine wpAnyH_takeD (some 111) (i := 8) (v := .int .i64 (d : Nat)) rfl rfl (by kernel_rfl) (by kernel_rfl) (by kernel_rfl) (fun _ _ _ h => h) (Or.inl ⟨rfl, fun W _ => by go_simp; rw [IntKind.wrap_i64]; omega⟩) hS0 ?_
            simp only [Act.put, List.setIfInBounds_toArray, List.set_cons_succ, List.set_cons_zero]
            refine wpAnyH_takeD (some 112) (i := 9) (v := .int .i64 (4 * d : Nat)) rfl rfl (by kernel_rfl) (by kernel_rfl) (by kernel_rfl) (fun _ _ _ h => h) (Or.inl ⟨rfl, fun W _ => by go_simp; rw [IntKind.wrap_i64]; omega⟩) hS0 ?_
            simp only [Act.put, List.setIfInBounds_toArray, List.set_cons_succ, List.set_cons_zero]
            refine wpAnyH_takeD (some 113) (i := 10) (v := .int .i64 (k : Nat)) rfl rfl (by kernel_rfl) (by kernel_rfl) (by kernel_rfl) (fun _ _ _ h => h) (Or.inl ⟨rfl, fun _ _ => rfl⟩) hS0 ?_
            simp only [Act.put, List.setIfInBounds_toArray, List.set_cons_succ, List.set_cons_zero]
            refine wpAnyH_takeD (some 114) (i := 11) (v := .int .i64 (4 * d + k : Nat)) rfl rfl (by kernel_rfl) (by kernel_rfl) (by kernel_rfl) (fun _ _ _ h => h) (Or.inl ⟨rfl, fun W _ => by go_simp; rw [IntKind.wrap_i64]; omega⟩) hS0 ?_
            simp only [Act.put, List.setIfInBounds_toArray, List.set_cons_succ, List.set_cons_zero]
            refine wpAnyH_takeD (some 115) (i := 12) (v := .pointer (some ⟨g2, 4 * d + k, none⟩)) rfl rfl (by kernel_rfl) (by kernel_rfl) (by kernel_rfl) (fun _ _ _ h => h) (Or.inl ⟨rfl, fun W _ => by
              have e9 : (4 * (d : Int) + (k : Int)).toNat = 4 * d + k := by omega
              have e8 : (0 : Int) ≤ 4 * (d : Int) + k := by omega
              have e7 : d < i := by omega
              go_simp⟩) hS0 ?_
            simp only [Act.put, List.setIfInBounds_toArray, List.set_cons_succ, List.set_cons_zero]
            refine wpAnyH_takeD (some 116) (i := 13) (v := .int .u8 (y : Nat)) rfl rfl (by kernel_rfl) (by kernel_rfl) (by kernel_rfl) (fun _ _ _ h => h) (Or.inl ⟨rfl, fun W hW => by have c1 := hW.2; go_simp⟩) hS0 ?_
            simp only [Act.put, List.setIfInBounds_toArray, List.set_cons_succ, List.set_cons_zero]
            refine wpAnyH_takeD (some 117) (i := 14) (v := .int .u8 (x ^^^ y : Nat)) rfl rfl (by kernel_rfl) (by kernel_rfl) (by kernel_rfl) (fun _ _ _ h => h) (Or.inl ⟨rfl, fun W _ => by go_simp⟩) hS0 ?_
            simp only [Act.put, List.setIfInBounds_toArray, List.set_cons_succ, List.set_cons_zero]
            refine append_byte_tail (g := g2) (m := 4 * i + k) (cap := cap2) (v := x ^^^ y) (f := K) 15 _ _ _ 103 117 118 119 6 rfl rfl rfl rfl rfl rfl rfl rfl rfl rfl rfl rfl rfl (by kernel_rfl) (by kernel_rfl) (by kernel_rfl) (by kernel_rfl) rfl rfl (by decide) (by simp) (by simp) hod (by omega)
              (fun W' hg hO => ⟨hg.cell hS0.1 (by simp; omega), by
                have h1 := hO.cell (4 * d + k) (by have := Hk1.out; omega)
                have h2 := hod.cell (4 * d + k) (by have := Hk1.out; omega)
                rw [h1, ← h2]; exact hS0.2⟩) ?_
            intro B g3 cap3 W3 hO3 _ hg3 hor
            simp only [Act.put, List.setIfInBounds_toArray, List.set_cons_succ, List.set_cons_zero]
            have hz : gt2 < W0.heap.size := World.block_lt_of_cell? W0 _ (hct3 0 (by decide))
            have hO4 : OwnR W3 g3 (4 * i + (k + 1)) cap3 K := hO3.congr (fun z hz => by
              unfold cat
              by_cases e : z < 4 * i + k
              · rw [if_pos e]
              · have ez : z = 4 * i + k := by omega
                rw [if_neg e, ez, Hxy.out])
            have hct4 : ∀ j, j < 4 → W3.cell? ⟨gt2, j, none⟩ = some (.int .u8 (T j : Nat)) := fun j hj => hg3.cell (hct3 j hj) (by simp; omega)
            have hgW := grown_new hgd hg3 hg0
            have hg03 : w.heap.size ≤ g3 := by have := hgd.size; omega
            have hne3 : gt2 ≠ g3 := by omega
            clear hS0 hct3 hgd hO3 hod hg3
            go_wp2_with fail
            go_roundw
            case rel => first
              | exact ⟨k + 1, g3, cap3, by omega, by go_num, rfl, hO4, hct4, hg03, hne3, hgW⟩
              | ((repeat apply Exists.intro); exact ⟨⟨k + 1, g3, cap3, by omega, by go_num, rfl, hO4, hct4, hg03, hne3, hgW⟩, rfl⟩)
            case measure => simp [intOf]; omega
          · obtain rfl : k = 4 := by omega
            go_wp2_with fail
            have e44 : 4 * (i + 1) = 4 * i + 4 := by omega
            first
              | exact ⟨⟨i + 1, g2, cap2, by omega, by omega, by go_num, by rw [Nat.add_sub_cancel], by rw [e44], by rw [e44, ← HK.out]; exact ho, hg0, hgr⟩, by simp [intOf]; omega⟩
              | (go_roundw
                 case rel => exact ⟨i + 1, g2, cap2, by omega, by omega, by go_num, by rw [Nat.add_sub_cancel], by rw [e44], by rw [e44, ← HK.out]; exact ho, hg0, hgr⟩
                 case measure => simp [intOf]; omega)
    · have hiE : i = 4 * (N + 7) := by omega
      have j1 : 4 * ((N : Int) + 7) ≤ i := by omega
      have e16 : 16 * (N + 7) = 4 * i := by omega
      have HE := Lib.hid e16
      clear hiE e16 hlt
      go_wp2_with fail
      go_ret
      exact ⟨⟨g, cap, by rw [HE.out]; rfl, by rw [HE.out]; exact ho, hg0, hgr⟩⟩

end Go.Proofs.YtapmpjmhcloejaaDoor
