/-
  The document's own Turn.
-/
import Derived.Test.YtapmpjmhcloejaaDoorRefCtr
import Derived.Test.YtapmpjmhcloejaaDoorAppTailV
import Derived.Deep.DeepCutAuto
namespace Go.Proofs.YtapmpjmhcloejaaDoor
open Go.RowKit

set_option maxRecDepth 100000
set_option maxHeartbeats 2000000

/-- The counter, and what is turned so far. -/
structure RTI (w : World) (q G : Nat → Nat) (i : Nat) (u10 : Value) (gc capc : Nat) (U : World) : Prop where
  ctr : OwnR U gc 16 capc q
  out : OwnV U u10 i G
  rows : ∀ g, u10.ownBlock = some g → w.heap.size ≤ g ∧ g ≠ gc ∧ g < U.heap.size
  gr : w.grownBy U none
/-- The sealed counter. -/
structure RTS (u10 : Value) (rs : Nat) (s : Nat → Nat) (U : World) : Prop where
  fill : Fill U rs 16 s
  row : ∀ g, u10.ownBlock = some g → rs ≠ g
theorem grown_none' {w0 w w' : World} {row : Option Nat} (h : w0.grownBy w none) (g : w.grownBy w' row) (hr : ∀ r, row = some r → w0.heap.size ≤ r) : w0.grownBy w' none := by
  cases row with
  | none => exact grown_trans h g
  | some r => exact grown_new h g (hr r rfl)
theorem OwnV.row_lt {w : World} {v : Value} {n : Nat} {f : Nat → Nat} (h : OwnV w v n f) (g : Nat) (hg : v.ownBlock = some g) : g < w.heap.size := by
  rcases h.ex with ⟨rfl, _⟩ | ⟨g', cap, rfl, h2⟩
  · cases hg
  · cases hg; exact h2.lt

theorem rturn_any (R rb gw capw cf nb cb : Nat) (ab af : Option Addr) (W f F : Nat → Nat) (w : World) (hR1 : 1 ≤ R) (hR2 : R ≤ 14) (hB : Rd w w.heap.size (some ⟨rb, 0, none⟩) 256 sB) (hW : Rd w w.heap.size (some ⟨gw, 0, none⟩) (16 * (R + 1)) W)
    (hf : Rd w w.heap.size af 16 f) (hb : Rd w w.heap.size ab nb F) (hWl : ∀ i, W i < 256) (hfl : ∀ i, f i < 256) (hFl : ∀ i, F i < 256) (hn : nb ≤ 2 ^ 40) :
    Calls Tryd.prog 12 #[.slice (some ⟨rb, 0, none⟩) 256 256, .slice (some ⟨gw, 0, none⟩) (16 * (R + 1) : Nat) capw, .slice af 16 cf, .slice ab nb cb] w (GaveN w nb (turnF R W f F)) := by
  obtain ⟨v1, w1, hap, ⟨gc, capc, rfl, hO1, _, hg1, hor1⟩⟩ := app_run (m := 16) cf 22 (ownR_empty w) (hf.grown (World.grownBy_alloc w _ none) (fun k e => by cases e)) (by omega)
  have G1 := grown_new (World.grownBy_alloc w (.cells #[] 5) none) hg1 (Nat.le_refl _)
  have hO1' : OwnR w1 gc 16 capc (ctrAt f 0) := hO1.congr (fun i hi => by unfold cat; rw [if_neg (by omega)]; rfl)
  obtain ⟨G, hG⟩ : ∃ G, G = turnF R W f F := ⟨_, rfl⟩
  have hGx : ∀ x, G x = F x ^^^ strm R W f (x / 16) (x % 16) := fun x => by rw [hG]; rfl
  rw [← hG]
  have hI0 : RTI w (ctrAt f 0) G 0 (.slice none 0 0) gc capc w1 := ⟨hO1', ⟨Or.inl ⟨rfl, rfl⟩⟩, (fun g e => by cases e), G1⟩
  have HAP := Lib.hid hap
  have HI0 := Lib.hid hI0
  have HG := Lib.hid hG
  have HGx := Lib.hid hGx
  have HFl := Lib.hid hFl
  have HWl := Lib.hid hWl
  have Hfl := Lib.hid hfl
  have HB := Lib.hid hB
  have HW := Lib.hid hW
  have Hb := Lib.hid hb
  have hnI : (nb : Int) ≤ 1099511627776 := by omega
  clear hG hGx hFl hWl hfl hap hO1 hO1' hI0 hg1 hor1 G1 hB hW hf hb hn
  go_enter Tryd.func12, Tryd.ntmps12
  go_wp2_with (at_builtin; refine wpList_append_run rfl (.tmp 13) (.tmp 14) 22 22 rfl _ (.slice af 16 cf) _ _ rfl rfl HAP.out ?_)
  go_loopw [9, 10, 11, 12] (fun u9 u10 u11 u12 wr => ∃ i gc capc : Nat, i ≤ nb ∧ u12 = .int .i64 i ∧ u9 = .slice (some ⟨gc, 0, none⟩) 16 capc ∧ RTI w (ctrAt f ((i + 15) / 16)) G i u10 gc capc wr ∧ (i % 16 ≠ 0 → ∃ rs, u11 = .slice (some ⟨rs, 0, none⟩) 16 16 ∧ RTS u10 rs (strm R W f (i / 16)) wr)) (fun _ _ _ u12 _ => nb - (intOf u12).toNat)
  case atStart => exact ⟨0, gc, capc, by omega, rfl, rfl, HI0.out, fun h => absurd rfl h⟩
  case round =>
    clear HAP HI0
    obtain ⟨i, gc, capc, hi, rfl, rfl, hI, hS⟩ := hrel
    by_cases hlt : i < nb
    · have j1 : (i : Int) < nb := by omega
      obtain ⟨k, hk⟩ : ∃ k, k = i / 16 := ⟨_, rfl⟩
      obtain ⟨r, hr⟩ : ∃ r, r = i % 16 := ⟨_, rfl⟩
      have r0 : (i : Int) % 16 = (r : Int) := by omega
      have r1 : (i : Int).tmod 16 = (r : Int) := by rw [Int.tmod_eq_emod_of_nonneg (by omega)]; omega
      have r2 : (r : Int) < 16 := by omega
      have HI := Lib.hid hI
      have HS := Lib.hid hS
      have Hk := Lib.hid hk
      have Hr := Lib.hid hr
      obtain ⟨s, hs⟩ : ∃ s, s = strm R W f k := ⟨_, rfl⟩
      have Hs := Lib.hid hs
      clear hI hS hk hr hs
      go_upto_if 24 with fail
      go_cut [9, 11] (fun s9 s11 wx => ∃ gc capc rs : Nat, s9 = .slice (some ⟨gc, 0, none⟩) 16 capc ∧ s11 = .slice (some ⟨rs, 0, none⟩) 16 16 ∧ RTI w (ctrAt f (k + 1)) G i u10 gc capc wx ∧ RTS u10 rs s wx)
      case first =>
        by_cases h16 : r = 0
        · have hr := Hr.out
          have hk := Hk.out
          subst h16
          have hI := HI.out
          rw [show (i + 15) / 16 = k by omega] at hI
          have hSeal := rseal_any R rb gw capw gc capc W (ctrAt f k) wr hR1 hR2 (HB.out.up (Nat.le_refl _) hI.gr) (HW.out.up (Nat.le_refl _) hI.gr) hI.ctr.rd HWl.out (ctrAt_lt f Hfl.out k)
          have hcap := hI.ctr.le
          obtain ⟨q, hq⟩ : ∃ q, q = ctrAt f k := ⟨_, rfl⟩
          have hql : ∀ i, q i < 256 := fun i => by rw [hq]; exact ctrAt_lt f Hfl.out k i
          have hsq : sealA R W (ctrAt f k) = s := Hs.out.symm
          rw [hsq] at hSeal
          rw [← hq] at hI
          have HQ := Lib.hid hq
          have HQl := Lib.hid hql
          have HSe := Lib.hid hSeal
          have HI2 := Lib.hid hI
          clear hq hql hsq hSeal hI hr hk r2
          go_wp2_with fail
          go_at_call 24
          with_reducible refine (HSe.out).mono ?_
          rintro e w5 ⟨rs, rfl, hfill, hle, g5⟩
          have hctr5 := HI2.out.ctr.grown g5 (by simp)
          have hNx := rnext_any (some ⟨gc, 0, none⟩) capc q w5 HQl.out hctr5.rd hcap
          obtain ⟨t, ht⟩ : ∃ t, t = nextF q := ⟨_, rfl⟩
          rw [← ht] at hNx
          have HT : Hid (t = ctrAt f (k + 1)) := Lib.hid (by rw [ht, HQ.out]; rfl)
          have HNx := Lib.hid hNx
          have HFi := Lib.hid hfill
          have HG5 := Lib.hid g5
          have HLe := Lib.hid hle
          clear hNx ht hfill hctr5 g5 hle
          go_wp2_with fail
          go_at_call 14
          with_reducible refine (HNx.out).mono ?_
          rintro e w6 ⟨gn, capn, rfl, hOn, hlen, g6⟩
          have HR : Hid (RTI w (ctrAt f (k + 1)) G i u10 gn capn w6 ∧ RTS u10 rs s w6) := Lib.hid ⟨⟨by rw [← HT.out]; exact hOn, (HI2.out.out.grown HG5.out).grown g6, fun g hg => by
              obtain ⟨a1, a2, a3⟩ := HI2.out.rows g hg
              have := HG5.out.size
              have := g6.size
              exact ⟨a1, by omega, by omega⟩, grown_trans (grown_trans HI2.out.gr HG5.out) g6⟩, ⟨HFi.out.grown (by decide) g6 (by simp), fun g hg => by
              obtain ⟨a1, a2, a3⟩ := HI2.out.rows g hg
              have := HLe.out
              omega⟩⟩
          clear hOn hlen g6
          go_wp2_with fail
          go_meet
          case rel => exact ⟨gn, capn, rs, rfl, rfl, HR.out⟩
        · have hr := Hr.out
          have hk := Hk.out
          have hI := HI.out
          rw [show (i + 15) / 16 = k + 1 by omega] at hI
          obtain ⟨rs, rfl, hS⟩ := HS.out (by omega)
          rw [← hk, ← Hs.out] at hS
          have HI2 := Lib.hid hI
          have HS2 := Lib.hid hS
          have r3 : (0 : Int) < r := by omega
          clear hI hS hr hk h16
          go_wp2_with fail
          go_meet
          case rel => exact ⟨gc, capc, rs, rfl, rfl, HI2.out, HS2.out⟩
      case rest =>
        obtain ⟨gc, capc, rs, rfl, rfl, hI, hS⟩ := hcut
        obtain ⟨tb, o, rfl, htb, hcell⟩ := Hb.out.ex (by omega)
        have hcx : wc.cell? ⟨tb, o + i, none⟩ = some (.int .u8 (F i : Nat)) := hI.gr.cell (hcell i hlt) (by simp)
        have hcy : wc.cell? ⟨rs, r, none⟩ = some (.int .u8 (s r : Nat)) := hS.fill.cell r (by omega)
        have hxy := bits_xor_u8 (F i) (s r) (HFl.out i) (by rw [Hs.out]; exact strm_lt R W f HWl.out Hfl.out k r)
        have hGi : G i = F i ^^^ s r := by rw [HGx.out, Hs.out, ← Hk.out, ← Hr.out]
        obtain ⟨x, hx⟩ : ∃ x, x = F i := ⟨_, rfl⟩
        obtain ⟨y, hy⟩ : ∃ y, y = s r := ⟨_, rfl⟩
        obtain ⟨v, hv⟩ : ∃ v, v = F i ^^^ s r := ⟨_, rfl⟩
        rw [← hv] at hxy hGi
        rw [← hx] at hcx hxy
        rw [← hy] at hcy hxy
        have HGi := Lib.hid hGi
        have HI3 := Lib.hid hI
        have HS3 := Lib.hid hS
        clear hGi hx hy hv hI hS hcell HI HS
        go_wp2_with fail
        refine wp_region_held (S := fun W => W.cell? ⟨tb, o + i, none⟩ = some (.int .u8 (x : Nat)) ∧ W.cell? ⟨rs, r, none⟩ = some (.int .u8 (y : Nat))) (by kernel_rfl) ?_
        change wpAnyH _ _ _ _ _ 14 #[false, false, false, false, false, false, false, false, false, false, false, false, false, false] _ (World.drew _)
        have hS0 : (World.drew wc).cell? ⟨tb, o + i, none⟩ = some (.int .u8 (x : Nat)) ∧ (World.drew wc).cell? ⟨rs, r, none⟩ = some (.int .u8 (y : Nat)) := ⟨hcx, hcy⟩
        have hId : RTI w (ctrAt f (k + 1)) G i u10 gc capc (World.drew wc) := ⟨HI3.out.ctr.of_block rfl HI3.out.ctr.lt, ⟨HI3.out.out.ex.imp id (fun ⟨g, cap, h1, h2⟩ => ⟨g, cap, h1, h2.of_block rfl h2.lt⟩)⟩, HI3.out.rows, grown_drew HI3.out.gr⟩
        have hSd : RTS u10 rs s (World.drew wc) := ⟨HS3.out.fill.drew, HS3.out.row⟩
        clear hcx hcy HI3 HS3
        generalize World.drew wc = W0 at *
        refine wpAnyH_takeD (some 31) (i := 0) (v := u10) rfl rfl (by kernel_rfl) (by kernel_rfl) (by kernel_rfl) (fun _ _ _ h => h) (Or.inl ⟨rfl, fun _ _ => rfl⟩) hS0 ?_
        simp only [Act.put, List.setIfInBounds_toArray, List.set_cons_succ, List.set_cons_zero]
        refine wpAnyH_takeD (some 32) (i := 1) (v := .slice (some ⟨tb, o, none⟩) nb cb) rfl rfl (by kernel_rfl) (by kernel_rfl) (by kernel_rfl) (fun _ _ _ h => h) (Or.inl ⟨rfl, fun _ _ => rfl⟩) hS0 ?_
        simp only [Act.put, List.setIfInBounds_toArray, List.set_cons_succ, List.set_cons_zero]
        refine wpAnyH_takeD (some 33) (i := 2) (v := .int .i64 (i : Nat)) rfl rfl (by kernel_rfl) (by kernel_rfl) (by kernel_rfl) (fun _ _ _ h => h) (Or.inl ⟨rfl, fun _ _ => rfl⟩) hS0 ?_
        simp only [Act.put, List.setIfInBounds_toArray, List.set_cons_succ, List.set_cons_zero]
        refine wpAnyH_takeD (some 34) (i := 3) (v := .pointer (some ⟨tb, o + i, none⟩)) rfl rfl (by kernel_rfl) (by kernel_rfl) (by kernel_rfl) (fun _ _ _ h => h) (Or.inl ⟨rfl, fun W _ => by go_simp⟩) hS0 ?_
        simp only [Act.put, List.setIfInBounds_toArray, List.set_cons_succ, List.set_cons_zero]
        refine wpAnyH_takeD (some 35) (i := 4) (v := .int .u8 (x : Nat)) rfl rfl (by kernel_rfl) (by kernel_rfl) (by kernel_rfl) (fun _ _ _ h => h) (Or.inl ⟨rfl, fun W hW => by have c1 := hW.1; go_simp⟩) hS0 ?_
        simp only [Act.put, List.setIfInBounds_toArray, List.set_cons_succ, List.set_cons_zero]
        refine wpAnyH_takeD (some 36) (i := 5) (v := .slice (some ⟨rs, 0, none⟩) 16 16) rfl rfl (by kernel_rfl) (by kernel_rfl) (by kernel_rfl) (fun _ _ _ h => h) (Or.inl ⟨rfl, fun _ _ => rfl⟩) hS0 ?_
        simp only [Act.put, List.setIfInBounds_toArray, List.set_cons_succ, List.set_cons_zero]
        refine wpAnyH_takeD (some 37) (i := 6) (v := .int .i64 (i : Nat)) rfl rfl (by kernel_rfl) (by kernel_rfl) (by kernel_rfl) (fun _ _ _ h => h) (Or.inl ⟨rfl, fun _ _ => rfl⟩) hS0 ?_
        simp only [Act.put, List.setIfInBounds_toArray, List.set_cons_succ, List.set_cons_zero]
        refine wpAnyH_takeD (some 38) (i := 7) (v := .int .i64 (r : Nat)) rfl rfl (by kernel_rfl) (by kernel_rfl) (by kernel_rfl) (fun _ _ _ h => h) (Or.inl ⟨rfl, fun W _ => by go_simp⟩) hS0 ?_
        simp only [Act.put, List.setIfInBounds_toArray, List.set_cons_succ, List.set_cons_zero]
        refine wpAnyH_takeD (some 39) (i := 8) (v := .pointer (some ⟨rs, r, none⟩)) rfl rfl (by kernel_rfl) (by kernel_rfl) (by kernel_rfl) (fun _ _ _ h => h) (Or.inl ⟨rfl, fun W _ => by go_simp⟩) hS0 ?_
        simp only [Act.put, List.setIfInBounds_toArray, List.set_cons_succ, List.set_cons_zero]
        refine wpAnyH_takeD (some 40) (i := 9) (v := .int .u8 (y : Nat)) rfl rfl (by kernel_rfl) (by kernel_rfl) (by kernel_rfl) (fun _ _ _ h => h) (Or.inl ⟨rfl, fun W hW => by have c1 := hW.2; go_simp⟩) hS0 ?_
        simp only [Act.put, List.setIfInBounds_toArray, List.set_cons_succ, List.set_cons_zero]
        refine wpAnyH_takeD (some 41) (i := 10) (v := .int .u8 (v : Nat)) rfl rfl (by kernel_rfl) (by kernel_rfl) (by kernel_rfl) (fun _ _ _ h => h) (Or.inl ⟨rfl, fun W _ => by go_simp⟩) hS0 ?_
        simp only [Act.put, List.setIfInBounds_toArray, List.set_cons_succ, List.set_cons_zero]
        refine append_byte_tailV (v0 := u10) (m := i) (v := v) (f := G) 11 _ _ _ 31 41 42 43 10 rfl rfl rfl rfl rfl rfl rfl rfl rfl rfl rfl rfl rfl (by kernel_rfl) (by kernel_rfl) (by kernel_rfl) (by kernel_rfl) rfl rfl (by decide) (by simp) (by simp) hId.out (by omega)
          (fun W' hg => ⟨hg.cell hS0.1 (fun e => by have h9 := (hId.rows _ e.symm).1; change w.heap.size ≤ tb at h9; omega), hg.cell hS0.2 (fun e => hSd.row _ e.symm rfl)⟩) ?_
        intro B v' W3 hO3 hg3 hor
        simp only [Act.put, List.setIfInBounds_toArray, List.set_cons_succ, List.set_cons_zero]
        have hlc := hId.ctr.lt
        have hls := hSd.fill.lt (by decide)
        have hrow : ∀ g, v'.ownBlock = some g → w.heap.size ≤ g ∧ g ≠ gc ∧ g ≠ rs := fun g hg => by
          rcases hor with e | ⟨g', e, h5⟩
          · rw [e] at hg
            exact ⟨(hId.rows g hg).1, (hId.rows g hg).2.1, fun e2 => hSd.row g hg e2.symm⟩
          · rw [e] at hg
            cases hg
            have := hId.gr.size
            exact ⟨by omega, by omega, by omega⟩
        have hI4 : RTI w (ctrAt f (k + 1)) G (i + 1) v' gc capc W3 := ⟨hId.ctr.grown hg3 (fun e => (hId.rows _ e.symm).2.1 rfl), hO3.congr (fun z hz => by
            unfold cat
            by_cases e : z < i
            · rw [if_pos e]
            · rw [if_neg e, show z = i by omega, HGi.out]), fun g hg => ⟨(hrow g hg).1, (hrow g hg).2.1, hO3.row_lt g hg⟩, grown_none' hId.gr hg3 (fun g hg => (hId.rows g hg).1)⟩
        have hS4 : RTS v' rs s W3 := ⟨hSd.fill.grown (by decide) hg3 (fun e => hSd.row _ e.symm rfl), fun g hg e => (hrow g hg).2.2 e.symm⟩
        have e1 : (i + 1 + 15) / 16 = k + 1 := by have := Hk.out; omega
        have e2 : (i + 1) % 16 ≠ 0 → (i + 1) / 16 = k := fun h => by have := Hk.out; omega
        have HE1 := Lib.hid e1
        have HI4 := Lib.hid hI4
        have HS4 : Hid ((i + 1) % 16 ≠ 0 → RTS v' rs (strm R W f ((i + 1) / 16)) W3) := Lib.hid (fun h => by rw [e2 h, ← Hs.out]; exact hS4)
        clear e1 e2 hI4 hS4 hrow hor hO3 hg3 hlc hls hS0 hId hSd hxy
        go_wp2_with fail
        go_roundw
        case rel => first
          | exact ⟨i + 1, gc, capc, by omega, by go_num, rfl, by rw [HE1.out]; exact HI4.out, fun h => ⟨rs, rfl, HS4.out h⟩⟩
          | ((repeat apply Exists.intro); exact ⟨⟨i + 1, gc, capc, by omega, by go_num, rfl, by rw [HE1.out]; exact HI4.out, fun h => ⟨rs, rfl, HS4.out h⟩⟩, rfl⟩)
        case measure => simp [intOf]; omega
    · obtain rfl : i = nb := by omega
      have HI2 := Lib.hid hI
      clear hlt hi hI hS
      go_wp2_with fail
      go_ret
      exact ⟨u10, rfl, HI2.out.out.toN (fun g hg => (HI2.out.rows g hg).1), HI2.out.gr⟩

end Go.Proofs.YtapmpjmhcloejaaDoor
