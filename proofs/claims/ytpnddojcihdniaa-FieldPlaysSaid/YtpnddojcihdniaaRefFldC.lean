/-
  The reference's inverses, and its bytes.
-/
import Derived.Test.YtpnddojcihdniaaRefFldB
import Derived.Test.YtpnddojcihdniaaFieldInv
import Derived.Test.YtpnddojcihdniaaAppTwo
import Derived.Test.YtpnddojcihdniaaOrd
namespace Go.Proofs.Ytpnddojcihdniaa
open Go.RowKit

set_option maxRecDepth 100000
set_option maxHeartbeats 4000000

def rI (v k : Nat) : Nat := v ^ ((pF - 2) / 2 ^ k) % pF
theorem rI_step (v E : Nat) (b : Nat) (hb : b = 0 ∨ b = 1) : v ^ (2 * E + b) % pF = if b = 0 then fMul (v ^ E % pF) (v ^ E % pF) else fMul (fMul (v ^ E % pF) (v ^ E % pF)) v := by
  have h2 : fMul (v ^ E % pF) (v ^ E % pF) = v ^ (2 * E) % pF := by
    unfold fMul
    rw [← Nat.mul_mod, ← Nat.pow_add, Nat.two_mul]
  rw [h2]
  rcases hb with rfl | rfl
  · rw [if_pos rfl, Nat.add_zero]
  · rw [if_neg (by decide), Nat.pow_succ]
    unfold fMul
    rw [Nat.mod_mul_mod]
theorem rI_ex (v : Nat) : ∃ R : Nat → Nat, R 255 = 1 ∧ R 0 = fInv v ∧ (∀ j, j < 255 → R j = if j = 2 ∨ j = 4 then fMul (R (j + 1)) (R (j + 1)) else fMul (fMul (R (j + 1)) (R (j + 1))) v) := by
  refine ⟨rI v, ?_, ?_, fun j hj => ?_⟩
  · unfold rI
    rw [exp_none, Nat.pow_zero]
    decide
  · unfold rI fInv
    rw [Nat.pow_zero, Nat.div_one]
  · have h := rI_step v ((pF - 2) / 2 ^ (j + 1)) (if j = 2 ∨ j = 4 then 0 else 1) (by by_cases e : j = 2 ∨ j = 4 <;> simp [e])
    rw [← exp_bit j hj] at h
    by_cases e : j = 2 ∨ j = 4
    · rw [if_pos e] at h ⊢
      exact h
    · rw [if_neg e] at h ⊢
      exact h

theorem grown_nobody {w0 w1 w2 : World} {row : Option Nat} (h0 : w0.grownBy w1 none) (h1 : w1.grownBy w2 row) (hr : ∀ g, row = some g → w0.heap.size ≤ g) : w0.grownBy w2 none := by
  cases row with
  | none => exact grown_trans h0 h1
  | some g => exact grown_new h0 h1 (hr g rfl)
theorem refInverse_any (bx v : Nat) (w : World) (hx : NumAt w bx v) :
    Calls Try.prog 52 #[.slice (some ⟨bx, 0, none⟩) 16 16] w (GaveNum w (fInv v)) := by
  obtain ⟨R, h255, h0, hst⟩ := rI_ex v
  rw [← h0]
  have H255 := Lib.hid h255
  have HST := Lib.hid hst
  have HX := Lib.hid hx
  have HS := Lib.hid (refSmall_any 1 (by decide) w)
  clear h255 h0 hst hx
  go_enter Try.func52, Try.ntmps52
  go_wp2_with fail
  go_at_call 16
  refine HS.out.mono ?_
  rintro e w1 ⟨⟨b0, rfl, hb0, hF0⟩, g1⟩
  have hn0 : NumAt w1 b0 (R 255) := by rw [H255.out]; exact ⟨hF0, by decide⟩
  go_wp2_with fail
  go_loopw [3, 4] (fun u3 u4 wr => ∃ (k b : Nat) (z : Int), k ≤ 255 ∧ z + 1 = (k : Int) ∧ u4 = .int .i64 z ∧ u3 = .slice (some ⟨b, 0, none⟩) 16 16 ∧ w.heap.size ≤ b ∧ w.grownBy wr none ∧ NumAt wr b (R k)) (fun _ u4 _ => (intOf u4 + 1).toNat)
  case atStart => exact ⟨255, b0, 254, by omega, by omega, rfl, rfl, hb0, g1, hn0⟩
  case round =>
    clear hF0 hn0 g1 hb0
    obtain ⟨k, b, z, hk, hz, rfl, rfl, hb, hgr, hn⟩ := hrel
    by_cases hlt : k = 0
    · subst hlt
      have j1 : (z : Int) < 0 := by omega
      obtain rfl : z = -1 := by omega
      clear j1
      go_wp2_with fail
      go_ret
      exact ⟨⟨b, rfl, hb, hn⟩, hgr⟩
    · obtain ⟨j, rfl⟩ : ∃ j, k = j + 1 := ⟨k - 1, by omega⟩
      obtain rfl : z = (j : Int) := by omega
      have HJ := Lib.hid hk
      have hr := HST.out j (by omega)
      obtain ⟨r, hrr⟩ : ∃ r, r = R (j + 1) := ⟨_, rfl⟩
      rw [← hrr] at hn hr
      obtain ⟨q, hq⟩ : ∃ q, q = fMul r r := ⟨_, rfl⟩
      rw [← hq] at hr
      have HM := Lib.hid (refMul_any b b r r wr hn hn)
      rw [← hq] at HM
      have HR := Lib.hid hr
      have jz : (0 : Int) ≤ (j : Int) := by omega
      clear hk hz hlt hr hrr hq hn
      go_wp2_with fail
      go_at_call 14
      refine HM.out.mono ?_
      rintro e U ⟨⟨b2, rfl, hb2, hn2⟩, gU⟩
      have gr2 := grown_trans hgr gU
      have hb3 : w.heap.size ≤ b2 := by have := hgr.size; omega
      clear HM gU hb2 hgr hb

      by_cases e2 : j = 2
      · subst e2
        have hR := HR.out
        rw [if_pos (by decide)] at hR
        rw [← hR] at hn2
        clear hR jz
        have HN2 := Lib.hid hn2
        clear hn2
        go_wp2_with fail
        go_roundw
        case rel => exact ⟨2, b2, 1, by decide, by decide, by go_num, rfl, hb3, gr2, HN2.out⟩
        case measure => simp [intOf]

      by_cases e4 : j = 4
      · subst e4
        have hR := HR.out
        rw [if_pos (by decide)] at hR
        rw [← hR] at hn2
        clear hR jz
        have HN2 := Lib.hid hn2
        clear hn2
        go_wp2_with fail
        go_roundw
        case rel => exact ⟨4, b2, 3, by decide, by decide, by go_num, rfl, hb3, gr2, HN2.out⟩
        case measure => simp [intOf]

      have hR := HR.out
      rw [if_neg (by omega)] at hR
      have i2 : ((j : Int) != 2) = true := by rw [bne_iff_ne]; omega
      have i4 : ((j : Int) != 4) = true := by rw [bne_iff_ne]; omega
      have zj : IntKind.i64.wrap ((j : Int) - 1) = (j : Int) - 1 := by have := HJ.out; rw [IntKind.wrap_i64]; omega
      have j255 : (j : Int) < 255 := by have := HJ.out; omega
      have HM2 := Lib.hid (refMul_any b2 bx q v U hn2 (HX.out.grown gr2))
      rw [← hR] at HM2
      clear hR hn2 e2 e4
      go_wp2_with fail
      go_at_call 14
      refine HM2.out.mono ?_
      rintro e U2 ⟨⟨b4, rfl, hb4, hn4⟩, gU2⟩
      have gr4 := grown_trans gr2 gU2
      have hb5 : w.heap.size ≤ b4 := by have := gr2.size; omega
      clear HM2 gU2 hb4 gr2 hb3
      go_wp2_with fail
      go_roundw
      case rel => exact ⟨j, b4, (j : Int) - 1, by have := HJ.out; omega, Int.sub_add_cancel _ _, by first | rfl | rw [zj] | go_num, rfl, hb5, gr4, hn4⟩
      case measure =>
        simp [intOf]
        try omega


theorem refBytes_any (bx v : Nat) (w : World) (hx : NumAt w bx v) :
    Calls Try.prog 18 #[.slice (some ⟨bx, 0, none⟩) 16 16] w (GaveN w 32 (lim 8 v)) := by
  have HX := Lib.hid hx
  have HL := Lib.hid hx.lt
  obtain ⟨S, hS⟩ : ∃ S, S = lim 8 v := ⟨_, rfl⟩
  rw [← hS]
  have HS := Lib.hid hS
  clear hx hS
  go_enter Try.func18, Try.ntmps18
  go_wp2_with fail
  go_loopw [3, 4] (fun u3 u4 wr => ∃ i : Nat, i ≤ 16 ∧ u4 = .int .i64 i ∧ w.grownBy wr none ∧ OwnV wr u3 (2 * i) S ∧ ∀ g, u3.ownBlock = some g → w.heap.size ≤ g) (fun _ u4 _ => 16 - (intOf u4).toNat)
  case atStart => exact ⟨0, by omega, rfl, grown_refl w none, (OwnN.nil w w.heap.size S).toV, fun g hg => by cases hg⟩
  case round =>
    obtain ⟨i, hi, rfl, hgr, ho, hb⟩ := hrel
    by_cases hlt : i < 16
    · have j1 : (i : Int) < 16 := by omega
      have gV : wr.grownBy wr.drew none := grown_drew (grown_refl wr none)
      have hgV := grown_trans hgr gV
      have cx := (HX.out.grown hgV).fill.cell i hlt
      have hoV := ho.grown gV
      obtain ⟨x, hxx⟩ : ∃ x, x = lim 16 v i := ⟨_, rfl⟩
      rw [← hxx] at cx
      have xl : x < 65536 := by rw [hxx]; exact lim16_lt v i
      obtain ⟨c, hc⟩ : ∃ c, c = x % 256 := ⟨_, rfl⟩
      obtain ⟨d, hd⟩ : ∃ d, d = x / 256 := ⟨_, rfl⟩
      have hc1 : c = S (2 * i) := by rw [hc, hxx, HS.out]; exact lim_byte0 v i
      have hd1 : d = S (2 * i + 1) := by rw [hd, hxx, HS.out]; exact lim_byte1 v i
      have z1 : (x : Int).tmod 256 = (c : Int) := by rw [Int.tmod_eq_emod_of_nonneg (by omega)]; omega
      have z2 : (x : Int).tdiv 256 = (d : Int) := by rw [Int.tdiv_eq_ediv_of_nonneg (by omega)]; omega
      have z3 : IntKind.u64.wrap (c : Int) = (c : Int) := by rw [IntKind.wrap_u64]; omega
      have z4 : IntKind.u64.wrap (d : Int) = (d : Int) := by rw [IntKind.wrap_u64]; omega
      have z5 : IntKind.u8.wrap (c : Int) = (c : Int) := by rw [IntKind.wrap_u8]; omega
      have z6 : IntKind.u8.wrap (d : Int) = (d : Int) := by rw [IntKind.wrap_u8]; omega
      have HC1 := Lib.hid hc1
      have HD1 := Lib.hid hd1
      have HG := Lib.hid hgV
      have HO := Lib.hid hoV
      have HI := Lib.hid hlt
      clear hi hlt hgr gV hgV ho hoV hxx xl hc hd hc1 hd1
      go_wp2_with fail
      refine wp_region_held (S := fun W => W.cell? ⟨bx, i, none⟩ = some (.int .u64 (x : Nat))) (by kernel_rfl) ?_
      change wpAnyH _ _ _ _ _ 16 #[false, false, false, false, false, false, false, false, false, false, false, false, false, false, false, false] _ (World.drew _)
      have hS0 : (World.drew wr).cell? ⟨bx, i, none⟩ = some (.int .u64 (x : Nat)) := cx
      have hg0 := HG.out
      have ho0 := HO.out
      clear HG HO cx
      generalize World.drew wr = W0 at *
      refine wpAnyH_takeD (some 9) (i := 0) (v := u3) rfl rfl (by kernel_rfl) (by kernel_rfl) (by kernel_rfl) (fun _ _ _ h => h) (Or.inl ⟨rfl, fun _ _ => rfl⟩) hS0 ?_
      simp only [Act.put, List.setIfInBounds_toArray, List.set_cons_succ, List.set_cons_zero]
      refine wpAnyH_takeD (some 10) (i := 1) (v := .slice (some ⟨bx, 0, none⟩) 16 16) rfl rfl (by kernel_rfl) (by kernel_rfl) (by kernel_rfl) (fun _ _ _ h => h) (Or.inl ⟨rfl, fun _ _ => rfl⟩) hS0 ?_
      simp only [Act.put, List.setIfInBounds_toArray, List.set_cons_succ, List.set_cons_zero]
      refine wpAnyH_takeD (some 11) (i := 2) (v := .int .i64 (i : Nat)) rfl rfl (by kernel_rfl) (by kernel_rfl) (by kernel_rfl) (fun _ _ _ h => h) (Or.inl ⟨rfl, fun _ _ => rfl⟩) hS0 ?_
      simp only [Act.put, List.setIfInBounds_toArray, List.set_cons_succ, List.set_cons_zero]
      refine wpAnyH_takeD (some 12) (i := 3) (v := .pointer (some ⟨bx, i, none⟩)) rfl rfl (by kernel_rfl) (by kernel_rfl) (by kernel_rfl) (fun _ _ _ h => h) (Or.inl ⟨rfl, fun W _ => by go_simp⟩) hS0 ?_
      simp only [Act.put, List.setIfInBounds_toArray, List.set_cons_succ, List.set_cons_zero]
      refine wpAnyH_takeD (some 13) (i := 4) (v := .int .u64 (x : Nat)) rfl rfl (by kernel_rfl) (by kernel_rfl) (by kernel_rfl) (fun _ _ _ h => h) (Or.inl ⟨rfl, fun W hW => by have c1 := hW; go_simp⟩) hS0 ?_
      simp only [Act.put, List.setIfInBounds_toArray, List.set_cons_succ, List.set_cons_zero]
      refine wpAnyH_takeD (some 14) (i := 5) (v := .int .u64 (c : Nat)) rfl rfl (by kernel_rfl) (by kernel_rfl) (by kernel_rfl) (fun _ _ _ h => h) (Or.inl ⟨rfl, fun W _ => by go_simp⟩) hS0 ?_
      simp only [Act.put, List.setIfInBounds_toArray, List.set_cons_succ, List.set_cons_zero]
      refine wpAnyH_takeD (some 15) (i := 6) (v := .int .u8 (c : Nat)) rfl rfl (by kernel_rfl) (by kernel_rfl) (by kernel_rfl) (fun _ _ _ h => h) (Or.inl ⟨rfl, fun W _ => by go_simp⟩) hS0 ?_
      simp only [Act.put, List.setIfInBounds_toArray, List.set_cons_succ, List.set_cons_zero]
      refine wpAnyH_takeD (some 16) (i := 7) (v := .slice (some ⟨bx, 0, none⟩) 16 16) rfl rfl (by kernel_rfl) (by kernel_rfl) (by kernel_rfl) (fun _ _ _ h => h) (Or.inl ⟨rfl, fun _ _ => rfl⟩) hS0 ?_
      simp only [Act.put, List.setIfInBounds_toArray, List.set_cons_succ, List.set_cons_zero]
      refine wpAnyH_takeD (some 17) (i := 8) (v := .int .i64 (i : Nat)) rfl rfl (by kernel_rfl) (by kernel_rfl) (by kernel_rfl) (fun _ _ _ h => h) (Or.inl ⟨rfl, fun _ _ => rfl⟩) hS0 ?_
      simp only [Act.put, List.setIfInBounds_toArray, List.set_cons_succ, List.set_cons_zero]
      refine wpAnyH_takeD (some 18) (i := 9) (v := .pointer (some ⟨bx, i, none⟩)) rfl rfl (by kernel_rfl) (by kernel_rfl) (by kernel_rfl) (fun _ _ _ h => h) (Or.inl ⟨rfl, fun W _ => by go_simp⟩) hS0 ?_
      simp only [Act.put, List.setIfInBounds_toArray, List.set_cons_succ, List.set_cons_zero]
      refine wpAnyH_takeD (some 19) (i := 10) (v := .int .u64 (x : Nat)) rfl rfl (by kernel_rfl) (by kernel_rfl) (by kernel_rfl) (fun _ _ _ h => h) (Or.inl ⟨rfl, fun W hW => by have c1 := hW; go_simp⟩) hS0 ?_
      simp only [Act.put, List.setIfInBounds_toArray, List.set_cons_succ, List.set_cons_zero]
      refine wpAnyH_takeD (some 20) (i := 11) (v := .int .u64 (d : Nat)) rfl rfl (by kernel_rfl) (by kernel_rfl) (by kernel_rfl) (fun _ _ _ h => h) (Or.inl ⟨rfl, fun W _ => by go_simp⟩) hS0 ?_
      simp only [Act.put, List.setIfInBounds_toArray, List.set_cons_succ, List.set_cons_zero]
      refine wpAnyH_takeD (some 21) (i := 12) (v := .int .u8 (d : Nat)) rfl rfl (by kernel_rfl) (by kernel_rfl) (by kernel_rfl) (fun _ _ _ h => h) (Or.inl ⟨rfl, fun W _ => by go_simp⟩) hS0 ?_
      simp only [Act.put, List.setIfInBounds_toArray, List.set_cons_succ, List.set_cons_zero]
      refine append_two_tailV (v0 := u3) (m := 2 * i) (v := c) (u := d) (f := S) 13 _ _ _ 9 15 21 22 23 3 rfl rfl rfl rfl rfl rfl rfl rfl rfl rfl rfl rfl rfl (by kernel_rfl) (by kernel_rfl) (by kernel_rfl) (by kernel_rfl) rfl rfl rfl (by decide) (by simp) (by simp) ho0 (by have := HI.out; omega)
        (fun W' hg => hg.cell hS0 (fun e => by have h9 := hb _ e.symm; have h8 := HL.out; change w.heap.size ≤ bx at h9; omega)) ?_
      intro B v' W3 hO3 hg3 hor
      simp only [Act.put, List.setIfInBounds_toArray, List.set_cons_succ, List.set_cons_zero]
      have hO4 : OwnV W3 v' (2 * (i + 1)) S := hO3.congr (fun z hz => by
        unfold cat pairF
        by_cases e : z < 2 * i
        · rw [if_pos e]
        · rw [if_neg e]
          by_cases e2 : z - 2 * i = 0
          · rw [if_pos e2, HC1.out, show z = 2 * i by omega]
          · rw [if_neg e2, HD1.out, show z = 2 * i + 1 by omega])
      have hb4 : ∀ g, v'.ownBlock = some g → w.heap.size ≤ g := fun g hg => by
        rcases hor with e | ⟨g', e, h5⟩
        · rw [e] at hg
          exact hb g hg
        · rw [e] at hg
          cases hg
          have := hg0.size
          omega
      have hg4 : w.grownBy W3 none := grown_nobody hg0 hg3 hb
      clear hO3 hg3 hor hg0 ho0 hb hS0 z1 z2 z3 z4 z5 z6
      go_wp2_with fail
      go_roundw
      case rel => exact ⟨i + 1, by have := HI.out; omega, by go_num, hg4, hO4, hb4⟩
      case measure =>
        have := HI.out
        simp [intOf]
        try omega
    · obtain rfl : i = 16 := by omega
      have HO := Lib.hid ho
      have HB := Lib.hid hb
      have HG := Lib.hid hgr
      clear ho hb hgr hi hlt
      go_wp2_with fail
      go_ret
      exact ⟨⟨u3, rfl, HO.out.toN HB.out, HG.out⟩⟩

end Go.Proofs.Ytpnddojcihdniaa
