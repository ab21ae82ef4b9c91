/-
  The reference's reducing.
-/
import Derived.Test.YtpnddojcihdniaaRefFld1
import Derived.Test.YtpnddojcihdniaaRefFldM
import Derived.StillTailTactics
namespace Go.Proofs.Ytpnddojcihdniaa
open Go.RowKit

set_option maxRecDepth 100000
set_option maxHeartbeats 8000000

/-- The number that a block's cells tell. -/
def valAt (w : World) (b : Nat) : Nat := val 16 (fun i => (numAt w ⟨b, i, none⟩).toNat) 16
theorem FillU.valAt {w : World} {b : Nat} {f : Nat → Nat} (h : FillU w b 16 f) : valAt w b = val 16 f 16 := val_congr 16 16 (fun i hi => by
  unfold numAt
  rw [h.cell i hi]
  rfl)

theorem reduce_any (n : Nat) (hn : n = 16 ∨ n = 32) (p : Nat → Nat) (hp : ∀ i, i < n → p i ≤ 68719476736) (bp : Nat) (w : World) (hP : FillU w bp n p) :
    Calls Try.prog 31 #[.slice (some ⟨bp, 0, none⟩) n n] w (GaveU w 16 (lim 16 (val 16 p n % pF))) := by
  obtain ⟨c, hr, hF⟩ := makeU_any 30 (by kernel_rfl) 16 (by decide) w
  have hr2 : (Instr.makeSlice 30 (.int .i64 16) (.int .i64 16)).run Try.prog w = .ok (.slice (some ⟨w.heap.size, 0, none⟩) 16 16) (w.alloc (.cells c 25)) := hr
  have gr := World.grownBy_alloc w (.cells c 25) none
  have hn0 : 0 < n := by omega
  have hPl := hP.lt hn0
  have hF0 := hF.congr (g := redX p 0) (fun j _ => (redX_zero p j).symm)
  have hP1 := hP.grown hn0 gr (by simp)
  have hmod := redX_mod p n hn
  have Hp := Lib.hid hp
  have Hmod := Lib.hid hmod
  have Hn := Lib.hid hn
  have Hn0 := Lib.hid hn0
  have HPl := Lib.hid hPl
  have HPn := Lib.hid (show w.heap.size ≠ bp by omega)
  have n1 : (n : Int) ≤ 32 := by omega
  have n0 : (0 : Int) ≤ (n : Int) := by omega
  obtain ⟨S, hS⟩ : ∃ S, S = lim 16 (val 16 p n % pF) := ⟨_, rfl⟩
  rw [← hS]
  have HS := Lib.hid hS
  clear hr hF hP hp hmod hn hn0 hPl hS
  go_enter Try.func31, Try.ntmps31
  go_wp2_with fail
  clear hr2
  generalize w.alloc (.cells c 25) = w1 at *
  go_loopw [4, 5, 6, 7] (fun u4 _ _ _ wr => ∃ i : Nat, i ≤ n ∧ u4 = .int .i64 i ∧ w.grownBy wr none ∧ FillU wr w.heap.size 16 (redX p i) ∧ FillU wr bp n p) (fun u4 _ _ _ _ => n - (intOf u4).toNat)
  case atStart => exact ⟨0, by omega, rfl, gr, hF0, hP1⟩
  case round =>
    clear gr hF0 hP1
    obtain ⟨i, hi, rfl, hgr, hF, hP⟩ := hrel
    by_cases hlt : i < n
    · have j1 : (i : Int) < (n : Int) := by omega
      have j2 : i < n := hlt
      obtain ⟨d, hd⟩ : ∃ d, d = i / 16 := ⟨_, rfl⟩
      obtain ⟨k, hk⟩ : ∃ k, k = i % 16 := ⟨_, rfl⟩
      have hi32 : i < 32 := by have := Hn.out; omega
      have hd1 : d ≤ 1 := by omega
      have x0 : (i : Int) / 16 = (d : Int) := by omega
      have x1 : (i : Int).tmod 16 = (k : Int) := by rw [Int.tmod_eq_emod_of_nonneg (by omega)]; omega
      have x2 : (i : Int) % 16 = (k : Int) := by omega
      have x4 : (i : Int).tdiv 16 = (d : Int) := by rw [Int.tdiv_eq_ediv_of_nonneg (by omega)]; omega
      have w4 : IntKind.i64.wrap (d : Int) = (d : Int) := by rw [IntKind.wrap_i64]; omega
      have w5 : IntKind.i64.wrap (k : Int) = (k : Int) := by rw [IntKind.wrap_i64]; omega
      have Hd := Lib.hid hd
      have Hk := Lib.hid hk
      have Hi := Lib.hid hi32
      have Hd1 := Lib.hid hd1
      have Hlt := Lib.hid hlt
      clear hi hd hk hi32 hd1 hlt
      go_wp2_with fail
      go_loopw [6, 7] (fun u6 u7 wt => ∃ j : Nat, j ≤ d ∧ u7 = .int .i64 j ∧ u6 = .int .u64 (fac j : Nat) ∧ wt = wr) (fun _ u7 _ => d - (intOf u7).toNat)
      case atStart => exact ⟨0, by omega, rfl, rfl, rfl⟩
      case round =>
        obtain ⟨j, hj, rfl, rfl, rfl⟩ := hrel
        by_cases hjd : j < d
        · have jj : (j : Int) < (d : Int) := by omega
          obtain ⟨m0, hm0⟩ : ∃ m, m = fac j := ⟨_, rfl⟩
          obtain ⟨m1, hm1⟩ : ∃ m, m = fac (j + 1) := ⟨_, rfl⟩
          have zm : IntKind.u64.wrap (38 * (m0 : Int)) = (m1 : Int) := by
            have : j = 0 := by have := Hd1.out; omega
            subst this
            rw [hm0, hm1]
            rfl
          rw [← hm0]
          have Hm1 := Lib.hid hm1
          have Hj := Lib.hid hjd
          have HF := Lib.hid hF
          have HP := Lib.hid hP
          have HG := Lib.hid hgr
          have w6 : IntKind.i64.wrap ((j : Int) + 1) = (j : Int) + 1 := by have := Hd1.out; rw [IntKind.wrap_i64]; omega
          clear hj hm0 hm1 hF hP hgr
          go_wp2_with fail
          first
            | exact ⟨⟨j + 1, by have := Hj.out; omega, by go_num, by rw [Hm1.out], trivial⟩, by have := Hj.out; simp [intOf]; omega⟩
            | (go_roundw
               case rel => exact ⟨j + 1, by have := Hj.out; omega, by go_num, by rw [Hm1.out], trivial⟩
               case measure =>
                 have := Hj.out
                 simp [intOf]
                 try omega)
        · have ejd : d = j := by omega
          have jj : (d : Int) ≤ (j : Int) := by omega
          have jb : decide (j < d) = false := decide_eq_false hjd
          have hk16 : k < 16 := by have := Hk.out; omega
          have hst := fun t ht => redX_step p i Hi.out t ht
          rw [← Hk.out, ← Hd.out, ejd] at hst
          have hle := redX_le p n Hp.out i (Nat.le_of_lt Hlt.out) k
          have hpi := Hp.out i Hlt.out
          have hfl : fac j ≤ 38 := by
            have := Hd1.out
            obtain rfl | rfl : j = 0 ∨ j = 1 := by omega
            · decide
            · decide
          obtain ⟨m, hm⟩ : ∃ m, m = fac j := ⟨_, rfl⟩
          rw [← hm] at hst hfl ⊢
          have hmul : p i * m ≤ 68719476736 * 38 := Nat.mul_le_mul hpi hfl
          obtain ⟨V, hV⟩ : ∃ V, V = wr.drew := ⟨_, rfl⟩
          have gV : wr.grownBy V none := by rw [hV]; exact grown_drew (grown_refl wr none)
          have hFV := hF.grown (by decide) gV (by simp)
          have hPV := hP.grown Hn0.out gV (by simp)
          have hgV := grown_trans hgr gV
          have c0 := hFV.cell k hk16
          have f0 := hFV.free k
          have c1 := hPV.cell i Hlt.out
          have hF2 := (hFV.set k (redX p i k + p i * m) hk16).congr hst
          have hP2 := hPV.setOther ⟨w.heap.size, k, none⟩ (.int .u64 (redX p i k + p i * m : Nat)) (by exact Ne.symm HPn.out)
          have hg2 := grown_setCell_new hgV ⟨w.heap.size, k, none⟩ (.int .u64 (redX p i k + p i * m : Nat)) (Or.inl (Nat.le_refl _))
          obtain ⟨s, hs⟩ : ∃ s, s = redX p i k + p i * m := ⟨_, rfl⟩
          rw [← hs] at hF2 hP2 hg2
          generalize p i = pi at *
          generalize redX p i k = xk at *
          have z1 : IntKind.u64.wrap ((xk : Int) + IntKind.u64.wrap ((pi : Int) * (m : Int))) = (s : Int) := by
            rw [mulc, w64 _ (by omega), addc, w64 _ (by omega), hs]
          have HF := Lib.hid hF2
          have HP := Lib.hid hP2
          have HG := Lib.hid hg2
          have HV := Lib.hid hV.symm
          have Z1 := Lib.hid z1
          have k16 : (k : Int) < 16 := by omega
          clear hj hjd ejd hst hle hpi hfl hm hmul hV gV hFV hPV hgV hF hP hgr hF2 hP2 hg2 hs z1 hk16
          go_wp2_with fail
          refine wp_region_still_tail 14 (by kernel_rfl) (by kernel_rfl) ?_
          change wpStill _ _ (World.drew wr) (fun a' => wpList _ _ _ _ a' (World.drew wr)) _ _
          rw [HV.out]
          simp only [List.take_succ_cons, List.take_zero, List.drop_succ_cons, List.drop_zero]
          repeat still_step
          refine wpStill_nil ?_
          simp only [Z1.out]
          go_wp2_with fail
          go_roundw
          case rel => exact ⟨i + 1, by have := Hlt.out; omega, by go_num, HG.out, HF.out, HP.out⟩
          case measure =>
            have := Hlt.out
            simp [intOf]
            try omega
    · have ein : i = n := by omega
      have jb : decide (i < n) = false := decide_eq_false hlt
      have jj : (n : Int) ≤ (i : Int) := by omega
      rw [ein] at hF
      have hx0 : ∀ k, k < 16 → redX p n k ≤ 8796093022208 := fun k _ => Nat.le_trans (redX_le p n Hp.out n (Nat.le_refl _) k) (by decide)
      obtain ⟨x, hx⟩ : ∃ x, x = redX p n := ⟨_, rfl⟩
      rw [← hx] at hF hx0
      have HX := Lib.hid hx
      have HX0 := Lib.hid hx0
      clear hx hx0 ein hlt hi hP
      go_wp2_with fail
      clear jb jj
      go_loopw [8, 9, 10] (fun u8 _ _ wr => ∃ r : Nat, r ≤ 4 ∧ u8 = .int .i64 r ∧ w.grownBy wr none ∧ FillU wr w.heap.size 16 (frndN x r)) (fun u8 _ _ _ => 4 - (intOf u8).toNat)
      case atStart => exact ⟨0, by omega, rfl, hgr, hF⟩
      case round =>
        clear hgr hF
        obtain ⟨r, hr, rfl, hgr, hF⟩ := hrel
        by_cases hlt : r < 4
        · have j1 : (r : Int) < 4 := by omega
          have hy0 := frndN_le x HX0.out r
          obtain ⟨y, hy⟩ : ∃ y, y = frndN x r := ⟨_, rfl⟩
          rw [← hy] at hF hy0
          have HY := Lib.hid hy
          have HY0 := Lib.hid hy0
          have Hr := Lib.hid hlt
          have hF0 := hF.congr (g := carX y 0) (fun j _ => (if_neg (Nat.not_lt_zero j)).symm)
          clear hy hy0 hr hlt hF
          go_wp2_with fail
          go_loopw [9, 10] (fun u9 u10 wr => ∃ i : Nat, i ≤ 16 ∧ u10 = .int .i64 i ∧ u9 = .int .u64 (cry 16 y i : Nat) ∧ w.grownBy wr none ∧ FillU wr w.heap.size 16 (carX y i)) (fun _ u10 _ => 16 - (intOf u10).toNat)
          case atStart => exact ⟨0, by omega, rfl, rfl, hgr, hF0⟩
          case round =>
            clear hgr hF0
            obtain ⟨i, hi, rfl, rfl, hgr, hF⟩ := hrel
            by_cases hlt : i < 16
            · have j2 : (i : Int) < 16 := by omega
              have h1 := HY0.out i hlt
              have h2 := cry_bound y HY0.out i (by omega)
              have h3 : cry 16 y (i + 1) = (y i + cry 16 y i) / 65536 := rfl
              have h4 : nrm 16 y i = (y i + cry 16 y i) % 65536 := rfl
              have c0 := hF.cell i hlt
              have ec : carX y i i = y i := if_neg (Nat.lt_irrefl i)
              rw [ec] at c0
              have f0 := hF.free i
              obtain ⟨a0, ha0⟩ : ∃ a, a = cry 16 y i := ⟨_, rfl⟩
              obtain ⟨a1, ha1⟩ : ∃ a, a = cry 16 y (i + 1) := ⟨_, rfl⟩
              obtain ⟨m, hm⟩ : ∃ a, a = nrm 16 y i := ⟨_, rfl⟩
              rw [← ha0] at h2 h3 h4 ⊢
              rw [← ha1] at h3
              rw [← hm] at h4
              obtain ⟨t, ht⟩ : ∃ t, t = y i + a0 := ⟨_, rfl⟩
              rw [← ht] at h3 h4
              have hF1 := hF.set i t hlt
              have c2 := hF1.cell i hlt
              rw [upd_same] at c2
              have hF2 := (hF1.set i m hlt).congr (g := carX y (i + 1)) (fun j _ => by rw [hm]; exact carX_step y i t j)
              have hg2 := grown_setCell_new (grown_setCell_new hgr ⟨w.heap.size, i, none⟩ (.int .u64 (t : Nat)) (Or.inl (Nat.le_refl _))) ⟨w.heap.size, i, none⟩ (.int .u64 (m : Nat)) (Or.inl (Nat.le_refl _))
              generalize y i = yi at *
              have z1 : IntKind.u64.wrap ((yi : Int) + (a0 : Int)) = (t : Int) := by rw [IntKind.wrap_u64]; omega
              have z2 : (t : Int) / 65536 = (a1 : Int) := by omega
              have z3 : (t : Int) % 65536 = (m : Int) := by omega
              have z4 : IntKind.u64.wrap (a1 : Int) = (a1 : Int) := by rw [IntKind.wrap_u64]; omega
              have z5 : IntKind.u64.wrap (m : Int) = (m : Int) := by rw [IntKind.wrap_u64]; omega
              have HA := Lib.hid ha1
              have HI := Lib.hid hlt
              have HF := Lib.hid hF2
              have HG := Lib.hid hg2
              clear h1 h2 h3 h4 ec ha0 ha1 hm ht hi hF hgr hF1 hF2 hg2
              go_wp2_with fail
              first
                | exact ⟨⟨i + 1, by omega, by go_num, by rw [HA.out], HG.out, HF.out⟩, by simp [intOf]; omega⟩
                | (go_roundw
                   case rel => exact ⟨i + 1, by have := HI.out; omega, by go_num, by rw [HA.out], HG.out, HF.out⟩
                   case measure =>
                     have := HI.out
                     simp [intOf]
                     try omega)
            · obtain rfl : i = 16 := by omega
              have h2 := cry_bound y HY0.out 16 (by omega)
              have h4 := nrm_lt 16 y 0
              have hF2 := (hF.set 0 (nrm 16 y 0 + 38 * cry 16 y 16) (by decide)).congr (g := frndN x (r + 1)) (fun j hj => by
                rw [carX_end y j hj, HY.out]
                rfl)
              have hg2 := grown_setCell_new hgr ⟨w.heap.size, 0, none⟩ (.int .u64 (nrm 16 y 0 + 38 * cry 16 y 16 : Nat)) (Or.inl (Nat.le_refl _))
              have c0 := hF.cell 0 (by decide)
              have ec : carX y 16 0 = nrm 16 y 0 := if_pos (by decide)
              rw [ec] at c0
              have f0 := hF.free 0
              obtain ⟨t, ht⟩ : ∃ t, t = nrm 16 y 0 + 38 * cry 16 y 16 := ⟨_, rfl⟩
              rw [← ht] at hF2 hg2
              generalize nrm 16 y 0 = m at *
              generalize cry 16 y 16 = a at *
              have z1 : IntKind.u64.wrap ((m : Int) + IntKind.u64.wrap (38 * (a : Int))) = (t : Int) := by
                rw [IntKind.wrap_u64, IntKind.wrap_u64]
                omega
              have HF := Lib.hid hF2
              have HG := Lib.hid hg2
              clear h2 h4 ec ht hi hlt hF hgr hF2 hg2
              have Z1 := Lib.hid z1
              clear z1
              go_wp2_with fail
              simp only [Z1.out]
              go_roundw
              case rel => exact ⟨r + 1, by have := Hr.out; omega, by go_num, HG.out, HF.out⟩
              case measure =>
                have := Hr.out
                simp [intOf]
                try omega
        · obtain rfl : r = 4 := by omega
          have hz0 : ∀ k, k < 16 → frndN x 4 k < 65536 := fun k _ => frnd_four x HX0.out k
          have hm0 : val 16 (frndN x 4) 16 % pF = val 16 p n % pF := (frndN_mod x 4).trans (by rw [HX.out]; exact Hmod.out)
          obtain ⟨y, hy⟩ : ∃ y, y = frndN x 4 := ⟨_, rfl⟩
          rw [← hy] at hF hz0 hm0
          have HZ0 := Lib.hid hz0
          have HM0 := Lib.hid hm0
          clear hy hz0 hm0 hlt hr HX HX0
          go_wp2_with fail
          go_loopw [12, 13, 14, 15] (fun _ _ _ _ wr => ∃ z : Nat → Nat, Hid (∀ k, k < 16 → z k < 65536) ∧ Hid (val 16 z 16 % pF = val 16 p n % pF) ∧ w.grownBy wr none ∧ FillU wr w.heap.size 16 z) (fun _ _ _ _ wr => valAt wr w.heap.size)
          case atStart => exact ⟨y, HZ0, HM0, hgr, hF⟩
          case round =>
            clear hgr hF HZ0 HM0
            obtain ⟨z, hz, hm, hgr, hF⟩ := hrel
            have hL := refLeast_any w.heap.size z wr hz.out hF
            by_cases hlt : val 16 z 16 < pF
            · rw [decide_eq_true hlt] at hL
              have hS := hF.congr (g := S) (fun k hk => by rw [HS.out]; exact fin_lim z (val 16 p n) hz.out hm.out hlt k hk)
              have HL := Lib.hid hL
              clear hL hlt hF
              go_wp2_with fail
              go_at_call 44
              refine HL.out.mono ?_
              rintro e U ⟨rfl, gU⟩
              have hS2 := hS.grown (by decide) gU (by simp)
              go_wp2_with fail
              go_ret
              exact ⟨⟨_, rfl, Nat.le_refl _, hS2⟩, grown_trans hgr gU⟩
            · rw [decide_eq_false hlt] at hL
              have hsm := sub_mod z hz.out (Nat.le_of_not_lt hlt)
              have hvz := hF.valAt
              have HSm := Lib.hid hsm
              have HVz := Lib.hid hvz
              have HLt := Lib.hid hlt
              have HL := Lib.hid hL
              have HF0 := Lib.hid hF
              clear hL hlt hsm hvz
              go_wp2_with fail
              go_at_call 44
              refine HL.out.mono ?_
              rintro e U ⟨rfl, gU⟩
              replace hF := hF.grown (by decide) gU (by simp)
              replace hgr := grown_trans hgr gU
              have hpr := prime_any U
              have HPr := Lib.hid hpr
              clear hpr HL gU
              go_wp2_with fail
              go_at_call 33
              refine HPr.out.mono ?_
              rintro e U2 ⟨⟨b2, rfl, hb2, hPr⟩, gU2⟩
              have hbl := hF.lt (by decide)
              have HNe := Lib.hid (show b2 ≠ w.heap.size by omega)
              have hFs := (hF.grown (by decide) gU2 (by simp)).congr (g := subX16 z 0) (fun j _ => (if_neg (Nat.not_lt_zero j)).symm)
              have hgs := grown_trans hgr gU2
              clear HPr hF hgr gU2 hbl hb2
              go_wp2_with fail
              go_loopw [13, 14, 15] (fun u13 u14 _ wr => ∃ i : Nat, i ≤ 16 ∧ u14 = .int .i64 i ∧ u13 = .int .u64 (brw 16 z pL i : Nat) ∧ w.grownBy wr none ∧ FillU wr w.heap.size 16 (subX16 z i) ∧ FillU wr b2 16 pL) (fun _ u14 _ _ => 16 - (intOf u14).toNat)
              case atStart => exact ⟨0, by omega, rfl, rfl, hgs, hFs, hPr⟩
              case round =>
                clear hgs hFs hPr
                obtain ⟨i, hi, rfl, rfl, hgr, hF, hPr⟩ := hrel
                by_cases hlt : i < 16
                · have j2 : (i : Int) < 16 := by omega
                  have h1 := hz.out i hlt
                  have h2 := pL_lt i
                  have h3 : brw 16 z pL (i + 1) = 1 - (65536 + z i - pL i - brw 16 z pL i) / 65536 := rfl
                  have h4 : sbt 16 z pL i = (65536 + z i - pL i - brw 16 z pL i) % 65536 := rfl
                  have h5 := brw_le 16 z pL i
                  have c0 := hF.cell i hlt
                  have ec : subX16 z i i = z i := if_neg (Nat.lt_irrefl i)
                  rw [ec] at c0
                  have c1 := hPr.cell i hlt
                  obtain ⟨a0, ha0⟩ : ∃ a, a = brw 16 z pL i := ⟨_, rfl⟩
                  obtain ⟨a1, ha1⟩ : ∃ a, a = brw 16 z pL (i + 1) := ⟨_, rfl⟩
                  obtain ⟨m, hm'⟩ : ∃ a, a = sbt 16 z pL i := ⟨_, rfl⟩
                  rw [← ha0] at h3 h4 h5 ⊢
                  rw [← ha1] at h3
                  rw [← hm'] at h4
                  obtain ⟨d, hd⟩ : ∃ d, d = 65536 + z i - pL i - a0 := ⟨_, rfl⟩
                  rw [← hd] at h3 h4
                  obtain ⟨q, hq⟩ : ∃ q, q = d / 65536 := ⟨_, rfl⟩
                  rw [← hq] at h3
                  have hFV := fun V (h : FillU V w.heap.size 16 (subX16 z i)) => (h.set i m hlt).congr (g := subX16 z (i + 1)) (fun j _ => by rw [hm']; exact subX16_step z i j)
                  generalize z i = zi at *
                  generalize pL i = pi at *
                  have z1 : IntKind.u64.wrap (IntKind.u64.wrap (IntKind.u64.wrap (65536 + (zi : Int)) - (pi : Int)) - (a0 : Int)) = (d : Int) := by
                    rw [IntKind.wrap_u64, IntKind.wrap_u64, IntKind.wrap_u64]
                    omega
                  have z2 : (d : Int) / 65536 = (q : Int) := by omega
                  have z3 : IntKind.u64.wrap (1 - (q : Int)) = (a1 : Int) := by rw [IntKind.wrap_u64]; omega
                  have z4 : (d : Int) % 65536 = (m : Int) := by omega
                  have z5 : IntKind.u64.wrap (m : Int) = (m : Int) := by rw [IntKind.wrap_u64]; omega
                  have z6 : IntKind.u64.wrap (q : Int) = (q : Int) := by rw [IntKind.wrap_u64]; omega
                  have HA := Lib.hid ha1
                  have HI := Lib.hid hlt
                  have HF := Lib.hid hF
                  have HFV := Lib.hid hFV
                  have HPr := Lib.hid hPr
                  have HG := Lib.hid hgr
                  have Z1 := Lib.hid z1
                  clear h1 h2 h3 h4 h5 ec ha0 ha1 hm' hd hq hi hF hgr hPr hFV z1
                  go_wp2_with fail
                  go_quiet (fail)
                  simp only [Z1.out]
                  obtain ⟨V, hV⟩ : ∃ V, V = wr.drewN nq := ⟨_, rfl⟩
                  have hF1 : FillU V w.heap.size 16 (subX16 z i) := by rw [hV]; exact HF.out.drewN nq
                  have hP1 : FillU V b2 16 pL := by rw [hV]; exact HPr.out.drewN nq
                  have hg1 : w.grownBy V none := by rw [hV]; exact grown_drewN HG.out nq
                  rw [← hV]
                  have c2 := hF1.cell i HI.out
                  have f2 := hF1.free i
                  have hF2 := HFV.out V hF1
                  have hP2 := hP1.setOther ⟨w.heap.size, i, none⟩ (.int .u64 (m : Nat)) (by exact HNe.out)
                  have hg2 := grown_setCell_new hg1 ⟨w.heap.size, i, none⟩ (.int .u64 (m : Nat)) (Or.inl (Nat.le_refl _))
                  have HF2 := Lib.hid hF2
                  have HP2 := Lib.hid hP2
                  have HG2 := Lib.hid hg2
                  clear hV hF1 hP1 hg1 hF2 hP2 hg2 c0 c1
                  go_wp2_with fail
                  first
                    | exact ⟨⟨i + 1, by omega, by go_num, by rw [HA.out], HG2.out, HF2.out, HP2.out⟩, by simp [intOf]; omega⟩
                    | (go_roundw
                       case rel => exact ⟨i + 1, by have := HI.out; omega, by go_num, by rw [HA.out], HG2.out, HF2.out, HP2.out⟩
                       case measure =>
                         have := HI.out
                         simp [intOf]
                         try omega)
                · obtain rfl : i = 16 := by omega
                  have hE := hF.congr (g := sbt 16 z pL) (fun j hj => if_pos hj)
                  have hv := hE.valAt
                  have HE := Lib.hid hE
                  have HV := Lib.hid hv
                  have HG := Lib.hid hgr
                  clear hE hv hgr hF hPr hlt hi
                  go_wp2_with fail
                  go_roundw
                  case rel =>
                    (repeat apply Exists.intro)
                    exact ⟨⟨sbt 16 z pL, Lib.hid (fun k _ => sbt_lt16 z k), Lib.hid (HSm.out.2.trans hm.out), HG.out, HE.out⟩, rfl⟩
                  case measure =>
                    rw [HV.out, HVz.out, HSm.out.1]
                    have := HLt.out
                    have := pF_pos
                    omega
end Go.Proofs.Ytpnddojcihdniaa
