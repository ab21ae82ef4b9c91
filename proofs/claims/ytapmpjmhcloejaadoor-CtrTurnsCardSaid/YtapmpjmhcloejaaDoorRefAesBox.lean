/-
  S of all bytes, as the document's table has them.
-/
import Derived.Test.YtapmpjmhcloejaaDoorRefAesAff
import Derived.Deep.DeepCutAuto
import Derived.Test.YtapmpjmhcloejaaDoorMake
import Derived.Test.YtapmpjmhcloejaaDoorGrowQ
import Derived.StillTailTactics
namespace Go.Proofs.YtapmpjmhcloejaaDoor
open Go.RowKit

set_option maxRecDepth 100000
set_option maxHeartbeats 2000000

theorem box_any (w : World) : Calls Tryd.prog 10 #[] w fun e w' => ∃ r, e = .returned (.slice (some ⟨r, 0, none⟩) 256 256) ∧ w.heap.size ≤ r ∧ Fill w' r 256 sB ∧ w.grownBy w' none := by
  obtain ⟨c1, hm1, hF1⟩ := make_any 256 (by decide) w
  have hm1' : (Instr.makeSlice 22 (.int .i64 256) (.int .i64 256)).run Tryd.prog w = .ok (.slice (some ⟨w.heap.size, 0, none⟩) 256 256) (w.alloc (.cells c1 5)) := hm1
  have hg1 := World.grownBy_alloc w (.cells c1 5) none
  have hz1 := World.size_alloc w (.cells c1 5)
  generalize w.alloc (.cells c1 5) = w1 at *
  clear hm1
  go_enter Tryd.func10, Tryd.ntmps10
  go_wp2_with fail
  clear hm1'
  obtain ⟨r1, hr1⟩ : ∃ r1, r1 = w.heap.size := ⟨_, rfl⟩
  rw [← hr1] at hF1 ⊢
  have Hr1 := Lib.hid hr1
  clear hr1
  go_loopw [2, 3, 4] (fun u2 u3 u4 wr => ∃ i : Nat, i ≤ 255 ∧ u4 = .int .i64 i ∧ u2 = .int .u8 (upS i : Nat) ∧ u3 = .int .u8 (dnS i : Nat) ∧ Fill wr r1 256 (invT i) ∧ w.grownBy wr none) (fun _ _ u4 _ => 255 - (intOf u4).toNat)
  case atStart => exact ⟨0, by omega, rfl, rfl, rfl, hF1, hg1⟩
  case round =>
    clear hF1 hg1
    obtain ⟨i, hi, rfl, rfl, rfl, hF, hg⟩ := hrel
    by_cases hlt : i < 255
    · have j1 : (i : Int) < 255 := by omega
      have hup := upS_lt i
      have hdn := dnS_lt i
      have HU : Hid (upS (i + 1) = tms (upS i) 3) := rfl
      have HD : Hid (dnS (i + 1) = tms (dnS i) 246) := rfl
      have hT : Hid (invT (i + 1) = upd (invT i) (upS i) (dnS i)) := rfl
      generalize upS i = u at *
      generalize dnS i = d at *
      have j2 : (u : Int) < 256 := by omega
      have c1 := hF.cell u hup
      have f1 := hF.free u
      have HF : Hid (Fill (wr.setCell ⟨r1, u, none⟩ (.int .u8 (d : Nat))) r1 256 (invT (i + 1))) := Lib.hid (by rw [hT.out]; exact hF.set u d hup)
      have HG : Hid (w.grownBy (wr.setCell ⟨r1, u, none⟩ (.int .u8 (d : Nat))) none) := Lib.hid (grown_setCell_new hg ⟨r1, u, none⟩ (.int .u8 (d : Nat)) (Or.inl (by show w.heap.size ≤ r1; rw [Hr1.out]; omega)))
      have T1 : Hid (∀ W, Calls Tryd.prog 21 #[.int .u8 u, .int .u8 3] W fun e w' => e = .returned (.int .u8 (tms u 3 : Nat)) ∧ W = w') := Lib.hid (fun W => times_any u 3 W hup (by decide))
      have T2 : Hid (∀ W, Calls Tryd.prog 21 #[.int .u8 d, .int .u8 246] W fun e w' => e = .returned (.int .u8 (tms d 246 : Nat)) ∧ W = w') := Lib.hid (fun W => times_any d 246 W hdn (by decide))
      clear hF hg hT hup hdn
      go_wp2_with (first
        | (go_at_call 21; (with_reducible refine (T1.out _).mono ?_); rintro e w' ⟨rfl, rfl⟩)
        | (go_at_call 21; (with_reducible refine (T2.out _).mono ?_); rintro e w' ⟨rfl, rfl⟩))
      first
        | exact ⟨⟨i + 1, by omega, by go_num, by rw [HU.out], by rw [HD.out], HF.out, HG.out⟩, by simp [intOf]; omega⟩
        | (go_roundw
           case rel => first | exact ⟨i + 1, by omega, by go_num, by rw [HU.out], by rw [HD.out], HF.out, HG.out⟩ | ((repeat apply Exists.intro); exact ⟨⟨i + 1, by omega, by go_num, by rw [HU.out], by rw [HD.out], HF.out, HG.out⟩, rfl⟩)
           case measure => simp [intOf]; omega)
    · obtain rfl : i = 255 := by omega
      obtain ⟨c2, hm2, hF2⟩ := make_any 256 (by decide) wr
      have hm2' : (Instr.makeSlice 22 (.int .i64 256) (.int .i64 256)).run Tryd.prog wr = .ok (.slice (some ⟨wr.heap.size, 0, none⟩) 256 256) (wr.alloc (.cells c2 5)) := hm2
      have hg2 := grown_alloc hg (.cells c2 5)
      have hF12 := hF.grown (by decide) (World.grownBy_alloc wr (.cells c2 5) none) (by simp)
      have hlt1 := hF.lt (by decide)
      generalize wr.alloc (.cells c2 5) = w2 at *
      clear hm2 hlt hi
      go_wp2_with fail
      clear hm2'
      obtain ⟨r2, hr2⟩ : ∃ r2, r2 = wr.heap.size := ⟨_, rfl⟩
      rw [← hr2] at hF2 hlt1 ⊢
      have hr2w : w.heap.size ≤ r2 := by rw [hr2]; exact hg.size
      clear hr2 hg hF
      go_loopw [6, 7, 8, 9] (fun u6 _ _ _ wq => ∃ i : Nat, i ≤ 256 ∧ u6 = .int .i64 i ∧ Fill wq r1 256 (invT 255) ∧ Fill wq r2 256 (fun j => if j < i then sB j else 0) ∧ w.grownBy wq none) (fun u6 _ _ _ _ => 256 - (intOf u6).toNat)
      case atStart => exact ⟨0, by omega, rfl, hF12, hF2, hg2⟩
      case round =>
        obtain ⟨i, hi, rfl, hFa, hFb, hgq⟩ := hrel
        clear hF12 hF2 hg2
        by_cases hlt : i < 256
        · have j1 : (i : Int) < 256 := by omega
          have c1 := hFa.cell i hlt
          have hHa := Lib.hid hFa
          have hHb := Lib.hid hFb
          have hHg := Lib.hid hgq
          have hII : Hid (0 < i → invT 255 i = inv i) := Lib.hid (fun h => invT_end i hlt h)
          generalize invT 255 i = z at *
          clear hFa hFb hgq
          go_upto_if 33 with fail
          go_cut [7] (fun s7 wx => s7 = .int .u8 (inv i : Nat) ∧ wx = wr)
          case first =>
            clear hHa hHb hHg
            by_cases h0 : i = 0
            · subst h0
              clear hII
              go_wp2_with fail
              go_meet
              case rel => exact ⟨rfl, rfl⟩
            · have hz := hII.out (by omega)
              have hn : ((i : Int) == 0) = false := by rw [beq_eq_false_iff_ne]; omega
              subst hz
              clear hII h0
              go_wp2_with fail
              go_meet
              case rel => exact ⟨rfl, rfl⟩
          case rest =>
            obtain ⟨rfl, rfl⟩ := hcut
            have hy8 := inv_lt i
            have hS : Hid (aff (inv i) 8 = sB i) := Lib.hid (aff_inv i hlt)
            generalize inv i = y at *
            clear c1 hII
            have hHb0 : Hid (Fill wc r2 256 (fun j => if j < i then sB j else if j = i then aff y 0 else 0)) := Lib.hid (hHb.out.congr (fun j hj => by
              by_cases e : j < i
              · rw [if_pos e, if_pos e]
              · rw [if_neg e, if_neg e]; show 0 = if j = i then 0 else 0; split <;> rfl))
            clear hHb
            go_wp2_with fail
            go_loopw [8, 9] (fun u8 _ wq => ∃ k : Nat, k ≤ 8 ∧ u8 = .int .i64 k ∧ Fill wq r1 256 (invT 255) ∧ Fill wq r2 256 (fun j => if j < i then sB j else if j = i then aff y k else 0) ∧ w.grownBy wq none) (fun u8 _ _ => 8 - (intOf u8).toNat)
            case atStart => exact ⟨0, by omega, rfl, hHa.out, hHb0.out, hHg.out⟩
            case round =>
              clear hHa hHb0 hHg
              obtain ⟨k, hk, rfl, hFa, hFb, hgq⟩ := hrel
              by_cases hlk : k < 8
              · have q1 : (k : Int) < 8 := by omega
                have hst := aff_step y k
                unfold affN at hst
                obtain ⟨v0, hv0⟩ : ∃ v, v = y / 2 ^ k % 2 := ⟨_, rfl⟩
                have B0 : Hid (∀ W, Calls Tryd.prog 22 #[.int .u8 y, .int .i64 k] W fun e w' => e = .returned (.int .i64 v0) ∧ W = w') := Lib.hid (fun W => bit_any y k v0 hy8 hlk hv0 W)
                have q20 : v0 < 2 := by rw [hv0]; exact Nat.mod_lt _ (by decide)
                rw [← hv0] at hst
                have q30 : (v0 : Int) < 2 := by omega
                clear hv0
                obtain ⟨m4, hm4⟩ : ∃ m, m = (k + 4) % 8 := ⟨_, rfl⟩
                have e14 : ((k : Int) + 4).tmod 8 = (m4 : Int) := by rw [Int.tmod_eq_emod_of_nonneg (by omega)]; omega
                rw [← hm4] at hst
                obtain ⟨v4, hv4⟩ : ∃ v, v = y / 2 ^ m4 % 2 := ⟨_, rfl⟩
                have B4 : Hid (∀ W, Calls Tryd.prog 22 #[.int .u8 y, .int .i64 m4] W fun e w' => e = .returned (.int .i64 v4) ∧ W = w') := Lib.hid (fun W => bit_any y m4 v4 hy8 (by omega) hv4 W)
                have q24 : v4 < 2 := by rw [hv4]; exact Nat.mod_lt _ (by decide)
                rw [← hv4] at hst
                have q34 : (v4 : Int) < 2 := by omega
                clear hv4 hm4
                obtain ⟨m5, hm5⟩ : ∃ m, m = (k + 5) % 8 := ⟨_, rfl⟩
                have e15 : ((k : Int) + 5).tmod 8 = (m5 : Int) := by rw [Int.tmod_eq_emod_of_nonneg (by omega)]; omega
                rw [← hm5] at hst
                obtain ⟨v5, hv5⟩ : ∃ v, v = y / 2 ^ m5 % 2 := ⟨_, rfl⟩
                have B5 : Hid (∀ W, Calls Tryd.prog 22 #[.int .u8 y, .int .i64 m5] W fun e w' => e = .returned (.int .i64 v5) ∧ W = w') := Lib.hid (fun W => bit_any y m5 v5 hy8 (by omega) hv5 W)
                have q25 : v5 < 2 := by rw [hv5]; exact Nat.mod_lt _ (by decide)
                rw [← hv5] at hst
                have q35 : (v5 : Int) < 2 := by omega
                clear hv5 hm5
                obtain ⟨m6, hm6⟩ : ∃ m, m = (k + 6) % 8 := ⟨_, rfl⟩
                have e16 : ((k : Int) + 6).tmod 8 = (m6 : Int) := by rw [Int.tmod_eq_emod_of_nonneg (by omega)]; omega
                rw [← hm6] at hst
                obtain ⟨v6, hv6⟩ : ∃ v, v = y / 2 ^ m6 % 2 := ⟨_, rfl⟩
                have B6 : Hid (∀ W, Calls Tryd.prog 22 #[.int .u8 y, .int .i64 m6] W fun e w' => e = .returned (.int .i64 v6) ∧ W = w') := Lib.hid (fun W => bit_any y m6 v6 hy8 (by omega) hv6 W)
                have q26 : v6 < 2 := by rw [hv6]; exact Nat.mod_lt _ (by decide)
                rw [← hv6] at hst
                have q36 : (v6 : Int) < 2 := by omega
                clear hv6 hm6
                obtain ⟨m7, hm7⟩ : ∃ m, m = (k + 7) % 8 := ⟨_, rfl⟩
                have e17 : ((k : Int) + 7).tmod 8 = (m7 : Int) := by rw [Int.tmod_eq_emod_of_nonneg (by omega)]; omega
                rw [← hm7] at hst
                obtain ⟨v7, hv7⟩ : ∃ v, v = y / 2 ^ m7 % 2 := ⟨_, rfl⟩
                have B7 : Hid (∀ W, Calls Tryd.prog 22 #[.int .u8 y, .int .i64 m7] W fun e w' => e = .returned (.int .i64 v7) ∧ W = w') := Lib.hid (fun W => bit_any y m7 v7 hy8 (by omega) hv7 W)
                have q27 : v7 < 2 := by rw [hv7]; exact Nat.mod_lt _ (by decide)
                rw [← hv7] at hst
                have q37 : (v7 : Int) < 2 := by omega
                clear hv7 hm7
                obtain ⟨v9, hv9⟩ : ∃ v, v = 99 / 2 ^ k % 2 := ⟨_, rfl⟩
                have B9 : Hid (∀ W, Calls Tryd.prog 22 #[.int .u8 99, .int .i64 k] W fun e w' => e = .returned (.int .i64 v9) ∧ W = w') := Lib.hid (fun W => bit_any 99 k v9 (by decide) hlk hv9 W)
                have q29 : v9 < 2 := by rw [hv9]; exact Nat.mod_lt _ (by decide)
                rw [← hv9] at hst
                have q39 : (v9 : Int) < 2 := by omega
                clear hv9
                obtain ⟨p, hp⟩ : ∃ p, p = 2 ^ k := ⟨_, rfl⟩
                have hpw : Hid (∀ W, Calls Tryd.prog 23 #[.int .i64 k] W fun e w' => e = .returned (.int .u8 p) ∧ W = w') := Lib.hid (fun W => power3_any k p hlk hp W)
                have hp8 : p ≤ 128 := by rw [hp]; exact Nat.pow_le_pow_right (by decide) (by omega : k ≤ 7)
                obtain ⟨o, ho⟩ : ∃ o, o = aff y k := ⟨_, rfl⟩
                have hlo := aff_lt y k
                rw [← ho, ← hp] at hst hlo
                have hc2 := hFb.cell i hlt
                rw [if_neg (by omega), if_pos rfl, ← ho] at hc2
                have f2 := hFb.free i
                obtain ⟨c, hc⟩ : ∃ c, c = (v0 + v4 + v5 + v6 + v7 + v9) % 2 := ⟨_, rfl⟩
                rw [← hc] at hst
                have e2 : IntKind.u8.wrap ((o : Int) + (p : Int)) = ((o + p : Nat) : Int) := by rw [IntKind.wrap_u8]; omega
                have e3 : ((v0 : Int) + v4 + v5 + v6 + v7 + v9).tmod 2 = (c : Int) := by rw [Int.tmod_eq_emod_of_nonneg (by omega)]; omega
                have hcc : c = 0 ∨ c = 1 := by omega
                have HS := Lib.hid hst
                have HFa := Lib.hid hFa
                have HFb := Lib.hid hFb
                have HG := Lib.hid hgq
                have HO := Lib.hid ho
                clear hst hp ho hc hFa hFb hgq hp8 hlo
                rcases hcc with rfl | rfl
                · go_wp2_with (first
                    | (go_at_call 22; (with_reducible refine (B0.out _).mono ?_); rintro e w' ⟨rfl, rfl⟩)
                    | (go_at_call 22; (with_reducible refine (B4.out _).mono ?_); rintro e w' ⟨rfl, rfl⟩)
                    | (go_at_call 22; (with_reducible refine (B5.out _).mono ?_); rintro e w' ⟨rfl, rfl⟩)
                    | (go_at_call 22; (with_reducible refine (B6.out _).mono ?_); rintro e w' ⟨rfl, rfl⟩)
                    | (go_at_call 22; (with_reducible refine (B7.out _).mono ?_); rintro e w' ⟨rfl, rfl⟩)
                    | (go_at_call 22; (with_reducible refine (B9.out _).mono ?_); rintro e w' ⟨rfl, rfl⟩))
                  go_roundw
                  case rel => first | exact ⟨k + 1, by omega, by go_num, HFa.out, HFb.out.congr (fun j hj => by rw [HS.out, HO.out]; simp), HG.out⟩ | ((repeat apply Exists.intro); exact ⟨⟨k + 1, by omega, by go_num, HFa.out, HFb.out.congr (fun j hj => by rw [HS.out, HO.out]; simp), HG.out⟩, rfl⟩)
                  case measure => simp [intOf]; omega
                · go_wp2_with (first
                    | (go_at_call 22; (with_reducible refine (B0.out _).mono ?_); rintro e w' ⟨rfl, rfl⟩)
                    | (go_at_call 22; (with_reducible refine (B4.out _).mono ?_); rintro e w' ⟨rfl, rfl⟩)
                    | (go_at_call 22; (with_reducible refine (B5.out _).mono ?_); rintro e w' ⟨rfl, rfl⟩)
                    | (go_at_call 22; (with_reducible refine (B6.out _).mono ?_); rintro e w' ⟨rfl, rfl⟩)
                    | (go_at_call 22; (with_reducible refine (B7.out _).mono ?_); rintro e w' ⟨rfl, rfl⟩)
                    | (go_at_call 22; (with_reducible refine (B9.out _).mono ?_); rintro e w' ⟨rfl, rfl⟩))
                  have c2d : wr.drew.cell? ⟨r2, i, none⟩ = some (.int .u8 (o : Nat)) := hc2
                  have f2d : wr.drew.frozen? ⟨r2, i, none⟩ = false := f2
                  have hFad := HFa.out.drew
                  have hFbd := HFb.out.drew
                  have hGd := grown_drew HG.out
                  clear hc2 f2 HFa HFb HG
                  refine wp_region_still_tail 10 (by kernel_rfl) (by kernel_rfl) ?_
                  change wpStill _ _ wr.drew (fun a' => wpList _ _ _ _ a' wr.drew) _ _
                  generalize wr.drew = w2' at *
                  simp only [List.take_succ_cons, List.take_zero, List.drop_succ_cons, List.drop_zero]
                  repeat still_step
                  still_call ((hpw.out _).mono fun _ _ h => ⟨h.1, h.2.symm⟩)
                  repeat still_step
                  refine wpStill_nil ?_
                  have HFa2 : Hid (Fill (w2'.setCell ⟨r2, i, none⟩ (.int .u8 (o + p : Nat))) r1 256 (invT 255)) := Lib.hid (hFad.setOther _ _ (by show r1 ≠ r2; omega))
                  have HFb2 : Hid (Fill (w2'.setCell ⟨r2, i, none⟩ (.int .u8 (o + p : Nat))) r2 256 (fun j => if j < i then sB j else if j = i then aff y (k + 1) else 0)) := Lib.hid ((hFbd.set i (o + p) hlt).congr (fun j hj => by
                    by_cases e : j = i
                    · subst e; rw [upd_same, if_neg (by omega), if_pos rfl, HS.out, Nat.one_mul]
                    · rw [upd_other _ _ _ _ e, if_neg e, if_neg e]))
                  have HG2 : Hid (w.grownBy (w2'.setCell ⟨r2, i, none⟩ (.int .u8 (o + p : Nat))) none) := Lib.hid (grown_setCell_new hGd ⟨r2, i, none⟩ (.int .u8 (o + p : Nat)) (Or.inl hr2w))
                  clear hFad hFbd hGd
                  go_wp2_with fail
                  go_roundw
                  case rel => first | exact ⟨k + 1, by omega, by go_num, HFa2.out, HFb2.out, HG2.out⟩ | ((repeat apply Exists.intro); exact ⟨⟨k + 1, by omega, by go_num, HFa2.out, HFb2.out, HG2.out⟩, rfl⟩)
                  case measure => simp [intOf]; omega
              · obtain rfl : k = 8 := by omega
                go_wp2_with fail
                go_roundw
                case rel => exact ⟨i + 1, by omega, by go_num, hFa, hFb.congr (fun j hj => by
                    by_cases e : j < i
                    · rw [if_pos e, if_pos (by omega)]
                    · by_cases e2 : j = i
                      · subst e2
                        rw [if_neg e, if_pos rfl, if_pos (by omega)]; exact hS.out
                      · rw [if_neg e, if_neg e2, if_neg (by omega)]), hgq⟩
                case measure => simp [intOf]; omega
        · obtain rfl : i = 256 := by omega
          go_wp2_with fail
          go_ret
          exact ⟨r2, rfl, hr2w, hFb.congr (fun j hj => if_pos hj), hgq⟩

end Go.Proofs.YtapmpjmhcloejaaDoor
