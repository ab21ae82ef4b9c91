/-
  Layer 3's rows, as the statements ask them: they are met.
-/
import Derived.Test.YtbjmgolkgpdenaaDoorAesNew
import Derived.Test.YtbjmgolkgpdenaaDoorAesPair
import Derived.Test.YtbjmgolkgpdenaaDoorStr
namespace Go.Proofs.YtbjmgolkgpdenaaDoor
open Go.RowKit

set_option maxRecDepth 100000
set_option maxHeartbeats 2000000

theorem OwnN.made {w : World} {base : Nat} {v : Value} {n : Nat} {f : Nat → Nat} (h : OwnN w base v n f) (hn : 0 < n) : ∃ g cap, v = .slice (some ⟨g, 0, none⟩) n cap ∧ OwnR w g n cap f ∧ base ≤ g := by
  rcases h.ex with ⟨_, rfl⟩ | h
  · omega
  · exact h

/-- True, and nothing that was is turned. -/
structure SaysYes (w : World) (e : Ending) (w' : World) : Prop where
  ex : e = .returned (.bool true) ∧ w.grownBy w' none

theorem known03 (w : World) (hL : LaidS w 0) (hsz : 0 < w.heap.size) : Calls Tryd.prog 5 #[] w (SaysYes w) := by
  have hB0 : Holds (w.alloc (.cells #[.int .u8 0, .int .u8 0, .int .u8 0, .int .u8 0, .int .u8 0, .int .u8 0, .int .u8 0, .int .u8 0, .int .u8 0, .int .u8 0, .int .u8 0, .int .u8 0, .int .u8 0, .int .u8 0, .int .u8 0, .int .u8 0] 23)) w.heap.size 23 .u8 16 (fun _ => 0) := holds_alloc w 23 .u8 16 (fun _ => 0) _ zero16
  have hg0 := World.grownBy_alloc w (.cells #[.int .u8 0, .int .u8 0, .int .u8 0, .int .u8 0, .int .u8 0, .int .u8 0, .int .u8 0, .int .u8 0, .int .u8 0, .int .u8 0, .int .u8 0, .int .u8 0, .int .u8 0, .int .u8 0, .int .u8 0, .int .u8 0] 23) none
  go_enter Tryd.func5, Tryd.ntmps5
  go_wp2_with fail
  generalize w.alloc (.cells #[.int .u8 0, .int .u8 0, .int .u8 0, .int .u8 0, .int .u8 0, .int .u8 0, .int .u8 0, .int .u8 0, .int .u8 0, .int .u8 0, .int .u8 0, .int .u8 0, .int .u8 0, .int .u8 0, .int .u8 0, .int .u8 0] 23) = w1 at *
  go_loopw [3, 14] (fun _ u14 wr => ∃ i : Nat, i ≤ 16 ∧ u14 = .int .i64 i ∧ w.grownBy wr none ∧ Holds wr w.heap.size 23 .u8 16 (fun j => if j < i then 17 * j else 0)) (fun _ u14 _ => 16 - (intOf u14).toNat)
  case atStart => exact ⟨0, by omega, rfl, hg0, hB0⟩
  case round =>
    clear hg0 hB0
    obtain ⟨i, hi, rfl, hgr, hB⟩ := hrel
    by_cases hlt : i < 16
    · have j1 : (i : Int) < 16 := by omega
      have c1 := hB.cell i hlt
      have f1 := hB.frozen i
      obtain ⟨v, hv⟩ : ∃ v, v = 17 * i := ⟨_, rfl⟩
      have x1 : 17 * (i : Int) = (v : Int) := by omega
      have x2 : (v : Int) < 256 := by omega
      have HB : Hid (Holds (wr.setCell ⟨w.heap.size, i, none⟩ (.int .u8 (v : Nat))) w.heap.size 23 .u8 16 (fun j => if j < i + 1 then 17 * j else 0)) := Lib.hid ((hB.set i v).congr (fun j hj => by
        by_cases e : j = i
        · subst e; rw [upd_same, if_pos (by omega), hv]
        · rw [upd_other _ _ _ _ e]
          by_cases e2 : j < i
          · rw [if_pos e2, if_pos (by omega)]
          · rw [if_neg e2, if_neg (by omega)]))
      have HG : Hid (w.grownBy (wr.setCell ⟨w.heap.size, i, none⟩ (.int .u8 (v : Nat))) none) := Lib.hid (grown_setCell_new hgr ⟨w.heap.size, i, none⟩ (.int .u8 (v : Nat)) (Or.inl (Nat.le_refl _)))
      clear hv hgr hB
      go_wp2_with fail
      first
        | exact ⟨⟨i + 1, by omega, by go_num, HG.out, HB.out⟩, by simp [intOf]; omega⟩
        | (go_roundw
           case rel => exact ⟨i + 1, by omega, by go_num, HG.out, HB.out⟩
           case measure => simp [intOf]; omega)
    · obtain rfl : i = 16 := by omega
      have hB4 : Holds wr w.heap.size 23 .u8 16 (fun j => 17 * j % 256) := hB.congr (fun j hj => by rw [if_pos hj]; omega)
      clear hlt hi hB
      go_wp2_with fail
      generalize wr = wa at *
      go_loopw [2, 4, 23] (fun u2 _ u23 wq => ∃ i : Nat, i ≤ 32 ∧ u23 = .int .i64 i ∧ OwnN wq wa.heap.size u2 i (fun j => j % 256) ∧ wa.grownBy wq none) (fun _ _ u23 _ => 32 - (intOf u23).toNat)
      case atStart => exact ⟨0, by omega, rfl, OwnN.nil _ _ _, grown_refl wa none⟩
      case round =>
        obtain ⟨i, hi, rfl, ho, hgq⟩ := hrel
        by_cases hlt : i < 32
        · have j1 : (i : Int) < 32 := by omega
          have gb := World.grownBy_alloc wr (.cells #[.int .u8 i] 5) none
          have bb := heap_alloc_new wr (.cells #[.int .u8 i] 5)
          have hR1 : Rd (wr.alloc (.cells #[.int .u8 i] 5)) (wr.heap.size + 1) (some ⟨wr.heap.size, 0, none⟩) 1 (fun _ => i) := ⟨fun _ => ⟨wr.heap.size, 0, rfl, by omega, fun k hk => by
            obtain rfl : k = 0 := by omega
            rw [cell_of_row _ _ _ _ _ _ bb]; rfl⟩⟩
          obtain ⟨v3, w3, hap3, ho3, _, hg3⟩ := app_N (w0 := wa) 1 22 (grown_trans hgq gb) (ho.grown gb) hR1 (by omega) (by decide)
          have ho3' : OwnN w3 wa.heap.size v3 (i + 1) (fun j => j % 256) := ⟨ho3.ex.imp id (fun ⟨g', cap', q1, q2, q3⟩ => ⟨g', cap', q1, q2.congr (fun j hj => by
            unfold cat
            by_cases e : j < i
            · rw [if_pos e]
            · have hji : j = i := by omega
              rw [if_neg e, hji]; show i = i % 256; omega), q3⟩)⟩
          have HAP3 := Lib.hid hap3
          clear hap3 ho3 hR1 bb gb
          go_wp2_with (at_builtin; refine wpList_append_run rfl (.tmp 26) (.tmp 29) 22 22 rfl _ (.slice (some ⟨wr.heap.size, 0, none⟩) 1 1) _ _ rfl rfl HAP3.out ?_)
          first
            | exact ⟨⟨i + 1, by omega, by go_num, ho3', hg3⟩, by simp [intOf]; omega⟩
            | (go_roundw
               case rel => first | exact ⟨i + 1, by omega, by go_num, ho3', hg3⟩ | ((repeat apply Exists.intro); exact ⟨⟨i + 1, by omega, by go_num, ho3', hg3⟩, rfl⟩)
               case measure => simp [intOf]; omega)
        · obtain rfl : i = 32 := by omega
          obtain ⟨g, cap, rfl, hO, hgb⟩ := ho.made (by decide)
          have hcap : (32 : Int) ≤ cap := by have := hO.le; omega
          have hkl : ∀ i, (fun j => j % 256) i < 256 := fun i => Nat.mod_lt _ (by decide)
          have hR : Rd wr wr.heap.size (some ⟨g, 0, none⟩) 32 (fun j => j % 256) := hO.rd
          have hR16 : Rd wr wr.heap.size (some ⟨g, 0, none⟩) 16 (fun j => j % 256) := ⟨fun _ => ⟨g, 0, rfl, hO.lt, fun i hi => by rw [Nat.zero_add]; exact hO.cell i (by omega)⟩⟩
          have hgw := grown_trans hgr hgq
          have n1 : Calls Tryd.prog 8 #[.slice (some ⟨g, 0, none⟩) 16 cap] wr (Newc wr 4 (fun j => j % 256)) := new_ok 4 16 cap _ _ wr (hL.grown hgw (by simp)) (Or.inl rfl) rfl hR16 hkl (by have := hgw.size; omega)
          have N1 := Lib.hid n1
          have HB := Lib.hid (hB4.grown hgq (by simp))
          have Hgw := Lib.hid hgw
          have HR := Lib.hid hR
          have HkL := Lib.hid hkl
          have Hgb := Lib.hid hgb
          clear n1 hR16 hlt hi ho hgw hR hkl hgb hgq hgr hB4
          go_wp2_with fail
          go_at_call 8
          with_reducible refine (N1.out).mono ?_
          rintro e w5 ⟨m1, C1, rfl, hm1, hg5, hC1, hc1⟩
          have n2 : Calls Tryd.prog 8 #[.slice (some ⟨g, 0, none⟩) 32 cap] w5 (Newc w5 8 (fun j => j % 256)) := new_ok 8 32 cap _ _ w5 (hL.grown (grown_trans Hgw.out hg5) (by simp)) (Or.inr rfl) rfl (HR.out.up (Nat.le_refl _) hg5) HkL.out (by have := (grown_trans Hgw.out hg5).size; omega)
          have N2 := Lib.hid n2
          clear n2
          go_wp2_with fail
          go_at_call 8
          with_reducible refine (N2.out).mono ?_
          rintro e w6 ⟨m2, C2, rfl, hm2, hg6, hC2, hc2⟩
          have n3 : Calls Tryd.prog 8 #[.slice (some ⟨g, 0, none⟩) 24 cap] w6 fun e w' => e = .returned (.tuple #[.pointer none, .int .i64 2]) ∧ w6 = w' := new_err 24 cap _ w6 (by decide) (by decide)
          have N3 := Lib.hid n3
          have hg56 := grown_trans hg5 hg6
          have hB6 := HB.out.grown hg56 (by simp)
          have hC16 := hC1.grown hg6 (by simp)
          have hgw6 := grown_trans Hgw.out hg56
          have hSN := seal_nil (fun j => 17 * j % 256) w6
          rw [← zero16] at hSN
          have hZ : ∀ W, (Op.equalIn 10000 23 (.agg #[.int .u8 0, .int .u8 0, .int .u8 0, .int .u8 0, .int .u8 0, .int .u8 0, .int .u8 0, .int .u8 0, .int .u8 0, .int .u8 0, .int .u8 0, .int .u8 0, .int .u8 0, .int .u8 0, .int .u8 0, .int .u8 0]) (.agg #[.int .u8 0, .int .u8 0, .int .u8 0, .int .u8 0, .int .u8 0, .int .u8 0, .int .u8 0, .int .u8 0, .int .u8 0, .int .u8 0, .int .u8 0, .int .u8 0, .int .u8 0, .int .u8 0, .int .u8 0, .int .u8 0])).run Tryd.prog W = .ok true W := fun W => by rw [zero16, run_eq16]; rfl
          have HSN := Lib.hid hSN
          clear n3 hg56 hg5 hg6 hC1 hSN
          go_upto_region 19 with (first
            | (go_at_call 8; (with_reducible refine (N3.out).mono ?_); rintro e w' ⟨rfl, rfl⟩)
            | (go_at_call 11; (with_reducible refine (rounds_nil _).mono ?_); rintro e w' ⟨rfl, rfl⟩)
            | refine wpList_load_rowG rfl 23 (.tmp 1) rfl w.heap.size rfl 23 _ (0, 0) (.array 16 5) hB6.block (by kernel_rfl) rfl (by rw [cellsOf_size]; kernel_rfl) ?_
            | (go_at_call 10; (with_reducible refine (HSN.out).mono ?_); rintro e w7 ⟨rfl, hg7⟩))
          have hs1 : ∀ W, w7.grownBy W none → Calls Tryd.prog 10 #[.pointer (some ⟨m1, 0, none⟩), .agg (cellsOf .u8 16 (fun j => 17 * j % 256))] W fun e w' => e = .returned (.agg (cellsOf .u8 16 (lst ct16L))) ∧ W.grownBy w' none := fun W hW => by
            have := seal_any m1 10 C1 (keyW 4 (fun j => j % 256)) (fun j => 17 * j % 256) W (hL.grown (grown_trans hgw6 (grown_trans hg7 hW)) (by simp)) (hC16.grown (grown_trans hg7 hW) (by simp)) hc1 (fun _ => Nat.mod_lt _ (by decide)) (keyW_lt 4 _ HkL.out) (by decide) (by decide)
            rw [cellsOf_congr .u8 16 (sealA 10 (keyW 4 (fun j => j % 256)) (fun j => 17 * j % 256)) (lst ct16L) (fun i hi => by
              rw [← ct16_val]
              exact evalSeal_ok 4 key16L blkL _ _ (by decide) (by decide) rfl (fun x hx => by decide +revert) (fun i hi => by decide +revert) i hi)] at this
            exact this
          have hs2 : ∀ W, w7.grownBy W none → Calls Tryd.prog 10 #[.pointer (some ⟨m2, 0, none⟩), .agg (cellsOf .u8 16 (fun j => 17 * j % 256))] W fun e w' => e = .returned (.agg (cellsOf .u8 16 (lst ct32L))) ∧ W.grownBy w' none := fun W hW => by
            have := seal_any m2 14 C2 (keyW 8 (fun j => j % 256)) (fun j => 17 * j % 256) W (hL.grown (grown_trans hgw6 (grown_trans hg7 hW)) (by simp)) (hC2.grown (grown_trans hg7 hW) (by simp)) hc2 (fun _ => Nat.mod_lt _ (by decide)) (keyW_lt 8 _ HkL.out) (by decide) (by decide)
            rw [cellsOf_congr .u8 16 (sealA 14 (keyW 8 (fun j => j % 256)) (fun j => 17 * j % 256)) (lst ct32L) (fun i hi => by
              rw [← ct32_val]
              exact evalSeal_ok 8 key32L blkL _ _ (by decide) (by decide) rfl (fun x hx => by decide +revert) (fun i hi => by decide +revert) i hi)] at this
            exact this
          go_cut [12, 13] (fun s12 s13 wx => ∃ X Y : Nat, s12 = .pointer (some ⟨X, 0, none⟩) ∧ s13 = .pointer (some ⟨Y, 0, none⟩) ∧ PSt w7 wx (some X) (some Y) (lst ct16L) (lst ct32L))
          case first =>
            have HS1 := Lib.hid hs1
            have HS2 := Lib.hid hs2
            have HB7 := Lib.hid (hB6.grown hg7 (by simp))
            clear hs1 hs2 hB6
            refine wp_region_held (S := fun W => w7.grownBy W none) (by kernel_rfl) ?_
            change wpAnyH _ _ _ _ _ 10 #[false, false, false, false, false, false, false, false, false, false] _ (World.drew _)
            have H := PSt.start (grown_drew (grown_refl w7 none))
            generalize World.drew w7 = W at *
            refine wpAnyH_takeD (some 71) (i := 0) (v := .pointer (some ⟨m1, 0, none⟩)) rfl rfl (by kernel_rfl) (by kernel_rfl) (by kernel_rfl) (fun _ _ _ h => h) (Or.inl ⟨rfl, fun _ _ => rfl⟩) H.gr ?_
            refine wpAnyH_takeD (some 72) (i := 1) (v := .agg (cellsOf .u8 16 (fun j => 17 * j % 256))) rfl rfl (by kernel_rfl) (by kernel_rfl) (by kernel_rfl) (fun _ _ _ h => h) (Or.inl ⟨rfl, fun W hW => run_blk (HB7.out.grown hW (by simp)) rfl rfl⟩) H.gr ?_
            refine wpAnyH_takeD (some 74) (i := 3) (v := .pointer (some ⟨m2, 0, none⟩)) rfl rfl (by kernel_rfl) (by kernel_rfl) (by kernel_rfl) (fun _ _ _ h => h) (Or.inl ⟨rfl, fun _ _ => rfl⟩) H.gr ?_
            refine wpAnyH_takeD (some 75) (i := 4) (v := .agg (cellsOf .u8 16 (fun j => 17 * j % 256))) rfl rfl (by kernel_rfl) (by kernel_rfl) (by kernel_rfl) (fun _ _ _ h => h) (Or.inl ⟨rfl, fun W hW => run_blk (HB7.out.grown hW (by simp)) rfl rfl⟩) H.gr ?_
            simp only [Act.put, List.setIfInBounds_toArray, List.set_cons_succ, List.set_cons_zero]
            refine pair_states (w0 := w7) (d1 := 71) (d2 := 73) (d3 := 72) (d4 := 74) (d5 := 76) (d6 := 75) (dx := 12) (dy := 13) (p := lst ct16L) (q := lst ct32L)
              (v1 := .pointer (some ⟨m1, 0, none⟩)) (v2 := .agg (cellsOf .u8 16 (fun j => 17 * j % 256))) (v3 := .pointer (some ⟨m2, 0, none⟩)) (v4 := .agg (cellsOf .u8 16 (fun j => 17 * j % 256)))
              10 seal_enters (by kernel_rfl) rfl rfl rfl rfl rfl rfl rfl rfl rfl rfl rfl rfl rfl rfl rfl rfl rfl rfl rfl rfl rfl rfl rfl rfl
              (by decide) (by simp) (by simp) (by simp) (by simp) rfl rfl rfl rfl HS1.out HS2.out ?_ 4 0 none none W (by decide) rfl H
            intro X Y W' H'
            simp only [ptrTo, Act.put, List.setIfInBounds_toArray, List.set_cons_succ, List.set_cons_zero]
            go_wp2_with fail
            go_meet
            case rel => exact ⟨X, Y, rfl, rfl, H'⟩
          case rest =>
            obtain ⟨X, Y, rfl, rfl, H⟩ := hcut
            have hX : Rd wc wc.heap.size (some ⟨X, 0, none⟩) 16 (lst ct16L) := ⟨fun _ => ⟨X, 0, rfl, (H.hx X rfl).2.lt, fun i hi => by rw [Nat.zero_add]; exact (H.hx X rfl).2.cell i hi⟩⟩
            have hY : Rd wc wc.heap.size (some ⟨Y, 0, none⟩) 16 (lst ct32L) := ⟨fun _ => ⟨Y, 0, rfl, (H.hy Y rfl).2.lt, fun i hi => by rw [Nat.zero_add]; exact (H.hy Y rfl).2.cell i hi⟩⟩
            have s1 := run_string 16 hX (fun i => by unfold lst; exact getD_lt 256 (by decide) _ (by decide) i)
            have s2 := run_string 16 hY (fun i => by unfold lst; exact getD_lt 256 (by decide) _ (by decide) i)
            rw [show strOf 16 (lst ct16L) = ⟨#[105, 196, 224, 216, 106, 123, 4, 48, 216, 205, 183, 128, 112, 180, 197, 90]⟩ by kernel_rfl] at s1
            rw [show strOf 16 (lst ct32L) = ⟨#[142, 162, 183, 202, 81, 103, 69, 191, 234, 252, 73, 144, 75, 73, 96, 137]⟩ by kernel_rfl] at s2
            have r1 := rounds_any m1 10 C1 wc (hC16.grown (grown_trans hg7 H.gr) (by simp))
            have r2 := rounds_any m2 14 C2 wc (hC2.grown (grown_trans hg7 H.gr) (by simp))
            have HG := Lib.hid (grown_trans hgw6 (grown_trans hg7 H.gr))
            have R1 := Lib.hid r1
            have R2 := Lib.hid r2
            have bX := (H.hx X rfl).2.block
            have bY := (H.hy Y rfl).2.block
            clear hs1 hs2 r1 r2 hX hY H hB6 hC16 hC2 hg7 hgw6 N3 HSN
            go_wp2_with (first
              | (go_at_call 11; (with_reducible refine (R1.out).mono ?_); rintro e w' ⟨rfl, rfl⟩)
              | (go_at_call 11; (with_reducible refine (R2.out).mono ?_); rintro e w' ⟨rfl, rfl⟩))
            go_ret
            exact ⟨rfl, HG.out⟩

end Go.Proofs.YtbjmgolkgpdenaaDoor
