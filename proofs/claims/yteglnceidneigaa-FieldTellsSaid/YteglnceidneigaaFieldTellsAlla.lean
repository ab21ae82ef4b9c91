/-
  Proved: whatever two numbers' bytes and small number come in, 'FieldTells' answers true, and what came in reads afterwards as it read before. Conditions: the arguments can be read as data.
-/
import Derived.Test.YteglnceidneigaaRefFldC
import Derived.Test.YteglnceidneigaaRelKit
import Derived.Test.YteglnceidneigaaKnown06
import Derived.Test.YteglnceidneigaaTriOrd
import Derived.Test.YteglnceidneigaaRows32
import Derived.Deep.DeepCutAuto
import Derived.Test.YteglnceidneigaaBytes
import Derived.Below
import Derived.ProofKit
import Derived.LaidMore
import Derived.OpenShut
import Derived.Carry
import Derived.Test.YteglnceidneigaaRows
import Derived.Stop.Joined
import Derived.LaidLaws
namespace Go.Proofs.Yteglnceidneigaa
open Go.RowKit

set_option maxRecDepth 100000
set_option maxHeartbeats 4000000

theorem lim8_lt (v i : Nat) : lim 8 v i < 256 := Nat.mod_lt _ (by decide)
theorem lim8_inj (v u : Nat) (hv : v < pF) (hu : u < pF) (h : ∀ i, i < 32 → lim 8 v i = lim 8 u i) : v = u := by
  have h1 := val_lim 8 v 32
  have h2 := val_lim 8 u 32
  rw [val_congr (y := lim 8 u) 8 32 h] at h1
  have h3 : pF < 2 ^ (8 * 32) := by decide
  rw [Nat.mod_eq_of_lt (by omega)] at h1 h2
  omega
theorem str_is (v u : Nat) (hv : v < pF) (hu : u < pF) : decide (strOf 32 (lim 8 v) = strOf 32 (lim 8 u)) = decide (v = u) := by
  refine decide_eq_decide.2 ((strOf_inj 32 32 _ _ (lim8_lt v) (lim8_lt u)).trans ⟨fun h => lim8_inj v u hv hu h.2, fun h => ?_⟩)
  subst h
  exact ⟨rfl, fun _ _ => rfl⟩

theorem refIs_any (bx by' v u : Nat) (w : World) (hx : NumAt w bx v) (hy : NumAt w by' u) :
    Calls Try.prog 23 #[.slice (some ⟨bx, 0, none⟩) 16 16, .slice (some ⟨by', 0, none⟩) 16 16] w fun e w' => e = .returned (.bool (decide (v = u))) ∧ w.grownBy w' none := by
  have hs := str_is v u hx.less hy.less
  obtain ⟨r, hr⟩ : ∃ r, r = decide (v = u) := ⟨_, rfl⟩
  rw [← hr] at hs ⊢
  obtain ⟨s1, hs1⟩ : ∃ s, s = strOf 32 (lim 8 v) := ⟨_, rfl⟩
  obtain ⟨s2, hs2⟩ : ∃ s, s = strOf 32 (lim 8 u) := ⟨_, rfl⟩
  rw [← hs1, ← hs2] at hs
  have HS := Lib.hid hs
  have HS1 := Lib.hid hs1
  have HS2 := Lib.hid hs2
  have HX := Lib.hid hx
  have HY := Lib.hid hy
  clear hr hs hs1 hs2 hx hy
  go_enter Try.func23, Try.ntmps23
  go_wp2_with fail
  have gd : w.grownBy w.drew none := grown_drew (grown_refl w none)
  refine wp_region_rel (relL [fun x _ => x = .slice (some ⟨bx, 0, none⟩) 16 16, BytesAt (lim 8 v), fun x _ => x = .string s1, fun x _ => x = .slice (some ⟨by', 0, none⟩) 16 16, BytesAt (lim 8 u), fun x _ => x = .string s2, fun x _ => x = .bool r, fun x _ => x = .bool r])
    8 (atL [5, 6, 7, 8, 9, 10, 11, 4]) (depL [[], [0], [1], [], [3], [4], [2, 5], [6]]) (by kernel_rfl) rfl (by kernel_rfl) (by kernel_rfl) 12 rfl (by decide) (by decide) (by decide) ?mono ?step ?fin
  case mono =>
    intro k x W W' hk h g
    obtain rfl | rfl | rfl | rfl | rfl | rfl | rfl | rfl : k = 0 ∨ k = 1 ∨ k = 2 ∨ k = 3 ∨ k = 4 ∨ k = 5 ∨ k = 6 ∨ k = 7 := by omega
    · exact h
    · exact BytesAt.grown h g
    · exact h
    · exact h
    · exact BytesAt.grown h g
    · exact h
    · exact h
    · exact h
  case step =>
    intro k hk
    obtain rfl | rfl | rfl | rfl | rfl | rfl | rfl | rfl : k = 0 ∨ k = 1 ∨ k = 2 ∨ k = 3 ∨ k = 4 ∨ k = 5 ∨ k = 6 ∨ k = 7 := by omega
    · exact ⟨_, rfl, rfl, rfl, fun b W hs _ _ K hK => rel_move 0 rfl (hs 0 (by decide)) rfl hK⟩
    · refine ⟨_, rfl, rfl, rfl, fun b W hs hg hD K hK => rel_call 21 _ (exec_fn1 _ _ _ rfl ((eval_slot b 5).trans (hD 0 (by decide)))) (fun _ _ => rfl) ?_ hK⟩
      exact (refBytes_any bx v W (HX.out.grown (grown_trans gd hg))).mono fun e w' h => h.bytes
    · refine ⟨_, rfl, rfl, rfl, fun b W hs hg hD K hK => ?_⟩
      obtain ⟨g, cap, h1, h2⟩ := hD 1 (by decide)
      exact rel_val (v := .string s1) (by rw [HS1.out]; exact run_convT 6 rfl ((eval_slot b 6).trans h1) h2.rd (lim8_lt v)) rfl hK
    · exact ⟨_, rfl, rfl, rfl, fun b W hs _ _ K hK => rel_move 1 rfl (hs 1 (by decide)) rfl hK⟩
    · refine ⟨_, rfl, rfl, rfl, fun b W hs hg hD K hK => rel_call 21 _ (exec_fn1 _ _ _ rfl ((eval_slot b 8).trans (hD 3 (by decide)))) (fun _ _ => rfl) ?_ hK⟩
      exact (refBytes_any by' u W (HY.out.grown (grown_trans gd hg))).mono fun e w' h => h.bytes
    · refine ⟨_, rfl, rfl, rfl, fun b W hs hg hD K hK => ?_⟩
      obtain ⟨g, cap, h1, h2⟩ := hD 4 (by decide)
      exact rel_val (v := .string s2) (by rw [HS2.out]; exact run_convT 9 rfl ((eval_slot b 9).trans h1) h2.rd (lim8_lt u)) rfl hK
    · refine ⟨_, rfl, rfl, rfl, fun b W hs hg hD K hK => ?_⟩
      have h1 : b.tmps[7]?.getD undef = .string s1 := hD 2 (by decide)
      have h2 : b.tmps[10]?.getD undef = .string s2 := hD 5 (by decide)
      refine rel_val (v := .bool r) ?_ rfl hK
      rw [← HS.out]
      unfold execOp
      go_simp
      exact toList_beq s1 s2
    · exact ⟨_, rfl, rfl, rfl, fun b W hs _ hD K hK => rel_assign 11 rfl (hD 6 (by decide)) rfl hK⟩
  case fin =>
    intro vals W hg hR
    have h4 : vals 7 = .bool r := hR 7 (by decide)
    have hgr := grown_trans gd hg
    simp only [putsN, atL, Act.put, List.getD_cons_zero, List.getD_cons_succ, List.setIfInBounds_toArray, List.set_cons_succ, List.set_cons_zero, h4]
    go_wp2_with fail
    go_ret
    exact ⟨rfl, hgr⟩
end Go.Proofs.Yteglnceidneigaa
namespace Go.Proofs.Yteglnceidneigaa
open Go.RowKit Go.Shelf

set_option maxRecDepth 100000
set_option maxHeartbeats 8000000

/-- A number's slice. -/
def NumV (v : Nat) (x : Value) (W : World) : Prop := ∃ b, x = .slice (some ⟨b, 0, none⟩) 16 16 ∧ NumAt W b v
theorem NumV.grown {v : Nat} {x : Value} {W W' : World} (h : NumV v x W) (g : W.grownBy W' none) : NumV v x W' := by
  obtain ⟨b, h1, h2⟩ := h
  exact ⟨b, h1, h2.grown g⟩
theorem GaveNum.v {w : World} {v : Nat} {e : Ending} {w' : World} (h : GaveNum w v e w') : ∃ x, e = .returned x ∧ w.grownBy w' none ∧ NumV v x w' := by
  obtain ⟨⟨b, h1, _, h3⟩, h4⟩ := h
  exact ⟨_, h1, h4, b, rfl, h3⟩
theorem run_slice32 {o : Oper} {a : Act} {W : World} {B : Nat} (t : Nat) (ho : o.op = .slice 22 (.tmp t) none none none) (h : slotv a t = .pointer (some ⟨B, 0, none⟩)) : (execOp a.eval o).run Try.prog W = .ok (.value (.slice (some ⟨B, 0, none⟩) 32 32)) W := by
  have h1 : a.tmps[t]?.getD undef = .pointer (some ⟨B, 0, none⟩) := h
  unfold execOp
  simp only [ho]
  go_simp

theorem fieldTells_any (fa fb : Nat → Nat) (n : Nat) (w : World) (hfa : ∀ i, fa i < 256) (hfb : ∀ i, fb i < 256) (hn : n < 4294967296) :
    Calls Try.prog 3 #[.agg (cellsOf .u8 32 fa), .agg (cellsOf .u8 32 fb), .int .u32 n] w (SaysYes w) := by
  have hA : Holds ((w.alloc (.cells (cellsOf .u8 32 fa) 22)).alloc (.cells (cellsOf .u8 32 fb) 22)) w.heap.size 22 .u8 32 fa := (holds_alloc w 22 .u8 32 fa _ rfl).grown (World.grownBy_alloc _ _ none) (by simp)
  have hB : Holds ((w.alloc (.cells (cellsOf .u8 32 fa) 22)).alloc (.cells (cellsOf .u8 32 fb) 22)) (w.heap.size + 1) 22 .u8 32 fb := by
    have := holds_alloc (w.alloc (.cells (cellsOf .u8 32 fa) 22)) 22 .u8 32 fb _ rfl
    rwa [World.size_alloc] at this
  have gr := grown_alloc (World.grownBy_alloc w (.cells (cellsOf .u8 32 fa) 22) none) (.cells (cellsOf .u8 32 fb) 22)
  have HK := Lib.hid known06
  have ix := is5_of fa hfa
  have iy := is5_of fb hfb
  have iz := is5_small n hn
  have HX := Lib.hid (of_any fa hfa)
  have HY := Lib.hid (of_any fb hfb)
  have HZ := Lib.hid (small_any n hn)
  have HRA := Lib.hid (refOf_any fa hfa)
  have HRB := Lib.hid (refOf_any fb hfb)
  have HRN := Lib.hid (refSmall_any n hn)
  have HPN := Lib.hid (show n < pF from Nat.lt_trans hn (by decide))
  obtain ⟨x, hx⟩ : ∃ x, x = ofL fa := ⟨_, rfl⟩
  obtain ⟨y, hy⟩ : ∃ x, x = ofL fb := ⟨_, rfl⟩
  obtain ⟨z, hz⟩ : ∃ x, x = smL n := ⟨_, rfl⟩
  rw [← hx] at ix HX
  rw [← hy] at iy HY
  rw [← hz] at iz HZ
  obtain ⟨a, ha⟩ : ∃ x, x = ofV fa := ⟨_, rfl⟩
  obtain ⟨b, hb⟩ : ∃ x, x = ofV fb := ⟨_, rfl⟩
  rw [← ha] at ix HRA
  rw [← hb] at iy HRB
  have HPA := Lib.hid ix.less
  have HPB := Lib.hid iy.less
  clear hx hy hz ha hb hfa hfb
  have ipxy := ix.add iy
  have Hpxy := Lib.hid (add_any ix iy)
  have imxy := ix.sub iy
  have Hmxy := Lib.hid (sub_any ix iy)
  have iqxy := ix.mul iy
  have Hqxy := Lib.hid (mul_any ix iy)
  have iqxz := ix.mul iz
  have Hqxz := Lib.hid (mul_any ix iz)
  have iinv := ix.inv
  have Hinv := Lib.hid (inverse_any ix)
  have HIs := Lib.hid (is_any ix iy)
  obtain ⟨v2, hv2⟩ : ∃ v, v = fAdd a b := ⟨_, rfl⟩
  rw [← hv2] at ipxy
  have HV2 := Lib.hid hv2
  clear hv2
  obtain ⟨v3, hv3⟩ : ∃ v, v = fSub a b := ⟨_, rfl⟩
  rw [← hv3] at imxy
  have HV3 := Lib.hid hv3
  clear hv3
  obtain ⟨v4, hv4⟩ : ∃ v, v = fMul a b := ⟨_, rfl⟩
  rw [← hv4] at iqxy
  have HV4 := Lib.hid hv4
  clear hv4
  obtain ⟨v5, hv5⟩ : ∃ v, v = fMul a n := ⟨_, rfl⟩
  rw [← hv5] at iqxz
  have HV5 := Lib.hid hv5
  clear hv5
  obtain ⟨v6, hv6⟩ : ∃ v, v = fInv a := ⟨_, rfl⟩
  rw [← hv6] at iinv
  have HV6 := Lib.hid hv6
  clear hv6
  have HB0 := Lib.hid (bytes_any ix)
  have HB1 := Lib.hid (bytes_any iz)
  have HB2 := Lib.hid (bytes_any ipxy)
  have HB3 := Lib.hid (bytes_any imxy)
  have HB4 := Lib.hid (bytes_any iqxy)
  have HB5 := Lib.hid (bytes_any iqxz)
  have HB6 := Lib.hid (bytes_any iinv)
  clear ix iy iz iinv ipxy imxy iqxy iqxz
  generalize addL x y = pxy at *
  generalize subL x y = mxy at *
  generalize mulL x y = qxy at *
  generalize mulL x z = qxz at *
  generalize invL x = inv at *
  obtain ⟨G, hG⟩ : ∃ G : Nat → Nat → Nat, G = fun i => lim 8 (atL [a, n, v2, v3, v4, v5, v6] i) := ⟨_, rfl⟩
  have hG0 : lim 8 a = G 0 := by rw [hG]; rfl
  rw [hG0] at HB0
  have HG0 := Lib.hid hG0
  clear hG0
  have hG1 : lim 8 n = G 1 := by rw [hG]; rfl
  rw [hG1] at HB1
  have HG1 := Lib.hid hG1
  clear hG1
  have hG2 : lim 8 v2 = G 2 := by rw [hG]; rfl
  rw [hG2] at HB2
  have HG2 := Lib.hid hG2
  clear hG2
  have hG3 : lim 8 v3 = G 3 := by rw [hG]; rfl
  rw [hG3] at HB3
  have HG3 := Lib.hid hG3
  clear hG3
  have hG4 : lim 8 v4 = G 4 := by rw [hG]; rfl
  rw [hG4] at HB4
  have HG4 := Lib.hid hG4
  clear hG4
  have hG5 : lim 8 v5 = G 5 := by rw [hG]; rfl
  rw [hG5] at HB5
  have HG5 := Lib.hid hG5
  clear hG5
  have hG6 : lim 8 v6 = G 6 := by rw [hG]; rfl
  rw [hG6] at HB6
  have HG6 := Lib.hid hG6
  clear hG6
  have HGL := Lib.hid (show ∀ i j, G i j < 256 from fun i j => by rw [hG]; exact lim8_lt _ j)
  clear hG
  go_enter Try.func3, Try.ntmps3
  go_wp2_with fail
  generalize (w.alloc (.cells (cellsOf .u8 32 fa) 22)).alloc (.cells (cellsOf .u8 32 fb) 22) = w1 at *
  go_at_call 7
  refine (HK.out _).mono ?_
  rintro e U ⟨⟨rfl, gK⟩⟩
  replace hA := hA.grown gK (by simp)
  replace hB := hB.grown gK (by simp)
  replace gr := grown_trans gr gK
  clear gK HK
  go_upto_region 3 with fail
  obtain ⟨V0, hV0⟩ : ∃ V0, V0 = U.drew := ⟨_, rfl⟩
  have gv : U.grownBy V0 none := by rw [hV0]; exact grown_drew (grown_refl U none)
  have HV0 := Lib.hid hV0.symm
  replace hA := hA.grown gv (by simp)
  replace hB := hB.grown gv (by simp)
  replace gr := grown_trans gr gv
  clear hV0 gv
  have HCk : Hid (∀ k W, k < 3 → V0.grownBy W none → Calls Try.prog (pick3 8 8 9 k) (pick3 #[.agg (cellsOf .u8 32 fa)] #[.agg (cellsOf .u8 32 fb)] #[.int .u32 n] k) W fun e w' => e = .returned (.agg (cellsOf .u64 5 (pick3 x y z k))) ∧ W.grownBy w' none) := Lib.hid (fun k W hk _ => by
    obtain rfl | rfl | rfl : k = 0 ∨ k = 1 ∨ k = 2 := by omega
    · exact HX.out W
    · exact HY.out W
    · exact HZ.out W)
  have HEn : ∀ (k : Nat) (args : Array Value) (w : World), (callFunc (pick3 8 8 9 k) args).run Try.prog w = .ok (.enter (pick3 8 8 9 k) args) w := fun k args w => by
    unfold pick3
    split
    · exact of_enters args w
    · split
      · exact of_enters args w
      · exact small_enters args w
  go_cut [7, 8, 9] (fun s7 s8 s9 wx => ∃ X0 X1 X2, s7 = .pointer (some ⟨X0, 0, none⟩) ∧ s8 = .pointer (some ⟨X1, 0, none⟩) ∧ s9 = .pointer (some ⟨X2, 0, none⟩) ∧ V0.grownBy wx none ∧ Holds wx X0 28 .u64 5 x ∧ Holds wx X1 28 .u64 5 y ∧ Holds wx X2 28 .u64 5 z ∧ X0 ≠ X1 ∧ X0 ≠ X2 ∧ X1 ≠ X2)
  case first =>
    refine wp_region_held (S := fun W => V0.grownBy W none) (by kernel_rfl) ?_
    change wpAnyH _ _ _ _ _ 12 #[false, false, false, false, false, false, false, false, false, false, false, false] _ (World.drew _)
    rw [HV0.out]
    have hS0 : V0.grownBy V0 none := grown_refl V0 _
    refine wpAnyH_takeD (some 18) (i := 0) (v := .agg (cellsOf .u8 32 fa)) rfl rfl (by kernel_rfl) (by kernel_rfl) (by kernel_rfl) (fun _ _ _ h => h) (Or.inl ⟨rfl, fun W hW => run_b32 (hA.grown hW (by simp)) rfl rfl⟩) hS0 ?_
    simp only [Act.put, List.setIfInBounds_toArray, List.set_cons_succ, List.set_cons_zero]
    refine wpAnyH_takeD (some 20) (i := 2) (v := .agg (cellsOf .u8 32 fb)) rfl rfl (by kernel_rfl) (by kernel_rfl) (by kernel_rfl) (fun _ _ _ h => h) (Or.inl ⟨rfl, fun W hW => run_b32 (hB.grown hW (by simp)) rfl rfl⟩) hS0 ?_
    simp only [Act.put, List.setIfInBounds_toArray, List.set_cons_succ, List.set_cons_zero]
    refine wpAnyH_takeD (some 22) (i := 4) (v := .int .u32 (n : Nat)) rfl rfl (by kernel_rfl) (by kernel_rfl) (by kernel_rfl) (fun _ _ _ h => h) (Or.inl ⟨rfl, fun W hW => rfl⟩) hS0 ?_
    simp only [Act.put, List.setIfInBounds_toArray, List.set_cons_succ, List.set_cons_zero]
    refine calls_makes (T := 28) (kd := .u64) (s := 5) 3 3 tC (tA 3) (tD 19) (tE 7) (pick3 8 8 9) (pick3 #[.agg (cellsOf .u8 32 fa)] #[.agg (cellsOf .u8 32 fb)] #[.int .u32 n]) (fun k => .agg (cellsOf .u64 5 (pick3 x y z k))) _ tL (tri_ready (by kernel_rfl)) tri_call tri_make ?_ ?_ (tD_inj 3 19) (tE_inj 3 7) (tDE 3 19 7 (by decide)) ?_ HEn HCk.out ?_ ?_ 6 0 (fun _ => none) _ _ (by decide) rfl (Fr.start _ _ _ _ _) (Mades.start _ _ _ _ _)
    · intro k hk
      show 19 + 2 * k < 94
      omega
    · intro k hk
      show 7 + k < 94
      omega
    · intro k hk
      obtain rfl | rfl | rfl : k = 0 ∨ k = 1 ∨ k = 2 := by omega
      · exact ⟨_, rfl, rfl, rfl, fun p b hF => exec_fn1 _ _ _ rfl ((hF.keep 18 (by decide) (by unfold tD; omega) (by unfold tE; omega)).trans rfl)⟩
      · exact ⟨_, rfl, rfl, rfl, fun p b hF => exec_fn1 _ _ _ rfl ((hF.keep 20 (by decide) (by unfold tD; omega) (by unfold tE; omega)).trans rfl)⟩
      · exact ⟨_, rfl, rfl, rfl, fun p b hF => exec_fn1 _ _ _ rfl ((hF.keep 22 (by decide) (by unfold tD; omega) (by unfold tE; omega)).trans rfl)⟩
    · intro j hj
      obtain rfl | rfl | rfl : j = 0 ∨ j = 1 ∨ j = 2 := by omega
      all_goals exact ⟨_, rfl, rfl, rfl, fun b W => run_newnum rfl⟩
    · intro p b W hp hF hM
      obtain ⟨X0, h0⟩ := hp 0 (by decide)
      obtain ⟨X1, h1⟩ := hp 1 (by decide)
      obtain ⟨X2, h2⟩ := hp 2 (by decide)
      have hszD := hF.sizes (m := 94) rfl (tD 19) (fun k hk => by unfold tD; omega)
      have hszE := hF.sizes (m := 94) rfl (tE 7) (fun k hk => by unfold tE; omega)
      have hb := hF.same ((((((((Fr.start _ (tD 19) (tE 7) _ 3).callD (by decide) hszD (tD_inj 3 19) (tDE 3 19 7 (by decide))).callD (by decide) hszD (tD_inj 3 19) (tDE 3 19 7 (by decide))).callD (by decide) hszD (tD_inj 3 19) (tDE 3 19 7 (by decide))).makeD 0 X0 (by decide) rfl (by decide) hszE (tE_inj 3 7) (tDE 3 19 7 (by decide))).makeD 1 X1 (by decide) rfl (by decide) hszE (tE_inj 3 7) (tDE 3 19 7 (by decide))).makeD 2 X2 (by decide) rfl (by decide) hszE (tE_inj 3 7) (tDE 3 19 7 (by decide))).congr ?_)
      · subst hb
        obtain ⟨q0, hX0⟩ := hM.at_ 0 X0 (by decide) h0
        obtain ⟨q1, hX1⟩ := hM.at_ 1 X1 (by decide) h1
        obtain ⟨q2, hX2⟩ := hM.at_ 2 X2 (by decide) h2
        have n01 : X0 ≠ X1 := fun e => by subst e; exact absurd (hM.ne 0 1 X0 (by decide) (by decide) h0 h1) (by decide)
        have n02 : X0 ≠ X2 := fun e => by subst e; exact absurd (hM.ne 0 2 X0 (by decide) (by decide) h0 h2) (by decide)
        have n12 : X1 ≠ X2 := fun e => by subst e; exact absurd (hM.ne 1 2 X1 (by decide) (by decide) h1 h2) (by decide)
        have hLf : tL 3 p = #[true, true, true, true, true, true, true, true, true, false, false, false] := by unfold tL; rw [h0, h1, h2]; rfl
        rw [hLf]
        simp only [show tD 19 0 = 19 from rfl, show tD 19 1 = 21 from rfl, show tD 19 2 = 23 from rfl, show tE 7 0 = 7 from rfl, show tE 7 1 = 8 from rfl, show tE 7 2 = 9 from rfl]
        simp only [Act.put, List.setIfInBounds_toArray, List.set_cons_succ, List.set_cons_zero]
        have gS := hM.gr
        clear hM hF hLf hp hszD hszE h0 h1 h2
        have gS0 := grown_setRow_new gS X0 (cellsOf .u64 5 x) (Or.inl q0)
        have a00 := hX0.setRow .u64 5 x
        have a01 := hX1.of_block (setRow_other _ X0 X1 (cellsOf .u64 5 x) n01.symm)
        have a02 := hX2.of_block (setRow_other _ X0 X2 (cellsOf .u64 5 x) n02.symm)
        refine wpAnyH_one (i := 9) (by kernel_rfl) (op_store 28 7 19 X0 (cellsOf .u64 5 x) rfl rfl rfl rfl rfl rfl 28 _ hX0.block (by rw [cellsOf_size]; kernel_rfl) (by rw [cellsOf_size, cellsOf_size]) (cellsOf_all _ _ _) gS0 ?_)
        simp only [List.setIfInBounds_toArray, List.set_cons_succ, List.set_cons_zero]
        have gS1 := grown_setRow_new gS0 X1 (cellsOf .u64 5 y) (Or.inl q1)
        have a10 := a00.of_block (setRow_other _ X1 X0 (cellsOf .u64 5 y) n01)
        have a11 := a01.setRow .u64 5 y
        have a12 := a02.of_block (setRow_other _ X1 X2 (cellsOf .u64 5 y) n12.symm)
        refine wpAnyH_one (i := 10) (by kernel_rfl) (op_store 28 8 21 X1 (cellsOf .u64 5 y) rfl rfl rfl rfl rfl rfl 28 _ a01.block (by rw [cellsOf_size]; kernel_rfl) (by rw [cellsOf_size, cellsOf_size]) (cellsOf_all _ _ _) gS1 ?_)
        simp only [List.setIfInBounds_toArray, List.set_cons_succ, List.set_cons_zero]
        have gS2 := grown_setRow_new gS1 X2 (cellsOf .u64 5 z) (Or.inl q2)
        have a20 := a10.of_block (setRow_other _ X2 X0 (cellsOf .u64 5 z) n02)
        have a21 := a11.of_block (setRow_other _ X2 X1 (cellsOf .u64 5 z) n12)
        have a22 := a12.setRow .u64 5 z
        refine wpAnyH_one (i := 11) (by kernel_rfl) (op_store 28 9 23 X2 (cellsOf .u64 5 z) rfl rfl rfl rfl rfl rfl 28 _ a12.block (by rw [cellsOf_size]; kernel_rfl) (by rw [cellsOf_size, cellsOf_size]) (cellsOf_all _ _ _) gS2 ?_)
        simp only [List.setIfInBounds_toArray, List.set_cons_succ, List.set_cons_zero]
        refine wpAnyH_done (by kernel_rfl) ?_ _
        go_wp2_with fail
        go_meet
        case rel => exact ⟨X0, X1, X2, rfl, rfl, rfl, gS2, a20, a21, a22, n01, n02, n12⟩
      · intro j hj
        obtain rfl | rfl | rfl : j = 0 ∨ j = 1 ∨ j = 2 := by omega
        · exact h0.symm
        · exact h1.symm
        · exact h2.symm
  case rest =>
    obtain ⟨X0, X1, X2, rfl, rfl, rfl, g6, hX, hY, hZ, _, _, _⟩ := hcut
    replace gr := grown_trans gr g6
    replace hA := hA.grown g6 (by simp)
    replace hB := hB.grown g6 (by simp)
    clear HV0 HCk HEn HX HY HZ g6
    go_wp2_with fail
    have gd : wc.grownBy wc.drew none := grown_drew (grown_refl wc none)
    refine wp_region_rel (relL [fun x _ => x = .slice (some ⟨w.heap.size, 0, none⟩) 32 32, NumV a, fun x _ => x = .slice (some ⟨w.heap.size + 1, 0, none⟩) 32 32, NumV b, fun x _ => x = .int .u32 n, NumV n, NumV a, NumV b, NumV n])
      9 (atL [24, 25, 26, 27, 28, 29, 10, 11, 12]) (depL [[], [0], [], [2], [], [4], [1], [3], [5]]) (by kernel_rfl) rfl (by kernel_rfl) (by kernel_rfl) 94 rfl (by decide) (by decide) (by decide) ?mono ?step ?fin
    case mono =>
      intro k x W W' hk h g
      obtain rfl | rfl | rfl | rfl | rfl | rfl | rfl | rfl | rfl : k = 0 ∨ k = 1 ∨ k = 2 ∨ k = 3 ∨ k = 4 ∨ k = 5 ∨ k = 6 ∨ k = 7 ∨ k = 8 := by omega
      · exact h
      · exact NumV.grown h g
      · exact h
      · exact NumV.grown h g
      · exact h
      · exact NumV.grown h g
      · exact NumV.grown h g
      · exact NumV.grown h g
      · exact NumV.grown h g
    case step =>
      intro k hk
      obtain rfl | rfl | rfl | rfl | rfl | rfl | rfl | rfl | rfl : k = 0 ∨ k = 1 ∨ k = 2 ∨ k = 3 ∨ k = 4 ∨ k = 5 ∨ k = 6 ∨ k = 7 ∨ k = 8 := by omega
      · exact ⟨_, rfl, rfl, rfl, fun b W hs _ _ K hK => rel_val (run_slice32 3 rfl (hs 3 (by decide))) rfl hK⟩
      · refine ⟨_, rfl, rfl, rfl, fun b W hs hg hD K hK => rel_call 10 _ (exec_fn1 _ _ _ rfl ((eval_slot b 24).trans (hD 0 (by decide)))) (fun _ _ => rfl) ?_ hK⟩
        exact (HRA.out _ 0 32 W (hA.grown (grown_trans gd hg) (by simp)).at32).mono fun e w' h => (h.num HPA.out).v
      · exact ⟨_, rfl, rfl, rfl, fun b W hs _ _ K hK => rel_val (run_slice32 4 rfl (hs 4 (by decide))) rfl hK⟩
      · refine ⟨_, rfl, rfl, rfl, fun b W hs hg hD K hK => rel_call 10 _ (exec_fn1 _ _ _ rfl ((eval_slot b 26).trans (hD 2 (by decide)))) (fun _ _ => rfl) ?_ hK⟩
        exact (HRB.out _ 0 32 W (hB.grown (grown_trans gd hg) (by simp)).at32).mono fun e w' h => (h.num HPB.out).v
      · exact ⟨_, rfl, rfl, rfl, fun b W hs _ _ K hK => rel_move 2 rfl (hs 2 (by decide)) rfl hK⟩
      · refine ⟨_, rfl, rfl, rfl, fun b W hs hg hD K hK => rel_call 11 _ (exec_fn1 _ _ _ rfl ((eval_slot b 28).trans (hD 4 (by decide)))) (fun _ _ => rfl) ?_ hK⟩
        exact (HRN.out W).mono fun e w' h => (h.num HPN.out).v
      · exact ⟨_, rfl, rfl, rfl, fun b W hs _ hD K hK => rel_assign 25 rfl rfl (hD 1 (by decide)) hK⟩
      · exact ⟨_, rfl, rfl, rfl, fun b W hs _ hD K hK => rel_assign 27 rfl rfl (hD 3 (by decide)) hK⟩
      · exact ⟨_, rfl, rfl, rfl, fun b W hs _ hD K hK => rel_assign 29 rfl rfl (hD 5 (by decide)) hK⟩
    case fin =>
      intro vals W hg hR
      obtain ⟨bu, e6, hU⟩ := hR 6 (by decide)
      obtain ⟨bv, e7, hV⟩ := hR 7 (by decide)
      obtain ⟨bn, e8, hNn⟩ := hR 8 (by decide)
      clear hR
      have gw := grown_trans gd hg
      replace gr := grown_trans gr gw
      replace hX := hX.grown gw (by simp)
      replace hY := hY.grown gw (by simp)
      replace hZ := hZ.grown gw (by simp)
      clear gd hg gw hA hB HRA HRB HRN
      simp only [putsN, atL, Act.put, List.getD_cons_zero, List.getD_cons_succ, List.setIfInBounds_toArray, List.set_cons_succ, List.set_cons_zero, e6, e7, e8]
      generalize vals 0 = q0
      generalize vals 1 = q1
      generalize vals 2 = q2
      generalize vals 3 = q3
      generalize vals 4 = q4
      generalize vals 5 = q5
      clear e6 e7 e8 vals
      go_wp2_with fail
      refine wp_region_held (S := fun W' => W.grownBy W' none) (by kernel_rfl) ?_
      change wpAnyH _ _ _ _ _ 26 #[false, false, false, false, false, false, false, false, false, false, false, false, false, false, false, false, false, false, false, false, false, false, false, false, false, false] _ (World.drew _)
      have gS : W.grownBy W.drew none := grown_drew (grown_refl W none)
      refine wpAnyH_takeD (some 30) (i := 0) (v := .agg (cellsOf .u64 5 x)) rfl rfl (by kernel_rfl) (by kernel_rfl) (by kernel_rfl) (fun _ _ _ h => h) (Or.inl ⟨rfl, fun W' hW => run_num (hX.grown hW (by simp)) rfl rfl⟩) gS ?_
      simp only [Act.put, List.setIfInBounds_toArray, List.set_cons_succ, List.set_cons_zero]
      refine wpAnyH_takeD (some 32) (i := 2) (v := .agg (cellsOf .u64 5 z)) rfl rfl (by kernel_rfl) (by kernel_rfl) (by kernel_rfl) (fun _ _ _ h => h) (Or.inl ⟨rfl, fun W' hW => run_num (hZ.grown hW (by simp)) rfl rfl⟩) gS ?_
      simp only [Act.put, List.setIfInBounds_toArray, List.set_cons_succ, List.set_cons_zero]
      refine wpAnyH_takeD (some 34) (i := 4) (v := .agg (cellsOf .u64 5 x)) rfl rfl (by kernel_rfl) (by kernel_rfl) (by kernel_rfl) (fun _ _ _ h => h) (Or.inl ⟨rfl, fun W' hW => run_num (hX.grown hW (by simp)) rfl rfl⟩) gS ?_
      simp only [Act.put, List.setIfInBounds_toArray, List.set_cons_succ, List.set_cons_zero]
      refine wpAnyH_takeD (some 35) (i := 5) (v := .agg (cellsOf .u64 5 y)) rfl rfl (by kernel_rfl) (by kernel_rfl) (by kernel_rfl) (fun _ _ _ h => h) (Or.inl ⟨rfl, fun W' hW => run_num (hY.grown hW (by simp)) rfl rfl⟩) gS ?_
      simp only [Act.put, List.setIfInBounds_toArray, List.set_cons_succ, List.set_cons_zero]
      refine wpAnyH_takeD (some 38) (i := 8) (v := .agg (cellsOf .u64 5 x)) rfl rfl (by kernel_rfl) (by kernel_rfl) (by kernel_rfl) (fun _ _ _ h => h) (Or.inl ⟨rfl, fun W' hW => run_num (hX.grown hW (by simp)) rfl rfl⟩) gS ?_
      simp only [Act.put, List.setIfInBounds_toArray, List.set_cons_succ, List.set_cons_zero]
      refine wpAnyH_takeD (some 39) (i := 9) (v := .agg (cellsOf .u64 5 y)) rfl rfl (by kernel_rfl) (by kernel_rfl) (by kernel_rfl) (fun _ _ _ h => h) (Or.inl ⟨rfl, fun W' hW => run_num (hY.grown hW (by simp)) rfl rfl⟩) gS ?_
      simp only [Act.put, List.setIfInBounds_toArray, List.set_cons_succ, List.set_cons_zero]
      refine wpAnyH_takeD (some 42) (i := 12) (v := .agg (cellsOf .u64 5 x)) rfl rfl (by kernel_rfl) (by kernel_rfl) (by kernel_rfl) (fun _ _ _ h => h) (Or.inl ⟨rfl, fun W' hW => run_num (hX.grown hW (by simp)) rfl rfl⟩) gS ?_
      simp only [Act.put, List.setIfInBounds_toArray, List.set_cons_succ, List.set_cons_zero]
      refine wpAnyH_takeD (some 43) (i := 13) (v := .agg (cellsOf .u64 5 y)) rfl rfl (by kernel_rfl) (by kernel_rfl) (by kernel_rfl) (fun _ _ _ h => h) (Or.inl ⟨rfl, fun W' hW => run_num (hY.grown hW (by simp)) rfl rfl⟩) gS ?_
      simp only [Act.put, List.setIfInBounds_toArray, List.set_cons_succ, List.set_cons_zero]
      refine wpAnyH_takeD (some 46) (i := 16) (v := .agg (cellsOf .u64 5 x)) rfl rfl (by kernel_rfl) (by kernel_rfl) (by kernel_rfl) (fun _ _ _ h => h) (Or.inl ⟨rfl, fun W' hW => run_num (hX.grown hW (by simp)) rfl rfl⟩) gS ?_
      simp only [Act.put, List.setIfInBounds_toArray, List.set_cons_succ, List.set_cons_zero]
      refine wpAnyH_takeD (some 47) (i := 17) (v := .agg (cellsOf .u64 5 z)) rfl rfl (by kernel_rfl) (by kernel_rfl) (by kernel_rfl) (fun _ _ _ h => h) (Or.inl ⟨rfl, fun W' hW => run_num (hZ.grown hW (by simp)) rfl rfl⟩) gS ?_
      simp only [Act.put, List.setIfInBounds_toArray, List.set_cons_succ, List.set_cons_zero]
      refine wpAnyH_takeD (some 50) (i := 20) (v := .agg (cellsOf .u64 5 x)) rfl rfl (by kernel_rfl) (by kernel_rfl) (by kernel_rfl) (fun _ _ _ h => h) (Or.inl ⟨rfl, fun W' hW => run_num (hX.grown hW (by simp)) rfl rfl⟩) gS ?_
      simp only [Act.put, List.setIfInBounds_toArray, List.set_cons_succ, List.set_cons_zero]
      refine wpAnyH_takeD (some 55) (i := 25) (v := .int .i64 0) rfl rfl (by kernel_rfl) (by kernel_rfl) (by kernel_rfl) (fun _ _ _ h => h) (Or.inl ⟨rfl, fun W' hW => by go_simp⟩) gS ?_
      simp only [Act.put, List.setIfInBounds_toArray, List.set_cons_succ, List.set_cons_zero]
      generalize W.drew = W1 at *
      refine wpAnyH_callD (i := 1) (some 31) 12 #[.agg (cellsOf .u64 5 x)] (R := fun v w' => v = .agg (cellsOf .u8 32 (G 0)) ∧ W1.grownBy w' none) (by kernel_rfl) rfl rfl rfl (exec_fn1 _ (.tmp 30) _ rfl rfl) bytes_enters ((HB0.out W1).mono fun e w' h => ⟨_, h.1, rfl, h.2⟩) ?_
      intro v W2 h
      obtain ⟨rfl, g⟩ := h
      replace gS := grown_trans gS g
      refine ⟨gS, ?_⟩
      clear g
      simp only [Act.put, List.setIfInBounds_toArray, List.set_cons_succ, List.set_cons_zero]
      refine wpAnyH_callD (i := 3) (some 33) 12 #[.agg (cellsOf .u64 5 z)] (R := fun v w' => v = .agg (cellsOf .u8 32 (G 1)) ∧ W2.grownBy w' none) (by kernel_rfl) rfl rfl rfl (exec_fn1 _ (.tmp 32) _ rfl rfl) bytes_enters ((HB1.out W2).mono fun e w' h => ⟨_, h.1, rfl, h.2⟩) ?_
      intro v W3 h
      obtain ⟨rfl, g⟩ := h
      replace gS := grown_trans gS g
      refine ⟨gS, ?_⟩
      clear g
      simp only [Act.put, List.setIfInBounds_toArray, List.set_cons_succ, List.set_cons_zero]
      refine wpAnyH_callD (i := 6) (some 36) 13 #[.agg (cellsOf .u64 5 x), .agg (cellsOf .u64 5 y)] (R := fun v w' => v = .agg (cellsOf .u64 5 pxy) ∧ W3.grownBy w' none) (by kernel_rfl) rfl rfl rfl (exec_fn2 _ (.tmp 34) (.tmp 35) _ _ rfl rfl rfl) add_enters ((Hpxy.out W3).mono fun e w' h => ⟨_, h.1, rfl, h.2⟩) ?_
      intro v W4 h
      obtain ⟨rfl, g⟩ := h
      replace gS := grown_trans gS g
      refine ⟨gS, ?_⟩
      clear g
      simp only [Act.put, List.setIfInBounds_toArray, List.set_cons_succ, List.set_cons_zero]
      refine wpAnyH_callD (i := 7) (some 37) 12 #[.agg (cellsOf .u64 5 pxy)] (R := fun v w' => v = .agg (cellsOf .u8 32 (G 2)) ∧ W4.grownBy w' none) (by kernel_rfl) rfl rfl rfl (exec_fn1 _ (.tmp 36) _ rfl rfl) bytes_enters ((HB2.out W4).mono fun e w' h => ⟨_, h.1, rfl, h.2⟩) ?_
      intro v W5 h
      obtain ⟨rfl, g⟩ := h
      replace gS := grown_trans gS g
      refine ⟨gS, ?_⟩
      clear g
      simp only [Act.put, List.setIfInBounds_toArray, List.set_cons_succ, List.set_cons_zero]
      refine wpAnyH_callD (i := 10) (some 40) 14 #[.agg (cellsOf .u64 5 x), .agg (cellsOf .u64 5 y)] (R := fun v w' => v = .agg (cellsOf .u64 5 mxy) ∧ W5.grownBy w' none) (by kernel_rfl) rfl rfl rfl (exec_fn2 _ (.tmp 38) (.tmp 39) _ _ rfl rfl rfl) sub_enters ((Hmxy.out W5).mono fun e w' h => ⟨_, h.1, rfl, h.2⟩) ?_
      intro v W6 h
      obtain ⟨rfl, g⟩ := h
      replace gS := grown_trans gS g
      refine ⟨gS, ?_⟩
      clear g
      simp only [Act.put, List.setIfInBounds_toArray, List.set_cons_succ, List.set_cons_zero]
      refine wpAnyH_callD (i := 11) (some 41) 12 #[.agg (cellsOf .u64 5 mxy)] (R := fun v w' => v = .agg (cellsOf .u8 32 (G 3)) ∧ W6.grownBy w' none) (by kernel_rfl) rfl rfl rfl (exec_fn1 _ (.tmp 40) _ rfl rfl) bytes_enters ((HB3.out W6).mono fun e w' h => ⟨_, h.1, rfl, h.2⟩) ?_
      intro v W7 h
      obtain ⟨rfl, g⟩ := h
      replace gS := grown_trans gS g
      refine ⟨gS, ?_⟩
      clear g
      simp only [Act.put, List.setIfInBounds_toArray, List.set_cons_succ, List.set_cons_zero]
      refine wpAnyH_callD (i := 14) (some 44) 15 #[.agg (cellsOf .u64 5 x), .agg (cellsOf .u64 5 y)] (R := fun v w' => v = .agg (cellsOf .u64 5 qxy) ∧ W7.grownBy w' none) (by kernel_rfl) rfl rfl rfl (exec_fn2 _ (.tmp 42) (.tmp 43) _ _ rfl rfl rfl) mul_enters ((Hqxy.out W7).mono fun e w' h => ⟨_, h.1, rfl, h.2⟩) ?_
      intro v W8 h
      obtain ⟨rfl, g⟩ := h
      replace gS := grown_trans gS g
      refine ⟨gS, ?_⟩
      clear g
      simp only [Act.put, List.setIfInBounds_toArray, List.set_cons_succ, List.set_cons_zero]
      refine wpAnyH_callD (i := 15) (some 45) 12 #[.agg (cellsOf .u64 5 qxy)] (R := fun v w' => v = .agg (cellsOf .u8 32 (G 4)) ∧ W8.grownBy w' none) (by kernel_rfl) rfl rfl rfl (exec_fn1 _ (.tmp 44) _ rfl rfl) bytes_enters ((HB4.out W8).mono fun e w' h => ⟨_, h.1, rfl, h.2⟩) ?_
      intro v W9 h
      obtain ⟨rfl, g⟩ := h
      replace gS := grown_trans gS g
      refine ⟨gS, ?_⟩
      clear g
      simp only [Act.put, List.setIfInBounds_toArray, List.set_cons_succ, List.set_cons_zero]
      refine wpAnyH_callD (i := 18) (some 48) 15 #[.agg (cellsOf .u64 5 x), .agg (cellsOf .u64 5 z)] (R := fun v w' => v = .agg (cellsOf .u64 5 qxz) ∧ W9.grownBy w' none) (by kernel_rfl) rfl rfl rfl (exec_fn2 _ (.tmp 46) (.tmp 47) _ _ rfl rfl rfl) mul_enters ((Hqxz.out W9).mono fun e w' h => ⟨_, h.1, rfl, h.2⟩) ?_
      intro v W10 h
      obtain ⟨rfl, g⟩ := h
      replace gS := grown_trans gS g
      refine ⟨gS, ?_⟩
      clear g
      simp only [Act.put, List.setIfInBounds_toArray, List.set_cons_succ, List.set_cons_zero]
      refine wpAnyH_callD (i := 19) (some 49) 12 #[.agg (cellsOf .u64 5 qxz)] (R := fun v w' => v = .agg (cellsOf .u8 32 (G 5)) ∧ W10.grownBy w' none) (by kernel_rfl) rfl rfl rfl (exec_fn1 _ (.tmp 48) _ rfl rfl) bytes_enters ((HB5.out W10).mono fun e w' h => ⟨_, h.1, rfl, h.2⟩) ?_
      intro v W11 h
      obtain ⟨rfl, g⟩ := h
      replace gS := grown_trans gS g
      refine ⟨gS, ?_⟩
      clear g
      simp only [Act.put, List.setIfInBounds_toArray, List.set_cons_succ, List.set_cons_zero]
      refine wpAnyH_callD (i := 21) (some 51) 16 #[.agg (cellsOf .u64 5 x)] (R := fun v w' => v = .agg (cellsOf .u64 5 inv) ∧ W11.grownBy w' none) (by kernel_rfl) rfl rfl rfl (exec_fn1 _ (.tmp 50) _ rfl rfl) inverse_enters ((Hinv.out W11).mono fun e w' h => ⟨_, h.1, rfl, h.2⟩) ?_
      intro v W12 h
      obtain ⟨rfl, g⟩ := h
      replace gS := grown_trans gS g
      refine ⟨gS, ?_⟩
      clear g
      simp only [Act.put, List.setIfInBounds_toArray, List.set_cons_succ, List.set_cons_zero]
      refine wpAnyH_callD (i := 22) (some 52) 12 #[.agg (cellsOf .u64 5 inv)] (R := fun v w' => v = .agg (cellsOf .u8 32 (G 6)) ∧ W12.grownBy w' none) (by kernel_rfl) rfl rfl rfl (exec_fn1 _ (.tmp 51) _ rfl rfl) bytes_enters ((HB6.out W12).mono fun e w' h => ⟨_, h.1, rfl, h.2⟩) ?_
      intro v W13 h
      obtain ⟨rfl, g⟩ := h
      replace gS := grown_trans gS g
      refine ⟨gS, ?_⟩
      clear g
      simp only [Act.put, List.setIfInBounds_toArray, List.set_cons_succ, List.set_cons_zero]
      obtain ⟨cs, hbu, hRow⟩ := build_rows32 G W13
      have gB := World.grownBy_alloc W13 (.cells cs 22) none
      replace gS := grown_trans gS gB
      refine wpAnyH_yieldD (some 53) (i := 23) (v := .slice (some ⟨W13.heap.size, 0, none⟩) 7 7) (by kernel_rfl) rfl rfl (wanted_of rfl) ?bld gS ?_
      case bld => exact run_build7 31 33 37 41 45 49 52 rfl rfl rfl rfl rfl rfl rfl rfl hbu
      simp only [Act.put, List.setIfInBounds_toArray, List.set_cons_succ, List.set_cons_zero]
      generalize W13.alloc (.cells cs 22) = W14 at *
      generalize W13.heap.size = rb at *
      refine wpAnyH_yieldD (some 54) (i := 24) (v := .int .i64 7) (by kernel_rfl) rfl rfl (wanted_of rfl) (by unfold execOp; go_simp) gS ?_
      simp only [Act.put, List.setIfInBounds_toArray, List.set_cons_succ, List.set_cons_zero]
      refine wpAnyH_done (by kernel_rfl) ?_ _
      replace gr := grown_trans gr gS
      replace hX := hX.grown gS (by simp)
      replace hY := hY.grown gS (by simp)
      replace hU := hU.grown gS
      replace hV := hV.grown gS
      replace hNn := hNn.grown gS
      clear hbu gB gS hZ Hpxy Hmxy Hqxy Hqxz Hinv HB0 HB1 HB2 HB3 HB4 HB5 HB6
      have HU := Lib.hid hU
      have HV := Lib.hid hV
      have HN := Lib.hid hNn
      have HRow := Lib.hid hRow
      have HhX := Lib.hid hX
      have HhY := Lib.hid hY
      have HGr := Lib.hid gr
      clear hU hV hNn hRow hX hY gr
      go_wp2_with fail
      go_loopw [55] (fun u55 wr => ∃ i : Nat, i ≤ 7 ∧ u55 = .int .i64 i ∧ W14.grownBy wr none) (fun u55 _ => 7 - (intOf u55).toNat)
      case atStart => exact ⟨0, by omega, rfl, grown_refl _ _⟩
      case round =>
        obtain ⟨i, hi, rfl, hgr⟩ := hrel
        by_cases hlt : i < 7
        · rcases (by omega : i = 0 ∨ i = 1 ∨ i = 2 ∨ i = 3 ∨ i = 4 ∨ i = 5 ∨ i = 6) with rfl | rfl | rfl | rfl | rfl | rfl | rfl

          · have hRr := HRow.out.grown hgr
            have hUr := HU.out.grown hgr
            have hVr := HV.out.grown hgr
            have hNr := HN.out.grown hgr
            have hD : Holds (wr.alloc (.cells #[.int .u8 0, .int .u8 0, .int .u8 0, .int .u8 0, .int .u8 0, .int .u8 0, .int .u8 0, .int .u8 0, .int .u8 0, .int .u8 0, .int .u8 0, .int .u8 0, .int .u8 0, .int .u8 0, .int .u8 0, .int .u8 0, .int .u8 0, .int .u8 0, .int .u8 0, .int .u8 0, .int .u8 0, .int .u8 0, .int .u8 0, .int .u8 0, .int .u8 0, .int .u8 0, .int .u8 0, .int .u8 0, .int .u8 0, .int .u8 0, .int .u8 0, .int .u8 0] 22)) wr.heap.size 22 .u8 32 (fun _ => 0) := holds_alloc wr 22 .u8 32 (fun _ => 0) _ rfl
            have gA := World.grownBy_alloc wr (.cells #[.int .u8 0, .int .u8 0, .int .u8 0, .int .u8 0, .int .u8 0, .int .u8 0, .int .u8 0, .int .u8 0, .int .u8 0, .int .u8 0, .int .u8 0, .int .u8 0, .int .u8 0, .int .u8 0, .int .u8 0, .int .u8 0, .int .u8 0, .int .u8 0, .int .u8 0, .int .u8 0, .int .u8 0, .int .u8 0, .int .u8 0, .int .u8 0, .int .u8 0, .int .u8 0, .int .u8 0, .int .u8 0, .int .u8 0, .int .u8 0, .int .u8 0, .int .u8 0] 22) none
            have hT := hD.setRow .u8 32 (G 0)
            have gT := grown_setRow_new gA wr.heap.size (cellsOf .u8 32 (G 0)) (Or.inl (Nat.le_refl _))
            clear hi hlt
            go_wp2_with (first
              | refine wpList_b32_mid (i := 0) rfl 58 rfl rfl rfl (by decide) hRr ?_
              | refine wpList_store_row rfl 22 (.tmp 14) (.tmp 59) rfl wr.heap.size _ rfl rfl 22 _ hD.block (by rw [cellsOf_size]; kernel_rfl) rfl (cellsOf_all _ _ _) ?_)
            replace hUr := hUr.grown gT
            replace hVr := hVr.grown gT
            replace hNr := hNr.grown gT
            replace hgr := grown_trans hgr gT
            clear hRr hD gA gT
            generalize (wr.alloc (.cells #[.int .u8 0, .int .u8 0, .int .u8 0, .int .u8 0, .int .u8 0, .int .u8 0, .int .u8 0, .int .u8 0, .int .u8 0, .int .u8 0, .int .u8 0, .int .u8 0, .int .u8 0, .int .u8 0, .int .u8 0, .int .u8 0, .int .u8 0, .int .u8 0, .int .u8 0, .int .u8 0, .int .u8 0, .int .u8 0, .int .u8 0, .int .u8 0, .int .u8 0, .int .u8 0, .int .u8 0, .int .u8 0, .int .u8 0, .int .u8 0, .int .u8 0, .int .u8 0] 22)).setRow wr.heap.size (cellsOf .u8 32 (G 0)) = U1 at *
            generalize wr.heap.size = tb at *
            go_at_call 17
            refine (refAdd_any bu bv a b _ hUr hVr).mono ?_
            intro e U2 h
            rw [← HV2.out] at h
            obtain ⟨⟨b2, rfl, _, hN2⟩, g⟩ := h
            replace hUr := hUr.grown g
            replace hVr := hVr.grown g
            replace hNr := hNr.grown g
            replace hT := hT.grown g (by simp)
            replace hgr := grown_trans hgr g
            clear g
            go_wp2_with fail
            go_at_call 18
            refine (refSub_any bu bv a b _ hUr hVr).mono ?_
            intro e U3 h
            rw [← HV3.out] at h
            obtain ⟨⟨b3, rfl, _, hN3⟩, g⟩ := h
            replace hUr := hUr.grown g
            replace hVr := hVr.grown g
            replace hNr := hNr.grown g
            replace hN2 := hN2.grown g
            replace hT := hT.grown g (by simp)
            replace hgr := grown_trans hgr g
            clear g
            go_wp2_with fail
            go_at_call 19
            refine (refMul_any bu bv a b _ hUr hVr).mono ?_
            intro e U4 h
            rw [← HV4.out] at h
            obtain ⟨⟨b4, rfl, _, hN4⟩, g⟩ := h
            replace hUr := hUr.grown g
            replace hNr := hNr.grown g
            replace hN2 := hN2.grown g
            replace hN3 := hN3.grown g
            replace hT := hT.grown g (by simp)
            replace hgr := grown_trans hgr g
            clear g hVr
            go_wp2_with fail
            go_at_call 19
            refine (refMul_any bu bn a n _ hUr hNr).mono ?_
            intro e U5 h
            rw [← HV5.out] at h
            obtain ⟨⟨b5, rfl, _, hN5⟩, g⟩ := h
            replace hUr := hUr.grown g
            replace hNr := hNr.grown g
            replace hN2 := hN2.grown g
            replace hN3 := hN3.grown g
            replace hN4 := hN4.grown g
            replace hT := hT.grown g (by simp)
            replace hgr := grown_trans hgr g
            clear g
            go_wp2_with fail
            go_at_call 20
            refine (refInverse_any bu a _ hUr).mono ?_
            intro e U6 h
            rw [← HV6.out] at h
            obtain ⟨⟨b6, rfl, _, hN6⟩, g⟩ := h
            replace hUr := hUr.grown g
            replace hNr := hNr.grown g
            replace hN2 := hN2.grown g
            replace hN3 := hN3.grown g
            replace hN4 := hN4.grown g
            replace hN5 := hN5.grown g
            replace hT := hT.grown g (by simp)
            replace hgr := grown_trans hgr g
            clear g
            have hNk : NumAt U6 bu a := hUr
            clear hUr hNr hN2 hN3 hN4 hN5 hN6
            have gB := World.grownBy_alloc U6 (.cells #[.slice (some ⟨bu, 0, none⟩) 16 16, .slice (some ⟨bn, 0, none⟩) 16 16, .slice (some ⟨b2, 0, none⟩) 16 16, .slice (some ⟨b3, 0, none⟩) 16 16, .slice (some ⟨b4, 0, none⟩) 16 16, .slice (some ⟨b5, 0, none⟩) 16 16, .slice (some ⟨b6, 0, none⟩) 16 16] 32) none
            replace hNk := hNk.grown gB
            replace hT := hT.grown gB (by simp)
            replace hgr := grown_trans hgr gB
            clear gB
            go_wp2_with fail
            generalize U6.alloc (.cells #[.slice (some ⟨bu, 0, none⟩) 16 16, .slice (some ⟨bn, 0, none⟩) 16 16, .slice (some ⟨b2, 0, none⟩) 16 16, .slice (some ⟨b3, 0, none⟩) 16 16, .slice (some ⟨b4, 0, none⟩) 16 16, .slice (some ⟨b5, 0, none⟩) 16 16, .slice (some ⟨b6, 0, none⟩) 16 16] 32) = U7 at *
            have gd : U7.grownBy U7.drew none := grown_drew (grown_refl U7 none)
            obtain ⟨s, hs⟩ : ∃ s, s = strOf 32 (G 0) := ⟨_, rfl⟩
            have HS := Lib.hid hs
            clear hs
            refine wp_region_rel (relL [fun x _ => x = .slice (some ⟨tb, 0, none⟩) 32 32, fun x _ => x = .string s, fun x _ => x = .slice (some ⟨bu, 0, none⟩) 16 16, BytesAt (G 0), fun x _ => x = .string s, fun x _ => x = .bool false])
              6 (atL [80, 81, 82, 83, 84, 85]) (depL [[], [0], [], [2], [3], [1, 4]]) (by kernel_rfl) rfl (by kernel_rfl) (by kernel_rfl) 94 rfl (by decide) (by decide) (by decide) ?mono0 ?step0 ?fin0
            case mono0 =>
              intro j x W W' hj h g
              obtain rfl | rfl | rfl | rfl | rfl | rfl : j = 0 ∨ j = 1 ∨ j = 2 ∨ j = 3 ∨ j = 4 ∨ j = 5 := by omega
              · exact h
              · exact h
              · exact h
              · exact BytesAt.grown h g
              · exact h
              · exact h
            case step0 =>
              intro j hj
              obtain rfl | rfl | rfl | rfl | rfl | rfl : j = 0 ∨ j = 1 ∨ j = 2 ∨ j = 3 ∨ j = 4 ∨ j = 5 := by omega
              · exact ⟨_, rfl, rfl, rfl, fun b W hs _ _ K hK => rel_val (run_slice32 14 rfl (hs 14 (by decide))) rfl hK⟩
              · refine ⟨_, rfl, rfl, rfl, fun b W hs hg hD K hK => ?_⟩
                exact rel_val (v := .string s) (by rw [HS.out]; exact run_convT 80 rfl ((eval_slot b 80).trans (hD 0 (by decide))) (hT.grown (grown_trans gd hg) (by simp)).rd32 (HGL.out 0)) rfl hK
              · exact ⟨_, rfl, rfl, rfl, fun b W hs _ _ K hK => rel_move 15 rfl (hs 15 (by decide)) rfl hK⟩
              · refine ⟨_, rfl, rfl, rfl, fun b W hs hg hD K hK => rel_call 21 _ (exec_fn1 _ _ _ rfl ((eval_slot b 82).trans (hD 2 (by decide)))) (fun _ _ => rfl) ?_ hK⟩
                have hb := refBytes_any bu a W (hNk.grown (grown_trans gd hg))
                rw [HG0.out] at hb
                exact hb.mono fun e w' h => h.bytes
              · refine ⟨_, rfl, rfl, rfl, fun b W hs hg hD K hK => ?_⟩
                obtain ⟨g, cap, h1, h2⟩ := hD 3 (by decide)
                exact rel_val (v := .string s) (by rw [HS.out]; exact run_convT 83 rfl ((eval_slot b 83).trans h1) h2.rd (HGL.out 0)) rfl hK
              · refine ⟨_, rfl, rfl, rfl, fun b W hs hg hD K hK => ?_⟩
                have h1 : b.tmps[81]?.getD undef = .string s := hD 1 (by decide)
                have h2 : b.tmps[84]?.getD undef = .string s := hD 4 (by decide)
                refine rel_val (v := .bool false) ?_ rfl hK
                unfold execOp
                go_simp
            case fin0 =>
              intro vals W hg hR
              have h5 : vals 5 = .bool false := hR 5 (by decide)
              replace hgr := grown_trans hgr (grown_trans gd hg)
              clear hR hg gd hNk hT
              simp only [putsN, atL, Act.put, List.getD_cons_zero, List.getD_cons_succ, List.setIfInBounds_toArray, List.set_cons_succ, List.set_cons_zero, h5]
              generalize vals 0 = p0
              generalize vals 1 = p1
              generalize vals 2 = p2
              generalize vals 3 = p3
              generalize vals 4 = p4
              clear h5 vals
              go_wp2_with fail
              go_roundw
              case rel => exact ⟨1, by decide, by go_num, hgr⟩
              case measure => simp [intOf]
  
          · have hRr := HRow.out.grown hgr
            have hUr := HU.out.grown hgr
            have hVr := HV.out.grown hgr
            have hNr := HN.out.grown hgr
            have hD : Holds (wr.alloc (.cells #[.int .u8 0, .int .u8 0, .int .u8 0, .int .u8 0, .int .u8 0, .int .u8 0, .int .u8 0, .int .u8 0, .int .u8 0, .int .u8 0, .int .u8 0, .int .u8 0, .int .u8 0, .int .u8 0, .int .u8 0, .int .u8 0, .int .u8 0, .int .u8 0, .int .u8 0, .int .u8 0, .int .u8 0, .int .u8 0, .int .u8 0, .int .u8 0, .int .u8 0, .int .u8 0, .int .u8 0, .int .u8 0, .int .u8 0, .int .u8 0, .int .u8 0, .int .u8 0] 22)) wr.heap.size 22 .u8 32 (fun _ => 0) := holds_alloc wr 22 .u8 32 (fun _ => 0) _ rfl
            have gA := World.grownBy_alloc wr (.cells #[.int .u8 0, .int .u8 0, .int .u8 0, .int .u8 0, .int .u8 0, .int .u8 0, .int .u8 0, .int .u8 0, .int .u8 0, .int .u8 0, .int .u8 0, .int .u8 0, .int .u8 0, .int .u8 0, .int .u8 0, .int .u8 0, .int .u8 0, .int .u8 0, .int .u8 0, .int .u8 0, .int .u8 0, .int .u8 0, .int .u8 0, .int .u8 0, .int .u8 0, .int .u8 0, .int .u8 0, .int .u8 0, .int .u8 0, .int .u8 0, .int .u8 0, .int .u8 0] 22) none
            have hT := hD.setRow .u8 32 (G 1)
            have gT := grown_setRow_new gA wr.heap.size (cellsOf .u8 32 (G 1)) (Or.inl (Nat.le_refl _))
            clear hi hlt
            go_wp2_with (first
              | refine wpList_b32_mid (i := 1) rfl 58 rfl rfl rfl (by decide) hRr ?_
              | refine wpList_store_row rfl 22 (.tmp 14) (.tmp 59) rfl wr.heap.size _ rfl rfl 22 _ hD.block (by rw [cellsOf_size]; kernel_rfl) rfl (cellsOf_all _ _ _) ?_)
            replace hUr := hUr.grown gT
            replace hVr := hVr.grown gT
            replace hNr := hNr.grown gT
            replace hgr := grown_trans hgr gT
            clear hRr hD gA gT
            generalize (wr.alloc (.cells #[.int .u8 0, .int .u8 0, .int .u8 0, .int .u8 0, .int .u8 0, .int .u8 0, .int .u8 0, .int .u8 0, .int .u8 0, .int .u8 0, .int .u8 0, .int .u8 0, .int .u8 0, .int .u8 0, .int .u8 0, .int .u8 0, .int .u8 0, .int .u8 0, .int .u8 0, .int .u8 0, .int .u8 0, .int .u8 0, .int .u8 0, .int .u8 0, .int .u8 0, .int .u8 0, .int .u8 0, .int .u8 0, .int .u8 0, .int .u8 0, .int .u8 0, .int .u8 0] 22)).setRow wr.heap.size (cellsOf .u8 32 (G 1)) = U1 at *
            generalize wr.heap.size = tb at *
            go_at_call 17
            refine (refAdd_any bu bv a b _ hUr hVr).mono ?_
            intro e U2 h
            rw [← HV2.out] at h
            obtain ⟨⟨b2, rfl, _, hN2⟩, g⟩ := h
            replace hUr := hUr.grown g
            replace hVr := hVr.grown g
            replace hNr := hNr.grown g
            replace hT := hT.grown g (by simp)
            replace hgr := grown_trans hgr g
            clear g
            go_wp2_with fail
            go_at_call 18
            refine (refSub_any bu bv a b _ hUr hVr).mono ?_
            intro e U3 h
            rw [← HV3.out] at h
            obtain ⟨⟨b3, rfl, _, hN3⟩, g⟩ := h
            replace hUr := hUr.grown g
            replace hVr := hVr.grown g
            replace hNr := hNr.grown g
            replace hN2 := hN2.grown g
            replace hT := hT.grown g (by simp)
            replace hgr := grown_trans hgr g
            clear g
            go_wp2_with fail
            go_at_call 19
            refine (refMul_any bu bv a b _ hUr hVr).mono ?_
            intro e U4 h
            rw [← HV4.out] at h
            obtain ⟨⟨b4, rfl, _, hN4⟩, g⟩ := h
            replace hUr := hUr.grown g
            replace hNr := hNr.grown g
            replace hN2 := hN2.grown g
            replace hN3 := hN3.grown g
            replace hT := hT.grown g (by simp)
            replace hgr := grown_trans hgr g
            clear g hVr
            go_wp2_with fail
            go_at_call 19
            refine (refMul_any bu bn a n _ hUr hNr).mono ?_
            intro e U5 h
            rw [← HV5.out] at h
            obtain ⟨⟨b5, rfl, _, hN5⟩, g⟩ := h
            replace hUr := hUr.grown g
            replace hNr := hNr.grown g
            replace hN2 := hN2.grown g
            replace hN3 := hN3.grown g
            replace hN4 := hN4.grown g
            replace hT := hT.grown g (by simp)
            replace hgr := grown_trans hgr g
            clear g
            go_wp2_with fail
            go_at_call 20
            refine (refInverse_any bu a _ hUr).mono ?_
            intro e U6 h
            rw [← HV6.out] at h
            obtain ⟨⟨b6, rfl, _, hN6⟩, g⟩ := h
            replace hUr := hUr.grown g
            replace hNr := hNr.grown g
            replace hN2 := hN2.grown g
            replace hN3 := hN3.grown g
            replace hN4 := hN4.grown g
            replace hN5 := hN5.grown g
            replace hT := hT.grown g (by simp)
            replace hgr := grown_trans hgr g
            clear g
            have hNk : NumAt U6 bn n := hNr
            clear hUr hNr hN2 hN3 hN4 hN5 hN6
            have gB := World.grownBy_alloc U6 (.cells #[.slice (some ⟨bu, 0, none⟩) 16 16, .slice (some ⟨bn, 0, none⟩) 16 16, .slice (some ⟨b2, 0, none⟩) 16 16, .slice (some ⟨b3, 0, none⟩) 16 16, .slice (some ⟨b4, 0, none⟩) 16 16, .slice (some ⟨b5, 0, none⟩) 16 16, .slice (some ⟨b6, 0, none⟩) 16 16] 32) none
            replace hNk := hNk.grown gB
            replace hT := hT.grown gB (by simp)
            replace hgr := grown_trans hgr gB
            clear gB
            go_wp2_with fail
            generalize U6.alloc (.cells #[.slice (some ⟨bu, 0, none⟩) 16 16, .slice (some ⟨bn, 0, none⟩) 16 16, .slice (some ⟨b2, 0, none⟩) 16 16, .slice (some ⟨b3, 0, none⟩) 16 16, .slice (some ⟨b4, 0, none⟩) 16 16, .slice (some ⟨b5, 0, none⟩) 16 16, .slice (some ⟨b6, 0, none⟩) 16 16] 32) = U7 at *
            have gd : U7.grownBy U7.drew none := grown_drew (grown_refl U7 none)
            obtain ⟨s, hs⟩ : ∃ s, s = strOf 32 (G 1) := ⟨_, rfl⟩
            have HS := Lib.hid hs
            clear hs
            refine wp_region_rel (relL [fun x _ => x = .slice (some ⟨tb, 0, none⟩) 32 32, fun x _ => x = .string s, fun x _ => x = .slice (some ⟨bn, 0, none⟩) 16 16, BytesAt (G 1), fun x _ => x = .string s, fun x _ => x = .bool false])
              6 (atL [80, 81, 82, 83, 84, 85]) (depL [[], [0], [], [2], [3], [1, 4]]) (by kernel_rfl) rfl (by kernel_rfl) (by kernel_rfl) 94 rfl (by decide) (by decide) (by decide) ?mono1 ?step1 ?fin1
            case mono1 =>
              intro j x W W' hj h g
              obtain rfl | rfl | rfl | rfl | rfl | rfl : j = 0 ∨ j = 1 ∨ j = 2 ∨ j = 3 ∨ j = 4 ∨ j = 5 := by omega
              · exact h
              · exact h
              · exact h
              · exact BytesAt.grown h g
              · exact h
              · exact h
            case step1 =>
              intro j hj
              obtain rfl | rfl | rfl | rfl | rfl | rfl : j = 0 ∨ j = 1 ∨ j = 2 ∨ j = 3 ∨ j = 4 ∨ j = 5 := by omega
              · exact ⟨_, rfl, rfl, rfl, fun b W hs _ _ K hK => rel_val (run_slice32 14 rfl (hs 14 (by decide))) rfl hK⟩
              · refine ⟨_, rfl, rfl, rfl, fun b W hs hg hD K hK => ?_⟩
                exact rel_val (v := .string s) (by rw [HS.out]; exact run_convT 80 rfl ((eval_slot b 80).trans (hD 0 (by decide))) (hT.grown (grown_trans gd hg) (by simp)).rd32 (HGL.out 1)) rfl hK
              · exact ⟨_, rfl, rfl, rfl, fun b W hs _ _ K hK => rel_move 15 rfl (hs 15 (by decide)) rfl hK⟩
              · refine ⟨_, rfl, rfl, rfl, fun b W hs hg hD K hK => rel_call 21 _ (exec_fn1 _ _ _ rfl ((eval_slot b 82).trans (hD 2 (by decide)))) (fun _ _ => rfl) ?_ hK⟩
                have hb := refBytes_any bn n W (hNk.grown (grown_trans gd hg))
                rw [HG1.out] at hb
                exact hb.mono fun e w' h => h.bytes
              · refine ⟨_, rfl, rfl, rfl, fun b W hs hg hD K hK => ?_⟩
                obtain ⟨g, cap, h1, h2⟩ := hD 3 (by decide)
                exact rel_val (v := .string s) (by rw [HS.out]; exact run_convT 83 rfl ((eval_slot b 83).trans h1) h2.rd (HGL.out 1)) rfl hK
              · refine ⟨_, rfl, rfl, rfl, fun b W hs hg hD K hK => ?_⟩
                have h1 : b.tmps[81]?.getD undef = .string s := hD 1 (by decide)
                have h2 : b.tmps[84]?.getD undef = .string s := hD 4 (by decide)
                refine rel_val (v := .bool false) ?_ rfl hK
                unfold execOp
                go_simp
            case fin1 =>
              intro vals W hg hR
              have h5 : vals 5 = .bool false := hR 5 (by decide)
              replace hgr := grown_trans hgr (grown_trans gd hg)
              clear hR hg gd hNk hT
              simp only [putsN, atL, Act.put, List.getD_cons_zero, List.getD_cons_succ, List.setIfInBounds_toArray, List.set_cons_succ, List.set_cons_zero, h5]
              generalize vals 0 = p0
              generalize vals 1 = p1
              generalize vals 2 = p2
              generalize vals 3 = p3
              generalize vals 4 = p4
              clear h5 vals
              go_wp2_with fail
              go_roundw
              case rel => exact ⟨2, by decide, by go_num, hgr⟩
              case measure => simp [intOf]
  
          · have hRr := HRow.out.grown hgr
            have hUr := HU.out.grown hgr
            have hVr := HV.out.grown hgr
            have hNr := HN.out.grown hgr
            have hD : Holds (wr.alloc (.cells #[.int .u8 0, .int .u8 0, .int .u8 0, .int .u8 0, .int .u8 0, .int .u8 0, .int .u8 0, .int .u8 0, .int .u8 0, .int .u8 0, .int .u8 0, .int .u8 0, .int .u8 0, .int .u8 0, .int .u8 0, .int .u8 0, .int .u8 0, .int .u8 0, .int .u8 0, .int .u8 0, .int .u8 0, .int .u8 0, .int .u8 0, .int .u8 0, .int .u8 0, .int .u8 0, .int .u8 0, .int .u8 0, .int .u8 0, .int .u8 0, .int .u8 0, .int .u8 0] 22)) wr.heap.size 22 .u8 32 (fun _ => 0) := holds_alloc wr 22 .u8 32 (fun _ => 0) _ rfl
            have gA := World.grownBy_alloc wr (.cells #[.int .u8 0, .int .u8 0, .int .u8 0, .int .u8 0, .int .u8 0, .int .u8 0, .int .u8 0, .int .u8 0, .int .u8 0, .int .u8 0, .int .u8 0, .int .u8 0, .int .u8 0, .int .u8 0, .int .u8 0, .int .u8 0, .int .u8 0, .int .u8 0, .int .u8 0, .int .u8 0, .int .u8 0, .int .u8 0, .int .u8 0, .int .u8 0, .int .u8 0, .int .u8 0, .int .u8 0, .int .u8 0, .int .u8 0, .int .u8 0, .int .u8 0, .int .u8 0] 22) none
            have hT := hD.setRow .u8 32 (G 2)
            have gT := grown_setRow_new gA wr.heap.size (cellsOf .u8 32 (G 2)) (Or.inl (Nat.le_refl _))
            clear hi hlt
            go_wp2_with (first
              | refine wpList_b32_mid (i := 2) rfl 58 rfl rfl rfl (by decide) hRr ?_
              | refine wpList_store_row rfl 22 (.tmp 14) (.tmp 59) rfl wr.heap.size _ rfl rfl 22 _ hD.block (by rw [cellsOf_size]; kernel_rfl) rfl (cellsOf_all _ _ _) ?_)
            replace hUr := hUr.grown gT
            replace hVr := hVr.grown gT
            replace hNr := hNr.grown gT
            replace hgr := grown_trans hgr gT
            clear hRr hD gA gT
            generalize (wr.alloc (.cells #[.int .u8 0, .int .u8 0, .int .u8 0, .int .u8 0, .int .u8 0, .int .u8 0, .int .u8 0, .int .u8 0, .int .u8 0, .int .u8 0, .int .u8 0, .int .u8 0, .int .u8 0, .int .u8 0, .int .u8 0, .int .u8 0, .int .u8 0, .int .u8 0, .int .u8 0, .int .u8 0, .int .u8 0, .int .u8 0, .int .u8 0, .int .u8 0, .int .u8 0, .int .u8 0, .int .u8 0, .int .u8 0, .int .u8 0, .int .u8 0, .int .u8 0, .int .u8 0] 22)).setRow wr.heap.size (cellsOf .u8 32 (G 2)) = U1 at *
            generalize wr.heap.size = tb at *
            go_at_call 17
            refine (refAdd_any bu bv a b _ hUr hVr).mono ?_
            intro e U2 h
            rw [← HV2.out] at h
            obtain ⟨⟨b2, rfl, _, hN2⟩, g⟩ := h
            replace hUr := hUr.grown g
            replace hVr := hVr.grown g
            replace hNr := hNr.grown g
            replace hT := hT.grown g (by simp)
            replace hgr := grown_trans hgr g
            clear g
            go_wp2_with fail
            go_at_call 18
            refine (refSub_any bu bv a b _ hUr hVr).mono ?_
            intro e U3 h
            rw [← HV3.out] at h
            obtain ⟨⟨b3, rfl, _, hN3⟩, g⟩ := h
            replace hUr := hUr.grown g
            replace hVr := hVr.grown g
            replace hNr := hNr.grown g
            replace hN2 := hN2.grown g
            replace hT := hT.grown g (by simp)
            replace hgr := grown_trans hgr g
            clear g
            go_wp2_with fail
            go_at_call 19
            refine (refMul_any bu bv a b _ hUr hVr).mono ?_
            intro e U4 h
            rw [← HV4.out] at h
            obtain ⟨⟨b4, rfl, _, hN4⟩, g⟩ := h
            replace hUr := hUr.grown g
            replace hNr := hNr.grown g
            replace hN2 := hN2.grown g
            replace hN3 := hN3.grown g
            replace hT := hT.grown g (by simp)
            replace hgr := grown_trans hgr g
            clear g hVr
            go_wp2_with fail
            go_at_call 19
            refine (refMul_any bu bn a n _ hUr hNr).mono ?_
            intro e U5 h
            rw [← HV5.out] at h
            obtain ⟨⟨b5, rfl, _, hN5⟩, g⟩ := h
            replace hUr := hUr.grown g
            replace hNr := hNr.grown g
            replace hN2 := hN2.grown g
            replace hN3 := hN3.grown g
            replace hN4 := hN4.grown g
            replace hT := hT.grown g (by simp)
            replace hgr := grown_trans hgr g
            clear g
            go_wp2_with fail
            go_at_call 20
            refine (refInverse_any bu a _ hUr).mono ?_
            intro e U6 h
            rw [← HV6.out] at h
            obtain ⟨⟨b6, rfl, _, hN6⟩, g⟩ := h
            replace hUr := hUr.grown g
            replace hNr := hNr.grown g
            replace hN2 := hN2.grown g
            replace hN3 := hN3.grown g
            replace hN4 := hN4.grown g
            replace hN5 := hN5.grown g
            replace hT := hT.grown g (by simp)
            replace hgr := grown_trans hgr g
            clear g
            have hNk : NumAt U6 b2 v2 := hN2
            clear hUr hNr hN2 hN3 hN4 hN5 hN6
            have gB := World.grownBy_alloc U6 (.cells #[.slice (some ⟨bu, 0, none⟩) 16 16, .slice (some ⟨bn, 0, none⟩) 16 16, .slice (some ⟨b2, 0, none⟩) 16 16, .slice (some ⟨b3, 0, none⟩) 16 16, .slice (some ⟨b4, 0, none⟩) 16 16, .slice (some ⟨b5, 0, none⟩) 16 16, .slice (some ⟨b6, 0, none⟩) 16 16] 32) none
            replace hNk := hNk.grown gB
            replace hT := hT.grown gB (by simp)
            replace hgr := grown_trans hgr gB
            clear gB
            go_wp2_with fail
            generalize U6.alloc (.cells #[.slice (some ⟨bu, 0, none⟩) 16 16, .slice (some ⟨bn, 0, none⟩) 16 16, .slice (some ⟨b2, 0, none⟩) 16 16, .slice (some ⟨b3, 0, none⟩) 16 16, .slice (some ⟨b4, 0, none⟩) 16 16, .slice (some ⟨b5, 0, none⟩) 16 16, .slice (some ⟨b6, 0, none⟩) 16 16] 32) = U7 at *
            have gd : U7.grownBy U7.drew none := grown_drew (grown_refl U7 none)
            obtain ⟨s, hs⟩ : ∃ s, s = strOf 32 (G 2) := ⟨_, rfl⟩
            have HS := Lib.hid hs
            clear hs
            refine wp_region_rel (relL [fun x _ => x = .slice (some ⟨tb, 0, none⟩) 32 32, fun x _ => x = .string s, fun x _ => x = .slice (some ⟨b2, 0, none⟩) 16 16, BytesAt (G 2), fun x _ => x = .string s, fun x _ => x = .bool false])
              6 (atL [80, 81, 82, 83, 84, 85]) (depL [[], [0], [], [2], [3], [1, 4]]) (by kernel_rfl) rfl (by kernel_rfl) (by kernel_rfl) 94 rfl (by decide) (by decide) (by decide) ?mono2 ?step2 ?fin2
            case mono2 =>
              intro j x W W' hj h g
              obtain rfl | rfl | rfl | rfl | rfl | rfl : j = 0 ∨ j = 1 ∨ j = 2 ∨ j = 3 ∨ j = 4 ∨ j = 5 := by omega
              · exact h
              · exact h
              · exact h
              · exact BytesAt.grown h g
              · exact h
              · exact h
            case step2 =>
              intro j hj
              obtain rfl | rfl | rfl | rfl | rfl | rfl : j = 0 ∨ j = 1 ∨ j = 2 ∨ j = 3 ∨ j = 4 ∨ j = 5 := by omega
              · exact ⟨_, rfl, rfl, rfl, fun b W hs _ _ K hK => rel_val (run_slice32 14 rfl (hs 14 (by decide))) rfl hK⟩
              · refine ⟨_, rfl, rfl, rfl, fun b W hs hg hD K hK => ?_⟩
                exact rel_val (v := .string s) (by rw [HS.out]; exact run_convT 80 rfl ((eval_slot b 80).trans (hD 0 (by decide))) (hT.grown (grown_trans gd hg) (by simp)).rd32 (HGL.out 2)) rfl hK
              · exact ⟨_, rfl, rfl, rfl, fun b W hs _ _ K hK => rel_move 15 rfl (hs 15 (by decide)) rfl hK⟩
              · refine ⟨_, rfl, rfl, rfl, fun b W hs hg hD K hK => rel_call 21 _ (exec_fn1 _ _ _ rfl ((eval_slot b 82).trans (hD 2 (by decide)))) (fun _ _ => rfl) ?_ hK⟩
                have hb := refBytes_any b2 v2 W (hNk.grown (grown_trans gd hg))
                rw [HG2.out] at hb
                exact hb.mono fun e w' h => h.bytes
              · refine ⟨_, rfl, rfl, rfl, fun b W hs hg hD K hK => ?_⟩
                obtain ⟨g, cap, h1, h2⟩ := hD 3 (by decide)
                exact rel_val (v := .string s) (by rw [HS.out]; exact run_convT 83 rfl ((eval_slot b 83).trans h1) h2.rd (HGL.out 2)) rfl hK
              · refine ⟨_, rfl, rfl, rfl, fun b W hs hg hD K hK => ?_⟩
                have h1 : b.tmps[81]?.getD undef = .string s := hD 1 (by decide)
                have h2 : b.tmps[84]?.getD undef = .string s := hD 4 (by decide)
                refine rel_val (v := .bool false) ?_ rfl hK
                unfold execOp
                go_simp
            case fin2 =>
              intro vals W hg hR
              have h5 : vals 5 = .bool false := hR 5 (by decide)
              replace hgr := grown_trans hgr (grown_trans gd hg)
              clear hR hg gd hNk hT
              simp only [putsN, atL, Act.put, List.getD_cons_zero, List.getD_cons_succ, List.setIfInBounds_toArray, List.set_cons_succ, List.set_cons_zero, h5]
              generalize vals 0 = p0
              generalize vals 1 = p1
              generalize vals 2 = p2
              generalize vals 3 = p3
              generalize vals 4 = p4
              clear h5 vals
              go_wp2_with fail
              go_roundw
              case rel => exact ⟨3, by decide, by go_num, hgr⟩
              case measure => simp [intOf]
  
          · have hRr := HRow.out.grown hgr
            have hUr := HU.out.grown hgr
            have hVr := HV.out.grown hgr
            have hNr := HN.out.grown hgr
            have hD : Holds (wr.alloc (.cells #[.int .u8 0, .int .u8 0, .int .u8 0, .int .u8 0, .int .u8 0, .int .u8 0, .int .u8 0, .int .u8 0, .int .u8 0, .int .u8 0, .int .u8 0, .int .u8 0, .int .u8 0, .int .u8 0, .int .u8 0, .int .u8 0, .int .u8 0, .int .u8 0, .int .u8 0, .int .u8 0, .int .u8 0, .int .u8 0, .int .u8 0, .int .u8 0, .int .u8 0, .int .u8 0, .int .u8 0, .int .u8 0, .int .u8 0, .int .u8 0, .int .u8 0, .int .u8 0] 22)) wr.heap.size 22 .u8 32 (fun _ => 0) := holds_alloc wr 22 .u8 32 (fun _ => 0) _ rfl
            have gA := World.grownBy_alloc wr (.cells #[.int .u8 0, .int .u8 0, .int .u8 0, .int .u8 0, .int .u8 0, .int .u8 0, .int .u8 0, .int .u8 0, .int .u8 0, .int .u8 0, .int .u8 0, .int .u8 0, .int .u8 0, .int .u8 0, .int .u8 0, .int .u8 0, .int .u8 0, .int .u8 0, .int .u8 0, .int .u8 0, .int .u8 0, .int .u8 0, .int .u8 0, .int .u8 0, .int .u8 0, .int .u8 0, .int .u8 0, .int .u8 0, .int .u8 0, .int .u8 0, .int .u8 0, .int .u8 0] 22) none
            have hT := hD.setRow .u8 32 (G 3)
            have gT := grown_setRow_new gA wr.heap.size (cellsOf .u8 32 (G 3)) (Or.inl (Nat.le_refl _))
            clear hi hlt
            go_wp2_with (first
              | refine wpList_b32_mid (i := 3) rfl 58 rfl rfl rfl (by decide) hRr ?_
              | refine wpList_store_row rfl 22 (.tmp 14) (.tmp 59) rfl wr.heap.size _ rfl rfl 22 _ hD.block (by rw [cellsOf_size]; kernel_rfl) rfl (cellsOf_all _ _ _) ?_)
            replace hUr := hUr.grown gT
            replace hVr := hVr.grown gT
            replace hNr := hNr.grown gT
            replace hgr := grown_trans hgr gT
            clear hRr hD gA gT
            generalize (wr.alloc (.cells #[.int .u8 0, .int .u8 0, .int .u8 0, .int .u8 0, .int .u8 0, .int .u8 0, .int .u8 0, .int .u8 0, .int .u8 0, .int .u8 0, .int .u8 0, .int .u8 0, .int .u8 0, .int .u8 0, .int .u8 0, .int .u8 0, .int .u8 0, .int .u8 0, .int .u8 0, .int .u8 0, .int .u8 0, .int .u8 0, .int .u8 0, .int .u8 0, .int .u8 0, .int .u8 0, .int .u8 0, .int .u8 0, .int .u8 0, .int .u8 0, .int .u8 0, .int .u8 0] 22)).setRow wr.heap.size (cellsOf .u8 32 (G 3)) = U1 at *
            generalize wr.heap.size = tb at *
            go_at_call 17
            refine (refAdd_any bu bv a b _ hUr hVr).mono ?_
            intro e U2 h
            rw [← HV2.out] at h
            obtain ⟨⟨b2, rfl, _, hN2⟩, g⟩ := h
            replace hUr := hUr.grown g
            replace hVr := hVr.grown g
            replace hNr := hNr.grown g
            replace hT := hT.grown g (by simp)
            replace hgr := grown_trans hgr g
            clear g
            go_wp2_with fail
            go_at_call 18
            refine (refSub_any bu bv a b _ hUr hVr).mono ?_
            intro e U3 h
            rw [← HV3.out] at h
            obtain ⟨⟨b3, rfl, _, hN3⟩, g⟩ := h
            replace hUr := hUr.grown g
            replace hVr := hVr.grown g
            replace hNr := hNr.grown g
            replace hN2 := hN2.grown g
            replace hT := hT.grown g (by simp)
            replace hgr := grown_trans hgr g
            clear g
            go_wp2_with fail
            go_at_call 19
            refine (refMul_any bu bv a b _ hUr hVr).mono ?_
            intro e U4 h
            rw [← HV4.out] at h
            obtain ⟨⟨b4, rfl, _, hN4⟩, g⟩ := h
            replace hUr := hUr.grown g
            replace hNr := hNr.grown g
            replace hN2 := hN2.grown g
            replace hN3 := hN3.grown g
            replace hT := hT.grown g (by simp)
            replace hgr := grown_trans hgr g
            clear g hVr
            go_wp2_with fail
            go_at_call 19
            refine (refMul_any bu bn a n _ hUr hNr).mono ?_
            intro e U5 h
            rw [← HV5.out] at h
            obtain ⟨⟨b5, rfl, _, hN5⟩, g⟩ := h
            replace hUr := hUr.grown g
            replace hNr := hNr.grown g
            replace hN2 := hN2.grown g
            replace hN3 := hN3.grown g
            replace hN4 := hN4.grown g
            replace hT := hT.grown g (by simp)
            replace hgr := grown_trans hgr g
            clear g
            go_wp2_with fail
            go_at_call 20
            refine (refInverse_any bu a _ hUr).mono ?_
            intro e U6 h
            rw [← HV6.out] at h
            obtain ⟨⟨b6, rfl, _, hN6⟩, g⟩ := h
            replace hUr := hUr.grown g
            replace hNr := hNr.grown g
            replace hN2 := hN2.grown g
            replace hN3 := hN3.grown g
            replace hN4 := hN4.grown g
            replace hN5 := hN5.grown g
            replace hT := hT.grown g (by simp)
            replace hgr := grown_trans hgr g
            clear g
            have hNk : NumAt U6 b3 v3 := hN3
            clear hUr hNr hN2 hN3 hN4 hN5 hN6
            have gB := World.grownBy_alloc U6 (.cells #[.slice (some ⟨bu, 0, none⟩) 16 16, .slice (some ⟨bn, 0, none⟩) 16 16, .slice (some ⟨b2, 0, none⟩) 16 16, .slice (some ⟨b3, 0, none⟩) 16 16, .slice (some ⟨b4, 0, none⟩) 16 16, .slice (some ⟨b5, 0, none⟩) 16 16, .slice (some ⟨b6, 0, none⟩) 16 16] 32) none
            replace hNk := hNk.grown gB
            replace hT := hT.grown gB (by simp)
            replace hgr := grown_trans hgr gB
            clear gB
            go_wp2_with fail
            generalize U6.alloc (.cells #[.slice (some ⟨bu, 0, none⟩) 16 16, .slice (some ⟨bn, 0, none⟩) 16 16, .slice (some ⟨b2, 0, none⟩) 16 16, .slice (some ⟨b3, 0, none⟩) 16 16, .slice (some ⟨b4, 0, none⟩) 16 16, .slice (some ⟨b5, 0, none⟩) 16 16, .slice (some ⟨b6, 0, none⟩) 16 16] 32) = U7 at *
            have gd : U7.grownBy U7.drew none := grown_drew (grown_refl U7 none)
            obtain ⟨s, hs⟩ : ∃ s, s = strOf 32 (G 3) := ⟨_, rfl⟩
            have HS := Lib.hid hs
            clear hs
            refine wp_region_rel (relL [fun x _ => x = .slice (some ⟨tb, 0, none⟩) 32 32, fun x _ => x = .string s, fun x _ => x = .slice (some ⟨b3, 0, none⟩) 16 16, BytesAt (G 3), fun x _ => x = .string s, fun x _ => x = .bool false])
              6 (atL [80, 81, 82, 83, 84, 85]) (depL [[], [0], [], [2], [3], [1, 4]]) (by kernel_rfl) rfl (by kernel_rfl) (by kernel_rfl) 94 rfl (by decide) (by decide) (by decide) ?mono3 ?step3 ?fin3
            case mono3 =>
              intro j x W W' hj h g
              obtain rfl | rfl | rfl | rfl | rfl | rfl : j = 0 ∨ j = 1 ∨ j = 2 ∨ j = 3 ∨ j = 4 ∨ j = 5 := by omega
              · exact h
              · exact h
              · exact h
              · exact BytesAt.grown h g
              · exact h
              · exact h
            case step3 =>
              intro j hj
              obtain rfl | rfl | rfl | rfl | rfl | rfl : j = 0 ∨ j = 1 ∨ j = 2 ∨ j = 3 ∨ j = 4 ∨ j = 5 := by omega
              · exact ⟨_, rfl, rfl, rfl, fun b W hs _ _ K hK => rel_val (run_slice32 14 rfl (hs 14 (by decide))) rfl hK⟩
              · refine ⟨_, rfl, rfl, rfl, fun b W hs hg hD K hK => ?_⟩
                exact rel_val (v := .string s) (by rw [HS.out]; exact run_convT 80 rfl ((eval_slot b 80).trans (hD 0 (by decide))) (hT.grown (grown_trans gd hg) (by simp)).rd32 (HGL.out 3)) rfl hK
              · exact ⟨_, rfl, rfl, rfl, fun b W hs _ _ K hK => rel_move 15 rfl (hs 15 (by decide)) rfl hK⟩
              · refine ⟨_, rfl, rfl, rfl, fun b W hs hg hD K hK => rel_call 21 _ (exec_fn1 _ _ _ rfl ((eval_slot b 82).trans (hD 2 (by decide)))) (fun _ _ => rfl) ?_ hK⟩
                have hb := refBytes_any b3 v3 W (hNk.grown (grown_trans gd hg))
                rw [HG3.out] at hb
                exact hb.mono fun e w' h => h.bytes
              · refine ⟨_, rfl, rfl, rfl, fun b W hs hg hD K hK => ?_⟩
                obtain ⟨g, cap, h1, h2⟩ := hD 3 (by decide)
                exact rel_val (v := .string s) (by rw [HS.out]; exact run_convT 83 rfl ((eval_slot b 83).trans h1) h2.rd (HGL.out 3)) rfl hK
              · refine ⟨_, rfl, rfl, rfl, fun b W hs hg hD K hK => ?_⟩
                have h1 : b.tmps[81]?.getD undef = .string s := hD 1 (by decide)
                have h2 : b.tmps[84]?.getD undef = .string s := hD 4 (by decide)
                refine rel_val (v := .bool false) ?_ rfl hK
                unfold execOp
                go_simp
            case fin3 =>
              intro vals W hg hR
              have h5 : vals 5 = .bool false := hR 5 (by decide)
              replace hgr := grown_trans hgr (grown_trans gd hg)
              clear hR hg gd hNk hT
              simp only [putsN, atL, Act.put, List.getD_cons_zero, List.getD_cons_succ, List.setIfInBounds_toArray, List.set_cons_succ, List.set_cons_zero, h5]
              generalize vals 0 = p0
              generalize vals 1 = p1
              generalize vals 2 = p2
              generalize vals 3 = p3
              generalize vals 4 = p4
              clear h5 vals
              go_wp2_with fail
              go_roundw
              case rel => exact ⟨4, by decide, by go_num, hgr⟩
              case measure => simp [intOf]
  
          · have hRr := HRow.out.grown hgr
            have hUr := HU.out.grown hgr
            have hVr := HV.out.grown hgr
            have hNr := HN.out.grown hgr
            have hD : Holds (wr.alloc (.cells #[.int .u8 0, .int .u8 0, .int .u8 0, .int .u8 0, .int .u8 0, .int .u8 0, .int .u8 0, .int .u8 0, .int .u8 0, .int .u8 0, .int .u8 0, .int .u8 0, .int .u8 0, .int .u8 0, .int .u8 0, .int .u8 0, .int .u8 0, .int .u8 0, .int .u8 0, .int .u8 0, .int .u8 0, .int .u8 0, .int .u8 0, .int .u8 0, .int .u8 0, .int .u8 0, .int .u8 0, .int .u8 0, .int .u8 0, .int .u8 0, .int .u8 0, .int .u8 0] 22)) wr.heap.size 22 .u8 32 (fun _ => 0) := holds_alloc wr 22 .u8 32 (fun _ => 0) _ rfl
            have gA := World.grownBy_alloc wr (.cells #[.int .u8 0, .int .u8 0, .int .u8 0, .int .u8 0, .int .u8 0, .int .u8 0, .int .u8 0, .int .u8 0, .int .u8 0, .int .u8 0, .int .u8 0, .int .u8 0, .int .u8 0, .int .u8 0, .int .u8 0, .int .u8 0, .int .u8 0, .int .u8 0, .int .u8 0, .int .u8 0, .int .u8 0, .int .u8 0, .int .u8 0, .int .u8 0, .int .u8 0, .int .u8 0, .int .u8 0, .int .u8 0, .int .u8 0, .int .u8 0, .int .u8 0, .int .u8 0] 22) none
            have hT := hD.setRow .u8 32 (G 4)
            have gT := grown_setRow_new gA wr.heap.size (cellsOf .u8 32 (G 4)) (Or.inl (Nat.le_refl _))
            clear hi hlt
            go_wp2_with (first
              | refine wpList_b32_mid (i := 4) rfl 58 rfl rfl rfl (by decide) hRr ?_
              | refine wpList_store_row rfl 22 (.tmp 14) (.tmp 59) rfl wr.heap.size _ rfl rfl 22 _ hD.block (by rw [cellsOf_size]; kernel_rfl) rfl (cellsOf_all _ _ _) ?_)
            replace hUr := hUr.grown gT
            replace hVr := hVr.grown gT
            replace hNr := hNr.grown gT
            replace hgr := grown_trans hgr gT
            clear hRr hD gA gT
            generalize (wr.alloc (.cells #[.int .u8 0, .int .u8 0, .int .u8 0, .int .u8 0, .int .u8 0, .int .u8 0, .int .u8 0, .int .u8 0, .int .u8 0, .int .u8 0, .int .u8 0, .int .u8 0, .int .u8 0, .int .u8 0, .int .u8 0, .int .u8 0, .int .u8 0, .int .u8 0, .int .u8 0, .int .u8 0, .int .u8 0, .int .u8 0, .int .u8 0, .int .u8 0, .int .u8 0, .int .u8 0, .int .u8 0, .int .u8 0, .int .u8 0, .int .u8 0, .int .u8 0, .int .u8 0] 22)).setRow wr.heap.size (cellsOf .u8 32 (G 4)) = U1 at *
            generalize wr.heap.size = tb at *
            go_at_call 17
            refine (refAdd_any bu bv a b _ hUr hVr).mono ?_
            intro e U2 h
            rw [← HV2.out] at h
            obtain ⟨⟨b2, rfl, _, hN2⟩, g⟩ := h
            replace hUr := hUr.grown g
            replace hVr := hVr.grown g
            replace hNr := hNr.grown g
            replace hT := hT.grown g (by simp)
            replace hgr := grown_trans hgr g
            clear g
            go_wp2_with fail
            go_at_call 18
            refine (refSub_any bu bv a b _ hUr hVr).mono ?_
            intro e U3 h
            rw [← HV3.out] at h
            obtain ⟨⟨b3, rfl, _, hN3⟩, g⟩ := h
            replace hUr := hUr.grown g
            replace hVr := hVr.grown g
            replace hNr := hNr.grown g
            replace hN2 := hN2.grown g
            replace hT := hT.grown g (by simp)
            replace hgr := grown_trans hgr g
            clear g
            go_wp2_with fail
            go_at_call 19
            refine (refMul_any bu bv a b _ hUr hVr).mono ?_
            intro e U4 h
            rw [← HV4.out] at h
            obtain ⟨⟨b4, rfl, _, hN4⟩, g⟩ := h
            replace hUr := hUr.grown g
            replace hNr := hNr.grown g
            replace hN2 := hN2.grown g
            replace hN3 := hN3.grown g
            replace hT := hT.grown g (by simp)
            replace hgr := grown_trans hgr g
            clear g hVr
            go_wp2_with fail
            go_at_call 19
            refine (refMul_any bu bn a n _ hUr hNr).mono ?_
            intro e U5 h
            rw [← HV5.out] at h
            obtain ⟨⟨b5, rfl, _, hN5⟩, g⟩ := h
            replace hUr := hUr.grown g
            replace hNr := hNr.grown g
            replace hN2 := hN2.grown g
            replace hN3 := hN3.grown g
            replace hN4 := hN4.grown g
            replace hT := hT.grown g (by simp)
            replace hgr := grown_trans hgr g
            clear g
            go_wp2_with fail
            go_at_call 20
            refine (refInverse_any bu a _ hUr).mono ?_
            intro e U6 h
            rw [← HV6.out] at h
            obtain ⟨⟨b6, rfl, _, hN6⟩, g⟩ := h
            replace hUr := hUr.grown g
            replace hNr := hNr.grown g
            replace hN2 := hN2.grown g
            replace hN3 := hN3.grown g
            replace hN4 := hN4.grown g
            replace hN5 := hN5.grown g
            replace hT := hT.grown g (by simp)
            replace hgr := grown_trans hgr g
            clear g
            have hNk : NumAt U6 b4 v4 := hN4
            clear hUr hNr hN2 hN3 hN4 hN5 hN6
            have gB := World.grownBy_alloc U6 (.cells #[.slice (some ⟨bu, 0, none⟩) 16 16, .slice (some ⟨bn, 0, none⟩) 16 16, .slice (some ⟨b2, 0, none⟩) 16 16, .slice (some ⟨b3, 0, none⟩) 16 16, .slice (some ⟨b4, 0, none⟩) 16 16, .slice (some ⟨b5, 0, none⟩) 16 16, .slice (some ⟨b6, 0, none⟩) 16 16] 32) none
            replace hNk := hNk.grown gB
            replace hT := hT.grown gB (by simp)
            replace hgr := grown_trans hgr gB
            clear gB
            go_wp2_with fail
            generalize U6.alloc (.cells #[.slice (some ⟨bu, 0, none⟩) 16 16, .slice (some ⟨bn, 0, none⟩) 16 16, .slice (some ⟨b2, 0, none⟩) 16 16, .slice (some ⟨b3, 0, none⟩) 16 16, .slice (some ⟨b4, 0, none⟩) 16 16, .slice (some ⟨b5, 0, none⟩) 16 16, .slice (some ⟨b6, 0, none⟩) 16 16] 32) = U7 at *
            have gd : U7.grownBy U7.drew none := grown_drew (grown_refl U7 none)
            obtain ⟨s, hs⟩ : ∃ s, s = strOf 32 (G 4) := ⟨_, rfl⟩
            have HS := Lib.hid hs
            clear hs
            refine wp_region_rel (relL [fun x _ => x = .slice (some ⟨tb, 0, none⟩) 32 32, fun x _ => x = .string s, fun x _ => x = .slice (some ⟨b4, 0, none⟩) 16 16, BytesAt (G 4), fun x _ => x = .string s, fun x _ => x = .bool false])
              6 (atL [80, 81, 82, 83, 84, 85]) (depL [[], [0], [], [2], [3], [1, 4]]) (by kernel_rfl) rfl (by kernel_rfl) (by kernel_rfl) 94 rfl (by decide) (by decide) (by decide) ?mono4 ?step4 ?fin4
            case mono4 =>
              intro j x W W' hj h g
              obtain rfl | rfl | rfl | rfl | rfl | rfl : j = 0 ∨ j = 1 ∨ j = 2 ∨ j = 3 ∨ j = 4 ∨ j = 5 := by omega
              · exact h
              · exact h
              · exact h
              · exact BytesAt.grown h g
              · exact h
              · exact h
            case step4 =>
              intro j hj
              obtain rfl | rfl | rfl | rfl | rfl | rfl : j = 0 ∨ j = 1 ∨ j = 2 ∨ j = 3 ∨ j = 4 ∨ j = 5 := by omega
              · exact ⟨_, rfl, rfl, rfl, fun b W hs _ _ K hK => rel_val (run_slice32 14 rfl (hs 14 (by decide))) rfl hK⟩
              · refine ⟨_, rfl, rfl, rfl, fun b W hs hg hD K hK => ?_⟩
                exact rel_val (v := .string s) (by rw [HS.out]; exact run_convT 80 rfl ((eval_slot b 80).trans (hD 0 (by decide))) (hT.grown (grown_trans gd hg) (by simp)).rd32 (HGL.out 4)) rfl hK
              · exact ⟨_, rfl, rfl, rfl, fun b W hs _ _ K hK => rel_move 15 rfl (hs 15 (by decide)) rfl hK⟩
              · refine ⟨_, rfl, rfl, rfl, fun b W hs hg hD K hK => rel_call 21 _ (exec_fn1 _ _ _ rfl ((eval_slot b 82).trans (hD 2 (by decide)))) (fun _ _ => rfl) ?_ hK⟩
                have hb := refBytes_any b4 v4 W (hNk.grown (grown_trans gd hg))
                rw [HG4.out] at hb
                exact hb.mono fun e w' h => h.bytes
              · refine ⟨_, rfl, rfl, rfl, fun b W hs hg hD K hK => ?_⟩
                obtain ⟨g, cap, h1, h2⟩ := hD 3 (by decide)
                exact rel_val (v := .string s) (by rw [HS.out]; exact run_convT 83 rfl ((eval_slot b 83).trans h1) h2.rd (HGL.out 4)) rfl hK
              · refine ⟨_, rfl, rfl, rfl, fun b W hs hg hD K hK => ?_⟩
                have h1 : b.tmps[81]?.getD undef = .string s := hD 1 (by decide)
                have h2 : b.tmps[84]?.getD undef = .string s := hD 4 (by decide)
                refine rel_val (v := .bool false) ?_ rfl hK
                unfold execOp
                go_simp
            case fin4 =>
              intro vals W hg hR
              have h5 : vals 5 = .bool false := hR 5 (by decide)
              replace hgr := grown_trans hgr (grown_trans gd hg)
              clear hR hg gd hNk hT
              simp only [putsN, atL, Act.put, List.getD_cons_zero, List.getD_cons_succ, List.setIfInBounds_toArray, List.set_cons_succ, List.set_cons_zero, h5]
              generalize vals 0 = p0
              generalize vals 1 = p1
              generalize vals 2 = p2
              generalize vals 3 = p3
              generalize vals 4 = p4
              clear h5 vals
              go_wp2_with fail
              go_roundw
              case rel => exact ⟨5, by decide, by go_num, hgr⟩
              case measure => simp [intOf]
  
          · have hRr := HRow.out.grown hgr
            have hUr := HU.out.grown hgr
            have hVr := HV.out.grown hgr
            have hNr := HN.out.grown hgr
            have hD : Holds (wr.alloc (.cells #[.int .u8 0, .int .u8 0, .int .u8 0, .int .u8 0, .int .u8 0, .int .u8 0, .int .u8 0, .int .u8 0, .int .u8 0, .int .u8 0, .int .u8 0, .int .u8 0, .int .u8 0, .int .u8 0, .int .u8 0, .int .u8 0, .int .u8 0, .int .u8 0, .int .u8 0, .int .u8 0, .int .u8 0, .int .u8 0, .int .u8 0, .int .u8 0, .int .u8 0, .int .u8 0, .int .u8 0, .int .u8 0, .int .u8 0, .int .u8 0, .int .u8 0, .int .u8 0] 22)) wr.heap.size 22 .u8 32 (fun _ => 0) := holds_alloc wr 22 .u8 32 (fun _ => 0) _ rfl
            have gA := World.grownBy_alloc wr (.cells #[.int .u8 0, .int .u8 0, .int .u8 0, .int .u8 0, .int .u8 0, .int .u8 0, .int .u8 0, .int .u8 0, .int .u8 0, .int .u8 0, .int .u8 0, .int .u8 0, .int .u8 0, .int .u8 0, .int .u8 0, .int .u8 0, .int .u8 0, .int .u8 0, .int .u8 0, .int .u8 0, .int .u8 0, .int .u8 0, .int .u8 0, .int .u8 0, .int .u8 0, .int .u8 0, .int .u8 0, .int .u8 0, .int .u8 0, .int .u8 0, .int .u8 0, .int .u8 0] 22) none
            have hT := hD.setRow .u8 32 (G 5)
            have gT := grown_setRow_new gA wr.heap.size (cellsOf .u8 32 (G 5)) (Or.inl (Nat.le_refl _))
            clear hi hlt
            go_wp2_with (first
              | refine wpList_b32_mid (i := 5) rfl 58 rfl rfl rfl (by decide) hRr ?_
              | refine wpList_store_row rfl 22 (.tmp 14) (.tmp 59) rfl wr.heap.size _ rfl rfl 22 _ hD.block (by rw [cellsOf_size]; kernel_rfl) rfl (cellsOf_all _ _ _) ?_)
            replace hUr := hUr.grown gT
            replace hVr := hVr.grown gT
            replace hNr := hNr.grown gT
            replace hgr := grown_trans hgr gT
            clear hRr hD gA gT
            generalize (wr.alloc (.cells #[.int .u8 0, .int .u8 0, .int .u8 0, .int .u8 0, .int .u8 0, .int .u8 0, .int .u8 0, .int .u8 0, .int .u8 0, .int .u8 0, .int .u8 0, .int .u8 0, .int .u8 0, .int .u8 0, .int .u8 0, .int .u8 0, .int .u8 0, .int .u8 0, .int .u8 0, .int .u8 0, .int .u8 0, .int .u8 0, .int .u8 0, .int .u8 0, .int .u8 0, .int .u8 0, .int .u8 0, .int .u8 0, .int .u8 0, .int .u8 0, .int .u8 0, .int .u8 0] 22)).setRow wr.heap.size (cellsOf .u8 32 (G 5)) = U1 at *
            generalize wr.heap.size = tb at *
            go_at_call 17
            refine (refAdd_any bu bv a b _ hUr hVr).mono ?_
            intro e U2 h
            rw [← HV2.out] at h
            obtain ⟨⟨b2, rfl, _, hN2⟩, g⟩ := h
            replace hUr := hUr.grown g
            replace hVr := hVr.grown g
            replace hNr := hNr.grown g
            replace hT := hT.grown g (by simp)
            replace hgr := grown_trans hgr g
            clear g
            go_wp2_with fail
            go_at_call 18
            refine (refSub_any bu bv a b _ hUr hVr).mono ?_
            intro e U3 h
            rw [← HV3.out] at h
            obtain ⟨⟨b3, rfl, _, hN3⟩, g⟩ := h
            replace hUr := hUr.grown g
            replace hVr := hVr.grown g
            replace hNr := hNr.grown g
            replace hN2 := hN2.grown g
            replace hT := hT.grown g (by simp)
            replace hgr := grown_trans hgr g
            clear g
            go_wp2_with fail
            go_at_call 19
            refine (refMul_any bu bv a b _ hUr hVr).mono ?_
            intro e U4 h
            rw [← HV4.out] at h
            obtain ⟨⟨b4, rfl, _, hN4⟩, g⟩ := h
            replace hUr := hUr.grown g
            replace hNr := hNr.grown g
            replace hN2 := hN2.grown g
            replace hN3 := hN3.grown g
            replace hT := hT.grown g (by simp)
            replace hgr := grown_trans hgr g
            clear g hVr
            go_wp2_with fail
            go_at_call 19
            refine (refMul_any bu bn a n _ hUr hNr).mono ?_
            intro e U5 h
            rw [← HV5.out] at h
            obtain ⟨⟨b5, rfl, _, hN5⟩, g⟩ := h
            replace hUr := hUr.grown g
            replace hNr := hNr.grown g
            replace hN2 := hN2.grown g
            replace hN3 := hN3.grown g
            replace hN4 := hN4.grown g
            replace hT := hT.grown g (by simp)
            replace hgr := grown_trans hgr g
            clear g
            go_wp2_with fail
            go_at_call 20
            refine (refInverse_any bu a _ hUr).mono ?_
            intro e U6 h
            rw [← HV6.out] at h
            obtain ⟨⟨b6, rfl, _, hN6⟩, g⟩ := h
            replace hUr := hUr.grown g
            replace hNr := hNr.grown g
            replace hN2 := hN2.grown g
            replace hN3 := hN3.grown g
            replace hN4 := hN4.grown g
            replace hN5 := hN5.grown g
            replace hT := hT.grown g (by simp)
            replace hgr := grown_trans hgr g
            clear g
            have hNk : NumAt U6 b5 v5 := hN5
            clear hUr hNr hN2 hN3 hN4 hN5 hN6
            have gB := World.grownBy_alloc U6 (.cells #[.slice (some ⟨bu, 0, none⟩) 16 16, .slice (some ⟨bn, 0, none⟩) 16 16, .slice (some ⟨b2, 0, none⟩) 16 16, .slice (some ⟨b3, 0, none⟩) 16 16, .slice (some ⟨b4, 0, none⟩) 16 16, .slice (some ⟨b5, 0, none⟩) 16 16, .slice (some ⟨b6, 0, none⟩) 16 16] 32) none
            replace hNk := hNk.grown gB
            replace hT := hT.grown gB (by simp)
            replace hgr := grown_trans hgr gB
            clear gB
            go_wp2_with fail
            generalize U6.alloc (.cells #[.slice (some ⟨bu, 0, none⟩) 16 16, .slice (some ⟨bn, 0, none⟩) 16 16, .slice (some ⟨b2, 0, none⟩) 16 16, .slice (some ⟨b3, 0, none⟩) 16 16, .slice (some ⟨b4, 0, none⟩) 16 16, .slice (some ⟨b5, 0, none⟩) 16 16, .slice (some ⟨b6, 0, none⟩) 16 16] 32) = U7 at *
            have gd : U7.grownBy U7.drew none := grown_drew (grown_refl U7 none)
            obtain ⟨s, hs⟩ : ∃ s, s = strOf 32 (G 5) := ⟨_, rfl⟩
            have HS := Lib.hid hs
            clear hs
            refine wp_region_rel (relL [fun x _ => x = .slice (some ⟨tb, 0, none⟩) 32 32, fun x _ => x = .string s, fun x _ => x = .slice (some ⟨b5, 0, none⟩) 16 16, BytesAt (G 5), fun x _ => x = .string s, fun x _ => x = .bool false])
              6 (atL [80, 81, 82, 83, 84, 85]) (depL [[], [0], [], [2], [3], [1, 4]]) (by kernel_rfl) rfl (by kernel_rfl) (by kernel_rfl) 94 rfl (by decide) (by decide) (by decide) ?mono5 ?step5 ?fin5
            case mono5 =>
              intro j x W W' hj h g
              obtain rfl | rfl | rfl | rfl | rfl | rfl : j = 0 ∨ j = 1 ∨ j = 2 ∨ j = 3 ∨ j = 4 ∨ j = 5 := by omega
              · exact h
              · exact h
              · exact h
              · exact BytesAt.grown h g
              · exact h
              · exact h
            case step5 =>
              intro j hj
              obtain rfl | rfl | rfl | rfl | rfl | rfl : j = 0 ∨ j = 1 ∨ j = 2 ∨ j = 3 ∨ j = 4 ∨ j = 5 := by omega
              · exact ⟨_, rfl, rfl, rfl, fun b W hs _ _ K hK => rel_val (run_slice32 14 rfl (hs 14 (by decide))) rfl hK⟩
              · refine ⟨_, rfl, rfl, rfl, fun b W hs hg hD K hK => ?_⟩
                exact rel_val (v := .string s) (by rw [HS.out]; exact run_convT 80 rfl ((eval_slot b 80).trans (hD 0 (by decide))) (hT.grown (grown_trans gd hg) (by simp)).rd32 (HGL.out 5)) rfl hK
              · exact ⟨_, rfl, rfl, rfl, fun b W hs _ _ K hK => rel_move 15 rfl (hs 15 (by decide)) rfl hK⟩
              · refine ⟨_, rfl, rfl, rfl, fun b W hs hg hD K hK => rel_call 21 _ (exec_fn1 _ _ _ rfl ((eval_slot b 82).trans (hD 2 (by decide)))) (fun _ _ => rfl) ?_ hK⟩
                have hb := refBytes_any b5 v5 W (hNk.grown (grown_trans gd hg))
                rw [HG5.out] at hb
                exact hb.mono fun e w' h => h.bytes
              · refine ⟨_, rfl, rfl, rfl, fun b W hs hg hD K hK => ?_⟩
                obtain ⟨g, cap, h1, h2⟩ := hD 3 (by decide)
                exact rel_val (v := .string s) (by rw [HS.out]; exact run_convT 83 rfl ((eval_slot b 83).trans h1) h2.rd (HGL.out 5)) rfl hK
              · refine ⟨_, rfl, rfl, rfl, fun b W hs hg hD K hK => ?_⟩
                have h1 : b.tmps[81]?.getD undef = .string s := hD 1 (by decide)
                have h2 : b.tmps[84]?.getD undef = .string s := hD 4 (by decide)
                refine rel_val (v := .bool false) ?_ rfl hK
                unfold execOp
                go_simp
            case fin5 =>
              intro vals W hg hR
              have h5 : vals 5 = .bool false := hR 5 (by decide)
              replace hgr := grown_trans hgr (grown_trans gd hg)
              clear hR hg gd hNk hT
              simp only [putsN, atL, Act.put, List.getD_cons_zero, List.getD_cons_succ, List.setIfInBounds_toArray, List.set_cons_succ, List.set_cons_zero, h5]
              generalize vals 0 = p0
              generalize vals 1 = p1
              generalize vals 2 = p2
              generalize vals 3 = p3
              generalize vals 4 = p4
              clear h5 vals
              go_wp2_with fail
              go_roundw
              case rel => exact ⟨6, by decide, by go_num, hgr⟩
              case measure => simp [intOf]
  
          · have hRr := HRow.out.grown hgr
            have hUr := HU.out.grown hgr
            have hVr := HV.out.grown hgr
            have hNr := HN.out.grown hgr
            have hD : Holds (wr.alloc (.cells #[.int .u8 0, .int .u8 0, .int .u8 0, .int .u8 0, .int .u8 0, .int .u8 0, .int .u8 0, .int .u8 0, .int .u8 0, .int .u8 0, .int .u8 0, .int .u8 0, .int .u8 0, .int .u8 0, .int .u8 0, .int .u8 0, .int .u8 0, .int .u8 0, .int .u8 0, .int .u8 0, .int .u8 0, .int .u8 0, .int .u8 0, .int .u8 0, .int .u8 0, .int .u8 0, .int .u8 0, .int .u8 0, .int .u8 0, .int .u8 0, .int .u8 0, .int .u8 0] 22)) wr.heap.size 22 .u8 32 (fun _ => 0) := holds_alloc wr 22 .u8 32 (fun _ => 0) _ rfl
            have gA := World.grownBy_alloc wr (.cells #[.int .u8 0, .int .u8 0, .int .u8 0, .int .u8 0, .int .u8 0, .int .u8 0, .int .u8 0, .int .u8 0, .int .u8 0, .int .u8 0, .int .u8 0, .int .u8 0, .int .u8 0, .int .u8 0, .int .u8 0, .int .u8 0, .int .u8 0, .int .u8 0, .int .u8 0, .int .u8 0, .int .u8 0, .int .u8 0, .int .u8 0, .int .u8 0, .int .u8 0, .int .u8 0, .int .u8 0, .int .u8 0, .int .u8 0, .int .u8 0, .int .u8 0, .int .u8 0] 22) none
            have hT := hD.setRow .u8 32 (G 6)
            have gT := grown_setRow_new gA wr.heap.size (cellsOf .u8 32 (G 6)) (Or.inl (Nat.le_refl _))
            clear hi hlt
            go_wp2_with (first
              | refine wpList_b32_mid (i := 6) rfl 58 rfl rfl rfl (by decide) hRr ?_
              | refine wpList_store_row rfl 22 (.tmp 14) (.tmp 59) rfl wr.heap.size _ rfl rfl 22 _ hD.block (by rw [cellsOf_size]; kernel_rfl) rfl (cellsOf_all _ _ _) ?_)
            replace hUr := hUr.grown gT
            replace hVr := hVr.grown gT
            replace hNr := hNr.grown gT
            replace hgr := grown_trans hgr gT
            clear hRr hD gA gT
            generalize (wr.alloc (.cells #[.int .u8 0, .int .u8 0, .int .u8 0, .int .u8 0, .int .u8 0, .int .u8 0, .int .u8 0, .int .u8 0, .int .u8 0, .int .u8 0, .int .u8 0, .int .u8 0, .int .u8 0, .int .u8 0, .int .u8 0, .int .u8 0, .int .u8 0, .int .u8 0, .int .u8 0, .int .u8 0, .int .u8 0, .int .u8 0, .int .u8 0, .int .u8 0, .int .u8 0, .int .u8 0, .int .u8 0, .int .u8 0, .int .u8 0, .int .u8 0, .int .u8 0, .int .u8 0] 22)).setRow wr.heap.size (cellsOf .u8 32 (G 6)) = U1 at *
            generalize wr.heap.size = tb at *
            go_at_call 17
            refine (refAdd_any bu bv a b _ hUr hVr).mono ?_
            intro e U2 h
            rw [← HV2.out] at h
            obtain ⟨⟨b2, rfl, _, hN2⟩, g⟩ := h
            replace hUr := hUr.grown g
            replace hVr := hVr.grown g
            replace hNr := hNr.grown g
            replace hT := hT.grown g (by simp)
            replace hgr := grown_trans hgr g
            clear g
            go_wp2_with fail
            go_at_call 18
            refine (refSub_any bu bv a b _ hUr hVr).mono ?_
            intro e U3 h
            rw [← HV3.out] at h
            obtain ⟨⟨b3, rfl, _, hN3⟩, g⟩ := h
            replace hUr := hUr.grown g
            replace hVr := hVr.grown g
            replace hNr := hNr.grown g
            replace hN2 := hN2.grown g
            replace hT := hT.grown g (by simp)
            replace hgr := grown_trans hgr g
            clear g
            go_wp2_with fail
            go_at_call 19
            refine (refMul_any bu bv a b _ hUr hVr).mono ?_
            intro e U4 h
            rw [← HV4.out] at h
            obtain ⟨⟨b4, rfl, _, hN4⟩, g⟩ := h
            replace hUr := hUr.grown g
            replace hNr := hNr.grown g
            replace hN2 := hN2.grown g
            replace hN3 := hN3.grown g
            replace hT := hT.grown g (by simp)
            replace hgr := grown_trans hgr g
            clear g hVr
            go_wp2_with fail
            go_at_call 19
            refine (refMul_any bu bn a n _ hUr hNr).mono ?_
            intro e U5 h
            rw [← HV5.out] at h
            obtain ⟨⟨b5, rfl, _, hN5⟩, g⟩ := h
            replace hUr := hUr.grown g
            replace hNr := hNr.grown g
            replace hN2 := hN2.grown g
            replace hN3 := hN3.grown g
            replace hN4 := hN4.grown g
            replace hT := hT.grown g (by simp)
            replace hgr := grown_trans hgr g
            clear g
            go_wp2_with fail
            go_at_call 20
            refine (refInverse_any bu a _ hUr).mono ?_
            intro e U6 h
            rw [← HV6.out] at h
            obtain ⟨⟨b6, rfl, _, hN6⟩, g⟩ := h
            replace hUr := hUr.grown g
            replace hNr := hNr.grown g
            replace hN2 := hN2.grown g
            replace hN3 := hN3.grown g
            replace hN4 := hN4.grown g
            replace hN5 := hN5.grown g
            replace hT := hT.grown g (by simp)
            replace hgr := grown_trans hgr g
            clear g
            have hNk : NumAt U6 b6 v6 := hN6
            clear hUr hNr hN2 hN3 hN4 hN5 hN6
            have gB := World.grownBy_alloc U6 (.cells #[.slice (some ⟨bu, 0, none⟩) 16 16, .slice (some ⟨bn, 0, none⟩) 16 16, .slice (some ⟨b2, 0, none⟩) 16 16, .slice (some ⟨b3, 0, none⟩) 16 16, .slice (some ⟨b4, 0, none⟩) 16 16, .slice (some ⟨b5, 0, none⟩) 16 16, .slice (some ⟨b6, 0, none⟩) 16 16] 32) none
            replace hNk := hNk.grown gB
            replace hT := hT.grown gB (by simp)
            replace hgr := grown_trans hgr gB
            clear gB
            go_wp2_with fail
            generalize U6.alloc (.cells #[.slice (some ⟨bu, 0, none⟩) 16 16, .slice (some ⟨bn, 0, none⟩) 16 16, .slice (some ⟨b2, 0, none⟩) 16 16, .slice (some ⟨b3, 0, none⟩) 16 16, .slice (some ⟨b4, 0, none⟩) 16 16, .slice (some ⟨b5, 0, none⟩) 16 16, .slice (some ⟨b6, 0, none⟩) 16 16] 32) = U7 at *
            have gd : U7.grownBy U7.drew none := grown_drew (grown_refl U7 none)
            obtain ⟨s, hs⟩ : ∃ s, s = strOf 32 (G 6) := ⟨_, rfl⟩
            have HS := Lib.hid hs
            clear hs
            refine wp_region_rel (relL [fun x _ => x = .slice (some ⟨tb, 0, none⟩) 32 32, fun x _ => x = .string s, fun x _ => x = .slice (some ⟨b6, 0, none⟩) 16 16, BytesAt (G 6), fun x _ => x = .string s, fun x _ => x = .bool false])
              6 (atL [80, 81, 82, 83, 84, 85]) (depL [[], [0], [], [2], [3], [1, 4]]) (by kernel_rfl) rfl (by kernel_rfl) (by kernel_rfl) 94 rfl (by decide) (by decide) (by decide) ?mono6 ?step6 ?fin6
            case mono6 =>
              intro j x W W' hj h g
              obtain rfl | rfl | rfl | rfl | rfl | rfl : j = 0 ∨ j = 1 ∨ j = 2 ∨ j = 3 ∨ j = 4 ∨ j = 5 := by omega
              · exact h
              · exact h
              · exact h
              · exact BytesAt.grown h g
              · exact h
              · exact h
            case step6 =>
              intro j hj
              obtain rfl | rfl | rfl | rfl | rfl | rfl : j = 0 ∨ j = 1 ∨ j = 2 ∨ j = 3 ∨ j = 4 ∨ j = 5 := by omega
              · exact ⟨_, rfl, rfl, rfl, fun b W hs _ _ K hK => rel_val (run_slice32 14 rfl (hs 14 (by decide))) rfl hK⟩
              · refine ⟨_, rfl, rfl, rfl, fun b W hs hg hD K hK => ?_⟩
                exact rel_val (v := .string s) (by rw [HS.out]; exact run_convT 80 rfl ((eval_slot b 80).trans (hD 0 (by decide))) (hT.grown (grown_trans gd hg) (by simp)).rd32 (HGL.out 6)) rfl hK
              · exact ⟨_, rfl, rfl, rfl, fun b W hs _ _ K hK => rel_move 15 rfl (hs 15 (by decide)) rfl hK⟩
              · refine ⟨_, rfl, rfl, rfl, fun b W hs hg hD K hK => rel_call 21 _ (exec_fn1 _ _ _ rfl ((eval_slot b 82).trans (hD 2 (by decide)))) (fun _ _ => rfl) ?_ hK⟩
                have hb := refBytes_any b6 v6 W (hNk.grown (grown_trans gd hg))
                rw [HG6.out] at hb
                exact hb.mono fun e w' h => h.bytes
              · refine ⟨_, rfl, rfl, rfl, fun b W hs hg hD K hK => ?_⟩
                obtain ⟨g, cap, h1, h2⟩ := hD 3 (by decide)
                exact rel_val (v := .string s) (by rw [HS.out]; exact run_convT 83 rfl ((eval_slot b 83).trans h1) h2.rd (HGL.out 6)) rfl hK
              · refine ⟨_, rfl, rfl, rfl, fun b W hs hg hD K hK => ?_⟩
                have h1 : b.tmps[81]?.getD undef = .string s := hD 1 (by decide)
                have h2 : b.tmps[84]?.getD undef = .string s := hD 4 (by decide)
                refine rel_val (v := .bool false) ?_ rfl hK
                unfold execOp
                go_simp
            case fin6 =>
              intro vals W hg hR
              have h5 : vals 5 = .bool false := hR 5 (by decide)
              replace hgr := grown_trans hgr (grown_trans gd hg)
              clear hR hg gd hNk hT
              simp only [putsN, atL, Act.put, List.getD_cons_zero, List.getD_cons_succ, List.setIfInBounds_toArray, List.set_cons_succ, List.set_cons_zero, h5]
              generalize vals 0 = p0
              generalize vals 1 = p1
              generalize vals 2 = p2
              generalize vals 3 = p3
              generalize vals 4 = p4
              clear h5 vals
              go_wp2_with fail
              go_roundw
              case rel => exact ⟨7, by decide, by go_num, hgr⟩
              case measure => simp [intOf]
  
        · obtain rfl : i = 7 := by omega
          have gL := hgr
          have hUr := HU.out.grown gL
          have hVr := HV.out.grown gL
          have hXr := HhX.out.grown gL (by simp)
          have hYr := HhY.out.grown gL (by simp)
          have hgw := grown_trans HGr.out gL
          clear hi hlt hgr gL
          have e1 : (a == b) = decide (a = b) := by
            by_cases e : a = b
            · subst e; rw [beq_self_eq_true, decide_eq_true rfl]
            · rw [beq_eq_false_iff_ne.2 e, decide_eq_false e]
          have HI := HIs.out
          rw [e1] at HI
          have HJ := fun W hx hy => refIs_any bu bv a b W hx hy
          obtain ⟨t, ht⟩ : ∃ t, t = decide (a = b) := ⟨_, rfl⟩
          rw [← ht] at HI HJ
          have HI2 := Lib.hid HI
          have HJ2 := Lib.hid HJ
          clear e1 ht HI HJ HIs
          go_wp2_with (first
            | refine wpList_load_num rfl 7 rfl rfl hXr ?_
            | refine wpList_load_num rfl 8 rfl rfl hYr ?_)
          go_at_call 22
          refine (HI2.out _).mono ?_
          rintro e Z1 ⟨rfl, g⟩
          replace hUr := hUr.grown g
          replace hVr := hVr.grown g
          replace hgw := grown_trans hgw g
          clear g hXr hYr
          go_wp2_with fail
          go_at_call 23
          refine (HJ2.out _ hUr hVr).mono ?_
          rintro e Z2 ⟨rfl, g⟩
          replace hgw := grown_trans hgw g
          clear g hUr hVr
          go_wp2_with fail
          go_ret
          exact ⟨⟨rfl, hgw⟩⟩

end Go.Proofs.Yteglnceidneigaa
namespace Go.Proofs.Yteglnceidneigaa
open Go.ChangeShapes Go.WideShapes Go.ChangeAt Go.RowKit

section
variable {H : Type} {enc : TypeId × Value → H} {P : Program}

theorem below_of_grown {w w' : World} (h : w.grownBy w' none) : Below w.heap.size w w' := ⟨h.os, h.tape, h.output, h.size, fun k hk => h.block k hk (by simp)⟩

theorem trodAll_below (hl : laidOutB P = true) {W W' : World} (hb : Below W.heap.size W W') : ∀ (ts : List TypeId) (vs : List Value) (ds : List (DataW H)) (ps : List MemPlace),
    DataW.TrodAll enc P W 0 (fun _ => true) true ts vs ds ps → (∀ t ∈ ts, P.readableRec t = true ∧ t < P.types.size) → (∀ x ∈ ps, x.block < W.heap.size) →
    DataW.TrodAll enc P W' 0 (fun b => decide (b < W.heap.size)) true ts vs ds ps
  | [], vs, ds, ps, h, _, _ => by
    obtain ⟨rfl, rfl, rfl⟩ := trodAll_nil h
    rfl
  | t :: ts, vs, ds, ps, h, hr, hlt => by
    obtain ⟨v, vs', d, ds', p, q, rfl, rfl, rfl, h1, h2⟩ := trodAll_cons h
    have hrt := hr t (by simp)
    exact ⟨p, q, Below.trod hl hrt.1 hrt.2 h1 hb (fun x hx => hlt x (by simp [hx])), trodAll_below hl hb ts vs' ds' q h2 (fun t' ht' => hr t' (by simp [ht'])) (fun x hx => hlt x (by simp [hx])), rfl⟩

/-- The end of a statement that is a law: true, and all that came in reads as it did. -/
theorem law_post (hl : laidOutB P = true) {f : Func} {s : ChangeSpec} {W W' : World} {args : Array Value} {ds gs : List (DataW H)} {before : List MemPlace} {tb : TypeId}
    (hW : DataW.Whole enc P f.params.toList s.vars false W args.toList ds gs before) (hv : s.vars = []) (hs : s.fn H ds = { results := [.lit (.bool true)], args := ds, vars := [] })
    (hr : f.resultTypes = #[tb]) (htb : P.underlying tb = some .bool) (hread : ∀ t ∈ f.params.toList, P.readableRec t = true ∧ t < P.types.size) (hg : W.grownBy W' none) :
    s.post enc P f false true false false W args (.bool true) W' := by
  have hb := below_of_grown hg
  have hlt : ∀ p ∈ before, p.block < W.heap.size := fun p hp => hW.lt p hp
  have hW0 := hW
  obtain ⟨p, q, hA, hV, rfl, _, _⟩ := hW
  rw [hv] at hV
  obtain ⟨rfl, rfl⟩ := trodVars_none hV
  refine ⟨ds, [], p ++ [], [], p, [], hW0, ?_, ?_, ?_, World.keptBut_mono (fun x hx => ⟨hx, Or.inr (Or.inl (by simpa using hx))⟩) (hb.frame (· ∈ p ++ [])), fun h => by cases h⟩
  · rw [hr, List.append_nil, hs]
    exact trodAll_mk1 (shut_bool htb true)
  · rw [List.append_nil, hs]
    exact trodAll_below hl hb _ _ _ _ hA hread (fun x hx => hlt x (by simpa using hx))
  · rw [hv, List.append_nil, hs]
    rfl

/-- Bytes that come in. -/
theorem open_bytes {W : World} {t e : TypeId} {r : Reach} {b0 : Nat} {v : Value} {d : DataW H} {ps : List MemPlace} (ht : P.underlying t = some (.slice e)) (he : P.underlying e = some (.int .u8)) (hc : P.cellsOf e = 1)
    (hval : Value.okWide P W r b0 t v) (h : DataW.Trod enc P W 0 (fun _ => true) true t v d ps) :
    ∃ a n c f, v = .slice a n c ∧ n ≤ c ∧ Rd W W.heap.size a n f ∧ ∀ i, f i < 256 := by
  obtain ⟨a0, len, cap, rfl⟩ := okWide_slice ht hval
  obtain ⟨fuel, hf⟩ := h
  rcases open_ints ht he hc hf with ⟨h1, _⟩ | ⟨a, len', cap', zs, h1, _, hlc, _, hzl, _, hcell, hwf⟩
  · simp [Value.cells] at h1
    obtain ⟨rfl, rfl, rfl⟩ := h1
    exact ⟨none, 0, 0, fun _ => 0, rfl, Nat.le_refl _, ⟨fun h => absurd h (by omega)⟩, fun _ => (by decide : (0 : Nat) < 256)⟩
  · simp [Value.cells] at h1
    obtain ⟨rfl, rfl, rfl⟩ := h1
    have hzl' : len ≤ zs.length := by rw [hzl]; simp [hlc]
    have hb : ∀ i, 0 ≤ zs.getD i 0 ∧ zs.getD i 0 < 256 := fun i => by
      by_cases hi : i < zs.length
      · have e1 : zs.getD i 0 = zs[i] := by simp [List.getD, List.getElem?_eq_getElem hi]
        rw [e1]
        have := hwf zs[i] (List.getElem_mem hi)
        simp [Lit.wf, IntKind.min, IntKind.max, IntKind.bits, IntKind.signed] at this
        omega
      · have e1 : zs.getD i 0 = 0 := by simp [List.getD, List.getElem?_eq_none (Nat.le_of_not_lt hi)]
        rw [e1]; decide
    refine ⟨some a, len, cap, fun i => (zs.getD i 0).toNat, rfl, hlc, ⟨fun h0 => ?_⟩, fun i => by have := hb i; show (zs.getD i 0).toNat < 256; omega⟩
    have h0' := hcell 0 (by omega)
    have hspot : a.spot = none := by simpa [Addr.add] using World.cell?_spot h0'
    obtain ⟨tb, o, sp⟩ := a
    simp only at hspot
    subst hspot
    refine ⟨tb, o, rfl, ?_, fun i hi => ?_⟩
    · have := World.block_lt_of_cell? W _ h0'
      simpa [Addr.add] using this
    · have h1 := hcell i (by omega)
      rw [Addr.add_mid] at h1
      rw [h1]
      have := hb i
      have e1 : ((zs.getD i 0).toNat : Int) = zs.getD i 0 := by omega
      show _ = some (Value.int .u8 (((zs.getD i 0).toNat : Nat) : Int))
      rw [e1]

end
end Go.Proofs.Yteglnceidneigaa
namespace Go.Proofs.Yteglnceidneigaa
open Go.ChangeShapes Go.WideShapes Go.ChangeAt Go.RowKit

theorem getElem?_of_take_drop {α : Type} (l : List α) (i : Nat) (x : α) (h : (l.drop i).take 1 = [x]) : l[i]? = some x := by
  have h1 : ((l.drop i).take 1)[0]? = some x := by rw [h]; rfl
  simpa using h1

/-- A table of numbers, read. -/
theorem ints_of_trod {H : Type} {enc : TypeId × Value → H} {P : Program} {w : World} {base : Nat} {spare : Nat → Bool} {held : Bool} {fuel : Nat} {t e : TypeId} {k : IntKind} {n : Nat} {cs : List Value} {d : DataW H} {ps : List MemPlace} (L : List Int)
    (ht : P.underlying t = some (.array n e)) (he : P.underlying e = some (.int k)) (hc : P.cellsOf e = 1) (hd : DataW.trod enc P w base spare held fuel t cs = some (d, ps)) (hx : d = .agg (L.map fun z => .lit (.int k z))) :
    ∀ i, i < n → cs[i]? = some (.int k (L.getD i 0)) := by
  subst hx
  obtain ⟨xs, m, rfl, hx, _, hn, hel⟩ := DataW.trod_array ht hd
  intro i hi
  have h1 := hel i hi
  rw [hc, Nat.mul_one] at h1
  have hxi : xs[i]? = some xs[i] := List.getElem?_eq_getElem (by omega)
  rw [hxi] at h1
  obtain ⟨q, e1, e2, _⟩ := DataW.trod_int he h1
  have h2 : L.map (fun z => (DataW.lit (.int k z) : DataW H)) = xs.map (·.1) := by
    have := congrArg Prod.fst hx
    simpa using this
  have h3 : (L.map (fun z => (DataW.lit (.int k z) : DataW H)))[i]? = some (.lit (.int k q)) := by
    rw [h2]; simp [hxi, e2]
  have h4 : L[i]? = some q := by
    rw [List.getElem?_map] at h3
    cases hL : L[i]? with
    | none => rw [hL] at h3; cases h3
    | some z => rw [hL] at h3; simpa using h3
  rw [List.getD, h4]
  exact getElem?_of_take_drop cs i _ e1

theorem own : ownKnob Try.prog.godebug = none := by kernel_rfl
theorem laidOut : laidOutB Try.prog = true := by kernel_rfl

end Go.Proofs.Yteglnceidneigaa
namespace Go.Proofs.Yteglnceidneigaa
open Go.ChangeShapes Go.WideShapes Go.ChangeAt Go.RowKit

section
variable {H : Type} {enc : TypeId × Value → H} {P : Program}

theorem open_arr8 {W : World} {t e : TypeId} {n : Nat} {r : Reach} {b0 : Nat} {v : Value} {d : DataW H} {ps : List MemPlace} (ht : P.underlying t = some (.array n e)) (he : P.underlying e = some (.int .u8)) (hc : P.cellsOf e = 1) (hn : P.cellsOf t = n)
    (hval : Value.okWide P W r b0 t v) (h : DataW.Trod enc P W 0 (fun _ => true) true t v d ps) : ∃ f, v = .agg (cellsOf .u8 n f) ∧ ∀ i, f i < 256 := by
  have hv := hval
  simp only [Value.okWide, ht] at hv
  obtain ⟨cs, rfl, hs, _⟩ := hv
  obtain ⟨fuel, hf⟩ := h
  obtain ⟨xs, m, rfl, _, hl, _, hel⟩ := DataW.trod_array ht hf
  have key : ∀ i, i < n → ∃ q : Nat, q < 256 ∧ cs[i]? = some (.int .u8 q) := fun i hi => by
    have h1 := hel i hi
    rw [hc, Nat.mul_one] at h1
    cases hx : xs[i]? with
    | none =>
      rw [hx] at h1
      have hlen : i < cs.toList.length := by
        have : cs.size = n := by rw [hs, hn]
        simp [this]; exact hi
      exfalso
      rename_i hxl
      have : xs.length ≤ i := by simpa using hx
      omega
    | some x =>
      rw [hx] at h1
      obtain ⟨q, e1, _, hw⟩ := DataW.trod_int he h1
      have h2 := getElem?_of_take_drop _ i _ e1
      simp [Lit.wf, IntKind.min, IntKind.max, IntKind.bits, IntKind.signed] at hw
      refine ⟨q.toNat, by omega, ?_⟩
      have e2 : ((q.toNat : Nat) : Int) = q := by omega
      rw [e2]
      simpa [Value.cells] using h2
  refine ⟨fun i => (match cs[i]? with | some (.int _ q) => q.toNat | _ => 0) % 256, ?_, fun i => Nat.mod_lt _ (by decide)⟩
  congr 1
  apply Array.ext
  · rw [cellsOf_size, hs, hn]
  · intro i h1 h2
    have hi : i < n := by rwa [hs, hn] at h1
    obtain ⟨q, hq, hcq⟩ := key i hi
    have e1 := cellsOf_get .u8 n (fun i => (match cs[i]? with | some (.int _ q) => q.toNat | _ => 0) % 256) i hi
    rw [Array.getElem?_eq_getElem h2] at e1
    rw [Array.getElem?_eq_getElem h1] at hcq
    injection e1 with e1
    injection hcq with hcq'
    rw [e1, hcq']
    simp only [Array.getElem?_eq_getElem h1, hcq']
    congr 1
    simp; omega

/-- A byte that comes in. -/
theorem open_u8 {W : World} {t : TypeId} {r : Reach} {b0 : Nat} {v : Value} {d : DataW H} {ps : List MemPlace} (ht : P.underlying t = some (.int .u8))
    (hval : Value.okWide P W r b0 t v) (h : DataW.Trod enc P W 0 (fun _ => true) true t v d ps) : ∃ n : Nat, v = .int .u8 n ∧ n < 256 := by
  obtain ⟨x, rfl, _, _, hx⟩ := open_int ht hval h
  simp [Lit.wf, IntKind.min, IntKind.max, IntKind.bits, IntKind.signed] at hx
  exact ⟨x.toNat, by rw [show ((x.toNat : Nat) : Int) = x by omega], by omega⟩

end
end Go.Proofs.Yteglnceidneigaa
namespace Go.Proofs.Yteglnceidneigaa
open Go.ChangeShapes Go.WideShapes Go.ChangeAt Go.RowKit

section
variable {H : Type} {enc : TypeId × Value → H} {P : Program}
theorem open_u32 {W : World} {t : TypeId} {r : Reach} {b0 : Nat} {v : Value} {d : DataW H} {ps : List MemPlace} (ht : P.underlying t = some (.int .u32))
    (hval : Value.okWide P W r b0 t v) (h : DataW.Trod enc P W 0 (fun _ => true) true t v d ps) : ∃ n : Nat, v = .int .u32 n ∧ n < 4294967296 := by
  obtain ⟨x, rfl, _, _, hx⟩ := open_int ht hval h
  simp [Lit.wf, IntKind.min, IntKind.max, IntKind.bits, IntKind.signed] at hx
  exact ⟨x.toNat, by rw [show ((x.toNat : Nat) : Int) = x by omega], by omega⟩
end
end Go.Proofs.Yteglnceidneigaa
namespace Go.Proofs.Yteglnceidneigaa
open Go.ChangeShapes Go.WideShapes Go.ChangeAt Go.RowKit

set_option maxRecDepth 100000 in
theorem fieldTells_lifted (os : Os) (started : os.Started) (H : Type) (enc : TypeId × Value → H) :
    ReturnsInHanded {} Try.checked os 3 .any (Rows.fieldTellsSpec.pre6 enc Try.prog Try.f3 Rows.fieldTellsRow.domain false) (Rows.fieldTellsSpec.post enc Try.prog Try.f3 false true false false) := by
  refine returnsInHanded_of_change (C := Try.checked) own started (by kernel_rfl) Try.func3
    (ChangeSpec.witness6 (enc := enc) (C := Try.checked) false ⟨#[], #[.agg (cellsOf .u8 32 (fun _ => 0)), .agg (cellsOf .u8 32 (fun _ => 0)), .int .u32 0], []⟩ 8 (by kernel_rfl) (by kernel_rfl) (by kernel_rfl) (by kernel_rfl)) ?_
  intro W base args ds gs before hval0 hW _ _
  have hval : ∀ (j : Nat) t v, Try.f3.params[j]? = some t → args[j]? = some v → Value.okWide Try.prog W .any base t v := hval0
  have hW' := hW
  obtain ⟨p, q, hA0, hV, rfl, _, _⟩ := hW
  have hA : DataW.TrodAll enc Try.prog W 0 (fun _ => true) true Try.f3.params.toList args.toList ds p := hA0
  rw [Try.params3] at hA hval
  obtain ⟨v0, vs0, d0, ds0, p0, q0, hv0, rfl, rfl, h0, hA1⟩ := trodAll_cons hA
  obtain ⟨v1, vs1, d1, ds1, p1, q1, rfl, rfl, rfl, h1, hA2⟩ := trodAll_cons hA1
  obtain ⟨v2, vs2, d2, ds2, p2, q2, rfl, rfl, rfl, h2, hA3⟩ := trodAll_cons hA2
  obtain ⟨rfl, rfl, rfl⟩ := trodAll_nil hA3
  obtain ⟨l⟩ := args
  simp only at hv0
  subst hv0
  obtain ⟨rfl, rfl⟩ := trodVars_none hV
  obtain ⟨f0, rfl, hf0⟩ := open_arr8 (P := Try.prog) (n := 32) (e := 5) (by kernel_rfl) (by kernel_rfl) (by kernel_rfl) (by kernel_rfl) (hval 0 22 v0 rfl rfl) h0
  obtain ⟨f1, rfl, hf1⟩ := open_arr8 (P := Try.prog) (n := 32) (e := 5) (by kernel_rfl) (by kernel_rfl) (by kernel_rfl) (by kernel_rfl) (hval 1 22 v1 rfl rfl) h1
  obtain ⟨x2, rfl, hx2⟩ := open_u32 (P := Try.prog) Try.underlying23 (hval 2 23 v2 rfl rfl) h2
  clear hA0 hval0
  refine (fieldTells_any f0 f1 x2 W hf0 hf1 hx2).mono fun e W' ⟨⟨he, hg⟩⟩ => ?_
  subst he
  exact ⟨_, rfl, law_post laidOut hW' rfl rfl (tb := 4) rfl Try.underlying4 (by
      rw [Try.params3]
      intro t ht
      have hall : ([22, 22, 23].all fun u => Try.prog.readableRec u && decide (u < Try.prog.types.size)) = true := by kernel_rfl
      have := List.all_eq_true.1 hall t (by simpa using ht)
      simpa using this) hg⟩

theorem fieldTells_holds : Rows.FieldTellsSaid :=
  OpenClaim.holds_of_wide 3 Try.f3 rfl rfl rfl rfl rfl rfl rfl ⟨rfl, rfl, rfl, rfl, rfl⟩ rfl rfl rfl rfl rfl (by kernel_rfl) Try.func3 (by kernel_rfl)
    (of_decide_eq_true (by kernel_rfl)) (by unfold Func.isWrapper; first | (rw [if_pos (by decide +kernel)]; kernel_rfl) | (rw [if_neg (by decide +kernel)]; exact ⟨rfl, rfl⟩))
    (fun os started H enc _ => fieldTells_lifted os started H enc)

end Go.Proofs.Yteglnceidneigaa
