/-
  The document's hash, as the reference reckons it.
-/
import Derived.Test.YtlfopcigbgfnlaaDoorRd
import Derived.Test.YtlfopcigbgfnlaaDoorBase
import Derived.Test.YtlfopcigbgfnlaaDoorGcmSeal
import Derived.Test.YtlfopcigbgfnlaaDoorGcmCut
import Derived.Test.YtlfopcigbgfnlaaDoorOrd3
import Derived.Test.YtlfopcigbgfnlaaDoorAesPair
import Derived.Test.YtlfopcigbgfnlaaDoorStr
import Derived.Test.YtlfopcigbgfnlaaDoorOwnR
import Derived.Test.YtlfopcigbgfnlaaDoorMake
import Derived.Deep.DeepCutAuto
import Derived.Test.YtlfopcigbgfnlaaDoorGcmTag
import Derived.Test.YtlfopcigbgfnlaaDoorAesMath
import Derived.Test.YtlfopcigbgfnlaaDoorAesLeaf
import Derived.Test.YtlfopcigbgfnlaaDoorAesSpec
import Derived.BigQuiet
import Derived.StillTailTactics
import Derived.Test.YtlfopcigbgfnlaaDoorOrd
import Derived.Great.Frames
import Derived.Test.YtlfopcigbgfnlaaDoorCtrMath
import Derived.Test.YtlfopcigbgfnlaaDoorGcmMath
import Derived.Test.YtlfopcigbgfnlaaDoorCells
namespace Go.Proofs.YtlfopcigbgfnlaaDoor
open Go.RowKit

set_option maxRecDepth 100000
set_option maxHeartbeats 1000000

theorem same_any (n m cn cm : Nat) (a b : Option Addr) (f g : Nat → Nat) (B : Nat) (w : World) (ha : Rd w B a n f) (hb : Rd w B b m g) (hf : ∀ i, f i < 256) (hg : ∀ i, g i < 256) (hn : n < 2 ^ 62) (hm : m < 2 ^ 62) :
    Calls Tryd.prog 21 #[.slice a n cn, .slice b m cm] w fun e w' => e = .returned (.bool (sameB n m f g)) ∧ w = w' := by
  have n1 : (n : Int) ≤ 4611686018427387904 := by omega
  by_cases hnm : n = m
  · subst hnm
    have HS : Hid (sameB n n f g = (unl f g n == 0)) := by show _ = _; simp [sameB]
    have e1 : ((n : Int) == (n : Int)) = true := by simp
    have e2 : ((n : Int) != (n : Int)) = false := by simp
    go_enter Tryd.func21, Tryd.ntmps21
    go_wp2_with fail
    go_loop [5, 15] (fun u5 u15 => ∃ i : Nat, i ≤ n ∧ u15 = .int .i64 i ∧ u5 = .int .u8 (unl f g i)) (fun _ u15 => n - (intOf u15).toNat)
    case atStart => exact ⟨0, by omega, rfl, rfl⟩
    case round =>
      obtain ⟨i, hi, rfl, rfl⟩ := hrel
      by_cases hin : i < n
      · obtain ⟨ta, oa, rfl, _, ca⟩ := ha.ex (by omega)
        obtain ⟨tb, ob, rfl, _, cb⟩ := hb.ex (by omega)
        have c1 := ca i hin
        have c2 := cb i hin
        have i1 : (i : Int) < n := by omega
        have hx : bits .or .u8 (unl f g i : Int) (bits .xor .u8 (f i : Int) (g i : Int)) = ((unl f g (i + 1) : Nat) : Int) := by
          rw [bits_xor_u8 _ _ (hf i) (hg i), bits_or_u8 _ _ (unl_lt f g hf hg i) (Nat.xor_lt_two_pow (n := 8) (hf i) (hg i))]; rfl
        have HX := Lib.hid hx
        clear hx ca cb
        go_wp2_with fail
        rw [HX.out]
        exact ⟨⟨i + 1, by omega, by go_num, rfl⟩, by simp [intOf]; omega⟩
      · have hE : i = n := by omega
        have i1 : (n : Int) ≤ i := by omega
        have HE := Lib.hid hE
        clear hE hin hi
        go_wp2_with fail
        go_ret
        refine ⟨?_, rfl⟩
        rw [HS.out, HE.out]
        exact ret_bool (beq_zero_cast _)
  · have HS : Hid (sameB n m f g = false) := by show _ = _; simp [sameB, hnm]
    have e1 : ((n : Int) == (m : Int)) = false := by rw [beq_eq_false_iff_ne]; omega
    have e2 : ((n : Int) != (m : Int)) = true := by rw [bne_iff_ne]; omega
    clear hnm
    go_enter Tryd.func21, Tryd.ntmps21
    go_wp2_with fail
    go_ret
    rw [HS.out]
    exact ⟨rfl, rfl⟩

end Go.Proofs.YtlfopcigbgfnlaaDoor
namespace Go.Proofs.YtlfopcigbgfnlaaDoor
open Go.RowKit Go.Shelf

set_option maxRecDepth 100000
set_option maxHeartbeats 2000000

theorem gtag_enters (args : Array Value) (w : World) : (callFunc 20 args).run Tryd.prog w = .ok (.enter 20 args) w := enters_of Tryd.func20 (by kernel_rfl) rfl args w
theorem same_enters (args : Array Value) (w : World) : (callFunc 21 args).run Tryd.prog w = .ok (.enter 21 args) w := enters_of Tryd.func21 (by kernel_rfl) rfl args w
theorem cnext_enters (args : Array Value) (w : World) : (callFunc 19 args).run Tryd.prog w = .ok (.enter 19 args) w := enters_of Tryd.func19 (by kernel_rfl) rfl args w
theorem cturn_enters (args : Array Value) (w : World) : (callFunc 18 args).run Tryd.prog w = .ok (.enter 18 args) w := enters_of Tryd.func18 (by kernel_rfl) rfl args w
/-- One text, in a slice of its own that lies in a block. -/
theorem texts_cell {w : World} {b n c : Nat} {a : Option Addr} {f : Nat → Nat} (h : CellIs w b (.slice a n c)) (hc : n ≤ c) (hr : Rd w w.heap.size a n f) :
    Texts w w.heap.size (some ⟨b, 0, none⟩) 1 (fun j => if j = 0 then 0 else n) f := by
  refine ⟨rfl, fun _ => ⟨b, 0, rfl, h.lt, fun j hj => ?_⟩⟩
  obtain rfl : j = 0 := by omega
  refine ⟨a, n, c, h.at_, hc, by simp, fun h0 => ?_⟩
  obtain ⟨tb, o, h1, h2, h3⟩ := hr.ex h0
  exact ⟨tb, o, h1, h2, fun j hj => by rw [h3 j hj]; simp⟩
theorem run_build1 {o : Oper} {a : Act} {W : World} {v : Value} (t : Tmp) (ho : o.op = .buildSlice 62 1 #[(0, .tmp t)]) (h1 : a.eval (.tmp t) = v) (hv : ∃ ad n c, v = .slice ad n c) :
    (execOp a.eval o).run Tryd.prog W = .ok (.value (.slice (some ⟨W.heap.size, 0, none⟩) 1 1)) (W.alloc (.cells #[v] 22)) := by
  obtain ⟨ad, n, c, rfl⟩ := hv
  have hv2 : a.tmps[t]?.getD undef = .slice ad n c := by simpa [Act.eval] using h1
  unfold execOp
  simp only [ho]
  go_simp

/-- Whether it is opened. -/
def openB (R : Nat) (W nf fa : Nat → Nat) (na : Nat) (ft : Nat → Nat) (nt : Nat) : Bool := decide (16 ≤ nt) && sameB 16 16 (tagF R W (firstF nf) fa na ft (nt - 16)) (fun i => ft (nt - 16 + i))
/-- What Open hands back. -/
structure Opened (w : World) (ok : Bool) (N : Nat) (G : Nat → Nat) (e : Ending) (w' : World) : Prop where
  gr : w.grownBy w' none
  bad : ok = false → e = .returned (.tuple #[.slice none 0 0, .int .i64 140])
  good : ok = true → ∃ v, e = .returned (.tuple #[v, .int .i64 0]) ∧ OwnN w' w.heap.size v N G

theorem gopen_err (n c na ca nt ct : Nat) (ka aa ta : Option Addr) (nf : Nat → Nat) (w : World) (h1 : n ≠ 16) (h2 : n ≠ 32) :
    Calls Tryd.prog 8 #[.slice ka n c, .agg (cellsOf .u8 12 nf), .slice aa na ca, .slice ta nt ct] w fun e w' => e = .returned (.tuple #[.slice none 0 0, .int .i64 2]) ∧ w.grownBy w' none := by
  have HN : Hid (∀ U, Calls Tryd.prog 16 #[.slice ka n c] U fun e w' => e = .returned (.tuple #[.pointer none, .int .i64 2]) ∧ U = w') := Lib.hid (fun U => new_err n c ka U h1 h2)
  clear h1 h2
  go_enter Tryd.func8, Tryd.ntmps8
  go_wp2_with fail
  go_at_call 16
  with_reducible refine (HN.out _).mono ?_
  rintro e w2 ⟨rfl, rfl⟩
  go_wp2_with fail
  go_ret2
  exact ⟨rfl, World.grownBy_alloc w _ none⟩

theorem gopen_any (N n c na ca nt ct : Nat) (ka aa ta : Option Addr) (fk nf fa ft : Nat → Nat) (w : World) (hL : LaidS w 0) (hsz : 0 < w.heap.size) (hN : N = 4 ∨ N = 8) (hLN : n = 4 * N)
    (hR : Rd w w.heap.size ka n fk) (hk : ∀ i, fk i < 256) (hnf : ∀ i, nf i < 256) (hA : Rd w w.heap.size aa na fa) (hfa : ∀ i, fa i < 256) (hca : na ≤ ca) (hna : na ≤ 2 ^ 39) (hT : Rd w w.heap.size ta nt ft) (hft : ∀ i, ft i < 256) (hct : nt ≤ ct) (hnt : nt ≤ 2 ^ 39) :
    Calls Tryd.prog 8 #[.slice ka n c, .agg (cellsOf .u8 12 nf), .slice aa na ca, .slice ta nt ct] w (Opened w (openB (N + 6) (keyW N fk) nf fa na ft nt) (nt - 16) (turnF (N + 6) (keyW N fk) (nextF (firstF nf)) ft)) := by
  have hB : Holds (w.alloc (.cells (cellsOf .u8 12 nf) 23)) w.heap.size 23 .u8 12 nf := holds_alloc w 23 .u8 12 nf _ rfl
  have g1 := World.grownBy_alloc w (.cells (cellsOf .u8 12 nf) 23) none
  have n1 := new_ok N n c ka fk _ (hL.grown g1 (by simp)) hN hLN (hR.up (Nat.le_refl _) g1) hk (by have := g1.size; omega)
  have N1 := Lib.hid n1
  have hN6 : N + 6 ≤ 14 := by omega
  have hN1 : 1 ≤ N + 6 := by omega
  have hkw : ∀ i, keyW N fk i < 256 := keyW_lt N fk hk
  obtain ⟨W, hW⟩ : ∃ W, W = keyW N fk := ⟨_, rfl⟩
  rw [← hW] at hkw ⊢
  have HW := Lib.hid hW
  have HB := Lib.hid hB
  have HL := Lib.hid hL
  have HA := Lib.hid hA
  have HT := Lib.hid hT
  clear n1 hW hB hL hA hT hR hN hLN
  by_cases h16 : 16 ≤ nt
  · have j0 : ¬ ((nt : Int) < 16) := by omega
    obtain ⟨l, hl⟩ : ∃ l, l = nt - 16 := ⟨_, rfl⟩
    have j1 : (nt : Int) - 16 = (l : Int) := by omega
    have j2 : IntKind.i64.wrap (l : Int) = (l : Int) := by rw [IntKind.wrap_i64]; omega
    have j3 : (nt : Int) ≤ 549755813888 := by omega
    obtain ⟨F1, hF1⟩ : ∃ F, F = firstF nf := ⟨_, rfl⟩
    have hF1l : ∀ i, F1 i < 256 := fun i => by rw [hF1]; exact firstF_lt nf hnf i
    have HFi : Hid (∀ U, Calls Tryd.prog 17 #[.agg (cellsOf .u8 12 nf)] U fun e w' => e = .returned (.agg (cellsOf .u8 16 F1)) ∧ U.grownBy w' none) := Lib.hid (fun U => by
      rw [hF1]; exact first_any nf U)
    obtain ⟨F2, hF2⟩ : ∃ F, F = nextF F1 := ⟨_, rfl⟩
    have HNx : Hid (∀ U, Calls Tryd.prog 19 #[.agg (cellsOf .u8 16 F1)] U fun e w' => e = .returned (.agg (cellsOf .u8 16 F2)) ∧ U.grownBy w' none) := Lib.hid (fun U => by
      rw [hF2]; exact next_any F1 U hF1l)
    have hF2l : ∀ i, F2 i < 256 := fun i => by rw [hF2]; exact nextF_lt F1 hF1l i
    obtain ⟨Z, hZ⟩ : ∃ Z, Z = tagF (N + 6) W F1 fa na ft l := ⟨_, rfl⟩
    have hZl : ∀ i, Z i < 256 := fun i => by rw [hZ]; exact tagF_lt _ _ _ _ _ _ _ _
    have hob : openB (N + 6) W nf fa na ft nt = sameB 16 16 Z (fun i => ft (l + i)) := by
      unfold openB
      rw [← hl, ← hF1, ← hZ, decide_eq_true h16, Bool.true_and]
    obtain ⟨bb, hbb⟩ : ∃ b, b = sameB 16 16 Z (fun i => ft (l + i)) := ⟨_, rfl⟩
    rw [hob, ← hbb, ← hl, ← hF1, ← hF2]
    obtain ⟨G, hG⟩ : ∃ G, G = turnF (N + 6) W F2 ft := ⟨_, rfl⟩
    rw [← hG]
    obtain ⟨tb, p, rfl, ta2, hrest, hRd2⟩ := rest_of (len := nt) (cap := ct) (l := l) HT.out (by omega) hct
    have e16 : nt - l = 16 := by omega
    rw [e16] at hrest hRd2
    have HG := Lib.hid hG
    have HZ := Lib.hid hZ
    have HBB := Lib.hid hbb
    have Hrest := Lib.hid hrest
    have HRd2 := Lib.hid hRd2
    have hlc : l ≤ ct := by omega
    have hln : l ≤ nt := by omega
    have Hlc := Lib.hid hlc
    have Hln := Lib.hid hln
    clear hob hG hZ hbb hF1 hF2 hrest hRd2 hl e16 h16 hlc hln
    go_enter Tryd.func8, Tryd.ntmps8
    go_wp2_with fail
    generalize w.alloc (.cells (cellsOf .u8 12 nf) 23) = w1 at *
    go_at_call 16
    with_reducible refine (N1.out).mono ?_
    rintro e w2 ⟨m, C, rfl, hm, g2, hC, hc⟩
    rw [← HW.out] at hc
    have g02 := grown_trans g1 g2
    have hB2 := (HB.out.grown g2 (by simp)).block
    go_wp2_with (refine wpList_load_row rfl 23 (.tmp 5) rfl w.heap.size rfl 23 _ (0, 0) (.array 12 5) hB2 (by kernel_rfl) rfl (by rw [cellsOf_size]; kernel_rfl) ?_)
    go_at_call 17
    with_reducible refine (HFi.out _).mono ?_
    rintro e w3 ⟨rfl, g3⟩
    have hN0 : Holds (w3.alloc (.cells #[.int .u8 0, .int .u8 0, .int .u8 0, .int .u8 0, .int .u8 0, .int .u8 0, .int .u8 0, .int .u8 0, .int .u8 0, .int .u8 0, .int .u8 0, .int .u8 0, .int .u8 0, .int .u8 0, .int .u8 0, .int .u8 0] 24)) w3.heap.size 24 .u8 16 (fun _ => 0) := holds_alloc w3 _ .u8 16 _ _ zero16
    have hbn := hN0.block
    have hF3 := hN0.setRow .u8 16 F1
    have g34 := grown_setRow_new (World.grownBy_alloc w3 (.cells #[.int .u8 0, .int .u8 0, .int .u8 0, .int .u8 0, .int .u8 0, .int .u8 0, .int .u8 0, .int .u8 0, .int .u8 0, .int .u8 0, .int .u8 0, .int .u8 0, .int .u8 0, .int .u8 0, .int .u8 0, .int .u8 0] 24) none) w3.heap.size (cellsOf .u8 16 F1) (Or.inl (Nat.le_refl _))
    have g04 := grown_trans g02 (grown_trans g3 g34)
    have hC4 := (hC.grown g3 (by simp)).grown g34 (by simp)
    obtain ⟨w4, hw4⟩ : ∃ w4, w4 = (w3.alloc (.cells #[.int .u8 0, .int .u8 0, .int .u8 0, .int .u8 0, .int .u8 0, .int .u8 0, .int .u8 0, .int .u8 0, .int .u8 0, .int .u8 0, .int .u8 0, .int .u8 0, .int .u8 0, .int .u8 0, .int .u8 0, .int .u8 0] 24)).setRow w3.heap.size (cellsOf .u8 16 F1) := ⟨_, rfl⟩
    rw [← hw4] at hF3 g04 hC4
    have HW4 := Lib.hid hw4
    clear hC hN0 hw4 g34 g3 g2 hm N1
    go_upto_region 7 with (refine wpList_store_row rfl 24 (.tmp 12) (.tmp 27) rfl w3.heap.size _ rfl rfl 24 _ hbn (by rw [cellsOf_size]; kernel_rfl) rfl (cellsOf_all _ _ _) ?_)
    rw [← HW4.out]
    try simp only [Act.put]
    generalize w3.heap.size = b at *
    clear hbn HW4
    obtain ⟨V0, hV0⟩ : ∃ V0, V0 = w4.drew := ⟨_, rfl⟩
    have hv0 : w4.grownBy V0 none := by rw [hV0]; exact grown_drew (grown_refl w4 none)
    have HV0 := Lib.hid hV0.symm
    have gv := grown_trans g04 hv0
    have hFv := hF3.grown hv0 (by simp)
    have hCv := hC4.grown hv0 (by simp)
    have HTg : Hid (∀ U, V0.grownBy U none → Calls Tryd.prog 20 #[.pointer (some ⟨m, 0, none⟩), .agg (cellsOf .u8 16 F1), .slice aa na ca, .slice (some ⟨tb, p, none⟩) l ct] U fun e w' => e = .returned (.agg (cellsOf .u8 16 Z)) ∧ U.grownBy w' none) := Lib.hid (fun U hU => by
      rw [HZ.out]
      exact gtag_any m (N + 6) na ca l ct aa _ C W F1 fa ft U hkw hF1l hfa hft hN1 hN6 hc (hCv.grown hU (by simp)) (HL.out.grown (grown_trans gv hU) (by simp)) (HA.out.up (Nat.le_refl _) (grown_trans gv hU)) hca (by omega) ((HT.out.up (Nat.le_refl _) (grown_trans gv hU)).head Hln.out) Hlc.out (by have := Hln.out; omega))
    clear hV0 hv0
    go_cut [14] (fun s14 wx => ∃ X, s14 = .pointer (some ⟨X, 0, none⟩) ∧ V0.grownBy wx none ∧ V0.heap.size ≤ X ∧ Holds wx X 24 .u8 16 Z)
    case first =>
      refine wp_region_held (S := fun W => V0.grownBy W (none)) (by kernel_rfl) ?_
      change wpAnyH _ _ _ _ _ 9 #[false, false, false, false, false, false, false, false, false] _ (World.drew _)
      rw [HV0.out]
      have hS0 : V0.grownBy V0 (none) := grown_refl V0 _
      refine wpAnyH_takeD (some 31) (i := 0) (v := .pointer (some ⟨m, 0, none⟩)) rfl rfl (by kernel_rfl) (by kernel_rfl) (by kernel_rfl) (fun _ _ _ h => h) (Or.inl ⟨rfl, fun _ _ => rfl⟩) hS0 ?_
      simp only [Act.put, List.setIfInBounds_toArray, List.set_cons_succ, List.set_cons_zero]
      refine wpAnyH_takeD (some 32) (i := 1) (v := .agg (cellsOf .u8 16 F1)) rfl rfl (by kernel_rfl) (by kernel_rfl) (by kernel_rfl) (fun _ _ _ h => h) (Or.inl ⟨rfl, fun W hW => run_sixteen (hFv.grown hW (by simp)) rfl rfl⟩) hS0 ?_
      simp only [Act.put, List.setIfInBounds_toArray, List.set_cons_succ, List.set_cons_zero]
      refine wpAnyH_takeD (some 33) (i := 2) (v := .slice aa na ca) rfl rfl (by kernel_rfl) (by kernel_rfl) (by kernel_rfl) (fun _ _ _ h => h) (Or.inl ⟨rfl, fun _ _ => rfl⟩) hS0 ?_
      simp only [Act.put, List.setIfInBounds_toArray, List.set_cons_succ, List.set_cons_zero]
      refine wpAnyH_takeD (some 34) (i := 3) (v := .slice (some ⟨tb, p, none⟩) nt ct) rfl rfl (by kernel_rfl) (by kernel_rfl) (by kernel_rfl) (fun _ _ _ h => h) (Or.inl ⟨rfl, fun _ _ => rfl⟩) hS0 ?_
      simp only [Act.put, List.setIfInBounds_toArray, List.set_cons_succ, List.set_cons_zero]
      refine wpAnyH_takeD (some 35) (i := 4) (v := .int .i64 l) rfl rfl (by kernel_rfl) (by kernel_rfl) (by kernel_rfl) (fun _ _ _ h => h) (Or.inl ⟨rfl, fun _ _ => rfl⟩) hS0 ?_
      simp only [Act.put, List.setIfInBounds_toArray, List.set_cons_succ, List.set_cons_zero]
      refine wpAnyH_takeD (some 36) (i := 5) (v := .slice (some ⟨tb, p, none⟩) l ct) rfl rfl (by kernel_rfl) (by kernel_rfl) (by kernel_rfl) (fun _ _ _ h => h) (Or.inl ⟨rfl, fun W hW => ex_head 34 35 rfl rfl rfl Hlc.out⟩) hS0 ?_
      simp only [Act.put, List.setIfInBounds_toArray, List.set_cons_succ, List.set_cons_zero]
      refine wpAnyH_both (i := 6) (j := 7) (by kernel_rfl) ?_ ?_
      · refine (op_call (some 37) 20 #[.pointer (some ⟨m, 0, none⟩), .agg (cellsOf .u8 16 F1), .slice aa na ca, .slice (some ⟨tb, p, none⟩) l ct] (.agg (cellsOf .u8 16 Z)) rfl rfl rfl (exec_fn4 _ _ _ _ _ _ _ _ _ rfl rfl rfl rfl rfl) gtag_enters (HTg.out V0 hS0) hS0 ?_)
        intro V1 gg1 hS1
        simp only [Act.put, List.setIfInBounds_toArray, List.set_cons_succ, List.set_cons_zero]
        refine wpAnyH_one (i := 7) (by kernel_rfl) (op_alloc (some 14) rfl rfl rfl (run_newsixteen rfl) hS1 ?_)
        intro V2 gg2 hS2 hX
        have hS_X := hS1.size
        simp only [Act.put, List.setIfInBounds_toArray, List.set_cons_succ, List.set_cons_zero]
        refine wpAnyH_one (i := 8) (by kernel_rfl) (op_store 24 14 37 (V1.heap.size) (cellsOf .u8 16 Z) rfl rfl rfl rfl rfl rfl 24 _ (hX).block (by rw [cellsOf_size]; kernel_rfl) (by rw [cellsOf_size, cellsOf_size]) (cellsOf_all _ _ _) (grown_setRow_new hS2 _ _ (Or.inl hS_X)) ?_)
        simp only [List.setIfInBounds_toArray, List.set_cons_succ, List.set_cons_zero]
        refine wpAnyH_done (by kernel_rfl) ?_ _
        go_wp2_with fail
        go_meet
        case rel => exact ⟨_, rfl, grown_setRow_new hS2 _ _ (Or.inl hS_X), hS_X, (hX).setRow .u8 16 Z⟩
      · refine (op_alloc (some 14) rfl rfl rfl (run_newsixteen rfl) hS0 ?_)
        intro V1 gg1 hS1 hX
        have hS_X := hS0.size
        simp only [Act.put, List.setIfInBounds_toArray, List.set_cons_succ, List.set_cons_zero]
        refine wpAnyH_one (i := 6) (by kernel_rfl) (op_call (some 37) 20 #[.pointer (some ⟨m, 0, none⟩), .agg (cellsOf .u8 16 F1), .slice aa na ca, .slice (some ⟨tb, p, none⟩) l ct] (.agg (cellsOf .u8 16 Z)) rfl rfl rfl (exec_fn4 _ _ _ _ _ _ _ _ _ rfl rfl rfl rfl rfl) gtag_enters (HTg.out V1 hS1) hS1 ?_)
        intro V2 gg2 hS2
        simp only [Act.put, List.setIfInBounds_toArray, List.set_cons_succ, List.set_cons_zero]
        have hX_2 := hX.grown gg2 (by simp)
        refine wpAnyH_one (i := 8) (by kernel_rfl) (op_store 24 14 37 (V0.heap.size) (cellsOf .u8 16 Z) rfl rfl rfl rfl rfl rfl 24 _ (hX_2).block (by rw [cellsOf_size]; kernel_rfl) (by rw [cellsOf_size, cellsOf_size]) (cellsOf_all _ _ _) (grown_setRow_new hS2 _ _ (Or.inl hS_X)) ?_)
        simp only [List.setIfInBounds_toArray, List.set_cons_succ, List.set_cons_zero]
        refine wpAnyH_done (by kernel_rfl) ?_ _
        go_wp2_with fail
        go_meet
        case rel => exact ⟨_, rfl, grown_setRow_new hS2 _ _ (Or.inl hS_X), hS_X, (hX_2).setRow .u8 16 Z⟩
    case rest =>
      obtain ⟨X, rfl, g5, hX5, hXZ⟩ := hcut
      clear HV0 HTg
      have gc := grown_trans gv g5
      have hFc := hFv.grown g5 (by simp)
      have hCc := hCv.grown g5 (by simp)
      clear hFv hCv gv g5 hX5 hF3 hC4 g04
      go_upto_region 8 with fail
      obtain ⟨V0, hV0⟩ : ∃ V0, V0 = wc.drew := ⟨_, rfl⟩
      have hv0 : wc.grownBy V0 none := by rw [hV0]; exact grown_drew (grown_refl wc none)
      have HV0 := Lib.hid hV0.symm
      have gv := grown_trans gc hv0
      have hFv := hFc.grown hv0 (by simp)
      have hCv := hCc.grown hv0 (by simp)
      have hXv := hXZ.grown hv0 (by simp)
      have HSm : Hid (∀ U, V0.grownBy U none → Calls Tryd.prog 21 #[.slice (some ⟨X, 0, none⟩) 16 16, .slice ta2 16 (ct - l)] U fun e w' => e = .returned (.bool bb) ∧ U.grownBy w' none) := Lib.hid (fun U hU => by
        rw [HBB.out]
        exact (same_any 16 16 16 (ct - l) _ _ Z (fun i => ft (l + i)) U.heap.size U ((hXv.grown hU (by simp)).rd _ (hXv.grown hU (by simp)).lt 16 (Nat.le_refl _)) ((HRd2.out _ (HT.out.grown (grown_trans gv hU) (fun _ e => by cases e))).mono (grown_trans gv hU).size) hZl (fun i => hft _) (by decide) (by decide)).mono fun _ _ h => ⟨h.1, by rw [← h.2]; exact grown_refl _ _⟩)
      clear hV0 hv0 gc hFc hCc hXZ
      go_cut [43] (fun s43 wx => s43 = .bool (!bb) ∧ V0.grownBy wx none)
      case first =>
        refine wp_region_held (S := fun W => V0.grownBy W (none)) (by kernel_rfl) ?_
        change wpAnyH _ _ _ _ _ 6 #[false, false, false, false, false, false] _ (World.drew _)
        rw [HV0.out]
        have hS0 : V0.grownBy V0 (none) := grown_refl V0 _
        refine wpAnyH_takeD (some 38) (i := 0) (v := .slice (some ⟨X, 0, none⟩) 16 16) rfl rfl (by kernel_rfl) (by kernel_rfl) (by kernel_rfl) (fun _ _ _ h => h) (Or.inl ⟨rfl, fun W hW => ex_all 14 rfl rfl⟩) hS0 ?_
        simp only [Act.put, List.setIfInBounds_toArray, List.set_cons_succ, List.set_cons_zero]
        refine wpAnyH_takeD (some 39) (i := 1) (v := .slice (some ⟨tb, p, none⟩) nt ct) rfl rfl (by kernel_rfl) (by kernel_rfl) (by kernel_rfl) (fun _ _ _ h => h) (Or.inl ⟨rfl, fun _ _ => rfl⟩) hS0 ?_
        simp only [Act.put, List.setIfInBounds_toArray, List.set_cons_succ, List.set_cons_zero]
        refine wpAnyH_takeD (some 40) (i := 2) (v := .int .i64 l) rfl rfl (by kernel_rfl) (by kernel_rfl) (by kernel_rfl) (fun _ _ _ h => h) (Or.inl ⟨rfl, fun _ _ => rfl⟩) hS0 ?_
        simp only [Act.put, List.setIfInBounds_toArray, List.set_cons_succ, List.set_cons_zero]
        refine wpAnyH_takeD (some 41) (i := 3) (v := .slice ta2 16 (ct - l)) rfl rfl (by kernel_rfl) (by kernel_rfl) (by kernel_rfl) (fun _ _ _ h => h) (Or.inl ⟨rfl, fun W hW => ex_rest 39 40 rfl rfl rfl Hrest.out⟩) hS0 ?_
        simp only [Act.put, List.setIfInBounds_toArray, List.set_cons_succ, List.set_cons_zero]
        refine wpAnyH_one (i := 4) (by kernel_rfl) (op_call (some 42) 21 #[.slice (some ⟨X, 0, none⟩) 16 16, .slice ta2 16 (ct - l)] (.bool bb) rfl rfl rfl (exec_fn2 _ _ _ _ _ rfl rfl rfl) same_enters (HSm.out V0 hS0) hS0 ?_)
        intro V1 gg1 hS1
        simp only [Act.put, List.setIfInBounds_toArray, List.set_cons_succ, List.set_cons_zero]
        refine wpAnyH_takeD (some 43) (i := 5) (v := .bool (!bb)) rfl rfl (by kernel_rfl) (by kernel_rfl) (by kernel_rfl) (fun _ _ _ h => h) (Or.inl ⟨rfl, fun _ _ => by go_simp⟩) hS1 ?_
        simp only [Act.put, List.setIfInBounds_toArray, List.set_cons_succ, List.set_cons_zero]
        refine wpAnyH_done (by kernel_rfl) ?_ _
        go_wp2_with fail
        go_meet
        case rel => exact ⟨rfl, hS1⟩
      case rest =>
        obtain ⟨rfl, g6⟩ := hcut
        clear HV0 HSm
        have gd := grown_trans gv g6
        have hFd := hFv.grown g6 (by simp)
        have hCd := hCv.grown g6 (by simp)
        clear gv hFv hCv g6 hXv
        cases bb with
        | false =>
          go_wp2_with fail
          go_ret2
          exact ⟨gd, fun _ => rfl, fun h => by cases h⟩
        | true =>
          go_upto_region 10 with fail
          obtain ⟨V0, hV0⟩ : ∃ V0, V0 = wc.drew := ⟨_, rfl⟩
          have hv0 : wc.grownBy V0 none := by rw [hV0]; exact grown_drew (grown_refl wc none)
          have HV0 := Lib.hid hV0.symm
          have gv := grown_trans gd hv0
          have hFv := hFd.grown hv0 (by simp)
          have hCv := hCd.grown hv0 (by simp)
          have hml := hCv.lt
          have HTu : Hid (∀ U b, V0.grownBy U none → CellIs U b (.slice (some ⟨tb, p, none⟩) l ct) → Calls Tryd.prog 18 #[.pointer (some ⟨m, 0, none⟩), .agg (cellsOf .u8 16 F2), .slice (some ⟨b, 0, none⟩) 1 1] U fun e w' => ∃ v, e = .returned v ∧ (∃ x, v = .tuple #[x, .int .i64 0] ∧ OwnN w' w.heap.size x l G) ∧ U.grownBy w' none) := Lib.hid (fun U b hU hb => by
            have gU := grown_trans gv hU
            have hTe := texts_cell hb Hlc.out ((HT.out.up (Nat.le_refl _) gU).head Hln.out)
            have := turn_any m (N + 6) 1 1 _ C W F2 (fun j => if j = 0 then 0 else l) ft U hkw hF2l hft hN1 hN6 hc (hCv.grown hU (by simp)) (HL.out.grown gU (by simp)) (Nat.lt_of_lt_of_le hml hU.size) (Nat.lt_of_lt_of_le hsz gU.size) hTe (by decide) (by show l ≤ 2 ^ 40; have := Hln.out; omega)
            rw [← HG.out] at this
            exact this.mono fun e w' h => by
              obtain ⟨v, h1, h2, h3⟩ := h
              exact ⟨_, h1, ⟨v, rfl, h2.base gU.size⟩, h3⟩)
          clear hV0 hv0 gd hFd hCd
          refine wp_region_held (S := fun W => V0.grownBy W (none)) (by kernel_rfl) ?_
          change wpAnyH _ _ _ _ _ 12 #[false, false, false, false, false, false, false, false, false, false, false, false] _ (World.drew _)
          rw [HV0.out]
          have hS0 : V0.grownBy V0 (none) := grown_refl V0 _
          refine wpAnyH_takeD (some 44) (i := 0) (v := .pointer (some ⟨m, 0, none⟩)) rfl rfl (by kernel_rfl) (by kernel_rfl) (by kernel_rfl) (fun _ _ _ h => h) (Or.inl ⟨rfl, fun _ _ => rfl⟩) hS0 ?_
          simp only [Act.put, List.setIfInBounds_toArray, List.set_cons_succ, List.set_cons_zero]
          refine wpAnyH_takeD (some 45) (i := 1) (v := .agg (cellsOf .u8 16 F1)) rfl rfl (by kernel_rfl) (by kernel_rfl) (by kernel_rfl) (fun _ _ _ h => h) (Or.inl ⟨rfl, fun W hW => run_sixteen (hFv.grown hW (by simp)) rfl rfl⟩) hS0 ?_
          simp only [Act.put, List.setIfInBounds_toArray, List.set_cons_succ, List.set_cons_zero]
          refine wpAnyH_takeD (some 47) (i := 3) (v := .slice (some ⟨tb, p, none⟩) nt ct) rfl rfl (by kernel_rfl) (by kernel_rfl) (by kernel_rfl) (fun _ _ _ h => h) (Or.inl ⟨rfl, fun _ _ => rfl⟩) hS0 ?_
          simp only [Act.put, List.setIfInBounds_toArray, List.set_cons_succ, List.set_cons_zero]
          refine wpAnyH_takeD (some 48) (i := 4) (v := .int .i64 l) rfl rfl (by kernel_rfl) (by kernel_rfl) (by kernel_rfl) (fun _ _ _ h => h) (Or.inl ⟨rfl, fun _ _ => rfl⟩) hS0 ?_
          simp only [Act.put, List.setIfInBounds_toArray, List.set_cons_succ, List.set_cons_zero]
          refine wpAnyH_takeD (some 49) (i := 5) (v := .slice (some ⟨tb, p, none⟩) l ct) rfl rfl (by kernel_rfl) (by kernel_rfl) (by kernel_rfl) (fun _ _ _ h => h) (Or.inl ⟨rfl, fun W hW => ex_head 47 48 rfl rfl rfl Hlc.out⟩) hS0 ?_
          simp only [Act.put, List.setIfInBounds_toArray, List.set_cons_succ, List.set_cons_zero]
          refine wpAnyH_both (i := 2) (j := 6) (by kernel_rfl) ?_ ?_
          · refine (op_call (some 46) 19 #[.agg (cellsOf .u8 16 F1)] (.agg (cellsOf .u8 16 F2)) rfl rfl rfl (exec_fn1 _ _ _ rfl rfl) cnext_enters (HNx.out V0) hS0 ?_)
            intro V1 gg1 hS1
            simp only [Act.put, List.setIfInBounds_toArray, List.set_cons_succ, List.set_cons_zero]
            refine wpAnyH_one (i := 6) (by kernel_rfl) (op_mk (some 50) (.slice (some ⟨tb, p, none⟩) l ct) 22 rfl rfl rfl (run_build1 49 rfl rfl ⟨_, _, _, rfl⟩) hS1 ?_)
            intro V2 gg2 hS2 hX
            have hS_X := hS1.size
            simp only [Act.put, List.setIfInBounds_toArray, List.set_cons_succ, List.set_cons_zero]
            refine wpAnyH_one (i := 7) (by kernel_rfl) (op_callR (R := fun v w' => (∃ x, v = .tuple #[x, .int .i64 0] ∧ OwnN w' w.heap.size x l G) ∧ V2.grownBy w' none) (some 51) 18 #[.pointer (some ⟨m, 0, none⟩), .agg (cellsOf .u8 16 F2), .slice (some ⟨V1.heap.size, 0, none⟩) 1 1] rfl rfl rfl (exec_fn3 _ _ _ _ _ _ _ rfl rfl rfl rfl) cturn_enters (HTu.out V2 _ hS2 hX) ?_)
            rintro vv3 V3 ⟨⟨x, rfl, hx⟩, gg3⟩
            have hS3 := grown_trans hS2 (grown_some gg3)
            refine ⟨hS3, ?_⟩
            simp only [Act.put, List.setIfInBounds_toArray, List.set_cons_succ, List.set_cons_zero]
            have hX_3 := hX.grown gg3 (by simp)
            refine wpAnyH_takeD (some 52) (i := 8) (v := x) rfl rfl (by kernel_rfl) (by kernel_rfl) (by kernel_rfl) (fun _ _ _ h => h) (Or.inl ⟨rfl, fun _ _ => by go_simp⟩) hS3 ?_
            simp only [Act.put, List.setIfInBounds_toArray, List.set_cons_succ, List.set_cons_zero]
            refine wpAnyH_takeD (some 53) (i := 9) (v := .int .i64 0) rfl rfl (by kernel_rfl) (by kernel_rfl) (by kernel_rfl) (fun _ _ _ h => h) (Or.inl ⟨rfl, fun _ _ => by go_simp⟩) hS3 ?_
            simp only [Act.put, List.setIfInBounds_toArray, List.set_cons_succ, List.set_cons_zero]
            refine wpAnyH_takeD (some 8) (i := 10) (v := x) rfl rfl (by kernel_rfl) (by kernel_rfl) (by kernel_rfl) (fun _ _ _ h => h) (Or.inl ⟨rfl, fun _ _ => rfl⟩) hS3 ?_
            simp only [Act.put, List.setIfInBounds_toArray, List.set_cons_succ, List.set_cons_zero]
            refine wpAnyH_takeD (some 9) (i := 11) (v := .int .i64 0) rfl rfl (by kernel_rfl) (by kernel_rfl) (by kernel_rfl) (fun _ _ _ h => h) (Or.inl ⟨rfl, fun _ _ => rfl⟩) hS3 ?_
            simp only [Act.put, List.setIfInBounds_toArray, List.set_cons_succ, List.set_cons_zero]
            refine wpAnyH_done (by kernel_rfl) ?_ _
            go_wp2_with fail
            go_ret2
            exact ⟨grown_trans gv hS3, fun h => (by cases h), fun _ => ⟨x, rfl, hx⟩⟩
          · refine (op_mk (some 50) (.slice (some ⟨tb, p, none⟩) l ct) 22 rfl rfl rfl (run_build1 49 rfl rfl ⟨_, _, _, rfl⟩) hS0 ?_)
            intro V1 gg1 hS1 hX
            have hS_X := hS0.size
            simp only [Act.put, List.setIfInBounds_toArray, List.set_cons_succ, List.set_cons_zero]
            refine wpAnyH_one (i := 2) (by kernel_rfl) (op_call (some 46) 19 #[.agg (cellsOf .u8 16 F1)] (.agg (cellsOf .u8 16 F2)) rfl rfl rfl (exec_fn1 _ _ _ rfl rfl) cnext_enters (HNx.out V1) hS1 ?_)
            intro V2 gg2 hS2
            simp only [Act.put, List.setIfInBounds_toArray, List.set_cons_succ, List.set_cons_zero]
            have hX_2 := hX.grown gg2 (by simp)
            refine wpAnyH_one (i := 7) (by kernel_rfl) (op_callR (R := fun v w' => (∃ x, v = .tuple #[x, .int .i64 0] ∧ OwnN w' w.heap.size x l G) ∧ V2.grownBy w' none) (some 51) 18 #[.pointer (some ⟨m, 0, none⟩), .agg (cellsOf .u8 16 F2), .slice (some ⟨V0.heap.size, 0, none⟩) 1 1] rfl rfl rfl (exec_fn3 _ _ _ _ _ _ _ rfl rfl rfl rfl) cturn_enters (HTu.out V2 _ hS2 hX_2) ?_)
            rintro vv3 V3 ⟨⟨x, rfl, hx⟩, gg3⟩
            have hS3 := grown_trans hS2 (grown_some gg3)
            refine ⟨hS3, ?_⟩
            simp only [Act.put, List.setIfInBounds_toArray, List.set_cons_succ, List.set_cons_zero]
            have hX_3 := hX_2.grown gg3 (by simp)
            refine wpAnyH_takeD (some 52) (i := 8) (v := x) rfl rfl (by kernel_rfl) (by kernel_rfl) (by kernel_rfl) (fun _ _ _ h => h) (Or.inl ⟨rfl, fun _ _ => by go_simp⟩) hS3 ?_
            simp only [Act.put, List.setIfInBounds_toArray, List.set_cons_succ, List.set_cons_zero]
            refine wpAnyH_takeD (some 53) (i := 9) (v := .int .i64 0) rfl rfl (by kernel_rfl) (by kernel_rfl) (by kernel_rfl) (fun _ _ _ h => h) (Or.inl ⟨rfl, fun _ _ => by go_simp⟩) hS3 ?_
            simp only [Act.put, List.setIfInBounds_toArray, List.set_cons_succ, List.set_cons_zero]
            refine wpAnyH_takeD (some 8) (i := 10) (v := x) rfl rfl (by kernel_rfl) (by kernel_rfl) (by kernel_rfl) (fun _ _ _ h => h) (Or.inl ⟨rfl, fun _ _ => rfl⟩) hS3 ?_
            simp only [Act.put, List.setIfInBounds_toArray, List.set_cons_succ, List.set_cons_zero]
            refine wpAnyH_takeD (some 9) (i := 11) (v := .int .i64 0) rfl rfl (by kernel_rfl) (by kernel_rfl) (by kernel_rfl) (fun _ _ _ h => h) (Or.inl ⟨rfl, fun _ _ => rfl⟩) hS3 ?_
            simp only [Act.put, List.setIfInBounds_toArray, List.set_cons_succ, List.set_cons_zero]
            refine wpAnyH_done (by kernel_rfl) ?_ _
            go_wp2_with fail
            go_ret2
            exact ⟨grown_trans gv hS3, fun h => (by cases h), fun _ => ⟨x, rfl, hx⟩⟩
  · have j0 : (nt : Int) < 16 := by omega
    have hob : openB (N + 6) W nf fa na ft nt = false := by
      unfold openB
      rw [decide_eq_false h16, Bool.false_and]
    rw [hob]
    clear h16 hob
    go_enter Tryd.func8, Tryd.ntmps8
    go_wp2_with fail
    go_at_call 16
    with_reducible refine (N1.out).mono ?_
    rintro e w2 ⟨m, C, rfl, hm, g2, hC, hc⟩
    have g02 := grown_trans g1 g2
    go_wp2_with fail
    go_ret2
    exact ⟨g02, fun _ => rfl, fun h => by cases h⟩
end Go.Proofs.YtlfopcigbgfnlaaDoor
namespace Go.Proofs.YtlfopcigbgfnlaaDoor
open Go.RowKit

set_option maxRecDepth 100000

theorem fdP_cong {h v : Nat} {b b' : Nat → Nat} {L : Nat} (e : ∀ i, i < L → b i = b' i) : ∀ m, fdP h v b L m = fdP h v b' L m
  | 0 => rfl
  | m + 1 => by
    show gMul (fdP h v b L m ^^^ pl (blkF b L m)) h = gMul (fdP h v b' L m ^^^ pl (blkF b' L m)) h
    rw [fdP_cong e m, pl_congr (g := blkF b' L m) (fun i _ => blkF_congr e m i)]
theorem fdA_cong {h v : Nat} {b b' : Nat → Nat} {L : Nat} (e : ∀ i, i < L → b i = b' i) : fdA h v b L = fdA h v b' L := fdP_cong e _
theorem tagP_cong {h na nt : Nat} {fa fa' ft ft' : Nat → Nat} (ea : ∀ i, i < na → fa i = fa' i) (et : ∀ i, i < nt → ft i = ft' i) : tagP h na nt fa ft = tagP h na nt fa' ft' := by
  unfold tagP
  rw [fdA_cong ea, fdA_cong et]
theorem tagF_cong {R : Nat} {W f fa fa' ft ft' : Nat → Nat} {na nt : Nat} (ea : ∀ i, i < na → fa i = fa' i) (et : ∀ i, i < nt → ft i = ft' i) (i : Nat) : tagF R W f fa na ft nt i = tagF R W f fa' na ft' nt i := by
  unfold tagF
  rw [tagP_cong ea et]

def z16L : List Nat := [0, 0, 0, 0, 0, 0, 0, 0, 0, 0, 0, 0, 0, 0, 0, 0]
def z32L : List Nat := [0, 0, 0, 0, 0, 0, 0, 0, 0, 0, 0, 0, 0, 0, 0, 0, 0, 0, 0, 0, 0, 0, 0, 0, 0, 0, 0, 0, 0, 0, 0, 0]
def ct1L : List Nat := [0, 0, 0, 0, 0, 0, 0, 0, 0, 0, 0, 0, 0, 0, 0, 1]
def ct2L : List Nat := [0, 0, 0, 0, 0, 0, 0, 0, 0, 0, 0, 0, 0, 0, 0, 2]
def tgAL : List Nat := [88, 226, 252, 206, 250, 126, 48, 97, 54, 127, 29, 87, 164, 231, 69, 90]
def hhL : List Nat := [220, 149, 192, 120, 162, 64, 137, 137, 173, 72, 162, 20, 146, 132, 32, 135]
def eeL : List Nat := [83, 15, 138, 251, 199, 69, 54, 185, 169, 99, 180, 241, 196, 203, 115, 139]
def ccL : List Nat := [206, 167, 64, 61, 77, 96, 107, 110, 7, 78, 197, 211, 186, 243, 157, 24]
def ttL : List Nat := [208, 209, 200, 167, 153, 153, 107, 240, 38, 91, 152, 181, 212, 138, 185, 25]
def bbL : List Nat := [206, 167, 64, 61, 77, 96, 107, 110, 7, 78, 197, 211, 186, 243, 157, 24, 208, 209, 200, 167, 153, 153, 107, 240, 38, 91, 152, 181, 212, 138, 185, 25]
theorem tgA_val : evalSeal 4 z16L ct1L = tgAL := by kernel_rfl
theorem hh_val : evalSeal 8 z32L z16L = hhL := by kernel_rfl
theorem ee_val : evalSeal 8 z32L ct1L = eeL := by kernel_rfl
theorem cc_val : evalSeal 8 z32L ct2L = ccL := by kernel_rfl
def zF : Nat → Nat := fun _ => 0
theorem zF_lt (_i : Nat) : zF _i < 256 := by
  show 0 < 256
  decide
theorem first_zero (i : Nat) (hi : i < 16) : firstF zF i = lst ct1L i := by
  have h : (List.range 16).all (fun i => firstF zF i == lst ct1L i) = true := by kernel_rfl
  simpa using all_range h i hi
theorem second_zero (i : Nat) (hi : i < 16) : nextF (firstF zF) i = lst ct2L i := by
  have h : (List.range 16).all (fun i => nextF (firstF zF) i == lst ct2L i) = true := by kernel_rfl
  simpa using all_range h i hi
theorem key16_zero (x : Nat) (hx : x < 4 * 4) : zF x = lst z16L x := by
  have h : (List.range 16).all (fun i => zF i == lst z16L i) = true := by kernel_rfl
  simpa using all_range h x hx
theorem key32_zero (x : Nat) (hx : x < 4 * 8) : zF x = lst z32L x := by
  have h : (List.range 32).all (fun i => zF i == lst z32L i) = true := by kernel_rfl
  simpa using all_range h x hx
theorem seal_tgA (i : Nat) (hi : i < 16) : sealA 10 (keyW 4 zF) (firstF zF) i = lst tgAL i := by
  rw [← tgA_val]
  exact evalSeal_ok 4 z16L ct1L _ _ (by decide) (by decide) rfl key16_zero first_zero i hi
theorem seal_hh (i : Nat) (hi : i < 16) : sealA 14 (keyW 8 zF) zF i = lst hhL i := by
  rw [← hh_val]
  exact evalSeal_ok 8 z32L z16L _ _ (by decide) (by decide) rfl key32_zero (fun i hi => key16_zero i hi) i hi
theorem seal_ee (i : Nat) (hi : i < 16) : sealA 14 (keyW 8 zF) (firstF zF) i = lst eeL i := by
  rw [← ee_val]
  exact evalSeal_ok 8 z32L ct1L _ _ (by decide) (by decide) rfl key32_zero first_zero i hi
theorem turn_cc (i : Nat) (hi : i < 16) : strm 14 (keyW 8 zF) (nextF (firstF zF)) (i / 16) (i % 16) = lst ccL i := by
  rw [show i / 16 = 0 by omega, Nat.mod_eq_of_lt hi, ← cc_val]
  exact evalSeal_ok 8 z32L ct2L _ _ (by decide) (by decide) rfl key32_zero second_zero i hi
theorem pl_hhL : pl (lst hhL) = 299097743354675899386645093796486031675 := by kernel_rfl
theorem pl_hh : pl (sealA 14 (keyW 8 zF) (fun _ => 0)) = 299097743354675899386645093796486031675 := (pl_congr seal_hh).trans pl_hhL
theorem pl_ee : pl (sealA 14 (keyW 8 zF) (firstF zF)) = pl (lst eeL) := pl_congr seal_ee
theorem tagP_0 (h : Nat) (hh : h < 2 ^ 128) (fa ft : Nat → Nat) : tagP h 0 0 fa ft = 0 := by
  unfold tagP
  have e1 : fdA h 0 fa 0 = 0 := rfl
  have e2 : fdA h 0 ft 0 = 0 := rfl
  have e3 : pl (lnF 0 0) = 0 := by kernel_rfl
  rw [e1, e2, e3, Nat.xor_self, gMul_none h hh]
theorem tagP_16 (fa : Nat → Nat) : tagP 299097743354675899386645093796486031675 0 16 fa (lst ccL) = 97467241689216515405461124125959551937 := by
  have e : gMul (fdA 299097743354675899386645093796486031675 0 (lst ccL) 16 ^^^ pl (lnF 0 16)) 299097743354675899386645093796486031675 = 97467241689216515405461124125959551937 := by kernel_rfl
  exact e
def c15L : List Nat := [167, 64, 61, 77, 96, 107, 110, 7, 78, 197, 211, 186, 243, 157, 24]
theorem tagP_15 (fa : Nat → Nat) : tagP 299097743354675899386645093796486031675 0 15 fa (lst c15L) = 193534022970235350445733839838374918636 := by
  have e : gMul (fdA 299097743354675899386645093796486031675 0 (lst c15L) 15 ^^^ pl (lnF 0 15)) 299097743354675899386645093796486031675 = 193534022970235350445733839838374918636 := by kernel_rfl
  exact e
/-- The first row: 16 bytes of a tag. -/
theorem row_A (i : Nat) (hi : i < 16) : sealF 10 (keyW 4 zF) zF zF 0 zF 0 i = lst tgAL i := by
  unfold sealF cat tagF
  rw [if_neg (by omega), Nat.sub_zero, tagP_0 _ (pl_lt _), Nat.zero_xor, un_pl _ i hi (sealA_lt 10 _ _ (keyW_lt 4 zF zF_lt) (firstF_lt zF zF_lt) i), seal_tgA i hi]
theorem turn_zz (i : Nat) (hi : i < 16) : turnF 14 (keyW 8 zF) (nextF (firstF zF)) zF i = lst ccL i := by
  unfold turnF
  rw [turn_cc i hi]
  exact Nat.zero_xor _
theorem tag_16 (ft : Nat → Nat) (h : ∀ i, i < 16 → ft i = lst ccL i) (i : Nat) (hi : i < 16) : tagF 14 (keyW 8 zF) (firstF zF) zF 0 ft 16 i = lst ttL i := by
  rw [tagF_cong (fa' := zF) (ft' := lst ccL) (fun _ h => absurd h (by omega)) h]
  unfold tagF
  rw [pl_hh, tagP_16, pl_ee]
  have h : (List.range 16).all (fun i => un (97467241689216515405461124125959551937 ^^^ pl (lst eeL)) i == lst ttL i) = true := by kernel_rfl
  simpa using all_range h i hi
theorem tag_15 (ft : Nat → Nat) (h : ∀ i, i < 15 → ft i = lst c15L i) : tagF 14 (keyW 8 zF) (firstF zF) zF 0 ft 15 0 = 100 := by
  rw [tagF_cong (fa' := zF) (ft' := lst c15L) (fun _ h => absurd h (by omega)) h]
  unfold tagF
  rw [pl_hh, tagP_15, pl_ee]
  kernel_rfl
theorem bb_low (i : Nat) (hi : i < 16) : lst bbL i = lst ccL i := by
  have h : (List.range 16).all (fun i => lst bbL i == lst ccL i) = true := by kernel_rfl
  simpa using all_range h i hi
theorem bb_high (i : Nat) (hi : i < 16) : lst bbL (16 + i) = lst ttL i := by
  have h : (List.range 16).all (fun i => lst bbL (16 + i) == lst ttL i) = true := by kernel_rfl
  simpa using all_range h i hi
theorem bb_one (i : Nat) (hi : i < 15) : lst bbL (1 + i) = lst c15L i := by
  have h : (List.range 15).all (fun i => lst bbL (1 + i) == lst c15L i) = true := by kernel_rfl
  simpa using all_range h i hi
theorem bb_lt (i : Nat) : lst bbL i < 256 := getD_lt 256 (by decide) bbL (by decide) i
/-- The second row. -/
theorem row_B (i : Nat) (hi : i < 32) : sealF 14 (keyW 8 zF) zF zF 0 zF 16 i = lst bbL i := by
  unfold sealF cat
  by_cases e : i < 16
  · rw [if_pos e, turn_zz i e, bb_low i e]
  · obtain ⟨j, rfl⟩ : ∃ j, i = 16 + j := ⟨i - 16, by omega⟩
    rw [if_neg e, show 16 + j - 16 = j by omega, tag_16 _ turn_zz j (by omega), bb_high j (by omega)]
/-- The second row is opened, as it was. -/
theorem row_open : openB 14 (keyW 8 zF) zF zF 0 (lst bbL) 32 = true := by
  unfold openB
  rw [decide_eq_true (by decide), Bool.true_and]
  exact (sameB_iff _ _ _ _).2 ⟨rfl, fun i hi => by
    rw [tag_16 _ (fun i hi => bb_low i hi) i hi]
    exact (bb_high i hi).symm⟩
theorem row_text (i : Nat) (hi : i < 16) : turnF 14 (keyW 8 zF) (nextF (firstF zF)) (lst bbL) i = 0 := by
  unfold turnF
  rw [turn_cc i hi, bb_low i hi, Nat.xor_self]
/-- Without its first byte it isn't. -/
theorem row_less : openB 14 (keyW 8 zF) zF zF 0 (fun i => lst bbL (1 + i)) 31 = false := by
  unfold openB
  rw [decide_eq_true (by decide), Bool.true_and, Bool.eq_false_iff]
  intro h
  have := ((sameB_iff _ _ _ _).1 h).2 0 (by decide)
  rw [tag_15 _ (fun i hi => bb_one i hi)] at this
  exact absurd this (by decide)
theorem row_short : openB 14 (keyW 8 zF) zF zF 0 (lst bbL) 15 = false := by
  unfold openB
  rw [decide_eq_false (by decide), Bool.false_and]
end Go.Proofs.YtlfopcigbgfnlaaDoor
namespace Go.Proofs.YtlfopcigbgfnlaaDoor
open Go.RowKit

/-- n bytes 0 in block b. -/
structure FillIs (w : World) (b n : Nat) : Prop where
  rd_ : Rd w (b + 1) (some ⟨b, 0, none⟩) n (fun _ => 0)
  lt : b < w.heap.size
theorem FillIs.grown {w w' : World} {b n : Nat} (h : FillIs w b n) {row : Option Nat} (g : w.grownBy w' row) (hr : some b ≠ row) : FillIs w' b n where
  rd_ := ⟨fun h0 => by
    obtain ⟨tb, o, h1, h2, h3⟩ := h.rd_.ex h0
    cases h1
    exact ⟨b, 0, rfl, h2, fun i hi => g.cell (h3 i hi) hr⟩⟩
  lt := Nat.lt_of_lt_of_le h.lt g.size
theorem FillIs.rd {w : World} {b n : Nat} (h : FillIs w b n) : Rd w w.heap.size (some ⟨b, 0, none⟩) n (fun _ => 0) := h.rd_.mono h.lt

section
variable {ops : Array Oper} {Q : Exit → Act → World → Prop} {a : Act} {w : World}
theorem op_make {i : Nat} {o : Oper} {K : Act → World → Prop} {W0 : World} {row : Option Nat} (d : Option Tmp) (n : Nat) (hn : 0 < n ∧ n < 2 ^ 40) (hi : ops[i]? = some o) (hd : o.dst = d) (hw : Region.wanted o (yielded ops a.tmps) = true)
    (ho : o.op = .makeSlice 22 (.const (.int .i64 n)) (.const (.int .i64 n))) (hS : W0.grownBy w row)
    (h : ∀ w', w.grownBy w' none → W0.grownBy w' row → FillIs w' w.heap.size n → K (a.put d (.slice (some ⟨w.heap.size, 0, none⟩) n n)) w') : wpOp Tryd.prog ops Q i (fun a' w' => W0.grownBy w' row ∧ K a' w') a w := by
  subst hd
  obtain ⟨c, mk, hF⟩ := make_any n hn.2 w
  have g := World.grownBy_alloc w (.cells c 5) none
  have g2 := grown_trans hS (grown_some g)
  have he : (execOp a.eval o).run Tryd.prog w = .ok (.value (.slice (some ⟨w.heap.size, 0, none⟩) n n)) (w.alloc (.cells c 5)) := by
    unfold execOp
    simp only [ho, Act.eval, Sem.run_bind, mk]
    rfl
  have hl : w.heap.size < (w.alloc (.cells c 5)).heap.size := by simp
  refine wpOp_at hi hw (wp_yields he ⟨g2, h _ g g2 ⟨⟨fun h0 => ?_⟩, hl⟩⟩)
  exact ⟨w.heap.size, 0, rfl, Nat.lt_succ_self _, fun i hi => by rw [Nat.zero_add]; exact hF.cell i hi⟩
end
end Go.Proofs.YtlfopcigbgfnlaaDoor
namespace Go.Proofs.YtlfopcigbgfnlaaDoor
open Go.RowKit

theorem run_eqlB {o : Oper} {a : Act} {W : World} (t1 t2 : Tmp) (f g : Nat → Nat) (ho : o.op = .binOp .eql 24 (.tmp t1) (.tmp t2) 24)
    (h1 : a.eval (.tmp t1) = .agg (cellsOf .u8 16 f)) (h2 : a.eval (.tmp t2) = .agg (cellsOf .u8 16 g)) : (execOp a.eval o).run Tryd.prog W = .ok (.value (.bool (eq16 f g))) W := by
  have he := run_eq16 f g W
  unfold execOp
  simp only [ho, h1, h2]
  go_simp

theorem run_convS {o : Oper} {a : Act} {W : World} {B : Nat} {ad : Option Addr} {n c : Nat} {f : Nat → Nat} (t : Tmp) (ho : o.op = .convert 22 9 (.tmp t)) (h1 : a.eval (.tmp t) = .slice ad n c) (h : Rd W B ad n f) (hf : ∀ i, f i < 256) :
    (execOp a.eval o).run Tryd.prog W = .ok (.value (.string (strOf n f))) W := by
  have hr := run_string c h hf
  unfold execOp
  simp only [ho, h1]
  go_simp

theorem OwnN.made {w : World} {base : Nat} {v : Value} {n : Nat} {f : Nat → Nat} (h : OwnN w base v n f) (hn : 0 < n) : ∃ g cap, v = .slice (some ⟨g, 0, none⟩) n cap ∧ OwnR w g n cap f ∧ base ≤ g := by
  rcases h.ex with ⟨_, rfl⟩ | h
  · omega
  · exact h

/-- True, and nothing that was is turned. -/
structure SaysYes (w : World) (e : Ending) (w' : World) : Prop where
  ex : e = .returned (.bool true) ∧ w.grownBy w' none


end Go.Proofs.YtlfopcigbgfnlaaDoor
namespace Go.Proofs.YtlfopcigbgfnlaaDoor
open Go.RowKit Go.Shelf

set_option maxRecDepth 100000
set_option maxHeartbeats 2000000

theorem gseal_enters (args : Array Value) (w : World) : (callFunc 7 args).run Tryd.prog w = .ok (.enter 7 args) w := enters_of Tryd.func7 (by kernel_rfl) rfl args w
theorem gopen_enters (args : Array Value) (w : World) : (callFunc 8 args).run Tryd.prog w = .ok (.enter 8 args) w := enters_of Tryd.func8 (by kernel_rfl) rfl args w
theorem run_twelve {o : Oper} {a : Act} {W : World} {B : Nat} {f : Nat → Nat} {t : Tmp} (h : Holds W B 23 .u8 12 f) (ho : o.op = .load 23 (.tmp t)) (ha : a.eval (.tmp t) = .pointer (some ⟨B, 0, none⟩)) :
    (execOp a.eval o).run Tryd.prog W = .ok (.value (.agg (cellsOf .u8 12 f))) W := run_row 23 (.array 12 5) h ho ha (by kernel_rfl) rfl (by kernel_rfl)
theorem rd_nil (w : World) (B : Nat) (f : Nat → Nat) : Rd w B none 0 f := ⟨fun h => absurd h (by decide)⟩
/-- Bytes are handed back, and no error. -/
structure GaveB (w : World) (n : Nat) (f : Nat → Nat) (v : Value) (w' : World) : Prop where
  ex : ∃ a c, v = .tuple #[.slice a n c, .int .i64 0] ∧ n ≤ c ∧ Rd w' w'.heap.size a n f
theorem Turned.gave {w : World} {n : Nat} {f g : Nat → Nat} {e : Ending} {w' : World} (h : Turned w n f e w') (hf : ∀ i, i < n → f i = g i) : ∃ v, e = .returned v ∧ GaveB w n g v w' ∧ w.grownBy w' none := by
  obtain ⟨v, h1, h2, h3⟩ := h
  obtain ⟨a, c, rfl, h4, h5⟩ := h2.rd
  exact ⟨_, h1, ⟨a, c, rfl, h4, h5.congr hf⟩, h3⟩

theorem known05 (w : World) (hL : LaidS w 0) (hsz : 0 < w.heap.size) : Calls Tryd.prog 5 #[] w (SaysYes w) := by
  have HSA : Hid (∀ U b, w.grownBy U none → FillIs U b 16 → Calls Tryd.prog 7 #[.slice (some ⟨b, 0, none⟩) 16 16, .agg (cellsOf .u8 12 zF), .slice none 0 0, .slice none 0 0] U fun e w' => ∃ v, e = .returned v ∧ GaveB U 16 (lst tgAL) v w' ∧ U.grownBy w' none) := Lib.hid (fun U b hU hb =>
    (gseal_any 4 16 16 0 0 0 0 _ none none zF zF zF zF U (hL.grown hU (by simp)) (Nat.lt_of_lt_of_le hsz hU.size) (Or.inl rfl) rfl hb.rd zF_lt zF_lt (rd_nil _ _ _) zF_lt (by decide) (by decide) (rd_nil _ _ _) zF_lt (by decide) (by decide)).mono fun e w' h => h.gave row_A)
  have HSB : Hid (∀ U b b', w.grownBy U none → FillIs U b 32 → FillIs U b' 16 → Calls Tryd.prog 7 #[.slice (some ⟨b, 0, none⟩) 32 32, .agg (cellsOf .u8 12 zF), .slice none 0 0, .slice (some ⟨b', 0, none⟩) 16 16] U fun e w' => ∃ v, e = .returned v ∧ GaveB U 32 (lst bbL) v w' ∧ U.grownBy w' none) := Lib.hid (fun U b b' hU hb hb' =>
    (gseal_any 8 32 32 0 0 16 16 _ none _ zF zF zF zF U (hL.grown hU (by simp)) (Nat.lt_of_lt_of_le hsz hU.size) (Or.inr rfl) rfl hb.rd zF_lt zF_lt (rd_nil _ _ _) zF_lt (by decide) (by decide) hb'.rd zF_lt (by decide) (by decide)).mono fun e w' h => h.gave row_B)
  have HSC : Hid (∀ U b, Calls Tryd.prog 7 #[.slice (some ⟨b, 0, none⟩) 24 24, .agg (cellsOf .u8 12 zF), .slice none 0 0, .slice none 0 0] U fun e w' => e = .returned (.tuple #[.slice none 0 0, .int .i64 2]) ∧ U.grownBy w' none) := Lib.hid (fun U b =>
    gseal_err 24 24 0 0 0 0 _ none none zF U (by decide) (by decide))
  have HOA : Hid (∀ U b a c, w.grownBy U none → FillIs U b 32 → Rd U U.heap.size a 32 (lst bbL) → 32 ≤ c → Calls Tryd.prog 8 #[.slice (some ⟨b, 0, none⟩) 32 32, .agg (cellsOf .u8 12 zF), .slice none 0 0, .slice a 32 c] U fun e w' => ∃ v, e = .returned v ∧ GaveB U 16 zF v w' ∧ U.grownBy w' none) := Lib.hid (fun U b a c hU hb ha hc =>
    (gopen_any 8 32 32 0 0 32 c _ none a zF zF zF (lst bbL) U (hL.grown hU (by simp)) (Nat.lt_of_lt_of_le hsz hU.size) (Or.inr rfl) rfl hb.rd zF_lt zF_lt (rd_nil _ _ _) zF_lt (by decide) (by decide) ha bb_lt hc (by decide)).mono fun e w' h => by
      obtain ⟨v, h1, h2⟩ := h.good row_open
      obtain ⟨a, c, rfl, h4, h5⟩ := h2.rd
      exact ⟨_, h1, ⟨a, c, rfl, h4, h5.congr row_text⟩, h.gr⟩)
  have HOB : Hid (∀ U b a c, w.grownBy U none → FillIs U b 32 → Rd U U.heap.size a 31 (fun i => lst bbL (1 + i)) → 31 ≤ c → Calls Tryd.prog 8 #[.slice (some ⟨b, 0, none⟩) 32 32, .agg (cellsOf .u8 12 zF), .slice none 0 0, .slice a 31 c] U fun e w' => e = .returned (.tuple #[.slice none 0 0, .int .i64 140]) ∧ U.grownBy w' none) := Lib.hid (fun U b a c hU hb ha hc =>
    (gopen_any 8 32 32 0 0 31 c _ none a zF zF zF (fun i => lst bbL (1 + i)) U (hL.grown hU (by simp)) (Nat.lt_of_lt_of_le hsz hU.size) (Or.inr rfl) rfl hb.rd zF_lt zF_lt (rd_nil _ _ _) zF_lt (by decide) (by decide) ha (fun i => bb_lt _) hc (by decide)).mono fun e w' h => ⟨h.bad row_less, h.gr⟩)
  have HOC : Hid (∀ U b a c, w.grownBy U none → FillIs U b 32 → Rd U U.heap.size a 15 (lst bbL) → 15 ≤ c → Calls Tryd.prog 8 #[.slice (some ⟨b, 0, none⟩) 32 32, .agg (cellsOf .u8 12 zF), .slice none 0 0, .slice a 15 c] U fun e w' => e = .returned (.tuple #[.slice none 0 0, .int .i64 140]) ∧ U.grownBy w' none) := Lib.hid (fun U b a c hU hb ha hc =>
    (gopen_any 8 32 32 0 0 15 c _ none a zF zF zF (lst bbL) U (hL.grown hU (by simp)) (Nat.lt_of_lt_of_le hsz hU.size) (Or.inr rfl) rfl hb.rd zF_lt zF_lt (rd_nil _ _ _) zF_lt (by decide) (by decide) ha bb_lt hc (by decide)).mono fun e w' h => ⟨h.bad row_short, h.gr⟩)
  have HOD : Hid (∀ U a c, Calls Tryd.prog 8 #[.slice none 0 0, .agg (cellsOf .u8 12 zF), .slice none 0 0, .slice a 32 c] U fun e w' => e = .returned (.tuple #[.slice none 0 0, .int .i64 2]) ∧ U.grownBy w' none) := Lib.hid (fun U a c =>
    gopen_err 0 0 0 0 32 c none none a zF U (by decide) (by decide))
  have hB : Holds (w.alloc (.cells #[.int .u8 0, .int .u8 0, .int .u8 0, .int .u8 0, .int .u8 0, .int .u8 0, .int .u8 0, .int .u8 0, .int .u8 0, .int .u8 0, .int .u8 0, .int .u8 0] 23)) w.heap.size 23 .u8 12 zF := holds_alloc w _ .u8 12 _ _ rfl
  have g1 := World.grownBy_alloc w (.cells #[.int .u8 0, .int .u8 0, .int .u8 0, .int .u8 0, .int .u8 0, .int .u8 0, .int .u8 0, .int .u8 0, .int .u8 0, .int .u8 0, .int .u8 0, .int .u8 0] 23) none
  have HsA : Hid (strOf 16 (lst tgAL) = ⟨#[88, 226, 252, 206, 250, 126, 48, 97, 54, 127, 29, 87, 164, 231, 69, 90]⟩) := Lib.hid (by kernel_rfl)
  have HsB : Hid (strOf 32 (lst bbL) = ⟨#[206, 167, 64, 61, 77, 96, 107, 110, 7, 78, 197, 211, 186, 243, 157, 24, 208, 209, 200, 167, 153, 153, 107, 240, 38, 91, 152, 181, 212, 138, 185, 25]⟩) := Lib.hid (by kernel_rfl)
  have tgA_lt : ∀ i, lst tgAL i < 256 := fun i => getD_lt 256 (by decide) tgAL (by decide) i
  clear hL hsz
  go_enter Tryd.func5, Tryd.ntmps5
  go_upto_region 2 with fail
  generalize w.alloc (.cells #[.int .u8 0, .int .u8 0, .int .u8 0, .int .u8 0, .int .u8 0, .int .u8 0, .int .u8 0, .int .u8 0, .int .u8 0, .int .u8 0, .int .u8 0, .int .u8 0] 23) = w1 at *
  obtain ⟨V0, hV0⟩ : ∃ V0, V0 = w1.drew := ⟨_, rfl⟩
  have hv0 : w1.grownBy V0 none := by rw [hV0]; exact grown_drew (grown_refl w1 none)
  have HV0 := Lib.hid hV0.symm
  have gv := grown_trans g1 hv0
  have hBv := hB.grown hv0 (by simp)
  clear hV0 hv0 hB g1
  go_cut [2, 3] (fun s2 s3 wx => ∃ a c, s2 = .slice a 16 c ∧ s3 = .int .i64 0 ∧ V0.grownBy wx none ∧ Rd wx wx.heap.size a 16 (lst tgAL))
  case first =>
    refine wp_region_held (S := fun W => V0.grownBy W (none)) (by kernel_rfl) ?_
    change wpAnyH _ _ _ _ _ 8 #[false, false, false, false, false, false, false, false] _ (World.drew _)
    rw [HV0.out]
    have hS0 : V0.grownBy V0 (none) := grown_refl V0 _
    refine wpAnyH_takeD (some 18) (i := 1) (v := .agg (cellsOf .u8 12 zF)) rfl rfl (by kernel_rfl) (by kernel_rfl) (by kernel_rfl) (fun _ _ _ h => h) (Or.inl ⟨rfl, fun W hW => run_twelve (hBv.grown hW (by simp)) rfl rfl⟩) hS0 ?_
    simp only [Act.put, List.setIfInBounds_toArray, List.set_cons_succ, List.set_cons_zero]
    refine wpAnyH_one (i := 0) (by kernel_rfl) (op_make (some 17) 16 ⟨by decide, by decide⟩ rfl rfl rfl rfl hS0 ?_)
    intro V1 gg1 hS1 hK
    have hS_K := hS0.size
    simp only [Act.put, List.setIfInBounds_toArray, List.set_cons_succ, List.set_cons_zero]
    refine wpAnyH_one (i := 2) (by kernel_rfl) (op_callR (R := fun v w' => GaveB V1 16 (lst tgAL) v w' ∧ V1.grownBy w' none) (some 19) 7 #[.slice (some ⟨V0.heap.size, 0, none⟩) 16 16, .agg (cellsOf .u8 12 zF), .slice none 0 0, .slice none 0 0] rfl rfl rfl (exec_fn4 _ _ _ _ _ _ _ _ _ rfl rfl rfl rfl rfl) gseal_enters (HSA.out V1 _ (grown_trans gv hS1) hK) ?_)
    rintro vv2 V2 ⟨⟨⟨x, y, rfl, hxc, hx⟩⟩, gg2⟩
    have hS2 := grown_trans hS1 (grown_some gg2)
    refine ⟨hS2, ?_⟩
    simp only [Act.put, List.setIfInBounds_toArray, List.set_cons_succ, List.set_cons_zero]
    have hK_2 := hK.grown gg2 (by simp)
    refine wpAnyH_takeD (some 16) (i := 3) (v := .tuple #[.slice x 16 y, .int .i64 0]) rfl rfl (by kernel_rfl) (by kernel_rfl) (by kernel_rfl) (fun _ _ _ h => h) (Or.inl ⟨rfl, fun _ _ => rfl⟩) hS2 ?_
    simp only [Act.put, List.setIfInBounds_toArray, List.set_cons_succ, List.set_cons_zero]
    refine wpAnyH_takeD (some 20) (i := 4) (v := .slice x 16 y) rfl rfl (by kernel_rfl) (by kernel_rfl) (by kernel_rfl) (fun _ _ _ h => h) (Or.inl ⟨rfl, fun _ _ => by go_simp⟩) hS2 ?_
    simp only [Act.put, List.setIfInBounds_toArray, List.set_cons_succ, List.set_cons_zero]
    refine wpAnyH_takeD (some 21) (i := 5) (v := .int .i64 0) rfl rfl (by kernel_rfl) (by kernel_rfl) (by kernel_rfl) (fun _ _ _ h => h) (Or.inl ⟨rfl, fun _ _ => by go_simp⟩) hS2 ?_
    simp only [Act.put, List.setIfInBounds_toArray, List.set_cons_succ, List.set_cons_zero]
    refine wpAnyH_takeD (some 2) (i := 6) (v := .slice x 16 y) rfl rfl (by kernel_rfl) (by kernel_rfl) (by kernel_rfl) (fun _ _ _ h => h) (Or.inl ⟨rfl, fun _ _ => rfl⟩) hS2 ?_
    simp only [Act.put, List.setIfInBounds_toArray, List.set_cons_succ, List.set_cons_zero]
    refine wpAnyH_takeD (some 3) (i := 7) (v := .int .i64 0) rfl rfl (by kernel_rfl) (by kernel_rfl) (by kernel_rfl) (fun _ _ _ h => h) (Or.inl ⟨rfl, fun _ _ => rfl⟩) hS2 ?_
    simp only [Act.put, List.setIfInBounds_toArray, List.set_cons_succ, List.set_cons_zero]
    refine wpAnyH_done (by kernel_rfl) ?_ _
    go_wp2_with fail
    go_meet
    case rel => exact ⟨_, _, rfl, rfl, hS2, hx⟩
  case rest =>
    obtain ⟨aA, cA, rfl, rfl, g2, hRA⟩ := hcut
    have g02 := grown_trans gv g2
    have hB2 := hBv.grown g2 (by simp)
    clear HV0 gv hBv g2
    go_upto_region 3 with fail
    obtain ⟨V0, hV0⟩ : ∃ V0, V0 = wc.drew := ⟨_, rfl⟩
    have hv0 : wc.grownBy V0 none := by rw [hV0]; exact grown_drew (grown_refl wc none)
    have HV0 := Lib.hid hV0.symm
    have gv := grown_trans g02 hv0
    have hBv := hB2.grown hv0 (by simp)
    have hRAv := hRA.up (Nat.le_refl _) hv0
    clear hV0 hv0 hB2 g02 hRA
    go_cut [4, 5] (fun s4 s5 wx => ∃ a c, s4 = .slice a 32 c ∧ s5 = .int .i64 0 ∧ 32 ≤ c ∧ V0.grownBy wx none ∧ Rd wx wx.heap.size a 32 (lst bbL))
    case first =>
      refine wp_region_held (S := fun W => V0.grownBy W (none)) (by kernel_rfl) ?_
      change wpAnyH _ _ _ _ _ 9 #[false, false, false, false, false, false, false, false, false] _ (World.drew _)
      rw [HV0.out]
      have hS0 : V0.grownBy V0 (none) := grown_refl V0 _
      refine wpAnyH_takeD (some 24) (i := 1) (v := .agg (cellsOf .u8 12 zF)) rfl rfl (by kernel_rfl) (by kernel_rfl) (by kernel_rfl) (fun _ _ _ h => h) (Or.inl ⟨rfl, fun W hW => run_twelve (hBv.grown hW (by simp)) rfl rfl⟩) hS0 ?_
      simp only [Act.put, List.setIfInBounds_toArray, List.set_cons_succ, List.set_cons_zero]
      refine wpAnyH_both (i := 0) (j := 2) (by kernel_rfl) ?_ ?_
      · refine (op_make (some 23) 32 ⟨by decide, by decide⟩ rfl rfl rfl rfl hS0 ?_)
        intro V1 gg1 hS1 hK
        have hS_K := hS0.size
        simp only [Act.put, List.setIfInBounds_toArray, List.set_cons_succ, List.set_cons_zero]
        refine wpAnyH_one (i := 2) (by kernel_rfl) (op_make (some 25) 16 ⟨by decide, by decide⟩ rfl rfl rfl rfl hS1 ?_)
        intro V2 gg2 hS2 hT
        have hS_T := hS1.size
        simp only [Act.put, List.setIfInBounds_toArray, List.set_cons_succ, List.set_cons_zero]
        have hK_2 := hK.grown gg2 (by simp)
        refine wpAnyH_one (i := 3) (by kernel_rfl) (op_callR (R := fun v w' => GaveB V2 32 (lst bbL) v w' ∧ V2.grownBy w' none) (some 26) 7 #[.slice (some ⟨V0.heap.size, 0, none⟩) 32 32, .agg (cellsOf .u8 12 zF), .slice none 0 0, .slice (some ⟨V1.heap.size, 0, none⟩) 16 16] rfl rfl rfl (exec_fn4 _ _ _ _ _ _ _ _ _ rfl rfl rfl rfl rfl) gseal_enters (HSB.out V2 _ _ (grown_trans gv hS2) hK_2 hT) ?_)
        rintro vv3 V3 ⟨⟨⟨x, y, rfl, hxc, hx⟩⟩, gg3⟩
        have hS3 := grown_trans hS2 (grown_some gg3)
        refine ⟨hS3, ?_⟩
        simp only [Act.put, List.setIfInBounds_toArray, List.set_cons_succ, List.set_cons_zero]
        have hK_3 := hK_2.grown gg3 (by simp)
        have hT_3 := hT.grown gg3 (by simp)
        refine wpAnyH_takeD (some 22) (i := 4) (v := .tuple #[.slice x 32 y, .int .i64 0]) rfl rfl (by kernel_rfl) (by kernel_rfl) (by kernel_rfl) (fun _ _ _ h => h) (Or.inl ⟨rfl, fun _ _ => rfl⟩) hS3 ?_
        simp only [Act.put, List.setIfInBounds_toArray, List.set_cons_succ, List.set_cons_zero]
        refine wpAnyH_takeD (some 27) (i := 5) (v := .slice x 32 y) rfl rfl (by kernel_rfl) (by kernel_rfl) (by kernel_rfl) (fun _ _ _ h => h) (Or.inl ⟨rfl, fun _ _ => by go_simp⟩) hS3 ?_
        simp only [Act.put, List.setIfInBounds_toArray, List.set_cons_succ, List.set_cons_zero]
        refine wpAnyH_takeD (some 28) (i := 6) (v := .int .i64 0) rfl rfl (by kernel_rfl) (by kernel_rfl) (by kernel_rfl) (fun _ _ _ h => h) (Or.inl ⟨rfl, fun _ _ => by go_simp⟩) hS3 ?_
        simp only [Act.put, List.setIfInBounds_toArray, List.set_cons_succ, List.set_cons_zero]
        refine wpAnyH_takeD (some 4) (i := 7) (v := .slice x 32 y) rfl rfl (by kernel_rfl) (by kernel_rfl) (by kernel_rfl) (fun _ _ _ h => h) (Or.inl ⟨rfl, fun _ _ => rfl⟩) hS3 ?_
        simp only [Act.put, List.setIfInBounds_toArray, List.set_cons_succ, List.set_cons_zero]
        refine wpAnyH_takeD (some 5) (i := 8) (v := .int .i64 0) rfl rfl (by kernel_rfl) (by kernel_rfl) (by kernel_rfl) (fun _ _ _ h => h) (Or.inl ⟨rfl, fun _ _ => rfl⟩) hS3 ?_
        simp only [Act.put, List.setIfInBounds_toArray, List.set_cons_succ, List.set_cons_zero]
        refine wpAnyH_done (by kernel_rfl) ?_ _
        go_wp2_with fail
        go_meet
        case rel => exact ⟨_, _, rfl, rfl, hxc, hS3, hx⟩
      · refine (op_make (some 25) 16 ⟨by decide, by decide⟩ rfl rfl rfl rfl hS0 ?_)
        intro V1 gg1 hS1 hT
        have hS_T := hS0.size
        simp only [Act.put, List.setIfInBounds_toArray, List.set_cons_succ, List.set_cons_zero]
        refine wpAnyH_one (i := 0) (by kernel_rfl) (op_make (some 23) 32 ⟨by decide, by decide⟩ rfl rfl rfl rfl hS1 ?_)
        intro V2 gg2 hS2 hK
        have hS_K := hS1.size
        simp only [Act.put, List.setIfInBounds_toArray, List.set_cons_succ, List.set_cons_zero]
        have hT_2 := hT.grown gg2 (by simp)
        refine wpAnyH_one (i := 3) (by kernel_rfl) (op_callR (R := fun v w' => GaveB V2 32 (lst bbL) v w' ∧ V2.grownBy w' none) (some 26) 7 #[.slice (some ⟨V1.heap.size, 0, none⟩) 32 32, .agg (cellsOf .u8 12 zF), .slice none 0 0, .slice (some ⟨V0.heap.size, 0, none⟩) 16 16] rfl rfl rfl (exec_fn4 _ _ _ _ _ _ _ _ _ rfl rfl rfl rfl rfl) gseal_enters (HSB.out V2 _ _ (grown_trans gv hS2) hK hT_2) ?_)
        rintro vv3 V3 ⟨⟨⟨x, y, rfl, hxc, hx⟩⟩, gg3⟩
        have hS3 := grown_trans hS2 (grown_some gg3)
        refine ⟨hS3, ?_⟩
        simp only [Act.put, List.setIfInBounds_toArray, List.set_cons_succ, List.set_cons_zero]
        have hT_3 := hT_2.grown gg3 (by simp)
        have hK_3 := hK.grown gg3 (by simp)
        refine wpAnyH_takeD (some 22) (i := 4) (v := .tuple #[.slice x 32 y, .int .i64 0]) rfl rfl (by kernel_rfl) (by kernel_rfl) (by kernel_rfl) (fun _ _ _ h => h) (Or.inl ⟨rfl, fun _ _ => rfl⟩) hS3 ?_
        simp only [Act.put, List.setIfInBounds_toArray, List.set_cons_succ, List.set_cons_zero]
        refine wpAnyH_takeD (some 27) (i := 5) (v := .slice x 32 y) rfl rfl (by kernel_rfl) (by kernel_rfl) (by kernel_rfl) (fun _ _ _ h => h) (Or.inl ⟨rfl, fun _ _ => by go_simp⟩) hS3 ?_
        simp only [Act.put, List.setIfInBounds_toArray, List.set_cons_succ, List.set_cons_zero]
        refine wpAnyH_takeD (some 28) (i := 6) (v := .int .i64 0) rfl rfl (by kernel_rfl) (by kernel_rfl) (by kernel_rfl) (fun _ _ _ h => h) (Or.inl ⟨rfl, fun _ _ => by go_simp⟩) hS3 ?_
        simp only [Act.put, List.setIfInBounds_toArray, List.set_cons_succ, List.set_cons_zero]
        refine wpAnyH_takeD (some 4) (i := 7) (v := .slice x 32 y) rfl rfl (by kernel_rfl) (by kernel_rfl) (by kernel_rfl) (fun _ _ _ h => h) (Or.inl ⟨rfl, fun _ _ => rfl⟩) hS3 ?_
        simp only [Act.put, List.setIfInBounds_toArray, List.set_cons_succ, List.set_cons_zero]
        refine wpAnyH_takeD (some 5) (i := 8) (v := .int .i64 0) rfl rfl (by kernel_rfl) (by kernel_rfl) (by kernel_rfl) (fun _ _ _ h => h) (Or.inl ⟨rfl, fun _ _ => rfl⟩) hS3 ?_
        simp only [Act.put, List.setIfInBounds_toArray, List.set_cons_succ, List.set_cons_zero]
        refine wpAnyH_done (by kernel_rfl) ?_ _
        go_wp2_with fail
        go_meet
        case rel => exact ⟨_, _, rfl, rfl, hxc, hS3, hx⟩
    case rest =>
      obtain ⟨aB, cB, rfl, rfl, hcB, g2, hRB⟩ := hcut
      have g02 := grown_trans gv g2
      have hB2 := hBv.grown g2 (by simp)
      have hRA2 := hRAv.up (Nat.le_refl _) g2
      clear HV0 gv hBv hRAv g2
      go_upto_region 4 with fail
      obtain ⟨V0, hV0⟩ : ∃ V0, V0 = wc.drew := ⟨_, rfl⟩
      have hv0 : wc.grownBy V0 none := by rw [hV0]; exact grown_drew (grown_refl wc none)
      have HV0 := Lib.hid hV0.symm
      have gv := grown_trans g02 hv0
      have hBv := hB2.grown hv0 (by simp)
      have hRAv := hRA2.up (Nat.le_refl _) hv0
      have hRBv := hRB.up (Nat.le_refl _) hv0
      clear hV0 hv0 hB2 g02 hRA2 hRB
      go_cut [6, 7] (fun s6 s7 wx => s6 = .slice none 0 0 ∧ s7 = .int .i64 2 ∧ V0.grownBy wx none)
      case first =>
        refine wp_region_held (S := fun W => V0.grownBy W (none)) (by kernel_rfl) ?_
        change wpAnyH _ _ _ _ _ 8 #[false, false, false, false, false, false, false, false] _ (World.drew _)
        rw [HV0.out]
        have hS0 : V0.grownBy V0 (none) := grown_refl V0 _
        refine wpAnyH_takeD (some 31) (i := 1) (v := .agg (cellsOf .u8 12 zF)) rfl rfl (by kernel_rfl) (by kernel_rfl) (by kernel_rfl) (fun _ _ _ h => h) (Or.inl ⟨rfl, fun W hW => run_twelve (hBv.grown hW (by simp)) rfl rfl⟩) hS0 ?_
        simp only [Act.put, List.setIfInBounds_toArray, List.set_cons_succ, List.set_cons_zero]
        refine wpAnyH_one (i := 0) (by kernel_rfl) (op_make (some 30) 24 ⟨by decide, by decide⟩ rfl rfl rfl rfl hS0 ?_)
        intro V1 gg1 hS1 hK
        have hS_K := hS0.size
        simp only [Act.put, List.setIfInBounds_toArray, List.set_cons_succ, List.set_cons_zero]
        refine wpAnyH_one (i := 2) (by kernel_rfl) (op_call (some 32) 7 #[.slice (some ⟨V0.heap.size, 0, none⟩) 24 24, .agg (cellsOf .u8 12 zF), .slice none 0 0, .slice none 0 0] (.tuple #[.slice none 0 0, .int .i64 2]) rfl rfl rfl (exec_fn4 _ _ _ _ _ _ _ _ _ rfl rfl rfl rfl rfl) gseal_enters (HSC.out V1 _) hS1 ?_)
        intro V2 gg2 hS2
        simp only [Act.put, List.setIfInBounds_toArray, List.set_cons_succ, List.set_cons_zero]
        have hK_2 := hK.grown gg2 (by simp)
        refine wpAnyH_takeD (some 29) (i := 3) (v := .tuple #[.slice none 0 0, .int .i64 2]) rfl rfl (by kernel_rfl) (by kernel_rfl) (by kernel_rfl) (fun _ _ _ h => h) (Or.inl ⟨rfl, fun _ _ => rfl⟩) hS2 ?_
        simp only [Act.put, List.setIfInBounds_toArray, List.set_cons_succ, List.set_cons_zero]
        refine wpAnyH_takeD (some 33) (i := 4) (v := .slice none 0 0) rfl rfl (by kernel_rfl) (by kernel_rfl) (by kernel_rfl) (fun _ _ _ h => h) (Or.inl ⟨rfl, fun _ _ => by go_simp⟩) hS2 ?_
        simp only [Act.put, List.setIfInBounds_toArray, List.set_cons_succ, List.set_cons_zero]
        refine wpAnyH_takeD (some 34) (i := 5) (v := .int .i64 2) rfl rfl (by kernel_rfl) (by kernel_rfl) (by kernel_rfl) (fun _ _ _ h => h) (Or.inl ⟨rfl, fun _ _ => by go_simp⟩) hS2 ?_
        simp only [Act.put, List.setIfInBounds_toArray, List.set_cons_succ, List.set_cons_zero]
        refine wpAnyH_takeD (some 6) (i := 6) (v := .slice none 0 0) rfl rfl (by kernel_rfl) (by kernel_rfl) (by kernel_rfl) (fun _ _ _ h => h) (Or.inl ⟨rfl, fun _ _ => rfl⟩) hS2 ?_
        simp only [Act.put, List.setIfInBounds_toArray, List.set_cons_succ, List.set_cons_zero]
        refine wpAnyH_takeD (some 7) (i := 7) (v := .int .i64 2) rfl rfl (by kernel_rfl) (by kernel_rfl) (by kernel_rfl) (fun _ _ _ h => h) (Or.inl ⟨rfl, fun _ _ => rfl⟩) hS2 ?_
        simp only [Act.put, List.setIfInBounds_toArray, List.set_cons_succ, List.set_cons_zero]
        refine wpAnyH_done (by kernel_rfl) ?_ _
        go_wp2_with fail
        go_meet
        case rel => exact ⟨rfl, rfl, hS2⟩
      case rest =>
        obtain ⟨rfl, rfl, g2⟩ := hcut
        have g02 := grown_trans gv g2
        have hB2 := hBv.grown g2 (by simp)
        have hRA2 := hRAv.up (Nat.le_refl _) g2
        have hRB2 := hRBv.up (Nat.le_refl _) g2
        have hcvA : (convert 22 9 (.slice aA 16 cA)).run Tryd.prog wc = .ok (.string ⟨#[88, 226, 252, 206, 250, 126, 48, 97, 54, 127, 29, 87, 164, 231, 69, 90]⟩) wc := by
          rw [← HsA.out]; exact run_string cA hRA2 tgA_lt
        have hcvB : (convert 22 9 (.slice aB 32 cB)).run Tryd.prog wc = .ok (.string ⟨#[206, 167, 64, 61, 77, 96, 107, 110, 7, 78, 197, 211, 186, 243, 157, 24, 208, 209, 200, 167, 153, 153, 107, 240, 38, 91, 152, 181, 212, 138, 185, 25]⟩) wc := by
          rw [← HsB.out]; exact run_string cB hRB2 bb_lt
        clear HV0 gv hBv hRAv hRBv g2 hRA2
        go_upto_region 7 with fail
        clear hcvA hcvB
        obtain ⟨V0, hV0⟩ : ∃ V0, V0 = wc.drew := ⟨_, rfl⟩
        have hv0 : wc.grownBy V0 none := by rw [hV0]; exact grown_drew (grown_refl wc none)
        have HV0 := Lib.hid hV0.symm
        have gv := grown_trans g02 hv0
        have hBv := hB2.grown hv0 (by simp)
        have hRBv := hRB2.up (Nat.le_refl _) hv0
        clear hV0 hv0 hB2 g02 hRB2
        go_cut [8, 9] (fun s8 s9 wx => ∃ a c, s8 = .slice a 16 c ∧ s9 = .int .i64 0 ∧ V0.grownBy wx none ∧ Rd wx wx.heap.size a 16 zF)
        case first =>
          refine wp_region_held (S := fun W => V0.grownBy W (none)) (by kernel_rfl) ?_
          change wpAnyH _ _ _ _ _ 9 #[false, false, false, false, false, false, false, false, false] _ (World.drew _)
          rw [HV0.out]
          have hS0 : V0.grownBy V0 (none) := grown_refl V0 _
          refine wpAnyH_takeD (some 57) (i := 1) (v := .agg (cellsOf .u8 12 zF)) rfl rfl (by kernel_rfl) (by kernel_rfl) (by kernel_rfl) (fun _ _ _ h => h) (Or.inl ⟨rfl, fun W hW => run_twelve (hBv.grown hW (by simp)) rfl rfl⟩) hS0 ?_
          simp only [Act.put, List.setIfInBounds_toArray, List.set_cons_succ, List.set_cons_zero]
          refine wpAnyH_takeD (some 58) (i := 2) (v := .slice aB 32 cB) rfl rfl (by kernel_rfl) (by kernel_rfl) (by kernel_rfl) (fun _ _ _ h => h) (Or.inl ⟨rfl, fun _ _ => rfl⟩) hS0 ?_
          simp only [Act.put, List.setIfInBounds_toArray, List.set_cons_succ, List.set_cons_zero]
          refine wpAnyH_one (i := 0) (by kernel_rfl) (op_make (some 56) 32 ⟨by decide, by decide⟩ rfl rfl rfl rfl hS0 ?_)
          intro V1 gg1 hS1 hK
          have hS_K := hS0.size
          simp only [Act.put, List.setIfInBounds_toArray, List.set_cons_succ, List.set_cons_zero]
          refine wpAnyH_one (i := 3) (by kernel_rfl) (op_callR (R := fun v w' => GaveB V1 16 (zF) v w' ∧ V1.grownBy w' none) (some 59) 8 #[.slice (some ⟨V0.heap.size, 0, none⟩) 32 32, .agg (cellsOf .u8 12 zF), .slice none 0 0, .slice aB 32 cB] rfl rfl rfl (exec_fn4 _ _ _ _ _ _ _ _ _ rfl rfl rfl rfl rfl) gopen_enters (HOA.out V1 _ _ _ (grown_trans gv hS1) hK (hRBv.up (Nat.le_refl _) hS1) hcB) ?_)
          rintro vv2 V2 ⟨⟨⟨x, y, rfl, hxc, hx⟩⟩, gg2⟩
          have hS2 := grown_trans hS1 (grown_some gg2)
          refine ⟨hS2, ?_⟩
          simp only [Act.put, List.setIfInBounds_toArray, List.set_cons_succ, List.set_cons_zero]
          have hK_2 := hK.grown gg2 (by simp)
          refine wpAnyH_takeD (some 55) (i := 4) (v := .tuple #[.slice x 16 y, .int .i64 0]) rfl rfl (by kernel_rfl) (by kernel_rfl) (by kernel_rfl) (fun _ _ _ h => h) (Or.inl ⟨rfl, fun _ _ => rfl⟩) hS2 ?_
          simp only [Act.put, List.setIfInBounds_toArray, List.set_cons_succ, List.set_cons_zero]
          refine wpAnyH_takeD (some 60) (i := 5) (v := .slice x 16 y) rfl rfl (by kernel_rfl) (by kernel_rfl) (by kernel_rfl) (fun _ _ _ h => h) (Or.inl ⟨rfl, fun _ _ => by go_simp⟩) hS2 ?_
          simp only [Act.put, List.setIfInBounds_toArray, List.set_cons_succ, List.set_cons_zero]
          refine wpAnyH_takeD (some 61) (i := 6) (v := .int .i64 0) rfl rfl (by kernel_rfl) (by kernel_rfl) (by kernel_rfl) (fun _ _ _ h => h) (Or.inl ⟨rfl, fun _ _ => by go_simp⟩) hS2 ?_
          simp only [Act.put, List.setIfInBounds_toArray, List.set_cons_succ, List.set_cons_zero]
          refine wpAnyH_takeD (some 8) (i := 7) (v := .slice x 16 y) rfl rfl (by kernel_rfl) (by kernel_rfl) (by kernel_rfl) (fun _ _ _ h => h) (Or.inl ⟨rfl, fun _ _ => rfl⟩) hS2 ?_
          simp only [Act.put, List.setIfInBounds_toArray, List.set_cons_succ, List.set_cons_zero]
          refine wpAnyH_takeD (some 9) (i := 8) (v := .int .i64 0) rfl rfl (by kernel_rfl) (by kernel_rfl) (by kernel_rfl) (fun _ _ _ h => h) (Or.inl ⟨rfl, fun _ _ => rfl⟩) hS2 ?_
          simp only [Act.put, List.setIfInBounds_toArray, List.set_cons_succ, List.set_cons_zero]
          refine wpAnyH_done (by kernel_rfl) ?_ _
          go_wp2_with fail
          go_meet
          case rel => exact ⟨_, _, rfl, rfl, hS2, hx⟩
        case rest =>
          obtain ⟨aC, cC, rfl, rfl, g2, hRC⟩ := hcut
          have g02 := grown_trans gv g2
          have hB2 := hBv.grown g2 (by simp)
          have hRB2 := hRBv.up (Nat.le_refl _) g2
          clear HV0 gv hBv hRBv g2
          go_upto_region 8 with fail
          obtain ⟨V0, hV0⟩ : ∃ V0, V0 = wc.drew := ⟨_, rfl⟩
          have hv0 : wc.grownBy V0 none := by rw [hV0]; exact grown_drew (grown_refl wc none)
          have HV0 := Lib.hid hV0.symm
          have gv := grown_trans g02 hv0
          have hBv := hB2.grown hv0 (by simp)
          have hRBv := hRB2.up (Nat.le_refl _) hv0
          have hRCv := hRC.up (Nat.le_refl _) hv0
          obtain ⟨tb, tp, rfl, aD, hrest, hRd2⟩ := rest_of (len := 32) (cap := cB) (l := 1) hRBv (by decide) hcB
          have Hrest := Lib.hid hrest
          have HRd2 := Lib.hid hRd2
          clear hV0 hv0 hB2 g02 hRB2 hRC hrest hRd2
          go_cut [10, 11] (fun s10 s11 wx => s10 = .slice none 0 0 ∧ s11 = .int .i64 140 ∧ V0.grownBy wx none)
          case first =>
            refine wp_region_held (S := fun W => V0.grownBy W (none)) (by kernel_rfl) ?_
            change wpAnyH _ _ _ _ _ 10 #[false, false, false, false, false, false, false, false, false, false] _ (World.drew _)
            rw [HV0.out]
            have hS0 : V0.grownBy V0 (none) := grown_refl V0 _
            refine wpAnyH_takeD (some 64) (i := 1) (v := .agg (cellsOf .u8 12 zF)) rfl rfl (by kernel_rfl) (by kernel_rfl) (by kernel_rfl) (fun _ _ _ h => h) (Or.inl ⟨rfl, fun W hW => run_twelve (hBv.grown hW (by simp)) rfl rfl⟩) hS0 ?_
            simp only [Act.put, List.setIfInBounds_toArray, List.set_cons_succ, List.set_cons_zero]
            refine wpAnyH_takeD (some 65) (i := 2) (v := .slice (some ⟨tb, tp, none⟩) 32 cB) rfl rfl (by kernel_rfl) (by kernel_rfl) (by kernel_rfl) (fun _ _ _ h => h) (Or.inl ⟨rfl, fun _ _ => rfl⟩) hS0 ?_
            simp only [Act.put, List.setIfInBounds_toArray, List.set_cons_succ, List.set_cons_zero]
            refine wpAnyH_takeD (some 66) (i := 3) (v := .slice aD 31 (cB - 1)) rfl rfl (by kernel_rfl) (by kernel_rfl) (by kernel_rfl) (fun _ _ _ h => h) (Or.inl ⟨rfl, fun W hW => ex_restC 65 rfl rfl Hrest.out⟩) hS0 ?_
            simp only [Act.put, List.setIfInBounds_toArray, List.set_cons_succ, List.set_cons_zero]
            refine wpAnyH_one (i := 0) (by kernel_rfl) (op_make (some 63) 32 ⟨by decide, by decide⟩ rfl rfl rfl rfl hS0 ?_)
            intro V1 gg1 hS1 hK
            have hS_K := hS0.size
            simp only [Act.put, List.setIfInBounds_toArray, List.set_cons_succ, List.set_cons_zero]
            refine wpAnyH_one (i := 4) (by kernel_rfl) (op_call (some 67) 8 #[.slice (some ⟨V0.heap.size, 0, none⟩) 32 32, .agg (cellsOf .u8 12 zF), .slice none 0 0, .slice aD 31 (cB - 1)] (.tuple #[.slice none 0 0, .int .i64 140]) rfl rfl rfl (exec_fn4 _ _ _ _ _ _ _ _ _ rfl rfl rfl rfl rfl) gopen_enters (HOB.out V1 _ _ _ (grown_trans gv hS1) hK ((HRd2.out _ (hRBv.grown hS1 (fun _ e => by cases e))).mono (hS1).size) (by omega)) hS1 ?_)
            intro V2 gg2 hS2
            simp only [Act.put, List.setIfInBounds_toArray, List.set_cons_succ, List.set_cons_zero]
            have hK_2 := hK.grown gg2 (by simp)
            refine wpAnyH_takeD (some 62) (i := 5) (v := .tuple #[.slice none 0 0, .int .i64 140]) rfl rfl (by kernel_rfl) (by kernel_rfl) (by kernel_rfl) (fun _ _ _ h => h) (Or.inl ⟨rfl, fun _ _ => rfl⟩) hS2 ?_
            simp only [Act.put, List.setIfInBounds_toArray, List.set_cons_succ, List.set_cons_zero]
            refine wpAnyH_takeD (some 68) (i := 6) (v := .slice none 0 0) rfl rfl (by kernel_rfl) (by kernel_rfl) (by kernel_rfl) (fun _ _ _ h => h) (Or.inl ⟨rfl, fun _ _ => by go_simp⟩) hS2 ?_
            simp only [Act.put, List.setIfInBounds_toArray, List.set_cons_succ, List.set_cons_zero]
            refine wpAnyH_takeD (some 69) (i := 7) (v := .int .i64 140) rfl rfl (by kernel_rfl) (by kernel_rfl) (by kernel_rfl) (fun _ _ _ h => h) (Or.inl ⟨rfl, fun _ _ => by go_simp⟩) hS2 ?_
            simp only [Act.put, List.setIfInBounds_toArray, List.set_cons_succ, List.set_cons_zero]
            refine wpAnyH_takeD (some 10) (i := 8) (v := .slice none 0 0) rfl rfl (by kernel_rfl) (by kernel_rfl) (by kernel_rfl) (fun _ _ _ h => h) (Or.inl ⟨rfl, fun _ _ => rfl⟩) hS2 ?_
            simp only [Act.put, List.setIfInBounds_toArray, List.set_cons_succ, List.set_cons_zero]
            refine wpAnyH_takeD (some 11) (i := 9) (v := .int .i64 140) rfl rfl (by kernel_rfl) (by kernel_rfl) (by kernel_rfl) (fun _ _ _ h => h) (Or.inl ⟨rfl, fun _ _ => rfl⟩) hS2 ?_
            simp only [Act.put, List.setIfInBounds_toArray, List.set_cons_succ, List.set_cons_zero]
            refine wpAnyH_done (by kernel_rfl) ?_ _
            go_wp2_with fail
            go_meet
            case rel => exact ⟨rfl, rfl, hS2⟩
          case rest =>
            obtain ⟨rfl, rfl, g2⟩ := hcut
            have g02 := grown_trans gv g2
            have hB2 := hBv.grown g2 (by simp)
            have hRB2 := hRBv.up (Nat.le_refl _) g2
            have hRC2 := hRCv.up (Nat.le_refl _) g2
            clear HV0 gv hBv hRBv hRCv g2 Hrest HRd2
            go_upto_region 9 with fail
            obtain ⟨V0, hV0⟩ : ∃ V0, V0 = wc.drew := ⟨_, rfl⟩
            have hv0 : wc.grownBy V0 none := by rw [hV0]; exact grown_drew (grown_refl wc none)
            have HV0 := Lib.hid hV0.symm
            have gv := grown_trans g02 hv0
            have hBv := hB2.grown hv0 (by simp)
            have hRBv := hRB2.up (Nat.le_refl _) hv0
            have hRCv := hRC2.up (Nat.le_refl _) hv0
            clear hV0 hv0 hB2 g02 hRB2 hRC2
            go_cut [12, 13] (fun s12 s13 wx => s12 = .slice none 0 0 ∧ s13 = .int .i64 140 ∧ V0.grownBy wx none)
            case first =>
              refine wp_region_held (S := fun W => V0.grownBy W (none)) (by kernel_rfl) ?_
              change wpAnyH _ _ _ _ _ 10 #[false, false, false, false, false, false, false, false, false, false] _ (World.drew _)
              rw [HV0.out]
              have hS0 : V0.grownBy V0 (none) := grown_refl V0 _
              refine wpAnyH_takeD (some 72) (i := 1) (v := .agg (cellsOf .u8 12 zF)) rfl rfl (by kernel_rfl) (by kernel_rfl) (by kernel_rfl) (fun _ _ _ h => h) (Or.inl ⟨rfl, fun W hW => run_twelve (hBv.grown hW (by simp)) rfl rfl⟩) hS0 ?_
              simp only [Act.put, List.setIfInBounds_toArray, List.set_cons_succ, List.set_cons_zero]
              refine wpAnyH_takeD (some 73) (i := 2) (v := .slice (some ⟨tb, tp, none⟩) 32 cB) rfl rfl (by kernel_rfl) (by kernel_rfl) (by kernel_rfl) (fun _ _ _ h => h) (Or.inl ⟨rfl, fun _ _ => rfl⟩) hS0 ?_
              simp only [Act.put, List.setIfInBounds_toArray, List.set_cons_succ, List.set_cons_zero]
              refine wpAnyH_takeD (some 74) (i := 3) (v := .slice (some ⟨tb, tp, none⟩) 15 cB) rfl rfl (by kernel_rfl) (by kernel_rfl) (by kernel_rfl) (fun _ _ _ h => h) (Or.inl ⟨rfl, fun W hW => ex_headC 73 rfl rfl (by omega)⟩) hS0 ?_
              simp only [Act.put, List.setIfInBounds_toArray, List.set_cons_succ, List.set_cons_zero]
              refine wpAnyH_one (i := 0) (by kernel_rfl) (op_make (some 71) 32 ⟨by decide, by decide⟩ rfl rfl rfl rfl hS0 ?_)
              intro V1 gg1 hS1 hK
              have hS_K := hS0.size
              simp only [Act.put, List.setIfInBounds_toArray, List.set_cons_succ, List.set_cons_zero]
              refine wpAnyH_one (i := 4) (by kernel_rfl) (op_call (some 75) 8 #[.slice (some ⟨V0.heap.size, 0, none⟩) 32 32, .agg (cellsOf .u8 12 zF), .slice none 0 0, .slice (some ⟨tb, tp, none⟩) 15 cB] (.tuple #[.slice none 0 0, .int .i64 140]) rfl rfl rfl (exec_fn4 _ _ _ _ _ _ _ _ _ rfl rfl rfl rfl rfl) gopen_enters (HOC.out V1 _ _ _ (grown_trans gv hS1) hK ((hRBv.up (Nat.le_refl _) hS1).head (by decide)) (by omega)) hS1 ?_)
              intro V2 gg2 hS2
              simp only [Act.put, List.setIfInBounds_toArray, List.set_cons_succ, List.set_cons_zero]
              have hK_2 := hK.grown gg2 (by simp)
              refine wpAnyH_takeD (some 70) (i := 5) (v := .tuple #[.slice none 0 0, .int .i64 140]) rfl rfl (by kernel_rfl) (by kernel_rfl) (by kernel_rfl) (fun _ _ _ h => h) (Or.inl ⟨rfl, fun _ _ => rfl⟩) hS2 ?_
              simp only [Act.put, List.setIfInBounds_toArray, List.set_cons_succ, List.set_cons_zero]
              refine wpAnyH_takeD (some 76) (i := 6) (v := .slice none 0 0) rfl rfl (by kernel_rfl) (by kernel_rfl) (by kernel_rfl) (fun _ _ _ h => h) (Or.inl ⟨rfl, fun _ _ => by go_simp⟩) hS2 ?_
              simp only [Act.put, List.setIfInBounds_toArray, List.set_cons_succ, List.set_cons_zero]
              refine wpAnyH_takeD (some 77) (i := 7) (v := .int .i64 140) rfl rfl (by kernel_rfl) (by kernel_rfl) (by kernel_rfl) (fun _ _ _ h => h) (Or.inl ⟨rfl, fun _ _ => by go_simp⟩) hS2 ?_
              simp only [Act.put, List.setIfInBounds_toArray, List.set_cons_succ, List.set_cons_zero]
              refine wpAnyH_takeD (some 12) (i := 8) (v := .slice none 0 0) rfl rfl (by kernel_rfl) (by kernel_rfl) (by kernel_rfl) (fun _ _ _ h => h) (Or.inl ⟨rfl, fun _ _ => rfl⟩) hS2 ?_
              simp only [Act.put, List.setIfInBounds_toArray, List.set_cons_succ, List.set_cons_zero]
              refine wpAnyH_takeD (some 13) (i := 9) (v := .int .i64 140) rfl rfl (by kernel_rfl) (by kernel_rfl) (by kernel_rfl) (fun _ _ _ h => h) (Or.inl ⟨rfl, fun _ _ => rfl⟩) hS2 ?_
              simp only [Act.put, List.setIfInBounds_toArray, List.set_cons_succ, List.set_cons_zero]
              refine wpAnyH_done (by kernel_rfl) ?_ _
              go_wp2_with fail
              go_meet
              case rel => exact ⟨rfl, rfl, hS2⟩
            case rest =>
              obtain ⟨rfl, rfl, g2⟩ := hcut
              have g02 := grown_trans gv g2
              have hB2 := (hBv.grown g2 (by simp)).block
              have hRC2 := hRCv.up (Nat.le_refl _) g2
              clear HV0 gv hBv hRBv hRCv g2
              go_wp2_with (refine wpList_load_row rfl 23 (.tmp 1) rfl w.heap.size rfl 23 _ (0, 0) (.array 12 5) hB2 (by kernel_rfl) rfl (by rw [cellsOf_size]; kernel_rfl) ?_)
              go_at_call 8
              with_reducible refine (HOD.out _ _ _).mono ?_
              rintro e w9 ⟨rfl, g9⟩
              have g09 := grown_trans g02 g9
              have hRC9 := hRC2.up (Nat.le_refl _) g9
              clear hB2 g9 hRC2 g02
              go_upto_region 11 with fail
              obtain ⟨V0, hV0⟩ : ∃ V0, V0 = w9.drew := ⟨_, rfl⟩
              have hv0 : w9.grownBy V0 none := by rw [hV0]; exact grown_drew (grown_refl w9 none)
              have HV0 := Lib.hid hV0.symm
              have gv := grown_trans g09 hv0
              have hRCv := hRC9.up (Nat.le_refl _) hv0
              clear hV0 hv0 g09 hRC9
              refine wp_region_held (S := fun W => V0.grownBy W (none)) (by kernel_rfl) ?_
              change wpAnyH _ _ _ _ _ 22 #[false, false, false, false, false, false, false, false, false, false, false, false, false, false, false, false, false, false, false, false, false, false] _ (World.drew _)
              rw [HV0.out]
              have hS0 : V0.grownBy V0 (none) := grown_refl V0 _
              refine wpAnyH_takeD (some 84) (i := 0) (v := .slice aC 16 cC) rfl rfl (by kernel_rfl) (by kernel_rfl) (by kernel_rfl) (fun _ _ _ h => h) (Or.inl ⟨rfl, fun _ _ => rfl⟩) hS0 ?_
              simp only [Act.put, List.setIfInBounds_toArray, List.set_cons_succ, List.set_cons_zero]
              refine wpAnyH_takeD (some 85) (i := 1) (v := .string (strOf 16 zF)) rfl rfl (by kernel_rfl) (by kernel_rfl) (by kernel_rfl) (fun _ _ _ h => h) (Or.inl ⟨rfl, fun W hW => run_convS 84 rfl rfl (hRCv.up (Nat.le_refl _) hW) zF_lt⟩) hS0 ?_
              simp only [Act.put, List.setIfInBounds_toArray, List.set_cons_succ, List.set_cons_zero]
              refine wpAnyH_one (i := 2) (by kernel_rfl) (op_make (some 86) 16 ⟨by decide, by decide⟩ rfl rfl rfl rfl hS0 ?_)
              intro V1 gg1 hS1 hK
              have hS_K := hS0.size
              simp only [Act.put, List.setIfInBounds_toArray, List.set_cons_succ, List.set_cons_zero]
              refine wpAnyH_one (i := 3) (by kernel_rfl) (op_yield (some 87) (v := .string (strOf 16 zF)) (w' := V1) rfl rfl rfl (run_convS 86 rfl rfl (FillIs.rd hK) zF_lt) hS1 ?_)
              simp only [Act.put, List.setIfInBounds_toArray, List.set_cons_succ, List.set_cons_zero]
              refine wpAnyH_takeD (some 88) (i := 4) (v := .bool true) rfl rfl (by kernel_rfl) (by kernel_rfl) (by kernel_rfl) (fun _ _ _ h => h) (Or.inl ⟨rfl, fun _ _ => by go_simp⟩) hS1 ?_
              simp only [Act.put, List.setIfInBounds_toArray, List.set_cons_succ, List.set_cons_zero]
              refine wpAnyH_takeD (some 89) (i := 5) (v := .bool true) rfl rfl (by kernel_rfl) (by kernel_rfl) (by kernel_rfl) (fun _ _ _ h => h) (Or.inl ⟨rfl, fun _ _ => rfl⟩) hS1 ?_
              simp only [Act.put, List.setIfInBounds_toArray, List.set_cons_succ, List.set_cons_zero]
              refine wpAnyH_takeD (some 90) (i := 6) (v := .int .i64 0) rfl rfl (by kernel_rfl) (by kernel_rfl) (by kernel_rfl) (fun _ _ _ h => h) (Or.inl ⟨rfl, fun _ _ => rfl⟩) hS1 ?_
              simp only [Act.put, List.setIfInBounds_toArray, List.set_cons_succ, List.set_cons_zero]
              refine wpAnyH_takeD (some 91) (i := 7) (v := .bool true) rfl rfl (by kernel_rfl) (by kernel_rfl) (by kernel_rfl) (fun _ _ _ h => h) (Or.inl ⟨rfl, fun _ _ => by go_simp⟩) hS1 ?_
              simp only [Act.put, List.setIfInBounds_toArray, List.set_cons_succ, List.set_cons_zero]
              refine wpAnyH_takeD (some 92) (i := 8) (v := .bool true) rfl rfl (by kernel_rfl) (by kernel_rfl) (by kernel_rfl) (fun _ _ _ h => h) (Or.inl ⟨rfl, fun _ _ => rfl⟩) hS1 ?_
              simp only [Act.put, List.setIfInBounds_toArray, List.set_cons_succ, List.set_cons_zero]
              refine wpAnyH_takeD (some 93) (i := 9) (v := .bool true) rfl rfl (by kernel_rfl) (by kernel_rfl) (by kernel_rfl) (fun _ _ _ h => h) (Or.inl ⟨rfl, fun _ _ => rfl⟩) hS1 ?_
              simp only [Act.put, List.setIfInBounds_toArray, List.set_cons_succ, List.set_cons_zero]
              refine wpAnyH_takeD (some 94) (i := 10) (v := .int .i64 140) rfl rfl (by kernel_rfl) (by kernel_rfl) (by kernel_rfl) (fun _ _ _ h => h) (Or.inl ⟨rfl, fun _ _ => rfl⟩) hS1 ?_
              simp only [Act.put, List.setIfInBounds_toArray, List.set_cons_succ, List.set_cons_zero]
              refine wpAnyH_takeD (some 95) (i := 11) (v := .bool true) rfl rfl (by kernel_rfl) (by kernel_rfl) (by kernel_rfl) (fun _ _ _ h => h) (Or.inl ⟨rfl, fun _ _ => by go_simp⟩) hS1 ?_
              simp only [Act.put, List.setIfInBounds_toArray, List.set_cons_succ, List.set_cons_zero]
              refine wpAnyH_takeD (some 96) (i := 12) (v := .bool true) rfl rfl (by kernel_rfl) (by kernel_rfl) (by kernel_rfl) (fun _ _ _ h => h) (Or.inl ⟨rfl, fun _ _ => rfl⟩) hS1 ?_
              simp only [Act.put, List.setIfInBounds_toArray, List.set_cons_succ, List.set_cons_zero]
              refine wpAnyH_takeD (some 97) (i := 13) (v := .bool true) rfl rfl (by kernel_rfl) (by kernel_rfl) (by kernel_rfl) (fun _ _ _ h => h) (Or.inl ⟨rfl, fun _ _ => rfl⟩) hS1 ?_
              simp only [Act.put, List.setIfInBounds_toArray, List.set_cons_succ, List.set_cons_zero]
              refine wpAnyH_takeD (some 98) (i := 14) (v := .int .i64 140) rfl rfl (by kernel_rfl) (by kernel_rfl) (by kernel_rfl) (fun _ _ _ h => h) (Or.inl ⟨rfl, fun _ _ => rfl⟩) hS1 ?_
              simp only [Act.put, List.setIfInBounds_toArray, List.set_cons_succ, List.set_cons_zero]
              refine wpAnyH_takeD (some 99) (i := 15) (v := .bool true) rfl rfl (by kernel_rfl) (by kernel_rfl) (by kernel_rfl) (fun _ _ _ h => h) (Or.inl ⟨rfl, fun _ _ => by go_simp⟩) hS1 ?_
              simp only [Act.put, List.setIfInBounds_toArray, List.set_cons_succ, List.set_cons_zero]
              refine wpAnyH_takeD (some 100) (i := 16) (v := .bool true) rfl rfl (by kernel_rfl) (by kernel_rfl) (by kernel_rfl) (fun _ _ _ h => h) (Or.inl ⟨rfl, fun _ _ => rfl⟩) hS1 ?_
              simp only [Act.put, List.setIfInBounds_toArray, List.set_cons_succ, List.set_cons_zero]
              refine wpAnyH_takeD (some 101) (i := 17) (v := .bool true) rfl rfl (by kernel_rfl) (by kernel_rfl) (by kernel_rfl) (fun _ _ _ h => h) (Or.inl ⟨rfl, fun _ _ => rfl⟩) hS1 ?_
              simp only [Act.put, List.setIfInBounds_toArray, List.set_cons_succ, List.set_cons_zero]
              refine wpAnyH_takeD (some 102) (i := 18) (v := .int .i64 2) rfl rfl (by kernel_rfl) (by kernel_rfl) (by kernel_rfl) (fun _ _ _ h => h) (Or.inl ⟨rfl, fun _ _ => rfl⟩) hS1 ?_
              simp only [Act.put, List.setIfInBounds_toArray, List.set_cons_succ, List.set_cons_zero]
              refine wpAnyH_takeD (some 103) (i := 19) (v := .bool true) rfl rfl (by kernel_rfl) (by kernel_rfl) (by kernel_rfl) (fun _ _ _ h => h) (Or.inl ⟨rfl, fun _ _ => by go_simp⟩) hS1 ?_
              simp only [Act.put, List.setIfInBounds_toArray, List.set_cons_succ, List.set_cons_zero]
              refine wpAnyH_takeD (some 104) (i := 20) (v := .bool true) rfl rfl (by kernel_rfl) (by kernel_rfl) (by kernel_rfl) (fun _ _ _ h => h) (Or.inl ⟨rfl, fun _ _ => rfl⟩) hS1 ?_
              simp only [Act.put, List.setIfInBounds_toArray, List.set_cons_succ, List.set_cons_zero]
              refine wpAnyH_takeD (some 0) (i := 21) (v := .bool true) rfl rfl (by kernel_rfl) (by kernel_rfl) (by kernel_rfl) (fun _ _ _ h => h) (Or.inl ⟨rfl, fun _ _ => rfl⟩) hS1 ?_
              simp only [Act.put, List.setIfInBounds_toArray, List.set_cons_succ, List.set_cons_zero]
              refine wpAnyH_done (by kernel_rfl) ?_ _
              go_wp2_with fail
              go_ret
              exact ⟨⟨rfl, grown_trans gv hS1⟩⟩
end Go.Proofs.YtlfopcigbgfnlaaDoor
namespace Go.Proofs.YtlfopcigbgfnlaaDoor
open Go.RowKit

set_option maxRecDepth 100000
set_option maxHeartbeats 1000000

/-- n bytes, noughts behind. -/
def padF (n : Nat) (f : Nat → Nat) (i : Nat) : Nat := if i < n then f i else 0
/-- A slice's length. -/
def lnV : Value → Nat | .slice _ n _ => n | _ => 0
def padN (n : Nat) : Nat := 16 * ((n + 15) / 16)
theorem rpad_any (a : Option Addr) (c n : Nat) (f : Nat → Nat) (w : World) (hR : Rd w w.heap.size a n f) (hn : n ≤ 2 ^ 40) :
    Calls Tryd.prog 40 #[.slice a n c] w fun e w' => ∃ g cap, e = .returned (.slice (some ⟨g, 0, none⟩) (padN n : Nat) cap) ∧ OwnR w' g (padN n) cap (padF n f) ∧ w.heap.size ≤ g ∧ w.grownBy w' none := by
  have hnI : (n : Int) ≤ 1099511627776 := by omega
  have ga := World.grownBy_alloc w (.cells #[] 5) none
  obtain ⟨v, w2, hap, ⟨ex⟩⟩ := app_run c 22 (ownR_empty w) (hR.up (Nat.le_refl _) ga) (by omega)
  obtain ⟨g0, cap0, rfl, ho2, _, g2, hgc⟩ := ex
  rw [Nat.zero_add] at hap ho2
  have ho2' : OwnR w2 g0 n cap0 (padF n f) := ho2.congr (fun i hi => by
    unfold cat padF
    rw [if_neg (by omega), Nat.sub_zero, if_pos hi])
  have hg2 : w.grownBy w2 none := grown_new ga g2 (Nat.le_refl _)
  have hgc0 : w.heap.size ≤ g0 := by have := World.size_alloc w (.cells #[] 5); omega
  obtain ⟨N, hN⟩ : ∃ N, N = padN n := ⟨_, rfl⟩
  rw [← hN]
  have hN2 : N = 16 * ((n + 15) / 16) := hN
  obtain ⟨G, hG⟩ : ∃ G, G = padF n f := ⟨_, rfl⟩
  rw [← hG] at ho2' ⊢
  have hG0 : ∀ i, n ≤ i → G i = 0 := fun i hi => by rw [hG]; exact if_neg (by omega)
  have HG0 := Lib.hid hG0
  have HN := Lib.hid hN2
  have HAP := Lib.hid hap
  clear hap ho2 ga hgc g2 hR hN hN2 hG hG0 hn
  go_enter Tryd.func40, Tryd.ntmps40
  go_wp2_with (at_builtin; refine wpList_append_run rfl (.tmp 4) (.tmp 5) 22 22 rfl (.slice (some ⟨w.heap.size, 0, none⟩) 0 0) (.slice a n c) _ _ rfl rfl HAP.out ?_)
  go_loopw [3] (fun u3 wr => ∃ j g cap : Nat, n ≤ j ∧ j ≤ N ∧ u3 = .slice (some ⟨g, 0, none⟩) j cap ∧ OwnR wr g j cap G ∧ w.heap.size ≤ g ∧ w.grownBy wr none) (fun u3 _ => N - lnV u3)
  case atStart => exact ⟨n, g0, cap0, Nat.le_refl _, by have := HN.out; omega, rfl, ho2', hgc0, hg2⟩
  case round =>
    clear ho2' hgc0 hg2 HAP
    obtain ⟨j, g, cap, hj1, hj2, rfl, ho, hg0, hgr⟩ := hrel
    obtain ⟨r, hr⟩ : ∃ r, r = j % 16 := ⟨_, rfl⟩
    have x1 : (j : Int).tmod 16 = (r : Int) := by rw [Int.tmod_eq_emod_of_nonneg (by omega)]; omega
    have x2 : (j : Int) % 16 = (r : Int) := by omega
    by_cases hlt : j < N
    · have i1 : (0 : Int) < r := by have := HN.out; omega
      have hb := heap_alloc_new wr (.cells #[.int .u8 0] 5)
      have gb := World.grownBy_alloc wr (.cells #[.int .u8 0] 5) none
      have hz := World.size_alloc wr (.cells #[.int .u8 0] 5)
      have hRb : Rd (wr.alloc (.cells #[.int .u8 0] 5)) (wr.heap.size + 1) (some ⟨wr.heap.size, 0, none⟩) 1 (fun _ => 0) := ⟨fun _ => ⟨wr.heap.size, 0, rfl, Nat.lt_succ_self _, fun k hk => by
        obtain rfl : k = 0 := by omega
        rw [cell_of_row _ _ _ _ _ _ hb]; rfl⟩⟩
      obtain ⟨v, w3, hap, ⟨ex⟩⟩ := app_run 1 22 (ho.grown gb (by simp)) hRb (by have := HN.out; omega)
      obtain ⟨g1, cap1, rfl, ho3, _, g3, hg1⟩ := ex
      have ho4 : OwnR w3 g1 (j + 1) cap1 G := ho3.congr (fun i hi => by
        unfold cat
        by_cases e : i < j
        · rw [if_pos e]
        · rw [if_neg e, HG0.out i (by omega)])
      have hg4 : w.grownBy w3 none := grown_new (grown_trans hgr gb) g3 hg0
      have hg14 : w.heap.size ≤ g1 := by have := hgr.size; omega
      have HAP := Lib.hid hap
      have HO4 := Lib.hid ho4
      have HG4 := Lib.hid hg4
      have HX := Lib.hid hz
      clear hr hb gb hz hRb hap ho3 g3 hg1 ho4 hg4 hgr hg0 ho HX
      go_wp2_with (at_builtin; refine wpList_append_run rfl (.tmp 11) (.tmp 12) 22 22 rfl (.slice (some ⟨g, 0, none⟩) j cap) (.slice (some ⟨wr.heap.size, 0, none⟩) 1 1) _ _ rfl rfl HAP.out ?_)
      first
        | exact ⟨⟨j + 1, g1, cap1, by omega, hlt, rfl, HO4.out, hg14, HG4.out⟩, by simp [lnV]; omega⟩
        | (go_roundw
           case rel => first
             | exact ⟨j + 1, g1, cap1, by omega, hlt, rfl, HO4.out, hg14, HG4.out⟩
             | ((repeat apply Exists.intro); exact ⟨⟨j + 1, g1, cap1, by omega, hlt, rfl, HO4.out, hg14, HG4.out⟩, rfl⟩)
           case measure => simp [lnV]; omega)
    · obtain rfl : j = N := by omega
      have i0 : r = 0 := by have := HN.out; omega
      subst i0
      have HO := Lib.hid ho
      have HG := Lib.hid hgr
      clear hr hj1 hj2 hlt ho hgr
      go_wp2_with fail
      go_ret
      exact ⟨g, cap, rfl, HO.out, hg0, HG.out⟩

/-- The place behind n bits' number, d bytes of it laid. -/
def lnB (n j : Nat) : Nat := 8 * n / 256 ^ (7 - j) % 256
theorem lnB_lt (n j : Nat) : lnB n j < 256 := Nat.mod_lt _ (by decide)
def egS (n d j : Nat) : Nat := if 8 ≤ j + d then lnB n j else 0
theorem egS_step (n d v : Nat) (hd : d < 8) (hv : v = 8 * n / 256 ^ d % 256) : upd (egS n d) (7 - d) v = egS n (d + 1) := by
  funext j
  unfold upd egS
  by_cases e : j = 7 - d
  · subst e
    rw [if_pos rfl, if_pos (by omega), hv]
    unfold lnB
    rw [show 7 - (7 - d) = d by omega]
  · rw [if_neg e]
    by_cases e2 : 8 ≤ j + d
    · rw [if_pos e2, if_pos (by omega)]
    · rw [if_neg e2, if_neg (by omega)]
theorem reight_any (a : Option Addr) (c n : Nat) (w : World) (hn : n ≤ 2 ^ 40) :
    Calls Tryd.prog 41 #[.slice a n c] w fun e w' => ∃ r, e = .returned (.slice (some ⟨r, 0, none⟩) 8 8) ∧ Fill w' r 8 (lnB n) ∧ w.heap.size ≤ r ∧ w.grownBy w' none := by
  obtain ⟨c1, hm1, hF1⟩ := make_any 8 (by decide) w
  have hm1' : (Instr.makeSlice 22 (.int .i64 8) (.int .i64 8)).run Tryd.prog w = .ok (.slice (some ⟨w.heap.size, 0, none⟩) 8 8) (w.alloc (.cells c1 5)) := hm1
  have hg1 := World.grownBy_alloc w (.cells c1 5) none
  obtain ⟨x, hx⟩ : ∃ x, x = 8 * n := ⟨_, rfl⟩
  have x0 : 8 * (n : Int) = (x : Int) := by omega
  have x1 : (x : Int) ≤ 8796093022208 := by omega
  have hF2 : Fill (w.alloc (.cells c1 5)) w.heap.size 8 (egS n 0) := hF1.congr (fun j hj => (if_neg (by omega)).symm)
  have HX := Lib.hid hx
  clear hm1 hF1 hx hn
  go_enter Tryd.func41, Tryd.ntmps41
  go_wp2_with fail
  generalize w.alloc (.cells c1 5) = w1 at *
  generalize hrb : w.heap.size = r at *
  clear hm1'
  go_loopw [4, 5] (fun u4 u5 wr => ∃ d y : Nat, d ≤ 8 ∧ u5 = .int .i64 (7 - (d : Int)) ∧ u4 = .int .i64 y ∧ Hid (y = x / 256 ^ d) ∧ (y : Int) ≤ 8796093022208 ∧ w.grownBy wr none ∧ Fill wr r 8 (egS n d)) (fun _ u5 _ => (intOf u5 + 1).toNat)
  case atStart => exact ⟨0, x, by omega, rfl, rfl, Lib.hid (by simp), x1, hg1, hF2⟩
  case round =>
    clear hg1 hF2
    obtain ⟨d, y, hd, rfl, rfl, hy, hyl, hgr, hF⟩ := hrel
    by_cases hlt : d < 8
    · obtain ⟨q, hq⟩ : ∃ q, q = 7 - d := ⟨_, rfl⟩
      have y1 : 7 - (d : Int) = (q : Int) := by omega
      have y2 : (q : Int) < 8 := by omega
      have y3 : (7 - ((d + 1 : Nat) : Int)) = (q : Int) - 1 := by omega
      rw [y1]
      have z1 : (y : Int).tmod 256 = ((y % 256 : Nat) : Int) := by rw [Int.tmod_eq_emod_of_nonneg (by omega)]; omega
      have z2 : (y : Int) % 256 = ((y % 256 : Nat) : Int) := by omega
      have z3 : (y : Int).tdiv 256 = ((y / 256 : Nat) : Int) := by rw [Int.tdiv_eq_ediv_of_nonneg (by omega)]; omega
      have z4 : (y : Int) / 256 = ((y / 256 : Nat) : Int) := by omega
      have z5 : ((y / 256 : Nat) : Int) ≤ 8796093022208 := by omega
      have z6 : ((y % 256 : Nat) : Int) < 256 := by omega
      have hst := egS_step n d (y % 256) hlt (by rw [hy.out, HX.out])
      rw [← hq] at hst
      have hny : y / 256 = x / 256 ^ (d + 1) := by rw [hy.out, Nat.div_div_eq_div_mul, Nat.pow_succ]
      have f0 := hF.free q
      have c0 := hF.cell q (by omega)
      have hF5 := hF.set q (y % 256) (by omega)
      rw [hst] at hF5
      have hg5 := grown_setCell_new hgr ⟨r, q, none⟩ (.int .u8 (y % 256 : Nat)) (Or.inl (by show w.heap.size ≤ r; omega))
      generalize y % 256 = b at *
      generalize y / 256 = y' at *
      have HF5 := Lib.hid hF5
      have HG5 := Lib.hid hg5
      have HNy := Lib.hid hny
      have HY3 := Lib.hid y3
      have Hq := Lib.hid hq
      clear hst hny hF5 hg5 hgr hF hy y1 y3 hq
      go_wp2_with fail
      refine ⟨⟨d + 1, y', hlt, by rw [HY3.out], rfl, HNy, z5, HG5.out, HF5.out⟩, ?_⟩
      simp only [intOf]
      omega
    · obtain rfl : d = 8 := by omega
      have hfin : Fill wr r 8 (lnB n) := hF.congr (fun j hj => if_pos (by omega))
      have HF := Lib.hid hfin
      have HG := Lib.hid hgr
      clear hF hgr hfin hlt hd hy
      go_wp2_with fail
      go_ret
      exact ⟨r, rfl, HF.out, by omega, HG.out⟩
end Go.Proofs.YtlfopcigbgfnlaaDoor
namespace Go.Proofs.YtlfopcigbgfnlaaDoor

def fourF (k i : Nat) : Nat := if i = 3 then k else 0
theorem fourF_lt (k i : Nat) (hk : k < 256) : fourF k i < 256 := by
  unfold fourF
  split
  · exact hk
  · decide
theorem cat_first (nf : Nat → Nat) (i : Nat) (hi : i < 16) : cat 12 nf (fourF 1) i = firstF nf i := by
  unfold cat firstF fourF
  by_cases e : i < 12
  · rw [if_pos e, if_pos e]
  · rw [if_neg e, if_neg e]
    by_cases e2 : i = 15
    · rw [if_pos (by omega), if_pos e2]
    · rw [if_neg (by omega), if_neg e2]
theorem ctrN_first (nf : Nat → Nat) : ctrN (firstF nf) = 1 := by
  unfold ctrN firstF
  simp
theorem cat_second (nf : Nat → Nat) (i : Nat) (hi : i < 16) : cat 12 nf (fourF 2) i = nextF (firstF nf) i := by
  unfold cat nextF fourF
  rw [ctrN_first]
  by_cases e : i < 12
  · rw [if_pos e, if_pos e]
    unfold firstF
    rw [if_pos e]
  · rw [if_neg e, if_neg e]
    obtain rfl | rfl | rfl | rfl : i = 12 ∨ i = 13 ∨ i = 14 ∨ i = 15 := by omega
    all_goals simp
/-- All that is hashed. -/
def allF (na nt : Nat) (fa ft : Nat → Nat) : Nat → Nat := cat (padN na + padN nt + 8) (cat (padN na + padN nt) (cat (padN na) (padF na fa) (padF nt ft)) (lnB na)) (lnB nt)
def allN (na nt : Nat) : Nat := padN na + padN nt + 8 + 8
theorem padF_lt (n : Nat) (f : Nat → Nat) (hf : ∀ i, f i < 256) (i : Nat) : padF n f i < 256 := by
  unfold padF
  split
  · exact hf i
  · decide
theorem cat_lt (n : Nat) (f g : Nat → Nat) (hf : ∀ i, f i < 256) (hg : ∀ i, g i < 256) (i : Nat) : cat n f g i < 256 := by
  unfold cat
  split
  · exact hf i
  · exact hg _
theorem allF_lt (na nt : Nat) (fa ft : Nat → Nat) (ha : ∀ i, fa i < 256) (ht : ∀ i, ft i < 256) : ∀ i, allF na nt fa ft i < 256 :=
  cat_lt _ _ _ (cat_lt _ _ _ (cat_lt _ _ _ (padF_lt _ _ ha) (padF_lt _ _ ht)) (lnB_lt na)) (lnB_lt nt)
theorem hash_all (H fa ft : Nat → Nat) (na nt i : Nat) (hi : i < 16) : hashF H (allF na nt fa ft) (allN na nt) i = un (tagP (pl H) na nt fa ft) i := by
  obtain ⟨A, hA⟩ : ∃ A, A = (na + 15) / 16 := ⟨_, rfl⟩
  obtain ⟨B, hB⟩ : ∃ B, B = (nt + 15) / 16 := ⟨_, rfl⟩
  have hpa : padN na = 16 * A := by rw [hA]; rfl
  have hpb : padN nt = 16 * B := by rw [hB]; rfl
  have hT : allN na nt = 16 * A + 16 * B + 16 := by unfold allN; omega
  have hna : na ≤ 16 * A := by omega
  have hnt : nt ≤ 16 * B := by omega
  rw [← un_hash _ _ _ _ hi]
  unfold tagP fdA
  rw [← hA, ← hB, show (allN na nt + 15) / 16 = A + B + 1 by omega]
  have e1 : fdP (pl H) 0 fa na A = fdP (pl H) 0 (allF na nt fa ft) (allN na nt) (0 + A) := fdP_congr (v := 0) (o := 0) A (fun j hj i hi => by
    have e : allF na nt fa ft (16 * j + i) = padF na fa (16 * j + i) := by
      unfold allF cat
      rw [if_pos (by omega), if_pos (by omega), if_pos (by omega)]
    unfold blkF
    rw [hT, Nat.zero_add, if_pos (c := 16 * j + i < 16 * A + 16 * B + 16) (by omega), e]
    rfl)
  rw [Nat.zero_add] at e1
  have e2 : fdP (pl H) (fdP (pl H) 0 (allF na nt fa ft) (allN na nt) A) ft nt B = fdP (pl H) 0 (allF na nt fa ft) (allN na nt) (A + B) := fdP_congr B (fun j hj i hi => by
    have e : allF na nt fa ft (16 * (A + j) + i) = padF nt ft (16 * j + i) := by
      unfold allF cat
      rw [if_pos (by omega), if_pos (by omega), if_neg (by omega), show 16 * (A + j) + i - padN na = 16 * j + i by omega]
    unfold blkF
    rw [hT, if_pos (c := 16 * (A + j) + i < 16 * A + 16 * B + 16) (by omega), e]
    rfl)
  rw [e1, e2]
  have e3 : pl (blkF (allF na nt fa ft) (allN na nt) (A + B)) = pl (lnF na nt) := pl_congr (fun i hi => by
    unfold blkF allF
    rw [hT, if_pos (by omega)]
    unfold cat lnF
    by_cases e : i < 8
    · rw [if_pos (by omega), if_neg (by omega), if_pos e]
      unfold lnB
      rw [show 16 * (A + B) + i - (padN na + padN nt) = i by omega]
    · rw [if_neg (by omega), if_neg e]
      unfold lnB
      rw [show 7 - (16 * (A + B) + i - (padN na + padN nt + 8)) = 15 - i by omega])
  rw [← e3]
  rfl
/-- The tag, as the document puts it together. -/
theorem tag_turn (R na nt : Nat) (W f fa ft : Nat → Nat) (hW : ∀ i, W i < 256) (hf : ∀ i, f i < 256) (i : Nat) (hi : i < 16) :
    turnF R W f (hashF (sealA R W (fun _ => 0)) (allF na nt fa ft) (allN na nt)) i = tagF R W f fa na ft nt i := by
  unfold turnF tagF
  rw [hash_all _ _ _ _ _ _ hi, un_xor, show i / 16 = 0 by omega, show i % 16 = i by omega]
  show _ ^^^ sealA R W f i = _
  rw [un_pl (sealA R W f) i hi (sealA_lt R W f hW hf i)]
end Go.Proofs.YtlfopcigbgfnlaaDoor
namespace Go.Proofs.YtlfopcigbgfnlaaDoor
open Go.RowKit

/-- n bytes in block b, from its start. -/
structure RdIs (w : World) (b n : Nat) (f : Nat → Nat) : Prop where
  rd_ : Rd w (b + 1) (some ⟨b, 0, none⟩) n f
  lt : b < w.heap.size
theorem RdIs.grown {w w' : World} {b n : Nat} {f : Nat → Nat} (h : RdIs w b n f) {row : Option Nat} (g : w.grownBy w' row) (hr : some b ≠ row) : RdIs w' b n f where
  rd_ := ⟨fun h0 => by
    obtain ⟨tb, o, h1, h2, h3⟩ := h.rd_.ex h0
    cases h1
    exact ⟨b, 0, rfl, h2, fun i hi => g.cell (h3 i hi) hr⟩⟩
  lt := Nat.lt_of_lt_of_le h.lt g.size
theorem RdIs.rd {w : World} {b n : Nat} {f : Nat → Nat} (h : RdIs w b n f) : Rd w w.heap.size (some ⟨b, 0, none⟩) n f := h.rd_.mono h.lt
theorem Fill.rdIs {w : World} {r n : Nat} {f : Nat → Nat} (h : Fill w r n f) (hn : 0 < n) : RdIs w r n f := ⟨⟨fun _ => ⟨r, 0, rfl, Nat.lt_succ_self _, fun i hi => by rw [Nat.zero_add]; exact h.cell i hi⟩⟩, h.lt hn⟩

/-- A key of the reference, in a block. -/
structure KeyAt (w : World) (b : Nat) (K0 K1 : Value) : Prop where
  block : w.heap[b]? = some (.cells #[K0, K1] 32 (0, 0))
theorem KeyAt.grown {w w' : World} {b : Nat} {K0 K1 : Value} (h : KeyAt w b K0 K1) {row : Option Nat} (g : w.grownBy w' row) (hr : some b ≠ row) : KeyAt w' b K0 K1 :=
  ⟨(g.block b (by have := (Array.getElem?_eq_some_iff.1 h.block).1; exact this) hr).trans h.block⟩
theorem KeyAt.lt {w : World} {b : Nat} {K0 K1 : Value} (h : KeyAt w b K0 K1) : b < w.heap.size := (Array.getElem?_eq_some_iff.1 h.block).1
theorem KeyAt.c0 {w : World} {b : Nat} {K0 K1 : Value} (h : KeyAt w b K0 K1) : w.cell? ⟨b, 0, none⟩ = some K0 := by rw [cell_of_row _ _ _ _ _ _ h.block]; rfl
theorem KeyAt.c1 {w : World} {b : Nat} {K0 K1 : Value} (h : KeyAt w b K0 K1) : w.cell? ⟨b, 1, none⟩ = some K1 := by rw [cell_of_row _ _ _ _ _ _ h.block]; rfl
theorem keyAt_alloc (w : World) (K0 K1 : Value) : KeyAt (w.alloc (.cells #[K0, K1] 32)) w.heap.size K0 K1 := ⟨heap_alloc_new w _⟩

theorem under_key : ∃ d, Tryd.prog.underlying 32 = some d ∧ (match d with | .struct _ | .array _ _ => true | _ => false) = true := by
  have h : (Tryd.prog.underlying 32).map (fun d => match d with | .struct _ | .array _ _ => true | _ => false) = some true := by kernel_rfl
  cases hd : Tryd.prog.underlying 32 with
  | none => rw [hd] at h; cases h
  | some d => rw [hd] at h; exact ⟨d, rfl, by simpa using h⟩
section
variable {ops : Array Oper} {Q : Exit → Act → World → Prop} {a : Act} {w : World}
theorem run_key {o : Oper} {W : World} {b : Nat} {K0 K1 : Value} {t : Tmp} (h : KeyAt W b K0 K1) (ho : o.op = .load 32 (.tmp t)) (ha : a.eval (.tmp t) = .pointer (some ⟨b, 0, none⟩)) :
    (execOp a.eval o).run Tryd.prog W = .ok (.value (.agg #[K0, K1])) W := by
  obtain ⟨d, hu, hd⟩ := under_key
  have hl := run_loadVar_row (P := Tryd.prog) W b 32 32 #[K0, K1] (0, 0) d h.block hu (by cases d <;> first | rfl | exact hd) (by kernel_rfl)
  unfold execOp
  simp only [ho, ha, Instr.loadAt, Instr.sureAddr, Sem.run_bind, Sem.run_pure, Result.andThen_ok, hl]
theorem op_empty {i : Nat} {o : Oper} {K : Act → World → Prop} {W0 : World} {row : Option Nat} (d : Option Tmp) (hi : ops[i]? = some o) (hd : o.dst = d) (hw : Region.wanted o (yielded ops a.tmps) = true)
    (ho : o.op = .buildSlice 22 0 #[]) (hS : W0.grownBy w row)
    (h : ∀ w', w.grownBy w' none → W0.grownBy w' row → OwnR w' w.heap.size 0 0 (fun _ => 0) → K (a.put d (.slice (some ⟨w.heap.size, 0, none⟩) 0 0)) w') : wpOp Tryd.prog ops Q i (fun a' w' => W0.grownBy w' row ∧ K a' w') a w := by
  subst hd
  have g := World.grownBy_alloc w (.cells #[] 5) none
  have g2 := grown_trans hS (grown_some g)
  have he : (execOp a.eval o).run Tryd.prog w = .ok (.value (.slice (some ⟨w.heap.size, 0, none⟩) 0 0)) (w.alloc (.cells #[] 5)) := by
    unfold execOp
    simp only [ho]
    go_simp
  exact wpOp_at hi hw (wp_yields he ⟨g2, h _ g g2 (ownR_empty w)⟩)
theorem op_four {i : Nat} {o : Oper} {K : Act → World → Prop} {W0 : World} {row : Option Nat} (d : Option Tmp) (k : Nat) (hi : ops[i]? = some o) (hd : o.dst = d) (hw : Region.wanted o (yielded ops a.tmps) = true)
    (ho : o.op = .buildSlice 22 4 #[(0, .const (.int .u8 0)), (1, .const (.int .u8 0)), (2, .const (.int .u8 0)), (3, .const (.int .u8 (k : Nat)))]) (hS : W0.grownBy w row)
    (h : ∀ w', w.grownBy w' none → W0.grownBy w' row → RdIs w' w.heap.size 4 (fourF k) → K (a.put d (.slice (some ⟨w.heap.size, 0, none⟩) 4 4)) w') : wpOp Tryd.prog ops Q i (fun a' w' => W0.grownBy w' row ∧ K a' w') a w := by
  subst hd
  have g := World.grownBy_alloc w (.cells #[.int .u8 0, .int .u8 0, .int .u8 0, .int .u8 (k : Nat)] 5) none
  have g2 := grown_trans hS (grown_some g)
  have hb := heap_alloc_new w (.cells #[.int .u8 0, .int .u8 0, .int .u8 0, .int .u8 (k : Nat)] 5)
  have he : (execOp a.eval o).run Tryd.prog w = .ok (.value (.slice (some ⟨w.heap.size, 0, none⟩) 4 4)) (w.alloc (.cells #[.int .u8 0, .int .u8 0, .int .u8 0, .int .u8 (k : Nat)] 5)) := by
    unfold execOp
    simp only [ho]
    go_simp
  refine wpOp_at hi hw (wp_yields he ⟨g2, h _ g g2 ⟨⟨fun _ => ⟨w.heap.size, 0, rfl, Nat.lt_succ_self _, fun i hi => ?_⟩⟩, by simp⟩⟩)
  rw [cell_of_row _ _ _ _ _ _ hb, Nat.zero_add]
  obtain rfl | rfl | rfl | rfl : i = 0 ∨ i = 1 ∨ i = 2 ∨ i = 3 := by omega
  all_goals rfl
theorem op_app {i : Nat} {o : Oper} {K : Act → World → Prop} {W0 : World} {B g n cap m c : Nat} {ad : Option Addr} {f f' : Nat → Nat} (d : Option Tmp) (s x : Operand) (hi : ops[i]? = some o) (hd : o.dst = d) (hw : Region.wanted o (yielded ops a.tmps) = true)
    (ho : o.op = .call { callee := .builtin .append, args := #[s, x], argTypes := #[22, 22] }) (hs : a.eval s = .slice (some ⟨g, 0, none⟩) n cap) (hx : a.eval x = .slice ad m c)
    (hO : OwnR w g n cap f) (hR : Rd w B ad m f') (hn : n + m ≤ 2 ^ 46) (hS : W0.grownBy w none) (hb : W0.heap.size ≤ g)
    (h : ∀ w' g' cap', w.grownBy w' (some g) → W0.grownBy w' none → OwnR w' g' (n + m) cap' (cat n f f') → (g' = g ∨ w.heap.size ≤ g') → K (a.put d (.slice (some ⟨g', 0, none⟩) (n + m : Nat) cap')) w') : wpOp Tryd.prog ops Q i (fun a' w' => W0.grownBy w' none ∧ K a' w') a w := by
  subst hd
  obtain ⟨v, w', hap, ⟨ex⟩⟩ := app_run c o.type hO hR hn
  obtain ⟨g', cap', rfl, ho', _, hg, hor⟩ := ex
  have g2 := grown_new hS hg hb
  have he : (execOp a.eval o).run Tryd.prog w = .ok (.value (.slice (some ⟨g', 0, none⟩) (n + m : Nat) cap')) w' := by
    unfold execOp
    simp [ho, resolve, invoke, builtin, hs, hx, hap, Result.andThen]
  exact wpOp_at hi hw (wp_yields he ⟨g2, h _ _ _ hg g2 ho' hor⟩)
end
end Go.Proofs.YtlfopcigbgfnlaaDoor
namespace Go.Proofs.YtlfopcigbgfnlaaDoor

def tmsF : Nat → Nat → Nat → Nat → Nat
  | 0, o, _, _ => o
  | k + 1, o, a, b => tmsF k (o ^^^ a * (b % 2)) (xt a) (b / 2)
/-- Two bytes, multiplied. -/
def tms (a b : Nat) : Nat := tmsF 8 0 a b
theorem tmsF_zero : ∀ k out a, tmsF k out a 0 = out
  | 0, _, _ => rfl
  | k + 1, out, a => by
    show tmsF k (out ^^^ a * (0 % 2)) (xt a) (0 / 2) = out
    rw [show a * (0 % 2) = 0 by simp, Nat.xor_zero]
    exact tmsF_zero k out (xt a)
theorem mul_bit (a b : Nat) (ha : a < 256) : a * (b % 2) < 256 := by
  rcases Nat.mod_two_eq_zero_or_one b with h | h <;> rw [h] <;> omega
theorem tmsF_lt : ∀ k out a b, out < 256 → a < 256 → tmsF k out a b < 256
  | 0, _, _, _, h, _ => h
  | k + 1, _, a, b, h, ha => tmsF_lt k _ _ _ (xor_lt256 h (mul_bit a b ha)) (xt_lt a ha)
theorem tms_lt (a b : Nat) (ha : a < 256) : tms a b < 256 := tmsF_lt 8 0 a b (by decide) ha
theorem tms2 (a : Nat) (h : a < 256) : tms a 2 = xt a := by
  have h0 : (List.range 256).all (fun a => tms a 2 == xt a) = true := by kernel_rfl
  simpa using all_range h0 a h
theorem tms3 (a : Nat) (h : a < 256) : tms a 3 = m3 a := by
  have h0 : (List.range 256).all (fun a => tms a 3 == m3 a) = true := by kernel_rfl
  simpa using all_range h0 a h

/-! What each byte is multiplied by to 1; the powers of 3 and of 246, and of which number each is the power. -/
def invL : List Nat := [0, 1, 141, 246, 203, 82, 123, 209, 232, 79, 41, 192, 176, 225, 229, 199, 116, 180, 170, 75, 153, 43, 96, 95, 88, 63, 253, 204, 255, 64, 238, 178, 58, 110, 90, 241, 85, 77, 168, 201, 193, 10, 152, 21, 48, 68, 162, 194, 44, 69, 146, 108, 243, 57, 102, 66, 242, 53, 32, 111, 119, 187, 89, 25, 29, 254, 55, 103, 45, 49, 245, 105, 167, 100, 171, 19, 84, 37, 233, 9, 237, 92, 5, 202, 76, 36, 135, 191, 24, 62, 34, 240, 81, 236, 97, 23, 22, 94, 175, 211, 73, 166, 54, 67, 244, 71, 145, 223, 51, 147, 33, 59, 121, 183, 151, 133, 16, 181, 186, 60, 182, 112, 208, 6, 161, 250, 129, 130, 131, 126, 127, 128, 150, 115, 190, 86, 155, 158, 149, 217, 247, 2, 185, 164, 222, 106, 50, 109, 216, 138, 132, 114, 42, 20, 159, 136, 249, 220, 137, 154, 251, 124, 46, 195, 143, 184, 101, 72, 38, 200, 18, 74, 206, 231, 210, 98, 12, 224, 31, 239, 17, 117, 120, 113, 165, 142, 118, 61, 189, 188, 134, 87, 11, 40, 47, 163, 218, 212, 228, 15, 169, 39, 83, 4, 27, 252, 172, 230, 122, 7, 174, 99, 197, 219, 226, 234, 148, 139, 196, 213, 157, 248, 144, 107, 177, 13, 214, 235, 198, 14, 207, 173, 8, 78, 215, 227, 93, 80, 30, 179, 91, 35, 56, 52, 104, 70, 3, 140, 221, 156, 125, 160, 205, 26, 65, 28]
def upL : List Nat := [1, 3, 5, 15, 17, 51, 85, 255, 26, 46, 114, 150, 161, 248, 19, 53, 95, 225, 56, 72, 216, 115, 149, 164, 247, 2, 6, 10, 30, 34, 102, 170, 229, 52, 92, 228, 55, 89, 235, 38, 106, 190, 217, 112, 144, 171, 230, 49, 83, 245, 4, 12, 20, 60, 68, 204, 79, 209, 104, 184, 211, 110, 178, 205, 76, 212, 103, 169, 224, 59, 77, 215, 98, 166, 241, 8, 24, 40, 120, 136, 131, 158, 185, 208, 107, 189, 220, 127, 129, 152, 179, 206, 73, 219, 118, 154, 181, 196, 87, 249, 16, 48, 80, 240, 11, 29, 39, 105, 187, 214, 97, 163, 254, 25, 43, 125, 135, 146, 173, 236, 47, 113, 147, 174, 233, 32, 96, 160, 251, 22, 58, 78, 210, 109, 183, 194, 93, 231, 50, 86, 250, 21, 63, 65, 195, 94, 226, 61, 71, 201, 64, 192, 91, 237, 44, 116, 156, 191, 218, 117, 159, 186, 213, 100, 172, 239, 42, 126, 130, 157, 188, 223, 122, 142, 137, 128, 155, 182, 193, 88, 232, 35, 101, 175, 234, 37, 111, 177, 200, 67, 197, 84, 252, 31, 33, 99, 165, 244, 7, 9, 27, 45, 119, 153, 176, 203, 70, 202, 69, 207, 74, 222, 121, 139, 134, 145, 168, 227, 62, 66, 198, 81, 243, 14, 18, 54, 90, 238, 41, 123, 141, 140, 143, 138, 133, 148, 167, 242, 13, 23, 57, 75, 221, 124, 132, 151, 162, 253, 28, 36, 108, 180, 199, 82, 246]
def dnL : List Nat := [1, 246, 82, 199, 180, 108, 36, 28, 253, 162, 151, 132, 124, 221, 75, 57, 23, 13, 242, 167, 148, 133, 138, 143, 140, 141, 123, 41, 238, 90, 54, 18, 14, 243, 81, 198, 66, 62, 227, 168, 145, 134, 139, 121, 222, 74, 207, 69, 202, 70, 203, 176, 153, 119, 45, 27, 9, 7, 244, 165, 99, 33, 31, 252, 84, 197, 67, 200, 177, 111, 37, 234, 175, 101, 35, 232, 88, 193, 182, 155, 128, 137, 142, 122, 223, 188, 157, 130, 126, 42, 239, 172, 100, 213, 186, 159, 117, 218, 191, 156, 116, 44, 237, 91, 192, 64, 201, 71, 61, 226, 94, 195, 65, 63, 21, 250, 86, 50, 231, 93, 194, 183, 109, 210, 78, 58, 22, 251, 160, 96, 32, 233, 174, 147, 113, 47, 236, 173, 146, 135, 125, 43, 25, 254, 163, 97, 214, 187, 105, 39, 29, 11, 240, 80, 48, 16, 249, 87, 196, 181, 154, 118, 219, 73, 206, 179, 152, 129, 127, 220, 189, 107, 208, 185, 158, 131, 136, 120, 40, 24, 8, 241, 166, 98, 215, 77, 59, 224, 169, 103, 212, 76, 205, 178, 110, 211, 184, 104, 209, 79, 204, 68, 60, 20, 12, 4, 245, 83, 49, 230, 171, 144, 112, 217, 190, 106, 38, 235, 89, 55, 228, 92, 52, 229, 170, 102, 34, 30, 10, 6, 2, 247, 164, 149, 115, 216, 72, 56, 225, 95, 53, 19, 248, 161, 150, 114, 46, 26, 255, 85, 51, 17, 15, 5, 3]
def lgL : List Nat := [0, 0, 25, 1, 50, 2, 26, 198, 75, 199, 27, 104, 51, 238, 223, 3, 100, 4, 224, 14, 52, 141, 129, 239, 76, 113, 8, 200, 248, 105, 28, 193, 125, 194, 29, 181, 249, 185, 39, 106, 77, 228, 166, 114, 154, 201, 9, 120, 101, 47, 138, 5, 33, 15, 225, 36, 18, 240, 130, 69, 53, 147, 218, 142, 150, 143, 219, 189, 54, 208, 206, 148, 19, 92, 210, 241, 64, 70, 131, 56, 102, 221, 253, 48, 191, 6, 139, 98, 179, 37, 226, 152, 34, 136, 145, 16, 126, 110, 72, 195, 163, 182, 30, 66, 58, 107, 40, 84, 250, 133, 61, 186, 43, 121, 10, 21, 155, 159, 94, 202, 78, 212, 172, 229, 243, 115, 167, 87, 175, 88, 168, 80, 244, 234, 214, 116, 79, 174, 233, 213, 231, 230, 173, 232, 44, 215, 117, 122, 235, 22, 11, 245, 89, 203, 95, 176, 156, 169, 81, 160, 127, 12, 246, 111, 23, 196, 73, 236, 216, 67, 31, 45, 164, 118, 123, 183, 204, 187, 62, 90, 251, 96, 177, 134, 59, 82, 161, 108, 170, 85, 41, 157, 151, 178, 135, 144, 97, 190, 220, 252, 188, 149, 207, 205, 55, 63, 91, 209, 83, 57, 132, 60, 65, 162, 109, 71, 20, 42, 158, 93, 86, 242, 211, 171, 68, 17, 146, 217, 35, 32, 46, 137, 180, 124, 184, 38, 119, 153, 227, 165, 103, 74, 237, 222, 197, 49, 254, 24, 13, 99, 140, 128, 192, 247, 112, 7]
def inv (b : Nat) : Nat := invL.getD b 0
theorem inv_lt (b : Nat) : inv b < 256 := getD_lt 256 (by decide) invL (fun x hx => by
  have h : invL.all (fun x => decide (x < 256)) = true := by kernel_rfl
  simpa using List.all_eq_true.1 h x hx) b

theorem tms_one (b i : Nat) (hb : b < 256) (hi : i < 256) (h0 : 0 < b) : tms b i = 1 ↔ i = inv b := by
  have h : (List.range 256).all (fun b => (List.range 256).all fun i => b == 0 || ((tms b i == 1) == (i == inv b))) = true := by kernel_rfl
  have := all_range (all_range h b hb) i hi
  simp only [Bool.or_eq_true, beq_iff_eq] at this
  rcases this with h | h
  · omega
  · rw [Bool.eq_iff_iff, beq_iff_eq, beq_iff_eq] at h; exact h
/-- The last number below n that b is multiplied by to 1. -/
def invTo (b : Nat) : Nat → Nat
  | 0 => 0
  | i + 1 => if tms b i = 1 then i else invTo b i
theorem invTo_all (b : Nat) (hb : b < 256) (h0 : 0 < b) : ∀ n, n ≤ 256 → invTo b n = if inv b < n then inv b else 0
  | 0, _ => by simp [invTo]
  | n + 1, hn => by
    have ih := invTo_all b hb h0 n (by omega)
    have h := tms_one b n hb (by omega) h0
    unfold invTo
    by_cases e : tms b n = 1
    · rw [if_pos e, if_pos (by rw [← h.1 e]; omega)]; exact h.1 e
    · rw [if_neg e, ih]
      have hne : inv b ≠ n := fun e' => e (h.2 e'.symm)
      by_cases e2 : inv b < n
      · rw [if_pos e2, if_pos (by omega)]
      · rw [if_neg e2, if_neg (by omega)]
theorem invTo_end (b : Nat) (hb : b < 256) (h0 : 0 < b) : invTo b 256 = inv b := by
  rw [invTo_all b hb h0 256 (Nat.le_refl _), if_pos (inv_lt b)]

/-! S of a byte, of what it is multiplied by to 1. -/
def affN (y i : Nat) : Nat := y / 2 ^ i % 2 + y / 2 ^ ((i + 4) % 8) % 2 + y / 2 ^ ((i + 5) % 8) % 2 + y / 2 ^ ((i + 6) % 8) % 2 + y / 2 ^ ((i + 7) % 8) % 2 + 99 / 2 ^ i % 2
def aff (y : Nat) : Nat → Nat
  | 0 => 0
  | i + 1 => aff y i + affN y i % 2 * 2 ^ i
theorem aff_lt (y : Nat) : ∀ n, aff y n < 2 ^ n
  | 0 => by simp [aff]
  | n + 1 => by
    have := aff_lt y n
    unfold aff
    have h : affN y n % 2 * 2 ^ n ≤ 2 ^ n := by
      rcases Nat.mod_two_eq_zero_or_one (affN y n) with h | h <;> rw [h] <;> omega
    rw [Nat.pow_succ]; omega
theorem aff_inv (b : Nat) (hb : b < 256) : aff (inv b) 8 = sB b := by
  have h : (List.range 256).all (fun b => aff (inv b) 8 == sB b) = true := by kernel_rfl
  simpa using all_range h b hb
theorem inv_zero : inv 0 = 0 := rfl

def upS : Nat → Nat
  | 0 => 1
  | i + 1 => tms (upS i) 3
def dnS : Nat → Nat
  | 0 => 1
  | i + 1 => tms (dnS i) 246
theorem upS_lt : ∀ i, upS i < 256
  | 0 => by decide
  | i + 1 => tms_lt _ _ (upS_lt i)
theorem dnS_lt : ∀ i, dnS i < 256
  | 0 => by decide
  | i + 1 => tms_lt _ _ (dnS_lt i)
theorem upS_eq : ∀ i, i < 255 → upS i = upL.getD i 0
  | 0, _ => rfl
  | i + 1, h => by
    have h0 : (List.range 254).all (fun i => tms (upL.getD i 0) 3 == upL.getD (i + 1) 0) = true := by kernel_rfl
    have := all_range h0 i (by omega)
    show tms (upS i) 3 = _
    rw [upS_eq i (by omega)]
    simpa using this
theorem dnS_eq : ∀ i, i < 255 → dnS i = dnL.getD i 0
  | 0, _ => rfl
  | i + 1, h => by
    have h0 : (List.range 254).all (fun i => tms (dnL.getD i 0) 246 == dnL.getD (i + 1) 0) = true := by kernel_rfl
    have := all_range h0 i (by omega)
    show tms (dnS i) 246 = _
    rw [dnS_eq i (by omega)]
    simpa using this
theorem lg_up (i : Nat) (h : i < 255) : lgL.getD (upS i) 0 = i := by
  have h0 : (List.range 255).all (fun i => lgL.getD (upL.getD i 0) 0 == i) = true := by kernel_rfl
  rw [upS_eq i h]
  simpa using all_range h0 i h
theorem lg_of (x : Nat) (hx : x < 256) (h0 : 0 < x) : lgL.getD x 0 < 255 ∧ upS (lgL.getD x 0) = x ∧ dnS (lgL.getD x 0) = inv x := by
  have h : (List.range 256).all (fun x => x == 0 || (decide (lgL.getD x 0 < 255) && upL.getD (lgL.getD x 0) 0 == x && dnL.getD (lgL.getD x 0) 0 == inv x)) = true := by kernel_rfl
  have := all_range h x hx
  simp only [Bool.or_eq_true, Bool.and_eq_true, beq_iff_eq, decide_eq_true_eq] at this
  rcases this with h | ⟨⟨h1, h2⟩, h3⟩
  · omega
  · exact ⟨h1, by rw [upS_eq _ h1]; exact h2, by rw [dnS_eq _ h1]; exact h3⟩
/-- The table of inverses, as it is filled. -/
def invT : Nat → Nat → Nat
  | 0 => fun _ => 0
  | i + 1 => upd (invT i) (upS i) (dnS i)
theorem invT_up : ∀ n, n ≤ 255 → ∀ j, j < n → invT n (upS j) = dnS j
  | 0, _, _, h => by omega
  | n + 1, hn, j, hj => by
    unfold invT
    by_cases e : j = n
    · subst e; rw [upd_same]
    · rw [upd_other _ _ _ _ (fun h => e (by rw [← lg_up j (by omega), ← lg_up n (by omega), h]))]
      exact invT_up n (by omega) j (by omega)
theorem invT_end (x : Nat) (hx : x < 256) (h0 : 0 < x) : invT 255 x = inv x := by
  obtain ⟨h1, h2, h3⟩ := lg_of x hx h0
  have := invT_up 255 (Nat.le_refl _) _ h1
  rw [h2, h3] at this
  exact this
theorem invT_lt : ∀ n i, invT n i < 256
  | 0, _ => (by decide : (0 : Nat) < 256)
  | n + 1, i => by
    unfold invT upd
    show (if i = upS n then dnS n else invT n i) < 256
    split
    · exact dnS_lt n
    · exact invT_lt n i

end Go.Proofs.YtlfopcigbgfnlaaDoor
namespace Go.Proofs.YtlfopcigbgfnlaaDoor
open Go.RowKit

set_option maxRecDepth 100000
set_option maxHeartbeats 1000000

theorem times_any (A B : Nat) (w : World) (hA : A < 256) (hB : B < 256) : Calls Tryd.prog 37 #[.int .u8 A, .int .u8 B] w fun e w' => e = .returned (.int .u8 (tms A B : Nat)) ∧ w = w' := by
  obtain ⟨T, hT⟩ : ∃ T, T = tms A B := ⟨_, rfl⟩
  have HT := Lib.hid hT
  rw [← hT]
  clear hT
  go_enter Tryd.func37, Tryd.ntmps37
  go_wp2_with fail
  go_loop [0, 1, 5] (fun u0 u1 u5 => ∃ (k o a b : Nat), u0 = .int .u8 a ∧ u1 = .int .u8 b ∧ u5 = .int .u8 o ∧ o < 256 ∧ a < 256 ∧ b < 2 ^ k ∧ b < 256 ∧ Hid (tmsF k o a b = T)) (fun _ u1 _ => (intOf u1).toNat)
  case atStart => exact ⟨8, 0, A, B, rfl, rfl, rfl, by decide, hA, hB, hB, Lib.hid HT.out.symm⟩
  case round =>
    obtain ⟨k, o, a, b, rfl, rfl, rfl, ho, ha, hb, hb8, HE⟩ := hrel
    clear hA hB
    by_cases h0 : b = 0
    · subst h0
      have hE := HE.out
      rw [tmsF_zero] at hE
      subst hE
      clear HE
      go_wp2_with fail
      go_ret
      exact ⟨rfl, rfl⟩
    · obtain ⟨k', rfl⟩ : ∃ k', k = k' + 1 := ⟨k - 1, by
        cases k with
        | zero => simp at hb; omega
        | succ k => rfl⟩
      have i1 : (0 : Int) < b := by omega
      have hb2 : b / 2 < 2 ^ k' := by rw [Nat.pow_succ] at hb; omega
      have hx := xt_lt a ha
      have hE : tmsF k' (o ^^^ a * (b % 2)) (xt a) (b / 2) = T := HE.out
      have hm := xor_lt256 ho (mul_bit a b ha)
      have hbs : b / 2 < b := by omega
      have e1 : IntKind.u8.wrap ((b : Int) / 2) = ((b / 2 : Nat) : Int) := by rw [IntKind.wrap_u8]; omega
      obtain ⟨r, hr⟩ : ∃ r, r = b % 2 := ⟨_, rfl⟩
      have e2 : (b : Int).tmod 2 = (r : Int) := by rw [Int.tmod_eq_emod_of_nonneg (by omega)]; omega
      rw [← hr] at hE hm
      have hr2 : r < 2 := by rw [hr]; exact Nat.mod_lt _ (by decide)
      have HEE := Lib.hid hE
      have Hx := Lib.hid hx
      have Hm := Lib.hid hm
      have Hb2 := Lib.hid hb2
      have HO := Lib.hid (bits_xor_u8 o a ho ha)
      have HA := Lib.hid ha
      clear hE hx hm hb2 hr HE hb
      by_cases h128 : a < 128
      · have j1 : (a : Int) < 128 := by omega
        have e3 : IntKind.u8.wrap (2 * (a : Int)) = ((xt a : Nat) : Int) := by
          rw [IntKind.wrap_u8]
          unfold xt
          rw [show a / 128 = 0 by omega, Nat.zero_mul, Nat.xor_zero]; omega
        generalize xt a = x at *
        obtain rfl | rfl : r = 0 ∨ r = 1 := by omega
        · rw [Nat.mul_zero, Nat.xor_zero] at HEE
          go_wp2_with fail
          exact ⟨⟨k', o, x, b / 2, by go_num, by go_num, rfl, ho, Hx.out, Hb2.out, by omega, HEE⟩, by simp [intOf]; omega⟩
        · rw [Nat.mul_one] at HEE Hm
          have hO := HO.out
          generalize o ^^^ a = y at *
          go_wp2_with fail
          exact ⟨⟨k', y, x, b / 2, by go_num, by go_num, rfl, Hm.out, Hx.out, Hb2.out, by omega, HEE⟩, by simp [intOf]; omega⟩
      · have j1 : (128 : Int) ≤ a := by omega
        obtain ⟨z, hz⟩ : ∃ z, z = 2 * a % 256 := ⟨_, rfl⟩
        have e3 : IntKind.u8.wrap (2 * (a : Int)) = (z : Int) := by rw [IntKind.wrap_u8]; omega
        have e4 : bits .xor .u8 (z : Int) 27 = ((xt a : Nat) : Int) := by
          have := bits_xor_u8 z 27 (by omega) (by decide)
          have e5 : xt a = z ^^^ 27 := by
            unfold xt
            rw [show a / 128 = 1 by omega, Nat.one_mul, hz]
          rw [e5, ← this]; rfl
        have hz2 : z < 256 := by omega
        clear hz
        generalize xt a = x at *
        obtain rfl | rfl : r = 0 ∨ r = 1 := by omega
        · rw [Nat.mul_zero, Nat.xor_zero] at HEE
          go_wp2_with fail
          exact ⟨⟨k', o, x, b / 2, by go_num, by go_num, rfl, ho, Hx.out, Hb2.out, by omega, HEE⟩, by simp [intOf]; omega⟩
        · rw [Nat.mul_one] at HEE Hm
          have hO := HO.out
          generalize o ^^^ a = y at *
          go_wp2_with fail
          exact ⟨⟨k', y, x, b / 2, by go_num, by go_num, rfl, Hm.out, Hx.out, Hb2.out, by omega, HEE⟩, by simp [intOf]; omega⟩

theorem power3_any (n P : Nat) (hn : n < 8) (hP : P = 2 ^ n) (w : World) : Calls Tryd.prog 39 #[.int .i64 n] w fun e w' => e = .returned (.int .u8 P) ∧ w = w' := by
  have HP := Lib.hid hP
  clear hP
  go_enter Tryd.func39, Tryd.ntmps39
  go_wp2_with fail
  go_loop [3, 4] (fun u3 u4 => ∃ (k p : Nat), k ≤ n ∧ u4 = .int .i64 k ∧ u3 = .int .u8 p ∧ Hid (p = 2 ^ k)) (fun _ u4 => n - (intOf u4).toNat)
  case atStart => exact ⟨0, 1, by omega, rfl, rfl, rfl⟩
  case round =>
    obtain ⟨k, p, hk, rfl, rfl, hp⟩ := hrel
    by_cases hlt : k < n
    · have i1 : (k : Int) < n := by omega
      have hb : p ≤ 2 ^ 6 := by rw [hp.out]; exact Nat.pow_le_pow_right (by decide) (by omega)
      have e1 : IntKind.u8.wrap (2 * (p : Int)) = ((2 * p : Nat) : Int) := by rw [IntKind.wrap_u8]; omega
      have HB := Lib.hid hb
      clear hb
      go_wp2_with fail
      refine ⟨⟨k + 1, 2 * p, by omega, by go_num, by go_num, Lib.hid (by rw [hp.out, Nat.pow_succ, Nat.mul_comm])⟩, by simp [intOf]; omega⟩
    · have hE : k = n := by omega
      have i1 : (n : Int) ≤ k := by omega
      have HE := Lib.hid hE
      clear hE hlt hk
      go_wp2_with fail
      go_ret
      have e : p = P := by rw [hp.out, HE.out, HP.out]
      exact ⟨by rw [← e]; rfl, rfl⟩

theorem bit_any (b i v : Nat) (hb : b < 256) (hi : i < 8) (hv : v = b / 2 ^ i % 2) (w : World) : Calls Tryd.prog 38 #[.int .u8 b, .int .i64 i] w fun e w' => e = .returned (.int .i64 v) ∧ w = w' := by
  obtain ⟨P, hP⟩ : ∃ P, P = 2 ^ i := ⟨_, rfl⟩
  have hp := power3_any i P hi hP w
  have HPw := Lib.hid hp
  have hP0 : 0 < P := by rw [hP]; exact Nat.two_pow_pos i
  rw [← hP] at hv
  have hP1 : (P : Int) ≠ 0 := by omega
  have hP2 : ((P : Int) == 0) = false := by rw [beq_eq_false_iff_ne]; exact hP1
  obtain ⟨q, hq⟩ : ∃ q, q = b / P := ⟨_, rfl⟩
  have e1 : (b : Int) / (P : Int) = (q : Int) := by rw [hq]; norm_cast
  have hq2 : q < 256 := by rw [hq]; exact Nat.lt_of_le_of_lt (Nat.div_le_self _ _) hb
  have e2 : (q : Int).tmod 2 = (v : Int) := by rw [hv, ← hq, Int.tmod_eq_emod_of_nonneg (by omega)]; omega
  have hv2 : (v : Int) < 2 := by rw [hv]; omega
  clear hP hp hv hq
  go_enter Tryd.func38, Tryd.ntmps38
  go_wp2_with (go_at_call 39; (with_reducible refine (HPw.out).mono ?_); rintro e w' ⟨rfl, rfl⟩)
  go_ret
  exact ⟨rfl, rfl⟩

end Go.Proofs.YtlfopcigbgfnlaaDoor
namespace Go.Proofs.YtlfopcigbgfnlaaDoor
open Go.RowKit

set_option maxRecDepth 100000
set_option maxHeartbeats 2000000

theorem rseal_any (R rb gw capw ba cb : Nat) (W s : Nat → Nat) (w : World) (hR1 : 1 ≤ R) (hR2 : R ≤ 14) (hB : Rd w w.heap.size (some ⟨rb, 0, none⟩) 256 sB) (hW : Rd w w.heap.size (some ⟨gw, 0, none⟩) (16 * (R + 1)) W)
    (hs : Rd w w.heap.size (some ⟨ba, 0, none⟩) 16 s) (hWl : ∀ i, W i < 256) (hsl : ∀ i, s i < 256) :
    Calls Tryd.prog 42 #[.slice (some ⟨rb, 0, none⟩) 256 256, .slice (some ⟨gw, 0, none⟩) (16 * (R + 1) : Nat) capw, .slice (some ⟨ba, 0, none⟩) 16 cb] w
      fun e w' => ∃ r, e = .returned (.slice (some ⟨r, 0, none⟩) 16 16) ∧ Fill w' r 16 (sealA R W s) ∧ w.heap.size ≤ r ∧ w.grownBy w' none := by
  obtain ⟨c1, hm1, hF1⟩ := make_any 16 (by decide) w
  have hm1' : (Instr.makeSlice 22 (.int .i64 16) (.int .i64 16)).run Tryd.prog w = .ok (.slice (some ⟨w.heap.size, 0, none⟩) 16 16) (w.alloc (.cells c1 5)) := hm1
  have hg1 := World.grownBy_alloc w (.cells c1 5) none
  generalize w.alloc (.cells c1 5) = w1 at *
  obtain ⟨l, hl⟩ : ∃ l, l = 16 * (R + 1) := ⟨_, rfl⟩
  rw [← hl] at hW ⊢
  have q1 : ((l : Int) / 16) = ((R : Int) + 1) := by omega
  have q2 : (R : Int) ≤ 14 := by omega
  have q3 : (1 : Int) ≤ R := by omega
  have q4 : (16 : Int) ≤ l := by omega
  have Hl := Lib.hid hl
  have HB := Lib.hid hB
  have HW := Lib.hid hW
  have HS := Lib.hid hs
  have HWl := Lib.hid hWl
  have HSl := Lib.hid hsl
  clear hm1 hB hW hs hl hWl hsl
  go_enter Tryd.func42, Tryd.ntmps42
  go_wp2_with fail
  clear hm1'
  obtain ⟨r1, hr1⟩ : ∃ r1, r1 = w.heap.size := ⟨_, rfl⟩
  rw [← hr1] at hF1 ⊢
  have hr1w : w.heap.size ≤ r1 := by omega
  clear hr1
  go_loopw [9] (fun u9 wr => ∃ i : Nat, i ≤ 16 ∧ u9 = .int .i64 i ∧ Fill wr r1 16 (fun j => if j < i then stA R W s 0 j else 0) ∧ w.grownBy wr none) (fun u9 _ => 16 - (intOf u9).toNat)
  case atStart => exact ⟨0, by omega, rfl, hF1, hg1⟩
  case round =>
    clear hF1 hg1
    obtain ⟨i, hi, rfl, hF, hg⟩ := hrel
    by_cases hlt : i < 16
    · have j1 : (i : Int) < 16 := by omega
      have j3 : (i : Int) < l := by omega
      have cb := (HS.out.up (Nat.le_refl _) hg).at0 i hlt
      have cw := (HW.out.up (Nat.le_refl _) hg).at0 i (by omega)
      have cf := hF.cell i hlt
      have ff := hF.free i
      have hx := bits_xor_u8 (s i) (W i) (HSl.out i) (HWl.out i)
      have HST : Hid (stA R W s 0 i = s i ^^^ W i) := rfl
      generalize s i = x at *
      generalize W i = y at *
      have cbd : wr.drew.cell? ⟨ba, i, none⟩ = some (.int .u8 (x : Nat)) := cb
      have cwd : wr.drew.cell? ⟨gw, i, none⟩ = some (.int .u8 (y : Nat)) := cw
      have cfd : wr.drew.cell? ⟨r1, i, none⟩ = some (.int .u8 ((if i < i then stA R W s 0 i else 0 : Nat))) := cf
      have ffd : wr.drew.frozen? ⟨r1, i, none⟩ = false := ff
      have hFd := hF.drew
      have hgd := grown_drew hg
      clear cb cw cf ff hF hg
      go_wp2_with fail
      refine wp_region_still_tail 12 (by kernel_rfl) (by kernel_rfl) ?_
      change wpStill _ _ wr.drew (fun a' => wpList _ _ _ _ a' wr.drew) _ _
      generalize wr.drew = w2 at *
      simp only [List.take_succ_cons, List.take_zero, List.drop_succ_cons, List.drop_zero]
      repeat still_step
      refine wpStill_nil ?_
      have HF : Hid (Fill (w2.setCell ⟨r1, i, none⟩ (.int .u8 (x ^^^ y : Nat))) r1 16 (fun j => if j < i + 1 then stA R W s 0 j else 0)) := Lib.hid ((hFd.set i (x ^^^ y) hlt).congr (fun j hj => by
        by_cases e : j = i
        · subst e; rw [upd_same, if_pos (by omega), HST.out]
        · rw [upd_other _ _ _ _ e]
          by_cases e2 : j < i
          · rw [if_pos e2, if_pos (by omega)]
          · rw [if_neg e2, if_neg (by omega)]))
      have HG : Hid (w.grownBy (w2.setCell ⟨r1, i, none⟩ (.int .u8 (x ^^^ y : Nat))) none) := Lib.hid (grown_setCell_new hgd ⟨r1, i, none⟩ (.int .u8 (x ^^^ y : Nat)) (Or.inl hr1w))
      clear hFd hgd
      go_wp2_with fail
      first
        | exact ⟨⟨i + 1, by omega, by go_num, HF.out, HG.out⟩, by simp [intOf]; omega⟩
        | (go_roundw
           case rel => first | exact ⟨i + 1, by omega, by go_num, HF.out, HG.out⟩ | ((repeat apply Exists.intro); exact ⟨⟨i + 1, by omega, by go_num, HF.out, HG.out⟩, rfl⟩)
           case measure => simp [intOf]; omega)
    · obtain rfl : i = 16 := by omega
      have hF0 : Fill wr r1 16 (stA R W s 0) := hF.congr (fun j hj => if_pos hj)
      clear hF hlt hi
      go_wp2_with fail
      go_loopw [10, 11, 12, 13, 14, 15, 16, 17, 18, 19] (fun u10 _ _ _ _ _ _ _ _ _ wq => ∃ n : Nat, n ≤ R ∧ u10 = .int .i64 ((n : Int) + 1) ∧ Fill wq r1 16 (stA R W s n) ∧ w.grownBy wq none) (fun u10 _ _ _ _ _ _ _ _ _ _ => 20 - (intOf u10).toNat)
      case atStart => exact ⟨0, by omega, rfl, hF0, hg⟩
      case round =>
        clear hF0 hg
        obtain ⟨n, hn, rfl, hF, hg⟩ := hrel
        by_cases hnR : n < R
        · have j1 : (n : Int) + 1 ≤ R := by omega
          obtain ⟨c2, hm2, hF2⟩ := make_any 16 (by decide) wr
          have hm2' : (Instr.makeSlice 22 (.int .i64 16) (.int .i64 16)).run Tryd.prog wr = .ok (.slice (some ⟨wr.heap.size, 0, none⟩) 16 16) (wr.alloc (.cells c2 5)) := hm2
          have hFl := hF.lt (by decide)
          have hF12 := hF.grown (by decide) (World.grownBy_alloc wr (.cells c2 5) none) (by simp)
          have hg2 := grown_alloc hg (.cells c2 5)
          generalize wr.alloc (.cells c2 5) = w2 at *
          clear hm2
          go_wp2_with fail
          clear hm2'
          obtain ⟨r2, hr2⟩ : ∃ r2, r2 = wr.heap.size := ⟨_, rfl⟩
          rw [← hr2] at hF2 hFl ⊢
          have hr2w : w.heap.size ≤ r2 := by rw [hr2]; exact hg.size
          obtain ⟨S, hS⟩ : ∃ S, S = stA R W s n := ⟨_, rfl⟩
          rw [← hS] at hF12
          have hSl : ∀ i, S i < 256 := fun i => by rw [hS]; exact stA_lt R W s HWl.out HSl.out n i
          have HSt : Hid (∀ i, stA R W s (n + 1) i = rndA (decide (n + 1 < R)) (fun j => W (16 * (n + 1) + j)) S i) := Lib.hid (fun i => by rw [hS]; rfl)
          have HSS := Lib.hid hSl
          clear hr2 hg hF hS hSl
          go_loopw [12] (fun u12 wq => ∃ i : Nat, i ≤ 16 ∧ u12 = .int .i64 i ∧ Fill wq r1 16 S ∧ Fill wq r2 16 (fun j => if j < i then subShift S j else 0) ∧ w.grownBy wq none) (fun u12 _ => 16 - (intOf u12).toNat)
          case atStart => exact ⟨0, by omega, rfl, hF12, hF2, hg2⟩
          case round =>
            clear hF12 hF2 hg2
            obtain ⟨i, hi, rfl, hFa, hFb, hg⟩ := hrel
            by_cases hlt : i < 16
            · have p1 : (i : Int) < 16 := by omega
              obtain ⟨a4, ha4⟩ : ∃ m, m = i % 4 := ⟨_, rfl⟩
              have e1 : (i : Int).tmod 4 = (a4 : Int) := by rw [Int.tmod_eq_emod_of_nonneg (by omega)]; omega
              have p2 : (a4 : Int) < 4 := by omega
              obtain ⟨m, hm⟩ : ∃ m, m = (i + 4 * a4) % 16 := ⟨_, rfl⟩
              have e2 : ((i : Int) + 4 * (a4 : Int)).tmod 16 = (m : Int) := by rw [Int.tmod_eq_emod_of_nonneg (by omega)]; omega
              have p3 : (m : Int) < 16 := by omega
              have cm := hFa.cell m (by omega)
              have hsm := HSS.out m
              have HSub : Hid (subShift S i = sB (S m)) := Lib.hid (by rw [hm, ha4]; rfl)
              generalize S m = x at *
              have p4 : (x : Int) < 256 := by omega
              have cbx := (HB.out.up (Nat.le_refl _) hg).at0 x hsm
              have cf := hFb.cell i hlt
              have ff := hFb.free i
              generalize sB x = v at *
              have HFa : Hid (Fill (wr.setCell ⟨r2, i, none⟩ (.int .u8 (v : Nat))) r1 16 S) := Lib.hid (hFa.setOther _ _ (by show r1 ≠ r2; omega))
              have HFb : Hid (Fill (wr.setCell ⟨r2, i, none⟩ (.int .u8 (v : Nat))) r2 16 (fun j => if j < i + 1 then subShift S j else 0)) := Lib.hid ((hFb.set i v hlt).congr (fun j hj => by
                by_cases e : j = i
                · subst e; rw [upd_same, if_pos (by omega), HSub.out]
                · rw [upd_other _ _ _ _ e]
                  by_cases e2 : j < i
                  · rw [if_pos e2, if_pos (by omega)]
                  · rw [if_neg e2, if_neg (by omega)]))
              have HG : Hid (w.grownBy (wr.setCell ⟨r2, i, none⟩ (.int .u8 (v : Nat))) none) := Lib.hid (grown_setCell_new hg ⟨r2, i, none⟩ (.int .u8 (v : Nat)) (Or.inl hr2w))
              clear hFa hFb hg hm ha4 hsm
              go_wp2_with fail
              first
                | exact ⟨⟨i + 1, by omega, by go_num, HFa.out, HFb.out, HG.out⟩, by simp [intOf]; omega⟩
                | (go_roundw
                   case rel => first | exact ⟨i + 1, by omega, by go_num, HFa.out, HFb.out, HG.out⟩ | ((repeat apply Exists.intro); exact ⟨⟨i + 1, by omega, by go_num, HFa.out, HFb.out, HG.out⟩, rfl⟩)
                   case measure => simp [intOf]; omega)
            · obtain rfl : i = 16 := by omega
              have hFT : Fill wr r2 16 (subShift S) := hFb.congr (fun j hj => if_pos hj)
              have hFS : Fill wr r1 16 (fun j => if j < 0 then stA R W s (n + 1) j else S j) := hFa.congr (fun j hj => by rw [if_neg (by omega)])
              obtain ⟨T, hT⟩ : ∃ T, T = subShift S := ⟨_, rfl⟩
              have hTl : ∀ i, T i < 256 := fun i => by rw [hT]; exact subShift_lt S i
              rw [← hT] at hFT
              have HTl := Lib.hid hTl
              have HT := Lib.hid hT
              clear hlt hi hFb hFa hTl hT
              go_wp2_with fail
              go_loopw [13, 14, 15, 16, 17, 18, 19] (fun u13 _ _ _ _ _ _ wq => ∃ i : Nat, i ≤ 16 ∧ u13 = .int .i64 i ∧ Fill wq r2 16 T ∧ Fill wq r1 16 (fun j => if j < i then stA R W s (n + 1) j else S j) ∧ w.grownBy wq none) (fun u13 _ _ _ _ _ _ _ => 16 - (intOf u13).toNat)
              case atStart => exact ⟨0, by omega, rfl, hFT, hFS, hg⟩
              case round =>
                clear hFT hFS hg
                obtain ⟨i, hi, rfl, hFa, hFb, hg⟩ := hrel
                by_cases hlt : i < 16
                · have p1 : (i : Int) < 16 := by omega
                  obtain ⟨at4, hat4⟩ : ∃ m, m = i / 4 * 4 := ⟨_, rfl⟩
                  have e0 : (i : Int) / 4 * 4 = (at4 : Int) := by omega
                  have p0 : (at4 : Int) ≤ 12 := by omega
                  obtain ⟨m1, hm1⟩ : ∃ m, m = (i + 1) % 4 := ⟨_, rfl⟩
                  have e1 : ((i : Int) + 1).tmod 4 = (m1 : Int) := by rw [Int.tmod_eq_emod_of_nonneg (by omega)]; omega
                  have p1 : (m1 : Int) < 4 := by omega
                  have c1 := hFa.cell (at4 + m1) (by omega)
                  have l1 := HTl.out (at4 + m1)
                  obtain ⟨m2, hm2⟩ : ∃ m, m = (i + 2) % 4 := ⟨_, rfl⟩
                  have e2 : ((i : Int) + 2).tmod 4 = (m2 : Int) := by rw [Int.tmod_eq_emod_of_nonneg (by omega)]; omega
                  have p2 : (m2 : Int) < 4 := by omega
                  have c2 := hFa.cell (at4 + m2) (by omega)
                  have l2 := HTl.out (at4 + m2)
                  obtain ⟨m3, hm3⟩ : ∃ m, m = (i + 3) % 4 := ⟨_, rfl⟩
                  have e3 : ((i : Int) + 3).tmod 4 = (m3 : Int) := by rw [Int.tmod_eq_emod_of_nonneg (by omega)]; omega
                  have p3 : (m3 : Int) < 4 := by omega
                  have c3 := hFa.cell (at4 + m3) (by omega)
                  have l3 := HTl.out (at4 + m3)
                  have cw := (HW.out.up (Nat.le_refl _) hg).at0 (16 * (n + 1) + i) (by have := Hl.out; omega)
                  have hwl := HWl.out (16 * (n + 1) + i)
                  have p9 : (16 * ((n : Int) + 1) + (i : Int)) < l := by have := Hl.out; omega
                  have c0 := hFa.cell i hlt
                  have l0 := HTl.out i
                  have cf := hFb.cell i hlt
                  have ff := hFb.free i
                  have hst := HSt.out i
                  unfold rndA at hst
                  rw [← HT.out] at hst
                  unfold mixOf at hst
                  rw [show (fun j => W (16 * (n + 1) + j)) i = W (16 * (n + 1) + i) from rfl] at hst
                  rw [← hat4, ← hm1, ← hm2, ← hm3, show at4 + i % 4 = i by omega] at hst
                  generalize T i = x0 at *
                  generalize T (at4 + m1) = x1 at *
                  generalize T (at4 + m2) = x2 at *
                  generalize T (at4 + m3) = x3 at *
                  generalize W (16 * (n + 1) + i) = y at *
                  clear hm1 hm2 hm3 hat4
                  obtain ⟨z, hz⟩ : ∃ z, z = stA R W s (n + 1) i := ⟨_, rfl⟩
                  rw [← hz] at hst
                  have HZ := Lib.hid hz
                  clear hz
                  have HFin : Hid (∀ W' : World, Fill W' r2 16 T → Fill W' r1 16 (fun j => if j < i then stA R W s (n + 1) j else S j) → w.grownBy W' none →
                      Fill (W'.setCell ⟨r1, i, none⟩ (.int .u8 (z : Nat))) r2 16 T ∧ Fill (W'.setCell ⟨r1, i, none⟩ (.int .u8 (z : Nat))) r1 16 (fun j => if j < i + 1 then stA R W s (n + 1) j else S j) ∧ w.grownBy (W'.setCell ⟨r1, i, none⟩ (.int .u8 (z : Nat))) none) := Lib.hid (fun W' k1 k2 k3 =>
                    ⟨k1.setOther _ _ (by show r2 ≠ r1; omega), (k2.set i z hlt).congr (fun j hj => by
                      by_cases e : j = i
                      · subst e; rw [upd_same, if_pos (by omega), HZ.out]
                      · rw [upd_other _ _ _ _ e]
                        by_cases e2 : j < i
                        · rw [if_pos e2, if_pos (by omega)]
                        · rw [if_neg e2, if_neg (by omega)]), grown_setCell_new k3 ⟨r1, i, none⟩ (.int .u8 (z : Nat)) (Or.inl hr1w)⟩)
                  by_cases hmx : n + 1 < R
                  · have j5 : (n : Int) + 1 < R := by omega
                    rw [if_pos (by simpa using hmx), M_parts _ _ _ _ l0 l1, ← tms2 _ l0, ← tms3 _ l1] at hst
                    have la := tms_lt x0 2 l0
                    have lb := tms_lt x1 3 l1
                    have TA : Hid (∀ W, Calls Tryd.prog 37 #[.int .u8 x0, .int .u8 2] W fun e w' => e = .returned (.int .u8 (tms x0 2 : Nat)) ∧ W = w') := Lib.hid (fun W => times_any x0 2 W l0 (by decide))
                    have TB : Hid (∀ W, Calls Tryd.prog 37 #[.int .u8 x1, .int .u8 3] W fun e w' => e = .returned (.int .u8 (tms x1 3 : Nat)) ∧ W = w') := Lib.hid (fun W => times_any x1 3 W l1 (by decide))
                    generalize tms x0 2 = a at *
                    generalize tms x1 3 = b at *
                    have y1 := bits_xor_u8 a b la lb
                    have y2 := bits_xor_u8 (a ^^^ b) x2 (xor_lt256 la lb) l2
                    have y3 := bits_xor_u8 (a ^^^ b ^^^ x2) x3 (xor_lt256 (xor_lt256 la lb) l2) l3
                    have y4 := bits_xor_u8 (a ^^^ b ^^^ x2 ^^^ x3) y (xor_lt256 (xor_lt256 (xor_lt256 la lb) l2) l3) hwl
                    rw [show (a ^^^ b ^^^ x2 ^^^ x3) ^^^ y = z from hst.symm] at y4
                    generalize a ^^^ b ^^^ x2 ^^^ x3 = b3 at *
                    generalize a ^^^ b ^^^ x2 = b2 at *
                    generalize a ^^^ b = b1 at *
                    clear hst hmx
                    go_upto_region 19 with fail
                    go_quiet (fail)
                    have fin := HFin.out _ (hFa.drewN nq) (hFb.drewN nq) (grown_drewN hg nq)
                    have FIN := Lib.hid fin
                    have cfd : (wr.drewN nq).cell? ⟨r1, i, none⟩ = some (.int .u8 ((if i < i then stA R W s (n + 1) i else S i : Nat))) := cf
                    have ffd : (wr.drewN nq).frozen? ⟨r1, i, none⟩ = false := ff
                    have cwd : (wr.drewN nq).cell? ⟨gw, 16 * (n + 1) + i, none⟩ = some (.int .u8 (y : Nat)) := cw
                    clear fin hFa hFb hg cf ff cw c0 c1 c2 c3
                    generalize wr.drewN nq = w5 at *
                    go_wp2_with (first
                      | (go_at_call 37; (with_reducible refine (TA.out _).mono ?_); rintro e w' ⟨rfl, rfl⟩)
                      | (go_at_call 37; (with_reducible refine (TB.out _).mono ?_); rintro e w' ⟨rfl, rfl⟩))
                    first
                      | exact ⟨⟨i + 1, by omega, by go_num, FIN.out.1, FIN.out.2.1, FIN.out.2.2⟩, by simp [intOf]; omega⟩
                      | (go_roundw
                         case rel => first | exact ⟨i + 1, by omega, by go_num, FIN.out.1, FIN.out.2.1, FIN.out.2.2⟩ | ((repeat apply Exists.intro); exact ⟨⟨i + 1, by omega, by go_num, FIN.out.1, FIN.out.2.1, FIN.out.2.2⟩, rfl⟩)
                         case measure => simp [intOf]; omega)
                  · have j5 : (R : Int) ≤ (n : Int) + 1 := by omega
                    rw [if_neg (by simpa using hmx)] at hst
                    have y4 := bits_xor_u8 x0 y l0 hwl
                    rw [show x0 ^^^ y = z from hst.symm] at y4
                    clear hst hmx
                    go_upto_region 19 with fail
                    go_quiet (fail)
                    have fin := HFin.out _ (hFa.drewN nq) (hFb.drewN nq) (grown_drewN hg nq)
                    have FIN := Lib.hid fin
                    have cfd : (wr.drewN nq).cell? ⟨r1, i, none⟩ = some (.int .u8 ((if i < i then stA R W s (n + 1) i else S i : Nat))) := cf
                    have ffd : (wr.drewN nq).frozen? ⟨r1, i, none⟩ = false := ff
                    have cwd : (wr.drewN nq).cell? ⟨gw, 16 * (n + 1) + i, none⟩ = some (.int .u8 (y : Nat)) := cw
                    clear fin hFa hFb hg cf ff cw c0 c1 c2 c3
                    generalize wr.drewN nq = w5 at *
                    go_wp2_with fail
                    first
                      | exact ⟨⟨i + 1, by omega, by go_num, FIN.out.1, FIN.out.2.1, FIN.out.2.2⟩, by simp [intOf]; omega⟩
                      | (go_roundw
                         case rel => first | exact ⟨i + 1, by omega, by go_num, FIN.out.1, FIN.out.2.1, FIN.out.2.2⟩ | ((repeat apply Exists.intro); exact ⟨⟨i + 1, by omega, by go_num, FIN.out.1, FIN.out.2.1, FIN.out.2.2⟩, rfl⟩)
                         case measure => simp [intOf]; omega)
                · obtain rfl : i = 16 := by omega
                  go_wp2_with fail
                  go_roundw
                  case rel => exact ⟨n + 1, by omega, by go_num, hFb.congr (fun j hj => if_pos hj), hg⟩
                  case measure => simp [intOf]; omega
        · obtain rfl : n = R := by omega
          go_wp2_with fail
          go_ret
          exact ⟨r1, rfl, hF, hr1w, hg⟩

end Go.Proofs.YtlfopcigbgfnlaaDoor
namespace Go.Proofs.YtlfopcigbgfnlaaDoor
open Go.RowKit

section
variable {ops : Array Oper} {Q : Exit → Act → World → Prop} {S : World → Prop}

theorem append_byte_tail {listed : Array Bool} {a : Act} {W : World} {g m cap v : Nat} {f : Nat → Nat} (n : Nat) (ob oa os : Oper) (ts tv db da ds : Tmp)
    (g1 : ops[n]? = some ob) (g2 : ops[n + 1]? = some oa) (g3 : ops[n + 2]? = some os)
    (u1 : ob.guard = none) (u2 : oa.guard = none) (u3 : os.guard = none)
    (k1 : ob.op = .buildSlice 22 1 #[(0, .tmp tv)]) (k2 : oa.op = .call { callee := .builtin .append, args := #[.tmp ts, .tmp db], argTypes := #[22, 22] }) (k3 : os.op = .assign (.tmp da))
    (e1 : ob.dst = some db) (e2 : oa.dst = some da) (e3 : os.dst = some ds) (t2 : oa.type = 22)
    (r1 : Region.ready .any ops listed = [n]) (r2 : Region.ready .any ops (listed.setIfInBounds n true) = [n + 1]) (r3 : Region.ready .any ops ((listed.setIfInBounds n true).setIfInBounds (n + 1) true) = [n + 2])
    (r4 : Region.ready .any ops (((listed.setIfInBounds n true).setIfInBounds (n + 1) true).setIfInBounds (n + 2) true) = [])
    (hs : a.eval (.tmp ts) = .slice (some ⟨g, 0, none⟩) m cap) (hv : a.eval (.tmp tv) = .int .u8 (v : Nat)) (hd : db ≠ ts) (zb : db < a.tmps.size) (za : da < a.tmps.size)
    (ho : OwnR W g m cap f) (hm : m + 1 ≤ 2 ^ 46) (hS : ∀ W', W.grownBy W' (some g) → OwnR W' g m cap f → S W')
    (hQ : ∀ B g' cap' W', OwnR W' g' (m + 1) cap' (cat m f (fun _ => v)) → OwnR W' g m cap f → W.grownBy W' (some g) → (g' = g ∨ W.heap.size ≤ g') →
      Q .normal (((a.put (some db) (.slice (some ⟨B, 0, none⟩) 1 1)).put (some da) (.slice (some ⟨g', 0, none⟩) (m + 1 : Nat) cap')).put (some ds) (.slice (some ⟨g', 0, none⟩) (m + 1 : Nat) cap')) W') :
    wpAnyH Tryd.prog .any ops Q S 3 listed a W := by
  refine wpAnyH_all r1 (by simp) fun i hi => ?_
  obtain rfl : i = n := by simpa using hi
  have hbuild : (execOp a.eval ob).run Tryd.prog W = .ok (.value (.slice (some ⟨W.heap.size, 0, none⟩) 1 1)) (W.alloc (.cells #[.int .u8 (v : Nat)] 5)) := by
    have hv2 : a.tmps[tv]?.getD undef = .int .u8 (v : Nat) := by simpa [Act.eval] using hv
    unfold execOp
    simp only [k1]
    go_simp
  refine wpOp_at g1 (wanted_of u1) (wp_yields hbuild ?_)
  have ga := World.grownBy_alloc W (.cells #[.int .u8 (v : Nat)] 5) none
  have bb := heap_alloc_new W (.cells #[.int .u8 (v : Nat)] 5)
  have hoa := ho.grown ga (by simp)
  have hz := World.size_alloc W (.cells #[.int .u8 (v : Nat)] 5)
  refine ⟨hS _ (grown_some ga) hoa, ?_⟩
  rw [e1]
  refine wpAnyH_all r2 (by simp) fun j hj => ?_
  obtain rfl : j = i + 1 := by simpa using hj
  have hR : Rd (W.alloc (.cells #[.int .u8 (v : Nat)] 5)) (W.heap.size + 1) (some ⟨W.heap.size, 0, none⟩) 1 (fun _ => v) := ⟨fun _ => ⟨W.heap.size, 0, rfl, by omega, fun k hk => by
    obtain rfl : k = 0 := by omega
    rw [cell_of_row _ _ _ _ _ _ bb]; rfl⟩⟩
  obtain ⟨v2, w2, hap, ⟨ex⟩⟩ := app_run 1 22 hoa hR hm
  obtain ⟨g', cap', rfl, ho', hold, hg2, hor⟩ := ex
  have happ : (execOp (a.put (some db) (.slice (some ⟨W.heap.size, 0, none⟩) 1 1)).eval oa).run Tryd.prog (W.alloc (.cells #[.int .u8 (v : Nat)] 5)) = .ok (.value (.slice (some ⟨g', 0, none⟩) (m + 1 : Nat) cap')) w2 := by
    have h1 := (Act.eval_put_ne a db ts (.slice (some ⟨W.heap.size, 0, none⟩) 1 1) hd).trans hs
    have h2 := Act.eval_put_same a db (.slice (some ⟨W.heap.size, 0, none⟩) 1 1) zb
    unfold execOp
    simp [k2, resolve, invoke, builtin, h1, h2, t2, hap, Result.andThen]
  have hgw : W.grownBy w2 (some g) := grown_trans (grown_some ga) hg2
  refine wpOp_at g2 (wanted_of u2) (wp_yields happ ⟨hS _ hgw hold, ?_⟩)
  rw [e2]
  refine wpAnyH_all r3 (by simp) fun k hk => ?_
  obtain rfl : k = i + 2 := by simpa using hk
  have has : (execOp ((a.put (some db) (.slice (some ⟨W.heap.size, 0, none⟩) 1 1)).put (some da) (.slice (some ⟨g', 0, none⟩) (m + 1 : Nat) cap')).eval os).run Tryd.prog w2 = .ok (.value (.slice (some ⟨g', 0, none⟩) (m + 1 : Nat) cap')) w2 := by
    have h1 := Act.eval_put_same (a.put (some db) (.slice (some ⟨W.heap.size, 0, none⟩) 1 1)) da (.slice (some ⟨g', 0, none⟩) (m + 1 : Nat) cap') (by simpa [Act.put] using za)
    unfold execOp
    simp [k3, h1]
  refine wpOp_at g3 (wanted_of u3) (wp_yields has ⟨hS _ hgw hold, ?_⟩)
  rw [e3]
  exact wpAnyH_done r4 (hQ _ _ _ _ ho' hold hgw (by omega)) _
end

end Go.Proofs.YtlfopcigbgfnlaaDoor
namespace Go.Proofs.YtlfopcigbgfnlaaDoor
open Go.RowKit

set_option maxRecDepth 100000
set_option maxHeartbeats 1000000

/-- The number of the first i of a counter's four last bytes. -/
def ctrP (f : Nat → Nat) : Nat → Nat
  | 0 => 0
  | i + 1 => 256 * ctrP f i + f (12 + i)
theorem ctrP_lt (f : Nat → Nat) (hf : ∀ i, f i < 256) : ∀ i, ctrP f i < 256 ^ i
  | 0 => by simp [ctrP]
  | i + 1 => by
    have := ctrP_lt f hf i
    have := hf (12 + i)
    unfold ctrP
    rw [Nat.pow_succ]
    omega
theorem ctrP_all (f : Nat → Nat) : ctrP f 4 = ctrN f := by
  unfold ctrN
  show 256 * (256 * (256 * (256 * 0 + f 12) + f 13) + f 14) + f 15 = _
  omega

theorem Rd.less {w : World} {B : Nat} {a : Option Addr} {L : Nat} {g : Nat → Nat} (h : Rd w B a L g) (n : Nat) (hn : n ≤ L) : Rd w B a n g where
  ex := fun h0 => by
    obtain ⟨tb, o, h1, h2, h3⟩ := h.ex (by omega)
    exact ⟨tb, o, h1, h2, fun i hi => h3 i (by omega)⟩

theorem rnext_any (a : Option Addr) (c : Nat) (f : Nat → Nat) (w : World) (hf : ∀ i, f i < 256) (hR : Rd w w.heap.size a 16 f) (hc : 16 ≤ c) : Calls Tryd.prog 52 #[.slice a 16 c] w fun e w' => ∃ g cap, e = .returned (.slice (some ⟨g, 0, none⟩) 16 cap) ∧ OwnR w' g 16 cap (nextF f) ∧ w.heap.size ≤ g ∧ w.grownBy w' none := by
  obtain ⟨tb, o, rfl, htb, hcell⟩ := hR.ex (by decide)
  have Hcell := Lib.hid hcell
  have Hf := Lib.hid hf
  clear hcell hf
  go_enter Tryd.func52, Tryd.ntmps52
  go_wp2_with fail
  go_loop [3, 4] (fun u3 u4 => ∃ i : Nat, i ≤ 4 ∧ u4 = .int .i64 (12 + i : Nat) ∧ u3 = .int .u64 (ctrP f i : Nat)) (fun _ u4 => 16 - (intOf u4).toNat)
  case atStart => exact ⟨0, by omega, rfl, rfl⟩
  case round =>
    obtain ⟨i, hi, rfl, rfl⟩ := hrel
    by_cases hlt : i < 4
    · have c0 := Hcell.out (12 + i) (by omega)
      have j1 : ((12 + i : Nat) : Int) < 16 := by omega
      obtain ⟨x, hx⟩ : ∃ x, x = 12 + i := ⟨_, rfl⟩
      rw [← hx] at c0 j1 ⊢
      have b1 := ctrP_lt f Hf.out i
      have b2 := Hf.out x
      have b3 : 256 ^ i ≤ 256 ^ 3 := Nat.pow_le_pow_right (by decide) (by omega)
      have hn : ctrP f (i + 1) = 256 * ctrP f i + f x := by rw [hx]; rfl
      have HN := Lib.hid hn
      have Hx := Lib.hid hx
      generalize ctrP f i = p at *
      generalize f x = y at *
      have k1 : (p : Int) < 16777216 := by omega
      have k2 : (y : Int) < 256 := by omega
      clear hx hn b1 b3
      go_wp2_with fail
      exact ⟨⟨i + 1, by omega, by rw [show 12 + (i + 1) = x + 1 by rw [Hx.out]; omega]; go_num, by rw [HN.out]; go_num⟩, by simp [intOf]; omega⟩
    · obtain rfl : i = 4 := by omega
      have b1 := ctrP_lt f Hf.out 4
      rw [show 256 ^ 4 = 4294967296 from rfl] at b1
      have hNx := ctrP_all f
      rw [ctrP_all] at b1 ⊢
      obtain ⟨N, hN⟩ : ∃ N, N = ctrN f := ⟨_, rfl⟩
      rw [← hN] at b1 ⊢
      have k1 : (N : Int) < 4294967296 := by omega
      obtain ⟨M, hM⟩ : ∃ M, M = (N + 1) % 4294967296 := ⟨_, rfl⟩
      have m1 : ((N : Int) + 1) % 4294967296 = (M : Int) := by omega
      have m2 : ((N : Int) + 1).tmod 4294967296 = (M : Int) := by rw [Int.tmod_eq_emod_of_nonneg (by omega)]; omega
      have k2 : (M : Int) < 4294967296 := by omega
      obtain ⟨v1, w1, hap, ⟨g1, cap1, rfl, hO1, _, hg1, hor1⟩⟩ := app_run (B := w.heap.size) (a := some ⟨tb, o, none⟩) (f' := f) c 22 (ownR_empty w) (m := 12) ((hR.grown (World.grownBy_alloc w _ none) (fun k e => by cases e)).less 12 (by omega)) (by omega)
      have HAP := Lib.hid hap
      have HN := Lib.hid hN
      have HM := Lib.hid hM
      clear hap hN hM hNx hi hlt b1
      go_upto_region 8 with (at_builtin; refine wpList_append_run rfl (.tmp 21) (.tmp 23) 22 22 rfl _ (.slice (some ⟨tb, o, none⟩) 12 c) _ _ rfl rfl HAP.out ?_)
      obtain ⟨y0, hy0⟩ : ∃ y, y = M / 16777216 := ⟨_, rfl⟩
      obtain ⟨z1, hz1⟩ : ∃ y, y = M / 65536 := ⟨_, rfl⟩
      obtain ⟨y1, hy1⟩ : ∃ y, y = z1 % 256 := ⟨_, rfl⟩
      obtain ⟨z2, hz2⟩ : ∃ y, y = M / 256 := ⟨_, rfl⟩
      obtain ⟨y2, hy2⟩ : ∃ y, y = z2 % 256 := ⟨_, rfl⟩
      obtain ⟨y3, hy3⟩ : ∃ y, y = M % 256 := ⟨_, rfl⟩
      have q0 : (M : Int) / 16777216 = (y0 : Int) := by omega
      have q1 : (M : Int) / 65536 = (z1 : Int) := by omega
      have r1 : (z1 : Int) % 256 = (y1 : Int) := by omega
      have q2 : (M : Int) / 256 = (z2 : Int) := by omega
      have r2 : (z2 : Int) % 256 = (y2 : Int) := by omega
      have r3 : (M : Int) % 256 = (y3 : Int) := by omega
      have l0 : (y0 : Int) < 256 := by omega
      have l1 : (y1 : Int) < 256 := by omega
      have l2 : (y2 : Int) < 256 := by omega
      have l3 : (y3 : Int) < 256 := by omega
      have hbn := heap_alloc_new w1 (.cells #[.int .u8 (y0 : Nat), .int .u8 (y1 : Nat), .int .u8 (y2 : Nat), .int .u8 (y3 : Nat)] 5)
      have hga := World.grownBy_alloc w1 (.cells #[.int .u8 (y0 : Nat), .int .u8 (y1 : Nat), .int .u8 (y2 : Nat), .int .u8 (y3 : Nat)] 5) none
      have hRy : Rd (w1.alloc (.cells #[.int .u8 (y0 : Nat), .int .u8 (y1 : Nat), .int .u8 (y2 : Nat), .int .u8 (y3 : Nat)] 5)) (w1.heap.size + 1) (some ⟨w1.heap.size, 0, none⟩) 4 (fun j => if j = 0 then y0 else if j = 1 then y1 else if j = 2 then y2 else y3) := ⟨fun _ => ⟨w1.heap.size, 0, rfl, Nat.lt_succ_self _, fun j hj => by
        rw [cell_of_row _ _ _ _ _ _ hbn, Nat.zero_add]
        obtain rfl | rfl | rfl | rfl : j = 0 ∨ j = 1 ∨ j = 2 ∨ j = 3 := by omega
        all_goals rfl⟩⟩
      obtain ⟨v2, w2, hap2, ⟨g2, cap2, rfl, hO2, _, hg2, hor2⟩⟩ := app_run 4 22 (hO1.grown hga (by simp)) hRy (by omega)
      have hfin : OwnR w2 g2 16 cap2 (nextF f) := hO2.congr (fun i hi => by
        have hn := HN.out
        have hm := HM.out
        unfold cat nextF
        rw [← hn]
        by_cases e : i < 12
        · rw [if_pos e, if_neg (by omega), if_pos e]; rfl
        · obtain rfl | rfl | rfl | rfl : i = 12 ∨ i = 13 ∨ i = 14 ∨ i = 15 := by omega
          all_goals (simp; omega))
      have G1 := grown_new (World.grownBy_alloc w (.cells #[] 5) none) hg1 (Nat.le_refl _)
      rw [World.size_alloc] at hor1 hor2
      have hz0 := G1.size
      have hle1 : w.heap.size ≤ g1 := by omega
      have G2 := grown_new (grown_trans G1 hga) hg2 hle1
      have hle2 : w.heap.size ≤ g2 := by omega
      have HG2 := Lib.hid G2
      have HL2 := Lib.hid hle2
      have HAP2 := Lib.hid hap2
      have HF := Lib.hid hfin
      clear G1 G2 hle1 hle2 hz0 hor1 hor2 hg1 hg2 hap2 hfin hbn hga hRy hO2 hO1 hy0 hz1 hy1 hz2 hy2 hy3 HAP m1 m2
      go_wp2_with (at_builtin; refine wpList_append_run rfl (.tmp 25) (.tmp 40) 22 22 rfl _ (.slice (some ⟨w1.heap.size, 0, none⟩) 4 4) _ _ rfl rfl HAP2.out ?_)
      go_ret
      exact ⟨g2, cap2, rfl, HF.out, HL2.out, HG2.out⟩

end Go.Proofs.YtlfopcigbgfnlaaDoor
namespace Go.Proofs.YtlfopcigbgfnlaaDoor
open Go.RowKit

/-- Nil, or bytes that lie in a row of their own. -/
structure OwnV (w : World) (v : Value) (n : Nat) (f : Nat → Nat) : Prop where
  ex : (v = .slice none 0 0 ∧ n = 0) ∨ ∃ g cap, v = .slice (some ⟨g, 0, none⟩) n cap ∧ OwnR w g n cap f
theorem OwnN.toV {w : World} {base : Nat} {v : Value} {n : Nat} {f : Nat → Nat} (h : OwnN w base v n f) : OwnV w v n f := ⟨h.ex.imp id (fun ⟨g, cap, h1, h2, _⟩ => ⟨g, cap, h1, h2⟩)⟩
theorem OwnN.row {w : World} {base : Nat} {v : Value} {n : Nat} {f : Nat → Nat} (h : OwnN w base v n f) (g : Nat) (hg : v.ownBlock = some g) : base ≤ g := by
  rcases h.ex with ⟨rfl, _⟩ | ⟨g', cap, rfl, _, h3⟩
  · cases hg
  · cases hg; exact h3
theorem OwnV.toN {w : World} {base : Nat} {v : Value} {n : Nat} {f : Nat → Nat} (h : OwnV w v n f) (hb : ∀ g, v.ownBlock = some g → base ≤ g) : OwnN w base v n f := ⟨h.ex.imp id (fun ⟨g, cap, h1, h2⟩ => ⟨g, cap, h1, h2, hb g (by rw [h1]; rfl)⟩)⟩
theorem OwnV.grown {w w' : World} {v : Value} {n : Nat} {f : Nat → Nat} (h : OwnV w v n f) (e : w.grownBy w' none) : OwnV w' v n f := ⟨h.ex.imp id (fun ⟨g, cap, h1, h2⟩ => ⟨g, cap, h1, h2.grown e (by simp)⟩)⟩
theorem OwnV.congr {w : World} {v : Value} {n : Nat} {f f' : Nat → Nat} (h : OwnV w v n f) (e : ∀ i, i < n → f i = f' i) : OwnV w v n f' := ⟨h.ex.imp id (fun ⟨g, cap, h1, h2⟩ => ⟨g, cap, h1, h2.congr e⟩)⟩

theorem app_V {w : World} {B n m : Nat} {v : Value} {a : Option Addr} {f f' : Nat → Nat} (c : Nat) (ty : TypeId) (h : OwnV w v n f) (hx : Rd w B a m f') (hn : n + m ≤ 2 ^ 46) (hm : 0 < m) :
    ∃ v' w', (Builtin.append_ #[22, 22] ty #[v, .slice a m c]).run Tryd.prog w = .ok v' w' ∧ OwnV w' v' (n + m) (cat n f f') ∧ OwnV w' v n f ∧ w.grownBy w' v.ownBlock ∧ (v'.ownBlock = v.ownBlock ∨ ∃ g', v'.ownBlock = some g' ∧ w.heap.size ≤ g') := by
  rcases h.ex with ⟨rfl, rfl⟩ | ⟨g, cap, rfl, h2⟩
  · obtain ⟨v', w', h1, h2, h3, h4⟩ := app_N c ty (grown_refl w none) (OwnN.nil w w.heap.size f) hx hn hm
    refine ⟨v', w', h1, h2.toV, h3.toV, h4, Or.inr ?_⟩
    rcases h2.ex with ⟨_, e⟩ | ⟨g', cap', rfl, _, h5⟩
    · omega
    · exact ⟨g', rfl, h5⟩
  · obtain ⟨v', w', hr, ⟨g', cap', rfl, k1, k2, k3, k4⟩⟩ := app_run c ty h2 hx hn
    exact ⟨_, w', hr, ⟨Or.inr ⟨g', cap', rfl, k1⟩⟩, ⟨Or.inr ⟨g, cap, rfl, k2⟩⟩, k3, k4.imp (fun e => by rw [e]; rfl) (fun e => ⟨g', rfl, e⟩)⟩

section
variable {ops : Array Oper} {Q : Exit → Act → World → Prop} {S : World → Prop}

theorem append_byte_tailV {listed : Array Bool} {a : Act} {W : World} {v0 : Value} {m v : Nat} {f : Nat → Nat} (n : Nat) (ob oa os : Oper) (ts tv db da ds : Tmp)
    (g1 : ops[n]? = some ob) (g2 : ops[n + 1]? = some oa) (g3 : ops[n + 2]? = some os)
    (u1 : ob.guard = none) (u2 : oa.guard = none) (u3 : os.guard = none)
    (k1 : ob.op = .buildSlice 22 1 #[(0, .tmp tv)]) (k2 : oa.op = .call { callee := .builtin .append, args := #[.tmp ts, .tmp db], argTypes := #[22, 22] }) (k3 : os.op = .assign (.tmp da))
    (e1 : ob.dst = some db) (e2 : oa.dst = some da) (e3 : os.dst = some ds) (t2 : oa.type = 22)
    (r1 : Region.ready .any ops listed = [n]) (r2 : Region.ready .any ops (listed.setIfInBounds n true) = [n + 1]) (r3 : Region.ready .any ops ((listed.setIfInBounds n true).setIfInBounds (n + 1) true) = [n + 2])
    (r4 : Region.ready .any ops (((listed.setIfInBounds n true).setIfInBounds (n + 1) true).setIfInBounds (n + 2) true) = [])
    (hs : a.eval (.tmp ts) = v0) (hv : a.eval (.tmp tv) = .int .u8 (v : Nat)) (hd : db ≠ ts) (zb : db < a.tmps.size) (za : da < a.tmps.size)
    (ho : OwnV W v0 m f) (hm : m + 1 ≤ 2 ^ 46) (hS : ∀ W', W.grownBy W' v0.ownBlock → S W')
    (hQ : ∀ B v' W', OwnV W' v' (m + 1) (cat m f (fun _ => v)) → W.grownBy W' v0.ownBlock → (v'.ownBlock = v0.ownBlock ∨ ∃ g', v'.ownBlock = some g' ∧ W.heap.size ≤ g') →
      Q .normal (((a.put (some db) (.slice (some ⟨B, 0, none⟩) 1 1)).put (some da) v').put (some ds) v') W') :
    wpAnyH Tryd.prog .any ops Q S 3 listed a W := by
  refine wpAnyH_all r1 (by simp) fun i hi => ?_
  obtain rfl : i = n := by simpa using hi
  have hbuild : (execOp a.eval ob).run Tryd.prog W = .ok (.value (.slice (some ⟨W.heap.size, 0, none⟩) 1 1)) (W.alloc (.cells #[.int .u8 (v : Nat)] 5)) := by
    have hv2 : a.tmps[tv]?.getD undef = .int .u8 (v : Nat) := by simpa [Act.eval] using hv
    unfold execOp
    simp only [k1]
    go_simp
  refine wpOp_at g1 (wanted_of u1) (wp_yields hbuild ?_)
  have ga := World.grownBy_alloc W (.cells #[.int .u8 (v : Nat)] 5) none
  have gs : W.grownBy (W.alloc (.cells #[.int .u8 (v : Nat)] 5)) v0.ownBlock := World.grownBy_alloc W _ _
  have bb := heap_alloc_new W (.cells #[.int .u8 (v : Nat)] 5)
  have hoa := ho.grown ga
  have hz := World.size_alloc W (.cells #[.int .u8 (v : Nat)] 5)
  refine ⟨hS _ gs, ?_⟩
  rw [e1]
  refine wpAnyH_all r2 (by simp) fun j hj => ?_
  obtain rfl : j = i + 1 := by simpa using hj
  have hR : Rd (W.alloc (.cells #[.int .u8 (v : Nat)] 5)) (W.heap.size + 1) (some ⟨W.heap.size, 0, none⟩) 1 (fun _ => v) := ⟨fun _ => ⟨W.heap.size, 0, rfl, by omega, fun k hk => by
    obtain rfl : k = 0 := by omega
    rw [cell_of_row _ _ _ _ _ _ bb]; rfl⟩⟩
  obtain ⟨v2, w2, hap, ho', hold, hg2, hor⟩ := app_V 1 22 hoa hR hm (by decide)
  have happ : (execOp (a.put (some db) (.slice (some ⟨W.heap.size, 0, none⟩) 1 1)).eval oa).run Tryd.prog (W.alloc (.cells #[.int .u8 (v : Nat)] 5)) = .ok (.value v2) w2 := by
    have h1 := (Act.eval_put_ne a db ts (.slice (some ⟨W.heap.size, 0, none⟩) 1 1) hd).trans hs
    have h2 := Act.eval_put_same a db (.slice (some ⟨W.heap.size, 0, none⟩) 1 1) zb
    unfold execOp
    simp [k2, resolve, invoke, builtin, h1, h2, t2, hap, Result.andThen]
  have hgw : W.grownBy w2 v0.ownBlock := grown_trans gs hg2
  refine wpOp_at g2 (wanted_of u2) (wp_yields happ ⟨hS _ hgw, ?_⟩)
  rw [e2]
  refine wpAnyH_all r3 (by simp) fun k hk => ?_
  obtain rfl : k = i + 2 := by simpa using hk
  have has : (execOp ((a.put (some db) (.slice (some ⟨W.heap.size, 0, none⟩) 1 1)).put (some da) v2).eval os).run Tryd.prog w2 = .ok (.value v2) w2 := by
    have h1 := Act.eval_put_same (a.put (some db) (.slice (some ⟨W.heap.size, 0, none⟩) 1 1)) da v2 (by simpa [Act.put] using za)
    unfold execOp
    simp [k3, h1]
  refine wpOp_at g3 (wanted_of u3) (wp_yields has ⟨hS _ hgw, ?_⟩)
  rw [e3]
  exact wpAnyH_done r4 (hQ _ _ _ ho' hgw (hor.imp id (fun ⟨g', h1, h2⟩ => ⟨g', h1, by omega⟩))) _
end

end Go.Proofs.YtlfopcigbgfnlaaDoor
namespace Go.Proofs.YtlfopcigbgfnlaaDoor
open Go.RowKit

set_option maxRecDepth 100000
set_option maxHeartbeats 2000000

/-- The counter, and what is turned so far. -/
structure RTI (w : World) (q G : Nat → Nat) (i : Nat) (u10 : Value) (gc capc : Nat) (U : World) : Prop where
  ctr : OwnR U gc 16 capc q
  out : OwnV U u10 i G
  rows : ∀ g, u10.ownBlock = some g → w.heap.size ≤ g ∧ g ≠ gc ∧ g < U.heap.size
  gr : w.grownBy U none
/-- The sealed counter. -/
structure RTS (u10 : Value) (rs : Nat) (s : Nat → Nat) (U : World) : Prop where
  fill : Fill U rs 16 s
  row : ∀ g, u10.ownBlock = some g → rs ≠ g
theorem grown_none' {w0 w w' : World} {row : Option Nat} (h : w0.grownBy w none) (g : w.grownBy w' row) (hr : ∀ r, row = some r → w0.heap.size ≤ r) : w0.grownBy w' none := by
  cases row with
  | none => exact grown_trans h g
  | some r => exact grown_new h g (hr r rfl)
theorem OwnV.row_lt {w : World} {v : Value} {n : Nat} {f : Nat → Nat} (h : OwnV w v n f) (g : Nat) (hg : v.ownBlock = some g) : g < w.heap.size := by
  rcases h.ex with ⟨rfl, _⟩ | ⟨g', cap, rfl, h2⟩
  · cases hg
  · cases hg; exact h2.lt

theorem rturn_any (R rb gw capw cf nb cb : Nat) (ab af : Option Addr) (W f F : Nat → Nat) (w : World) (hR1 : 1 ≤ R) (hR2 : R ≤ 14) (hB : Rd w w.heap.size (some ⟨rb, 0, none⟩) 256 sB) (hW : Rd w w.heap.size (some ⟨gw, 0, none⟩) (16 * (R + 1)) W)
    (hf : Rd w w.heap.size af 16 f) (hb : Rd w w.heap.size ab nb F) (hWl : ∀ i, W i < 256) (hfl : ∀ i, f i < 256) (hFl : ∀ i, F i < 256) (hn : nb ≤ 2 ^ 40) :
    Calls Tryd.prog 43 #[.slice (some ⟨rb, 0, none⟩) 256 256, .slice (some ⟨gw, 0, none⟩) (16 * (R + 1) : Nat) capw, .slice af 16 cf, .slice ab nb cb] w (GaveN w nb (turnF R W f F)) := by
  obtain ⟨v1, w1, hap, ⟨gc, capc, rfl, hO1, _, hg1, hor1⟩⟩ := app_run (m := 16) cf 22 (ownR_empty w) (hf.grown (World.grownBy_alloc w _ none) (fun k e => by cases e)) (by omega)
  have G1 := grown_new (World.grownBy_alloc w (.cells #[] 5) none) hg1 (Nat.le_refl _)
  have hO1' : OwnR w1 gc 16 capc (ctrAt f 0) := hO1.congr (fun i hi => by unfold cat; rw [if_neg (by omega)]; rfl)
  obtain ⟨G, hG⟩ : ∃ G, G = turnF R W f F := ⟨_, rfl⟩
  have hGx : ∀ x, G x = F x ^^^ strm R W f (x / 16) (x % 16) := fun x => by rw [hG]; rfl
  rw [← hG]
  have hI0 : RTI w (ctrAt f 0) G 0 (.slice none 0 0) gc capc w1 := ⟨hO1', ⟨Or.inl ⟨rfl, rfl⟩⟩, (fun g e => by cases e), G1⟩
  have HAP := Lib.hid hap
  have HI0 := Lib.hid hI0
  have HG := Lib.hid hG
  have HGx := Lib.hid hGx
  have HFl := Lib.hid hFl
  have HWl := Lib.hid hWl
  have Hfl := Lib.hid hfl
  have HB := Lib.hid hB
  have HW := Lib.hid hW
  have Hb := Lib.hid hb
  have hnI : (nb : Int) ≤ 1099511627776 := by omega
  clear hG hGx hFl hWl hfl hap hO1 hO1' hI0 hg1 hor1 G1 hB hW hf hb hn
  go_enter Tryd.func43, Tryd.ntmps43
  go_wp2_with (at_builtin; refine wpList_append_run rfl (.tmp 13) (.tmp 14) 22 22 rfl _ (.slice af 16 cf) _ _ rfl rfl HAP.out ?_)
  go_loopw [9, 10, 11, 12] (fun u9 u10 u11 u12 wr => ∃ i gc capc : Nat, i ≤ nb ∧ u12 = .int .i64 i ∧ u9 = .slice (some ⟨gc, 0, none⟩) 16 capc ∧ RTI w (ctrAt f ((i + 15) / 16)) G i u10 gc capc wr ∧ (i % 16 ≠ 0 → ∃ rs, u11 = .slice (some ⟨rs, 0, none⟩) 16 16 ∧ RTS u10 rs (strm R W f (i / 16)) wr)) (fun _ _ _ u12 _ => nb - (intOf u12).toNat)
  case atStart => exact ⟨0, gc, capc, by omega, rfl, rfl, HI0.out, fun h => absurd rfl h⟩
  case round =>
    clear HAP HI0
    obtain ⟨i, gc, capc, hi, rfl, rfl, hI, hS⟩ := hrel
    by_cases hlt : i < nb
    · have j1 : (i : Int) < nb := by omega
      obtain ⟨k, hk⟩ : ∃ k, k = i / 16 := ⟨_, rfl⟩
      obtain ⟨r, hr⟩ : ∃ r, r = i % 16 := ⟨_, rfl⟩
      have r0 : (i : Int) % 16 = (r : Int) := by omega
      have r1 : (i : Int).tmod 16 = (r : Int) := by rw [Int.tmod_eq_emod_of_nonneg (by omega)]; omega
      have r2 : (r : Int) < 16 := by omega
      have HI := Lib.hid hI
      have HS := Lib.hid hS
      have Hk := Lib.hid hk
      have Hr := Lib.hid hr
      obtain ⟨s, hs⟩ : ∃ s, s = strm R W f k := ⟨_, rfl⟩
      have Hs := Lib.hid hs
      clear hI hS hk hr hs
      go_upto_if 24 with fail
      go_cut [9, 11] (fun s9 s11 wx => ∃ gc capc rs : Nat, s9 = .slice (some ⟨gc, 0, none⟩) 16 capc ∧ s11 = .slice (some ⟨rs, 0, none⟩) 16 16 ∧ RTI w (ctrAt f (k + 1)) G i u10 gc capc wx ∧ RTS u10 rs s wx)
      case first =>
        by_cases h16 : r = 0
        · have hr := Hr.out
          have hk := Hk.out
          subst h16
          have hI := HI.out
          rw [show (i + 15) / 16 = k by omega] at hI
          have hSeal := rseal_any R rb gw capw gc capc W (ctrAt f k) wr hR1 hR2 (HB.out.up (Nat.le_refl _) hI.gr) (HW.out.up (Nat.le_refl _) hI.gr) hI.ctr.rd HWl.out (ctrAt_lt f Hfl.out k)
          have hcap := hI.ctr.le
          obtain ⟨q, hq⟩ : ∃ q, q = ctrAt f k := ⟨_, rfl⟩
          have hql : ∀ i, q i < 256 := fun i => by rw [hq]; exact ctrAt_lt f Hfl.out k i
          have hsq : sealA R W (ctrAt f k) = s := Hs.out.symm
          rw [hsq] at hSeal
          rw [← hq] at hI
          have HQ := Lib.hid hq
          have HQl := Lib.hid hql
          have HSe := Lib.hid hSeal
          have HI2 := Lib.hid hI
          clear hq hql hsq hSeal hI hr hk r2
          go_wp2_with fail
          go_at_call 42
          with_reducible refine (HSe.out).mono ?_
          rintro e w5 ⟨rs, rfl, hfill, hle, g5⟩
          have hctr5 := HI2.out.ctr.grown g5 (by simp)
          have hNx := rnext_any (some ⟨gc, 0, none⟩) capc q w5 HQl.out hctr5.rd hcap
          obtain ⟨t, ht⟩ : ∃ t, t = nextF q := ⟨_, rfl⟩
          rw [← ht] at hNx
          have HT : Hid (t = ctrAt f (k + 1)) := Lib.hid (by rw [ht, HQ.out]; rfl)
          have HNx := Lib.hid hNx
          have HFi := Lib.hid hfill
          have HG5 := Lib.hid g5
          have HLe := Lib.hid hle
          clear hNx ht hfill hctr5 g5 hle
          go_wp2_with fail
          go_at_call 52
          with_reducible refine (HNx.out).mono ?_
          rintro e w6 ⟨gn, capn, rfl, hOn, hlen, g6⟩
          have HR : Hid (RTI w (ctrAt f (k + 1)) G i u10 gn capn w6 ∧ RTS u10 rs s w6) := Lib.hid ⟨⟨by rw [← HT.out]; exact hOn, (HI2.out.out.grown HG5.out).grown g6, fun g hg => by
              obtain ⟨a1, a2, a3⟩ := HI2.out.rows g hg
              have := HG5.out.size
              have := g6.size
              exact ⟨a1, by omega, by omega⟩, grown_trans (grown_trans HI2.out.gr HG5.out) g6⟩, ⟨HFi.out.grown (by decide) g6 (by simp), fun g hg => by
              obtain ⟨a1, a2, a3⟩ := HI2.out.rows g hg
              have := HLe.out
              omega⟩⟩
          clear hOn hlen g6
          go_wp2_with fail
          go_meet
          case rel => exact ⟨gn, capn, rs, rfl, rfl, HR.out⟩
        · have hr := Hr.out
          have hk := Hk.out
          have hI := HI.out
          rw [show (i + 15) / 16 = k + 1 by omega] at hI
          obtain ⟨rs, rfl, hS⟩ := HS.out (by omega)
          rw [← hk, ← Hs.out] at hS
          have HI2 := Lib.hid hI
          have HS2 := Lib.hid hS
          have r3 : (0 : Int) < r := by omega
          clear hI hS hr hk h16
          go_wp2_with fail
          go_meet
          case rel => exact ⟨gc, capc, rs, rfl, rfl, HI2.out, HS2.out⟩
      case rest =>
        obtain ⟨gc, capc, rs, rfl, rfl, hI, hS⟩ := hcut
        obtain ⟨tb, o, rfl, htb, hcell⟩ := Hb.out.ex (by omega)
        have hcx : wc.cell? ⟨tb, o + i, none⟩ = some (.int .u8 (F i : Nat)) := hI.gr.cell (hcell i hlt) (by simp)
        have hcy : wc.cell? ⟨rs, r, none⟩ = some (.int .u8 (s r : Nat)) := hS.fill.cell r (by omega)
        have hxy := bits_xor_u8 (F i) (s r) (HFl.out i) (by rw [Hs.out]; exact strm_lt R W f HWl.out Hfl.out k r)
        have hGi : G i = F i ^^^ s r := by rw [HGx.out, Hs.out, ← Hk.out, ← Hr.out]
        obtain ⟨x, hx⟩ : ∃ x, x = F i := ⟨_, rfl⟩
        obtain ⟨y, hy⟩ : ∃ y, y = s r := ⟨_, rfl⟩
        obtain ⟨v, hv⟩ : ∃ v, v = F i ^^^ s r := ⟨_, rfl⟩
        rw [← hv] at hxy hGi
        rw [← hx] at hcx hxy
        rw [← hy] at hcy hxy
        have HGi := Lib.hid hGi
        have HI3 := Lib.hid hI
        have HS3 := Lib.hid hS
        clear hGi hx hy hv hI hS hcell HI HS
        go_wp2_with fail
        refine wp_region_held (S := fun W => W.cell? ⟨tb, o + i, none⟩ = some (.int .u8 (x : Nat)) ∧ W.cell? ⟨rs, r, none⟩ = some (.int .u8 (y : Nat))) (by kernel_rfl) ?_
        change wpAnyH _ _ _ _ _ 14 #[false, false, false, false, false, false, false, false, false, false, false, false, false, false] _ (World.drew _)
        have hS0 : (World.drew wc).cell? ⟨tb, o + i, none⟩ = some (.int .u8 (x : Nat)) ∧ (World.drew wc).cell? ⟨rs, r, none⟩ = some (.int .u8 (y : Nat)) := ⟨hcx, hcy⟩
        have hId : RTI w (ctrAt f (k + 1)) G i u10 gc capc (World.drew wc) := ⟨HI3.out.ctr.of_block rfl HI3.out.ctr.lt, ⟨HI3.out.out.ex.imp id (fun ⟨g, cap, h1, h2⟩ => ⟨g, cap, h1, h2.of_block rfl h2.lt⟩)⟩, HI3.out.rows, grown_drew HI3.out.gr⟩
        have hSd : RTS u10 rs s (World.drew wc) := ⟨HS3.out.fill.drew, HS3.out.row⟩
        clear hcx hcy HI3 HS3
        generalize World.drew wc = W0 at *
        refine wpAnyH_takeD (some 31) (i := 0) (v := u10) rfl rfl (by kernel_rfl) (by kernel_rfl) (by kernel_rfl) (fun _ _ _ h => h) (Or.inl ⟨rfl, fun _ _ => rfl⟩) hS0 ?_
        simp only [Act.put, List.setIfInBounds_toArray, List.set_cons_succ, List.set_cons_zero]
        refine wpAnyH_takeD (some 32) (i := 1) (v := .slice (some ⟨tb, o, none⟩) nb cb) rfl rfl (by kernel_rfl) (by kernel_rfl) (by kernel_rfl) (fun _ _ _ h => h) (Or.inl ⟨rfl, fun _ _ => rfl⟩) hS0 ?_
        simp only [Act.put, List.setIfInBounds_toArray, List.set_cons_succ, List.set_cons_zero]
        refine wpAnyH_takeD (some 33) (i := 2) (v := .int .i64 (i : Nat)) rfl rfl (by kernel_rfl) (by kernel_rfl) (by kernel_rfl) (fun _ _ _ h => h) (Or.inl ⟨rfl, fun _ _ => rfl⟩) hS0 ?_
        simp only [Act.put, List.setIfInBounds_toArray, List.set_cons_succ, List.set_cons_zero]
        refine wpAnyH_takeD (some 34) (i := 3) (v := .pointer (some ⟨tb, o + i, none⟩)) rfl rfl (by kernel_rfl) (by kernel_rfl) (by kernel_rfl) (fun _ _ _ h => h) (Or.inl ⟨rfl, fun W _ => by go_simp⟩) hS0 ?_
        simp only [Act.put, List.setIfInBounds_toArray, List.set_cons_succ, List.set_cons_zero]
        refine wpAnyH_takeD (some 35) (i := 4) (v := .int .u8 (x : Nat)) rfl rfl (by kernel_rfl) (by kernel_rfl) (by kernel_rfl) (fun _ _ _ h => h) (Or.inl ⟨rfl, fun W hW => by have c1 := hW.1; go_simp⟩) hS0 ?_
        simp only [Act.put, List.setIfInBounds_toArray, List.set_cons_succ, List.set_cons_zero]
        refine wpAnyH_takeD (some 36) (i := 5) (v := .slice (some ⟨rs, 0, none⟩) 16 16) rfl rfl (by kernel_rfl) (by kernel_rfl) (by kernel_rfl) (fun _ _ _ h => h) (Or.inl ⟨rfl, fun _ _ => rfl⟩) hS0 ?_
        simp only [Act.put, List.setIfInBounds_toArray, List.set_cons_succ, List.set_cons_zero]
        refine wpAnyH_takeD (some 37) (i := 6) (v := .int .i64 (i : Nat)) rfl rfl (by kernel_rfl) (by kernel_rfl) (by kernel_rfl) (fun _ _ _ h => h) (Or.inl ⟨rfl, fun _ _ => rfl⟩) hS0 ?_
        simp only [Act.put, List.setIfInBounds_toArray, List.set_cons_succ, List.set_cons_zero]
        refine wpAnyH_takeD (some 38) (i := 7) (v := .int .i64 (r : Nat)) rfl rfl (by kernel_rfl) (by kernel_rfl) (by kernel_rfl) (fun _ _ _ h => h) (Or.inl ⟨rfl, fun W _ => by go_simp⟩) hS0 ?_
        simp only [Act.put, List.setIfInBounds_toArray, List.set_cons_succ, List.set_cons_zero]
        refine wpAnyH_takeD (some 39) (i := 8) (v := .pointer (some ⟨rs, r, none⟩)) rfl rfl (by kernel_rfl) (by kernel_rfl) (by kernel_rfl) (fun _ _ _ h => h) (Or.inl ⟨rfl, fun W _ => by go_simp⟩) hS0 ?_
        simp only [Act.put, List.setIfInBounds_toArray, List.set_cons_succ, List.set_cons_zero]
        refine wpAnyH_takeD (some 40) (i := 9) (v := .int .u8 (y : Nat)) rfl rfl (by kernel_rfl) (by kernel_rfl) (by kernel_rfl) (fun _ _ _ h => h) (Or.inl ⟨rfl, fun W hW => by have c1 := hW.2; go_simp⟩) hS0 ?_
        simp only [Act.put, List.setIfInBounds_toArray, List.set_cons_succ, List.set_cons_zero]
        refine wpAnyH_takeD (some 41) (i := 10) (v := .int .u8 (v : Nat)) rfl rfl (by kernel_rfl) (by kernel_rfl) (by kernel_rfl) (fun _ _ _ h => h) (Or.inl ⟨rfl, fun W _ => by go_simp⟩) hS0 ?_
        simp only [Act.put, List.setIfInBounds_toArray, List.set_cons_succ, List.set_cons_zero]
        refine append_byte_tailV (v0 := u10) (m := i) (v := v) (f := G) 11 _ _ _ 31 41 42 43 10 rfl rfl rfl rfl rfl rfl rfl rfl rfl rfl rfl rfl rfl (by kernel_rfl) (by kernel_rfl) (by kernel_rfl) (by kernel_rfl) rfl rfl (by decide) (by simp) (by simp) hId.out (by omega)
          (fun W' hg => ⟨hg.cell hS0.1 (fun e => by have h9 := (hId.rows _ e.symm).1; change w.heap.size ≤ tb at h9; omega), hg.cell hS0.2 (fun e => hSd.row _ e.symm rfl)⟩) ?_
        intro B v' W3 hO3 hg3 hor
        simp only [Act.put, List.setIfInBounds_toArray, List.set_cons_succ, List.set_cons_zero]
        have hlc := hId.ctr.lt
        have hls := hSd.fill.lt (by decide)
        have hrow : ∀ g, v'.ownBlock = some g → w.heap.size ≤ g ∧ g ≠ gc ∧ g ≠ rs := fun g hg => by
          rcases hor with e | ⟨g', e, h5⟩
          · rw [e] at hg
            exact ⟨(hId.rows g hg).1, (hId.rows g hg).2.1, fun e2 => hSd.row g hg e2.symm⟩
          · rw [e] at hg
            cases hg
            have := hId.gr.size
            exact ⟨by omega, by omega, by omega⟩
        have hI4 : RTI w (ctrAt f (k + 1)) G (i + 1) v' gc capc W3 := ⟨hId.ctr.grown hg3 (fun e => (hId.rows _ e.symm).2.1 rfl), hO3.congr (fun z hz => by
            unfold cat
            by_cases e : z < i
            · rw [if_pos e]
            · rw [if_neg e, show z = i by omega, HGi.out]), fun g hg => ⟨(hrow g hg).1, (hrow g hg).2.1, hO3.row_lt g hg⟩, grown_none' hId.gr hg3 (fun g hg => (hId.rows g hg).1)⟩
        have hS4 : RTS v' rs s W3 := ⟨hSd.fill.grown (by decide) hg3 (fun e => hSd.row _ e.symm rfl), fun g hg e => (hrow g hg).2.2 e.symm⟩
        have e1 : (i + 1 + 15) / 16 = k + 1 := by have := Hk.out; omega
        have e2 : (i + 1) % 16 ≠ 0 → (i + 1) / 16 = k := fun h => by have := Hk.out; omega
        have HE1 := Lib.hid e1
        have HI4 := Lib.hid hI4
        have HS4 : Hid ((i + 1) % 16 ≠ 0 → RTS v' rs (strm R W f ((i + 1) / 16)) W3) := Lib.hid (fun h => by rw [e2 h, ← Hs.out]; exact hS4)
        clear e1 e2 hI4 hS4 hrow hor hO3 hg3 hlc hls hS0 hId hSd hxy
        go_wp2_with fail
        go_roundw
        case rel => first
          | exact ⟨i + 1, gc, capc, by omega, by go_num, rfl, by rw [HE1.out]; exact HI4.out, fun h => ⟨rs, rfl, HS4.out h⟩⟩
          | ((repeat apply Exists.intro); exact ⟨⟨i + 1, gc, capc, by omega, by go_num, rfl, by rw [HE1.out]; exact HI4.out, fun h => ⟨rs, rfl, HS4.out h⟩⟩, rfl⟩)
        case measure => simp [intOf]; omega
    · obtain rfl : i = nb := by omega
      have HI2 := Lib.hid hI
      clear hlt hi hI hS
      go_wp2_with fail
      go_ret
      exact ⟨u10, rfl, HI2.out.out.toN (fun g hg => (HI2.out.rows g hg).1), HI2.out.gr⟩

end Go.Proofs.YtlfopcigbgfnlaaDoor
namespace Go.Proofs.YtlfopcigbgfnlaaDoor
open Go.RowKit Go.Shelf

set_option maxRecDepth 100000
set_option maxHeartbeats 2000000

theorem rturn_enters (args : Array Value) (w : World) : (callFunc 43 args).run Tryd.prog w = .ok (.enter 43 args) w := enters_of Tryd.func43 (by kernel_rfl) rfl args w
theorem ctr_one (nf : Nat → Nat) (i : Nat) (hi : i < 16) : cat (0 + 12) (cat 0 (fun _ => 0) nf) (fourF 1) i = firstF nf i := by
  rw [← cat_first nf i hi]
  unfold cat
  rw [Nat.zero_add, if_neg (Nat.not_lt_zero _), Nat.sub_zero]
theorem ctr_two (nf : Nat → Nat) (i : Nat) (hi : i < 16) : cat (0 + 12) (cat 0 (fun _ => 0) nf) (fourF 2) i = nextF (firstF nf) i := by
  rw [← cat_second nf i hi]
  unfold cat
  rw [Nat.zero_add, if_neg (Nat.not_lt_zero _), Nat.sub_zero]

theorem rkturn_any (R rb gw capw nb cb cn : Nat) (an ab : Option Addr) (W nf F : Nat → Nat) (w : World) (hR1 : 1 ≤ R) (hR2 : R ≤ 14) (hB : Rd w w.heap.size (some ⟨rb, 0, none⟩) 256 sB) (hW : Rd w w.heap.size (some ⟨gw, 0, none⟩) (16 * (R + 1)) W)
    (hn : Rd w w.heap.size an 12 nf) (hb : Rd w w.heap.size ab nb F) (hWl : ∀ i, W i < 256) (hnl : ∀ i, nf i < 256) (hFl : ∀ i, F i < 256) (hnb : nb ≤ 2 ^ 40) :
    Calls Tryd.prog 26 #[.agg #[.slice (some ⟨rb, 0, none⟩) 256 256, .slice (some ⟨gw, 0, none⟩) (16 * (R + 1) : Nat) capw], .slice an 12 cn, .slice ab nb cb] w (GaveN w nb (turnF R W (nextF (firstF nf)) F)) := by
  have hK := keyAt_alloc w (.slice (some ⟨rb, 0, none⟩) 256 256) (.slice (some ⟨gw, 0, none⟩) (16 * (R + 1) : Nat) capw)
  have g1 := World.grownBy_alloc w (.cells #[.slice (some ⟨rb, 0, none⟩) 256 256, .slice (some ⟨gw, 0, none⟩) (16 * (R + 1) : Nat) capw] 32) none
  obtain ⟨F2, hF2⟩ : ∃ F2, F2 = nextF (firstF nf) := ⟨_, rfl⟩
  have hF2l : ∀ i, F2 i < 256 := fun i => by rw [hF2]; exact nextF_lt _ (firstF_lt nf hnl) i
  rw [← hF2]
  obtain ⟨G, hG⟩ : ∃ G, G = turnF R W F2 F := ⟨_, rfl⟩
  rw [← hG]
  have HT : Hid (∀ U g cap, w.grownBy U none → OwnR U g 16 cap F2 → Calls Tryd.prog 43 #[.slice (some ⟨rb, 0, none⟩) 256 256, .slice (some ⟨gw, 0, none⟩) (16 * (R + 1) : Nat) capw, .slice (some ⟨g, 0, none⟩) 16 cap, .slice ab nb cb] U fun e w' => ∃ v, e = .returned v ∧ OwnN w' w.heap.size v nb G ∧ U.grownBy w' none) := Lib.hid (fun U g cap hU hO => by
    have := rturn_any R rb gw capw cap nb cb ab (some ⟨g, 0, none⟩) W F2 F U hR1 hR2 (hB.up (Nat.le_refl _) hU) (hW.up (Nat.le_refl _) hU) hO.rd (hb.up (Nat.le_refl _) hU) hWl hF2l hFl hnb
    rw [← hG] at this
    exact this.mono fun e w' h => by
      obtain ⟨v, h1, h2, h3⟩ := h
      exact ⟨v, h1, h2.base hU.size, h3⟩)
  have HC : Hid (∀ i, i < 16 → cat (0 + 12) (cat 0 (fun _ => 0) nf) (fourF 2) i = F2 i) := Lib.hid (fun i hi => by rw [hF2]; exact ctr_two nf i hi)
  have HN := Lib.hid hn
  clear hB hW hn hb hWl hnl hFl hnb hG hF2 hF2l hR1 hR2
  go_enter Tryd.func26, Tryd.ntmps26
  go_upto_region 1 with fail
  generalize w.alloc (.cells #[.slice (some ⟨rb, 0, none⟩) 256 256, .slice (some ⟨gw, 0, none⟩) (16 * (R + 1) : Nat) capw] 32) = w1 at *
  have hkl : w.heap.size < w1.heap.size := hK.lt
  obtain ⟨V0, hV0⟩ : ∃ V0, V0 = w1.drew := ⟨_, rfl⟩
  have hv0 : w1.grownBy V0 none := by rw [hV0]; exact grown_drew (grown_refl w1 none)
  have HV0 := Lib.hid hV0.symm
  have gv := grown_trans g1 hv0
  have hKv := hK.grown hv0 (by simp)
  have hNv := HN.out.up (Nat.le_refl _) gv
  clear hV0 hv0 hK g1 HN
  refine wp_region_held (S := fun W => V0.grownBy W (none)) (by kernel_rfl) ?_
  change wpAnyH _ _ _ _ _ 12 #[false, false, false, false, false, false, false, false, false, false, false, false] _ (World.drew _)
  rw [HV0.out]
  have hS0 : V0.grownBy V0 (none) := grown_refl V0 _
  refine wpAnyH_takeD (some 7) (i := 0) (v := .pointer (some ⟨w.heap.size, 0, none⟩)) rfl rfl (by kernel_rfl) (by kernel_rfl) (by kernel_rfl) (fun _ _ _ h => h) (Or.inl ⟨rfl, fun _ _ => by go_simp⟩) hS0 ?_
  simp only [Act.put, List.setIfInBounds_toArray, List.set_cons_succ, List.set_cons_zero]
  refine wpAnyH_takeD (some 8) (i := 1) (v := .slice (some ⟨rb, 0, none⟩) 256 256) rfl rfl (by kernel_rfl) (by kernel_rfl) (by kernel_rfl) (fun _ _ _ h => h) (Or.inl ⟨rfl, fun W hW => by have c := (hKv.grown hW (by simp)).c0; go_simp⟩) hS0 ?_
  simp only [Act.put, List.setIfInBounds_toArray, List.set_cons_succ, List.set_cons_zero]
  refine wpAnyH_takeD (some 9) (i := 2) (v := .pointer (some ⟨w.heap.size, 1, none⟩)) rfl rfl (by kernel_rfl) (by kernel_rfl) (by kernel_rfl) (fun _ _ _ h => h) (Or.inl ⟨rfl, fun _ _ => by go_simp⟩) hS0 ?_
  simp only [Act.put, List.setIfInBounds_toArray, List.set_cons_succ, List.set_cons_zero]
  refine wpAnyH_takeD (some 10) (i := 3) (v := .slice (some ⟨gw, 0, none⟩) (16 * (R + 1) : Nat) capw) rfl rfl (by kernel_rfl) (by kernel_rfl) (by kernel_rfl) (fun _ _ _ h => h) (Or.inl ⟨rfl, fun W hW => by have c := (hKv.grown hW (by simp)).c1; go_simp⟩) hS0 ?_
  simp only [Act.put, List.setIfInBounds_toArray, List.set_cons_succ, List.set_cons_zero]
  refine wpAnyH_takeD (some 12) (i := 5) (v := .slice an 12 cn) rfl rfl (by kernel_rfl) (by kernel_rfl) (by kernel_rfl) (fun _ _ _ h => h) (Or.inl ⟨rfl, fun _ _ => rfl⟩) hS0 ?_
  simp only [Act.put, List.setIfInBounds_toArray, List.set_cons_succ, List.set_cons_zero]
  refine wpAnyH_takeD (some 16) (i := 9) (v := .slice ab nb cb) rfl rfl (by kernel_rfl) (by kernel_rfl) (by kernel_rfl) (fun _ _ _ h => h) (Or.inl ⟨rfl, fun _ _ => rfl⟩) hS0 ?_
  simp only [Act.put, List.setIfInBounds_toArray, List.set_cons_succ, List.set_cons_zero]
  refine wpAnyH_both (i := 4) (j := 7) (by kernel_rfl) ?_ ?_
  · refine (op_empty (some 11) rfl rfl rfl rfl hS0 ?_)
    intro V1 gg1 hS1 hE
    have lo_E := hS0.size
    have lt_E := hE.lt
    simp only [Act.put, List.setIfInBounds_toArray, List.set_cons_succ, List.set_cons_zero]
    have zz1 := gg1.size
    refine wpAnyH_both (i := 6) (j := 7) (by kernel_rfl) ?_ ?_
    · refine (op_app (some 13) (.tmp 11) (.tmp 12) rfl rfl rfl rfl rfl rfl (hE) (hNv.up (Nat.le_refl _) hS1) (by omega) hS1 (lo_E) ?_)
      intro V2 g_A cap_A gg2 hS2 hA or_A
      have lo_A : V0.heap.size ≤ g_A := by have := hS1.size; omega
      have lt_A := hA.lt
      simp only [Act.put, List.setIfInBounds_toArray, List.set_cons_succ, List.set_cons_zero]
      have zz2 := gg2.size
      refine wpAnyH_one (i := 7) (by kernel_rfl) (op_four (some 14) 2 rfl rfl rfl rfl hS2 ?_)
      intro V3 gg3 hS3 hD
      have lo_D := hS2.size
      have lt_D := hD.lt
      simp only [Act.put, List.setIfInBounds_toArray, List.set_cons_succ, List.set_cons_zero]
      have zz3 := gg3.size
      have hA_3 := hA.grown gg3 (by simp)
      refine wpAnyH_one (i := 8) (by kernel_rfl) (op_app (some 15) (.tmp 13) (.tmp 14) rfl rfl rfl rfl rfl rfl (hA_3) ((hD).rd) (by omega) hS3 (lo_A) ?_)
      intro V4 g_C cap_C gg4 hS4 hC or_C
      have lo_C : V0.heap.size ≤ g_C := by have := hS3.size; omega
      have lt_C := hC.lt
      simp only [Act.put, List.setIfInBounds_toArray, List.set_cons_succ, List.set_cons_zero]
      have zz4 := gg4.size
      have hD_4 := hD.grown gg4 (fun e => by have := Option.some.inj e; omega)
      refine wpAnyH_one (i := 10) (by kernel_rfl) (op_callR (R := fun v w' => OwnN w' w.heap.size v nb G ∧ V4.grownBy w' none) (some 17) 43 #[.slice (some ⟨rb, 0, none⟩) 256 256, .slice (some ⟨gw, 0, none⟩) (16 * (R + 1) : Nat) capw, .slice (some ⟨g_C, 0, none⟩) 16 cap_C, .slice ab nb cb] rfl rfl rfl (exec_fn4 _ _ _ _ _ _ _ _ _ rfl rfl rfl rfl rfl) rturn_enters (HT.out V4 _ _ (grown_trans gv hS4) ((hC).congr HC.out)) ?_)
      rintro vv5 V5 ⟨hx, gg5⟩
      have hS5 := grown_trans hS4 (grown_some gg5)
      refine ⟨hS5, ?_⟩
      simp only [Act.put, List.setIfInBounds_toArray, List.set_cons_succ, List.set_cons_zero]
      have zz5 := gg5.size
      have hD_5 := hD_4.grown gg5 (by simp)
      have hC_5 := hC.grown gg5 (by simp)
      refine wpAnyH_takeD (some 6) (i := 11) (v := vv5) rfl rfl (by kernel_rfl) (by kernel_rfl) (by kernel_rfl) (fun _ _ _ h => h) (Or.inl ⟨rfl, fun _ _ => rfl⟩) hS5 ?_
      simp only [Act.put, List.setIfInBounds_toArray, List.set_cons_succ, List.set_cons_zero]
      refine wpAnyH_done (by kernel_rfl) ?_ _
      go_wp2_with fail
      go_ret
      exact ⟨vv5, rfl, hx, grown_trans gv hS5⟩
    · refine (op_four (some 14) 2 rfl rfl rfl rfl hS1 ?_)
      intro V2 gg2 hS2 hD
      have lo_D := hS1.size
      have lt_D := hD.lt
      simp only [Act.put, List.setIfInBounds_toArray, List.set_cons_succ, List.set_cons_zero]
      have zz2 := gg2.size
      have hE_2 := hE.grown gg2 (by simp)
      refine wpAnyH_one (i := 6) (by kernel_rfl) (op_app (some 13) (.tmp 11) (.tmp 12) rfl rfl rfl rfl rfl rfl (hE_2) (hNv.up (Nat.le_refl _) hS2) (by omega) hS2 (lo_E) ?_)
      intro V3 g_A cap_A gg3 hS3 hA or_A
      have lo_A : V0.heap.size ≤ g_A := by have := hS2.size; omega
      have lt_A := hA.lt
      simp only [Act.put, List.setIfInBounds_toArray, List.set_cons_succ, List.set_cons_zero]
      have zz3 := gg3.size
      have hD_3 := hD.grown gg3 (fun e => by have := Option.some.inj e; omega)
      refine wpAnyH_one (i := 8) (by kernel_rfl) (op_app (some 15) (.tmp 13) (.tmp 14) rfl rfl rfl rfl rfl rfl (hA) ((hD_3).rd) (by omega) hS3 (lo_A) ?_)
      intro V4 g_C cap_C gg4 hS4 hC or_C
      have lo_C : V0.heap.size ≤ g_C := by have := hS3.size; omega
      have lt_C := hC.lt
      simp only [Act.put, List.setIfInBounds_toArray, List.set_cons_succ, List.set_cons_zero]
      have zz4 := gg4.size
      have hD_4 := hD_3.grown gg4 (fun e => by have := Option.some.inj e; omega)
      refine wpAnyH_one (i := 10) (by kernel_rfl) (op_callR (R := fun v w' => OwnN w' w.heap.size v nb G ∧ V4.grownBy w' none) (some 17) 43 #[.slice (some ⟨rb, 0, none⟩) 256 256, .slice (some ⟨gw, 0, none⟩) (16 * (R + 1) : Nat) capw, .slice (some ⟨g_C, 0, none⟩) 16 cap_C, .slice ab nb cb] rfl rfl rfl (exec_fn4 _ _ _ _ _ _ _ _ _ rfl rfl rfl rfl rfl) rturn_enters (HT.out V4 _ _ (grown_trans gv hS4) ((hC).congr HC.out)) ?_)
      rintro vv5 V5 ⟨hx, gg5⟩
      have hS5 := grown_trans hS4 (grown_some gg5)
      refine ⟨hS5, ?_⟩
      simp only [Act.put, List.setIfInBounds_toArray, List.set_cons_succ, List.set_cons_zero]
      have zz5 := gg5.size
      have hD_5 := hD_4.grown gg5 (by simp)
      have hC_5 := hC.grown gg5 (by simp)
      refine wpAnyH_takeD (some 6) (i := 11) (v := vv5) rfl rfl (by kernel_rfl) (by kernel_rfl) (by kernel_rfl) (fun _ _ _ h => h) (Or.inl ⟨rfl, fun _ _ => rfl⟩) hS5 ?_
      simp only [Act.put, List.setIfInBounds_toArray, List.set_cons_succ, List.set_cons_zero]
      refine wpAnyH_done (by kernel_rfl) ?_ _
      go_wp2_with fail
      go_ret
      exact ⟨vv5, rfl, hx, grown_trans gv hS5⟩
  · refine (op_four (some 14) 2 rfl rfl rfl rfl hS0 ?_)
    intro V1 gg1 hS1 hD
    have lo_D := hS0.size
    have lt_D := hD.lt
    simp only [Act.put, List.setIfInBounds_toArray, List.set_cons_succ, List.set_cons_zero]
    have zz1 := gg1.size
    refine wpAnyH_one (i := 4) (by kernel_rfl) (op_empty (some 11) rfl rfl rfl rfl hS1 ?_)
    intro V2 gg2 hS2 hE
    have lo_E := hS1.size
    have lt_E := hE.lt
    simp only [Act.put, List.setIfInBounds_toArray, List.set_cons_succ, List.set_cons_zero]
    have zz2 := gg2.size
    have hD_2 := hD.grown gg2 (by simp)
    refine wpAnyH_one (i := 6) (by kernel_rfl) (op_app (some 13) (.tmp 11) (.tmp 12) rfl rfl rfl rfl rfl rfl (hE) (hNv.up (Nat.le_refl _) hS2) (by omega) hS2 (lo_E) ?_)
    intro V3 g_A cap_A gg3 hS3 hA or_A
    have lo_A : V0.heap.size ≤ g_A := by have := hS2.size; omega
    have lt_A := hA.lt
    simp only [Act.put, List.setIfInBounds_toArray, List.set_cons_succ, List.set_cons_zero]
    have zz3 := gg3.size
    have hD_3 := hD_2.grown gg3 (fun e => by have := Option.some.inj e; omega)
    refine wpAnyH_one (i := 8) (by kernel_rfl) (op_app (some 15) (.tmp 13) (.tmp 14) rfl rfl rfl rfl rfl rfl (hA) ((hD_3).rd) (by omega) hS3 (lo_A) ?_)
    intro V4 g_C cap_C gg4 hS4 hC or_C
    have lo_C : V0.heap.size ≤ g_C := by have := hS3.size; omega
    have lt_C := hC.lt
    simp only [Act.put, List.setIfInBounds_toArray, List.set_cons_succ, List.set_cons_zero]
    have zz4 := gg4.size
    have hD_4 := hD_3.grown gg4 (fun e => by have := Option.some.inj e; omega)
    refine wpAnyH_one (i := 10) (by kernel_rfl) (op_callR (R := fun v w' => OwnN w' w.heap.size v nb G ∧ V4.grownBy w' none) (some 17) 43 #[.slice (some ⟨rb, 0, none⟩) 256 256, .slice (some ⟨gw, 0, none⟩) (16 * (R + 1) : Nat) capw, .slice (some ⟨g_C, 0, none⟩) 16 cap_C, .slice ab nb cb] rfl rfl rfl (exec_fn4 _ _ _ _ _ _ _ _ _ rfl rfl rfl rfl rfl) rturn_enters (HT.out V4 _ _ (grown_trans gv hS4) ((hC).congr HC.out)) ?_)
    rintro vv5 V5 ⟨hx, gg5⟩
    have hS5 := grown_trans hS4 (grown_some gg5)
    refine ⟨hS5, ?_⟩
    simp only [Act.put, List.setIfInBounds_toArray, List.set_cons_succ, List.set_cons_zero]
    have zz5 := gg5.size
    have hD_5 := hD_4.grown gg5 (by simp)
    have hC_5 := hC.grown gg5 (by simp)
    refine wpAnyH_takeD (some 6) (i := 11) (v := vv5) rfl rfl (by kernel_rfl) (by kernel_rfl) (by kernel_rfl) (fun _ _ _ h => h) (Or.inl ⟨rfl, fun _ _ => rfl⟩) hS5 ?_
    simp only [Act.put, List.setIfInBounds_toArray, List.set_cons_succ, List.set_cons_zero]
    refine wpAnyH_done (by kernel_rfl) ?_ _
    go_wp2_with fail
    go_ret
    exact ⟨vv5, rfl, hx, grown_trans gv hS5⟩
end Go.Proofs.YtlfopcigbgfnlaaDoor
namespace Go.Proofs.YtlfopcigbgfnlaaDoor

set_option maxRecDepth 100000

theorem par_add {x y : Nat} {p q : Bool} (hx : x % 2 = p.toNat) (hy : y % 2 = q.toNat) : (x + y) % 2 = (p ^^ q).toNat := by
  cases p <;> cases q <;> simp at hx hy ⊢ <;> omega
/-- After n bits of a. -/
def cnt (a b : Nat) : Nat → Nat → Nat
  | 0, _ => 0
  | n + 1, j => cnt a b n j + (if a.testBit n then (if n ≤ j ∧ j < n + 128 then (b.testBit (j - n)).toNat else 0) else 0)
/-- And k bits of b. -/
def cntI (a b n k j : Nat) : Nat := cnt a b n j + (if n ≤ j ∧ j < n + k then (b.testBit (j - n)).toNat else 0)
theorem cntI_zero (a b n : Nat) : cntI a b n 0 = cnt a b n := by
  funext j
  unfold cntI
  rw [if_neg (by omega), Nat.add_zero]
theorem cntI_step (a b n k : Nat) : upd (cntI a b n k) (n + k) (cntI a b n k (n + k) + (b.testBit k).toNat) = cntI a b n (k + 1) := by
  funext j
  unfold upd cntI
  by_cases e : j = n + k
  · subst e
    rw [if_pos rfl, if_neg (by omega), if_pos (by omega), Nat.add_zero, show n + k - n = k by omega]
  · rw [if_neg e]
    by_cases e2 : n ≤ j ∧ j < n + k
    · rw [if_pos e2, if_pos (by omega)]
    · rw [if_neg e2, if_neg (by omega)]
theorem cntI_end (a b n : Nat) (h : a.testBit n = true) : cntI a b n 128 = cnt a b (n + 1) := by
  funext j
  show _ = cnt a b n j + (if a.testBit n then _ else 0)
  rw [h]
  rfl
theorem cnt_skip (a b n : Nat) (h : a.testBit n = false) : cnt a b (n + 1) = cnt a b n := by
  funext j
  show cnt a b n j + (if a.testBit n then _ else 0) = _
  rw [h]
  rfl
theorem cnt_le (a b j : Nat) : ∀ n, cnt a b n j ≤ n
  | 0 => Nat.le_refl _
  | n + 1 => by
    have ih := cnt_le a b j n
    have := Bool.toNat_le (b.testBit (j - n))
    show cnt a b n j + _ ≤ n + 1
    split
    · split <;> omega
    · omega
theorem cntI_le (a b n k j : Nat) : cntI a b n k j ≤ n + 1 := by
  have ih := cnt_le a b j n
  have := Bool.toNat_le (b.testBit (j - n))
  unfold cntI
  split <;> omega
theorem cnt_odd (a b : Nat) (hb : b < 2 ^ 128) (j : Nat) : ∀ n, cnt a b n j % 2 = ((gCv a b n).testBit j).toNat
  | 0 => by
    show 0 % 2 = ((0 : Nat).testBit j).toNat
    simp
  | n + 1 => by
    show (cnt a b n j + _) % 2 = ((gCv a b n ^^^ _).testBit j).toNat
    rw [Nat.testBit_xor]
    refine par_add (cnt_odd a b hb j n) ?_
    cases a.testBit n
    · simp
    · rw [if_pos rfl, if_pos rfl, Nat.testBit_mul_two_pow]
      by_cases e : n ≤ j ∧ j < n + 128
      · rw [if_pos e, decide_eq_true e.1, Bool.true_and]
        cases b.testBit (j - n) <;> rfl
      · rw [if_neg e]
        by_cases e2 : n ≤ j
        · rw [bit_great hb (by omega), Bool.and_false]
          rfl
        · rw [decide_eq_false e2]
          rfl

/-! Folded down. -/
abbrev at4 (i j : Nat) : Prop := j + 128 = i ∨ j + 127 = i ∨ j + 126 = i ∨ j + 121 = i
/-- After the m highest are folded. -/
def fdS (c : Nat → Nat) : Nat → Nat → Nat
  | 0, j => c j
  | m + 1, j => fdS c m j + (if fdS c m (255 - m) % 2 = 1 then (if at4 (255 - m) j then 1 else 0) else 0)
theorem fdS_le (c : Nat → Nat) (j : Nat) : ∀ m, fdS c m j ≤ c j + m
  | 0 => Nat.le_refl _
  | m + 1 => by
    have ih := fdS_le c j m
    show fdS c m j + _ ≤ _
    split
    · split <;> omega
    · omega
theorem fdS_skip (c : Nat → Nat) (m : Nat) (h : fdS c m (255 - m) % 2 ≠ 1) : fdS c (m + 1) = fdS c m := by
  funext j
  show fdS c m j + _ = _
  rw [if_neg h, Nat.add_zero]
theorem fdS_step (c : Nat → Nat) (m : Nat) (hm : m < 128) (h : fdS c m (255 - m) % 2 = 1) : upd (upd (upd (upd (fdS c m) (255 - m - 128) (fdS c m (255 - m - 128) + 1)) (255 - m - 127) (fdS c m (255 - m - 127) + 1)) (255 - m - 126) (fdS c m (255 - m - 126) + 1)) (255 - m - 121) (fdS c m (255 - m - 121) + 1) = fdS c (m + 1) := by
  funext j
  show _ = fdS c m j + _
  rw [if_pos h]
  unfold upd at4
  by_cases e1 : j = 255 - m - 121
  · rw [if_pos e1, if_pos (by omega), e1]
  · rw [if_neg e1]
    by_cases e2 : j = 255 - m - 126
    · rw [if_pos e2, if_pos (by omega), e2]
    · rw [if_neg e2]
      by_cases e3 : j = 255 - m - 127
      · rw [if_pos e3, if_pos (by omega), e3]
      · rw [if_neg e3]
        by_cases e4 : j = 255 - m - 128
        · rw [if_pos e4, if_pos (by omega), e4]
        · rw [if_neg e4, if_neg (by omega), Nat.add_zero]
theorem bit135 (x : Nat) : (135 : Nat).testBit x = decide (x = 0 ∨ x = 1 ∨ x = 2 ∨ x = 7) := by
  by_cases e : x < 8
  · have h : (List.range 8).all (fun x => (135 : Nat).testBit x == decide (x = 0 ∨ x = 1 ∨ x = 2 ∨ x = 7)) = true := by decide
    simpa using all_range h x e
  · rw [bit_great (v := 135) (n := 8) (by decide) (by omega), eq_comm, decide_eq_false (by omega)]
theorem fdS_odd (c : Nat → Nat) (C : Nat) (hc : ∀ j, c j % 2 = (C.testBit j).toNat) : ∀ m, m ≤ 128 → ∀ j, fdS c m j % 2 = ((gFo (256 - m) m C).testBit j).toNat
  | 0, _, j => hc j
  | m + 1, hm, j => by
    have ih := fdS_odd c C hc m (by omega)
    rw [gFo_last, show 256 - (m + 1) + 1 = 256 - m by omega, show 256 - (m + 1) = 255 - m by omega]
    generalize gFo (256 - m) m C = v at ih
    show (fdS c m j + _) % 2 = ((v ^^^ _).testBit j).toNat
    rw [Nat.testBit_xor]
    refine par_add (ih j) ?_
    have hi := ih (255 - m)
    cases e : v.testBit (255 - m) with
    | false =>
      rw [e] at hi
      rw [if_neg (by rw [hi]; decide)]
      simp
    | true =>
      rw [e] at hi
      rw [if_pos (by rw [hi]; rfl), if_pos rfl, Nat.testBit_mul_two_pow, bit135]
      unfold at4
      by_cases e2 : j + 128 = 255 - m ∨ j + 127 = 255 - m ∨ j + 126 = 255 - m ∨ j + 121 = 255 - m
      · rw [if_pos e2, decide_eq_true (by omega), decide_eq_true (by omega)]
        rfl
      · rw [if_neg e2]
        by_cases e3 : 255 - m - 128 ≤ j
        · rw [decide_eq_false (p := j - (255 - m - 128) = 0 ∨ _) (by omega), Bool.and_false]
          rfl
        · rw [decide_eq_false e3]
          rfl
/-- What is odd in the end is the product. -/
theorem fdS_mul (a b : Nat) (hb : b < 2 ^ 128) (j : Nat) (hj : j < 128) : fdS (cnt a b 128) 128 j % 2 = ((gMul a b).testBit j).toNat := by
  rw [fdS_odd _ _ (fun j => cnt_odd a b hb j 128) 128 (Nat.le_refl _) j]
  unfold gMul
  rw [Nat.testBit_mod_two_pow, decide_eq_true hj, Bool.true_and]
theorem fdS_bound (a b m j : Nat) (hm : m ≤ 128) : fdS (cnt a b 128) m j ≤ 256 := by
  have := fdS_le (cnt a b 128) j m
  have := cnt_le a b j 128
  omega
/-- Blocks that are written bit by bit: those ahead of i, and k bits. -/
def outS (v i k j : Nat) : Nat := if j < i then un v j else if j = i then unW v (8 * i) k else 0
theorem outS_zero (v j : Nat) : outS v 0 0 j = 0 := by
  unfold outS
  rw [if_neg (by omega)]
  split <;> rfl
theorem outS_step (v i k : Nat) : upd (outS v i k) i (2 * outS v i k i + (v.testBit (8 * i + k)).toNat) = outS v i (k + 1) := by
  funext j
  unfold upd outS
  by_cases e : j = i
  · subst e
    rw [if_pos rfl, if_neg (Nat.lt_irrefl j), if_pos rfl, if_neg (Nat.lt_irrefl j), if_pos rfl]
    rfl
  · rw [if_neg e, if_neg e, if_neg e]
theorem outS_next (v i : Nat) : outS v i 8 = outS v (i + 1) 0 := by
  funext j
  unfold outS
  by_cases e : j = i
  · subst e
    rw [if_neg (by omega), if_pos rfl, if_pos (by omega)]
    rfl
  · by_cases e2 : j < i
    · rw [if_pos e2, if_pos (by omega)]
    · rw [if_neg e2, if_neg e, if_neg (by omega)]
      split <;> rfl
theorem outS_end (v j : Nat) (hj : j < 16) : outS v 16 0 j = un v j := by
  unfold outS
  rw [if_pos hj]
theorem outS_lt (v i k j : Nat) (hk : k ≤ 8) : outS v i k j < 256 := by
  unfold outS
  split
  · exact un_lt _ _
  · split
    · exact Nat.lt_of_lt_of_le (unW_lt v (8 * i) k) (Nat.pow_le_pow_right (by decide) hk)
    · decide
theorem outS_half (v i k : Nat) (hk : k ≤ 7) : outS v i k i < 128 := by
  unfold outS
  rw [if_neg (by omega), if_pos rfl]
  exact Nat.lt_of_lt_of_le (unW_lt v (8 * i) k) (Nat.pow_le_pow_right (n := 2) (by decide) hk)
end Go.Proofs.YtlfopcigbgfnlaaDoor
namespace Go.Proofs.YtlfopcigbgfnlaaDoor
open Go.RowKit

set_option maxRecDepth 100000
set_option maxHeartbeats 1000000

theorem rbit_any (a : Option Addr) (c i : Nat) (f : Nat → Nat) (w : World) (hi : i < 128) (hR : Rd w w.heap.size a 16 f) (hf : ∀ i, f i < 256) :
    Calls Tryd.prog 36 #[.slice a 16 c, .int .i64 i] w fun e w' => e = .returned (.int .i64 ((pb f i).toNat : Nat)) ∧ w = w' := by
  obtain ⟨tb, o, rfl, _, hcell⟩ := hR.ex (by decide)
  obtain ⟨q, hq⟩ : ∃ q, q = i / 8 := ⟨_, rfl⟩
  obtain ⟨r, hr⟩ : ∃ q, q = i % 8 := ⟨_, rfl⟩
  have x1 : (i : Int).tdiv 8 = (q : Int) := by rw [Int.tdiv_eq_ediv_of_nonneg (by omega)]; omega
  have x2 : (i : Int).tmod 8 = (r : Int) := by rw [Int.tmod_eq_emod_of_nonneg (by omega)]; omega
  have x3 : (i : Int) / 8 = (q : Int) := by omega
  have x4 : (i : Int) % 8 = (r : Int) := by omega
  have j1 : (q : Int) < 16 := by omega
  have j2 : (r : Int) ≤ 7 := by omega
  have c0 := hcell q (by omega)
  have hv := pb_nat f i
  rw [← hq, ← hr] at hv
  have hfq := hf q
  generalize pb f i = p at *
  generalize f q = b at *
  have j3 : (b : Int) < 256 := by omega
  have HV := Lib.hid hv
  clear hv hq hr hcell hR hi hf
  go_enter Tryd.func36, Tryd.ntmps36
  go_wp2_with fail
  go_loop [5, 6] (fun u5 u6 => ∃ k : Nat, r ≤ k ∧ k ≤ 7 ∧ u6 = .int .i64 k ∧ ∃ x : Nat, u5 = .int .i64 x ∧ x < 256 ∧ Hid (x = b / 2 ^ (k - r))) (fun _ u6 => 7 - (intOf u6).toNat)
  case atStart => exact ⟨r, Nat.le_refl _, by omega, rfl, b, rfl, hfq, Lib.hid (by rw [Nat.sub_self]; simp)⟩
  case round =>
    obtain ⟨k, hk1, hk2, rfl, x, rfl, hx1, hx⟩ := hrel
    by_cases hlt : k < 7
    · have i1 : (k : Int) < 7 := by omega
      have y1 : (x : Int).tdiv 2 = ((x / 2 : Nat) : Int) := by rw [Int.tdiv_eq_ediv_of_nonneg (by omega)]; omega
      have y3 : (x : Int) / 2 = ((x / 2 : Nat) : Int) := by omega
      have hx2 : Hid (x / 2 = b / 2 ^ (k + 1 - r)) := Lib.hid (by rw [hx.out, show k + 1 - r = (k - r) + 1 by omega, Nat.pow_succ, Nat.div_div_eq_div_mul])
      have hx3 : x / 2 < 256 := by omega
      generalize x / 2 = x' at *
      clear hx
      go_wp2_with fail
      exact ⟨⟨k + 1, by omega, by omega, by go_num, x', by go_num, hx3, hx2⟩, by simp [intOf]; omega⟩
    · obtain rfl : k = 7 := by omega
      have e := HV.out
      rw [← hx.out] at e
      have y2 : (x : Int).tmod 2 = ((p.toNat : Nat) : Int) := by rw [Int.tmod_eq_emod_of_nonneg (by omega)]; omega
      have y4 : (x : Int) % 2 = ((p.toNat : Nat) : Int) := by omega
      have y5 := Bool.toNat_le p
      obtain ⟨v, hv⟩ : ∃ v, v = p.toNat := ⟨_, rfl⟩
      rw [← hv] at y2 y4 y5
      have HP := Lib.hid hv.symm
      clear hv
      clear e hx HV
      go_wp2_with fail
      go_ret
      exact ⟨by rw [HP.out]; rfl, rfl⟩

/-- N numbers at block r, that may be written. -/
structure FillI (w : World) (r N : Nat) (f : Nat → Nat) : Prop where
  cell : ∀ i, i < N → w.cell? ⟨r, i, none⟩ = some (.int .i64 (f i))
  free : ∀ i, w.frozen? ⟨r, i, none⟩ = false
theorem FillI.lt {w : World} {r N : Nat} {f : Nat → Nat} (h : FillI w r N f) (hN : 0 < N) : r < w.heap.size := World.block_lt_of_cell? w _ (h.cell 0 hN)
theorem FillI.of_block {w w' : World} {r N : Nat} {f : Nat → Nat} (h : FillI w r N f) (e : w'.heap[r]? = w.heap[r]?) : FillI w' r N f :=
  ⟨fun i hi => (World.cell?_of_block (a := ⟨r, i, none⟩) e).trans (h.cell i hi), fun i => (World.frozen?_of_block (a := ⟨r, i, none⟩) e).trans (h.free i)⟩
theorem FillI.grown {w w' : World} {r N : Nat} {f : Nat → Nat} (h : FillI w r N f) (hN : 0 < N) {row : Option Nat} (g : w.grownBy w' row) (hr : some r ≠ row) : FillI w' r N f := h.of_block (g.block r (h.lt hN) hr)
theorem FillI.set {w : World} {r N : Nat} {f : Nat → Nat} (h : FillI w r N f) (i v : Nat) (hi : i < N) : FillI (w.setCell ⟨r, i, none⟩ (.int .i64 v)) r N (upd f i v) where
  cell := fun j hj => by
    by_cases e : j = i
    · subst e; rw [upd_same]; exact World.cell?_setCell_same w _ _ (h.cell j hj)
    · rw [upd_other _ _ _ _ e]; exact cell_set (h.cell j hj) (ne_off (fun e' => e e'.symm))
  free := fun j => by rw [World.frozen?_setCell]; exact h.free j
theorem FillI.congr {w : World} {r N : Nat} {f g : Nat → Nat} (h : FillI w r N f) (e : ∀ i, i < N → f i = g i) : FillI w r N g := ⟨fun i hi => by rw [← e i hi]; exact h.cell i hi, h.free⟩
theorem info_int : (Tryd.prog.info? 3).map (fun i => (i.zero, i.size, i.bytes)) = some (some (.int .i64 0), 1, 8) := by kernel_rfl
theorem makeI_any (n : Nat) (hn : n < 2 ^ 40) (w : World) : ∃ c, (Instr.makeSlice 69 (.int .i64 n) (.int .i64 n)).run Tryd.prog w = .ok (.slice (some ⟨w.heap.size, 0, none⟩) n n) (w.alloc (.cells c 3)) ∧ FillI (w.alloc (.cells c 3)) w.heap.size n (fun _ => 0) := by
  obtain ⟨i0, hi, hz, hs, hby⟩ := info_parts info_int
  have hr := run_make (P := Tryd.prog) w 69 3 i0 (.int .i64 0) (by kernel_rfl) hi hz .i64 .i64 n n (by omega) (Int.le_refl _) (by rw [hby]; omega) (by omega)
  rw [hs] at hr
  simp only [Int.toNat_natCast, Nat.mul_one] at hr
  have hb := heap_alloc_new w (.cells (madeCells (Value.cells (.int .i64 0)) n) 3)
  refine ⟨_, hr, ⟨fun i hi => ?_, fun i => frozen_of_row _ _ _ _ _ hb⟩⟩
  rw [cell_of_row _ _ _ _ _ _ hb]
  simp [madeCells, hi, Value.cells, Nat.mod_one]

theorem rtimes_any (aa ab : Option Addr) (ca cb : Nat) (f g : Nat → Nat) (w : World) (hA : Rd w w.heap.size aa 16 f) (hB : Rd w w.heap.size ab 16 g) (hf : ∀ i, f i < 256) (hg : ∀ i, g i < 256) :
    Calls Tryd.prog 22 #[.slice aa 16 ca, .slice ab 16 cb] w fun e w' => ∃ r, e = .returned (.slice (some ⟨r, 0, none⟩) 16 16) ∧ Fill w' r 16 (mulF f g) ∧ w.heap.size ≤ r ∧ w.grownBy w' none := by
  obtain ⟨A, hAd⟩ : ∃ A, A = pl f := ⟨_, rfl⟩
  obtain ⟨B, hBd⟩ : ∃ B, B = pl g := ⟨_, rfl⟩
  have hBl : B < 2 ^ 128 := by rw [hBd]; exact pl_lt g
  have hCA : ∀ (U : World) (i : Nat), w.grownBy U none → i < 128 → Calls Tryd.prog 36 #[.slice aa 16 ca, .int .i64 i] U fun e w' => e = .returned (.int .i64 ((A.testBit i).toNat : Nat)) ∧ U = w' := fun U i hU hi => by
    rw [hAd, pl_bit f i hi]
    exact rbit_any aa ca i f U hi (hA.up (Nat.le_refl _) hU) hf
  have hCB : ∀ (U : World) (i : Nat), w.grownBy U none → i < 128 → Calls Tryd.prog 36 #[.slice ab 16 cb, .int .i64 i] U fun e w' => e = .returned (.int .i64 ((B.testBit i).toNat : Nat)) ∧ U = w' := fun U i hU hi => by
    rw [hBd, pl_bit g i hi]
    exact rbit_any ab cb i g U hi (hB.up (Nat.le_refl _) hU) hg
  obtain ⟨c1, hm1, hF1⟩ := makeI_any 256 (by decide) w
  have hm1' : (Instr.makeSlice 69 (.int .i64 256) (.int .i64 256)).run Tryd.prog w = .ok (.slice (some ⟨w.heap.size, 0, none⟩) 256 256) (w.alloc (.cells c1 3)) := hm1
  have hg1 := World.grownBy_alloc w (.cells c1 3) none
  have hz1 := World.size_alloc w (.cells c1 3)
  have HO : Hid (mulF f g = fun j => un (gMul A B) j) := Lib.hid (by rw [hAd, hBd]; rfl)
  have HCA := Lib.hid hCA
  have HCB := Lib.hid hCB
  have HBl := Lib.hid hBl
  clear hm1 hCA hCB hA hB hf hg hAd hBd hBl
  go_enter Tryd.func22, Tryd.ntmps22
  go_wp2_with fail
  generalize w.alloc (.cells c1 3) = w1 at *
  generalize hrs : w.heap.size = rs at *
  clear hm1'
  go_loopw [6, 7] (fun u6 _ wr => ∃ i : Nat, i ≤ 128 ∧ u6 = .int .i64 i ∧ w.grownBy wr none ∧ FillI wr rs 256 (cnt A B i)) (fun u6 _ _ => 128 - (intOf u6).toNat)
  case atStart => exact ⟨0, by omega, rfl, hg1, hF1⟩
  case round =>
    clear hg1 hF1 hz1
    obtain ⟨i, hi, rfl, hgr, hF⟩ := hrel
    by_cases hlt : i < 128
    · have j1 : (i : Int) < 128 := by omega
      have HF := Lib.hid hF
      have Hgr := Lib.hid hgr
      clear hF hgr
      go_wp2_with fail
      go_at_call 36
      with_reducible refine (HCA.out _ i Hgr.out hlt).mono ?_
      rintro e w2 ⟨rfl, rfl⟩
      have hgr := Hgr.out
      have hF := HF.out
      clear HF Hgr
      cases hb : A.testBit i with
      | false =>
        have HE : Hid (cnt A B i = cnt A B (i + 1)) := Lib.hid (cnt_skip A B i hb).symm
        have HF := Lib.hid hF
        have Hgr := Lib.hid hgr
        clear hF hgr hb
        go_wp2_with fail
        exact ⟨⟨i + 1, by omega, by go_num, Hgr.out, by rw [← HE.out]; exact HF.out⟩, by simp [intOf]; omega⟩
      | true =>
        have HE : Hid (cntI A B i 128 = cnt A B (i + 1)) := Lib.hid (cntI_end A B i hb)
        clear hb
        go_wp2_with fail
        go_loopw [7] (fun u7 wr => ∃ k : Nat, k ≤ 128 ∧ u7 = .int .i64 k ∧ w.grownBy wr none ∧ FillI wr rs 256 (cntI A B i k)) (fun u7 _ => 128 - (intOf u7).toNat)
        case atStart => exact ⟨0, by omega, rfl, hgr, by rw [cntI_zero]; exact hF⟩
        case round =>
          clear hgr hF
          obtain ⟨k, hk, rfl, hgr, hF⟩ := hrel
          by_cases hkt : k < 128
          · have i1 : (k : Int) < 128 := by omega
            obtain ⟨p, hp⟩ : ∃ p, p = i + k := ⟨_, rfl⟩
            have x1 : (i : Int) + (k : Int) = (p : Int) := by omega
            have i2 : (p : Int) < 256 := by omega
            obtain ⟨U, hU⟩ : ∃ U, U = wr.drew := ⟨_, rfl⟩
            have gU : w.grownBy U none := by rw [hU]; exact grown_drew hgr
            have hFU : FillI U rs 256 (cntI A B i k) := by rw [hU]; exact hF.of_block rfl
            have c0 := hFU.cell p (by omega)
            have f0 := hFU.free p
            have hC := HCB.out U k gU hkt
            have v1 := cntI_le A B i k p
            have b1 := Bool.toNat_le (B.testBit k)
            have hst := cntI_step A B i k
            rw [← hp] at hst
            obtain ⟨s, hs⟩ : ∃ s, s = cntI A B i k p + (B.testBit k).toNat := ⟨_, rfl⟩
            have x2 : ((cntI A B i k p : Nat) : Int) + (((B.testBit k).toNat : Nat) : Int) = (s : Int) := by omega
            have hF5 : FillI (U.setCell ⟨rs, p, none⟩ (.int .i64 (s : Nat))) rs 256 (cntI A B i (k + 1)) := by
              rw [← hst, ← hs]
              exact hFU.set p s (by omega)
            have hg5 := grown_setCell_new gU ⟨rs, p, none⟩ (.int .i64 (s : Nat)) (Or.inl (by show w.heap.size ≤ rs; omega))
            have w0 : IntKind.i64.wrap (p : Int) = (p : Int) := by rw [IntKind.wrap_i64]; omega
            have w1 : IntKind.i64.wrap (s : Int) = (s : Int) := by rw [IntKind.wrap_i64]; omega
            generalize cntI A B i k p = v at *
            generalize (B.testBit k).toNat = b at *
            have HC := Lib.hid hC
            have HF5 := Lib.hid hF5
            have HG5 := Lib.hid hg5
            have HU := Lib.hid hU.symm
            clear hp hU gU hFU hC hst hs hF5 hg5 hgr hF hk
            go_wp2_with fail
            refine wp_region_still_tail 15 (by kernel_rfl) (by kernel_rfl) ?_
            change wpStill _ _ (World.drew wr) (fun a' => wpList _ _ _ _ a' (World.drew wr)) _ _
            rw [HU.out]
            simp only [List.take_succ_cons, List.take_zero, List.drop_succ_cons, List.drop_zero]
            repeat still_step
            still_call (HC.out.mono fun _ _ h => ⟨h.1, h.2.symm⟩)
            repeat still_step
            refine wpStill_nil ?_
            go_wp2_with fail
            exact ⟨⟨k + 1, by omega, by go_num, HG5.out, HF5.out⟩, by simp [intOf]; omega⟩
          · obtain rfl : k = 128 := by omega
            have HF := Lib.hid hF
            have Hgr := Lib.hid hgr
            clear hF hgr hk hkt
            go_wp2_with fail
            first
              | exact ⟨⟨i + 1, by omega, by go_num, Hgr.out, by rw [← HE.out]; exact HF.out⟩, by simp [intOf]; omega⟩
              | (go_roundw
                 case rel => exact ⟨i + 1, by omega, by go_num, Hgr.out, by rw [← HE.out]; exact HF.out⟩
                 case measure => simp [intOf]; omega)
    · obtain rfl : i = 128 := by omega
      obtain ⟨c, hc⟩ : ∃ c, c = cnt A B 128 := ⟨_, rfl⟩
      have hcl : ∀ m j, m ≤ 128 → fdS c m j ≤ 256 := fun m j hm => by rw [hc]; exact fdS_bound A B m j hm
      have hmul : ∀ j, j < 128 → fdS c 128 j % 2 = ((gMul A B).testBit j).toNat := fun j hj => by rw [hc]; exact fdS_mul A B HBl.out j hj
      rw [← hc] at hF
      have Hcl := Lib.hid hcl
      have Hmul := Lib.hid hmul
      clear hc hcl hmul hlt hi
      go_wp2_with fail
      go_loopw [8] (fun u8 wr => ∃ m : Nat, m ≤ 128 ∧ u8 = .int .i64 (255 - m : Nat) ∧ w.grownBy wr none ∧ FillI wr rs 256 (fdS c m)) (fun u8 _ => (intOf u8).toNat)
      case atStart => exact ⟨0, by omega, rfl, hgr, hF⟩
      case round =>
        clear hgr hF
        obtain ⟨m, hm, rfl, hgr, hF⟩ := hrel
        by_cases hmt : m < 128
        · obtain ⟨p, hp⟩ : ∃ p, p = 255 - m := ⟨_, rfl⟩
          rw [← hp]
          have i1 : (128 : Int) ≤ p := by omega
          have i2 : (p : Int) < 256 := by omega
          have c0 := hF.cell p (by omega)
          have l0 := Hcl.out m p (by omega)
          have x2 : ((fdS c m p : Nat) : Int).tmod 2 = ((fdS c m p % 2 : Nat) : Int) := by rw [Int.tmod_eq_emod_of_nonneg (by omega)]; omega
          have x3 : ((fdS c m p : Nat) : Int) % 2 = ((fdS c m p % 2 : Nat) : Int) := by omega
          by_cases hodd : fdS c m p % 2 = 1
          · have hst := fdS_step c m hmt (by rw [← hp]; exact hodd)
            rw [← hp] at hst
            rw [hodd] at x2 x3
            obtain ⟨q1, hq1⟩ : ∃ q, q = p - 128 := ⟨_, rfl⟩
            have y1 : (p : Int) - 128 = (q1 : Int) := by omega
            have z1 : (q1 : Int) < 256 := by omega
            rw [← hq1] at hst
            obtain ⟨q2, hq2⟩ : ∃ q, q = p - 127 := ⟨_, rfl⟩
            have y2 : (p : Int) - 127 = (q2 : Int) := by omega
            have z2 : (q2 : Int) < 256 := by omega
            rw [← hq2] at hst
            obtain ⟨q3, hq3⟩ : ∃ q, q = p - 126 := ⟨_, rfl⟩
            have y3 : (p : Int) - 126 = (q3 : Int) := by omega
            have z3 : (q3 : Int) < 256 := by omega
            rw [← hq3] at hst
            obtain ⟨q4, hq4⟩ : ∃ q, q = p - 121 := ⟨_, rfl⟩
            have y4 : (p : Int) - 121 = (q4 : Int) := by omega
            have z4 : (q4 : Int) < 256 := by omega
            rw [← hq4] at hst
            have d1 := Hcl.out m q1 (by omega)
            have d2 := Hcl.out m q2 (by omega)
            have d3 := Hcl.out m q3 (by omega)
            have d4 := Hcl.out m q4 (by omega)
            have c1 := hF.cell q1 (by omega)
            have f1 := hF.free q1
            obtain ⟨s1, hs1⟩ : ∃ s, s = fdS c m q1 + 1 := ⟨_, rfl⟩
            have e1 : ((fdS c m q1 : Nat) : Int) + 1 = (s1 : Int) := by omega
            have hF1 := hF.set q1 s1 (by omega)
            have hg1 := grown_setCell_new hgr ⟨rs, q1, none⟩ (.int .i64 (s1 : Nat)) (Or.inl (by show w.heap.size ≤ rs; omega))
            have c2 := hF1.cell q2 (by omega)
            have f2 := hF1.free q2
            rw [upd_other _ _ _ _ (by omega : q2 ≠ q1)] at c2
            obtain ⟨s2, hs2⟩ : ∃ s, s = fdS c m q2 + 1 := ⟨_, rfl⟩
            have e2 : ((fdS c m q2 : Nat) : Int) + 1 = (s2 : Int) := by omega
            have hF2 := hF1.set q2 s2 (by omega)
            have hg2 := grown_setCell_new hg1 ⟨rs, q2, none⟩ (.int .i64 (s2 : Nat)) (Or.inl (by show w.heap.size ≤ rs; omega))
            have c3 := hF2.cell q3 (by omega)
            have f3 := hF2.free q3
            rw [upd_other _ _ _ _ (by omega : q3 ≠ q2), upd_other _ _ _ _ (by omega : q3 ≠ q1)] at c3
            obtain ⟨s3, hs3⟩ : ∃ s, s = fdS c m q3 + 1 := ⟨_, rfl⟩
            have e3 : ((fdS c m q3 : Nat) : Int) + 1 = (s3 : Int) := by omega
            have hF3 := hF2.set q3 s3 (by omega)
            have hg3 := grown_setCell_new hg2 ⟨rs, q3, none⟩ (.int .i64 (s3 : Nat)) (Or.inl (by show w.heap.size ≤ rs; omega))
            have c4 := hF3.cell q4 (by omega)
            have f4 := hF3.free q4
            rw [upd_other _ _ _ _ (by omega : q4 ≠ q3), upd_other _ _ _ _ (by omega : q4 ≠ q2), upd_other _ _ _ _ (by omega : q4 ≠ q1)] at c4
            obtain ⟨s4, hs4⟩ : ∃ s, s = fdS c m q4 + 1 := ⟨_, rfl⟩
            have e4 : ((fdS c m q4 : Nat) : Int) + 1 = (s4 : Int) := by omega
            have hF4 := hF3.set q4 s4 (by omega)
            have hg4 := grown_setCell_new hg3 ⟨rs, q4, none⟩ (.int .i64 (s4 : Nat)) (Or.inl (by show w.heap.size ≤ rs; omega))
            rw [← hs1, ← hs2, ← hs3, ← hs4] at hst
            rw [hst] at hF4
            clear hs1 hs2 hs3 hs4 hst
            generalize fdS c m p = v0 at *
            generalize fdS c m q1 = v1 at *
            generalize fdS c m q2 = v2 at *
            generalize fdS c m q3 = v3 at *
            generalize fdS c m q4 = v4 at *
            have HF4 := Lib.hid hF4
            have HG4 := Lib.hid hg4
            have Hp := Lib.hid hp
            have hpm : (p : Int) - 1 = ((255 - (m + 1) : Nat) : Int) := by omega
            clear hF4 hg4 hF1 hF2 hF3 hg1 hg2 hg3 hF hgr hq1 hq2 hq3 hq4 hp hm hodd
            go_wp2_with fail
            first
              | exact ⟨⟨m + 1, hmt, by rw [← hpm]; go_num, HG4.out, HF4.out⟩, by simp [intOf]; omega⟩
              | (go_roundw
                 case rel => exact ⟨m + 1, hmt, by rw [← hpm]; go_num, HG4.out, HF4.out⟩
                 case measure => simp [intOf]; omega)
          · have x0 : fdS c m p % 2 = 0 := by omega
            have hst := fdS_skip c m (by rw [← hp]; exact hodd)
            rw [x0] at x2 x3
            rw [← hst] at hF
            generalize fdS c m p = v0 at *
            have hpm : (p : Int) - 1 = ((255 - (m + 1) : Nat) : Int) := by omega
            have HF := Lib.hid hF
            have Hgr := Lib.hid hgr
            clear hF hgr hst hodd x0 hp hm
            go_wp2_with fail
            first
              | exact ⟨⟨m + 1, hmt, by rw [← hpm]; go_num, Hgr.out, HF.out⟩, by simp [intOf]; omega⟩
              | (go_roundw
                 case rel => exact ⟨m + 1, hmt, by rw [← hpm]; go_num, Hgr.out, HF.out⟩
                 case measure => simp [intOf]; omega)
        · obtain rfl : m = 128 := by omega
          obtain ⟨V, hV⟩ : ∃ V, V = gMul A B := ⟨_, rfl⟩
          obtain ⟨d, hd⟩ : ∃ d, d = fdS c 128 := ⟨_, rfl⟩
          have hdl : ∀ j, d j ≤ 256 := fun j => by rw [hd]; exact Hcl.out 128 j (Nat.le_refl _)
          have hdm : ∀ j, j < 128 → d j % 2 = (V.testBit j).toNat := fun j hj => by rw [hd, hV]; exact Hmul.out j hj
          rw [← hd] at hF
          obtain ⟨c2, hm2, hF2⟩ := make_any 16 (by decide) wr
          have hm2' : (Instr.makeSlice 22 (.int .i64 16) (.int .i64 16)).run Tryd.prog wr = .ok (.slice (some ⟨wr.heap.size, 0, none⟩) 16 16) (wr.alloc (.cells c2 5)) := hm2
          have hg2 := World.grownBy_alloc wr (.cells c2 5) none
          have hrl := hF.lt (by decide)
          have hFd := hF.grown (by decide) hg2 (by simp)
          have hgo := grown_trans hgr hg2
          have hsz := hgr.size
          have HV := Lib.hid hV
          have Hdl := Lib.hid hdl
          have Hdm := Lib.hid hdm
          clear hV hd hdl hdm hm2 hg2 hF hgr hm hmt Hcl Hmul
          go_wp2_with fail
          generalize wr.alloc (.cells c2 5) = w5 at *
          generalize wr.heap.size = ro at *
          clear hm2'
          go_loopw [10, 11] (fun u10 _ wr => ∃ i : Nat, i ≤ 16 ∧ u10 = .int .i64 i ∧ w.grownBy wr none ∧ FillI wr rs 256 d ∧ Fill wr ro 16 (outS V i 0)) (fun u10 _ _ => 16 - (intOf u10).toNat)
          case atStart => exact ⟨0, by omega, rfl, hgo, hFd, hF2.congr (fun j _ => (outS_zero V j).symm)⟩
          case round =>
            clear hgo hFd hF2
            obtain ⟨i, hi, rfl, hgr, hFd, hFo⟩ := hrel
            by_cases hlt : i < 16
            · have j1 : (i : Int) < 16 := by omega
              have Hgr := Lib.hid hgr
              have HFd := Lib.hid hFd
              have HFo := Lib.hid hFo
              clear hgr hFd hFo
              go_wp2_with fail
              go_loopw [11] (fun u11 wr => ∃ k : Nat, k ≤ 8 ∧ u11 = .int .i64 k ∧ w.grownBy wr none ∧ FillI wr rs 256 d ∧ Fill wr ro 16 (outS V i k)) (fun u11 _ => 8 - (intOf u11).toNat)
              case atStart => exact ⟨0, by omega, rfl, Hgr.out, HFd.out, HFo.out⟩
              case round =>
                clear Hgr HFd HFo
                obtain ⟨k, hk, rfl, hgr, hFd, hFo⟩ := hrel
                by_cases hkt : k < 8
                · have i1 : (k : Int) < 8 := by omega
                  obtain ⟨q, hq⟩ : ∃ q, q = 8 * i := ⟨_, rfl⟩
                  obtain ⟨p, hp⟩ : ∃ p, p = q + k := ⟨_, rfl⟩
                  have x0 : 8 * (i : Int) = (q : Int) := by omega
                  have x1 : (q : Int) + (k : Int) = (p : Int) := by omega
                  have i2 : (p : Int) < 256 := by omega
                  obtain ⟨U, hU⟩ : ∃ U, U = wr.drew := ⟨_, rfl⟩
                  have gU : w.grownBy U none := by rw [hU]; exact grown_drew hgr
                  have hdU : FillI U rs 256 d := by rw [hU]; exact hFd.of_block rfl
                  have hoU : Fill U ro 16 (outS V i k) := by rw [hU]; exact hFo.drew
                  have cd := hdU.cell p (by omega)
                  have co := hoU.cell i hlt
                  have fo := hoU.free i
                  have b0 := Hdm.out p (by omega)
                  have b1 := Bool.toNat_le (V.testBit p)
                  have h7 := outS_half V i k (by omega)
                  have hst := outS_step V i k
                  rw [show 8 * i + k = p by omega] at hst
                  obtain ⟨y, hy⟩ : ∃ y, y = 2 * outS V i k i := ⟨_, rfl⟩
                  rw [← hy] at hst
                  obtain ⟨s, hs⟩ : ∃ s, s = y + (V.testBit p).toNat := ⟨_, rfl⟩
                  rw [← hs] at hst
                  have x2 : (2 : Int) * ((outS V i k i : Nat) : Int) = (y : Int) := by omega
                  have x3 : ((d p : Nat) : Int).tmod 2 = (((V.testBit p).toNat : Nat) : Int) := by rw [Int.tmod_eq_emod_of_nonneg (by omega)]; omega
                  have x4 : ((d p : Nat) : Int) % 2 = (((V.testBit p).toNat : Nat) : Int) := by omega
                  have x5 : (y : Int) + (((V.testBit p).toNat : Nat) : Int) = (s : Int) := by omega
                  have w0 : IntKind.i64.wrap (q : Int) = (q : Int) := by rw [IntKind.wrap_i64]; omega
                  have w1' : IntKind.i64.wrap (p : Int) = (p : Int) := by rw [IntKind.wrap_i64]; omega
                  have w2 : IntKind.u8.wrap (y : Int) = (y : Int) := by rw [IntKind.wrap_u8]; omega
                  have w3 : IntKind.u8.wrap (((V.testBit p).toNat : Nat) : Int) = (((V.testBit p).toNat : Nat) : Int) := by rw [IntKind.wrap_u8]; omega
                  have w4 : IntKind.u8.wrap (s : Int) = (s : Int) := by rw [IntKind.wrap_u8]; omega
                  have hF5 : Fill (U.setCell ⟨ro, i, none⟩ (.int .u8 (s : Nat))) ro 16 (outS V i (k + 1)) := by
                    rw [← hst]
                    exact hoU.set i s hlt
                  have hd5 : FillI (U.setCell ⟨ro, i, none⟩ (.int .u8 (s : Nat))) rs 256 d := hdU.of_block (heap_setCell_other U ⟨ro, i, none⟩ rs _ (by show rs ≠ ro; omega))
                  have hg5 := grown_setCell_new gU ⟨ro, i, none⟩ (.int .u8 (s : Nat)) (Or.inl (by show w.heap.size ≤ ro; omega))
                  generalize outS V i k i = v at *
                  generalize (V.testBit p).toNat = b at *
                  generalize d p = dp at *
                  have HF5 := Lib.hid hF5
                  have HD5 := Lib.hid hd5
                  have HG5 := Lib.hid hg5
                  have HU := Lib.hid hU.symm
                  clear hp hq hy hU gU hdU hoU hst hs hF5 hd5 hg5 hgr hFd hFo hk b0 b1 h7
                  go_wp2_with fail
                  refine wp_region_still_tail 18 (by kernel_rfl) (by kernel_rfl) ?_
                  change wpStill _ _ (World.drew wr) (fun a' => wpList _ _ _ _ a' (World.drew wr)) _ _
                  rw [HU.out]
                  simp only [List.take_succ_cons, List.take_zero, List.drop_succ_cons, List.drop_zero]
                  repeat still_step
                  refine wpStill_nil ?_
                  go_wp2_with fail
                  go_roundw
                  case rel => first
                    | exact ⟨k + 1, by omega, by go_num, HG5.out, HD5.out, HF5.out⟩
                    | ((repeat apply Exists.intro); exact ⟨⟨k + 1, by omega, by go_num, HG5.out, HD5.out, HF5.out⟩, rfl⟩)
                  case measure => simp [intOf]; omega
                · obtain rfl : k = 8 := by omega
                  rw [outS_next] at hFo
                  have HF5 := Lib.hid hFo
                  have HD5 := Lib.hid hFd
                  have HG5 := Lib.hid hgr
                  clear hgr hFd hFo hk hkt
                  go_wp2_with fail
                  first
                    | exact ⟨⟨i + 1, by omega, by go_num, HG5.out, HD5.out, HF5.out⟩, by simp [intOf]; omega⟩
                    | (go_roundw
                       case rel => exact ⟨i + 1, by omega, by go_num, HG5.out, HD5.out, HF5.out⟩
                       case measure => simp [intOf]; omega)
            · obtain rfl : i = 16 := by omega
              have hfin : Fill wr ro 16 (mulF f g) := hFo.congr (fun j hj => by rw [outS_end V j hj, HO.out, HV.out])
              have HF5 := Lib.hid hfin
              have HG5 := Lib.hid hgr
              clear hgr hFd hFo hi hlt hfin
              go_wp2_with fail
              go_ret
              exact ⟨ro, rfl, HF5.out, hsz, HG5.out⟩
end Go.Proofs.YtlfopcigbgfnlaaDoor
namespace Go.Proofs.YtlfopcigbgfnlaaDoor
open Go.RowKit

set_option maxRecDepth 100000
set_option maxHeartbeats 1000000

/-- The first k bytes of a block added. -/
def addK (y b : Nat → Nat) (k i : Nat) : Nat := if i < k then y i ^^^ b i else y i
theorem addK_step (y b : Nat → Nat) (k : Nat) : upd (addK y b k) k (y k ^^^ b k) = addK y b (k + 1) := by
  funext i
  unfold upd addK
  by_cases e : i = k
  · subst e; rw [if_pos rfl, if_pos (Nat.lt_succ_self _)]
  · rw [if_neg e]
    by_cases e2 : i < k
    · rw [if_pos e2, if_pos (by omega)]
    · rw [if_neg e2, if_neg (by omega)]
theorem addK_end (y b : Nat → Nat) (k : Nat) (h : ∀ i, k ≤ i → i < 16 → b i = 0) (i : Nat) (hi : i < 16) : addK y b k i = y i ^^^ b i := by
  unfold addK
  by_cases e : i < k
  · rw [if_pos e]
  · rw [if_neg e, h i (by omega) hi, Nat.xor_zero]

theorem rhash_any (ah ab : Option Addr) (ch cb n : Nat) (fh f : Nat → Nat) (w : World) (hH : Rd w w.heap.size ah 16 fh) (hB : Rd w w.heap.size ab n f) (hh : ∀ i, fh i < 256) (hf : ∀ i, f i < 256) (hn : n ≤ 2 ^ 40) :
    Calls Tryd.prog 9 #[.slice ah 16 ch, .slice ab n cb] w fun e w' => ∃ r, e = .returned (.slice (some ⟨r, 0, none⟩) 16 16) ∧ Fill w' r 16 (hashF fh f n) ∧ w.heap.size ≤ r ∧ w.grownBy w' none := by
  obtain ⟨c1, hm1, hF1⟩ := make_any 16 (by decide) w
  have hm1' : (Instr.makeSlice 22 (.int .i64 16) (.int .i64 16)).run Tryd.prog w = .ok (.slice (some ⟨w.heap.size, 0, none⟩) 16 16) (w.alloc (.cells c1 5)) := hm1
  have hg1 := World.grownBy_alloc w (.cells c1 5) none
  have hnI : (n : Int) ≤ 1099511627776 := by omega
  obtain ⟨hs, hhs⟩ : ∃ hs, hs = hshF fh f n := ⟨_, rfl⟩
  have h0 : ∀ i, hs 0 i = 0 := fun i => by rw [hhs]; rfl
  have hnx : ∀ m, hs (m + 1) = mulF (fun i => hs m i ^^^ blkF f n m i) fh := fun m => by rw [hhs]; rfl
  have hlt : ∀ m i, hs m i < 256 := fun m i => by rw [hhs]; exact hshF_lt _ _ _ _ _
  have hend : hashF fh f n = hs ((n + 15) / 16) := by rw [hhs]; rfl
  have HNx := Lib.hid hnx
  have HLt := Lib.hid hlt
  have HEnd := Lib.hid hend
  have HH := Lib.hid hH
  have HB := Lib.hid hB
  have Hh := Lib.hid hh
  have Hf := Lib.hid hf
  clear hm1 hnx hlt hend hH hB hh hf hhs
  go_enter Tryd.func9, Tryd.ntmps9
  go_wp2_with fail
  generalize w.alloc (.cells c1 5) = w1 at *
  clear hm1'
  go_loopw [5, 6, 7] (fun u5 u6 _ wr => ∃ m r : Nat, m ≤ (n + 15) / 16 ∧ u6 = .int .i64 (16 * m : Nat) ∧ u5 = .slice (some ⟨r, 0, none⟩) 16 16 ∧ w.heap.size ≤ r ∧ w.grownBy wr none ∧ Fill wr r 16 (hs m)) (fun _ u6 _ _ => n - (intOf u6).toNat)
  case atStart => exact ⟨0, w.heap.size, by omega, rfl, rfl, Nat.le_refl _, hg1, hF1.congr (fun j _ => (h0 j).symm)⟩
  case round =>
    clear hg1 hF1 h0
    obtain ⟨m, r, hm, rfl, rfl, hr, hgr, hF⟩ := hrel
    obtain ⟨t, ht⟩ : ∃ t, t = 16 * m := ⟨_, rfl⟩
    rw [← ht]
    have Ht := Lib.hid ht
    clear ht
    by_cases hlt : t < n
    · have j1 : (t : Int) < n := by omega
      have Hgr := Lib.hid hgr
      have HF := Lib.hid hF
      clear hgr hF
      go_wp2_with fail
      go_loopw [7] (fun u7 wr => ∃ k : Nat, k ≤ 16 ∧ u7 = .int .i64 k ∧ w.grownBy wr none ∧ Fill wr r 16 (addK (hs m) (blkF f n m) k)) (fun u7 _ => 16 - (intOf u7).toNat)
      case atStart => exact ⟨0, by omega, rfl, Hgr.out, HF.out.congr (fun j _ => (if_neg (by omega)).symm)⟩
      case round =>
        clear Hgr HF
        obtain ⟨k, hk, rfl, hgr, hF⟩ := hrel
        by_cases hgo : k < 16 ∧ t + k < n
        · obtain ⟨hk16, hkn⟩ := hgo
          have i1 : (k : Int) < 16 := by omega
          obtain ⟨p, hp⟩ : ∃ p, p = t + k := ⟨_, rfl⟩
          have x1 : (t : Int) + (k : Int) = (p : Int) := by omega
          have i2 : (p : Int) < n := by omega
          obtain ⟨tb, o, rfl, htb, hcb⟩ := HB.out.ex (by omega)
          obtain ⟨U, hU⟩ : ∃ U, U = wr.drew := ⟨_, rfl⟩
          have gU : w.grownBy U none := by rw [hU]; exact grown_drew hgr
          have hFU : Fill U r 16 (addK (hs m) (blkF f n m) k) := by rw [hU]; exact hF.drew
          have cy := hFU.cell k hk16
          rw [show addK (hs m) (blkF f n m) k k = hs m k from if_neg (Nat.lt_irrefl k)] at cy
          have fy := hFU.free k
          have cb0 := gU.cell (hcb p (by omega)) (by simp)
          have hst := addK_step (hs m) (blkF f n m) k
          have hblk : blkF f n m k = f p := by
            unfold blkF
            rw [← Ht.out, ← hp, if_pos (by omega)]
          rw [hblk] at hst
          have hx : bits .xor .u8 ((hs m k : Nat) : Int) ((f p : Nat) : Int) = ((hs m k ^^^ f p : Nat) : Int) := bits_xor_u8 _ _ (HLt.out m k) (Hf.out p)
          have w0 : IntKind.i64.wrap (p : Int) = (p : Int) := by rw [IntKind.wrap_i64]; omega
          have hF5 : Fill (U.setCell ⟨r, k, none⟩ (.int .u8 ((hs m k ^^^ f p : Nat) : Int))) r 16 (addK (hs m) (blkF f n m) (k + 1)) := by
            rw [← hst]
            exact hFU.set k _ hk16
          have hg5 := grown_setCell_new gU ⟨r, k, none⟩ (.int .u8 ((hs m k ^^^ f p : Nat) : Int)) (Or.inl (by show w.heap.size ≤ r; omega))
          generalize hs m k ^^^ f p = s at *
          generalize hs m k = y at *
          generalize f p = b at *
          have HF5 := Lib.hid hF5
          have HG5 := Lib.hid hg5
          have HU := Lib.hid hU.symm
          have Hx := Lib.hid hx
          clear hp hU gU hFU hcb hst hblk hx hF5 hg5 hgr hF hk htb
          go_wp2_with fail
          refine wp_region_still_tail 14 (by kernel_rfl) (by kernel_rfl) ?_
          change wpStill _ _ (World.drew wr) (fun a' => wpList _ _ _ _ a' (World.drew wr)) _ _
          rw [HU.out]
          simp only [List.take_succ_cons, List.take_zero, List.drop_succ_cons, List.drop_zero]
          repeat still_step
          refine wpStill_nil ?_
          simp only [Hx.out]
          go_wp2_with fail
          go_roundw
          case rel => first
            | exact ⟨k + 1, by omega, by go_num, HG5.out, HF5.out⟩
            | ((repeat apply Exists.intro); exact ⟨⟨k + 1, by omega, by go_num, HG5.out, HF5.out⟩, rfl⟩)
          case measure => simp [intOf]; omega
        · have hFe : Fill wr r 16 (fun i => hs m i ^^^ blkF f n m i) := hF.congr (fun i hi => addK_end _ _ k (fun j hj hj2 => by
            unfold blkF
            rw [← Ht.out, if_neg (by omega)]) i hi)
          have hT := rtimes_any (some ⟨r, 0, none⟩) ah 16 ch (fun i => hs m i ^^^ blkF f n m i) fh wr (hFe.rd (by decide) 16 (Nat.le_refl _)) (HH.out.up (Nat.le_refl _) hgr) (fun i => Nat.xor_lt_two_pow (n := 8) (HLt.out m i) (by
            unfold blkF
            split
            · exact Hf.out _
            · decide)) Hh.out
          rw [← HNx.out m] at hT
          have HT := Lib.hid hT
          have Hgr := Lib.hid hgr
          have hsz := hgr.size
          have hcase : (16 : Int) ≤ k ∨ ((k : Int) < 16 ∧ (n : Int) ≤ t + k) := by omega
          have ht2 : t + 16 = 16 * (m + 1) := by have := Ht.out; omega
          have hm2 : m + 1 ≤ (n + 15) / 16 := by have := Ht.out; omega
          have HT2 := Lib.hid ht2
          clear hgo hFe hT hgr hF hk ht2
          rcases hcase with e1 | ⟨e1, e2⟩
          all_goals
            go_wp2_with fail
            go_at_call 22
            with_reducible refine (HT.out).mono ?_
            rintro e w6 ⟨r2, rfl, hF6, hr2, g6⟩
            have hg6 := grown_trans Hgr.out g6
            have hr6 : w.heap.size ≤ r2 := by omega
            have HF6 := Lib.hid hF6
            have HG6 := Lib.hid hg6
            clear hF6 hg6 g6 hr2
            go_wp2_with fail
            first
              | exact ⟨⟨m + 1, r2, hm2, by rw [← HT2.out]; go_num, rfl, hr6, HG6.out, HF6.out⟩, by simp [intOf]; omega⟩
              | (go_roundw
                 case rel => first
                   | exact ⟨m + 1, r2, hm2, by rw [← HT2.out]; go_num, rfl, hr6, HG6.out, HF6.out⟩
                   | ((repeat apply Exists.intro); exact ⟨⟨m + 1, r2, hm2, by rw [← HT2.out]; go_num, rfl, hr6, HG6.out, HF6.out⟩, rfl⟩)
                 case measure => simp [intOf]; omega)
    · have hmE : m = (n + 15) / 16 := by have := Ht.out; omega
      have j1 : (n : Int) ≤ t := by omega
      rw [hmE, ← HEnd.out] at hF
      have HF := Lib.hid hF
      have Hgr := Lib.hid hgr
      clear hgr hF hmE hlt hm
      go_wp2_with fail
      go_ret
      exact ⟨r, rfl, HF.out, hr, Hgr.out⟩
end Go.Proofs.YtlfopcigbgfnlaaDoor
