/-
  Proved: whatever record and bytes come in, 'RecPuts' answers true, and what came in reads afterwards as it read before. Conditions: the arguments can be read as data.
-/
import Derived.Test.YtdagbighlgfhjaaRecPutsAlla
import Derived.Test.YtdagbighlgfhjaaRefHdrB
import Derived.Test.YtdagbighlgfhjaaOutLeaf
import Derived.Test.YtdagbighlgfhjaaStr
import Derived.Test.YtdagbighlgfhjaaLaw
import Derived.Test.YtdagbighlgfhjaaRows
import Derived.Stop.Joined
import Derived.LaidLaws
import Derived.Test.YtdagbighlgfhjaaRd
import Derived.Deep.Slices
import Derived.SizedLaws
namespace Go.Proofs.Ytdagbighlgfhjaa
open Go.RowKit

set_option maxRecDepth 100000
set_option maxHeartbeats 4000000

attribute [local go_sem] Oper.semAt_some

def oneQ : QV := ⟨fun i => if i = 0 then 1 else 0, 3, true, 1, 5, 6, 7⟩
theorem oneQ_ok : oneQ.Ok := ⟨fun i => by show (if i = 0 then 1 else 0) < 256; split <;> decide, by decide, by decide, by decide, by decide, by decide⟩
theorem exec_one1 {o : Oper} {a : Act} (ho : o.op = .build 23 #[(0, .const (.int .u8 1))]) (w : World) : (execOp a.eval o).run Try.prog w = .ok (.value (.agg (cellsOf .u8 16 oneQ.id))) w := by
  unfold execOp
  rw [ho]
  kernel_rfl
theorem run_one2 (w : World) : (Instr.build 128 #[(0, .agg (cellsOf .u8 16 oneQ.id)), (1, .int .u8 3), (2, .bool true), (3, .int .u8 1), (4, .int .u64 5), (5, .int .u64 6), (6, .int .u64 7)]).run Try.prog w = .ok (.agg (rowOf 22 oneQ.v)) w := by kernel_rfl
theorem exec_one2 {o : Oper} {a : Act} (ho : o.op = .build 128 #[(0, .tmp 1), (1, .const (.int .u8 3)), (2, .const (.bool true)), (3, .const (.int .u8 1)), (4, .const (.int .u64 5)), (5, .const (.int .u64 6)), (6, .const (.int .u64 7))]) (h : a.eval (.tmp 1) = .agg (cellsOf .u8 16 oneQ.id)) (w : World) : (execOp a.eval o).run Try.prog w = .ok (.value (.agg (rowOf 22 oneQ.v))) w := by
  unfold execOp
  have ec : ∀ v, a.eval (.const v) = v := fun _ => rfl
  simp only [ho, h, ec, List.map_toArray, List.map_cons, List.map_nil, Sem.run_bind, run_one2, Result.andThen_ok, Sem.run_pure]
theorem one_any (w : World) : Calls Try.prog 127 #[] w fun e w' => e = .returned (.agg (rowOf 22 oneQ.v)) ∧ w.grownBy w' none := by
  have ga := World.grownBy_alloc w (.cells #[.int .u8 0, .int .u8 0, .int .u8 0, .int .u8 0, .int .u8 0, .int .u8 0, .int .u8 0, .int .u8 0, .int .u8 0, .int .u8 0, .int .u8 0, .int .u8 0, .int .u8 0, .int .u8 0, .int .u8 0, .int .u8 0, .int .u8 0, .bool false, .int .u8 0, .int .u64 0, .int .u64 0, .int .u64 0] 128) none
  have hR := RowAt.new w 128 22 QV.zero.v _ QV.zero_row
  go_enter Try.func127, Try.ntmps127
  go_upto_region 1 with fail
  obtain ⟨B, hB⟩ : ∃ B, B = w.heap.size := ⟨_, rfl⟩
  rw [← hB] at hR ⊢
  generalize w.alloc (.cells #[.int .u8 0, .int .u8 0, .int .u8 0, .int .u8 0, .int .u8 0, .int .u8 0, .int .u8 0, .int .u8 0, .int .u8 0, .int .u8 0, .int .u8 0, .int .u8 0, .int .u8 0, .int .u8 0, .int .u8 0, .int .u8 0, .int .u8 0, .bool false, .int .u8 0, .int .u64 0, .int .u64 0, .int .u64 0] 128) = w1 at *
  obtain ⟨k1, k2⟩ := RowAt.store (P := Try.prog) hR 0 128 22 oneQ.v (by decide) (by kernel_rfl) (fun j _ => QV.one _ j)
  obtain ⟨wz, hwz⟩ : ∃ W, W = w1.setCells B 0 (rowOf 22 oneQ.v).toList := ⟨_, rfl⟩
  rw [← hwz] at k1 k2
  have gz : w1.grownBy wz (some B) := by rw [hwz]; exact grown_setCells B (Or.inr rfl) _ 0 _ (grown_refl _ _)
  have HK := Lib.hid (k2.congr (v' := oneQ.v) fun i hi => by rw [if_pos ⟨Nat.zero_le _, by omega⟩, Nat.sub_zero])
  have HS := Lib.hid k1
  have HGZ := Lib.hid (grown_into ga gz (by omega))
  obtain ⟨v1, hv1⟩ : ∃ v, v = Value.agg (rowOf 22 oneQ.v) := ⟨_, rfl⟩
  clear k1 k2 hwz gz hR ga hB
  go_wp2_with (first | ((with_reducible refine wpList_here ?_); refine wpList_want (v := .agg (cellsOf .u8 16 oneQ.id)) (w' := w1) ?_ (exec_one1 rfl w1) ?_; (· kernel_rfl)) | ((with_reducible refine wpList_here ?_); refine wpList_want (v := .agg (rowOf 22 oneQ.v)) (w' := w1) ?_ (exec_one2 rfl rfl w1) ?_; (· kernel_rfl)) | ((with_reducible refine wpList_here ?_); refine wpList_st (T := 128) (p := .pointer (some ⟨B, 0, none⟩)) (v := .agg (rowOf 22 oneQ.v)) (.tmp 0) (.tmp 2) ?_ ?_ ?_ ?_ ?_ HS.out ?_; (· rfl); (· rfl); go_simp; (· kernel_rfl); (· kernel_rfl)))
  exact bodyPost_ret (res_rowAt rfl rfl HK.out (by kernel_rfl) (by kernel_rfl)) rfl ⟨rfl, HGZ.out⟩
theorem one_enters : ∀ args w, (callFunc 127 args).run Try.prog w = .ok (.enter 127 args) w := enters_of Try.func127 (by kernel_rfl) rfl
theorem wpIn_region_heldR {P : Program} {ops : List Oper} {Q : Exit → Act → World → Prop} {n l id : Nat} {a : Act} {w : World} (S : World → Prop) (hm : P.follows .mixedOrders = true) (hD : noDefer ops = true) (hlo : ¬ LetsOut Q)
    (h : wpAnyH P .any ops.toArray Q S ops.toArray.size (Array.replicate ops.toArray.size false) a w.drew) : (Code.region id ops.toArray true).wpIn (Fence.wide.inRound l) n P Q a w :=
  wpIn_region_any hm (any_round hlo (noDefer_spec hD) _ _ _ _ (wpAny_of_held _ _ _ _ h))
/-- The bytes of that record, and a byte more. -/
def oneF : Nat → Nat := cat 43 oneQ.bytes (fun _ => 9)
theorem oneF_at (i : Nat) (h : i < 43) : shF oneF (43 * 0) i = oneQ.bytes i := by
  unfold shF oneF cat
  rw [Nat.mul_zero, Nat.zero_add, if_pos h]
theorem one_n : IsN 44 oneF 1 := ⟨fun j hj => by
  obtain rfl : j = 0 := by omega
  exact ⟨by decide, (recOk_put oneQ_ok oneF_at).trans (by decide)⟩, fun h => by have := h.1; omega⟩
theorem one_rec : rowOf 22 (recs oneF 0).v = rowOf 22 oneQ.v := recF_put oneQ_ok oneF_at
structure WkI (w : World) (RB NB : Nat) (k : Nat) (U : World) : Prop where
  res : Boxed U RB 4 (.bool false)
  n : Boxed U NB 3 (.int .i64 (k : Nat))
  gr : w.grownBy U none
theorem WkI.own {w : World} {RB NB A : Nat} (h1 : RB < A) (h2 : NB < A) (h3 : w.heap.size ≤ A) : OwnFrom A (WkI w RB NB) := fun s W W' row h hg hr =>
  ⟨h.res.kept hg (fun e => by have := (hr _ e.symm).1; omega), h.n.kept hg (fun e => by have := (hr _ e.symm).1; omega), by
    cases row with
    | none => exact grown_trans h.gr hg
    | some r => exact grown_new h.gr hg (by have := (hr r rfl).1; omega)⟩
theorem works11_any (w : World) : Calls Try.prog 51 #[] w fun e w' => e = .returned (.bool true) ∧ w.grownBy w' none := by
  have gb := World.grownBy_alloc w (.cells #[.bool false] 4) none
  have hRB := Boxed.new w 4 (.bool false)
  refine (callsIn_wide (n := 8)).1 ?_
  refine callsIn_of_wp_marks Try.func51 rfl trivial ?_ rfl
  simp only [Try.ntmps51, List.size_toArray, List.length_nil, Nat.reduceSub, Array.replicate_succ, Array.replicate_zero, List.push_toArray, List.append_toArray, List.nil_append, List.cons_append]
  refine wpIn_wide.2 ?_
  go_upto_region 1 with fail
  obtain ⟨RB, hB⟩ : ∃ B, B = w.heap.size := ⟨_, rfl⟩
  rw [← hB] at hRB ⊢
  generalize w.alloc (.cells #[.bool false] 4) = w1 at *
  have HB := Lib.hid (show RB = w.heap.size from hB)
  have HRB := Lib.hid hRB
  have HG1 := Lib.hid gb
  have H1 := Lib.hid (one_any w1)
  clear hB hRB gb
  go_wp2_with fail
  go_at_call 127
  refine H1.out.mono ?_
  rintro e w2 ⟨rfl, g2⟩
  have H2 := recPut_any oneQ oneQ_ok w2
  rw [show oneQ.may = true by decide] at H2
  obtain ⟨v1, hv1⟩ : ∃ v, v = Value.agg (rowOf 22 oneQ.v) := ⟨_, rfl⟩
  rw [← hv1] at H2 ⊢
  have H2 := Lib.hid H2
  have HG2 := Lib.hid (show w1.grownBy w2 none from g2)
  clear H1 g2 hv1
  go_wp2_with fail
  go_at_call 49
  refine H2.out.mono ?_
  rintro e w3 ⟨⟨a, c, rfl, hO⟩, g3⟩
  have hO : OwnN w3 w2.heap.size (.slice a 43 c) 43 oneQ.bytes := hO
  rw [show (.slice a (if true = true then 43 else 0) c : Value) = .slice a 43 c from rfl, show (.int .i64 (if true = true then 0 else 2) : Value) = .int .i64 0 from rfl]
  have HO := Lib.hid hO
  have HG3 := Lib.hid (grown_trans HG2.out g3)
  clear H2 g3 hO HG2
  go_upto_region 5 with fail
  have gn := World.grownBy_alloc w3 (.cells #[.int .i64 0] 3) none
  have hNB := Boxed.new w3 3 (.int .i64 0)
  obtain ⟨NB, hNBe⟩ : ∃ B, B = w3.heap.size := ⟨_, rfl⟩
  rw [← hNBe] at hNB ⊢
  have hz := World.size_alloc w3 (.cells #[.int .i64 0] 3)
  generalize w3.alloc (.cells #[.int .i64 0] 3) = w4 at *
  have hRd : Rd w4 w4.heap.size a 43 oneQ.bytes := by
    obtain ⟨a', c', e, _, hR⟩ := HO.out.rd
    cases e
    exact (hR.grown gn (by simp)).mono (by omega)
  have gE := World.grownBy_alloc w4 (.cells #[] 5) none
  have hE : OwnN (w4.alloc (.cells #[] 5)) w4.heap.size (.slice (some ⟨w4.heap.size, 0, none⟩) 0 0) 0 (fun _ => 0) := ⟨Or.inr ⟨w4.heap.size, 0, rfl, (ownR_empty w4).congr (fun i hi => absurd hi (Nat.not_lt_zero _)), Nat.le_refl _⟩⟩
  obtain ⟨a5, c5, w5, hap5, hO5, hG5, _⟩ := app_N1 c 39 gE hE (hRd.grown gE (by simp)) (by decide)
  have g9 := World.grownBy_alloc w5 (.cells #[.int .u8 (9 : Nat)] 5) none
  obtain ⟨a7, c7, w7, hap7, hO7, hG7, _⟩ := app_N1 1 39 (grown_trans hG5 g9) (hO5.grown g9) (rd_one w5 9 (w5.heap.size + 1) (by omega)) (by decide)
  have HAP5 := Lib.hid (show (Builtin.append_ #[39, 39] 39 #[.slice (some ⟨w4.heap.size, 0, none⟩) 0 0, .slice a 43 c]).run Try.prog (w4.alloc (.cells #[] 5)) = .ok (.slice a5 43 c5) w5 from hap5)
  have HAP7 := Lib.hid (show (Builtin.append_ #[39, 39] 39 #[.slice a5 43 c5, .slice (some ⟨w5.heap.size, 0, none⟩) 1 1]).run Try.prog (w5.alloc (.cells #[.int .u8 9] 5)) = .ok (.slice a7 44 c7) w7 from hap7)
  have hO7 : OwnN w7 w4.heap.size (.slice a7 44 c7) 44 oneF := hO7.congr (fun i hi => by
    unfold oneF
    by_cases h : i < 43
    · unfold cat; rw [if_pos (show i < 0 + 43 from h), if_pos h, if_neg (by omega), Nat.sub_zero]
    · unfold cat; rw [if_neg (show ¬ i < 0 + 43 from h), if_neg h])
  have HALL := Lib.hid (recAll_any w7.heap.size 44 c7 a7 oneF w7 (by obtain ⟨a', c', e, _, hR⟩ := hO7.rd; cases e; exact hR) (by decide))
  have HN := Lib.hid (hNB.kept hG7 (by simp))
  have HG4 := Lib.hid (grown_trans HG3.out gn)
  have HR7 := Lib.hid (HRB.out.kept (grown_trans HG4.out hG7) (by simp))
  have HG7 := Lib.hid (grown_trans (grown_trans HG1.out HG4.out) hG7)
  have HNR := Lib.hid (show RB ≠ NB by have := HRB.out.lt; have := HG3.out.size; omega)
  have HNW := Lib.hid (show w.heap.size ≤ NB by have := HG1.out.size; have := HG3.out.size; omega)
  have HRW := Lib.hid (show w.heap.size ≤ RB by have := HB.out; omega)
  have HNL := Lib.hid (show NB < w7.heap.size by have := hG7.size; omega)
  have HRL := Lib.hid (show RB < w7.heap.size from HR7.out.lt)
  clear hap5 hap7 hO5 hG5 hO7 hG7 g9 gE hE hRd hNB gn hz hNBe HO HG3 HG4
  go_wp2_with (first | (at_builtin; refine wpList_append_run rfl (.tmp 18) (.tmp 19) 39 39 rfl _ _ _ _ rfl rfl HAP5.out ?_) | (at_builtin; refine wpList_append_run rfl (.tmp 20) (.tmp 21) 39 39 rfl _ _ _ _ rfl rfl HAP7.out ?_))
  go_at_call 57
  refine HALL.out.mono ?_
  rintro e w8 ⟨⟨B, a, c, rfl, hBs, hC, hLc, hO⟩, g8⟩
  have HSEQ := Lib.hid (all_seq (8 - 1) 1 44 c B a oneF (fun x => x = NB) w8 (fun i => by unfold oneF cat; split; exact oneQ.b_lt oneQ_ok _; exact (by decide : 9 < 256)) one_n (by decide) hLc (by decide) (by have := HNL.out; omega) (fun tb o e => by
    rcases hO.ex with ⟨e2, _⟩ | ⟨q, cap, e2, _, hq⟩
    · cases e2
    · cases e2; cases e; have := HNL.out; omega) hC (by obtain ⟨a', c', e, _, hR⟩ := hO.rd; cases e; exact hR))
  have HI0 : Hid (WkI w RB NB 0 w8) := Lib.hid ⟨HR7.out.kept g8 (by simp), HN.out.kept g8 (by simp), grown_trans HG7.out g8⟩
  have HS8 := Lib.hid g8.size
  clear hBs hC hLc hO g8 HALL HAP5 HAP7 HN HR7 HG7
  go_wp2_with fail
  refine (wpIn_wide (n := 8)).1 ?_
  refine wpIn_rangeN rfl (by decide) (gf := 131) (lb := #[.pointer (some ⟨B, 0, none⟩)]) rfl trivial (enters_of Try.func131 (by kernel_rfl) rfl) HSEQ.out (fun _ => rfl)
    (WkI w RB NB) (fun _ _ _ => False) (WkI.own (by have := HRL.out; have := HS8.out; omega) (by have := HNL.out; have := HS8.out; omega) (by have := HI0.out.gr.size; omega)) (fun _ _ _ _ _ h _ _ => h) HI0.out
    (fun k act U => ∃ rb x1 x2 x6 x7 x8 x9 x10 x11 x12 x13 x14 x15 x16 x17 x18 x19 x20 x21 x22 x23 x24 x25 x26 x27 x28 x29 x30 x31 x32 x33 x34 x35 x36, act = { tmps := #[.pointer (some ⟨RB, 0, none⟩), x1, x2, .pointer (some ⟨NB, 0, none⟩), .int .i64 (43 * k : Nat), .pointer (some ⟨rb, 0, none⟩), x6, x7, x8, x9, x10, x11, x12, x13, x14, x15, x16, x17, x18, x19, x20, x21, x22, x23, x24, x25, x26, x27, x28, x29, x30, x31, x32, x33, x34, x35, x36], defers := [] } ∧ RowAt U rb 128 22 (recs oneF k).v ∧ w8.heap.size ≤ rb ∧ WkI w RB NB k U) ?_ ?_ ?_ ?_ ?_
  · intro k a' _ U U' row h hgr hr
    obtain ⟨rb, x1, x2, x6, x7, x8, x9, x10, x11, x12, x13, x14, x15, x16, x17, x18, x19, x20, x21, x22, x23, x24, x25, x26, x27, x28, x29, x30, x31, x32, x33, x34, x35, x36, rfl, h2, h3, h4⟩ := h
    refine ⟨rb, _, _, _, _, _, _, _, _, _, _, _, _, _, _, _, _, _, _, _, _, _, _, _, _, _, _, _, _, _, _, _, _, _, rfl, h2.grown hgr (fun e => ?_), h3, WkI.own (A := w8.heap.size) (by have := HRL.out; have := HS8.out; omega) (by have := HNL.out; have := HS8.out; omega) (by have := HI0.out.gr.size; omega) k U U' row h4 hgr hr⟩
    obtain ⟨_, o, ho, hc⟩ := hr _ e.symm
    rw [h2.block] at ho
    cases ho
    cases hc
  · rintro l k U K hk hI hU hK
    obtain rfl : k = 0 := by omega
    have hN := RowAt.new U 128 22 QV.zero.v _ QV.zero_row
    obtain ⟨k1, k2⟩ := RowAt.store (P := Try.prog) hN 0 128 22 (recs oneF 0).v (by decide) (by kernel_rfl) (fun j _ => QV.one _ j)
    obtain ⟨w2, hw2⟩ : ∃ W, W = (U.alloc (.cells #[.int .u8 0, .int .u8 0, .int .u8 0, .int .u8 0, .int .u8 0, .int .u8 0, .int .u8 0, .int .u8 0, .int .u8 0, .int .u8 0, .int .u8 0, .int .u8 0, .int .u8 0, .int .u8 0, .int .u8 0, .int .u8 0, .int .u8 0, .bool false, .int .u8 0, .int .u64 0, .int .u64 0, .int .u64 0] 128)).setCells U.heap.size 0 (rowOf 22 (recs oneF 0).v).toList := ⟨_, rfl⟩
    have g2 : U.grownBy w2 none := by rw [hw2]; exact grown_setCells U.heap.size (Or.inl (Nat.le_refl _)) _ 0 _ (World.grownBy_alloc U _ none)
    rw [← hw2] at k1 k2
    have hX2 := k2.congr (v' := (recs oneF 0).v) fun i hi => by rw [if_pos ⟨Nat.zero_le _, by omega⟩, Nat.sub_zero]
    have HS := Lib.hid k1
    have HX := Lib.hid hX2
    have HG := Lib.hid g2
    have HI := Lib.hid hI
    have HK := Lib.hid hK
    have HU := Lib.hid hU
    clear hN k1 k2 hw2 hX2 g2 hI hK hU
    obtain ⟨y, hy⟩ : ∃ y, y = recs oneF 0 := ⟨_, rfl⟩
    rw [← hy] at HS ⊢
    have HY := Lib.hid hy
    clear hy
    gi_wp2_with ((with_reducible refine roundIn_here ?_); refine roundIn_st (T := 128) (p := .pointer (some ⟨U.heap.size, 0, none⟩)) (v := .agg (rowOf 22 y.v)) (.tmp 5) (.tmp 25) ?_ ?_ ?_ ?_ ?_ HS.out ?_; (· rfl); (· rfl); go_simp; (· kernel_rfl); (· kernel_rfl))
    exact HK.out _ _ (KeepsOthers.of_grownBy HG.out (fun _ _ e => by cases e)) (KeepX.grown (by have := HU.out; omega) HG.out) ⟨U.heap.size, _, _, _, _, _, _, _, _, _, _, _, _, _, _, _, _, _, _, _, _, _, _, _, _, _, _, _, _, _, _, _, _, _, rfl, HX.out, by have := HU.out; omega, ⟨HI.out.res.kept HG.out (by simp), HI.out.n.kept HG.out (by simp), grown_trans HI.out.gr HG.out⟩⟩
  · rintro l k a' U hk hU ⟨rb, x1, x2, x6, x7, x8, x9, x10, x11, x12, x13, x14, x15, x16, x17, x18, x19, x20, x21, x22, x23, x24, x25, x26, x27, x28, x29, x30, x31, x32, x33, x34, x35, x36, rfl, hX, hrb, hI⟩
    obtain rfl : k = 0 := by omega
    have HX : Hid (RowAt U rb 128 22 oneQ.v) := Lib.hid ⟨by rw [← one_rec]; exact hX.block⟩
    have HI := Lib.hid hI
    have HU := Lib.hid hU
    clear hX hI hU hrb hk
    gi_wp2
    refine wpIn_region_heldR (fun W => U.grownBy W none) (by kernel_rfl) (by kernel_rfl) (by rintro ⟨_, _, h⟩; exact h) ?_
    change wpAnyH _ _ _ _ _ 7 #[false, false, false, false, false, false, false] _ (World.drew _)
    have gq := grown_drew (grown_refl U none)
    generalize World.drew U = q1 at *
    refine wpAnyH_takeD (some 26) (i := 0) (v := (.int .i64 0)) rfl rfl (by kernel_rfl) (by kernel_rfl) (by kernel_rfl) (fun _ _ _ h => h) (Or.inl ⟨rfl, fun _ _ => rfl⟩) gq ?_
    simp only [Act.put, List.setIfInBounds_toArray, List.set_cons_succ, List.set_cons_zero]
    refine wpAnyH_takeD (some 27) (i := 1) (v := (.bool false)) rfl rfl (by kernel_rfl) (by kernel_rfl) (by kernel_rfl) (fun _ _ _ h => h) (Or.inl ⟨rfl, fun _ _ => by go_simp⟩) gq ?_
    simp only [Act.put, List.setIfInBounds_toArray, List.set_cons_succ, List.set_cons_zero]
    refine wpAnyH_takeD (some 28) (i := 2) (v := (.bool false)) rfl rfl (by kernel_rfl) (by kernel_rfl) (by kernel_rfl) (fun _ _ _ h => h) (Or.inl ⟨rfl, fun _ _ => rfl⟩) gq ?_
    simp only [Act.put, List.setIfInBounds_toArray, List.set_cons_succ, List.set_cons_zero]
    refine wpAnyH_takeD (some 29) (i := 3) (v := (.agg (rowOf 22 oneQ.v))) rfl rfl (by kernel_rfl) (by kernel_rfl) (by kernel_rfl) (fun _ _ _ h => h) (Or.inl ⟨rfl, fun W hW => exec_loadQ (.tmp 5) _ _ rfl rfl ((HX.out.grown hW (by simp)).load (P := Try.prog) 0 128 22 oneQ.v (by decide) (fun j _ => by rw [Nat.zero_add]) (by kernel_rfl) (by kernel_rfl))⟩) gq ?_
    simp only [Act.put, List.setIfInBounds_toArray, List.set_cons_succ, List.set_cons_zero]
    refine wpAnyH_callD (some 30) (i := 4) 127 #[] (R := fun v W => v = .agg (rowOf 22 oneQ.v) ∧ q1.grownBy W none) (by kernel_rfl) rfl rfl rfl (exec_fn0 _ rfl) one_enters ((one_any q1).mono fun e W h => ⟨_, h.1, rfl, h.2⟩) ?_
    rintro v W3 ⟨rfl, g3⟩
    have gW := grown_trans gq g3
    refine ⟨gW, ?_⟩
    simp only [Act.put, List.setIfInBounds_toArray, List.set_cons_succ, List.set_cons_zero]
    refine wpAnyH_takeD (some 31) (i := 5) (v := (.bool false)) rfl rfl (by kernel_rfl) (by kernel_rfl) (by kernel_rfl) (fun _ _ _ h => h) (Or.inl ⟨rfl, fun W _ => exec_neR 29 30 oneQ rfl rfl rfl⟩) gW ?_
    simp only [Act.put, List.setIfInBounds_toArray, List.set_cons_succ, List.set_cons_zero]
    refine wpAnyH_takeD (some 32) (i := 6) (v := (.bool false)) rfl rfl (by kernel_rfl) (by kernel_rfl) (by kernel_rfl) (fun _ _ _ h => h) (Or.inl ⟨rfl, fun _ _ => by go_simp⟩) gW ?_
    simp only [Act.put, List.setIfInBounds_toArray, List.set_cons_succ, List.set_cons_zero]
    refine wpAnyH_done (by kernel_rfl) ?_ _
    have hn := HI.out.n.kept gW (by simp)
    have cn : W3.cell? ⟨NB, 0, none⟩ = some (.int .i64 0) := hn.cell
    have fn := hn.frozen
    have HF : Hid (postN w8.heap.size (fun x => x = NB) (WkI w RB NB) (fun _ _ _ => False) (0 + 1) U .normal { tmps := #[], defers := [] } (W3.setCell ⟨NB, 0, none⟩ (.int .i64 1))) := Lib.hid ⟨(KeepsOthers.of_grownBy gW (fun _ _ e => by cases e)).trans (KeepsOthers.setCell _ _ _), (KeepX.grown (by have := HU.out; omega) gW).trans (KeepX.into (by have := gW.size; have := HU.out; omega) (grownBy_setCell' W3 NB _) (Or.inl rfl)), ⟨(HI.out.res.kept gW (by simp)).other HNR.out _, hn.set _, grown_setCell_new (grown_trans HI.out.gr gW) _ _ (Or.inl HNW.out)⟩⟩
    clear hn gq g3 gW
    gi_wp2
    exact HF.out
  · rintro D U hD hI hDd
    have cn : U.cell? ⟨NB, 0, none⟩ = some (.int .i64 1) := hI.n.cell
    have cr : U.cell? ⟨RB, 0, none⟩ = some (.bool false) := hI.res.cell
    have fr := hI.res.frozen
    have hr2 := hI.res.set (.bool true)
    have hDl : RB ≠ D := by
      intro e
      subst e
      rw [show U.heap[RB]? = _ from hI.res] at hDd
      cases hDd
    have hD2 : (U.setCell ⟨RB, 0, none⟩ (.bool true)).heap[D]? = some (.deferred (some [])) := (heap_setCell_other _ _ _ _ (fun e => hDl e.symm)).trans hDd
    have hG : w.grownBy ((U.setCell ⟨RB, 0, none⟩ (.bool true)).putObj D (.deferred none)) none := grown_new (grown_setCell_new hI.gr _ _ (Or.inl HRW.out)) (grownBy_putObj' _ D (.deferred none)) (by have := HI0.out.gr.size; omega)
    have hR : Boxed ((U.setCell ⟨RB, 0, none⟩ (.bool true)).putObj D (.deferred none)) RB 4 (.bool true) := hr2.kept (grownBy_putObj' _ D (.deferred none)) (fun e => hDl (by cases e; rfl))
    have HD := Lib.hid hD2
    have HG := Lib.hid hG
    have HR := Lib.hid hR
    clear hD2 hG hR hDd hr2 hI hDl
    gi_wp2
    go_wp2_with fail
    refine ⟨by simp, .inl ⟨_, _, rfl, run_takeDeferred HD.out, ?_⟩⟩
    have cc := HR.out.cell
    refine ⟨.bool true, ?_, rfl, HG.out⟩
    simp [results, Try.results51]
    go_simp
  · rintro D c k U _ _ h _
    exact h.elim
end Go.Proofs.Ytdagbighlgfhjaa
namespace Go.Proofs.Ytdagbighlgfhjaa
open Go.RowKit

set_option maxRecDepth 100000
set_option maxHeartbeats 4000000

structure OwnNVP (base n : Nat) (f : Nat → Nat) (v : Value) (W : World) : Prop where
  ex : ∃ a c, v = .slice a n c ∧ OwnN W base (.slice a n c) n f
/-- An owned slice. -/
def OwnNV (base n : Nat) (f : Nat → Nat) (v : Value) (W : World) : Prop := ∃ a c, v = .slice a n c ∧ OwnN W base (.slice a n c) n f
theorem OwnNV.grown {base n : Nat} {f : Nat → Nat} {v : Value} {W W' : World} (h : OwnNV base n f v W) (g : W.grownBy W' none) : OwnNV base n f v W' := by
  obtain ⟨a, c, h1, h2⟩ := h
  exact ⟨a, c, h1, h2.grown g⟩
def three (p q r : Nat) (i : Nat) : Nat := if i = 0 then p else if i = 1 then q else r
/-- Three bytes, new. -/
def Row3 (base : Nat) (f : Nat → Nat) (v : Value) (W : World) : Prop := ∃ g, v = .slice (some ⟨g, 0, none⟩) 3 3 ∧ base ≤ g ∧ Rd W (g + 1) (some ⟨g, 0, none⟩) 3 f
theorem Row3.grown {base : Nat} {f : Nat → Nat} {v : Value} {W W' : World} (h : Row3 base f v W) (g : W.grownBy W' none) : Row3 base f v W' := by
  obtain ⟨a, h1, h2, h3⟩ := h
  exact ⟨a, h1, h2, h3.grown g (by simp)⟩
theorem rd_three (W : World) (p q r D : Nat) (hD : W.heap.size < D) : Rd (W.alloc (.cells #[.int .u8 (p : Nat), .int .u8 (q : Nat), .int .u8 (r : Nat)] 5)) D (some ⟨W.heap.size, 0, none⟩) 3 (three p q r) := ⟨fun _ => ⟨W.heap.size, 0, rfl, hD, fun i hi => by
  obtain rfl | rfl | rfl : i = 0 ∨ i = 1 ∨ i = 2 := by omega
  · exact cell_of_row _ _ _ _ _ _ (heap_alloc_new W _)
  · exact cell_of_row _ _ _ _ _ _ (heap_alloc_new W _)
  · exact cell_of_row _ _ _ _ _ _ (heap_alloc_new W _)⟩⟩
theorem cat_lowR {n i : Nat} {f g : Nat → Nat} (h : i < n) : cat n f g i = f i := if_pos h
theorem OwnN.put {w : World} {base n c : Nat} {a : Option Addr} {f : Nat → Nat} (h : OwnN w base (.slice a n c) n f) (i v : Nat) (hi : i < n) : ∃ q, a = some ⟨q, 0, none⟩ ∧ base ≤ q ∧ (∃ u, w.cell? ⟨q, i, none⟩ = some u) ∧ w.frozen? ⟨q, i, none⟩ = false ∧ OwnN (w.setCell ⟨q, i, none⟩ (.int .u8 (v : Nat))) base (.slice a n c) n (upd f i v) := by
  rcases h.ex with ⟨e, h0⟩ | ⟨q, cap, e, hO, hb⟩
  · omega
  · cases e
    exact ⟨q, rfl, hb, ⟨_, hO.cell i hi⟩, hO.free i, ⟨Or.inr ⟨q, c, rfl, hO.set i v hi, hb⟩⟩⟩
theorem refRecBytes_any (x : QV) (hx : x.Ok) (w : World) : Calls Try.prog 55 #[.agg (rowOf 22 x.v)] w fun e w' => ∃ v, e = .returned v ∧ OwnN w' w.heap.size v 43 x.bytes ∧ w.grownBy w' none := by
  have ga := World.grownBy_alloc w (.cells (rowOf 22 x.v) 128) none
  have hX := RowAt.new w 128 22 x.v _ rfl
  have HOK := Lib.hid hx
  clear hx
  go_enter Try.func55, Try.ntmps55
  go_upto_region 1 with fail
  obtain ⟨B, hB⟩ : ∃ B, B = w.heap.size := ⟨_, rfl⟩
  rw [← hB] at hX ⊢
  have hlt := hX.lt
  generalize w.alloc (.cells (rowOf 22 x.v) 128) = w1 at *
  have C16 : Hid (w1.cell? ⟨B, 16, none⟩ = some (.int .u8 (x.pe : Nat))) := hX.cell 16 (by decide)
  have C18 : Hid (w1.cell? ⟨B, 18, none⟩ = some (.int .u8 (x.oc : Nat))) := hX.cell 18 (by decide)
  have HX := Lib.hid hX
  have HG := Lib.hid ga
  have HGS := Lib.hid (show w.heap.size ≤ w1.heap.size from ga.size)
  have HLT := Lib.hid hlt
  clear hB hX ga hlt
  refine wp_region_rel_all (fun W => w1.grownBy W none) (fun _ h => h) (alL []) (relL [fun vv _ => vv = .pointer (some ⟨B, 0, none⟩), fun vv _ => vv = .agg (cellsOf .u8 16 x.id), OwnNV w1.heap.size 16 x.id, fun vv _ => vv = .pointer (some ⟨B, 16, none⟩), fun vv _ => vv = .int .u8 (x.pe : Nat), fun vv _ => vv = .pointer (some ⟨B, 18, none⟩), fun vv _ => vv = .int .u8 (x.oc : Nat), Row3 w1.heap.size (three x.pe 0 x.oc)])
    8 2 (atL [4, 5, 6, 7, 8, 9, 10, 11]) (depL [[], [0], [1], [], [3], [], [5], [4, 6]]) (by kernel_rfl) rfl (by kernel_rfl) (by kernel_rfl) (by kernel_rfl) (by decide) (by kernel_rfl) 32 rfl (by decide) (by decide) (by decide) ?monoR1 ?alR1 ?stepR1 ?finR1
  case monoR1 =>
    intro k x W W' hk h g
    obtain rfl | rfl | rfl | rfl | rfl | rfl | rfl | rfl : k = 0 ∨ k = 1 ∨ k = 2 ∨ k = 3 ∨ k = 4 ∨ k = 5 ∨ k = 6 ∨ k = 7 := by omega
    · exact h
    · exact h
    · exact OwnNV.grown h g
    · exact h
    · exact h
    · exact h
    · exact h
    · exact Row3.grown h g
  case alR1 =>
    intro k x W hk e h
    obtain rfl | rfl | rfl | rfl | rfl | rfl | rfl | rfl : k = 0 ∨ k = 1 ∨ k = 2 ∨ k = 3 ∨ k = 4 ∨ k = 5 ∨ k = 6 ∨ k = 7 := by omega
    · exact absurd e (by decide)
    · exact absurd e (by decide)
    · exact absurd e (by decide)
    · exact absurd e (by decide)
    · exact absurd e (by decide)
    · exact absurd e (by decide)
    · exact absurd e (by decide)
    · exact absurd e (by decide)
  case stepR1 =>
    intro k hk
    obtain rfl | rfl | rfl | rfl | rfl | rfl | rfl | rfl : k = 0 ∨ k = 1 ∨ k = 2 ∨ k = 3 ∨ k = 4 ∨ k = 5 ∨ k = 6 ∨ k = 7 := by omega
    · refine ⟨_, rfl, rfl, fun b W hs hg hD => ⟨wanted_of rfl, fun K hK0 => ?_⟩⟩
      have hK := fun v W' g h => hK0 v W' g h (fun e => absurd e (by decide))
      have h0 : b.tmps[1]?.getD undef = .pointer (some ⟨B, 0, none⟩) := (hs 1 (by decide))
      exact rel_val (v := .pointer (some ⟨B, 0, none⟩)) (by unfold execOp; go_simp) rfl hK
    · refine ⟨_, rfl, rfl, fun b W hs hg hD => ⟨wanted_of rfl, fun K hK0 => ?_⟩⟩
      have hK := fun v W' g h => hK0 v W' g h (fun e => absurd e (by decide))
      have h0 : b.tmps[4]?.getD undef = .pointer (some ⟨B, 0, none⟩) := (hD 0 (by decide))
      exact rel_val (exec_loadQ (.tmp 4) _ _ rfl ((eval_slot b 4).trans h0) ((HX.out.grown hg (by simp)).load (P := Try.prog) 0 23 16 (fun j => .int .u8 (x.id j)) (by decide) (fun j hj => QV.v_id x j hj) (by kernel_rfl) (by kernel_rfl))) rfl hK
    · refine ⟨_, rfl, rfl, fun b W hs hg hD => ⟨wanted_of rfl, fun K hK0 => ?_⟩⟩
      have hK := fun v W' g h => hK0 v W' g h (fun e => absurd e (by decide))
      have h0 : b.tmps[5]?.getD undef = .agg (cellsOf .u8 16 x.id) := (hD 1 (by decide))
      refine rel_call 59 _ (exec_fn1 _ _ _ rfl ((eval_slot b 5).trans h0)) idQ_enters ?_ hK
      refine (sgId_any x.id W).mono fun e w' h => ?_
      obtain ⟨v, rfl, hO, hgr⟩ := h.ex
      obtain ⟨a, c, rfl, _, _⟩ := hO.rd
      exact ⟨_, rfl, hgr, a, c, rfl, hO.base hg.size⟩
    · refine ⟨_, rfl, rfl, fun b W hs hg hD => ⟨wanted_of rfl, fun K hK0 => ?_⟩⟩
      have hK := fun v W' g h => hK0 v W' g h (fun e => absurd e (by decide))
      have h0 : b.tmps[1]?.getD undef = .pointer (some ⟨B, 0, none⟩) := (hs 1 (by decide))
      exact rel_val (v := .pointer (some ⟨B, 16, none⟩)) (by unfold execOp; go_simp) rfl hK
    · refine ⟨_, rfl, rfl, fun b W hs hg hD => ⟨wanted_of rfl, fun K hK0 => ?_⟩⟩
      have hK := fun v W' g h => hK0 v W' g h (fun e => absurd e (by decide))
      have h0 : b.tmps[7]?.getD undef = .pointer (some ⟨B, 16, none⟩) := (hD 3 (by decide))
      have cc := hg.cell (C16.out) (by simp)
      exact rel_val (by unfold execOp; go_simp) rfl hK
    · refine ⟨_, rfl, rfl, fun b W hs hg hD => ⟨wanted_of rfl, fun K hK0 => ?_⟩⟩
      have hK := fun v W' g h => hK0 v W' g h (fun e => absurd e (by decide))
      have h0 : b.tmps[1]?.getD undef = .pointer (some ⟨B, 0, none⟩) := (hs 1 (by decide))
      exact rel_val (v := .pointer (some ⟨B, 18, none⟩)) (by unfold execOp; go_simp) rfl hK
    · refine ⟨_, rfl, rfl, fun b W hs hg hD => ⟨wanted_of rfl, fun K hK0 => ?_⟩⟩
      have hK := fun v W' g h => hK0 v W' g h (fun e => absurd e (by decide))
      have h0 : b.tmps[9]?.getD undef = .pointer (some ⟨B, 18, none⟩) := (hD 5 (by decide))
      have cc := hg.cell (C18.out) (by simp)
      exact rel_val (by unfold execOp; go_simp) rfl hK
    · refine ⟨_, rfl, rfl, fun b W hs hg hD => ⟨wanted_of rfl, fun K hK0 => ?_⟩⟩
      have hK := fun v W' g h => hK0 v W' g h (fun e => absurd e (by decide))
      have h0 : b.tmps[8]?.getD undef = .int .u8 (x.pe : Nat) := (hD 4 (by decide))
      have h1 : b.tmps[10]?.getD undef = .int .u8 (x.oc : Nat) := (hD 6 (by decide))
      exact wp_yields (by unfold execOp; go_simp) (hK0 _ _ (World.grownBy_alloc W (.cells #[.int .u8 (x.pe : Nat), .int .u8 0, .int .u8 (x.oc : Nat)] 5) none) (show Row3 w1.heap.size (three x.pe 0 x.oc) _ _ from ⟨W.heap.size, rfl, hg.size, rd_three W x.pe 0 x.oc (W.heap.size + 1) (Nat.lt_succ_self _)⟩) (fun e => absurd e (by decide)))
  case finR1 =>
    intro vals W hg hR hap
    obtain ⟨a2, c2, e2, hO⟩ := hR 2 (by decide)
    obtain ⟨g7, e7, hgb, hR7⟩ := hR 7 (by decide)
    clear hR hap
    simp only [putsN, atL, Act.put, List.getD_cons_zero, List.getD_cons_succ, List.setIfInBounds_toArray, List.set_cons_succ, List.set_cons_zero, e2, e7]
    generalize vals 0 = q0
    generalize vals 1 = q1
    generalize vals 3 = q3
    generalize vals 4 = q4
    generalize vals 5 = q5
    generalize vals 6 = q6
    clear e2 e7 vals
    show wpAnyH _ _ _ _ _ 2 #[true, true, true, true, true, true, true, true, false, false] _ _
    obtain ⟨a3, c3, w2, hap, hO3, hG3, _⟩ := app_N1 3 39 hg hO hR7 (by decide)
    refine wpAnyH_yieldD (some 12) (i := 8) (v := .slice a3 19 c3) (by kernel_rfl) rfl rfl rfl (exec_appendQ (.tmp 6) (.tmp 11) _ _ _ rfl rfl rfl rfl hap) hG3 ?_
    simp only [Act.put, List.setIfInBounds_toArray, List.set_cons_succ, List.set_cons_zero]
    refine wpAnyH_yieldD (some 3) (i := 9) (v := .slice a3 19 c3) (by kernel_rfl) rfl rfl rfl rfl hG3 ?_
    simp only [Act.put, List.setIfInBounds_toArray, List.set_cons_succ, List.set_cons_zero]
    refine wpAnyH_done (by kernel_rfl) ?_ _
    have hX2 := HX.out.grown hG3 (by simp)
    have HX2 := Lib.hid hX2
    have HG3 := Lib.hid (grown_trans HG.out hG3)
    have HG12' := Lib.hid hG3
    have hZ3 := Lib.hid hG3.size
    have h17 : w2.cell? ⟨B, 17, none⟩ = some (.bool x.out) := hX2.cell 17 (by decide)
    have HO3 := Lib.hid hO3
    clear hap hO hR7 hg hgb hG3 hX2 hO3
    clear C16 C18
    obtain ⟨ot, hot⟩ : ∃ o, o = x.out := ⟨_, rfl⟩
    rw [← hot] at h17
    have HOT := Lib.hid hot
    have HG12 := Lib.hid (show w1.grownBy w2 none from HG12'.out)
    clear hot
    cases ot with
    | false =>
      go_upto_region 4 with fail
      obtain ⟨U0, hU0⟩ : ∃ U, U = w2 := ⟨_, rfl⟩
      rw [← hU0] at HX2 HO3 HG12 h17 ⊢
      clear h17 HG3 hZ3 hU0
      obtain ⟨f19, hf19, HOU, HXU, HGU⟩ : ∃ f19 : Nat → Nat, (∀ i, i < 19 → f19 i = cat 18 (cat 17 (cat 16 x.id (fun _ => x.pe)) (fun _ => flagB x.out)) (fun _ => x.oc) i) ∧ Hid (OwnN U0 w1.heap.size (.slice a3 19 c3) 19 f19) ∧ Hid (RowAt U0 B 128 22 x.v) ∧ Hid (w1.grownBy U0 none) := ⟨_, fun i hi => by
          rw [← HOT.out]
          unfold cat three
          by_cases h1 : i < 16
          · rw [if_pos h1, if_pos (by omega), if_pos (by omega), if_pos h1]
          · obtain rfl | rfl | rfl : i = 16 ∨ i = 17 ∨ i = 18 := by omega
            · rfl
            · rfl
            · rfl, HO3, HX2, HG12⟩
      have HXW := HX
      have HF19 := Lib.hid hf19
      clear hf19
      have c19 : U0.cell? ⟨B, 19, none⟩ = some (.int .u64 (x.bg : Nat)) := HXU.out.cell 19 (by decide)
      have HNUM := Lib.hid (sgNumber_any x.bg 8 HOK.out.bg (by decide) (by decide) U0)
      go_wp2_with fail
      go_at_call 60
      refine HNUM.out.mono ?_
      rintro e V0 h
      obtain ⟨b0, rfl, _, hF⟩ := h.ex
      obtain ⟨a4, c4, U1, hap, hO, hG, _⟩ := app_N1 8 39 (grown_trans HGU.out h.gr) (HOU.out.grown h.gr) (hF.own (by decide)).rd (by decide)
      have HAP := Lib.hid hap
      have HOU0 := Lib.hid hO
      have HGU0 := Lib.hid hG
      have HXU0 := Lib.hid (HXW.out.grown hG (by simp))
      clear HNUM h hF hap hO hG c19 HXU HGU HOU
      go_upto_region 5 with (at_builtin; refine wpList_append_run rfl (.tmp 17) (.tmp 20) 39 39 rfl _ _ _ _ rfl rfl HAP.out ?_)
      have HXU := HXU0
      have HGU := HGU0
      have HOU := HOU0
      clear HAP HXU0 HGU0 HOU0
      have c20 : U1.cell? ⟨B, 20, none⟩ = some (.int .u64 (x.an : Nat)) := HXU.out.cell 20 (by decide)
      have HNUM := Lib.hid (sgNumber_any x.an 8 HOK.out.an (by decide) (by decide) U1)
      go_wp2_with fail
      go_at_call 60
      refine HNUM.out.mono ?_
      rintro e V1 h
      obtain ⟨b1, rfl, _, hF⟩ := h.ex
      obtain ⟨a5, c5, U2, hap, hO, hG, _⟩ := app_N1 8 39 (grown_trans HGU.out h.gr) (HOU.out.grown h.gr) (hF.own (by decide)).rd (by decide)
      have HAP := Lib.hid hap
      have HOU1 := Lib.hid hO
      have HGU1 := Lib.hid hG
      have HXU1 := Lib.hid (HXW.out.grown hG (by simp))
      clear HNUM h hF hap hO hG c20 HXU HGU HOU
      go_upto_region 6 with (at_builtin; refine wpList_append_run rfl (.tmp 22) (.tmp 25) 39 39 rfl _ _ _ _ rfl rfl HAP.out ?_)
      have HXU := HXU1
      have HGU := HGU1
      have HOU := HOU1
      clear HAP HXU1 HGU1 HOU1
      have c21 : U2.cell? ⟨B, 21, none⟩ = some (.int .u64 (x.en : Nat)) := HXU.out.cell 21 (by decide)
      have HNUM := Lib.hid (sgNumber_any x.en 8 HOK.out.en (by decide) (by decide) U2)
      go_wp2_with fail
      go_at_call 60
      refine HNUM.out.mono ?_
      rintro e V2 h
      obtain ⟨b2, rfl, _, hF⟩ := h.ex
      obtain ⟨a6, c6, U3, hap, hO, hG, _⟩ := app_N1 8 39 (grown_trans HGU.out h.gr) (HOU.out.grown h.gr) (hF.own (by decide)).rd (by decide)
      have HAP := Lib.hid hap
      have HOU2 := Lib.hid hO
      have HGU2 := Lib.hid hG
      have HXU2 := Lib.hid (HXW.out.grown hG (by simp))
      clear HNUM h hF hap hO hG c21 HXU HGU HOU
      go_wp2_with (at_builtin; refine wpList_append_run rfl (.tmp 27) (.tmp 30) 39 39 rfl _ _ _ _ rfl rfl HAP.out ?_)
      go_ret
      exact ⟨_, rfl, (HOU2.out.congr (fun i hi => by
        unfold QV.bytes
        by_cases h1 : i < 35
        · rw [cat_lowR (by omega : i < 19 + 8 + 8), cat_lowR h1]
          by_cases h2 : i < 27
          · rw [cat_lowR (by omega : i < 19 + 8), cat_lowR h2]
            by_cases h3 : i < 19
            · rw [cat_lowR h3, cat_lowR h3]; exact HF19.out i h3
            · unfold cat; rw [if_neg h3, if_neg h3]
          · unfold cat; rw [if_neg (by omega), if_neg h2]
        · unfold cat; rw [if_neg (by omega), if_neg h1])).base (by have := HGS.out; omega), grown_trans HG.out HGU2.out⟩
    | true =>
      obtain ⟨q, rfl, hbq, ⟨u, hcu⟩, hfz, hO⟩ := HO3.out.put 17 1 (by decide)
      obtain ⟨U0, hU0⟩ : ∃ U, U = w2.setCell ⟨q, 17, none⟩ (.int .u8 (1 : Nat)) := ⟨_, rfl⟩
      have hG := grown_setCell_new HG12.out ⟨q, 17, none⟩ (.int .u8 (1 : Nat)) (Or.inl (by show w1.heap.size ≤ q; omega))
      have hXq : RowAt U0 B 128 22 x.v := HX2.out.grown (row := some q) (by rw [hU0]; exact grown_setCell_new (grown_refl w2 _) _ _ (Or.inr rfl)) (by have := HLT.out; intro e; cases e; omega)
      rw [← hU0] at hO hG
      have HO4 := Lib.hid hO
      have HX4 := Lib.hid hXq
      have HG4 := Lib.hid hG
      have HU0 := Lib.hid hU0
      clear hO hXq hG hU0
      go_upto_region 4 with fail
      rw [show w2.setCell ⟨q, 17, none⟩ (.int .u8 1) = U0 from HU0.out.symm]
      clear h17 HG3 hZ3 HU0 hcu hfz hbq HX2 HG12 HO3
      obtain ⟨a3, ha3⟩ : ∃ a, a = (some ⟨q, 0, none⟩ : Option Addr) := ⟨_, rfl⟩
      rw [← ha3] at HO4 ⊢
      clear ha3
      obtain ⟨f19, hf19, HOU, HXU, HGU⟩ : ∃ f19 : Nat → Nat, (∀ i, i < 19 → f19 i = cat 18 (cat 17 (cat 16 x.id (fun _ => x.pe)) (fun _ => flagB x.out)) (fun _ => x.oc) i) ∧ Hid (OwnN U0 w1.heap.size (.slice a3 19 c3) 19 f19) ∧ Hid (RowAt U0 B 128 22 x.v) ∧ Hid (w1.grownBy U0 none) := ⟨_, fun i hi => by
          rw [← HOT.out]
          unfold upd cat three
          by_cases h1 : i < 16
          · rw [if_neg (by omega), if_pos h1, if_pos (by omega), if_pos (by omega), if_pos h1]
          · obtain rfl | rfl | rfl : i = 16 ∨ i = 17 ∨ i = 18 := by omega
            · rfl
            · rfl
            · rfl, HO4, HX4, HG4⟩
      have HXW := HX
      have HF19 := Lib.hid hf19
      clear hf19
      have c19 : U0.cell? ⟨B, 19, none⟩ = some (.int .u64 (x.bg : Nat)) := HXU.out.cell 19 (by decide)
      have HNUM := Lib.hid (sgNumber_any x.bg 8 HOK.out.bg (by decide) (by decide) U0)
      go_wp2_with fail
      go_at_call 60
      refine HNUM.out.mono ?_
      rintro e V0 h
      obtain ⟨b0, rfl, _, hF⟩ := h.ex
      obtain ⟨a4, c4, U1, hap, hO, hG, _⟩ := app_N1 8 39 (grown_trans HGU.out h.gr) (HOU.out.grown h.gr) (hF.own (by decide)).rd (by decide)
      have HAP := Lib.hid hap
      have HOU0 := Lib.hid hO
      have HGU0 := Lib.hid hG
      have HXU0 := Lib.hid (HXW.out.grown hG (by simp))
      clear HNUM h hF hap hO hG c19 HXU HGU HOU
      go_upto_region 5 with (at_builtin; refine wpList_append_run rfl (.tmp 17) (.tmp 20) 39 39 rfl _ _ _ _ rfl rfl HAP.out ?_)
      have HXU := HXU0
      have HGU := HGU0
      have HOU := HOU0
      clear HAP HXU0 HGU0 HOU0
      have c20 : U1.cell? ⟨B, 20, none⟩ = some (.int .u64 (x.an : Nat)) := HXU.out.cell 20 (by decide)
      have HNUM := Lib.hid (sgNumber_any x.an 8 HOK.out.an (by decide) (by decide) U1)
      go_wp2_with fail
      go_at_call 60
      refine HNUM.out.mono ?_
      rintro e V1 h
      obtain ⟨b1, rfl, _, hF⟩ := h.ex
      obtain ⟨a5, c5, U2, hap, hO, hG, _⟩ := app_N1 8 39 (grown_trans HGU.out h.gr) (HOU.out.grown h.gr) (hF.own (by decide)).rd (by decide)
      have HAP := Lib.hid hap
      have HOU1 := Lib.hid hO
      have HGU1 := Lib.hid hG
      have HXU1 := Lib.hid (HXW.out.grown hG (by simp))
      clear HNUM h hF hap hO hG c20 HXU HGU HOU
      go_upto_region 6 with (at_builtin; refine wpList_append_run rfl (.tmp 22) (.tmp 25) 39 39 rfl _ _ _ _ rfl rfl HAP.out ?_)
      have HXU := HXU1
      have HGU := HGU1
      have HOU := HOU1
      clear HAP HXU1 HGU1 HOU1
      have c21 : U2.cell? ⟨B, 21, none⟩ = some (.int .u64 (x.en : Nat)) := HXU.out.cell 21 (by decide)
      have HNUM := Lib.hid (sgNumber_any x.en 8 HOK.out.en (by decide) (by decide) U2)
      go_wp2_with fail
      go_at_call 60
      refine HNUM.out.mono ?_
      rintro e V2 h
      obtain ⟨b2, rfl, _, hF⟩ := h.ex
      obtain ⟨a6, c6, U3, hap, hO, hG, _⟩ := app_N1 8 39 (grown_trans HGU.out h.gr) (HOU.out.grown h.gr) (hF.own (by decide)).rd (by decide)
      have HAP := Lib.hid hap
      have HOU2 := Lib.hid hO
      have HGU2 := Lib.hid hG
      have HXU2 := Lib.hid (HXW.out.grown hG (by simp))
      clear HNUM h hF hap hO hG c21 HXU HGU HOU
      go_wp2_with (at_builtin; refine wpList_append_run rfl (.tmp 27) (.tmp 30) 39 39 rfl _ _ _ _ rfl rfl HAP.out ?_)
      go_ret
      exact ⟨_, rfl, (HOU2.out.congr (fun i hi => by
        unfold QV.bytes
        by_cases h1 : i < 35
        · rw [cat_lowR (by omega : i < 19 + 8 + 8), cat_lowR h1]
          by_cases h2 : i < 27
          · rw [cat_lowR (by omega : i < 19 + 8), cat_lowR h2]
            by_cases h3 : i < 19
            · rw [cat_lowR h3, cat_lowR h3]; exact HF19.out i h3
            · unfold cat; rw [if_neg h3, if_neg h3]
          · unfold cat; rw [if_neg (by omega), if_neg h2]
        · unfold cat; rw [if_neg (by omega), if_neg h1])).base (by have := HGS.out; omega), grown_trans HG.out HGU2.out⟩
end Go.Proofs.Ytdagbighlgfhjaa
namespace Go.Proofs.Ytdagbighlgfhjaa
open Go.RowKit

set_option maxRecDepth 100000
set_option maxHeartbeats 4000000

theorem exec_convR {o : Oper} {a : Act} {w : World} {v u : Value} (x : Operand) (ho : o.op = .convert 39 9 x) (hx : a.eval x = v) (h : (convert 39 9 v).run Try.prog w = .ok u w) : (execOp a.eval o).run Try.prog w = .ok (.value u) w := by
  unfold execOp
  simp only [ho, hx, Sem.run_bind, h, Result.andThen_ok, Sem.run_pure]
theorem refBytes_enters : ∀ args w, (callFunc 55 args).run Try.prog w = .ok (.enter 55 args) w := enters_of Try.func55 (by kernel_rfl) rfl
theorem works11_enters : ∀ args w, (callFunc 51 args).run Try.prog w = .ok (.enter 51 args) w := enters_of Try.func51 (by kernel_rfl) rfl
theorem RecPuts_any (D n1 c1 : Nat) (a1 : Option Addr) (f1 : Nat → Nat) (x : QV) (w : World) (hx : x.Ok) (hR : Rd w D a1 n1 f1) (hf : ∀ i, f1 i < 256) (hc : n1 ≤ c1) :
    Calls Try.prog 7 #[.agg (rowOf 22 x.v), .slice a1 n1 c1] w fun e w' => e = .returned (.bool true) ∧ w.grownBy w' none := by
  have ga := World.grownBy_alloc w (.cells (rowOf 22 x.v) 128) none
  have hX := RowAt.new w 128 22 x.v _ rfl
  have HRB := Lib.hid hR
  have HFB := Lib.hid hf
  have HCB := Lib.hid hc
  have HXO := Lib.hid hx
  clear hR hf hc hx
  go_enter Try.func7, Try.ntmps7
  go_upto_region 1 with fail
  obtain ⟨B, hB⟩ : ∃ B, B = w.heap.size := ⟨_, rfl⟩
  rw [← hB] at hX ⊢
  generalize w.alloc (.cells (rowOf 22 x.v) 128) = w1 at *
  have HG := Lib.hid ga
  have HX1 := Lib.hid hX
  clear ga hX hB
  by_cases h200 : 200 < n1
  · have j0 : (200 : Int) < (n1 : Int) := by omega
    have HW := Lib.hid (works11_any w1)
    clear h200
    go_wp2_with fail
    go_at_call 51
    refine HW.out.mono ?_
    rintro e w2 ⟨rfl, g2⟩
    have HG2 := Lib.hid (grown_trans HG.out g2)
    clear g2 HW
    go_wp2_with fail
    go_ret
    exact ⟨rfl, HG2.out⟩
  · have j0 : ¬ (200 : Int) < (n1 : Int) := by omega
    have H3 := refRecMay_any x w1
    obtain ⟨m, hm⟩ : ∃ m, m = x.may := ⟨_, rfl⟩
    rw [← hm] at H3
    have H3 := Lib.hid H3
    have HM := Lib.hid hm
    obtain ⟨ok, hok⟩ : ∃ ok, ok = recOk n1 f1 := ⟨_, rfl⟩
    have HOK := Lib.hid hok
    obtain ⟨y, hy⟩ : ∃ y : QV, y = (if ok = true then recF f1 else QV.zero) := ⟨_, rfl⟩
    have HY := Lib.hid hy
    clear hm hok hy
    have HLx := Lib.hid (HX1.out.load (P := Try.prog) 0 128 22 x.v (by decide) (fun j _ => by rw [Nat.zero_add]) (by kernel_rfl) (by kernel_rfl))
    go_wp2_with (first | ((with_reducible refine wpList_here ?_); refine wpList_ld (p := .pointer (some ⟨B, 0, none⟩)) 2 ?_ ?_ ?_ HLx.out ?_; (· rfl); go_simp; (· kernel_rfl)))
    go_at_call 52
    refine H3.out.mono ?_
    rintro e w2 ⟨rfl, g2⟩
    have HX2 := Lib.hid (HX1.out.grown g2 (by simp))
    have HG2 := Lib.hid (grown_trans HG.out g2)
    clear g2 H3 HLx HX1 HG
    cases m with
    | false =>
      cases ok with
      | false =>
        have H4 := recPut_any x HXO.out w2
        rw [← HM.out] at H4
        have H4 : Hid (Calls Try.prog 49 #[.agg (rowOf 22 x.v)] w2 (RcPutSays w2 false 43 x.bytes)) := Lib.hid H4
        have HL2 := Lib.hid (HX2.out.load (P := Try.prog) 0 128 22 x.v (by decide) (fun j _ => by rw [Nat.zero_add]) (by kernel_rfl) (by kernel_rfl))
        go_wp2_with (first | ((with_reducible refine wpList_here ?_); refine wpList_ld (p := .pointer (some ⟨B, 0, none⟩)) 2 ?_ ?_ ?_ HL2.out ?_; (· rfl); go_simp; (· kernel_rfl)))
        go_at_call 49
        refine H4.out.mono ?_
        rintro e w3 ⟨⟨ap, cp, rfl, hO⟩, g3⟩
        have hO : OwnN w3 w2.heap.size (.slice ap 0 cp) 0 x.bytes := hO
        rw [show (.slice ap (if false = true then 43 else 0) cp : Value) = .slice ap 0 cp from rfl, show (.int .i64 (if false = true then 0 else 2) : Value) = .int .i64 2 from rfl]
        have HO3 := Lib.hid hO
        have HX3 := Lib.hid (HX2.out.grown g3 (by simp))
        have HG3 := Lib.hid (grown_trans HG2.out g3)
        have H5 := recTake_f D n1 c1 a1 f1 w3 (HRB.out.grown HG3.out (by simp)) (by omega) HFB.out
        rw [← HOK.out, show rcRes false (recF f1) = .tuple #[.agg (rowOf 22 y.v), .int .i64 9] from by unfold rcRes; rw [HY.out] <;> rfl] at H5
        have H5 := Lib.hid H5
        clear hO g3 H4 HL2 HX2 HG2
        go_wp2_with fail
        go_at_call 50
        refine H5.out.mono ?_
        rintro e w4 ⟨rfl, g4⟩
        have hN := RowAt.new w4 128 22 QV.zero.v _ QV.zero_row
        obtain ⟨k1, k2⟩ := RowAt.store (P := Try.prog) hN 0 128 22 y.v (by decide) (by kernel_rfl) (fun j _ => QV.one _ j)
        obtain ⟨w5, hw2⟩ : ∃ W, W = (w4.alloc (.cells #[.int .u8 0, .int .u8 0, .int .u8 0, .int .u8 0, .int .u8 0, .int .u8 0, .int .u8 0, .int .u8 0, .int .u8 0, .int .u8 0, .int .u8 0, .int .u8 0, .int .u8 0, .int .u8 0, .int .u8 0, .int .u8 0, .int .u8 0, .bool false, .int .u8 0, .int .u64 0, .int .u64 0, .int .u64 0] 128)).setCells w4.heap.size 0 (rowOf 22 y.v).toList := ⟨_, rfl⟩
        have g2 : w4.grownBy w5 none := by rw [hw2]; exact grown_setCells w4.heap.size (Or.inl (Nat.le_refl _)) _ 0 _ (World.grownBy_alloc w4 _ none)
        rw [← hw2] at k1 k2
        have hX2 := k2.congr (v' := y.v) fun i hi => by rw [if_pos ⟨Nat.zero_le _, by omega⟩, Nat.sub_zero]
        have HS := Lib.hid k1
        have g := grown_trans g4 g2
        have HX5 := Lib.hid (HX3.out.grown g (by simp))
        have HO5 := Lib.hid (HO3.out.grown g)
        have HG5 := Lib.hid (grown_trans HG3.out g)
        have HS5 := Lib.hid hX2
        obtain ⟨sb, hsb⟩ : ∃ b, b = w4.heap.size := ⟨_, rfl⟩
        rw [← hsb] at HS HS5
        have HSB := Lib.hid hsb
        have H6 := refRecTake_any D n1 c1 a1 f1 w5 (HRB.out.grown HG5.out (by simp)) HCB.out HFB.out
        rw [← HOK.out, show refRes false (recF f1) = .tuple #[.agg (rowOf 22 y.v), .bool false] from by unfold refRes; rw [HY.out] <;> rfl] at H6
        have H6 := Lib.hid H6
        clear hN k1 k2 hw2 g2 hX2 g g4 HX3 HO3 HG3 H5 hsb
        go_upto_region 6 with (first | ((with_reducible refine wpList_here ?_); refine wpList_st (T := 128) (p := .pointer (some ⟨w4.heap.size, 0, none⟩)) (v := .agg (rowOf 22 y.v)) (.tmp 8) (.tmp 26) ?_ ?_ ?_ ?_ ?_ (by rw [← HSB.out]; exact HS.out) ?_; (· rfl); (· rfl); go_simp; (· kernel_rfl); (· kernel_rfl)))
        rw [← HSB.out]
        clear HS HSB
        go_wp2_with fail
        go_at_call 53
        refine H6.out.mono ?_
        rintro e w6 ⟨rfl, g6⟩
        have hN := RowAt.new w6 128 22 QV.zero.v _ QV.zero_row
        obtain ⟨k1, k2⟩ := RowAt.store (P := Try.prog) hN 0 128 22 y.v (by decide) (by kernel_rfl) (fun j _ => QV.one _ j)
        obtain ⟨w7, hw2⟩ : ∃ W, W = (w6.alloc (.cells #[.int .u8 0, .int .u8 0, .int .u8 0, .int .u8 0, .int .u8 0, .int .u8 0, .int .u8 0, .int .u8 0, .int .u8 0, .int .u8 0, .int .u8 0, .int .u8 0, .int .u8 0, .int .u8 0, .int .u8 0, .int .u8 0, .int .u8 0, .bool false, .int .u8 0, .int .u64 0, .int .u64 0, .int .u64 0] 128)).setCells w6.heap.size 0 (rowOf 22 y.v).toList := ⟨_, rfl⟩
        have g2 : w6.grownBy w7 none := by rw [hw2]; exact grown_setCells w6.heap.size (Or.inl (Nat.le_refl _)) _ 0 _ (World.grownBy_alloc w6 _ none)
        rw [← hw2] at k1 k2
        have hX2 := k2.congr (v' := y.v) fun i hi => by rw [if_pos ⟨Nat.zero_le _, by omega⟩, Nat.sub_zero]
        have HS := Lib.hid k1
        have g := grown_trans g6 g2
        have HX7 := Lib.hid (HX5.out.grown g (by simp))
        have HO7 := Lib.hid (HO5.out.grown g)
        have HG7 := Lib.hid (grown_trans HG5.out g)
        have HS7 := Lib.hid (HS5.out.grown g (by simp))
        have HW7 := Lib.hid hX2
        obtain ⟨wb, hwb⟩ : ∃ b, b = w6.heap.size := ⟨_, rfl⟩
        rw [← hwb] at HS HW7
        have HWB := Lib.hid hwb
        clear hN k1 k2 hw2 g2 hX2 g g6 HX5 HO5 HG5 HS5 H6 hwb
        go_upto_region 7 with (first | ((with_reducible refine wpList_here ?_); refine wpList_st (T := 128) (p := .pointer (some ⟨w6.heap.size, 0, none⟩)) (v := .agg (rowOf 22 y.v)) (.tmp 10) (.tmp 31) ?_ ?_ ?_ ?_ ?_ (by rw [← HWB.out]; exact HS.out) ?_; (· rfl); (· rfl); go_simp; (· kernel_rfl); (· kernel_rfl)))
        rw [← HWB.out]
        clear HS HWB
        have HL7 := Lib.hid (HX7.out.load (P := Try.prog) 0 128 22 x.v (by decide) (fun j _ => by rw [Nat.zero_add]) (by kernel_rfl) (by kernel_rfl))
        have H8 := recMay_any x w7
        rw [← HM.out] at H8
        have H8 := Lib.hid H8
        go_wp2_with (first | ((with_reducible refine wpList_here ?_); refine wpList_ld (p := .pointer (some ⟨B, 0, none⟩)) 2 ?_ ?_ ?_ HL7.out ?_; (· rfl); go_simp; (· kernel_rfl)))
        go_at_call 54
        refine H8.out.mono ?_
        rintro e w8 ⟨rfl, g8⟩
        have HX8 := Lib.hid (HX7.out.grown g8 (by simp))
        have HO8 := Lib.hid (HO7.out.grown g8)
        have HG8 := Lib.hid (grown_trans HG7.out g8)
        have HLS := Lib.hid ((HS7.out.grown g8 (by simp)).load (P := Try.prog) 0 128 22 y.v (by decide) (fun j _ => by rw [Nat.zero_add]) (by kernel_rfl) (by kernel_rfl))
        have HLW := Lib.hid ((HW7.out.grown g8 (by simp)).load (P := Try.prog) 0 128 22 y.v (by decide) (fun j _ => by rw [Nat.zero_add]) (by kernel_rfl) (by kernel_rfl))
        clear g8 HX7 HO7 HG7 HS7 HW7 HL7 H8
        have HWK := Lib.hid (fun W => works11_any W)
        go_wp2_with (first | ((with_reducible refine wpList_here ?_); refine wpList_ld (p := .pointer (some ⟨sb, 0, none⟩)) 8 ?_ ?_ ?_ HLS.out ?_; (· rfl); go_simp; (· kernel_rfl)) | ((with_reducible refine wpList_here ?_); refine wpList_ld (p := .pointer (some ⟨wb, 0, none⟩)) 10 ?_ ?_ ?_ HLW.out ?_; (· rfl); go_simp; (· kernel_rfl)) | ((with_reducible refine wpList_here ?_); refine wpList_want (v := .bool false) (w' := w8) ?_ (exec_neR 38 39 y rfl rfl rfl) ?_; go_simp))
        go_at_call 51
        refine (HWK.out _).mono ?_
        rintro e w9 ⟨rfl, g9⟩
        have HG9 := Lib.hid (grown_trans HG8.out g9)
        clear g9 HWK HG8 HLS HLW
        go_wp2_with fail
        go_ret
        exact ⟨rfl, HG9.out⟩
      | true =>
        have H4 := recPut_any x HXO.out w2
        rw [← HM.out] at H4
        have H4 : Hid (Calls Try.prog 49 #[.agg (rowOf 22 x.v)] w2 (RcPutSays w2 false 43 x.bytes)) := Lib.hid H4
        have HL2 := Lib.hid (HX2.out.load (P := Try.prog) 0 128 22 x.v (by decide) (fun j _ => by rw [Nat.zero_add]) (by kernel_rfl) (by kernel_rfl))
        go_wp2_with (first | ((with_reducible refine wpList_here ?_); refine wpList_ld (p := .pointer (some ⟨B, 0, none⟩)) 2 ?_ ?_ ?_ HL2.out ?_; (· rfl); go_simp; (· kernel_rfl)))
        go_at_call 49
        refine H4.out.mono ?_
        rintro e w3 ⟨⟨ap, cp, rfl, hO⟩, g3⟩
        have hO : OwnN w3 w2.heap.size (.slice ap 0 cp) 0 x.bytes := hO
        rw [show (.slice ap (if false = true then 43 else 0) cp : Value) = .slice ap 0 cp from rfl, show (.int .i64 (if false = true then 0 else 2) : Value) = .int .i64 2 from rfl]
        have HO3 := Lib.hid hO
        have HX3 := Lib.hid (HX2.out.grown g3 (by simp))
        have HG3 := Lib.hid (grown_trans HG2.out g3)
        have H5 := recTake_f D n1 c1 a1 f1 w3 (HRB.out.grown HG3.out (by simp)) (by omega) HFB.out
        rw [← HOK.out, show rcRes true (recF f1) = .tuple #[.agg (rowOf 22 y.v), .int .i64 0] from by unfold rcRes; rw [HY.out] <;> rfl] at H5
        have H5 := Lib.hid H5
        clear hO g3 H4 HL2 HX2 HG2
        go_wp2_with fail
        go_at_call 50
        refine H5.out.mono ?_
        rintro e w4 ⟨rfl, g4⟩
        have hN := RowAt.new w4 128 22 QV.zero.v _ QV.zero_row
        obtain ⟨k1, k2⟩ := RowAt.store (P := Try.prog) hN 0 128 22 y.v (by decide) (by kernel_rfl) (fun j _ => QV.one _ j)
        obtain ⟨w5, hw2⟩ : ∃ W, W = (w4.alloc (.cells #[.int .u8 0, .int .u8 0, .int .u8 0, .int .u8 0, .int .u8 0, .int .u8 0, .int .u8 0, .int .u8 0, .int .u8 0, .int .u8 0, .int .u8 0, .int .u8 0, .int .u8 0, .int .u8 0, .int .u8 0, .int .u8 0, .int .u8 0, .bool false, .int .u8 0, .int .u64 0, .int .u64 0, .int .u64 0] 128)).setCells w4.heap.size 0 (rowOf 22 y.v).toList := ⟨_, rfl⟩
        have g2 : w4.grownBy w5 none := by rw [hw2]; exact grown_setCells w4.heap.size (Or.inl (Nat.le_refl _)) _ 0 _ (World.grownBy_alloc w4 _ none)
        rw [← hw2] at k1 k2
        have hX2 := k2.congr (v' := y.v) fun i hi => by rw [if_pos ⟨Nat.zero_le _, by omega⟩, Nat.sub_zero]
        have HS := Lib.hid k1
        have g := grown_trans g4 g2
        have HX5 := Lib.hid (HX3.out.grown g (by simp))
        have HO5 := Lib.hid (HO3.out.grown g)
        have HG5 := Lib.hid (grown_trans HG3.out g)
        have HS5 := Lib.hid hX2
        obtain ⟨sb, hsb⟩ : ∃ b, b = w4.heap.size := ⟨_, rfl⟩
        rw [← hsb] at HS HS5
        have HSB := Lib.hid hsb
        have H6 := refRecTake_any D n1 c1 a1 f1 w5 (HRB.out.grown HG5.out (by simp)) HCB.out HFB.out
        rw [← HOK.out, show refRes true (recF f1) = .tuple #[.agg (rowOf 22 y.v), .bool true] from by unfold refRes; rw [HY.out] <;> rfl] at H6
        have H6 := Lib.hid H6
        clear hN k1 k2 hw2 g2 hX2 g g4 HX3 HO3 HG3 H5 hsb
        go_upto_region 6 with (first | ((with_reducible refine wpList_here ?_); refine wpList_st (T := 128) (p := .pointer (some ⟨w4.heap.size, 0, none⟩)) (v := .agg (rowOf 22 y.v)) (.tmp 8) (.tmp 26) ?_ ?_ ?_ ?_ ?_ (by rw [← HSB.out]; exact HS.out) ?_; (· rfl); (· rfl); go_simp; (· kernel_rfl); (· kernel_rfl)))
        rw [← HSB.out]
        clear HS HSB
        go_wp2_with fail
        go_at_call 53
        refine H6.out.mono ?_
        rintro e w6 ⟨rfl, g6⟩
        have hN := RowAt.new w6 128 22 QV.zero.v _ QV.zero_row
        obtain ⟨k1, k2⟩ := RowAt.store (P := Try.prog) hN 0 128 22 y.v (by decide) (by kernel_rfl) (fun j _ => QV.one _ j)
        obtain ⟨w7, hw2⟩ : ∃ W, W = (w6.alloc (.cells #[.int .u8 0, .int .u8 0, .int .u8 0, .int .u8 0, .int .u8 0, .int .u8 0, .int .u8 0, .int .u8 0, .int .u8 0, .int .u8 0, .int .u8 0, .int .u8 0, .int .u8 0, .int .u8 0, .int .u8 0, .int .u8 0, .int .u8 0, .bool false, .int .u8 0, .int .u64 0, .int .u64 0, .int .u64 0] 128)).setCells w6.heap.size 0 (rowOf 22 y.v).toList := ⟨_, rfl⟩
        have g2 : w6.grownBy w7 none := by rw [hw2]; exact grown_setCells w6.heap.size (Or.inl (Nat.le_refl _)) _ 0 _ (World.grownBy_alloc w6 _ none)
        rw [← hw2] at k1 k2
        have hX2 := k2.congr (v' := y.v) fun i hi => by rw [if_pos ⟨Nat.zero_le _, by omega⟩, Nat.sub_zero]
        have HS := Lib.hid k1
        have g := grown_trans g6 g2
        have HX7 := Lib.hid (HX5.out.grown g (by simp))
        have HO7 := Lib.hid (HO5.out.grown g)
        have HG7 := Lib.hid (grown_trans HG5.out g)
        have HS7 := Lib.hid (HS5.out.grown g (by simp))
        have HW7 := Lib.hid hX2
        obtain ⟨wb, hwb⟩ : ∃ b, b = w6.heap.size := ⟨_, rfl⟩
        rw [← hwb] at HS HW7
        have HWB := Lib.hid hwb
        clear hN k1 k2 hw2 g2 hX2 g g6 HX5 HO5 HG5 HS5 H6 hwb
        go_upto_region 7 with (first | ((with_reducible refine wpList_here ?_); refine wpList_st (T := 128) (p := .pointer (some ⟨w6.heap.size, 0, none⟩)) (v := .agg (rowOf 22 y.v)) (.tmp 10) (.tmp 31) ?_ ?_ ?_ ?_ ?_ (by rw [← HWB.out]; exact HS.out) ?_; (· rfl); (· rfl); go_simp; (· kernel_rfl); (· kernel_rfl)))
        rw [← HWB.out]
        clear HS HWB
        have HL7 := Lib.hid (HX7.out.load (P := Try.prog) 0 128 22 x.v (by decide) (fun j _ => by rw [Nat.zero_add]) (by kernel_rfl) (by kernel_rfl))
        have H8 := recMay_any x w7
        rw [← HM.out] at H8
        have H8 := Lib.hid H8
        go_wp2_with (first | ((with_reducible refine wpList_here ?_); refine wpList_ld (p := .pointer (some ⟨B, 0, none⟩)) 2 ?_ ?_ ?_ HL7.out ?_; (· rfl); go_simp; (· kernel_rfl)))
        go_at_call 54
        refine H8.out.mono ?_
        rintro e w8 ⟨rfl, g8⟩
        have HX8 := Lib.hid (HX7.out.grown g8 (by simp))
        have HO8 := Lib.hid (HO7.out.grown g8)
        have HG8 := Lib.hid (grown_trans HG7.out g8)
        have HLS := Lib.hid ((HS7.out.grown g8 (by simp)).load (P := Try.prog) 0 128 22 y.v (by decide) (fun j _ => by rw [Nat.zero_add]) (by kernel_rfl) (by kernel_rfl))
        have HLW := Lib.hid ((HW7.out.grown g8 (by simp)).load (P := Try.prog) 0 128 22 y.v (by decide) (fun j _ => by rw [Nat.zero_add]) (by kernel_rfl) (by kernel_rfl))
        clear g8 HX7 HO7 HG7 HS7 HW7 HL7 H8
        have HWK := Lib.hid (fun W => works11_any W)
        go_wp2_with (first | ((with_reducible refine wpList_here ?_); refine wpList_ld (p := .pointer (some ⟨sb, 0, none⟩)) 8 ?_ ?_ ?_ HLS.out ?_; (· rfl); go_simp; (· kernel_rfl)) | ((with_reducible refine wpList_here ?_); refine wpList_ld (p := .pointer (some ⟨wb, 0, none⟩)) 10 ?_ ?_ ?_ HLW.out ?_; (· rfl); go_simp; (· kernel_rfl)) | ((with_reducible refine wpList_here ?_); refine wpList_want (v := .bool false) (w' := w8) ?_ (exec_neR 38 39 y rfl rfl rfl) ?_; go_simp))
        go_at_call 51
        refine (HWK.out _).mono ?_
        rintro e w9 ⟨rfl, g9⟩
        have HG9 := Lib.hid (grown_trans HG8.out g9)
        clear g9 HWK HG8 HLS HLW
        go_wp2_with fail
        go_ret
        exact ⟨rfl, HG9.out⟩
    | true =>
      cases ok with
      | false =>
        have H4 := recPut_any x HXO.out w2
        rw [← HM.out] at H4
        have H4 : Hid (Calls Try.prog 49 #[.agg (rowOf 22 x.v)] w2 (RcPutSays w2 true 43 x.bytes)) := Lib.hid H4
        have HL2 := Lib.hid (HX2.out.load (P := Try.prog) 0 128 22 x.v (by decide) (fun j _ => by rw [Nat.zero_add]) (by kernel_rfl) (by kernel_rfl))
        go_wp2_with (first | ((with_reducible refine wpList_here ?_); refine wpList_ld (p := .pointer (some ⟨B, 0, none⟩)) 2 ?_ ?_ ?_ HL2.out ?_; (· rfl); go_simp; (· kernel_rfl)))
        go_at_call 49
        refine H4.out.mono ?_
        rintro e w3 ⟨⟨ap, cp, rfl, hO⟩, g3⟩
        have hO : OwnN w3 w2.heap.size (.slice ap 43 cp) 43 x.bytes := hO
        rw [show (.slice ap (if true = true then 43 else 0) cp : Value) = .slice ap 43 cp from rfl, show (.int .i64 (if true = true then 0 else 2) : Value) = .int .i64 0 from rfl]
        have HO3 := Lib.hid hO
        have HX3 := Lib.hid (HX2.out.grown g3 (by simp))
        have HG3 := Lib.hid (grown_trans HG2.out g3)
        have H5 := recTake_f D n1 c1 a1 f1 w3 (HRB.out.grown HG3.out (by simp)) (by omega) HFB.out
        rw [← HOK.out, show rcRes false (recF f1) = .tuple #[.agg (rowOf 22 y.v), .int .i64 9] from by unfold rcRes; rw [HY.out] <;> rfl] at H5
        have H5 := Lib.hid H5
        clear hO g3 H4 HL2 HX2 HG2
        go_wp2_with fail
        go_at_call 50
        refine H5.out.mono ?_
        rintro e w4 ⟨rfl, g4⟩
        have hN := RowAt.new w4 128 22 QV.zero.v _ QV.zero_row
        obtain ⟨k1, k2⟩ := RowAt.store (P := Try.prog) hN 0 128 22 y.v (by decide) (by kernel_rfl) (fun j _ => QV.one _ j)
        obtain ⟨w5, hw2⟩ : ∃ W, W = (w4.alloc (.cells #[.int .u8 0, .int .u8 0, .int .u8 0, .int .u8 0, .int .u8 0, .int .u8 0, .int .u8 0, .int .u8 0, .int .u8 0, .int .u8 0, .int .u8 0, .int .u8 0, .int .u8 0, .int .u8 0, .int .u8 0, .int .u8 0, .int .u8 0, .bool false, .int .u8 0, .int .u64 0, .int .u64 0, .int .u64 0] 128)).setCells w4.heap.size 0 (rowOf 22 y.v).toList := ⟨_, rfl⟩
        have g2 : w4.grownBy w5 none := by rw [hw2]; exact grown_setCells w4.heap.size (Or.inl (Nat.le_refl _)) _ 0 _ (World.grownBy_alloc w4 _ none)
        rw [← hw2] at k1 k2
        have hX2 := k2.congr (v' := y.v) fun i hi => by rw [if_pos ⟨Nat.zero_le _, by omega⟩, Nat.sub_zero]
        have HS := Lib.hid k1
        have g := grown_trans g4 g2
        have HX5 := Lib.hid (HX3.out.grown g (by simp))
        have HO5 := Lib.hid (HO3.out.grown g)
        have HG5 := Lib.hid (grown_trans HG3.out g)
        have HS5 := Lib.hid hX2
        obtain ⟨sb, hsb⟩ : ∃ b, b = w4.heap.size := ⟨_, rfl⟩
        rw [← hsb] at HS HS5
        have HSB := Lib.hid hsb
        have H6 := refRecTake_any D n1 c1 a1 f1 w5 (HRB.out.grown HG5.out (by simp)) HCB.out HFB.out
        rw [← HOK.out, show refRes false (recF f1) = .tuple #[.agg (rowOf 22 y.v), .bool false] from by unfold refRes; rw [HY.out] <;> rfl] at H6
        have H6 := Lib.hid H6
        clear hN k1 k2 hw2 g2 hX2 g g4 HX3 HO3 HG3 H5 hsb
        go_upto_region 6 with (first | ((with_reducible refine wpList_here ?_); refine wpList_st (T := 128) (p := .pointer (some ⟨w4.heap.size, 0, none⟩)) (v := .agg (rowOf 22 y.v)) (.tmp 8) (.tmp 26) ?_ ?_ ?_ ?_ ?_ (by rw [← HSB.out]; exact HS.out) ?_; (· rfl); (· rfl); go_simp; (· kernel_rfl); (· kernel_rfl)))
        rw [← HSB.out]
        clear HS HSB
        go_wp2_with fail
        go_at_call 53
        refine H6.out.mono ?_
        rintro e w6 ⟨rfl, g6⟩
        have hN := RowAt.new w6 128 22 QV.zero.v _ QV.zero_row
        obtain ⟨k1, k2⟩ := RowAt.store (P := Try.prog) hN 0 128 22 y.v (by decide) (by kernel_rfl) (fun j _ => QV.one _ j)
        obtain ⟨w7, hw2⟩ : ∃ W, W = (w6.alloc (.cells #[.int .u8 0, .int .u8 0, .int .u8 0, .int .u8 0, .int .u8 0, .int .u8 0, .int .u8 0, .int .u8 0, .int .u8 0, .int .u8 0, .int .u8 0, .int .u8 0, .int .u8 0, .int .u8 0, .int .u8 0, .int .u8 0, .int .u8 0, .bool false, .int .u8 0, .int .u64 0, .int .u64 0, .int .u64 0] 128)).setCells w6.heap.size 0 (rowOf 22 y.v).toList := ⟨_, rfl⟩
        have g2 : w6.grownBy w7 none := by rw [hw2]; exact grown_setCells w6.heap.size (Or.inl (Nat.le_refl _)) _ 0 _ (World.grownBy_alloc w6 _ none)
        rw [← hw2] at k1 k2
        have hX2 := k2.congr (v' := y.v) fun i hi => by rw [if_pos ⟨Nat.zero_le _, by omega⟩, Nat.sub_zero]
        have HS := Lib.hid k1
        have g := grown_trans g6 g2
        have HX7 := Lib.hid (HX5.out.grown g (by simp))
        have HO7 := Lib.hid (HO5.out.grown g)
        have HG7 := Lib.hid (grown_trans HG5.out g)
        have HS7 := Lib.hid (HS5.out.grown g (by simp))
        have HW7 := Lib.hid hX2
        obtain ⟨wb, hwb⟩ : ∃ b, b = w6.heap.size := ⟨_, rfl⟩
        rw [← hwb] at HS HW7
        have HWB := Lib.hid hwb
        clear hN k1 k2 hw2 g2 hX2 g g6 HX5 HO5 HG5 HS5 H6 hwb
        go_upto_region 7 with (first | ((with_reducible refine wpList_here ?_); refine wpList_st (T := 128) (p := .pointer (some ⟨w6.heap.size, 0, none⟩)) (v := .agg (rowOf 22 y.v)) (.tmp 10) (.tmp 31) ?_ ?_ ?_ ?_ ?_ (by rw [← HWB.out]; exact HS.out) ?_; (· rfl); (· rfl); go_simp; (· kernel_rfl); (· kernel_rfl)))
        rw [← HWB.out]
        clear HS HWB
        have HL7 := Lib.hid (HX7.out.load (P := Try.prog) 0 128 22 x.v (by decide) (fun j _ => by rw [Nat.zero_add]) (by kernel_rfl) (by kernel_rfl))
        have H8 := recMay_any x w7
        rw [← HM.out] at H8
        have H8 := Lib.hid H8
        go_wp2_with (first | ((with_reducible refine wpList_here ?_); refine wpList_ld (p := .pointer (some ⟨B, 0, none⟩)) 2 ?_ ?_ ?_ HL7.out ?_; (· rfl); go_simp; (· kernel_rfl)))
        go_at_call 54
        refine H8.out.mono ?_
        rintro e w8 ⟨rfl, g8⟩
        have HX8 := Lib.hid (HX7.out.grown g8 (by simp))
        have HO8 := Lib.hid (HO7.out.grown g8)
        have HG8 := Lib.hid (grown_trans HG7.out g8)
        have HLS := Lib.hid ((HS7.out.grown g8 (by simp)).load (P := Try.prog) 0 128 22 y.v (by decide) (fun j _ => by rw [Nat.zero_add]) (by kernel_rfl) (by kernel_rfl))
        have HLW := Lib.hid ((HW7.out.grown g8 (by simp)).load (P := Try.prog) 0 128 22 y.v (by decide) (fun j _ => by rw [Nat.zero_add]) (by kernel_rfl) (by kernel_rfl))
        clear g8 HX7 HO7 HG7 HS7 HW7 HL7 H8
        have HWK := Lib.hid (fun W => works11_any W)
        have HRd : Hid (Rd w8 w8.heap.size ap 43 x.bytes) := Lib.hid (by obtain ⟨a', c', e, _, hR⟩ := HO8.out.rd; cases e; exact hR)
        go_upto_region 11 with (first | ((with_reducible refine wpList_here ?_); refine wpList_ld (p := .pointer (some ⟨sb, 0, none⟩)) 8 ?_ ?_ ?_ HLS.out ?_; (· rfl); go_simp; (· kernel_rfl)) | ((with_reducible refine wpList_here ?_); refine wpList_ld (p := .pointer (some ⟨wb, 0, none⟩)) 10 ?_ ?_ ?_ HLW.out ?_; (· rfl); go_simp; (· kernel_rfl)) | ((with_reducible refine wpList_here ?_); refine wpList_want (v := .bool false) (w' := w8) ?_ (exec_neR 38 39 y rfl rfl rfl) ?_; go_simp))
        clear HLS HLW HWK HO8
        refine wp_region_held (S := fun W => w8.grownBy W none) (by kernel_rfl) ?_
        change wpAnyH _ _ _ _ _ 14 #[false, false, false, false, false, false, false, false, false, false, false, false, false, false] _ (World.drew _)
        have gq := grown_drew (grown_refl w8 none)
        generalize World.drew w8 = q1 at *
        refine wpAnyH_takeD (some 68) (i := 0) (v := (.slice ap 43 cp)) rfl rfl (by kernel_rfl) (by kernel_rfl) (by kernel_rfl) (fun _ _ _ h => h) (Or.inl ⟨rfl, fun _ _ => rfl⟩) gq ?_
        simp only [Act.put, List.setIfInBounds_toArray, List.set_cons_succ, List.set_cons_zero]
        refine wpAnyH_takeD (some 69) (i := 1) (v := (.string (strOf 43 x.bytes))) rfl rfl (by kernel_rfl) (by kernel_rfl) (by kernel_rfl) (fun _ _ _ h => h) (Or.inl ⟨rfl, fun W hW => exec_convR (.tmp 68) rfl rfl (run_string cp (HRd.out.grown hW (by simp)) (x.b_lt HXO.out))⟩) gq ?_
        simp only [Act.put, List.setIfInBounds_toArray, List.set_cons_succ, List.set_cons_zero]
        refine wpAnyH_takeD (some 70) (i := 2) (v := (.agg (rowOf 22 x.v))) rfl rfl (by kernel_rfl) (by kernel_rfl) (by kernel_rfl) (fun _ _ _ h => h) (Or.inl ⟨rfl, fun W hW => exec_loadQ (.tmp 2) _ _ rfl rfl ((HX8.out.grown hW (by simp)).load (P := Try.prog) 0 128 22 x.v (by decide) (fun j _ => by rw [Nat.zero_add]) (by kernel_rfl) (by kernel_rfl))⟩) gq ?_
        simp only [Act.put, List.setIfInBounds_toArray, List.set_cons_succ, List.set_cons_zero]
        refine wpAnyH_callD (some 71) (i := 3) 55 #[.agg (rowOf 22 x.v)] (R := fun v W => ∃ a c, v = .slice a 43 c ∧ Rd W W.heap.size a 43 x.bytes ∧ q1.grownBy W none) (by kernel_rfl) rfl rfl rfl (exec_fn1 _ _ _ rfl rfl) refBytes_enters ((refRecBytes_any x HXO.out q1).mono fun e W h => by
          obtain ⟨v, rfl, hO, hg⟩ := h
          obtain ⟨a, c, rfl, _, hR⟩ := hO.rd
          exact ⟨_, rfl, a, c, rfl, hR, hg⟩) ?_
        rintro v w9 ⟨ab, cb, rfl, hRb, g9⟩
        have gW := grown_trans gq g9
        refine ⟨gW, ?_⟩
        simp only [Act.put, List.setIfInBounds_toArray, List.set_cons_succ, List.set_cons_zero]
        have hcv := run_string cb hRb (x.b_lt HXO.out)
        refine wpAnyH_yieldD (some 72) (i := 4) (v := (.string (strOf 43 x.bytes))) (by kernel_rfl) rfl rfl rfl (exec_convR (.tmp 71) rfl rfl hcv) gW ?_
        simp only [Act.put, List.setIfInBounds_toArray, List.set_cons_succ, List.set_cons_zero]
        clear hcv hRb
        obtain ⟨sx, hsx⟩ : ∃ s, s = strOf 43 x.bytes := ⟨_, rfl⟩
        rw [← hsx]
        clear hsx
        refine wpAnyH_takeD (some 73) (i := 5) (v := (.bool true)) rfl rfl (by kernel_rfl) (by kernel_rfl) (by kernel_rfl) (fun _ _ _ h => h) (Or.inl ⟨rfl, fun _ _ => by go_simp⟩) gW ?_
        simp only [Act.put, List.setIfInBounds_toArray, List.set_cons_succ, List.set_cons_zero]
        refine wpAnyH_takeD (some 74) (i := 6) (v := (.bool true)) rfl rfl (by kernel_rfl) (by kernel_rfl) (by kernel_rfl) (fun _ _ _ h => h) (Or.inl ⟨rfl, fun _ _ => rfl⟩) gW ?_
        simp only [Act.put, List.setIfInBounds_toArray, List.set_cons_succ, List.set_cons_zero]
        refine wpAnyH_takeD (some 75) (i := 7) (v := (.int .i64 0)) rfl rfl (by kernel_rfl) (by kernel_rfl) (by kernel_rfl) (fun _ _ _ h => h) (Or.inl ⟨rfl, fun _ _ => rfl⟩) gW ?_
        simp only [Act.put, List.setIfInBounds_toArray, List.set_cons_succ, List.set_cons_zero]
        refine wpAnyH_takeD (some 76) (i := 8) (v := (.bool true)) rfl rfl (by kernel_rfl) (by kernel_rfl) (by kernel_rfl) (fun _ _ _ h => h) (Or.inl ⟨rfl, fun _ _ => by go_simp⟩) gW ?_
        simp only [Act.put, List.setIfInBounds_toArray, List.set_cons_succ, List.set_cons_zero]
        refine wpAnyH_takeD (some 77) (i := 9) (v := (.bool true)) rfl rfl (by kernel_rfl) (by kernel_rfl) (by kernel_rfl) (fun _ _ _ h => h) (Or.inl ⟨rfl, fun _ _ => by go_simp⟩) gW ?_
        simp only [Act.put, List.setIfInBounds_toArray, List.set_cons_succ, List.set_cons_zero]
        refine wpAnyH_takeD (some 78) (i := 10) (v := (.bool true)) rfl rfl (by kernel_rfl) (by kernel_rfl) (by kernel_rfl) (fun _ _ _ h => h) (Or.inl ⟨rfl, fun _ _ => rfl⟩) gW ?_
        simp only [Act.put, List.setIfInBounds_toArray, List.set_cons_succ, List.set_cons_zero]
        refine wpAnyH_callD (some 79) (i := 11) 51 #[] (R := fun v W => v = .bool true ∧ w9.grownBy W none) (by kernel_rfl) rfl rfl rfl (exec_fn0 _ rfl) works11_enters ((works11_any w9).mono fun e W h => ⟨_, h.1, rfl, h.2⟩) ?_
        rintro v wA ⟨rfl, gA⟩
        have gA := grown_trans gW gA
        refine ⟨gA, ?_⟩
        simp only [Act.put, List.setIfInBounds_toArray, List.set_cons_succ, List.set_cons_zero]
        refine wpAnyH_takeD (some 80) (i := 12) (v := (.bool true)) rfl rfl (by kernel_rfl) (by kernel_rfl) (by kernel_rfl) (fun _ _ _ h => h) (Or.inl ⟨rfl, fun _ _ => by go_simp⟩) gA ?_
        simp only [Act.put, List.setIfInBounds_toArray, List.set_cons_succ, List.set_cons_zero]
        refine wpAnyH_takeD (some 4) (i := 13) (v := (.bool true)) rfl rfl (by kernel_rfl) (by kernel_rfl) (by kernel_rfl) (fun _ _ _ h => h) (Or.inl ⟨rfl, fun _ _ => rfl⟩) gA ?_
        simp only [Act.put, List.setIfInBounds_toArray, List.set_cons_succ, List.set_cons_zero]
        refine wpAnyH_done (by kernel_rfl) ?_ _
        have HGA := Lib.hid (grown_trans HG8.out gA)
        clear gA gW g9 gq HG8
        go_wp2_with fail
        go_ret
        exact ⟨rfl, HGA.out⟩
      | true =>
        have H4 := recPut_any x HXO.out w2
        rw [← HM.out] at H4
        have H4 : Hid (Calls Try.prog 49 #[.agg (rowOf 22 x.v)] w2 (RcPutSays w2 true 43 x.bytes)) := Lib.hid H4
        have HL2 := Lib.hid (HX2.out.load (P := Try.prog) 0 128 22 x.v (by decide) (fun j _ => by rw [Nat.zero_add]) (by kernel_rfl) (by kernel_rfl))
        go_wp2_with (first | ((with_reducible refine wpList_here ?_); refine wpList_ld (p := .pointer (some ⟨B, 0, none⟩)) 2 ?_ ?_ ?_ HL2.out ?_; (· rfl); go_simp; (· kernel_rfl)))
        go_at_call 49
        refine H4.out.mono ?_
        rintro e w3 ⟨⟨ap, cp, rfl, hO⟩, g3⟩
        have hO : OwnN w3 w2.heap.size (.slice ap 43 cp) 43 x.bytes := hO
        rw [show (.slice ap (if true = true then 43 else 0) cp : Value) = .slice ap 43 cp from rfl, show (.int .i64 (if true = true then 0 else 2) : Value) = .int .i64 0 from rfl]
        have HO3 := Lib.hid hO
        have HX3 := Lib.hid (HX2.out.grown g3 (by simp))
        have HG3 := Lib.hid (grown_trans HG2.out g3)
        have H5 := recTake_f D n1 c1 a1 f1 w3 (HRB.out.grown HG3.out (by simp)) (by omega) HFB.out
        rw [← HOK.out, show rcRes true (recF f1) = .tuple #[.agg (rowOf 22 y.v), .int .i64 0] from by unfold rcRes; rw [HY.out] <;> rfl] at H5
        have H5 := Lib.hid H5
        clear hO g3 H4 HL2 HX2 HG2
        go_wp2_with fail
        go_at_call 50
        refine H5.out.mono ?_
        rintro e w4 ⟨rfl, g4⟩
        have hN := RowAt.new w4 128 22 QV.zero.v _ QV.zero_row
        obtain ⟨k1, k2⟩ := RowAt.store (P := Try.prog) hN 0 128 22 y.v (by decide) (by kernel_rfl) (fun j _ => QV.one _ j)
        obtain ⟨w5, hw2⟩ : ∃ W, W = (w4.alloc (.cells #[.int .u8 0, .int .u8 0, .int .u8 0, .int .u8 0, .int .u8 0, .int .u8 0, .int .u8 0, .int .u8 0, .int .u8 0, .int .u8 0, .int .u8 0, .int .u8 0, .int .u8 0, .int .u8 0, .int .u8 0, .int .u8 0, .int .u8 0, .bool false, .int .u8 0, .int .u64 0, .int .u64 0, .int .u64 0] 128)).setCells w4.heap.size 0 (rowOf 22 y.v).toList := ⟨_, rfl⟩
        have g2 : w4.grownBy w5 none := by rw [hw2]; exact grown_setCells w4.heap.size (Or.inl (Nat.le_refl _)) _ 0 _ (World.grownBy_alloc w4 _ none)
        rw [← hw2] at k1 k2
        have hX2 := k2.congr (v' := y.v) fun i hi => by rw [if_pos ⟨Nat.zero_le _, by omega⟩, Nat.sub_zero]
        have HS := Lib.hid k1
        have g := grown_trans g4 g2
        have HX5 := Lib.hid (HX3.out.grown g (by simp))
        have HO5 := Lib.hid (HO3.out.grown g)
        have HG5 := Lib.hid (grown_trans HG3.out g)
        have HS5 := Lib.hid hX2
        obtain ⟨sb, hsb⟩ : ∃ b, b = w4.heap.size := ⟨_, rfl⟩
        rw [← hsb] at HS HS5
        have HSB := Lib.hid hsb
        have H6 := refRecTake_any D n1 c1 a1 f1 w5 (HRB.out.grown HG5.out (by simp)) HCB.out HFB.out
        rw [← HOK.out, show refRes true (recF f1) = .tuple #[.agg (rowOf 22 y.v), .bool true] from by unfold refRes; rw [HY.out] <;> rfl] at H6
        have H6 := Lib.hid H6
        clear hN k1 k2 hw2 g2 hX2 g g4 HX3 HO3 HG3 H5 hsb
        go_upto_region 6 with (first | ((with_reducible refine wpList_here ?_); refine wpList_st (T := 128) (p := .pointer (some ⟨w4.heap.size, 0, none⟩)) (v := .agg (rowOf 22 y.v)) (.tmp 8) (.tmp 26) ?_ ?_ ?_ ?_ ?_ (by rw [← HSB.out]; exact HS.out) ?_; (· rfl); (· rfl); go_simp; (· kernel_rfl); (· kernel_rfl)))
        rw [← HSB.out]
        clear HS HSB
        go_wp2_with fail
        go_at_call 53
        refine H6.out.mono ?_
        rintro e w6 ⟨rfl, g6⟩
        have hN := RowAt.new w6 128 22 QV.zero.v _ QV.zero_row
        obtain ⟨k1, k2⟩ := RowAt.store (P := Try.prog) hN 0 128 22 y.v (by decide) (by kernel_rfl) (fun j _ => QV.one _ j)
        obtain ⟨w7, hw2⟩ : ∃ W, W = (w6.alloc (.cells #[.int .u8 0, .int .u8 0, .int .u8 0, .int .u8 0, .int .u8 0, .int .u8 0, .int .u8 0, .int .u8 0, .int .u8 0, .int .u8 0, .int .u8 0, .int .u8 0, .int .u8 0, .int .u8 0, .int .u8 0, .int .u8 0, .int .u8 0, .bool false, .int .u8 0, .int .u64 0, .int .u64 0, .int .u64 0] 128)).setCells w6.heap.size 0 (rowOf 22 y.v).toList := ⟨_, rfl⟩
        have g2 : w6.grownBy w7 none := by rw [hw2]; exact grown_setCells w6.heap.size (Or.inl (Nat.le_refl _)) _ 0 _ (World.grownBy_alloc w6 _ none)
        rw [← hw2] at k1 k2
        have hX2 := k2.congr (v' := y.v) fun i hi => by rw [if_pos ⟨Nat.zero_le _, by omega⟩, Nat.sub_zero]
        have HS := Lib.hid k1
        have g := grown_trans g6 g2
        have HX7 := Lib.hid (HX5.out.grown g (by simp))
        have HO7 := Lib.hid (HO5.out.grown g)
        have HG7 := Lib.hid (grown_trans HG5.out g)
        have HS7 := Lib.hid (HS5.out.grown g (by simp))
        have HW7 := Lib.hid hX2
        obtain ⟨wb, hwb⟩ : ∃ b, b = w6.heap.size := ⟨_, rfl⟩
        rw [← hwb] at HS HW7
        have HWB := Lib.hid hwb
        clear hN k1 k2 hw2 g2 hX2 g g6 HX5 HO5 HG5 HS5 H6 hwb
        go_upto_region 7 with (first | ((with_reducible refine wpList_here ?_); refine wpList_st (T := 128) (p := .pointer (some ⟨w6.heap.size, 0, none⟩)) (v := .agg (rowOf 22 y.v)) (.tmp 10) (.tmp 31) ?_ ?_ ?_ ?_ ?_ (by rw [← HWB.out]; exact HS.out) ?_; (· rfl); (· rfl); go_simp; (· kernel_rfl); (· kernel_rfl)))
        rw [← HWB.out]
        clear HS HWB
        have HL7 := Lib.hid (HX7.out.load (P := Try.prog) 0 128 22 x.v (by decide) (fun j _ => by rw [Nat.zero_add]) (by kernel_rfl) (by kernel_rfl))
        have H8 := recMay_any x w7
        rw [← HM.out] at H8
        have H8 := Lib.hid H8
        go_wp2_with (first | ((with_reducible refine wpList_here ?_); refine wpList_ld (p := .pointer (some ⟨B, 0, none⟩)) 2 ?_ ?_ ?_ HL7.out ?_; (· rfl); go_simp; (· kernel_rfl)))
        go_at_call 54
        refine H8.out.mono ?_
        rintro e w8 ⟨rfl, g8⟩
        have HX8 := Lib.hid (HX7.out.grown g8 (by simp))
        have HO8 := Lib.hid (HO7.out.grown g8)
        have HG8 := Lib.hid (grown_trans HG7.out g8)
        have HLS := Lib.hid ((HS7.out.grown g8 (by simp)).load (P := Try.prog) 0 128 22 y.v (by decide) (fun j _ => by rw [Nat.zero_add]) (by kernel_rfl) (by kernel_rfl))
        have HLW := Lib.hid ((HW7.out.grown g8 (by simp)).load (P := Try.prog) 0 128 22 y.v (by decide) (fun j _ => by rw [Nat.zero_add]) (by kernel_rfl) (by kernel_rfl))
        clear g8 HX7 HO7 HG7 HS7 HW7 HL7 H8
        have HWK := Lib.hid (fun W => works11_any W)
        have HRd : Hid (Rd w8 w8.heap.size ap 43 x.bytes) := Lib.hid (by obtain ⟨a', c', e, _, hR⟩ := HO8.out.rd; cases e; exact hR)
        go_upto_region 11 with (first | ((with_reducible refine wpList_here ?_); refine wpList_ld (p := .pointer (some ⟨sb, 0, none⟩)) 8 ?_ ?_ ?_ HLS.out ?_; (· rfl); go_simp; (· kernel_rfl)) | ((with_reducible refine wpList_here ?_); refine wpList_ld (p := .pointer (some ⟨wb, 0, none⟩)) 10 ?_ ?_ ?_ HLW.out ?_; (· rfl); go_simp; (· kernel_rfl)) | ((with_reducible refine wpList_here ?_); refine wpList_want (v := .bool false) (w' := w8) ?_ (exec_neR 38 39 y rfl rfl rfl) ?_; go_simp))
        clear HLS HLW HWK HO8
        refine wp_region_held (S := fun W => w8.grownBy W none) (by kernel_rfl) ?_
        change wpAnyH _ _ _ _ _ 14 #[false, false, false, false, false, false, false, false, false, false, false, false, false, false] _ (World.drew _)
        have gq := grown_drew (grown_refl w8 none)
        generalize World.drew w8 = q1 at *
        refine wpAnyH_takeD (some 68) (i := 0) (v := (.slice ap 43 cp)) rfl rfl (by kernel_rfl) (by kernel_rfl) (by kernel_rfl) (fun _ _ _ h => h) (Or.inl ⟨rfl, fun _ _ => rfl⟩) gq ?_
        simp only [Act.put, List.setIfInBounds_toArray, List.set_cons_succ, List.set_cons_zero]
        refine wpAnyH_takeD (some 69) (i := 1) (v := (.string (strOf 43 x.bytes))) rfl rfl (by kernel_rfl) (by kernel_rfl) (by kernel_rfl) (fun _ _ _ h => h) (Or.inl ⟨rfl, fun W hW => exec_convR (.tmp 68) rfl rfl (run_string cp (HRd.out.grown hW (by simp)) (x.b_lt HXO.out))⟩) gq ?_
        simp only [Act.put, List.setIfInBounds_toArray, List.set_cons_succ, List.set_cons_zero]
        refine wpAnyH_takeD (some 70) (i := 2) (v := (.agg (rowOf 22 x.v))) rfl rfl (by kernel_rfl) (by kernel_rfl) (by kernel_rfl) (fun _ _ _ h => h) (Or.inl ⟨rfl, fun W hW => exec_loadQ (.tmp 2) _ _ rfl rfl ((HX8.out.grown hW (by simp)).load (P := Try.prog) 0 128 22 x.v (by decide) (fun j _ => by rw [Nat.zero_add]) (by kernel_rfl) (by kernel_rfl))⟩) gq ?_
        simp only [Act.put, List.setIfInBounds_toArray, List.set_cons_succ, List.set_cons_zero]
        refine wpAnyH_callD (some 71) (i := 3) 55 #[.agg (rowOf 22 x.v)] (R := fun v W => ∃ a c, v = .slice a 43 c ∧ Rd W W.heap.size a 43 x.bytes ∧ q1.grownBy W none) (by kernel_rfl) rfl rfl rfl (exec_fn1 _ _ _ rfl rfl) refBytes_enters ((refRecBytes_any x HXO.out q1).mono fun e W h => by
          obtain ⟨v, rfl, hO, hg⟩ := h
          obtain ⟨a, c, rfl, _, hR⟩ := hO.rd
          exact ⟨_, rfl, a, c, rfl, hR, hg⟩) ?_
        rintro v w9 ⟨ab, cb, rfl, hRb, g9⟩
        have gW := grown_trans gq g9
        refine ⟨gW, ?_⟩
        simp only [Act.put, List.setIfInBounds_toArray, List.set_cons_succ, List.set_cons_zero]
        have hcv := run_string cb hRb (x.b_lt HXO.out)
        refine wpAnyH_yieldD (some 72) (i := 4) (v := (.string (strOf 43 x.bytes))) (by kernel_rfl) rfl rfl rfl (exec_convR (.tmp 71) rfl rfl hcv) gW ?_
        simp only [Act.put, List.setIfInBounds_toArray, List.set_cons_succ, List.set_cons_zero]
        clear hcv hRb
        obtain ⟨sx, hsx⟩ : ∃ s, s = strOf 43 x.bytes := ⟨_, rfl⟩
        rw [← hsx]
        clear hsx
        refine wpAnyH_takeD (some 73) (i := 5) (v := (.bool true)) rfl rfl (by kernel_rfl) (by kernel_rfl) (by kernel_rfl) (fun _ _ _ h => h) (Or.inl ⟨rfl, fun _ _ => by go_simp⟩) gW ?_
        simp only [Act.put, List.setIfInBounds_toArray, List.set_cons_succ, List.set_cons_zero]
        refine wpAnyH_takeD (some 74) (i := 6) (v := (.bool true)) rfl rfl (by kernel_rfl) (by kernel_rfl) (by kernel_rfl) (fun _ _ _ h => h) (Or.inl ⟨rfl, fun _ _ => rfl⟩) gW ?_
        simp only [Act.put, List.setIfInBounds_toArray, List.set_cons_succ, List.set_cons_zero]
        refine wpAnyH_takeD (some 75) (i := 7) (v := (.int .i64 0)) rfl rfl (by kernel_rfl) (by kernel_rfl) (by kernel_rfl) (fun _ _ _ h => h) (Or.inl ⟨rfl, fun _ _ => rfl⟩) gW ?_
        simp only [Act.put, List.setIfInBounds_toArray, List.set_cons_succ, List.set_cons_zero]
        refine wpAnyH_takeD (some 76) (i := 8) (v := (.bool true)) rfl rfl (by kernel_rfl) (by kernel_rfl) (by kernel_rfl) (fun _ _ _ h => h) (Or.inl ⟨rfl, fun _ _ => by go_simp⟩) gW ?_
        simp only [Act.put, List.setIfInBounds_toArray, List.set_cons_succ, List.set_cons_zero]
        refine wpAnyH_takeD (some 77) (i := 9) (v := (.bool true)) rfl rfl (by kernel_rfl) (by kernel_rfl) (by kernel_rfl) (fun _ _ _ h => h) (Or.inl ⟨rfl, fun _ _ => by go_simp⟩) gW ?_
        simp only [Act.put, List.setIfInBounds_toArray, List.set_cons_succ, List.set_cons_zero]
        refine wpAnyH_takeD (some 78) (i := 10) (v := (.bool true)) rfl rfl (by kernel_rfl) (by kernel_rfl) (by kernel_rfl) (fun _ _ _ h => h) (Or.inl ⟨rfl, fun _ _ => rfl⟩) gW ?_
        simp only [Act.put, List.setIfInBounds_toArray, List.set_cons_succ, List.set_cons_zero]
        refine wpAnyH_callD (some 79) (i := 11) 51 #[] (R := fun v W => v = .bool true ∧ w9.grownBy W none) (by kernel_rfl) rfl rfl rfl (exec_fn0 _ rfl) works11_enters ((works11_any w9).mono fun e W h => ⟨_, h.1, rfl, h.2⟩) ?_
        rintro v wA ⟨rfl, gA⟩
        have gA := grown_trans gW gA
        refine ⟨gA, ?_⟩
        simp only [Act.put, List.setIfInBounds_toArray, List.set_cons_succ, List.set_cons_zero]
        refine wpAnyH_takeD (some 80) (i := 12) (v := (.bool true)) rfl rfl (by kernel_rfl) (by kernel_rfl) (by kernel_rfl) (fun _ _ _ h => h) (Or.inl ⟨rfl, fun _ _ => by go_simp⟩) gA ?_
        simp only [Act.put, List.setIfInBounds_toArray, List.set_cons_succ, List.set_cons_zero]
        refine wpAnyH_takeD (some 4) (i := 13) (v := (.bool true)) rfl rfl (by kernel_rfl) (by kernel_rfl) (by kernel_rfl) (fun _ _ _ h => h) (Or.inl ⟨rfl, fun _ _ => rfl⟩) gA ?_
        simp only [Act.put, List.setIfInBounds_toArray, List.set_cons_succ, List.set_cons_zero]
        refine wpAnyH_done (by kernel_rfl) ?_ _
        have HGA := Lib.hid (grown_trans HG8.out gA)
        clear gA gW g9 gq HG8
        go_wp2_with fail
        go_ret
        exact ⟨rfl, HGA.out⟩
end Go.Proofs.Ytdagbighlgfhjaa
namespace Go.Proofs.Ytdagbighlgfhjaa
open Go.ChangeShapes Go.WideShapes Go.ChangeAt Go.RowKit

theorem getElem?_of_take_drop {α : Type} (l : List α) (i : Nat) (x : α) (h : (l.drop i).take 1 = [x]) : l[i]? = some x := by
  have h1 : ((l.drop i).take 1)[0]? = some x := by rw [h]; rfl
  simpa using h1

/-- A table of numbers, read. -/
theorem ints_of_trod {H : Type} {enc : TypeId × Value → H} {P : Program} {w : World} {base : Nat} {spare : Nat → Bool} {held : Bool} {fuel : Nat} {t e : TypeId} {k : IntKind} {n : Nat} {cs : List Value} {d : DataW H} {ps : List MemPlace} (L : List Int)
    (ht : P.underlying t = some (.array n e)) (he : P.underlying e = some (.int k)) (hc : P.cellsOf e = 1) (hd : DataW.trod enc P w base spare held fuel t cs = some (d, ps)) (hx : d = .agg (L.map fun z => .lit (.int k z))) :
    ∀ i, i < n → cs[i]? = some (.int k (L.getD i 0)) := by
  subst hx
  obtain ⟨xs, m, rfl, hx, _, hn, hel⟩ := DataW.trod_array ht hd
  intro i hi
  have h1 := hel i hi
  rw [hc, Nat.mul_one] at h1
  have hxi : xs[i]? = some xs[i] := List.getElem?_eq_getElem (by omega)
  rw [hxi] at h1
  obtain ⟨q, e1, e2, _⟩ := DataW.trod_int he h1
  have h2 : L.map (fun z => (DataW.lit (.int k z) : DataW H)) = xs.map (·.1) := by
    have := congrArg Prod.fst hx
    simpa using this
  have h3 : (L.map (fun z => (DataW.lit (.int k z) : DataW H)))[i]? = some (.lit (.int k q)) := by
    rw [h2]; simp [hxi, e2]
  have h4 : L[i]? = some q := by
    rw [List.getElem?_map] at h3
    cases hL : L[i]? with
    | none => rw [hL] at h3; cases h3
    | some z => rw [hL] at h3; simpa using h3
  rw [List.getD, h4]
  exact getElem?_of_take_drop cs i _ e1

theorem own : ownKnob Try.prog.godebug = none := by kernel_rfl
theorem laidOut : laidOutB Try.prog = true := by kernel_rfl

end Go.Proofs.Ytdagbighlgfhjaa
namespace Go.Proofs.Ytdagbighlgfhjaa
open Go.ChangeShapes Go.WideShapes Go.ChangeAt Go.RowKit

section
variable {H : Type} {enc : TypeId × Value → H} {P : Program}

theorem open_arr8 {W : World} {t e : TypeId} {n : Nat} {r : Reach} {b0 : Nat} {v : Value} {d : DataW H} {ps : List MemPlace} (ht : P.underlying t = some (.array n e)) (he : P.underlying e = some (.int .u8)) (hc : P.cellsOf e = 1) (hn : P.cellsOf t = n)
    (hval : Value.okWide P W r b0 t v) (h : DataW.Trod enc P W 0 (fun _ => true) true t v d ps) : ∃ f, v = .agg (cellsOf .u8 n f) ∧ ∀ i, f i < 256 := by
  have hv := hval
  simp only [Value.okWide, ht] at hv
  obtain ⟨cs, rfl, hs, _⟩ := hv
  obtain ⟨fuel, hf⟩ := h
  obtain ⟨xs, m, rfl, _, hl, _, hel⟩ := DataW.trod_array ht hf
  have key : ∀ i, i < n → ∃ q : Nat, q < 256 ∧ cs[i]? = some (.int .u8 q) := fun i hi => by
    have h1 := hel i hi
    rw [hc, Nat.mul_one] at h1
    cases hx : xs[i]? with
    | none =>
      rw [hx] at h1
      have hlen : i < cs.toList.length := by
        have : cs.size = n := by rw [hs, hn]
        simp [this]; exact hi
      exfalso
      rename_i hxl
      have : xs.length ≤ i := by simpa using hx
      omega
    | some x =>
      rw [hx] at h1
      obtain ⟨q, e1, _, hw⟩ := DataW.trod_int he h1
      have h2 := getElem?_of_take_drop _ i _ e1
      simp [Lit.wf, IntKind.min, IntKind.max, IntKind.bits, IntKind.signed] at hw
      refine ⟨q.toNat, by omega, ?_⟩
      have e2 : ((q.toNat : Nat) : Int) = q := by omega
      rw [e2]
      simpa [Value.cells] using h2
  refine ⟨fun i => (match cs[i]? with | some (.int _ q) => q.toNat | _ => 0) % 256, ?_, fun i => Nat.mod_lt _ (by decide)⟩
  congr 1
  apply Array.ext
  · rw [cellsOf_size, hs, hn]
  · intro i h1 h2
    have hi : i < n := by rwa [hs, hn] at h1
    obtain ⟨q, hq, hcq⟩ := key i hi
    have e1 := cellsOf_get .u8 n (fun i => (match cs[i]? with | some (.int _ q) => q.toNat | _ => 0) % 256) i hi
    rw [Array.getElem?_eq_getElem h2] at e1
    rw [Array.getElem?_eq_getElem h1] at hcq
    injection e1 with e1
    injection hcq with hcq'
    rw [e1, hcq']
    simp only [Array.getElem?_eq_getElem h1, hcq']
    congr 1
    simp; omega

/-- A byte that comes in. -/
theorem open_u8 {W : World} {t : TypeId} {r : Reach} {b0 : Nat} {v : Value} {d : DataW H} {ps : List MemPlace} (ht : P.underlying t = some (.int .u8))
    (hval : Value.okWide P W r b0 t v) (h : DataW.Trod enc P W 0 (fun _ => true) true t v d ps) : ∃ n : Nat, v = .int .u8 n ∧ n < 256 := by
  obtain ⟨x, rfl, _, _, hx⟩ := open_int ht hval h
  simp [Lit.wf, IntKind.min, IntKind.max, IntKind.bits, IntKind.signed] at hx
  exact ⟨x.toNat, by rw [show ((x.toNat : Nat) : Int) = x by omega], by omega⟩

end
end Go.Proofs.Ytdagbighlgfhjaa
namespace Go.Proofs.Ytdagbighlgfhjaa
open Go.ChangeShapes Go.WideShapes Go.ChangeAt Go.RowKit

set_option maxRecDepth 100000

section
variable {H : Type} {enc : TypeId × Value → H} {P : Program}
theorem at_drop {cs : List Value} {i : Nat} {v : Value} (h : (cs.drop i).take 1 = [v]) : cs[i]? = some v := getElem?_of_take_drop _ i _ h
/-- A slice of numbers, out of its cell. -/
theorem open_numsW {W : World} {t e : TypeId} {k : IntKind} {fuel : Nat} {cs : List Value} {x : DataW H × List MemPlace} (ht : P.underlying t = some (.slice e)) (he : P.underlying e = some (.int k)) (hc : P.cellsOf e = 1) (h0 : (Lit.int k 0).wf = true) (hby : 1 ≤ P.bytesOf e)
    (h : DataW.trod enc P W 0 (fun _ => true) true fuel t cs = some x) (hw : ∀ y, y ∈ x.1.weights P t → y ≤ reachBytes) :
    ∃ (a : Option Addr) (n c : Nat) (z : Nat → Int), cs = [.slice a n c] ∧ n ≤ 140737488355328 ∧ (∀ i, (Lit.int k (z i)).wf = true) ∧
      (0 < n → ∃ tb o, a = some ⟨tb, o, none⟩ ∧ tb < W.heap.size ∧ ∀ i, i < n → W.cell? ⟨tb, o + i, none⟩ = some (.int k (z i))) := by
  rcases open_ints ht he hc h with ⟨h1, _⟩ | ⟨a, len, cap, zs, h1, _, hlc, _, hzl, hx, hcell, hwf⟩
  · exact ⟨none, 0, 0, fun _ => 0, h1, Nat.zero_le _, fun _ => h0, fun h => absurd h (by omega)⟩
  · have hzl' : len ≤ zs.length := by rw [hzl]; simp [hlc]
    refine ⟨some a, len, cap, fun i => zs.getD i 0, h1, ?_, fun i => ?_, fun hn => ?_⟩
    · have := hw ((min len zs.length + (zs.length - len)) * P.bytesOf e) (by
        rw [hx]
        unfold DataW.weights
        rw [ht]
        refine List.mem_cons.2 (Or.inl ?_)
        simp [lits])
      have h2 : (min len zs.length + (zs.length - len)) * 1 ≤ (min len zs.length + (zs.length - len)) * P.bytesOf e := Nat.mul_le_mul_left _ hby
      unfold reachBytes at this
      omega
    · show (Lit.int k (zs.getD i 0)).wf = true
      by_cases hi : i < zs.length
      · have e1 : zs.getD i 0 = zs[i] := by simp [List.getD, List.getElem?_eq_getElem hi]
        rw [e1]
        exact hwf zs[i] (List.getElem_mem hi)
      · have e1 : zs.getD i 0 = 0 := by simp [List.getD, List.getElem?_eq_none (Nat.le_of_not_lt hi)]
        rw [e1]; exact h0
    · have h0' := hcell 0 (by omega)
      have hspot : a.spot = none := by simpa [Addr.add] using World.cell?_spot h0'
      obtain ⟨tb, o, sp⟩ := a
      simp only at hspot
      subst hspot
      refine ⟨tb, o, rfl, ?_, fun i hi => ?_⟩
      · have := World.block_lt_of_cell? W _ h0'
        simpa [Addr.add] using this
      · have h1 := hcell i (by omega)
        rw [Addr.add_mid] at h1
        exact h1
/-- Bytes that come in, and how many. -/
theorem open_bytesW {W : World} {t e : TypeId} {r : Reach} {b0 : Nat} {v : Value} {d : DataW H} {ps : List MemPlace} (ht : P.underlying t = some (.slice e)) (he : P.underlying e = some (.int .u8)) (hc : P.cellsOf e = 1) (hby : 1 ≤ P.bytesOf e)
    (hval : Value.okWide P W r b0 t v) (h : DataW.Trod enc P W 0 (fun _ => true) true t v d ps) (hw : ∀ y, y ∈ d.weights P t → y ≤ reachBytes) :
    ∃ a n c f, v = .slice a n c ∧ n ≤ c ∧ n ≤ 140737488355328 ∧ Rd W W.heap.size a n f ∧ ∀ i, f i < 256 := by
  obtain ⟨a0, len, cap, rfl⟩ := okWide_slice ht hval
  obtain ⟨fuel, hf⟩ := h
  obtain ⟨a, n, c, z, h1, hb, hwf, hcell⟩ := open_numsW ht he hc (by rfl) hby hf hw
  simp [Value.cells] at h1
  obtain ⟨rfl, rfl, rfl⟩ := h1
  have hlc : len ≤ cap := by
    rcases open_ints ht he hc hf with ⟨h2, _⟩ | ⟨_, _, _, _, h2, _, h3, _⟩
    · simp [Value.cells] at h2
      omega
    · simp [Value.cells] at h2
      omega
  have wb : ∀ i, 0 ≤ z i ∧ z i < 256 := fun i => by have := hwf i; simp [Lit.wf, IntKind.min, IntKind.max, IntKind.bits, IntKind.signed] at this; omega
  refine ⟨a0, len, cap, fun i => (z i).toNat, rfl, hlc, hb, ⟨fun hn => ?_⟩, fun i => by have := wb i; show (z i).toNat < 256; omega⟩
  obtain ⟨tb, o, e1, e2, e3⟩ := hcell hn
  refine ⟨tb, o, e1, e2, fun i hi => ?_⟩
  have := wb i
  rw [e3 i hi]
  show some (Value.int .u8 (z i)) = some (Value.int .u8 (((z i).toNat : Nat) : Int))
  rw [show (((z i).toNat : Nat) : Int) = z i by omega]
end
end Go.Proofs.Ytdagbighlgfhjaa
namespace Go.Proofs.Ytdagbighlgfhjaa
open Go.ChangeShapes Go.WideShapes Go.ChangeAt Go.RowKit

set_option maxRecDepth 100000
set_option maxHeartbeats 4000000

theorem QV.zero_ok : QV.zero.Ok := ⟨fun _ => (by decide : 0 < 256), by decide, by decide, by decide, by decide, by decide⟩
/-- Records that can be read. -/
structure RdQ (w : World) (D : Nat) (a : Option Addr) (n : Nat) (X : Nat → QV) : Prop where
  ex : 0 < n → ∃ tb o, a = some ⟨tb, o, none⟩ ∧ tb < D ∧ ∀ i j, i < n → j < 22 → w.cell? ⟨tb, o + (i * 22 + j), none⟩ = some ((X i).v j)
section
variable {H : Type} {enc : TypeId × Value → H} {P : Program}
theorem trod_st7 {W : World} {base : Nat} {spare : Nat → Bool} {held : Bool} {t : TypeId} {f0 f1 f2 f3 f4 f5 f6 : Field} {fuel : Nat} {cs : List Value} {x : DataW H × List MemPlace} (ht : P.underlying t = some (.struct #[f0, f1, f2, f3, f4, f5, f6])) (h : DataW.trod enc P W base spare held fuel t cs = some x) :
    ∃ y0 y1 y2 y3 y4 y5 y6 n, DataW.trod enc P W base spare held n f0.type ((cs.drop f0.offset).take (P.cellsOf f0.type)) = some y0 ∧ DataW.trod enc P W base spare held n f1.type ((cs.drop f1.offset).take (P.cellsOf f1.type)) = some y1 ∧ DataW.trod enc P W base spare held n f2.type ((cs.drop f2.offset).take (P.cellsOf f2.type)) = some y2 ∧ DataW.trod enc P W base spare held n f3.type ((cs.drop f3.offset).take (P.cellsOf f3.type)) = some y3 ∧ DataW.trod enc P W base spare held n f4.type ((cs.drop f4.offset).take (P.cellsOf f4.type)) = some y4 ∧ DataW.trod enc P W base spare held n f5.type ((cs.drop f5.offset).take (P.cellsOf f5.type)) = some y5 ∧ DataW.trod enc P W base spare held n f6.type ((cs.drop f6.offset).take (P.cellsOf f6.type)) = some y6 := by
  obtain ⟨xs, n, _, rfl, hl, hlen, hf⟩ := DataW.trod_struct ht h
  match xs, hlen with
  | [y0, y1, y2, y3, y4, y5, y6], _ => exact ⟨y0, y1, y2, y3, y4, y5, y6, n, by simpa using hf 0 f0 rfl, by simpa using hf 1 f1 rfl, by simpa using hf 2 f2 rfl, by simpa using hf 3 f3 rfl, by simpa using hf 4 f4 rfl, by simpa using hf 5 f5 rfl, by simpa using hf 6 f6 rfl⟩
/-- An array of bytes among cells. -/
theorem trod_arr8 {W : World} {t e : TypeId} {n o fuel : Nat} {cs : List Value} {x : DataW H × List MemPlace} (ht : P.underlying t = some (.array n e)) (he : P.underlying e = some (.int .u8)) (hc : P.cellsOf e = 1)
    (h : DataW.trod enc P W 0 (fun _ => true) true fuel t ((cs.drop o).take n) = some x) : ∃ f : Nat → Nat, (∀ i, f i < 256) ∧ ∀ i, i < n → cs[o + i]? = some (.int .u8 (f i)) := by
  obtain ⟨xs, m, rfl, _, _, hxl, hel⟩ := DataW.trod_array ht h
  have key : ∀ i, i < n → ∃ q : Nat, q < 256 ∧ cs[o + i]? = some (.int .u8 q) := fun i hi => by
    have h1 := hel i hi
    rw [hc, Nat.mul_one] at h1
    have hx : ∃ y, xs[i]? = some y := ⟨xs[i]'(by omega), List.getElem?_eq_getElem (by omega)⟩
    obtain ⟨y, hx⟩ := hx
    rw [hx] at h1
    obtain ⟨q, e1, _, hw⟩ := DataW.trod_int he h1
    have h2 := getElem?_of_take_drop _ i _ e1
    simp [Lit.wf, IntKind.min, IntKind.max, IntKind.bits, IntKind.signed] at hw
    refine ⟨q.toNat, by omega, ?_⟩
    have e2 : ((q.toNat : Nat) : Int) = q := by omega
    rw [e2, ← h2, List.getElem?_take, if_pos hi, List.getElem?_drop]
  refine ⟨fun i => (match cs[o + i]? with | some (.int _ q) => q.toNat | _ => 0) % 256, fun i => Nat.mod_lt _ (by decide), fun i hi => ?_⟩
  obtain ⟨q, hq, hcq⟩ := key i hi
  have e : (match cs[o + i]? with | some (.int _ q) => q.toNat | _ => 0) = q := by rw [hcq]; rfl
  show cs[o + i]? = some (.int .u8 (((match cs[o + i]? with | some (.int _ q) => q.toNat | _ => 0) % 256 : Nat) : Int))
  rw [e, Nat.mod_eq_of_lt hq]
  exact hcq
theorem sub_cells (cs : List Value) (o n k m : Nat) (h : k + m ≤ n) : (((cs.drop o).take n).drop k).take m = (cs.drop (o + k)).take m := by
  rw [List.drop_take, List.take_take, List.drop_drop]
  congr 1
  omega
end
theorem nat_of_u8 {q : Int} (h : (Lit.int .u8 q).wf = true) : ∃ n : Nat, q = (n : Int) ∧ n < 256 := by
  simp [Lit.wf, IntKind.min, IntKind.max, IntKind.bits, IntKind.signed] at h
  exact ⟨q.toNat, by omega, by omega⟩
theorem nat_of_u64 {q : Int} (h : (Lit.int .u64 q).wf = true) : ∃ n : Nat, q = (n : Int) ∧ n < 18446744073709551616 := by
  simp [Lit.wf, IntKind.min, IntKind.max, IntKind.bits, IntKind.signed] at h
  exact ⟨q.toNat, by omega, by omega⟩
section
variable {H : Type} {enc : TypeId × Value → H} {W : World} {cs : List Value} {fuel o : Nat} {y : DataW H × List MemPlace}
theorem o_u8 (h : DataW.trod enc Try.prog W 0 (fun _ => true) true fuel 5 ((cs.drop o).take 1) = some y) : ∃ q : Nat, cs[o]? = some (.int .u8 q) ∧ q < 256 := by
  obtain ⟨z, r, _, hw⟩ := DataW.trod_int Try.underlying5 h
  obtain ⟨q, rfl, hq⟩ := nat_of_u8 hw
  exact ⟨q, at_drop r, hq⟩
theorem o_u64 (h : DataW.trod enc Try.prog W 0 (fun _ => true) true fuel 24 ((cs.drop o).take 1) = some y) : ∃ q : Nat, cs[o]? = some (.int .u64 q) ∧ q < 18446744073709551616 := by
  obtain ⟨z, r, _, hw⟩ := DataW.trod_int Try.underlying24 h
  obtain ⟨q, rfl, hq⟩ := nat_of_u64 hw
  exact ⟨q, at_drop r, hq⟩
theorem o_bool (h : DataW.trod enc Try.prog W 0 (fun _ => true) true fuel 4 ((cs.drop o).take 1) = some y) : ∃ q : Bool, cs[o]? = some (.bool q) := by
  obtain ⟨q, r, _⟩ := DataW.trod_bool Try.underlying4 h
  exact ⟨q, at_drop r⟩
theorem o_id (h : DataW.trod enc Try.prog W 0 (fun _ => true) true fuel 23 ((cs.drop o).take 16) = some y) : ∃ f : Nat → Nat, (∀ i, f i < 256) ∧ ∀ i, i < 16 → cs[o + i]? = some (.int .u8 (f i)) := trod_arr8 (t := 23) (n := 16) (e := 5) (by kernel_rfl) Try.underlying5 (by kernel_rfl) h
theorem o_rec (h : DataW.trod enc Try.prog W 0 (fun _ => true) true fuel 128 ((cs.drop o).take 22) = some y) : ∃ x : QV, x.Ok ∧ ∀ i, i < 22 → cs[o + i]? = some (x.v i) := by
  obtain ⟨y0, y1, y2, y3, y4, y5, y6, n, q0, q1, q2, q3, q4, q5, q6⟩ := trod_st7 Try.underlying128 h
  replace q0 : DataW.trod enc Try.prog W 0 (fun _ => true) true n 23 ((cs.drop (o + 0)).take 16) = some y0 := by rw [← sub_cells cs o 22 0 16 (by decide)]; exact q0
  replace q1 : DataW.trod enc Try.prog W 0 (fun _ => true) true n 5 ((cs.drop (o + 16)).take 1) = some y1 := by rw [← sub_cells cs o 22 16 1 (by decide)]; exact q1
  replace q2 : DataW.trod enc Try.prog W 0 (fun _ => true) true n 4 ((cs.drop (o + 17)).take 1) = some y2 := by rw [← sub_cells cs o 22 17 1 (by decide)]; exact q2
  replace q3 : DataW.trod enc Try.prog W 0 (fun _ => true) true n 5 ((cs.drop (o + 18)).take 1) = some y3 := by rw [← sub_cells cs o 22 18 1 (by decide)]; exact q3
  replace q4 : DataW.trod enc Try.prog W 0 (fun _ => true) true n 24 ((cs.drop (o + 19)).take 1) = some y4 := by rw [← sub_cells cs o 22 19 1 (by decide)]; exact q4
  replace q5 : DataW.trod enc Try.prog W 0 (fun _ => true) true n 24 ((cs.drop (o + 20)).take 1) = some y5 := by rw [← sub_cells cs o 22 20 1 (by decide)]; exact q5
  replace q6 : DataW.trod enc Try.prog W 0 (fun _ => true) true n 24 ((cs.drop (o + 21)).take 1) = some y6 := by rw [← sub_cells cs o 22 21 1 (by decide)]; exact q6
  obtain ⟨f, hf, hc⟩ := o_id q0
  obtain ⟨pe, h1, h1'⟩ := o_u8 q1
  obtain ⟨ou, h2⟩ := o_bool q2
  obtain ⟨oc, h3, h3'⟩ := o_u8 q3
  obtain ⟨bg, h4, h4'⟩ := o_u64 q4
  obtain ⟨an, h5, h5'⟩ := o_u64 q5
  obtain ⟨en, h6, h6'⟩ := o_u64 q6
  refine ⟨⟨f, pe, ou, oc, bg, an, en⟩, ⟨hf, h1', h3', h4', h5', h6'⟩, fun i hi => ?_⟩
  by_cases i0 : i < 16
  · unfold QV.v
    rw [if_pos i0]
    exact hc i i0
  · obtain rfl | rfl | rfl | rfl | rfl | rfl : i = 16 ∨ i = 17 ∨ i = 18 ∨ i = 19 ∨ i = 20 ∨ i = 21 := by omega
    · exact h1
    · exact h2
    · exact h3
    · exact h4
    · exact h5
    · exact h6
theorem o_recs (h : DataW.trod enc Try.prog W 0 (fun _ => true) true fuel 129 ((cs.drop o).take 1) = some y) (hw : ∀ z, z ∈ y.1.weights Try.prog 129 → z ≤ reachBytes) : ∃ (a : Option Addr) (n c : Nat) (X : Nat → QV), cs[o]? = some (.slice a n c) ∧ n ≤ c ∧ n ≤ 140737488355328 ∧ (∀ i, (X i).Ok) ∧ RdQ W W.heap.size a n X := by
  have ht := Try.underlying129
  rcases Deep.open_slice ht h with ⟨h1, _⟩ | ⟨a, len, cap, m, n, D, Pl, h1, _, hlc, hmx, hmm, hd, hx⟩
  · exact ⟨none, 0, 0, fun _ => QV.zero, at_drop h1, Nat.zero_le _, Nat.zero_le _, fun _ => QV.zero_ok, ⟨fun h => absurd h (by decide)⟩⟩
  · have hmc : m = cap := by simpa using hmm
    have hdd : y.1 = .slice ((List.range len).map D) ((List.range (m - len)).map fun j => D (len + j)) := congrArg Prod.fst hd
    have hwd : DataW.weights Try.prog 129 y.1 = (((List.range len).map D).length + ((List.range (m - len)).map fun j => D (len + j)).length) * Try.prog.bytesOf 128 :: (DataW.weightsAll Try.prog 128 ((List.range len).map D) ++ DataW.weightsAll Try.prog 128 ((List.range (m - len)).map fun j => D (len + j))) := by
      rw [hdd]
      conv => lhs; unfold DataW.weights
      rw [ht]
    have hlen : len ≤ 140737488355328 := by
      have h1 := hw _ (by rw [hwd]; exact List.mem_cons_self ..)
      simp only [List.length_map, List.length_range] at h1
      have h2 : (len + (m - len)) * 1 ≤ (len + (m - len)) * Try.prog.bytesOf 128 := Nat.mul_le_mul_left _ (by rw [show Try.prog.bytesOf 128 = 48 by kernel_rfl]; decide)
      unfold reachBytes at h1
      omega
    have cu : Try.prog.cellsOf 128 = 22 := by kernel_rfl
    have hspot0 : 0 < len → a.spot = none := fun h0 => by
      obtain ⟨cs', g1, _⟩ := hx 0 (by omega)
      rw [cu] at g1
      obtain ⟨_, hl5, hc⟩ := World.cells?_some g1
      have c0 := hc 0 (by omega)
      obtain ⟨v0, hv0⟩ : ∃ v, cs'[0]? = some v := ⟨_, List.getElem?_eq_getElem (by omega)⟩
      rw [hv0] at c0
      simpa [Addr.add] using World.cell?_spot c0
    have key : ∀ i, ∃ f : QV, f.Ok ∧ (i < len → a.spot = none ∧ ∀ j, j < 22 → W.cell? ⟨a.block, a.off + (i * 22 + j), none⟩ = some (f.v j)) := fun i => by
      by_cases hi : i < len
      · obtain ⟨cs', g1, g2⟩ := hx i (by omega)
        rw [cu] at g1
        obtain ⟨_, hl5, hc⟩ := World.cells?_some g1
        obtain ⟨f, hf, hq⟩ := o_rec (o := 0) (cs := cs') (by
          rw [List.drop_zero, List.take_of_length_le (by omega)]
          exact g2)
        have hspot := hspot0 (by omega)
        obtain ⟨tb', o', sp⟩ := a
        simp only at hspot
        subst hspot
        refine ⟨f, hf, fun _ => ⟨rfl, fun j hj => ?_⟩⟩
        have c := hc j (by omega)
        rw [Addr.add_mid, Addr.add_mid] at c
        have e := hq j hj
        rw [Nat.zero_add] at e
        rw [e] at c
        rw [← Nat.add_assoc]
        exact c
      · exact ⟨QV.zero, QV.zero_ok, fun h => absurd h hi⟩
    obtain ⟨fm, hfm⟩ := Classical.axiomOfChoice key
    refine ⟨some a, len, cap, fm, at_drop h1, hlc, hlen, fun i => (hfm i).1, ⟨fun h0 => ?_⟩⟩
    have h2 := (hfm 0).2 h0
    have hlt := World.block_lt_of_cell? W _ (h2.2 0 (by decide))
    obtain ⟨tb', o', sp⟩ := a
    have hspot := h2.1
    simp only at hspot
    subst hspot
    exact ⟨tb', o', rfl, hlt, fun i j hi hj => ((hfm i).2 hi).2 j hj⟩
end
theorem open_rec {H : Type} {enc : TypeId × Value → H} {W : World} {v : Value} {d : DataW H} {ps : List MemPlace} {r : Reach} {b0 : Nat}
    (hval : Value.okWide Try.prog W r b0 128 v) (h : DataW.Trod enc Try.prog W 0 (fun _ => true) true 128 v d ps) :
    ∃ x : QV, v = .agg (rowOf 22 x.v) ∧ x.Ok := by
  have hu := Try.underlying128
  have hv := hval
  simp only [Value.okWide, hu] at hv
  obtain ⟨cs, rfl, hs, _⟩ := hv
  have hsz : cs.size = 22 := by rw [hs]; kernel_rfl
  obtain ⟨fuel, hf⟩ := h
  obtain ⟨x, hok, hc⟩ := o_rec (W := W) (cs := cs.toList) (o := 0) (y := (d, ps)) (by
    rw [List.drop_zero, List.take_of_length_le (by rw [Array.length_toList, hsz]; exact Nat.le_refl _)]
    exact hf)
  refine ⟨x, ?_, hok⟩
  congr 1
  apply Array.ext
  · rw [hsz, rowOf_size]
  · intro i h1 h2
    have hi : i < 22 := by omega
    have e1 := hc i hi
    rw [Nat.zero_add, Array.getElem?_toList, Array.getElem?_eq_getElem h1] at e1
    have e2 := rowOf_get 22 x.v i hi
    rw [Array.getElem?_eq_getElem h2] at e2
    exact (Option.some.inj e1).trans (Option.some.inj e2).symm
theorem open_recs {H : Type} {enc : TypeId × Value → H} {W : World} {v : Value} {d : DataW H} {ps : List MemPlace} {r : Reach} {b0 : Nat}
    (hval : Value.okWide Try.prog W r b0 129 v) (h : DataW.Trod enc Try.prog W 0 (fun _ => true) true 129 v d ps) (hw : ∀ y, y ∈ d.weights Try.prog 129 → y ≤ reachBytes) :
    ∃ a n c X, v = .slice a n c ∧ n ≤ c ∧ n ≤ 140737488355328 ∧ (∀ i, (X i).Ok) ∧ RdQ W W.heap.size a n X := by
  obtain ⟨a0, len, cap, rfl⟩ := okWide_slice Try.underlying129 hval
  obtain ⟨fuel, hf⟩ := h
  obtain ⟨a, n, c, X, h1, h2, h3, h4, h5⟩ := o_recs (W := W) (cs := (Value.slice a0 len cap).cells.toList) (o := 0) (y := (d, ps)) (by rw [List.drop_zero]; exact hf) hw
  simp [Value.cells] at h1
  obtain ⟨rfl, rfl, rfl⟩ := h1
  exact ⟨_, _, _, X, rfl, h2, h3, h4, h5⟩
end Go.Proofs.Ytdagbighlgfhjaa
namespace Go.Proofs.Ytdagbighlgfhjaa
open Go.ChangeShapes Go.WideShapes Go.ChangeAt Go.RowKit

set_option maxRecDepth 100000 in
theorem recPuts_lifted (os : Os) (started : os.Started) (H : Type) (enc : TypeId × Value → H) :
    ReturnsInHanded {} Try.checked os 7 .any (Rows.recPutsSpec.pre6 enc Try.prog Try.f7 Rows.recPutsRow.domain false) (Rows.recPutsSpec.post enc Try.prog Try.f7 false true false false) := by
  refine returnsInHanded_of_change_sized (C := Try.checked) own started (by kernel_rfl) Try.func7
    (ChangeSpec.witness6 (enc := enc) (C := Try.checked) false ⟨#[], #[.agg #[.int .u8 0, .int .u8 0, .int .u8 0, .int .u8 0, .int .u8 0, .int .u8 0, .int .u8 0, .int .u8 0, .int .u8 0, .int .u8 0, .int .u8 0, .int .u8 0, .int .u8 0, .int .u8 0, .int .u8 0, .int .u8 0, .int .u8 0, .bool false, .int .u8 0, .int .u64 0, .int .u64 0, .int .u64 0], .slice none 0 0], []⟩ 8 (by kernel_rfl) (by kernel_rfl) (by kernel_rfl) (by kernel_rfl)) ?_
  intro W base args ds gs before hval0 hW _ hwt _
  have hval : ∀ (j : Nat) t v, Try.f7.params[j]? = some t → args[j]? = some v → Value.okWide Try.prog W .any base t v := hval0
  have hW' := hW
  obtain ⟨p, q, hA0, hV, rfl, _, _⟩ := hW
  have hA : DataW.TrodAll enc Try.prog W 0 (fun _ => true) true Try.f7.params.toList args.toList ds p := hA0
  have hwt' : (DataW.weightsEach Try.prog (Try.f7.params.toList ++ Rows.recPutsSpec.plain.varTypes Try.prog) (ds ++ gs)).all (· ≤ reachBytes) = true := hwt
  rw [Try.params7] at hA hval hwt'
  obtain ⟨v0, vs0, d0, ds0, p0, q0, hv0, rfl, rfl, h0, hA1⟩ := trodAll_cons hA
  obtain ⟨v1, vs1, d1, ds1, p1, q1, rfl, rfl, rfl, h1, hA2⟩ := trodAll_cons hA1
  obtain ⟨rfl, rfl, rfl⟩ := trodAll_nil hA2
  obtain ⟨l⟩ := args
  simp only at hv0
  subst hv0
  obtain ⟨rfl, rfl⟩ := trodVars_none hV
  have hw1 : ∀ y, y ∈ DataW.weights Try.prog 39 d1 → y ≤ reachBytes := fun y hy => by
    have hm : y ∈ DataW.weightsEach Try.prog (#[128, 39].toList ++ Rows.recPutsSpec.plain.varTypes Try.prog) ([d0, d1] ++ []) := List.mem_append.2 (Or.inr (List.mem_append.2 (Or.inl hy)))
    simpa using List.all_eq_true.1 hwt' y hm
  obtain ⟨x0, rfl, hO0⟩ := open_rec (hval 0 128 v0 rfl rfl) h0
  obtain ⟨a1, n1, c1, f1, rfl, hc1, hn1, hR1, hf1⟩ := open_bytesW (P := Try.prog) under_bytes (by kernel_rfl) (by kernel_rfl) (by rw [show Try.prog.bytesOf 5 = 1 by kernel_rfl]; decide) (hval 1 39 v1 rfl rfl) h1 hw1
  clear hA0 hval0
  refine (RecPuts_any _ n1 c1 a1 f1 x0 W hO0 hR1 hf1 hc1).mono fun e W' ⟨he, hg⟩ => ?_
  subst he
  exact ⟨_, rfl, law_post laidOut hW' rfl rfl (tb := 4) rfl Try.underlying4 (by
      rw [Try.params7]
      intro t ht
      have hall : (([128, 39] : List TypeId).all fun u => Try.prog.readableRec u && decide (u < Try.prog.types.size)) = true := by kernel_rfl
      have := List.all_eq_true.1 hall t (by simpa using ht)
      simpa using this) hg⟩

theorem recPuts_holds : Rows.RecPutsSaid :=
  OpenClaim.holds_of_wide 7 Try.f7 rfl rfl rfl rfl rfl rfl rfl ⟨rfl, rfl, rfl, rfl, rfl⟩ rfl rfl rfl rfl rfl (by kernel_rfl) Try.func7 (by kernel_rfl)
    (of_decide_eq_true (by kernel_rfl)) (by unfold Func.isWrapper; first | (rw [if_pos (by decide +kernel)]; kernel_rfl) | (rw [if_neg (by decide +kernel)]; exact ⟨rfl, rfl⟩))
    (fun os started H enc _ => recPuts_lifted os started H enc)

end Go.Proofs.Ytdagbighlgfhjaa
