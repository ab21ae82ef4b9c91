/-
  Proved: whatever records and bytes come in, 'RecBack' answers true, and what came in reads afterwards as it read before. Conditions: the arguments can be read as data.
-/
import Derived.Test.YtdagbighlgfhjaaRecBackAlla
import Derived.Test.YtdagbighlgfhjaaLaw
import Derived.Test.YtdagbighlgfhjaaRows
import Derived.Stop.Joined
import Derived.LaidLaws
import Derived.Test.YtdagbighlgfhjaaRd
import Derived.Deep.Slices
import Derived.Test.YtdagbighlgfhjaaOrd3
import Derived.StillTail
import Derived.Test.YtdagbighlgfhjaaRelAll
import Derived.Test.YtdagbighlgfhjaaStr
import Derived.SizedLaws
namespace Go.Proofs.Ytdagbighlgfhjaa
open Go.RowKit

set_option maxRecDepth 100000
set_option maxHeartbeats 4000000

attribute [local go_sem] Oper.semAt_some

def oneQ : QV := ⟨fun i => if i = 0 then 1 else 0, 3, true, 1, 5, 6, 7⟩
theorem oneQ_ok : oneQ.Ok := ⟨fun i => by show (if i = 0 then 1 else 0) < 256; split <;> decide, by decide, by decide, by decide, by decide, by decide⟩
theorem exec_one1 {o : Oper} {a : Act} (ho : o.op = .build 23 #[(0, .const (.int .u8 1))]) (w : World) : (execOp a.eval o).run Try.prog w = .ok (.value (.agg (cellsOf .u8 16 oneQ.id))) w := by
  unfold execOp
  rw [ho]
  kernel_rfl
theorem run_one2 (w : World) : (Instr.build 128 #[(0, .agg (cellsOf .u8 16 oneQ.id)), (1, .int .u8 3), (2, .bool true), (3, .int .u8 1), (4, .int .u64 5), (5, .int .u64 6), (6, .int .u64 7)]).run Try.prog w = .ok (.agg (rowOf 22 oneQ.v)) w := by kernel_rfl
theorem exec_one2 {o : Oper} {a : Act} (ho : o.op = .build 128 #[(0, .tmp 1), (1, .const (.int .u8 3)), (2, .const (.bool true)), (3, .const (.int .u8 1)), (4, .const (.int .u64 5)), (5, .const (.int .u64 6)), (6, .const (.int .u64 7))]) (h : a.eval (.tmp 1) = .agg (cellsOf .u8 16 oneQ.id)) (w : World) : (execOp a.eval o).run Try.prog w = .ok (.value (.agg (rowOf 22 oneQ.v))) w := by
  unfold execOp
  have ec : ∀ v, a.eval (.const v) = v := fun _ => rfl
  simp only [ho, h, ec, List.map_toArray, List.map_cons, List.map_nil, Sem.run_bind, run_one2, Result.andThen_ok, Sem.run_pure]
theorem one_any (w : World) : Calls Try.prog 127 #[] w fun e w' => e = .returned (.agg (rowOf 22 oneQ.v)) ∧ w.grownBy w' none := by
  have ga := World.grownBy_alloc w (.cells #[.int .u8 0, .int .u8 0, .int .u8 0, .int .u8 0, .int .u8 0, .int .u8 0, .int .u8 0, .int .u8 0, .int .u8 0, .int .u8 0, .int .u8 0, .int .u8 0, .int .u8 0, .int .u8 0, .int .u8 0, .int .u8 0, .int .u8 0, .bool false, .int .u8 0, .int .u64 0, .int .u64 0, .int .u64 0] 128) none
  have hR := RowAt.new w 128 22 QV.zero.v _ QV.zero_row
  go_enter Try.func127, Try.ntmps127
  go_upto_region 1 with fail
  obtain ⟨B, hB⟩ : ∃ B, B = w.heap.size := ⟨_, rfl⟩
  rw [← hB] at hR ⊢
  generalize w.alloc (.cells #[.int .u8 0, .int .u8 0, .int .u8 0, .int .u8 0, .int .u8 0, .int .u8 0, .int .u8 0, .int .u8 0, .int .u8 0, .int .u8 0, .int .u8 0, .int .u8 0, .int .u8 0, .int .u8 0, .int .u8 0, .int .u8 0, .int .u8 0, .bool false, .int .u8 0, .int .u64 0, .int .u64 0, .int .u64 0] 128) = w1 at *
  obtain ⟨k1, k2⟩ := RowAt.store (P := Try.prog) hR 0 128 22 oneQ.v (by decide) (by kernel_rfl) (fun j _ => QV.one _ j)
  obtain ⟨wz, hwz⟩ : ∃ W, W = w1.setCells B 0 (rowOf 22 oneQ.v).toList := ⟨_, rfl⟩
  rw [← hwz] at k1 k2
  have gz : w1.grownBy wz (some B) := by rw [hwz]; exact grown_setCells B (Or.inr rfl) _ 0 _ (grown_refl _ _)
  have HK := Lib.hid (k2.congr (v' := oneQ.v) fun i hi => by rw [if_pos ⟨Nat.zero_le _, by omega⟩, Nat.sub_zero])
  have HS := Lib.hid k1
  have HGZ := Lib.hid (grown_into ga gz (by omega))
  obtain ⟨v1, hv1⟩ : ∃ v, v = Value.agg (rowOf 22 oneQ.v) := ⟨_, rfl⟩
  clear k1 k2 hwz gz hR ga hB
  go_wp2_with (first | ((with_reducible refine wpList_here ?_); refine wpList_want (v := .agg (cellsOf .u8 16 oneQ.id)) (w' := w1) ?_ (exec_one1 rfl w1) ?_; (· kernel_rfl)) | ((with_reducible refine wpList_here ?_); refine wpList_want (v := .agg (rowOf 22 oneQ.v)) (w' := w1) ?_ (exec_one2 rfl rfl w1) ?_; (· kernel_rfl)) | ((with_reducible refine wpList_here ?_); refine wpList_st (T := 128) (p := .pointer (some ⟨B, 0, none⟩)) (v := .agg (rowOf 22 oneQ.v)) (.tmp 0) (.tmp 2) ?_ ?_ ?_ ?_ ?_ HS.out ?_; (· rfl); (· rfl); go_simp; (· kernel_rfl); (· kernel_rfl)))
  exact bodyPost_ret (res_rowAt rfl rfl HK.out (by kernel_rfl) (by kernel_rfl)) rfl ⟨rfl, HGZ.out⟩
theorem one_enters : ∀ args w, (callFunc 127 args).run Try.prog w = .ok (.enter 127 args) w := enters_of Try.func127 (by kernel_rfl) rfl
theorem wpIn_region_heldR {P : Program} {ops : List Oper} {Q : Exit → Act → World → Prop} {n l id : Nat} {a : Act} {w : World} (S : World → Prop) (hm : P.follows .mixedOrders = true) (hD : noDefer ops = true) (hlo : ¬ LetsOut Q)
    (h : wpAnyH P .any ops.toArray Q S ops.toArray.size (Array.replicate ops.toArray.size false) a w.drew) : (Code.region id ops.toArray true).wpIn (Fence.wide.inRound l) n P Q a w :=
  wpIn_region_any hm (any_round hlo (noDefer_spec hD) _ _ _ _ (wpAny_of_held _ _ _ _ h))
/-- The bytes of that record, and a byte more. -/
def oneF : Nat → Nat := cat 43 oneQ.bytes (fun _ => 9)
theorem oneF_at (i : Nat) (h : i < 43) : shF oneF (43 * 0) i = oneQ.bytes i := by
  unfold shF oneF cat
  rw [Nat.mul_zero, Nat.zero_add, if_pos h]
theorem one_n : IsN 44 oneF 1 := ⟨fun j hj => by
  obtain rfl : j = 0 := by omega
  exact ⟨by decide, (recOk_put oneQ_ok oneF_at).trans (by decide)⟩, fun h => by have := h.1; omega⟩
theorem one_rec : rowOf 22 (recs oneF 0).v = rowOf 22 oneQ.v := recF_put oneQ_ok oneF_at
structure WkI (w : World) (RB NB : Nat) (k : Nat) (U : World) : Prop where
  res : Boxed U RB 4 (.bool false)
  n : Boxed U NB 3 (.int .i64 (k : Nat))
  gr : w.grownBy U none
theorem WkI.own {w : World} {RB NB A : Nat} (h1 : RB < A) (h2 : NB < A) (h3 : w.heap.size ≤ A) : OwnFrom A (WkI w RB NB) := fun s W W' row h hg hr =>
  ⟨h.res.kept hg (fun e => by have := (hr _ e.symm).1; omega), h.n.kept hg (fun e => by have := (hr _ e.symm).1; omega), by
    cases row with
    | none => exact grown_trans h.gr hg
    | some r => exact grown_new h.gr hg (by have := (hr r rfl).1; omega)⟩
theorem works11_any (w : World) : Calls Try.prog 51 #[] w fun e w' => e = .returned (.bool true) ∧ w.grownBy w' none := by
  have gb := World.grownBy_alloc w (.cells #[.bool false] 4) none
  have hRB := Boxed.new w 4 (.bool false)
  refine (callsIn_wide (n := 8)).1 ?_
  refine callsIn_of_wp_marks Try.func51 rfl trivial ?_ rfl
  simp only [Try.ntmps51, List.size_toArray, List.length_nil, Nat.reduceSub, Array.replicate_succ, Array.replicate_zero, List.push_toArray, List.append_toArray, List.nil_append, List.cons_append]
  refine wpIn_wide.2 ?_
  go_upto_region 1 with fail
  obtain ⟨RB, hB⟩ : ∃ B, B = w.heap.size := ⟨_, rfl⟩
  rw [← hB] at hRB ⊢
  generalize w.alloc (.cells #[.bool false] 4) = w1 at *
  have HB := Lib.hid (show RB = w.heap.size from hB)
  have HRB := Lib.hid hRB
  have HG1 := Lib.hid gb
  have H1 := Lib.hid (one_any w1)
  clear hB hRB gb
  go_wp2_with fail
  go_at_call 127
  refine H1.out.mono ?_
  rintro e w2 ⟨rfl, g2⟩
  have H2 := recPut_any oneQ oneQ_ok w2
  rw [show oneQ.may = true by decide] at H2
  obtain ⟨v1, hv1⟩ : ∃ v, v = Value.agg (rowOf 22 oneQ.v) := ⟨_, rfl⟩
  rw [← hv1] at H2 ⊢
  have H2 := Lib.hid H2
  have HG2 := Lib.hid (show w1.grownBy w2 none from g2)
  clear H1 g2 hv1
  go_wp2_with fail
  go_at_call 49
  refine H2.out.mono ?_
  rintro e w3 ⟨⟨a, c, rfl, hO⟩, g3⟩
  have hO : OwnN w3 w2.heap.size (.slice a 43 c) 43 oneQ.bytes := hO
  rw [show (.slice a (if true = true then 43 else 0) c : Value) = .slice a 43 c from rfl, show (.int .i64 (if true = true then 0 else 2) : Value) = .int .i64 0 from rfl]
  have HO := Lib.hid hO
  have HG3 := Lib.hid (grown_trans HG2.out g3)
  clear H2 g3 hO HG2
  go_upto_region 5 with fail
  have gn := World.grownBy_alloc w3 (.cells #[.int .i64 0] 3) none
  have hNB := Boxed.new w3 3 (.int .i64 0)
  obtain ⟨NB, hNBe⟩ : ∃ B, B = w3.heap.size := ⟨_, rfl⟩
  rw [← hNBe] at hNB ⊢
  have hz := World.size_alloc w3 (.cells #[.int .i64 0] 3)
  generalize w3.alloc (.cells #[.int .i64 0] 3) = w4 at *
  have hRd : Rd w4 w4.heap.size a 43 oneQ.bytes := by
    obtain ⟨a', c', e, _, hR⟩ := HO.out.rd
    cases e
    exact (hR.grown gn (by simp)).mono (by omega)
  have gE := World.grownBy_alloc w4 (.cells #[] 5) none
  have hE : OwnN (w4.alloc (.cells #[] 5)) w4.heap.size (.slice (some ⟨w4.heap.size, 0, none⟩) 0 0) 0 (fun _ => 0) := ⟨Or.inr ⟨w4.heap.size, 0, rfl, (ownR_empty w4).congr (fun i hi => absurd hi (Nat.not_lt_zero _)), Nat.le_refl _⟩⟩
  obtain ⟨a5, c5, w5, hap5, hO5, hG5, _⟩ := app_N1 c 39 gE hE (hRd.grown gE (by simp)) (by decide)
  have g9 := World.grownBy_alloc w5 (.cells #[.int .u8 (9 : Nat)] 5) none
  obtain ⟨a7, c7, w7, hap7, hO7, hG7, _⟩ := app_N1 1 39 (grown_trans hG5 g9) (hO5.grown g9) (rd_one w5 9 (w5.heap.size + 1) (by omega)) (by decide)
  have HAP5 := Lib.hid (show (Builtin.append_ #[39, 39] 39 #[.slice (some ⟨w4.heap.size, 0, none⟩) 0 0, .slice a 43 c]).run Try.prog (w4.alloc (.cells #[] 5)) = .ok (.slice a5 43 c5) w5 from hap5)
  have HAP7 := Lib.hid (show (Builtin.append_ #[39, 39] 39 #[.slice a5 43 c5, .slice (some ⟨w5.heap.size, 0, none⟩) 1 1]).run Try.prog (w5.alloc (.cells #[.int .u8 9] 5)) = .ok (.slice a7 44 c7) w7 from hap7)
  have hO7 : OwnN w7 w4.heap.size (.slice a7 44 c7) 44 oneF := hO7.congr (fun i hi => by
    unfold oneF
    by_cases h : i < 43
    · unfold cat; rw [if_pos (show i < 0 + 43 from h), if_pos h, if_neg (by omega), Nat.sub_zero]
    · unfold cat; rw [if_neg (show ¬ i < 0 + 43 from h), if_neg h])
  have HALL := Lib.hid (recAll_any w7.heap.size 44 c7 a7 oneF w7 (by obtain ⟨a', c', e, _, hR⟩ := hO7.rd; cases e; exact hR) (by decide))
  have HN := Lib.hid (hNB.kept hG7 (by simp))
  have HG4 := Lib.hid (grown_trans HG3.out gn)
  have HR7 := Lib.hid (HRB.out.kept (grown_trans HG4.out hG7) (by simp))
  have HG7 := Lib.hid (grown_trans (grown_trans HG1.out HG4.out) hG7)
  have HNR := Lib.hid (show RB ≠ NB by have := HRB.out.lt; have := HG3.out.size; omega)
  have HNW := Lib.hid (show w.heap.size ≤ NB by have := HG1.out.size; have := HG3.out.size; omega)
  have HRW := Lib.hid (show w.heap.size ≤ RB by have := HB.out; omega)
  have HNL := Lib.hid (show NB < w7.heap.size by have := hG7.size; omega)
  have HRL := Lib.hid (show RB < w7.heap.size from HR7.out.lt)
  clear hap5 hap7 hO5 hG5 hO7 hG7 g9 gE hE hRd hNB gn hz hNBe HO HG3 HG4
  go_wp2_with (first | (at_builtin; refine wpList_append_run rfl (.tmp 18) (.tmp 19) 39 39 rfl _ _ _ _ rfl rfl HAP5.out ?_) | (at_builtin; refine wpList_append_run rfl (.tmp 20) (.tmp 21) 39 39 rfl _ _ _ _ rfl rfl HAP7.out ?_))
  go_at_call 57
  refine HALL.out.mono ?_
  rintro e w8 ⟨⟨B, a, c, rfl, hBs, hC, hLc, hO⟩, g8⟩
  have HSEQ := Lib.hid (all_seq (8 - 1) 1 44 c B a oneF (fun x => x = NB) w8 (fun i => by unfold oneF cat; split; exact oneQ.b_lt oneQ_ok _; exact (by decide : 9 < 256)) one_n (by decide) hLc (by decide) (by have := HNL.out; omega) (fun tb o e => by
    rcases hO.ex with ⟨e2, _⟩ | ⟨q, cap, e2, _, hq⟩
    · cases e2
    · cases e2; cases e; have := HNL.out; omega) hC (by obtain ⟨a', c', e, _, hR⟩ := hO.rd; cases e; exact hR))
  have HI0 : Hid (WkI w RB NB 0 w8) := Lib.hid ⟨HR7.out.kept g8 (by simp), HN.out.kept g8 (by simp), grown_trans HG7.out g8⟩
  have HS8 := Lib.hid g8.size
  clear hBs hC hLc hO g8 HALL HAP5 HAP7 HN HR7 HG7
  go_wp2_with fail
  refine (wpIn_wide (n := 8)).1 ?_
  refine wpIn_rangeN rfl (by decide) (gf := 131) (lb := #[.pointer (some ⟨B, 0, none⟩)]) rfl trivial (enters_of Try.func131 (by kernel_rfl) rfl) HSEQ.out (fun _ => rfl)
    (WkI w RB NB) (fun _ _ _ => False) (WkI.own (by have := HRL.out; have := HS8.out; omega) (by have := HNL.out; have := HS8.out; omega) (by have := HI0.out.gr.size; omega)) (fun _ _ _ _ _ h _ _ => h) HI0.out
    (fun k act U => ∃ rb x1 x2 x6 x7 x8 x9 x10 x11 x12 x13 x14 x15 x16 x17 x18 x19 x20 x21 x22 x23 x24 x25 x26 x27 x28 x29 x30 x31 x32 x33 x34 x35 x36, act = { tmps := #[.pointer (some ⟨RB, 0, none⟩), x1, x2, .pointer (some ⟨NB, 0, none⟩), .int .i64 (43 * k : Nat), .pointer (some ⟨rb, 0, none⟩), x6, x7, x8, x9, x10, x11, x12, x13, x14, x15, x16, x17, x18, x19, x20, x21, x22, x23, x24, x25, x26, x27, x28, x29, x30, x31, x32, x33, x34, x35, x36], defers := [] } ∧ RowAt U rb 128 22 (recs oneF k).v ∧ w8.heap.size ≤ rb ∧ WkI w RB NB k U) ?_ ?_ ?_ ?_ ?_
  · intro k a' _ U U' row h hgr hr
    obtain ⟨rb, x1, x2, x6, x7, x8, x9, x10, x11, x12, x13, x14, x15, x16, x17, x18, x19, x20, x21, x22, x23, x24, x25, x26, x27, x28, x29, x30, x31, x32, x33, x34, x35, x36, rfl, h2, h3, h4⟩ := h
    refine ⟨rb, _, _, _, _, _, _, _, _, _, _, _, _, _, _, _, _, _, _, _, _, _, _, _, _, _, _, _, _, _, _, _, _, _, rfl, h2.grown hgr (fun e => ?_), h3, WkI.own (A := w8.heap.size) (by have := HRL.out; have := HS8.out; omega) (by have := HNL.out; have := HS8.out; omega) (by have := HI0.out.gr.size; omega) k U U' row h4 hgr hr⟩
    obtain ⟨_, o, ho, hc⟩ := hr _ e.symm
    rw [h2.block] at ho
    cases ho
    cases hc
  · rintro l k U K hk hI hU hK
    obtain rfl : k = 0 := by omega
    have hN := RowAt.new U 128 22 QV.zero.v _ QV.zero_row
    obtain ⟨k1, k2⟩ := RowAt.store (P := Try.prog) hN 0 128 22 (recs oneF 0).v (by decide) (by kernel_rfl) (fun j _ => QV.one _ j)
    obtain ⟨w2, hw2⟩ : ∃ W, W = (U.alloc (.cells #[.int .u8 0, .int .u8 0, .int .u8 0, .int .u8 0, .int .u8 0, .int .u8 0, .int .u8 0, .int .u8 0, .int .u8 0, .int .u8 0, .int .u8 0, .int .u8 0, .int .u8 0, .int .u8 0, .int .u8 0, .int .u8 0, .int .u8 0, .bool false, .int .u8 0, .int .u64 0, .int .u64 0, .int .u64 0] 128)).setCells U.heap.size 0 (rowOf 22 (recs oneF 0).v).toList := ⟨_, rfl⟩
    have g2 : U.grownBy w2 none := by rw [hw2]; exact grown_setCells U.heap.size (Or.inl (Nat.le_refl _)) _ 0 _ (World.grownBy_alloc U _ none)
    rw [← hw2] at k1 k2
    have hX2 := k2.congr (v' := (recs oneF 0).v) fun i hi => by rw [if_pos ⟨Nat.zero_le _, by omega⟩, Nat.sub_zero]
    have HS := Lib.hid k1
    have HX := Lib.hid hX2
    have HG := Lib.hid g2
    have HI := Lib.hid hI
    have HK := Lib.hid hK
    have HU := Lib.hid hU
    clear hN k1 k2 hw2 hX2 g2 hI hK hU
    obtain ⟨y, hy⟩ : ∃ y, y = recs oneF 0 := ⟨_, rfl⟩
    rw [← hy] at HS ⊢
    have HY := Lib.hid hy
    clear hy
    gi_wp2_with ((with_reducible refine roundIn_here ?_); refine roundIn_st (T := 128) (p := .pointer (some ⟨U.heap.size, 0, none⟩)) (v := .agg (rowOf 22 y.v)) (.tmp 5) (.tmp 25) ?_ ?_ ?_ ?_ ?_ HS.out ?_; (· rfl); (· rfl); go_simp; (· kernel_rfl); (· kernel_rfl))
    exact HK.out _ _ (KeepsOthers.of_grownBy HG.out (fun _ _ e => by cases e)) (KeepX.grown (by have := HU.out; omega) HG.out) ⟨U.heap.size, _, _, _, _, _, _, _, _, _, _, _, _, _, _, _, _, _, _, _, _, _, _, _, _, _, _, _, _, _, _, _, _, _, rfl, HX.out, by have := HU.out; omega, ⟨HI.out.res.kept HG.out (by simp), HI.out.n.kept HG.out (by simp), grown_trans HI.out.gr HG.out⟩⟩
  · rintro l k a' U hk hU ⟨rb, x1, x2, x6, x7, x8, x9, x10, x11, x12, x13, x14, x15, x16, x17, x18, x19, x20, x21, x22, x23, x24, x25, x26, x27, x28, x29, x30, x31, x32, x33, x34, x35, x36, rfl, hX, hrb, hI⟩
    obtain rfl : k = 0 := by omega
    have HX : Hid (RowAt U rb 128 22 oneQ.v) := Lib.hid ⟨by rw [← one_rec]; exact hX.block⟩
    have HI := Lib.hid hI
    have HU := Lib.hid hU
    clear hX hI hU hrb hk
    gi_wp2
    refine wpIn_region_heldR (fun W => U.grownBy W none) (by kernel_rfl) (by kernel_rfl) (by rintro ⟨_, _, h⟩; exact h) ?_
    change wpAnyH _ _ _ _ _ 7 #[false, false, false, false, false, false, false] _ (World.drew _)
    have gq := grown_drew (grown_refl U none)
    generalize World.drew U = q1 at *
    refine wpAnyH_takeD (some 26) (i := 0) (v := (.int .i64 0)) rfl rfl (by kernel_rfl) (by kernel_rfl) (by kernel_rfl) (fun _ _ _ h => h) (Or.inl ⟨rfl, fun _ _ => rfl⟩) gq ?_
    simp only [Act.put, List.setIfInBounds_toArray, List.set_cons_succ, List.set_cons_zero]
    refine wpAnyH_takeD (some 27) (i := 1) (v := (.bool false)) rfl rfl (by kernel_rfl) (by kernel_rfl) (by kernel_rfl) (fun _ _ _ h => h) (Or.inl ⟨rfl, fun _ _ => by go_simp⟩) gq ?_
    simp only [Act.put, List.setIfInBounds_toArray, List.set_cons_succ, List.set_cons_zero]
    refine wpAnyH_takeD (some 28) (i := 2) (v := (.bool false)) rfl rfl (by kernel_rfl) (by kernel_rfl) (by kernel_rfl) (fun _ _ _ h => h) (Or.inl ⟨rfl, fun _ _ => rfl⟩) gq ?_
    simp only [Act.put, List.setIfInBounds_toArray, List.set_cons_succ, List.set_cons_zero]
    refine wpAnyH_takeD (some 29) (i := 3) (v := (.agg (rowOf 22 oneQ.v))) rfl rfl (by kernel_rfl) (by kernel_rfl) (by kernel_rfl) (fun _ _ _ h => h) (Or.inl ⟨rfl, fun W hW => exec_loadQ (.tmp 5) _ _ rfl rfl ((HX.out.grown hW (by simp)).load (P := Try.prog) 0 128 22 oneQ.v (by decide) (fun j _ => by rw [Nat.zero_add]) (by kernel_rfl) (by kernel_rfl))⟩) gq ?_
    simp only [Act.put, List.setIfInBounds_toArray, List.set_cons_succ, List.set_cons_zero]
    refine wpAnyH_callD (some 30) (i := 4) 127 #[] (R := fun v W => v = .agg (rowOf 22 oneQ.v) ∧ q1.grownBy W none) (by kernel_rfl) rfl rfl rfl (exec_fn0 _ rfl) one_enters ((one_any q1).mono fun e W h => ⟨_, h.1, rfl, h.2⟩) ?_
    rintro v W3 ⟨rfl, g3⟩
    have gW := grown_trans gq g3
    refine ⟨gW, ?_⟩
    simp only [Act.put, List.setIfInBounds_toArray, List.set_cons_succ, List.set_cons_zero]
    refine wpAnyH_takeD (some 31) (i := 5) (v := (.bool false)) rfl rfl (by kernel_rfl) (by kernel_rfl) (by kernel_rfl) (fun _ _ _ h => h) (Or.inl ⟨rfl, fun W _ => exec_neR 29 30 oneQ rfl rfl rfl⟩) gW ?_
    simp only [Act.put, List.setIfInBounds_toArray, List.set_cons_succ, List.set_cons_zero]
    refine wpAnyH_takeD (some 32) (i := 6) (v := (.bool false)) rfl rfl (by kernel_rfl) (by kernel_rfl) (by kernel_rfl) (fun _ _ _ h => h) (Or.inl ⟨rfl, fun _ _ => by go_simp⟩) gW ?_
    simp only [Act.put, List.setIfInBounds_toArray, List.set_cons_succ, List.set_cons_zero]
    refine wpAnyH_done (by kernel_rfl) ?_ _
    have hn := HI.out.n.kept gW (by simp)
    have cn : W3.cell? ⟨NB, 0, none⟩ = some (.int .i64 0) := hn.cell
    have fn := hn.frozen
    have HF : Hid (postN w8.heap.size (fun x => x = NB) (WkI w RB NB) (fun _ _ _ => False) (0 + 1) U .normal { tmps := #[], defers := [] } (W3.setCell ⟨NB, 0, none⟩ (.int .i64 1))) := Lib.hid ⟨(KeepsOthers.of_grownBy gW (fun _ _ e => by cases e)).trans (KeepsOthers.setCell _ _ _), (KeepX.grown (by have := HU.out; omega) gW).trans (KeepX.into (by have := gW.size; have := HU.out; omega) (grownBy_setCell' W3 NB _) (Or.inl rfl)), ⟨(HI.out.res.kept gW (by simp)).other HNR.out _, hn.set _, grown_setCell_new (grown_trans HI.out.gr gW) _ _ (Or.inl HNW.out)⟩⟩
    clear hn gq g3 gW
    gi_wp2
    exact HF.out
  · rintro D U hD hI hDd
    have cn : U.cell? ⟨NB, 0, none⟩ = some (.int .i64 1) := hI.n.cell
    have cr : U.cell? ⟨RB, 0, none⟩ = some (.bool false) := hI.res.cell
    have fr := hI.res.frozen
    have hr2 := hI.res.set (.bool true)
    have hDl : RB ≠ D := by
      intro e
      subst e
      rw [show U.heap[RB]? = _ from hI.res] at hDd
      cases hDd
    have hD2 : (U.setCell ⟨RB, 0, none⟩ (.bool true)).heap[D]? = some (.deferred (some [])) := (heap_setCell_other _ _ _ _ (fun e => hDl e.symm)).trans hDd
    have hG : w.grownBy ((U.setCell ⟨RB, 0, none⟩ (.bool true)).putObj D (.deferred none)) none := grown_new (grown_setCell_new hI.gr _ _ (Or.inl HRW.out)) (grownBy_putObj' _ D (.deferred none)) (by have := HI0.out.gr.size; omega)
    have hR : Boxed ((U.setCell ⟨RB, 0, none⟩ (.bool true)).putObj D (.deferred none)) RB 4 (.bool true) := hr2.kept (grownBy_putObj' _ D (.deferred none)) (fun e => hDl (by cases e; rfl))
    have HD := Lib.hid hD2
    have HG := Lib.hid hG
    have HR := Lib.hid hR
    clear hD2 hG hR hDd hr2 hI hDl
    gi_wp2
    go_wp2_with fail
    refine ⟨by simp, .inl ⟨_, _, rfl, run_takeDeferred HD.out, ?_⟩⟩
    have cc := HR.out.cell
    refine ⟨.bool true, ?_, rfl, HG.out⟩
    simp [results, Try.results51]
    go_simp
  · rintro D c k U _ _ h _
    exact h.elim
end Go.Proofs.Ytdagbighlgfhjaa
namespace Go.Proofs.Ytdagbighlgfhjaa
open Go.ChangeShapes Go.WideShapes Go.ChangeAt Go.RowKit

theorem getElem?_of_take_drop {α : Type} (l : List α) (i : Nat) (x : α) (h : (l.drop i).take 1 = [x]) : l[i]? = some x := by
  have h1 : ((l.drop i).take 1)[0]? = some x := by rw [h]; rfl
  simpa using h1

/-- A table of numbers, read. -/
theorem ints_of_trod {H : Type} {enc : TypeId × Value → H} {P : Program} {w : World} {base : Nat} {spare : Nat → Bool} {held : Bool} {fuel : Nat} {t e : TypeId} {k : IntKind} {n : Nat} {cs : List Value} {d : DataW H} {ps : List MemPlace} (L : List Int)
    (ht : P.underlying t = some (.array n e)) (he : P.underlying e = some (.int k)) (hc : P.cellsOf e = 1) (hd : DataW.trod enc P w base spare held fuel t cs = some (d, ps)) (hx : d = .agg (L.map fun z => .lit (.int k z))) :
    ∀ i, i < n → cs[i]? = some (.int k (L.getD i 0)) := by
  subst hx
  obtain ⟨xs, m, rfl, hx, _, hn, hel⟩ := DataW.trod_array ht hd
  intro i hi
  have h1 := hel i hi
  rw [hc, Nat.mul_one] at h1
  have hxi : xs[i]? = some xs[i] := List.getElem?_eq_getElem (by omega)
  rw [hxi] at h1
  obtain ⟨q, e1, e2, _⟩ := DataW.trod_int he h1
  have h2 : L.map (fun z => (DataW.lit (.int k z) : DataW H)) = xs.map (·.1) := by
    have := congrArg Prod.fst hx
    simpa using this
  have h3 : (L.map (fun z => (DataW.lit (.int k z) : DataW H)))[i]? = some (.lit (.int k q)) := by
    rw [h2]; simp [hxi, e2]
  have h4 : L[i]? = some q := by
    rw [List.getElem?_map] at h3
    cases hL : L[i]? with
    | none => rw [hL] at h3; cases h3
    | some z => rw [hL] at h3; simpa using h3
  rw [List.getD, h4]
  exact getElem?_of_take_drop cs i _ e1

theorem own : ownKnob Try.prog.godebug = none := by kernel_rfl
theorem laidOut : laidOutB Try.prog = true := by kernel_rfl

end Go.Proofs.Ytdagbighlgfhjaa
namespace Go.Proofs.Ytdagbighlgfhjaa
open Go.ChangeShapes Go.WideShapes Go.ChangeAt Go.RowKit

section
variable {H : Type} {enc : TypeId × Value → H} {P : Program}

theorem open_arr8 {W : World} {t e : TypeId} {n : Nat} {r : Reach} {b0 : Nat} {v : Value} {d : DataW H} {ps : List MemPlace} (ht : P.underlying t = some (.array n e)) (he : P.underlying e = some (.int .u8)) (hc : P.cellsOf e = 1) (hn : P.cellsOf t = n)
    (hval : Value.okWide P W r b0 t v) (h : DataW.Trod enc P W 0 (fun _ => true) true t v d ps) : ∃ f, v = .agg (cellsOf .u8 n f) ∧ ∀ i, f i < 256 := by
  have hv := hval
  simp only [Value.okWide, ht] at hv
  obtain ⟨cs, rfl, hs, _⟩ := hv
  obtain ⟨fuel, hf⟩ := h
  obtain ⟨xs, m, rfl, _, hl, _, hel⟩ := DataW.trod_array ht hf
  have key : ∀ i, i < n → ∃ q : Nat, q < 256 ∧ cs[i]? = some (.int .u8 q) := fun i hi => by
    have h1 := hel i hi
    rw [hc, Nat.mul_one] at h1
    cases hx : xs[i]? with
    | none =>
      rw [hx] at h1
      have hlen : i < cs.toList.length := by
        have : cs.size = n := by rw [hs, hn]
        simp [this]; exact hi
      exfalso
      rename_i hxl
      have : xs.length ≤ i := by simpa using hx
      omega
    | some x =>
      rw [hx] at h1
      obtain ⟨q, e1, _, hw⟩ := DataW.trod_int he h1
      have h2 := getElem?_of_take_drop _ i _ e1
      simp [Lit.wf, IntKind.min, IntKind.max, IntKind.bits, IntKind.signed] at hw
      refine ⟨q.toNat, by omega, ?_⟩
      have e2 : ((q.toNat : Nat) : Int) = q := by omega
      rw [e2]
      simpa [Value.cells] using h2
  refine ⟨fun i => (match cs[i]? with | some (.int _ q) => q.toNat | _ => 0) % 256, ?_, fun i => Nat.mod_lt _ (by decide)⟩
  congr 1
  apply Array.ext
  · rw [cellsOf_size, hs, hn]
  · intro i h1 h2
    have hi : i < n := by rwa [hs, hn] at h1
    obtain ⟨q, hq, hcq⟩ := key i hi
    have e1 := cellsOf_get .u8 n (fun i => (match cs[i]? with | some (.int _ q) => q.toNat | _ => 0) % 256) i hi
    rw [Array.getElem?_eq_getElem h2] at e1
    rw [Array.getElem?_eq_getElem h1] at hcq
    injection e1 with e1
    injection hcq with hcq'
    rw [e1, hcq']
    simp only [Array.getElem?_eq_getElem h1, hcq']
    congr 1
    simp; omega

/-- A byte that comes in. -/
theorem open_u8 {W : World} {t : TypeId} {r : Reach} {b0 : Nat} {v : Value} {d : DataW H} {ps : List MemPlace} (ht : P.underlying t = some (.int .u8))
    (hval : Value.okWide P W r b0 t v) (h : DataW.Trod enc P W 0 (fun _ => true) true t v d ps) : ∃ n : Nat, v = .int .u8 n ∧ n < 256 := by
  obtain ⟨x, rfl, _, _, hx⟩ := open_int ht hval h
  simp [Lit.wf, IntKind.min, IntKind.max, IntKind.bits, IntKind.signed] at hx
  exact ⟨x.toNat, by rw [show ((x.toNat : Nat) : Int) = x by omega], by omega⟩

end
end Go.Proofs.Ytdagbighlgfhjaa
namespace Go.Proofs.Ytdagbighlgfhjaa
open Go.ChangeShapes Go.WideShapes Go.ChangeAt Go.RowKit

set_option maxRecDepth 100000

section
variable {H : Type} {enc : TypeId × Value → H} {P : Program}
theorem at_drop {cs : List Value} {i : Nat} {v : Value} (h : (cs.drop i).take 1 = [v]) : cs[i]? = some v := getElem?_of_take_drop _ i _ h
/-- A slice of numbers, out of its cell. -/
theorem open_numsW {W : World} {t e : TypeId} {k : IntKind} {fuel : Nat} {cs : List Value} {x : DataW H × List MemPlace} (ht : P.underlying t = some (.slice e)) (he : P.underlying e = some (.int k)) (hc : P.cellsOf e = 1) (h0 : (Lit.int k 0).wf = true) (hby : 1 ≤ P.bytesOf e)
    (h : DataW.trod enc P W 0 (fun _ => true) true fuel t cs = some x) (hw : ∀ y, y ∈ x.1.weights P t → y ≤ reachBytes) :
    ∃ (a : Option Addr) (n c : Nat) (z : Nat → Int), cs = [.slice a n c] ∧ n ≤ 140737488355328 ∧ (∀ i, (Lit.int k (z i)).wf = true) ∧
      (0 < n → ∃ tb o, a = some ⟨tb, o, none⟩ ∧ tb < W.heap.size ∧ ∀ i, i < n → W.cell? ⟨tb, o + i, none⟩ = some (.int k (z i))) := by
  rcases open_ints ht he hc h with ⟨h1, _⟩ | ⟨a, len, cap, zs, h1, _, hlc, _, hzl, hx, hcell, hwf⟩
  · exact ⟨none, 0, 0, fun _ => 0, h1, Nat.zero_le _, fun _ => h0, fun h => absurd h (by omega)⟩
  · have hzl' : len ≤ zs.length := by rw [hzl]; simp [hlc]
    refine ⟨some a, len, cap, fun i => zs.getD i 0, h1, ?_, fun i => ?_, fun hn => ?_⟩
    · have := hw ((min len zs.length + (zs.length - len)) * P.bytesOf e) (by
        rw [hx]
        unfold DataW.weights
        rw [ht]
        refine List.mem_cons.2 (Or.inl ?_)
        simp [lits])
      have h2 : (min len zs.length + (zs.length - len)) * 1 ≤ (min len zs.length + (zs.length - len)) * P.bytesOf e := Nat.mul_le_mul_left _ hby
      unfold reachBytes at this
      omega
    · show (Lit.int k (zs.getD i 0)).wf = true
      by_cases hi : i < zs.length
      · have e1 : zs.getD i 0 = zs[i] := by simp [List.getD, List.getElem?_eq_getElem hi]
        rw [e1]
        exact hwf zs[i] (List.getElem_mem hi)
      · have e1 : zs.getD i 0 = 0 := by simp [List.getD, List.getElem?_eq_none (Nat.le_of_not_lt hi)]
        rw [e1]; exact h0
    · have h0' := hcell 0 (by omega)
      have hspot : a.spot = none := by simpa [Addr.add] using World.cell?_spot h0'
      obtain ⟨tb, o, sp⟩ := a
      simp only at hspot
      subst hspot
      refine ⟨tb, o, rfl, ?_, fun i hi => ?_⟩
      · have := World.block_lt_of_cell? W _ h0'
        simpa [Addr.add] using this
      · have h1 := hcell i (by omega)
        rw [Addr.add_mid] at h1
        exact h1
/-- Bytes that come in, and how many. -/
theorem open_bytesW {W : World} {t e : TypeId} {r : Reach} {b0 : Nat} {v : Value} {d : DataW H} {ps : List MemPlace} (ht : P.underlying t = some (.slice e)) (he : P.underlying e = some (.int .u8)) (hc : P.cellsOf e = 1) (hby : 1 ≤ P.bytesOf e)
    (hval : Value.okWide P W r b0 t v) (h : DataW.Trod enc P W 0 (fun _ => true) true t v d ps) (hw : ∀ y, y ∈ d.weights P t → y ≤ reachBytes) :
    ∃ a n c f, v = .slice a n c ∧ n ≤ c ∧ n ≤ 140737488355328 ∧ Rd W W.heap.size a n f ∧ ∀ i, f i < 256 := by
  obtain ⟨a0, len, cap, rfl⟩ := okWide_slice ht hval
  obtain ⟨fuel, hf⟩ := h
  obtain ⟨a, n, c, z, h1, hb, hwf, hcell⟩ := open_numsW ht he hc (by rfl) hby hf hw
  simp [Value.cells] at h1
  obtain ⟨rfl, rfl, rfl⟩ := h1
  have hlc : len ≤ cap := by
    rcases open_ints ht he hc hf with ⟨h2, _⟩ | ⟨_, _, _, _, h2, _, h3, _⟩
    · simp [Value.cells] at h2
      omega
    · simp [Value.cells] at h2
      omega
  have wb : ∀ i, 0 ≤ z i ∧ z i < 256 := fun i => by have := hwf i; simp [Lit.wf, IntKind.min, IntKind.max, IntKind.bits, IntKind.signed] at this; omega
  refine ⟨a0, len, cap, fun i => (z i).toNat, rfl, hlc, hb, ⟨fun hn => ?_⟩, fun i => by have := wb i; show (z i).toNat < 256; omega⟩
  obtain ⟨tb, o, e1, e2, e3⟩ := hcell hn
  refine ⟨tb, o, e1, e2, fun i hi => ?_⟩
  have := wb i
  rw [e3 i hi]
  show some (Value.int .u8 (z i)) = some (Value.int .u8 (((z i).toNat : Nat) : Int))
  rw [show (((z i).toNat : Nat) : Int) = z i by omega]
end
end Go.Proofs.Ytdagbighlgfhjaa
namespace Go.Proofs.Ytdagbighlgfhjaa
open Go.ChangeShapes Go.WideShapes Go.ChangeAt Go.RowKit

set_option maxRecDepth 100000
set_option maxHeartbeats 4000000

theorem QV.zero_ok : QV.zero.Ok := ⟨fun _ => (by decide : 0 < 256), by decide, by decide, by decide, by decide, by decide⟩
/-- Records that can be read. -/
structure RdQ (w : World) (D : Nat) (a : Option Addr) (n : Nat) (X : Nat → QV) : Prop where
  ex : 0 < n → ∃ tb o, a = some ⟨tb, o, none⟩ ∧ tb < D ∧ ∀ i j, i < n → j < 22 → w.cell? ⟨tb, o + (i * 22 + j), none⟩ = some ((X i).v j)
section
variable {H : Type} {enc : TypeId × Value → H} {P : Program}
theorem trod_st7 {W : World} {base : Nat} {spare : Nat → Bool} {held : Bool} {t : TypeId} {f0 f1 f2 f3 f4 f5 f6 : Field} {fuel : Nat} {cs : List Value} {x : DataW H × List MemPlace} (ht : P.underlying t = some (.struct #[f0, f1, f2, f3, f4, f5, f6])) (h : DataW.trod enc P W base spare held fuel t cs = some x) :
    ∃ y0 y1 y2 y3 y4 y5 y6 n, DataW.trod enc P W base spare held n f0.type ((cs.drop f0.offset).take (P.cellsOf f0.type)) = some y0 ∧ DataW.trod enc P W base spare held n f1.type ((cs.drop f1.offset).take (P.cellsOf f1.type)) = some y1 ∧ DataW.trod enc P W base spare held n f2.type ((cs.drop f2.offset).take (P.cellsOf f2.type)) = some y2 ∧ DataW.trod enc P W base spare held n f3.type ((cs.drop f3.offset).take (P.cellsOf f3.type)) = some y3 ∧ DataW.trod enc P W base spare held n f4.type ((cs.drop f4.offset).take (P.cellsOf f4.type)) = some y4 ∧ DataW.trod enc P W base spare held n f5.type ((cs.drop f5.offset).take (P.cellsOf f5.type)) = some y5 ∧ DataW.trod enc P W base spare held n f6.type ((cs.drop f6.offset).take (P.cellsOf f6.type)) = some y6 := by
  obtain ⟨xs, n, _, rfl, hl, hlen, hf⟩ := DataW.trod_struct ht h
  match xs, hlen with
  | [y0, y1, y2, y3, y4, y5, y6], _ => exact ⟨y0, y1, y2, y3, y4, y5, y6, n, by simpa using hf 0 f0 rfl, by simpa using hf 1 f1 rfl, by simpa using hf 2 f2 rfl, by simpa using hf 3 f3 rfl, by simpa using hf 4 f4 rfl, by simpa using hf 5 f5 rfl, by simpa using hf 6 f6 rfl⟩
/-- An array of bytes among cells. -/
theorem trod_arr8 {W : World} {t e : TypeId} {n o fuel : Nat} {cs : List Value} {x : DataW H × List MemPlace} (ht : P.underlying t = some (.array n e)) (he : P.underlying e = some (.int .u8)) (hc : P.cellsOf e = 1)
    (h : DataW.trod enc P W 0 (fun _ => true) true fuel t ((cs.drop o).take n) = some x) : ∃ f : Nat → Nat, (∀ i, f i < 256) ∧ ∀ i, i < n → cs[o + i]? = some (.int .u8 (f i)) := by
  obtain ⟨xs, m, rfl, _, _, hxl, hel⟩ := DataW.trod_array ht h
  have key : ∀ i, i < n → ∃ q : Nat, q < 256 ∧ cs[o + i]? = some (.int .u8 q) := fun i hi => by
    have h1 := hel i hi
    rw [hc, Nat.mul_one] at h1
    have hx : ∃ y, xs[i]? = some y := ⟨xs[i]'(by omega), List.getElem?_eq_getElem (by omega)⟩
    obtain ⟨y, hx⟩ := hx
    rw [hx] at h1
    obtain ⟨q, e1, _, hw⟩ := DataW.trod_int he h1
    have h2 := getElem?_of_take_drop _ i _ e1
    simp [Lit.wf, IntKind.min, IntKind.max, IntKind.bits, IntKind.signed] at hw
    refine ⟨q.toNat, by omega, ?_⟩
    have e2 : ((q.toNat : Nat) : Int) = q := by omega
    rw [e2, ← h2, List.getElem?_take, if_pos hi, List.getElem?_drop]
  refine ⟨fun i => (match cs[o + i]? with | some (.int _ q) => q.toNat | _ => 0) % 256, fun i => Nat.mod_lt _ (by decide), fun i hi => ?_⟩
  obtain ⟨q, hq, hcq⟩ := key i hi
  have e : (match cs[o + i]? with | some (.int _ q) => q.toNat | _ => 0) = q := by rw [hcq]; rfl
  show cs[o + i]? = some (.int .u8 (((match cs[o + i]? with | some (.int _ q) => q.toNat | _ => 0) % 256 : Nat) : Int))
  rw [e, Nat.mod_eq_of_lt hq]
  exact hcq
theorem sub_cells (cs : List Value) (o n k m : Nat) (h : k + m ≤ n) : (((cs.drop o).take n).drop k).take m = (cs.drop (o + k)).take m := by
  rw [List.drop_take, List.take_take, List.drop_drop]
  congr 1
  omega
end
theorem nat_of_u8 {q : Int} (h : (Lit.int .u8 q).wf = true) : ∃ n : Nat, q = (n : Int) ∧ n < 256 := by
  simp [Lit.wf, IntKind.min, IntKind.max, IntKind.bits, IntKind.signed] at h
  exact ⟨q.toNat, by omega, by omega⟩
theorem nat_of_u64 {q : Int} (h : (Lit.int .u64 q).wf = true) : ∃ n : Nat, q = (n : Int) ∧ n < 18446744073709551616 := by
  simp [Lit.wf, IntKind.min, IntKind.max, IntKind.bits, IntKind.signed] at h
  exact ⟨q.toNat, by omega, by omega⟩
section
variable {H : Type} {enc : TypeId × Value → H} {W : World} {cs : List Value} {fuel o : Nat} {y : DataW H × List MemPlace}
theorem o_u8 (h : DataW.trod enc Try.prog W 0 (fun _ => true) true fuel 5 ((cs.drop o).take 1) = some y) : ∃ q : Nat, cs[o]? = some (.int .u8 q) ∧ q < 256 := by
  obtain ⟨z, r, _, hw⟩ := DataW.trod_int Try.underlying5 h
  obtain ⟨q, rfl, hq⟩ := nat_of_u8 hw
  exact ⟨q, at_drop r, hq⟩
theorem o_u64 (h : DataW.trod enc Try.prog W 0 (fun _ => true) true fuel 24 ((cs.drop o).take 1) = some y) : ∃ q : Nat, cs[o]? = some (.int .u64 q) ∧ q < 18446744073709551616 := by
  obtain ⟨z, r, _, hw⟩ := DataW.trod_int Try.underlying24 h
  obtain ⟨q, rfl, hq⟩ := nat_of_u64 hw
  exact ⟨q, at_drop r, hq⟩
theorem o_bool (h : DataW.trod enc Try.prog W 0 (fun _ => true) true fuel 4 ((cs.drop o).take 1) = some y) : ∃ q : Bool, cs[o]? = some (.bool q) := by
  obtain ⟨q, r, _⟩ := DataW.trod_bool Try.underlying4 h
  exact ⟨q, at_drop r⟩
theorem o_id (h : DataW.trod enc Try.prog W 0 (fun _ => true) true fuel 23 ((cs.drop o).take 16) = some y) : ∃ f : Nat → Nat, (∀ i, f i < 256) ∧ ∀ i, i < 16 → cs[o + i]? = some (.int .u8 (f i)) := trod_arr8 (t := 23) (n := 16) (e := 5) (by kernel_rfl) Try.underlying5 (by kernel_rfl) h
theorem o_rec (h : DataW.trod enc Try.prog W 0 (fun _ => true) true fuel 128 ((cs.drop o).take 22) = some y) : ∃ x : QV, x.Ok ∧ ∀ i, i < 22 → cs[o + i]? = some (x.v i) := by
  obtain ⟨y0, y1, y2, y3, y4, y5, y6, n, q0, q1, q2, q3, q4, q5, q6⟩ := trod_st7 Try.underlying128 h
  replace q0 : DataW.trod enc Try.prog W 0 (fun _ => true) true n 23 ((cs.drop (o + 0)).take 16) = some y0 := by rw [← sub_cells cs o 22 0 16 (by decide)]; exact q0
  replace q1 : DataW.trod enc Try.prog W 0 (fun _ => true) true n 5 ((cs.drop (o + 16)).take 1) = some y1 := by rw [← sub_cells cs o 22 16 1 (by decide)]; exact q1
  replace q2 : DataW.trod enc Try.prog W 0 (fun _ => true) true n 4 ((cs.drop (o + 17)).take 1) = some y2 := by rw [← sub_cells cs o 22 17 1 (by decide)]; exact q2
  replace q3 : DataW.trod enc Try.prog W 0 (fun _ => true) true n 5 ((cs.drop (o + 18)).take 1) = some y3 := by rw [← sub_cells cs o 22 18 1 (by decide)]; exact q3
  replace q4 : DataW.trod enc Try.prog W 0 (fun _ => true) true n 24 ((cs.drop (o + 19)).take 1) = some y4 := by rw [← sub_cells cs o 22 19 1 (by decide)]; exact q4
  replace q5 : DataW.trod enc Try.prog W 0 (fun _ => true) true n 24 ((cs.drop (o + 20)).take 1) = some y5 := by rw [← sub_cells cs o 22 20 1 (by decide)]; exact q5
  replace q6 : DataW.trod enc Try.prog W 0 (fun _ => true) true n 24 ((cs.drop (o + 21)).take 1) = some y6 := by rw [← sub_cells cs o 22 21 1 (by decide)]; exact q6
  obtain ⟨f, hf, hc⟩ := o_id q0
  obtain ⟨pe, h1, h1'⟩ := o_u8 q1
  obtain ⟨ou, h2⟩ := o_bool q2
  obtain ⟨oc, h3, h3'⟩ := o_u8 q3
  obtain ⟨bg, h4, h4'⟩ := o_u64 q4
  obtain ⟨an, h5, h5'⟩ := o_u64 q5
  obtain ⟨en, h6, h6'⟩ := o_u64 q6
  refine ⟨⟨f, pe, ou, oc, bg, an, en⟩, ⟨hf, h1', h3', h4', h5', h6'⟩, fun i hi => ?_⟩
  by_cases i0 : i < 16
  · unfold QV.v
    rw [if_pos i0]
    exact hc i i0
  · obtain rfl | rfl | rfl | rfl | rfl | rfl : i = 16 ∨ i = 17 ∨ i = 18 ∨ i = 19 ∨ i = 20 ∨ i = 21 := by omega
    · exact h1
    · exact h2
    · exact h3
    · exact h4
    · exact h5
    · exact h6
theorem o_recs (h : DataW.trod enc Try.prog W 0 (fun _ => true) true fuel 129 ((cs.drop o).take 1) = some y) (hw : ∀ z, z ∈ y.1.weights Try.prog 129 → z ≤ reachBytes) : ∃ (a : Option Addr) (n c : Nat) (X : Nat → QV), cs[o]? = some (.slice a n c) ∧ n ≤ c ∧ n ≤ 140737488355328 ∧ (∀ i, (X i).Ok) ∧ RdQ W W.heap.size a n X := by
  have ht := Try.underlying129
  rcases Deep.open_slice ht h with ⟨h1, _⟩ | ⟨a, len, cap, m, n, D, Pl, h1, _, hlc, hmx, hmm, hd, hx⟩
  · exact ⟨none, 0, 0, fun _ => QV.zero, at_drop h1, Nat.zero_le _, Nat.zero_le _, fun _ => QV.zero_ok, ⟨fun h => absurd h (by decide)⟩⟩
  · have hmc : m = cap := by simpa using hmm
    have hdd : y.1 = .slice ((List.range len).map D) ((List.range (m - len)).map fun j => D (len + j)) := congrArg Prod.fst hd
    have hwd : DataW.weights Try.prog 129 y.1 = (((List.range len).map D).length + ((List.range (m - len)).map fun j => D (len + j)).length) * Try.prog.bytesOf 128 :: (DataW.weightsAll Try.prog 128 ((List.range len).map D) ++ DataW.weightsAll Try.prog 128 ((List.range (m - len)).map fun j => D (len + j))) := by
      rw [hdd]
      conv => lhs; unfold DataW.weights
      rw [ht]
    have hlen : len ≤ 140737488355328 := by
      have h1 := hw _ (by rw [hwd]; exact List.mem_cons_self ..)
      simp only [List.length_map, List.length_range] at h1
      have h2 : (len + (m - len)) * 1 ≤ (len + (m - len)) * Try.prog.bytesOf 128 := Nat.mul_le_mul_left _ (by rw [show Try.prog.bytesOf 128 = 48 by kernel_rfl]; decide)
      unfold reachBytes at h1
      omega
    have cu : Try.prog.cellsOf 128 = 22 := by kernel_rfl
    have hspot0 : 0 < len → a.spot = none := fun h0 => by
      obtain ⟨cs', g1, _⟩ := hx 0 (by omega)
      rw [cu] at g1
      obtain ⟨_, hl5, hc⟩ := World.cells?_some g1
      have c0 := hc 0 (by omega)
      obtain ⟨v0, hv0⟩ : ∃ v, cs'[0]? = some v := ⟨_, List.getElem?_eq_getElem (by omega)⟩
      rw [hv0] at c0
      simpa [Addr.add] using World.cell?_spot c0
    have key : ∀ i, ∃ f : QV, f.Ok ∧ (i < len → a.spot = none ∧ ∀ j, j < 22 → W.cell? ⟨a.block, a.off + (i * 22 + j), none⟩ = some (f.v j)) := fun i => by
      by_cases hi : i < len
      · obtain ⟨cs', g1, g2⟩ := hx i (by omega)
        rw [cu] at g1
        obtain ⟨_, hl5, hc⟩ := World.cells?_some g1
        obtain ⟨f, hf, hq⟩ := o_rec (o := 0) (cs := cs') (by
          rw [List.drop_zero, List.take_of_length_le (by omega)]
          exact g2)
        have hspot := hspot0 (by omega)
        obtain ⟨tb', o', sp⟩ := a
        simp only at hspot
        subst hspot
        refine ⟨f, hf, fun _ => ⟨rfl, fun j hj => ?_⟩⟩
        have c := hc j (by omega)
        rw [Addr.add_mid, Addr.add_mid] at c
        have e := hq j hj
        rw [Nat.zero_add] at e
        rw [e] at c
        rw [← Nat.add_assoc]
        exact c
      · exact ⟨QV.zero, QV.zero_ok, fun h => absurd h hi⟩
    obtain ⟨fm, hfm⟩ := Classical.axiomOfChoice key
    refine ⟨some a, len, cap, fm, at_drop h1, hlc, hlen, fun i => (hfm i).1, ⟨fun h0 => ?_⟩⟩
    have h2 := (hfm 0).2 h0
    have hlt := World.block_lt_of_cell? W _ (h2.2 0 (by decide))
    obtain ⟨tb', o', sp⟩ := a
    have hspot := h2.1
    simp only at hspot
    subst hspot
    exact ⟨tb', o', rfl, hlt, fun i j hi hj => ((hfm i).2 hi).2 j hj⟩
end
theorem open_rec {H : Type} {enc : TypeId × Value → H} {W : World} {v : Value} {d : DataW H} {ps : List MemPlace} {r : Reach} {b0 : Nat}
    (hval : Value.okWide Try.prog W r b0 128 v) (h : DataW.Trod enc Try.prog W 0 (fun _ => true) true 128 v d ps) :
    ∃ x : QV, v = .agg (rowOf 22 x.v) ∧ x.Ok := by
  have hu := Try.underlying128
  have hv := hval
  simp only [Value.okWide, hu] at hv
  obtain ⟨cs, rfl, hs, _⟩ := hv
  have hsz : cs.size = 22 := by rw [hs]; kernel_rfl
  obtain ⟨fuel, hf⟩ := h
  obtain ⟨x, hok, hc⟩ := o_rec (W := W) (cs := cs.toList) (o := 0) (y := (d, ps)) (by
    rw [List.drop_zero, List.take_of_length_le (by rw [Array.length_toList, hsz]; exact Nat.le_refl _)]
    exact hf)
  refine ⟨x, ?_, hok⟩
  congr 1
  apply Array.ext
  · rw [hsz, rowOf_size]
  · intro i h1 h2
    have hi : i < 22 := by omega
    have e1 := hc i hi
    rw [Nat.zero_add, Array.getElem?_toList, Array.getElem?_eq_getElem h1] at e1
    have e2 := rowOf_get 22 x.v i hi
    rw [Array.getElem?_eq_getElem h2] at e2
    exact (Option.some.inj e1).trans (Option.some.inj e2).symm
theorem open_recs {H : Type} {enc : TypeId × Value → H} {W : World} {v : Value} {d : DataW H} {ps : List MemPlace} {r : Reach} {b0 : Nat}
    (hval : Value.okWide Try.prog W r b0 129 v) (h : DataW.Trod enc Try.prog W 0 (fun _ => true) true 129 v d ps) (hw : ∀ y, y ∈ d.weights Try.prog 129 → y ≤ reachBytes) :
    ∃ a n c X, v = .slice a n c ∧ n ≤ c ∧ n ≤ 140737488355328 ∧ (∀ i, (X i).Ok) ∧ RdQ W W.heap.size a n X := by
  obtain ⟨a0, len, cap, rfl⟩ := okWide_slice Try.underlying129 hval
  obtain ⟨fuel, hf⟩ := h
  obtain ⟨a, n, c, X, h1, h2, h3, h4, h5⟩ := o_recs (W := W) (cs := (Value.slice a0 len cap).cells.toList) (o := 0) (y := (d, ps)) (by rw [List.drop_zero]; exact hf) hw
  simp [Value.cells] at h1
  obtain ⟨rfl, rfl, rfl⟩ := h1
  exact ⟨_, _, _, X, rfl, h2, h3, h4, h5⟩
end Go.Proofs.Ytdagbighlgfhjaa
namespace Go.Proofs.Ytdagbighlgfhjaa
open Go.RowKit

set_option maxRecDepth 100000
set_option maxHeartbeats 4000000

theorem RdQ.grown {w w' : World} {D n : Nat} {a : Option Addr} {X : Nat → QV} (h : RdQ w D a n X) {row : Option Nat} (g : w.grownBy w' row) (hr : ∀ k, row = some k → D ≤ k) : RdQ w' D a n X where
  ex := fun hn => by
    obtain ⟨tb, o, h1, h2, h3⟩ := h.ex hn
    exact ⟨tb, o, h1, h2, fun i j hi hj => g.cell (h3 i j hi hj) (fun e => by have := hr tb e.symm; omega)⟩
/-- A record out of its cells. -/
theorem load_cells {w : World} {B o : Nat} {x : QV} (h : ∀ j, j < 22 → w.cell? ⟨B, o + j, none⟩ = some (x.v j)) : (Instr.loadAt 128 (.pointer (some ⟨B, o, none⟩))).run Try.prog w = .ok (.agg (rowOf 22 x.v)) w := by
  obtain ⟨d, e1, k1⟩ := under_row (P := Try.prog) (T := 128) (by kernel_rfl)
  have := run_loadAt_mid (P := Try.prog) w B o 128 (rowOf 22 x.v).toList d (fun j y hy => by
    have hj : j < 22 := by
      have := (List.getElem?_eq_some_iff.1 hy).1
      simpa [rowOf] using this
    rw [Array.getElem?_toList, rowOf_get _ _ _ hj] at hy
    cases hy
    exact h j hj) e1 (by cases d <;> first | rfl | exact k1) (by rw [Array.length_toList, rowOf_size]; kernel_rfl)
  simpa using this
/-- What stands between two rounds of a loop over the records that are compared with others. -/
structure LpI (w : World) (RB NB WB : Nat) (aw : Option Addr) (N cw : Nat) (X : Nat → QV) (k : Nat) (U : World) : Prop where
  res : Boxed U RB 4 (.bool false)
  n : Boxed U NB 3 (.int .i64 (k : Nat))
  want : Boxed U WB 129 (.slice aw N cw)
  rows : RdQ U NB aw N X
  gr : w.grownBy U none
section
variable {w : World} {RB NB WB : Nat} {aw : Option Addr} {N cw : Nat} {X : Nat → QV} {k : Nat} {U U' : World}
theorem LpI.keep {A : Nat} {row : Option Nat} (h : LpI w RB NB WB aw N cw X k U) (h1 : RB < A ∧ NB < A ∧ WB < A ∧ w.heap.size ≤ A) (hg : U.grownBy U' row) (hr : ∀ r, row = some r → A ≤ r) : LpI w RB NB WB aw N cw X k U' :=
  ⟨h.res.kept hg (fun e => by have := hr _ e.symm; omega), h.n.kept hg (fun e => by have := hr _ e.symm; omega), h.want.kept hg (fun e => by have := hr _ e.symm; omega), h.rows.grown hg (fun r e => by have := hr r e; omega), by
    cases row with
    | none => exact grown_trans h.gr hg
    | some r => exact grown_new h.gr hg (by have := hr r rfl; omega)⟩
theorem LpI.next (h : LpI w RB NB WB aw N cw X k U) (h1 : RB ≠ NB) (h2 : WB ≠ NB) (h3 : w.heap.size ≤ NB) : LpI w RB NB WB aw N cw X (k + 1) (U.setCell ⟨NB, 0, none⟩ (.int .i64 ((k + 1 : Nat) : Int))) :=
  ⟨h.res.other h1 _, h.n.set _, h.want.other h2 _, h.rows.grown (grownBy_setCell' U NB _) (fun r e => by cases e; exact Nat.le_refl _), grown_setCell_new h.gr _ _ (Or.inl h3)⟩
end
theorem fin_mem {w U : World} {RB A D : Nat} (b : Bool) (h1 : RB < A) (h2 : w.heap.size ≤ RB) (hD : A ≤ D) (hr : Boxed U RB 4 (.bool false)) (hg : w.grownBy U none) (hd : U.heap[D]? = some (.deferred (some []))) :
    (U.setCell ⟨RB, 0, none⟩ (.bool b)).heap[D]? = some (.deferred (some [])) ∧ Boxed ((U.setCell ⟨RB, 0, none⟩ (.bool b)).putObj D (.deferred none)) RB 4 (.bool b) ∧ w.grownBy ((U.setCell ⟨RB, 0, none⟩ (.bool b)).putObj D (.deferred none)) none :=
  ⟨(heap_setCell_other _ _ _ _ (fun e => by have e : D = RB := e; omega)).trans hd, (hr.set (.bool b)).kept (grownBy_putObj' _ D (.deferred none)) (fun e => by cases e; omega), grown_new (grown_setCell_new hg _ _ (Or.inl h2)) (grownBy_putObj' _ D (.deferred none)) (by omega)⟩
end Go.Proofs.Ytdagbighlgfhjaa
namespace Go.Proofs.Ytdagbighlgfhjaa
open Go.RowKit

section
variable {P : Program} {md : Region.Mode} {ops : Array Oper} {Q : Exit → Act → World → Prop} {S : World → Prop}
/-- The head (operations below n), in whatever order; S holds behind each of it; then L. -/
def wpAnyT (P : Program) (md : Region.Mode) (ops : Array Oper) (Q : Exit → Act → World → Prop) (S : World → Prop) (n : Nat) (L : Array Bool → Act → World → Prop) : Nat → Array Bool → Act → World → Prop
  | 0, listed, a, w => L listed a w
  | f + 1, listed, a, w => Region.ready md ops listed ≠ [] ∧ ∀ i ∈ Region.ready md ops listed, i < n ∧ wpOp P ops Q i (fun a' w' => S w' ∧ wpAnyT P md ops Q S n L f (listed.setIfInBounds i true) a' w') a w
theorem wpAny_of_T {n g : Nat} {L : Array Bool → Act → World → Prop} (hL : ∀ listed a w, L listed a w → wpAny P md ops Q g listed a w) :
    ∀ (f : Nat) (listed : Array Bool) (a : Act) (w : World), wpAnyT P md ops Q S n L f listed a w → wpAny P md ops Q (f + g) listed a w
  | 0, listed, a, w, h => by rw [Nat.zero_add]; exact hL _ _ _ h
  | f + 1, listed, a, w, h => by
    rw [show f + 1 + g = (f + g) + 1 by omega]
    exact ⟨fun h0 => absurd h0 h.1, fun i hi => wpOp_mono (fun a' w' h' => wpAny_of_T hL f _ a' w' h'.2) (h.2 i hi).2⟩
theorem wpAnyT_first {n i : Nat} {oi : Oper} {v : Value} {L : Array Bool → Act → World → Prop} (hi : ops[i]? = some oi) (hsel : ∀ (j : Nat) (o : Oper) cs b, ops[j]? = some o → o.op ≠ .select cs b)
    (hs : Region.sinkB md ops n = true) (hc : Region.chainB md ops n = true) (hn : n < ops.size) (hin : i < n)
    (hdone : ∀ listed a w, L listed a w → ∀ j ∈ Region.ready md ops listed, n ≤ j) (hQ : ∀ c a w, Q (.panic c) (a.put oi.dst v) w → Q (.panic c) a w) :
    ∀ (f : Nat) (listed : Array Bool) (a : Act) (w : World), HeadInv md ops n listed →
      (∀ j oj, ops[j]? = some oj → j ≠ i → listed.getD j true = false → (∀ e ∈ oj.after, Region.binds md e = true → e.on ≠ i) → oi.apart ops oj = true) →
      i ∈ Region.ready md ops listed → YieldsIf P ops S oi v a → S w →
      wpAnyT P md ops Q S n L f (listed.setIfInBounds i true) (a.put oi.dst v) w → wpAnyT P md ops Q S n L (f + 1) listed a w := by
  intro f
  induction f with
  | zero =>
    intro listed a w inv _ hr hy hS H
    have hun := (mem_ready.1 hr).1
    refine ⟨fun h => (by rw [h] at hr; cases hr), fun j hj => ?_⟩
    have hjn : j < n := by
      rcases Nat.lt_or_ge j n with h | h
      · exact h
      · exact absurd hj (tail_waits hs hc hn inv _ i rfl hin hun j h)
    refine ⟨hjn, ?_⟩
    by_cases hji : j = i
    · subst hji; exact hy.wpOp hi hS ⟨hS, H⟩
    · have := hdone _ _ _ H j (ready_mono hj hji)
      omega
  | succ f ih =>
    intro listed a w inv hfree hr hy hS H
    have hun := (mem_ready.1 hr).1
    refine ⟨fun h => (by rw [h] at hr; cases hr), fun j hj => ?_⟩
    have hjn : j < n := by
      rcases Nat.lt_or_ge j n with h | h
      · exact h
      · exact absurd hj (tail_waits hs hc hn inv _ i rfl hin hun j h)
    refine ⟨hjn, ?_⟩
    by_cases hji : j = i
    · subst hji; exact hy.wpOp hi hS ⟨hS, H⟩
    · have h1 := (H.2 j (ready_mono hj hji)).2
      obtain ⟨hjun, oj, hoj, hall⟩ := mem_ready.1 hj
      have hnot : ∀ e ∈ oj.after, Region.binds md e = true → e.on ≠ i := fun e he hb heq => by
        have h1 := hall e he hb
        rw [heq, getD_both hun] at h1
        cases h1
      have h2 := wpOp_putIf hoj (hfree j oj hoj hji hjun hnot) (fun cs b => hsel i oi cs b hi) (fun cs b => hsel j oj cs b hoj) hQ hy h1
      have hfree' : ∀ k ok, ops[k]? = some ok → k ≠ i → (listed.setIfInBounds j true).getD k true = false →
          (∀ e ∈ ok.after, Region.binds md e = true → e.on ≠ i) → oi.apart ops ok = true := fun k ok hk hki hun hno => by
        refine hfree k ok hk hki ?_ hno
        by_cases hjk : j = k
        · subst hjk; exact hjun
        · rw [getD_set_ne true hjk] at hun; exact hun
      refine wpOp_mono (fun a' w' h3 => ⟨h3.2.1, ih (listed.setIfInBounds j true) a' w' (inv.set hj hjn) hfree' (ready_mono hr (Ne.symm hji)) h3.1 h3.2.1 ?_⟩) h2
      rw [Array.setIfInBounds_comm _ _ hji]
      exact h3.2.2
variable {n i f : Nat} {L : Array Bool → Act → World → Prop} {oi : Oper} {listed : Array Bool} {a : Act} {w : World}
theorem wpAnyT_take {v : Value} (d : Option Tmp) (inv : HeadInv md ops n listed) (hi : ops[i]? = some oi) (hd : oi.dst = d) (hsel : Region.noSelect ops = true) (hs : Region.sinkB md ops n = true) (hc : Region.chainB md ops n = true) (hn : n < ops.size) (hin : i < n)
    (hdone : ∀ listed a w, L listed a w → ∀ j ∈ Region.ready md ops listed, n ≤ j) (hf : Region.free md ops listed i = true) (hr : (Region.ready md ops listed).contains i = true)
    (hQ : ∀ c a w, Q (.panic c) (a.put oi.dst v) w → Q (.panic c) a w) (hy : YieldsIf P ops S oi v a) (hS : S w)
    (h : HeadInv md ops n (listed.setIfInBounds i true) → wpAnyT P md ops Q S n L f (listed.setIfInBounds i true) (a.put d v) w) : wpAnyT P md ops Q S n L (f + 1) listed a w := by
  subst hd
  have hr' : i ∈ Region.ready md ops listed := by simpa using hr
  exact wpAnyT_first hi (Region.noSelect_spec hsel) hs hc hn hin hdone hQ f listed a w inv (Region.free_spec hi hf) hr' hy hS (h (inv.set hr' hin))
theorem wpAnyT_one (hr : Region.ready md ops listed = [i]) (hin : i < n) (h : wpOp P ops Q i (fun a' w' => S w' ∧ wpAnyT P md ops Q S n L f (listed.setIfInBounds i true) a' w') a w) : wpAnyT P md ops Q S n L (f + 1) listed a w :=
  ⟨by rw [hr]; simp, fun j hj => by
    rw [hr] at hj
    obtain rfl : j = i := by simpa using hj
    exact ⟨hin, h⟩⟩
theorem wpAnyT_both {j : Nat} (hr : Region.ready md ops listed = [i, j]) (hin : i < n) (hjn : j < n) (h1 : wpOp P ops Q i (fun a' w' => S w' ∧ wpAnyT P md ops Q S n L f (listed.setIfInBounds i true) a' w') a w)
    (h2 : wpOp P ops Q j (fun a' w' => S w' ∧ wpAnyT P md ops Q S n L f (listed.setIfInBounds j true) a' w') a w) : wpAnyT P md ops Q S n L (f + 1) listed a w :=
  ⟨by rw [hr]; simp, fun k hk => by
    rw [hr] at hk
    rcases (by simpa using hk : k = i ∨ k = j) with rfl | rfl
    · exact ⟨hin, h1⟩
    · exact ⟨hjn, h2⟩⟩
theorem headInv_start (n : Nat) : HeadInv md ops n (Array.replicate ops.size false) :=
  ⟨by simp, fun j oj _ hl => (by rw [getD_replicate_false] at hl; cases hl), fun t _ ht => getD_in (by simpa using ht) (getD_replicate_false _ _)⟩
/-- What is left when the head is done. -/
def TailH (P : Program) (md : Region.Mode) (ops : Array Oper) (Q : Exit → Act → World → Prop) (g : Nat) (lt : Array Bool) (listed : Array Bool) (a : Act) (w : World) : Prop := listed = lt ∧ wpAnyH P md ops Q (fun _ => True) g listed a w
theorem tailH_done {g k : Nat} {lt : Array Bool} (hr : Region.ready md ops lt = [k]) (hk : n ≤ k) : ∀ listed a w, TailH P md ops Q g lt listed a w → ∀ j ∈ Region.ready md ops listed, n ≤ j := fun listed a w h j hj => by
  rw [h.1, hr] at hj
  obtain rfl : j = k := by simpa using hj
  exact hk
theorem wp_region_head {ops : Array Oper} {id : Nat} (S : World → Prop) (n g : Nat) (lt : Array Bool) (hm : P.follows .mixedOrders = true) (hsz : n + g = ops.size) (h : wpAnyT P .any ops Q S n (TailH P .any ops Q g lt) n (Array.replicate ops.size false) a w.drew) : (Code.region id ops true).wp P Q a w := by
  refine wp_region_any hm ?_
  rw [← hsz]
  have := wpAny_of_T (fun listed a w h => wpAny_of_held _ _ _ _ h.2) n _ _ _ h
  rw [← hsz] at this
  exact this
end
end Go.Proofs.Ytdagbighlgfhjaa
namespace Go.Proofs.Ytdagbighlgfhjaa
open Go.RowKit

set_option maxRecDepth 100000
set_option maxHeartbeats 4000000

/-- What stands between two records that are put: all bytes, and those that were kept. -/
structure BkI (w : World) (RB KB m s : Nat) (aa : Option Addr) (ca : Nat) (ak : Option Addr) (ck : Nat) (FA : Nat → Nat) (Y : Nat → QV) (U : World) : Prop where
  res : Boxed U RB 4 (.bool false)
  kept : Boxed U KB 129 (.slice ak m ck)
  all : OwnN U w.heap.size (.slice aa s ca) s FA
  rows : OwnNE U w.heap.size 22 (.slice ak m ck) m (fun q j => (Y q).v j)
  apart : ∀ p q, aa = some ⟨p, 0, none⟩ → ak = some ⟨q, 0, none⟩ → p ≠ q
  aK : ∀ p, aa = some ⟨p, 0, none⟩ → p ≠ KB ∧ p ≠ RB
  kK : ∀ p, ak = some ⟨p, 0, none⟩ → p ≠ KB ∧ p ≠ RB
  at_ : s = 43 * m
  eq : ∀ q j, q < m → j < 43 → FA (43 * q + j) = (Y q).bytes j
  ok : ∀ q, q < m → (Y q).Ok ∧ (Y q).may = true
  lt : ∀ i, FA i < 256
  gr : w.grownBy U none
/-- The bytes were appended; a record lies at X. -/
structure Mid (w : World) (RB KB m s : Nat) (a2 : Option Addr) (c2 : Nat) (ak : Option Addr) (ck : Nat) (FA : Nat → Nat) (Y : Nat → QV) (y : QV) (W : World) : Prop where
  res : Boxed W RB 4 (.bool false)
  kept : Boxed W KB 129 (.slice ak m ck)
  all : OwnN W w.heap.size (.slice a2 (s + 43) c2) (s + 43) (cat s FA y.bytes)
  rows : OwnNE W w.heap.size 22 (.slice ak m ck) m (fun q j => (Y q).v j)
  apart : ∀ p q, a2 = some ⟨p, 0, none⟩ → ak = some ⟨q, 0, none⟩ → p ≠ q
  aK : ∀ p, a2 = some ⟨p, 0, none⟩ → p ≠ KB ∧ p ≠ RB
  kK : ∀ p, ak = some ⟨p, 0, none⟩ → p ≠ KB ∧ p ≠ RB
  gr : w.grownBy W none
theorem lt_of_block {w w' : World} {g : Nat} (hg : g < w.heap.size) (e : w'.heap[g]? = w.heap[g]?) : g < w'.heap.size := by
  by_cases hlt : g < w'.heap.size
  · exact hlt
  · rw [Array.getElem?_eq_none (by omega), Array.getElem?_eq_getElem hg] at e
    cases e
theorem OwnNE.of_rows {w w' : World} {base sz n c : Nat} {a : Option Addr} {ev : Nat → Nat → Value} (h : OwnNE w base sz (.slice a n c) n ev) (e : ∀ q, a = some ⟨q, 0, none⟩ → q < w.heap.size → w'.heap[q]? = w.heap[q]?) : OwnNE w' base sz (.slice a n c) n ev := by
  rcases h.ex with h | ⟨g, cap, h1, h2, h3⟩
  · exact ⟨Or.inl h⟩
  · cases h1
    exact ⟨Or.inr ⟨g, c, rfl, h2.of_block (e g rfl h2.lt) (lt_of_block h2.lt (e g rfl h2.lt)), h3⟩⟩
theorem OwnN.of_rows {w w' : World} {base n c : Nat} {a : Option Addr} {f : Nat → Nat} (h : OwnN w base (.slice a n c) n f) (e : ∀ q, a = some ⟨q, 0, none⟩ → q < w.heap.size → w'.heap[q]? = w.heap[q]?) : OwnN w' base (.slice a n c) n f := by
  rcases h.ex with h | ⟨g, cap, h1, h2, h3⟩
  · exact ⟨Or.inl h⟩
  · cases h1
    exact ⟨Or.inr ⟨g, c, rfl, h2.of_block (e g rfl h2.lt) (lt_of_block h2.lt (e g rfl h2.lt)), h3⟩⟩
theorem OwnN.row_lt {w : World} {base n c p : Nat} {a : Option Addr} {f : Nat → Nat} (h : OwnN w base (.slice a n c) n f) (e : a = some ⟨p, 0, none⟩) : p < w.heap.size ∧ base ≤ p := by
  rcases h.ex with ⟨e2, _⟩ | ⟨q, cap', e2, hO, hq⟩
  · cases e2; cases e
  · cases e2; cases e; exact ⟨hO.lt, hq⟩
theorem OwnNE.row_lt {w : World} {base sz n c p : Nat} {a : Option Addr} {ev : Nat → Nat → Value} (h : OwnNE w base sz (.slice a n c) n ev) (e : a = some ⟨p, 0, none⟩) : p < w.heap.size ∧ base ≤ p := by
  rcases h.ex with ⟨e2, _⟩ | ⟨q, cap', e2, hO, hq⟩
  · cases e2; cases e
  · cases e2; cases e; exact ⟨hO.lt, hq⟩
section
variable {w : World} {RB KB m s : Nat} {aa : Option Addr} {ca : Nat} {ak : Option Addr} {ck : Nat} {FA : Nat → Nat} {Y : Nat → QV} {U U' q1 W : World} {y : QV} {X : Nat}
theorem BkI.grown (h : BkI w RB KB m s aa ca ak ck FA Y U) (g : U.grownBy U' none) : BkI w RB KB m s aa ca ak ck FA Y U' :=
  ⟨h.res.kept g (by simp), h.kept.kept g (by simp), h.all.grown g, h.rows.grown g (fun k e => by cases e), h.apart, h.aK, h.kK, h.at_, h.eq, h.ok, h.lt, grown_trans h.gr g⟩
theorem Mid.grown {a2 : Option Addr} {c2 : Nat} (h : Mid w RB KB m s a2 c2 ak ck FA Y y U) (g : U.grownBy U' none) : Mid w RB KB m s a2 c2 ak ck FA Y y U' :=
  ⟨h.res.kept g (by simp), h.kept.kept g (by simp), h.all.grown g, h.rows.grown g (fun k e => by cases e), h.apart, h.aK, h.kK, grown_trans h.gr g⟩
/-- The bytes are appended. -/
theorem BkI.app (h : BkI w RB KB m s aa ca ak ck FA Y q1) {B : Nat} {b : Option Addr} (cap : Nat) (hb : Rd q1 B b 43 y.bytes) (hs : s + 43 ≤ 2 ^ 46) :
    ∃ a2 c2 W1, (Builtin.append_ #[39, 39] 39 #[.slice aa s ca, .slice b 43 cap]).run Try.prog q1 = .ok (.slice a2 (s + 43) c2) W1 ∧ Mid w RB KB m s a2 c2 ak ck FA Y y W1 ∧ (∀ g, (∀ p, aa = some ⟨p, 0, none⟩ → p ≠ g) → g < q1.heap.size → W1.heap[g]? = q1.heap[g]?) := by
  obtain ⟨a2, c2, W1, hap, hO, hG, hk⟩ := app_N1 cap 39 h.gr h.all hb hs
  exact ⟨a2, c2, W1, hap, ⟨(hk RB (fun p e => (h.aK p e).2) h.res.lt).1.trans h.res, (hk KB (fun p e => (h.aK p e).1) h.kept.lt).1.trans h.kept, hO, h.rows.of_rows (fun q e hl => (hk q (fun p e2 => h.apart p q e2 e) hl).1),
    fun p q e1 e2 => (hk q (fun p' e4 => h.apart p' q e4 e2) (h.rows.row_lt e2).1).2 p e1, fun p e => ⟨(hk KB (fun p e => (h.aK p e).1) h.kept.lt).2 p e, (hk RB (fun p e => (h.aK p e).2) h.res.lt).2 p e⟩, h.kK, hG⟩, fun g e hl => (hk g e hl).1⟩
/-- The record is appended. -/
theorem Mid.next {a2 : Option Addr} {c2 : Nat} (h : Mid w RB KB m s a2 c2 ak ck FA Y y W) (hc : ∀ j, j < 22 → W.cell? ⟨X, 0 + j, none⟩ = some (y.v j)) (hne : RB ≠ KB) (hkw : w.heap.size ≤ KB) (hat : s = 43 * m) (heq : ∀ q j, q < m → j < 43 → FA (43 * q + j) = (Y q).bytes j) (hok : ∀ q, q < m → (Y q).Ok ∧ (Y q).may = true) (hlt : ∀ i, FA i < 256) (hy : y.Ok) (hm : y.may = true) (hmb : m < 1000) :
    ∃ a3 c3 W3, (Builtin.append_ #[129, 129] 129 #[.slice ak m ck, .slice (some ⟨X, 0, none⟩) 1 1]).run Try.prog W = .ok (.slice a3 (m + 1) c3) W3 ∧ Boxed W3 KB 129 (.slice ak m ck) ∧
      BkI w RB KB (m + 1) (s + 43) a2 c2 a3 c3 (cat s FA y.bytes) (fun q => if q < m then Y q else y) (W3.setCell ⟨KB, 0, none⟩ (.slice a3 (m + 1) c3)) := by
  obtain ⟨a3, c3, W3, hap, hO, row, hg, hr, g', ha3, hcase⟩ := app_rec X 0 1 h.gr.size h.rows hc (fun j => QV.one y j) (by omega)
  have hpr : ∀ p, p < W.heap.size → (∀ q, ak = some ⟨q, 0, none⟩ → p ≠ q) → some p ≠ row ∧ p ≠ g' := fun p hl hq => by
    rcases hcase with ⟨h1, h2⟩ | ⟨h1, c'', h2⟩
    · exact ⟨by rw [h1]; simp, by omega⟩
    · cases h2
      have := hq g' rfl
      exact ⟨by rw [h1]; intro e2; cases e2; exact this rfl, this⟩
  have hK := hpr KB h.kept.lt (fun q e e2 => (h.kK q e).1 e2.symm)
  have hR := hpr RB h.res.lt (fun q e e2 => (h.kK q e).2 e2.symm)
  have hk3 := h.kept.kept hg hK.1
  have hres3 := h.res.kept hg hR.1
  have hall3 := h.all.of_rows (w' := W3) (fun q e hl => hg.block q hl (hpr q hl (fun r e2 => h.apart q r e e2)).1)
  have hoth : ∀ q, q ≠ KB → (W3.setCell ⟨KB, 0, none⟩ (.slice a3 (m + 1) c3)).heap[q]? = W3.heap[q]? := fun q hq => heap_setCell_other _ _ _ _ hq
  have hG3 : w.grownBy W3 none := by
    cases row with
    | none => exact grown_trans h.gr hg
    | some r => exact grown_new h.gr hg (hr r rfl)
  refine ⟨a3, c3, W3, hap, hk3, ⟨hres3.other hne _, hk3.set _, hall3.of_rows (fun q e _ => hoth q (h.aK q e).1), ?_, ?_, h.aK, ?_, by omega, ?_, ?_, fun i => (by unfold cat; split; exact hlt _; exact y.b_lt hy _), grown_setCell_new hG3 _ _ (Or.inl hkw)⟩⟩
  · refine (hO.of_rows (fun q e _ => ?_)).congr fun q j hq _ => ?_
    · rw [ha3] at e; cases e; exact hoth g' (fun e => hK.2 e.symm)
    · show snocE m (fun q j => (Y q).v j) y.v q j = (if q < m then Y q else y).v j
      unfold snocE
      split <;> rfl
  · intro p q e1 e2
    rw [ha3] at e2
    cases e2
    exact (hpr p (h.all.row_lt e1).1 (fun r e3 => h.apart p r e1 e3)).2
  · intro p e
    rw [ha3] at e
    cases e
    exact ⟨fun e => hK.2 e.symm, fun e => hR.2 e.symm⟩
  · intro q j hq hj
    by_cases e : q < m
    · rw [if_pos e]
      unfold cat
      rw [if_pos (by omega)]
      exact heq q j e hj
    · obtain rfl : q = m := by omega
      rw [if_neg e]
      unfold cat
      rw [if_neg (by omega), hat, Nat.add_sub_cancel_left]
  · intro q hq
    by_cases e : q < m
    · rw [if_pos e]; exact hok q e
    · rw [if_neg e]; exact ⟨hy, hm⟩
end
end Go.Proofs.Ytdagbighlgfhjaa
namespace Go.Proofs.Ytdagbighlgfhjaa
open Go.RowKit

theorem put_swap (a : Act) (p q : Nat) (x y : Value) (hp : p < a.tmps.size) (hq : q < a.tmps.size) (ne : p ≠ q) : (a.put (some q) y).put (some p) x = (a.put (some p) x).put (some q) y := by
  refine act_ext rfl (by simp [Act.put]) fun t _ => ?_
  rw [slotv_put _ _ _ _ (by simpa [Act.put] using hp), slotv_put _ _ _ _ hq, slotv_put _ _ _ _ (by simpa [Act.put] using hq), slotv_put _ _ _ _ hp]
  by_cases e1 : t = p
  · by_cases e2 : t = q
    · exact absurd (e1.symm.trans e2) ne
    · rw [if_pos e1, if_neg e2, if_pos e1]
  · rw [if_neg e1, if_neg e1]
/-- A region that ends plainly: nothing is asked of another end. -/
theorem wp_region_plain {P : Program} {Q : Exit → Act → World → Prop} {id : Nat} {ops : Array Oper} {b : Bool} {a : Act} {w : World} (h : (Code.region id ops b).wp P (fun e a' w' => e = .normal ∧ Q .normal a' w') a w) : (Code.region id ops b).wp P Q a w :=
  Code.wp_mono (fun e a' w' h => by
    obtain ⟨rfl, h⟩ := h
    exact h) h
section
variable {P : Program} {ops : Array Oper} {Q : Exit → Act → World → Prop} {V : World} {a : Act} {w : World}
theorem two_new (T : TypeId) (kd : IntKind) (n : Nat) (f g : Nat → Nat) (i j k l p q s t : Nat) (ls : Array Bool) {oi oj ok ol : Oper}
    (r0 : Region.ready .any ops ls = [i, j]) (r1 : Region.ready .any ops (ls.setIfInBounds i true) = [j]) (r2 : Region.ready .any ops (ls.setIfInBounds j true) = [i])
    (r3 : Region.ready .any ops ((ls.setIfInBounds i true).setIfInBounds j true) = [k]) (r3' : Region.ready .any ops ((ls.setIfInBounds j true).setIfInBounds i true) = [k])
    (r4 : Region.ready .any ops (((ls.setIfInBounds i true).setIfInBounds j true).setIfInBounds k true) = [l]) (r4' : Region.ready .any ops (((ls.setIfInBounds j true).setIfInBounds i true).setIfInBounds k true) = [l])
    (r5 : Region.ready .any ops ((((ls.setIfInBounds i true).setIfInBounds j true).setIfInBounds k true).setIfInBounds l true) = []) (r5' : Region.ready .any ops ((((ls.setIfInBounds j true).setIfInBounds i true).setIfInBounds k true).setIfInBounds l true) = [])
    (hi : ops[i]? = some oi) (hj : ops[j]? = some oj) (hk : ops[k]? = some ok) (hl : ops[l]? = some ol)
    (gi : oi.guard = none) (gj : oj.guard = none) (gk : ok.guard = none) (gl : ol.guard = none)
    (di : oi.dst = some p) (dj : oj.dst = some q) (dk : ok.dst = none) (dl : ol.dst = none)
    (ri : ∀ (b : Act) (W : World), (execOp b.eval oi).run P W = .ok (.value (.pointer (some ⟨W.heap.size, 0, none⟩))) (W.alloc (.cells (cellsOf kd n (fun _ => 0)) T)))
    (rj : ∀ (b : Act) (W : World), (execOp b.eval oj).run P W = .ok (.value (.pointer (some ⟨W.heap.size, 0, none⟩))) (W.alloc (.cells (cellsOf kd n (fun _ => 0)) T)))
    (ek : ok.op = .store T (.tmp p) (.tmp s)) (el : ol.op = .store T (.tmp q) (.tmp t))
    (hs : slotv a s = .agg (cellsOf kd n f)) (ht : slotv a t = .agg (cellsOf kd n g)) (np : p < a.tmps.size) (nq : q < a.tmps.size) (npq : p ≠ q) (nps : s ≠ p) (nqs : s ≠ q) (npt : t ≠ p) (nqt : t ≠ q)
    (hsz : (P.info? T).map (·.size) = some n) (hV : V.grownBy w none)
    (hfin : ∀ bp bq W, bp ≠ bq → V.heap.size ≤ bp → V.heap.size ≤ bq → V.grownBy W none → Holds W bp T kd n f → Holds W bq T kd n g →
      Q .normal ((a.put (some p) (.pointer (some ⟨bp, 0, none⟩))).put (some q) (.pointer (some ⟨bq, 0, none⟩))) W) :
    wpAnyH P .any ops Q (fun W => V.grownBy W none) 4 ls a w := by
  have key : ∀ (x y : Nat) (W : World) (lt : Array Bool), x ≠ y → V.heap.size ≤ x → V.heap.size ≤ y → V.grownBy W none → Holds W x T kd n (fun _ => 0) → Holds W y T kd n (fun _ => 0) →
      Region.ready .any ops lt = [k] → Region.ready .any ops (lt.setIfInBounds k true) = [l] → Region.ready .any ops ((lt.setIfInBounds k true).setIfInBounds l true) = [] →
      wpAnyH P .any ops Q (fun W => V.grownBy W none) 2 lt ((a.put (some p) (.pointer (some ⟨x, 0, none⟩))).put (some q) (.pointer (some ⟨y, 0, none⟩))) W := by
    intro x y W lt ne hx hy hg Hx Hy e1 e2 e3
    have s1 : ∀ u, slotv ((a.put (some p) (.pointer (some ⟨x, 0, none⟩))).put (some q) (.pointer (some ⟨y, 0, none⟩))) u = if u = q then .pointer (some ⟨y, 0, none⟩) else if u = p then .pointer (some ⟨x, 0, none⟩) else slotv a u := fun u => by
      rw [slotv_put _ _ _ _ (by simpa [Act.put] using nq), slotv_put _ _ _ _ np]
    have g1 := grown_setRow_new hg x (cellsOf kd n f) (Or.inl hx)
    have g2 := grown_setRow_new g1 y (cellsOf kd n g) (Or.inl hy)
    have Ky := Hy.of_block (setRow_other W x y (cellsOf kd n f) (Ne.symm ne))
    refine wpAnyH_one e1 (op_store T p s x (cellsOf kd n f) hk dk (wanted_of gk) ek ?_ ?_ T _ Hx.block (by rw [cellsOf_size]; exact hsz) (by simp only [cellsOf_size]) (cellsOf_all _ _ _) g1 ?_)
    · rw [eval_slot, s1, if_neg npq, if_pos rfl]
    · rw [eval_slot, s1, if_neg nqs, if_neg nps]; exact hs
    refine wpAnyH_one e2 (op_store T q t y (cellsOf kd n g) hl dl (wanted_of gl) el ?_ ?_ T _ Ky.block (by rw [cellsOf_size]; exact hsz) (by simp only [cellsOf_size]) (cellsOf_all _ _ _) g2 ?_)
    · rw [eval_slot, s1, if_pos rfl]
    · rw [eval_slot, s1, if_neg nqt, if_neg npt]; exact ht
    refine wpAnyH_done e3 ?_ _
    exact hfin x y _ ne hx hy g2 ((Hx.setRow kd n f).of_block (setRow_other _ y x (cellsOf kd n g) ne)) (Ky.setRow kd n g)
  have A1 := fun W => holds_alloc W T kd n (fun _ => 0) _ rfl
  refine wpAnyH_both r0 ?_ ?_
  · refine wpOp_at hi (wanted_of gi) (wp_yields (ri a w) ?_)
    rw [di]
    have h1 := grown_alloc hV (.cells (cellsOf kd n (fun _ => 0)) T)
    have h2 := grown_alloc h1 (.cells (cellsOf kd n (fun _ => 0)) T)
    refine ⟨h1, wpAnyH_yieldD (some q) r1 hj dj (wanted_of gj) (rj _ _) h2 ?_⟩
    have b2 := A1 (w.alloc (.cells (cellsOf kd n (fun _ => 0)) T))
    refine key _ _ _ _ ?_ hV.size h1.size h2 ((A1 w).grown (World.grownBy_alloc _ _ none) (by simp)) b2 r3 r4 r5
    rw [World.size_alloc]; omega
  · refine wpOp_at hj (wanted_of gj) (wp_yields (rj a w) ?_)
    rw [dj]
    have h1 := grown_alloc hV (.cells (cellsOf kd n (fun _ => 0)) T)
    have h2 := grown_alloc h1 (.cells (cellsOf kd n (fun _ => 0)) T)
    refine ⟨h1, wpAnyH_yieldD (some p) r2 hi di (wanted_of gi) (ri _ _) h2 ?_⟩
    rw [put_swap a p q _ _ np nq npq]
    have b2 := A1 (w.alloc (.cells (cellsOf kd n (fun _ => 0)) T))
    refine key _ _ _ _ ?_ h1.size hV.size h2 b2 ((A1 w).grown (World.grownBy_alloc _ _ none) (by simp)) r3' r4' r5'
    rw [World.size_alloc]; omega
end
end Go.Proofs.Ytdagbighlgfhjaa
namespace Go.Proofs.Ytdagbighlgfhjaa
open Go.RowKit

set_option maxRecDepth 100000
set_option maxHeartbeats 4000000

attribute [local go_sem] Oper.semAt_some

theorem exec_appendR {o : Oper} {a : Act} {w w' : World} (x y : Operand) (vx vy v : Value) (ho : o.op = .call { callee := .builtin .append, args := #[x, y], argTypes := #[129, 129] }) (ht : o.type = 129) (hx : a.eval x = vx) (hy : a.eval y = vy)
    (h : (Builtin.append_ #[129, 129] 129 #[vx, vy]).run Try.prog w = .ok v w') : (execOp a.eval o).run Try.prog w = .ok (.value v) w' := by
  unfold execOp
  simp [ho, ht, resolve, invoke, builtin, hx, hy, h, Result.andThen]
theorem exec_build0 {o : Oper} {a : Act} (ho : o.op = .build 128 #[]) (w : World) : (execOp a.eval o).run Try.prog w = .ok (.value (.agg (rowOf 22 QV.zero.v))) w := by
  unfold execOp
  rw [ho]
  kernel_rfl
/-- A round's frame. -/
structure FrB (RB KB NB p rb : Nat) (act : Act) : Prop where
  ex : ∃ t : Nat → Value, act = { tmps := rowOf 119 t, defers := [] } ∧ t 4 = .pointer (some ⟨RB, 0, none⟩) ∧ t 6 = .pointer (some ⟨KB, 0, none⟩) ∧ t 13 = .pointer (some ⟨NB, 0, none⟩) ∧ t 14 = .int .i64 (p : Nat) ∧ t 15 = .pointer (some ⟨rb, 0, none⟩)
theorem FrB.mk' {RB KB NB p rb : Nat} {arr : Array Value} (hs : arr.size = 119) (h4 : arr.getD 4 undef = .pointer (some ⟨RB, 0, none⟩)) (h6 : arr.getD 6 undef = .pointer (some ⟨KB, 0, none⟩)) (h13 : arr.getD 13 undef = .pointer (some ⟨NB, 0, none⟩)) (h14 : arr.getD 14 undef = .int .i64 (p : Nat)) (h15 : arr.getD 15 undef = .pointer (some ⟨rb, 0, none⟩)) : FrB RB KB NB p rb { tmps := arr, defers := [] } :=
  ⟨fun i => arr.getD i undef, by
    congr 1
    refine Array.ext (by rw [hs, rowOf_size]) fun i h1 h2 => ?_
    have e := rowOf_get 119 (fun i => arr.getD i undef) i (by omega)
    rw [Array.getElem?_eq_getElem h2] at e
    rw [Option.some.inj e]
    simp [h1], h4, h6, h13, h14, h15⟩
structure TruesB (w : World) (e : Ending) (w' : World) : Prop where
  ex : e = .returned (.bool true)
  gr : w.grownBy w' none
theorem RecBack_any (D nl cl : Nat) (al : Option Addr) (X : Nat → QV) (n1 c1 : Nat) (a1 : Option Addr) (f1 : Nat → Nat) (w : World) (hXO : ∀ i, (X i).Ok) (hRQ : RdQ w w.heap.size al nl X) (hR : Rd w D a1 n1 f1) (hf : ∀ i, f1 i < 256) (hc : n1 ≤ c1) :
    Calls Try.prog 9 #[.slice al nl cl, .slice a1 n1 c1] w (TruesB w) := by
  have gb := World.grownBy_alloc w (.cells #[.bool false] 4) none
  have hRB := Boxed.new w 4 (.bool false)
  refine (callsIn_wide (n := 8)).1 ?_
  refine callsIn_of_wp_marks Try.func9 rfl trivial ?_ rfl
  simp only [Try.ntmps9, List.size_toArray, List.length_cons, List.length_nil, Nat.reduceAdd, Nat.reduceSub, Array.replicate_succ, Array.replicate_zero, List.push_toArray, List.append_toArray, List.nil_append, List.cons_append]
  refine wpIn_wide.2 ?_
  go_upto_region 1 with fail
  obtain ⟨RB, hB⟩ : ∃ B, B = w.heap.size := ⟨_, rfl⟩
  rw [← hB] at hRB ⊢
  generalize w.alloc (.cells #[.bool false] 4) = w1 at *
  have HB := Lib.hid hB
  have HRB := Lib.hid hRB
  have HG1 := Lib.hid gb
  have H1 := Lib.hid (works11_any w1)
  have HXO := Lib.hid hXO
  have HRQ := Lib.hid hRQ
  have HRd := Lib.hid hR
  have HF := Lib.hid hf
  have HCC := Lib.hid hc
  clear hB hRB gb hXO hRQ hR hf hc
  go_wp2_with fail
  go_at_call 51
  refine H1.out.mono ?_
  rintro e w2 ⟨rfl, g2⟩
  have HG2 := Lib.hid (show w1.grownBy w2 none from g2)
  clear H1 g2
  by_cases hbig : 100 < nl ∨ 200 < n1
  · have hR2 := HRB.out.kept HG2.out (by simp)
    have cr := hR2.cell
    have fr := hR2.frozen
    have HR := Lib.hid (hR2.set (.bool true))
    have HG := Lib.hid (grown_setCell_new (grown_trans HG1.out HG2.out) ⟨RB, 0, none⟩ (.bool true) (Or.inl (by show w.heap.size ≤ RB; have := HB.out; omega)))
    clear hR2
    by_cases h100 : 100 < nl
    · have j0 : (100 : Int) < (nl : Int) := by omega
      clear hbig h100
      go_wp2_with fail
      have cc := HR.out.cell
      refine ⟨.bool true, ?_, ⟨rfl, HG.out⟩⟩
      simp [results, Try.results9]
      go_simp
    · have j0 : ¬ (100 : Int) < (nl : Int) := by omega
      have j1 : (200 : Int) < (n1 : Int) := by omega
      clear hbig h100
      go_wp2_with fail
      have cc := HR.out.cell
      refine ⟨.bool true, ?_, ⟨rfl, HG.out⟩⟩
      simp [results, Try.results9]
      go_simp
  · have j0 : ¬ (100 : Int) < (nl : Int) := by omega
    have j00 : ¬ (200 : Int) < (n1 : Int) := by omega
    have HNL := Lib.hid (show nl ≤ 100 ∧ n1 ≤ 200 by omega)
    clear hbig
    have gA := World.grownBy_alloc w2 (.cells #[.slice none 0 0] 129) none
    have hKB := Boxed.new w2 129 (.slice none 0 0)
    go_upto_region 7 with fail
    obtain ⟨KB, hKe⟩ : ∃ B, B = w2.heap.size := ⟨_, rfl⟩
    rw [← hKe] at hKB ⊢
    generalize w2.alloc (.cells #[.slice none 0 0] 129) = w5 at *
    have HI0 : Hid (BkI w RB KB 0 0 none 0 none 0 (fun _ => 0) (fun _ => QV.zero) w5) := Lib.hid ⟨(HRB.out.kept HG2.out (by simp)).kept gA (by simp), hKB, OwnN.nil _ _ _, OwnNE.nil _ _ _ _, (fun p q e => by cases e), (fun p e => by cases e), (fun p e => by cases e), rfl, (fun q j h => by omega), (fun q h => by omega), (fun _ => (by decide : 0 < 256)), grown_trans (grown_trans HG1.out HG2.out) gA⟩
    have HQ := Lib.hid (show RB ≠ KB ∧ w.heap.size ≤ KB by have := HB.out; have := HRB.out.lt; have := HG2.out.size; omega)
    have HRW := Lib.hid (show w.heap.size ≤ RB by have := HB.out; omega)
    clear gA hKB hKe
    go_wp2_with fail
    go_loopw [5, 31] (fun u5 u31 wr => ∃ (i m s : Nat) (aa : Option Addr) (ca : Nat) (ak : Option Addr) (ck : Nat) (FA : Nat → Nat) (Y : Nat → QV), i ≤ nl ∧ m ≤ i ∧ u31 = .int .i64 i ∧ u5 = .slice aa s ca ∧ BkI w RB KB m s aa ca ak ck FA Y wr) (fun _ u31 _ => nl + 1 - (intOf u31).toNat)
    case atStart => exact ⟨0, 0, 0, none, 0, none, 0, fun _ => 0, fun _ => QV.zero, Nat.zero_le _, Nat.le_refl _, rfl, rfl, HI0.out⟩
    case round =>
      obtain ⟨i, m, s, aa, ca, ak, ck, FA, Y, hi, hmi, rfl, rfl, hI⟩ := hrel
      by_cases hlt : i < nl
      · have j1 : (i : Int) < (nl : Int) := by omega
        have j1' : i < nl := hlt
        obtain ⟨y, hy⟩ : ∃ y, y = X i := ⟨_, rfl⟩
        have hyo : y.Ok := by rw [hy]; exact HXO.out i
        obtain ⟨tl, ol, rfl, htl, hcl⟩ := HRQ.out.ex (by omega)
        have hLA : (Instr.loadAt 128 (.pointer (some ⟨tl, ol + i * 22, none⟩))).run Try.prog wr = .ok (.agg (rowOf 22 y.v)) wr := load_cells fun j hj => by rw [Nat.add_assoc, hy]; exact hI.gr.cell (hcl i j hlt hj) (by simp)
        have HLA := Lib.hid hLA
        have hib : i ≤ 100 := by have := HNL.out; omega
        have j2 : (i : Int) < 101 := by omega
        have hN := RowAt.new wr 128 22 QV.zero.v _ QV.zero_row
        obtain ⟨k1, k2⟩ := RowAt.store (P := Try.prog) hN 0 128 22 y.v (by decide) (by kernel_rfl) (fun j _ => QV.one _ j)
        obtain ⟨w2, hw2⟩ : ∃ W, W = (wr.alloc (.cells #[.int .u8 0, .int .u8 0, .int .u8 0, .int .u8 0, .int .u8 0, .int .u8 0, .int .u8 0, .int .u8 0, .int .u8 0, .int .u8 0, .int .u8 0, .int .u8 0, .int .u8 0, .int .u8 0, .int .u8 0, .int .u8 0, .int .u8 0, .bool false, .int .u8 0, .int .u64 0, .int .u64 0, .int .u64 0] 128)).setCells wr.heap.size 0 (rowOf 22 y.v).toList := ⟨_, rfl⟩
        have g2 : wr.grownBy w2 none := by rw [hw2]; exact grown_setCells wr.heap.size (Or.inl (Nat.le_refl _)) _ 0 _ (World.grownBy_alloc wr _ none)
        rw [← hw2] at k1 k2
        have hX2 := k2.congr (v' := y.v) fun i hi => by rw [if_pos ⟨Nat.zero_le _, by omega⟩, Nat.sub_zero]
        have HS := Lib.hid k1
        obtain ⟨rb, hrb⟩ : ∃ b, b = wr.heap.size := ⟨_, rfl⟩
        rw [← hrb] at HS hX2
        have HRBE := Lib.hid hrb
        have HFR := Lib.hid (show ∀ p, aa = some ⟨p, 0, none⟩ → p ≠ rb from fun p e => by have := (hI.all.row_lt e).1; omega)
        have HI2 := Lib.hid (hI.grown g2)
        have HX2 := Lib.hid hX2
        have HIL := Lib.hid (show i + 1 ≤ nl by omega)
        have HMI := Lib.hid hmi
        have HYO := Lib.hid hyo
        have HLX := Lib.hid (hX2.load (P := Try.prog) 0 128 22 y.v (by decide) (fun j _ => by rw [Nat.zero_add]) (by kernel_rfl) (by kernel_rfl))
        have H4 := recPut_any y hyo w2
        obtain ⟨mm, hmm⟩ : ∃ m, m = y.may := ⟨_, rfl⟩
        rw [← hmm] at H4
        have H4 := Lib.hid H4
        have HMM := Lib.hid hmm
        clear hLA hN k1 k2 hw2 g2 hX2 hrb hI hmi hyo hcl htl hib hy hmm hi hlt
        go_upto_region 10 with (first | ((with_reducible refine wpList_here ?_); refine wpList_ld (p := .pointer (some ⟨tl, ol + i * 22, none⟩)) 33 ?_ ?_ ?_ HLA.out ?_; (· rfl); go_simp; (· kernel_rfl)) | ((with_reducible refine wpList_here ?_); refine wpList_st (T := 128) (p := .pointer (some ⟨wr.heap.size, 0, none⟩)) (v := .agg (rowOf 22 y.v)) (.tmp 8) (.tmp 34) ?_ ?_ ?_ ?_ ?_ (by rw [← HRBE.out]; exact HS.out) ?_; (· rfl); (· rfl); go_simp; (· kernel_rfl); (· kernel_rfl)))
        rw [← HRBE.out]
        clear HS HLA HRBE
        go_wp2_with (first | ((with_reducible refine wpList_here ?_); refine wpList_ld (p := .pointer (some ⟨rb, 0, none⟩)) 8 ?_ ?_ ?_ HLX.out ?_; (· rfl); go_simp; (· kernel_rfl)))
        go_at_call 49
        refine H4.out.mono ?_
        rintro e w3 ⟨⟨ap, cp, rfl, hO⟩, g3⟩
        have HI3 := Lib.hid (HI2.out.grown g3)
        have HX3 := Lib.hid (HX2.out.grown g3 (by simp))
        clear H4 HI2 HX2 HLX
        cases mm with
        | false =>
          rw [show (.int .i64 (if false = true then 0 else 2) : Value) = .int .i64 2 from rfl]
          clear hO g3
          go_wp2_with fail
          go_roundw
          case rel => exact ⟨i + 1, m, s, aa, ca, ak, ck, FA, Y, HIL.out, by have := HMI.out; omega, rfl, rfl, HI3.out⟩
          case measure =>
            have := HIL.out
            simp [intOf]
            omega
        | true =>
          have hO : OwnN w3 w2.heap.size (.slice ap 43 cp) 43 y.bytes := hO
          rw [show (.slice ap (if true = true then 43 else 0) cp : Value) = .slice ap 43 cp from rfl, show (.int .i64 (if true = true then 0 else 2) : Value) = .int .i64 0 from rfl]
          have hRd : Rd w3 w3.heap.size ap 43 y.bytes := by obtain ⟨a', c', e, _, hR⟩ := hO.rd; cases e; exact hR
          have H5 := recTake_f w3.heap.size 43 cp ap y.bytes w3 hRd (by decide) (y.b_lt HYO.out)
          rw [show recOk 43 y.bytes = true from (recOk_put HYO.out (fun _ _ => rfl)).trans HMM.out.symm, show rcRes true (recF y.bytes) = .tuple #[.agg (rowOf 22 y.v), .int .i64 0] from by unfold rcRes; rw [if_pos rfl, if_pos rfl, recF_put HYO.out (fun _ _ => rfl)]] at H5
          have H5 := Lib.hid H5
          have HC3 := Lib.hid hRd
          clear hO g3 hRd
          go_wp2_with fail
          go_at_call 50
          refine H5.out.mono ?_
          rintro e w4 ⟨rfl, g4⟩
          have hN := RowAt.new w4 128 22 QV.zero.v _ QV.zero_row
          obtain ⟨k1, k2⟩ := RowAt.store (P := Try.prog) hN 0 128 22 y.v (by decide) (by kernel_rfl) (fun j _ => QV.one _ j)
          obtain ⟨w9, hw2⟩ : ∃ W, W = (w4.alloc (.cells #[.int .u8 0, .int .u8 0, .int .u8 0, .int .u8 0, .int .u8 0, .int .u8 0, .int .u8 0, .int .u8 0, .int .u8 0, .int .u8 0, .int .u8 0, .int .u8 0, .int .u8 0, .int .u8 0, .int .u8 0, .int .u8 0, .int .u8 0, .bool false, .int .u8 0, .int .u64 0, .int .u64 0, .int .u64 0] 128)).setCells w4.heap.size 0 (rowOf 22 y.v).toList := ⟨_, rfl⟩
          have g2 : w4.grownBy w9 none := by rw [hw2]; exact grown_setCells w4.heap.size (Or.inl (Nat.le_refl _)) _ 0 _ (World.grownBy_alloc w4 _ none)
          rw [← hw2] at k1 k2
          have hX2 := k2.congr (v' := y.v) fun i hi => by rw [if_pos ⟨Nat.zero_le _, by omega⟩, Nat.sub_zero]
          have HS := Lib.hid k1
          have g := grown_trans g4 g2
          have HI9 := Lib.hid (HI3.out.grown g)
          have HX9 := Lib.hid (HX3.out.grown g (by simp))
          have HC9 : Hid (Rd w9 w9.heap.size ap 43 y.bytes) := Lib.hid ((HC3.out.grown g (by simp)).mono g.size)
          obtain ⟨sb, hsb⟩ : ∃ b, b = w4.heap.size := ⟨_, rfl⟩
          rw [← hsb] at HS hX2
          have HSB := Lib.hid hsb
          have HLS := Lib.hid (hX2.load (P := Try.prog) 0 128 22 y.v (by decide) (fun j _ => by rw [Nat.zero_add]) (by kernel_rfl) (by kernel_rfl))
          have HLY := Lib.hid (HX9.out.load (P := Try.prog) 0 128 22 y.v (by decide) (fun j _ => by rw [Nat.zero_add]) (by kernel_rfl) (by kernel_rfl))
          have HY := Lib.hid (And.intro HYO.out HMM.out.symm)
          have HMB := Lib.hid (show m ≤ 100 ∧ s ≤ 4300 by have := HMI.out; have := HNL.out; have := HIL.out; have := HI9.out.at_; omega)
          clear hN k1 k2 hw2 g2 g g4 hX2 HI3 HX3 HC3 H5 hsb
          go_upto_region 13 with (first | ((with_reducible refine wpList_here ?_); refine wpList_st (T := 128) (p := .pointer (some ⟨w4.heap.size, 0, none⟩)) (v := .agg (rowOf 22 y.v)) (.tmp 11) (.tmp 45) ?_ ?_ ?_ ?_ ?_ (by rw [← HSB.out]; exact HS.out) ?_; (· rfl); (· rfl); go_simp; (· kernel_rfl); (· kernel_rfl)))
          rw [← HSB.out]
          clear HS HSB
          go_upto_region 15 with (first | ((with_reducible refine wpList_here ?_); refine wpList_ld (p := .pointer (some ⟨sb, 0, none⟩)) 11 ?_ ?_ ?_ HLS.out ?_; (· rfl); go_simp; (· kernel_rfl)) | ((with_reducible refine wpList_here ?_); refine wpList_ld (p := .pointer (some ⟨rb, 0, none⟩)) 8 ?_ ?_ ?_ HLY.out ?_; (· rfl); go_simp; (· kernel_rfl)) | ((with_reducible refine wpList_here ?_); refine wpList_want (v := .bool false) (w' := w9) ?_ (exec_neR 50 51 y rfl rfl rfl) ?_; go_simp))
          clear HLS HLY
          refine wp_region_plain ?_
          refine wp_region_head (fun W => Boxed W KB 129 (.slice ak m ck) ∧ RowAt W rb 128 22 y.v) 6 3 #[true, true, true, true, true, true, false, false, false] (by kernel_rfl) rfl ?_
          have hIq := HI9.out.grown (grown_drew (grown_refl w9 none))
          have hXq := HX9.out.grown (grown_drew (grown_refl w9 none)) (by simp)
          have hCq := HC9.out.grown (grown_drew (grown_refl w9 none)) (by simp)
          generalize World.drew w9 = q1 at *
          have HSq := Lib.hid (And.intro hIq.kept hXq)
          change wpAnyT _ _ _ _ _ 6 _ 6 #[false, false, false, false, false, false, false, false, false] _ _
          refine wpAnyT_take (some 59) (i := 0) (v := (.slice aa s ca)) (headInv_start 6) rfl rfl (by kernel_rfl) (by kernel_rfl) (by kernel_rfl) (by decide) (by decide) (tailH_done (k := 6) (by kernel_rfl) (by decide)) (by kernel_rfl) (by kernel_rfl) (fun _ _ _ h => absurd h.1 (by simp)) (Or.inl ⟨rfl, fun _ _ => rfl⟩) HSq.out ?_
          intro inv
          simp only [Act.put, List.setIfInBounds_toArray, List.set_cons_succ, List.set_cons_zero]
          refine wpAnyT_take (some 60) (i := 1) (v := (.slice ap 43 cp)) inv rfl rfl (by kernel_rfl) (by kernel_rfl) (by kernel_rfl) (by decide) (by decide) (tailH_done (k := 6) (by kernel_rfl) (by decide)) (by kernel_rfl) (by kernel_rfl) (fun _ _ _ h => absurd h.1 (by simp)) (Or.inl ⟨rfl, fun _ _ => rfl⟩) HSq.out ?_
          intro inv
          simp only [Act.put, List.setIfInBounds_toArray, List.set_cons_succ, List.set_cons_zero]
          refine wpAnyT_take (some 62) (i := 3) (v := (.slice ak m ck)) inv rfl rfl (by kernel_rfl) (by kernel_rfl) (by kernel_rfl) (by decide) (by decide) (tailH_done (k := 6) (by kernel_rfl) (by decide)) (by kernel_rfl) (by kernel_rfl) (fun _ _ _ h => absurd h.1 (by simp)) (Or.inl ⟨rfl, fun W hW => by have cc := hW.1.cell; go_simp⟩) HSq.out ?_
          intro inv
          simp only [Act.put, List.setIfInBounds_toArray, List.set_cons_succ, List.set_cons_zero]
          refine wpAnyT_take (some 63) (i := 4) (v := (.agg (rowOf 22 y.v))) inv rfl rfl (by kernel_rfl) (by kernel_rfl) (by kernel_rfl) (by decide) (by decide) (tailH_done (k := 6) (by kernel_rfl) (by decide)) (by kernel_rfl) (by kernel_rfl) (fun _ _ _ h => absurd h.1 (by simp)) (Or.inl ⟨rfl, fun W hW => exec_loadQ (.tmp 8) _ _ rfl rfl (hW.2.load (P := Try.prog) 0 128 22 y.v (by decide) (fun j _ => by rw [Nat.zero_add]) (by kernel_rfl) (by kernel_rfl))⟩) HSq.out ?_
          intro inv
          simp only [Act.put, List.setIfInBounds_toArray, List.set_cons_succ, List.set_cons_zero]
          clear inv
          refine wpAnyT_both (i := 2) (j := 5) (by kernel_rfl) (by decide) (by decide) ?_ ?_
          · obtain ⟨a2, c2, W1, hap, hM1, hk1⟩ := hIq.app cp hCq (by have := HMB.out; omega)
            have hS1 : Boxed W1 KB 129 (.slice ak m ck) ∧ RowAt W1 rb 128 22 y.v := ⟨hM1.kept, ⟨(hk1 rb (fun p e => HFR.out p e) hXq.lt).trans hXq.block⟩⟩
            refine wpOp_at (i := 2) rfl (by kernel_rfl) (wp_yields (exec_appendQ (.tmp 59) (.tmp 60) _ _ _ rfl rfl rfl rfl hap) ⟨hS1, ?_⟩)
            simp only [Act.put, List.setIfInBounds_toArray, List.set_cons_succ, List.set_cons_zero]
            have gA := World.grownBy_alloc W1 (.cells (rowOf 22 y.v) 128) none
            refine wpAnyT_one (i := 5) (by kernel_rfl) (by decide) (wpOp_at (i := 5) rfl (by kernel_rfl) (wp_yields (exec_build1 63 y rfl rfl) ⟨⟨hS1.1.kept gA (by simp), hS1.2.grown gA (by simp)⟩, ?_⟩))
            simp only [Act.put, List.setIfInBounds_toArray, List.set_cons_succ, List.set_cons_zero]
            have hM := hM1.grown gA
            have hc : ∀ j, j < 22 → (W1.alloc (.cells (rowOf 22 y.v) 128)).cell? ⟨W1.heap.size, 0 + j, none⟩ = some (y.v j) := fun j hj => by rw [Nat.zero_add]; exact (RowAt.new W1 128 22 y.v _ rfl).cell j hj
            generalize W1.alloc (.cells (rowOf 22 y.v) 128) = W2 at *
            generalize W1.heap.size = X at *
            clear hap hM1 hk1 hS1 gA
            obtain ⟨a3, c3, W3, hap3, hk3, hB3⟩ := Mid.next hM hc HQ.out.1 HQ.out.2 HI9.out.at_ HI9.out.eq HI9.out.ok HI9.out.lt HY.out.1 HY.out.2 (by have := HMB.out; omega)
            refine ⟨rfl, ?_⟩
            refine wpAnyH_yieldD (some 65) (i := 6) (v := .slice a3 (m + 1) c3) (by kernel_rfl) rfl rfl rfl (exec_appendR (.tmp 62) (.tmp 64) _ _ _ rfl rfl rfl rfl hap3) trivial ?_
            simp only [Act.put, List.setIfInBounds_toArray, List.set_cons_succ, List.set_cons_zero]
            refine wpAnyH_yieldD (some 5) (i := 7) (v := .slice a2 (s + 43) c2) (by kernel_rfl) rfl rfl rfl rfl trivial ?_
            simp only [Act.put, List.setIfInBounds_toArray, List.set_cons_succ, List.set_cons_zero]
            refine wpAnyH_skipR (i := 8) (by kernel_rfl) rfl rfl rfl (exec_storeR (.tmp 6) (.tmp 65) _ _ rfl rfl rfl (w' := W3.setCell ⟨KB, 0, none⟩ (.slice a3 (m + 1) c3)) (by have cc := hk3.cell; have ff := hk3.frozen; go_simp)) trivial ?_
            simp only [List.setIfInBounds_toArray, List.set_cons_succ, List.set_cons_zero]
            refine wpAnyH_done (by kernel_rfl) ?_ _
            refine ⟨rfl, ?_⟩
            have HB3 := Lib.hid hB3
            clear hB3 hap3 hk3 hM hc
            go_wp2_with fail
            go_roundw
            case rel => exact ⟨i + 1, m + 1, s + 43, _, _, _, _, _, _, HIL.out, by have := HMI.out; omega, rfl, rfl, HB3.out⟩
            case measure =>
              have := HIL.out
              simp [intOf]
              omega
          · have gA := World.grownBy_alloc q1 (.cells (rowOf 22 y.v) 128) none
            have hXl := RowAt.new q1 128 22 y.v _ rfl
            refine wpOp_at (i := 5) rfl (by kernel_rfl) (wp_yields (exec_build1 63 y rfl rfl) ⟨⟨HSq.out.1.kept gA (by simp), HSq.out.2.grown gA (by simp)⟩, ?_⟩)
            simp only [Act.put, List.setIfInBounds_toArray, List.set_cons_succ, List.set_cons_zero]
            have hI2 := hIq.grown gA
            have hX2 := hXq.grown gA (by simp)
            have hC2 := hCq.grown gA (by simp)
            obtain ⟨X, hX⟩ : ∃ X, X = q1.heap.size := ⟨_, rfl⟩
            have hXa : ∀ p, aa = some ⟨p, 0, none⟩ → p ≠ X := fun p e => by have := (hIq.all.row_lt e).1; omega
            rw [← hX] at hXl ⊢
            generalize q1.alloc (.cells (rowOf 22 y.v) 128) = q2 at *
            obtain ⟨a2, c2, W1, hap, hM, hk1⟩ := hI2.app cp hC2 (by have := HMB.out; omega)
            have hS1 : Boxed W1 KB 129 (.slice ak m ck) ∧ RowAt W1 rb 128 22 y.v := ⟨hM.kept, ⟨(hk1 rb (fun p e => HFR.out p e) hX2.lt).trans hX2.block⟩⟩
            refine wpAnyT_one (i := 2) (by kernel_rfl) (by decide) (wpOp_at (i := 2) rfl (by kernel_rfl) (wp_yields (exec_appendQ (.tmp 59) (.tmp 60) _ _ _ rfl rfl rfl rfl hap) ⟨hS1, ?_⟩))
            simp only [Act.put, List.setIfInBounds_toArray, List.set_cons_succ, List.set_cons_zero]
            have hc : ∀ j, j < 22 → W1.cell? ⟨X, 0 + j, none⟩ = some (y.v j) := fun j hj => by
              have e : RowAt W1 X 128 22 y.v := ⟨(hk1 X hXa hXl.lt).trans hXl.block⟩
              rw [Nat.zero_add]; exact e.cell j hj
            clear hap hk1 hS1 gA hXl hI2 hX2 hC2 hXa hX
            obtain ⟨a3, c3, W3, hap3, hk3, hB3⟩ := Mid.next hM hc HQ.out.1 HQ.out.2 HI9.out.at_ HI9.out.eq HI9.out.ok HI9.out.lt HY.out.1 HY.out.2 (by have := HMB.out; omega)
            refine ⟨rfl, ?_⟩
            refine wpAnyH_yieldD (some 65) (i := 6) (v := .slice a3 (m + 1) c3) (by kernel_rfl) rfl rfl rfl (exec_appendR (.tmp 62) (.tmp 64) _ _ _ rfl rfl rfl rfl hap3) trivial ?_
            simp only [Act.put, List.setIfInBounds_toArray, List.set_cons_succ, List.set_cons_zero]
            refine wpAnyH_yieldD (some 5) (i := 7) (v := .slice a2 (s + 43) c2) (by kernel_rfl) rfl rfl rfl rfl trivial ?_
            simp only [Act.put, List.setIfInBounds_toArray, List.set_cons_succ, List.set_cons_zero]
            refine wpAnyH_skipR (i := 8) (by kernel_rfl) rfl rfl rfl (exec_storeR (.tmp 6) (.tmp 65) _ _ rfl rfl rfl (w' := W3.setCell ⟨KB, 0, none⟩ (.slice a3 (m + 1) c3)) (by have cc := hk3.cell; have ff := hk3.frozen; go_simp)) trivial ?_
            simp only [List.setIfInBounds_toArray, List.set_cons_succ, List.set_cons_zero]
            refine wpAnyH_done (by kernel_rfl) ?_ _
            refine ⟨rfl, ?_⟩
            have HB3 := Lib.hid hB3
            clear hB3 hap3 hk3 hM hc
            go_wp2_with fail
            go_roundw
            case rel => exact ⟨i + 1, m + 1, s + 43, _, _, _, _, _, _, HIL.out, by have := HMI.out; omega, rfl, rfl, HB3.out⟩
            case measure =>
              have := HIL.out
              simp [intOf]
              omega
      · obtain rfl : i = nl := by omega
        have j1 : ¬ (i : Int) < (i : Int) := by omega
        have gN := World.grownBy_alloc wr (.cells #[.int .i64 0] 3) none
        have hNB := Boxed.new wr 3 (.int .i64 0)
        have HI4 := Lib.hid (hI.grown gN)
        have HZ := Lib.hid (World.size_alloc wr (.cells #[.int .i64 0] 3))
        clear hI hlt
        go_upto_region 18 with fail
        obtain ⟨NB, hNe⟩ : ∃ B, B = wr.heap.size := ⟨_, rfl⟩
        rw [← hNe] at hNB HZ ⊢
        generalize wr.alloc (.cells #[.int .i64 0] 3) = w4 at *
        have hm5 : m ≤ 100 := by have := HNL.out; omega
        have hs5 : s ≤ 4300 := by have := HI4.out.at_; omega
        have hRdA : Rd w4 w4.heap.size aa s FA := by obtain ⟨a', c', e, _, hR⟩ := HI4.out.all.rd; cases e; exact hR
        have HALL := Lib.hid (recAll_any w4.heap.size s ca aa FA w4 hRdA (by omega))
        have hRow : ∀ q, q < m → rowOf 22 (recs FA q).v = rowOf 22 (Y q).v := fun q hq => recF_put (HI4.out.ok q hq).1 (fun j hj => HI4.out.eq q j hq hj)
        have HN : Hid (IsN s FA m) := Lib.hid ⟨fun q hq => ⟨by have := HI4.out.at_; omega, (recOk_put (HI4.out.ok q hq).1 (fun j hj => HI4.out.eq q j hq hj)).trans (HI4.out.ok q hq).2⟩, fun h => by have := h.1; have := HI4.out.at_; omega⟩
        have hcells : ∀ q j, q < m → j < 22 → (Y q).v j = (recs FA q).v j := fun q j hq hj => by
          have e1 := rowOf_get 22 (recs FA q).v j hj
          rw [hRow q hq, rowOf_get 22 (Y q).v j hj] at e1
          exact Option.some.inj e1
        have hRQ2 : RdQ w4 NB ak m (recs FA) := ⟨fun h0 => by
          rcases HI4.out.rows.ex with ⟨_, e⟩ | ⟨g, cap, e, hE, _⟩
          · omega
          · cases e
            have hgN : g < NB := by
              have h1 := hE.lt
              have h2 : g ≠ NB := fun e2 => by
                have h3 := hE.cell 0 0 h0 (by decide)
                rw [e2, Nat.zero_mul, Nat.zero_add, hNB.cell] at h3
                have h4 := HI4.out.ok 0 h0
                have h5 : (Y 0).v 0 = .int .u8 ((Y 0).id 0) := (Y 0).v_id 0 (by decide)
                rw [h5] at h3
                cases h3
              have := HZ.out
              omega
            refine ⟨g, 0, rfl, hgN, fun q j hq hj => ?_⟩
            rw [Nat.zero_add, ← hcells q j hq hj]
            exact hE.cell q j hq hj⟩
        have HLP : Hid (LpI w RB NB KB ak m ck (recs FA) 0 w4) := Lib.hid ⟨HI4.out.res, hNB, HI4.out.kept, hRQ2, HI4.out.gr⟩
        have HFA := Lib.hid HI4.out.lt
        have HNQ := Lib.hid (show RB < NB ∧ KB < NB ∧ w.heap.size ≤ NB ∧ NB < w4.heap.size by
          have h1 := HI4.out.res.lt
          have h2 := HI4.out.kept.lt
          have h3 := HZ.out
          have h4 : RB ≠ NB := fun e => by
            have h5 := HI4.out.res.cell
            rw [e, hNB.cell] at h5
            cases h5
          have h6 : KB ≠ NB := fun e => by
            have h5 := HI4.out.kept.cell
            rw [e, hNB.cell] at h5
            cases h5
          have := HRW.out
          have := HQ.out
          omega)
        clear gN hNB hRdA hRow hcells hRQ2 hNe
        go_wp2_with fail
        go_at_call 57
        refine HALL.out.mono ?_
        rintro e w8 ⟨⟨B, ab, cb, rfl, hBs, hC, hLc, hO⟩, g8⟩
        have HSEQ := Lib.hid (all_seq (8 - 1) m s cb B ab FA (fun x => x = NB) w8 HFA.out HN.out (by omega) hLc (by decide) (by have := HNQ.out; omega) (fun tb o e => by
          rcases hO.ex with ⟨e2, _⟩ | ⟨q, cap, e2, _, hq⟩
          · cases e2; cases e
          · cases e2; cases e; have := HNQ.out; omega) hC (by obtain ⟨a', c', e, _, hR⟩ := hO.rd; cases e; exact hR))
        have HA := Lib.hid (show RB < w8.heap.size ∧ NB < w8.heap.size ∧ KB < w8.heap.size ∧ w.heap.size ≤ w8.heap.size by have := HNQ.out; have := g8.size; omega)
        have HI8 : Hid (LpI w RB NB KB ak m ck (recs FA) 0 w8) := Lib.hid (HLP.out.keep (A := w4.heap.size) (by have := HNQ.out; omega) g8 (fun r e => by cases e))
        clear hBs hC hLc hO g8 HALL HLP
        go_wp2_with fail
        refine (wpIn_wide (n := 8)).1 ?_
        refine wpIn_rangeN rfl (by decide) (gf := 131) (lb := #[.pointer (some ⟨B, 0, none⟩)]) rfl trivial (enters_of Try.func131 (by kernel_rfl) rfl) HSEQ.out (fun _ => rfl)
          (LpI w RB NB KB ak m ck (recs FA)) (fun _ _ _ => False) (fun k U U' row h hg hr => h.keep HA.out hg (fun r e => (hr r e).1)) (fun _ _ _ _ _ h _ _ => h) HI8.out
          (fun k act U => ∃ rb, FrB RB KB NB (43 * k) rb act ∧ RowAt U rb 128 22 (recs FA k).v ∧ w8.heap.size ≤ rb ∧ LpI w RB NB KB ak m ck (recs FA) k U) ?_ ?_ ?_ ?_ ?_
        · intro k a' _ U U' row h hgr hr
          obtain ⟨rb, h1, h2, h3, h4⟩ := h
          refine ⟨rb, h1, h2.grown hgr (fun e => ?_), h3, h4.keep HA.out hgr (fun r e => (hr r e).1)⟩
          obtain ⟨_, o, ho, hc⟩ := hr _ e.symm
          rw [h2.block] at ho
          cases ho
          cases hc
        · rintro l k U K hk hI hU hK
          obtain ⟨p, hp⟩ : ∃ p, p = 43 * k := ⟨_, rfl⟩
          rw [← hp] at hK ⊢
          obtain ⟨y, hy⟩ : ∃ y, y = recs FA k := ⟨_, rfl⟩
          rw [← hy] at hK ⊢
          have hN := RowAt.new U 128 22 QV.zero.v _ QV.zero_row
          obtain ⟨k1, k2⟩ := RowAt.store (P := Try.prog) hN 0 128 22 y.v (by decide) (by kernel_rfl) (fun j _ => QV.one _ j)
          obtain ⟨w2, hw2⟩ : ∃ W, W = (U.alloc (.cells #[.int .u8 0, .int .u8 0, .int .u8 0, .int .u8 0, .int .u8 0, .int .u8 0, .int .u8 0, .int .u8 0, .int .u8 0, .int .u8 0, .int .u8 0, .int .u8 0, .int .u8 0, .int .u8 0, .int .u8 0, .int .u8 0, .int .u8 0, .bool false, .int .u8 0, .int .u64 0, .int .u64 0, .int .u64 0] 128)).setCells U.heap.size 0 (rowOf 22 y.v).toList := ⟨_, rfl⟩
          have g2 : U.grownBy w2 none := by rw [hw2]; exact grown_setCells U.heap.size (Or.inl (Nat.le_refl _)) _ 0 _ (World.grownBy_alloc U _ none)
          rw [← hw2] at k1 k2
          have hX2 := k2.congr (v' := y.v) fun i hi => by rw [if_pos ⟨Nat.zero_le _, by omega⟩, Nat.sub_zero]
          have HS := Lib.hid k1
          have HX := Lib.hid hX2
          have HG := Lib.hid g2
          have HI := Lib.hid hI
          have HK := Lib.hid hK
          have HU := Lib.hid hU
          clear hN k1 k2 hw2 hX2 g2 hI hK hU hp hy
          gi_wp2_with ((with_reducible refine roundIn_here ?_); refine roundIn_st (T := 128) (p := .pointer (some ⟨U.heap.size, 0, none⟩)) (v := .agg (rowOf 22 y.v)) (.tmp 15) (.tmp 70) ?_ ?_ ?_ ?_ ?_ HS.out ?_; (· rfl); (· rfl); go_simp; (· kernel_rfl); (· kernel_rfl))
          exact HK.out _ _ (KeepsOthers.of_grownBy HG.out (fun _ _ e => by cases e)) (KeepX.grown (by have := HU.out; omega) HG.out) ⟨U.heap.size, FrB.mk' rfl rfl rfl rfl rfl rfl, HX.out, by have := HU.out; omega, HI.out.keep (A := U.heap.size) (by have := HA.out; have := HU.out; omega) HG.out (fun r e => by cases e)⟩
        · rintro l k a' U hk hU ⟨rb, ⟨⟨t, rfl, t4, t6, t13, t14, t15⟩⟩, hX, hrb, hI⟩
          obtain ⟨p, hp⟩ : ∃ p, p = 43 * k := ⟨_, rfl⟩
          rw [← hp] at t14
          rw [show rowOf 119 t = #[t 0, t 1, t 2, t 3, t 4, t 5, t 6, t 7, t 8, t 9, t 10, t 11, t 12, t 13, t 14, t 15, t 16, t 17, t 18, t 19, t 20, t 21, t 22, t 23, t 24, t 25, t 26, t 27, t 28, t 29, t 30, t 31, t 32, t 33, t 34, t 35, t 36, t 37, t 38, t 39, t 40, t 41, t 42, t 43, t 44, t 45, t 46, t 47, t 48, t 49, t 50, t 51, t 52, t 53, t 54, t 55, t 56, t 57, t 58, t 59, t 60, t 61, t 62, t 63, t 64, t 65, t 66, t 67, t 68, t 69, t 70, t 71, t 72, t 73, t 74, t 75, t 76, t 77, t 78, t 79, t 80, t 81, t 82, t 83, t 84, t 85, t 86, t 87, t 88, t 89, t 90, t 91, t 92, t 93, t 94, t 95, t 96, t 97, t 98, t 99, t 100, t 101, t 102, t 103, t 104, t 105, t 106, t 107, t 108, t 109, t 110, t 111, t 112, t 113, t 114, t 115, t 116, t 117, t 118] from rfl, t4, t6, t13, t14, t15]
          clear t4 t6 t13 t14 t15
          obtain ⟨y, hy⟩ : ∃ y, y = recs FA k := ⟨_, rfl⟩
          rw [← hy] at hX
          obtain ⟨tb, o, hak, htb, hcell⟩ := hI.rows.ex (by omega)
          subst hak
          have HC := Lib.hid (show ∀ j, j < 22 → U.cell? ⟨tb, o + (k * 22 + j), none⟩ = some (y.v j) from fun j hj => by rw [hy]; exact hcell k j hk hj)
          have HX := Lib.hid hX
          have HI := Lib.hid hI
          have HU := Lib.hid hU
          have j1 : (k : Int) < (m : Int) := by omega
          have j1' : k < m := hk
          have j2 : (k : Int) * 43 = (p : Int) := by omega
          have j3 : (p : Int) < 300000 := by omega
          have j4 : (k : Int) < 5001 := by omega
          clear hX hI hU hrb hp hy hcell htb hk
          gi_wp2
          refine wpIn_region_heldR (fun W => U.grownBy W none) (by kernel_rfl) (by kernel_rfl) (by rintro ⟨_, _, h⟩; exact h) ?_
          change wpAnyH _ _ _ _ _ 18 #[false, false, false, false, false, false, false, false, false, false, false, false, false, false, false, false, false, false] _ (World.drew _)
          have gq := grown_drew (grown_refl U none)
          generalize World.drew U = q1 at *
          refine wpAnyH_takeD (some 71) (i := 0) (v := (.int .i64 (k : Nat))) rfl rfl (by kernel_rfl) (by kernel_rfl) (by kernel_rfl) (fun _ _ _ h => h) (Or.inl ⟨rfl, fun W hW => by have cc := (HI.out.n.kept hW (by simp)).cell; go_simp⟩) gq ?_
          simp only [Act.put, List.setIfInBounds_toArray, List.set_cons_succ, List.set_cons_zero]
          refine wpAnyH_takeD (some 72) (i := 1) (v := (.slice (some ⟨tb, o, none⟩) m ck)) rfl rfl (by kernel_rfl) (by kernel_rfl) (by kernel_rfl) (fun _ _ _ h => h) (Or.inl ⟨rfl, fun W hW => by have cc := (HI.out.want.kept hW (by simp)).cell; go_simp⟩) gq ?_
          simp only [Act.put, List.setIfInBounds_toArray, List.set_cons_succ, List.set_cons_zero]
          refine wpAnyH_takeD (some 73) (i := 2) (v := (.int .i64 (m : Nat))) rfl rfl (by kernel_rfl) (by kernel_rfl) (by kernel_rfl) (fun _ _ _ h => h) (Or.inl ⟨rfl, fun _ _ => by go_simp⟩) gq ?_
          simp only [Act.put, List.setIfInBounds_toArray, List.set_cons_succ, List.set_cons_zero]
          refine wpAnyH_takeD (some 74) (i := 3) (v := (.bool false)) rfl rfl (by kernel_rfl) (by kernel_rfl) (by kernel_rfl) (fun _ _ _ h => h) (Or.inl ⟨rfl, fun _ _ => by go_simp⟩) gq ?_
          simp only [Act.put, List.setIfInBounds_toArray, List.set_cons_succ, List.set_cons_zero]
          refine wpAnyH_takeD (some 75) (i := 4) (v := (.bool false)) rfl rfl (by kernel_rfl) (by kernel_rfl) (by kernel_rfl) (fun _ _ _ h => h) (Or.inl ⟨rfl, fun _ _ => rfl⟩) gq ?_
          simp only [Act.put, List.setIfInBounds_toArray, List.set_cons_succ, List.set_cons_zero]
          refine wpAnyH_takeD (some 76) (i := 5) (v := (.int .i64 (p : Nat))) rfl rfl (by kernel_rfl) (by kernel_rfl) (by kernel_rfl) (fun _ _ _ h => h) (Or.inl ⟨rfl, fun _ _ => rfl⟩) gq ?_
          simp only [Act.put, List.setIfInBounds_toArray, List.set_cons_succ, List.set_cons_zero]
          refine wpAnyH_takeD (some 77) (i := 6) (v := (.int .i64 (k : Nat))) rfl rfl (by kernel_rfl) (by kernel_rfl) (by kernel_rfl) (fun _ _ _ h => h) (Or.inl ⟨rfl, fun W hW => by have cc := (HI.out.n.kept hW (by simp)).cell; go_simp⟩) gq ?_
          simp only [Act.put, List.setIfInBounds_toArray, List.set_cons_succ, List.set_cons_zero]
          refine wpAnyH_takeD (some 78) (i := 7) (v := (.int .i64 (p : Nat))) rfl rfl (by kernel_rfl) (by kernel_rfl) (by kernel_rfl) (fun _ _ _ h => h) (Or.inl ⟨rfl, fun _ _ => by go_simp; rw [IntKind.wrap_i64]; try omega⟩) gq ?_
          simp only [Act.put, List.setIfInBounds_toArray, List.set_cons_succ, List.set_cons_zero]
          refine wpAnyH_takeD (some 79) (i := 8) (v := (.bool false)) rfl rfl (by kernel_rfl) (by kernel_rfl) (by kernel_rfl) (fun _ _ _ h => h) (Or.inl ⟨rfl, fun _ _ => by go_simp⟩) gq ?_
          simp only [Act.put, List.setIfInBounds_toArray, List.set_cons_succ, List.set_cons_zero]
          refine wpAnyH_takeD (some 80) (i := 9) (v := (.bool false)) rfl rfl (by kernel_rfl) (by kernel_rfl) (by kernel_rfl) (fun _ _ _ h => h) (Or.inl ⟨rfl, fun _ _ => by go_simp⟩) gq ?_
          simp only [Act.put, List.setIfInBounds_toArray, List.set_cons_succ, List.set_cons_zero]
          refine wpAnyH_takeD (some 81) (i := 10) (v := (.bool false)) rfl rfl (by kernel_rfl) (by kernel_rfl) (by kernel_rfl) (fun _ _ _ h => h) (Or.inl ⟨rfl, fun _ _ => rfl⟩) gq ?_
          simp only [Act.put, List.setIfInBounds_toArray, List.set_cons_succ, List.set_cons_zero]
          refine wpAnyH_takeD (some 82) (i := 11) (v := (.agg (rowOf 22 y.v))) rfl rfl (by kernel_rfl) (by kernel_rfl) (by kernel_rfl) (fun _ _ _ h => h) (Or.inl ⟨rfl, fun W hW => exec_loadQ (.tmp 15) _ _ rfl rfl ((HX.out.grown hW (by simp)).load (P := Try.prog) 0 128 22 y.v (by decide) (fun j _ => by rw [Nat.zero_add]) (by kernel_rfl) (by kernel_rfl))⟩) gq ?_
          simp only [Act.put, List.setIfInBounds_toArray, List.set_cons_succ, List.set_cons_zero]
          refine wpAnyH_takeD (some 83) (i := 12) (v := (.slice (some ⟨tb, o, none⟩) m ck)) rfl rfl (by kernel_rfl) (by kernel_rfl) (by kernel_rfl) (fun _ _ _ h => h) (Or.inl ⟨rfl, fun W hW => by have cc := (HI.out.want.kept hW (by simp)).cell; go_simp⟩) gq ?_
          simp only [Act.put, List.setIfInBounds_toArray, List.set_cons_succ, List.set_cons_zero]
          refine wpAnyH_takeD (some 84) (i := 13) (v := (.int .i64 (k : Nat))) rfl rfl (by kernel_rfl) (by kernel_rfl) (by kernel_rfl) (fun _ _ _ h => h) (Or.inl ⟨rfl, fun W hW => by have cc := (HI.out.n.kept hW (by simp)).cell; go_simp⟩) gq ?_
          simp only [Act.put, List.setIfInBounds_toArray, List.set_cons_succ, List.set_cons_zero]
          refine wpAnyH_takeD (some 85) (i := 14) (v := (.pointer (some ⟨tb, o + k * 22, none⟩))) rfl rfl (by kernel_rfl) (by kernel_rfl) (by kernel_rfl) (fun _ _ _ h => h) (Or.inl ⟨rfl, fun _ _ => by go_simp⟩) gq ?_
          simp only [Act.put, List.setIfInBounds_toArray, List.set_cons_succ, List.set_cons_zero]
          refine wpAnyH_takeD (some 86) (i := 15) (v := (.agg (rowOf 22 y.v))) rfl rfl (by kernel_rfl) (by kernel_rfl) (by kernel_rfl) (fun _ _ _ h => h) (Or.inl ⟨rfl, fun W hW => exec_loadQ (.tmp 85) _ _ rfl rfl (load_cells fun j hj => by rw [Nat.add_assoc]; exact hW.cell (HC.out j hj) (by simp))⟩) gq ?_
          simp only [Act.put, List.setIfInBounds_toArray, List.set_cons_succ, List.set_cons_zero]
          refine wpAnyH_takeD (some 87) (i := 16) (v := (.bool false)) rfl rfl (by kernel_rfl) (by kernel_rfl) (by kernel_rfl) (fun _ _ _ h => h) (Or.inl ⟨rfl, fun W _ => exec_neR 82 86 y rfl rfl rfl⟩) gq ?_
          simp only [Act.put, List.setIfInBounds_toArray, List.set_cons_succ, List.set_cons_zero]
          refine wpAnyH_takeD (some 88) (i := 17) (v := (.bool false)) rfl rfl (by kernel_rfl) (by kernel_rfl) (by kernel_rfl) (fun _ _ _ h => h) (Or.inl ⟨rfl, fun _ _ => by go_simp⟩) gq ?_
          simp only [Act.put, List.setIfInBounds_toArray, List.set_cons_succ, List.set_cons_zero]
          refine wpAnyH_done (by kernel_rfl) ?_ _
          have hn := HI.out.n.kept gq (by simp)
          have cn : q1.cell? ⟨NB, 0, none⟩ = some (.int .i64 (k : Nat)) := hn.cell
          have fn := hn.frozen
          have j5 : (k : Int) + 1 = ((k + 1 : Nat) : Int) := by omega
          have HLN : Hid (LpI w RB NB KB (some ⟨tb, o, none⟩) m ck (recs FA) (k + 1) (q1.setCell ⟨NB, 0, none⟩ (.int .i64 ((k + 1 : Nat) : Int)))) := Lib.hid ((HI.out.keep (A := U.heap.size) (by have := HA.out; have := HU.out; omega) gq (fun r e => by cases e)).next (by have := HNQ.out; omega) (by have := HNQ.out; omega) (by have := HNQ.out; omega))
          obtain ⟨k', hk'⟩ : ∃ k', k' = k + 1 := ⟨_, rfl⟩
          rw [← hk'] at j5 HLN
          have HKK := Lib.hid hk'
          have HKO : Hid (KeepsOthers U (q1.setCell ⟨NB, 0, none⟩ (.int .i64 (k' : Int)))) := Lib.hid ((KeepsOthers.of_grownBy gq (fun _ _ e => by cases e)).trans (KeepsOthers.setCell _ _ _))
          have HKX : Hid (KeepX w8.heap.size (fun x => x = NB) U (q1.setCell ⟨NB, 0, none⟩ (.int .i64 (k' : Int)))) := Lib.hid ((KeepX.grown (by have := HU.out; omega) gq).trans (KeepX.into (by have := gq.size; have := HU.out; omega) (grownBy_setCell' q1 NB _) (Or.inl rfl)))
          clear hn gq hk'
          gi_wp2
          exact ⟨HKO.out, HKX.out, by rw [← HKK.out]; exact HLN.out⟩
        · rintro D2 U hD hI hDd
          have cn := hI.n.cell
          have cw' := hI.want.cell
          have HI := Lib.hid hI
          have HDD := Lib.hid hDd
          have HDL := Lib.hid (show D2 < U.heap.size from (Array.getElem?_eq_some_iff.1 hDd).1)
          have HDA := Lib.hid hD
          have H5 := recTake_f D n1 c1 a1 f1 U (HRd.out.grown hI.gr (by simp)) (by have := HNL.out; omega) HF.out
          obtain ⟨ok, hok⟩ : ∃ ok, ok = recOk n1 f1 := ⟨_, rfl⟩
          rw [← hok] at H5
          have HOK := Lib.hid hok
          have H5 := Lib.hid H5
          have j9 : (m : Int) < 5001 := by omega
          clear hI hDd hD hok
          cases ok with
          | false =>
            rw [show rcRes false (recF f1) = .tuple #[.agg (rowOf 22 QV.zero.v), .int .i64 9] from rfl] at H5
            gi_wp2
            go_wp2_with fail
            go_at_call 50
            refine H5.out.mono ?_
            rintro e u2 ⟨rfl, g3⟩
            have hN := RowAt.new u2 128 22 QV.zero.v _ QV.zero_row
            obtain ⟨k1, k2⟩ := RowAt.store (P := Try.prog) hN 0 128 22 QV.zero.v (by decide) (by kernel_rfl) (fun j _ => QV.one _ j)
            obtain ⟨u3, hw2⟩ : ∃ W, W = (u2.alloc (.cells #[.int .u8 0, .int .u8 0, .int .u8 0, .int .u8 0, .int .u8 0, .int .u8 0, .int .u8 0, .int .u8 0, .int .u8 0, .int .u8 0, .int .u8 0, .int .u8 0, .int .u8 0, .int .u8 0, .int .u8 0, .int .u8 0, .int .u8 0, .bool false, .int .u8 0, .int .u64 0, .int .u64 0, .int .u64 0] 128)).setCells u2.heap.size 0 (rowOf 22 QV.zero.v).toList := ⟨_, rfl⟩
            have g2 : u2.grownBy u3 none := by rw [hw2]; exact grown_setCells u2.heap.size (Or.inl (Nat.le_refl _)) _ 0 _ (World.grownBy_alloc u2 _ none)
            rw [← hw2] at k1 k2
            have hX2 := k2.congr (v' := QV.zero.v) fun i hi => by rw [if_pos ⟨Nat.zero_le _, by omega⟩, Nat.sub_zero]
            have HS := Lib.hid k1
            have g := grown_trans g3 g2
            have hr3 := HI.out.res.kept g (by simp)
            have hd3 := (g.block D2 HDL.out (by simp)).trans HDD.out
            obtain ⟨f1', f2', f3'⟩ := fin_mem true HA.out.1 (by have := HRW.out; omega) HDA.out hr3 (grown_trans HI.out.gr g) hd3
            have HD := Lib.hid f1'
            have HR := Lib.hid f2'
            have HG := Lib.hid f3'
            have cr := hr3.cell
            have fr := hr3.frozen
            obtain ⟨sb, hsb⟩ : ∃ b, b = u2.heap.size := ⟨_, rfl⟩
            rw [← hsb] at HS hX2
            have HSB := Lib.hid hsb
            have HLS := Lib.hid (hX2.load (P := Try.prog) 0 128 22 QV.zero.v (by decide) (fun j _ => by rw [Nat.zero_add]) (by kernel_rfl) (by kernel_rfl))
            clear hN k1 k2 hw2 g2 g g3 hX2 hr3 hd3 f1' f2' f3' H5 hsb
            go_upto_region 27 with (first | ((with_reducible refine wpList_here ?_); refine wpList_st (T := 128) (p := .pointer (some ⟨u2.heap.size, 0, none⟩)) (v := .agg (rowOf 22 QV.zero.v)) (.tmp 16) (.tmp 98) ?_ ?_ ?_ ?_ ?_ (by rw [← HSB.out]; exact HS.out) ?_; (· rfl); (· rfl); go_simp; (· kernel_rfl); (· kernel_rfl)))
            rw [← HSB.out]
            go_wp2_with (first | ((with_reducible refine wpList_here ?_); refine wpList_ld (p := .pointer (some ⟨sb, 0, none⟩)) 16 ?_ ?_ ?_ HLS.out ?_; (· rfl); go_simp; (· kernel_rfl)) | ((with_reducible refine wpList_here ?_); refine wpList_want (v := .agg (rowOf 22 QV.zero.v)) (w' := u3) ?_ (exec_build0 rfl u3) ?_; go_simp) | ((with_reducible refine wpList_here ?_); refine wpList_want (v := .bool true) (w' := u3) ?_ (exec_eqR 102 103 QV.zero rfl rfl rfl) ?_; go_simp))
            refine ⟨by simp, .inl ⟨_, _, rfl, run_takeDeferred HD.out, ?_⟩⟩
            have cc := HR.out.cell
            refine ⟨.bool true, ?_, ⟨rfl, HG.out⟩⟩
            simp [results, Try.results9]
            go_simp
          | true =>
            have hO43 : (n1 = 43 ∧ f1 17 ≤ 1) ∧ (recF f1).may = true := by
              have h := HOK.out.symm
              unfold recOk at h
              by_cases h3 : n1 = 43 ∧ f1 17 ≤ 1
              · rw [decide_eq_true h3] at h
                exact ⟨h3, h⟩
              · rw [decide_eq_false h3] at h
                cases h
            obtain ⟨⟨rfl, h17⟩, hmay⟩ := hO43
            have hstr : strOf 43 (recF f1).bytes = strOf 43 f1 := strOf_congr 43 _ _ fun i hi => put_recF HF.out h17 i hi
            have hyo := recF_ok f1 HF.out
            obtain ⟨y, hy⟩ : ∃ y, y = recF f1 := ⟨_, rfl⟩
            rw [← hy] at H5 hmay hstr hyo
            rw [show rcRes true y = .tuple #[.agg (rowOf 22 y.v), .int .i64 0] from rfl] at H5
            have HST := Lib.hid hstr
            have HYO := Lib.hid hyo
            have HMY := Lib.hid hmay
            clear hy hstr hyo hmay h17
            gi_wp2
            go_wp2_with fail
            go_at_call 50
            refine H5.out.mono ?_
            rintro e u2 ⟨rfl, g3⟩
            have hN := RowAt.new u2 128 22 QV.zero.v _ QV.zero_row
            obtain ⟨k1, k2⟩ := RowAt.store (P := Try.prog) hN 0 128 22 y.v (by decide) (by kernel_rfl) (fun j _ => QV.one _ j)
            obtain ⟨u3, hw2⟩ : ∃ W, W = (u2.alloc (.cells #[.int .u8 0, .int .u8 0, .int .u8 0, .int .u8 0, .int .u8 0, .int .u8 0, .int .u8 0, .int .u8 0, .int .u8 0, .int .u8 0, .int .u8 0, .int .u8 0, .int .u8 0, .int .u8 0, .int .u8 0, .int .u8 0, .int .u8 0, .bool false, .int .u8 0, .int .u64 0, .int .u64 0, .int .u64 0] 128)).setCells u2.heap.size 0 (rowOf 22 y.v).toList := ⟨_, rfl⟩
            have g2 : u2.grownBy u3 none := by rw [hw2]; exact grown_setCells u2.heap.size (Or.inl (Nat.le_refl _)) _ 0 _ (World.grownBy_alloc u2 _ none)
            rw [← hw2] at k1 k2
            have hX2 := k2.congr (v' := y.v) fun i hi => by rw [if_pos ⟨Nat.zero_le _, by omega⟩, Nat.sub_zero]
            have HS := Lib.hid k1
            have g := grown_trans g3 g2
            have HG3 := Lib.hid g
            obtain ⟨sb, hsb⟩ : ∃ b, b = u2.heap.size := ⟨_, rfl⟩
            rw [← hsb] at HS hX2
            have HSB := Lib.hid hsb
            have HLS := Lib.hid (hX2.load (P := Try.prog) 0 128 22 y.v (by decide) (fun j _ => by rw [Nat.zero_add]) (by kernel_rfl) (by kernel_rfl))
            have H29 := recPut_any y HYO.out u3
            rw [HMY.out] at H29
            have H29 := Lib.hid H29
            clear hN k1 k2 hw2 g2 g g3 hX2 H5 hsb
            go_upto_region 27 with (first | ((with_reducible refine wpList_here ?_); refine wpList_st (T := 128) (p := .pointer (some ⟨u2.heap.size, 0, none⟩)) (v := .agg (rowOf 22 y.v)) (.tmp 16) (.tmp 98) ?_ ?_ ?_ ?_ ?_ (by rw [← HSB.out]; exact HS.out) ?_; (· rfl); (· rfl); go_simp; (· kernel_rfl); (· kernel_rfl)))
            rw [← HSB.out]
            go_wp2_with (first | ((with_reducible refine wpList_here ?_); refine wpList_ld (p := .pointer (some ⟨sb, 0, none⟩)) 16 ?_ ?_ ?_ HLS.out ?_; (· rfl); go_simp; (· kernel_rfl)))
            go_at_call 49
            refine H29.out.mono ?_
            rintro e u4 ⟨⟨ap, cp, rfl, hO⟩, g4⟩
            have hO : OwnN u4 u3.heap.size (.slice ap 43 cp) 43 y.bytes := hO
            rw [show (.slice ap (if true = true then 43 else 0) cp : Value) = .slice ap 43 cp from rfl, show (.int .i64 (if true = true then 0 else 2) : Value) = .int .i64 0 from rfl]
            have hRd : Rd u4 u4.heap.size ap 43 y.bytes := by obtain ⟨a', c', e, _, hR⟩ := hO.rd; cases e; exact hR
            have g := grown_trans HG3.out g4
            have hcv1 := run_string cp hRd (y.b_lt HYO.out)
            have hcv2 := run_string c1 (HRd.out.grown (grown_trans HI.out.gr g) (by simp)) HF.out
            rw [← HST.out] at hcv2
            obtain ⟨sx, hsx⟩ : ∃ s, s = strOf 43 y.bytes := ⟨_, rfl⟩
            rw [← hsx] at hcv1 hcv2
            have hr3 := HI.out.res.kept g (by simp)
            have hd3 := (g.block D2 HDL.out (by simp)).trans HDD.out
            obtain ⟨f1', f2', f3'⟩ := fin_mem true HA.out.1 (by have := HRW.out; omega) HDA.out hr3 (grown_trans HI.out.gr g) hd3
            have HD := Lib.hid f1'
            have HR := Lib.hid f2'
            have HG := Lib.hid f3'
            have cr := hr3.cell
            have fr := hr3.frozen
            clear hO hRd g g4 hr3 hd3 f1' f2' f3' hsx HLS HS H29
            go_wp2_with fail
            refine ⟨by simp, .inl ⟨_, _, rfl, run_takeDeferred HD.out, ?_⟩⟩
            have cc := HR.out.cell
            refine ⟨.bool true, ?_, ⟨rfl, HG.out⟩⟩
            simp [results, Try.results9]
            go_simp
        · rintro D2 c k U hD hk h _
          exact h.elim
end Go.Proofs.Ytdagbighlgfhjaa
namespace Go.Proofs.Ytdagbighlgfhjaa
open Go.ChangeShapes Go.WideShapes Go.ChangeAt Go.RowKit

set_option maxRecDepth 100000 in
theorem recBack_lifted (os : Os) (started : os.Started) (H : Type) (enc : TypeId × Value → H) :
    ReturnsInHanded {} Try.checked os 9 .any (Rows.recBackSpec.pre6 enc Try.prog Try.f9 Rows.recBackRow.domain false) (Rows.recBackSpec.post enc Try.prog Try.f9 false true false false) := by
  refine returnsInHanded_of_change_sized (C := Try.checked) own started (by kernel_rfl) Try.func9
    (ChangeSpec.witness6 (enc := enc) (C := Try.checked) false ⟨#[], #[.slice none 0 0, .slice none 0 0], []⟩ 8 (by kernel_rfl) (by kernel_rfl) (by kernel_rfl) (by kernel_rfl)) ?_
  intro W base args ds gs before hval0 hW _ hwt _
  have hval : ∀ (j : Nat) t v, Try.f9.params[j]? = some t → args[j]? = some v → Value.okWide Try.prog W .any base t v := hval0
  have hW' := hW
  obtain ⟨p, q, hA0, hV, rfl, _, _⟩ := hW
  have hA : DataW.TrodAll enc Try.prog W 0 (fun _ => true) true Try.f9.params.toList args.toList ds p := hA0
  have hwt' : (DataW.weightsEach Try.prog (Try.f9.params.toList ++ Rows.recBackSpec.plain.varTypes Try.prog) (ds ++ gs)).all (· ≤ reachBytes) = true := hwt
  rw [Try.params9] at hA hval hwt'
  obtain ⟨v0, vs0, d0, ds0, p0, q0, hv0, rfl, rfl, h0, hA1⟩ := trodAll_cons hA
  obtain ⟨v1, vs1, d1, ds1, p1, q1, rfl, rfl, rfl, h1, hA2⟩ := trodAll_cons hA1
  obtain ⟨rfl, rfl, rfl⟩ := trodAll_nil hA2
  obtain ⟨l⟩ := args
  simp only at hv0
  subst hv0
  obtain ⟨rfl, rfl⟩ := trodVars_none hV
  have hw0 : ∀ y, y ∈ DataW.weights Try.prog 129 d0 → y ≤ reachBytes := fun y hy => by
    have hm : y ∈ DataW.weightsEach Try.prog (#[129, 39].toList ++ Rows.recBackSpec.plain.varTypes Try.prog) ([d0, d1] ++ []) := List.mem_append.2 (Or.inl hy)
    simpa using List.all_eq_true.1 hwt' y hm
  have hw1 : ∀ y, y ∈ DataW.weights Try.prog 39 d1 → y ≤ reachBytes := fun y hy => by
    have hm : y ∈ DataW.weightsEach Try.prog (#[129, 39].toList ++ Rows.recBackSpec.plain.varTypes Try.prog) ([d0, d1] ++ []) := List.mem_append.2 (Or.inr (List.mem_append.2 (Or.inl hy)))
    simpa using List.all_eq_true.1 hwt' y hm
  obtain ⟨a0, n0, c0, X0, rfl, hc0, hn0, hO0, hR0⟩ := open_recs (hval 0 129 v0 rfl rfl) h0 hw0
  obtain ⟨a1, n1, c1, f1, rfl, hc1, hn1, hR1, hf1⟩ := open_bytesW (P := Try.prog) under_bytes (by kernel_rfl) (by kernel_rfl) (by rw [show Try.prog.bytesOf 5 = 1 by kernel_rfl]; decide) (hval 1 39 v1 rfl rfl) h1 hw1
  clear hA0 hval0
  refine (RecBack_any _ n0 c0 a0 X0 n1 c1 a1 f1 W hO0 hR0 hR1 hf1 hc1).mono fun e W' ⟨he, hg⟩ => ?_
  subst he
  exact ⟨_, rfl, law_post laidOut hW' rfl rfl (tb := 4) rfl Try.underlying4 (by
      rw [Try.params9]
      intro t ht
      have hall : (([129, 39] : List TypeId).all fun u => Try.prog.readableRec u && decide (u < Try.prog.types.size)) = true := by kernel_rfl
      have := List.all_eq_true.1 hall t (by simpa using ht)
      simpa using this) hg⟩

theorem recBack_holds : Rows.RecBackSaid :=
  OpenClaim.holds_of_wide 9 Try.f9 rfl rfl rfl rfl rfl rfl rfl ⟨rfl, rfl, rfl, rfl, rfl⟩ rfl rfl rfl rfl rfl (by kernel_rfl) Try.func9 (by kernel_rfl)
    (of_decide_eq_true (by kernel_rfl)) (by unfold Func.isWrapper; first | (rw [if_pos (by decide +kernel)]; kernel_rfl) | (rw [if_neg (by decide +kernel)]; exact ⟨rfl, rfl⟩))
    (fun os started H enc _ => recBack_lifted os started H enc)

end Go.Proofs.Ytdagbighlgfhjaa
