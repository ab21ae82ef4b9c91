/-
  Proved: 'RecKnown' answers true. No condition: it takes nothing.
-/
import Derived.Test.YtdagbighlgfhjaaRecKnownAlla
import Derived.Test.YtdagbighlgfhjaaMake
import Derived.Test.YtdagbighlgfhjaaLaw
import Derived.Test.YtdagbighlgfhjaaRows
import Derived.Stop.Joined
import Derived.LaidLaws
import Derived.Test.YtdagbighlgfhjaaRd
import Derived.Deep.Slices
import Derived.SizedLaws
namespace Go.Proofs.Ytdagbighlgfhjaa
open Go.RowKit

set_option maxRecDepth 100000
set_option maxHeartbeats 4000000

attribute [local go_sem] Oper.semAt_some

def oneQ : QV := ⟨fun i => if i = 0 then 1 else 0, 3, true, 1, 5, 6, 7⟩
theorem oneQ_ok : oneQ.Ok := ⟨fun i => by show (if i = 0 then 1 else 0) < 256; split <;> decide, by decide, by decide, by decide, by decide, by decide⟩
theorem exec_one1 {o : Oper} {a : Act} (ho : o.op = .build 23 #[(0, .const (.int .u8 1))]) (w : World) : (execOp a.eval o).run Try.prog w = .ok (.value (.agg (cellsOf .u8 16 oneQ.id))) w := by
  unfold execOp
  rw [ho]
  kernel_rfl
theorem run_one2 (w : World) : (Instr.build 128 #[(0, .agg (cellsOf .u8 16 oneQ.id)), (1, .int .u8 3), (2, .bool true), (3, .int .u8 1), (4, .int .u64 5), (5, .int .u64 6), (6, .int .u64 7)]).run Try.prog w = .ok (.agg (rowOf 22 oneQ.v)) w := by kernel_rfl
theorem exec_one2 {o : Oper} {a : Act} (ho : o.op = .build 128 #[(0, .tmp 1), (1, .const (.int .u8 3)), (2, .const (.bool true)), (3, .const (.int .u8 1)), (4, .const (.int .u64 5)), (5, .const (.int .u64 6)), (6, .const (.int .u64 7))]) (h : a.eval (.tmp 1) = .agg (cellsOf .u8 16 oneQ.id)) (w : World) : (execOp a.eval o).run Try.prog w = .ok (.value (.agg (rowOf 22 oneQ.v))) w := by
  unfold execOp
  have ec : ∀ v, a.eval (.const v) = v := fun _ => rfl
  simp only [ho, h, ec, List.map_toArray, List.map_cons, List.map_nil, Sem.run_bind, run_one2, Result.andThen_ok, Sem.run_pure]
theorem one_any (w : World) : Calls Try.prog 127 #[] w fun e w' => e = .returned (.agg (rowOf 22 oneQ.v)) ∧ w.grownBy w' none := by
  have ga := World.grownBy_alloc w (.cells #[.int .u8 0, .int .u8 0, .int .u8 0, .int .u8 0, .int .u8 0, .int .u8 0, .int .u8 0, .int .u8 0, .int .u8 0, .int .u8 0, .int .u8 0, .int .u8 0, .int .u8 0, .int .u8 0, .int .u8 0, .int .u8 0, .int .u8 0, .bool false, .int .u8 0, .int .u64 0, .int .u64 0, .int .u64 0] 128) none
  have hR := RowAt.new w 128 22 QV.zero.v _ QV.zero_row
  go_enter Try.func127, Try.ntmps127
  go_upto_region 1 with fail
  obtain ⟨B, hB⟩ : ∃ B, B = w.heap.size := ⟨_, rfl⟩
  rw [← hB] at hR ⊢
  generalize w.alloc (.cells #[.int .u8 0, .int .u8 0, .int .u8 0, .int .u8 0, .int .u8 0, .int .u8 0, .int .u8 0, .int .u8 0, .int .u8 0, .int .u8 0, .int .u8 0, .int .u8 0, .int .u8 0, .int .u8 0, .int .u8 0, .int .u8 0, .int .u8 0, .bool false, .int .u8 0, .int .u64 0, .int .u64 0, .int .u64 0] 128) = w1 at *
  obtain ⟨k1, k2⟩ := RowAt.store (P := Try.prog) hR 0 128 22 oneQ.v (by decide) (by kernel_rfl) (fun j _ => QV.one _ j)
  obtain ⟨wz, hwz⟩ : ∃ W, W = w1.setCells B 0 (rowOf 22 oneQ.v).toList := ⟨_, rfl⟩
  rw [← hwz] at k1 k2
  have gz : w1.grownBy wz (some B) := by rw [hwz]; exact grown_setCells B (Or.inr rfl) _ 0 _ (grown_refl _ _)
  have HK := Lib.hid (k2.congr (v' := oneQ.v) fun i hi => by rw [if_pos ⟨Nat.zero_le _, by omega⟩, Nat.sub_zero])
  have HS := Lib.hid k1
  have HGZ := Lib.hid (grown_into ga gz (by omega))
  obtain ⟨v1, hv1⟩ : ∃ v, v = Value.agg (rowOf 22 oneQ.v) := ⟨_, rfl⟩
  clear k1 k2 hwz gz hR ga hB
  go_wp2_with (first | ((with_reducible refine wpList_here ?_); refine wpList_want (v := .agg (cellsOf .u8 16 oneQ.id)) (w' := w1) ?_ (exec_one1 rfl w1) ?_; (· kernel_rfl)) | ((with_reducible refine wpList_here ?_); refine wpList_want (v := .agg (rowOf 22 oneQ.v)) (w' := w1) ?_ (exec_one2 rfl rfl w1) ?_; (· kernel_rfl)) | ((with_reducible refine wpList_here ?_); refine wpList_st (T := 128) (p := .pointer (some ⟨B, 0, none⟩)) (v := .agg (rowOf 22 oneQ.v)) (.tmp 0) (.tmp 2) ?_ ?_ ?_ ?_ ?_ HS.out ?_; (· rfl); (· rfl); go_simp; (· kernel_rfl); (· kernel_rfl)))
  exact bodyPost_ret (res_rowAt rfl rfl HK.out (by kernel_rfl) (by kernel_rfl)) rfl ⟨rfl, HGZ.out⟩
theorem one_enters : ∀ args w, (callFunc 127 args).run Try.prog w = .ok (.enter 127 args) w := enters_of Try.func127 (by kernel_rfl) rfl
theorem wpIn_region_heldR {P : Program} {ops : List Oper} {Q : Exit → Act → World → Prop} {n l id : Nat} {a : Act} {w : World} (S : World → Prop) (hm : P.follows .mixedOrders = true) (hD : noDefer ops = true) (hlo : ¬ LetsOut Q)
    (h : wpAnyH P .any ops.toArray Q S ops.toArray.size (Array.replicate ops.toArray.size false) a w.drew) : (Code.region id ops.toArray true).wpIn (Fence.wide.inRound l) n P Q a w :=
  wpIn_region_any hm (any_round hlo (noDefer_spec hD) _ _ _ _ (wpAny_of_held _ _ _ _ h))
/-- The bytes of that record, and a byte more. -/
def oneF : Nat → Nat := cat 43 oneQ.bytes (fun _ => 9)
theorem oneF_at (i : Nat) (h : i < 43) : shF oneF (43 * 0) i = oneQ.bytes i := by
  unfold shF oneF cat
  rw [Nat.mul_zero, Nat.zero_add, if_pos h]
theorem one_n : IsN 44 oneF 1 := ⟨fun j hj => by
  obtain rfl : j = 0 := by omega
  exact ⟨by decide, (recOk_put oneQ_ok oneF_at).trans (by decide)⟩, fun h => by have := h.1; omega⟩
theorem one_rec : rowOf 22 (recs oneF 0).v = rowOf 22 oneQ.v := recF_put oneQ_ok oneF_at
structure WkI (w : World) (RB NB : Nat) (k : Nat) (U : World) : Prop where
  res : Boxed U RB 4 (.bool false)
  n : Boxed U NB 3 (.int .i64 (k : Nat))
  gr : w.grownBy U none
theorem WkI.own {w : World} {RB NB A : Nat} (h1 : RB < A) (h2 : NB < A) (h3 : w.heap.size ≤ A) : OwnFrom A (WkI w RB NB) := fun s W W' row h hg hr =>
  ⟨h.res.kept hg (fun e => by have := (hr _ e.symm).1; omega), h.n.kept hg (fun e => by have := (hr _ e.symm).1; omega), by
    cases row with
    | none => exact grown_trans h.gr hg
    | some r => exact grown_new h.gr hg (by have := (hr r rfl).1; omega)⟩
theorem works11_any (w : World) : Calls Try.prog 51 #[] w fun e w' => e = .returned (.bool true) ∧ w.grownBy w' none := by
  have gb := World.grownBy_alloc w (.cells #[.bool false] 4) none
  have hRB := Boxed.new w 4 (.bool false)
  refine (callsIn_wide (n := 8)).1 ?_
  refine callsIn_of_wp_marks Try.func51 rfl trivial ?_ rfl
  simp only [Try.ntmps51, List.size_toArray, List.length_nil, Nat.reduceSub, Array.replicate_succ, Array.replicate_zero, List.push_toArray, List.append_toArray, List.nil_append, List.cons_append]
  refine wpIn_wide.2 ?_
  go_upto_region 1 with fail
  obtain ⟨RB, hB⟩ : ∃ B, B = w.heap.size := ⟨_, rfl⟩
  rw [← hB] at hRB ⊢
  generalize w.alloc (.cells #[.bool false] 4) = w1 at *
  have HB := Lib.hid (show RB = w.heap.size from hB)
  have HRB := Lib.hid hRB
  have HG1 := Lib.hid gb
  have H1 := Lib.hid (one_any w1)
  clear hB hRB gb
  go_wp2_with fail
  go_at_call 127
  refine H1.out.mono ?_
  rintro e w2 ⟨rfl, g2⟩
  have H2 := recPut_any oneQ oneQ_ok w2
  rw [show oneQ.may = true by decide] at H2
  obtain ⟨v1, hv1⟩ : ∃ v, v = Value.agg (rowOf 22 oneQ.v) := ⟨_, rfl⟩
  rw [← hv1] at H2 ⊢
  have H2 := Lib.hid H2
  have HG2 := Lib.hid (show w1.grownBy w2 none from g2)
  clear H1 g2 hv1
  go_wp2_with fail
  go_at_call 49
  refine H2.out.mono ?_
  rintro e w3 ⟨⟨a, c, rfl, hO⟩, g3⟩
  have hO : OwnN w3 w2.heap.size (.slice a 43 c) 43 oneQ.bytes := hO
  rw [show (.slice a (if true = true then 43 else 0) c : Value) = .slice a 43 c from rfl, show (.int .i64 (if true = true then 0 else 2) : Value) = .int .i64 0 from rfl]
  have HO := Lib.hid hO
  have HG3 := Lib.hid (grown_trans HG2.out g3)
  clear H2 g3 hO HG2
  go_upto_region 5 with fail
  have gn := World.grownBy_alloc w3 (.cells #[.int .i64 0] 3) none
  have hNB := Boxed.new w3 3 (.int .i64 0)
  obtain ⟨NB, hNBe⟩ : ∃ B, B = w3.heap.size := ⟨_, rfl⟩
  rw [← hNBe] at hNB ⊢
  have hz := World.size_alloc w3 (.cells #[.int .i64 0] 3)
  generalize w3.alloc (.cells #[.int .i64 0] 3) = w4 at *
  have hRd : Rd w4 w4.heap.size a 43 oneQ.bytes := by
    obtain ⟨a', c', e, _, hR⟩ := HO.out.rd
    cases e
    exact (hR.grown gn (by simp)).mono (by omega)
  have gE := World.grownBy_alloc w4 (.cells #[] 5) none
  have hE : OwnN (w4.alloc (.cells #[] 5)) w4.heap.size (.slice (some ⟨w4.heap.size, 0, none⟩) 0 0) 0 (fun _ => 0) := ⟨Or.inr ⟨w4.heap.size, 0, rfl, (ownR_empty w4).congr (fun i hi => absurd hi (Nat.not_lt_zero _)), Nat.le_refl _⟩⟩
  obtain ⟨a5, c5, w5, hap5, hO5, hG5, _⟩ := app_N1 c 39 gE hE (hRd.grown gE (by simp)) (by decide)
  have g9 := World.grownBy_alloc w5 (.cells #[.int .u8 (9 : Nat)] 5) none
  obtain ⟨a7, c7, w7, hap7, hO7, hG7, _⟩ := app_N1 1 39 (grown_trans hG5 g9) (hO5.grown g9) (rd_one w5 9 (w5.heap.size + 1) (by omega)) (by decide)
  have HAP5 := Lib.hid (show (Builtin.append_ #[39, 39] 39 #[.slice (some ⟨w4.heap.size, 0, none⟩) 0 0, .slice a 43 c]).run Try.prog (w4.alloc (.cells #[] 5)) = .ok (.slice a5 43 c5) w5 from hap5)
  have HAP7 := Lib.hid (show (Builtin.append_ #[39, 39] 39 #[.slice a5 43 c5, .slice (some ⟨w5.heap.size, 0, none⟩) 1 1]).run Try.prog (w5.alloc (.cells #[.int .u8 9] 5)) = .ok (.slice a7 44 c7) w7 from hap7)
  have hO7 : OwnN w7 w4.heap.size (.slice a7 44 c7) 44 oneF := hO7.congr (fun i hi => by
    unfold oneF
    by_cases h : i < 43
    · unfold cat; rw [if_pos (show i < 0 + 43 from h), if_pos h, if_neg (by omega), Nat.sub_zero]
    · unfold cat; rw [if_neg (show ¬ i < 0 + 43 from h), if_neg h])
  have HALL := Lib.hid (recAll_any w7.heap.size 44 c7 a7 oneF w7 (by obtain ⟨a', c', e, _, hR⟩ := hO7.rd; cases e; exact hR) (by decide))
  have HN := Lib.hid (hNB.kept hG7 (by simp))
  have HG4 := Lib.hid (grown_trans HG3.out gn)
  have HR7 := Lib.hid (HRB.out.kept (grown_trans HG4.out hG7) (by simp))
  have HG7 := Lib.hid (grown_trans (grown_trans HG1.out HG4.out) hG7)
  have HNR := Lib.hid (show RB ≠ NB by have := HRB.out.lt; have := HG3.out.size; omega)
  have HNW := Lib.hid (show w.heap.size ≤ NB by have := HG1.out.size; have := HG3.out.size; omega)
  have HRW := Lib.hid (show w.heap.size ≤ RB by have := HB.out; omega)
  have HNL := Lib.hid (show NB < w7.heap.size by have := hG7.size; omega)
  have HRL := Lib.hid (show RB < w7.heap.size from HR7.out.lt)
  clear hap5 hap7 hO5 hG5 hO7 hG7 g9 gE hE hRd hNB gn hz hNBe HO HG3 HG4
  go_wp2_with (first | (at_builtin; refine wpList_append_run rfl (.tmp 18) (.tmp 19) 39 39 rfl _ _ _ _ rfl rfl HAP5.out ?_) | (at_builtin; refine wpList_append_run rfl (.tmp 20) (.tmp 21) 39 39 rfl _ _ _ _ rfl rfl HAP7.out ?_))
  go_at_call 57
  refine HALL.out.mono ?_
  rintro e w8 ⟨⟨B, a, c, rfl, hBs, hC, hLc, hO⟩, g8⟩
  have HSEQ := Lib.hid (all_seq (8 - 1) 1 44 c B a oneF (fun x => x = NB) w8 (fun i => by unfold oneF cat; split; exact oneQ.b_lt oneQ_ok _; exact (by decide : 9 < 256)) one_n (by decide) hLc (by decide) (by have := HNL.out; omega) (fun tb o e => by
    rcases hO.ex with ⟨e2, _⟩ | ⟨q, cap, e2, _, hq⟩
    · cases e2
    · cases e2; cases e; have := HNL.out; omega) hC (by obtain ⟨a', c', e, _, hR⟩ := hO.rd; cases e; exact hR))
  have HI0 : Hid (WkI w RB NB 0 w8) := Lib.hid ⟨HR7.out.kept g8 (by simp), HN.out.kept g8 (by simp), grown_trans HG7.out g8⟩
  have HS8 := Lib.hid g8.size
  clear hBs hC hLc hO g8 HALL HAP5 HAP7 HN HR7 HG7
  go_wp2_with fail
  refine (wpIn_wide (n := 8)).1 ?_
  refine wpIn_rangeN rfl (by decide) (gf := 131) (lb := #[.pointer (some ⟨B, 0, none⟩)]) rfl trivial (enters_of Try.func131 (by kernel_rfl) rfl) HSEQ.out (fun _ => rfl)
    (WkI w RB NB) (fun _ _ _ => False) (WkI.own (by have := HRL.out; have := HS8.out; omega) (by have := HNL.out; have := HS8.out; omega) (by have := HI0.out.gr.size; omega)) (fun _ _ _ _ _ h _ _ => h) HI0.out
    (fun k act U => ∃ rb x1 x2 x6 x7 x8 x9 x10 x11 x12 x13 x14 x15 x16 x17 x18 x19 x20 x21 x22 x23 x24 x25 x26 x27 x28 x29 x30 x31 x32 x33 x34 x35 x36, act = { tmps := #[.pointer (some ⟨RB, 0, none⟩), x1, x2, .pointer (some ⟨NB, 0, none⟩), .int .i64 (43 * k : Nat), .pointer (some ⟨rb, 0, none⟩), x6, x7, x8, x9, x10, x11, x12, x13, x14, x15, x16, x17, x18, x19, x20, x21, x22, x23, x24, x25, x26, x27, x28, x29, x30, x31, x32, x33, x34, x35, x36], defers := [] } ∧ RowAt U rb 128 22 (recs oneF k).v ∧ w8.heap.size ≤ rb ∧ WkI w RB NB k U) ?_ ?_ ?_ ?_ ?_
  · intro k a' _ U U' row h hgr hr
    obtain ⟨rb, x1, x2, x6, x7, x8, x9, x10, x11, x12, x13, x14, x15, x16, x17, x18, x19, x20, x21, x22, x23, x24, x25, x26, x27, x28, x29, x30, x31, x32, x33, x34, x35, x36, rfl, h2, h3, h4⟩ := h
    refine ⟨rb, _, _, _, _, _, _, _, _, _, _, _, _, _, _, _, _, _, _, _, _, _, _, _, _, _, _, _, _, _, _, _, _, _, rfl, h2.grown hgr (fun e => ?_), h3, WkI.own (A := w8.heap.size) (by have := HRL.out; have := HS8.out; omega) (by have := HNL.out; have := HS8.out; omega) (by have := HI0.out.gr.size; omega) k U U' row h4 hgr hr⟩
    obtain ⟨_, o, ho, hc⟩ := hr _ e.symm
    rw [h2.block] at ho
    cases ho
    cases hc
  · rintro l k U K hk hI hU hK
    obtain rfl : k = 0 := by omega
    have hN := RowAt.new U 128 22 QV.zero.v _ QV.zero_row
    obtain ⟨k1, k2⟩ := RowAt.store (P := Try.prog) hN 0 128 22 (recs oneF 0).v (by decide) (by kernel_rfl) (fun j _ => QV.one _ j)
    obtain ⟨w2, hw2⟩ : ∃ W, W = (U.alloc (.cells #[.int .u8 0, .int .u8 0, .int .u8 0, .int .u8 0, .int .u8 0, .int .u8 0, .int .u8 0, .int .u8 0, .int .u8 0, .int .u8 0, .int .u8 0, .int .u8 0, .int .u8 0, .int .u8 0, .int .u8 0, .int .u8 0, .int .u8 0, .bool false, .int .u8 0, .int .u64 0, .int .u64 0, .int .u64 0] 128)).setCells U.heap.size 0 (rowOf 22 (recs oneF 0).v).toList := ⟨_, rfl⟩
    have g2 : U.grownBy w2 none := by rw [hw2]; exact grown_setCells U.heap.size (Or.inl (Nat.le_refl _)) _ 0 _ (World.grownBy_alloc U _ none)
    rw [← hw2] at k1 k2
    have hX2 := k2.congr (v' := (recs oneF 0).v) fun i hi => by rw [if_pos ⟨Nat.zero_le _, by omega⟩, Nat.sub_zero]
    have HS := Lib.hid k1
    have HX := Lib.hid hX2
    have HG := Lib.hid g2
    have HI := Lib.hid hI
    have HK := Lib.hid hK
    have HU := Lib.hid hU
    clear hN k1 k2 hw2 hX2 g2 hI hK hU
    obtain ⟨y, hy⟩ : ∃ y, y = recs oneF 0 := ⟨_, rfl⟩
    rw [← hy] at HS ⊢
    have HY := Lib.hid hy
    clear hy
    gi_wp2_with ((with_reducible refine roundIn_here ?_); refine roundIn_st (T := 128) (p := .pointer (some ⟨U.heap.size, 0, none⟩)) (v := .agg (rowOf 22 y.v)) (.tmp 5) (.tmp 25) ?_ ?_ ?_ ?_ ?_ HS.out ?_; (· rfl); (· rfl); go_simp; (· kernel_rfl); (· kernel_rfl))
    exact HK.out _ _ (KeepsOthers.of_grownBy HG.out (fun _ _ e => by cases e)) (KeepX.grown (by have := HU.out; omega) HG.out) ⟨U.heap.size, _, _, _, _, _, _, _, _, _, _, _, _, _, _, _, _, _, _, _, _, _, _, _, _, _, _, _, _, _, _, _, _, _, rfl, HX.out, by have := HU.out; omega, ⟨HI.out.res.kept HG.out (by simp), HI.out.n.kept HG.out (by simp), grown_trans HI.out.gr HG.out⟩⟩
  · rintro l k a' U hk hU ⟨rb, x1, x2, x6, x7, x8, x9, x10, x11, x12, x13, x14, x15, x16, x17, x18, x19, x20, x21, x22, x23, x24, x25, x26, x27, x28, x29, x30, x31, x32, x33, x34, x35, x36, rfl, hX, hrb, hI⟩
    obtain rfl : k = 0 := by omega
    have HX : Hid (RowAt U rb 128 22 oneQ.v) := Lib.hid ⟨by rw [← one_rec]; exact hX.block⟩
    have HI := Lib.hid hI
    have HU := Lib.hid hU
    clear hX hI hU hrb hk
    gi_wp2
    refine wpIn_region_heldR (fun W => U.grownBy W none) (by kernel_rfl) (by kernel_rfl) (by rintro ⟨_, _, h⟩; exact h) ?_
    change wpAnyH _ _ _ _ _ 7 #[false, false, false, false, false, false, false] _ (World.drew _)
    have gq := grown_drew (grown_refl U none)
    generalize World.drew U = q1 at *
    refine wpAnyH_takeD (some 26) (i := 0) (v := (.int .i64 0)) rfl rfl (by kernel_rfl) (by kernel_rfl) (by kernel_rfl) (fun _ _ _ h => h) (Or.inl ⟨rfl, fun _ _ => rfl⟩) gq ?_
    simp only [Act.put, List.setIfInBounds_toArray, List.set_cons_succ, List.set_cons_zero]
    refine wpAnyH_takeD (some 27) (i := 1) (v := (.bool false)) rfl rfl (by kernel_rfl) (by kernel_rfl) (by kernel_rfl) (fun _ _ _ h => h) (Or.inl ⟨rfl, fun _ _ => by go_simp⟩) gq ?_
    simp only [Act.put, List.setIfInBounds_toArray, List.set_cons_succ, List.set_cons_zero]
    refine wpAnyH_takeD (some 28) (i := 2) (v := (.bool false)) rfl rfl (by kernel_rfl) (by kernel_rfl) (by kernel_rfl) (fun _ _ _ h => h) (Or.inl ⟨rfl, fun _ _ => rfl⟩) gq ?_
    simp only [Act.put, List.setIfInBounds_toArray, List.set_cons_succ, List.set_cons_zero]
    refine wpAnyH_takeD (some 29) (i := 3) (v := (.agg (rowOf 22 oneQ.v))) rfl rfl (by kernel_rfl) (by kernel_rfl) (by kernel_rfl) (fun _ _ _ h => h) (Or.inl ⟨rfl, fun W hW => exec_loadQ (.tmp 5) _ _ rfl rfl ((HX.out.grown hW (by simp)).load (P := Try.prog) 0 128 22 oneQ.v (by decide) (fun j _ => by rw [Nat.zero_add]) (by kernel_rfl) (by kernel_rfl))⟩) gq ?_
    simp only [Act.put, List.setIfInBounds_toArray, List.set_cons_succ, List.set_cons_zero]
    refine wpAnyH_callD (some 30) (i := 4) 127 #[] (R := fun v W => v = .agg (rowOf 22 oneQ.v) ∧ q1.grownBy W none) (by kernel_rfl) rfl rfl rfl (exec_fn0 _ rfl) one_enters ((one_any q1).mono fun e W h => ⟨_, h.1, rfl, h.2⟩) ?_
    rintro v W3 ⟨rfl, g3⟩
    have gW := grown_trans gq g3
    refine ⟨gW, ?_⟩
    simp only [Act.put, List.setIfInBounds_toArray, List.set_cons_succ, List.set_cons_zero]
    refine wpAnyH_takeD (some 31) (i := 5) (v := (.bool false)) rfl rfl (by kernel_rfl) (by kernel_rfl) (by kernel_rfl) (fun _ _ _ h => h) (Or.inl ⟨rfl, fun W _ => exec_neR 29 30 oneQ rfl rfl rfl⟩) gW ?_
    simp only [Act.put, List.setIfInBounds_toArray, List.set_cons_succ, List.set_cons_zero]
    refine wpAnyH_takeD (some 32) (i := 6) (v := (.bool false)) rfl rfl (by kernel_rfl) (by kernel_rfl) (by kernel_rfl) (fun _ _ _ h => h) (Or.inl ⟨rfl, fun _ _ => by go_simp⟩) gW ?_
    simp only [Act.put, List.setIfInBounds_toArray, List.set_cons_succ, List.set_cons_zero]
    refine wpAnyH_done (by kernel_rfl) ?_ _
    have hn := HI.out.n.kept gW (by simp)
    have cn : W3.cell? ⟨NB, 0, none⟩ = some (.int .i64 0) := hn.cell
    have fn := hn.frozen
    have HF : Hid (postN w8.heap.size (fun x => x = NB) (WkI w RB NB) (fun _ _ _ => False) (0 + 1) U .normal { tmps := #[], defers := [] } (W3.setCell ⟨NB, 0, none⟩ (.int .i64 1))) := Lib.hid ⟨(KeepsOthers.of_grownBy gW (fun _ _ e => by cases e)).trans (KeepsOthers.setCell _ _ _), (KeepX.grown (by have := HU.out; omega) gW).trans (KeepX.into (by have := gW.size; have := HU.out; omega) (grownBy_setCell' W3 NB _) (Or.inl rfl)), ⟨(HI.out.res.kept gW (by simp)).other HNR.out _, hn.set _, grown_setCell_new (grown_trans HI.out.gr gW) _ _ (Or.inl HNW.out)⟩⟩
    clear hn gq g3 gW
    gi_wp2
    exact HF.out
  · rintro D U hD hI hDd
    have cn : U.cell? ⟨NB, 0, none⟩ = some (.int .i64 1) := hI.n.cell
    have cr : U.cell? ⟨RB, 0, none⟩ = some (.bool false) := hI.res.cell
    have fr := hI.res.frozen
    have hr2 := hI.res.set (.bool true)
    have hDl : RB ≠ D := by
      intro e
      subst e
      rw [show U.heap[RB]? = _ from hI.res] at hDd
      cases hDd
    have hD2 : (U.setCell ⟨RB, 0, none⟩ (.bool true)).heap[D]? = some (.deferred (some [])) := (heap_setCell_other _ _ _ _ (fun e => hDl e.symm)).trans hDd
    have hG : w.grownBy ((U.setCell ⟨RB, 0, none⟩ (.bool true)).putObj D (.deferred none)) none := grown_new (grown_setCell_new hI.gr _ _ (Or.inl HRW.out)) (grownBy_putObj' _ D (.deferred none)) (by have := HI0.out.gr.size; omega)
    have hR : Boxed ((U.setCell ⟨RB, 0, none⟩ (.bool true)).putObj D (.deferred none)) RB 4 (.bool true) := hr2.kept (grownBy_putObj' _ D (.deferred none)) (fun e => hDl (by cases e; rfl))
    have HD := Lib.hid hD2
    have HG := Lib.hid hG
    have HR := Lib.hid hR
    clear hD2 hG hR hDd hr2 hI hDl
    gi_wp2
    go_wp2_with fail
    refine ⟨by simp, .inl ⟨_, _, rfl, run_takeDeferred HD.out, ?_⟩⟩
    have cc := HR.out.cell
    refine ⟨.bool true, ?_, rfl, HG.out⟩
    simp [results, Try.results51]
    go_simp
  · rintro D c k U _ _ h _
    exact h.elim
end Go.Proofs.Ytdagbighlgfhjaa
namespace Go.Proofs.Ytdagbighlgfhjaa
open Go.RowKit

set_option maxRecDepth 100000
set_option maxHeartbeats 4000000

def kn1 : QV := ⟨fun _ => 0, 0, false, 0, 0, 0, 2⟩
def kn2 : QV := ⟨fun _ => 0, 0, false, 1, 3, 0, 2⟩
def kn3 : QV := ⟨fun _ => 0, 0, false, 1, 3, 2, 9⟩
def knA (k : Nat) : QV := if k = 0 then kn1 else if k = 1 then kn2 else kn3
theorem knA_ok (k : Nat) : (knA k).Ok := by
  unfold knA
  split
  · exact ⟨fun _ => (by decide : 0 < 256), by decide, by decide, by decide, by decide, by decide⟩
  · split
    · exact ⟨fun _ => (by decide : 0 < 256), by decide, by decide, by decide, by decide, by decide⟩
    · exact ⟨fun _ => (by decide : 0 < 256), by decide, by decide, by decide, by decide, by decide⟩
theorem knA_may (k : Nat) (hk : k < 3) : (knA k).may = false := by
  obtain rfl | rfl | rfl : k = 0 ∨ k = 1 ∨ k = 2 := by omega
  · decide
  · decide
  · decide
theorem run_kn1 {o : Oper} {a : Act} (ho : o.op = .build 128 #[(6, .const (.int .u64 2))]) (w : World) : (execOp a.eval o).run Try.prog w = .ok (.value (.agg (rowOf 22 kn1.v))) w := by
  unfold execOp
  rw [ho]
  kernel_rfl
theorem run_kn2 {o : Oper} {a : Act} (ho : o.op = .build 128 #[(3, .const (.int .u8 1)), (4, .const (.int .u64 3)), (6, .const (.int .u64 2))]) (w : World) : (execOp a.eval o).run Try.prog w = .ok (.value (.agg (rowOf 22 kn2.v))) w := by
  unfold execOp
  rw [ho]
  kernel_rfl
theorem run_kn3 {o : Oper} {a : Act} (ho : o.op = .build 128 #[(3, .const (.int .u8 1)), (4, .const (.int .u64 3)), (5, .const (.int .u64 2)), (6, .const (.int .u64 9))]) (w : World) : (execOp a.eval o).run Try.prog w = .ok (.value (.agg (rowOf 22 kn3.v))) w := by
  unfold execOp
  rw [ho]
  kernel_rfl
def knV (i : Nat) : Value := (knA (i / 22)).v (i % 22)
theorem run_knS (w : World) : (Instr.buildSlice 129 3 #[(0, .agg (rowOf 22 kn1.v)), (1, .agg (rowOf 22 kn2.v)), (2, .agg (rowOf 22 kn3.v))]).run Try.prog w = .ok (.slice (some ⟨w.heap.size, 0, none⟩) 3 3) (w.alloc (.cells (rowOf 66 knV) 128)) := by kernel_rfl
theorem exec_knS {o : Oper} {a : Act} (ho : o.op = .buildSlice 129 3 #[(0, .tmp 7), (1, .tmp 8), (2, .tmp 9)]) (h1 : a.eval (.tmp 7) = .agg (rowOf 22 kn1.v)) (h2 : a.eval (.tmp 8) = .agg (rowOf 22 kn2.v)) (h3 : a.eval (.tmp 9) = .agg (rowOf 22 kn3.v)) (w : World) : (execOp a.eval o).run Try.prog w = .ok (.value (.slice (some ⟨w.heap.size, 0, none⟩) 3 3)) (w.alloc (.cells (rowOf 66 knV) 128)) := by
  unfold execOp
  simp only [ho, h1, h2, h3, List.map_toArray, List.map_cons, List.map_nil, Sem.run_bind, run_knS, Result.andThen_ok, Sem.run_pure]
theorem RecKnown_any (w : World) : Calls Try.prog 6 #[] w fun e w' => e = .returned (.bool true) ∧ w.grownBy w' none := by
  have gA := World.grownBy_alloc w (.cells (rowOf 66 knV) 128) none
  have hA := RowAt.new w 128 66 knV _ rfl
  go_enter Try.func6, Try.ntmps6
  go_upto_region 1 with fail
  obtain ⟨SB, hB⟩ : ∃ B, B = w.heap.size := ⟨_, rfl⟩
  rw [← hB] at hA
  have HB := Lib.hid hB
  obtain ⟨w1, hw1⟩ : ∃ W, W = w.alloc (.cells (rowOf 66 knV) 128) := ⟨_, rfl⟩
  rw [← hw1] at hA gA
  have HW := Lib.hid hw1
  have HA := Lib.hid hA
  have HG := Lib.hid gA
  clear hA gA hw1 hB
  go_wp2_with (first | ((with_reducible refine wpList_here ?_); refine wpList_want (v := .agg (rowOf 22 kn1.v)) (w' := w) ?_ (run_kn1 rfl w) ?_; (· kernel_rfl)) | ((with_reducible refine wpList_here ?_); refine wpList_want (v := .agg (rowOf 22 kn2.v)) (w' := w) ?_ (run_kn2 rfl w) ?_; (· kernel_rfl)) | ((with_reducible refine wpList_here ?_); refine wpList_want (v := .agg (rowOf 22 kn3.v)) (w' := w) ?_ (run_kn3 rfl w) ?_; (· kernel_rfl)) | ((with_reducible refine wpList_here ?_); refine wpList_want (v := .slice (some ⟨w.heap.size, 0, none⟩) 3 3) (w' := w.alloc (.cells (rowOf 66 knV) 128)) ?_ (exec_knS rfl rfl rfl rfl w) ?_; (· kernel_rfl)))
  rw [← HB.out, ← HW.out]
  go_loopw [12] (fun u12 wr => ∃ k : Nat, k ≤ 3 ∧ u12 = .int .i64 k ∧ RowAt wr SB 128 66 knV ∧ w.grownBy wr none) (fun u12 _ => 3 - (intOf u12).toNat)
  case atStart => exact ⟨0, by decide, rfl, HA.out, HG.out⟩
  case round =>
    clear HA HG HW
    obtain ⟨k, hk, rfl, hA, hG⟩ := hrel
    by_cases hlt : k < 3
    · have hL : (Instr.loadAt 128 (.pointer (some ⟨SB, k * 22, none⟩))).run Try.prog wr = .ok (.agg (rowOf 22 (knA k).v)) wr := hA.load (P := Try.prog) (k * 22) 128 22 (knA k).v (by omega) (fun j hj => by
        unfold knV
        rw [show (k * 22 + j) / 22 = k by omega, show (k * 22 + j) % 22 = j by omega]) (by kernel_rfl) (by kernel_rfl)
      have hP := fun W => recPut_any (knA k) (knA_ok k) W
      rw [knA_may k hlt] at hP
      obtain ⟨y, hy⟩ : ∃ y, y = knA k := ⟨_, rfl⟩
      rw [← hy] at hL hP
      have hN := RowAt.new wr 128 22 QV.zero.v _ QV.zero_row
      obtain ⟨k1, k2⟩ := RowAt.store (P := Try.prog) hN 0 128 22 y.v (by decide) (by kernel_rfl) (fun j _ => QV.one _ j)
      obtain ⟨w2, hw2⟩ : ∃ W, W = (wr.alloc (.cells #[.int .u8 0, .int .u8 0, .int .u8 0, .int .u8 0, .int .u8 0, .int .u8 0, .int .u8 0, .int .u8 0, .int .u8 0, .int .u8 0, .int .u8 0, .int .u8 0, .int .u8 0, .int .u8 0, .int .u8 0, .int .u8 0, .int .u8 0, .bool false, .int .u8 0, .int .u64 0, .int .u64 0, .int .u64 0] 128)).setCells wr.heap.size 0 (rowOf 22 y.v).toList := ⟨_, rfl⟩
      have g2 : wr.grownBy w2 none := by rw [hw2]; exact grown_setCells wr.heap.size (Or.inl (Nat.le_refl _)) _ 0 _ (World.grownBy_alloc wr _ none)
      rw [← hw2] at k1 k2
      have hX2 := k2.congr (v' := y.v) fun i hi => by rw [if_pos ⟨Nat.zero_le _, by omega⟩, Nat.sub_zero]
      have HS := Lib.hid k1
      have HLA := Lib.hid hL
      have HLX := Lib.hid (hX2.load (P := Try.prog) 0 128 22 y.v (by decide) (fun j _ => by rw [Nat.zero_add]) (by kernel_rfl) (by kernel_rfl))
      have HP := Lib.hid (hP w2)
      have HA := Lib.hid (hA.grown g2 (by simp))
      have HG := Lib.hid (grown_trans hG g2)
      have HK := Lib.hid hlt
      have j1 : (k : Int) < 3 := by omega
      have j2 : k < 3 := hlt
      clear hL hP hN k1 k2 hw2 hX2 g2 hA hG hy hk hlt
      go_upto_region 4 with (first | ((with_reducible refine wpList_here ?_); refine wpList_ld (p := .pointer (some ⟨SB, k * 22, none⟩)) 14 ?_ ?_ ?_ HLA.out ?_; (· rfl); go_simp; (· kernel_rfl)) | ((with_reducible refine wpList_here ?_); refine wpList_st (T := 128) (p := .pointer (some ⟨wr.heap.size, 0, none⟩)) (v := .agg (rowOf 22 y.v)) (.tmp 2) (.tmp 15) ?_ ?_ ?_ ?_ ?_ HS.out ?_; (· rfl); (· rfl); go_simp; (· kernel_rfl); (· kernel_rfl)))
      go_wp2_with (first | ((with_reducible refine wpList_here ?_); refine wpList_ld (p := .pointer (some ⟨wr.heap.size, 0, none⟩)) 2 ?_ ?_ ?_ HLX.out ?_; (· rfl); go_simp; (· kernel_rfl)))
      go_at_call 49
      refine HP.out.mono ?_
      rintro e w3 ⟨⟨a, c, rfl, hO⟩, g3⟩
      have HA3 := Lib.hid (HA.out.grown g3 (by simp))
      have HG3 := Lib.hid (grown_trans HG.out g3)
      clear hO g3 HA HG HP HLX HLA HS
      go_wp2_with fail
      go_roundw
      case rel => exact ⟨k + 1, HK.out, rfl, HA3.out, HG3.out⟩
      case measure =>
        have := HK.out
        simp [intOf]
        omega
    · have j1 : ¬ (k : Int) < 3 := by omega
      obtain ⟨cm, hmk, hF⟩ := make_any 42 (by decide) wr
      have hmk2 : (Instr.makeSlice 39 (.int .i64 42) (.int .i64 42)).run Try.prog wr = .ok (.slice (some ⟨wr.heap.size, 0, none⟩) 42 42) (wr.alloc (.cells cm 5)) := hmk
      have gm := World.grownBy_alloc wr (.cells cm 5) none
      have hR6 := hF.rd (by decide) 42 (by decide)
      have HT := recTake_f _ 42 42 _ (fun _ => 0) _ hR6 (by decide) (fun _ => by decide)
      rw [show rcRes (recOk 42 fun _ => 0) (recF fun _ => 0) = .tuple #[.agg (rowOf 22 QV.zero.v), .int .i64 9] from rfl] at HT
      have HT := Lib.hid HT
      have HG := Lib.hid (grown_trans hG gm)
      clear hA hG hF hR6 gm hmk hk hlt
      go_wp2_with fail
      generalize wr.alloc (.cells cm 5) = w4 at *
      go_at_call 50
      refine HT.out.mono ?_
      rintro e w5 ⟨rfl, g5⟩
      have HG5 := Lib.hid (grown_trans HG.out g5)
      have hN := RowAt.new w5 128 22 QV.zero.v _ QV.zero_row
      obtain ⟨k1, k2⟩ := RowAt.store (P := Try.prog) hN 0 128 22 QV.zero.v (by decide) (by kernel_rfl) (fun j _ => QV.one _ j)
      obtain ⟨w6, hw6⟩ : ∃ W, W = (w5.alloc (.cells #[.int .u8 0, .int .u8 0, .int .u8 0, .int .u8 0, .int .u8 0, .int .u8 0, .int .u8 0, .int .u8 0, .int .u8 0, .int .u8 0, .int .u8 0, .int .u8 0, .int .u8 0, .int .u8 0, .int .u8 0, .int .u8 0, .int .u8 0, .bool false, .int .u8 0, .int .u64 0, .int .u64 0, .int .u64 0] 128)).setCells w5.heap.size 0 (rowOf 22 QV.zero.v).toList := ⟨_, rfl⟩
      have g6 : w5.grownBy w6 none := by rw [hw6]; exact grown_setCells w5.heap.size (Or.inl (Nat.le_refl _)) _ 0 _ (World.grownBy_alloc w5 _ none)
      rw [← hw6] at k1 k2
      have HS := Lib.hid k1
      have HG6 := Lib.hid (grown_trans HG5.out g6)
      have HW := Lib.hid (works11_any w6)
      clear hN k1 k2 hw6 g6 g5 HT HG HG5
      go_upto_region 9 with (first | ((with_reducible refine wpList_here ?_); refine wpList_st (T := 128) (p := .pointer (some ⟨w5.heap.size, 0, none⟩)) (v := .agg (rowOf 22 QV.zero.v)) (.tmp 5) (.tmp 27) ?_ ?_ ?_ ?_ ?_ HS.out ?_; (· rfl); (· rfl); go_simp; (· kernel_rfl); (· kernel_rfl)))
      go_wp2_with fail
      go_at_call 51
      refine HW.out.mono ?_
      rintro e w7 ⟨rfl, g7⟩
      have HG7 := Lib.hid (grown_trans HG6.out g7)
      clear g7 HW HG6 HS
      go_wp2_with fail
      go_ret
      exact ⟨rfl, HG7.out⟩
end Go.Proofs.Ytdagbighlgfhjaa
namespace Go.Proofs.Ytdagbighlgfhjaa
open Go.ChangeShapes Go.WideShapes Go.ChangeAt Go.RowKit

theorem getElem?_of_take_drop {α : Type} (l : List α) (i : Nat) (x : α) (h : (l.drop i).take 1 = [x]) : l[i]? = some x := by
  have h1 : ((l.drop i).take 1)[0]? = some x := by rw [h]; rfl
  simpa using h1

/-- A table of numbers, read. -/
theorem ints_of_trod {H : Type} {enc : TypeId × Value → H} {P : Program} {w : World} {base : Nat} {spare : Nat → Bool} {held : Bool} {fuel : Nat} {t e : TypeId} {k : IntKind} {n : Nat} {cs : List Value} {d : DataW H} {ps : List MemPlace} (L : List Int)
    (ht : P.underlying t = some (.array n e)) (he : P.underlying e = some (.int k)) (hc : P.cellsOf e = 1) (hd : DataW.trod enc P w base spare held fuel t cs = some (d, ps)) (hx : d = .agg (L.map fun z => .lit (.int k z))) :
    ∀ i, i < n → cs[i]? = some (.int k (L.getD i 0)) := by
  subst hx
  obtain ⟨xs, m, rfl, hx, _, hn, hel⟩ := DataW.trod_array ht hd
  intro i hi
  have h1 := hel i hi
  rw [hc, Nat.mul_one] at h1
  have hxi : xs[i]? = some xs[i] := List.getElem?_eq_getElem (by omega)
  rw [hxi] at h1
  obtain ⟨q, e1, e2, _⟩ := DataW.trod_int he h1
  have h2 : L.map (fun z => (DataW.lit (.int k z) : DataW H)) = xs.map (·.1) := by
    have := congrArg Prod.fst hx
    simpa using this
  have h3 : (L.map (fun z => (DataW.lit (.int k z) : DataW H)))[i]? = some (.lit (.int k q)) := by
    rw [h2]; simp [hxi, e2]
  have h4 : L[i]? = some q := by
    rw [List.getElem?_map] at h3
    cases hL : L[i]? with
    | none => rw [hL] at h3; cases h3
    | some z => rw [hL] at h3; simpa using h3
  rw [List.getD, h4]
  exact getElem?_of_take_drop cs i _ e1

theorem own : ownKnob Try.prog.godebug = none := by kernel_rfl
theorem laidOut : laidOutB Try.prog = true := by kernel_rfl

end Go.Proofs.Ytdagbighlgfhjaa
namespace Go.Proofs.Ytdagbighlgfhjaa
open Go.ChangeShapes Go.WideShapes Go.ChangeAt Go.RowKit

section
variable {H : Type} {enc : TypeId × Value → H} {P : Program}

theorem open_arr8 {W : World} {t e : TypeId} {n : Nat} {r : Reach} {b0 : Nat} {v : Value} {d : DataW H} {ps : List MemPlace} (ht : P.underlying t = some (.array n e)) (he : P.underlying e = some (.int .u8)) (hc : P.cellsOf e = 1) (hn : P.cellsOf t = n)
    (hval : Value.okWide P W r b0 t v) (h : DataW.Trod enc P W 0 (fun _ => true) true t v d ps) : ∃ f, v = .agg (cellsOf .u8 n f) ∧ ∀ i, f i < 256 := by
  have hv := hval
  simp only [Value.okWide, ht] at hv
  obtain ⟨cs, rfl, hs, _⟩ := hv
  obtain ⟨fuel, hf⟩ := h
  obtain ⟨xs, m, rfl, _, hl, _, hel⟩ := DataW.trod_array ht hf
  have key : ∀ i, i < n → ∃ q : Nat, q < 256 ∧ cs[i]? = some (.int .u8 q) := fun i hi => by
    have h1 := hel i hi
    rw [hc, Nat.mul_one] at h1
    cases hx : xs[i]? with
    | none =>
      rw [hx] at h1
      have hlen : i < cs.toList.length := by
        have : cs.size = n := by rw [hs, hn]
        simp [this]; exact hi
      exfalso
      rename_i hxl
      have : xs.length ≤ i := by simpa using hx
      omega
    | some x =>
      rw [hx] at h1
      obtain ⟨q, e1, _, hw⟩ := DataW.trod_int he h1
      have h2 := getElem?_of_take_drop _ i _ e1
      simp [Lit.wf, IntKind.min, IntKind.max, IntKind.bits, IntKind.signed] at hw
      refine ⟨q.toNat, by omega, ?_⟩
      have e2 : ((q.toNat : Nat) : Int) = q := by omega
      rw [e2]
      simpa [Value.cells] using h2
  refine ⟨fun i => (match cs[i]? with | some (.int _ q) => q.toNat | _ => 0) % 256, ?_, fun i => Nat.mod_lt _ (by decide)⟩
  congr 1
  apply Array.ext
  · rw [cellsOf_size, hs, hn]
  · intro i h1 h2
    have hi : i < n := by rwa [hs, hn] at h1
    obtain ⟨q, hq, hcq⟩ := key i hi
    have e1 := cellsOf_get .u8 n (fun i => (match cs[i]? with | some (.int _ q) => q.toNat | _ => 0) % 256) i hi
    rw [Array.getElem?_eq_getElem h2] at e1
    rw [Array.getElem?_eq_getElem h1] at hcq
    injection e1 with e1
    injection hcq with hcq'
    rw [e1, hcq']
    simp only [Array.getElem?_eq_getElem h1, hcq']
    congr 1
    simp; omega

/-- A byte that comes in. -/
theorem open_u8 {W : World} {t : TypeId} {r : Reach} {b0 : Nat} {v : Value} {d : DataW H} {ps : List MemPlace} (ht : P.underlying t = some (.int .u8))
    (hval : Value.okWide P W r b0 t v) (h : DataW.Trod enc P W 0 (fun _ => true) true t v d ps) : ∃ n : Nat, v = .int .u8 n ∧ n < 256 := by
  obtain ⟨x, rfl, _, _, hx⟩ := open_int ht hval h
  simp [Lit.wf, IntKind.min, IntKind.max, IntKind.bits, IntKind.signed] at hx
  exact ⟨x.toNat, by rw [show ((x.toNat : Nat) : Int) = x by omega], by omega⟩

end
end Go.Proofs.Ytdagbighlgfhjaa
namespace Go.Proofs.Ytdagbighlgfhjaa
open Go.ChangeShapes Go.WideShapes Go.ChangeAt Go.RowKit

set_option maxRecDepth 100000

section
variable {H : Type} {enc : TypeId × Value → H} {P : Program}
theorem at_drop {cs : List Value} {i : Nat} {v : Value} (h : (cs.drop i).take 1 = [v]) : cs[i]? = some v := getElem?_of_take_drop _ i _ h
/-- A slice of numbers, out of its cell. -/
theorem open_numsW {W : World} {t e : TypeId} {k : IntKind} {fuel : Nat} {cs : List Value} {x : DataW H × List MemPlace} (ht : P.underlying t = some (.slice e)) (he : P.underlying e = some (.int k)) (hc : P.cellsOf e = 1) (h0 : (Lit.int k 0).wf = true) (hby : 1 ≤ P.bytesOf e)
    (h : DataW.trod enc P W 0 (fun _ => true) true fuel t cs = some x) (hw : ∀ y, y ∈ x.1.weights P t → y ≤ reachBytes) :
    ∃ (a : Option Addr) (n c : Nat) (z : Nat → Int), cs = [.slice a n c] ∧ n ≤ 140737488355328 ∧ (∀ i, (Lit.int k (z i)).wf = true) ∧
      (0 < n → ∃ tb o, a = some ⟨tb, o, none⟩ ∧ tb < W.heap.size ∧ ∀ i, i < n → W.cell? ⟨tb, o + i, none⟩ = some (.int k (z i))) := by
  rcases open_ints ht he hc h with ⟨h1, _⟩ | ⟨a, len, cap, zs, h1, _, hlc, _, hzl, hx, hcell, hwf⟩
  · exact ⟨none, 0, 0, fun _ => 0, h1, Nat.zero_le _, fun _ => h0, fun h => absurd h (by omega)⟩
  · have hzl' : len ≤ zs.length := by rw [hzl]; simp [hlc]
    refine ⟨some a, len, cap, fun i => zs.getD i 0, h1, ?_, fun i => ?_, fun hn => ?_⟩
    · have := hw ((min len zs.length + (zs.length - len)) * P.bytesOf e) (by
        rw [hx]
        unfold DataW.weights
        rw [ht]
        refine List.mem_cons.2 (Or.inl ?_)
        simp [lits])
      have h2 : (min len zs.length + (zs.length - len)) * 1 ≤ (min len zs.length + (zs.length - len)) * P.bytesOf e := Nat.mul_le_mul_left _ hby
      unfold reachBytes at this
      omega
    · show (Lit.int k (zs.getD i 0)).wf = true
      by_cases hi : i < zs.length
      · have e1 : zs.getD i 0 = zs[i] := by simp [List.getD, List.getElem?_eq_getElem hi]
        rw [e1]
        exact hwf zs[i] (List.getElem_mem hi)
      · have e1 : zs.getD i 0 = 0 := by simp [List.getD, List.getElem?_eq_none (Nat.le_of_not_lt hi)]
        rw [e1]; exact h0
    · have h0' := hcell 0 (by omega)
      have hspot : a.spot = none := by simpa [Addr.add] using World.cell?_spot h0'
      obtain ⟨tb, o, sp⟩ := a
      simp only at hspot
      subst hspot
      refine ⟨tb, o, rfl, ?_, fun i hi => ?_⟩
      · have := World.block_lt_of_cell? W _ h0'
        simpa [Addr.add] using this
      · have h1 := hcell i (by omega)
        rw [Addr.add_mid] at h1
        exact h1
/-- Bytes that come in, and how many. -/
theorem open_bytesW {W : World} {t e : TypeId} {r : Reach} {b0 : Nat} {v : Value} {d : DataW H} {ps : List MemPlace} (ht : P.underlying t = some (.slice e)) (he : P.underlying e = some (.int .u8)) (hc : P.cellsOf e = 1) (hby : 1 ≤ P.bytesOf e)
    (hval : Value.okWide P W r b0 t v) (h : DataW.Trod enc P W 0 (fun _ => true) true t v d ps) (hw : ∀ y, y ∈ d.weights P t → y ≤ reachBytes) :
    ∃ a n c f, v = .slice a n c ∧ n ≤ c ∧ n ≤ 140737488355328 ∧ Rd W W.heap.size a n f ∧ ∀ i, f i < 256 := by
  obtain ⟨a0, len, cap, rfl⟩ := okWide_slice ht hval
  obtain ⟨fuel, hf⟩ := h
  obtain ⟨a, n, c, z, h1, hb, hwf, hcell⟩ := open_numsW ht he hc (by rfl) hby hf hw
  simp [Value.cells] at h1
  obtain ⟨rfl, rfl, rfl⟩ := h1
  have hlc : len ≤ cap := by
    rcases open_ints ht he hc hf with ⟨h2, _⟩ | ⟨_, _, _, _, h2, _, h3, _⟩
    · simp [Value.cells] at h2
      omega
    · simp [Value.cells] at h2
      omega
  have wb : ∀ i, 0 ≤ z i ∧ z i < 256 := fun i => by have := hwf i; simp [Lit.wf, IntKind.min, IntKind.max, IntKind.bits, IntKind.signed] at this; omega
  refine ⟨a0, len, cap, fun i => (z i).toNat, rfl, hlc, hb, ⟨fun hn => ?_⟩, fun i => by have := wb i; show (z i).toNat < 256; omega⟩
  obtain ⟨tb, o, e1, e2, e3⟩ := hcell hn
  refine ⟨tb, o, e1, e2, fun i hi => ?_⟩
  have := wb i
  rw [e3 i hi]
  show some (Value.int .u8 (z i)) = some (Value.int .u8 (((z i).toNat : Nat) : Int))
  rw [show (((z i).toNat : Nat) : Int) = z i by omega]
end
end Go.Proofs.Ytdagbighlgfhjaa
namespace Go.Proofs.Ytdagbighlgfhjaa
open Go.ChangeShapes Go.WideShapes Go.ChangeAt Go.RowKit

set_option maxRecDepth 100000 in
theorem recKnown_lifted (os : Os) (started : os.Started) (H : Type) (enc : TypeId × Value → H) :
    ReturnsInHanded {} Try.checked os 6 .any (Rows.recKnownSpec.pre6 enc Try.prog Try.f6 Rows.recKnownRow.domain false) (Rows.recKnownSpec.post enc Try.prog Try.f6 false true false false) := by
  refine returnsInHanded_of_change_sized (C := Try.checked) own started (by kernel_rfl) Try.func6
    (ChangeSpec.witness6 (enc := enc) (C := Try.checked) false ⟨#[], #[], []⟩ 8 (by kernel_rfl) (by kernel_rfl) (by kernel_rfl) (by kernel_rfl)) ?_
  intro W base args ds gs before hval0 hW _ hwt _
  have hval : ∀ (j : Nat) t v, Try.f6.params[j]? = some t → args[j]? = some v → Value.okWide Try.prog W .any base t v := hval0
  have hW' := hW
  obtain ⟨p, q, hA0, hV, rfl, _, _⟩ := hW
  have hA : DataW.TrodAll enc Try.prog W 0 (fun _ => true) true Try.f6.params.toList args.toList ds p := hA0
  have hwt' : (DataW.weightsEach Try.prog (Try.f6.params.toList ++ Rows.recKnownSpec.plain.varTypes Try.prog) (ds ++ gs)).all (· ≤ reachBytes) = true := hwt
  rw [Try.params6] at hA hval hwt'
  obtain ⟨hv0, rfl, rfl⟩ := trodAll_nil hA
  obtain ⟨l⟩ := args
  simp only at hv0
  subst hv0
  obtain ⟨rfl, rfl⟩ := trodVars_none hV
  clear hA0 hval0
  refine (RecKnown_any W).mono fun e W' ⟨he, hg⟩ => ?_
  subst he
  exact ⟨_, rfl, law_post laidOut hW' rfl rfl (tb := 4) rfl Try.underlying4 (by
      rw [Try.params6]
      intro t ht
      simp at ht) hg⟩

theorem recKnown_holds : Rows.RecKnownSaid :=
  OpenClaim.holds_of_wide 6 Try.f6 rfl rfl rfl rfl rfl rfl rfl ⟨rfl, rfl, rfl, rfl, rfl⟩ rfl rfl rfl rfl rfl (by kernel_rfl) Try.func6 (by kernel_rfl)
    (of_decide_eq_true (by kernel_rfl)) (by unfold Func.isWrapper; first | (rw [if_pos (by decide +kernel)]; kernel_rfl) | (rw [if_neg (by decide +kernel)]; exact ⟨rfl, rfl⟩))
    (fun os started H enc _ => recKnown_lifted os started H enc)

end Go.Proofs.Ytdagbighlgfhjaa
