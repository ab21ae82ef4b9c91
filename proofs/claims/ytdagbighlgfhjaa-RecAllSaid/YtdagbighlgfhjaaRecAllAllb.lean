/-
  Proved: whatever bytes and number come in, 'RecAll' answers true, and what came in reads afterwards as it read before. Conditions: the arguments can be read as data.
-/
import Derived.Test.YtdagbighlgfhjaaRecAllAlla
import Derived.Test.YtdagbighlgfhjaaLaw
import Derived.Test.YtdagbighlgfhjaaRows
import Derived.Stop.Joined
import Derived.LaidLaws
import Derived.Test.YtdagbighlgfhjaaRd
import Derived.Deep.Slices
import Derived.SizedLaws
namespace Go.Proofs.Ytdagbighlgfhjaa
open Go.RowKit

set_option maxRecDepth 100000
set_option maxHeartbeats 4000000

attribute [local go_sem] Oper.semAt_some

def oneQ : QV := ⟨fun i => if i = 0 then 1 else 0, 3, true, 1, 5, 6, 7⟩
theorem oneQ_ok : oneQ.Ok := ⟨fun i => by show (if i = 0 then 1 else 0) < 256; split <;> decide, by decide, by decide, by decide, by decide, by decide⟩
theorem exec_one1 {o : Oper} {a : Act} (ho : o.op = .build 23 #[(0, .const (.int .u8 1))]) (w : World) : (execOp a.eval o).run Try.prog w = .ok (.value (.agg (cellsOf .u8 16 oneQ.id))) w := by
  unfold execOp
  rw [ho]
  kernel_rfl
theorem run_one2 (w : World) : (Instr.build 128 #[(0, .agg (cellsOf .u8 16 oneQ.id)), (1, .int .u8 3), (2, .bool true), (3, .int .u8 1), (4, .int .u64 5), (5, .int .u64 6), (6, .int .u64 7)]).run Try.prog w = .ok (.agg (rowOf 22 oneQ.v)) w := by kernel_rfl
theorem exec_one2 {o : Oper} {a : Act} (ho : o.op = .build 128 #[(0, .tmp 1), (1, .const (.int .u8 3)), (2, .const (.bool true)), (3, .const (.int .u8 1)), (4, .const (.int .u64 5)), (5, .const (.int .u64 6)), (6, .const (.int .u64 7))]) (h : a.eval (.tmp 1) = .agg (cellsOf .u8 16 oneQ.id)) (w : World) : (execOp a.eval o).run Try.prog w = .ok (.value (.agg (rowOf 22 oneQ.v))) w := by
  unfold execOp
  have ec : ∀ v, a.eval (.const v) = v := fun _ => rfl
  simp only [ho, h, ec, List.map_toArray, List.map_cons, List.map_nil, Sem.run_bind, run_one2, Result.andThen_ok, Sem.run_pure]
theorem one_any (w : World) : Calls Try.prog 127 #[] w fun e w' => e = .returned (.agg (rowOf 22 oneQ.v)) ∧ w.grownBy w' none := by
  have ga := World.grownBy_alloc w (.cells #[.int .u8 0, .int .u8 0, .int .u8 0, .int .u8 0, .int .u8 0, .int .u8 0, .int .u8 0, .int .u8 0, .int .u8 0, .int .u8 0, .int .u8 0, .int .u8 0, .int .u8 0, .int .u8 0, .int .u8 0, .int .u8 0, .int .u8 0, .bool false, .int .u8 0, .int .u64 0, .int .u64 0, .int .u64 0] 128) none
  have hR := RowAt.new w 128 22 QV.zero.v _ QV.zero_row
  go_enter Try.func127, Try.ntmps127
  go_upto_region 1 with fail
  obtain ⟨B, hB⟩ : ∃ B, B = w.heap.size := ⟨_, rfl⟩
  rw [← hB] at hR ⊢
  generalize w.alloc (.cells #[.int .u8 0, .int .u8 0, .int .u8 0, .int .u8 0, .int .u8 0, .int .u8 0, .int .u8 0, .int .u8 0, .int .u8 0, .int .u8 0, .int .u8 0, .int .u8 0, .int .u8 0, .int .u8 0, .int .u8 0, .int .u8 0, .int .u8 0, .bool false, .int .u8 0, .int .u64 0, .int .u64 0, .int .u64 0] 128) = w1 at *
  obtain ⟨k1, k2⟩ := RowAt.store (P := Try.prog) hR 0 128 22 oneQ.v (by decide) (by kernel_rfl) (fun j _ => QV.one _ j)
  obtain ⟨wz, hwz⟩ : ∃ W, W = w1.setCells B 0 (rowOf 22 oneQ.v).toList := ⟨_, rfl⟩
  rw [← hwz] at k1 k2
  have gz : w1.grownBy wz (some B) := by rw [hwz]; exact grown_setCells B (Or.inr rfl) _ 0 _ (grown_refl _ _)
  have HK := Lib.hid (k2.congr (v' := oneQ.v) fun i hi => by rw [if_pos ⟨Nat.zero_le _, by omega⟩, Nat.sub_zero])
  have HS := Lib.hid k1
  have HGZ := Lib.hid (grown_into ga gz (by omega))
  obtain ⟨v1, hv1⟩ : ∃ v, v = Value.agg (rowOf 22 oneQ.v) := ⟨_, rfl⟩
  clear k1 k2 hwz gz hR ga hB
  go_wp2_with (first | ((with_reducible refine wpList_here ?_); refine wpList_want (v := .agg (cellsOf .u8 16 oneQ.id)) (w' := w1) ?_ (exec_one1 rfl w1) ?_; (· kernel_rfl)) | ((with_reducible refine wpList_here ?_); refine wpList_want (v := .agg (rowOf 22 oneQ.v)) (w' := w1) ?_ (exec_one2 rfl rfl w1) ?_; (· kernel_rfl)) | ((with_reducible refine wpList_here ?_); refine wpList_st (T := 128) (p := .pointer (some ⟨B, 0, none⟩)) (v := .agg (rowOf 22 oneQ.v)) (.tmp 0) (.tmp 2) ?_ ?_ ?_ ?_ ?_ HS.out ?_; (· rfl); (· rfl); go_simp; (· kernel_rfl); (· kernel_rfl)))
  exact bodyPost_ret (res_rowAt rfl rfl HK.out (by kernel_rfl) (by kernel_rfl)) rfl ⟨rfl, HGZ.out⟩
theorem one_enters : ∀ args w, (callFunc 127 args).run Try.prog w = .ok (.enter 127 args) w := enters_of Try.func127 (by kernel_rfl) rfl
theorem wpIn_region_heldR {P : Program} {ops : List Oper} {Q : Exit → Act → World → Prop} {n l id : Nat} {a : Act} {w : World} (S : World → Prop) (hm : P.follows .mixedOrders = true) (hD : noDefer ops = true) (hlo : ¬ LetsOut Q)
    (h : wpAnyH P .any ops.toArray Q S ops.toArray.size (Array.replicate ops.toArray.size false) a w.drew) : (Code.region id ops.toArray true).wpIn (Fence.wide.inRound l) n P Q a w :=
  wpIn_region_any hm (any_round hlo (noDefer_spec hD) _ _ _ _ (wpAny_of_held _ _ _ _ h))
/-- The bytes of that record, and a byte more. -/
def oneF : Nat → Nat := cat 43 oneQ.bytes (fun _ => 9)
theorem oneF_at (i : Nat) (h : i < 43) : shF oneF (43 * 0) i = oneQ.bytes i := by
  unfold shF oneF cat
  rw [Nat.mul_zero, Nat.zero_add, if_pos h]
theorem one_n : IsN 44 oneF 1 := ⟨fun j hj => by
  obtain rfl : j = 0 := by omega
  exact ⟨by decide, (recOk_put oneQ_ok oneF_at).trans (by decide)⟩, fun h => by have := h.1; omega⟩
theorem one_rec : rowOf 22 (recs oneF 0).v = rowOf 22 oneQ.v := recF_put oneQ_ok oneF_at
structure WkI (w : World) (RB NB : Nat) (k : Nat) (U : World) : Prop where
  res : Boxed U RB 4 (.bool false)
  n : Boxed U NB 3 (.int .i64 (k : Nat))
  gr : w.grownBy U none
theorem WkI.own {w : World} {RB NB A : Nat} (h1 : RB < A) (h2 : NB < A) (h3 : w.heap.size ≤ A) : OwnFrom A (WkI w RB NB) := fun s W W' row h hg hr =>
  ⟨h.res.kept hg (fun e => by have := (hr _ e.symm).1; omega), h.n.kept hg (fun e => by have := (hr _ e.symm).1; omega), by
    cases row with
    | none => exact grown_trans h.gr hg
    | some r => exact grown_new h.gr hg (by have := (hr r rfl).1; omega)⟩
theorem works11_any (w : World) : Calls Try.prog 51 #[] w fun e w' => e = .returned (.bool true) ∧ w.grownBy w' none := by
  have gb := World.grownBy_alloc w (.cells #[.bool false] 4) none
  have hRB := Boxed.new w 4 (.bool false)
  refine (callsIn_wide (n := 8)).1 ?_
  refine callsIn_of_wp_marks Try.func51 rfl trivial ?_ rfl
  simp only [Try.ntmps51, List.size_toArray, List.length_nil, Nat.reduceSub, Array.replicate_succ, Array.replicate_zero, List.push_toArray, List.append_toArray, List.nil_append, List.cons_append]
  refine wpIn_wide.2 ?_
  go_upto_region 1 with fail
  obtain ⟨RB, hB⟩ : ∃ B, B = w.heap.size := ⟨_, rfl⟩
  rw [← hB] at hRB ⊢
  generalize w.alloc (.cells #[.bool false] 4) = w1 at *
  have HB := Lib.hid (show RB = w.heap.size from hB)
  have HRB := Lib.hid hRB
  have HG1 := Lib.hid gb
  have H1 := Lib.hid (one_any w1)
  clear hB hRB gb
  go_wp2_with fail
  go_at_call 127
  refine H1.out.mono ?_
  rintro e w2 ⟨rfl, g2⟩
  have H2 := recPut_any oneQ oneQ_ok w2
  rw [show oneQ.may = true by decide] at H2
  obtain ⟨v1, hv1⟩ : ∃ v, v = Value.agg (rowOf 22 oneQ.v) := ⟨_, rfl⟩
  rw [← hv1] at H2 ⊢
  have H2 := Lib.hid H2
  have HG2 := Lib.hid (show w1.grownBy w2 none from g2)
  clear H1 g2 hv1
  go_wp2_with fail
  go_at_call 49
  refine H2.out.mono ?_
  rintro e w3 ⟨⟨a, c, rfl, hO⟩, g3⟩
  have hO : OwnN w3 w2.heap.size (.slice a 43 c) 43 oneQ.bytes := hO
  rw [show (.slice a (if true = true then 43 else 0) c : Value) = .slice a 43 c from rfl, show (.int .i64 (if true = true then 0 else 2) : Value) = .int .i64 0 from rfl]
  have HO := Lib.hid hO
  have HG3 := Lib.hid (grown_trans HG2.out g3)
  clear H2 g3 hO HG2
  go_upto_region 5 with fail
  have gn := World.grownBy_alloc w3 (.cells #[.int .i64 0] 3) none
  have hNB := Boxed.new w3 3 (.int .i64 0)
  obtain ⟨NB, hNBe⟩ : ∃ B, B = w3.heap.size := ⟨_, rfl⟩
  rw [← hNBe] at hNB ⊢
  have hz := World.size_alloc w3 (.cells #[.int .i64 0] 3)
  generalize w3.alloc (.cells #[.int .i64 0] 3) = w4 at *
  have hRd : Rd w4 w4.heap.size a 43 oneQ.bytes := by
    obtain ⟨a', c', e, _, hR⟩ := HO.out.rd
    cases e
    exact (hR.grown gn (by simp)).mono (by omega)
  have gE := World.grownBy_alloc w4 (.cells #[] 5) none
  have hE : OwnN (w4.alloc (.cells #[] 5)) w4.heap.size (.slice (some ⟨w4.heap.size, 0, none⟩) 0 0) 0 (fun _ => 0) := ⟨Or.inr ⟨w4.heap.size, 0, rfl, (ownR_empty w4).congr (fun i hi => absurd hi (Nat.not_lt_zero _)), Nat.le_refl _⟩⟩
  obtain ⟨a5, c5, w5, hap5, hO5, hG5, _⟩ := app_N1 c 39 gE hE (hRd.grown gE (by simp)) (by decide)
  have g9 := World.grownBy_alloc w5 (.cells #[.int .u8 (9 : Nat)] 5) none
  obtain ⟨a7, c7, w7, hap7, hO7, hG7, _⟩ := app_N1 1 39 (grown_trans hG5 g9) (hO5.grown g9) (rd_one w5 9 (w5.heap.size + 1) (by omega)) (by decide)
  have HAP5 := Lib.hid (show (Builtin.append_ #[39, 39] 39 #[.slice (some ⟨w4.heap.size, 0, none⟩) 0 0, .slice a 43 c]).run Try.prog (w4.alloc (.cells #[] 5)) = .ok (.slice a5 43 c5) w5 from hap5)
  have HAP7 := Lib.hid (show (Builtin.append_ #[39, 39] 39 #[.slice a5 43 c5, .slice (some ⟨w5.heap.size, 0, none⟩) 1 1]).run Try.prog (w5.alloc (.cells #[.int .u8 9] 5)) = .ok (.slice a7 44 c7) w7 from hap7)
  have hO7 : OwnN w7 w4.heap.size (.slice a7 44 c7) 44 oneF := hO7.congr (fun i hi => by
    unfold oneF
    by_cases h : i < 43
    · unfold cat; rw [if_pos (show i < 0 + 43 from h), if_pos h, if_neg (by omega), Nat.sub_zero]
    · unfold cat; rw [if_neg (show ¬ i < 0 + 43 from h), if_neg h])
  have HALL := Lib.hid (recAll_any w7.heap.size 44 c7 a7 oneF w7 (by obtain ⟨a', c', e, _, hR⟩ := hO7.rd; cases e; exact hR) (by decide))
  have HN := Lib.hid (hNB.kept hG7 (by simp))
  have HG4 := Lib.hid (grown_trans HG3.out gn)
  have HR7 := Lib.hid (HRB.out.kept (grown_trans HG4.out hG7) (by simp))
  have HG7 := Lib.hid (grown_trans (grown_trans HG1.out HG4.out) hG7)
  have HNR := Lib.hid (show RB ≠ NB by have := HRB.out.lt; have := HG3.out.size; omega)
  have HNW := Lib.hid (show w.heap.size ≤ NB by have := HG1.out.size; have := HG3.out.size; omega)
  have HRW := Lib.hid (show w.heap.size ≤ RB by have := HB.out; omega)
  have HNL := Lib.hid (show NB < w7.heap.size by have := hG7.size; omega)
  have HRL := Lib.hid (show RB < w7.heap.size from HR7.out.lt)
  clear hap5 hap7 hO5 hG5 hO7 hG7 g9 gE hE hRd hNB gn hz hNBe HO HG3 HG4
  go_wp2_with (first | (at_builtin; refine wpList_append_run rfl (.tmp 18) (.tmp 19) 39 39 rfl _ _ _ _ rfl rfl HAP5.out ?_) | (at_builtin; refine wpList_append_run rfl (.tmp 20) (.tmp 21) 39 39 rfl _ _ _ _ rfl rfl HAP7.out ?_))
  go_at_call 57
  refine HALL.out.mono ?_
  rintro e w8 ⟨⟨B, a, c, rfl, hBs, hC, hLc, hO⟩, g8⟩
  have HSEQ := Lib.hid (all_seq (8 - 1) 1 44 c B a oneF (fun x => x = NB) w8 (fun i => by unfold oneF cat; split; exact oneQ.b_lt oneQ_ok _; exact (by decide : 9 < 256)) one_n (by decide) hLc (by decide) (by have := HNL.out; omega) (fun tb o e => by
    rcases hO.ex with ⟨e2, _⟩ | ⟨q, cap, e2, _, hq⟩
    · cases e2
    · cases e2; cases e; have := HNL.out; omega) hC (by obtain ⟨a', c', e, _, hR⟩ := hO.rd; cases e; exact hR))
  have HI0 : Hid (WkI w RB NB 0 w8) := Lib.hid ⟨HR7.out.kept g8 (by simp), HN.out.kept g8 (by simp), grown_trans HG7.out g8⟩
  have HS8 := Lib.hid g8.size
  clear hBs hC hLc hO g8 HALL HAP5 HAP7 HN HR7 HG7
  go_wp2_with fail
  refine (wpIn_wide (n := 8)).1 ?_
  refine wpIn_rangeN rfl (by decide) (gf := 131) (lb := #[.pointer (some ⟨B, 0, none⟩)]) rfl trivial (enters_of Try.func131 (by kernel_rfl) rfl) HSEQ.out (fun _ => rfl)
    (WkI w RB NB) (fun _ _ _ => False) (WkI.own (by have := HRL.out; have := HS8.out; omega) (by have := HNL.out; have := HS8.out; omega) (by have := HI0.out.gr.size; omega)) (fun _ _ _ _ _ h _ _ => h) HI0.out
    (fun k act U => ∃ rb x1 x2 x6 x7 x8 x9 x10 x11 x12 x13 x14 x15 x16 x17 x18 x19 x20 x21 x22 x23 x24 x25 x26 x27 x28 x29 x30 x31 x32 x33 x34 x35 x36, act = { tmps := #[.pointer (some ⟨RB, 0, none⟩), x1, x2, .pointer (some ⟨NB, 0, none⟩), .int .i64 (43 * k : Nat), .pointer (some ⟨rb, 0, none⟩), x6, x7, x8, x9, x10, x11, x12, x13, x14, x15, x16, x17, x18, x19, x20, x21, x22, x23, x24, x25, x26, x27, x28, x29, x30, x31, x32, x33, x34, x35, x36], defers := [] } ∧ RowAt U rb 128 22 (recs oneF k).v ∧ w8.heap.size ≤ rb ∧ WkI w RB NB k U) ?_ ?_ ?_ ?_ ?_
  · intro k a' _ U U' row h hgr hr
    obtain ⟨rb, x1, x2, x6, x7, x8, x9, x10, x11, x12, x13, x14, x15, x16, x17, x18, x19, x20, x21, x22, x23, x24, x25, x26, x27, x28, x29, x30, x31, x32, x33, x34, x35, x36, rfl, h2, h3, h4⟩ := h
    refine ⟨rb, _, _, _, _, _, _, _, _, _, _, _, _, _, _, _, _, _, _, _, _, _, _, _, _, _, _, _, _, _, _, _, _, _, rfl, h2.grown hgr (fun e => ?_), h3, WkI.own (A := w8.heap.size) (by have := HRL.out; have := HS8.out; omega) (by have := HNL.out; have := HS8.out; omega) (by have := HI0.out.gr.size; omega) k U U' row h4 hgr hr⟩
    obtain ⟨_, o, ho, hc⟩ := hr _ e.symm
    rw [h2.block] at ho
    cases ho
    cases hc
  · rintro l k U K hk hI hU hK
    obtain rfl : k = 0 := by omega
    have hN := RowAt.new U 128 22 QV.zero.v _ QV.zero_row
    obtain ⟨k1, k2⟩ := RowAt.store (P := Try.prog) hN 0 128 22 (recs oneF 0).v (by decide) (by kernel_rfl) (fun j _ => QV.one _ j)
    obtain ⟨w2, hw2⟩ : ∃ W, W = (U.alloc (.cells #[.int .u8 0, .int .u8 0, .int .u8 0, .int .u8 0, .int .u8 0, .int .u8 0, .int .u8 0, .int .u8 0, .int .u8 0, .int .u8 0, .int .u8 0, .int .u8 0, .int .u8 0, .int .u8 0, .int .u8 0, .int .u8 0, .int .u8 0, .bool false, .int .u8 0, .int .u64 0, .int .u64 0, .int .u64 0] 128)).setCells U.heap.size 0 (rowOf 22 (recs oneF 0).v).toList := ⟨_, rfl⟩
    have g2 : U.grownBy w2 none := by rw [hw2]; exact grown_setCells U.heap.size (Or.inl (Nat.le_refl _)) _ 0 _ (World.grownBy_alloc U _ none)
    rw [← hw2] at k1 k2
    have hX2 := k2.congr (v' := (recs oneF 0).v) fun i hi => by rw [if_pos ⟨Nat.zero_le _, by omega⟩, Nat.sub_zero]
    have HS := Lib.hid k1
    have HX := Lib.hid hX2
    have HG := Lib.hid g2
    have HI := Lib.hid hI
    have HK := Lib.hid hK
    have HU := Lib.hid hU
    clear hN k1 k2 hw2 hX2 g2 hI hK hU
    obtain ⟨y, hy⟩ : ∃ y, y = recs oneF 0 := ⟨_, rfl⟩
    rw [← hy] at HS ⊢
    have HY := Lib.hid hy
    clear hy
    gi_wp2_with ((with_reducible refine roundIn_here ?_); refine roundIn_st (T := 128) (p := .pointer (some ⟨U.heap.size, 0, none⟩)) (v := .agg (rowOf 22 y.v)) (.tmp 5) (.tmp 25) ?_ ?_ ?_ ?_ ?_ HS.out ?_; (· rfl); (· rfl); go_simp; (· kernel_rfl); (· kernel_rfl))
    exact HK.out _ _ (KeepsOthers.of_grownBy HG.out (fun _ _ e => by cases e)) (KeepX.grown (by have := HU.out; omega) HG.out) ⟨U.heap.size, _, _, _, _, _, _, _, _, _, _, _, _, _, _, _, _, _, _, _, _, _, _, _, _, _, _, _, _, _, _, _, _, _, rfl, HX.out, by have := HU.out; omega, ⟨HI.out.res.kept HG.out (by simp), HI.out.n.kept HG.out (by simp), grown_trans HI.out.gr HG.out⟩⟩
  · rintro l k a' U hk hU ⟨rb, x1, x2, x6, x7, x8, x9, x10, x11, x12, x13, x14, x15, x16, x17, x18, x19, x20, x21, x22, x23, x24, x25, x26, x27, x28, x29, x30, x31, x32, x33, x34, x35, x36, rfl, hX, hrb, hI⟩
    obtain rfl : k = 0 := by omega
    have HX : Hid (RowAt U rb 128 22 oneQ.v) := Lib.hid ⟨by rw [← one_rec]; exact hX.block⟩
    have HI := Lib.hid hI
    have HU := Lib.hid hU
    clear hX hI hU hrb hk
    gi_wp2
    refine wpIn_region_heldR (fun W => U.grownBy W none) (by kernel_rfl) (by kernel_rfl) (by rintro ⟨_, _, h⟩; exact h) ?_
    change wpAnyH _ _ _ _ _ 7 #[false, false, false, false, false, false, false] _ (World.drew _)
    have gq := grown_drew (grown_refl U none)
    generalize World.drew U = q1 at *
    refine wpAnyH_takeD (some 26) (i := 0) (v := (.int .i64 0)) rfl rfl (by kernel_rfl) (by kernel_rfl) (by kernel_rfl) (fun _ _ _ h => h) (Or.inl ⟨rfl, fun _ _ => rfl⟩) gq ?_
    simp only [Act.put, List.setIfInBounds_toArray, List.set_cons_succ, List.set_cons_zero]
    refine wpAnyH_takeD (some 27) (i := 1) (v := (.bool false)) rfl rfl (by kernel_rfl) (by kernel_rfl) (by kernel_rfl) (fun _ _ _ h => h) (Or.inl ⟨rfl, fun _ _ => by go_simp⟩) gq ?_
    simp only [Act.put, List.setIfInBounds_toArray, List.set_cons_succ, List.set_cons_zero]
    refine wpAnyH_takeD (some 28) (i := 2) (v := (.bool false)) rfl rfl (by kernel_rfl) (by kernel_rfl) (by kernel_rfl) (fun _ _ _ h => h) (Or.inl ⟨rfl, fun _ _ => rfl⟩) gq ?_
    simp only [Act.put, List.setIfInBounds_toArray, List.set_cons_succ, List.set_cons_zero]
    refine wpAnyH_takeD (some 29) (i := 3) (v := (.agg (rowOf 22 oneQ.v))) rfl rfl (by kernel_rfl) (by kernel_rfl) (by kernel_rfl) (fun _ _ _ h => h) (Or.inl ⟨rfl, fun W hW => exec_loadQ (.tmp 5) _ _ rfl rfl ((HX.out.grown hW (by simp)).load (P := Try.prog) 0 128 22 oneQ.v (by decide) (fun j _ => by rw [Nat.zero_add]) (by kernel_rfl) (by kernel_rfl))⟩) gq ?_
    simp only [Act.put, List.setIfInBounds_toArray, List.set_cons_succ, List.set_cons_zero]
    refine wpAnyH_callD (some 30) (i := 4) 127 #[] (R := fun v W => v = .agg (rowOf 22 oneQ.v) ∧ q1.grownBy W none) (by kernel_rfl) rfl rfl rfl (exec_fn0 _ rfl) one_enters ((one_any q1).mono fun e W h => ⟨_, h.1, rfl, h.2⟩) ?_
    rintro v W3 ⟨rfl, g3⟩
    have gW := grown_trans gq g3
    refine ⟨gW, ?_⟩
    simp only [Act.put, List.setIfInBounds_toArray, List.set_cons_succ, List.set_cons_zero]
    refine wpAnyH_takeD (some 31) (i := 5) (v := (.bool false)) rfl rfl (by kernel_rfl) (by kernel_rfl) (by kernel_rfl) (fun _ _ _ h => h) (Or.inl ⟨rfl, fun W _ => exec_neR 29 30 oneQ rfl rfl rfl⟩) gW ?_
    simp only [Act.put, List.setIfInBounds_toArray, List.set_cons_succ, List.set_cons_zero]
    refine wpAnyH_takeD (some 32) (i := 6) (v := (.bool false)) rfl rfl (by kernel_rfl) (by kernel_rfl) (by kernel_rfl) (fun _ _ _ h => h) (Or.inl ⟨rfl, fun _ _ => by go_simp⟩) gW ?_
    simp only [Act.put, List.setIfInBounds_toArray, List.set_cons_succ, List.set_cons_zero]
    refine wpAnyH_done (by kernel_rfl) ?_ _
    have hn := HI.out.n.kept gW (by simp)
    have cn : W3.cell? ⟨NB, 0, none⟩ = some (.int .i64 0) := hn.cell
    have fn := hn.frozen
    have HF : Hid (postN w8.heap.size (fun x => x = NB) (WkI w RB NB) (fun _ _ _ => False) (0 + 1) U .normal { tmps := #[], defers := [] } (W3.setCell ⟨NB, 0, none⟩ (.int .i64 1))) := Lib.hid ⟨(KeepsOthers.of_grownBy gW (fun _ _ e => by cases e)).trans (KeepsOthers.setCell _ _ _), (KeepX.grown (by have := HU.out; omega) gW).trans (KeepX.into (by have := gW.size; have := HU.out; omega) (grownBy_setCell' W3 NB _) (Or.inl rfl)), ⟨(HI.out.res.kept gW (by simp)).other HNR.out _, hn.set _, grown_setCell_new (grown_trans HI.out.gr gW) _ _ (Or.inl HNW.out)⟩⟩
    clear hn gq g3 gW
    gi_wp2
    exact HF.out
  · rintro D U hD hI hDd
    have cn : U.cell? ⟨NB, 0, none⟩ = some (.int .i64 1) := hI.n.cell
    have cr : U.cell? ⟨RB, 0, none⟩ = some (.bool false) := hI.res.cell
    have fr := hI.res.frozen
    have hr2 := hI.res.set (.bool true)
    have hDl : RB ≠ D := by
      intro e
      subst e
      rw [show U.heap[RB]? = _ from hI.res] at hDd
      cases hDd
    have hD2 : (U.setCell ⟨RB, 0, none⟩ (.bool true)).heap[D]? = some (.deferred (some [])) := (heap_setCell_other _ _ _ _ (fun e => hDl e.symm)).trans hDd
    have hG : w.grownBy ((U.setCell ⟨RB, 0, none⟩ (.bool true)).putObj D (.deferred none)) none := grown_new (grown_setCell_new hI.gr _ _ (Or.inl HRW.out)) (grownBy_putObj' _ D (.deferred none)) (by have := HI0.out.gr.size; omega)
    have hR : Boxed ((U.setCell ⟨RB, 0, none⟩ (.bool true)).putObj D (.deferred none)) RB 4 (.bool true) := hr2.kept (grownBy_putObj' _ D (.deferred none)) (fun e => hDl (by cases e; rfl))
    have HD := Lib.hid hD2
    have HG := Lib.hid hG
    have HR := Lib.hid hR
    clear hD2 hG hR hDd hr2 hI hDl
    gi_wp2
    go_wp2_with fail
    refine ⟨by simp, .inl ⟨_, _, rfl, run_takeDeferred HD.out, ?_⟩⟩
    have cc := HR.out.cell
    refine ⟨.bool true, ?_, rfl, HG.out⟩
    simp [results, Try.results51]
    go_simp
  · rintro D c k U _ _ h _
    exact h.elim
end Go.Proofs.Ytdagbighlgfhjaa
namespace Go.Proofs.Ytdagbighlgfhjaa
open Go.ChangeShapes Go.WideShapes Go.ChangeAt Go.RowKit

theorem getElem?_of_take_drop {α : Type} (l : List α) (i : Nat) (x : α) (h : (l.drop i).take 1 = [x]) : l[i]? = some x := by
  have h1 : ((l.drop i).take 1)[0]? = some x := by rw [h]; rfl
  simpa using h1

/-- A table of numbers, read. -/
theorem ints_of_trod {H : Type} {enc : TypeId × Value → H} {P : Program} {w : World} {base : Nat} {spare : Nat → Bool} {held : Bool} {fuel : Nat} {t e : TypeId} {k : IntKind} {n : Nat} {cs : List Value} {d : DataW H} {ps : List MemPlace} (L : List Int)
    (ht : P.underlying t = some (.array n e)) (he : P.underlying e = some (.int k)) (hc : P.cellsOf e = 1) (hd : DataW.trod enc P w base spare held fuel t cs = some (d, ps)) (hx : d = .agg (L.map fun z => .lit (.int k z))) :
    ∀ i, i < n → cs[i]? = some (.int k (L.getD i 0)) := by
  subst hx
  obtain ⟨xs, m, rfl, hx, _, hn, hel⟩ := DataW.trod_array ht hd
  intro i hi
  have h1 := hel i hi
  rw [hc, Nat.mul_one] at h1
  have hxi : xs[i]? = some xs[i] := List.getElem?_eq_getElem (by omega)
  rw [hxi] at h1
  obtain ⟨q, e1, e2, _⟩ := DataW.trod_int he h1
  have h2 : L.map (fun z => (DataW.lit (.int k z) : DataW H)) = xs.map (·.1) := by
    have := congrArg Prod.fst hx
    simpa using this
  have h3 : (L.map (fun z => (DataW.lit (.int k z) : DataW H)))[i]? = some (.lit (.int k q)) := by
    rw [h2]; simp [hxi, e2]
  have h4 : L[i]? = some q := by
    rw [List.getElem?_map] at h3
    cases hL : L[i]? with
    | none => rw [hL] at h3; cases h3
    | some z => rw [hL] at h3; simpa using h3
  rw [List.getD, h4]
  exact getElem?_of_take_drop cs i _ e1

theorem own : ownKnob Try.prog.godebug = none := by kernel_rfl
theorem laidOut : laidOutB Try.prog = true := by kernel_rfl

end Go.Proofs.Ytdagbighlgfhjaa
namespace Go.Proofs.Ytdagbighlgfhjaa
open Go.ChangeShapes Go.WideShapes Go.ChangeAt Go.RowKit

section
variable {H : Type} {enc : TypeId × Value → H} {P : Program}

theorem open_arr8 {W : World} {t e : TypeId} {n : Nat} {r : Reach} {b0 : Nat} {v : Value} {d : DataW H} {ps : List MemPlace} (ht : P.underlying t = some (.array n e)) (he : P.underlying e = some (.int .u8)) (hc : P.cellsOf e = 1) (hn : P.cellsOf t = n)
    (hval : Value.okWide P W r b0 t v) (h : DataW.Trod enc P W 0 (fun _ => true) true t v d ps) : ∃ f, v = .agg (cellsOf .u8 n f) ∧ ∀ i, f i < 256 := by
  have hv := hval
  simp only [Value.okWide, ht] at hv
  obtain ⟨cs, rfl, hs, _⟩ := hv
  obtain ⟨fuel, hf⟩ := h
  obtain ⟨xs, m, rfl, _, hl, _, hel⟩ := DataW.trod_array ht hf
  have key : ∀ i, i < n → ∃ q : Nat, q < 256 ∧ cs[i]? = some (.int .u8 q) := fun i hi => by
    have h1 := hel i hi
    rw [hc, Nat.mul_one] at h1
    cases hx : xs[i]? with
    | none =>
      rw [hx] at h1
      have hlen : i < cs.toList.length := by
        have : cs.size = n := by rw [hs, hn]
        simp [this]; exact hi
      exfalso
      rename_i hxl
      have : xs.length ≤ i := by simpa using hx
      omega
    | some x =>
      rw [hx] at h1
      obtain ⟨q, e1, _, hw⟩ := DataW.trod_int he h1
      have h2 := getElem?_of_take_drop _ i _ e1
      simp [Lit.wf, IntKind.min, IntKind.max, IntKind.bits, IntKind.signed] at hw
      refine ⟨q.toNat, by omega, ?_⟩
      have e2 : ((q.toNat : Nat) : Int) = q := by omega
      rw [e2]
      simpa [Value.cells] using h2
  refine ⟨fun i => (match cs[i]? with | some (.int _ q) => q.toNat | _ => 0) % 256, ?_, fun i => Nat.mod_lt _ (by decide)⟩
  congr 1
  apply Array.ext
  · rw [cellsOf_size, hs, hn]
  · intro i h1 h2
    have hi : i < n := by rwa [hs, hn] at h1
    obtain ⟨q, hq, hcq⟩ := key i hi
    have e1 := cellsOf_get .u8 n (fun i => (match cs[i]? with | some (.int _ q) => q.toNat | _ => 0) % 256) i hi
    rw [Array.getElem?_eq_getElem h2] at e1
    rw [Array.getElem?_eq_getElem h1] at hcq
    injection e1 with e1
    injection hcq with hcq'
    rw [e1, hcq']
    simp only [Array.getElem?_eq_getElem h1, hcq']
    congr 1
    simp; omega

/-- A byte that comes in. -/
theorem open_u8 {W : World} {t : TypeId} {r : Reach} {b0 : Nat} {v : Value} {d : DataW H} {ps : List MemPlace} (ht : P.underlying t = some (.int .u8))
    (hval : Value.okWide P W r b0 t v) (h : DataW.Trod enc P W 0 (fun _ => true) true t v d ps) : ∃ n : Nat, v = .int .u8 n ∧ n < 256 := by
  obtain ⟨x, rfl, _, _, hx⟩ := open_int ht hval h
  simp [Lit.wf, IntKind.min, IntKind.max, IntKind.bits, IntKind.signed] at hx
  exact ⟨x.toNat, by rw [show ((x.toNat : Nat) : Int) = x by omega], by omega⟩

end
end Go.Proofs.Ytdagbighlgfhjaa
namespace Go.Proofs.Ytdagbighlgfhjaa
open Go.ChangeShapes Go.WideShapes Go.ChangeAt Go.RowKit

set_option maxRecDepth 100000

section
variable {H : Type} {enc : TypeId × Value → H} {P : Program}
theorem at_drop {cs : List Value} {i : Nat} {v : Value} (h : (cs.drop i).take 1 = [v]) : cs[i]? = some v := getElem?_of_take_drop _ i _ h
/-- A slice of numbers, out of its cell. -/
theorem open_numsW {W : World} {t e : TypeId} {k : IntKind} {fuel : Nat} {cs : List Value} {x : DataW H × List MemPlace} (ht : P.underlying t = some (.slice e)) (he : P.underlying e = some (.int k)) (hc : P.cellsOf e = 1) (h0 : (Lit.int k 0).wf = true) (hby : 1 ≤ P.bytesOf e)
    (h : DataW.trod enc P W 0 (fun _ => true) true fuel t cs = some x) (hw : ∀ y, y ∈ x.1.weights P t → y ≤ reachBytes) :
    ∃ (a : Option Addr) (n c : Nat) (z : Nat → Int), cs = [.slice a n c] ∧ n ≤ 140737488355328 ∧ (∀ i, (Lit.int k (z i)).wf = true) ∧
      (0 < n → ∃ tb o, a = some ⟨tb, o, none⟩ ∧ tb < W.heap.size ∧ ∀ i, i < n → W.cell? ⟨tb, o + i, none⟩ = some (.int k (z i))) := by
  rcases open_ints ht he hc h with ⟨h1, _⟩ | ⟨a, len, cap, zs, h1, _, hlc, _, hzl, hx, hcell, hwf⟩
  · exact ⟨none, 0, 0, fun _ => 0, h1, Nat.zero_le _, fun _ => h0, fun h => absurd h (by omega)⟩
  · have hzl' : len ≤ zs.length := by rw [hzl]; simp [hlc]
    refine ⟨some a, len, cap, fun i => zs.getD i 0, h1, ?_, fun i => ?_, fun hn => ?_⟩
    · have := hw ((min len zs.length + (zs.length - len)) * P.bytesOf e) (by
        rw [hx]
        unfold DataW.weights
        rw [ht]
        refine List.mem_cons.2 (Or.inl ?_)
        simp [lits])
      have h2 : (min len zs.length + (zs.length - len)) * 1 ≤ (min len zs.length + (zs.length - len)) * P.bytesOf e := Nat.mul_le_mul_left _ hby
      unfold reachBytes at this
      omega
    · show (Lit.int k (zs.getD i 0)).wf = true
      by_cases hi : i < zs.length
      · have e1 : zs.getD i 0 = zs[i] := by simp [List.getD, List.getElem?_eq_getElem hi]
        rw [e1]
        exact hwf zs[i] (List.getElem_mem hi)
      · have e1 : zs.getD i 0 = 0 := by simp [List.getD, List.getElem?_eq_none (Nat.le_of_not_lt hi)]
        rw [e1]; exact h0
    · have h0' := hcell 0 (by omega)
      have hspot : a.spot = none := by simpa [Addr.add] using World.cell?_spot h0'
      obtain ⟨tb, o, sp⟩ := a
      simp only at hspot
      subst hspot
      refine ⟨tb, o, rfl, ?_, fun i hi => ?_⟩
      · have := World.block_lt_of_cell? W _ h0'
        simpa [Addr.add] using this
      · have h1 := hcell i (by omega)
        rw [Addr.add_mid] at h1
        exact h1
/-- Bytes that come in, and how many. -/
theorem open_bytesW {W : World} {t e : TypeId} {r : Reach} {b0 : Nat} {v : Value} {d : DataW H} {ps : List MemPlace} (ht : P.underlying t = some (.slice e)) (he : P.underlying e = some (.int .u8)) (hc : P.cellsOf e = 1) (hby : 1 ≤ P.bytesOf e)
    (hval : Value.okWide P W r b0 t v) (h : DataW.Trod enc P W 0 (fun _ => true) true t v d ps) (hw : ∀ y, y ∈ d.weights P t → y ≤ reachBytes) :
    ∃ a n c f, v = .slice a n c ∧ n ≤ c ∧ n ≤ 140737488355328 ∧ Rd W W.heap.size a n f ∧ ∀ i, f i < 256 := by
  obtain ⟨a0, len, cap, rfl⟩ := okWide_slice ht hval
  obtain ⟨fuel, hf⟩ := h
  obtain ⟨a, n, c, z, h1, hb, hwf, hcell⟩ := open_numsW ht he hc (by rfl) hby hf hw
  simp [Value.cells] at h1
  obtain ⟨rfl, rfl, rfl⟩ := h1
  have hlc : len ≤ cap := by
    rcases open_ints ht he hc hf with ⟨h2, _⟩ | ⟨_, _, _, _, h2, _, h3, _⟩
    · simp [Value.cells] at h2
      omega
    · simp [Value.cells] at h2
      omega
  have wb : ∀ i, 0 ≤ z i ∧ z i < 256 := fun i => by have := hwf i; simp [Lit.wf, IntKind.min, IntKind.max, IntKind.bits, IntKind.signed] at this; omega
  refine ⟨a0, len, cap, fun i => (z i).toNat, rfl, hlc, hb, ⟨fun hn => ?_⟩, fun i => by have := wb i; show (z i).toNat < 256; omega⟩
  obtain ⟨tb, o, e1, e2, e3⟩ := hcell hn
  refine ⟨tb, o, e1, e2, fun i hi => ?_⟩
  have := wb i
  rw [e3 i hi]
  show some (Value.int .u8 (z i)) = some (Value.int .u8 (((z i).toNat : Nat) : Int))
  rw [show (((z i).toNat : Nat) : Int) = z i by omega]
end
end Go.Proofs.Ytdagbighlgfhjaa
namespace Go.Proofs.Ytdagbighlgfhjaa
open Go.ChangeShapes Go.WideShapes Go.ChangeAt Go.RowKit

set_option maxRecDepth 100000
set_option maxHeartbeats 4000000

theorem QV.zero_ok : QV.zero.Ok := ⟨fun _ => (by decide : 0 < 256), by decide, by decide, by decide, by decide, by decide⟩
/-- Records that can be read. -/
structure RdQ (w : World) (D : Nat) (a : Option Addr) (n : Nat) (X : Nat → QV) : Prop where
  ex : 0 < n → ∃ tb o, a = some ⟨tb, o, none⟩ ∧ tb < D ∧ ∀ i j, i < n → j < 22 → w.cell? ⟨tb, o + (i * 22 + j), none⟩ = some ((X i).v j)
section
variable {H : Type} {enc : TypeId × Value → H} {P : Program}
theorem trod_st7 {W : World} {base : Nat} {spare : Nat → Bool} {held : Bool} {t : TypeId} {f0 f1 f2 f3 f4 f5 f6 : Field} {fuel : Nat} {cs : List Value} {x : DataW H × List MemPlace} (ht : P.underlying t = some (.struct #[f0, f1, f2, f3, f4, f5, f6])) (h : DataW.trod enc P W base spare held fuel t cs = some x) :
    ∃ y0 y1 y2 y3 y4 y5 y6 n, DataW.trod enc P W base spare held n f0.type ((cs.drop f0.offset).take (P.cellsOf f0.type)) = some y0 ∧ DataW.trod enc P W base spare held n f1.type ((cs.drop f1.offset).take (P.cellsOf f1.type)) = some y1 ∧ DataW.trod enc P W base spare held n f2.type ((cs.drop f2.offset).take (P.cellsOf f2.type)) = some y2 ∧ DataW.trod enc P W base spare held n f3.type ((cs.drop f3.offset).take (P.cellsOf f3.type)) = some y3 ∧ DataW.trod enc P W base spare held n f4.type ((cs.drop f4.offset).take (P.cellsOf f4.type)) = some y4 ∧ DataW.trod enc P W base spare held n f5.type ((cs.drop f5.offset).take (P.cellsOf f5.type)) = some y5 ∧ DataW.trod enc P W base spare held n f6.type ((cs.drop f6.offset).take (P.cellsOf f6.type)) = some y6 := by
  obtain ⟨xs, n, _, rfl, hl, hlen, hf⟩ := DataW.trod_struct ht h
  match xs, hlen with
  | [y0, y1, y2, y3, y4, y5, y6], _ => exact ⟨y0, y1, y2, y3, y4, y5, y6, n, by simpa using hf 0 f0 rfl, by simpa using hf 1 f1 rfl, by simpa using hf 2 f2 rfl, by simpa using hf 3 f3 rfl, by simpa using hf 4 f4 rfl, by simpa using hf 5 f5 rfl, by simpa using hf 6 f6 rfl⟩
/-- An array of bytes among cells. -/
theorem trod_arr8 {W : World} {t e : TypeId} {n o fuel : Nat} {cs : List Value} {x : DataW H × List MemPlace} (ht : P.underlying t = some (.array n e)) (he : P.underlying e = some (.int .u8)) (hc : P.cellsOf e = 1)
    (h : DataW.trod enc P W 0 (fun _ => true) true fuel t ((cs.drop o).take n) = some x) : ∃ f : Nat → Nat, (∀ i, f i < 256) ∧ ∀ i, i < n → cs[o + i]? = some (.int .u8 (f i)) := by
  obtain ⟨xs, m, rfl, _, _, hxl, hel⟩ := DataW.trod_array ht h
  have key : ∀ i, i < n → ∃ q : Nat, q < 256 ∧ cs[o + i]? = some (.int .u8 q) := fun i hi => by
    have h1 := hel i hi
    rw [hc, Nat.mul_one] at h1
    have hx : ∃ y, xs[i]? = some y := ⟨xs[i]'(by omega), List.getElem?_eq_getElem (by omega)⟩
    obtain ⟨y, hx⟩ := hx
    rw [hx] at h1
    obtain ⟨q, e1, _, hw⟩ := DataW.trod_int he h1
    have h2 := getElem?_of_take_drop _ i _ e1
    simp [Lit.wf, IntKind.min, IntKind.max, IntKind.bits, IntKind.signed] at hw
    refine ⟨q.toNat, by omega, ?_⟩
    have e2 : ((q.toNat : Nat) : Int) = q := by omega
    rw [e2, ← h2, List.getElem?_take, if_pos hi, List.getElem?_drop]
  refine ⟨fun i => (match cs[o + i]? with | some (.int _ q) => q.toNat | _ => 0) % 256, fun i => Nat.mod_lt _ (by decide), fun i hi => ?_⟩
  obtain ⟨q, hq, hcq⟩ := key i hi
  have e : (match cs[o + i]? with | some (.int _ q) => q.toNat | _ => 0) = q := by rw [hcq]; rfl
  show cs[o + i]? = some (.int .u8 (((match cs[o + i]? with | some (.int _ q) => q.toNat | _ => 0) % 256 : Nat) : Int))
  rw [e, Nat.mod_eq_of_lt hq]
  exact hcq
theorem sub_cells (cs : List Value) (o n k m : Nat) (h : k + m ≤ n) : (((cs.drop o).take n).drop k).take m = (cs.drop (o + k)).take m := by
  rw [List.drop_take, List.take_take, List.drop_drop]
  congr 1
  omega
end
theorem nat_of_u8 {q : Int} (h : (Lit.int .u8 q).wf = true) : ∃ n : Nat, q = (n : Int) ∧ n < 256 := by
  simp [Lit.wf, IntKind.min, IntKind.max, IntKind.bits, IntKind.signed] at h
  exact ⟨q.toNat, by omega, by omega⟩
theorem nat_of_u64 {q : Int} (h : (Lit.int .u64 q).wf = true) : ∃ n : Nat, q = (n : Int) ∧ n < 18446744073709551616 := by
  simp [Lit.wf, IntKind.min, IntKind.max, IntKind.bits, IntKind.signed] at h
  exact ⟨q.toNat, by omega, by omega⟩
section
variable {H : Type} {enc : TypeId × Value → H} {W : World} {cs : List Value} {fuel o : Nat} {y : DataW H × List MemPlace}
theorem o_u8 (h : DataW.trod enc Try.prog W 0 (fun _ => true) true fuel 5 ((cs.drop o).take 1) = some y) : ∃ q : Nat, cs[o]? = some (.int .u8 q) ∧ q < 256 := by
  obtain ⟨z, r, _, hw⟩ := DataW.trod_int Try.underlying5 h
  obtain ⟨q, rfl, hq⟩ := nat_of_u8 hw
  exact ⟨q, at_drop r, hq⟩
theorem o_u64 (h : DataW.trod enc Try.prog W 0 (fun _ => true) true fuel 24 ((cs.drop o).take 1) = some y) : ∃ q : Nat, cs[o]? = some (.int .u64 q) ∧ q < 18446744073709551616 := by
  obtain ⟨z, r, _, hw⟩ := DataW.trod_int Try.underlying24 h
  obtain ⟨q, rfl, hq⟩ := nat_of_u64 hw
  exact ⟨q, at_drop r, hq⟩
theorem o_bool (h : DataW.trod enc Try.prog W 0 (fun _ => true) true fuel 4 ((cs.drop o).take 1) = some y) : ∃ q : Bool, cs[o]? = some (.bool q) := by
  obtain ⟨q, r, _⟩ := DataW.trod_bool Try.underlying4 h
  exact ⟨q, at_drop r⟩
theorem o_id (h : DataW.trod enc Try.prog W 0 (fun _ => true) true fuel 23 ((cs.drop o).take 16) = some y) : ∃ f : Nat → Nat, (∀ i, f i < 256) ∧ ∀ i, i < 16 → cs[o + i]? = some (.int .u8 (f i)) := trod_arr8 (t := 23) (n := 16) (e := 5) (by kernel_rfl) Try.underlying5 (by kernel_rfl) h
theorem o_rec (h : DataW.trod enc Try.prog W 0 (fun _ => true) true fuel 128 ((cs.drop o).take 22) = some y) : ∃ x : QV, x.Ok ∧ ∀ i, i < 22 → cs[o + i]? = some (x.v i) := by
  obtain ⟨y0, y1, y2, y3, y4, y5, y6, n, q0, q1, q2, q3, q4, q5, q6⟩ := trod_st7 Try.underlying128 h
  replace q0 : DataW.trod enc Try.prog W 0 (fun _ => true) true n 23 ((cs.drop (o + 0)).take 16) = some y0 := by rw [← sub_cells cs o 22 0 16 (by decide)]; exact q0
  replace q1 : DataW.trod enc Try.prog W 0 (fun _ => true) true n 5 ((cs.drop (o + 16)).take 1) = some y1 := by rw [← sub_cells cs o 22 16 1 (by decide)]; exact q1
  replace q2 : DataW.trod enc Try.prog W 0 (fun _ => true) true n 4 ((cs.drop (o + 17)).take 1) = some y2 := by rw [← sub_cells cs o 22 17 1 (by decide)]; exact q2
  replace q3 : DataW.trod enc Try.prog W 0 (fun _ => true) true n 5 ((cs.drop (o + 18)).take 1) = some y3 := by rw [← sub_cells cs o 22 18 1 (by decide)]; exact q3
  replace q4 : DataW.trod enc Try.prog W 0 (fun _ => true) true n 24 ((cs.drop (o + 19)).take 1) = some y4 := by rw [← sub_cells cs o 22 19 1 (by decide)]; exact q4
  replace q5 : DataW.trod enc Try.prog W 0 (fun _ => true) true n 24 ((cs.drop (o + 20)).take 1) = some y5 := by rw [← sub_cells cs o 22 20 1 (by decide)]; exact q5
  replace q6 : DataW.trod enc Try.prog W 0 (fun _ => true) true n 24 ((cs.drop (o + 21)).take 1) = some y6 := by rw [← sub_cells cs o 22 21 1 (by decide)]; exact q6
  obtain ⟨f, hf, hc⟩ := o_id q0
  obtain ⟨pe, h1, h1'⟩ := o_u8 q1
  obtain ⟨ou, h2⟩ := o_bool q2
  obtain ⟨oc, h3, h3'⟩ := o_u8 q3
  obtain ⟨bg, h4, h4'⟩ := o_u64 q4
  obtain ⟨an, h5, h5'⟩ := o_u64 q5
  obtain ⟨en, h6, h6'⟩ := o_u64 q6
  refine ⟨⟨f, pe, ou, oc, bg, an, en⟩, ⟨hf, h1', h3', h4', h5', h6'⟩, fun i hi => ?_⟩
  by_cases i0 : i < 16
  · unfold QV.v
    rw [if_pos i0]
    exact hc i i0
  · obtain rfl | rfl | rfl | rfl | rfl | rfl : i = 16 ∨ i = 17 ∨ i = 18 ∨ i = 19 ∨ i = 20 ∨ i = 21 := by omega
    · exact h1
    · exact h2
    · exact h3
    · exact h4
    · exact h5
    · exact h6
theorem o_recs (h : DataW.trod enc Try.prog W 0 (fun _ => true) true fuel 129 ((cs.drop o).take 1) = some y) (hw : ∀ z, z ∈ y.1.weights Try.prog 129 → z ≤ reachBytes) : ∃ (a : Option Addr) (n c : Nat) (X : Nat → QV), cs[o]? = some (.slice a n c) ∧ n ≤ c ∧ n ≤ 140737488355328 ∧ (∀ i, (X i).Ok) ∧ RdQ W W.heap.size a n X := by
  have ht := Try.underlying129
  rcases Deep.open_slice ht h with ⟨h1, _⟩ | ⟨a, len, cap, m, n, D, Pl, h1, _, hlc, hmx, hmm, hd, hx⟩
  · exact ⟨none, 0, 0, fun _ => QV.zero, at_drop h1, Nat.zero_le _, Nat.zero_le _, fun _ => QV.zero_ok, ⟨fun h => absurd h (by decide)⟩⟩
  · have hmc : m = cap := by simpa using hmm
    have hdd : y.1 = .slice ((List.range len).map D) ((List.range (m - len)).map fun j => D (len + j)) := congrArg Prod.fst hd
    have hwd : DataW.weights Try.prog 129 y.1 = (((List.range len).map D).length + ((List.range (m - len)).map fun j => D (len + j)).length) * Try.prog.bytesOf 128 :: (DataW.weightsAll Try.prog 128 ((List.range len).map D) ++ DataW.weightsAll Try.prog 128 ((List.range (m - len)).map fun j => D (len + j))) := by
      rw [hdd]
      conv => lhs; unfold DataW.weights
      rw [ht]
    have hlen : len ≤ 140737488355328 := by
      have h1 := hw _ (by rw [hwd]; exact List.mem_cons_self ..)
      simp only [List.length_map, List.length_range] at h1
      have h2 : (len + (m - len)) * 1 ≤ (len + (m - len)) * Try.prog.bytesOf 128 := Nat.mul_le_mul_left _ (by rw [show Try.prog.bytesOf 128 = 48 by kernel_rfl]; decide)
      unfold reachBytes at h1
      omega
    have cu : Try.prog.cellsOf 128 = 22 := by kernel_rfl
    have hspot0 : 0 < len → a.spot = none := fun h0 => by
      obtain ⟨cs', g1, _⟩ := hx 0 (by omega)
      rw [cu] at g1
      obtain ⟨_, hl5, hc⟩ := World.cells?_some g1
      have c0 := hc 0 (by omega)
      obtain ⟨v0, hv0⟩ : ∃ v, cs'[0]? = some v := ⟨_, List.getElem?_eq_getElem (by omega)⟩
      rw [hv0] at c0
      simpa [Addr.add] using World.cell?_spot c0
    have key : ∀ i, ∃ f : QV, f.Ok ∧ (i < len → a.spot = none ∧ ∀ j, j < 22 → W.cell? ⟨a.block, a.off + (i * 22 + j), none⟩ = some (f.v j)) := fun i => by
      by_cases hi : i < len
      · obtain ⟨cs', g1, g2⟩ := hx i (by omega)
        rw [cu] at g1
        obtain ⟨_, hl5, hc⟩ := World.cells?_some g1
        obtain ⟨f, hf, hq⟩ := o_rec (o := 0) (cs := cs') (by
          rw [List.drop_zero, List.take_of_length_le (by omega)]
          exact g2)
        have hspot := hspot0 (by omega)
        obtain ⟨tb', o', sp⟩ := a
        simp only at hspot
        subst hspot
        refine ⟨f, hf, fun _ => ⟨rfl, fun j hj => ?_⟩⟩
        have c := hc j (by omega)
        rw [Addr.add_mid, Addr.add_mid] at c
        have e := hq j hj
        rw [Nat.zero_add] at e
        rw [e] at c
        rw [← Nat.add_assoc]
        exact c
      · exact ⟨QV.zero, QV.zero_ok, fun h => absurd h hi⟩
    obtain ⟨fm, hfm⟩ := Classical.axiomOfChoice key
    refine ⟨some a, len, cap, fm, at_drop h1, hlc, hlen, fun i => (hfm i).1, ⟨fun h0 => ?_⟩⟩
    have h2 := (hfm 0).2 h0
    have hlt := World.block_lt_of_cell? W _ (h2.2 0 (by decide))
    obtain ⟨tb', o', sp⟩ := a
    have hspot := h2.1
    simp only at hspot
    subst hspot
    exact ⟨tb', o', rfl, hlt, fun i j hi hj => ((hfm i).2 hi).2 j hj⟩
end
theorem open_rec {H : Type} {enc : TypeId × Value → H} {W : World} {v : Value} {d : DataW H} {ps : List MemPlace} {r : Reach} {b0 : Nat}
    (hval : Value.okWide Try.prog W r b0 128 v) (h : DataW.Trod enc Try.prog W 0 (fun _ => true) true 128 v d ps) :
    ∃ x : QV, v = .agg (rowOf 22 x.v) ∧ x.Ok := by
  have hu := Try.underlying128
  have hv := hval
  simp only [Value.okWide, hu] at hv
  obtain ⟨cs, rfl, hs, _⟩ := hv
  have hsz : cs.size = 22 := by rw [hs]; kernel_rfl
  obtain ⟨fuel, hf⟩ := h
  obtain ⟨x, hok, hc⟩ := o_rec (W := W) (cs := cs.toList) (o := 0) (y := (d, ps)) (by
    rw [List.drop_zero, List.take_of_length_le (by rw [Array.length_toList, hsz]; exact Nat.le_refl _)]
    exact hf)
  refine ⟨x, ?_, hok⟩
  congr 1
  apply Array.ext
  · rw [hsz, rowOf_size]
  · intro i h1 h2
    have hi : i < 22 := by omega
    have e1 := hc i hi
    rw [Nat.zero_add, Array.getElem?_toList, Array.getElem?_eq_getElem h1] at e1
    have e2 := rowOf_get 22 x.v i hi
    rw [Array.getElem?_eq_getElem h2] at e2
    exact (Option.some.inj e1).trans (Option.some.inj e2).symm
theorem open_recs {H : Type} {enc : TypeId × Value → H} {W : World} {v : Value} {d : DataW H} {ps : List MemPlace} {r : Reach} {b0 : Nat}
    (hval : Value.okWide Try.prog W r b0 129 v) (h : DataW.Trod enc Try.prog W 0 (fun _ => true) true 129 v d ps) (hw : ∀ y, y ∈ d.weights Try.prog 129 → y ≤ reachBytes) :
    ∃ a n c X, v = .slice a n c ∧ n ≤ c ∧ n ≤ 140737488355328 ∧ (∀ i, (X i).Ok) ∧ RdQ W W.heap.size a n X := by
  obtain ⟨a0, len, cap, rfl⟩ := okWide_slice Try.underlying129 hval
  obtain ⟨fuel, hf⟩ := h
  obtain ⟨a, n, c, X, h1, h2, h3, h4, h5⟩ := o_recs (W := W) (cs := (Value.slice a0 len cap).cells.toList) (o := 0) (y := (d, ps)) (by rw [List.drop_zero]; exact hf) hw
  simp [Value.cells] at h1
  obtain ⟨rfl, rfl, rfl⟩ := h1
  exact ⟨_, _, _, X, rfl, h2, h3, h4, h5⟩
end Go.Proofs.Ytdagbighlgfhjaa
namespace Go.Proofs.Ytdagbighlgfhjaa
open Go.RowKit

set_option maxRecDepth 100000
set_option maxHeartbeats 4000000

theorem RdQ.grown {w w' : World} {D n : Nat} {a : Option Addr} {X : Nat → QV} (h : RdQ w D a n X) {row : Option Nat} (g : w.grownBy w' row) (hr : ∀ k, row = some k → D ≤ k) : RdQ w' D a n X where
  ex := fun hn => by
    obtain ⟨tb, o, h1, h2, h3⟩ := h.ex hn
    exact ⟨tb, o, h1, h2, fun i j hi hj => g.cell (h3 i j hi hj) (fun e => by have := hr tb e.symm; omega)⟩
/-- A record out of its cells. -/
theorem load_cells {w : World} {B o : Nat} {x : QV} (h : ∀ j, j < 22 → w.cell? ⟨B, o + j, none⟩ = some (x.v j)) : (Instr.loadAt 128 (.pointer (some ⟨B, o, none⟩))).run Try.prog w = .ok (.agg (rowOf 22 x.v)) w := by
  obtain ⟨d, e1, k1⟩ := under_row (P := Try.prog) (T := 128) (by kernel_rfl)
  have := run_loadAt_mid (P := Try.prog) w B o 128 (rowOf 22 x.v).toList d (fun j y hy => by
    have hj : j < 22 := by
      have := (List.getElem?_eq_some_iff.1 hy).1
      simpa [rowOf] using this
    rw [Array.getElem?_toList, rowOf_get _ _ _ hj] at hy
    cases hy
    exact h j hj) e1 (by cases d <;> first | rfl | exact k1) (by rw [Array.length_toList, rowOf_size]; kernel_rfl)
  simpa using this
/-- What stands between two rounds of a loop over the records that are compared with others. -/
structure LpI (w : World) (RB NB WB : Nat) (aw : Option Addr) (N cw : Nat) (X : Nat → QV) (k : Nat) (U : World) : Prop where
  res : Boxed U RB 4 (.bool false)
  n : Boxed U NB 3 (.int .i64 (k : Nat))
  want : Boxed U WB 129 (.slice aw N cw)
  rows : RdQ U NB aw N X
  gr : w.grownBy U none
section
variable {w : World} {RB NB WB : Nat} {aw : Option Addr} {N cw : Nat} {X : Nat → QV} {k : Nat} {U U' : World}
theorem LpI.keep {A : Nat} {row : Option Nat} (h : LpI w RB NB WB aw N cw X k U) (h1 : RB < A ∧ NB < A ∧ WB < A ∧ w.heap.size ≤ A) (hg : U.grownBy U' row) (hr : ∀ r, row = some r → A ≤ r) : LpI w RB NB WB aw N cw X k U' :=
  ⟨h.res.kept hg (fun e => by have := hr _ e.symm; omega), h.n.kept hg (fun e => by have := hr _ e.symm; omega), h.want.kept hg (fun e => by have := hr _ e.symm; omega), h.rows.grown hg (fun r e => by have := hr r e; omega), by
    cases row with
    | none => exact grown_trans h.gr hg
    | some r => exact grown_new h.gr hg (by have := hr r rfl; omega)⟩
theorem LpI.next (h : LpI w RB NB WB aw N cw X k U) (h1 : RB ≠ NB) (h2 : WB ≠ NB) (h3 : w.heap.size ≤ NB) : LpI w RB NB WB aw N cw X (k + 1) (U.setCell ⟨NB, 0, none⟩ (.int .i64 ((k + 1 : Nat) : Int))) :=
  ⟨h.res.other h1 _, h.n.set _, h.want.other h2 _, h.rows.grown (grownBy_setCell' U NB _) (fun r e => by cases e; exact Nat.le_refl _), grown_setCell_new h.gr _ _ (Or.inl h3)⟩
end
theorem fin_mem {w U : World} {RB A D : Nat} (b : Bool) (h1 : RB < A) (h2 : w.heap.size ≤ RB) (hD : A ≤ D) (hr : Boxed U RB 4 (.bool false)) (hg : w.grownBy U none) (hd : U.heap[D]? = some (.deferred (some []))) :
    (U.setCell ⟨RB, 0, none⟩ (.bool b)).heap[D]? = some (.deferred (some [])) ∧ Boxed ((U.setCell ⟨RB, 0, none⟩ (.bool b)).putObj D (.deferred none)) RB 4 (.bool b) ∧ w.grownBy ((U.setCell ⟨RB, 0, none⟩ (.bool b)).putObj D (.deferred none)) none :=
  ⟨(heap_setCell_other _ _ _ _ (fun e => by have e : D = RB := e; omega)).trans hd, (hr.set (.bool b)).kept (grownBy_putObj' _ D (.deferred none)) (fun e => by cases e; omega), grown_new (grown_setCell_new hg _ _ (Or.inl h2)) (grownBy_putObj' _ D (.deferred none)) (by omega)⟩
end Go.Proofs.Ytdagbighlgfhjaa
namespace Go.Proofs.Ytdagbighlgfhjaa
open Go.RowKit

set_option maxRecDepth 100000
set_option maxHeartbeats 4000000

attribute [local go_sem] Oper.semAt_some

/-- What stands between two rounds; it was not left yet. -/
structure RaI (w : World) (RB NB WB LB lv : Nat) (aw : Option Addr) (N cw : Nat) (X : Nat → QV) (k : Nat) (U : World) : Prop where
  lp : LpI w RB NB WB aw N cw X k U
  left : Boxed U LB 5 (.int .u8 (lv : Nat))
  on : k = 0 ∨ k < lv
theorem RaI.own {w : World} {RB NB WB LB lv A : Nat} {aw : Option Addr} {N cw : Nat} {X : Nat → QV} (h1 : RB < A ∧ NB < A ∧ WB < A ∧ w.heap.size ≤ A) (h2 : LB < A) : OwnFrom A (RaI w RB NB WB LB lv aw N cw X) := fun s W W' row h hg hr =>
  ⟨h.lp.keep h1 hg (fun r e => (hr r e).1), h.left.kept hg (fun e => by have := (hr _ e.symm).1; omega), h.on⟩
/-- It was left. -/
structure RaX (w : World) (RB NB WB LB lv : Nat) (aw : Option Addr) (N cw : Nat) (X : Nat → QV) (cd : Code) (k : Nat) (U : World) : Prop where
  cd : cd = .exit 0
  lp : LpI w RB NB WB aw N cw X k U
  left : Boxed U LB 5 (.int .u8 (lv : Nat))
  at_ : k = max lv 1
theorem RaX.own {w : World} {RB NB WB LB lv A : Nat} {aw : Option Addr} {N cw : Nat} {X : Nat → QV} (h1 : RB < A ∧ NB < A ∧ WB < A ∧ w.heap.size ≤ A) (h2 : LB < A) (cd : Code) : OwnFrom A (RaX w RB NB WB LB lv aw N cw X cd) := fun s W W' row h hg hr =>
  ⟨h.cd, h.lp.keep h1 hg (fun r e => (hr r e).1), h.left.kept hg (fun e => by have := (hr _ e.symm).1; omega), h.at_⟩
structure Trues (w : World) (e : Ending) (w' : World) : Prop where
  ex : e = .returned (.bool true)
  gr : w.grownBy w' none
theorem RecAll_any (D n c lv : Nat) (a : Option Addr) (F : Nat → Nat) (w : World) (hR : Rd w D a n F) (hf : ∀ i, F i < 256) (hc : n ≤ c) (hl : lv < 256) :
    Calls Try.prog 8 #[.slice a n c, .int .u8 (lv : Nat)] w (Trues w) := by
  have gb := grown_alloc (World.grownBy_alloc w (.cells #[.int .u8 (lv : Nat)] 5) none) (.cells #[.bool false] 4)
  have hz1 := World.size_alloc w (.cells #[.int .u8 (lv : Nat)] 5)
  have hLB := (Boxed.new w 5 (.int .u8 (lv : Nat))).alloc (.cells #[.bool false] 4)
  have hRB := Boxed.new (w.alloc (.cells #[.int .u8 (lv : Nat)] 5)) 4 (.bool false)
  rw [hz1] at hRB
  refine (callsIn_wide (n := 8)).1 ?_
  refine callsIn_of_wp_marks Try.func8 rfl trivial ?_ rfl
  simp only [Try.ntmps8, List.size_toArray, List.length_cons, List.length_nil, Nat.reduceAdd, Nat.reduceSub, Array.replicate_succ, Array.replicate_zero, List.push_toArray, List.append_toArray, List.nil_append, List.cons_append]
  refine wpIn_wide.2 ?_
  go_upto_region 1 with fail
  obtain ⟨LB, hB⟩ : ∃ B, B = w.heap.size := ⟨_, rfl⟩
  rw [← hB] at hLB hRB hz1 ⊢
  obtain ⟨RB, hB2⟩ : ∃ B, B = LB + 1 := ⟨_, rfl⟩
  rw [← hB2] at hRB ⊢
  generalize (w.alloc (.cells #[.int .u8 (lv : Nat)] 5)).alloc (.cells #[.bool false] 4) = w1 at *
  have HB := Lib.hid (show LB = w.heap.size ∧ RB = LB + 1 ∧ RB < w1.heap.size from ⟨hB, hB2, hRB.lt⟩)
  have HLB := Lib.hid hLB
  have HRB := Lib.hid hRB
  have HG1 := Lib.hid gb
  have H1 := Lib.hid (works11_any w1)
  have HRd := Lib.hid hR
  have HF := Lib.hid hf
  have HC := Lib.hid hc
  have HL := Lib.hid hl
  clear hB hB2 hRB hLB gb hz1 hR hf hc hl
  go_wp2_with fail
  go_at_call 51
  refine H1.out.mono ?_
  rintro e w2 ⟨rfl, g2⟩
  have HG2 := Lib.hid (show w1.grownBy w2 none from g2)
  clear H1 g2
  by_cases h5 : 5000 < n
  · have j0 : (5000 : Int) < (n : Int) := by omega
    have hR2 := HRB.out.kept HG2.out (by simp)
    have cr := hR2.cell
    have fr := hR2.frozen
    have HR := Lib.hid (hR2.set (.bool true))
    have HG := Lib.hid (grown_setCell_new (grown_trans HG1.out HG2.out) ⟨RB, 0, none⟩ (.bool true) (Or.inl (by show w.heap.size ≤ RB; have := HB.out; omega)))
    clear hR2 h5
    go_wp2_with fail
    have cc := HR.out.cell
    refine ⟨.bool true, ?_, ⟨rfl, HG.out⟩⟩
    simp [results, Try.results8]
    go_simp
  · have j0 : ¬ (5000 : Int) < (n : Int) := by omega
    obtain ⟨N, hN⟩ := exN n F
    have HN := Lib.hid hN
    have HW := Lib.hid (refRecAll_any D n c N a F w2 (HRd.out.grown (grown_trans HG1.out HG2.out) (by simp)) HC.out HF.out hN (by omega))
    have HNN := Lib.hid (show n ≤ 5000 by omega)
    clear hN h5
    go_wp2_with fail
    go_at_call 56
    refine HW.out.mono ?_
    rintro e w3 ⟨⟨aw, cw, rfl, hO⟩, g3⟩
    have HO := Lib.hid hO
    have HG3 := Lib.hid (grown_trans HG2.out g3)
    clear hO g3 HW HG2
    have gA := grown_alloc (World.grownBy_alloc w3 (.cells #[.slice aw N cw] 129) none) (.cells #[.int .i64 0] 3)
    have hWB := (Boxed.new w3 129 (.slice aw N cw)).alloc (.cells #[.int .i64 0] 3)
    have hNB := Boxed.new (w3.alloc (.cells #[.slice aw N cw] 129)) 3 (.int .i64 0)
    have hz := World.size_alloc w3 (.cells #[.slice aw N cw] 129)
    rw [hz] at hNB
    go_upto_region 7 with fail
    obtain ⟨WB, hWe⟩ : ∃ B, B = w3.heap.size := ⟨_, rfl⟩
    rw [← hWe] at hWB hNB hz ⊢
    obtain ⟨NB, hNe⟩ : ∃ B, B = WB + 1 := ⟨_, rfl⟩
    rw [← hNe] at hNB hz ⊢
    generalize (w3.alloc (.cells #[.slice aw N cw] 129)).alloc (.cells #[.int .i64 0] 3) = w4 at *
    have hRQ : RdQ w4 NB aw N (recs F) := ⟨fun h0 => by
      rcases HO.out.ex with ⟨_, e⟩ | ⟨g, cap, e, hE, _⟩
      · omega
      · cases e
        refine ⟨g, 0, rfl, by have := hE.lt; omega, fun i j hi hj => ?_⟩
        rw [Nat.zero_add]
        exact gA.cell (hE.cell i j hi hj) (by simp)⟩
    have HLP : Hid (LpI w RB NB WB aw N cw (recs F) 0 w4) := Lib.hid ⟨(HRB.out.kept HG3.out (by simp)).kept gA (by simp), hNB, hWB, hRQ, grown_trans (grown_trans HG1.out HG3.out) gA⟩
    have HL4 := Lib.hid ((HLB.out.kept HG3.out (by simp)).kept gA (by simp))
    have HALL := Lib.hid (recAll_any D n c a F w4 (HRd.out.grown HLP.out.gr (by simp)) (by have := HNN.out; omega))
    have HQ := Lib.hid (show RB < WB ∧ LB < WB ∧ NB = WB + 1 ∧ NB < w4.heap.size ∧ w.heap.size ≤ RB ∧ w.heap.size ≤ WB by have := HB.out; have := HG3.out.size; have := hNB.lt; omega)
    clear gA hWB hNB hz hRQ HG3 HO hWe hNe
    go_wp2_with fail
    go_at_call 57
    refine HALL.out.mono ?_
    rintro e w8 ⟨⟨B, ab, cb, rfl, hBs, hC, hLc, hO⟩, g8⟩
    have HSEQ := Lib.hid (all_seq (8 - 1) N n cb B ab F (fun x => x = NB) w8 HF.out HN.out (by have := HNN.out; omega) hLc (by decide) (by have := HQ.out; omega) (fun tb o e => by
      rcases hO.ex with ⟨e2, _⟩ | ⟨q, cap, e2, _, hq⟩
      · cases e2; cases e
      · cases e2; cases e; have := HQ.out; omega) hC (by obtain ⟨a', c', e, _, hR⟩ := hO.rd; cases e; exact hR))
    have HA := Lib.hid (show (RB < w8.heap.size ∧ NB < w8.heap.size ∧ WB < w8.heap.size ∧ w.heap.size ≤ w8.heap.size) ∧ LB < w8.heap.size by have := HQ.out; have := g8.size; omega)
    have HI0 : Hid (RaI w RB NB WB LB lv aw N cw (recs F) 0 w8) := Lib.hid ⟨HLP.out.keep (A := w4.heap.size) (by have := HQ.out; omega) g8 (fun r e => by cases e), HL4.out.kept g8 (by simp), Or.inl rfl⟩
    clear hBs hC hLc hO g8 HALL HLP HL4
    go_wp2_with fail
    refine (wpIn_wide (n := 8)).1 ?_
    refine wpIn_rangeN rfl (by decide) (gf := 131) (lb := #[.pointer (some ⟨B, 0, none⟩)]) rfl trivial (enters_of Try.func131 (by kernel_rfl) rfl) HSEQ.out (fun _ => rfl)
      (RaI w RB NB WB LB lv aw N cw (recs F)) (RaX w RB NB WB LB lv aw N cw (recs F)) (RaI.own HA.out.1 HA.out.2) (RaX.own HA.out.1 HA.out.2) HI0.out
      (fun k act U => ∃ rb x1 x2 x9 x10 x11 x12 x13 x14 x15 x16 x17 x18 x19 x20 x21 x22 x23 x24 x25 x26 x27 x28 x29 x30 x31 x32 x33 x34 x35 x36 x37 x38 x39 x40 x41 x42 x43 x44 x45 x46 x47 x48 x49 x50 x51, act = { tmps := #[.slice a n c, x1, x2, .pointer (some ⟨LB, 0, none⟩), .pointer (some ⟨RB, 0, none⟩), .pointer (some ⟨WB, 0, none⟩), .pointer (some ⟨NB, 0, none⟩), .int .i64 (43 * k : Nat), .pointer (some ⟨rb, 0, none⟩), x9, x10, x11, x12, x13, x14, x15, x16, x17, x18, x19, x20, x21, x22, x23, x24, x25, x26, x27, x28, x29, x30, x31, x32, x33, x34, x35, x36, x37, x38, x39, x40, x41, x42, x43, x44, x45, x46, x47, x48, x49, x50, x51], defers := [] } ∧ RowAt U rb 128 22 (recs F k).v ∧ w8.heap.size ≤ rb ∧ RaI w RB NB WB LB lv aw N cw (recs F) k U) ?_ ?_ ?_ ?_ ?_
    · intro k a' _ U U' row h hgr hr
      obtain ⟨rb, x1, x2, x9, x10, x11, x12, x13, x14, x15, x16, x17, x18, x19, x20, x21, x22, x23, x24, x25, x26, x27, x28, x29, x30, x31, x32, x33, x34, x35, x36, x37, x38, x39, x40, x41, x42, x43, x44, x45, x46, x47, x48, x49, x50, x51, rfl, h2, h3, h4⟩ := h
      refine ⟨rb, _, _, _, _, _, _, _, _, _, _, _, _, _, _, _, _, _, _, _, _, _, _, _, _, _, _, _, _, _, _, _, _, _, _, _, _, _, _, _, _, _, _, _, _, _, rfl, h2.grown hgr (fun e => ?_), h3, RaI.own HA.out.1 HA.out.2 k U U' row h4 hgr hr⟩
      obtain ⟨_, o, ho, hc⟩ := hr _ e.symm
      rw [h2.block] at ho
      cases ho
      cases hc
    · rintro l k U K hk hI hU hK
      obtain ⟨p, hp⟩ : ∃ p, p = 43 * k := ⟨_, rfl⟩
      rw [← hp] at hK ⊢
      obtain ⟨y, hy⟩ : ∃ y, y = recs F k := ⟨_, rfl⟩
      rw [← hy] at hK ⊢
      have hN := RowAt.new U 128 22 QV.zero.v _ QV.zero_row
      obtain ⟨k1, k2⟩ := RowAt.store (P := Try.prog) hN 0 128 22 y.v (by decide) (by kernel_rfl) (fun j _ => QV.one _ j)
      obtain ⟨w2, hw2⟩ : ∃ W, W = (U.alloc (.cells #[.int .u8 0, .int .u8 0, .int .u8 0, .int .u8 0, .int .u8 0, .int .u8 0, .int .u8 0, .int .u8 0, .int .u8 0, .int .u8 0, .int .u8 0, .int .u8 0, .int .u8 0, .int .u8 0, .int .u8 0, .int .u8 0, .int .u8 0, .bool false, .int .u8 0, .int .u64 0, .int .u64 0, .int .u64 0] 128)).setCells U.heap.size 0 (rowOf 22 y.v).toList := ⟨_, rfl⟩
      have g2 : U.grownBy w2 none := by rw [hw2]; exact grown_setCells U.heap.size (Or.inl (Nat.le_refl _)) _ 0 _ (World.grownBy_alloc U _ none)
      rw [← hw2] at k1 k2
      have hX2 := k2.congr (v' := y.v) fun i hi => by rw [if_pos ⟨Nat.zero_le _, by omega⟩, Nat.sub_zero]
      have HS := Lib.hid k1
      have HX := Lib.hid hX2
      have HG := Lib.hid g2
      have HI := Lib.hid hI
      have HK := Lib.hid hK
      have HU := Lib.hid hU
      clear hN k1 k2 hw2 hX2 g2 hI hK hU hp hy
      gi_wp2_with ((with_reducible refine roundIn_here ?_); refine roundIn_st (T := 128) (p := .pointer (some ⟨U.heap.size, 0, none⟩)) (v := .agg (rowOf 22 y.v)) (.tmp 8) (.tmp 19) ?_ ?_ ?_ ?_ ?_ HS.out ?_; (· rfl); (· rfl); go_simp; (· kernel_rfl); (· kernel_rfl))
      exact HK.out _ _ (KeepsOthers.of_grownBy HG.out (fun _ _ e => by cases e)) (KeepX.grown (by have := HU.out; omega) HG.out) ⟨U.heap.size, _, _, _, _, _, _, _, _, _, _, _, _, _, _, _, _, _, _, _, _, _, _, _, _, _, _, _, _, _, _, _, _, _, _, _, _, _, _, _, _, _, _, _, _, _, rfl, HX.out, by have := HU.out; omega, ⟨HI.out.lp.keep (A := U.heap.size) (by have := HA.out; have := HU.out; omega) HG.out (fun r e => by cases e), HI.out.left.kept HG.out (by simp), HI.out.on⟩⟩
    · rintro l k a' U hk hU ⟨rb, x1, x2, x9, x10, x11, x12, x13, x14, x15, x16, x17, x18, x19, x20, x21, x22, x23, x24, x25, x26, x27, x28, x29, x30, x31, x32, x33, x34, x35, x36, x37, x38, x39, x40, x41, x42, x43, x44, x45, x46, x47, x48, x49, x50, x51, rfl, hX, hrb, hI⟩
      obtain ⟨p, hp⟩ : ∃ p, p = 43 * k := ⟨_, rfl⟩
      rw [← hp]
      obtain ⟨y, hy⟩ : ∃ y, y = recs F k := ⟨_, rfl⟩
      rw [← hy] at hX
      obtain ⟨tb, o, rfl, htb, hcell⟩ := hI.lp.rows.ex (by omega)
      have HC := Lib.hid (show ∀ j, j < 22 → U.cell? ⟨tb, o + (k * 22 + j), none⟩ = some (y.v j) from fun j hj => by rw [hy]; exact hcell k j hk hj)
      have HX := Lib.hid hX
      have HII := Lib.hid hI
      have HI := Lib.hid hI.lp
      have HU := Lib.hid hU
      have hk5 : k ≤ 5000 := by have := HN.out.le; have := HNN.out; omega
      have hN5 : N ≤ 5000 := by have := HN.out.le; have := HNN.out; omega
      have j1 : (k : Int) < (N : Int) := by omega
      have j1' : k < N := hk
      have j2 : (k : Int) * 43 = (p : Int) := by omega
      have j3 : (p : Int) < 300000 := by omega
      have j4 : (k : Int) < 5001 := by omega
      have HKN := Lib.hid hk
      clear hX hI hU hrb hp hy hcell htb hk5 hN5 hk
      gi_wp2
      refine wpIn_region_heldR (fun W => U.grownBy W none) (by kernel_rfl) (by kernel_rfl) (by rintro ⟨_, _, h⟩; exact h) ?_
      change wpAnyH _ _ _ _ _ 18 #[false, false, false, false, false, false, false, false, false, false, false, false, false, false, false, false, false, false] _ (World.drew _)
      have gq := grown_drew (grown_refl U none)
      generalize World.drew U = q1 at *
      refine wpAnyH_takeD (some 20) (i := 0) (v := (.int .i64 (k : Nat))) rfl rfl (by kernel_rfl) (by kernel_rfl) (by kernel_rfl) (fun _ _ _ h => h) (Or.inl ⟨rfl, fun W hW => by have cc := (HI.out.n.kept hW (by simp)).cell; go_simp⟩) gq ?_
      simp only [Act.put, List.setIfInBounds_toArray, List.set_cons_succ, List.set_cons_zero]
      refine wpAnyH_takeD (some 21) (i := 1) (v := (.slice (some ⟨tb, o, none⟩) N cw)) rfl rfl (by kernel_rfl) (by kernel_rfl) (by kernel_rfl) (fun _ _ _ h => h) (Or.inl ⟨rfl, fun W hW => by have cc := (HI.out.want.kept hW (by simp)).cell; go_simp⟩) gq ?_
      simp only [Act.put, List.setIfInBounds_toArray, List.set_cons_succ, List.set_cons_zero]
      refine wpAnyH_takeD (some 22) (i := 2) (v := (.int .i64 (N : Nat))) rfl rfl (by kernel_rfl) (by kernel_rfl) (by kernel_rfl) (fun _ _ _ h => h) (Or.inl ⟨rfl, fun _ _ => by go_simp⟩) gq ?_
      simp only [Act.put, List.setIfInBounds_toArray, List.set_cons_succ, List.set_cons_zero]
      refine wpAnyH_takeD (some 23) (i := 3) (v := (.bool false)) rfl rfl (by kernel_rfl) (by kernel_rfl) (by kernel_rfl) (fun _ _ _ h => h) (Or.inl ⟨rfl, fun _ _ => by go_simp⟩) gq ?_
      simp only [Act.put, List.setIfInBounds_toArray, List.set_cons_succ, List.set_cons_zero]
      refine wpAnyH_takeD (some 24) (i := 4) (v := (.bool false)) rfl rfl (by kernel_rfl) (by kernel_rfl) (by kernel_rfl) (fun _ _ _ h => h) (Or.inl ⟨rfl, fun _ _ => rfl⟩) gq ?_
      simp only [Act.put, List.setIfInBounds_toArray, List.set_cons_succ, List.set_cons_zero]
      refine wpAnyH_takeD (some 25) (i := 5) (v := (.int .i64 (p : Nat))) rfl rfl (by kernel_rfl) (by kernel_rfl) (by kernel_rfl) (fun _ _ _ h => h) (Or.inl ⟨rfl, fun _ _ => rfl⟩) gq ?_
      simp only [Act.put, List.setIfInBounds_toArray, List.set_cons_succ, List.set_cons_zero]
      refine wpAnyH_takeD (some 26) (i := 6) (v := (.int .i64 (k : Nat))) rfl rfl (by kernel_rfl) (by kernel_rfl) (by kernel_rfl) (fun _ _ _ h => h) (Or.inl ⟨rfl, fun W hW => by have cc := (HI.out.n.kept hW (by simp)).cell; go_simp⟩) gq ?_
      simp only [Act.put, List.setIfInBounds_toArray, List.set_cons_succ, List.set_cons_zero]
      refine wpAnyH_takeD (some 27) (i := 7) (v := (.int .i64 (p : Nat))) rfl rfl (by kernel_rfl) (by kernel_rfl) (by kernel_rfl) (fun _ _ _ h => h) (Or.inl ⟨rfl, fun _ _ => by go_simp; rw [IntKind.wrap_i64]; try omega⟩) gq ?_
      simp only [Act.put, List.setIfInBounds_toArray, List.set_cons_succ, List.set_cons_zero]
      refine wpAnyH_takeD (some 28) (i := 8) (v := (.bool false)) rfl rfl (by kernel_rfl) (by kernel_rfl) (by kernel_rfl) (fun _ _ _ h => h) (Or.inl ⟨rfl, fun _ _ => by go_simp⟩) gq ?_
      simp only [Act.put, List.setIfInBounds_toArray, List.set_cons_succ, List.set_cons_zero]
      refine wpAnyH_takeD (some 29) (i := 9) (v := (.bool false)) rfl rfl (by kernel_rfl) (by kernel_rfl) (by kernel_rfl) (fun _ _ _ h => h) (Or.inl ⟨rfl, fun _ _ => by go_simp⟩) gq ?_
      simp only [Act.put, List.setIfInBounds_toArray, List.set_cons_succ, List.set_cons_zero]
      refine wpAnyH_takeD (some 30) (i := 10) (v := (.bool false)) rfl rfl (by kernel_rfl) (by kernel_rfl) (by kernel_rfl) (fun _ _ _ h => h) (Or.inl ⟨rfl, fun _ _ => rfl⟩) gq ?_
      simp only [Act.put, List.setIfInBounds_toArray, List.set_cons_succ, List.set_cons_zero]
      refine wpAnyH_takeD (some 31) (i := 11) (v := (.agg (rowOf 22 y.v))) rfl rfl (by kernel_rfl) (by kernel_rfl) (by kernel_rfl) (fun _ _ _ h => h) (Or.inl ⟨rfl, fun W hW => exec_loadQ (.tmp 8) _ _ rfl rfl ((HX.out.grown hW (by simp)).load (P := Try.prog) 0 128 22 y.v (by decide) (fun j _ => by rw [Nat.zero_add]) (by kernel_rfl) (by kernel_rfl))⟩) gq ?_
      simp only [Act.put, List.setIfInBounds_toArray, List.set_cons_succ, List.set_cons_zero]
      refine wpAnyH_takeD (some 32) (i := 12) (v := (.slice (some ⟨tb, o, none⟩) N cw)) rfl rfl (by kernel_rfl) (by kernel_rfl) (by kernel_rfl) (fun _ _ _ h => h) (Or.inl ⟨rfl, fun W hW => by have cc := (HI.out.want.kept hW (by simp)).cell; go_simp⟩) gq ?_
      simp only [Act.put, List.setIfInBounds_toArray, List.set_cons_succ, List.set_cons_zero]
      refine wpAnyH_takeD (some 33) (i := 13) (v := (.int .i64 (k : Nat))) rfl rfl (by kernel_rfl) (by kernel_rfl) (by kernel_rfl) (fun _ _ _ h => h) (Or.inl ⟨rfl, fun W hW => by have cc := (HI.out.n.kept hW (by simp)).cell; go_simp⟩) gq ?_
      simp only [Act.put, List.setIfInBounds_toArray, List.set_cons_succ, List.set_cons_zero]
      refine wpAnyH_takeD (some 34) (i := 14) (v := (.pointer (some ⟨tb, o + k * 22, none⟩))) rfl rfl (by kernel_rfl) (by kernel_rfl) (by kernel_rfl) (fun _ _ _ h => h) (Or.inl ⟨rfl, fun _ _ => by go_simp⟩) gq ?_
      simp only [Act.put, List.setIfInBounds_toArray, List.set_cons_succ, List.set_cons_zero]
      refine wpAnyH_takeD (some 35) (i := 15) (v := (.agg (rowOf 22 y.v))) rfl rfl (by kernel_rfl) (by kernel_rfl) (by kernel_rfl) (fun _ _ _ h => h) (Or.inl ⟨rfl, fun W hW => exec_loadQ (.tmp 34) _ _ rfl rfl (load_cells fun j hj => by rw [Nat.add_assoc]; exact hW.cell (HC.out j hj) (by simp))⟩) gq ?_
      simp only [Act.put, List.setIfInBounds_toArray, List.set_cons_succ, List.set_cons_zero]
      refine wpAnyH_takeD (some 36) (i := 16) (v := (.bool false)) rfl rfl (by kernel_rfl) (by kernel_rfl) (by kernel_rfl) (fun _ _ _ h => h) (Or.inl ⟨rfl, fun W _ => exec_neR 31 35 y rfl rfl rfl⟩) gq ?_
      simp only [Act.put, List.setIfInBounds_toArray, List.set_cons_succ, List.set_cons_zero]
      refine wpAnyH_takeD (some 37) (i := 17) (v := (.bool false)) rfl rfl (by kernel_rfl) (by kernel_rfl) (by kernel_rfl) (fun _ _ _ h => h) (Or.inl ⟨rfl, fun _ _ => by go_simp⟩) gq ?_
      simp only [Act.put, List.setIfInBounds_toArray, List.set_cons_succ, List.set_cons_zero]
      refine wpAnyH_done (by kernel_rfl) ?_ _
      have hn := HI.out.n.kept gq (by simp)
      have cn : q1.cell? ⟨NB, 0, none⟩ = some (.int .i64 (k : Nat)) := hn.cell
      have fn := hn.frozen
      have j5 : (k : Int) + 1 = ((k + 1 : Nat) : Int) := by omega
      have hLq := HII.out.left.kept gq (by simp)
      have HLN : Hid (LpI w RB NB WB (some ⟨tb, o, none⟩) N cw (recs F) (k + 1) (q1.setCell ⟨NB, 0, none⟩ (.int .i64 ((k + 1 : Nat) : Int)))) := Lib.hid ((HI.out.keep (A := U.heap.size) (by have := HA.out; have := HU.out; omega) gq (fun r e => by cases e)).next (by have := HQ.out; omega) (by have := HQ.out; omega) (by have := HQ.out; omega))
      have hL2 := hLq.other (show LB ≠ NB by have := HQ.out; omega) (.int .i64 ((k + 1 : Nat) : Int))
      have HLL := Lib.hid hL2
      obtain ⟨k', hk'⟩ : ∃ k', k' = k + 1 := ⟨_, rfl⟩
      rw [← hk'] at j5 HLN HLL hL2
      have HKK := Lib.hid hk'
      have HKO : Hid (KeepsOthers U (q1.setCell ⟨NB, 0, none⟩ (.int .i64 (k' : Int)))) := Lib.hid ((KeepsOthers.of_grownBy gq (fun _ _ e => by cases e)).trans (KeepsOthers.setCell _ _ _))
      have HKX : Hid (KeepX w8.heap.size (fun x => x = NB) U (q1.setCell ⟨NB, 0, none⟩ (.int .i64 (k' : Int)))) := Lib.hid ((KeepX.grown (by have := HU.out; omega) gq).trans (KeepX.into (by have := gq.size; have := HU.out; omega) (grownBy_setCell' q1 NB _) (Or.inl rfl)))
      have cl2 := hL2.cell
      have cn2 := HLN.out.n.cell
      have hlv := HL.out
      by_cases hb : lv ≤ k'
      · have j6 : (lv : Int) ≤ (k' : Int) := by omega
        have HE := Lib.hid (show k' = max lv 1 by have := HII.out.on; omega)
        have j7 : (lv : Int) < 256 := by omega
        clear hn gq hLq hL2 hk' hb hlv
        gi_wp2
        exact ⟨HKO.out, by rw [← HKK.out]; exact ⟨rfl, HLN.out, HLL.out, HE.out⟩⟩
      · have j6 : ¬ (lv : Int) ≤ (k' : Int) := by omega
        have HE := Lib.hid (show k' = 0 ∨ k' < lv by omega)
        have j7 : (lv : Int) < 256 := by omega
        clear hn gq hLq hL2 hk' hb hlv
        gi_wp2
        exact ⟨HKO.out, HKX.out, by rw [← HKK.out]; exact ⟨HLN.out, HLL.out, HE.out⟩⟩
    · rintro D U hD hI hDd
      have cn := hI.lp.n.cell
      have cw' := hI.lp.want.cell
      have cl := hI.left.cell
      have cr := hI.lp.res.cell
      have fr := hI.lp.res.frozen
      obtain ⟨f1, f2, f3⟩ := fin_mem true HA.out.1.1 (by have := HQ.out; omega) hD hI.lp.res hI.lp.gr hDd
      have HD := Lib.hid f1
      have HR := Lib.hid f2
      have HG := Lib.hid f3
      have hon := hI.on
      have j1 : (N : Int) < 5001 := by have := HN.out.le; have := HNN.out; omega
      have j2 : (lv : Int) < 256 := by have := HL.out; omega
      by_cases h1 : lv < 1
      · obtain rfl : lv = 0 := by omega
        obtain rfl : N = 0 := by omega
        clear f1 f2 f3 hI hDd hon h1 hD
        gi_wp2
        go_wp2_with fail
        refine ⟨by simp, .inl ⟨_, _, rfl, run_takeDeferred HD.out, ?_⟩⟩
        have cc := HR.out.cell
        refine ⟨.bool true, ?_, ⟨rfl, HG.out⟩⟩
        simp [results, Try.results8]
        go_simp
      · have j3 : (1 : Int) ≤ (lv : Int) := by omega
        have j4 : ¬ (lv : Int) < 1 := by omega
        have j5 : (N : Int) ≤ (lv : Int) := by omega
        have j6 : ¬ (lv : Int) < (N : Int) := by omega
        have j7 : (lv : Int) < 9223372036854775808 := by omega
        clear f1 f2 f3 hI hDd hon h1 hD
        gi_wp2
        go_wp2_with fail
        refine ⟨by simp, .inl ⟨_, _, rfl, run_takeDeferred HD.out, ?_⟩⟩
        have cc := HR.out.cell
        refine ⟨.bool true, ?_, ⟨rfl, HG.out⟩⟩
        simp [results, Try.results8]
        go_simp
    · rintro D c k U hD hk ⟨rfl, hlp, hl, hat⟩ hDd
      have cn := hlp.n.cell
      have cw' := hlp.want.cell
      have cl := hl.cell
      have cr := hlp.res.cell
      have fr := hlp.res.frozen
      obtain ⟨f1, f2, f3⟩ := fin_mem true HA.out.1.1 (by have := HQ.out; omega) hD hlp.res hlp.gr hDd
      have HD := Lib.hid f1
      have HR := Lib.hid f2
      have HG := Lib.hid f3
      have j1 : (N : Int) < 5001 := by have := HN.out.le; have := HNN.out; omega
      have j2 : (lv : Int) < 256 := by have := HL.out; omega
      by_cases h1 : lv < 1
      · obtain rfl : lv = 0 := by omega
        obtain rfl : k = 1 := by omega
        have j5 : (1 : Int) ≤ (N : Int) := by omega
        have j6 : ¬ (N : Int) < 1 := by omega
        clear f1 f2 f3 hlp hl hDd h1 hD hat
        gi_wp2
        go_wp2_with fail
        · refine ⟨by simp, .inl ⟨_, _, rfl, run_takeDeferred HD.out, ?_⟩⟩
          have cc := HR.out.cell
          refine ⟨.bool true, ?_, ⟨rfl, HG.out⟩⟩
          simp [results, Try.results8]
          go_simp
        · rw [show ((1 : Int) == (N : Int)) = true from by rw [show (1 : Int) = (N : Int) by omega]; exact beq_self_eq_true _]
          refine ⟨by simp, .inl ⟨_, _, rfl, run_takeDeferred HD.out, ?_⟩⟩
          have cc := HR.out.cell
          refine ⟨.bool true, ?_, ⟨rfl, HG.out⟩⟩
          simp [results, Try.results8]
          go_simp
      · obtain rfl : k = lv := by omega
        have j3 : (1 : Int) ≤ (k : Int) := by omega
        have j4 : ¬ (k : Int) < 1 := by omega
        have j5 : (k : Int) ≤ (N : Int) := by omega
        have j6 : ¬ (N : Int) < (k : Int) := by omega
        clear f1 f2 f3 hlp hl hDd h1 hD hat hk
        gi_wp2
        go_wp2_with fail
        · refine ⟨by simp, .inl ⟨_, _, rfl, run_takeDeferred HD.out, ?_⟩⟩
          have cc := HR.out.cell
          refine ⟨.bool true, ?_, ⟨rfl, HG.out⟩⟩
          simp [results, Try.results8]
          go_simp
        · rw [show ((k : Int) == (N : Int)) = true from by rw [show (k : Int) = (N : Int) by omega]; exact beq_self_eq_true _]
          refine ⟨by simp, .inl ⟨_, _, rfl, run_takeDeferred HD.out, ?_⟩⟩
          have cc := HR.out.cell
          refine ⟨.bool true, ?_, ⟨rfl, HG.out⟩⟩
          simp [results, Try.results8]
          go_simp
end Go.Proofs.Ytdagbighlgfhjaa
namespace Go.Proofs.Ytdagbighlgfhjaa
open Go.ChangeShapes Go.WideShapes Go.ChangeAt Go.RowKit

set_option maxRecDepth 100000 in
theorem recAll_lifted (os : Os) (started : os.Started) (H : Type) (enc : TypeId × Value → H) :
    ReturnsInHanded {} Try.checked os 8 .any (Rows.recAllSpec.pre6 enc Try.prog Try.f8 Rows.recAllRow.domain false) (Rows.recAllSpec.post enc Try.prog Try.f8 false true false false) := by
  refine returnsInHanded_of_change_sized (C := Try.checked) own started (by kernel_rfl) Try.func8
    (ChangeSpec.witness6 (enc := enc) (C := Try.checked) false ⟨#[], #[.slice none 0 0, .int .u8 0], []⟩ 8 (by kernel_rfl) (by kernel_rfl) (by kernel_rfl) (by kernel_rfl)) ?_
  intro W base args ds gs before hval0 hW _ hwt _
  have hval : ∀ (j : Nat) t v, Try.f8.params[j]? = some t → args[j]? = some v → Value.okWide Try.prog W .any base t v := hval0
  have hW' := hW
  obtain ⟨p, q, hA0, hV, rfl, _, _⟩ := hW
  have hA : DataW.TrodAll enc Try.prog W 0 (fun _ => true) true Try.f8.params.toList args.toList ds p := hA0
  have hwt' : (DataW.weightsEach Try.prog (Try.f8.params.toList ++ Rows.recAllSpec.plain.varTypes Try.prog) (ds ++ gs)).all (· ≤ reachBytes) = true := hwt
  rw [Try.params8] at hA hval hwt'
  obtain ⟨v0, vs0, d0, ds0, p0, q0, hv0, rfl, rfl, h0, hA1⟩ := trodAll_cons hA
  obtain ⟨v1, vs1, d1, ds1, p1, q1, rfl, rfl, rfl, h1, hA2⟩ := trodAll_cons hA1
  obtain ⟨rfl, rfl, rfl⟩ := trodAll_nil hA2
  obtain ⟨l⟩ := args
  simp only at hv0
  subst hv0
  obtain ⟨rfl, rfl⟩ := trodVars_none hV
  have hw0 : ∀ y, y ∈ DataW.weights Try.prog 39 d0 → y ≤ reachBytes := fun y hy => by
    have hm : y ∈ DataW.weightsEach Try.prog (#[39, 5].toList ++ Rows.recAllSpec.plain.varTypes Try.prog) ([d0, d1] ++ []) := List.mem_append.2 (Or.inl hy)
    simpa using List.all_eq_true.1 hwt' y hm
  obtain ⟨a0, n0, c0, f0, rfl, hc0, hn0, hR0, hf0⟩ := open_bytesW (P := Try.prog) under_bytes (by kernel_rfl) (by kernel_rfl) (by rw [show Try.prog.bytesOf 5 = 1 by kernel_rfl]; decide) (hval 0 39 v0 rfl rfl) h0 hw0
  obtain ⟨z1, rfl, rfl, rfl, hz1⟩ := open_int Try.underlying5 (hval 1 5 v1 rfl rfl) h1
  obtain ⟨x1, rfl, hr1⟩ : ∃ m : Nat, z1 = (m : Int) ∧ m < 256 := by
    have := hz1
    simp [Lit.wf, IntKind.min, IntKind.max, IntKind.bits, IntKind.signed] at this
    exact ⟨z1.toNat, by omega, by omega⟩
  clear hA0 hval0
  refine (RecAll_any _ n0 c0 x1 a0 f0 W hR0 hf0 hc0 hr1).mono fun e W' ⟨he, hg⟩ => ?_
  subst he
  exact ⟨_, rfl, law_post laidOut hW' rfl rfl (tb := 4) rfl Try.underlying4 (by
      rw [Try.params8]
      intro t ht
      have hall : (([39, 5] : List TypeId).all fun u => Try.prog.readableRec u && decide (u < Try.prog.types.size)) = true := by kernel_rfl
      have := List.all_eq_true.1 hall t (by simpa using ht)
      simpa using this) hg⟩

theorem recAll_holds : Rows.RecAllSaid :=
  OpenClaim.holds_of_wide 8 Try.f8 rfl rfl rfl rfl rfl rfl rfl ⟨rfl, rfl, rfl, rfl, rfl⟩ rfl rfl rfl rfl rfl (by kernel_rfl) Try.func8 (by kernel_rfl)
    (of_decide_eq_true (by kernel_rfl)) (by unfold Func.isWrapper; first | (rw [if_pos (by decide +kernel)]; kernel_rfl) | (rw [if_neg (by decide +kernel)]; exact ⟨rfl, rfl⟩))
    (fun os started H enc _ => recAll_lifted os started H enc)

end Go.Proofs.Ytdagbighlgfhjaa
