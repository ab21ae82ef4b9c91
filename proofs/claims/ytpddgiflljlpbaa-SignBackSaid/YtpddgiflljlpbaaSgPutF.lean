/-
  sign: Put.
-/
import Derived.Test.YtpddgiflljlpbaaSgPut
namespace Go.Proofs.Ytpddgiflljlpbaa
open Go.RowKit

set_option maxRecDepth 100000
set_option maxHeartbeats 4000000

/-- Kind and id, put. -/
def SV.head (x : SV) : OSt := ((OSt.good 1047 0 (fun _ => 0)).put 1 (fun _ => x.k)).put 16 x.id
/-- All that is put. -/
def SV.out (x : SV) : OSt :=
  if x.k = 1 then (x.head.put 3 (three x.ac x.dv x.ce)).put 32 x.key
  else if x.k = 2 then x.head.put 32 x.key
  else if x.k = 3 then ((x.head.put 4 (nbF x.n 4)).count 1024 x.nd).put x.nd x.fd
  else if x.k = 5 then x.head.put 1 (fun _ => x.rs)
  else x.head
theorem SV.head_len (x : SV) : x.head.len = 17 := rfl
/-- What Put answers. -/
structure PutSays (w : World) (x : SV) (e : Ending) (w' : World) : Prop where
  ex : ∃ a c, e = .returned (.tuple #[.slice a (if x.mayC then x.out.len else 0) c, .int .i64 (if x.mayC then x.out.code else 2)]) ∧ OwnN w' w.heap.size (.slice a (if x.mayC then x.out.len else 0) c) (if x.mayC then x.out.len else 0) x.out.fun
  gr : w.grownBy w' none
theorem put_not (x : SV) (w : World) (hm : x.mayC = false) : Calls Try.prog 7 #[.agg x.cells] w (PutSays w x) := by
  have hX := SAt.new x w
  have hg := World.grownBy_alloc w (.cells x.cells 34) none
  obtain ⟨_, _, _, l4⟩ := hX.loads
  have HM := Lib.hid (sgMay_any x (w.alloc (.cells x.cells 34)))
  rw [hm] at HM
  have HH := Lib.hid hm
  have HG := Lib.hid hg
  clear hX hg hm
  go_enter Try.func7, Try.ntmps7
  go_wp2_with (first | (with_reducible refine wpList_here ?_; refine wpList_ld (p := .pointer (some ⟨w.heap.size, 0, none⟩)) 1 ?_ ?_ ?_ l4 ?_; (· rfl); go_simp; (· kernel_rfl)))
  go_at_call 11
  refine HM.out.mono ?_
  rintro e w2 ⟨rfl, hg2⟩
  have G2 := Lib.hid (grown_trans HG.out hg2)
  clear hg2 l4 HM
  go_wp2_with fail
  go_ret2
  refine ⟨⟨none, 0, ?_, ?_⟩, G2.out⟩
  · rw [HH.out]; rfl
  · rw [HH.out]; exact OwnN.nil _ _ _
theorem put_offer (x : SV) (w : World) (hk : x.k = 1) (hm : x.mayC = true) : Calls Try.prog 7 #[.agg x.cells] w (PutSays w x) := by
  have hout : x.out = (x.head.put 3 (three x.ac x.dv x.ce)).put 32 x.key := by
    unfold SV.out
    rw [if_pos hk]
  have hX := SAt.new x w
  have hg := World.grownBy_alloc w (.cells x.cells 34) none
  have hck : (w.alloc (.cells x.cells 34)).cell? ⟨w.heap.size, 0, none⟩ = some (.int .u8 1) := hX.cells.k.trans (by rw [hk]; rfl)
  obtain ⟨_, _, _, l4⟩ := hX.loads
  have HM := Lib.hid (sgMay_any x (w.alloc (.cells x.cells 34)))
  rw [hm] at HM
  have HX := Lib.hid hX
  have HG := Lib.hid hg
  have HMM := Lib.hid hm
  have HK := Lib.hid hk
  have HO := Lib.hid hout
  have HC := Lib.hid hck
  skip
  skip
  skip
  clear hX hg hck hk hm hout 
  go_enter Try.func7, Try.ntmps7
  go_wp2_with (first | (with_reducible refine wpList_here ?_; refine wpList_ld (p := .pointer (some ⟨w.heap.size, 0, none⟩)) 1 ?_ ?_ ?_ l4 ?_; (· rfl); go_simp; (· kernel_rfl)))
  go_at_call 11
  refine HM.out.mono ?_
  rintro e wm ⟨rfl, hgm⟩
  have hxm := HX.out.grown hgm (by simp)
  have hcm := hgm.cell HC.out (by simp)
  have hGM := grown_trans HG.out hgm
  have hzm : w.heap.size < wm.heap.size := hxm.lt
  have HP := Lib.hid (partOf_offer w.heap.size wm hcm)
  clear hgm hcm HM l4 HX HG HC
  go_wp2_with fail
  go_at_call 15
  refine HP.out.mono ?_
  rintro e w2 ⟨b, rfl, hlt, hbx, hg2⟩
  have hx2 := hxm.grown hg2 (by simp)
  have hpb := heap_alloc_new w2 (.cells #[.nilFunc, .nilFunc, .nilFunc, .nilFunc] 49)
  have hp3 := PartAt.new w2 (offerC b)
  have g3 := grown_part w2 (offerC b)
  have hx3 := hx2.grown g3 (by simp)
  have hG3 := grown_trans (grown_trans hGM hg2) g3
  have hb3 := hbx.grown g3 (by simp)
  clear hx2 hg2 HP g3 hGM hxm hzm hbx hlt
  go_upto_region 4 with (first | (with_reducible refine wpList_here ?_; refine wpList_store_row rfl 49 (.tmp 4) (.tmp 12) rfl w2.heap.size (offerC b) rfl rfl 49 #[.nilFunc, .nilFunc, .nilFunc, .nilFunc] hpb (by kernel_rfl) rfl (by simp [offerC, clo, Value.oneCell']) ?_))
  clear hpb
  generalize hw3e : (w2.alloc (.cells #[.nilFunc, .nilFunc, .nilFunc, .nilFunc] 49)).setRow w2.heap.size (offerC b) = w3 at *
  clear hw3e
  generalize w2.heap.size = pb at *
  have HP3 := Lib.hid hp3
  have HX3 := Lib.hid hx3
  have HG3 := Lib.hid hG3
  have HB3 := Lib.hid hb3
  have HN := Lib.hid (newOut_any 1047 (by decide) (by decide) w3)
  skip
  clear hp3 hx3 hG3 hb3
  go_wp2_with fail
  go_at_call 16
  refine HN.out.mono ?_
  rintro e w4 ⟨p, rfl, ho⟩
  replace ho : OAt w3 w4 p (.good 1047 0 (fun _ => 0)) := ho
  have ck := (HX3.out.grown ho.gr (by simp)).cells.k
  have HU := Lib.hid (outU8_any _ 1 1 _ _ (ho.grown (World.grownBy_alloc w4 (.cells #[.int .u8 x.k] 5) none)) (rd_one w4 x.k (w4.heap.size + 1) (by omega)) (by decide))
  clear ho HN
  go_wp2_with fail
  go_at_call 17
  refine HU.out.mono ?_
  rintro e w5 ⟨rfl, ho⟩
  have hx5 := HX3.out.grown ho.gr (by simp)
  have g5 := World.grownBy_alloc w5 (.cells #[.slice (some ⟨w.heap.size, 1, none⟩) 16 16] 22) none
  have HF := Lib.hid (outFixed_any (w.heap.size + 1) 16 16 (some ⟨w.heap.size, 1, none⟩) x.id w5.heap.size 0 1 (ho.grown g5) (cell_new w5 (.slice (some ⟨w.heap.size, 1, none⟩) 16 16) 22) ((hx5.grown g5 (by simp)).rdId (w.heap.size + 1) (by omega)) (show 17 ≤ 2 ^ 46 by decide))
  clear ho HU ck hx5 g5
  go_wp2_with fail
  go_at_call 18
  refine HF.out.mono ?_
  rintro e w6 ⟨rfl, ho⟩
  replace ho : OAt w3 w6 p x.head := ho
  have cp : w6.cell? ⟨pb, 1, none⟩ = some (.func (.func 41) #[] #[.pointer (some ⟨b, 0, none⟩)]) := (HP3.out.grown ho.gr (by simp)).cell 1
  have HPC := Lib.hid (putOffer_any b w.heap.size x p x.head w3 _ HB3.out HX3.out ho (by rw [x.head_len]; decide))
  skip
  clear ho HF
  go_wp2_with fail
  go_at_call 41
  refine HPC.out.mono ?_
  rintro e w7 ⟨rfl, ho⟩
  rw [← HO.out] at ho
  obtain ⟨n7, hn7⟩ : ∃ n7, n7 = x.out.len := ⟨_, rfl⟩
  have HL := Lib.hid (show x.out.len ≤ 2 ^ 46 by rw [HO.out]; have h1 := OSt.len_put (x.head.put 3 (three x.ac x.dv x.ce)) 32 x.key; have h2 := OSt.len_put x.head 3 (three x.ac x.dv x.ce); have h3 := x.head_len; omega)
  have HB := Lib.hid (outBytes_any ho HL.out)
  have HG7 := Lib.hid (grown_trans HG3.out ho.gr)
  clear ho HPC cp hn7
  go_wp2_with fail
  go_at_call 19
  refine HB.out.mono ?_
  rintro e w8 ⟨a, c, rfl, hO, g8⟩
  have HOO := Lib.hid hO
  have HG8 := Lib.hid (grown_trans HG7.out g8)
  clear hO g8 HB
  go_wp2_with fail
  go_ret2
  refine ⟨⟨a, c, ?_, ?_⟩, HG8.out⟩
  · rw [HMM.out]; rfl
  · rw [HMM.out]
    exact HOO.out.base HG7.out.size
theorem put_answer (x : SV) (w : World) (hk : x.k = 2) (hm : x.mayC = true) : Calls Try.prog 7 #[.agg x.cells] w (PutSays w x) := by
  have hout : x.out = x.head.put 32 x.key := by
    unfold SV.out
    rw [if_neg (by omega)]; rw [if_pos hk]
  have hX := SAt.new x w
  have hg := World.grownBy_alloc w (.cells x.cells 34) none
  have hck : (w.alloc (.cells x.cells 34)).cell? ⟨w.heap.size, 0, none⟩ = some (.int .u8 2) := hX.cells.k.trans (by rw [hk]; rfl)
  obtain ⟨_, _, _, l4⟩ := hX.loads
  have HM := Lib.hid (sgMay_any x (w.alloc (.cells x.cells 34)))
  rw [hm] at HM
  have HX := Lib.hid hX
  have HG := Lib.hid hg
  have HMM := Lib.hid hm
  have HK := Lib.hid hk
  have HO := Lib.hid hout
  have HC := Lib.hid hck
  skip
  skip
  skip
  clear hX hg hck hk hm hout 
  go_enter Try.func7, Try.ntmps7
  go_wp2_with (first | (with_reducible refine wpList_here ?_; refine wpList_ld (p := .pointer (some ⟨w.heap.size, 0, none⟩)) 1 ?_ ?_ ?_ l4 ?_; (· rfl); go_simp; (· kernel_rfl)))
  go_at_call 11
  refine HM.out.mono ?_
  rintro e wm ⟨rfl, hgm⟩
  have hxm := HX.out.grown hgm (by simp)
  have hcm := hgm.cell HC.out (by simp)
  have hGM := grown_trans HG.out hgm
  have hzm : w.heap.size < wm.heap.size := hxm.lt
  have HP := Lib.hid (partOf_answer w.heap.size wm hcm)
  clear hgm hcm HM l4 HX HG HC
  go_wp2_with fail
  go_at_call 15
  refine HP.out.mono ?_
  rintro e w2 ⟨b, rfl, hlt, hbx, hg2⟩
  have hx2 := hxm.grown hg2 (by simp)
  have hpb := heap_alloc_new w2 (.cells #[.nilFunc, .nilFunc, .nilFunc, .nilFunc] 49)
  have hp3 := PartAt.new w2 (answerC b)
  have g3 := grown_part w2 (answerC b)
  have hx3 := hx2.grown g3 (by simp)
  have hG3 := grown_trans (grown_trans hGM hg2) g3
  have hb3 := hbx.grown g3 (by simp)
  clear hx2 hg2 HP g3 hGM hxm hzm hbx hlt
  go_upto_region 4 with (first | (with_reducible refine wpList_here ?_; refine wpList_store_row rfl 49 (.tmp 4) (.tmp 12) rfl w2.heap.size (answerC b) rfl rfl 49 #[.nilFunc, .nilFunc, .nilFunc, .nilFunc] hpb (by kernel_rfl) rfl (by simp [answerC, clo, bare, Value.oneCell']) ?_))
  clear hpb
  generalize hw3e : (w2.alloc (.cells #[.nilFunc, .nilFunc, .nilFunc, .nilFunc] 49)).setRow w2.heap.size (answerC b) = w3 at *
  clear hw3e
  generalize w2.heap.size = pb at *
  have HP3 := Lib.hid hp3
  have HX3 := Lib.hid hx3
  have HG3 := Lib.hid hG3
  have HB3 := Lib.hid hb3
  have HN := Lib.hid (newOut_any 1047 (by decide) (by decide) w3)
  skip
  clear hp3 hx3 hG3 hb3
  go_wp2_with fail
  go_at_call 16
  refine HN.out.mono ?_
  rintro e w4 ⟨p, rfl, ho⟩
  replace ho : OAt w3 w4 p (.good 1047 0 (fun _ => 0)) := ho
  have ck := (HX3.out.grown ho.gr (by simp)).cells.k
  have HU := Lib.hid (outU8_any _ 1 1 _ _ (ho.grown (World.grownBy_alloc w4 (.cells #[.int .u8 x.k] 5) none)) (rd_one w4 x.k (w4.heap.size + 1) (by omega)) (by decide))
  clear ho HN
  go_wp2_with fail
  go_at_call 17
  refine HU.out.mono ?_
  rintro e w5 ⟨rfl, ho⟩
  have hx5 := HX3.out.grown ho.gr (by simp)
  have g5 := World.grownBy_alloc w5 (.cells #[.slice (some ⟨w.heap.size, 1, none⟩) 16 16] 22) none
  have HF := Lib.hid (outFixed_any (w.heap.size + 1) 16 16 (some ⟨w.heap.size, 1, none⟩) x.id w5.heap.size 0 1 (ho.grown g5) (cell_new w5 (.slice (some ⟨w.heap.size, 1, none⟩) 16 16) 22) ((hx5.grown g5 (by simp)).rdId (w.heap.size + 1) (by omega)) (show 17 ≤ 2 ^ 46 by decide))
  clear ho HU ck hx5 g5
  go_wp2_with fail
  go_at_call 18
  refine HF.out.mono ?_
  rintro e w6 ⟨rfl, ho⟩
  replace ho : OAt w3 w6 p x.head := ho
  have cp : w6.cell? ⟨pb, 1, none⟩ = some (.func (.func 45) #[] #[.pointer (some ⟨b, 0, none⟩)]) := (HP3.out.grown ho.gr (by simp)).cell 1
  have HPC := Lib.hid (putAnswer_any b w.heap.size x p x.head w3 _ HB3.out HX3.out ho (by rw [x.head_len]; decide))
  skip
  clear ho HF
  go_wp2_with fail
  go_at_call 45
  refine HPC.out.mono ?_
  rintro e w7 ⟨rfl, ho⟩
  rw [← HO.out] at ho
  obtain ⟨n7, hn7⟩ : ∃ n7, n7 = x.out.len := ⟨_, rfl⟩
  have HL := Lib.hid (show x.out.len ≤ 2 ^ 46 by rw [HO.out]; have h1 := OSt.len_put x.head 32 x.key; have h3 := x.head_len; omega)
  have HB := Lib.hid (outBytes_any ho HL.out)
  have HG7 := Lib.hid (grown_trans HG3.out ho.gr)
  clear ho HPC cp hn7
  go_wp2_with fail
  go_at_call 19
  refine HB.out.mono ?_
  rintro e w8 ⟨a, c, rfl, hO, g8⟩
  have HOO := Lib.hid hO
  have HG8 := Lib.hid (grown_trans HG7.out g8)
  clear hO g8 HB
  go_wp2_with fail
  go_ret2
  refine ⟨⟨a, c, ?_, ?_⟩, HG8.out⟩
  · rw [HMM.out]; rfl
  · rw [HMM.out]
    exact HOO.out.base HG7.out.size
theorem put_cand (D : Nat) (x : SV) (w : World) (hk : x.k = 3) (hn : x.n < 4294967296) (hR : Rd w D x.ad x.nd x.fd) (hm : x.mayC = true) : Calls Try.prog 7 #[.agg x.cells] w (PutSays w x) := by
  have hnd : x.nd ≤ 1024 := by
    have h := hm
    unfold SV.mayC at h
    rw [if_neg (by omega), if_neg (by omega), if_pos hk, Bool.and_eq_true] at h
    exact of_decide_eq_true h.1
  have hout : x.out = ((x.head.put 4 (nbF x.n 4)).count 1024 x.nd).put x.nd x.fd := by
    unfold SV.out
    rw [if_neg (by omega)]; rw [if_neg (by omega)]; rw [if_pos hk]
  have hX := SAt.new x w
  have hg := World.grownBy_alloc w (.cells x.cells 34) none
  have hck : (w.alloc (.cells x.cells 34)).cell? ⟨w.heap.size, 0, none⟩ = some (.int .u8 3) := hX.cells.k.trans (by rw [hk]; rfl)
  obtain ⟨_, _, _, l4⟩ := hX.loads
  have HM := Lib.hid (sgMay_any x (w.alloc (.cells x.cells 34)))
  rw [hm] at HM
  have HX := Lib.hid hX
  have HG := Lib.hid hg
  have HMM := Lib.hid hm
  have HK := Lib.hid hk
  have HO := Lib.hid hout
  have HC := Lib.hid hck
  have HN := Lib.hid hn
  have HRR := Lib.hid hR
  have HND := Lib.hid hnd
  clear hX hg hck hk hm hout hn hR hnd
  go_enter Try.func7, Try.ntmps7
  go_wp2_with (first | (with_reducible refine wpList_here ?_; refine wpList_ld (p := .pointer (some ⟨w.heap.size, 0, none⟩)) 1 ?_ ?_ ?_ l4 ?_; (· rfl); go_simp; (· kernel_rfl)))
  go_at_call 11
  refine HM.out.mono ?_
  rintro e wm ⟨rfl, hgm⟩
  have hxm := HX.out.grown hgm (by simp)
  have hcm := hgm.cell HC.out (by simp)
  have hGM := grown_trans HG.out hgm
  have hzm : w.heap.size < wm.heap.size := hxm.lt
  have HP := Lib.hid (partOf_candidate w.heap.size wm hcm)
  clear hgm hcm HM l4 HX HG HC
  go_wp2_with fail
  go_at_call 15
  refine HP.out.mono ?_
  rintro e w2 ⟨b, rfl, hlt, hbx, hg2⟩
  have hx2 := hxm.grown hg2 (by simp)
  have hpb := heap_alloc_new w2 (.cells #[.nilFunc, .nilFunc, .nilFunc, .nilFunc] 49)
  have hp3 := PartAt.new w2 (candC b)
  have g3 := grown_part w2 (candC b)
  have hx3 := hx2.grown g3 (by simp)
  have hG3 := grown_trans (grown_trans hGM hg2) g3
  have hb3 := hbx.grown g3 (by simp)
  clear hx2 hg2 HP g3 hGM hxm hzm hbx hlt
  go_upto_region 4 with (first | (with_reducible refine wpList_here ?_; refine wpList_store_row rfl 49 (.tmp 4) (.tmp 12) rfl w2.heap.size (candC b) rfl rfl 49 #[.nilFunc, .nilFunc, .nilFunc, .nilFunc] hpb (by kernel_rfl) rfl (by simp [candC, clo, Value.oneCell']) ?_))
  clear hpb
  generalize hw3e : (w2.alloc (.cells #[.nilFunc, .nilFunc, .nilFunc, .nilFunc] 49)).setRow w2.heap.size (candC b) = w3 at *
  clear hw3e
  generalize w2.heap.size = pb at *
  have HP3 := Lib.hid hp3
  have HX3 := Lib.hid hx3
  have HG3 := Lib.hid hG3
  have HB3 := Lib.hid hb3
  have HNO := Lib.hid (newOut_any 1047 (by decide) (by decide) w3)
  skip
  clear hp3 hx3 hG3 hb3
  go_wp2_with fail
  go_at_call 16
  refine HNO.out.mono ?_
  rintro e w4 ⟨p, rfl, ho⟩
  replace ho : OAt w3 w4 p (.good 1047 0 (fun _ => 0)) := ho
  have ck := (HX3.out.grown ho.gr (by simp)).cells.k
  have HU := Lib.hid (outU8_any _ 1 1 _ _ (ho.grown (World.grownBy_alloc w4 (.cells #[.int .u8 x.k] 5) none)) (rd_one w4 x.k (w4.heap.size + 1) (by omega)) (by decide))
  clear ho HNO
  go_wp2_with fail
  go_at_call 17
  refine HU.out.mono ?_
  rintro e w5 ⟨rfl, ho⟩
  have hx5 := HX3.out.grown ho.gr (by simp)
  have g5 := World.grownBy_alloc w5 (.cells #[.slice (some ⟨w.heap.size, 1, none⟩) 16 16] 22) none
  have HF := Lib.hid (outFixed_any (w.heap.size + 1) 16 16 (some ⟨w.heap.size, 1, none⟩) x.id w5.heap.size 0 1 (ho.grown g5) (cell_new w5 (.slice (some ⟨w.heap.size, 1, none⟩) 16 16) 22) ((hx5.grown g5 (by simp)).rdId (w.heap.size + 1) (by omega)) (show 17 ≤ 2 ^ 46 by decide))
  clear ho HU ck hx5 g5
  go_wp2_with fail
  go_at_call 18
  refine HF.out.mono ?_
  rintro e w6 ⟨rfl, ho⟩
  replace ho : OAt w3 w6 p x.head := ho
  have cp : w6.cell? ⟨pb, 1, none⟩ = some (.func (.func 49) #[] #[.pointer (some ⟨b, 0, none⟩)]) := (HP3.out.grown ho.gr (by simp)).cell 1
  have HPC := Lib.hid (putCand_any b w.heap.size D x p x.head w3 _ HB3.out HX3.out HN.out (HRR.out.grown HG3.out (by simp)) ho (by rw [x.head_len]; have := HND.out; omega))
  skip
  clear ho HF
  go_wp2_with fail
  go_at_call 49
  refine HPC.out.mono ?_
  rintro e w7 ⟨rfl, ho⟩
  rw [← HO.out] at ho
  obtain ⟨n7, hn7⟩ : ∃ n7, n7 = x.out.len := ⟨_, rfl⟩
  have HL := Lib.hid (show x.out.len ≤ 2 ^ 46 by rw [HO.out]; have h1 := OSt.len_put ((x.head.put 4 (nbF x.n 4)).count 1024 x.nd) x.nd x.fd; have h2 := OSt.len_count (x.head.put 4 (nbF x.n 4)) 1024 x.nd; have h3 := OSt.len_put x.head 4 (nbF x.n 4); have h4 := x.head_len; have := HND.out; omega)
  have HB := Lib.hid (outBytes_any ho HL.out)
  have HG7 := Lib.hid (grown_trans HG3.out ho.gr)
  clear ho HPC cp hn7
  go_wp2_with fail
  go_at_call 19
  refine HB.out.mono ?_
  rintro e w8 ⟨a, c, rfl, hO, g8⟩
  have HOO := Lib.hid hO
  have HG8 := Lib.hid (grown_trans HG7.out g8)
  clear hO g8 HB
  go_wp2_with fail
  go_ret2
  refine ⟨⟨a, c, ?_, ?_⟩, HG8.out⟩
  · rw [HMM.out]; rfl
  · rw [HMM.out]
    exact HOO.out.base HG7.out.size
theorem put_hang (x : SV) (w : World) (hk : x.k = 5) (hm : x.mayC = true) : Calls Try.prog 7 #[.agg x.cells] w (PutSays w x) := by
  have hout : x.out = x.head.put 1 (fun _ => x.rs) := by
    unfold SV.out
    rw [if_neg (by omega)]; rw [if_neg (by omega)]; rw [if_neg (by omega)]; rw [if_pos hk]
  have hX := SAt.new x w
  have hg := World.grownBy_alloc w (.cells x.cells 34) none
  have hck : (w.alloc (.cells x.cells 34)).cell? ⟨w.heap.size, 0, none⟩ = some (.int .u8 5) := hX.cells.k.trans (by rw [hk]; rfl)
  obtain ⟨_, _, _, l4⟩ := hX.loads
  have HM := Lib.hid (sgMay_any x (w.alloc (.cells x.cells 34)))
  rw [hm] at HM
  have HX := Lib.hid hX
  have HG := Lib.hid hg
  have HMM := Lib.hid hm
  have HK := Lib.hid hk
  have HO := Lib.hid hout
  have HC := Lib.hid hck
  skip
  skip
  skip
  clear hX hg hck hk hm hout 
  go_enter Try.func7, Try.ntmps7
  go_wp2_with (first | (with_reducible refine wpList_here ?_; refine wpList_ld (p := .pointer (some ⟨w.heap.size, 0, none⟩)) 1 ?_ ?_ ?_ l4 ?_; (· rfl); go_simp; (· kernel_rfl)))
  go_at_call 11
  refine HM.out.mono ?_
  rintro e wm ⟨rfl, hgm⟩
  have hxm := HX.out.grown hgm (by simp)
  have hcm := hgm.cell HC.out (by simp)
  have hGM := grown_trans HG.out hgm
  have hzm : w.heap.size < wm.heap.size := hxm.lt
  have HP := Lib.hid (partOf_hangup w.heap.size wm hcm)
  clear hgm hcm HM l4 HX HG HC
  go_wp2_with fail
  go_at_call 15
  refine HP.out.mono ?_
  rintro e w2 ⟨b, rfl, hlt, hbx, hg2⟩
  have hx2 := hxm.grown hg2 (by simp)
  have hpb := heap_alloc_new w2 (.cells #[.nilFunc, .nilFunc, .nilFunc, .nilFunc] 49)
  have hp3 := PartAt.new w2 (hangC b)
  have g3 := grown_part w2 (hangC b)
  have hx3 := hx2.grown g3 (by simp)
  have hG3 := grown_trans (grown_trans hGM hg2) g3
  have hb3 := hbx.grown g3 (by simp)
  clear hx2 hg2 HP g3 hGM hxm hzm hbx hlt
  go_upto_region 4 with (first | (with_reducible refine wpList_here ?_; refine wpList_store_row rfl 49 (.tmp 4) (.tmp 12) rfl w2.heap.size (hangC b) rfl rfl 49 #[.nilFunc, .nilFunc, .nilFunc, .nilFunc] hpb (by kernel_rfl) rfl (by simp [hangC, clo, Value.oneCell']) ?_))
  clear hpb
  generalize hw3e : (w2.alloc (.cells #[.nilFunc, .nilFunc, .nilFunc, .nilFunc] 49)).setRow w2.heap.size (hangC b) = w3 at *
  clear hw3e
  generalize w2.heap.size = pb at *
  have HP3 := Lib.hid hp3
  have HX3 := Lib.hid hx3
  have HG3 := Lib.hid hG3
  have HB3 := Lib.hid hb3
  have HN := Lib.hid (newOut_any 1047 (by decide) (by decide) w3)
  skip
  clear hp3 hx3 hG3 hb3
  go_wp2_with fail
  go_at_call 16
  refine HN.out.mono ?_
  rintro e w4 ⟨p, rfl, ho⟩
  replace ho : OAt w3 w4 p (.good 1047 0 (fun _ => 0)) := ho
  have ck := (HX3.out.grown ho.gr (by simp)).cells.k
  have HU := Lib.hid (outU8_any _ 1 1 _ _ (ho.grown (World.grownBy_alloc w4 (.cells #[.int .u8 x.k] 5) none)) (rd_one w4 x.k (w4.heap.size + 1) (by omega)) (by decide))
  clear ho HN
  go_wp2_with fail
  go_at_call 17
  refine HU.out.mono ?_
  rintro e w5 ⟨rfl, ho⟩
  have hx5 := HX3.out.grown ho.gr (by simp)
  have g5 := World.grownBy_alloc w5 (.cells #[.slice (some ⟨w.heap.size, 1, none⟩) 16 16] 22) none
  have HF := Lib.hid (outFixed_any (w.heap.size + 1) 16 16 (some ⟨w.heap.size, 1, none⟩) x.id w5.heap.size 0 1 (ho.grown g5) (cell_new w5 (.slice (some ⟨w.heap.size, 1, none⟩) 16 16) 22) ((hx5.grown g5 (by simp)).rdId (w.heap.size + 1) (by omega)) (show 17 ≤ 2 ^ 46 by decide))
  clear ho HU ck hx5 g5
  go_wp2_with fail
  go_at_call 18
  refine HF.out.mono ?_
  rintro e w6 ⟨rfl, ho⟩
  replace ho : OAt w3 w6 p x.head := ho
  have cp : w6.cell? ⟨pb, 1, none⟩ = some (.func (.func 57) #[] #[.pointer (some ⟨b, 0, none⟩)]) := (HP3.out.grown ho.gr (by simp)).cell 1
  have HPC := Lib.hid (putHang_any b w.heap.size x p x.head w3 _ HB3.out HX3.out ho (by rw [x.head_len]; decide))
  skip
  clear ho HF
  go_wp2_with fail
  go_at_call 57
  refine HPC.out.mono ?_
  rintro e w7 ⟨rfl, ho⟩
  rw [← HO.out] at ho
  obtain ⟨n7, hn7⟩ : ∃ n7, n7 = x.out.len := ⟨_, rfl⟩
  have HL := Lib.hid (show x.out.len ≤ 2 ^ 46 by rw [HO.out]; have h1 := OSt.len_put x.head 1 (fun _ => x.rs); have h3 := x.head_len; omega)
  have HB := Lib.hid (outBytes_any ho HL.out)
  have HG7 := Lib.hid (grown_trans HG3.out ho.gr)
  clear ho HPC cp hn7
  go_wp2_with fail
  go_at_call 19
  refine HB.out.mono ?_
  rintro e w8 ⟨a, c, rfl, hO, g8⟩
  have HOO := Lib.hid hO
  have HG8 := Lib.hid (grown_trans HG7.out g8)
  clear hO g8 HB
  go_wp2_with fail
  go_ret2
  refine ⟨⟨a, c, ?_, ?_⟩, HG8.out⟩
  · rw [HMM.out]; rfl
  · rw [HMM.out]
    exact HOO.out.base HG7.out.size
theorem put_nothing4 (x : SV) (w : World) (hk : x.k = 4) (hm : x.mayC = true) : Calls Try.prog 7 #[.agg x.cells] w (PutSays w x) := by
  have hout : x.out = x.head := by
    unfold SV.out
    rw [if_neg (by omega)]; rw [if_neg (by omega)]; rw [if_neg (by omega)]; rw [if_neg (by omega)]; skip
  have hX := SAt.new x w
  have hg := World.grownBy_alloc w (.cells x.cells 34) none
  have hck : (w.alloc (.cells x.cells 34)).cell? ⟨w.heap.size, 0, none⟩ = some (.int .u8 4) := hX.cells.k.trans (by rw [hk]; rfl)
  obtain ⟨_, _, _, l4⟩ := hX.loads
  have HM := Lib.hid (sgMay_any x (w.alloc (.cells x.cells 34)))
  rw [hm] at HM
  have HX := Lib.hid hX
  have HG := Lib.hid hg
  have HMM := Lib.hid hm
  have HK := Lib.hid hk
  have HO := Lib.hid hout
  have HC := Lib.hid hck
  skip
  skip
  skip
  clear hX hg hck hk hm hout 
  go_enter Try.func7, Try.ntmps7
  go_wp2_with (first | (with_reducible refine wpList_here ?_; refine wpList_ld (p := .pointer (some ⟨w.heap.size, 0, none⟩)) 1 ?_ ?_ ?_ l4 ?_; (· rfl); go_simp; (· kernel_rfl)))
  go_at_call 11
  refine HM.out.mono ?_
  rintro e wm ⟨rfl, hgm⟩
  have hxm := HX.out.grown hgm (by simp)
  have hcm := hgm.cell HC.out (by simp)
  have hGM := grown_trans HG.out hgm
  have hzm : w.heap.size < wm.heap.size := hxm.lt
  have HP := Lib.hid (partOf_nothing4 w.heap.size wm hcm)
  clear hgm hcm HM l4 HX HG HC
  go_wp2_with fail
  go_at_call 15
  refine HP.out.mono ?_
  rintro e w2 ⟨rfl, hg2⟩
  have hx2 := hxm.grown hg2 (by simp)
  have hpb := heap_alloc_new w2 (.cells #[.nilFunc, .nilFunc, .nilFunc, .nilFunc] 49)
  have hp3 := PartAt.new w2 (nothC)
  have g3 := grown_part w2 (nothC)
  have hx3 := hx2.grown g3 (by simp)
  have hG3 := grown_trans (grown_trans hGM hg2) g3
  skip
  clear hx2 hg2 HP g3 hGM hxm hzm 
  go_upto_region 4 with (first | (with_reducible refine wpList_here ?_; refine wpList_store_row rfl 49 (.tmp 4) (.tmp 12) rfl w2.heap.size (nothC) rfl rfl 49 #[.nilFunc, .nilFunc, .nilFunc, .nilFunc] hpb (by kernel_rfl) rfl (by simp [nothC, bare, Value.oneCell']) ?_))
  clear hpb
  generalize hw3e : (w2.alloc (.cells #[.nilFunc, .nilFunc, .nilFunc, .nilFunc] 49)).setRow w2.heap.size (nothC) = w3 at *
  clear hw3e
  generalize w2.heap.size = pb at *
  have HP3 := Lib.hid hp3
  have HX3 := Lib.hid hx3
  have HG3 := Lib.hid hG3
  skip
  have HN := Lib.hid (newOut_any 1047 (by decide) (by decide) w3)
  skip
  clear hp3 hx3 hG3 
  go_wp2_with fail
  go_at_call 16
  refine HN.out.mono ?_
  rintro e w4 ⟨p, rfl, ho⟩
  replace ho : OAt w3 w4 p (.good 1047 0 (fun _ => 0)) := ho
  have ck := (HX3.out.grown ho.gr (by simp)).cells.k
  have HU := Lib.hid (outU8_any _ 1 1 _ _ (ho.grown (World.grownBy_alloc w4 (.cells #[.int .u8 x.k] 5) none)) (rd_one w4 x.k (w4.heap.size + 1) (by omega)) (by decide))
  clear ho HN
  go_wp2_with fail
  go_at_call 17
  refine HU.out.mono ?_
  rintro e w5 ⟨rfl, ho⟩
  have hx5 := HX3.out.grown ho.gr (by simp)
  have g5 := World.grownBy_alloc w5 (.cells #[.slice (some ⟨w.heap.size, 1, none⟩) 16 16] 22) none
  have HF := Lib.hid (outFixed_any (w.heap.size + 1) 16 16 (some ⟨w.heap.size, 1, none⟩) x.id w5.heap.size 0 1 (ho.grown g5) (cell_new w5 (.slice (some ⟨w.heap.size, 1, none⟩) 16 16) 22) ((hx5.grown g5 (by simp)).rdId (w.heap.size + 1) (by omega)) (show 17 ≤ 2 ^ 46 by decide))
  clear ho HU ck hx5 g5
  go_wp2_with fail
  go_at_call 18
  refine HF.out.mono ?_
  rintro e w6 ⟨rfl, ho⟩
  replace ho : OAt w3 w6 p x.head := ho
  have cp : w6.cell? ⟨pb, 1, none⟩ = some (.func (.func 61) #[] #[]) := (HP3.out.grown ho.gr (by simp)).cell 1
  have HPC := Lib.hid (putNothing_any p w6)
  have HO6 := Lib.hid ho
  clear ho HF
  go_wp2_with fail
  go_at_call 61
  refine HPC.out.mono ?_
  rintro e w7 ⟨rfl, rfl⟩
  have ho := HO6.out
  clear HO6
  rw [← HO.out] at ho
  obtain ⟨n7, hn7⟩ : ∃ n7, n7 = x.out.len := ⟨_, rfl⟩
  have HL := Lib.hid (show x.out.len ≤ 2 ^ 46 by rw [HO.out]; rw [x.head_len]; decide)
  have HB := Lib.hid (outBytes_any ho HL.out)
  have HG7 := Lib.hid (grown_trans HG3.out ho.gr)
  clear ho HPC cp hn7
  go_wp2_with fail
  go_at_call 19
  refine HB.out.mono ?_
  rintro e w8 ⟨a, c, rfl, hO, g8⟩
  have HOO := Lib.hid hO
  have HG8 := Lib.hid (grown_trans HG7.out g8)
  clear hO g8 HB
  go_wp2_with fail
  go_ret2
  refine ⟨⟨a, c, ?_, ?_⟩, HG8.out⟩
  · rw [HMM.out]; rfl
  · rw [HMM.out]
    exact HOO.out.base HG7.out.size
theorem put_nothing6 (x : SV) (w : World) (hk : x.k = 6) (hm : x.mayC = true) : Calls Try.prog 7 #[.agg x.cells] w (PutSays w x) := by
  have hout : x.out = x.head := by
    unfold SV.out
    rw [if_neg (by omega)]; rw [if_neg (by omega)]; rw [if_neg (by omega)]; rw [if_neg (by omega)]; skip
  have hX := SAt.new x w
  have hg := World.grownBy_alloc w (.cells x.cells 34) none
  have hck : (w.alloc (.cells x.cells 34)).cell? ⟨w.heap.size, 0, none⟩ = some (.int .u8 6) := hX.cells.k.trans (by rw [hk]; rfl)
  obtain ⟨_, _, _, l4⟩ := hX.loads
  have HM := Lib.hid (sgMay_any x (w.alloc (.cells x.cells 34)))
  rw [hm] at HM
  have HX := Lib.hid hX
  have HG := Lib.hid hg
  have HMM := Lib.hid hm
  have HK := Lib.hid hk
  have HO := Lib.hid hout
  have HC := Lib.hid hck
  skip
  skip
  skip
  clear hX hg hck hk hm hout 
  go_enter Try.func7, Try.ntmps7
  go_wp2_with (first | (with_reducible refine wpList_here ?_; refine wpList_ld (p := .pointer (some ⟨w.heap.size, 0, none⟩)) 1 ?_ ?_ ?_ l4 ?_; (· rfl); go_simp; (· kernel_rfl)))
  go_at_call 11
  refine HM.out.mono ?_
  rintro e wm ⟨rfl, hgm⟩
  have hxm := HX.out.grown hgm (by simp)
  have hcm := hgm.cell HC.out (by simp)
  have hGM := grown_trans HG.out hgm
  have hzm : w.heap.size < wm.heap.size := hxm.lt
  have HP := Lib.hid (partOf_nothing6 w.heap.size wm hcm)
  clear hgm hcm HM l4 HX HG HC
  go_wp2_with fail
  go_at_call 15
  refine HP.out.mono ?_
  rintro e w2 ⟨rfl, hg2⟩
  have hx2 := hxm.grown hg2 (by simp)
  have hpb := heap_alloc_new w2 (.cells #[.nilFunc, .nilFunc, .nilFunc, .nilFunc] 49)
  have hp3 := PartAt.new w2 (nothC)
  have g3 := grown_part w2 (nothC)
  have hx3 := hx2.grown g3 (by simp)
  have hG3 := grown_trans (grown_trans hGM hg2) g3
  skip
  clear hx2 hg2 HP g3 hGM hxm hzm 
  go_upto_region 4 with (first | (with_reducible refine wpList_here ?_; refine wpList_store_row rfl 49 (.tmp 4) (.tmp 12) rfl w2.heap.size (nothC) rfl rfl 49 #[.nilFunc, .nilFunc, .nilFunc, .nilFunc] hpb (by kernel_rfl) rfl (by simp [nothC, bare, Value.oneCell']) ?_))
  clear hpb
  generalize hw3e : (w2.alloc (.cells #[.nilFunc, .nilFunc, .nilFunc, .nilFunc] 49)).setRow w2.heap.size (nothC) = w3 at *
  clear hw3e
  generalize w2.heap.size = pb at *
  have HP3 := Lib.hid hp3
  have HX3 := Lib.hid hx3
  have HG3 := Lib.hid hG3
  skip
  have HN := Lib.hid (newOut_any 1047 (by decide) (by decide) w3)
  skip
  clear hp3 hx3 hG3 
  go_wp2_with fail
  go_at_call 16
  refine HN.out.mono ?_
  rintro e w4 ⟨p, rfl, ho⟩
  replace ho : OAt w3 w4 p (.good 1047 0 (fun _ => 0)) := ho
  have ck := (HX3.out.grown ho.gr (by simp)).cells.k
  have HU := Lib.hid (outU8_any _ 1 1 _ _ (ho.grown (World.grownBy_alloc w4 (.cells #[.int .u8 x.k] 5) none)) (rd_one w4 x.k (w4.heap.size + 1) (by omega)) (by decide))
  clear ho HN
  go_wp2_with fail
  go_at_call 17
  refine HU.out.mono ?_
  rintro e w5 ⟨rfl, ho⟩
  have hx5 := HX3.out.grown ho.gr (by simp)
  have g5 := World.grownBy_alloc w5 (.cells #[.slice (some ⟨w.heap.size, 1, none⟩) 16 16] 22) none
  have HF := Lib.hid (outFixed_any (w.heap.size + 1) 16 16 (some ⟨w.heap.size, 1, none⟩) x.id w5.heap.size 0 1 (ho.grown g5) (cell_new w5 (.slice (some ⟨w.heap.size, 1, none⟩) 16 16) 22) ((hx5.grown g5 (by simp)).rdId (w.heap.size + 1) (by omega)) (show 17 ≤ 2 ^ 46 by decide))
  clear ho HU ck hx5 g5
  go_wp2_with fail
  go_at_call 18
  refine HF.out.mono ?_
  rintro e w6 ⟨rfl, ho⟩
  replace ho : OAt w3 w6 p x.head := ho
  have cp : w6.cell? ⟨pb, 1, none⟩ = some (.func (.func 61) #[] #[]) := (HP3.out.grown ho.gr (by simp)).cell 1
  have HPC := Lib.hid (putNothing_any p w6)
  have HO6 := Lib.hid ho
  clear ho HF
  go_wp2_with fail
  go_at_call 61
  refine HPC.out.mono ?_
  rintro e w7 ⟨rfl, rfl⟩
  have ho := HO6.out
  clear HO6
  rw [← HO.out] at ho
  obtain ⟨n7, hn7⟩ : ∃ n7, n7 = x.out.len := ⟨_, rfl⟩
  have HL := Lib.hid (show x.out.len ≤ 2 ^ 46 by rw [HO.out]; rw [x.head_len]; decide)
  have HB := Lib.hid (outBytes_any ho HL.out)
  have HG7 := Lib.hid (grown_trans HG3.out ho.gr)
  clear ho HPC cp hn7
  go_wp2_with fail
  go_at_call 19
  refine HB.out.mono ?_
  rintro e w8 ⟨a, c, rfl, hO, g8⟩
  have HOO := Lib.hid hO
  have HG8 := Lib.hid (grown_trans HG7.out g8)
  clear hO g8 HB
  go_wp2_with fail
  go_ret2
  refine ⟨⟨a, c, ?_, ?_⟩, HG8.out⟩
  · rw [HMM.out]; rfl
  · rw [HMM.out]
    exact HOO.out.base HG7.out.size
/-- Put. -/
theorem sgPut_any (D : Nat) (x : SV) (w : World) (hn : x.n < 4294967296) (hR : Rd w D x.ad x.nd x.fd) : Calls Try.prog 7 #[.agg x.cells] w (PutSays w x) := by
  cases hm : x.mayC with
  | false => exact put_not x w hm
  | true =>
    by_cases h1 : x.k = 1
    · exact put_offer x w h1 hm
    by_cases h2 : x.k = 2
    · exact put_answer x w h2 hm
    by_cases h3 : x.k = 3
    · exact put_cand D x w h3 hn hR hm
    by_cases h5 : x.k = 5
    · exact put_hang x w h5 hm
    by_cases h4 : x.k = 4
    · exact put_nothing4 x w h4 hm
    by_cases h6 : x.k = 6
    · exact put_nothing6 x w h6 hm
    unfold SV.mayC at hm
    rw [if_neg h1, if_neg h2, if_neg h3, if_neg h5, if_neg (by omega)] at hm
    cases hm
end Go.Proofs.Ytpddgiflljlpbaa
