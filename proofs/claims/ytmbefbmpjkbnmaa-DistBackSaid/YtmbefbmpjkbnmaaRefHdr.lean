/-
  The reference's cursor: header.
-/
import Derived.Test.YtmbefbmpjkbnmaaRefDev
import Derived.Test.YtmbefbmpjkbnmaaRowRun
import Derived.Test.YtmbefbmpjkbnmaaShaSpec
namespace Go.Proofs.Ytmbefbmpjkbnmaa
open Go.RowKit

set_option maxRecDepth 100000
set_option maxHeartbeats 4000000

/-- A header. -/
structure HV where
  dh : Nat → Nat
  prev : Nat
  n : Nat
def HV.v (x : HV) (i : Nat) : Value := if i < 32 then .int .u8 (x.dh i) else if i < 33 then .int .u32 x.prev else .int .u32 x.n
def HV.zero : HV := ⟨fun _ => 0, 0, 0⟩
theorem HV.zero_row : (#[.int .u8 0, .int .u8 0, .int .u8 0, .int .u8 0, .int .u8 0, .int .u8 0, .int .u8 0, .int .u8 0, .int .u8 0, .int .u8 0, .int .u8 0, .int .u8 0, .int .u8 0, .int .u8 0, .int .u8 0, .int .u8 0, .int .u8 0, .int .u8 0, .int .u8 0, .int .u8 0, .int .u8 0, .int .u8 0, .int .u8 0, .int .u8 0, .int .u8 0, .int .u8 0, .int .u8 0, .int .u8 0, .int .u8 0, .int .u8 0, .int .u8 0, .int .u8 0, .int .u32 0, .int .u32 0] : Array Value) = rowOf 34 HV.zero.v := by kernel_rfl
theorem HV.one (x : HV) (j : Nat) : (x.v j).oneCell' = true := by
  unfold HV.v
  split
  · rfl
  · split <;> rfl
/-- The header that stands next. -/
def ISt.hdrS (L : Nat) (s : ISt) : ISt := ((s.take L 32).take L 4).take L 4
def ISt.hdr (L : Nat) (F : Nat → Nat) (s : ISt) : HV := ⟨s.cF L F 32, (s.take L 32).num L F 4, ((s.take L 32).take L 4).num L F 4⟩
theorem HV.put_dh (x : HV) (f : Nat → Nat) (i : Nat) : (if 0 ≤ i ∧ i < 0 + 32 then Value.int .u8 (f (i - 0)) else x.v i) = ({ x with dh := f } : HV).v i := by
  unfold HV.v
  by_cases h : i < 32
  · rw [if_pos ⟨Nat.zero_le _, by omega⟩, if_pos h, Nat.sub_zero]
  · rw [if_neg (by omega), if_neg h, if_neg h]
theorem HV.put_prev (x : HV) (n i : Nat) : (if i = 32 then Value.int .u32 n else x.v i) = ({ x with prev := n } : HV).v i := by
  unfold HV.v
  by_cases h : i = 32
  · subst h; rfl
  · rw [if_neg h]
    by_cases h2 : i < 32
    · rw [if_pos h2, if_pos h2]
    · rw [if_neg h2, if_neg h2, if_neg (by omega), if_neg (by omega)]
theorem HV.put_n (x : HV) (n i : Nat) (hi : i < 34) : (if i = 33 then Value.int .u32 n else x.v i) = ({ x with n := n } : HV).v i := by
  unfold HV.v
  by_cases h : i = 33
  · subst h; rfl
  · rw [if_neg h]
    by_cases h2 : i < 32
    · rw [if_pos h2, if_pos h2]
    · rw [if_neg h2, if_neg h2, if_pos (by omega), if_pos (by omega)]
structure CHdr (w : World) (g L : Nat) (F : Nat → Nat) (s : ISt) (e : Ending) (w' : World) : Prop where
  ex : e = .returned (.agg (rowOf 34 (s.hdr L F).v))
  st : CAt w' g L F (s.hdrS L)
  gr : w.grownBy w' (some g)
theorem curHdr_any {w : World} {g L : Nat} {F : Nat → Nat} {s : ISt} (h : CAt w g L F s) (hF : ∀ i, F i < 256) : Calls Try.prog 114 #[.pointer (some ⟨g, 0, none⟩)] w (CHdr w g L F s) := by
  have ga := World.grownBy_alloc w (.cells #[.int .u8 0, .int .u8 0, .int .u8 0, .int .u8 0, .int .u8 0, .int .u8 0, .int .u8 0, .int .u8 0, .int .u8 0, .int .u8 0, .int .u8 0, .int .u8 0, .int .u8 0, .int .u8 0, .int .u8 0, .int .u8 0, .int .u8 0, .int .u8 0, .int .u8 0, .int .u8 0, .int .u8 0, .int .u8 0, .int .u8 0, .int .u8 0, .int .u8 0, .int .u8 0, .int .u8 0, .int .u8 0, .int .u8 0, .int .u8 0, .int .u8 0, .int .u8 0, .int .u32 0, .int .u32 0] 36) none
  have hz := World.size_alloc w (.cells #[.int .u8 0, .int .u8 0, .int .u8 0, .int .u8 0, .int .u8 0, .int .u8 0, .int .u8 0, .int .u8 0, .int .u8 0, .int .u8 0, .int .u8 0, .int .u8 0, .int .u8 0, .int .u8 0, .int .u8 0, .int .u8 0, .int .u8 0, .int .u8 0, .int .u8 0, .int .u8 0, .int .u8 0, .int .u8 0, .int .u8 0, .int .u8 0, .int .u8 0, .int .u8 0, .int .u8 0, .int .u8 0, .int .u8 0, .int .u8 0, .int .u8 0, .int .u8 0, .int .u32 0, .int .u32 0] 36)
  have hn := RowAt.new w 36 34 HV.zero.v _ HV.zero_row
  have h1 := h.grown ga (by simp)
  have hlt := h.lt
  have HF := Lib.hid hF
  clear hF
  go_enter Try.func114, Try.ntmps114
  go_upto_region 1 with fail
  obtain ⟨B, hB⟩ : ∃ B, B = w.heap.size := ⟨_, rfl⟩
  generalize w.alloc (.cells #[.int .u8 0, .int .u8 0, .int .u8 0, .int .u8 0, .int .u8 0, .int .u8 0, .int .u8 0, .int .u8 0, .int .u8 0, .int .u8 0, .int .u8 0, .int .u8 0, .int .u8 0, .int .u8 0, .int .u8 0, .int .u8 0, .int .u8 0, .int .u8 0, .int .u8 0, .int .u8 0, .int .u8 0, .int .u8 0, .int .u8 0, .int .u8 0, .int .u8 0, .int .u8 0, .int .u8 0, .int .u8 0, .int .u8 0, .int .u8 0, .int .u8 0, .int .u8 0, .int .u32 0, .int .u32 0] 36) = w1 at *
  rw [← hB] at hz hn hlt ⊢
  have gb := World.grownBy_alloc w1 (.cells #[.int .u8 0, .int .u8 0, .int .u8 0, .int .u8 0, .int .u8 0, .int .u8 0, .int .u8 0, .int .u8 0, .int .u8 0, .int .u8 0, .int .u8 0, .int .u8 0, .int .u8 0, .int .u8 0, .int .u8 0, .int .u8 0, .int .u8 0, .int .u8 0, .int .u8 0, .int .u8 0, .int .u8 0, .int .u8 0, .int .u8 0, .int .u8 0, .int .u8 0, .int .u8 0, .int .u8 0, .int .u8 0, .int .u8 0, .int .u8 0, .int .u8 0, .int .u8 0, .int .u32 0, .int .u32 0] 36) none
  have hm := RowAt.new w1 36 34 HV.zero.v _ HV.zero_row
  have hy := World.size_alloc w1 (.cells #[.int .u8 0, .int .u8 0, .int .u8 0, .int .u8 0, .int .u8 0, .int .u8 0, .int .u8 0, .int .u8 0, .int .u8 0, .int .u8 0, .int .u8 0, .int .u8 0, .int .u8 0, .int .u8 0, .int .u8 0, .int .u8 0, .int .u8 0, .int .u8 0, .int .u8 0, .int .u8 0, .int .u8 0, .int .u8 0, .int .u8 0, .int .u8 0, .int .u8 0, .int .u8 0, .int .u8 0, .int .u8 0, .int .u8 0, .int .u8 0, .int .u8 0, .int .u8 0, .int .u32 0, .int .u32 0] 36)
  have HS1 := (RowAt.store (P := Try.prog) hm 0 36 34 HV.zero.v (by decide) (by kernel_rfl) (fun j _ => HV.zero.one j)).1
  have hm2 := (RowAt.store (P := Try.prog) hm 0 36 34 HV.zero.v (by decide) (by kernel_rfl) (fun j _ => HV.zero.one j)).2
  rw [hz] at HS1 hm2
  have HS := Lib.hid HS1
  have HZ := Lib.hid hz
  have HLT := Lib.hid hlt
  have HB := Lib.hid hB
  clear HS1 hB hm
  go_upto_region 2 with (first | ((with_reducible refine wpList_here ?_); refine wpList_st (T := 36) (p := .pointer (some ⟨B + 1, 0, none⟩)) (v := .agg (rowOf 34 HV.zero.v)) (.tmp 3) (.tmp 4) ?_ ?_ ?_ ?_ ?_ HS.out ?_; (· rfl); (· rfl); go_simp; (· kernel_rfl); (· kernel_rfl)))
  obtain ⟨W, hW⟩ : ∃ W, W = (w1.alloc (.cells #[.int .u8 0, .int .u8 0, .int .u8 0, .int .u8 0, .int .u8 0, .int .u8 0, .int .u8 0, .int .u8 0, .int .u8 0, .int .u8 0, .int .u8 0, .int .u8 0, .int .u8 0, .int .u8 0, .int .u8 0, .int .u8 0, .int .u8 0, .int .u8 0, .int .u8 0, .int .u8 0, .int .u8 0, .int .u8 0, .int .u8 0, .int .u8 0, .int .u8 0, .int .u8 0, .int .u8 0, .int .u8 0, .int .u8 0, .int .u8 0, .int .u8 0, .int .u8 0, .int .u32 0, .int .u32 0] 36)).setCells (B + 1) 0 (rowOf 34 HV.zero.v).toList := ⟨_, rfl⟩
  have gW : w1.grownBy W none := by rw [hW]; exact grown_setCells (B + 1) (Or.inl (by omega)) _ 0 _ gb
  have hR2 : RowAt W (B + 1) 36 34 HV.zero.v := by
    rw [hW]
    exact hm2.congr fun i hi => by rw [if_pos ⟨Nat.zero_le _, by omega⟩, Nat.sub_zero]
  have HW := Lib.hid hW.symm
  have hR1 := hn.grown gW (by simp)
  have hC := h1.grown gW (by simp)
  have hG := grown_trans ga gW
  clear hW gW gb hm2 hy hn h1 ga hz hlt HS h
  rw [HW.out]
  have HP := Lib.hid (curPart_any 32 hC (by decide) (by decide))
  have HC := Lib.hid hC
  clear hC
  go_wp2_with fail
  go_at_call 109
  refine HP.out.mono ?_
  rintro e w2 ⟨⟨a, m, c, rfl, hm, hc, hR⟩, hst, hgr⟩
  have hR1 := hR1.grown hgr (by simp; have := HLT.out; omega)
  have hR2 := hR2.grown hgr (by simp; have := HLT.out; omega)
  have hG := grown_trans (grown_some (row := some g) hG) hgr
  have HK := Lib.hid (sgOfKey_any w2.heap.size m c a _ w2 hR hm)
  have HST := Lib.hid hst
  clear hst hgr HP hR hm hc
  go_wp2_with fail
  go_at_call 112
  refine HK.out.mono ?_
  rintro e w3 ⟨rfl, g3⟩
  obtain ⟨f, hf⟩ : ∃ f, f = s.cF L F 32 := ⟨_, rfl⟩
  rw [← hf]
  have HFE := Lib.hid hf
  clear hf HK
  have hR1 := hR1.grown g3 (by simp)
  have hR2 := hR2.grown g3 (by simp)
  have hC := HST.out.grown g3 (by simp)
  have hG := grown_trans hG (grown_some g3)
  clear g3 HST
  obtain ⟨hs1, hs2⟩ := RowAt.store (P := Try.prog) hR2 0 28 32 (fun j => .int .u8 (f j)) (by decide) (by kernel_rfl) (fun j _ => rfl)
  obtain ⟨W, hW⟩ : ∃ W, W = w3.setCells (B + 1) 0 (rowOf 32 (fun j => .int .u8 (f j))).toList := ⟨_, rfl⟩
  rw [← hW] at hs1 hs2
  have hG : w.grownBy W (some g) := by rw [hW]; exact grown_setCells (B + 1) (Or.inl (by have := HB.out; omega)) _ 0 _ hG
  have gW : w3.grownBy W (some (B + 1)) := by rw [hW]; exact grown_setCells (B + 1) (Or.inr rfl) _ 0 _ (grown_refl _ _)
  have hR2 : RowAt W (B + 1) 36 34 (HV.mk f 0 0).v := hs2.congr fun i hi => HV.put_dh HV.zero f i
  have hR1 := hR1.grown gW (by simp)
  have hC := hC.grown gW (fun k e => by cases e; have := HLT.out; omega)
  have HS := Lib.hid hs1
  clear hs1 hs2 gW hW
  go_upto_region 3 with (first | ((with_reducible refine wpList_here ?_); refine wpList_st (T := 28) (p := .pointer (some ⟨B + 1, 0, none⟩)) (v := .agg (rowOf 32 (fun j => .int .u8 (f j)))) (.tmp 8) (.tmp 7) ?_ ?_ ?_ ?_ ?_ HS.out ?_; (· rfl); (· rfl); go_simp; (· kernel_rfl); (· kernel_rfl)))
  clear HS
  have HN2 := Lib.hid (curNum_any 4 hC (by decide) (by decide) HF.out)
  clear hC
  go_wp2_with fail
  go_at_call 110
  refine HN2.out.mono ?_
  rintro e v2 ⟨rfl, hst, hgr⟩
  have hl := ISt.num_lt L F (s.take L ((32 : Nat) : Int)) 4 HF.out
  obtain ⟨n2, hn2⟩ : ∃ n, n = (s.take L ((32 : Nat) : Int)).num L F 4 := ⟨_, rfl⟩
  rw [← hn2] at hl ⊢
  have HNE2 := Lib.hid hn2
  have hl2 : (n2 : Int) < 4294967296 := by omega
  have hwr2 : IntKind.u32.wrap (n2 : Int) = (n2 : Int) := by rw [IntKind.wrap_u32]; try omega
  have hR1 := hR1.grown hgr (by simp; have := HLT.out; omega)
  have hR2 := hR2.grown hgr (by simp; have := HLT.out; omega)
  have hG := grown_trans hG hgr
  have cc : v2.cell? ⟨B + 1, 32, none⟩ = some (.int .u32 0) := hR2.cell 32 (by decide)
  have ff := hR2.frozen 32
  obtain ⟨W, hW⟩ : ∃ W, W = v2.setCell ⟨B + 1, 32, none⟩ (.int .u32 (n2 : Nat)) := ⟨_, rfl⟩
  have gW : v2.grownBy W (some (B + 1)) := by rw [hW]; exact grown_setCell_new (grown_refl _ _) _ _ (Or.inr rfl)
  have hR2' : RowAt W (B + 1) 36 34 (HV.mk f n2 0).v := by
    rw [hW]
    exact (hR2.put 32 (.int .u32 (n2 : Nat)) (by decide)).congr fun i hi => HV.put_prev ⟨f, 0, 0⟩ n2 i
  have hR1 := hR1.grown gW (by simp)
  have hC := CAt.grown hst gW (fun k e => by cases e; have := HLT.out; omega)
  have hG : w.grownBy W (some g) := by rw [hW]; exact grown_setCell_new hG _ _ (Or.inl (by have := HB.out; show w.heap.size ≤ B + 1; omega))
  have HW := Lib.hid hW.symm
  have hR2 := hR2'
  clear hW gW hR2' hst hgr hl hn2 HN2
  go_upto_region 4 with fail
  rw [HW.out]
  clear cc ff
  have HN3 := Lib.hid (curNum_any 4 hC (by decide) (by decide) HF.out)
  clear hC
  go_wp2_with fail
  go_at_call 110
  refine HN3.out.mono ?_
  rintro e v3 ⟨rfl, hst, hgr⟩
  have hl := ISt.num_lt L F ((s.take L ((32 : Nat) : Int)).take L ((4 : Nat) : Int)) 4 HF.out
  obtain ⟨n3, hn3⟩ : ∃ n, n = ((s.take L ((32 : Nat) : Int)).take L ((4 : Nat) : Int)).num L F 4 := ⟨_, rfl⟩
  rw [← hn3] at hl ⊢
  have HNE3 := Lib.hid hn3
  have hl3 : (n3 : Int) < 4294967296 := by omega
  have hwr3 : IntKind.u32.wrap (n3 : Int) = (n3 : Int) := by rw [IntKind.wrap_u32]; try omega
  have hR1 := hR1.grown hgr (by simp; have := HLT.out; omega)
  have hR2 := hR2.grown hgr (by simp; have := HLT.out; omega)
  have hG := grown_trans hG hgr
  have cc : v3.cell? ⟨B + 1, 33, none⟩ = some (.int .u32 0) := hR2.cell 33 (by decide)
  have ff := hR2.frozen 33
  obtain ⟨W, hW⟩ : ∃ W, W = v3.setCell ⟨B + 1, 33, none⟩ (.int .u32 (n3 : Nat)) := ⟨_, rfl⟩
  have gW : v3.grownBy W (some (B + 1)) := by rw [hW]; exact grown_setCell_new (grown_refl _ _) _ _ (Or.inr rfl)
  have hR2' : RowAt W (B + 1) 36 34 (HV.mk f n2 n3).v := by
    rw [hW]
    exact (hR2.put 33 (.int .u32 (n3 : Nat)) (by decide)).congr fun i hi => HV.put_n ⟨f, n2, 0⟩ n3 i hi
  have hR1 := hR1.grown gW (by simp)
  have hC := CAt.grown hst gW (fun k e => by cases e; have := HLT.out; omega)
  have hG : w.grownBy W (some g) := by rw [hW]; exact grown_setCell_new hG _ _ (Or.inl (by have := HB.out; show w.heap.size ≤ B + 1; omega))
  have HW := Lib.hid hW.symm
  have hR2 := hR2'
  clear hW gW hR2' hst hgr hl hn3 HN3
  go_upto_region 5 with fail
  rw [HW.out]
  clear cc ff
  have HL := Lib.hid (hR2.load (P := Try.prog) 0 36 34 (HV.mk f n2 n3).v (by decide) (fun j _ => by rw [Nat.zero_add]) (by kernel_rfl) (by kernel_rfl))
  obtain ⟨hs1, hs2⟩ := RowAt.store (P := Try.prog) hR1 0 36 34 (HV.mk f n2 n3).v (by decide) (by kernel_rfl) (fun j _ => HV.one _ j)
  have HS := Lib.hid hs1
  obtain ⟨U, hU⟩ : ∃ U, U = W.setCells B 0 (rowOf 34 (HV.mk f n2 n3).v).toList := ⟨_, rfl⟩
  rw [← hU] at hs2
  have hG : w.grownBy U (some g) := by rw [hU]; exact grown_setCells B (Or.inl (by have := HB.out; omega)) _ 0 _ hG
  have gW : W.grownBy U (some B) := by rw [hU]; exact grown_setCells B (Or.inr rfl) _ 0 _ (grown_refl _ _)
  have hC := hC.grown gW (fun k e => by cases e; exact HLT.out)
  have HU := Lib.hid hU.symm
  have hR := hs2.congr (v' := (HV.mk f n2 n3).v) fun i hi => by rw [if_pos ⟨Nat.zero_le _, by omega⟩, Nat.sub_zero]
  have hfin : CHdr w g L F s (.returned (.agg (rowOf 34 (HV.mk f n2 n3).v))) U := ⟨by rw [HFE.out, HNE2.out, HNE3.out]; rfl, hC, hG⟩
  have HFIN := Lib.hid hfin
  clear hs1 hs2 hU gW hC hG hR2 hR1 hfin
  go_wp2_with (first | ((with_reducible refine wpList_here ?_); refine wpList_ld (p := .pointer (some ⟨B + 1, 0, none⟩)) 3 ?_ ?_ ?_ HL.out ?_; (· rfl); go_simp; (· kernel_rfl)) | ((with_reducible refine wpList_here ?_); refine wpList_st (T := 36) (p := .pointer (some ⟨B, 0, none⟩)) (v := .agg (rowOf 34 (HV.mk f n2 n3).v)) (.tmp 2) (.tmp 17) ?_ ?_ ?_ ?_ ?_ HS.out ?_; (· rfl); (· rfl); go_simp; (· kernel_rfl); (· kernel_rfl)))
  rw [HU.out]
  exact bodyPost_ret (res_rowAt rfl rfl hR (by kernel_rfl) (by kernel_rfl)) rfl HFIN.out
end Go.Proofs.Ytmbefbmpjkbnmaa
