/-
  The reference's numbers of bytes; sums.
-/
import Derived.Test.YtpnddojcihdniaaRefFldR
import Derived.Test.YtpnddojcihdniaaRefFldN
namespace Go.Proofs.Ytpnddojcihdniaa
open Go.RowKit

set_option maxRecDepth 100000
set_option maxHeartbeats 4000000

/-- 32 bytes that lie from somewhere on. -/
structure At32 (w : World) (tb o : Nat) (f : Nat → Nat) : Prop where
  cell : ∀ i, i < 32 → w.cell? ⟨tb, o + i, none⟩ = some (.int .u8 (f i))
theorem At32.lt {w : World} {tb o : Nat} {f : Nat → Nat} (h : At32 w tb o f) : tb < w.heap.size := World.block_lt_of_cell? w _ (h.cell 0 (by decide))
theorem At32.grown {w w' : World} {tb o : Nat} {f : Nat → Nat} (h : At32 w tb o f) {row : Option Nat} (g : w.grownBy w' row) (hr : some tb ≠ row) : At32 w' tb o f := ⟨fun i hi => g.cell (h.cell i hi) hr⟩
theorem Holds.at32 {w : World} {b T : Nat} {f : Nat → Nat} (h : Holds w b T .u8 32 f) : At32 w b 0 f := ⟨fun i hi => by rw [Nat.zero_add]; exact h.cell i hi⟩

theorem refOf_any (f : Nat → Nat) (hf : ∀ i, f i < 256) (tb o c : Nat) (w : World) (hb : At32 w tb o f) :
    Calls Try.prog 8 #[.slice (some ⟨tb, o, none⟩) 32 c] w (GaveU w 16 (lim 16 (ofV f))) := by
  obtain ⟨cs, hr, hF⟩ := makeU_any 30 (by kernel_rfl) 16 (by decide) w
  have hr2 : (Instr.makeSlice 30 (.int .i64 16) (.int .i64 16)).run Try.prog w = .ok (.slice (some ⟨w.heap.size, 0, none⟩) 16 16) (w.alloc (.cells cs 25)) := hr
  have gr := World.grownBy_alloc w (.cells cs 25) none
  have hF0 := hF.congr (g := ofX f 0) (fun j _ => (ofX_zero f j).symm)
  have HTb := Lib.hid hb.lt
  have hb1 := hb.grown gr (by simp)
  have Hf := Lib.hid hf
  have HV := Lib.hid (ofX_val f hf)
  obtain ⟨S, hS⟩ : ∃ S, S = lim 16 (ofV f) := ⟨_, rfl⟩
  rw [← hS]
  have HS := Lib.hid hS
  clear hr hF hb hf hS
  go_enter Try.func8, Try.ntmps8
  go_wp2_with fail
  clear hr2
  generalize w.alloc (.cells cs 25) = w1 at *
  go_loopw [4, 5] (fun u4 _ wr => ∃ i : Nat, i ≤ 32 ∧ u4 = .int .i64 i ∧ w.grownBy wr none ∧ FillU wr w.heap.size 16 (ofX f i) ∧ At32 wr tb o f) (fun u4 _ _ => 32 - (intOf u4).toNat)
  case atStart => exact ⟨0, by omega, rfl, gr, hF0, hb1⟩
  case round =>
    clear gr hF0 hb1
    obtain ⟨i, hi, rfl, hgr, hF, hb⟩ := hrel
    by_cases hlt : i < 32
    · have j1 : (i : Int) < 32 := by omega
      obtain ⟨q, hq⟩ : ∃ q, q = i / 2 := ⟨_, rfl⟩
      obtain ⟨e, he⟩ : ∃ e, e = i % 2 := ⟨_, rfl⟩
      have x0 : (i : Int) / 2 = (q : Int) := by omega
      have x1 : (i : Int).tmod 2 = (e : Int) := by rw [Int.tmod_eq_emod_of_nonneg (by omega)]; omega
      have x2 : (i : Int) % 2 = (e : Int) := by omega
      have x4 : (i : Int).tdiv 2 = (q : Int) := by rw [Int.tdiv_eq_ediv_of_nonneg (by omega)]; omega
      have w4 : IntKind.i64.wrap (q : Int) = (q : Int) := by rw [IntKind.wrap_i64]; omega
      have w5 : IntKind.i64.wrap (e : Int) = (e : Int) := by rw [IntKind.wrap_i64]; omega
      have k0 : (q : Int) < 16 := by omega
      have hq16 : q < 16 := by omega
      have c0 := hb.cell i hlt
      have c1 := hF.cell q hq16
      have f1 := hF.free q
      have hfi := Hf.out i
      have hle := ofX_le f Hf.out i q
      have hvl := vO_le f Hf.out i
      have hF2 := (hF.set q (ofX f i q + vO f i) hq16).congr (g := ofX f (i + 1)) (fun j _ => by rw [hq]; exact ofX_step f i j)
      have hb2 : At32 (wr.setCell ⟨w.heap.size, q, none⟩ (.int .u64 (ofX f i q + vO f i : Nat))) tb o f := ⟨fun j hj => cell_set (hb.cell j hj) (fun e' => by
        have := HTb.out
        injection e' with e'
        omega)⟩
      have hg2 := grown_setCell_new hgr ⟨w.heap.size, q, none⟩ (.int .u64 (ofX f i q + vO f i : Nat)) (Or.inl (Nat.le_refl _))
      obtain ⟨s, hs⟩ : ∃ s, s = ofX f i q + vO f i := ⟨_, rfl⟩
      rw [← hs] at hF2 hb2 hg2
      have hv : vO f i = if e = 1 then 256 * topB f i else topB f i := by rw [he]; rfl
      have ht : topB f i = if i = 31 then f i % 128 else f i := rfl
      generalize vO f i = v at *
      generalize topB f i = t at *
      generalize f i = fi at *
      generalize ofX f i q = xq at *
      have z0 : IntKind.u64.wrap (fi : Int) = (fi : Int) := by rw [IntKind.wrap_u64]; omega
      have zs : IntKind.u64.wrap ((xq : Int) + (v : Int)) = (s : Int) := by rw [IntKind.wrap_u64]; omega
      have HI := Lib.hid hlt
      have HF := Lib.hid hF2
      have HB := Lib.hid hb2
      have HG := Lib.hid hg2
      have fin : ∀ V : World, V = wr.setCell ⟨w.heap.size, q, none⟩ (.int .u64 (s : Nat)) → w.grownBy V none ∧ FillU V w.heap.size 16 (ofX f (i + 1)) ∧ At32 V tb o f := fun V hV => by subst hV; exact ⟨HG.out, HF.out, HB.out⟩
      have FIN := Lib.hid fin
      by_cases ho : e = 1
      · rw [if_pos ho] at hv
        have be : ((e : Int) == 1) = true := by rw [beq_iff_eq]; omega
        by_cases h31 : i = 31
        · rw [if_pos h31] at ht
          have bi : ((i : Int) == 31) = true := by rw [beq_iff_eq]; omega
          have z1 : (fi : Int) % 128 = (t : Int) := by omega
          have z2 : IntKind.u64.wrap (t : Int) = (t : Int) := by rw [IntKind.wrap_u64]; omega
          have z3 : IntKind.u64.wrap (256 * (t : Int)) = (v : Int) := by rw [IntKind.wrap_u64]; omega
          clear hi hq he hfi hle hvl hF2 hb2 hg2 hs hv ht ho h31 hF hb hgr fin hlt hq16
          go_wp2_with fail
          go_roundw
          case rel => exact ⟨i + 1, by have := HI.out; omega, by go_num, FIN.out _ rfl⟩
          case measure =>
            have := HI.out
            simp [intOf]
            try omega
        · rw [if_neg h31] at ht
          have bi : ((i : Int) == 31) = false := by rw [beq_eq_false_iff_ne]; omega
          have z3 : IntKind.u64.wrap (256 * (fi : Int)) = (v : Int) := by rw [IntKind.wrap_u64]; omega
          clear hi hq he hfi hle hvl hF2 hb2 hg2 hs hv ht ho h31 hF hb hgr fin hlt hq16
          go_wp2_with fail
          go_roundw
          case rel => exact ⟨i + 1, by have := HI.out; omega, by go_num, FIN.out _ rfl⟩
          case measure =>
            have := HI.out
            simp [intOf]
            try omega
      · rw [if_neg ho] at hv
        have be : ((e : Int) == 1) = false := by rw [beq_eq_false_iff_ne]; omega
        have bi : ((i : Int) == 31) = false := by rw [beq_eq_false_iff_ne]; omega
        rw [if_neg (by omega)] at ht
        have z1 : v = fi := by omega
        rw [z1] at zs
        clear hi hq he hfi hle hvl hF2 hb2 hg2 hs hv ht ho hF hb hgr fin hlt hq16 z1
        go_wp2_with fail
        go_roundw
        case rel => exact ⟨i + 1, by have := HI.out; omega, by go_num, FIN.out _ rfl⟩
        case measure =>
          have := HI.out
          simp [intOf]
          try omega
    · obtain rfl : i = 32 := by omega
      have hp : ∀ k, k < 16 → ofX f 32 k ≤ 68719476736 := fun k _ => Nat.le_trans (ofX_le f Hf.out 32 k) (by decide)
      have hR := reduce_any 16 (Or.inl rfl) (ofX f 32) hp w.heap.size wr hF
      rw [HV.out, ← HS.out] at hR
      have HR := Lib.hid hR
      clear hR hp hF hb hlt hi
      go_wp2_with fail
      go_at_call 31
      refine HR.out.mono ?_
      rintro e U ⟨⟨b, rfl, hb, hFb⟩, gU⟩
      have hsz := hgr.size
      go_wp2_with fail
      go_ret
      exact ⟨⟨b, rfl, by omega, hFb⟩, grown_trans hgr gU⟩
end Go.Proofs.Ytpnddojcihdniaa
