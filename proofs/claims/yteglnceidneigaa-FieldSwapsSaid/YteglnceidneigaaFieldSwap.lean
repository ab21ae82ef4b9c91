/-
  field's Swap.
-/
import Derived.Test.YteglnceidneigaaFieldCar
import Derived.StillTailTactics
import Derived.BigQuiet
namespace Go.Proofs.Yteglnceidneigaa
open Go.RowKit

set_option maxRecDepth 100000
set_option maxHeartbeats 2000000

/-- What the two numbers are behind it. -/
def swL (Y : Nat) (f g : Nat → Nat) (j : Nat) : Nat := if Y = 1 then g j else f j
structure Swp (w0 w : World) (bx by' : Nat) (F G : Nat → Nat) (w' : World) : Prop where
  gr : w0.grownBy w' none
  x : Holds w' bx 28 .u64 5 F
  y : Holds w' by' 28 .u64 5 G
  sz : w.heap.size ≤ w'.heap.size
  same : ∀ b, b < w.heap.size → b ≠ bx → b ≠ by' → w'.heap[b]? = w.heap[b]?
theorem Swp.drew {w0 w w' : World} {bx by' : Nat} {F G : Nat → Nat} (h : Swp w0 w bx by' F G w') : Swp w0 w bx by' F G w'.drew := ⟨grown_drew h.gr, h.x.drew, h.y.drew, h.sz, h.same⟩
theorem Swp.drewN {w0 w w' : World} {bx by' : Nat} {F G : Nat → Nat} (h : Swp w0 w bx by' F G w') (n : Nat) : Swp w0 w bx by' F G (w'.drewN n) := ⟨grown_drewN h.gr n, h.x.drewN n, h.y.drewN n, h.sz, h.same⟩
theorem Swp.setX {w0 w w' : World} {bx by' : Nat} {F G : Nat → Nat} (h : Swp w0 w bx by' F G w') (hx : w0.heap.size ≤ bx) (hne : bx ≠ by') (i v : Nat) : Swp w0 w bx by' (upd F i v) G (w'.setCell ⟨bx, i, none⟩ (.int .u64 v)) :=
  ⟨grown_setCell_new h.gr _ _ (Or.inl hx), h.x.set i v, h.y.setOther _ _ (Ne.symm hne), by rw [World.size_setCell]; exact h.sz, fun b hb h1 h2 => (heap_setCell_other _ _ b _ h1).trans (h.same b hb h1 h2)⟩
theorem Swp.setY {w0 w w' : World} {bx by' : Nat} {F G : Nat → Nat} (h : Swp w0 w bx by' F G w') (hy : w0.heap.size ≤ by') (hne : bx ≠ by') (i v : Nat) : Swp w0 w bx by' F (upd G i v) (w'.setCell ⟨by', i, none⟩ (.int .u64 v)) :=
  ⟨grown_setCell_new h.gr _ _ (Or.inl hy), h.x.setOther _ _ hne, h.y.set i v, by rw [World.size_setCell]; exact h.sz, fun b hb h1 h2 => (heap_setCell_other _ _ b _ h2).trans (h.same b hb h1 h2)⟩
theorem Swp.congr {w0 w w' : World} {bx by' : Nat} {F G F' G' : Nat → Nat} (h : Swp w0 w bx by' F G w') (hf : ∀ i, i < 5 → F i = F' i) (hg : ∀ i, i < 5 → G i = G' i) : Swp w0 w bx by' F' G' w' := ⟨h.gr, h.x.congr hf, h.y.congr hg, h.sz, h.same⟩

theorem xor_back (a b : Nat) : a ^^^ (a ^^^ b) = b := by rw [← Nat.xor_assoc, Nat.xor_self, Nat.zero_xor]
theorem bits_xor64 (a b : Nat) (ha : a < 18446744073709551616) (hb : b < 18446744073709551616) : bits .xor .u64 (a : Int) (b : Int) = ((a ^^^ b : Nat) : Int) := bits_xor_u64 a b ha hb
theorem swap_nilx (Y : Nat) (p : Option Addr) (w : World) : Calls Try.prog 24 #[.int .u64 Y, .pointer none, .pointer p] w fun e w' => (∃ v, e = .returned v) ∧ w = w' := by
  go_enter Try.func24, Try.ntmps24
  go_wp2_with fail
  refine bodyPost_ret (results_none rfl _ _ _) rfl ?_
  exact ⟨⟨_, rfl⟩, rfl⟩
theorem swap_nily (Y bx : Nat) (w : World) : Calls Try.prog 24 #[.int .u64 Y, .pointer (some ⟨bx, 0, none⟩), .pointer none] w fun e w' => (∃ v, e = .returned v) ∧ w = w' := by
  go_enter Try.func24, Try.ntmps24
  go_wp2_with fail
  refine bodyPost_ret (results_none rfl _ _ _) rfl ?_
  exact ⟨⟨_, rfl⟩, rfl⟩
theorem swap_any (Y bx by' : Nat) (f g : Nat → Nat) (w0 w : World) (hY : Y ≤ 1) (h0 : w0.grownBy w none) (hx0 : w0.heap.size ≤ bx) (hy0 : w0.heap.size ≤ by') (hne : bx ≠ by') (hf : ∀ i, i < 5 → f i < 18446744073709551616) (hg : ∀ i, i < 5 → g i < 18446744073709551616)
    (hx : Holds w bx 28 .u64 5 f) (hy : Holds w by' 28 .u64 5 g) :
    Calls Try.prog 24 #[.int .u64 Y, .pointer (some ⟨bx, 0, none⟩), .pointer (some ⟨by', 0, none⟩)] w fun e w' => (∃ v, e = .returned v) ∧ Swp w0 w bx by' (swL Y f g) (swL Y g f) w' := by
  have hS : Swp w0 w bx by' (fun j => if j < 0 then swL Y f g j else f j) (fun j => if j < 0 then swL Y g f j else g j) w := ⟨h0, hx.congr (fun j _ => (if_neg (Nat.not_lt_zero j)).symm), hy.congr (fun j _ => (if_neg (Nat.not_lt_zero j)).symm), Nat.le_refl _, fun _ _ _ _ => rfl⟩
  obtain ⟨m, hm⟩ : ∃ m, m = if Y = 1 then 18446744073709551615 else 0 := ⟨_, rfl⟩
  have zm : IntKind.u64.wrap (-(Y : Int)) = (m : Int) := by
    rw [hm, IntKind.wrap_u64]
    split <;> omega
  have HF := Lib.hid hf
  have HG := Lib.hid hg
  have HY := Lib.hid hY
  have HM := Lib.hid hm
  have HN := Lib.hid hne
  have HN2 := Lib.hid (Ne.symm hne)
  clear hx hy h0 hf hg hm hY
  go_enter Try.func24, Try.ntmps24
  go_upto_region 2 with fail
  clear zm
  go_wp2_with fail
  go_loopw [7, 8, 17] (fun _ _ u17 wr => ∃ i : Nat, i ≤ 5 ∧ u17 = .int .i64 i ∧ Swp w0 w bx by' (fun j => if j < i then swL Y f g j else f j) (fun j => if j < i then swL Y g f j else g j) wr) (fun _ _ u17 _ => 5 - (intOf u17).toNat)
  case atStart => exact ⟨0, by omega, rfl, hS⟩
  case round =>
    clear hS
    obtain ⟨i, hi, rfl, hS⟩ := hrel
    by_cases hlt : i < 5
    · have j1 : (i : Int) < 5 := by omega
      obtain ⟨d, hd⟩ : ∃ d, d = if Y = 1 then f i ^^^ g i else 0 := ⟨_, rfl⟩
      have h1 := HF.out i hlt
      have h2 := HG.out i hlt
      have hdl : d < 18446744073709551616 := by
        rw [hd]
        split
        · exact Nat.xor_lt_two_pow (n := 64) h1 h2
        · decide
      have z1 : bits .and .u64 (bits .xor .u64 (f i : Int) (g i : Int)) (m : Int) = (d : Int) := by
        rw [bits_xor64 _ _ h1 h2, HM.out, hd]
        by_cases e : Y = 1
        · rw [if_pos e, if_pos e, bits_and_u64_nat _ _ (Nat.xor_lt_two_pow (n := 64) h1 h2) (by decide), Nat.and_two_pow_sub_one_of_lt_two_pow (n := 64) (Nat.xor_lt_two_pow (n := 64) h1 h2)]
        · rw [if_neg e, if_neg e, bits_and_u64_nat _ _ (Nat.xor_lt_two_pow (n := 64) h1 h2) (by decide), Nat.and_zero]
      have e1 : f i ^^^ d = swL Y f g i := by
        rw [hd]
        unfold swL
        split
        · exact xor_back _ _
        · exact Nat.xor_zero _
      have e2 : g i ^^^ d = swL Y g f i := by
        rw [hd]
        unfold swL
        split
        · rw [Nat.xor_comm (f i), xor_back]
        · exact Nat.xor_zero _
      have z2 : bits .xor .u64 (f i : Int) (d : Int) = ((swL Y f g i : Nat) : Int) := by rw [bits_xor64 _ _ h1 hdl, e1]
      have z3 : bits .xor .u64 (g i : Int) (d : Int) = ((swL Y g f i : Nat) : Int) := by rw [bits_xor64 _ _ h2 hdl, e2]
      have cx := hS.x.cell i hlt
      have cy := hS.y.cell i hlt
      rw [if_neg (Nat.lt_irrefl i)] at cx cy
      have hS2 : ∀ V, Swp w0 w bx by' (fun j => if j < i then swL Y f g j else f j) (fun j => if j < i then swL Y g f j else g j) V → Swp w0 w bx by' (upd (fun j => if j < i then swL Y f g j else f j) i (swL Y f g i)) (fun j => if j < i then swL Y g f j else g j) (V.setCell ⟨bx, i, none⟩ (.int .u64 (swL Y f g i : Nat))) := fun V h => h.setX hx0 HN.out i _
      have hS3 : ∀ V, Swp w0 w bx by' (upd (fun j => if j < i then swL Y f g j else f j) i (swL Y f g i)) (fun j => if j < i then swL Y g f j else g j) V → Swp w0 w bx by' (fun j => if j < i + 1 then swL Y f g j else f j) (fun j => if j < i + 1 then swL Y g f j else g j) (V.setCell ⟨by', i, none⟩ (.int .u64 (swL Y g f i : Nat))) := fun V h => (h.setY hy0 HN.out i (swL Y g f i)).congr (fun j hj => by
          by_cases e : j = i
          · subst e; rw [upd_same, if_pos (by omega)]
          · rw [upd_other _ _ _ _ e]
            by_cases e3 : j < i
            · rw [if_pos e3, if_pos (by omega)]
            · rw [if_neg e3, if_neg (by omega)]) (fun j hj => by
          by_cases e : j = i
          · subst e; rw [upd_same, if_pos (by omega)]
          · rw [upd_other _ _ _ _ e]
            by_cases e3 : j < i
            · rw [if_pos e3, if_pos (by omega)]
            · rw [if_neg e3, if_neg (by omega)])
      have HS2 := Lib.hid hS2
      have HS3 := Lib.hid hS3
      obtain ⟨vx, hvx⟩ : ∃ v, v = swL Y f g i := ⟨_, rfl⟩
      obtain ⟨vy, hvy⟩ : ∃ v, v = swL Y g f i := ⟨_, rfl⟩
      rw [← hvx] at z2 HS2 HS3
      rw [← hvy] at z3 HS3
      have HI := Lib.hid hlt
      have HS := Lib.hid hS
      have Z1 := Lib.hid z1
      have Z2 := Lib.hid z2
      have Z3 := Lib.hid z3
      have CY := Lib.hid (show ∀ V, Swp w0 w bx by' (upd (fun j => if j < i then swL Y f g j else f j) i vx) (fun j => if j < i then swL Y g f j else g j) V → V.cell? ⟨by', i, none⟩ = some (.int .u64 (g i : Nat)) ∧ V.frozen? ⟨by', i, none⟩ = false from fun V h => by
        have := h.y.cell i hlt
        rw [if_neg (Nat.lt_irrefl i)] at this
        exact ⟨this, h.y.frozen i⟩)
      have CX := Lib.hid (show ∀ V, Swp w0 w bx by' (fun j => if j < i then swL Y f g j else f j) (fun j => if j < i then swL Y g f j else g j) V → V.cell? ⟨bx, i, none⟩ = some (.int .u64 (f i : Nat)) ∧ V.frozen? ⟨bx, i, none⟩ = false from fun V h => by
        have := h.x.cell i hlt
        rw [if_neg (Nat.lt_irrefl i)] at this
        exact ⟨this, h.x.frozen i⟩)
      clear hd h1 h2 hdl z1 z2 z3 e1 e2 hS2 hS3 hvx hvy hlt hi hS
      generalize f i = fi at *
      generalize g i = gi at *
      go_wp2_with fail
      go_quiet (fail)
      go_wp2_with fail
      obtain ⟨V1, hV1⟩ : ∃ V, V = (wr.drewN nq).drew := ⟨_, rfl⟩
      have s1 := (HS.out.drewN nq).drew
      rw [← hV1] at s1
      have HV1 := Lib.hid hV1.symm
      have S1 := Lib.hid s1
      obtain ⟨c1, f1⟩ := CX.out V1 s1
      clear hV1 s1 cx cy
      simp only [Z1.out]
      refine wp_region_still_tail 11 (by kernel_rfl) (by kernel_rfl) ?_
      change wpStill _ _ (World.drew (wr.drewN nq)) (fun a' => wpList _ _ _ _ a' (World.drew (wr.drewN nq))) _ _
      rw [HV1.out]
      simp only [List.take_succ_cons, List.take_zero, List.drop_succ_cons, List.drop_zero]
      repeat still_step
      refine wpStill_nil ?_
      simp only [Z2.out]
      go_wp2_with fail
      obtain ⟨V2, hV2⟩ : ∃ V, V = (V1.setCell ⟨bx, i, none⟩ (.int .u64 (vx : Nat))).drew := ⟨_, rfl⟩
      have s2 := (HS2.out V1 S1.out).drew
      rw [← hV2] at s2
      have HV2 := Lib.hid hV2.symm
      have S2 := Lib.hid s2
      obtain ⟨c2, f2⟩ := CY.out V2 s2
      clear hV2 s2 c1 f1
      refine wp_region_still_tail 11 (by kernel_rfl) (by kernel_rfl) ?_
      change wpStill _ _ (World.drew (V1.setCell ⟨bx, i, none⟩ (.int .u64 (vx : Nat)))) (fun a' => wpList _ _ _ _ a' (World.drew (V1.setCell ⟨bx, i, none⟩ (.int .u64 (vx : Nat))))) _ _
      rw [HV2.out]
      simp only [List.take_succ_cons, List.take_zero, List.drop_succ_cons, List.drop_zero]
      repeat still_step
      refine wpStill_nil ?_
      simp only [Z3.out]
      have hfin := HS3.out V2 S2.out
      have HFin := Lib.hid hfin
      clear hfin
      go_wp2_with fail
      first
        | exact ⟨⟨i + 1, by omega, by go_num, HFin.out⟩, by simp [intOf]; omega⟩
        | (go_roundw
           case rel => exact ⟨i + 1, by have := HI.out; omega, by go_num, HFin.out⟩
           case measure => have := HI.out; simp [intOf]; omega)
    · obtain rfl : i = 5 := by omega
      have hE := hS.congr (F' := swL Y f g) (G' := swL Y g f) (fun j hj => if_pos hj) (fun j hj => if_pos hj)
      clear hS hlt hi
      go_wp2_with fail
      go_end0
      exact ⟨⟨_, rfl⟩, hE⟩
end Go.Proofs.Yteglnceidneigaa
