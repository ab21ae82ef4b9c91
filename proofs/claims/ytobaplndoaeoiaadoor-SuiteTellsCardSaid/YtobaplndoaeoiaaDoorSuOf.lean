/-
  suite's Of.
-/
import Derived.Test.YtobaplndoaeoiaaDoorSuMap
namespace Go.Proofs.YtobaplndoaeoiaaDoor
open Go.RowKit Go.Maps

set_option maxRecDepth 100000
set_option maxHeartbeats 4000000

/-- The cells of what a suite is by. -/
def ivf (h k e t s : Nat) (i : Nat) : Value := if i = 0 then .int .u8 h else if i = 1 then .int .i64 k else if i = 2 then .int .i64 e else if i = 3 then .int .i64 t else .int .i64 s
def iv (n : Nat) : Nat → Value := ivf (hN n) (kN n) (eN n) (tN n) (sN n)
def ivz : Nat → Value := ivf 0 0 0 0 0
theorem infoV_row (h k e t s : Nat) : infoV h k e t s = .agg (rowOf 5 (ivf h k e t s)) := rfl
theorem ivf_one (h k e t s i : Nat) : (ivf h k e t s i).oneCell' = true := by
  unfold ivf
  repeat' split
  all_goals rfl
theorem store_info {w : World} {B : Nat} {v : Nat → Value} (h k e t s : Nat) (hr : RowAt w B 28 5 v) :
    ∃ w', (Instr.storeAt 28 (.pointer (some ⟨B, 0, none⟩)) (.agg (rowOf 5 (ivf h k e t s)))).run Tryd.prog w = .ok () w' ∧ RowAt w' B 28 5 (ivf h k e t s) ∧ w.grownBy w' (some B) := by
  obtain ⟨h1, h2⟩ := RowAt.store (P := Tryd.prog) hr 0 28 5 (ivf h k e t s) (by omega) (by kernel_rfl) (fun j _ => ivf_one h k e t s j)
  refine ⟨_, h1, h2.congr (fun i hi => ?_), grown_setCells B (Or.inr rfl) _ 0 w (grown_refl w (some B))⟩
  rw [if_pos ⟨Nat.zero_le _, by omega⟩, Nat.sub_zero]
theorem load_info {w : World} {B : Nat} {v : Nat → Value} (hr : RowAt w B 28 5 v) : (Instr.loadAt 28 (.pointer (some ⟨B, 0, none⟩))).run Tryd.prog w = .ok (.agg (rowOf 5 v)) w :=
  RowAt.load (P := Tryd.prog) hr 0 28 5 v (by omega) (fun j _ => by rw [Nat.zero_add]) (by kernel_rfl) (by kernel_rfl)
theorem zero_info (w : World) : (zeroValue 28).run Tryd.prog w = .ok (infoV 0 0 0 0 0) w := by kernel_rfl
theorem look_is (n : Nat) (hs : IsSuite n) (B : Nat) (w : World) (h : suiteMap w B) : (Instr.lookup 48 (.map (some B)) (.int .u16 n) true).run Tryd.prog w = .ok (.tuple #[.agg (rowOf 5 (iv n)), .bool true]) w := by
  have hw : (Lit.int .u16 (n : Int)).wf = true := by
    unfold IsSuite at hs
    simp [Lit.wf, IntKind.min, IntKind.max, IntKind.bits, IntKind.signed]
    omega
  obtain ⟨v, ps, hr, hv⟩ := World.ownsMap.look_ok h key16 und_map (zero_info w) (infoR_mk 0 0 0 0 0) (keyOf_int_mk und_u16 hw)
  rw [hr]
  rcases hs with rfl | rfl | rfl | rfl | rfl
  · rw [infoR_inv (v := v) (h := 1) (k := 48) (e := 16) (t := 10) (s := 32) hv]; rfl
  · rw [infoR_inv (v := v) (h := 1) (k := 48) (e := 16) (t := 8) (s := 32) hv]; rfl
  · rw [infoR_inv (v := v) (h := 1) (k := 48) (e := 16) (t := 4) (s := 32) hv]; rfl
  · rw [infoR_inv (v := v) (h := 1) (k := 16) (e := 16) (t := 16) (s := 32) hv]; rfl
  · rw [infoR_inv (v := v) (h := 2) (k := 32) (e := 32) (t := 16) (s := 64) hv]; rfl
theorem look_no (n : Nat) (hn : n < 65536) (hs : ¬ IsSuite n) (B : Nat) (w : World) (h : suiteMap w B) : (Instr.lookup 48 (.map (some B)) (.int .u16 n) true).run Tryd.prog w = .ok (.tuple #[.agg (rowOf 5 ivz), .bool false]) w := by
  have hw : (Lit.int .u16 (n : Int)).wf = true := by
    simp [Lit.wf, IntKind.min, IntKind.max, IntKind.bits, IntKind.signed]
    omega
  obtain ⟨v, ps, hr, hv⟩ := World.ownsMap.look_ok h key16 und_map (zero_info w) (infoR_mk 0 0 0 0 0) (keyOf_int_mk und_u16 hw)
  rw [hr]
  obtain ⟨h1, h2, h3, h4, h5⟩ := not_suite hs
  have k1 : ¬ ((1 : Int) = n) := by omega
  have k2 : ¬ ((2 : Int) = n) := by omega
  have k3 : ¬ ((3 : Int) = n) := by omega
  have k4 : ¬ ((4 : Int) = n) := by omega
  have k5 : ¬ ((5 : Int) = n) := by omega
  have e1 : Maps.has (.map suiteEs) (.int .u16 n) = false := by simp [Maps.has, suiteEs, Lit.sameKey, k1, k2, k3, k4, k5]
  have e2 : DataW.atKey (.map suiteEs) (.int .u16 n) (infoD 0 0 0 0 0) = infoD 0 0 0 0 0 := by simp [DataW.atKey, suiteEs, Lit.sameKey, k1, k2, k3, k4, k5]
  rw [e2] at hv
  rw [e1, infoR_inv (v := v) hv]
  rfl

theorem of_any (n : Nat) (w : World) (v : Nat → Value) (b : Bool) (h k e t s : Nat) (hv : v = ivf h k e t s) (hvz : b = false → v = ivz) (hl : ∀ B w, suiteMap w B → (Instr.lookup 48 (.map (some B)) (.int .u16 n) true).run Tryd.prog w = .ok (.tuple #[.agg (rowOf 5 v), .bool b]) w) :
    Calls Tryd.prog 6 #[.int .u16 n] w fun e w' => e = .returned (.tuple #[.agg (rowOf 5 v), .int .i64 (if b then 0 else 130)]) ∧ w.grownBy w' none := by
  have ga := World.grownBy_alloc w (.cells #[.int .u8 0, .int .i64 0, .int .i64 0, .int .i64 0, .int .i64 0] 28) none
  have hR := RowAt.new w 28 5 ivz #[.int .u8 0, .int .i64 0, .int .i64 0, .int .i64 0, .int .i64 0] rfl
  have HL := Lib.hid hl
  have HV := Lib.hid hv
  have HVZ := Lib.hid hvz
  clear hl hv hvz
  go_enter Tryd.func6, Tryd.ntmps6
  go_upto_region 1 with fail
  obtain ⟨w1, hw1⟩ : ∃ W, W = w.alloc (.cells #[.int .u8 0, .int .i64 0, .int .i64 0, .int .i64 0, .int .i64 0] 28) := ⟨_, rfl⟩
  obtain ⟨G, hG⟩ : ∃ G, G = w.heap.size := ⟨_, rfl⟩
  rw [← hw1] at ga hR ⊢
  rw [← hG] at hR ⊢
  have HR := Lib.hid hR
  have GA := Lib.hid ga
  have HGe := Lib.hid hG
  clear hR ga hw1 hG
  go_wp2_with fail
  go_at_call 15
  refine (suites_any w1).mono ?_
  rintro e w2 ⟨B, rfl, hS, g2⟩
  have lk := HL.out B w2 hS
  have gb := World.grownBy_alloc w2 (.cells #[.int .u8 0, .int .i64 0, .int .i64 0, .int .i64 0, .int .i64 0] 28) none
  have hR2 := RowAt.new w2 28 5 ivz #[.int .u8 0, .int .i64 0, .int .i64 0, .int .i64 0, .int .i64 0] rfl
  obtain ⟨w4, st4, hR4, g4⟩ := store_info h k e t s hR2
  rw [← HV.out] at st4 hR4
  have hRG := ((HR.out.grown g2 (by simp)).grown gb (by simp)).grown g4 (by
    have h1 := g2.size
    have h2 := HR.out.lt
    intro e
    cases e
    omega)
  have G4 := Lib.hid (grown_into (grown_trans (grown_trans GA.out g2) gb) g4 (by
    have h1 := g2.size
    have h2 := GA.out.size
    omega))
  have HRG := Lib.hid hRG
  have HGW : Hid (w.heap.size ≤ G) := Lib.hid (by rw [HGe.out]; exact Nat.le_refl _)
  have HR4 := Lib.hid hR4
  have ST4 := Lib.hid st4
  clear hR2 gb g2 g4 hRG hR4 st4 hS HL HR GA
  go_upto_region 2 with (with_reducible refine wpList_here ?_; refine wpList_st (p := .pointer (some ⟨w2.heap.size, 0, none⟩)) (.tmp 4) (.tmp 10) rfl rfl ?_ ?_ ?_ ST4.out ?_; (. kernel_rfl); (. kernel_rfl); (. kernel_rfl))
  clear lk HGe
  obtain ⟨B2, hB2⟩ : ∃ B2, B2 = w2.heap.size := ⟨_, rfl⟩
  rw [← hB2] at HR4 ⊢
  have HLT := Lib.hid HRG.out.lt
  have hGW : Hid (w.heap.size ≤ G) := HGW
  cases b
  · obtain rfl := HVZ.out rfl
    obtain ⟨w5, st5, hR5, g5⟩ := store_info 0 0 0 0 0 HRG.out
    have HR5 := Lib.hid hR5
    have ST5 := Lib.hid st5
    have G5 := Lib.hid (grown_into G4.out g5 hGW.out)
    clear hR5 st5 g5 HRG HR4 ST4 HV HVZ hB2
    go_wp2_with (with_reducible refine wpList_here ?_; refine wpList_st (p := .pointer (some ⟨G, 0, none⟩)) (.tmp 2) (.tmp 14) rfl rfl ?_ ?_ ?_ ST5.out ?_; (. kernel_rfl); (. kernel_rfl); (. kernel_rfl))
    exact bodyPost_ret (res_rowAt2 rfl rfl rfl HR5.out (by kernel_rfl) (by kernel_rfl)) rfl ⟨rfl, G5.out⟩
  · have ld := load_info HR4.out
    obtain ⟨w5, st5, hR5, g5⟩ := store_info h k e t s HRG.out
    rw [← HV.out] at st5 hR5
    have HR5 := Lib.hid hR5
    have ST5 := Lib.hid st5
    have LD := Lib.hid ld
    have G5 := Lib.hid (grown_into G4.out g5 hGW.out)
    clear hR5 st5 g5 ld HRG HR4 ST4 HV HVZ hB2
    go_wp2_with (first
      | (with_reducible refine wpList_here ?_; refine wpList_ld (p := .pointer (some ⟨B2, 0, none⟩)) 4 ?_ ?_ ?_ LD.out ?_; (. rfl); (. kernel_rfl); (. kernel_rfl))
      | (with_reducible refine wpList_here ?_; refine wpList_st (p := .pointer (some ⟨G, 0, none⟩)) (.tmp 2) (.tmp 15) rfl rfl ?_ ?_ ?_ ST5.out ?_; (. kernel_rfl); (. kernel_rfl); (. kernel_rfl)))
    exact bodyPost_ret (res_rowAt2 rfl rfl rfl HR5.out (by kernel_rfl) (by kernel_rfl)) rfl ⟨rfl, G5.out⟩
theorem of_is (n : Nat) (hs : IsSuite n) (w : World) : Calls Tryd.prog 6 #[.int .u16 n] w fun e w' => e = .returned (.tuple #[.agg (rowOf 5 (iv n)), .int .i64 0]) ∧ w.grownBy w' none :=
  of_any n w (iv n) true _ _ _ _ _ rfl (fun h => by cases h) (fun B w h => look_is n hs B w h)
theorem of_no (n : Nat) (hn : n < 65536) (hs : ¬ IsSuite n) (w : World) : Calls Tryd.prog 6 #[.int .u16 n] w fun e w' => e = .returned (.tuple #[.agg (rowOf 5 ivz), .int .i64 130]) ∧ w.grownBy w' none :=
  of_any n w ivz false _ _ _ _ _ rfl (fun _ => rfl) (fun B w h => look_no n hn hs B w h)
end Go.Proofs.YtobaplndoaeoiaaDoor
