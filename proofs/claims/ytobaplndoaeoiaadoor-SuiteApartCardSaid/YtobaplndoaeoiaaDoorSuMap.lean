/-
  suite's suites: the map of the five.
-/
import Derived.Test.YtobaplndoaeoiaaDoorSuM
import Derived.Test.YtobaplndoaeoiaaDoorRowRun
import Derived.Maps.OwnSet
namespace Go.Proofs.YtobaplndoaeoiaaDoor
open Go.RowKit Go.Maps

set_option maxRecDepth 100000
set_option maxHeartbeats 4000000

/-- What a suite is by. -/
def infoV (h k e t s : Nat) : Value := .agg #[.int .u8 h, .int .i64 k, .int .i64 e, .int .i64 t, .int .i64 s]
def infoN (n : Nat) : Value := infoV (hN n) (kN n) (eN n) (tN n) (sN n)
/-- How such a value reads: as its five numbers. -/
def infoR (v : Value) : Option (DataW Unit × List MemPlace) :=
  match v with
  | .agg a => match a.toList with
    | [.int .u8 h, .int .i64 k, .int .i64 e, .int .i64 t, .int .i64 s] => some (.agg [.lit (.int .u8 h), .lit (.int .i64 k), .lit (.int .i64 e), .lit (.int .i64 t), .lit (.int .i64 s)], [])
    | _ => none
  | _ => none
def infoD (h k e t s : Nat) : DataW Unit := .agg [.lit (.int .u8 h), .lit (.int .i64 k), .lit (.int .i64 e), .lit (.int .i64 t), .lit (.int .i64 s)]
theorem infoR_mk (h k e t s : Nat) : infoR (infoV h k e t s) = some (infoD h k e t s, []) := rfl
theorem infoR_inv {v : Value} {h k e t s : Nat} {ps : List MemPlace} (hv : infoR v = some (infoD h k e t s, ps)) : v = infoV h k e t s := by
  unfold infoR at hv
  split at hv
  · rename_i a
    split at hv
    · rename_i h' k' e' t' s' hl
      unfold infoD at hv
      simp only [Option.some.injEq, Prod.mk.injEq, DataW.agg.injEq, List.cons.injEq, DataW.lit.injEq, Lit.int.injEq, true_and, and_true] at hv
      obtain ⟨⟨rfl, rfl, rfl, rfl, rfl⟩, _⟩ := hv
      obtain ⟨l⟩ := a
      simp only at hl
      subst hl
      rfl
    · cases hv
  · cases hv
/-- The five, as they are read. -/
def suiteEs : List (Lit × DataW Unit) := [(.int .u16 1, infoD 1 48 16 10 32), (.int .u16 2, infoD 1 48 16 8 32), (.int .u16 3, infoD 1 48 16 4 32), (.int .u16 4, infoD 1 16 16 16 32), (.int .u16 5, infoD 2 32 32 16 64)]
def suiteMap (w : World) (B : Nat) : Prop := w.ownsMap Tryd.prog 22 infoR B 5 (.map suiteEs)
theorem key16 : Keyed Tryd.prog 22 := int_keyed (q := .u16) (by kernel_rfl)
theorem und_map : Tryd.prog.underlying 48 = some (.map 22 28) := by kernel_rfl
theorem und_u16 : Tryd.prog.underlying 22 = some (.int .u16) := by kernel_rfl
theorem map_next {w : World} {B n : Nat} {D : DataW Unit} (h : w.ownsMap Tryd.prog 22 infoR B n D) (hn : n < 5) (a : Int) (x : Nat) (ha : a = x) (hx : x < 10) (hh k e t s : Nat) :
    ∃ w', (Instr.mapUpdate 48 (.map (some B)) (.int .u16 a) (infoV hh k e t s)).run Tryd.prog w = .ok () w' ∧ w'.ownsMap Tryd.prog 22 infoR B (n + 1) (D.put (.int .u16 a) (infoD hh k e t s)) ∧ w.grownBy w' (some B) := by
  subst ha
  exact h.update key16 und_map (by unfold maxLen; omega) (keyOf_int_mk und_u16 (by simp [Lit.wf, IntKind.min, IntKind.max, IntKind.bits, IntKind.signed]; omega)) (infoR_mk hh k e t s)

theorem suites_any (w : World) : Calls Tryd.prog 15 #[] w fun e w' => ∃ B, e = .returned (.map (some B)) ∧ suiteMap w' B ∧ w.grownBy w' none := by
  have hmm := @run_makeMap Tryd.prog
  have o0 := World.ownsMap_made (H := Unit) w Tryd.prog 22 infoR
  have g0 := World.grownBy_alloc w (.map #[] 0) none
  obtain ⟨B, hB⟩ : ∃ B, B = w.heap.size := ⟨_, rfl⟩
  rw [← hB] at o0
  obtain ⟨w1, r1, o1, g1⟩ := map_next o0 (by decide) 1 1 rfl (by decide) 1 48 16 10 32
  obtain ⟨w2, r2, o2, g2⟩ := map_next o1 (by decide) 2 2 rfl (by decide) 1 48 16 8 32
  obtain ⟨w3, r3, o3, g3⟩ := map_next o2 (by decide) 3 3 rfl (by decide) 1 48 16 4 32
  obtain ⟨w4, r4, o4, g4⟩ := map_next o3 (by decide) 4 4 rfl (by decide) 1 16 16 16 32
  obtain ⟨w5, r5, o5, g5⟩ := map_next o4 (by decide) 5 5 rfl (by decide) 2 32 32 16 64
  have hS : suiteMap w5 B := o5
  have hbs : w.heap.size ≤ B := by omega
  have G := Lib.hid (grown_new (grown_new (grown_new (grown_new (grown_new g0 g1 hbs) g2 hbs) g3 hbs) g4 hbs) g5 hbs)
  have HS := Lib.hid hS
  unfold infoV at r1 r2 r3 r4 r5
  rw [hB] at r1 r2 r3 r4 r5
  have r1 : (Instr.mapUpdate 48 (.map (some w.heap.size)) (.int .u16 1) (.agg #[.int .u8 1, .int .i64 48, .int .i64 16, .int .i64 10, .int .i64 32])).run Tryd.prog (w.alloc (.map #[] 0)) = .ok () w1 := r1
  have r2 : (Instr.mapUpdate 48 (.map (some w.heap.size)) (.int .u16 2) (.agg #[.int .u8 1, .int .i64 48, .int .i64 16, .int .i64 8, .int .i64 32])).run Tryd.prog w1 = .ok () w2 := r2
  have r3 : (Instr.mapUpdate 48 (.map (some w.heap.size)) (.int .u16 3) (.agg #[.int .u8 1, .int .i64 48, .int .i64 16, .int .i64 4, .int .i64 32])).run Tryd.prog w2 = .ok () w3 := r3
  have r4 : (Instr.mapUpdate 48 (.map (some w.heap.size)) (.int .u16 4) (.agg #[.int .u8 1, .int .i64 16, .int .i64 16, .int .i64 16, .int .i64 32])).run Tryd.prog w3 = .ok () w4 := r4
  have r5 : (Instr.mapUpdate 48 (.map (some w.heap.size)) (.int .u16 5) (.agg #[.int .u8 2, .int .i64 32, .int .i64 32, .int .i64 16, .int .i64 64])).run Tryd.prog w4 = .ok () w5 := r5
  have HB := Lib.hid hB
  clear o0 g0 o1 g1 o2 g2 o3 g3 o4 g4 o5 g5 hS hbs hB
  go_enter Tryd.func15, Tryd.ntmps15
  go_wp2_with fail
  go_ret
  exact ⟨w.heap.size, rfl, by rw [← HB.out]; exact HS.out, G.out⟩
end Go.Proofs.YtobaplndoaeoiaaDoor
