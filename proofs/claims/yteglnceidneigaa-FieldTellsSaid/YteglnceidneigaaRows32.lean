/-
  A slice literal of seven rows of 32 bytes; a row out of its midst.
-/
import Derived.Test.YteglnceidneigaaRunB32
import Derived.Test.YteglnceidneigaaRd
import Derived.Test.YteglnceidneigaaOrd
import Derived.Great.BuildSlice
import Derived.Deep.MidRow
namespace Go.Proofs.Yteglnceidneigaa
open Go.RowKit

set_option maxRecDepth 100000

/-- Seven rows of 32 bytes at block B. -/
structure Rows32 (W : World) (B : Nat) (G : Nat → Nat → Nat) : Prop where
  cell : ∀ i j, i < 7 → j < 32 → W.cell? ⟨B, 32 * i + j, none⟩ = some (.int .u8 (G i j : Nat))
theorem Rows32.lt {W : World} {B : Nat} {G : Nat → Nat → Nat} (h : Rows32 W B G) : B < W.heap.size := World.block_lt_of_cell? W _ (h.cell 0 0 (by decide) (by decide))
theorem Rows32.grown {W W' : World} {B : Nat} {G : Nat → Nat → Nat} (h : Rows32 W B G) (g : W.grownBy W' none) : Rows32 W' B G :=
  ⟨fun i j hi hj => (World.cell?_of_block (a := ⟨B, 32 * i + j, none⟩) (g.block B h.lt (by simp))).trans (h.cell i j hi hj)⟩

theorem build_rows32 (G : Nat → Nat → Nat) (W : World) : ∃ cs, (Instr.buildSlice 39 7 #[(0, .agg (cellsOf .u8 32 (G 0))), (1, .agg (cellsOf .u8 32 (G 1))), (2, .agg (cellsOf .u8 32 (G 2))), (3, .agg (cellsOf .u8 32 (G 3))), (4, .agg (cellsOf .u8 32 (G 4))), (5, .agg (cellsOf .u8 32 (G 5))), (6, .agg (cellsOf .u8 32 (G 6)))]).run Try.prog W =
    .ok (.slice (some ⟨W.heap.size, 0, none⟩) 7 7) (W.alloc (.cells cs 22)) ∧ Rows32 (W.alloc (.cells cs 22)) W.heap.size G := by
  have hsz : (Try.prog.info? 22).map (·.size) = some 32 := by kernel_rfl
  have hz : ((Try.prog.info? 22).bind (·.zero)).isSome = true := by kernel_rfl
  cases hie : Try.prog.info? 22 with
  | none => rw [hie] at hsz; cases hsz
  | some ie =>
    rw [hie] at hsz hz
    have hs : ie.size = 32 := by simpa using hsz
    cases hze : ie.zero with
    | none => rw [Option.bind_some, hze] at hz; cases hz
    | some z =>
      obtain ⟨vs, hvs⟩ : ∃ vs : List Value, vs = (List.range 7).map fun i => Value.agg (cellsOf .u8 32 (G i)) := ⟨_, rfl⟩
      have hlen : vs.length = 7 := by rw [hvs]; simp
      have hc : ∀ v ∈ vs, v.cells.size = 32 := fun v hv => by
        rw [hvs] at hv
        obtain ⟨i, _, rfl⟩ := List.mem_map.1 hv
        exact cellsOf_size .u8 32 (G i)
      obtain ⟨r, h1, h2, h3⟩ := Go.Great.fill_dense (s := 32) (by decide) vs 0 ((Array.range (7 * ie.size)).map (z.cells[· % z.cells.size]!)) hc (by rw [hlen, Array.size_map, Array.size_range, hs]; decide)
      have hp : (#[(0, .agg (cellsOf .u8 32 (G 0))), (1, .agg (cellsOf .u8 32 (G 1))), (2, .agg (cellsOf .u8 32 (G 2))), (3, .agg (cellsOf .u8 32 (G 3))), (4, .agg (cellsOf .u8 32 (G 4))), (5, .agg (cellsOf .u8 32 (G 5))), (6, .agg (cellsOf .u8 32 (G 6)))] : Array (Nat × Value)).toList = (vs.zipIdx 0).map fun x => (x.2, x.1) := by
        rw [hvs]
        rfl
      refine ⟨r, run_buildSlice (P := Try.prog) W 39 22 7 _ r ie z (by kernel_rfl) hie hze (by rw [hs]; decide) (by rw [hs]; decide) (by rw [hp, hs]; rw [hs] at h1; exact h1), ⟨fun i j hi hj => ?_⟩⟩
      rw [cell_of_row _ _ _ _ _ _ (heap_alloc_new W _), h3 (32 * i + j), if_pos (by rw [hlen]; omega), show (32 * i + j) / 32 - 0 = i by omega, show (32 * i + j) % 32 = j by omega, hvs]
      rw [List.getElem?_map, List.getElem?_range hi]
      exact cellsOf_get .u8 32 (G i) j hj

theorem run_b32_mid {o : Oper} {a : Act} {W : World} {B i : Nat} {G : Nat → Nat → Nat} {t : Tmp} (h : Rows32 W B G) (hi : i < 7) (ho : o.op = .load 22 (.tmp t)) (ha : a.eval (.tmp t) = .pointer (some ⟨B, 32 * i, none⟩)) :
    (execOp a.eval o).run Try.prog W = .ok (.value (.agg (cellsOf .u8 32 (G i)))) W := by
  have hl := run_loadAt_mid (P := Try.prog) W B (32 * i) 22 (cellsOf .u8 32 (G i)).toList (.array 32 5) (fun j v hv => by
    rw [Array.getElem?_toList] at hv
    have hj : j < 32 := by
      have := (Array.getElem?_eq_some_iff.1 hv).1
      rwa [cellsOf_size] at this
    rw [cellsOf_get _ _ _ _ hj] at hv
    cases hv
    exact h.cell i j hi hj) (by kernel_rfl) rfl (by rw [Array.length_toList, cellsOf_size]; kernel_rfl)
  rw [Array.toArray_toList] at hl
  unfold execOp
  simp only [ho, ha, Sem.run_bind, Sem.run_pure, Result.andThen_ok, hl]
theorem wpList_b32_mid {ops : Array Oper} {Q : Exit → Act → World → Prop} {rest : List Oper} {o : Oper} {a : Act} {w : World} {B off i : Nat} {G : Nat → Nat → Nat} (hgd : o.guard = none) (t : Tmp) (ho : o.op = .load 22 (.tmp t))
    (hx : a.eval (.tmp t) = .pointer (some ⟨B, off, none⟩)) (hoff : off = 32 * i) (hi : i < 7) (h : Rows32 w B G) (hk : wpList Try.prog ops Q rest (a.put o.dst (.agg (cellsOf .u8 32 (G i)))) w) : wpList Try.prog ops Q (o :: rest) a w :=
  wpList_plain hgd fun _ hK => wp_yields (run_b32_mid h hi ho (by rw [hx, hoff])) (hK _ _ hk)
theorem run_build7 {o : Oper} {a : Act} {W W' : World} {v : Value} {T : TypeId} {v0 v1 v2 v3 v4 v5 v6 : Value} (t0 t1 t2 t3 t4 t5 t6 : Nat) (ho : o.op = .buildSlice T 7 #[(0, .tmp t0), (1, .tmp t1), (2, .tmp t2), (3, .tmp t3), (4, .tmp t4), (5, .tmp t5), (6, .tmp t6)])
    (h0 : a.eval (.tmp t0) = v0) (h1 : a.eval (.tmp t1) = v1) (h2 : a.eval (.tmp t2) = v2) (h3 : a.eval (.tmp t3) = v3) (h4 : a.eval (.tmp t4) = v4) (h5 : a.eval (.tmp t5) = v5) (h6 : a.eval (.tmp t6) = v6)
    (hb : (Instr.buildSlice T 7 #[(0, v0), (1, v1), (2, v2), (3, v3), (4, v4), (5, v5), (6, v6)]).run Try.prog W = .ok v W') : (execOp a.eval o).run Try.prog W = .ok (.value v) W' := by
  unfold execOp
  simp only [ho, List.map_toArray, List.map_cons, List.map_nil, h0, h1, h2, h3, h4, h5, h6, Sem.run_bind, hb, Result.andThen_ok]
  rfl
theorem Holds.rd32 {w : World} {B : Nat} {f : Nat → Nat} (h : Holds w B 22 .u8 32 f) : Rd w w.heap.size (some ⟨B, 0, none⟩) 32 f := ⟨fun _ => ⟨B, 0, rfl, h.lt, fun i hi => by rw [Nat.zero_add]; exact h.cell i hi⟩⟩
end Go.Proofs.Yteglnceidneigaa
