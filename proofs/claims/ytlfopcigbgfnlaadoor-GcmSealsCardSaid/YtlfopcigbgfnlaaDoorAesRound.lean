/-
  A round of aes.
-/
import Derived.Test.YtlfopcigbgfnlaaDoorAesShift
namespace Go.Proofs.YtlfopcigbgfnlaaDoor
open Go.RowKit Go.Shelf

attribute [local go_sem] Oper.semAt_some

set_option maxRecDepth 100000
set_option maxHeartbeats 2000000

theorem grown_of_below {w w' : World} (h : Below w.heap.size w w') : w.grownBy w' none := ⟨h.os, h.tape, h.output, h.size, fun k hk _ => h.block k hk⟩

/-- What stands when some columns have been gone over. -/
structure InI (w : World) (m n : Nat) (f : Nat → Nat) (pre : List Idx) (W : World) : Prop where
  p : W.cell? ⟨w.heap.size, 0, none⟩ = some (.pointer (some ⟨m, 0, none⟩))
  q : W.cell? ⟨w.heap.size + 1, 0, none⟩ = some (.int .i64 n)
  nx : ∃ g, Holds W (w.heap.size + 1 + 1 + 1) 81 .u32 4 g ∧ ∀ x ∈ pre, g x.1 = f x.1
  gr : w.grownBy W none
theorem InI.own {w : World} {m n : Nat} {f : Nat → Nat} (B : Nat) (hB : w.heap.size + 5 ≤ B) : OwnFrom B (InI w m n f) := fun pre W W' row h hg hr => by
  have hne : ∀ k, k < w.heap.size + 5 → some k ≠ row := fun k hk e => by
    have := (hr k e.symm).1
    omega
  obtain ⟨g, hg1, hg2⟩ := h.nx
  exact ⟨hg.cell h.p (hne w.heap.size (by omega)), hg.cell h.q (hne (w.heap.size + 1) (by omega)), ⟨g, hg1.grown hg (hne _ (by omega)), hg2⟩, ⟨hg.os.trans h.gr.os, hg.tape.trans h.gr.tape, hg.output.trans h.gr.output, Nat.le_trans h.gr.size hg.size, fun k hk hr' => (hg.block k (Nat.lt_of_lt_of_le hk h.gr.size) (hne k (by omega))).trans (h.gr.block k hk hr')⟩⟩

theorem round_any (m R n : Nat) (C W s : Nat → Nat) (w : World) (hL : LaidS w 0) (hC : Ciph w m R C) (hCc : Cols (4 * (R + 1)) W C) (hs : ∀ i, s i < 256) (hW : ∀ i, W i < 256) (h1 : 1 ≤ n) (h2 : n ≤ R) (hR : R ≤ 14) :
    Calls Tryd.prog 50 #[.pointer (some ⟨m, 0, none⟩), .int .i64 n, .agg (cellsOf .u32 4 (colS s))] w fun e w' => e = .returned (.agg (cellsOf .u32 4 (colS (rndA (decide (n < R)) (fun j => W (16 * n + j)) s)))) ∧ w.grownBy w' none := by
  refine (callsIn_wide (n := 6)).1 ?_
  refine callsIn_of_wp_marks Tryd.func50 rfl trivial ?_ rfl
  simp only [Tryd.ntmps50, List.size_toArray, List.length_cons, List.length_nil, Nat.reduceAdd, Nat.reduceSub, Array.replicate_succ, Array.replicate_zero, List.push_toArray, List.append_toArray, List.nil_append, List.cons_append]
  refine wpIn_wide.2 ?_
  have hB2 : Holds (((w.alloc (.cells #[.pointer (some ⟨m, 0, none⟩)] 45)).alloc (.cells #[.int .i64 (n : Int)] 3)).alloc (.cells (cellsOf .u32 4 (colS s)) 81)) (w.heap.size + 1 + 1) 81 .u32 4 (colS s) := by
    have := holds_alloc ((w.alloc (.cells #[.pointer (some ⟨m, 0, none⟩)] 45)).alloc (.cells #[.int .i64 (n : Int)] 3)) 81 .u32 4 (colS s) _ rfl
    simpa using this
  have hB2b := (hB2.grown (World.grownBy_alloc _ (.cells #[.int .u32 0, .int .u32 0, .int .u32 0, .int .u32 0] 81) none) (by simp)).block
  go_wp2_with (first
    | refine wpList_load_row rfl 81 (.tmp 5) rfl (w.heap.size + 1 + 1) rfl 81 _ (0, 0) (.array 4 56) hB2b (by kernel_rfl) rfl (by rw [cellsOf_size]; kernel_rfl) ?_
    | (go_at_call 56; (with_reducible refine (shifted_any (colS s) _).mono ?_); rintro e w' ⟨rfl, rfl⟩))
  refine (wpIn_wide (n := 6)).1 ?_
  have hB4 : Holds (((((w.alloc (.cells #[.pointer (some ⟨m, 0, none⟩)] 45)).alloc (.cells #[.int .i64 (n : Int)] 3)).alloc (.cells (cellsOf .u32 4 (colS s)) 81)).alloc (.cells #[.int .u32 0, .int .u32 0, .int .u32 0, .int .u32 0] 81)).alloc (.cells (cellsOf .u32 4 (colS s)) 81)) (w.heap.size + 1 + 1 + 1 + 1) 81 .u32 4 (colS s) := by
    have := holds_alloc ((((w.alloc (.cells #[.pointer (some ⟨m, 0, none⟩)] 45)).alloc (.cells #[.int .i64 (n : Int)] 3)).alloc (.cells (cellsOf .u32 4 (colS s)) 81)).alloc (.cells #[.int .u32 0, .int .u32 0, .int .u32 0, .int .u32 0] 81)) 81 .u32 4 (colS s) _ rfl
    simpa using this
  have hB3 : Holds (((((w.alloc (.cells #[.pointer (some ⟨m, 0, none⟩)] 45)).alloc (.cells #[.int .i64 (n : Int)] 3)).alloc (.cells (cellsOf .u32 4 (colS s)) 81)).alloc (.cells #[.int .u32 0, .int .u32 0, .int .u32 0, .int .u32 0] 81)).alloc (.cells (cellsOf .u32 4 (colS s)) 81)) (w.heap.size + 1 + 1 + 1) 81 .u32 4 (fun _ => 0) := by
    have := holds_alloc (((w.alloc (.cells #[.pointer (some ⟨m, 0, none⟩)] 45)).alloc (.cells #[.int .i64 (n : Int)] 3)).alloc (.cells (cellsOf .u32 4 (colS s)) 81)) 81 .u32 4 (fun _ => 0) #[.int .u32 0, .int .u32 0, .int .u32 0, .int .u32 0] rfl
    have := this.grown (World.grownBy_alloc _ (.cells (cellsOf .u32 4 (colS s)) 81) none) (by simp)
    simpa using this
  have hP : (((((w.alloc (.cells #[.pointer (some ⟨m, 0, none⟩)] 45)).alloc (.cells #[.int .i64 (n : Int)] 3)).alloc (.cells (cellsOf .u32 4 (colS s)) 81)).alloc (.cells #[.int .u32 0, .int .u32 0, .int .u32 0, .int .u32 0] 81)).alloc (.cells (cellsOf .u32 4 (colS s)) 81)).cell? ⟨w.heap.size, 0, none⟩ = some (.pointer (some ⟨m, 0, none⟩)) := by
    have c0 : (w.alloc (.cells #[.pointer (some ⟨m, 0, none⟩)] 45)).cell? ⟨w.heap.size, 0, none⟩ = some (.pointer (some ⟨m, 0, none⟩)) := by rw [cell_of_row _ _ _ _ _ _ (heap_alloc_new w _)]; rfl
    exact (grown_alloc (grown_alloc (grown_alloc (World.grownBy_alloc (w.alloc (.cells #[.pointer (some ⟨m, 0, none⟩)] 45)) _ none) _) _) _).cell c0 (by simp)
  have hQ : (((((w.alloc (.cells #[.pointer (some ⟨m, 0, none⟩)] 45)).alloc (.cells #[.int .i64 (n : Int)] 3)).alloc (.cells (cellsOf .u32 4 (colS s)) 81)).alloc (.cells #[.int .u32 0, .int .u32 0, .int .u32 0, .int .u32 0] 81)).alloc (.cells (cellsOf .u32 4 (colS s)) 81)).cell? ⟨w.heap.size + 1, 0, none⟩ = some (.int .i64 n) := by
    have c0 : ((w.alloc (.cells #[.pointer (some ⟨m, 0, none⟩)] 45)).alloc (.cells #[.int .i64 (n : Int)] 3)).cell? ⟨w.heap.size + 1, 0, none⟩ = some (.int .i64 n) := by rw [cell_of_row _ _ _ _ _ _ (heap_alloc2_new w _ _)]; rfl
    exact (grown_alloc (grown_alloc (World.grownBy_alloc ((w.alloc (.cells #[.pointer (some ⟨m, 0, none⟩)] 45)).alloc (.cells #[.int .i64 (n : Int)] 3)) _ none) _) _).cell c0 (by simp)
  have hG : w.grownBy (((((w.alloc (.cells #[.pointer (some ⟨m, 0, none⟩)] 45)).alloc (.cells #[.int .i64 (n : Int)] 3)).alloc (.cells (cellsOf .u32 4 (colS s)) 81)).alloc (.cells #[.int .u32 0, .int .u32 0, .int .u32 0, .int .u32 0] 81)).alloc (.cells (cellsOf .u32 4 (colS s)) 81)) none :=
    grown_alloc (grown_alloc (grown_alloc (grown_alloc (World.grownBy_alloc w _ none) _) _) _) _
  have hZ : (((((w.alloc (.cells #[.pointer (some ⟨m, 0, none⟩)] 45)).alloc (.cells #[.int .i64 (n : Int)] 3)).alloc (.cells (cellsOf .u32 4 (colS s)) 81)).alloc (.cells #[.int .u32 0, .int .u32 0, .int .u32 0, .int .u32 0] 81)).alloc (.cells (cellsOf .u32 4 (colS s)) 81)).heap.size = w.heap.size + 5 := by simp
  clear hB2 hB2b
  generalize (((((w.alloc (.cells #[.pointer (some ⟨m, 0, none⟩)] 45)).alloc (.cells #[.int .i64 (n : Int)] 3)).alloc (.cells (cellsOf .u32 4 (colS s)) 81)).alloc (.cells #[.int .u32 0, .int .u32 0, .int .u32 0, .int .u32 0] 81)).alloc (.cells (cellsOf .u32 4 (colS s)) 81)) = W0 at *
  have HZ := Lib.hid hZ
  refine wpIn_rangeFunc_ownF rfl (by decide) (gf := 58) (lb := #[.pointer (some ⟨w.heap.size + 1 + 1 + 1 + 1, 0, none⟩)]) rfl trivial (enters_of Tryd.func58 (by kernel_rfl) rfl)
    (shift_stops (6 - 1) (w.heap.size + 1 + 1 + 1 + 1) s hs (by decide) W0 hB4) (fun h k => k.trans h) (fun A l o o' hl _ _ _ => World.putObj_heap_other (by omega)) (Below.refl _ _) (fun _ => rfl)
    (InI w m n (colS (rndA (decide (n < R)) (fun j => W (16 * n + j)) s))) (fun _ _ _ => False) (InI.own _ (by omega)) (fun _ _ _ _ _ hs _ _ => hs)
    ⟨hP, hQ, ⟨_, hB3, fun x hx => by cases hx⟩, hG⟩
    (fun x => { tmps := #[.pointer (some ⟨m, 0, none⟩), .int .i64 n, .agg (cellsOf .u32 4 (colS s)), .pointer (some ⟨w.heap.size, 0, none⟩), .pointer (some ⟨w.heap.size + 1, 0, none⟩), .pointer (some ⟨w.heap.size + 1 + 1, 0, none⟩), .pointer (some ⟨w.heap.size + 1 + 1 + 1, 0, none⟩), .int .i64 (x.1 : Int), .int .u32 (shC s x.1 : Nat), .agg (cellsOf .u32 4 (colS s)), .func (.func 58) #[] #[.pointer (some ⟨w.heap.size + 1 + 1 + 1 + 1, 0, none⟩)], .int .i64 (x.1 : Int), .int .u32 (shC s x.1 : Nat), undef, undef, undef, undef, undef, undef, undef, undef, undef, undef, undef, undef, undef, undef, undef, undef, undef, undef, undef, undef, undef, undef, undef, undef], defers := [] }) ?assign ?body ?done ?stop
  case assign =>
    intro l x W' K hK
    unfold encC
    gi_wp2
    exact hK
  case body =>
    rintro l pre ⟨k, hk⟩ W' hI _
    have hLr := hL.grown hI.gr (by simp)
    have hCr := hC.grown hI.gr (by simp)
    obtain ⟨g, hg1, hg2⟩ := hI.nx
    have hp := hI.p
    have hq := hI.q
    have hgr := hI.gr
    have n14 : n ≤ 14 := by omega
    have j1 : (k : Int) < 4 := by omega
    have j2 : (0 : Int) ≤ n := by omega
    have j3 : (n : Int) ≤ 14 := by omega
    have hS : ∀ A, LaidS A 0 → Calls Tryd.prog 44 #[.int .u32 (shC s k : Nat)] A fun e w' => e = .returned (.int .u32 (colS (subShift s) k : Nat)) ∧ A = w' := fun A hA => by
      rw [colS_sub s k hk]
      exact substituted_any _ _ _ _ A hA (hs _) (hs _) (hs _) (hs _)
    have hM : ∀ A, Calls Tryd.prog 57 #[.int .u32 (colS (subShift s) k : Nat)] A fun e w' => e = .returned (.int .u32 (colS (mixOf (subShift s)) k : Nat)) ∧ A = w' := fun A => by
      rw [colS_mix _ k hk]
      exact mixed_any _ _ _ _ A (subShift_lt s _) (subShift_lt s _) (subShift_lt s _) (subShift_lt s _)
    have hK : colS (fun j => W (16 * n + j)) k = C (4 * n + k) := by
      rw [hCc.eq _ (by omega)]
      unfold colS
      simp only [show 16 * n + 4 * k = 4 * (4 * n + k) by omega, show 16 * n + (4 * k + 1) = 4 * (4 * n + k) + 1 by omega, show 16 * n + (4 * k + 2) = 4 * (4 * n + k) + 2 by omega, show 16 * n + (4 * k + 3) = 4 * (4 * n + k) + 3 by omega]
    have hr := colS_rnd (decide (n < R)) (fun j => W (16 * n + j)) s (fun _ => hW _) k
    rw [hK] at hr
    have hCl : C (4 * n + k) < 2 ^ 32 := by rw [← hK]; exact colS_lt _ (fun _ => hW _) k
    have v1l : colS (subShift s) k < 2 ^ 32 := colS_lt _ (subShift_lt s) k
    have v2l : colS (mixOf (subShift s)) k < 2 ^ 32 := colS_lt _ (fun i => mixOf_lt _ (subShift_lt s) i) k
    obtain ⟨q, hqn⟩ : ∃ q, q = 4 * n + k := ⟨_, rfl⟩
    rw [← hqn] at hr hCl
    have cK := hCr.cols q (by omega)
    have hRr := hCr.rounds
    have cqd : IntKind.i64.wrap (4 * (n : Int) + (k : Int)) = (q : Int) := by rw [IntKind.wrap_i64]; omega
    have cq4 : IntKind.i64.wrap (4 * (n : Int)) = 4 * (n : Int) := by rw [IntKind.wrap_i64]; omega
    have cqe : 4 * (n : Int) + (k : Int) = (q : Int) := by omega
    have cqq : IntKind.i64.wrap (q : Int) = (q : Int) := by rw [IntKind.wrap_i64]; omega
    have q60 : (q : Int) < 60 := by omega
    have cG := hg1.cell k hk
    have fG := hg1.frozen k
    have HS := Lib.hid hS
    have HM := Lib.hid hM
    have Hqn := Lib.hid hqn
    have Hg2 := Lib.hid hg2
    clear hS hM hqn hg2 hI
    by_cases hmix : n < R
    · have i1 : (n : Int) < R := by omega
      have hx : bits .xor .u32 ((colS (mixOf (subShift s)) k : Nat) : Int) (C q : Int) = ((colS (rndA (decide (n < R)) (fun j => W (16 * n + j)) s) k : Nat) : Int) := by
        rw [hr, show decide (n < R) = true by simpa using hmix]
        exact bits_xor_u32 _ _ v2l hCl
      obtain ⟨v3, hv3⟩ : ∃ v, v = colS (rndA (decide (n < R)) (fun j => W (16 * n + j)) s) k := ⟨_, rfl⟩
      rw [← hv3] at hx
      have Hv3 := Lib.hid hv3
      clear hr v1l v2l hCl hv3 hK
      gi_wp2_with (refine ⟨trivial, ?_⟩; gi_at_call 44; (refine (CallsIn.inRound l (callsIn_wide.2 (HS.out _ hLr))).mono ?_); rintro e w' ⟨rfl, rfl⟩)
      refine wpIn_region_still_tail 5 (by kernel_rfl) (by kernel_rfl) (by kernel_rfl) (by rintro ⟨_, _, h⟩; exact h) ?_
      have hpd : W'.drew.cell? ⟨w.heap.size, 0, none⟩ = some (.pointer (some ⟨m, 0, none⟩)) := hp
      have hqd : W'.drew.cell? ⟨w.heap.size + 1, 0, none⟩ = some (.int .i64 n) := hq
      have hRd : W'.drew.cell? ⟨m, 0, none⟩ = some (.int .i64 (R : Nat)) := hRr
      have cKd : W'.drew.drew.cell? ⟨m, 1 + q, none⟩ = some (.int .u32 (C q : Nat)) := cK
      have hpe : W'.drew.drew.cell? ⟨w.heap.size, 0, none⟩ = some (.pointer (some ⟨m, 0, none⟩)) := hp
      have hqe : W'.drew.drew.cell? ⟨w.heap.size + 1, 0, none⟩ = some (.int .i64 n) := hq
      have cGe : W'.drew.drew.cell? ⟨w.heap.size + 1 + 1 + 1, k, none⟩ = some (.int .u32 (g k : Nat)) := cG
      have fGe : W'.drew.drew.frozen? ⟨w.heap.size + 1 + 1 + 1, k, none⟩ = false := fG
      change wpStill _ _ W'.drew (fun a' => wpList _ _ _ _ a' W'.drew) _ _
      have hgr2 := grown_drew (grown_drew hgr)
      have hg12 := hg1.drew.drew
      have hb2 : W'.drew.drew.heap = W'.heap := rfl
      have hks : KeepsOthers W' W'.drew.drew := ⟨Nat.le_refl _, fun _ _ h _ => h⟩
      simp only [List.take_succ_cons, List.take_zero, List.drop_succ_cons, List.drop_zero]
      repeat still_step
      refine wpStill_nil ?_
      go_wp2_with fail
      gi_wp2_with (refine ⟨trivial, ?_⟩; gi_at_call 57; (refine (CallsIn.inRound l (callsIn_wide.2 (HM.out _))).mono ?_); rintro e w' ⟨rfl, rfl⟩)
      refine wpIn_region_still_tail 13 (by kernel_rfl) (by kernel_rfl) (by kernel_rfl) (by rintro ⟨_, _, h⟩; exact h) ?_
      change wpStill _ _ W'.drew.drew (fun a' => wpList _ _ _ _ a' W'.drew.drew) _ _
      generalize W'.drew.drew = W2 at *
      simp only [List.take_succ_cons, List.take_zero, List.drop_succ_cons, List.drop_zero]
      repeat still_step
      refine wpStill_nil ?_
      clear cqd cq4 cqe cqq
      have hfin : KeepsOthers W' (W2.setCell ⟨w.heap.size + 1 + 1 + 1, k, none⟩ (.int .u32 (v3 : Nat))) ∧ KeepB (w.heap.size + 1 + 1 + 1 + 1) W' (W2.setCell ⟨w.heap.size + 1 + 1 + 1, k, none⟩ (.int .u32 (v3 : Nat))) ∧
          InI w m n (colS (rndA (decide (n < R)) (fun j => W (16 * n + j)) s)) (pre ++ [⟨k, hk⟩]) (W2.setCell ⟨w.heap.size + 1 + 1 + 1, k, none⟩ (.int .u32 (v3 : Nat))) := by
        refine ⟨hks.trans (KeepsOthers.setCell _ _ _), ?_, cell_set hpe ?_, cell_set hqe ?_, ⟨upd g k v3, hg12.set k v3, fun x hx => ?_⟩, grown_setCell_new hgr2 _ _ (Or.inl (by show w.heap.size ≤ w.heap.size + 1 + 1 + 1; omega))⟩
        · show _ = _
          rw [heap_setCell_other _ _ _ _ (by show w.heap.size + 1 + 1 + 1 + 1 ≠ w.heap.size + 1 + 1 + 1; omega), hb2]
        · intro e; injection e with e; omega
        · intro e; injection e with e; omega
        · by_cases e : x.1 = k
          · rw [e, upd_same]; exact Hv3.out
          · rw [upd_other _ _ _ _ e]
            rcases List.mem_append.1 hx with hx | hx
            · exact Hg2.out x hx
            · simp at hx
              rw [hx] at e
              exact absurd rfl e
      have HFin := Lib.hid hfin
      clear hfin hpe hqe hg12 hgr2 hks hb2
      go_wp2_with fail
      exact HFin.out
    · have i1 : (R : Int) ≤ n := by omega
      have hx : bits .xor .u32 ((colS (subShift s) k : Nat) : Int) (C q : Int) = ((colS (rndA (decide (n < R)) (fun j => W (16 * n + j)) s) k : Nat) : Int) := by
        rw [hr, show decide (n < R) = false by simpa using hmix]
        exact bits_xor_u32 _ _ v1l hCl
      obtain ⟨v3, hv3⟩ : ∃ v, v = colS (rndA (decide (n < R)) (fun j => W (16 * n + j)) s) k := ⟨_, rfl⟩
      rw [← hv3] at hx
      have Hv3 := Lib.hid hv3
      clear hr v1l v2l hCl hv3 hK
      gi_wp2_with (refine ⟨trivial, ?_⟩; gi_at_call 44; (refine (CallsIn.inRound l (callsIn_wide.2 (HS.out _ hLr))).mono ?_); rintro e w' ⟨rfl, rfl⟩)
      refine wpIn_region_still_tail 5 (by kernel_rfl) (by kernel_rfl) (by kernel_rfl) (by rintro ⟨_, _, h⟩; exact h) ?_
      have hpd : W'.drew.cell? ⟨w.heap.size, 0, none⟩ = some (.pointer (some ⟨m, 0, none⟩)) := hp
      have hqd : W'.drew.cell? ⟨w.heap.size + 1, 0, none⟩ = some (.int .i64 n) := hq
      have hRd : W'.drew.cell? ⟨m, 0, none⟩ = some (.int .i64 (R : Nat)) := hRr
      have cKd : W'.drew.drew.cell? ⟨m, 1 + q, none⟩ = some (.int .u32 (C q : Nat)) := cK
      have hpe : W'.drew.drew.cell? ⟨w.heap.size, 0, none⟩ = some (.pointer (some ⟨m, 0, none⟩)) := hp
      have hqe : W'.drew.drew.cell? ⟨w.heap.size + 1, 0, none⟩ = some (.int .i64 n) := hq
      have cGe : W'.drew.drew.cell? ⟨w.heap.size + 1 + 1 + 1, k, none⟩ = some (.int .u32 (g k : Nat)) := cG
      have fGe : W'.drew.drew.frozen? ⟨w.heap.size + 1 + 1 + 1, k, none⟩ = false := fG
      change wpStill _ _ W'.drew (fun a' => wpList _ _ _ _ a' W'.drew) _ _
      have hgr2 := grown_drew (grown_drew hgr)
      have hg12 := hg1.drew.drew
      have hb2 : W'.drew.drew.heap = W'.heap := rfl
      have hks : KeepsOthers W' W'.drew.drew := ⟨Nat.le_refl _, fun _ _ h _ => h⟩
      simp only [List.take_succ_cons, List.take_zero, List.drop_succ_cons, List.drop_zero]
      repeat still_step
      refine wpStill_nil ?_
      go_wp2_with fail
      gi_wp2
      refine wpIn_region_still_tail 13 (by kernel_rfl) (by kernel_rfl) (by kernel_rfl) (by rintro ⟨_, _, h⟩; exact h) ?_
      change wpStill _ _ W'.drew.drew (fun a' => wpList _ _ _ _ a' W'.drew.drew) _ _
      generalize W'.drew.drew = W2 at *
      simp only [List.take_succ_cons, List.take_zero, List.drop_succ_cons, List.drop_zero]
      repeat still_step
      refine wpStill_nil ?_
      clear cqd cq4 cqe cqq
      have hfin : KeepsOthers W' (W2.setCell ⟨w.heap.size + 1 + 1 + 1, k, none⟩ (.int .u32 (v3 : Nat))) ∧ KeepB (w.heap.size + 1 + 1 + 1 + 1) W' (W2.setCell ⟨w.heap.size + 1 + 1 + 1, k, none⟩ (.int .u32 (v3 : Nat))) ∧
          InI w m n (colS (rndA (decide (n < R)) (fun j => W (16 * n + j)) s)) (pre ++ [⟨k, hk⟩]) (W2.setCell ⟨w.heap.size + 1 + 1 + 1, k, none⟩ (.int .u32 (v3 : Nat))) := by
        refine ⟨hks.trans (KeepsOthers.setCell _ _ _), ?_, cell_set hpe ?_, cell_set hqe ?_, ⟨upd g k v3, hg12.set k v3, fun x hx => ?_⟩, grown_setCell_new hgr2 _ _ (Or.inl (by show w.heap.size ≤ w.heap.size + 1 + 1 + 1; omega))⟩
        · show _ = _
          rw [heap_setCell_other _ _ _ _ (by show w.heap.size + 1 + 1 + 1 + 1 ≠ w.heap.size + 1 + 1 + 1; omega), hb2]
        · intro e; injection e with e; omega
        · intro e; injection e with e; omega
        · by_cases e : x.1 = k
          · rw [e, upd_same]; exact Hv3.out
          · rw [upd_other _ _ _ _ e]
            rcases List.mem_append.1 hx with hx | hx
            · exact Hg2.out x hx
            · simp at hx
              rw [hx] at e
              exact absurd rfl e
      have HFin := Lib.hid hfin
      clear hfin hpe hqe hg12 hgr2 hks hb2
      go_wp2_with fail
      exact HFin.out
  case done =>
    rintro D xs W' hD rfl hI hK
    obtain ⟨g, hg1, hg2⟩ := hI.nx
    have hgr := hI.gr
    have hall : ∀ j, j < 4 → g j = colS (rndA (decide (n < R)) (fun j => W (16 * n + j)) s) j := fun j hj => by
      have := hg2 (idx j) (by unfold upTo; exact List.mem_map.2 ⟨j, List.mem_range.2 hj, rfl⟩)
      rwa [idx_of j hj] at this
    have hH := hg1.congr hall
    have hDw : w.heap.size + 5 ≤ D := by have := HZ.out; omega
    clear hI hg1 hg2 hall hP hQ hB3 hB4 hG hZ
    obtain ⟨f, hf⟩ : ∃ f, f = colS (rndA (decide (n < R)) (fun j => W (16 * n + j)) s) := ⟨_, rfl⟩
    rw [← hf] at hH
    have Hf := Lib.hid hf
    clear hf
    have hKs : (W'.setRow (w.heap.size + 1 + 1 + 1) (cellsOf .u32 4 f)).heap[D]? = some (.deferred (some [])) := (setRow_other W' _ D _ (by omega)).trans hK
    have hHs := (hH.setRow .u32 4 f).grown (grownBy_putObj' _ D (.deferred none)) (by intro e; injection e with e; omega)
    have hgs := grown_new (grown_setRow_new hgr (w.heap.size + 1 + 1 + 1) (cellsOf .u32 4 f) (Or.inl (by omega))) (grownBy_putObj' _ D (.deferred none)) (by omega)
    have HKs := Lib.hid hKs
    have HHs := Lib.hid hHs
    have HGs := Lib.hid hgs
    clear hKs hHs hgs hK
    go_wp2_with (first
      | refine wpList_load_row rfl 81 (.tmp 6) rfl (w.heap.size + 1 + 1 + 1) rfl 81 _ (0, 0) (.array 4 56) hH.block (by kernel_rfl) rfl (by rw [cellsOf_size]; kernel_rfl) ?_
      | refine wpList_store_row rfl 81 (.tmp 6) (.tmp 36) rfl (w.heap.size + 1 + 1 + 1) _ rfl rfl 81 _ hH.block (by rw [cellsOf_size]; kernel_rfl) rfl (cellsOf_all _ _ _) ?_)
    refine ⟨by simp, .inl ⟨_, _, rfl, run_takeDeferred HKs.out, ?_⟩⟩
    exact ⟨.agg (cellsOf .u32 4 f), results_cell_row rfl _ _ (w.heap.size + 1 + 1 + 1) 81 _ (0, 0) (.array 4 56) rfl HHs.out.block (by kernel_rfl) rfl (by rw [cellsOf_size]; kernel_rfl), by rw [Hf.out], HGs.out⟩
  case stop =>
    rintro D c pre W' _ _ h _
    exact h.elim

end Go.Proofs.YtlfopcigbgfnlaaDoor
