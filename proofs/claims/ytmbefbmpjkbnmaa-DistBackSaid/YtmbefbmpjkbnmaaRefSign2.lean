/-
  The reference's Id, Key, OfId, OfKey.
-/
import Derived.Test.YtmbefbmpjkbnmaaOutRd
import Derived.Test.YtmbefbmpjkbnmaaGave
namespace Go.Proofs.Ytmbefbmpjkbnmaa
open Go.RowKit

set_option maxRecDepth 100000
set_option maxHeartbeats 4000000

theorem OwnN.congr {w : World} {b : Nat} {v : Value} {n : Nat} {f g : Nat → Nat} (h : OwnN w b v n f) (e : ∀ i, i < n → f i = g i) : OwnN w b v n g := by
  rcases h.ex with h | ⟨q, cap, h1, h2, h3⟩
  · exact ⟨Or.inl h⟩
  · exact ⟨Or.inr ⟨q, cap, h1, h2.congr e, h3⟩⟩
theorem sgId_any (f : Nat → Nat) (w : World) : Calls Try.prog 54 #[.agg (cellsOf .u8 16 f)] w (GaveN w 16 f) := by
  have hA := holds_alloc w 23 .u8 16 f _ rfl
  have ga := World.grownBy_alloc w (.cells (cellsOf .u8 16 f) 23) none
  have hz := World.size_alloc w (.cells (cellsOf .u8 16 f) 23)
  go_enter Try.func54, Try.ntmps54
  go_wp2_with fail
  generalize w.alloc (.cells (cellsOf .u8 16 f) 23) = w1 at *
  obtain ⟨B, hB⟩ : ∃ B, B = w.heap.size := ⟨_, rfl⟩
  rw [← hB] at hA ⊢
  have HA := Lib.hid hA
  have GA := Lib.hid ga
  have HZ := Lib.hid hz
  clear hA ga hz hB
  go_loopw [3, 4] (fun u3 u4 wr => ∃ (i c : Nat) (a : Option Addr), i ≤ 16 ∧ u3 = .slice a i c ∧ u4 = .int .i64 i ∧ OwnN wr w1.heap.size (.slice a i c) i f ∧ w1.grownBy wr none) (fun _ u4 _ => 16 - (intOf u4).toNat)
  case atStart => exact ⟨0, 0, none, Nat.zero_le _, rfl, rfl, OwnN.nil _ _ _, grown_refl _ _⟩
  case round =>
    obtain ⟨i, c, a, hi, rfl, rfl, hO, gr⟩ := hrel
    by_cases hlt : i < 16
    · have j1 : (i : Int) < 16 := by omega
      have c0 := (HA.out.grown gr (by have := HA.out.lt; simp)).cell i hlt
      have g1 := World.grownBy_alloc wr (.cells #[.int .u8 (f i : Nat)] 5) none
      obtain ⟨a2, c2, w2, hap, hO2, hg2, _⟩ := app_N1 1 39 (grown_trans gr g1) (hO.grown g1) (rd_one wr (f i) (wr.heap.size + 1) (by omega)) (by omega)
      have HAP := Lib.hid hap
      have HO2 : Hid (OwnN w2 w1.heap.size (.slice a2 (i + 1) c2) (i + 1) f) := hO2.congr (fun j hj => by
        unfold cat
        by_cases e : j < i
        · rw [if_pos e]
        · rw [if_neg e, show j = i by omega])
      have HG2 := Lib.hid hg2
      have HI := Lib.hid hlt
      clear hap hO2 hg2 hO gr g1 hi hlt
      generalize f i = v at *
      go_wp2_with (at_builtin; refine wpList_append_run rfl (.tmp 9) (.tmp 13) 39 39 rfl _ _ _ _ rfl rfl HAP.out ?_)
      go_roundw
      case rel => exact ⟨i + 1, c2, a2, HI.out, rfl, rfl, HO2.out, HG2.out⟩
      case measure =>
        have := HI.out
        simp [intOf]
        try omega
    · obtain rfl : i = 16 := by omega
      have HO := Lib.hid (hO.base (base' := w.heap.size) (by have := HZ.out; omega))
      have HG := Lib.hid (grown_trans GA.out gr)
      clear hO gr hi hlt
      go_wp2_with fail
      go_ret
      exact ⟨_, rfl, HO.out, HG.out⟩
theorem sgKey_any (f : Nat → Nat) (w : World) : Calls Try.prog 57 #[.agg (cellsOf .u8 32 f)] w (GaveN w 32 f) := by
  have hA := holds_alloc w 28 .u8 32 f _ rfl
  have ga := World.grownBy_alloc w (.cells (cellsOf .u8 32 f) 28) none
  have hz := World.size_alloc w (.cells (cellsOf .u8 32 f) 28)
  go_enter Try.func57, Try.ntmps57
  go_wp2_with fail
  generalize w.alloc (.cells (cellsOf .u8 32 f) 28) = w1 at *
  obtain ⟨B, hB⟩ : ∃ B, B = w.heap.size := ⟨_, rfl⟩
  rw [← hB] at hA ⊢
  have HA := Lib.hid hA
  have GA := Lib.hid ga
  have HZ := Lib.hid hz
  clear hA ga hz hB
  go_loopw [3, 4] (fun u3 u4 wr => ∃ (i c : Nat) (a : Option Addr), i ≤ 32 ∧ u3 = .slice a i c ∧ u4 = .int .i64 i ∧ OwnN wr w1.heap.size (.slice a i c) i f ∧ w1.grownBy wr none) (fun _ u4 _ => 32 - (intOf u4).toNat)
  case atStart => exact ⟨0, 0, none, Nat.zero_le _, rfl, rfl, OwnN.nil _ _ _, grown_refl _ _⟩
  case round =>
    obtain ⟨i, c, a, hi, rfl, rfl, hO, gr⟩ := hrel
    by_cases hlt : i < 32
    · have j1 : (i : Int) < 32 := by omega
      have c0 := (HA.out.grown gr (by have := HA.out.lt; simp)).cell i hlt
      have g1 := World.grownBy_alloc wr (.cells #[.int .u8 (f i : Nat)] 5) none
      obtain ⟨a2, c2, w2, hap, hO2, hg2, _⟩ := app_N1 1 39 (grown_trans gr g1) (hO.grown g1) (rd_one wr (f i) (wr.heap.size + 1) (by omega)) (by omega)
      have HAP := Lib.hid hap
      have HO2 : Hid (OwnN w2 w1.heap.size (.slice a2 (i + 1) c2) (i + 1) f) := hO2.congr (fun j hj => by
        unfold cat
        by_cases e : j < i
        · rw [if_pos e]
        · rw [if_neg e, show j = i by omega])
      have HG2 := Lib.hid hg2
      have HI := Lib.hid hlt
      clear hap hO2 hg2 hO gr g1 hi hlt
      generalize f i = v at *
      go_wp2_with (at_builtin; refine wpList_append_run rfl (.tmp 9) (.tmp 13) 39 39 rfl _ _ _ _ rfl rfl HAP.out ?_)
      go_roundw
      case rel => exact ⟨i + 1, c2, a2, HI.out, rfl, rfl, HO2.out, HG2.out⟩
      case measure =>
        have := HI.out
        simp [intOf]
        try omega
    · obtain rfl : i = 32 := by omega
      have HO := Lib.hid (hO.base (base' := w.heap.size) (by have := HZ.out; omega))
      have HG := Lib.hid (grown_trans GA.out gr)
      clear hO gr hi hlt
      go_wp2_with fail
      go_ret
      exact ⟨_, rfl, HO.out, HG.out⟩
theorem sgOfId_any (D n c : Nat) (a : Option Addr) (f : Nat → Nat) (w : World) (h : Rd w D a n f) (hn : 16 ≤ n) : Calls Try.prog 108 #[.slice a n c] w fun e w' => e = .returned (.agg (cellsOf .u8 16 f)) ∧ w.grownBy w' none := by
  have z32 : (#[.int .u8 0, .int .u8 0, .int .u8 0, .int .u8 0, .int .u8 0, .int .u8 0, .int .u8 0, .int .u8 0, .int .u8 0, .int .u8 0, .int .u8 0, .int .u8 0, .int .u8 0, .int .u8 0, .int .u8 0, .int .u8 0] : Array Value) = cellsOf .u8 16 (fun _ => 0) := rfl
  have hA : Holds ((w.alloc (.cells #[.int .u8 0, .int .u8 0, .int .u8 0, .int .u8 0, .int .u8 0, .int .u8 0, .int .u8 0, .int .u8 0, .int .u8 0, .int .u8 0, .int .u8 0, .int .u8 0, .int .u8 0, .int .u8 0, .int .u8 0, .int .u8 0] 23)).alloc (.cells #[.int .u8 0, .int .u8 0, .int .u8 0, .int .u8 0, .int .u8 0, .int .u8 0, .int .u8 0, .int .u8 0, .int .u8 0, .int .u8 0, .int .u8 0, .int .u8 0, .int .u8 0, .int .u8 0, .int .u8 0, .int .u8 0] 23)) w.heap.size 23 .u8 16 (fun _ => 0) := (holds_alloc w 23 .u8 16 (fun _ => 0) _ z32).of_block (by rw [heap_alloc_old]; simp)
  have hB : Holds ((w.alloc (.cells #[.int .u8 0, .int .u8 0, .int .u8 0, .int .u8 0, .int .u8 0, .int .u8 0, .int .u8 0, .int .u8 0, .int .u8 0, .int .u8 0, .int .u8 0, .int .u8 0, .int .u8 0, .int .u8 0, .int .u8 0, .int .u8 0] 23)).alloc (.cells #[.int .u8 0, .int .u8 0, .int .u8 0, .int .u8 0, .int .u8 0, .int .u8 0, .int .u8 0, .int .u8 0, .int .u8 0, .int .u8 0, .int .u8 0, .int .u8 0, .int .u8 0, .int .u8 0, .int .u8 0, .int .u8 0] 23)) (w.heap.size + 1) 23 .u8 16 (fun _ => 0) := by
    have := holds_alloc (w.alloc (.cells #[.int .u8 0, .int .u8 0, .int .u8 0, .int .u8 0, .int .u8 0, .int .u8 0, .int .u8 0, .int .u8 0, .int .u8 0, .int .u8 0, .int .u8 0, .int .u8 0, .int .u8 0, .int .u8 0, .int .u8 0, .int .u8 0] 23)) 23 .u8 16 (fun _ => 0) _ z32
    rwa [World.size_alloc] at this
  have hg := grown_alloc (World.grownBy_alloc w (.cells #[.int .u8 0, .int .u8 0, .int .u8 0, .int .u8 0, .int .u8 0, .int .u8 0, .int .u8 0, .int .u8 0, .int .u8 0, .int .u8 0, .int .u8 0, .int .u8 0, .int .u8 0, .int .u8 0, .int .u8 0, .int .u8 0] 23) none) (.cells #[.int .u8 0, .int .u8 0, .int .u8 0, .int .u8 0, .int .u8 0, .int .u8 0, .int .u8 0, .int .u8 0, .int .u8 0, .int .u8 0, .int .u8 0, .int .u8 0, .int .u8 0, .int .u8 0, .int .u8 0, .int .u8 0] 23)
  clear z32
  have HR := Lib.hid h
  have HN := Lib.hid hn
  obtain ⟨tb, o, ha, htb, _⟩ := h.ex (by omega)
  subst ha
  clear h hn
  go_enter Try.func108, Try.ntmps108
  go_wp2_with fail
  generalize (w.alloc (.cells #[.int .u8 0, .int .u8 0, .int .u8 0, .int .u8 0, .int .u8 0, .int .u8 0, .int .u8 0, .int .u8 0, .int .u8 0, .int .u8 0, .int .u8 0, .int .u8 0, .int .u8 0, .int .u8 0, .int .u8 0, .int .u8 0] 23)).alloc (.cells #[.int .u8 0, .int .u8 0, .int .u8 0, .int .u8 0, .int .u8 0, .int .u8 0, .int .u8 0, .int .u8 0, .int .u8 0, .int .u8 0, .int .u8 0, .int .u8 0, .int .u8 0, .int .u8 0, .int .u8 0, .int .u8 0] 23) = w1 at *
  go_loopw [4] (fun u4 wr => ∃ i : Nat, i ≤ 16 ∧ u4 = .int .i64 i ∧ w.grownBy wr none ∧ Holds wr w.heap.size 23 .u8 16 (fun _ => 0) ∧ Holds wr (w.heap.size + 1) 23 .u8 16 (fun j => if j < i then f j else 0)) (fun u4 _ => 16 - (intOf u4).toNat)
  case atStart => exact ⟨0, by omega, rfl, hg, hA, hB⟩
  case round =>
    clear hg hA hB
    obtain ⟨i, hi, rfl, hgr, hA, hB⟩ := hrel
    by_cases hlt : i < 16
    · have j1 : (i : Int) < 16 := by omega
      have j2 : (i : Int) < (n : Int) := by have := HN.out; omega
      have c0 := hgr.cell (w := w) (a := ⟨tb, o + i, none⟩) (by
        obtain ⟨tb', o', e, _, h3⟩ := HR.out.ex (by have := HN.out; omega)
        cases e
        exact h3 i (by have := HN.out; omega)) (by simp)
      have c1 := hB.cell i hlt
      have f1 := hB.frozen i
      obtain ⟨u, hu⟩ : ∃ u, u = f i := ⟨_, rfl⟩
      rw [← hu] at c0
      have HA : Hid (Holds (wr.setCell ⟨w.heap.size + 1, i, none⟩ (.int .u8 (u : Nat))) w.heap.size 23 .u8 16 (fun _ => 0)) := Lib.hid (hA.setOther _ _ (by show w.heap.size ≠ w.heap.size + 1; omega))
      have HB : Hid (Holds (wr.setCell ⟨w.heap.size + 1, i, none⟩ (.int .u8 (u : Nat))) (w.heap.size + 1) 23 .u8 16 (fun j => if j < i + 1 then f j else 0)) := Lib.hid ((hB.set i u).congr (fun j hj => by
        by_cases e : j = i
        · subst e; rw [upd_same, if_pos (by omega), hu]
        · rw [upd_other _ _ _ _ e]
          by_cases e2 : j < i
          · rw [if_pos e2, if_pos (by omega)]
          · rw [if_neg e2, if_neg (by omega)]))
      have HG := Lib.hid (grown_setCell_new hgr ⟨w.heap.size + 1, i, none⟩ (.int .u8 (u : Nat)) (Or.inl (by show w.heap.size ≤ w.heap.size + 1; omega)))
      have HI := Lib.hid hlt
      clear hgr hA hB hu hlt hi
      go_wp2_with fail
      go_roundw
      case rel => exact ⟨i + 1, HI.out, rfl, HG.out, HA.out, HB.out⟩
      case measure =>
        have := HI.out
        simp [intOf]
        try omega
    · obtain rfl : i = 16 := by omega
      have hB4 := hB.congr (g := f) (fun j hj => if_pos hj)
      clear hlt hi hB
      go_wp2_with (first
        | refine wpList_load_row rfl 23 (.tmp 3) rfl (w.heap.size + 1) rfl 23 _ (0, 0) (.array 16 5) hB4.block (by kernel_rfl) rfl (by rw [cellsOf_size]; kernel_rfl) ?_
        | refine wpList_store_row rfl 23 (.tmp 2) (.tmp 15) rfl w.heap.size _ rfl rfl 23 _ hA.block (by rw [cellsOf_size]; kernel_rfl) rfl (cellsOf_all _ _ _) ?_)
      exact bodyPost_ret (v := .agg (cellsOf .u8 16 f)) (results_cell_row rfl _ _ w.heap.size 23 _ (0, 0) (.array 16 5) rfl (hA.setRow .u8 16 f).block (by kernel_rfl) rfl (by rw [cellsOf_size]; kernel_rfl)) rfl ⟨rfl, grown_setRow_new hgr _ _ (Or.inl (Nat.le_refl _))⟩
theorem sgOfKey_any (D n c : Nat) (a : Option Addr) (f : Nat → Nat) (w : World) (h : Rd w D a n f) (hn : 32 ≤ n) : Calls Try.prog 112 #[.slice a n c] w fun e w' => e = .returned (.agg (cellsOf .u8 32 f)) ∧ w.grownBy w' none := by
  have z32 : (#[.int .u8 0, .int .u8 0, .int .u8 0, .int .u8 0, .int .u8 0, .int .u8 0, .int .u8 0, .int .u8 0, .int .u8 0, .int .u8 0, .int .u8 0, .int .u8 0, .int .u8 0, .int .u8 0, .int .u8 0, .int .u8 0, .int .u8 0, .int .u8 0, .int .u8 0, .int .u8 0, .int .u8 0, .int .u8 0, .int .u8 0, .int .u8 0, .int .u8 0, .int .u8 0, .int .u8 0, .int .u8 0, .int .u8 0, .int .u8 0, .int .u8 0, .int .u8 0] : Array Value) = cellsOf .u8 32 (fun _ => 0) := rfl
  have hA : Holds ((w.alloc (.cells #[.int .u8 0, .int .u8 0, .int .u8 0, .int .u8 0, .int .u8 0, .int .u8 0, .int .u8 0, .int .u8 0, .int .u8 0, .int .u8 0, .int .u8 0, .int .u8 0, .int .u8 0, .int .u8 0, .int .u8 0, .int .u8 0, .int .u8 0, .int .u8 0, .int .u8 0, .int .u8 0, .int .u8 0, .int .u8 0, .int .u8 0, .int .u8 0, .int .u8 0, .int .u8 0, .int .u8 0, .int .u8 0, .int .u8 0, .int .u8 0, .int .u8 0, .int .u8 0] 28)).alloc (.cells #[.int .u8 0, .int .u8 0, .int .u8 0, .int .u8 0, .int .u8 0, .int .u8 0, .int .u8 0, .int .u8 0, .int .u8 0, .int .u8 0, .int .u8 0, .int .u8 0, .int .u8 0, .int .u8 0, .int .u8 0, .int .u8 0, .int .u8 0, .int .u8 0, .int .u8 0, .int .u8 0, .int .u8 0, .int .u8 0, .int .u8 0, .int .u8 0, .int .u8 0, .int .u8 0, .int .u8 0, .int .u8 0, .int .u8 0, .int .u8 0, .int .u8 0, .int .u8 0] 28)) w.heap.size 28 .u8 32 (fun _ => 0) := (holds_alloc w 28 .u8 32 (fun _ => 0) _ z32).of_block (by rw [heap_alloc_old]; simp)
  have hB : Holds ((w.alloc (.cells #[.int .u8 0, .int .u8 0, .int .u8 0, .int .u8 0, .int .u8 0, .int .u8 0, .int .u8 0, .int .u8 0, .int .u8 0, .int .u8 0, .int .u8 0, .int .u8 0, .int .u8 0, .int .u8 0, .int .u8 0, .int .u8 0, .int .u8 0, .int .u8 0, .int .u8 0, .int .u8 0, .int .u8 0, .int .u8 0, .int .u8 0, .int .u8 0, .int .u8 0, .int .u8 0, .int .u8 0, .int .u8 0, .int .u8 0, .int .u8 0, .int .u8 0, .int .u8 0] 28)).alloc (.cells #[.int .u8 0, .int .u8 0, .int .u8 0, .int .u8 0, .int .u8 0, .int .u8 0, .int .u8 0, .int .u8 0, .int .u8 0, .int .u8 0, .int .u8 0, .int .u8 0, .int .u8 0, .int .u8 0, .int .u8 0, .int .u8 0, .int .u8 0, .int .u8 0, .int .u8 0, .int .u8 0, .int .u8 0, .int .u8 0, .int .u8 0, .int .u8 0, .int .u8 0, .int .u8 0, .int .u8 0, .int .u8 0, .int .u8 0, .int .u8 0, .int .u8 0, .int .u8 0] 28)) (w.heap.size + 1) 28 .u8 32 (fun _ => 0) := by
    have := holds_alloc (w.alloc (.cells #[.int .u8 0, .int .u8 0, .int .u8 0, .int .u8 0, .int .u8 0, .int .u8 0, .int .u8 0, .int .u8 0, .int .u8 0, .int .u8 0, .int .u8 0, .int .u8 0, .int .u8 0, .int .u8 0, .int .u8 0, .int .u8 0, .int .u8 0, .int .u8 0, .int .u8 0, .int .u8 0, .int .u8 0, .int .u8 0, .int .u8 0, .int .u8 0, .int .u8 0, .int .u8 0, .int .u8 0, .int .u8 0, .int .u8 0, .int .u8 0, .int .u8 0, .int .u8 0] 28)) 28 .u8 32 (fun _ => 0) _ z32
    rwa [World.size_alloc] at this
  have hg := grown_alloc (World.grownBy_alloc w (.cells #[.int .u8 0, .int .u8 0, .int .u8 0, .int .u8 0, .int .u8 0, .int .u8 0, .int .u8 0, .int .u8 0, .int .u8 0, .int .u8 0, .int .u8 0, .int .u8 0, .int .u8 0, .int .u8 0, .int .u8 0, .int .u8 0, .int .u8 0, .int .u8 0, .int .u8 0, .int .u8 0, .int .u8 0, .int .u8 0, .int .u8 0, .int .u8 0, .int .u8 0, .int .u8 0, .int .u8 0, .int .u8 0, .int .u8 0, .int .u8 0, .int .u8 0, .int .u8 0] 28) none) (.cells #[.int .u8 0, .int .u8 0, .int .u8 0, .int .u8 0, .int .u8 0, .int .u8 0, .int .u8 0, .int .u8 0, .int .u8 0, .int .u8 0, .int .u8 0, .int .u8 0, .int .u8 0, .int .u8 0, .int .u8 0, .int .u8 0, .int .u8 0, .int .u8 0, .int .u8 0, .int .u8 0, .int .u8 0, .int .u8 0, .int .u8 0, .int .u8 0, .int .u8 0, .int .u8 0, .int .u8 0, .int .u8 0, .int .u8 0, .int .u8 0, .int .u8 0, .int .u8 0] 28)
  clear z32
  have HR := Lib.hid h
  have HN := Lib.hid hn
  obtain ⟨tb, o, ha, htb, _⟩ := h.ex (by omega)
  subst ha
  clear h hn
  go_enter Try.func112, Try.ntmps112
  go_wp2_with fail
  generalize (w.alloc (.cells #[.int .u8 0, .int .u8 0, .int .u8 0, .int .u8 0, .int .u8 0, .int .u8 0, .int .u8 0, .int .u8 0, .int .u8 0, .int .u8 0, .int .u8 0, .int .u8 0, .int .u8 0, .int .u8 0, .int .u8 0, .int .u8 0, .int .u8 0, .int .u8 0, .int .u8 0, .int .u8 0, .int .u8 0, .int .u8 0, .int .u8 0, .int .u8 0, .int .u8 0, .int .u8 0, .int .u8 0, .int .u8 0, .int .u8 0, .int .u8 0, .int .u8 0, .int .u8 0] 28)).alloc (.cells #[.int .u8 0, .int .u8 0, .int .u8 0, .int .u8 0, .int .u8 0, .int .u8 0, .int .u8 0, .int .u8 0, .int .u8 0, .int .u8 0, .int .u8 0, .int .u8 0, .int .u8 0, .int .u8 0, .int .u8 0, .int .u8 0, .int .u8 0, .int .u8 0, .int .u8 0, .int .u8 0, .int .u8 0, .int .u8 0, .int .u8 0, .int .u8 0, .int .u8 0, .int .u8 0, .int .u8 0, .int .u8 0, .int .u8 0, .int .u8 0, .int .u8 0, .int .u8 0] 28) = w1 at *
  go_loopw [4] (fun u4 wr => ∃ i : Nat, i ≤ 32 ∧ u4 = .int .i64 i ∧ w.grownBy wr none ∧ Holds wr w.heap.size 28 .u8 32 (fun _ => 0) ∧ Holds wr (w.heap.size + 1) 28 .u8 32 (fun j => if j < i then f j else 0)) (fun u4 _ => 32 - (intOf u4).toNat)
  case atStart => exact ⟨0, by omega, rfl, hg, hA, hB⟩
  case round =>
    clear hg hA hB
    obtain ⟨i, hi, rfl, hgr, hA, hB⟩ := hrel
    by_cases hlt : i < 32
    · have j1 : (i : Int) < 32 := by omega
      have j2 : (i : Int) < (n : Int) := by have := HN.out; omega
      have c0 := hgr.cell (w := w) (a := ⟨tb, o + i, none⟩) (by
        obtain ⟨tb', o', e, _, h3⟩ := HR.out.ex (by have := HN.out; omega)
        cases e
        exact h3 i (by have := HN.out; omega)) (by simp)
      have c1 := hB.cell i hlt
      have f1 := hB.frozen i
      obtain ⟨u, hu⟩ : ∃ u, u = f i := ⟨_, rfl⟩
      rw [← hu] at c0
      have HA : Hid (Holds (wr.setCell ⟨w.heap.size + 1, i, none⟩ (.int .u8 (u : Nat))) w.heap.size 28 .u8 32 (fun _ => 0)) := Lib.hid (hA.setOther _ _ (by show w.heap.size ≠ w.heap.size + 1; omega))
      have HB : Hid (Holds (wr.setCell ⟨w.heap.size + 1, i, none⟩ (.int .u8 (u : Nat))) (w.heap.size + 1) 28 .u8 32 (fun j => if j < i + 1 then f j else 0)) := Lib.hid ((hB.set i u).congr (fun j hj => by
        by_cases e : j = i
        · subst e; rw [upd_same, if_pos (by omega), hu]
        · rw [upd_other _ _ _ _ e]
          by_cases e2 : j < i
          · rw [if_pos e2, if_pos (by omega)]
          · rw [if_neg e2, if_neg (by omega)]))
      have HG := Lib.hid (grown_setCell_new hgr ⟨w.heap.size + 1, i, none⟩ (.int .u8 (u : Nat)) (Or.inl (by show w.heap.size ≤ w.heap.size + 1; omega)))
      have HI := Lib.hid hlt
      clear hgr hA hB hu hlt hi
      go_wp2_with fail
      go_roundw
      case rel => exact ⟨i + 1, HI.out, rfl, HG.out, HA.out, HB.out⟩
      case measure =>
        have := HI.out
        simp [intOf]
        try omega
    · obtain rfl : i = 32 := by omega
      have hB4 := hB.congr (g := f) (fun j hj => if_pos hj)
      clear hlt hi hB
      go_wp2_with (first
        | refine wpList_load_row rfl 28 (.tmp 3) rfl (w.heap.size + 1) rfl 28 _ (0, 0) (.array 32 5) hB4.block (by kernel_rfl) rfl (by rw [cellsOf_size]; kernel_rfl) ?_
        | refine wpList_store_row rfl 28 (.tmp 2) (.tmp 15) rfl w.heap.size _ rfl rfl 28 _ hA.block (by rw [cellsOf_size]; kernel_rfl) rfl (cellsOf_all _ _ _) ?_)
      exact bodyPost_ret (v := .agg (cellsOf .u8 32 f)) (results_cell_row rfl _ _ w.heap.size 28 _ (0, 0) (.array 32 5) rfl (hA.setRow .u8 32 f).block (by kernel_rfl) rfl (by rw [cellsOf_size]; kernel_rfl)) rfl ⟨rfl, grown_setRow_new hgr _ _ (Or.inl (Nat.le_refl _))⟩
end Go.Proofs.Ytmbefbmpjkbnmaa
