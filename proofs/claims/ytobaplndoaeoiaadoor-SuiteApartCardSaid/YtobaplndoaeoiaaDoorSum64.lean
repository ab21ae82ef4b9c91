/-
  The sum of some texts, by sha's machine of words of 64 bits, and by Sum512.
-/
import Derived.Test.YtobaplndoaeoiaaDoorWrite64
import Derived.Test.YtobaplndoaeoiaaDoorFinish64
import Derived.Test.YtobaplndoaeoiaaDoorPut64
import Derived.Test.YtobaplndoaeoiaaDoorBegun64
namespace Go.Proofs.YtobaplndoaeoiaaDoor
open Go.RowKit

set_option maxRecDepth 100000
set_option maxHeartbeats 1000000

theorem sum64 (m ob B n lc : Nat) (la : Option Addr) (P F K H g off f0 : Nat → Nat) (w : World) (hM : MT 64 80 .u64 P K H g w m 0 0) (hL : Laid w 1 2 F K)
    (hO : Holds w ob 72 .u8 64 f0) (hT : Texts w B la n off g)
    (hg : ∀ i, g i < 256) (hP : ∀ i, 0 < P i ∧ P i < 64) (hH : ∀ i, H i < 2 ^ 64) (hK : ∀ i, K i < 2 ^ 64)
    (hm1 : m ≠ 1) (hm2 : m ≠ 2) (hBm : B ≤ m) (hBo : B ≤ ob) (hmo : ob ≠ m) (hn : n < 2 ^ 62) (hN : off n < 2 ^ 61) :
    Calls Tryd.prog 42 #[.pointer (some ⟨m, 0, none⟩), .slice (some ⟨ob, 0, none⟩) 64 64, .slice la n lc] w fun e w' => e = .returned (.tuple #[]) ∧ Below B w w' ∧
      Holds w' ob 72 .u8 64 (sumOf 64 80 P K H g (off n)) := by
  have n1 : (n : Int) ≤ 4611686018427387904 := by omega
  go_enter Tryd.func42, Tryd.ntmps42
  go_wp2_with fail
  go_loopw [10] (fun u10 wr => ∃ j : Nat, j ≤ n ∧ u10 = .int .i64 j ∧ w.grownBy wr (some m) ∧ MT 64 80 .u64 P K H g wr m (off j) (off j)) (fun u10 _ => n - (intOf u10).toNat)
  case atStart => exact ⟨0, by omega, rfl, grown_refl _ _, by rw [hT.zero]; exact hM⟩
  case round =>
    obtain ⟨j, hj, rfl, hgr, hMr⟩ := hrel
    have hLr := hL.grown hgr (by simpa using Ne.symm hm1) (by simpa using Ne.symm hm2)
    have hTr := hT.grown hgr (fun k e => by cases e; exact hBm)
    by_cases hjn : j < n
    · have j1 : (j : Int) < n := by omega
      obtain ⟨lb, lo, rfl, hlb, hel⟩ := hTr.ex (by omega)
      obtain ⟨aj, L, c, k1, k2, k3, k4⟩ := hel j hjn
      have hmo2 := hT.mono (j + 1) n (by omega) (Nat.le_refl _)
      have HK3 := Lib.hid k3
      clear k3 hel
      obtain ⟨tb, o, ha, htb, hX⟩ : ∃ tb o, (0 < L → aj = some ⟨tb, o, none⟩) ∧ tb ≠ m ∧ ∀ i, i < L → wr.cell? ⟨tb, o + i, none⟩ = some (.int .u8 (g (off j + i))) := by
        by_cases hL0 : 0 < L
        · obtain ⟨tb, o, h1, h2, h3⟩ := k4 hL0
          exact ⟨tb, o, fun _ => h1, by omega, h3⟩
        · exact ⟨m + 1, 0, fun h => absurd h hL0, by omega, fun i hi => absurd hi (by omega)⟩
      clear k4
      have hlen : off j + L < 2 ^ 61 := by have := HK3.out; omega
      go_wp2_with (go_at_call 55; (with_reducible refine (write64 m tb o (off j) L c (off j) aj P F K H g _ hMr hLr hg hP hH hK hm1 hm2 k2 hlen ha hX htb).mono ?_); rintro e w5 ⟨rfl, hg5, hM5⟩)
      rw [← HK3.out] at hM5
      exact ⟨⟨j + 1, by omega, by go_num, grown_trans hgr hg5, hM5⟩, by simp [intOf]; omega⟩
    · have hjE : j = n := by omega
      have j1 : (n : Int) ≤ j := by omega
      rw [hjE] at hMr
      clear hjE hjn hj
      have hOr := hO.grown hgr (by simpa using hmo)
      go_wp2_with (first
        | (go_at_call 56; (with_reducible refine (finish64 m (off n) P F K H g _ hMr hLr hP hH hK hm1 hm2 hN).mono ?_); rintro e w5 ⟨rfl, hg5, ⟨blk5, fl5, len5, hM5⟩⟩; have hO5 := hOr.grown hg5 (by simpa using hmo))
        | (go_at_call 57; (with_reducible refine (put64 m ob f0 P _ blk5 fl5 len5 _ hM5 hO5 hmo).mono ?_); rintro e w6 ⟨rfl, hg6, hO6⟩))
      go_end0
      have hb1 : Below B w w5 := ⟨(grown_trans hgr hg5).os, (grown_trans hgr hg5).tape, (grown_trans hgr hg5).output, (grown_trans hgr hg5).size, fun k hk => (grown_trans hgr hg5).block k (by have := hM.lt; omega) (by simp; omega)⟩
      have hb2 : Below B w5 w6 := ⟨hg6.os, hg6.tape, hg6.output, hg6.size, fun k hk => hg6.block k (by have := hM5.lt; omega) (by simp; omega)⟩
      exact ⟨rfl, hb1.trans hb2, hO6⟩

theorem Sum512_any (n lc : Nat) (la : Option Addr) (F K g off : Nat → Nat) (w : World) (hL : Laid w 1 2 F K) (hT : Texts w w.heap.size la n off g)
    (hg : ∀ i, g i < 256) (hF : ∀ i, F i < 2 ^ 64) (hK : ∀ i, K i < 2 ^ 64) (hn : n < 2 ^ 62) (hN : off n < 2 ^ 61) :
    Calls Tryd.prog 36 #[.slice la n lc] w fun e w' => e = .returned (.agg (cellsOf .u8 64 (sumOf 64 80 P64 K (H64 F) g (off n)))) ∧ w.grownBy w' none := by
  have hL0 : 1 < w.heap.size := World.block_lt_of_cell? w _ (hL.begin_ 0 (by omega))
  have hL1 : 2 < w.heap.size := World.block_lt_of_cell? w _ (hL.round_ 0 (by omega))
  have hO := holds_alloc w 72 .u8 64 (fun _ => 0) #[.int .u8 0, .int .u8 0, .int .u8 0, .int .u8 0, .int .u8 0, .int .u8 0, .int .u8 0, .int .u8 0, .int .u8 0, .int .u8 0, .int .u8 0, .int .u8 0, .int .u8 0, .int .u8 0, .int .u8 0, .int .u8 0, .int .u8 0, .int .u8 0, .int .u8 0, .int .u8 0, .int .u8 0, .int .u8 0, .int .u8 0, .int .u8 0, .int .u8 0, .int .u8 0, .int .u8 0, .int .u8 0, .int .u8 0, .int .u8 0, .int .u8 0, .int .u8 0, .int .u8 0, .int .u8 0, .int .u8 0, .int .u8 0, .int .u8 0, .int .u8 0, .int .u8 0, .int .u8 0, .int .u8 0, .int .u8 0, .int .u8 0, .int .u8 0, .int .u8 0, .int .u8 0, .int .u8 0, .int .u8 0, .int .u8 0, .int .u8 0, .int .u8 0, .int .u8 0, .int .u8 0, .int .u8 0, .int .u8 0, .int .u8 0, .int .u8 0, .int .u8 0, .int .u8 0, .int .u8 0, .int .u8 0, .int .u8 0, .int .u8 0, .int .u8 0] (by kernel_rfl)
  have hg0 := World.grownBy_alloc w (.cells #[.int .u8 0, .int .u8 0, .int .u8 0, .int .u8 0, .int .u8 0, .int .u8 0, .int .u8 0, .int .u8 0, .int .u8 0, .int .u8 0, .int .u8 0, .int .u8 0, .int .u8 0, .int .u8 0, .int .u8 0, .int .u8 0, .int .u8 0, .int .u8 0, .int .u8 0, .int .u8 0, .int .u8 0, .int .u8 0, .int .u8 0, .int .u8 0, .int .u8 0, .int .u8 0, .int .u8 0, .int .u8 0, .int .u8 0, .int .u8 0, .int .u8 0, .int .u8 0, .int .u8 0, .int .u8 0, .int .u8 0, .int .u8 0, .int .u8 0, .int .u8 0, .int .u8 0, .int .u8 0, .int .u8 0, .int .u8 0, .int .u8 0, .int .u8 0, .int .u8 0, .int .u8 0, .int .u8 0, .int .u8 0, .int .u8 0, .int .u8 0, .int .u8 0, .int .u8 0, .int .u8 0, .int .u8 0, .int .u8 0, .int .u8 0, .int .u8 0, .int .u8 0, .int .u8 0, .int .u8 0, .int .u8 0, .int .u8 0, .int .u8 0, .int .u8 0] 72) none
  have hLa := hL.grown hg0 (by simp) (by simp)
  have hTa := hT.grown hg0 (fun k e => by cases e)
  go_enter Tryd.func36, Tryd.ntmps36
  have hz1 : w.heap.size ≤ (w.alloc (.cells #[.int .u8 0, .int .u8 0, .int .u8 0, .int .u8 0, .int .u8 0, .int .u8 0, .int .u8 0, .int .u8 0, .int .u8 0, .int .u8 0, .int .u8 0, .int .u8 0, .int .u8 0, .int .u8 0, .int .u8 0, .int .u8 0, .int .u8 0, .int .u8 0, .int .u8 0, .int .u8 0, .int .u8 0, .int .u8 0, .int .u8 0, .int .u8 0, .int .u8 0, .int .u8 0, .int .u8 0, .int .u8 0, .int .u8 0, .int .u8 0, .int .u8 0, .int .u8 0, .int .u8 0, .int .u8 0, .int .u8 0, .int .u8 0, .int .u8 0, .int .u8 0, .int .u8 0, .int .u8 0, .int .u8 0, .int .u8 0, .int .u8 0, .int .u8 0, .int .u8 0, .int .u8 0, .int .u8 0, .int .u8 0, .int .u8 0, .int .u8 0, .int .u8 0, .int .u8 0, .int .u8 0, .int .u8 0, .int .u8 0, .int .u8 0, .int .u8 0, .int .u8 0, .int .u8 0, .int .u8 0, .int .u8 0, .int .u8 0, .int .u8 0, .int .u8 0] 72)).heap.size := by simp
  go_wp2_with fail
  generalize w.alloc (.cells #[.int .u8 0, .int .u8 0, .int .u8 0, .int .u8 0, .int .u8 0, .int .u8 0, .int .u8 0, .int .u8 0, .int .u8 0, .int .u8 0, .int .u8 0, .int .u8 0, .int .u8 0, .int .u8 0, .int .u8 0, .int .u8 0, .int .u8 0, .int .u8 0, .int .u8 0, .int .u8 0, .int .u8 0, .int .u8 0, .int .u8 0, .int .u8 0, .int .u8 0, .int .u8 0, .int .u8 0, .int .u8 0, .int .u8 0, .int .u8 0, .int .u8 0, .int .u8 0, .int .u8 0, .int .u8 0, .int .u8 0, .int .u8 0, .int .u8 0, .int .u8 0, .int .u8 0, .int .u8 0, .int .u8 0, .int .u8 0, .int .u8 0, .int .u8 0, .int .u8 0, .int .u8 0, .int .u8 0, .int .u8 0, .int .u8 0, .int .u8 0, .int .u8 0, .int .u8 0, .int .u8 0, .int .u8 0, .int .u8 0, .int .u8 0, .int .u8 0, .int .u8 0, .int .u8 0, .int .u8 0, .int .u8 0, .int .u8 0, .int .u8 0, .int .u8 0] 72) = w1 at *
  generalize hB : w.heap.size = B at *
  have HB := Lib.hid hB
  clear hB
  go_wp2_with (first
    | (go_at_call 41; (with_reducible refine (begun64 F K g _ hLa hF).mono ?_); rintro e w2 ⟨rfl, hg2, hM2⟩; have hL2 := hLa.grown hg2 (by simp) (by simp); have hT2 := hTa.grown hg2 (fun k e => by cases e); have hO2 := hO.grown hg2 (by simp))
    | (go_at_call 42; (with_reducible refine (sum64 (w1.heap.size + 1) B B n lc la P64 F K (H64 F) g off _ _ hM2 hL2 hO2 hT2 hg P64_ok (fun i => H64_lt F hF i) hK (by omega) (by omega) (by omega) (Nat.le_refl _) (by omega) hn hN).mono ?_); rintro e w3 ⟨rfl, hb3, hO3⟩)
    | refine wpList_load_row rfl 72 (.tmp 2) rfl B rfl 72 _ (0, 0) (.array 64 5) hO3.block (by kernel_rfl) rfl (by rw [cellsOf_size]; kernel_rfl) ?_
    | refine wpList_store_row rfl 72 (.tmp 2) (.tmp 14) rfl B _ rfl rfl 72 _ hO3.block (by rw [cellsOf_size]; kernel_rfl) rfl (cellsOf_all _ _ _) ?_)
  have hB3 : ∀ k, k < B → w3.heap[k]? = w.heap[k]? := fun k hk => by
    rw [hb3.block k hk, hg2.block k (by omega) (by simp)]
    exact hg0.block k (by have := HB.out; omega) (by simp)
  have hgf : w.grownBy w3 none := ⟨hb3.os.trans (hg2.os.trans hg0.os), hb3.tape.trans (hg2.tape.trans hg0.tape), hb3.output.trans (hg2.output.trans hg0.output), Nat.le_trans hg0.size (Nat.le_trans hg2.size hb3.size), fun k hk _ => hB3 k (by rw [← HB.out]; exact hk)⟩
  exact bodyPost_ret (v := .agg (cellsOf .u8 64 (sumOf 64 80 P64 K (H64 F) g (off n)))) (results_cell_row rfl _ _ B 72 _ (0, 0) (.array 64 5) rfl (hO3.setRow .u8 64 _).block (by kernel_rfl) rfl (by rw [cellsOf_size]; kernel_rfl)) rfl ⟨rfl, grown_setRow_new hgf _ _ (Or.inl (by rw [HB.out]; exact Nat.le_refl _))⟩

end Go.Proofs.YtobaplndoaeoiaaDoor
