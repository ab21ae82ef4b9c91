/-
  bytes.Repeat of one byte, 64 times.
-/
import Derived.Test.YtobaplndoaeoiaaDoorFill
import Derived.Lib.MakeNoZero
import Derived.StillTailTactics
namespace Go.Proofs.YtobaplndoaeoiaaDoor
open Go.RowKit

set_option maxRecDepth 100000
set_option maxHeartbeats 1000000

theorem mul64_64 (w : World) : Calls Tryd.prog 46 #[.int .u64 1, .int .u64 64] w fun e w' => e = .returned (.tuple #[.int .u64 0, .int .u64 64]) ∧ w = w' := by
  have a1 : bits .and .u64 1 4294967295 = 1 := by kernel_rfl
  have a2 : bits .and .u64 64 4294967295 = 64 := by kernel_rfl
  have a3 : bits .and .u64 0 4294967295 = 0 := by kernel_rfl
  go_enter Tryd.func46, Tryd.ntmps46
  go_wp2
  go_ret2
  exact ⟨rfl, rfl⟩
theorem mul_64 (w : World) : Calls Tryd.prog 38 #[.int .u64 1, .int .u64 64] w fun e w' => e = .returned (.tuple #[.int .u64 0, .int .u64 64]) ∧ w = w' := by
  go_enter Tryd.func38, Tryd.ntmps38
  go_wp2_with (go_at_call 46; refine (mul64_64 _).mono ?_; rintro e w' ⟨rfl, rfl⟩)
  go_ret2
  exact ⟨rfl, rfl⟩

structure Rep64 (w : World) (c : Nat) (e : Ending) (w' : World) : Prop where
  ex : ∃ r, e = .returned (.slice (some ⟨r, 0, none⟩) 64 64) ∧ w.heap.size ≤ r ∧ Fill w' r 64 (fun _ => c) ∧ w.grownBy w' none

theorem repeat64 (b cap c : Nat) (w : World) (hb : w.cell? ⟨b, 0, none⟩ = some (.int .u8 c)) :
    Calls Tryd.prog 31 #[.slice (some ⟨b, 0, none⟩) 1 cap, .int .i64 64] w (Rep64 w c) := by
  obtain ⟨cs, hrunM, hle, hmx⟩ := Lib.run_makeNoZero (P := Tryd.prog) w #[3] 23 5 (by kernel_rfl) 64 (by decide)
  have hcall : (callFunc 39 #[.int .i64 64]).run Tryd.prog w = .ok (.value (.slice (some ⟨w.heap.size, 0, none⟩) 64 cs.size)) (w.drew.drew.alloc (.cells cs 5)) := by
    rw [run_callFunc_extern Tryd.func39 (by kernel_rfl) (by kernel_rfl) (by kernel_rfl) (e := Extern.BytealgMakeNoZero.makeNoZero #[3] #[23]) (by kernel_rfl)]
    show (((Extern.BytealgMakeNoZero.makeNoZero #[3] #[23] #[.int .i64 ((64 : Nat) : Int)]).run _ _).andThen _) = _
    rw [hrunM]
    rfl
  clear hrunM
  have i1 : (64 : Int) ≤ (cs.size : Int) := by omega
  have hg1 : w.grownBy (w.drew.drew.alloc (.cells cs 5)) none := grown_alloc (grown_drew (grown_drew (grown_refl w none))) _
  have hN1 : (w.drew.drew.alloc (.cells cs 5)).heap[w.heap.size]? = some (.cells cs 5 (0, 0)) := heap_alloc_new w.drew.drew _
  have hB1 : Begun (w.drew.drew.alloc (.cells cs 5)) w.heap.size 64 0 c := ⟨fun i hi => absurd hi (by omega), fun i hi => by
    rw [cell_of_row _ _ _ _ _ _ hN1, Array.getElem?_eq_getElem (by omega)]; rfl, fun i => frozen_of_row _ _ _ _ _ hN1⟩
  have hb1 := hg1.cell hb (by simp)
  have hbl := World.block_lt_of_cell? w _ hb
  generalize w.drew.drew.alloc (.cells cs 5) = w1 at *
  clear hN1
  have hcp := run_copy_cells (P := Tryd.prog) w1 23 23 3 5 w.heap.size 0 64 64 ⟨b, 0, none⟩ 1 cap ((List.range 1).map fun _ => Value.int .u8 c) (by kernel_rfl) (by kernel_rfl) (by simp)
    (fun j v hv => by
      have hj : j = 0 := by
        have := (List.getElem?_eq_some_iff.1 hv).1
        simp at this; omega
      subst hj
      have e : v = .int .u8 c := by simpa using hv.symm
      subst e
      exact hb1)
    (fun j hj => by
      have hj' : j < 1 := by simpa using hj
      rw [Nat.zero_add]; exact hB1.there j (by omega))
    (fun j _ => hB1.free _) (fun v hv => by
      obtain ⟨i, _, rfl⟩ := List.mem_map.1 hv
      rfl)
  have hB2 := hB1.copy (k := 1) (by omega)
  have hg2 := grown_setCells w.heap.size (Or.inl (Nat.le_refl _)) ((List.range 1).map fun _ => Value.int .u8 c) 0 _ hg1
  rw [Nat.zero_add] at hB2
  generalize w1.setCells w.heap.size 0 ((List.range 1).map fun _ => Value.int .u8 c) = w2 at *
  rw [show ((List.range 1).map fun _ => Value.int .u8 c).length = 1 from rfl] at hcp
  go_enter Tryd.func31, Tryd.ntmps31
  go_wp2_with (go_at_call 38; refine (mul_64 _).mono ?_; rintro e w' ⟨rfl, rfl⟩)
  clear hcp hcall hb1 hg1 hB1
  generalize hr : w.heap.size = r at *
  have Hr := Lib.hid hr
  clear hr
  go_loopw [10] (fun u10 wr => ∃ n : Nat, 1 ≤ n ∧ n ≤ 64 ∧ u10 = .int .i64 n ∧ w.grownBy wr none ∧ Begun wr r 64 n c) (fun u10 _ => 64 - (intOf u10).toNat)
  case atStart => exact ⟨1, by omega, by omega, rfl, hg2, hB2⟩
  case round =>
    clear hg2 hB2
    obtain ⟨n, hn1, hn2, rfl, hgr, hBr⟩ := hrel
    by_cases hnb : n < 64
    · have n1 : (n : Int) < 64 := by omega
      have n2 : (1 : Int) ≤ n := by omega
      have n3 : (n : Int) ≤ 64 := by omega
      obtain ⟨k, hk⟩ : ∃ k, k = Nat.min n (64 - n) := ⟨_, rfl⟩
      have hk1 : n + k ≤ 64 := by
        have : k ≤ 64 - n := by rw [hk]; exact Nat.min_le_right _ _
        omega
      have hk2 : k ≤ n := by rw [hk]; exact Nat.min_le_left _ _
      have hk3 : 1 ≤ k := by rw [hk]; simp only [Nat.min_def]; split <;> omega
      have Hk := Lib.hid hk
      clear hk
      obtain ⟨a2, ha2, ht1, ht2⟩ := run_rest (Q := Tryd.prog) (T := 23) (E := 5) (by kernel_rfl) (fun _ => by kernel_rfl) r 0 64 64 n (by omega) (by omega)
      obtain rfl := ha2 hnb
      rw [Nat.zero_add] at ht1 ht2
      have hBd : Begun wr.drew r 64 n c := hBr.of_block rfl
      have hgd := grown_drew hgr
      have hcp := run_copy_cells (P := Tryd.prog) wr.drew 23 23 3 5 r n (64 - n) (64 - n) ⟨r, 0, none⟩ n 64 ((List.range k).map fun _ => Value.int .u8 c) (by kernel_rfl) (by kernel_rfl) (by simpa using Hk.out)
        (fun j v hv => by
          have hj : j < k := by
            have := (List.getElem?_eq_some_iff.1 hv).1
            simpa using this
          have e : v = .int .u8 c := by simpa [hj] using hv.symm
          subst e
          rw [Addr.add_mid, Nat.zero_add]
          exact hBd.cell j (by omega))
        (fun j hj => by
          have hj' : j < k := by simpa using hj
          exact hBd.there (n + j) (by omega))
        (fun j _ => hBd.free _) (fun v hv => by
          obtain ⟨i, _, rfl⟩ := List.mem_map.1 hv
          rfl)
      have hB5 := hBd.copy hk1
      have hg5 := grown_setCells r (Or.inl (by rw [Hr.out]; exact Nat.le_refl _)) ((List.range k).map fun _ => Value.int .u8 c) n _ hgd
      rw [show ((List.range k).map fun _ => Value.int .u8 c).length = k by simp] at hcp
      go_wp2_with fail
      generalize wr.drew.setCells r n ((List.range k).map fun _ => Value.int .u8 c) = w5 at *
      go_region
      clear ht1 ht2
      go_wp2_with fail
      exact ⟨⟨n + k, by omega, by omega, by go_num, hg5, hB5⟩, by simp [intOf]; omega⟩
    · have hE : n = 64 := by omega
      have n1 : (64 : Int) ≤ n := by omega
      rw [hE] at hBr
      clear hE hnb hn1 hn2
      go_wp2_with fail
      go_ret
      exact ⟨r, rfl, by rw [Hr.out]; exact Nat.le_refl _, ⟨hBr.cell, hBr.free⟩, hgr⟩

end Go.Proofs.YtobaplndoaeoiaaDoor
