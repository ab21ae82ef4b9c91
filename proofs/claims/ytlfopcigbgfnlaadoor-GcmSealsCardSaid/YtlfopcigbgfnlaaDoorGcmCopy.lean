/-
  Bytes copied into an array of bytes.
-/
import Derived.Test.YtlfopcigbgfnlaaDoorShaSpec
import Derived.Test.YtlfopcigbgfnlaaDoorRd
import Derived.Test.YtlfopcigbgfnlaaDoorMake
namespace Go.Proofs.YtlfopcigbgfnlaaDoor
open Go.RowKit

set_option maxRecDepth 100000
set_option maxHeartbeats 1000000

theorem holds_cells {B T n : Nat} : ∀ (l : List Nat) (o : Nat) (w : World) (f : Nat → Nat), Holds w B T .u8 n f → Holds (w.setCells B o (l.map fun x => Value.int .u8 (x : Nat))) B T .u8 n (fun j => if o ≤ j ∧ j < o + l.length then l.getD (j - o) 0 else f j)
  | [], o, w, f, h => h.congr fun j _ => by rw [if_neg (by simp)]
  | v :: l, o, w, f, h => by
    have := holds_cells l (o + 1) (w.setCell ⟨B, o, none⟩ (.int .u8 (v : Nat))) (upd f o v) (h.set o v)
    refine Holds.congr (by simpa [World.setCells] using this) fun j hj => ?_
    by_cases e : j = o
    · subst e
      rw [if_neg (by omega), upd_same, if_pos (by simp), Nat.sub_self]
      rfl
    · rw [upd_other _ _ _ _ e]
      by_cases e2 : o ≤ j ∧ j < o + (v :: l).length
      · rw [if_pos (by simp at e2; omega), if_pos e2, show j - o = (j - (o + 1)) + 1 by omega]
        rfl
      · rw [if_neg (by simp at e2; omega), if_neg e2]
theorem Holds.copy {w : World} {B T n : Nat} {f : Nat → Nat} (h : Holds w B T .u8 n f) (m : Nat) (g : Nat → Nat) : Holds (w.setCells B 0 ((List.range m).map fun i => Value.int .u8 (g i))) B T .u8 n (fun j => if j < m then g j else f j) := by
  have := holds_cells ((List.range m).map g) 0 w f h
  rw [List.map_map] at this
  refine Holds.congr this fun j _ => ?_
  by_cases e : j < m
  · rw [if_pos (by simp; omega), if_pos e]
    simp [e]
  · rw [if_neg (by simp; omega), if_neg e]
/-- A copy of k bytes that can be read into an array that holds bytes. -/
theorem copy_bytes {w : World} {r T N : Nat} {f g : Nat → Nat} {a : Option Addr} {L B : Nat} (cL : Nat) (h : Holds w r T .u8 N f) (hg : Rd w B a L g) (hL : 0 < L) (k : Nat) (hk : k = Nat.min L N) :
    (Builtin.copy_ #[22, 22] 3 #[.slice (some ⟨r, 0, none⟩) N N, .slice a L cL]).run Tryd.prog w = .ok (.int .i64 k) (w.setCells r 0 ((List.range k).map fun i => Value.int .u8 (g i))) := by
  obtain ⟨tb, o, rfl, _, hc⟩ := hg.ex hL
  have hk1 : k ≤ L := by rw [hk]; exact Nat.min_le_left _ _
  have hk2 : k ≤ N := by rw [hk]; exact Nat.min_le_right _ _
  have hcp := run_copy_cells (P := Tryd.prog) w 22 22 3 5 r 0 N N ⟨tb, o, none⟩ L cL ((List.range k).map fun j => Value.int .u8 (g j)) (by kernel_rfl) (by kernel_rfl) (by simpa using hk)
    (fun j v hv => by
      have hj : j < k := by
        have := (List.getElem?_eq_some_iff.1 hv).1
        simpa using this
      have e : v = .int .u8 (g j) := by simpa [hj] using hv.symm
      subst e
      rw [Addr.add_mid]
      exact hc j (by omega))
    (fun j hj => by
      have hj' : j < k := by simpa using hj
      rw [Nat.zero_add, h.cell j (by omega)]; rfl)
    (fun j _ => h.frozen _) (fun v hv => by
      obtain ⟨i, _, rfl⟩ := List.mem_map.1 hv
      rfl)
  rw [show ((List.range k).map fun j => Value.int .u8 (g j)).length = k by simp] at hcp
  exact hcp
end Go.Proofs.YtlfopcigbgfnlaaDoor
