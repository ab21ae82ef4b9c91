/-
  wire's Out: bytes that are handed in; what is put, put otherwise.
-/
import Derived.Test.YtmbefbmpjkbnmaaOutKit
namespace Go.Proofs.Ytmbefbmpjkbnmaa
open Go.RowKit

set_option maxRecDepth 100000
set_option maxHeartbeats 4000000

/-- A byte that is made for a call. -/
theorem rd_one (w : World) (v : Nat) (D : Nat) (hD : w.heap.size < D) : Rd (w.alloc (.cells #[.int .u8 v] 5)) D (some ⟨w.heap.size, 0, none⟩) 1 (fun _ => v) where
  ex := fun _ => ⟨w.heap.size, 0, rfl, hD, fun i hi => by
    obtain rfl : i = 0 := by omega
    rw [cell_of_row _ _ _ _ _ _ (heap_alloc_new w _)]; rfl⟩
theorem rd_two (w : World) (u v : Nat) (D : Nat) (hD : w.heap.size < D) : Rd (w.alloc (.cells #[.int .u8 u, .int .u8 v] 5)) D (some ⟨w.heap.size, 0, none⟩) 2 (fun i => if i = 0 then u else v) where
  ex := fun _ => ⟨w.heap.size, 0, rfl, hD, fun i hi => by
    obtain rfl | rfl : i = 0 ∨ i = 1 := by omega
    · rw [cell_of_row _ _ _ _ _ _ (heap_alloc_new w _)]; rfl
    · rw [cell_of_row _ _ _ _ _ _ (heap_alloc_new w _)]; rfl⟩
theorem OAt.eqv {w0 w : World} {p : Option Addr} {lim n : Nat} {f g : Nat → Nat} (h : OAt w0 w p (.good lim n f)) (e : ∀ i, i < n → f i = g i) : OAt w0 w p (.good lim n g) := by
  refine ⟨?_, h.gr⟩
  obtain ⟨b, a, c, h1, h2, h3, h4, h5⟩ := h.st
  refine ⟨b, a, c, h1, h2, h3, ?_, h5⟩
  rcases h4.ex with h | ⟨b', cap, k1, k2, k3⟩
  · exact ⟨Or.inl h⟩
  · exact ⟨Or.inr ⟨b', cap, k1, k2.congr e, k3⟩⟩
theorem OAt.putCongr {w0 w : World} {p : Option Addr} {s : OSt} {m : Nat} {f g : Nat → Nat} (h : OAt w0 w p (s.put m f)) (e : ∀ i, i < m → f i = g i) : OAt w0 w p (s.put m g) := by
  cases s with
  | nil => exact h
  | bad => exact h
  | good lim n f0 =>
    show OAt w0 w p (if n + m ≤ lim then _ else _)
    have h' : OAt w0 w p (if n + m ≤ lim then .good lim (n + m) (cat n f0 f) else .bad) := h
    by_cases hb : n + m ≤ lim
    · rw [if_pos hb] at h' ⊢
      exact h'.eqv (fun i hi => by
        unfold cat
        by_cases e1 : i < n
        · rw [if_pos e1, if_pos e1]
        · rw [if_neg e1, if_neg e1]; exact e _ (by omega))
    · rw [if_neg hb] at h' ⊢
      exact h'
end Go.Proofs.Ytmbefbmpjkbnmaa
