/-
  wire's In: what Left and End need of a reader: its two cells.
-/
import Derived.Test.YtpkeolggehjjlaaInKeep
namespace Go.Proofs.Ytpkeolggehjjlaa
open Go.RowKit

set_option maxRecDepth 100000
set_option maxHeartbeats 2000000

def IHeadP (w : World) (p : Option Addr) (L : Nat) : ISt → Prop
  | .nil => p = none
  | .bad => ∃ g, p = some ⟨g, 0, none⟩ ∧ w.cell? ⟨g, 0, none⟩ = some (.slice none 0 0) ∧ w.cell? ⟨g, 1, none⟩ = some (.bool true)
  | .good at' => ∃ g a c, p = some ⟨g, 0, none⟩ ∧ w.cell? ⟨g, 0, none⟩ = some (.slice a (L - at') c) ∧ w.cell? ⟨g, 1, none⟩ = some (.bool false)
structure IHead (w : World) (p : Option Addr) (L : Nat) (s : ISt) : Prop where
  st : IHeadP w p L s
theorem IAt.head {w : World} {p : Option Addr} {L : Nat} {F : Nat → Nat} {s : ISt} (h : IAt w p L F s) : IHead w p L s := by
  have hs := h.st
  cases s with
  | nil => exact ⟨hs⟩
  | bad =>
    obtain ⟨g, h1, h2⟩ := hs
    exact ⟨⟨g, h1, h2.c0, h2.c1⟩⟩
  | good at' =>
    obtain ⟨g, a, c, h1, h2, _⟩ := hs
    exact ⟨⟨g, a, c, h1, h2.c0, h2.c1⟩⟩
theorem IHead.grown {w w' : World} {p : Option Addr} {L : Nat} {s : ISt} {row : Option Nat} (h : IHead w p L s) (gr : w.grownBy w' row) (hr : ∀ g, p = some ⟨g, 0, none⟩ → some g ≠ row) : IHead w' p L s := by
  have hs := h.st
  cases s with
  | nil => exact ⟨hs⟩
  | bad =>
    obtain ⟨g, h1, h2, h3⟩ := hs
    exact ⟨⟨g, h1, gr.cell h2 (hr g h1), gr.cell h3 (hr g h1)⟩⟩
  | good at' =>
    obtain ⟨g, a, c, h1, h2, h3⟩ := hs
    exact ⟨⟨g, a, c, h1, gr.cell h2 (hr g h1), gr.cell h3 (hr g h1)⟩⟩
theorem headLeft_any {w : World} {p : Option Addr} {L : Nat} {s : ISt} (h : IHead w p L s) : Calls Try.prog 15 #[.pointer p] w fun e w' => e = .returned (.int .i64 (s.left L : Nat)) ∧ w = w' := by
  have hs := h.st
  cases s with
  | nil =>
    obtain rfl : p = none := hs
    clear h
    go_enter Try.func15, Try.ntmps15
    go_wp2_with fail
    go_ret
    exact ⟨rfl, rfl⟩
  | bad =>
    obtain ⟨g, rfl, c0, _⟩ := hs
    clear h
    go_enter Try.func15, Try.ntmps15
    go_wp2_with fail
    go_ret
    exact ⟨rfl, rfl⟩
  | good at' =>
    obtain ⟨g, a, c, rfl, c0, _⟩ := hs
    obtain ⟨m, hm⟩ : ∃ m, m = L - at' := ⟨_, rfl⟩
    show Calls _ _ _ _ fun e w' => e = .returned (.int .i64 ((L - at' : Nat) : Nat)) ∧ w = w'
    rw [← hm] at c0 ⊢
    clear h hm
    go_enter Try.func15, Try.ntmps15
    go_wp2_with fail
    go_ret
    exact ⟨rfl, rfl⟩
theorem headEnd_any {w : World} {p : Option Addr} {L : Nat} {s : ISt} (h : IHead w p L s) : Calls Try.prog 16 #[.pointer p] w fun e w' => e = .returned (.int .i64 (s.code L)) ∧ w = w' := by
  have hs := h.st
  cases s with
  | nil =>
    obtain rfl : p = none := hs
    clear h
    go_enter Try.func16, Try.ntmps16
    go_wp2_with fail
    go_ret
    exact ⟨rfl, rfl⟩
  | bad =>
    obtain ⟨g, rfl, c0, c1⟩ := hs
    clear h
    go_enter Try.func16, Try.ntmps16
    go_wp2_with fail
    go_ret
    exact ⟨rfl, rfl⟩
  | good at' =>
    obtain ⟨g, a, c, rfl, c0, c1⟩ := hs
    obtain ⟨m, hm⟩ : ∃ m, m = L - at' := ⟨_, rfl⟩
    show Calls _ _ _ _ fun e w' => e = .returned (.int .i64 (if 0 < L - at' then 9 else 0)) ∧ w = w'
    rw [← hm] at c0 ⊢
    clear h hm
    by_cases h0 : 0 < m
    · rw [if_pos h0]
      have j0 : (0 : Int) < (m : Int) := by omega
      go_enter Try.func16, Try.ntmps16
      go_wp2_with fail
      go_ret
      exact ⟨rfl, rfl⟩
    · rw [if_neg h0]
      have j0 : ¬ (0 : Int) < (m : Int) := by omega
      go_enter Try.func16, Try.ntmps16
      go_wp2_with fail
      go_ret
      exact ⟨rfl, rfl⟩
end Go.Proofs.Ytpkeolggehjjlaa
