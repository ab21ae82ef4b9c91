/-
  wire's In: what another reader does turns nothing of it.
-/
import Derived.Test.YtpkeolggehjjlaaInList
namespace Go.Proofs.Ytpkeolggehjjlaa
open Go.RowKit

set_option maxRecDepth 100000
set_option maxHeartbeats 2000000

/-- Block k is not the reader's. -/
def IForeign (w : World) (p : Option Addr) (k : Nat) : Prop := ∀ g, p = some ⟨g, 0, none⟩ → g ≠ k ∧ ∀ tb o n c, w.cell? ⟨g, 0, none⟩ = some (.slice (some ⟨tb, o, none⟩) n c) → tb ≠ k
theorem IAt.foreign {w w' : World} {p : Option Addr} {L k : Nat} {F : Nat → Nat} {s : ISt} (h : IAt w p L F s) (hf : IForeign w p k) (gr : w.grownBy w' (some k)) : IAt w' p L F s := by
  have hs := h.st
  cases s with
  | nil => exact ⟨hs⟩
  | bad =>
    obtain ⟨g, h1, h2⟩ := hs
    exact ⟨⟨g, h1, h2.of_block (gr.block g (World.block_lt_of_cell? w _ h2.c0) (fun e => (hf g h1).1 (Option.some.inj e)))⟩⟩
  | good at' =>
    obtain ⟨g, a, c, h1, h2, h3, h4, h5⟩ := hs
    have hb := gr.block g (World.block_lt_of_cell? w _ h2.c0) (fun e => (hf g h1).1 (Option.some.inj e))
    refine ⟨⟨g, a, c, h1, h2.of_block hb, h3, h4, ⟨fun hn => ?_⟩⟩⟩
    obtain ⟨tb, o, e1, e2, e3⟩ := h5.ex hn
    refine ⟨tb, o, e1, e2, fun i hi => gr.cell (e3 i hi) (fun e => ?_)⟩
    have hc := h2.c0
    rw [e1] at hc
    exact (hf g h1).2 tb o _ _ hc (Option.some.inj e)
theorem newInF_any (D L c : Nat) (a : Option Addr) (F : Nat → Nat) (w : World) (h : Rd w D a L F) (hL : L ≤ 2 ^ 46) : Calls Try.prog 12 #[.slice a L c] w fun e w' => ∃ p, e = .returned (.pointer p) ∧ IAt w' p L F (.good 0) ∧ (∀ g, p = some ⟨g, 0, none⟩ → w.heap.size ≤ g) ∧ w.grownBy w' none ∧ ∀ k, k < w.heap.size → IForeign w' p k := by
  have HC := Lib.hid (clone_any D L c a F w h hL)
  clear h hL
  go_enter Try.func12, Try.ntmps12
  go_wp2_with fail
  go_at_call 29
  refine HC.out.mono ?_
  rintro e w1 ⟨v, rfl, hO, g1⟩
  obtain ⟨a', c', rfl, hc', hR⟩ := hO.rd
  have hb := heap_alloc_new w1 (.cells #[.slice a' L c', .bool false] 68)
  have g2 := World.grownBy_alloc w1 (.cells #[.slice a' L c', .bool false] 68) none
  have hc0 : (w1.alloc (.cells #[.slice a' L c', .bool false] 68)).cell? ⟨w1.heap.size, 0, none⟩ = some (.slice a' L c') := cell_of_row _ _ _ _ _ _ hb
  have hE : IAt (w1.alloc (.cells #[.slice a' L c', .bool false] 68)) (some ⟨w1.heap.size, 0, none⟩) L F (.good 0) :=
    ⟨⟨w1.heap.size, a', c', rfl, ⟨hc0, cell_of_row _ _ _ _ _ _ hb, fun i => frozen_of_row _ _ _ _ _ hb⟩, hc', Nat.zero_le _, (hR.grown g2 (by simp)).congr (fun i _ => by rw [Nat.zero_add])⟩⟩
  have hF : ∀ k, k < w.heap.size → IForeign (w1.alloc (.cells #[.slice a' L c', .bool false] 68)) (some ⟨w1.heap.size, 0, none⟩) k := fun k hk g hg => by
    cases hg
    have := g1.size
    refine ⟨by omega, fun tb o n c h => ?_⟩
    rw [hc0] at h
    cases h
    rcases hO.ex with ⟨e, _⟩ | ⟨b, cap, e, _, h3⟩
    · cases e
    · cases e
      omega
  have HE := Lib.hid hE
  have HF := Lib.hid hF
  have G := Lib.hid (grown_trans g1 g2)
  have HS := Lib.hid g1.size
  clear hE g1 g2 hb hO hR hc' HC hF hc0
  go_wp2_with fail
  go_ret
  exact ⟨_, rfl, HE.out, fun g e => by cases e; exact HS.out, G.out, HF.out⟩
end Go.Proofs.Ytpkeolggehjjlaa
