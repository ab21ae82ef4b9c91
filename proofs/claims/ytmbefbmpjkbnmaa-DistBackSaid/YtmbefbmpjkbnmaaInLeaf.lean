/-
  wire's In: how a reader stands; Left, End, fail, take, number.
-/
import Derived.Test.YtmbefbmpjkbnmaaOutKit
namespace Go.Proofs.Ytmbefbmpjkbnmaa
open Go.RowKit

set_option maxRecDepth 100000
set_option maxHeartbeats 2000000

/-- How a reader stands: none; wrong; how many bytes were taken. -/
inductive ISt where
  | nil
  | bad
  | good (at' : Nat)
/-- n bytes are taken, of L. -/
def ISt.take (L : Nat) : ISt → Int → ISt
  | .nil, _ => .nil
  | .bad, _ => .bad
  | .good a, n => if 0 ≤ n ∧ n ≤ ((L - a : Nat) : Int) then .good (a + n.toNat) else .bad
/-- So many are handed back. -/
def ISt.got (L : Nat) : ISt → Int → Nat
  | .good a, n => if 0 ≤ n ∧ n ≤ ((L - a : Nat) : Int) then n.toNat else 0
  | _, _ => 0
def ISt.off : ISt → Nat
  | .good a => a
  | _ => 0
def ISt.fail : ISt → ISt
  | .nil => .nil
  | _ => .bad
def ISt.left (L : Nat) : ISt → Nat
  | .good a => L - a
  | _ => 0
def ISt.code (L : Nat) : ISt → Int
  | .nil => 1
  | .bad => 9
  | .good a => if 0 < L - a then 9 else 0
/-- A reader's cells. -/
structure ICells (w : World) (g : Nat) (v : Value) (wr : Bool) : Prop where
  c0 : w.cell? ⟨g, 0, none⟩ = some v
  c1 : w.cell? ⟨g, 1, none⟩ = some (.bool wr)
  fr : ∀ i, w.frozen? ⟨g, i, none⟩ = false
theorem ICells.of_block {w w' : World} {g : Nat} {v : Value} {wr : Bool} (h : ICells w g v wr) (e : w'.heap[g]? = w.heap[g]?) : ICells w' g v wr :=
  ⟨(World.cell?_of_block (a := ⟨g, 0, none⟩) e).trans h.c0, (World.cell?_of_block (a := ⟨g, 1, none⟩) e).trans h.c1, fun i => (World.frozen?_of_block (a := ⟨g, i, none⟩) e).trans (h.fr i)⟩
def IAtP (w : World) (p : Option Addr) (L : Nat) (F : Nat → Nat) : ISt → Prop
  | .nil => p = none
  | .bad => ∃ g, p = some ⟨g, 0, none⟩ ∧ ICells w g (.slice none 0 0) true
  | .good at' => ∃ g a c, p = some ⟨g, 0, none⟩ ∧ ICells w g (.slice a (L - at') c) false ∧ L - at' ≤ c ∧ at' ≤ L ∧ Rd w g a (L - at') (fun i => F (at' + i))
structure IAt (w : World) (p : Option Addr) (L : Nat) (F : Nat → Nat) (s : ISt) : Prop where
  st : IAtP w p L F s
/-- Its block. -/
def rowP (p : Option Addr) : Option Nat := p.map (·.block)
theorem IAt.keep {w w' : World} {p : Option Addr} {L : Nat} {F : Nat → Nat} {s : ISt} (h : IAt w p L F s) (hk : ∀ g, p = some ⟨g, 0, none⟩ → g < w.heap.size → ∀ k, k ≤ g → w'.heap[k]? = w.heap[k]?) : IAt w' p L F s := by
  have hs := h.st
  cases s with
  | nil => exact ⟨hs⟩
  | bad =>
    obtain ⟨g, h1, h2⟩ := hs
    exact ⟨⟨g, h1, h2.of_block (hk g h1 (World.block_lt_of_cell? w _ h2.c0) g (Nat.le_refl _))⟩⟩
  | good at' =>
    obtain ⟨g, a, c, h1, h2, h3, h4, h5⟩ := hs
    have hk' := hk g h1 (World.block_lt_of_cell? w _ h2.c0)
    exact ⟨⟨g, a, c, h1, h2.of_block (hk' g (Nat.le_refl _)), h3, h4, h5.of_block (fun k hlt => hk' k (by omega))⟩⟩
theorem IAt.grown {w w' : World} {p : Option Addr} {L : Nat} {F : Nat → Nat} {s : ISt} (h : IAt w p L F s) {row : Option Nat} (gr : w.grownBy w' row) (hr : ∀ g k, p = some ⟨g, 0, none⟩ → row = some k → g < k) : IAt w' p L F s :=
  h.keep fun g hp hg k hk => gr.block k (by omega) (fun e => by have := hr g k hp e.symm; omega)
theorem IAt.grown0 {w w' : World} {p : Option Addr} {L : Nat} {F : Nat → Nat} {s : ISt} (h : IAt w p L F s) (gr : w.grownBy w' none) : IAt w' p L F s := h.grown gr (fun _ _ _ e => by cases e)
structure ISays (w : World) (p : Option Addr) (L : Nat) (F : Nat → Nat) (s : ISt) (w' : World) : Prop where
  st : IAt w' p L F s
  gr : w.grownBy w' (rowP p)
theorem inLeft_any {w : World} {p : Option Addr} {L : Nat} {F : Nat → Nat} {s : ISt} (h : IAt w p L F s) : Calls Try.prog 143 #[.pointer p] w fun e w' => e = .returned (.int .i64 (s.left L : Nat)) ∧ w = w' := by
  have hs := h.st
  cases s with
  | nil =>
    obtain rfl : p = none := hs
    clear h
    go_enter Try.func143, Try.ntmps143
    go_wp2_with fail
    go_ret
    exact ⟨rfl, rfl⟩
  | bad =>
    obtain ⟨g, rfl, h2⟩ := hs
    have c0 := h2.c0
    clear h h2
    go_enter Try.func143, Try.ntmps143
    go_wp2_with fail
    go_ret
    exact ⟨rfl, rfl⟩
  | good at' =>
    obtain ⟨g, a, c, rfl, h2, h3, h4, h5⟩ := hs
    have c0 := h2.c0
    obtain ⟨m, hm⟩ : ∃ m, m = L - at' := ⟨_, rfl⟩
    show Calls _ _ _ _ fun e w' => e = .returned (.int .i64 ((L - at' : Nat) : Nat)) ∧ w = w'
    rw [← hm] at c0 ⊢
    clear h h2 h3 h4 h5 hm
    go_enter Try.func143, Try.ntmps143
    go_wp2_with fail
    go_ret
    exact ⟨rfl, rfl⟩
theorem inEnd_any {w : World} {p : Option Addr} {L : Nat} {F : Nat → Nat} {s : ISt} (h : IAt w p L F s) : Calls Try.prog 107 #[.pointer p] w fun e w' => e = .returned (.int .i64 (s.code L)) ∧ w = w' := by
  have hs := h.st
  cases s with
  | nil =>
    obtain rfl : p = none := hs
    clear h
    go_enter Try.func107, Try.ntmps107
    go_wp2_with fail
    go_ret
    exact ⟨rfl, rfl⟩
  | bad =>
    obtain ⟨g, rfl, h2⟩ := hs
    have c0 := h2.c0
    have c1 := h2.c1
    clear h h2
    go_enter Try.func107, Try.ntmps107
    go_wp2_with fail
    go_ret
    exact ⟨rfl, rfl⟩
  | good at' =>
    obtain ⟨g, a, c, rfl, h2, h3, h4, h5⟩ := hs
    have c0 := h2.c0
    have c1 := h2.c1
    obtain ⟨m, hm⟩ : ∃ m, m = L - at' := ⟨_, rfl⟩
    show Calls _ _ _ _ fun e w' => e = .returned (.int .i64 (if 0 < L - at' then 9 else 0)) ∧ w = w'
    rw [← hm] at c0 ⊢
    clear h h2 h3 h4 h5 hm
    by_cases h0 : 0 < m
    · rw [if_pos h0]
      have j0 : (0 : Int) < (m : Int) := by omega
      go_enter Try.func107, Try.ntmps107
      go_wp2_with fail
      go_ret
      exact ⟨rfl, rfl⟩
    · rw [if_neg h0]
      have j0 : ¬ (0 : Int) < (m : Int) := by omega
      go_enter Try.func107, Try.ntmps107
      go_wp2_with fail
      go_ret
      exact ⟨rfl, rfl⟩
theorem inFail_any {w : World} {p : Option Addr} {L : Nat} {F : Nat → Nat} {s : ISt} (h : IAt w p L F s) : Calls Try.prog 132 #[.pointer p] w fun e w' => e = .returned (.tuple #[]) ∧ ISays w p L F s.fail w' := by
  have hs := h.st
  have key : ∀ (g : Nat) (v : Value) (wr : Bool), p = some ⟨g, 0, none⟩ → ICells w g v wr → Calls Try.prog 132 #[.pointer p] w fun e w' => e = .returned (.tuple #[]) ∧ ISays w p L F .bad w' := by
    intro g v wr hp hc
    subst hp
    have c0 := hc.c0
    have c1 := hc.c1
    have f0 := hc.fr 0
    have f1 := hc.fr 1
    have hE : ISays w (some ⟨g, 0, none⟩) L F .bad ((w.setCell ⟨g, 0, none⟩ (.slice none 0 0)).setCell ⟨g, 1, none⟩ (.bool true)) := by
      refine ⟨⟨⟨g, rfl, ⟨?_, ?_, fun i => ?_⟩⟩⟩, grown_setCell_new (grown_setCell_new (grown_refl w _) _ _ (Or.inr rfl)) _ _ (Or.inr rfl)⟩
      · rw [World.cell?_setCell_other _ _ _ _ (by simp)]
        exact World.cell?_setCell_same w _ _ c0
      · exact World.cell?_setCell_same _ _ _ ((World.cell?_setCell_other _ _ _ _ (by simp)).trans c1)
      · rw [World.frozen?_setCell, World.frozen?_setCell]; exact hc.fr i
    have HE := Lib.hid hE
    clear hE hc h hs
    go_enter Try.func132, Try.ntmps132
    go_wp2_with fail
    go_end0
    exact ⟨rfl, HE.out⟩
  cases s with
  | nil =>
    obtain rfl : p = none := hs
    have HE := Lib.hid h
    clear h key
    go_enter Try.func132, Try.ntmps132
    go_wp2_with fail
    go_end0
    exact ⟨rfl, HE.out, grown_refl _ _⟩
  | bad =>
    obtain ⟨g, h1, h2⟩ := hs
    exact key g _ _ h1 h2
  | good at' =>
    obtain ⟨g, a, c, h1, h2, h3⟩ := hs
    exact key g _ _ h1 h2
end Go.Proofs.Ytmbefbmpjkbnmaa
