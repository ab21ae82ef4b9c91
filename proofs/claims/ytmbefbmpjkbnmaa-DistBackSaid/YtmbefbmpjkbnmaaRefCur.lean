/-
  The reference's cursor: how it stands; part.
-/
import Derived.Test.YtmbefbmpjkbnmaaSliceQ
import Derived.Test.YtmbefbmpjkbnmaaInTake
import Derived.BigQuiet
namespace Go.Proofs.Ytmbefbmpjkbnmaa
open Go.RowKit

set_option maxRecDepth 100000
set_option maxHeartbeats 2000000

/-- A cursor's cells. -/
structure CCells (w : World) (g : Nat) (v : Value) (p : Nat) (bad : Bool) : Prop where
  c0 : w.cell? ⟨g, 0, none⟩ = some v
  c1 : w.cell? ⟨g, 1, none⟩ = some (.int .i64 p)
  c2 : w.cell? ⟨g, 2, none⟩ = some (.bool bad)
  fr : ∀ i, w.frozen? ⟨g, i, none⟩ = false
theorem CCells.of_block {w w' : World} {g p : Nat} {v : Value} {bad : Bool} (h : CCells w g v p bad) (e : w'.heap[g]? = w.heap[g]?) : CCells w' g v p bad :=
  ⟨(World.cell?_of_block (a := ⟨g, 0, none⟩) e).trans h.c0, (World.cell?_of_block (a := ⟨g, 1, none⟩) e).trans h.c1, (World.cell?_of_block (a := ⟨g, 2, none⟩) e).trans h.c2, fun i => (World.frozen?_of_block (a := ⟨g, i, none⟩) e).trans (h.fr i)⟩
theorem CCells.bad {w : World} {g p : Nat} {v : Value} {b : Bool} (h : CCells w g v p b) (b' : Bool) : CCells (w.setCell ⟨g, 2, none⟩ (.bool b')) g v p b' :=
  ⟨(World.cell?_setCell_other _ _ _ _ (by simp)).trans h.c0, (World.cell?_setCell_other _ _ _ _ (by simp)).trans h.c1, World.cell?_setCell_same _ _ _ h.c2, fun i => by rw [World.frozen?_setCell]; exact h.fr i⟩
theorem CCells.at' {w : World} {g p : Nat} {v : Value} {b : Bool} (h : CCells w g v p b) (p' : Nat) : CCells (w.setCell ⟨g, 1, none⟩ (.int .i64 p')) g v p' b :=
  ⟨(World.cell?_setCell_other _ _ _ _ (by simp)).trans h.c0, World.cell?_setCell_same _ _ _ h.c1, (World.cell?_setCell_other _ _ _ _ (by simp)).trans h.c2, fun i => by rw [World.frozen?_setCell]; exact h.fr i⟩
def CAtP (w : World) (g L : Nat) (F : Nat → Nat) : ISt → Prop
  | .nil => False
  | .bad => ∃ a c p, CCells w g (.slice a L c) p true ∧ L ≤ c ∧ p ≤ L
  | .good p => ∃ a c, CCells w g (.slice a L c) p false ∧ L ≤ c ∧ p ≤ L ∧ Rd w g a L F
/-- How a cursor stands, of L bytes F; its block is g. -/
structure CAt (w : World) (g L : Nat) (F : Nat → Nat) (s : ISt) : Prop where
  st : CAtP w g L F s
  big : L ≤ 1048576
theorem CAt.lt {w : World} {g L : Nat} {F : Nat → Nat} {s : ISt} (h : CAt w g L F s) : g < w.heap.size := by
  have hs := h.st
  cases s with
  | nil => exact hs.elim
  | bad =>
    obtain ⟨a, c, p, h1, _⟩ := hs
    exact World.block_lt_of_cell? w _ h1.c0
  | good at' =>
    obtain ⟨a, c, h1, _⟩ := hs
    exact World.block_lt_of_cell? w _ h1.c0
theorem CAt.keep {w w' : World} {g L : Nat} {F : Nat → Nat} {s : ISt} (h : CAt w g L F s) (hk : ∀ k, k ≤ g → w'.heap[k]? = w.heap[k]?) : CAt w' g L F s := by
  have hs := h.st
  refine ⟨?_, h.big⟩
  cases s with
  | nil => exact hs
  | bad =>
    obtain ⟨a, c, p, h1, h2⟩ := hs
    exact ⟨a, c, p, h1.of_block (hk g (Nat.le_refl _)), h2⟩
  | good at' =>
    obtain ⟨a, c, h1, h2, h3, h4⟩ := hs
    exact ⟨a, c, h1.of_block (hk g (Nat.le_refl _)), h2, h3, h4.of_block fun k hlt => hk k (by omega)⟩
theorem CAt.grown {w w' : World} {g L : Nat} {F : Nat → Nat} {s : ISt} {row : Option Nat} (h : CAt w g L F s) (gr : w.grownBy w' row) (hr : ∀ k, row = some k → g < k) : CAt w' g L F s :=
  h.keep fun k hk => gr.block k (by have := h.lt; omega) (fun e => by have := hr k e.symm; omega)
/-- Are so many bytes there? -/
def ISt.fits (L : Nat) (s : ISt) (n : Nat) : Bool :=
  match s with
  | .good p => decide (n ≤ L - p)
  | _ => false
/-- What a part reads. -/
def ISt.cF (L : Nat) (F : Nat → Nat) (s : ISt) (n i : Nat) : Nat := if s.fits L n = true then F (s.off + i) else 0
structure CPart (w : World) (g L : Nat) (F : Nat → Nat) (s : ISt) (n : Nat) (e : Ending) (w' : World) : Prop where
  ex : ∃ a m c, e = .returned (.slice a m c) ∧ n ≤ m ∧ m ≤ c ∧ Rd w' w'.heap.size a m (s.cF L F n)
  st : CAt w' g L F (s.take L n)
  gr : w.grownBy w' (some g)
theorem part_bad {w w1 : World} {g L n : Nat} {F : Nat → Nat} {s : ISt} (hf : s.fits L n = false) (hw : w.grownBy w1 (some g)) (hc : CAt w1 g L F .bad) (hn : n ≤ 32) (hs : s.take L n = .bad) :
    ∃ c, (Instr.makeSlice 39 (.int .i64 32) (.int .i64 32)).run Try.prog w1 = .ok (.slice (some ⟨w1.heap.size, 0, none⟩) 32 32) (w1.alloc (.cells c 5)) ∧
      CPart w g L F s n (.returned (.slice (some ⟨w1.heap.size, 0, none⟩) 32 32)) (w1.alloc (.cells c 5)) := by
  obtain ⟨c, hr, hF⟩ := make_any 32 (by decide) w1
  have ga := World.grownBy_alloc w1 (.cells c 5) none
  have hz := World.size_alloc w1 (.cells c 5)
  refine ⟨c, hr, ⟨_, 32, 32, rfl, hn, Nat.le_refl _, ⟨fun _ => ⟨w1.heap.size, 0, rfl, by omega, fun i hi => ?_⟩⟩⟩, ?_, grown_trans hw (World.grownBy_alloc w1 (.cells c 5) (some g))⟩
  · rw [Nat.zero_add, hF.cell i hi]
    simp [ISt.cF, hf]
  · rw [hs]
    exact hc.grown ga (by simp)
theorem curPart_any {w : World} {g L : Nat} {F : Nat → Nat} {s : ISt} (n : Nat) (h : CAt w g L F s) (h0 : 0 < n) (h1 : n ≤ 32) : Calls Try.prog 109 #[.pointer (some ⟨g, 0, none⟩), .int .i64 n] w (CPart w g L F s n) := by
  have hs := h.st
  have hL := h.big
  have hlt := h.lt
  have k0 : (n : Int) ≤ 32 := by omega
  cases s with
  | nil => exact hs.elim
  | bad =>
    obtain ⟨a, c, p, hc, hLc, hp⟩ := hs
    have c0 := hc.c0
    have c1 := hc.c1
    have c2 := hc.c2
    go_enter Try.func109, Try.ntmps109
    go_wp2_with fail
    go_quiet (fail)
    generalize hw2 : w.drewN nq = w2 at *
    have g2 : w.grownBy w2 none := by rw [← hw2]; exact grown_drewN (grown_refl w none) nq
    have hc2 := hc.of_block (w' := w2) (g2.block g hlt (by simp))
    have HC : CAt (w2.setCell ⟨g, 2, none⟩ (.bool true)) g L F .bad := ⟨⟨a, c, p, hc2.bad true, hLc, hp⟩, hL⟩
    obtain ⟨c', hr, hP⟩ := part_bad (n := n) (s := .bad) rfl (grown_setCell_new (grown_some g2) ⟨g, 2, none⟩ (.bool true) (Or.inr rfl)) HC h1 rfl
    have c2 := hc2.c2
    have f2 := hc2.fr 2
    rw [show (w2.setCell ⟨g, 2, none⟩ (.bool true)).heap.size = w2.heap.size by simp [World.setCell]] at hP
    have HP := Lib.hid hP
    clear hP HC hc hc2 hLc hp h hL g2 hw2 c1 c0 h0 h1
    go_wp2_with fail
    go_ret
    exact HP.out
  | good p =>
    obtain ⟨a, c, hc, hLc, hp, hR⟩ := hs
    have c0 := hc.c0
    have c1 := hc.c1
    have c2 := hc.c2
    have e1 : (L : Int) - (p : Int) = ((L - p : Nat) : Int) := by omega
    by_cases hfit : n ≤ L - p
    · have hgt : ¬ ((L - p : Nat) : Int) < (n : Int) := by omega
      have hnt : ¬ L - p < n := by omega
      have et : ISt.take L (.good p) (n : Int) = .good (p + n) := (if_pos (by omega)).trans (by rw [Int.toNat_natCast])
      have ef : ISt.fits L (.good p) n = true := by simp [ISt.fits, hfit]
      go_enter Try.func109, Try.ntmps109
      go_wp2_with fail
      go_quiet (fail)
      generalize hw2 : w.drewN nq = w2 at *
      have g2 : w.grownBy w2 none := by rw [← hw2]; exact grown_drewN (grown_refl w none) nq
      have hc2 := hc.of_block (w' := w2) (g2.block g hlt (by simp))
      clear c0 c1 c2
      have c1 := hc2.c1
      have f1 := hc2.fr 1
      obtain ⟨q, hq⟩ : ∃ q, q = p + n := ⟨_, rfl⟩
      rw [← hq] at et
      have e2 : (p : Int) + (n : Int) = (q : Int) := by omega
      have e3 : (q : Int) - (n : Int) = (p : Int) := by omega
      have hql : (q : Int) ≤ 1048576 := by omega
      have hA := hc2.at' q
      have g3 := grown_setCell_new (row := some g) (grown_some g2) ⟨g, 1, none⟩ (.int .i64 (q : Int)) (Or.inr rfl)
      have hR3 := hR.grown g3 (by simp)
      obtain ⟨a', hs1, hs2, hs3⟩ := run_subQ c p q hR (by omega) (by omega) hLc
      rw [show q - p = n by omega] at hs1 hs2 hs3
      have HA := Lib.hid hA
      have G3 := Lib.hid g3
      have HR3 := Lib.hid hR3
      have HS := Lib.hid hs3
      have HQ := Lib.hid hq
      have HH := Lib.hid h
      have HF := Lib.hid hfit
      have HLC := Lib.hid hLc
      have HP := Lib.hid hp
      have HLT := Lib.hid hlt
      have ET := Lib.hid et
      have EF := Lib.hid ef
      clear hA g3 hR3 hs3 hq h hfit hLc hp et ef hR hc hc2 g2 hw2 e1 hgt
      go_wp2_with fail
      generalize w2.setCell ⟨g, 1, none⟩ (.int .i64 (q : Int)) = w3 at *
      clear c1 f1
      have c0 := HA.out.c0
      have c1 := HA.out.c1
      go_quiet (fail)
      go_wp2_with fail
      go_ret
      have gd := grown_drewN G3.out nq
      have hR4 := HR3.out.grown (grown_drewN (grown_refl w3 none) nq) (by simp)
      refine ⟨⟨a', n, c - p, rfl, Nat.le_refl _, by have := HLC.out; have := HF.out; omega, ?_⟩, ?_, ?_⟩
      · refine (HS.out _ hR4).congr (fun i hi => ?_) |>.mono (by have := gd.size; have := HLT.out; omega)
        show _ = if ISt.fits L (.good p) n = true then F (p + i) else 0
        rw [if_pos EF.out]
      · rw [ET.out]
        exact ⟨⟨a, c, ⟨c0, c1, HA.out.c2, HA.out.fr⟩, HLC.out, by have := HQ.out; have := HF.out; have := HP.out; omega, hR4⟩, hL⟩
      · exact gd
    · have hgt : ((L - p : Nat) : Int) < (n : Int) := by omega
      have et : ISt.take L (.good p) (n : Int) = .bad := if_neg (by omega)
      have ef : ISt.fits L (.good p) n = false := by simp [ISt.fits, hfit]
      go_enter Try.func109, Try.ntmps109
      go_wp2_with fail
      go_quiet (fail)
      generalize hw2 : w.drewN nq = w2 at *
      have g2 : w.grownBy w2 none := by rw [← hw2]; exact grown_drewN (grown_refl w none) nq
      have hc2 := hc.of_block (w' := w2) (g2.block g hlt (by simp))
      have HC : CAt (w2.setCell ⟨g, 2, none⟩ (.bool true)) g L F .bad := ⟨⟨a, c, p, hc2.bad true, hLc, hp⟩, hL⟩
      obtain ⟨c', hr, hP⟩ := part_bad (n := n) (s := .good p) ef (grown_setCell_new (grown_some g2) ⟨g, 2, none⟩ (.bool true) (Or.inr rfl)) HC h1 et
      have c2 := hc2.c2
      have f2 := hc2.fr 2
      rw [show (w2.setCell ⟨g, 2, none⟩ (.bool true)).heap.size = w2.heap.size by simp [World.setCell]] at hP
      have HP := Lib.hid hP
      clear hP HC hc hc2 hLc hp h hL g2 hw2 c1 c0 h0 h1
      go_wp2_with fail
      go_ret
      exact HP.out
end Go.Proofs.Ytmbefbmpjkbnmaa
