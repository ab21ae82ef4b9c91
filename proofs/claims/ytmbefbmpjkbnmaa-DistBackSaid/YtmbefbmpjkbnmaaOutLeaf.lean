/-
  wire's Out: how a writer stands; done, fail, put.
-/
import Derived.Test.YtmbefbmpjkbnmaaWireM
import Derived.Test.YtmbefbmpjkbnmaaRd
import Derived.Test.YtmbefbmpjkbnmaaRelAll
import Derived.Test.YtmbefbmpjkbnmaaUnderRow
import Derived.Deep.MidRow
import Derived.Test.YtmbefbmpjkbnmaaJoin1
import Derived.Test.YtmbefbmpjkbnmaaGave
namespace Go.Proofs.Ytmbefbmpjkbnmaa
open Go.RowKit

set_option maxRecDepth 100000
set_option maxHeartbeats 2000000

/-- How a writer stands: none; wrong; what was put, and how much may be. -/
inductive OSt where
  | nil
  | bad
  | good (lim n : Nat) (f : Nat → Nat)
/-- Bytes are put. -/
def OSt.put : OSt → Nat → (Nat → Nat) → OSt
  | .nil, _, _ => .nil
  | .bad, _, _ => .bad
  | .good lim n f, m, g => if n + m ≤ lim then .good lim (n + m) (cat n f g) else .bad
def OSt.fail : OSt → OSt
  | .nil => .nil
  | _ => .bad
def OSt.len : OSt → Nat
  | .good _ n _ => n
  | _ => 0
def OSt.over : OSt → Bool
  | .good _ _ _ => false
  | _ => true
theorem OSt.len_put (s : OSt) (m : Nat) (f : Nat → Nat) : (s.put m f).len ≤ s.len + m := by
  cases s with
  | nil => exact Nat.zero_le _
  | bad => exact Nat.zero_le _
  | good lim n g =>
    show OSt.len (if n + m ≤ lim then _ else _) ≤ n + m
    split
    · exact Nat.le_refl _
    · exact Nat.zero_le _
theorem OSt.len_fail (s : OSt) : s.fail.len = 0 := by cases s <;> rfl
theorem OSt.put_fail (s : OSt) (m : Nat) (f : Nat → Nat) : s.fail.put m f = s.fail := by cases s <;> rfl
theorem OSt.put_over (s : OSt) (m : Nat) (f : Nat → Nat) (h : s.over = true) : s.put m f = s := by
  cases s with
  | nil => rfl
  | bad => rfl
  | good => cases h
/-- A writer's cells. -/
structure OCells (w : World) (g : Nat) (v : Value) (lim : Int) (wr : Bool) : Prop where
  c0 : w.cell? ⟨g, 0, none⟩ = some v
  c1 : w.cell? ⟨g, 1, none⟩ = some (.int .i64 lim)
  c2 : w.cell? ⟨g, 2, none⟩ = some (.bool wr)
  fr : ∀ i, w.frozen? ⟨g, i, none⟩ = false
theorem OCells.grown {w w' : World} {g : Nat} {v : Value} {lim : Int} {wr : Bool} (h : OCells w g v lim wr) {row : Option Nat} (gr : w.grownBy w' row) (hr : some g ≠ row) : OCells w' g v lim wr :=
  ⟨gr.cell h.c0 hr, gr.cell h.c1 hr, gr.cell h.c2 hr, fun i => (World.frozen?_of_block (a := ⟨g, i, none⟩) (gr.block g (World.block_lt_of_cell? w _ h.c0) hr)).trans (h.fr i)⟩
/-- A writer that stands so, made behind w0. -/
def OAtP (w0 w : World) (p : Option Addr) : OSt → Prop
  | .nil => p = none
  | .bad => ∃ g l, p = some ⟨g, 0, none⟩ ∧ w0.heap.size ≤ g ∧ OCells w g (.slice none 0 0) l true
  | .good lim n f => ∃ g a c, p = some ⟨g, 0, none⟩ ∧ w0.heap.size ≤ g ∧ OCells w g (.slice a n c) lim false ∧ OwnN w w0.heap.size (.slice a n c) n f ∧ (∀ b, a = some ⟨b, 0, none⟩ → b ≠ g) ∧ n ≤ lim ∧ lim < 9223372036854775808
structure OAt (w0 w : World) (p : Option Addr) (s : OSt) : Prop where
  st : OAtP w0 w p s
  gr : w0.grownBy w none
theorem OAt.grown {w0 w w' : World} {p : Option Addr} {s : OSt} (h : OAt w0 w p s) (g : w.grownBy w' none) : OAt w0 w' p s := by
  refine ⟨?_, grown_trans h.gr g⟩
  have hs := h.st
  cases s with
  | nil => exact hs
  | bad =>
    obtain ⟨b, l, h1, h2, h3⟩ := hs
    exact ⟨b, l, h1, h2, h3.grown g (by simp)⟩
  | good lim n f =>
    obtain ⟨b, a, c, h1, h2, h3, h4, h5⟩ := hs
    exact ⟨b, a, c, h1, h2, h3.grown g (by simp), h4.grown g, h5⟩
structure OSays (w0 : World) (p : Option Addr) (s : OSt) (e : Ending) (w' : World) : Prop where
  ex : e = .returned (.tuple #[])
  st : OAt w0 w' p s
theorem shr_byte (x size i : Nat) (h : i < size) : (x : Int) / 2 ^ (8 * i) % 256 = (nbF x size (size - 1 - i) : Nat) := by
  unfold nbF
  rw [show size - 1 - (size - 1 - i) = i by omega, show (256 : Nat) ^ i = 2 ^ (8 * i) by rw [show (256 : Nat) = 2 ^ 8 from rfl, ← Nat.pow_mul]]
  simp
theorem done_any {w0 w : World} {p : Option Addr} {s : OSt} (h : OAt w0 w p s) : Calls Try.prog 131 #[.pointer p] w fun e w' => e = .returned (.bool s.over) ∧ w = w' := by
  have hs := h.st
  cases s with
  | nil =>
    obtain rfl : p = none := hs
    clear h
    go_enter Try.func131, Try.ntmps131
    go_wp2_with fail
    go_ret
    exact ⟨rfl, rfl⟩
  | bad =>
    obtain ⟨g, l, rfl, h2, h3⟩ := hs
    have c2 := h3.c2
    clear h3 h h2
    go_enter Try.func131, Try.ntmps131
    go_wp2_with fail
    go_ret
    exact ⟨rfl, rfl⟩
  | good lim n f =>
    obtain ⟨g, a, c, rfl, h2, h3, h4, h5⟩ := hs
    have c2 := h3.c2
    clear h3 h h2 h4 h5
    go_enter Try.func131, Try.ntmps131
    go_wp2_with fail
    go_ret
    exact ⟨rfl, rfl⟩
theorem outFail_any {w0 w : World} {p : Option Addr} {s : OSt} (h : OAt w0 w p s) : Calls Try.prog 129 #[.pointer p] w (OSays w0 p s.fail) := by
  have hs := h.st
  have gr := h.gr
  have key : ∀ (g : Nat) (v : Value) (l : Int) (wr : Bool), p = some ⟨g, 0, none⟩ → w0.heap.size ≤ g → OCells w g v l wr → Calls Try.prog 129 #[.pointer p] w (OSays w0 p .bad) := by
    intro g v l wr hp hg hc
    subst hp
    have c0 := hc.c0
    have c1 := hc.c1
    have c2 := hc.c2
    have f0 := hc.fr 0
    have f1 := hc.fr 1
    have f2 := hc.fr 2
    have hE : OAt w0 (((w.setCell ⟨g, 0, none⟩ (.slice none 0 0)).setCell ⟨g, 1, none⟩ (.int .i64 0)).setCell ⟨g, 2, none⟩ (.bool true)) (some ⟨g, 0, none⟩) .bad := by
      refine ⟨⟨g, 0, rfl, hg, ⟨?_, ?_, ?_, fun i => ?_⟩⟩, grown_setCell_new (grown_setCell_new (grown_setCell_new gr _ _ (Or.inl hg)) _ _ (Or.inl hg)) _ _ (Or.inl hg)⟩
      · rw [World.cell?_setCell_other _ _ _ _ (by simp), World.cell?_setCell_other _ _ _ _ (by simp)]
        exact World.cell?_setCell_same w _ _ c0
      · rw [World.cell?_setCell_other _ _ _ _ (by simp)]
        exact World.cell?_setCell_same _ _ _ ((World.cell?_setCell_other _ _ _ _ (by simp)).trans c1)
      · exact World.cell?_setCell_same _ _ _ (((World.cell?_setCell_other _ _ _ _ (by simp)).trans (World.cell?_setCell_other _ _ _ _ (by simp))).trans c2)
      · rw [World.frozen?_setCell, World.frozen?_setCell, World.frozen?_setCell]; exact hc.fr i
    have HE := Lib.hid hE
    clear hE hc gr hg h hs
    go_enter Try.func129, Try.ntmps129
    go_wp2_with fail
    go_end0
    exact ⟨rfl, HE.out⟩
  cases s with
  | nil =>
    obtain rfl : p = none := hs
    have HE := Lib.hid h
    clear h gr key
    go_enter Try.func129, Try.ntmps129
    go_wp2_with fail
    go_end0
    exact ⟨rfl, HE.out⟩
  | bad =>
    obtain ⟨g, l, h1, h2, h3⟩ := hs
    exact key g _ l _ h1 h2 h3
  | good lim n f =>
    obtain ⟨g, a, c, h1, h2, h3, h4, h5⟩ := hs
    exact key g _ _ _ h1 h2 h3
/-- An append to bytes of the call's own: what is turned is their block alone. -/
theorem app_N1 {w0 w : World} {B n m cv : Nat} {av a : Option Addr} {f f' : Nat → Nat} (c : Nat) (ty : TypeId) (h0 : w0.grownBy w none) (h : OwnN w w0.heap.size (.slice av n cv) n f) (hx : Rd w B a m f') (hn : n + m ≤ 2 ^ 46) :
    ∃ a' c' w', (Builtin.append_ #[39, 39] ty #[.slice av n cv, .slice a m c]).run Try.prog w = .ok (.slice a' (n + m) c') w' ∧ OwnN w' w0.heap.size (.slice a' (n + m) c') (n + m) (cat n f f') ∧ w0.grownBy w' none ∧
      (∀ g, (∀ b, av = some ⟨b, 0, none⟩ → b ≠ g) → g < w.heap.size → w'.heap[g]? = w.heap[g]? ∧ ∀ b, a' = some ⟨b, 0, none⟩ → b ≠ g) := by
  rcases h.ex with ⟨hv, rfl⟩ | ⟨g, cap, hv, h2, h3⟩
  · cases hv
    obtain ⟨v', w', k1, k2, k3⟩ := app_N0 c ty (grown_refl w none) (OwnN.nil w w.heap.size f) hx hn
    rcases k2.ex with ⟨rfl, e0⟩ | ⟨g, cap, rfl, k4, k5⟩
    · refine ⟨none, 0, w', by rw [e0]; exact k1, by rw [e0]; exact OwnN.nil _ _ _, grown_trans h0 k3, fun g hg hl => ⟨k3.block g hl (by simp), fun b e => by cases e⟩⟩
    · refine ⟨some ⟨g, 0, none⟩, cap, w', k1, ⟨Or.inr ⟨g, cap, rfl, k4, Nat.le_trans h0.size k5⟩⟩, grown_trans h0 k3, fun g' hg hl => ⟨k3.block g' hl (by simp), fun b e => by cases e; omega⟩⟩
  · cases hv
    obtain ⟨v', w', hr, ⟨g', cap', rfl, k1, k2, k3, k4⟩⟩ := app_run c ty h2 hx hn
    refine ⟨_, _, w', hr, ⟨Or.inr ⟨g', cap', rfl, k1, ?_⟩⟩, grown_new h0 k3 h3, fun g2 hg hl => ⟨k3.block g2 hl (fun e => hg g rfl (Option.some.inj e).symm), fun b e => by
      cases e
      rcases k4 with rfl | k4
      · exact hg _ rfl
      · omega⟩⟩
    have := h0.size
    omega
theorem outPut_any {w0 w : World} {p : Option Addr} {s : OSt} (D m c : Nat) (a : Option Addr) (f : Nat → Nat) (h : OAt w0 w p s) (hR : Rd w D a m f) (hm : s.len + m ≤ 2 ^ 46) : Calls Try.prog 123 #[.pointer p, .slice a m c] w (OSays w0 p (s.put m f)) := by
  have hs := h.st
  have HD := Lib.hid (done_any h)
  by_cases ho : s.over = true
  · have HE := Lib.hid h
    rw [OSt.put_over s m f ho]
    obtain ⟨b, hb⟩ : ∃ b, b = s.over := ⟨_, rfl⟩
    rw [← hb] at ho HD
    subst ho
    clear hb hs h hR hm
    go_enter Try.func123, Try.ntmps123
    go_wp2_with fail
    go_at_call 131
    refine HD.out.mono ?_
    rintro e w' ⟨rfl, rfl⟩
    go_wp2_with fail
    go_end0
    exact ⟨rfl, HE.out⟩
  · cases s with
    | nil => exact absurd rfl ho
    | bad => exact absurd rfl ho
    | good lim n f0 =>
      obtain ⟨g, av, cv, rfl, h2, h3, h4, h5, h6, h7⟩ := hs
      have HD2 : Hid (Calls Try.prog 131 #[.pointer (some ⟨g, 0, none⟩)] w fun e w' => e = .returned (.bool false) ∧ w = w') := HD
      have c0 := h3.c0
      have c1 := h3.c1
      have f0' := h3.fr 0
      have gr := h.gr
      have H3 := Lib.hid h3
      have hm' : n + m ≤ 2 ^ 46 := hm
      have k0 : (n : Int) ≤ (lim : Int) := by omega
      have k1 : (lim : Int) < 9223372036854775808 := by omega
      by_cases hroom : n + m ≤ lim
      · have k2 : ¬ ((lim : Int) - (n : Int) < (m : Int)) := by omega
        have e0 : OSt.put (.good lim n f0) m f = .good lim (n + m) (cat n f0 f) := by show (if n + m ≤ lim then _ else _) = _; rw [if_pos hroom]
        rw [e0]
        have H4 := Lib.hid h4
        have H5 := Lib.hid h5
        have H7 := Lib.hid h7
        have HM := Lib.hid hm'
        have HR := Lib.hid hR
        have HRM := Lib.hid hroom
        have G2 := Lib.hid h2
        have GR := Lib.hid gr
        clear e0 h3 h4 h5 h6 h7 hm hm' HD ho h hroom hR gr h2
        go_enter Try.func123, Try.ntmps123
        go_wp2_with fail
        go_at_call 131
        refine HD2.out.mono ?_
        rintro e w' ⟨rfl, rfl⟩
        go_wp2_with fail
        go_quiet (fail)
        have gq : w.grownBy (World.drewN w nq) none := grown_drewN (grown_refl w none) nq
        generalize World.drewN w nq = w5 at *
        have h3 := H3.out.grown gq (by simp)
        have h4 := H4.out.grown gq
        have gr := grown_trans GR.out gq
        have hR := HR.out.grown gq (by simp)
        have c0 := h3.c0
        have hm' := HM.out
        obtain ⟨a', c', w2, hap, hO2, g2, hkeep⟩ := app_N1 c 39 gr h4 hR hm'
        have HAP := Lib.hid hap
        clear hap
        obtain ⟨hbl, hne⟩ := hkeep g H5.out (World.block_lt_of_cell? w5 _ c0)
        have c0' := (World.cell?_of_block (a := ⟨g, 0, none⟩) hbl).trans c0
        have c1' := (World.cell?_of_block (a := ⟨g, 1, none⟩) hbl).trans h3.c1
        have c2' := (World.cell?_of_block (a := ⟨g, 2, none⟩) hbl).trans h3.c2
        have f1' : ∀ i, w2.frozen? ⟨g, i, none⟩ = false := fun i => (World.frozen?_of_block (a := ⟨g, i, none⟩) hbl).trans (h3.fr i)
        have f0'' := f1' 0
        have hO3 : OwnN (w2.setCell ⟨g, 0, none⟩ (.slice a' (n + m) c')) w0.heap.size (.slice a' (n + m) c') (n + m) (cat n f0 f) := by
          rcases hO2.ex with h | ⟨b, cap, e1, e2, e3⟩
          · exact ⟨Or.inl h⟩
          · cases e1
            exact ⟨Or.inr ⟨b, c', rfl, e2.of_block (heap_setCell_other w2 ⟨g, 0, none⟩ b _ (hne b rfl)) (by simpa [World.setCell] using e2.lt), e3⟩⟩
        have hE : OAt w0 (w2.setCell ⟨g, 0, none⟩ (.slice a' (n + m) c')) (some ⟨g, 0, none⟩) (.good lim (n + m) (cat n f0 f)) := by
          refine ⟨⟨g, a', c', rfl, G2.out, ⟨World.cell?_setCell_same w2 _ _ c0', ?_, ?_, fun i => ?_⟩, hO3, hne, HRM.out, H7.out⟩, grown_setCell_new g2 _ _ (Or.inl G2.out)⟩
          · rw [World.cell?_setCell_other _ _ _ _ (by simp)]; exact c1'
          · rw [World.cell?_setCell_other _ _ _ _ (by simp)]; exact c2'
          · rw [World.frozen?_setCell]; exact f1' i
        have HE := Lib.hid hE
        clear hE hO3 hO2 g2 hbl hne c1' c2' h3 h4 f1' hR gr hm' hkeep gq
        clear k0 k1
        go_wp2_with (at_builtin; refine wpList_append_run rfl (.tmp 25) (.tmp 26) 39 39 rfl _ _ _ _ rfl rfl HAP.out ?_)
        go_end0
        exact ⟨rfl, HE.out⟩
      · have k2 : (lim : Int) - (n : Int) < (m : Int) := by omega
        have HF := Lib.hid (fun W => outFail_any (w0 := w0) (w := W) (p := some ⟨g, 0, none⟩) (s := .good lim n f0))
        have HE := Lib.hid h
        have e0 : OSt.put (.good lim n f0) m f = .bad := by show (if n + m ≤ lim then _ else _) = _; rw [if_neg hroom]
        rw [e0]
        clear h3 h4 h5 h6 h7 hm hm' hroom HD ho h gr h2
        go_enter Try.func123, Try.ntmps123
        go_wp2_with fail
        go_at_call 131
        refine HD2.out.mono ?_
        rintro e w' ⟨rfl, rfl⟩
        go_wp2_with fail
        go_quiet (fail)
        have HE2 := Lib.hid (HE.out.grown (grown_drewN (grown_refl _ none) nq))
        generalize World.drewN _ nq = w5 at *
        go_wp2_with fail
        go_at_call 129
        refine (HF.out w5 HE2.out).mono ?_
        rintro e w' ⟨rfl, hE⟩
        have HE3 := Lib.hid hE
        clear hE
        go_wp2_with fail
        go_end0
        exact ⟨rfl, HE3.out⟩
end Go.Proofs.Ytmbefbmpjkbnmaa
