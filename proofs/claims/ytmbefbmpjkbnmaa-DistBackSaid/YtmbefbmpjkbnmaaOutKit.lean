/-
  wire's Out: NewOut, Clone, Bytes; what puts one thing.
-/
import Derived.Test.YtmbefbmpjkbnmaaOutLeaf
import Derived.Lib.SliceRun
namespace Go.Proofs.Ytmbefbmpjkbnmaa
open Go.RowKit

set_option maxRecDepth 100000
set_option maxHeartbeats 2000000

/-- A writer that is made. -/
structure NewOutSays (w : World) (l : Int) (e : Ending) (w' : World) : Prop where
  ex : ∃ p, e = .returned (.pointer p) ∧ OAt w w' p (if 0 ≤ l then .good l.toNat 0 (fun _ => 0) else .bad)
theorem newOut_any (l : Int) (h0 : -9223372036854775808 ≤ l) (h1 : l < 9223372036854775808) (w : World) : Calls Try.prog 121 #[.int .i64 l] w (NewOutSays w l) := by
  have hb := heap_alloc_new w (.cells #[.slice none 0 0, .int .i64 l, .bool (decide (l < 0))] 212)
  have hC : OCells (w.alloc (.cells #[.slice none 0 0, .int .i64 l, .bool (decide (l < 0))] 212)) w.heap.size (.slice none 0 0) l (decide (l < 0)) := ⟨cell_of_row _ _ _ _ _ _ hb, cell_of_row _ _ _ _ _ _ hb, cell_of_row _ _ _ _ _ _ hb, fun i => frozen_of_row _ _ _ _ _ hb⟩
  have gr := World.grownBy_alloc w (.cells #[.slice none 0 0, .int .i64 l, .bool (decide (l < 0))] 212) none
  have hE : OAt w (w.alloc (.cells #[.slice none 0 0, .int .i64 l, .bool (decide (l < 0))] 212)) (some ⟨w.heap.size, 0, none⟩) (if 0 ≤ l then .good l.toNat 0 (fun _ => 0) else .bad) := by
    refine ⟨?_, gr⟩
    by_cases hl : 0 ≤ l
    · rw [if_pos hl]
      rw [decide_eq_false (show ¬ l < 0 by omega)] at hC
      refine ⟨w.heap.size, none, 0, rfl, Nat.le_refl _, ?_, OwnN.nil _ _ _, (fun b e => by cases e), Nat.zero_le _, by omega⟩
      rw [decide_eq_false (show ¬ l < 0 by omega), show ((l.toNat : Nat) : Int) = l by omega]
      exact hC
    · rw [if_neg hl]
      rw [decide_eq_true (show l < 0 by omega)] at hC
      refine ⟨w.heap.size, l, rfl, Nat.le_refl _, ?_⟩
      rw [decide_eq_true (show l < 0 by omega)]
      exact hC
  have HE := Lib.hid hE
  clear hE gr hC hb h0 h1
  go_enter Try.func121, Try.ntmps121
  go_wp2_with fail
  go_ret
  exact ⟨_, rfl, HE.out⟩

theorem clone_any (D n c : Nat) (a : Option Addr) (f : Nat → Nat) (w : World) (h : Rd w D a n f) (hn : n ≤ 2 ^ 46) : Calls Try.prog 138 #[.slice a n c] w (GaveN w n f) := by
  cases a with
  | none =>
    have h0 : n = 0 := by
      by_cases e : 0 < n
      · obtain ⟨_, _, h1, _⟩ := h.ex e
        cases h1
      · omega
    subst h0
    have e0 := Lib.run_eql_slice_nil (P := Try.prog) w 39 5 none 0 c 0 0 (by kernel_rfl)
    clear h hn
    go_enter Try.func138, Try.ntmps138
    go_wp2_with fail
    go_ret
    exact ⟨.slice none 0 0, rfl, OwnN.nil _ _ _, grown_refl w none⟩
  | some ad =>
    have ho := ownR_empty w
    have ga := World.grownBy_alloc w (.cells #[] 5) none
    obtain ⟨v', w', hr, ⟨g', cap', rfl, k1, k2, k3, k4⟩⟩ := app_run c 39 ho (h.grown ga (by simp)) (by omega)
    have hz := World.size_alloc w (.cells #[] 5)
    have hE : OwnN w' w.heap.size (.slice (some ⟨g', 0, none⟩) n cap') n f := ⟨Or.inr ⟨g', cap', rfl, by
      have := k1.congr (f' := f) (fun i _ => by unfold cat; rw [if_neg (by omega)]; rfl)
      rwa [Nat.zero_add] at this, by omega⟩⟩
    have gE : w.grownBy w' none := grown_new ga k3 (Nat.le_refl _)
    rw [Nat.zero_add] at hr
    have HR := Lib.hid hr
    have HE := Lib.hid hE
    have GE := Lib.hid gE
    have e0 := Lib.run_eql_slice_nil (P := Try.prog) w 39 5 (some ad) n c 0 0 (by kernel_rfl)
    clear hr hE gE k1 k2 k3 k4 hz ho ga h hn
    go_enter Try.func138, Try.ntmps138
    go_wp2_with (at_builtin; refine wpList_append_run rfl (.tmp 5) (.tmp 6) 39 39 rfl _ _ _ _ rfl rfl HR.out ?_)
    go_ret
    exact ⟨_, rfl, HE.out, GE.out⟩
/-- The error. -/
def OSt.code : OSt → Int
  | .nil => 1
  | .bad => 3
  | .good _ _ _ => 0
def OSt.fun : OSt → Nat → Nat
  | .good _ _ f => f
  | _ => fun _ => 0
structure BytesSays (w : World) (s : OSt) (e : Ending) (w' : World) : Prop where
  ex : ∃ a c, e = .returned (.tuple #[.slice a s.len c, .int .i64 s.code]) ∧ OwnN w' w.heap.size (.slice a s.len c) s.len s.fun ∧ w.grownBy w' none
theorem outBytes_any {w0 w : World} {p : Option Addr} {s : OSt} (h : OAt w0 w p s) (hn : s.len ≤ 2 ^ 46) : Calls Try.prog 122 #[.pointer p] w (BytesSays w s) := by
  have hs := h.st
  have gr := h.gr
  cases s with
  | nil =>
    obtain rfl : p = none := hs
    clear gr h hn
    go_enter Try.func122, Try.ntmps122
    go_wp2_with fail
    go_ret2
    exact ⟨none, 0, rfl, OwnN.nil _ _ _, grown_refl w none⟩
  | bad =>
    obtain ⟨g, l, rfl, h2, h3⟩ := hs
    have c2 := h3.c2
    clear gr h hn h2 h3
    go_enter Try.func122, Try.ntmps122
    go_wp2_with fail
    go_ret2
    exact ⟨none, 0, rfl, OwnN.nil _ _ _, grown_refl w none⟩
  | good lim n f =>
    obtain ⟨g, a, c, rfl, h2, h3, h4, h5, h6, h7⟩ := hs
    have c0 := h3.c0
    have c2 := h3.c2
    obtain ⟨a', c', he, hc', hR⟩ := h4.rd
    cases he
    have HC := Lib.hid (clone_any w.heap.size n c a f w hR hn)
    clear gr h hn h2 h3 h4 h5 h6 h7 hR hc'
    go_enter Try.func122, Try.ntmps122
    go_wp2_with fail
    go_at_call 138
    refine HC.out.mono ?_
    rintro e w' ⟨v, rfl, hO, g2⟩
    obtain ⟨a', c', rfl, hc', hR⟩ := hO.rd
    have HO := Lib.hid hO
    have G2 := Lib.hid g2
    clear hO g2 hR hc' HC
    go_wp2_with fail
    go_ret2
    exact ⟨_, _, rfl, HO.out, G2.out⟩
end Go.Proofs.Ytmbefbmpjkbnmaa
