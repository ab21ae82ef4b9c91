/-
  The reference's cursor: dev, ok.
-/
import Derived.Test.YtmbefbmpjkbnmaaRefCurN
import Derived.Test.YtmbefbmpjkbnmaaQuietTail
import Derived.Test.YtmbefbmpjkbnmaaOrd3
import Derived.Test.YtmbefbmpjkbnmaaUnderRow
import Derived.BigQuiet
namespace Go.Proofs.Ytmbefbmpjkbnmaa
open Go.RowKit

set_option maxRecDepth 100000
set_option maxHeartbeats 2000000

structure CDev (w : World) (g L : Nat) (F : Nat → Nat) (s : ISt) (e : Ending) (w' : World) : Prop where
  ex : e = .returned (.agg (cellsOf .u8 2 (s.cF L F 2)))
  st : CAt w' g L F (s.take L 2)
  gr : w.grownBy w' (some g)
theorem curDev_any {w : World} {g L : Nat} {F : Nat → Nat} {s : ISt} (h : CAt w g L F s) : Calls Try.prog 111 #[.pointer (some ⟨g, 0, none⟩)] w (CDev w g L F s) := by
  have ga := World.grownBy_alloc w (.cells #[.int .u8 0, .int .u8 0] 26) none
  have hz := World.size_alloc w (.cells #[.int .u8 0, .int .u8 0] 26)
  have hn := holds_alloc w 26 .u8 2 (fun _ => 0) #[.int .u8 0, .int .u8 0] rfl
  have hlt := h.lt
  have h1 := h.grown ga (by simp)
  go_enter Try.func111, Try.ntmps111
  go_wp2_with fail
  obtain ⟨B, hB⟩ : ∃ B, B = w.heap.size := ⟨_, rfl⟩
  generalize w.alloc (.cells #[.int .u8 0, .int .u8 0] 26) = w1 at *
  rw [← hB] at hz hn hlt ⊢
  have HB := Lib.hid hB
  have HLT := Lib.hid hlt
  have HGA := Lib.hid ga
  have HN := Lib.hid hn
  have HP := Lib.hid (curPart_any 2 h1 (by decide) (by decide))
  have HZ := Lib.hid hz
  clear hB hlt ga hn h h1 hz
  go_at_call 109
  refine HP.out.mono ?_
  rintro e w2 ⟨⟨a, m, c, rfl, hm, hc, hR⟩, hst, hgr⟩
  obtain ⟨tb, o, rfl, htb, hcell⟩ := hR.ex (by omega)
  have hb2 := HN.out.grown hgr (by have := HLT.out; simp; omega)
  obtain ⟨f, hf⟩ : ∃ f, f = s.cF L F 2 := ⟨_, rfl⟩
  rw [← hf] at hR hcell
  have HFE := Lib.hid hf
  clear hf
  have x0 := hcell 0 (by omega)
  have x1 := hcell 1 (by omega)
  rw [Nat.add_zero] at x0
  have j0 : (0 : Int) < (m : Int) := by omega
  have j1 : (1 : Int) < (m : Int) := by omega
  go_wp2_with fail
  have HST := Lib.hid hst
  have HGR := Lib.hid hgr
  clear hst hgr hR hcell HP
  refine wp_region_quiet_tail (C := fun W => w2.grownBy W none) 7 (by kernel_rfl) (by kernel_rfl) (grown_drew (grown_refl w2 none)) ?_
  simp only [List.take_succ_cons, List.take_zero, List.drop_succ_cons, List.drop_zero]
  refine wpQ_val (some 6) (v := .slice (some ⟨tb, o, none⟩) m c) rfl rfl (fun W hW => by go_simp) ?_
  simp only [Act.put, List.setIfInBounds_toArray, List.set_cons_succ, List.set_cons_zero]
  refine wpQ_val (some 7) (v := .pointer (some ⟨tb, o, none⟩)) rfl rfl (fun W hW => by go_simp; try (intro h; omega)) ?_
  simp only [Act.put, List.setIfInBounds_toArray, List.set_cons_succ, List.set_cons_zero]
  refine wpQ_val (some 8) (v := .int .u8 (f 0 : Nat)) rfl rfl (fun W hW => by have h := hW.cell x0 (by simp); go_simp) ?_
  simp only [Act.put, List.setIfInBounds_toArray, List.set_cons_succ, List.set_cons_zero]
  refine wpQ_val (some 9) (v := .slice (some ⟨tb, o, none⟩) m c) rfl rfl (fun W hW => by go_simp) ?_
  simp only [Act.put, List.setIfInBounds_toArray, List.set_cons_succ, List.set_cons_zero]
  refine wpQ_val (some 10) (v := .pointer (some ⟨tb, o + 1, none⟩)) rfl rfl (fun W hW => by go_simp; try (intro h; omega)) ?_
  simp only [Act.put, List.setIfInBounds_toArray, List.set_cons_succ, List.set_cons_zero]
  refine wpQ_val (some 11) (v := .int .u8 (f 1 : Nat)) rfl rfl (fun W hW => by have h := hW.cell x1 (by simp); go_simp) ?_
  simp only [Act.put, List.setIfInBounds_toArray, List.set_cons_succ, List.set_cons_zero]
  refine wpQ_val (some 12) (v := .agg (cellsOf .u8 2 f)) rfl rfl (fun W hW => by go_simp; try rfl) ?_
  simp only [Act.put, List.setIfInBounds_toArray, List.set_cons_succ, List.set_cons_zero]
  intro V gd
  have hb3 := hb2.grown gd (by simp)
  have g4 : V.grownBy (V.setRow B (cellsOf .u8 2 f)) (some B) := grown_setRow_new (grown_refl V _) B _ (Or.inr rfl)
  have HST2 := Lib.hid ((HST.out.grown gd (by simp)).grown g4 (fun k e => by cases e; exact HLT.out))
  have HG2 : Hid (w.grownBy (V.setRow B (cellsOf .u8 2 f)) (some g)) := grown_setRow_new (grown_trans (grown_trans (grown_some HGA.out) HGR.out) (grown_some gd)) B _ (Or.inl (by have := HB.out; omega))
  clear g4 gd
  go_wp2_with (refine wpList_store_row rfl 26 (.tmp 2) (.tmp 12) rfl B _ rfl rfl 26 _ hb3.block (by rw [cellsOf_size]; kernel_rfl) rfl (cellsOf_all _ _ _) ?_)
  exact bodyPost_ret (res_row rfl rfl (hb3.setRow .u8 2 _) (by kernel_rfl) (by kernel_rfl)) rfl ⟨by rw [HFE.out], HST2.out, HG2.out⟩
/-- Are all bytes read? -/
def ISt.all (L : Nat) : ISt → Bool
  | .good p => decide (p = L)
  | _ => false
theorem CAt.drewN {w : World} {g L : Nat} {F : Nat → Nat} {s : ISt} (h : CAt w g L F s) (n : Nat) : CAt (w.drewN n) g L F s := h.grown (grown_drewN (grown_refl w none) n) (by simp)
theorem curOk_any {w : World} {g L : Nat} {F : Nat → Nat} {s : ISt} (h : CAt w g L F s) : Calls Try.prog 113 #[.pointer (some ⟨g, 0, none⟩)] w fun e w' => e = .returned (.bool (s.all L)) ∧ w.grownBy w' none := by
  have hs := h.st
  cases s with
  | nil => exact hs.elim
  | bad =>
    obtain ⟨a, c, p, hc, hLc, hp⟩ := hs
    have c0 := hc.c0
    have c1 := hc.c1
    have c2 := hc.c2
    clear h hc hLc hp
    go_enter Try.func113, Try.ntmps113
    go_wp2_with fail
    go_quiet (fail)
    go_wp2_with fail
    go_ret
    exact ⟨rfl, grown_drewN (grown_refl w none) _⟩
  | good p =>
    obtain ⟨a, c, hc, hLc, hp, hR⟩ := hs
    have c0 := hc.c0
    have c1 := hc.c1
    have c2 := hc.c2
    have HEQ : ((p : Int) == (L : Int)) = ISt.all L (.good p) := by
      by_cases e : p = L
      · subst e; simp [ISt.all]
      · rw [show ISt.all L (.good p) = false from decide_eq_false e]; exact beq_eq_false_iff_ne.2 (by omega)
    have HE := Lib.hid HEQ
    clear h hc hLc hp hR HEQ
    go_enter Try.func113, Try.ntmps113
    go_wp2_with fail
    go_quiet (fail)
    go_wp2_with fail
    go_ret
    exact ⟨congrArg (fun b => Ending.returned (.bool b)) HE.out, grown_drewN (grown_refl w none) _⟩
end Go.Proofs.Ytmbefbmpjkbnmaa
