/-
  wire's Out: what is not the writer's stands still.
-/
import Derived.Test.YtpkeolggehjjlaaOutKit2
namespace Go.Proofs.Ytpkeolggehjjlaa
open Go.RowKit

set_option maxRecDepth 100000
set_option maxHeartbeats 2000000

/-- Block k is not the writer's. -/
def Foreign (w : World) (p : Option Addr) (k : Nat) : Prop := ∀ g, p = some ⟨g, 0, none⟩ → g ≠ k ∧ ∀ b n c, w.cell? ⟨g, 0, none⟩ = some (.slice (some ⟨b, 0, none⟩) n c) → b ≠ k
def Keep (w : World) (p : Option Addr) (w' : World) : Prop := ∀ k, k < w.heap.size → Foreign w p k → w'.heap[k]? = w.heap[k]? ∧ Foreign w' p k
theorem Keep.refl (w : World) (p : Option Addr) : Keep w p w := fun _ _ h => ⟨rfl, h⟩
theorem Keep.pre {w w1 w' : World} {g : Nat} {v : Value} (hc : w.cell? ⟨g, 0, none⟩ = some v) (gr : w.grownBy w1 none) (h : Keep w1 (some ⟨g, 0, none⟩) w') : Keep w (some ⟨g, 0, none⟩) w' := fun k hk hf => by
  have h1 := h k (Nat.lt_of_lt_of_le hk gr.size) (fun g' e => by
    cases e
    refine ⟨(hf g rfl).1, fun b n c hcell => ?_⟩
    rw [gr.cell hc (by simp)] at hcell
    cases hcell
    exact (hf g rfl).2 b n c hc)
  exact ⟨h1.1.trans (gr.block k hk (by simp)), h1.2⟩
structure OSaysK (w0 w : World) (p : Option Addr) (s : OSt) (e : Ending) (w' : World) : Prop where
  says : OSays w0 p s e w'
  kp : Keep w p w'
theorem outFailK_any {w0 w : World} {p : Option Addr} {s : OSt} (h : OAt w0 w p s) : Calls Try.prog 44 #[.pointer p] w (OSaysK w0 w p s.fail) := by
  have hs := h.st
  have gr := h.gr
  have key : ∀ (g : Nat) (v : Value) (l : Int) (wr : Bool), p = some ⟨g, 0, none⟩ → w0.heap.size ≤ g → OCells w g v l wr → Calls Try.prog 44 #[.pointer p] w (OSaysK w0 w p .bad) := by
    intro g v l wr hp hg hc
    subst hp
    have c0 := hc.c0
    have c1 := hc.c1
    have c2 := hc.c2
    have f0 := hc.fr 0
    have f1 := hc.fr 1
    have f2 := hc.fr 2
    have hE : OAt w0 (((w.setCell ⟨g, 0, none⟩ (.slice none 0 0)).setCell ⟨g, 1, none⟩ (.int .i64 0)).setCell ⟨g, 2, none⟩ (.bool true)) (some ⟨g, 0, none⟩) .bad := by
      refine ⟨⟨g, 0, rfl, hg, ⟨?_, ?_, ?_, fun i => ?_⟩⟩, grown_setCell_new (grown_setCell_new (grown_setCell_new gr _ _ (Or.inl hg)) _ _ (Or.inl hg)) _ _ (Or.inl hg)⟩
      · rw [World.cell?_setCell_other _ _ _ _ (by simp), World.cell?_setCell_other _ _ _ _ (by simp)]
        exact World.cell?_setCell_same w _ _ c0
      · rw [World.cell?_setCell_other _ _ _ _ (by simp)]
        exact World.cell?_setCell_same _ _ _ ((World.cell?_setCell_other _ _ _ _ (by simp)).trans c1)
      · exact World.cell?_setCell_same _ _ _ (((World.cell?_setCell_other _ _ _ _ (by simp)).trans (World.cell?_setCell_other _ _ _ _ (by simp))).trans c2)
      · rw [World.frozen?_setCell, World.frozen?_setCell, World.frozen?_setCell]; exact hc.fr i
    have HE := Lib.hid hE
    have HKP : Hid (Keep w (some ⟨g, 0, none⟩) (((w.setCell ⟨g, 0, none⟩ (.slice none 0 0)).setCell ⟨g, 1, none⟩ (.int .i64 0)).setCell ⟨g, 2, none⟩ (.bool true))) := fun k hk hf => by
      have hne := (hf g rfl).1
      refine ⟨?_, fun g' e => ?_⟩
      · rw [heap_setCell_other _ ⟨g, 2, none⟩ k _ (Ne.symm hne), heap_setCell_other _ ⟨g, 1, none⟩ k _ (Ne.symm hne), heap_setCell_other _ ⟨g, 0, none⟩ k _ (Ne.symm hne)]
      · cases e
        refine ⟨hne, fun b n c hcell => ?_⟩
        rw [World.cell?_setCell_other _ _ _ _ (by simp), World.cell?_setCell_other _ _ _ _ (by simp), World.cell?_setCell_same w _ _ c0] at hcell
        cases hcell
    clear hE hc gr hg h hs
    go_enter Try.func44, Try.ntmps44
    go_wp2_with fail
    go_end0
    exact ⟨⟨rfl, HE.out⟩, HKP.out⟩
  cases s with
  | nil =>
    obtain rfl : p = none := hs
    have HE := Lib.hid h
    clear h gr key
    go_enter Try.func44, Try.ntmps44
    go_wp2_with fail
    go_end0
    exact ⟨⟨rfl, HE.out⟩, Keep.refl _ _⟩
  | bad =>
    obtain ⟨g, l, h1, h2, h3⟩ := hs
    exact key g _ l _ h1 h2 h3
  | good lim n f =>
    obtain ⟨g, a, c, h1, h2, h3, h4, h5⟩ := hs
    exact key g _ _ _ h1 h2 h3
theorem outPutK_any {w0 w : World} {p : Option Addr} {s : OSt} (D m c : Nat) (a : Option Addr) (f : Nat → Nat) (h : OAt w0 w p s) (hR : Rd w D a m f) (hm : s.len + m ≤ 2 ^ 46) : Calls Try.prog 40 #[.pointer p, .slice a m c] w (OSaysK w0 w p (s.put m f)) := by
  have hs := h.st
  have HD := Lib.hid (done_any h)
  by_cases ho : s.over = true
  · have HE := Lib.hid h
    rw [OSt.put_over s m f ho]
    obtain ⟨b, hb⟩ : ∃ b, b = s.over := ⟨_, rfl⟩
    rw [← hb] at ho HD
    subst ho
    clear hb hs h hR hm
    go_enter Try.func40, Try.ntmps40
    go_wp2_with fail
    go_at_call 45
    refine HD.out.mono ?_
    rintro e w' ⟨rfl, rfl⟩
    go_wp2_with fail
    go_end0
    exact ⟨⟨rfl, HE.out⟩, Keep.refl _ _⟩
  · cases s with
    | nil => exact absurd rfl ho
    | bad => exact absurd rfl ho
    | good lim n f0 =>
      obtain ⟨g, av, cv, rfl, h2, h3, h4, h5, h6, h7⟩ := hs
      have HD2 : Hid (Calls Try.prog 45 #[.pointer (some ⟨g, 0, none⟩)] w fun e w' => e = .returned (.bool false) ∧ w = w') := HD
      have c0 := h3.c0
      have c1 := h3.c1
      have f0' := h3.fr 0
      have gr := h.gr
      have H3 := Lib.hid h3
      have hm' : n + m ≤ 2 ^ 46 := hm
      have k0 : (n : Int) ≤ (lim : Int) := by omega
      have k1 : (lim : Int) < 9223372036854775808 := by omega
      by_cases hroom : n + m ≤ lim
      · have k2 : ¬ ((lim : Int) - (n : Int) < (m : Int)) := by omega
        have e0 : OSt.put (.good lim n f0) m f = .good lim (n + m) (cat n f0 f) := by show (if n + m ≤ lim then _ else _) = _; rw [if_pos hroom]
        rw [e0]
        have H4 := Lib.hid h4
        have H5 := Lib.hid h5
        have H7 := Lib.hid h7
        have HM := Lib.hid hm'
        have HR := Lib.hid hR
        have HRM := Lib.hid hroom
        have G2 := Lib.hid h2
        have GR := Lib.hid gr
        clear e0 h3 h4 h5 h6 h7 hm hm' HD ho h hroom hR gr h2
        go_enter Try.func40, Try.ntmps40
        go_wp2_with fail
        go_at_call 45
        refine HD2.out.mono ?_
        rintro e w' ⟨rfl, rfl⟩
        go_wp2_with fail
        go_quiet (fail)
        have gq : w.grownBy (World.drewN w nq) none := grown_drewN (grown_refl w none) nq
        generalize World.drewN w nq = w5 at *
        have h3 := H3.out.grown gq (by simp)
        have h4 := H4.out.grown gq
        have gr := grown_trans GR.out gq
        have hR := HR.out.grown gq (by simp)
        have c0 := h3.c0
        have hm' := HM.out
        obtain ⟨a', c', w2, hap, hO2, g2, hkeep⟩ := app_N1 c 28 gr h4 hR hm'
        have HAP := Lib.hid hap
        clear hap
        obtain ⟨hbl, hne⟩ := hkeep g H5.out (World.block_lt_of_cell? w5 _ c0)
        have c0' := (World.cell?_of_block (a := ⟨g, 0, none⟩) hbl).trans c0
        have c1' := (World.cell?_of_block (a := ⟨g, 1, none⟩) hbl).trans h3.c1
        have c2' := (World.cell?_of_block (a := ⟨g, 2, none⟩) hbl).trans h3.c2
        have f1' : ∀ i, w2.frozen? ⟨g, i, none⟩ = false := fun i => (World.frozen?_of_block (a := ⟨g, i, none⟩) hbl).trans (h3.fr i)
        have f0'' := f1' 0
        have hO3 : OwnN (w2.setCell ⟨g, 0, none⟩ (.slice a' (n + m) c')) w0.heap.size (.slice a' (n + m) c') (n + m) (cat n f0 f) := by
          rcases hO2.ex with h | ⟨b, cap, e1, e2, e3⟩
          · exact ⟨Or.inl h⟩
          · cases e1
            exact ⟨Or.inr ⟨b, c', rfl, e2.of_block (heap_setCell_other w2 ⟨g, 0, none⟩ b _ (hne b rfl)) (by simpa [World.setCell] using e2.lt), e3⟩⟩
        have hE : OAt w0 (w2.setCell ⟨g, 0, none⟩ (.slice a' (n + m) c')) (some ⟨g, 0, none⟩) (.good lim (n + m) (cat n f0 f)) := by
          refine ⟨⟨g, a', c', rfl, G2.out, ⟨World.cell?_setCell_same w2 _ _ c0', ?_, ?_, fun i => ?_⟩, hO3, hne, HRM.out, H7.out⟩, grown_setCell_new g2 _ _ (Or.inl G2.out)⟩
          · rw [World.cell?_setCell_other _ _ _ _ (by simp)]; exact c1'
          · rw [World.cell?_setCell_other _ _ _ _ (by simp)]; exact c2'
          · rw [World.frozen?_setCell]; exact f1' i
        have HKP : Hid (Keep w (some ⟨g, 0, none⟩) (w2.setCell ⟨g, 0, none⟩ (.slice a' (n + m) c'))) := fun k hk hf => by
          have hne2 := (hf g rfl).1
          have hb := hkeep k (fun b e => by
            refine (hf g rfl).2 b n cv ?_
            rw [← e]
            exact H3.out.c0) (Nat.lt_of_lt_of_le hk gq.size)
          refine ⟨?_, fun g' e => ?_⟩
          · rw [heap_setCell_other _ ⟨g, 0, none⟩ k _ (Ne.symm hne2), hb.1, gq.block k hk (by simp)]
          · cases e
            refine ⟨hne2, fun b n' c2 hcell => ?_⟩
            rw [World.cell?_setCell_same w2 _ _ c0'] at hcell
            cases hcell
            exact hb.2 b rfl
        have HE := Lib.hid hE
        clear hE hO3 hO2 g2 hbl hne c1' c2' h3 h4 f1' hR gr hm' hkeep gq
        clear k0 k1
        go_wp2_with (at_builtin; refine wpList_append_run rfl (.tmp 25) (.tmp 26) 28 28 rfl _ _ _ _ rfl rfl HAP.out ?_)
        go_end0
        exact ⟨⟨rfl, HE.out⟩, HKP.out⟩
      · have k2 : (lim : Int) - (n : Int) < (m : Int) := by omega
        have HF := Lib.hid (fun W => outFailK_any (w0 := w0) (w := W) (p := some ⟨g, 0, none⟩) (s := .good lim n f0))
        have HE := Lib.hid h
        have e0 : OSt.put (.good lim n f0) m f = .bad := by show (if n + m ≤ lim then _ else _) = _; rw [if_neg hroom]
        rw [e0]
        clear h3 h4 h5 h6 h7 hm hm' hroom HD ho h gr h2
        go_enter Try.func40, Try.ntmps40
        go_wp2_with fail
        go_at_call 45
        refine HD2.out.mono ?_
        rintro e w' ⟨rfl, rfl⟩
        go_wp2_with fail
        go_quiet (fail)
        have HE2 := Lib.hid (HE.out.grown (grown_drewN (grown_refl _ none) nq))
        have HGQ : Hid (w.grownBy (World.drewN w nq) none) := grown_drewN (grown_refl w none) nq
        generalize World.drewN w nq = w5 at *
        go_wp2_with fail
        go_at_call 44
        refine (HF.out w5 HE2.out).mono ?_
        rintro e w' ⟨⟨rfl, hE⟩, hkp⟩
        have HE3 := Lib.hid hE
        have HKP := Lib.hid (Keep.pre H3.out.c0 HGQ.out hkp)
        clear hE hkp
        go_wp2_with fail
        go_end0
        exact ⟨⟨rfl, HE3.out⟩, HKP.out⟩
theorem outU8K_any {w0 w : World} {p : Option Addr} {s : OSt} (D m c : Nat) (a : Option Addr) (f : Nat → Nat) (h : OAt w0 w p s) (hR : Rd w D a m f) (hm : s.len + m ≤ 2 ^ 46) : Calls Try.prog 18 #[.pointer p, .slice a m c] w (OSaysK w0 w p (s.put m f)) := by
  have HP := Lib.hid (outPutK_any D m c a f h hR hm)
  clear h hR hm
  go_enter Try.func18, Try.ntmps18
  go_wp2_with fail
  go_at_call 40
  refine HP.out.mono ?_
  rintro e w' ⟨⟨rfl, hE⟩, hkp⟩
  have HKP := Lib.hid hkp
  have HE := Lib.hid hE
  clear hE HP hkp
  go_wp2_with fail
  go_end0
  exact ⟨⟨rfl, HE.out⟩, HKP.out⟩
theorem outCountK_any {w0 w : World} {g lim n0 : Nat} {f0 : Nat → Nat} (most : Int) (n : Nat) (h : OAt w0 w (some ⟨g, 0, none⟩) (.good lim n0 f0)) (hw : ¬ min most 65535 < (n : Int)) (m0 : -9223372036854775808 ≤ most) (m1 : most < 9223372036854775808) (hm : n0 + 2 ≤ 2 ^ 46) :
    Calls Try.prog 42 #[.pointer (some ⟨g, 0, none⟩), .int .i64 most, .int .i64 n] w (OSaysK w0 w (some ⟨g, 0, none⟩) (OSt.put (.good lim n0 f0) 2 (nbF n 2))) := by
  obtain ⟨hi, hhi⟩ : ∃ y, y = n / 256 % 256 := ⟨_, rfl⟩
  obtain ⟨lo, hlo⟩ : ∃ y, y = n % 256 := ⟨_, rfl⟩
  have e1 : (n : Int) / 256 % 256 = (hi : Int) := by omega
  have e2 : (n : Int) % 256 = (lo : Int) := by omega
  have hb : ∀ i, i < 2 → (if i = 0 then hi else lo) = nbF n 2 i := fun i h2 => by
    obtain rfl | rfl : i = 0 ∨ i = 1 := by omega
    · rw [if_pos rfl, hhi]; rfl
    · rw [if_neg (by decide), hlo]; unfold nbF; simp
  have HB := Lib.hid hb
  have HH := Lib.hid h
  have HM : Hid (OSt.len (.good lim n0 f0) + 2 ≤ 2 ^ 46) := hm
  obtain ⟨v, hv⟩ : ∃ v, w.cell? ⟨g, 0, none⟩ = some v := by
    obtain ⟨g', a, c, e, _, h3, _⟩ := h.st
    cases e
    exact ⟨_, h3.c0⟩
  have HC := Lib.hid hv
  clear hhi hlo hb hm h hv
  by_cases hmo : 65535 < most
  · rw [show min most 65535 = 65535 by omega] at hw
    · have e3 : (n : Int) / 256 = (hi : Int) := by omega
      have HP := Lib.hid (outU8K_any _ 2 2 _ _ (HH.out.grown (World.grownBy_alloc w (.cells #[.int .u8 hi, .int .u8 lo] 5) none)) (rd_two w hi lo (w.heap.size + 1) (by omega)) HM.out)
      go_enter Try.func42, Try.ntmps42
      go_wp2_with fail
      go_at_call 18
      refine HP.out.mono ?_
      rintro e w' ⟨⟨rfl, hE⟩, hkp⟩
      have HE := Lib.hid (hE.putCongr HB.out)
      have HKP := Lib.hid (Keep.pre HC.out (World.grownBy_alloc w (.cells #[.int .u8 hi, .int .u8 lo] 5) none) hkp)
      clear hE HP hkp
      go_wp2_with fail
      go_end0
      exact ⟨⟨rfl, HE.out⟩, HKP.out⟩
  · rw [show min most 65535 = most by omega] at hw
    · have e3 : (n : Int) / 256 = (hi : Int) := by omega
      have HP := Lib.hid (outU8K_any _ 2 2 _ _ (HH.out.grown (World.grownBy_alloc w (.cells #[.int .u8 hi, .int .u8 lo] 5) none)) (rd_two w hi lo (w.heap.size + 1) (by omega)) HM.out)
      go_enter Try.func42, Try.ntmps42
      go_wp2_with fail
      go_at_call 18
      refine HP.out.mono ?_
      rintro e w' ⟨⟨rfl, hE⟩, hkp⟩
      have HE := Lib.hid (hE.putCongr HB.out)
      have HKP := Lib.hid (Keep.pre HC.out (World.grownBy_alloc w (.cells #[.int .u8 hi, .int .u8 lo] 5) none) hkp)
      clear hE HP hkp
      go_wp2_with fail
      go_end0
      exact ⟨⟨rfl, HE.out⟩, HKP.out⟩
theorem outPutOver_any {w0 w : World} {p : Option Addr} {s : OSt} (m c : Nat) (a : Option Addr) (h : OAt w0 w p s) (ho : s.over = true) : Calls Try.prog 40 #[.pointer p, .slice a m c] w (OSays w0 p s) := by
  have HD := Lib.hid (done_any h)
  have HE := Lib.hid h
  rw [ho] at HD
  clear h ho
  go_enter Try.func40, Try.ntmps40
  go_wp2_with fail
  go_at_call 45
  refine HD.out.mono ?_
  rintro e w' ⟨rfl, rfl⟩
  go_wp2_with fail
  go_end0
  exact ⟨rfl, HE.out⟩
/-- Sized, of bytes that lie in a block that is not the writer's. -/
theorem outSized2_any {w0 w : World} {p : Option Addr} {lim n0 : Nat} {f0 : Nat → Nat} (most : Int) (m cv tb o : Nat) (f : Nat → Nat) (h : OAt w0 w p (.good lim n0 f0)) (hfr : Foreign w p tb) (htb : tb < w.heap.size) (hR : ∀ i, i < m → w.cell? ⟨tb, o + i, none⟩ = some (.int .u8 (f i))) (m0 : -9223372036854775808 ≤ most) (m1 : most < 9223372036854775808) (hm : n0 + 2 + m ≤ 2 ^ 46) :
    Calls Try.prog 20 #[.pointer p, .int .i64 most, .slice (some ⟨tb, o, none⟩) m cv] w (OSays w0 p ((OSt.count (.good lim n0 f0) most m).put m f)) := by
  by_cases hw : min most 65535 < (m : Int)
  · have e : OSt.count (.good lim n0 f0) most m = .bad := if_pos hw
    have HC := Lib.hid (outCount_any most m h m0 m1 (by show n0 + 2 ≤ _; omega))
    rw [e] at HC ⊢
    clear h hm m0 m1 hR hfr htb e hw
    go_enter Try.func20, Try.ntmps20
    go_wp2_with fail
    go_at_call 42
    refine HC.out.mono ?_
    rintro e w1 ⟨rfl, hE⟩
    have HP := Lib.hid (outPutOver_any m cv (some ⟨tb, o, none⟩) hE rfl)
    clear hE HC
    go_wp2_with fail
    go_at_call 40
    refine HP.out.mono ?_
    rintro e w' ⟨rfl, hE⟩
    have HE := Lib.hid hE
    clear hE HP
    go_wp2_with fail
    go_end0
    exact ⟨rfl, HE.out⟩
  · have e : OSt.count (.good lim n0 f0) most m = OSt.put (.good lim n0 f0) 2 (nbF m 2) := if_neg hw
    have hp : ∃ g, p = some ⟨g, 0, none⟩ := by
      obtain ⟨g, a, c, h1, _⟩ := h.st
      exact ⟨g, h1⟩
    obtain ⟨g, rfl⟩ := hp
    have HC := Lib.hid (outCountK_any most m h hw m0 m1 (by omega))
    rw [e]
    obtain ⟨t, ht⟩ : ∃ t, t = OSt.put (.good lim n0 f0) 2 (nbF m 2) := ⟨_, rfl⟩
    have HLN : Hid (t.len + m ≤ 2 ^ 46) := by
      have := OSt.len_put (.good lim n0 f0) 2 (nbF m 2)
      rw [← ht] at this
      have h2 : OSt.len (.good lim n0 f0) = n0 := rfl
      show _ ≤ _
      omega
    rw [← ht] at HC ⊢
    have HFR := Lib.hid hfr
    have HTB := Lib.hid htb
    have HR := Lib.hid hR
    clear h hm m0 m1 hR hfr htb e hw ht
    go_enter Try.func20, Try.ntmps20
    go_wp2_with fail
    go_at_call 42
    refine HC.out.mono ?_
    rintro e w1 ⟨⟨rfl, hE⟩, hkp⟩
    have hb := (hkp tb HTB.out HFR.out).1
    have HP := Lib.hid (outPut_any (tb + 1) m cv (some ⟨tb, o, none⟩) f hE ⟨fun _ => ⟨tb, o, rfl, Nat.lt_succ_self _, fun i hi => (World.cell?_of_block (a := ⟨tb, o + i, none⟩) hb).trans (HR.out i hi)⟩⟩ HLN.out)
    clear hE HC hkp hb
    go_wp2_with fail
    go_at_call 40
    refine HP.out.mono ?_
    rintro e w' ⟨rfl, hE⟩
    have HE := Lib.hid hE
    clear hE HP
    go_wp2_with fail
    go_end0
    exact ⟨rfl, HE.out⟩
end Go.Proofs.Ytpkeolggehjjlaa
