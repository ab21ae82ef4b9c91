/-
  suite's labelled.
-/
import Derived.Test.YtobaplndoaeoiaaDoorSuM
import Derived.Test.YtobaplndoaeoiaaDoorSuApp
import Derived.Deep.CutBlock
namespace Go.Proofs.YtobaplndoaeoiaaDoor
open Go.RowKit

set_option maxRecDepth 100000
set_option maxHeartbeats 4000000

/-- A byte more. -/
theorem app_byteM {w0 w : World} {g n cap v : Nat} {f : Nat → Nat} (B : Nat) (hB : B = w.heap.size) (h0 : w0.grownBy w none) (hg : w0.heap.size ≤ g) (h : OwnM w g n cap f) (hn : n + 1 ≤ 2 ^ 40) :
    ∃ g' cap' w', (Builtin.append_ #[23, 23] 23 #[.slice (some ⟨g, 0, none⟩) n cap, .slice (some ⟨B, 0, none⟩) 1 1]).run Tryd.prog (w.alloc (.cells #[.int .u8 (v : Nat)] 5)) = .ok (.slice (some ⟨g', 0, none⟩) (n + 1 : Nat) cap') w' ∧ OwnM w' g' (n + 1) cap' (cat n f (fun _ => v)) ∧ w0.grownBy w' none ∧ w0.heap.size ≤ g' := by
  subst hB
  have ga := World.grownBy_alloc w (.cells #[.int .u8 (v : Nat)] 5) none
  have bb := heap_alloc_new w (.cells #[.int .u8 (v : Nat)] 5)
  have hoa := h.grown ga (by simp)
  have hR : Rd (w.alloc (.cells #[.int .u8 (v : Nat)] 5)) (w.heap.size + 1) (some ⟨w.heap.size, 0, none⟩) 1 (fun _ => v) := ⟨fun _ => ⟨w.heap.size, 0, rfl, by omega, fun k hk => by
    obtain rfl : k = 0 := by omega
    rw [cell_of_row _ _ _ _ _ _ bb]; rfl⟩⟩
  obtain ⟨v2, w2, hap, ⟨ex⟩⟩ := app_runM 1 23 hoa hR (by omega)
  obtain ⟨g', cap', rfl, h1, h3, h4⟩ := ex
  have h0a := grown_trans h0 ga
  refine ⟨g', cap', w2, hap, h1, grown_new h0a h3 hg, ?_⟩
  have := h0a.size
  omega
/-- Two more. -/
theorem app_twoM {w0 w : World} {g n cap v u : Nat} {f : Nat → Nat} (B : Nat) (hB : B = w.heap.size) (h0 : w0.grownBy w none) (hg : w0.heap.size ≤ g) (h : OwnM w g n cap f) (hn : n + 2 ≤ 2 ^ 40) :
    ∃ g' cap' w', (Builtin.append_ #[23, 23] 23 #[.slice (some ⟨g, 0, none⟩) n cap, .slice (some ⟨B, 0, none⟩) 2 2]).run Tryd.prog (w.alloc (.cells #[.int .u8 (v : Nat), .int .u8 (u : Nat)] 5)) = .ok (.slice (some ⟨g', 0, none⟩) (n + 2 : Nat) cap') w' ∧ OwnM w' g' (n + 2) cap' (cat n f (twoF v u)) ∧ w0.grownBy w' none ∧ w0.heap.size ≤ g' := by
  subst hB
  have ga := World.grownBy_alloc w (.cells #[.int .u8 (v : Nat), .int .u8 (u : Nat)] 5) none
  have bb := heap_alloc_new w (.cells #[.int .u8 (v : Nat), .int .u8 (u : Nat)] 5)
  have hoa := h.grown ga (by simp)
  have hR : Rd (w.alloc (.cells #[.int .u8 (v : Nat), .int .u8 (u : Nat)] 5)) (w.heap.size + 1) (some ⟨w.heap.size, 0, none⟩) 2 (twoF v u) := ⟨fun _ => ⟨w.heap.size, 0, rfl, by omega, fun k hk => by
    obtain rfl | rfl : k = 0 ∨ k = 1 := by omega
    · rw [cell_of_row _ _ _ _ _ _ bb]; rfl
    · rw [cell_of_row _ _ _ _ _ _ bb]; rfl⟩⟩
  obtain ⟨v2, w2, hap, ⟨ex⟩⟩ := app_runM 2 23 hoa hR (by omega)
  obtain ⟨g', cap', rfl, h1, h3, h4⟩ := ex
  have h0a := grown_trans h0 ga
  refine ⟨g', cap', w2, hap, h1, grown_new h0a h3 hg, ?_⟩
  have := h0a.size
  omega
/-- What is handed back: bytes of the call's own. -/
structure GaveM (w : World) (n : Nat) (f : Nat → Nat) (e : Ending) (w' : World) : Prop where
  ex : ∃ g cap, e = .returned (.slice (some ⟨g, 0, none⟩) n cap) ∧ n ≤ cap ∧ Rd w' w'.heap.size (some ⟨g, 0, none⟩) n f ∧ w.heap.size ≤ g
  gr : w.grownBy w' none
theorem shr_byteM (X r k m : Nat) (h : k = m + (r + 1)) : (X : Int) / 2 ^ (8 * r) % 256 = ((nbF X k m : Nat) : Int) := by
  subst h
  unfold nbF
  rw [show m + (r + 1) - 1 - m = r by omega, show (256 : Nat) = 2 ^ 8 from rfl, ← Nat.pow_mul]
  simp
theorem labelled_any (m kid n : Nat) (t : Nat → Nat) (w : World) (ht : ∀ i, t i < 256) (hm : m ≤ 100) (hk : kid < 18446744073709551616) (hn : n < 65536) :
    Calls Tryd.prog 18 #[.string (strOf m t), .int .u64 kid, .int .u16 n] w (GaveM w (m + 10) (labF m t kid n)) := by
  obtain ⟨cap0, w0, z, g0, hO0⟩ := bytes_ofM w m t ht
  have hO0 := hO0.congr (f' := labF m t kid n) (fun i hi => by unfold labF; rw [if_pos hi])
  obtain ⟨s, hs⟩ : ∃ s, s = strOf m t := ⟨_, rfl⟩
  rw [← hs] at z ⊢
  obtain ⟨B0, hB0⟩ : ∃ B, B = w.heap.size := ⟨_, rfl⟩
  rw [← hB0] at z hO0
  have HO := Lib.hid hO0
  have HG := Lib.hid g0
  have HS := Lib.hid hs
  have HB := Lib.hid hB0
  have HK := Lib.hid hk
  have HN := Lib.hid hn
  have HM := Lib.hid hm
  clear hO0 g0 hs hB0 hk hn hm
  go_enter Tryd.func18, Tryd.ntmps18
  go_wp2_with fail
  clear z
  go_loopw [7, 8] (fun u7 u8 wr => ∃ k g cap : Nat, k ≤ 8 ∧ u8 = .int .i64 ((8 - k : Nat) - 1 : Int) ∧ u7 = .slice (some ⟨g, 0, none⟩) (m + k : Nat) cap ∧ w.grownBy wr none ∧ w.heap.size ≤ g ∧ OwnM wr g (m + k) cap (labF m t kid n)) (fun _ u8 _ => (intOf u8 + 1).toNat)
  case atStart => exact ⟨0, B0, cap0, by omega, rfl, rfl, HG.out, by rw [HB.out]; exact Nat.le_refl _, HO.out⟩
  case round =>
    clear HO HG HB HS
    obtain ⟨k, g, cap, hk8, rfl, rfl, hg, hgg, hO⟩ := hrel
    by_cases hlt : k < 8
    · obtain ⟨r, hr⟩ : ∃ r, r = 7 - k := ⟨_, rfl⟩
      have e0 : ((8 - k : Nat) - 1 : Int) = (r : Int) := by omega
      rw [e0]
      have i1 : (r : Int) ≥ 0 := by omega
      have i2 : (r : Int) ≤ 7 := by omega
      have hz := shr_byteM kid r 8 k (by omega)
      obtain ⟨v, hv⟩ : ∃ v, v = nbF kid 8 k := ⟨_, rfl⟩
      rw [← hv] at hz
      obtain ⟨g', cap', w', hap, hO', hg', hgg'⟩ := app_byteM (v := v) wr.heap.size rfl hg hgg hO (by have := HM.out; omega)
      have hO2 := hO'.congr (f' := labF m t kid n) (fun i hi => by rw [hv]; exact labF_next m k kid n t hlt i hi)
      have HAP := Lib.hid hap
      have HO2 := Lib.hid hO2
      have HG2 := Lib.hid hg'
      have HGG2 := Lib.hid hgg'
      have HR := Lib.hid hr
      have HLT := Lib.hid hlt
      clear hap hO2 hg' hgg' hO' hO hg hgg hv hr hlt hk8 e0
      go_wp2_with (at_builtin; refine wpList_append_run rfl (.tmp 15) (.tmp 21) 23 23 rfl (.slice (some ⟨g, 0, none⟩) (m + k : Nat) cap) (.slice (some ⟨wr.heap.size, 0, none⟩) 1 1) _ _ rfl rfl HAP.out ?_)
      go_roundw
      case rel =>
        have := HR.out
        have := HLT.out
        exact ⟨k + 1, g', cap', by omega, by rw [show ((8 - (k + 1) : Nat) - 1 : Int) = (r : Int) - 1 by omega], rfl, HG2.out, HGG2.out, HO2.out⟩
      case measure => simp [intOf]
    · obtain rfl : k = 8 := by omega
      have i1 : ¬ (((8 - 8 : Nat) - 1 : Int) ≥ 0) := by omega
      have e1 : (n : Int) / 256 % 256 = ((n / 256 % 256 : Nat) : Int) := by omega
      have e2 : (n : Int) % 256 = ((n % 256 : Nat) : Int) := by omega
      obtain ⟨g', cap', w', hap, hO', hg', hgg'⟩ := app_twoM (v := n / 256 % 256) (u := n % 256) wr.heap.size rfl hg hgg hO (by have := HM.out; omega)
      have hO2 := hO'.congr (f' := labF m t kid n) (fun i hi => labF_end m kid n t i hi)
      obtain ⟨v, hv⟩ : ∃ v, v = n / 256 % 256 := ⟨_, rfl⟩
      obtain ⟨u, hu⟩ : ∃ u, u = n % 256 := ⟨_, rfl⟩
      rw [← hv, ← hu] at hap
      rw [← hv] at e1
      rw [← hu] at e2
      have HAP := Lib.hid hap
      have HO2 := Lib.hid hO2
      have HG2 := Lib.hid hg'
      have HGG2 := Lib.hid hgg'
      clear hap hO2 hg' hgg' hO' hO hg hgg hv hu hlt hk8
      go_wp2_with (at_builtin; refine wpList_append_run rfl (.tmp 23) (.tmp 29) 23 23 rfl (.slice (some ⟨g, 0, none⟩) (m + 8 : Nat) cap) (.slice (some ⟨wr.heap.size, 0, none⟩) 2 2) _ _ rfl rfl HAP.out ?_)
      go_ret
      exact ⟨⟨g', cap', rfl, HO2.out.le, HO2.out.rd, HGG2.out⟩, HG2.out⟩
end Go.Proofs.YtobaplndoaeoiaaDoor
