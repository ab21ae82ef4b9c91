/-
  The document's Bytes of a number.
-/
import Derived.Test.YtmbefbmpjkbnmaaHdPut
namespace Go.Proofs.Ytmbefbmpjkbnmaa
open Go.RowKit

set_option maxRecDepth 100000
set_option maxHeartbeats 4000000

theorem ownR_one (w : World) (v : Nat) : OwnR (w.alloc (.cells #[.int .u8 (v : Nat)] 5)) w.heap.size 1 1 (fun _ => v) where
  cell := fun i hi => by
    obtain rfl : i = 0 := by omega
    rw [cell_of_row _ _ _ _ _ _ (heap_alloc_new w _)]; rfl
  there := fun i hi => by
    obtain rfl : i = 0 := by omega
    rw [cell_of_row _ _ _ _ _ _ (heap_alloc_new w _)]; rfl
  free := fun i => frozen_of_row _ _ _ _ _ (heap_alloc_new w (.cells #[.int .u8 (v : Nat)] 5))
  le := Nat.le_refl _
  lt := by simp
/-- A byte ahead of others. -/
theorem app_ahead {w0 w : World} {B m c v : Nat} {a : Option Addr} {f : Nat → Nat} (G : Nat) (hG : G = w.heap.size) (h0 : w0.grownBy w none) (h : Rd w B a m f) (hn : 1 + m ≤ 2 ^ 46) :
    ∃ g' cap' w', (Builtin.append_ #[39, 39] 39 #[.slice (some ⟨G, 0, none⟩) 1 1, .slice a m c]).run Try.prog (w.alloc (.cells #[.int .u8 (v : Nat)] 5)) = .ok (.slice (some ⟨g', 0, none⟩) (1 + m : Nat) cap') w' ∧ OwnR w' g' (1 + m) cap' (cat 1 (fun _ => v) f) ∧ w0.grownBy w' none ∧ w0.heap.size ≤ g' := by
  subst hG
  have ga := World.grownBy_alloc w (.cells #[.int .u8 (v : Nat)] 5) none
  obtain ⟨v2, w2, hap, ⟨ex⟩⟩ := app_run c 39 (ownR_one w v) (h.grown ga (fun k e => by cases e)) hn
  obtain ⟨g', cap', rfl, h1, _, h3, h4⟩ := ex
  have h0a := grown_trans h0 ga
  have hs := h0.size
  refine ⟨g', cap', w2, hap, h1, grown_new h0a h3 hs, ?_⟩
  have := h0a.size
  omega
theorem nbF_next (n k i : Nat) (hi : i < 1 + k) : cat 1 (fun _ => n / 256 ^ k % 256) (nbF n k) i = nbF n (k + 1) i := by
  unfold cat nbF
  by_cases h : i < 1
  · obtain rfl : i = 0 := by omega
    rw [if_pos h]
    rfl
  · rw [if_neg h, show k - 1 - (i - 1) = k + 1 - 1 - i by omega]
theorem wrap_nat64 (x : Nat) (h : x < 18446744073709551616) : IntKind.u64.wrap (x : Int) = (x : Int) := by
  rw [IntKind.wrap_u64]
  omega
theorem refBytes_any (n : Nat) (w : World) (hn : n < 18446744073709551616) : Calls Try.prog 117 #[.int .u64 n] w (GaveHd w (blN n) (nbF n (blN n))) := by
  have HN := Lib.hid hn
  obtain ⟨v0, hv0⟩ : ∃ v, v = n % 256 := ⟨_, rfl⟩
  obtain ⟨n1, hn1⟩ : ∃ v, v = n / 256 := ⟨_, rfl⟩
  have e0 : (n : Int) % 256 = (v0 : Int) := by omega
  have e1 : (n : Int) / 256 = (n1 : Int) := by omega
  have i1 : (v0 : Int) < 256 := by omega
  have hO := (ownR_one w v0).congr (f' := nbF n 1) (fun i hi => by
    obtain rfl : i = 0 := by omega
    rw [hv0]
    unfold nbF
    rw [show 1 - 1 - 0 = 0 from rfl, Nat.pow_zero, Nat.div_one])
  have ga := World.grownBy_alloc w (.cells #[.int .u8 (v0 : Nat)] 5) none
  have HO := Lib.hid hO
  have HG := Lib.hid ga
  have H1 := Lib.hid hn1
  clear hO ga hn1 hv0 hn
  go_enter Try.func117, Try.ntmps117
  go_wp2_with fail
  clear e0 e1
  go_loopw [0, 3] (fun u0 u3 wr => ∃ k g cap : Nat, 1 ≤ k ∧ (k = 1 ∨ 0 < n / 256 ^ (k - 1)) ∧ u0 = .int .u64 (n / 256 ^ k : Nat) ∧ u3 = .slice (some ⟨g, 0, none⟩) k cap ∧ w.grownBy wr none ∧ w.heap.size ≤ g ∧ OwnR wr g k cap (nbF n k)) (fun u0 _ _ => (intOf u0).toNat)
  case atStart => exact ⟨1, w.heap.size, 1, Nat.le_refl _, Or.inl rfl, by rw [H1.out, Nat.pow_one]; first | done | rw [wrap_nat64 _ (Nat.lt_of_le_of_lt (Nat.div_le_self _ _) HN.out)], rfl, HG.out, Nat.le_refl _, HO.out⟩
  case round =>
    clear HO HG H1
    obtain ⟨k, g, cap, hk1, hk, rfl, rfl, hg, hgg, hO⟩ := hrel
    obtain ⟨x, hx⟩ : ∃ x, x = n / 256 ^ k := ⟨_, rfl⟩
    rw [← hx]
    have hx64 : x < 18446744073709551616 := by rw [hx]; exact Nat.lt_of_le_of_lt (Nat.div_le_self _ _) HN.out
    by_cases h0 : 0 < x
    · have hk8 : k < 8 := by
        by_cases e : k < 8
        · exact e
        · exfalso
          have h1 : (256 : Nat) ^ 8 ≤ 256 ^ k := Nat.pow_le_pow_right (by decide) (by omega)
          have h2 : n / 256 ^ k = 0 := Nat.div_eq_of_lt (Nat.lt_of_lt_of_le HN.out h1)
          omega
      obtain ⟨v, hv⟩ : ∃ v, v = x % 256 := ⟨_, rfl⟩
      obtain ⟨x1, hx1⟩ : ∃ v, v = x / 256 := ⟨_, rfl⟩
      have e0 : (x : Int) % 256 = (v : Int) := by omega
      have e1 : (x : Int) / 256 = (x1 : Int) := by omega
      have i1 : (v : Int) < 256 := by omega
      have i2 : (x : Int) > 0 := by omega
      have hx2 : x1 = n / 256 ^ (k + 1) := by rw [hx1, hx, Nat.div_div_eq_div_mul, ← Nat.pow_succ]
      have hlt : x1 < x := by omega
      obtain ⟨g', cap', w', hap, hO', hg', hgg'⟩ := app_ahead (v := v) (c := cap) wr.heap.size rfl hg hO.rd (by omega)
      have hO2 := hO'.congr (f' := nbF n (k + 1)) (fun i hi => by
        rw [hv, hx]
        exact nbF_next n k i hi)
      rw [Nat.add_comm 1 k] at hO2 hap
      have HAP := Lib.hid hap
      have HO2 := Lib.hid hO2
      have HG2 := Lib.hid hg'
      have HGG2 := Lib.hid hgg'
      have HX := Lib.hid hx
      have HX2 := Lib.hid hx2
      have HLT := Lib.hid hlt
      have HW := Lib.hid (wrap_nat64 x1 (Nat.lt_trans hlt hx64))
      have H0 := Lib.hid h0
      clear hv hx hx1 hx2 hx64 hap hO' hO2 hg' hgg' hO hg hgg hk hk1 hlt h0
      go_wp2_with (at_builtin; refine wpList_append_run rfl (.tmp 17) (.tmp 18) 39 39 rfl (.slice (some ⟨wr.heap.size, 0, none⟩) 1 1) (.slice (some ⟨g, 0, none⟩) k cap) _ _ rfl rfl HAP.out ?_)
      go_roundw
      case rel => exact ⟨k + 1, g', cap', by omega, Or.inr (by rw [Nat.add_sub_cancel, ← HX.out]; exact H0.out), by rw [HX2.out]; first | done | rw [wrap_nat64 _ (Nat.lt_of_le_of_lt (Nat.div_le_self _ _) HN.out)], rfl, HG2.out, HGG2.out, HO2.out⟩
      case measure => have := HLT.out; simp [intOf, HW.out]; omega
    · obtain rfl : x = 0 := by omega
      have hkb : k = blN n := blN_eq n k (by
        by_cases e : n < 256 ^ k
        · exact e
        · exfalso
          have := Nat.div_pos (Nat.le_of_not_lt e) (Nat.pow_pos (n := k) (by decide : 0 < 256))
          omega) hk1 (hk.imp id (fun h => by
            by_cases e : 256 ^ (k - 1) ≤ n
            · exact e
            · rw [Nat.div_eq_of_lt (by omega)] at h
              omega)) HN.out
      have HO := Lib.hid hO
      have HG := Lib.hid hg
      have HGG := Lib.hid hgg
      have HKB := Lib.hid hkb
      clear hO hg hgg hkb hk hk1 h0 hx hx64
      go_wp2_with fail
      go_ret
      rw [← HKB.out]
      exact ⟨⟨g, cap, rfl, HO.out, HGG.out⟩, HG.out⟩
end Go.Proofs.Ytmbefbmpjkbnmaa
