/-
  The library's slices.Concat of texts.
-/
import Derived.Test.YtlfopcigbgfnlaaDoorJoin1
import Derived.Lib.AppendZeros
namespace Go.Proofs.YtlfopcigbgfnlaaDoor
open Go.RowKit

set_option maxRecDepth 100000
set_option maxHeartbeats 1000000

theorem grow_nil (n : Nat) (w : World) (hn : n ≤ 2 ^ 40) : Calls Tryd.prog 47 #[.slice none 0 0, .int .i64 n] w (GaveN w 0 (fun _ => 0)) := by
  by_cases h0 : 0 < n
  · obtain ⟨i0, hi, hz, hsz, hby⟩ := info_parts info_u8
    have hr := Lib.run_append_nil_zeros (P := Tryd.prog) w 22 3 22 5 i0 (.int .u8 0) .i64 .i64 under_bytes (by kernel_rfl) hi hz n h0 (by omega) (by omega) (by rw [hby]; omega)
    have hcg := grownCap_ge w n 0 5
    generalize grownCap w n 0 5 = cap at *
    obtain ⟨C, hC⟩ : ∃ C, C = Builtin.zeroCells (Value.cells (.int .u8 0)) n ++ Builtin.zeroCells (Value.cells (.int .u8 0)) (cap - n) := ⟨_, rfl⟩
    have hCs : C.size = cap := by rw [hC]; simp [size_zeroCells, Value.cells]; omega
    rw [← hC] at hr
    have hb := heap_alloc_new w.drew (.cells C 5)
    have hg := grown_alloc (grown_drew (grown_refl w none)) (.cells C 5)
    have hO : OwnR (w.drew.alloc (.cells C 5)) w.heap.size 0 cap (fun _ => 0) :=
      ⟨fun i hi => absurd hi (by omega), fun i hi => by
        have hb' : w.drew.heap.size = w.heap.size := rfl
        rw [hb'] at hb
        rw [cell_of_row _ _ _ _ _ _ hb, Array.getElem?_eq_getElem (by rw [hCs]; exact hi)]
        rfl, fun i => frozen_of_row _ _ _ _ _ hb, Nat.zero_le _, by simp⟩
    have j0 : (0 : Int) < n := by omega
    have j1 : (n : Int) ≤ 1099511627776 := by omega
    have HO := Lib.hid hO
    have HG := Lib.hid hg
    have HR := Lib.hid hr
    clear hO hg hb hr hC hCs hcg hi hz hsz hby h0 hn
    go_enter Tryd.func47, Tryd.ntmps47
    go_wp2_with (at_builtin; refine Lib.wpList_append_run _ rfl (.tmp 20) (.tmp 21) 22 3 rfl (.slice none 0 0) (.int .i64 n) rfl rfl _ _ HR.out ?_)
    go_ret
    exact ⟨_, rfl, ⟨Or.inr ⟨w.heap.size, cap, rfl, HO.out, Nat.le_refl _⟩⟩, HG.out⟩
  · obtain rfl : n = 0 := by omega
    go_enter Tryd.func47, Tryd.ntmps47
    go_wp2
    go_ret
    exact ⟨_, rfl, OwnN.nil _ _ _, grown_refl w none⟩

theorem concat_any (n c B : Nat) (a : Option Addr) (off g : Nat → Nat) (w : World) (hT : Texts w B a n off g) (hB : B ≤ w.heap.size) (hn : n ≤ 2 ^ 40) (hN : off n ≤ 2 ^ 40) :
    Calls Tryd.prog 31 #[.slice a n c] w (GaveN w (off n) g) := by
  have HT := Lib.hid hT
  have hz := hT.zero
  have Hz := Lib.hid hz
  have HB := Lib.hid hB
  have HN := Lib.hid hN
  have Hn := Lib.hid hn
  clear hT hz hB hN hn
  go_enter Tryd.func31, Tryd.ntmps31
  go_wp2_with fail
  go_loop [3, 5, 11] (fun u3 _ u11 => ∃ k : Nat, k ≤ n ∧ u11 = .int .i64 k ∧ u3 = .int .i64 ((off k : Nat) : Int)) (fun _ _ u11 => n - (intOf u11).toNat)
  case atStart => exact ⟨0, by omega, rfl, by rw [Hz.out]; rfl⟩
  case round =>
    obtain ⟨k, hk, rfl, rfl⟩ := hrel
    by_cases hkn : k < n
    · have hmo := HT.out.mono (k + 1) n hkn (Nat.le_refl _)
      obtain ⟨lb, lo, h1, _, h3⟩ := HT.out.ex (by omega)
      obtain ⟨aj, L, cj, hc, _, ho, _⟩ := h3 k hkn
      have hoN := HN.out
      have i1 : (k : Int) < n := by omega
      obtain ⟨m, hm⟩ : ∃ m, m = off k := ⟨_, rfl⟩
      have hm2 : off (k + 1) = m + L := by omega
      have i2 : (m : Int) + L ≤ 1099511627776 := by omega
      have i3 : (L : Int) ≤ 1099511627776 := by omega
      have i4 : (k : Int) ≤ 1099511627776 := by have := Hn.out; omega
      have i5 : ¬ ((m : Int) + L < 0) := by omega
      rw [← hm]
      have Hm := Lib.hid hm
      have Hm2 := Lib.hid hm2
      subst h1
      clear hm hm2 h3 ho hmo hoN
      go_wp2_with fail
      first
        | exact ⟨⟨k + 1, by omega, by go_num, by rw [Hm2.out]; go_num⟩, by simp [intOf]; omega⟩
        | (go_round
           case rel => exact ⟨k + 1, by omega, by go_num, by rw [Hm2.out]; go_num⟩
           case measure => simp [intOf]; omega)
    · obtain rfl : k = n := by omega
      have i1 : (k : Int) ≤ k := by omega
      clear hkn hk
      have hG := grow_nil (off k) w HN.out
      have HG := Lib.hid hG
      clear hG
      go_wp2_with fail
      go_at_call 47
      with_reducible refine (HG.out).mono ?_
      rintro e w1 ⟨v1, rfl, hv1, hg1⟩
      go_wp2_with fail
      go_loopw [6, 8, 27] (fun u6 _ u27 wr => ∃ j : Nat, j ≤ k ∧ u27 = .int .i64 j ∧ OwnN wr w.heap.size u6 (off j) g ∧ w.grownBy wr none) (fun _ _ u27 _ => k - (intOf u27).toNat)
      case atStart => exact ⟨0, by omega, rfl, by rw [Hz.out]; exact ⟨hv1.ex.imp id (fun ⟨g', cap, q1, q2, q3⟩ => ⟨g', cap, q1, q2.congr (fun i hi => absurd hi (by omega)), q3⟩)⟩, hg1⟩
      case round =>
        clear hv1 hg1 HG
        obtain ⟨j, hj, rfl, hown, hgr⟩ := hrel
        by_cases hjn : j < k
        · have hTr := HT.out.grown hgr (fun k e => by cases e)
          have hmo := HT.out.mono (j + 1) k hjn (Nat.le_refl _)
          obtain ⟨lb, lo, h1, _, h3⟩ := hTr.ex (by omega)
          obtain ⟨aj, L, cj, hc, _, ho, hbytes⟩ := h3 j hjn
          have hoN := HN.out
          have hRj : Rd wr B aj L (fun i => g (off j + i)) := ⟨hbytes⟩
          obtain ⟨v', w', hap, hown', hgr'⟩ := app_N0 cj 22 hgr hown hRj (by omega)
          have hown2 : OwnN w' w.heap.size v' (off (j + 1)) g := by
            rw [ho]
            refine ⟨hown'.ex.imp id (fun ⟨g', cap', q1, q2, q3⟩ => ⟨g', cap', q1, q2.congr (fun i _ => ?_), q3⟩)⟩
            unfold cat
            split
            · rfl
            · show g (off j + (i - off j)) = g i
              rw [show off j + (i - off j) = i by omega]
          have i1 : (j : Int) < k := by omega
          have i4 : (j : Int) ≤ 1099511627776 := by have := Hn.out; omega
          have HAP := Lib.hid hap
          subst h1
          clear hown' hap hRj hbytes h3 ho hmo hTr hoN
          go_wp2_with (at_builtin; refine wpList_append_run rfl (.tmp 31) (.tmp 32) 22 22 rfl _ (.slice aj L cj) _ _ rfl rfl HAP.out ?_)
          first
            | exact ⟨⟨j + 1, by omega, by go_num, hown2, hgr'⟩, by simp [intOf]; omega⟩
            | (go_roundw
               case rel => exact ⟨j + 1, by omega, by go_num, hown2, hgr'⟩
               case measure => simp [intOf]; omega)
        · obtain rfl : j = k := by omega
          have i1 : (j : Int) ≤ j := by omega
          clear hjn hj
          go_wp2_with fail
          go_ret
          exact ⟨_, rfl, hown, hgr⟩

end Go.Proofs.YtlfopcigbgfnlaaDoor
