/-
  wire's In: take, number.
-/
import Derived.Test.YtmbefbmpjkbnmaaInLeaf
namespace Go.Proofs.Ytmbefbmpjkbnmaa
open Go.RowKit

set_option maxRecDepth 100000
set_option maxHeartbeats 2000000

theorem ISt.take_wrong (L : Nat) (s : ISt) (n : Int) (h : n < 0 ∨ (s.left L : Int) < n) : s.take L n = s.fail ∧ s.got L n = 0 := by
  cases s with
  | nil => exact ⟨rfl, rfl⟩
  | bad => exact ⟨rfl, rfl⟩
  | good a =>
    have h' : ¬ (0 ≤ n ∧ n ≤ ((L - a : Nat) : Int)) := by
      show _
      have h1 : n < 0 ∨ ((L - a : Nat) : Int) < n := h
      omega
    exact ⟨if_neg h', if_neg h'⟩
theorem ISt.take_zero (L : Nat) (s : ISt) : s.take L 0 = s ∧ s.got L 0 = 0 := by
  cases s with
  | nil => exact ⟨rfl, rfl⟩
  | bad => exact ⟨rfl, rfl⟩
  | good a =>
    have h' : (0 : Int) ≤ 0 ∧ (0 : Int) ≤ ((L - a : Nat) : Int) := by omega
    refine ⟨?_, ?_⟩
    · show (if (0 : Int) ≤ 0 ∧ (0 : Int) ≤ ((L - a : Nat) : Int) then ISt.good (a + Int.toNat 0) else ISt.bad) = _
      rw [if_pos h']; rfl
    · show (if (0 : Int) ≤ 0 ∧ (0 : Int) ≤ ((L - a : Nat) : Int) then Int.toNat 0 else 0) = _
      rw [if_pos h']; rfl
structure Took (w : World) (p : Option Addr) (L : Nat) (F : Nat → Nat) (s : ISt) (n : Int) (e : Ending) (w' : World) : Prop where
  ex : ∃ a c, e = .returned (.slice a (s.got L n) c) ∧ s.got L n ≤ c ∧ Rd w' w'.heap.size a (s.got L n) (fun i => F (s.off + i))
  says : ISays w p L F (s.take L n) w'
theorem inTake_any {w : World} {p : Option Addr} {L : Nat} {F : Nat → Nat} {s : ISt} (n : Int) (h : IAt w p L F s) (n0 : -9223372036854775808 ≤ n) (n1 : n < 9223372036854775808) : Calls Try.prog 137 #[.pointer p, .int .i64 n] w (Took w p L F s n) := by
  have HLf := Lib.hid (inLeft_any h)
  have HFl := Lib.hid (inFail_any h)
  have H := Lib.hid h
  by_cases hneg : n < 0
  · obtain ⟨e1, e2⟩ := ISt.take_wrong L s n (Or.inl hneg)
    have E1 := Lib.hid e1
    have E2 := Lib.hid e2
    clear e1 e2 h n0 n1
    go_enter Try.func137, Try.ntmps137
    go_wp2_with fail
    go_at_call 132
    refine HFl.out.mono ?_
    rintro e w' ⟨rfl, hE⟩
    have HE := Lib.hid hE
    clear hE
    go_wp2_with fail
    go_ret
    exact ⟨⟨none, 0, by rw [E2.out]; rfl, by rw [E2.out]; exact Nat.le_refl _, by rw [E2.out]; exact ⟨fun h => absurd h (by omega)⟩⟩, by rw [E1.out]; exact HE.out⟩
  · obtain ⟨m, hm⟩ : ∃ m, m = s.left L := ⟨_, rfl⟩
    rw [← hm] at HLf
    by_cases hbig : (m : Int) < n
    · obtain ⟨e1, e2⟩ := ISt.take_wrong L s n (Or.inr (by rw [← hm]; exact hbig))
      have E1 := Lib.hid e1
      have E2 := Lib.hid e2
      clear e1 e2 h n0 n1 hm
      go_enter Try.func137, Try.ntmps137
      go_wp2_with fail
      go_at_call 143
      refine HLf.out.mono ?_
      rintro e w1 ⟨rfl, rfl⟩
      go_wp2_with fail
      go_at_call 132
      refine HFl.out.mono ?_
      rintro e w' ⟨rfl, hE⟩
      have HE := Lib.hid hE
      clear hE
      go_wp2_with fail
      go_ret
      exact ⟨⟨none, 0, by rw [E2.out]; rfl, by rw [E2.out]; exact Nat.le_refl _, by rw [E2.out]; exact ⟨fun h => absurd h (by omega)⟩⟩, by rw [E1.out]; exact HE.out⟩
    · by_cases hz : n = 0
      · subst hz
        obtain ⟨e1, e2⟩ := ISt.take_zero L s
        have E1 := Lib.hid e1
        have E2 := Lib.hid e2
        have HM := Lib.hid hm
        clear e1 e2 h n0 n1 hm hneg
        go_enter Try.func137, Try.ntmps137
        go_wp2_with fail
        go_at_call 143
        refine HLf.out.mono ?_
        rintro e w1 ⟨rfl, rfl⟩
        go_wp2_with fail
        go_ret
        exact ⟨⟨none, 0, by rw [E2.out]; rfl, by rw [E2.out]; exact Nat.le_refl _, by rw [E2.out]; exact ⟨fun h => absurd h (by omega)⟩⟩, by rw [E1.out]; exact ⟨H.out, grown_refl _ _⟩⟩
      · have hs := h.st
        cases s with
        | nil => exact absurd hm (by show ¬ m = 0; omega)
        | bad => exact absurd hm (by show ¬ m = 0; omega)
        | good at' =>
          obtain ⟨g, a, c, rfl, h2, h3, h4, h5⟩ := hs
          have hm' : m = L - at' := hm
          obtain ⟨tb, o, rfl, htb, hcell⟩ := h5.ex (by omega)
          obtain ⟨k, rfl⟩ : ∃ k : Nat, n = (k : Int) := ⟨n.toNat, by omega⟩
          have hk : 0 ≤ (k : Int) ∧ (k : Int) ≤ ((L - at' : Nat) : Int) := by omega
          have e1 : ISt.take L (.good at') (k : Int) = .good (at' + k) := (if_pos hk).trans (by rw [Int.toNat_natCast])
          have e2 : ISt.got L (.good at') (k : Int) = k := (if_pos hk).trans (Int.toNat_natCast k)
          have c0 := h2.c0
          have f0 := h2.fr 0
          rw [← hm'] at c0 h3 hcell
          obtain ⟨a2, ha2, hs1, hs2⟩ := run_rest (Q := Try.prog) (T := 39) (E := 5) (by kernel_rfl) (fun _ => by kernel_rfl) tb o m c k (by omega) h3
          have hE : ISays w (some ⟨g, 0, none⟩) L F (.good (at' + k)) (w.setCell ⟨g, 0, none⟩ (.slice a2 (m - k) (c - k))) := by
            refine ⟨⟨⟨g, a2, c - k, rfl, ⟨?_, ?_, fun i => ?_⟩, by omega, by omega, ⟨fun hlt => ?_⟩⟩⟩, grown_setCell_new (grown_refl w _) _ _ (Or.inr rfl)⟩
            · rw [show L - (at' + k) = m - k by omega]
              exact World.cell?_setCell_same w _ _ c0
            · rw [World.cell?_setCell_other _ _ _ _ (by simp)]
              exact h2.c1
            · rw [World.frozen?_setCell]; exact h2.fr i
            · refine ⟨tb, o + k, ha2 (by omega), htb, fun i hi => ?_⟩
              have := hcell (k + i) (by omega)
              rw [World.cell?_setCell_other _ _ _ _ (by intro e; injection e with e1 e2; omega), Nat.add_assoc, this, Nat.add_assoc]
          have hR : Rd (w.setCell ⟨g, 0, none⟩ (.slice a2 (m - k) (c - k))) (w.setCell ⟨g, 0, none⟩ (.slice a2 (m - k) (c - k))).heap.size (some ⟨tb, o, none⟩) k (fun i => F (at' + i)) := ⟨fun _ => ⟨tb, o, rfl, by
            have := World.block_lt_of_cell? w _ (hcell 0 (by omega))
            simpa [World.setCell] using this, fun i hi => by
            rw [World.cell?_setCell_other _ _ _ _ (by intro e; injection e with e1 e2; omega)]
            exact hcell i (by omega)⟩⟩
          have HE := Lib.hid hE
          have HR := Lib.hid hR
          have E1 := Lib.hid e1
          have E2 := Lib.hid e2
          have HK := Lib.hid (show k ≤ c by omega)
          have k1 : (k : Int) ≤ (c : Int) := by omega
          have k2 : (k : Int) ≤ (m : Int) := by omega
          have k3 : ¬ (k : Int) = 0 := by omega
          have k4 : ((k : Int) == 0) = false := beq_eq_false_iff_ne.2 k3
          clear hE hR e1 e2 ha2 hs1 h2 h3 h4 h5 hm hm' hk hcell htb h n0 n1 hneg hbig hz
          go_enter Try.func137, Try.ntmps137
          go_wp2_with fail
          go_at_call 143
          refine HLf.out.mono ?_
          rintro e w1 ⟨rfl, rfl⟩
          go_wp2_with fail
          go_ret
          exact ⟨⟨some ⟨tb, o, none⟩, c, by rw [E2.out]; rfl, by rw [E2.out]; exact HK.out, by rw [E2.out]; exact HR.out⟩, by rw [E1.out]; exact HE.out⟩
/-- The number that stands next. -/
def ISt.num (L : Nat) (F : Nat → Nat) (s : ISt) (n : Nat) : Nat := ofB8 (fun i => F (s.off + i)) (s.got L n)
structure NumSays (w : World) (p : Option Addr) (L : Nat) (F : Nat → Nat) (s : ISt) (n : Nat) (e : Ending) (w' : World) : Prop where
  ex : e = .returned (.int .u64 (s.num L F n : Nat))
  says : ISays w p L F (s.take L n) w'
theorem ISt.got_le (L : Nat) (s : ISt) (n : Nat) : s.got L n ≤ n := by
  cases s with
  | nil => exact Nat.zero_le _
  | bad => exact Nat.zero_le _
  | good a =>
    show (if 0 ≤ (n : Int) ∧ (n : Int) ≤ ((L - a : Nat) : Int) then (n : Int).toNat else 0) ≤ n
    split
    · rw [Int.toNat_natCast]; exact Nat.le_refl _
    · exact Nat.zero_le _
theorem inNumber_any {w : World} {p : Option Addr} {L : Nat} {F : Nat → Nat} {s : ISt} (n : Nat) (h : IAt w p L F s) (hn : n ≤ 8) (hF : ∀ i, F i < 256) : Calls Try.prog 126 #[.pointer p, .int .i64 n] w (NumSays w p L F s n) := by
  have HT := Lib.hid (inTake_any (n : Int) h (by omega) (by omega))
  have HG := Lib.hid (show s.got L n ≤ 8 by have := ISt.got_le L s n; omega)
  have HF := Lib.hid (fun i => hF (s.off + i))
  obtain ⟨k, hk⟩ : ∃ k, k = s.got L n := ⟨_, rfl⟩
  obtain ⟨G, hG⟩ : ∃ G : Nat → Nat, G = fun i => F (s.off + i) := ⟨_, rfl⟩
  have HEND : Hid (s.num L F n = ofB8 G k) := by rw [hk, hG]; rfl
  have HF2 : Hid (∀ i, G i < 256) := by rw [hG]; exact HF
  rw [← hk] at HG
  clear h hF HF
  go_enter Try.func126, Try.ntmps126
  go_wp2_with fail
  go_at_call 137
  refine HT.out.mono ?_
  rintro e w1 ⟨⟨a, c, rfl, hc, hR⟩, hE⟩
  rw [← hk, ← hG] at hR
  rw [← hk]
  have HE := Lib.hid hE
  have HR := Lib.hid hR
  clear hE hR hc HT hk hG
  go_wp2_with fail
  go_loopw [4, 11] (fun u4 u11 wr => ∃ j : Nat, j ≤ k ∧ u4 = .int .u64 (ofB8 G j : Nat) ∧ u11 = .int .i64 j ∧ w1 = wr) (fun _ u11 _ => k - (intOf u11).toNat)
  case atStart => exact ⟨0, Nat.zero_le _, rfl, rfl, rfl⟩
  case round =>
    obtain ⟨j, hj, rfl, rfl, rfl⟩ := hrel
    by_cases hlt : j < k
    · obtain ⟨tb, o, rfl, htb, hcell⟩ := HR.out.ex (by omega)
      have c0 := hcell j hlt
      have j1 : (j : Int) < (k : Int) := by omega
      have kk : (k : Int) ≤ 8 := by have := HG.out; omega
      have b1 : ofB8 G (j + 1) < 18446744073709551616 := Nat.lt_of_lt_of_le (ofB8_lt G HF2.out (j + 1)) (pow256 _ (by have := HG.out; omega))
      have b0 := HF2.out j
      obtain ⟨y, hy⟩ : ∃ y, y = ofB8 G j := ⟨_, rfl⟩
      obtain ⟨z, hz⟩ : ∃ y, y = G j := ⟨_, rfl⟩
      have hx : ofB8 G (j + 1) = 256 * y + z := by rw [hy, hz]; rfl
      rw [hx] at b1
      rw [← hz] at b0 c0
      rw [← hy]
      obtain ⟨r, hr⟩ : ∃ q, q = 256 * y + z := ⟨_, rfl⟩
      rw [← hr] at hx
      have t0 : bits .or .u64 ((y : Int) * 256) (z : Int) = (r : Int) := by
        rw [show (y : Int) * 256 = ((y * 256 : Nat) : Int) by omega, bits_or_u64 _ _ (by omega) (by omega), be_or _ _ b0, hr, Nat.mul_comm]
      have b2 : (y : Int) * 256 < 18446744073709551616 := by omega
      have l0 : (z : Int) < 18446744073709551616 := by omega
      have HX := Lib.hid hx
      have HLT := Lib.hid hlt
      clear hlt hcell htb hj hx hy hz hr b1 b0 hn
      go_wp2_with fail
      go_roundw
      case rel => exact ⟨j + 1, HLT.out, by rw [HX.out], by go_num, trivial⟩
      case measure =>
        have := HLT.out
        simp [intOf]
        try omega
    · obtain rfl : j = k := by omega
      have j1 : ¬ (j : Int) < (j : Int) := by omega
      clear hj hlt
      go_wp2_with fail
      go_ret
      exact ⟨by rw [HEND.out]; rfl, HE.out⟩
end Go.Proofs.Ytmbefbmpjkbnmaa
