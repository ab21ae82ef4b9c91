/-
  The reference's one: a field's bytes.
-/
import Derived.Test.YtpkeolggehjjlaaWireF
import Derived.Test.YtpkeolggehjjlaaRefWire1
import Derived.Test.YtpkeolggehjjlaaAppFull
import Derived.Test.YtpkeolggehjjlaaRelAllC
namespace Go.Proofs.Ytpkeolggehjjlaa
open Go.RowKit

set_option maxRecDepth 100000
set_option maxHeartbeats 4000000

/-- How many bytes a field has. -/
def oneN (k nb nl : Nat) : Nat := if k = 0 then 1 else if k = 1 then 4 else if k = 2 then 8 else if k = 3 then 1 else if k = 4 then nb else if k = 5 then 2 + nb else if k = 6 then 2 + 4 * nl else 0
/-- The list's bytes. -/
def lstB (fl : Nat → Nat) (i : Nat) : Nat := nbF (fl (i / 4)) 4 (i % 4)
/-- They. -/
def oneF (k n nb : Nat) (fb : Nat → Nat) (nl : Nat) (fl : Nat → Nat) : Nat → Nat :=
  if k = 0 then nbF (n % 256) 1 else if k = 1 then nbF (n % 4294967296) 4 else if k = 2 then nbF n 8 else if k = 3 then fun _ => if n = 0 then 0 else 1 else if k = 4 then fb
  else if k = 5 then cat 2 (nbF nb 2) fb else if k = 6 then cat 2 (nbF nl 2) (lstB fl) else fun _ => 0
/-- Nothing is wrong. -/
def oneOk (k nb nl : Nat) (m : Int) : Bool := if k = 5 then decide ((nb : Int) ≤ m) && decide (nb < 65536) else if k = 6 then decide ((nl : Int) ≤ m) && decide (nl < 65536) else true
structure OneSays (w : World) (N : Nat) (f : Nat → Nat) (ok : Bool) (e : Ending) (w' : World) : Prop where
  ex : ∃ a c, e = .returned (.tuple #[.slice a N c, .bool ok]) ∧ Rd w' w'.heap.size a N f
  gr : w.grownBy w' none
theorem GaveF.v {w : World} {n : Nat} {f : Nat → Nat} {e : Ending} {w' : World} (hn : 0 < n) (h : GaveF w n f e w') : ∃ v, e = .returned v ∧ w.grownBy w' none ∧ ∃ g, v = .slice (some ⟨g, 0, none⟩) n n ∧ OwnR w' g n n f := by
  obtain ⟨⟨b, h1, h2, h3⟩, h4⟩ := h
  exact ⟨_, h1, h4, b, rfl, h3.own hn⟩

theorem GaveF.v2 {w : World} {n : Nat} {f : Nat → Nat} {e : Ending} {w' : World} (hn : 0 < n) (h : GaveF w n f e w') : ∃ g, e = .returned (.slice (some ⟨g, 0, none⟩) n n) ∧ w.heap.size ≤ g ∧ OwnR w' g n n f ∧ w.grownBy w' none := by
  obtain ⟨⟨b, h1, h2, h3⟩, h4⟩ := h
  exact ⟨b, h1, h2, h3.own hn, h4⟩
theorem lst_next (nl i x : Nat) (fl : Nat → Nat) (hx : x = fl i) (j : Nat) (hj : j < 2 + 4 * i + 4) : cat (2 + 4 * i) (cat 2 (nbF nl 2) (lstB fl)) (nbF x 4) j = cat 2 (nbF nl 2) (lstB fl) j := by
  unfold cat
  by_cases e : j < 2 + 4 * i
  · rw [if_pos e]
  · rw [if_neg e, if_neg (by omega)]
    unfold lstB
    rw [show (j - 2) / 4 = i by omega, show (j - 2) % 4 = j - (2 + 4 * i) by omega, hx]
/-- Bytes in a slice that is full. -/
def FullV (n : Nat) (f : Nat → Nat) (x : Value) (W : World) : Prop := ∃ g, x = .slice (some ⟨g, 0, none⟩) n n ∧ OwnR W g n n f
theorem FullV.grown {n : Nat} {f : Nat → Nat} {x : Value} {W W' : World} (h : FullV n f x W) (g : W.grownBy W' none) : FullV n f x W' := by
  obtain ⟨b, h1, h2⟩ := h
  exact ⟨b, h1, h2.grown g (by simp)⟩

theorem refOne_any (k n nb cb nl cl : Nat) (ab al : Option Addr) (fb fl : Nat → Nat) (m : Int) (D : Nat) (w : World) (hk : k < 256) (hn : n < 18446744073709551616) (hnb : nb ≤ 1048576) (hnl : nl ≤ 1048576) (hfl : ∀ i, fl i < 4294967296) (m0 : -9223372036854775808 ≤ m) (m1 : m < 9223372036854775808)
    (hD : D ≤ w.heap.size) (hb : Rd w D ab nb fb) (hl : RdL w D al nl fl) :
    Calls Try.prog 30 #[.agg #[.int .u8 k, .int .u64 n, .slice ab nb cb, .slice al nl cl, .int .i64 m]] w (OneSays w (oneN k nb nl) (oneF k n nb fb nl fl) (oneOk k nb nl m)) := by
  have hF := FAt.new ⟨k, n, ab, nb, cb, fun _ => 0, al, nl, cl, fun _ => 0, m⟩ w
  have c0 : (w.alloc (.cells #[.int .u8 k, .int .u64 n, .slice ab nb cb, .slice al nl cl, .int .i64 m] 54)).cell? ⟨w.heap.size, 0, none⟩ = some (.int .u8 k) := hF.c0
  have c1 : (w.alloc (.cells #[.int .u8 k, .int .u64 n, .slice ab nb cb, .slice al nl cl, .int .i64 m] 54)).cell? ⟨w.heap.size, 1, none⟩ = some (.int .u64 n) := hF.c1
  have c2 : (w.alloc (.cells #[.int .u8 k, .int .u64 n, .slice ab nb cb, .slice al nl cl, .int .i64 m] 54)).cell? ⟨w.heap.size, 2, none⟩ = some (.slice ab nb cb) := hF.c2
  have c3 : (w.alloc (.cells #[.int .u8 k, .int .u64 n, .slice ab nb cb, .slice al nl cl, .int .i64 m] 54)).cell? ⟨w.heap.size, 3, none⟩ = some (.slice al nl cl) := hF.c3
  have c4 : (w.alloc (.cells #[.int .u8 k, .int .u64 n, .slice ab nb cb, .slice al nl cl, .int .i64 m] 54)).cell? ⟨w.heap.size, 4, none⟩ = some (.int .i64 m) := hF.c4
  have gr := World.grownBy_alloc w (.cells #[.int .u8 k, .int .u64 n, .slice ab nb cb, .slice al nl cl, .int .i64 m] 54) none
  have hB := hb.grown gr (fun k e => by cases e)
  have hL := hl.grown gr (fun k e => by cases e)
  have hDz : D ≤ (w.alloc (.cells #[.int .u8 k, .int .u64 n, .slice ab nb cb, .slice al nl cl, .int .i64 m] 54)).heap.size := by rw [World.size_alloc]; omega
  clear hF hb hl
  go_enter Try.func30, Try.ntmps30
  go_upto_region 1 with fail
  generalize w.alloc (.cells #[.int .u8 k, .int .u64 n, .slice ab nb cb, .slice al nl cl, .int .i64 m] 54) = w1 at *
  obtain ⟨B, hBw⟩ : ∃ B, B = w.heap.size := ⟨_, rfl⟩
  simp only [← hBw] at c0 c1 c2 c3 c4 ⊢
  have HBw := Lib.hid hBw
  have HD := Lib.hid hD
  have C1 := Lib.hid c1
  have C2 := Lib.hid c2
  have C3 := Lib.hid c3
  have C4 := Lib.hid c4
  have M0 := Lib.hid m0
  have M1 := Lib.hid m1
  have HN := Lib.hid hn
  have HNB := Lib.hid hnb
  have HNL := Lib.hid hnl
  have HFL := Lib.hid hfl
  have HZ := Lib.hid hDz
  clear hBw hD c1 c2 c3 c4 m0 m1 hn hnb hnl hfl hDz
  by_cases e0 : k = 0
  · as_aux_lemma =>
    subst e0
    obtain ⟨q, hq⟩ : ∃ q, q = n % 256 := ⟨_, rfl⟩
    have x0 : (n : Int) % 256 = (q : Int) := by omega
    have x1 : (n : Int).tmod 256 = (q : Int) := by rw [Int.tmod_eq_emod_of_nonneg (by omega)]; omega
    have l0 : (q : Int) < 256 := by omega
    have c1 := C1.out
    have HC := Lib.hid (refNumber_any q 1 (by have := HN.out; omega) (by decide) (by decide))
    have HQ := Lib.hid hq
    clear hq
    go_wp2_with fail
    go_at_call 48
    refine (HC.out _).mono ?_
    intro e V h
    obtain ⟨v, rfl, g, b, rfl, ho⟩ := h.v (by decide)
    have hr := ho.rd
    rw [HQ.out] at hr
    have HR := Lib.hid hr
    have gw := grown_trans gr g
    clear h g ho c0 c1 HC gr hB hL hr
    go_wp2_with fail
    go_ret2
    exact ⟨⟨_, _, rfl, HR.out⟩, gw⟩
  by_cases e1 : k = 1
  · as_aux_lemma =>
    subst e1
    obtain ⟨q, hq⟩ : ∃ q, q = n % 4294967296 := ⟨_, rfl⟩
    have x0 : (n : Int) % 4294967296 = (q : Int) := by omega
    have x1 : (n : Int).tmod 4294967296 = (q : Int) := by rw [Int.tmod_eq_emod_of_nonneg (by omega)]; omega
    have c1 := C1.out
    have HC := Lib.hid (refNumber_any q 4 (by have := HN.out; omega) (by decide) (by decide))
    have HQ := Lib.hid hq
    clear hq
    go_wp2_with fail
    go_at_call 48
    refine (HC.out _).mono ?_
    intro e V h
    obtain ⟨v, rfl, g, b, rfl, ho⟩ := h.v (by decide)
    have hr := ho.rd
    rw [HQ.out] at hr
    have HR := Lib.hid hr
    have gw := grown_trans gr g
    clear h g ho c0 c1 HC gr hB hL hr
    go_wp2_with fail
    go_ret2
    exact ⟨⟨_, _, rfl, HR.out⟩, gw⟩
  by_cases e2 : k = 2
  · as_aux_lemma =>
    subst e2
    obtain ⟨q, hq⟩ : ∃ q, q = n := ⟨_, rfl⟩
    have c1 := C1.out
    rw [← hq] at c1
    have HC := Lib.hid (refNumber_any q 8 (by have := HN.out; omega) (by decide) (by decide))
    have HQ := Lib.hid hq
    clear hq
    go_wp2_with fail
    go_at_call 48
    refine (HC.out _).mono ?_
    intro e V h
    obtain ⟨v, rfl, g, b, rfl, ho⟩ := h.v (by decide)
    have hr := ho.rd
    rw [HQ.out] at hr
    have HR := Lib.hid hr
    have gw := grown_trans gr g
    clear h g ho c0 c1 HC gr hB hL hr
    go_wp2_with fail
    go_ret2
    exact ⟨⟨_, _, rfl, HR.out⟩, gw⟩
  by_cases e3 : k = 3
  · as_aux_lemma =>
    subst e3
    have c1 := C1.out
    by_cases en : n = 0
    · have HFN := Lib.hid (show oneF 3 n nb fb nl fl = (fun _ => 0) from funext fun _ => if_pos en)
      have b1 : ((n : Int) != 0) = false := by simp [en]
      clear en
      have hb1 := heap_alloc_new w1 (.cells #[.int .u8 0] 5)
      have ga := World.grownBy_alloc w1 (.cells #[.int .u8 0] 5) none
      have hR : Rd (w1.alloc (.cells #[.int .u8 0] 5)) (w1.alloc (.cells #[.int .u8 0] 5)).heap.size (some ⟨w1.heap.size, 0, none⟩) 1 (fun _ => 0) := ⟨fun _ => ⟨w1.heap.size, 0, rfl, by rw [World.size_alloc]; omega, fun i hi => by
        obtain rfl : i = 0 := by omega
        rw [cell_of_row _ _ _ _ _ _ hb1]; rfl⟩⟩
      have gw := grown_trans gr ga
      have HR := Lib.hid hR
      have GW := Lib.hid gw
      clear hb1 ga hR gw gr hB hL
      go_wp2_with fail
      go_ret2
      exact ⟨⟨_, _, rfl, by rw [HFN.out]; exact HR.out⟩, GW.out⟩
    · have HFN := Lib.hid (show oneF 3 n nb fb nl fl = (fun _ => 1) from funext fun _ => if_neg en)
      have b1 : ((n : Int) != 0) = true := by simp [en]
      clear en
      have hb1 := heap_alloc_new w1 (.cells #[.int .u8 1] 5)
      have ga := World.grownBy_alloc w1 (.cells #[.int .u8 1] 5) none
      have hR : Rd (w1.alloc (.cells #[.int .u8 1] 5)) (w1.alloc (.cells #[.int .u8 1] 5)).heap.size (some ⟨w1.heap.size, 0, none⟩) 1 (fun _ => 1) := ⟨fun _ => ⟨w1.heap.size, 0, rfl, by rw [World.size_alloc]; omega, fun i hi => by
        obtain rfl : i = 0 := by omega
        rw [cell_of_row _ _ _ _ _ _ hb1]; rfl⟩⟩
      have gw := grown_trans gr ga
      have HR := Lib.hid hR
      have GW := Lib.hid gw
      clear hb1 ga hR gw gr hB hL
      go_wp2_with fail
      go_ret2
      exact ⟨⟨_, _, rfl, by rw [HFN.out]; exact HR.out⟩, GW.out⟩
  by_cases e4 : k = 4
  · as_aux_lemma =>
    subst e4
    have c2 := C2.out
    have HR := Lib.hid (Rd.mono hB HZ.out)
    clear hB hL
    go_wp2_with fail
    go_ret2
    exact ⟨⟨_, _, rfl, HR.out⟩, gr⟩
  by_cases e5 : k = 5
  · as_aux_lemma =>
    subst e5
    have hwb : IntKind.u64.wrap (nb : Int) = (nb : Int) := by rw [IntKind.wrap_u64]; have := HNB.out; omega
    have kb : (nb : Int) ≤ 1048576 := by have := HNB.out; omega
    obtain ⟨b2, hb2⟩ : ∃ b, b = decide ((nb : Int) < 65536) := ⟨_, rfl⟩
    go_upto_region 15 with fail
    by_cases hb1 : (nb : Int) ≤ m
    · have HO := Lib.hid (show oneOk 5 nb nl m = b2 by
        show (decide ((nb : Int) ≤ m) && decide (nb < 65536)) = b2
        rw [decide_eq_true hb1, Bool.true_and, hb2]
        exact decide_eq_decide.2 (by omega))
      replace hb2 := hb2.symm
      clear c0
      refine wp_region_rel_c (fun W => w1.grownBy W none) (fun _ h => h) (alL []) (relL [fun vv _ => vv = .pointer (some ⟨B, 2, none⟩), fun vv _ => vv = .slice ab nb cb, fun vv _ => vv = .int .i64 (nb : Nat), fun vv _ => vv = .int .u64 (nb : Nat), FullV 2 (nbF nb 2), fun vv _ => vv = .pointer (some ⟨B, 2, none⟩), fun vv _ => vv = .slice ab nb cb, OwnV (2 + nb) (cat 2 (nbF nb 2) fb), fun vv _ => vv = .pointer (some ⟨B, 2, none⟩), fun vv _ => vv = .slice ab nb cb, fun vv _ => vv = .int .i64 (nb : Nat), fun vv _ => vv = .pointer (some ⟨B, 4, none⟩), fun vv _ => vv = .int .i64 m, fun vv _ => vv = .bool true, fun vv _ => vv = .bool true, fun vv _ => vv = .pointer (some ⟨B, 2, none⟩), fun vv _ => vv = .slice ab nb cb, fun vv _ => vv = .int .i64 (nb : Nat), fun vv _ => vv = .bool b2, fun vv _ => vv = .bool b2, OwnV (2 + nb) (cat 2 (nbF nb 2) fb)])
        21 1 (atL [38, 39, 40, 41, 42, 43, 44, 45, 46, 47, 48, 49, 50, 51, 52, 53, 54, 55, 56, 57, 2]) (depL [[], [0], [1], [2], [3], [], [5], [4, 6], [], [8], [9], [], [11], [10, 12], [13], [14], [15, 14], [16, 14], [17, 14], [14, 18], [7]]) (by kernel_rfl) rfl (by kernel_rfl) (by kernel_rfl) (by kernel_rfl) (by decide) (by kernel_rfl) 94 rfl (by decide) (by decide) (by decide) ?mono15true ?al15true ?step15true ?fin15true
      case mono15true =>
        intro k x W W' hk h g
        obtain rfl | rfl | rfl | rfl | rfl | rfl | rfl | rfl | rfl | rfl | rfl | rfl | rfl | rfl | rfl | rfl | rfl | rfl | rfl | rfl | rfl : k = 0 ∨ k = 1 ∨ k = 2 ∨ k = 3 ∨ k = 4 ∨ k = 5 ∨ k = 6 ∨ k = 7 ∨ k = 8 ∨ k = 9 ∨ k = 10 ∨ k = 11 ∨ k = 12 ∨ k = 13 ∨ k = 14 ∨ k = 15 ∨ k = 16 ∨ k = 17 ∨ k = 18 ∨ k = 19 ∨ k = 20 := by omega
        · exact h
        · exact h
        · exact h
        · exact h
        · exact FullV.grown h g
        · exact h
        · exact h
        · exact OwnV.grown h g
        · exact h
        · exact h
        · exact h
        · exact h
        · exact h
        · exact h
        · exact h
        · exact h
        · exact h
        · exact h
        · exact h
        · exact h
        · exact OwnV.grown h g
      case al15true =>
        intro k x W hk e h
        obtain rfl | rfl | rfl | rfl | rfl | rfl | rfl | rfl | rfl | rfl | rfl | rfl | rfl | rfl | rfl | rfl | rfl | rfl | rfl | rfl | rfl : k = 0 ∨ k = 1 ∨ k = 2 ∨ k = 3 ∨ k = 4 ∨ k = 5 ∨ k = 6 ∨ k = 7 ∨ k = 8 ∨ k = 9 ∨ k = 10 ∨ k = 11 ∨ k = 12 ∨ k = 13 ∨ k = 14 ∨ k = 15 ∨ k = 16 ∨ k = 17 ∨ k = 18 ∨ k = 19 ∨ k = 20 := by omega
        · exact absurd e (by decide)
        · exact absurd e (by decide)
        · exact absurd e (by decide)
        · exact absurd e (by decide)
        · exact absurd e (by decide)
        · exact absurd e (by decide)
        · exact absurd e (by decide)
        · exact absurd e (by decide)
        · exact absurd e (by decide)
        · exact absurd e (by decide)
        · exact absurd e (by decide)
        · exact absurd e (by decide)
        · exact absurd e (by decide)
        · exact absurd e (by decide)
        · exact absurd e (by decide)
        · exact absurd e (by decide)
        · exact absurd e (by decide)
        · exact absurd e (by decide)
        · exact absurd e (by decide)
        · exact absurd e (by decide)
        · exact absurd e (by decide)
      case step15true =>
        intro k hk
        obtain rfl | rfl | rfl | rfl | rfl | rfl | rfl | rfl | rfl | rfl | rfl | rfl | rfl | rfl | rfl | rfl | rfl | rfl | rfl | rfl | rfl : k = 0 ∨ k = 1 ∨ k = 2 ∨ k = 3 ∨ k = 4 ∨ k = 5 ∨ k = 6 ∨ k = 7 ∨ k = 8 ∨ k = 9 ∨ k = 10 ∨ k = 11 ∨ k = 12 ∨ k = 13 ∨ k = 14 ∨ k = 15 ∨ k = 16 ∨ k = 17 ∨ k = 18 ∨ k = 19 ∨ k = 20 := by omega
        · refine ⟨_, rfl, rfl, fun b W hs hg hD K hK0 => ?_⟩
          refine wpOp_at rfl (wanted_of rfl) ?_
          have hK := fun v W' g h => hK0 v W' g h (fun e => absurd e (by decide))
          have h0 : b.tmps[1]?.getD undef = .pointer (some ⟨B, 0, none⟩) := (hs 1 (by decide))
          exact rel_val (v := .pointer (some ⟨B, 2, none⟩)) (by unfold execOp; go_simp) rfl hK
        · refine ⟨_, rfl, rfl, fun b W hs hg hD K hK0 => ?_⟩
          refine wpOp_at rfl (wanted_of rfl) ?_
          have hK := fun v W' g h => hK0 v W' g h (fun e => absurd e (by decide))
          have h0 : b.tmps[38]?.getD undef = .pointer (some ⟨B, 2, none⟩) := (hD 0 (by decide))
          exact rel_val (v := .slice ab nb cb) (by have cc := hg.cell C2.out (by simp); unfold execOp; go_simp) rfl hK
        · refine ⟨_, rfl, rfl, fun b W hs hg hD K hK0 => ?_⟩
          refine wpOp_at rfl (wanted_of rfl) ?_
          have hK := fun v W' g h => hK0 v W' g h (fun e => absurd e (by decide))
          have h0 : b.tmps[39]?.getD undef = .slice ab nb cb := (hD 1 (by decide))
          exact rel_val (v := .int .i64 (nb : Nat)) (by unfold execOp; go_simp) rfl hK
        · refine ⟨_, rfl, rfl, fun b W hs hg hD K hK0 => ?_⟩
          refine wpOp_at rfl (wanted_of rfl) ?_
          have hK := fun v W' g h => hK0 v W' g h (fun e => absurd e (by decide))
          have h0 : b.tmps[40]?.getD undef = .int .i64 (nb : Nat) := (hD 2 (by decide))
          exact rel_val (v := .int .u64 (nb : Nat)) (by unfold execOp; go_simp) rfl hK
        · refine ⟨_, rfl, rfl, fun b W hs hg hD K hK0 => ?_⟩
          refine wpOp_at rfl (wanted_of rfl) ?_
          have hK := fun v W' g h => hK0 v W' g h (fun e => absurd e (by decide))
          refine rel_call 48 _ (exec_fn2 _ _ _ _ _ rfl ((eval_slot b 41).trans (hD 3 (by decide))) rfl) (fun _ _ => rfl) ?_ hK
          exact (refNumber_any nb 2 (by have := HNB.out; omega) (by decide) (by decide) W).mono fun e w' h => h.v (by decide)
        · refine ⟨_, rfl, rfl, fun b W hs hg hD K hK0 => ?_⟩
          refine wpOp_at rfl (wanted_of rfl) ?_
          have hK := fun v W' g h => hK0 v W' g h (fun e => absurd e (by decide))
          have h0 : b.tmps[1]?.getD undef = .pointer (some ⟨B, 0, none⟩) := (hs 1 (by decide))
          exact rel_val (v := .pointer (some ⟨B, 2, none⟩)) (by unfold execOp; go_simp) rfl hK
        · refine ⟨_, rfl, rfl, fun b W hs hg hD K hK0 => ?_⟩
          refine wpOp_at rfl (wanted_of rfl) ?_
          have hK := fun v W' g h => hK0 v W' g h (fun e => absurd e (by decide))
          have h0 : b.tmps[43]?.getD undef = .pointer (some ⟨B, 2, none⟩) := (hD 5 (by decide))
          exact rel_val (v := .slice ab nb cb) (by have cc := hg.cell C2.out (by simp); unfold execOp; go_simp) rfl hK
        · refine ⟨_, rfl, rfl, fun b W hs hg hD K hK0 => ?_⟩
          refine wpOp_at rfl (wanted_of rfl) ?_
          have hK := fun v W' g h => hK0 v W' g h (fun e => absurd e (by decide))
          have h1 : b.tmps[44]?.getD undef = .slice ab nb cb := (hD 6 (by decide))
          obtain ⟨g, ha, ho⟩ := hD 4 (by decide)
          obtain ⟨v, w', hr, hg2, hv⟩ := app_full cb 28 ho (hB.grown hg (fun k e => by cases e)) (by have := HNB.out; omega)
          exact rel_append (.tmp 42) (.tmp 44) _ _ rfl _ _ v w' ((eval_slot b 42).trans ha) ((eval_slot b 44).trans h1) hr hg2 hv hK
        · refine ⟨_, rfl, rfl, fun b W hs hg hD K hK0 => ?_⟩
          refine wpOp_at rfl (wanted_of rfl) ?_
          have hK := fun v W' g h => hK0 v W' g h (fun e => absurd e (by decide))
          have h0 : b.tmps[1]?.getD undef = .pointer (some ⟨B, 0, none⟩) := (hs 1 (by decide))
          exact rel_val (v := .pointer (some ⟨B, 2, none⟩)) (by unfold execOp; go_simp) rfl hK
        · refine ⟨_, rfl, rfl, fun b W hs hg hD K hK0 => ?_⟩
          refine wpOp_at rfl (wanted_of rfl) ?_
          have hK := fun v W' g h => hK0 v W' g h (fun e => absurd e (by decide))
          have h0 : b.tmps[46]?.getD undef = .pointer (some ⟨B, 2, none⟩) := (hD 8 (by decide))
          exact rel_val (v := .slice ab nb cb) (by have cc := hg.cell C2.out (by simp); unfold execOp; go_simp) rfl hK
        · refine ⟨_, rfl, rfl, fun b W hs hg hD K hK0 => ?_⟩
          refine wpOp_at rfl (wanted_of rfl) ?_
          have hK := fun v W' g h => hK0 v W' g h (fun e => absurd e (by decide))
          have h0 : b.tmps[47]?.getD undef = .slice ab nb cb := (hD 9 (by decide))
          exact rel_val (v := .int .i64 (nb : Nat)) (by unfold execOp; go_simp) rfl hK
        · refine ⟨_, rfl, rfl, fun b W hs hg hD K hK0 => ?_⟩
          refine wpOp_at rfl (wanted_of rfl) ?_
          have hK := fun v W' g h => hK0 v W' g h (fun e => absurd e (by decide))
          have h0 : b.tmps[1]?.getD undef = .pointer (some ⟨B, 0, none⟩) := (hs 1 (by decide))
          exact rel_val (v := .pointer (some ⟨B, 4, none⟩)) (by unfold execOp; go_simp) rfl hK
        · refine ⟨_, rfl, rfl, fun b W hs hg hD K hK0 => ?_⟩
          refine wpOp_at rfl (wanted_of rfl) ?_
          have hK := fun v W' g h => hK0 v W' g h (fun e => absurd e (by decide))
          have h0 : b.tmps[49]?.getD undef = .pointer (some ⟨B, 4, none⟩) := (hD 11 (by decide))
          exact rel_val (v := .int .i64 m) (by have cc := hg.cell C4.out (by simp); unfold execOp; go_simp) rfl hK
        · refine ⟨_, rfl, rfl, fun b W hs hg hD K hK0 => ?_⟩
          refine wpOp_at rfl (wanted_of rfl) ?_
          have hK := fun v W' g h => hK0 v W' g h (fun e => absurd e (by decide))
          have h0 : b.tmps[48]?.getD undef = .int .i64 (nb : Nat) := (hD 10 (by decide))
          have h1 : b.tmps[50]?.getD undef = .int .i64 m := (hD 12 (by decide))
          exact rel_val (v := .bool true) (by unfold execOp; go_simp) rfl hK
        · refine ⟨_, rfl, rfl, fun b W hs hg hD K hK0 => ?_⟩
          refine wpOp_at rfl (wanted_of rfl) ?_
          have hK := fun v W' g h => hK0 v W' g h (fun e => absurd e (by decide))
          exact rel_move 51 rfl (hD 13 (by decide)) rfl hK
        · refine ⟨_, rfl, rfl, fun b W hs hg hD K hK0 => ?_⟩
          refine wpOp_at rfl (wanted_is (j := 14) (t := 52) (v := true) rfl rfl (hD 14 (by decide))) ?_
          have hK := fun v W' g h => hK0 v W' g h (fun e => absurd e (by decide))
          have h0 : b.tmps[1]?.getD undef = .pointer (some ⟨B, 0, none⟩) := (hs 1 (by decide))
          exact rel_val (v := .pointer (some ⟨B, 2, none⟩)) (by unfold execOp; go_simp) rfl hK
        · refine ⟨_, rfl, rfl, fun b W hs hg hD K hK0 => ?_⟩
          refine wpOp_at rfl (wanted_is (j := 14) (t := 52) (v := true) rfl rfl (hD 14 (by decide))) ?_
          have hK := fun v W' g h => hK0 v W' g h (fun e => absurd e (by decide))
          have h0 : b.tmps[53]?.getD undef = .pointer (some ⟨B, 2, none⟩) := (hD 15 (by decide))
          exact rel_val (v := .slice ab nb cb) (by have cc := hg.cell C2.out (by simp); unfold execOp; go_simp) rfl hK
        · refine ⟨_, rfl, rfl, fun b W hs hg hD K hK0 => ?_⟩
          refine wpOp_at rfl (wanted_is (j := 14) (t := 52) (v := true) rfl rfl (hD 14 (by decide))) ?_
          have hK := fun v W' g h => hK0 v W' g h (fun e => absurd e (by decide))
          have h0 : b.tmps[54]?.getD undef = .slice ab nb cb := (hD 16 (by decide))
          exact rel_val (v := .int .i64 (nb : Nat)) (by unfold execOp; go_simp) rfl hK
        · refine ⟨_, rfl, rfl, fun b W hs hg hD K hK0 => ?_⟩
          refine wpOp_at rfl (wanted_is (j := 14) (t := 52) (v := true) rfl rfl (hD 14 (by decide))) ?_
          have hK := fun v W' g h => hK0 v W' g h (fun e => absurd e (by decide))
          have h0 : b.tmps[55]?.getD undef = .int .i64 (nb : Nat) := (hD 17 (by decide))
          exact rel_val (v := .bool b2) (by unfold execOp; go_simp) rfl hK
        · refine ⟨_, rfl, rfl, fun b W hs hg hD K hK0 => ?_⟩
          refine wpOp_at rfl (wanted_of rfl) ?_
          have hK := fun v W' g h => hK0 v W' g h (fun e => absurd e (by decide))
          have h0 : b.tmps[52]?.getD undef = .bool true := (hD 14 (by decide))
          have h1 : b.tmps[56]?.getD undef = .bool b2 := (hD 18 (by decide))
          exact rel_val (v := .bool b2) (by unfold execOp; go_simp) rfl hK
        · refine ⟨_, rfl, rfl, fun b W hs hg hD K hK0 => ?_⟩
          refine wpOp_at rfl (wanted_of rfl) ?_
          have hK := fun v W' g h => hK0 v W' g h (fun e => absurd e (by decide))
          exact rel_assign 45 rfl rfl (hD 7 (by decide)) hK
      intro vals W hg hR hap
      have e1 : vals 19 = .bool b2 := hR 19 (by decide)
      obtain ⟨g, cap, e2, ho⟩ := hR 20 (by decide)
      clear hR hap
      simp only [putsN, atL, Act.put, List.getD_cons_zero, List.getD_cons_succ, List.setIfInBounds_toArray, List.set_cons_succ, List.set_cons_zero, e1, e2]
      generalize vals 0 = q0
      generalize vals 1 = q1
      generalize vals 2 = q2
      generalize vals 3 = q3
      generalize vals 4 = q4
      generalize vals 5 = q5
      generalize vals 6 = q6
      generalize vals 7 = q7
      generalize vals 8 = q8
      generalize vals 9 = q9
      generalize vals 10 = q10
      generalize vals 11 = q11
      generalize vals 12 = q12
      generalize vals 13 = q13
      generalize vals 14 = q14
      generalize vals 15 = q15
      generalize vals 16 = q16
      generalize vals 17 = q17
      generalize vals 18 = q18
      clear e1 e2 vals
      show wpAnyH _ _ _ _ _ 1 #[true, true, true, true, true, true, true, true, true, true, true, true, true, true, true, true, true, true, true, true, true, false] _ _
      refine wpAnyH_yieldD (some 3) (i := 21) (v := .bool b2) (by kernel_rfl) rfl rfl rfl (by unfold execOp; go_simp) hg ?_
      simp only [Act.put, List.setIfInBounds_toArray, List.set_cons_succ, List.set_cons_zero]
      refine wpAnyH_done (by kernel_rfl) ?_ _
      have gw := grown_trans gr hg
      have HR := Lib.hid ho.rd
      have GW := Lib.hid gw
      clear gw ho hg hB hL gr
      go_wp2_with fail
      go_ret2
      exact ⟨⟨some ⟨g, 0, none⟩, cap, by rw [HO.out]; rfl, HR.out⟩, GW.out⟩
    · have HO := Lib.hid (show oneOk 5 nb nl m = false by
        show (decide ((nb : Int) ≤ m) && decide (nb < 65536)) = false
        rw [decide_eq_false hb1, Bool.false_and])
      clear c0 hb2
      refine wp_region_rel_c (fun W => w1.grownBy W none) (fun _ h => h) (alL []) (relL [fun vv _ => vv = .pointer (some ⟨B, 2, none⟩), fun vv _ => vv = .slice ab nb cb, fun vv _ => vv = .int .i64 (nb : Nat), fun vv _ => vv = .int .u64 (nb : Nat), FullV 2 (nbF nb 2), fun vv _ => vv = .pointer (some ⟨B, 2, none⟩), fun vv _ => vv = .slice ab nb cb, OwnV (2 + nb) (cat 2 (nbF nb 2) fb), fun vv _ => vv = .pointer (some ⟨B, 2, none⟩), fun vv _ => vv = .slice ab nb cb, fun vv _ => vv = .int .i64 (nb : Nat), fun vv _ => vv = .pointer (some ⟨B, 4, none⟩), fun vv _ => vv = .int .i64 m, fun vv _ => vv = .bool false, fun vv _ => vv = .bool false, fun vv _ => vv = undef, fun vv _ => vv = undef, fun vv _ => vv = undef, fun vv _ => vv = undef, fun vv _ => vv = .bool false, OwnV (2 + nb) (cat 2 (nbF nb 2) fb)])
        21 1 (atL [38, 39, 40, 41, 42, 43, 44, 45, 46, 47, 48, 49, 50, 51, 52, 53, 54, 55, 56, 57, 2]) (depL [[], [0], [1], [2], [3], [], [5], [4, 6], [], [8], [9], [], [11], [10, 12], [13], [14], [15, 14], [16, 14], [17, 14], [14, 18], [7]]) (by kernel_rfl) rfl (by kernel_rfl) (by kernel_rfl) (by kernel_rfl) (by decide) (by kernel_rfl) 94 rfl (by decide) (by decide) (by decide) ?mono15false ?al15false ?step15false ?fin15false
      case mono15false =>
        intro k x W W' hk h g
        obtain rfl | rfl | rfl | rfl | rfl | rfl | rfl | rfl | rfl | rfl | rfl | rfl | rfl | rfl | rfl | rfl | rfl | rfl | rfl | rfl | rfl : k = 0 ∨ k = 1 ∨ k = 2 ∨ k = 3 ∨ k = 4 ∨ k = 5 ∨ k = 6 ∨ k = 7 ∨ k = 8 ∨ k = 9 ∨ k = 10 ∨ k = 11 ∨ k = 12 ∨ k = 13 ∨ k = 14 ∨ k = 15 ∨ k = 16 ∨ k = 17 ∨ k = 18 ∨ k = 19 ∨ k = 20 := by omega
        · exact h
        · exact h
        · exact h
        · exact h
        · exact FullV.grown h g
        · exact h
        · exact h
        · exact OwnV.grown h g
        · exact h
        · exact h
        · exact h
        · exact h
        · exact h
        · exact h
        · exact h
        · exact h
        · exact h
        · exact h
        · exact h
        · exact h
        · exact OwnV.grown h g
      case al15false =>
        intro k x W hk e h
        obtain rfl | rfl | rfl | rfl | rfl | rfl | rfl | rfl | rfl | rfl | rfl | rfl | rfl | rfl | rfl | rfl | rfl | rfl | rfl | rfl | rfl : k = 0 ∨ k = 1 ∨ k = 2 ∨ k = 3 ∨ k = 4 ∨ k = 5 ∨ k = 6 ∨ k = 7 ∨ k = 8 ∨ k = 9 ∨ k = 10 ∨ k = 11 ∨ k = 12 ∨ k = 13 ∨ k = 14 ∨ k = 15 ∨ k = 16 ∨ k = 17 ∨ k = 18 ∨ k = 19 ∨ k = 20 := by omega
        · exact absurd e (by decide)
        · exact absurd e (by decide)
        · exact absurd e (by decide)
        · exact absurd e (by decide)
        · exact absurd e (by decide)
        · exact absurd e (by decide)
        · exact absurd e (by decide)
        · exact absurd e (by decide)
        · exact absurd e (by decide)
        · exact absurd e (by decide)
        · exact absurd e (by decide)
        · exact absurd e (by decide)
        · exact absurd e (by decide)
        · exact absurd e (by decide)
        · exact absurd e (by decide)
        · exact absurd e (by decide)
        · exact absurd e (by decide)
        · exact absurd e (by decide)
        · exact absurd e (by decide)
        · exact absurd e (by decide)
        · exact absurd e (by decide)
      case step15false =>
        intro k hk
        obtain rfl | rfl | rfl | rfl | rfl | rfl | rfl | rfl | rfl | rfl | rfl | rfl | rfl | rfl | rfl | rfl | rfl | rfl | rfl | rfl | rfl : k = 0 ∨ k = 1 ∨ k = 2 ∨ k = 3 ∨ k = 4 ∨ k = 5 ∨ k = 6 ∨ k = 7 ∨ k = 8 ∨ k = 9 ∨ k = 10 ∨ k = 11 ∨ k = 12 ∨ k = 13 ∨ k = 14 ∨ k = 15 ∨ k = 16 ∨ k = 17 ∨ k = 18 ∨ k = 19 ∨ k = 20 := by omega
        · refine ⟨_, rfl, rfl, fun b W hs hg hD K hK0 => ?_⟩
          refine wpOp_at rfl (wanted_of rfl) ?_
          have hK := fun v W' g h => hK0 v W' g h (fun e => absurd e (by decide))
          have h0 : b.tmps[1]?.getD undef = .pointer (some ⟨B, 0, none⟩) := (hs 1 (by decide))
          exact rel_val (v := .pointer (some ⟨B, 2, none⟩)) (by unfold execOp; go_simp) rfl hK
        · refine ⟨_, rfl, rfl, fun b W hs hg hD K hK0 => ?_⟩
          refine wpOp_at rfl (wanted_of rfl) ?_
          have hK := fun v W' g h => hK0 v W' g h (fun e => absurd e (by decide))
          have h0 : b.tmps[38]?.getD undef = .pointer (some ⟨B, 2, none⟩) := (hD 0 (by decide))
          exact rel_val (v := .slice ab nb cb) (by have cc := hg.cell C2.out (by simp); unfold execOp; go_simp) rfl hK
        · refine ⟨_, rfl, rfl, fun b W hs hg hD K hK0 => ?_⟩
          refine wpOp_at rfl (wanted_of rfl) ?_
          have hK := fun v W' g h => hK0 v W' g h (fun e => absurd e (by decide))
          have h0 : b.tmps[39]?.getD undef = .slice ab nb cb := (hD 1 (by decide))
          exact rel_val (v := .int .i64 (nb : Nat)) (by unfold execOp; go_simp) rfl hK
        · refine ⟨_, rfl, rfl, fun b W hs hg hD K hK0 => ?_⟩
          refine wpOp_at rfl (wanted_of rfl) ?_
          have hK := fun v W' g h => hK0 v W' g h (fun e => absurd e (by decide))
          have h0 : b.tmps[40]?.getD undef = .int .i64 (nb : Nat) := (hD 2 (by decide))
          exact rel_val (v := .int .u64 (nb : Nat)) (by unfold execOp; go_simp) rfl hK
        · refine ⟨_, rfl, rfl, fun b W hs hg hD K hK0 => ?_⟩
          refine wpOp_at rfl (wanted_of rfl) ?_
          have hK := fun v W' g h => hK0 v W' g h (fun e => absurd e (by decide))
          refine rel_call 48 _ (exec_fn2 _ _ _ _ _ rfl ((eval_slot b 41).trans (hD 3 (by decide))) rfl) (fun _ _ => rfl) ?_ hK
          exact (refNumber_any nb 2 (by have := HNB.out; omega) (by decide) (by decide) W).mono fun e w' h => h.v (by decide)
        · refine ⟨_, rfl, rfl, fun b W hs hg hD K hK0 => ?_⟩
          refine wpOp_at rfl (wanted_of rfl) ?_
          have hK := fun v W' g h => hK0 v W' g h (fun e => absurd e (by decide))
          have h0 : b.tmps[1]?.getD undef = .pointer (some ⟨B, 0, none⟩) := (hs 1 (by decide))
          exact rel_val (v := .pointer (some ⟨B, 2, none⟩)) (by unfold execOp; go_simp) rfl hK
        · refine ⟨_, rfl, rfl, fun b W hs hg hD K hK0 => ?_⟩
          refine wpOp_at rfl (wanted_of rfl) ?_
          have hK := fun v W' g h => hK0 v W' g h (fun e => absurd e (by decide))
          have h0 : b.tmps[43]?.getD undef = .pointer (some ⟨B, 2, none⟩) := (hD 5 (by decide))
          exact rel_val (v := .slice ab nb cb) (by have cc := hg.cell C2.out (by simp); unfold execOp; go_simp) rfl hK
        · refine ⟨_, rfl, rfl, fun b W hs hg hD K hK0 => ?_⟩
          refine wpOp_at rfl (wanted_of rfl) ?_
          have hK := fun v W' g h => hK0 v W' g h (fun e => absurd e (by decide))
          have h1 : b.tmps[44]?.getD undef = .slice ab nb cb := (hD 6 (by decide))
          obtain ⟨g, ha, ho⟩ := hD 4 (by decide)
          obtain ⟨v, w', hr, hg2, hv⟩ := app_full cb 28 ho (hB.grown hg (fun k e => by cases e)) (by have := HNB.out; omega)
          exact rel_append (.tmp 42) (.tmp 44) _ _ rfl _ _ v w' ((eval_slot b 42).trans ha) ((eval_slot b 44).trans h1) hr hg2 hv hK
        · refine ⟨_, rfl, rfl, fun b W hs hg hD K hK0 => ?_⟩
          refine wpOp_at rfl (wanted_of rfl) ?_
          have hK := fun v W' g h => hK0 v W' g h (fun e => absurd e (by decide))
          have h0 : b.tmps[1]?.getD undef = .pointer (some ⟨B, 0, none⟩) := (hs 1 (by decide))
          exact rel_val (v := .pointer (some ⟨B, 2, none⟩)) (by unfold execOp; go_simp) rfl hK
        · refine ⟨_, rfl, rfl, fun b W hs hg hD K hK0 => ?_⟩
          refine wpOp_at rfl (wanted_of rfl) ?_
          have hK := fun v W' g h => hK0 v W' g h (fun e => absurd e (by decide))
          have h0 : b.tmps[46]?.getD undef = .pointer (some ⟨B, 2, none⟩) := (hD 8 (by decide))
          exact rel_val (v := .slice ab nb cb) (by have cc := hg.cell C2.out (by simp); unfold execOp; go_simp) rfl hK
        · refine ⟨_, rfl, rfl, fun b W hs hg hD K hK0 => ?_⟩
          refine wpOp_at rfl (wanted_of rfl) ?_
          have hK := fun v W' g h => hK0 v W' g h (fun e => absurd e (by decide))
          have h0 : b.tmps[47]?.getD undef = .slice ab nb cb := (hD 9 (by decide))
          exact rel_val (v := .int .i64 (nb : Nat)) (by unfold execOp; go_simp) rfl hK
        · refine ⟨_, rfl, rfl, fun b W hs hg hD K hK0 => ?_⟩
          refine wpOp_at rfl (wanted_of rfl) ?_
          have hK := fun v W' g h => hK0 v W' g h (fun e => absurd e (by decide))
          have h0 : b.tmps[1]?.getD undef = .pointer (some ⟨B, 0, none⟩) := (hs 1 (by decide))
          exact rel_val (v := .pointer (some ⟨B, 4, none⟩)) (by unfold execOp; go_simp) rfl hK
        · refine ⟨_, rfl, rfl, fun b W hs hg hD K hK0 => ?_⟩
          refine wpOp_at rfl (wanted_of rfl) ?_
          have hK := fun v W' g h => hK0 v W' g h (fun e => absurd e (by decide))
          have h0 : b.tmps[49]?.getD undef = .pointer (some ⟨B, 4, none⟩) := (hD 11 (by decide))
          exact rel_val (v := .int .i64 m) (by have cc := hg.cell C4.out (by simp); unfold execOp; go_simp) rfl hK
        · refine ⟨_, rfl, rfl, fun b W hs hg hD K hK0 => ?_⟩
          refine wpOp_at rfl (wanted_of rfl) ?_
          have hK := fun v W' g h => hK0 v W' g h (fun e => absurd e (by decide))
          have h0 : b.tmps[48]?.getD undef = .int .i64 (nb : Nat) := (hD 10 (by decide))
          have h1 : b.tmps[50]?.getD undef = .int .i64 m := (hD 12 (by decide))
          exact rel_val (v := .bool false) (by unfold execOp; go_simp) rfl hK
        · refine ⟨_, rfl, rfl, fun b W hs hg hD K hK0 => ?_⟩
          refine wpOp_at rfl (wanted_of rfl) ?_
          have hK := fun v W' g h => hK0 v W' g h (fun e => absurd e (by decide))
          exact rel_move 51 rfl (hD 13 (by decide)) rfl hK
        · refine ⟨_, rfl, rfl, fun b W hs hg hD K hK0 => ?_⟩
          exact wpOp_skip rfl (wanted_not (j := 14) (t := 52) (v := false) rfl rfl (hD 14 (by decide))) (hK0 _ _ (grown_refl W none) rfl (fun e => absurd e (by decide)))
        · refine ⟨_, rfl, rfl, fun b W hs hg hD K hK0 => ?_⟩
          exact wpOp_skip rfl (wanted_not (j := 14) (t := 52) (v := false) rfl rfl (hD 14 (by decide))) (hK0 _ _ (grown_refl W none) rfl (fun e => absurd e (by decide)))
        · refine ⟨_, rfl, rfl, fun b W hs hg hD K hK0 => ?_⟩
          exact wpOp_skip rfl (wanted_not (j := 14) (t := 52) (v := false) rfl rfl (hD 14 (by decide))) (hK0 _ _ (grown_refl W none) rfl (fun e => absurd e (by decide)))
        · refine ⟨_, rfl, rfl, fun b W hs hg hD K hK0 => ?_⟩
          exact wpOp_skip rfl (wanted_not (j := 14) (t := 52) (v := false) rfl rfl (hD 14 (by decide))) (hK0 _ _ (grown_refl W none) rfl (fun e => absurd e (by decide)))
        · refine ⟨_, rfl, rfl, fun b W hs hg hD K hK0 => ?_⟩
          refine wpOp_at rfl (wanted_of rfl) ?_
          have hK := fun v W' g h => hK0 v W' g h (fun e => absurd e (by decide))
          have h0 : b.tmps[52]?.getD undef = .bool false := (hD 14 (by decide))
          have h1 : b.tmps[56]?.getD undef = undef := (hD 18 (by decide))
          exact rel_val (v := .bool false) (by unfold execOp; go_simp) rfl hK
        · refine ⟨_, rfl, rfl, fun b W hs hg hD K hK0 => ?_⟩
          refine wpOp_at rfl (wanted_of rfl) ?_
          have hK := fun v W' g h => hK0 v W' g h (fun e => absurd e (by decide))
          exact rel_assign 45 rfl rfl (hD 7 (by decide)) hK
      intro vals W hg hR hap
      have e1 : vals 19 = .bool false := hR 19 (by decide)
      obtain ⟨g, cap, e2, ho⟩ := hR 20 (by decide)
      clear hR hap
      simp only [putsN, atL, Act.put, List.getD_cons_zero, List.getD_cons_succ, List.setIfInBounds_toArray, List.set_cons_succ, List.set_cons_zero, e1, e2]
      generalize vals 0 = q0
      generalize vals 1 = q1
      generalize vals 2 = q2
      generalize vals 3 = q3
      generalize vals 4 = q4
      generalize vals 5 = q5
      generalize vals 6 = q6
      generalize vals 7 = q7
      generalize vals 8 = q8
      generalize vals 9 = q9
      generalize vals 10 = q10
      generalize vals 11 = q11
      generalize vals 12 = q12
      generalize vals 13 = q13
      generalize vals 14 = q14
      generalize vals 15 = q15
      generalize vals 16 = q16
      generalize vals 17 = q17
      generalize vals 18 = q18
      clear e1 e2 vals
      show wpAnyH _ _ _ _ _ 1 #[true, true, true, true, true, true, true, true, true, true, true, true, true, true, true, true, true, true, true, true, true, false] _ _
      refine wpAnyH_yieldD (some 3) (i := 21) (v := .bool false) (by kernel_rfl) rfl rfl rfl (by unfold execOp; go_simp) hg ?_
      simp only [Act.put, List.setIfInBounds_toArray, List.set_cons_succ, List.set_cons_zero]
      refine wpAnyH_done (by kernel_rfl) ?_ _
      have gw := grown_trans gr hg
      have HR := Lib.hid ho.rd
      have GW := Lib.hid gw
      clear gw ho hg hB hL gr
      go_wp2_with fail
      go_ret2
      exact ⟨⟨some ⟨g, 0, none⟩, cap, by rw [HO.out]; rfl, HR.out⟩, GW.out⟩
  by_cases e6 : k = 6
  · as_aux_lemma =>
    subst e6
    have hwl : IntKind.u64.wrap (nl : Int) = (nl : Int) := by rw [IntKind.wrap_u64]; have := HNL.out; omega
    have kl : (nl : Int) ≤ 1048576 := by have := HNL.out; omega
    have c3 := C3.out
    have HC := Lib.hid (refNumber_any nl 2 (by have := HNL.out; omega) (by decide) (by decide))
    clear hB
    go_wp2_with fail
    go_at_call 48
    refine (HC.out _).mono ?_
    intro e V h
    obtain ⟨b, rfl, hbz, ho, g0⟩ := h.v2 (by decide)
    clear h HC hwl c0
    go_wp2_with fail
    clear c3
    go_loopw [4, 5] (fun u4 u5 wr => ∃ i g cap : Nat, i ≤ nl ∧ u5 = .int .i64 i ∧ u4 = .slice (some ⟨g, 0, none⟩) (2 + 4 * i) cap ∧ OwnR wr g (2 + 4 * i) cap (cat 2 (nbF nl 2) (lstB fl)) ∧ w1.heap.size ≤ g ∧ w1.grownBy wr none) (fun _ u5 _ => nl - (intOf u5).toNat)
    case atStart => exact ⟨0, b, 2, Nat.zero_le _, rfl, rfl, ho.congr (fun i hi => (if_pos hi).symm), hbz, g0⟩
    case round =>
      clear ho hbz g0
      obtain ⟨i, g, cap, hi, rfl, rfl, hO, hgz, hg⟩ := hrel
      have c3 := hg.cell C3.out (by simp)
      by_cases hlt : i < nl
      · obtain ⟨tb, o, rfl, htb, hc⟩ := hL.ex (by omega)
        have cx := hg.cell (hc i hlt) (by simp)
        have j1 : (i : Int) < (nl : Int) := by omega
        obtain ⟨x, hx⟩ : ∃ x, x = fl i := ⟨_, rfl⟩
        have xl : x < 18446744073709551616 := by rw [hx]; exact Nat.lt_trans (HFL.out i) (by decide)
        have hwx : IntKind.u64.wrap (x : Int) = (x : Int) := by rw [IntKind.wrap_u64]; omega
        rw [← hx] at cx
        have HC := Lib.hid (refNumber_any x 4 xl (by decide) (by decide))
        have HX := Lib.hid hx
        have HI := Lib.hid hlt
        have HO := Lib.hid hO
        have HGZ := Lib.hid hgz
        have HG := Lib.hid hg
        clear hx xl hc htb hO hgz hg hi hlt hL gr
        go_wp2_with fail
        go_at_call 48
        refine (HC.out _).mono ?_
        intro e V2 h
        obtain ⟨b4, rfl, hz4, ho4, g4⟩ := h.v2 (by decide)
        have hO2 := HO.out.grown g4 (by simp)
        obtain ⟨v, w2, hap, ⟨g', cap', rfl, hO3, _, hgp, hor⟩⟩ := app_run 4 28 hO2 ho4.rd (by have := HNL.out; have := HI.out; omega)
        have hO4 := hO3.congr (lst_next nl i x fl HX.out)
        have hgw := grown_new (grown_trans HG.out g4) hgp HGZ.out
        have hgz : w1.heap.size ≤ g' := by
          have h1 := HGZ.out
          have h2 := (grown_trans HG.out g4).size
          omega
        have HAP := Lib.hid hap
        have HO4 := Lib.hid hO4
        have HGW := Lib.hid hgw
        have HGZ2 := Lib.hid hgz
        clear h hz4 ho4 g4 hO2 hO3 hgp hor hO4 hgw hgz hap HO HG HC
        go_wp2_with (at_builtin; refine wpList_append_run rfl (.tmp 72) (.tmp 79) 28 28 rfl _ (.slice (some ⟨b4, 0, none⟩) 4 4) _ _ rfl rfl HAP.out ?_)
        go_roundw
        case rel => exact ⟨i + 1, g', cap', HI.out, by go_num, by rw [show 2 + 4 * (i + 1) = 2 + 4 * i + 4 by omega], by rw [show 2 + 4 * (i + 1) = 2 + 4 * i + 4 by omega]; exact HO4.out, HGZ2.out, HGW.out⟩
        case measure =>
          have := HI.out
          simp [intOf]
          try omega
      · obtain rfl : i = nl := by omega
        have j1 : ¬ (i : Int) < (i : Int) := by omega
        obtain ⟨b2, hb2⟩ : ∃ b, b = decide ((i : Int) < 65536) := ⟨_, rfl⟩
        have gr2 := grown_trans gr hg
        have K3 := Lib.hid c3
        have K4 := Lib.hid (hg.cell C4.out (by simp))
        have HO := Lib.hid hO
        clear hlt hi hL hgz hO hg gr
        go_upto_region 22 with fail
        clear c3
        by_cases hb1 : (i : Int) ≤ m
        · have HOk := Lib.hid (show oneOk 6 nb i m = b2 by
            show (decide ((i : Int) ≤ m) && decide (i < 65536)) = b2
            rw [decide_eq_true hb1, Bool.true_and, hb2]
            exact decide_eq_decide.2 (by omega))
          replace hb2 := hb2.symm
          refine wp_region_rel_c (fun W => wr.grownBy W none) (fun _ h => h) (alL []) (relL [fun vv _ => vv = .slice (some ⟨g, 0, none⟩) (2 + 4 * i) cap, fun vv _ => vv = .pointer (some ⟨B, 3, none⟩), fun vv _ => vv = .slice al i cl, fun vv _ => vv = .int .i64 (i : Nat), fun vv _ => vv = .pointer (some ⟨B, 4, none⟩), fun vv _ => vv = .int .i64 m, fun vv _ => vv = .bool true, fun vv _ => vv = .bool true, fun vv _ => vv = .pointer (some ⟨B, 3, none⟩), fun vv _ => vv = .slice al i cl, fun vv _ => vv = .int .i64 (i : Nat), fun vv _ => vv = .bool b2, fun vv _ => vv = .bool b2, fun vv _ => vv = .slice (some ⟨g, 0, none⟩) (2 + 4 * i) cap])
            14 1 (atL [81, 82, 83, 84, 85, 86, 87, 88, 89, 90, 91, 92, 93, 2]) (depL [[], [], [1], [2], [], [4], [3, 5], [6], [7], [8, 7], [9, 7], [10, 7], [7, 11], [0]]) (by kernel_rfl) rfl (by kernel_rfl) (by kernel_rfl) (by kernel_rfl) (by decide) (by kernel_rfl) 94 rfl (by decide) (by decide) (by decide) ?mono22true ?al22true ?step22true ?fin22true
          case mono22true =>
            intro k x W W' hk h g
            obtain rfl | rfl | rfl | rfl | rfl | rfl | rfl | rfl | rfl | rfl | rfl | rfl | rfl | rfl : k = 0 ∨ k = 1 ∨ k = 2 ∨ k = 3 ∨ k = 4 ∨ k = 5 ∨ k = 6 ∨ k = 7 ∨ k = 8 ∨ k = 9 ∨ k = 10 ∨ k = 11 ∨ k = 12 ∨ k = 13 := by omega
            · exact h
            · exact h
            · exact h
            · exact h
            · exact h
            · exact h
            · exact h
            · exact h
            · exact h
            · exact h
            · exact h
            · exact h
            · exact h
            · exact h
          case al22true =>
            intro k x W hk e h
            obtain rfl | rfl | rfl | rfl | rfl | rfl | rfl | rfl | rfl | rfl | rfl | rfl | rfl | rfl : k = 0 ∨ k = 1 ∨ k = 2 ∨ k = 3 ∨ k = 4 ∨ k = 5 ∨ k = 6 ∨ k = 7 ∨ k = 8 ∨ k = 9 ∨ k = 10 ∨ k = 11 ∨ k = 12 ∨ k = 13 := by omega
            · exact absurd e (by decide)
            · exact absurd e (by decide)
            · exact absurd e (by decide)
            · exact absurd e (by decide)
            · exact absurd e (by decide)
            · exact absurd e (by decide)
            · exact absurd e (by decide)
            · exact absurd e (by decide)
            · exact absurd e (by decide)
            · exact absurd e (by decide)
            · exact absurd e (by decide)
            · exact absurd e (by decide)
            · exact absurd e (by decide)
            · exact absurd e (by decide)
          case step22true =>
            intro k hk
            obtain rfl | rfl | rfl | rfl | rfl | rfl | rfl | rfl | rfl | rfl | rfl | rfl | rfl | rfl : k = 0 ∨ k = 1 ∨ k = 2 ∨ k = 3 ∨ k = 4 ∨ k = 5 ∨ k = 6 ∨ k = 7 ∨ k = 8 ∨ k = 9 ∨ k = 10 ∨ k = 11 ∨ k = 12 ∨ k = 13 := by omega
            · refine ⟨_, rfl, rfl, fun b W hs hg hD K hK0 => ?_⟩
              refine wpOp_at rfl (wanted_of rfl) ?_
              have hK := fun v W' g h => hK0 v W' g h (fun e => absurd e (by decide))
              exact rel_move 4 rfl (hs 4 (by decide)) rfl hK
            · refine ⟨_, rfl, rfl, fun b W hs hg hD K hK0 => ?_⟩
              refine wpOp_at rfl (wanted_of rfl) ?_
              have hK := fun v W' g h => hK0 v W' g h (fun e => absurd e (by decide))
              have h0 : b.tmps[1]?.getD undef = .pointer (some ⟨B, 0, none⟩) := (hs 1 (by decide))
              exact rel_val (v := .pointer (some ⟨B, 3, none⟩)) (by unfold execOp; go_simp) rfl hK
            · refine ⟨_, rfl, rfl, fun b W hs hg hD K hK0 => ?_⟩
              refine wpOp_at rfl (wanted_of rfl) ?_
              have hK := fun v W' g h => hK0 v W' g h (fun e => absurd e (by decide))
              have h0 : b.tmps[82]?.getD undef = .pointer (some ⟨B, 3, none⟩) := (hD 1 (by decide))
              exact rel_val (v := .slice al i cl) (by have cc := hg.cell K3.out (by simp); unfold execOp; go_simp) rfl hK
            · refine ⟨_, rfl, rfl, fun b W hs hg hD K hK0 => ?_⟩
              refine wpOp_at rfl (wanted_of rfl) ?_
              have hK := fun v W' g h => hK0 v W' g h (fun e => absurd e (by decide))
              have h0 : b.tmps[83]?.getD undef = .slice al i cl := (hD 2 (by decide))
              exact rel_val (v := .int .i64 (i : Nat)) (by unfold execOp; go_simp) rfl hK
            · refine ⟨_, rfl, rfl, fun b W hs hg hD K hK0 => ?_⟩
              refine wpOp_at rfl (wanted_of rfl) ?_
              have hK := fun v W' g h => hK0 v W' g h (fun e => absurd e (by decide))
              have h0 : b.tmps[1]?.getD undef = .pointer (some ⟨B, 0, none⟩) := (hs 1 (by decide))
              exact rel_val (v := .pointer (some ⟨B, 4, none⟩)) (by unfold execOp; go_simp) rfl hK
            · refine ⟨_, rfl, rfl, fun b W hs hg hD K hK0 => ?_⟩
              refine wpOp_at rfl (wanted_of rfl) ?_
              have hK := fun v W' g h => hK0 v W' g h (fun e => absurd e (by decide))
              have h0 : b.tmps[85]?.getD undef = .pointer (some ⟨B, 4, none⟩) := (hD 4 (by decide))
              exact rel_val (v := .int .i64 m) (by have cc := hg.cell K4.out (by simp); unfold execOp; go_simp) rfl hK
            · refine ⟨_, rfl, rfl, fun b W hs hg hD K hK0 => ?_⟩
              refine wpOp_at rfl (wanted_of rfl) ?_
              have hK := fun v W' g h => hK0 v W' g h (fun e => absurd e (by decide))
              have h0 : b.tmps[84]?.getD undef = .int .i64 (i : Nat) := (hD 3 (by decide))
              have h1 : b.tmps[86]?.getD undef = .int .i64 m := (hD 5 (by decide))
              exact rel_val (v := .bool true) (by unfold execOp; go_simp) rfl hK
            · refine ⟨_, rfl, rfl, fun b W hs hg hD K hK0 => ?_⟩
              refine wpOp_at rfl (wanted_of rfl) ?_
              have hK := fun v W' g h => hK0 v W' g h (fun e => absurd e (by decide))
              exact rel_move 87 rfl (hD 6 (by decide)) rfl hK
            · refine ⟨_, rfl, rfl, fun b W hs hg hD K hK0 => ?_⟩
              refine wpOp_at rfl (wanted_is (j := 7) (t := 88) (v := true) rfl rfl (hD 7 (by decide))) ?_
              have hK := fun v W' g h => hK0 v W' g h (fun e => absurd e (by decide))
              have h0 : b.tmps[1]?.getD undef = .pointer (some ⟨B, 0, none⟩) := (hs 1 (by decide))
              exact rel_val (v := .pointer (some ⟨B, 3, none⟩)) (by unfold execOp; go_simp) rfl hK
            · refine ⟨_, rfl, rfl, fun b W hs hg hD K hK0 => ?_⟩
              refine wpOp_at rfl (wanted_is (j := 7) (t := 88) (v := true) rfl rfl (hD 7 (by decide))) ?_
              have hK := fun v W' g h => hK0 v W' g h (fun e => absurd e (by decide))
              have h0 : b.tmps[89]?.getD undef = .pointer (some ⟨B, 3, none⟩) := (hD 8 (by decide))
              exact rel_val (v := .slice al i cl) (by have cc := hg.cell K3.out (by simp); unfold execOp; go_simp) rfl hK
            · refine ⟨_, rfl, rfl, fun b W hs hg hD K hK0 => ?_⟩
              refine wpOp_at rfl (wanted_is (j := 7) (t := 88) (v := true) rfl rfl (hD 7 (by decide))) ?_
              have hK := fun v W' g h => hK0 v W' g h (fun e => absurd e (by decide))
              have h0 : b.tmps[90]?.getD undef = .slice al i cl := (hD 9 (by decide))
              exact rel_val (v := .int .i64 (i : Nat)) (by unfold execOp; go_simp) rfl hK
            · refine ⟨_, rfl, rfl, fun b W hs hg hD K hK0 => ?_⟩
              refine wpOp_at rfl (wanted_is (j := 7) (t := 88) (v := true) rfl rfl (hD 7 (by decide))) ?_
              have hK := fun v W' g h => hK0 v W' g h (fun e => absurd e (by decide))
              have h0 : b.tmps[91]?.getD undef = .int .i64 (i : Nat) := (hD 10 (by decide))
              exact rel_val (v := .bool b2) (by unfold execOp; go_simp) rfl hK
            · refine ⟨_, rfl, rfl, fun b W hs hg hD K hK0 => ?_⟩
              refine wpOp_at rfl (wanted_of rfl) ?_
              have hK := fun v W' g h => hK0 v W' g h (fun e => absurd e (by decide))
              have h0 : b.tmps[88]?.getD undef = .bool true := (hD 7 (by decide))
              have h1 : b.tmps[92]?.getD undef = .bool b2 := (hD 11 (by decide))
              exact rel_val (v := .bool b2) (by unfold execOp; go_simp) rfl hK
            · refine ⟨_, rfl, rfl, fun b W hs hg hD K hK0 => ?_⟩
              refine wpOp_at rfl (wanted_of rfl) ?_
              have hK := fun v W' g h => hK0 v W' g h (fun e => absurd e (by decide))
              exact rel_assign 81 rfl (hD 0 (by decide)) rfl hK
          intro vals W hg hR hap
          have e1 : vals 12 = .bool b2 := hR 12 (by decide)
          have e2 : vals 13 = .slice (some ⟨g, 0, none⟩) (2 + 4 * i) cap := hR 13 (by decide)
          clear hR hap
          simp only [putsN, atL, Act.put, List.getD_cons_zero, List.getD_cons_succ, List.setIfInBounds_toArray, List.set_cons_succ, List.set_cons_zero, e1, e2]
          generalize vals 0 = q0
          generalize vals 1 = q1
          generalize vals 2 = q2
          generalize vals 3 = q3
          generalize vals 4 = q4
          generalize vals 5 = q5
          generalize vals 6 = q6
          generalize vals 7 = q7
          generalize vals 8 = q8
          generalize vals 9 = q9
          generalize vals 10 = q10
          generalize vals 11 = q11
          clear e1 e2 vals
          show wpAnyH _ _ _ _ _ 1 #[true, true, true, true, true, true, true, true, true, true, true, true, true, true, false] _ _
          refine wpAnyH_yieldD (some 3) (i := 14) (v := .bool b2) (by kernel_rfl) rfl rfl rfl (by unfold execOp; go_simp) hg ?_
          simp only [Act.put, List.setIfInBounds_toArray, List.set_cons_succ, List.set_cons_zero]
          refine wpAnyH_done (by kernel_rfl) ?_ _
          have gw := grown_trans gr2 hg
          have HR := Lib.hid (HO.out.grown hg (by simp)).rd
          have GW := Lib.hid gw
          clear gw hg gr2
          go_wp2_with fail
          go_ret2
          exact ⟨⟨some ⟨g, 0, none⟩, cap, by rw [HOk.out]; rfl, HR.out⟩, GW.out⟩
        · have HOk := Lib.hid (show oneOk 6 nb i m = false by
            show (decide ((i : Int) ≤ m) && decide (i < 65536)) = false
            rw [decide_eq_false hb1, Bool.false_and])
          clear hb2
          refine wp_region_rel_c (fun W => wr.grownBy W none) (fun _ h => h) (alL []) (relL [fun vv _ => vv = .slice (some ⟨g, 0, none⟩) (2 + 4 * i) cap, fun vv _ => vv = .pointer (some ⟨B, 3, none⟩), fun vv _ => vv = .slice al i cl, fun vv _ => vv = .int .i64 (i : Nat), fun vv _ => vv = .pointer (some ⟨B, 4, none⟩), fun vv _ => vv = .int .i64 m, fun vv _ => vv = .bool false, fun vv _ => vv = .bool false, fun vv _ => vv = undef, fun vv _ => vv = undef, fun vv _ => vv = undef, fun vv _ => vv = undef, fun vv _ => vv = .bool false, fun vv _ => vv = .slice (some ⟨g, 0, none⟩) (2 + 4 * i) cap])
            14 1 (atL [81, 82, 83, 84, 85, 86, 87, 88, 89, 90, 91, 92, 93, 2]) (depL [[], [], [1], [2], [], [4], [3, 5], [6], [7], [8, 7], [9, 7], [10, 7], [7, 11], [0]]) (by kernel_rfl) rfl (by kernel_rfl) (by kernel_rfl) (by kernel_rfl) (by decide) (by kernel_rfl) 94 rfl (by decide) (by decide) (by decide) ?mono22false ?al22false ?step22false ?fin22false
          case mono22false =>
            intro k x W W' hk h g
            obtain rfl | rfl | rfl | rfl | rfl | rfl | rfl | rfl | rfl | rfl | rfl | rfl | rfl | rfl : k = 0 ∨ k = 1 ∨ k = 2 ∨ k = 3 ∨ k = 4 ∨ k = 5 ∨ k = 6 ∨ k = 7 ∨ k = 8 ∨ k = 9 ∨ k = 10 ∨ k = 11 ∨ k = 12 ∨ k = 13 := by omega
            · exact h
            · exact h
            · exact h
            · exact h
            · exact h
            · exact h
            · exact h
            · exact h
            · exact h
            · exact h
            · exact h
            · exact h
            · exact h
            · exact h
          case al22false =>
            intro k x W hk e h
            obtain rfl | rfl | rfl | rfl | rfl | rfl | rfl | rfl | rfl | rfl | rfl | rfl | rfl | rfl : k = 0 ∨ k = 1 ∨ k = 2 ∨ k = 3 ∨ k = 4 ∨ k = 5 ∨ k = 6 ∨ k = 7 ∨ k = 8 ∨ k = 9 ∨ k = 10 ∨ k = 11 ∨ k = 12 ∨ k = 13 := by omega
            · exact absurd e (by decide)
            · exact absurd e (by decide)
            · exact absurd e (by decide)
            · exact absurd e (by decide)
            · exact absurd e (by decide)
            · exact absurd e (by decide)
            · exact absurd e (by decide)
            · exact absurd e (by decide)
            · exact absurd e (by decide)
            · exact absurd e (by decide)
            · exact absurd e (by decide)
            · exact absurd e (by decide)
            · exact absurd e (by decide)
            · exact absurd e (by decide)
          case step22false =>
            intro k hk
            obtain rfl | rfl | rfl | rfl | rfl | rfl | rfl | rfl | rfl | rfl | rfl | rfl | rfl | rfl : k = 0 ∨ k = 1 ∨ k = 2 ∨ k = 3 ∨ k = 4 ∨ k = 5 ∨ k = 6 ∨ k = 7 ∨ k = 8 ∨ k = 9 ∨ k = 10 ∨ k = 11 ∨ k = 12 ∨ k = 13 := by omega
            · refine ⟨_, rfl, rfl, fun b W hs hg hD K hK0 => ?_⟩
              refine wpOp_at rfl (wanted_of rfl) ?_
              have hK := fun v W' g h => hK0 v W' g h (fun e => absurd e (by decide))
              exact rel_move 4 rfl (hs 4 (by decide)) rfl hK
            · refine ⟨_, rfl, rfl, fun b W hs hg hD K hK0 => ?_⟩
              refine wpOp_at rfl (wanted_of rfl) ?_
              have hK := fun v W' g h => hK0 v W' g h (fun e => absurd e (by decide))
              have h0 : b.tmps[1]?.getD undef = .pointer (some ⟨B, 0, none⟩) := (hs 1 (by decide))
              exact rel_val (v := .pointer (some ⟨B, 3, none⟩)) (by unfold execOp; go_simp) rfl hK
            · refine ⟨_, rfl, rfl, fun b W hs hg hD K hK0 => ?_⟩
              refine wpOp_at rfl (wanted_of rfl) ?_
              have hK := fun v W' g h => hK0 v W' g h (fun e => absurd e (by decide))
              have h0 : b.tmps[82]?.getD undef = .pointer (some ⟨B, 3, none⟩) := (hD 1 (by decide))
              exact rel_val (v := .slice al i cl) (by have cc := hg.cell K3.out (by simp); unfold execOp; go_simp) rfl hK
            · refine ⟨_, rfl, rfl, fun b W hs hg hD K hK0 => ?_⟩
              refine wpOp_at rfl (wanted_of rfl) ?_
              have hK := fun v W' g h => hK0 v W' g h (fun e => absurd e (by decide))
              have h0 : b.tmps[83]?.getD undef = .slice al i cl := (hD 2 (by decide))
              exact rel_val (v := .int .i64 (i : Nat)) (by unfold execOp; go_simp) rfl hK
            · refine ⟨_, rfl, rfl, fun b W hs hg hD K hK0 => ?_⟩
              refine wpOp_at rfl (wanted_of rfl) ?_
              have hK := fun v W' g h => hK0 v W' g h (fun e => absurd e (by decide))
              have h0 : b.tmps[1]?.getD undef = .pointer (some ⟨B, 0, none⟩) := (hs 1 (by decide))
              exact rel_val (v := .pointer (some ⟨B, 4, none⟩)) (by unfold execOp; go_simp) rfl hK
            · refine ⟨_, rfl, rfl, fun b W hs hg hD K hK0 => ?_⟩
              refine wpOp_at rfl (wanted_of rfl) ?_
              have hK := fun v W' g h => hK0 v W' g h (fun e => absurd e (by decide))
              have h0 : b.tmps[85]?.getD undef = .pointer (some ⟨B, 4, none⟩) := (hD 4 (by decide))
              exact rel_val (v := .int .i64 m) (by have cc := hg.cell K4.out (by simp); unfold execOp; go_simp) rfl hK
            · refine ⟨_, rfl, rfl, fun b W hs hg hD K hK0 => ?_⟩
              refine wpOp_at rfl (wanted_of rfl) ?_
              have hK := fun v W' g h => hK0 v W' g h (fun e => absurd e (by decide))
              have h0 : b.tmps[84]?.getD undef = .int .i64 (i : Nat) := (hD 3 (by decide))
              have h1 : b.tmps[86]?.getD undef = .int .i64 m := (hD 5 (by decide))
              exact rel_val (v := .bool false) (by unfold execOp; go_simp) rfl hK
            · refine ⟨_, rfl, rfl, fun b W hs hg hD K hK0 => ?_⟩
              refine wpOp_at rfl (wanted_of rfl) ?_
              have hK := fun v W' g h => hK0 v W' g h (fun e => absurd e (by decide))
              exact rel_move 87 rfl (hD 6 (by decide)) rfl hK
            · refine ⟨_, rfl, rfl, fun b W hs hg hD K hK0 => ?_⟩
              exact wpOp_skip rfl (wanted_not (j := 7) (t := 88) (v := false) rfl rfl (hD 7 (by decide))) (hK0 _ _ (grown_refl W none) rfl (fun e => absurd e (by decide)))
            · refine ⟨_, rfl, rfl, fun b W hs hg hD K hK0 => ?_⟩
              exact wpOp_skip rfl (wanted_not (j := 7) (t := 88) (v := false) rfl rfl (hD 7 (by decide))) (hK0 _ _ (grown_refl W none) rfl (fun e => absurd e (by decide)))
            · refine ⟨_, rfl, rfl, fun b W hs hg hD K hK0 => ?_⟩
              exact wpOp_skip rfl (wanted_not (j := 7) (t := 88) (v := false) rfl rfl (hD 7 (by decide))) (hK0 _ _ (grown_refl W none) rfl (fun e => absurd e (by decide)))
            · refine ⟨_, rfl, rfl, fun b W hs hg hD K hK0 => ?_⟩
              exact wpOp_skip rfl (wanted_not (j := 7) (t := 88) (v := false) rfl rfl (hD 7 (by decide))) (hK0 _ _ (grown_refl W none) rfl (fun e => absurd e (by decide)))
            · refine ⟨_, rfl, rfl, fun b W hs hg hD K hK0 => ?_⟩
              refine wpOp_at rfl (wanted_of rfl) ?_
              have hK := fun v W' g h => hK0 v W' g h (fun e => absurd e (by decide))
              have h0 : b.tmps[88]?.getD undef = .bool false := (hD 7 (by decide))
              have h1 : b.tmps[92]?.getD undef = undef := (hD 11 (by decide))
              exact rel_val (v := .bool false) (by unfold execOp; go_simp) rfl hK
            · refine ⟨_, rfl, rfl, fun b W hs hg hD K hK0 => ?_⟩
              refine wpOp_at rfl (wanted_of rfl) ?_
              have hK := fun v W' g h => hK0 v W' g h (fun e => absurd e (by decide))
              exact rel_assign 81 rfl (hD 0 (by decide)) rfl hK
          intro vals W hg hR hap
          have e1 : vals 12 = .bool false := hR 12 (by decide)
          have e2 : vals 13 = .slice (some ⟨g, 0, none⟩) (2 + 4 * i) cap := hR 13 (by decide)
          clear hR hap
          simp only [putsN, atL, Act.put, List.getD_cons_zero, List.getD_cons_succ, List.setIfInBounds_toArray, List.set_cons_succ, List.set_cons_zero, e1, e2]
          generalize vals 0 = q0
          generalize vals 1 = q1
          generalize vals 2 = q2
          generalize vals 3 = q3
          generalize vals 4 = q4
          generalize vals 5 = q5
          generalize vals 6 = q6
          generalize vals 7 = q7
          generalize vals 8 = q8
          generalize vals 9 = q9
          generalize vals 10 = q10
          generalize vals 11 = q11
          clear e1 e2 vals
          show wpAnyH _ _ _ _ _ 1 #[true, true, true, true, true, true, true, true, true, true, true, true, true, true, false] _ _
          refine wpAnyH_yieldD (some 3) (i := 14) (v := .bool false) (by kernel_rfl) rfl rfl rfl (by unfold execOp; go_simp) hg ?_
          simp only [Act.put, List.setIfInBounds_toArray, List.set_cons_succ, List.set_cons_zero]
          refine wpAnyH_done (by kernel_rfl) ?_ _
          have gw := grown_trans gr2 hg
          have HR := Lib.hid (HO.out.grown hg (by simp)).rd
          have GW := Lib.hid gw
          clear gw hg gr2
          go_wp2_with fail
          go_ret2
          exact ⟨⟨some ⟨g, 0, none⟩, cap, by rw [HOk.out]; rfl, HR.out⟩, GW.out⟩
  have hN : oneN k nb nl = 0 := by unfold oneN; simp [e0, e1, e2, e3, e4, e5, e6]
  have hO : oneOk k nb nl m = true := by unfold oneOk; simp [e5, e6]
  have H1 := Lib.hid hN
  have H2 := Lib.hid hO
  have d0 : ((k : Int) == 0) = false := beq_eq_false_iff_ne.2 (by omega)
  have d1 : ((k : Int) == 1) = false := beq_eq_false_iff_ne.2 (by omega)
  have d2 : ((k : Int) == 2) = false := beq_eq_false_iff_ne.2 (by omega)
  have d3 : ((k : Int) == 3) = false := beq_eq_false_iff_ne.2 (by omega)
  have d4 : ((k : Int) == 4) = false := beq_eq_false_iff_ne.2 (by omega)
  have d5 : ((k : Int) == 5) = false := beq_eq_false_iff_ne.2 (by omega)
  have d6 : ((k : Int) == 6) = false := beq_eq_false_iff_ne.2 (by omega)
  clear hN hO e0 e1 e2 e3 e4 e5 e6 hk hB hL
  go_wp2_with fail
  go_ret2
  exact ⟨⟨none, 0, by rw [H1.out, H2.out]; rfl, ⟨fun h => by rw [H1.out] at h; omega⟩⟩, gr⟩
end Go.Proofs.Ytpkeolggehjjlaa
