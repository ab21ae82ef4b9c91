/-
  The document's own round, of words of 32 bits.
-/
import Derived.Test.YtopepbkpcfbegaaDoorRefMix32
import Derived.Test.YtopepbkpcfbegaaDoorMach
import Derived.StillTailTactics
namespace Go.Proofs.YtopepbkpcfbegaaDoor
open Go.RowKit

set_option maxRecDepth 100000
set_option maxHeartbeats 1000000

/-- Eight words of a new block. -/
structure Gave8_32 (w : World) (v : Oct) (e : Ending) (w' : World) : Prop where
  ex : ∃ r, e = .returned (.slice (some ⟨r, 0, none⟩) 8 8) ∧ w.heap.size ≤ r ∧ Holds w' r 58 .u64 8 v.get ∧ w.grownBy w' none

theorem round32 (vb vc k wt : Nat) (v : Oct) (w : World) (hc : ∀ i, i < 8 → w.cell? ⟨vb, i, none⟩ = some (.int .u64 (v.get i))) (hv : v.Lt (2 ^ 32)) (hk : k < 2 ^ 32) :
    Calls Tryd.prog 57 #[.slice (some ⟨vb, 0, none⟩) 8 vc, .int .u64 k, .int .u64 wt, .int .i64 32] w (Gave8_32 w (rnd 32 P32 k wt v)) := by
  have c0 : w.cell? ⟨vb, 0, none⟩ = some (.int .u64 v.a) := hc 0 (by decide)
  have c1 : w.cell? ⟨vb, 1, none⟩ = some (.int .u64 v.b) := hc 1 (by decide)
  have c2 : w.cell? ⟨vb, 2, none⟩ = some (.int .u64 v.c) := hc 2 (by decide)
  have c3 : w.cell? ⟨vb, 3, none⟩ = some (.int .u64 v.d) := hc 3 (by decide)
  have c4 : w.cell? ⟨vb, 4, none⟩ = some (.int .u64 v.e) := hc 4 (by decide)
  have c5 : w.cell? ⟨vb, 5, none⟩ = some (.int .u64 v.f) := hc 5 (by decide)
  have c6 : w.cell? ⟨vb, 6, none⟩ = some (.int .u64 v.g) := hc 6 (by decide)
  have c7 : w.cell? ⟨vb, 7, none⟩ = some (.int .u64 v.h) := hc 7 (by decide)
  clear hc
  obtain ⟨la, lb, lc, ld, le, lf, lg, lh⟩ := hv
  have hvl : v.Lt (2 ^ 32) := ⟨la, lb, lc, ld, le, lf, lg, lh⟩
  -- p
  obtain ⟨f1, hf1⟩ : ∃ x, x = turned 32 v.e (P32 3) (P32 4) (P32 5) := ⟨_, rfl⟩
  have lf1 : f1 < 2 ^ 32 := by rw [hf1]; exact turned_lt 32 _ _ _ _ le
  obtain ⟨ne, hne⟩ : ∃ x, x = 2 ^ 32 - 1 - v.e := ⟨_, rfl⟩
  have a1 := bits_and_u64 v.e v.f (by omega) (by omega)
  have a2 := bits_and_u64 ne v.g (by omega) (by omega)
  have l1 : v.e &&& v.f < 2 ^ 32 := Nat.and_lt_two_pow _ lf
  have l2 : ne &&& v.g < 2 ^ 32 := Nat.and_lt_two_pow _ lg
  have a3 := bits_xor_u64 (v.e &&& v.f) (ne &&& v.g) (by omega) (by omega)
  have l3 : (v.e &&& v.f) ^^^ (ne &&& v.g) < 2 ^ 32 := Nat.xor_lt_two_pow l1 l2
  obtain ⟨p, hp⟩ : ∃ x, x = rndP 32 P32 k wt v := ⟨_, rfl⟩
  have hp2 : p = (v.h + f1 + ((v.e &&& v.f) ^^^ (ne &&& v.g)) + k + wt) % 2 ^ 32 := by rw [hp, hf1, hne]; rfl
  -- q
  obtain ⟨f0, hf0⟩ : ∃ x, x = turned 32 v.a (P32 0) (P32 1) (P32 2) := ⟨_, rfl⟩
  have lf0 : f0 < 2 ^ 32 := by rw [hf0]; exact turned_lt 32 _ _ _ _ la
  have b1 := bits_and_u64 v.a v.b (by omega) (by omega)
  have b2 := bits_and_u64 v.a v.c (by omega) (by omega)
  have b3 := bits_and_u64 v.b v.c (by omega) (by omega)
  have m1 : v.a &&& v.b < 2 ^ 32 := Nat.and_lt_two_pow _ lb
  have m2 : v.a &&& v.c < 2 ^ 32 := Nat.and_lt_two_pow _ lc
  have m3 : v.b &&& v.c < 2 ^ 32 := Nat.and_lt_two_pow _ lc
  have b4 := bits_xor_u64 (v.a &&& v.b) (v.a &&& v.c) (by omega) (by omega)
  have m4 : (v.a &&& v.b) ^^^ (v.a &&& v.c) < 2 ^ 32 := Nat.xor_lt_two_pow m1 m2
  have b5 := bits_xor_u64 ((v.a &&& v.b) ^^^ (v.a &&& v.c)) (v.b &&& v.c) (by omega) (by omega)
  have m5 : (v.a &&& v.b) ^^^ (v.a &&& v.c) ^^^ (v.b &&& v.c) < 2 ^ 32 := Nat.xor_lt_two_pow m4 m3
  obtain ⟨q, hq⟩ : ∃ x, x = rndQ 32 P32 v := ⟨_, rfl⟩
  have hq2 : q = (f0 + ((v.a &&& v.b) ^^^ (v.a &&& v.c) ^^^ (v.b &&& v.c))) % 2 ^ 32 := by rw [hq, hf0]; rfl
  have hrnd : rnd 32 P32 k wt v = ⟨(p + q) % 2 ^ 32, v.a, v.b, v.c, (v.d + p) % 2 ^ 32, v.e, v.f, v.g⟩ := by rw [hp, hq]; rfl
  have lp : p < 2 ^ 32 := by rw [hp2]; exact Nat.mod_lt _ (by decide)
  have lq : q < 2 ^ 32 := by rw [hq2]; exact Nat.mod_lt _ (by decide)
  have Q4e : Hid (∀ W : World, Calls Tryd.prog 56 #[.int .i64 1, .int .u64 v.e, .int .i64 32] W fun e w' => e = .returned (.int .u64 f1) ∧ ∃ m, w' = W.drewN m) := Lib.hid fun W => four1_32 v.e f1 le hf1 W
  have Q4a : Hid (∀ W : World, Calls Tryd.prog 56 #[.int .i64 0, .int .u64 v.a, .int .i64 32] W fun e w' => e = .returned (.int .u64 f0) ∧ ∃ m, w' = W.drewN m) := Lib.hid fun W => four0_32 v.a f0 la hf0 W
  generalize (v.e &&& v.f) ^^^ (ne &&& v.g) = ch at *
  generalize v.e &&& v.f = ef at *
  generalize ne &&& v.g = ng at *
  generalize (v.a &&& v.b) ^^^ (v.a &&& v.c) ^^^ (v.b &&& v.c) = mj at *
  generalize (v.a &&& v.b) ^^^ (v.a &&& v.c) = mk at *
  generalize v.a &&& v.b = ab at *
  generalize v.a &&& v.c = ac at *
  generalize v.b &&& v.c = bc at *
  obtain ⟨y1, hy1⟩ : ∃ x, x = (v.h + f1) % 2 ^ 64 := ⟨_, rfl⟩
  obtain ⟨y2, hy2⟩ : ∃ x, x = (y1 + ch) % 2 ^ 64 := ⟨_, rfl⟩
  obtain ⟨y3, hy3⟩ : ∃ x, x = (y2 + k) % 2 ^ 64 := ⟨_, rfl⟩
  obtain ⟨y4, hy4⟩ : ∃ x, x = (y3 + wt) % 2 ^ 64 := ⟨_, rfl⟩
  obtain ⟨z1, hz1⟩ : ∃ x, x = (f0 + mj) % 2 ^ 64 := ⟨_, rfl⟩
  obtain ⟨s1, hs1⟩ : ∃ x, x = (p + q) % 2 ^ 64 := ⟨_, rfl⟩
  obtain ⟨s2, hs2⟩ : ∃ x, x = (v.d + p) % 2 ^ 64 := ⟨_, rfl⟩
  obtain ⟨t1, ht1⟩ : ∃ x, x = (p + q) % 2 ^ 32 := ⟨_, rfl⟩
  obtain ⟨t2, ht2⟩ : ∃ x, x = (v.d + p) % 2 ^ 32 := ⟨_, rfl⟩
  have e0 : IntKind.u64.wrap (((2 ^ 32 - 1 : Nat) : Int) - (v.e : Int)) = (ne : Int) := by rw [IntKind.wrap_u64]; omega
  have e1 : IntKind.u64.wrap ((v.h : Int) + (f1 : Int)) = (y1 : Int) := by rw [IntKind.wrap_u64]; omega
  have e2 : IntKind.u64.wrap ((y1 : Int) + (ch : Int)) = (y2 : Int) := by rw [IntKind.wrap_u64]; omega
  have e3 : IntKind.u64.wrap ((y2 : Int) + (k : Int)) = (y3 : Int) := by rw [IntKind.wrap_u64]; omega
  have e4 : IntKind.u64.wrap ((y3 : Int) + (wt : Int)) = (y4 : Int) := by rw [IntKind.wrap_u64]; omega
  have e5 : IntKind.u64.wrap ((f0 : Int) + (mj : Int)) = (z1 : Int) := by rw [IntKind.wrap_u64]; omega
  have e6 : IntKind.u64.wrap ((p : Int) + (q : Int)) = (s1 : Int) := by rw [IntKind.wrap_u64]; omega
  have e7 : IntKind.u64.wrap ((v.d : Int) + (p : Int)) = (s2 : Int) := by rw [IntKind.wrap_u64]; omega
  have QF : Hid (∀ W : World, Calls Tryd.prog 55 #[.int .u64 18446744073709551615, .int .i64 32] W fun e w' => e = .returned (.int .u64 ((2 ^ 32 - 1 : Nat) : Int)) ∧ W = w') := Lib.hid fun W => cut32 18446744073709551615 (2 ^ 32 - 1) (by decide) (by decide) W
  have QP : Hid (∀ W : World, Calls Tryd.prog 55 #[.int .u64 y4, .int .i64 32] W fun e w' => e = .returned (.int .u64 p) ∧ w' = W) := Lib.hid fun W => (cut32 y4 p (by omega) (by omega) W).mono fun _ _ h => ⟨h.1, h.2.symm⟩
  have QQ : Hid (∀ W : World, Calls Tryd.prog 55 #[.int .u64 z1, .int .i64 32] W fun e w' => e = .returned (.int .u64 q) ∧ w' = W) := Lib.hid fun W => (cut32 z1 q (by omega) (by omega) W).mono fun _ _ h => ⟨h.1, h.2.symm⟩
  have QS : Hid (∀ W : World, Calls Tryd.prog 55 #[.int .u64 s1, .int .i64 32] W fun e w' => e = .returned (.int .u64 t1) ∧ w' = W) := Lib.hid fun W => (cut32 s1 t1 (by omega) (by omega) W).mono fun _ _ h => ⟨h.1, h.2.symm⟩
  have QT : Hid (∀ W : World, Calls Tryd.prog 55 #[.int .u64 s2, .int .i64 32] W fun e w' => e = .returned (.int .u64 t2) ∧ w' = W) := Lib.hid fun W => (cut32 s2 t2 (by omega) (by omega) W).mono fun _ _ h => ⟨h.1, h.2.symm⟩
  have Hrnd : Hid (rnd 32 P32 k wt v = ⟨t1, v.a, v.b, v.c, t2, v.e, v.f, v.g⟩) := Lib.hid (by rw [hrnd, ht1, ht2])
  have hk0 : k < 2 ^ 32 := hk
  clear hrnd hy1 hy2 hy3 hy4 hz1 hs1 hs2 ht1 ht2 hp2 hq2 lp lq hp hq m5 m4 m3 m2 m1 l3 l2 l1 lf0 lf1 hf0 hf1 hvl la lb lc ld le lf lg lh hk hk0
  generalize hfull : ((2 ^ 32 - 1 : Nat) : Int) = full at *
  clear hfull hne
  go_enter Tryd.func57, Tryd.ntmps57
  go_wp2_with (go_at_call 55; (with_reducible refine (QF.out _).mono ?_); rintro e w' ⟨rfl, rfl⟩)
  go_quiet ((first
    | (go_at_call 56; with_reducible exact Calls.quiet_of (Q4e.out _))
    | (go_at_call 55; with_reducible exact Calls.quiet_of_same (QP.out _))))
  have g1 := grown_drewN (grown_refl w none) nq
  have d0 : (w.drewN nq).cell? ⟨vb, 0, none⟩ = some (.int .u64 v.a) := c0
  have d1 : (w.drewN nq).cell? ⟨vb, 1, none⟩ = some (.int .u64 v.b) := c1
  have d2 : (w.drewN nq).cell? ⟨vb, 2, none⟩ = some (.int .u64 v.c) := c2
  have d3 : (w.drewN nq).cell? ⟨vb, 3, none⟩ = some (.int .u64 v.d) := c3
  have d4 : (w.drewN nq).cell? ⟨vb, 4, none⟩ = some (.int .u64 v.e) := c4
  have d5 : (w.drewN nq).cell? ⟨vb, 5, none⟩ = some (.int .u64 v.f) := c5
  have d6 : (w.drewN nq).cell? ⟨vb, 6, none⟩ = some (.int .u64 v.g) := c6
  have d7 : (w.drewN nq).cell? ⟨vb, 7, none⟩ = some (.int .u64 v.h) := c7
  clear c0 c1 c2 c3 c4 c5 c6 c7 e1 e2 e3 e4 a1 a2 a3 e0
  generalize w.drewN nq = w2 at *
  go_wp2_with fail
  go_quiet ((first
    | (go_at_call 56; with_reducible exact Calls.quiet_of (Q4a.out _))
    | (go_at_call 55; with_reducible exact Calls.quiet_of_same (QQ.out _))))
  have g2 := grown_drewN g1 nq
  have c0 : (w2.drewN nq).cell? ⟨vb, 0, none⟩ = some (.int .u64 v.a) := d0
  have c1 : (w2.drewN nq).cell? ⟨vb, 1, none⟩ = some (.int .u64 v.b) := d1
  have c2 : (w2.drewN nq).cell? ⟨vb, 2, none⟩ = some (.int .u64 v.c) := d2
  have c3 : (w2.drewN nq).cell? ⟨vb, 3, none⟩ = some (.int .u64 v.d) := d3
  have c4 : (w2.drewN nq).cell? ⟨vb, 4, none⟩ = some (.int .u64 v.e) := d4
  have c5 : (w2.drewN nq).cell? ⟨vb, 5, none⟩ = some (.int .u64 v.f) := d5
  have c6 : (w2.drewN nq).cell? ⟨vb, 6, none⟩ = some (.int .u64 v.g) := d6
  have c7 : (w2.drewN nq).cell? ⟨vb, 7, none⟩ = some (.int .u64 v.h) := d7
  clear d0 d1 d2 d3 d4 d5 d6 d7 g1 b1 b2 b3 b4 b5 e5
  generalize w2.drewN nq = w3 at *
  go_wp2_with fail
  refine wp_region_still_tail 30 (by kernel_rfl) (by kernel_rfl) ?_
  have g3 := grown_drew g2
  have d0 : w3.drew.cell? ⟨vb, 0, none⟩ = some (.int .u64 v.a) := c0
  have d1 : w3.drew.cell? ⟨vb, 1, none⟩ = some (.int .u64 v.b) := c1
  have d2 : w3.drew.cell? ⟨vb, 2, none⟩ = some (.int .u64 v.c) := c2
  have d3 : w3.drew.cell? ⟨vb, 3, none⟩ = some (.int .u64 v.d) := c3
  have d4 : w3.drew.cell? ⟨vb, 4, none⟩ = some (.int .u64 v.e) := c4
  have d5 : w3.drew.cell? ⟨vb, 5, none⟩ = some (.int .u64 v.f) := c5
  have d6 : w3.drew.cell? ⟨vb, 6, none⟩ = some (.int .u64 v.g) := c6
  have d7 : w3.drew.cell? ⟨vb, 7, none⟩ = some (.int .u64 v.h) := c7
  change wpStill _ _ w3.drew (fun a' => wpList _ _ _ _ a' w3.drew) _ _
  clear c0 c1 c2 c3 c4 c5 c6 c7 g2
  generalize w3.drew = w4 at *
  simp only [List.take_succ_cons, List.take_zero, List.drop_succ_cons, List.drop_zero]
  repeat still_step
  still_call (QS.out _)
  repeat still_step
  still_call (QT.out _)
  repeat still_step
  refine wpStill_nil ?_
  have hH := holds_alloc w4 58 .u64 8 (rnd 32 P32 k wt v).get #[.int .u64 t1, .int .u64 v.a, .int .u64 v.b, .int .u64 v.c, .int .u64 t2, .int .u64 v.e, .int .u64 v.f, .int .u64 v.g] (by rw [Hrnd.out]; rfl)
  have HH := Lib.hid hH
  clear hH
  go_wp2_with fail
  go_ret
  exact ⟨_, rfl, g3.size, HH.out, grown_alloc g3 _⟩

end Go.Proofs.YtopepbkpcfbegaaDoor
