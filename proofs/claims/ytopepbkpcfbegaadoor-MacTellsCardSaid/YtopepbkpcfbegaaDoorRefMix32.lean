/-
  The document's own functions of layer 1, of words of 32 bits: cut, turned, mixed.
-/
import Derived.Test.YtopepbkpcfbegaaDoorRefPow
import Derived.Test.YtopepbkpcfbegaaDoorBegun32
namespace Go.Proofs.YtopepbkpcfbegaaDoor
open Go.RowKit

set_option maxRecDepth 100000
set_option maxHeartbeats 400000

theorem cut32 (x y : Nat) (hx : x < 2 ^ 64) (hy : y = x % 2 ^ 32) (w : World) : Calls Tryd.prog 55 #[.int .u64 x, .int .i64 32] w fun e w' => e = .returned (.int .u64 y) ∧ w = w' := by
  have hx' := Lib.hid hx
  have hy' := Lib.hid hy
  clear hx hy
  go_enter Tryd.func55, Tryd.ntmps55
  go_wp2_with (go_at_call 53; refine (power_any _ 32 (2 ^ 32) rfl (by decide) rfl _).mono ?_; rintro e w' ⟨rfl, rfl⟩)
  go_ret
  have h1 := hx'.out
  have h2 := hy'.out
  exact ⟨ret_int (k := .u64) (by omega), rfl⟩

theorem turn32 (x n r : Nat) (N : Int) (hN : N = n) (hx : x < 2 ^ 32) (h1 : 1 ≤ n) (h2 : n < 32) (hr : r = rotr 32 x n) (w : World) :
    Calls Tryd.prog 71 #[.int .u64 x, .int .i64 N, .int .i64 32] w fun e w' => e = .returned (.int .u64 r) ∧ ∃ m, w' = w.drewN m := by
  subst hN
  obtain ⟨p1, hp1⟩ : ∃ p, p = 2 ^ n := ⟨_, rfl⟩
  obtain ⟨p2, hp2⟩ : ∃ p, p = 2 ^ (32 - n) := ⟨_, rfl⟩
  obtain ⟨q, hq⟩ : ∃ q, q = x / p1 := ⟨_, rfl⟩
  obtain ⟨y, hy⟩ : ∃ y, y = x * p2 % 2 ^ 64 := ⟨_, rfl⟩
  obtain ⟨c, hc⟩ : ∃ c, c = y % 2 ^ 32 := ⟨_, rfl⟩
  have hp0 : 0 < p1 := by rw [hp1]; exact Nat.two_pow_pos n
  have hrc : r = q + c := by
    rw [hr, ← rotr_add 32 x n hx (by omega), hc, hy, hq, hp1, hp2]
    congr 1
    omega
  have hrl : r < 2 ^ 32 := by rw [hr]; exact rotr_lt 32 x n hx
  have e1 : IntKind.i64.wrap (32 - (n : Int)) = (32 : Int) - n := by rw [IntKind.wrap_i64]; omega
  have e2 : IntKind.u64.wrap ((x : Int) * (p2 : Int)) = (y : Int) := by rw [← Int.natCast_mul, IntKind.wrap_u64, hy]; omega
  have e3 : IntKind.u64.wrap ((q : Int) + (c : Int)) = (r : Int) := by rw [IntKind.wrap_u64]; omega
  have e4 : (x : Int).tdiv (p1 : Int) = (q : Int) := by rw [hq, Int.tdiv_eq_ediv_of_nonneg (by omega)]; norm_cast
  have e5 : (p1 : Int) ≠ 0 := by omega
  have e7 : IntKind.u64.wrap (q : Int) = (q : Int) := by rw [IntKind.wrap_u64]; omega
  have e6 : (0 : Int) < p1 := by omega
  have HP1 := Lib.hid hp1
  have HP2 := Lib.hid hp2
  have HC := Lib.hid hc
  have Hyl : Hid (y < 2 ^ 64) := Lib.hid (by rw [hy]; exact Nat.mod_lt _ (by decide))
  have H2 := Lib.hid h2
  clear hp1 hp2 hq hy hc hr hrc hrl hx hp0 h2
  have q1 : Hid (∀ W : World, Calls Tryd.prog 53 #[.int .i64 (n : Int)] W fun e w' => e = .returned (.int .u64 p1) ∧ w' = W) :=
    Lib.hid fun W => (power_any _ n p1 rfl (by have := H2.out; omega) HP1.out W).mono fun _ _ h => ⟨h.1, h.2.symm⟩
  have q2 : Hid (∀ W : World, Calls Tryd.prog 53 #[.int .i64 (32 - (n : Int))] W fun e w' => e = .returned (.int .u64 p2) ∧ w' = W) :=
    Lib.hid fun W => (power_any _ (32 - n) p2 (by have := H2.out; omega) (by have := H2.out; omega) HP2.out W).mono fun _ _ h => ⟨h.1, h.2.symm⟩
  have q3 : Hid (∀ W : World, Calls Tryd.prog 55 #[.int .u64 (y : Int), .int .i64 32] W fun e w' => e = .returned (.int .u64 c) ∧ w' = W) :=
    Lib.hid fun W => (cut32 y c Hyl.out HC.out W).mono fun _ _ h => ⟨h.1, h.2.symm⟩
  go_enter Tryd.func71, Tryd.ntmps71
  go_wp2_with fail
  go_quiet ((first
    | (go_at_call 53; with_reducible exact Calls.quiet_of_same (q1.out _))
    | (go_at_call 53; with_reducible exact Calls.quiet_of_same (q2.out _))
    | (go_at_call 55; with_reducible exact Calls.quiet_of_same (q3.out _))))
  go_wp2_with fail
  go_ret
  exact ⟨rfl, nq, rfl⟩

/-- Three words, exclusive-or. -/
theorem xor3 (r1 r2 r3 r : Nat) (h1 : r1 < 2 ^ 64) (h2 : r2 < 2 ^ 64) (h3 : r3 < 2 ^ 64) (hr : r = r1 ^^^ r2 ^^^ r3) : bits .xor .u64 (bits .xor .u64 (r1 : Int) (r2 : Int)) (r3 : Int) = (r : Int) := by
  rw [bits_xor_u64 _ _ h1 h2, bits_xor_u64 _ _ (Nat.xor_lt_two_pow h1 h2) h3, hr]

theorem mixT32 (x a b' c r : Nat) (A B C : Int) (hA : A = a) (hB : B = b') (hC : C = c) (hx : x < 2 ^ 32) (ha : 1 ≤ a ∧ a < 32) (hb : 1 ≤ b' ∧ b' < 32) (hc : 1 ≤ c ∧ c < 32) (hr : r = turned 32 x a b' c) (w : World) :
    Calls Tryd.prog 64 #[.int .u64 x, .int .i64 A, .int .i64 B, .int .i64 C, .int .i64 32, .bool false] w fun e w' => e = .returned (.int .u64 r) ∧ ∃ m, w' = w.drewN m := by
  subst hA hB hC
  obtain ⟨r1, hr1⟩ : ∃ r1, r1 = rotr 32 x a := ⟨_, rfl⟩
  obtain ⟨r2, hr2⟩ : ∃ r1, r1 = rotr 32 x b' := ⟨_, rfl⟩
  obtain ⟨r3, hr3⟩ : ∃ r1, r1 = rotr 32 x c := ⟨_, rfl⟩
  have l1 : r1 < 2 ^ 32 := by rw [hr1]; exact rotr_lt 32 x a hx
  have l2 : r2 < 2 ^ 32 := by rw [hr2]; exact rotr_lt 32 x b' hx
  have l3 : r3 < 2 ^ 32 := by rw [hr3]; exact rotr_lt 32 x c hx
  have ex := xor3 r1 r2 r3 r (by omega) (by omega) (by omega) (by rw [hr, hr1, hr2, hr3]; rfl)
  obtain ⟨p, hp⟩ : ∃ p, p = 2 ^ c := ⟨_, rfl⟩
  have hp0 : 0 < p := by rw [hp]; exact Nat.two_pow_pos c
  have e6 : (0 : Int) < p := by omega
  have qp : Hid (∀ W : World, Calls Tryd.prog 53 #[.int .i64 (c : Int)] W fun e w' => e = .returned (.int .u64 p) ∧ W = w') := Lib.hid fun W => power_any _ c p rfl (by omega) hp W
  have q1 : Hid (∀ W : World, Calls Tryd.prog 71 #[.int .u64 x, .int .i64 (a : Int), .int .i64 32] W fun e w' => e = .returned (.int .u64 r1) ∧ ∃ m, w' = W.drewN m) := Lib.hid fun W => turn32 x a r1 _ rfl hx ha.1 ha.2 hr1 W
  have q2 : Hid (∀ W : World, Calls Tryd.prog 71 #[.int .u64 x, .int .i64 (b' : Int), .int .i64 32] W fun e w' => e = .returned (.int .u64 r2) ∧ ∃ m, w' = W.drewN m) := Lib.hid fun W => turn32 x b' r2 _ rfl hx hb.1 hb.2 hr2 W
  have q3 : Hid (∀ W : World, Calls Tryd.prog 71 #[.int .u64 x, .int .i64 (c : Int), .int .i64 32] W fun e w' => e = .returned (.int .u64 r3) ∧ ∃ m, w' = W.drewN m) := Lib.hid fun W => turn32 x c r3 _ rfl hx hc.1 hc.2 hr3 W
  clear hr1 hr2 hr3 l1 l2 l3 hp hp0 hx ha hb hc hr
  go_enter Tryd.func64, Tryd.ntmps64
  go_wp2_with fail
  go_at_call 53
  with_reducible refine (qp.out _).mono ?_
  rintro e w' ⟨rfl, rfl⟩
  go_wp2_with fail
  go_at_call 71
  with_reducible refine (q3.out _).mono ?_
  rintro e w' ⟨rfl, m3, rfl⟩
  go_wp2_with fail
  go_at_call 71
  with_reducible refine (q1.out _).mono ?_
  rintro e w' ⟨rfl, m1, rfl⟩
  go_wp2_with fail
  go_at_call 71
  with_reducible refine (q2.out _).mono ?_
  rintro e w' ⟨rfl, m2, rfl⟩
  go_wp2_with fail
  go_ret
  exact ⟨rfl, _, rfl⟩

theorem mixS32 (x a b' c r : Nat) (A B C : Int) (hA : A = a) (hB : B = b') (hC : C = c) (hx : x < 2 ^ 32) (ha : 1 ≤ a ∧ a < 32) (hb : 1 ≤ b' ∧ b' < 32) (hc : 1 ≤ c ∧ c < 32) (hr : r = shifted 32 x a b' c) (w : World) :
    Calls Tryd.prog 64 #[.int .u64 x, .int .i64 A, .int .i64 B, .int .i64 C, .int .i64 32, .bool true] w fun e w' => e = .returned (.int .u64 r) ∧ ∃ m, w' = w.drewN m := by
  subst hA hB hC
  obtain ⟨r1, hr1⟩ : ∃ r1, r1 = rotr 32 x a := ⟨_, rfl⟩
  obtain ⟨r2, hr2⟩ : ∃ r1, r1 = rotr 32 x b' := ⟨_, rfl⟩
  obtain ⟨r3, hr3⟩ : ∃ r1, r1 = x / 2 ^ c := ⟨_, rfl⟩
  have l1 : r1 < 2 ^ 32 := by rw [hr1]; exact rotr_lt 32 x a hx
  have l2 : r2 < 2 ^ 32 := by rw [hr2]; exact rotr_lt 32 x b' hx
  have l3 : r3 < 2 ^ 32 := by rw [hr3]; exact Nat.lt_of_le_of_lt (Nat.div_le_self _ _) hx
  have ex := xor3 r1 r2 r3 r (by omega) (by omega) (by omega) (by rw [hr, hr1, hr2, hr3]; rfl)
  obtain ⟨p, hp⟩ : ∃ p, p = 2 ^ c := ⟨_, rfl⟩
  have hp0 : 0 < p := by rw [hp]; exact Nat.two_pow_pos c
  have e6 : (0 : Int) < p := by omega
  have qp : Hid (∀ W : World, Calls Tryd.prog 53 #[.int .i64 (c : Int)] W fun e w' => e = .returned (.int .u64 p) ∧ W = w') := Lib.hid fun W => power_any _ c p rfl (by omega) hp W
  have q1 : Hid (∀ W : World, Calls Tryd.prog 71 #[.int .u64 x, .int .i64 (a : Int), .int .i64 32] W fun e w' => e = .returned (.int .u64 r1) ∧ ∃ m, w' = W.drewN m) := Lib.hid fun W => turn32 x a r1 _ rfl hx ha.1 ha.2 hr1 W
  have q2 : Hid (∀ W : World, Calls Tryd.prog 71 #[.int .u64 x, .int .i64 (b' : Int), .int .i64 32] W fun e w' => e = .returned (.int .u64 r2) ∧ ∃ m, w' = W.drewN m) := Lib.hid fun W => turn32 x b' r2 _ rfl hx hb.1 hb.2 hr2 W
  have e8 : IntKind.u64.wrap ((x : Int) / (p : Int)) = (r3 : Int) := by
    have : (x : Int) / (p : Int) = (r3 : Int) := by rw [hr3, hp]; norm_cast
    rw [this, IntKind.wrap_u64]; omega
  clear hr1 hr2 hr3 l1 l2 l3 hp hp0 hx ha hb hc hr
  go_enter Tryd.func64, Tryd.ntmps64
  go_wp2_with fail
  go_at_call 53
  with_reducible refine (qp.out _).mono ?_
  rintro e w' ⟨rfl, rfl⟩
  go_wp2_with fail
  go_at_call 71
  with_reducible refine (q1.out _).mono ?_
  rintro e w' ⟨rfl, m1, rfl⟩
  go_wp2_with fail
  go_at_call 71
  with_reducible refine (q2.out _).mono ?_
  rintro e w' ⟨rfl, m2, rfl⟩
  go_wp2_with fail
  go_ret
  exact ⟨rfl, _, rfl⟩

theorem four0_32 (x r : Nat) (hx : x < 2 ^ 32) (hr : r = turned 32 x (P32 0) (P32 1) (P32 2)) (w : World) :
    Calls Tryd.prog 56 #[.int .i64 0, .int .u64 x, .int .i64 32] w fun e w' => e = .returned (.int .u64 r) ∧ ∃ m, w' = w.drewN m := by
  have q : Hid (∀ W : World, Calls Tryd.prog 64 #[.int .u64 x, .int .i64 2, .int .i64 13, .int .i64 22, .int .i64 32, .bool false] W fun e w' => e = .returned (.int .u64 r) ∧ ∃ m, w' = W.drewN m) :=
    Lib.hid fun W => mixT32 x 2 13 22 r _ _ _ rfl rfl rfl hx (by decide) (by decide) (by decide) hr W
  clear hx hr
  go_enter Tryd.func56, Tryd.ntmps56
  go_wp2_with fail
  go_at_call 64
  with_reducible refine (q.out _).mono ?_
  rintro e w' ⟨rfl, m, rfl⟩
  go_wp2_with fail
  go_ret
  exact ⟨rfl, _, rfl⟩

theorem four1_32 (x r : Nat) (hx : x < 2 ^ 32) (hr : r = turned 32 x (P32 3) (P32 4) (P32 5)) (w : World) :
    Calls Tryd.prog 56 #[.int .i64 1, .int .u64 x, .int .i64 32] w fun e w' => e = .returned (.int .u64 r) ∧ ∃ m, w' = w.drewN m := by
  have q : Hid (∀ W : World, Calls Tryd.prog 64 #[.int .u64 x, .int .i64 6, .int .i64 11, .int .i64 25, .int .i64 32, .bool false] W fun e w' => e = .returned (.int .u64 r) ∧ ∃ m, w' = W.drewN m) :=
    Lib.hid fun W => mixT32 x 6 11 25 r _ _ _ rfl rfl rfl hx (by decide) (by decide) (by decide) hr W
  clear hx hr
  go_enter Tryd.func56, Tryd.ntmps56
  go_wp2_with fail
  go_at_call 64
  with_reducible refine (q.out _).mono ?_
  rintro e w' ⟨rfl, m, rfl⟩
  go_wp2_with fail
  go_ret
  exact ⟨rfl, _, rfl⟩

theorem four2_32 (x r : Nat) (hx : x < 2 ^ 32) (hr : r = shifted 32 x (P32 6) (P32 7) (P32 8)) (w : World) :
    Calls Tryd.prog 56 #[.int .i64 2, .int .u64 x, .int .i64 32] w fun e w' => e = .returned (.int .u64 r) ∧ ∃ m, w' = w.drewN m := by
  have q : Hid (∀ W : World, Calls Tryd.prog 64 #[.int .u64 x, .int .i64 7, .int .i64 18, .int .i64 3, .int .i64 32, .bool true] W fun e w' => e = .returned (.int .u64 r) ∧ ∃ m, w' = W.drewN m) :=
    Lib.hid fun W => mixS32 x 7 18 3 r _ _ _ rfl rfl rfl hx (by decide) (by decide) (by decide) hr W
  clear hx hr
  go_enter Tryd.func56, Tryd.ntmps56
  go_wp2_with fail
  go_at_call 64
  with_reducible refine (q.out _).mono ?_
  rintro e w' ⟨rfl, m, rfl⟩
  go_wp2_with fail
  go_ret
  exact ⟨rfl, _, rfl⟩

theorem four3_32 (x r : Nat) (hx : x < 2 ^ 32) (hr : r = shifted 32 x (P32 9) (P32 10) (P32 11)) (w : World) :
    Calls Tryd.prog 56 #[.int .i64 3, .int .u64 x, .int .i64 32] w fun e w' => e = .returned (.int .u64 r) ∧ ∃ m, w' = w.drewN m := by
  have q : Hid (∀ W : World, Calls Tryd.prog 64 #[.int .u64 x, .int .i64 17, .int .i64 19, .int .i64 10, .int .i64 32, .bool true] W fun e w' => e = .returned (.int .u64 r) ∧ ∃ m, w' = W.drewN m) :=
    Lib.hid fun W => mixS32 x 17 19 10 r _ _ _ rfl rfl rfl hx (by decide) (by decide) (by decide) hr W
  clear hx hr
  go_enter Tryd.func56, Tryd.ntmps56
  go_wp2_with fail
  go_at_call 64
  with_reducible refine (q.out _).mono ?_
  rintro e w' ⟨rfl, m, rfl⟩
  go_wp2_with fail
  go_ret
  exact ⟨rfl, _, rfl⟩

end Go.Proofs.YtopepbkpcfbegaaDoor
