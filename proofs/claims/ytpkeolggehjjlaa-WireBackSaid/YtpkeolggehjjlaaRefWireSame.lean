/-
  The reference's Same, of lists that are one: true.
-/
import Derived.Test.YtpkeolggehjjlaaWireF
import Derived.Test.YtpkeolggehjjlaaRelKit
import Derived.Test.YtpkeolggehjjlaaRelGuard
namespace Go.Proofs.Ytpkeolggehjjlaa
open Go.RowKit

set_option maxRecDepth 100000
set_option maxHeartbeats 4000000

structure FV.Like (x y : FV) : Prop where
  k : x.k = y.k
  n : x.n = y.n
  nb : x.nb = y.nb
  fb : ∀ j, j < x.nb → x.fb j = y.fb j
  nl : x.nl = y.nl
  fl : ∀ j, j < x.nl → x.fl j = y.fl j
structure TrueSays (w : World) (e : Ending) (w' : World) : Prop where
  ex : e = .returned (.bool true) ∧ w.grownBy w' none
theorem refSame_any (D E : Nat) (a b : Option Addr) (n c d : Nat) (X Y : Nat → FV) (w : World) (hX : Flds w D a n X) (hY : Flds w E b n Y) (hn : n ≤ 1048576) (hs : ∀ i, i < n → (X i).Like (Y i)) (hstr : ∀ i, i < n → strOf (X i).nb (X i).fb = strOf (Y i).nb (Y i).fb) :
    Calls Try.prog 17 #[.slice a n c, .slice b n d] w (TrueSays w) := by
  have HX := Lib.hid hX
  have HY := Lib.hid hY
  have HS := Lib.hid hs
  have HT := Lib.hid hstr
  have kn : (n : Int) ≤ 1048576 := by omega
  clear hX hY hs hstr hn
  go_enter Try.func17, Try.ntmps17
  go_wp2_with fail
  go_loopw [5, 6] (fun u5 u6 wr => ∃ i : Nat, i ≤ n ∧ u5 = .bool true ∧ u6 = .int .i64 i ∧ w.grownBy wr none) (fun _ u6 _ => n - (intOf u6).toNat)
  case atStart => exact ⟨0, Nat.zero_le _, rfl, rfl, grown_refl w none⟩
  case round =>
    obtain ⟨i, hi, rfl, rfl, gr⟩ := hrel
    by_cases hlt : i < n
    · obtain ⟨t1, o1, rfl, _, hF⟩ := HX.out.ex (by omega)
      obtain ⟨t2, o2, rfl, _, hG⟩ := HY.out.ex (by omega)
      have hx := (hF i hlt).grown gr (by simp)
      have hy := (hG i hlt).grown gr (by simp)
      have mx := (HX.out.mem i hlt).grown gr (fun k e => by cases e)
      have my := (HY.out.mem i hlt).grown gr (fun k e => by cases e)
      have ox := HX.out.ok i
      have oy := HY.out.ok i
      have hl := HS.out i hlt
      have ht := HT.out i hlt
      have j1 : (i : Int) < (n : Int) := by omega
      generalize X i = x at *
      generalize Y i = y at *
      obtain ⟨xk, xn, xab, xnb, xcb, xfb, xal, xnl, xcl, xfl, xm⟩ := x
      obtain ⟨yk, yn, yab, ynb, ycb, yfb, yal, ynl, ycl, yfl, ym⟩ := y
      obtain ⟨l1, l2, l3, l4, l5, l6⟩ := hl
      simp only at l1 l2 l3 l4 l5 l6 ht
      subst l1
      subst l2
      subst l3
      subst l5
      have X0 := Lib.hid hx.c0
      have X1 := Lib.hid hx.c1
      have X2 := Lib.hid hx.c2
      have X3 := Lib.hid hx.c3
      have Y0 := Lib.hid hy.c0
      have Y1 := Lib.hid hy.c1
      have Y2 := Lib.hid hy.c2
      have Y3 := Lib.hid hy.c3
      have BX := Lib.hid mx.b
      have BY := Lib.hid my.b
      have LX := Lib.hid mx.l
      have LY := Lib.hid my.l
      have FX := Lib.hid ox.fb
      have FY := Lib.hid oy.fb
      have L6 := Lib.hid l6
      have knl : (xnl : Int) ≤ 1048576 := by have : xnl ≤ 1048576 := ox.ll; omega
      obtain ⟨s, hs⟩ : ∃ s, s = strOf xnb xfb := ⟨_, rfl⟩
      have S1 := Lib.hid hs
      have S2 := Lib.hid (show s = strOf xnb yfb by rw [hs, ht])
      have HI := Lib.hid hlt
      simp only at X0 X1 X2 X3 Y0 Y1 Y2 Y3 BX BY LX LY FX FY
      clear hx hy mx my ox oy ht l4 l6 hs hi hlt hF hG
      go_wp2_with fail
      refine wp_region_rel_all (fun W => wr.grownBy W none) (fun _ h => h) (alL []) (relL [fun vv _ => vv = .slice (some ⟨t1, o1, none⟩) n c, fun vv _ => vv = .int .i64 (i : Nat), fun vv _ => vv = .pointer (some ⟨t1, o1 + i * 5, none⟩), fun vv _ => vv = .pointer (some ⟨t1, o1 + i * 5, none⟩), fun vv _ => vv = .int .u8 (xk : Nat), fun vv _ => vv = .slice (some ⟨t2, o2, none⟩) n d, fun vv _ => vv = .int .i64 (i : Nat), fun vv _ => vv = .pointer (some ⟨t2, o2 + i * 5, none⟩), fun vv _ => vv = .pointer (some ⟨t2, o2 + i * 5, none⟩), fun vv _ => vv = .int .u8 (xk : Nat), fun vv _ => vv = .bool true, fun vv _ => vv = .bool true, fun vv _ => vv = .slice (some ⟨t1, o1, none⟩) n c, fun vv _ => vv = .int .i64 (i : Nat), fun vv _ => vv = .pointer (some ⟨t1, o1 + i * 5, none⟩), fun vv _ => vv = .pointer (some ⟨t1, o1 + i * 5 + 1, none⟩), fun vv _ => vv = .int .u64 (xn : Nat), fun vv _ => vv = .slice (some ⟨t2, o2, none⟩) n d, fun vv _ => vv = .int .i64 (i : Nat), fun vv _ => vv = .pointer (some ⟨t2, o2 + i * 5, none⟩), fun vv _ => vv = .pointer (some ⟨t2, o2 + i * 5 + 1, none⟩), fun vv _ => vv = .int .u64 (xn : Nat), fun vv _ => vv = .bool true, fun vv _ => vv = .bool true, fun vv _ => vv = .bool true, fun vv _ => vv = .slice (some ⟨t1, o1, none⟩) n c, fun vv _ => vv = .int .i64 (i : Nat), fun vv _ => vv = .pointer (some ⟨t1, o1 + i * 5, none⟩), fun vv _ => vv = .pointer (some ⟨t1, o1 + i * 5 + 2, none⟩), fun vv _ => vv = .slice xab xnb xcb, fun vv _ => vv = .string s, fun vv _ => vv = .slice (some ⟨t2, o2, none⟩) n d, fun vv _ => vv = .int .i64 (i : Nat), fun vv _ => vv = .pointer (some ⟨t2, o2 + i * 5, none⟩), fun vv _ => vv = .pointer (some ⟨t2, o2 + i * 5 + 2, none⟩), fun vv _ => vv = .slice yab xnb ycb, fun vv _ => vv = .string s, fun vv _ => vv = .bool true, fun vv _ => vv = .bool true, fun vv _ => vv = .bool true, fun vv _ => vv = .slice (some ⟨t1, o1, none⟩) n c, fun vv _ => vv = .int .i64 (i : Nat), fun vv _ => vv = .pointer (some ⟨t1, o1 + i * 5, none⟩), fun vv _ => vv = .pointer (some ⟨t1, o1 + i * 5 + 3, none⟩), fun vv _ => vv = .slice xal xnl xcl, fun vv _ => vv = .int .i64 (xnl : Nat), fun vv _ => vv = .slice (some ⟨t2, o2, none⟩) n d, fun vv _ => vv = .int .i64 (i : Nat), fun vv _ => vv = .pointer (some ⟨t2, o2 + i * 5, none⟩), fun vv _ => vv = .pointer (some ⟨t2, o2 + i * 5 + 3, none⟩), fun vv _ => vv = .slice yal xnl ycl, fun vv _ => vv = .int .i64 (xnl : Nat), fun vv _ => vv = .bool true, fun vv _ => vv = .bool true])
        54 1 (atL [22, 23, 24, 25, 26, 27, 28, 29, 30, 31, 32, 33, 34, 35, 36, 37, 38, 39, 40, 41, 42, 43, 44, 45, 46, 47, 48, 49, 50, 51, 52, 53, 54, 55, 56, 57, 58, 59, 60, 61, 62, 63, 64, 65, 66, 67, 68, 69, 70, 71, 72, 73, 74, 75]) (depL [[], [], [0, 1], [2], [3], [], [], [5, 6], [7], [8], [4, 9], [10], [11], [11], [12, 13, 11], [14, 11], [15, 11], [11], [11], [17, 18, 11], [19, 11], [20, 11], [16, 21, 11], [11, 22], [23], [24], [24], [25, 26, 24], [27, 24], [28, 24], [29, 24], [24], [24], [31, 32, 24], [33, 24], [34, 24], [35, 24], [30, 36, 24], [24, 37], [38], [39], [39], [40, 41, 39], [42, 39], [43, 39], [44, 39], [39], [39], [46, 47, 39], [48, 39], [49, 39], [50, 39], [45, 51, 39], [39, 52]]) (by kernel_rfl) rfl (by kernel_rfl) (by kernel_rfl) (by kernel_rfl) (by decide) (by kernel_rfl) 107 rfl (by decide) (by decide) (by decide) ?mono5 ?al5 ?step5 ?fin5
      case mono5 =>
        intro k x W W' hk h g
        obtain rfl | rfl | rfl | rfl | rfl | rfl | rfl | rfl | rfl | rfl | rfl | rfl | rfl | rfl | rfl | rfl | rfl | rfl | rfl | rfl | rfl | rfl | rfl | rfl | rfl | rfl | rfl | rfl | rfl | rfl | rfl | rfl | rfl | rfl | rfl | rfl | rfl | rfl | rfl | rfl | rfl | rfl | rfl | rfl | rfl | rfl | rfl | rfl | rfl | rfl | rfl | rfl | rfl | rfl : k = 0 ∨ k = 1 ∨ k = 2 ∨ k = 3 ∨ k = 4 ∨ k = 5 ∨ k = 6 ∨ k = 7 ∨ k = 8 ∨ k = 9 ∨ k = 10 ∨ k = 11 ∨ k = 12 ∨ k = 13 ∨ k = 14 ∨ k = 15 ∨ k = 16 ∨ k = 17 ∨ k = 18 ∨ k = 19 ∨ k = 20 ∨ k = 21 ∨ k = 22 ∨ k = 23 ∨ k = 24 ∨ k = 25 ∨ k = 26 ∨ k = 27 ∨ k = 28 ∨ k = 29 ∨ k = 30 ∨ k = 31 ∨ k = 32 ∨ k = 33 ∨ k = 34 ∨ k = 35 ∨ k = 36 ∨ k = 37 ∨ k = 38 ∨ k = 39 ∨ k = 40 ∨ k = 41 ∨ k = 42 ∨ k = 43 ∨ k = 44 ∨ k = 45 ∨ k = 46 ∨ k = 47 ∨ k = 48 ∨ k = 49 ∨ k = 50 ∨ k = 51 ∨ k = 52 ∨ k = 53 := by omega
        · exact h
        · exact h
        · exact h
        · exact h
        · exact h
        · exact h
        · exact h
        · exact h
        · exact h
        · exact h
        · exact h
        · exact h
        · exact h
        · exact h
        · exact h
        · exact h
        · exact h
        · exact h
        · exact h
        · exact h
        · exact h
        · exact h
        · exact h
        · exact h
        · exact h
        · exact h
        · exact h
        · exact h
        · exact h
        · exact h
        · exact h
        · exact h
        · exact h
        · exact h
        · exact h
        · exact h
        · exact h
        · exact h
        · exact h
        · exact h
        · exact h
        · exact h
        · exact h
        · exact h
        · exact h
        · exact h
        · exact h
        · exact h
        · exact h
        · exact h
        · exact h
        · exact h
        · exact h
        · exact h
      case al5 =>
        intro k x W hk e h
        obtain rfl | rfl | rfl | rfl | rfl | rfl | rfl | rfl | rfl | rfl | rfl | rfl | rfl | rfl | rfl | rfl | rfl | rfl | rfl | rfl | rfl | rfl | rfl | rfl | rfl | rfl | rfl | rfl | rfl | rfl | rfl | rfl | rfl | rfl | rfl | rfl | rfl | rfl | rfl | rfl | rfl | rfl | rfl | rfl | rfl | rfl | rfl | rfl | rfl | rfl | rfl | rfl | rfl | rfl : k = 0 ∨ k = 1 ∨ k = 2 ∨ k = 3 ∨ k = 4 ∨ k = 5 ∨ k = 6 ∨ k = 7 ∨ k = 8 ∨ k = 9 ∨ k = 10 ∨ k = 11 ∨ k = 12 ∨ k = 13 ∨ k = 14 ∨ k = 15 ∨ k = 16 ∨ k = 17 ∨ k = 18 ∨ k = 19 ∨ k = 20 ∨ k = 21 ∨ k = 22 ∨ k = 23 ∨ k = 24 ∨ k = 25 ∨ k = 26 ∨ k = 27 ∨ k = 28 ∨ k = 29 ∨ k = 30 ∨ k = 31 ∨ k = 32 ∨ k = 33 ∨ k = 34 ∨ k = 35 ∨ k = 36 ∨ k = 37 ∨ k = 38 ∨ k = 39 ∨ k = 40 ∨ k = 41 ∨ k = 42 ∨ k = 43 ∨ k = 44 ∨ k = 45 ∨ k = 46 ∨ k = 47 ∨ k = 48 ∨ k = 49 ∨ k = 50 ∨ k = 51 ∨ k = 52 ∨ k = 53 := by omega
        · exact absurd e (by decide)
        · exact absurd e (by decide)
        · exact absurd e (by decide)
        · exact absurd e (by decide)
        · exact absurd e (by decide)
        · exact absurd e (by decide)
        · exact absurd e (by decide)
        · exact absurd e (by decide)
        · exact absurd e (by decide)
        · exact absurd e (by decide)
        · exact absurd e (by decide)
        · exact absurd e (by decide)
        · exact absurd e (by decide)
        · exact absurd e (by decide)
        · exact absurd e (by decide)
        · exact absurd e (by decide)
        · exact absurd e (by decide)
        · exact absurd e (by decide)
        · exact absurd e (by decide)
        · exact absurd e (by decide)
        · exact absurd e (by decide)
        · exact absurd e (by decide)
        · exact absurd e (by decide)
        · exact absurd e (by decide)
        · exact absurd e (by decide)
        · exact absurd e (by decide)
        · exact absurd e (by decide)
        · exact absurd e (by decide)
        · exact absurd e (by decide)
        · exact absurd e (by decide)
        · exact absurd e (by decide)
        · exact absurd e (by decide)
        · exact absurd e (by decide)
        · exact absurd e (by decide)
        · exact absurd e (by decide)
        · exact absurd e (by decide)
        · exact absurd e (by decide)
        · exact absurd e (by decide)
        · exact absurd e (by decide)
        · exact absurd e (by decide)
        · exact absurd e (by decide)
        · exact absurd e (by decide)
        · exact absurd e (by decide)
        · exact absurd e (by decide)
        · exact absurd e (by decide)
        · exact absurd e (by decide)
        · exact absurd e (by decide)
        · exact absurd e (by decide)
        · exact absurd e (by decide)
        · exact absurd e (by decide)
        · exact absurd e (by decide)
        · exact absurd e (by decide)
        · exact absurd e (by decide)
        · exact absurd e (by decide)
      case step5 =>
        intro k hk
        obtain rfl | rfl | rfl | rfl | rfl | rfl | rfl | rfl | rfl | rfl | rfl | rfl | rfl | rfl | rfl | rfl | rfl | rfl | rfl | rfl | rfl | rfl | rfl | rfl | rfl | rfl | rfl | rfl | rfl | rfl | rfl | rfl | rfl | rfl | rfl | rfl | rfl | rfl | rfl | rfl | rfl | rfl | rfl | rfl | rfl | rfl | rfl | rfl | rfl | rfl | rfl | rfl | rfl | rfl : k = 0 ∨ k = 1 ∨ k = 2 ∨ k = 3 ∨ k = 4 ∨ k = 5 ∨ k = 6 ∨ k = 7 ∨ k = 8 ∨ k = 9 ∨ k = 10 ∨ k = 11 ∨ k = 12 ∨ k = 13 ∨ k = 14 ∨ k = 15 ∨ k = 16 ∨ k = 17 ∨ k = 18 ∨ k = 19 ∨ k = 20 ∨ k = 21 ∨ k = 22 ∨ k = 23 ∨ k = 24 ∨ k = 25 ∨ k = 26 ∨ k = 27 ∨ k = 28 ∨ k = 29 ∨ k = 30 ∨ k = 31 ∨ k = 32 ∨ k = 33 ∨ k = 34 ∨ k = 35 ∨ k = 36 ∨ k = 37 ∨ k = 38 ∨ k = 39 ∨ k = 40 ∨ k = 41 ∨ k = 42 ∨ k = 43 ∨ k = 44 ∨ k = 45 ∨ k = 46 ∨ k = 47 ∨ k = 48 ∨ k = 49 ∨ k = 50 ∨ k = 51 ∨ k = 52 ∨ k = 53 := by omega
        · refine ⟨_, rfl, rfl, fun b W hs hg hD => ⟨wanted_of rfl, fun K hK0 => ?_⟩⟩
          have hK := fun v W' g h => hK0 v W' g h (fun e => absurd e (by decide))
          exact rel_move 0 rfl (hs 0 (by decide)) rfl hK
        · refine ⟨_, rfl, rfl, fun b W hs hg hD => ⟨wanted_of rfl, fun K hK0 => ?_⟩⟩
          have hK := fun v W' g h => hK0 v W' g h (fun e => absurd e (by decide))
          exact rel_move 6 rfl (hs 6 (by decide)) rfl hK
        · refine ⟨_, rfl, rfl, fun b W hs hg hD => ⟨wanted_of rfl, fun K hK0 => ?_⟩⟩
          have hK := fun v W' g h => hK0 v W' g h (fun e => absurd e (by decide))
          have h0 : b.tmps[22]?.getD undef = .slice (some ⟨t1, o1, none⟩) n c := (hD 0 (by decide))
          have h1 : b.tmps[23]?.getD undef = .int .i64 (i : Nat) := (hD 1 (by decide))
          exact rel_val (v := .pointer (some ⟨t1, o1 + i * 5, none⟩)) (by unfold execOp; go_simp) rfl hK
        · refine ⟨_, rfl, rfl, fun b W hs hg hD => ⟨wanted_of rfl, fun K hK0 => ?_⟩⟩
          have hK := fun v W' g h => hK0 v W' g h (fun e => absurd e (by decide))
          have h0 : b.tmps[24]?.getD undef = .pointer (some ⟨t1, o1 + i * 5, none⟩) := (hD 2 (by decide))
          exact rel_val (v := .pointer (some ⟨t1, o1 + i * 5, none⟩)) (by unfold execOp; go_simp) rfl hK
        · refine ⟨_, rfl, rfl, fun b W hs hg hD => ⟨wanted_of rfl, fun K hK0 => ?_⟩⟩
          have hK := fun v W' g h => hK0 v W' g h (fun e => absurd e (by decide))
          have h0 : b.tmps[25]?.getD undef = .pointer (some ⟨t1, o1 + i * 5, none⟩) := (hD 3 (by decide))
          exact rel_val (v := .int .u8 (xk : Nat)) (by have cc := hg.cell X0.out (by simp); unfold execOp; go_simp) rfl hK
        · refine ⟨_, rfl, rfl, fun b W hs hg hD => ⟨wanted_of rfl, fun K hK0 => ?_⟩⟩
          have hK := fun v W' g h => hK0 v W' g h (fun e => absurd e (by decide))
          exact rel_move 1 rfl (hs 1 (by decide)) rfl hK
        · refine ⟨_, rfl, rfl, fun b W hs hg hD => ⟨wanted_of rfl, fun K hK0 => ?_⟩⟩
          have hK := fun v W' g h => hK0 v W' g h (fun e => absurd e (by decide))
          exact rel_move 6 rfl (hs 6 (by decide)) rfl hK
        · refine ⟨_, rfl, rfl, fun b W hs hg hD => ⟨wanted_of rfl, fun K hK0 => ?_⟩⟩
          have hK := fun v W' g h => hK0 v W' g h (fun e => absurd e (by decide))
          have h0 : b.tmps[27]?.getD undef = .slice (some ⟨t2, o2, none⟩) n d := (hD 5 (by decide))
          have h1 : b.tmps[28]?.getD undef = .int .i64 (i : Nat) := (hD 6 (by decide))
          exact rel_val (v := .pointer (some ⟨t2, o2 + i * 5, none⟩)) (by unfold execOp; go_simp) rfl hK
        · refine ⟨_, rfl, rfl, fun b W hs hg hD => ⟨wanted_of rfl, fun K hK0 => ?_⟩⟩
          have hK := fun v W' g h => hK0 v W' g h (fun e => absurd e (by decide))
          have h0 : b.tmps[29]?.getD undef = .pointer (some ⟨t2, o2 + i * 5, none⟩) := (hD 7 (by decide))
          exact rel_val (v := .pointer (some ⟨t2, o2 + i * 5, none⟩)) (by unfold execOp; go_simp) rfl hK
        · refine ⟨_, rfl, rfl, fun b W hs hg hD => ⟨wanted_of rfl, fun K hK0 => ?_⟩⟩
          have hK := fun v W' g h => hK0 v W' g h (fun e => absurd e (by decide))
          have h0 : b.tmps[30]?.getD undef = .pointer (some ⟨t2, o2 + i * 5, none⟩) := (hD 8 (by decide))
          exact rel_val (v := .int .u8 (xk : Nat)) (by have cc := hg.cell Y0.out (by simp); unfold execOp; go_simp) rfl hK
        · refine ⟨_, rfl, rfl, fun b W hs hg hD => ⟨wanted_of rfl, fun K hK0 => ?_⟩⟩
          have hK := fun v W' g h => hK0 v W' g h (fun e => absurd e (by decide))
          have h0 : b.tmps[26]?.getD undef = .int .u8 (xk : Nat) := (hD 4 (by decide))
          have h1 : b.tmps[31]?.getD undef = .int .u8 (xk : Nat) := (hD 9 (by decide))
          exact rel_val (v := .bool true) (by unfold execOp; go_simp) rfl hK
        · refine ⟨_, rfl, rfl, fun b W hs hg hD => ⟨wanted_of rfl, fun K hK0 => ?_⟩⟩
          have hK := fun v W' g h => hK0 v W' g h (fun e => absurd e (by decide))
          exact rel_move 32 rfl (hD 10 (by decide)) rfl hK
        · refine ⟨_, rfl, rfl, fun b W hs hg hD => ⟨wanted_at (j := 11) (t := 33) rfl rfl (hD 11 (by decide)), fun K hK0 => ?_⟩⟩
          have hK := fun v W' g h => hK0 v W' g h (fun e => absurd e (by decide))
          exact rel_move 0 rfl (hs 0 (by decide)) rfl hK
        · refine ⟨_, rfl, rfl, fun b W hs hg hD => ⟨wanted_at (j := 11) (t := 33) rfl rfl (hD 11 (by decide)), fun K hK0 => ?_⟩⟩
          have hK := fun v W' g h => hK0 v W' g h (fun e => absurd e (by decide))
          exact rel_move 6 rfl (hs 6 (by decide)) rfl hK
        · refine ⟨_, rfl, rfl, fun b W hs hg hD => ⟨wanted_at (j := 11) (t := 33) rfl rfl (hD 11 (by decide)), fun K hK0 => ?_⟩⟩
          have hK := fun v W' g h => hK0 v W' g h (fun e => absurd e (by decide))
          have h0 : b.tmps[34]?.getD undef = .slice (some ⟨t1, o1, none⟩) n c := (hD 12 (by decide))
          have h1 : b.tmps[35]?.getD undef = .int .i64 (i : Nat) := (hD 13 (by decide))
          exact rel_val (v := .pointer (some ⟨t1, o1 + i * 5, none⟩)) (by unfold execOp; go_simp) rfl hK
        · refine ⟨_, rfl, rfl, fun b W hs hg hD => ⟨wanted_at (j := 11) (t := 33) rfl rfl (hD 11 (by decide)), fun K hK0 => ?_⟩⟩
          have hK := fun v W' g h => hK0 v W' g h (fun e => absurd e (by decide))
          have h0 : b.tmps[36]?.getD undef = .pointer (some ⟨t1, o1 + i * 5, none⟩) := (hD 14 (by decide))
          exact rel_val (v := .pointer (some ⟨t1, o1 + i * 5 + 1, none⟩)) (by unfold execOp; go_simp) rfl hK
        · refine ⟨_, rfl, rfl, fun b W hs hg hD => ⟨wanted_at (j := 11) (t := 33) rfl rfl (hD 11 (by decide)), fun K hK0 => ?_⟩⟩
          have hK := fun v W' g h => hK0 v W' g h (fun e => absurd e (by decide))
          have h0 : b.tmps[37]?.getD undef = .pointer (some ⟨t1, o1 + i * 5 + 1, none⟩) := (hD 15 (by decide))
          exact rel_val (v := .int .u64 (xn : Nat)) (by have cc := hg.cell X1.out (by simp); unfold execOp; go_simp) rfl hK
        · refine ⟨_, rfl, rfl, fun b W hs hg hD => ⟨wanted_at (j := 11) (t := 33) rfl rfl (hD 11 (by decide)), fun K hK0 => ?_⟩⟩
          have hK := fun v W' g h => hK0 v W' g h (fun e => absurd e (by decide))
          exact rel_move 1 rfl (hs 1 (by decide)) rfl hK
        · refine ⟨_, rfl, rfl, fun b W hs hg hD => ⟨wanted_at (j := 11) (t := 33) rfl rfl (hD 11 (by decide)), fun K hK0 => ?_⟩⟩
          have hK := fun v W' g h => hK0 v W' g h (fun e => absurd e (by decide))
          exact rel_move 6 rfl (hs 6 (by decide)) rfl hK
        · refine ⟨_, rfl, rfl, fun b W hs hg hD => ⟨wanted_at (j := 11) (t := 33) rfl rfl (hD 11 (by decide)), fun K hK0 => ?_⟩⟩
          have hK := fun v W' g h => hK0 v W' g h (fun e => absurd e (by decide))
          have h0 : b.tmps[39]?.getD undef = .slice (some ⟨t2, o2, none⟩) n d := (hD 17 (by decide))
          have h1 : b.tmps[40]?.getD undef = .int .i64 (i : Nat) := (hD 18 (by decide))
          exact rel_val (v := .pointer (some ⟨t2, o2 + i * 5, none⟩)) (by unfold execOp; go_simp) rfl hK
        · refine ⟨_, rfl, rfl, fun b W hs hg hD => ⟨wanted_at (j := 11) (t := 33) rfl rfl (hD 11 (by decide)), fun K hK0 => ?_⟩⟩
          have hK := fun v W' g h => hK0 v W' g h (fun e => absurd e (by decide))
          have h0 : b.tmps[41]?.getD undef = .pointer (some ⟨t2, o2 + i * 5, none⟩) := (hD 19 (by decide))
          exact rel_val (v := .pointer (some ⟨t2, o2 + i * 5 + 1, none⟩)) (by unfold execOp; go_simp) rfl hK
        · refine ⟨_, rfl, rfl, fun b W hs hg hD => ⟨wanted_at (j := 11) (t := 33) rfl rfl (hD 11 (by decide)), fun K hK0 => ?_⟩⟩
          have hK := fun v W' g h => hK0 v W' g h (fun e => absurd e (by decide))
          have h0 : b.tmps[42]?.getD undef = .pointer (some ⟨t2, o2 + i * 5 + 1, none⟩) := (hD 20 (by decide))
          exact rel_val (v := .int .u64 (xn : Nat)) (by have cc := hg.cell Y1.out (by simp); unfold execOp; go_simp) rfl hK
        · refine ⟨_, rfl, rfl, fun b W hs hg hD => ⟨wanted_at (j := 11) (t := 33) rfl rfl (hD 11 (by decide)), fun K hK0 => ?_⟩⟩
          have hK := fun v W' g h => hK0 v W' g h (fun e => absurd e (by decide))
          have h0 : b.tmps[38]?.getD undef = .int .u64 (xn : Nat) := (hD 16 (by decide))
          have h1 : b.tmps[43]?.getD undef = .int .u64 (xn : Nat) := (hD 21 (by decide))
          exact rel_val (v := .bool true) (by unfold execOp; go_simp) rfl hK
        · refine ⟨_, rfl, rfl, fun b W hs hg hD => ⟨wanted_of rfl, fun K hK0 => ?_⟩⟩
          have hK := fun v W' g h => hK0 v W' g h (fun e => absurd e (by decide))
          have h0 : b.tmps[33]?.getD undef = .bool true := (hD 11 (by decide))
          have h1 : b.tmps[44]?.getD undef = .bool true := (hD 22 (by decide))
          exact rel_val (v := .bool true) (by unfold execOp; go_simp) rfl hK
        · refine ⟨_, rfl, rfl, fun b W hs hg hD => ⟨wanted_of rfl, fun K hK0 => ?_⟩⟩
          have hK := fun v W' g h => hK0 v W' g h (fun e => absurd e (by decide))
          exact rel_move 45 rfl (hD 23 (by decide)) rfl hK
        · refine ⟨_, rfl, rfl, fun b W hs hg hD => ⟨wanted_at (j := 24) (t := 46) rfl rfl (hD 24 (by decide)), fun K hK0 => ?_⟩⟩
          have hK := fun v W' g h => hK0 v W' g h (fun e => absurd e (by decide))
          exact rel_move 0 rfl (hs 0 (by decide)) rfl hK
        · refine ⟨_, rfl, rfl, fun b W hs hg hD => ⟨wanted_at (j := 24) (t := 46) rfl rfl (hD 24 (by decide)), fun K hK0 => ?_⟩⟩
          have hK := fun v W' g h => hK0 v W' g h (fun e => absurd e (by decide))
          exact rel_move 6 rfl (hs 6 (by decide)) rfl hK
        · refine ⟨_, rfl, rfl, fun b W hs hg hD => ⟨wanted_at (j := 24) (t := 46) rfl rfl (hD 24 (by decide)), fun K hK0 => ?_⟩⟩
          have hK := fun v W' g h => hK0 v W' g h (fun e => absurd e (by decide))
          have h0 : b.tmps[47]?.getD undef = .slice (some ⟨t1, o1, none⟩) n c := (hD 25 (by decide))
          have h1 : b.tmps[48]?.getD undef = .int .i64 (i : Nat) := (hD 26 (by decide))
          exact rel_val (v := .pointer (some ⟨t1, o1 + i * 5, none⟩)) (by unfold execOp; go_simp) rfl hK
        · refine ⟨_, rfl, rfl, fun b W hs hg hD => ⟨wanted_at (j := 24) (t := 46) rfl rfl (hD 24 (by decide)), fun K hK0 => ?_⟩⟩
          have hK := fun v W' g h => hK0 v W' g h (fun e => absurd e (by decide))
          have h0 : b.tmps[49]?.getD undef = .pointer (some ⟨t1, o1 + i * 5, none⟩) := (hD 27 (by decide))
          exact rel_val (v := .pointer (some ⟨t1, o1 + i * 5 + 2, none⟩)) (by unfold execOp; go_simp) rfl hK
        · refine ⟨_, rfl, rfl, fun b W hs hg hD => ⟨wanted_at (j := 24) (t := 46) rfl rfl (hD 24 (by decide)), fun K hK0 => ?_⟩⟩
          have hK := fun v W' g h => hK0 v W' g h (fun e => absurd e (by decide))
          have h0 : b.tmps[50]?.getD undef = .pointer (some ⟨t1, o1 + i * 5 + 2, none⟩) := (hD 28 (by decide))
          exact rel_val (v := .slice xab xnb xcb) (by have cc := hg.cell X2.out (by simp); unfold execOp; go_simp) rfl hK
        · refine ⟨_, rfl, rfl, fun b W hs hg hD => ⟨wanted_at (j := 24) (t := 46) rfl rfl (hD 24 (by decide)), fun K hK0 => ?_⟩⟩
          have hK := fun v W' g h => hK0 v W' g h (fun e => absurd e (by decide))
          have h0 : b.tmps[51]?.getD undef = .slice xab xnb xcb := (hD 29 (by decide))
          exact rel_val (v := .string s) (by rw [S1.out]; exact run_convT 51 rfl ((eval_slot b 51).trans h0) (BX.out.grown hg (fun k e => by cases e)) FX.out) rfl hK
        · refine ⟨_, rfl, rfl, fun b W hs hg hD => ⟨wanted_at (j := 24) (t := 46) rfl rfl (hD 24 (by decide)), fun K hK0 => ?_⟩⟩
          have hK := fun v W' g h => hK0 v W' g h (fun e => absurd e (by decide))
          exact rel_move 1 rfl (hs 1 (by decide)) rfl hK
        · refine ⟨_, rfl, rfl, fun b W hs hg hD => ⟨wanted_at (j := 24) (t := 46) rfl rfl (hD 24 (by decide)), fun K hK0 => ?_⟩⟩
          have hK := fun v W' g h => hK0 v W' g h (fun e => absurd e (by decide))
          exact rel_move 6 rfl (hs 6 (by decide)) rfl hK
        · refine ⟨_, rfl, rfl, fun b W hs hg hD => ⟨wanted_at (j := 24) (t := 46) rfl rfl (hD 24 (by decide)), fun K hK0 => ?_⟩⟩
          have hK := fun v W' g h => hK0 v W' g h (fun e => absurd e (by decide))
          have h0 : b.tmps[53]?.getD undef = .slice (some ⟨t2, o2, none⟩) n d := (hD 31 (by decide))
          have h1 : b.tmps[54]?.getD undef = .int .i64 (i : Nat) := (hD 32 (by decide))
          exact rel_val (v := .pointer (some ⟨t2, o2 + i * 5, none⟩)) (by unfold execOp; go_simp) rfl hK
        · refine ⟨_, rfl, rfl, fun b W hs hg hD => ⟨wanted_at (j := 24) (t := 46) rfl rfl (hD 24 (by decide)), fun K hK0 => ?_⟩⟩
          have hK := fun v W' g h => hK0 v W' g h (fun e => absurd e (by decide))
          have h0 : b.tmps[55]?.getD undef = .pointer (some ⟨t2, o2 + i * 5, none⟩) := (hD 33 (by decide))
          exact rel_val (v := .pointer (some ⟨t2, o2 + i * 5 + 2, none⟩)) (by unfold execOp; go_simp) rfl hK
        · refine ⟨_, rfl, rfl, fun b W hs hg hD => ⟨wanted_at (j := 24) (t := 46) rfl rfl (hD 24 (by decide)), fun K hK0 => ?_⟩⟩
          have hK := fun v W' g h => hK0 v W' g h (fun e => absurd e (by decide))
          have h0 : b.tmps[56]?.getD undef = .pointer (some ⟨t2, o2 + i * 5 + 2, none⟩) := (hD 34 (by decide))
          exact rel_val (v := .slice yab xnb ycb) (by have cc := hg.cell Y2.out (by simp); unfold execOp; go_simp) rfl hK
        · refine ⟨_, rfl, rfl, fun b W hs hg hD => ⟨wanted_at (j := 24) (t := 46) rfl rfl (hD 24 (by decide)), fun K hK0 => ?_⟩⟩
          have hK := fun v W' g h => hK0 v W' g h (fun e => absurd e (by decide))
          have h0 : b.tmps[57]?.getD undef = .slice yab xnb ycb := (hD 35 (by decide))
          exact rel_val (v := .string s) (by rw [S2.out]; exact run_convT 57 rfl ((eval_slot b 57).trans h0) (BY.out.grown hg (fun k e => by cases e)) FY.out) rfl hK
        · refine ⟨_, rfl, rfl, fun b W hs hg hD => ⟨wanted_at (j := 24) (t := 46) rfl rfl (hD 24 (by decide)), fun K hK0 => ?_⟩⟩
          have hK := fun v W' g h => hK0 v W' g h (fun e => absurd e (by decide))
          have h0 : b.tmps[52]?.getD undef = .string s := (hD 30 (by decide))
          have h1 : b.tmps[58]?.getD undef = .string s := (hD 36 (by decide))
          exact rel_val (v := .bool true) (by unfold execOp; go_simp) rfl hK
        · refine ⟨_, rfl, rfl, fun b W hs hg hD => ⟨wanted_of rfl, fun K hK0 => ?_⟩⟩
          have hK := fun v W' g h => hK0 v W' g h (fun e => absurd e (by decide))
          have h0 : b.tmps[46]?.getD undef = .bool true := (hD 24 (by decide))
          have h1 : b.tmps[59]?.getD undef = .bool true := (hD 37 (by decide))
          exact rel_val (v := .bool true) (by unfold execOp; go_simp) rfl hK
        · refine ⟨_, rfl, rfl, fun b W hs hg hD => ⟨wanted_of rfl, fun K hK0 => ?_⟩⟩
          have hK := fun v W' g h => hK0 v W' g h (fun e => absurd e (by decide))
          exact rel_move 60 rfl (hD 38 (by decide)) rfl hK
        · refine ⟨_, rfl, rfl, fun b W hs hg hD => ⟨wanted_at (j := 39) (t := 61) rfl rfl (hD 39 (by decide)), fun K hK0 => ?_⟩⟩
          have hK := fun v W' g h => hK0 v W' g h (fun e => absurd e (by decide))
          exact rel_move 0 rfl (hs 0 (by decide)) rfl hK
        · refine ⟨_, rfl, rfl, fun b W hs hg hD => ⟨wanted_at (j := 39) (t := 61) rfl rfl (hD 39 (by decide)), fun K hK0 => ?_⟩⟩
          have hK := fun v W' g h => hK0 v W' g h (fun e => absurd e (by decide))
          exact rel_move 6 rfl (hs 6 (by decide)) rfl hK
        · refine ⟨_, rfl, rfl, fun b W hs hg hD => ⟨wanted_at (j := 39) (t := 61) rfl rfl (hD 39 (by decide)), fun K hK0 => ?_⟩⟩
          have hK := fun v W' g h => hK0 v W' g h (fun e => absurd e (by decide))
          have h0 : b.tmps[62]?.getD undef = .slice (some ⟨t1, o1, none⟩) n c := (hD 40 (by decide))
          have h1 : b.tmps[63]?.getD undef = .int .i64 (i : Nat) := (hD 41 (by decide))
          exact rel_val (v := .pointer (some ⟨t1, o1 + i * 5, none⟩)) (by unfold execOp; go_simp) rfl hK
        · refine ⟨_, rfl, rfl, fun b W hs hg hD => ⟨wanted_at (j := 39) (t := 61) rfl rfl (hD 39 (by decide)), fun K hK0 => ?_⟩⟩
          have hK := fun v W' g h => hK0 v W' g h (fun e => absurd e (by decide))
          have h0 : b.tmps[64]?.getD undef = .pointer (some ⟨t1, o1 + i * 5, none⟩) := (hD 42 (by decide))
          exact rel_val (v := .pointer (some ⟨t1, o1 + i * 5 + 3, none⟩)) (by unfold execOp; go_simp) rfl hK
        · refine ⟨_, rfl, rfl, fun b W hs hg hD => ⟨wanted_at (j := 39) (t := 61) rfl rfl (hD 39 (by decide)), fun K hK0 => ?_⟩⟩
          have hK := fun v W' g h => hK0 v W' g h (fun e => absurd e (by decide))
          have h0 : b.tmps[65]?.getD undef = .pointer (some ⟨t1, o1 + i * 5 + 3, none⟩) := (hD 43 (by decide))
          exact rel_val (v := .slice xal xnl xcl) (by have cc := hg.cell X3.out (by simp); unfold execOp; go_simp) rfl hK
        · refine ⟨_, rfl, rfl, fun b W hs hg hD => ⟨wanted_at (j := 39) (t := 61) rfl rfl (hD 39 (by decide)), fun K hK0 => ?_⟩⟩
          have hK := fun v W' g h => hK0 v W' g h (fun e => absurd e (by decide))
          have h0 : b.tmps[66]?.getD undef = .slice xal xnl xcl := (hD 44 (by decide))
          exact rel_val (v := .int .i64 (xnl : Nat)) (by unfold execOp; go_simp) rfl hK
        · refine ⟨_, rfl, rfl, fun b W hs hg hD => ⟨wanted_at (j := 39) (t := 61) rfl rfl (hD 39 (by decide)), fun K hK0 => ?_⟩⟩
          have hK := fun v W' g h => hK0 v W' g h (fun e => absurd e (by decide))
          exact rel_move 1 rfl (hs 1 (by decide)) rfl hK
        · refine ⟨_, rfl, rfl, fun b W hs hg hD => ⟨wanted_at (j := 39) (t := 61) rfl rfl (hD 39 (by decide)), fun K hK0 => ?_⟩⟩
          have hK := fun v W' g h => hK0 v W' g h (fun e => absurd e (by decide))
          exact rel_move 6 rfl (hs 6 (by decide)) rfl hK
        · refine ⟨_, rfl, rfl, fun b W hs hg hD => ⟨wanted_at (j := 39) (t := 61) rfl rfl (hD 39 (by decide)), fun K hK0 => ?_⟩⟩
          have hK := fun v W' g h => hK0 v W' g h (fun e => absurd e (by decide))
          have h0 : b.tmps[68]?.getD undef = .slice (some ⟨t2, o2, none⟩) n d := (hD 46 (by decide))
          have h1 : b.tmps[69]?.getD undef = .int .i64 (i : Nat) := (hD 47 (by decide))
          exact rel_val (v := .pointer (some ⟨t2, o2 + i * 5, none⟩)) (by unfold execOp; go_simp) rfl hK
        · refine ⟨_, rfl, rfl, fun b W hs hg hD => ⟨wanted_at (j := 39) (t := 61) rfl rfl (hD 39 (by decide)), fun K hK0 => ?_⟩⟩
          have hK := fun v W' g h => hK0 v W' g h (fun e => absurd e (by decide))
          have h0 : b.tmps[70]?.getD undef = .pointer (some ⟨t2, o2 + i * 5, none⟩) := (hD 48 (by decide))
          exact rel_val (v := .pointer (some ⟨t2, o2 + i * 5 + 3, none⟩)) (by unfold execOp; go_simp) rfl hK
        · refine ⟨_, rfl, rfl, fun b W hs hg hD => ⟨wanted_at (j := 39) (t := 61) rfl rfl (hD 39 (by decide)), fun K hK0 => ?_⟩⟩
          have hK := fun v W' g h => hK0 v W' g h (fun e => absurd e (by decide))
          have h0 : b.tmps[71]?.getD undef = .pointer (some ⟨t2, o2 + i * 5 + 3, none⟩) := (hD 49 (by decide))
          exact rel_val (v := .slice yal xnl ycl) (by have cc := hg.cell Y3.out (by simp); unfold execOp; go_simp) rfl hK
        · refine ⟨_, rfl, rfl, fun b W hs hg hD => ⟨wanted_at (j := 39) (t := 61) rfl rfl (hD 39 (by decide)), fun K hK0 => ?_⟩⟩
          have hK := fun v W' g h => hK0 v W' g h (fun e => absurd e (by decide))
          have h0 : b.tmps[72]?.getD undef = .slice yal xnl ycl := (hD 50 (by decide))
          exact rel_val (v := .int .i64 (xnl : Nat)) (by unfold execOp; go_simp) rfl hK
        · refine ⟨_, rfl, rfl, fun b W hs hg hD => ⟨wanted_at (j := 39) (t := 61) rfl rfl (hD 39 (by decide)), fun K hK0 => ?_⟩⟩
          have hK := fun v W' g h => hK0 v W' g h (fun e => absurd e (by decide))
          have h0 : b.tmps[67]?.getD undef = .int .i64 (xnl : Nat) := (hD 45 (by decide))
          have h1 : b.tmps[73]?.getD undef = .int .i64 (xnl : Nat) := (hD 51 (by decide))
          exact rel_val (v := .bool true) (by unfold execOp; go_simp) rfl hK
        · refine ⟨_, rfl, rfl, fun b W hs hg hD => ⟨wanted_of rfl, fun K hK0 => ?_⟩⟩
          have hK := fun v W' g h => hK0 v W' g h (fun e => absurd e (by decide))
          have h0 : b.tmps[61]?.getD undef = .bool true := (hD 39 (by decide))
          have h1 : b.tmps[74]?.getD undef = .bool true := (hD 52 (by decide))
          exact rel_val (v := .bool true) (by unfold execOp; go_simp) rfl hK
      intro vals W hg hR hap
      have e1 : vals 53 = .bool true := hR 53 (by decide)
      clear hR hap
      simp only [putsN, atL, Act.put, List.getD_cons_zero, List.getD_cons_succ, List.setIfInBounds_toArray, List.set_cons_succ, List.set_cons_zero, e1]
      generalize vals 0 = q5_0
      generalize vals 1 = q5_1
      generalize vals 2 = q5_2
      generalize vals 3 = q5_3
      generalize vals 4 = q5_4
      generalize vals 5 = q5_5
      generalize vals 6 = q5_6
      generalize vals 7 = q5_7
      generalize vals 8 = q5_8
      generalize vals 9 = q5_9
      generalize vals 10 = q5_10
      generalize vals 11 = q5_11
      generalize vals 12 = q5_12
      generalize vals 13 = q5_13
      generalize vals 14 = q5_14
      generalize vals 15 = q5_15
      generalize vals 16 = q5_16
      generalize vals 17 = q5_17
      generalize vals 18 = q5_18
      generalize vals 19 = q5_19
      generalize vals 20 = q5_20
      generalize vals 21 = q5_21
      generalize vals 22 = q5_22
      generalize vals 23 = q5_23
      generalize vals 24 = q5_24
      generalize vals 25 = q5_25
      generalize vals 26 = q5_26
      generalize vals 27 = q5_27
      generalize vals 28 = q5_28
      generalize vals 29 = q5_29
      generalize vals 30 = q5_30
      generalize vals 31 = q5_31
      generalize vals 32 = q5_32
      generalize vals 33 = q5_33
      generalize vals 34 = q5_34
      generalize vals 35 = q5_35
      generalize vals 36 = q5_36
      generalize vals 37 = q5_37
      generalize vals 38 = q5_38
      generalize vals 39 = q5_39
      generalize vals 40 = q5_40
      generalize vals 41 = q5_41
      generalize vals 42 = q5_42
      generalize vals 43 = q5_43
      generalize vals 44 = q5_44
      generalize vals 45 = q5_45
      generalize vals 46 = q5_46
      generalize vals 47 = q5_47
      generalize vals 48 = q5_48
      generalize vals 49 = q5_49
      generalize vals 50 = q5_50
      generalize vals 51 = q5_51
      generalize vals 52 = q5_52
      clear e1 vals
      show wpAnyH _ _ _ _ _ 1 #[true, true, true, true, true, true, true, true, true, true, true, true, true, true, true, true, true, true, true, true, true, true, true, true, true, true, true, true, true, true, true, true, true, true, true, true, true, true, true, true, true, true, true, true, true, true, true, true, true, true, true, true, true, true, false] _ _
      refine wpAnyH_yieldD (some 5) (i := 54) (v := .bool true) (by kernel_rfl) rfl rfl rfl (by unfold execOp; go_simp) hg ?_
      simp only [Act.put, List.setIfInBounds_toArray, List.set_cons_succ, List.set_cons_zero]
      refine wpAnyH_done (by kernel_rfl) ?_ _
      have g1 := grown_trans gr hg
      have K3 := Lib.hid (hg.cell X3.out (by simp))
      have M3 := Lib.hid (hg.cell Y3.out (by simp))
      have RX := Lib.hid (LX.out.grown hg (fun k e => by cases e))
      have RY := Lib.hid (LY.out.grown hg (fun k e => by cases e))
      clear X0 X1 X2 X3 Y0 Y1 Y2 Y3 BX BY LX LY FX FY S1 S2 gr hg HX HY HS HT
      go_wp2_with fail
      go_loopw [5, 7] (fun u5 u7 wr => ∃ k : Nat, k ≤ xnl ∧ u5 = .bool true ∧ u7 = .int .i64 k ∧ W.grownBy wr none) (fun _ u7 _ => xnl - (intOf u7).toNat)
      case atStart => exact ⟨0, Nat.zero_le _, rfl, rfl, grown_refl W none⟩
      case round =>
        obtain ⟨k, hk, rfl, rfl, gk⟩ := hrel
        have c3 := gk.cell K3.out (by simp)
        have d3 := gk.cell M3.out (by simp)
        by_cases hkl : k < xnl
        · obtain ⟨p1, r1, rfl, _, hc⟩ := RX.out.ex (by omega)
          obtain ⟨p2, r2, rfl, _, hd⟩ := RY.out.ex (by omega)
          have cx := gk.cell (hc k hkl) (by simp)
          have dx := gk.cell (hd k hkl) (by simp)
          have hv := L6.out k hkl
          rw [← hv] at dx
          obtain ⟨v, hvv⟩ : ∃ v, v = xfl k := ⟨_, rfl⟩
          rw [← hvv] at cx dx
          have j2 : (k : Int) < (xnl : Int) := by omega
          have C3 := Lib.hid c3
          have D3 := Lib.hid d3
          have CX := Lib.hid cx
          have DX := Lib.hid dx
          have HK := Lib.hid hkl
          clear cx dx hv hvv hc hd hk hkl RX RY K3 M3 L6 d3
          go_wp2_with fail
          clear c3
          refine wp_region_rel_all (fun W => wr.grownBy W none) (fun _ h => h) (alL []) (relL [fun vv _ => vv = .slice (some ⟨t1, o1, none⟩) n c, fun vv _ => vv = .int .i64 (i : Nat), fun vv _ => vv = .pointer (some ⟨t1, o1 + i * 5, none⟩), fun vv _ => vv = .pointer (some ⟨t1, o1 + i * 5 + 3, none⟩), fun vv _ => vv = .slice (some ⟨p1, r1, none⟩) xnl xcl, fun vv _ => vv = .int .i64 (k : Nat), fun vv _ => vv = .pointer (some ⟨p1, r1 + k, none⟩), fun vv _ => vv = .int .u32 (v : Nat), fun vv _ => vv = .slice (some ⟨t2, o2, none⟩) n d, fun vv _ => vv = .int .i64 (i : Nat), fun vv _ => vv = .pointer (some ⟨t2, o2 + i * 5, none⟩), fun vv _ => vv = .pointer (some ⟨t2, o2 + i * 5 + 3, none⟩), fun vv _ => vv = .slice (some ⟨p2, r2, none⟩) xnl ycl, fun vv _ => vv = .int .i64 (k : Nat), fun vv _ => vv = .pointer (some ⟨p2, r2 + k, none⟩), fun vv _ => vv = .int .u32 (v : Nat), fun vv _ => vv = .bool true])
            17 1 (atL [89, 90, 91, 92, 93, 94, 95, 96, 97, 98, 99, 100, 101, 102, 103, 104, 105]) (depL [[], [], [0, 1], [2], [3], [], [4, 5], [6], [], [], [8, 9], [10], [11], [], [12, 13], [14], [7, 15]]) (by kernel_rfl) rfl (by kernel_rfl) (by kernel_rfl) (by kernel_rfl) (by decide) (by kernel_rfl) 107 rfl (by decide) (by decide) (by decide) ?mono9 ?al9 ?step9 ?fin9
          case mono9 =>
            intro k x W W' hk h g
            obtain rfl | rfl | rfl | rfl | rfl | rfl | rfl | rfl | rfl | rfl | rfl | rfl | rfl | rfl | rfl | rfl | rfl : k = 0 ∨ k = 1 ∨ k = 2 ∨ k = 3 ∨ k = 4 ∨ k = 5 ∨ k = 6 ∨ k = 7 ∨ k = 8 ∨ k = 9 ∨ k = 10 ∨ k = 11 ∨ k = 12 ∨ k = 13 ∨ k = 14 ∨ k = 15 ∨ k = 16 := by omega
            · exact h
            · exact h
            · exact h
            · exact h
            · exact h
            · exact h
            · exact h
            · exact h
            · exact h
            · exact h
            · exact h
            · exact h
            · exact h
            · exact h
            · exact h
            · exact h
            · exact h
          case al9 =>
            intro k x W hk e h
            obtain rfl | rfl | rfl | rfl | rfl | rfl | rfl | rfl | rfl | rfl | rfl | rfl | rfl | rfl | rfl | rfl | rfl : k = 0 ∨ k = 1 ∨ k = 2 ∨ k = 3 ∨ k = 4 ∨ k = 5 ∨ k = 6 ∨ k = 7 ∨ k = 8 ∨ k = 9 ∨ k = 10 ∨ k = 11 ∨ k = 12 ∨ k = 13 ∨ k = 14 ∨ k = 15 ∨ k = 16 := by omega
            · exact absurd e (by decide)
            · exact absurd e (by decide)
            · exact absurd e (by decide)
            · exact absurd e (by decide)
            · exact absurd e (by decide)
            · exact absurd e (by decide)
            · exact absurd e (by decide)
            · exact absurd e (by decide)
            · exact absurd e (by decide)
            · exact absurd e (by decide)
            · exact absurd e (by decide)
            · exact absurd e (by decide)
            · exact absurd e (by decide)
            · exact absurd e (by decide)
            · exact absurd e (by decide)
            · exact absurd e (by decide)
            · exact absurd e (by decide)
          case step9 =>
            intro k hk
            obtain rfl | rfl | rfl | rfl | rfl | rfl | rfl | rfl | rfl | rfl | rfl | rfl | rfl | rfl | rfl | rfl | rfl : k = 0 ∨ k = 1 ∨ k = 2 ∨ k = 3 ∨ k = 4 ∨ k = 5 ∨ k = 6 ∨ k = 7 ∨ k = 8 ∨ k = 9 ∨ k = 10 ∨ k = 11 ∨ k = 12 ∨ k = 13 ∨ k = 14 ∨ k = 15 ∨ k = 16 := by omega
            · refine ⟨_, rfl, rfl, fun b W hs hg hD => ⟨wanted_of rfl, fun K hK0 => ?_⟩⟩
              have hK := fun v W' g h => hK0 v W' g h (fun e => absurd e (by decide))
              exact rel_move 0 rfl (hs 0 (by decide)) rfl hK
            · refine ⟨_, rfl, rfl, fun b W hs hg hD => ⟨wanted_of rfl, fun K hK0 => ?_⟩⟩
              have hK := fun v W' g h => hK0 v W' g h (fun e => absurd e (by decide))
              exact rel_move 6 rfl (hs 6 (by decide)) rfl hK
            · refine ⟨_, rfl, rfl, fun b W hs hg hD => ⟨wanted_of rfl, fun K hK0 => ?_⟩⟩
              have hK := fun v W' g h => hK0 v W' g h (fun e => absurd e (by decide))
              have h0 : b.tmps[89]?.getD undef = .slice (some ⟨t1, o1, none⟩) n c := (hD 0 (by decide))
              have h1 : b.tmps[90]?.getD undef = .int .i64 (i : Nat) := (hD 1 (by decide))
              exact rel_val (v := .pointer (some ⟨t1, o1 + i * 5, none⟩)) (by unfold execOp; go_simp) rfl hK
            · refine ⟨_, rfl, rfl, fun b W hs hg hD => ⟨wanted_of rfl, fun K hK0 => ?_⟩⟩
              have hK := fun v W' g h => hK0 v W' g h (fun e => absurd e (by decide))
              have h0 : b.tmps[91]?.getD undef = .pointer (some ⟨t1, o1 + i * 5, none⟩) := (hD 2 (by decide))
              exact rel_val (v := .pointer (some ⟨t1, o1 + i * 5 + 3, none⟩)) (by unfold execOp; go_simp) rfl hK
            · refine ⟨_, rfl, rfl, fun b W hs hg hD => ⟨wanted_of rfl, fun K hK0 => ?_⟩⟩
              have hK := fun v W' g h => hK0 v W' g h (fun e => absurd e (by decide))
              have h0 : b.tmps[92]?.getD undef = .pointer (some ⟨t1, o1 + i * 5 + 3, none⟩) := (hD 3 (by decide))
              exact rel_val (v := .slice (some ⟨p1, r1, none⟩) xnl xcl) (by have cc := hg.cell C3.out (by simp); unfold execOp; go_simp) rfl hK
            · refine ⟨_, rfl, rfl, fun b W hs hg hD => ⟨wanted_of rfl, fun K hK0 => ?_⟩⟩
              have hK := fun v W' g h => hK0 v W' g h (fun e => absurd e (by decide))
              exact rel_move 7 rfl (hs 7 (by decide)) rfl hK
            · refine ⟨_, rfl, rfl, fun b W hs hg hD => ⟨wanted_of rfl, fun K hK0 => ?_⟩⟩
              have hK := fun v W' g h => hK0 v W' g h (fun e => absurd e (by decide))
              have h0 : b.tmps[93]?.getD undef = .slice (some ⟨p1, r1, none⟩) xnl xcl := (hD 4 (by decide))
              have h1 : b.tmps[94]?.getD undef = .int .i64 (k : Nat) := (hD 5 (by decide))
              exact rel_val (v := .pointer (some ⟨p1, r1 + k, none⟩)) (by unfold execOp; go_simp) rfl hK
            · refine ⟨_, rfl, rfl, fun b W hs hg hD => ⟨wanted_of rfl, fun K hK0 => ?_⟩⟩
              have hK := fun v W' g h => hK0 v W' g h (fun e => absurd e (by decide))
              have h0 : b.tmps[95]?.getD undef = .pointer (some ⟨p1, r1 + k, none⟩) := (hD 6 (by decide))
              exact rel_val (v := .int .u32 (v : Nat)) (by have cc := hg.cell CX.out (by simp); unfold execOp; go_simp) rfl hK
            · refine ⟨_, rfl, rfl, fun b W hs hg hD => ⟨wanted_of rfl, fun K hK0 => ?_⟩⟩
              have hK := fun v W' g h => hK0 v W' g h (fun e => absurd e (by decide))
              exact rel_move 1 rfl (hs 1 (by decide)) rfl hK
            · refine ⟨_, rfl, rfl, fun b W hs hg hD => ⟨wanted_of rfl, fun K hK0 => ?_⟩⟩
              have hK := fun v W' g h => hK0 v W' g h (fun e => absurd e (by decide))
              exact rel_move 6 rfl (hs 6 (by decide)) rfl hK
            · refine ⟨_, rfl, rfl, fun b W hs hg hD => ⟨wanted_of rfl, fun K hK0 => ?_⟩⟩
              have hK := fun v W' g h => hK0 v W' g h (fun e => absurd e (by decide))
              have h0 : b.tmps[97]?.getD undef = .slice (some ⟨t2, o2, none⟩) n d := (hD 8 (by decide))
              have h1 : b.tmps[98]?.getD undef = .int .i64 (i : Nat) := (hD 9 (by decide))
              exact rel_val (v := .pointer (some ⟨t2, o2 + i * 5, none⟩)) (by unfold execOp; go_simp) rfl hK
            · refine ⟨_, rfl, rfl, fun b W hs hg hD => ⟨wanted_of rfl, fun K hK0 => ?_⟩⟩
              have hK := fun v W' g h => hK0 v W' g h (fun e => absurd e (by decide))
              have h0 : b.tmps[99]?.getD undef = .pointer (some ⟨t2, o2 + i * 5, none⟩) := (hD 10 (by decide))
              exact rel_val (v := .pointer (some ⟨t2, o2 + i * 5 + 3, none⟩)) (by unfold execOp; go_simp) rfl hK
            · refine ⟨_, rfl, rfl, fun b W hs hg hD => ⟨wanted_of rfl, fun K hK0 => ?_⟩⟩
              have hK := fun v W' g h => hK0 v W' g h (fun e => absurd e (by decide))
              have h0 : b.tmps[100]?.getD undef = .pointer (some ⟨t2, o2 + i * 5 + 3, none⟩) := (hD 11 (by decide))
              exact rel_val (v := .slice (some ⟨p2, r2, none⟩) xnl ycl) (by have cc := hg.cell D3.out (by simp); unfold execOp; go_simp) rfl hK
            · refine ⟨_, rfl, rfl, fun b W hs hg hD => ⟨wanted_of rfl, fun K hK0 => ?_⟩⟩
              have hK := fun v W' g h => hK0 v W' g h (fun e => absurd e (by decide))
              exact rel_move 7 rfl (hs 7 (by decide)) rfl hK
            · refine ⟨_, rfl, rfl, fun b W hs hg hD => ⟨wanted_of rfl, fun K hK0 => ?_⟩⟩
              have hK := fun v W' g h => hK0 v W' g h (fun e => absurd e (by decide))
              have h0 : b.tmps[101]?.getD undef = .slice (some ⟨p2, r2, none⟩) xnl ycl := (hD 12 (by decide))
              have h1 : b.tmps[102]?.getD undef = .int .i64 (k : Nat) := (hD 13 (by decide))
              exact rel_val (v := .pointer (some ⟨p2, r2 + k, none⟩)) (by unfold execOp; go_simp) rfl hK
            · refine ⟨_, rfl, rfl, fun b W hs hg hD => ⟨wanted_of rfl, fun K hK0 => ?_⟩⟩
              have hK := fun v W' g h => hK0 v W' g h (fun e => absurd e (by decide))
              have h0 : b.tmps[103]?.getD undef = .pointer (some ⟨p2, r2 + k, none⟩) := (hD 14 (by decide))
              exact rel_val (v := .int .u32 (v : Nat)) (by have cc := hg.cell DX.out (by simp); unfold execOp; go_simp) rfl hK
            · refine ⟨_, rfl, rfl, fun b W hs hg hD => ⟨wanted_of rfl, fun K hK0 => ?_⟩⟩
              have hK := fun v W' g h => hK0 v W' g h (fun e => absurd e (by decide))
              have h0 : b.tmps[96]?.getD undef = .int .u32 (v : Nat) := (hD 7 (by decide))
              have h1 : b.tmps[104]?.getD undef = .int .u32 (v : Nat) := (hD 15 (by decide))
              exact rel_val (v := .bool true) (by unfold execOp; go_simp) rfl hK
          intro vals W hg hR hap
          have e1 : vals 16 = .bool true := hR 16 (by decide)
          clear hR hap
          simp only [putsN, atL, Act.put, List.getD_cons_zero, List.getD_cons_succ, List.setIfInBounds_toArray, List.set_cons_succ, List.set_cons_zero, e1]
          generalize vals 0 = q9_0
          generalize vals 1 = q9_1
          generalize vals 2 = q9_2
          generalize vals 3 = q9_3
          generalize vals 4 = q9_4
          generalize vals 5 = q9_5
          generalize vals 6 = q9_6
          generalize vals 7 = q9_7
          generalize vals 8 = q9_8
          generalize vals 9 = q9_9
          generalize vals 10 = q9_10
          generalize vals 11 = q9_11
          generalize vals 12 = q9_12
          generalize vals 13 = q9_13
          generalize vals 14 = q9_14
          generalize vals 15 = q9_15
          clear e1 vals
          show wpAnyH _ _ _ _ _ 1 #[true, true, true, true, true, true, true, true, true, true, true, true, true, true, true, true, true, false] _ _
          refine wpAnyH_yieldD (some 5) (i := 17) (v := .bool true) (by kernel_rfl) rfl rfl rfl (by unfold execOp; go_simp) hg ?_
          simp only [Act.put, List.setIfInBounds_toArray, List.set_cons_succ, List.set_cons_zero]
          refine wpAnyH_done (by kernel_rfl) ?_ _
          have g2 := grown_trans gk hg
          clear hg gk C3 D3 CX DX
          go_wp2_with fail
          go_roundw
          case rel => exact ⟨k + 1, HK.out, rfl, by go_num, g2⟩
          case measure =>
            have := HK.out
            simp [intOf]
            try omega
        · obtain rfl : k = xnl := by omega
          have j2 : ¬ (k : Int) < (k : Int) := by omega
          have g2 := grown_trans g1 gk
          clear hkl hk RX RY K3 M3 L6 d3 gk
          go_wp2_with fail
          go_roundw
          case rel => exact ⟨i + 1, HI.out, rfl, by go_num, g2⟩
          case measure =>
            have := HI.out
            simp [intOf]
            try omega
    · obtain rfl : i = n := by omega
      have j1 : ¬ (i : Int) < (i : Int) := by omega
      clear hlt hi
      go_wp2_with fail
      go_ret
      exact ⟨⟨rfl, gr⟩⟩
end Go.Proofs.Ytpkeolggehjjlaa
