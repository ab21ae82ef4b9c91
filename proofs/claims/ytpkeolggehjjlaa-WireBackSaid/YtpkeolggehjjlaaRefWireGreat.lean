/-
  The reference's Great.
-/
import Derived.Test.YtpkeolggehjjlaaFldsW
import Derived.Test.YtpkeolggehjjlaaRelKit
import Derived.Test.YtpkeolggehjjlaaOrdN
namespace Go.Proofs.Ytpkeolggehjjlaa
open Go.RowKit

set_option maxRecDepth 100000
set_option maxHeartbeats 2000000

structure GreatSays (X : Nat → FV) (n : Nat) (w : World) (e : Ending) (w' : World) : Prop where
  ex : ∃ b, e = .returned (.bool b) ∧ w.grownBy w' none ∧ (b = false → grS X n ≤ 3000)
theorem refGreat_any (D : Nat) (a : Option Addr) (n c : Nat) (X : Nat → FV) (w : World) (h : FldsW w D a n X) (hn : n ≤ 140737488355328) :
    Calls Try.prog 7 #[.slice a n c] w (GreatSays X n w) := by
  have H := Lib.hid h
  have kn : (n : Int) ≤ 140737488355328 := by omega
  clear h
  go_enter Try.func7, Try.ntmps7
  go_wp2_with fail
  go_loopw [3, 4] (fun u3 u4 wr => ∃ i : Nat, i ≤ n ∧ u3 = .int .i64 (grS X i : Nat) ∧ u4 = .int .i64 i ∧ grS X i ≤ 562949953421312 ∧ w.grownBy wr none) (fun _ u4 _ => n - (intOf u4).toNat)
  case atStart => exact ⟨0, Nat.zero_le _, rfl, rfl, by show (0 : Nat) ≤ _; decide, grown_refl w none⟩
  case round =>
    obtain ⟨i, hi, rfl, rfl, hb, gr⟩ := hrel
    obtain ⟨s, hs⟩ : ∃ s, s = grS X i := ⟨_, rfl⟩
    rw [← hs] at hb ⊢
    have ks : (s : Int) ≤ 562949953421312 := by omega
    by_cases hgo : i < n ∧ s ≤ 3000
    · obtain ⟨hin, hsm⟩ := hgo
      obtain ⟨tb, o, rfl, htb, hF⟩ := H.out.ex (by omega)
      have hx := hF i hin
      have ho := H.out.ok i
      have hst : grS X (i + 1) = s + 1 + (X i).nb / 8 + (X i).nl := by rw [hs]; rfl
      generalize X i = x at *
      have c2 := gr.cell hx.c2 (by simp)
      have c3 := gr.cell hx.c3 (by simp)
      have j1 : (i : Int) < (n : Int) := by omega
      have j2 : (s : Int) ≤ 3000 := by omega
      have lb := ho.lb
      have ll := ho.ll
      obtain ⟨s1, hs1⟩ : ∃ y, y = s + 1 := ⟨_, rfl⟩
      obtain ⟨q, hq⟩ : ∃ y, y = x.nb / 8 := ⟨_, rfl⟩
      obtain ⟨s2, hs2⟩ : ∃ y, y = s1 + q := ⟨_, rfl⟩
      obtain ⟨s3, hs3⟩ : ∃ y, y = s2 + x.nl := ⟨_, rfl⟩
      obtain ⟨nb, hnb⟩ : ∃ y, y = x.nb := ⟨_, rfl⟩
      obtain ⟨nl, hnl⟩ : ∃ y, y = x.nl := ⟨_, rfl⟩
      rw [← hnb] at c2 hq lb hst
      rw [← hnl] at c3 hs3 ll hst
      have e3 : grS X (i + 1) = s3 := by rw [hst, hs3, hs2, hs1, hq]
      have b3 : s3 ≤ 562949953421312 := by omega
      have y1 : (s : Int) + 1 = (s1 : Int) := by omega
      have y2 : (nb : Int) / 8 = (q : Int) := by omega
      have y2' : (nb : Int).tdiv 8 = (q : Int) := by rw [Int.tdiv_eq_ediv_of_nonneg (by omega)]; omega
      have y3 : (s1 : Int) + (q : Int) = (s2 : Int) := by omega
      have y4 : (s2 : Int) + (nl : Int) = (s3 : Int) := by omega
      have w1 : IntKind.i64.wrap (s1 : Int) = (s1 : Int) := by rw [IntKind.wrap_i64]; omega
      have w2 : IntKind.i64.wrap (q : Int) = (q : Int) := by rw [IntKind.wrap_i64]; omega
      have w3 : IntKind.i64.wrap (s2 : Int) = (s2 : Int) := by rw [IntKind.wrap_i64]; omega
      have w4 : IntKind.i64.wrap (s3 : Int) = (s3 : Int) := by rw [IntKind.wrap_i64]; omega
      have E3 := Lib.hid e3
      have B3 := Lib.hid b3
      have HIN := Lib.hid hin
      have C2 := Lib.hid c2
      have C3 := Lib.hid c3
      clear hst hs1 hs2 hs3 hq hnb hnl hx ho hF lb ll hi hb e3 b3 hs c2 c3 hin hsm htb
      go_wp2_with fail
      refine wp_region_rel_all (fun W => wr.grownBy W none) (fun _ h => h) (alL []) (relL [fun vv _ => vv = .int .i64 (s : Nat), fun vv _ => vv = .int .i64 (s1 : Nat), fun vv _ => vv = .slice (some ⟨tb, o, none⟩) n c, fun vv _ => vv = .int .i64 (i : Nat), fun vv _ => vv = .pointer (some ⟨tb, o + i * 5, none⟩), fun vv _ => vv = .pointer (some ⟨tb, o + i * 5 + 2, none⟩), fun vv _ => vv = .slice x.ab nb x.cb, fun vv _ => vv = .int .i64 (nb : Nat), fun vv _ => vv = .int .i64 (q : Nat), fun vv _ => vv = .int .i64 (s2 : Nat), fun vv _ => vv = .slice (some ⟨tb, o, none⟩) n c, fun vv _ => vv = .int .i64 (i : Nat), fun vv _ => vv = .pointer (some ⟨tb, o + i * 5, none⟩), fun vv _ => vv = .pointer (some ⟨tb, o + i * 5 + 3, none⟩), fun vv _ => vv = .slice x.al nl x.cl, fun vv _ => vv = .int .i64 (nl : Nat), fun vv _ => vv = .int .i64 (s3 : Nat)])
        17 1 (atL [15, 16, 17, 18, 19, 20, 21, 22, 23, 24, 25, 26, 27, 28, 29, 30, 31]) (depL [[], [0], [], [], [2, 3], [4], [5], [6], [7], [1, 8], [], [], [10, 11], [12], [13], [14], [9, 15]]) (by kernel_rfl) rfl (by kernel_rfl) (by kernel_rfl) (by kernel_rfl) (by decide) (by kernel_rfl) 34 rfl (by decide) (by decide) (by decide) ?mono5 ?al5 ?step5 ?fin5
      case mono5 =>
        intro k x W W' hk h g
        obtain rfl | rfl | rfl | rfl | rfl | rfl | rfl | rfl | rfl | rfl | rfl | rfl | rfl | rfl | rfl | rfl | rfl : k = 0 ∨ k = 1 ∨ k = 2 ∨ k = 3 ∨ k = 4 ∨ k = 5 ∨ k = 6 ∨ k = 7 ∨ k = 8 ∨ k = 9 ∨ k = 10 ∨ k = 11 ∨ k = 12 ∨ k = 13 ∨ k = 14 ∨ k = 15 ∨ k = 16 := by omega
        · exact h
        · exact h
        · exact h
        · exact h
        · exact h
        · exact h
        · exact h
        · exact h
        · exact h
        · exact h
        · exact h
        · exact h
        · exact h
        · exact h
        · exact h
        · exact h
        · exact h
      case al5 =>
        intro k x W hk e h
        obtain rfl | rfl | rfl | rfl | rfl | rfl | rfl | rfl | rfl | rfl | rfl | rfl | rfl | rfl | rfl | rfl | rfl : k = 0 ∨ k = 1 ∨ k = 2 ∨ k = 3 ∨ k = 4 ∨ k = 5 ∨ k = 6 ∨ k = 7 ∨ k = 8 ∨ k = 9 ∨ k = 10 ∨ k = 11 ∨ k = 12 ∨ k = 13 ∨ k = 14 ∨ k = 15 ∨ k = 16 := by omega
        · exact absurd e (by decide)
        · exact absurd e (by decide)
        · exact absurd e (by decide)
        · exact absurd e (by decide)
        · exact absurd e (by decide)
        · exact absurd e (by decide)
        · exact absurd e (by decide)
        · exact absurd e (by decide)
        · exact absurd e (by decide)
        · exact absurd e (by decide)
        · exact absurd e (by decide)
        · exact absurd e (by decide)
        · exact absurd e (by decide)
        · exact absurd e (by decide)
        · exact absurd e (by decide)
        · exact absurd e (by decide)
        · exact absurd e (by decide)
      case step5 =>
        intro k hk
        obtain rfl | rfl | rfl | rfl | rfl | rfl | rfl | rfl | rfl | rfl | rfl | rfl | rfl | rfl | rfl | rfl | rfl : k = 0 ∨ k = 1 ∨ k = 2 ∨ k = 3 ∨ k = 4 ∨ k = 5 ∨ k = 6 ∨ k = 7 ∨ k = 8 ∨ k = 9 ∨ k = 10 ∨ k = 11 ∨ k = 12 ∨ k = 13 ∨ k = 14 ∨ k = 15 ∨ k = 16 := by omega
        · refine ⟨_, rfl, rfl, fun b W hs hg hD => ⟨wanted_of rfl, fun K hK0 => ?_⟩⟩
          have hK := fun v W' g h => hK0 v W' g h (fun e => absurd e (by decide))
          exact rel_move 3 rfl (hs 3 (by decide)) rfl hK
        · refine ⟨_, rfl, rfl, fun b W hs hg hD => ⟨wanted_of rfl, fun K hK0 => ?_⟩⟩
          have hK := fun v W' g h => hK0 v W' g h (fun e => absurd e (by decide))
          have h0 : b.tmps[15]?.getD undef = .int .i64 (s : Nat) := (hD 0 (by decide))
          exact rel_val (v := .int .i64 (s1 : Nat)) (by unfold execOp; go_simp) rfl hK
        · refine ⟨_, rfl, rfl, fun b W hs hg hD => ⟨wanted_of rfl, fun K hK0 => ?_⟩⟩
          have hK := fun v W' g h => hK0 v W' g h (fun e => absurd e (by decide))
          exact rel_move 0 rfl (hs 0 (by decide)) rfl hK
        · refine ⟨_, rfl, rfl, fun b W hs hg hD => ⟨wanted_of rfl, fun K hK0 => ?_⟩⟩
          have hK := fun v W' g h => hK0 v W' g h (fun e => absurd e (by decide))
          exact rel_move 4 rfl (hs 4 (by decide)) rfl hK
        · refine ⟨_, rfl, rfl, fun b W hs hg hD => ⟨wanted_of rfl, fun K hK0 => ?_⟩⟩
          have hK := fun v W' g h => hK0 v W' g h (fun e => absurd e (by decide))
          have h0 : b.tmps[17]?.getD undef = .slice (some ⟨tb, o, none⟩) n c := (hD 2 (by decide))
          have h1 : b.tmps[18]?.getD undef = .int .i64 (i : Nat) := (hD 3 (by decide))
          exact rel_val (v := .pointer (some ⟨tb, o + i * 5, none⟩)) (by unfold execOp; go_simp) rfl hK
        · refine ⟨_, rfl, rfl, fun b W hs hg hD => ⟨wanted_of rfl, fun K hK0 => ?_⟩⟩
          have hK := fun v W' g h => hK0 v W' g h (fun e => absurd e (by decide))
          have h0 : b.tmps[19]?.getD undef = .pointer (some ⟨tb, o + i * 5, none⟩) := (hD 4 (by decide))
          exact rel_val (v := .pointer (some ⟨tb, o + i * 5 + 2, none⟩)) (by unfold execOp; go_simp) rfl hK
        · refine ⟨_, rfl, rfl, fun b W hs hg hD => ⟨wanted_of rfl, fun K hK0 => ?_⟩⟩
          have hK := fun v W' g h => hK0 v W' g h (fun e => absurd e (by decide))
          have h0 : b.tmps[20]?.getD undef = .pointer (some ⟨tb, o + i * 5 + 2, none⟩) := (hD 5 (by decide))
          exact rel_val (v := .slice x.ab nb x.cb) (by have cc := hg.cell C2.out (by simp); unfold execOp; go_simp) rfl hK
        · refine ⟨_, rfl, rfl, fun b W hs hg hD => ⟨wanted_of rfl, fun K hK0 => ?_⟩⟩
          have hK := fun v W' g h => hK0 v W' g h (fun e => absurd e (by decide))
          have h0 : b.tmps[21]?.getD undef = .slice x.ab nb x.cb := (hD 6 (by decide))
          exact rel_val (v := .int .i64 (nb : Nat)) (by unfold execOp; go_simp) rfl hK
        · refine ⟨_, rfl, rfl, fun b W hs hg hD => ⟨wanted_of rfl, fun K hK0 => ?_⟩⟩
          have hK := fun v W' g h => hK0 v W' g h (fun e => absurd e (by decide))
          have h0 : b.tmps[22]?.getD undef = .int .i64 (nb : Nat) := (hD 7 (by decide))
          exact rel_val (v := .int .i64 (q : Nat)) (by unfold execOp; go_simp) rfl hK
        · refine ⟨_, rfl, rfl, fun b W hs hg hD => ⟨wanted_of rfl, fun K hK0 => ?_⟩⟩
          have hK := fun v W' g h => hK0 v W' g h (fun e => absurd e (by decide))
          have h0 : b.tmps[16]?.getD undef = .int .i64 (s1 : Nat) := (hD 1 (by decide))
          have h1 : b.tmps[23]?.getD undef = .int .i64 (q : Nat) := (hD 8 (by decide))
          exact rel_val (v := .int .i64 (s2 : Nat)) (by unfold execOp; go_simp) rfl hK
        · refine ⟨_, rfl, rfl, fun b W hs hg hD => ⟨wanted_of rfl, fun K hK0 => ?_⟩⟩
          have hK := fun v W' g h => hK0 v W' g h (fun e => absurd e (by decide))
          exact rel_move 0 rfl (hs 0 (by decide)) rfl hK
        · refine ⟨_, rfl, rfl, fun b W hs hg hD => ⟨wanted_of rfl, fun K hK0 => ?_⟩⟩
          have hK := fun v W' g h => hK0 v W' g h (fun e => absurd e (by decide))
          exact rel_move 4 rfl (hs 4 (by decide)) rfl hK
        · refine ⟨_, rfl, rfl, fun b W hs hg hD => ⟨wanted_of rfl, fun K hK0 => ?_⟩⟩
          have hK := fun v W' g h => hK0 v W' g h (fun e => absurd e (by decide))
          have h0 : b.tmps[25]?.getD undef = .slice (some ⟨tb, o, none⟩) n c := (hD 10 (by decide))
          have h1 : b.tmps[26]?.getD undef = .int .i64 (i : Nat) := (hD 11 (by decide))
          exact rel_val (v := .pointer (some ⟨tb, o + i * 5, none⟩)) (by unfold execOp; go_simp) rfl hK
        · refine ⟨_, rfl, rfl, fun b W hs hg hD => ⟨wanted_of rfl, fun K hK0 => ?_⟩⟩
          have hK := fun v W' g h => hK0 v W' g h (fun e => absurd e (by decide))
          have h0 : b.tmps[27]?.getD undef = .pointer (some ⟨tb, o + i * 5, none⟩) := (hD 12 (by decide))
          exact rel_val (v := .pointer (some ⟨tb, o + i * 5 + 3, none⟩)) (by unfold execOp; go_simp) rfl hK
        · refine ⟨_, rfl, rfl, fun b W hs hg hD => ⟨wanted_of rfl, fun K hK0 => ?_⟩⟩
          have hK := fun v W' g h => hK0 v W' g h (fun e => absurd e (by decide))
          have h0 : b.tmps[28]?.getD undef = .pointer (some ⟨tb, o + i * 5 + 3, none⟩) := (hD 13 (by decide))
          exact rel_val (v := .slice x.al nl x.cl) (by have cc := hg.cell C3.out (by simp); unfold execOp; go_simp) rfl hK
        · refine ⟨_, rfl, rfl, fun b W hs hg hD => ⟨wanted_of rfl, fun K hK0 => ?_⟩⟩
          have hK := fun v W' g h => hK0 v W' g h (fun e => absurd e (by decide))
          have h0 : b.tmps[29]?.getD undef = .slice x.al nl x.cl := (hD 14 (by decide))
          exact rel_val (v := .int .i64 (nl : Nat)) (by unfold execOp; go_simp) rfl hK
        · refine ⟨_, rfl, rfl, fun b W hs hg hD => ⟨wanted_of rfl, fun K hK0 => ?_⟩⟩
          have hK := fun v W' g h => hK0 v W' g h (fun e => absurd e (by decide))
          have h0 : b.tmps[24]?.getD undef = .int .i64 (s2 : Nat) := (hD 9 (by decide))
          have h1 : b.tmps[30]?.getD undef = .int .i64 (nl : Nat) := (hD 15 (by decide))
          exact rel_val (v := .int .i64 (s3 : Nat)) (by unfold execOp; go_simp) rfl hK
      intro vals W hg hR hap
      have e1 : vals 16 = .int .i64 (s3 : Nat) := hR 16 (by decide)
      clear hR hap
      simp only [putsN, atL, Act.put, List.getD_cons_zero, List.getD_cons_succ, List.setIfInBounds_toArray, List.set_cons_succ, List.set_cons_zero, e1]
      generalize vals 0 = q0
      generalize vals 1 = q1
      generalize vals 2 = q2
      generalize vals 3 = q3
      generalize vals 4 = q4
      generalize vals 5 = q5
      generalize vals 6 = q6
      generalize vals 7 = q7
      generalize vals 8 = q8
      generalize vals 9 = q9
      generalize vals 10 = q10
      generalize vals 11 = q11
      generalize vals 12 = q12
      generalize vals 13 = q13
      generalize vals 14 = q14
      generalize vals 15 = q15
      clear e1 vals
      show wpAnyH _ _ _ _ _ 1 #[true, true, true, true, true, true, true, true, true, true, true, true, true, true, true, true, true, false] _ _
      refine wpAnyH_yieldD (some 3) (i := 17) (v := .int .i64 (s3 : Nat)) (by kernel_rfl) rfl rfl rfl (by unfold execOp; go_simp) hg ?_
      simp only [Act.put, List.setIfInBounds_toArray, List.set_cons_succ, List.set_cons_zero]
      refine wpAnyH_done (by kernel_rfl) ?_ _
      have gF := grown_trans gr hg
      clear hg gr C2 C3 y1 y2 y2' y3 y4 w1 w2 w3 w4 j2 ks
      go_wp2_with fail
      go_roundw
      case rel => exact ⟨i + 1, HIN.out, by rw [E3.out], by go_num, by rw [E3.out]; exact B3.out, gF⟩
      case measure =>
        have := HIN.out
        simp [intOf]
        try omega
    · by_cases hin : i < n
      · have j1 : (i : Int) < (n : Int) := by omega
        have j2 : ¬ (s : Int) ≤ 3000 := by omega
        have j3 : (3000 : Int) < (s : Int) := by omega
        clear hgo hb hi hs
        go_wp2_with fail
        go_ret
        exact ⟨⟨true, rfl, gr, fun h => by cases h⟩⟩
      · obtain rfl : i = n := by omega
        have j1 : ¬ (i : Int) < (i : Int) := by omega
        by_cases hsm : s ≤ 3000
        · have j3 : ¬ (3000 : Int) < (s : Int) := by omega
          have HS := Lib.hid (show grS X i ≤ 3000 by omega)
          clear hgo hb hi hs hsm
          go_wp2_with fail
          go_ret
          exact ⟨⟨false, rfl, gr, fun _ => HS.out⟩⟩
        · have j3 : (3000 : Int) < (s : Int) := by omega
          clear hgo hb hi hs
          go_wp2_with fail
          go_ret
          exact ⟨⟨true, rfl, gr, fun h => by cases h⟩⟩
end Go.Proofs.Ytpkeolggehjjlaa
