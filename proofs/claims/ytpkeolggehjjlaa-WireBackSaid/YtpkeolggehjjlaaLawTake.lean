/-
  hailerlaw08's take.
-/
import Derived.Test.YtpkeolggehjjlaaLawTakeA
import Derived.Deep.CutBlock
namespace Go.Proofs.Ytpkeolggehjjlaa
open Go.RowKit

set_option maxRecDepth 100000
set_option maxHeartbeats 4000000

theorem PreT.fz3 {w wr w2 w3 : World} {p : Option Addr} {L : Nat} {F : Nat → Nat} {s s' : ISt} {x : FV} {v : Value} {i : Nat} {Y : Nat → FV} {B2 : Nat} (h : PreT w wr w2 p L F s x v i Y B2) (hz : ∀ o, w2.frozen? ⟨B2, o, none⟩ = false) (hs : ISays w2 p L F s' w3) (o : Nat) : w3.frozen? ⟨B2, o, none⟩ = false :=
  (World.frozen?_of_block (a := ⟨B2, o, none⟩) (hs.gr.block B2 h.hB2 (fun e => by have := h.hrw B2 e.symm; have := h.says.gr.size; have := h.hB; omega))).trans (hz o)
structure TookF (w : World) (p : Option Addr) (L : Nat) (F : Nat → Nat) (s : ISt) (n : Nat) (X : Nat → FV) (e : Ending) (w' : World) : Prop where
  ex : ∃ a c Y, e = .returned (.slice a n c) ∧ Kept w' w.heap.size w.heap.size (.slice a n c) n Y ∧ (∀ q, q < n → TakenF L F (s.fields L F X q) (X q) (Y q)) ∧ ∀ q, (Y q).Ok
  says : ISays w p L F (s.fields L F X n) w'
theorem lawTake_any {w : World} {p : Option Addr} {L : Nat} {F : Nat → Nat} {s : ISt} (D n c : Nat) (a : Option Addr) (X : Nat → FV) (h : IAt w p L F s) (hF : ∀ i, F i < 256) (hX : Flds w D a n X) (hn : n ≤ 1048576) (hD : ∀ g, p = some ⟨g, 0, none⟩ → D ≤ g) (hL : L ≤ 1048576) :
    Calls Try.prog 13 #[.pointer p, .slice a n c] w (TookF w p L F s n X) := by
  have H := Lib.hid h
  have HX := Lib.hid hX
  have HN := Lib.hid hn
  have HFF := Lib.hid hF
  have HLL := Lib.hid hL
  have HLT := Lib.hid (fun g => h.lt g)
  have HRW := Lib.hid (fun k => h.rowP_lt k)
  have HD2 : Hid (∀ k, rowP p = some k → D ≤ k) := fun k hk => by
    have hs := h.st
    cases s with
    | nil =>
      have h0 : p = none := hs
      rw [h0] at hk; cases hk
    | bad =>
      obtain ⟨g, h1, _⟩ := hs
      rw [h1] at hk; cases hk
      exact hD g h1
    | good q =>
      obtain ⟨g, _, _, h1, _⟩ := hs
      rw [h1] at hk; cases hk
      exact hD g h1
  have kn : (n : Int) ≤ 1048576 := by omega
  clear h hF hX hn hD hL
  go_enter Try.func13, Try.ntmps13
  go_wp2_with fail
  go_loopw [5, 11] (fun u5 u11 wr => ∃ (i : Nat) (Y : Nat → FV), i ≤ n ∧ u11 = .int .i64 i ∧ Kept wr w.heap.size w.heap.size u5 i Y ∧ (∀ q, q < i → TakenF L F (s.fields L F X q) (X q) (Y q)) ∧ (∀ q, (Y q).Ok) ∧ ISays w p L F (s.fields L F X i) wr) (fun _ u11 _ => n - (intOf u11).toNat)
  case atStart => exact ⟨0, fun _ => fv00, Nat.zero_le _, rfl, ⟨OwnNE.nil _ _ _ _, fun q hq => absurd hq (Nat.not_lt_zero _), fun q hq => absurd hq (Nat.not_lt_zero _)⟩, fun q hq => absurd hq (Nat.not_lt_zero _), fun _ => fv00_ok, ⟨H.out, grown_refl _ _⟩⟩
  case round =>
    obtain ⟨i, Y, hi, rfl, hK, hT, hY, hE⟩ := hrel
    by_cases hlt : i < n
    · obtain ⟨tb, o, rfl, htb, hFl⟩ := HX.out.ex (by omega)
      have hx := (hFl i hlt).grown hE.gr (fun e => by have := HD2.out tb e.symm; omega)
      have hok := HX.out.ok i
      have j1 : (i : Int) < (n : Int) := by omega
      have HL2 := Lib.hid hlt
      have hst : s.fields L F X (i + 1) = (s.fields L F X i).field L F (X i).k (X i).nb (X i).m := rfl
      obtain ⟨x, hxx⟩ : ∃ x, x = X i := ⟨_, rfl⟩
      obtain ⟨t, htt⟩ : ∃ t, t = s.fields L F X i := ⟨_, rfl⟩
      rw [← hxx] at hx hok
      rw [← htt] at hE
      rw [← hxx, ← htt] at hst
      have g1 := World.grownBy_alloc wr (.cells #[.int .u8 x.k, .int .u64 x.n, .slice x.ab x.nb x.cb, .slice x.al x.nl x.cl, .int .i64 x.m] 54) none
      have g2 := World.grownBy_alloc (wr.alloc (.cells #[.int .u8 x.k, .int .u64 x.n, .slice x.ab x.nb x.cb, .slice x.al x.nl x.cl, .int .i64 x.m] 54)) (.cells #[.int .u8 x.k, .int .u64 0, .slice none 0 0, .slice none 0 0, .int .i64 x.m] 54) none
      have hC := FAt.new x wr
      have hC2 : FAt ((wr.alloc (.cells #[.int .u8 x.k, .int .u64 x.n, .slice x.ab x.nb x.cb, .slice x.al x.nl x.cl, .int .i64 x.m] 54)).alloc (.cells #[.int .u8 x.k, .int .u64 0, .slice none 0 0, .slice none 0 0, .int .i64 x.m] 54)) (wr.alloc (.cells #[.int .u8 x.k, .int .u64 x.n, .slice x.ab x.nb x.cb, .slice x.al x.nl x.cl, .int .i64 x.m] 54)).heap.size 0 x.begun := FAt.new x.begun (wr.alloc (.cells #[.int .u8 x.k, .int .u64 x.n, .slice x.ab x.nb x.cb, .slice x.al x.nl x.cl, .int .i64 x.m] 54))
      have hZ2 : ∀ o, ((wr.alloc (.cells #[.int .u8 x.k, .int .u64 x.n, .slice x.ab x.nb x.cb, .slice x.al x.nl x.cl, .int .i64 x.m] 54)).alloc (.cells #[.int .u8 x.k, .int .u64 0, .slice none 0 0, .slice none 0 0, .int .i64 x.m] 54)).frozen? ⟨(wr.alloc (.cells #[.int .u8 x.k, .int .u64 x.n, .slice x.ab x.nb x.cb, .slice x.al x.nl x.cl, .int .i64 x.m] 54)).heap.size, o, none⟩ = false := fun o => frozen_of_row _ _ _ _ _ (heap_alloc_new _ _)
      have hC1 : FAt ((wr.alloc (.cells #[.int .u8 x.k, .int .u64 x.n, .slice x.ab x.nb x.cb, .slice x.al x.nl x.cl, .int .i64 x.m] 54)).alloc (.cells #[.int .u8 x.k, .int .u64 0, .slice none 0 0, .slice none 0 0, .int .i64 x.m] 54)) wr.heap.size 0 x := hC.grown g2 (by simp)
      have hz1 := World.size_alloc wr (.cells #[.int .u8 x.k, .int .u64 x.n, .slice x.ab x.nb x.cb, .slice x.al x.nl x.cl, .int .i64 x.m] 54)
      have hz2 := World.size_alloc (wr.alloc (.cells #[.int .u8 x.k, .int .u64 x.n, .slice x.ab x.nb x.cb, .slice x.al x.nl x.cl, .int .i64 x.m] 54)) (.cells #[.int .u8 x.k, .int .u64 0, .slice none 0 0, .slice none 0 0, .int .i64 x.m] 54)
      rw [hz1] at hC2 hZ2 hz2
      have hpre : PreT w wr ((wr.alloc (.cells #[.int .u8 x.k, .int .u64 x.n, .slice x.ab x.nb x.cb, .slice x.al x.nl x.cl, .int .i64 x.m] 54)).alloc (.cells #[.int .u8 x.k, .int .u64 0, .slice none 0 0, .slice none 0 0, .int .i64 x.m] 54)) p L F t x u5 i Y (wr.heap.size + 1) :=
        ⟨grown_trans g1 g2, by omega, by omega, hE, hK, hC2, HLT.out, HRW.out, hok⟩
      have HPRE := Lib.hid hpre
      have HC1 := Lib.hid hC1
      have HZ2 := Lib.hid hZ2
      have HST := Lib.hid hst
      have HXX := Lib.hid hxx
      have HTT := Lib.hid htt
      have HT := Lib.hid hT
      have HY := Lib.hid hY
      have HOK := Lib.hid hok
      have cA := hC.c0
      have cB := hC.c4
      simp only [Nat.zero_add] at cB
      clear hz1 hz2 hok hpre hC1 hZ2 hC2 g1 g2 hxx htt hst hT hY hE hK hFl htb hC hi hlt
      go_upto_region 5 with (refine wpList_load_field rfl 13 hx rfl rfl ?_; simp only [FV.val])
      go_upto_region 6 with fail
      obtain ⟨B1, hB1⟩ : ∃ B1, B1 = wr.heap.size := ⟨_, rfl⟩
      obtain ⟨B2, hB2⟩ : ∃ B2, B2 = wr.heap.size + 1 := ⟨_, rfl⟩
      rw [← hB2] at HPRE HZ2 ⊢
      rw [← hB1] at HC1 ⊢
      clear hB1 hB2 cA cB hx
      generalize (wr.alloc (.cells #[.int .u8 x.k, .int .u64 x.n, .slice x.ab x.nb x.cb, .slice x.al x.nl x.cl, .int .i64 x.m] 54)).alloc (.cells #[.int .u8 x.k, .int .u64 0, .slice none 0 0, .slice none 0 0, .int .i64 x.m] 54) = w2 at *
      have hC1 := HC1.out
      have c0 := hC1.c0
      have c2 := hC1.c2
      have c4 := hC1.c4
      have hI := HPRE.out.says.st.grown0 HPRE.out.g2
      have o1 := HOK.out.k
      have o3 := HOK.out.lb
      have o5 := HOK.out.mlo
      have o6 := HOK.out.mhi
      simp only [Nat.zero_add] at c2 c4
      obtain ⟨xk, hxk⟩ : ∃ y, y = x.k := ⟨_, rfl⟩
      obtain ⟨nb, hnb⟩ : ∃ y, y = x.nb := ⟨_, rfl⟩
      obtain ⟨xm, hxm⟩ : ∃ y, y = x.m := ⟨_, rfl⟩
      generalize Value.agg #[.int .u8 x.k, .int .u64 x.n, .slice x.ab x.nb x.cb, .slice x.al x.nl x.cl, .int .i64 x.m] = xv at *
      generalize Value.agg #[.int .u8 x.k, .int .u64 0, .slice none 0 0, .slice none 0 0, .int .i64 x.m] = yv at *
      rw [← hxk] at c0 o1 ⊢
      rw [← hnb] at c2 o3
      rw [← hxm] at c4 o5 o6 ⊢
      have HK := Lib.hid hxk
      have HNB := Lib.hid hnb
      have HM := Lib.hid hxm
      have HI := Lib.hid hI
      clear hxk hnb hxm hC1 HC1 hI
      go_upto_block 2 with fail
      go_cut [8] (fun s8 wx => s8 = .pointer (some ⟨B2, 0, none⟩) ∧ MidT w p L F t x u5 i Y B2 wx)
      case first =>
        by_cases e0 : xk = 0
        · subst e0
          have HP := Lib.hid (inU8_any HI.out HFF.out)
          have hN := ISt.num_lt L F t 1 HFF.out
          obtain ⟨N, hNN⟩ : ∃ N, N = t.num L F 1 := ⟨_, rfl⟩
          rw [← hNN] at HP hN
          have HNN := Lib.hid hNN
          have HNL := Lib.hid hN
          have l0 : (N : Int) < 18446744073709551616 := by omega
          clear hNN hN
          clear o1 o3 o5 o6
          go_wp2_with fail
          go_at_call 31
          refine HP.out.mono ?_
          rintro e w3 ⟨rfl, hE⟩
          have hc1 := (HPRE.out.fat3 hE).c1
          have hc2 := (HPRE.out.fat3 hE).c2
          have hc3 := (HPRE.out.fat3 hE).c3
          simp only [Nat.zero_add] at hc1 hc2 hc3
          have hf1 := HPRE.out.fz3 HZ2.out hE 1
          have hf2 := HPRE.out.fz3 HZ2.out hE 2
          have hf3 := HPRE.out.fz3 HZ2.out hE 3
          have HE := Lib.hid (mid_num HPRE.out hE N (by have := HNL.out; omega) (by rw [← HK.out]; rfl) (by rw [← HK.out, HNN.out]; rfl) (by rw [← HK.out]; rfl) (by rw [← HK.out]; rfl))
          clear hE HP
          go_wp2_with fail
          go_meet
          case rel => exact ⟨rfl, HE.out⟩
        by_cases e1 : xk = 1
        · subst e1
          have HP := Lib.hid (inU32_any HI.out HFF.out)
          have hN := ISt.num_lt L F t 4 HFF.out
          obtain ⟨N, hNN⟩ : ∃ N, N = t.num L F 4 := ⟨_, rfl⟩
          rw [← hNN] at HP hN
          have HNN := Lib.hid hNN
          have HNL := Lib.hid hN
          have l0 : (N : Int) < 18446744073709551616 := by omega
          clear hNN hN
          clear o1 o3 o5 o6
          go_wp2_with fail
          go_at_call 32
          refine HP.out.mono ?_
          rintro e w3 ⟨rfl, hE⟩
          have hc1 := (HPRE.out.fat3 hE).c1
          have hc2 := (HPRE.out.fat3 hE).c2
          have hc3 := (HPRE.out.fat3 hE).c3
          simp only [Nat.zero_add] at hc1 hc2 hc3
          have hf1 := HPRE.out.fz3 HZ2.out hE 1
          have hf2 := HPRE.out.fz3 HZ2.out hE 2
          have hf3 := HPRE.out.fz3 HZ2.out hE 3
          have HE := Lib.hid (mid_num HPRE.out hE N (by have := HNL.out; omega) (by rw [← HK.out]; rfl) (by rw [← HK.out, HNN.out]; rfl) (by rw [← HK.out]; rfl) (by rw [← HK.out]; rfl))
          clear hE HP
          go_wp2_with fail
          go_meet
          case rel => exact ⟨rfl, HE.out⟩
        by_cases e2 : xk = 2
        · subst e2
          have HP := Lib.hid (inU64_any HI.out HFF.out)
          have hN := ISt.num_lt L F t 8 HFF.out
          obtain ⟨N, hNN⟩ : ∃ N, N = t.num L F 8 := ⟨_, rfl⟩
          rw [← hNN] at HP hN
          have HNN := Lib.hid hNN
          have HNL := Lib.hid hN
          have l0 : (N : Int) < 18446744073709551616 := by omega
          clear hNN hN
          clear o1 o3 o5 o6
          go_wp2_with fail
          go_at_call 33
          refine HP.out.mono ?_
          rintro e w3 ⟨rfl, hE⟩
          have hc1 := (HPRE.out.fat3 hE).c1
          have hc2 := (HPRE.out.fat3 hE).c2
          have hc3 := (HPRE.out.fat3 hE).c3
          simp only [Nat.zero_add] at hc1 hc2 hc3
          have hf1 := HPRE.out.fz3 HZ2.out hE 1
          have hf2 := HPRE.out.fz3 HZ2.out hE 2
          have hf3 := HPRE.out.fz3 HZ2.out hE 3
          have HE := Lib.hid (mid_num HPRE.out hE N (by have := HNL.out; omega) (by rw [← HK.out]; rfl) (by rw [← HK.out, HNN.out]; rfl) (by rw [← HK.out]; rfl) (by rw [← HK.out]; rfl))
          clear hE HP
          go_wp2_with fail
          go_meet
          case rel => exact ⟨rfl, HE.out⟩
        by_cases e3 : xk = 3
        · subst e3
          have HP := Lib.hid (inFlag_any HI.out HFF.out)
          have hN := ISt.num_lt L F t 1 HFF.out
          obtain ⟨N, hNN⟩ : ∃ N, N = t.num L F 1 := ⟨_, rfl⟩
          rw [← hNN] at HP hN
          have HNN := Lib.hid hNN
          have HNL := Lib.hid hN
          have l0 : (N : Int) < 18446744073709551616 := by omega
          clear hNN hN
          clear o1 o3 o5 o6
          go_wp2_with fail
          go_at_call 21
          refine HP.out.mono ?_
          rintro e w3 ⟨rfl, hE⟩
          have hc1 := (HPRE.out.fat3 hE).c1
          have hc2 := (HPRE.out.fat3 hE).c2
          have hc3 := (HPRE.out.fat3 hE).c3
          simp only [Nat.zero_add] at hc1 hc2 hc3
          have hf1 := HPRE.out.fz3 HZ2.out hE 1
          have hf2 := HPRE.out.fz3 HZ2.out hE 2
          have hf3 := HPRE.out.fz3 HZ2.out hE 3
          by_cases hb : N = 1
          · rw [decide_eq_true hb]
            have HE : Hid (MidT w p L F t x u5 i Y B2 (w3.setCell ⟨B2, 1, none⟩ (.int .u64 1))) := mid_num HPRE.out hE 1 (by decide) (by rw [← HK.out]; rfl) (by
              rw [← HK.out]
              show (if t.num L F 1 = 1 then 1 else 0) = 1
              rw [← HNN.out, if_pos hb]) (by rw [← HK.out]; rfl) (by rw [← HK.out]; rfl)
            clear hE HP hb
            go_wp2_with fail
            go_meet
            case rel => exact ⟨rfl, HE.out⟩
          · rw [decide_eq_false hb]
            have HE : Hid (MidT w p L F t x u5 i Y B2 w3) := mid_none HPRE.out hE (by rw [← HK.out]; rfl) (by
              rw [← HK.out]
              show (if t.num L F 1 = 1 then 1 else 0) = 0
              rw [← HNN.out, if_neg hb]) (by rw [← HK.out]; rfl) (by rw [← HK.out]; rfl)
            clear hE HP hb
            go_wp2_with fail
            go_meet
            case rel => exact ⟨rfl, HE.out⟩
        by_cases e4 : xk = 4
        · subst e4
          have HP := Lib.hid (inFixed_any (nb : Nat) HI.out (by omega) (by omega) (by have := HLL.out; omega))
          obtain ⟨N, hNN⟩ : ∃ N, N = t.got L (nb : Nat) := ⟨_, rfl⟩
          rw [← hNN] at HP
          have HNL : Hid (N ≤ 1048576) := by have := ISt.got_leL L t (nb : Nat); have := HLL.out; rw [hNN]; show _ ≤ _; omega
          have HNN := Lib.hid hNN
          clear hNN
          clear o1 o3 o5 o6
          go_wp2_with fail
          go_at_call 34
          refine HP.out.mono ?_
          rintro e w3 ⟨⟨a3, c3, rfl, hO⟩, hE⟩
          have hc1 := (HPRE.out.fat3 hE).c1
          have hc2 := (HPRE.out.fat3 hE).c2
          have hc3 := (HPRE.out.fat3 hE).c3
          simp only [Nat.zero_add] at hc1 hc2 hc3
          have hf1 := HPRE.out.fz3 HZ2.out hE 1
          have hf2 := HPRE.out.fz3 HZ2.out hE 2
          have hf3 := HPRE.out.fz3 HZ2.out hE 3
          have HE := Lib.hid (mid_bytes HPRE.out hE a3 N c3 _ hO (fun _ => HFF.out _) HNL.out (by rw [← HK.out, ← HNB.out]; rfl) (by rw [← HK.out]; rfl) (by rw [← HK.out, ← HNB.out, HNN.out]; rfl) (by rw [← HK.out]; rfl) (by rw [← HK.out]; rfl))
          clear hE HP hO
          go_wp2_with fail
          go_meet
          case rel => exact ⟨rfl, HE.out⟩
        by_cases e5 : xk = 5
        · subst e5
          have HP := Lib.hid (inSized_any xm HI.out HFF.out (by have := HLL.out; omega))
          obtain ⟨N, hNN⟩ : ∃ N, N = (t.cntS L F xm).got L (t.cntV L F xm : Nat) := ⟨_, rfl⟩
          rw [← hNN] at HP
          have HNL : Hid (N ≤ 1048576) := by have := ISt.got_leL L (t.cntS L F xm) (t.cntV L F xm : Nat); have := HLL.out; rw [hNN]; show _ ≤ _; omega
          have HNN := Lib.hid hNN
          clear hNN
          clear o1 o3 o5 o6
          go_wp2_with fail
          go_at_call 35
          refine HP.out.mono ?_
          rintro e w3 ⟨⟨a3, c3, rfl, hO⟩, hE⟩
          have hc1 := (HPRE.out.fat3 hE).c1
          have hc2 := (HPRE.out.fat3 hE).c2
          have hc3 := (HPRE.out.fat3 hE).c3
          simp only [Nat.zero_add] at hc1 hc2 hc3
          have hf1 := HPRE.out.fz3 HZ2.out hE 1
          have hf2 := HPRE.out.fz3 HZ2.out hE 2
          have hf3 := HPRE.out.fz3 HZ2.out hE 3
          have HE := Lib.hid (mid_bytes HPRE.out hE a3 N c3 _ hO (fun _ => HFF.out _) HNL.out (by rw [← HK.out, ← HM.out]; rfl) (by rw [← HK.out]; rfl) (by rw [← HK.out, ← HM.out, HNN.out]; rfl) (by rw [← HK.out, ← HM.out]; rfl) (by rw [← HK.out]; rfl))
          clear hE HP hO
          go_wp2_with fail
          go_meet
          case rel => exact ⟨rfl, HE.out⟩
        by_cases e6 : xk = 6
        · subst e6
          have HP := Lib.hid (inList_any xm HI.out HFF.out)
          obtain ⟨N, hNN⟩ : ∃ N, N = (t.cntS L F xm).lstN L (t.cntV L F xm) := ⟨_, rfl⟩
          rw [← hNN] at HP
          have HNL : Hid (N ≤ 1048576) := by
            have := ISt.cntV_lt L F t xm HFF.out
            rw [hNN]
            show (if _ then _ else _) ≤ _
            split <;> omega
          have HNN := Lib.hid hNN
          clear hNN
          clear o1 o3 o5 o6
          go_wp2_with fail
          go_at_call 36
          refine HP.out.mono ?_
          rintro e w3 ⟨⟨a3, c3, rfl, hO⟩, hE⟩
          have hc1 := (HPRE.out.fat3 hE).c1
          have hc2 := (HPRE.out.fat3 hE).c2
          have hc3 := (HPRE.out.fat3 hE).c3
          simp only [Nat.zero_add] at hc1 hc2 hc3
          have hf1 := HPRE.out.fz3 HZ2.out hE 1
          have hf2 := HPRE.out.fz3 HZ2.out hE 2
          have hf3 := HPRE.out.fz3 HZ2.out hE 3
          have HE := Lib.hid (mid_list HPRE.out hE a3 N c3 _ hO (fun _ => ISt.num_lt L F _ 4 HFF.out) HNL.out (by rw [← HK.out, ← HM.out]; rfl) (by rw [← HK.out]; rfl) (by rw [← HK.out]; rfl) (by rw [← HK.out, ← HM.out]; rfl) (by rw [← HK.out, ← HM.out, HNN.out]; rfl))
          clear hE HP hO
          go_wp2_with fail
          go_meet
          case rel => exact ⟨rfl, HE.out⟩
        have hE : ISays w2 p L F t w2 := ⟨HI.out, grown_refl _ _⟩
        have HE : Hid (MidT w p L F t x u5 i Y B2 w2) := mid_none HPRE.out hE (by rw [← HK.out]; simp [ISt.field, e0, e1, e2, e3, e4, e5, e6]) (by rw [← HK.out]; simp [ISt.fldN, e0, e1, e2, e3]) (by rw [← HK.out]; simp [ISt.fldB, e4, e5]) (by rw [← HK.out]; simp [ISt.fldL, e6])
        have d0 : ((xk : Int) == 0) = false := beq_eq_false_iff_ne.2 (by omega)
        have d1 : ((xk : Int) == 1) = false := beq_eq_false_iff_ne.2 (by omega)
        have d2 : ((xk : Int) == 2) = false := beq_eq_false_iff_ne.2 (by omega)
        have d3 : ((xk : Int) == 3) = false := beq_eq_false_iff_ne.2 (by omega)
        have d4 : ((xk : Int) == 4) = false := beq_eq_false_iff_ne.2 (by omega)
        have d5 : ((xk : Int) == 5) = false := beq_eq_false_iff_ne.2 (by omega)
        have d6 : ((xk : Int) == 6) = false := beq_eq_false_iff_ne.2 (by omega)
        clear e0 e1 e2 e3 e4 e5 e6 hE o1 o3 o5 o6 c0 c2 c4
        go_wp2_with fail
        go_meet
        case rel => exact ⟨rfl, HE.out⟩
      case rest =>
        obtain ⟨rfl, hM⟩ := hcut
        obtain ⟨y, hFy, hTy, hYo, hRb, hRl⟩ := hM.fat
        have g4 := World.grownBy_alloc wc (.cells #[.int .u8 y.k, .int .u64 y.n, .slice y.ab y.nb y.cb, .slice y.al y.nl y.cl, .int .i64 y.m] 54) none
        have hz4 := World.size_alloc wc (.cells #[.int .u8 y.k, .int .u64 y.n, .slice y.ab y.nb y.cb, .slice y.al y.nl y.cl, .int .i64 y.m] 54)
        obtain ⟨a5, c5, w5, hap, hK5, row, hgr, hrow⟩ := app_F wc.heap.size 1 22 (by have := hM.says.gr.size; omega) (hM.kept.grown g4 (by simp)) (FAt.new y wc) (hRb.grown g4 (by simp)) (hRl.grown g4 (by simp)) (by have := HN.out; have := HL2.out; omega)
        have hE5 : ISays w p L F (t.field L F x.k x.nb x.m) w5 := ⟨(hM.says.st.grown0 g4).grown hgr (fun g q hp hq => by have := HLT.out g hp; have := hrow q hq; omega), grown_row (grown_row hM.says.gr g4 (by simp)) hgr hrow⟩
        rw [← HST.out] at hE5
        have HE5 := Lib.hid hE5
        have HK5 := Lib.hid hK5
        have HAP := Lib.hid hap
        have HTy := Lib.hid hTy
        have HYo := Lib.hid hYo
        clear hE5 hK5 hap hTy hYo hM hRb hRl hgr hrow hz4 g4 HPRE HZ2 HI c0 c2 c4
        go_wp2_with (first
          | refine wpList_load_field rfl 8 hFy rfl rfl ?_; simp only [FV.val]
          | at_builtin; refine wpList_append_run rfl (.tmp 66) (.tmp 68) 22 22 rfl _ _ _ _ rfl rfl HAP.out ?_)
        go_roundw
        case rel =>
          refine ⟨i + 1, snocY i Y y, HL2.out, by go_num, HK5.out, ?_, ?_, HE5.out⟩
          · intro q hq
            unfold snocY
            by_cases e : q < i
            · rw [if_pos e]; exact HT.out q e
            · obtain rfl : q = i := by omega
              rw [if_neg e, ← HTT.out, ← HXX.out]; exact HTy.out
          · intro q
            unfold snocY
            by_cases e : q < i
            · rw [if_pos e]; exact HY.out q
            · rw [if_neg e]; exact HYo.out
        case measure =>
          have := HL2.out
          simp [intOf]
          try omega
    · obtain rfl : i = n := by omega
      have j1 : ¬ (i : Int) < (i : Int) := by omega
      have HT := Lib.hid hT
      have HY := Lib.hid hY
      have HE := Lib.hid hE
      have HK := Lib.hid hK
      rcases hK.own.ex with ⟨rfl, h0⟩ | ⟨go, cap, rfl, _⟩
      · have HI := Lib.hid h0
        clear hT hY hE hK hi hlt h0
        go_wp2_with fail
        go_ret
        exact ⟨⟨none, 0, Y, by rw [HI.out]; rfl, by have := HK.out; rwa [HI.out] at this ⊢, HT.out, HY.out⟩, HE.out⟩
      · clear hT hY hE hK hi hlt
        go_wp2_with fail
        go_ret
        exact ⟨⟨some ⟨go, 0, none⟩, cap, Y, rfl, HK.out, HT.out, HY.out⟩, HE.out⟩
end Go.Proofs.Ytpkeolggehjjlaa
