/-
  Blocks: of bytes, and back; added.
-/
import Derived.Test.YtlfopcigbgfnlaaDoorGcmWord
import Derived.Test.YtlfopcigbgfnlaaDoorShaSpec
namespace Go.Proofs.YtlfopcigbgfnlaaDoor
open Go.RowKit

set_option maxRecDepth 100000
set_option maxHeartbeats 1000000

theorem gtaken_any (f : Nat → Nat) (w : World) (hf : ∀ i, f i < 256) : Calls Tryd.prog 14 #[.agg (cellsOf .u8 16 f)] w fun e w' => e = .returned (.agg (cellsOf .u64 2 (wd (pl f)))) ∧ w.grownBy w' none := by
  have Hf := Lib.hid hf
  go_enter Tryd.func14, Tryd.ntmps14
  have hA : Holds ((w.alloc (.cells (cellsOf .u8 16 f) 24)).alloc (.cells #[.int .u64 0, .int .u64 0] 41)) w.heap.size 24 .u8 16 f := (holds_alloc w 24 .u8 16 f _ rfl).of_block (by rw [heap_alloc_old]; simp)
  have hB : Holds ((w.alloc (.cells (cellsOf .u8 16 f) 24)).alloc (.cells #[.int .u64 0, .int .u64 0] 41)) (w.heap.size + 1) 41 .u64 2 (tkW f 0) := by
    have := holds_alloc (w.alloc (.cells (cellsOf .u8 16 f) 24)) 41 .u64 2 (fun _ => 0) #[.int .u64 0, .int .u64 0] rfl
    rw [World.size_alloc] at this
    exact this.congr (fun j _ => (tkW_zero f j).symm)
  have hg := grown_alloc (World.grownBy_alloc w (.cells (cellsOf .u8 16 f) 24) none) (.cells #[.int .u64 0, .int .u64 0] 41)
  clear hf
  go_wp2_with (refine wpList_load_row rfl 24 (.tmp 1) rfl w.heap.size rfl 24 _ (0, 0) (.array 16 5) hA.block (by kernel_rfl) rfl (by rw [cellsOf_size]; kernel_rfl) ?_)
  generalize (w.alloc (.cells (cellsOf .u8 16 f) 24)).alloc (.cells #[.int .u64 0, .int .u64 0] 41) = w1 at *
  go_loopw [3, 4, 6] (fun _ _ u6 wr => ∃ i : Nat, i ≤ 16 ∧ u6 = .int .i64 i ∧ w.grownBy wr none ∧ Holds wr (w.heap.size + 1) 41 .u64 2 (tkW f i)) (fun _ _ u6 _ => 16 - (intOf u6).toNat)
  case atStart => exact ⟨0, by omega, rfl, hg, hB⟩
  case round =>
    clear hg hA hB
    obtain ⟨i, hi, rfl, hgr, hB⟩ := hrel
    by_cases hlt : i < 16
    · have j1 : (i : Int) < 16 := by omega
      obtain ⟨q, hq⟩ : ∃ q, q = i / 8 := ⟨_, rfl⟩
      have x0 : (i : Int) / 8 = (q : Int) := by omega
      have k0 : (q : Int) < 2 := by omega
      have c0 := hB.cell q (by omega)
      have f0 := hB.frozen q
      have hix := run_indexOf (Q := Tryd.prog) (T := 24) (E := 5) (n := 16) (by kernel_rfl) (fun _ => by kernel_rfl) (fun _ => by kernel_rfl) (cellsOf .u8 16 f) i i rfl (.int .u8 (f i)) hlt (cellsOf_get .u8 16 f i hlt)
      obtain ⟨r, hr⟩ : ∃ r, r = i % 8 := ⟨_, rfl⟩
      have hfi : f i = f (8 * q + r) := by rw [show 8 * q + r = i by omega]
      have hval := be_step64 (fun t => f (8 * q + t)) (fun t => Hf.out _) r (by omega)
      rw [← hfi] at hval
      have hc0 : tkW f i q = be (fun t => f (8 * q + t)) r := by rw [hq, hr]; exact tkW_at f i
      rw [hc0] at c0
      have hst : upd (tkW f i) q (be (fun t => f (8 * q + t)) (r + 1)) = tkW f (i + 1) := by rw [hq, hr]; exact tkW_step f i
      generalize f i = fi at *
      obtain ⟨v0, hv0⟩ : ∃ v, v = be (fun t => f (8 * q + t)) r := ⟨_, rfl⟩
      obtain ⟨v1, hv1⟩ : ∃ v, v = be (fun t => f (8 * q + t)) (r + 1) := ⟨_, rfl⟩
      rw [← hv0] at hval c0
      rw [← hv1] at hval hst
      have HA : Hid (Holds (wr.setCell ⟨w.heap.size + 1, q, none⟩ (.int .u64 (v1 : Nat))) (w.heap.size + 1) 41 .u64 2 (tkW f (i + 1))) := Lib.hid (by rw [← hst]; exact hB.set q v1)
      have HG : Hid (w.grownBy (wr.setCell ⟨w.heap.size + 1, q, none⟩ (.int .u64 (v1 : Nat))) none) := Lib.hid (grown_setCell_new hgr ⟨w.heap.size + 1, q, none⟩ (.int .u64 (v1 : Nat)) (Or.inl (by simp)))
      have HV := Lib.hid hval
      clear hq hr hfi hc0 hst hv0 hv1 hgr hB hval hi
      go_wp2_with fail
      simp only [HV.out]
      exact ⟨⟨i + 1, by omega, by go_num, HG.out, HA.out⟩, by simp [intOf]; omega⟩
    · obtain rfl : i = 16 := by omega
      have hB4 : Holds wr (w.heap.size + 1) 41 .u64 2 (wd (pl f)) := hB.congr (fun j hj => tkW_end f Hf.out j hj)
      clear hlt hi hB
      go_wp2_with (first
        | refine wpList_load_row rfl 41 (.tmp 2) rfl (w.heap.size + 1) rfl 41 _ (0, 0) (.array 2 39) hB4.block (by kernel_rfl) rfl (by rw [cellsOf_size]; kernel_rfl) ?_
        | refine wpList_store_row rfl 41 (.tmp 2) (.tmp 22) rfl (w.heap.size + 1) _ rfl rfl 41 _ hB4.block (by rw [cellsOf_size]; kernel_rfl) rfl (cellsOf_all _ _ _) ?_)
      exact bodyPost_ret (v := .agg (cellsOf .u64 2 (wd (pl f)))) (results_cell_row rfl _ _ (w.heap.size + 1) 41 _ (0, 0) (.array 2 39) rfl (hB4.setRow .u64 2 (wd (pl f))).block (by kernel_rfl) rfl (by rw [cellsOf_size]; kernel_rfl)) rfl ⟨rfl, grown_setRow_new hgr _ _ (Or.inl (by omega))⟩

theorem gput_any (v : Nat) (w : World) : Calls Tryd.prog 15 #[.agg (cellsOf .u64 2 (wd v))] w fun e w' => e = .returned (.agg (cellsOf .u8 16 (un v))) ∧ w.grownBy w' none := by
  have z16 : (#[.int .u8 0, .int .u8 0, .int .u8 0, .int .u8 0, .int .u8 0, .int .u8 0, .int .u8 0, .int .u8 0, .int .u8 0, .int .u8 0, .int .u8 0, .int .u8 0, .int .u8 0, .int .u8 0, .int .u8 0, .int .u8 0] : Array Value) = cellsOf .u8 16 (fun _ => 0) := rfl
  have hA : Holds ((w.alloc (.cells (cellsOf .u64 2 (wd v)) 41)).alloc (.cells #[.int .u8 0, .int .u8 0, .int .u8 0, .int .u8 0, .int .u8 0, .int .u8 0, .int .u8 0, .int .u8 0, .int .u8 0, .int .u8 0, .int .u8 0, .int .u8 0, .int .u8 0, .int .u8 0, .int .u8 0, .int .u8 0] 24)) w.heap.size 41 .u64 2 (wd v) := (holds_alloc w 41 .u64 2 (wd v) _ rfl).of_block (by rw [heap_alloc_old]; simp)
  have hB : Holds ((w.alloc (.cells (cellsOf .u64 2 (wd v)) 41)).alloc (.cells #[.int .u8 0, .int .u8 0, .int .u8 0, .int .u8 0, .int .u8 0, .int .u8 0, .int .u8 0, .int .u8 0, .int .u8 0, .int .u8 0, .int .u8 0, .int .u8 0, .int .u8 0, .int .u8 0, .int .u8 0, .int .u8 0] 24)) (w.heap.size + 1) 24 .u8 16 (fun _ => 0) := by
    have := holds_alloc (w.alloc (.cells (cellsOf .u64 2 (wd v)) 41)) 24 .u8 16 (fun _ => 0) _ z16
    rwa [World.size_alloc] at this
  have hg := grown_alloc (World.grownBy_alloc w (.cells (cellsOf .u64 2 (wd v)) 41) none) (.cells #[.int .u8 0, .int .u8 0, .int .u8 0, .int .u8 0, .int .u8 0, .int .u8 0, .int .u8 0, .int .u8 0, .int .u8 0, .int .u8 0, .int .u8 0, .int .u8 0, .int .u8 0, .int .u8 0, .int .u8 0, .int .u8 0] 24)
  clear z16
  go_enter Tryd.func15, Tryd.ntmps15
  go_wp2_with fail
  generalize (w.alloc (.cells (cellsOf .u64 2 (wd v)) 41)).alloc (.cells #[.int .u8 0, .int .u8 0, .int .u8 0, .int .u8 0, .int .u8 0, .int .u8 0, .int .u8 0, .int .u8 0, .int .u8 0, .int .u8 0, .int .u8 0, .int .u8 0, .int .u8 0, .int .u8 0, .int .u8 0, .int .u8 0] 24) = w1 at *
  go_loopw [3, 4] (fun _ u4 wr => ∃ i : Nat, i ≤ 16 ∧ u4 = .int .i64 i ∧ w.grownBy wr none ∧ Holds wr w.heap.size 41 .u64 2 (wd v) ∧ Holds wr (w.heap.size + 1) 24 .u8 16 (fun j => if j < i then un v j else 0)) (fun _ u4 _ => 16 - (intOf u4).toNat)
  case atStart => exact ⟨0, by omega, rfl, hg, hA, hB⟩
  case round =>
    clear hg hA hB
    obtain ⟨i, hi, rfl, hgr, hA, hB⟩ := hrel
    by_cases hlt : i < 16
    · have j1 : (i : Int) < 16 := by omega
      obtain ⟨q, hq⟩ : ∃ q, q = i / 8 := ⟨_, rfl⟩
      obtain ⟨r, hr⟩ : ∃ r, r = i % 8 := ⟨_, rfl⟩
      obtain ⟨s, hs⟩ : ∃ s, s = 56 - 8 * (i % 8) := ⟨_, rfl⟩
      have x0 : (i : Int) / 8 = (q : Int) := by omega
      have x1 : (i : Int).tmod 8 = (r : Int) := by rw [Int.tmod_eq_emod_of_nonneg (by omega)]; omega
      have x2 : (i : Int) % 8 = (r : Int) := by omega
      obtain ⟨p, hp⟩ : ∃ p, p = 8 * r := ⟨_, rfl⟩
      have x3 : 8 * (r : Int) = (p : Int) := by omega
      have x4 : 56 - (p : Int) = (s : Int) := by omega
      have k2 : (r : Int) < 8 := by omega
      have k3 : (p : Int) ≤ 56 := by omega
      have k0 : (q : Int) < 2 := by omega
      have k1 : (s : Int) < 64 := by omega
      have w3 : IntKind.i64.wrap (p : Int) = (p : Int) := by rw [IntKind.wrap_i64]; omega
      have w4 : IntKind.i64.wrap (s : Int) = (s : Int) := by rw [IntKind.wrap_i64]; omega
      have c0 := hA.cell q (by omega)
      have c1 := hB.cell i hlt
      have f1 := hB.frozen i
      have hval := put_word v i
      rw [← hs, ← hq] at hval
      obtain ⟨u, hu⟩ : ∃ u, u = un v i := ⟨_, rfl⟩
      have HA : Hid (Holds (wr.setCell ⟨w.heap.size + 1, i, none⟩ (.int .u8 (u : Nat))) w.heap.size 41 .u64 2 (wd v)) := Lib.hid (hA.setOther _ _ (by show w.heap.size ≠ w.heap.size + 1; omega))
      have HB : Hid (Holds (wr.setCell ⟨w.heap.size + 1, i, none⟩ (.int .u8 (u : Nat))) (w.heap.size + 1) 24 .u8 16 (fun j => if j < i + 1 then un v j else 0)) := Lib.hid ((hB.set i u).congr (fun j hj => by
        by_cases e : j = i
        · subst e; rw [upd_same, if_pos (by omega), hu]
        · rw [upd_other _ _ _ _ e]
          by_cases e2 : j < i
          · rw [if_pos e2, if_pos (by omega)]
          · rw [if_neg e2, if_neg (by omega)]))
      have HG : Hid (w.grownBy (wr.setCell ⟨w.heap.size + 1, i, none⟩ (.int .u8 (u : Nat))) none) := Lib.hid (grown_setCell_new hgr ⟨w.heap.size + 1, i, none⟩ (.int .u8 (u : Nat)) (Or.inl (by simp)))
      rw [← hu] at hval
      generalize wd v q = x at *
      have HV : Hid ((x : Int) / 2 ^ s % 256 = (u : Int)) := Lib.hid (by
        rw [← hval]
        have e : ((2 : Int) ^ s) = ((2 ^ s : Nat) : Int) := by simp
        rw [e]
        generalize 2 ^ s = z
        rw [← Int.natCast_ediv]
        generalize x / z = y
        omega)
      clear hq hr hs hu hp hval hgr hA hB hi
      go_wp2_with fail
      rw [HV.out]
      exact ⟨⟨i + 1, by omega, by go_num, HG.out, HA.out, HB.out⟩, by simp [intOf]; omega⟩
    · obtain rfl : i = 16 := by omega
      have hB4 : Holds wr (w.heap.size + 1) 24 .u8 16 (un v) := hB.congr (fun j hj => by rw [if_pos hj])
      clear hlt hi hB
      go_wp2_with (first
        | refine wpList_load_row rfl 24 (.tmp 2) rfl (w.heap.size + 1) rfl 24 _ (0, 0) (.array 16 5) hB4.block (by kernel_rfl) rfl (by rw [cellsOf_size]; kernel_rfl) ?_
        | refine wpList_store_row rfl 24 (.tmp 2) (.tmp 20) rfl (w.heap.size + 1) _ rfl rfl 24 _ hB4.block (by rw [cellsOf_size]; kernel_rfl) rfl (cellsOf_all _ _ _) ?_)
      exact bodyPost_ret (v := .agg (cellsOf .u8 16 (un v))) (results_cell_row rfl _ _ (w.heap.size + 1) 24 _ (0, 0) (.array 16 5) rfl (hB4.setRow .u8 16 (un v)).block (by kernel_rfl) rfl (by rw [cellsOf_size]; kernel_rfl)) rfl ⟨rfl, grown_setRow_new hgr _ _ (Or.inl (by omega))⟩

theorem two_words (v : Nat) : cellsOf .u64 2 (wd v) = #[.int .u64 (wd v 0), .int .u64 (wd v 1)] := rfl

theorem gplus_any (a b : Nat) (w : World) : Calls Tryd.prog 27 #[.agg (cellsOf .u64 2 (wd a)), .agg (cellsOf .u64 2 (wd b))] w fun e w' => e = .returned (.agg (cellsOf .u64 2 (wd (a ^^^ b)))) ∧ w.grownBy w' none := by
  have h0 := bits_xor_u64 (wd a 0) (wd b 0) (wd_lt _ _) (wd_lt _ _)
  have h1 := bits_xor_u64 (wd a 1) (wd b 1) (wd_lt _ _) (wd_lt _ _)
  rw [← wd_xor] at h0 h1
  have HB0 := Lib.hid h0
  have HB1 := Lib.hid h1
  clear h0 h1
  simp only [two_words]
  generalize wd (a ^^^ b) 0 = c0 at *
  generalize wd (a ^^^ b) 1 = c1 at *
  generalize wd a 0 = a0 at *
  generalize wd a 1 = a1 at *
  generalize wd b 0 = b0 at *
  generalize wd b 1 = b1 at *
  go_enter Tryd.func27, Tryd.ntmps27
  go_wp2_with fail
  simp only [HB0.out, HB1.out]
  have hb := heap_alloc_new ((w.alloc (.cells #[.int .u64 (a0 : Nat), .int .u64 (a1 : Nat)] 41)).alloc (.cells #[.int .u64 (b0 : Nat), .int .u64 (b1 : Nat)] 41)) (.cells #[.int .u64 (c0 : Nat), .int .u64 (c1 : Nat)] 41)
  rw [World.size_alloc, World.size_alloc] at hb
  exact bodyPost_ret (v := .agg #[.int .u64 (c0 : Nat), .int .u64 (c1 : Nat)]) (results_cell_row rfl _ _ (w.heap.size + 1 + 1) 41 _ (0, 0) (.array 2 39) rfl hb (by kernel_rfl) rfl rfl) rfl ⟨rfl, grown_alloc (grown_alloc (World.grownBy_alloc w _ none) _) _⟩

theorem gtimes_any (a b : Nat) (w : World) (hb : b < 2 ^ 128) : Calls Tryd.prog 28 #[.agg (cellsOf .u64 2 (wd a)), .agg (cellsOf .u64 2 (wd b))] w fun e w' => e = .returned (.agg (cellsOf .u64 2 (wd (gMul a b)))) ∧ w.grownBy w' none := by
  simp only [two_words]
  go_enter Tryd.func28, Tryd.ntmps28
  go_wp2_with fail
  have hB := heap_alloc_new ((w.alloc (.cells #[.int .u64 (wd a 0), .int .u64 (wd a 1)] 41)).alloc (.cells #[.int .u64 (wd b 0), .int .u64 (wd b 1)] 41)) (.cells #[.int .u64 0, .int .u64 0] 41)
  rw [World.size_alloc, World.size_alloc] at hB
  have hgr := grown_alloc (grown_alloc (World.grownBy_alloc w (.cells #[.int .u64 (wd a 0), .int .u64 (wd a 1)] 41) none) (.cells #[.int .u64 (wd b 0), .int .u64 (wd b 1)] 41)) (.cells #[.int .u64 0, .int .u64 0] 41)
  have hA := heap_alloc_new w (.cells #[.int .u64 (wd a 0), .int .u64 (wd a 1)] 41)
  go_quiet (fail)
  go_wp2_with fail
  generalize hw1 : World.drewN _ nq = w1
  replace hB : w1.heap[w.heap.size + 1 + 1]? = some (.cells #[.int .u64 0, .int .u64 0] 41) := by rw [← hw1]; exact hB
  replace hgr : w.grownBy w1 none := by rw [← hw1]; exact grown_drewN hgr nq
  have HB := Lib.hid hB
  have HG := Lib.hid hgr
  clear hB hgr hA hw1
  go_loop [5, 6, 7, 8, 18] (fun u5 u6 u7 u8 u18 => ∃ i : Nat, i ≤ 2 ∧ u18 = .int .i64 i ∧ u5 = .int .u64 (wd (gSum a b (64 * i)) 0) ∧ u6 = .int .u64 (wd (gSum a b (64 * i)) 1) ∧ u7 = .int .u64 (wd (gPw b (64 * i)) 0) ∧ u8 = .int .u64 (wd (gPw b (64 * i)) 1)) (fun _ _ _ _ u18 => 2 - (intOf u18).toNat)
  case atStart => exact ⟨0, by omega, rfl, by rw [Nat.mul_zero]; rw [show gSum a b 0 = 0 from rfl, wd_zero]; rfl, by rw [Nat.mul_zero, show gSum a b 0 = 0 from rfl, wd_zero]; rfl, rfl, rfl⟩
  case round =>
    obtain ⟨i, hi, rfl, rfl, rfl, rfl, rfl⟩ := hrel
    by_cases hlt : i < 2
    · have j1 : (i : Int) < 2 := by omega
      have hix := run_indexOf (Q := Tryd.prog) (T := 41) (E := 39) (n := 2) (by kernel_rfl) (fun _ => by kernel_rfl) (fun _ => by kernel_rfl) #[.int .u64 (wd a 0), .int .u64 (wd a 1)] i i rfl (.int .u64 (wreg a i 0 : Nat)) hlt (by rw [wreg_zero]; exact cellsOf_get .u64 2 (wd a) i hlt)
      have Hlt := Lib.hid hlt
      clear hlt hi
      go_wp2_with fail
      go_loop [5, 6, 7, 8, 10, 21] (fun u5 u6 u7 u8 u10 u21 => ∃ k : Nat, k ≤ 64 ∧ u21 = .int .i64 k ∧ u5 = .int .u64 (wd (gSum a b (64 * i + k)) 0) ∧ u6 = .int .u64 (wd (gSum a b (64 * i + k)) 1) ∧ u7 = .int .u64 (wd (gPw b (64 * i + k)) 0) ∧ u8 = .int .u64 (wd (gPw b (64 * i + k)) 1) ∧ u10 = .int .u64 (wreg a i k : Nat)) (fun _ _ _ _ _ u21 => 64 - (intOf u21).toNat)
      case atStart => exact ⟨0, by omega, rfl, rfl, rfl, rfl, rfl, rfl⟩
      case round =>
        clear hix
        obtain ⟨k, hk, rfl, rfl, rfl, rfl, rfl, rfl⟩ := hrel
        by_cases hlk : k < 64
        · have j2 : (k : Int) < 64 := by omega
          have H0 := Lib.hid (step_sum a b i k 0 hlk)
          have H1 := Lib.hid (step_sum a b i k 1 hlk)
          have H2 := Lib.hid (step_X0 (gPw b (64 * i + k)))
          have H3 := Lib.hid (step_X1 (gPw b (64 * i + k)))
          have H4 := Lib.hid (step_next a i k hlk)
          have e1 : gX (gPw b (64 * i + k)) = gPw b (64 * i + (k + 1)) := rfl
          rw [e1] at H2 H3
          have hj : k + 1 ≤ 64 := hlk
          clear e1
          generalize wreg a i k = R at *
          generalize gPw b (64 * i + k) = P at *
          generalize gSum a b (64 * i + k) = S at *
          generalize wd P 0 = P0 at *
          generalize wd P 1 = P1 at *
          generalize wd S 0 = S0 at *
          generalize wd S 1 = S1 at *
          have Hj := Lib.hid hj
          clear hk hlk hj
          go_wp2_with fail
          simp only [H0.out, H1.out, H2.out, H3.out, H4.out]
          exact ⟨⟨k + 1, Hj.out, by go_num, rfl, rfl, rfl, rfl, rfl⟩, by simp [intOf]; omega⟩
        · obtain rfl : k = 64 := by omega
          clear hk hlk
          generalize hS : gSum a b (64 * i + 64) = S at *
          generalize hP : gPw b (64 * i + 64) = P at *
          have HS := Lib.hid hS
          have HP := Lib.hid hP
          clear hS hP
          go_wp2_with fail
          have e : 64 * (i + 1) = 64 * i + 64 := by omega
          exact ⟨⟨i + 1, Hlt.out, by go_num, by rw [e, HS.out], by rw [e, HS.out], by rw [e, HP.out], by rw [e, HP.out]⟩, by simp [intOf]; omega⟩
    · obtain rfl : i = 2 := by omega
      have e0 : wd (gSum a b (64 * 2)) 0 = wd (gMul a b) 0 := wd_mul a b hb 0
      have e1 : wd (gSum a b (64 * 2)) 1 = wd (gMul a b) 1 := wd_mul a b hb 1
      rw [e0, e1]
      obtain ⟨c0, hc0⟩ : ∃ c, c = wd (gMul a b) 0 := ⟨_, rfl⟩
      obtain ⟨c1, hc1⟩ : ∃ c, c = wd (gMul a b) 1 := ⟨_, rfl⟩
      rw [← hc0, ← hc1]
      have HC0 := Lib.hid hc0
      have HC1 := Lib.hid hc1
      have hB := HB.out
      have hB2 : (w1.setRow (w.heap.size + 1 + 1) #[.int .u64 (c0 : Nat), .int .u64 (c1 : Nat)]).heap[w.heap.size + 1 + 1]? = some (.cells #[.int .u64 (c0 : Nat), .int .u64 (c1 : Nat)] 41) := setRow_heap w1 _ _ _ _ (0, 0) hB
      have hg2 := grown_setRow_new HG.out (w.heap.size + 1 + 1) #[.int .u64 (c0 : Nat), .int .u64 (c1 : Nat)] (Or.inl (by omega))
      clear hlt hi e0 e1 hc0 hc1
      go_wp2_with (refine wpList_store_row rfl 41 (.tmp 4) (.tmp 55) rfl (w.heap.size + 1 + 1) _ rfl rfl 41 _ hB (by kernel_rfl) rfl (by kernel_rfl) ?_)
      exact bodyPost_ret (v := .agg #[.int .u64 (c0 : Nat), .int .u64 (c1 : Nat)]) (results_cell_row rfl _ _ (w.heap.size + 1 + 1) 41 _ (0, 0) (.array 2 39) rfl hB2 (by kernel_rfl) rfl rfl) rfl ⟨by rw [HC0.out, HC1.out], hg2⟩

end Go.Proofs.YtlfopcigbgfnlaaDoor
