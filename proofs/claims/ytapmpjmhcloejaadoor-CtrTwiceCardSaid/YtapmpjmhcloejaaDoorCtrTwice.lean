/-
  The walk of 'CtrTwice'.
-/
import Derived.Test.YtapmpjmhcloejaaDoorKnown04
import Derived.Test.YtapmpjmhcloejaaDoorOrd2
namespace Go.Proofs.YtapmpjmhcloejaaDoor
open Go.RowKit

set_option maxRecDepth 100000
set_option maxHeartbeats 2000000

theorem cturn_enters (args : Array Value) (w : World) : (callFunc 8 args).run Tryd.prog w = .ok (.enter 8 args) w :=
  enters_of Tryd.func8 (by kernel_rfl) rfl args w

/-- Three texts in a slice of their own: what is ahead of a cut, nothing, what is behind it. -/
theorem texts3 (w : World) (a a' : Option Addr) (n c n' c' : Nat) (f : Nat → Nat) (B : Nat) (hB : B = w.heap.size) (hc : n ≤ c) (hc' : n' ≤ c') (h : Rd w w.heap.size a n f) (h' : Rd w w.heap.size a' n' (fun i => f (n + i))) :
    Texts (w.alloc (.cells #[.slice a n c, .slice none 0 0, .slice a' n' c'] 22)) (w.alloc (.cells #[.slice a n c, .slice none 0 0, .slice a' n' c'] 22)).heap.size (some ⟨B, 0, none⟩) 3 (fun j => if j = 0 then 0 else if j = 3 then n + n' else n) f := by
  subst hB
  have ga := World.grownBy_alloc w (.cells #[.slice a n c, .slice none 0 0, .slice a' n' c'] 22) none
  have ba := heap_alloc_new w (.cells #[.slice a n c, .slice none 0 0, .slice a' n' c'] 22)
  have za : (w.alloc (.cells #[.slice a n c, .slice none 0 0, .slice a' n' c'] 22)).heap.size = w.heap.size + 1 := by simp
  refine ⟨rfl, fun _ => ⟨w.heap.size, 0, rfl, by omega, fun j hj => ?_⟩⟩
  obtain rfl | rfl | rfl : j = 0 ∨ j = 1 ∨ j = 2 := by omega
  · refine ⟨a, n, c, by rw [cell_of_row _ _ _ _ _ _ ba]; rfl, hc, by simp, fun h0 => ?_⟩
    obtain ⟨tb, o, h1, h2, h3⟩ := h.ex h0
    exact ⟨tb, o, h1, by omega, fun i hi => by rw [ga.cell (h3 i hi) (by simp)]; simp⟩
  · exact ⟨none, 0, 0, by rw [cell_of_row _ _ _ _ _ _ ba]; rfl, Nat.le_refl _, by simp, fun h0 => absurd h0 (by omega)⟩
  · refine ⟨a', n', c', by rw [cell_of_row _ _ _ _ _ _ ba]; rfl, hc', by simp, fun h0 => ?_⟩
    obtain ⟨tb, o, h1, h2, h3⟩ := h'.ex h0
    exact ⟨tb, o, h1, by omega, fun i hi => by rw [ga.cell (h3 i hi) (by simp)]; simp⟩

/-- What is ahead of a cut, and behind it, of bytes that can be read. -/
theorem run_ahead {w : World} {B : Nat} {a : Option Addr} {n c : Nat} {f : Nat → Nat} (_ : Rd w B a n f) (hn : n ≤ c) (k : Nat) (hk : k ≤ n) :
    (∀ w', (Instr.slice 22 (.slice a n c) none (some (.int .i64 (k : Int))) none).run Tryd.prog w' = .ok (.slice a k c) w') ∧ (∀ w', (Instr.sliceAt 22 (.slice a n c) none (some (.int .i64 (k : Int))) none).run Tryd.prog w' = .ok (.slice a k c) w') := by
  have hT : Tryd.prog.underlying 22 = some (.slice (Tryd.prog.elem 22)) := by kernel_rfl
  have hE : ∀ w, (sizeOf (Tryd.prog.elem 22)).run Tryd.prog w = .ok 1 w := fun _ => by kernel_rfl
  have hs : ∀ w', (Instr.slice 22 (.slice a n c) none (some (.int .i64 (k : Int))) none).run Tryd.prog w' = .ok (.slice a k c) w' := fun w' => by
    rw [run_slice_h w' 22 a n c hT .i64 k (by omega) (by omega), hE w']
    cases a <;> simp [Result.andThen, sliced, Addr.add]
  exact ⟨hs, fun w' => by rw [run_sliceAt_slice w' _ _ _ _ _ hT]; exact hs w'⟩
theorem run_behind {w : World} {B : Nat} {a : Option Addr} {n c : Nat} {f : Nat → Nat} (h : Rd w B a n f) (hn : n ≤ c) (k : Nat) (hk : k ≤ n) :
    ∃ a', (∀ w', (Instr.slice 22 (.slice a n c) (some (.int .i64 (k : Int))) none none).run Tryd.prog w' = .ok (.slice a' (n - k) (c - k)) w') ∧ (∀ w', (Instr.sliceAt 22 (.slice a n c) (some (.int .i64 (k : Int))) none none).run Tryd.prog w' = .ok (.slice a' (n - k) (c - k)) w') ∧ ∀ w B, Rd w B a n f → Rd w B a' (n - k) (fun i => f (k + i)) := by
  have hT : Tryd.prog.underlying 22 = some (.slice (Tryd.prog.elem 22)) := by kernel_rfl
  have hE : ∀ w, (sizeOf (Tryd.prog.elem 22)).run Tryd.prog w = .ok 1 w := fun _ => by kernel_rfl
  have hs : ∀ w', (Instr.slice 22 (.slice a n c) (some (.int .i64 (k : Int))) none none).run Tryd.prog w' = .ok (.slice (if c = k then a else a.map (·.add (k * 1))) (n - k) (c - k)) w' := fun w' => by
    rw [run_slice_l w' 22 a n c hT .i64 k (by omega) (by omega), hE w']
    simp [Result.andThen, sliced]
  refine ⟨_, hs, fun w' => by rw [run_sliceAt_slice w' _ _ _ _ _ hT]; exact hs w', fun w B h => ⟨fun h0 => ?_⟩⟩
  obtain ⟨tb, o, rfl, h2, h3⟩ := h.ex (by omega)
  refine ⟨tb, o + k, ?_, h2, fun i hi => ?_⟩
  · rw [if_neg (by omega)]
    simp [Addr.add]
  · rw [Nat.add_assoc]
    exact h3 (k + i) (by omega)

/-- Turn of one text, and of three. -/
structure Gives (W : World) (n : Nat) (G : Nat → Nat) (e : Ending) (w' : World) : Prop where
  ex : ∃ a c, e = .returned (.tuple #[.slice a n c, .int .i64 0]) ∧ n ≤ c ∧ Rd w' w'.heap.size a n G ∧ W.grownBy w' none
theorem Gives.of {W W1 : World} {n : Nat} {G : Nat → Nat} {e : Ending} {w' : World} (h : Turned W1 n G e w') (hg : W.grownBy W1 none) : Gives W n G e w' := by
  obtain ⟨v, h1, h2, h3⟩ := h
  obtain ⟨a, c, rfl, h4, h5⟩ := h2.rd
  exact ⟨a, c, h1, h4, h5, grown_trans hg h3⟩
theorem turn_one (m R n c : Nat) (a : Option Addr) (C W f g : Nat → Nat) (w : World) (hW : ∀ i, W i < 256) (hf : ∀ i, f i < 256) (hg : ∀ i, g i < 256) (h1 : 1 ≤ R) (hR : R ≤ 14) (hCc : Cols (4 * (R + 1)) W C)
    (hC : Ciph w m R C) (hL : LaidS w 0) (hR1 : Rd w w.heap.size a n g) (hc : n ≤ c) (hn : n ≤ 2 ^ 40) :
    Calls Tryd.prog 8 #[.pointer (some ⟨m, 0, none⟩), .agg (cellsOf .u8 16 f), .slice (some ⟨w.heap.size, 0, none⟩) 1 1] (w.alloc (.cells #[.slice a n c] 22)) (Gives w n (turnF R W f g)) := by
  have ga := World.grownBy_alloc w (.cells #[.slice a n c] 22) none
  have hm : m < w.heap.size := World.block_lt_of_cell? w _ hC.rounds
  have hs : 0 < w.heap.size := World.block_lt_of_cell? w _ (hL.at_ 0 (by decide))
  have hT := texts1 w a n c g _ rfl hc hR1
  exact (turn_any m R 1 1 _ C W f _ g _ hW hf hg h1 hR hCc (hC.grown ga (by simp)) (hL.grown ga (by simp)) (by simp <;> omega) (by simp <;> omega) hT (by decide) hn).mono fun e w' h => Gives.of h ga
theorem turn_three (m R n c n' c' : Nat) (a a' : Option Addr) (C W f g : Nat → Nat) (w : World) (hW : ∀ i, W i < 256) (hf : ∀ i, f i < 256) (hg : ∀ i, g i < 256) (h1 : 1 ≤ R) (hR : R ≤ 14) (hCc : Cols (4 * (R + 1)) W C)
    (hC : Ciph w m R C) (hL : LaidS w 0) (hR1 : Rd w w.heap.size a n g) (hc : n ≤ c) (hR2 : Rd w w.heap.size a' n' (fun i => g (n + i))) (hc' : n' ≤ c') (hn : n + n' ≤ 2 ^ 40) :
    Calls Tryd.prog 8 #[.pointer (some ⟨m, 0, none⟩), .agg (cellsOf .u8 16 f), .slice (some ⟨w.heap.size, 0, none⟩) 3 3] (w.alloc (.cells #[.slice a n c, .slice none 0 0, .slice a' n' c'] 22)) (Gives w (n + n') (turnF R W f g)) := by
  have ga := World.grownBy_alloc w (.cells #[.slice a n c, .slice none 0 0, .slice a' n' c'] 22) none
  have hm : m < w.heap.size := World.block_lt_of_cell? w _ hC.rounds
  have hs : 0 < w.heap.size := World.block_lt_of_cell? w _ (hL.at_ 0 (by decide))
  have hT := texts3 w a a' n c n' c' g _ rfl hc hc' hR1 hR2
  exact (turn_any m R 3 3 _ C W f _ g _ hW hf hg h1 hR hCc (hC.grown ga (by simp)) (hL.grown ga (by simp)) (by simp <;> omega) (by simp <;> omega) hT (by decide) hn).mono fun e w' h => Gives.of h ga

theorem ctrTwice_any (n c nb cb : Nat) (x : Int) (ka ba : Option Addr) (fk ff F : Nat → Nat) (w : World) (hL : LaidS w 0) (hsz : 0 < w.heap.size) (hR : Rd w w.heap.size ka n fk)
    (hRb : Rd w w.heap.size ba nb F) (hcb : nb ≤ cb) (hk : ∀ i, fk i < 256) (hf : ∀ i, ff i < 256) (hF : ∀ i, F i < 256) :
    Calls Tryd.prog 4 #[.slice ka n c, .agg (cellsOf .u8 16 ff), .slice ba nb cb, .int .i64 x] w (SaysYes w) := by
  have hB0 : Holds (w.alloc (.cells (cellsOf .u8 16 ff) 23)) w.heap.size 23 .u8 16 ff := holds_alloc w 23 .u8 16 ff _ rfl
  have g0 := World.grownBy_alloc w (.cells (cellsOf .u8 16 ff) 23) none
  have hK := known04 (w.alloc (.cells (cellsOf .u8 16 ff) 23)) (hL.grown g0 (by simp)) (by simp)
  have HK := Lib.hid hK
  have HB0 := Lib.hid hB0
  have G0 := Lib.hid g0
  clear hK hB0 g0
  go_enter Tryd.func4, Tryd.ntmps4
  go_wp2_with fail
  go_at_call 5
  with_reducible refine (HK.out).mono ?_
  rintro e w1 ⟨⟨rfl, g1⟩⟩
  have g01 := grown_trans G0.out g1
  have hB1 := HB0.out.grown g1 (by simp)
  by_cases h16 : n = 16 ∨ n = 32
  · have hcase : (((n : Int) != 16) = false) ∨ (((n : Int) != 16) = true ∧ ((n : Int) != 32) = false) := by
      by_cases h : n = 16
      · left; rw [bne_eq_false_iff_eq]; omega
      · right; exact ⟨by rw [bne_iff_ne]; omega, by rw [bne_eq_false_iff_eq]; omega⟩
    by_cases hbad : 2000 < nb ∨ x < 0 ∨ (nb : Int) < x
    · go_upto_region 3 with fail
      go_cut [44] (fun s44 wx => s44 = .bool true ∧ wx = w1)
      case first =>
        clear h16 hB1 hR hL HB0 HK hRb hcb
        by_cases b1 : 2000 < nb
        · have i1 : (2000 : Int) < nb := by omega
          clear hbad b1
          rcases hcase with h | ⟨h1, h2⟩
          · go_wp2_with fail
            go_meet
            case rel => exact ⟨rfl, rfl⟩
          · go_wp2_with fail
            go_meet
            case rel => exact ⟨rfl, rfl⟩
        · have i1 : (nb : Int) ≤ 2000 := by omega
          by_cases b2 : x < 0
          · clear hbad b1
            rcases hcase with h | ⟨h1, h2⟩
            · go_wp2_with fail
              go_meet
              case rel => exact ⟨rfl, rfl⟩
            · go_wp2_with fail
              go_meet
              case rel => exact ⟨rfl, rfl⟩
          · have i2 : 0 ≤ x := by omega
            have i3 : (nb : Int) < x := by omega
            clear hbad b1 b2
            rcases hcase with h | ⟨h1, h2⟩
            · go_wp2_with fail
              go_meet
              case rel => exact ⟨rfl, rfl⟩
            · go_wp2_with fail
              go_meet
              case rel => exact ⟨rfl, rfl⟩
      case rest =>
        obtain ⟨rfl, rfl⟩ := hcut
        clear hcase hbad h16
        go_wp2_with fail
        go_ret
        exact ⟨⟨rfl, g01⟩⟩
    · obtain ⟨k, rfl⟩ : ∃ k : Nat, x = k := ⟨x.toNat, by omega⟩
      have i1 : (nb : Int) ≤ 2000 := by omega
      have i2 : (k : Int) ≤ nb := by omega
      clear hbad
      go_upto_region 3 with fail
      go_cut [44] (fun s44 wx => s44 = .bool false ∧ wx = w1)
      case first =>
        clear h16 hB1 hR hL HB0 HK hRb hcb
        rcases hcase with h | ⟨h1, h2⟩
        · go_wp2_with fail
          go_meet
          case rel => exact ⟨congrArg Value.bool (by simp; omega), rfl⟩
        · go_wp2_with fail
          go_meet
          case rel => exact ⟨congrArg Value.bool (by simp; omega), rfl⟩
      case rest =>
        obtain ⟨rfl, rfl⟩ := hcut
        clear hcase
        obtain ⟨N, hN, hLN⟩ : ∃ N, (N = 4 ∨ N = 8) ∧ n = 4 * N := by
          rcases h16 with h | h
          · exact ⟨4, Or.inl rfl, h⟩
          · exact ⟨8, Or.inr rfl, h⟩
        have hN6 : N + 6 ≤ 14 := by omega
        have hN1 : 1 ≤ N + 6 := by omega
        have n1 := new_ok N n c ka fk wc (hL.grown g01 (by simp)) hN hLN (hR.up (Nat.le_refl _) g01) hk (by have := g01.size; omega)
        have N1 := Lib.hid n1
        have hkw : ∀ i, keyW N fk i < 256 := keyW_lt N fk hk
        have hsb := run_string cb (hRb.up (Nat.le_refl _) g01) hF
        clear n1 h16 hN hLN hsb
        go_wp2_with fail
        go_at_call 7
        with_reducible refine (N1.out).mono ?_
        rintro e w2 ⟨m, C, rfl, hm, g2, hC, hc⟩
        have g02 := grown_trans g01 g2
        have hB2 := hB1.grown g2 (by simp)
        have hb2 := hB2.block
        have hRb2 := hRb.up (Nat.le_refl _) g02
        have hsb := run_string cb hRb2 hF
        have hT1 := turn_one m (N + 6) nb cb ba C (keyW N fk) ff F w2 hkw hf hF hN1 hN6 hc hC (hL.grown g02 (by simp)) hRb2 hcb (by omega)
        obtain ⟨G, hG⟩ : ∃ G, G = turnF (N + 6) (keyW N fk) ff F := ⟨_, rfl⟩
        rw [← hG] at hT1
        obtain ⟨P, hP⟩ : ∃ P, P = strOf nb F := ⟨_, rfl⟩
        rw [← hP] at hsb
        have HT1 := Lib.hid hT1
        have HG := Lib.hid hG
        have HP := Lib.hid hP
        have HRb := Lib.hid hRb
        clear hT1 hG N1 hB1 g2 hP hRb2 hRb
        go_wp2_with (refine wpList_load_row rfl 23 (.tmp 5) rfl w.heap.size rfl 23 _ (0, 0) (.array 16 5) hb2 (by kernel_rfl) rfl (by rw [cellsOf_size]; kernel_rfl) ?_)
        go_at_call 8
        with_reducible refine (HT1.out).mono ?_
        rintro e w3 ⟨xa, xc, rfl, hxc, hRx, g3⟩
        have g03 := grown_trans g02 g3
        have hC3 := hC.grown g3 (by simp)
        have hB3 := hB2.grown g3 (by simp)
        have hb3 := hB3.block
        have HGl : Hid (∀ i, G i < 256) := Lib.hid (fun i => by rw [HG.out]; exact turnF_lt _ _ _ _ hkw hf hF i)
        have hT2 := turn_one m (N + 6) nb xc xa C (keyW N fk) ff G w3 hkw hf HGl.out hN1 hN6 hc hC3 (hL.grown g03 (by simp)) hRx hxc (by omega)
        have HGG : Hid (∀ i, turnF (N + 6) (keyW N fk) ff G i = F i) := Lib.hid (fun i => by rw [HG.out]; exact turnF_twice _ _ _ _ i)
        have HT2 := Lib.hid hT2
        have HRx := Lib.hid hRx
        clear hT2 hRx hB2 hb2 hC g3 hsb HT1 hm
        go_wp2_with (refine wpList_load_row rfl 23 (.tmp 5) rfl w.heap.size rfl 23 _ (0, 0) (.array 16 5) hb3 (by kernel_rfl) rfl (by rw [cellsOf_size]; kernel_rfl) ?_)
        go_at_call 8
        with_reducible refine (HT2.out).mono ?_
        rintro e w4 ⟨ya, yc, rfl, hyc, hRy, g4⟩
        have g04 := grown_trans g03 g4
        have hC4 := hC3.grown g4 (by simp)
        have hB4 := hB3.grown g4 (by simp)
        have hRb4 := HRb.out.up (Nat.le_refl _) g04
        have hRx4 := HRx.out.up (Nat.le_refl _) g4
        obtain ⟨hA1, hA2⟩ := run_ahead hRb4 hcb k (by omega)
        obtain ⟨b', hD1, hD2, hD3⟩ := run_behind hRb4 hcb k (by omega)
        have HY : Hid (Rd w4 w4.heap.size ya nb F) := Lib.hid (hRy.congr (fun i _ => HGG.out i))
        have HRx4 := Lib.hid hRx4
        have HRb4 := Lib.hid hRb4
        have HC4 := Lib.hid hC4
        have HB4 := Lib.hid hB4
        have HD3 := Lib.hid hD3
        have HG4 := Lib.hid g04
        have HT3 : Hid (∀ W, w4.grownBy W none → Calls Tryd.prog 8 #[.pointer (some ⟨m, 0, none⟩), .agg (cellsOf .u8 16 ff), .slice (some ⟨W.heap.size, 0, none⟩) 3 3] (W.alloc (.cells #[.slice ba k cb, .slice none 0 0, .slice b' (nb - k) (cb - k)] 22)) (Gives W nb G)) := Lib.hid (fun W hW => by
          have hRw := HRb4.out.up (Nat.le_refl _) hW
          have := turn_three m (N + 6) k cb (nb - k) (cb - k) ba b' C (keyW N fk) ff F W hkw hf hF hN1 hN6 hc (HC4.out.grown hW (by simp)) (hL.grown (grown_trans HG4.out hW) (by simp)) ⟨fun h0 => by
            obtain ⟨tb, o, q1, q2, q3⟩ := hRw.ex (by omega)
            exact ⟨tb, o, q1, q2, fun i hi => q3 i (by omega)⟩⟩ (by omega) (HD3.out _ _ hRw) (by omega) (by omega)
          rw [show k + (nb - k) = nb by omega, ← HG.out] at this
          exact this)
        clear hRy hRb4 hRx4 hC4 hB4 hD3 g04 hB3 hb3 hC3 HT2 g4 g03
        go_wp2_with fail
        refine wp_region_held (S := fun W => w4.grownBy W none) (by kernel_rfl) ?_
        change wpAnyH _ _ _ _ _ 15 #[false, false, false, false, false, false, false, false, false, false, false, false, false, false, false] _ (World.drew _)
        have hS0 : w4.grownBy (World.drew w4) none := grown_drew (grown_refl w4 none)
        generalize World.drew w4 = W0 at *
        refine wpAnyH_takeD (some 71) (i := 0) (v := .pointer (some ⟨m, 0, none⟩)) rfl rfl (by kernel_rfl) (by kernel_rfl) (by kernel_rfl) (fun _ _ _ h => h) (Or.inl ⟨rfl, fun _ _ => rfl⟩) hS0 ?_
        simp only [Act.put, List.setIfInBounds_toArray, List.set_cons_succ, List.set_cons_zero]
        refine wpAnyH_takeD (some 72) (i := 1) (v := .agg (cellsOf .u8 16 ff)) rfl rfl (by kernel_rfl) (by kernel_rfl) (by kernel_rfl) (fun _ _ _ h => h) (Or.inl ⟨rfl, fun W hW => run_blk (HB4.out.grown hW (by simp)) rfl rfl⟩) hS0 ?_
        simp only [Act.put, List.setIfInBounds_toArray, List.set_cons_succ, List.set_cons_zero]
        refine wpAnyH_takeD (some 73) (i := 2) (v := .slice ba nb cb) rfl rfl (by kernel_rfl) (by kernel_rfl) (by kernel_rfl) (fun _ _ _ h => h) (Or.inl ⟨rfl, fun _ _ => rfl⟩) hS0 ?_
        simp only [Act.put, List.setIfInBounds_toArray, List.set_cons_succ, List.set_cons_zero]
        refine wpAnyH_takeD (some 74) (i := 3) (v := .int .i64 (k : Nat)) rfl rfl (by kernel_rfl) (by kernel_rfl) (by kernel_rfl) (fun _ _ _ h => h) (Or.inl ⟨rfl, fun _ _ => rfl⟩) hS0 ?_
        simp only [Act.put, List.setIfInBounds_toArray, List.set_cons_succ, List.set_cons_zero]
        refine wpAnyH_takeD (some 75) (i := 4) (v := .slice ba k cb) rfl rfl (by kernel_rfl) (by kernel_rfl) (by kernel_rfl) (fun _ _ _ h => h) (Or.inl ⟨rfl, fun W _ => by unfold execOp; have := hA1 W; have := hA2 W; go_simp⟩) hS0 ?_
        simp only [Act.put, List.setIfInBounds_toArray, List.set_cons_succ, List.set_cons_zero]
        refine wpAnyH_takeD (some 76) (i := 5) (v := .slice ba nb cb) rfl rfl (by kernel_rfl) (by kernel_rfl) (by kernel_rfl) (fun _ _ _ h => h) (Or.inl ⟨rfl, fun _ _ => rfl⟩) hS0 ?_
        simp only [Act.put, List.setIfInBounds_toArray, List.set_cons_succ, List.set_cons_zero]
        refine wpAnyH_takeD (some 77) (i := 6) (v := .int .i64 (k : Nat)) rfl rfl (by kernel_rfl) (by kernel_rfl) (by kernel_rfl) (fun _ _ _ h => h) (Or.inl ⟨rfl, fun _ _ => rfl⟩) hS0 ?_
        simp only [Act.put, List.setIfInBounds_toArray, List.set_cons_succ, List.set_cons_zero]
        refine wpAnyH_takeD (some 78) (i := 7) (v := .slice b' (nb - k) (cb - k)) rfl rfl (by kernel_rfl) (by kernel_rfl) (by kernel_rfl) (fun _ _ _ h => h) (Or.inl ⟨rfl, fun W _ => by unfold execOp; have := hD1 W; have := hD2 W; go_simp⟩) hS0 ?_
        simp only [Act.put, List.setIfInBounds_toArray, List.set_cons_succ, List.set_cons_zero]
        refine wpAnyH_yieldD (i := 8) (v := .slice (some ⟨W0.heap.size, 0, none⟩) 3 3) (w' := W0.alloc (.cells #[.slice ba k cb, .slice none 0 0, .slice b' (nb - k) (cb - k)] 22)) (some 79) (by kernel_rfl) rfl rfl rfl (by unfold execOp; go_simp) (grown_trans hS0 (World.grownBy_alloc W0 _ none)) ?_
        simp only [Act.put, List.setIfInBounds_toArray, List.set_cons_succ, List.set_cons_zero]
        refine wpAnyH_callD (i := 9) (R := fun v w' => ∃ a c, v = .tuple #[.slice a nb c, .int .i64 0] ∧ nb ≤ c ∧ Rd w' w'.heap.size a nb G ∧ W0.grownBy w' none) (some 80) 8 #[.pointer (some ⟨m, 0, none⟩), .agg (cellsOf .u8 16 ff), .slice (some ⟨W0.heap.size, 0, none⟩) 3 3] (by kernel_rfl) rfl rfl rfl (exec_fn3 _ _ _ _ _ _ _ rfl rfl rfl rfl) cturn_enters ((HT3.out W0 hS0).mono fun e w' h => by
            obtain ⟨a, c, h1, h2, h3, h4⟩ := h
            exact ⟨_, h1, a, c, rfl, h2, h3, h4⟩) ?_
        rintro v W1 ⟨za, zc, rfl, hzc, hRz, gz⟩
        have hS1 := grown_trans hS0 gz
        refine ⟨hS1, ?_⟩
        simp only [Act.put, List.setIfInBounds_toArray, List.set_cons_succ, List.set_cons_zero]
        refine wpAnyH_takeD (some 70) (i := 10) (v := .tuple #[.slice za nb zc, .int .i64 0]) rfl rfl (by kernel_rfl) (by kernel_rfl) (by kernel_rfl) (fun _ _ _ h => h) (Or.inl ⟨rfl, fun _ _ => rfl⟩) hS1 ?_
        simp only [Act.put, List.setIfInBounds_toArray, List.set_cons_succ, List.set_cons_zero]
        refine wpAnyH_takeD (some 81) (i := 11) (v := .slice za nb zc) rfl rfl (by kernel_rfl) (by kernel_rfl) (by kernel_rfl) (fun _ _ _ h => h) (Or.inl ⟨rfl, fun W _ => by go_simp⟩) hS1 ?_
        simp only [Act.put, List.setIfInBounds_toArray, List.set_cons_succ, List.set_cons_zero]
        refine wpAnyH_takeD (some 82) (i := 12) (v := .int .i64 0) rfl rfl (by kernel_rfl) (by kernel_rfl) (by kernel_rfl) (fun _ _ _ h => h) (Or.inl ⟨rfl, fun W _ => by go_simp⟩) hS1 ?_
        simp only [Act.put, List.setIfInBounds_toArray, List.set_cons_succ, List.set_cons_zero]
        refine wpAnyH_takeD (some 15) (i := 13) (v := .slice za nb zc) rfl rfl (by kernel_rfl) (by kernel_rfl) (by kernel_rfl) (fun _ _ _ h => h) (Or.inl ⟨rfl, fun _ _ => rfl⟩) hS1 ?_
        simp only [Act.put, List.setIfInBounds_toArray, List.set_cons_succ, List.set_cons_zero]
        refine wpAnyH_takeD (some 16) (i := 14) (v := .int .i64 0) rfl rfl (by kernel_rfl) (by kernel_rfl) (by kernel_rfl) (fun _ _ _ h => h) (Or.inl ⟨rfl, fun _ _ => rfl⟩) hS1 ?_
        simp only [Act.put, List.setIfInBounds_toArray, List.set_cons_succ, List.set_cons_zero]
        refine wpAnyH_done (by kernel_rfl) ?_ _
        obtain ⟨X, hX⟩ : ∃ X, X = strOf nb G := ⟨_, rfl⟩
        have sy := run_string yc (HY.out.up (Nat.le_refl _) hS1) hF
        have sb := run_string cb (HRb4.out.up (Nat.le_refl _) hS1) hF
        have sx := run_string xc (HRx4.out.up (Nat.le_refl _) hS1) HGl.out
        have sz := run_string zc hRz HGl.out
        rw [← HP.out] at sy sb
        rw [← hX] at sx sz
        have hB5 := HB4.out.grown hS1 (by simp)
        have hb5 := hB5.block
        have hbn := heap_alloc_new W1 (.cells #[.int .u8 0, .int .u8 0, .int .u8 0, .int .u8 0, .int .u8 0, .int .u8 0, .int .u8 0, .int .u8 0, .int .u8 0, .int .u8 0, .int .u8 0, .int .u8 0, .int .u8 0, .int .u8 0, .int .u8 0, .int .u8 0] 23)
        have hN0 : Holds (W1.alloc (.cells #[.int .u8 0, .int .u8 0, .int .u8 0, .int .u8 0, .int .u8 0, .int .u8 0, .int .u8 0, .int .u8 0, .int .u8 0, .int .u8 0, .int .u8 0, .int .u8 0, .int .u8 0, .int .u8 0, .int .u8 0, .int .u8 0] 23)) W1.heap.size 23 .u8 16 (fun _ => 0) := holds_alloc W1 23 .u8 16 (fun _ => 0) _ zero16
        have hH0 := hN0.setRow .u8 16 ff
        have g56 := grown_setRow_new (World.grownBy_alloc W1 (.cells #[.int .u8 0, .int .u8 0, .int .u8 0, .int .u8 0, .int .u8 0, .int .u8 0, .int .u8 0, .int .u8 0, .int .u8 0, .int .u8 0, .int .u8 0, .int .u8 0, .int .u8 0, .int .u8 0, .int .u8 0, .int .u8 0] 23) none) W1.heap.size (cellsOf .u8 16 ff) (Or.inl (Nat.le_refl _))
        have g46 := grown_trans hS1 g56
        obtain ⟨q, hq⟩ : ∃ q, q = k / 16 := ⟨_, rfl⟩
        have q1 : (k : Int) / 16 = (q : Int) := by omega
        have q2 : (k : Int).tdiv 16 = (q : Int) := by rw [Int.tdiv_eq_ediv_of_nonneg (by omega)]; omega
        have Hq := Lib.hid hq
        have HH0 := Lib.hid hH0
        have G46 := Lib.hid g46
        have G56 := Lib.hid g56
        have G46a := Lib.hid hS1
        clear hX hB5 hN0 hH0 g56 g46 hS1 hq hRz gz hS0 hA1 hA2 hD1 hD2 HT3
        go_wp2_with (first
          | refine wpList_load_row rfl 23 (.tmp 5) rfl w.heap.size rfl 23 _ (0, 0) (.array 16 5) hb5 (by kernel_rfl) rfl (by rw [cellsOf_size]; kernel_rfl) ?_
          | refine wpList_store_row rfl 23 (.tmp 18) (.tmp 114) rfl W1.heap.size _ rfl rfl 23 _ hbn (by rw [cellsOf_size]; kernel_rfl) rfl (cellsOf_all _ _ _) ?_)
        have hH0 := HH0.out
        have g46 := G46.out
        have g56 := G56.out
        clear HH0 G56 hbn hb5 sy sb sx sz q1 q2
        generalize (W1.alloc (.cells #[.int .u8 0, .int .u8 0, .int .u8 0, .int .u8 0, .int .u8 0, .int .u8 0, .int .u8 0, .int .u8 0, .int .u8 0, .int .u8 0, .int .u8 0, .int .u8 0, .int .u8 0, .int .u8 0, .int .u8 0, .int .u8 0] 23)).setRow W1.heap.size (cellsOf .u8 16 ff) = w6 at *
        go_loopw [116] (fun u116 wr => ∃ j : Nat, j ≤ q ∧ u116 = .int .i64 j ∧ W1.grownBy wr none ∧ Holds wr W1.heap.size 23 .u8 16 (ctrAt ff j)) (fun u116 _ => q - (intOf u116).toNat)
        case atStart => exact ⟨0, Nat.zero_le _, rfl, g56, hH0⟩
        case round =>
          clear hH0 g46 g56
          obtain ⟨j, hj, rfl, hgj, hHj⟩ := hrel
          by_cases hlt : j < q
          · have j1 : (j : Int) < q := by omega
            have j2 : (q : Int) ≤ 2000 := by have := Hq.out; omega
            obtain ⟨t, ht⟩ : ∃ t, t = ctrAt ff j := ⟨_, rfl⟩
            rw [← ht] at hHj
            have hbj := hHj.block
            have hNx := next_any t wr (by rw [ht]; exact ctrAt_lt ff hf j)
            obtain ⟨t', ht'⟩ : ∃ t', t' = nextF t := ⟨_, rfl⟩
            rw [← ht'] at hNx
            have HNx := Lib.hid hNx
            have HT' : Hid (t' = ctrAt ff (j + 1)) := Lib.hid (by rw [ht', ht]; rfl)
            clear hNx ht ht'
            go_wp2_with (refine wpList_load_row rfl 23 (.tmp 18) rfl W1.heap.size rfl 23 _ (0, 0) (.array 16 5) hbj (by kernel_rfl) rfl (by rw [cellsOf_size]; kernel_rfl) ?_)
            go_at_call 9
            with_reducible refine (HNx.out).mono ?_
            rintro e wn ⟨rfl, gn⟩
            have hHn := hHj.grown gn (by simp)
            have hbn := hHn.block
            have HH := Lib.hid (hHn.setRow .u8 16 t')
            have HGj := Lib.hid (grown_setRow_new (grown_trans hgj gn) W1.heap.size (cellsOf .u8 16 t') (Or.inl (Nat.le_refl _)))
            clear hHn hHj hgj gn hbj
            go_wp2_with (refine wpList_store_row rfl 23 (.tmp 18) (.tmp 119) rfl W1.heap.size _ rfl rfl 23 _ hbn (by rw [cellsOf_size]; kernel_rfl) rfl (cellsOf_all _ _ _) ?_)
            first
              | exact ⟨⟨j + 1, by omega, by go_num, HGj.out, by rw [← HT'.out]; exact HH.out⟩, by simp [intOf]; omega⟩
              | (go_roundw
                 case rel => first
                   | exact ⟨j + 1, by omega, by go_num, HGj.out, by rw [← HT'.out]; exact HH.out⟩
                   | ((repeat apply Exists.intro); exact ⟨⟨j + 1, by omega, by go_num, HGj.out, by rw [← HT'.out]; exact HH.out⟩, rfl⟩)
                 case measure => simp [intOf]; omega)
          · obtain rfl : j = q := by omega
            have j0 : (j : Int) ≤ j := by omega
            obtain ⟨t, ht⟩ : ∃ t, t = ctrAt ff j := ⟨_, rfl⟩
            rw [← ht] at hHj
            have htl : ∀ i, t i < 256 := fun i => by rw [ht]; exact ctrAt_lt ff hf j i
            have hkq : 16 * j ≤ nb := by have := Hq.out; omega
            obtain ⟨d, hd⟩ : ∃ d, d = 16 * j := ⟨_, rfl⟩
            have d1 : 16 * (j : Int) = (d : Int) := by omega
            have d2 : IntKind.i64.wrap (d : Int) = (d : Int) := by rw [IntKind.wrap_i64]; omega
            rw [← hd] at hkq
            have g4r := grown_trans G46a.out hgj
            have hRb6 := HRb4.out.up (Nat.le_refl _) g4r
            have hRx6 := HRx4.out.up (Nat.le_refl _) g4r
            obtain ⟨b2, hE1, hE2, hE3⟩ := run_behind hRb6 hcb d hkq
            obtain ⟨x2, hX1, hX2, hX3⟩ := run_behind hRx6 hxc d hkq
            have HG6 := Lib.hid (grown_trans HG4.out g4r)
            have HRb6 := Lib.hid hRb6
            have HRx6 := Lib.hid hRx6
            have HC6 := Lib.hid (HC4.out.grown g4r (by simp))
            have HH6 := Lib.hid hHj
            have HE3 := Lib.hid hE3
            have HX3 := Lib.hid hX3
            have HT6 : Hid (∀ W, wr.grownBy W none → Calls Tryd.prog 8 #[.pointer (some ⟨m, 0, none⟩), .agg (cellsOf .u8 16 t), .slice (some ⟨W.heap.size, 0, none⟩) 1 1] (W.alloc (.cells #[.slice b2 (nb - d) (cb - d)] 22)) (Gives W (nb - d) (fun i => G (d + i)))) := Lib.hid (fun W hW => by
              have h1 := turn_one m (N + 6) (nb - d) (cb - d) b2 C (keyW N fk) t (fun i => F (d + i)) W hkw htl (fun _ => hF _) hN1 hN6 hc (HC6.out.grown hW (by simp)) (hL.grown (grown_trans HG6.out hW) (by simp)) (HE3.out _ _ (HRb6.out.up (Nat.le_refl _) hW)) (by omega) (by omega)
              have e1 : turnF (N + 6) (keyW N fk) t (fun i => F (d + i)) = fun i => G (d + i) := by
                funext i
                rw [ht, hd, HG.out]
                exact turnF_from _ _ _ _ j i
              rw [e1] at h1
              exact h1)
            have HGd : Hid (∀ i, (fun i => G (d + i)) i < 256) := Lib.hid (fun i => HGl.out _)
            obtain ⟨Gd, hGd⟩ : ∃ Gd : Nat → Nat, Gd = fun i => G (d + i) := ⟨_, rfl⟩
            rw [← hGd] at HT6 HGd HX3
            obtain ⟨nd, hnd⟩ : ∃ nd, nd = nb - d := ⟨_, rfl⟩
            rw [← hnd] at hE1 hE2 hX1 hX2 HT6 HX3
            clear hgj hHj hE3 hX3 hRb6 hRx6 g4r ht hd hlt hj hGd hnd hkq Hq
            go_wp2_with fail
            refine wp_region_held (S := fun W => wr.grownBy W none) (by kernel_rfl) ?_
            change wpAnyH _ _ _ _ _ 13 #[false, false, false, false, false, false, false, false, false, false, false, false, false] _ (World.drew _)
            have hS0 : wr.grownBy (World.drew wr) none := grown_drew (grown_refl wr none)
            generalize World.drew wr = W0 at *
            refine wpAnyH_takeD (some 122) (i := 0) (v := .pointer (some ⟨m, 0, none⟩)) rfl rfl (by kernel_rfl) (by kernel_rfl) (by kernel_rfl) (fun _ _ _ h => h) (Or.inl ⟨rfl, fun _ _ => rfl⟩) hS0 ?_
            simp only [Act.put, List.setIfInBounds_toArray, List.set_cons_succ, List.set_cons_zero]
            refine wpAnyH_takeD (some 123) (i := 1) (v := .agg (cellsOf .u8 16 t)) rfl rfl (by kernel_rfl) (by kernel_rfl) (by kernel_rfl) (fun _ _ _ h => h) (Or.inl ⟨rfl, fun W hW => run_blk (HH6.out.grown hW (by simp)) rfl rfl⟩) hS0 ?_
            simp only [Act.put, List.setIfInBounds_toArray, List.set_cons_succ, List.set_cons_zero]
            refine wpAnyH_takeD (some 124) (i := 2) (v := .slice ba nb cb) rfl rfl (by kernel_rfl) (by kernel_rfl) (by kernel_rfl) (fun _ _ _ h => h) (Or.inl ⟨rfl, fun _ _ => rfl⟩) hS0 ?_
            simp only [Act.put, List.setIfInBounds_toArray, List.set_cons_succ, List.set_cons_zero]
            refine wpAnyH_takeD (some 125) (i := 3) (v := .int .i64 (j : Nat)) rfl rfl (by kernel_rfl) (by kernel_rfl) (by kernel_rfl) (fun _ _ _ h => h) (Or.inl ⟨rfl, fun _ _ => rfl⟩) hS0 ?_
            simp only [Act.put, List.setIfInBounds_toArray, List.set_cons_succ, List.set_cons_zero]
            refine wpAnyH_takeD (some 126) (i := 4) (v := .int .i64 (d : Nat)) rfl rfl (by kernel_rfl) (by kernel_rfl) (by kernel_rfl) (fun _ _ _ h => h) (Or.inl ⟨rfl, fun W _ => by go_simp⟩) hS0 ?_
            simp only [Act.put, List.setIfInBounds_toArray, List.set_cons_succ, List.set_cons_zero]
            refine wpAnyH_takeD (some 127) (i := 5) (v := .slice b2 nd (cb - d)) rfl rfl (by kernel_rfl) (by kernel_rfl) (by kernel_rfl) (fun _ _ _ h => h) (Or.inl ⟨rfl, fun W _ => by unfold execOp; have := hE1 W; have := hE2 W; go_simp⟩) hS0 ?_
            simp only [Act.put, List.setIfInBounds_toArray, List.set_cons_succ, List.set_cons_zero]
            refine wpAnyH_yieldD (i := 6) (v := .slice (some ⟨W0.heap.size, 0, none⟩) 1 1) (w' := W0.alloc (.cells #[.slice b2 nd (cb - d)] 22)) (some 128) (by kernel_rfl) rfl rfl rfl (by unfold execOp; go_simp) (grown_trans hS0 (World.grownBy_alloc W0 _ none)) ?_
            simp only [Act.put, List.setIfInBounds_toArray, List.set_cons_succ, List.set_cons_zero]
            refine wpAnyH_callD (i := 7) (R := fun v w' => ∃ a c, v = .tuple #[.slice a nd c, .int .i64 0] ∧ nd ≤ c ∧ Rd w' w'.heap.size a nd Gd ∧ W0.grownBy w' none) (some 129) 8 #[.pointer (some ⟨m, 0, none⟩), .agg (cellsOf .u8 16 t), .slice (some ⟨W0.heap.size, 0, none⟩) 1 1] (by kernel_rfl) rfl rfl rfl (exec_fn3 _ _ _ _ _ _ _ rfl rfl rfl rfl) cturn_enters ((HT6.out W0 hS0).mono fun e w' h => by
                obtain ⟨a, c, h1, h2, h3, h4⟩ := h
                exact ⟨_, h1, a, c, rfl, h2, h3, h4⟩) ?_
            rintro v W7 ⟨ra, rc, rfl, hrc, hRr, gr⟩
            have hS1 := grown_trans hS0 gr
            refine ⟨hS1, ?_⟩
            simp only [Act.put, List.setIfInBounds_toArray, List.set_cons_succ, List.set_cons_zero]
            refine wpAnyH_takeD (some 121) (i := 8) (v := .tuple #[.slice ra nd rc, .int .i64 0]) rfl rfl (by kernel_rfl) (by kernel_rfl) (by kernel_rfl) (fun _ _ _ h => h) (Or.inl ⟨rfl, fun _ _ => rfl⟩) hS1 ?_
            simp only [Act.put, List.setIfInBounds_toArray, List.set_cons_succ, List.set_cons_zero]
            refine wpAnyH_takeD (some 130) (i := 9) (v := .slice ra nd rc) rfl rfl (by kernel_rfl) (by kernel_rfl) (by kernel_rfl) (fun _ _ _ h => h) (Or.inl ⟨rfl, fun W _ => by go_simp⟩) hS1 ?_
            simp only [Act.put, List.setIfInBounds_toArray, List.set_cons_succ, List.set_cons_zero]
            refine wpAnyH_takeD (some 131) (i := 10) (v := .int .i64 0) rfl rfl (by kernel_rfl) (by kernel_rfl) (by kernel_rfl) (fun _ _ _ h => h) (Or.inl ⟨rfl, fun W _ => by go_simp⟩) hS1 ?_
            simp only [Act.put, List.setIfInBounds_toArray, List.set_cons_succ, List.set_cons_zero]
            refine wpAnyH_takeD (some 19) (i := 11) (v := .slice ra nd rc) rfl rfl (by kernel_rfl) (by kernel_rfl) (by kernel_rfl) (fun _ _ _ h => h) (Or.inl ⟨rfl, fun _ _ => rfl⟩) hS1 ?_
            simp only [Act.put, List.setIfInBounds_toArray, List.set_cons_succ, List.set_cons_zero]
            refine wpAnyH_takeD (some 10) (i := 12) (v := .int .i64 0) rfl rfl (by kernel_rfl) (by kernel_rfl) (by kernel_rfl) (fun _ _ _ h => h) (Or.inl ⟨rfl, fun _ _ => rfl⟩) hS1 ?_
            simp only [Act.put, List.setIfInBounds_toArray, List.set_cons_succ, List.set_cons_zero]
            refine wpAnyH_done (by kernel_rfl) ?_ _
            have HRr := Lib.hid hRr
            have HS1 := Lib.hid hS1
            have HRx7 := Lib.hid (HX3.out _ _ (HRx6.out.up (Nat.le_refl _) hS1))
            clear hRr hS1 gr hS0 hE1 hE2
            go_upto_region 21 with fail
            refine wp_region_quiet (C := fun W => W7.grownBy W none) (by kernel_rfl) (by kernel_rfl) (grown_drew (grown_refl W7 none)) ?_
            refine wpQ_val (some 132) (v := .int .i64 0) rfl rfl (fun _ _ => rfl) ?_
            simp only [Act.put, List.setIfInBounds_toArray, List.set_cons_succ, List.set_cons_zero]
            refine wpQ_val (some 133) (v := .bool true) rfl rfl (fun _ _ => by go_simp) ?_
            simp only [Act.put, List.setIfInBounds_toArray, List.set_cons_succ, List.set_cons_zero]
            refine wpQ_val (some 134) (v := .bool true) rfl rfl (fun _ _ => rfl) ?_
            simp only [Act.put, List.setIfInBounds_toArray, List.set_cons_succ, List.set_cons_zero]
            refine wpQ_val (some 135) (v := .slice ra nd rc) rfl rfl (fun _ _ => rfl) ?_
            simp only [Act.put, List.setIfInBounds_toArray, List.set_cons_succ, List.set_cons_zero]
            refine wpQ_val (some 136) (v := .string (strOf nd Gd)) rfl rfl (fun W hW => run_convS 135 rfl rfl (HRr.out.up (Nat.le_refl _) hW) HGd.out) ?_
            simp only [Act.put, List.setIfInBounds_toArray, List.set_cons_succ, List.set_cons_zero]
            refine wpQ_val (some 137) (v := .slice xa nb xc) rfl rfl (fun _ _ => rfl) ?_
            simp only [Act.put, List.setIfInBounds_toArray, List.set_cons_succ, List.set_cons_zero]
            refine wpQ_val (some 138) (v := .int .i64 (j : Nat)) rfl rfl (fun _ _ => rfl) ?_
            simp only [Act.put, List.setIfInBounds_toArray, List.set_cons_succ, List.set_cons_zero]
            refine wpQ_val (some 139) (v := .int .i64 (d : Nat)) rfl rfl (fun _ _ => by go_simp) ?_
            simp only [Act.put, List.setIfInBounds_toArray, List.set_cons_succ, List.set_cons_zero]
            refine wpQ_val (some 140) (v := .slice x2 nd (xc - d)) rfl rfl (fun W _ => by unfold execOp; have := hX1 W; have := hX2 W; go_simp) ?_
            simp only [Act.put, List.setIfInBounds_toArray, List.set_cons_succ, List.set_cons_zero]
            refine wpQ_val (some 141) (v := .string (strOf nd Gd)) rfl rfl (fun W hW => run_convS 140 rfl rfl (HRx7.out.up (Nat.le_refl _) hW) HGd.out) ?_
            simp only [Act.put, List.setIfInBounds_toArray, List.set_cons_succ, List.set_cons_zero]
            refine wpQ_val (some 142) (v := .bool true) rfl rfl (fun _ _ => by go_simp) ?_
            simp only [Act.put, List.setIfInBounds_toArray, List.set_cons_succ, List.set_cons_zero]
            refine wpQ_val (some 143) (v := .bool true) rfl rfl (fun _ _ => rfl) ?_
            simp only [Act.put, List.setIfInBounds_toArray, List.set_cons_succ, List.set_cons_zero]
            refine wpQ_val (some 8) (v := .bool true) rfl rfl (fun _ _ => rfl) ?_
            simp only [Act.put, List.setIfInBounds_toArray, List.set_cons_succ, List.set_cons_zero]
            refine wpQuiet_nil ?_
            intro W hW
            go_wp2_with fail
            go_ret
            exact ⟨⟨rfl, grown_trans (grown_trans HG6.out HS1.out) hW⟩⟩
  · have b1 : ((n : Int) != 16) = true := by rw [bne_iff_ne]; omega
    have b2 : ((n : Int) != 32) = true := by rw [bne_iff_ne]; omega
    clear h16 hB1 hR hL HB0 HK hRb hcb
    go_wp2_with fail
    go_ret
    exact ⟨⟨rfl, g01⟩⟩

end Go.Proofs.YtapmpjmhcloejaaDoor
