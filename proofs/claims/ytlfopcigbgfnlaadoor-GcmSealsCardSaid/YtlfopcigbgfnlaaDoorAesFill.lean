/-
  A cipher in memory; the columns behind a key's own.
-/
import Derived.Test.YtlfopcigbgfnlaaDoorAesSpec
import Derived.Test.YtlfopcigbgfnlaaDoorAesLeaf
import Derived.StillTailTactics
namespace Go.Proofs.YtlfopcigbgfnlaaDoor
open Go.RowKit

set_option maxRecDepth 100000
set_option maxHeartbeats 1000000

/-- The cipher at block m: its rounds, its columns. -/
structure Ciph (w : World) (m R : Nat) (C : Nat → Nat) : Prop where
  rounds : w.cell? ⟨m, 0, none⟩ = some (.int .i64 R)
  cols : ∀ j, j < 60 → w.cell? ⟨m, 1 + j, none⟩ = some (.int .u32 (C j))
  free : ∀ j, w.frozen? ⟨m, j, none⟩ = false
  lt : m < w.heap.size
theorem Ciph.of_block {w w' : World} {m R : Nat} {C : Nat → Nat} (h : Ciph w m R C) (e : w'.heap[m]? = w.heap[m]?) (hl : m < w'.heap.size) : Ciph w' m R C :=
  ⟨(World.cell?_of_block (a := ⟨m, 0, none⟩) e).trans h.rounds, fun j hj => (World.cell?_of_block (a := ⟨m, 1 + j, none⟩) e).trans (h.cols j hj), fun j => (World.frozen?_of_block (a := ⟨m, j, none⟩) e).trans (h.free j), hl⟩
theorem Ciph.grown {w w' : World} {m R : Nat} {C : Nat → Nat} (h : Ciph w m R C) {row : Option Nat} (g : w.grownBy w' row) (hr : some m ≠ row) : Ciph w' m R C :=
  h.of_block (g.block m h.lt hr) (Nat.lt_of_lt_of_le h.lt g.size)
theorem Ciph.congr {w : World} {m R : Nat} {C C' : Nat → Nat} (h : Ciph w m R C) (e : ∀ j, j < 60 → C j = C' j) : Ciph w m R C' :=
  { h with cols := fun j hj => by rw [← e j hj]; exact h.cols j hj }
theorem Ciph.set {w : World} {m R : Nat} {C : Nat → Nat} (h : Ciph w m R C) (i v : Nat) (hi : i < 60) : Ciph (w.setCell ⟨m, 1 + i, none⟩ (.int .u32 v)) m R (upd C i v) where
  rounds := cell_set h.rounds (ne_off (by omega))
  cols := fun j hj => by
    by_cases e : j = i
    · subst e; rw [upd_same]; exact World.cell?_setCell_same w _ _ (h.cols j hj)
    · rw [upd_other _ _ _ _ e]; exact cell_set (h.cols j hj) (ne_off (by omega))
  free := fun j => by rw [World.frozen?_setCell]; exact h.free j
  lt := by simpa [World.setCell] using h.lt

/-- The cipher's columns up to the n-th are W's. -/
structure Cols (n : Nat) (W C : Nat → Nat) : Prop where
  eq : ∀ j, j < n → C j = colS W j
theorem Cols.next {n : Nat} {W C : Nat → Nat} (h : Cols n W C) (v : Nat) (hv : v = colS W n) : Cols (n + 1) W (upd C n v) := ⟨fun j hj => by
  by_cases e : j = n
  · subst e; rw [upd_same, hv]
  · rw [upd_other _ _ _ _ e]; exact h.eq j (by omega)⟩

theorem col_next (N : Nat) (key : Nat → Nat) (hk : ∀ i, key i < 256) (i : Nat) (h0 : 0 < N) (hi : N ≤ i) (hi2 : i < N + 52) :
    colS (keyW N key) i = colS (keyW N key) (i - N) ^^^ colS (fun x => kTurn N (keyW N key) i (rc ((i - 1) / N)) (x - 4 * i)) i := by
  rw [Nat.xor_comm]
  unfold colS
  have hW := keyW_lt N key hk
  have hn : ∀ r, r < 4 → keyW N key (4 * i + r) = kTurn N (keyW N key) i (rc ((i - 1) / N)) r ^^^ keyW N key (4 * (i - N) + r) := fun r hr => keyW_next N key i r h0 hi hi2 hr
  have h0' := hn 0 (by decide)
  rw [Nat.add_zero, Nat.add_zero] at h0'
  rw [h0', hn 1 (by decide), hn 2 (by decide), hn 3 (by decide)]
  simp only [show 4 * i - 4 * i = 0 by omega, show 4 * i + 1 - 4 * i = 1 by omega, show 4 * i + 2 - 4 * i = 2 by omega, show 4 * i + 3 - 4 * i = 3 by omega]
  have hl : ∀ r, kTurn N (keyW N key) i (rc ((i - 1) / N)) r < 256 := fun r => by
    unfold kTurn
    split
    · refine xor_lt256 (sB_lt _) ?_
      split
      · exact rc_lt _
      · decide
    · split
      · exact sB_lt _
      · exact hW _
  rw [col_xor _ _ _ _ _ _ _ _ (hl _) (hl _) (hl _) (hW _) (hW _) (hW _)]

/-- What is added to a column, by its place. -/
theorem turn_first (N : Nat) (W : Nat → Nat) (i c : Nat) (h : i % N = 0) :
    colS (fun x => kTurn N W i c (x - 4 * i)) i = col (sB (W (4 * (i - 1) + 1))) (sB (W (4 * (i - 1) + 2))) (sB (W (4 * (i - 1) + 3))) (sB (W (4 * (i - 1)))) ^^^ col c 0 0 0 := by
  rw [col_xor _ _ _ _ _ _ _ _ (sB_lt _) (sB_lt _) (sB_lt _) (by decide) (by decide) (by decide)]
  unfold colS
  simp only [show 4 * i - 4 * i = 0 by omega, show 4 * i + 1 - 4 * i = 1 by omega, show 4 * i + 2 - 4 * i = 2 by omega, show 4 * i + 3 - 4 * i = 3 by omega]
  unfold kTurn
  rw [if_pos h, if_pos h, if_pos h, if_pos h]
  rfl
theorem turn_mid (N : Nat) (W : Nat → Nat) (i c : Nat) (h : i % N ≠ 0) (h8 : N = 8 ∧ i % 8 = 4) :
    colS (fun x => kTurn N W i c (x - 4 * i)) i = col (sB (W (4 * (i - 1)))) (sB (W (4 * (i - 1) + 1))) (sB (W (4 * (i - 1) + 2))) (sB (W (4 * (i - 1) + 3))) := by
  unfold colS
  simp only [show 4 * i - 4 * i = 0 by omega, show 4 * i + 1 - 4 * i = 1 by omega, show 4 * i + 2 - 4 * i = 2 by omega, show 4 * i + 3 - 4 * i = 3 by omega]
  unfold kTurn
  rw [if_neg h, if_neg h, if_neg h, if_neg h, if_pos h8, if_pos h8, if_pos h8, if_pos h8]
  rfl
theorem turn_else (N : Nat) (W : Nat → Nat) (i c : Nat) (h : i % N ≠ 0) (h8 : ¬ (N = 8 ∧ i % 8 = 4)) : colS (fun x => kTurn N W i c (x - 4 * i)) i = colS W (i - 1) := by
  unfold colS
  simp only [show 4 * i - 4 * i = 0 by omega, show 4 * i + 1 - 4 * i = 1 by omega, show 4 * i + 2 - 4 * i = 2 by omega, show 4 * i + 3 - 4 * i = 3 by omega]
  unfold kTurn
  rw [if_neg h, if_neg h, if_neg h, if_neg h, if_neg h8, if_neg h8, if_neg h8, if_neg h8]
  rfl

theorem fill_any (N m : Nat) (key C0 : Nat → Nat) (w : World) (hL : LaidS w 0) (hN : N = 4 ∨ N = 8) (hk : ∀ i, key i < 256) (hC : Ciph w m (N + 6) C0) (hC0 : Cols N (keyW N key) C0) (hm : m ≠ 0) :
    Calls Tryd.prog 30 #[.pointer (some ⟨m, 0, none⟩), .int .i64 N] w fun e w' => e = .returned (.tuple #[]) ∧ w.grownBy w' (some m) ∧ ∃ C, Ciph w' m (N + 6) C ∧ Cols (4 * (N + 7)) (keyW N key) C := by
  have hW := keyW_lt N key hk
  have hnx := fun i h1 h2 => col_next N key hk i (by omega) h1 h2
  have n1 : (4 : Int) ≤ N := by omega
  have n2 : (N : Int) ≤ 8 := by omega
  have c0 : Calls Tryd.prog 29 #[.int .u8 1, .int .u8 0, .int .u8 0, .int .u8 0] w fun e w' => e = .returned (.int .u32 (col 1 0 0 0 : Nat)) ∧ w = w' := column_any 1 0 0 0 w (by decide) (by decide) (by decide) (by decide)
  have HC0 := Lib.hid c0
  have HW := Lib.hid hW
  have HX := Lib.hid hnx
  have HN := Lib.hid hN
  have Hm := Lib.hid hm
  generalize keyW N key = W at *
  clear c0 hW hnx hN hk hm
  go_enter Tryd.func30, Tryd.ntmps30
  go_wp2_with (go_at_call 29; (with_reducible refine (HC0.out).mono ?_); rintro e w' ⟨rfl, rfl⟩)
  go_loopw [4, 5] (fun u4 u5 wr => ∃ (i : Nat) (C : Nat → Nat), N ≤ i ∧ i ≤ 4 * (N + 7) ∧ u5 = .int .i64 i ∧ u4 = .int .u32 (col (rc ((i - 1) / N)) 0 0 0 : Nat) ∧ w.grownBy wr (some m) ∧ Ciph wr m (N + 6) C ∧ Cols i W C) (fun _ u5 _ => 60 - (intOf u5).toNat)
  case atStart =>
    refine ⟨N, C0, Nat.le_refl _, by omega, rfl, ?_, grown_refl w (some m), hC, hC0⟩
    rw [show (N - 1) / N = 0 from Nat.div_eq_of_lt (by omega)]
    rfl
  case round =>
    clear hC hC0
    obtain ⟨i, C, hi1, hi2, rfl, rfl, hgr, hC, hCc⟩ := hrel
    have cr := hC.rounds
    by_cases hlt : i < 4 * (N + 7)
    · have N8 : N ≤ 8 := by omega
      have N4 : 4 ≤ N := by omega
      have j1 : (i : Int) < 4 * (N + 7) := by omega
      have j2 : (4 : Int) ≤ i := by omega
      have j3 : (i : Int) < 60 := by omega
      have j4 : (N : Int) ≤ i := by omega
      have c1 := hC.cols (i - 1) (by omega)
      have c2 := hC.cols (i - N) (by omega)
      have c3 := hC.cols i (by omega)
      have f3 := hC.free (1 + i)
      rw [hCc.eq (i - 1) (by omega)] at c1
      rw [hCc.eq (i - N) (by omega)] at c2
      have hyl : colS W (i - N) < 2 ^ 32 := colS_lt W HW.out _
      have hv := HX.out i hi1 (by omega)
      obtain ⟨r, hr⟩ : ∃ r, r = i % N := ⟨_, rfl⟩
      have er : (i : Int).tmod (N : Int) = (r : Int) := by rw [Int.tmod_eq_emod_of_nonneg (by omega), hr]; norm_cast
      have hLr := hL.grown hgr (by intro e; injection e with e; exact Hm.out e.symm)
      have wi : IntKind.i64.wrap ((i : Int) - 1) = ((i - 1 : Nat) : Int) := by rw [IntKind.wrap_i64]; omega
      have wn : IntKind.i64.wrap ((i : Int) - N) = ((i - N : Nat) : Int) := by rw [IntKind.wrap_i64]; omega
      have wnn : IntKind.i64.wrap ((i - N : Nat) : Int) = ((i - N : Nat) : Int) := by rw [IntKind.wrap_i64]; omega
      have k1 : ((i - N : Nat) : Int) < 60 := by omega
      have k2 : ((i - 1 : Nat) : Int) < 60 := by omega
      have x1 : (i : Int) - 1 = ((i - 1 : Nat) : Int) := by omega
      have x2 : (i : Int) - N = ((i - N : Nat) : Int) := by omega
      have b0 := HW.out (4 * (i - 1))
      have b1 := HW.out (4 * (i - 1) + 1)
      have b2 := HW.out (4 * (i - 1) + 2)
      have b3 := HW.out (4 * (i - 1) + 3)
      have hcs : r = 0 ∨ (r ≠ 0 ∧ r = 4 ∧ N = 8) ∨ (r ≠ 0 ∧ r ≠ 4) := by
        by_cases h : r = 0
        · exact Or.inl h
        · by_cases h4 : r = 4
          · have := Nat.mod_lt i (show 0 < N by omega)
            exact Or.inr (Or.inl ⟨h, h4, by rcases HN.out with h | h <;> omega⟩)
          · exact Or.inr (Or.inr ⟨h, h4⟩)
      have hsame : r ≠ 0 → (i + 1 - 1) / N = (i - 1) / N := fun h => by
        obtain ⟨p, hp⟩ : ∃ p, p = i / N := ⟨_, rfl⟩
        have hi' : i = N * p + r := by rw [hp, hr]; exact (Nat.div_add_mod i N).symm
        have hrl : r < N := by rw [hr]; exact Nat.mod_lt _ (by omega)
        rw [show i + 1 - 1 = i by omega, ← hp, hi', show N * p + r - 1 = N * p + (r - 1) by omega, Nat.mul_add_div (by omega), Nat.div_eq_of_lt (by omega), Nat.add_zero]
      have Hsame := Lib.hid hsame
      clear hsame
      rcases hcs with hr0 | ⟨hr0, h4, hN8⟩ | ⟨hr0, h4⟩
      case' inl =>
        have e0 : ((r : Int) == 0) = true := by simp [hr0]
        have ht : Calls Tryd.prog 45 #[.int .u32 (colS W (i - 1) : Nat), .int .i64 1] wr fun e w' => e = .returned (.int .u32 (col (W (4 * (i - 1) + 1)) (W (4 * (i - 1) + 2)) (W (4 * (i - 1) + 3)) (W (4 * (i - 1))) : Nat)) ∧ wr = w' := by
          have := turned_any (colS W (i - 1)) 1 wr (colS_lt W HW.out _) (by decide) (by decide)
          unfold colS at this
          rw [rotc1 _ _ _ _ b0 b1 b2 b3] at this
          exact this
        have hs := substituted_any _ _ _ _ wr hLr b1 b2 b3 b0
        have hv2 := turn_first N W i (rc ((i - 1) / N)) (by omega)
        have hd := doubled_any (col (rc ((i - 1) / N)) 0 0 0) wr (col_lt _ _ _ _ (rc_lt _) (by decide) (by decide) (by decide))
        rw [dbl_col _ _ _ _ (rc_lt _) (by decide) (by decide) (by decide)] at hd
        have hq : rc ((i + 1 - 1) / N) = xt (rc ((i - 1) / N)) := by
          have : (i + 1 - 1) / N = (i - 1) / N + 1 := by
            obtain ⟨q, hq⟩ : ∃ q, q = i / N := ⟨_, rfl⟩
            have hi' : i = N * q := by rw [hq]; have := Nat.div_add_mod i N; rw [← hr, hr0] at this; omega
            have hq0 : 0 < q := by
              rcases Nat.eq_zero_or_pos q with h | h
              · rw [h] at hi'; omega
              · exact h
            rw [show i + 1 - 1 = i by omega, ← hq]
            have : (i - 1) / N = q - 1 := by
              obtain ⟨p, rfl⟩ : ∃ p, q = p + 1 := ⟨q - 1, by omega⟩
              rw [hi', show p + 1 - 1 = p by omega]
              have e : N * (p + 1) - 1 = N * p + (N - 1) := by rw [Nat.mul_succ]; omega
              rw [e, Nat.mul_add_div (by omega), Nat.div_eq_of_lt (by omega), Nat.add_zero]
            omega
          rw [this]; rfl
        have hqc : col (rc ((i + 1 - 1) / N)) 0 0 0 = col (xt (rc ((i - 1) / N))) (xt 0) (xt 0) (xt 0) := by rw [hq]; rfl
        rw [← hqc] at hd
        rw [hv2] at hv
        have hzl : col (sB (W (4 * (i - 1) + 1))) (sB (W (4 * (i - 1) + 2))) (sB (W (4 * (i - 1) + 3))) (sB (W (4 * (i - 1)))) < 2 ^ 32 := col_lt _ _ _ _ (sB_lt _) (sB_lt _) (sB_lt _) (sB_lt _)
        have hal : col (rc ((i - 1) / N)) 0 0 0 < 2 ^ 32 := col_lt _ _ _ _ (rc_lt _) (by decide) (by decide) (by decide)
        obtain ⟨A', hA'⟩ : ∃ A', A' = col (rc ((i + 1 - 1) / N)) 0 0 0 := ⟨_, rfl⟩
        rw [← hA'] at hd
        have HA := Lib.hid hA'
        clear hA' hqc
        generalize col (rc ((i - 1) / N)) 0 0 0 = A at *
        generalize col (sB (W (4 * (i - 1) + 1))) (sB (W (4 * (i - 1) + 2))) (sB (W (4 * (i - 1) + 3))) (sB (W (4 * (i - 1)))) = z1 at *
        generalize col (W (4 * (i - 1) + 1)) (W (4 * (i - 1) + 2)) (W (4 * (i - 1) + 3)) (W (4 * (i - 1))) = t1 at *
        obtain ⟨z2, hz2⟩ : ∃ z2, z2 = z1 ^^^ A := ⟨_, rfl⟩
        have ez : bits .xor .u32 (z1 : Int) (A : Int) = (z2 : Int) := by rw [hz2]; exact bits_xor_u32 _ _ hzl hal
        have hzl2 : z2 < 2 ^ 32 := by rw [hz2]; exact Nat.xor_lt_two_pow hzl hal
        rw [← hz2] at hv
        have ey : bits .xor .u32 ((colS W (i - N) : Nat) : Int) (z2 : Int) = ((colS W i : Nat) : Int) := by rw [hv]; exact bits_xor_u32 _ _ hyl hzl2
        have HT := Lib.hid ht
        have HS := Lib.hid hs
        have HD := Lib.hid hd
        generalize colS W (i - N) = y at *
        generalize colS W (i - 1) = t0 at *
        have Hr0 := Lib.hid hr0
        have Hr := Lib.hid hr
        obtain ⟨v, hvv⟩ : ∃ v, v = colS W i := ⟨_, rfl⟩
        rw [← hvv] at ey
        have HV := Lib.hid hvv
        clear hr0 ht hs hd hq hv2 hv hz2 hzl hal hzl2 hyl hr hvv
        go_wp2_with (first
          | (go_at_call 45; (with_reducible refine (HT.out).mono ?_); rintro e w' ⟨rfl, rfl⟩)
          | (go_at_call 44; (with_reducible refine (HS.out).mono ?_); rintro e w' ⟨rfl, rfl⟩)
          | (go_at_call 46; (with_reducible refine (HD.out).mono ?_); rintro e w' ⟨rfl, rfl⟩))
      case' inr.inl =>
        have e0 : ((r : Int) == 0) = false := by simp [hr0]
        have e4 : ((r : Int) == 4) = true := by simp [h4]
        have hs := substituted_any _ _ _ _ wr hLr b0 b1 b2 b3
        have hv2 := turn_mid N W i (rc ((i - 1) / N)) (by omega) ⟨hN8, by rw [← hN8, ← hr, h4]⟩
        rw [hv2] at hv
        have hzl : col (sB (W (4 * (i - 1)))) (sB (W (4 * (i - 1) + 1))) (sB (W (4 * (i - 1) + 2))) (sB (W (4 * (i - 1) + 3))) < 2 ^ 32 := col_lt _ _ _ _ (sB_lt _) (sB_lt _) (sB_lt _) (sB_lt _)
        have HS : Hid (Calls Tryd.prog 44 #[.int .u32 (colS W (i - 1) : Nat)] wr fun e w' => e = .returned (.int .u32 (col (sB (W (4 * (i - 1)))) (sB (W (4 * (i - 1) + 1))) (sB (W (4 * (i - 1) + 2))) (sB (W (4 * (i - 1) + 3))) : Nat)) ∧ wr = w') := Lib.hid hs
        generalize col (sB (W (4 * (i - 1)))) (sB (W (4 * (i - 1) + 1))) (sB (W (4 * (i - 1) + 2))) (sB (W (4 * (i - 1) + 3))) = z2 at *
        have ey : bits .xor .u32 ((colS W (i - N) : Nat) : Int) (z2 : Int) = ((colS W i : Nat) : Int) := by rw [hv]; exact bits_xor_u32 _ _ hyl hzl
        obtain ⟨A', hA'⟩ : ∃ A', A' = col (rc ((i + 1 - 1) / N)) 0 0 0 := ⟨_, rfl⟩
        have hA2 : col (rc ((i - 1) / N)) 0 0 0 = A' := by rw [hA', Hsame.out hr0]
        rw [hA2]
        have HA := Lib.hid hA'
        generalize colS W (i - N) = y at *
        generalize colS W (i - 1) = t0 at *
        obtain ⟨v, hvv⟩ : ∃ v, v = colS W i := ⟨_, rfl⟩
        rw [← hvv] at ey
        have HV := Lib.hid hvv
        have Hh8 := Lib.hid hN8
        clear hr0 hs hv2 hv hzl hyl hr hvv hA' hA2 h4 hN8
        go_wp2_with (go_at_call 44; (with_reducible refine (HS.out).mono ?_); rintro e w' ⟨rfl, rfl⟩)
      case' inr.inr =>
        have e0 : ((r : Int) == 0) = false := by simp [hr0]
        have e4 : ((r : Int) == 4) = false := by simp; omega
        have hv2 := turn_else N W i (rc ((i - 1) / N)) (by omega) (fun h => h4 (by have h2 := h.2; rw [hr, h.1]; exact h2))
        rw [hv2] at hv
        have hzl : colS W (i - 1) < 2 ^ 32 := colS_lt W HW.out _
        obtain ⟨z2, hz2⟩ : ∃ z2, z2 = colS W (i - 1) := ⟨_, rfl⟩
        rw [← hz2] at c1 hv hzl
        have ey : bits .xor .u32 ((colS W (i - N) : Nat) : Int) (z2 : Int) = ((colS W i : Nat) : Int) := by rw [hv]; exact bits_xor_u32 _ _ hyl hzl
        obtain ⟨A', hA'⟩ : ∃ A', A' = col (rc ((i + 1 - 1) / N)) 0 0 0 := ⟨_, rfl⟩
        have hA2 : col (rc ((i - 1) / N)) 0 0 0 = A' := by rw [hA', Hsame.out hr0]
        rw [hA2]
        have HA := Lib.hid hA'
        generalize colS W (i - N) = y at *
        obtain ⟨v, hvv⟩ : ∃ v, v = colS W i := ⟨_, rfl⟩
        rw [← hvv] at ey
        have HV := Lib.hid hvv
        clear hr0 hv2 hv hzl hyl hr hvv hA' hA2 h4 hz2
        go_wp2_with fail
      all_goals
        have c2d : wr.drew.cell? ⟨m, 1 + (i - N), none⟩ = some (.int .u32 (y : Nat)) := c2
        have c3d : wr.drew.cell? ⟨m, 1 + i, none⟩ = some (.int .u32 (C i : Nat)) := c3
        have f3d : wr.drew.frozen? ⟨m, 1 + i, none⟩ = false := f3
        have hCd := hC.of_block (w' := wr.drew) rfl hC.lt
        have hgd := grown_drew hgr
        refine wp_region_still_tail 15 (by kernel_rfl) (by kernel_rfl) ?_
        change wpStill _ _ wr.drew (fun a' => wpList _ _ _ _ a' wr.drew) _ _
        generalize wr.drew = w2 at *
        simp only [List.take_succ_cons, List.take_zero, List.drop_succ_cons, List.drop_zero]
        repeat still_step
        refine wpStill_nil ?_
        have HF : Hid (Ciph (w2.setCell ⟨m, 1 + i, none⟩ (.int .u32 (v : Nat))) m (N + 6) (upd C i v)) := Lib.hid (hCd.set i v (by omega))
        have HG : Hid (w.grownBy (w2.setCell ⟨m, 1 + i, none⟩ (.int .u32 (v : Nat))) (some m)) := Lib.hid (grown_setCell_new hgd ⟨m, 1 + i, none⟩ (.int .u32 (v : Nat)) (Or.inr rfl))
        have HCC : Hid (Cols (i + 1) W (upd C i v)) := Lib.hid (hCc.next v HV.out)
        go_wp2_with fail
        first
          | exact ⟨⟨i + 1, _, by omega, by omega, by go_num, by rw [HA.out], HG.out, HF.out, HCC.out⟩, by simp [intOf]; omega⟩
          | (go_roundw
             case rel => exact ⟨i + 1, _, by omega, by omega, by go_num, by rw [HA.out], HG.out, HF.out, HCC.out⟩
             case measure => simp [intOf]; omega)
    · obtain rfl : i = 4 * (N + 7) := by omega
      clear hlt hi1 hi2
      have j1 : (4 * ((N : Int) + 7)) ≤ ((4 * (N + 7) : Nat) : Int) := by omega
      go_wp2_with fail
      go_end0
      exact ⟨rfl, hgr, C, hC, hCc⟩

end Go.Proofs.YtlfopcigbgfnlaaDoor
