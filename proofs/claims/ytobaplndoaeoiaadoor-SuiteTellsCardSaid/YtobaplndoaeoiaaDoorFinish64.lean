/-
  What stands behind a text, taken in by sha's machine of words of 64 bits.
-/
import Derived.Test.YtobaplndoaeoiaaDoorTake64
import Derived.Test.YtobaplndoaeoiaaDoorShaSpec
import Derived.StillTailTactics
import Derived.BigRegion
namespace Go.Proofs.YtobaplndoaeoiaaDoor
open Go.RowKit

set_option maxRecDepth 100000
set_option maxHeartbeats 2000000

theorem padBlocks64_small (N s r : Nat) (h : N = s * 128 + r) (hr : r + 16 < 128) : padBlocks 64 N = s + 1 := by
  show (N + 16) / 128 + 1 = s + 1
  omega
theorem padBlocks64_big (N s r : Nat) (h : N = s * 128 + r) (hr : 128 ≤ r + 16) (hr2 : r < 128) : padBlocks 64 N = s + 2 := by
  show (N + 16) / 128 + 1 = s + 2
  omega
theorem padBlocks64_le (N : Nat) : N + 16 < padBlocks 64 N * 128 := by
  have e : padBlocks 64 N = (N + 16) / 128 + 1 := rfl
  rw [e]
  omega
/-- A padded text's bytes, with the block's length written out. -/
theorem padded64_eq (g : Nat → Nat) (N i : Nat) : padded 64 g N i = if i < N then g i else if i = N then 128 else if i < padBlocks 64 N * 128 - 8 then 0 else 8 * N / 256 ^ (padBlocks 64 N * 128 - 1 - i) % 256 := rfl
theorem pad_state64 (P K H g : Nat → Nat) (N s : Nat) (h : s * 128 ≤ N) : stAfter 64 80 P K H (padded 64 g N) s = stAfter 64 80 P K H g s :=
  stAfter_congr 64 80 P K H _ _ s (fun i hi => by
    have hi' : i < s * 128 := hi
    rw [padded64_eq, if_pos (by omega)])
/-- One byte of the number of bits. -/
theorem len_byte64 (N i : Nat) : ((N : Int) * 8 / 2 ^ (8 * i) % 256) = ((8 * N / 256 ^ i % 256 : Nat) : Int) := by
  have p : (256 : Nat) ^ i = 2 ^ (8 * i) := by rw [show (256 : Nat) = 2 ^ 8 from rfl, ← Nat.pow_mul]
  rw [p, Int.mul_comm]
  simp
theorem finish64 (m N : Nat) (P F K H g : Nat → Nat) (w : World) (hM : MT 64 80 .u64 P K H g w m N N) (hL : Laid w 1 2 F K)
    (hP : ∀ i, 0 < P i ∧ P i < 64) (hH : ∀ i, H i < 2 ^ 64) (hK : ∀ i, K i < 2 ^ 64)
    (hm1 : m ≠ 1) (hm2 : m ≠ 2) (hN : N < 2 ^ 61) :
    Calls Tryd.prog 56 #[.pointer (some ⟨m, 0, none⟩)] w fun e w' => e = .returned (.tuple #[]) ∧ w.grownBy w' (some m) ∧
      SomeMach 80 .u64 P w' m (stAfter 64 80 P K H (padded 64 g N) (padBlocks 64 N)) := by
  obtain ⟨blk, hM1, hblk, hblt⟩ : ∃ blk, Mach .u64 w m P 80 (stAfter 64 80 P K H g (N / 128)) blk (N % 128) N ∧ (∀ i, i < N % 128 → blk i = g (N / 128 * 128 + i)) ∧ ∀ i, blk i < 256 := hM.ex
  obtain ⟨r, hr⟩ : ∃ r, r = N % 128 := ⟨_, rfl⟩
  obtain ⟨s, hs⟩ : ∃ s, s = N / 128 := ⟨_, rfl⟩
  have hrs : N = s * 128 + r := by omega
  have hr1 : r < 128 := by omega
  rw [← hr, ← hs] at hM1 hblk
  have Hrs := Lib.hid hrs
  clear hr hs hrs hM
  have c1 := hM1.filled
  have f1 := hM1.free 149
  have c2 := hM1.block r (by omega)
  have f2 := hM1.free (21 + r)
  have r1 : (r : Int) < 128 := by omega
  have hM2 : Mach .u64 (w.setCell ⟨m, 21 + r, none⟩ (.int .u8 128)) m P 80 (stAfter 64 80 P K H g s) (upd blk r 128) r N := hM1.setBlock r 128 (by omega)
  have hg2 : w.grownBy (w.setCell ⟨m, 21 + r, none⟩ (.int .u8 128)) (some m) := grown_setCell_new (grown_refl w (some m)) _ _ (Or.inr rfl)
  go_enter Tryd.func56, Tryd.ntmps56
  go_wp2_with fail
  go_region
  have hM3 : Mach .u64 (w.setCell ⟨m, 21 + r, none⟩ (.int .u8 128)).drew m P 80 (stAfter 64 80 P K H g s) (upd blk r 128) r N := hM2.of_block rfl
  have hg3 := grown_drew hg2
  clear hM1 hM2 hg2 c1 f1 c2 f2
  generalize (w.setCell ⟨m, 21 + r, none⟩ (.int .u8 128)).drew = w3 at *
  have c1 := hM3.filled
  have f1 := hM3.free 149
  have hM4 : Mach .u64 (w3.setCell ⟨m, 149, none⟩ (.int .i64 ((r : Int) + 1))) m P 80 (stAfter 64 80 P K H g s) (upd blk r 128) (r + 1) N := hM3.setFilled (r + 1)
  have hg4 := grown_setCell_new hg3 ⟨m, 149, none⟩ (.int .i64 ((r : Int) + 1)) (Or.inr rfl)
  go_wp2_with fail
  clear c1 f1 hM3 hg3
  generalize w3.setCell ⟨m, 149, none⟩ (.int .i64 ((r : Int) + 1)) = w4 at *
  obtain ⟨a5, ha5, hsl5⟩ := run_partEnd (Q := Tryd.prog) (T := 100) (E := 5) (n := 128) (by kernel_rfl) (fun _ => by kernel_rfl) m 21 (r + 1) ((r : Int) + 1) (by omega) (by omega)
  rw [show 128 - (r + 1) = 127 - r by omega] at hsl5
  refine wp_region_still_tail 8 (by kernel_rfl) (by kernel_rfl) ?_
  have c1 : w4.drew.cell? ⟨m, 149, none⟩ = some (.int .i64 ((r : Int) + 1)) := hM4.filled
  have hM5 : Mach .u64 w4.drew m P 80 (stAfter 64 80 P K H g s) (upd blk r 128) (r + 1) N := hM4.of_block rfl
  have hg5 := grown_drew hg4
  change wpStill _ _ w4.drew (fun a' => wpList _ _ _ _ a' w4.drew) _ _
  clear hM4 hg4
  generalize w4.drew = w5 at *
  simp only [List.take_succ_cons, List.take_zero, List.drop_succ_cons, List.drop_zero]
  have hcl := run_clear_bytes (Q := Tryd.prog) (T := 23) (E := 5) (by kernel_rfl) (fun _ => by kernel_rfl) 0 m (21 + (r + 1)) (127 - r) (127 - r) a5 w5 (fun h => ha5 (by omega))
    (fun j hj => by
      have := hM5.block (r + 1 + j) (by omega)
      rw [← Nat.add_assoc] at this
      rw [this]; rfl)
    (fun j _ => hM5.free _)
  have hM6 := hM5.setBlocks (r + 1) (127 - r) (fun _ => 0) (by omega)
  have hg6 := grown_setCells m (Or.inr rfl) ((List.range (127 - r)).map fun _ => Value.int .u8 (0 : Nat)) (21 + (r + 1)) _ hg5
  obtain ⟨w6, hw6⟩ : ∃ w6, w6 = w5.setCells m (21 + (r + 1)) ((List.range (127 - r)).map fun _ => Value.int .u8 (0 : Nat)) := ⟨_, rfl⟩
  rw [← hw6] at hcl hM6 hg6
  clear hw6 ha5
  repeat still_step
  refine wpStill_nil ?_
  clear c1 hM5 hg5 hsl5
  have hb6 : (∀ i, (fun i => if r + 1 ≤ i ∧ i < r + 1 + (127 - r) then 0 else upd blk r 128 i) i < 256) ∧ ∀ i, i < 128 → (fun i => if r + 1 ≤ i ∧ i < r + 1 + (127 - r) then 0 else upd blk r 128 i) i = if i < r then g (s * 128 + i) else if i = r then 128 else 0 := by
    constructor
    · intro i; dsimp only; split
      · decide
      · unfold upd; split
        · decide
        · exact hblt i
    · intro i hi; dsimp only
      by_cases e1 : i < r
      · rw [if_neg (by omega), upd_other _ _ _ _ (by omega), if_pos e1]; exact hblk i e1
      · by_cases e2 : i = r
        · subst e2; rw [if_neg (by omega), upd_same, if_neg (by omega), if_pos rfl]
        · rw [if_pos (by omega), if_neg e1, if_neg e2]
  obtain ⟨hb6, hc6⟩ := hb6
  generalize (fun i => if r + 1 ≤ i ∧ i < r + 1 + (127 - r) then 0 else upd blk r 128 i) = blk6 at *
  clear hblk hblt
  go_wp2_with fail
  clear hcl
  have c6 : w6.cell? ⟨m, 149, none⟩ = some (.int .i64 ((r : Int) + 1)) := hM6.filled
  go_quiet (first
    | (go_at_call 64; exact Calls.quiet_of_same ((blockBytes64 _ _).mono fun _ _ h => ⟨h.1, h.2.symm⟩))
    | (go_at_call 63; exact Calls.quiet_of_same ((wordBytes64 _).mono fun _ _ h => ⟨h.1, h.2.symm⟩)))
  have hM7 : Mach .u64 (w6.drewN nq) m P 80 (stAfter 64 80 P K H g s) blk6 (r + 1) N := hM6.of_block rfl
  have hg7 := grown_drewN hg6 nq
  clear c6 hM6 hg6
  generalize w6.drewN nq = w7 at *
  by_cases hbig : 128 ≤ r + 16
  · have hbig1 : (112 : Int) < (r : Int) + 1 := by omega
    have hL7 := hL.grown hg7 (by simpa using Ne.symm hm1) (by simpa using Ne.symm hm2)
    go_wp2_with (go_at_call 65; (with_reducible refine (takeIn64 m P F K _ blk6 _ _ _ hM7 hL7 hb6 hP (stAfter_lt 64 80 P K H g hH s) hK).mono ?_); rintro e w8 ⟨rfl, hg8, hM8⟩; have hcl8 := run_clear_bytes (Q := Tryd.prog) (T := 23) (E := 5) (by kernel_rfl) (fun _ => by kernel_rfl) 0 m 21 128 128 (some ⟨m, 21, none⟩) w8 (fun _ => rfl) (fun j hj => by rw [hM8.block j hj]; rfl) (fun j _ => hM8.free _); obtain ⟨wA, hwA⟩ : ∃ wA, wA = w8.setCells m 21 ((List.range 128).map fun _ => Value.int .u8 (0 : Nat)) := ⟨_, rfl⟩; rw [← hwA] at hcl8; have HwA := Lib.hid hwA; clear hwA)
    clear hcl8
    have hM9 := hM8.setBlocks 0 128 (fun _ => 0) (by omega)
    have hg9 := grown_setCells m (Or.inr rfl) ((List.range 128).map fun _ => Value.int .u8 (0 : Nat)) 21 _ (grown_trans hg7 hg8)
    rw [Nat.add_zero, ← HwA.out] at hM9
    rw [← HwA.out] at hg9
    clear HwA
    have hnbE := padBlocks64_big N s r Hrs.out hbig hr1
    have hE : compress 64 80 P K (stAfter 64 80 P K H g s) blk6 = stAfter 64 80 P K H (padded 64 g N) (padBlocks 64 N - 1) := by
      have e : padBlocks 64 N - 1 = s + 1 := by omega
      rw [e]
      show _ = compress _ _ _ _ (stAfter _ _ _ _ _ _ s) _
      rw [pad_state64 P K H g N s (by have := Hrs.out; omega)]
      refine compress_congr 64 80 P K _ blk6 _ (fun i hi => ?_)
      have hi' : i < 128 := hi
      have hN' := Hrs.out
      show blk6 i = padded 64 g N (s * 128 + i)
      rw [hc6 i hi', padded64_eq, hnbE]
      by_cases e1 : i < r
      · rw [if_pos e1, if_pos (by omega)]
      · by_cases e2 : i = r
        · rw [if_neg e1, if_pos e2, if_neg (by omega), if_pos (by omega)]
        · rw [if_neg e1, if_neg e2, if_neg (by omega), if_neg (by omega), if_pos (by omega)]
    rw [hE] at hM9
    have hbA : ∀ i, (fun i => if 0 ≤ i ∧ i < 0 + 128 then (fun _ => 0) (i - 0) else blk6 i) i < 256 := by
      intro i; dsimp only; split
      · decide
      · exact hb6 i
    have hcA : ∀ i, i < 128 - 8 → (fun i => if 0 ≤ i ∧ i < 0 + 128 then (fun _ => 0) (i - 0) else blk6 i) i = padded 64 g N ((padBlocks 64 N - 1) * 128 + i) := by
      intro i hi; dsimp only
      have hN' := Hrs.out
      rw [if_pos (by omega), padded64_eq, hnbE, if_neg (by omega), if_neg (by omega), if_pos (by omega)]
    generalize (fun i => if 0 ≤ i ∧ i < 0 + 128 then (fun _ => 0) (i - 0) else blk6 i) = blkA at *
    have hnb1 : (padBlocks 64 N - 1) * 128 ≤ N + 16 := by have := Hrs.out; rw [hnbE]; omega
    obtain ⟨flA, hflA⟩ : ∃ flA : Nat, flA = 0 := ⟨_, rfl⟩
    rw [← hflA] at hM9
    clear hE hM8 hg8 hflA hnbE
    have hnb := padBlocks64_le N
    have hnb2 : 1 ≤ padBlocks 64 N := Nat.le_add_left 1 _
    obtain ⟨nb, hnbe⟩ : ∃ nb, nb = padBlocks 64 N - 1 := ⟨_, rfl⟩
    have hnb3 : padBlocks 64 N = nb + 1 := by omega
    rw [← hnbe] at hM9 hcA hnb1
    rw [hnb3] at hnb
    have Hnb3 := Lib.hid hnb3
    clear hnb3 hnbe hnb2
    generalize hST : stAfter 64 80 P K H (padded 64 g N) nb = ST at hM9
    have HST := Lib.hid hST
    clear hST
    go_loopw [42] (fun ui wr => ∃ (i : Nat) (blk' : Nat → Nat), i ≤ 8 ∧ ui = .int .i64 i ∧ w.grownBy wr (some m) ∧ Mach .u64 wr m P 80 ST blk' flA N ∧ (∀ j, blk' j < 256) ∧ (∀ j, j < 128 → j < 128 - 8 ∨ 128 - i ≤ j → blk' j = padded 64 g N (nb * 128 + j))) (fun ui _ => 8 - (intOf ui).toNat)
    case atStart => exact ⟨0, blkA, by omega, rfl, hg9, hM9, hbA, fun j h1 h2 => hcA j (by omega)⟩
    case round =>
      clear hg9 hM9 hbA hcA
      obtain ⟨i, blk', hi, rfl, hgr, hMr, hbr, hcr⟩ := hrel
      by_cases hi8 : i < 8
      · have hi1 : (i : Int) < 8 := by omega
        have hi0 : (0 : Int) ≤ i := by omega
        obtain ⟨jj, hjj⟩ : ∃ jj, jj = 128 - 1 - i := ⟨_, rfl⟩
        have e1 : (127 : Int) - (i : Int) = (jj : Int) := by omega
        have e2 : (jj : Int) < 128 := by omega
        have e3 : IntKind.i64.wrap (8 * (i : Int)) = ((8 * i : Nat) : Int) := by rw [IntKind.wrap_i64]; omega
        have e7 : IntKind.i64.wrap 127 = 127 := by rw [IntKind.wrap_i64]; omega
        have e4 : ((8 * i : Nat) : Int) ≤ 64 := by omega
        have e5 : (0 : Int) ≤ ((8 * i : Nat) : Int) := by omega
        have e6 : IntKind.i64.wrap (jj : Int) = (jj : Int) := by rw [IntKind.wrap_i64]; omega
        have jj1 : jj < 128 := by omega
        have Hjj := Lib.hid hjj
        clear hjj
        have c1 : wr.drew.cell? ⟨m, 150, none⟩ = some (.int .u64 N) := hMr.length
        have c2 : wr.drew.cell? ⟨m, 21 + jj, none⟩ = some (.int .u8 (blk' jj)) := hMr.block jj jj1
        have f2 : wr.drew.frozen? ⟨m, 21 + jj, none⟩ = false := hMr.free _
        have hM5 := (hMr.of_block (w' := wr.drew) rfl).setBlock jj (8 * N / 256 ^ i % 256) jj1
        have hg5 := grown_setCell_new (grown_drew hgr) ⟨m, 21 + jj, none⟩ (.int .u8 (8 * N / 256 ^ i % 256 : Nat)) (Or.inr rfl)
        have HV := Lib.hid (len_byte64 N i)
        go_wp2_with fail
        refine wp_region_still_tail 18 (by kernel_rfl) (by kernel_rfl) ?_
        change wpStill _ _ wr.drew (fun a' => wpList _ _ _ _ a' wr.drew) _ _
        generalize wr.drew = w5 at *
        simp only [List.take_succ_cons, List.take_zero, List.drop_succ_cons, List.drop_zero]
        repeat still_step
        still_call ((blockBytes64 _ _).mono fun _ _ h => ⟨h.1, h.2.symm⟩)
        repeat still_step
        refine wpStill_nil ?_
        clear e1 e3 e6 e7
        go_wp2_with fail
        rw [HV.out]
        have hjj := Hjj.out
        refine ⟨⟨i + 1, _, by omega, by go_num, hg5, hM5, ?_, ?_⟩, by simp [intOf]; omega⟩
        · intro j
          unfold upd; split
          · exact Nat.mod_lt _ (by decide)
          · exact hbr j
        · intro j h1 h2
          by_cases e : j = jj
          · rw [e, upd_same, padded64_eq, Hnb3.out, if_neg (by omega), if_neg (by omega), if_neg (by omega)]
            rw [show (nb + 1) * 128 - 1 - (nb * 128 + jj) = i by omega]
          · rw [upd_other _ _ _ _ e]; exact hcr j h1 (by omega)
      · have h8 : i = 8 := by omega
        have hge : (8 : Int) ≤ i := by omega
        rw [h8] at hcr
        have hLr := hL.grown hgr (by simpa using Ne.symm hm1) (by simpa using Ne.symm hm2)
        have hSTl : ∀ i, ST i < 2 ^ 64 := by
          rw [← HST.out]; exact stAfter_lt 64 80 P K H _ hH nb
        clear h8 hi8 hi
        go_wp2_with (go_at_call 65; (with_reducible refine (takeIn64 m P F K _ blk' _ _ _ hMr hLr hbr hP hSTl hK).mono ?_); rintro e w9 ⟨rfl, hg9, hM9⟩)
        go_end0
        have hE : compress 64 80 P K ST blk' = stAfter 64 80 P K H (padded 64 g N) (padBlocks 64 N) := by
          rw [Hnb3.out]
          show _ = compress _ _ _ _ (stAfter _ _ _ _ _ _ nb) _
          rw [HST.out]
          refine compress_congr 64 80 P K _ blk' _ (fun j hj => ?_)
          have hj' : j < 128 := hj
          show blk' j = padded 64 g N (nb * 128 + j)
          exact hcr j hj' (by omega)
        rw [hE] at hM9
        exact ⟨rfl, grown_trans hgr hg9, ⟨_, _, _, hM9⟩⟩
  · have hsm1 : (r : Int) + 1 ≤ 112 := by omega
    have hnbE := padBlocks64_small N s r Hrs.out (by omega)
    have e0 : padBlocks 64 N - 1 = s := by omega
    have hM9 : Mach .u64 w7 m P 80 (stAfter 64 80 P K H (padded 64 g N) (padBlocks 64 N - 1)) blk6 (r + 1) N := by
      rw [e0, pad_state64 P K H g N s (by have := Hrs.out; omega)]; exact hM7
    have hg9 := hg7
    have hcA : ∀ i, i < 128 - 8 → blk6 i = padded 64 g N ((padBlocks 64 N - 1) * 128 + i) := by
      intro i hi
      have hN' := Hrs.out
      rw [hc6 i (by omega), e0, padded64_eq, hnbE]
      by_cases e1 : i < r
      · rw [if_pos e1, if_pos (by omega)]
      · by_cases e2 : i = r
        · rw [if_neg e1, if_pos e2, if_neg (by omega), if_pos (by omega)]
        · rw [if_neg e1, if_neg e2, if_neg (by omega), if_neg (by omega), if_pos (by omega)]
    have hnb1 : (padBlocks 64 N - 1) * 128 ≤ N + 16 := by have := Hrs.out; rw [hnbE]; omega
    have hbA := hb6
    generalize blk6 = blkA at *
    generalize r + 1 = flA at hM9
    clear hM7 hg7 e0 hnbE
    generalize w7 = wA at *
    go_wp2_with fail
    have hnb := padBlocks64_le N
    have hnb2 : 1 ≤ padBlocks 64 N := Nat.le_add_left 1 _
    obtain ⟨nb, hnbe⟩ : ∃ nb, nb = padBlocks 64 N - 1 := ⟨_, rfl⟩
    have hnb3 : padBlocks 64 N = nb + 1 := by omega
    rw [← hnbe] at hM9 hcA hnb1
    rw [hnb3] at hnb
    have Hnb3 := Lib.hid hnb3
    clear hnb3 hnbe hnb2
    generalize hST : stAfter 64 80 P K H (padded 64 g N) nb = ST at hM9
    have HST := Lib.hid hST
    clear hST
    go_loopw [42] (fun ui wr => ∃ (i : Nat) (blk' : Nat → Nat), i ≤ 8 ∧ ui = .int .i64 i ∧ w.grownBy wr (some m) ∧ Mach .u64 wr m P 80 ST blk' flA N ∧ (∀ j, blk' j < 256) ∧ (∀ j, j < 128 → j < 128 - 8 ∨ 128 - i ≤ j → blk' j = padded 64 g N (nb * 128 + j))) (fun ui _ => 8 - (intOf ui).toNat)
    case atStart => exact ⟨0, blkA, by omega, rfl, hg9, hM9, hbA, fun j h1 h2 => hcA j (by omega)⟩
    case round =>
      clear hg9 hM9 hbA hcA
      obtain ⟨i, blk', hi, rfl, hgr, hMr, hbr, hcr⟩ := hrel
      by_cases hi8 : i < 8
      · have hi1 : (i : Int) < 8 := by omega
        have hi0 : (0 : Int) ≤ i := by omega
        obtain ⟨jj, hjj⟩ : ∃ jj, jj = 128 - 1 - i := ⟨_, rfl⟩
        have e1 : (127 : Int) - (i : Int) = (jj : Int) := by omega
        have e2 : (jj : Int) < 128 := by omega
        have e3 : IntKind.i64.wrap (8 * (i : Int)) = ((8 * i : Nat) : Int) := by rw [IntKind.wrap_i64]; omega
        have e7 : IntKind.i64.wrap 127 = 127 := by rw [IntKind.wrap_i64]; omega
        have e4 : ((8 * i : Nat) : Int) ≤ 64 := by omega
        have e5 : (0 : Int) ≤ ((8 * i : Nat) : Int) := by omega
        have e6 : IntKind.i64.wrap (jj : Int) = (jj : Int) := by rw [IntKind.wrap_i64]; omega
        have jj1 : jj < 128 := by omega
        have Hjj := Lib.hid hjj
        clear hjj
        have c1 : wr.drew.cell? ⟨m, 150, none⟩ = some (.int .u64 N) := hMr.length
        have c2 : wr.drew.cell? ⟨m, 21 + jj, none⟩ = some (.int .u8 (blk' jj)) := hMr.block jj jj1
        have f2 : wr.drew.frozen? ⟨m, 21 + jj, none⟩ = false := hMr.free _
        have hM5 := (hMr.of_block (w' := wr.drew) rfl).setBlock jj (8 * N / 256 ^ i % 256) jj1
        have hg5 := grown_setCell_new (grown_drew hgr) ⟨m, 21 + jj, none⟩ (.int .u8 (8 * N / 256 ^ i % 256 : Nat)) (Or.inr rfl)
        have HV := Lib.hid (len_byte64 N i)
        go_wp2_with fail
        refine wp_region_still_tail 18 (by kernel_rfl) (by kernel_rfl) ?_
        change wpStill _ _ wr.drew (fun a' => wpList _ _ _ _ a' wr.drew) _ _
        generalize wr.drew = w5 at *
        simp only [List.take_succ_cons, List.take_zero, List.drop_succ_cons, List.drop_zero]
        repeat still_step
        still_call ((blockBytes64 _ _).mono fun _ _ h => ⟨h.1, h.2.symm⟩)
        repeat still_step
        refine wpStill_nil ?_
        clear e1 e3 e6 e7
        go_wp2_with fail
        rw [HV.out]
        have hjj := Hjj.out
        refine ⟨⟨i + 1, _, by omega, by go_num, hg5, hM5, ?_, ?_⟩, by simp [intOf]; omega⟩
        · intro j
          unfold upd; split
          · exact Nat.mod_lt _ (by decide)
          · exact hbr j
        · intro j h1 h2
          by_cases e : j = jj
          · rw [e, upd_same, padded64_eq, Hnb3.out, if_neg (by omega), if_neg (by omega), if_neg (by omega)]
            rw [show (nb + 1) * 128 - 1 - (nb * 128 + jj) = i by omega]
          · rw [upd_other _ _ _ _ e]; exact hcr j h1 (by omega)
      · have h8 : i = 8 := by omega
        have hge : (8 : Int) ≤ i := by omega
        rw [h8] at hcr
        have hLr := hL.grown hgr (by simpa using Ne.symm hm1) (by simpa using Ne.symm hm2)
        have hSTl : ∀ i, ST i < 2 ^ 64 := by
          rw [← HST.out]; exact stAfter_lt 64 80 P K H _ hH nb
        clear h8 hi8 hi
        go_wp2_with (go_at_call 65; (with_reducible refine (takeIn64 m P F K _ blk' _ _ _ hMr hLr hbr hP hSTl hK).mono ?_); rintro e w9 ⟨rfl, hg9, hM9⟩)
        go_end0
        have hE : compress 64 80 P K ST blk' = stAfter 64 80 P K H (padded 64 g N) (padBlocks 64 N) := by
          rw [Hnb3.out]
          show _ = compress _ _ _ _ (stAfter _ _ _ _ _ _ nb) _
          rw [HST.out]
          refine compress_congr 64 80 P K _ blk' _ (fun j hj => ?_)
          have hj' : j < 128 := hj
          show blk' j = padded 64 g N (nb * 128 + j)
          exact hcr j hj' (by omega)
        rw [hE] at hM9
        exact ⟨rfl, grown_trans hgr hg9, ⟨_, _, _, hM9⟩⟩

end Go.Proofs.YtobaplndoaeoiaaDoor
