/-
  A text taken in by sha's machine of words of 32 bits.
-/
import Derived.Test.YtobaplndoaeoiaaDoorTake32
import Derived.Test.YtobaplndoaeoiaaDoorShaSpec
import Derived.StillTailTactics
namespace Go.Proofs.YtobaplndoaeoiaaDoor
open Go.RowKit

set_option maxRecDepth 100000
set_option maxHeartbeats 1000000

theorem write32 (m tb o q L c len : Nat) (a : Option Addr) (P F K H g : Nat → Nat) (w : World) (hM : MT 32 64 .u32 P K H g w m q len) (hL : Laid w 1 2 F K)
    (hg : ∀ i, g i < 256) (hP : ∀ i, 0 < P i ∧ P i < 32) (hH : ∀ i, H i < 2 ^ 32) (hK : ∀ i, K i < 2 ^ 64)
    (hm1 : m ≠ 1) (hm2 : m ≠ 2)
    (hc : L ≤ c) (hlen : len + L < 2 ^ 61) (ha : 0 < L → a = some ⟨tb, o, none⟩) (hX : ∀ i, i < L → w.cell? ⟨tb, o + i, none⟩ = some (.int .u8 (g (q + i)))) (hb : tb ≠ m) :
    Calls Tryd.prog 59 #[.pointer (some ⟨m, 0, none⟩), .slice a L c] w fun e w' => e = .returned (.tuple #[]) ∧ w.grownBy w' (some m) ∧ MT 32 64 .u32 P K H g w' m (q + L) (len + L) := by
  obtain ⟨blk, hM0, hblk, hblt⟩ := hM.ex
  have l0 := hM0.length
  have f0 := hM0.free 150
  have e0 : IntKind.u64.wrap ((len : Int) + (L : Int)) = ((len + L : Nat) : Int) := by rw [IntKind.wrap_u64]; omega
  have e1 : IntKind.u64.wrap (L : Int) = (L : Int) := by rw [IntKind.wrap_u64]; omega
  go_enter Tryd.func59, Tryd.ntmps59
  go_wp2_with fail
  have hg0 : w.grownBy (w.setCell ⟨m, 150, none⟩ (.int .u64 ((len : Int) + (L : Int)))) (some m) := grown_setCell_new (grown_refl w (some m)) _ _ (Or.inr rfl)
  have hM1 : MT 32 64 .u32 P K H g (w.setCell ⟨m, 150, none⟩ (.int .u64 ((len : Int) + (L : Int)))) m q (len + L) := ⟨blk, hM0.setLength (len + L), hblk, hblt⟩
  clear l0 f0 e0 e1 hM0 hblk hblt blk hM
  go_loopw [1] (fun u1 wr => ∃ (d : Nat) (a : Option Addr) (c : Nat), d ≤ L ∧ u1 = .slice a (L - d) c ∧ L - d ≤ c ∧ (d < L → a = some ⟨tb, o + d, none⟩) ∧ w.grownBy wr (some m) ∧ MT 32 64 .u32 P K H g wr m (q + d) (len + L))
    (fun u1 _ => match u1 with | .slice _ n _ => n | _ => 0)
  case atStart => exact ⟨0, a, c, by omega, rfl, by omega, ha, hg0, hM1⟩
  case round =>
    clear hg0 hM1
    obtain ⟨d, a', c', hd, rfl, hc', ha', hgr, hMr⟩ := hrel
    by_cases hdL : d < L
    · obtain rfl := ha' hdL
      obtain ⟨blk, hM1, hblk, hblt⟩ : ∃ blk, Mach .u32 wr m P 64 (stAfter 32 64 P K H g ((q + d) / 64)) blk ((q + d) % 64) (len + L) ∧ (∀ i, i < (q + d) % 64 → blk i = g ((q + d) / 64 * 64 + i)) ∧ ∀ i, blk i < 256 := hMr.ex
      obtain ⟨r, hr⟩ : ∃ r, r = (q + d) % 64 := ⟨_, rfl⟩
      obtain ⟨s, hs⟩ : ∃ s, s = (q + d) / 64 := ⟨_, rfl⟩
      have hrs : q + d = s * 64 + r := by omega
      have hr1 : r < 64 := by omega
      rw [← hr, ← hs] at hM1 hblk
      have Hr := Lib.hid hr
      have Hs := Lib.hid hs
      have Hrs := Lib.hid hrs
      obtain ⟨n, hn⟩ : ∃ n, n = Nat.min (L - d) (64 - r) := ⟨_, rfl⟩
      have hn1 : n ≤ L - d := by rw [hn]; exact Nat.min_le_left _ _
      have hn2 : n ≤ 64 - r := by rw [hn]; exact Nat.min_le_right _ _
      have hn3 : n = L - d ∨ n = 64 - r := by rw [hn]; simp only [Nat.min_def]; split <;> simp
      have Hn := Lib.hid hn
      obtain ⟨cs, hcs⟩ : ∃ cs, cs = (List.range n).map fun i => Value.int .u8 (g (q + d + i)) := ⟨_, rfl⟩
      have hcl : cs.length = n := by rw [hcs]; simp
      have Hcs := Lib.hid hcs
      have hlt : 0 < L - d := by omega
      have b1 : (r : Int) ≤ 64 := by omega
      have hsl := run_part (Q := Tryd.prog) (T := 100) (E := 5) (n := 128) (by kernel_rfl) (fun _ => by kernel_rfl) m 21 r 64 (r : Int) (64 : Int) rfl rfl (by omega) (by omega) (by omega)
      have hcp := run_copy_cells (P := Tryd.prog) wr.drew 23 23 3 5 m (21 + r) (64 - r) (128 - r) ⟨tb, o + d, none⟩ (L - d) c' cs (by kernel_rfl) (by kernel_rfl) (by rw [hcl]; exact hn)
        (fun j v hv => by
          have hj : j < n := by
            rw [← hcl]; exact (List.getElem?_eq_some_iff.1 hv).1
          rw [hcs] at hv
          have e : v = .int .u8 (g (q + d + j)) := by simpa [hj] using hv.symm
          subst e
          rw [Addr.add_mid]
          have := hX (d + j) (by omega)
          rw [← Nat.add_assoc, ← Nat.add_assoc] at this
          exact hgr.cell this (by simpa using hb))
        (fun j hj => by
          have := hM1.block (r + j) (by omega)
          rw [← Nat.add_assoc] at this
          show (wr.cell? _).isSome = true
          rw [this]; rfl)
        (fun j _ => hM1.free (21 + r + j)) (fun v hv => by
          rw [hcs] at hv
          obtain ⟨i, _, rfl⟩ := List.mem_map.1 hv
          rfl)
      rw [hcl] at hcp
      have hfl := hM1.filled
      clear hcs hn hr hs hrs
      go_wp2_with fail
      refine wp_region_still_tail 11 (by kernel_rfl) (by kernel_rfl) ?_
      have hfl2 : wr.drew.cell? ⟨m, 149, none⟩ = some (.int .i64 r) := hfl
      have hM2 : Mach .u32 wr.drew m P 64 (stAfter 32 64 P K H g s) blk r (len + L) := hM1.of_block rfl
      have hgr2 : w.grownBy wr.drew (some m) := grown_drew hgr
      change wpStill _ _ wr.drew (fun a' => wpList _ _ _ _ a' wr.drew) _ _
      generalize wr.drew = w2 at *
      clear hfl hM1 hgr hMr
      simp only [List.take_succ_cons, List.take_zero, List.drop_succ_cons, List.drop_zero]
      repeat still_step
      still_call ((blockBytes32 _ _).mono fun _ _ h => ⟨h.1, h.2.symm⟩)
      repeat still_step
      refine wpStill_nil ?_
      have hM3 := hM2.setBlocks r n (fun i => g (q + d + i)) (by omega)
      rw [← Hcs.out] at hM3
      have hgr3 := grown_setCells m (Or.inr rfl) cs (21 + r) _ hgr2
      obtain ⟨w3, hw3⟩ : ∃ w3, w3 = w2.setCells m (21 + r) cs := ⟨_, rfl⟩
      rw [← hw3] at hM3 hgr3 hcp
      clear hw3 hfl2 hM2 hgr2
      obtain ⟨a2, ha2, ht1, ht2⟩ := run_rest (Q := Tryd.prog) (T := 23) (E := 5) (by kernel_rfl) (fun _ => by kernel_rfl) tb (o + d) (L - d) c' n (by omega) (by omega)
      have fl3 := hM3.filled
      have fr3 := hM3.free 149
      have hrn : (r : Int) + n ≤ 64 := by omega
      have hM4 : Mach .u32 (w3.setCell ⟨m, 149, none⟩ (.int .i64 ((r : Int) + n))) m P 64 (stAfter 32 64 P K H g s) (fun i => if r ≤ i ∧ i < r + n then g (q + d + (i - r)) else blk i) (r + n) (len + L) := hM3.setFilled (r + n)
      have hgr4 := grown_setCell_new hgr3 ⟨m, 149, none⟩ (.int .i64 ((r : Int) + n)) (Or.inr rfl)
      have hb4 : ∀ i, (fun i => if r ≤ i ∧ i < r + n then g (q + d + (i - r)) else blk i) i < 256 := by
        intro i; dsimp only; split
        · exact hg _
        · exact hblt _
      have hc4 : ∀ i, i < r + n → (fun i => if r ≤ i ∧ i < r + n then g (q + d + (i - r)) else blk i) i = g (s * 64 + i) := by
        intro i hi
        have := Hrs.out
        by_cases e : r ≤ i
        · simp only [e, hi, and_self, if_true]; congr 1; omega
        · simp only [e, false_and, if_false]; exact hblk i (by omega)
      generalize (fun i => if r ≤ i ∧ i < r + n then g (q + d + (i - r)) else blk i) = blk4 at *
      clear ht2 hsl hlt b1 hblk hblt hn2
      by_cases hfull : r + n = 64
      · have Hf := Lib.hid hfull
        have hge : (64 : Int) ≤ (r : Int) + n := by omega
        have hE : ((r : Int) + n == 64) = true := by rw [beq_iff_eq]; omega
        clear hfull
        go_wp2_with fail
        have fl4 : (w3.setCell ⟨m, 149, none⟩ (.int .i64 ((r : Int) + n))).cell? ⟨m, 149, none⟩ = some (.int .i64 ((r : Int) + n)) := hM4.filled
        clear fl3 fr3 hM3 hgr3 hcp ht1
        generalize w3.setCell ⟨m, 149, none⟩ (.int .i64 ((r : Int) + n)) = w4 at *
        go_quiet ((go_at_call 67; exact Calls.quiet_of_same ((blockBytes32 _ _).mono fun _ _ h => ⟨h.1, h.2.symm⟩)))
        have hM5 : Mach .u32 (w4.drewN nq) m P 64 (stAfter 32 64 P K H g s) blk4 (r + n) (len + L) := hM4.of_block rfl
        have hg5 := grown_drewN hgr4 nq
        have hL5 := hL.grown hg5 (by simpa using Ne.symm hm1) (by simpa using Ne.symm hm2)
        clear fl4 hM4 hgr4
        generalize w4.drewN nq = w5 at *
        go_wp2_with (go_at_call 68; (with_reducible refine (takeIn32 m P F K _ blk4 _ _ _ hM5 hL5 hb4 hP (stAfter_lt 32 64 P K H g hH s) hK).mono ?_); rintro e w6 ⟨rfl, hg6, hM6⟩)
        have hrs := Hrs.out
        have hf := Hf.out
        have e1 : (q + (d + n)) / 64 = s + 1 := by omega
        have e2 : (q + (d + n)) % 64 = 0 := by omega
        refine ⟨⟨d + n, a2, c' - n, by omega, by rw [Nat.sub_sub], by omega, ?_, grown_trans hg5 hg6, ⟨blk4, ?_, ?_, hb4⟩⟩, ?_⟩
        · intro h; rw [ha2 (by omega), Nat.add_assoc]
        · show Mach _ _ _ _ _ (stAfter _ _ _ _ _ _ ((q + (d + n)) / 64)) _ ((q + (d + n)) % 64) _
          rw [e1, e2]
          have hcc := compress_congr 32 64 P K (stAfter 32 64 P K H g s) blk4 (fun i => g (s * (16 * (32 / 8)) + i)) (fun i hi => by
            show blk4 i = g (s * (16 * (32 / 8)) + i)
            rw [show 16 * (32 / 8) = 64 from rfl]
            exact hc4 i (by rw [hf]; exact hi))
          rw [hcc] at hM6
          exact hM6
        · intro i hi
          have e3 : (q + (d + n)) % (16 * (32 / 8)) = 0 := e2
          rw [e3] at hi
          omega
        · show L - d - n < L - d
          omega
      · have hlt2 : r + n < 64 := by omega
        have hnL : n = L - d := by omega
        have HL := Lib.hid hnL
        have hE : ((r : Int) + n == 64) = false := by rw [beq_eq_false_iff_ne]; omega
        have hlt3 : (r : Int) + n < 64 := by omega
        clear hfull hnL hn3
        go_wp2_with fail
        have fl4 : (w3.setCell ⟨m, 149, none⟩ (.int .i64 ((r : Int) + n))).cell? ⟨m, 149, none⟩ = some (.int .i64 ((r : Int) + n)) := hM4.filled
        clear fl3 fr3 hM3 hgr3 hcp ht1
        generalize w3.setCell ⟨m, 149, none⟩ (.int .i64 ((r : Int) + n)) = w4 at *
        go_quiet ((go_at_call 67; exact Calls.quiet_of_same ((blockBytes32 _ _).mono fun _ _ h => ⟨h.1, h.2.symm⟩)))
        have hM5 : Mach .u32 (w4.drewN nq) m P 64 (stAfter 32 64 P K H g s) blk4 (r + n) (len + L) := hM4.of_block rfl
        have hg5 := grown_drewN hgr4 nq
        clear fl4 hM4 hgr4
        generalize w4.drewN nq = w5 at *
        go_wp2_with fail
        have hrs := Hrs.out
        have hnL := HL.out
        have e1 : (q + (d + n)) / 64 = s := by omega
        have e2 : (q + (d + n)) % 64 = r + n := by omega
        refine ⟨⟨d + n, a2, c' - n, by omega, by rw [Nat.sub_sub], by omega, ?_, hg5, ⟨blk4, ?_, ?_, hb4⟩⟩, ?_⟩
        · intro h; rw [ha2 (by omega), Nat.add_assoc]
        · show Mach _ _ _ _ _ (stAfter _ _ _ _ _ _ ((q + (d + n)) / 64)) _ ((q + (d + n)) % 64) _
          rw [e1, e2]
          exact hM5
        · intro i hi
          have e3 : (q + (d + n)) % (16 * (32 / 8)) = r + n := e2
          have e4 : (q + (d + n)) / (16 * (32 / 8)) = s := e1
          rw [e3] at hi
          rw [e4]
          exact hc4 i hi
        · show L - d - n < L - d
          omega
    · have hdL2 : L - d = 0 := by omega
      have hdL3 : d = L := by omega
      have H3 := Lib.hid hdL3
      clear hdL3
      rw [hdL2]
      go_wp2_with fail
      go_end0
      rw [H3.out] at hMr
      exact ⟨rfl, hgr, hMr⟩

end Go.Proofs.YtobaplndoaeoiaaDoor
