/-
  The document's own padding, of words of 32 bits.
-/
import Derived.Test.YtopepbkpcfbegaaDoorEval
import Derived.Test.YtopepbkpcfbegaaDoorOwnR
import Derived.Test.YtopepbkpcfbegaaDoorExpanded32
namespace Go.Proofs.YtopepbkpcfbegaaDoor
open Go.RowKit

set_option maxRecDepth 100000
set_option maxHeartbeats 1000000

theorem pad_last32 (N : Nat) : 64 * padBlocks 32 N ≥ N + 8 + 1 ∧ 64 * padBlocks 32 N ≤ N + 8 + 64 := by
  unfold padBlocks
  omega

/-- Another append to what the call has made itself. -/
theorem app_next32 {w0 w : World} {B g n cap m : Nat} {a : Option Addr} {f f' : Nat → Nat} (c : Nat) (ty : TypeId) (h0 : w0.grownBy w none) (hg : w0.heap.size ≤ g) (h : OwnR w g n cap f) (hx : Rd w B a m f') (hn : n + m ≤ 2 ^ 46) :
    ∃ g' cap' w', (Builtin.append_ #[22, 22] ty #[.slice (some ⟨g, 0, none⟩) n cap, .slice a m c]).run Tryd.prog w = .ok (.slice (some ⟨g', 0, none⟩) (n + m) cap') w' ∧ OwnR w' g' (n + m) cap' (cat n f f') ∧ w0.grownBy w' none ∧ w0.heap.size ≤ g' := by
  obtain ⟨v, w', hr, ⟨g', cap', rfl, h1, _, h3, h4⟩⟩ := app_run c ty h hx hn
  refine ⟨g', cap', w', hr, h1, grown_new h0 h3 hg, ?_⟩
  have := h0.size
  omega

theorem padded_zero32 (g : Nat → Nat) (N k : Nat) (h1 : N < k) (h2 : k < 64 * padBlocks 32 N - 8) : padded 32 g N k = 0 := by
  unfold padded
  rw [if_neg (by omega), if_neg (by omega), if_pos (by show k < padBlocks 32 N * 64 - 8; omega)]
theorem padded_end32 (g : Nat → Nat) (N j : Nat) (hN : N < 2 ^ 60) (hj : j < 8) : padded 32 g N (64 * padBlocks 32 N - 8 + j) = 8 * N / 256 ^ (8 - 1 - j) % 256 := by
  have := pad_last32 N
  unfold padded
  rw [if_neg (by omega), if_neg (by omega)]
  have e : padBlocks 32 N * (16 * (32 / 8)) = 64 * padBlocks 32 N := by omega
  rw [e]
  by_cases h : 64 * padBlocks 32 N - 8 + j < 64 * padBlocks 32 N - 8
  · rw [if_pos h]
    have h8 : 256 ^ 8 ≤ 256 ^ (8 - 1 - j) := Nat.pow_le_pow_right (by decide) (by omega)
    rw [Nat.div_eq_of_lt (by omega)]
  · rw [if_neg h, show 64 * padBlocks 32 N - 1 - (64 * padBlocks 32 N - 8 + j) = 8 - 1 - j by omega]

/-- Bytes that the call has made itself. -/
structure GaveR32 (w : World) (n : Nat) (f : Nat → Nat) (e : Ending) (w' : World) : Prop where
  ex : ∃ r cap, e = .returned (.slice (some ⟨r, 0, none⟩) n cap) ∧ OwnR w' r n cap f ∧ w.grownBy w' none ∧ w.heap.size ≤ r

theorem rpad32 (N c : Nat) (a : Option Addr) (g : Nat → Nat) (w : World) (hR : Rd w w.heap.size a N g) (hN : N ≤ 2 ^ 40) :
    Calls Tryd.prog 54 #[.slice a N c, .int .i64 32] w (GaveR32 w (64 * padBlocks 32 N) (padded 32 g N)) := by
  have hpl := pad_last32 N
  have ga := World.grownBy_alloc w (.cells #[] 5) none
  obtain ⟨g1, cap1, w1, hap1, ho1, hg1, hb1⟩ := app_next32 (w0 := w) c 22 ga (Nat.le_refl _) (ownR_empty w) (hR.up (Nat.le_refl _) ga) (by omega)
  have gb := World.grownBy_alloc w1 (.cells #[.int .u8 128] 5) none
  have bb := heap_alloc_new w1 (.cells #[.int .u8 128] 5)
  have hR1 : Rd (w1.alloc (.cells #[.int .u8 128] 5)) (w1.heap.size + 1) (some ⟨w1.heap.size, 0, none⟩) 1 (fun _ => 128) := ⟨fun _ => ⟨w1.heap.size, 0, rfl, by omega, fun i hi => by
    obtain rfl : i = 0 := by omega
    rw [cell_of_row _ _ _ _ _ _ bb]; rfl⟩⟩
  obtain ⟨g2, cap2, w2, hap2, ho2, hg2, hb2⟩ := app_next32 (w0 := w) 1 22 (grown_trans hg1 gb) hb1 (ho1.grown gb (by simp)) hR1 (by omega)
  rw [Nat.zero_add] at hap1 hap2 ho2
  have ho2' : OwnR w2 g2 (N + 1) cap2 (padded 32 g N) := ho2.congr (fun i hi => by
    unfold cat padded
    by_cases e : i < N
    · rw [if_pos e, if_pos e, if_neg (by omega), Nat.sub_zero]
    · rw [if_neg e, if_neg e, if_pos (by omega)])
  obtain ⟨len8, hlen8⟩ : ∃ x, x = 8 * N := ⟨_, rfl⟩
  have eN : IntKind.u64.wrap (N : Int) = (N : Int) := by rw [IntKind.wrap_u64]; omega
  have eN8 : IntKind.u64.wrap (8 * (N : Int)) = (len8 : Int) := by rw [IntKind.wrap_u64]; omega
  have HAP1 := Lib.hid hap1
  have HAP2 := Lib.hid hap2
  have Hg2 := Lib.hid hg2
  have Hb2 := Lib.hid hb2
  have Ho2 := Lib.hid ho2'
  have Hpl := Lib.hid hpl
  have Hl8 := Lib.hid hlen8
  have i1 : (N : Int) ≤ 1099511627776 := by omega
  clear hap1 hap2 hg2 hb2 ho2' ho2 hR1 bb gb ho1 hg1 hb1 ga hpl hlen8
  go_enter Tryd.func54, Tryd.ntmps54
  go_wp2_with (first
    | (at_builtin; refine wpList_append_run rfl (.tmp 9) (.tmp 10) 22 22 rfl (.slice (some ⟨w.heap.size, 0, none⟩) 0 0) (.slice a N c) _ _ rfl rfl HAP1.out ?_)
    | (at_builtin; refine wpList_append_run rfl (.tmp 11) (.tmp 12) 22 22 rfl (.slice (some ⟨g1, 0, none⟩) N cap1) (.slice (some ⟨w1.heap.size, 0, none⟩) 1 1) _ _ rfl rfl HAP2.out ?_))
  go_loopw [5] (fun u5 wr => ∃ k g' cap', u5 = .slice (some ⟨g', 0, none⟩) k cap' ∧ N < k ∧ k ≤ 64 * padBlocks 32 N - 8 ∧ OwnR wr g' k cap' (padded 32 g N) ∧ w.grownBy wr none ∧ w.heap.size ≤ g')
    (fun u5 _ => match u5 with | .slice _ k _ => 64 * padBlocks 32 N - k | _ => 0)
  case atStart => exact ⟨N + 1, g2, cap2, rfl, by omega, by have := Hpl.out; omega, Ho2.out, Hg2.out, Hb2.out⟩
  case round =>
    obtain ⟨k, g', cap', rfl, hk1, hk2, hor, hgr, hgb⟩ := hrel
    have hpl := Hpl.out
    by_cases hlt : k < 64 * padBlocks 32 N - 8
    · have hne : ((k : Int) % 64 != 56) = true := by rw [bne_iff_ne]; omega
      have gb := World.grownBy_alloc wr (.cells #[.int .u8 0] 5) none
      have bb := heap_alloc_new wr (.cells #[.int .u8 0] 5)
      have hR1 : Rd (wr.alloc (.cells #[.int .u8 0] 5)) (wr.heap.size + 1) (some ⟨wr.heap.size, 0, none⟩) 1 (fun _ => 0) := ⟨fun _ => ⟨wr.heap.size, 0, rfl, by omega, fun i hi => by
        obtain rfl : i = 0 := by omega
        rw [cell_of_row _ _ _ _ _ _ bb]; rfl⟩⟩
      obtain ⟨g3, cap3, w3, hap3, ho3, hg3, hb3⟩ := app_next32 (w0 := w) 1 22 (grown_trans hgr gb) hgb (hor.grown gb (by simp)) hR1 (by omega)
      have ho3' : OwnR w3 g3 (k + 1) cap3 (padded 32 g N) := ho3.congr (fun i hi => by
        unfold cat
        by_cases e : i < k
        · rw [if_pos e]
        · obtain rfl : i = k := by omega
          rw [if_neg e, padded_zero32 g N i hk1 hlt])
      have HAP3 := Lib.hid hap3
      have Hlt := Lib.hid hlt
      clear hap3 ho3 hR1 bb gb hpl hlt
      go_wp2_with (at_builtin; refine wpList_append_run rfl (.tmp 25) (.tmp 26) 22 22 rfl (.slice (some ⟨g', 0, none⟩) k cap') (.slice (some ⟨wr.heap.size, 0, none⟩) 1 1) _ _ rfl rfl HAP3.out ?_)
      exact ⟨⟨k + 1, g3, cap3, rfl, by omega, by have := Hlt.out; omega, ho3', hg3, hb3⟩, by have := Hlt.out; show 64 * padBlocks 32 N - (k + 1) < 64 * padBlocks 32 N - k; omega⟩
    · have hE : k = 64 * padBlocks 32 N - 8 := by omega
      have hne : ((k : Int) % 64 != 56) = false := by rw [bne_eq_false_iff_eq]; omega
      obtain ⟨mc, hmk, hFm⟩ := make32 8 (by decide) wr
      have hmk' : (Instr.makeSlice 22 (.int .i64 8) (.int .i64 8)).run Tryd.prog wr = .ok (.slice (some ⟨wr.heap.size, 0, none⟩) 8 8) (wr.alloc (.cells mc 5)) := hmk
      have ga := World.grownBy_alloc wr (.cells mc 5) none
      have ho4 := hor.grown ga (by simp)
      have g4 := grown_trans hgr ga
      have hge := hor.lt
      generalize hen : wr.heap.size = en at *
      have Hen := Lib.hid hen
      have HE := Lib.hid hE
      have gw := hgr.size
      clear hE hlt hpl hmk hen ga hor hgr hk1 hk2
      go_wp2_with fail
      generalize wr.alloc (.cells mc 5) = w4 at *
      clear hmk' hne
      go_loopw [7, 8] (fun u7 u8 wq => ∃ (s nt : Nat), s ≤ 8 ∧ u8 = .int .i64 ((s : Int) - 1) ∧ u7 = .int .u64 (nt : Nat) ∧ Hid (nt = len8 / 256 ^ (8 - s)) ∧ Fill wq en 8 (fun j => if s ≤ j then len8 / 256 ^ (8 - 1 - j) % 256 else 0) ∧ OwnR wq g' k cap' (padded 32 g N) ∧ w.grownBy wq none)
        (fun _ u8 _ => (intOf u8 + 1).toNat)
      case atStart => exact ⟨8, len8, by omega, rfl, rfl, Lib.hid (by simp), ⟨fun j hj => by rw [hFm.cell j hj, if_neg (by omega)], hFm.free⟩, ho4, g4⟩
      case round =>
        obtain ⟨s, nt, hs, rfl, rfl, hnt, hFq, hoq, hgq⟩ := hrel
        clear hFm ho4 g4
        by_cases hs0 : s = 0
        · have HS := Lib.hid hs0
          have hs1 : (s : Int) - 1 < 0 := by omega
          clear hs0 hs
          have hFend : Rd wr wr.heap.size (some ⟨en, 0, none⟩) 8 (fun j => len8 / 256 ^ (8 - 1 - j) % 256) := ⟨fun _ => ⟨en, 0, rfl, hFq.lt (by decide), fun j hj => by
            rw [Nat.zero_add, hFq.cell j hj, if_pos (by rw [HS.out]; omega)]⟩⟩
          obtain ⟨g5, cap5, w5, hap5, ho5, hg5, hb5⟩ := app_next32 (w0 := w) 8 22 hgq hgb hoq hFend (by have := HE.out; have := Hpl.out; omega)
          have ho5' : OwnR w5 g5 (64 * padBlocks 32 N) cap5 (padded 32 g N) := by
            have h1 := HE.out
            have h2 := Hpl.out
            have e1 : 64 * padBlocks 32 N = k + 8 := by omega
            rw [e1]
            refine ho5.congr (fun i hi => ?_)
            unfold cat
            by_cases e : i < k
            · rw [if_pos e]
            · rw [if_neg e]
              have := padded_end32 g N (i - k) (by omega) (by omega)
              rw [← h1, show k + (i - k) = i by omega] at this
              rw [this, Hl8.out]
          have HAP5 := Lib.hid hap5
          have hk5 : k + 8 = 64 * padBlocks 32 N := by have h1 := HE.out; have h2 := Hpl.out; omega
          have HK5 := Lib.hid hk5
          clear hap5 hFend ho5 hk5
          go_wp2_with (at_builtin; refine wpList_append_run rfl (.tmp 50) (.tmp 51) 22 22 rfl (.slice (some ⟨g', 0, none⟩) k cap') (.slice (some ⟨en, 0, none⟩) 8 8) _ _ rfl rfl HAP5.out ?_)
          go_ret
          exact ⟨g5, cap5, by rw [← HK5.out]; rfl, ho5', hg5, hb5⟩
        · obtain ⟨j, rfl⟩ : ∃ j, s = j + 1 := ⟨s - 1, by omega⟩
          have e1 : ((j + 1 : Nat) : Int) - 1 = (j : Int) := by omega
          rw [e1]
          have hj : j < 8 := by omega
          have ij : (j : Int) < 8 := by omega
          have cj : (wr.cell? ⟨en, j, none⟩) = some (.int .u8 ((if j + 1 ≤ j then len8 / 256 ^ (8 - 1 - j) % 256 else 0 : Nat) : Int)) := hFq.cell j hj
          rw [if_neg (by omega)] at cj
          have fj := hFq.free j
          obtain ⟨v, hv⟩ : ∃ v, v = nt % 256 := ⟨_, rfl⟩
          obtain ⟨m, hm⟩ : ∃ v, v = nt / 256 := ⟨_, rfl⟩
          have ev : (nt : Int) % 256 = (v : Int) := by omega
          have ev2 : IntKind.u8.wrap (v : Int) = (v : Int) := by rw [IntKind.wrap_u8]; omega
          have em : (nt : Int) / 256 = (m : Int) := by omega
          have hnl : nt < 2 ^ 64 := by
            rw [hnt.out]
            have := Hl8.out
            exact Nat.lt_of_le_of_lt (Nat.div_le_self _ _) (by omega)
          have em2 : IntKind.u64.wrap (m : Int) = (m : Int) := by rw [IntKind.wrap_u64]; omega
          have Hv : Hid (v = len8 / 256 ^ (8 - 1 - j) % 256) := Lib.hid (by rw [hv, hnt.out, show 8 - (j + 1) = 8 - 1 - j by omega])
          have Hm : Hid (m = len8 / 256 ^ (8 - j)) := Lib.hid (by rw [hm, hnt.out, Nat.div_div_eq_div_mul, ← Nat.pow_succ]; congr 2; omega)
          have F5 := hFq.set j v hj
          have O5 : OwnR (wr.setCell ⟨en, j, none⟩ (.int .u8 (v : Nat))) g' k cap' (padded 32 g N) := hoq.of_block (heap_setCell_other wr _ g' _ (by show g' ≠ en; omega)) (by simpa [World.setCell] using hoq.lt)
          have G5 := grown_setCell_new hgq ⟨en, j, none⟩ (.int .u8 (v : Nat)) (Or.inl (by rw [← Hen.out]; exact gw))
          clear hnl hv hm e1 hs hs0
          go_wp2_with fail
          refine ⟨⟨j, m, by omega, rfl, rfl, Hm, ⟨fun i hi => ?_, F5.free⟩, O5, G5⟩, by simp [intOf]⟩
          rw [F5.cell i hi]
          by_cases e : i = j
          · subst e; rw [upd_same, if_pos (Nat.le_refl _), Hv.out]
          · rw [upd_other _ _ _ _ e]
            by_cases e2 : j ≤ i
            · rw [if_pos e2, if_pos (by omega)]
            · rw [if_neg e2, if_neg (by omega)]

end Go.Proofs.YtopepbkpcfbegaaDoor
