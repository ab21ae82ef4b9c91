/-
  The document's own sum, of words of 64 bits.
-/
import Derived.Test.YtopepbkpcfbegaaDoorRefConst
import Derived.Test.YtopepbkpcfbegaaDoorRefPad64
import Derived.Test.YtopepbkpcfbegaaDoorRefRound64
namespace Go.Proofs.YtopepbkpcfbegaaDoor
open Go.RowKit

set_option maxRecDepth 100000
set_option maxHeartbeats 1000000

/-- What stands through the loops: the state, the constants, the padded text; all of it is new. -/
structure Inv64 (w wr : World) (hb kb al cap T : Nat) (st pd : Nat → Nat) : Prop where
  h : Holds wr hb 58 .u64 8 st
  k : Holds wr kb 58 .u64 80 KC
  p : OwnR wr al T cap pd
  g : w.grownBy wr none

theorem Inv64.grown {w wr wr' : World} {hb kb al cap T : Nat} {st pd : Nat → Nat} (h : Inv64 w wr hb kb al cap T st pd) (g : wr.grownBy wr' none) : Inv64 w wr' hb kb al cap T st pd :=
  ⟨h.h.grown g (by simp), h.k.grown g (by simp), h.p.grown g (by simp), grown_trans h.g g⟩

theorem oct_lt64 (f : Nat → Nat) (h : ∀ i, f i < 2 ^ 64) : (Oct.of f).Lt (2 ^ 64) := ⟨h 0, h 1, h 2, h 3, h 4, h 5, h 6, h 7⟩
theorem oct_get_lt64 (v : Oct) (h : v.Lt (2 ^ 64)) : ∀ i, v.get i < 2 ^ 64
  | 0 => h.a
  | 1 => h.b
  | 2 => h.c
  | 3 => h.d
  | 4 => h.e
  | 5 => h.f
  | 6 => h.g
  | _ + 7 => h.h
theorem new_cell64 {W : World} {v : Value} {T : TypeId} {g n c : Nat} {f : Nat → Nat} (_ : OwnV (W.alloc (.cells #[v] T)) g n c f) : (W.alloc (.cells #[v] T)).cell? ⟨W.heap.size, 0, none⟩ = some v := by
  rw [cell_of_row _ _ _ _ _ _ (heap_alloc_new W (.cells #[v] T))]; rfl
theorem new_cellD64 {W : World} {v : Value} {T : TypeId} {g n c : Nat} {f : Nat → Nat} (_ : OwnV (W.alloc (.cells #[v] T)).drew g n c f) : (W.alloc (.cells #[v] T)).drew.cell? ⟨W.heap.size, 0, none⟩ = some v := by
  show (W.alloc (.cells #[v] T)).cell? _ = _
  rw [cell_of_row _ _ _ _ _ _ (heap_alloc_new W (.cells #[v] T))]; rfl

theorem new_cellN64 {W : World} {v x : Value} {T : TypeId} {B n : Nat} {f : Nat → Nat} (_ : OwnN (W.alloc (.cells #[v] T)) B x n f) : (W.alloc (.cells #[v] T)).cell? ⟨W.heap.size, 0, none⟩ = some v := by
  rw [cell_of_row _ _ _ _ _ _ (heap_alloc_new W (.cells #[v] T))]; rfl
theorem new_cellND64 {W : World} {v x : Value} {T : TypeId} {B n : Nat} {f : Nat → Nat} (_ : OwnN (W.alloc (.cells #[v] T)).drew B x n f) : (W.alloc (.cells #[v] T)).drew.cell? ⟨W.heap.size, 0, none⟩ = some v := by
  show (W.alloc (.cells #[v] T)).cell? _ = _
  rw [cell_of_row _ _ _ _ _ _ (heap_alloc_new W (.cells #[v] T))]; rfl

theorem rsum64 (N c : Nat) (a : Option Addr) (g : Nat → Nat) (w : World) (hR : Rd w w.heap.size a N g) (hg : ∀ i, g i < 256) (hN : N ≤ 2 ^ 40) :
    Calls Tryd.prog 41 #[.slice a N c, .int .i64 64] w (GaveN w 64 (sumOf 64 80 P64 KC (H64 FC) g N)) := by
  go_enter Tryd.func41, Tryd.ntmps41
  go_wp2_with fail
  go_at_call 51
  with_reducible refine (First_any _).mono ?_
  rintro e w1 ⟨hb, rfl, hhb, hH, g1⟩
  go_wp2_with fail
  go_at_call 52
  with_reducible refine (Constants_any _).mono ?_
  rintro e w2 ⟨kb, rfl, hkb, hK, g2⟩
  have hH2 := hH.grown g2 (by simp)
  have g02 := grown_trans g1 g2
  have hhk : hb ≠ kb := by have := hH.lt; omega
  have hkbw : w.heap.size ≤ kb := Nat.le_trans g1.size hkb
  clear hH g1 g2
  have qp : Hid (∀ W : World, Calls Tryd.prog 53 #[.int .i64 0] W fun e w' => e = .returned (.int .u64 1) ∧ W = w') := Lib.hid fun W => power_any _ 0 1 rfl (by decide) (by decide) W
  go_wp2_with (go_at_call 53; (with_reducible refine (qp.out _).mono ?_); rintro e w' ⟨rfl, rfl⟩)
  go_loopw [9] (fun u9 wr => ∃ i : Nat, i ≤ 8 ∧ u9 = .int .i64 i ∧ Holds wr hb 58 .u64 8 (fun j => if j < i then H64 FC j else FC j) ∧ Holds wr kb 58 .u64 80 KC ∧ w.grownBy wr none) (fun u9 _ => 8 - (intOf u9).toNat)
  case atStart => exact ⟨0, by omega, rfl, hH2.congr (fun i _ => by rw [if_neg (by omega)]), hK, g02⟩
  case round =>
    obtain ⟨i, hi, rfl, hHr, hKr, hgr⟩ := hrel
    clear hH2 hK g02
    by_cases hi8 : i < 8
    · have i1 : (i : Int) < 8 := by omega
      have ci := hHr.cell i hi8
      rw [if_neg (by omega)] at ci
      have fi := hHr.frozen i
      obtain ⟨v, hv⟩ : ∃ v, v = H64 FC i := ⟨_, rfl⟩
      have hF := FC_lt i
      have hv2 : v = FC i / 1 := by rw [hv]; rfl
      have ev : (FC i : Int) / 1 = (v : Int) := by omega
      have ev2 : IntKind.u64.wrap (v : Int) = (v : Int) := by rw [IntKind.wrap_u64]; omega
      have evf : IntKind.u64.wrap (FC i : Int) = (FC i : Int) := by rw [IntKind.wrap_u64]; omega
      have H5 := hHr.set i v
      have K5 := hKr.setOther ⟨hb, i, none⟩ (.int .u64 (v : Nat)) (by show kb ≠ hb; omega)
      have G5 := grown_setCell_new hgr ⟨hb, i, none⟩ (.int .u64 (v : Nat)) (Or.inl hhb)
      have Hv := Lib.hid hv
      clear hF hv hv2
      have hv3 : FC i = v := by have := Hv.out; rw [this]; exact (Nat.div_one _).symm
      rw [hv3] at ci
      clear ev evf hv3
      go_wp2_with fail
      refine ⟨⟨i + 1, by omega, by go_num, H5.congr (fun j hj => ?_), K5, G5⟩, by simp [intOf]; omega⟩
      by_cases e : j = i
      · subst e; rw [upd_same, if_pos (by omega), Hv.out]
      · rw [upd_other _ _ _ _ e]
        by_cases e2 : j < i
        · rw [if_pos e2, if_pos (by omega)]
        · rw [if_neg e2, if_neg (by omega)]
    · have hE : i = 8 := by omega
      have i1 : (8 : Int) ≤ i := by omega
      have hH3 : Holds wr hb 58 .u64 8 (H64 FC) := hHr.congr (fun j hj => by rw [if_pos (by omega)])
      clear hHr hi8 hi hE
      have hRr := hR.up (Nat.le_refl _) hgr
      have hrp := rpad64 N c a g wr hRr hN
      have HRP := Lib.hid hrp
      clear hrp
      go_wp2_with fail
      go_at_call 54
      with_reducible refine (HRP.out).mono ?_
      rintro e w3 ⟨al, cap, rfl, hal, hg3, hb3⟩
      have I3 : Inv64 w w3 hb kb al cap (128 * padBlocks 64 N) (stAfter 64 80 P64 KC (H64 FC) (padded 64 g N) 0) (padded 64 g N) := ⟨hH3.grown hg3 (by simp), hKr.grown hg3 (by simp), hal, grown_trans hgr hg3⟩
      have hpd : ∀ j, padded 64 g N j < 256 := fun j => by
        unfold padded
        split
        · exact hg _
        · split
          · exact (by decide : 128 < 256)
          · split
            · exact (by decide : 0 < 256)
            · exact Nat.mod_lt _ (by decide)
      have hal3 : w.heap.size ≤ al := Nat.le_trans hgr.size hb3
      have hh1 : hb < al := Nat.lt_of_lt_of_le hH3.lt hb3
      have hh2 : kb < al := Nat.lt_of_lt_of_le hKr.lt hb3
      generalize hpdn : padded 64 g N = pd at *
      generalize hnbn : padBlocks 64 N = nb at *
      have hnb : nb ≤ 2 ^ 36 := by rw [← hnbn]; unfold padBlocks; omega
      have HPD := Lib.hid hpdn
      have HNB := Lib.hid hnbn
      clear hpdn hnbn hal hH3 hKr hgr hRr HRP hg3 hb3 i1
      go_wp2_with fail
      generalize hTn : 128 * nb = T at *
      have HT := Lib.hid hTn
      have hT4 : T ≤ 2 ^ 43 := by omega
      have Hh1 := Lib.hid hh1
      have Hh2 := Lib.hid hh2
      have Hhk := Lib.hid hhk
      have Hhb := Lib.hid hhb
      have Hal := Lib.hid hal3
      have Hkb := Lib.hid hkbw
      clear hTn hh1 hh2 hhk hhb hal3 hkb hkbw
      go_loopw [11] (fun u11 wr => ∃ (i q : Nat), i ≤ nb ∧ u11 = .int .i64 q ∧ Hid (q = 128 * i) ∧ Inv64 w wr hb kb al cap T (stAfter 64 80 P64 KC (H64 FC) pd i) pd) (fun u11 _ => T - (intOf u11).toNat)
      case atStart => exact ⟨0, 0, by omega, rfl, Lib.hid rfl, I3⟩
      case round =>
        clear I3
        obtain ⟨i, q, hi, rfl, hq, hI⟩ := hrel
        obtain ⟨blk, hblk⟩ : ∃ f : Nat → Nat, f = fun j => pd (i * (16 * (64 / 8)) + j) := ⟨_, rfl⟩
        have hbq : ∀ j, blk j = pd (q + j) := fun j => by rw [hblk, hq.out, Nat.mul_comm]
        have hb8 : ∀ j, blk j < 256 := fun j => by rw [hbq]; exact hpd _
        have Hblk := Lib.hid hblk
        have Hbq := Lib.hid hbq
        have Hb8 := Lib.hid hb8
        clear hblk hbq hb8
        by_cases hlt : q < T
        · have i1 : (q : Int) < T := by omega
          have i2 : (T : Int) ≤ 8796093022208 := by omega
          have hqT : q + 128 ≤ T := by have := hq.out; have := HT.out; omega
          have HqT := Lib.hid hqT
          have Hlt := Lib.hid hlt
          clear hqT hlt
          generalize wr = w6 at *
          have HI := Lib.hid hI
          have Hs6 := Lib.hid hI.g.size
          clear hI
          go_wp2_with fail
          go_loopw [12, 13] (fun u12 u13 wq => ∃ t : Nat, t ≤ 16 ∧ u13 = .int .i64 t ∧ OwnW wq w6.heap.size u12 t (word 64 P64 blk) ∧ w6.grownBy wq none) (fun _ u13 _ => 16 - (intOf u13).toNat)
          case atStart => exact ⟨0, by omega, rfl, OwnW.nil _ _ _, grown_refl _ _⟩
          case round =>
            obtain ⟨t, ht, rfl, hoW, hg6⟩ := hrel
            by_cases ht16 : t < 16
            · have j1 : (t : Int) < 16 := by omega
              go_wp2_with fail
              go_loop [14, 15] (fun u14 u15 => ∃ (j x : Nat), j ≤ 8 ∧ u15 = .int .i64 j ∧ u14 = .int .u64 x ∧ Hid (x = be (fun j => blk (t * 8 + j)) j)) (fun _ u15 => 8 - (intOf u15).toNat)
              case atStart => exact ⟨0, 0, by omega, rfl, rfl, Lib.hid rfl⟩
              case round =>
                obtain ⟨j, x, hj, rfl, rfl, hx⟩ := hrel
                by_cases hjs : j < 8
                · have k1 : (j : Int) < 8 := by omega
                  obtain ⟨y, hy⟩ : ∃ y, y = blk (t * 8 + j) := ⟨_, rfl⟩
                  have hqT := HqT.out
                  have hyl : y < 256 := by rw [hy]; exact Hb8.out _
                  have cF : wr.cell? ⟨al, q + t * 64 / 8 + j, none⟩ = some (.int .u8 (y : Nat)) := by
                    rw [show q + t * 64 / 8 + j = q + (t * 8 + j) by omega, (HI.out.p.grown hg6 (by simp)).cell _ (by omega), hy, Hbq.out]
                  have b0 : (0 : Int) ≤ (q : Int) + (t : Int) * 64 / 8 + (j : Int) := by omega
                  have b1 : (q : Int) + (t : Int) * 64 / 8 + (j : Int) < T := by omega
                  have hxl : x < 256 ^ j := by rw [hx.out]; exact be_lt _ (fun _ => Hb8.out _) j
                  have hxm : 256 ^ j ≤ 256 ^ 7 := Nat.pow_le_pow_right (by decide) (by omega)
                  have ex : IntKind.u64.wrap (256 * (x : Int)) = ((256 * x : Nat) : Int) := by rw [IntKind.wrap_u64]; omega
                  have ey : IntKind.u64.wrap (y : Int) = (y : Int) := by rw [IntKind.wrap_u64]; omega
                  obtain ⟨x2, hx2⟩ : ∃ x2, x2 = 256 * x := ⟨_, rfl⟩
                  obtain ⟨z, hz⟩ : ∃ z, z = x2 + y := ⟨_, rfl⟩
                  have ez : IntKind.u64.wrap ((x2 : Int) + (y : Int)) = (z : Int) := by rw [IntKind.wrap_u64]; omega
                  rw [← hx2] at ex
                  have Hz : Hid (z = be (fun j => blk (t * 8 + j)) (j + 1)) := Lib.hid (by rw [hz, hx2, hx.out, hy, Nat.mul_comm]; rfl)
                  clear hz hx2 hxm hxl hqT hy hyl
                  go_wp2_with fail
                  exact ⟨⟨j + 1, z, by omega, by go_num, rfl, Hz⟩, by simp [intOf]; omega⟩
                · have hjE : j = 8 := by omega
                  have k1 : (8 : Int) ≤ j := by omega
                  have Hxw : Hid (x = word 64 P64 blk t) := Lib.hid (by rw [hx.out, hjE, word_low _ _ _ _ ht16])
                  have HjE := Lib.hid hjE
                  have gW := World.grownBy_alloc wr (.cells #[.int .u64 x] 58) none
                  have bW := heap_alloc_new wr (.cells #[.int .u64 x] 58)
                  have hoA := hoW.grown gW
                  have hgA := grown_trans hg6 gW
                  have HC : Hid (∀ j, j < 1 → (wr.alloc (.cells #[.int .u64 x] 58)).cell? ((⟨wr.heap.size, 0, none⟩ : Addr).add j) = some (.int .u64 x)) := Lib.hid (fun j hj => by
                    obtain rfl : j = 0 := by omega
                    show (wr.alloc _).cell? ⟨wr.heap.size, 0, none⟩ = _
                    rw [cell_of_row _ _ _ _ _ _ bW]; rfl)
                  clear hjE hjs hj gW bW hoW hg6 hx
                  go_wp2_with (at_builtin; refine wpList_appW rfl _ _ rfl w6.heap.size _ t _ rfl hoA ⟨wr.heap.size, 0, none⟩ 1 1 (fun _ => x) rfl HC.out (by omega) hgA.size ?_; intro v' w5 hown' hg')
                  have hg5 := grown_ownW hgA hoA hg'
                  have ho5 : OwnW w5 w6.heap.size v' (t + 1) (word 64 P64 blk) := hown'.congr (fun m hm => by
                    by_cases e : m < t
                    · rw [if_pos e]
                    · obtain rfl : m = t := by omega
                      rw [if_neg e, Hxw.out])
                  exact ⟨⟨t + 1, by omega, by go_num, ho5, hg5⟩, by simp [intOf]; omega⟩
            · have htE : t = 16 := by omega
              have j1 : (16 : Int) ≤ t := by omega
              subst htE
              clear ht16 ht
              go_wp2_with fail
              obtain ⟨g7, cap7, rfl, hoV, hg7⟩ := hoW.toV (by decide)
              clear hoW
              go_loopw [12, 16] (fun u12 u16 wq => ∃ (t gv cv : Nat), 16 ≤ t ∧ t ≤ 80 ∧ u16 = .int .i64 t ∧ u12 = .slice (some ⟨gv, 0, none⟩) t cv ∧ OwnV wq gv t cv (word 64 P64 blk) ∧ w6.heap.size ≤ gv ∧ w6.grownBy wq none) (fun _ u16 _ => 80 - (intOf u16).toNat)
              case atStart => exact ⟨16, g7, cap7, by omega, by omega, rfl, rfl, hoV, hg7, hg6⟩
              case round =>
                clear hoV hg6 hg7 j1
                obtain ⟨t, gv, cv, ht0, ht, rfl, rfl, hoV, hgv, hg6⟩ := hrel
                by_cases htR : t < 80
                · have j1 : (t : Int) < 80 := by omega
                  have j0 : (16 : Int) ≤ t := by omega
                  --CUTBEGIN
                  obtain ⟨t2, ht2⟩ : ∃ t2, t2 = t - 2 := ⟨_, rfl⟩
                  obtain ⟨t7, ht7⟩ : ∃ t2, t2 = t - 7 := ⟨_, rfl⟩
                  obtain ⟨t15, ht15⟩ : ∃ t2, t2 = t - 15 := ⟨_, rfl⟩
                  obtain ⟨t16, ht16'⟩ : ∃ t2, t2 = t - 16 := ⟨_, rfl⟩
                  have e2 : IntKind.i64.wrap ((t : Int) - 2) = (t2 : Int) := by rw [IntKind.wrap_i64]; omega
                  have e7 : IntKind.i64.wrap ((t : Int) - 7) = (t7 : Int) := by rw [IntKind.wrap_i64]; omega
                  have e15 : IntKind.i64.wrap ((t : Int) - 15) = (t15 : Int) := by rw [IntKind.wrap_i64]; omega
                  have e16 : IntKind.i64.wrap ((t : Int) - 16) = (t16 : Int) := by rw [IntKind.wrap_i64]; omega
                  have l2 : (t2 : Int) < t := by omega
                  have l7 : (t7 : Int) < t := by omega
                  have l15 : (t15 : Int) < t := by omega
                  have l16 : (t16 : Int) < t := by omega
                  have hwl : ∀ m, word 64 P64 blk m < 2 ^ 64 := fun m => word_lt64 P64 blk Hb8.out m
                  have hwt := word_high 64 P64 blk t ht0
                  rw [← ht2, ← ht7, ← ht15, ← ht16'] at hwt
                  have c2 := fun (W : World) (h : OwnV W gv t cv (word 64 P64 blk)) => h.cell t2 (by omega)
                  have c7 := fun (W : World) (h : OwnV W gv t cv (word 64 P64 blk)) => h.cell t7 (by omega)
                  have c15 := fun (W : World) (h : OwnV W gv t cv (word 64 P64 blk)) => h.cell t15 (by omega)
                  have c16 := fun (W : World) (h : OwnV W gv t cv (word 64 P64 blk)) => h.cell t16 (by omega)
                  have hx2 := hwl t2
                  have hx7 := hwl t7
                  have hx15 := hwl t15
                  have hx16 := hwl t16
                  obtain ⟨nw, hnw⟩ : ∃ nw, nw = word 64 P64 blk t := ⟨_, rfl⟩
                  rw [← hnw] at hwt
                  generalize word 64 P64 blk t2 = x2 at *
                  generalize word 64 P64 blk t7 = x7 at *
                  generalize word 64 P64 blk t15 = x15 at *
                  generalize word 64 P64 blk t16 = x16 at *
                  obtain ⟨f3, hf3⟩ : ∃ f, f = shifted 64 x2 (P64 9) (P64 10) (P64 11) := ⟨_, rfl⟩
                  obtain ⟨f2, hf2⟩ : ∃ f, f = shifted 64 x15 (P64 6) (P64 7) (P64 8) := ⟨_, rfl⟩
                  have lf3 : f3 < 2 ^ 64 := by rw [hf3]; exact shifted_lt 64 _ _ _ _ hx2
                  have lf2 : f2 < 2 ^ 64 := by rw [hf2]; exact shifted_lt 64 _ _ _ _ hx15
                  rw [← hf3, ← hf2] at hwt
                  obtain ⟨y1, hy1⟩ : ∃ y, y = (f3 + x7) % 2 ^ 64 := ⟨_, rfl⟩
                  obtain ⟨y2, hy2⟩ : ∃ y, y = (y1 + f2) % 2 ^ 64 := ⟨_, rfl⟩
                  obtain ⟨y3, hy3⟩ : ∃ y, y = (y2 + x16) % 2 ^ 64 := ⟨_, rfl⟩
                  have ey1 : IntKind.u64.wrap ((f3 : Int) + (x7 : Int)) = (y1 : Int) := by rw [IntKind.wrap_u64]; omega
                  have ey2 : IntKind.u64.wrap ((y1 : Int) + (f2 : Int)) = (y2 : Int) := by rw [IntKind.wrap_u64]; omega
                  have ey3 : IntKind.u64.wrap ((y2 : Int) + (x16 : Int)) = (y3 : Int) := by rw [IntKind.wrap_u64]; omega
                  have Q3 : Hid (∀ W : World, Calls Tryd.prog 56 #[.int .i64 3, .int .u64 x2, .int .i64 64] W fun e w' => e = .returned (.int .u64 f3) ∧ W.grownBy w' none) := Lib.hid fun W => (four3_64 x2 f3 hx2 hf3 W).mono fun _ _ ⟨h1, m, h2⟩ => ⟨h1, by rw [h2]; exact grown_drewN (grown_refl W none) m⟩
                  have Q2 : Hid (∀ W : World, Calls Tryd.prog 56 #[.int .i64 2, .int .u64 x15, .int .i64 64] W fun e w' => e = .returned (.int .u64 f2) ∧ W.grownBy w' none) := Lib.hid fun W => (four2_64 x15 f2 hx15 hf2 W).mono fun _ _ ⟨h1, m, h2⟩ => ⟨h1, by rw [h2]; exact grown_drewN (grown_refl W none) m⟩
                  have QC : Hid (∀ W : World, Calls Tryd.prog 55 #[.int .u64 y3, .int .i64 64] W fun e w' => e = .returned (.int .u64 nw) ∧ W = w') := Lib.hid fun W => cut64 y3 nw (by omega) (by omega) W
                  have HS : Hid (∀ W : World, OwnV W gv t cv (word 64 P64 blk) → w6.grownBy W none → (OwnV W gv t cv (word 64 P64 blk) ∧ w6.grownBy W none ∧ W.cell? ⟨gv, t2, none⟩ = some (.int .u64 x2) ∧ W.cell? ⟨gv, t7, none⟩ = some (.int .u64 x7) ∧ W.cell? ⟨gv, t15, none⟩ = some (.int .u64 x15) ∧ W.cell? ⟨gv, t16, none⟩ = some (.int .u64 x16))) :=
                    Lib.hid fun W h1 h2 => ⟨h1, h2, c2 W h1, c7 W h1, c15 W h1, c16 W h1⟩
                  have HAP : Hid (∀ (W : World) (B : Nat), OwnV W gv t cv (word 64 P64 blk) → w6.grownBy W none → W.cell? ⟨B, 0, none⟩ = some (.int .u64 (nw : Nat)) → ∃ g' cap' w', (Builtin.append_ #[85, 85] 85 #[.slice (some ⟨gv, 0, none⟩) t cv, .slice (some ⟨B, 0, none⟩) 1 1]).run Tryd.prog W = .ok (.slice (some ⟨g', 0, none⟩) (t + 1) cap') w' ∧
                      OwnV w' g' (t + 1) cap' (word 64 P64 blk) ∧ OwnV w' gv t cv (word 64 P64 blk) ∧ w6.grownBy w' none ∧ w6.heap.size ≤ g') := Lib.hid fun W B h1 h2 h3 => by
                    have hR1 : RdW W W.heap.size (some ⟨B, 0, none⟩) 1 (fun _ => nw) := ⟨fun _ => ⟨B, 0, rfl, World.block_lt_of_cell? W _ h3, fun i hi => by
                      obtain rfl : i = 0 := by omega
                      exact h3⟩⟩
                    obtain ⟨v, w', hr, ⟨g', cap', rfl, k1, k2, k3, k4⟩⟩ := app_runW 1 85 h1 hR1 (by omega)
                    refine ⟨g', cap', w', hr, k1.congr (fun m hm => ?_), k2, grown_new h2 k3 hgv, ?_⟩
                    · unfold cat
                      by_cases e : m < t
                      · rw [if_pos e]
                      · obtain rfl : m = t := by omega
                        rw [if_neg e, hnw]
                    · have := h2.size
                      omega
                  clear c2 c7 c15 c16 hx2 hx7 hx15 hx16 hy1 hy2 hy3 lf2 lf3 hf2 hf3 hwt hnw hwl ht2 ht7 ht15 ht16'
                  go_wp2_with fail
                  have hS0 := HS.out wr.drew (hoV.of_block rfl hoV.lt) (grown_drew hg6)
                  have HS0 := Lib.hid hS0
                  clear hS0
                  go_region_held3 (fun w' => OwnV w' gv t cv (word 64 P64 blk) ∧ w6.grownBy w' none ∧ w'.cell? ⟨gv, t2, none⟩ = some (.int .u64 x2) ∧ w'.cell? ⟨gv, t7, none⟩ = some (.int .u64 x7) ∧ w'.cell? ⟨gv, t15, none⟩ = some (.int .u64 x15) ∧ w'.cell? ⟨gv, t16, none⟩ = some (.int .u64 x16))
                    (first
                      | (with_reducible exact HS0.out)
                      | (with_reducible assumption)
                      | (obtain ⟨k1, k2, _⟩ := ‹OwnV _ gv t cv (word 64 P64 blk) ∧ _›; first
                          | (with_reducible exact HS.out _ (k1.grown hg' (by simp)) (grown_trans k2 hg'))
                          | (with_reducible exact HS.out _ (k1.grown (World.grownBy_alloc _ _ none) (by simp)) (grown_trans k2 (World.grownBy_alloc _ _ none)))
                          | (with_reducible exact HS.out _ hv3 hw3)))
                    (first
                      | (go_at_call 56; (with_reducible refine (Q3.out _).mono ?_); rintro e w' ⟨rfl, hg'⟩)
                      | (go_at_call 56; (with_reducible refine (Q2.out _).mono ?_); rintro e w' ⟨rfl, hg'⟩)
                      | (go_at_call 55; (with_reducible refine (QC.out _).mono ?_); rintro e w' ⟨rfl, rfl⟩)
                      | (obtain ⟨k1, k2, _⟩ := ‹OwnV _ gv t cv (word 64 P64 blk) ∧ _›; obtain ⟨gn, capn, w9, hapn, kn1, hv3, hw3, kn4⟩ := HAP.out _ _ k1 k2 (by first | exact new_cell64 k1 | exact new_cellD64 k1);
                         refine step_append_runW rfl (.tmp 90) (.tmp 120) 85 85 rfl (.slice (some ⟨gv, 0, none⟩) t cv) (.slice (some ⟨_, 0, none⟩) 1 1) _ _ rfl rfl hapn ?_))
                  all_goals
                    go_wp2_with fail
                    go_roundw
                    case rel => first
                      | exact ⟨t + 1, gn, capn, by omega, by omega, by go_num, rfl, kn1, kn4, hw3⟩
                      | ((repeat apply Exists.intro); exact ⟨⟨t + 1, gn, capn, by omega, by omega, by go_num, rfl, kn1, kn4, hw3⟩, rfl⟩)
                    case measure => simp [intOf]; omega
                --CUTEND
                · have htE : t = 80 := by omega
                  have j1 : (80 : Int) ≤ t := by omega
                  subst htE
                  clear htR ht ht0
                  have hI7 := HI.out.grown hg6
                  have ho0 := ownV_empty wr
                  have ga := World.grownBy_alloc wr (.cells #[] 58) none
                  have hIa := hI7.grown ga
                  have hRh : RdW (wr.alloc (.cells #[] 58)) (wr.alloc (.cells #[] 58)).heap.size (some ⟨hb, 0, none⟩) 8 (stAfter 64 80 P64 KC (H64 FC) pd i) := ⟨fun _ => ⟨hb, 0, rfl, hIa.h.lt, fun m hm => by rw [Nat.zero_add]; exact hIa.h.cell m hm⟩⟩
                  obtain ⟨v, w8, hap8, ⟨gs, caps, rfl, ho8, _, hg8, hgs⟩⟩ := app_runW 8 85 ho0 hRh (by decide)
                  rw [Nat.zero_add] at hap8 ho8
                  have hg68 : w6.grownBy w8 none := grown_new (grown_trans hg6 ga) hg8 hg6.size
                  have hoV8 : OwnV w8 gv 80 cv (word 64 P64 blk) := (hoV.grown ga (by simp)).grown hg8 (by have := hoV.lt; simp; omega)
                  have hcS : ∀ m, m < 8 → w8.cell? ⟨gs, m, none⟩ = some (.int .u64 ((rnds 64 P64 (fun t => KC t / 2 ^ (64 - 64)) (word 64 P64 blk) (Oct.of (stAfter 64 80 P64 KC (H64 FC) pd i)) 0).get m)) := fun m hm => by
                    rw [ho8.cell m hm]
                    show some (Value.int .u64 (cat 0 _ (stAfter 64 80 P64 KC (H64 FC) pd i) m : Nat)) = some (Value.int .u64 ((Oct.of (stAfter 64 80 P64 KC (H64 FC) pd i)).get m : Nat))
                    rw [Oct.get_of _ _ hm, cat, if_neg (by omega), Nat.sub_zero]
                  have HAP8 := Lib.hid hap8
                  have Hgs : Hid (w6.heap.size ≤ gs) := Lib.hid (by have := hg6.size; have := ga.size; omega)
                  have HcS := Lib.hid hcS
                  clear hap8 hcS ho8 hRh hIa ga ho0 hI7 hoV hg8
                  go_wp2_with (at_builtin; refine wpList_append_run rfl (.tmp 122) (.tmp 123) 85 85 rfl (.slice (some ⟨wr.heap.size, 0, none⟩) 0 0) (.slice (some ⟨hb, 0, none⟩) 8 8) _ _ rfl rfl HAP8.out ?_)
                  go_loopw [17, 18] (fun u17 u18 wq => ∃ (t gs cs : Nat), t ≤ 80 ∧ u18 = .int .i64 t ∧ u17 = .slice (some ⟨gs, 0, none⟩) 8 cs ∧ w6.heap.size ≤ gs ∧
                      (∀ m, m < 8 → wq.cell? ⟨gs, m, none⟩ = some (.int .u64 ((rnds 64 P64 (fun t => KC t / 2 ^ (64 - 64)) (word 64 P64 blk) (Oct.of (stAfter 64 80 P64 KC (H64 FC) pd i)) t).get m))) ∧ OwnV wq gv 80 cv (word 64 P64 blk) ∧ w6.grownBy wq none)
                    (fun _ u18 _ => 80 - (intOf u18).toNat)
                  case atStart => exact ⟨0, gs, caps, by omega, rfl, rfl, Hgs.out, HcS.out, hoV8, hg68⟩
                  case round =>
                    clear hoV8 hg68 hg6
                    obtain ⟨t, gs, cs, ht, rfl, rfl, hgs6, hcv, hoV, hg6⟩ := hrel
                    have Hcv := Lib.hid hcv
                    have Hgs6 := Lib.hid hgs6
                    clear hcv hgs6
                    have hI7 := HI.out.grown hg6
                    by_cases htR : t < 80
                    · have j1 : (t : Int) < 80 := by omega
                      have j2 : (t : Int) < 80 := by omega
                      --CUTBEGIN
                      obtain ⟨kt, hkt⟩ : ∃ k, k = KC t / 2 ^ (64 - 64) := ⟨_, rfl⟩
                      obtain ⟨wt, hwt⟩ : ∃ x, x = word 64 P64 blk t := ⟨_, rfl⟩
                      have ck : wr.drew.cell? ⟨kb, t, none⟩ = some (.int .u64 (KC t)) := hI7.k.cell t (by omega)
                      have cw : wr.drew.cell? ⟨gv, t, none⟩ = some (.int .u64 (wt : Nat)) := by rw [hwt]; exact hoV.cell t htR
                      have hKl := KC_lt t
                      have ktl : kt < 2 ^ 64 := by rw [hkt]; omega
                      have ek2 : IntKind.u64.wrap (kt : Int) = (kt : Int) := by rw [IntKind.wrap_u64]; omega
                      have ek3 : KC t = kt := by rw [hkt]; exact (Nat.div_one _).symm
                      rw [ek3] at ck
                      have hvl : (rnds 64 P64 (fun t => KC t / 2 ^ (64 - 64)) (word 64 P64 blk) (Oct.of (stAfter 64 80 P64 KC (H64 FC) pd i)) t).Lt (2 ^ 64) := rnds_lt _ _ _ _ _ (oct_lt64 _ (stAfter_lt 64 80 P64 KC (H64 FC) pd (fun i => H64_lt FC FC_lt i) i)) t
                      have hrd := round64 gs cs kt wt _ wr.drew (fun m hm => Hcv.out m hm) hvl ktl
                      have hnx : rnds 64 P64 (fun t => KC t / 2 ^ (64 - 64)) (word 64 P64 blk) (Oct.of (stAfter 64 80 P64 KC (H64 FC) pd i)) (t + 1) = rnd 64 P64 kt wt (rnds 64 P64 (fun t => KC t / 2 ^ (64 - 64)) (word 64 P64 blk) (Oct.of (stAfter 64 80 P64 KC (H64 FC) pd i)) t) := by rw [hkt, hwt]; rfl
                      have HRD := Lib.hid hrd
                      have Hnx := Lib.hid hnx
                      have hoD : OwnV wr.drew gv 80 cv (word 64 P64 blk) := hoV.of_block rfl hoV.lt
                      have hgD := grown_drew hg6
                      clear hrd hnx hvl hkt hwt hI7 hKl ktl
                      clear ek3
                      go_wp2_with fail
                      refine wp_region_still_tail 12 (by kernel_rfl) (by kernel_rfl) ?_
                      change wpStill _ _ wr.drew (fun a' => wpList _ _ _ _ a' wr.drew) _ _
                      clear hoV hg6 Hcv
                      generalize wr.drew = w4 at *
                      simp only [List.take_succ_cons, List.take_zero, List.drop_succ_cons, List.drop_zero]
                      repeat still_step
                      refine wpStill_nil ?_
                      go_wp2_with fail
                      go_at_call 57
                      with_reducible refine (HRD.out).mono ?_
                      rintro e w5 ⟨gr, rfl, hgr5, hH5, hg5⟩
                      have hoV5 := hoD.grown hg5 (by simp)
                      have hg65 := grown_trans hgD hg5
                      have Hc5 : Hid (∀ m, m < 8 → w5.cell? ⟨gr, m, none⟩ = some (.int .u64 ((rnds 64 P64 (fun t => KC t / 2 ^ (64 - 64)) (word 64 P64 blk) (Oct.of (stAfter 64 80 P64 KC (H64 FC) pd i)) (t + 1)).get m))) := Lib.hid fun m hm => by rw [Hnx.out]; exact hH5.cell m hm
                      have Hgr6 : Hid (w6.heap.size ≤ gr) := Lib.hid (Nat.le_trans hgD.size hgr5)
                      clear hH5 hoD hgD hg5 hgr5 ck cw ek2
                      go_wp2_with fail
                      exact ⟨⟨t + 1, gr, 8, by omega, by go_num, rfl, Hgr6.out, Hc5.out, hoV5, hg65⟩, by simp [intOf]; omega⟩
                    --CUTEND
                    · have htE : t = 80 := by omega
                      have j1 : (80 : Int) ≤ t := by omega
                      subst htE
                      clear htR ht
                      have hst1 : stAfter 64 80 P64 KC (H64 FC) pd (i + 1) = compress 64 80 P64 KC (stAfter 64 80 P64 KC (H64 FC) pd i) blk := by rw [Hblk.out]; rfl
                      obtain ⟨st, hst⟩ : ∃ f, f = stAfter 64 80 P64 KC (H64 FC) pd i := ⟨_, rfl⟩
                      obtain ⟨vf, hvf⟩ : ∃ f, f = (rnds 64 P64 (fun t => KC t / 2 ^ (64 - 64)) (word 64 P64 blk) (Oct.of (stAfter 64 80 P64 KC (H64 FC) pd i)) 80).get := ⟨_, rfl⟩
                      have hcs : ∀ j, stAfter 64 80 P64 KC (H64 FC) pd (i + 1) j = (st j + vf j) % 2 ^ 64 := fun j => by rw [hst1, hst, hvf]; rfl
                      have hstl : ∀ j, st j < 2 ^ 64 := fun j => by rw [hst]; exact stAfter_lt 64 80 P64 KC (H64 FC) pd (fun i => H64_lt FC FC_lt i) i j
                      have hvfl : ∀ j, j < 8 → vf j < 2 ^ 64 := fun j hj => by
                        rw [hvf]
                        exact oct_get_lt64 _ (rnds_lt _ _ _ _ _ (oct_lt64 _ (stAfter_lt 64 80 P64 KC (H64 FC) pd (fun i => H64_lt FC FC_lt i) i)) 80) j
                      have Hcv7 : Hid (∀ m, m < 8 → wr.cell? ⟨gs, m, none⟩ = some (.int .u64 (vf m : Nat))) := Lib.hid fun m hm => by rw [hvf]; exact Hcv.out m hm
                      rw [← hst] at hI7
                      have Hcs := Lib.hid hcs
                      have Hstl := Lib.hid hstl
                      have Hvfl := Lib.hid hvfl
                      clear hst1 hcs hstl hvfl hvf hst hoV hg6
                      go_wp2_with fail
                      go_loopw [19] (fun u19 wq => ∃ m : Nat, m ≤ 8 ∧ u19 = .int .i64 m ∧ Inv64 w wq hb kb al cap T (fun j => if j < m then (st j + vf j) % 2 ^ 64 else st j) pd ∧ (∀ j, j < 8 → wq.cell? ⟨gs, j, none⟩ = some (.int .u64 (vf j : Nat)))) (fun u19 _ => 8 - (intOf u19).toNat)
                      case atStart => exact ⟨0, by omega, rfl, ⟨hI7.h.congr (fun j _ => by rw [if_neg (by omega)]), hI7.k, hI7.p, hI7.g⟩, Hcv7.out⟩
                      case round =>
                        clear hI7
                        obtain ⟨m, hm, rfl, hI7, hcv⟩ := hrel
                        have HI7 := Lib.hid hI7
                        have Hcv8 := Lib.hid hcv
                        clear hI7 hcv
                        by_cases hm8 : m < 8
                        · have j1 : (m : Int) < 8 := by omega
                          --CUTBEGIN
                          have ch : wr.drew.cell? ⟨hb, m, none⟩ = some (.int .u64 (st m : Nat)) := by
                            have := HI7.out.h.cell m hm8
                            rw [if_neg (by omega)] at this
                            exact this
                          have cv' : wr.drew.cell? ⟨gs, m, none⟩ = some (.int .u64 (vf m : Nat)) := Hcv8.out m hm8
                          have fh : wr.drew.frozen? ⟨hb, m, none⟩ = false := HI7.out.h.frozen m
                          have l1 := Hstl.out m
                          have l2 := Hvfl.out m hm8
                          obtain ⟨y, hy⟩ : ∃ y, y = (st m + vf m) % 2 ^ 64 := ⟨_, rfl⟩
                          obtain ⟨z, hz⟩ : ∃ z, z = (st m + vf m) % 2 ^ 64 := ⟨_, rfl⟩
                          have ey : IntKind.u64.wrap ((st m : Int) + (vf m : Int)) = (y : Int) := by rw [IntKind.wrap_u64]; omega
                          have QC : Hid (∀ W : World, Calls Tryd.prog 55 #[.int .u64 y, .int .i64 64] W fun e w' => e = .returned (.int .u64 z) ∧ w' = W) := Lib.hid fun W => (cut64 y z (by omega) (by omega) W).mono fun _ _ h => ⟨h.1, h.2.symm⟩
                          have Hz := Lib.hid hz
                          have HhD : Hid (Holds wr.drew hb 58 .u64 8 (fun j => if j < m then (st j + vf j) % 2 ^ 64 else st j)) := Lib.hid HI7.out.h.drew
                          have HkD : Hid (Holds wr.drew kb 58 .u64 80 KC) := Lib.hid HI7.out.k.drew
                          have HpD : Hid (OwnR wr.drew al T cap pd) := Lib.hid (HI7.out.p.of_block rfl HI7.out.p.lt)
                          have HgD : Hid (w.grownBy wr.drew none) := Lib.hid (grown_drew HI7.out.g)
                          have HcD : Hid (∀ j, j < 8 → wr.drew.cell? ⟨gs, j, none⟩ = some (.int .u64 (vf j : Nat))) := Lib.hid fun j hj => Hcv8.out j hj
                          clear hy hz l1 l2
                          generalize st m = sm at ch ey
                          generalize vf m = vm at cv' ey
                          go_wp2_with fail
                          refine wp_region_still_tail 14 (by kernel_rfl) (by kernel_rfl) ?_
                          change wpStill _ _ wr.drew (fun a' => wpList _ _ _ _ a' wr.drew) _ _
                          clear HI7 Hcv8
                          generalize wr.drew = w4 at *
                          simp only [List.take_succ_cons, List.take_zero, List.drop_succ_cons, List.drop_zero]
                          repeat still_step
                          still_call (QC.out _)
                          repeat still_step
                          refine wpStill_nil ?_
                          have h5 := HhD.out.set m z
                          have H5h : Holds (w4.setCell ⟨hb, m, none⟩ (.int .u64 (z : Nat))) hb 58 .u64 8 (fun j => if j < m + 1 then (st j + vf j) % 2 ^ 64 else st j) := h5.congr (fun j hj => by
                            by_cases e : j = m
                            · subst e; rw [upd_same, if_pos (by omega), Hz.out]
                            · rw [upd_other _ _ _ _ e]
                              by_cases e2 : j < m
                              · rw [if_pos e2, if_pos (by omega)]
                              · rw [if_neg e2, if_neg (by omega)])
                          have H5 : Hid (Inv64 w (w4.setCell ⟨hb, m, none⟩ (.int .u64 (z : Nat))) hb kb al cap T (fun j => if j < m + 1 then (st j + vf j) % 2 ^ 64 else st j) pd) := Lib.hid
                            ⟨H5h, HkD.out.setOther ⟨hb, m, none⟩ _ (by show kb ≠ hb; exact Ne.symm Hhk.out), HpD.out.of_block (heap_setCell_other w4 _ al _ (by show al ≠ hb; have := Hh1.out; omega)) (by simpa [World.setCell] using HpD.out.lt),
                              grown_setCell_new HgD.out ⟨hb, m, none⟩ _ (Or.inl Hhb.out)⟩
                          have Hc5 : Hid (∀ j, j < 8 → (w4.setCell ⟨hb, m, none⟩ (.int .u64 (z : Nat))).cell? ⟨gs, j, none⟩ = some (.int .u64 (vf j : Nat))) := Lib.hid fun j hj => cell_set (HcD.out j hj) (fun e => by have h1 := HI.out.h.lt; have h2 := Hgs6.out; injection e; omega)
                          clear h5 H5h
                          go_wp2_with fail
                          go_roundw
                          case rel => first
                            | exact ⟨m + 1, by omega, by go_num, H5.out, Hc5.out⟩
                            | ((repeat apply Exists.intro); exact ⟨⟨m + 1, by omega, by go_num, H5.out, Hc5.out⟩, rfl⟩)
                          case measure => simp [intOf]; omega
                        --CUTEND
                        · have hmE : m = 8 := by omega
                          have j1 : (8 : Int) ≤ m := by omega
                          subst hmE
                          clear hm8 hm
                          have hq2 : q + 128 = 128 * (i + 1) := by have := hq.out; omega
                          have HI9 : Hid (Inv64 w wr hb kb al cap T (stAfter 64 80 P64 KC (H64 FC) pd (i + 1)) pd) := Lib.hid ⟨HI7.out.h.congr (fun j hj => by rw [if_pos hj, Hcs.out j]), HI7.out.k, HI7.out.p, HI7.out.g⟩
                          have Hq2 := Lib.hid hq2
                          have hi9 : i + 1 ≤ nb := by have h1 := Hlt.out; have h2 := HT.out; have h3 := hq.out; omega
                          clear hq2
                          go_wp2_with fail
                          exact ⟨⟨i + 1, q + 128, hi9, by go_num, Hq2, HI9.out⟩, by have := Hlt.out; simp [intOf]; omega⟩
        · have hiE : i = nb := by have h1 := HT.out; have h2 := hq.out; omega
          have i1 : (T : Int) ≤ q := by omega
          have i3 : decide ((q : Int) < (T : Int)) = false := by rw [decide_eq_false_iff_not]; omega
          have i4 : decide (q < T) = false := by rw [decide_eq_false_iff_not]; omega
          subst hiE
          generalize wr = w6 at *
          obtain ⟨st, hst⟩ : ∃ f, f = stAfter 64 80 P64 KC (H64 FC) pd i := ⟨_, rfl⟩
          have hstl : ∀ j, st j < 2 ^ 64 := fun j => by rw [hst]; exact stAfter_lt 64 80 P64 KC (H64 FC) pd (fun i => H64_lt FC FC_lt i) i j
          rw [← hst] at hI
          have hsum : sumOf 64 80 P64 KC (H64 FC) g N = fun x => st (x / 8) / 2 ^ (8 * (8 - 1 - x % 8)) % 256 := by
            rw [hst, ← HPD.out, ← HNB.out]; rfl
          have HI := Lib.hid hI
          have Hstl := Lib.hid hstl
          have Hsum := Lib.hid hsum
          clear hsum hstl hst hI hlt hi hq
          generalize hout : (fun x => st (x / 8) / 2 ^ (8 * (8 - 1 - x % 8)) % 256) = outF at Hsum
          have Hout := Lib.hid hout
          clear hout
          go_wp2_with fail
          go_loopw [20, 21] (fun u20 u21 wq => ∃ m : Nat, m ≤ 8 ∧ u21 = .int .i64 m ∧ OwnN wq w6.heap.size u20 (m * 8) outF ∧ w6.grownBy wq none) (fun _ u21 _ => 8 - (intOf u21).toNat)
          case atStart => exact ⟨0, by omega, rfl, OwnN.nil _ _ _, grown_refl _ _⟩
          case round =>
            obtain ⟨m, hm, rfl, hoB, hg6⟩ := hrel
            by_cases hm8 : m < 8
            · have j1 : (m : Int) < 8 := by omega
              go_wp2_with fail
              go_loopw [20, 22] (fun u20 u22 wq => ∃ s : Nat, s ≤ 8 ∧ u22 = .int .i64 ((s : Int) - 1) ∧ OwnN wq w6.heap.size u20 (m * 8 + (8 - s)) outF ∧ w6.grownBy wq none) (fun _ u22 _ => (intOf u22 + 1).toNat)
              case atStart => exact ⟨8, by omega, rfl, by simpa using hoB, hg6⟩
              case round =>
                clear hoB hg6
                obtain ⟨s, hs, rfl, hoB, hg6⟩ := hrel
                by_cases hs0 : s = 0
                · have hs1 : (s : Int) - 1 < 0 := by omega
                  have ho2 : OwnN wr w6.heap.size u20 ((m + 1) * 8) outF := by
                    rw [show (m + 1) * 8 = m * 8 + (8 - s) by omega]; exact hoB
                  clear hs0 hs hoB
                  go_wp2_with fail
                  exact ⟨⟨m + 1, by omega, by go_num, ho2, hg6⟩, by simp [intOf]; omega⟩
                · obtain ⟨j, rfl⟩ : ∃ j, s = j + 1 := ⟨s - 1, by omega⟩
                  have e1 : ((j + 1 : Nat) : Int) - 1 = (j : Int) := by omega
                  rw [e1]
                  have hj : j < 8 := by omega
                  have ij : (j : Int) < 8 := by omega
                  have ch : wr.drew.cell? ⟨hb, m, none⟩ = some (.int .u64 (st m : Nat)) := (HI.out.h.grown hg6 (by simp)).cell m hm8
                  have hsl := Hstl.out m
                  obtain ⟨P, hP⟩ : ∃ P, P = 2 ^ (8 * j) := ⟨_, rfl⟩
                  have hP0 : 0 < P := by rw [hP]; exact Nat.two_pow_pos _
                  obtain ⟨y, hy⟩ : ∃ y, y = st m / P := ⟨_, rfl⟩
                  obtain ⟨z, hz⟩ : ∃ z, z = y % 256 := ⟨_, rfl⟩
                  have hyl : y < 2 ^ 64 := by rw [hy]; exact Nat.lt_of_le_of_lt (Nat.div_le_self _ _) hsl
                  have iP : (0 : Int) < P := by omega
                  have iP2 : P ≠ 0 := by omega
                  have e8 : IntKind.i64.wrap (8 * (j : Int)) = 8 * (j : Int) := by rw [IntKind.wrap_i64]; omega
                  have ey0 : (st m : Int) / (P : Int) = (y : Int) := by rw [hy]; norm_cast
                  have ey1 : (st m : Int).tdiv (P : Int) = (y : Int) := by rw [Int.tdiv_eq_ediv_of_nonneg (by omega)]; exact ey0
                  have ey : IntKind.u64.wrap (y : Int) = (y : Int) := by rw [IntKind.wrap_u64]; omega
                  have ez0 : (y : Int) % 256 = (z : Int) := by omega
                  have ez1 : (y : Int).tmod 256 = (z : Int) := by rw [Int.tmod_eq_emod_of_nonneg (by omega)]; exact ez0
                  have ez : IntKind.u8.wrap (z : Int) = (z : Int) := by rw [IntKind.wrap_u8]; omega
                  have QP : Hid (∀ W : World, Calls Tryd.prog 53 #[.int .i64 (8 * (j : Int))] W fun e w' => e = .returned (.int .u64 P) ∧ W = w') := Lib.hid fun W => power_any _ (8 * j) P (by omega) (by omega) hP W
                  have Hzo : Hid (z = outF (m * 8 + (8 - (j + 1)))) := Lib.hid (by
                    rw [← Hout.out, hz, hy, hP]
                    show _ = st ((m * 8 + (8 - (j + 1))) / 8) / 2 ^ (8 * (8 - 1 - (m * 8 + (8 - (j + 1))) % 8)) % 256
                    rw [show (m * 8 + (8 - (j + 1))) / 8 = m by omega, show 8 - 1 - (m * 8 + (8 - (j + 1))) % 8 = j by omega])
                  have hS0 : Hid (OwnN wr.drew w6.heap.size u20 (m * 8 + (8 - (j + 1))) outF ∧ w6.grownBy wr.drew none ∧ wr.drew.cell? ⟨hb, m, none⟩ = some (.int .u64 (st m : Nat))) := Lib.hid ⟨hoB.grown (grown_drew (grown_refl wr none)), grown_drew hg6, ch⟩
                  have HS : Hid (∀ W W' : World, W.grownBy W' none → (OwnN W w6.heap.size u20 (m * 8 + (8 - (j + 1))) outF ∧ w6.grownBy W none ∧ W.cell? ⟨hb, m, none⟩ = some (.int .u64 (st m : Nat))) → (OwnN W' w6.heap.size u20 (m * 8 + (8 - (j + 1))) outF ∧ w6.grownBy W' none ∧ W'.cell? ⟨hb, m, none⟩ = some (.int .u64 (st m : Nat)))) :=
                    Lib.hid fun W W' h1 h2 => ⟨h2.1.grown h1, grown_trans h2.2.1 h1, h1.cell h2.2.2 (by simp)⟩
                  have HAP : Hid (∀ (W : World) (B : Nat), OwnN W w6.heap.size u20 (m * 8 + (8 - (j + 1))) outF → w6.grownBy W none → W.cell? ⟨B, 0, none⟩ = some (.int .u8 (z : Nat)) → ∃ v' w', (Builtin.append_ #[22, 22] 22 #[u20, .slice (some ⟨B, 0, none⟩) 1 1]).run Tryd.prog W = .ok v' w' ∧
                      OwnN w' w6.heap.size v' (m * 8 + (8 - j)) outF ∧ (OwnN w' w6.heap.size u20 (m * 8 + (8 - (j + 1))) outF ∧ w6.grownBy w' none ∧ w'.cell? ⟨hb, m, none⟩ = some (.int .u64 (st m : Nat)))) := Lib.hid fun W B h1 h2 h3 => by
                    have hR1 : Rd W W.heap.size (some ⟨B, 0, none⟩) 1 (fun _ => z) := ⟨fun _ => ⟨B, 0, rfl, World.block_lt_of_cell? W _ h3, fun i hi => by
                      obtain rfl : i = 0 := by omega
                      exact h3⟩⟩
                    obtain ⟨v', w', hr, k1, k2, k3⟩ := app_N 1 22 h2 h1 hR1 (by omega) (by decide)
                    have e3 : m * 8 + (8 - j) = m * 8 + (8 - (j + 1)) + 1 := by omega
                    refine ⟨v', w', hr, ?_, k2, k3, (HI.out.h.grown k3 (by simp)).cell m hm8⟩
                    rw [e3]
                    obtain ⟨ex⟩ := k1
                    refine ⟨ex.imp id (fun ⟨g0, c0, q1, q2, q3⟩ => ⟨g0, c0, q1, q2.congr (fun x hx => ?_), q3⟩)⟩
                    unfold cat
                    by_cases e : x < m * 8 + (8 - (j + 1))
                    · rw [if_pos e]
                    · have e4 : x = m * 8 + (8 - (j + 1)) := by omega
                      rw [if_neg e, e4, Hzo.out]
                  clear hz hy hyl hP hP0 hsl hoB hg6 e1 hs hs0 hj ch
                  generalize st m = sm at *
                  go_wp2_with fail
                  go_region_held3 (fun w' => OwnN w' w6.heap.size u20 (m * 8 + (8 - (j + 1))) outF ∧ w6.grownBy w' none ∧ w'.cell? ⟨hb, m, none⟩ = some (.int .u64 (sm : Nat)))
                    (first
                      | (with_reducible exact hS0.out)
                      | (with_reducible assumption)
                      | (with_reducible exact hv3)
                      | (have k0 := ‹OwnN _ w6.heap.size u20 (m * 8 + (8 - (j + 1))) outF ∧ _›; with_reducible exact HS.out _ _ (World.grownBy_alloc _ _ none) k0))
                    (first
                      | (go_at_call 53; (with_reducible refine (QP.out _).mono ?_); rintro e w' ⟨rfl, rfl⟩)
                      | (have k0 := ‹OwnN _ w6.heap.size u20 (m * 8 + (8 - (j + 1))) outF ∧ _›; obtain ⟨v9, w9, hapn, hv9, hv3⟩ := HAP.out _ _ k0.1 k0.2.1 (by first | exact new_cellN64 k0.1 | exact new_cellND64 k0.1);
                         refine step_append_runW rfl (.tmp 172) (.tmp 183) 22 22 rfl u20 (.slice (some ⟨_, 0, none⟩) 1 1) _ _ rfl rfl hapn ?_))
                  all_goals
                    have hg9 := hv3.2.1
                    clear hv3 hapn
                    go_wp2_with fail
                    go_roundw
                    case rel => first
                      | exact ⟨j, by omega, rfl, hv9, hg9⟩
                      | ((repeat apply Exists.intro); exact ⟨⟨j, by omega, rfl, hv9, hg9⟩, rfl⟩)
                    case measure => simp [intOf]
            · have hmE : m = 8 := by omega
              have j1 : (8 : Int) ≤ m := by omega
              subst hmE
              clear hm8 hm
              go_wp2_with fail
              go_ret
              have hs := HI.out.g
              exact ⟨_, rfl, by rw [Hsum.out]; exact hoB.base hs.size, grown_trans hs hg6⟩

end Go.Proofs.YtopepbkpcfbegaaDoor
