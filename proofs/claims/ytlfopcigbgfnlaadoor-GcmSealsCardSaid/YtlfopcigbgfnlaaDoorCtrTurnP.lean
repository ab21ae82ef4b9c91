/-
  ctr's turn.
-/
import Derived.Test.YtlfopcigbgfnlaaDoorCtrBlocks
import Derived.Test.YtlfopcigbgfnlaaDoorOwnR
namespace Go.Proofs.YtlfopcigbgfnlaaDoor
open Go.RowKit Go.Shelf

attribute [local go_sem] Oper.semAt_some

set_option maxRecDepth 100000
set_option maxHeartbeats 2000000

/-- What a round may write: the text's box, and its bytes. -/
def tX (w : World) (gb : Nat) (x : Nat) : Prop := x = w.heap.size ∨ x = gb
/-- The first i bytes are turned. -/
def tPart (F S : Nat → Nat) (i x : Nat) : Nat := if x < i then F x ^^^ S x else F x

/-- What stands between two rounds. -/
structure TurnI (w : World) (gb N c : Nat) (F S : Nat → Nat) (k : Nat) (U : World) : Prop where
  box : U.cell? ⟨w.heap.size, 0, none⟩ = some (.slice (some ⟨gb, 16 * k, none⟩) (N - 16 * k) (c - 16 * k))
  fz : U.frozen? ⟨w.heap.size, 0, none⟩ = false
  own : OwnR U gb N c (tPart F S (16 * k))
  lt : 16 * k < N
  gr : w.grownBy U (some gb)
theorem grown_row {w0 w w' : World} {B r : Nat} (h : w0.grownBy w (some B)) (g : w.grownBy w' (some r)) (hr : w0.heap.size ≤ r) : w0.grownBy w' (some B) := grown_new h g hr
theorem grown_any {w0 w w' : World} {B : Nat} {row : Option Nat} (h : w0.grownBy w (some B)) (g : w.grownBy w' row) (hr : ∀ r, row = some r → w0.heap.size ≤ r) : w0.grownBy w' (some B) := by
  cases row with
  | none => exact grown_trans h (grown_some g)
  | some r => exact grown_new h g (hr r rfl)
theorem TurnI.keeps {w : World} {gb N c : Nat} {F S : Nat → Nat} (hg : gb < w.heap.size) (k : Nat) (U U' : World) (row : Option Nat) (h : TurnI w gb N c F S k U) (hgr : U.grownBy U' row) (hr : ∀ r, row = some r → w.heap.size + 1 ≤ r) : TurnI w gb N c F S k U' := by
  have hb : some w.heap.size ≠ row := fun e => by have := hr _ e.symm; omega
  have hg' : some gb ≠ row := fun e => by have := hr _ e.symm; omega
  have hlt := World.block_lt_of_cell? U _ h.box
  exact ⟨hgr.cell h.box hb, (World.frozen?_of_block (a := ⟨w.heap.size, 0, none⟩) (hgr.block _ hlt hb)).trans h.fz, h.own.grown hgr hg', h.lt, grown_any h.gr hgr (fun r e => by have := hr r e; omega)⟩

/-- The same; no block of a round is kept. -/
def TurnIZ (w : World) (gb N c : Nat) (F S : Nat → Nat) (Z : Nat → Prop) (k : Nat) (U : World) : Prop := (∀ z, ¬ Z z) ∧ TurnI w gb N c F S k U
theorem TurnI.above {w : World} {gb N c : Nat} {F S : Nat → Nat} (hg : gb < w.heap.size) : Above (w.heap.size + 1) (TurnIZ w gb N c F S) := fun _ k U U' row h hgr hr =>
  ⟨h.1, TurnI.keeps hg k U U' row h.2 hgr (fun r e => (hr r e).1)⟩
def noZ (_ : Nat) : Prop := False

/-- Within a round that began in W: i bytes of it are turned. -/
structure TurnR (w W : World) (gb N c b q : Nat) (F S s : Nat → Nat) (i : Nat) (U : World) : Prop where
  ko : KeepsOthers W U
  ks : KeepS (w.heap.size + 1) (w.heap.size + 1 + 2) (tX w gb) noZ W U
  box : U.cell? ⟨w.heap.size, 0, none⟩ = some (.slice (some ⟨gb, q, none⟩) (N - q) (c - q))
  fz : U.frozen? ⟨w.heap.size, 0, none⟩ = false
  own : OwnR U gb N c (tPart F S (q + i))
  gr : w.grownBy U (some gb)
  blk : Holds U b 24 .u8 16 s
theorem KeepS.setCell {A B : Nat} {X Z : Nat → Prop} {W U : World} (h : KeepS A B X Z W U) (a : Addr) (v : Value) (hA : a.block < B ∨ Z a.block) (hX : a.block < A → X a.block) : KeepS A B X Z W (U.setCell a v) :=
  ⟨by simpa [World.setCell] using h.size, fun b hb hc => by
    have : b ≠ a.block := fun e => by
      subst e
      rcases hc with ⟨hc, hz⟩ | ⟨hc, hn⟩
      · rcases hA with h | h
        · omega
        · exact hz h
      · exact hn (hX hc)
    rw [heap_setCell_other _ _ _ _ this]
    exact h.eq b hb hc⟩
theorem TurnR.set {w W U : World} {gb N c b q : Nat} {F S s : Nat → Nat} {i : Nat} (h : TurnR w W gb N c b q F S s i U) (hi : q + i < N) (hg : gb < w.heap.size) (hb : b ≠ gb) : TurnR w W gb N c b q F S s (i + 1) (U.setCell ⟨gb, q + i, none⟩ (.int .u8 (F (q + i) ^^^ S (q + i) : Nat))) where
  ko := h.ko.trans (KeepsOthers.setCell _ _ _)
  ks := h.ks.setCell _ _ (Or.inl (by show gb < _; omega)) (fun _ => Or.inr rfl)
  box := cell_set h.box (by intro e; injection e with e; omega)
  fz := by rw [World.frozen?_setCell]; exact h.fz
  own := (h.own.set (q + i) (F (q + i) ^^^ S (q + i)) hi).congr (fun x hx => by
    unfold upd tPart
    by_cases e : x = q + i
    · subst e; rw [if_pos rfl, if_pos (by omega)]
    · rw [if_neg e]
      by_cases e2 : x < q + i
      · rw [if_pos e2, if_pos (by omega)]
      · rw [if_neg e2, if_neg (by omega)])
  gr := grown_setCell_new h.gr _ _ (Or.inr rfl)
  blk := h.blk.setOther _ _ hb
theorem TurnR.drew {w W U : World} {gb N c b q : Nat} {F S s : Nat → Nat} {i : Nat} (h : TurnR w W gb N c b q F S s i U) : TurnR w W gb N c b q F S s i U.drew :=
  ⟨⟨h.ko.size, h.ko.same⟩, ⟨h.ks.size, h.ks.eq⟩, h.box, h.fz, h.own.of_block rfl h.own.lt, grown_drew h.gr, h.blk.drew⟩

theorem TurnR.next {w W U : World} {gb N c b q k : Nat} {F S s : Nat → Nat} (h : TurnR w W gb N c b q F S s 16 U) (hq : q = 16 * k) (hN : q + 16 < N) (hg : gb < w.heap.size) (v : Value) (hv : v = .slice (some ⟨gb, q + 16, none⟩) (N - q - 16) (c - q - 16)) :
    KeepsOthers W (U.setCell ⟨w.heap.size, 0, none⟩ v) ∧ KeepS (w.heap.size + 1) (w.heap.size + 1 + 2) (tX w gb) noZ W (U.setCell ⟨w.heap.size, 0, none⟩ v) ∧ TurnI w gb N c F S (k + 1) (U.setCell ⟨w.heap.size, 0, none⟩ v) := by
  subst hv
  subst hq
  refine ⟨h.ko.trans (KeepsOthers.setCell _ _ _), h.ks.setCell _ _ (Or.inl (by show w.heap.size < _; omega)) (fun _ => Or.inl rfl), ?_, ?_, ?_, by omega, grown_setCell_new h.gr _ _ (Or.inl (Nat.le_refl _))⟩
  · rw [World.cell?_setCell_same U _ _ h.box, show 16 * (k + 1) = 16 * k + 16 by omega, Nat.sub_sub, Nat.sub_sub]
  · rw [World.frozen?_setCell]; exact h.fz
  · rw [show 16 * (k + 1) = 16 * k + 16 by omega]
    exact h.own.of_block (heap_setCell_other _ _ _ _ (by show gb ≠ w.heap.size; omega)) (by simpa [World.setCell] using h.own.lt)
theorem TurnR.over {w W U : World} {gb N c b q L : Nat} {F S s G : Nat → Nat} (h : TurnR w W gb N c b q F S s L U) (hN : q + L = N) (hg : gb < w.heap.size) (hG : ∀ x, G x = F x ^^^ S x) (v : Value) :
    KeepsOthers W (U.setCell ⟨w.heap.size, 0, none⟩ v) ∧ OwnR (U.setCell ⟨w.heap.size, 0, none⟩ v) gb N c G ∧ w.grownBy (U.setCell ⟨w.heap.size, 0, none⟩ v) (some gb) :=
  ⟨h.ko.trans (KeepsOthers.setCell _ _ _), (h.own.of_block (heap_setCell_other _ _ _ _ (by show gb ≠ w.heap.size; omega)) (by simpa [World.setCell] using h.own.lt)).congr (fun x hx => by unfold tPart; rw [if_pos (by omega), hG]),
    grown_setCell_new h.gr _ _ (Or.inl (Nat.le_refl _))⟩

/-- A round's frame. -/
def turnAct (w : World) (gb N c b1 b2 b : Nat) (s : Nat → Nat) : Act :=
  { tmps := #[.slice (some ⟨gb, 0, none⟩) N c, .func (.func 48) #[] #[.pointer (some ⟨b1, 0, none⟩), .pointer (some ⟨b2, 0, none⟩)], .pointer (some ⟨w.heap.size, 0, none⟩), undef, .pointer (some ⟨b, 0, none⟩), undef, undef, .func (.func 48) #[] #[.pointer (some ⟨b1, 0, none⟩), .pointer (some ⟨b2, 0, none⟩)], .agg (cellsOf .u8 16 s),
    undef, undef, undef, undef, undef, undef, undef, undef, undef, undef, undef, undef, undef, undef, undef, undef, undef, undef, undef, undef, undef, undef, undef], defers := [] }

/-- How a round begins. -/
def turnAx (w : World) (gb N c b1 b2 : Nat) (F S : Nat → Nat) (B : Nat → Nat → Nat) (Z : Nat → Prop) (k : Nat) (a : Act) (U : World) : Prop :=
  (∀ z, ¬ Z z) ∧ ∃ b, a = turnAct w gb N c b1 b2 b (B k) ∧ w.heap.size < b ∧ Holds U b 24 .u8 16 (B k) ∧ TurnI w gb N c F S k U

theorem turn_own (m R b1 b2 gb N c : Nat) (C W f F : Nat → Nat) (w : World) (hW : ∀ i, W i < 256) (hf : ∀ i, f i < 256) (hF : ∀ i, F i < 256) (h1 : 1 ≤ R) (hR : R ≤ 14) (hCc : Cols (4 * (R + 1)) W C) (hm : gb ≠ m) (hgs : gb ≠ 0) (hb1 : gb ≠ b1)
    (hC : Ciph w m R C) (hL : LaidS w 0) (hB1 : w.cell? ⟨b1, 0, none⟩ = some (.pointer (some ⟨m, 0, none⟩))) (hB2 : Holds w b2 24 .u8 16 f) (hO : OwnR w gb N c F) (h0 : 0 < N) (hN : N ≤ 2 ^ 40) :
    Calls Tryd.prog 32 #[.slice (some ⟨gb, 0, none⟩) N c, .func (.func 48) #[] #[.pointer (some ⟨b1, 0, none⟩), .pointer (some ⟨b2, 0, none⟩)]] w fun e w' => (∃ v, e = .returned v) ∧ OwnR w' gb N c (turnF R W f F) ∧ w.grownBy w' (some gb) := by
  have hgl := hO.lt
  have hml := World.block_lt_of_cell? w _ hC.rounds
  have hsl := World.block_lt_of_cell? w _ (hL.at_ 0 (by decide))
  have hbl := World.block_lt_of_cell? w _ hB1
  obtain ⟨S, hS⟩ : ∃ S : Nat → Nat, ∀ i, S i = strm R W f (i / 16) (i % 16) := ⟨_, fun _ => rfl⟩
  obtain ⟨G, hG⟩ : ∃ G, G = turnF R W f F := ⟨_, rfl⟩
  have hGS : ∀ x, G x = F x ^^^ S x := fun x => by rw [hG, hS]; rfl
  have hSl : ∀ x, S x < 256 := fun x => by rw [hS]; exact strm_lt R W f hW hf _ _
  rw [← hG]
  have HS := Lib.hid hS
  have HGS := Lib.hid hGS
  have HSl := Lib.hid hSl
  clear hG hS hGS hSl
  refine (callsIn_wide (n := 6)).1 ?_
  refine callsIn_of_wp_marks Tryd.func32 rfl trivial ?_ rfl
  simp only [Tryd.ntmps32, List.size_toArray, List.length_cons, List.length_nil, Nat.reduceAdd, Nat.reduceSub, Array.replicate_succ, Array.replicate_zero, List.push_toArray, List.append_toArray, List.nil_append, List.cons_append]
  refine wpIn_wide.2 ?_
  go_wp2_with fail
  refine (wpIn_wide (n := 6)).1 ?_
  have hg1 := World.grownBy_alloc w (.cells #[.slice (some ⟨gb, 0, none⟩) N c] 22) none
  have hI0 : TurnI w gb N c F S 0 (w.alloc (.cells #[.slice (some ⟨gb, 0, none⟩) N c] 22)) :=
    ⟨by rw [cell_of_row _ _ _ _ _ _ (heap_alloc_new w _)]; rfl, frozen_of_row _ _ _ _ _ (heap_alloc_new w _), (hO.grown hg1 (by simp)).congr (fun x _ => by unfold tPart; rw [if_neg (by omega)]), h0, grown_some hg1⟩
  have hC1 := hC.grown hg1 (by simp)
  have hL1 := hL.grown hg1 (by simp)
  have hB11 := hg1.cell hB1 (by simp)
  have hB21 := hB2.grown hg1 (by simp)
  have hz : (w.alloc (.cells #[.slice (some ⟨gb, 0, none⟩) N c] 22)).heap.size = w.heap.size + 1 := by simp
  generalize w.alloc (.cells #[.slice (some ⟨gb, 0, none⟩) N c] 22) = w1 at *
  refine wpIn_stream rfl (by decide) (gf := 48) (lb := #[.pointer (some ⟨b1, 0, none⟩), .pointer (some ⟨b2, 0, none⟩)]) rfl trivial (enters_of Tryd.func48 (by kernel_rfl) rfl)
    (X := tX w gb) (stream_streams (6 - 1) m R b1 b2 C W f w1 hW hf h1 hR hCc (by decide) (tX w gb) (fun h => by unfold tX at h; omega) (fun h => by unfold tX at h; omega) (fun h => by unfold tX at h; omega) hC1 hL1 hB11 hB21) (fun _ => rfl)
    (TurnIZ w gb N c F S) (fun cd _ U => cd = .exit 0 ∧ OwnR U gb N c G ∧ w.grownBy U (some gb)) N (fun Z k U h => by have := h.2.lt; omega) (by rw [hz]; exact TurnI.above hgl) (fun Z k U h z hz => absurd hz (h.1 z))
    (fun cd k U U' row h hg hr => ⟨h.1, h.2.1.grown hg (fun e => by have := (hr _ e.symm).1; omega), grown_any h.2.2 hg (fun r e => by have := (hr r e).1; omega)⟩) ⟨fun _ h => h, hI0⟩
    (turnAx w gb N c b1 b2 F S (strm R W f)) ?_ ?_ ?_ ?_
  · intro Z k a' _ U U' row h hgr hr
    obtain ⟨hnz, b, rfl, h2, h3, h4⟩ := h
    exact ⟨hnz, b, rfl, h2, h3.grown hgr (fun e => by
      obtain ⟨_, o, ho, hc⟩ := hr _ e.symm
      rw [h3.block] at ho
      cases ho
      cases hc), TurnI.keeps hgl _ _ _ _ h4 hgr (fun r e => by have := (hr r e).1; omega)⟩
  · rintro l k Z U K ⟨hnz, hI⟩ _ hK
    obtain ⟨B, hB⟩ : ∃ B, B = strm R W f := ⟨_, rfl⟩
    rw [← hB] at hK ⊢
    have hbn := heap_alloc_new U (.cells #[.int .u8 0, .int .u8 0, .int .u8 0, .int .u8 0, .int .u8 0, .int .u8 0, .int .u8 0, .int .u8 0, .int .u8 0, .int .u8 0, .int .u8 0, .int .u8 0, .int .u8 0, .int .u8 0, .int .u8 0, .int .u8 0] 24)
    have hN0 := (holds_alloc U 24 .u8 16 (fun _ => 0) _ zero16).setRow .u8 16 (B k)
    have hga := grown_setRow_new (World.grownBy_alloc U (.cells #[.int .u8 0, .int .u8 0, .int .u8 0, .int .u8 0, .int .u8 0, .int .u8 0, .int .u8 0, .int .u8 0, .int .u8 0, .int .u8 0, .int .u8 0, .int .u8 0, .int .u8 0, .int .u8 0, .int .u8 0, .int .u8 0] 24) none) U.heap.size (cellsOf .u8 16 (B k)) (Or.inl (Nat.le_refl _))
    have hlt := World.block_lt_of_cell? U _ hI.box
    have HN := Lib.hid hN0
    have HG := Lib.hid hga
    have HI := Lib.hid hI
    have HB := Lib.hid hB
    have HK := Lib.hid hK
    clear hN0 hga hI hB hK
    gi_wp2_with (refine roundIn_store_row rfl 24 (.tmp 4) (.tmp 8) rfl U.heap.size _ rfl rfl 24 _ hbn (by rw [cellsOf_size]; kernel_rfl) rfl (cellsOf_all _ _ _) ?_)
    exact HK.out _ _ (KeepsOthers.of_grownBy HG.out (fun _ _ e => by cases e)) (KeepS.grown HG.out) ⟨hnz, U.heap.size, rfl, by omega, HN.out, TurnI.keeps hgl _ _ _ none HI.out HG.out (fun r e => by cases e)⟩
  · rintro l k Z a' U ⟨hnz, b, rfl, hb, hH, hI⟩
    unfold turnAct
    have hbg : b ≠ gb := by omega
    obtain ⟨s, hs⟩ : ∃ s, s = strm R W f k := ⟨_, rfl⟩
    rw [← hs] at hH ⊢
    have hsS : ∀ j, j < 16 → S (16 * k + j) = s j := fun j hj => by rw [HS.out, hs, show (16 * k + j) / 16 = k by omega, show (16 * k + j) % 16 = j by omega]
    obtain ⟨q, hq⟩ : ∃ q, q = 16 * k := ⟨_, rfl⟩
    have hR0 : TurnR w U gb N c b q F S s 0 U := ⟨KeepsOthers.refl U, KeepS.refl _ _ _ _ _, by rw [hq]; exact hI.box, hI.fz, by rw [hq]; exact hI.own, hI.gr, hH⟩
    have hqN : q < N := by rw [hq]; exact hI.lt
    have hcN := hI.own.le
    rw [← hq] at hsS
    have hbox := hR0.box
    have HsS := Lib.hid hsS
    have Hq := Lib.hid hq
    have Hs := Lib.hid hs
    have HR0 := Lib.hid hR0
    have HcN := Lib.hid hcN
    obtain ⟨L, hL⟩ : ∃ L, L = N - q := ⟨_, rfl⟩
    obtain ⟨c', hc'⟩ : ∃ c', c' = c - q := ⟨_, rfl⟩
    rw [← hL, ← hc'] at hbox
    have i0 : (0 : Int) < L := by omega
    have i1 : (L : Int) ≤ 1099511627776 := by omega
    have HL := Lib.hid hL
    have Hc' := Lib.hid hc'
    clear hs hsS hq hR0 hI hH hL hc' hcN
    by_cases h16 : 16 < L
    · have i2 : (16 : Int) < L := by omega
      gi_wp2
      gi_loopw [6, 13] (fun _ u13 wr => ∃ i : Nat, i ≤ 16 ∧ u13 = .int .i64 i ∧ TurnR w U gb N c b q F S s i wr) (fun _ u13 _ => 16 - (intOf u13).toNat)
      case atStart => exact ⟨0, by omega, rfl, HR0.out⟩
      case round =>
        clear hbox HR0
        obtain ⟨i, hi, rfl, hT⟩ := hrel
        by_cases hlt : i < 16
        · have j1 : (i : Int) < 16 := by omega
          have j2 : (i : Int) < 16 := by omega
          have j3 : (i : Int) < L := by omega
          have hqi : q + i < N := by have := HL.out; omega
          have c0 : wr.drew.cell? ⟨w.heap.size, 0, none⟩ = some (.slice (some ⟨gb, q, none⟩) L c') := by rw [HL.out, Hc'.out]; exact hT.box
          have c1 : wr.drew.cell? ⟨gb, q + i, none⟩ = some (.int .u8 (tPart F S (q + i) (q + i) : Nat)) := hT.own.cell (q + i) hqi
          have c2 : wr.drew.cell? ⟨b, i, none⟩ = some (.int .u8 (s i : Nat)) := hT.blk.cell i (by omega)
          have fr : wr.drew.frozen? ⟨gb, q + i, none⟩ = false := hT.own.free (q + i)
          have e1 : tPart F S (q + i) (q + i) = F (q + i) := by unfold tPart; rw [if_neg (by omega)]
          rw [e1] at c1
          have hx := bits_xor_u8 (F (q + i)) (s i) (hF _) (by rw [← HsS.out i (by omega)]; exact HSl.out _)
          have hset := hT.drew.set hqi hgl hbg
          rw [HsS.out i (by omega)] at hset
          generalize F (q + i) ^^^ s i = v at hx hset
          generalize F (q + i) = x0 at c1 hx
          generalize s i = x1 at c2 hx
          have HSet := Lib.hid hset
          clear hset e1 hT
          gi_wp2
          refine wpIn_region_still_tail 8 (by kernel_rfl) (by kernel_rfl) (by kernel_rfl) (by rintro ⟨_, _, h⟩; exact h) ?_
          change wpStill _ _ wr.drew (fun a' => wpList _ _ _ _ a' wr.drew) _ _
          generalize wr.drew = V2 at *
          simp only [List.take_succ_cons, List.take_zero, List.drop_succ_cons, List.drop_zero]
          repeat still_step
          refine wpStill_nil ?_
          go_wp2_with fail
          gi_wp2
          first
            | exact ⟨⟨i + 1, by omega, by go_num, HSet.out⟩, by simp [intOf]; omega⟩
            | (go_roundw
               case rel => exact ⟨i + 1, by omega, by go_num, HSet.out⟩
               case measure => simp [intOf]; omega)
        · obtain rfl : i = 16 := by omega
          obtain ⟨a2, ha2, ht1, ht2⟩ := run_rest (Q := Tryd.prog) (T := 22) (E := 5) (by kernel_rfl) (fun _ => by kernel_rfl) gb q L c' 16 (by omega) (by have := HL.out; have := Hc'.out; have := HcN.out; omega)
          obtain rfl := ha2 (by omega)
          replace ht1 : ∀ w, (Instr.sliceAt 22 (.slice (some ⟨gb, q, none⟩) L c') (some (.int .i64 16)) none none).run Tryd.prog w = .ok (.slice (some ⟨gb, q + 16, none⟩) (L - 16) (c' - 16)) w := ht1
          replace ht2 : ∀ w, (Instr.slice 22 (.slice (some ⟨gb, q, none⟩) L c') (some (.int .i64 16)) none none).run Tryd.prog w = .ok (.slice (some ⟨gb, q + 16, none⟩) (L - 16) (c' - 16)) w := ht2
          have hc := hT.box
          have hf0 := hT.fz
          have hNx := hT.next (k := k) Hq.out (by have := HL.out; omega) hgl (.slice (some ⟨gb, q + 16, none⟩) (L - 16) (c' - 16)) (by rw [HL.out, Hc'.out])
          have hc1 := World.cell?_setCell_same wr ⟨w.heap.size, 0, none⟩ (.slice (some ⟨gb, q + 16, none⟩) (L - 16) (c' - 16)) hc
          rw [← HL.out, ← Hc'.out] at hc
          have i5 : (0 : Int) < ((L - 16 : Nat) : Int) := by omega
          generalize L - 16 = L2 at *
          generalize c' - 16 = c2 at *
          have HNx := Lib.hid hNx
          clear hNx hT hi hlt ha2
          gi_wp2
          rw [hz]
          obtain ⟨x1, x2, x3⟩ := HNx.out
          exact ⟨x1, ⟨x2.size, fun b hb hc => x2.eq b hb (hc.imp (fun h => ⟨h.1, fun h => h⟩) id)⟩, noZ, ⟨fun _ h => h, x3⟩, fun _ h => h.elim⟩
    · have i2 : (L : Int) ≤ 16 := by omega
      gi_wp2
      gi_loopw [6, 13] (fun _ u13 wr => ∃ i : Nat, i ≤ L ∧ u13 = .int .i64 i ∧ TurnR w U gb N c b q F S s i wr) (fun _ u13 _ => L - (intOf u13).toNat)
      case atStart => exact ⟨0, by omega, rfl, HR0.out⟩
      case round =>
        clear hbox HR0
        obtain ⟨i, hi, rfl, hT⟩ := hrel
        by_cases hlt : i < L
        · have j1 : (i : Int) < L := by omega
          have j2 : (i : Int) < 16 := by omega
          have j3 : (i : Int) < L := by omega
          have hqi : q + i < N := by have := HL.out; omega
          have c0 : wr.drew.cell? ⟨w.heap.size, 0, none⟩ = some (.slice (some ⟨gb, q, none⟩) L c') := by rw [HL.out, Hc'.out]; exact hT.box
          have c1 : wr.drew.cell? ⟨gb, q + i, none⟩ = some (.int .u8 (tPart F S (q + i) (q + i) : Nat)) := hT.own.cell (q + i) hqi
          have c2 : wr.drew.cell? ⟨b, i, none⟩ = some (.int .u8 (s i : Nat)) := hT.blk.cell i (by omega)
          have fr : wr.drew.frozen? ⟨gb, q + i, none⟩ = false := hT.own.free (q + i)
          have e1 : tPart F S (q + i) (q + i) = F (q + i) := by unfold tPart; rw [if_neg (by omega)]
          rw [e1] at c1
          have hx := bits_xor_u8 (F (q + i)) (s i) (hF _) (by rw [← HsS.out i (by omega)]; exact HSl.out _)
          have hset := hT.drew.set hqi hgl hbg
          rw [HsS.out i (by omega)] at hset
          generalize F (q + i) ^^^ s i = v at hx hset
          generalize F (q + i) = x0 at c1 hx
          generalize s i = x1 at c2 hx
          have HSet := Lib.hid hset
          clear hset e1 hT
          gi_wp2
          refine wpIn_region_still_tail 8 (by kernel_rfl) (by kernel_rfl) (by kernel_rfl) (by rintro ⟨_, _, h⟩; exact h) ?_
          change wpStill _ _ wr.drew (fun a' => wpList _ _ _ _ a' wr.drew) _ _
          generalize wr.drew = V2 at *
          simp only [List.take_succ_cons, List.take_zero, List.drop_succ_cons, List.drop_zero]
          repeat still_step
          refine wpStill_nil ?_
          go_wp2_with fail
          gi_wp2
          first
            | exact ⟨⟨i + 1, by omega, by go_num, HSet.out⟩, by simp [intOf]; omega⟩
            | (go_roundw
               case rel => exact ⟨i + 1, by omega, by go_num, HSet.out⟩
               case measure => simp [intOf]; omega)
        · obtain rfl : i = L := by omega
          obtain ⟨a2, ha2, ht1, ht2⟩ := run_rest (Q := Tryd.prog) (T := 22) (E := 5) (by kernel_rfl) (fun _ => by kernel_rfl) gb q i c' i (Nat.le_refl _) (by have := HL.out; have := Hc'.out; have := HcN.out; omega)
          rw [Nat.sub_self] at ht1 ht2
          have hc := hT.box
          have hf0 := hT.fz
          have hNx := hT.over (by have := HL.out; omega) hgl HGS.out (.slice a2 0 (c' - i))
          have hc1 := World.cell?_setCell_same wr ⟨w.heap.size, 0, none⟩ (.slice a2 0 (c' - i)) hc
          rw [← HL.out, ← Hc'.out] at hc
          generalize c' - i = c2 at *
          have HNx := Lib.hid hNx
          clear hNx hT hi hlt ha2
          gi_wp2
          obtain ⟨x1, x2, x3⟩ := HNx.out
          exact ⟨x1, rfl, x2, x3⟩
  · rintro D cd k U hD ⟨rfl, hO2, hg2⟩ hDd
    have hO3 := hO2.grown (grownBy_putObj' U D (.deferred none)) (by intro e; injection e with e; omega)
    have hg3 := grown_new hg2 (grownBy_putObj' U D (.deferred none)) (by omega)
    have HD := Lib.hid hDd
    have HO3 := Lib.hid hO3
    have HG3 := Lib.hid hg3
    clear hO3 hg3 hDd hO2 hg2
    gi_wp2
    refine ⟨by simp, .inl ⟨_, _, rfl, run_takeDeferred HD.out, ?_⟩⟩
    exact ⟨_, results_none rfl _ _ _, ⟨_, rfl⟩, HO3.out, HG3.out⟩

end Go.Proofs.YtlfopcigbgfnlaaDoor
