/-
  ctr's Turn.
-/
import Derived.Test.YtlfopcigbgfnlaaDoorCtrTurn0
import Derived.Test.YtlfopcigbgfnlaaDoorConcat
namespace Go.Proofs.YtlfopcigbgfnlaaDoor
open Go.RowKit Go.Shelf

set_option maxRecDepth 100000
set_option maxHeartbeats 2000000

/-- Bytes of its own, turned where they stand. -/
structure TurnsN (w0 w : World) (v : Value) (N : Nat) (G : Nat → Nat) (e : Ending) (w' : World) : Prop where
  ret : ∃ r, e = .returned r
  own : OwnN w' w0.heap.size v N G
  gr : w0.grownBy w' none

theorem turn_N (m R N : Nat) (v : Value) (C W f F : Nat → Nat) (w0 w : World) (hg : w0.grownBy w none) (hW : ∀ i, W i < 256) (hf : ∀ i, f i < 256) (hF : ∀ i, F i < 256) (h1 : 1 ≤ R) (hR : R ≤ 14) (hCc : Cols (4 * (R + 1)) W C)
    (hC : Ciph w m R C) (hL : LaidS w 0) (hm : m < w0.heap.size) (hs : 0 < w0.heap.size) (hv : OwnN w w0.heap.size v N F) (hN : N ≤ 2 ^ 40) :
    Calls Tryd.prog 32 #[v, .func (.func 48) #[] #[.pointer (some ⟨w.heap.size, 0, none⟩), .pointer (some ⟨w.heap.size + 1, 0, none⟩)]]
      ((w.alloc (.cells #[.pointer (some ⟨m, 0, none⟩)] 45)).alloc (.cells (cellsOf .u8 16 f) 24)) (TurnsN w0 w v N (turnF R W f F)) := by
  have g1 := grown_alloc (World.grownBy_alloc w (.cells #[.pointer (some ⟨m, 0, none⟩)] 45) none) (.cells (cellsOf .u8 16 f) 24)
  have hB1 : ((w.alloc (.cells #[.pointer (some ⟨m, 0, none⟩)] 45)).alloc (.cells (cellsOf .u8 16 f) 24)).cell? ⟨w.heap.size, 0, none⟩ = some (.pointer (some ⟨m, 0, none⟩)) := by
    rw [cell_of_row _ _ _ _ _ _ (heap_alloc2_old w _ _)]; rfl
  have hB2 : Holds ((w.alloc (.cells #[.pointer (some ⟨m, 0, none⟩)] 45)).alloc (.cells (cellsOf .u8 16 f) 24)) (w.heap.size + 1) 24 .u8 16 f := by
    have := holds_alloc (w.alloc (.cells #[.pointer (some ⟨m, 0, none⟩)] 45)) 24 .u8 16 f _ rfl
    rwa [World.size_alloc] at this
  have hC1 := hC.grown g1 (by simp)
  have hL1 := hL.grown g1 (by simp)
  have hv1 := hv.grown g1
  have g01 := grown_trans hg g1
  generalize ((w.alloc (.cells #[.pointer (some ⟨m, 0, none⟩)] 45)).alloc (.cells (cellsOf .u8 16 f) 24)) = w1 at *
  rcases hv.ex with ⟨rfl, rfl⟩ | ⟨gb, cap, rfl, hO, hb⟩
  · refine (turn_none m R w.heap.size (w.heap.size + 1) 0 none C W f w1 hW hf h1 hR hCc hC1 hL1 hB1 hB2).mono fun e w' ⟨h2, h3⟩ => ⟨h2, OwnN.nil _ _ _, grown_trans g01 h3⟩
  · have hO1 := hO.grown g1 (by simp)
    have hgl := hO.lt
    by_cases h0 : 0 < N
    · refine (turn_own m R w.heap.size (w.heap.size + 1) gb N cap C W f F w1 hW hf hF h1 hR hCc (by omega) (by omega) (by omega) hC1 hL1 hB1 hB2 hO1 h0 hN).mono fun e w' ⟨h2, h3, h4⟩ => ⟨h2, ⟨Or.inr ⟨gb, cap, rfl, h3, hb⟩⟩, grown_new g01 h4 hb⟩
    · obtain rfl : N = 0 := by omega
      refine (turn_none m R w.heap.size (w.heap.size + 1) cap _ C W f w1 hW hf h1 hR hCc hC1 hL1 hB1 hB2).mono fun e w' ⟨h2, h3⟩ => ⟨h2, ⟨Or.inr ⟨gb, cap, rfl, (hO1.grown h3 (by simp)).congr (fun i hi => absurd hi (by omega)), hb⟩⟩, grown_trans g01 h3⟩

/-- What Turn hands back. -/
structure Turned (w : World) (N : Nat) (G : Nat → Nat) (e : Ending) (w' : World) : Prop where
  ex : ∃ v, e = .returned (.tuple #[v, .int .i64 0]) ∧ OwnN w' w.heap.size v N G ∧ w.grownBy w' none

theorem turn_nil (f : Nat → Nat) (l : Value) (w : World) : Calls Tryd.prog 18 #[.pointer none, .agg (cellsOf .u8 16 f), l] w fun e w' => e = .returned (.tuple #[.slice none 0 0, .int .i64 1]) ∧ w.grownBy w' none := by
  go_enter Tryd.func18, Tryd.ntmps18
  go_wp2
  go_ret2
  exact ⟨rfl, World.grownBy_alloc w _ none⟩

theorem turn_any (m R n c : Nat) (a : Option Addr) (C W f off g : Nat → Nat) (w : World) (hW : ∀ i, W i < 256) (hf : ∀ i, f i < 256) (hg : ∀ i, g i < 256) (h1 : 1 ≤ R) (hR : R ≤ 14) (hCc : Cols (4 * (R + 1)) W C)
    (hC : Ciph w m R C) (hL : LaidS w 0) (hm : m < w.heap.size) (hs : 0 < w.heap.size) (hT : Texts w w.heap.size a n off g) (hn : n ≤ 2 ^ 40) (hN : off n ≤ 2 ^ 40) :
    Calls Tryd.prog 18 #[.pointer (some ⟨m, 0, none⟩), .agg (cellsOf .u8 16 f), .slice a n c] w (Turned w (off n) (turnF R W f g)) := by
  have g1 := World.grownBy_alloc w (.cells (cellsOf .u8 16 f) 24) none
  have hB : Holds (w.alloc (.cells (cellsOf .u8 16 f) 24)) w.heap.size 24 .u8 16 f := holds_alloc w 24 .u8 16 f _ rfl
  have hCc2 := concat_any n c w.heap.size a off g (w.alloc (.cells (cellsOf .u8 16 f) 24)) (hT.grown g1 (fun k e => by cases e)) (by simp) hn hN
  have HCc := Lib.hid hCc2
  have HB := Lib.hid hB
  have G1 := Lib.hid g1
  clear hCc2 hB g1
  go_enter Tryd.func18, Tryd.ntmps18
  go_wp2_with fail
  go_at_call 31
  with_reducible refine (HCc.out).mono ?_
  rintro e w2 ⟨v2, rfl, hv2, g2⟩
  have g02 := grown_trans G1.out g2
  have hB2 := (HB.out.grown g2 (by simp)).block
  have hv := hv2.base G1.out.size
  have hTN := turn_N m R (off n) v2 C W f g w w2 g02 hW hf hg h1 hR hCc (hC.grown g02 (by simp)) (hL.grown g02 (by simp)) hm hs hv hN
  obtain ⟨G, hG⟩ : ∃ G, G = turnF R W f g := ⟨_, rfl⟩
  rw [← hG] at hTN ⊢
  have HTN := Lib.hid hTN
  have HG := Lib.hid hG
  clear hTN hv hv2 g2 g02 HCc HB G1 hG
  go_wp2_with (first
    | refine wpList_load_row rfl 24 (.tmp 4) rfl w.heap.size rfl 24 _ (0, 0) (.array 16 5) hB2 (by kernel_rfl) rfl (by rw [cellsOf_size]; kernel_rfl) ?_)
  go_at_call 33
  with_reducible refine (blocks_any (some ⟨m, 0, none⟩) f w2).mono ?_
  rintro e w3 ⟨rfl, rfl⟩
  go_wp2_with fail
  go_at_call 32
  with_reducible refine (HTN.out).mono ?_
  rintro e w4 ⟨⟨r, rfl⟩, h5, h6⟩
  go_wp2_with fail
  go_ret2
  exact ⟨v2, rfl, by rw [← HG.out]; exact h5, h6⟩

end Go.Proofs.YtlfopcigbgfnlaaDoor
