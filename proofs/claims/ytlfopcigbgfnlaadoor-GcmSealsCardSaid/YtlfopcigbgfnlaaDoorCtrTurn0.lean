/-
  ctr's turn of no text.
-/
import Derived.Test.YtlfopcigbgfnlaaDoorCtrTurnP
namespace Go.Proofs.YtlfopcigbgfnlaaDoor
open Go.RowKit Go.Shelf

attribute [local go_sem] Oper.semAt_some

set_option maxRecDepth 100000
set_option maxHeartbeats 2000000

theorem run_rest0 {Q : Program} {T E : Nat} (hT : Q.underlying T = some (.slice E)) (hE : ∀ w, (sizeOf E).run Q w = .ok 1 w) (a : Option Addr) (cap : Nat) :
    (∀ w, (Instr.sliceAt T (.slice a 0 cap) (some (.int .i64 0)) none none).run Q w = .ok (.slice a 0 cap) w) ∧ (∀ w, (Instr.slice T (.slice a 0 cap) (some (.int .i64 0)) none none).run Q w = .ok (.slice a 0 cap) w) := by
  have e2 : Q.elem T = E := by simp [Program.elem, hT]
  have hT' : Q.underlying T = some (.slice (Q.elem T)) := by rw [e2]; exact hT
  have hs : ∀ w, (Instr.slice T (.slice a 0 cap) (some (.int .i64 0)) none none).run Q w = .ok (.slice a 0 cap) w := by
    intro w
    rw [run_slice_l w T a 0 cap hT' .i64 0 (by omega) (by omega), e2, hE w]
    cases a <;> simp [Result.andThen, sliced, Addr.add]
  exact ⟨fun w => by rw [run_sliceAt_slice w T _ _ _ _ hT']; exact hs w, hs⟩

/-- What stands ahead of the only round. -/
structure NoneI (w : World) (a : Option Addr) (c : Nat) (k : Nat) (U : World) : Prop where
  k0 : k = 0
  box : U.cell? ⟨w.heap.size, 0, none⟩ = some (.slice a 0 c)
  fz : U.frozen? ⟨w.heap.size, 0, none⟩ = false
  gr : w.grownBy U none
theorem grown_none {w0 w w' : World} {row : Option Nat} (h : w0.grownBy w none) (g : w.grownBy w' row) (hr : ∀ r, row = some r → w0.heap.size ≤ r) : w0.grownBy w' none := by
  cases row with
  | none => exact grown_trans h g
  | some r => exact grown_new h g (hr r rfl)
theorem NoneI.keeps {w : World} {a : Option Addr} {c : Nat} (k : Nat) (U U' : World) (row : Option Nat) (h : NoneI w a c k U) (hgr : U.grownBy U' row) (hr : ∀ r, row = some r → w.heap.size + 1 ≤ r) : NoneI w a c k U' := by
  have hb : some w.heap.size ≠ row := fun e => by have := hr _ e.symm; omega
  have hlt := World.block_lt_of_cell? U _ h.box
  exact ⟨h.k0, hgr.cell h.box hb, (World.frozen?_of_block (a := ⟨w.heap.size, 0, none⟩) (hgr.block _ hlt hb)).trans h.fz, grown_none h.gr hgr (fun r e => by have := hr r e; omega)⟩

def NoneIZ (w : World) (a : Option Addr) (c : Nat) (Z : Nat → Prop) (k : Nat) (U : World) : Prop := (∀ z, ¬ Z z) ∧ NoneI w a c k U
theorem NoneI.above {w : World} {a : Option Addr} {c : Nat} : Above (w.heap.size + 1) (NoneIZ w a c) := fun _ k U U' row h hgr hr => ⟨h.1, NoneI.keeps k U U' row h.2 hgr (fun r e => (hr r e).1)⟩

/-- A round's frame. -/
def noneAct (w : World) (a : Option Addr) (c b1 b2 b : Nat) (s : Nat → Nat) : Act :=
  { tmps := #[.slice a 0 c, .func (.func 48) #[] #[.pointer (some ⟨b1, 0, none⟩), .pointer (some ⟨b2, 0, none⟩)], .pointer (some ⟨w.heap.size, 0, none⟩), undef, .pointer (some ⟨b, 0, none⟩), undef, undef, .func (.func 48) #[] #[.pointer (some ⟨b1, 0, none⟩), .pointer (some ⟨b2, 0, none⟩)], .agg (cellsOf .u8 16 s),
    undef, undef, undef, undef, undef, undef, undef, undef, undef, undef, undef, undef, undef, undef, undef, undef, undef, undef, undef, undef, undef, undef, undef], defers := [] }
def noneAx (w : World) (a : Option Addr) (c b1 b2 : Nat) (B : Nat → Nat → Nat) (Z : Nat → Prop) (k : Nat) (act : Act) (U : World) : Prop :=
  (∀ z, ¬ Z z) ∧ ∃ b, act = noneAct w a c b1 b2 b (B k) ∧ w.heap.size < b ∧ NoneI w a c k U

theorem turn_none (m R b1 b2 c : Nat) (a : Option Addr) (C W f : Nat → Nat) (w : World) (hW : ∀ i, W i < 256) (hf : ∀ i, f i < 256) (h1 : 1 ≤ R) (hR : R ≤ 14) (hCc : Cols (4 * (R + 1)) W C)
    (hC : Ciph w m R C) (hL : LaidS w 0) (hB1 : w.cell? ⟨b1, 0, none⟩ = some (.pointer (some ⟨m, 0, none⟩))) (hB2 : Holds w b2 24 .u8 16 f) :
    Calls Tryd.prog 32 #[.slice a 0 c, .func (.func 48) #[] #[.pointer (some ⟨b1, 0, none⟩), .pointer (some ⟨b2, 0, none⟩)]] w fun e w' => (∃ v, e = .returned v) ∧ w.grownBy w' none := by
  have hml := World.block_lt_of_cell? w _ hC.rounds
  have hsl := World.block_lt_of_cell? w _ (hL.at_ 0 (by decide))
  have hbl := World.block_lt_of_cell? w _ hB1
  refine (callsIn_wide (n := 6)).1 ?_
  refine callsIn_of_wp_marks Tryd.func32 rfl trivial ?_ rfl
  simp only [Tryd.ntmps32, List.size_toArray, List.length_cons, List.length_nil, Nat.reduceAdd, Nat.reduceSub, Array.replicate_succ, Array.replicate_zero, List.push_toArray, List.append_toArray, List.nil_append, List.cons_append]
  refine wpIn_wide.2 ?_
  go_wp2_with fail
  refine (wpIn_wide (n := 6)).1 ?_
  have hg1 := World.grownBy_alloc w (.cells #[.slice a 0 c] 22) none
  have hI0 : NoneI w a c 0 (w.alloc (.cells #[.slice a 0 c] 22)) :=
    ⟨rfl, by rw [cell_of_row _ _ _ _ _ _ (heap_alloc_new w _)]; rfl, frozen_of_row _ _ _ _ _ (heap_alloc_new w _), hg1⟩
  have hC1 := hC.grown hg1 (by simp)
  have hL1 := hL.grown hg1 (by simp)
  have hB11 := hg1.cell hB1 (by simp)
  have hB21 := hB2.grown hg1 (by simp)
  have hz : (w.alloc (.cells #[.slice a 0 c] 22)).heap.size = w.heap.size + 1 := by simp
  generalize w.alloc (.cells #[.slice a 0 c] 22) = w1 at *
  refine wpIn_stream rfl (by decide) (gf := 48) (lb := #[.pointer (some ⟨b1, 0, none⟩), .pointer (some ⟨b2, 0, none⟩)]) rfl trivial (enters_of Tryd.func48 (by kernel_rfl) rfl)
    (X := fun x => x = w.heap.size) (stream_streams (6 - 1) m R b1 b2 C W f w1 hW hf h1 hR hCc (by decide) (fun x => x = w.heap.size) (fun h => by omega) (fun h => by omega) (fun h => by omega) hC1 hL1 hB11 hB21) (fun _ => rfl)
    (NoneIZ w a c) (fun cd _ U => cd = .exit 0 ∧ w.grownBy U none) 0 (fun Z k U h => by have := h.2.k0; omega) (by rw [hz]; exact NoneI.above) (fun Z k U h z hz => absurd hz (h.1 z))
    (fun cd k U U' row h hg hr => ⟨h.1, grown_none h.2 hg (fun r e => by have := (hr r e).1; omega)⟩) ⟨fun _ h => h, hI0⟩
    (noneAx w a c b1 b2 (strm R W f)) ?_ ?_ ?_ ?_
  · intro Z k a' _ U U' row h hgr hr
    obtain ⟨hnz, b, rfl, h2, h4⟩ := h
    exact ⟨hnz, b, rfl, h2, NoneI.keeps _ _ _ _ h4 hgr (fun r e => by have := (hr r e).1; omega)⟩
  · rintro l k Z U K ⟨hnz, hI⟩ _ hK
    obtain ⟨B, hB⟩ : ∃ B, B = strm R W f := ⟨_, rfl⟩
    rw [← hB] at hK ⊢
    have hbn := heap_alloc_new U (.cells #[.int .u8 0, .int .u8 0, .int .u8 0, .int .u8 0, .int .u8 0, .int .u8 0, .int .u8 0, .int .u8 0, .int .u8 0, .int .u8 0, .int .u8 0, .int .u8 0, .int .u8 0, .int .u8 0, .int .u8 0, .int .u8 0] 24)
    have hga := grown_setRow_new (World.grownBy_alloc U (.cells #[.int .u8 0, .int .u8 0, .int .u8 0, .int .u8 0, .int .u8 0, .int .u8 0, .int .u8 0, .int .u8 0, .int .u8 0, .int .u8 0, .int .u8 0, .int .u8 0, .int .u8 0, .int .u8 0, .int .u8 0, .int .u8 0] 24) none) U.heap.size (cellsOf .u8 16 (B k)) (Or.inl (Nat.le_refl _))
    have hlt := World.block_lt_of_cell? U _ hI.box
    have HG := Lib.hid hga
    have HI := Lib.hid hI
    have HB := Lib.hid hB
    have HK := Lib.hid hK
    clear hga hI hB hK
    gi_wp2_with (refine roundIn_store_row rfl 24 (.tmp 4) (.tmp 8) rfl U.heap.size _ rfl rfl 24 _ hbn (by rw [cellsOf_size]; kernel_rfl) rfl (cellsOf_all _ _ _) ?_)
    exact HK.out _ _ (KeepsOthers.of_grownBy HG.out (fun _ _ e => by cases e)) (KeepS.grown HG.out) ⟨hnz, U.heap.size, rfl, by omega, NoneI.keeps _ _ _ none HI.out HG.out (fun r e => by cases e)⟩
  · rintro l k Z a' U ⟨hnz, b, rfl, hb, hI⟩
    unfold noneAct
    obtain ⟨s, hs⟩ : ∃ s, s = strm R W f k := ⟨_, rfl⟩
    rw [← hs]
    obtain ⟨ht1, ht2⟩ := run_rest0 (Q := Tryd.prog) (T := 22) (E := 5) (by kernel_rfl) (fun _ => by kernel_rfl) a c
    have hc := hI.box
    have hf0 := hI.fz
    have hc1 := World.cell?_setCell_same U ⟨w.heap.size, 0, none⟩ (.slice a 0 c) hc
    have hG := grown_setCell_new hI.gr ⟨w.heap.size, 0, none⟩ (.slice a 0 c) (Or.inl (Nat.le_refl _))
    have HG := Lib.hid hG
    have HK := Lib.hid (KeepsOthers.setCell U ⟨w.heap.size, 0, none⟩ (.slice a 0 c))
    have Hs := Lib.hid hs
    clear hs hG hI
    gi_wp2
    gi_loopw [6, 13] (fun _ u13 wr => u13 = .int .i64 0 ∧ wr = U) (fun _ _ _ => 0)
    case atStart => exact ⟨rfl, rfl⟩
    case round =>
      obtain ⟨rfl, rfl⟩ := hrel
      gi_wp2
      exact ⟨HK.out, rfl, HG.out⟩
  · rintro D cd k U hD ⟨rfl, hg2⟩ hDd
    have hg3 := grown_new hg2 (grownBy_putObj' U D (.deferred none)) (by omega)
    have HD := Lib.hid hDd
    have HG3 := Lib.hid hg3
    clear hg3 hDd hg2
    gi_wp2
    refine ⟨by simp, .inl ⟨_, _, rfl, run_takeDeferred HD.out, ?_⟩⟩
    exact ⟨_, results_none rfl _ _ _, ⟨_, rfl⟩, HG3.out⟩

end Go.Proofs.YtlfopcigbgfnlaaDoor
