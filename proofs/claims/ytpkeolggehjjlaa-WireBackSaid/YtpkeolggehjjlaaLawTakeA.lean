/-
  hailerlaw08's take: what stands behind each way of a round.
-/
import Derived.Test.YtpkeolggehjjlaaLawTakeM
namespace Go.Proofs.Ytpkeolggehjjlaa
open Go.RowKit

set_option maxRecDepth 100000
set_option maxHeartbeats 2000000

/-- The field that is begun. -/
def FV.begun (x : FV) : FV := ⟨x.k, 0, none, 0, 0, fun _ => 0, none, 0, 0, fun _ => 0, x.m⟩
section
variable {w : World} {b : Nat} {y : FV}
theorem FAt.set1 (h : FAt w b 0 y) (n : Nat) : FAt (w.setCell ⟨b, 1, none⟩ (.int .u64 n)) b 0 { y with n := n } where
  c0 := by rw [World.cell?_setCell_other _ _ _ _ (by simp)]; exact h.c0
  c1 := World.cell?_setCell_same w _ _ h.c1
  c2 := by rw [World.cell?_setCell_other _ _ _ _ (by simp)]; exact h.c2
  c3 := by rw [World.cell?_setCell_other _ _ _ _ (by simp)]; exact h.c3
  c4 := by rw [World.cell?_setCell_other _ _ _ _ (by simp)]; exact h.c4
theorem FAt.set2 (h : FAt w b 0 y) (a : Option Addr) (n c : Nat) (f : Nat → Nat) : FAt (w.setCell ⟨b, 2, none⟩ (.slice a n c)) b 0 { y with ab := a, nb := n, cb := c, fb := f } where
  c0 := by rw [World.cell?_setCell_other _ _ _ _ (by simp)]; exact h.c0
  c1 := by rw [World.cell?_setCell_other _ _ _ _ (by simp)]; exact h.c1
  c2 := World.cell?_setCell_same w _ _ h.c2
  c3 := by rw [World.cell?_setCell_other _ _ _ _ (by simp)]; exact h.c3
  c4 := by rw [World.cell?_setCell_other _ _ _ _ (by simp)]; exact h.c4
theorem FAt.set3 (h : FAt w b 0 y) (a : Option Addr) (n c : Nat) (f : Nat → Nat) : FAt (w.setCell ⟨b, 3, none⟩ (.slice a n c)) b 0 { y with al := a, nl := n, cl := c, fl := f } where
  c0 := by rw [World.cell?_setCell_other _ _ _ _ (by simp)]; exact h.c0
  c1 := by rw [World.cell?_setCell_other _ _ _ _ (by simp)]; exact h.c1
  c2 := by rw [World.cell?_setCell_other _ _ _ _ (by simp)]; exact h.c2
  c3 := World.cell?_setCell_same w _ _ h.c3
  c4 := by rw [World.cell?_setCell_other _ _ _ _ (by simp)]; exact h.c4
end
/-- What stands behind the ways. -/
structure MidT (w : World) (p : Option Addr) (L : Nat) (F : Nat → Nat) (s : ISt) (x : FV) (v : Value) (i : Nat) (Y : Nat → FV) (B2 : Nat) (wx : World) : Prop where
  fat : ∃ y, FAt wx B2 0 y ∧ TakenF L F s x y ∧ y.Ok ∧ RdX wx w.heap.size (blkOf v) y.ab y.nb y.fb ∧ RdXL wx w.heap.size (blkOf v) y.al y.nl y.fl
  says : ISays w p L F (s.field L F x.k x.nb x.m) wx
  kept : Kept wx w.heap.size w.heap.size v i Y
/-- What stands ahead of them. -/
structure PreT (w wr w2 : World) (p : Option Addr) (L : Nat) (F : Nat → Nat) (s : ISt) (x : FV) (v : Value) (i : Nat) (Y : Nat → FV) (B2 : Nat) : Prop where
  g2 : wr.grownBy w2 none
  hB : wr.heap.size ≤ B2
  hB2 : B2 < w2.heap.size
  says : ISays w p L F s wr
  kept : Kept wr w.heap.size w.heap.size v i Y
  fat : FAt w2 B2 0 x.begun
  hlt : ∀ g, p = some ⟨g, 0, none⟩ → g < w.heap.size
  hrw : ∀ k, rowP p = some k → k < w.heap.size
  ok : x.Ok
theorem blk_lt {w : World} {base B0 n : Nat} {v : Value} {Y : Nat → FV} (h : Kept w base B0 v n Y) (k : Nat) (e : blkOf v = some k) : k < w.heap.size := by
  rcases h.own.ex with ⟨h1, _⟩ | ⟨go, cap, h1, h2, _⟩
  · rw [h1] at e; cases e
  · rw [h1] at e; cases e; exact h2.lt
section
variable {w wr w2 w3 : World} {p : Option Addr} {L : Nat} {F : Nat → Nat} {s s' : ISt} {x : FV} {v : Value} {i : Nat} {Y : Nat → FV} {B2 : Nat}
theorem PreT.fat3 (h : PreT w wr w2 p L F s x v i Y B2) (hs : ISays w2 p L F s' w3) : FAt w3 B2 0 x.begun :=
  h.fat.grown hs.gr (fun e => by have := h.hrw B2 e.symm; have := h.says.gr.size; have := h.hB; omega)
theorem PreT.step (h : PreT w wr w2 p L F s x v i Y B2) (hs : ISays w2 p L F s' w3) (o : Nat) (u : Value) : ISays w p L F s' (w3.setCell ⟨B2, o, none⟩ u) ∧ Kept (w3.setCell ⟨B2, o, none⟩ u) w.heap.size w.heap.size v i Y := by
  have ga := grown_row (h.g2) hs.gr
  have g3 : wr.grownBy w3 (rowP p) := grown_trans (grown_row (grown_refl wr (rowP p)) h.g2 (by simp)) hs.gr
  have g4 := grown_setCell_new g3 ⟨B2, o, none⟩ u (Or.inl h.hB)
  have gs : w3.grownBy (w3.setCell ⟨B2, o, none⟩ u) (some B2) := grown_setCell_new (grown_refl w3 _) _ _ (Or.inr rfl)
  refine ⟨⟨hs.st.grown gs (fun g k hp hk => by cases hk; have := h.hlt g hp; have := h.says.gr.size; have := h.hB; omega), grown_trans h.says.gr g4⟩, h.kept.grown g4 (fun k hk => Or.inl ⟨h.hrw k hk, h.hrw k hk⟩)⟩
theorem PreT.step0 (h : PreT w wr w2 p L F s x v i Y B2) (hs : ISays w2 p L F s' w3) : ISays w p L F s' w3 ∧ Kept w3 w.heap.size w.heap.size v i Y := by
  have g3 : wr.grownBy w3 (rowP p) := grown_trans (grown_row (grown_refl wr (rowP p)) h.g2 (by simp)) hs.gr
  exact ⟨⟨hs.st, grown_trans h.says.gr g3⟩, h.kept.grown g3 (fun k hk => Or.inl ⟨h.hrw k hk, h.hrw k hk⟩)⟩
theorem FV.begun_ok (h : x.Ok) : x.begun.Ok := ⟨h.k, (by decide : (0 : Nat) < _), fun _ => (by decide : (0 : Nat) < 256), fun _ => (by decide : (0 : Nat) < 4294967296), (by decide : (0 : Nat) ≤ _), (by decide : (0 : Nat) ≤ _), h.mlo, h.mhi⟩
/-- A number. -/
theorem mid_num (h : PreT w wr w2 p L F s x v i Y B2) (hs : ISays w2 p L F s' w3) (N : Nat) (hN : N < 18446744073709551616) (e0 : s.field L F x.k x.nb x.m = s') (e1 : s.fldN L F x.k = N) (e2 : s.fldB L F x.k x.nb x.m = 0) (e3 : s.fldL L F x.k x.m = 0) :
    MidT w p L F s x v i Y B2 (w3.setCell ⟨B2, 1, none⟩ (.int .u64 N)) := by
  obtain ⟨k1, k2⟩ := h.step hs 1 (.int .u64 N)
  refine ⟨⟨_, (h.fat3 hs).set1 N, ⟨rfl, rfl, e1.symm, e2.symm, fun j hj => absurd hj (Nat.not_lt_zero _), e3.symm, fun j hj => absurd hj (Nat.not_lt_zero _)⟩, { FV.begun_ok h.ok with n := hN }, RdX.zero, RdXL.zero⟩, by rw [e0]; exact k1, k2⟩
theorem mid_none (h : PreT w wr w2 p L F s x v i Y B2) (hs : ISays w2 p L F s' w3) (e0 : s.field L F x.k x.nb x.m = s') (e1 : s.fldN L F x.k = 0) (e2 : s.fldB L F x.k x.nb x.m = 0) (e3 : s.fldL L F x.k x.m = 0) :
    MidT w p L F s x v i Y B2 w3 := by
  obtain ⟨k1, k2⟩ := h.step0 hs
  refine ⟨⟨_, h.fat3 hs, ⟨rfl, rfl, e1.symm, e2.symm, fun j hj => absurd hj (Nat.not_lt_zero _), e3.symm, fun j hj => absurd hj (Nat.not_lt_zero _)⟩, FV.begun_ok h.ok, RdX.zero, RdXL.zero⟩, by rw [e0]; exact k1, k2⟩
theorem mid_bytes (h : PreT w wr w2 p L F s x v i Y B2) (hs : ISays w2 p L F s' w3) (a : Option Addr) (N c : Nat) (f : Nat → Nat) (hO : OwnN w3 w2.heap.size (.slice a N c) N f) (hf : ∀ j, f j < 256) (hN : N ≤ 1048576) (e0 : s.field L F x.k x.nb x.m = s') (e1 : s.fldN L F x.k = 0) (e2 : s.fldB L F x.k x.nb x.m = N) (e4 : s.fldF L F x.k x.m = f) (e3 : s.fldL L F x.k x.m = 0) :
    MidT w p L F s x v i Y B2 (w3.setCell ⟨B2, 2, none⟩ (.slice a N c)) := by
  obtain ⟨k1, k2⟩ := h.step hs 2 (.slice a N c)
  have gs : w3.grownBy (w3.setCell ⟨B2, 2, none⟩ (.slice a N c)) (some B2) := grown_setCell_new (grown_refl w3 _) _ _ (Or.inr rfl)
  refine ⟨⟨_, (h.fat3 hs).set2 a N c f, ⟨rfl, rfl, e1.symm, e2.symm, fun j _ => by rw [e4], e3.symm, fun j hj => absurd hj (Nat.not_lt_zero _)⟩, { FV.begun_ok h.ok with fb := hf, lb := hN }, ⟨fun hn => ?_⟩, RdXL.zero⟩, by rw [e0]; exact k1, k2⟩
  rcases hO.ex with ⟨_, h0⟩ | ⟨tb, cap, e, h2, h3⟩
  · have hn' : 0 < N := hn
    omega
  · cases e
    have q1 := h.says.gr.size
    have q2 := h.g2.size
    have q3 := h.hB2
    have q4 := h.hB
    refine ⟨tb, 0, rfl, by omega, by simpa [World.setCell] using h2.lt, fun e => ?_, fun j hj => ?_⟩
    · have := blk_lt h.kept tb e.symm
      omega
    · rw [Nat.zero_add, World.cell?_setCell_other _ _ _ _ (by intro e; injection e with e5 e6; omega)]
      exact h2.cell j hj
theorem mid_list (h : PreT w wr w2 p L F s x v i Y B2) (hs : ISays w2 p L F s' w3) (a : Option Addr) (N c : Nat) (f : Nat → Nat) (hO : OwnNE w3 w2.heap.size 1 (.slice a N c) N (fun i _ => .int .u32 (f i))) (hf : ∀ j, f j < 4294967296) (hN : N ≤ 1048576) (e0 : s.field L F x.k x.nb x.m = s') (e1 : s.fldN L F x.k = 0) (e2 : s.fldB L F x.k x.nb x.m = 0) (e4 : s.fldG L F x.k x.m = f) (e3 : s.fldL L F x.k x.m = N) :
    MidT w p L F s x v i Y B2 (w3.setCell ⟨B2, 3, none⟩ (.slice a N c)) := by
  obtain ⟨k1, k2⟩ := h.step hs 3 (.slice a N c)
  refine ⟨⟨_, (h.fat3 hs).set3 a N c f, ⟨rfl, rfl, e1.symm, e2.symm, fun j hj => absurd hj (Nat.not_lt_zero _), e3.symm, fun j _ => by rw [e4]⟩, { FV.begun_ok h.ok with fl := hf, ll := hN }, RdX.zero, ⟨fun hn => ?_⟩⟩, by rw [e0]; exact k1, k2⟩
  rcases hO.ex with ⟨_, h0⟩ | ⟨tb, cap, e, h2, h3⟩
  · have hn' : 0 < N := hn
    omega
  · cases e
    have q1 := h.says.gr.size
    have q2 := h.g2.size
    have q3 := h.hB2
    have q4 := h.hB
    refine ⟨tb, 0, rfl, by omega, by simpa [World.setCell] using h2.lt, fun e => ?_, fun j hj => ?_⟩
    · have := blk_lt h.kept tb e.symm
      omega
    · rw [Nat.zero_add, World.cell?_setCell_other _ _ _ _ (by intro e; injection e with e5 e6; omega)]
      have := h2.cell j 0 hj (by decide)
      rw [Nat.mul_one] at this
      exact this
end
end Go.Proofs.Ytpkeolggehjjlaa
