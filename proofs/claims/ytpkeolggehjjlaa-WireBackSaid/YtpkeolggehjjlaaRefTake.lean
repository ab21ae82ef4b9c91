/-
  The reference's Take.
-/
import Derived.Test.YtpkeolggehjjlaaRefTakeM
import Derived.Test.YtpkeolggehjjlaaRefWire1
import Derived.Test.YtpkeolggehjjlaaLawTakeA
import Derived.Test.YtpkeolggehjjlaaRelAll
import Derived.Test.YtpkeolggehjjlaaOrdN
import Derived.Deep.CutBlock
namespace Go.Proofs.Ytpkeolggehjjlaa
open Go.RowKit

set_option maxRecDepth 100000
set_option maxHeartbeats 4000000

/-- A new field. -/
def NewFld (base : Nat) (v : Value) (W : World) : Prop := ∃ B, v = .pointer (some ⟨B, 0, none⟩) ∧ base ≤ B ∧ W.heap[B]? = some (.cells #[.int .u8 0, .int .u64 0, .slice none 0 0, .slice none 0 0, .int .i64 0] 54 (0, 0))
theorem NewFld.grown {base : Nat} {v : Value} {W W' : World} (h : NewFld base v W) (g : W.grownBy W' none) : NewFld base v W' := by
  obtain ⟨B, h1, h2, h3⟩ := h
  refine ⟨B, h1, h2, (g.block B ?_ (by simp)).trans h3⟩
  by_cases hlt : B < W.heap.size
  · exact hlt
  · have hn : W.heap[B]? = none := by simp; omega
    rw [hn] at h3; cases h3
theorem ISt.field_bad (L : Nat) (F : Nat → Nat) (k nb : Nat) (m : Int) : ISt.field L F .bad k nb m = .bad := by
  unfold ISt.field
  have h1 : ISt.cntS L F .bad m = .bad := by
    unfold ISt.cntS
    split <;> rfl
  have h2 : ISt.flagS L F .bad = .bad := by
    unfold ISt.flagS
    split <;> rfl
  have h3 : ∀ n, ISt.many L .bad n = .bad := fun n => ISt.many_bad L n
  repeat' split
  all_goals first | rfl | exact h2 | (rw [h1]; rfl) | (rw [h1, h3])
theorem ISt.fields_stay (L : Nat) (F : Nat → Nat) (s : ISt) (X : Nat → FV) (i : Nat) (h : s.fields L F X i = .bad) : ∀ n, i ≤ n → s.fields L F X n = .bad
  | 0, hn => by
    obtain rfl : i = 0 := by omega
    exact h
  | n + 1, hn => by
    by_cases e : i = n + 1
    · rw [← e]; exact h
    · show (s.fields L F X n).field L F _ _ _ = .bad
      rw [ISt.fields_stay L F s X i h n (by omega), ISt.field_bad]
structure RTook (w : World) (L : Nat) (F : Nat → Nat) (n : Nat) (X : Nat → FV) (e : Ending) (w' : World) : Prop where
  ex : (∃ at' a c Y, ISt.fields L F (.good 0) X n = .good at' ∧ at' ≤ L ∧ e = .returned (.tuple #[.slice a n c, .int .i64 ((L - at' : Nat) : Nat)]) ∧ Kept w' w.heap.size 0 (.slice a n c) n Y ∧ (∀ q, q < n → TakenF L F (ISt.fields L F (.good 0) X q) (X q) (Y q)) ∧ ∀ q, (Y q).Ok) ∨
    (ISt.fields L F (.good 0) X n = .bad ∧ e = .returned (.tuple #[.slice none 0 0, .int .i64 (-1)]))
  gr : w.grownBy w' none
/-- What stands behind the ways. -/
structure MidR (w : World) (L : Nat) (F : Nat → Nat) (s : ISt) (x : FV) (v : Value) (i : Nat) (Y : Nat → FV) (B : Nat) (at' : Nat) (wx : World) : Prop where
  fat : ∃ y, FAt wx B 0 y ∧ TakenF L F s x y ∧ y.Ok ∧ RdX wx 0 (blkOf v) y.ab y.nb y.fb ∧ RdXL wx 0 (blkOf v) y.al y.nl y.fl
  st : s.field L F x.k x.nb x.m = .good at'
  le : at' ≤ L
  gr : w.grownBy wx none
  kept : Kept wx w.heap.size 0 v i Y
/-- What stands ahead of them: wr the round's world, w2 the one in which the field is begun. -/
structure PreR (w wr w2 : World) (x : FV) (v : Value) (i : Nat) (Y : Nat → FV) (B : Nat) : Prop where
  g0 : w.grownBy wr none
  g2 : wr.grownBy w2 none
  hB : wr.heap.size ≤ B
  fat : FAt w2 B 0 x.begun
  fz : ∀ o, w2.frozen? ⟨B, o, none⟩ = false
  kept : Kept wr w.heap.size 0 v i Y
  ok : x.Ok
section
variable {w wr w2 w3 : World} {L at' : Nat} {F : Nat → Nat} {s : ISt} {x : FV} {v : Value} {i : Nat} {Y : Nat → FV} {B : Nat}
theorem PreR.to (h : PreR w wr w2 x v i Y B) (g : w2.grownBy w3 none) : PreR w wr w3 x v i Y B := ⟨h.g0, grown_trans h.g2 g, h.hB, h.fat.grown g (by simp), fun o => (World.frozen?_of_block (a := ⟨B, o, none⟩) (g.block B (World.block_lt_of_cell? w2 _ h.fat.c0) (by simp))).trans (h.fz o), h.kept, h.ok⟩
theorem PreR.step (h : PreR w wr w2 x v i Y B) (o : Nat) (u : Value) : w.grownBy (w2.setCell ⟨B, o, none⟩ u) none ∧ Kept (w2.setCell ⟨B, o, none⟩ u) w.heap.size 0 v i Y := by
  have g4 := grown_setCell_new h.g2 ⟨B, o, none⟩ u (Or.inl h.hB)
  exact ⟨grown_trans h.g0 g4, h.kept.grown g4 (fun k hk => by cases hk)⟩
theorem mr_num (h : PreR w wr w2 x v i Y B) (N : Nat) (hN : N < 18446744073709551616) (hle : at' ≤ L) (e0 : s.field L F x.k x.nb x.m = .good at') (e1 : s.fldN L F x.k = N) (e2 : s.fldB L F x.k x.nb x.m = 0) (e3 : s.fldL L F x.k x.m = 0) :
    MidR w L F s x v i Y B at' (w2.setCell ⟨B, 1, none⟩ (.int .u64 N)) := by
  obtain ⟨k1, k2⟩ := h.step 1 (.int .u64 N)
  exact ⟨⟨_, h.fat.set1 N, ⟨rfl, rfl, e1.symm, e2.symm, fun j hj => absurd hj (Nat.not_lt_zero _), e3.symm, fun j hj => absurd hj (Nat.not_lt_zero _)⟩, { FV.begun_ok h.ok with n := hN }, RdX.zero, RdXL.zero⟩, e0, hle, k1, k2⟩
theorem mr_bytes {D : Nat} (h : PreR w wr w2 x v i Y B) (a : Option Addr) (N c : Nat) (f : Nat → Nat) (hR : Rd w D a N f) (hf : ∀ j, f j < 256) (hN : N ≤ 1048576) (hle : at' ≤ L) (e0 : s.field L F x.k x.nb x.m = .good at') (e1 : s.fldN L F x.k = 0) (e2 : s.fldB L F x.k x.nb x.m = N) (e4 : s.fldF L F x.k x.m = f) (e3 : s.fldL L F x.k x.m = 0) :
    MidR w L F s x v i Y B at' (w2.setCell ⟨B, 2, none⟩ (.slice a N c)) := by
  obtain ⟨k1, k2⟩ := h.step 2 (.slice a N c)
  refine ⟨⟨_, h.fat.set2 a N c f, ⟨rfl, rfl, e1.symm, e2.symm, fun j _ => by rw [e4], e3.symm, fun j hj => absurd hj (Nat.not_lt_zero _)⟩, { FV.begun_ok h.ok with fb := hf, lb := hN }, ⟨fun hn => ?_⟩, RdXL.zero⟩, e0, hle, k1, k2⟩
  obtain ⟨tb, o, h1, h2, h3⟩ := hR.ex hn
  have hlt := World.block_lt_of_cell? w _ (h3 0 hn)
  have hlt' : tb < w.heap.size := hlt
  refine ⟨tb, o, h1, Nat.zero_le _, Nat.lt_of_lt_of_le hlt' k1.size, fun e => ?_, fun j hj => k1.cell (h3 j hj) (by simp)⟩
  rcases h.kept.own.ex with ⟨e5, _⟩ | ⟨go, cap, e5, _, e6⟩
  · rw [e5] at e; cases e
  · rw [e5] at e
    have e7 : tb = go := Option.some.inj e
    omega
end
theorem mr_list {w wr w2 wl : World} {L at' : Nat} {F : Nat → Nat} {s : ISt} {x : FV} {v : Value} {i : Nat} {Y : Nat → FV} {B : Nat} (h : PreR w wr w2 x v i Y B) (gl : wr.grownBy wl none) (al : Option Addr) (M cl : Nat) (f : Nat → Nat) (hF : FAt wl B 0 { x.begun with al := al, nl := M, cl := cl }) (hO : OwnNE wl wr.heap.size 1 (.slice al M cl) M (fun q _ => .int .u32 (f q))) (hf : ∀ j, f j < 4294967296) (hM : M ≤ 1048576) (hle : at' ≤ L)
    (e0 : s.field L F x.k x.nb x.m = .good at') (e1 : s.fldN L F x.k = 0) (e2 : s.fldB L F x.k x.nb x.m = 0) (e4 : ∀ j, j < M → s.fldG L F x.k x.m j = f j) (e3 : s.fldL L F x.k x.m = M) : MidR w L F s x v i Y B at' wl := by
  refine ⟨⟨{ x.begun with al := al, nl := M, cl := cl, fl := f }, ⟨hF.c0, hF.c1, hF.c2, hF.c3, hF.c4⟩, ⟨rfl, rfl, e1.symm, e2.symm, fun j hj => absurd hj (Nat.not_lt_zero _), e3.symm, fun j hj => (e4 j hj).symm⟩, { FV.begun_ok h.ok with fl := hf, ll := hM }, RdX.zero, ⟨fun hn => ?_⟩⟩, e0, hle, grown_trans h.g0 gl, h.kept.grown gl (by simp)⟩
  have hn' : 0 < M := hn
  rcases hO.ex with ⟨_, h0⟩ | ⟨tb, cap, e, h2, h3⟩
  · omega
  · cases e
    refine ⟨tb, 0, rfl, Nat.zero_le _, h2.lt, fun e => ?_, fun j hj => ?_⟩
    · have := blk_lt h.kept tb e.symm
      omega
    · have := h2.cell j 0 hj (by decide)
      rw [Nat.zero_add]
      rw [Nat.mul_one] at this
      exact this
/-- A number of 32 bits in a new slice. -/
def NewOne (N : Nat) (v : Value) (W : World) : Prop := ∃ b, v = .slice (some ⟨b, 0, none⟩) 1 1 ∧ W.cell? ⟨b, 0, none⟩ = some (.int .u32 N)
theorem NewOne.grown {N : Nat} {v : Value} {W W' : World} (h : NewOne N v W) (g : W.grownBy W' none) : NewOne N v W' := by
  obtain ⟨b, h1, h2⟩ := h
  exact ⟨b, h1, g.cell h2 (by simp)⟩
theorem info_w32 : (Try.prog.info? 49).map (fun i => (i.zero, i.size, i.bytes)) = some (some (.int .u32 0), 1, 4) := by kernel_rfl
theorem op_skip {P : Program} {ops : Array Oper} {Q : Exit → Act → World → Prop} {S : World → Prop} {a : Act} {w w' : World} {i : Nat} {o : Oper} {K : Act → World → Prop} (hi : ops[i]? = some o) (hw : Region.wanted o (yielded ops a.tmps) = true) (hd : o.dst = none) (he : (execOp a.eval o).run P w = .ok .skip w') (hS : S w') (h : K a w') : wpOp P ops Q i (fun a' w' => S w' ∧ K a' w') a w :=
  wpOp_at hi hw (by
    unfold Oper.wp
    rw [he]
    rw [Oper.upon_skip, hd]
    exact ⟨hS, h⟩)
theorem Rd.part {w : World} {D n m l : Nat} {a a' : Option Addr} {f : Nat → Nat} (h : Rd w D a n f) (hm : l + m ≤ n) (ha : 0 < m → ∃ tb o, a = some ⟨tb, o, none⟩ ∧ a' = some ⟨tb, o + l, none⟩) : Rd w D a' m (fun j => f (l + j)) where
  ex := fun hn => by
    obtain ⟨tb, o, e1, e2⟩ := ha hn
    obtain ⟨tb', o', e3, e4, e5⟩ := h.ex (by omega)
    rw [e1] at e3
    cases e3
    exact ⟨tb, o + l, e2, e4, fun j hj => by rw [Nat.add_assoc]; exact e5 (l + j) (by omega)⟩

theorem refTake_any (D L c0 n c : Nat) (a0 a : Option Addr) (F : Nat → Nat) (X : Nat → FV) (w : World) (hR : Rd w D a0 L F) (hc0 : L ≤ c0) (hF : ∀ i, F i < 256) (hX : Flds w D a n X) (hn : n ≤ 1048576) (hL : L ≤ 1048576) :
    Calls Try.prog 14 #[.slice a0 L c0, .slice a n c] w (RTook w L F n X) := by
  have HR := Lib.hid hR
  have HC0 := Lib.hid hc0
  have HX := Lib.hid hX
  have HN := Lib.hid hn
  have HFF := Lib.hid hF
  have HLL := Lib.hid hL
  have kn : (n : Int) ≤ 1048576 := by omega
  have kl : (L : Int) ≤ 1048576 := by omega
  clear hR hc0 hF hX hn hL
  go_enter Try.func14, Try.ntmps14
  go_wp2_with fail
  go_loopw [6, 7, 8] (fun u6 u7 u8 wr => ∃ (i at' : Nat) (Y : Nat → FV), i ≤ n ∧ u8 = .int .i64 i ∧ u7 = .int .i64 at' ∧ at' ≤ L ∧ ISt.fields L F (.good 0) X i = .good at' ∧ Kept wr w.heap.size 0 u6 i Y ∧ (∀ q, q < i → TakenF L F (ISt.fields L F (.good 0) X q) (X q) (Y q)) ∧ (∀ q, (Y q).Ok) ∧ w.grownBy wr none) (fun _ _ u8 _ => n - (intOf u8).toNat)
  case atStart => exact ⟨0, 0, fun _ => fv00, Nat.zero_le _, rfl, rfl, Nat.zero_le _, rfl, ⟨OwnNE.nil _ _ _ _, fun q hq => absurd hq (Nat.not_lt_zero _), fun q hq => absurd hq (Nat.not_lt_zero _)⟩, fun q hq => absurd hq (Nat.not_lt_zero _), fun _ => fv00_ok, grown_refl _ _⟩
  case round =>
    obtain ⟨wo, hwo⟩ : ∃ q : World, q = wr := ⟨_, rfl⟩
    subst hwo
    obtain ⟨i, at', Y, hi, rfl, rfl, hal, hst0, hK, hT, hY, gr⟩ := hrel
    by_cases hlt : i < n
    · obtain ⟨tb, o, rfl, htb, hFl⟩ := HX.out.ex (by omega)
      have hx := (hFl i hlt).grown gr (by simp)
      have hok := HX.out.ok i
      have j1 : (i : Int) < (n : Int) := by omega
      have HL2 := Lib.hid hlt
      have hst : ISt.fields L F (.good 0) X (i + 1) = (ISt.good at').field L F (X i).k (X i).nb (X i).m := by
        show (ISt.fields L F (.good 0) X i).field L F _ _ _ = _
        rw [hst0]
      obtain ⟨x, hxx⟩ : ∃ x, x = X i := ⟨_, rfl⟩
      rw [← hxx] at hx hok hst
      obtain ⟨xk, hxk⟩ : ∃ y, y = x.k := ⟨_, rfl⟩
      obtain ⟨xm, hxm⟩ : ∃ y, y = x.m := ⟨_, rfl⟩
      have C0 : Hid (wo.cell? ⟨tb, o + i * 5, none⟩ = some (.int .u8 xk)) := by rw [hxk]; exact hx.c0
      have C4 : Hid (wo.cell? ⟨tb, o + i * 5 + 4, none⟩ = some (.int .i64 xm)) := by rw [hxm]; exact hx.c4
      have ka : (at' : Int) ≤ (L : Int) := by omega
      have HAL := Lib.hid hal
      have HXK := Lib.hid hxk
      have HXM := Lib.hid hxm
      have HST := Lib.hid hst
      have HST0 := Lib.hid hst0
      have HXX := Lib.hid hxx
      have HT := Lib.hid hT
      have HY := Lib.hid hY
      have HOK := Lib.hid hok
      have HK := Lib.hid hK
      have GR := Lib.hid gr
      have HFX := Lib.hid hx
      clear hxk hxm hst hst0 hxx hT hY hok hK hFl htb hi hlt hal gr hx
      go_wp2_with fail
      refine wp_region_rel_all (fun _ => True) (fun _ _ => trivial) (alL []) (relL [fun vv _ => vv = .slice (some ⟨tb, o, none⟩) n c, fun vv _ => vv = .int .i64 (i : Nat), fun vv _ => vv = .pointer (some ⟨tb, o + i * 5, none⟩), fun vv _ => vv = .pointer (some ⟨tb, o + i * 5, none⟩), fun vv _ => vv = .int .u8 xk, fun vv _ => vv = .slice (some ⟨tb, o, none⟩) n c, fun vv _ => vv = .int .i64 (i : Nat), fun vv _ => vv = .pointer (some ⟨tb, o + i * 5, none⟩), fun vv _ => vv = .pointer (some ⟨tb, o + i * 5 + 4, none⟩), fun vv _ => vv = .int .i64 xm, fun vv _ => vv = .agg #[.int .u8 xk, .int .u64 0, .slice none 0 0, .slice none 0 0, .int .i64 xm], NewFld wo.heap.size])
        12 1 (atL [21, 22, 23, 24, 25, 26, 27, 28, 29, 30, 31, 9]) (depL [[], [], [0, 1], [2], [3], [], [], [5, 6], [7], [8], [4, 9], []]) (by kernel_rfl) rfl (by kernel_rfl) (by kernel_rfl) (by kernel_rfl) (by decide) (by kernel_rfl) 144 rfl (by decide) (by decide) (by decide) ?mono6 ?al6 ?step6 ?fin6
      case mono6 =>
        intro k x W W' hk h g
        obtain rfl | rfl | rfl | rfl | rfl | rfl | rfl | rfl | rfl | rfl | rfl | rfl : k = 0 ∨ k = 1 ∨ k = 2 ∨ k = 3 ∨ k = 4 ∨ k = 5 ∨ k = 6 ∨ k = 7 ∨ k = 8 ∨ k = 9 ∨ k = 10 ∨ k = 11 := by omega
        · exact h
        · exact h
        · exact h
        · exact h
        · exact h
        · exact h
        · exact h
        · exact h
        · exact h
        · exact h
        · exact h
        · exact NewFld.grown h g
      case al6 =>
        intro k x W hk e h
        obtain rfl | rfl | rfl | rfl | rfl | rfl | rfl | rfl | rfl | rfl | rfl | rfl : k = 0 ∨ k = 1 ∨ k = 2 ∨ k = 3 ∨ k = 4 ∨ k = 5 ∨ k = 6 ∨ k = 7 ∨ k = 8 ∨ k = 9 ∨ k = 10 ∨ k = 11 := by omega
        · exact absurd e (by decide)
        · exact absurd e (by decide)
        · exact absurd e (by decide)
        · exact absurd e (by decide)
        · exact absurd e (by decide)
        · exact absurd e (by decide)
        · exact absurd e (by decide)
        · exact absurd e (by decide)
        · exact absurd e (by decide)
        · exact absurd e (by decide)
        · exact absurd e (by decide)
        · exact absurd e (by decide)
      case step6 =>
        intro k hk
        obtain rfl | rfl | rfl | rfl | rfl | rfl | rfl | rfl | rfl | rfl | rfl | rfl : k = 0 ∨ k = 1 ∨ k = 2 ∨ k = 3 ∨ k = 4 ∨ k = 5 ∨ k = 6 ∨ k = 7 ∨ k = 8 ∨ k = 9 ∨ k = 10 ∨ k = 11 := by omega
        · refine ⟨_, rfl, rfl, fun b W hs hg hD => ⟨wanted_of rfl, fun K hK0 => ?_⟩⟩
          have hK := fun v W' g h => hK0 v W' g h (fun e => absurd e (by decide))
          exact rel_move 1 rfl (hs 1 (by decide)) rfl hK
        · refine ⟨_, rfl, rfl, fun b W hs hg hD => ⟨wanted_of rfl, fun K hK0 => ?_⟩⟩
          have hK := fun v W' g h => hK0 v W' g h (fun e => absurd e (by decide))
          exact rel_move 8 rfl (hs 8 (by decide)) rfl hK
        · refine ⟨_, rfl, rfl, fun b W hs hg hD => ⟨wanted_of rfl, fun K hK0 => ?_⟩⟩
          have hK := fun v W' g h => hK0 v W' g h (fun e => absurd e (by decide))
          have h0 : b.tmps[21]?.getD undef = .slice (some ⟨tb, o, none⟩) n c := (hD 0 (by decide))
          have h1 : b.tmps[22]?.getD undef = .int .i64 (i : Nat) := (hD 1 (by decide))
          exact rel_val (v := .pointer (some ⟨tb, o + i * 5, none⟩)) (by unfold execOp; go_simp) rfl hK
        · refine ⟨_, rfl, rfl, fun b W hs hg hD => ⟨wanted_of rfl, fun K hK0 => ?_⟩⟩
          have hK := fun v W' g h => hK0 v W' g h (fun e => absurd e (by decide))
          have h0 : b.tmps[23]?.getD undef = .pointer (some ⟨tb, o + i * 5, none⟩) := (hD 2 (by decide))
          exact rel_val (v := .pointer (some ⟨tb, o + i * 5, none⟩)) (by unfold execOp; go_simp) rfl hK
        · refine ⟨_, rfl, rfl, fun b W hs hg hD => ⟨wanted_of rfl, fun K hK0 => ?_⟩⟩
          have hK := fun v W' g h => hK0 v W' g h (fun e => absurd e (by decide))
          have h0 : b.tmps[24]?.getD undef = .pointer (some ⟨tb, o + i * 5, none⟩) := (hD 3 (by decide))
          exact rel_val (v := .int .u8 xk) (by have cc := hg.cell C0.out (by simp); unfold execOp; go_simp) rfl hK
        · refine ⟨_, rfl, rfl, fun b W hs hg hD => ⟨wanted_of rfl, fun K hK0 => ?_⟩⟩
          have hK := fun v W' g h => hK0 v W' g h (fun e => absurd e (by decide))
          exact rel_move 1 rfl (hs 1 (by decide)) rfl hK
        · refine ⟨_, rfl, rfl, fun b W hs hg hD => ⟨wanted_of rfl, fun K hK0 => ?_⟩⟩
          have hK := fun v W' g h => hK0 v W' g h (fun e => absurd e (by decide))
          exact rel_move 8 rfl (hs 8 (by decide)) rfl hK
        · refine ⟨_, rfl, rfl, fun b W hs hg hD => ⟨wanted_of rfl, fun K hK0 => ?_⟩⟩
          have hK := fun v W' g h => hK0 v W' g h (fun e => absurd e (by decide))
          have h0 : b.tmps[26]?.getD undef = .slice (some ⟨tb, o, none⟩) n c := (hD 5 (by decide))
          have h1 : b.tmps[27]?.getD undef = .int .i64 (i : Nat) := (hD 6 (by decide))
          exact rel_val (v := .pointer (some ⟨tb, o + i * 5, none⟩)) (by unfold execOp; go_simp) rfl hK
        · refine ⟨_, rfl, rfl, fun b W hs hg hD => ⟨wanted_of rfl, fun K hK0 => ?_⟩⟩
          have hK := fun v W' g h => hK0 v W' g h (fun e => absurd e (by decide))
          have h0 : b.tmps[28]?.getD undef = .pointer (some ⟨tb, o + i * 5, none⟩) := (hD 7 (by decide))
          exact rel_val (v := .pointer (some ⟨tb, o + i * 5 + 4, none⟩)) (by unfold execOp; go_simp) rfl hK
        · refine ⟨_, rfl, rfl, fun b W hs hg hD => ⟨wanted_of rfl, fun K hK0 => ?_⟩⟩
          have hK := fun v W' g h => hK0 v W' g h (fun e => absurd e (by decide))
          have h0 : b.tmps[29]?.getD undef = .pointer (some ⟨tb, o + i * 5 + 4, none⟩) := (hD 8 (by decide))
          exact rel_val (v := .int .i64 xm) (by have cc := hg.cell C4.out (by simp); unfold execOp; go_simp) rfl hK
        · refine ⟨_, rfl, rfl, fun b W hs hg hD => ⟨wanted_of rfl, fun K hK0 => ?_⟩⟩
          have hK := fun v W' g h => hK0 v W' g h (fun e => absurd e (by decide))
          have h0 : b.tmps[25]?.getD undef = .int .u8 xk := (hD 4 (by decide))
          have h1 : b.tmps[30]?.getD undef = .int .i64 xm := (hD 9 (by decide))
          exact rel_val (v := .agg #[.int .u8 xk, .int .u64 0, .slice none 0 0, .slice none 0 0, .int .i64 xm]) (by unfold execOp; go_simp) rfl hK
        · refine ⟨_, rfl, rfl, fun b W hs hg hD => ⟨wanted_of rfl, fun K hK0 => ?_⟩⟩
          have hK := fun v W' g h => hK0 v W' g h (fun e => absurd e (by decide))
          exact wp_yields (v := .pointer (some ⟨W.heap.size, 0, none⟩)) (w' := W.alloc (.cells #[.int .u8 0, .int .u64 0, .slice none 0 0, .slice none 0 0, .int .i64 0] 54)) (by unfold execOp; go_simp) (hK _ _ (World.grownBy_alloc W _ none) ⟨W.heap.size, rfl, hg.size, heap_alloc_new W _⟩)
      intro vals W hg hR hap
      have e1 : vals 10 = .agg #[.int .u8 xk, .int .u64 0, .slice none 0 0, .slice none 0 0, .int .i64 xm] := hR 10 (by decide)
      obtain ⟨B, e2, hB, hblk⟩ := hR 11 (by decide)
      clear hR hap
      simp only [putsN, atL, Act.put, List.getD_cons_zero, List.getD_cons_succ, List.setIfInBounds_toArray, List.set_cons_succ, List.set_cons_zero, e1, e2]
      generalize vals 0 = q0
      generalize vals 1 = q1
      generalize vals 2 = q2
      generalize vals 3 = q3
      generalize vals 4 = q4
      generalize vals 5 = q5
      generalize vals 6 = q6
      generalize vals 7 = q7
      generalize vals 8 = q8
      generalize vals 9 = q9
      clear e1 e2 vals
      show wpAnyH _ _ _ _ _ 1 #[true, true, true, true, true, true, true, true, true, true, true, true, false] _ _
      refine wpAnyH_one (i := 12) (by kernel_rfl) (op_store 54 9 31 B #[.int .u8 xk, .int .u64 0, .slice none 0 0, .slice none 0 0, .int .i64 xm] rfl rfl rfl rfl rfl rfl 54 #[.int .u8 0, .int .u64 0, .slice none 0 0, .slice none 0 0, .int .i64 0] hblk (by kernel_rfl) rfl (by simp [Value.oneCell']) trivial ?_)
      refine wpAnyH_done (by kernel_rfl) ?_ _
      have hPre : PreR w wo (W.setRow B #[.int .u8 xk, .int .u64 0, .slice none 0 0, .slice none 0 0, .int .i64 xm]) x u6 i Y B := by
        have hb : (W.setRow B #[.int .u8 xk, .int .u64 0, .slice none 0 0, .slice none 0 0, .int .i64 xm]).heap[B]? = some (.cells #[.int .u8 xk, .int .u64 0, .slice none 0 0, .slice none 0 0, .int .i64 xm] 54 (0, 0)) := setRow_heap W B _ _ 54 (0, 0) hblk
        refine ⟨GR.out, grown_setRow_new hg B _ (Or.inl hB), hB, ⟨?_, ?_, ?_, ?_, ?_⟩, fun o => frozen_of_row _ _ _ _ _ hb, HK.out, HOK.out⟩
        · rw [cell_of_row _ _ _ _ _ _ hb, HXK.out]; rfl
        · rw [cell_of_row _ _ _ _ _ _ hb]; rfl
        · rw [cell_of_row _ _ _ _ _ _ hb]; rfl
        · rw [cell_of_row _ _ _ _ _ _ hb]; rfl
        · rw [cell_of_row _ _ _ _ _ _ hb, HXM.out]; rfl
      generalize W.setRow B #[.int .u8 xk, .int .u64 0, .slice none 0 0, .slice none 0 0, .int .i64 xm] = w2 at *
      clear hblk hg hB HK C0 C4
      have hx2 := HFX.out.grown hPre.g2 (by simp)
      have HPRE := Lib.hid hPre
      have HW := Lib.hid (refWidth_any x.k x.n x.nb x.cb x.nl x.cl x.ab x.al x.m HOK.out.k)
      clear hPre HFX
      go_upto_region 8 with (first
        | refine wpList_load_field rfl 34 hx2 rfl rfl ?_; simp only [FV.val]
        | (go_at_call 38; refine (HW.out _).mono ?_; rintro e w3 ⟨rfl, g3⟩))
      generalize Value.agg #[.int .u8 x.k, .int .u64 x.n, .slice x.ab x.nb x.cb, .slice x.al x.nl x.cl, .int .i64 x.m] = xv at *
      obtain ⟨Wd, hWd⟩ : ∃ y, y = widF x.k x.nb := ⟨_, rfl⟩
      rw [← hWd]
      have hWle : Wd ≤ 1048576 := by
        have h1 := HOK.out.lb
        rw [hWd]
        unfold widF
        repeat' split
        all_goals omega
      have hP3 := HPRE.out.to g3
      have HPRE3 := Lib.hid hP3
      have kW : (Wd : Int) ≤ 1048576 := by omega
      have HWD := Lib.hid hWd
      have HWL := Lib.hid hWle
      clear hx2 HW HPRE g3 hP3 hWd hWle
      by_cases hsh : L - at' < Wd
      · have k1 : (L : Int) - (at' : Int) < (Wd : Int) := by have := HAL.out; omega
        have HBAD : Hid (ISt.fields L F (.good 0) X n = .bad) := ISt.fields_stay L F (.good 0) X (i + 1) (by rw [HST.out]; exact field_short (by rw [← HWD.out]; exact hsh)) n HL2.out
        have GE := Lib.hid (grown_trans HPRE3.out.g0 HPRE3.out.g2)
        clear hsh
        go_wp2_with fail
        go_ret2
        exact ⟨Or.inr ⟨HBAD.out, rfl⟩, GE.out⟩
      · have k1 : ¬ ((L : Int) - (at' : Int) < (Wd : Int)) := by have := HAL.out; omega
        obtain ⟨aw, haw⟩ : ∃ y, y = at' + Wd := ⟨_, rfl⟩
        have k2 : (at' : Int) + (Wd : Int) = (aw : Int) := by omega
        have k3 : (aw : Int) ≤ (L : Int) := by have := HAL.out; omega
        obtain ⟨ah, hs0, hah⟩ := run_sub (Q := Try.prog) (T := 28) (E := 5) (by kernel_rfl) (fun _ => by kernel_rfl) c0 at' aw HR.out (by omega) (by omega) HC0.out
        rw [show aw - at' = Wd by omega] at hs0
        have HHD := Lib.hid ((HR.out.grown (grown_trans HPRE3.out.g0 HPRE3.out.g2) (by simp)).part (m := Wd) (by have := HAL.out; omega) (fun h0 => hah (by omega)))
        have HHW := Lib.hid (HR.out.part (m := Wd) (by have := HAL.out; omega) (fun h0 => hah (by omega)))
        have c0' := HPRE3.out.fat.c0
        have c0'' : w3.cell? ⟨B, 0, none⟩ = some (.int .u8 xk) := by rw [HXK.out]; exact c0'
        have HSH := Lib.hid hsh
        have HAW := Lib.hid haw
        clear c0' hah hsh haw
        go_upto_block 2 with fail
        clear hs0 k1
        go_cut [7] (fun s7 wx => ∃ at2 : Nat, s7 = .int .i64 at2 ∧ MidR w L F (.good at') x u6 i Y B at2 wx)
        case first =>
          have hP := HPRE3.out
          have c1 := hP.fat.c1
          have c2 := hP.fat.c2
          have c3 := hP.fat.c3
          have c4 : w3.cell? ⟨B, 0 + 4, none⟩ = some (.int .i64 xm) := by rw [HXM.out]; exact hP.fat.c4
          have f1 := hP.fz 1
          have f2 := hP.fz 2
          have f3 := hP.fz 3
          simp only [Nat.zero_add] at c1 c2 c3 c4
          have c1' : w3.cell? ⟨B, 1, none⟩ = some (.int .u64 0) := c1
          have c2' : w3.cell? ⟨B, 2, none⟩ = some (.slice none 0 0) := c2
          have c3' : w3.cell? ⟨B, 3, none⟩ = some (.slice none 0 0) := c3
          have o1 := HOK.out.k
          rw [← HXK.out] at o1
          clear hP c1 c2 c3
          by_cases e4 : xk = 4
          · subst e4
            have hWn : Wd = x.nb := by rw [HWD.out, ← HXK.out]; rfl
            have hfit := ISt.take_fit (L := L) (at' := at') (F := F) (n := Wd) (by have := HSH.out; omega)
            have HE := Lib.hid (mr_bytes (L := L) (F := F) (s := .good at') (at' := aw) HPRE3.out ah Wd (c0 - at') (fun j => F (at' + j)) HHW.out (fun _ => HFF.out _) HWL.out (by omega)
              (by rw [← HXK.out, ← hWn, HAW.out]; exact hfit.1) (by rw [← HXK.out]; rfl) (by rw [← HXK.out, ← hWn]; exact hfit.2.1) (by rw [← HXK.out]; rfl) (by rw [← HXK.out]; rfl))
            clear hWn hfit o1 c1' c3' c4 f1 f3
            go_wp2_with fail
            go_meet
            case rel => exact ⟨_, rfl, HE.out⟩
          by_cases e5 : xk = 5
          · subst e5
            have hM := refOf_w (fun j => F (at' + j)) (fun _ => HFF.out _) Wd (c0 - at') ah D w3 (by have := HWD.out; rw [← HXK.out] at this; have h2 : widF 5 x.nb = 2 := rfl; omega) HHD.out
            have hW2 : Wd = 2 := by rw [HWD.out, ← HXK.out]; rfl
            have hMlt : ofB8 (fun j => F (at' + j)) 2 < 65536 := ofB8_lt _ (fun _ => HFF.out _) 2
            obtain ⟨M, hMM⟩ : ∃ y, y = ofB8 (fun j => F (at' + j)) 2 := ⟨_, rfl⟩
            rw [← hMM] at hMlt
            have hM2 := hM.mono (R' := fun e w' => e = .returned (.int .u64 (M : Nat)) ∧ w3 = w') (fun e w' h => ⟨by rw [h.1, hMM, hW2], h.2⟩)
            have hcnt' := fld5 (L := L) (at' := at') (aw := aw) (M := M) (nb := x.nb) (F := F) (m := xm) (by have := HSH.out; omega) (by have := HAW.out; omega) hMM
            have HMC := Lib.hid hM2
            have HCN := Lib.hid hcnt'
            have HML := Lib.hid hMlt
            have m0 : (M : Int) < 65536 := by omega
            have hxm : xm = x.m := HXM.out
            have HW2 := Lib.hid hW2
            clear hM hM2 hcnt' hMlt hMM hW2
            go_upto_region 24 with (go_at_call 39; refine HMC.out.mono ?_; rintro e w4 ⟨rfl, rfl⟩)
            clear HMC
            by_cases hmx : xm < (M : Int)
            · have GE := Lib.hid (grown_trans HPRE3.out.g0 (grown_trans HPRE3.out.g2 (grown_refl w3 none)))
              have HBAD : Hid (ISt.fields L F (.good 0) X n = .bad) := ISt.fields_stay L F (.good 0) X (i + 1) (by rw [HST.out]; exact (by rw [← HXK.out, ← HXM.out]; exact HCN.out.1 (by omega))) n HL2.out
              clear hxm o1 c1' c3' f1 f3 c2' f2
              go_wp2_with fail
              go_ret2
              exact ⟨Or.inr ⟨HBAD.out, rfl⟩, GE.out⟩
            · by_cases hbig : L - aw < M
              · have k6 : (L : Int) - (aw : Int) < (M : Int) := by omega
                have GE := Lib.hid (grown_trans HPRE3.out.g0 (grown_trans HPRE3.out.g2 (grown_refl w3 none)))
                have HBAD : Hid (ISt.fields L F (.good 0) X n = .bad) := ISt.fields_stay L F (.good 0) X (i + 1) (by rw [HST.out]; exact (by rw [← HXK.out, ← HXM.out]; exact HCN.out.2.1 (by omega) (by omega))) n HL2.out
                clear hxm o1 c1' c3' f1 f3 c2' f2 hbig
                go_wp2_with fail
                go_ret2
                exact ⟨Or.inr ⟨HBAD.out, rfl⟩, GE.out⟩
              · have k6 : ¬ ((L : Int) - (aw : Int) < (M : Int)) := by omega
                obtain ⟨am, ham⟩ : ∃ y, y = aw + M := ⟨_, rfl⟩
                have k7 : (aw : Int) + (M : Int) = (am : Int) := by omega
                have k8 : (am : Int) ≤ 1048576 := by omega
                obtain ⟨ab, hs1, hab⟩ := run_sub (Q := Try.prog) (T := 28) (E := 5) (by kernel_rfl) (fun _ => by kernel_rfl) c0 aw am HR.out (by omega) (by omega) HC0.out
                rw [show am - aw = M by omega] at hs1
                have hpart := HR.out.part (m := M) (by omega) (fun h0 => hab (by omega))
                obtain ⟨q1, q2, q3⟩ := HCN.out.2.2 (by omega) (by omega)
                have HE := Lib.hid (mr_bytes (L := L) (F := F) (s := .good at') (at' := am) HPRE3.out ab M (c0 - aw) (fun j => F (aw + j)) hpart (fun _ => HFF.out _) (by have := HML.out; omega) (by omega)
                  (by rw [← HXK.out, ← HXM.out, ham]; exact q1) (by rw [← HXK.out]; rfl) (by rw [← HXK.out, ← HXM.out]; exact q2) (by rw [← HXK.out, ← HXM.out]; exact q3) (by rw [← HXK.out]; rfl))
                have d0 : (w3.setCell ⟨B, 2, none⟩ (.slice ab M (c0 - aw))).cell? ⟨B, 0, none⟩ = some (.int .u8 5) := by rw [World.cell?_setCell_other _ _ _ _ (by simp)]; exact c0''
                clear hxm o1 c1' c3' f1 f3 hbig hab hpart q1 q2 q3 ham
                go_upto_region 26 with fail
                clear k6 hmx
                go_upto_region 27 with fail
                go_wp2_with fail
                generalize w3.setCell ⟨B, 2, none⟩ (.slice ab M (c0 - aw)) = w5 at *
                go_loopw [14] (fun u14 w6 => u14 = .int .i64 0 ∧ w5 = w6) (fun _ _ => 0)
                case atStart => exact ⟨rfl, rfl⟩
                case round =>
                  obtain ⟨rfl, rfl⟩ := hrel
                  have K8 := Lib.hid k8
                  clear m0 kn kl kW ka k2 k3 k8
                  by_cases hM0 : 0 < M
                  · go_upto_region 32 with fail
                    have m0 : (M : Int) < 65536 := by have := HML.out; omega
                    have k8 := K8.out
                    clear hM0
                    go_wp2_with fail
                    go_meet
                    case rel => exact ⟨_, rfl, HE.out⟩
                  · go_upto_region 32 with fail
                    have m0 : (M : Int) < 65536 := by have := HML.out; omega
                    have k8 := K8.out
                    clear hM0
                    go_wp2_with fail
                    go_meet
                    case rel => exact ⟨_, rfl, HE.out⟩
          by_cases e6 : xk = 6
          · subst e6
            have hM := refOf_w (fun j => F (at' + j)) (fun _ => HFF.out _) Wd (c0 - at') ah D w3 (by have := HWD.out; rw [← HXK.out] at this; have h2 : widF 6 x.nb = 2 := rfl; omega) HHD.out
            have hW2 : Wd = 2 := by rw [HWD.out, ← HXK.out]; rfl
            have hMlt : ofB8 (fun j => F (at' + j)) 2 < 65536 := ofB8_lt _ (fun _ => HFF.out _) 2
            obtain ⟨M, hMM⟩ : ∃ y, y = ofB8 (fun j => F (at' + j)) 2 := ⟨_, rfl⟩
            rw [← hMM] at hMlt
            have hM2 := hM.mono (R' := fun e w' => e = .returned (.int .u64 (M : Nat)) ∧ w3 = w') (fun e w' h => ⟨by rw [h.1, hMM, hW2], h.2⟩)
            have hcnt' := fld6 (L := L) (at' := at') (aw := aw) (M := M) (nb := x.nb) (F := F) (m := xm) (by have := HSH.out; omega) (by have := HAW.out; omega) hMM
            have HMC := Lib.hid hM2
            have HCN := Lib.hid hcnt'
            have HML := Lib.hid hMlt
            have m0 : (M : Int) < 65536 := by omega
            have hxm : xm = x.m := HXM.out
            have HW2 := Lib.hid hW2
            clear hM hM2 hcnt' hMlt hMM hW2
            go_upto_region 24 with (go_at_call 39; refine HMC.out.mono ?_; rintro e w4 ⟨rfl, rfl⟩)
            clear HMC
            have HM0 := Lib.hid m0
            by_cases hmx : xm < (M : Int)
            · have GE := Lib.hid (grown_trans HPRE3.out.g0 (grown_trans HPRE3.out.g2 (grown_refl w3 none)))
              have HBAD : Hid (ISt.fields L F (.good 0) X n = .bad) := ISt.fields_stay L F (.good 0) X (i + 1) (by rw [HST.out]; exact (by rw [← HXK.out, ← HXM.out]; exact HCN.out.1 (by omega))) n HL2.out
              clear hxm o1 c1' c3' f1 f3 c2' f2
              go_wp2_with fail
              go_ret2
              exact ⟨Or.inr ⟨HBAD.out, rfl⟩, GE.out⟩
            · by_cases hbig : L - aw < 4 * M
              · have k6 : (L : Int) - (aw : Int) < 4 * (M : Int) := by omega
                have GE := Lib.hid (grown_trans HPRE3.out.g0 (grown_trans HPRE3.out.g2 (grown_refl w3 none)))
                have HBAD : Hid (ISt.fields L F (.good 0) X n = .bad) := ISt.fields_stay L F (.good 0) X (i + 1) (by rw [HST.out]; exact (by rw [← HXK.out, ← HXM.out]; exact HCN.out.2.1 (by omega) (by omega))) n HL2.out
                clear hxm o1 c1' c3' f1 f3 c2' f2 hbig
                go_wp2_with fail
                go_ret2
                exact ⟨Or.inr ⟨HBAD.out, rfl⟩, GE.out⟩
              · have k6 : ¬ ((L : Int) - (aw : Int) < 4 * (M : Int)) := by omega
                obtain ⟨am, ham⟩ : ∃ y, y = aw + 4 * M := ⟨_, rfl⟩
                have hamL : am ≤ L := by omega
                obtain ⟨q1, q2, q3⟩ := HCN.out.2.2 (by omega) (by omega)
                have Q1 := Lib.hid q1
                have Q2 := Lib.hid q2
                have Q3 := Lib.hid q3
                have HAM := Lib.hid ham
                have HAML := Lib.hid hamL
                have K2 := Lib.hid k2
                have K3 := Lib.hid k3
                clear hxm o1 c1' f1 f2 c2' hbig ham hamL q1 q2 q3
                go_upto_region 26 with fail
                clear k6 hmx m0 kn kl kW ka k2 k3 c4 f3 c3'
                go_wp2_with fail
                have hP := HPRE3.out
                have hF0 : FAt w3 B 0 { x.begun with al := none, nl := 0, cl := 0 } := hP.fat
                go_loopw [14] (fun u14 wl => ∃ (j : Nat) (al : Option Addr) (cl : Nat), j ≤ M ∧ u14 = .int .i64 j ∧ FAt wl B 0 { x.begun with al := al, nl := j, cl := cl } ∧ (∀ o, wl.frozen? ⟨B, o, none⟩ = false) ∧ OwnNE wl wo.heap.size 1 (.slice al j cl) j (fun q _ => .int .u32 (ofB8 (fun z => F (aw + 4 * q + z)) 4 : Nat)) ∧ (∀ b, al = some ⟨b, 0, none⟩ → b ≠ B) ∧ wo.grownBy wl none) (fun u14 _ => M - (intOf u14).toNat)
                case atStart => exact ⟨0, none, 0, Nat.zero_le _, rfl, hF0, hP.fz, OwnNE.nil _ _ _ _, fun b e => (by cases e), hP.g2⟩
                case round =>
                  obtain ⟨j, al, cl, hj, rfl, hF, hfz, hO, hne, hgl⟩ := hrel
                  have d0 : wr.cell? ⟨B, 0, none⟩ = some (.int .u8 6) := by
                    have h1 : wr.cell? ⟨B, 0, none⟩ = some (.int .u8 x.k) := hF.c0
                    rw [h1, ← HXK.out]; rfl
                  by_cases hlt : j < M
                  · have hFl := hF.c3
                    simp only [Nat.zero_add] at hFl
                    obtain ⟨lo, hlo⟩ : ∃ y, y = aw + 4 * j := ⟨_, rfl⟩
                    obtain ⟨j4, hj4⟩ : ∃ y, y = 4 * j := ⟨_, rfl⟩
                    obtain ⟨hi, hhi⟩ : ∃ y, y = lo + 4 := ⟨_, rfl⟩
                    have hb1 : hi ≤ L := by have := HAM.out; have := HAML.out; omega
                    have hLL := HLL.out
                    have y1 : 4 * (j : Int) = (j4 : Int) := by omega
                    have y2 : (aw : Int) + (j4 : Int) = (lo : Int) := by omega
                    have y3 : (lo : Int) + 4 = (hi : Int) := by omega
                    have z1 : IntKind.i64.wrap (j4 : Int) = (j4 : Int) := by rw [IntKind.wrap_i64]; omega
                    have z2 : IntKind.i64.wrap (lo : Int) = (lo : Int) := by rw [IntKind.wrap_i64]; omega
                    have z3 : IntKind.i64.wrap (hi : Int) = (hi : Int) := by rw [IntKind.wrap_i64]; omega
                    obtain ⟨a4, hs2, has⟩ := run_sub (Q := Try.prog) (T := 28) (E := 5) (by kernel_rfl) (fun _ => by kernel_rfl) c0 lo hi HR.out (by omega) hb1 HC0.out
                    rw [show hi - lo = 4 by omega] at hs2
                    have hpt := HR.out.part (m := 4) (by omega) (fun h0 => has (by omega))
                    obtain ⟨N4, hN4⟩ : ∃ y, y = ofB8 (fun z => F (lo + z)) 4 := ⟨_, rfl⟩
                    have hN4l : N4 < 4294967296 := by rw [hN4]; exact ofB8_lt _ (fun _ => HFF.out _) 4
                    have HOF : Hid (∀ W, wr.grownBy W none → Calls Try.prog 39 #[.slice a4 4 (c0 - lo)] W fun e w' => e = .returned (.int .u64 (N4 : Nat)) ∧ W.grownBy w' none) := fun W hW => (refOf_w (fun z => F (lo + z)) (fun _ => HFF.out _) 4 (c0 - lo) a4 D W (by decide) (hpt.grown (grown_trans (grown_trans HPRE3.out.g0 hgl) hW) (by simp))).mono fun e w' h => ⟨by rw [h.1, hN4], by rw [← h.2]; exact grown_refl _ _⟩
                    have z4 : (N4 : Int) % 4294967296 = (N4 : Int) := by omega
                    have z5 : IntKind.u32.wrap (N4 : Int) = (N4 : Int) := by rw [IntKind.wrap_u32]; omega
                    have HN4 := Lib.hid hN4
                    have HLO := Lib.hid hlo
                    have HLT := Lib.hid hlt
                    have C3 := Lib.hid hFl
                    have HFW := Lib.hid hF
                    have HFZ := Lib.hid hfz
                    have HOW := Lib.hid hO
                    have HNE := Lib.hid hne
                    have HGL := Lib.hid hgl
                    have HM2 := HML.out
                    have HN4L := Lib.hid hN4l
                    clear hF hfz hO hne hgl hlo hj4 hhi hb1 hLL has hpt hN4 hN4l HM2 hj hFl
                    go_upto_region 31 with fail
                    refine wp_region_rel_all (fun _ => True) (fun _ _ => trivial) (alL []) (relL [fun vv _ => vv = .pointer (some ⟨B, 3, none⟩), fun vv _ => vv = .slice al j cl, fun vv _ => vv = .slice a0 L c0, fun vv _ => vv = .int .i64 (aw : Nat), fun vv _ => vv = .int .i64 (j : Nat), fun vv _ => vv = .int .i64 (j4 : Nat), fun vv _ => vv = .int .i64 (lo : Nat), fun vv _ => vv = .int .i64 (aw : Nat), fun vv _ => vv = .int .i64 (j : Nat), fun vv _ => vv = .int .i64 (j4 : Nat), fun vv _ => vv = .int .i64 (lo : Nat), fun vv _ => vv = .int .i64 (hi : Nat), fun vv _ => vv = .slice a4 4 (c0 - lo), fun vv _ => vv = .int .u64 (N4 : Nat), fun vv _ => vv = .int .u32 (N4 : Nat), NewOne N4])
                      16 3 (atL [112, 113, 114, 115, 116, 117, 118, 119, 120, 121, 122, 123, 124, 125, 126, 127]) (depL [[], [0], [], [], [], [4], [3, 5], [], [], [8], [7, 9], [10], [2, 6, 11], [12], [13], [14]]) (by kernel_rfl) rfl (by kernel_rfl) (by kernel_rfl) (by kernel_rfl) (by decide) (by kernel_rfl) 144 rfl (by decide) (by decide) (by decide) ?mono31 ?al31 ?step31 ?fin31
                    case mono31 =>
                      intro k x W W' hk h g
                      obtain rfl | rfl | rfl | rfl | rfl | rfl | rfl | rfl | rfl | rfl | rfl | rfl | rfl | rfl | rfl | rfl : k = 0 ∨ k = 1 ∨ k = 2 ∨ k = 3 ∨ k = 4 ∨ k = 5 ∨ k = 6 ∨ k = 7 ∨ k = 8 ∨ k = 9 ∨ k = 10 ∨ k = 11 ∨ k = 12 ∨ k = 13 ∨ k = 14 ∨ k = 15 := by omega
                      · exact h
                      · exact h
                      · exact h
                      · exact h
                      · exact h
                      · exact h
                      · exact h
                      · exact h
                      · exact h
                      · exact h
                      · exact h
                      · exact h
                      · exact h
                      · exact h
                      · exact h
                      · exact NewOne.grown h g
                    case al31 =>
                      intro k x W hk e h
                      obtain rfl | rfl | rfl | rfl | rfl | rfl | rfl | rfl | rfl | rfl | rfl | rfl | rfl | rfl | rfl | rfl : k = 0 ∨ k = 1 ∨ k = 2 ∨ k = 3 ∨ k = 4 ∨ k = 5 ∨ k = 6 ∨ k = 7 ∨ k = 8 ∨ k = 9 ∨ k = 10 ∨ k = 11 ∨ k = 12 ∨ k = 13 ∨ k = 14 ∨ k = 15 := by omega
                      · exact absurd e (by decide)
                      · exact absurd e (by decide)
                      · exact absurd e (by decide)
                      · exact absurd e (by decide)
                      · exact absurd e (by decide)
                      · exact absurd e (by decide)
                      · exact absurd e (by decide)
                      · exact absurd e (by decide)
                      · exact absurd e (by decide)
                      · exact absurd e (by decide)
                      · exact absurd e (by decide)
                      · exact absurd e (by decide)
                      · exact absurd e (by decide)
                      · exact absurd e (by decide)
                      · exact absurd e (by decide)
                      · exact absurd e (by decide)
                    case step31 =>
                      intro k hk
                      obtain rfl | rfl | rfl | rfl | rfl | rfl | rfl | rfl | rfl | rfl | rfl | rfl | rfl | rfl | rfl | rfl : k = 0 ∨ k = 1 ∨ k = 2 ∨ k = 3 ∨ k = 4 ∨ k = 5 ∨ k = 6 ∨ k = 7 ∨ k = 8 ∨ k = 9 ∨ k = 10 ∨ k = 11 ∨ k = 12 ∨ k = 13 ∨ k = 14 ∨ k = 15 := by omega
                      · refine ⟨_, rfl, rfl, fun b W hs hg hD => ⟨wanted_of rfl, fun K hK0 => ?_⟩⟩
                        have hK := fun v W' g h => hK0 v W' g h (fun e => absurd e (by decide))
                        have h0 : b.tmps[9]?.getD undef = .pointer (some ⟨B, 0, none⟩) := (hs 9 (by decide))
                        exact rel_val (v := .pointer (some ⟨B, 3, none⟩)) (by unfold execOp; go_simp) rfl hK
                      · refine ⟨_, rfl, rfl, fun b W hs hg hD => ⟨wanted_of rfl, fun K hK0 => ?_⟩⟩
                        have hK := fun v W' g h => hK0 v W' g h (fun e => absurd e (by decide))
                        have h0 : b.tmps[112]?.getD undef = .pointer (some ⟨B, 3, none⟩) := (hD 0 (by decide))
                        exact rel_val (v := .slice al j cl) (by have cc := hg.cell C3.out (by simp); unfold execOp; go_simp) rfl hK
                      · refine ⟨_, rfl, rfl, fun b W hs hg hD => ⟨wanted_of rfl, fun K hK0 => ?_⟩⟩
                        have hK := fun v W' g h => hK0 v W' g h (fun e => absurd e (by decide))
                        exact rel_move 0 rfl (hs 0 (by decide)) rfl hK
                      · refine ⟨_, rfl, rfl, fun b W hs hg hD => ⟨wanted_of rfl, fun K hK0 => ?_⟩⟩
                        have hK := fun v W' g h => hK0 v W' g h (fun e => absurd e (by decide))
                        exact rel_move 7 rfl (hs 7 (by decide)) rfl hK
                      · refine ⟨_, rfl, rfl, fun b W hs hg hD => ⟨wanted_of rfl, fun K hK0 => ?_⟩⟩
                        have hK := fun v W' g h => hK0 v W' g h (fun e => absurd e (by decide))
                        exact rel_move 14 rfl (hs 14 (by decide)) rfl hK
                      · refine ⟨_, rfl, rfl, fun b W hs hg hD => ⟨wanted_of rfl, fun K hK0 => ?_⟩⟩
                        have hK := fun v W' g h => hK0 v W' g h (fun e => absurd e (by decide))
                        have h0 : b.tmps[116]?.getD undef = .int .i64 (j : Nat) := (hD 4 (by decide))
                        exact rel_val (v := .int .i64 (j4 : Nat)) (by unfold execOp; go_simp) rfl hK
                      · refine ⟨_, rfl, rfl, fun b W hs hg hD => ⟨wanted_of rfl, fun K hK0 => ?_⟩⟩
                        have hK := fun v W' g h => hK0 v W' g h (fun e => absurd e (by decide))
                        have h0 : b.tmps[115]?.getD undef = .int .i64 (aw : Nat) := (hD 3 (by decide))
                        have h1 : b.tmps[117]?.getD undef = .int .i64 (j4 : Nat) := (hD 5 (by decide))
                        exact rel_val (v := .int .i64 (lo : Nat)) (by unfold execOp; go_simp) rfl hK
                      · refine ⟨_, rfl, rfl, fun b W hs hg hD => ⟨wanted_of rfl, fun K hK0 => ?_⟩⟩
                        have hK := fun v W' g h => hK0 v W' g h (fun e => absurd e (by decide))
                        exact rel_move 7 rfl (hs 7 (by decide)) rfl hK
                      · refine ⟨_, rfl, rfl, fun b W hs hg hD => ⟨wanted_of rfl, fun K hK0 => ?_⟩⟩
                        have hK := fun v W' g h => hK0 v W' g h (fun e => absurd e (by decide))
                        exact rel_move 14 rfl (hs 14 (by decide)) rfl hK
                      · refine ⟨_, rfl, rfl, fun b W hs hg hD => ⟨wanted_of rfl, fun K hK0 => ?_⟩⟩
                        have hK := fun v W' g h => hK0 v W' g h (fun e => absurd e (by decide))
                        have h0 : b.tmps[120]?.getD undef = .int .i64 (j : Nat) := (hD 8 (by decide))
                        exact rel_val (v := .int .i64 (j4 : Nat)) (by unfold execOp; go_simp) rfl hK
                      · refine ⟨_, rfl, rfl, fun b W hs hg hD => ⟨wanted_of rfl, fun K hK0 => ?_⟩⟩
                        have hK := fun v W' g h => hK0 v W' g h (fun e => absurd e (by decide))
                        have h0 : b.tmps[119]?.getD undef = .int .i64 (aw : Nat) := (hD 7 (by decide))
                        have h1 : b.tmps[121]?.getD undef = .int .i64 (j4 : Nat) := (hD 9 (by decide))
                        exact rel_val (v := .int .i64 (lo : Nat)) (by unfold execOp; go_simp) rfl hK
                      · refine ⟨_, rfl, rfl, fun b W hs hg hD => ⟨wanted_of rfl, fun K hK0 => ?_⟩⟩
                        have hK := fun v W' g h => hK0 v W' g h (fun e => absurd e (by decide))
                        have h0 : b.tmps[122]?.getD undef = .int .i64 (lo : Nat) := (hD 10 (by decide))
                        exact rel_val (v := .int .i64 (hi : Nat)) (by unfold execOp; go_simp) rfl hK
                      · refine ⟨_, rfl, rfl, fun b W hs hg hD => ⟨wanted_of rfl, fun K hK0 => ?_⟩⟩
                        have hK := fun v W' g h => hK0 v W' g h (fun e => absurd e (by decide))
                        have h0 : b.tmps[114]?.getD undef = .slice a0 L c0 := (hD 2 (by decide))
                        have h1 : b.tmps[118]?.getD undef = .int .i64 (lo : Nat) := (hD 6 (by decide))
                        have h2 : b.tmps[123]?.getD undef = .int .i64 (hi : Nat) := (hD 11 (by decide))
                        exact rel_val (v := .slice a4 4 (c0 - lo)) (by unfold execOp; go_simp) rfl hK
                      · refine ⟨_, rfl, rfl, fun b W hs hg hD => ⟨wanted_of rfl, fun K hK0 => ?_⟩⟩
                        have hK := fun v W' g h => hK0 v W' g h (fun e => absurd e (by decide))
                        refine rel_call 39 _ (exec_fn1 _ _ _ rfl ((eval_slot b 124).trans (hD 12 (by decide)))) (fun _ _ => rfl) ?_ hK
                        exact (HOF.out W hg).mono fun e w' h => ⟨_, h.1, h.2, rfl⟩
                      · refine ⟨_, rfl, rfl, fun b W hs hg hD => ⟨wanted_of rfl, fun K hK0 => ?_⟩⟩
                        have hK := fun v W' g h => hK0 v W' g h (fun e => absurd e (by decide))
                        have h0 : b.tmps[125]?.getD undef = .int .u64 (N4 : Nat) := (hD 13 (by decide))
                        exact rel_val (v := .int .u32 (N4 : Nat)) (by unfold execOp; go_simp) rfl hK
                      · refine ⟨_, rfl, rfl, fun b W hs hg hD => ⟨wanted_of rfl, fun K hK0 => ?_⟩⟩
                        have hK := fun v W' g h => hK0 v W' g h (fun e => absurd e (by decide))
                        have h0 : b.tmps[126]?.getD undef = .int .u32 (N4 : Nat) := (hD 14 (by decide))
                        exact wp_yields (v := .slice (some ⟨W.heap.size, 0, none⟩) 1 1) (w' := W.alloc (.cells #[.int .u32 (N4 : Nat)] 49)) (by unfold execOp; go_simp) (hK _ _ (World.grownBy_alloc W _ none) ⟨W.heap.size, rfl, by rw [cell_of_row _ _ _ _ _ _ (heap_alloc_new W _)]; rfl⟩)
                    intro vals W hg hR hap
                    have e1 : vals 1 = .slice al j cl := hR 1 (by decide)
                    obtain ⟨b, e2, hbc⟩ := hR 15 (by decide)
                    clear hR hap
                    simp only [putsN, atL, Act.put, List.getD_cons_zero, List.getD_cons_succ, List.setIfInBounds_toArray, List.set_cons_succ, List.set_cons_zero, e1, e2]
                    generalize vals 0 = q0'
                    generalize vals 2 = q2'
                    generalize vals 3 = q3'
                    generalize vals 4 = q4'
                    generalize vals 5 = q5'
                    generalize vals 6 = q6'
                    generalize vals 7 = q7'
                    generalize vals 8 = q8'
                    generalize vals 9 = q9'
                    generalize vals 10 = q10'
                    generalize vals 11 = q11'
                    generalize vals 12 = q12'
                    generalize vals 13 = q13'
                    generalize vals 14 = q14'
                    clear e1 e2 vals
                    show wpAnyH _ _ _ _ _ 3 #[true, true, true, true, true, true, true, true, true, true, true, true, true, true, true, true, false, false, false] _ _
                    have hlt := HLT.out
                    have hML2 := HML.out
                    have hFW2 := HFW.out.grown hg (by simp)
                    have hBW : B < W.heap.size := World.block_lt_of_cell? W _ hFW2.c0
                    obtain ⟨i0, hi0, hz0, hsz0, hby0⟩ := info_parts info_w32
                    obtain ⟨a5, c5, w5, hap5, hO5, row, hgr5, hrow5, g5, rfl, hg5⟩ := app_E (P := Try.prog) (T := 52) (E := 49) (x := fun _ => .int .u32 (N4 : Nat)) 52 b 0 1 (by kernel_rfl) hi0 hz0 hsz0 (by rw [hby0]; decide) rfl (by decide)
                      (by have := HGL.out.size; have := hg.size; omega) (HOW.out.grown hg (by simp)) (fun z hz => by
                        obtain rfl : z = 0 := by omega
                        exact hbc) (fun _ => rfl) (by omega)
                    have hgB : g5 ≠ B := by
                      rcases hg5 with ⟨_, h1⟩ | ⟨_, c'', h1⟩
                      · omega
                      · injection h1 with h2 h3 h4
                        exact HNE.out g5 h2
                    have hrB : some B ≠ row := by
                      rcases hg5 with ⟨h1, _⟩ | ⟨h1, _⟩
                      · rw [h1]; simp
                      · rw [h1]; intro e; exact hgB (Option.some.inj e).symm
                    have hFV := hFW2.grown hgr5 hrB
                    have hfV : ∀ o, w5.frozen? ⟨B, o, none⟩ = false := fun o => (World.frozen?_of_block (a := ⟨B, o, none⟩) (hgr5.block B hBW hrB)).trans ((World.frozen?_of_block (a := ⟨B, o, none⟩) (hg.block B (World.block_lt_of_cell? wr _ HFW.out.c0) (by simp))).trans (HFZ.out o))
                    have hG5 : wo.grownBy w5 none := grown_row (grown_trans HGL.out hg) hgr5 hrow5
                    have hF6 := hFV.set3 (some ⟨g5, 0, none⟩) (j + 1) c5 (x.begun.fl)
                    have hG6 := grown_setCell_new hG5 ⟨B, 3, none⟩ (.slice (some ⟨g5, 0, none⟩) (j + 1) c5) (Or.inl HPRE3.out.hB)
                    have hO6 : OwnNE (w5.setCell ⟨B, 3, none⟩ (.slice (some ⟨g5, 0, none⟩) (j + 1) c5)) wo.heap.size 1 (.slice (some ⟨g5, 0, none⟩) (j + 1) c5) (j + 1) (fun q _ => .int .u32 (ofB8 (fun z => F (aw + 4 * q + z)) 4 : Nat)) := by
                      rcases hO5.ex with ⟨e, _⟩ | ⟨g6, cap6, e, k1, k2⟩
                      · cases e
                      · cases e
                        refine ⟨Or.inr ⟨g5, c5, rfl, { (k1.of_block (heap_setCell_other w5 ⟨B, 3, none⟩ g5 _ hgB) (by simpa [World.setCell] using k1.lt)) with cell := fun q z hq hz => ?_ }, k2⟩⟩
                        have h1 := (k1.of_block (heap_setCell_other w5 ⟨B, 3, none⟩ g5 (.slice (some ⟨g5, 0, none⟩) (j + 1) c5) hgB) (by simpa [World.setCell] using k1.lt)).cell q z hq hz
                        unfold snocE at h1
                        by_cases e : q < j
                        · rwa [if_pos e] at h1
                        · obtain rfl : q = j := by omega
                          rw [if_neg e, HN4.out, HLO.out] at h1
                          exact h1
                    have hc3 := hFV.c3
                    have hf3 := hfV 3
                    simp only [Nat.zero_add] at hc3
                    have hc3' : w5.cell? ⟨B, 3, none⟩ = some (.slice al j cl) := hc3
                    have HF6 := Lib.hid hF6
                    have HG6 := Lib.hid hG6
                    have HO6 := Lib.hid hO6
                    have HGB := Lib.hid hgB
                    have HFZ6 : Hid (∀ o, (w5.setCell ⟨B, 3, none⟩ (.slice (some ⟨g5, 0, none⟩) (j + 1) c5)).frozen? ⟨B, o, none⟩ = false) := fun o => by rw [World.frozen?_setCell]; exact hfV o
                    clear hF6 hG6 hO6 hgB hFV hfV hG5 hrB hg5 hgr5 hrow5 hO5 hFW2 hBW hi0 hz0 hsz0 hby0 hbc hML2 hc3 hlt
                    refine wpAnyH_yieldD (some 128) (i := 16) (v := .slice (some ⟨g5, 0, none⟩) (j + 1) c5) (w' := w5) (by kernel_rfl) rfl rfl rfl (by unfold execOp; simp [resolve, invoke, builtin, Act.eval, hap5, Result.andThen]) trivial ?_
                    clear hap5
                    simp only [Act.put, List.setIfInBounds_toArray, List.set_cons_succ, List.set_cons_zero]
                    refine wpAnyH_yieldD (some 129) (i := 17) (v := .pointer (some ⟨B, 3, none⟩)) (w' := w5) (by kernel_rfl) rfl rfl rfl (by unfold execOp; go_simp) trivial ?_
                    simp only [Act.put, List.setIfInBounds_toArray, List.set_cons_succ, List.set_cons_zero]
                    refine wpAnyH_one (i := 18) (by kernel_rfl) (op_skip (w' := w5.setCell ⟨B, 3, none⟩ (.slice (some ⟨g5, 0, none⟩) (j + 1) c5)) rfl rfl rfl (by unfold execOp; go_simp) trivial ?_)
                    refine wpAnyH_done (by kernel_rfl) ?_ _
                    clear hc3' hf3 y1 y2 y3 z1 z2 z3 z4 z5 hs2
                    have jj : (j : Int) < 65536 := by have := HML.out; have := HLT.out; omega
                    go_wp2_with fail
                    go_roundw
                    case rel => exact ⟨j + 1, some ⟨g5, 0, none⟩, c5, HLT.out, by go_num, HF6.out, HFZ6.out, HO6.out, fun b e => by cases e; exact HGB.out, HG6.out⟩
                    case measure =>
                      have := HLT.out
                      simp [intOf]
                      try omega
                  · obtain rfl : j = M := by omega
                    have HE := Lib.hid (mr_list (L := L) (F := F) (s := .good at') (at' := am) HPRE3.out hgl al j cl (fun q => ofB8 (fun z => F (aw + 4 * q + z)) 4) hF hO (fun _ => ofB8_lt _ (fun _ => HFF.out _) 4) (by have := HML.out; omega) HAML.out
                      (by rw [← HXK.out, ← HXM.out, HAM.out]; exact Q1.out) (by rw [← HXK.out]; rfl) (by rw [← HXK.out]; rfl) (by rw [← HXK.out, ← HXM.out]; exact Q3.out) (by rw [← HXK.out, ← HXM.out]; exact Q2.out))
                    have ha1 : (aw : Int) + 4 * (j : Int) = (am : Int) := by have := HAM.out; omega
                    have ha2 : (am : Int) ≤ 1048576 := by have := HAML.out; have := HLL.out; omega
                    have ha3 : (j : Int) < 65536 := by have := HML.out; omega
                    have H1 := Lib.hid ha1
                    have H2 := Lib.hid ha2
                    have H3 := Lib.hid ha3
                    clear hF hfz hO hne hgl hj ha1 ha2 ha3
                    go_upto_region 32 with fail
                    have ha1 := H1.out
                    have ha2 := H2.out
                    have ha3 := H3.out
                    clear hlt
                    go_wp2_with fail
                    go_meet
                    case rel => exact ⟨_, rfl, HE.out⟩
          have hWc : Wd ≤ 8 := by
            rw [HWD.out]
            unfold widF
            rw [← HXK.out, if_neg e4, if_neg (show ¬ (xk = 5 ∨ xk = 6) by omega)]
            repeat' split
            all_goals decide
          have hM := refOf_w (fun j => F (at' + j)) (fun _ => HFF.out _) Wd (c0 - at') ah D w3 hWc HHD.out
          obtain ⟨N, hNN⟩ : ∃ y, y = ofB8 (fun j => F (at' + j)) Wd := ⟨_, rfl⟩
          have hNl : N < 256 ^ Wd := by rw [hNN]; exact ofB8_lt _ (fun _ => HFF.out _) Wd
          have hNl2 : N < 18446744073709551616 := Nat.lt_of_lt_of_le hNl (pow256 Wd hWc)
          have HMC : Hid (Calls Try.prog 39 #[.slice ah Wd (c0 - at')] w3 fun e w' => e = .returned (.int .u64 (N : Nat)) ∧ w3 = w') := by rw [hNN]; exact hM
          have HNL := Lib.hid hNl2
          have hfit := ISt.take_fit (L := L) (at' := at') (F := F) (n := Wd) (by have := HSH.out; omega)
          rw [← hNN] at hfit
          have d4 : ((xk : Int) == 4) = false := beq_eq_false_iff_ne.2 (by omega)
          have d5 : ((xk : Int) == 5) = false := beq_eq_false_iff_ne.2 (by omega)
          have d6 : ((xk : Int) == 6) = false := beq_eq_false_iff_ne.2 (by omega)
          have e02 : ISt.fldB L F (.good at') x.k x.nb x.m = 0 := by rw [← HXK.out]; unfold ISt.fldB; rw [if_neg e4, if_neg e5]
          have e03 : ISt.fldL L F (.good at') x.k x.m = 0 := by rw [← HXK.out]; unfold ISt.fldL; rw [if_neg e6]
          clear hM hNl hNl2 hNN c2' c3' c4 f2 f3
          by_cases e3 : xk = 3
          · subst e3
            have hW1 : Wd = 1 := by rw [HWD.out, ← HXK.out]; rfl
            rw [hW1] at hfit
            have hNl3 : N < 256 := by
              have h1 := hfit.2.2
              rw [← h1]
              exact ISt.num_lt L F _ 1 HFF.out
            by_cases h1 : 1 < N
            · have hbad : ISt.field L F (.good at') x.k x.nb x.m = .bad := by
                rw [← HXK.out]
                show (if 1 < ISt.num L F (.good at') 1 then (ISt.take L (.good at') 1).fail else ISt.take L (.good at') 1) = _
                rw [hfit.2.2, if_pos h1, show ISt.take L (.good at') 1 = .good (at' + 1) from hfit.1]
                rfl
              have HBAD : Hid (ISt.fields L F (.good 0) X n = .bad) := ISt.fields_stay L F (.good 0) X (i + 1) (by rw [HST.out]; exact hbad) n HL2.out
              have hgs := grown_setCell_new HPRE3.out.g2 ⟨B, 1, none⟩ (.int .u64 (N : Nat)) (Or.inl HPRE3.out.hB)
              have GE := Lib.hid (grown_trans HPRE3.out.g0 hgs)
              have h2 : (1 : Int) < (N : Int) := by omega
              clear hbad hgs hfit hW1 hWc hNl3 e02 e03 h1
              go_upto_region 14 with (go_at_call 39; refine HMC.out.mono ?_; rintro e w4 ⟨rfl, rfl⟩)
              have d0 : (w3.setCell ⟨B, 1, none⟩ (.int .u64 N)).cell? ⟨B, 0, none⟩ = some (.int .u8 3) := by rw [World.cell?_setCell_other _ _ _ _ (by simp)]; exact c0''
              have d1 : (w3.setCell ⟨B, 1, none⟩ (.int .u64 N)).cell? ⟨B, 1, none⟩ = some (.int .u64 N) := World.cell?_setCell_same w3 _ _ c1'
              generalize w3.setCell ⟨B, 1, none⟩ (.int .u64 N) = w5 at *
              clear HMC c1' f1 kW k2 kn kl c0''
              go_wp2_with fail
              go_ret2
              exact ⟨Or.inr ⟨HBAD.out, rfl⟩, GE.out⟩
            · have e00 : ISt.field L F (.good at') x.k x.nb x.m = .good aw := by
                rw [← HXK.out]
                show (if 1 < ISt.num L F (.good at') 1 then (ISt.take L (.good at') 1).fail else ISt.take L (.good at') 1) = _
                rw [hfit.2.2, if_neg h1, show ISt.take L (.good at') 1 = .good (at' + 1) from hfit.1, HAW.out, hW1]
              have e01 : ISt.fldN L F (.good at') x.k = N := by
                rw [← HXK.out]
                show (if ISt.num L F (.good at') 1 = 1 then 1 else 0) = N
                rw [hfit.2.2]
                split <;> omega
              have HE := Lib.hid (mr_num (L := L) (F := F) (s := .good at') (at' := aw) HPRE3.out N (by have := HNL.out; omega) (by omega) e00 e01 e02 e03)
              have HD3 := Lib.hid (show ¬ (1 : Int) < (N : Int) by omega)
              clear hfit hW1 hWc hNl3 e00 e01 e02 e03 h1
              go_upto_region 14 with (go_at_call 39; refine HMC.out.mono ?_; rintro e w4 ⟨rfl, rfl⟩)
              have d0 : (w3.setCell ⟨B, 1, none⟩ (.int .u64 N)).cell? ⟨B, 0, none⟩ = some (.int .u8 3) := by rw [World.cell?_setCell_other _ _ _ _ (by simp)]; exact c0''
              have d1 : (w3.setCell ⟨B, 1, none⟩ (.int .u64 N)).cell? ⟨B, 1, none⟩ = some (.int .u64 N) := World.cell?_setCell_same w3 _ _ c1'
              generalize w3.setCell ⟨B, 1, none⟩ (.int .u64 N) = w5 at *
              have h2 := HD3.out
              clear HMC c1' f1 kW k2 kn kl
              clear c0''
              go_wp2_with fail
              go_meet
              case rel => exact ⟨_, rfl, HE.out⟩
          · have d3 : ((xk : Int) == 3) = false := beq_eq_false_iff_ne.2 (by omega)
            have key : ISt.field L F (.good at') x.k x.nb x.m = .good aw ∧ ISt.fldN L F (.good at') x.k = N := by
              have hWD := HWD.out
              rw [← HXK.out] at hWD ⊢
              rw [HAW.out]
              unfold ISt.field ISt.fldN
              unfold widF at hWD
              by_cases e0 : xk = 0
              · rw [if_pos (Or.inl e0)] at hWD
                rw [hWD] at hfit ⊢
                rw [if_pos e0, if_pos e0]
                exact ⟨hfit.1, hfit.2.2⟩
              rw [if_neg e0, if_neg e0]
              by_cases e1 : xk = 1
              · rw [if_neg (by omega), if_pos e1] at hWD
                rw [hWD] at hfit ⊢
                rw [if_pos e1, if_pos e1]
                exact ⟨hfit.1, hfit.2.2⟩
              rw [if_neg e1, if_neg e1]
              by_cases e2 : xk = 2
              · rw [if_neg (by omega), if_neg e1, if_pos e2] at hWD
                rw [hWD] at hfit ⊢
                rw [if_pos e2, if_pos e2]
                exact ⟨hfit.1, hfit.2.2⟩
              rw [if_neg e2, if_neg e2, if_neg e3, if_neg e3, if_neg e4, if_neg e5, if_neg e6]
              rw [if_neg (by omega), if_neg e1, if_neg e2, if_neg e4, if_neg (by omega)] at hWD
              rw [hWD] at hfit ⊢
              refine ⟨rfl, ?_⟩
              have h1 := hfit.2.2
              rw [← h1]
              show 0 = ofB8 _ (ISt.got L (.good at') (0 : Nat))
              rw [hfit.2.1]
              rfl
            obtain ⟨e00, e01⟩ := key
            have HE := Lib.hid (mr_num (L := L) (F := F) (s := .good at') (at' := aw) HPRE3.out N (by have := HNL.out; omega) (by omega) e00 e01 e02 e03)
            have HD3 := Lib.hid (show True from trivial)
            clear hfit hWc e00 e01 e02 e03 e3 e4 e5 e6
            go_upto_region 14 with (go_at_call 39; refine HMC.out.mono ?_; rintro e w4 ⟨rfl, rfl⟩)
            have d0 : (w3.setCell ⟨B, 1, none⟩ (.int .u64 N)).cell? ⟨B, 0, none⟩ = some (.int .u8 xk) := by rw [World.cell?_setCell_other _ _ _ _ (by simp)]; exact c0''
            have d1 : (w3.setCell ⟨B, 1, none⟩ (.int .u64 N)).cell? ⟨B, 1, none⟩ = some (.int .u64 N) := World.cell?_setCell_same w3 _ _ c1'
            generalize w3.setCell ⟨B, 1, none⟩ (.int .u64 N) = w5 at *
            have h2 := HD3.out
            clear HMC c1' f1 kW k2 kn kl
            clear c0'' h2
            go_wp2_with fail
            go_meet
            case rel => exact ⟨_, rfl, HE.out⟩
        case rest =>
          obtain ⟨at2, rfl, hM⟩ := hcut
          obtain ⟨y, hFy, hTy, hYo, hRb, hRl⟩ := hM.fat
          have g4 := World.grownBy_alloc wc (.cells #[.int .u8 y.k, .int .u64 y.n, .slice y.ab y.nb y.cb, .slice y.al y.nl y.cl, .int .i64 y.m] 54) none
          have hz4 := World.size_alloc wc (.cells #[.int .u8 y.k, .int .u64 y.n, .slice y.ab y.nb y.cb, .slice y.al y.nl y.cl, .int .i64 y.m] 54)
          obtain ⟨a5, c5, w5, hap, hK5, row, hgr, hrow⟩ := app_F wc.heap.size 1 22 (by have := hM.gr.size; omega) (hM.kept.grown g4 (by simp)) (FAt.new y wc) (hRb.grown g4 (by simp)) (hRl.grown g4 (by simp)) (by have := HN.out; have := HL2.out; omega)
          have HG5 := Lib.hid (grown_row (grown_trans hM.gr g4) hgr hrow)
          have HK5 := Lib.hid hK5
          have HAP := Lib.hid hap
          have HTy := Lib.hid hTy
          have HYo := Lib.hid hYo
          have HA2 := Lib.hid hM.le
          have HST2 : Hid (ISt.fields L F (.good 0) X (i + 1) = .good at2) := by rw [HST.out]; exact hM.st
          clear hK5 hap hTy hYo hM hRb hRl hgr hrow hz4 g4 HPRE3 HHD HHW c0''
          go_wp2_with (first
            | refine wpList_load_field rfl 9 hFy rfl rfl ?_; simp only [FV.val]
            | at_builtin; refine wpList_append_run rfl (.tmp 135) (.tmp 137) 22 22 rfl _ _ _ _ rfl rfl HAP.out ?_)
          go_roundw
          case rel =>
            refine ⟨i + 1, at2, snocY i Y y, HL2.out, by go_num, rfl, HA2.out, HST2.out, HK5.out, ?_, ?_, HG5.out⟩
            · intro q hq
              unfold snocY
              by_cases e : q < i
              · rw [if_pos e]; exact HT.out q e
              · obtain rfl : q = i := by omega
                rw [if_neg e, HST0.out, ← HXX.out]; exact HTy.out
            · intro q
              unfold snocY
              by_cases e : q < i
              · rw [if_pos e]; exact HY.out q
              · rw [if_neg e]; exact HYo.out
          case measure =>
            have := HL2.out
            simp [intOf]
            try omega
    · obtain rfl : i = n := by omega
      have j1 : ¬ (i : Int) < (i : Int) := by omega
      have ka : (at' : Int) ≤ (L : Int) := by omega
      obtain ⟨lf, hlf⟩ : ∃ y, y = L - at' := ⟨_, rfl⟩
      have k5 : (L : Int) - (at' : Int) = (lf : Int) := by omega
      have HT := Lib.hid hT
      have HY := Lib.hid hY
      have HK := Lib.hid hK
      have HST := Lib.hid hst0
      have HAL := Lib.hid hal
      have GR := Lib.hid gr
      have HLF := Lib.hid hlf
      rcases hK.own.ex with ⟨rfl, h0⟩ | ⟨go, cap, rfl, _⟩
      · have HI := Lib.hid h0
        clear hT hY hK hi hlt h0 hst0 hal gr hlf
        go_wp2_with fail
        go_ret2
        exact ⟨Or.inl ⟨at', none, 0, Y, HST.out, HAL.out, by rw [HI.out, ← HLF.out]; rfl, by have := HK.out; rwa [HI.out] at this ⊢, HT.out, HY.out⟩, GR.out⟩
      · clear hT hY hK hi hlt hst0 hal gr hlf
        go_wp2_with fail
        go_ret2
        exact ⟨Or.inl ⟨at', some ⟨go, 0, none⟩, cap, Y, HST.out, HAL.out, by rw [← HLF.out]; rfl, HK.out, HT.out, HY.out⟩, GR.out⟩
end Go.Proofs.Ytpkeolggehjjlaa
