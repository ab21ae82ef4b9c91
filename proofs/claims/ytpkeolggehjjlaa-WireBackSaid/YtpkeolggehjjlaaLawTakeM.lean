/-
  hailerlaw08's take: what is taken, as numbers; fields that are kept.
-/
import Derived.Test.YtpkeolggehjjlaaInList
namespace Go.Proofs.Ytpkeolggehjjlaa
open Go.RowKit

set_option maxRecDepth 100000
set_option maxHeartbeats 2000000

/-- A field is taken: how the reader stands then. -/
def ISt.field (L : Nat) (F : Nat → Nat) (s : ISt) (k nb : Nat) (m : Int) : ISt :=
  if k = 0 then s.take L 1 else if k = 1 then s.take L 4 else if k = 2 then s.take L 8 else if k = 3 then s.flagS L F else if k = 4 then s.take L nb
  else if k = 5 then (s.cntS L F m).take L (s.cntV L F m : Nat) else if k = 6 then (s.cntS L F m).many L (s.cntV L F m) else s
def ISt.fldN (L : Nat) (F : Nat → Nat) (s : ISt) (k : Nat) : Nat :=
  if k = 0 then s.num L F 1 else if k = 1 then s.num L F 4 else if k = 2 then s.num L F 8 else if k = 3 then (if s.num L F 1 = 1 then 1 else 0) else 0
def ISt.fldB (L : Nat) (F : Nat → Nat) (s : ISt) (k nb : Nat) (m : Int) : Nat :=
  if k = 4 then s.got L nb else if k = 5 then (s.cntS L F m).got L (s.cntV L F m : Nat) else 0
def ISt.fldF (L : Nat) (F : Nat → Nat) (s : ISt) (k : Nat) (m : Int) : Nat → Nat :=
  if k = 4 then fun i => F (s.off + i) else if k = 5 then fun i => F ((s.cntS L F m).off + i) else fun _ => 0
def ISt.fldL (L : Nat) (F : Nat → Nat) (s : ISt) (k : Nat) (m : Int) : Nat :=
  if k = 6 then (s.cntS L F m).lstN L (s.cntV L F m) else 0
def ISt.fldG (L : Nat) (F : Nat → Nat) (s : ISt) (k : Nat) (m : Int) : Nat → Nat :=
  if k = 6 then fun i => ((s.cntS L F m).many L i).num L F 4 else fun _ => 0
/-- Fields, one behind the other. -/
def ISt.fields (L : Nat) (F : Nat → Nat) (s : ISt) (X : Nat → FV) : Nat → ISt
  | 0 => s
  | i + 1 => (ISt.fields L F s X i).field L F (X i).k (X i).nb (X i).m
/-- y is the field that is taken by x. -/
structure TakenF (L : Nat) (F : Nat → Nat) (s : ISt) (x y : FV) : Prop where
  k : y.k = x.k
  m : y.m = x.m
  n : y.n = s.fldN L F x.k
  nb : y.nb = s.fldB L F x.k x.nb x.m
  fb : ∀ i, i < y.nb → y.fb i = s.fldF L F x.k x.m i
  nl : y.nl = s.fldL L F x.k x.m
  fl : ∀ i, i < y.nl → y.fl i = s.fldG L F x.k x.m i
/-- No field. -/
def fv00 : FV := ⟨0, 0, none, 0, 0, fun _ => 0, none, 0, 0, fun _ => 0, 0⟩
theorem fv00_ok : fv00.Ok := ⟨by decide, by decide, fun _ => (by decide : (0 : Nat) < 256), fun _ => (by decide : (0 : Nat) < 4294967296), by decide, by decide, by decide, by decide⟩
/-- A field's cells. -/
def FV.cellAt (x : FV) (j : Nat) : Value := if j = 0 then .int .u8 x.k else if j = 1 then .int .u64 x.n else if j = 2 then .slice x.ab x.nb x.cb else if j = 3 then .slice x.al x.nl x.cl else .int .i64 x.m
theorem FV.cellAt_one (x : FV) (j : Nat) : (x.cellAt j).oneCell' = true := by
  unfold FV.cellAt
  repeat' split
  all_goals rfl
/-- Bytes that are kept: from block B0 on, and not in the one that is written. -/
structure RdX (w : World) (B0 : Nat) (ban : Option Nat) (a : Option Addr) (n : Nat) (f : Nat → Nat) : Prop where
  ex : 0 < n → ∃ tb o, a = some ⟨tb, o, none⟩ ∧ B0 ≤ tb ∧ tb < w.heap.size ∧ some tb ≠ ban ∧ ∀ i, i < n → w.cell? ⟨tb, o + i, none⟩ = some (.int .u8 (f i))
structure RdXL (w : World) (B0 : Nat) (ban : Option Nat) (a : Option Addr) (n : Nat) (f : Nat → Nat) : Prop where
  ex : 0 < n → ∃ tb o, a = some ⟨tb, o, none⟩ ∧ B0 ≤ tb ∧ tb < w.heap.size ∧ some tb ≠ ban ∧ ∀ i, i < n → w.cell? ⟨tb, o + i, none⟩ = some (.int .u32 (f i))
/-- The block in which a slice lies. -/
def blkOf : Value → Option Nat
  | .slice (some a) _ _ => some a.block
  | _ => none
section
variable {w w' : World} {B0 n : Nat} {ban row : Option Nat} {a : Option Addr} {f : Nat → Nat}
theorem RdX.grown (h : RdX w B0 ban a n f) (g : w.grownBy w' row) (hr : ∀ k, row = some k → k < B0 ∨ some k = ban ∨ w.heap.size ≤ k) : RdX w' B0 ban a n f where
  ex := fun hn => by
    obtain ⟨tb, o, h1, h2, h3, h4, h5⟩ := h.ex hn
    exact ⟨tb, o, h1, h2, Nat.lt_of_lt_of_le h3 g.size, h4, fun i hi => g.cell (h5 i hi) (fun e => by
      rcases hr tb e.symm with h | h | h
      · omega
      · exact h4 h
      · omega)⟩
theorem RdXL.grown (h : RdXL w B0 ban a n f) (g : w.grownBy w' row) (hr : ∀ k, row = some k → k < B0 ∨ some k = ban ∨ w.heap.size ≤ k) : RdXL w' B0 ban a n f where
  ex := fun hn => by
    obtain ⟨tb, o, h1, h2, h3, h4, h5⟩ := h.ex hn
    exact ⟨tb, o, h1, h2, Nat.lt_of_lt_of_le h3 g.size, h4, fun i hi => g.cell (h5 i hi) (fun e => by
      rcases hr tb e.symm with h | h | h
      · omega
      · exact h4 h
      · omega)⟩
theorem RdX.turn (h : RdX w B0 ban a n f) (ban' : Option Nat) (hb : ban' = ban ∨ ∀ k, ban' = some k → w.heap.size ≤ k) : RdX w B0 ban' a n f where
  ex := fun hn => by
    obtain ⟨tb, o, h1, h2, h3, h4, h5⟩ := h.ex hn
    refine ⟨tb, o, h1, h2, h3, ?_, h5⟩
    rcases hb with rfl | hb
    · exact h4
    · intro e
      have := hb tb e.symm
      omega
theorem RdXL.turn (h : RdXL w B0 ban a n f) (ban' : Option Nat) (hb : ban' = ban ∨ ∀ k, ban' = some k → w.heap.size ≤ k) : RdXL w B0 ban' a n f where
  ex := fun hn => by
    obtain ⟨tb, o, h1, h2, h3, h4, h5⟩ := h.ex hn
    refine ⟨tb, o, h1, h2, h3, ?_, h5⟩
    rcases hb with rfl | hb
    · exact h4
    · intro e
      have := hb tb e.symm
      omega
theorem RdX.rd (h : RdX w B0 ban a n f) : Rd w w.heap.size a n f where
  ex := fun hn => by
    obtain ⟨tb, o, h1, h2, h3, h4, h5⟩ := h.ex hn
    exact ⟨tb, o, h1, h3, h5⟩
theorem RdXL.rd (h : RdXL w B0 ban a n f) : RdL w w.heap.size a n f where
  ex := fun hn => by
    obtain ⟨tb, o, h1, h2, h3, h4, h5⟩ := h.ex hn
    exact ⟨tb, o, h1, h3, h5⟩
theorem RdX.zero : RdX w B0 ban a 0 f := ⟨fun h => absurd h (by omega)⟩
theorem RdXL.zero : RdXL w B0 ban a 0 f := ⟨fun h => absurd h (by omega)⟩
end
/-- Fields that the call has gathered. -/
structure Kept (w : World) (base B0 : Nat) (v : Value) (n : Nat) (Y : Nat → FV) : Prop where
  own : OwnNE w base 5 v n (fun q j => (Y q).cellAt j)
  b : ∀ q, q < n → RdX w B0 (blkOf v) (Y q).ab (Y q).nb (Y q).fb
  l : ∀ q, q < n → RdXL w B0 (blkOf v) (Y q).al (Y q).nl (Y q).fl
theorem Kept.grown {w w' : World} {base B0 n : Nat} {v : Value} {Y : Nat → FV} {row : Option Nat} (h : Kept w base B0 v n Y) (g : w.grownBy w' row) (hr : ∀ k, row = some k → (k < B0 ∧ k < base) ∨ w.heap.size ≤ k) : Kept w' base B0 v n Y where
  own := by
    rcases h.own.ex with h1 | ⟨go, cap, h1, h2, h3⟩
    · exact ⟨Or.inl h1⟩
    · exact ⟨Or.inr ⟨go, cap, h1, h2.grown g (fun e => by have h4 := h2.lt; rcases hr go e.symm with h | h <;> omega), h3⟩⟩
  b := fun q hq => (h.b q hq).grown g (fun k hk => by rcases hr k hk with h | h; exact Or.inl h.1; exact Or.inr (Or.inr h))
  l := fun q hq => (h.l q hq).grown g (fun k hk => by rcases hr k hk with h | h; exact Or.inl h.1; exact Or.inr (Or.inr h))
/-- One more behind. -/
def snocY (n : Nat) (Y : Nat → FV) (y : FV) : Nat → FV := fun q => if q < n then Y q else y
theorem info_fld : (Try.prog.info? 54).map (fun i => (i.zero, i.size, i.bytes)) = some (some (.agg #[.int .u8 0, .int .u64 0, .slice none 0 0, .slice none 0 0, .int .i64 0]), 5, 72) := by kernel_rfl
/-- A field is appended. -/
theorem app_F {w : World} {base B0 n : Nat} {v : Value} {Y : Nat → FV} {y : FV} (b c : Nat) (ty : TypeId) (h0 : base ≤ w.heap.size) (h : Kept w base B0 v n Y) (hy : FAt w b 0 y) (hb : RdX w B0 (blkOf v) y.ab y.nb y.fb) (hl : RdXL w B0 (blkOf v) y.al y.nl y.fl) (hn : n < 2 ^ 38) :
    ∃ a' c' w', (Builtin.append_ #[22, 22] ty #[v, .slice (some ⟨b, 0, none⟩) 1 c]).run Try.prog w = .ok (.slice a' (n + 1) c') w' ∧ Kept w' base B0 (.slice a' (n + 1) c') (n + 1) (snocY n Y y) ∧ ∃ row, w.grownBy w' row ∧ ∀ k, row = some k → base ≤ k := by
  obtain ⟨i0, hi0, hz0, hsz0, hby0⟩ := info_parts info_fld
  obtain ⟨a', c', w', hap, hO, row, hgr, hrow, g', rfl, hg'⟩ := app_E (P := Try.prog) (T := 22) (E := 54) (x := y.cellAt) ty b 0 c (by kernel_rfl) hi0 hz0 hsz0 (by rw [hby0]; decide) rfl (by decide) h0 h.own
    (fun j hj => by
      obtain rfl | rfl | rfl | rfl | rfl : j = 0 ∨ j = 1 ∨ j = 2 ∨ j = 3 ∨ j = 4 := by omega
      · exact hy.c0
      · exact hy.c1
      · exact hy.c2
      · exact hy.c3
      · exact hy.c4) (FV.cellAt_one y) hn
  have hban : blkOf (.slice (some ⟨g', 0, none⟩) (n + 1) c') = blkOf v ∨ ∀ k, blkOf (.slice (some ⟨g', 0, none⟩) (n + 1) c') = some k → w.heap.size ≤ k := by
    rcases hg' with ⟨_, h1⟩ | ⟨_, c'', h1⟩
    · right; intro k hk; cases hk; exact h1
    · left; rw [h1]; rfl
  have hrow2 : ∀ k, row = some k → k < B0 ∨ some k = blkOf (.slice (some ⟨g', 0, none⟩) (n + 1) c') ∨ w.heap.size ≤ k := fun k hk => by
    rcases hg' with ⟨h1, _⟩ | ⟨h1, _⟩
    · rw [h1] at hk; cases hk
    · rw [h1] at hk; cases hk; exact Or.inr (Or.inl rfl)
  refine ⟨_, c', w', hap, ⟨?_, fun q hq => ?_, fun q hq => ?_⟩, row, hgr, hrow⟩
  · rcases hO.ex with h | ⟨g2, cap, e1, e2, e3⟩
    · exact ⟨Or.inl h⟩
    · refine ⟨Or.inr ⟨g2, cap, e1, { e2 with cell := fun q j hq hj => ?_ }, e3⟩⟩
      have := e2.cell q j hq hj
      unfold snocE at this
      unfold snocY
      by_cases e : q < n
      · rw [if_pos e] at this ⊢; exact this
      · rw [if_neg e] at this ⊢; exact this
  · unfold snocY
    by_cases e : q < n
    · rw [if_pos e]; exact ((h.b q e).turn _ hban).grown hgr hrow2
    · rw [if_neg e]; exact (hb.turn _ hban).grown hgr hrow2
  · unfold snocY
    by_cases e : q < n
    · rw [if_pos e]; exact ((h.l q e).turn _ hban).grown hgr hrow2
    · rw [if_neg e]; exact (hl.turn _ hban).grown hgr hrow2
/-- Kept fields are fields. -/
theorem Kept.flds {w : World} {base B0 n c : Nat} {a : Option Addr} {Y : Nat → FV} (h : Kept w base B0 (.slice a n c) n Y) (hY : ∀ q, (Y q).Ok) : Flds w w.heap.size a n Y where
  ex := fun hn => by
    rcases h.own.ex with ⟨_, h1⟩ | ⟨g, cap, h1, h2, h3⟩
    · omega
    · cases h1
      refine ⟨g, 0, rfl, h2.lt, fun i hi => ?_⟩
      rw [Nat.zero_add]
      exact ⟨h2.cell i 0 hi (by decide), h2.cell i 1 hi (by decide), h2.cell i 2 hi (by decide), h2.cell i 3 hi (by decide), h2.cell i 4 hi (by decide)⟩
  mem := fun i hi => ⟨(h.b i hi).rd, (h.l i hi).rd⟩
  ok := hY
end Go.Proofs.Ytpkeolggehjjlaa
