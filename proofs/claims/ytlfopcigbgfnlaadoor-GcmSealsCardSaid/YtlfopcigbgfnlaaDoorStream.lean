/-
  An iterator without an end of its own, and the loop that leaves it. No program is named here.
-/
import Derived.RangeFuncNested
namespace Go.Proofs.YtlfopcigbgfnlaaDoor
open Go.RowKit

/-- What a round leaves as it was: what lay from B on, but for Z, and what lay below A, but for X. -/
structure KeepS (A B : Nat) (X Z : Nat → Prop) (W W' : World) : Prop where
  size : W.heap.size ≤ W'.heap.size
  eq : ∀ b, b < W.heap.size → ((B ≤ b ∧ ¬ Z b) ∨ (b < A ∧ ¬ X b)) → W'.heap[b]? = W.heap[b]?
theorem KeepS.refl (A B : Nat) (X Z : Nat → Prop) (W : World) : KeepS A B X Z W W := ⟨Nat.le_refl _, fun _ _ _ => rfl⟩
theorem KeepS.trans {A B : Nat} {X Z : Nat → Prop} {U V W : World} (h : KeepS A B X Z U V) (k : KeepS A B X Z V W) : KeepS A B X Z U W :=
  ⟨Nat.le_trans h.size k.size, fun b hb hc => (k.eq b (Nat.lt_of_lt_of_le hb h.size) hc).trans (h.eq b hb hc)⟩
theorem KeepS.putObj {A B : Nat} {X Z : Nat → Prop} (W : World) (l : Nat) (o : Obj) (h1 : A ≤ l) (h2 : l < B) : KeepS A B X Z W (W.putObj l o) :=
  ⟨by simp [World.putObj], fun b hb hc => World.putObj_heap_other (by omega)⟩
theorem KeepS.grown {A B : Nat} {X Z : Nat → Prop} {W W' : World} (h : W.grownBy W' none) : KeepS A B X Z W W' := ⟨h.size, fun b hb _ => h.block b hb (by simp)⟩

/-- It speaks of what lies below B, and of Z, alone. -/
def Above (B : Nat) (I : (Nat → Prop) → Nat → World → Prop) : Prop := ∀ Z k W W' row, I Z k W → W.grownBy W' row → (∀ r, row = some r → B ≤ r ∧ ¬ Z r) → I Z k W'
theorem Above.putObj {B : Nat} {I : (Nat → Prop) → Nat → World → Prop} (h : Above B I) {Z : Nat → Prop} {k : Nat} {W : World} {l : Nat} (o : Obj) (hs : I Z k W) (hB : B ≤ l) (hZ : ¬ Z l) : I Z k (W.putObj l o) :=
  h Z k W _ (some l) hs (grownBy_putObj' W l o) (fun r e => by cases e; exact ⟨hB, hZ⟩)
theorem Above.alloc {B : Nat} {I : (Nat → Prop) → Nat → World → Prop} (h : Above B I) {Z : Nat → Prop} {k : Nat} {W : World} (o : Obj) (hs : I Z k W) : I Z k (W.alloc o) := h Z k W _ none hs (World.grownBy_alloc W o none) (fun r e => by cases e)
/-- Z lies from B on. -/
def Within (B : Nat) (I : (Nat → Prop) → Nat → World → Prop) : Prop := ∀ Z k U, I Z k U → ∀ z, Z z → B ≤ z ∧ z < U.heap.size

section
variable {F : Fence} {n : Nat} {P : Program}

/-- An iterator that goes on as long as it is asked: it wants to be told that no more rounds come than M. Z are blocks that rounds have made. -/
def Streams (F : Fence) (n : Nat) (P : Program) (g : Nat) (lb : Array Value) (encs : Nat → Array Value) (X : Nat → Prop) (w : World) : Prop :=
  ∀ (l M : Nat) (J : (Nat → Prop) → Nat → World → Prop) (Jx : Nat → World → Prop) (Z : Nat → Prop) (W : World), Below w.heap.size w W →
    Above W.heap.size J → Within W.heap.size J → (∀ Z k U, J Z k U → k ≤ M) →
    (∀ Z k U, J Z k U → YieldAt F (n - 1) P l (encs k) U fun e U' =>
      (e = .returned (.bool true) ∧ (∃ Z', J Z' (k + 1) U' ∧ ∀ z, Z' z → Z z ∨ U.heap.size ≤ z) ∧ KeepS w.heap.size W.heap.size X Z U U') ∨ (e = .returned (.bool false) ∧ Jx (k + 1) U')) →
    J Z 0 W →
    CallsIn F n P g (#[.func (.yield l) #[] #[]] ++ lb) W fun e U => (∃ v, e = .returned v) ∧ ∃ k, Jx k U

/-- How a round's body may be left. -/
def postS (A : Nat) (X : Nat → Prop) (I : (Nat → Prop) → Nat → World → Prop) (Ix : Code → Nat → World → Prop) (Z : Nat → Prop) (k : Nat) (W : World) : Exit → Act → World → Prop
  | .normal, _, W' => KeepsOthers W W' ∧ KeepS A (A + 2) X Z W W' ∧ ∃ Z', I Z' k W' ∧ ∀ z, Z' z → Z z ∨ W.heap.size ≤ z
  | .ret, _, W' => KeepsOthers W W' ∧ Ix .ret k W'
  | .exit id, _, W' => KeepsOthers W W' ∧ Ix (.exit id) k W'
  | .goto t, _, W' => KeepsOthers W W' ∧ Ix (.goto t) k W'
  | .panic _, _, _ => False
  | .outgrown, _, _ => False

/-- 'for x := range stream { .. }', left by the body. -/
theorem wpIn_stream {g : Operand} {ps : Array Tmp} {assign body : Code} {Q : Exit → Act → World → Prop} {a : Act} {w : World}
    (hro : F.round = none) (h1 : 1 ≤ n) {gf : Nat} {lb : Array Value} (hg : a.eval g = .func (.func gf) #[] lb) (hFg : F.fn gf) (eg : ∀ args w, (callFunc gf args).run P w = .ok (.enter gf args) w)
    {encs : Nat → Array Value} {X : Nat → Prop} (hseq : Streams F (n - 1) P gf lb encs X w) (hps : ∀ k, (encs k).size = ps.size)
    (I : (Nat → Prop) → Nat → World → Prop) (Ix : Code → Nat → World → Prop) (M : Nat) (hM : ∀ Z k U, I Z k U → k ≤ M) (hI : Above w.heap.size I) (hZI : Within (w.heap.size + 2) I) (hIx : ∀ c, OwnFrom w.heap.size (Ix c)) (h0 : I (fun _ => False) 0 w)
    (Ax : (Nat → Prop) → Nat → Act → World → Prop) (hAx : ∀ Z k a', OwnFrom w.heap.size (fun (_ : Unit) W => Ax Z k a' W))
    (hassign : ∀ (l k : Nat) (Z : Nat → Prop) (W : World) (K : Act → World → Prop), I Z k W → w.heap.size + 2 ≤ W.heap.size → (∀ a' W', KeepsOthers W W' → KeepS w.heap.size (w.heap.size + 2) X Z W W' → Ax Z k a' W' → K a' W') →
      assign.wpIn (F.inRound l) (n - 1 - 1) P (Exit.then K (fun _ _ _ => False)) { tmps := (ps.zip (encs k)).foldl (fun t (p, v) => t.setIfInBounds p v) a.tmps, defers := [] } W)
    (hbody : ∀ (l k : Nat) (Z : Nat → Prop) (a' : Act) (W : World), Ax Z k a' W → body.wpIn (F.inRound l) (n - 1 - 1) P (postS w.heap.size X I Ix Z (k + 1) W) a' W)
    (hstop : ∀ (D : Nat) (c : Code) (k : Nat) (W : World), w.heap.size ≤ D → Ix c k W → W.heap[D]? = some (.deferred (some [])) → c.wpIn F n P Q { a with defers := { target := .collected D, args := #[] } :: a.defers } W) :
    (Code.rangeFunc g ps assign body).wpIn F n P Q a w := by
  refine wpIn_rangeFunc fun fn hfn => ?_
  rw [hro]
  -- the record of the loop, and the world in which the iterator is called
  let rec_ : LoopState → Option Code → Loop := fun st pe => { state := st, pending := pe, fn, tmps := a.tmps, params := ps, assign, body, defers := w.heap.size }
  obtain ⟨rec, hrec⟩ : ∃ rec, rec = rec_ := ⟨_, rfl⟩
  obtain ⟨W1, hW1⟩ : ∃ W1, (w.alloc (.deferred (some []))).alloc (.loop (rec .ready none)) = W1 := ⟨_, rfl⟩
  have hZ1 : W1.heap.size = w.heap.size + 2 := by rw [← hW1]; simp
  have hL1 : W1.heap[w.heap.size + 1]? = some (.loop (rec .ready none)) := by
    rw [← hW1]
    have := World.alloc_heap_new (w.alloc (.deferred (some []))) (.loop (rec .ready none))
    rwa [World.size_alloc] at this
  have hD1 : W1.heap[w.heap.size]? = some (.deferred (some [])) := by
    rw [← hW1]
    exact (Below.heap_alloc _ _ _ (by simp)).trans (World.alloc_heap_new w _)
  have hI1 : I (fun _ => False) 0 W1 := by rw [← hW1]; exact hI.alloc _ (hI.alloc _ h0)
  have hb1 : Below w.heap.size w W1 := by rw [← hW1]; exact ((Below.refl _ w).alloc (Nat.le_refl _) _).alloc (by simp) _
  refine ⟨w.heap.size + 1, [{ target := .collected w.heap.size, args := #[] }], W1, { target := .fn (.func gf) lb, args := #[.func (.yield (w.heap.size + 1)) #[] #[]] }, W1, gf,
    #[.func (.yield (w.heap.size + 1)) #[] #[]] ++ lb, W1, by rw [← hW1, hrec]; exact run_enterLoop_outer _ _ _ _ _, by simp only [resolve, hg]; simp [go_sem], ?_, by simp [invoke, go_sem, eg], fun _ => h1, ?_⟩
  · intro f' hf'
    simp [Target.leads] at hf'
    subst hf'
    exact hFg
  refine (hseq (w.heap.size + 1) M
    (fun Z k U => I Z k U ∧ U.heap[w.heap.size + 1]? = some (.loop (rec .ready none)) ∧ U.heap[w.heap.size]? = some (.deferred (some [])))
    (fun k U => ∃ c, Ix c k U ∧ U.heap[w.heap.size + 1]? = some (.loop (rec .done (some c))) ∧ U.heap[w.heap.size]? = some (.deferred (some [])))
    (fun _ => False) W1 hb1 (fun Z k U U' row h hg' hr => by
      have hlt : w.heap.size + 1 < U.heap.size := (Array.getElem?_eq_some_iff.1 h.2.1).1
      rw [hZ1] at hr
      exact ⟨hI Z k U U' row h.1 hg' (fun r e => ⟨by have := (hr r e).1; omega, (hr r e).2⟩), (hg'.block _ hlt (fun e => by have := (hr _ e.symm).1; omega)).trans h.2.1, (hg'.block _ (by omega) (fun e => by have := (hr _ e.symm).1; omega)).trans h.2.2⟩)
    (fun Z k U h z hz => by rw [hZ1]; exact hZI Z k U h.1 z hz) (fun Z k U h => hM Z k U h.1) ?_ ⟨hI1, hL1, hD1⟩).mono ?_
  · -- a round
    rintro Z k U ⟨hi, hl, hd⟩
    have hy := run_yield (P := P) (args := encs k) hl (by rw [hrec]; exact hps k)
    rw [hrec] at hy
    refine ⟨fn, _, assign, body, hy, roundIn_of_wpIn hfn (hassign _ k Z U _ hi (by have := (Array.getElem?_eq_some_iff.1 hl).1; omega) ?_)⟩
    intro a' V hko hks hax
    have hlV := hko.same _ _ hl rfl
    have hdV := hko.same _ _ hd rfl
    refine ⟨_, run_beginRound hlV (by rw [hrec]), ?_⟩
    have hlt : w.heap.size + 1 < V.heap.size := (Array.getElem?_eq_some_iff.1 hlV).1
    have hl2 : (V.putObj (w.heap.size + 1) (.loop { rec .ready none with state := .busy })).heap[w.heap.size + 1]? = some (.loop { rec .ready none with state := .busy }) := World.putObj_heap_same hlt
    have hd2 : (V.putObj (w.heap.size + 1) (.loop { rec .ready none with state := .busy })).heap[w.heap.size]? = some (.deferred (some [])) := (World.putObj_heap_other (by omega)).trans hdV
    have hks2 : KeepS w.heap.size (w.heap.size + 2) X Z U (V.putObj (w.heap.size + 1) (.loop { rec .ready none with state := .busy })) := hks.trans (KeepS.putObj V _ _ (by omega) (by omega))
    refine wpIn_mono (hbody _ k Z a' _ ((hAx Z k a').putObj (s := ()) _ hax (by omega) hlV rfl)) ?_
    have hVs : U.heap.size ≤ (V.putObj (w.heap.size + 1) (.loop { rec .ready none with state := .busy })).heap.size := hks2.size
    generalize V.putObj (w.heap.size + 1) (.loop { rec .ready none with state := .busy }) = V2 at *
    have fin : ∀ (jump : Option Code) (V3 : World), KeepsOthers V2 V3 →
        (Instr.endRound (w.heap.size + 1) jump).run P V3 = .ok (.bool jump.isNone) (V3.putObj (w.heap.size + 1) (.loop (rec (if jump.isNone then .ready else .done) jump))) ∧
        V3.heap[w.heap.size + 1]? = some (.loop { rec .ready none with state := .busy }) ∧
        (V3.putObj (w.heap.size + 1) (.loop (rec (if jump.isNone then .ready else .done) jump))).heap[w.heap.size + 1]? = some (.loop (rec (if jump.isNone then .ready else .done) jump)) ∧
        (V3.putObj (w.heap.size + 1) (.loop (rec (if jump.isNone then .ready else .done) jump))).heap[w.heap.size]? = some (.deferred (some [])) := fun jump V3 hk3 => by
      have hl3 := hk3.same _ _ hl2 rfl
      have hr := run_endRound (P := P) jump hl3
      rw [hrec] at hr hl3 ⊢
      exact ⟨hr, hl3, World.putObj_heap_same (Array.getElem?_eq_some_iff.1 hl3).1, (World.putObj_heap_other (by omega)).trans (hk3.same _ _ hd2 rfl)⟩
    have out : ∀ c V3, KeepsOthers V2 V3 → Ix c (k + 1) V3 → ∃ v U', (Instr.endRound (w.heap.size + 1) (some c)).run P V3 = .ok v U' ∧ ((Ending.returned v = .returned (.bool true) ∧ (∃ Z', (I Z' (k + 1) U' ∧ U'.heap[w.heap.size + 1]? = some (.loop (rec .ready none)) ∧ U'.heap[w.heap.size]? = some (.deferred (some []))) ∧ ∀ z, Z' z → Z z ∨ U.heap.size ≤ z) ∧ KeepS w.heap.size W1.heap.size X Z U U') ∨
        (Ending.returned v = .returned (.bool false) ∧ ∃ c, Ix c (k + 1) U' ∧ U'.heap[w.heap.size + 1]? = some (.loop (rec .done (some c))) ∧ U'.heap[w.heap.size]? = some (.deferred (some [])))) := fun c V3 hk3 hi3 => by
      obtain ⟨hr, hl3, hl4, hd4⟩ := fin (some c) V3 hk3
      exact ⟨_, _, hr, .inr ⟨rfl, c, (hIx c).putObj _ hi3 (by omega) hl3 rfl, hl4, hd4⟩⟩
    rintro e a3 V3 hp
    cases e with
    | normal =>
      obtain ⟨hk3, hs3, Z', hi3, hz3⟩ := hp
      obtain ⟨hr, hl3, hl4, hd4⟩ := fin none V3 hk3
      refine ⟨_, _, hr, .inl ⟨rfl, ⟨Z', ⟨hI.putObj _ hi3 (by omega) (fun h => by have := (hZI Z' _ _ hi3 _ h).1; omega), hl4, hd4⟩, fun z h => (hz3 z h).imp id (fun h => Nat.le_trans hVs h)⟩, ?_⟩⟩
      rw [hZ1]
      exact (hks2.trans hs3).trans (KeepS.putObj V3 _ _ (by omega) (by omega))
    | ret => exact out _ _ hp.1 hp.2
    | exit id => exact out _ _ hp.1 hp.2
    | goto t => exact out _ _ hp.1 hp.2
    | panic ch => exact hp.elim
    | outgrown => exact hp.elim
  · -- behind it
    rintro e U ⟨⟨v, rfl⟩, k, c, hi, hl, hd⟩
    exact ⟨some c, _, by have := run_endLoop (P := P) hl (by rw [hrec]; simp [rec_]); rw [hrec] at this; exact this, hstop _ c k _ (Nat.le_refl _) ((hIx c).putObj _ hi (by omega) hl rfl) ((World.putObj_heap_other (by omega)).trans hd)⟩
end
end Go.Proofs.YtlfopcigbgfnlaaDoor
