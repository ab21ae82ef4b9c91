/-
  A region that draws its order: first what reads, or calls what only makes memory, in whatever order; then what waits for all of it. No program is named here.
-/
import Derived.Test.YtmbefbmpjkbnmaaGrowQ
import Derived.StillTail
namespace Go.Proofs.Ytmbefbmpjkbnmaa
open Go.RowKit

section
variable {P : Program} {ops : Array Oper} {md : Region.Mode} {C : World → Prop}

/-- f operations come up, each below n; then L. -/
def headQ (P : Program) (md : Region.Mode) (ops : Array Oper) (C : World → Prop) (n : Nat) (L : Array Bool → Act → Prop) : Nat → Array Bool → Act → Prop
  | 0, ls, a => L ls a
  | f + 1, ls, a => Region.ready md ops ls ≠ [] ∧ ∀ i ∈ Region.ready md ops ls, i < n ∧ qOp P ops C i (headQ P md ops C n L f (ls.setIfInBounds i true)) a

theorem any_of_headQ {n m : Nat} {L : Array Bool → Act → Prop} {R : Exit → Act → World → Prop} (hL : ∀ ls a w, C w → L ls a → wpAny P md ops R m ls a w) :
    ∀ (f : Nat) (ls : Array Bool) (a : Act) (w : World), C w → headQ P md ops C n L f ls a → wpAny P md ops R (f + m) ls a w
  | 0, ls, a, w, hw, h => by rw [Nat.zero_add]; exact hL ls a w hw h
  | f + 1, ls, a, w, hw, h => by
    rw [Nat.add_right_comm]
    refine ⟨fun e => absurd e h.1, fun i hi => ?_⟩
    exact wpOp_of_qOp hw (fun a' w' hw' k => any_of_headQ hL f _ a' w' hw' k) (h.2 i hi).2

theorem headQ_first {n i : Nat} {x : Oper} {v : Value} {L : Array Bool → Act → Prop} (hx : ops[i]? = some x) (hno : Region.noSelect ops = true)
    (hs : Region.sinkB md ops n = true) (hc : Region.chainB md ops n = true) (hn : n < ops.size) (hi : i < n) (hL : ∀ ls a, L ls a → ∀ j ∈ Region.ready md ops ls, n ≤ j) :
    ∀ (f : Nat) (ls : Array Bool) (a : Act), HeadInv md ops n ls →
      (∀ j y, ops[j]? = some y → j ≠ i → ls.getD j true = false → (∀ e ∈ y.after, Region.binds md e = true → e.on ≠ i) → x.apart ops y = true) →
      i ∈ Region.ready md ops ls → YieldsIn P ops C x v a → headQ P md ops C n L f (ls.setIfInBounds i true) (a.put x.dst v) → headQ P md ops C n L (f + 1) ls a := by
  have sel := Region.noSelect_spec hno
  intro f
  induction f with
  | zero =>
    intro ls a inv _ hr hy H
    refine ⟨fun e => (by rw [e] at hr; cases hr), fun j hj => ?_⟩
    have hj2 : j < n := Nat.lt_of_not_le fun h => tail_waits hs hc hn inv _ i rfl hi (mem_ready.1 hr).1 j h hj
    by_cases e : j = i
    · subst e
      exact ⟨hj2, hy.qOp hx H⟩
    · have := hL _ _ H j (ready_mono hj e)
      omega
  | succ f ih =>
    intro ls a inv hap hr hy H
    have hun := (mem_ready.1 hr).1
    refine ⟨fun e => (by rw [e] at hr; cases hr), fun j hj => ?_⟩
    have hj2 : j < n := Nat.lt_of_not_le fun h => tail_waits hs hc hn inv _ i rfl hi hun j h hj
    by_cases e : j = i
    · subst e
      exact ⟨hj2, hy.qOp hx H⟩
    · obtain ⟨hjun, y, hy2, hall⟩ := mem_ready.1 hj
      have hnot : ∀ d ∈ y.after, Region.binds md d = true → d.on ≠ i := fun d hd hb he => by
        have h1 := hall d hd hb
        rw [he, getD_both hun] at h1
        cases h1
      have h1 := qOp_put hy2 (hap j y hy2 e hjun hnot) (fun cs b => sel i x cs b hx) (fun cs b => sel j y cs b hy2) hy (H.2 j (ready_mono hj e)).2
      refine ⟨hj2, qOp_mono (fun a' h2 => ih (ls.setIfInBounds j true) a' (inv.set hj hj2) ?_ (ready_mono hr (Ne.symm e)) h2.1 ?_) h1⟩
      · intro k z hz hk hku hkn
        refine hap k z hz hk ?_ hkn
        by_cases e2 : j = k
        · subst e2; exact hjun
        · rw [getD_set_ne true e2] at hku; exact hku
      · rw [Array.setIfInBounds_comm _ _ e]
        exact h2.2

theorem headQ_lex {n m : Nat} {K : Act → Prop} (hno : Region.noSelect ops = true) (hs : Region.sinkB md ops n = true) (hc : Region.chainB md ops n = true) (hn : n < ops.size) :
    ∀ (l : List Oper) (k : Nat) (ls : Array Bool) (a : Act), (∀ j, j < l.length → l[j]? = ops[k + j]?) → k + l.length = n → HeadInv md ops n ls → Region.lexHead md ops m l.length k ls = true →
      wpQuiet P ops C K l a → headQ P md ops C n (fun ls' a' => Region.seqB md ops m n ls' = true ∧ K a') l.length ls a
  | [], k, ls, a, _, hk, _, hB, h => by
    obtain rfl : k = n := by simpa using hk
    exact ⟨by simpa [Region.lexHead] using hB, h⟩
  | o :: l, k, ls, a, hl, hk, inv, hB, h => by
    have h0 : ops[k]? = some o := by simpa using (hl 0 (by simp)).symm
    simp only [List.length_cons] at hk
    simp only [List.length_cons, Region.lexHead, Bool.and_eq_true] at hB
    have hq : qOp P ops C k (wpQuiet P ops C K l) a := by unfold qOp; simp only [h0]; exact h
    obtain ⟨v, hy, hK⟩ := yieldsIn_of_qOp h0 hq
    have hr : k ∈ Region.ready md ops ls := by simpa using hB.1.1
    have hkn : k < n := by omega
    refine headQ_first h0 hno hs hc hn hkn (fun ls' a' hL => seqB_ready hL.1) l.length ls a inv (Region.free_spec h0 hB.1.2) hr hy ?_
    refine headQ_lex hno hs hc hn l (k + 1) _ _ (fun j hj => ?_) (by omega) (inv.set hr hkn) hB.2 hK
    have := hl (j + 1) (by simp; omega)
    rw [show k + 1 + j = k + (j + 1) by omega, ← this]
    rfl

/-- The first n operations in the text's order, in every world of the class; the rest in its order. -/
theorem wp_region_quiet_tail {id : Nat} {Q : Exit → Act → World → Prop} {a : Act} {w : World} {l : List Oper} (n : Nat) (hm : P.follows .mixedOrders = true) (hB : Region.lexTailB .any l.toArray n = true) (hC : C w.drew)
    (h : wpQuiet P l.toArray C (fun a' => ∀ w', C w' → wpList P l.toArray Q (l.drop n) a' w') (l.take n) a) : (Code.region id l.toArray true).wp P Q a w := by
  simp only [Region.lexTailB, Bool.and_eq_true, decide_eq_true_eq] at hB
  obtain ⟨⟨⟨⟨hno, hn⟩, hs⟩, hc⟩, hlex⟩ := hB
  have hn2 : n < l.length := by simpa using hn
  have e1 : (l.take n).length = n := by simp; omega
  have e2 : (l.drop n).length = l.toArray.size - n := by simp
  have inv : HeadInv .any l.toArray n (Array.replicate l.toArray.size false) :=
    ⟨by simp, fun j y _ hl => (by rw [getD_replicate_false] at hl; cases hl), fun t _ ht => getD_in (by simpa using ht) (getD_replicate_false _ _)⟩
  have H := headQ_lex (md := .any) (m := l.toArray.size - n) hno hs hc hn (l.take n) 0 _ a (fun j hj => by rw [e1] at hj; simp [hj]) (by simpa using e1) inv (by rw [e1]; exact hlex) h
  have H2 := any_of_headQ (R := Q) (m := l.toArray.size - n) (fun ls a' w' hw' hL => by
    have := wpAny_of_seq (md := .any) (Q' := Q) (l.drop n) n ls a' w' (fun j => by simp [List.getElem?_drop]) (by rw [e2]; exact hL.1) (hL.2 w' hw')
    rwa [e2] at this) _ _ _ w.drew hC H
  rw [e1, show n + (l.toArray.size - n) = l.toArray.size by omega] at H2
  exact wp_region_any hm H2
end
end Go.Proofs.Ytmbefbmpjkbnmaa
