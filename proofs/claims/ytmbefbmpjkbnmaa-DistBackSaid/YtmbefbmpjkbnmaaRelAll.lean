/-
  RelRegion's region with a tail, with guarded operations, and with new blocks that are unlike one another: the first n operations only make memory, in whatever order; each of the others waits for all of them. No program is named here.
-/
import Derived.Test.YtmbefbmpjkbnmaaRelGuard
import Derived.Test.YtmbefbmpjkbnmaaRelTail
namespace Go.Proofs.Ytmbefbmpjkbnmaa
open Go.RowKit

/-- What stands in the midst. -/
structure RelAl (a : Act) (w0 : World) (al : Nat → Bool) (d : Nat → Nat) (n r : Nat) (R : Nat → Value → World → Prop) (ops : Array Oper) (ls : Array Bool) (b : Act) (W : World) : Prop where
  defers : b.defers = a.defers
  size : b.tmps.size = a.tmps.size
  rest : ∀ t, (∀ k, k < n → t ≠ d k) → slotv b t = slotv a t
  has : ∀ k, k < n → ls.getD k true = true → R k (slotv b (d k)) W
  gr : w0.grownBy W none
  lsz : ls.size = n + r
  inv : HeadInv .any ops n ls
  apart : ∀ i k, i < n → k < n → i ≠ k → al i = true → al k = true → ls.getD i true = true → ls.getD k true = true → slotv b (d i) ≠ slotv b (d k)
def alL (l : List Nat) (k : Nat) : Bool := l.contains k
/-- What an operation does, where it may come up. -/
def RelStepA (P : Program) (ops : Array Oper) (Q : Exit → Act → World → Prop) (a : Act) (w0 : World) (al : Nat → Bool) (R : Nat → Value → World → Prop) (n : Nat) (d : Nat → Nat) (dep : Nat → List Nat) (i : Nat) : Prop :=
  ∃ o, ops[i]? = some o ∧ o.dst = some (d i) ∧ ∀ (b : Act) (W : World), (∀ t, (∀ k, k < n → t ≠ d k) → slotv b t = slotv a t) → w0.grownBy W none → (∀ j, j ∈ dep i → R j (slotv b (d j)) W) →
    Region.wanted o (yielded ops b.tmps) = true ∧ ∀ K : Act → World → Prop, (∀ v W', W.grownBy W' none → R i v W' → (al i = true → ∀ B, v = .pointer (some ⟨B, 0, none⟩) → W.heap.size ≤ B) → K (b.put o.dst v) W') → o.wp P b W K Q
section
variable {P : Program} {ops : Array Oper} {Q : Exit → Act → World → Prop} {a : Act} {w0 : World} {R : Nat → Value → World → Prop} {al : Nat → Bool}
theorem rel_steps_all (S : World → Prop) (hS : ∀ W, w0.grownBy W none → S W) (n r : Nat) (d : Nat → Nat) (dep : Nat → List Nat) (hsz : ops.size = n + r) (hb : backB ops = true) (hs : Region.sinkB .any ops n = true) (hch : Region.chainB .any ops n = true) (hr : 0 < r)
    (hdp : depB ops dep = true) (hd : ∀ k, k < n → d k < a.tmps.size) (hinj : ∀ i k, i < n → k < n → d i = d k → i = k)
    (hmono : ∀ k v W W', k < n → R k v W → W.grownBy W' none → R k v W') (hal : ∀ k v W, k < n → al k = true → R k v W → ∃ B, v = .pointer (some ⟨B, 0, none⟩) ∧ B < W.heap.size) (hstep : ∀ i, i < n → RelStepA P ops Q a w0 al R n d dep i) (hlt : ∀ i, i < n → ∀ j, j ∈ dep i → j < n)
    (hfin : ∀ ls b W, (∀ k, k < n → ls.getD k true = true) → RelAl a w0 al d n r R ops ls b W → wpAnyH P .any ops Q S r ls b W) :
    ∀ (m : Nat) (ls : Array Bool) (b : Act) (W : World), m = cntU ls n → RelAl a w0 al d n r R ops ls b W → wpAnyH P .any ops Q S (m + r) ls b W
  | 0, ls, b, W, hm, h => by
    rw [Nat.zero_add]
    exact hfin ls b W (cntU_zero n hm.symm) h
  | m + 1, ls, b, W, hm, h => by
    rw [Nat.add_right_comm]
    obtain ⟨i0, q1, q2, q3⟩ := first_un n (by omega : cntU ls n ≠ 0)
    refine ⟨fun he => ?_, fun i hi => ?_⟩
    · have hio : i0 < ops.size := by omega
      have : i0 ∈ Region.ready .any ops ls := mem_ready.2 ⟨q2, ops[i0], by simp [hio], fun e he' hbd => by
        have := backB_at hb (by simp [hio] : ops[i0]? = some ops[i0]) hio e he' hbd
        exact getD_tt (by rw [h.lsz]; omega) true false (q3 _ this)⟩
      rw [he] at this
      cases this
    · obtain ⟨hun, y, hy, hall⟩ := mem_ready.1 hi
      have hio : i < ops.size := (Array.getElem?_eq_some_iff.1 hy).1
      have hin : i < n := Nat.lt_of_not_le fun hge => tail_waits hs hch (by omega) h.inv _ i0 rfl q1 q2 i hge hi
      have hils : i < ls.size := by rw [h.lsz]; omega
      obtain ⟨o, ho, hdo, hw0⟩ := hstep i hin
      obtain rfl : y = o := by rw [hy] at ho; exact Option.some.inj ho
      obtain ⟨hg, hw⟩ := hw0 b W h.rest h.gr (fun j hj => by
        obtain ⟨e, he, hbd, rfl⟩ := depB_at hdp hy hio hj
        exact h.has _ (hlt i hin _ hj) (getD_tt (by have := hlt i hin _ hj; rw [h.lsz]; omega) false true (hall e he hbd)))
      refine wpOp_at hy hg (hw _ (fun v W' g hR hfr => ?_))
      · have hgr := grown_trans h.gr g
        rw [hdo]
        refine ⟨hS _ hgr, rel_steps_all S hS n r d dep hsz hb hs hch hr hdp hd hinj hmono hal hstep hlt hfin m _ _ W' ?_ ?_⟩
        · have := cntU_set hils hun n hin
          omega
        · have hdb : d i < b.tmps.size := by rw [h.size]; exact hd i hin
          refine ⟨h.defers, by simp [Act.put, h.size], fun t ht => ?_, fun k hk hl => ?_, hgr, by simp [h.lsz], h.inv.set hi hin, ?_⟩
          · rw [slotv_put _ _ _ _ hdb, if_neg (ht i hin)]
            exact h.rest t ht
          · rw [slotv_put _ _ _ _ hdb]
            by_cases e : k = i
            · subst e
              rw [if_pos rfl]
              exact hR
            · rw [if_neg (fun e' => e (hinj k i hk hin e'))]
              rw [getD_set_ne true (Ne.symm e)] at hl
              exact hmono k _ W W' hk (h.has k hk hl) g
          · intro p q hp hq hne a1 a2 l1 l2
            rw [slotv_put _ _ _ _ hdb, slotv_put _ _ _ _ hdb]
            by_cases e1 : p = i
            · subst e1
              have e2 : q ≠ p := fun e => hne e.symm
              rw [if_pos rfl, if_neg (fun e' => e2 (hinj q p hq hin e'))]
              rw [getD_set_ne true (Ne.symm e2)] at l2
              obtain ⟨B, hB, hlt2⟩ := hal q _ W hq a2 (h.has q hq l2)
              rw [hB]
              intro e
              have := hfr a1 B e
              omega
            · rw [if_neg (fun e' => e1 (hinj p i hp hin e'))]
              rw [getD_set_ne true (Ne.symm e1)] at l1
              by_cases e2 : q = i
              · subst e2
                rw [if_pos rfl]
                obtain ⟨B, hB, hlt2⟩ := hal p _ W hp a1 (h.has p hp l1)
                rw [hB]
                intro e
                have := hfr a2 B e.symm
                omega
              · rw [if_neg (fun e' => e2 (hinj q i hq hin e'))]
                rw [getD_set_ne true (Ne.symm e2)] at l2
                exact h.apart p q hp hq hne a1 a2 l1 l2
/-- The head in whatever order; then the tail, which keeps S. -/
theorem wp_region_rel_all {id : Nat} {w : World} (S : World → Prop) (hS : ∀ W, w.grownBy W none → S W) (al : Nat → Bool) (R : Nat → Value → World → Prop) (n r : Nat) (d : Nat → Nat) (dep : Nat → List Nat) (hm : P.follows .mixedOrders = true) (hsz : ops.size = n + r) (hb : backB ops = true) (hs : Region.sinkB .any ops n = true) (hch : Region.chainB .any ops n = true) (hr : 0 < r) (hdp : depB ops dep = true)
    (m : Nat) (hsm : a.tmps.size = m) (hd : ∀ k, k < n → d k < m) (hinj0 : ∀ i, i < n → ∀ k, k < n → d i = d k → i = k) (hlt : ∀ i, i < n → ∀ j, j ∈ dep i → j < n)
    (hmono : ∀ k v W W', k < n → R k v W → W.grownBy W' none → R k v W') (hal : ∀ k v W, k < n → al k = true → R k v W → ∃ B, v = .pointer (some ⟨B, 0, none⟩) ∧ B < W.heap.size) (hstep : ∀ i, i < n → RelStepA P ops Q a w al R n d dep i)
    (hfin : ∀ vals W, w.grownBy W none → (∀ k, k < n → R k (vals k) W) → (∀ i k, i < n → k < n → i ≠ k → al i = true → al k = true → vals i ≠ vals k) → wpAnyH P .any ops Q S r (headL n r) (putsN a d vals n) W) : (Code.region id ops true).wp P Q a w := by
  subst hsm
  have hinj : ∀ i k, i < n → k < n → d i = d k → i = k := fun i k h1 h2 => hinj0 i h1 k h2
  refine wp_region_held (S := S) hm ?_
  show wpAnyH P .any ops Q _ ops.size (Array.replicate ops.size false) a w.drew
  have hc : ∀ k, k ≤ ops.size → cntU (Array.replicate ops.size false) k = k := fun k => by
    induction k with
    | zero => intro _; rfl
    | succ k ih =>
      intro hk
      show cntU _ k + _ = _
      rw [ih (by omega), getD_in (by simp; omega) (getD_replicate_false _ _)]
      rfl
  have H := rel_steps_all (R := R) (al := al) (w0 := w) S hS n r d dep hsz hb hs hch hr hdp hd hinj hmono hal hstep hlt (fun ls b W hall h => ?_) n (Array.replicate ops.size false) a w.drew (hc n (by omega)).symm
    ⟨rfl, rfl, fun _ _ => rfl, fun k hk hl => (by rw [getD_in (by simp; omega) (getD_replicate_false _ _)] at hl; cases hl), grown_drew (grown_refl _ _), by simp [hsz], ⟨by simp, fun j y _ hl => (by rw [getD_replicate_false] at hl; cases hl), fun t _ ht => getD_in (by simpa using ht) (getD_replicate_false _ _)⟩, fun i k hi _ _ _ _ hl _ => (by rw [getD_in (by simp; omega) (getD_replicate_false _ _)] at hl; cases hl)⟩
  · rw [hsz] at H ⊢
    exact H
  · have he : b = putsN a d (fun k => slotv b (d k)) n := by
      refine act_ext (h.defers.trans (putsN_defers a d _ n).symm) (h.size.trans (putsN_size a d _ n).symm) fun t _ => ?_
      by_cases e : ∃ k, k < n ∧ t = d k
      · obtain ⟨k, hk, rfl⟩ := e
        exact (putsN_at a d (fun k => slotv b (d k)) n hd hinj k hk).symm
      · have e' : ∀ k, k < n → t ≠ d k := fun k hk h => e ⟨k, hk, h⟩
        rw [h.rest t e', putsN_rest a d _ n hd t e']
    have hl : ls = headL n r := by
      refine Array.ext (by simp [headL, h.lsz]) fun i h1 h2 => ?_
      have hi : i < n + r := by rw [← h.lsz]; exact h1
      by_cases e : i < n
      · have h3 := hall i e
        simp only [Array.getD_eq_getD_getElem?, Array.getElem?_eq_getElem h1, Option.getD_some] at h3
        rw [h3]
        simp [headL, e]
      · have h3 := h.inv.tail i (by omega) (by omega)
        simp only [Array.getD_eq_getD_getElem?, Array.getElem?_eq_getElem h1, Option.getD_some] at h3
        rw [h3]
        simp [headL, List.getElem_append, e]
    rw [he, hl]
    exact hfin _ W h.gr (fun k hk => h.has k hk (hall k hk)) (fun i k hi hk hne a1 a2 => h.apart i k hi hk hne a1 a2 (hall i hi) (hall k hk))
end
end Go.Proofs.Ytmbefbmpjkbnmaa
