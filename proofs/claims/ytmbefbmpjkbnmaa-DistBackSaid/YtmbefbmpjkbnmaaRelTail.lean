/-
  RelRegion's region with a tail: the first n operations only make memory, in whatever order; each of the others waits for all of them. No program is named here.
-/
import Derived.Test.YtmbefbmpjkbnmaaRelRegion
namespace Go.Proofs.Ytmbefbmpjkbnmaa
open Go.RowKit

/-- What stands in the midst. -/
structure RelTl (a : Act) (w0 : World) (d : Nat → Nat) (n r : Nat) (R : Nat → Value → World → Prop) (ops : Array Oper) (ls : Array Bool) (b : Act) (W : World) : Prop where
  defers : b.defers = a.defers
  size : b.tmps.size = a.tmps.size
  rest : ∀ t, (∀ k, k < n → t ≠ d k) → slotv b t = slotv a t
  has : ∀ k, k < n → ls.getD k true = true → R k (slotv b (d k)) W
  gr : w0.grownBy W none
  lsz : ls.size = n + r
  inv : HeadInv .any ops n ls
def headL (n r : Nat) : Array Bool := (List.replicate n true ++ List.replicate r false).toArray
section
variable {P : Program} {ops : Array Oper} {Q : Exit → Act → World → Prop} {a : Act} {w0 : World} {R : Nat → Value → World → Prop}
theorem rel_steps_tail (S : World → Prop) (hS : ∀ W, w0.grownBy W none → S W) (n r : Nat) (d : Nat → Nat) (dep : Nat → List Nat) (hsz : ops.size = n + r) (hb : backB ops = true) (hs : Region.sinkB .any ops n = true) (hch : Region.chainB .any ops n = true) (hr : 0 < r)
    (hdp : depB ops dep = true) (hd : ∀ k, k < n → d k < a.tmps.size) (hinj : ∀ i k, i < n → k < n → d i = d k → i = k)
    (hmono : ∀ k v W W', k < n → R k v W → W.grownBy W' none → R k v W') (hstep : ∀ i, i < n → RelStep P ops Q a w0 R n d dep i) (hlt : ∀ i, i < n → ∀ j, j ∈ dep i → j < n)
    (hfin : ∀ ls b W, (∀ k, k < n → ls.getD k true = true) → RelTl a w0 d n r R ops ls b W → wpAnyH P .any ops Q S r ls b W) :
    ∀ (m : Nat) (ls : Array Bool) (b : Act) (W : World), m = cntU ls n → RelTl a w0 d n r R ops ls b W → wpAnyH P .any ops Q S (m + r) ls b W
  | 0, ls, b, W, hm, h => by
    rw [Nat.zero_add]
    exact hfin ls b W (cntU_zero n hm.symm) h
  | m + 1, ls, b, W, hm, h => by
    rw [Nat.add_right_comm]
    obtain ⟨i0, q1, q2, q3⟩ := first_un n (by omega : cntU ls n ≠ 0)
    refine ⟨fun he => ?_, fun i hi => ?_⟩
    · have hio : i0 < ops.size := by omega
      have : i0 ∈ Region.ready .any ops ls := mem_ready.2 ⟨q2, ops[i0], by simp [hio], fun e he' hbd => by
        have := backB_at hb (by simp [hio] : ops[i0]? = some ops[i0]) hio e he' hbd
        exact getD_tt (by rw [h.lsz]; omega) true false (q3 _ this)⟩
      rw [he] at this
      cases this
    · obtain ⟨hun, y, hy, hall⟩ := mem_ready.1 hi
      have hio : i < ops.size := (Array.getElem?_eq_some_iff.1 hy).1
      have hin : i < n := Nat.lt_of_not_le fun hge => tail_waits hs hch (by omega) h.inv _ i0 rfl q1 q2 i hge hi
      have hils : i < ls.size := by rw [h.lsz]; omega
      obtain ⟨o, ho, hg, hdo, hw⟩ := hstep i hin
      obtain rfl : y = o := by rw [hy] at ho; exact Option.some.inj ho
      refine wpOp_at hy (wanted_of hg) (hw b W h.rest h.gr (fun j hj => ?_) _ (fun v W' g hR => ?_))
      · obtain ⟨e, he, hbd, rfl⟩ := depB_at hdp hy hio hj
        exact h.has _ (hlt i hin _ hj) (getD_tt (by have := hlt i hin _ hj; rw [h.lsz]; omega) false true (hall e he hbd))
      · have hgr := grown_trans h.gr g
        rw [hdo]
        refine ⟨hS _ hgr, rel_steps_tail S hS n r d dep hsz hb hs hch hr hdp hd hinj hmono hstep hlt hfin m _ _ W' ?_ ?_⟩
        · have := cntU_set hils hun n hin
          omega
        · have hdb : d i < b.tmps.size := by rw [h.size]; exact hd i hin
          refine ⟨h.defers, by simp [Act.put, h.size], fun t ht => ?_, fun k hk hl => ?_, hgr, by simp [h.lsz], h.inv.set hi hin⟩
          · rw [slotv_put _ _ _ _ hdb, if_neg (ht i hin)]
            exact h.rest t ht
          · rw [slotv_put _ _ _ _ hdb]
            by_cases e : k = i
            · subst e
              rw [if_pos rfl]
              exact hR
            · rw [if_neg (fun e' => e (hinj k i hk hin e'))]
              rw [getD_set_ne true (Ne.symm e)] at hl
              exact hmono k _ W W' hk (h.has k hk hl) g
/-- The head in whatever order; then the tail, which keeps S. -/
theorem wp_region_rel_tailS {id : Nat} {w : World} (S : World → Prop) (hS : ∀ W, w.drew.grownBy W none → S W) (R : Nat → Value → World → Prop) (n r : Nat) (d : Nat → Nat) (dep : Nat → List Nat) (hm : P.follows .mixedOrders = true) (hsz : ops.size = n + r) (hb : backB ops = true) (hs : Region.sinkB .any ops n = true) (hch : Region.chainB .any ops n = true) (hr : 0 < r) (hdp : depB ops dep = true)
    (m : Nat) (hsm : a.tmps.size = m) (hd : ∀ k, k < n → d k < m) (hinj0 : ∀ i, i < n → ∀ k, k < n → d i = d k → i = k) (hlt : ∀ i, i < n → ∀ j, j ∈ dep i → j < n)
    (hmono : ∀ k v W W', k < n → R k v W → W.grownBy W' none → R k v W') (hstep : ∀ i, i < n → RelStep P ops Q a w.drew R n d dep i)
    (hfin : ∀ vals W, w.drew.grownBy W none → (∀ k, k < n → R k (vals k) W) → wpAnyH P .any ops Q S r (headL n r) (putsN a d vals n) W) : (Code.region id ops true).wp P Q a w := by
  subst hsm
  have hinj : ∀ i k, i < n → k < n → d i = d k → i = k := fun i k h1 h2 => hinj0 i h1 k h2
  refine wp_region_held (S := S) hm ?_
  show wpAnyH P .any ops Q _ ops.size (Array.replicate ops.size false) a w.drew
  have hc : ∀ k, k ≤ ops.size → cntU (Array.replicate ops.size false) k = k := fun k => by
    induction k with
    | zero => intro _; rfl
    | succ k ih =>
      intro hk
      show cntU _ k + _ = _
      rw [ih (by omega), getD_in (by simp; omega) (getD_replicate_false _ _)]
      rfl
  have H := rel_steps_tail (R := R) S hS n r d dep hsz hb hs hch hr hdp hd hinj hmono hstep hlt (fun ls b W hall h => ?_) n (Array.replicate ops.size false) a w.drew (hc n (by omega)).symm
    ⟨rfl, rfl, fun _ _ => rfl, fun k hk hl => (by rw [getD_in (by simp; omega) (getD_replicate_false _ _)] at hl; cases hl), grown_refl _ _, by simp [hsz], ⟨by simp, fun j y _ hl => (by rw [getD_replicate_false] at hl; cases hl), fun t _ ht => getD_in (by simpa using ht) (getD_replicate_false _ _)⟩⟩
  · rw [hsz] at H ⊢
    exact H
  · have he : b = putsN a d (fun k => slotv b (d k)) n := by
      refine act_ext (h.defers.trans (putsN_defers a d _ n).symm) (h.size.trans (putsN_size a d _ n).symm) fun t _ => ?_
      by_cases e : ∃ k, k < n ∧ t = d k
      · obtain ⟨k, hk, rfl⟩ := e
        exact (putsN_at a d (fun k => slotv b (d k)) n hd hinj k hk).symm
      · have e' : ∀ k, k < n → t ≠ d k := fun k hk h => e ⟨k, hk, h⟩
        rw [h.rest t e', putsN_rest a d _ n hd t e']
    have hl : ls = headL n r := by
      refine Array.ext (by simp [headL, h.lsz]) fun i h1 h2 => ?_
      have hi : i < n + r := by rw [← h.lsz]; exact h1
      by_cases e : i < n
      · have h3 := hall i e
        simp only [Array.getD_eq_getD_getElem?, Array.getElem?_eq_getElem h1, Option.getD_some] at h3
        rw [h3]
        simp [headL, e]
      · have h3 := h.inv.tail i (by omega) (by omega)
        simp only [Array.getD_eq_getD_getElem?, Array.getElem?_eq_getElem h1, Option.getD_some] at h3
        rw [h3]
        simp [headL, List.getElem_append, e]
    rw [he, hl]
    exact hfin _ W h.gr (fun k hk => h.has k hk (hall k hk))
/-- The head in whatever order; then the tail. -/
theorem wp_region_rel_tail {id : Nat} {w : World} (R : Nat → Value → World → Prop) (n r : Nat) (d : Nat → Nat) (dep : Nat → List Nat) (hm : P.follows .mixedOrders = true) (hsz : ops.size = n + r) (hb : backB ops = true) (hs : Region.sinkB .any ops n = true) (hch : Region.chainB .any ops n = true) (hr : 0 < r) (hdp : depB ops dep = true)
    (m : Nat) (hsm : a.tmps.size = m) (hd : ∀ k, k < n → d k < m) (hinj0 : ∀ i, i < n → ∀ k, k < n → d i = d k → i = k) (hlt : ∀ i, i < n → ∀ j, j ∈ dep i → j < n)
    (hmono : ∀ k v W W', k < n → R k v W → W.grownBy W' none → R k v W') (hstep : ∀ i, i < n → RelStep P ops Q a w.drew R n d dep i)
    (hfin : ∀ vals W, w.drew.grownBy W none → (∀ k, k < n → R k (vals k) W) → wpAnyH P .any ops Q (fun W => w.drew.grownBy W none) r (headL n r) (putsN a d vals n) W) : (Code.region id ops true).wp P Q a w :=
  wp_region_rel_tailS (fun W => w.drew.grownBy W none) (fun _ h => h) R n r d dep hm hsz hb hs hch hr hdp m hsm hd hinj0 hlt hmono hstep hfin
end
end Go.Proofs.Ytmbefbmpjkbnmaa
