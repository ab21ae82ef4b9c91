/-
  RelRegion's region, some of whose operations are guarded: each that comes up is wanted. No program is named here.
-/
import Derived.Test.YtmbefbmpjkbnmaaRelKit
namespace Go.Proofs.Ytmbefbmpjkbnmaa
open Go.RowKit

theorem wanted_at {ops : Array Oper} {o : Oper} {b : Act} {j t : Nat} (hg : o.guard = some (j, true)) (hd : (ops[j]?).bind (·.dst) = some t) (h : slotv b t = .bool true) : Region.wanted o (yielded ops b.tmps) = true := by
  have h1 : b.tmps[t]? = some (.bool true) := by
    unfold slotv at h
    cases e : b.tmps[t]? with
    | none => rw [e] at h; cases h
    | some v => rw [e] at h; exact congrArg some h
  unfold Region.wanted yielded
  simp [hg, hd, h1]
section
variable {P : Program} {ops : Array Oper} {Q : Exit → Act → World → Prop} {a : Act} {w0 : World} {R : Nat → Value → World → Prop}
/-- What an operation does, where it may come up. -/
def RelStepG (P : Program) (ops : Array Oper) (Q : Exit → Act → World → Prop) (a : Act) (w0 : World) (R : Nat → Value → World → Prop) (n : Nat) (d : Nat → Nat) (dep : Nat → List Nat) (i : Nat) : Prop :=
  ∃ o, ops[i]? = some o ∧ o.dst = some (d i) ∧ ∀ (b : Act) (W : World), (∀ t, (∀ k, k < n → t ≠ d k) → slotv b t = slotv a t) → w0.grownBy W none → (∀ j, j ∈ dep i → R j (slotv b (d j)) W) →
    Region.wanted o (yielded ops b.tmps) = true ∧ ∀ K : Act → World → Prop, (∀ v W', W.grownBy W' none → R i v W' → K (b.put o.dst v) W') → o.wp P b W K Q
theorem rel_steps_g (n : Nat) (d : Nat → Nat) (dep : Nat → List Nat) (hsz : ops.size = n) (hb : backB ops = true) (hdp : depB ops dep = true) (hd : ∀ k, k < n → d k < a.tmps.size) (hinj : ∀ i k, i < n → k < n → d i = d k → i = k)
    (hmono : ∀ k v W W', k < n → R k v W → W.grownBy W' none → R k v W') (hstep : ∀ i, i < n → RelStepG P ops Q a w0 R n d dep i) (hlt : ∀ i, i < n → ∀ j, j ∈ dep i → j < n)
    (hfin : ∀ ls b W, (∀ k, k < n → ls.getD k true = true) → RelSt a w0 d n R ls b W → Q .normal b W) :
    ∀ (m : Nat) (ls : Array Bool) (b : Act) (W : World), m = cntU ls n → RelSt a w0 d n R ls b W → wpAnyH P .any ops Q (fun W => w0.grownBy W none) m ls b W
  | 0, ls, b, W, hm, h => by
    have hall := cntU_zero n hm.symm
    refine ⟨List.eq_nil_iff_forall_not_mem.2 fun i hi => ?_, hfin ls b W hall h⟩
    obtain ⟨h1, y, hy, _⟩ := mem_ready.1 hi
    have hin : i < n := by rw [← hsz]; exact (Array.getElem?_eq_some_iff.1 hy).1
    rw [hall i hin] at h1
    cases h1
  | m + 1, ls, b, W, hm, h => by
    refine ⟨fun he => ?_, fun i hi => ?_⟩
    · obtain ⟨i, h1, h2, h3⟩ := first_un n (by omega : cntU ls n ≠ 0)
      have hio : i < ops.size := by omega
      have : i ∈ Region.ready .any ops ls := mem_ready.2 ⟨h2, ops[i], by simp [hio], fun e he' hbd => by
        have := backB_at hb (by simp [hio] : ops[i]? = some ops[i]) hio e he' hbd
        exact getD_tt (by rw [h.lsz]; omega) true false (h3 _ this)⟩
      rw [he] at this
      cases this
    · obtain ⟨hun, y, hy, hall⟩ := mem_ready.1 hi
      have hin : i < n := by rw [← hsz]; exact (Array.getElem?_eq_some_iff.1 hy).1
      have hils : i < ls.size := by rw [h.lsz]; exact hin
      obtain ⟨o, ho, hdo, hw0⟩ := hstep i hin
      obtain rfl : y = o := by rw [hy] at ho; exact Option.some.inj ho
      obtain ⟨hg, hw⟩ := hw0 b W h.rest h.gr (fun j hj => by
        obtain ⟨e, he, hbd, rfl⟩ := depB_at hdp hy (by omega) hj
        exact h.has _ (hlt i hin _ hj) (getD_tt (by rw [h.lsz]; exact hlt i hin _ hj) false true (hall e he hbd)))
      refine wpOp_at hy hg (hw _ (fun v W' g hR => ?_))
      · have hgr := grown_trans h.gr g
        rw [hdo]
        refine ⟨hgr, rel_steps_g n d dep hsz hb hdp hd hinj hmono hstep hlt hfin m _ _ W' ?_ ?_⟩
        · have := cntU_set hils hun n hin
          omega
        · have hdb : d i < b.tmps.size := by rw [h.size]; exact hd i hin
          refine ⟨h.defers, by simp [Act.put, h.size], fun t ht => ?_, fun k hk hl => ?_, hgr, by simp [h.lsz]⟩
          · rw [slotv_put _ _ _ _ hdb, if_neg (ht i hin)]
            exact h.rest t ht
          · rw [slotv_put _ _ _ _ hdb]
            by_cases e : k = i
            · subst e
              rw [if_pos rfl]
              exact hR
            · rw [if_neg (fun e' => e (hinj k i hk hin e'))]
              rw [getD_set_ne true (Ne.symm e)] at hl
              exact hmono k _ W W' hk (h.has k hk hl) g
/-- A region of operations that only make memory: in the end each slot has what its relation tells. -/
theorem wp_region_rel_g {id : Nat} {w : World} (R : Nat → Value → World → Prop) (n : Nat) (d : Nat → Nat) (dep : Nat → List Nat) (hm : P.follows .mixedOrders = true) (hsz : ops.size = n) (hb : backB ops = true) (hdp : depB ops dep = true)
    (m : Nat) (hsm : a.tmps.size = m) (hd : ∀ k, k < n → d k < m) (hinj0 : ∀ i, i < n → ∀ k, k < n → d i = d k → i = k) (hlt : ∀ i, i < n → ∀ j, j ∈ dep i → j < n)
    (hmono : ∀ k v W W', k < n → R k v W → W.grownBy W' none → R k v W') (hstep : ∀ i, i < n → RelStepG P ops Q a w.drew R n d dep i)
    (hfin : ∀ vals W, w.drew.grownBy W none → (∀ k, k < n → R k (vals k) W) → Q .normal (putsN a d vals n) W) : (Code.region id ops true).wp P Q a w := by
  subst hsm
  have hinj : ∀ i k, i < n → k < n → d i = d k → i = k := fun i k h1 h2 => hinj0 i h1 k h2
  refine wp_region_held (S := fun W => w.drew.grownBy W none) hm ?_
  show wpAnyH P .any ops Q _ ops.size (Array.replicate ops.size false) a w.drew
  have hc : ∀ k, k ≤ ops.size → cntU (Array.replicate ops.size false) k = k := fun k => by
    induction k with
    | zero => intro _; rfl
    | succ k ih =>
      intro hk
      show cntU _ k + _ = _
      rw [ih (by omega), getD_in (by simp; omega) (getD_replicate_false _ _)]
      rfl
  refine rel_steps_g (R := R) n d dep hsz hb hdp hd hinj hmono hstep hlt (fun ls b W hall h => ?_) ops.size _ a w.drew (by rw [← hsz]; exact (hc _ (Nat.le_refl _)).symm)
    ⟨rfl, rfl, fun _ _ => rfl, fun k hk hl => (by rw [getD_in (by simp; omega) (getD_replicate_false _ _)] at hl; cases hl), grown_refl _ _, by simp [hsz]⟩
  have he : b = putsN a d (fun k => slotv b (d k)) n := by
    refine act_ext (h.defers.trans (putsN_defers a d _ n).symm) (h.size.trans (putsN_size a d _ n).symm) fun t _ => ?_
    by_cases e : ∃ k, k < n ∧ t = d k
    · obtain ⟨k, hk, rfl⟩ := e
      exact (putsN_at a d (fun k => slotv b (d k)) n hd hinj k hk).symm
    · have e' : ∀ k, k < n → t ≠ d k := fun k hk h => e ⟨k, hk, h⟩
      rw [h.rest t e', putsN_rest a d _ n hd t e']
  rw [he]
  exact hfin _ W h.gr (fun k hk => h.has k hk (hall k hk))
end
end Go.Proofs.Ytmbefbmpjkbnmaa
