/-
  Proved: whatever number's bytes and list of steps come in, 'FieldPlays' answers true, and what came in reads afterwards as it read before. Conditions: the arguments can be read as data.
-/
import Derived.Test.YtpnddojcihdniaaRelRegion
import Derived.Test.YtpnddojcihdniaaRelKit
import Derived.Test.YtpnddojcihdniaaBytes
import Derived.Below
import Derived.ProofKit
import Derived.LaidMore
import Derived.OpenShut
import Derived.Carry
import Derived.Test.YtpnddojcihdniaaRows
import Derived.Stop.Joined
import Derived.LaidLaws
import Derived.Deep.Slices
import Derived.Deep.MidRow
import Derived.Test.YtpnddojcihdniaaFieldKit
namespace Go.Proofs.Ytpnddojcihdniaa
open Go.RowKit

/-- What stands in the midst. -/
structure RelTl (a : Act) (w0 : World) (d : Nat → Nat) (n r : Nat) (R : Nat → Value → World → Prop) (ops : Array Oper) (ls : Array Bool) (b : Act) (W : World) : Prop where
  defers : b.defers = a.defers
  size : b.tmps.size = a.tmps.size
  rest : ∀ t, (∀ k, k < n → t ≠ d k) → slotv b t = slotv a t
  has : ∀ k, k < n → ls.getD k true = true → R k (slotv b (d k)) W
  gr : w0.grownBy W none
  lsz : ls.size = n + r
  inv : HeadInv .any ops n ls
def headL (n r : Nat) : Array Bool := (List.replicate n true ++ List.replicate r false).toArray
section
variable {P : Program} {ops : Array Oper} {Q : Exit → Act → World → Prop} {a : Act} {w0 : World} {R : Nat → Value → World → Prop}
theorem rel_steps_tail (S : World → Prop) (hS : ∀ W, w0.grownBy W none → S W) (n r : Nat) (d : Nat → Nat) (dep : Nat → List Nat) (hsz : ops.size = n + r) (hb : backB ops = true) (hs : Region.sinkB .any ops n = true) (hch : Region.chainB .any ops n = true) (hr : 0 < r)
    (hdp : depB ops dep = true) (hd : ∀ k, k < n → d k < a.tmps.size) (hinj : ∀ i k, i < n → k < n → d i = d k → i = k)
    (hmono : ∀ k v W W', k < n → R k v W → W.grownBy W' none → R k v W') (hstep : ∀ i, i < n → RelStep P ops Q a w0 R n d dep i) (hlt : ∀ i, i < n → ∀ j, j ∈ dep i → j < n)
    (hfin : ∀ ls b W, (∀ k, k < n → ls.getD k true = true) → RelTl a w0 d n r R ops ls b W → wpAnyH P .any ops Q S r ls b W) :
    ∀ (m : Nat) (ls : Array Bool) (b : Act) (W : World), m = cntU ls n → RelTl a w0 d n r R ops ls b W → wpAnyH P .any ops Q S (m + r) ls b W
  | 0, ls, b, W, hm, h => by
    rw [Nat.zero_add]
    exact hfin ls b W (cntU_zero n hm.symm) h
  | m + 1, ls, b, W, hm, h => by
    rw [Nat.add_right_comm]
    obtain ⟨i0, q1, q2, q3⟩ := first_un n (by omega : cntU ls n ≠ 0)
    refine ⟨fun he => ?_, fun i hi => ?_⟩
    · have hio : i0 < ops.size := by omega
      have : i0 ∈ Region.ready .any ops ls := mem_ready.2 ⟨q2, ops[i0], by simp [hio], fun e he' hbd => by
        have := backB_at hb (by simp [hio] : ops[i0]? = some ops[i0]) hio e he' hbd
        exact getD_tt (by rw [h.lsz]; omega) true false (q3 _ this)⟩
      rw [he] at this
      cases this
    · obtain ⟨hun, y, hy, hall⟩ := mem_ready.1 hi
      have hio : i < ops.size := (Array.getElem?_eq_some_iff.1 hy).1
      have hin : i < n := Nat.lt_of_not_le fun hge => tail_waits hs hch (by omega) h.inv _ i0 rfl q1 q2 i hge hi
      have hils : i < ls.size := by rw [h.lsz]; omega
      obtain ⟨o, ho, hg, hdo, hw⟩ := hstep i hin
      obtain rfl : y = o := by rw [hy] at ho; exact Option.some.inj ho
      refine wpOp_at hy (wanted_of hg) (hw b W h.rest h.gr (fun j hj => ?_) _ (fun v W' g hR => ?_))
      · obtain ⟨e, he, hbd, rfl⟩ := depB_at hdp hy hio hj
        exact h.has _ (hlt i hin _ hj) (getD_tt (by have := hlt i hin _ hj; rw [h.lsz]; omega) false true (hall e he hbd))
      · have hgr := grown_trans h.gr g
        rw [hdo]
        refine ⟨hS _ hgr, rel_steps_tail S hS n r d dep hsz hb hs hch hr hdp hd hinj hmono hstep hlt hfin m _ _ W' ?_ ?_⟩
        · have := cntU_set hils hun n hin
          omega
        · have hdb : d i < b.tmps.size := by rw [h.size]; exact hd i hin
          refine ⟨h.defers, by simp [Act.put, h.size], fun t ht => ?_, fun k hk hl => ?_, hgr, by simp [h.lsz], h.inv.set hi hin⟩
          · rw [slotv_put _ _ _ _ hdb, if_neg (ht i hin)]
            exact h.rest t ht
          · rw [slotv_put _ _ _ _ hdb]
            by_cases e : k = i
            · subst e
              rw [if_pos rfl]
              exact hR
            · rw [if_neg (fun e' => e (hinj k i hk hin e'))]
              rw [getD_set_ne true (Ne.symm e)] at hl
              exact hmono k _ W W' hk (h.has k hk hl) g
/-- The head in whatever order; then the tail, which keeps S. -/
theorem wp_region_rel_tailS {id : Nat} {w : World} (S : World → Prop) (hS : ∀ W, w.drew.grownBy W none → S W) (R : Nat → Value → World → Prop) (n r : Nat) (d : Nat → Nat) (dep : Nat → List Nat) (hm : P.follows .mixedOrders = true) (hsz : ops.size = n + r) (hb : backB ops = true) (hs : Region.sinkB .any ops n = true) (hch : Region.chainB .any ops n = true) (hr : 0 < r) (hdp : depB ops dep = true)
    (m : Nat) (hsm : a.tmps.size = m) (hd : ∀ k, k < n → d k < m) (hinj0 : ∀ i, i < n → ∀ k, k < n → d i = d k → i = k) (hlt : ∀ i, i < n → ∀ j, j ∈ dep i → j < n)
    (hmono : ∀ k v W W', k < n → R k v W → W.grownBy W' none → R k v W') (hstep : ∀ i, i < n → RelStep P ops Q a w.drew R n d dep i)
    (hfin : ∀ vals W, w.drew.grownBy W none → (∀ k, k < n → R k (vals k) W) → wpAnyH P .any ops Q S r (headL n r) (putsN a d vals n) W) : (Code.region id ops true).wp P Q a w := by
  subst hsm
  have hinj : ∀ i k, i < n → k < n → d i = d k → i = k := fun i k h1 h2 => hinj0 i h1 k h2
  refine wp_region_held (S := S) hm ?_
  show wpAnyH P .any ops Q _ ops.size (Array.replicate ops.size false) a w.drew
  have hc : ∀ k, k ≤ ops.size → cntU (Array.replicate ops.size false) k = k := fun k => by
    induction k with
    | zero => intro _; rfl
    | succ k ih =>
      intro hk
      show cntU _ k + _ = _
      rw [ih (by omega), getD_in (by simp; omega) (getD_replicate_false _ _)]
      rfl
  have H := rel_steps_tail (R := R) S hS n r d dep hsz hb hs hch hr hdp hd hinj hmono hstep hlt (fun ls b W hall h => ?_) n (Array.replicate ops.size false) a w.drew (hc n (by omega)).symm
    ⟨rfl, rfl, fun _ _ => rfl, fun k hk hl => (by rw [getD_in (by simp; omega) (getD_replicate_false _ _)] at hl; cases hl), grown_refl _ _, by simp [hsz], ⟨by simp, fun j y _ hl => (by rw [getD_replicate_false] at hl; cases hl), fun t _ ht => getD_in (by simpa using ht) (getD_replicate_false _ _)⟩⟩
  · rw [hsz] at H ⊢
    exact H
  · have he : b = putsN a d (fun k => slotv b (d k)) n := by
      refine act_ext (h.defers.trans (putsN_defers a d _ n).symm) (h.size.trans (putsN_size a d _ n).symm) fun t _ => ?_
      by_cases e : ∃ k, k < n ∧ t = d k
      · obtain ⟨k, hk, rfl⟩ := e
        exact (putsN_at a d (fun k => slotv b (d k)) n hd hinj k hk).symm
      · have e' : ∀ k, k < n → t ≠ d k := fun k hk h => e ⟨k, hk, h⟩
        rw [h.rest t e', putsN_rest a d _ n hd t e']
    have hl : ls = headL n r := by
      refine Array.ext (by simp [headL, h.lsz]) fun i h1 h2 => ?_
      have hi : i < n + r := by rw [← h.lsz]; exact h1
      by_cases e : i < n
      · have h3 := hall i e
        simp only [Array.getD_eq_getD_getElem?, Array.getElem?_eq_getElem h1, Option.getD_some] at h3
        rw [h3]
        simp [headL, e]
      · have h3 := h.inv.tail i (by omega) (by omega)
        simp only [Array.getD_eq_getD_getElem?, Array.getElem?_eq_getElem h1, Option.getD_some] at h3
        rw [h3]
        simp [headL, List.getElem_append, e]
    rw [he, hl]
    exact hfin _ W h.gr (fun k hk => h.has k hk (hall k hk))
/-- The head in whatever order; then the tail. -/
theorem wp_region_rel_tail {id : Nat} {w : World} (R : Nat → Value → World → Prop) (n r : Nat) (d : Nat → Nat) (dep : Nat → List Nat) (hm : P.follows .mixedOrders = true) (hsz : ops.size = n + r) (hb : backB ops = true) (hs : Region.sinkB .any ops n = true) (hch : Region.chainB .any ops n = true) (hr : 0 < r) (hdp : depB ops dep = true)
    (m : Nat) (hsm : a.tmps.size = m) (hd : ∀ k, k < n → d k < m) (hinj0 : ∀ i, i < n → ∀ k, k < n → d i = d k → i = k) (hlt : ∀ i, i < n → ∀ j, j ∈ dep i → j < n)
    (hmono : ∀ k v W W', k < n → R k v W → W.grownBy W' none → R k v W') (hstep : ∀ i, i < n → RelStep P ops Q a w.drew R n d dep i)
    (hfin : ∀ vals W, w.drew.grownBy W none → (∀ k, k < n → R k (vals k) W) → wpAnyH P .any ops Q (fun W => w.drew.grownBy W none) r (headL n r) (putsN a d vals n) W) : (Code.region id ops true).wp P Q a w :=
  wp_region_rel_tailS (fun W => w.drew.grownBy W none) (fun _ h => h) R n r d dep hm hsz hb hs hch hr hdp m hsm hd hinj0 hlt hmono hstep hfin
end
end Go.Proofs.Ytpnddojcihdniaa
namespace Go.Proofs.Ytpnddojcihdniaa
open Go.RowKit

theorem wanted_at {ops : Array Oper} {o : Oper} {b : Act} {j t : Nat} (hg : o.guard = some (j, true)) (hd : (ops[j]?).bind (·.dst) = some t) (h : slotv b t = .bool true) : Region.wanted o (yielded ops b.tmps) = true := by
  have h1 : b.tmps[t]? = some (.bool true) := by
    unfold slotv at h
    cases e : b.tmps[t]? with
    | none => rw [e] at h; cases h
    | some v => rw [e] at h; exact congrArg some h
  unfold Region.wanted yielded
  simp [hg, hd, h1]
section
variable {P : Program} {ops : Array Oper} {Q : Exit → Act → World → Prop} {a : Act} {w0 : World} {R : Nat → Value → World → Prop}
/-- What an operation does, where it may come up. -/
def RelStepG (P : Program) (ops : Array Oper) (Q : Exit → Act → World → Prop) (a : Act) (w0 : World) (R : Nat → Value → World → Prop) (n : Nat) (d : Nat → Nat) (dep : Nat → List Nat) (i : Nat) : Prop :=
  ∃ o, ops[i]? = some o ∧ o.dst = some (d i) ∧ ∀ (b : Act) (W : World), (∀ t, (∀ k, k < n → t ≠ d k) → slotv b t = slotv a t) → w0.grownBy W none → (∀ j, j ∈ dep i → R j (slotv b (d j)) W) →
    Region.wanted o (yielded ops b.tmps) = true ∧ ∀ K : Act → World → Prop, (∀ v W', W.grownBy W' none → R i v W' → K (b.put o.dst v) W') → o.wp P b W K Q
theorem rel_steps_g (n : Nat) (d : Nat → Nat) (dep : Nat → List Nat) (hsz : ops.size = n) (hb : backB ops = true) (hdp : depB ops dep = true) (hd : ∀ k, k < n → d k < a.tmps.size) (hinj : ∀ i k, i < n → k < n → d i = d k → i = k)
    (hmono : ∀ k v W W', k < n → R k v W → W.grownBy W' none → R k v W') (hstep : ∀ i, i < n → RelStepG P ops Q a w0 R n d dep i) (hlt : ∀ i, i < n → ∀ j, j ∈ dep i → j < n)
    (hfin : ∀ ls b W, (∀ k, k < n → ls.getD k true = true) → RelSt a w0 d n R ls b W → Q .normal b W) :
    ∀ (m : Nat) (ls : Array Bool) (b : Act) (W : World), m = cntU ls n → RelSt a w0 d n R ls b W → wpAnyH P .any ops Q (fun W => w0.grownBy W none) m ls b W
  | 0, ls, b, W, hm, h => by
    have hall := cntU_zero n hm.symm
    refine ⟨List.eq_nil_iff_forall_not_mem.2 fun i hi => ?_, hfin ls b W hall h⟩
    obtain ⟨h1, y, hy, _⟩ := mem_ready.1 hi
    have hin : i < n := by rw [← hsz]; exact (Array.getElem?_eq_some_iff.1 hy).1
    rw [hall i hin] at h1
    cases h1
  | m + 1, ls, b, W, hm, h => by
    refine ⟨fun he => ?_, fun i hi => ?_⟩
    · obtain ⟨i, h1, h2, h3⟩ := first_un n (by omega : cntU ls n ≠ 0)
      have hio : i < ops.size := by omega
      have : i ∈ Region.ready .any ops ls := mem_ready.2 ⟨h2, ops[i], by simp [hio], fun e he' hbd => by
        have := backB_at hb (by simp [hio] : ops[i]? = some ops[i]) hio e he' hbd
        exact getD_tt (by rw [h.lsz]; omega) true false (h3 _ this)⟩
      rw [he] at this
      cases this
    · obtain ⟨hun, y, hy, hall⟩ := mem_ready.1 hi
      have hin : i < n := by rw [← hsz]; exact (Array.getElem?_eq_some_iff.1 hy).1
      have hils : i < ls.size := by rw [h.lsz]; exact hin
      obtain ⟨o, ho, hdo, hw0⟩ := hstep i hin
      obtain rfl : y = o := by rw [hy] at ho; exact Option.some.inj ho
      obtain ⟨hg, hw⟩ := hw0 b W h.rest h.gr (fun j hj => by
        obtain ⟨e, he, hbd, rfl⟩ := depB_at hdp hy (by omega) hj
        exact h.has _ (hlt i hin _ hj) (getD_tt (by rw [h.lsz]; exact hlt i hin _ hj) false true (hall e he hbd)))
      refine wpOp_at hy hg (hw _ (fun v W' g hR => ?_))
      · have hgr := grown_trans h.gr g
        rw [hdo]
        refine ⟨hgr, rel_steps_g n d dep hsz hb hdp hd hinj hmono hstep hlt hfin m _ _ W' ?_ ?_⟩
        · have := cntU_set hils hun n hin
          omega
        · have hdb : d i < b.tmps.size := by rw [h.size]; exact hd i hin
          refine ⟨h.defers, by simp [Act.put, h.size], fun t ht => ?_, fun k hk hl => ?_, hgr, by simp [h.lsz]⟩
          · rw [slotv_put _ _ _ _ hdb, if_neg (ht i hin)]
            exact h.rest t ht
          · rw [slotv_put _ _ _ _ hdb]
            by_cases e : k = i
            · subst e
              rw [if_pos rfl]
              exact hR
            · rw [if_neg (fun e' => e (hinj k i hk hin e'))]
              rw [getD_set_ne true (Ne.symm e)] at hl
              exact hmono k _ W W' hk (h.has k hk hl) g
/-- A region of operations that only make memory: in the end each slot has what its relation tells. -/
theorem wp_region_rel_g {id : Nat} {w : World} (R : Nat → Value → World → Prop) (n : Nat) (d : Nat → Nat) (dep : Nat → List Nat) (hm : P.follows .mixedOrders = true) (hsz : ops.size = n) (hb : backB ops = true) (hdp : depB ops dep = true)
    (m : Nat) (hsm : a.tmps.size = m) (hd : ∀ k, k < n → d k < m) (hinj0 : ∀ i, i < n → ∀ k, k < n → d i = d k → i = k) (hlt : ∀ i, i < n → ∀ j, j ∈ dep i → j < n)
    (hmono : ∀ k v W W', k < n → R k v W → W.grownBy W' none → R k v W') (hstep : ∀ i, i < n → RelStepG P ops Q a w.drew R n d dep i)
    (hfin : ∀ vals W, w.drew.grownBy W none → (∀ k, k < n → R k (vals k) W) → Q .normal (putsN a d vals n) W) : (Code.region id ops true).wp P Q a w := by
  subst hsm
  have hinj : ∀ i k, i < n → k < n → d i = d k → i = k := fun i k h1 h2 => hinj0 i h1 k h2
  refine wp_region_held (S := fun W => w.drew.grownBy W none) hm ?_
  show wpAnyH P .any ops Q _ ops.size (Array.replicate ops.size false) a w.drew
  have hc : ∀ k, k ≤ ops.size → cntU (Array.replicate ops.size false) k = k := fun k => by
    induction k with
    | zero => intro _; rfl
    | succ k ih =>
      intro hk
      show cntU _ k + _ = _
      rw [ih (by omega), getD_in (by simp; omega) (getD_replicate_false _ _)]
      rfl
  refine rel_steps_g (R := R) n d dep hsz hb hdp hd hinj hmono hstep hlt (fun ls b W hall h => ?_) ops.size _ a w.drew (by rw [← hsz]; exact (hc _ (Nat.le_refl _)).symm)
    ⟨rfl, rfl, fun _ _ => rfl, fun k hk hl => (by rw [getD_in (by simp; omega) (getD_replicate_false _ _)] at hl; cases hl), grown_refl _ _, by simp [hsz]⟩
  have he : b = putsN a d (fun k => slotv b (d k)) n := by
    refine act_ext (h.defers.trans (putsN_defers a d _ n).symm) (h.size.trans (putsN_size a d _ n).symm) fun t _ => ?_
    by_cases e : ∃ k, k < n ∧ t = d k
    · obtain ⟨k, hk, rfl⟩ := e
      exact (putsN_at a d (fun k => slotv b (d k)) n hd hinj k hk).symm
    · have e' : ∀ k, k < n → t ≠ d k := fun k hk h => e ⟨k, hk, h⟩
      rw [h.rest t e', putsN_rest a d _ n hd t e']
  rw [he]
  exact hfin _ W h.gr (fun k hk => h.has k hk (hall k hk))
end
end Go.Proofs.Ytpnddojcihdniaa
namespace Go.Proofs.Ytpnddojcihdniaa
open Go.ChangeShapes Go.WideShapes Go.ChangeAt Go.RowKit

section
variable {H : Type} {enc : TypeId × Value → H} {P : Program}

theorem below_of_grown {w w' : World} (h : w.grownBy w' none) : Below w.heap.size w w' := ⟨h.os, h.tape, h.output, h.size, fun k hk => h.block k hk (by simp)⟩

theorem trodAll_below (hl : laidOutB P = true) {W W' : World} (hb : Below W.heap.size W W') : ∀ (ts : List TypeId) (vs : List Value) (ds : List (DataW H)) (ps : List MemPlace),
    DataW.TrodAll enc P W 0 (fun _ => true) true ts vs ds ps → (∀ t ∈ ts, P.readableRec t = true ∧ t < P.types.size) → (∀ x ∈ ps, x.block < W.heap.size) →
    DataW.TrodAll enc P W' 0 (fun b => decide (b < W.heap.size)) true ts vs ds ps
  | [], vs, ds, ps, h, _, _ => by
    obtain ⟨rfl, rfl, rfl⟩ := trodAll_nil h
    rfl
  | t :: ts, vs, ds, ps, h, hr, hlt => by
    obtain ⟨v, vs', d, ds', p, q, rfl, rfl, rfl, h1, h2⟩ := trodAll_cons h
    have hrt := hr t (by simp)
    exact ⟨p, q, Below.trod hl hrt.1 hrt.2 h1 hb (fun x hx => hlt x (by simp [hx])), trodAll_below hl hb ts vs' ds' q h2 (fun t' ht' => hr t' (by simp [ht'])) (fun x hx => hlt x (by simp [hx])), rfl⟩

/-- The end of a statement that is a law: true, and all that came in reads as it did. -/
theorem law_post (hl : laidOutB P = true) {f : Func} {s : ChangeSpec} {W W' : World} {args : Array Value} {ds gs : List (DataW H)} {before : List MemPlace} {tb : TypeId}
    (hW : DataW.Whole enc P f.params.toList s.vars false W args.toList ds gs before) (hv : s.vars = []) (hs : s.fn H ds = { results := [.lit (.bool true)], args := ds, vars := [] })
    (hr : f.resultTypes = #[tb]) (htb : P.underlying tb = some .bool) (hread : ∀ t ∈ f.params.toList, P.readableRec t = true ∧ t < P.types.size) (hg : W.grownBy W' none) :
    s.post enc P f false true false false W args (.bool true) W' := by
  have hb := below_of_grown hg
  have hlt : ∀ p ∈ before, p.block < W.heap.size := fun p hp => hW.lt p hp
  have hW0 := hW
  obtain ⟨p, q, hA, hV, rfl, _, _⟩ := hW
  rw [hv] at hV
  obtain ⟨rfl, rfl⟩ := trodVars_none hV
  refine ⟨ds, [], p ++ [], [], p, [], hW0, ?_, ?_, ?_, World.keptBut_mono (fun x hx => ⟨hx, Or.inr (Or.inl (by simpa using hx))⟩) (hb.frame (· ∈ p ++ [])), fun h => by cases h⟩
  · rw [hr, List.append_nil, hs]
    exact trodAll_mk1 (shut_bool htb true)
  · rw [List.append_nil, hs]
    exact trodAll_below hl hb _ _ _ _ hA hread (fun x hx => hlt x (by simpa using hx))
  · rw [hv, List.append_nil, hs]
    rfl

/-- Bytes that come in. -/
theorem open_bytes {W : World} {t e : TypeId} {r : Reach} {b0 : Nat} {v : Value} {d : DataW H} {ps : List MemPlace} (ht : P.underlying t = some (.slice e)) (he : P.underlying e = some (.int .u8)) (hc : P.cellsOf e = 1)
    (hval : Value.okWide P W r b0 t v) (h : DataW.Trod enc P W 0 (fun _ => true) true t v d ps) :
    ∃ a n c f, v = .slice a n c ∧ n ≤ c ∧ Rd W W.heap.size a n f ∧ ∀ i, f i < 256 := by
  obtain ⟨a0, len, cap, rfl⟩ := okWide_slice ht hval
  obtain ⟨fuel, hf⟩ := h
  rcases open_ints ht he hc hf with ⟨h1, _⟩ | ⟨a, len', cap', zs, h1, _, hlc, _, hzl, _, hcell, hwf⟩
  · simp [Value.cells] at h1
    obtain ⟨rfl, rfl, rfl⟩ := h1
    exact ⟨none, 0, 0, fun _ => 0, rfl, Nat.le_refl _, ⟨fun h => absurd h (by omega)⟩, fun _ => (by decide : (0 : Nat) < 256)⟩
  · simp [Value.cells] at h1
    obtain ⟨rfl, rfl, rfl⟩ := h1
    have hzl' : len ≤ zs.length := by rw [hzl]; simp [hlc]
    have hb : ∀ i, 0 ≤ zs.getD i 0 ∧ zs.getD i 0 < 256 := fun i => by
      by_cases hi : i < zs.length
      · have e1 : zs.getD i 0 = zs[i] := by simp [List.getD, List.getElem?_eq_getElem hi]
        rw [e1]
        have := hwf zs[i] (List.getElem_mem hi)
        simp [Lit.wf, IntKind.min, IntKind.max, IntKind.bits, IntKind.signed] at this
        omega
      · have e1 : zs.getD i 0 = 0 := by simp [List.getD, List.getElem?_eq_none (Nat.le_of_not_lt hi)]
        rw [e1]; decide
    refine ⟨some a, len, cap, fun i => (zs.getD i 0).toNat, rfl, hlc, ⟨fun h0 => ?_⟩, fun i => by have := hb i; show (zs.getD i 0).toNat < 256; omega⟩
    have h0' := hcell 0 (by omega)
    have hspot : a.spot = none := by simpa [Addr.add] using World.cell?_spot h0'
    obtain ⟨tb, o, sp⟩ := a
    simp only at hspot
    subst hspot
    refine ⟨tb, o, rfl, ?_, fun i hi => ?_⟩
    · have := World.block_lt_of_cell? W _ h0'
      simpa [Addr.add] using this
    · have h1 := hcell i (by omega)
      rw [Addr.add_mid] at h1
      rw [h1]
      have := hb i
      have e1 : ((zs.getD i 0).toNat : Int) = zs.getD i 0 := by omega
      show _ = some (Value.int .u8 (((zs.getD i 0).toNat : Nat) : Int))
      rw [e1]

end
end Go.Proofs.Ytpnddojcihdniaa
namespace Go.Proofs.Ytpnddojcihdniaa
open Go.ChangeShapes Go.WideShapes Go.ChangeAt Go.RowKit

theorem getElem?_of_take_drop {α : Type} (l : List α) (i : Nat) (x : α) (h : (l.drop i).take 1 = [x]) : l[i]? = some x := by
  have h1 : ((l.drop i).take 1)[0]? = some x := by rw [h]; rfl
  simpa using h1

/-- A table of numbers, read. -/
theorem ints_of_trod {H : Type} {enc : TypeId × Value → H} {P : Program} {w : World} {base : Nat} {spare : Nat → Bool} {held : Bool} {fuel : Nat} {t e : TypeId} {k : IntKind} {n : Nat} {cs : List Value} {d : DataW H} {ps : List MemPlace} (L : List Int)
    (ht : P.underlying t = some (.array n e)) (he : P.underlying e = some (.int k)) (hc : P.cellsOf e = 1) (hd : DataW.trod enc P w base spare held fuel t cs = some (d, ps)) (hx : d = .agg (L.map fun z => .lit (.int k z))) :
    ∀ i, i < n → cs[i]? = some (.int k (L.getD i 0)) := by
  subst hx
  obtain ⟨xs, m, rfl, hx, _, hn, hel⟩ := DataW.trod_array ht hd
  intro i hi
  have h1 := hel i hi
  rw [hc, Nat.mul_one] at h1
  have hxi : xs[i]? = some xs[i] := List.getElem?_eq_getElem (by omega)
  rw [hxi] at h1
  obtain ⟨q, e1, e2, _⟩ := DataW.trod_int he h1
  have h2 : L.map (fun z => (DataW.lit (.int k z) : DataW H)) = xs.map (·.1) := by
    have := congrArg Prod.fst hx
    simpa using this
  have h3 : (L.map (fun z => (DataW.lit (.int k z) : DataW H)))[i]? = some (.lit (.int k q)) := by
    rw [h2]; simp [hxi, e2]
  have h4 : L[i]? = some q := by
    rw [List.getElem?_map] at h3
    cases hL : L[i]? with
    | none => rw [hL] at h3; cases h3
    | some z => rw [hL] at h3; simpa using h3
  rw [List.getD, h4]
  exact getElem?_of_take_drop cs i _ e1

theorem own : ownKnob Try.prog.godebug = none := by kernel_rfl
theorem laidOut : laidOutB Try.prog = true := by kernel_rfl

end Go.Proofs.Ytpnddojcihdniaa
namespace Go.Proofs.Ytpnddojcihdniaa
open Go.ChangeShapes Go.WideShapes Go.ChangeAt Go.RowKit

section
variable {H : Type} {enc : TypeId × Value → H} {P : Program}

theorem open_arr8 {W : World} {t e : TypeId} {n : Nat} {r : Reach} {b0 : Nat} {v : Value} {d : DataW H} {ps : List MemPlace} (ht : P.underlying t = some (.array n e)) (he : P.underlying e = some (.int .u8)) (hc : P.cellsOf e = 1) (hn : P.cellsOf t = n)
    (hval : Value.okWide P W r b0 t v) (h : DataW.Trod enc P W 0 (fun _ => true) true t v d ps) : ∃ f, v = .agg (cellsOf .u8 n f) ∧ ∀ i, f i < 256 := by
  have hv := hval
  simp only [Value.okWide, ht] at hv
  obtain ⟨cs, rfl, hs, _⟩ := hv
  obtain ⟨fuel, hf⟩ := h
  obtain ⟨xs, m, rfl, _, hl, _, hel⟩ := DataW.trod_array ht hf
  have key : ∀ i, i < n → ∃ q : Nat, q < 256 ∧ cs[i]? = some (.int .u8 q) := fun i hi => by
    have h1 := hel i hi
    rw [hc, Nat.mul_one] at h1
    cases hx : xs[i]? with
    | none =>
      rw [hx] at h1
      have hlen : i < cs.toList.length := by
        have : cs.size = n := by rw [hs, hn]
        simp [this]; exact hi
      exfalso
      rename_i hxl
      have : xs.length ≤ i := by simpa using hx
      omega
    | some x =>
      rw [hx] at h1
      obtain ⟨q, e1, _, hw⟩ := DataW.trod_int he h1
      have h2 := getElem?_of_take_drop _ i _ e1
      simp [Lit.wf, IntKind.min, IntKind.max, IntKind.bits, IntKind.signed] at hw
      refine ⟨q.toNat, by omega, ?_⟩
      have e2 : ((q.toNat : Nat) : Int) = q := by omega
      rw [e2]
      simpa [Value.cells] using h2
  refine ⟨fun i => (match cs[i]? with | some (.int _ q) => q.toNat | _ => 0) % 256, ?_, fun i => Nat.mod_lt _ (by decide)⟩
  congr 1
  apply Array.ext
  · rw [cellsOf_size, hs, hn]
  · intro i h1 h2
    have hi : i < n := by rwa [hs, hn] at h1
    obtain ⟨q, hq, hcq⟩ := key i hi
    have e1 := cellsOf_get .u8 n (fun i => (match cs[i]? with | some (.int _ q) => q.toNat | _ => 0) % 256) i hi
    rw [Array.getElem?_eq_getElem h2] at e1
    rw [Array.getElem?_eq_getElem h1] at hcq
    injection e1 with e1
    injection hcq with hcq'
    rw [e1, hcq']
    simp only [Array.getElem?_eq_getElem h1, hcq']
    congr 1
    simp; omega

/-- A byte that comes in. -/
theorem open_u8 {W : World} {t : TypeId} {r : Reach} {b0 : Nat} {v : Value} {d : DataW H} {ps : List MemPlace} (ht : P.underlying t = some (.int .u8))
    (hval : Value.okWide P W r b0 t v) (h : DataW.Trod enc P W 0 (fun _ => true) true t v d ps) : ∃ n : Nat, v = .int .u8 n ∧ n < 256 := by
  obtain ⟨x, rfl, _, _, hx⟩ := open_int ht hval h
  simp [Lit.wf, IntKind.min, IntKind.max, IntKind.bits, IntKind.signed] at hx
  exact ⟨x.toNat, by rw [show ((x.toNat : Nat) : Int) = x by omega], by omega⟩

end
end Go.Proofs.Ytpnddojcihdniaa
namespace Go.Proofs.Ytpnddojcihdniaa
open Go.ChangeShapes Go.WideShapes Go.ChangeAt Go.RowKit

/-- n steps: step i's kind is K i, its bytes are F i. -/
structure Dos (W : World) (B : Nat) (a : Option Addr) (n : Nat) (K : Nat → Nat) (F : Nat → Nat → Nat) : Prop where
  ex : 0 < n → ∃ tb o, a = some ⟨tb, o, none⟩ ∧ tb < B ∧ ∀ i, i < n → W.cell? ⟨tb, o + i * 33, none⟩ = some (.int .u8 (K i : Nat)) ∧ ∀ j, j < 32 → W.cell? ⟨tb, o + i * 33 + (1 + j), none⟩ = some (.int .u8 (F i j : Nat))
  kind : ∀ i, K i < 256
  byte : ∀ i j, F i j < 256

section
variable {H : Type} {enc : TypeId × Value → H} {P : Program}
theorem trod_u8 {W : World} {base : Nat} {spare : Nat → Bool} {held : Bool} {fuel : Nat} {e : TypeId} {cs : List Value} {i : Nat} {x : DataW H × List MemPlace} (he : P.underlying e = some (.int .u8))
    (h : DataW.trod enc P W base spare held fuel e ((cs.drop i).take 1) = some x) : ∃ q : Nat, q < 256 ∧ cs[i]? = some (.int .u8 q) := by
  obtain ⟨q, e1, _, hw⟩ := DataW.trod_int he h
  have h2 := getElem?_of_take_drop _ i _ e1
  simp [Lit.wf, IntKind.min, IntKind.max, IntKind.bits, IntKind.signed] at hw
  exact ⟨q.toNat, by omega, by rw [show ((q.toNat : Nat) : Int) = q by omega]; exact h2⟩
theorem open_do {W : World} {t u e b8 : TypeId} {f0 f1 : Field} {v : Value} {d : DataW H} {ps : List MemPlace} {r : Reach} {b0 : Nat} (ht : P.underlying t = some (.slice u)) (hu : P.underlying u = some (.struct #[f0, f1])) (o0 : f0.offset = 0) (o1 : f1.offset = 1)
    (t0 : f0.type = b8) (t1 : f1.type = e) (hb : P.underlying b8 = some (.int .u8)) (he : P.underlying e = some (.array 32 b8)) (cu : P.cellsOf u = 33) (ce : P.cellsOf e = 32) (cb : P.cellsOf b8 = 1)
    (hval : Value.okWide P W r b0 t v) (h : DataW.Trod enc P W 0 (fun _ => true) true t v d ps) :
    ∃ a n c K F, v = .slice a n c ∧ n ≤ c ∧ n ≤ maxLen ∧ Dos W W.heap.size a n K F := by
  obtain ⟨a0, len, cap, rfl⟩ := okWide_slice ht hval
  obtain ⟨fuel, hf⟩ := h
  rcases Deep.open_slice ht hf with ⟨h1, _⟩ | ⟨a, len', cap', m, n, D, Pl, h1, _, hlc, hmx, hm, _, hx⟩
  · simp [Value.cells] at h1
    obtain ⟨rfl, rfl, rfl⟩ := h1
    exact ⟨none, 0, 0, fun _ => 0, fun _ _ => 0, rfl, Nat.le_refl _, by decide, ⟨fun h => absurd h (by omega), fun _ => (by decide : (0 : Nat) < 256), fun _ _ => (by decide : (0 : Nat) < 256)⟩⟩
  · simp [Value.cells] at h1
    obtain ⟨rfl, rfl, rfl⟩ := h1
    have hmc : m = cap := by simpa using hm
    have key : ∀ i, ∃ q : Nat × (Nat → Nat), q.1 < 256 ∧ (∀ j, q.2 j < 256) ∧ (i < len → W.cell? (a.add (i * 33)) = some (.int .u8 q.1) ∧ ∀ j, j < 32 → W.cell? ((a.add (i * 33)).add (1 + j)) = some (.int .u8 (q.2 j : Nat))) := fun i => by
      by_cases hi : i < len
      · obtain ⟨cs', g1, g2⟩ := hx i (by omega)
        rw [cu] at g1
        obtain ⟨_, hl, hc⟩ := World.cells?_some g1
        obtain ⟨y0, y1, n', _, _, q0, q1⟩ := trod_struct2 hu g2
        rw [o0, t0, cb] at q0
        rw [o1, t1, ce] at q1
        obtain ⟨k, hk, ek⟩ := trod_u8 hb q0
        obtain ⟨xs, m', _, _, hl2, hxl, hel⟩ := DataW.trod_array he q1
        have each : ∀ j, ∃ q : Nat, q < 256 ∧ (j < 32 → cs'[1 + j]? = some (.int .u8 (q : Nat))) := fun j => by
          by_cases hj : j < 32
          · have h1 := hel j hj
            rw [cb, Nat.mul_one] at h1
            obtain ⟨x, hxj⟩ : ∃ x, xs[j]? = some x := ⟨xs[j], List.getElem?_eq_getElem (by omega)⟩
            rw [hxj] at h1
            obtain ⟨q, hq, eq⟩ := trod_u8 hb h1
            refine ⟨q, hq, fun _ => ?_⟩
            rw [List.getElem?_take, if_pos hj, List.getElem?_drop] at eq
            exact eq
          · exact ⟨0, by decide, fun h => absurd h hj⟩
        obtain ⟨G, hG⟩ := Classical.axiomOfChoice each
        refine ⟨(k, G), hk, fun j => (hG j).1, fun _ => ⟨?_, fun j hj => ?_⟩⟩
        · have := hc 0 (by omega)
          rw [ek] at this
          simpa [Addr.add] using this
        · rw [hc (1 + j) (by omega)]
          exact (hG j).2 hj
      · exact ⟨(0, fun _ => 0), by decide, fun _ => (by decide : (0 : Nat) < 256), fun h => absurd h hi⟩
    obtain ⟨Z, hZ⟩ := Classical.axiomOfChoice key
    refine ⟨some a, len, cap, fun i => (Z i).1, fun i => (Z i).2, rfl, hlc, by omega, ⟨fun h0 => ?_, fun i => (hZ i).1, fun i j => (hZ i).2.1 j⟩⟩
    obtain ⟨h0', _⟩ := (hZ 0).2.2 h0
    have hspot : a.spot = none := by simpa [Addr.add] using World.cell?_spot h0'
    obtain ⟨tb, o, sp⟩ := a
    simp only at hspot
    subst hspot
    refine ⟨tb, o, rfl, ?_, fun i hi => ?_⟩
    · have := World.block_lt_of_cell? W _ h0'
      simpa [Addr.add] using this
    · obtain ⟨q1, q2⟩ := (hZ i).2.2 hi
      rw [Addr.add_mid] at q1
      refine ⟨q1, fun j hj => ?_⟩
      have := q2 j hj
      rwa [Addr.add_mid, Addr.add_mid] at this
end
end Go.Proofs.Ytpnddojcihdniaa
namespace Go.Proofs.Ytpnddojcihdniaa
open Go.RowKit Go.Shelf

set_option maxRecDepth 100000
set_option maxHeartbeats 8000000

/-- A number of the program's that is made. -/
def NewN (m : Nat) (x : Value) (W : World) : Prop := ∃ B, x = .pointer (some ⟨B, 0, none⟩) ∧ m ≤ B ∧ Holds W B 28 .u64 5 (fun _ => 0)
theorem NewN.grown {m : Nat} {x : Value} {W W' : World} (h : NewN m x W) (g : W.grownBy W' none) : NewN m x W' := by
  obtain ⟨B, h1, h2, h3⟩ := h
  exact ⟨B, h1, h2, h3.grown g (by simp)⟩
theorem NumAt.ne {W : World} {b v B : Nat} {f : Nat → Nat} (h : NumAt W b v) (k : Holds W B 28 .u64 5 f) : b ≠ B := fun e => by
  subst e
  have h1 := h.fill.cell 15 (by decide)
  rw [cell_of_row W b 15 _ _ _ k.block] at h1
  have h2 : (cellsOf .u64 5 f)[15]? = none := Array.getElem?_eq_none (by rw [cellsOf_size]; decide)
  rw [h2] at h1
  cases h1
theorem NumAt.setRow {W : World} {b v B : Nat} (h : NumAt W b v) (cs : Array Value) (ne : b ≠ B) : NumAt (W.setRow B cs) b v := ⟨h.fill.of_block (setRow_other W B b cs ne), h.less⟩

/-- A step's cells. -/
def doC (k : Nat) (f : Nat → Nat) (j : Nat) : Nat := if j = 0 then k else f (j - 1)
theorem wpList_do_mid {ops : Array Oper} {Q : Exit → Act → World → Prop} {rest : List Oper} {o : Oper} {a : Act} {w : World} {B off k : Nat} {f : Nat → Nat} (hgd : o.guard = none) (t : Tmp) (ho : o.op = .load 35 (.tmp t))
    (hx : a.eval (.tmp t) = .pointer (some ⟨B, off, none⟩)) (h0 : w.cell? ⟨B, off, none⟩ = some (.int .u8 (k : Nat))) (h1 : ∀ j, j < 32 → w.cell? ⟨B, off + (1 + j), none⟩ = some (.int .u8 (f j : Nat)))
    (hk : wpList Try.prog ops Q rest (a.put o.dst (.agg (cellsOf .u8 33 (doC k f)))) w) : wpList Try.prog ops Q (o :: rest) a w := by
  obtain ⟨d, d1, d2⟩ := under_row (P := Try.prog) (T := 35) (by kernel_rfl)
  have hl := run_loadAt_mid (P := Try.prog) w B off 35 (cellsOf .u8 33 (doC k f)).toList d (fun j v hv => by
    rw [Array.getElem?_toList] at hv
    have hj : j < 33 := by
      have := (Array.getElem?_eq_some_iff.1 hv).1
      rwa [cellsOf_size] at this
    rw [cellsOf_get _ _ _ _ hj] at hv
    cases hv
    unfold doC
    by_cases e : j = 0
    · subst e; rw [if_pos rfl]; exact h0
    · rw [if_neg e]
      have := h1 (j - 1) (by omega)
      rwa [show 1 + (j - 1) = j by omega] at this) d1 (by cases d <;> first | rfl | exact d2) (by rw [Array.length_toList, cellsOf_size]; kernel_rfl)
  rw [Array.toArray_toList] at hl
  refine wpList_plain hgd fun _ hK => wp_yields ?_ (hK _ _ hk)
  unfold execOp
  simp only [ho, hx, Sem.run_bind, Sem.run_pure, Result.andThen_ok, hl]
theorem run_b32_at {o : Oper} {a : Act} {W : World} {B off : Nat} {f : Nat → Nat} {t : Tmp} (h : ∀ j, j < 32 → W.cell? ⟨B, off + j, none⟩ = some (.int .u8 (f j : Nat))) (ho : o.op = .load 22 (.tmp t)) (ha : a.eval (.tmp t) = .pointer (some ⟨B, off, none⟩)) :
    (execOp a.eval o).run Try.prog W = .ok (.value (.agg (cellsOf .u8 32 f))) W := by
  have hl := run_loadAt_mid (P := Try.prog) W B off 22 (cellsOf .u8 32 f).toList (.array 32 5) (fun j v hv => by
    rw [Array.getElem?_toList] at hv
    have hj : j < 32 := by
      have := (Array.getElem?_eq_some_iff.1 hv).1
      rwa [cellsOf_size] at this
    rw [cellsOf_get _ _ _ _ hj] at hv
    cases hv
    exact h j hj) (by kernel_rfl) rfl (by rw [Array.length_toList, cellsOf_size]; kernel_rfl)
  rw [Array.toArray_toList] at hl
  unfold execOp
  simp only [ho, ha, Sem.run_bind, Sem.run_pure, Result.andThen_ok, hl]

theorem run_slice32o {o : Oper} {a : Act} {W : World} {B off : Nat} (t : Nat) (ho : o.op = .slice 22 (.tmp t) none none none) (h : slotv a t = .pointer (some ⟨B, off, none⟩)) : (execOp a.eval o).run Try.prog W = .ok (.value (.slice (some ⟨B, off, none⟩) 32 32)) W := by
  have h1 : a.tmps[t]?.getD undef = .pointer (some ⟨B, off, none⟩) := h
  unfold execOp
  simp only [ho]
  go_simp

theorem fieldPlays_any (fa : Nat → Nat) (al : Option Addr) (n c : Nat) (K : Nat → Nat) (F : Nat → Nat → Nat) (w : World) (hfa : ∀ i, fa i < 256) (hD : Dos w w.heap.size al n K F) :
    Calls Try.prog 3 #[.agg (cellsOf .u8 32 fa), .slice al n c] w (SaysYes w) := by
  have hA : Holds (w.alloc (.cells (cellsOf .u8 32 fa) 22)) w.heap.size 22 .u8 32 fa := holds_alloc w 22 .u8 32 fa _ rfl
  have gr := World.grownBy_alloc w (.cells (cellsOf .u8 32 fa) 22) none
  have HK := Lib.hid known06
  have ix := is5_of fa hfa
  have HX := Lib.hid (of_any fa hfa)
  have HRA := Lib.hid (refOf_any fa hfa)
  have HDo := Lib.hid hD
  obtain ⟨x0, hx⟩ : ∃ x, x = ofL fa := ⟨_, rfl⟩
  rw [← hx] at ix HX
  obtain ⟨a, ha⟩ : ∃ x, x = ofV fa := ⟨_, rfl⟩
  rw [← ha] at ix HRA
  have HIX := Lib.hid ix
  have HPA := Lib.hid ix.less
  clear hx ha hfa ix hD
  go_enter Try.func3, Try.ntmps3
  go_wp2_with fail
  generalize w.alloc (.cells (cellsOf .u8 32 fa) 22) = w1 at *
  go_at_call 6
  refine (HK.out _).mono ?_
  rintro e U ⟨⟨rfl, gK⟩⟩
  replace hA := hA.grown gK (by simp)
  replace gr := grown_trans gr gK
  clear gK HK
  by_cases hlt : 200 < n
  · have j1 : (200 : Int) < (n : Int) := by omega
    go_wp2_with fail
    go_ret
    exact ⟨⟨rfl, gr⟩⟩
  · have j1 : ¬ (200 : Int) < (n : Int) := by omega
    have j2 : decide ((200 : Int) < (n : Int)) = false := decide_eq_false j1
    clear j1
    go_wp2_with fail
    have gd : U.grownBy U.drew none := grown_drew (grown_refl U none)
    refine wp_region_rel_tail (relL [fun x _ => x = .agg (cellsOf .u8 32 fa), fun x _ => x = .agg (cellsOf .u64 5 x0), fun x _ => x = .slice (some ⟨w.heap.size, 0, none⟩) 32 32, NumV a, NewN U.heap.size])
      5 2 (atL [17, 18, 19, 20, 5]) (depL [[], [0], [], [2], []]) (by kernel_rfl) rfl (by kernel_rfl) (by kernel_rfl) (by kernel_rfl) (by decide) (by kernel_rfl) 98 rfl (by decide) (by decide) (by decide) ?mono5 ?step5 ?fin5
    case mono5 =>
      intro k x W W' hk h g
      obtain rfl | rfl | rfl | rfl | rfl : k = 0 ∨ k = 1 ∨ k = 2 ∨ k = 3 ∨ k = 4 := by omega
      · exact h
      · exact h
      · exact h
      · exact NumV.grown h g
      · exact NewN.grown h g
    case step5 =>
      intro k hk
      obtain rfl | rfl | rfl | rfl | rfl : k = 0 ∨ k = 1 ∨ k = 2 ∨ k = 3 ∨ k = 4 := by omega
      · exact ⟨_, rfl, rfl, rfl, fun b W hs hg _ K hK => rel_val (run_b32 (hA.grown (grown_trans gd hg) (by simp)) rfl ((eval_slot b 2).trans (hs 2 (by decide)))) rfl hK⟩
      · refine ⟨_, rfl, rfl, rfl, fun b W hs hg hD K hK => rel_call 7 _ (exec_fn1 _ _ _ rfl ((eval_slot b 17).trans (hD 0 (by decide)))) of_enters ?_ hK⟩
        exact (HX.out W).mono fun e w' h => ⟨_, h.1, h.2, rfl⟩
      · exact ⟨_, rfl, rfl, rfl, fun b W hs _ _ K hK => rel_val (run_slice32 2 rfl (hs 2 (by decide))) rfl hK⟩
      · refine ⟨_, rfl, rfl, rfl, fun b W hs hg hD K hK => rel_call 8 _ (exec_fn1 _ _ _ rfl ((eval_slot b 19).trans (hD 2 (by decide)))) (fun _ _ => rfl) ?_ hK⟩
        exact (HRA.out _ 0 32 W (hA.grown (grown_trans gd hg) (by simp)).at32).mono fun e w' h => (h.num HPA.out).v
      · exact ⟨_, rfl, rfl, rfl, fun b W hs hg _ K hK => wp_yields (run_newnum rfl) (hK _ _ (World.grownBy_alloc W _ none) ⟨W.heap.size, rfl, (grown_trans gd hg).size, holds_alloc W 28 .u64 5 _ _ rfl⟩)⟩
    case fin5 =>
      intro vals W hg hR
      have e1 : vals 1 = .agg (cellsOf .u64 5 x0) := hR 1 (by decide)
      obtain ⟨bu, e3, hU⟩ := hR 3 (by decide)
      obtain ⟨B5, e4, hB5, hX5⟩ := hR 4 (by decide)
      clear hR
      simp only [putsN, atL, Act.put, List.getD_cons_zero, List.getD_cons_succ, List.setIfInBounds_toArray, List.set_cons_succ, List.set_cons_zero, e1, e3, e4]
      generalize vals 0 = q0
      generalize vals 2 = q2
      clear e1 e3 e4 vals
      have gS := grown_setRow_new hg B5 (cellsOf .u64 5 x0) (Or.inl hB5)
      have nU := hU.ne hX5
      have hU2 := hU.setRow (cellsOf .u64 5 x0) nU
      have hX6 := hX5.setRow .u64 5 x0
      show wpAnyH _ _ _ _ _ 2 #[true, true, true, true, true, false, false] _ _
      refine wpAnyH_one (i := 5) (by kernel_rfl) (op_store 28 5 18 B5 (cellsOf .u64 5 x0) rfl rfl rfl rfl rfl rfl 28 _ hX5.block (by rw [cellsOf_size]; kernel_rfl) (by rw [cellsOf_size, cellsOf_size]) (cellsOf_all _ _ _) gS ?_)
      simp only [List.setIfInBounds_toArray, List.set_cons_succ, List.set_cons_zero]
      refine wpAnyH_yieldD (some 6) (i := 6) (v := .slice (some ⟨bu, 0, none⟩) 16 16) (by kernel_rfl) rfl rfl rfl (by unfold execOp; go_simp) gS ?_
      simp only [Act.put, List.setIfInBounds_toArray, List.set_cons_succ, List.set_cons_zero]
      refine wpAnyH_done (by kernel_rfl) ?_ _
      have hgw := grown_trans gr (grown_trans gd gS)
      have hB5w : w.heap.size ≤ B5 := by have := gr.size; omega
      generalize W.setRow B5 (cellsOf .u64 5 x0) = W1 at *
      clear gd hg hA gS hU hX5 nU HX HRA HPA
      go_wp2_with fail
      go_loopw [6, 23] (fun u6 u23 wr => ∃ (i : Nat) (x : Nat → Nat) (v b6 : Nat), i ≤ n ∧ u23 = .int .i64 i ∧ u6 = .slice (some ⟨b6, 0, none⟩) 16 16 ∧ Is5 x v ∧ NumAt wr b6 v ∧ Holds wr B5 28 .u64 5 x ∧ w.grownBy wr none) (fun _ u23 _ => n - (intOf u23).toNat)
      case atStart => exact ⟨0, x0, a, bu, Nat.zero_le _, rfl, rfl, HIX.out, hU2, hX6, hgw⟩
      case round =>
        clear hU2 hX6 hgw HIX
        obtain ⟨i, x, v, b6, hi, rfl, rfl, hIx, hV, hX, hgr⟩ := hrel
        by_cases hin : i < n
        · obtain ⟨tb, o, rfl, htb, hcell⟩ := HDo.out.ex (by omega)
          have j3 : (i : Int) < (n : Int) := by omega
          obtain ⟨c0, c1⟩ := hcell i hin
          have c0' := hgr.cell c0 (by simp)
          have c1' := fun j hj => hgr.cell (c1 j hj) (by simp)
          have hk8 := HDo.out.kind i
          have hf8 := HDo.out.byte i
          obtain ⟨k, hk⟩ : ∃ k, k = K i := ⟨_, rfl⟩
          obtain ⟨f, hf⟩ : ∃ f, f = F i := ⟨_, rfl⟩
          rw [← hk] at c0' hk8
          rw [← hf] at c1' hf8
          have C1 := Lib.hid c1'
          clear c0 c1 hcell hk hf c1'
          have hD8 : Holds (wr.alloc (.cells #[.int .u8 0, .int .u8 0, .int .u8 0, .int .u8 0, .int .u8 0, .int .u8 0, .int .u8 0, .int .u8 0, .int .u8 0, .int .u8 0, .int .u8 0, .int .u8 0, .int .u8 0, .int .u8 0, .int .u8 0, .int .u8 0, .int .u8 0, .int .u8 0, .int .u8 0, .int .u8 0, .int .u8 0, .int .u8 0, .int .u8 0, .int .u8 0, .int .u8 0, .int .u8 0, .int .u8 0, .int .u8 0, .int .u8 0, .int .u8 0, .int .u8 0, .int .u8 0, .int .u8 0] 35)) wr.heap.size 35 .u8 33 (fun _ => 0) := holds_alloc wr 35 .u8 33 (fun _ => 0) _ rfl
          have gA := World.grownBy_alloc wr (.cells #[.int .u8 0, .int .u8 0, .int .u8 0, .int .u8 0, .int .u8 0, .int .u8 0, .int .u8 0, .int .u8 0, .int .u8 0, .int .u8 0, .int .u8 0, .int .u8 0, .int .u8 0, .int .u8 0, .int .u8 0, .int .u8 0, .int .u8 0, .int .u8 0, .int .u8 0, .int .u8 0, .int .u8 0, .int .u8 0, .int .u8 0, .int .u8 0, .int .u8 0, .int .u8 0, .int .u8 0, .int .u8 0, .int .u8 0, .int .u8 0, .int .u8 0, .int .u8 0, .int .u8 0] 35) none
          have hE := hD8.setRow .u8 33 (doC k f)
          have gE := grown_setRow_new gA wr.heap.size (cellsOf .u8 33 (doC k f)) (Or.inl (Nat.le_refl _))
          have HIn := Lib.hid hin
          clear hi hin
          go_wp2_with (first
            | refine wpList_do_mid rfl 25 rfl rfl c0' C1.out ?_
            | refine wpList_store_row rfl 35 (.tmp 8) (.tmp 26) rfl wr.heap.size _ rfl rfl 35 _ hD8.block (by rw [cellsOf_size]; kernel_rfl) rfl (cellsOf_all _ _ _) ?_)
          replace hV := hV.grown gE
          replace hX := hX.grown gE (by simp)
          replace hgr := grown_trans hgr gE
          clear gA gE hD8 c0' C1
          generalize (wr.alloc (.cells #[.int .u8 0, .int .u8 0, .int .u8 0, .int .u8 0, .int .u8 0, .int .u8 0, .int .u8 0, .int .u8 0, .int .u8 0, .int .u8 0, .int .u8 0, .int .u8 0, .int .u8 0, .int .u8 0, .int .u8 0, .int .u8 0, .int .u8 0, .int .u8 0, .int .u8 0, .int .u8 0, .int .u8 0, .int .u8 0, .int .u8 0, .int .u8 0, .int .u8 0, .int .u8 0, .int .u8 0, .int .u8 0, .int .u8 0, .int .u8 0, .int .u8 0, .int .u8 0, .int .u8 0] 35)).setRow wr.heap.size (cellsOf .u8 33 (doC k f)) = U1 at *
          generalize wr.heap.size = B8 at *
          have hbf : ∀ j, j < 32 → U1.cell? ⟨B8, 1 + j, none⟩ = some (.int .u8 (f j : Nat)) := fun j hj => by
            have h1 := hE.cell (1 + j) (by omega)
            unfold doC at h1
            rwa [if_neg (by omega), Nat.add_sub_cancel_left] at h1
          have HBF := Lib.hid hbf
          have hIy := is5_of f hf8
          have HOY := Lib.hid (of_any f hf8)
          have HRY := Lib.hid (refOf_any f hf8)
          obtain ⟨y, hy⟩ : ∃ y, y = ofL f := ⟨_, rfl⟩
          rw [← hy] at hIy HOY
          obtain ⟨u, hu⟩ : ∃ u, u = ofV f := ⟨_, rfl⟩
          rw [← hu] at hIy HRY
          have HPU := Lib.hid hIy.less
          clear hy hu hbf
          have gd : U1.grownBy U1.drew none := grown_drew (grown_refl U1 none)
          refine wp_region_rel_tail (relL [fun x _ => x = .pointer (some ⟨B8, 1, none⟩), fun x _ => x = .agg (cellsOf .u8 32 f), fun x _ => x = .agg (cellsOf .u64 5 y), fun x _ => x = .pointer (some ⟨B8, 1, none⟩), fun x _ => x = .slice (some ⟨B8, 1, none⟩) 32 32, NumV u, NewN U1.heap.size])
            7 2 (atL [27, 28, 29, 30, 31, 32, 9]) (depL [[], [0], [1], [], [3], [4], []]) (by kernel_rfl) rfl (by kernel_rfl) (by kernel_rfl) (by kernel_rfl) (by decide) (by kernel_rfl) 98 rfl (by decide) (by decide) (by decide) ?mono7 ?step7 ?fin7
          case mono7 =>
            intro k x W W' hk h g
            obtain rfl | rfl | rfl | rfl | rfl | rfl | rfl : k = 0 ∨ k = 1 ∨ k = 2 ∨ k = 3 ∨ k = 4 ∨ k = 5 ∨ k = 6 := by omega
            · exact h
            · exact h
            · exact h
            · exact h
            · exact h
            · exact NumV.grown h g
            · exact NewN.grown h g
          case step7 =>
            intro k hk
            obtain rfl | rfl | rfl | rfl | rfl | rfl | rfl : k = 0 ∨ k = 1 ∨ k = 2 ∨ k = 3 ∨ k = 4 ∨ k = 5 ∨ k = 6 := by omega
            · refine ⟨_, rfl, rfl, rfl, fun b W hs hg _ K hK => ?_⟩
              have h1 : b.tmps[8]?.getD undef = .pointer (some ⟨B8, 0, none⟩) := hs 8 (by decide)
              exact rel_val (by unfold execOp; go_simp) rfl hK
            · exact ⟨_, rfl, rfl, rfl, fun b W hs hg hD K hK => rel_val (run_b32_at (fun j hj => (grown_trans gd hg).cell (HBF.out j hj) (by simp)) rfl ((eval_slot b 27).trans (hD 0 (by decide)))) rfl hK⟩
            · refine ⟨_, rfl, rfl, rfl, fun b W hs hg hD K hK => rel_call 7 _ (exec_fn1 _ _ _ rfl ((eval_slot b 28).trans (hD 1 (by decide)))) of_enters ?_ hK⟩
              exact (HOY.out W).mono fun e w' h => ⟨_, h.1, h.2, rfl⟩
            · refine ⟨_, rfl, rfl, rfl, fun b W hs hg _ K hK => ?_⟩
              have h1 : b.tmps[8]?.getD undef = .pointer (some ⟨B8, 0, none⟩) := hs 8 (by decide)
              exact rel_val (by unfold execOp; go_simp) rfl hK
            · exact ⟨_, rfl, rfl, rfl, fun b W hs _ hD K hK => rel_val (run_slice32o 30 rfl (hD 3 (by decide))) rfl hK⟩
            · refine ⟨_, rfl, rfl, rfl, fun b W hs hg hD K hK => rel_call 8 _ (exec_fn1 _ _ _ rfl ((eval_slot b 31).trans (hD 4 (by decide)))) (fun _ _ => rfl) ?_ hK⟩
              exact (HRY.out _ 1 32 W ⟨fun j hj => (grown_trans gd hg).cell (HBF.out j hj) (by simp)⟩).mono fun e w' h => (h.num HPU.out).v
            · exact ⟨_, rfl, rfl, rfl, fun b W hs hg _ K hK => wp_yields (run_newnum rfl) (hK _ _ (World.grownBy_alloc W _ none) ⟨W.heap.size, rfl, (grown_trans gd hg).size, holds_alloc W 28 .u64 5 _ _ rfl⟩)⟩
          case fin7 =>
            intro vals W hg hR
            have e2 : vals 2 = .agg (cellsOf .u64 5 y) := hR 2 (by decide)
            obtain ⟨bv, e5, hU⟩ := hR 5 (by decide)
            obtain ⟨B9, e6, hB9, hY⟩ := hR 6 (by decide)
            clear hR
            simp only [putsN, atL, Act.put, List.getD_cons_zero, List.getD_cons_succ, List.setIfInBounds_toArray, List.set_cons_succ, List.set_cons_zero, e2, e5, e6]
            generalize vals 0 = q7
            generalize vals 1 = q8
            generalize vals 3 = q9
            generalize vals 4 = q10
            clear e2 e5 e6 vals
            have gS := grown_setRow_new hg B9 (cellsOf .u64 5 y) (Or.inl hB9)
            have n5 : B5 ≠ B9 := by have := hX.lt; omega
            have n8 : B8 ≠ B9 := by have := hE.lt; omega
            have hg2 := grown_trans gd hg
            have hU2 := hU.setRow (cellsOf .u64 5 y) (hU.ne hY)
            have hV2 := (hV.grown hg2).setRow (cellsOf .u64 5 y) ((hV.grown hg2).ne hY)
            have hX2 := (hX.grown hg2 (by simp)).of_block (setRow_other W B9 B5 (cellsOf .u64 5 y) n5)
            have hE2 := (hE.grown hg2 (by simp)).of_block (setRow_other W B9 B8 (cellsOf .u64 5 y) n8)
            have hY2 := hY.setRow .u64 5 y
            show wpAnyH _ _ _ _ _ 2 #[true, true, true, true, true, true, true, false, false] _ _
            refine wpAnyH_one (i := 7) (by kernel_rfl) (op_store 28 9 29 B9 (cellsOf .u64 5 y) rfl rfl rfl rfl rfl rfl 28 _ hY.block (by rw [cellsOf_size]; kernel_rfl) (by rw [cellsOf_size, cellsOf_size]) (cellsOf_all _ _ _) gS ?_)
            simp only [List.setIfInBounds_toArray, List.set_cons_succ, List.set_cons_zero]
            refine wpAnyH_yieldD (some 10) (i := 8) (v := .slice (some ⟨bv, 0, none⟩) 16 16) (by kernel_rfl) rfl rfl rfl (by unfold execOp; go_simp) gS ?_
            simp only [Act.put, List.setIfInBounds_toArray, List.set_cons_succ, List.set_cons_zero]
            refine wpAnyH_done (by kernel_rfl) ?_ _
            have hgw := grown_trans hgr (grown_trans gd gS)
            generalize W.setRow B9 (cellsOf .u64 5 y) = W2 at *
            have c8 := hE2.cell 0 (by decide)
            replace c8 : W2.cell? ⟨B8, 0, none⟩ = some (.int .u8 (k : Nat)) := c8
            clear gd hg hg2 hE hE2 hV hX hU hY gS hgr HOY HRY HPU HBF

            by_cases e0 : k = 0
            · as_aux_lemma =>
              subst e0
              replace c8 : W2.cell? ⟨B8, 0, none⟩ = some (.int .u8 0) := c8
              obtain ⟨z, v7, iz, hZ, hv7⟩ : ∃ z q, Is5 z q ∧ (∀ W, Calls Try.prog 9 #[.agg (cellsOf .u64 5 x), .agg (cellsOf .u64 5 y)] W fun e w' => e = .returned (.agg (cellsOf .u64 5 z)) ∧ W.grownBy w' none) ∧ q = fAdd v u := ⟨_, _, hIx.add hIy, add_any hIx hIy, rfl⟩
              have HZ := Lib.hid hZ
              clear hZ
              have HV7 := Lib.hid hv7
              clear hv7
              go_wp2_with (first
                | refine wpList_load_num rfl 5 rfl rfl hX2 ?_
                | refine wpList_load_num rfl 9 rfl rfl hY2 ?_)
              go_at_call 9
              refine (HZ.out _).mono ?_
              rintro e Z1 ⟨rfl, g⟩
              replace hU2 := hU2.grown g
              replace hV2 := hV2.grown g
              replace hX2 := hX2.grown g (by simp)
              replace hgw := grown_trans hgw g
              clear g c8 hY2
              go_wp2_with fail
              go_at_call 10
              refine (refAdd_any b6 bv v u _ hV2 hU2).mono ?_
              intro e Z2 h
              rw [← HV7.out] at h
              obtain ⟨⟨b7, rfl, _, hN7⟩, g⟩ := h
              replace hX2 := hX2.grown g (by simp)
              replace hgw := grown_trans hgw g
              have hN8 := hN7.setRow (cellsOf .u64 5 z) (hN7.ne hX2)
              have hX8 := hX2.setRow .u64 5 z
              have hg8 := grown_setRow_new hgw B5 (cellsOf .u64 5 z) (Or.inl hB5w)
              clear g hU2 hV2 hN7
              go_wp2_with (refine wpList_store_row rfl 28 (.tmp 5) (.tmp 39) rfl B5 _ rfl rfl 28 _ hX2.block (by rw [cellsOf_size]; kernel_rfl) rfl (cellsOf_all _ _ _) ?_)
              go_roundw
              case rel => exact ⟨i + 1, z, v7, b7, by have := HIn.out; omega, by go_num, rfl, iz, hN8, hX8, hg8⟩
              case measure =>
                have := HIn.out
                simp [intOf]
                try omega
            by_cases e1 : k = 1
            · as_aux_lemma =>
              subst e1
              replace c8 : W2.cell? ⟨B8, 0, none⟩ = some (.int .u8 1) := c8
              obtain ⟨z, v7, iz, hZ, hv7⟩ : ∃ z q, Is5 z q ∧ (∀ W, Calls Try.prog 11 #[.agg (cellsOf .u64 5 x), .agg (cellsOf .u64 5 y)] W fun e w' => e = .returned (.agg (cellsOf .u64 5 z)) ∧ W.grownBy w' none) ∧ q = fSub v u := ⟨_, _, hIx.sub hIy, sub_any hIx hIy, rfl⟩
              have HZ := Lib.hid hZ
              clear hZ
              have HV7 := Lib.hid hv7
              clear hv7
              go_wp2_with (first
                | refine wpList_load_num rfl 5 rfl rfl hX2 ?_
                | refine wpList_load_num rfl 9 rfl rfl hY2 ?_)
              go_at_call 11
              refine (HZ.out _).mono ?_
              rintro e Z1 ⟨rfl, g⟩
              replace hU2 := hU2.grown g
              replace hV2 := hV2.grown g
              replace hX2 := hX2.grown g (by simp)
              replace hgw := grown_trans hgw g
              clear g c8 hY2
              go_wp2_with fail
              go_at_call 12
              refine (refSub_any b6 bv v u _ hV2 hU2).mono ?_
              intro e Z2 h
              rw [← HV7.out] at h
              obtain ⟨⟨b7, rfl, _, hN7⟩, g⟩ := h
              replace hX2 := hX2.grown g (by simp)
              replace hgw := grown_trans hgw g
              have hN8 := hN7.setRow (cellsOf .u64 5 z) (hN7.ne hX2)
              have hX8 := hX2.setRow .u64 5 z
              have hg8 := grown_setRow_new hgw B5 (cellsOf .u64 5 z) (Or.inl hB5w)
              clear g hU2 hV2 hN7
              go_wp2_with (refine wpList_store_row rfl 28 (.tmp 5) (.tmp 47) rfl B5 _ rfl rfl 28 _ hX2.block (by rw [cellsOf_size]; kernel_rfl) rfl (cellsOf_all _ _ _) ?_)
              go_roundw
              case rel => exact ⟨i + 1, z, v7, b7, by have := HIn.out; omega, by go_num, rfl, iz, hN8, hX8, hg8⟩
              case measure =>
                have := HIn.out
                simp [intOf]
                try omega
            by_cases e2 : k = 2
            · as_aux_lemma =>
              subst e2
              replace c8 : W2.cell? ⟨B8, 0, none⟩ = some (.int .u8 2) := c8
              obtain ⟨z, v7, iz, hZ, hv7⟩ : ∃ z q, Is5 z q ∧ (∀ W, Calls Try.prog 13 #[.agg (cellsOf .u64 5 x), .agg (cellsOf .u64 5 y)] W fun e w' => e = .returned (.agg (cellsOf .u64 5 z)) ∧ W.grownBy w' none) ∧ q = fMul v u := ⟨_, _, hIx.mul hIy, mul_any hIx hIy, rfl⟩
              have HZ := Lib.hid hZ
              clear hZ
              have HV7 := Lib.hid hv7
              clear hv7
              go_wp2_with (first
                | refine wpList_load_num rfl 5 rfl rfl hX2 ?_
                | refine wpList_load_num rfl 9 rfl rfl hY2 ?_)
              go_at_call 13
              refine (HZ.out _).mono ?_
              rintro e Z1 ⟨rfl, g⟩
              replace hU2 := hU2.grown g
              replace hV2 := hV2.grown g
              replace hX2 := hX2.grown g (by simp)
              replace hgw := grown_trans hgw g
              clear g c8 hY2
              go_wp2_with fail
              go_at_call 14
              refine (refMul_any b6 bv v u _ hV2 hU2).mono ?_
              intro e Z2 h
              rw [← HV7.out] at h
              obtain ⟨⟨b7, rfl, _, hN7⟩, g⟩ := h
              replace hX2 := hX2.grown g (by simp)
              replace hgw := grown_trans hgw g
              have hN8 := hN7.setRow (cellsOf .u64 5 z) (hN7.ne hX2)
              have hX8 := hX2.setRow .u64 5 z
              have hg8 := grown_setRow_new hgw B5 (cellsOf .u64 5 z) (Or.inl hB5w)
              clear g hU2 hV2 hN7
              go_wp2_with (refine wpList_store_row rfl 28 (.tmp 5) (.tmp 55) rfl B5 _ rfl rfl 28 _ hX2.block (by rw [cellsOf_size]; kernel_rfl) rfl (cellsOf_all _ _ _) ?_)
              go_roundw
              case rel => exact ⟨i + 1, z, v7, b7, by have := HIn.out; omega, by go_num, rfl, iz, hN8, hX8, hg8⟩
              case measure =>
                have := HIn.out
                simp [intOf]
                try omega
            by_cases e3 : k = 3
            · as_aux_lemma =>
              subst e3
              replace c8 : W2.cell? ⟨B8, 0, none⟩ = some (.int .u8 3) := c8
              obtain ⟨z, v7, iz, hZ, hv7⟩ : ∃ z q, Is5 z q ∧ (∀ W, Calls Try.prog 13 #[.agg (cellsOf .u64 5 x), .agg (cellsOf .u64 5 x)] W fun e w' => e = .returned (.agg (cellsOf .u64 5 z)) ∧ W.grownBy w' none) ∧ q = fMul v v := ⟨_, _, hIx.mul hIx, mul_any hIx hIx, rfl⟩
              have HZ := Lib.hid hZ
              clear hZ
              have HV7 := Lib.hid hv7
              clear hv7
              go_wp2_with (first
                | refine wpList_load_num rfl 5 rfl rfl hX2 ?_
                | refine wpList_load_num rfl 9 rfl rfl hY2 ?_)
              go_at_call 13
              refine (HZ.out _).mono ?_
              rintro e Z1 ⟨rfl, g⟩
              replace hU2 := hU2.grown g
              replace hV2 := hV2.grown g
              replace hX2 := hX2.grown g (by simp)
              replace hgw := grown_trans hgw g
              clear g c8 hY2
              go_wp2_with fail
              go_at_call 14
              refine (refMul_any b6 b6 v v _ hV2 hV2).mono ?_
              intro e Z2 h
              rw [← HV7.out] at h
              obtain ⟨⟨b7, rfl, _, hN7⟩, g⟩ := h
              replace hX2 := hX2.grown g (by simp)
              replace hgw := grown_trans hgw g
              have hN8 := hN7.setRow (cellsOf .u64 5 z) (hN7.ne hX2)
              have hX8 := hX2.setRow .u64 5 z
              have hg8 := grown_setRow_new hgw B5 (cellsOf .u64 5 z) (Or.inl hB5w)
              clear g hU2 hV2 hN7
              go_wp2_with (refine wpList_store_row rfl 28 (.tmp 5) (.tmp 63) rfl B5 _ rfl rfl 28 _ hX2.block (by rw [cellsOf_size]; kernel_rfl) rfl (cellsOf_all _ _ _) ?_)
              go_roundw
              case rel => exact ⟨i + 1, z, v7, b7, by have := HIn.out; omega, by go_num, rfl, iz, hN8, hX8, hg8⟩
              case measure =>
                have := HIn.out
                simp [intOf]
                try omega
            by_cases e4 : k = 4
            · as_aux_lemma =>
              subst e4
              replace c8 : W2.cell? ⟨B8, 0, none⟩ = some (.int .u8 4) := c8
              obtain ⟨z, v7, iz, hZ, hv7⟩ : ∃ z q, Is5 z q ∧ (∀ W, Calls Try.prog 9 #[.agg (cellsOf .u64 5 x), .agg (cellsOf .u64 5 x)] W fun e w' => e = .returned (.agg (cellsOf .u64 5 z)) ∧ W.grownBy w' none) ∧ q = fAdd v v := ⟨_, _, hIx.add hIx, add_any hIx hIx, rfl⟩
              have HZ := Lib.hid hZ
              clear hZ
              have HV7 := Lib.hid hv7
              clear hv7
              go_wp2_with (first
                | refine wpList_load_num rfl 5 rfl rfl hX2 ?_
                | refine wpList_load_num rfl 9 rfl rfl hY2 ?_)
              go_at_call 9
              refine (HZ.out _).mono ?_
              rintro e Z1 ⟨rfl, g⟩
              replace hU2 := hU2.grown g
              replace hV2 := hV2.grown g
              replace hX2 := hX2.grown g (by simp)
              replace hgw := grown_trans hgw g
              clear g c8 hY2
              go_wp2_with fail
              go_at_call 10
              refine (refAdd_any b6 b6 v v _ hV2 hV2).mono ?_
              intro e Z2 h
              rw [← HV7.out] at h
              obtain ⟨⟨b7, rfl, _, hN7⟩, g⟩ := h
              replace hX2 := hX2.grown g (by simp)
              replace hgw := grown_trans hgw g
              have hN8 := hN7.setRow (cellsOf .u64 5 z) (hN7.ne hX2)
              have hX8 := hX2.setRow .u64 5 z
              have hg8 := grown_setRow_new hgw B5 (cellsOf .u64 5 z) (Or.inl hB5w)
              clear g hU2 hV2 hN7
              go_wp2_with (refine wpList_store_row rfl 28 (.tmp 5) (.tmp 71) rfl B5 _ rfl rfl 28 _ hX2.block (by rw [cellsOf_size]; kernel_rfl) rfl (cellsOf_all _ _ _) ?_)
              go_roundw
              case rel => exact ⟨i + 1, z, v7, b7, by have := HIn.out; omega, by go_num, rfl, iz, hN8, hX8, hg8⟩
              case measure =>
                have := HIn.out
                simp [intOf]
                try omega
            by_cases e5 : k = 5
            · as_aux_lemma =>
              subst e5
              replace c8 : W2.cell? ⟨B8, 0, none⟩ = some (.int .u8 5) := c8
              obtain ⟨s0, is0, hS0⟩ : ∃ s, Is5 s 0 ∧ (∀ W, Calls Try.prog 15 #[.int .u32 0] W fun e w' => e = .returned (.agg (cellsOf .u64 5 s)) ∧ W.grownBy w' none) := ⟨_, is5_small 0 (by decide), small_any 0 (by decide)⟩
              obtain ⟨z, v7, iz, hZ, hv7⟩ : ∃ z q, Is5 z q ∧ (∀ W, Calls Try.prog 11 #[.agg (cellsOf .u64 5 s0), .agg (cellsOf .u64 5 x)] W fun e w' => e = .returned (.agg (cellsOf .u64 5 z)) ∧ W.grownBy w' none) ∧ q = fSub 0 v := ⟨_, _, is0.sub hIx, sub_any is0 hIx, rfl⟩
              have HS0 := Lib.hid hS0
              have HZ := Lib.hid hZ
              have HV7 := Lib.hid hv7
              have HR0 := Lib.hid (refSmall_any 0 (by decide))
              have HP0 := Lib.hid (show 0 < pF from pF_pos)
              clear hS0 is0 hZ hv7 hU2 hY2
              go_wp2_with fail
              have gd : W2.grownBy W2.drew none := grown_drew (grown_refl W2 none)
              have hgd := grown_trans hgw gd
              refine wp_region_rel_tailS (fun W => w.grownBy W none) (fun _ h => grown_trans hgd h) (relL [fun x _ => x = .agg (cellsOf .u64 5 s0), fun y _ => y = .agg (cellsOf .u64 5 x), fun x _ => x = .agg (cellsOf .u64 5 z), NumV 0, fun x _ => x = .slice (some ⟨b6, 0, none⟩) 16 16, NumV v7])
                6 2 (atL [77, 78, 79, 80, 81, 82]) (depL [[], [], [0, 1], [], [], [3, 4]]) (by kernel_rfl) rfl (by kernel_rfl) (by kernel_rfl) (by kernel_rfl) (by decide) (by kernel_rfl) 98 rfl (by decide) (by decide) (by decide) ?mono22 ?step22 ?fin22
              case mono22 =>
                intro k x W W' hk h g
                obtain rfl | rfl | rfl | rfl | rfl | rfl : k = 0 ∨ k = 1 ∨ k = 2 ∨ k = 3 ∨ k = 4 ∨ k = 5 := by omega
                · exact h
                · exact h
                · exact h
                · exact NumV.grown h g
                · exact h
                · exact NumV.grown h g
              case step22 =>
                intro k hk
                obtain rfl | rfl | rfl | rfl | rfl | rfl : k = 0 ∨ k = 1 ∨ k = 2 ∨ k = 3 ∨ k = 4 ∨ k = 5 := by omega
                · refine ⟨_, rfl, rfl, rfl, fun b W hs hg hD K hK => rel_call 15 _ (exec_fn1 _ _ _ rfl rfl) small_enters ?_ hK⟩
                  exact (HS0.out W).mono fun e w' h => ⟨_, h.1, h.2, rfl⟩
                · exact ⟨_, rfl, rfl, rfl, fun b W hs hg _ K hK => rel_val (run_num5 (hX2.grown (grown_trans gd hg) (by simp)) rfl ((eval_slot b 5).trans (hs 5 (by decide)))) rfl hK⟩
                · refine ⟨_, rfl, rfl, rfl, fun b W hs hg hD K hK => rel_call 11 _ (exec_fn2 _ _ _ _ _ rfl ((eval_slot b 77).trans (hD 0 (by decide))) ((eval_slot b 78).trans (hD 1 (by decide)))) sub_enters ?_ hK⟩
                  exact (HZ.out W).mono fun e w' h => ⟨_, h.1, h.2, rfl⟩
                · refine ⟨_, rfl, rfl, rfl, fun b W hs hg hD K hK => rel_call 16 _ (exec_fn1 _ _ _ rfl rfl) (fun _ _ => rfl) ?_ hK⟩
                  exact (HR0.out W).mono fun e w' h => (h.num HP0.out).v
                · exact ⟨_, rfl, rfl, rfl, fun b W hs _ _ K hK => rel_move 6 rfl (hs 6 (by decide)) rfl hK⟩
                · refine ⟨_, rfl, rfl, rfl, fun b W hs hg hD K hK => ?_⟩
                  obtain ⟨b0, hb0, hn0⟩ := hD 3 (by decide)
                  refine rel_call 12 _ (exec_fn2 _ _ _ _ _ rfl ((eval_slot b 80).trans hb0) ((eval_slot b 81).trans (hD 4 (by decide)))) (fun _ _ => rfl) ?_ hK
                  refine (refSub_any b0 b6 0 v W hn0 (hV2.grown (grown_trans gd hg))).mono fun e w' h => ?_
                  rw [← HV7.out] at h
                  exact h.v
              case fin22 =>
                intro vals W hg hR
                have e2 : vals 2 = .agg (cellsOf .u64 5 z) := hR 2 (by decide)
                obtain ⟨b7, e5, hN7⟩ := hR 5 (by decide)
                clear hR
                simp only [putsN, atL, Act.put, List.getD_cons_zero, List.getD_cons_succ, List.setIfInBounds_toArray, List.set_cons_succ, List.set_cons_zero, e2, e5]
                generalize vals 0 = q0
                generalize vals 1 = q1
                generalize vals 3 = q3
                generalize vals 4 = q4
                clear e2 e5 vals
                have hX3 := hX2.grown (grown_trans gd hg) (by simp)
                have hN8 := hN7.setRow (cellsOf .u64 5 z) (hN7.ne hX3)
                have hX8 := hX3.setRow .u64 5 z
                have hg8 := grown_setRow_new (grown_trans hgd hg) B5 (cellsOf .u64 5 z) (Or.inl hB5w)
                show wpAnyH _ _ _ _ _ 2 #[true, true, true, true, true, true, false, false] _ _
                refine wpAnyH_one (i := 6) (by kernel_rfl) (op_store 28 5 79 B5 (cellsOf .u64 5 z) rfl rfl rfl rfl rfl rfl 28 _ hX3.block (by rw [cellsOf_size]; kernel_rfl) (by rw [cellsOf_size, cellsOf_size]) (cellsOf_all _ _ _) hg8 ?_)
                simp only [List.setIfInBounds_toArray, List.set_cons_succ, List.set_cons_zero]
                refine wpAnyH_yieldD (some 6) (i := 7) (v := .slice (some ⟨b7, 0, none⟩) 16 16) (by kernel_rfl) rfl rfl rfl (by unfold execOp; go_simp) hg8 ?_
                simp only [Act.put, List.setIfInBounds_toArray, List.set_cons_succ, List.set_cons_zero]
                refine wpAnyH_done (by kernel_rfl) ?_ _
                generalize W.setRow B5 (cellsOf .u64 5 z) = W3 at *
                clear gd hgd hg hX3 hN7 hX2 hV2 HS0 HZ HR0
                go_wp2_with fail
                go_roundw
                case rel => exact ⟨i + 1, z, v7, b7, by have := HIn.out; omega, by go_num, rfl, iz, hN8, hX8, hg8⟩
                case measure =>
                  have := HIn.out
                  simp [intOf]
                  try omega
            as_aux_lemma =>
            have d0 : ((k : Int) == 0) = false := beq_eq_false_iff_ne.2 (by omega)
            have d1 : ((k : Int) == 1) = false := beq_eq_false_iff_ne.2 (by omega)
            have d2 : ((k : Int) == 2) = false := beq_eq_false_iff_ne.2 (by omega)
            have d3 : ((k : Int) == 3) = false := beq_eq_false_iff_ne.2 (by omega)
            have d4 : ((k : Int) == 4) = false := beq_eq_false_iff_ne.2 (by omega)
            have d5 : ((k : Int) == 5) = false := beq_eq_false_iff_ne.2 (by omega)
            clear hk8
            go_wp2_with fail
            go_roundw
            case rel => exact ⟨i + 1, x, v, b6, by have := HIn.out; omega, by go_num, rfl, hIx, hV2, hX2, hgw⟩
            case measure =>
              have := HIn.out
              simp [intOf]
              try omega
        · as_aux_lemma =>
          have j3 : ¬ (i : Int) < (n : Int) := by omega
          clear hin hi
          go_wp2_with (refine wpList_load_num rfl 5 rfl rfl hX ?_)
          go_at_call 17
          refine (bytes_any hIx _).mono ?_
          rintro e Y1 ⟨rfl, g⟩
          replace hV := hV.grown g
          replace hX := hX.grown g (by simp)
          replace hgr := grown_trans hgr g
          have hlt := lim8_lt v
          have hov := ofV_lim v hIx.less
          obtain ⟨t, ht⟩ : ∃ t, t = lim 8 v := ⟨_, rfl⟩
          have hRB := refBytes_any b6 v
          have hio := is5_of t (by rw [ht]; exact hlt)
          rw [← ht] at hlt hov hRB ⊢
          have HRB := Lib.hid hRB
          have HOF := Lib.hid (of_any t hlt)
          rw [hov] at hio
          have hIS := is_any hio hIx
          rw [beq_self_eq_true] at hIS
          obtain ⟨y, hy⟩ : ∃ y, y = ofL t := ⟨_, rfl⟩
          rw [← hy] at HOF hIS
          have HIS := Lib.hid hIS
          obtain ⟨s, hs⟩ : ∃ s, s = strOf 32 t := ⟨_, rfl⟩
          have HS := Lib.hid hs
          have HLT := Lib.hid hlt
          clear g hIx hlt hov ht hio hRB hIS hy hs
          have hD8 : Holds (Y1.alloc (.cells #[.int .u8 0, .int .u8 0, .int .u8 0, .int .u8 0, .int .u8 0, .int .u8 0, .int .u8 0, .int .u8 0, .int .u8 0, .int .u8 0, .int .u8 0, .int .u8 0, .int .u8 0, .int .u8 0, .int .u8 0, .int .u8 0, .int .u8 0, .int .u8 0, .int .u8 0, .int .u8 0, .int .u8 0, .int .u8 0, .int .u8 0, .int .u8 0, .int .u8 0, .int .u8 0, .int .u8 0, .int .u8 0, .int .u8 0, .int .u8 0, .int .u8 0, .int .u8 0] 22)) Y1.heap.size 22 .u8 32 (fun _ => 0) := holds_alloc Y1 22 .u8 32 (fun _ => 0) _ rfl
          have gA := World.grownBy_alloc Y1 (.cells #[.int .u8 0, .int .u8 0, .int .u8 0, .int .u8 0, .int .u8 0, .int .u8 0, .int .u8 0, .int .u8 0, .int .u8 0, .int .u8 0, .int .u8 0, .int .u8 0, .int .u8 0, .int .u8 0, .int .u8 0, .int .u8 0, .int .u8 0, .int .u8 0, .int .u8 0, .int .u8 0, .int .u8 0, .int .u8 0, .int .u8 0, .int .u8 0, .int .u8 0, .int .u8 0, .int .u8 0, .int .u8 0, .int .u8 0, .int .u8 0, .int .u8 0, .int .u8 0] 22) none
          have hE := hD8.setRow .u8 32 t
          have gE := grown_setRow_new gA Y1.heap.size (cellsOf .u8 32 t) (Or.inl (Nat.le_refl _))
          go_wp2_with (refine wpList_store_row rfl 22 (.tmp 11) (.tmp 85) rfl Y1.heap.size _ rfl rfl 22 _ hD8.block (by rw [cellsOf_size]; kernel_rfl) rfl (cellsOf_all _ _ _) ?_)
          replace hV := hV.grown gE
          replace hX := hX.grown gE (by simp)
          replace hgr := grown_trans hgr gE
          clear gA gE hD8
          generalize (Y1.alloc (.cells #[.int .u8 0, .int .u8 0, .int .u8 0, .int .u8 0, .int .u8 0, .int .u8 0, .int .u8 0, .int .u8 0, .int .u8 0, .int .u8 0, .int .u8 0, .int .u8 0, .int .u8 0, .int .u8 0, .int .u8 0, .int .u8 0, .int .u8 0, .int .u8 0, .int .u8 0, .int .u8 0, .int .u8 0, .int .u8 0, .int .u8 0, .int .u8 0, .int .u8 0, .int .u8 0, .int .u8 0, .int .u8 0, .int .u8 0, .int .u8 0, .int .u8 0, .int .u8 0] 22)).setRow Y1.heap.size (cellsOf .u8 32 t) = Y2 at *
          generalize Y1.heap.size = B11 at *
          have gd : Y2.grownBy Y2.drew none := grown_drew (grown_refl Y2 none)
          refine wp_region_rel_g (relL [fun x _ => x = .slice (some ⟨B11, 0, none⟩) 32 32, fun x _ => x = .string s, fun x _ => x = .slice (some ⟨b6, 0, none⟩) 16 16, BytesAt t, fun x _ => x = .string s, fun x _ => x = .bool true, fun x _ => x = .bool true, fun x _ => x = .agg (cellsOf .u8 32 t), fun x _ => x = .agg (cellsOf .u64 5 y), fun y _ => y = .agg (cellsOf .u64 5 x), fun x _ => x = .bool true, fun x _ => x = .bool true, fun x _ => x = .bool true])
            13 (atL [86, 87, 88, 89, 90, 91, 92, 93, 94, 95, 96, 97, 4]) (depL [[], [0], [], [2], [3], [1, 4], [5], [6], [7, 6], [6], [8, 9, 6], [6, 10], [11]]) (by kernel_rfl) rfl (by kernel_rfl) (by kernel_rfl) 98 rfl (by decide) (by decide) (by decide) ?mono25 ?step25 ?fin25
          case mono25 =>
            intro k x W W' hk h g
            obtain rfl | rfl | rfl | rfl | rfl | rfl | rfl | rfl | rfl | rfl | rfl | rfl | rfl : k = 0 ∨ k = 1 ∨ k = 2 ∨ k = 3 ∨ k = 4 ∨ k = 5 ∨ k = 6 ∨ k = 7 ∨ k = 8 ∨ k = 9 ∨ k = 10 ∨ k = 11 ∨ k = 12 := by omega
            · exact h
            · exact h
            · exact h
            · exact BytesAt.grown h g
            · exact h
            · exact h
            · exact h
            · exact h
            · exact h
            · exact h
            · exact h
            · exact h
            · exact h
          case step25 =>
            intro k hk
            obtain rfl | rfl | rfl | rfl | rfl | rfl | rfl | rfl | rfl | rfl | rfl | rfl | rfl : k = 0 ∨ k = 1 ∨ k = 2 ∨ k = 3 ∨ k = 4 ∨ k = 5 ∨ k = 6 ∨ k = 7 ∨ k = 8 ∨ k = 9 ∨ k = 10 ∨ k = 11 ∨ k = 12 := by omega
            · exact ⟨_, rfl, rfl, fun b W hs _ _ => ⟨wanted_of rfl, fun K hK => rel_val (run_slice32 11 rfl (hs 11 (by decide))) rfl hK⟩⟩
            · refine ⟨_, rfl, rfl, fun b W hs hg hD => ⟨wanted_of rfl, fun K hK => ?_⟩⟩
              exact rel_val (v := .string s) (by rw [HS.out]; exact run_convT 86 rfl ((eval_slot b 86).trans (hD 0 (by decide))) (hE.grown (grown_trans gd hg) (by simp)).rd32 HLT.out) rfl hK
            · exact ⟨_, rfl, rfl, fun b W hs _ _ => ⟨wanted_of rfl, fun K hK => rel_move 6 rfl (hs 6 (by decide)) rfl hK⟩⟩
            · refine ⟨_, rfl, rfl, fun b W hs hg hD => ⟨wanted_of rfl, fun K hK => rel_call 18 _ (exec_fn1 _ _ _ rfl ((eval_slot b 88).trans (hD 2 (by decide)))) (fun _ _ => rfl) ?_ hK⟩⟩
              exact (HRB.out W (hV.grown (grown_trans gd hg))).mono fun e w' h => h.bytes
            · refine ⟨_, rfl, rfl, fun b W hs hg hD => ⟨wanted_of rfl, fun K hK => ?_⟩⟩
              obtain ⟨g, cap, h1, h2⟩ := hD 3 (by decide)
              exact rel_val (v := .string s) (by rw [HS.out]; exact run_convT 89 rfl ((eval_slot b 89).trans h1) h2.rd HLT.out) rfl hK
            · refine ⟨_, rfl, rfl, fun b W hs hg hD => ⟨wanted_of rfl, fun K hK => ?_⟩⟩
              have h1 : b.tmps[87]?.getD undef = .string s := hD 1 (by decide)
              have h2 : b.tmps[90]?.getD undef = .string s := hD 4 (by decide)
              refine rel_val (v := .bool true) ?_ rfl hK
              unfold execOp
              go_simp
            · exact ⟨_, rfl, rfl, fun b W hs _ hD => ⟨wanted_of rfl, fun K hK => rel_move 91 rfl (hD 5 (by decide)) rfl hK⟩⟩
            · exact ⟨_, rfl, rfl, fun b W hs hg hD => ⟨wanted_at (j := 6) (t := 92) rfl rfl (hD 6 (by decide)), fun K hK => rel_val (run_b32 (hE.grown (grown_trans gd hg) (by simp)) rfl ((eval_slot b 11).trans (hs 11 (by decide)))) rfl hK⟩⟩
            · refine ⟨_, rfl, rfl, fun b W hs hg hD => ⟨wanted_at (j := 6) (t := 92) rfl rfl (hD 6 (by decide)), fun K hK => rel_call 7 _ (exec_fn1 _ _ _ rfl ((eval_slot b 93).trans (hD 7 (by decide)))) of_enters ?_ hK⟩⟩
              exact (HOF.out W).mono fun e w' h => ⟨_, h.1, h.2, rfl⟩
            · exact ⟨_, rfl, rfl, fun b W hs hg hD => ⟨wanted_at (j := 6) (t := 92) rfl rfl (hD 6 (by decide)), fun K hK => rel_val (run_num5 (hX.grown (grown_trans gd hg) (by simp)) rfl ((eval_slot b 5).trans (hs 5 (by decide)))) rfl hK⟩⟩
            · refine ⟨_, rfl, rfl, fun b W hs hg hD => ⟨wanted_at (j := 6) (t := 92) rfl rfl (hD 6 (by decide)), fun K hK => rel_call 19 _ (exec_fn2 _ _ _ _ _ rfl ((eval_slot b 94).trans (hD 8 (by decide))) ((eval_slot b 95).trans (hD 9 (by decide)))) is_enters ?_ hK⟩⟩
              exact (HIS.out W).mono fun e w' h => ⟨_, h.1, h.2, rfl⟩
            · refine ⟨_, rfl, rfl, fun b W hs hg hD => ⟨wanted_of rfl, fun K hK => ?_⟩⟩
              have h1 : b.tmps[92]?.getD undef = .bool true := hD 6 (by decide)
              have h2 : b.tmps[96]?.getD undef = .bool true := hD 10 (by decide)
              refine rel_val (v := .bool true) ?_ rfl hK
              unfold execOp
              go_simp
            · exact ⟨_, rfl, rfl, fun b W hs _ hD => ⟨wanted_of rfl, fun K hK => rel_assign 97 rfl (hD 11 (by decide)) rfl hK⟩⟩
          case fin25 =>
            intro vals W hg hR
            have e12 : vals 12 = .bool true := hR 12 (by decide)
            clear hR
            simp only [putsN, atL, Act.put, List.getD_cons_zero, List.getD_cons_succ, List.setIfInBounds_toArray, List.set_cons_succ, List.set_cons_zero, e12]
            have hgw := grown_trans hgr (grown_trans gd hg)
            go_wp2_with fail
            go_ret
            exact ⟨⟨rfl, hgw⟩⟩

end Go.Proofs.Ytpnddojcihdniaa
namespace Go.Proofs.Ytpnddojcihdniaa
open Go.ChangeShapes Go.WideShapes Go.ChangeAt Go.RowKit

set_option maxRecDepth 100000 in
theorem fieldPlays_lifted (os : Os) (started : os.Started) (H : Type) (enc : TypeId × Value → H) :
    ReturnsInHanded {} Try.checked os 3 .any (Rows.fieldPlaysSpec.pre6 enc Try.prog Try.f3 Rows.fieldPlaysRow.domain false) (Rows.fieldPlaysSpec.post enc Try.prog Try.f3 false true false false) := by
  refine returnsInHanded_of_change (C := Try.checked) own started (by kernel_rfl) Try.func3
    (ChangeSpec.witness6 (enc := enc) (C := Try.checked) false ⟨#[], #[.agg (cellsOf .u8 32 (fun _ => 0)), .slice none 0 0], []⟩ 8 (by kernel_rfl) (by kernel_rfl) (by kernel_rfl) (by kernel_rfl)) ?_
  intro W base args ds gs before hval0 hW _ _
  have hval : ∀ (j : Nat) t v, Try.f3.params[j]? = some t → args[j]? = some v → Value.okWide Try.prog W .any base t v := hval0
  have hW' := hW
  obtain ⟨p, q, hA0, hV, rfl, _, _⟩ := hW
  have hA : DataW.TrodAll enc Try.prog W 0 (fun _ => true) true Try.f3.params.toList args.toList ds p := hA0
  rw [Try.params3] at hA hval
  obtain ⟨v0, vs0, d0, ds0, p0, q0, hv0, rfl, rfl, h0, hA1⟩ := trodAll_cons hA
  obtain ⟨v1, vs1, d1, ds1, p1, q1, rfl, rfl, rfl, h1, hA2⟩ := trodAll_cons hA1
  obtain ⟨rfl, rfl, rfl⟩ := trodAll_nil hA2
  obtain ⟨l⟩ := args
  simp only at hv0
  subst hv0
  obtain ⟨rfl, rfl⟩ := trodVars_none hV
  obtain ⟨f0, rfl, hf0⟩ := open_arr8 (P := Try.prog) (n := 32) (e := 5) (by kernel_rfl) (by kernel_rfl) (by kernel_rfl) (by kernel_rfl) (hval 0 22 v0 rfl rfl) h0
  obtain ⟨a1, n1, c1, K1, F1, rfl, _, _, hD1⟩ := open_do (P := Try.prog) (t := 23) (u := 35) (e := 22) (b8 := 5) (by kernel_rfl) Try.underlying35 rfl rfl rfl rfl (by kernel_rfl) (by kernel_rfl) (by kernel_rfl) (by kernel_rfl) (by kernel_rfl) (hval 1 23 v1 rfl rfl) h1
  clear hA0 hval0
  refine (fieldPlays_any f0 a1 n1 c1 K1 F1 W hf0 hD1).mono fun e W' ⟨⟨he, hg⟩⟩ => ?_
  subst he
  exact ⟨_, rfl, law_post laidOut hW' rfl rfl (tb := 4) rfl Try.underlying4 (by
      rw [Try.params3]
      intro t ht
      have hall : ([22, 23].all fun u => Try.prog.readableRec u && decide (u < Try.prog.types.size)) = true := by kernel_rfl
      have := List.all_eq_true.1 hall t (by simpa using ht)
      simpa using this) hg⟩

theorem fieldPlays_holds : Rows.FieldPlaysSaid :=
  OpenClaim.holds_of_wide 3 Try.f3 rfl rfl rfl rfl rfl rfl rfl ⟨rfl, rfl, rfl, rfl, rfl⟩ rfl rfl rfl rfl rfl (by kernel_rfl) Try.func3 (by kernel_rfl)
    (of_decide_eq_true (by kernel_rfl)) (by unfold Func.isWrapper; first | (rw [if_pos (by decide +kernel)]; kernel_rfl) | (rw [if_neg (by decide +kernel)]; exact ⟨rfl, rfl⟩))
    (fun os started H enc _ => fieldPlays_lifted os started H enc)

end Go.Proofs.Ytpnddojcihdniaa
