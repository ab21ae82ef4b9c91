/-
  A region that draws its order, and whose operations only make memory: what each yields is told by a relation to the world, not by its value. No program is named here.
-/
import Derived.Test.YtmbefbmpjkbnmaaOrdN
import Derived.StillTail
namespace Go.Proofs.Ytmbefbmpjkbnmaa
open Go.RowKit

theorem eval_slot (b : Act) (t : Nat) : b.eval (.tmp t) = slotv b t := by simp [slotv, Act.eval]
def cntU (ls : Array Bool) : Nat → Nat
  | 0 => 0
  | j + 1 => cntU ls j + if ls.getD j true = true then 0 else 1
theorem cntU_same {ls ls' : Array Bool} : ∀ n, (∀ i, i < n → ls.getD i true = ls'.getD i true) → cntU ls n = cntU ls' n
  | 0, _ => rfl
  | n + 1, h => by
    show cntU ls n + _ = cntU ls' n + _
    rw [cntU_same n (fun i hi => h i (by omega)), h n (by omega)]
theorem getD_set_same {ls : Array Bool} {i : Nat} (h : i < ls.size) (d : Bool) : (ls.setIfInBounds i true).getD i d = true := by simp [h]
theorem cntU_set {ls : Array Bool} {i : Nat} (hi : i < ls.size) (hu : ls.getD i true = false) : ∀ n, i < n → cntU (ls.setIfInBounds i true) n + 1 = cntU ls n
  | n + 1, h => by
    show cntU (ls.setIfInBounds i true) n + _ + 1 = cntU ls n + _
    by_cases e : i = n
    · subst e
      rw [cntU_same i (ls := ls.setIfInBounds i true) (ls' := ls) (fun k hk => getD_set_ne true (by omega)), getD_set_same hi, hu]
      simp
    · have ih := cntU_set hi hu n (by omega)
      rw [getD_set_ne true e]
      omega
theorem cntU_zero {ls : Array Bool} : ∀ n, cntU ls n = 0 → ∀ i, i < n → ls.getD i true = true
  | n + 1, h, i, hi => by
    have h' : cntU ls n + (if ls.getD n true = true then 0 else 1) = 0 := h
    by_cases e : i = n
    · subst e
      by_cases hp : ls.getD i true = true
      · exact hp
      · rw [if_neg hp] at h'; omega
    · exact cntU_zero n (by omega) i (by omega)
/-- The first one that did not come up. -/
theorem first_un {ls : Array Bool} : ∀ n, cntU ls n ≠ 0 → ∃ i, i < n ∧ ls.getD i true = false ∧ ∀ k, k < i → ls.getD k true = true
  | 0, h => absurd rfl h
  | n + 1, h => by
    by_cases e : cntU ls n = 0
    · refine ⟨n, by omega, ?_, cntU_zero n e⟩
      cases hp : ls.getD n true with
      | false => rfl
      | true =>
        have h' : cntU ls n + (if ls.getD n true = true then 0 else 1) ≠ 0 := h
        rw [hp, e] at h'
        exact absurd rfl h'
    · obtain ⟨i, h1, h2, h3⟩ := first_un n e
      exact ⟨i, by omega, h2, h3⟩
theorem getD_tt {ls : Array Bool} {i : Nat} (hi : i < ls.size) (d e : Bool) (h : ls.getD i d = true) : ls.getD i e = true := by
  simp [hi] at h ⊢; exact h

/-- What an operation waits for stands ahead of it in the text. -/
def backB (ops : Array Oper) : Bool := (List.range ops.size).all fun i => match ops[i]? with
  | some o => o.after.all fun e => !Region.binds .any e || decide (e.on < i)
  | none => true
/-- It waits for these. -/
def depB (ops : Array Oper) (dep : Nat → List Nat) : Bool := (List.range ops.size).all fun i => (dep i).all fun j => match ops[i]? with
  | some o => o.after.any fun e => Region.binds .any e && e.on == j
  | none => false
theorem backB_at {ops : Array Oper} (h : backB ops = true) {i : Nat} {o : Oper} (ho : ops[i]? = some o) (hi : i < ops.size) (e : _) (he : e ∈ o.after) (hb : Region.binds .any e = true) : e.on < i := by
  have h1 := List.all_eq_true.1 h i (List.mem_range.2 hi)
  simp only [ho] at h1
  have h2 := Array.all_eq_true_iff_forall_mem.1 h1 e he
  rw [hb] at h2
  simpa using h2
theorem depB_at {ops : Array Oper} {dep : Nat → List Nat} (h : depB ops dep = true) {i j : Nat} {o : Oper} (ho : ops[i]? = some o) (hi : i < ops.size) (hj : j ∈ dep i) : ∃ e ∈ o.after, Region.binds .any e = true ∧ e.on = j := by
  have h1 := List.all_eq_true.1 h i (List.mem_range.2 hi)
  have h2 := List.all_eq_true.1 h1 j hj
  simp only [ho] at h2
  obtain ⟨k, hk, h3⟩ := Array.any_eq_true.1 h2
  simp only [Bool.and_eq_true, beq_iff_eq] at h3
  exact ⟨o.after[k], Array.getElem_mem hk, h3.1, h3.2⟩

/-- What stands in the midst. -/
structure RelSt (a : Act) (w0 : World) (d : Nat → Nat) (n : Nat) (R : Nat → Value → World → Prop) (ls : Array Bool) (b : Act) (W : World) : Prop where
  defers : b.defers = a.defers
  size : b.tmps.size = a.tmps.size
  rest : ∀ t, (∀ k, k < n → t ≠ d k) → slotv b t = slotv a t
  has : ∀ k, k < n → ls.getD k true = true → R k (slotv b (d k)) W
  gr : w0.grownBy W none
  lsz : ls.size = n

def putsN (a : Act) (d : Nat → Nat) (vals : Nat → Value) : Nat → Act
  | 0 => a
  | k + 1 => (putsN a d vals k).put (some (d k)) (vals k)
theorem putsN_size (a : Act) (d : Nat → Nat) (vals : Nat → Value) : ∀ n, (putsN a d vals n).tmps.size = a.tmps.size
  | 0 => rfl
  | n + 1 => by
    show ((putsN a d vals n).put (some (d n)) (vals n)).tmps.size = _
    rw [← putsN_size a d vals n]
    simp [Act.put]
theorem putsN_defers (a : Act) (d : Nat → Nat) (vals : Nat → Value) : ∀ n, (putsN a d vals n).defers = a.defers
  | 0 => rfl
  | n + 1 => putsN_defers a d vals n
theorem putsN_rest (a : Act) (d : Nat → Nat) (vals : Nat → Value) : ∀ n, (∀ k, k < n → d k < a.tmps.size) → ∀ t, (∀ k, k < n → t ≠ d k) → slotv (putsN a d vals n) t = slotv a t
  | 0, _, _, _ => rfl
  | n + 1, hd, t, h => by
    show slotv ((putsN a d vals n).put (some (d n)) (vals n)) t = _
    rw [slotv_put _ _ _ _ (by rw [putsN_size]; exact hd n (by omega)), if_neg (h n (by omega))]
    exact putsN_rest a d vals n (fun k hk => hd k (by omega)) t (fun k hk => h k (by omega))
theorem putsN_at (a : Act) (d : Nat → Nat) (vals : Nat → Value) : ∀ n, (∀ k, k < n → d k < a.tmps.size) → (∀ i k, i < n → k < n → d i = d k → i = k) → ∀ k, k < n → slotv (putsN a d vals n) (d k) = vals k
  | n + 1, hd, hi, k, hk => by
    show slotv ((putsN a d vals n).put (some (d n)) (vals n)) (d k) = _
    rw [slotv_put _ _ _ _ (by rw [putsN_size]; exact hd n (by omega))]
    by_cases e : k = n
    · rw [e, if_pos rfl]
    · rw [if_neg (fun h => e (hi k n hk (by omega) h))]
      exact putsN_at a d vals n (fun k hk => hd k (by omega)) (fun i k h1 h2 => hi i k (by omega) (by omega)) k (by omega)

section
variable {P : Program} {ops : Array Oper} {Q : Exit → Act → World → Prop} {a : Act} {w0 : World} {R : Nat → Value → World → Prop}
/-- What an operation does, where it may come up. -/
def RelStep (P : Program) (ops : Array Oper) (Q : Exit → Act → World → Prop) (a : Act) (w0 : World) (R : Nat → Value → World → Prop) (n : Nat) (d : Nat → Nat) (dep : Nat → List Nat) (i : Nat) : Prop :=
  ∃ o, ops[i]? = some o ∧ o.guard = none ∧ o.dst = some (d i) ∧ ∀ (b : Act) (W : World), (∀ t, (∀ k, k < n → t ≠ d k) → slotv b t = slotv a t) → w0.grownBy W none → (∀ j, j ∈ dep i → R j (slotv b (d j)) W) →
    ∀ K : Act → World → Prop, (∀ v W', W.grownBy W' none → R i v W' → K (b.put o.dst v) W') → o.wp P b W K Q
theorem rel_steps (n : Nat) (d : Nat → Nat) (dep : Nat → List Nat) (hsz : ops.size = n) (hb : backB ops = true) (hdp : depB ops dep = true) (hd : ∀ k, k < n → d k < a.tmps.size) (hinj : ∀ i k, i < n → k < n → d i = d k → i = k)
    (hmono : ∀ k v W W', k < n → R k v W → W.grownBy W' none → R k v W') (hstep : ∀ i, i < n → RelStep P ops Q a w0 R n d dep i) (hlt : ∀ i, i < n → ∀ j, j ∈ dep i → j < n)
    (hfin : ∀ ls b W, (∀ k, k < n → ls.getD k true = true) → RelSt a w0 d n R ls b W → Q .normal b W) :
    ∀ (m : Nat) (ls : Array Bool) (b : Act) (W : World), m = cntU ls n → RelSt a w0 d n R ls b W → wpAnyH P .any ops Q (fun W => w0.grownBy W none) m ls b W
  | 0, ls, b, W, hm, h => by
    have hall := cntU_zero n hm.symm
    refine ⟨List.eq_nil_iff_forall_not_mem.2 fun i hi => ?_, hfin ls b W hall h⟩
    obtain ⟨h1, y, hy, _⟩ := mem_ready.1 hi
    have hin : i < n := by rw [← hsz]; exact (Array.getElem?_eq_some_iff.1 hy).1
    rw [hall i hin] at h1
    cases h1
  | m + 1, ls, b, W, hm, h => by
    refine ⟨fun he => ?_, fun i hi => ?_⟩
    · obtain ⟨i, h1, h2, h3⟩ := first_un n (by omega : cntU ls n ≠ 0)
      have hio : i < ops.size := by omega
      have : i ∈ Region.ready .any ops ls := mem_ready.2 ⟨h2, ops[i], by simp [hio], fun e he' hbd => by
        have := backB_at hb (by simp [hio] : ops[i]? = some ops[i]) hio e he' hbd
        exact getD_tt (by rw [h.lsz]; omega) true false (h3 _ this)⟩
      rw [he] at this
      cases this
    · obtain ⟨hun, y, hy, hall⟩ := mem_ready.1 hi
      have hin : i < n := by rw [← hsz]; exact (Array.getElem?_eq_some_iff.1 hy).1
      have hils : i < ls.size := by rw [h.lsz]; exact hin
      obtain ⟨o, ho, hg, hdo, hw⟩ := hstep i hin
      obtain rfl : y = o := by rw [hy] at ho; exact Option.some.inj ho
      refine wpOp_at hy (wanted_of hg) (hw b W h.rest h.gr (fun j hj => ?_) _ (fun v W' g hR => ?_))
      · obtain ⟨e, he, hbd, rfl⟩ := depB_at hdp hy (by omega) hj
        exact h.has _ (hlt i hin _ hj) (getD_tt (by rw [h.lsz]; exact hlt i hin _ hj) false true (hall e he hbd))
      · have hgr := grown_trans h.gr g
        rw [hdo]
        refine ⟨hgr, rel_steps n d dep hsz hb hdp hd hinj hmono hstep hlt hfin m _ _ W' ?_ ?_⟩
        · have := cntU_set hils hun n hin
          omega
        · have hdb : d i < b.tmps.size := by rw [h.size]; exact hd i hin
          refine ⟨h.defers, by simp [Act.put, h.size], fun t ht => ?_, fun k hk hl => ?_, hgr, by simp [h.lsz]⟩
          · rw [slotv_put _ _ _ _ hdb, if_neg (ht i hin)]
            exact h.rest t ht
          · rw [slotv_put _ _ _ _ hdb]
            by_cases e : k = i
            · subst e
              rw [if_pos rfl]
              exact hR
            · rw [if_neg (fun e' => e (hinj k i hk hin e'))]
              rw [getD_set_ne true (Ne.symm e)] at hl
              exact hmono k _ W W' hk (h.has k hk hl) g
/-- A region of operations that only make memory: in the end each slot has what its relation tells. -/
theorem wp_region_rel {id : Nat} {w : World} (R : Nat → Value → World → Prop) (n : Nat) (d : Nat → Nat) (dep : Nat → List Nat) (hm : P.follows .mixedOrders = true) (hsz : ops.size = n) (hb : backB ops = true) (hdp : depB ops dep = true)
    (m : Nat) (hsm : a.tmps.size = m) (hd : ∀ k, k < n → d k < m) (hinj0 : ∀ i, i < n → ∀ k, k < n → d i = d k → i = k) (hlt : ∀ i, i < n → ∀ j, j ∈ dep i → j < n)
    (hmono : ∀ k v W W', k < n → R k v W → W.grownBy W' none → R k v W') (hstep : ∀ i, i < n → RelStep P ops Q a w.drew R n d dep i)
    (hfin : ∀ vals W, w.drew.grownBy W none → (∀ k, k < n → R k (vals k) W) → Q .normal (putsN a d vals n) W) : (Code.region id ops true).wp P Q a w := by
  subst hsm
  have hinj : ∀ i k, i < n → k < n → d i = d k → i = k := fun i k h1 h2 => hinj0 i h1 k h2
  refine wp_region_held (S := fun W => w.drew.grownBy W none) hm ?_
  show wpAnyH P .any ops Q _ ops.size (Array.replicate ops.size false) a w.drew
  have hc : ∀ k, k ≤ ops.size → cntU (Array.replicate ops.size false) k = k := fun k => by
    induction k with
    | zero => intro _; rfl
    | succ k ih =>
      intro hk
      show cntU _ k + _ = _
      rw [ih (by omega), getD_in (by simp; omega) (getD_replicate_false _ _)]
      rfl
  refine rel_steps (R := R) n d dep hsz hb hdp hd hinj hmono hstep hlt (fun ls b W hall h => ?_) ops.size _ a w.drew (by rw [← hsz]; exact (hc _ (Nat.le_refl _)).symm)
    ⟨rfl, rfl, fun _ _ => rfl, fun k hk hl => (by rw [getD_in (by simp; omega) (getD_replicate_false _ _)] at hl; cases hl), grown_refl _ _, by simp [hsz]⟩
  have he : b = putsN a d (fun k => slotv b (d k)) n := by
    refine act_ext (h.defers.trans (putsN_defers a d _ n).symm) (h.size.trans (putsN_size a d _ n).symm) fun t _ => ?_
    by_cases e : ∃ k, k < n ∧ t = d k
    · obtain ⟨k, hk, rfl⟩ := e
      exact (putsN_at a d (fun k => slotv b (d k)) n hd hinj k hk).symm
    · have e' : ∀ k, k < n → t ≠ d k := fun k hk h => e ⟨k, hk, h⟩
      rw [h.rest t e', putsN_rest a d _ n hd t e']
  rw [he]
  exact hfin _ W h.gr (fun k hk => h.has k hk (hall k hk))
end
end Go.Proofs.Ytmbefbmpjkbnmaa
