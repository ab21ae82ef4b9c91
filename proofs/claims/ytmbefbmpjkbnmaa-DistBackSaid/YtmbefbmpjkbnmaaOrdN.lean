/-
  A region of calls one behind the other, and of memory that is made for each value, in whatever order.
-/
import Derived.Test.YtmbefbmpjkbnmaaOrd3
namespace Go.Proofs.Ytmbefbmpjkbnmaa
open Go.RowKit

def setO (p : Nat → Option Nat) (j X : Nat) (i : Nat) : Option Nat := if i = j then some X else p i
def cntN (p : Nat → Option Nat) : Nat → Nat
  | 0 => 0
  | j + 1 => cntN p j + if (p j).isNone then 1 else 0
theorem cntN_same {p p' : Nat → Option Nat} : ∀ n, (∀ i, i < n → p i = p' i) → cntN p n = cntN p' n
  | 0, _ => rfl
  | n + 1, h => by
    show cntN p n + _ = cntN p' n + _
    rw [cntN_same n (fun i hi => h i (by omega)), h n (by omega)]
theorem cntN_set (p : Nat → Option Nat) (j X : Nat) (hp : p j = none) : ∀ n, j < n → cntN (setO p j X) n + 1 = cntN p n
  | n + 1, h => by
    show cntN (setO p j X) n + _ + 1 = cntN p n + _
    by_cases e : j = n
    · subst e
      rw [cntN_same (p := setO p j X) (p' := p) j (fun i hi => if_neg (by omega))]
      simp [setO, hp]
    · have ih := cntN_set p j X hp n (by omega)
      have e2 : setO p j X n = p n := if_neg (by omega)
      rw [e2]
      omega
theorem cntN_zero {p : Nat → Option Nat} : ∀ n, cntN p n = 0 → ∀ i, i < n → ∃ X, p i = some X
  | n + 1, h, i, hi => by
    have h' : cntN p n + (if (p n).isNone then 1 else 0) = 0 := h
    by_cases e : i = n
    · subst e
      cases hp : p i with
      | none => rw [hp] at h'; simp at h'
      | some X => exact ⟨X, rfl⟩
    · exact cntN_zero n (by omega) i (by omega)

/-- What a frame holds: slot t. -/
def slotv (a : Act) (t : Nat) : Value := a.tmps[t]?.getD undef
theorem act_ext {a b : Act} (hd : a.defers = b.defers) (hs : a.tmps.size = b.tmps.size) (h : ∀ t, t < a.tmps.size → slotv a t = slotv b t) : a = b := by
  cases a with | mk ta da => cases b with | mk tb db =>
  simp only at hd hs h
  subst hd
  congr 1
  refine Array.ext hs fun i h1 h2 => ?_
  have := h i h1
  simpa [slotv, h1, h2] using this
theorem slotv_put (a : Act) (d t : Nat) (v : Value) (hd : d < a.tmps.size) : slotv (a.put (some d) v) t = if t = d then v else slotv a t := by
  unfold slotv
  by_cases e : t = d
  · subst e
    simp [Act.put, hd]
  · rw [if_neg e]
    simp [Act.put, Array.getElem?_setIfInBounds_ne (Ne.symm e)]
/-- The frame: c values, and those that are made. -/
structure Fr (a : Act) (dc da : Nat → Nat) (val : Nat → Value) (n c : Nat) (p : Nat → Option Nat) (b : Act) : Prop where
  defers : b.defers = a.defers
  size : b.tmps.size = a.tmps.size
  call : ∀ k, k < c → slotv b (dc k) = val k
  made : ∀ j X, j < n → p j = some X → slotv b (da j) = .pointer (some ⟨X, 0, none⟩)
  rest : ∀ t, (∀ k, k < c → t ≠ dc k) → (∀ j X, j < n → p j = some X → t ≠ da j) → slotv b t = slotv a t
section
variable {a b b' : Act} {dc da : Nat → Nat} {val : Nat → Value} {n c : Nat} {p : Nat → Option Nat}
theorem Fr.start (a : Act) (dc da : Nat → Nat) (val : Nat → Value) (n : Nat) : Fr a dc da val n 0 (fun _ => none) a :=
  ⟨rfl, rfl, (fun k h => absurd h (Nat.not_lt_zero k)), (fun _ _ _ h => by cases h), (fun _ _ _ => rfl)⟩
theorem Fr.callD (h : Fr a dc da val n c p b) (hc : c < n) (hi : ∀ k, k < n → dc k < a.tmps.size) (hcc : ∀ i k, i < n → k < n → dc i = dc k → i = k) (hca : ∀ k j, k < n → j < n → dc k ≠ da j) :
    Fr a dc da val n (c + 1) p (b.put (some (dc c)) (val c)) := by
  have hd : dc c < b.tmps.size := by rw [h.size]; exact hi c hc
  refine ⟨h.defers, by simp [Act.put, h.size], fun k hk => ?_, fun j X hj hp => ?_, fun t h1 h2 => ?_⟩
  · rw [slotv_put _ _ _ _ hd]
    by_cases e : dc k = dc c
    · rw [if_pos e, hcc k c (by omega) hc e]
    · rw [if_neg e]
      refine h.call k ?_
      have : k ≠ c := fun e' => e (by rw [e'])
      omega
  · rw [slotv_put _ _ _ _ hd, if_neg (fun e => hca c j hc hj e.symm)]
    exact h.made j X hj hp
  · rw [slotv_put _ _ _ _ hd, if_neg (h1 c (by omega))]
    exact h.rest t (fun k hk => h1 k (by omega)) h2
theorem Fr.makeD (h : Fr a dc da val n c p b) (j X : Nat) (hj : j < n) (hp : p j = none) (hc : c ≤ n) (hi : ∀ k, k < n → da k < a.tmps.size) (haa : ∀ i k, i < n → k < n → da i = da k → i = k) (hca : ∀ k j, k < n → j < n → dc k ≠ da j) :
    Fr a dc da val n c (setO p j X) (b.put (some (da j)) (.pointer (some ⟨X, 0, none⟩))) := by
  have hd : da j < b.tmps.size := by rw [h.size]; exact hi j hj
  refine ⟨h.defers, by simp [Act.put, h.size], fun k hk => ?_, fun i Y hi' hp' => ?_, fun t h1 h2 => ?_⟩
  · rw [slotv_put _ _ _ _ hd, if_neg (hca k j (by omega) hj)]
    exact h.call k hk
  · rw [slotv_put _ _ _ _ hd]
    by_cases e : i = j
    · subst e
      have : X = Y := by simpa [setO] using hp'
      subst this
      rw [if_pos rfl]
    · rw [if_neg (fun e' => e (haa i j hi' hj e'))]
      exact h.made i Y hi' (by simpa [setO, e] using hp')
  · rw [slotv_put _ _ _ _ hd, if_neg (h2 j X hj (by simp [setO]))]
    exact h.rest t h1 (fun i Y hi' hp' => by
      by_cases e : i = j
      · subst e; rw [hp] at hp'; cases hp'
      · exact h2 i Y hi' (by simpa [setO, e] using hp'))
theorem Fr.keep (h : Fr a dc da val n c p b) (t : Nat) (hc : c ≤ n) (h1 : ∀ k, k < n → t ≠ dc k) (h2 : ∀ j, j < n → t ≠ da j) : b.eval (.tmp t) = a.eval (.tmp t) := by
  have := h.rest t (fun k hk => h1 k (by omega)) (fun j _ hj _ => h2 j hj)
  simpa [slotv, Act.eval] using this
theorem Fr.sizes (_ : Fr a dc da val n c p b) {m : Nat} (hm : a.tmps.size = m) (d : Nat → Nat) (h : ∀ k, k < n → d k < m) : ∀ k, k < n → d k < a.tmps.size := fun k hk => by rw [hm]; exact h k hk
theorem Fr.congr {p' : Nat → Option Nat} (h : Fr a dc da val n c p b) (e : ∀ j, j < n → p j = p' j) : Fr a dc da val n c p' b :=
  ⟨h.defers, h.size, h.call, fun j X hj hp => h.made j X hj (by rw [e j hj]; exact hp), fun t h1 h2 => h.rest t h1 (fun j X hj hp => h2 j X hj (by rw [← e j hj]; exact hp))⟩
theorem Fr.same (h : Fr a dc da val n c p b) (h' : Fr a dc da val n c p b') : b = b' := by
  refine act_ext (h.defers.trans h'.defers.symm) (h.size.trans h'.size.symm) fun t _ => ?_
  by_cases e1 : ∃ k, k < c ∧ t = dc k
  · obtain ⟨k, hk, rfl⟩ := e1
    rw [h.call k hk, h'.call k hk]
  · by_cases e2 : ∃ j X, j < n ∧ p j = some X ∧ t = da j
    · obtain ⟨j, X, hj, hp, rfl⟩ := e2
      rw [h.made j X hj hp, h'.made j X hj hp]
    · have f1 : ∀ k, k < c → t ≠ dc k := fun k hk e => e1 ⟨k, hk, e⟩
      have f2 : ∀ j X, j < n → p j = some X → t ≠ da j := fun j X hj hp e => e2 ⟨j, X, hj, hp, e⟩
      rw [h.rest t f1 f2, h'.rest t f1 f2]
end
/-- What is made. -/
structure Mades (w0 W : World) (T : TypeId) (k : IntKind) (s n : Nat) (p : Nat → Option Nat) : Prop where
  gr : w0.grownBy W none
  at_ : ∀ j X, j < n → p j = some X → w0.heap.size ≤ X ∧ Holds W X T k s (fun _ => 0)
  ne : ∀ i j X, i < n → j < n → p i = some X → p j = some X → i = j
theorem Mades.start (w0 : World) (T : TypeId) (k : IntKind) (s n : Nat) : Mades w0 w0 T k s n (fun _ => none) := ⟨grown_refl _ _, (fun _ _ _ h => by cases h), (fun _ _ _ _ _ h => by cases h)⟩
theorem Mades.call {w0 W W' : World} {T : TypeId} {k : IntKind} {s n : Nat} {p : Nat → Option Nat} (h : Mades w0 W T k s n p) (g : W.grownBy W' none) : Mades w0 W' T k s n p :=
  ⟨grown_trans h.gr g, fun j X hj hp => ⟨(h.at_ j X hj hp).1, (h.at_ j X hj hp).2.grown g (by simp)⟩, h.ne⟩
theorem Mades.make {w0 W : World} {T : TypeId} {k : IntKind} {s n : Nat} {p : Nat → Option Nat} (h : Mades w0 W T k s n p) (j : Nat) :
    Mades w0 (W.alloc (.cells (cellsOf k s (fun _ => 0)) T)) T k s n (setO p j W.heap.size) := by
  have g := World.grownBy_alloc W (.cells (cellsOf k s (fun _ => 0)) T) none
  refine ⟨grown_trans h.gr g, fun i X hi hp => ?_, fun i i' X hi hi' h1 h2 => ?_⟩
  · by_cases e : i = j
    · have : X = W.heap.size := by simpa [setO, e] using hp.symm
      subst this
      exact ⟨h.gr.size, holds_alloc W T k s _ _ rfl⟩
    · have hp' : p i = some X := by simpa [setO, e] using hp
      exact ⟨(h.at_ i X hi hp').1, (h.at_ i X hi hp').2.grown g (by simp)⟩
  · by_cases e : i = j
    · by_cases e' : i' = j
      · rw [e, e']
      · have q1 : X = W.heap.size := by simpa [setO, e] using h1.symm
        have q2 : p i' = some X := by simpa [setO, e'] using h2
        have := (h.at_ i' X hi' q2).2.lt
        omega
    · have q1 : p i = some X := by simpa [setO, e] using h1
      by_cases e' : i' = j
      · have q2 : X = W.heap.size := by simpa [setO, e'] using h2.symm
        have := (h.at_ i X hi q1).2.lt
        omega
      · exact h.ne i i' X hi hi' q1 (by simpa [setO, e'] using h2)

section
variable {P : Program} {ops : Array Oper} {Q : Exit → Act → World → Prop}
theorem calls_makes {w0 : World} {T : TypeId} {kd : IntKind} {s : Nat} (n r : Nat) (ci ai dc da : Nat → Nat) (f : Nat → FuncId) (args : Nat → Array Value) (val : Nat → Value) (a : Act) (L : Nat → (Nat → Option Nat) → Array Bool)
    (hr : ∀ c p, c ≤ n → (c < n ∨ ∃ j, j < n ∧ p j = none) → ∃ rs, Region.ready .any ops (L c p) = rs ∧ rs ≠ [] ∧ ∀ i ∈ rs, (c < n ∧ i = ci c) ∨ (∃ j, j < n ∧ p j = none ∧ i = ai j))
    (hL1 : ∀ c p, c < n → (L c p).setIfInBounds (ci c) true = L (c + 1) p) (hL2 : ∀ c p j X, c ≤ n → j < n → (L c p).setIfInBounds (ai j) true = L c (setO p j X))
    (hid : ∀ k, k < n → dc k < a.tmps.size) (hia : ∀ k, k < n → da k < a.tmps.size) (hcc : ∀ i k, i < n → k < n → dc i = dc k → i = k) (haa : ∀ i k, i < n → k < n → da i = da k → i = k) (hca : ∀ k j, k < n → j < n → dc k ≠ da j)
    (hcall : ∀ k, k < n → ∃ o, ops[ci k]? = some o ∧ o.guard = none ∧ o.dst = some (dc k) ∧ ∀ p b, Fr a dc da val n k p b → execOp b.eval o = callFunc (f k) (args k))
    (hent : ∀ k args w, (callFunc (f k) args).run P w = .ok (.enter (f k) args) w)
    (hc : ∀ k W, k < n → w0.grownBy W none → Calls P (f k) (args k) W fun e w' => e = .returned (val k) ∧ W.grownBy w' none)
    (hmake : ∀ j, j < n → ∃ o, ops[ai j]? = some o ∧ o.guard = none ∧ o.dst = some (da j) ∧ ∀ (b : Act) (W : World), (execOp b.eval o).run P W = .ok (.value (.pointer (some ⟨W.heap.size, 0, none⟩))) (W.alloc (.cells (cellsOf kd s (fun _ => 0)) T)))
    (hfin : ∀ p b W, (∀ j, j < n → ∃ X, p j = some X) → Fr a dc da val n n p b → Mades w0 W T kd s n p → wpAnyH P .any ops Q (fun W => w0.grownBy W none) r (L n p) b W) :
    ∀ (m c : Nat) (p : Nat → Option Nat) (b : Act) (W : World), c ≤ n → m = (n - c) + cntN p n → Fr a dc da val n c p b → Mades w0 W T kd s n p → wpAnyH P .any ops Q (fun W => w0.grownBy W none) (m + r) (L c p) b W
  | 0, c, p, b, W, hcn, hm, hF, hM => by
    obtain rfl : c = n := by omega
    rw [Nat.zero_add]
    exact hfin p b W (cntN_zero c (by omega)) hF hM
  | m + 1, c, p, b, W, hcn, hm, hF, hM => by
    have hm1 : c < n → m = (n - (c + 1)) + cntN p n := fun h => by omega
    have hm2 : ∀ x, x + 1 = cntN p n → m = (n - c) + x := fun x h => by omega
    have hex : c < n ∨ ∃ j, j < n ∧ p j = none := by
      by_cases e : c < n
      · exact Or.inl e
      · refine Or.inr (Classical.byContradiction fun hno => ?_)
        have hz : cntN p n = cntN (fun _ => some 0) n := by
          have : ∀ k, k ≤ n → cntN p k = 0 := fun k => by
            induction k with
            | zero => intro _; rfl
            | succ k ih =>
              intro hk
              show cntN p k + _ = 0
              rw [ih (by omega)]
              cases hp : p k with
              | none => exact absurd ⟨k, by omega, hp⟩ hno
              | some X => rfl
          have h2 : ∀ k, cntN (fun _ => some 0) k = 0 := fun k => by
            induction k with
            | zero => rfl
            | succ k ih => show cntN _ k + _ = 0; rw [ih]; rfl
          rw [this n (Nat.le_refl _), h2]
        have h2 : ∀ k, cntN (fun _ => some 0) k = 0 := fun k => by
          induction k with
          | zero => rfl
          | succ k ih => show cntN _ k + _ = 0; rw [ih]; rfl
        rw [hz, h2] at hm
        omega
    obtain ⟨rs, h1, h2, h3⟩ := hr c p hcn hex
    rw [show m + 1 + r = (m + r) + 1 by omega]
    refine wpAnyH_all h1 h2 fun i hi => ?_
    rcases h3 i hi with ⟨hlt, rfl⟩ | ⟨j, hj, hp, rfl⟩
    · obtain ⟨o, ho, hg, hd, he⟩ := hcall c hlt
      refine wpOp_at ho (wanted_of hg) (wp_fnR (R := fun v w' => v = val c ∧ W.grownBy w' none) (some (dc c)) (f c) (args c) hd (he p b hF) (hent c) ((hc c W hlt hM.gr).mono fun _ _ h => ⟨_, h.1, rfl, h.2⟩) fun v w' h => ?_)
      obtain ⟨rfl, g⟩ := h
      refine ⟨grown_trans hM.gr g, ?_⟩
      rw [hL1 c p hlt]
      exact calls_makes n r ci ai dc da f args val a L hr hL1 hL2 hid hia hcc haa hca hcall hent hc hmake hfin m (c + 1) p _ w' hlt (hm1 hlt) (hF.callD hlt hid hcc hca) (hM.call g)
    · obtain ⟨o, ho, hg, hd, he⟩ := hmake j hj
      refine wpOp_at ho (wanted_of hg) (wp_yields (he b W) ?_)
      have hM' := hM.make (j := j)
      refine ⟨hM'.gr, ?_⟩
      rw [hd, hL2 c p j W.heap.size hcn hj]
      have hn := cntN_set p j W.heap.size hp n hj
      exact calls_makes n r ci ai dc da f args val a L hr hL1 hL2 hid hia hcc haa hca hcall hent hc hmake hfin m c _ _ _ hcn (hm2 _ hn) (hF.makeD j W.heap.size hj hp hcn hia haa hca) hM'
end
end Go.Proofs.Ytmbefbmpjkbnmaa
