/-
  AES, said over bytes: a key's columns, a block sealed; no two blocks are sealed to one; the chapter's rows, reckoned. No program is named here.
-/
import Derived.Test.YtlfopcigbgfnlaaDoorAesMath
namespace Go.Proofs.YtlfopcigbgfnlaaDoor

/-- The column of four bytes, at place k. -/
def colS (s : Nat → Nat) (k : Nat) : Nat := col (s (4 * k)) (s (4 * k + 1)) (s (4 * k + 2)) (s (4 * k + 3))
theorem colS_lt (s : Nat → Nat) (hs : ∀ i, s i < 256) (k : Nat) : colS s k < 2 ^ 32 := col_lt _ _ _ _ (hs _) (hs _) (hs _) (hs _)
theorem colS_congr {s s' : Nat → Nat} {k : Nat} (h : ∀ r, r < 4 → s (4 * k + r) = s' (4 * k + r)) : colS s k = colS s' k := by
  have h0 := h 0 (by decide)
  have h1 := h 1 (by decide)
  have h2 := h 2 (by decide)
  have h3 := h 3 (by decide)
  rw [Nat.add_zero] at h0
  unfold colS
  rw [h0, h1, h2, h3]

/-! A key's columns. -/
def rc : Nat → Nat
  | 0 => 1
  | m + 1 => xt (rc m)
theorem rc_lt : ∀ m, rc m < 256
  | 0 => by decide
  | m + 1 => xt_lt _ (rc_lt m)
def kTurn (N : Nat) (w : Nat → Nat) (i c k : Nat) : Nat :=
  if i % N = 0 then sB (w (4 * (i - 1) + (k + 1) % 4)) ^^^ (if k = 0 then c else 0)
  else if N = 8 ∧ i % 8 = 4 then sB (w (4 * (i - 1) + k)) else w (4 * (i - 1) + k)
def kNew (N : Nat) (w : Nat → Nat) (i c k : Nat) : Nat := kTurn N w i c k ^^^ w (4 * (i - N) + k)
def kW (N : Nat) (key : Nat → Nat) : Nat → Nat → Nat
  | 0, x => key x
  | m + 1, x => if x < 4 * (N + m) then kW N key m x else kNew N (kW N key m) (N + m) (rc ((N + m - 1) / N)) (x - 4 * (N + m))
/-- All columns of a key. -/
def keyW (N : Nat) (key : Nat → Nat) (x : Nat) : Nat := kW N key 52 x

theorem kW_stable (N : Nat) (key : Nat → Nat) (m x : Nat) (h : x < 4 * (N + m)) : ∀ j, kW N key (m + j) x = kW N key m x
  | 0 => rfl
  | j + 1 => by
    show (if x < 4 * (N + (m + j)) then kW N key (m + j) x else _) = _
    rw [if_pos (by omega), kW_stable N key m x h j]
theorem kNew_congr {N i c k : Nat} {w w' : Nat → Nat} (h : ∀ x, x < 4 * i → w x = w' x) (h0 : 0 < N) (hi : N ≤ i) (hk : k < 4) : kNew N w i c k = kNew N w' i c k := by
  unfold kNew kTurn
  rw [h (4 * (i - 1) + (k + 1) % 4) (by omega), h (4 * (i - 1) + k) (by omega), h (4 * (i - N) + k) (by omega)]
theorem keyW_own (N : Nat) (key : Nat → Nat) (x : Nat) (h : x < 4 * N) : keyW N key x = key x := by
  have := kW_stable N key 0 x (by omega) 52
  rw [Nat.zero_add] at this
  exact this
theorem keyW_next (N : Nat) (key : Nat → Nat) (i k : Nat) (h0 : 0 < N) (hi : N ≤ i) (hi2 : i < N + 52) (hk : k < 4) : keyW N key (4 * i + k) = kNew N (keyW N key) i (rc ((i - 1) / N)) k := by
  obtain ⟨m, rfl⟩ : ∃ m, i = N + m := ⟨i - N, by omega⟩
  have h1 := kW_stable N key (m + 1) (4 * (N + m) + k) (by omega) (52 - (m + 1))
  rw [show m + 1 + (52 - (m + 1)) = 52 by omega] at h1
  unfold keyW
  rw [h1]
  show (if 4 * (N + m) + k < 4 * (N + m) then _ else _) = _
  rw [if_neg (by omega), show 4 * (N + m) + k - 4 * (N + m) = k by omega]
  refine kNew_congr (fun x hx => ?_) h0 (by omega) hk
  have h2 := kW_stable N key m x hx (52 - m)
  rw [show m + (52 - m) = 52 by omega] at h2
  exact h2.symm
theorem kNew_lt (N i c k : Nat) (w : Nat → Nat) (hw : ∀ x, w x < 256) (hc : c < 256) : kNew N w i c k < 256 := by
  unfold kNew kTurn
  refine xor_lt256 ?_ (hw _)
  split
  · refine xor_lt256 (sB_lt _) ?_
    split
    · exact hc
    · decide
  · split
    · exact sB_lt _
    · exact hw _
theorem kW_lt (N : Nat) (key : Nat → Nat) (hk : ∀ i, key i < 256) : ∀ m x, kW N key m x < 256
  | 0, x => hk x
  | m + 1, x => by
    show (if x < 4 * (N + m) then _ else _) < 256
    split
    · exact kW_lt N key hk m x
    · exact kNew_lt _ _ _ _ _ (kW_lt N key hk m) (rc_lt _)
theorem keyW_lt (N : Nat) (key : Nat → Nat) (hk : ∀ i, key i < 256) (x : Nat) : keyW N key x < 256 := kW_lt N key hk 52 x

/-! A block, sealed. -/
def subShift (s : Nat → Nat) (i : Nat) : Nat := sB (s ((i + 4 * (i % 4)) % 16))
def mixOf (t : Nat → Nat) (i : Nat) : Nat := M (t (i / 4 * 4 + i % 4)) (t (i / 4 * 4 + (i + 1) % 4)) (t (i / 4 * 4 + (i + 2) % 4)) (t (i / 4 * 4 + (i + 3) % 4))
def rndA (mix : Bool) (w s : Nat → Nat) (i : Nat) : Nat := (if mix then mixOf (subShift s) i else subShift s i) ^^^ w i
def stA (R : Nat) (W s : Nat → Nat) : Nat → Nat → Nat
  | 0, i => s i ^^^ W i
  | n + 1, i => rndA (decide (n + 1 < R)) (fun j => W (16 * (n + 1) + j)) (stA R W s n) i
def sealA (R : Nat) (W s : Nat → Nat) : Nat → Nat := stA R W s R

theorem subShift_lt (s : Nat → Nat) (i : Nat) : subShift s i < 256 := sB_lt _
theorem mixOf_lt (t : Nat → Nat) (ht : ∀ i, t i < 256) (i : Nat) : mixOf t i < 256 := M_lt _ _ _ _ (ht _) (ht _) (ht _) (ht _)
theorem rndA_lt (mix : Bool) (w s : Nat → Nat) (hw : ∀ i, w i < 256) (i : Nat) : rndA mix w s i < 256 := by
  unfold rndA
  refine xor_lt256 ?_ (hw i)
  split
  · exact mixOf_lt _ (subShift_lt s) i
  · exact subShift_lt s i
theorem stA_lt (R : Nat) (W s : Nat → Nat) (hW : ∀ i, W i < 256) (hs : ∀ i, s i < 256) : ∀ n i, stA R W s n i < 256
  | 0, i => xor_lt256 (hs i) (hW i)
  | _ + 1, i => rndA_lt _ _ _ (fun _ => hW _) i
theorem sealA_lt (R : Nat) (W s : Nat → Nat) (hW : ∀ i, W i < 256) (hs : ∀ i, s i < 256) (i : Nat) : sealA R W s i < 256 := stA_lt R W s hW hs R i

/-- A round's column, of the column that the shift tells. -/
theorem colS_sub (s : Nat → Nat) (k : Nat) (hk : k < 4) : colS (subShift s) k = col (sB (s (4 * k))) (sB (s (4 * ((k + 1) % 4) + 1))) (sB (s (4 * ((k + 2) % 4) + 2))) (sB (s (4 * ((k + 3) % 4) + 3))) := by
  obtain rfl | rfl | rfl | rfl : k = 0 ∨ k = 1 ∨ k = 2 ∨ k = 3 := by omega
  all_goals rfl
theorem colS_mix (t : Nat → Nat) (k : Nat) (hk : k < 4) : colS (mixOf t) k = col (M (t (4 * k)) (t (4 * k + 1)) (t (4 * k + 2)) (t (4 * k + 3))) (M (t (4 * k + 1)) (t (4 * k + 2)) (t (4 * k + 3)) (t (4 * k))) (M (t (4 * k + 2)) (t (4 * k + 3)) (t (4 * k)) (t (4 * k + 1))) (M (t (4 * k + 3)) (t (4 * k)) (t (4 * k + 1)) (t (4 * k + 2))) := by
  obtain rfl | rfl | rfl | rfl : k = 0 ∨ k = 1 ∨ k = 2 ∨ k = 3 := by omega
  all_goals rfl
theorem colS_xor (s t : Nat → Nat) (hs : ∀ i, s i < 256) (ht : ∀ i, t i < 256) (k : Nat) : colS s k ^^^ colS t k = colS (fun i => s i ^^^ t i) k := by
  unfold colS
  rw [col_xor _ _ _ _ _ _ _ _ (hs _) (hs _) (hs _) (ht _) (ht _) (ht _)]
/-- A round, column by column. -/
theorem colS_rnd (mix : Bool) (w s : Nat → Nat) (hw : ∀ i, w i < 256) (k : Nat) : colS (rndA mix w s) k = colS (if mix then mixOf (subShift s) else subShift s) k ^^^ colS w k := by
  rw [colS_xor _ _ (fun i => ?_) hw]
  · refine colS_congr fun r _ => ?_
    unfold rndA
    cases mix <;> rfl
  · split
    · exact mixOf_lt _ (subShift_lt s) i
    · exact subShift_lt s i

/-! No two blocks are sealed to one. -/
theorem xor_cancel {a b c : Nat} (h : a ^^^ c = b ^^^ c) : a = b := by
  have : a ^^^ c ^^^ c = b ^^^ c ^^^ c := by rw [h]
  rwa [Nat.xor_assoc, Nat.xor_assoc, Nat.xor_self, Nat.xor_zero, Nat.xor_zero] at this
theorem subShift_inj {s s' : Nat → Nat} (hs : ∀ i, s i < 256) (hs' : ∀ i, s' i < 256) (h : ∀ i, i < 16 → subShift s i = subShift s' i) (i : Nat) (hi : i < 16) : s i = s' i := by
  have key : ∃ j, j < 16 ∧ (j + 4 * (j % 4)) % 16 = i := ⟨(i + 16 - 4 * (i % 4)) % 16, by omega, by omega⟩
  obtain ⟨j, hj, rfl⟩ := key
  exact sB_inj _ _ (hs _) (hs' _) (h j hj)
theorem mixOf_inj {t t' : Nat → Nat} (ht : ∀ i, t i < 256) (ht' : ∀ i, t' i < 256) (h : ∀ i, i < 16 → mixOf t i = mixOf t' i) (i : Nat) (hi : i < 16) : t i = t' i := by
  have hc : ∀ k, k < 4 → t (4 * k) = t' (4 * k) ∧ t (4 * k + 1) = t' (4 * k + 1) ∧ t (4 * k + 2) = t' (4 * k + 2) ∧ t (4 * k + 3) = t' (4 * k + 3) := fun k hk => by
    have e : ∀ (u : Nat → Nat), mixOf u (4 * k) = M (u (4 * k)) (u (4 * k + 1)) (u (4 * k + 2)) (u (4 * k + 3)) ∧ mixOf u (4 * k + 1) = M (u (4 * k + 1)) (u (4 * k + 2)) (u (4 * k + 3)) (u (4 * k)) ∧
        mixOf u (4 * k + 2) = M (u (4 * k + 2)) (u (4 * k + 3)) (u (4 * k)) (u (4 * k + 1)) ∧ mixOf u (4 * k + 3) = M (u (4 * k + 3)) (u (4 * k)) (u (4 * k + 1)) (u (4 * k + 2)) := fun u => by
      obtain rfl | rfl | rfl | rfl : k = 0 ∨ k = 1 ∨ k = 2 ∨ k = 3 := by omega
      all_goals exact ⟨rfl, rfl, rfl, rfl⟩
    have h0 := h (4 * k) (by omega)
    have h1 := h (4 * k + 1) (by omega)
    have h2 := h (4 * k + 2) (by omega)
    have h3 := h (4 * k + 3) (by omega)
    rw [(e t).1, (e t').1] at h0
    rw [(e t).2.1, (e t').2.1] at h1
    rw [(e t).2.2.1, (e t').2.2.1] at h2
    rw [(e t).2.2.2, (e t').2.2.2] at h3
    exact ⟨M_inj (ht _) (ht _) (ht _) (ht _) (ht' _) (ht' _) (ht' _) (ht' _) h0 h1 h2 h3, M_inj (ht _) (ht _) (ht _) (ht _) (ht' _) (ht' _) (ht' _) (ht' _) h1 h2 h3 h0,
      M_inj (ht _) (ht _) (ht _) (ht _) (ht' _) (ht' _) (ht' _) (ht' _) h2 h3 h0 h1, M_inj (ht _) (ht _) (ht _) (ht _) (ht' _) (ht' _) (ht' _) (ht' _) h3 h0 h1 h2⟩
  have hk := hc (i / 4) (by omega)
  obtain h4 | h4 | h4 | h4 : i = 4 * (i / 4) ∨ i = 4 * (i / 4) + 1 ∨ i = 4 * (i / 4) + 2 ∨ i = 4 * (i / 4) + 3 := by omega
  · rw [h4]; exact hk.1
  · rw [h4]; exact hk.2.1
  · rw [h4]; exact hk.2.2.1
  · rw [h4]; exact hk.2.2.2
theorem rndA_inj (mix : Bool) {w s s' : Nat → Nat} (hs : ∀ i, s i < 256) (hs' : ∀ i, s' i < 256) (h : ∀ i, i < 16 → rndA mix w s i = rndA mix w s' i) : ∀ i, i < 16 → s i = s' i := by
  have h1 : ∀ i, i < 16 → (if mix then mixOf (subShift s) i else subShift s i) = (if mix then mixOf (subShift s') i else subShift s' i) := fun i hi => xor_cancel (h i hi)
  refine subShift_inj hs hs' ?_
  cases mix with
  | true => exact mixOf_inj (subShift_lt s) (subShift_lt s') h1
  | false => exact h1
theorem stA_inj (R : Nat) {W s s' : Nat → Nat} (hW : ∀ i, W i < 256) (hs : ∀ i, s i < 256) (hs' : ∀ i, s' i < 256) : ∀ n, (∀ i, i < 16 → stA R W s n i = stA R W s' n i) → ∀ i, i < 16 → s i = s' i
  | 0, h => fun i hi => xor_cancel (h i hi)
  | n + 1, h => stA_inj R hW hs hs' n (rndA_inj _ (stA_lt R W s hW hs n) (stA_lt R W s' hW hs' n) h)
theorem sealA_inj (R : Nat) {W s s' : Nat → Nat} (hW : ∀ i, W i < 256) (hs : ∀ i, s i < 256) (hs' : ∀ i, s' i < 256) (h : ∀ i, i < 16 → sealA R W s i = sealA R W s' i) : ∀ i, i < 16 → s i = s' i :=
  stA_inj R hW hs hs' R h
theorem rndA_congr (mix : Bool) {w w' s s' : Nat → Nat} (hw : ∀ i, i < 16 → w i = w' i) (hs : ∀ i, i < 16 → s i = s' i) (i : Nat) (hi : i < 16) : rndA mix w s i = rndA mix w' s' i := by
  have h1 : ∀ i, subShift s i = subShift s' i := fun i => by unfold subShift; rw [hs _ (by omega)]
  have h2 : subShift s = subShift s' := funext h1
  unfold rndA
  rw [h2, hw i hi]
theorem stA_congr (R : Nat) {W W' s s' : Nat → Nat} (hW : ∀ i, i < 16 * (R + 1) → W i = W' i) (hs : ∀ i, i < 16 → s i = s' i) : ∀ n, n ≤ R → ∀ i, i < 16 → stA R W s n i = stA R W' s' n i
  | 0, _, i, hi => by show _ ^^^ _ = _ ^^^ _; rw [hs i hi, hW i (by omega)]
  | n + 1, hn, i, hi => rndA_congr _ (fun j hj => hW _ (by omega)) (stA_congr R hW hs n (by omega)) i hi
theorem sealA_congr (R : Nat) {W W' s s' : Nat → Nat} (hW : ∀ i, i < 16 * (R + 1) → W i = W' i) (hs : ∀ i, i < 16 → s i = s' i) (i : Nat) (hi : i < 16) : sealA R W s i = sealA R W' s' i := stA_congr R hW hs R (Nat.le_refl _) i hi

/-! Reckoned. -/
def strict {α : Type} (n : Nat) (k : Nat → α) : α := match n with
  | 0 => k 0
  | m + 1 => k (m + 1)
theorem strict_eq {α : Type} (n : Nat) (k : Nat → α) : strict n k = k n := by cases n <;> rfl
def strictL {α : Type} : List Nat → (List Nat → α) → α
  | [], k => k []
  | x :: l, k => strict x fun y => strictL l fun r => k (y :: r)
theorem strictL_eq {α : Type} : ∀ (l : List Nat) (k : List Nat → α), strictL l k = k l
  | [], _ => rfl
  | x :: l, k => by rw [strictL, strict_eq, strictL_eq l]
def lst (l : List Nat) : Nat → Nat := fun i => l.getD i 0

def evalK {α : Type} (N : Nat) : Nat → Nat → List Nat → (List Nat → α) → α
  | 0, _, l, k => k l
  | m + 1, i, l, k => strictL [kNew N (lst l) i (rc ((i - 1) / N)) 0, kNew N (lst l) i (rc ((i - 1) / N)) 1, kNew N (lst l) i (rc ((i - 1) / N)) 2, kNew N (lst l) i (rc ((i - 1) / N)) 3] fun q => strictL (l ++ q) fun l' => evalK N m (i + 1) l' k
theorem evalK_ok {α : Type} (N : Nat) (key : Nat → Nat) (h0 : 0 < N) (k : List Nat → α) : ∀ (m j : Nat) (l : List Nat), l.length = 4 * (N + j) → (∀ x, x < 4 * (N + j) → lst l x = kW N key j x) →
    ∃ l', evalK N m (N + j) l k = k l' ∧ l'.length = 4 * (N + (j + m)) ∧ ∀ x, x < 4 * (N + (j + m)) → lst l' x = kW N key (j + m) x
  | 0, j, l, hl, h => ⟨l, rfl, hl, h⟩
  | m + 1, j, l, hl, h => by
    have hn : ∀ c r, r < 4 → kNew N (lst l) (N + j) c r = kNew N (kW N key j) (N + j) c r := fun c r hr => kNew_congr h h0 (by omega) hr
    rw [evalK]
    simp only [strictL_eq]
    obtain ⟨l', h1, h2, h3⟩ := evalK_ok N key h0 k m (j + 1) (l ++ [kNew N (lst l) (N + j) (rc ((N + j - 1) / N)) 0, kNew N (lst l) (N + j) (rc ((N + j - 1) / N)) 1, kNew N (lst l) (N + j) (rc ((N + j - 1) / N)) 2, kNew N (lst l) (N + j) (rc ((N + j - 1) / N)) 3]) (by simp [hl]; omega) (fun x hx => by
      show _ = if x < 4 * (N + j) then _ else _
      by_cases e : x < 4 * (N + j)
      · rw [if_pos e, ← h x e]
        simp [lst, List.getElem?_append_left (show x < l.length by omega)]
      · rw [if_neg e]
        have e1 : ∀ q : List Nat, lst (l ++ q) x = q.getD (x - 4 * (N + j)) 0 := fun q => by simp [lst, List.getElem?_append_right (show l.length ≤ x by omega), hl]
        rw [e1]
        obtain h4 | h4 | h4 | h4 : x - 4 * (N + j) = 0 ∨ x - 4 * (N + j) = 1 ∨ x - 4 * (N + j) = 2 ∨ x - 4 * (N + j) = 3 := by omega
        all_goals
          rw [h4]
          exact hn _ _ (by decide))
    exact ⟨l', h1, by omega, fun x hx => by rw [show j + (m + 1) = j + 1 + m by omega]; exact h3 x (by omega)⟩

def evalR {α : Type} (R : Nat) (W : List Nat) : Nat → Nat → List Nat → (List Nat → α) → α
  | 0, _, l, k => k l
  | m + 1, n, l, k => strictL ((List.range 16).map (rndA (decide (n + 1 < R)) (fun j => lst W (16 * (n + 1) + j)) (lst l))) fun l' => evalR R W m (n + 1) l' k
theorem lst_map (f : Nat → Nat) (i : Nat) (hi : i < 16) : lst ((List.range 16).map f) i = f i := by simp [lst, hi]
theorem evalR_ok {α : Type} (R : Nat) (W : List Nat) (s : Nat → Nat) (k : List Nat → α) : ∀ (m n : Nat) (l : List Nat), (∀ i, i < 16 → lst l i = stA R (lst W) s n i) →
    ∃ l', evalR R W m n l k = k l' ∧ ∀ i, i < 16 → lst l' i = stA R (lst W) s (n + m) i
  | 0, n, l, h => ⟨l, rfl, h⟩
  | m + 1, n, l, h => by
    rw [evalR]
    simp only [strictL_eq]
    obtain ⟨l', h1, h2⟩ := evalR_ok R W s k m (n + 1) ((List.range 16).map (rndA (decide (n + 1 < R)) (fun j => lst W (16 * (n + 1) + j)) (lst l))) (fun i hi => by
      rw [lst_map _ i hi]
      exact rndA_congr _ (fun _ _ => rfl) h i hi)
    exact ⟨l', h1, fun i hi => by rw [show n + (m + 1) = n + 1 + m by omega]; exact h2 i hi⟩

/-- A block sealed under a key, both said by lists. -/
def evalSeal (N : Nat) (kl bl : List Nat) : List Nat :=
  evalK N (3 * N + 28) N kl fun W => strictL ((List.range 16).map fun i => lst bl i ^^^ lst W i) fun l => evalR (N + 6) W (N + 6) 0 l id
theorem evalSeal_ok (N : Nat) (kl bl : List Nat) (key s : Nat → Nat) (h0 : 0 < N) (hN : 3 * N + 28 ≤ 52) (hl : kl.length = 4 * N) (hk : ∀ x, x < 4 * N → key x = lst kl x) (hb : ∀ i, i < 16 → s i = lst bl i) (i : Nat) (hi : i < 16) :
    sealA (N + 6) (keyW N key) s i = lst (evalSeal N kl bl) i := by
  obtain ⟨W, h1, h2, h3⟩ := evalK_ok N key h0 (fun W => strictL ((List.range 16).map fun i => lst bl i ^^^ lst W i) fun l => evalR (N + 6) W (N + 6) 0 l id) (3 * N + 28) 0 kl (by omega) (fun x hx => (hk x (by omega)).symm)
  unfold evalSeal
  rw [Nat.add_zero N] at h1
  rw [h1]
  simp only [strictL_eq]
  obtain ⟨l', h4, h5⟩ := evalR_ok (N + 6) W (lst bl) id (N + 6) 0 ((List.range 16).map fun i => lst bl i ^^^ lst W i) (fun i hi => by rw [lst_map _ i hi]; rfl)
  rw [h4]
  show _ = lst l' i
  rw [h5 i hi, Nat.zero_add]
  refine sealA_congr (N + 6) (fun x hx => ?_) hb i hi
  have h6 := kW_stable N key (3 * N + 28) x (by omega) (52 - (3 * N + 28))
  rw [show 3 * N + 28 + (52 - (3 * N + 28)) = 52 by omega] at h6
  rw [h3 x (by omega), Nat.zero_add]
  exact h6

def key16L : List Nat := [0, 1, 2, 3, 4, 5, 6, 7, 8, 9, 10, 11, 12, 13, 14, 15]
def key32L : List Nat := [0, 1, 2, 3, 4, 5, 6, 7, 8, 9, 10, 11, 12, 13, 14, 15, 16, 17, 18, 19, 20, 21, 22, 23, 24, 25, 26, 27, 28, 29, 30, 31]
def blkL : List Nat := [0, 17, 34, 51, 68, 85, 102, 119, 136, 153, 170, 187, 204, 221, 238, 255]
def ct16L : List Nat := [105, 196, 224, 216, 106, 123, 4, 48, 216, 205, 183, 128, 112, 180, 197, 90]
def ct32L : List Nat := [142, 162, 183, 202, 81, 103, 69, 191, 234, 252, 73, 144, 75, 73, 96, 137]
set_option maxRecDepth 100000 in
theorem ct16_val : evalSeal 4 key16L blkL = ct16L := by kernel_rfl
set_option maxRecDepth 100000 in
theorem ct32_val : evalSeal 8 key32L blkL = ct32L := by kernel_rfl

end Go.Proofs.YtlfopcigbgfnlaaDoor
