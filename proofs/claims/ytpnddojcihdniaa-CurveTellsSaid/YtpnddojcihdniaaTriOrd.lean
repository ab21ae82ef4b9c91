/-
  'x, y, z := f(a), g(b), h(c)': three calls, one behind the other, and three numbers that are made, in whatever order. And two.
-/
import Derived.Test.YtpnddojcihdniaaOrdN
import Derived.Test.YtpnddojcihdniaaFieldCar
namespace Go.Proofs.Ytpnddojcihdniaa
open Go.RowKit

set_option maxRecDepth 100000

def tC (k : Nat) : Nat := 2 * k + 1
def tA (n : Nat) (j : Nat) : Nat := 2 * n + j
def tD (d : Nat) (k : Nat) : Nat := d + 2 * k
def tE (e : Nat) (j : Nat) : Nat := e + j
theorem tD_inj (n d : Nat) (i k : Nat) (_ : i < n) (_ : k < n) : tD d i = tD d k → i = k := by
  unfold tD
  omega
theorem tE_inj (n e : Nat) (i k : Nat) (_ : i < n) (_ : k < n) : tE e i = tE e k → i = k := by
  unfold tE
  omega
theorem tDE (n d e : Nat) (h : e + n ≤ d) (k j : Nat) (_ : k < n) (hj : j < n) : tD d k ≠ tE e j := by
  unfold tD tE
  omega
theorem run_newnum {o : Oper} {a : Act} {W : World} (ho : o.op = .alloc 28) :
    (execOp a.eval o).run Try.prog W = .ok (.value (.pointer (some ⟨W.heap.size, 0, none⟩))) (W.alloc (.cells (cellsOf .u64 5 (fun _ => 0)) 28)) := by
  rw [← zeros5]
  unfold execOp
  simp only [ho]
  go_simp

theorem not_some {p : Nat → Option Nat} {j : Nat} (h : (p j).isSome = false) : p j = none := by
  cases hp : p j with
  | none => rfl
  | some X => rw [hp] at h; cases h

def pick3 {α : Type} (x y z : α) (k : Nat) : α := if k = 0 then x else if k = 1 then y else z
def pick2 {α : Type} (x y : α) (k : Nat) : α := if k = 0 then x else y

/-! Three. -/
def tBits (c : Nat) (x y z : Bool) : Array Bool := #[true, decide (1 ≤ c), true, decide (2 ≤ c), true, decide (3 ≤ c), x, y, z, false, false, false]
def tL (c : Nat) (p : Nat → Option Nat) : Array Bool := tBits c (p 0).isSome (p 1).isSome (p 2).isSome
def tR (c : Nat) (x y z : Bool) : List Nat := (if c < 3 then [tC c] else []) ++ ((if x then [] else [6]) ++ ((if y then [] else [7]) ++ (if z then [] else [8])))
theorem tri_ready {ops : Array Oper} (ht : ((List.range 4).all fun c => [false, true].all fun x => [false, true].all fun y => [false, true].all fun z => (c == 3 && x && y && z) || Region.ready .any ops (tBits c x y z) == tR c x y z) = true)
    (c : Nat) (p : Nat → Option Nat) (hc : c ≤ 3) (hex : c < 3 ∨ ∃ j, j < 3 ∧ p j = none) :
    ∃ rs, Region.ready .any ops (tL c p) = rs ∧ rs ≠ [] ∧ ∀ i ∈ rs, (c < 3 ∧ i = tC c) ∨ (∃ j, j < 3 ∧ p j = none ∧ i = tA 3 j) := by
  have hall : ∀ x y z, (c == 3 && x && y && z) = false → Region.ready .any ops (tBits c x y z) = tR c x y z := fun x y z hf => by
    have h1 := List.all_eq_true.1 ht c (by simp; omega)
    have h2 := List.all_eq_true.1 h1 x (by cases x <;> simp)
    have h3 := List.all_eq_true.1 h2 y (by cases y <;> simp)
    have h4 := List.all_eq_true.1 h3 z (by cases z <;> simp)
    rw [hf] at h4
    simpa using h4
  have hno : (c == 3 && (p 0).isSome && (p 1).isSome && (p 2).isSome) = false := by
    rcases hex with h | ⟨j, hj, hp⟩
    · have : (c == 3) = false := by rw [beq_eq_false_iff_ne]; omega
      rw [this]; rfl
    · obtain rfl | rfl | rfl : j = 0 ∨ j = 1 ∨ j = 2 := by omega
      · rw [hp]; simp
      · rw [hp]; simp
      · rw [hp]; simp
  refine ⟨_, hall _ _ _ hno, ?_, fun i hi => ?_⟩
  · intro he
    unfold tR at he
    simp only [List.append_eq_nil_iff] at he
    obtain ⟨h1, h2, h3, h4⟩ := he
    have hc3 : ¬ c < 3 := fun h => by rw [if_pos h] at h1; cases h1
    have hx : (p 0).isSome = true := by
      cases h : (p 0).isSome with
      | true => rfl
      | false => rw [h] at h2; cases h2
    have hy : (p 1).isSome = true := by
      cases h : (p 1).isSome with
      | true => rfl
      | false => rw [h] at h3; cases h3
    have hz : (p 2).isSome = true := by
      cases h : (p 2).isSome with
      | true => rfl
      | false => rw [h] at h4; cases h4
    rw [hx, hy, hz, show c = 3 by omega] at hno
    cases hno
  · unfold tR at hi
    simp only [List.mem_append] at hi
    rcases hi with h | h | h | h
    · by_cases h3 : c < 3
      · rw [if_pos h3] at h
        exact Or.inl ⟨h3, by simpa using h⟩
      · rw [if_neg h3] at h
        cases h
    · cases hx : (p 0).isSome with
      | true => rw [hx] at h; cases h
      | false =>
        rw [hx] at h
        exact Or.inr ⟨0, by omega, not_some hx, (show i = 6 by simpa using h)⟩
    · cases hx : (p 1).isSome with
      | true => rw [hx] at h; cases h
      | false =>
        rw [hx] at h
        exact Or.inr ⟨1, by omega, not_some hx, (show i = 7 by simpa using h)⟩
    · cases hx : (p 2).isSome with
      | true => rw [hx] at h; cases h
      | false =>
        rw [hx] at h
        exact Or.inr ⟨2, by omega, not_some hx, (show i = 8 by simpa using h)⟩
theorem tri_call (c : Nat) (p : Nat → Option Nat) (hc : c < 3) : (tL c p).setIfInBounds (tC c) true = tL (c + 1) p := by
  obtain rfl | rfl | rfl : c = 0 ∨ c = 1 ∨ c = 2 := by omega
  all_goals rfl
theorem tri_make (c : Nat) (p : Nat → Option Nat) (j X : Nat) (_ : c ≤ 3) (hj : j < 3) : (tL c p).setIfInBounds (tA 3 j) true = tL c (setO p j X) := by
  obtain rfl | rfl | rfl : j = 0 ∨ j = 1 ∨ j = 2 := by omega
  all_goals rfl

/-! Two. -/
def dBits (c : Nat) (x y : Bool) : Array Bool := #[true, decide (1 ≤ c), true, decide (2 ≤ c), x, y, false, false]
def dL (c : Nat) (p : Nat → Option Nat) : Array Bool := dBits c (p 0).isSome (p 1).isSome
def dR (c : Nat) (x y : Bool) : List Nat := (if c < 2 then [tC c] else []) ++ ((if x then [] else [4]) ++ (if y then [] else [5]))
theorem duo_ready {ops : Array Oper} (ht : ((List.range 3).all fun c => [false, true].all fun x => [false, true].all fun y => (c == 2 && x && y) || Region.ready .any ops (dBits c x y) == dR c x y) = true)
    (c : Nat) (p : Nat → Option Nat) (hc : c ≤ 2) (hex : c < 2 ∨ ∃ j, j < 2 ∧ p j = none) :
    ∃ rs, Region.ready .any ops (dL c p) = rs ∧ rs ≠ [] ∧ ∀ i ∈ rs, (c < 2 ∧ i = tC c) ∨ (∃ j, j < 2 ∧ p j = none ∧ i = tA 2 j) := by
  have hall : ∀ x y, (c == 2 && x && y) = false → Region.ready .any ops (dBits c x y) = dR c x y := fun x y hf => by
    have h1 := List.all_eq_true.1 ht c (by simp; omega)
    have h2 := List.all_eq_true.1 h1 x (by cases x <;> simp)
    have h3 := List.all_eq_true.1 h2 y (by cases y <;> simp)
    rw [hf] at h3
    simpa using h3
  have hno : (c == 2 && (p 0).isSome && (p 1).isSome) = false := by
    rcases hex with h | ⟨j, hj, hp⟩
    · have : (c == 2) = false := by rw [beq_eq_false_iff_ne]; omega
      rw [this]; rfl
    · obtain rfl | rfl : j = 0 ∨ j = 1 := by omega
      · rw [hp]; simp
      · rw [hp]; simp
  refine ⟨_, hall _ _ hno, ?_, fun i hi => ?_⟩
  · intro he
    unfold dR at he
    simp only [List.append_eq_nil_iff] at he
    obtain ⟨h1, h2, h3⟩ := he
    have hc3 : ¬ c < 2 := fun h => by rw [if_pos h] at h1; cases h1
    have hx : (p 0).isSome = true := by
      cases h : (p 0).isSome with
      | true => rfl
      | false => rw [h] at h2; cases h2
    have hy : (p 1).isSome = true := by
      cases h : (p 1).isSome with
      | true => rfl
      | false => rw [h] at h3; cases h3
    rw [hx, hy, show c = 2 by omega] at hno
    cases hno
  · unfold dR at hi
    simp only [List.mem_append] at hi
    rcases hi with h | h | h
    · by_cases h3 : c < 2
      · rw [if_pos h3] at h
        exact Or.inl ⟨h3, by simpa using h⟩
      · rw [if_neg h3] at h
        cases h
    · cases hx : (p 0).isSome with
      | true => rw [hx] at h; cases h
      | false =>
        rw [hx] at h
        exact Or.inr ⟨0, by omega, not_some hx, (show i = 4 by simpa using h)⟩
    · cases hx : (p 1).isSome with
      | true => rw [hx] at h; cases h
      | false =>
        rw [hx] at h
        exact Or.inr ⟨1, by omega, not_some hx, (show i = 5 by simpa using h)⟩
theorem duo_call (c : Nat) (p : Nat → Option Nat) (hc : c < 2) : (dL c p).setIfInBounds (tC c) true = dL (c + 1) p := by
  obtain rfl | rfl : c = 0 ∨ c = 1 := by omega
  all_goals rfl
theorem duo_make (c : Nat) (p : Nat → Option Nat) (j X : Nat) (_ : c ≤ 2) (hj : j < 2) : (dL c p).setIfInBounds (tA 2 j) true = dL c (setO p j X) := by
  obtain rfl | rfl : j = 0 ∨ j = 1 := by omega
  all_goals rfl
end Go.Proofs.Ytpnddojcihdniaa
