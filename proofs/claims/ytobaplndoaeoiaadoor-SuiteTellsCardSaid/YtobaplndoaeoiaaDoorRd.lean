/-
  Slices of bytes that are read, or handed back; whether two have the same bytes.
-/
import Derived.Test.YtobaplndoaeoiaaDoorShaSpec
namespace Go.Proofs.YtobaplndoaeoiaaDoor
open Go.RowKit

/-- L bytes that can be read, below block B. -/
structure Rd (w : World) (B : Nat) (a : Option Addr) (L : Nat) (g : Nat → Nat) : Prop where
  ex : 0 < L → ∃ tb o, a = some ⟨tb, o, none⟩ ∧ tb < B ∧ ∀ i, i < L → w.cell? ⟨tb, o + i, none⟩ = some (.int .u8 (g i))
theorem Rd.grown {w w' : World} {B : Nat} {a : Option Addr} {L : Nat} {g : Nat → Nat} (h : Rd w B a L g) {row : Option Nat} (hg : w.grownBy w' row) (hr : ∀ k, row = some k → B ≤ k) : Rd w' B a L g where
  ex := fun hL => by
    obtain ⟨tb, o, h1, h2, h3⟩ := h.ex hL
    exact ⟨tb, o, h1, h2, fun i hi => hg.cell (h3 i hi) (fun e => by have := hr tb e.symm; omega)⟩
theorem Rd.mono {w : World} {B B' : Nat} {a : Option Addr} {L : Nat} {g : Nat → Nat} (h : Rd w B a L g) (hB : B ≤ B') : Rd w B' a L g where
  ex := fun hL => by
    obtain ⟨tb, o, h1, h2, h3⟩ := h.ex hL
    exact ⟨tb, o, h1, by omega, h3⟩
theorem Rd.of_block {w w' : World} {B : Nat} {a : Option Addr} {L : Nat} {g : Nat → Nat} (h : Rd w B a L g) (e : ∀ k, k < B → w'.heap[k]? = w.heap[k]?) : Rd w' B a L g where
  ex := fun hL => by
    obtain ⟨tb, o, h1, h2, h3⟩ := h.ex hL
    exact ⟨tb, o, h1, h2, fun i hi => (World.cell?_of_block (a := ⟨tb, o + i, none⟩) (e tb h2)).trans (h3 i hi)⟩
theorem Rd.congr {w : World} {B : Nat} {a : Option Addr} {L : Nat} {g g' : Nat → Nat} (h : Rd w B a L g) (e : ∀ i, i < L → g i = g' i) : Rd w B a L g' where
  ex := fun hL => by
    obtain ⟨tb, o, h1, h2, h3⟩ := h.ex hL
    exact ⟨tb, o, h1, h2, fun i hi => by rw [← e i hi]; exact h3 i hi⟩
theorem Holds.rd {w : World} {r T n : Nat} {f : Nat → Nat} (h : Holds w r T .u8 n f) (B : Nat) (hB : r < B) (L : Nat) (hL : L ≤ n) : Rd w B (some ⟨r, 0, none⟩) L f where
  ex := fun _ => ⟨r, 0, rfl, hB, fun i hi => by rw [Nat.zero_add]; exact h.cell i (by omega)⟩

/-- What is handed back: S bytes of a new block. -/
structure Gave (w : World) (T S : Nat) (f : Nat → Nat) (e : Ending) (w' : World) : Prop where
  ex : ∃ r, e = .returned (.slice (some ⟨r, 0, none⟩) S S) ∧ w.heap.size ≤ r ∧ Holds w' r T .u8 S f ∧ w.grownBy w' none

/-- Bits by which two rows of bytes are unlike. -/
def unl (f g : Nat → Nat) : Nat → Nat
  | 0 => 0
  | i + 1 => unl f g i ||| (f i ^^^ g i)
theorem unl_lt (f g : Nat → Nat) (hf : ∀ i, f i < 256) (hg : ∀ i, g i < 256) : ∀ n, unl f g n < 256
  | 0 => by simp [unl]
  | n + 1 => Nat.or_lt_two_pow (n := 8) (unl_lt f g hf hg n) (Nat.xor_lt_two_pow (n := 8) (hf n) (hg n))
theorem or_eq_zero (a b : Nat) : a ||| b = 0 ↔ a = 0 ∧ b = 0 := Nat.or_eq_zero_iff
theorem xor_eq_zero (a b : Nat) : a ^^^ b = 0 ↔ a = b := by
  constructor
  · intro h
    have e : a ^^^ b ^^^ b = 0 ^^^ b := by rw [h]
    rwa [Nat.xor_assoc, Nat.xor_self, Nat.xor_zero, Nat.zero_xor] at e
  · rintro rfl; exact Nat.xor_self a
theorem beq_zero_cast (x : Nat) : ((x : Int) == 0) = (x == 0) := by
  rw [Bool.eq_iff_iff]; simp
theorem ret_bool {a b : Bool} (h : a = b) : Ending.returned (.bool a) = .returned (.bool b) := by rw [h]
theorem unl_zero (f g : Nat → Nat) : ∀ n, unl f g n = 0 ↔ ∀ i, i < n → f i = g i
  | 0 => by simp [unl]
  | n + 1 => by
    simp only [unl]
    rw [or_eq_zero, xor_eq_zero, unl_zero f g n]
    constructor
    · rintro ⟨h1, h2⟩ i hi
      by_cases e : i = n
      · subst e; exact h2
      · exact h1 i (by omega)
    · intro h
      exact ⟨fun i hi => h i (by omega), h n (by omega)⟩
/-- Whether two rows of bytes are the same. -/
def sameB (n m : Nat) (f g : Nat → Nat) : Bool := n == m && unl f g n == 0
theorem sameB_iff (n m : Nat) (f g : Nat → Nat) : sameB n m f g = true ↔ n = m ∧ ∀ i, i < n → f i = g i := by
  simp [sameB, unl_zero]

theorem bits_xor_u8 (a b : Nat) (ha : a < 256) (hb : b < 256) : bits .xor .u8 (a : Int) (b : Int) = ((a ^^^ b : Nat) : Int) := by
  show IntKind.u8.wrap ((BitVec.ofInt 8 (a : Int) ^^^ BitVec.ofInt 8 (b : Int)).toNat : Int) = _
  have h : a ^^^ b < 2 ^ 8 := Nat.xor_lt_two_pow (n := 8) ha hb
  rw [BitVec.toNat_xor, toNat_ofInt 8 a ha, toNat_ofInt 8 b hb, IntKind.wrap_u8]
  omega
theorem bits_or_u8 (a b : Nat) (ha : a < 256) (hb : b < 256) : bits .or .u8 (a : Int) (b : Int) = ((a ||| b : Nat) : Int) := by
  show IntKind.u8.wrap ((BitVec.ofInt 8 (a : Int) ||| BitVec.ofInt 8 (b : Int)).toNat : Int) = _
  have h : a ||| b < 2 ^ 8 := Nat.or_lt_two_pow (n := 8) ha hb
  rw [BitVec.toNat_or, toNat_ofInt 8 a ha, toNat_ofInt 8 b hb, IntKind.wrap_u8]
  omega

end Go.Proofs.YtobaplndoaeoiaaDoor
