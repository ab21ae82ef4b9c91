/-
  Plain mathematics of SHA-256 and SHA-512: words of b bits as natural numbers; no program is named here.
-/
import Derived.WalkKit
import Derived.Laws.Bits64
import Derived.Deep.Quiet
import Derived.Laws.BitsLemmas
namespace Go.Proofs.YtobaplndoaeoiaaDoor

/-- A word of b bits, turned to the right by n places. -/
def rotr (b x n : Nat) : Nat := x / 2 ^ n ||| x * 2 ^ (b - n) % 2 ^ b

theorem rotr_lt (b x n : Nat) (hx : x < 2 ^ b) : rotr b x n < 2 ^ b := by
  unfold rotr
  exact Nat.or_lt_two_pow (Nat.lt_of_le_of_lt (Nat.div_le_self _ _) hx) (Nat.mod_lt _ (Nat.two_pow_pos b))

theorem toNat_ofInt (k : Nat) (a : Nat) (ha : a < 2 ^ k) : (BitVec.ofInt k (a : Int)).toNat = a := by
  rw [BitVec.ofInt_natCast, BitVec.toNat_ofNat]; exact Nat.mod_eq_of_lt ha

theorem wrap_u32_nat (a : Nat) (ha : a < 2 ^ 32) : IntKind.u32.wrap (a : Int) = (a : Int) := by rw [IntKind.wrap_u32]; omega
theorem wrap_u64_nat (a : Nat) (ha : a < 2 ^ 64) : IntKind.u64.wrap (a : Int) = (a : Int) := by rw [IntKind.wrap_u64]; omega

section u32
variable (a b : Nat) (ha : a < 2 ^ 32) (hb : b < 2 ^ 32)
include ha hb
theorem bits_and_u32 : bits .and .u32 (a : Int) (b : Int) = ((a &&& b : Nat) : Int) := by
  show IntKind.u32.wrap ((BitVec.ofInt 32 (a : Int) &&& BitVec.ofInt 32 (b : Int)).toNat : Int) = _
  rw [BitVec.toNat_and, toNat_ofInt 32 a ha, toNat_ofInt 32 b hb, wrap_u32_nat _ (Nat.and_lt_two_pow _ hb)]
theorem bits_or_u32 : bits .or .u32 (a : Int) (b : Int) = ((a ||| b : Nat) : Int) := by
  show IntKind.u32.wrap ((BitVec.ofInt 32 (a : Int) ||| BitVec.ofInt 32 (b : Int)).toNat : Int) = _
  rw [BitVec.toNat_or, toNat_ofInt 32 a ha, toNat_ofInt 32 b hb, wrap_u32_nat _ (Nat.or_lt_two_pow ha hb)]
theorem bits_xor_u32 : bits .xor .u32 (a : Int) (b : Int) = ((a ^^^ b : Nat) : Int) := by
  show IntKind.u32.wrap ((BitVec.ofInt 32 (a : Int) ^^^ BitVec.ofInt 32 (b : Int)).toNat : Int) = _
  rw [BitVec.toNat_xor, toNat_ofInt 32 a ha, toNat_ofInt 32 b hb, wrap_u32_nat _ (Nat.xor_lt_two_pow ha hb)]
end u32
section u64
variable (a b : Nat) (ha : a < 2 ^ 64) (hb : b < 2 ^ 64)
include ha hb
theorem bits_and_u64 : bits .and .u64 (a : Int) (b : Int) = ((a &&& b : Nat) : Int) := by
  show IntKind.u64.wrap ((BitVec.ofInt 64 (a : Int) &&& BitVec.ofInt 64 (b : Int)).toNat : Int) = _
  rw [BitVec.toNat_and, toNat_ofInt 64 a ha, toNat_ofInt 64 b hb, wrap_u64_nat _ (Nat.and_lt_two_pow _ hb)]
theorem bits_or_u64 : bits .or .u64 (a : Int) (b : Int) = ((a ||| b : Nat) : Int) := by
  show IntKind.u64.wrap ((BitVec.ofInt 64 (a : Int) ||| BitVec.ofInt 64 (b : Int)).toNat : Int) = _
  rw [BitVec.toNat_or, toNat_ofInt 64 a ha, toNat_ofInt 64 b hb, wrap_u64_nat _ (Nat.or_lt_two_pow ha hb)]
theorem bits_xor_u64 : bits .xor .u64 (a : Int) (b : Int) = ((a ^^^ b : Nat) : Int) := by
  show IntKind.u64.wrap ((BitVec.ofInt 64 (a : Int) ^^^ BitVec.ofInt 64 (b : Int)).toNat : Int) = _
  rw [BitVec.toNat_xor, toNat_ofInt 64 a ha, toNat_ofInt 64 b hb, wrap_u64_nat _ (Nat.xor_lt_two_pow ha hb)]
end u64

/-- What the count of a turn is cut to. -/
theorem and31 (n : Nat) (h : n < 32) : bits .and .u64 (n : Int) 31 = (n : Int) := by
  have := bits_and_u64 n 31 (by omega) (by decide)
  rw [show ((31 : Nat) : Int) = 31 from rfl] at this
  rw [this, show (31 : Nat) = 2 ^ 5 - 1 from rfl, Nat.and_two_pow_sub_one_eq_mod, Nat.mod_eq_of_lt h]
theorem and63 (n : Nat) (h : n < 64) : bits .and .u64 (n : Int) 63 = (n : Int) := by
  have := bits_and_u64 n 63 (by omega) (by decide)
  rw [show ((63 : Nat) : Int) = 63 from rfl] at this
  rw [this, show (63 : Nat) = 2 ^ 6 - 1 from rfl, Nat.and_two_pow_sub_one_eq_mod, Nat.mod_eq_of_lt h]
theorem neg_and31 (n : Nat) (h0 : 0 < n) (h : n < 32) : bits .and .u64 (IntKind.u64.wrap (-(n : Int))) 31 = ((32 - n : Nat) : Int) := by
  have e : IntKind.u64.wrap (-(n : Int)) = ((2 ^ 64 - n : Nat) : Int) := by rw [IntKind.wrap_u64]; omega
  rw [e]
  have := bits_and_u64 (2 ^ 64 - n) 31 (by omega) (by decide)
  rw [show ((31 : Nat) : Int) = 31 from rfl] at this
  rw [this, show (31 : Nat) = 2 ^ 5 - 1 from rfl, Nat.and_two_pow_sub_one_eq_mod]
  omega
theorem neg_and63 (n : Nat) (h0 : 0 < n) (h : n < 64) : bits .and .u64 (IntKind.u64.wrap (-(n : Int))) 63 = ((64 - n : Nat) : Int) := by
  have e : IntKind.u64.wrap (-(n : Int)) = ((2 ^ 64 - n : Nat) : Int) := by rw [IntKind.wrap_u64]; omega
  rw [e]
  have := bits_and_u64 (2 ^ 64 - n) 63 (by omega) (by decide)
  rw [show ((63 : Nat) : Int) = 63 from rfl] at this
  rw [this, show (63 : Nat) = 2 ^ 6 - 1 from rfl, Nat.and_two_pow_sub_one_eq_mod]
  omega

theorem rotr_u32 (x n : Nat) (hx : x < 2 ^ 32) : bits .or .u32 ((x : Int) / 2 ^ n) (IntKind.u32.wrap ((x : Int) * 2 ^ (32 - n))) = ((rotr 32 x n : Nat) : Int) := by
  have e1 : ((x : Int) / 2 ^ n) = ((x / 2 ^ n : Nat) : Int) := by simp
  have e2 : IntKind.u32.wrap ((x : Int) * 2 ^ (32 - n)) = ((x * 2 ^ (32 - n) % 2 ^ 32 : Nat) : Int) := by rw [IntKind.wrap_u32]; simp
  rw [e1, e2, bits_or_u32 _ _ (Nat.lt_of_le_of_lt (Nat.div_le_self _ _) hx) (Nat.mod_lt _ (by decide))]; rfl
theorem rotr_u64 (x n : Nat) (hx : x < 2 ^ 64) : bits .or .u64 ((x : Int) / 2 ^ n) (IntKind.u64.wrap ((x : Int) * 2 ^ (64 - n))) = ((rotr 64 x n : Nat) : Int) := by
  have e1 : ((x : Int) / 2 ^ n) = ((x / 2 ^ n : Nat) : Int) := by simp
  have e2 : IntKind.u64.wrap ((x : Int) * 2 ^ (64 - n)) = ((x * 2 ^ (64 - n) % 2 ^ 64 : Nat) : Int) := by rw [IntKind.wrap_u64]; simp
  rw [e1, e2, bits_or_u64 _ _ (Nat.lt_of_le_of_lt (Nat.div_le_self _ _) hx) (Nat.mod_lt _ (by decide))]; rfl

/-- A and E of a word; U and V of a word. -/
def turned (b x p q r : Nat) : Nat := rotr b x p ^^^ rotr b x q ^^^ rotr b x r
def shifted (b x p q r : Nat) : Nat := rotr b x p ^^^ rotr b x q ^^^ x / 2 ^ r

theorem turned_lt (b x p q r : Nat) (hx : x < 2 ^ b) : turned b x p q r < 2 ^ b :=
  Nat.xor_lt_two_pow (Nat.xor_lt_two_pow (rotr_lt b x p hx) (rotr_lt b x q hx)) (rotr_lt b x r hx)
theorem shifted_lt (b x p q r : Nat) (hx : x < 2 ^ b) : shifted b x p q r < 2 ^ b :=
  Nat.xor_lt_two_pow (Nat.xor_lt_two_pow (rotr_lt b x p hx) (rotr_lt b x q hx)) (Nat.lt_of_le_of_lt (Nat.div_le_self _ _) hx)

theorem turned_u32 (x p q r : Nat) (hx : x < 2 ^ 32) : bits .xor .u32 (bits .xor .u32 (rotr 32 x p : Nat) (rotr 32 x q : Nat)) (rotr 32 x r : Nat) = ((turned 32 x p q r : Nat) : Int) := by
  rw [bits_xor_u32 _ _ (rotr_lt 32 x p hx) (rotr_lt 32 x q hx), bits_xor_u32 _ _ (Nat.xor_lt_two_pow (rotr_lt 32 x p hx) (rotr_lt 32 x q hx)) (rotr_lt 32 x r hx)]; rfl
theorem shifted_u32 (x p q r : Nat) (hx : x < 2 ^ 32) : bits .xor .u32 (bits .xor .u32 (rotr 32 x p : Nat) (rotr 32 x q : Nat)) ((x : Int) / 2 ^ r) = ((shifted 32 x p q r : Nat) : Int) := by
  have e1 : ((x : Int) / 2 ^ r) = ((x / 2 ^ r : Nat) : Int) := by simp
  rw [e1, bits_xor_u32 _ _ (rotr_lt 32 x p hx) (rotr_lt 32 x q hx), bits_xor_u32 _ _ (Nat.xor_lt_two_pow (rotr_lt 32 x p hx) (rotr_lt 32 x q hx)) (Nat.lt_of_le_of_lt (Nat.div_le_self _ _) hx)]; rfl

theorem turned_u64 (x p q r : Nat) (hx : x < 2 ^ 64) : bits .xor .u64 (bits .xor .u64 (rotr 64 x p : Nat) (rotr 64 x q : Nat)) (rotr 64 x r : Nat) = ((turned 64 x p q r : Nat) : Int) := by
  rw [bits_xor_u64 _ _ (rotr_lt 64 x p hx) (rotr_lt 64 x q hx), bits_xor_u64 _ _ (Nat.xor_lt_two_pow (rotr_lt 64 x p hx) (rotr_lt 64 x q hx)) (rotr_lt 64 x r hx)]; rfl
theorem shifted_u64 (x p q r : Nat) (hx : x < 2 ^ 64) : bits .xor .u64 (bits .xor .u64 (rotr 64 x p : Nat) (rotr 64 x q : Nat)) ((x : Int) / 2 ^ r) = ((shifted 64 x p q r : Nat) : Int) := by
  have e1 : ((x : Int) / 2 ^ r) = ((x / 2 ^ r : Nat) : Int) := by simp
  rw [e1, bits_xor_u64 _ _ (rotr_lt 64 x p hx) (rotr_lt 64 x q hx), bits_xor_u64 _ _ (Nat.xor_lt_two_pow (rotr_lt 64 x p hx) (rotr_lt 64 x q hx)) (Nat.lt_of_le_of_lt (Nat.div_le_self _ _) hx)]; rfl

theorem ret_int {k : IntKind} {a b : Int} (h : a = b) : Ending.returned (.int k a) = .returned (.int k b) := by rw [h]

/-- Draws turn no block. -/
theorem grown_drewN {w w' : World} {row : Option Nat} (h : w.grownBy w' row) (n : Nat) : w.grownBy (w'.drewN n) row := ⟨h.os, h.tape, h.output, h.size, h.block⟩
theorem grown_refl (w : World) (row : Option Nat) : w.grownBy w row := ⟨rfl, rfl, rfl, Nat.le_refl _, fun _ _ _ => rfl⟩
theorem grown_trans {a b c : World} {row : Option Nat} (h : a.grownBy b row) (k : b.grownBy c row) : a.grownBy c row :=
  ⟨k.os.trans h.os, k.tape.trans h.tape, k.output.trans h.output, Nat.le_trans h.size k.size, fun i hi hr => (k.block i (Nat.lt_of_lt_of_le hi h.size) hr).trans (h.block i hi hr)⟩
theorem grown_some {a b : World} {row : Option Nat} (h : a.grownBy b none) : a.grownBy b row :=
  ⟨h.os, h.tape, h.output, h.size, fun i hi _ => h.block i hi (by simp)⟩

end Go.Proofs.YtobaplndoaeoiaaDoor
