/-
  The curve's steps on numbers modulo 2^255 - 19, and how the kernel reckons them. No program is named here.
-/
import Derived.Test.YtpnddojcihdniaaFieldInv
namespace Go.Proofs.Ytpnddojcihdniaa

set_option maxRecDepth 100000

/-- Two points, each as one number by another one. -/
structure Lad where
  x2 : Nat
  z2 : Nat
  x3 : Nat
  z3 : Nat
def Lad.swap (l : Lad) : Lad := ⟨l.x3, l.z3, l.x2, l.z2⟩
def stX2 (a b : Nat) : Nat := fMul (fMul a a) (fMul b b)
def stZ2 (a b : Nat) : Nat := fMul (fSub (fMul a a) (fMul b b)) (fAdd (fMul a a) (fMul 121665 (fSub (fMul a a) (fMul b b))))
def stX3 (da cb : Nat) : Nat := fMul (fAdd da cb) (fAdd da cb)
def stZ3 (u da cb : Nat) : Nat := fMul u (fMul (fSub da cb) (fSub da cb))
def Lad.step (u : Nat) (l : Lad) : Lad :=
  ⟨stX2 (fAdd l.x2 l.z2) (fSub l.x2 l.z2), stZ2 (fAdd l.x2 l.z2) (fSub l.x2 l.z2),
   stX3 (fMul (fSub l.x3 l.z3) (fAdd l.x2 l.z2)) (fMul (fAdd l.x3 l.z3) (fSub l.x2 l.z2)), stZ3 u (fMul (fSub l.x3 l.z3) (fAdd l.x2 l.z2)) (fMul (fAdd l.x3 l.z3) (fSub l.x2 l.z2))⟩
/-- One bit's step. -/
def Lad.bit (u b : Nat) (l : Lad) : Lad := if b = 1 then (l.swap.step u).swap else l.step u
/-- Bit i of bytes. -/
def byBit (f : Nat → Nat) (i : Nat) : Nat := f (i / 8) / 2 ^ (i % 8) % 2
/-- The bit that comes as number k. -/
def ldB (f : Nat → Nat) (k : Nat) : Nat := byBit f (254 - k)
def ladF (u : Nat) (bt : Nat → Nat) (l : List Nat) : Lad := l.foldl (fun s k => s.bit u (bt k)) ⟨1, 0, u, 1⟩
theorem ladF_snoc (u : Nat) (bt : Nat → Nat) (l : List Nat) (k : Nat) : ladF u bt (l ++ [k]) = (ladF u bt l).bit u (bt k) := by
  unfold ladF
  rw [List.foldl_append]
  rfl
theorem ladF_congr (u : Nat) (bt bt' : Nat → Nat) (l : List Nat) (h : ∀ k, k ∈ l → bt k = bt' k) : ladF u bt l = ladF u bt' l := by
  unfold ladF
  have key : ∀ (l : List Nat) (s : Lad), (∀ k, k ∈ l → bt k = bt' k) → l.foldl (fun s k => s.bit u (bt k)) s = l.foldl (fun s k => s.bit u (bt' k)) s := by
    intro l
    induction l with
    | nil => intro _ _; rfl
    | cons x l ih =>
      intro s h
      show l.foldl _ (s.bit u (bt x)) = l.foldl _ (s.bit u (bt' x))
      rw [h x (by simp), ih _ (fun k hk => h k (by simp [hk]))]
  exact key l _ h
/-- The scalar's bytes as its number has them. -/
def clampF (f : Nat → Nat) (i : Nat) : Nat := if i = 0 then f 0 / 8 * 8 else if i = 31 then f 31 % 64 + 64 else f i
theorem clampF_lt (f : Nat → Nat) (hf : ∀ i, f i < 256) (i : Nat) : clampF f i < 256 := by
  unfold clampF
  have h0 := hf 0
  have h1 := hf 31
  have h2 := hf i
  split
  · omega
  · split
    · omega
    · exact h2
/-- What the scalar and the number come to. -/
def timesF (f : Nat → Nat) (u : Nat) : Nat := fMul (ladF u (ldB f) (List.range 255)).x2 (fInv (ladF u (ldB f) (List.range 255)).z2)
theorem timesF_lt (f : Nat → Nat) (u : Nat) : timesF f u < pF := Nat.mod_lt _ pF_pos
theorem timesF_congr (f g : Nat → Nat) (u : Nat) (h : ∀ i, i < 32 → f i = g i) : timesF f u = timesF g u := by
  unfold timesF
  rw [ladF_congr u (ldB f) (ldB g) (List.range 255) (fun k hk => by
    unfold ldB byBit
    rw [h _ (by omega)])]
theorem fMul_comm (a b : Nat) : fMul a b = fMul b a := by unfold fMul; rw [Nat.mul_comm]

/-! The kernel's reckoning: each number is reckoned before it goes on. -/
def strict {α : Type} (n : Nat) (k : Nat → α) : α := Nat.rec (motive := fun _ => α) (k 0) (fun m _ => k (Nat.succ m)) n
theorem strict_eq {α : Type} (n : Nat) (k : Nat → α) : strict n k = k n := by cases n <;> rfl
def stepK (u x2 z2 x3 z3 : Nat) (K : Nat → Nat → Nat → Nat → Bool) : Bool :=
  strict (fAdd x2 z2) fun a => strict (fSub x2 z2) fun b => strict (fMul a a) fun aa => strict (fMul b b) fun bb => strict (fSub aa bb) fun e =>
  strict (fMul (fSub x3 z3) a) fun da => strict (fMul (fAdd x3 z3) b) fun cb => strict (fAdd da cb) fun s => strict (fSub da cb) fun d =>
  strict (fMul aa bb) fun y2 => strict (fMul e (fAdd aa (fMul 121665 e))) fun w2 => strict (fMul s s) fun y3 => strict (fMul u (fMul d d)) fun w3 => K y2 w2 y3 w3
theorem stepK_eq (u x2 z2 x3 z3 : Nat) (K : Nat → Nat → Nat → Nat → Bool) : stepK u x2 z2 x3 z3 K = K (Lad.step u ⟨x2, z2, x3, z3⟩).x2 (Lad.step u ⟨x2, z2, x3, z3⟩).z2 (Lad.step u ⟨x2, z2, x3, z3⟩).x3 (Lad.step u ⟨x2, z2, x3, z3⟩).z3 := by
  unfold stepK
  simp only [strict_eq]
  rfl
def bitK (u b x2 z2 x3 z3 : Nat) (K : Nat → Nat → Nat → Nat → Bool) : Bool :=
  bif b == 1 then stepK u x3 z3 x2 z2 (fun p q r s => K r s p q) else stepK u x2 z2 x3 z3 K
theorem bitK_eq (u b : Nat) (l : Lad) (K : Nat → Nat → Nat → Nat → Bool) : bitK u b l.x2 l.z2 l.x3 l.z3 K = K (l.bit u b).x2 (l.bit u b).z2 (l.bit u b).x3 (l.bit u b).z3 := by
  unfold bitK Lad.bit
  by_cases e : b = 1
  · subst e
    exact stepK_eq u l.x3 l.z3 l.x2 l.z2 _
  · rw [if_neg e, show (b == 1) = false from beq_eq_false_iff_ne.2 e]
    exact stepK_eq u l.x2 l.z2 l.x3 l.z3 K
/-- The bits of a list of noughts and ones, one by one. -/
def ladK (u : Nat) (K : Nat → Nat → Bool) : List Nat → Nat → Nat → Nat → Nat → Bool
  | [], x2, z2, _, _ => K x2 z2
  | b :: bs, x2, z2, x3, z3 => bitK u b x2 z2 x3 z3 (fun p q r s => ladK u K bs p q r s)
theorem ladK_eq (u : Nat) (K : Nat → Nat → Bool) (bt : Nat → Nat) : ∀ (l : List Nat) (s : Lad), ladK u K (l.map bt) s.x2 s.z2 s.x3 s.z3 = K (l.foldl (fun s k => s.bit u (bt k)) s).x2 (l.foldl (fun s k => s.bit u (bt k)) s).z2
  | [], _ => rfl
  | x :: l, s => by
    show bitK u (bt x) s.x2 s.z2 s.x3 s.z3 _ = _
    rw [bitK_eq]
    exact ladK_eq u K bt l (s.bit u (bt x))
/-- Bytes of which the first one counts least, as their number. -/
theorem quot_of (x z y : Nat) (hz : z % pF ≠ 0) (hy : y < pF) (h : fMul y z = x) : fMul x (fInv z) = y := by
  have h1 := fInv_mul z hz
  subst h
  unfold fMul at h1 ⊢
  rw [Nat.mod_mul_mod, Nat.mul_assoc, Nat.mul_mod, h1, Nat.mul_one, Nat.mod_mod, Nat.mod_eq_of_lt hy]
theorem timesF_of (f : Nat → Nat) (u y : Nat) (bs : List Nat) (hb : (List.range 255).map (ldB f) = bs) (hy : y < pF) (h : ladK u (fun x z => (fMul y z == x) && (z % pF != 0)) bs 1 0 u 1 = true) : timesF f u = y := by
  subst hb
  have := ladK_eq u (fun x z => (fMul y z == x) && (z % pF != 0)) (ldB f) (List.range 255) ⟨1, 0, u, 1⟩
  rw [this] at h
  simp only [Bool.and_eq_true, beq_iff_eq, bne_iff_ne, ne_eq] at h
  exact quot_of _ _ y h.2 hy h.1
theorem timesF_zero (f : Nat → Nat) (u : Nat) (bs : List Nat) (hb : (List.range 255).map (ldB f) = bs) (h : ladK u (fun _ z => z == 0) bs 1 0 u 1 = true) : timesF f u = 0 := by
  subst hb
  have := ladK_eq u (fun _ z => z == 0) (ldB f) (List.range 255) ⟨1, 0, u, 1⟩
  rw [this] at h
  unfold timesF
  have h0 : (ladF u (ldB f) (List.range 255)).z2 = 0 := eq_of_beq h
  rw [fInv_of_zero _ h0]
  rfl
end Go.Proofs.Ytpnddojcihdniaa
