/-
  Fields that come in, of whatever size a machine may have; those that are few.
-/
import Derived.Test.YtpkeolggehjjlaaWireF
namespace Go.Proofs.Ytpkeolggehjjlaa
open Go.RowKit

set_option maxRecDepth 100000

/-- What is known of a field that comes in. -/
structure FV.OkW (x : FV) : Prop where
  k : x.k < 256
  n : x.n < 18446744073709551616
  fb : ∀ i, x.fb i < 256
  fl : ∀ i, x.fl i < 4294967296
  lb : x.nb ≤ 140737488355328
  ll : x.nl ≤ 140737488355328
  mlo : -9223372036854775808 ≤ x.m
  mhi : x.m < 9223372036854775808
structure FldsW (W : World) (D : Nat) (a : Option Addr) (n : Nat) (X : Nat → FV) : Prop where
  ex : 0 < n → ∃ tb o, a = some ⟨tb, o, none⟩ ∧ tb < D ∧ ∀ i, i < n → FAt W tb (o + i * 5) (X i)
  mem : ∀ i, i < n → (X i).Mem W D
  ok : ∀ i, (X i).OkW
/-- What is gone through, of the first ones. -/
def grS (X : Nat → FV) : Nat → Nat
  | 0 => 0
  | i + 1 => grS X i + 1 + (X i).nb / 8 + (X i).nl
theorem grS_mono (X : Nat → FV) (i : Nat) : ∀ n, i ≤ n → grS X i ≤ grS X n
  | 0, h => by
    obtain rfl : i = 0 := by omega
    exact Nat.le_refl _
  | n + 1, h => by
    by_cases e : i = n + 1
    · rw [e]; exact Nat.le_refl _
    · have h1 := grS_mono X i n (by omega)
      show grS X i ≤ grS X n + 1 + (X n).nb / 8 + (X n).nl
      omega
theorem grS_ge (X : Nat → FV) : ∀ n, n ≤ grS X n
  | 0 => Nat.zero_le _
  | n + 1 => by
    have h1 := grS_ge X n
    show n + 1 ≤ grS X n + 1 + (X n).nb / 8 + (X n).nl
    omega
/-- No field. -/
def fvZ : FV := ⟨0, 0, none, 0, 0, fun _ => 0, none, 0, 0, fun _ => 0, 0⟩
theorem fvZ_ok : fvZ.Ok := ⟨by decide, by decide, fun _ => (by decide : (0 : Nat) < 256), fun _ => (by decide : (0 : Nat) < 4294967296), by decide, by decide, by decide, by decide⟩
/-- The first n of them. -/
def cutX (n : Nat) (X : Nat → FV) : Nat → FV := fun i => if i < n then X i else fvZ
/-- Fields that are few are small. -/
theorem FldsW.few {W : World} {D n : Nat} {a : Option Addr} {X : Nat → FV} (h : FldsW W D a n X) (hg : grS X n ≤ 3000) : Flds W D a n (cutX n X) ∧ n ≤ 3000 ∧ ∀ i, (cutX n X i).nb ≤ 24007 ∧ (cutX n X i).nl ≤ 3000 := by
  have hsm : ∀ i, i < n → (X i).nb ≤ 24007 ∧ (X i).nl ≤ 3000 := fun i hi => by
    have h1 := grS_mono X (i + 1) n hi
    have h2 : grS X (i + 1) = grS X i + 1 + (X i).nb / 8 + (X i).nl := rfl
    omega
  refine ⟨⟨fun hn => ?_, fun i hi => ?_, fun i => ?_⟩, Nat.le_trans (grS_ge X n) hg, fun i => ?_⟩
  · obtain ⟨tb, o, h1, h2, h3⟩ := h.ex hn
    refine ⟨tb, o, h1, h2, fun i hi => ?_⟩
    unfold cutX
    rw [if_pos hi]; exact h3 i hi
  · unfold cutX
    rw [if_pos hi]; exact h.mem i hi
  · unfold cutX
    by_cases hi : i < n
    · rw [if_pos hi]
      have h1 := h.ok i
      have h2 := hsm i hi
      exact ⟨h1.k, h1.n, h1.fb, h1.fl, by omega, by omega, h1.mlo, h1.mhi⟩
    · rw [if_neg hi]; exact fvZ_ok
  · unfold cutX
    by_cases hi : i < n
    · rw [if_pos hi]; exact hsm i hi
    · rw [if_neg hi]; exact ⟨Nat.zero_le _, Nat.zero_le _⟩
end Go.Proofs.Ytpkeolggehjjlaa
