/-
  The document's own functions of layer 1: powers of two.
-/
import Derived.Test.YtopepbkpcfbegaaDoorLeaf
import Derived.Test.YtopepbkpcfbegaaDoorCells
import Derived.Deep.QuietTactic
import Derived.BigQuiet
import Derived.Deep.Draws
namespace Go.Proofs.YtopepbkpcfbegaaDoor
open Go.RowKit

set_option maxRecDepth 100000
set_option maxHeartbeats 1000000

theorem power_any (x : Int) (n P : Nat) (hx : x = n) (hn : n < 64) (hP : P = 2 ^ n) (w : World) : Calls Tryd.prog 53 #[.int .i64 x] w fun e w' => e = .returned (.int .u64 P) ∧ w = w' := by
  subst hx
  have HP := Lib.hid hP
  clear hP
  go_enter Tryd.func53, Tryd.ntmps53
  go_wp2_with fail
  go_loop [3, 4] (fun u3 u4 => ∃ (k p : Nat), k ≤ n ∧ u4 = .int .i64 k ∧ u3 = .int .u64 p ∧ Hid (p = 2 ^ k)) (fun _ u4 => n - (intOf u4).toNat)
  case atStart => exact ⟨0, 1, by omega, rfl, rfl, rfl⟩
  case round =>
    obtain ⟨k, p, hk, rfl, rfl, hp⟩ := hrel
    by_cases hlt : k < n
    · have i1 : (k : Int) < n := by omega
      have hb : p ≤ 2 ^ 62 := by rw [hp.out]; exact Nat.pow_le_pow_right (by decide) (by omega)
      have e1 : IntKind.u64.wrap (2 * (p : Int)) = ((2 * p : Nat) : Int) := by rw [IntKind.wrap_u64]; omega
      have HB := Lib.hid hb
      clear hb
      go_wp2_with fail
      refine ⟨⟨k + 1, 2 * p, by omega, by go_num, by go_num, Lib.hid (by rw [hp.out, Nat.pow_succ, Nat.mul_comm])⟩, by simp [intOf]; omega⟩
    · have hE : k = n := by omega
      have i1 : (n : Int) ≤ k := by omega
      have HE := Lib.hid hE
      clear hE hlt hk
      go_wp2_with fail
      go_ret
      have e : p = P := by rw [hp.out, HE.out, HP.out]
      exact ⟨by rw [← e]; rfl, rfl⟩

theorem or_add (a c n : Nat) (hc : c < 2 ^ n) : a * 2 ^ n ||| c = a * 2 ^ n + c := by
  have := Nat.shiftLeft_add_eq_or_of_lt (b := c) (i := n) hc a
  rw [Nat.shiftLeft_eq] at this
  exact this.symm

/-- To the right, round about, by a quotient and what is left. -/
theorem rotr_add (b x n : Nat) (hx : x < 2 ^ b) (hn : n ≤ b) : x / 2 ^ n + x * 2 ^ (b - n) % 2 ^ b = rotr b x n := by
  have e1 : 2 ^ b = 2 ^ n * 2 ^ (b - n) := by rw [← Nat.pow_add]; congr 1; omega
  have e2 : x * 2 ^ (b - n) % 2 ^ b = x % 2 ^ n * 2 ^ (b - n) := by rw [e1, Nat.mul_mod_mul_right]
  have h1 : x / 2 ^ n < 2 ^ (b - n) := by
    rw [Nat.div_lt_iff_lt_mul (Nat.two_pow_pos n), Nat.mul_comm, ← e1]; exact hx
  unfold rotr
  rw [e2, Nat.or_comm, or_add _ _ _ h1, Nat.add_comm]

end Go.Proofs.YtopepbkpcfbegaaDoor
