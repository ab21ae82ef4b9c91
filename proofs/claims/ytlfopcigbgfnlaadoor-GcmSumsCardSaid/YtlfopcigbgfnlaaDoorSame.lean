/-
  Whether two slices of bytes are the same.
-/
import Derived.Test.YtlfopcigbgfnlaaDoorRd
import Derived.Test.YtlfopcigbgfnlaaDoorBase
namespace Go.Proofs.YtlfopcigbgfnlaaDoor
open Go.RowKit

set_option maxRecDepth 100000
set_option maxHeartbeats 1000000

theorem same_any (n m cn cm : Nat) (a b : Option Addr) (f g : Nat → Nat) (B : Nat) (w : World) (ha : Rd w B a n f) (hb : Rd w B b m g) (hf : ∀ i, f i < 256) (hg : ∀ i, g i < 256) (hn : n < 2 ^ 62) (hm : m < 2 ^ 62) :
    Calls Tryd.prog 21 #[.slice a n cn, .slice b m cm] w fun e w' => e = .returned (.bool (sameB n m f g)) ∧ w = w' := by
  have n1 : (n : Int) ≤ 4611686018427387904 := by omega
  by_cases hnm : n = m
  · subst hnm
    have HS : Hid (sameB n n f g = (unl f g n == 0)) := by show _ = _; simp [sameB]
    have e1 : ((n : Int) == (n : Int)) = true := by simp
    have e2 : ((n : Int) != (n : Int)) = false := by simp
    go_enter Tryd.func21, Tryd.ntmps21
    go_wp2_with fail
    go_loop [5, 15] (fun u5 u15 => ∃ i : Nat, i ≤ n ∧ u15 = .int .i64 i ∧ u5 = .int .u8 (unl f g i)) (fun _ u15 => n - (intOf u15).toNat)
    case atStart => exact ⟨0, by omega, rfl, rfl⟩
    case round =>
      obtain ⟨i, hi, rfl, rfl⟩ := hrel
      by_cases hin : i < n
      · obtain ⟨ta, oa, rfl, _, ca⟩ := ha.ex (by omega)
        obtain ⟨tb, ob, rfl, _, cb⟩ := hb.ex (by omega)
        have c1 := ca i hin
        have c2 := cb i hin
        have i1 : (i : Int) < n := by omega
        have hx : bits .or .u8 (unl f g i : Int) (bits .xor .u8 (f i : Int) (g i : Int)) = ((unl f g (i + 1) : Nat) : Int) := by
          rw [bits_xor_u8 _ _ (hf i) (hg i), bits_or_u8 _ _ (unl_lt f g hf hg i) (Nat.xor_lt_two_pow (n := 8) (hf i) (hg i))]; rfl
        have HX := Lib.hid hx
        clear hx ca cb
        go_wp2_with fail
        rw [HX.out]
        exact ⟨⟨i + 1, by omega, by go_num, rfl⟩, by simp [intOf]; omega⟩
      · have hE : i = n := by omega
        have i1 : (n : Int) ≤ i := by omega
        have HE := Lib.hid hE
        clear hE hin hi
        go_wp2_with fail
        go_ret
        refine ⟨?_, rfl⟩
        rw [HS.out, HE.out]
        exact ret_bool (beq_zero_cast _)
  · have HS : Hid (sameB n m f g = false) := by show _ = _; simp [sameB, hnm]
    have e1 : ((n : Int) == (m : Int)) = false := by rw [beq_eq_false_iff_ne]; omega
    have e2 : ((n : Int) != (m : Int)) = true := by rw [bne_iff_ne]; omega
    clear hnm
    go_enter Tryd.func21, Tryd.ntmps21
    go_wp2_with fail
    go_ret
    rw [HS.out]
    exact ⟨rfl, rfl⟩

end Go.Proofs.YtlfopcigbgfnlaaDoor
