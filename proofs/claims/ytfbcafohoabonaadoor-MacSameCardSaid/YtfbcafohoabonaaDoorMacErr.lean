/-
  mac's calls where they answer nothing, or an error.
-/
import Derived.Test.YtfbcafohoabonaaDoorMac32
import Derived.Test.YtfbcafohoabonaaDoorMac64
namespace Go.Proofs.YtfbcafohoabonaaDoor
open Go.RowKit

set_option maxRecDepth 100000
set_option maxHeartbeats 2000000

theorem mknown_no (h : Nat) (h1 : h ≠ 1) (h2 : h ≠ 2) (w : World) : Calls Tryd.prog 20 #[.int .u8 h] w fun e w' => e = .returned (.bool false) ∧ w = w' := by
  have e1 : ((h : Int) == 1) = false := by rw [beq_eq_false_iff_ne]; omega
  have e2 : ((h : Int) == 2) = false := by rw [beq_eq_false_iff_ne]; omega
  clear h1 h2
  go_enter Tryd.func20, Tryd.ntmps20
  go_wp2
  go_ret
  exact ⟨rfl, rfl⟩

theorem Mac_none (h : Nat) (h1 : h ≠ 1) (h2 : h ≠ 2) (k l : Value) (w : World) :
    Calls Tryd.prog 10 #[.int .u8 h, k, l] w fun e w' => e = .returned (.slice none 0 0) ∧ w = w' := by
  go_enter Tryd.func10, Tryd.ntmps10
  go_wp2_with (go_at_call 20; refine (mknown_no h h1 h2 _).mono ?_; rintro e w' ⟨rfl, rfl⟩)
  go_ret
  exact ⟨rfl, rfl⟩

theorem Extract_none (h : Nat) (h1 : h ≠ 1) (h2 : h ≠ 2) (k : Value) (la : Option Addr) (n lc : Nat) (w : World) :
    Calls Tryd.prog 11 #[.int .u8 h, k, .slice la n lc] w fun e w' => e = .returned (.slice none 0 0) ∧ w.grownBy w' none := by
  go_enter Tryd.func11, Tryd.ntmps11
  go_wp2_with (go_at_call 10; refine (Mac_none h h1 h2 _ _ _).mono ?_; rintro e w' ⟨rfl, rfl⟩)
  go_ret
  exact ⟨rfl, World.grownBy_alloc w _ none⟩

theorem Expand_unknown (h : Nat) (h1 : h ≠ 1) (h2 : h ≠ 2) (k l : Value) (n : Int) (w : World) :
    Calls Tryd.prog 12 #[.int .u8 h, k, l, .int .i64 n] w fun e w' => e = .returned (.tuple #[.slice none 0 0, .int .i64 2]) ∧ w = w' := by
  go_enter Tryd.func12, Tryd.ntmps12
  go_wp2_with (go_at_call 20; refine (mknown_no h h1 h2 _).mono ?_; rintro e w' ⟨rfl, rfl⟩)
  go_ret2
  exact ⟨rfl, rfl⟩

theorem Expand_out32 (k l : Value) (n : Int) (hn : n < 1 ∨ 255 * 32 < n) (w : World) :
    Calls Tryd.prog 12 #[.int .u8 1, k, l, .int .i64 n] w fun e w' => e = .returned (.tuple #[.slice none 0 0, .int .i64 2]) ∧ w = w' := by
  rcases hn with hn | hn
  all_goals
    go_enter Tryd.func12, Tryd.ntmps12
    go_wp2_with (first
      | (go_at_call 20; refine (mknown32 _).mono ?_; rintro e w' ⟨rfl, rfl⟩)
      | (go_at_call 23; refine (msumBytes32 _).mono ?_; rintro e w' ⟨rfl, rfl⟩))
    all_goals
      go_ret2
      exact ⟨rfl, rfl⟩

theorem Expand_out64 (k l : Value) (n : Int) (hn : n < 1 ∨ 255 * 64 < n) (w : World) :
    Calls Tryd.prog 12 #[.int .u8 2, k, l, .int .i64 n] w fun e w' => e = .returned (.tuple #[.slice none 0 0, .int .i64 2]) ∧ w = w' := by
  rcases hn with hn | hn
  all_goals
    go_enter Tryd.func12, Tryd.ntmps12
    go_wp2_with (first
      | (go_at_call 20; refine (mknown64 _).mono ?_; rintro e w' ⟨rfl, rfl⟩)
      | (go_at_call 23; refine (msumBytes64 _).mono ?_; rintro e w' ⟨rfl, rfl⟩))
    all_goals
      go_ret2
      exact ⟨rfl, rfl⟩

end Go.Proofs.YtfbcafohoabonaaDoor
