/-
  Contracts of the leaves of package sha: wordBytes, right, upper, blockBytes, of both widths.
-/
import Derived.Test.YtobaplndoaeoiaaDoorBase
namespace Go.Proofs.YtobaplndoaeoiaaDoor
open Go.RowKit

set_option maxRecDepth 100000
set_option maxHeartbeats 400000

theorem len64_32 (w : World) : Calls Tryd.prog 70 #[.int .u64 4294967295] w fun e w' => e = .returned (.int .i64 32) ∧ w = w' := by
  go_enter Tryd.func70, Tryd.ntmps70
  go_wp2
  go_ret
  exact ⟨by kernel_rfl, rfl⟩

theorem len64_64 (w : World) : Calls Tryd.prog 70 #[.int .u64 18446744073709551615] w fun e w' => e = .returned (.int .i64 64) ∧ w = w' := by
  go_enter Tryd.func70, Tryd.ntmps70
  go_wp2
  go_ret
  exact ⟨by kernel_rfl, rfl⟩

theorem wordBytes32 (w : World) : Calls Tryd.prog 66 #[] w fun e w' => e = .returned (.int .i64 4) ∧ w = w' := by
  go_enter Tryd.func66, Tryd.ntmps66
  go_wp2_with (go_at_call 70; refine (len64_32 _).mono ?_; rintro e w' ⟨rfl, rfl⟩)
  go_ret
  exact ⟨rfl, rfl⟩

theorem wordBytes64 (w : World) : Calls Tryd.prog 63 #[] w fun e w' => e = .returned (.int .i64 8) ∧ w = w' := by
  go_enter Tryd.func63, Tryd.ntmps63
  go_wp2_with (go_at_call 70; refine (len64_64 _).mono ?_; rintro e w' ⟨rfl, rfl⟩)
  go_ret
  exact ⟨rfl, rfl⟩


theorem right32 (x n : Nat) (w : World) (hx : x < 2 ^ 32) (h0 : 0 < n) (h1 : n < 32) :
    Calls Tryd.prog 78 #[.int .u32 x, .int .u64 n] w fun e w' => e = .returned (.int .u32 (rotr 32 x n : Nat)) ∧ w = w' := by
  have a1 := and31 n h1
  have a2 := neg_and31 n h0 h1
  have a3 : (0 : Int) ≤ ((n : Nat) : Int) := Int.natCast_nonneg _
  have a4 : ((n : Nat) : Int) ≤ 32 := by omega
  have a5 : (0 : Int) ≤ ((32 - n : Nat) : Int) := Int.natCast_nonneg _
  have a6 : ((32 - n : Nat) : Int) ≤ 32 := by omega
  have HR := Lib.hid (rotr_u32 x n hx)
  clear hx
  go_enter Tryd.func78, Tryd.ntmps78
  go_wp2_with (go_at_call 66; refine (wordBytes32 _).mono ?_; rintro e w' ⟨rfl, rfl⟩)
  go_ret
  exact ⟨by rw [← HR.out]; rfl, rfl⟩

theorem right64 (x n : Nat) (w : World) (hx : x < 2 ^ 64) (h0 : 0 < n) (h1 : n < 64) :
    Calls Tryd.prog 76 #[.int .u64 x, .int .u64 n] w fun e w' => e = .returned (.int .u64 (rotr 64 x n : Nat)) ∧ w = w' := by
  have a1 := and63 n h1
  have a2 := neg_and63 n h0 h1
  have a3 : (0 : Int) ≤ ((n : Nat) : Int) := Int.natCast_nonneg _
  have a4 : ((n : Nat) : Int) ≤ 64 := by omega
  have a5 : (0 : Int) ≤ ((64 - n : Nat) : Int) := Int.natCast_nonneg _
  have a6 : ((64 - n : Nat) : Int) ≤ 64 := by omega
  have HR := Lib.hid (rotr_u64 x n hx)
  clear hx
  go_enter Tryd.func76, Tryd.ntmps76
  go_wp2_with (go_at_call 63; refine (wordBytes64 _).mono ?_; rintro e w' ⟨rfl, rfl⟩)
  go_ret
  exact ⟨by rw [← HR.out]; rfl, rfl⟩

theorem upper32 (x : Nat) (w : World) (hx : x < 2 ^ 64) :
    Calls Tryd.prog 58 #[.int .u64 x] w fun e w' => e = .returned (.int .u32 (x / 2 ^ 32 : Nat)) ∧ w = w' := by
  have hx' : (x : Int) < 18446744073709551616 := by omega
  have hx0 : (0 : Int) ≤ x := Int.natCast_nonneg _
  clear hx
  go_enter Tryd.func58, Tryd.ntmps58
  go_wp2_with (go_at_call 66; refine (wordBytes32 _).mono ?_; rintro e w' ⟨rfl, rfl⟩)
  go_ret
  refine ⟨?_, rfl⟩
  simp [go_sem]
  try omega

theorem blockBytes32 (p : Option Addr) (w : World) :
    Calls Tryd.prog 67 #[.pointer p] w fun e w' => e = .returned (.int .i64 64) ∧ w = w' := by
  go_enter Tryd.func67, Tryd.ntmps67
  go_wp2_with (go_at_call 66; refine (wordBytes32 _).mono ?_; rintro e w' ⟨rfl, rfl⟩)
  go_ret
  exact ⟨rfl, rfl⟩

theorem turned32 (x p q r : Nat) (w : World) (hx : x < 2 ^ 32) (hp : 0 < p ∧ p < 32) (hq : 0 < q ∧ q < 32) (hr : 0 < r ∧ r < 32) :
    Calls Tryd.prog 74 #[.int .u32 x, .agg #[.int .u64 p, .int .u64 q, .int .u64 r]] w fun e w' => e = .returned (.int .u32 (turned 32 x p q r : Nat)) ∧ w.grownBy w' none := by
  go_enter Tryd.func74, Tryd.ntmps74
  go_wp2
  go_quiet (first
    | (go_at_call_of 78 (Value.int .u64 (p : Int)); exact Calls.quiet_of_same ((right32 x p _ hx hp.1 hp.2).mono fun _ _ h => ⟨h.1, h.2.symm⟩))
    | (go_at_call_of 78 (Value.int .u64 (q : Int)); exact Calls.quiet_of_same ((right32 x q _ hx hq.1 hq.2).mono fun _ _ h => ⟨h.1, h.2.symm⟩))
    | (go_at_call_of 78 (Value.int .u64 (r : Int)); exact Calls.quiet_of_same ((right32 x r _ hx hr.1 hr.2).mono fun _ _ h => ⟨h.1, h.2.symm⟩)))
  go_wp2
  go_ret
  exact ⟨ret_int (turned_u32 x p q r hx), grown_drewN (World.grownBy_alloc w _ none) _⟩

theorem shifted32 (x p q r : Nat) (w : World) (hx : x < 2 ^ 32) (hp : 0 < p ∧ p < 32) (hq : 0 < q ∧ q < 32) (hr : 0 < r ∧ r < 32) :
    Calls Tryd.prog 77 #[.int .u32 x, .agg #[.int .u64 p, .int .u64 q, .int .u64 r]] w fun e w' => e = .returned (.int .u32 (shifted 32 x p q r : Nat)) ∧ w.grownBy w' none := by
  go_enter Tryd.func77, Tryd.ntmps77
  go_wp2
  go_quiet (first
    | (go_at_call_of 78 (Value.int .u64 (p : Int)); exact Calls.quiet_of_same ((right32 x p _ hx hp.1 hp.2).mono fun _ _ h => ⟨h.1, h.2.symm⟩))
    | (go_at_call_of 78 (Value.int .u64 (q : Int)); exact Calls.quiet_of_same ((right32 x q _ hx hq.1 hq.2).mono fun _ _ h => ⟨h.1, h.2.symm⟩))
    | (go_at_call_of 78 (Value.int .u64 (r : Int)); exact Calls.quiet_of_same ((right32 x r _ hx hr.1 hr.2).mono fun _ _ h => ⟨h.1, h.2.symm⟩)))
  go_wp2
  go_ret
  exact ⟨ret_int (shifted_u32 x p q r hx), grown_drewN (World.grownBy_alloc w _ none) _⟩

theorem upper64 (x : Nat) (w : World) (hx : x < 2 ^ 64) :
    Calls Tryd.prog 54 #[.int .u64 x] w fun e w' => e = .returned (.int .u64 (x / 2 ^ 0 : Nat)) ∧ w = w' := by
  have hx' : (x : Int) < 18446744073709551616 := by omega
  have hx0 : (0 : Int) ≤ x := Int.natCast_nonneg _
  clear hx
  go_enter Tryd.func54, Tryd.ntmps54
  go_wp2_with (go_at_call 63; refine (wordBytes64 _).mono ?_; rintro e w' ⟨rfl, rfl⟩)
  go_ret
  refine ⟨?_, rfl⟩
  simp [go_sem]
  try omega

theorem blockBytes64 (p : Option Addr) (w : World) :
    Calls Tryd.prog 64 #[.pointer p] w fun e w' => e = .returned (.int .i64 128) ∧ w = w' := by
  go_enter Tryd.func64, Tryd.ntmps64
  go_wp2_with (go_at_call 63; refine (wordBytes64 _).mono ?_; rintro e w' ⟨rfl, rfl⟩)
  go_ret
  exact ⟨rfl, rfl⟩

theorem turned64 (x p q r : Nat) (w : World) (hx : x < 2 ^ 64) (hp : 0 < p ∧ p < 64) (hq : 0 < q ∧ q < 64) (hr : 0 < r ∧ r < 64) :
    Calls Tryd.prog 72 #[.int .u64 x, .agg #[.int .u64 p, .int .u64 q, .int .u64 r]] w fun e w' => e = .returned (.int .u64 (turned 64 x p q r : Nat)) ∧ w.grownBy w' none := by
  go_enter Tryd.func72, Tryd.ntmps72
  go_wp2
  go_quiet (first
    | (go_at_call_of 76 (Value.int .u64 (p : Int)); exact Calls.quiet_of_same ((right64 x p _ hx hp.1 hp.2).mono fun _ _ h => ⟨h.1, h.2.symm⟩))
    | (go_at_call_of 76 (Value.int .u64 (q : Int)); exact Calls.quiet_of_same ((right64 x q _ hx hq.1 hq.2).mono fun _ _ h => ⟨h.1, h.2.symm⟩))
    | (go_at_call_of 76 (Value.int .u64 (r : Int)); exact Calls.quiet_of_same ((right64 x r _ hx hr.1 hr.2).mono fun _ _ h => ⟨h.1, h.2.symm⟩)))
  go_wp2
  go_ret
  exact ⟨ret_int (turned_u64 x p q r hx), grown_drewN (World.grownBy_alloc w _ none) _⟩

theorem shifted64 (x p q r : Nat) (w : World) (hx : x < 2 ^ 64) (hp : 0 < p ∧ p < 64) (hq : 0 < q ∧ q < 64) (hr : 0 < r ∧ r < 64) :
    Calls Tryd.prog 75 #[.int .u64 x, .agg #[.int .u64 p, .int .u64 q, .int .u64 r]] w fun e w' => e = .returned (.int .u64 (shifted 64 x p q r : Nat)) ∧ w.grownBy w' none := by
  go_enter Tryd.func75, Tryd.ntmps75
  go_wp2
  go_quiet (first
    | (go_at_call_of 76 (Value.int .u64 (p : Int)); exact Calls.quiet_of_same ((right64 x p _ hx hp.1 hp.2).mono fun _ _ h => ⟨h.1, h.2.symm⟩))
    | (go_at_call_of 76 (Value.int .u64 (q : Int)); exact Calls.quiet_of_same ((right64 x q _ hx hq.1 hq.2).mono fun _ _ h => ⟨h.1, h.2.symm⟩))
    | (go_at_call_of 76 (Value.int .u64 (r : Int)); exact Calls.quiet_of_same ((right64 x r _ hx hr.1 hr.2).mono fun _ _ h => ⟨h.1, h.2.symm⟩)))
  go_wp2
  go_ret
  exact ⟨ret_int (shifted_u64 x p q r hx), grown_drewN (World.grownBy_alloc w _ none) _⟩

end Go.Proofs.YtobaplndoaeoiaaDoor
