/-
  The reference's width.
-/
import Derived.Test.YtpkeolggehjjlaaWireF
namespace Go.Proofs.Ytpkeolggehjjlaa
open Go.RowKit

set_option maxRecDepth 100000
set_option maxHeartbeats 2000000

/-- How many bytes a field's first part has. -/
def widF (k nb : Nat) : Nat := if k = 0 ∨ k = 3 then 1 else if k = 1 then 4 else if k = 2 then 8 else if k = 4 then nb else if k = 5 ∨ k = 6 then 2 else 0
theorem refWidth_any (k n nb cb nl cl : Nat) (ab al : Option Addr) (m : Int) (hk : k < 256) (w : World) :
    Calls Try.prog 38 #[.agg #[.int .u8 k, .int .u64 n, .slice ab nb cb, .slice al nl cl, .int .i64 m]] w fun e w' => e = .returned (.int .i64 (widF k nb : Nat)) ∧ w.grownBy w' none := by
  have hF := FAt.new ⟨k, n, ab, nb, cb, fun _ => 0, al, nl, cl, fun _ => 0, m⟩ w
  have c0 : (w.alloc (.cells #[.int .u8 k, .int .u64 n, .slice ab nb cb, .slice al nl cl, .int .i64 m] 54)).cell? ⟨w.heap.size, 0, none⟩ = some (.int .u8 k) := hF.c0
  have c2 : (w.alloc (.cells #[.int .u8 k, .int .u64 n, .slice ab nb cb, .slice al nl cl, .int .i64 m] 54)).cell? ⟨w.heap.size, 2, none⟩ = some (.slice ab nb cb) := hF.c2
  have gr := World.grownBy_alloc w (.cells #[.int .u8 k, .int .u64 n, .slice ab nb cb, .slice al nl cl, .int .i64 m] 54) none
  obtain ⟨r, hr⟩ : ∃ r, r = widF k nb := ⟨_, rfl⟩
  rw [← hr]
  unfold widF at hr
  clear hF
  go_enter Try.func38, Try.ntmps38
  go_upto_region 1 with fail
  generalize w.alloc (.cells #[.int .u8 k, .int .u64 n, .slice ab nb cb, .slice al nl cl, .int .i64 m] 54) = w1 at *
  by_cases e0 : k = 0
  · subst e0
    have hr2 : r = 1 := hr
    clear hr
    subst hr2
    go_wp2_with fail
    go_ret
    exact ⟨rfl, gr⟩
  by_cases e3 : k = 3
  · subst e3
    have hr2 : r = 1 := hr
    clear hr
    subst hr2
    go_wp2_with fail
    go_ret
    exact ⟨rfl, gr⟩
  by_cases e1 : k = 1
  · subst e1
    have hr2 : r = 4 := hr
    clear hr
    subst hr2
    go_wp2_with fail
    go_ret
    exact ⟨rfl, gr⟩
  by_cases e2 : k = 2
  · subst e2
    have hr2 : r = 8 := hr
    clear hr
    subst hr2
    go_wp2_with fail
    go_ret
    exact ⟨rfl, gr⟩
  by_cases e4 : k = 4
  · subst e4
    have hr2 : r = nb := hr
    clear hr
    subst hr2
    go_wp2_with fail
    go_ret
    exact ⟨rfl, gr⟩
  by_cases e5 : k = 5
  · subst e5
    have hr2 : r = 2 := hr
    clear hr
    subst hr2
    go_wp2_with fail
    go_ret
    exact ⟨rfl, gr⟩
  by_cases e6 : k = 6
  · subst e6
    have hr2 : r = 2 := hr
    clear hr
    subst hr2
    go_wp2_with fail
    go_ret
    exact ⟨rfl, gr⟩
  have hr2 : r = 0 := by rw [hr]; simp [e0, e1, e2, e3, e4, e5, e6]
  have d0 : ((k : Int) == 0) = false := beq_eq_false_iff_ne.2 (by omega)
  have d1 : ((k : Int) == 1) = false := beq_eq_false_iff_ne.2 (by omega)
  have d2 : ((k : Int) == 2) = false := beq_eq_false_iff_ne.2 (by omega)
  have d3 : ((k : Int) == 3) = false := beq_eq_false_iff_ne.2 (by omega)
  have d4 : ((k : Int) == 4) = false := beq_eq_false_iff_ne.2 (by omega)
  have d5 : ((k : Int) == 5) = false := beq_eq_false_iff_ne.2 (by omega)
  have d6 : ((k : Int) == 6) = false := beq_eq_false_iff_ne.2 (by omega)
  clear hr e0 e1 e2 e3 e4 e5 e6 hk
  subst hr2
  go_wp2_with fail
  go_ret
  exact ⟨rfl, gr⟩
end Go.Proofs.Ytpkeolggehjjlaa
