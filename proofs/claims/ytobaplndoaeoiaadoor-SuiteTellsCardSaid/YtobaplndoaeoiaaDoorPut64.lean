/-
  The bytes of the state, put by sha's machine of words of 64 bits.
-/
import Derived.Test.YtobaplndoaeoiaaDoorTake64
import Derived.Test.YtobaplndoaeoiaaDoorShaSpec
import Derived.BigRegion
namespace Go.Proofs.YtobaplndoaeoiaaDoor
open Go.RowKit

set_option maxRecDepth 100000
set_option maxHeartbeats 1000000

/-- Byte i of the state. -/
def stByte64 (st : Nat → Nat) (i : Nat) : Nat := st (i / 8) / 2 ^ (8 * (8 - 1 - i % 8)) % 256

theorem put64 (m ob : Nat) (f0 P st blk : Nat → Nat) (fl len : Nat) (w : World) (hM : Mach .u64 w m P 80 st blk fl len) (hO : Holds w ob 72 .u8 64 f0) (hne : ob ≠ m) :
    Calls Tryd.prog 57 #[.pointer (some ⟨m, 0, none⟩), .slice (some ⟨ob, 0, none⟩) 64 64] w fun e w' => e = .returned (.tuple #[]) ∧ w.grownBy w' (some ob) ∧ Holds w' ob 72 .u8 64 (stByte64 st) := by
  go_enter Tryd.func57, Tryd.ntmps57
  go_wp2_with (go_at_call 63; refine (wordBytes64 _).mono ?_; rintro e w' ⟨rfl, rfl⟩)
  go_loopw [9] (fun u9 wr => ∃ i : Nat, i ≤ 64 ∧ u9 = .int .i64 i ∧ w.grownBy wr (some ob) ∧ Holds wr ob 72 .u8 64 (fun j => if j < i then stByte64 st j else f0 j)) (fun u9 _ => 64 - (intOf u9).toNat)
  case atStart => exact ⟨0, by omega, rfl, grown_refl _ _, hO.congr (fun _ _ => by simp)⟩
  case round =>
    obtain ⟨i, hi, rfl, hgr, hOr⟩ := hrel
    have hMr := hM.grown hgr (by simpa using Ne.symm hne)
    by_cases hib : i < 64
    · have hi1 : (i : Int) < 64 := by omega
      have hi0 : (0 : Int) ≤ i := by omega
      obtain ⟨q, hq⟩ : ∃ q, q = i / 8 := ⟨_, rfl⟩
      obtain ⟨e, he⟩ : ∃ e, e = i % 8 := ⟨_, rfl⟩
      have hq1 : q < 8 := by omega
      have he1 : e < 8 := by omega
      have q1 : (i : Int) / 8 = (q : Int) := by omega
      have m1 : (i : Int) % 8 = (e : Int) := by omega
      have q2 : (q : Int) < 8 := by omega
      have e2 : (e : Int) < 8 := by omega
      have c1 := hMr.state q hq1
      have c2 := hOr.cell i hib
      have f2 := hOr.frozen i
      have Hq := Lib.hid hq
      have He := Lib.hid he
      clear hq he
      go_wp2_with fail
      go_region
      have hv : ((st q : Int) / 2 ^ (8 * (8 - 1 - e)) % 256) = ((stByte64 st i : Nat) : Int) := by
        unfold stByte64
        rw [← Hq.out, ← He.out]
        simp
      have hO5 := (hOr.set i (stByte64 st i)).drew
      have hg5 := grown_drew (grown_setCell_new hgr ⟨ob, i, none⟩ (.int .u8 (stByte64 st i : Nat)) (Or.inr rfl))
      have HV := Lib.hid hv
      clear hv c1 c2 f2 q1 m1
      go_wp2_with fail
      have hv := HV.out
      simp only [show 8 - 1 = 7 from rfl] at hv
      rw [hv]
      refine ⟨⟨i + 1, by omega, by go_num, hg5, hO5.congr ?_⟩, by simp [intOf]; omega⟩
      intro j hj
      by_cases e : j = i
      · subst e; simp [upd]
      · have e1 : (j < i + 1) = (j < i) := by simp; omega
        simp [upd, e, e1]
    · have hR : i = 64 := by omega
      have hge : (64 : Int) ≤ i := by omega
      rw [hR] at hOr
      clear hR hib hi
      go_wp2_with fail
      go_end0
      exact ⟨rfl, hgr, hOr.congr (fun j hj => by simp [hj])⟩

end Go.Proofs.YtobaplndoaeoiaaDoor
