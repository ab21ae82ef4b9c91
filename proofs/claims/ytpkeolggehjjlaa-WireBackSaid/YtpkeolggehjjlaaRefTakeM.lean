/-
  The reference's Take: what a field takes, step by step, is what a reader takes.
-/
import Derived.Test.YtpkeolggehjjlaaLawTakeM
import Derived.Test.YtpkeolggehjjlaaRefWireWidth
namespace Go.Proofs.Ytpkeolggehjjlaa
open Go.RowKit

set_option maxRecDepth 100000

section
variable {L at' n : Nat} {F : Nat → Nat}
theorem ISt.take_fit (h : n ≤ L - at') : ISt.take L (.good at') (n : Nat) = .good (at' + n) ∧ ISt.got L (.good at') (n : Nat) = n ∧ ISt.num L F (.good at') n = ofB8 (fun i => F (at' + i)) n := by
  have h0 : 0 ≤ (n : Int) ∧ (n : Int) ≤ ((L - at' : Nat) : Int) := by omega
  have h1 : ISt.got L (.good at') (n : Nat) = n := (if_pos h0).trans (Int.toNat_natCast n)
  refine ⟨(if_pos h0).trans (by rw [Int.toNat_natCast]), h1, ?_⟩
  show ofB8 (fun i => F (at' + i)) (ISt.got L (.good at') (n : Nat)) = _
  rw [h1]
theorem ISt.take_not (h : L - at' < n) : ISt.take L (.good at') (n : Nat) = .bad ∧ ISt.got L (.good at') (n : Nat) = 0 ∧ ISt.num L F (.good at') n = 0 := by
  have h0 : ¬ (0 ≤ (n : Int) ∧ (n : Int) ≤ ((L - at' : Nat) : Int)) := by omega
  have h1 : ISt.got L (.good at') (n : Nat) = 0 := if_neg h0
  refine ⟨if_neg h0, h1, ?_⟩
  show ofB8 (fun i => F (at' + i)) (ISt.got L (.good at') (n : Nat)) = _
  rw [h1]; rfl
theorem ISt.many_fit : ∀ j, 4 * j ≤ L - at' → ISt.many L (.good at') j = .good (at' + 4 * j)
  | 0, _ => rfl
  | j + 1, h => by
    show (ISt.many L (.good at') j).take L 4 = _
    have h4 : ISt.take L (.good (at' + 4 * j)) 4 = .good (at' + 4 * j + 4) := (ISt.take_fit (F := fun _ => 0) (n := 4) (by omega)).1
    rw [ISt.many_fit j (by omega), h4]
    congr 1
theorem ISt.many_not {j : Nat} (h : L - at' < 4 * j) (hl : at' ≤ L) : ISt.many L (.good at') j = .bad := by
  obtain ⟨q, hq⟩ : ∃ q, q = (L - at') / 4 := ⟨_, rfl⟩
  have h1 := ISt.many_fit (L := L) (at' := at') q (by omega)
  have h2 : ISt.many L (.good at') (q + 1) = .bad := by
    show (ISt.many L (.good at') q).take L 4 = _
    rw [h1]
    exact (ISt.take_not (F := fun _ => 0) (n := 4) (by omega)).1
  rw [ISt.many_stay L (.good at') (q + 1) (by rw [h2]; rfl) j (by omega), h2]
end
theorem ISt.many_bad (L j : Nat) : ISt.many L .bad j = .bad := ISt.many_stay L .bad 0 rfl j (Nat.zero_le _)
/-- Too few bytes for the first part. -/
theorem field_short {L at' k nb : Nat} {F : Nat → Nat} {m : Int} (h : L - at' < widF k nb) : ISt.field L F (.good at') k nb m = .bad := by
  unfold ISt.field
  unfold widF at h
  by_cases e0 : k = 0
  · rw [if_pos e0]; rw [if_pos (Or.inl e0)] at h; exact (ISt.take_not (F := F) (n := 1) h).1
  rw [if_neg e0]
  by_cases e1 : k = 1
  · rw [if_pos e1]; rw [if_neg (by omega), if_pos e1] at h; exact (ISt.take_not (F := F) (n := 4) h).1
  rw [if_neg e1]
  by_cases e2 : k = 2
  · rw [if_pos e2]; rw [if_neg (by omega), if_neg e1, if_pos e2] at h; exact (ISt.take_not (F := F) (n := 8) h).1
  rw [if_neg e2]
  by_cases e3 : k = 3
  · rw [if_pos e3]; rw [if_pos (Or.inr e3)] at h
    have h2 := ISt.take_not (F := F) (n := 1) h
    unfold ISt.flagS
    rw [if_neg (by rw [h2.2.2]; decide)]
    exact h2.1
  rw [if_neg e3]
  by_cases e4 : k = 4
  · rw [if_pos e4]; rw [if_neg (by omega), if_neg e1, if_neg e2, if_pos e4] at h; exact (ISt.take_not (F := F) (n := nb) h).1
  rw [if_neg e4]
  have hc : (k = 5 ∨ k = 6) → ISt.cntS L F (.good at') m = .bad := fun h56 => by
    rw [if_neg (by omega), if_neg e1, if_neg e2, if_neg e4, if_pos h56] at h
    have h2 := ISt.take_not (F := F) (n := 2) h
    unfold ISt.cntS
    have h4 : ISt.take L (.good at') 2 = .bad := h2.1
    rw [h4]
    split <;> rfl
  by_cases e5 : k = 5
  · rw [if_pos e5, hc (Or.inl e5)]; rfl
  rw [if_neg e5]
  by_cases e6 : k = 6
  · rw [if_pos e6, hc (Or.inr e6)]; exact ISt.many_bad L _
  rw [if_neg (by omega), if_neg e1, if_neg e2, if_neg e4, if_neg (by omega)] at h
  omega
section
variable {L at' : Nat} {F : Nat → Nat} {m : Int}
/-- How many there are. -/
theorem cnt_fit (h : 2 ≤ L - at') : (¬ m < (ofB8 (fun i => F (at' + i)) 2 : Int) → ISt.cntS L F (.good at') m = .good (at' + 2) ∧ ISt.cntV L F (.good at') m = ofB8 (fun i => F (at' + i)) 2) ∧ (m < (ofB8 (fun i => F (at' + i)) 2 : Int) → ISt.cntS L F (.good at') m = .bad ∧ ISt.cntV L F (.good at') m = 0) := by
  obtain ⟨h1, _, h3⟩ := ISt.take_fit (F := F) (n := 2) h
  unfold ISt.cntS ISt.cntV
  rw [h3]
  refine ⟨fun hm => ?_, fun hm => ?_⟩
  · rw [if_neg hm, if_neg hm]; exact ⟨h1, rfl⟩
  · rw [if_pos hm, if_pos hm, show ISt.take L (.good at') 2 = .good (at' + 2) from h1]; exact ⟨rfl, rfl⟩
end
theorem fld5 {L at' aw M nb : Nat} {F : Nat → Nat} {m : Int} (h : 2 ≤ L - at') (ha : aw = at' + 2) (hM : M = ofB8 (fun i => F (at' + i)) 2) : (m < (M : Int) → ISt.field L F (.good at') 5 nb m = .bad) ∧
    (¬ m < (M : Int) → L - aw < M → ISt.field L F (.good at') 5 nb m = .bad) ∧ (¬ m < (M : Int) → ¬ L - aw < M → ISt.field L F (.good at') 5 nb m = .good (aw + M) ∧ ISt.fldB L F (.good at') 5 nb m = M ∧ ISt.fldF L F (.good at') 5 m = fun i => F (aw + i)) := by
  have e1 : ISt.field L F (.good at') 5 nb m = (ISt.cntS L F (.good at') m).take L (ISt.cntV L F (.good at') m : Nat) := rfl
  have e2 : ISt.fldB L F (.good at') 5 nb m = (ISt.cntS L F (.good at') m).got L (ISt.cntV L F (.good at') m : Nat) := rfl
  have e3 : ISt.fldF L F (.good at') 5 m = fun i => F ((ISt.cntS L F (.good at') m).off + i) := rfl
  obtain ⟨c1, c2⟩ := cnt_fit (F := F) (m := m) h
  rw [← hM, ← ha] at c1
  rw [← hM] at c2
  refine ⟨fun hm => ?_, fun hm hl => ?_, fun hm hl => ?_⟩
  · rw [e1, (c2 hm).1]; rfl
  · rw [e1, (c1 hm).1, (c1 hm).2]; exact (ISt.take_not (F := F) hl).1
  · have hf := ISt.take_fit (L := L) (at' := aw) (F := F) (n := M) (by omega)
    rw [e1, e2, e3, (c1 hm).1, (c1 hm).2]
    exact ⟨hf.1, hf.2.1, rfl⟩
theorem fld6 {L at' aw M nb : Nat} {F : Nat → Nat} {m : Int} (h : 2 ≤ L - at') (ha : aw = at' + 2) (hM : M = ofB8 (fun i => F (at' + i)) 2) : (m < (M : Int) → ISt.field L F (.good at') 6 nb m = .bad) ∧
    (¬ m < (M : Int) → L - aw < 4 * M → ISt.field L F (.good at') 6 nb m = .bad) ∧ (¬ m < (M : Int) → ¬ L - aw < 4 * M → ISt.field L F (.good at') 6 nb m = .good (aw + 4 * M) ∧ ISt.fldL L F (.good at') 6 m = M ∧ ∀ j, j < M → ISt.fldG L F (.good at') 6 m j = ofB8 (fun q => F (aw + 4 * j + q)) 4) := by
  have e1 : ISt.field L F (.good at') 6 nb m = (ISt.cntS L F (.good at') m).many L (ISt.cntV L F (.good at') m) := rfl
  have e2 : ISt.fldL L F (.good at') 6 m = (ISt.cntS L F (.good at') m).lstN L (ISt.cntV L F (.good at') m) := rfl
  have e3 : ISt.fldG L F (.good at') 6 m = fun i => ((ISt.cntS L F (.good at') m).many L i).num L F 4 := rfl
  obtain ⟨c1, c2⟩ := cnt_fit (F := F) (m := m) h
  rw [← hM, ← ha] at c1
  rw [← hM] at c2
  refine ⟨fun hm => ?_, fun hm hl => ?_, fun hm hl => ?_⟩
  · rw [e1, (c2 hm).1]; exact ISt.many_bad L _
  · rw [e1, (c1 hm).1, (c1 hm).2]; exact ISt.many_not hl (by omega)
  · have hf := ISt.many_fit (L := L) (at' := aw) M (by omega)
    rw [e1, e2, e3, (c1 hm).1, (c1 hm).2]
    refine ⟨hf, ?_, fun j hj => ?_⟩
    · unfold ISt.lstN
      rw [hf]; rfl
    · show ISt.num L F (ISt.many L (.good aw) j) 4 = _
      rw [ISt.many_fit j (by omega)]
      exact (ISt.take_fit (F := F) (n := 4) (by omega)).2.2
/-- A part of a slice of bytes. -/
theorem run_sub {Q : Program} {T E : Nat} (hT : Q.underlying T = some (.slice E)) (hE : ∀ w, (sizeOf E).run Q w = .ok 1 w) {w0 : World} {D n : Nat} {a : Option Addr} {f : Nat → Nat} (c l h : Nat) (hR : Rd w0 D a n f) (h1 : l ≤ h) (h2 : h ≤ n) (h3 : n ≤ c) :
    ∃ a' : Option Addr, (∀ w, (Instr.slice T (.slice a n c) (some (.int .i64 (l : Int))) (some (.int .i64 (h : Int))) none).run Q w = .ok (.slice a' (h - l) (c - l)) w) ∧ (l < h → ∃ tb o, a = some ⟨tb, o, none⟩ ∧ a' = some ⟨tb, o + l, none⟩) := by
  have e2 : Q.elem T = E := by simp [Program.elem, hT]
  have hT' : Q.underlying T = some (.slice (Q.elem T)) := by rw [e2]; exact hT
  refine ⟨if c = l then a else a.map (·.add (l * 1)), fun w => ?_, fun hlt => ?_⟩
  · rw [run_slice_lh w T a n c hT' .i64 .i64 l h (by omega) (by omega) (by omega), e2, hE w]
    simp [Result.andThen, sliced]
  · obtain ⟨tb, o, e, _, _⟩ := hR.ex (by omega)
    refine ⟨tb, o, e, ?_⟩
    rw [if_neg (by omega), e]
    simp [Addr.add]
end Go.Proofs.Ytpkeolggehjjlaa
