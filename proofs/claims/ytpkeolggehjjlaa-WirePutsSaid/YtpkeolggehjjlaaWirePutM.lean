/-
  What a writer has, put by the law, is what the reference puts.
-/
import Derived.Test.YtpkeolggehjjlaaLawPut
import Derived.Test.YtpkeolggehjjlaaRefWirePut
namespace Go.Proofs.Ytpkeolggehjjlaa
open Go.RowKit

set_option maxRecDepth 100000

/-- The writer has these bytes, if c; else it is wrong. -/
structure OIs (s : OSt) (c : Prop) (lim n : Nat) (F : Nat → Nat) : Prop where
  g : c → ∃ G, s = .good lim n G ∧ ∀ j, j < n → G j = F j
  f : ¬ c → s = .bad
section
variable {s : OSt} {c c' : Prop} {lim n m : Nat} {F F' g : Nat → Nat}
theorem OIs.iff (h : OIs s c lim n F) (e : c ↔ c') : OIs s c' lim n F := ⟨fun hc => h.g (e.2 hc), fun hc => h.f (fun h' => hc (e.1 h'))⟩
theorem OIs.congr (h : OIs s c lim n F) (e : ∀ j, j < n → F j = F' j) : OIs s c lim n F' := ⟨fun hc => by
  obtain ⟨G, h1, h2⟩ := h.g hc
  exact ⟨G, h1, fun j hj => (h2 j hj).trans (e j hj)⟩, h.f⟩
theorem OIs.size (h : OIs s c lim n F) (e : n = m) : OIs s c lim m F := by rw [← e]; exact h
theorem OIs.put (h : OIs s c lim n F) (m : Nat) (g : Nat → Nat) : OIs (s.put m g) (c ∧ n + m ≤ lim) lim (n + m) (cat n F g) := by
  by_cases hc : c
  · obtain ⟨G, rfl, h2⟩ := h.g hc
    by_cases hl : n + m ≤ lim
    · refine ⟨fun _ => ⟨cat n G g, if_pos hl, fun j hj => ?_⟩, fun h => absurd ⟨hc, hl⟩ h⟩
      unfold cat
      by_cases e : j < n
      · rw [if_pos e, if_pos e]; exact h2 j e
      · rw [if_neg e, if_neg e]
    · exact ⟨fun h => absurd h.2 hl, fun _ => if_neg hl⟩
  · have := h.f hc
    subst this
    exact ⟨fun h => absurd h.1 hc, fun _ => rfl⟩
theorem OIs.fail (h : OIs s c lim n F) (m : Nat) (F' : Nat → Nat) : OIs s.fail False lim m F' := by
  refine ⟨fun h => h.elim, fun _ => ?_⟩
  by_cases hc : c
  · obtain ⟨G, rfl, _⟩ := h.g hc; rfl
  · rw [h.f hc]; rfl
end
theorem cat_assoc (n m : Nat) (F g h : Nat → Nat) : cat (n + m) (cat n F g) h = cat n F (cat m g h) := by
  funext j
  unfold cat
  by_cases e1 : j < n
  · rw [if_pos (by omega), if_pos e1, if_pos e1]
  · by_cases e2 : j < n + m
    · rw [if_pos e2, if_neg e1, if_neg e1, if_pos (by omega)]
    · rw [if_neg e2, if_neg e1, if_neg (by omega)]
      congr 1
      omega
theorem cat_congr {n m : Nat} {F g h : Nat → Nat} (e : ∀ j, j < m → g j = h j) (j : Nat) (hj : j < n + m) : cat n F g j = cat n F h j := by
  unfold cat
  by_cases e1 : j < n
  · rw [if_pos e1, if_pos e1]
  · rw [if_neg e1, if_neg e1]; exact e _ (by omega)
theorem OIs.nums {s : OSt} {c : Prop} {lim n : Nat} {F : Nat → Nat} (h : OIs s c lim n F) (hc : c → n ≤ lim) (fl : Nat → Nat) : ∀ i, OIs (s.nums fl i) (c ∧ n + 4 * i ≤ lim) lim (n + 4 * i) (cat n F (lstB fl))
  | 0 => (h.iff ⟨fun h1 => ⟨h1, by have := hc h1; omega⟩, fun h1 => h1.1⟩).congr (fun j hj => by unfold cat; rw [if_pos hj])
  | i + 1 => by
    have h1 := (OIs.nums h hc fl i).put 4 (nbF (fl i) 4)
    refine ((h1.iff (c' := c ∧ n + 4 * (i + 1) ≤ lim) ⟨fun h2 => ⟨h2.1.1, by omega⟩, fun h2 => ⟨⟨h2.1, by omega⟩, by omega⟩⟩).size (by omega)).congr (fun j hj => ?_)
    show (if j < n + 4 * i then cat n F (lstB fl) j else nbF (fl i) 4 (j - (n + 4 * i))) = cat n F (lstB fl) j
    by_cases e1 : j < n + 4 * i
    · rw [if_pos e1]
    · rw [if_neg e1]
      unfold cat
      rw [if_neg (by omega)]
      unfold lstB
      rw [show (j - n) / 4 = i by omega, show (j - n) % 4 = j - (n + 4 * i) by omega]
theorem OIs.count {s : OSt} {c : Prop} {lim n : Nat} {F : Nat → Nat} (h : OIs s c lim n F) (most : Int) (m : Nat) : OIs (s.count most m) ((c ∧ n + 2 ≤ lim) ∧ (m : Int) ≤ most ∧ m < 65536) lim (n + 2) (cat n F (nbF m 2)) := by
  unfold OSt.count
  by_cases hw : min most 65535 < (m : Int)
  · rw [if_pos hw]
    exact (h.fail (n + 2) (cat n F (nbF m 2))).iff ⟨fun h => h.elim, fun h => by omega⟩
  · rw [if_neg hw]
    exact (h.put 2 (nbF m 2)).iff ⟨fun h => ⟨h, by omega⟩, fun h => h.1⟩
theorem OIs.field {s : OSt} {c : Prop} {lim n : Nat} {F : Nat → Nat} (h : OIs s c lim n F) (hc : c → n ≤ lim) (x : FV) : OIs (s.field x) ((c ∧ x.oOk = true) ∧ n + x.oN ≤ lim) lim (n + x.oN) (cat n F x.oF) := by
  unfold OSt.field FV.oN FV.oF FV.oOk oneN oneF oneOk
  by_cases e0 : x.k = 0
  · simp only [if_pos e0]
    refine ((h.put 1 _).iff ?_).congr (cat_congr (fun j hj => ?_))
    · rw [if_neg (by omega), if_neg (by omega)]; simp
    · obtain rfl : j = 0 := by omega
      show x.n % 256 = x.n % 256 / 256 ^ 0 % 256
      rw [Nat.pow_zero, Nat.div_one]
      omega
  simp only [if_neg e0]
  by_cases e1 : x.k = 1
  · simp only [if_pos e1]
    refine (h.put 4 _).iff ?_
    rw [if_neg (by omega), if_neg (by omega)]; simp
  simp only [if_neg e1]
  by_cases e2 : x.k = 2
  · simp only [if_pos e2]
    refine (h.put 8 _).iff ?_
    rw [if_neg (by omega), if_neg (by omega)]; simp
  simp only [if_neg e2]
  by_cases e3 : x.k = 3
  · simp only [if_pos e3]
    refine ((h.put 1 _).iff ?_).congr (cat_congr (fun j hj => ?_))
    · rw [if_neg (by omega), if_neg (by omega)]; simp
    · unfold flagB
      by_cases e : x.n = 0 <;> simp [e]
  simp only [if_neg e3]
  by_cases e4 : x.k = 4
  · simp only [if_pos e4]
    refine (h.put x.nb x.fb).iff ?_
    rw [if_neg (by omega), if_neg (by omega)]; simp
  simp only [if_neg e4]
  by_cases e5 : x.k = 5
  · simp only [if_pos e5]
    have h1 := (h.count x.m x.nb).put x.nb x.fb
    rw [cat_assoc] at h1
    refine (h1.iff ?_).size (by omega)
    simp only [Bool.and_eq_true, decide_eq_true_eq]
    constructor
    · intro h2; exact ⟨⟨h2.1.1.1, h2.1.2.1, h2.1.2.2⟩, by omega⟩
    · intro h2; exact ⟨⟨⟨h2.1.1, by omega⟩, h2.1.2.1, h2.1.2.2⟩, by omega⟩
  simp only [if_neg e5]
  by_cases e6 : x.k = 6
  · simp only [if_pos e6]
    have h1 := (h.count x.m x.nl).nums (fun h2 => h2.1.2) x.fl x.nl
    rw [cat_assoc] at h1
    refine (h1.iff ?_).size (by omega)
    simp only [Bool.and_eq_true, decide_eq_true_eq]
    constructor
    · intro h2; exact ⟨⟨h2.1.1.1, h2.1.2.1, h2.1.2.2⟩, by omega⟩
    · intro h2; exact ⟨⟨⟨h2.1.1, by omega⟩, h2.1.2.1, h2.1.2.2⟩, by omega⟩
  simp only [if_neg e6]
  refine (h.iff ?_).congr (fun j hj => ?_)
  · simp only [Nat.add_zero]
    constructor
    · intro h2; exact ⟨⟨h2, by first | rfl | trivial⟩, hc h2⟩
    · intro h2; exact h2.1.1
  · unfold cat
    rw [if_pos (by omega)]
theorem OIs.fields {s : OSt} {lim : Nat} {F : Nat → Nat} (h : OIs s True lim 0 F) (X : Nat → FV) : ∀ i, OIs (s.fields X i) (putOk X i = true ∧ putN X i ≤ lim) lim (putN X i) (putF X i)
  | 0 => (h.iff ⟨fun _ => ⟨rfl, Nat.zero_le _⟩, fun _ => trivial⟩).congr (fun j hj => absurd hj (Nat.not_lt_zero _))
  | i + 1 => by
    have h1 := (OIs.fields h X i).field (fun h => h.2) (X i)
    refine h1.iff ?_
    show _ ↔ (putOk X i && (X i).oOk) = true ∧ putN X i + (X i).oN ≤ lim
    simp only [Bool.and_eq_true]
    constructor
    · intro h2; exact ⟨⟨h2.1.1.1, h2.1.2⟩, h2.2⟩
    · intro h2; exact ⟨⟨⟨h2.1.1, by omega⟩, h2.1.2⟩, h2.2⟩
theorem OSt.field_bad (x : FV) : OSt.field .bad x = .bad := by
  unfold OSt.field
  have h1 : ∀ m n, OSt.count .bad m n = .bad := fun m n => by
    unfold OSt.count
    split <;> rfl
  have h2 : ∀ fl n, OSt.nums .bad fl n = .bad := fun fl n => OSt.nums_over .bad fl rfl n
  repeat' split
  all_goals first | rfl | (rw [h1]; rfl) | (rw [h1, h2])
theorem OSt.fields_bad (X : Nat → FV) : ∀ n, OSt.fields .bad X n = .bad
  | 0 => rfl
  | n + 1 => by
    show (OSt.fields .bad X n).field (X n) = .bad
    rw [OSt.fields_bad X n, OSt.field_bad]
/-- What stands in a new writer of this limit, when all fields are put. -/
theorem put_new (l : Int) (X : Nat → FV) (n : Nat) : OIs (OSt.fields (if 0 ≤ l then .good l.toNat 0 (fun _ => 0) else .bad) X n) (putOk X n = true ∧ (putN X n : Int) ≤ l) l.toNat (putN X n) (putF X n) := by
  by_cases hl : 0 ≤ l
  · rw [if_pos hl]
    refine (OIs.fields (F := fun _ => 0) ⟨fun _ => ⟨fun _ => 0, rfl, fun _ _ => rfl⟩, fun h => absurd trivial h⟩ X n).iff ?_
    constructor
    · intro h; exact ⟨h.1, by omega⟩
    · intro h; exact ⟨h.1, by omega⟩
  · rw [if_neg hl, OSt.fields_bad]
    exact ⟨fun h => absurd h.2 (by omega), fun _ => rfl⟩
/-- What is then in memory. -/
theorem OIs.at {w0 w : World} {p : Option Addr} {s : OSt} {c : Prop} {lim n : Nat} {F : Nat → Nat} (h : OIs s c lim n F) (ha : OAt w0 w p s) : (c → OAt w0 w p (.good lim n F)) ∧ (¬ c → OAt w0 w p .bad) := by
  refine ⟨fun hc => ?_, fun hc => ?_⟩
  · obtain ⟨G, h1, h2⟩ := h.g hc
    rw [h1] at ha
    exact ha.eqv h2
  · rw [h.f hc] at ha; exact ha
end Go.Proofs.Ytpkeolggehjjlaa
