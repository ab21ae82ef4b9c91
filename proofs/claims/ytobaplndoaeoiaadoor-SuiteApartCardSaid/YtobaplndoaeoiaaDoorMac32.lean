/-
  mac's Mac, Extract and Expand, of the hash of Sum256.
-/
import Derived.Test.YtobaplndoaeoiaaDoorExpanded32
namespace Go.Proofs.YtobaplndoaeoiaaDoor
open Go.RowKit

set_option maxRecDepth 100000
set_option maxHeartbeats 2000000

/-- The MAC under a key. -/
def macOf32 (F K : Nat → Nat) (L : Nat) (key : Nat → Nat) : (Nat → Nat) → Nat → Nat → Nat :=
  kmacOf32 F K (fun i => 54 ^^^ padKey32 F K L key i) (fun i => 92 ^^^ padKey32 F K L key i)

theorem padKey_lt32 (F K : Nat → Nat) (L : Nat) (key : Nat → Nat) (hk : ∀ i, key i < 256) (i : Nat) : padKey32 F K L key i < 256 := by
  unfold padKey32
  split
  · split
    · exact Nat.mod_lt _ (by decide)
    · decide
  · split
    · exact hk i
    · decide
theorem macOf_lt32 (F K : Nat → Nat) (L : Nat) (key g : Nat → Nat) (N i : Nat) : macOf32 F K L key g N i < 256 := Nat.mod_lt _ (by decide)

theorem Mac_any32 (n lc Lk ck : Nat) (la ka : Option Addr) (F K g off key : Nat → Nat) (w : World) (hL : Laid w 1 2 F K) (hT : Texts w w.heap.size la n off g) (hR : Rd w w.heap.size ka Lk key)
    (hg : ∀ i, g i < 256) (hk : ∀ i, key i < 256) (hF : ∀ i, F i < 2 ^ 64) (hK : ∀ i, K i < 2 ^ 64) (hck : Lk ≤ ck) (hLk : Lk < 2 ^ 61) (hn : n * 24 ≤ 2 ^ 47) (hN : off n < 2 ^ 60) :
    Calls Tryd.prog 28 #[.int .u8 1, .slice ka Lk ck, .slice la n lc] w (Gave w 74 32 (macOf32 F K Lk key g (off n))) := by
  have hu := under32 Lk ck ka F K key w hL hR hk hF hK hck hLk
  have HU := Lib.hid hu
  clear hu
  go_enter Tryd.func28, Tryd.ntmps28
  go_wp2_with (first
    | (go_at_call 22; refine (mknown32 _).mono ?_; rintro e w' ⟨rfl, rfl⟩)
    | (go_at_call 24; (with_reducible refine (HU.out).mono ?_); rintro e w1 ⟨ri, ro, rfl, hri, hro, hki, hko, hg1⟩))
  have hT1 : Texts w1 w1.heap.size la n off g := (hT.grown hg1 (fun k e => by cases e)).below32 hg1.size
  have hkm := kmac32 ri ro n lc la F K g off (fun i => 54 ^^^ padKey32 F K Lk key i) (fun i => 92 ^^^ padKey32 F K Lk key i) w1 (hL.grown hg1 (by simp) (by simp)) hT1 hg hF hK hn hN hki hko
    (fun i => Nat.xor_lt_two_pow (n := 8) (by decide) (padKey_lt32 F K Lk key hk i)) (fun i => Nat.xor_lt_two_pow (n := 8) (by decide) (padKey_lt32 F K Lk key hk i))
  have HKM := Lib.hid hkm
  clear hkm hki hko hri hro HU
  go_at_call 32
  with_reducible refine (HKM.out).mono ?_
  rintro e w2 ⟨rs, rfl, hrs, hOs, hg2⟩
  go_wp2_with fail
  go_ret
  exact ⟨rs, rfl, Nat.le_trans hg1.size hrs, hOs, grown_trans hg1 hg2⟩

theorem Extract_any32 (L c Lk ck : Nat) (ia ka : Option Addr) (F K ikm key : Nat → Nat) (w : World) (hL : Laid w 1 2 F K) (hI : Rd w w.heap.size ia L ikm) (hR : Rd w w.heap.size ka Lk key)
    (hg : ∀ i, ikm i < 256) (hk : ∀ i, key i < 256) (hF : ∀ i, F i < 2 ^ 64) (hK : ∀ i, K i < 2 ^ 64) (hc : L ≤ c) (hck : Lk ≤ ck) (hLk : Lk < 2 ^ 61) (hN : L < 2 ^ 60) :
    Calls Tryd.prog 21 #[.int .u8 1, .slice ka Lk ck, .slice ia L c] w (Gave w 74 32 (macOf32 F K Lk key ikm L)) := by
  have ga := World.grownBy_alloc w (.cells #[.slice ia L c] 23) none
  have ba := heap_alloc_new w (.cells #[.slice ia L c] 23)
  have za : (w.alloc (.cells #[.slice ia L c] 23)).heap.size = w.heap.size + 1 := by simp
  have hTx : Texts (w.alloc (.cells #[.slice ia L c] 23)) (w.alloc (.cells #[.slice ia L c] 23)).heap.size (some ⟨w.heap.size, 0, none⟩) 1 (fun j => if j = 0 then 0 else L) ikm := ⟨rfl, fun _ => ⟨w.heap.size, 0, rfl, by omega, fun j hj => by
    obtain rfl : j = 0 := by omega
    refine ⟨ia, L, c, by rw [cell_of_row _ _ _ _ _ _ ba]; rfl, hc, by simp, fun h => ?_⟩
    obtain ⟨tb, o, h1, h2, h3⟩ := hI.ex h
    exact ⟨tb, o, h1, by omega, fun j hj => by rw [ga.cell (h3 j hj) (by simp)]; simp⟩⟩⟩
  have hm := Mac_any32 1 1 Lk ck _ ka F K ikm _ key _ (hL.grown ga (by simp) (by simp)) hTx ((hR.grown ga (fun k e => by cases e)).mono (by omega)) hg hk hF hK hck hLk (by decide) (by show L < _; exact hN)
  have HM := Lib.hid hm
  have Hz := Lib.hid za
  have Hga := Lib.hid ga
  clear hm za ga ba hTx
  go_enter Tryd.func21, Tryd.ntmps21
  go_wp2_with fail
  go_at_call 28
  with_reducible refine (HM.out).mono ?_
  rintro e w2 ⟨rs, rfl, hrs, hOs, hg2⟩
  go_wp2_with fail
  go_ret
  exact ⟨rs, rfl, by have := Hz.out; omega, hOs, grown_trans Hga.out hg2⟩

/-- What is expanded, of a secret. -/
def expandOf32 (F K : Nat → Nat) (Lk : Nat) (key : Nat → Nat) (L : Nat) (info : Nat → Nat) : Nat → Nat := outOf32 (macOf32 F K Lk key) L info

/-- Some bytes, and no error. -/
structure GaveOK32 (w : World) (n : Nat) (f : Nat → Nat) (e : Ending) (w' : World) : Prop where
  ex : ∃ r, e = .returned (.tuple #[.slice (some ⟨r, 0, none⟩) n n, .int .i64 0]) ∧ w.heap.size ≤ r ∧ Fill w' r n f ∧ w.grownBy w' none

theorem Expand_ok32 (n Lk ck L c : Nat) (ka ia : Option Addr) (F K key info : Nat → Nat) (w : World) (hL : Laid w 1 2 F K) (hI : Rd w w.heap.size ia L info) (hR : Rd w w.heap.size ka Lk key)
    (hg : ∀ i, info i < 256) (hk : ∀ i, key i < 256) (hF : ∀ i, F i < 2 ^ 64) (hK : ∀ i, K i < 2 ^ 64) (hck : Lk ≤ ck) (hLk : Lk < 2 ^ 61) (hc : L ≤ c) (hLn : L < 2 ^ 59) (hn0 : 1 ≤ n) (hn : n ≤ 255 * 32) :
    Calls Tryd.prog 17 #[.int .u8 1, .slice ka Lk ck, .slice ia L c, .int .i64 n] w (GaveOK32 w n (expandOf32 F K Lk key L info)) := by
  have hu := under32 Lk ck ka F K key w hL hR hk hF hK hck hLk
  have HU := Lib.hid hu
  have n1 : (1 : Int) ≤ n := by omega
  have n2 : (n : Int) ≤ 255 * 32 := by omega
  clear hu
  go_enter Tryd.func17, Tryd.ntmps17
  go_wp2_with (first
    | (go_at_call 22; refine (mknown32 _).mono ?_; rintro e w' ⟨rfl, rfl⟩)
    | (go_at_call 23; refine (msumBytes32 _).mono ?_; rintro e w' ⟨rfl, rfl⟩)
    | (go_at_call 24; (with_reducible refine (HU.out).mono ?_); rintro e w1 ⟨ri, ro, rfl, hri, hro, hki, hko, hg1⟩))
  have hI1 : Rd w1 w1.heap.size ia L info := (hI.grown hg1 (fun k e => by cases e)).mono hg1.size
  have hkm := expanded32 ri ro n L c ia F K info (fun i => 54 ^^^ padKey32 F K Lk key i) (fun i => 92 ^^^ padKey32 F K Lk key i) w1 (hL.grown hg1 (by simp) (by simp)) hI1 hg hF hK hc hLn hn0 hn hki hko
    (fun i => Nat.xor_lt_two_pow (n := 8) (by decide) (padKey_lt32 F K Lk key hk i)) (fun i => Nat.xor_lt_two_pow (n := 8) (by decide) (padKey_lt32 F K Lk key hk i))
  have HKM := Lib.hid hkm
  clear hkm hki hko hri hro HU
  go_at_call 25
  with_reducible refine (HKM.out).mono ?_
  rintro e w2 ⟨rs, rfl, hrs, hOs, hg2⟩
  go_wp2_with fail
  go_ret2
  exact ⟨rs, rfl, Nat.le_trans hg1.size hrs, hOs, grown_trans hg1 hg2⟩

end Go.Proofs.YtobaplndoaeoiaaDoor
