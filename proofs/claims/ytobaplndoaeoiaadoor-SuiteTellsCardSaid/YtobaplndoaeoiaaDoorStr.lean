/-
  Strings of bytes; and bytes of a constant string.
-/
import Derived.Test.YtobaplndoaeoiaaDoorBytes
import Derived.Lib.SmallJoins
namespace Go.Proofs.YtobaplndoaeoiaaDoor
open Go.RowKit

/-- The string of n bytes. -/
def strOf (n : Nat) (f : Nat → Nat) : ByteArray := ⟨((List.range n).map fun i => UInt8.ofNat (f i)).toArray⟩
theorem strOf_size (n : Nat) (f : Nat → Nat) : (strOf n f).size = n := by simp [strOf, ByteArray.size]
theorem strOf_congr (n : Nat) (f g : Nat → Nat) (h : ∀ i, i < n → f i = g i) : strOf n f = strOf n g := by
  unfold strOf
  congr 2
  exact List.map_congr_left (fun i hi => by rw [h i (List.mem_range.1 hi)])
theorem strOf_inj (n m : Nat) (f g : Nat → Nat) (hf : ∀ i, f i < 256) (hg : ∀ i, g i < 256) : strOf n f = strOf m g ↔ n = m ∧ ∀ i, i < n → f i = g i := by
  constructor
  · intro h
    have hn : n = m := by rw [← strOf_size n f, ← strOf_size m g, h]
    subst hn
    refine ⟨rfl, fun i hi => ?_⟩
    have h1 : ((List.range n).map fun i => UInt8.ofNat (f i)) = ((List.range n).map fun i => UInt8.ofNat (g i)) := by
      have := congrArg (fun b : ByteArray => b.data.toList) h
      simpa [strOf] using this
    have h2 := congrArg (fun l => l[i]?) h1
    simp [hi] at h2
    have h3 := congrArg UInt8.toNat h2
    simp [UInt8.toNat_ofNat'] at h3
    have := hf i
    have := hg i
    omega
  · rintro ⟨rfl, h⟩
    exact strOf_congr n f g h

/-- 'string(b)'. -/
theorem run_string {w : World} {B : Nat} {a : Option Addr} {n : Nat} {f : Nat → Nat} (c : Nat) (h : Rd w B a n f) (hf : ∀ i, f i < 256) : (convert 23 9 (.slice a n c)).run Tryd.prog w = .ok (.string (strOf n f)) w := by
  cases a with
  | none =>
    have h0 : n = 0 := by
      by_cases e : 0 < n
      · obtain ⟨_, _, h1, _⟩ := h.ex e
        cases h1
      · omega
    subst h0
    exact run_convert_bytes_nil w 23 5 (by kernel_rfl) (by kernel_rfl) 0 c 9 (by kernel_rfl)
  | some ad =>
    have := run_convert_bytes_back (P := Tryd.prog) w 23 9 5 ad c ((List.range n).map fun i => UInt8.ofNat (f i)) (by kernel_rfl) (by kernel_rfl) (by kernel_rfl) (fun j hj => by
      have hj' : j < n := by simpa using hj
      obtain ⟨tb, o, h1, _, h3⟩ := h.ex (by omega)
      cases h1
      rw [Addr.add_mid, h3 j hj']
      have := hf j
      simp [UInt8.toNat_ofNat']
      omega)
    rw [List.length_map, List.length_range] at this
    exact this

/-- '[]byte("..")' of a constant: the world behind it, and the bytes. -/
theorem const_bytes (w : World) (n : Nat) (f : Nat → Nat) (C : Array Value) (hC : C = (bytesOf n f).toArray) :
    (∀ g, g = w.heap.size → (convert 23 23 (.slice (some ⟨g, 0, none⟩) n n)).run Tryd.prog (w.alloc (.cells C 5)) = .ok (.slice (some ⟨g, 0, none⟩) n n) (w.alloc (.cells C 5 (C.size, C.size + 1)))) ∧
      w.grownBy (w.alloc (.cells C 5 (C.size, C.size + 1))) none ∧ Rd (w.alloc (.cells C 5 (C.size, C.size + 1))) (w.heap.size + 1) (some ⟨w.heap.size, 0, none⟩) n f := by
  refine ⟨fun g hg => Joins.run_convert_bytes_const_at w 23 5 C n n g hg (by kernel_rfl) (by kernel_rfl), World.grownBy_alloc w _ none, ⟨fun _ => ⟨w.heap.size, 0, rfl, Nat.lt_succ_self _, fun i hi => ?_⟩⟩⟩
  rw [Nat.zero_add, Joins.cell_alloc_mark_at w C 5 _ w.heap.size i rfl, hC]
  simpa using bytesOf_get n f i hi

/-- One text, or two, in a slice of their own. -/
theorem texts1 (w : World) (a : Option Addr) (n c : Nat) (f : Nat → Nat) (B : Nat) (hB : B = w.heap.size) (hc : n ≤ c) (h : Rd w w.heap.size a n f) :
    Texts (w.alloc (.cells #[.slice a n c] 23)) (w.alloc (.cells #[.slice a n c] 23)).heap.size (some ⟨B, 0, none⟩) 1 (fun j => if j = 0 then 0 else n) f := by
  subst hB
  have ga := World.grownBy_alloc w (.cells #[.slice a n c] 23) none
  have ba := heap_alloc_new w (.cells #[.slice a n c] 23)
  have za : (w.alloc (.cells #[.slice a n c] 23)).heap.size = w.heap.size + 1 := by simp
  refine ⟨rfl, fun _ => ⟨w.heap.size, 0, rfl, by omega, fun j hj => ?_⟩⟩
  obtain rfl : j = 0 := by omega
  refine ⟨a, n, c, by rw [cell_of_row _ _ _ _ _ _ ba]; rfl, hc, by simp, fun h0 => ?_⟩
  obtain ⟨tb, o, h1, h2, h3⟩ := h.ex h0
  exact ⟨tb, o, h1, by omega, fun j hj => by rw [ga.cell (h3 j hj) (by simp)]; simp⟩
theorem texts2 (w : World) (a a' : Option Addr) (n c n' c' : Nat) (f f' : Nat → Nat) (B : Nat) (hB : B = w.heap.size) (hc : n ≤ c) (hc' : n' ≤ c') (h : Rd w w.heap.size a n f) (h' : Rd w w.heap.size a' n' f') :
    Texts (w.alloc (.cells #[.slice a n c, .slice a' n' c'] 23)) (w.alloc (.cells #[.slice a n c, .slice a' n' c'] 23)).heap.size (some ⟨B, 0, none⟩) 2 (fun j => if j = 0 then 0 else if j = 1 then n else n + n')
      (fun i => if i < n then f i else f' (i - n)) := by
  subst hB
  have ga := World.grownBy_alloc w (.cells #[.slice a n c, .slice a' n' c'] 23) none
  have ba := heap_alloc_new w (.cells #[.slice a n c, .slice a' n' c'] 23)
  have za : (w.alloc (.cells #[.slice a n c, .slice a' n' c'] 23)).heap.size = w.heap.size + 1 := by simp
  refine ⟨rfl, fun _ => ⟨w.heap.size, 0, rfl, by omega, fun j hj => ?_⟩⟩
  obtain rfl | rfl : j = 0 ∨ j = 1 := by omega
  · refine ⟨a, n, c, by rw [cell_of_row _ _ _ _ _ _ ba]; rfl, hc, by simp, fun h0 => ?_⟩
    obtain ⟨tb, o, h1, h2, h3⟩ := h.ex h0
    exact ⟨tb, o, h1, by omega, fun j hj => by rw [ga.cell (h3 j hj) (by simp)]; simp [hj]⟩
  · refine ⟨a', n', c', by rw [cell_of_row _ _ _ _ _ _ ba]; rfl, hc', by simp, fun h0 => ?_⟩
    obtain ⟨tb, o, h1, h2, h3⟩ := h'.ex h0
    refine ⟨tb, o, h1, by omega, fun j hj => ?_⟩
    rw [ga.cell (h3 j hj) (by simp)]
    have e1 : ¬ (n + j < n) := by omega
    have e2 : n + j - n = j := by omega
    show _ = some (Value.int .u8 ((if n + j < n then f (n + j) else f' (n + j - n) : Nat)))
    rw [if_neg e1, e2]
/-- What was known of bytes below is known above. -/
theorem Rd.up {w w' : World} {B : Nat} {a : Option Addr} {L : Nat} {g : Nat → Nat} (h : Rd w B a L g) (hB : B ≤ w.heap.size) (hg : w.grownBy w' none) : Rd w' w'.heap.size a L g :=
  (h.grown hg (fun k e => by cases e)).mono (Nat.le_trans hB hg.size)

end Go.Proofs.YtobaplndoaeoiaaDoor
