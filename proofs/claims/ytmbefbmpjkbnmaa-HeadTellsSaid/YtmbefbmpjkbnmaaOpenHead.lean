/-
  A header that comes in.
-/
import Derived.Test.YtmbefbmpjkbnmaaOpenNumsW
namespace Go.Proofs.Ytmbefbmpjkbnmaa
open Go.ChangeShapes Go.WideShapes Go.ChangeAt Go.RowKit

set_option maxRecDepth 100000
set_option maxHeartbeats 4000000

section
variable {H : Type} {enc : TypeId × Value → H} {P : Program}
theorem trod_st2H {W : World} {base : Nat} {spare : Nat → Bool} {held : Bool} {t : TypeId} {f0 f1 : Field} {fuel : Nat} {cs : List Value} {x : DataW H × List MemPlace} (ht : P.underlying t = some (.struct #[f0, f1])) (h : DataW.trod enc P W base spare held fuel t cs = some x) :
    ∃ y0 y1 n, DataW.trod enc P W base spare held n f0.type ((cs.drop f0.offset).take (P.cellsOf f0.type)) = some y0 ∧ DataW.trod enc P W base spare held n f1.type ((cs.drop f1.offset).take (P.cellsOf f1.type)) = some y1 := by
  obtain ⟨xs, n, _, rfl, hl, hlen, hf⟩ := DataW.trod_struct ht h
  match xs, hlen with
  | [y0, y1], _ => exact ⟨y0, y1, n, by simpa using hf 0 f0 rfl, by simpa using hf 1 f1 rfl⟩
end
theorem nat_of_u64H {q : Int} (h : (Lit.int .u64 q).wf = true) : ∃ n : Nat, q = (n : Int) ∧ n < 18446744073709551616 := by
  simp [Lit.wf, IntKind.min, IntKind.max, IntKind.bits, IntKind.signed] at h
  exact ⟨q.toNat, by omega, by omega⟩
section
variable {H : Type} {enc : TypeId × Value → H} {W : World} {cs : List Value} {fuel o : Nat} {y : DataW H × List MemPlace}
theorem o_u64H (h : DataW.trod enc Try.prog W 0 (fun _ => true) true fuel 24 ((cs.drop o).take 1) = some y) : ∃ q : Nat, cs[o]? = some (.int .u64 q) ∧ q < 18446744073709551616 := by
  obtain ⟨z, r, _, hw⟩ := DataW.trod_int Try.underlying24 h
  obtain ⟨q, rfl, hq⟩ := nat_of_u64H hw
  exact ⟨q, at_drop r, hq⟩
end
theorem open_head {H : Type} {enc : TypeId × Value → H} {W : World} {v : Value} {d : DataW H} {ps : List MemPlace} {r : Reach} {b0 : Nat}
    (hval : Value.okWide Try.prog W r b0 128 v) (h : DataW.Trod enc Try.prog W 0 (fun _ => true) true 128 v d ps) :
    ∃ k c : Nat, v = .agg #[.int .u64 (k : Nat), .int .u64 (c : Nat)] ∧ k < 18446744073709551616 ∧ c < 18446744073709551616 := by
  have hu := Try.underlying128
  have hv := hval
  simp only [Value.okWide, hu] at hv
  obtain ⟨cs, rfl, hs, _⟩ := hv
  have hsz : cs.size = 2 := by rw [hs]; kernel_rfl
  obtain ⟨fuel, hf⟩ := h
  obtain ⟨y0, y1, n, q0, q1⟩ := trod_st2H hu hf
  obtain ⟨k, h1, h1'⟩ := o_u64H (o := 0) q0
  obtain ⟨c, h2, h2'⟩ := o_u64H (o := 1) q1
  refine ⟨k, c, ?_, h1', h2'⟩
  congr 1
  apply Array.ext
  · rw [hsz]; rfl
  · intro i h3 h4
    obtain rfl | rfl : i = 0 ∨ i = 1 := by omega
    · have e : cs.toList[0]? = some (.int .u64 (k : Nat)) := h1
      rw [Array.getElem?_toList, Array.getElem?_eq_getElem h3] at e
      exact Option.some.inj e
    · have e : cs.toList[1]? = some (.int .u64 (c : Nat)) := h2
      rw [Array.getElem?_toList, Array.getElem?_eq_getElem h3] at e
      exact Option.some.inj e
end Go.Proofs.Ytmbefbmpjkbnmaa
