/-
  Bytes behind a slice that is full: that only makes memory. And as an operation of a region that draws its order.
-/
import Derived.Test.YtpkeolggehjjlaaOwnR
import Derived.Test.YtpkeolggehjjlaaRelKit
namespace Go.Proofs.Ytpkeolggehjjlaa
open Go.RowKit

set_option maxRecDepth 100000

/-- Bytes in a slice of their own. -/
def OwnV (n : Nat) (f : Nat → Nat) (x : Value) (W : World) : Prop := ∃ g cap, x = .slice (some ⟨g, 0, none⟩) n cap ∧ OwnR W g n cap f
theorem OwnV.grown {n : Nat} {f : Nat → Nat} {x : Value} {W W' : World} (h : OwnV n f x W) (g : W.grownBy W' none) : OwnV n f x W' := by
  obtain ⟨b, c, h1, h2⟩ := h
  exact ⟨b, c, h1, h2.grown g (by simp)⟩
theorem app_full {w : World} {B g n m : Nat} {a : Option Addr} {f f' : Nat → Nat} (c : Nat) (ty : TypeId) (h : OwnR w g n n f) (hx : Rd w B a m f') (hn : n + m ≤ 2 ^ 46) :
    ∃ v w', (Builtin.append_ #[28, 28] ty #[.slice (some ⟨g, 0, none⟩) n n, .slice a m c]).run Try.prog w = .ok v w' ∧ w.grownBy w' none ∧ OwnV (n + m) (cat n f f') v w' := by
  obtain ⟨i0, hi, hz, hsz, hby⟩ := info_parts info_u8
  have hsrc := src_bytes c hx
  have hl : (bytesOf m f').length = m := bytesOf_length m f'
  rw [← hsz] at hsrc
  by_cases hroom : n + m ≤ n
  · obtain rfl : m = 0 := by omega
    have hr := run_append_room_src w 28 28 ty 5 i0 under_bytes hi g 0 n n (.slice a 0 c) 0 (bytesOf 0 f') hsrc hroom
      (fun j hj => by omega) (fun j _ => h.free _)
    rw [hsz, Nat.zero_add, Nat.mul_one] at hr
    refine ⟨_, _, hr, grown_refl w none, g, n, rfl, ?_⟩
    exact OwnR.congr (f := f) h (fun i hi => (if_pos (by omega)).symm)
  · have hfit : Builtin.nextslicecap (n + m) n * i0.bytes ≤ 281474976710656 := by
      rw [hby]
      have := nextslicecap_le (need := n + m) (old := n) (by omega)
      omega
    have hr := run_append_grow_src w 28 28 ty 5 i0 (.int .u8 0) under_bytes hi hz (some ⟨g, 0, none⟩) n n (bytesOf n f)
      (by
        rw [hsz]
        refine run_firstCells_some w.drew 1 n ⟨g, 0, none⟩ n n (bytesOf n f) (by simp [bytesOf]) (fun j u hj => ?_)
        have hj' : j < n := by
          have := (List.getElem?_eq_some_iff.1 hj).1
          simpa [bytesOf] using this
        rw [bytesOf_get n f j hj'] at hj
        cases hj
        rw [Addr.add_mid, Nat.zero_add]
        exact h.cell j hj')
      (.slice a m c) m (bytesOf m f') hsrc (by omega) (by omega) hfit
    rw [bytesOf_append n m f f' (cat n f f') (fun i hi => by simp [cat, hi]) (fun i hi => by
      unfold cat; rw [if_neg (by omega), show n + i - n = i by omega])] at hr
    have hcg := grownCap_ge w (n + m) n 5
    generalize grownCap w (n + m) n 5 = cap' at *
    have hb := heap_alloc_new w.drew (.cells ((bytesOf (n + m) (cat n f f')).toArray ++ Builtin.zeroCells (Value.cells (.int .u8 0)) (cap' - (n + m))) 5)
    have hb' : w.drew.heap.size = w.heap.size := rfl
    rw [hb'] at hb
    have hg0 := grown_alloc (grown_drew (grown_refl w none)) (.cells ((bytesOf (n + m) (cat n f f')).toArray ++ Builtin.zeroCells (Value.cells (.int .u8 0)) (cap' - (n + m))) 5)
    refine ⟨_, _, hr, hg0, w.heap.size, cap', rfl, ⟨fun i hi => ?_, fun i hi => ?_, fun i => frozen_of_row _ _ _ _ _ hb, hcg, by simp [hb']⟩⟩
    · rw [cell_of_row _ _ _ _ _ _ hb, Array.getElem?_append_left (by simpa [bytesOf] using hi)]
      simpa using bytesOf_get (n + m) (cat n f f') i hi
    · rw [cell_of_row _ _ _ _ _ _ hb, Array.getElem?_eq_getElem (by
        rw [Array.size_append, size_zeroCells]
        simp [bytesOf, Value.cells]; omega)]
      rfl
theorem rel_append {Q : Exit → Act → World → Prop} {o : Oper} {b : Act} {W : World} {K : Act → World → Prop} {R : Value → World → Prop} (s x : Operand) (t t' : TypeId)
    (ho : o.op = .call { callee := .builtin .append, args := #[s, x], argTypes := #[t, t'] }) (vs vx v : Value) (w' : World) (hs : b.eval s = vs) (hx : b.eval x = vx)
    (hrun : (Builtin.append_ #[t, t'] o.type #[vs, vx]).run Try.prog W = .ok v w') (hg : W.grownBy w' none) (hR : R v w') (hK : ∀ v W', W.grownBy W' none → R v W' → K (b.put o.dst v) W') : o.wp Try.prog b W K Q := by
  have h := hK v w' hg hR
  unfold Oper.wp
  simp [execOp, ho, resolve, invoke, builtin, hs, hx, hrun, Result.andThen]
  exact h
end Go.Proofs.Ytpkeolggehjjlaa
