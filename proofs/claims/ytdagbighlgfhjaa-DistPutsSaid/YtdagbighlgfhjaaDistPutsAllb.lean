/-
  The reference's PacketBytes.
-/
import Derived.Test.YtdagbighlgfhjaaDistPutsAlla
import Derived.Test.YtdagbighlgfhjaaLaw
import Derived.Test.YtdagbighlgfhjaaRd
import Derived.Deep.Slices
import Derived.Test.YtdagbighlgfhjaaSliceQ
import Derived.Test.YtdagbighlgfhjaaRefDev
import Derived.Test.YtdagbighlgfhjaaExecQ
import Derived.Test.YtdagbighlgfhjaaRefDistB
namespace Go.Proofs.Ytdagbighlgfhjaa
open Go.ChangeShapes Go.WideShapes Go.ChangeAt Go.RowKit

section
variable {H : Type} {enc : TypeId × Value → H} {P : Program}

theorem open_arr8 {W : World} {t e : TypeId} {n : Nat} {r : Reach} {b0 : Nat} {v : Value} {d : DataW H} {ps : List MemPlace} (ht : P.underlying t = some (.array n e)) (he : P.underlying e = some (.int .u8)) (hc : P.cellsOf e = 1) (hn : P.cellsOf t = n)
    (hval : Value.okWide P W r b0 t v) (h : DataW.Trod enc P W 0 (fun _ => true) true t v d ps) : ∃ f, v = .agg (cellsOf .u8 n f) ∧ ∀ i, f i < 256 := by
  have hv := hval
  simp only [Value.okWide, ht] at hv
  obtain ⟨cs, rfl, hs, _⟩ := hv
  obtain ⟨fuel, hf⟩ := h
  obtain ⟨xs, m, rfl, _, hl, _, hel⟩ := DataW.trod_array ht hf
  have key : ∀ i, i < n → ∃ q : Nat, q < 256 ∧ cs[i]? = some (.int .u8 q) := fun i hi => by
    have h1 := hel i hi
    rw [hc, Nat.mul_one] at h1
    cases hx : xs[i]? with
    | none =>
      rw [hx] at h1
      have hlen : i < cs.toList.length := by
        have : cs.size = n := by rw [hs, hn]
        simp [this]; exact hi
      exfalso
      rename_i hxl
      have : xs.length ≤ i := by simpa using hx
      omega
    | some x =>
      rw [hx] at h1
      obtain ⟨q, e1, _, hw⟩ := DataW.trod_int he h1
      have h2 := getElem?_of_take_drop _ i _ e1
      simp [Lit.wf, IntKind.min, IntKind.max, IntKind.bits, IntKind.signed] at hw
      refine ⟨q.toNat, by omega, ?_⟩
      have e2 : ((q.toNat : Nat) : Int) = q := by omega
      rw [e2]
      simpa [Value.cells] using h2
  refine ⟨fun i => (match cs[i]? with | some (.int _ q) => q.toNat | _ => 0) % 256, ?_, fun i => Nat.mod_lt _ (by decide)⟩
  congr 1
  apply Array.ext
  · rw [cellsOf_size, hs, hn]
  · intro i h1 h2
    have hi : i < n := by rwa [hs, hn] at h1
    obtain ⟨q, hq, hcq⟩ := key i hi
    have e1 := cellsOf_get .u8 n (fun i => (match cs[i]? with | some (.int _ q) => q.toNat | _ => 0) % 256) i hi
    rw [Array.getElem?_eq_getElem h2] at e1
    rw [Array.getElem?_eq_getElem h1] at hcq
    injection e1 with e1
    injection hcq with hcq'
    rw [e1, hcq']
    simp only [Array.getElem?_eq_getElem h1, hcq']
    congr 1
    simp; omega

/-- A byte that comes in. -/
theorem open_u8 {W : World} {t : TypeId} {r : Reach} {b0 : Nat} {v : Value} {d : DataW H} {ps : List MemPlace} (ht : P.underlying t = some (.int .u8))
    (hval : Value.okWide P W r b0 t v) (h : DataW.Trod enc P W 0 (fun _ => true) true t v d ps) : ∃ n : Nat, v = .int .u8 n ∧ n < 256 := by
  obtain ⟨x, rfl, _, _, hx⟩ := open_int ht hval h
  simp [Lit.wf, IntKind.min, IntKind.max, IntKind.bits, IntKind.signed] at hx
  exact ⟨x.toNat, by rw [show ((x.toNat : Nat) : Int) = x by omega], by omega⟩

end
end Go.Proofs.Ytdagbighlgfhjaa
namespace Go.Proofs.Ytdagbighlgfhjaa
open Go.ChangeShapes Go.WideShapes Go.ChangeAt Go.RowKit

set_option maxRecDepth 100000

section
variable {H : Type} {enc : TypeId × Value → H} {P : Program}
theorem at_drop {cs : List Value} {i : Nat} {v : Value} (h : (cs.drop i).take 1 = [v]) : cs[i]? = some v := getElem?_of_take_drop _ i _ h
/-- A slice of numbers, out of its cell. -/
theorem open_numsW {W : World} {t e : TypeId} {k : IntKind} {fuel : Nat} {cs : List Value} {x : DataW H × List MemPlace} (ht : P.underlying t = some (.slice e)) (he : P.underlying e = some (.int k)) (hc : P.cellsOf e = 1) (h0 : (Lit.int k 0).wf = true) (hby : 1 ≤ P.bytesOf e)
    (h : DataW.trod enc P W 0 (fun _ => true) true fuel t cs = some x) (hw : ∀ y, y ∈ x.1.weights P t → y ≤ reachBytes) :
    ∃ (a : Option Addr) (n c : Nat) (z : Nat → Int), cs = [.slice a n c] ∧ n ≤ 140737488355328 ∧ (∀ i, (Lit.int k (z i)).wf = true) ∧
      (0 < n → ∃ tb o, a = some ⟨tb, o, none⟩ ∧ tb < W.heap.size ∧ ∀ i, i < n → W.cell? ⟨tb, o + i, none⟩ = some (.int k (z i))) := by
  rcases open_ints ht he hc h with ⟨h1, _⟩ | ⟨a, len, cap, zs, h1, _, hlc, _, hzl, hx, hcell, hwf⟩
  · exact ⟨none, 0, 0, fun _ => 0, h1, Nat.zero_le _, fun _ => h0, fun h => absurd h (by omega)⟩
  · have hzl' : len ≤ zs.length := by rw [hzl]; simp [hlc]
    refine ⟨some a, len, cap, fun i => zs.getD i 0, h1, ?_, fun i => ?_, fun hn => ?_⟩
    · have := hw ((min len zs.length + (zs.length - len)) * P.bytesOf e) (by
        rw [hx]
        unfold DataW.weights
        rw [ht]
        refine List.mem_cons.2 (Or.inl ?_)
        simp [lits])
      have h2 : (min len zs.length + (zs.length - len)) * 1 ≤ (min len zs.length + (zs.length - len)) * P.bytesOf e := Nat.mul_le_mul_left _ hby
      unfold reachBytes at this
      omega
    · show (Lit.int k (zs.getD i 0)).wf = true
      by_cases hi : i < zs.length
      · have e1 : zs.getD i 0 = zs[i] := by simp [List.getD, List.getElem?_eq_getElem hi]
        rw [e1]
        exact hwf zs[i] (List.getElem_mem hi)
      · have e1 : zs.getD i 0 = 0 := by simp [List.getD, List.getElem?_eq_none (Nat.le_of_not_lt hi)]
        rw [e1]; exact h0
    · have h0' := hcell 0 (by omega)
      have hspot : a.spot = none := by simpa [Addr.add] using World.cell?_spot h0'
      obtain ⟨tb, o, sp⟩ := a
      simp only at hspot
      subst hspot
      refine ⟨tb, o, rfl, ?_, fun i hi => ?_⟩
      · have := World.block_lt_of_cell? W _ h0'
        simpa [Addr.add] using this
      · have h1 := hcell i (by omega)
        rw [Addr.add_mid] at h1
        exact h1
/-- Bytes that come in, and how many. -/
theorem open_bytesW {W : World} {t e : TypeId} {r : Reach} {b0 : Nat} {v : Value} {d : DataW H} {ps : List MemPlace} (ht : P.underlying t = some (.slice e)) (he : P.underlying e = some (.int .u8)) (hc : P.cellsOf e = 1) (hby : 1 ≤ P.bytesOf e)
    (hval : Value.okWide P W r b0 t v) (h : DataW.Trod enc P W 0 (fun _ => true) true t v d ps) (hw : ∀ y, y ∈ d.weights P t → y ≤ reachBytes) :
    ∃ a n c f, v = .slice a n c ∧ n ≤ c ∧ n ≤ 140737488355328 ∧ Rd W W.heap.size a n f ∧ ∀ i, f i < 256 := by
  obtain ⟨a0, len, cap, rfl⟩ := okWide_slice ht hval
  obtain ⟨fuel, hf⟩ := h
  obtain ⟨a, n, c, z, h1, hb, hwf, hcell⟩ := open_numsW ht he hc (by rfl) hby hf hw
  simp [Value.cells] at h1
  obtain ⟨rfl, rfl, rfl⟩ := h1
  have hlc : len ≤ cap := by
    rcases open_ints ht he hc hf with ⟨h2, _⟩ | ⟨_, _, _, _, h2, _, h3, _⟩
    · simp [Value.cells] at h2
      omega
    · simp [Value.cells] at h2
      omega
  have wb : ∀ i, 0 ≤ z i ∧ z i < 256 := fun i => by have := hwf i; simp [Lit.wf, IntKind.min, IntKind.max, IntKind.bits, IntKind.signed] at this; omega
  refine ⟨a0, len, cap, fun i => (z i).toNat, rfl, hlc, hb, ⟨fun hn => ?_⟩, fun i => by have := wb i; show (z i).toNat < 256; omega⟩
  obtain ⟨tb, o, e1, e2, e3⟩ := hcell hn
  refine ⟨tb, o, e1, e2, fun i hi => ?_⟩
  have := wb i
  rw [e3 i hi]
  show some (Value.int .u8 (z i)) = some (Value.int .u8 (((z i).toNat : Nat) : Int))
  rw [show (((z i).toNat : Nat) : Int) = z i by omega]
end
end Go.Proofs.Ytdagbighlgfhjaa
namespace Go.Proofs.Ytdagbighlgfhjaa
open Go.ChangeShapes Go.WideShapes Go.ChangeAt Go.RowKit

set_option maxRecDepth 100000
set_option maxHeartbeats 4000000

section
variable {H : Type} {enc : TypeId × Value → H} {P : Program}
theorem trod_st2 {W : World} {base : Nat} {spare : Nat → Bool} {held : Bool} {t : TypeId} {f0 f1 : Field} {fuel : Nat} {cs : List Value} {x : DataW H × List MemPlace} (ht : P.underlying t = some (.struct #[f0, f1])) (h : DataW.trod enc P W base spare held fuel t cs = some x) :
    ∃ y0 y1 n, x.1 = .agg [y0.1, y1.1] ∧ DataW.trod enc P W base spare held n f0.type ((cs.drop f0.offset).take (P.cellsOf f0.type)) = some y0 ∧ DataW.trod enc P W base spare held n f1.type ((cs.drop f1.offset).take (P.cellsOf f1.type)) = some y1 := by
  obtain ⟨xs, n, _, rfl, hl, hlen, hf⟩ := DataW.trod_struct ht h
  match xs, hlen with
  | [y0, y1], _ => exact ⟨y0, y1, n, by simp, by simpa using hf 0 f0 rfl, by simpa using hf 1 f1 rfl⟩
theorem weights_st2 {t : TypeId} {f0 f1 : Field} {ls : List (DataW H)} (ht : P.underlying t = some (.struct #[f0, f1])) : (DataW.agg ls).weights P t = DataW.weightsEach P [f0.type, f1.type] ls := by
  conv => lhs; unfold DataW.weights
  rw [ht]
  rfl
theorem trod_st3 {W : World} {base : Nat} {spare : Nat → Bool} {held : Bool} {t : TypeId} {f0 f1 f2 : Field} {fuel : Nat} {cs : List Value} {x : DataW H × List MemPlace} (ht : P.underlying t = some (.struct #[f0, f1, f2])) (h : DataW.trod enc P W base spare held fuel t cs = some x) :
    ∃ y0 y1 y2 n, x.1 = .agg [y0.1, y1.1, y2.1] ∧ DataW.trod enc P W base spare held n f0.type ((cs.drop f0.offset).take (P.cellsOf f0.type)) = some y0 ∧ DataW.trod enc P W base spare held n f1.type ((cs.drop f1.offset).take (P.cellsOf f1.type)) = some y1 ∧ DataW.trod enc P W base spare held n f2.type ((cs.drop f2.offset).take (P.cellsOf f2.type)) = some y2 := by
  obtain ⟨xs, n, _, rfl, hl, hlen, hf⟩ := DataW.trod_struct ht h
  match xs, hlen with
  | [y0, y1, y2], _ => exact ⟨y0, y1, y2, n, by simp, by simpa using hf 0 f0 rfl, by simpa using hf 1 f1 rfl, by simpa using hf 2 f2 rfl⟩
theorem weights_st3 {t : TypeId} {f0 f1 f2 : Field} {ls : List (DataW H)} (ht : P.underlying t = some (.struct #[f0, f1, f2])) : (DataW.agg ls).weights P t = DataW.weightsEach P [f0.type, f1.type, f2.type] ls := by
  conv => lhs; unfold DataW.weights
  rw [ht]
  rfl
theorem trod_st4 {W : World} {base : Nat} {spare : Nat → Bool} {held : Bool} {t : TypeId} {f0 f1 f2 f3 : Field} {fuel : Nat} {cs : List Value} {x : DataW H × List MemPlace} (ht : P.underlying t = some (.struct #[f0, f1, f2, f3])) (h : DataW.trod enc P W base spare held fuel t cs = some x) :
    ∃ y0 y1 y2 y3 n, x.1 = .agg [y0.1, y1.1, y2.1, y3.1] ∧ DataW.trod enc P W base spare held n f0.type ((cs.drop f0.offset).take (P.cellsOf f0.type)) = some y0 ∧ DataW.trod enc P W base spare held n f1.type ((cs.drop f1.offset).take (P.cellsOf f1.type)) = some y1 ∧ DataW.trod enc P W base spare held n f2.type ((cs.drop f2.offset).take (P.cellsOf f2.type)) = some y2 ∧ DataW.trod enc P W base spare held n f3.type ((cs.drop f3.offset).take (P.cellsOf f3.type)) = some y3 := by
  obtain ⟨xs, n, _, rfl, hl, hlen, hf⟩ := DataW.trod_struct ht h
  match xs, hlen with
  | [y0, y1, y2, y3], _ => exact ⟨y0, y1, y2, y3, n, by simp, by simpa using hf 0 f0 rfl, by simpa using hf 1 f1 rfl, by simpa using hf 2 f2 rfl, by simpa using hf 3 f3 rfl⟩
theorem weights_st4 {t : TypeId} {f0 f1 f2 f3 : Field} {ls : List (DataW H)} (ht : P.underlying t = some (.struct #[f0, f1, f2, f3])) : (DataW.agg ls).weights P t = DataW.weightsEach P [f0.type, f1.type, f2.type, f3.type] ls := by
  conv => lhs; unfold DataW.weights
  rw [ht]
  rfl
theorem trod_st5 {W : World} {base : Nat} {spare : Nat → Bool} {held : Bool} {t : TypeId} {f0 f1 f2 f3 f4 : Field} {fuel : Nat} {cs : List Value} {x : DataW H × List MemPlace} (ht : P.underlying t = some (.struct #[f0, f1, f2, f3, f4])) (h : DataW.trod enc P W base spare held fuel t cs = some x) :
    ∃ y0 y1 y2 y3 y4 n, x.1 = .agg [y0.1, y1.1, y2.1, y3.1, y4.1] ∧ DataW.trod enc P W base spare held n f0.type ((cs.drop f0.offset).take (P.cellsOf f0.type)) = some y0 ∧ DataW.trod enc P W base spare held n f1.type ((cs.drop f1.offset).take (P.cellsOf f1.type)) = some y1 ∧ DataW.trod enc P W base spare held n f2.type ((cs.drop f2.offset).take (P.cellsOf f2.type)) = some y2 ∧ DataW.trod enc P W base spare held n f3.type ((cs.drop f3.offset).take (P.cellsOf f3.type)) = some y3 ∧ DataW.trod enc P W base spare held n f4.type ((cs.drop f4.offset).take (P.cellsOf f4.type)) = some y4 := by
  obtain ⟨xs, n, _, rfl, hl, hlen, hf⟩ := DataW.trod_struct ht h
  match xs, hlen with
  | [y0, y1, y2, y3, y4], _ => exact ⟨y0, y1, y2, y3, y4, n, by simp, by simpa using hf 0 f0 rfl, by simpa using hf 1 f1 rfl, by simpa using hf 2 f2 rfl, by simpa using hf 3 f3 rfl, by simpa using hf 4 f4 rfl⟩
theorem weights_st5 {t : TypeId} {f0 f1 f2 f3 f4 : Field} {ls : List (DataW H)} (ht : P.underlying t = some (.struct #[f0, f1, f2, f3, f4])) : (DataW.agg ls).weights P t = DataW.weightsEach P [f0.type, f1.type, f2.type, f3.type, f4.type] ls := by
  conv => lhs; unfold DataW.weights
  rw [ht]
  rfl
theorem trod_st6 {W : World} {base : Nat} {spare : Nat → Bool} {held : Bool} {t : TypeId} {f0 f1 f2 f3 f4 f5 : Field} {fuel : Nat} {cs : List Value} {x : DataW H × List MemPlace} (ht : P.underlying t = some (.struct #[f0, f1, f2, f3, f4, f5])) (h : DataW.trod enc P W base spare held fuel t cs = some x) :
    ∃ y0 y1 y2 y3 y4 y5 n, x.1 = .agg [y0.1, y1.1, y2.1, y3.1, y4.1, y5.1] ∧ DataW.trod enc P W base spare held n f0.type ((cs.drop f0.offset).take (P.cellsOf f0.type)) = some y0 ∧ DataW.trod enc P W base spare held n f1.type ((cs.drop f1.offset).take (P.cellsOf f1.type)) = some y1 ∧ DataW.trod enc P W base spare held n f2.type ((cs.drop f2.offset).take (P.cellsOf f2.type)) = some y2 ∧ DataW.trod enc P W base spare held n f3.type ((cs.drop f3.offset).take (P.cellsOf f3.type)) = some y3 ∧ DataW.trod enc P W base spare held n f4.type ((cs.drop f4.offset).take (P.cellsOf f4.type)) = some y4 ∧ DataW.trod enc P W base spare held n f5.type ((cs.drop f5.offset).take (P.cellsOf f5.type)) = some y5 := by
  obtain ⟨xs, n, _, rfl, hl, hlen, hf⟩ := DataW.trod_struct ht h
  match xs, hlen with
  | [y0, y1, y2, y3, y4, y5], _ => exact ⟨y0, y1, y2, y3, y4, y5, n, by simp, by simpa using hf 0 f0 rfl, by simpa using hf 1 f1 rfl, by simpa using hf 2 f2 rfl, by simpa using hf 3 f3 rfl, by simpa using hf 4 f4 rfl, by simpa using hf 5 f5 rfl⟩
theorem weights_st6 {t : TypeId} {f0 f1 f2 f3 f4 f5 : Field} {ls : List (DataW H)} (ht : P.underlying t = some (.struct #[f0, f1, f2, f3, f4, f5])) : (DataW.agg ls).weights P t = DataW.weightsEach P [f0.type, f1.type, f2.type, f3.type, f4.type, f5.type] ls := by
  conv => lhs; unfold DataW.weights
  rw [ht]
  rfl
/-- An array of bytes among cells. -/
theorem trod_arr8 {W : World} {t e : TypeId} {n o fuel : Nat} {cs : List Value} {x : DataW H × List MemPlace} (ht : P.underlying t = some (.array n e)) (he : P.underlying e = some (.int .u8)) (hc : P.cellsOf e = 1)
    (h : DataW.trod enc P W 0 (fun _ => true) true fuel t ((cs.drop o).take n) = some x) : ∃ f : Nat → Nat, (∀ i, f i < 256) ∧ ∀ i, i < n → cs[o + i]? = some (.int .u8 (f i)) := by
  obtain ⟨xs, m, rfl, _, _, hxl, hel⟩ := DataW.trod_array ht h
  have key : ∀ i, i < n → ∃ q : Nat, q < 256 ∧ cs[o + i]? = some (.int .u8 q) := fun i hi => by
    have h1 := hel i hi
    rw [hc, Nat.mul_one] at h1
    have hx : ∃ y, xs[i]? = some y := ⟨xs[i]'(by omega), List.getElem?_eq_getElem (by omega)⟩
    obtain ⟨y, hx⟩ := hx
    rw [hx] at h1
    obtain ⟨q, e1, _, hw⟩ := DataW.trod_int he h1
    have h2 := getElem?_of_take_drop _ i _ e1
    simp [Lit.wf, IntKind.min, IntKind.max, IntKind.bits, IntKind.signed] at hw
    refine ⟨q.toNat, by omega, ?_⟩
    have e2 : ((q.toNat : Nat) : Int) = q := by omega
    rw [e2, ← h2, List.getElem?_take, if_pos hi, List.getElem?_drop]
  refine ⟨fun i => (match cs[o + i]? with | some (.int _ q) => q.toNat | _ => 0) % 256, fun i => Nat.mod_lt _ (by decide), fun i hi => ?_⟩
  obtain ⟨q, hq, hcq⟩ := key i hi
  have e : (match cs[o + i]? with | some (.int _ q) => q.toNat | _ => 0) = q := by rw [hcq]; rfl
  show cs[o + i]? = some (.int .u8 (((match cs[o + i]? with | some (.int _ q) => q.toNat | _ => 0) % 256 : Nat) : Int))
  rw [e, Nat.mod_eq_of_lt hq]
  exact hcq
theorem sub_cells (cs : List Value) (o n k m : Nat) (h : k + m ≤ n) : (((cs.drop o).take n).drop k).take m = (cs.drop (o + k)).take m := by
  rw [List.drop_take, List.take_take, List.drop_drop]
  congr 1
  omega
end
theorem nat_of_u8 {q : Int} (h : (Lit.int .u8 q).wf = true) : ∃ n : Nat, q = (n : Int) ∧ n < 256 := by
  simp [Lit.wf, IntKind.min, IntKind.max, IntKind.bits, IntKind.signed] at h
  exact ⟨q.toNat, by omega, by omega⟩
theorem nat_of_u32 {q : Int} (h : (Lit.int .u32 q).wf = true) : ∃ n : Nat, q = (n : Int) ∧ n < 4294967296 := by
  simp [Lit.wf, IntKind.min, IntKind.max, IntKind.bits, IntKind.signed] at h
  exact ⟨q.toNat, by omega, by omega⟩
theorem nat_of_u64 {q : Int} (h : (Lit.int .u64 q).wf = true) : ∃ n : Nat, q = (n : Int) ∧ n < 18446744073709551616 := by
  simp [Lit.wf, IntKind.min, IntKind.max, IntKind.bits, IntKind.signed] at h
  exact ⟨q.toNat, by omega, by omega⟩
section
variable {H : Type} {enc : TypeId × Value → H} {W : World} {cs : List Value} {fuel o : Nat} {y : DataW H × List MemPlace}
theorem o_u8 (h : DataW.trod enc Try.prog W 0 (fun _ => true) true fuel 5 ((cs.drop o).take 1) = some y) : ∃ q : Nat, cs[o]? = some (.int .u8 q) ∧ q < 256 := by
  obtain ⟨z, r, _, hw⟩ := DataW.trod_int Try.underlying5 h
  obtain ⟨q, rfl, hq⟩ := nat_of_u8 hw
  exact ⟨q, at_drop r, hq⟩
theorem o_u32 (h : DataW.trod enc Try.prog W 0 (fun _ => true) true fuel 34 ((cs.drop o).take 1) = some y) : ∃ q : Nat, cs[o]? = some (.int .u32 q) ∧ q < 4294967296 := by
  obtain ⟨z, r, _, hw⟩ := DataW.trod_int Try.underlying34 h
  obtain ⟨q, rfl, hq⟩ := nat_of_u32 hw
  exact ⟨q, at_drop r, hq⟩
theorem o_u64 (h : DataW.trod enc Try.prog W 0 (fun _ => true) true fuel 24 ((cs.drop o).take 1) = some y) : ∃ q : Nat, cs[o]? = some (.int .u64 q) ∧ q < 18446744073709551616 := by
  obtain ⟨z, r, _, hw⟩ := DataW.trod_int Try.underlying24 h
  obtain ⟨q, rfl, hq⟩ := nat_of_u64 hw
  exact ⟨q, at_drop r, hq⟩
theorem o_bool (h : DataW.trod enc Try.prog W 0 (fun _ => true) true fuel 4 ((cs.drop o).take 1) = some y) : ∃ q : Bool, cs[o]? = some (.bool q) := by
  obtain ⟨q, r, _⟩ := DataW.trod_bool Try.underlying4 h
  exact ⟨q, at_drop r⟩
theorem o_id (h : DataW.trod enc Try.prog W 0 (fun _ => true) true fuel 23 ((cs.drop o).take 16) = some y) : ∃ f : Nat → Nat, (∀ i, f i < 256) ∧ ∀ i, i < 16 → cs[o + i]? = some (.int .u8 (f i)) := trod_arr8 (t := 23) (n := 16) (e := 5) (by kernel_rfl) Try.underlying5 (by kernel_rfl) h
theorem o_key (h : DataW.trod enc Try.prog W 0 (fun _ => true) true fuel 28 ((cs.drop o).take 32) = some y) : ∃ f : Nat → Nat, (∀ i, f i < 256) ∧ ∀ i, i < 32 → cs[o + i]? = some (.int .u8 (f i)) := trod_arr8 (t := 28) (n := 32) (e := 5) (by kernel_rfl) Try.underlying5 (by kernel_rfl) h
theorem o_dev (h : DataW.trod enc Try.prog W 0 (fun _ => true) true fuel 26 ((cs.drop o).take 2) = some y) : ∃ f : Nat → Nat, (∀ i, f i < 256) ∧ ∀ i, i < 2 → cs[o + i]? = some (.int .u8 (f i)) := by
  obtain ⟨y0, y1, n, hx, q0, q1⟩ := trod_st2 Try.underlying26 h
  replace q0 : DataW.trod enc Try.prog W 0 (fun _ => true) true n 5 ((cs.drop (o + 0)).take 1) = some y0 := by rw [← sub_cells cs o 2 0 1 (by decide)]; exact q0
  replace q1 : DataW.trod enc Try.prog W 0 (fun _ => true) true n 5 ((cs.drop (o + 1)).take 1) = some y1 := by rw [← sub_cells cs o 2 1 1 (by decide)]; exact q1
  obtain ⟨a, ha, ha'⟩ := o_u8 q0
  obtain ⟨b, hb, hb'⟩ := o_u8 q1
  refine ⟨fun i => if i = 0 then a else b, fun i => by dsimp; split <;> assumption, fun i hi => ?_⟩
  obtain rfl | rfl : i = 0 ∨ i = 1 := by omega
  · exact ha
  · exact hb
theorem o_hdr (h : DataW.trod enc Try.prog W 0 (fun _ => true) true fuel 36 ((cs.drop o).take 34) = some y) : ∃ x : HV, x.Ok ∧ ∀ i, i < 34 → cs[o + i]? = some (x.v i) := by
  obtain ⟨y0, y1, y2, n, hx, q0, q1, q2⟩ := trod_st3 Try.underlying36 h
  replace q0 : DataW.trod enc Try.prog W 0 (fun _ => true) true n 28 ((cs.drop (o + 0)).take 32) = some y0 := by rw [← sub_cells cs o 34 0 32 (by decide)]; exact q0
  replace q1 : DataW.trod enc Try.prog W 0 (fun _ => true) true n 34 ((cs.drop (o + 32)).take 1) = some y1 := by rw [← sub_cells cs o 34 32 1 (by decide)]; exact q1
  replace q2 : DataW.trod enc Try.prog W 0 (fun _ => true) true n 34 ((cs.drop (o + 33)).take 1) = some y2 := by rw [← sub_cells cs o 34 33 1 (by decide)]; exact q2
  obtain ⟨f, hf, hc⟩ := o_key q0
  obtain ⟨a, ha, ha'⟩ := o_u32 q1
  obtain ⟨b, hb, hb'⟩ := o_u32 q2
  refine ⟨⟨f, a, b⟩, ⟨hf, ha', hb'⟩, fun i hi => ?_⟩
  unfold HV.v
  by_cases i1 : i < 32
  · rw [if_pos i1]
    exact hc i i1
  · rw [if_neg i1]
    by_cases i2 : i < 33
    · rw [if_pos i2]
      obtain rfl : i = 32 := by omega
      exact ha
    · rw [if_neg i2]
      obtain rfl : i = 33 := by omega
      exact hb
theorem o_set (h : DataW.trod enc Try.prog W 0 (fun _ => true) true fuel 38 ((cs.drop o).take 66) = some y) : ∃ x : SetV, x.Ok ∧ ∀ i, i < 66 → cs[o + i]? = some (x.v i) := by
  obtain ⟨y0, y1, y2, y3, n, hx, q0, q1, q2, q3⟩ := trod_st4 Try.underlying38 h
  replace q0 : DataW.trod enc Try.prog W 0 (fun _ => true) true n 28 ((cs.drop (o + 0)).take 32) = some y0 := by rw [← sub_cells cs o 66 0 32 (by decide)]; exact q0
  replace q1 : DataW.trod enc Try.prog W 0 (fun _ => true) true n 28 ((cs.drop (o + 32)).take 32) = some y1 := by rw [← sub_cells cs o 66 32 32 (by decide)]; exact q1
  replace q2 : DataW.trod enc Try.prog W 0 (fun _ => true) true n 4 ((cs.drop (o + 64)).take 1) = some y2 := by rw [← sub_cells cs o 66 64 1 (by decide)]; exact q2
  replace q3 : DataW.trod enc Try.prog W 0 (fun _ => true) true n 34 ((cs.drop (o + 65)).take 1) = some y3 := by rw [← sub_cells cs o 66 65 1 (by decide)]; exact q3
  obtain ⟨f, hf, hc⟩ := o_key q0
  obtain ⟨g, hg, hd⟩ := o_key q1
  obtain ⟨a, ha⟩ := o_bool q2
  obtain ⟨b, hb, hb'⟩ := o_u32 q3
  refine ⟨⟨f, g, a, b⟩, ⟨hf, hg, hb'⟩, fun i hi => ?_⟩
  unfold SetV.v
  by_cases i0 : i < 32
  · rw [if_pos i0]
    have := hc (i - 0) (by omega)
    rw [show o + 0 + (i - 0) = o + i by omega] at this
    exact this
  · rw [if_neg i0]
    by_cases i1 : i < 64
    · rw [if_pos i1]
      have := hd (i - 32) (by omega)
      rw [show o + 32 + (i - 32) = o + i by omega] at this
      exact this
    · rw [if_neg i1]
      by_cases i2 : i < 65
      · rw [if_pos i2]
        obtain rfl : i = 64 := by omega
        exact ha
      · rw [if_neg i2]
        obtain rfl : i = 65 := by omega
        exact hb
structure DV.Ok (x : DV) : Prop where
  id : ∀ i, x.id i < 256
  ep : x.ep < 18446744073709551616
  sd : ∀ i, x.sd i < 256
  kid : x.kid < 18446744073709551616
  key : ∀ i, x.key i < 256
theorem o_dist (h : DataW.trod enc Try.prog W 0 (fun _ => true) true fuel 30 ((cs.drop o).take 52) = some y) : ∃ x : DV, x.Ok ∧ ∀ i, i < 52 → cs[o + i]? = some (x.v i) := by
  obtain ⟨y0, y1, y2, y3, y4, n, hx, q0, q1, q2, q3, q4⟩ := trod_st5 Try.underlying30 h
  replace q0 : DataW.trod enc Try.prog W 0 (fun _ => true) true n 23 ((cs.drop (o + 0)).take 16) = some y0 := by rw [← sub_cells cs o 52 0 16 (by decide)]; exact q0
  replace q1 : DataW.trod enc Try.prog W 0 (fun _ => true) true n 24 ((cs.drop (o + 16)).take 1) = some y1 := by rw [← sub_cells cs o 52 16 1 (by decide)]; exact q1
  replace q2 : DataW.trod enc Try.prog W 0 (fun _ => true) true n 26 ((cs.drop (o + 17)).take 2) = some y2 := by rw [← sub_cells cs o 52 17 2 (by decide)]; exact q2
  replace q3 : DataW.trod enc Try.prog W 0 (fun _ => true) true n 24 ((cs.drop (o + 19)).take 1) = some y3 := by rw [← sub_cells cs o 52 19 1 (by decide)]; exact q3
  replace q4 : DataW.trod enc Try.prog W 0 (fun _ => true) true n 28 ((cs.drop (o + 20)).take 32) = some y4 := by rw [← sub_cells cs o 52 20 32 (by decide)]; exact q4
  obtain ⟨f, hf, hc⟩ := o_id q0
  obtain ⟨a, ha, ha'⟩ := o_u64 q1
  obtain ⟨g, hg, hd⟩ := o_dev q2
  obtain ⟨b, hb, hb'⟩ := o_u64 q3
  obtain ⟨k, hk, he⟩ := o_key q4
  refine ⟨⟨f, a, g, b, k⟩, ⟨hf, ha', hg, hb', hk⟩, fun i hi => ?_⟩
  unfold DV.v
  by_cases i0 : i < 16
  · rw [if_pos i0]
    have := hc (i - 0) (by omega)
    rw [show o + 0 + (i - 0) = o + i by omega] at this
    exact this
  · rw [if_neg i0]
    by_cases i1 : i < 17
    · rw [if_pos i1]
      obtain rfl : i = 16 := by omega
      exact ha
    · rw [if_neg i1]
      by_cases i2 : i < 19
      · rw [if_pos i2]
        have := hd (i - 17) (by omega)
        rw [show o + 17 + (i - 17) = o + i by omega] at this
        exact this
      · rw [if_neg i2]
        by_cases i3 : i < 20
        · rw [if_pos i3]
          obtain rfl : i = 19 := by omega
          exact hb
        · rw [if_neg i3]
          have := he (i - 20) (by omega)
          rw [show o + 20 + (i - 20) = o + i by omega] at this
          exact this
/-- Bytes that can be read, and how many. -/
theorem o_bytes (h : DataW.trod enc Try.prog W 0 (fun _ => true) true fuel 39 ((cs.drop o).take 1) = some y) (hw : ∀ z, z ∈ y.1.weights Try.prog 39 → z ≤ reachBytes) : ∃ (a : Option Addr) (n c : Nat) (f : Nat → Nat), cs[o]? = some (.slice a n c) ∧ n ≤ 140737488355328 ∧ (∀ i, f i < 256) ∧ Rd W W.heap.size a n f := by
  obtain ⟨a, n, c, z, r, l, hz, hR⟩ := open_numsW (t := 39) (e := 5) under_bytes Try.underlying5 (by kernel_rfl) (by rfl) (by rw [show Try.prog.bytesOf 5 = 1 by kernel_rfl]; decide) h hw
  refine ⟨a, n, c, fun i => (z i).toNat, at_drop r, l, fun i => ?_, ⟨fun hn => ?_⟩⟩
  · obtain ⟨q, e, hq⟩ := nat_of_u8 (hz i)
    show (z i).toNat < 256
    omega
  · obtain ⟨tb, o', e1, e2, e3⟩ := hR hn
    refine ⟨tb, o', e1, e2, fun i hi => ?_⟩
    obtain ⟨q, e, hq⟩ := nat_of_u8 (hz i)
    rw [e3 i hi]
    show some (Value.int .u8 (z i)) = some (Value.int .u8 (((z i).toNat : Nat) : Int))
    rw [show (((z i).toNat : Nat) : Int) = z i by omega]
theorem o_devs (h : DataW.trod enc Try.prog W 0 (fun _ => true) true fuel 31 ((cs.drop o).take 1) = some y) (hw : ∀ z, z ∈ y.1.weights Try.prog 31 → z ≤ reachBytes) : ∃ (a : Option Addr) (n c : Nat) (fm : Nat → Nat → Nat), cs[o]? = some (.slice a n c) ∧ n ≤ 140737488355328 ∧ (∀ i j, fm i j < 256) ∧ RdD W W.heap.size a n fm := by
  have ht := Try.underlying31
  rcases Deep.open_slice ht h with ⟨h1, _⟩ | ⟨a, len, cap, m, n, D, Pl, h1, _, hlc, hmx, hmm, hd, hx⟩
  · exact ⟨none, 0, 0, fun _ _ => 0, at_drop h1, Nat.zero_le _, fun _ _ => Nat.succ_pos _, ⟨fun h => absurd h (by decide)⟩⟩
  · have hmc : m = cap := by simpa using hmm
    have hdd : y.1 = .slice ((List.range len).map D) ((List.range (m - len)).map fun j => D (len + j)) := congrArg Prod.fst hd
    have hwd : DataW.weights Try.prog 31 y.1 = (((List.range len).map D).length + ((List.range (m - len)).map fun j => D (len + j)).length) * Try.prog.bytesOf 26 :: (DataW.weightsAll Try.prog 26 ((List.range len).map D) ++ DataW.weightsAll Try.prog 26 ((List.range (m - len)).map fun j => D (len + j))) := by
      rw [hdd]
      conv => lhs; unfold DataW.weights
      rw [ht]
    have hlen : len ≤ 140737488355328 := by
      have h1 := hw _ (by rw [hwd]; exact List.mem_cons_self ..)
      simp only [List.length_map, List.length_range] at h1
      have h2 : (len + (m - len)) * 1 ≤ (len + (m - len)) * Try.prog.bytesOf 26 := Nat.mul_le_mul_left _ (by rw [show Try.prog.bytesOf 26 = 2 by kernel_rfl]; decide)
      unfold reachBytes at h1
      omega
    have cu : Try.prog.cellsOf 26 = 2 := by kernel_rfl
    have hspot0 : 0 < len → a.spot = none := fun h0 => by
      obtain ⟨cs', g1, _⟩ := hx 0 (by omega)
      rw [cu] at g1
      obtain ⟨_, hl5, hc⟩ := World.cells?_some g1
      have c0 := hc 0 (by omega)
      obtain ⟨v0, hv0⟩ : ∃ v, cs'[0]? = some v := ⟨_, List.getElem?_eq_getElem (by omega)⟩
      rw [hv0] at c0
      simpa [Addr.add] using World.cell?_spot c0
    have key : ∀ i, ∃ f : Nat → Nat, (∀ j, f j < 256) ∧ (i < len → a.spot = none ∧ ∀ j, j < 2 → W.cell? ⟨a.block, a.off + (i * 2 + j), none⟩ = some (.int .u8 (f j))) := fun i => by
      by_cases hi : i < len
      · obtain ⟨cs', g1, g2⟩ := hx i (by omega)
        rw [cu] at g1
        obtain ⟨_, hl5, hc⟩ := World.cells?_some g1
        obtain ⟨f, hf, hq⟩ := o_dev (o := 0) (cs := cs') (by
          rw [List.drop_zero, List.take_of_length_le (by omega)]
          exact g2)
        have hspot := hspot0 (by omega)
        obtain ⟨tb', o', sp⟩ := a
        simp only at hspot
        subst hspot
        refine ⟨f, hf, fun _ => ⟨rfl, fun j hj => ?_⟩⟩
        have c := hc j (by omega)
        rw [Addr.add_mid, Addr.add_mid] at c
        have e := hq j hj
        rw [Nat.zero_add] at e
        rw [e] at c
        rw [← Nat.add_assoc]
        exact c
      · exact ⟨fun _ => 0, fun _ => Nat.succ_pos _, fun h => absurd h hi⟩
    obtain ⟨fm, hfm⟩ := Classical.axiomOfChoice key
    refine ⟨some a, len, cap, fm, at_drop h1, hlen, fun i j => (hfm i).1 j, ⟨fun h0 => ?_⟩⟩
    have h2 := (hfm 0).2 h0
    have hlt := World.block_lt_of_cell? W _ (h2.2 0 (by decide))
    obtain ⟨tb', o', sp⟩ := a
    have hspot := h2.1
    simp only at hspot
    subst hspot
    exact ⟨tb', o', rfl, hlt, fun i j hi hj => ((hfm i).2 hi).2 j hj⟩
end
end Go.Proofs.Ytdagbighlgfhjaa
namespace Go.Proofs.Ytdagbighlgfhjaa
open Go.ChangeShapes Go.WideShapes Go.ChangeAt Go.RowKit

set_option maxRecDepth 100000
set_option maxHeartbeats 4000000

structure RV.Ok (x : RV) (fm : Nat → Nat → Nat) (W : World) : Prop where
  id : ∀ i, x.id i < 256
  ep : x.ep < 18446744073709551616
  nm : x.nm ≤ 140737488355328
  fml : ∀ i j, fm i j < 256
  rd : RdD W W.heap.size x.am x.nm fm
structure BoxOk (a : Option Addr) (n : Nat) (f : Nat → Nat) (W : World) : Prop where
  nl : n ≤ 140737488355328
  fl : ∀ i, f i < 256
  rd : Rd W W.heap.size a n f
structure PV.Ok (x : PV) : Prop where
  fr : ∀ i, x.fr i < 256
  tw : ∀ i, x.tw i < 256
  id : ∀ i, x.id i < 256
section
variable {H : Type} {enc : TypeId × Value → H} {W : World} {cs : List Value} {fuel o : Nat} {y : DataW H × List MemPlace}
theorem o_ros (h : DataW.trod enc Try.prog W 0 (fun _ => true) true fuel 33 ((cs.drop o).take 18) = some y) (hw : ∀ z, z ∈ y.1.weights Try.prog 33 → z ≤ reachBytes) : ∃ (x : RV) (fm : Nat → Nat → Nat), x.Ok fm W ∧ ∀ i, i < 18 → cs[o + i]? = some (x.v i) := by
  obtain ⟨y0, y1, y2, n, hx, q0, q1, q2⟩ := trod_st3 Try.underlying33 h
  replace q0 : DataW.trod enc Try.prog W 0 (fun _ => true) true n 23 ((cs.drop (o + 0)).take 16) = some y0 := by rw [← sub_cells cs o 18 0 16 (by decide)]; exact q0
  replace q1 : DataW.trod enc Try.prog W 0 (fun _ => true) true n 24 ((cs.drop (o + 16)).take 1) = some y1 := by rw [← sub_cells cs o 18 16 1 (by decide)]; exact q1
  replace q2 : DataW.trod enc Try.prog W 0 (fun _ => true) true n 31 ((cs.drop (o + 17)).take 1) = some y2 := by rw [← sub_cells cs o 18 17 1 (by decide)]; exact q2
  have hwx : y.1.weights Try.prog 33 = DataW.weightsEach Try.prog [23, 24, 31] [y0.1, y1.1, y2.1] := by rw [hx]; exact weights_st3 Try.underlying33
  rw [hwx] at hw
  simp only [DataW.weightsEach, List.mem_append] at hw
  obtain ⟨f, hf, hc⟩ := o_id q0
  obtain ⟨a, ha, ha'⟩ := o_u64 q1
  obtain ⟨am, nm, cm, fm, hm, hn, hfm, hR⟩ := o_devs q2 (fun z hz => hw z (Or.inr (Or.inr (Or.inl hz))))
  refine ⟨⟨f, a, am, nm, cm⟩, fm, ⟨hf, ha', hn, hfm, hR⟩, fun i hi => ?_⟩
  unfold RV.v
  by_cases i0 : i < 16
  · rw [if_pos i0]
    have := hc (i - 0) (by omega)
    rw [show o + 0 + (i - 0) = o + i by omega] at this
    exact this
  · rw [if_neg i0]
    by_cases i1 : i < 17
    · rw [if_pos i1]
      obtain rfl : i = 16 := by omega
      exact ha
    · rw [if_neg i1]
      obtain rfl : i = 17 := by omega
      exact hm
theorem o_pkt (h : DataW.trod enc Try.prog W 0 (fun _ => true) true fuel 43 ((cs.drop o).take 21) = some y) (hw : ∀ z, z ∈ y.1.weights Try.prog 43 → z ≤ reachBytes) : ∃ (x : PV) (fb : Nat → Nat), x.Ok ∧ BoxOk x.ad x.nb fb W ∧ ∀ i, i < 21 → cs[o + i]? = some (x.v i) := by
  obtain ⟨y0, y1, y2, y3, n, hx, q0, q1, q2, q3⟩ := trod_st4 Try.underlying43 h
  replace q0 : DataW.trod enc Try.prog W 0 (fun _ => true) true n 26 ((cs.drop (o + 0)).take 2) = some y0 := by rw [← sub_cells cs o 21 0 2 (by decide)]; exact q0
  replace q1 : DataW.trod enc Try.prog W 0 (fun _ => true) true n 26 ((cs.drop (o + 2)).take 2) = some y1 := by rw [← sub_cells cs o 21 2 2 (by decide)]; exact q1
  replace q2 : DataW.trod enc Try.prog W 0 (fun _ => true) true n 23 ((cs.drop (o + 4)).take 16) = some y2 := by rw [← sub_cells cs o 21 4 16 (by decide)]; exact q2
  replace q3 : DataW.trod enc Try.prog W 0 (fun _ => true) true n 39 ((cs.drop (o + 20)).take 1) = some y3 := by rw [← sub_cells cs o 21 20 1 (by decide)]; exact q3
  have hwx : y.1.weights Try.prog 43 = DataW.weightsEach Try.prog [26, 26, 23, 39] [y0.1, y1.1, y2.1, y3.1] := by rw [hx]; exact weights_st4 Try.underlying43
  rw [hwx] at hw
  simp only [DataW.weightsEach, List.mem_append] at hw
  obtain ⟨f, hf, hc⟩ := o_dev q0
  obtain ⟨g, hg, hd⟩ := o_dev q1
  obtain ⟨k, hk, he⟩ := o_id q2
  obtain ⟨a, n, c, fb, hb, hn, hfb, hR⟩ := o_bytes q3 (fun z hz => hw z (Or.inr (Or.inr (Or.inr (Or.inl hz)))))
  refine ⟨⟨f, g, k, a, n, c⟩, fb, ⟨hf, hg, hk⟩, ⟨hn, hfb, hR⟩, fun i hi => ?_⟩
  unfold PV.v
  by_cases i0 : i < 2
  · rw [if_pos i0]
    have := hc (i - 0) (by omega)
    rw [show o + 0 + (i - 0) = o + i by omega] at this
    exact this
  · rw [if_neg i0]
    by_cases i1 : i < 4
    · rw [if_pos i1]
      have := hd (i - 2) (by omega)
      rw [show o + 2 + (i - 2) = o + i by omega] at this
      exact this
    · rw [if_neg i1]
      by_cases i2 : i < 20
      · rw [if_pos i2]
        have := he (i - 4) (by omega)
        rw [show o + 4 + (i - 4) = o + i by omega] at this
        exact this
      · rw [if_neg i2]
        obtain rfl : i = 20 := by omega
        exact hb
theorem o_env (h : DataW.trod enc Try.prog W 0 (fun _ => true) true fuel 41 ((cs.drop o).take 106) = some y) (hw : ∀ z, z ∈ y.1.weights Try.prog 41 → z ≤ reachBytes) : ∃ (x : EV) (fb : Nat → Nat), x.Ok ∧ BoxOk x.ad x.nb fb W ∧ ∀ i, i < 106 → cs[o + i]? = some (x.v i) := by
  obtain ⟨y0, y1, y2, y3, y4, y5, n, hx, q0, q1, q2, q3, q4, q5⟩ := trod_st6 Try.underlying41 h
  replace q0 : DataW.trod enc Try.prog W 0 (fun _ => true) true n 26 ((cs.drop (o + 0)).take 2) = some y0 := by rw [← sub_cells cs o 106 0 2 (by decide)]; exact q0
  replace q1 : DataW.trod enc Try.prog W 0 (fun _ => true) true n 26 ((cs.drop (o + 2)).take 2) = some y1 := by rw [← sub_cells cs o 106 2 2 (by decide)]; exact q1
  replace q2 : DataW.trod enc Try.prog W 0 (fun _ => true) true n 4 ((cs.drop (o + 4)).take 1) = some y2 := by rw [← sub_cells cs o 106 4 1 (by decide)]; exact q2
  replace q3 : DataW.trod enc Try.prog W 0 (fun _ => true) true n 38 ((cs.drop (o + 5)).take 66) = some y3 := by rw [← sub_cells cs o 106 5 66 (by decide)]; exact q3
  replace q4 : DataW.trod enc Try.prog W 0 (fun _ => true) true n 36 ((cs.drop (o + 71)).take 34) = some y4 := by rw [← sub_cells cs o 106 71 34 (by decide)]; exact q4
  replace q5 : DataW.trod enc Try.prog W 0 (fun _ => true) true n 39 ((cs.drop (o + 105)).take 1) = some y5 := by rw [← sub_cells cs o 106 105 1 (by decide)]; exact q5
  have hwx : y.1.weights Try.prog 41 = DataW.weightsEach Try.prog [26, 26, 4, 38, 36, 39] [y0.1, y1.1, y2.1, y3.1, y4.1, y5.1] := by rw [hx]; exact weights_st6 Try.underlying41
  rw [hwx] at hw
  simp only [DataW.weightsEach, List.mem_append] at hw
  obtain ⟨f, hf, hc⟩ := o_dev q0
  obtain ⟨g, hg, hd⟩ := o_dev q1
  obtain ⟨t, ht⟩ := o_bool q2
  obtain ⟨s, hs, hsc⟩ := o_set q3
  obtain ⟨k, hk, he⟩ := o_hdr q4
  obtain ⟨a, n, c, fb, hb, hn, hfb, hR⟩ := o_bytes q5 (fun z hz => hw z (Or.inr (Or.inr (Or.inr (Or.inr (Or.inr (Or.inl hz)))))))
  refine ⟨⟨f, g, t, s, k, a, n, c⟩, fb, ⟨hf, hg, hs, hk⟩, ⟨hn, hfb, hR⟩, fun i hi => ?_⟩
  unfold EV.v
  by_cases i0 : i < 2
  · rw [if_pos i0]
    have := hc (i - 0) (by omega)
    rw [show o + 0 + (i - 0) = o + i by omega] at this
    exact this
  · rw [if_neg i0]
    by_cases i1 : i < 4
    · rw [if_pos i1]
      have := hd (i - 2) (by omega)
      rw [show o + 2 + (i - 2) = o + i by omega] at this
      exact this
    · rw [if_neg i1]
      by_cases i2 : i < 5
      · rw [if_pos i2]
        obtain rfl : i = 4 := by omega
        exact ht
      · rw [if_neg i2]
        by_cases i3 : i < 71
        · rw [if_pos i3]
          have := hsc (i - 5) (by omega)
          rw [show o + 5 + (i - 5) = o + i by omega] at this
          exact this
        · rw [if_neg i3]
          by_cases i4 : i < 105
          · rw [if_pos i4]
            have := he (i - 71) (by omega)
            rw [show o + 71 + (i - 71) = o + i by omega] at this
            exact this
          · rw [if_neg i4]
            obtain rfl : i = 105 := by omega
            exact hb
structure AV.Ok (x : AV) (fm : Nat → Nat → Nat) (eb pb : Nat → Nat) (W : World) : Prop where
  d : x.d.Ok
  r : x.r.Ok fm W
  h : x.h.Ok
  e : x.e.Ok
  eb : BoxOk x.e.ad x.e.nb eb W
  p : x.p.Ok
  pb : BoxOk x.p.ad x.p.nb pb W
theorem o_all (h : DataW.trod enc Try.prog W 0 (fun _ => true) true fuel 45 ((cs.drop o).take 231) = some y) (hw : ∀ z, z ∈ y.1.weights Try.prog 45 → z ≤ reachBytes) : ∃ (x : AV) (fm : Nat → Nat → Nat) (eb pb : Nat → Nat), x.Ok fm eb pb W ∧ ∀ i, i < 231 → cs[o + i]? = some (x.v i) := by
  obtain ⟨y0, y1, y2, y3, y4, n, hx, q0, q1, q2, q3, q4⟩ := trod_st5 Try.underlying45 h
  replace q0 : DataW.trod enc Try.prog W 0 (fun _ => true) true n 30 ((cs.drop (o + 0)).take 52) = some y0 := by rw [← sub_cells cs o 231 0 52 (by decide)]; exact q0
  replace q1 : DataW.trod enc Try.prog W 0 (fun _ => true) true n 33 ((cs.drop (o + 52)).take 18) = some y1 := by rw [← sub_cells cs o 231 52 18 (by decide)]; exact q1
  replace q2 : DataW.trod enc Try.prog W 0 (fun _ => true) true n 36 ((cs.drop (o + 70)).take 34) = some y2 := by rw [← sub_cells cs o 231 70 34 (by decide)]; exact q2
  replace q3 : DataW.trod enc Try.prog W 0 (fun _ => true) true n 41 ((cs.drop (o + 104)).take 106) = some y3 := by rw [← sub_cells cs o 231 104 106 (by decide)]; exact q3
  replace q4 : DataW.trod enc Try.prog W 0 (fun _ => true) true n 43 ((cs.drop (o + 210)).take 21) = some y4 := by rw [← sub_cells cs o 231 210 21 (by decide)]; exact q4
  have hwx : y.1.weights Try.prog 45 = DataW.weightsEach Try.prog [30, 33, 36, 41, 43] [y0.1, y1.1, y2.1, y3.1, y4.1] := by rw [hx]; exact weights_st5 Try.underlying45
  rw [hwx] at hw
  simp only [DataW.weightsEach, List.mem_append] at hw
  obtain ⟨d, hd, dc⟩ := o_dist q0
  obtain ⟨r, fm, hr, rc⟩ := o_ros q1 (fun z hz => hw z (Or.inr (Or.inl hz)))
  obtain ⟨k, hk, kc⟩ := o_hdr q2
  obtain ⟨e, eb, he, heb, ec⟩ := o_env q3 (fun z hz => hw z (Or.inr (Or.inr (Or.inr (Or.inl hz)))))
  obtain ⟨p, pb, hp, hpb, pc⟩ := o_pkt q4 (fun z hz => hw z (Or.inr (Or.inr (Or.inr (Or.inr (Or.inl hz))))))
  refine ⟨⟨d, r, k, e, p⟩, fm, eb, pb, ⟨hd, hr, hk, he, heb, hp, hpb⟩, fun i hi => ?_⟩
  unfold AV.v
  by_cases i0 : i < 52
  · rw [if_pos i0]
    have := dc (i - 0) (by omega)
    rw [show o + 0 + (i - 0) = o + i by omega] at this
    exact this
  · rw [if_neg i0]
    by_cases i1 : i < 70
    · rw [if_pos i1]
      have := rc (i - 52) (by omega)
      rw [show o + 52 + (i - 52) = o + i by omega] at this
      exact this
    · rw [if_neg i1]
      by_cases i2 : i < 104
      · rw [if_pos i2]
        have := kc (i - 70) (by omega)
        rw [show o + 70 + (i - 70) = o + i by omega] at this
        exact this
      · rw [if_neg i2]
        by_cases i3 : i < 210
        · rw [if_pos i3]
          have := ec (i - 104) (by omega)
          rw [show o + 104 + (i - 104) = o + i by omega] at this
          exact this
        · rw [if_neg i3]
          have := pc (i - 210) (by omega)
          rw [show o + 210 + (i - 210) = o + i by omega] at this
          exact this
end
theorem open_all {H : Type} {enc : TypeId × Value → H} {W : World} {v : Value} {d : DataW H} {ps : List MemPlace} {r : Reach} {b0 : Nat}
    (hval : Value.okWide Try.prog W r b0 45 v) (h : DataW.Trod enc Try.prog W 0 (fun _ => true) true 45 v d ps) (hw : ∀ y, y ∈ d.weights Try.prog 45 → y ≤ reachBytes) :
    ∃ x : AV, v = .agg (rowOf 231 x.v) ∧ ∃ (fm : Nat → Nat → Nat) (eb pb : Nat → Nat), x.Ok fm eb pb W := by
  have hu := Try.underlying45
  have hv := hval
  simp only [Value.okWide, hu] at hv
  obtain ⟨cs, rfl, hs, _⟩ := hv
  have hsz : cs.size = 231 := by rw [hs]; kernel_rfl
  obtain ⟨fuel, hf⟩ := h
  obtain ⟨x, fm, eb, pb, hok, hc⟩ := o_all (W := W) (cs := cs.toList) (o := 0) (y := (d, ps)) (by
    rw [List.drop_zero, List.take_of_length_le (by rw [Array.length_toList, hsz]; exact Nat.le_refl _)]
    exact hf) hw
  refine ⟨x, ?_, fm, eb, pb, hok⟩
  congr 1
  apply Array.ext
  · rw [hsz, rowOf_size]
  · intro i h1 h2
    have hi : i < 231 := by omega
    have e1 := hc i hi
    rw [Nat.zero_add, Array.getElem?_toList, Array.getElem?_eq_getElem h1] at e1
    have e2 := rowOf_get 231 x.v i hi
    rw [Array.getElem?_eq_getElem h2] at e2
    exact (Option.some.inj e1).trans (Option.some.inj e2).symm
end Go.Proofs.Ytdagbighlgfhjaa
namespace Go.Proofs.Ytdagbighlgfhjaa
open Go.RowKit

set_option maxRecDepth 100000
set_option maxHeartbeats 4000000

theorem distPut_any {w0 w : World} {g lim : Nat} {f : Nat → Nat} (x : DV) (hx : x.ep < 18446744073709551616 ∧ x.kid < 18446744073709551616) (h : Good w0 w g lim 0 f) (hr : 66 ≤ lim) (hl : lim ≤ 2 ^ 46) :
    Calls Try.prog 68 #[.pointer (some ⟨g, 0, none⟩), .agg (rowOf 52 x.v)] w (Goes w0 w g lim 66 x.bytes) := by
  have HL := Lib.hid (And.intro hr hl)
  have HXX := Lib.hid hx
  clear hr hl hx
  have hP := PX.begin h 30 52 x.v
  clear h
  go_enter Try.func68, Try.ntmps68
  go_upto_region 1 with fail
  obtain ⟨B, hB⟩ : ∃ B, B = w.heap.size := ⟨_, rfl⟩
  rw [← hB] at hP ⊢
  generalize w.alloc (.cells (rowOf 52 x.v) 30) = wa at *
  clear hB
  have HX := Lib.hid (hP.fixed 39 0 16 16 x.id (by decide) x.v_id (by have := HL.out; omega) HL.out.2)
  clear hP
  go_wp2_with fail
  go_at_call 69
  refine HX.out.mono ?_
  rintro e w1 ⟨rfl, hP⟩
  clear HX
  have HX := Lib.hid (hP.u64 24 x.ep HXX.out.1 (by have := HL.out; omega) HL.out.2)
  have c16 : w1.cell? ⟨B, 16, none⟩ = some (.int .u64 x.ep) := hP.row.cell 16 (by decide)
  clear hP
  go_wp2_with fail
  go_at_call 70
  refine HX.out.mono ?_
  rintro e w2 ⟨rfl, hP⟩
  clear HX c16
  have HX := Lib.hid ((putDevice_any x.sd hP.out (by have := HL.out; omega) HL.out.2).mono fun e w' hs => hP.call hs)
  have HLD := Lib.hid (hP.row.load (P := Try.prog) 17 26 2 (fun j => .int .u8 (x.sd j)) (by decide) x.v_sd (by kernel_rfl) (by kernel_rfl))
  clear hP
  go_wp2_with (first | ((with_reducible refine wpList_here ?_); refine wpList_ld (p := .pointer (some ⟨B, 17, none⟩)) 15 ?_ ?_ ?_ HLD.out ?_; (· rfl); go_simp; (· kernel_rfl)))
  go_at_call 71
  refine HX.out.mono ?_
  rintro e w3 ⟨rfl, hP⟩
  clear HX HLD
  have HX := Lib.hid (hP.u64 24 x.kid HXX.out.2 (by have := HL.out; omega) HL.out.2)
  have c19 : w3.cell? ⟨B, 19, none⟩ = some (.int .u64 x.kid) := hP.row.cell 19 (by decide)
  clear hP
  go_wp2_with fail
  go_at_call 70
  refine HX.out.mono ?_
  rintro e w4 ⟨rfl, hP⟩
  clear HX c19
  have HX := Lib.hid (hP.fixed 39 20 32 32 x.key (by decide) x.v_key (by have := HL.out; omega) HL.out.2)
  clear hP
  go_wp2_with fail
  go_at_call 69
  refine HX.out.mono ?_
  rintro e w5 ⟨rfl, hP⟩
  clear HX
  have hD := hP.done
  clear hP
  rw [cat_none, Nat.zero_add] at hD
  have HE := Lib.hid (hD)
  clear hD
  go_wp2_with fail
  go_end0
  exact HE.out
theorem pktPut_any {w0 w : World} {g lim D : Nat} {f fb : Nat → Nat} (x : PV) (hR : Rd w0 D x.ad x.nb fb) (hn : x.nb ≤ 70000) (h : Good w0 w g lim 0 f) (hr : x.len ≤ lim) (hl : lim ≤ 2 ^ 46) :
    Calls Try.prog 106 #[.pointer (some ⟨g, 0, none⟩), .agg (rowOf 21 x.v)] w (Goes w0 w g lim x.len (x.bytes fb)) := by
  have HL := Lib.hid (And.intro (show 24 + x.nb ≤ lim from hr) hl)
  have HRR := Lib.hid hR
  have HN := Lib.hid hn
  have e0 : IntKind.u32.wrap (x.nb : Int) = (x.nb : Int) := by rw [IntKind.wrap_u32]; omega
  have E0 := Lib.hid e0
  clear hr hl hR hn e0
  have hP := PX.begin h 43 21 x.v
  clear h
  go_enter Try.func106, Try.ntmps106
  go_upto_region 1 with fail
  obtain ⟨B, hB⟩ : ∃ B, B = w.heap.size := ⟨_, rfl⟩
  rw [← hB] at hP ⊢
  generalize w.alloc (.cells (rowOf 21 x.v) 43) = wa at *
  clear hB
  have HX := Lib.hid ((putDevice_any x.fr hP.out (by have := HL.out; omega) HL.out.2).mono fun e w' hs => hP.call hs)
  have HLD := Lib.hid (hP.row.load (P := Try.prog) 0 26 2 (fun j => .int .u8 (x.fr j)) (by decide) x.v_fr (by kernel_rfl) (by kernel_rfl))
  clear hP
  go_wp2_with (first | ((with_reducible refine wpList_here ?_); refine wpList_ld (p := .pointer (some ⟨B, 0, none⟩)) 5 ?_ ?_ ?_ HLD.out ?_; (· rfl); go_simp; (· kernel_rfl)))
  go_at_call 71
  refine HX.out.mono ?_
  rintro e w1 ⟨rfl, hP⟩
  clear HX HLD
  have HX := Lib.hid ((putDevice_any x.tw hP.out (by have := HL.out; omega) HL.out.2).mono fun e w' hs => hP.call hs)
  have HLD := Lib.hid (hP.row.load (P := Try.prog) 2 26 2 (fun j => .int .u8 (x.tw j)) (by decide) x.v_to (by kernel_rfl) (by kernel_rfl))
  clear hP
  go_wp2_with (first | ((with_reducible refine wpList_here ?_); refine wpList_ld (p := .pointer (some ⟨B, 2, none⟩)) 9 ?_ ?_ ?_ HLD.out ?_; (· rfl); go_simp; (· kernel_rfl)))
  go_at_call 71
  refine HX.out.mono ?_
  rintro e w2 ⟨rfl, hP⟩
  clear HX HLD
  have HX := Lib.hid (hP.fixed 39 4 16 16 x.id (by decide) x.v_id (by have := HL.out; omega) HL.out.2)
  clear hP
  go_wp2_with fail
  go_at_call 69
  refine HX.out.mono ?_
  rintro e w3 ⟨rfl, hP⟩
  clear HX
  have HX := Lib.hid (hP.u32 34 x.nb (by have := HN.out; omega) (by have := HL.out; omega) HL.out.2)
  have c20 : w3.cell? ⟨B, 20, none⟩ = some (.slice x.ad x.nb x.cb) := hP.row.cell 20 (by decide)
  have e0 := E0.out
  clear hP
  go_wp2_with fail
  go_at_call 107
  refine HX.out.mono ?_
  rintro e w4 ⟨rfl, hP⟩
  clear HX c20 e0
  have HX := Lib.hid (hP.bytes 39 D x.nb x.cb x.ad fb HRR.out (by have := HL.out; omega) HL.out.2)
  have c20 : w4.cell? ⟨B, 20, none⟩ = some (.slice x.ad x.nb x.cb) := hP.row.cell 20 (by decide)
  clear hP
  go_wp2_with fail
  go_at_call 69
  refine HX.out.mono ?_
  rintro e w5 ⟨rfl, hP⟩
  clear HX c20
  have hD := hP.done
  clear hP
  rw [cat_none, Nat.zero_add] at hD
  have HE := Lib.hid (hD)
  clear hD
  go_wp2_with fail
  go_end0
  exact HE.out
theorem envPut_any {w0 w : World} {g lim D : Nat} {f fb : Nat → Nat} (x : EV) (hx : x.Ok) (hR : Rd w0 D x.ad x.nb fb) (hn : x.nb ≤ 4096) (h : Good w0 w g lim 0 f) (hr : 5 + 69 + 40 + 2 + x.nb ≤ lim) (hl : lim ≤ 2 ^ 46) :
    Calls Try.prog 96 #[.pointer (some ⟨g, 0, none⟩), .agg (rowOf 106 x.v)] w (Goes w0 w g lim x.len (x.bytes fb)) := by
  have hsl : x.st.sl x.has ≤ 69 := by
    unfold SetV.sl
    split
    · split <;> omega
    · omega
  have HL := Lib.hid (And.intro hr hl)
  have HSL := Lib.hid hsl
  have HRR := Lib.hid hR
  have HN := Lib.hid hn
  have HXX := Lib.hid hx
  clear hr hl hR hn hsl hx
  have hP := PX.begin h 41 106 x.v
  clear h
  go_enter Try.func96, Try.ntmps96
  go_upto_region 1 with fail
  obtain ⟨B, hB⟩ : ∃ B, B = w.heap.size := ⟨_, rfl⟩
  rw [← hB] at hP ⊢
  generalize w.alloc (.cells (rowOf 106 x.v) 41) = wa at *
  clear hB
  have HX := Lib.hid ((putDevice_any x.fr hP.out (by have := HL.out; omega) HL.out.2).mono fun e w' hs => hP.call hs)
  have HLD := Lib.hid (hP.row.load (P := Try.prog) 0 26 2 (fun j => .int .u8 (x.fr j)) (by decide) x.v_fr (by kernel_rfl) (by kernel_rfl))
  clear hP
  go_wp2_with (first | ((with_reducible refine wpList_here ?_); refine wpList_ld (p := .pointer (some ⟨B, 0, none⟩)) 5 ?_ ?_ ?_ HLD.out ?_; (· rfl); go_simp; (· kernel_rfl)))
  go_at_call 71
  refine HX.out.mono ?_
  rintro e w1 ⟨rfl, hP⟩
  clear HX HLD
  have HX := Lib.hid ((putDevice_any x.tw hP.out (by have := HL.out; omega) HL.out.2).mono fun e w' hs => hP.call hs)
  have HLD := Lib.hid (hP.row.load (P := Try.prog) 2 26 2 (fun j => .int .u8 (x.tw j)) (by decide) x.v_to (by kernel_rfl) (by kernel_rfl))
  clear hP
  go_wp2_with (first | ((with_reducible refine wpList_here ?_); refine wpList_ld (p := .pointer (some ⟨B, 2, none⟩)) 9 ?_ ?_ ?_ HLD.out ?_; (· rfl); go_simp; (· kernel_rfl)))
  go_at_call 71
  refine HX.out.mono ?_
  rintro e w2 ⟨rfl, hP⟩
  clear HX HLD
  have HX := Lib.hid ((putSetup_any x.has x.st HXX.out.st hP.out (by have := HL.out; omega) HL.out.2).mono fun e w' hs => hP.call hs)
  have c4 : w2.cell? ⟨B, 4, none⟩ = some (.bool x.has) := hP.row.cell 4 (by decide)
  have HLD := Lib.hid (hP.row.load (P := Try.prog) 5 38 66 x.st.v (by decide) x.v_st (by kernel_rfl) (by kernel_rfl))
  clear hP
  go_wp2_with (first | ((with_reducible refine wpList_here ?_); refine wpList_ld (p := .pointer (some ⟨B, 5, none⟩)) 15 ?_ ?_ ?_ HLD.out ?_; (· rfl); go_simp; (· kernel_rfl)))
  go_at_call 97
  refine HX.out.mono ?_
  rintro e w3 ⟨rfl, hP⟩
  clear HX c4 HLD
  obtain ⟨n3, hn3⟩ : ∃ n, n = 0 + 2 + 2 + 1 + x.st.sl x.has := ⟨_, rfl⟩
  rw [← hn3] at hP
  have HN3 := Lib.hid hn3
  clear hn3
  have HX := Lib.hid ((putHeader_any x.hd HXX.out.hd hP.out (by have := HL.out; have := HN3.out; have := HSL.out; omega) HL.out.2).mono fun e w' hs => hP.call hs)
  have HLD := Lib.hid (hP.row.load (P := Try.prog) 71 36 34 x.hd.v (by decide) x.v_hd (by kernel_rfl) (by kernel_rfl))
  clear hP
  go_wp2_with (first | ((with_reducible refine wpList_here ?_); refine wpList_ld (p := .pointer (some ⟨B, 71, none⟩)) 19 ?_ ?_ ?_ HLD.out ?_; (· rfl); go_simp; (· kernel_rfl)))
  go_at_call 78
  refine HX.out.mono ?_
  rintro e w4 ⟨rfl, hP⟩
  clear HX HLD
  have HX := Lib.hid ((outSizedG 4096 D x.nb x.cb x.ad fb hP.out (by have := HN.out; omega) HRR.out (by decide) (by decide) (by have := HL.out; have := HN3.out; have := HSL.out; omega) HL.out.2).mono fun e w' hs => hP.call hs)
  have c105 : w4.cell? ⟨B, 105, none⟩ = some (.slice x.ad x.nb x.cb) := hP.row.cell 105 (by decide)
  clear hP
  go_wp2_with fail
  go_at_call 98
  refine HX.out.mono ?_
  rintro e w5 ⟨rfl, hP⟩
  clear HX c105
  have hD := hP.done
  clear hP
  rw [HN3.out, cat_none] at hD
  have HE : Hid (Goes w0 w g lim x.len (x.bytes fb) (.returned (.tuple #[])) w5) := Lib.hid (goes_less hD (by unfold EV.len; omega) (fun i _ => by
    unfold EV.bytes
    rw [show 0 + 2 + 2 + 1 + x.st.sl x.has = 5 + x.st.sl x.has by omega]))
  clear hD
  go_wp2_with fail
  go_end0
  exact HE.out
end Go.Proofs.Ytdagbighlgfhjaa
namespace Go.Proofs.Ytdagbighlgfhjaa
open Go.RowKit

set_option maxRecDepth 100000
set_option maxHeartbeats 4000000

theorem fn_putDev (w : World) : (binOp .eql 154 (.func (.func 71) #[] #[]) .nilFunc).run Try.prog w = .ok (.bool false) w := by kernel_rfl
theorem devsB_succ (n : Nat) (f : Nat → Nat) (fm : Nat → Nat → Nat) (i : Nat) : cat (n + 2 * i) (cat n f (devsB fm i)) (fm i) = cat n f (devsB fm (i + 1)) := cat_cat n (2 * i) f _ _
theorem putDevs_any {w0 w : World} {g lim n0 : Nat} {f0 : Nat → Nat} (D n cv : Nat) (av : Option Addr) (fm : Nat → Nat → Nat) (h : Good w0 w g lim n0 f0) (hR : RdD w0 D av n fm) (hn : n ≤ 32) (hr : n0 + 2 + 2 * n ≤ lim) (hl : lim ≤ 2 ^ 46) :
    Calls Try.prog 86 #[.pointer (some ⟨g, 0, none⟩), .int .i64 32, .slice av n cv, .func (.func 71) #[] #[]] w (Goes w0 w g lim (n0 + 2 + 2 * n) (cat (n0 + 2) (cat n0 f0 (nbF n 2)) (devsB fm n))) := by
  have HC := Lib.hid (outCountK_any 32 n h (by omega) (by decide) (by decide) (by omega))
  rw [OSt.put_room _ _ _ _ _ (by omega)] at HC
  have HM := Lib.hid (And.intro hr hl)
  have HR := Lib.hid hR
  have HN := Lib.hid hn
  clear h hR hn hr hl
  have e0 := fn_putDev w
  go_enter Try.func86, Try.ntmps86
  go_wp2_with fail
  go_at_call 138
  refine HC.out.mono ?_
  rintro e w1 ⟨⟨rfl, h1⟩, h3⟩
  have HE : Hid (Goes w0 w g lim (n0 + 2) (cat n0 f0 (nbF n 2)) (.returned (.tuple #[])) w1) := Lib.hid ⟨⟨rfl, h1⟩, h3⟩
  clear h1 h3 HC e0
  go_wp2_with fail
  go_loopw [21] (fun u21 wr => ∃ i : Nat, i ≤ n ∧ u21 = .int .i64 i ∧ Goes w0 w g lim (n0 + 2 + 2 * i) (cat (n0 + 2) (cat n0 f0 (nbF n 2)) (devsB fm i)) (.returned (.tuple #[])) wr) (fun u21 _ => n - (intOf u21).toNat)
  case atStart => exact ⟨0, Nat.zero_le _, rfl, goes_less HE.out rfl (fun i hi => (cat_low hi).symm)⟩
  case round =>
    obtain ⟨i, hi, rfl, hG⟩ := hrel
    by_cases hlt : i < n
    case neg =>
      obtain rfl : i = n := by omega
      have j1 : ¬ (i : Int) < (i : Int) := by omega
      have HG := Lib.hid hG
      clear hG hi hlt
      go_wp2_with fail
      go_end0
      exact HG.out
    case pos =>
    have j1 : (i : Int) < (n : Int) := by omega
    obtain ⟨tb, o, rfl, htb, hcl⟩ := (HR.out.grown hG.says.st.gr (fun k e => by cases e)).ex (by omega)
    have h0 : wr.cell? ⟨tb, o + i * 2, none⟩ = some (.int .u8 (fm i 0)) := by simpa using hcl i 0 hlt (by decide)
    have h1 : wr.cell? ⟨tb, o + i * 2 + 1, none⟩ = some (.int .u8 (fm i 1)) := by simpa [Nat.add_assoc] using hcl i 1 hlt (by decide)
    have HLD := Lib.hid (load_devQ h0 h1)
    have gx := World.grownBy_alloc wr (.cells #[.int .u8 0, .int .u8 0] 26) none
    have hX := RowAt.new wr 26 2 (fun _ => .int .u8 (0 : Nat)) #[.int .u8 0, .int .u8 0] rfl
    obtain ⟨k1, k2⟩ := RowAt.store (P := Try.prog) hX 0 26 2 (fun j => .int .u8 (fm i j)) (by decide) (by kernel_rfl) (fun _ _ => rfl)
    have hX2 := k2.congr (v' := fun j => .int .u8 (fm i j)) fun k hk => by rw [if_pos ⟨Nat.zero_le _, by omega⟩, Nat.sub_zero]
    have gX := grown_setCells (w0 := wr) wr.heap.size (Or.inl (Nat.le_refl _)) (rowOf 2 (fun j => .int .u8 (fm i j))).toList 0 _ gx
    obtain ⟨X, hXX⟩ : ∃ X, X = wr.heap.size := ⟨_, rfl⟩
    obtain ⟨w5, hw5⟩ : ∃ W, W = (wr.alloc (.cells #[.int .u8 0, .int .u8 0] 26)).setCells wr.heap.size 0 (rowOf 2 (fun j => .int .u8 (fm i j))).toList := ⟨_, rfl⟩
    rw [← hw5] at k1 hX2 gX
    have HS := Lib.hid k1
    have HX := Lib.hid hX2
    have HXX := Lib.hid hXX
    have h5 := hG.says.st.grown gX
    have HK5 := Lib.hid (hG.kp.trans (Keep.grown hG.says.st gX))
    have HD := Lib.hid (done_any h5)
    have HP := Lib.hid (putDevice_any (fm i) h5 (by have := HM.out.1; omega) HM.out.2)
    have HLT := Lib.hid hlt
    clear h0 h1 hcl htb hX k1 k2 hX2 gX gx hG hi hlt hw5 hXX h5
    go_upto_region 6 with (first | ((with_reducible refine wpList_here ?_); refine wpList_ld (p := .pointer (some ⟨tb, o + i * 2, none⟩)) 23 ?_ ?_ ?_ HLD.out ?_; (· rfl); go_simp; (· kernel_rfl)) | ((with_reducible refine wpList_here ?_); refine wpList_st (T := 26) (p := .pointer (some ⟨wr.heap.size, 0, none⟩)) (v := .agg (rowOf 2 (fun j => .int .u8 (fm i j)))) (.tmp 9) (.tmp 24) ?_ ?_ ?_ ?_ ?_ (by exact HS.out) ?_; (· rfl); (· rfl); go_simp; (· kernel_rfl); (· kernel_rfl)))
    clear HLD HS
    have HLX := Lib.hid (HX.out.load (P := Try.prog) 0 26 2 _ (by decide) (fun j _ => by rw [Nat.zero_add]) (by kernel_rfl) (by kernel_rfl))
    go_wp2_with fail
    go_at_call 139
    refine HD.out.mono ?_
    rintro e w6 ⟨rfl, rfl⟩
    clear HD
    go_wp2_with (first | ((with_reducible refine wpList_here ?_); refine wpList_ld (p := .pointer (some ⟨wr.heap.size, 0, none⟩)) 9 ?_ ?_ ?_ HLX.out ?_; (· rfl); go_simp; (· kernel_rfl)))
    go_at_call 71
    refine HP.out.mono ?_
    rintro e w7 ⟨⟨rfl, h7⟩, h8⟩
    have HE2 : Hid (Goes w0 w g lim (n0 + 2 + 2 * (i + 1)) (cat (n0 + 2) (cat n0 f0 (nbF n 2)) (devsB fm (i + 1))) (.returned (.tuple #[])) w7) := Lib.hid (by
      rw [show n0 + 2 + 2 * (i + 1) = n0 + 2 + 2 * i + 2 by omega, ← devsB_succ]
      exact ⟨⟨rfl, h7⟩, HK5.out.trans h8⟩)
    have HW := Lib.hid (show wrap64 ((i : Int) + 1) = ((i + 1 : Nat) : Int) by have := HLT.out; have := HN.out; unfold wrap64; omega)
    clear h7 h8 HP HLX
    go_wp2_with fail
    go_roundw
    case rel => exact ⟨i + 1, HLT.out, by rw [HW.out], HE2.out⟩
    case measure => exact meas_lt n i _ (by rw [HW.out]) HLT.out
theorem rosPut_any {w0 w : World} {g lim D : Nat} {f : Nat → Nat} (x : RV) (fm : Nat → Nat → Nat) (hx : x.ep < 18446744073709551616) (hR : RdD w0 D x.am x.nm fm) (hn : x.nm ≤ 32) (h : Good w0 w g lim 0 f) (hr : x.len ≤ lim) (hl : lim ≤ 2 ^ 46) :
    Calls Try.prog 85 #[.pointer (some ⟨g, 0, none⟩), .agg (rowOf 18 x.v)] w (Goes w0 w g lim x.len (x.bytes fm)) := by
  have HL := Lib.hid (And.intro (show 26 + 2 * x.nm ≤ lim from hr) hl)
  have HXX := Lib.hid hx
  have HRR := Lib.hid hR
  have HN := Lib.hid hn
  clear hr hl hx hR hn
  have hP := PX.begin h 33 18 x.v
  clear h
  go_enter Try.func85, Try.ntmps85
  go_upto_region 1 with fail
  obtain ⟨B, hB⟩ : ∃ B, B = w.heap.size := ⟨_, rfl⟩
  rw [← hB] at hP ⊢
  generalize w.alloc (.cells (rowOf 18 x.v) 33) = wa at *
  clear hB
  have HX := Lib.hid (hP.fixed 39 0 16 16 x.id (by decide) x.v_id (by have := HL.out; omega) HL.out.2)
  clear hP
  go_wp2_with fail
  go_at_call 69
  refine HX.out.mono ?_
  rintro e w1 ⟨rfl, hP⟩
  clear HX
  have HX := Lib.hid (hP.u64 24 x.ep HXX.out (by have := HL.out; omega) HL.out.2)
  have c16 : w1.cell? ⟨B, 16, none⟩ = some (.int .u64 x.ep) := hP.row.cell 16 (by decide)
  clear hP
  go_wp2_with fail
  go_at_call 70
  refine HX.out.mono ?_
  rintro e w2 ⟨rfl, hP⟩
  clear HX c16
  have HX := Lib.hid ((putDevs_any D x.nm x.cm x.am fm hP.out HRR.out HN.out (by have := HL.out; omega) HL.out.2).mono fun e w' hs => hP.call hs)
  have c17 : w2.cell? ⟨B, 17, none⟩ = some (.slice x.am x.nm x.cm) := hP.row.cell 17 (by decide)
  clear hP
  go_wp2_with fail
  go_at_call 86
  refine HX.out.mono ?_
  rintro e w3 ⟨rfl, hP⟩
  clear HX c17
  have hD := hP.done
  clear hP
  rw [cat_none, Nat.zero_add] at hD
  have HE := Lib.hid (hD)
  clear hD
  go_wp2_with fail
  go_end0
  exact HE.out
end Go.Proofs.Ytdagbighlgfhjaa
namespace Go.Proofs.Ytdagbighlgfhjaa
open Go.RowKit

set_option maxRecDepth 100000
set_option maxHeartbeats 4000000

def payMay (k L : Nat) : Bool := decide (1 ≤ k) && decide (k ≤ 3) && decide (L ≤ 4095)
theorem mayPay_any (k L c : Nat) (a : Option Addr) (w : World) : Calls Try.prog 121 #[.int .u8 k, .slice a L c] w fun e w' => e = .returned (.bool (payMay k L)) ∧ w = w' := by
  unfold payMay
  by_cases h1 : 1 ≤ k
  · have j1 : (1 : Int) ≤ (k : Int) := by omega
    rw [decide_eq_true h1, Bool.true_and]
    by_cases h2 : k ≤ 3
    · have j2 : (k : Int) ≤ 3 := by omega
      rw [decide_eq_true h2, Bool.true_and]
      by_cases h3 : L ≤ 4095
      · have j3 : (L : Int) ≤ 4095 := by omega
        rw [decide_eq_true h3]
        go_enter Try.func121, Try.ntmps121
        go_wp2_with fail
        go_ret
        exact ⟨rfl, rfl⟩
      · have j3 : ¬ (L : Int) ≤ 4095 := by omega
        rw [decide_eq_false h3]
        go_enter Try.func121, Try.ntmps121
        go_wp2_with fail
        go_ret
        exact ⟨rfl, rfl⟩
    · have j2 : ¬ (k : Int) ≤ 3 := by omega
      rw [decide_eq_false h2, Bool.false_and]
      go_enter Try.func121, Try.ntmps121
      go_wp2_with fail
      go_ret
      exact ⟨rfl, rfl⟩
  · have j1 : ¬ (1 : Int) ≤ (k : Int) := by omega
    rw [decide_eq_false h1, Bool.false_and, Bool.false_and]
    go_enter Try.func121, Try.ntmps121
    go_wp2_with fail
    go_ret
    exact ⟨rfl, rfl⟩
theorem mayPay_enters : ∀ args w, (callFunc 121 args).run Try.prog w = .ok (.enter 121 args) w := enters_of Try.func121 (by kernel_rfl) rfl
theorem OwnV.ownN {n : Nat} {f : Nat → Nat} {x : Value} {W : World} (h : OwnV n f x W) (base : Nat) (hb : ∀ g, x.ownBlock = some g → base ≤ g) : OwnN W base x n f := by
  obtain ⟨g, cap, h1, h2⟩ := h
  exact ⟨Or.inr ⟨g, cap, h1, h2, hb g (by rw [h1]; rfl)⟩⟩
theorem pay_any (D k L c : Nat) (a : Option Addr) (f : Nat → Nat) (w : World) (hR : Rd w D a L f) (hL : L ≤ 1048576) : Calls Try.prog 47 #[.int .u8 k, .slice a L c] w (PutSays w (payMay k L) (1 + L) (cat 1 (fun _ => k) f)) := by
  have HM := Lib.hid (mayPay_any k L c a w)
  have HR := Lib.hid hR
  have HL := Lib.hid hL
  clear hR hL
  go_enter Try.func47, Try.ntmps47
  go_wp2_with fail
  go_at_call 121
  refine HM.out.mono ?_
  rintro e w1 ⟨rfl, rfl⟩
  obtain ⟨m, hm⟩ : ∃ m, m = payMay k L := ⟨_, rfl⟩
  have HMM := Lib.hid hm
  rw [← hm]
  clear hm HM
  cases m with
  | false =>
    go_wp2_with fail
    go_ret2
    exact ⟨⟨none, 0, by rw [← HMM.out]; rfl, by rw [← HMM.out]; exact OwnN.nil _ _ _⟩, grown_refl _ _⟩
  | true =>
    have ga := World.grownBy_alloc w (.cells #[.int .u8 k] 5) none
    have hO : OwnN (w.alloc (.cells #[.int .u8 k] 5)) w.heap.size (.slice (some ⟨w.heap.size, 0, none⟩) 1 1) 1 (fun _ => k) := ⟨Or.inr ⟨w.heap.size, 1, rfl, (fill_one w k).own (by decide), Nat.le_refl _⟩⟩
    obtain ⟨a', c', w2, hap, hO2, hg2, _⟩ := app_N1 c 39 ga hO (HR.out.grown ga (by simp)) (by have := HL.out; omega)
    have HAP := Lib.hid hap
    have HO := Lib.hid hO2
    have HG := Lib.hid hg2
    clear hap hO hO2 hg2 ga
    go_wp2_with (at_builtin; refine wpList_append_run rfl (.tmp 11) (.tmp 12) 39 39 rfl _ _ _ _ rfl rfl HAP.out ?_)
    go_ret2
    exact ⟨⟨a', c', by rw [← HMM.out]; rfl, by rw [← HMM.out]; exact HO.out⟩, HG.out⟩
/-- Its kind and its bytes, if it is a payload. -/
def paidOk (L : Nat) (f : Nat → Nat) : Bool := decide (1 ≤ L) && payMay (f 0) (L - 1)
structure PaidSays (w : World) (L : Nat) (f : Nat → Nat) (e : Ending) (w' : World) : Prop where
  ex : ∃ a c, e = .returned (.tuple #[.int .u8 (if paidOk L f = true then f 0 else 0 : Nat), .slice a (if paidOk L f = true then L - 1 else 0) c, .int .i64 (if paidOk L f = true then 0 else 9)]) ∧ OwnN w' w.heap.size (.slice a (if paidOk L f = true then L - 1 else 0) c) (if paidOk L f = true then L - 1 else 0) (fun i => f (1 + i))
  gr : w.grownBy w' none
theorem load_u8Q {w : World} {B o v : Nat} (h : w.cell? ⟨B, o, none⟩ = some (.int .u8 v)) : (Instr.loadAt 5 (.pointer (some ⟨B, o, none⟩))).run Try.prog w = .ok (.int .u8 v) w := by go_simp
theorem paid_any (D L c : Nat) (a : Option Addr) (f : Nat → Nat) (w : World) (hR : Rd w D a L f) (hc : L ≤ c) (hL : L ≤ 1048576) : Calls Try.prog 48 #[.slice a L c] w (PaidSays w L f) := by
  by_cases h0 : L = 0
  · subst h0
    have HOK := Lib.hid (show paidOk 0 f = false from rfl)
    clear hL hR hc
    go_enter Try.func48, Try.ntmps48
    go_upto_region 1 with fail
    go_quiet (fail)
    have HG : Hid (w.grownBy (World.drewN w nq) none) := grown_drewN (grown_refl w none) nq
    generalize World.drewN w nq = w1 at *
    go_wp2_with fail
    go_ret3
    exact ⟨⟨none, 0, by rw [HOK.out]; rfl, by rw [HOK.out]; exact OwnN.nil _ _ _⟩, HG.out⟩
  · obtain ⟨tb, o, rfl, _, hcl⟩ := hR.ex (by omega)
    obtain ⟨k0, hk0⟩ : ∃ k, k = f 0 := ⟨_, rfl⟩
    have hc0 : w.cell? ⟨tb, o, none⟩ = some (.int .u8 k0) := by rw [hk0]; exact hcl 0 (by omega)
    obtain ⟨a1, hsl, hrs⟩ := run_restQ c 1 hR (by omega) hc
    have HSL : Hid (∀ w, (Instr.slice 39 (.slice (some ⟨tb, o, none⟩) L c) (some (.int .i64 1)) none none).run Try.prog w = .ok (.slice a1 (L - 1) (c - 1)) w) := hsl
    have HRS := Lib.hid hrs
    have HC0 := Lib.hid hc0
    have HR := Lib.hid hR
    have HL := Lib.hid (And.intro hL h0)
    have j0 : ¬ (L : Int) = 0 := by omega
    have j1 : (0 : Int) < (L : Int) := by omega
    have HOK := Lib.hid (show paidOk L f = payMay k0 (L - 1) by unfold paidOk; rw [decide_eq_true (by omega), Bool.true_and, hk0])
    have HK := Lib.hid hk0
    clear hsl hrs hc0 hcl hR hL h0 hk0 hc
    go_enter Try.func48, Try.ntmps48
    go_upto_region 1 with fail
    refine wp_region_held (S := fun W => w.grownBy W none) (by kernel_rfl) ?_
    change wpAnyH _ _ _ _ _ 12 #[false, false, false, false, false, false, false, false, false, false, false, false] _ (World.drew _)
    have gq := grown_drew (grown_refl w none)
    generalize w.drew = w5 at *
    refine wpAnyH_takeD (some 5) (i := 0) (v := (.slice (some ⟨tb, o, none⟩) L c)) rfl rfl (by kernel_rfl) (by kernel_rfl) (by kernel_rfl) (fun _ _ _ h => h) (Or.inl ⟨rfl, fun _ _ => rfl⟩) gq ?_
    simp only [Act.put, List.setIfInBounds_toArray, List.set_cons_succ, List.set_cons_zero]
    refine wpAnyH_takeD (some 6) (i := 1) (v := (.int .i64 L)) rfl rfl (by kernel_rfl) (by kernel_rfl) (by kernel_rfl) (fun _ _ _ h => h) (Or.inl ⟨rfl, fun _ _ => by go_simp⟩) gq ?_
    simp only [Act.put, List.setIfInBounds_toArray, List.set_cons_succ, List.set_cons_zero]
    refine wpAnyH_takeD (some 7) (i := 2) (v := (.bool false)) rfl rfl (by kernel_rfl) (by kernel_rfl) (by kernel_rfl) (fun _ _ _ h => h) (Or.inl ⟨rfl, fun _ _ => by have := HL.out.2; go_simp⟩) gq ?_
    simp only [Act.put, List.setIfInBounds_toArray, List.set_cons_succ, List.set_cons_zero]
    refine wpAnyH_takeD (some 8) (i := 3) (v := (.bool false)) rfl rfl (by kernel_rfl) (by kernel_rfl) (by kernel_rfl) (fun _ _ _ h => h) (Or.inl ⟨rfl, fun _ _ => rfl⟩) gq ?_
    simp only [Act.put, List.setIfInBounds_toArray, List.set_cons_succ, List.set_cons_zero]
    refine wpAnyH_takeD (some 9) (i := 4) (v := (.slice (some ⟨tb, o, none⟩) L c)) rfl rfl (by kernel_rfl) (by kernel_rfl) (by kernel_rfl) (fun _ _ _ h => h) (Or.inl ⟨rfl, fun _ _ => rfl⟩) gq ?_
    simp only [Act.put, List.setIfInBounds_toArray, List.set_cons_succ, List.set_cons_zero]
    refine wpAnyH_takeD (some 10) (i := 5) (v := (.pointer (some ⟨tb, o, none⟩))) rfl rfl (by kernel_rfl) (by kernel_rfl) (by kernel_rfl) (fun _ _ _ h => h) (Or.inl ⟨rfl, fun _ _ => by have := HL.out.2; go_simp⟩) gq ?_
    simp only [Act.put, List.setIfInBounds_toArray, List.set_cons_succ, List.set_cons_zero]
    refine wpAnyH_takeD (some 11) (i := 6) (v := (.int .u8 k0)) rfl rfl (by kernel_rfl) (by kernel_rfl) (by kernel_rfl) (fun _ _ _ h => h) (Or.inl ⟨rfl, fun W hW => exec_loadQ (.tmp 10) _ _ rfl rfl (load_u8Q (hW.cell HC0.out (by simp)))⟩) gq ?_
    simp only [Act.put, List.setIfInBounds_toArray, List.set_cons_succ, List.set_cons_zero]
    refine wpAnyH_takeD (some 12) (i := 7) (v := (.slice (some ⟨tb, o, none⟩) L c)) rfl rfl (by kernel_rfl) (by kernel_rfl) (by kernel_rfl) (fun _ _ _ h => h) (Or.inl ⟨rfl, fun _ _ => rfl⟩) gq ?_
    simp only [Act.put, List.setIfInBounds_toArray, List.set_cons_succ, List.set_cons_zero]
    refine wpAnyH_takeD (some 13) (i := 8) (v := (.slice a1 (L - 1) (c - 1))) rfl rfl (by kernel_rfl) (by kernel_rfl) (by kernel_rfl) (fun _ _ _ h => h) (Or.inl ⟨rfl, fun W _ => by have := HSL.out W; unfold execOp; go_simp⟩) gq ?_
    simp only [Act.put, List.setIfInBounds_toArray, List.set_cons_succ, List.set_cons_zero]
    refine wpAnyH_callD (some 14) (i := 9) 121 #[.int .u8 k0, .slice a1 (L - 1) (c - 1)] (R := fun v W => v = .bool (payMay k0 (L - 1)) ∧ w5.grownBy W none) (by kernel_rfl) rfl rfl rfl (exec_fn2 _ _ _ _ _ rfl rfl rfl) mayPay_enters ((mayPay_any k0 (L - 1) (c - 1) a1 w5).mono fun e W h => ⟨_, h.1, rfl, h.2 ▸ grown_refl _ _⟩) ?_
    rintro v w6 ⟨rfl, hg6⟩
    have gq6 := grown_trans gq hg6
    refine ⟨gq6, ?_⟩
    simp only [Act.put, List.setIfInBounds_toArray, List.set_cons_succ, List.set_cons_zero]
    obtain ⟨m, hm⟩ : ∃ m, m = payMay k0 (L - 1) := ⟨_, rfl⟩
    rw [← hm]
    have HMM := Lib.hid hm
    clear hm hg6 gq
    refine wpAnyH_takeD (some 15) (i := 10) (v := (.bool (!m))) rfl rfl (by kernel_rfl) (by kernel_rfl) (by kernel_rfl) (fun _ _ _ h => h) (Or.inl ⟨rfl, fun _ _ => by go_simp⟩) gq6 ?_
    simp only [Act.put, List.setIfInBounds_toArray, List.set_cons_succ, List.set_cons_zero]
    refine wpAnyH_takeD (some 16) (i := 11) (v := (.bool (!m))) rfl rfl (by kernel_rfl) (by kernel_rfl) (by kernel_rfl) (fun _ _ _ h => h) (Or.inl ⟨rfl, fun _ _ => by go_simp⟩) gq6 ?_
    simp only [Act.put, List.setIfInBounds_toArray, List.set_cons_succ, List.set_cons_zero]
    refine wpAnyH_done (by kernel_rfl) ?_ _
    cases m with
    | false =>
      have HG6 := Lib.hid gq6
      clear gq6
      go_wp2_with fail
      go_ret3
      exact ⟨⟨none, 0, by rw [HOK.out, ← HMM.out]; rfl, by rw [HOK.out, ← HMM.out]; exact OwnN.nil _ _ _⟩, HG6.out⟩
    | true =>
      go_upto_region 3 with fail
      refine wp_region_held (S := fun W => w.grownBy W none) (by kernel_rfl) ?_
      change wpAnyH _ _ _ _ _ 9 #[false, false, false, false, false, false, false, false, false] _ (World.drew _)
      have gq := grown_drew gq6
      generalize w6.drew = w7 at *
      refine wpAnyH_takeD (some 17) (i := 0) (v := (.slice (some ⟨tb, o, none⟩) L c)) rfl rfl (by kernel_rfl) (by kernel_rfl) (by kernel_rfl) (fun _ _ _ h => h) (Or.inl ⟨rfl, fun _ _ => rfl⟩) gq ?_
      simp only [Act.put, List.setIfInBounds_toArray, List.set_cons_succ, List.set_cons_zero]
      refine wpAnyH_takeD (some 18) (i := 1) (v := (.pointer (some ⟨tb, o, none⟩))) rfl rfl (by kernel_rfl) (by kernel_rfl) (by kernel_rfl) (fun _ _ _ h => h) (Or.inl ⟨rfl, fun _ _ => by have := HL.out.2; go_simp⟩) gq ?_
      simp only [Act.put, List.setIfInBounds_toArray, List.set_cons_succ, List.set_cons_zero]
      refine wpAnyH_takeD (some 19) (i := 2) (v := (.int .u8 k0)) rfl rfl (by kernel_rfl) (by kernel_rfl) (by kernel_rfl) (fun _ _ _ h => h) (Or.inl ⟨rfl, fun W hW => exec_loadQ (.tmp 18) _ _ rfl rfl (load_u8Q (hW.cell HC0.out (by simp)))⟩) gq ?_
      simp only [Act.put, List.setIfInBounds_toArray, List.set_cons_succ, List.set_cons_zero]
      refine wpAnyH_takeD (some 20) (i := 3) (v := (.slice (some ⟨tb, o, none⟩) L c)) rfl rfl (by kernel_rfl) (by kernel_rfl) (by kernel_rfl) (fun _ _ _ h => h) (Or.inl ⟨rfl, fun _ _ => rfl⟩) gq ?_
      simp only [Act.put, List.setIfInBounds_toArray, List.set_cons_succ, List.set_cons_zero]
      refine wpAnyH_takeD (some 21) (i := 4) (v := (.slice a1 (L - 1) (c - 1))) rfl rfl (by kernel_rfl) (by kernel_rfl) (by kernel_rfl) (fun _ _ _ h => h) (Or.inl ⟨rfl, fun W _ => by have := HSL.out W; unfold execOp; go_simp⟩) gq ?_
      simp only [Act.put, List.setIfInBounds_toArray, List.set_cons_succ, List.set_cons_zero]
      obtain ⟨a', c', w8, hap, hO2, hg8, _⟩ := app_N1 (c - 1) 39 gq (OwnN.nil w7 w.heap.size (fun _ => 0)) ((HRS.out w HR.out).grown gq (by simp)) (by have := HL.out; omega)
      refine wpAnyH_yieldD (some 22) (i := 5) (v := (.slice a' (0 + (L - 1)) c')) (by kernel_rfl) rfl rfl rfl (exec_appendQ _ _ _ _ _ rfl rfl rfl rfl hap) hg8 ?_
      simp only [Act.put, List.setIfInBounds_toArray, List.set_cons_succ, List.set_cons_zero]
      refine wpAnyH_takeD (some 2) (i := 6) (v := (.int .u8 k0)) rfl rfl (by kernel_rfl) (by kernel_rfl) (by kernel_rfl) (fun _ _ _ h => h) (Or.inl ⟨rfl, fun _ _ => rfl⟩) hg8 ?_
      simp only [Act.put, List.setIfInBounds_toArray, List.set_cons_succ, List.set_cons_zero]
      refine wpAnyH_takeD (some 3) (i := 7) (v := (.slice a' (0 + (L - 1)) c')) rfl rfl (by kernel_rfl) (by kernel_rfl) (by kernel_rfl) (fun _ _ _ h => h) (Or.inl ⟨rfl, fun _ _ => rfl⟩) hg8 ?_
      simp only [Act.put, List.setIfInBounds_toArray, List.set_cons_succ, List.set_cons_zero]
      refine wpAnyH_takeD (some 4) (i := 8) (v := (.int .i64 0)) rfl rfl (by kernel_rfl) (by kernel_rfl) (by kernel_rfl) (fun _ _ _ h => h) (Or.inl ⟨rfl, fun _ _ => rfl⟩) hg8 ?_
      simp only [Act.put, List.setIfInBounds_toArray, List.set_cons_succ, List.set_cons_zero]
      refine wpAnyH_done (by kernel_rfl) ?_ _
      have HO := Lib.hid hO2
      have HG8 := Lib.hid hg8
      clear hap hO2 hg8 gq gq6
      go_wp2_with fail
      go_ret3
      refine ⟨⟨a', c', ?_, ?_⟩, HG8.out⟩
      · rw [HOK.out, ← HMM.out, ← HK.out]
        show _ = Ending.returned (.tuple #[.int .u8 k0, .slice a' (L - 1) c', .int .i64 0])
        rw [Nat.zero_add]
        rfl
      · rw [HOK.out, ← HMM.out]
        have := HO.out
        rw [Nat.zero_add, cat_none] at this
        exact this
end Go.Proofs.Ytdagbighlgfhjaa
namespace Go.Proofs.Ytdagbighlgfhjaa
open Go.RowKit

set_option maxRecDepth 100000
set_option maxHeartbeats 4000000

end Go.Proofs.Ytdagbighlgfhjaa
namespace Go.Proofs.Ytdagbighlgfhjaa
open Go.RowKit

set_option maxRecDepth 100000
set_option maxHeartbeats 4000000

theorem ofHdr_any (D L cw : Nat) (aw : Option Addr) (v : Nat → Value) (m : Bool) (n : Nat) (f : Nat → Nat) (w : World) (hf : ∀ i, f i < 256) (hW : m = true → L = n ∧ Rd w D aw n f) (HM : ∀ w1, w.grownBy w1 none → Calls Try.prog 77 #[.agg (rowOf 34 v)] w1 fun e w' => e = .returned (.bool m) ∧ w1.grownBy w' none)
    (HP : m = true → ∀ w0 w1 g, w.grownBy w0 none → Good w0 w1 g 70024 0 (fun _ => 0) → Calls Try.prog 78 #[.pointer (some ⟨g, 0, none⟩), .agg (rowOf 34 v)] w1 (Goes w0 w1 g 70024 n f)) :
    Calls Try.prog 15 #[.agg (rowOf 3 codHdr), .agg (rowOf 34 v), .slice aw L cw, .bool m] w fun e w' => e = .returned (.bool true) ∧ w.grownBy w' none := by
  have ga := World.grownBy_alloc w (.cells (rowOf 3 codHdr) 61) none
  have hz := World.size_alloc w (.cells (rowOf 3 codHdr) 61)
  have hC := RowAt.new w 61 3 codHdr _ rfl
  have gb := World.grownBy_alloc (w.alloc (.cells (rowOf 3 codHdr) 61)) (.cells (rowOf 34 v) 36) none
  have hX := RowAt.new (w.alloc (.cells (rowOf 3 codHdr) 61)) 36 34 v _ rfl
  rw [hz] at hX
  have hC := hC.grown gb (by simp)
  have hG := grown_trans ga gb
  have HHM := Lib.hid HM
  have HHP := Lib.hid HP
  have HW := Lib.hid hW
  have HF := Lib.hid hf
  clear ga gb HM HP hz hW hf
  go_enter Try.func15, Try.ntmps15
  go_upto_region 1 with fail
  obtain ⟨B, hB⟩ : ∃ B, B = w.heap.size := ⟨_, rfl⟩
  rw [← hB] at hC hX ⊢
  generalize (w.alloc (.cells (rowOf 3 codHdr) 61)).alloc (.cells (rowOf 34 v) 36) = w1 at *
  have HL := Lib.hid (fun W (h : w1.grownBy W none) => (hX.grown h (by simp)).load (P := Try.prog) 0 36 34 v (by decide) (fun j _ => by rw [Nat.zero_add]) (by kernel_rfl) (by kernel_rfl))
  have HLC := Lib.hid (fun W (h : w1.grownBy W none) => (hC.grown h (by simp)).load (P := Try.prog) 0 61 3 codHdr (by decide) (fun j _ => by rw [Nat.zero_add]) (by kernel_rfl) (by kernel_rfl))
  have HG := Lib.hid hG
  clear hB hC hX hG
  have HPU := Lib.hid (putHdr_any v m n f w1 (fun w2 h => HHM.out w2 (grown_trans HG.out h)) (fun h w0 w2 g h2 => HHP.out h w0 w2 g (grown_trans HG.out h2)))
  have HL1 := Lib.hid (HL.out w1 (grown_refl _ _))
  have HC1 := Lib.hid (HLC.out w1 (grown_refl _ _))
  go_wp2_with (first | ((with_reducible refine wpList_here ?_); refine wpList_ld (p := .pointer (some ⟨B, 0, none⟩)) 4 ?_ ?_ ?_ HC1.out ?_; (· rfl); go_simp; (· kernel_rfl)) | ((with_reducible refine wpList_here ?_); refine wpList_ld (p := .pointer (some ⟨(B + 1), 0, none⟩)) 5 ?_ ?_ ?_ HL1.out ?_; (· rfl); go_simp; (· kernel_rfl)))
  go_at_call 58
  refine HPU.out.mono ?_
  rintro e w2 ⟨⟨a, c, rfl, hO⟩, hg⟩
  obtain ⟨M, hM⟩ : ∃ M, M = if m = true then n else 0 := ⟨_, rfl⟩
  obtain ⟨cd, hcd⟩ : ∃ x : Int, x = if m = true then 0 else 2 := ⟨_, rfl⟩
  rw [← hM] at hO
  rw [← hM, ← hcd]
  have HMM := Lib.hid hM
  have HCD := Lib.hid hcd
  have HG2 := Lib.hid hg
  have HO := Lib.hid hO
  have HL2 := Lib.hid (HL.out w2 hg)
  have HC2 := Lib.hid (HLC.out w2 hg)
  have HMY := Lib.hid (mayHdr_any v m w2 (fun w3 h => HHM.out w3 (grown_trans (grown_trans HG.out hg) h)))
  clear hM hcd hg hO HPU HL1 HC1 HL HLC HHM HHP
  go_wp2_with (first | ((with_reducible refine wpList_here ?_); refine wpList_ld (p := .pointer (some ⟨B, 0, none⟩)) 4 ?_ ?_ ?_ HC2.out ?_; (· rfl); go_simp; (· kernel_rfl)) | ((with_reducible refine wpList_here ?_); refine wpList_ld (p := .pointer (some ⟨(B + 1), 0, none⟩)) 5 ?_ ?_ ?_ HL2.out ?_; (· rfl); go_simp; (· kernel_rfl)))
  go_at_call 76
  refine HMY.out.mono ?_
  rintro e w3 ⟨rfl, hg3⟩
  have HG3 := Lib.hid (grown_trans (grown_trans HG.out HG2.out) hg3)
  have HO3 := Lib.hid (HO.out.grown hg3)
  clear hg3 HMY HL2 HC2 HO HG2
  cases m with
  | false =>
    obtain rfl : M = 0 := HMM.out.trans (if_neg (by decide))
    obtain rfl : cd = 2 := HCD.out.trans (if_neg (by decide))
    go_wp2_with fail
    go_ret
    exact ⟨rfl, HG3.out⟩
  | true =>
    obtain rfl : M = n := HMM.out.trans (if_pos rfl)
    obtain rfl : cd = 0 := HCD.out.trans (if_pos rfl)
    obtain ⟨hL, hRw⟩ := HW.out (by first | rfl | trivial)
    subst hL
    obtain ⟨a', c', e1, _, hR⟩ := HO3.out.rd
    cases e1
    have k1 := run_string c hR HF.out
    have k2 := run_string cw (hRw.grown HG3.out (by simp)) HF.out
    obtain ⟨sx, hsx⟩ : ∃ s, s = strOf L f := ⟨_, rfl⟩
    rw [← hsx] at k1 k2
    clear hsx hR hRw
    go_wp2_with fail
    go_ret
    exact ⟨rfl, HG3.out⟩
end Go.Proofs.Ytdagbighlgfhjaa
namespace Go.Proofs.Ytdagbighlgfhjaa
open Go.RowKit

set_option maxRecDepth 100000
set_option maxHeartbeats 4000000

def codDist (i : Nat) : Value := if i = 0 then .func (.func 66) #[] #[] else if i = 1 then .func (.func 68) #[] #[] else .func (.func 72) #[] #[]
theorem codDist_any (w : World) : Calls Try.prog 14 #[] w fun e w' => e = .returned (.agg (rowOf 3 codDist)) ∧ w.grownBy w' none := by
  have ga := World.grownBy_alloc w (.cells #[.nilFunc, .nilFunc, .nilFunc] 54) none
  have hn := RowAt.new w 54 3 (fun _ => .nilFunc) #[.nilFunc, .nilFunc, .nilFunc] rfl
  obtain ⟨hs1, hs2⟩ := RowAt.store (P := Try.prog) hn 0 54 3 codDist (by decide) (by kernel_rfl) (fun j _ => by unfold codDist; (repeat' split) <;> rfl)
  have hrr := hs2.congr (v' := codDist) fun i hi => by rw [if_pos ⟨Nat.zero_le _, by omega⟩, Nat.sub_zero]
  have hG : w.grownBy _ none := grown_setCells w.heap.size (Or.inl (Nat.le_refl _)) (rowOf 3 codDist).toList 0 _ ga
  have HS := Lib.hid hs1
  have HRR := Lib.hid hrr
  have HG := Lib.hid hG
  clear ga hn hs1 hs2 hrr hG
  go_enter Try.func14, Try.ntmps14
  go_wp2_with (first | ((with_reducible refine wpList_here ?_); refine wpList_st (T := 54) (p := .pointer (some ⟨w.heap.size, 0, none⟩)) (v := .agg (rowOf 3 codDist)) (.tmp 0) (.tmp 1) ?_ ?_ ?_ ?_ ?_ HS.out ?_; (· rfl); (· rfl); go_simp; (· kernel_rfl); (· kernel_rfl)))
  exact bodyPost_ret (res_rowAt rfl rfl HRR.out (by kernel_rfl) (by kernel_rfl)) rfl ⟨rfl, HG.out⟩
theorem fmDist_some (w : World) : (binOp .neq 50 (.func (.func 66) #[] #[]) .nilFunc).run Try.prog w = .ok (.bool true) w := by kernel_rfl
theorem fpDist_some (w : World) : (binOp .eql 51 (.func (.func 68) #[] #[]) .nilFunc).run Try.prog w = .ok (.bool false) w := by kernel_rfl
theorem ftDist_some (w : World) : (binOp .eql 52 (.func (.func 72) #[] #[]) .nilFunc).run Try.prog w = .ok (.bool false) w := by kernel_rfl
theorem mayDist_any (v : Nat → Value) (m : Bool) (w : World) (HM : ∀ w1, w.grownBy w1 none → Calls Try.prog 66 #[.agg (rowOf 52 v)] w1 fun e w' => e = .returned (.bool m) ∧ w1.grownBy w' none) :
    Calls Try.prog 65 #[.agg (rowOf 3 codDist), .agg (rowOf 52 v)] w fun e w' => e = .returned (.bool m) ∧ w.grownBy w' none := by
  have ga := World.grownBy_alloc w (.cells (rowOf 3 codDist) 54) none
  have hz := World.size_alloc w (.cells (rowOf 3 codDist) 54)
  have hC := RowAt.new w 54 3 codDist _ rfl
  have gb := World.grownBy_alloc (w.alloc (.cells (rowOf 3 codDist) 54)) (.cells (rowOf 52 v) 30) none
  have hX := RowAt.new (w.alloc (.cells (rowOf 3 codDist) 54)) 30 52 v _ rfl
  rw [hz] at hX
  have hC := hC.grown gb (by simp)
  have hG := grown_trans ga gb
  have HHM := Lib.hid HM
  clear ga gb HM hz
  go_enter Try.func65, Try.ntmps65
  go_upto_region 1 with fail
  obtain ⟨B, hB⟩ : ∃ B, B = w.heap.size := ⟨_, rfl⟩
  rw [← hB] at hC hX ⊢
  generalize (w.alloc (.cells (rowOf 3 codDist) 54)).alloc (.cells (rowOf 52 v) 30) = w2 at *
  clear hB
  have c0 : w2.cell? ⟨B, 0, none⟩ = some (.func (.func 66) #[] #[]) := hC.cell 0 (by decide)
  have HL := Lib.hid (hX.load (P := Try.prog) 0 30 52 v (by decide) (fun j _ => by rw [Nat.zero_add]) (by kernel_rfl) (by kernel_rfl))
  have HX := Lib.hid (HHM.out w2 hG)
  have HG := Lib.hid hG
  have e0 := fmDist_some w2
  clear hC hX hG HHM
  go_wp2_with (first | ((with_reducible refine wpList_here ?_); refine wpList_ld (p := .pointer (some ⟨B + 1, 0, none⟩)) 3 ?_ ?_ ?_ HL.out ?_; (· rfl); go_simp; (· kernel_rfl)))
  go_at_call 66
  refine HX.out.mono ?_
  rintro e w3 ⟨rfl, g3⟩
  have HG3 := Lib.hid (grown_trans HG.out g3)
  clear HX HG HL c0 g3 e0
  go_wp2_with fail
  go_ret
  exact ⟨rfl, HG3.out⟩
theorem putDist_any (v : Nat → Value) (m : Bool) (n : Nat) (f : Nat → Nat) (w : World) (HM : ∀ w1, w.grownBy w1 none → Calls Try.prog 66 #[.agg (rowOf 52 v)] w1 fun e w' => e = .returned (.bool m) ∧ w1.grownBy w' none)
    (HP : m = true → ∀ w0 w1 g, w.grownBy w0 none → Good w0 w1 g 70024 0 (fun _ => 0) → Calls Try.prog 68 #[.pointer (some ⟨g, 0, none⟩), .agg (rowOf 52 v)] w1 (Goes w0 w1 g 70024 n f)) :
    Calls Try.prog 64 #[.agg (rowOf 3 codDist), .agg (rowOf 52 v)] w (PutSays w m n f) := by
  have ga := World.grownBy_alloc w (.cells (rowOf 3 codDist) 54) none
  have hz := World.size_alloc w (.cells (rowOf 3 codDist) 54)
  have hC := RowAt.new w 54 3 codDist _ rfl
  have gb := World.grownBy_alloc (w.alloc (.cells (rowOf 3 codDist) 54)) (.cells (rowOf 52 v) 30) none
  have hX := RowAt.new (w.alloc (.cells (rowOf 3 codDist) 54)) 30 52 v _ rfl
  rw [hz] at hX
  have hC := hC.grown gb (by simp)
  have hG := grown_trans ga gb
  have HHM := Lib.hid HM
  have HHP := Lib.hid HP
  clear ga gb HM HP hz
  go_enter Try.func64, Try.ntmps64
  go_upto_region 1 with fail
  obtain ⟨B, hB⟩ : ∃ B, B = w.heap.size := ⟨_, rfl⟩
  rw [← hB] at hC hX ⊢
  generalize (w.alloc (.cells (rowOf 3 codDist) 54)).alloc (.cells (rowOf 52 v) 30) = w2 at *
  have HB := Lib.hid hB
  clear hB
  have c1 : w2.cell? ⟨B, 1, none⟩ = some (.func (.func 68) #[] #[]) := hC.cell 1 (by decide)
  have HL := Lib.hid (hX.load (P := Try.prog) 0 30 52 v (by decide) (fun j _ => by rw [Nat.zero_add]) (by kernel_rfl) (by kernel_rfl))
  have HLC := Lib.hid (hC.load (P := Try.prog) 0 54 3 codDist (by decide) (fun j _ => by rw [Nat.zero_add]) (by kernel_rfl) (by kernel_rfl))
  have HX := Lib.hid (mayDist_any v m w2 (fun w1 h => HHM.out w1 (grown_trans hG h)))
  have HG := Lib.hid hG
  have HC := Lib.hid hC
  have HR := Lib.hid hX
  have e0 := fpDist_some w2
  clear hC hX hG HHM
  go_wp2_with (first | ((with_reducible refine wpList_here ?_); refine wpList_ld (p := .pointer (some ⟨B + 1, 0, none⟩)) 3 ?_ ?_ ?_ HL.out ?_; (· rfl); go_simp; (· kernel_rfl)) | ((with_reducible refine wpList_here ?_); refine wpList_ld (p := .pointer (some ⟨B, 0, none⟩)) 2 ?_ ?_ ?_ HLC.out ?_; (· rfl); go_simp; (· kernel_rfl)))
  go_at_call 65
  refine HX.out.mono ?_
  rintro e w3 ⟨rfl, g3⟩
  have HG3 := Lib.hid (grown_trans HG.out g3)
  clear HX HL HLC c1 e0
  cases m with
  | false =>
    clear g3
    go_wp2_with fail
    go_ret2
    exact ⟨⟨none, 0, rfl, OwnN.nil _ _ _⟩, HG3.out⟩
  | true =>
    have HN := Lib.hid (newOut_any 70024 (by decide) (by decide) w3)
    have HG3' := Lib.hid g3
    clear g3
    go_wp2_with fail
    go_at_call 122
    refine HN.out.mono ?_
    rintro e w4 ⟨p, rfl, hO⟩
    obtain ⟨g, rfl⟩ : ∃ g, p = some ⟨g, 0, none⟩ := by
      obtain ⟨g', a, c, e, _⟩ := (show OAt w3 w4 p (.good 70024 0 fun _ => 0) from hO).st
      exact ⟨g', e⟩
    have hO : Good w3 w4 g 70024 0 (fun _ => 0) := hO
    have hX := HR.out.grown (grown_trans HG3'.out hO.gr) (by simp)
    have hC := HC.out.grown (grown_trans HG3'.out hO.gr) (by simp)
    have c1 : w4.cell? ⟨B, 1, none⟩ = some (.func (.func 68) #[] #[]) := hC.cell 1 (by decide)
    have HL := Lib.hid (hX.load (P := Try.prog) 0 30 52 v (by decide) (fun j _ => by rw [Nat.zero_add]) (by kernel_rfl) (by kernel_rfl))
    have HX := Lib.hid (HHP.out (by first | rfl | trivial) w3 w4 g HG3.out hO)
    clear hX hC hO HHP HN HC HR HG3'
    go_wp2_with (first | ((with_reducible refine wpList_here ?_); refine wpList_ld (p := .pointer (some ⟨B + 1, 0, none⟩)) 3 ?_ ?_ ?_ HL.out ?_; (· rfl); go_simp; (· kernel_rfl)))
    go_at_call 68
    refine HX.out.mono ?_
    rintro e w5 ⟨⟨rfl, h5⟩, _⟩
    have HY := Lib.hid (outBytes_any h5 (good_len h5))
    have HG5 := Lib.hid (grown_trans HG3.out h5.gr)
    clear h5 HX HL c1
    go_wp2_with fail
    go_at_call 125
    refine HY.out.mono ?_
    rintro e w6 hE
    obtain ⟨a, c, rfl, hO, hg⟩ := hE.ex
    have HO := Lib.hid hO
    have HG6 := Lib.hid (grown_trans HG5.out hg)
    have HS5 := Lib.hid HG5.out.size
    clear hE hO hg HY
    go_wp2_with fail
    go_ret2
    exact ⟨⟨a, c, rfl, HO.out.base HS5.out⟩, HG6.out⟩
end Go.Proofs.Ytdagbighlgfhjaa
namespace Go.Proofs.Ytdagbighlgfhjaa
open Go.RowKit

set_option maxRecDepth 100000
set_option maxHeartbeats 4000000

theorem ofDist_any (D L cw : Nat) (aw : Option Addr) (v : Nat → Value) (m : Bool) (n : Nat) (f : Nat → Nat) (w : World) (hf : ∀ i, f i < 256) (hW : m = true → L = n ∧ Rd w D aw n f) (HM : ∀ w1, w.grownBy w1 none → Calls Try.prog 66 #[.agg (rowOf 52 v)] w1 fun e w' => e = .returned (.bool m) ∧ w1.grownBy w' none)
    (HP : m = true → ∀ w0 w1 g, w.grownBy w0 none → Good w0 w1 g 70024 0 (fun _ => 0) → Calls Try.prog 68 #[.pointer (some ⟨g, 0, none⟩), .agg (rowOf 52 v)] w1 (Goes w0 w1 g 70024 n f)) :
    Calls Try.prog 13 #[.agg (rowOf 3 codDist), .agg (rowOf 52 v), .slice aw L cw, .bool m] w fun e w' => e = .returned (.bool true) ∧ w.grownBy w' none := by
  have ga := World.grownBy_alloc w (.cells (rowOf 3 codDist) 54) none
  have hz := World.size_alloc w (.cells (rowOf 3 codDist) 54)
  have hC := RowAt.new w 54 3 codDist _ rfl
  have gb := World.grownBy_alloc (w.alloc (.cells (rowOf 3 codDist) 54)) (.cells (rowOf 52 v) 30) none
  have hX := RowAt.new (w.alloc (.cells (rowOf 3 codDist) 54)) 30 52 v _ rfl
  rw [hz] at hX
  have hC := hC.grown gb (by simp)
  have hG := grown_trans ga gb
  have HHM := Lib.hid HM
  have HHP := Lib.hid HP
  have HW := Lib.hid hW
  have HF := Lib.hid hf
  clear ga gb HM HP hz hW hf
  go_enter Try.func13, Try.ntmps13
  go_upto_region 1 with fail
  obtain ⟨B, hB⟩ : ∃ B, B = w.heap.size := ⟨_, rfl⟩
  rw [← hB] at hC hX ⊢
  generalize (w.alloc (.cells (rowOf 3 codDist) 54)).alloc (.cells (rowOf 52 v) 30) = w1 at *
  have HL := Lib.hid (fun W (h : w1.grownBy W none) => (hX.grown h (by simp)).load (P := Try.prog) 0 30 52 v (by decide) (fun j _ => by rw [Nat.zero_add]) (by kernel_rfl) (by kernel_rfl))
  have HLC := Lib.hid (fun W (h : w1.grownBy W none) => (hC.grown h (by simp)).load (P := Try.prog) 0 54 3 codDist (by decide) (fun j _ => by rw [Nat.zero_add]) (by kernel_rfl) (by kernel_rfl))
  have HG := Lib.hid hG
  clear hB hC hX hG
  have HPU := Lib.hid (putDist_any v m n f w1 (fun w2 h => HHM.out w2 (grown_trans HG.out h)) (fun h w0 w2 g h2 => HHP.out h w0 w2 g (grown_trans HG.out h2)))
  have HL1 := Lib.hid (HL.out w1 (grown_refl _ _))
  have HC1 := Lib.hid (HLC.out w1 (grown_refl _ _))
  go_wp2_with (first | ((with_reducible refine wpList_here ?_); refine wpList_ld (p := .pointer (some ⟨B, 0, none⟩)) 4 ?_ ?_ ?_ HC1.out ?_; (· rfl); go_simp; (· kernel_rfl)) | ((with_reducible refine wpList_here ?_); refine wpList_ld (p := .pointer (some ⟨(B + 1), 0, none⟩)) 5 ?_ ?_ ?_ HL1.out ?_; (· rfl); go_simp; (· kernel_rfl)))
  go_at_call 64
  refine HPU.out.mono ?_
  rintro e w2 ⟨⟨a, c, rfl, hO⟩, hg⟩
  obtain ⟨M, hM⟩ : ∃ M, M = if m = true then n else 0 := ⟨_, rfl⟩
  obtain ⟨cd, hcd⟩ : ∃ x : Int, x = if m = true then 0 else 2 := ⟨_, rfl⟩
  rw [← hM] at hO
  rw [← hM, ← hcd]
  have HMM := Lib.hid hM
  have HCD := Lib.hid hcd
  have HG2 := Lib.hid hg
  have HO := Lib.hid hO
  have HL2 := Lib.hid (HL.out w2 hg)
  have HC2 := Lib.hid (HLC.out w2 hg)
  have HMY := Lib.hid (mayDist_any v m w2 (fun w3 h => HHM.out w3 (grown_trans (grown_trans HG.out hg) h)))
  clear hM hcd hg hO HPU HL1 HC1 HL HLC HHM HHP
  go_wp2_with (first | ((with_reducible refine wpList_here ?_); refine wpList_ld (p := .pointer (some ⟨B, 0, none⟩)) 4 ?_ ?_ ?_ HC2.out ?_; (· rfl); go_simp; (· kernel_rfl)) | ((with_reducible refine wpList_here ?_); refine wpList_ld (p := .pointer (some ⟨(B + 1), 0, none⟩)) 5 ?_ ?_ ?_ HL2.out ?_; (· rfl); go_simp; (· kernel_rfl)))
  go_at_call 65
  refine HMY.out.mono ?_
  rintro e w3 ⟨rfl, hg3⟩
  have HG3 := Lib.hid (grown_trans (grown_trans HG.out HG2.out) hg3)
  have HO3 := Lib.hid (HO.out.grown hg3)
  clear hg3 HMY HL2 HC2 HO HG2
  cases m with
  | false =>
    obtain rfl : M = 0 := HMM.out.trans (if_neg (by decide))
    obtain rfl : cd = 2 := HCD.out.trans (if_neg (by decide))
    go_wp2_with fail
    go_ret
    exact ⟨rfl, HG3.out⟩
  | true =>
    obtain rfl : M = n := HMM.out.trans (if_pos rfl)
    obtain rfl : cd = 0 := HCD.out.trans (if_pos rfl)
    obtain ⟨hL, hRw⟩ := HW.out (by first | rfl | trivial)
    subst hL
    obtain ⟨a', c', e1, _, hR⟩ := HO3.out.rd
    cases e1
    have k1 := run_string c hR HF.out
    have k2 := run_string cw (hRw.grown HG3.out (by simp)) HF.out
    obtain ⟨sx, hsx⟩ : ∃ s, s = strOf L f := ⟨_, rfl⟩
    rw [← hsx] at k1 k2
    clear hsx hR hRw
    go_wp2_with fail
    go_ret
    exact ⟨rfl, HG3.out⟩
end Go.Proofs.Ytdagbighlgfhjaa
namespace Go.Proofs.Ytdagbighlgfhjaa
open Go.RowKit

set_option maxRecDepth 100000
set_option maxHeartbeats 4000000

def codRos (i : Nat) : Value := if i = 0 then .func (.func 83) #[] #[] else if i = 1 then .func (.func 85) #[] #[] else .func (.func 87) #[] #[]
theorem codRos_any (w : World) : Calls Try.prog 20 #[] w fun e w' => e = .returned (.agg (rowOf 3 codRos)) ∧ w.grownBy w' none := by
  have ga := World.grownBy_alloc w (.cells #[.nilFunc, .nilFunc, .nilFunc] 70) none
  have hn := RowAt.new w 70 3 (fun _ => .nilFunc) #[.nilFunc, .nilFunc, .nilFunc] rfl
  obtain ⟨hs1, hs2⟩ := RowAt.store (P := Try.prog) hn 0 70 3 codRos (by decide) (by kernel_rfl) (fun j _ => by unfold codRos; (repeat' split) <;> rfl)
  have hrr := hs2.congr (v' := codRos) fun i hi => by rw [if_pos ⟨Nat.zero_le _, by omega⟩, Nat.sub_zero]
  have hG : w.grownBy _ none := grown_setCells w.heap.size (Or.inl (Nat.le_refl _)) (rowOf 3 codRos).toList 0 _ ga
  have HS := Lib.hid hs1
  have HRR := Lib.hid hrr
  have HG := Lib.hid hG
  clear ga hn hs1 hs2 hrr hG
  go_enter Try.func20, Try.ntmps20
  go_wp2_with (first | ((with_reducible refine wpList_here ?_); refine wpList_st (T := 70) (p := .pointer (some ⟨w.heap.size, 0, none⟩)) (v := .agg (rowOf 3 codRos)) (.tmp 0) (.tmp 1) ?_ ?_ ?_ ?_ ?_ HS.out ?_; (· rfl); (· rfl); go_simp; (· kernel_rfl); (· kernel_rfl)))
  exact bodyPost_ret (res_rowAt rfl rfl HRR.out (by kernel_rfl) (by kernel_rfl)) rfl ⟨rfl, HG.out⟩
theorem fmRos_some (w : World) : (binOp .neq 66 (.func (.func 83) #[] #[]) .nilFunc).run Try.prog w = .ok (.bool true) w := by kernel_rfl
theorem fpRos_some (w : World) : (binOp .eql 67 (.func (.func 85) #[] #[]) .nilFunc).run Try.prog w = .ok (.bool false) w := by kernel_rfl
theorem ftRos_some (w : World) : (binOp .eql 68 (.func (.func 87) #[] #[]) .nilFunc).run Try.prog w = .ok (.bool false) w := by kernel_rfl
theorem mayRos_any (v : Nat → Value) (m : Bool) (w : World) (HM : ∀ w1, w.grownBy w1 none → Calls Try.prog 83 #[.agg (rowOf 18 v)] w1 fun e w' => e = .returned (.bool m) ∧ w1.grownBy w' none) :
    Calls Try.prog 82 #[.agg (rowOf 3 codRos), .agg (rowOf 18 v)] w fun e w' => e = .returned (.bool m) ∧ w.grownBy w' none := by
  have ga := World.grownBy_alloc w (.cells (rowOf 3 codRos) 70) none
  have hz := World.size_alloc w (.cells (rowOf 3 codRos) 70)
  have hC := RowAt.new w 70 3 codRos _ rfl
  have gb := World.grownBy_alloc (w.alloc (.cells (rowOf 3 codRos) 70)) (.cells (rowOf 18 v) 33) none
  have hX := RowAt.new (w.alloc (.cells (rowOf 3 codRos) 70)) 33 18 v _ rfl
  rw [hz] at hX
  have hC := hC.grown gb (by simp)
  have hG := grown_trans ga gb
  have HHM := Lib.hid HM
  clear ga gb HM hz
  go_enter Try.func82, Try.ntmps82
  go_upto_region 1 with fail
  obtain ⟨B, hB⟩ : ∃ B, B = w.heap.size := ⟨_, rfl⟩
  rw [← hB] at hC hX ⊢
  generalize (w.alloc (.cells (rowOf 3 codRos) 70)).alloc (.cells (rowOf 18 v) 33) = w2 at *
  clear hB
  have c0 : w2.cell? ⟨B, 0, none⟩ = some (.func (.func 83) #[] #[]) := hC.cell 0 (by decide)
  have HL := Lib.hid (hX.load (P := Try.prog) 0 33 18 v (by decide) (fun j _ => by rw [Nat.zero_add]) (by kernel_rfl) (by kernel_rfl))
  have HX := Lib.hid (HHM.out w2 hG)
  have HG := Lib.hid hG
  have e0 := fmRos_some w2
  clear hC hX hG HHM
  go_wp2_with (first | ((with_reducible refine wpList_here ?_); refine wpList_ld (p := .pointer (some ⟨B + 1, 0, none⟩)) 3 ?_ ?_ ?_ HL.out ?_; (· rfl); go_simp; (· kernel_rfl)))
  go_at_call 83
  refine HX.out.mono ?_
  rintro e w3 ⟨rfl, g3⟩
  have HG3 := Lib.hid (grown_trans HG.out g3)
  clear HX HG HL c0 g3 e0
  go_wp2_with fail
  go_ret
  exact ⟨rfl, HG3.out⟩
theorem putRos_any (v : Nat → Value) (m : Bool) (n : Nat) (f : Nat → Nat) (w : World) (HM : ∀ w1, w.grownBy w1 none → Calls Try.prog 83 #[.agg (rowOf 18 v)] w1 fun e w' => e = .returned (.bool m) ∧ w1.grownBy w' none)
    (HP : m = true → ∀ w0 w1 g, w.grownBy w0 none → Good w0 w1 g 70024 0 (fun _ => 0) → Calls Try.prog 85 #[.pointer (some ⟨g, 0, none⟩), .agg (rowOf 18 v)] w1 (Goes w0 w1 g 70024 n f)) :
    Calls Try.prog 81 #[.agg (rowOf 3 codRos), .agg (rowOf 18 v)] w (PutSays w m n f) := by
  have ga := World.grownBy_alloc w (.cells (rowOf 3 codRos) 70) none
  have hz := World.size_alloc w (.cells (rowOf 3 codRos) 70)
  have hC := RowAt.new w 70 3 codRos _ rfl
  have gb := World.grownBy_alloc (w.alloc (.cells (rowOf 3 codRos) 70)) (.cells (rowOf 18 v) 33) none
  have hX := RowAt.new (w.alloc (.cells (rowOf 3 codRos) 70)) 33 18 v _ rfl
  rw [hz] at hX
  have hC := hC.grown gb (by simp)
  have hG := grown_trans ga gb
  have HHM := Lib.hid HM
  have HHP := Lib.hid HP
  clear ga gb HM HP hz
  go_enter Try.func81, Try.ntmps81
  go_upto_region 1 with fail
  obtain ⟨B, hB⟩ : ∃ B, B = w.heap.size := ⟨_, rfl⟩
  rw [← hB] at hC hX ⊢
  generalize (w.alloc (.cells (rowOf 3 codRos) 70)).alloc (.cells (rowOf 18 v) 33) = w2 at *
  have HB := Lib.hid hB
  clear hB
  have c1 : w2.cell? ⟨B, 1, none⟩ = some (.func (.func 85) #[] #[]) := hC.cell 1 (by decide)
  have HL := Lib.hid (hX.load (P := Try.prog) 0 33 18 v (by decide) (fun j _ => by rw [Nat.zero_add]) (by kernel_rfl) (by kernel_rfl))
  have HLC := Lib.hid (hC.load (P := Try.prog) 0 70 3 codRos (by decide) (fun j _ => by rw [Nat.zero_add]) (by kernel_rfl) (by kernel_rfl))
  have HX := Lib.hid (mayRos_any v m w2 (fun w1 h => HHM.out w1 (grown_trans hG h)))
  have HG := Lib.hid hG
  have HC := Lib.hid hC
  have HR := Lib.hid hX
  have e0 := fpRos_some w2
  clear hC hX hG HHM
  go_wp2_with (first | ((with_reducible refine wpList_here ?_); refine wpList_ld (p := .pointer (some ⟨B + 1, 0, none⟩)) 3 ?_ ?_ ?_ HL.out ?_; (· rfl); go_simp; (· kernel_rfl)) | ((with_reducible refine wpList_here ?_); refine wpList_ld (p := .pointer (some ⟨B, 0, none⟩)) 2 ?_ ?_ ?_ HLC.out ?_; (· rfl); go_simp; (· kernel_rfl)))
  go_at_call 82
  refine HX.out.mono ?_
  rintro e w3 ⟨rfl, g3⟩
  have HG3 := Lib.hid (grown_trans HG.out g3)
  clear HX HL HLC c1 e0
  cases m with
  | false =>
    clear g3
    go_wp2_with fail
    go_ret2
    exact ⟨⟨none, 0, rfl, OwnN.nil _ _ _⟩, HG3.out⟩
  | true =>
    have HN := Lib.hid (newOut_any 70024 (by decide) (by decide) w3)
    have HG3' := Lib.hid g3
    clear g3
    go_wp2_with fail
    go_at_call 122
    refine HN.out.mono ?_
    rintro e w4 ⟨p, rfl, hO⟩
    obtain ⟨g, rfl⟩ : ∃ g, p = some ⟨g, 0, none⟩ := by
      obtain ⟨g', a, c, e, _⟩ := (show OAt w3 w4 p (.good 70024 0 fun _ => 0) from hO).st
      exact ⟨g', e⟩
    have hO : Good w3 w4 g 70024 0 (fun _ => 0) := hO
    have hX := HR.out.grown (grown_trans HG3'.out hO.gr) (by simp)
    have hC := HC.out.grown (grown_trans HG3'.out hO.gr) (by simp)
    have c1 : w4.cell? ⟨B, 1, none⟩ = some (.func (.func 85) #[] #[]) := hC.cell 1 (by decide)
    have HL := Lib.hid (hX.load (P := Try.prog) 0 33 18 v (by decide) (fun j _ => by rw [Nat.zero_add]) (by kernel_rfl) (by kernel_rfl))
    have HX := Lib.hid (HHP.out (by first | rfl | trivial) w3 w4 g HG3.out hO)
    clear hX hC hO HHP HN HC HR HG3'
    go_wp2_with (first | ((with_reducible refine wpList_here ?_); refine wpList_ld (p := .pointer (some ⟨B + 1, 0, none⟩)) 3 ?_ ?_ ?_ HL.out ?_; (· rfl); go_simp; (· kernel_rfl)))
    go_at_call 85
    refine HX.out.mono ?_
    rintro e w5 ⟨⟨rfl, h5⟩, _⟩
    have HY := Lib.hid (outBytes_any h5 (good_len h5))
    have HG5 := Lib.hid (grown_trans HG3.out h5.gr)
    clear h5 HX HL c1
    go_wp2_with fail
    go_at_call 125
    refine HY.out.mono ?_
    rintro e w6 hE
    obtain ⟨a, c, rfl, hO, hg⟩ := hE.ex
    have HO := Lib.hid hO
    have HG6 := Lib.hid (grown_trans HG5.out hg)
    have HS5 := Lib.hid HG5.out.size
    clear hE hO hg HY
    go_wp2_with fail
    go_ret2
    exact ⟨⟨a, c, rfl, HO.out.base HS5.out⟩, HG6.out⟩
end Go.Proofs.Ytdagbighlgfhjaa
namespace Go.Proofs.Ytdagbighlgfhjaa
open Go.RowKit

set_option maxRecDepth 100000
set_option maxHeartbeats 4000000

theorem ofRos_any (D L cw : Nat) (aw : Option Addr) (v : Nat → Value) (m : Bool) (n : Nat) (f : Nat → Nat) (w : World) (hf : ∀ i, f i < 256) (hW : m = true → L = n ∧ Rd w D aw n f) (HM : ∀ w1, w.grownBy w1 none → Calls Try.prog 83 #[.agg (rowOf 18 v)] w1 fun e w' => e = .returned (.bool m) ∧ w1.grownBy w' none)
    (HP : m = true → ∀ w0 w1 g, w.grownBy w0 none → Good w0 w1 g 70024 0 (fun _ => 0) → Calls Try.prog 85 #[.pointer (some ⟨g, 0, none⟩), .agg (rowOf 18 v)] w1 (Goes w0 w1 g 70024 n f)) :
    Calls Try.prog 19 #[.agg (rowOf 3 codRos), .agg (rowOf 18 v), .slice aw L cw, .bool m] w fun e w' => e = .returned (.bool true) ∧ w.grownBy w' none := by
  have ga := World.grownBy_alloc w (.cells (rowOf 3 codRos) 70) none
  have hz := World.size_alloc w (.cells (rowOf 3 codRos) 70)
  have hC := RowAt.new w 70 3 codRos _ rfl
  have gb := World.grownBy_alloc (w.alloc (.cells (rowOf 3 codRos) 70)) (.cells (rowOf 18 v) 33) none
  have hX := RowAt.new (w.alloc (.cells (rowOf 3 codRos) 70)) 33 18 v _ rfl
  rw [hz] at hX
  have hC := hC.grown gb (by simp)
  have hG := grown_trans ga gb
  have HHM := Lib.hid HM
  have HHP := Lib.hid HP
  have HW := Lib.hid hW
  have HF := Lib.hid hf
  clear ga gb HM HP hz hW hf
  go_enter Try.func19, Try.ntmps19
  go_upto_region 1 with fail
  obtain ⟨B, hB⟩ : ∃ B, B = w.heap.size := ⟨_, rfl⟩
  rw [← hB] at hC hX ⊢
  generalize (w.alloc (.cells (rowOf 3 codRos) 70)).alloc (.cells (rowOf 18 v) 33) = w1 at *
  have HL := Lib.hid (fun W (h : w1.grownBy W none) => (hX.grown h (by simp)).load (P := Try.prog) 0 33 18 v (by decide) (fun j _ => by rw [Nat.zero_add]) (by kernel_rfl) (by kernel_rfl))
  have HLC := Lib.hid (fun W (h : w1.grownBy W none) => (hC.grown h (by simp)).load (P := Try.prog) 0 70 3 codRos (by decide) (fun j _ => by rw [Nat.zero_add]) (by kernel_rfl) (by kernel_rfl))
  have HG := Lib.hid hG
  clear hB hC hX hG
  have HPU := Lib.hid (putRos_any v m n f w1 (fun w2 h => HHM.out w2 (grown_trans HG.out h)) (fun h w0 w2 g h2 => HHP.out h w0 w2 g (grown_trans HG.out h2)))
  have HL1 := Lib.hid (HL.out w1 (grown_refl _ _))
  have HC1 := Lib.hid (HLC.out w1 (grown_refl _ _))
  go_wp2_with (first | ((with_reducible refine wpList_here ?_); refine wpList_ld (p := .pointer (some ⟨B, 0, none⟩)) 4 ?_ ?_ ?_ HC1.out ?_; (· rfl); go_simp; (· kernel_rfl)) | ((with_reducible refine wpList_here ?_); refine wpList_ld (p := .pointer (some ⟨(B + 1), 0, none⟩)) 5 ?_ ?_ ?_ HL1.out ?_; (· rfl); go_simp; (· kernel_rfl)))
  go_at_call 81
  refine HPU.out.mono ?_
  rintro e w2 ⟨⟨a, c, rfl, hO⟩, hg⟩
  obtain ⟨M, hM⟩ : ∃ M, M = if m = true then n else 0 := ⟨_, rfl⟩
  obtain ⟨cd, hcd⟩ : ∃ x : Int, x = if m = true then 0 else 2 := ⟨_, rfl⟩
  rw [← hM] at hO
  rw [← hM, ← hcd]
  have HMM := Lib.hid hM
  have HCD := Lib.hid hcd
  have HG2 := Lib.hid hg
  have HO := Lib.hid hO
  have HL2 := Lib.hid (HL.out w2 hg)
  have HC2 := Lib.hid (HLC.out w2 hg)
  have HMY := Lib.hid (mayRos_any v m w2 (fun w3 h => HHM.out w3 (grown_trans (grown_trans HG.out hg) h)))
  clear hM hcd hg hO HPU HL1 HC1 HL HLC HHM HHP
  go_wp2_with (first | ((with_reducible refine wpList_here ?_); refine wpList_ld (p := .pointer (some ⟨B, 0, none⟩)) 4 ?_ ?_ ?_ HC2.out ?_; (· rfl); go_simp; (· kernel_rfl)) | ((with_reducible refine wpList_here ?_); refine wpList_ld (p := .pointer (some ⟨(B + 1), 0, none⟩)) 5 ?_ ?_ ?_ HL2.out ?_; (· rfl); go_simp; (· kernel_rfl)))
  go_at_call 82
  refine HMY.out.mono ?_
  rintro e w3 ⟨rfl, hg3⟩
  have HG3 := Lib.hid (grown_trans (grown_trans HG.out HG2.out) hg3)
  have HO3 := Lib.hid (HO.out.grown hg3)
  clear hg3 HMY HL2 HC2 HO HG2
  cases m with
  | false =>
    obtain rfl : M = 0 := HMM.out.trans (if_neg (by decide))
    obtain rfl : cd = 2 := HCD.out.trans (if_neg (by decide))
    go_wp2_with fail
    go_ret
    exact ⟨rfl, HG3.out⟩
  | true =>
    obtain rfl : M = n := HMM.out.trans (if_pos rfl)
    obtain rfl : cd = 0 := HCD.out.trans (if_pos rfl)
    obtain ⟨hL, hRw⟩ := HW.out (by first | rfl | trivial)
    subst hL
    obtain ⟨a', c', e1, _, hR⟩ := HO3.out.rd
    cases e1
    have k1 := run_string c hR HF.out
    have k2 := run_string cw (hRw.grown HG3.out (by simp)) HF.out
    obtain ⟨sx, hsx⟩ : ∃ s, s = strOf L f := ⟨_, rfl⟩
    rw [← hsx] at k1 k2
    clear hsx hR hRw
    go_wp2_with fail
    go_ret
    exact ⟨rfl, HG3.out⟩
end Go.Proofs.Ytdagbighlgfhjaa
namespace Go.Proofs.Ytdagbighlgfhjaa
open Go.RowKit

set_option maxRecDepth 100000
set_option maxHeartbeats 4000000

def codEnv (i : Nat) : Value := if i = 0 then .func (.func 93) #[] #[] else if i = 1 then .func (.func 96) #[] #[] else .func (.func 99) #[] #[]
theorem codEnv_any (w : World) : Calls Try.prog 23 #[] w fun e w' => e = .returned (.agg (rowOf 3 codEnv)) ∧ w.grownBy w' none := by
  have ga := World.grownBy_alloc w (.cells #[.nilFunc, .nilFunc, .nilFunc] 78) none
  have hn := RowAt.new w 78 3 (fun _ => .nilFunc) #[.nilFunc, .nilFunc, .nilFunc] rfl
  obtain ⟨hs1, hs2⟩ := RowAt.store (P := Try.prog) hn 0 78 3 codEnv (by decide) (by kernel_rfl) (fun j _ => by unfold codEnv; (repeat' split) <;> rfl)
  have hrr := hs2.congr (v' := codEnv) fun i hi => by rw [if_pos ⟨Nat.zero_le _, by omega⟩, Nat.sub_zero]
  have hG : w.grownBy _ none := grown_setCells w.heap.size (Or.inl (Nat.le_refl _)) (rowOf 3 codEnv).toList 0 _ ga
  have HS := Lib.hid hs1
  have HRR := Lib.hid hrr
  have HG := Lib.hid hG
  clear ga hn hs1 hs2 hrr hG
  go_enter Try.func23, Try.ntmps23
  go_wp2_with (first | ((with_reducible refine wpList_here ?_); refine wpList_st (T := 78) (p := .pointer (some ⟨w.heap.size, 0, none⟩)) (v := .agg (rowOf 3 codEnv)) (.tmp 0) (.tmp 1) ?_ ?_ ?_ ?_ ?_ HS.out ?_; (· rfl); (· rfl); go_simp; (· kernel_rfl); (· kernel_rfl)))
  exact bodyPost_ret (res_rowAt rfl rfl HRR.out (by kernel_rfl) (by kernel_rfl)) rfl ⟨rfl, HG.out⟩
theorem fmEnv_some (w : World) : (binOp .neq 74 (.func (.func 93) #[] #[]) .nilFunc).run Try.prog w = .ok (.bool true) w := by kernel_rfl
theorem fpEnv_some (w : World) : (binOp .eql 75 (.func (.func 96) #[] #[]) .nilFunc).run Try.prog w = .ok (.bool false) w := by kernel_rfl
theorem ftEnv_some (w : World) : (binOp .eql 76 (.func (.func 99) #[] #[]) .nilFunc).run Try.prog w = .ok (.bool false) w := by kernel_rfl
theorem mayEnv_any (v : Nat → Value) (m : Bool) (w : World) (HM : ∀ w1, w.grownBy w1 none → Calls Try.prog 93 #[.agg (rowOf 106 v)] w1 fun e w' => e = .returned (.bool m) ∧ w1.grownBy w' none) :
    Calls Try.prog 92 #[.agg (rowOf 3 codEnv), .agg (rowOf 106 v)] w fun e w' => e = .returned (.bool m) ∧ w.grownBy w' none := by
  have ga := World.grownBy_alloc w (.cells (rowOf 3 codEnv) 78) none
  have hz := World.size_alloc w (.cells (rowOf 3 codEnv) 78)
  have hC := RowAt.new w 78 3 codEnv _ rfl
  have gb := World.grownBy_alloc (w.alloc (.cells (rowOf 3 codEnv) 78)) (.cells (rowOf 106 v) 41) none
  have hX := RowAt.new (w.alloc (.cells (rowOf 3 codEnv) 78)) 41 106 v _ rfl
  rw [hz] at hX
  have hC := hC.grown gb (by simp)
  have hG := grown_trans ga gb
  have HHM := Lib.hid HM
  clear ga gb HM hz
  go_enter Try.func92, Try.ntmps92
  go_upto_region 1 with fail
  obtain ⟨B, hB⟩ : ∃ B, B = w.heap.size := ⟨_, rfl⟩
  rw [← hB] at hC hX ⊢
  generalize (w.alloc (.cells (rowOf 3 codEnv) 78)).alloc (.cells (rowOf 106 v) 41) = w2 at *
  clear hB
  have c0 : w2.cell? ⟨B, 0, none⟩ = some (.func (.func 93) #[] #[]) := hC.cell 0 (by decide)
  have HL := Lib.hid (hX.load (P := Try.prog) 0 41 106 v (by decide) (fun j _ => by rw [Nat.zero_add]) (by kernel_rfl) (by kernel_rfl))
  have HX := Lib.hid (HHM.out w2 hG)
  have HG := Lib.hid hG
  have e0 := fmEnv_some w2
  clear hC hX hG HHM
  go_wp2_with (first | ((with_reducible refine wpList_here ?_); refine wpList_ld (p := .pointer (some ⟨B + 1, 0, none⟩)) 3 ?_ ?_ ?_ HL.out ?_; (· rfl); go_simp; (· kernel_rfl)))
  go_at_call 93
  refine HX.out.mono ?_
  rintro e w3 ⟨rfl, g3⟩
  have HG3 := Lib.hid (grown_trans HG.out g3)
  clear HX HG HL c0 g3 e0
  go_wp2_with fail
  go_ret
  exact ⟨rfl, HG3.out⟩
theorem putEnv_any (v : Nat → Value) (m : Bool) (n : Nat) (f : Nat → Nat) (w : World) (HM : ∀ w1, w.grownBy w1 none → Calls Try.prog 93 #[.agg (rowOf 106 v)] w1 fun e w' => e = .returned (.bool m) ∧ w1.grownBy w' none)
    (HP : m = true → ∀ w0 w1 g, w.grownBy w0 none → Good w0 w1 g 70024 0 (fun _ => 0) → Calls Try.prog 96 #[.pointer (some ⟨g, 0, none⟩), .agg (rowOf 106 v)] w1 (Goes w0 w1 g 70024 n f)) :
    Calls Try.prog 91 #[.agg (rowOf 3 codEnv), .agg (rowOf 106 v)] w (PutSays w m n f) := by
  have ga := World.grownBy_alloc w (.cells (rowOf 3 codEnv) 78) none
  have hz := World.size_alloc w (.cells (rowOf 3 codEnv) 78)
  have hC := RowAt.new w 78 3 codEnv _ rfl
  have gb := World.grownBy_alloc (w.alloc (.cells (rowOf 3 codEnv) 78)) (.cells (rowOf 106 v) 41) none
  have hX := RowAt.new (w.alloc (.cells (rowOf 3 codEnv) 78)) 41 106 v _ rfl
  rw [hz] at hX
  have hC := hC.grown gb (by simp)
  have hG := grown_trans ga gb
  have HHM := Lib.hid HM
  have HHP := Lib.hid HP
  clear ga gb HM HP hz
  go_enter Try.func91, Try.ntmps91
  go_upto_region 1 with fail
  obtain ⟨B, hB⟩ : ∃ B, B = w.heap.size := ⟨_, rfl⟩
  rw [← hB] at hC hX ⊢
  generalize (w.alloc (.cells (rowOf 3 codEnv) 78)).alloc (.cells (rowOf 106 v) 41) = w2 at *
  have HB := Lib.hid hB
  clear hB
  have c1 : w2.cell? ⟨B, 1, none⟩ = some (.func (.func 96) #[] #[]) := hC.cell 1 (by decide)
  have HL := Lib.hid (hX.load (P := Try.prog) 0 41 106 v (by decide) (fun j _ => by rw [Nat.zero_add]) (by kernel_rfl) (by kernel_rfl))
  have HLC := Lib.hid (hC.load (P := Try.prog) 0 78 3 codEnv (by decide) (fun j _ => by rw [Nat.zero_add]) (by kernel_rfl) (by kernel_rfl))
  have HX := Lib.hid (mayEnv_any v m w2 (fun w1 h => HHM.out w1 (grown_trans hG h)))
  have HG := Lib.hid hG
  have HC := Lib.hid hC
  have HR := Lib.hid hX
  have e0 := fpEnv_some w2
  clear hC hX hG HHM
  go_wp2_with (first | ((with_reducible refine wpList_here ?_); refine wpList_ld (p := .pointer (some ⟨B + 1, 0, none⟩)) 3 ?_ ?_ ?_ HL.out ?_; (· rfl); go_simp; (· kernel_rfl)) | ((with_reducible refine wpList_here ?_); refine wpList_ld (p := .pointer (some ⟨B, 0, none⟩)) 2 ?_ ?_ ?_ HLC.out ?_; (· rfl); go_simp; (· kernel_rfl)))
  go_at_call 92
  refine HX.out.mono ?_
  rintro e w3 ⟨rfl, g3⟩
  have HG3 := Lib.hid (grown_trans HG.out g3)
  clear HX HL HLC c1 e0
  cases m with
  | false =>
    clear g3
    go_wp2_with fail
    go_ret2
    exact ⟨⟨none, 0, rfl, OwnN.nil _ _ _⟩, HG3.out⟩
  | true =>
    have HN := Lib.hid (newOut_any 70024 (by decide) (by decide) w3)
    have HG3' := Lib.hid g3
    clear g3
    go_wp2_with fail
    go_at_call 122
    refine HN.out.mono ?_
    rintro e w4 ⟨p, rfl, hO⟩
    obtain ⟨g, rfl⟩ : ∃ g, p = some ⟨g, 0, none⟩ := by
      obtain ⟨g', a, c, e, _⟩ := (show OAt w3 w4 p (.good 70024 0 fun _ => 0) from hO).st
      exact ⟨g', e⟩
    have hO : Good w3 w4 g 70024 0 (fun _ => 0) := hO
    have hX := HR.out.grown (grown_trans HG3'.out hO.gr) (by simp)
    have hC := HC.out.grown (grown_trans HG3'.out hO.gr) (by simp)
    have c1 : w4.cell? ⟨B, 1, none⟩ = some (.func (.func 96) #[] #[]) := hC.cell 1 (by decide)
    have HL := Lib.hid (hX.load (P := Try.prog) 0 41 106 v (by decide) (fun j _ => by rw [Nat.zero_add]) (by kernel_rfl) (by kernel_rfl))
    have HX := Lib.hid (HHP.out (by first | rfl | trivial) w3 w4 g HG3.out hO)
    clear hX hC hO HHP HN HC HR HG3'
    go_wp2_with (first | ((with_reducible refine wpList_here ?_); refine wpList_ld (p := .pointer (some ⟨B + 1, 0, none⟩)) 3 ?_ ?_ ?_ HL.out ?_; (· rfl); go_simp; (· kernel_rfl)))
    go_at_call 96
    refine HX.out.mono ?_
    rintro e w5 ⟨⟨rfl, h5⟩, _⟩
    have HY := Lib.hid (outBytes_any h5 (good_len h5))
    have HG5 := Lib.hid (grown_trans HG3.out h5.gr)
    clear h5 HX HL c1
    go_wp2_with fail
    go_at_call 125
    refine HY.out.mono ?_
    rintro e w6 hE
    obtain ⟨a, c, rfl, hO, hg⟩ := hE.ex
    have HO := Lib.hid hO
    have HG6 := Lib.hid (grown_trans HG5.out hg)
    have HS5 := Lib.hid HG5.out.size
    clear hE hO hg HY
    go_wp2_with fail
    go_ret2
    exact ⟨⟨a, c, rfl, HO.out.base HS5.out⟩, HG6.out⟩
end Go.Proofs.Ytdagbighlgfhjaa
namespace Go.Proofs.Ytdagbighlgfhjaa
open Go.RowKit

set_option maxRecDepth 100000
set_option maxHeartbeats 4000000

theorem ofEnv_any (D L cw : Nat) (aw : Option Addr) (v : Nat → Value) (m : Bool) (n : Nat) (f : Nat → Nat) (w : World) (hf : ∀ i, f i < 256) (hW : m = true → L = n ∧ Rd w D aw n f) (HM : ∀ w1, w.grownBy w1 none → Calls Try.prog 93 #[.agg (rowOf 106 v)] w1 fun e w' => e = .returned (.bool m) ∧ w1.grownBy w' none)
    (HP : m = true → ∀ w0 w1 g, w.grownBy w0 none → Good w0 w1 g 70024 0 (fun _ => 0) → Calls Try.prog 96 #[.pointer (some ⟨g, 0, none⟩), .agg (rowOf 106 v)] w1 (Goes w0 w1 g 70024 n f)) :
    Calls Try.prog 22 #[.agg (rowOf 3 codEnv), .agg (rowOf 106 v), .slice aw L cw, .bool m] w fun e w' => e = .returned (.bool true) ∧ w.grownBy w' none := by
  have ga := World.grownBy_alloc w (.cells (rowOf 3 codEnv) 78) none
  have hz := World.size_alloc w (.cells (rowOf 3 codEnv) 78)
  have hC := RowAt.new w 78 3 codEnv _ rfl
  have gb := World.grownBy_alloc (w.alloc (.cells (rowOf 3 codEnv) 78)) (.cells (rowOf 106 v) 41) none
  have hX := RowAt.new (w.alloc (.cells (rowOf 3 codEnv) 78)) 41 106 v _ rfl
  rw [hz] at hX
  have hC := hC.grown gb (by simp)
  have hG := grown_trans ga gb
  have HHM := Lib.hid HM
  have HHP := Lib.hid HP
  have HW := Lib.hid hW
  have HF := Lib.hid hf
  clear ga gb HM HP hz hW hf
  go_enter Try.func22, Try.ntmps22
  go_upto_region 1 with fail
  obtain ⟨B, hB⟩ : ∃ B, B = w.heap.size := ⟨_, rfl⟩
  rw [← hB] at hC hX ⊢
  generalize (w.alloc (.cells (rowOf 3 codEnv) 78)).alloc (.cells (rowOf 106 v) 41) = w1 at *
  have HL := Lib.hid (fun W (h : w1.grownBy W none) => (hX.grown h (by simp)).load (P := Try.prog) 0 41 106 v (by decide) (fun j _ => by rw [Nat.zero_add]) (by kernel_rfl) (by kernel_rfl))
  have HLC := Lib.hid (fun W (h : w1.grownBy W none) => (hC.grown h (by simp)).load (P := Try.prog) 0 78 3 codEnv (by decide) (fun j _ => by rw [Nat.zero_add]) (by kernel_rfl) (by kernel_rfl))
  have HG := Lib.hid hG
  clear hB hC hX hG
  have HPU := Lib.hid (putEnv_any v m n f w1 (fun w2 h => HHM.out w2 (grown_trans HG.out h)) (fun h w0 w2 g h2 => HHP.out h w0 w2 g (grown_trans HG.out h2)))
  have HL1 := Lib.hid (HL.out w1 (grown_refl _ _))
  have HC1 := Lib.hid (HLC.out w1 (grown_refl _ _))
  go_wp2_with (first | ((with_reducible refine wpList_here ?_); refine wpList_ld (p := .pointer (some ⟨B, 0, none⟩)) 4 ?_ ?_ ?_ HC1.out ?_; (· rfl); go_simp; (· kernel_rfl)) | ((with_reducible refine wpList_here ?_); refine wpList_ld (p := .pointer (some ⟨(B + 1), 0, none⟩)) 5 ?_ ?_ ?_ HL1.out ?_; (· rfl); go_simp; (· kernel_rfl)))
  go_at_call 91
  refine HPU.out.mono ?_
  rintro e w2 ⟨⟨a, c, rfl, hO⟩, hg⟩
  obtain ⟨M, hM⟩ : ∃ M, M = if m = true then n else 0 := ⟨_, rfl⟩
  obtain ⟨cd, hcd⟩ : ∃ x : Int, x = if m = true then 0 else 2 := ⟨_, rfl⟩
  rw [← hM] at hO
  rw [← hM, ← hcd]
  have HMM := Lib.hid hM
  have HCD := Lib.hid hcd
  have HG2 := Lib.hid hg
  have HO := Lib.hid hO
  have HL2 := Lib.hid (HL.out w2 hg)
  have HC2 := Lib.hid (HLC.out w2 hg)
  have HMY := Lib.hid (mayEnv_any v m w2 (fun w3 h => HHM.out w3 (grown_trans (grown_trans HG.out hg) h)))
  clear hM hcd hg hO HPU HL1 HC1 HL HLC HHM HHP
  go_wp2_with (first | ((with_reducible refine wpList_here ?_); refine wpList_ld (p := .pointer (some ⟨B, 0, none⟩)) 4 ?_ ?_ ?_ HC2.out ?_; (· rfl); go_simp; (· kernel_rfl)) | ((with_reducible refine wpList_here ?_); refine wpList_ld (p := .pointer (some ⟨(B + 1), 0, none⟩)) 5 ?_ ?_ ?_ HL2.out ?_; (· rfl); go_simp; (· kernel_rfl)))
  go_at_call 92
  refine HMY.out.mono ?_
  rintro e w3 ⟨rfl, hg3⟩
  have HG3 := Lib.hid (grown_trans (grown_trans HG.out HG2.out) hg3)
  have HO3 := Lib.hid (HO.out.grown hg3)
  clear hg3 HMY HL2 HC2 HO HG2
  cases m with
  | false =>
    obtain rfl : M = 0 := HMM.out.trans (if_neg (by decide))
    obtain rfl : cd = 2 := HCD.out.trans (if_neg (by decide))
    go_wp2_with fail
    go_ret
    exact ⟨rfl, HG3.out⟩
  | true =>
    obtain rfl : M = n := HMM.out.trans (if_pos rfl)
    obtain rfl : cd = 0 := HCD.out.trans (if_pos rfl)
    obtain ⟨hL, hRw⟩ := HW.out (by first | rfl | trivial)
    subst hL
    obtain ⟨a', c', e1, _, hR⟩ := HO3.out.rd
    cases e1
    have k1 := run_string c hR HF.out
    have k2 := run_string cw (hRw.grown HG3.out (by simp)) HF.out
    obtain ⟨sx, hsx⟩ : ∃ s, s = strOf L f := ⟨_, rfl⟩
    rw [← hsx] at k1 k2
    clear hsx hR hRw
    go_wp2_with fail
    go_ret
    exact ⟨rfl, HG3.out⟩
end Go.Proofs.Ytdagbighlgfhjaa
namespace Go.Proofs.Ytdagbighlgfhjaa
open Go.RowKit

set_option maxRecDepth 100000
set_option maxHeartbeats 4000000

def codPkt (i : Nat) : Value := if i = 0 then .func (.func 105) #[] #[] else if i = 1 then .func (.func 106) #[] #[] else .func (.func 108) #[] #[]
theorem codPkt_any (w : World) : Calls Try.prog 26 #[] w fun e w' => e = .returned (.agg (rowOf 3 codPkt)) ∧ w.grownBy w' none := by
  have ga := World.grownBy_alloc w (.cells #[.nilFunc, .nilFunc, .nilFunc] 86) none
  have hn := RowAt.new w 86 3 (fun _ => .nilFunc) #[.nilFunc, .nilFunc, .nilFunc] rfl
  obtain ⟨hs1, hs2⟩ := RowAt.store (P := Try.prog) hn 0 86 3 codPkt (by decide) (by kernel_rfl) (fun j _ => by unfold codPkt; (repeat' split) <;> rfl)
  have hrr := hs2.congr (v' := codPkt) fun i hi => by rw [if_pos ⟨Nat.zero_le _, by omega⟩, Nat.sub_zero]
  have hG : w.grownBy _ none := grown_setCells w.heap.size (Or.inl (Nat.le_refl _)) (rowOf 3 codPkt).toList 0 _ ga
  have HS := Lib.hid hs1
  have HRR := Lib.hid hrr
  have HG := Lib.hid hG
  clear ga hn hs1 hs2 hrr hG
  go_enter Try.func26, Try.ntmps26
  go_wp2_with (first | ((with_reducible refine wpList_here ?_); refine wpList_st (T := 86) (p := .pointer (some ⟨w.heap.size, 0, none⟩)) (v := .agg (rowOf 3 codPkt)) (.tmp 0) (.tmp 1) ?_ ?_ ?_ ?_ ?_ HS.out ?_; (· rfl); (· rfl); go_simp; (· kernel_rfl); (· kernel_rfl)))
  exact bodyPost_ret (res_rowAt rfl rfl HRR.out (by kernel_rfl) (by kernel_rfl)) rfl ⟨rfl, HG.out⟩
theorem fmPkt_some (w : World) : (binOp .neq 82 (.func (.func 105) #[] #[]) .nilFunc).run Try.prog w = .ok (.bool true) w := by kernel_rfl
theorem fpPkt_some (w : World) : (binOp .eql 83 (.func (.func 106) #[] #[]) .nilFunc).run Try.prog w = .ok (.bool false) w := by kernel_rfl
theorem ftPkt_some (w : World) : (binOp .eql 84 (.func (.func 108) #[] #[]) .nilFunc).run Try.prog w = .ok (.bool false) w := by kernel_rfl
theorem mayPkt_any (v : Nat → Value) (m : Bool) (w : World) (HM : ∀ w1, w.grownBy w1 none → Calls Try.prog 105 #[.agg (rowOf 21 v)] w1 fun e w' => e = .returned (.bool m) ∧ w1.grownBy w' none) :
    Calls Try.prog 104 #[.agg (rowOf 3 codPkt), .agg (rowOf 21 v)] w fun e w' => e = .returned (.bool m) ∧ w.grownBy w' none := by
  have ga := World.grownBy_alloc w (.cells (rowOf 3 codPkt) 86) none
  have hz := World.size_alloc w (.cells (rowOf 3 codPkt) 86)
  have hC := RowAt.new w 86 3 codPkt _ rfl
  have gb := World.grownBy_alloc (w.alloc (.cells (rowOf 3 codPkt) 86)) (.cells (rowOf 21 v) 43) none
  have hX := RowAt.new (w.alloc (.cells (rowOf 3 codPkt) 86)) 43 21 v _ rfl
  rw [hz] at hX
  have hC := hC.grown gb (by simp)
  have hG := grown_trans ga gb
  have HHM := Lib.hid HM
  clear ga gb HM hz
  go_enter Try.func104, Try.ntmps104
  go_upto_region 1 with fail
  obtain ⟨B, hB⟩ : ∃ B, B = w.heap.size := ⟨_, rfl⟩
  rw [← hB] at hC hX ⊢
  generalize (w.alloc (.cells (rowOf 3 codPkt) 86)).alloc (.cells (rowOf 21 v) 43) = w2 at *
  clear hB
  have c0 : w2.cell? ⟨B, 0, none⟩ = some (.func (.func 105) #[] #[]) := hC.cell 0 (by decide)
  have HL := Lib.hid (hX.load (P := Try.prog) 0 43 21 v (by decide) (fun j _ => by rw [Nat.zero_add]) (by kernel_rfl) (by kernel_rfl))
  have HX := Lib.hid (HHM.out w2 hG)
  have HG := Lib.hid hG
  have e0 := fmPkt_some w2
  clear hC hX hG HHM
  go_wp2_with (first | ((with_reducible refine wpList_here ?_); refine wpList_ld (p := .pointer (some ⟨B + 1, 0, none⟩)) 3 ?_ ?_ ?_ HL.out ?_; (· rfl); go_simp; (· kernel_rfl)))
  go_at_call 105
  refine HX.out.mono ?_
  rintro e w3 ⟨rfl, g3⟩
  have HG3 := Lib.hid (grown_trans HG.out g3)
  clear HX HG HL c0 g3 e0
  go_wp2_with fail
  go_ret
  exact ⟨rfl, HG3.out⟩
theorem putPkt_any (v : Nat → Value) (m : Bool) (n : Nat) (f : Nat → Nat) (w : World) (HM : ∀ w1, w.grownBy w1 none → Calls Try.prog 105 #[.agg (rowOf 21 v)] w1 fun e w' => e = .returned (.bool m) ∧ w1.grownBy w' none)
    (HP : m = true → ∀ w0 w1 g, w.grownBy w0 none → Good w0 w1 g 70024 0 (fun _ => 0) → Calls Try.prog 106 #[.pointer (some ⟨g, 0, none⟩), .agg (rowOf 21 v)] w1 (Goes w0 w1 g 70024 n f)) :
    Calls Try.prog 103 #[.agg (rowOf 3 codPkt), .agg (rowOf 21 v)] w (PutSays w m n f) := by
  have ga := World.grownBy_alloc w (.cells (rowOf 3 codPkt) 86) none
  have hz := World.size_alloc w (.cells (rowOf 3 codPkt) 86)
  have hC := RowAt.new w 86 3 codPkt _ rfl
  have gb := World.grownBy_alloc (w.alloc (.cells (rowOf 3 codPkt) 86)) (.cells (rowOf 21 v) 43) none
  have hX := RowAt.new (w.alloc (.cells (rowOf 3 codPkt) 86)) 43 21 v _ rfl
  rw [hz] at hX
  have hC := hC.grown gb (by simp)
  have hG := grown_trans ga gb
  have HHM := Lib.hid HM
  have HHP := Lib.hid HP
  clear ga gb HM HP hz
  go_enter Try.func103, Try.ntmps103
  go_upto_region 1 with fail
  obtain ⟨B, hB⟩ : ∃ B, B = w.heap.size := ⟨_, rfl⟩
  rw [← hB] at hC hX ⊢
  generalize (w.alloc (.cells (rowOf 3 codPkt) 86)).alloc (.cells (rowOf 21 v) 43) = w2 at *
  have HB := Lib.hid hB
  clear hB
  have c1 : w2.cell? ⟨B, 1, none⟩ = some (.func (.func 106) #[] #[]) := hC.cell 1 (by decide)
  have HL := Lib.hid (hX.load (P := Try.prog) 0 43 21 v (by decide) (fun j _ => by rw [Nat.zero_add]) (by kernel_rfl) (by kernel_rfl))
  have HLC := Lib.hid (hC.load (P := Try.prog) 0 86 3 codPkt (by decide) (fun j _ => by rw [Nat.zero_add]) (by kernel_rfl) (by kernel_rfl))
  have HX := Lib.hid (mayPkt_any v m w2 (fun w1 h => HHM.out w1 (grown_trans hG h)))
  have HG := Lib.hid hG
  have HC := Lib.hid hC
  have HR := Lib.hid hX
  have e0 := fpPkt_some w2
  clear hC hX hG HHM
  go_wp2_with (first | ((with_reducible refine wpList_here ?_); refine wpList_ld (p := .pointer (some ⟨B + 1, 0, none⟩)) 3 ?_ ?_ ?_ HL.out ?_; (· rfl); go_simp; (· kernel_rfl)) | ((with_reducible refine wpList_here ?_); refine wpList_ld (p := .pointer (some ⟨B, 0, none⟩)) 2 ?_ ?_ ?_ HLC.out ?_; (· rfl); go_simp; (· kernel_rfl)))
  go_at_call 104
  refine HX.out.mono ?_
  rintro e w3 ⟨rfl, g3⟩
  have HG3 := Lib.hid (grown_trans HG.out g3)
  clear HX HL HLC c1 e0
  cases m with
  | false =>
    clear g3
    go_wp2_with fail
    go_ret2
    exact ⟨⟨none, 0, rfl, OwnN.nil _ _ _⟩, HG3.out⟩
  | true =>
    have HN := Lib.hid (newOut_any 70024 (by decide) (by decide) w3)
    have HG3' := Lib.hid g3
    clear g3
    go_wp2_with fail
    go_at_call 122
    refine HN.out.mono ?_
    rintro e w4 ⟨p, rfl, hO⟩
    obtain ⟨g, rfl⟩ : ∃ g, p = some ⟨g, 0, none⟩ := by
      obtain ⟨g', a, c, e, _⟩ := (show OAt w3 w4 p (.good 70024 0 fun _ => 0) from hO).st
      exact ⟨g', e⟩
    have hO : Good w3 w4 g 70024 0 (fun _ => 0) := hO
    have hX := HR.out.grown (grown_trans HG3'.out hO.gr) (by simp)
    have hC := HC.out.grown (grown_trans HG3'.out hO.gr) (by simp)
    have c1 : w4.cell? ⟨B, 1, none⟩ = some (.func (.func 106) #[] #[]) := hC.cell 1 (by decide)
    have HL := Lib.hid (hX.load (P := Try.prog) 0 43 21 v (by decide) (fun j _ => by rw [Nat.zero_add]) (by kernel_rfl) (by kernel_rfl))
    have HX := Lib.hid (HHP.out (by first | rfl | trivial) w3 w4 g HG3.out hO)
    clear hX hC hO HHP HN HC HR HG3'
    go_wp2_with (first | ((with_reducible refine wpList_here ?_); refine wpList_ld (p := .pointer (some ⟨B + 1, 0, none⟩)) 3 ?_ ?_ ?_ HL.out ?_; (· rfl); go_simp; (· kernel_rfl)))
    go_at_call 106
    refine HX.out.mono ?_
    rintro e w5 ⟨⟨rfl, h5⟩, _⟩
    have HY := Lib.hid (outBytes_any h5 (good_len h5))
    have HG5 := Lib.hid (grown_trans HG3.out h5.gr)
    clear h5 HX HL c1
    go_wp2_with fail
    go_at_call 125
    refine HY.out.mono ?_
    rintro e w6 hE
    obtain ⟨a, c, rfl, hO, hg⟩ := hE.ex
    have HO := Lib.hid hO
    have HG6 := Lib.hid (grown_trans HG5.out hg)
    have HS5 := Lib.hid HG5.out.size
    clear hE hO hg HY
    go_wp2_with fail
    go_ret2
    exact ⟨⟨a, c, rfl, HO.out.base HS5.out⟩, HG6.out⟩
end Go.Proofs.Ytdagbighlgfhjaa
namespace Go.Proofs.Ytdagbighlgfhjaa
open Go.RowKit

set_option maxRecDepth 100000
set_option maxHeartbeats 4000000

theorem ofPkt_any (D L cw : Nat) (aw : Option Addr) (v : Nat → Value) (m : Bool) (n : Nat) (f : Nat → Nat) (w : World) (hf : ∀ i, f i < 256) (hW : m = true → L = n ∧ Rd w D aw n f) (HM : ∀ w1, w.grownBy w1 none → Calls Try.prog 105 #[.agg (rowOf 21 v)] w1 fun e w' => e = .returned (.bool m) ∧ w1.grownBy w' none)
    (HP : m = true → ∀ w0 w1 g, w.grownBy w0 none → Good w0 w1 g 70024 0 (fun _ => 0) → Calls Try.prog 106 #[.pointer (some ⟨g, 0, none⟩), .agg (rowOf 21 v)] w1 (Goes w0 w1 g 70024 n f)) :
    Calls Try.prog 25 #[.agg (rowOf 3 codPkt), .agg (rowOf 21 v), .slice aw L cw, .bool m] w fun e w' => e = .returned (.bool true) ∧ w.grownBy w' none := by
  have ga := World.grownBy_alloc w (.cells (rowOf 3 codPkt) 86) none
  have hz := World.size_alloc w (.cells (rowOf 3 codPkt) 86)
  have hC := RowAt.new w 86 3 codPkt _ rfl
  have gb := World.grownBy_alloc (w.alloc (.cells (rowOf 3 codPkt) 86)) (.cells (rowOf 21 v) 43) none
  have hX := RowAt.new (w.alloc (.cells (rowOf 3 codPkt) 86)) 43 21 v _ rfl
  rw [hz] at hX
  have hC := hC.grown gb (by simp)
  have hG := grown_trans ga gb
  have HHM := Lib.hid HM
  have HHP := Lib.hid HP
  have HW := Lib.hid hW
  have HF := Lib.hid hf
  clear ga gb HM HP hz hW hf
  go_enter Try.func25, Try.ntmps25
  go_upto_region 1 with fail
  obtain ⟨B, hB⟩ : ∃ B, B = w.heap.size := ⟨_, rfl⟩
  rw [← hB] at hC hX ⊢
  generalize (w.alloc (.cells (rowOf 3 codPkt) 86)).alloc (.cells (rowOf 21 v) 43) = w1 at *
  have HL := Lib.hid (fun W (h : w1.grownBy W none) => (hX.grown h (by simp)).load (P := Try.prog) 0 43 21 v (by decide) (fun j _ => by rw [Nat.zero_add]) (by kernel_rfl) (by kernel_rfl))
  have HLC := Lib.hid (fun W (h : w1.grownBy W none) => (hC.grown h (by simp)).load (P := Try.prog) 0 86 3 codPkt (by decide) (fun j _ => by rw [Nat.zero_add]) (by kernel_rfl) (by kernel_rfl))
  have HG := Lib.hid hG
  clear hB hC hX hG
  have HPU := Lib.hid (putPkt_any v m n f w1 (fun w2 h => HHM.out w2 (grown_trans HG.out h)) (fun h w0 w2 g h2 => HHP.out h w0 w2 g (grown_trans HG.out h2)))
  have HL1 := Lib.hid (HL.out w1 (grown_refl _ _))
  have HC1 := Lib.hid (HLC.out w1 (grown_refl _ _))
  go_wp2_with (first | ((with_reducible refine wpList_here ?_); refine wpList_ld (p := .pointer (some ⟨B, 0, none⟩)) 4 ?_ ?_ ?_ HC1.out ?_; (· rfl); go_simp; (· kernel_rfl)) | ((with_reducible refine wpList_here ?_); refine wpList_ld (p := .pointer (some ⟨(B + 1), 0, none⟩)) 5 ?_ ?_ ?_ HL1.out ?_; (· rfl); go_simp; (· kernel_rfl)))
  go_at_call 103
  refine HPU.out.mono ?_
  rintro e w2 ⟨⟨a, c, rfl, hO⟩, hg⟩
  obtain ⟨M, hM⟩ : ∃ M, M = if m = true then n else 0 := ⟨_, rfl⟩
  obtain ⟨cd, hcd⟩ : ∃ x : Int, x = if m = true then 0 else 2 := ⟨_, rfl⟩
  rw [← hM] at hO
  rw [← hM, ← hcd]
  have HMM := Lib.hid hM
  have HCD := Lib.hid hcd
  have HG2 := Lib.hid hg
  have HO := Lib.hid hO
  have HL2 := Lib.hid (HL.out w2 hg)
  have HC2 := Lib.hid (HLC.out w2 hg)
  have HMY := Lib.hid (mayPkt_any v m w2 (fun w3 h => HHM.out w3 (grown_trans (grown_trans HG.out hg) h)))
  clear hM hcd hg hO HPU HL1 HC1 HL HLC HHM HHP
  go_wp2_with (first | ((with_reducible refine wpList_here ?_); refine wpList_ld (p := .pointer (some ⟨B, 0, none⟩)) 4 ?_ ?_ ?_ HC2.out ?_; (· rfl); go_simp; (· kernel_rfl)) | ((with_reducible refine wpList_here ?_); refine wpList_ld (p := .pointer (some ⟨(B + 1), 0, none⟩)) 5 ?_ ?_ ?_ HL2.out ?_; (· rfl); go_simp; (· kernel_rfl)))
  go_at_call 104
  refine HMY.out.mono ?_
  rintro e w3 ⟨rfl, hg3⟩
  have HG3 := Lib.hid (grown_trans (grown_trans HG.out HG2.out) hg3)
  have HO3 := Lib.hid (HO.out.grown hg3)
  clear hg3 HMY HL2 HC2 HO HG2
  cases m with
  | false =>
    obtain rfl : M = 0 := HMM.out.trans (if_neg (by decide))
    obtain rfl : cd = 2 := HCD.out.trans (if_neg (by decide))
    go_wp2_with fail
    go_ret
    exact ⟨rfl, HG3.out⟩
  | true =>
    obtain rfl : M = n := HMM.out.trans (if_pos rfl)
    obtain rfl : cd = 0 := HCD.out.trans (if_pos rfl)
    obtain ⟨hL, hRw⟩ := HW.out (by first | rfl | trivial)
    subst hL
    obtain ⟨a', c', e1, _, hR⟩ := HO3.out.rd
    cases e1
    have k1 := run_string c hR HF.out
    have k2 := run_string cw (hRw.grown HG3.out (by simp)) HF.out
    obtain ⟨sx, hsx⟩ : ∃ s, s = strOf L f := ⟨_, rfl⟩
    rw [← hsx] at k1 k2
    clear hsx hR hRw
    go_wp2_with fail
    go_ret
    exact ⟨rfl, HG3.out⟩
end Go.Proofs.Ytdagbighlgfhjaa
namespace Go.Proofs.Ytdagbighlgfhjaa
open Go.RowKit

set_option maxRecDepth 100000

theorem catU {n : Nat} {f g : Nat → Nat} (hf : ∀ i, f i < 256) (hg : ∀ i, g i < 256) (i : Nat) : cat n f g i < 256 := by
  unfold cat
  split
  · exact hf i
  · exact hg _
theorem flagU (b : Bool) (i : Nat) : (fun _ : Nat => flagB b) i < 256 := by
  show flagB b < 256
  cases b <;> decide
theorem devsU {fm : Nat → Nat → Nat} (h : ∀ i j, fm i j < 256) : ∀ n i, devsB fm n i < 256
  | 0, _ => by unfold devsB; decide
  | n + 1, i => by unfold devsB; exact catU (devsU h n) (h n) i
theorem DV.b_u (x : DV) (h : x.Ok) : ∀ i, x.bytes i < 256 := catU (catU (catU (catU h.id (nbF_lt _ _)) h.sd) (nbF_lt _ _)) h.key
theorem HV.b_u (x : HV) (h : x.Ok) : ∀ i, x.bytes i < 256 := catU (catU h.dh (nbF_lt _ _)) (nbF_lt _ _)
theorem SetV.b_u (x : SetV) (h : x.Ok) : ∀ i, x.sf i < 256 := catU (catU (catU h.ident h.eph) (flagU _)) (nbF_lt _ _)
theorem EV.b_u (x : EV) (h : x.Ok) {fb : Nat → Nat} (hf : ∀ i, fb i < 256) : ∀ i, x.bytes fb i < 256 := catU (catU (catU (catU (catU (catU h.fr h.tw) (flagU _)) (SetV.b_u _ h.st)) (HV.b_u _ h.hd)) (nbF_lt _ _)) hf
theorem RV.b_u (x : RV) {fm : Nat → Nat → Nat} (hi : ∀ i, x.id i < 256) (hf : ∀ i j, fm i j < 256) : ∀ i, x.bytes fm i < 256 := catU (catU (catU hi (nbF_lt _ _)) (nbF_lt _ _)) (devsU hf _)
theorem PV.b_u (x : PV) (h : x.Ok) {fb : Nat → Nat} (hf : ∀ i, fb i < 256) : ∀ i, x.bytes fb i < 256 := catU (catU (catU (catU h.fr h.tw) h.id) (nbF_lt _ _)) hf
theorem ofD_any (D c : Nat) (a : Option Addr) (x : DV) (w : World) (hx : x.Ok) (hR : Rd w D a 66 x.bytes) :
    Calls Try.prog 13 #[.agg (rowOf 3 codDist), .agg (rowOf 52 x.v), .slice a 66 c, .bool (devMay x.sd)] w fun e w' => e = .returned (.bool true) ∧ w.grownBy w' none :=
  ofDist_any D 66 c a x.v (devMay x.sd) 66 x.bytes w (x.b_u hx) (fun _ => ⟨rfl, hR⟩) (fun w1 _ => distMay_any x w1)
    (fun _ _ _ _ _ h => distPut_any x ⟨hx.ep, hx.kid⟩ h (by decide) (by decide))
theorem ofH_any (D c : Nat) (a : Option Addr) (x : HV) (w : World) (hx : x.Ok) (hR : Rd w D a 40 x.bytes) :
    Calls Try.prog 15 #[.agg (rowOf 3 codHdr), .agg (rowOf 34 x.v), .slice a 40 c, .bool true] w fun e w' => e = .returned (.bool true) ∧ w.grownBy w' none :=
  ofHdr_any D 40 c a x.v true 40 x.bytes w (x.b_u hx) (fun _ => ⟨rfl, hR⟩) (fun w1 _ => hdrMay_any x.v w1)
    (fun _ w0 w1 g _ h => by
      have := putHeader_any x hx h (by decide) (by decide)
      rw [cat_none] at this
      exact this)
theorem ofR_any (D D2 c : Nat) (a : Option Addr) (x : RV) (fm : Nat → Nat → Nat) (w : World) (hi : ∀ i, x.id i < 256) (he : x.ep < 18446744073709551616) (hf : ∀ i j, fm i j < 256) (hM : RdD w D2 x.am x.nm fm) (hn : x.nm ≤ 1048576) (hR : Rd w D a x.len (x.bytes fm)) :
    Calls Try.prog 19 #[.agg (rowOf 3 codRos), .agg (rowOf 18 x.v), .slice a x.len c, .bool (memMay x.nm fm)] w fun e w' => e = .returned (.bool true) ∧ w.grownBy w' none :=
  ofRos_any D x.len c a x.v (memMay x.nm fm) x.len (x.bytes fm) w (x.b_u hi hf) (fun _ => ⟨rfl, hR⟩) (fun w1 h => rosMay_any D2 x fm w1 (hM.grown h (by simp)) hn)
    (fun hm w0 w1 g h0 h => by
      unfold memMay at hm
      rw [Bool.and_eq_true, decide_eq_true_eq] at hm
      exact rosPut_any (D := D2) x fm he (hM.grown h0 (by simp)) hm.1 h (by unfold RV.len; omega) (by decide))
theorem ofE_any (D D2 c : Nat) (a : Option Addr) (x : EV) (fb : Nat → Nat) (w : World) (hx : x.Ok) (hf : ∀ i, fb i < 256) (hM : Rd w D2 x.ad x.nb fb) (hR : Rd w D a x.len (x.bytes fb)) :
    Calls Try.prog 22 #[.agg (rowOf 3 codEnv), .agg (rowOf 106 x.v), .slice a x.len c, .bool (envMay x)] w fun e w' => e = .returned (.bool true) ∧ w.grownBy w' none :=
  ofEnv_any D x.len c a x.v (envMay x) x.len (x.bytes fb) w (x.b_u hx hf) (fun _ => ⟨rfl, hR⟩) (fun w1 _ => envMay_any x w1)
    (fun hm w0 w1 g h0 h => by
      unfold envMay at hm
      rw [Bool.and_eq_true, decide_eq_true_eq] at hm
      exact envPut_any (D := D2) x hx (hM.grown h0 (by simp)) hm.2 h (by omega) (by decide))
theorem ofP_any (D D2 c : Nat) (a : Option Addr) (x : PV) (fb : Nat → Nat) (w : World) (hx : x.Ok) (hf : ∀ i, fb i < 256) (hM : Rd w D2 x.ad x.nb fb) (hR : Rd w D a x.len (x.bytes fb)) :
    Calls Try.prog 25 #[.agg (rowOf 3 codPkt), .agg (rowOf 21 x.v), .slice a x.len c, .bool (pktMay x)] w fun e w' => e = .returned (.bool true) ∧ w.grownBy w' none :=
  ofPkt_any D x.len c a x.v (pktMay x) x.len (x.bytes fb) w (x.b_u hx hf) (fun _ => ⟨rfl, hR⟩) (fun w1 _ => pktMay_any x w1)
    (fun hm w0 w1 g h0 h => by
      unfold pktMay at hm
      rw [Bool.and_eq_true, decide_eq_true_eq] at hm
      exact pktPut_any (D := D2) x (hM.grown h0 (by simp)) hm.2 h (by unfold PV.len; omega) (by decide))
end Go.Proofs.Ytdagbighlgfhjaa
namespace Go.Proofs.Ytdagbighlgfhjaa
open Go.RowKit

set_option maxRecDepth 100000
set_option maxHeartbeats 4000000

theorem wpList_skipQ {P : Program} {ops : Array Oper} {Q : Exit → Act → World → Prop} {rest : List Oper} {o : Oper} {a : Act} {w : World} (x : Op) (_ : o.op = x) (hw : Region.wanted o (yielded ops a.tmps) = false) (hk : wpList P ops Q rest (a.put o.dst undef) w) : wpList P ops Q (o :: rest) a w := by
  unfold wpList
  rw [if_neg (by rw [hw]; decide)]
  exact hk
theorem load_boolQ {w : World} {B o : Nat} {v : Bool} (h : w.cell? ⟨B, o, none⟩ = some (.bool v)) : (Instr.loadAt 4 (.pointer (some ⟨B, o, none⟩))).run Try.prog w = .ok (.bool v) w := by go_simp
theorem load_sliceQ {w : World} {B o n c : Nat} {a : Option Addr} (h : w.cell? ⟨B, o, none⟩ = some (.slice a n c)) : (Instr.loadAt 39 (.pointer (some ⟨B, o, none⟩))).run Try.prog w = .ok (.slice a n c) w := by go_simp
theorem exec_eqlQ {o : Oper} {a : Act} {w : World} {T : TypeId} {v : Value} (x y : Operand) (v1 v2 : Value) (ho : o.op = .binOp .eql T x y T) (h1 : a.eval x = v1) (h2 : a.eval y = v2) (hg : (eqGuard .eql T x y v1 v2).run Try.prog w = .ok () w) (h : (binOp .eql T v1 v2).run Try.prog w = .ok v w) : (execOp a.eval o).run Try.prog w = .ok (.value v) w := by
  unfold execOp
  simp only [ho, h1, h2]
  simp only [Sem.run_bind, Sem.run_pure, Result.andThen_ok, hg, h]
theorem refMayPkt_any (x : PV) (w : World) : Calls Try.prog 102 #[.agg (rowOf 21 x.v)] w fun e w' => e = .returned (.bool (pktMay x)) ∧ w.grownBy w' none := by
  have ga := World.grownBy_alloc w (.cells (rowOf 21 x.v) 43) none
  have hA := RowAt.new w 43 21 x.v _ rfl
  go_enter Try.func102, Try.ntmps102
  go_upto_region 1 with fail
  obtain ⟨B, hBB⟩ : ∃ B, B = w.heap.size := ⟨_, rfl⟩
  rw [← hBB] at hA ⊢
  generalize w.alloc (.cells (rowOf 21 x.v) 43) = w1 at *
  have HG := Lib.hid ga
  have HA := Lib.hid hA
  have HP := Lib.hid (show pktMay x = (devMay x.fr && devMay x.tw && !(eqN 2 x.fr x.tw) && decide (x.nb ≤ 70000)) from rfl)
  clear hBB ga hA
  have HLF := Lib.hid (fun W (h : w1.grownBy W none) => (HA.out.grown h (by simp)).load (P := Try.prog) 0 26 2 (fun j => .int .u8 (x.fr j)) (by decide) x.v_fr (by kernel_rfl) (by kernel_rfl))
  have HLT := Lib.hid (fun W (h : w1.grownBy W none) => (HA.out.grown h (by simp)).load (P := Try.prog) 2 26 2 (fun j => .int .u8 (x.tw j)) (by decide) x.v_to (by kernel_rfl) (by kernel_rfl))
  have HM := Lib.hid (refDev_any x.fr w1)
  have HL1 := Lib.hid (HLF.out w1 (grown_refl _ _))
  obtain ⟨b1, hb1⟩ : ∃ b, b = devMay x.fr := ⟨_, rfl⟩
  rw [← hb1] at HM HP
  clear hb1
  go_wp2_with (first | ((with_reducible refine wpList_here ?_); refine wpList_ld (p := .pointer (some ⟨B, 0, none⟩)) 3 ?_ ?_ ?_ HL1.out ?_; (· rfl); go_simp; (· kernel_rfl)))
  go_at_call 63
  refine HM.out.mono ?_
  rintro e w2 ⟨rfl, g2⟩
  have G2 := Lib.hid g2
  clear HM HL1 g2
  cases b1 with
  | false =>
    have HE := Lib.hid (grown_trans HG.out G2.out)
    go_wp2_with fail
    go_ret
    exact ⟨by rw [HP.out]; rfl, HE.out⟩
  | true =>
  have HL2 := Lib.hid (HLT.out w2 G2.out)
  have HM2 := Lib.hid (refDev_any x.tw w2)
  obtain ⟨b2, hb2⟩ : ∃ b, b = devMay x.tw := ⟨_, rfl⟩
  rw [← hb2] at HM2 HP
  clear hb2
  go_wp2_with (first | ((with_reducible refine wpList_here ?_); refine wpList_ld (p := .pointer (some ⟨B, 2, none⟩)) 7 ?_ ?_ ?_ HL2.out ?_; (· rfl); go_simp; (· kernel_rfl)))
  go_at_call 63
  refine HM2.out.mono ?_
  rintro e w3 ⟨rfl, g3⟩
  have G3 := Lib.hid (grown_trans G2.out g3)
  have HE := Lib.hid (grown_trans HG.out G3.out)
  clear HM2 HL2 g3
  cases b2 with
  | false =>
    go_wp2_with fail
    go_ret
    exact ⟨by rw [HP.out]; rfl, HE.out⟩
  | true =>
  have HL3 := Lib.hid (HLF.out w3 G3.out)
  have HL4 := Lib.hid (HLT.out w3 G3.out)
  have HNE := Lib.hid (neq_dev x.fr x.tw w3)
  obtain ⟨q, hq⟩ : ∃ q, q = !(eqN 2 x.fr x.tw) := ⟨_, rfl⟩
  rw [← hq] at HNE HP
  clear hq HLF HLT
  have c20 : w3.cell? ⟨B, 20, none⟩ = some (.slice x.ad x.nb x.cb) := (HA.out.grown G3.out (by simp)).cell 20 (by decide)
  cases q with
  | false =>
    clear c20
    go_wp2_with (first | ((with_reducible refine wpList_here ?_); refine wpList_ld (p := .pointer (some ⟨B, 0, none⟩)) 12 ?_ ?_ ?_ HL3.out ?_; (· rfl); go_simp; (· kernel_rfl)) | ((with_reducible refine wpList_here ?_); refine wpList_ld (p := .pointer (some ⟨B, 2, none⟩)) 14 ?_ ?_ ?_ HL4.out ?_; (· rfl); go_simp; (· kernel_rfl)) | ((with_reducible refine wpList_here ?_); refine wpList_ne 13 15 ?_ ?_ ?_ ?_ ?_ HNE.out ?_; (· rfl); go_simp; (· kernel_rfl); (· kernel_rfl); (· kernel_rfl)))
    go_ret
    exact ⟨by rw [HP.out]; rfl, HE.out⟩
  | true =>
    by_cases hn : x.nb ≤ 70000
    · have j0 : (x.nb : Int) ≤ 70000 := by omega
      have HN := Lib.hid (decide_eq_true hn)
      clear hn
      go_wp2_with (first | ((with_reducible refine wpList_here ?_); refine wpList_ld (p := .pointer (some ⟨B, 0, none⟩)) 12 ?_ ?_ ?_ HL3.out ?_; (· rfl); go_simp; (· kernel_rfl)) | ((with_reducible refine wpList_here ?_); refine wpList_ld (p := .pointer (some ⟨B, 2, none⟩)) 14 ?_ ?_ ?_ HL4.out ?_; (· rfl); go_simp; (· kernel_rfl)) | ((with_reducible refine wpList_here ?_); refine wpList_ne 13 15 ?_ ?_ ?_ ?_ ?_ HNE.out ?_; (· rfl); go_simp; (· kernel_rfl); (· kernel_rfl); (· kernel_rfl)))
      go_ret
      exact ⟨by rw [HP.out, HN.out]; rfl, HE.out⟩
    · have j0 : ¬ (x.nb : Int) ≤ 70000 := by omega
      have HN := Lib.hid (decide_eq_false hn)
      clear hn
      go_wp2_with (first | ((with_reducible refine wpList_here ?_); refine wpList_ld (p := .pointer (some ⟨B, 0, none⟩)) 12 ?_ ?_ ?_ HL3.out ?_; (· rfl); go_simp; (· kernel_rfl)) | ((with_reducible refine wpList_here ?_); refine wpList_ld (p := .pointer (some ⟨B, 2, none⟩)) 14 ?_ ?_ ?_ HL4.out ?_; (· rfl); go_simp; (· kernel_rfl)) | ((with_reducible refine wpList_here ?_); refine wpList_ne 13 15 ?_ ?_ ?_ ?_ ?_ HNE.out ?_; (· rfl); go_simp; (· kernel_rfl); (· kernel_rfl); (· kernel_rfl)))
      go_ret
      exact ⟨by rw [HP.out, HN.out]; first | rfl | (simp; omega), HE.out⟩
end Go.Proofs.Ytdagbighlgfhjaa
namespace Go.Proofs.Ytdagbighlgfhjaa
open Go.RowKit

set_option maxRecDepth 100000
set_option maxHeartbeats 4000000

/-- A device's place. -/
def devQ (f : Nat → Nat) : Nat := 256 * f 0 + f 1
theorem cmpD_lt (f g : Nat → Nat) (hf : ∀ j, f j < 256) (hg : ∀ j, g j < 256) : decide (cmpD f g < 0) = !decide (devQ g ≤ devQ f) := by
  have a := hf 0
  have b := hf 1
  have c := hg 0
  have d := hg 1
  unfold cmpD devQ cmpV
  by_cases h1 : f 0 < g 0
  · rw [if_pos h1, if_neg (by decide), decide_eq_false (show ¬ 256 * g 0 + g 1 ≤ 256 * f 0 + f 1 by omega)]; rfl
  · rw [if_neg h1]
    by_cases h2 : g 0 < f 0
    · rw [if_pos h2, if_neg (by decide), decide_eq_true (show 256 * g 0 + g 1 ≤ 256 * f 0 + f 1 by omega)]; rfl
    · rw [if_neg h2, if_pos rfl]
      by_cases h3 : f 1 < g 1
      · rw [if_pos h3, decide_eq_false (show ¬ 256 * g 0 + g 1 ≤ 256 * f 0 + f 1 by omega)]; rfl
      · rw [if_neg h3, decide_eq_true (show 256 * g 0 + g 1 ≤ 256 * f 0 + f 1 by omega)]
        by_cases h4 : g 1 < f 1
        · rw [if_pos h4]; rfl
        · rw [if_neg h4]; rfl
theorem load_u8M {w : World} {B o v : Nat} (h : w.cell? ⟨B, o, none⟩ = some (.int .u8 v)) : (Instr.loadAt 5 (.pointer (some ⟨B, o, none⟩))).run Try.prog w = .ok (.int .u8 v) w := by go_simp
theorem refMembers_any (D n c : Nat) (a : Option Addr) (fm : Nat → Nat → Nat) (w : World) (hR : RdD w D a n fm) (hF : ∀ i j, fm i j < 256) (hn : n ≤ 1048576) : Calls Try.prog 80 #[.slice a n c] w fun e w' => e = .returned (.bool (memMay n fm)) ∧ w.grownBy w' none := by
  have HR := Lib.hid hR
  have HN := Lib.hid hn
  have HF := Lib.hid hF
  clear hn hR hF
  go_enter Try.func80, Try.ntmps80
  go_wp2_with fail
  go_loopw [3] (fun u3 wr => ∃ i : Nat, i ≤ n ∧ u3 = .int .i64 i ∧ (∀ k, k < i → memOk fm k = true) ∧ w.grownBy wr none) (fun u3 _ => n - (intOf u3).toNat)
  case atStart => exact ⟨0, Nat.zero_le _, rfl, fun k hk => absurd hk (by omega), grown_refl _ _⟩
  case round =>
    obtain ⟨i, hi, rfl, hok, hg⟩ := hrel
    by_cases hlt : i < n
    case neg =>
      obtain rfl : i = n := by omega
      have HM : Hid (memMay i fm = decide (i ≤ 32)) := Lib.hid (by
        unfold memMay
        rw [show (List.range i).all (memOk fm) = true from List.all_eq_true.2 fun k hk => hok k (List.mem_range.1 hk), Bool.and_true])
      have HG := Lib.hid hg
      by_cases h32 : i ≤ 32
      · have j0 : (i : Int) ≤ 32 := by omega
        have HD := Lib.hid (decide_eq_true h32)
        clear hok hg hi hlt h32
        go_wp2_with fail
        go_ret
        exact ⟨by rw [HM.out, HD.out]; rfl, HG.out⟩
      · have j0 : ¬ (i : Int) ≤ 32 := by omega
        have HD := Lib.hid (decide_eq_false h32)
        clear hok hg hi hlt h32
        go_wp2_with fail
        go_ret
        exact ⟨by rw [HM.out, HD.out]; first | rfl | (simp; omega), HG.out⟩
    case pos =>
    have j1 : (i : Int) < (n : Int) := by omega
    obtain ⟨tb, o, rfl, htb, hcl⟩ := (HR.out.grown hg (fun k e => by cases e)).ex (by omega)
    have HCL : Hid (∀ k, k < n → ∀ W, wr.grownBy W none → W.cell? ⟨tb, o + k * 2, none⟩ = some (.int .u8 (fm k 0)) ∧ W.cell? ⟨tb, o + k * 2 + 1, none⟩ = some (.int .u8 (fm k 1))) := Lib.hid (fun k hk W hW => ⟨by simpa using hW.cell (hcl k 0 hk (by decide)) (by simp), by simpa [Nat.add_assoc] using hW.cell (hcl k 1 hk (by decide)) (by simp)⟩)
    have HG := Lib.hid hg
    have HOK := Lib.hid hok
    have HLT := Lib.hid hlt
    clear hcl htb hg hok hi hlt
    go_upto_region 4 with fail
    refine wp_region_held (S := fun W => wr.grownBy W none) (by kernel_rfl) ?_
    change wpAnyH _ _ _ _ _ 43 #[false, false, false, false, false, false, false, false, false, false, false, false, false, false, false, false, false, false, false, false, false, false, false, false, false, false, false, false, false, false, false, false, false, false, false, false, false, false, false, false, false, false, false] _ (World.drew _)
    have gq := grown_drew (grown_refl wr none)
    generalize wr.drew = w6 at *
    refine wpAnyH_takeD (some 10) (i := 0) (v := (.slice (some ⟨tb, o, none⟩) n c)) rfl rfl (by kernel_rfl) (by kernel_rfl) (by kernel_rfl) (fun _ _ _ h => h) (Or.inl ⟨rfl, fun _ _ => rfl⟩) gq ?_
    simp only [Act.put, List.setIfInBounds_toArray, List.set_cons_succ, List.set_cons_zero]
    refine wpAnyH_takeD (some 11) (i := 1) (v := (.int .i64 i)) rfl rfl (by kernel_rfl) (by kernel_rfl) (by kernel_rfl) (fun _ _ _ h => h) (Or.inl ⟨rfl, fun _ _ => rfl⟩) gq ?_
    simp only [Act.put, List.setIfInBounds_toArray, List.set_cons_succ, List.set_cons_zero]
    refine wpAnyH_takeD (some 12) (i := 2) (v := (.pointer (some ⟨tb, o + i * 2, none⟩))) rfl rfl (by kernel_rfl) (by kernel_rfl) (by kernel_rfl) (fun _ _ _ h => h) (Or.inl ⟨rfl, fun _ _ => by have := j1; unfold execOp; go_simp⟩) gq ?_
    simp only [Act.put, List.setIfInBounds_toArray, List.set_cons_succ, List.set_cons_zero]
    refine wpAnyH_takeD (some 13) (i := 3) (v := (devR (fm i))) rfl rfl (by kernel_rfl) (by kernel_rfl) (by kernel_rfl) (fun _ _ _ h => h) (Or.inl ⟨rfl, fun W hW => exec_loadQ (.tmp 12) _ _ rfl rfl (load_devQ (HCL.out i HLT.out W hW).1 (HCL.out i HLT.out W hW).2)⟩) gq ?_
    simp only [Act.put, List.setIfInBounds_toArray, List.set_cons_succ, List.set_cons_zero]
    refine wpAnyH_callD (some 14) (i := 4) 63 #[devR (fm i)] (R := fun v W => v = .bool (devMay (fm i)) ∧ w6.grownBy W none) (by kernel_rfl) rfl rfl rfl (exec_fn1 _ _ _ rfl rfl) mayQ_enters ((refDev_any (fm i) w6).mono fun e W h => ⟨_, h.1, rfl, h.2⟩) ?_
    rintro v w7 ⟨rfl, g7⟩
    have gq7 := grown_trans gq g7
    refine ⟨gq7, ?_⟩
    simp only [Act.put, List.setIfInBounds_toArray, List.set_cons_succ, List.set_cons_zero]
    obtain ⟨m, hm⟩ : ∃ m, m = !(devMay (fm i)) := ⟨_, rfl⟩
    have HM := Lib.hid (show devMay (fm i) = !m by rw [hm, Bool.not_not])
    have HMM := Lib.hid hm
    clear hm gq g7
    refine wpAnyH_takeD (some 15) (i := 5) (v := (.bool m)) rfl rfl (by kernel_rfl) (by kernel_rfl) (by kernel_rfl) (fun _ _ _ h => h) (Or.inl ⟨rfl, fun _ _ => by have := HMM.out; unfold execOp; go_simp⟩) gq7 ?_
    simp only [Act.put, List.setIfInBounds_toArray, List.set_cons_succ, List.set_cons_zero]
    refine wpAnyH_takeD (some 16) (i := 6) (v := (.bool m)) rfl rfl (by kernel_rfl) (by kernel_rfl) (by kernel_rfl) (fun _ _ _ h => h) (Or.inl ⟨rfl, fun _ _ => rfl⟩) gq7 ?_
    simp only [Act.put, List.setIfInBounds_toArray, List.set_cons_succ, List.set_cons_zero]
    cases m with
    | true =>
      refine wpAnyH_takeD (some 17) (i := 7) (v := undef) rfl rfl (by kernel_rfl) (by kernel_rfl) (by kernel_rfl) (fun _ _ _ h => h) (Or.inr ⟨by kernel_rfl, rfl⟩) gq7 ?_
      simp only [Act.put, List.setIfInBounds_toArray, List.set_cons_succ, List.set_cons_zero]
      refine wpAnyH_takeD (some 18) (i := 8) (v := undef) rfl rfl (by kernel_rfl) (by kernel_rfl) (by kernel_rfl) (fun _ _ _ h => h) (Or.inr ⟨by kernel_rfl, rfl⟩) gq7 ?_
      simp only [Act.put, List.setIfInBounds_toArray, List.set_cons_succ, List.set_cons_zero]
      refine wpAnyH_takeD (some 19) (i := 9) (v := undef) rfl rfl (by kernel_rfl) (by kernel_rfl) (by kernel_rfl) (fun _ _ _ h => h) (Or.inr ⟨by kernel_rfl, rfl⟩) gq7 ?_
      simp only [Act.put, List.setIfInBounds_toArray, List.set_cons_succ, List.set_cons_zero]
      refine wpAnyH_takeD (some 20) (i := 10) (v := undef) rfl rfl (by kernel_rfl) (by kernel_rfl) (by kernel_rfl) (fun _ _ _ h => h) (Or.inr ⟨by kernel_rfl, rfl⟩) gq7 ?_
      simp only [Act.put, List.setIfInBounds_toArray, List.set_cons_succ, List.set_cons_zero]
      refine wpAnyH_takeD (some 21) (i := 11) (v := undef) rfl rfl (by kernel_rfl) (by kernel_rfl) (by kernel_rfl) (fun _ _ _ h => h) (Or.inr ⟨by kernel_rfl, rfl⟩) gq7 ?_
      simp only [Act.put, List.setIfInBounds_toArray, List.set_cons_succ, List.set_cons_zero]
      refine wpAnyH_takeD (some 22) (i := 12) (v := undef) rfl rfl (by kernel_rfl) (by kernel_rfl) (by kernel_rfl) (fun _ _ _ h => h) (Or.inr ⟨by kernel_rfl, rfl⟩) gq7 ?_
      simp only [Act.put, List.setIfInBounds_toArray, List.set_cons_succ, List.set_cons_zero]
      refine wpAnyH_takeD (some 23) (i := 13) (v := undef) rfl rfl (by kernel_rfl) (by kernel_rfl) (by kernel_rfl) (fun _ _ _ h => h) (Or.inr ⟨by kernel_rfl, rfl⟩) gq7 ?_
      simp only [Act.put, List.setIfInBounds_toArray, List.set_cons_succ, List.set_cons_zero]
      refine wpAnyH_takeD (some 24) (i := 14) (v := undef) rfl rfl (by kernel_rfl) (by kernel_rfl) (by kernel_rfl) (fun _ _ _ h => h) (Or.inr ⟨by kernel_rfl, rfl⟩) gq7 ?_
      simp only [Act.put, List.setIfInBounds_toArray, List.set_cons_succ, List.set_cons_zero]
      refine wpAnyH_takeD (some 25) (i := 15) (v := undef) rfl rfl (by kernel_rfl) (by kernel_rfl) (by kernel_rfl) (fun _ _ _ h => h) (Or.inr ⟨by kernel_rfl, rfl⟩) gq7 ?_
      simp only [Act.put, List.setIfInBounds_toArray, List.set_cons_succ, List.set_cons_zero]
      refine wpAnyH_takeD (some 26) (i := 16) (v := undef) rfl rfl (by kernel_rfl) (by kernel_rfl) (by kernel_rfl) (fun _ _ _ h => h) (Or.inr ⟨by kernel_rfl, rfl⟩) gq7 ?_
      simp only [Act.put, List.setIfInBounds_toArray, List.set_cons_succ, List.set_cons_zero]
      refine wpAnyH_takeD (some 27) (i := 17) (v := undef) rfl rfl (by kernel_rfl) (by kernel_rfl) (by kernel_rfl) (fun _ _ _ h => h) (Or.inr ⟨by kernel_rfl, rfl⟩) gq7 ?_
      simp only [Act.put, List.setIfInBounds_toArray, List.set_cons_succ, List.set_cons_zero]
      refine wpAnyH_takeD (some 28) (i := 18) (v := undef) rfl rfl (by kernel_rfl) (by kernel_rfl) (by kernel_rfl) (fun _ _ _ h => h) (Or.inr ⟨by kernel_rfl, rfl⟩) gq7 ?_
      simp only [Act.put, List.setIfInBounds_toArray, List.set_cons_succ, List.set_cons_zero]
      refine wpAnyH_takeD (some 29) (i := 19) (v := undef) rfl rfl (by kernel_rfl) (by kernel_rfl) (by kernel_rfl) (fun _ _ _ h => h) (Or.inr ⟨by kernel_rfl, rfl⟩) gq7 ?_
      simp only [Act.put, List.setIfInBounds_toArray, List.set_cons_succ, List.set_cons_zero]
      refine wpAnyH_takeD (some 30) (i := 20) (v := undef) rfl rfl (by kernel_rfl) (by kernel_rfl) (by kernel_rfl) (fun _ _ _ h => h) (Or.inr ⟨by kernel_rfl, rfl⟩) gq7 ?_
      simp only [Act.put, List.setIfInBounds_toArray, List.set_cons_succ, List.set_cons_zero]
      refine wpAnyH_takeD (some 31) (i := 21) (v := undef) rfl rfl (by kernel_rfl) (by kernel_rfl) (by kernel_rfl) (fun _ _ _ h => h) (Or.inr ⟨by kernel_rfl, rfl⟩) gq7 ?_
      simp only [Act.put, List.setIfInBounds_toArray, List.set_cons_succ, List.set_cons_zero]
      refine wpAnyH_takeD (some 32) (i := 22) (v := undef) rfl rfl (by kernel_rfl) (by kernel_rfl) (by kernel_rfl) (fun _ _ _ h => h) (Or.inr ⟨by kernel_rfl, rfl⟩) gq7 ?_
      simp only [Act.put, List.setIfInBounds_toArray, List.set_cons_succ, List.set_cons_zero]
      refine wpAnyH_takeD (some 33) (i := 23) (v := undef) rfl rfl (by kernel_rfl) (by kernel_rfl) (by kernel_rfl) (fun _ _ _ h => h) (Or.inr ⟨by kernel_rfl, rfl⟩) gq7 ?_
      simp only [Act.put, List.setIfInBounds_toArray, List.set_cons_succ, List.set_cons_zero]
      refine wpAnyH_takeD (some 34) (i := 24) (v := undef) rfl rfl (by kernel_rfl) (by kernel_rfl) (by kernel_rfl) (fun _ _ _ h => h) (Or.inr ⟨by kernel_rfl, rfl⟩) gq7 ?_
      simp only [Act.put, List.setIfInBounds_toArray, List.set_cons_succ, List.set_cons_zero]
      refine wpAnyH_takeD (some 35) (i := 25) (v := undef) rfl rfl (by kernel_rfl) (by kernel_rfl) (by kernel_rfl) (fun _ _ _ h => h) (Or.inr ⟨by kernel_rfl, rfl⟩) gq7 ?_
      simp only [Act.put, List.setIfInBounds_toArray, List.set_cons_succ, List.set_cons_zero]
      refine wpAnyH_takeD (some 36) (i := 26) (v := undef) rfl rfl (by kernel_rfl) (by kernel_rfl) (by kernel_rfl) (fun _ _ _ h => h) (Or.inr ⟨by kernel_rfl, rfl⟩) gq7 ?_
      simp only [Act.put, List.setIfInBounds_toArray, List.set_cons_succ, List.set_cons_zero]
      refine wpAnyH_takeD (some 37) (i := 27) (v := undef) rfl rfl (by kernel_rfl) (by kernel_rfl) (by kernel_rfl) (fun _ _ _ h => h) (Or.inr ⟨by kernel_rfl, rfl⟩) gq7 ?_
      simp only [Act.put, List.setIfInBounds_toArray, List.set_cons_succ, List.set_cons_zero]
      refine wpAnyH_takeD (some 38) (i := 28) (v := undef) rfl rfl (by kernel_rfl) (by kernel_rfl) (by kernel_rfl) (fun _ _ _ h => h) (Or.inr ⟨by kernel_rfl, rfl⟩) gq7 ?_
      simp only [Act.put, List.setIfInBounds_toArray, List.set_cons_succ, List.set_cons_zero]
      refine wpAnyH_takeD (some 39) (i := 29) (v := undef) rfl rfl (by kernel_rfl) (by kernel_rfl) (by kernel_rfl) (fun _ _ _ h => h) (Or.inr ⟨by kernel_rfl, rfl⟩) gq7 ?_
      simp only [Act.put, List.setIfInBounds_toArray, List.set_cons_succ, List.set_cons_zero]
      refine wpAnyH_takeD (some 40) (i := 30) (v := undef) rfl rfl (by kernel_rfl) (by kernel_rfl) (by kernel_rfl) (fun _ _ _ h => h) (Or.inr ⟨by kernel_rfl, rfl⟩) gq7 ?_
      simp only [Act.put, List.setIfInBounds_toArray, List.set_cons_succ, List.set_cons_zero]
      refine wpAnyH_takeD (some 41) (i := 31) (v := undef) rfl rfl (by kernel_rfl) (by kernel_rfl) (by kernel_rfl) (fun _ _ _ h => h) (Or.inr ⟨by kernel_rfl, rfl⟩) gq7 ?_
      simp only [Act.put, List.setIfInBounds_toArray, List.set_cons_succ, List.set_cons_zero]
      refine wpAnyH_takeD (some 42) (i := 32) (v := undef) rfl rfl (by kernel_rfl) (by kernel_rfl) (by kernel_rfl) (fun _ _ _ h => h) (Or.inr ⟨by kernel_rfl, rfl⟩) gq7 ?_
      simp only [Act.put, List.setIfInBounds_toArray, List.set_cons_succ, List.set_cons_zero]
      refine wpAnyH_takeD (some 43) (i := 33) (v := undef) rfl rfl (by kernel_rfl) (by kernel_rfl) (by kernel_rfl) (fun _ _ _ h => h) (Or.inr ⟨by kernel_rfl, rfl⟩) gq7 ?_
      simp only [Act.put, List.setIfInBounds_toArray, List.set_cons_succ, List.set_cons_zero]
      refine wpAnyH_takeD (some 44) (i := 34) (v := undef) rfl rfl (by kernel_rfl) (by kernel_rfl) (by kernel_rfl) (fun _ _ _ h => h) (Or.inr ⟨by kernel_rfl, rfl⟩) gq7 ?_
      simp only [Act.put, List.setIfInBounds_toArray, List.set_cons_succ, List.set_cons_zero]
      refine wpAnyH_takeD (some 45) (i := 35) (v := undef) rfl rfl (by kernel_rfl) (by kernel_rfl) (by kernel_rfl) (fun _ _ _ h => h) (Or.inr ⟨by kernel_rfl, rfl⟩) gq7 ?_
      simp only [Act.put, List.setIfInBounds_toArray, List.set_cons_succ, List.set_cons_zero]
      refine wpAnyH_takeD (some 46) (i := 36) (v := undef) rfl rfl (by kernel_rfl) (by kernel_rfl) (by kernel_rfl) (fun _ _ _ h => h) (Or.inr ⟨by kernel_rfl, rfl⟩) gq7 ?_
      simp only [Act.put, List.setIfInBounds_toArray, List.set_cons_succ, List.set_cons_zero]
      refine wpAnyH_takeD (some 47) (i := 37) (v := undef) rfl rfl (by kernel_rfl) (by kernel_rfl) (by kernel_rfl) (fun _ _ _ h => h) (Or.inr ⟨by kernel_rfl, rfl⟩) gq7 ?_
      simp only [Act.put, List.setIfInBounds_toArray, List.set_cons_succ, List.set_cons_zero]
      refine wpAnyH_takeD (some 48) (i := 38) (v := undef) rfl rfl (by kernel_rfl) (by kernel_rfl) (by kernel_rfl) (fun _ _ _ h => h) (Or.inr ⟨by kernel_rfl, rfl⟩) gq7 ?_
      simp only [Act.put, List.setIfInBounds_toArray, List.set_cons_succ, List.set_cons_zero]
      refine wpAnyH_takeD (some 49) (i := 39) (v := undef) rfl rfl (by kernel_rfl) (by kernel_rfl) (by kernel_rfl) (fun _ _ _ h => h) (Or.inr ⟨by kernel_rfl, rfl⟩) gq7 ?_
      simp only [Act.put, List.setIfInBounds_toArray, List.set_cons_succ, List.set_cons_zero]
      refine wpAnyH_takeD (some 50) (i := 40) (v := undef) rfl rfl (by kernel_rfl) (by kernel_rfl) (by kernel_rfl) (fun _ _ _ h => h) (Or.inr ⟨by kernel_rfl, rfl⟩) gq7 ?_
      simp only [Act.put, List.setIfInBounds_toArray, List.set_cons_succ, List.set_cons_zero]
      refine wpAnyH_takeD (some 51) (i := 41) (v := undef) rfl rfl (by kernel_rfl) (by kernel_rfl) (by kernel_rfl) (fun _ _ _ h => h) (Or.inr ⟨by kernel_rfl, rfl⟩) gq7 ?_
      simp only [Act.put, List.setIfInBounds_toArray, List.set_cons_succ, List.set_cons_zero]
      refine wpAnyH_takeD (some 52) (i := 42) (v := (.bool true)) rfl rfl (by kernel_rfl) (by kernel_rfl) (by kernel_rfl) (fun _ _ _ h => h) (Or.inl ⟨rfl, fun _ _ => by go_simp⟩) gq7 ?_
      simp only [Act.put, List.setIfInBounds_toArray, List.set_cons_succ, List.set_cons_zero]
      refine wpAnyH_done (by kernel_rfl) ?_ _
      have HE := Lib.hid (grown_trans HG.out gq7)
      have HMY : Hid (memMay n fm = false) := Lib.hid (memMay_no HLT.out (by unfold memOk; rw [HM.out]; rfl))
      clear gq7
      go_wp2_with fail
      go_ret
      exact ⟨by rw [HMY.out]; rfl, HE.out⟩
    | false =>
      by_cases hi0 : i = 0
      · subst hi0
        refine wpAnyH_takeD (some 17) (i := 7) (v := (.int .i64 (0 : Nat))) rfl rfl (by kernel_rfl) (by kernel_rfl) (by kernel_rfl) (fun _ _ _ h => h) (Or.inl ⟨rfl, fun _ _ => rfl⟩) gq7 ?_
        simp only [Act.put, List.setIfInBounds_toArray, List.set_cons_succ, List.set_cons_zero]
        refine wpAnyH_takeD (some 18) (i := 8) (v := (.bool false)) rfl rfl (by kernel_rfl) (by kernel_rfl) (by kernel_rfl) (fun _ _ _ h => h) (Or.inl ⟨rfl, fun _ _ => by go_simp⟩) gq7 ?_
        simp only [Act.put, List.setIfInBounds_toArray, List.set_cons_succ, List.set_cons_zero]
        refine wpAnyH_takeD (some 19) (i := 9) (v := (.bool false)) rfl rfl (by kernel_rfl) (by kernel_rfl) (by kernel_rfl) (fun _ _ _ h => h) (Or.inl ⟨rfl, fun _ _ => rfl⟩) gq7 ?_
        simp only [Act.put, List.setIfInBounds_toArray, List.set_cons_succ, List.set_cons_zero]
        refine wpAnyH_takeD (some 20) (i := 10) (v := undef) rfl rfl (by kernel_rfl) (by kernel_rfl) (by kernel_rfl) (fun _ _ _ h => h) (Or.inr ⟨by kernel_rfl, rfl⟩) gq7 ?_
        simp only [Act.put, List.setIfInBounds_toArray, List.set_cons_succ, List.set_cons_zero]
        refine wpAnyH_takeD (some 21) (i := 11) (v := undef) rfl rfl (by kernel_rfl) (by kernel_rfl) (by kernel_rfl) (fun _ _ _ h => h) (Or.inr ⟨by kernel_rfl, rfl⟩) gq7 ?_
        simp only [Act.put, List.setIfInBounds_toArray, List.set_cons_succ, List.set_cons_zero]
        refine wpAnyH_takeD (some 22) (i := 12) (v := undef) rfl rfl (by kernel_rfl) (by kernel_rfl) (by kernel_rfl) (fun _ _ _ h => h) (Or.inr ⟨by kernel_rfl, rfl⟩) gq7 ?_
        simp only [Act.put, List.setIfInBounds_toArray, List.set_cons_succ, List.set_cons_zero]
        refine wpAnyH_takeD (some 23) (i := 13) (v := undef) rfl rfl (by kernel_rfl) (by kernel_rfl) (by kernel_rfl) (fun _ _ _ h => h) (Or.inr ⟨by kernel_rfl, rfl⟩) gq7 ?_
        simp only [Act.put, List.setIfInBounds_toArray, List.set_cons_succ, List.set_cons_zero]
        refine wpAnyH_takeD (some 24) (i := 14) (v := undef) rfl rfl (by kernel_rfl) (by kernel_rfl) (by kernel_rfl) (fun _ _ _ h => h) (Or.inr ⟨by kernel_rfl, rfl⟩) gq7 ?_
        simp only [Act.put, List.setIfInBounds_toArray, List.set_cons_succ, List.set_cons_zero]
        refine wpAnyH_takeD (some 25) (i := 15) (v := undef) rfl rfl (by kernel_rfl) (by kernel_rfl) (by kernel_rfl) (fun _ _ _ h => h) (Or.inr ⟨by kernel_rfl, rfl⟩) gq7 ?_
        simp only [Act.put, List.setIfInBounds_toArray, List.set_cons_succ, List.set_cons_zero]
        refine wpAnyH_takeD (some 26) (i := 16) (v := undef) rfl rfl (by kernel_rfl) (by kernel_rfl) (by kernel_rfl) (fun _ _ _ h => h) (Or.inr ⟨by kernel_rfl, rfl⟩) gq7 ?_
        simp only [Act.put, List.setIfInBounds_toArray, List.set_cons_succ, List.set_cons_zero]
        refine wpAnyH_takeD (some 27) (i := 17) (v := undef) rfl rfl (by kernel_rfl) (by kernel_rfl) (by kernel_rfl) (fun _ _ _ h => h) (Or.inr ⟨by kernel_rfl, rfl⟩) gq7 ?_
        simp only [Act.put, List.setIfInBounds_toArray, List.set_cons_succ, List.set_cons_zero]
        refine wpAnyH_takeD (some 28) (i := 18) (v := undef) rfl rfl (by kernel_rfl) (by kernel_rfl) (by kernel_rfl) (fun _ _ _ h => h) (Or.inr ⟨by kernel_rfl, rfl⟩) gq7 ?_
        simp only [Act.put, List.setIfInBounds_toArray, List.set_cons_succ, List.set_cons_zero]
        refine wpAnyH_takeD (some 29) (i := 19) (v := undef) rfl rfl (by kernel_rfl) (by kernel_rfl) (by kernel_rfl) (fun _ _ _ h => h) (Or.inr ⟨by kernel_rfl, rfl⟩) gq7 ?_
        simp only [Act.put, List.setIfInBounds_toArray, List.set_cons_succ, List.set_cons_zero]
        refine wpAnyH_takeD (some 30) (i := 20) (v := undef) rfl rfl (by kernel_rfl) (by kernel_rfl) (by kernel_rfl) (fun _ _ _ h => h) (Or.inr ⟨by kernel_rfl, rfl⟩) gq7 ?_
        simp only [Act.put, List.setIfInBounds_toArray, List.set_cons_succ, List.set_cons_zero]
        refine wpAnyH_takeD (some 31) (i := 21) (v := undef) rfl rfl (by kernel_rfl) (by kernel_rfl) (by kernel_rfl) (fun _ _ _ h => h) (Or.inr ⟨by kernel_rfl, rfl⟩) gq7 ?_
        simp only [Act.put, List.setIfInBounds_toArray, List.set_cons_succ, List.set_cons_zero]
        refine wpAnyH_takeD (some 32) (i := 22) (v := undef) rfl rfl (by kernel_rfl) (by kernel_rfl) (by kernel_rfl) (fun _ _ _ h => h) (Or.inr ⟨by kernel_rfl, rfl⟩) gq7 ?_
        simp only [Act.put, List.setIfInBounds_toArray, List.set_cons_succ, List.set_cons_zero]
        refine wpAnyH_takeD (some 33) (i := 23) (v := undef) rfl rfl (by kernel_rfl) (by kernel_rfl) (by kernel_rfl) (fun _ _ _ h => h) (Or.inr ⟨by kernel_rfl, rfl⟩) gq7 ?_
        simp only [Act.put, List.setIfInBounds_toArray, List.set_cons_succ, List.set_cons_zero]
        refine wpAnyH_takeD (some 34) (i := 24) (v := undef) rfl rfl (by kernel_rfl) (by kernel_rfl) (by kernel_rfl) (fun _ _ _ h => h) (Or.inr ⟨by kernel_rfl, rfl⟩) gq7 ?_
        simp only [Act.put, List.setIfInBounds_toArray, List.set_cons_succ, List.set_cons_zero]
        refine wpAnyH_takeD (some 35) (i := 25) (v := undef) rfl rfl (by kernel_rfl) (by kernel_rfl) (by kernel_rfl) (fun _ _ _ h => h) (Or.inr ⟨by kernel_rfl, rfl⟩) gq7 ?_
        simp only [Act.put, List.setIfInBounds_toArray, List.set_cons_succ, List.set_cons_zero]
        refine wpAnyH_takeD (some 36) (i := 26) (v := undef) rfl rfl (by kernel_rfl) (by kernel_rfl) (by kernel_rfl) (fun _ _ _ h => h) (Or.inr ⟨by kernel_rfl, rfl⟩) gq7 ?_
        simp only [Act.put, List.setIfInBounds_toArray, List.set_cons_succ, List.set_cons_zero]
        refine wpAnyH_takeD (some 37) (i := 27) (v := undef) rfl rfl (by kernel_rfl) (by kernel_rfl) (by kernel_rfl) (fun _ _ _ h => h) (Or.inr ⟨by kernel_rfl, rfl⟩) gq7 ?_
        simp only [Act.put, List.setIfInBounds_toArray, List.set_cons_succ, List.set_cons_zero]
        refine wpAnyH_takeD (some 38) (i := 28) (v := undef) rfl rfl (by kernel_rfl) (by kernel_rfl) (by kernel_rfl) (fun _ _ _ h => h) (Or.inr ⟨by kernel_rfl, rfl⟩) gq7 ?_
        simp only [Act.put, List.setIfInBounds_toArray, List.set_cons_succ, List.set_cons_zero]
        refine wpAnyH_takeD (some 39) (i := 29) (v := undef) rfl rfl (by kernel_rfl) (by kernel_rfl) (by kernel_rfl) (fun _ _ _ h => h) (Or.inr ⟨by kernel_rfl, rfl⟩) gq7 ?_
        simp only [Act.put, List.setIfInBounds_toArray, List.set_cons_succ, List.set_cons_zero]
        refine wpAnyH_takeD (some 40) (i := 30) (v := undef) rfl rfl (by kernel_rfl) (by kernel_rfl) (by kernel_rfl) (fun _ _ _ h => h) (Or.inr ⟨by kernel_rfl, rfl⟩) gq7 ?_
        simp only [Act.put, List.setIfInBounds_toArray, List.set_cons_succ, List.set_cons_zero]
        refine wpAnyH_takeD (some 41) (i := 31) (v := undef) rfl rfl (by kernel_rfl) (by kernel_rfl) (by kernel_rfl) (fun _ _ _ h => h) (Or.inr ⟨by kernel_rfl, rfl⟩) gq7 ?_
        simp only [Act.put, List.setIfInBounds_toArray, List.set_cons_succ, List.set_cons_zero]
        refine wpAnyH_takeD (some 42) (i := 32) (v := undef) rfl rfl (by kernel_rfl) (by kernel_rfl) (by kernel_rfl) (fun _ _ _ h => h) (Or.inr ⟨by kernel_rfl, rfl⟩) gq7 ?_
        simp only [Act.put, List.setIfInBounds_toArray, List.set_cons_succ, List.set_cons_zero]
        refine wpAnyH_takeD (some 43) (i := 33) (v := undef) rfl rfl (by kernel_rfl) (by kernel_rfl) (by kernel_rfl) (fun _ _ _ h => h) (Or.inr ⟨by kernel_rfl, rfl⟩) gq7 ?_
        simp only [Act.put, List.setIfInBounds_toArray, List.set_cons_succ, List.set_cons_zero]
        refine wpAnyH_takeD (some 44) (i := 34) (v := undef) rfl rfl (by kernel_rfl) (by kernel_rfl) (by kernel_rfl) (fun _ _ _ h => h) (Or.inr ⟨by kernel_rfl, rfl⟩) gq7 ?_
        simp only [Act.put, List.setIfInBounds_toArray, List.set_cons_succ, List.set_cons_zero]
        refine wpAnyH_takeD (some 45) (i := 35) (v := undef) rfl rfl (by kernel_rfl) (by kernel_rfl) (by kernel_rfl) (fun _ _ _ h => h) (Or.inr ⟨by kernel_rfl, rfl⟩) gq7 ?_
        simp only [Act.put, List.setIfInBounds_toArray, List.set_cons_succ, List.set_cons_zero]
        refine wpAnyH_takeD (some 46) (i := 36) (v := undef) rfl rfl (by kernel_rfl) (by kernel_rfl) (by kernel_rfl) (fun _ _ _ h => h) (Or.inr ⟨by kernel_rfl, rfl⟩) gq7 ?_
        simp only [Act.put, List.setIfInBounds_toArray, List.set_cons_succ, List.set_cons_zero]
        refine wpAnyH_takeD (some 47) (i := 37) (v := undef) rfl rfl (by kernel_rfl) (by kernel_rfl) (by kernel_rfl) (fun _ _ _ h => h) (Or.inr ⟨by kernel_rfl, rfl⟩) gq7 ?_
        simp only [Act.put, List.setIfInBounds_toArray, List.set_cons_succ, List.set_cons_zero]
        refine wpAnyH_takeD (some 48) (i := 38) (v := undef) rfl rfl (by kernel_rfl) (by kernel_rfl) (by kernel_rfl) (fun _ _ _ h => h) (Or.inr ⟨by kernel_rfl, rfl⟩) gq7 ?_
        simp only [Act.put, List.setIfInBounds_toArray, List.set_cons_succ, List.set_cons_zero]
        refine wpAnyH_takeD (some 49) (i := 39) (v := undef) rfl rfl (by kernel_rfl) (by kernel_rfl) (by kernel_rfl) (fun _ _ _ h => h) (Or.inr ⟨by kernel_rfl, rfl⟩) gq7 ?_
        simp only [Act.put, List.setIfInBounds_toArray, List.set_cons_succ, List.set_cons_zero]
        refine wpAnyH_takeD (some 50) (i := 40) (v := undef) rfl rfl (by kernel_rfl) (by kernel_rfl) (by kernel_rfl) (fun _ _ _ h => h) (Or.inr ⟨by kernel_rfl, rfl⟩) gq7 ?_
        simp only [Act.put, List.setIfInBounds_toArray, List.set_cons_succ, List.set_cons_zero]
        refine wpAnyH_takeD (some 51) (i := 41) (v := (.bool false)) rfl rfl (by kernel_rfl) (by kernel_rfl) (by kernel_rfl) (fun _ _ _ h => h) (Or.inl ⟨rfl, fun _ _ => by go_simp⟩) gq7 ?_
        simp only [Act.put, List.setIfInBounds_toArray, List.set_cons_succ, List.set_cons_zero]
        refine wpAnyH_takeD (some 52) (i := 42) (v := (.bool false)) rfl rfl (by kernel_rfl) (by kernel_rfl) (by kernel_rfl) (fun _ _ _ h => h) (Or.inl ⟨rfl, fun _ _ => by go_simp⟩) gq7 ?_
        simp only [Act.put, List.setIfInBounds_toArray, List.set_cons_succ, List.set_cons_zero]
        refine wpAnyH_done (by kernel_rfl) ?_ _
        have HE := Lib.hid (grown_trans HG.out gq7)
        have HOK2 : Hid (∀ k, k < 0 + 1 → memOk fm k = true) := Lib.hid (fun k hk => by
          by_cases e : k = 0
          · subst e; exact by unfold memOk; rw [HM.out]; rfl
          · exact HOK.out k (by omega))
        have HW := Lib.hid (show wrap64 (((0 : Nat) : Int) + 1) = ((0 + 1 : Nat) : Int) by have := HLT.out; have := HN.out; unfold wrap64; omega)
        have HW2 := HW
        clear gq7
        go_wp2_with fail
        go_roundw
        case rel => exact ⟨0 + 1, HLT.out, by first | rfl | rw [HW.out] | rw [HW2.out], HOK2.out, HE.out⟩
        case measure => exact meas_lt n (0) _ (by first | rfl | rw [HW.out] | rw [HW2.out]) HLT.out
      · obtain ⟨i', rfl⟩ : ∃ k, i = k + 1 := ⟨i - 1, by omega⟩
        have HIB := Lib.hid (show (i' : Int) < (n : Int) by have := HLT.out; omega)
        have hF0 := HF.out (i' + 1) 0
        have hF1 := HF.out (i' + 1) 1
        have hP0 := HF.out i' 0
        have hP1 := HF.out i' 1
        obtain ⟨x0, hx0⟩ : ∃ x, x = fm (i' + 1) 0 := ⟨_, rfl⟩
        obtain ⟨x1, hx1⟩ : ∃ x, x = fm (i' + 1) 1 := ⟨_, rfl⟩
        obtain ⟨y0, hy0⟩ : ∃ x, x = fm i' 0 := ⟨_, rfl⟩
        obtain ⟨y1, hy1⟩ : ∃ x, x = fm i' 1 := ⟨_, rfl⟩
        have HX := Lib.hid (show (x0 < 256 ∧ x1 < 256) ∧ (y0 < 256 ∧ y1 < 256) by omega)
        have HLA : Hid (∀ W, wr.grownBy W none → (W.cell? ⟨tb, o + (i' + 1) * 2, none⟩ = some (.int .u8 x0) ∧ W.cell? ⟨tb, o + (i' + 1) * 2 + 1, none⟩ = some (.int .u8 x1)) ∧ W.cell? ⟨tb, o + i' * 2, none⟩ = some (.int .u8 y0) ∧ W.cell? ⟨tb, o + i' * 2 + 1, none⟩ = some (.int .u8 y1)) := Lib.hid (fun W hW => by
          rw [hx0, hx1, hy0, hy1]
          exact ⟨HCL.out (i' + 1) HLT.out W hW, HCL.out i' (by have := HLT.out; omega) W hW⟩)
        have HMO : Hid (memOk fm (i' + 1) = !decide (256 * x0 + x1 ≤ 256 * y0 + y1)) := Lib.hid (by
          unfold memOk
          rw [HM.out, decide_eq_false (show ¬ i' + 1 = 0 by omega), Bool.false_or, Nat.add_sub_cancel, cmpD_lt _ _ (HF.out i') (HF.out (i' + 1))]
          unfold devQ
          rw [← hx0, ← hx1, ← hy0, ← hy1]
          rfl)
        clear hF0 hF1 hP0 hP1 hx0 hx1 hy0 hy1
        refine wpAnyH_takeD (some 17) (i := 7) (v := (.int .i64 (i' + 1 : Nat))) rfl rfl (by kernel_rfl) (by kernel_rfl) (by kernel_rfl) (fun _ _ _ h => h) (Or.inl ⟨rfl, fun _ _ => rfl⟩) gq7 ?_
        simp only [Act.put, List.setIfInBounds_toArray, List.set_cons_succ, List.set_cons_zero]
        refine wpAnyH_takeD (some 18) (i := 8) (v := (.bool true)) rfl rfl (by kernel_rfl) (by kernel_rfl) (by kernel_rfl) (fun _ _ _ h => h) (Or.inl ⟨rfl, fun _ _ => by unfold execOp; go_simp⟩) gq7 ?_
        simp only [Act.put, List.setIfInBounds_toArray, List.set_cons_succ, List.set_cons_zero]
        refine wpAnyH_takeD (some 19) (i := 9) (v := (.bool true)) rfl rfl (by kernel_rfl) (by kernel_rfl) (by kernel_rfl) (fun _ _ _ h => h) (Or.inl ⟨rfl, fun _ _ => rfl⟩) gq7 ?_
        simp only [Act.put, List.setIfInBounds_toArray, List.set_cons_succ, List.set_cons_zero]
        refine wpAnyH_takeD (some 20) (i := 10) (v := (.slice (some ⟨tb, o, none⟩) n c)) rfl rfl (by kernel_rfl) (by kernel_rfl) (by kernel_rfl) (fun _ _ _ h => h) (Or.inl ⟨rfl, fun _ _ => rfl⟩) gq7 ?_
        simp only [Act.put, List.setIfInBounds_toArray, List.set_cons_succ, List.set_cons_zero]
        refine wpAnyH_takeD (some 21) (i := 11) (v := (.int .i64 (i' + 1 : Nat))) rfl rfl (by kernel_rfl) (by kernel_rfl) (by kernel_rfl) (fun _ _ _ h => h) (Or.inl ⟨rfl, fun _ _ => rfl⟩) gq7 ?_
        simp only [Act.put, List.setIfInBounds_toArray, List.set_cons_succ, List.set_cons_zero]
        refine wpAnyH_takeD (some 22) (i := 12) (v := (.pointer (some ⟨tb, o + (i' + 1) * 2, none⟩))) rfl rfl (by kernel_rfl) (by kernel_rfl) (by kernel_rfl) (fun _ _ _ h => h) (Or.inl ⟨rfl, fun _ _ => by have h1 := HIB.out; have h2 : (i' : Int) + 1 < (n : Int) := (by have := HLT.out; omega); have h3 : ¬ (i' : Int) + 1 < 0 := (by omega); unfold execOp; go_simp⟩) gq7 ?_
        simp only [Act.put, List.setIfInBounds_toArray, List.set_cons_succ, List.set_cons_zero]
        refine wpAnyH_takeD (some 23) (i := 13) (v := (.pointer (some ⟨tb, o + (i' + 1) * 2, none⟩))) rfl rfl (by kernel_rfl) (by kernel_rfl) (by kernel_rfl) (fun _ _ _ h => h) (Or.inl ⟨rfl, fun _ _ => by unfold execOp; go_simp⟩) gq7 ?_
        simp only [Act.put, List.setIfInBounds_toArray, List.set_cons_succ, List.set_cons_zero]
        refine wpAnyH_takeD (some 24) (i := 14) (v := (.int .u8 x0)) rfl rfl (by kernel_rfl) (by kernel_rfl) (by kernel_rfl) (fun _ _ _ h => h) (Or.inl ⟨rfl, fun W hW => exec_loadQ (.tmp 23) _ _ rfl rfl (load_u8M (HLA.out W hW).1.1)⟩) gq7 ?_
        simp only [Act.put, List.setIfInBounds_toArray, List.set_cons_succ, List.set_cons_zero]
        refine wpAnyH_takeD (some 25) (i := 15) (v := (.int .i64 x0)) rfl rfl (by kernel_rfl) (by kernel_rfl) (by kernel_rfl) (fun _ _ _ h => h) (Or.inl ⟨rfl, fun _ _ => by have := HX.out; unfold execOp; go_simp; first | done | (rw [IntKind.wrap_i64]; omega)⟩) gq7 ?_
        simp only [Act.put, List.setIfInBounds_toArray, List.set_cons_succ, List.set_cons_zero]
        refine wpAnyH_takeD (some 26) (i := 16) (v := (.int .i64 (256 * x0 : Nat))) rfl rfl (by kernel_rfl) (by kernel_rfl) (by kernel_rfl) (fun _ _ _ h => h) (Or.inl ⟨rfl, fun _ _ => by have := HX.out; unfold execOp; go_simp; first | done | (rw [IntKind.wrap_i64]; omega)⟩) gq7 ?_
        simp only [Act.put, List.setIfInBounds_toArray, List.set_cons_succ, List.set_cons_zero]
        refine wpAnyH_takeD (some 27) (i := 17) (v := (.slice (some ⟨tb, o, none⟩) n c)) rfl rfl (by kernel_rfl) (by kernel_rfl) (by kernel_rfl) (fun _ _ _ h => h) (Or.inl ⟨rfl, fun _ _ => rfl⟩) gq7 ?_
        simp only [Act.put, List.setIfInBounds_toArray, List.set_cons_succ, List.set_cons_zero]
        refine wpAnyH_takeD (some 28) (i := 18) (v := (.int .i64 (i' + 1 : Nat))) rfl rfl (by kernel_rfl) (by kernel_rfl) (by kernel_rfl) (fun _ _ _ h => h) (Or.inl ⟨rfl, fun _ _ => rfl⟩) gq7 ?_
        simp only [Act.put, List.setIfInBounds_toArray, List.set_cons_succ, List.set_cons_zero]
        refine wpAnyH_takeD (some 29) (i := 19) (v := (.pointer (some ⟨tb, o + (i' + 1) * 2, none⟩))) rfl rfl (by kernel_rfl) (by kernel_rfl) (by kernel_rfl) (fun _ _ _ h => h) (Or.inl ⟨rfl, fun _ _ => by have h1 := HIB.out; have h2 : (i' : Int) + 1 < (n : Int) := (by have := HLT.out; omega); have h3 : ¬ (i' : Int) + 1 < 0 := (by omega); unfold execOp; go_simp⟩) gq7 ?_
        simp only [Act.put, List.setIfInBounds_toArray, List.set_cons_succ, List.set_cons_zero]
        refine wpAnyH_takeD (some 30) (i := 20) (v := (.pointer (some ⟨tb, o + (i' + 1) * 2 + 1, none⟩))) rfl rfl (by kernel_rfl) (by kernel_rfl) (by kernel_rfl) (fun _ _ _ h => h) (Or.inl ⟨rfl, fun _ _ => by unfold execOp; go_simp⟩) gq7 ?_
        simp only [Act.put, List.setIfInBounds_toArray, List.set_cons_succ, List.set_cons_zero]
        refine wpAnyH_takeD (some 31) (i := 21) (v := (.int .u8 x1)) rfl rfl (by kernel_rfl) (by kernel_rfl) (by kernel_rfl) (fun _ _ _ h => h) (Or.inl ⟨rfl, fun W hW => exec_loadQ (.tmp 30) _ _ rfl rfl (load_u8M (HLA.out W hW).1.2)⟩) gq7 ?_
        simp only [Act.put, List.setIfInBounds_toArray, List.set_cons_succ, List.set_cons_zero]
        refine wpAnyH_takeD (some 32) (i := 22) (v := (.int .i64 x1)) rfl rfl (by kernel_rfl) (by kernel_rfl) (by kernel_rfl) (fun _ _ _ h => h) (Or.inl ⟨rfl, fun _ _ => by have := HX.out; unfold execOp; go_simp; first | done | (rw [IntKind.wrap_i64]; omega)⟩) gq7 ?_
        simp only [Act.put, List.setIfInBounds_toArray, List.set_cons_succ, List.set_cons_zero]
        refine wpAnyH_takeD (some 33) (i := 23) (v := (.int .i64 (256 * x0 + x1 : Nat))) rfl rfl (by kernel_rfl) (by kernel_rfl) (by kernel_rfl) (fun _ _ _ h => h) (Or.inl ⟨rfl, fun _ _ => by have := HX.out; unfold execOp; go_simp; first | done | (rw [IntKind.wrap_i64]; omega)⟩) gq7 ?_
        simp only [Act.put, List.setIfInBounds_toArray, List.set_cons_succ, List.set_cons_zero]
        refine wpAnyH_takeD (some 34) (i := 24) (v := (.slice (some ⟨tb, o, none⟩) n c)) rfl rfl (by kernel_rfl) (by kernel_rfl) (by kernel_rfl) (fun _ _ _ h => h) (Or.inl ⟨rfl, fun _ _ => rfl⟩) gq7 ?_
        simp only [Act.put, List.setIfInBounds_toArray, List.set_cons_succ, List.set_cons_zero]
        refine wpAnyH_takeD (some 35) (i := 25) (v := (.int .i64 (i' + 1 : Nat))) rfl rfl (by kernel_rfl) (by kernel_rfl) (by kernel_rfl) (fun _ _ _ h => h) (Or.inl ⟨rfl, fun _ _ => rfl⟩) gq7 ?_
        simp only [Act.put, List.setIfInBounds_toArray, List.set_cons_succ, List.set_cons_zero]
        refine wpAnyH_takeD (some 36) (i := 26) (v := (.int .i64 i')) rfl rfl (by kernel_rfl) (by kernel_rfl) (by kernel_rfl) (fun _ _ _ h => h) (Or.inl ⟨rfl, fun _ _ => by have := HIB.out; have := HN.out; unfold execOp; go_simp; first | done | (rw [IntKind.wrap_i64]; omega)⟩) gq7 ?_
        simp only [Act.put, List.setIfInBounds_toArray, List.set_cons_succ, List.set_cons_zero]
        refine wpAnyH_takeD (some 37) (i := 27) (v := (.pointer (some ⟨tb, o + i' * 2, none⟩))) rfl rfl (by kernel_rfl) (by kernel_rfl) (by kernel_rfl) (fun _ _ _ h => h) (Or.inl ⟨rfl, fun _ _ => by have h1 := HIB.out; have h2 : (i' : Int) + 1 < (n : Int) := (by have := HLT.out; omega); have h3 : ¬ (i' : Int) + 1 < 0 := (by omega); unfold execOp; go_simp⟩) gq7 ?_
        simp only [Act.put, List.setIfInBounds_toArray, List.set_cons_succ, List.set_cons_zero]
        refine wpAnyH_takeD (some 38) (i := 28) (v := (.pointer (some ⟨tb, o + i' * 2, none⟩))) rfl rfl (by kernel_rfl) (by kernel_rfl) (by kernel_rfl) (fun _ _ _ h => h) (Or.inl ⟨rfl, fun _ _ => by unfold execOp; go_simp⟩) gq7 ?_
        simp only [Act.put, List.setIfInBounds_toArray, List.set_cons_succ, List.set_cons_zero]
        refine wpAnyH_takeD (some 39) (i := 29) (v := (.int .u8 y0)) rfl rfl (by kernel_rfl) (by kernel_rfl) (by kernel_rfl) (fun _ _ _ h => h) (Or.inl ⟨rfl, fun W hW => exec_loadQ (.tmp 38) _ _ rfl rfl (load_u8M (HLA.out W hW).2.1)⟩) gq7 ?_
        simp only [Act.put, List.setIfInBounds_toArray, List.set_cons_succ, List.set_cons_zero]
        refine wpAnyH_takeD (some 40) (i := 30) (v := (.int .i64 y0)) rfl rfl (by kernel_rfl) (by kernel_rfl) (by kernel_rfl) (fun _ _ _ h => h) (Or.inl ⟨rfl, fun _ _ => by have := HX.out; unfold execOp; go_simp; first | done | (rw [IntKind.wrap_i64]; omega)⟩) gq7 ?_
        simp only [Act.put, List.setIfInBounds_toArray, List.set_cons_succ, List.set_cons_zero]
        refine wpAnyH_takeD (some 41) (i := 31) (v := (.int .i64 (256 * y0 : Nat))) rfl rfl (by kernel_rfl) (by kernel_rfl) (by kernel_rfl) (fun _ _ _ h => h) (Or.inl ⟨rfl, fun _ _ => by have := HX.out; unfold execOp; go_simp; first | done | (rw [IntKind.wrap_i64]; omega)⟩) gq7 ?_
        simp only [Act.put, List.setIfInBounds_toArray, List.set_cons_succ, List.set_cons_zero]
        refine wpAnyH_takeD (some 42) (i := 32) (v := (.slice (some ⟨tb, o, none⟩) n c)) rfl rfl (by kernel_rfl) (by kernel_rfl) (by kernel_rfl) (fun _ _ _ h => h) (Or.inl ⟨rfl, fun _ _ => rfl⟩) gq7 ?_
        simp only [Act.put, List.setIfInBounds_toArray, List.set_cons_succ, List.set_cons_zero]
        refine wpAnyH_takeD (some 43) (i := 33) (v := (.int .i64 (i' + 1 : Nat))) rfl rfl (by kernel_rfl) (by kernel_rfl) (by kernel_rfl) (fun _ _ _ h => h) (Or.inl ⟨rfl, fun _ _ => rfl⟩) gq7 ?_
        simp only [Act.put, List.setIfInBounds_toArray, List.set_cons_succ, List.set_cons_zero]
        refine wpAnyH_takeD (some 44) (i := 34) (v := (.int .i64 i')) rfl rfl (by kernel_rfl) (by kernel_rfl) (by kernel_rfl) (fun _ _ _ h => h) (Or.inl ⟨rfl, fun _ _ => by have := HIB.out; have := HN.out; unfold execOp; go_simp; first | done | (rw [IntKind.wrap_i64]; omega)⟩) gq7 ?_
        simp only [Act.put, List.setIfInBounds_toArray, List.set_cons_succ, List.set_cons_zero]
        refine wpAnyH_takeD (some 45) (i := 35) (v := (.pointer (some ⟨tb, o + i' * 2, none⟩))) rfl rfl (by kernel_rfl) (by kernel_rfl) (by kernel_rfl) (fun _ _ _ h => h) (Or.inl ⟨rfl, fun _ _ => by have h1 := HIB.out; have h2 : (i' : Int) + 1 < (n : Int) := (by have := HLT.out; omega); have h3 : ¬ (i' : Int) + 1 < 0 := (by omega); unfold execOp; go_simp⟩) gq7 ?_
        simp only [Act.put, List.setIfInBounds_toArray, List.set_cons_succ, List.set_cons_zero]
        refine wpAnyH_takeD (some 46) (i := 36) (v := (.pointer (some ⟨tb, o + i' * 2 + 1, none⟩))) rfl rfl (by kernel_rfl) (by kernel_rfl) (by kernel_rfl) (fun _ _ _ h => h) (Or.inl ⟨rfl, fun _ _ => by unfold execOp; go_simp⟩) gq7 ?_
        simp only [Act.put, List.setIfInBounds_toArray, List.set_cons_succ, List.set_cons_zero]
        refine wpAnyH_takeD (some 47) (i := 37) (v := (.int .u8 y1)) rfl rfl (by kernel_rfl) (by kernel_rfl) (by kernel_rfl) (fun _ _ _ h => h) (Or.inl ⟨rfl, fun W hW => exec_loadQ (.tmp 46) _ _ rfl rfl (load_u8M (HLA.out W hW).2.2)⟩) gq7 ?_
        simp only [Act.put, List.setIfInBounds_toArray, List.set_cons_succ, List.set_cons_zero]
        refine wpAnyH_takeD (some 48) (i := 38) (v := (.int .i64 y1)) rfl rfl (by kernel_rfl) (by kernel_rfl) (by kernel_rfl) (fun _ _ _ h => h) (Or.inl ⟨rfl, fun _ _ => by have := HX.out; unfold execOp; go_simp; first | done | (rw [IntKind.wrap_i64]; omega)⟩) gq7 ?_
        simp only [Act.put, List.setIfInBounds_toArray, List.set_cons_succ, List.set_cons_zero]
        refine wpAnyH_takeD (some 49) (i := 39) (v := (.int .i64 (256 * y0 + y1 : Nat))) rfl rfl (by kernel_rfl) (by kernel_rfl) (by kernel_rfl) (fun _ _ _ h => h) (Or.inl ⟨rfl, fun _ _ => by have := HX.out; unfold execOp; go_simp; first | done | (rw [IntKind.wrap_i64]; omega)⟩) gq7 ?_
        simp only [Act.put, List.setIfInBounds_toArray, List.set_cons_succ, List.set_cons_zero]
        by_cases hcv : 256 * x0 + x1 ≤ 256 * y0 + y1
        · have HMY : Hid (memOk fm (i' + 1) = false) := Lib.hid (by rw [HMO.out, decide_eq_true hcv]; rfl)
          have HJ := Lib.hid hcv
          clear hcv
          refine wpAnyH_takeD (some 50) (i := 40) (v := (.bool true)) rfl rfl (by kernel_rfl) (by kernel_rfl) (by kernel_rfl) (fun _ _ _ h => h) (Or.inl ⟨rfl, fun _ _ => by have := HJ.out; unfold execOp; go_simp; first | done | omega⟩) gq7 ?_
          simp only [Act.put, List.setIfInBounds_toArray, List.set_cons_succ, List.set_cons_zero]
          refine wpAnyH_takeD (some 51) (i := 41) (v := (.bool true)) rfl rfl (by kernel_rfl) (by kernel_rfl) (by kernel_rfl) (fun _ _ _ h => h) (Or.inl ⟨rfl, fun _ _ => by go_simp⟩) gq7 ?_
          simp only [Act.put, List.setIfInBounds_toArray, List.set_cons_succ, List.set_cons_zero]
          refine wpAnyH_takeD (some 52) (i := 42) (v := (.bool true)) rfl rfl (by kernel_rfl) (by kernel_rfl) (by kernel_rfl) (fun _ _ _ h => h) (Or.inl ⟨rfl, fun _ _ => by go_simp⟩) gq7 ?_
          simp only [Act.put, List.setIfInBounds_toArray, List.set_cons_succ, List.set_cons_zero]
          refine wpAnyH_done (by kernel_rfl) ?_ _
          have HE := Lib.hid (grown_trans HG.out gq7)
          have HMY : Hid (memMay n fm = false) := Lib.hid (memMay_no HLT.out (HMY.out))
          clear gq7
          go_wp2_with fail
          go_ret
          exact ⟨by rw [HMY.out]; rfl, HE.out⟩
        · have HMY : Hid (memOk fm (i' + 1) = true) := Lib.hid (by rw [HMO.out, decide_eq_false hcv]; rfl)
          have HJ := Lib.hid hcv
          clear hcv
          refine wpAnyH_takeD (some 50) (i := 40) (v := (.bool false)) rfl rfl (by kernel_rfl) (by kernel_rfl) (by kernel_rfl) (fun _ _ _ h => h) (Or.inl ⟨rfl, fun _ _ => by have := HJ.out; unfold execOp; go_simp; first | done | omega⟩) gq7 ?_
          simp only [Act.put, List.setIfInBounds_toArray, List.set_cons_succ, List.set_cons_zero]
          refine wpAnyH_takeD (some 51) (i := 41) (v := (.bool false)) rfl rfl (by kernel_rfl) (by kernel_rfl) (by kernel_rfl) (fun _ _ _ h => h) (Or.inl ⟨rfl, fun _ _ => by go_simp⟩) gq7 ?_
          simp only [Act.put, List.setIfInBounds_toArray, List.set_cons_succ, List.set_cons_zero]
          refine wpAnyH_takeD (some 52) (i := 42) (v := (.bool false)) rfl rfl (by kernel_rfl) (by kernel_rfl) (by kernel_rfl) (fun _ _ _ h => h) (Or.inl ⟨rfl, fun _ _ => by go_simp⟩) gq7 ?_
          simp only [Act.put, List.setIfInBounds_toArray, List.set_cons_succ, List.set_cons_zero]
          refine wpAnyH_done (by kernel_rfl) ?_ _
          have HE := Lib.hid (grown_trans HG.out gq7)
          have HOK2 : Hid (∀ k, k < i' + 1 + 1 → memOk fm k = true) := Lib.hid (fun k hk => by
            by_cases e : k = i' + 1
            · subst e; exact HMY.out
            · exact HOK.out k (by omega))
          have HW := Lib.hid (show wrap64 (((i' + 1 : Nat) : Int) + 1) = ((i' + 1 + 1 : Nat) : Int) by have := HLT.out; have := HN.out; unfold wrap64; omega)
          have HW2 := Lib.hid (show wrap64 ((i' : Int) + 1 + 1) = ((i' + 1 + 1 : Nat) : Int) by have := HLT.out; have := HN.out; unfold wrap64; omega)
          clear gq7
          go_wp2_with fail
          go_roundw
          case rel => exact ⟨i' + 1 + 1, HLT.out, by first | rfl | rw [HW.out] | rw [HW2.out], HOK2.out, HE.out⟩
          case measure => exact meas_lt n (i' + 1) _ (by first | rfl | rw [HW.out] | rw [HW2.out]) HLT.out
end Go.Proofs.Ytdagbighlgfhjaa
namespace Go.Proofs.Ytdagbighlgfhjaa
open Go.RowKit

set_option maxRecDepth 100000
set_option maxHeartbeats 4000000

def RV.head (x : RV) : Nat → Nat := cat 24 (cat 16 x.id (nbF x.ep 8)) (nbF x.nm 2)
theorem refRosBytes_any (D : Nat) (x : RV) (fm : Nat → Nat → Nat) (w : World) (hx : x.ep < 18446744073709551616) (hR : RdD w D x.am x.nm fm) (hF : ∀ i j, fm i j < 256) (hn : x.nm ≤ 1048576) : Calls Try.prog 18 #[.agg (rowOf 18 x.v)] w (GaveB2 w x.len (x.bytes fm) (memMay x.nm fm)) := by
  have hX := RowAt.new w 33 18 x.v _ rfl
  have hg := World.grownBy_alloc w (.cells (rowOf 18 x.v) 33) none
  have hz := World.size_alloc w (.cells (rowOf 18 x.v) 33)
  have HRX := Lib.hid hR
  have HNB := Lib.hid hn
  have HFF := Lib.hid hF
  have HEP := Lib.hid hx
  have HWR := Lib.hid (show IntKind.u64.wrap (x.nm : Int) = (x.nm : Int) by rw [IntKind.wrap_u64]; omega)
  clear hR hn hF hx
  go_enter Try.func18, Try.ntmps18
  go_upto_region 1 with fail
  obtain ⟨R, hRR⟩ : ∃ R, R = w.heap.size := ⟨_, rfl⟩
  generalize w.alloc (.cells (rowOf 18 x.v) 33) = w1 at *
  rw [← hRR] at hX hz ⊢
  have HG := Lib.hid hg
  have HZ := Lib.hid hz
  have HRR := Lib.hid hRR
  have HXX := Lib.hid hX
  clear hg hz hRR hX
  refine wp_region_held (S := fun W => w1.grownBy W none) (by kernel_rfl) ?_
  change wpAnyH _ _ _ _ _ 8 #[false, false, false, false, false, false, false, false] _ (World.drew _)
  have gq := grown_drew (grown_refl w1 none)
  generalize World.drew w1 = q1 at *
  refine wpAnyH_takeD (some 6) (i := 0) (v := (.pointer (some ⟨R, 0, none⟩))) rfl rfl (by kernel_rfl) (by kernel_rfl) (by kernel_rfl) (fun _ _ _ h => h) (Or.inl ⟨rfl, fun _ _ => by go_simp⟩) gq ?_
  simp only [Act.put, List.setIfInBounds_toArray, List.set_cons_succ, List.set_cons_zero]
  refine wpAnyH_takeD (some 7) (i := 1) (v := (.agg (cellsOf .u8 16 x.id))) rfl rfl (by kernel_rfl) (by kernel_rfl) (by kernel_rfl) (fun _ _ _ h => h) (Or.inl ⟨rfl, fun W hW => exec_loadQ (.tmp 6) _ _ rfl rfl ((HXX.out.grown hW (by simp)).load (P := Try.prog) 0 23 16 (fun j => .int .u8 (x.id j)) (by decide) x.v_id (by kernel_rfl) (by kernel_rfl))⟩) gq ?_
  simp only [Act.put, List.setIfInBounds_toArray, List.set_cons_succ, List.set_cons_zero]
  refine wpAnyH_takeD (some 9) (i := 3) (v := (.pointer (some ⟨R, 16, none⟩))) rfl rfl (by kernel_rfl) (by kernel_rfl) (by kernel_rfl) (fun _ _ _ h => h) (Or.inl ⟨rfl, fun _ _ => by go_simp⟩) gq ?_
  simp only [Act.put, List.setIfInBounds_toArray, List.set_cons_succ, List.set_cons_zero]
  refine wpAnyH_takeD (some 10) (i := 4) (v := (.int .u64 x.ep)) rfl rfl (by kernel_rfl) (by kernel_rfl) (by kernel_rfl) (fun _ _ _ h => h) (Or.inl ⟨rfl, fun W hW => exec_loadQ (.tmp 9) _ _ rfl rfl (load_u64Q ((HXX.out.grown hW (by simp)).cell 16 (by decide)))⟩) gq ?_
  simp only [Act.put, List.setIfInBounds_toArray, List.set_cons_succ, List.set_cons_zero]
  refine wpAnyH_callD (some 8) (i := 2) 59 #[.agg (cellsOf .u8 16 x.id)] (R := fun v W => OwnN W w1.heap.size v 16 x.id ∧ q1.grownBy W none) (by kernel_rfl) rfl rfl rfl (exec_fn1 _ _ _ rfl rfl) idQ_enters ((sgId_any x.id q1).mono fun e W' h => by
    obtain ⟨v, rfl, hO, hg⟩ := h.ex
    exact ⟨v, rfl, hO.base gq.size, hg⟩) ?_
  rintro v w2 ⟨hO_w2, hg_w2⟩
  have hG_w2 := grown_trans gq hg_w2
  refine ⟨hG_w2, ?_⟩
  simp only [Act.put, List.setIfInBounds_toArray, List.set_cons_succ, List.set_cons_zero]
  obtain ⟨a2, c2, rfl, _, _⟩ := hO_w2.rd
  refine wpAnyH_callD (some 11) (i := 5) 60 #[.int .u64 x.ep, .int .i64 (8 : Nat)] (R := fun v W => ∃ b, v = .slice (some ⟨b, 0, none⟩) 8 8 ∧ Rd W W.heap.size (some ⟨b, 0, none⟩) 8 (nbF x.ep 8) ∧ w2.grownBy W none) (by kernel_rfl) rfl rfl rfl (exec_fn2 _ _ _ _ _ rfl rfl rfl) numberQ_enters ((sgNumber_any x.ep 8 HEP.out (by decide) (by decide) w2).mono fun e W' h => by
    obtain ⟨b, rfl, _, hF⟩ := h.ex
    exact ⟨_, rfl, b, rfl, (hF.own (by decide)).rd, h.gr⟩) ?_
  rintro v w3 ⟨b_w3, rfl, hR_w3, hg_w3⟩
  have hG_w3 := grown_trans hG_w2 hg_w3
  refine ⟨hG_w3, ?_⟩
  simp only [Act.put, List.setIfInBounds_toArray, List.set_cons_succ, List.set_cons_zero]
  obtain ⟨a_w4, c_w4, w4, hap, hO_w4, hG_w4, _⟩ := app_N1 8 39 hG_w3 (hO_w2.grown hg_w3) hR_w3 (by omega)
  refine wpAnyH_yieldD (some 12) (i := 6) (v := .slice a_w4 24 c_w4) (by kernel_rfl) rfl rfl rfl (exec_appendQ (.tmp 8) (.tmp 11) _ _ _ rfl rfl rfl rfl hap) hG_w4 ?_
  simp only [Act.put, List.setIfInBounds_toArray, List.set_cons_succ, List.set_cons_zero]
  clear hap
  refine wpAnyH_yieldD (some 4) (i := 7) (v := .slice a_w4 24 c_w4) (by kernel_rfl) rfl rfl rfl rfl hG_w4 ?_
  simp only [Act.put, List.setIfInBounds_toArray, List.set_cons_succ, List.set_cons_zero]
  refine wpAnyH_done (by kernel_rfl) ?_ _
  have HO4 := Lib.hid hO_w4
  have HG4 := Lib.hid hG_w4
  clear hO_w2 hg_w2 hG_w2 hR_w3 hg_w3 hG_w3 gq hO_w4 hG_w4
  have c17 : w4.cell? ⟨R, 17, none⟩ = some (.slice x.am x.nm x.cm) := (HXX.out.grown HG4.out (by simp)).cell 17 (by decide)
  have hwr := HWR.out
  have HN := Lib.hid (sgNumber_any x.nm 2 (by have := HNB.out; omega) (by decide) (by decide) w4)
  go_wp2_with fail
  go_at_call 60
  refine HN.out.mono ?_
  rintro e w5 ⟨⟨b, rfl, _, hF⟩, g5⟩
  obtain ⟨a6, c6, w6, hap, hO6, hg6, _⟩ := app_N1 2 39 (grown_trans HG4.out g5) (HO4.out.grown g5) (hF.own (by decide)).rd (by omega)
  have HAP := Lib.hid hap
  have HG6 := Lib.hid hg6
  have HO6 := Lib.hid hO6
  clear hap hg6 hO6 hF g5 HN c17 hwr HO4 HG4
  go_wp2_with (at_builtin; refine wpList_append_run rfl (.tmp 13) (.tmp 18) 39 39 rfl _ _ _ _ rfl rfl HAP.out ?_)
  clear HAP
  go_loopw [4, 5] (fun u4 u5 wr => ∃ (i : Nat) (a : Option Addr) (c : Nat), i ≤ x.nm ∧ u5 = .int .i64 i ∧ u4 = .slice a (26 + 2 * i) c ∧ OwnN wr w1.heap.size (.slice a (26 + 2 * i) c) (26 + 2 * i) (cat 26 x.head (devsB fm i)) ∧ w1.grownBy wr none) (fun _ u5 _ => x.nm - (intOf u5).toNat)
  case atStart => exact ⟨0, a6, c6, Nat.zero_le _, rfl, rfl, HO6.out.congr (fun i hi => (cat_low hi).symm), HG6.out⟩
  case round =>
    obtain ⟨i, a, c, hi, rfl, rfl, hO, hg⟩ := hrel
    have cr : wr.cell? ⟨R, 17, none⟩ = some (.slice x.am x.nm x.cm) := (HXX.out.grown hg (by simp)).cell 17 (by decide)
    have hRr := HRX.out.grown (grown_trans HG.out hg) (fun k e => by cases e)
    by_cases hlt : i < x.nm
    case neg =>
      obtain rfl : x.nm = i := by omega
      have HM := Lib.hid (refMembers_any D x.nm x.cm x.am fm wr hRr HFF.out HNB.out)
      have HO := Lib.hid hO
      have HGW := Lib.hid hg
      clear hO hg hi hlt hRr
      go_wp2_with fail
      go_at_call 80
      refine HM.out.mono ?_
      rintro e w9 ⟨rfl, g9⟩
      have HO9 := Lib.hid (HO.out.grown g9)
      have HG9 := Lib.hid (grown_trans (grown_trans HG.out HGW.out) g9)
      clear g9 HM cr HO HGW
      go_wp2_with fail
      go_ret2
      exact ⟨⟨a, c, rfl, HO9.out.base (by have := HRR.out; have := HZ.out; omega)⟩, HG9.out⟩
    case pos =>
    have j1 : (i : Int) < (x.nm : Int) := by omega
    obtain ⟨tb, o, ham, htb, hcl⟩ := hRr.ex (by omega)
    have h0 : wr.cell? ⟨tb, o + i * 2, none⟩ = some (.int .u8 (fm i 0)) := by simpa using hcl i 0 hlt (by decide)
    have h1 : wr.cell? ⟨tb, o + i * 2 + 1, none⟩ = some (.int .u8 (fm i 1)) := by simpa [Nat.add_assoc] using hcl i 1 hlt (by decide)
    have HLD := Lib.hid (load_devQ h0 h1)
    have HDV := Lib.hid (refdev_any (fm i) wr)
    rw [ham] at cr
    have HO := Lib.hid hO
    have HGW := Lib.hid hg
    have HLT := Lib.hid hlt
    clear h0 h1 hcl htb ham hRr hO hg hi hlt
    go_wp2_with (first | ((with_reducible refine wpList_here ?_); refine wpList_ld (p := .pointer (some ⟨tb, o + i * 2, none⟩)) 31 ?_ ?_ ?_ HLD.out ?_; (· rfl); go_simp; (· kernel_rfl)))
    go_at_call 61
    refine HDV.out.mono ?_
    rintro e w7 ⟨v7, rfl, hO7, g7⟩
    obtain ⟨a7, c7, rfl, _, hR7⟩ := hO7.rd
    obtain ⟨a8, c8, w8, hap, hO8, hg8, _⟩ := app_N1 c7 39 (grown_trans HGW.out g7) (HO.out.grown g7) hR7 (by have := HLT.out; have := HNB.out; omega)
    have HAP := Lib.hid hap
    have HO8 : Hid (OwnN w8 w1.heap.size (.slice a8 (26 + 2 * (i + 1)) c8) (26 + 2 * (i + 1)) (cat 26 x.head (devsB fm (i + 1)))) := Lib.hid (by
      rw [show 26 + 2 * (i + 1) = 26 + 2 * i + 2 by omega]
      exact hO8.congr (fun k _ => by rw [cat_cat 26 (2 * i)]; rfl))
    have HG8 := Lib.hid hg8
    have HW := Lib.hid (show wrap64 ((i : Int) + 1) = ((i + 1 : Nat) : Int) by have := HLT.out; have := HNB.out; unfold wrap64; omega)
    clear hap hO8 hg8 hO7 hR7 g7 HDV HLD cr HO HGW
    go_wp2_with (at_builtin; refine wpList_append_run rfl (.tmp 27) (.tmp 33) 39 39 rfl _ _ _ _ rfl rfl HAP.out ?_)
    go_roundw
    case rel => exact ⟨i + 1, a8, c8, HLT.out, by rw [HW.out], rfl, HO8.out, HG8.out⟩
    case measure => exact meas_lt x.nm i _ (by rw [HW.out]) HLT.out
end Go.Proofs.Ytdagbighlgfhjaa
namespace Go.Proofs.Ytdagbighlgfhjaa
open Go.RowKit

set_option maxRecDepth 100000
set_option maxHeartbeats 4000000

theorem mayPktQ_enters : ∀ args w, (callFunc 102 args).run Try.prog w = .ok (.enter 102 args) w := enters_of Try.func102 (by kernel_rfl) rfl
theorem refPktBytes_any (D : Nat) (x : PV) (fb : Nat → Nat) (w : World) (hR : Rd w D x.ad x.nb fb) (hn : x.nb ≤ 1048576) : Calls Try.prog 24 #[.agg (rowOf 21 x.v)] w (GaveB2 w x.len (x.bytes fb) (pktMay x)) := by
  have hX := RowAt.new w 43 21 x.v _ rfl
  have hg := World.grownBy_alloc w (.cells (rowOf 21 x.v) 43) none
  have hz := World.size_alloc w (.cells (rowOf 21 x.v) 43)
  have HRX := Lib.hid hR
  have HNB := Lib.hid hn
  have HWR := Lib.hid (show IntKind.u64.wrap (x.nb : Int) = (x.nb : Int) by rw [IntKind.wrap_u64]; omega)
  clear hR hn
  go_enter Try.func24, Try.ntmps24
  go_upto_region 1 with fail
  obtain ⟨R, hRR⟩ : ∃ R, R = w.heap.size := ⟨_, rfl⟩
  generalize w.alloc (.cells (rowOf 21 x.v) 43) = w1 at *
  rw [← hRR] at hX hz ⊢
  have HG := Lib.hid hg
  have HZ := Lib.hid hz
  have HRR := Lib.hid hRR
  have HXX := Lib.hid hX
  clear hg hz hRR hX
  refine wp_region_held (S := fun W => w1.grownBy W none) (by kernel_rfl) ?_
  change wpAnyH _ _ _ _ _ 12 #[false, false, false, false, false, false, false, false, false, false, false, false] _ (World.drew _)
  have gq := grown_drew (grown_refl w1 none)
  generalize World.drew w1 = q1 at *
  refine wpAnyH_takeD (some 5) (i := 0) (v := (.pointer (some ⟨R, 0, none⟩))) rfl rfl (by kernel_rfl) (by kernel_rfl) (by kernel_rfl) (fun _ _ _ h => h) (Or.inl ⟨rfl, fun _ _ => by go_simp⟩) gq ?_
  simp only [Act.put, List.setIfInBounds_toArray, List.set_cons_succ, List.set_cons_zero]
  refine wpAnyH_takeD (some 6) (i := 1) (v := (.agg (cellsOf .u8 2 x.fr))) rfl rfl (by kernel_rfl) (by kernel_rfl) (by kernel_rfl) (fun _ _ _ h => h) (Or.inl ⟨rfl, fun W hW => exec_loadQ (.tmp 5) _ _ rfl rfl ((HXX.out.grown hW (by simp)).load (P := Try.prog) 0 26 2 (fun j => .int .u8 (x.fr j)) (by decide) x.v_fr (by kernel_rfl) (by kernel_rfl))⟩) gq ?_
  simp only [Act.put, List.setIfInBounds_toArray, List.set_cons_succ, List.set_cons_zero]
  refine wpAnyH_takeD (some 8) (i := 3) (v := (.pointer (some ⟨R, 2, none⟩))) rfl rfl (by kernel_rfl) (by kernel_rfl) (by kernel_rfl) (fun _ _ _ h => h) (Or.inl ⟨rfl, fun _ _ => by go_simp⟩) gq ?_
  simp only [Act.put, List.setIfInBounds_toArray, List.set_cons_succ, List.set_cons_zero]
  refine wpAnyH_takeD (some 9) (i := 4) (v := (.agg (cellsOf .u8 2 x.tw))) rfl rfl (by kernel_rfl) (by kernel_rfl) (by kernel_rfl) (fun _ _ _ h => h) (Or.inl ⟨rfl, fun W hW => exec_loadQ (.tmp 8) _ _ rfl rfl ((HXX.out.grown hW (by simp)).load (P := Try.prog) 2 26 2 (fun j => .int .u8 (x.tw j)) (by decide) x.v_to (by kernel_rfl) (by kernel_rfl))⟩) gq ?_
  simp only [Act.put, List.setIfInBounds_toArray, List.set_cons_succ, List.set_cons_zero]
  refine wpAnyH_takeD (some 12) (i := 7) (v := (.pointer (some ⟨R, 4, none⟩))) rfl rfl (by kernel_rfl) (by kernel_rfl) (by kernel_rfl) (fun _ _ _ h => h) (Or.inl ⟨rfl, fun _ _ => by go_simp⟩) gq ?_
  simp only [Act.put, List.setIfInBounds_toArray, List.set_cons_succ, List.set_cons_zero]
  refine wpAnyH_takeD (some 13) (i := 8) (v := (.agg (cellsOf .u8 16 x.id))) rfl rfl (by kernel_rfl) (by kernel_rfl) (by kernel_rfl) (fun _ _ _ h => h) (Or.inl ⟨rfl, fun W hW => exec_loadQ (.tmp 12) _ _ rfl rfl ((HXX.out.grown hW (by simp)).load (P := Try.prog) 4 23 16 (fun j => .int .u8 (x.id j)) (by decide) x.v_id (by kernel_rfl) (by kernel_rfl))⟩) gq ?_
  simp only [Act.put, List.setIfInBounds_toArray, List.set_cons_succ, List.set_cons_zero]
  refine wpAnyH_callD (some 7) (i := 2) 61 #[.agg (cellsOf .u8 2 x.fr)] (R := fun v W => OwnN W w1.heap.size v 2 x.fr ∧ q1.grownBy W none) (by kernel_rfl) rfl rfl rfl (exec_fn1 _ _ _ rfl rfl) devQ_enters ((refdev_any x.fr q1).mono fun e W' h => by
    obtain ⟨v, rfl, hO, hg⟩ := h.ex
    exact ⟨v, rfl, hO.base gq.size, hg⟩) ?_
  rintro v w2 ⟨hO_w2, hg_w2⟩
  have hG_w2 := grown_trans gq hg_w2
  refine ⟨hG_w2, ?_⟩
  simp only [Act.put, List.setIfInBounds_toArray, List.set_cons_succ, List.set_cons_zero]
  obtain ⟨a2, c2, rfl, _, _⟩ := hO_w2.rd
  refine wpAnyH_callD (some 10) (i := 5) 61 #[.agg (cellsOf .u8 2 x.tw)] (R := fun v W => OwnN W w1.heap.size v 2 x.tw ∧ w2.grownBy W none) (by kernel_rfl) rfl rfl rfl (exec_fn1 _ _ _ rfl rfl) devQ_enters ((refdev_any x.tw w2).mono fun e W' h => by
    obtain ⟨v, rfl, hO, hg⟩ := h.ex
    exact ⟨v, rfl, hO.base hG_w2.size, hg⟩) ?_
  rintro v w3 ⟨hO_w3, hg_w3⟩
  have hG_w3 := grown_trans hG_w2 hg_w3
  refine ⟨hG_w3, ?_⟩
  simp only [Act.put, List.setIfInBounds_toArray, List.set_cons_succ, List.set_cons_zero]
  obtain ⟨a3, c3, rfl, _, hR3⟩ := hO_w3.rd
  obtain ⟨a_w4, c_w4, w4, hap, hO_w4, hG_w4, _⟩ := app_N1 c3 39 hG_w3 (hO_w2.grown hg_w3) hR3 (by omega)
  refine wpAnyH_yieldD (some 11) (i := 6) (v := .slice a_w4 4 c_w4) (by kernel_rfl) rfl rfl rfl (exec_appendQ (.tmp 7) (.tmp 10) _ _ _ rfl rfl rfl rfl hap) hG_w4 ?_
  simp only [Act.put, List.setIfInBounds_toArray, List.set_cons_succ, List.set_cons_zero]
  clear hap
  refine wpAnyH_callD (some 14) (i := 9) 59 #[.agg (cellsOf .u8 16 x.id)] (R := fun v W => OwnN W w1.heap.size v 16 x.id ∧ w4.grownBy W none) (by kernel_rfl) rfl rfl rfl (exec_fn1 _ _ _ rfl rfl) idQ_enters ((sgId_any x.id w4).mono fun e W' h => by
    obtain ⟨v, rfl, hO, hg⟩ := h.ex
    exact ⟨v, rfl, hO.base hG_w4.size, hg⟩) ?_
  rintro v w5 ⟨hO_w5, hg_w5⟩
  have hG_w5 := grown_trans hG_w4 hg_w5
  refine ⟨hG_w5, ?_⟩
  simp only [Act.put, List.setIfInBounds_toArray, List.set_cons_succ, List.set_cons_zero]
  obtain ⟨a5, c5, rfl, _, hR5⟩ := hO_w5.rd
  obtain ⟨a_w6, c_w6, w6, hap, hO_w6, hG_w6, _⟩ := app_N1 c5 39 hG_w5 (hO_w4.grown hg_w5) hR5 (by omega)
  refine wpAnyH_yieldD (some 15) (i := 10) (v := .slice a_w6 20 c_w6) (by kernel_rfl) rfl rfl rfl (exec_appendQ (.tmp 11) (.tmp 14) _ _ _ rfl rfl rfl rfl hap) hG_w6 ?_
  simp only [Act.put, List.setIfInBounds_toArray, List.set_cons_succ, List.set_cons_zero]
  clear hap
  refine wpAnyH_yieldD (some 4) (i := 11) (v := .slice a_w6 20 c_w6) (by kernel_rfl) rfl rfl rfl rfl hG_w6 ?_
  simp only [Act.put, List.setIfInBounds_toArray, List.set_cons_succ, List.set_cons_zero]
  refine wpAnyH_done (by kernel_rfl) ?_ _
  have HO6 := Lib.hid hO_w6
  have HG6 := Lib.hid hG_w6
  clear hO_w2 hg_w2 hG_w2 hO_w3 hg_w3 hG_w3 hR3 hO_w4 hG_w4 hO_w5 hg_w5 hG_w5 hR5 gq hO_w6 hG_w6
  have hX6 := HXX.out.grown HG6.out (by simp)
  have c20 : w6.cell? ⟨R, 20, none⟩ = some (.slice x.ad x.nb x.cb) := hX6.cell 20 (by decide)
  have hwr := HWR.out
  have HN := Lib.hid (sgNumber_any x.nb 4 (by have := HNB.out; omega) (by decide) (by decide) w6)
  clear hX6
  go_wp2_with fail
  go_at_call 60
  refine HN.out.mono ?_
  rintro e w7 ⟨⟨b, rfl, _, hF⟩, g7⟩
  obtain ⟨a8, c8, w8, hap, hO8, hg8, _⟩ := app_N1 4 39 (grown_trans HG6.out g7) (HO6.out.grown g7) (hF.own (by decide)).rd (by omega)
  have HAP := Lib.hid hap
  have HG8 := Lib.hid hg8
  have HO8 := Lib.hid hO8
  clear hap hg8 hO8 hF g7 HN c20 hwr HO6 HG6
  go_upto_region 3 with (at_builtin; refine wpList_append_run rfl (.tmp 16) (.tmp 21) 39 39 rfl _ _ _ _ rfl rfl HAP.out ?_)
  refine wp_region_held (S := fun W => w1.grownBy W none) (by kernel_rfl) ?_
  change wpAnyH _ _ _ _ _ 8 #[false, false, false, false, false, false, false, false] _ (World.drew _)
  have gq := grown_drew HG8.out
  have hOq := HO8.out.grown (grown_drew (grown_refl w8 none))
  generalize World.drew w8 = q8 at *
  refine wpAnyH_takeD (some 23) (i := 0) (v := (.slice a8 24 c8)) rfl rfl (by kernel_rfl) (by kernel_rfl) (by kernel_rfl) (fun _ _ _ h => h) (Or.inl ⟨rfl, fun _ _ => rfl⟩) gq ?_
  simp only [Act.put, List.setIfInBounds_toArray, List.set_cons_succ, List.set_cons_zero]
  refine wpAnyH_takeD (some 24) (i := 1) (v := (.pointer (some ⟨R, 20, none⟩))) rfl rfl (by kernel_rfl) (by kernel_rfl) (by kernel_rfl) (fun _ _ _ h => h) (Or.inl ⟨rfl, fun _ _ => by go_simp⟩) gq ?_
  simp only [Act.put, List.setIfInBounds_toArray, List.set_cons_succ, List.set_cons_zero]
  refine wpAnyH_takeD (some 25) (i := 2) (v := (.slice x.ad x.nb x.cb)) rfl rfl (by kernel_rfl) (by kernel_rfl) (by kernel_rfl) (fun _ _ _ h => h) (Or.inl ⟨rfl, fun W hW => exec_loadQ (.tmp 24) _ _ rfl rfl (load_sliceQ ((HXX.out.grown hW (by simp)).cell 20 (by decide)))⟩) gq ?_
  simp only [Act.put, List.setIfInBounds_toArray, List.set_cons_succ, List.set_cons_zero]
  refine wpAnyH_takeD (some 27) (i := 4) (v := (.agg (rowOf 21 x.v))) rfl rfl (by kernel_rfl) (by kernel_rfl) (by kernel_rfl) (fun _ _ _ h => h) (Or.inl ⟨rfl, fun W hW => exec_loadQ (.tmp 1) _ _ rfl rfl ((HXX.out.grown hW (by simp)).load (P := Try.prog) 0 43 21 x.v (by decide) (fun j _ => by rw [Nat.zero_add]) (by kernel_rfl) (by kernel_rfl))⟩) gq ?_
  simp only [Act.put, List.setIfInBounds_toArray, List.set_cons_succ, List.set_cons_zero]
  obtain ⟨a_w9, c_w9, w9, hap, hO_w9, hG_w9, _⟩ := app_N1 x.cb 39 gq hOq (HRX.out.grown (grown_trans HG.out gq) (by simp)) (by have := HNB.out; omega)
  refine wpAnyH_yieldD (some 26) (i := 3) (v := .slice a_w9 (24 + x.nb) c_w9) (by kernel_rfl) rfl rfl rfl (exec_appendQ (.tmp 23) (.tmp 25) _ _ _ rfl rfl rfl rfl hap) hG_w9 ?_
  simp only [Act.put, List.setIfInBounds_toArray, List.set_cons_succ, List.set_cons_zero]
  clear hap
  refine wpAnyH_callD (some 28) (i := 5) 102 #[.agg (rowOf 21 x.v)] (R := fun v W => v = .bool (pktMay x) ∧ w9.grownBy W none) (by kernel_rfl) rfl rfl rfl (exec_fn1 _ _ _ rfl rfl) mayPktQ_enters ((refMayPkt_any x w9).mono fun e W' h => ⟨_, h.1, rfl, h.2⟩) ?_
  rintro v wB ⟨rfl, hgB⟩
  have hG_wB := grown_trans hG_w9 hgB
  refine ⟨hG_wB, ?_⟩
  simp only [Act.put, List.setIfInBounds_toArray, List.set_cons_succ, List.set_cons_zero]
  refine wpAnyH_yieldD (some 2) (i := 6) (v := .slice a_w9 (24 + x.nb) c_w9) (by kernel_rfl) rfl rfl rfl rfl hG_wB ?_
  simp only [Act.put, List.setIfInBounds_toArray, List.set_cons_succ, List.set_cons_zero]
  refine wpAnyH_yieldD (some 3) (i := 7) (v := .bool (pktMay x)) (by kernel_rfl) rfl rfl rfl rfl hG_wB ?_
  simp only [Act.put, List.setIfInBounds_toArray, List.set_cons_succ, List.set_cons_zero]
  refine wpAnyH_done (by kernel_rfl) ?_ _
  have HOB := Lib.hid (hO_w9.grown hgB)
  have HGB := Lib.hid hG_wB
  clear hO_w9 hG_w9 hgB hG_wB gq hOq
  go_wp2_with fail
  go_ret2
  exact ⟨⟨a_w9, c_w9, rfl, HOB.out.base (by have := HRR.out; have := HZ.out; omega)⟩, grown_trans HG.out HGB.out⟩
end Go.Proofs.Ytdagbighlgfhjaa
