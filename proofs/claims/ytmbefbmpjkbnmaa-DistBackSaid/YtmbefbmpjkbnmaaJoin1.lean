/-
  Texts that come in, laid one behind the other.
-/
import Derived.Test.YtmbefbmpjkbnmaaOwnR
import Derived.Test.YtmbefbmpjkbnmaaLaw
import Derived.Deep.Slices
import Derived.Deep.Upon
namespace Go.Proofs.Ytmbefbmpjkbnmaa
open Go.ChangeShapes Go.WideShapes Go.ChangeAt Go.RowKit

set_option maxRecDepth 100000
set_option maxHeartbeats 1000000

theorem app_N0 {w0 w : World} {B n m : Nat} {v : Value} {a : Option Addr} {f f' : Nat → Nat} (c : Nat) (ty : TypeId) (h0 : w0.grownBy w none) (h : OwnN w w0.heap.size v n f) (hx : Rd w B a m f') (hn : n + m ≤ 2 ^ 46) :
    ∃ v' w', (Builtin.append_ #[39, 39] ty #[v, .slice a m c]).run Try.prog w = .ok v' w' ∧ OwnN w' w0.heap.size v' (n + m) (cat n f f') ∧ w0.grownBy w' none := by
  by_cases hm : 0 < m
  · obtain ⟨v', w', h1, h2, _, h3⟩ := app_N c ty h0 h hx hn hm
    exact ⟨v', w', h1, h2, h3⟩
  · obtain rfl : m = 0 := by omega
    rcases h.ex with ⟨rfl, rfl⟩ | ⟨g, cap, rfl, h2, h3⟩
    · obtain ⟨i0, hi, hz, hsz, hby⟩ := info_parts info_u8
      have hsrc := src_bytes c hx
      rw [← hsz] at hsrc
      exact ⟨_, w, run_append_nothing w 39 39 ty 5 i0 under_bytes hi none 0 0 (Nat.le_refl _) _ hsrc, OwnN.nil _ _ _, h0⟩
    · obtain ⟨v', w', hr, ⟨g', cap', rfl, k1, k2, k3, k4⟩⟩ := app_run c ty h2 hx hn
      refine ⟨_, w', hr, ⟨Or.inr ⟨g', cap', rfl, k1, ?_⟩⟩, grown_new h0 k3 h3⟩
      have := h0.size
      omega

/-- Lengths summed up; texts one behind the other. -/
def offL (L : Nat → Nat) : Nat → Nat
  | 0 => 0
  | n + 1 => offL L n + L n
def catL (L : Nat → Nat) (f : Nat → Nat → Nat) : Nat → Nat → Nat
  | 0, _ => 0
  | n + 1, x => if offL L n ≤ x then f n (x - offL L n) else catL L f n x
theorem offL_mono (L : Nat → Nat) (i : Nat) : ∀ j, i ≤ j → offL L i ≤ offL L j
  | 0, h => by obtain rfl : i = 0 := by omega
               exact Nat.le_refl _
  | j + 1, h => by
    by_cases e : i = j + 1
    · rw [e]; exact Nat.le_refl _
    · have := offL_mono L i j (by omega)
      show _ ≤ offL L j + L j
      omega
theorem catL_at (L : Nat → Nat) (f : Nat → Nat → Nat) : ∀ n j i, j < n → i < L j → catL L f n (offL L j + i) = f j i
  | 0, _, _, h, _ => by omega
  | n + 1, j, i, h, hi => by
    unfold catL
    by_cases e : j = n
    · subst e
      rw [if_pos (by omega), show offL L j + i - offL L j = i by omega]
    · have h1 := offL_mono L (j + 1) n (by omega)
      have h2 : offL L (j + 1) = offL L j + L j := rfl
      rw [if_neg (by omega)]
      exact catL_at L f n j i (by omega) hi
theorem catL_lt (L : Nat → Nat) (f : Nat → Nat → Nat) (hf : ∀ j i, f j i < 256) : ∀ n x, catL L f n x < 256
  | 0, _ => (by decide : (0 : Nat) < 256)
  | n + 1, x => by
    unfold catL
    split
    · exact hf _ _
    · exact catL_lt L f hf n x

section
variable {H : Type} {enc : TypeId × Value → H} {P : Program}

theorem mem_weightsAll {t : TypeId} : ∀ (l : List (DataW H)) (d : DataW H) (y : Nat), d ∈ l → y ∈ d.weights P t → y ∈ DataW.weightsAll P t l
  | [], _, _, h, _ => by cases h
  | x :: r, d, y, h, hy => by
    unfold DataW.weightsAll
    rcases List.mem_cons.1 h with rfl | h
    · exact List.mem_append.2 (Or.inl hy)
    · exact List.mem_append.2 (Or.inr (mem_weightsAll r d y h hy))

theorem bytes_of_trod {W : World} {t e : TypeId} {fuel : Nat} {cs : List Value} {x : DataW H × List MemPlace} (ht : P.underlying t = some (.slice e)) (he : P.underlying e = some (.int .u8)) (hc : P.cellsOf e = 1) (hby : P.bytesOf e = 1)
    (hf : DataW.trod enc P W 0 (fun _ => true) true fuel t cs = some x) (hw : ∀ y, y ∈ x.1.weights P t → y ≤ reachBytes) :
    ∃ a n c f, cs = [.slice a n c] ∧ n ≤ c ∧ c ≤ 2 ^ 47 ∧ Rd W W.heap.size a n f ∧ ∀ i, f i < 256 := by
  rcases open_ints ht he hc hf with ⟨h1, _⟩ | ⟨a, len, cap, zs, h1, _, hlc, hmx, hzl, hx, hcell, hwf⟩
  · exact ⟨none, 0, 0, fun _ => 0, h1, Nat.le_refl _, Nat.zero_le _, ⟨fun h => absurd h (by omega)⟩, fun _ => (by decide : (0 : Nat) < 256)⟩
  · have hzl' : len ≤ zs.length := by rw [hzl]; simp [hlc]
    have hzc : zs.length = cap := by simpa using hzl
    have hcap : cap ≤ 2 ^ 47 := by
      have := hw cap (by
        rw [hx]
        unfold DataW.weights
        rw [ht]
        simp only [hby, Nat.mul_one]
        refine List.mem_cons.2 (Or.inl ?_)
        simp [lits]
        omega)
      unfold reachBytes at this
      omega
    have hb : ∀ i, 0 ≤ zs.getD i 0 ∧ zs.getD i 0 < 256 := fun i => by
      by_cases hi : i < zs.length
      · have e1 : zs.getD i 0 = zs[i] := by simp [List.getD, List.getElem?_eq_getElem hi]
        rw [e1]
        have := hwf zs[i] (List.getElem_mem hi)
        simp [Lit.wf, IntKind.min, IntKind.max, IntKind.bits, IntKind.signed] at this
        omega
      · have e1 : zs.getD i 0 = 0 := by simp [List.getD, List.getElem?_eq_none (Nat.le_of_not_lt hi)]
        rw [e1]; decide
    refine ⟨some a, len, cap, fun i => (zs.getD i 0).toNat, h1, hlc, hcap, ⟨fun h0 => ?_⟩, fun i => by have := hb i; show (zs.getD i 0).toNat < 256; omega⟩
    have h0' := hcell 0 (by omega)
    have hspot : a.spot = none := by simpa [Addr.add] using World.cell?_spot h0'
    obtain ⟨tb, o, sp⟩ := a
    simp only at hspot
    subst hspot
    refine ⟨tb, o, rfl, ?_, fun i hi => ?_⟩
    · have := World.block_lt_of_cell? W _ h0'
      simpa [Addr.add] using this
    · have h1 := hcell i (by omega)
      rw [Addr.add_mid] at h1
      rw [h1]
      have := hb i
      have e1 : ((zs.getD i 0).toNat : Int) = zs.getD i 0 := by omega
      show _ = some (Value.int .u8 (((zs.getD i 0).toNat : Nat) : Int))
      rw [e1]

/-- Texts that come in. -/
theorem open_texts {W : World} {t u e : TypeId} {v : Value} {d : DataW H} {ps : List MemPlace} {r : Reach} {b0 : Nat} (ht : P.underlying t = some (.slice u)) (hu : P.underlying u = some (.slice e)) (he : P.underlying e = some (.int .u8)) (hc : P.cellsOf e = 1) (hcu : P.cellsOf u = 1) (hby : P.bytesOf e = 1) (hbu : P.bytesOf u = 24)
    (hw : ∀ y, y ∈ d.weights P t → y ≤ reachBytes) (hval : Value.okWide P W r b0 t v) (h : DataW.Trod enc P W 0 (fun _ => true) true t v d ps) :
    ∃ a n c off g, v = .slice a n c ∧ n ≤ c ∧ n ≤ 2 ^ 47 ∧ Texts W W.heap.size a n off g ∧ (∀ j, j < n → off (j + 1) ≤ off j + 2 ^ 47) ∧ ∀ i, g i < 256 := by
  obtain ⟨a0, len, cap, rfl⟩ := okWide_slice ht hval
  obtain ⟨fuel, hf⟩ := h
  rcases Deep.open_slice1 ht hcu hf with ⟨h1, _⟩ | ⟨a, len', cap', m, n, V, D, Pl, h1, _, hlc, hmx, hm, hx0, hx⟩
  · simp [Value.cells] at h1
    obtain ⟨rfl, rfl, rfl⟩ := h1
    exact ⟨none, 0, 0, fun _ => 0, fun _ => 0, rfl, Nat.le_refl _, by decide, ⟨rfl, fun h => absurd h (by omega)⟩, fun j hj => absurd hj (by omega), fun _ => (by decide : (0 : Nat) < 256)⟩
  · simp [Value.cells] at h1
    obtain ⟨rfl, rfl, rfl⟩ := h1
    have hmc : m = cap := by simpa using hm
    have hd : d = .slice ((List.range len).map D) ((List.range (m - len)).map fun j => D (len + j)) := congrArg Prod.fst hx0
    have hwd : DataW.weights P t d = (((List.range len).map D).length + ((List.range (m - len)).map fun j => D (len + j)).length) * 24 :: (DataW.weightsAll P u ((List.range len).map D) ++ DataW.weightsAll P u ((List.range (m - len)).map fun j => D (len + j))) := by
      rw [hd]
      unfold DataW.weights
      rw [ht]
      simp only [hbu]
    rw [hwd] at hw
    have hlen : len ≤ 2 ^ 47 := by
      have := hw _ (List.mem_cons_self ..)
      simp at this
      unfold reachBytes at this
      omega
    have hwe : ∀ j, j < len → ∀ y, y ∈ (D j).weights P u → y ≤ reachBytes := fun j hj y hy =>
      hw y (List.mem_cons_of_mem _ (List.mem_append.2 (Or.inl (mem_weightsAll _ (D j) y (List.mem_map.2 ⟨j, List.mem_range.2 hj, rfl⟩) hy))))
    have key : ∀ j, ∃ (q : (Option Addr × Nat) × Nat × (Nat → Nat)), (∀ i, q.2.2 i < 256) ∧ (j < len → W.cell? (a.add j) = some (.slice q.1.1 q.1.2 q.2.1) ∧ q.1.2 ≤ q.2.1 ∧ q.1.2 ≤ 2 ^ 47 ∧ Rd W W.heap.size q.1.1 q.1.2 q.2.2) := fun j => by
      by_cases hj : j < len
      · obtain ⟨hcell, htrod⟩ := hx j (by omega)
        obtain ⟨aj, nj, cj, fj, hcs, hle, hmxj, hR, hfj⟩ := bytes_of_trod hu he hc hby htrod (hwe j hj)
        simp at hcs
        exact ⟨((aj, nj), cj, fj), hfj, fun _ => ⟨by rw [hcell, hcs], hle, Nat.le_trans hle hmxj, hR⟩⟩
      · exact ⟨((none, 0), 0, fun _ => 0), fun _ => (by decide : (0 : Nat) < 256), fun h => absurd h hj⟩
    obtain ⟨Q, hQ⟩ := Classical.axiomOfChoice key
    refine ⟨some a, len, cap, offL (fun j => (Q j).1.2), catL (fun j => (Q j).1.2) (fun j => (Q j).2.2) len, rfl, hlc, hlen, ⟨rfl, fun h0 => ?_⟩, fun j hj => ?_, catL_lt _ _ (fun j => (hQ j).1) _⟩
    · obtain ⟨h0', _⟩ := (hQ 0).2 h0
      have hspot : a.spot = none := by simpa [Addr.add] using World.cell?_spot h0'
      obtain ⟨tb, o, sp⟩ := a
      simp only at hspot
      subst hspot
      refine ⟨tb, o, rfl, ?_, fun j hj => ?_⟩
      · have := World.block_lt_of_cell? W _ h0'
        simpa [Addr.add] using this
      · obtain ⟨q1, q2, q3, q4⟩ := (hQ j).2 hj
        rw [Addr.add_mid] at q1
        refine ⟨_, _, _, q1, q2, rfl, fun hL => ?_⟩
        obtain ⟨tb', o', e1, e2, e3⟩ := q4.ex hL
        refine ⟨tb', o', e1, e2, fun i hi => ?_⟩
        have := catL_at (fun j => (Q j).1.2) (fun j => (Q j).2.2) len j i hj hi
        rw [this]
        exact e3 i hi
    · have := ((hQ j).2 hj).2.2.1
      show offL _ j + (Q j).1.2 ≤ _
      omega

end
end Go.Proofs.Ytmbefbmpjkbnmaa
