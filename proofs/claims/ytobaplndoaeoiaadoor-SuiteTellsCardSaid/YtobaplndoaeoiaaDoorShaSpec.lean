/-
  What a sum is: states behind blocks, the padded text, the bytes; and sha's machine that has taken in a part of a text.
-/
import Derived.Test.YtobaplndoaeoiaaDoorMach
import Derived.Laws.IdiomCopy
namespace Go.Proofs.YtobaplndoaeoiaaDoor
open Go.RowKit

theorem be_congr (g g' : Nat → Nat) : ∀ n, (∀ i, i < n → g i = g' i) → be g n = be g' n
  | 0, _ => rfl
  | n + 1, h => by simp only [be]; rw [be_congr g g' n (fun i hi => h i (by omega)), h n (by omega)]
theorem words_congr (b : Nat) (P blk blk' : Nat → Nat) (h : ∀ i, i < 16 * (b / 8) → blk i = blk' i) : ∀ t, words b P blk t = words b P blk' t
  | 0 => rfl
  | t + 1 => by
    simp only [words]
    rw [words_congr b P blk blk' h t]
    congr 2
    unfold wordNext
    by_cases ht : t < 16
    · rw [if_pos ht, if_pos ht]
      apply be_congr
      intro j hj
      apply h
      have : t * (b / 8) ≤ 15 * (b / 8) := Nat.mul_le_mul_right _ (by omega)
      omega
    · rw [if_neg ht, if_neg ht]
theorem word_congr (b : Nat) (P blk blk' : Nat → Nat) (h : ∀ i, i < 16 * (b / 8) → blk i = blk' i) : word b P blk = word b P blk' := by
  funext t
  unfold word
  rw [words_congr b P blk blk' h t]
  unfold wordNext
  by_cases ht : t < 16
  · rw [if_pos ht, if_pos ht]
    apply be_congr
    intro j hj
    apply h
    have : t * (b / 8) ≤ 15 * (b / 8) := Nat.mul_le_mul_right _ (by omega)
    omega
  · rw [if_neg ht, if_neg ht]
theorem compress_congr (b R : Nat) (P K st blk blk' : Nat → Nat) (h : ∀ i, i < 16 * (b / 8) → blk i = blk' i) : compress b R P K st blk = compress b R P K st blk' := by
  unfold compress
  rw [word_congr b P blk blk' h]

/-- The state behind n blocks of the text g. -/
def stAfter (b R : Nat) (P K H : Nat → Nat) (g : Nat → Nat) : Nat → Nat → Nat
  | 0 => H
  | n + 1 => compress b R P K (stAfter b R P K H g n) (fun i => g (n * (16 * (b / 8)) + i))
theorem stAfter_lt (b R : Nat) (P K H g : Nat → Nat) (hH : ∀ i, H i < 2 ^ b) : ∀ n i, stAfter b R P K H g n i < 2 ^ b
  | 0, i => hH i
  | _ + 1, _ => Nat.mod_lt _ (Nat.two_pow_pos b)
theorem stAfter_congr (b R : Nat) (P K H g g' : Nat → Nat) : ∀ n, (∀ i, i < n * (16 * (b / 8)) → g i = g' i) → stAfter b R P K H g n = stAfter b R P K H g' n
  | 0, _ => rfl
  | n + 1, h => by
    have e : (n + 1) * (16 * (b / 8)) = n * (16 * (b / 8)) + 16 * (b / 8) := Nat.succ_mul _ _
    simp only [stAfter]
    rw [stAfter_congr b R P K H g g' n (fun i hi => h i (by omega))]
    exact compress_congr _ _ _ _ _ _ _ (fun i hi => h _ (by omega))

/-- How many blocks a padded text of N bytes has. -/
def padBlocks (b N : Nat) : Nat := (N + 2 * (b / 8)) / (16 * (b / 8)) + 1
/-- The padded text. -/
def padded (b : Nat) (g : Nat → Nat) (N : Nat) : Nat → Nat := fun i =>
  if i < N then g i else if i = N then 128 else if i < padBlocks b N * (16 * (b / 8)) - 8 then 0 else 8 * N / 256 ^ (padBlocks b N * (16 * (b / 8)) - 1 - i) % 256
/-- The sum's bytes. -/
def sumOf (b R : Nat) (P K H g : Nat → Nat) (N : Nat) : Nat → Nat := fun i =>
  stAfter b R P K H (padded b g N) (padBlocks b N) (i / (b / 8)) / 2 ^ (8 * (b / 8 - 1 - i % (b / 8))) % 256

/-- Cells that are written side by side into the machine's block. -/
theorem Mach.setBlocks {k : IntKind} {w : World} {m : Nat} {P : Nat → Nat} {R : Nat} {st blk : Nat → Nat} {fl len : Nat} (h : Mach k w m P R st blk fl len) (r n : Nat) (g : Nat → Nat) (hr : r + n ≤ 128) :
    Mach k (w.setCells m (21 + r) ((List.range n).map fun i => Value.int .u8 (g i))) m P R st (fun i => if r ≤ i ∧ i < r + n then g (i - r) else blk i) fl len := by
  have out : ∀ j, j < 21 + r ∨ 21 + r + n ≤ j → (w.setCells m (21 + r) ((List.range n).map fun i => Value.int .u8 (g i))).cell? ⟨m, j, none⟩ = w.cell? ⟨m, j, none⟩ :=
    fun j hj => World.cell?_setCells_out m _ _ w ⟨m, j, none⟩ (fun _ _ => by simpa using hj)
  constructor
  · intro i hi; rw [out i (by omega)]; exact h.by_ i hi
  · rw [out 12 (by omega)]; exact h.rounds
  · intro i hi; rw [out _ (by omega)]; exact h.state i hi
  · intro i hi
    by_cases e : r ≤ i ∧ i < r + n
    · rw [if_pos e]
      have hl : i - r < ((List.range n).map fun i => Value.int .u8 (g i)).length := by simp; omega
      have := World.cell?_setCells_in m ((List.range n).map fun i => Value.int .u8 (g i)) (21 + r) w (fun j hj => by
        have hj' : j < n := by simpa using hj
        rw [show 21 + r + j = 21 + (r + j) by omega, h.block (r + j) (by omega)]; rfl) (i - r) hl
      rw [show 21 + r + (i - r) = 21 + i by omega] at this
      rw [this]
      simp
    · rw [if_neg e, out _ (by omega)]; exact h.block i hi
  · rw [out 149 (by omega)]; exact h.filled
  · rw [out 150 (by omega)]; exact h.length
  · intro i; rw [World.frozen?_setCells]; exact h.free i

theorem grown_setCells {w0 : World} {row : Option Nat} (B : Nat) (ha : w0.heap.size ≤ B ∨ some B = row) : ∀ (cs : List Value) (o : Nat) (w : World), w0.grownBy w row → w0.grownBy (w.setCells B o cs) row
  | [], _, _, h => h
  | c :: cs, o, w, h => grown_setCells B ha cs (o + 1) (w.setCell ⟨B, o, none⟩ c) (grown_setCell_new h _ _ ha)

/-- What is left of an array of one-cell elements from place l on. -/
theorem run_partEnd {Q : Program} {T E n : Nat} (hT : Q.underlying T = some (.array n E)) (hE : ∀ w, (sizeOf E).run Q w = .ok 1 w) (b o l : Nat) (x : Int) (hx : x = l) (h1 : l ≤ n) :
    ∃ a : Option Addr, (l < n → a = some ⟨b, o + l, none⟩) ∧ ∀ w, (Instr.sliceAt T (.pointer (some ⟨b, o, none⟩)) (some (.int .i64 x)) none none).run Q w = .ok (.slice a (n - l) (n - l)) w := by
  subst hx
  have e1 : Q.arrayLen T = n := by simp [Program.arrayLen, hT]
  have e2 : Q.elem T = E := by simp [Program.elem, hT]
  refine ⟨if n = l then some ⟨b, o, none⟩ else some ⟨b, o + l, none⟩, fun h => by rw [if_neg (by omega)], fun w => ?_⟩
  rw [run_sliceAt_array_l w T ⟨b, o, none⟩ (by rw [e1, e2]; exact hT) .i64 l (by omega) (by rw [e1]; omega), e1, e2, hE w]
  by_cases h : n = l <;> simp [Result.andThen, slicedAt, h, Addr.add]
  try (intro h0; simp [h0])

/-- 'clear' of bytes that may be written. -/
theorem run_clear_bytes {Q : Program} {T E : Nat} (hT : Q.underlying T = some (.slice E)) (hZ : ∀ w, (zeroValue E).run Q w = .ok (.int .u8 0) w) (ty : TypeId) (b o L c : Nat) (a : Option Addr) (w : World) (ha : 0 < L → a = some ⟨b, o, none⟩)
    (hc : ∀ j, j < L → (w.cell? ⟨b, o + j, none⟩).isSome = true) (hf : ∀ j, j < L → w.frozen? ⟨b, o + j, none⟩ = false) :
    (Builtin.clear_ #[T] ty #[.slice a L c]).run Q w = .ok (.tuple #[]) (w.setCells b o ((List.range L).map fun _ => Value.int .u8 (0 : Nat))) := by
  by_cases h : 0 < L
  · obtain rfl := ha h
    have hz : (Builtin.zeroCells (Value.cells (.int .u8 0)) L).toList = (List.range L).map fun _ => Value.int .u8 (0 : Nat) := by
      apply List.ext_getElem
      · simp [Builtin.zeroCells, Value.cells]
      · intro i h1 h2
        simp [Builtin.zeroCells, Value.cells, Nat.mod_one]
    have hst := run_storeCells_cells (P := Q) b o ((List.range L).map fun _ => Value.int .u8 (0 : Nat)) 0 w (by simpa using hc) (by simpa using hf) (by simp [Value.oneCell'])
    rw [← hz] at hst
    obtain ⟨L', rfl⟩ : ∃ L', L = L' + 1 := ⟨L - 1, by omega⟩
    simp only [Nat.add_zero] at hst
    rw [← hz]
    simp [Builtin.clear_, run_underlying hT, hZ w, hst]
  · obtain rfl : L = 0 := by omega
    cases a <;> simp [Builtin.clear_, run_underlying hT, World.setCells]

/-- The machine's cells, whole. -/
def machCells (k : IntKind) (P : Nat → Nat) (R : Nat) (st blk : Nat → Nat) (fl len : Nat) : Array Value :=
  ((List.range 12).map (fun i => Value.int .u64 (P i)) ++ ([Value.int .i64 R] ++ ((List.range 8).map (fun i => Value.int k (st i)) ++ ((List.range 128).map (fun i => Value.int .u8 (blk i)) ++ [Value.int .i64 fl, Value.int .u64 len])))).toArray
theorem mach_of_cells {k : IntKind} {w : World} {m T : Nat} {P : Nat → Nat} {R : Nat} {st blk : Nat → Nat} {fl len : Nat} (h : w.heap[m]? = some (.cells (machCells k P R st blk fl len) T (0, 0))) : Mach k w m P R st blk fl len where
  by_ := fun i hi => by
    rw [cell_of_row w m i _ T (0, 0) h, machCells, List.getElem?_toArray, List.getElem?_append_left (by simpa using hi)]; simp [hi]
  rounds := by
    rw [cell_of_row w m 12 _ T (0, 0) h, machCells, List.getElem?_toArray, List.getElem?_append_right (by simp)]; simp
  state := fun i hi => by
    rw [cell_of_row w m _ _ T (0, 0) h, machCells, List.getElem?_toArray, List.getElem?_append_right (by simp; omega), List.getElem?_append_right (by simp; omega), List.getElem?_append_left (by simp; omega)]
    have e : 13 + i - 12 - 1 = i := by omega
    simp [hi, e]
  block := fun i hi => by
    rw [cell_of_row w m _ _ T (0, 0) h, machCells, List.getElem?_toArray, List.getElem?_append_right (by simp; omega), List.getElem?_append_right (by simp; omega), List.getElem?_append_right (by simp; omega), List.getElem?_append_left (by simp; omega)]
    have e : 21 + i - 12 - 1 - 8 = i := by omega
    simp [hi, e]
  filled := by
    rw [cell_of_row w m 149 _ T (0, 0) h, machCells, List.getElem?_toArray, List.getElem?_append_right (by simp), List.getElem?_append_right (by simp), List.getElem?_append_right (by simp), List.getElem?_append_right (by simp)]; simp
  length := by
    rw [cell_of_row w m 150 _ T (0, 0) h, machCells, List.getElem?_toArray, List.getElem?_append_right (by simp), List.getElem?_append_right (by simp), List.getElem?_append_right (by simp), List.getElem?_append_right (by simp)]; simp
  free := fun i => frozen_of_row w m i _ T h

/-- The machine at block m has taken in the first q bytes of the text g. -/
structure MT (b R : Nat) (k : IntKind) (P K H g : Nat → Nat) (w : World) (m q len : Nat) : Prop where
  ex : ∃ blk, Mach k w m P R (stAfter b R P K H g (q / (16 * (b / 8)))) blk (q % (16 * (b / 8))) len ∧ (∀ i, i < q % (16 * (b / 8)) → blk i = g (q / (16 * (b / 8)) * (16 * (b / 8)) + i)) ∧ ∀ i, blk i < 256

theorem MT.of_block {b R : Nat} {k : IntKind} {P K H g : Nat → Nat} {w w' : World} {m q len : Nat} (h : MT b R k P K H g w m q len) (e : w'.heap[m]? = w.heap[m]?) : MT b R k P K H g w' m q len := by
  obtain ⟨blk, h1, h2, h3⟩ := h.ex
  exact ⟨blk, h1.of_block e, h2, h3⟩
theorem MT.lt {b R : Nat} {k : IntKind} {P K H g : Nat → Nat} {w : World} {m q len : Nat} (h : MT b R k P K H g w m q len) : m < w.heap.size := by
  obtain ⟨blk, h1, h2, h3⟩ := h.ex
  exact h1.lt
theorem MT.grown {b R : Nat} {k : IntKind} {P K H g : Nat → Nat} {w w' : World} {m q len : Nat} (h : MT b R k P K H g w m q len) {row : Option Nat} (e : w.grownBy w' row) (hr : some m ≠ row) : MT b R k P K H g w' m q len :=
  h.of_block (e.block m h.lt hr)

/-- The machine at block m, with this state. -/
structure SomeMach (R : Nat) (k : IntKind) (P : Nat → Nat) (w : World) (m : Nat) (st : Nat → Nat) : Prop where
  ex : ∃ blk fl len, Mach k w m P R st blk fl len

/-- n texts, side by side: text j begins at place off j of the whole text g. All lies below block B. -/
structure Texts (w : World) (B : Nat) (a : Option Addr) (n : Nat) (off g : Nat → Nat) : Prop where
  zero : off 0 = 0
  ex : 0 < n → ∃ lb lo, a = some ⟨lb, lo, none⟩ ∧ lb < B ∧ ∀ j, j < n → ∃ aj L c, w.cell? ⟨lb, lo + j, none⟩ = some (.slice aj L c) ∧ L ≤ c ∧ off (j + 1) = off j + L ∧
    (0 < L → ∃ tb o, aj = some ⟨tb, o, none⟩ ∧ tb < B ∧ ∀ i, i < L → w.cell? ⟨tb, o + i, none⟩ = some (.int .u8 (g (off j + i))))
theorem Texts.grown {w w' : World} {B : Nat} {a : Option Addr} {n : Nat} {off g : Nat → Nat} (h : Texts w B a n off g) {row : Option Nat} (hg : w.grownBy w' row) (hr : ∀ k, row = some k → B ≤ k) : Texts w' B a n off g where
  zero := h.zero
  ex := fun hn => by
    obtain ⟨lb, lo, h1, h2, h3⟩ := h.ex hn
    refine ⟨lb, lo, h1, h2, fun j hj => ?_⟩
    obtain ⟨aj, L, c, k1, k2, k3, k4⟩ := h3 j hj
    refine ⟨aj, L, c, hg.cell k1 (fun e => by have := hr lb e.symm; omega), k2, k3, fun hL => ?_⟩
    obtain ⟨tb, o, m1, m2, m3⟩ := k4 hL
    exact ⟨tb, o, m1, m2, fun i hi => hg.cell (m3 i hi) (fun e => by have := hr tb e.symm; omega)⟩
/-- Where each text ends. -/
theorem Texts.mono {w : World} {B : Nat} {a : Option Addr} {n : Nat} {off g : Nat → Nat} (h : Texts w B a n off g) (i : Nat) : ∀ j, i ≤ j → j ≤ n → off i ≤ off j
  | 0, h1, _ => by
    have : i = 0 := by omega
    rw [this]; exact Nat.le_refl _
  | j + 1, h1, h2 => by
    by_cases e : i = j + 1
    · rw [e]; exact Nat.le_refl _
    · have := h.mono i j (by omega) (by omega)
      obtain ⟨lb, lo, _, _, h3⟩ := h.ex (by omega)
      obtain ⟨aj, L, c, _, _, k3, _⟩ := h3 j (by omega)
      omega

end Go.Proofs.YtobaplndoaeoiaaDoor
