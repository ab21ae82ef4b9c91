/-
  sha's machine in memory, and the words of a block.
-/
import Derived.Test.YtobaplndoaeoiaaDoorBase
import Derived.Test.YtobaplndoaeoiaaDoorCells
import Derived.Deep.RegionHeld3
import Derived.Deep.DeepCutAuto
import Derived.Deep.LoopGhost
import Derived.Deep.Light
namespace Go.Proofs.YtobaplndoaeoiaaDoor
open Go.RowKit

/-- The machine at block m. -/
structure Mach (k : IntKind) (w : World) (m : Nat) (P : Nat → Nat) (R : Nat) (st blk : Nat → Nat) (fl len : Nat) : Prop where
  by_ : ∀ i, i < 12 → w.cell? ⟨m, i, none⟩ = some (.int .u64 (P i))
  rounds : w.cell? ⟨m, 12, none⟩ = some (.int .i64 R)
  state : ∀ i, i < 8 → w.cell? ⟨m, 13 + i, none⟩ = some (.int k (st i))
  block : ∀ i, i < 128 → w.cell? ⟨m, 21 + i, none⟩ = some (.int .u8 (blk i))
  filled : w.cell? ⟨m, 149, none⟩ = some (.int .i64 fl)
  length : w.cell? ⟨m, 150, none⟩ = some (.int .u64 len)
  free : ∀ i, w.frozen? ⟨m, i, none⟩ = false

theorem Mach.of_block {k : IntKind} {w w' : World} {m : Nat} {P : Nat → Nat} {R : Nat} {st blk : Nat → Nat} {fl len : Nat} (h : Mach k w m P R st blk fl len) (e : w'.heap[m]? = w.heap[m]?) : Mach k w' m P R st blk fl len :=
  have c : ∀ i, w'.cell? ⟨m, i, none⟩ = w.cell? ⟨m, i, none⟩ := fun i => World.cell?_of_block (a := ⟨m, i, none⟩) e
  ⟨fun i hi => (c i).trans (h.by_ i hi), (c 12).trans h.rounds, fun i hi => (c _).trans (h.state i hi), fun i hi => (c _).trans (h.block i hi), (c _).trans h.filled, (c _).trans h.length,
    fun i => (World.frozen?_of_block (a := ⟨m, i, none⟩) e).trans (h.free i)⟩
theorem Mach.lt {k : IntKind} {w : World} {m : Nat} {P : Nat → Nat} {R : Nat} {st blk : Nat → Nat} {fl len : Nat} (h : Mach k w m P R st blk fl len) : m < w.heap.size := World.block_lt_of_cell? w _ h.rounds
theorem Mach.grown {k : IntKind} {w w' : World} {m : Nat} {P : Nat → Nat} {R : Nat} {st blk : Nat → Nat} {fl len : Nat} (h : Mach k w m P R st blk fl len) {row : Option Nat} (g : w.grownBy w' row) (hr : some m ≠ row) : Mach k w' m P R st blk fl len :=
  h.of_block (g.block m h.lt hr)

section
variable {k : IntKind} {w : World} {m : Nat} {P : Nat → Nat} {R : Nat} {st blk : Nat → Nat} {fl len : Nat}
theorem ne_off {m i j : Nat} (h : i ≠ j) : (⟨m, i, none⟩ : Addr) ≠ ⟨m, j, none⟩ := fun e => h (by cases e; rfl)
theorem Mach.setState (h : Mach k w m P R st blk fl len) (i v : Nat) (hi : i < 8) : Mach k (w.setCell ⟨m, 13 + i, none⟩ (.int k v)) m P R (upd st i v) blk fl len where
  by_ := fun j hj => cell_set (h.by_ j hj) (ne_off (by omega))
  rounds := cell_set h.rounds (ne_off (by omega))
  state := fun j hj => by
    by_cases e : j = i
    · subst e; rw [upd_same]; exact World.cell?_setCell_same w _ _ (h.state j hj)
    · rw [upd_other _ _ _ _ e]; exact cell_set (h.state j hj) (ne_off (by omega))
  block := fun j hj => cell_set (h.block j hj) (ne_off (by omega))
  filled := cell_set h.filled (ne_off (by omega))
  length := cell_set h.length (ne_off (by omega))
  free := fun j => by rw [World.frozen?_setCell]; exact h.free j
theorem Mach.setBlock (h : Mach k w m P R st blk fl len) (i v : Nat) (hi : i < 128) : Mach k (w.setCell ⟨m, 21 + i, none⟩ (.int .u8 v)) m P R st (upd blk i v) fl len where
  by_ := fun j hj => cell_set (h.by_ j hj) (ne_off (by omega))
  rounds := cell_set h.rounds (ne_off (by omega))
  state := fun j hj => cell_set (h.state j hj) (ne_off (by omega))
  block := fun j hj => by
    by_cases e : j = i
    · subst e; rw [upd_same]; exact World.cell?_setCell_same w _ _ (h.block j hj)
    · rw [upd_other _ _ _ _ e]; exact cell_set (h.block j hj) (ne_off (by omega))
  filled := cell_set h.filled (ne_off (by omega))
  length := cell_set h.length (ne_off (by omega))
  free := fun j => by rw [World.frozen?_setCell]; exact h.free j
theorem Mach.setFilled (h : Mach k w m P R st blk fl len) (v : Nat) : Mach k (w.setCell ⟨m, 149, none⟩ (.int .i64 v)) m P R st blk v len where
  by_ := fun j hj => cell_set (h.by_ j hj) (ne_off (by omega))
  rounds := cell_set h.rounds (ne_off (by omega))
  state := fun j hj => cell_set (h.state j hj) (ne_off (by omega))
  block := fun j hj => cell_set (h.block j hj) (ne_off (by omega))
  filled := World.cell?_setCell_same w _ _ h.filled
  length := cell_set h.length (ne_off (by omega))
  free := fun j => by rw [World.frozen?_setCell]; exact h.free j
theorem Mach.setLength (h : Mach k w m P R st blk fl len) (v : Nat) : Mach k (w.setCell ⟨m, 150, none⟩ (.int .u64 v)) m P R st blk fl v where
  by_ := fun j hj => cell_set (h.by_ j hj) (ne_off (by omega))
  rounds := cell_set h.rounds (ne_off (by omega))
  state := fun j hj => cell_set (h.state j hj) (ne_off (by omega))
  block := fun j hj => cell_set (h.block j hj) (ne_off (by omega))
  filled := cell_set h.filled (ne_off (by omega))
  length := World.cell?_setCell_same w _ _ h.length
  free := fun j => by rw [World.frozen?_setCell]; exact h.free j
theorem Mach.congr {st' blk' : Nat → Nat} (h : Mach k w m P R st blk fl len) (e1 : ∀ i, i < 8 → st i = st' i) (e2 : ∀ i, i < 128 → blk i = blk' i) : Mach k w m P R st' blk' fl len :=
  { h with
    state := fun i hi => by rw [← e1 i hi]; exact h.state i hi
    block := fun i hi => by rw [← e2 i hi]; exact h.block i hi }
end

/-- The eight words that a round goes over. -/
structure Oct where
  a : Nat
  b : Nat
  c : Nat
  d : Nat
  e : Nat
  f : Nat
  g : Nat
  h : Nat
def Oct.get (v : Oct) : Nat → Nat
  | 0 => v.a
  | 1 => v.b
  | 2 => v.c
  | 3 => v.d
  | 4 => v.e
  | 5 => v.f
  | 6 => v.g
  | _ => v.h
def Oct.of (f : Nat → Nat) : Oct := ⟨f 0, f 1, f 2, f 3, f 4, f 5, f 6, f 7⟩
structure Oct.Lt (n : Nat) (v : Oct) : Prop where
  a : v.a < n
  b : v.b < n
  c : v.c < n
  d : v.d < n
  e : v.e < n
  f : v.f < n
  g : v.g < n
  h : v.h < n
/-- A round's p and q, and the words behind it. -/
def rndP (b : Nat) (P : Nat → Nat) (K W : Nat) (v : Oct) : Nat := (v.h + turned b v.e (P 3) (P 4) (P 5) + ((v.e &&& v.f) ^^^ ((2 ^ b - 1 - v.e) &&& v.g)) + K + W) % 2 ^ b
def rndQ (b : Nat) (P : Nat → Nat) (v : Oct) : Nat := (turned b v.a (P 0) (P 1) (P 2) + ((v.a &&& v.b) ^^^ (v.a &&& v.c) ^^^ (v.b &&& v.c))) % 2 ^ b
def rnd (b : Nat) (P : Nat → Nat) (K W : Nat) (v : Oct) : Oct :=
  ⟨(rndP b P K W v + rndQ b P v) % 2 ^ b, v.a, v.b, v.c, (v.d + rndP b P K W v) % 2 ^ b, v.e, v.f, v.g⟩
/-- The words behind t rounds. -/
def rnds (b : Nat) (P K W : Nat → Nat) (v : Oct) : Nat → Oct
  | 0 => v
  | t + 1 => rnd b P (K t) (W t) (rnds b P K W v t)
theorem rnd_lt (b : Nat) (P : Nat → Nat) (K W : Nat) (v : Oct) (h : v.Lt (2 ^ b)) : (rnd b P K W v).Lt (2 ^ b) :=
  ⟨Nat.mod_lt _ (Nat.two_pow_pos b), h.a, h.b, h.c, Nat.mod_lt _ (Nat.two_pow_pos b), h.e, h.f, h.g⟩
theorem rnds_lt (b : Nat) (P K W : Nat → Nat) (v : Oct) (h : v.Lt (2 ^ b)) : ∀ t, (rnds b P K W v t).Lt (2 ^ b)
  | 0 => h
  | t + 1 => rnd_lt b P _ _ _ (rnds_lt b P K W v h t)
theorem xor_ones (b e : Nat) (h : e < 2 ^ b) : (2 ^ b - 1) ^^^ e = 2 ^ b - 1 - e := by
  have h1 : (BitVec.allOnes b ^^^ BitVec.ofNat b e).toNat = (2 ^ b - 1) ^^^ e := by
    rw [BitVec.toNat_xor, BitVec.toNat_allOnes, BitVec.toNat_ofNat, Nat.mod_eq_of_lt h]
  rw [BitVec.allOnes_xor, BitVec.toNat_not, BitVec.toNat_ofNat, Nat.mod_eq_of_lt h] at h1
  exact h1.symm

theorem p_val32 (P : Nat → Nat) (K W : Nat) (v : Oct) (h : v.Lt (2 ^ 32)) :
    IntKind.u32.wrap (IntKind.u32.wrap (IntKind.u32.wrap (IntKind.u32.wrap ((v.h : Int) + (turned 32 v.e (P 3) (P 4) (P 5) : Nat)) +
      bits .xor .u32 (bits .and .u32 (v.e : Int) (v.f : Int)) (bits .and .u32 (bits .xor .u32 IntKind.u32.max (v.e : Int)) (v.g : Int))) + (K : Int) / 4294967296) + (W : Int)) = ((rndP 32 P (K / 2 ^ (64 - 32)) W v : Nat) : Int) := by
  have e0 : IntKind.u32.max = ((2 ^ 32 - 1 : Nat) : Int) := by simp [IntKind.max, IntKind.bits, IntKind.signed]
  have hl : 2 ^ 32 - 1 - v.e < 2 ^ 32 := by omega
  rw [e0, bits_xor_u32 _ _ (by omega) h.e, xor_ones 32 v.e h.e, bits_and_u32 _ _ h.e h.f, bits_and_u32 _ _ hl h.g, bits_xor_u32 _ _ (Nat.and_lt_two_pow _ h.f) (Nat.and_lt_two_pow _ h.g)]
  unfold rndP
  generalize (v.e &&& v.f) ^^^ ((2 ^ 32 - 1 - v.e) &&& v.g) = x
  generalize turned 32 v.e (P 3) (P 4) (P 5) = y
  simp only [IntKind.wrap_u32]
  omega
theorem q_val32 (P : Nat → Nat) (v : Oct) (h : v.Lt (2 ^ 32)) :
    IntKind.u32.wrap (((turned 32 v.a (P 0) (P 1) (P 2) : Nat) : Int) + bits .xor .u32 (bits .xor .u32 (bits .and .u32 (v.a : Int) (v.b : Int)) (bits .and .u32 (v.a : Int) (v.c : Int))) (bits .and .u32 (v.b : Int) (v.c : Int))) = ((rndQ 32 P v : Nat) : Int) := by
  rw [bits_and_u32 _ _ h.a h.b, bits_and_u32 _ _ h.a h.c, bits_and_u32 _ _ h.b h.c, bits_xor_u32 _ _ (Nat.and_lt_two_pow _ h.b) (Nat.and_lt_two_pow _ h.c), bits_xor_u32 _ _ (Nat.xor_lt_two_pow (Nat.and_lt_two_pow _ h.b) (Nat.and_lt_two_pow _ h.c)) (Nat.and_lt_two_pow _ h.c)]
  unfold rndQ
  generalize (v.a &&& v.b) ^^^ (v.a &&& v.c) ^^^ (v.b &&& v.c) = x
  generalize turned 32 v.a (P 0) (P 1) (P 2) = y
  simp only [IntKind.wrap_u32]
  omega
theorem add_val32 (x y : Nat) : IntKind.u32.wrap ((x : Int) + (y : Int)) = (((x + y) % 2 ^ 32 : Nat) : Int) := by
  simp only [IntKind.wrap_u32]
  omega

theorem p_val64 (P : Nat → Nat) (K W : Nat) (v : Oct) (h : v.Lt (2 ^ 64)) :
    IntKind.u64.wrap (IntKind.u64.wrap (IntKind.u64.wrap (IntKind.u64.wrap ((v.h : Int) + (turned 64 v.e (P 3) (P 4) (P 5) : Nat)) +
      bits .xor .u64 (bits .and .u64 (v.e : Int) (v.f : Int)) (bits .and .u64 (bits .xor .u64 IntKind.u64.max (v.e : Int)) (v.g : Int))) + (K : Int)) + (W : Int)) = ((rndP 64 P (K / 2 ^ (64 - 64)) W v : Nat) : Int) := by
  have e0 : IntKind.u64.max = ((2 ^ 64 - 1 : Nat) : Int) := by simp [IntKind.max, IntKind.bits, IntKind.signed]
  have hl : 2 ^ 64 - 1 - v.e < 2 ^ 64 := by omega
  rw [e0, bits_xor_u64 _ _ (by omega) h.e, xor_ones 64 v.e h.e, bits_and_u64 _ _ h.e h.f, bits_and_u64 _ _ hl h.g, bits_xor_u64 _ _ (Nat.and_lt_two_pow _ h.f) (Nat.and_lt_two_pow _ h.g)]
  unfold rndP
  generalize (v.e &&& v.f) ^^^ ((2 ^ 64 - 1 - v.e) &&& v.g) = x
  generalize turned 64 v.e (P 3) (P 4) (P 5) = y
  simp only [IntKind.wrap_u64]
  omega
theorem q_val64 (P : Nat → Nat) (v : Oct) (h : v.Lt (2 ^ 64)) :
    IntKind.u64.wrap (((turned 64 v.a (P 0) (P 1) (P 2) : Nat) : Int) + bits .xor .u64 (bits .xor .u64 (bits .and .u64 (v.a : Int) (v.b : Int)) (bits .and .u64 (v.a : Int) (v.c : Int))) (bits .and .u64 (v.b : Int) (v.c : Int))) = ((rndQ 64 P v : Nat) : Int) := by
  rw [bits_and_u64 _ _ h.a h.b, bits_and_u64 _ _ h.a h.c, bits_and_u64 _ _ h.b h.c, bits_xor_u64 _ _ (Nat.and_lt_two_pow _ h.b) (Nat.and_lt_two_pow _ h.c), bits_xor_u64 _ _ (Nat.xor_lt_two_pow (Nat.and_lt_two_pow _ h.b) (Nat.and_lt_two_pow _ h.c)) (Nat.and_lt_two_pow _ h.c)]
  unfold rndQ
  generalize (v.a &&& v.b) ^^^ (v.a &&& v.c) ^^^ (v.b &&& v.c) = x
  generalize turned 64 v.a (P 0) (P 1) (P 2) = y
  simp only [IntKind.wrap_u64]
  omega
theorem add_val64 (x y : Nat) : IntKind.u64.wrap ((x : Int) + (y : Int)) = (((x + y) % 2 ^ 64 : Nat) : Int) := by
  simp only [IntKind.wrap_u64]
  omega

/-- The package's two tables, at blocks gb and gr. -/
structure Laid (w : World) (gb gr : Nat) (F K : Nat → Nat) : Prop where
  begin_ : ∀ i, i < 8 → w.cell? ⟨gb, i, none⟩ = some (.int .u64 (F i))
  round_ : ∀ i, i < 80 → w.cell? ⟨gr, i, none⟩ = some (.int .u64 (K i))
theorem Laid.grown {w w' : World} {gb gr : Nat} {F K : Nat → Nat} (h : Laid w gb gr F K) {row : Option Nat} (g : w.grownBy w' row) (h1 : some gb ≠ row) (h2 : some gr ≠ row) : Laid w' gb gr F K :=
  ⟨fun i hi => g.cell (h.begin_ i hi) h1, fun i hi => g.cell (h.round_ i hi) h2⟩

/-- The first n bytes of g as a number, the first one the highest. -/
def be (g : Nat → Nat) : Nat → Nat
  | 0 => 0
  | n + 1 => be g n * 256 + g n

theorem be_lt (g : Nat → Nat) (hg : ∀ i, g i < 256) : ∀ n, be g n < 256 ^ n
  | 0 => by simp [be]
  | n + 1 => by
    have := be_lt g hg n
    have := hg n
    have e : (256 : Nat) ^ (n + 1) = 256 ^ n * 256 := Nat.pow_succ _ _
    simp only [be]
    omega

theorem be_or (a c : Nat) (hc : c < 256) : a * 256 ||| c = a * 256 + c := by
  have := Nat.shiftLeft_add_eq_or_of_lt (b := c) (i := 8) (by simpa using hc) a
  rw [Nat.shiftLeft_eq] at this
  exact this.symm
theorem be_step32 (g : Nat → Nat) (hg : ∀ i, g i < 256) (j : Nat) (hj : j < 4) :
    bits .or .u32 ((be g j : Int) * 256 % 4294967296) ((g j : Int) % 4294967296) = ((be g (j + 1) : Nat) : Int) := by
  have h1 := be_lt g hg j
  have h2 : 256 ^ j ≤ 256 ^ 3 := Nat.pow_le_pow_right (by decide) (by omega)
  have h3 := hg j
  have e1 : ((be g j : Int) * 256 % 4294967296) = ((be g j * 256 : Nat) : Int) := by omega
  have e2 : ((g j : Int) % 4294967296) = (g j : Int) := by omega
  rw [e1, e2, bits_or_u32 _ _ (by omega) (by omega), be_or _ _ h3]; rfl
theorem be_step64 (g : Nat → Nat) (hg : ∀ i, g i < 256) (j : Nat) (hj : j < 8) :
    bits .or .u64 (IntKind.u64.wrap ((be g j : Int) * 256)) (IntKind.u64.wrap (g j : Int)) = ((be g (j + 1) : Nat) : Int) := by
  have h1 := be_lt g hg j
  have h2 : 256 ^ j ≤ 256 ^ 7 := Nat.pow_le_pow_right (by decide) (by omega)
  have h3 := hg j
  have e1 : IntKind.u64.wrap ((be g j : Int) * 256) = ((be g j * 256 : Nat) : Int) := by rw [IntKind.wrap_u64]; omega
  rw [e1, wrap_u64_nat _ (by omega : g j < 2 ^ 64), bits_or_u64 _ _ (by omega) (by omega), be_or _ _ h3]; rfl

theorem word_sum32 (a b c d : Nat) : IntKind.u32.wrap (IntKind.u32.wrap (IntKind.u32.wrap ((a : Int) + b) + c) + d) = (((a + b + c + d) % 2 ^ 32 : Nat) : Int) := by
  simp only [IntKind.wrap_u32]; omega
theorem word_sum64 (a b c d : Nat) : IntKind.u64.wrap (IntKind.u64.wrap (IntKind.u64.wrap ((a : Int) + b) + c) + d) = (((a + b + c + d) % 2 ^ 64 : Nat) : Int) := by
  simp only [IntKind.wrap_u64]; omega

/-- The word behind the words l: of the block's own bytes, or of words ahead of it. -/
def wordNext (b : Nat) (P blk : Nat → Nat) (t : Nat) (l : List Nat) : Nat :=
  if t < 16 then be (fun j => blk (t * (b / 8) + j)) (b / 8)
  else (shifted b (l.getD (t - 2) 0) (P 9) (P 10) (P 11) + l.getD (t - 7) 0 + shifted b (l.getD (t - 15) 0) (P 6) (P 7) (P 8) + l.getD (t - 16) 0) % 2 ^ b
def words (b : Nat) (P blk : Nat → Nat) : Nat → List Nat
  | 0 => []
  | t + 1 => words b P blk t ++ [wordNext b P blk t (words b P blk t)]
/-- Word t. -/
def word (b : Nat) (P blk : Nat → Nat) (t : Nat) : Nat := wordNext b P blk t (words b P blk t)

theorem words_length (b : Nat) (P blk : Nat → Nat) : ∀ t, (words b P blk t).length = t
  | 0 => rfl
  | t + 1 => by simp [words, words_length b P blk t]
theorem words_getD (b : Nat) (P blk : Nat → Nat) : ∀ t i, i < t → (words b P blk t).getD i 0 = word b P blk i
  | 0, i, h => absurd h (by omega)
  | t + 1, i, h => by
    simp only [words]
    have hl := words_length b P blk t
    by_cases hi : i < t
    · rw [← words_getD b P blk t i hi]
      simp [List.getD, List.getElem?_append_left, hl, hi]
    · have : i = t := by omega
      subst this
      simp [List.getD, hl, word]
theorem word_low (b : Nat) (P blk : Nat → Nat) (t : Nat) (h : t < 16) : word b P blk t = be (fun j => blk (t * (b / 8) + j)) (b / 8) := by
  simp [word, wordNext, h]
theorem word_high (b : Nat) (P blk : Nat → Nat) (t : Nat) (h : 16 ≤ t) :
    word b P blk t = (shifted b (word b P blk (t - 2)) (P 9) (P 10) (P 11) + word b P blk (t - 7) + shifted b (word b P blk (t - 15)) (P 6) (P 7) (P 8) + word b P blk (t - 16)) % 2 ^ b := by
  have h' : ¬ t < 16 := by omega
  rw [word, wordNext, if_neg h', words_getD _ _ _ _ _ (by omega), words_getD _ _ _ _ _ (by omega), words_getD _ _ _ _ _ (by omega), words_getD _ _ _ _ _ (by omega)]
theorem word_lt32 (P blk : Nat → Nat) (hb : ∀ i, blk i < 256) (t : Nat) : word 32 P blk t < 2 ^ 32 := by
  by_cases h : t < 16
  · rw [word_low _ _ _ _ h]
    have := be_lt (fun j => blk (t * (32 / 8) + j)) (fun i => hb _) (32 / 8)
    simpa using this
  · rw [word_high _ _ _ _ (by omega)]
    exact Nat.mod_lt _ (by decide)
theorem word_lt64 (P blk : Nat → Nat) (hb : ∀ i, blk i < 256) (t : Nat) : word 64 P blk t < 2 ^ 64 := by
  by_cases h : t < 16
  · rw [word_low _ _ _ _ h]
    have := be_lt (fun j => blk (t * (64 / 8) + j)) (fun i => hb _) (64 / 8)
    simpa using this
  · rw [word_high _ _ _ _ (by omega)]
    exact Nat.mod_lt _ (by decide)

/-- The first t words, noughts behind. -/
def wordsTo (b : Nat) (P blk : Nat → Nat) (t : Nat) : Nat → Nat := fun i => if i < t then word b P blk i else 0

/-- The state behind a block. -/
def compress (b R : Nat) (P K : Nat → Nat) (st blk : Nat → Nat) : Nat → Nat :=
  fun i => (st i + (rnds b P (fun t => K t / 2 ^ (64 - b)) (word b P blk) (Oct.of st) R).get i) % 2 ^ b


end Go.Proofs.YtobaplndoaeoiaaDoor
