/-
  head's two nibbles, in an array; how many bytes a header has.
-/
import Derived.Test.YtmbefbmpjkbnmaaHdLen
import Derived.Test.YtmbefbmpjkbnmaaUnderRow
import Derived.Test.YtmbefbmpjkbnmaaFill
import Derived.Lib.SmallJoins
namespace Go.Proofs.Ytmbefbmpjkbnmaa
open Go.RowKit

set_option maxRecDepth 100000
set_option maxHeartbeats 4000000

/-- Two, by number. -/
def two (a b : Nat) (i : Nat) : Nat := if i = 0 then a else b
theorem idx_flds (a b j : Nat) (x : Int) (hx : x = j) (hj : j < 2) (w : World) : (Instr.index 187 (.agg #[.int .u64 a, .int .u64 b]) (.int .i64 x)).run Try.prog w = .ok (.int .u64 (two a b j : Nat)) w := by
  have h : (#[.int .u64 a, .int .u64 b] : Array Value)[j]? = some (.int .u64 (two a b j : Nat)) := by
    obtain rfl | rfl : j = 0 ∨ j = 1 := by omega
    · rfl
    · rfl
  exact run_indexOf (E := 24) (n := 2) (by kernel_rfl) (fun _ => by kernel_rfl) (fun _ => by kernel_rfl) _ j x hx _ hj h w
theorem idx_nibs (a b j : Nat) (x : Int) (hx : x = j) (hj : j < 2) (w : World) : (Instr.index 185 (.agg #[.int .u8 a, .int .u8 b]) (.int .i64 x)).run Try.prog w = .ok (.int .u8 (two a b j : Nat)) w := by
  have h : (#[.int .u8 a, .int .u8 b] : Array Value)[j]? = some (.int .u8 (two a b j : Nat)) := by
    obtain rfl | rfl : j = 0 ∨ j = 1 := by omega
    · rfl
    · rfl
  exact run_indexOf (E := 5) (n := 2) (by kernel_rfl) (fun _ => by kernel_rfl) (fun _ => by kernel_rfl) _ j x hx _ hj h w
theorem nibblesOf_any (k c : Nat) (w : World) (hk : k < 18446744073709551616) (hc : c < 18446744073709551616) :
    Calls Try.prog 120 #[.agg #[.int .u64 k, .int .u64 c]] w fun e w' => e = .returned (.agg #[.int .u8 (nibN k : Nat), .int .u8 (nibN c : Nat)]) ∧ w.grownBy w' none := by
  have ga := World.grownBy_alloc w (.cells #[.int .u64 k, .int .u64 c] 187) none
  have hz := World.size_alloc w (.cells #[.int .u64 k, .int .u64 c] 187)
  have hX := holds_alloc w 187 .u64 2 (two k c) #[.int .u64 k, .int .u64 c] rfl
  have gb := World.grownBy_alloc (w.alloc (.cells #[.int .u64 k, .int .u64 c] 187)) (.cells #[.int .u8 0, .int .u8 0] 185) none
  have hY := holds_alloc (w.alloc (.cells #[.int .u64 k, .int .u64 c] 187)) 185 .u8 2 (fun i => if i < 0 then two (nibN k) (nibN c) i else 0) #[.int .u8 0, .int .u8 0] rfl
  rw [hz] at hY
  replace hX := hX.grown gb (by simp)
  have gg := grown_trans ga gb
  have HK := Lib.hid hk
  have HC := Lib.hid hc
  have n1 := nibN_lt k
  have n2 := nibN_lt c
  have N1 := Lib.hid n1
  have N2 := Lib.hid n2
  clear hz ga gb hk hc n1 n2
  go_enter Try.func120, Try.ntmps120
  go_upto_region 1 with fail
  generalize (w.alloc (.cells #[.int .u64 k, .int .u64 c] 187)).alloc (.cells #[.int .u8 0, .int .u8 0] 185) = w1 at *
  have c0 : w1.cell? ⟨w.heap.size, 0, none⟩ = some (.int .u64 k) := hX.cell 0 (by decide)
  have c1 : w1.cell? ⟨w.heap.size, 1, none⟩ = some (.int .u64 c) := hX.cell 1 (by decide)
  clear hX
  have HY := Lib.hid hY
  have GG := Lib.hid gg
  clear hY gg
  go_wp2_with fail
  clear c0 c1
  go_loopw [3, 4, 6] (fun _ _ u6 wr => ∃ j : Nat, j ≤ 2 ∧ u6 = .int .i64 j ∧ w.grownBy wr none ∧ Holds wr (w.heap.size + 1) 185 .u8 2 (fun i => if i < j then two (nibN k) (nibN c) i else 0)) (fun _ _ u6 _ => 2 - (intOf u6).toNat)
  case atStart => exact ⟨0, by omega, rfl, GG.out, HY.out⟩
  case round =>
    clear GG HY
    obtain ⟨j, hj, rfl, hg, hH⟩ := hrel
    obtain rfl | rfl | rfl : j = 0 ∨ j = 1 ∨ j = 2 := by omega
    · have hn := nibbleOf_any k wr HK.out
      have x0 : (Instr.index 187 (.agg #[.int .u64 k, .int .u64 c]) (.int .i64 0)).run Try.prog wr = .ok (.int .u64 k) wr := idx_flds k c 0 0 rfl (by decide) wr
      have c2 : wr.cell? ⟨w.heap.size + 1, 0, none⟩ = some (.int .u8 0) := hH.cell 0 (by decide)
      have f2 := hH.frozen 0
      have k1 := (hH.set 0 (nibN k)).congr (g := fun i => if i < 1 then two (nibN k) (nibN c) i else 0) (by
        intro i hi
        obtain rfl | rfl : i = 0 ∨ i = 1 := by omega
        · rfl
        · rfl)
      have k2 := grown_setCell_new hg ⟨w.heap.size + 1, 0, none⟩ (.int .u8 (nibN k : Nat)) (Or.inl (by simp))
      have HN := Lib.hid hn
      have HK1 := Lib.hid k1
      have HK2 := Lib.hid k2
      clear hn k1 k2 hg hH hj
      go_wp2_with fail
      go_at_call 140
      with_reducible refine (HN.out).mono ?_
      rintro e w' ⟨rfl, rfl⟩
      go_wp2_with fail
      go_roundw
      case rel => exact ⟨1, by decide, rfl, HK2.out, HK1.out⟩
      case measure => simp [intOf]
    · have hn := nibbleOf_any c wr HC.out
      have x0 : (Instr.index 187 (.agg #[.int .u64 k, .int .u64 c]) (.int .i64 1)).run Try.prog wr = .ok (.int .u64 c) wr := idx_flds k c 1 1 rfl (by decide) wr
      have c2 : wr.cell? ⟨w.heap.size + 1, 1, none⟩ = some (.int .u8 0) := hH.cell 1 (by decide)
      have f2 := hH.frozen 1
      have k1 := (hH.set 1 (nibN c)).congr (g := fun i => if i < 2 then two (nibN k) (nibN c) i else 0) (by
        intro i hi
        obtain rfl | rfl : i = 0 ∨ i = 1 := by omega
        · rfl
        · rfl)
      have k2 := grown_setCell_new hg ⟨w.heap.size + 1, 1, none⟩ (.int .u8 (nibN c : Nat)) (Or.inl (by simp))
      have HN := Lib.hid hn
      have HK1 := Lib.hid k1
      have HK2 := Lib.hid k2
      clear hn k1 k2 hg hH hj
      go_wp2_with fail
      go_at_call 140
      with_reducible refine (HN.out).mono ?_
      rintro e w' ⟨rfl, rfl⟩
      go_wp2_with fail
      go_roundw
      case rel => exact ⟨2, by decide, rfl, HK2.out, HK1.out⟩
      case measure => simp [intOf]
    · have c0 : wr.cell? ⟨w.heap.size + 1, 0, none⟩ = some (.int .u8 (nibN k : Nat)) := hH.cell 0 (by decide)
      have c1 : wr.cell? ⟨w.heap.size + 1, 1, none⟩ = some (.int .u8 (nibN c : Nat)) := hH.cell 1 (by decide)
      have f0 := hH.frozen 0
      have f1 := hH.frozen 1
      have k1 := ((hH.set 0 (nibN k)).set 1 (nibN c)).congr (g := two (nibN k) (nibN c)) (by
        intro i hi
        obtain rfl | rfl : i = 0 ∨ i = 1 := by omega
        · rfl
        · rfl)
      have k2 := grown_setCell_new (grown_setCell_new hg ⟨w.heap.size + 1, 0, none⟩ (.int .u8 (nibN k : Nat)) (Or.inl (by simp))) ⟨w.heap.size + 1, 1, none⟩ (.int .u8 (nibN c : Nat)) (Or.inl (by simp))
      have HK1 := Lib.hid k1
      have HK2 := Lib.hid k2
      clear k1 k2 hg hH hj
      go_wp2_with fail
      refine bodyPost_ret (v := .agg #[.int .u8 (nibN k : Nat), .int .u8 (nibN c : Nat)]) ?_ rfl ⟨rfl, HK2.out⟩
      exact res_row (k := .u8) (n := 2) (f := two (nibN k) (nibN c)) rfl rfl HK1.out (by kernel_rfl) (by kernel_rfl)
end Go.Proofs.Ytmbefbmpjkbnmaa
