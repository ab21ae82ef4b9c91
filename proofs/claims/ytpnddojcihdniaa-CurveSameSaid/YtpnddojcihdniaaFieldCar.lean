/-
  field's carrying; small numbers.
-/
import Derived.Test.YtpnddojcihdniaaFieldWide
namespace Go.Proofs.Ytpnddojcihdniaa
open Go.RowKit

set_option maxRecDepth 100000
set_option maxHeartbeats 2000000

theorem zeros5 : (#[.int .u64 0, .int .u64 0, .int .u64 0, .int .u64 0, .int .u64 0] : Array Value) = cellsOf .u64 5 (fun _ => 0) := rfl
theorem five (f : Nat → Nat) : (cellsOf .u64 5 f) = #[.int .u64 (f 0), .int .u64 (f 1), .int .u64 (f 2), .int .u64 (f 3), .int .u64 (f 4)] := rfl
theorem store_five {w : World} {B T : Nat} {g : Nat → Nat} (h : Holds w B T .u64 5 g) (a b c d e : Nat) : Holds (((((w.setCell ⟨B, 0, none⟩ (.int .u64 a)).setCell ⟨B, 1, none⟩ (.int .u64 b)).setCell ⟨B, 2, none⟩ (.int .u64 c)).setCell ⟨B, 3, none⟩ (.int .u64 d)).setCell ⟨B, 4, none⟩ (.int .u64 e)) B T .u64 5 (lst5 a b c d e) :=
  (((((h.set 0 a).set 1 b).set 2 c).set 3 d).set 4 e).congr (fun j hj => by
    obtain rfl | rfl | rfl | rfl | rfl : j = 0 ∨ j = 1 ∨ j = 2 ∨ j = 3 ∨ j = 4 := by omega
    all_goals rfl)
theorem car_word (a b : Nat) (ha : a < 18446744073709551616) (hb : b < 18446744073709551616) : IntKind.u64.wrap (bits .and .u64 (a : Int) 2251799813685247 + (b : Int) / 2251799813685248) = ((a % 2251799813685248 + b / 2251799813685248 : Nat) : Int) := by
  rw [and51 a ha, IntKind.wrap_u64]
  omega
theorem car_word0 (a b : Nat) (ha : a < 18446744073709551616) (hb : b < 18446744073709551616) : IntKind.u64.wrap (bits .and .u64 (a : Int) 2251799813685247 + IntKind.u64.wrap (19 * ((b : Int) / 2251799813685248))) = ((a % 2251799813685248 + 19 * (b / 2251799813685248) : Nat) : Int) := by
  rw [and51 a ha, IntKind.wrap_u64, IntKind.wrap_u64]
  omega
theorem carried_any (x : Nat → Nat) (h : ∀ i, i < 5 → x i < 18446744073709551616) (w : World) :
    Calls Try.prog 32 #[.int .u64 (x 0), .int .u64 (x 1), .int .u64 (x 2), .int .u64 (x 3), .int .u64 (x 4)] w fun e w' => e = .returned (.agg (cellsOf .u64 5 (carL x))) ∧ w.grownBy w' none := by
  have h0 := car_word0 (x 0) (x 4) (h 0 (by decide)) (h 4 (by decide))
  have h1 := car_word (x 1) (x 0) (h 1 (by decide)) (h 0 (by decide))
  have h2 := car_word (x 2) (x 1) (h 2 (by decide)) (h 1 (by decide))
  have h3 := car_word (x 3) (x 2) (h 3 (by decide)) (h 2 (by decide))
  have h4 := car_word (x 4) (x 3) (h 4 (by decide)) (h 3 (by decide))
  unfold carL
  generalize x 0 % 2251799813685248 + 19 * (x 4 / 2251799813685248) = y0 at *
  generalize x 1 % 2251799813685248 + x 0 / 2251799813685248 = y1 at *
  generalize x 2 % 2251799813685248 + x 1 / 2251799813685248 = y2 at *
  generalize x 3 % 2251799813685248 + x 2 / 2251799813685248 = y3 at *
  generalize x 4 % 2251799813685248 + x 3 / 2251799813685248 = y4 at *
  clear h
  generalize x 0 = x0 at *
  generalize x 1 = x1 at *
  generalize x 2 = x2 at *
  generalize x 3 = x3 at *
  generalize x 4 = x4 at *
  have H0 := Lib.hid h0
  have H1 := Lib.hid h1
  have H2 := Lib.hid h2
  have H3 := Lib.hid h3
  have H4 := Lib.hid h4
  clear h0 h1 h2 h3 h4
  have hA : Holds (w.alloc (.cells #[.int .u64 0, .int .u64 0, .int .u64 0, .int .u64 0, .int .u64 0] 28)) w.heap.size 28 .u64 5 (fun _ => 0) := holds_alloc w 28 .u64 5 (fun _ => 0) _ rfl
  have g1 := World.grownBy_alloc w (.cells #[.int .u64 0, .int .u64 0, .int .u64 0, .int .u64 0, .int .u64 0] 28) none
  go_enter Try.func32, Try.ntmps32
  go_upto_region 1 with fail
  generalize w.alloc (.cells #[.int .u64 0, .int .u64 0, .int .u64 0, .int .u64 0, .int .u64 0] 28) = w1 at *
  have b0 := hA.cell 0 (by decide)
  have b1 := hA.cell 1 (by decide)
  have b2 := hA.cell 2 (by decide)
  have b3 := hA.cell 3 (by decide)
  have b4 := hA.cell 4 (by decide)
  have f0 := hA.frozen 0
  have f1 := hA.frozen 1
  have f2 := hA.frozen 2
  have f3 := hA.frozen 3
  have f4 := hA.frozen 4
  go_wp2_with fail
  simp only [H0.out, H1.out, H2.out, H3.out, H4.out]
  have hs := Nat.le_refl w.heap.size
  exact bodyPost_ret (v := .agg (cellsOf .u64 5 (lst5 y0 y1 y2 y3 y4))) (res_row rfl rfl (store_five hA y0 y1 y2 y3 y4) (by kernel_rfl) (by kernel_rfl)) rfl ⟨rfl, grown_setCell_new (grown_setCell_new (grown_setCell_new (grown_setCell_new (grown_setCell_new g1 _ _ (Or.inl hs)) _ _ (Or.inl hs)) _ _ (Or.inl hs)) _ _ (Or.inl hs)) _ _ (Or.inl hs)⟩
theorem small_any (n : Nat) (hn : n < 4294967296) (w : World) : Calls Try.prog 15 #[.int .u32 n] w fun e w' => e = .returned (.agg (cellsOf .u64 5 (smL n))) ∧ w.grownBy w' none := by
  have h0 : IntKind.u64.wrap (n : Int) = (n : Int) := by rw [IntKind.wrap_u64]; omega
  have H0 := Lib.hid h0
  clear h0 hn
  have hA : Holds (w.alloc (.cells #[.int .u64 0, .int .u64 0, .int .u64 0, .int .u64 0, .int .u64 0] 28)) w.heap.size 28 .u64 5 (fun _ => 0) := holds_alloc w 28 .u64 5 (fun _ => 0) _ rfl
  have g1 := World.grownBy_alloc w (.cells #[.int .u64 0, .int .u64 0, .int .u64 0, .int .u64 0, .int .u64 0] 28) none
  go_enter Try.func15, Try.ntmps15
  go_upto_region 1 with fail
  generalize w.alloc (.cells #[.int .u64 0, .int .u64 0, .int .u64 0, .int .u64 0, .int .u64 0] 28) = w1 at *
  have b0 := hA.cell 0 (by decide)
  have b1 := hA.cell 1 (by decide)
  have b2 := hA.cell 2 (by decide)
  have b3 := hA.cell 3 (by decide)
  have b4 := hA.cell 4 (by decide)
  have f0 := hA.frozen 0
  have f1 := hA.frozen 1
  have f2 := hA.frozen 2
  have f3 := hA.frozen 3
  have f4 := hA.frozen 4
  go_wp2_with fail
  simp only [H0.out]
  have hs := Nat.le_refl w.heap.size
  exact bodyPost_ret (v := .agg (cellsOf .u64 5 (smL n))) (res_row rfl rfl (store_five hA n 0 0 0 0) (by kernel_rfl) (by kernel_rfl)) rfl ⟨rfl, grown_setCell_new (grown_setCell_new (grown_setCell_new (grown_setCell_new (grown_setCell_new g1 _ _ (Or.inl hs)) _ _ (Or.inl hs)) _ _ (Or.inl hs)) _ _ (Or.inl hs)) _ _ (Or.inl hs)⟩

end Go.Proofs.Ytpnddojcihdniaa
