/-
  hailerlaw08's known.
-/
import Derived.Test.YtpkeolggehjjlaaLawPut
import Derived.Test.YtpkeolggehjjlaaOutKeep
import Derived.Test.YtpkeolggehjjlaaInKeep
import Derived.Test.YtpkeolggehjjlaaLawTake
namespace Go.Proofs.Ytpkeolggehjjlaa
open Go.RowKit

set_option maxRecDepth 100000
set_option maxHeartbeats 4000000

/-- The chapter's bytes. -/
def kF (i : Nat) : Nat := ([1, 0, 0, 0, 2, 0, 2, 104, 105] : List Nat).getD i 0
theorem kF_lt (i : Nat) : kF i < 256 := getD_lt 256 (by decide) _ (by decide) i
/-- The table's cells. -/
def tabV (i : Nat) : Value := ([.int .i64 9, .int .i64 4, .int .i64 0, .int .i64 8, .int .i64 4, .int .i64 3, .int .i64 9, .int .i64 1, .int .i64 3] : List Value).getD i undef
theorem OAt.foreign {w0 w : World} {p : Option Addr} {lim n : Nat} {f : Nat → Nat} (h : OAt w0 w p (.good lim n f)) (k : Nat) (hk : w.heap.size ≤ k) : Foreign w p k := by
  intro g hg
  obtain ⟨g', a, c, h1, h2, h3, h4, h5⟩ := h.st
  rw [hg] at h1
  cases h1
  have hlt := World.block_lt_of_cell? w _ h3.c0
  have hlt' : g < w.heap.size := hlt
  refine ⟨by omega, fun b n c hc => ?_⟩
  rw [h3.c0] at hc
  cases hc
  rcases h4.ex with ⟨e, _⟩ | ⟨b', cap, e, k1, _⟩
  · cases e
  · cases e
    have := k1.lt
    omega
theorem Foreign.grown {w0 w w' : World} {p : Option Addr} {lim n k : Nat} {f : Nat → Nat} (h : Foreign w p k) (hE : OAt w0 w p (.good lim n f)) (gr : w.grownBy w' none) : Foreign w' p k := by
  intro g hg
  obtain ⟨h1, h2⟩ := h g hg
  refine ⟨h1, fun b n c hc => ?_⟩
  obtain ⟨g', a, c', k1, k2, k3, _⟩ := hE.st
  rw [hg] at k1
  cases k1
  rw [gr.cell k3.c0 (by simp)] at hc
  cases hc
  exact h2 b _ _ k3.c0
/-- A field of each kind. -/
def sevenX (q : Nat) : FV := ⟨q % 7, 0, none, 0, 0, fun _ => 0, none, 0, 0, fun _ => 0, 0⟩
theorem seven_flds (w : World) : Flds (w.alloc (.cells #[.int .u8 0, .int .u64 0, .slice none 0 0, .slice none 0 0, .int .i64 0, .int .u8 1, .int .u64 0, .slice none 0 0, .slice none 0 0, .int .i64 0, .int .u8 2, .int .u64 0, .slice none 0 0, .slice none 0 0, .int .i64 0, .int .u8 3, .int .u64 0, .slice none 0 0, .slice none 0 0, .int .i64 0, .int .u8 4, .int .u64 0, .slice none 0 0, .slice none 0 0, .int .i64 0, .int .u8 5, .int .u64 0, .slice none 0 0, .slice none 0 0, .int .i64 0, .int .u8 6, .int .u64 0, .slice none 0 0, .slice none 0 0, .int .i64 0] 54)) (w.heap.size + 1) (some ⟨w.heap.size, 0, none⟩) 7 sevenX where
  ex := fun _ => ⟨w.heap.size, 0, rfl, Nat.lt_succ_self _, fun i hi => by
    have hb := heap_alloc_new w (.cells #[.int .u8 0, .int .u64 0, .slice none 0 0, .slice none 0 0, .int .i64 0, .int .u8 1, .int .u64 0, .slice none 0 0, .slice none 0 0, .int .i64 0, .int .u8 2, .int .u64 0, .slice none 0 0, .slice none 0 0, .int .i64 0, .int .u8 3, .int .u64 0, .slice none 0 0, .slice none 0 0, .int .i64 0, .int .u8 4, .int .u64 0, .slice none 0 0, .slice none 0 0, .int .i64 0, .int .u8 5, .int .u64 0, .slice none 0 0, .slice none 0 0, .int .i64 0, .int .u8 6, .int .u64 0, .slice none 0 0, .slice none 0 0, .int .i64 0] 54)
    obtain rfl | rfl | rfl | rfl | rfl | rfl | rfl : i = 0 ∨ i = 1 ∨ i = 2 ∨ i = 3 ∨ i = 4 ∨ i = 5 ∨ i = 6 := by omega
    all_goals exact ⟨cell_of_row _ _ _ _ _ _ hb, cell_of_row _ _ _ _ _ _ hb, cell_of_row _ _ _ _ _ _ hb, cell_of_row _ _ _ _ _ _ hb, cell_of_row _ _ _ _ _ _ hb⟩⟩
  mem := fun i _ => ⟨⟨fun h => absurd h (Nat.not_lt_zero _)⟩, ⟨fun h => absurd h (Nat.not_lt_zero _)⟩⟩
  ok := fun i => ⟨Nat.lt_trans (Nat.mod_lt i (by decide)) (by decide), (by decide : (0 : Nat) < _), fun _ => (by decide : (0 : Nat) < 256), fun _ => (by decide : (0 : Nat) < 4294967296), (by decide : (0 : Nat) ≤ _), (by decide : (0 : Nat) ≤ _), by show (-9223372036854775808 : Int) ≤ 0; decide, by show (0 : Int) < 9223372036854775808; decide⟩
theorem OSt.field_nil (x : FV) : OSt.field .nil x = .nil := by
  unfold OSt.field
  have h1 : ∀ m n, OSt.count .nil m n = .nil := fun m n => by
    unfold OSt.count
    split <;> rfl
  have h2 : ∀ fl n, OSt.nums .nil fl n = .nil := fun fl n => OSt.nums_over .nil fl rfl n
  repeat' split
  all_goals first | rfl | (rw [h1]; rfl) | (rw [h1, h2])
theorem OSt.fields_nil (X : Nat → FV) : ∀ n, OSt.fields .nil X n = .nil
  | 0 => rfl
  | n + 1 => by
    show (OSt.fields .nil X n).field (X n) = .nil
    rw [OSt.fields_nil X n, OSt.field_nil]
theorem ISt.field_nil (L : Nat) (F : Nat → Nat) (k nb : Nat) (m : Int) : ISt.field L F .nil k nb m = .nil := by
  unfold ISt.field
  have h1 : ISt.cntS L F .nil m = .nil := by
    unfold ISt.cntS
    split <;> rfl
  have h2 : ISt.flagS L F .nil = .nil := by
    unfold ISt.flagS
    split <;> rfl
  have h3 : ∀ n, ISt.many L .nil n = .nil := fun n => ISt.many_stay L .nil 0 rfl n (Nat.zero_le _)
  repeat' split
  all_goals first | rfl | exact h2 | (rw [h1]; rfl) | (rw [h1, h3])
theorem ISt.fields_nil (L : Nat) (F : Nat → Nat) (X : Nat → FV) : ∀ n, ISt.fields L F .nil X n = .nil
  | 0 => rfl
  | n + 1 => by
    show (ISt.fields L F .nil X n).field L F _ _ _ = .nil
    rw [ISt.fields_nil L F X n, ISt.field_nil]
theorem row_ge {w : World} {p : Option Addr} {L D : Nat} {F : Nat → Nat} {s : ISt} (h : IAt w p L F s) (hg : ∀ g, p = some ⟨g, 0, none⟩ → D ≤ g) (k : Nat) (hk : rowP p = some k) : D ≤ k := by
  have hs := h.st
  cases s with
  | nil =>
    have h0 : p = none := hs
    rw [h0] at hk; cases hk
  | bad =>
    obtain ⟨g, h1, _⟩ := hs
    rw [h1] at hk; cases hk
    exact hg g h1
  | good q =>
    obtain ⟨g, _, _, h1, _⟩ := hs
    rw [h1] at hk; cases hk
    exact hg g h1
theorem known_any (w : World) : Calls Try.prog 6 #[] w fun e w' => e = .returned (.bool true) ∧ w.grownBy w' none := by
  have hb := heap_alloc_new w (.cells #[.int .i64 9, .int .i64 4, .int .i64 0, .int .i64 8, .int .i64 4, .int .i64 3, .int .i64 9, .int .i64 1, .int .i64 3] 45)
  have ht : ∀ i, i < 9 → (w.alloc (.cells #[.int .i64 9, .int .i64 4, .int .i64 0, .int .i64 8, .int .i64 4, .int .i64 3, .int .i64 9, .int .i64 1, .int .i64 3] 45)).cell? ⟨w.heap.size, i, none⟩ = some (tabV i) := fun i hi => by
    rw [cell_of_row _ _ _ _ _ _ hb]
    obtain rfl | rfl | rfl | rfl | rfl | rfl | rfl | rfl | rfl : i = 0 ∨ i = 1 ∨ i = 2 ∨ i = 3 ∨ i = 4 ∨ i = 5 ∨ i = 6 ∨ i = 7 ∨ i = 8 := by omega
    all_goals rfl
  have g0 := World.grownBy_alloc w (.cells #[.int .i64 9, .int .i64 4, .int .i64 0, .int .i64 8, .int .i64 4, .int .i64 3, .int .i64 9, .int .i64 1, .int .i64 3] 45) none
  have HT := Lib.hid ht
  have G0 := Lib.hid g0
  clear hb ht g0
  go_enter Try.func6, Try.ntmps6
  go_wp2_with fail
  obtain ⟨B, hB⟩ : ∃ B, B = w.heap.size := ⟨_, rfl⟩
  rw [← hB] at HT ⊢
  clear hB
  generalize w.alloc (.cells #[.int .i64 9, .int .i64 4, .int .i64 0, .int .i64 8, .int .i64 4, .int .i64 3, .int .i64 9, .int .i64 1, .int .i64 3] 45) = w1 at *
  go_loopw [19] (fun u19 wr => ∃ i : Nat, i ≤ 3 ∧ u19 = .int .i64 i ∧ w1.grownBy wr none) (fun u19 _ => 3 - (intOf u19).toNat)
  case atStart => exact ⟨0, Nat.zero_le _, rfl, grown_refl _ _⟩
  case round =>
    obtain ⟨i, hi, rfl, hg⟩ := hrel
    by_cases hlt : i < 3
    · obtain rfl | rfl | rfl : i = 0 ∨ i = 1 ∨ i = 2 := by omega
      · clear hlt
        have c0 := hg.cell (HT.out 0 (by decide)) (by simp)
        have c1 := hg.cell (HT.out 1 (by decide)) (by simp)
        have c2 := hg.cell (HT.out 2 (by decide)) (by simp)
        simp only [tabV, List.getD_cons_zero, List.getD_cons_succ] at c0 c1 c2
        have G := Lib.hid hg
        clear hg hi
        have hxb := heap_alloc_new wr (.cells #[.int .i64 9, .int .i64 4, .int .i64 0] 45)
        have x0 : (wr.alloc (.cells #[.int .i64 9, .int .i64 4, .int .i64 0] 45)).cell? ⟨wr.heap.size, 0, none⟩ = some (.int .i64 9) := cell_of_row _ _ _ _ _ _ hxb
        have x1 : (wr.alloc (.cells #[.int .i64 9, .int .i64 4, .int .i64 0] 45)).cell? ⟨wr.heap.size, 1, none⟩ = some (.int .i64 4) := cell_of_row _ _ _ _ _ _ hxb
        have x2 : (wr.alloc (.cells #[.int .i64 9, .int .i64 4, .int .i64 0] 45)).cell? ⟨wr.heap.size, 2, none⟩ = some (.int .i64 0) := cell_of_row _ _ _ _ _ _ hxb
        have gv := World.grownBy_alloc wr (.cells #[.int .i64 9, .int .i64 4, .int .i64 0] 45) none
        have X1 := Lib.hid x1
        have X2 := Lib.hid x2
        have GV := Lib.hid gv
        clear x0 x1 x2 hxb gv
        go_upto_region 4 with fail
        have x0 : (wr.alloc (.cells #[.int .i64 9, .int .i64 4, .int .i64 0] 45)).cell? ⟨wr.heap.size, 0, none⟩ = some (.int .i64 9) := cell_of_row _ _ _ _ _ _ (heap_alloc_new wr _)
        obtain ⟨X, hX⟩ : ∃ X, X = wr.heap.size := ⟨_, rfl⟩
        rw [← hX] at X1 X2 x0 ⊢
        clear hX c0 c1 c2
        generalize wr.alloc (.cells #[.int .i64 9, .int .i64 4, .int .i64 0] 45) = V0 at *
        have HN := Lib.hid (newOut_any 9 (by decide) (by decide) V0)
        go_wp2_with fail
        go_at_call 8
        refine HN.out.mono ?_
        rintro e w2 ⟨p, rfl, hE0⟩
        have hE : OAt V0 w2 p (.good 9 0 (fun _ => 0)) := hE0
        have HP1 := Lib.hid (outU8_any _ 1 1 _ _ (hE.grown (World.grownBy_alloc w2 (.cells #[.int .u8 1] 5) none)) (rd_one w2 1 (w2.heap.size + 1) (by omega)) (by show (0 : Nat) + 1 ≤ _; decide))
        clear hE hE0 HN x0
        go_wp2_with fail
        go_at_call 18
        refine HP1.out.mono ?_
        rintro e w3 ⟨rfl, hE⟩
        have HP2 := Lib.hid (outU32_any 2 _ 0 1 (hE.grown (World.grownBy_alloc w3 (.cells #[.int .u32 2] 49) none)) (by decide) (rd_u32 w3 2) (by show (1 : Nat) + 4 ≤ _; decide))
        clear hE HP1
        go_wp2_with fail
        go_at_call 19
        refine HP2.out.mono ?_
        rintro e w4 ⟨rfl, hE⟩
        obtain ⟨F5, hF5⟩ : ∃ F5, F5 = cat 1 (cat 0 (fun _ => 0) (fun _ => 1)) (nbF 2 4) := ⟨_, rfl⟩
        have hE2 : OAt V0 w4 p (.good 9 5 F5) := by rw [hF5]; exact hE
        obtain ⟨hcv4, g4, hR4⟩ := const_bytes w4 2 (fun i => if i = 0 then 104 else 105) #[.int .u8 104, .int .u8 105] rfl
        have hfr := (hE2.foreign w4.heap.size (Nat.le_refl _)).grown hE2 g4
        have hE3 := hE2.grown g4
        have hcv := hcv4 w4.heap.size rfl
        have hz : w4.heap.size < (w4.alloc (.cells #[.int .u8 104, .int .u8 105] 5 (#[Value.int .u8 104, Value.int .u8 105].size, #[Value.int .u8 104, Value.int .u8 105].size + 1))).heap.size := by rw [World.size_alloc]; omega
        have HS := Lib.hid (outSized2_any 4 2 2 w4.heap.size 0 (fun i => if i = 0 then 104 else 105) hE3 hfr hz (fun i hi => by
          obtain ⟨tb, o, e1, _, e2⟩ := hR4.ex (by decide)
          cases e1
          exact e2 i hi) (by decide) (by decide) (by decide))
        have x1 := (hE2.gr).cell X1.out (by simp)
        have x1' := (World.grownBy_alloc w4 (.cells #[.int .u8 104, .int .u8 105] 5) none).cell x1 (by simp)
        clear hE hE2 hE3 hfr hz hR4 g4 HP2 hcv4
        go_wp2_with fail
        go_at_call 20
        refine HS.out.mono ?_
        rintro e w5 ⟨rfl, hE5⟩
        rw [hF5] at hE5
        clear HS hcv x1 x1' hF5
        have hk : OAt V0 w5 p (.good 9 9 kF) := by
          refine OAt.eqv (f := _) hE5 (fun q hq => ?_)
          obtain rfl | rfl | rfl | rfl | rfl | rfl | rfl | rfl | rfl : q = 0 ∨ q = 1 ∨ q = 2 ∨ q = 3 ∨ q = 4 ∨ q = 5 ∨ q = 6 ∨ q = 7 ∨ q = 8 := by omega
          all_goals rfl
        have HB : Hid (Calls Try.prog 10 #[.pointer p] w5 fun e w' => ∃ a c, e = .returned (.tuple #[.slice a 9 c, .int .i64 0]) ∧ OwnN w' w5.heap.size (.slice a 9 c) 9 kF ∧ w5.grownBy w' none) := (outBytes_any hk (by show (9 : Nat) ≤ _; decide)).mono fun e w' h => h.ex
        have HG5 := Lib.hid hk.gr
        clear hk hE5
        go_wp2_with fail
        go_at_call 10
        refine HB.out.mono ?_
        rintro e w6 ⟨a6, c6, rfl, hO6, g6⟩
        obtain ⟨a7, c7, he7, hc7, hR7⟩ := hO6.rd
        cases he7
        have hcv : (convert 28 9 (.slice a6 9 c6)).run Try.prog w6 = .ok (.string ⟨#[1, 0, 0, 0, 2, 0, 2, 104, 105]⟩) w6 := by
          have h1 := run_string c6 hR7 kF_lt
          rw [show strOf 9 kF = ⟨#[1, 0, 0, 0, 2, 0, 2, 104, 105]⟩ by kernel_rfl] at h1
          exact h1
        have x2 := (grown_trans HG5.out g6).cell X2.out (by simp)
        have GE := Lib.hid (grown_trans G.out (grown_trans GV.out (grown_trans HG5.out g6)))
        clear hO6 g6 hc7 hR7 HB HG5
        go_wp2_with fail
        go_roundw
        case rel => exact ⟨1, by decide, rfl, GE.out⟩
        case measure => decide
      · clear hlt
        have c0 := hg.cell (HT.out 3 (by decide)) (by simp)
        have c1 := hg.cell (HT.out 4 (by decide)) (by simp)
        have c2 := hg.cell (HT.out 5 (by decide)) (by simp)
        simp only [tabV, List.getD_cons_zero, List.getD_cons_succ] at c0 c1 c2
        have G := Lib.hid hg
        clear hg hi
        have hxb := heap_alloc_new wr (.cells #[.int .i64 8, .int .i64 4, .int .i64 3] 45)
        have x0 : (wr.alloc (.cells #[.int .i64 8, .int .i64 4, .int .i64 3] 45)).cell? ⟨wr.heap.size, 0, none⟩ = some (.int .i64 8) := cell_of_row _ _ _ _ _ _ hxb
        have x1 : (wr.alloc (.cells #[.int .i64 8, .int .i64 4, .int .i64 3] 45)).cell? ⟨wr.heap.size, 1, none⟩ = some (.int .i64 4) := cell_of_row _ _ _ _ _ _ hxb
        have x2 : (wr.alloc (.cells #[.int .i64 8, .int .i64 4, .int .i64 3] 45)).cell? ⟨wr.heap.size, 2, none⟩ = some (.int .i64 3) := cell_of_row _ _ _ _ _ _ hxb
        have gv := World.grownBy_alloc wr (.cells #[.int .i64 8, .int .i64 4, .int .i64 3] 45) none
        have X1 := Lib.hid x1
        have X2 := Lib.hid x2
        have GV := Lib.hid gv
        clear x0 x1 x2 hxb gv
        go_upto_region 4 with fail
        have x0 : (wr.alloc (.cells #[.int .i64 8, .int .i64 4, .int .i64 3] 45)).cell? ⟨wr.heap.size, 0, none⟩ = some (.int .i64 8) := cell_of_row _ _ _ _ _ _ (heap_alloc_new wr _)
        obtain ⟨X, hX⟩ : ∃ X, X = wr.heap.size := ⟨_, rfl⟩
        rw [← hX] at X1 X2 x0 ⊢
        clear hX c0 c1 c2
        generalize wr.alloc (.cells #[.int .i64 8, .int .i64 4, .int .i64 3] 45) = V0 at *
        have HN := Lib.hid (newOut_any 8 (by decide) (by decide) V0)
        go_wp2_with fail
        go_at_call 8
        refine HN.out.mono ?_
        rintro e w2 ⟨p, rfl, hE0⟩
        have hE : OAt V0 w2 p (.good 8 0 (fun _ => 0)) := hE0
        have HP1 := Lib.hid (outU8_any _ 1 1 _ _ (hE.grown (World.grownBy_alloc w2 (.cells #[.int .u8 1] 5) none)) (rd_one w2 1 (w2.heap.size + 1) (by omega)) (by show (0 : Nat) + 1 ≤ _; decide))
        clear hE hE0 HN x0
        go_wp2_with fail
        go_at_call 18
        refine HP1.out.mono ?_
        rintro e w3 ⟨rfl, hE⟩
        have HP2 := Lib.hid (outU32_any 2 _ 0 1 (hE.grown (World.grownBy_alloc w3 (.cells #[.int .u32 2] 49) none)) (by decide) (rd_u32 w3 2) (by show (1 : Nat) + 4 ≤ _; decide))
        clear hE HP1
        go_wp2_with fail
        go_at_call 19
        refine HP2.out.mono ?_
        rintro e w4 ⟨rfl, hE⟩
        obtain ⟨F5, hF5⟩ : ∃ F5, F5 = cat 1 (cat 0 (fun _ => 0) (fun _ => 1)) (nbF 2 4) := ⟨_, rfl⟩
        have hE2 : OAt V0 w4 p (.good 8 5 F5) := by rw [hF5]; exact hE
        obtain ⟨hcv4, g4, hR4⟩ := const_bytes w4 2 (fun i => if i = 0 then 104 else 105) #[.int .u8 104, .int .u8 105] rfl
        have hfr := (hE2.foreign w4.heap.size (Nat.le_refl _)).grown hE2 g4
        have hE3 := hE2.grown g4
        have hcv := hcv4 w4.heap.size rfl
        have hz : w4.heap.size < (w4.alloc (.cells #[.int .u8 104, .int .u8 105] 5 (#[Value.int .u8 104, Value.int .u8 105].size, #[Value.int .u8 104, Value.int .u8 105].size + 1))).heap.size := by rw [World.size_alloc]; omega
        have HS := Lib.hid (outSized2_any 4 2 2 w4.heap.size 0 (fun i => if i = 0 then 104 else 105) hE3 hfr hz (fun i hi => by
          obtain ⟨tb, o, e1, _, e2⟩ := hR4.ex (by decide)
          cases e1
          exact e2 i hi) (by decide) (by decide) (by decide))
        have x1 := (hE2.gr).cell X1.out (by simp)
        have x1' := (World.grownBy_alloc w4 (.cells #[.int .u8 104, .int .u8 105] 5) none).cell x1 (by simp)
        clear hE hE2 hE3 hfr hz hR4 g4 HP2 hcv4
        go_wp2_with fail
        go_at_call 20
        refine HS.out.mono ?_
        rintro e w5 ⟨rfl, hE5⟩
        rw [hF5] at hE5
        clear HS hcv x1 x1' hF5
        have hk : OAt V0 w5 p .bad := hE5
        have HB : Hid (Calls Try.prog 10 #[.pointer p] w5 fun e w' => ∃ a c, e = .returned (.tuple #[.slice a 0 c, .int .i64 3]) ∧ OwnN w' w5.heap.size (.slice a 0 c) 0 (fun _ => 0) ∧ w5.grownBy w' none) := (outBytes_any hk (by show (0 : Nat) ≤ _; decide)).mono fun e w' h => h.ex
        have HG5 := Lib.hid hk.gr
        clear hk hE5
        go_wp2_with fail
        go_at_call 10
        refine HB.out.mono ?_
        rintro e w6 ⟨a6, c6, rfl, hO6, g6⟩
        have x2 := (grown_trans HG5.out g6).cell X2.out (by simp)
        have GE := Lib.hid (grown_trans G.out (grown_trans GV.out (grown_trans HG5.out g6)))
        clear hO6 g6 HB HG5
        go_wp2_with fail
        go_roundw
        case rel => exact ⟨2, by decide, rfl, GE.out⟩
        case measure => decide
      · clear hlt
        have c0 := hg.cell (HT.out 6 (by decide)) (by simp)
        have c1 := hg.cell (HT.out 7 (by decide)) (by simp)
        have c2 := hg.cell (HT.out 8 (by decide)) (by simp)
        simp only [tabV, List.getD_cons_zero, List.getD_cons_succ] at c0 c1 c2
        have G := Lib.hid hg
        clear hg hi
        have hxb := heap_alloc_new wr (.cells #[.int .i64 9, .int .i64 1, .int .i64 3] 45)
        have x0 : (wr.alloc (.cells #[.int .i64 9, .int .i64 1, .int .i64 3] 45)).cell? ⟨wr.heap.size, 0, none⟩ = some (.int .i64 9) := cell_of_row _ _ _ _ _ _ hxb
        have x1 : (wr.alloc (.cells #[.int .i64 9, .int .i64 1, .int .i64 3] 45)).cell? ⟨wr.heap.size, 1, none⟩ = some (.int .i64 1) := cell_of_row _ _ _ _ _ _ hxb
        have x2 : (wr.alloc (.cells #[.int .i64 9, .int .i64 1, .int .i64 3] 45)).cell? ⟨wr.heap.size, 2, none⟩ = some (.int .i64 3) := cell_of_row _ _ _ _ _ _ hxb
        have gv := World.grownBy_alloc wr (.cells #[.int .i64 9, .int .i64 1, .int .i64 3] 45) none
        have X1 := Lib.hid x1
        have X2 := Lib.hid x2
        have GV := Lib.hid gv
        clear x0 x1 x2 hxb gv
        go_upto_region 4 with fail
        have x0 : (wr.alloc (.cells #[.int .i64 9, .int .i64 1, .int .i64 3] 45)).cell? ⟨wr.heap.size, 0, none⟩ = some (.int .i64 9) := cell_of_row _ _ _ _ _ _ (heap_alloc_new wr _)
        obtain ⟨X, hX⟩ : ∃ X, X = wr.heap.size := ⟨_, rfl⟩
        rw [← hX] at X1 X2 x0 ⊢
        clear hX c0 c1 c2
        generalize wr.alloc (.cells #[.int .i64 9, .int .i64 1, .int .i64 3] 45) = V0 at *
        have HN := Lib.hid (newOut_any 9 (by decide) (by decide) V0)
        go_wp2_with fail
        go_at_call 8
        refine HN.out.mono ?_
        rintro e w2 ⟨p, rfl, hE0⟩
        have hE : OAt V0 w2 p (.good 9 0 (fun _ => 0)) := hE0
        have HP1 := Lib.hid (outU8_any _ 1 1 _ _ (hE.grown (World.grownBy_alloc w2 (.cells #[.int .u8 1] 5) none)) (rd_one w2 1 (w2.heap.size + 1) (by omega)) (by show (0 : Nat) + 1 ≤ _; decide))
        clear hE hE0 HN x0
        go_wp2_with fail
        go_at_call 18
        refine HP1.out.mono ?_
        rintro e w3 ⟨rfl, hE⟩
        have HP2 := Lib.hid (outU32_any 2 _ 0 1 (hE.grown (World.grownBy_alloc w3 (.cells #[.int .u32 2] 49) none)) (by decide) (rd_u32 w3 2) (by show (1 : Nat) + 4 ≤ _; decide))
        clear hE HP1
        go_wp2_with fail
        go_at_call 19
        refine HP2.out.mono ?_
        rintro e w4 ⟨rfl, hE⟩
        obtain ⟨F5, hF5⟩ : ∃ F5, F5 = cat 1 (cat 0 (fun _ => 0) (fun _ => 1)) (nbF 2 4) := ⟨_, rfl⟩
        have hE2 : OAt V0 w4 p (.good 9 5 F5) := by rw [hF5]; exact hE
        obtain ⟨hcv4, g4, hR4⟩ := const_bytes w4 2 (fun i => if i = 0 then 104 else 105) #[.int .u8 104, .int .u8 105] rfl
        have hfr := (hE2.foreign w4.heap.size (Nat.le_refl _)).grown hE2 g4
        have hE3 := hE2.grown g4
        have hcv := hcv4 w4.heap.size rfl
        have hz : w4.heap.size < (w4.alloc (.cells #[.int .u8 104, .int .u8 105] 5 (#[Value.int .u8 104, Value.int .u8 105].size, #[Value.int .u8 104, Value.int .u8 105].size + 1))).heap.size := by rw [World.size_alloc]; omega
        have HS := Lib.hid (outSized2_any 1 2 2 w4.heap.size 0 (fun i => if i = 0 then 104 else 105) hE3 hfr hz (fun i hi => by
          obtain ⟨tb, o, e1, _, e2⟩ := hR4.ex (by decide)
          cases e1
          exact e2 i hi) (by decide) (by decide) (by decide))
        have x1 := (hE2.gr).cell X1.out (by simp)
        have x1' := (World.grownBy_alloc w4 (.cells #[.int .u8 104, .int .u8 105] 5) none).cell x1 (by simp)
        clear hE hE2 hE3 hfr hz hR4 g4 HP2 hcv4
        go_wp2_with fail
        go_at_call 20
        refine HS.out.mono ?_
        rintro e w5 ⟨rfl, hE5⟩
        rw [hF5] at hE5
        clear HS hcv x1 x1' hF5
        have hk : OAt V0 w5 p .bad := hE5
        have HB : Hid (Calls Try.prog 10 #[.pointer p] w5 fun e w' => ∃ a c, e = .returned (.tuple #[.slice a 0 c, .int .i64 3]) ∧ OwnN w' w5.heap.size (.slice a 0 c) 0 (fun _ => 0) ∧ w5.grownBy w' none) := (outBytes_any hk (by show (0 : Nat) ≤ _; decide)).mono fun e w' h => h.ex
        have HG5 := Lib.hid hk.gr
        clear hk hE5
        go_wp2_with fail
        go_at_call 10
        refine HB.out.mono ?_
        rintro e w6 ⟨a6, c6, rfl, hO6, g6⟩
        have x2 := (grown_trans HG5.out g6).cell X2.out (by simp)
        have GE := Lib.hid (grown_trans G.out (grown_trans GV.out (grown_trans HG5.out g6)))
        clear hO6 g6 HB HG5
        go_wp2_with fail
        go_roundw
        case rel => exact ⟨3, by decide, rfl, GE.out⟩
        case measure => decide
    · obtain rfl : i = 3 := by omega
      have GW := Lib.hid (grown_trans G0.out hg)
      clear hg hi hlt G0 HT
      have gA := World.grownBy_alloc wr (.cells #[.int .u8 2] 5) none
      have HI := Lib.hid (newInF_any (wr.heap.size + 1) 1 1 _ (fun _ => 2) _ (rd_one wr 2 (wr.heap.size + 1) (by omega)) (by decide))
      have GA := Lib.hid gA
      clear gA
      go_wp2_with fail
      go_at_call 12
      refine HI.out.mono ?_
      rintro e w2 ⟨pi, rfl, hI, hig, g2, _⟩
      have HPG : Hid (∀ k, rowP pi = some k → w.heap.size ≤ k) := fun k hk => (by
        have h1 : (wr.alloc (.cells #[.int .u8 2] 5)).heap.size ≤ k := row_ge hI hig k hk
        have h2 := (grown_trans GW.out GA.out).size
        omega)
      have HJ := Lib.hid (newInF_any (w2.heap.size + 1) 2 2 _ (fun i => if i = 0 then 1 else 7) _ (rd_two w2 1 7 (w2.heap.size + 1) (by omega)) (by decide))
      have gB := World.grownBy_alloc w2 (.cells #[.int .u8 1, .int .u8 7] 5) none
      have HI2 := Lib.hid (hI.grown0 gB)
      have hlt := hI.rowP_lt
      have G2 := Lib.hid (grown_trans (grown_trans (grown_trans GW.out GA.out) g2) gB)
      have HLT := Lib.hid (fun k hk => Nat.lt_of_lt_of_le (hlt k hk) gB.size)
      clear hI g2 gB HI hlt GW GA hig
      go_wp2_with fail
      go_at_call 12
      refine HJ.out.mono ?_
      rintro e w3 ⟨pj, rfl, hJ, hjg, g3, hjf⟩
      have HPJ : Hid (∀ k, rowP pj = some k → w.heap.size ≤ k) := fun k hk => (by
        have h1 : (w2.alloc (.cells #[.int .u8 1, .int .u8 7] 5)).heap.size ≤ k := row_ge hJ hjg k hk
        have h2 := G2.out.size
        omega)
      have hI := HI2.out.grown0 g3
      have G3 := Lib.hid (grown_trans G2.out g3)
      clear HI2 HJ G2 g3
      have hA : Hid (Calls Try.prog 21 #[.pointer pi] w3 fun e w' => e = .returned (.bool false) ∧ ISays w3 pi 1 (fun _ => 2) .bad w') := (inFlag_any hI (fun _ => by decide)).mono fun e w' h => h
      have HJ := Lib.hid hJ
      have HJF := Lib.hid hjf
      clear hJ hjf hI
      go_wp2_with fail
      go_at_call 21
      refine hA.out.mono ?_
      rintro e w4 ⟨rfl, hI⟩
      have hJ : IAt w4 pj 2 (fun i => if i = 0 then 1 else 7) (.good 0) := by
        have hgr := hI.gr
        cases hrp : rowP pi with
        | none => rw [hrp] at hgr; exact HJ.out.grown0 hgr
        | some k => rw [hrp] at hgr; exact HJ.out.foreign (HJF.out k (HLT.out k hrp)) hgr
      have G4 := Lib.hid (grown_row G3.out hI.gr (fun k hk => HPG.out k hk))
      have hB : Hid (Calls Try.prog 16 #[.pointer pi] w4 fun e w' => e = .returned (.int .i64 9) ∧ w4 = w') := inEnd_any hI.st
      have hC : Hid (Calls Try.prog 21 #[.pointer pj] w4 fun e w' => e = .returned (.bool true) ∧ ISays w4 pj 2 (fun i => if i = 0 then 1 else 7) (.good 1) w') := (inFlag_any hJ (fun i => by show (if i = 0 then 1 else 7) < 256; split <;> decide)).mono fun e w' h => h
      clear hA HJ HJF hI hJ G3
      go_wp2_with fail
      go_at_call 16
      refine hB.out.mono ?_
      rintro e w5 ⟨rfl, rfl⟩
      clear hB
      go_wp2_with fail
      go_at_call 21
      refine hC.out.mono ?_
      rintro e w5 ⟨rfl, hJ⟩
      have G5 := Lib.hid (grown_row G4.out hJ.gr (fun k hk => HPJ.out k hk))
      have hD : Hid (Calls Try.prog 15 #[.pointer pj] w5 fun e w' => e = .returned (.int .i64 1) ∧ w5 = w') := inLeft_any hJ.st
      have hE : Hid (Calls Try.prog 16 #[.pointer pj] w5 fun e w' => e = .returned (.int .i64 9) ∧ w5 = w') := inEnd_any hJ.st
      clear hC hJ G4
      go_wp2_with fail
      go_at_call 15
      refine hD.out.mono ?_
      rintro e w6 ⟨rfl, rfl⟩
      clear hD
      go_wp2_with fail
      go_at_call 16
      refine hE.out.mono ?_
      rintro e w6 ⟨rfl, rfl⟩
      clear hE
      have hS := seven_flds w5
      have gS := World.grownBy_alloc w5 (.cells #[.int .u8 0, .int .u64 0, .slice none 0 0, .slice none 0 0, .int .i64 0, .int .u8 1, .int .u64 0, .slice none 0 0, .slice none 0 0, .int .i64 0, .int .u8 2, .int .u64 0, .slice none 0 0, .slice none 0 0, .int .i64 0, .int .u8 3, .int .u64 0, .slice none 0 0, .slice none 0 0, .int .i64 0, .int .u8 4, .int .u64 0, .slice none 0 0, .slice none 0 0, .int .i64 0, .int .u8 5, .int .u64 0, .slice none 0 0, .slice none 0 0, .int .i64 0, .int .u8 6, .int .u64 0, .slice none 0 0, .slice none 0 0, .int .i64 0] 54) none
      have hO : OAt (w5.alloc (.cells #[.int .u8 0, .int .u64 0, .slice none 0 0, .slice none 0 0, .int .i64 0, .int .u8 1, .int .u64 0, .slice none 0 0, .slice none 0 0, .int .i64 0, .int .u8 2, .int .u64 0, .slice none 0 0, .slice none 0 0, .int .i64 0, .int .u8 3, .int .u64 0, .slice none 0 0, .slice none 0 0, .int .i64 0, .int .u8 4, .int .u64 0, .slice none 0 0, .slice none 0 0, .int .i64 0, .int .u8 5, .int .u64 0, .slice none 0 0, .slice none 0 0, .int .i64 0, .int .u8 6, .int .u64 0, .slice none 0 0, .slice none 0 0, .int .i64 0] 54)) (w5.alloc (.cells #[.int .u8 0, .int .u64 0, .slice none 0 0, .slice none 0 0, .int .i64 0, .int .u8 1, .int .u64 0, .slice none 0 0, .slice none 0 0, .int .i64 0, .int .u8 2, .int .u64 0, .slice none 0 0, .slice none 0 0, .int .i64 0, .int .u8 3, .int .u64 0, .slice none 0 0, .slice none 0 0, .int .i64 0, .int .u8 4, .int .u64 0, .slice none 0 0, .slice none 0 0, .int .i64 0, .int .u8 5, .int .u64 0, .slice none 0 0, .slice none 0 0, .int .i64 0, .int .u8 6, .int .u64 0, .slice none 0 0, .slice none 0 0, .int .i64 0] 54)) none .nil := ⟨rfl, grown_refl _ _⟩
      have HP := Lib.hid (lawPut_any (w5.heap.size + 1) 7 7 (some ⟨w5.heap.size, 0, none⟩) sevenX hO hS (by decide) (by show (0 : Nat) ≤ _; decide))
      have GS := Lib.hid (grown_trans G5.out gS)
      have HSZ := Lib.hid (World.size_alloc w5 (.cells #[.int .u8 0, .int .u64 0, .slice none 0 0, .slice none 0 0, .int .i64 0, .int .u8 1, .int .u64 0, .slice none 0 0, .slice none 0 0, .int .i64 0, .int .u8 2, .int .u64 0, .slice none 0 0, .slice none 0 0, .int .i64 0, .int .u8 3, .int .u64 0, .slice none 0 0, .slice none 0 0, .int .i64 0, .int .u8 4, .int .u64 0, .slice none 0 0, .slice none 0 0, .int .i64 0, .int .u8 5, .int .u64 0, .slice none 0 0, .slice none 0 0, .int .i64 0, .int .u8 6, .int .u64 0, .slice none 0 0, .slice none 0 0, .int .i64 0] 54))
      clear hS gS hO G5
      go_wp2_with fail
      go_at_call 9
      refine HP.out.mono ?_
      rintro e w6 ⟨rfl, hE⟩
      rw [OSt.fields_nil] at hE
      have G6 := Lib.hid (grown_trans GS.out hE.gr)
      have HB : Hid (Calls Try.prog 10 #[.pointer none] w6 fun e w' => ∃ a c, e = .returned (.tuple #[.slice a 0 c, .int .i64 1]) ∧ OwnN w' w6.heap.size (.slice a 0 c) 0 (fun _ => 0) ∧ w6.grownBy w' none) := (outBytes_any hE (by show (0 : Nat) ≤ _; decide)).mono fun e w' h => h.ex
      clear hE HP GS HSZ
      go_wp2_with fail
      go_at_call 10
      refine HB.out.mono ?_
      rintro e w7 ⟨a7, c7, rfl, _, g7⟩
      have G7 := Lib.hid (grown_trans G6.out g7)
      have hS := seven_flds w7
      have gS := World.grownBy_alloc w7 (.cells #[.int .u8 0, .int .u64 0, .slice none 0 0, .slice none 0 0, .int .i64 0, .int .u8 1, .int .u64 0, .slice none 0 0, .slice none 0 0, .int .i64 0, .int .u8 2, .int .u64 0, .slice none 0 0, .slice none 0 0, .int .i64 0, .int .u8 3, .int .u64 0, .slice none 0 0, .slice none 0 0, .int .i64 0, .int .u8 4, .int .u64 0, .slice none 0 0, .slice none 0 0, .int .i64 0, .int .u8 5, .int .u64 0, .slice none 0 0, .slice none 0 0, .int .i64 0, .int .u8 6, .int .u64 0, .slice none 0 0, .slice none 0 0, .int .i64 0] 54) none
      have hI : IAt (w7.alloc (.cells #[.int .u8 0, .int .u64 0, .slice none 0 0, .slice none 0 0, .int .i64 0, .int .u8 1, .int .u64 0, .slice none 0 0, .slice none 0 0, .int .i64 0, .int .u8 2, .int .u64 0, .slice none 0 0, .slice none 0 0, .int .i64 0, .int .u8 3, .int .u64 0, .slice none 0 0, .slice none 0 0, .int .i64 0, .int .u8 4, .int .u64 0, .slice none 0 0, .slice none 0 0, .int .i64 0, .int .u8 5, .int .u64 0, .slice none 0 0, .slice none 0 0, .int .i64 0, .int .u8 6, .int .u64 0, .slice none 0 0, .slice none 0 0, .int .i64 0] 54)) none 0 (fun _ => 0) .nil := ⟨rfl⟩
      have HT := Lib.hid (lawTake_any (w7.heap.size + 1) 7 7 (some ⟨w7.heap.size, 0, none⟩) sevenX hI (fun _ => by decide) hS (by decide) (fun g e => by cases e) (by decide))
      have GS := Lib.hid (grown_trans G7.out gS)
      clear hS gS hI g7 HB G6 G7
      go_wp2_with fail
      go_at_call 13
      refine HT.out.mono ?_
      rintro e w8 ⟨⟨a8, c8, Y, rfl, hK, hTk, _⟩, hI⟩
      have G8 := Lib.hid (grown_trans GS.out hI.gr)
      have hy2 : (Y 2).n = 0 := by
        have h1 := (hTk 2 (by decide)).n
        rw [ISt.fields_nil] at h1
        exact h1
      obtain ⟨go, cap, e8, hO8, _⟩ : ∃ go cap, Value.slice a8 7 c8 = .slice (some ⟨go, 0, none⟩) 7 cap ∧ OwnE w8 5 go 7 cap (fun q j => (Y q).cellAt j) ∧ True := by
        rcases hK.own.ex with ⟨e, _⟩ | ⟨go, cap, e, h2, _⟩
        · cases e
        · exact ⟨go, cap, e, h2, trivial⟩
      cases e8
      have y0 := hO8.cell 2 1 (by decide) (by decide)
      have y1 : w8.cell? ⟨go, 11, none⟩ = some (.int .u64 0) := by
        have h1 : w8.cell? ⟨go, 11, none⟩ = some (.int .u64 (Y 2).n) := y0
        rw [hy2] at h1
        exact h1
      have Y1 := Lib.hid y1
      have HN := Lib.hid (newOut_any 3 (by decide) (by decide) w8)
      clear hK hTk hI hy2 hO8 y0 y1 HT GS
      go_wp2_with fail
      go_at_call 8
      refine HN.out.mono ?_
      rintro e w9 ⟨po, rfl, hE⟩
      have HO := Lib.hid (outNone_any hE)
      clear hE HN
      go_wp2_with fail
      go_at_call 22
      refine HO.out.mono ?_
      rintro e w10 ⟨rfl, hE⟩
      have Y2 := Lib.hid (hE.gr.cell Y1.out (by simp))
      have G10 := Lib.hid (grown_trans G8.out hE.gr)
      have HI := Lib.hid (newIn_any (w10.heap.size + 1) 2 2 _ (fun i => if i = 0 then 0 else 0) _ (rd_two w10 0 0 (w10.heap.size + 1) (by omega)) (by decide))
      have gS := World.grownBy_alloc w10 (.cells #[.int .u8 0, .int .u8 0] 5) none
      have GS := Lib.hid gS
      clear hE HO G8 Y1 gS
      go_wp2_with fail
      go_at_call 12
      refine HI.out.mono ?_
      rintro e w11 ⟨pn, rfl, hI, hg, g11⟩
      have HNN := Lib.hid (inNone_any hI (fun i => by show (if i = 0 then 0 else 0) < 256; split <;> decide))
      have HGE := Lib.hid (row_ge hI hg)
      have G11 := Lib.hid (grown_trans GS.out g11)
      clear hI hg g11 HI GS
      go_wp2_with fail
      go_at_call 23
      refine HNN.out.mono ?_
      rintro e w12 ⟨rfl, g12⟩
      have gg : w10.grownBy w12 none := grown_row G11.out g12 (fun k hk => by
        have h1 : (w10.alloc (.cells #[.int .u8 0, .int .u8 0] 5)).heap.size ≤ k := HGE.out k hk
        have h2 := (World.grownBy_alloc w10 (.cells #[.int .u8 0, .int .u8 0] 5) none).size
        omega)
      have y3 := gg.cell Y2.out (by simp)
      have G12 := Lib.hid (grown_trans G10.out gg)
      have hI12 : IAt w12 none 0 (fun _ => 0) .nil := ⟨rfl⟩
      have HL : Hid (Calls Try.prog 15 #[.pointer none] w12 fun e w' => e = .returned (.int .i64 0) ∧ w12 = w') := inLeft_any hI12
      have HE : Hid (Calls Try.prog 16 #[.pointer none] w12 fun e w' => e = .returned (.int .i64 1) ∧ w12 = w') := inEnd_any hI12
      clear gg g12 Y2 G10 G11 HNN hI12 HGE
      go_wp2_with fail
      go_at_call 15
      refine HL.out.mono ?_
      rintro e w13 ⟨rfl, rfl⟩
      go_wp2_with fail
      go_at_call 16
      refine HE.out.mono ?_
      rintro e w13 ⟨rfl, rfl⟩
      go_wp2_with fail
      go_ret
      exact ⟨rfl, G12.out⟩
end Go.Proofs.Ytpkeolggehjjlaa
