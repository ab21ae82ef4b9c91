/-
  Contracts of the leaves of package aes: S, column, row, turned, doubled, mixed, substituted.
-/
import Derived.Test.YtlfopcigbgfnlaaDoorAesMath
import Derived.Test.YtlfopcigbgfnlaaDoorRd
namespace Go.Proofs.YtlfopcigbgfnlaaDoor
open Go.RowKit

set_option maxRecDepth 100000
set_option maxHeartbeats 400000

/-- The table of aes, at block g. -/
structure LaidS (w : World) (g : Nat) : Prop where
  at_ : ∀ i, i < 32 → w.cell? ⟨g, i, none⟩ = some (.int .u64 (SW i))
theorem LaidS.grown {w w' : World} {g : Nat} (h : LaidS w g) {row : Option Nat} (e : w.grownBy w' row) (h1 : some g ≠ row) : LaidS w' g := ⟨fun i hi => e.cell (h.at_ i hi) h1⟩
theorem LaidS.drew {w : World} {g : Nat} (h : LaidS w g) : LaidS w.drew g := ⟨h.at_⟩
theorem LaidS.drewN {w : World} {g : Nat} (h : LaidS w g) (n : Nat) : LaidS (w.drewN n) g := ⟨h.at_⟩

theorem SW_lt (i : Nat) : SW i < 18446744073709551616 := by
  by_cases h : i < 32
  · have hc : (List.range 32).all (fun i => decide (SW i < 18446744073709551616)) = true := by kernel_rfl
    simpa using all_range hc i h
  · unfold SW
    rw [List.getD_eq_getElem?_getD, List.getElem?_eq_none (by show 32 ≤ i; omega)]
    decide

theorem s_any (b : Nat) (w : World) (hL : LaidS w 0) (hb : b < 256) : Calls Tryd.prog 53 #[.int .u8 b] w fun e w' => e = .returned (.int .u8 (sB b : Nat)) ∧ w = w' := by
  have c1 := hL.at_ (b / 8) (by omega)
  obtain ⟨q, hq⟩ : ∃ q, q = b / 8 := ⟨_, rfl⟩
  obtain ⟨r, hr⟩ : ∃ r, r = b % 8 := ⟨_, rfl⟩
  have e1 : (b : Int) / 8 = (q : Int) := by omega
  have e2 : (b : Int).tmod 8 = (r : Int) := by rw [Int.tmod_eq_emod_of_nonneg (by omega)]; omega
  have e3 : (b : Int) % 8 = (r : Int) := by omega
  have HS : Hid (sB b = SW q / 2 ^ (8 * (7 - r)) % 256) := Lib.hid (by unfold sB; rw [hq, hr])
  rw [← hq] at c1
  have i1 : (q : Int) < 32 := by omega
  have i2 : (r : Int) < 8 := by omega
  have hx := SW_lt q
  generalize SW q = x at *
  have Hx := Lib.hid hx
  have Hr := Lib.hid hr
  clear hq hr hb hx
  go_enter Tryd.func53, Tryd.ntmps53
  go_wp2
  go_ret
  exact ⟨ret_int (by rw [HS.out]; push_cast; rfl), rfl⟩

theorem column_val (a b c d : Nat) (ha : a < 256) (hb : b < 256) (hc : c < 256) (hd : d < 256) :
    bits .or .u32 (bits .or .u32 (bits .or .u32 ((a : Int) * 16777216) ((b : Int) * 65536)) ((c : Int) * 256)) (d : Int) = ((col a b c d : Nat) : Int) := by
  have e1 : (a : Int) * 16777216 = ((col a 0 0 0 : Nat) : Int) := by unfold col; omega
  have e2 : (b : Int) * 65536 = ((col 0 b 0 0 : Nat) : Int) := by unfold col; omega
  have e3 : (c : Int) * 256 = ((col 0 0 c 0 : Nat) : Int) := by unfold col; omega
  have e4 : (d : Int) = ((col 0 0 0 d : Nat) : Int) := by unfold col; omega
  have z : (0 : Nat) < 256 := by decide
  rw [e1, e2, e3, e4, bits_or_u32 _ _ (col_lt _ _ _ _ ha z z z) (col_lt _ _ _ _ z hb z z), col_or _ _ _ _ _ _ _ _ z z z hb z z,
    bits_or_u32 _ _ (col_lt _ _ _ _ (by simpa using ha) (by simpa using hb) (by simp) (by simp)) (col_lt _ _ _ _ z z hc z), col_or _ _ _ _ _ _ _ _ (by simpa using hb) (by simp) (by simp) z hc z,
    bits_or_u32 _ _ (col_lt _ _ _ _ (by simpa using ha) (by simpa using hb) (by simpa using hc) (by simp)) (col_lt _ _ _ _ z z z hd), col_or _ _ _ _ _ _ _ _ (by simpa using hb) (by simpa using hc) (by simp) z z hd]
  simp

theorem column_any (a b c d : Nat) (w : World) (ha : a < 256) (hb : b < 256) (hc : c < 256) (hd : d < 256) :
    Calls Tryd.prog 29 #[.int .u8 a, .int .u8 b, .int .u8 c, .int .u8 d] w fun e w' => e = .returned (.int .u32 (col a b c d : Nat)) ∧ w = w' := by
  have i1 : (a : Int) < 256 := by omega
  have i2 : (b : Int) < 256 := by omega
  have i3 : (c : Int) < 256 := by omega
  have i4 : (d : Int) < 256 := by omega
  go_enter Tryd.func29, Tryd.ntmps29
  go_wp2
  go_ret
  exact ⟨ret_int (column_val a b c d ha hb hc hd), rfl⟩

theorem row_any (x r : Nat) (w : World) (hx : x < 2 ^ 32) (hr : r < 4) :
    Calls Tryd.prog 54 #[.int .u32 x, .int .i64 r] w fun e w' => e = .returned (.int .u8 (rowOf x r : Nat)) ∧ w = w' := by
  have i1 : (r : Int) < 4 := by omega
  have Hx := Lib.hid hx
  clear hx
  go_enter Tryd.func54, Tryd.ntmps54
  go_wp2
  go_ret
  exact ⟨ret_int (by unfold rowOf; push_cast; rfl), rfl⟩

theorem rotl_any (x n : Nat) (w : World) (hx : x < 2 ^ 32) (hn : n < 32) (h0 : 0 < n) :
    Calls Tryd.prog 55 #[.int .u32 x, .int .i64 n] w fun e w' => e = .returned (.int .u32 ((x * 2 ^ n % 2 ^ 32 ||| x / 2 ^ (32 - n) : Nat) : Int)) ∧ w = w' := by
  have a1 := and31 n hn
  have a3 : (0 : Int) ≤ ((n : Nat) : Int) := Int.natCast_nonneg _
  have a4 : ((n : Nat) : Int) < 32 := by omega
  have a5 : (0 : Int) < n := by omega
  have Hx := Lib.hid hx
  clear hx
  go_enter Tryd.func55, Tryd.ntmps55
  go_wp2
  go_ret
  refine ⟨ret_int ?_, rfl⟩
  have hx := Hx.out
  have e1 : ((x : Int) * 2 ^ n % 4294967296) = ((x * 2 ^ n % 2 ^ 32 : Nat) : Int) := by rw [Int.natCast_emod, Int.natCast_mul, Int.natCast_pow]; rfl
  have e2 : ((x : Int) / 2 ^ (32 - n)) = ((x / 2 ^ (32 - n) : Nat) : Int) := by push_cast; rfl
  rw [e1, e2, bits_or_u32 _ _ (Nat.mod_lt _ (by decide)) (Nat.lt_of_le_of_lt (Nat.div_le_self _ _) hx)]

theorem doubled_any (x : Nat) (w : World) (hx : x < 2 ^ 32) :
    Calls Tryd.prog 46 #[.int .u32 x] w fun e w' => e = .returned (.int .u32 (dbl x : Nat)) ∧ w = w' := by
  have Hx := Lib.hid hx
  clear hx
  go_enter Tryd.func46, Tryd.ntmps46
  go_wp2
  go_ret
  refine ⟨ret_int ?_, rfl⟩
  have hx := Hx.out
  have e1 : ((x : Int) * 2 % 4294967296) = ((x * 2 % 2 ^ 32 : Nat) : Int) := by omega
  have e2 : ((x : Int) / 128) = ((x / 128 : Nat) : Int) := by omega
  have e3 : (4278124286 : Int) = ((4278124286 : Nat) : Int) := rfl
  have e4 : (16843009 : Int) = ((16843009 : Nat) : Int) := rfl
  have l1 : x / 128 &&& 16843009 ≤ 16843009 := Nat.and_le_right
  have l2 : x * 2 % 2 ^ 32 &&& 4278124286 ≤ 4278124286 := Nat.and_le_right
  rw [e1, e2, e3, e4, bits_and_u32 _ _ (Nat.mod_lt _ (by decide)) (by decide), bits_and_u32 _ _ (Nat.lt_of_le_of_lt (Nat.div_le_self _ _) hx) (by decide)]
  have e5 : (((x / 128 &&& 16843009 : Nat) : Int) * 27 % 4294967296) = (((x / 128 &&& 16843009) * 27 : Nat) : Int) := by omega
  rw [e5, bits_xor_u32 _ _ (by omega) (by omega)]
  rfl

theorem turned_any (x n : Nat) (w : World) (hx : x < 2 ^ 32) (h0 : 0 < n) (hn : n < 4) :
    Calls Tryd.prog 45 #[.int .u32 x, .int .i64 n] w fun e w' => e = .returned (.int .u32 (rotc x n : Nat)) ∧ w = w' := by
  have i1 : (0 : Int) < n := by omega
  have i2 : (n : Int) < 4 := by omega
  have hr : Calls Tryd.prog 55 #[.int .u32 x, .int .i64 (8 * (n : Int))] w fun e w' => e = .returned (.int .u32 (rotc x n : Nat)) ∧ w = w' := by
    have := rotl_any x (8 * n) w hx (by omega) (by omega)
    rw [show ((8 * n : Nat) : Int) = 8 * (n : Int) by omega] at this
    exact this
  have HR := Lib.hid hr
  clear hx hr
  go_enter Tryd.func45, Tryd.ntmps45
  go_wp2_with (go_at_call 55; (with_reducible refine (HR.out).mono ?_); rintro e w' ⟨rfl, rfl⟩)
  go_ret
  exact ⟨rfl, rfl⟩

theorem mixed_any (a b c d : Nat) (w : World) (ha : a < 256) (hb : b < 256) (hc : c < 256) (hd : d < 256) :
    Calls Tryd.prog 57 #[.int .u32 (col a b c d : Nat)] w fun e w' => e = .returned (.int .u32 (col (M a b c d) (M b c d a) (M c d a b) (M d a b c) : Nat)) ∧ w = w' := by
  have hx := col_lt a b c d ha hb hc hd
  have h1 : Calls Tryd.prog 45 #[.int .u32 (col a b c d : Nat), .int .i64 1] w fun e w' => e = .returned (.int .u32 (rotc (col a b c d) 1 : Nat)) ∧ w = w' := turned_any (col a b c d) 1 w hx (by decide) (by decide)
  have h2 : Calls Tryd.prog 45 #[.int .u32 (col a b c d : Nat), .int .i64 2] w fun e w' => e = .returned (.int .u32 (rotc (col a b c d) 2 : Nat)) ∧ w = w' := turned_any (col a b c d) 2 w hx (by decide) (by decide)
  have h3 : Calls Tryd.prog 45 #[.int .u32 (col a b c d : Nat), .int .i64 3] w fun e w' => e = .returned (.int .u32 (rotc (col a b c d) 3 : Nat)) ∧ w = w' := turned_any (col a b c d) 3 w hx (by decide) (by decide)
  have hv := mixed_col a b c d ha hb hc hd
  rw [rotc1 a b c d ha hb hc hd] at h1 hv
  rw [rotc2 a b c d ha hb hc hd] at h2 hv
  rw [rotc3 a b c d ha hb hc hd] at h3 hv
  have hx1 := col_lt b c d a hb hc hd ha
  have hx2 := col_lt c d a b hc hd ha hb
  have hx3 := col_lt d a b c hd ha hb hc
  generalize col (M a b c d) (M b c d a) (M c d a b) (M d a b c) = z at *
  generalize col b c d a = x1 at *
  generalize col c d a b = x2 at *
  generalize col d a b c = x3 at *
  generalize col a b c d = x at *
  have hd' := doubled_any (x ^^^ x1) w (Nat.xor_lt_two_pow hx hx1)
  have hdl : dbl (x ^^^ x1) < 2 ^ 32 := by
    unfold dbl
    have l1 : (x ^^^ x1) / 128 &&& 16843009 ≤ 16843009 := Nat.and_le_right
    exact Nat.xor_lt_two_pow (Nat.and_lt_two_pow _ (by decide)) (by omega)
  generalize dbl (x ^^^ x1) = y at *
  have e0 : bits .xor .u32 (x : Int) (x1 : Int) = ((x ^^^ x1 : Nat) : Int) := bits_xor_u32 _ _ hx hx1
  have e9 : bits .xor .u32 (bits .xor .u32 (bits .xor .u32 (y : Int) (x1 : Int)) (x2 : Int)) (x3 : Int) = (z : Int) := by
    rw [bits_xor_u32 _ _ hdl hx1, bits_xor_u32 _ _ (Nat.xor_lt_two_pow hdl hx1) hx2, bits_xor_u32 _ _ (Nat.xor_lt_two_pow (Nat.xor_lt_two_pow hdl hx1) hx2) hx3, hv]
  have H1 := Lib.hid h1
  have H2 := Lib.hid h2
  have H3 := Lib.hid h3
  have HD := Lib.hid hd'
  have H9 := Lib.hid e9
  generalize x ^^^ x1 = t at *
  clear h1 h2 h3 hd' e9 hv hx hx1 hx2 hx3 hdl
  go_enter Tryd.func57, Tryd.ntmps57
  go_wp2_with (first
    | (go_at_call 45; (with_reducible refine (H1.out).mono ?_); rintro e w' ⟨rfl, rfl⟩)
    | (go_at_call 45; (with_reducible refine (H2.out).mono ?_); rintro e w' ⟨rfl, rfl⟩)
    | (go_at_call 45; (with_reducible refine (H3.out).mono ?_); rintro e w' ⟨rfl, rfl⟩)
    | (go_at_call 46; (with_reducible refine (HD.out).mono ?_); rintro e w' ⟨rfl, rfl⟩))
  go_ret
  exact ⟨ret_int H9.out, rfl⟩

theorem row_col (f : Nat → Nat) (hf : ∀ i, f i < 256) (r : Nat) (hr : r < 4) (w : World) :
    Calls Tryd.prog 54 #[.int .u32 (col (f 0) (f 1) (f 2) (f 3) : Nat), .int .i64 r] w fun e w' => e = .returned (.int .u8 (f r : Nat)) ∧ w = w' := by
  have := row_any (col (f 0) (f 1) (f 2) (f 3)) r w (col_lt _ _ _ _ (hf 0) (hf 1) (hf 2) (hf 3)) hr
  rwa [rowOf_col f r hf hr] at this

theorem substituted_any (a b c d : Nat) (w : World) (hL : LaidS w 0) (ha : a < 256) (hb : b < 256) (hc : c < 256) (hd : d < 256) :
    Calls Tryd.prog 44 #[.int .u32 (col a b c d : Nat)] w fun e w' => e = .returned (.int .u32 (col (sB a) (sB b) (sB c) (sB d) : Nat)) ∧ w = w' := by
  have hf : ∀ i, (fun i => if i = 0 then a else if i = 1 then b else if i = 2 then c else d) i < 256 := fun i => by
    show (if i = 0 then a else if i = 1 then b else if i = 2 then c else d) < 256
    split
    · exact ha
    · split
      · exact hb
      · split
        · exact hc
        · exact hd
  have r0 : Calls Tryd.prog 54 #[.int .u32 (col a b c d : Nat), .int .i64 0] w fun e w' => e = .returned (.int .u8 (a : Nat)) ∧ w = w' := row_col _ hf 0 (by decide) w
  have r1 : Calls Tryd.prog 54 #[.int .u32 (col a b c d : Nat), .int .i64 1] w fun e w' => e = .returned (.int .u8 (b : Nat)) ∧ w = w' := row_col _ hf 1 (by decide) w
  have r2 : Calls Tryd.prog 54 #[.int .u32 (col a b c d : Nat), .int .i64 2] w fun e w' => e = .returned (.int .u8 (c : Nat)) ∧ w = w' := row_col _ hf 2 (by decide) w
  have r3 : Calls Tryd.prog 54 #[.int .u32 (col a b c d : Nat), .int .i64 3] w fun e w' => e = .returned (.int .u8 (d : Nat)) ∧ w = w' := row_col _ hf 3 (by decide) w
  have s0 := s_any a w hL ha
  have s1 := s_any b w hL hb
  have s2 := s_any c w hL hc
  have s3 := s_any d w hL hd
  have hc' := column_any (sB a) (sB b) (sB c) (sB d) w (sB_lt _) (sB_lt _) (sB_lt _) (sB_lt _)
  generalize col a b c d = x at *
  have R0 := Lib.hid r0
  have R1 := Lib.hid r1
  have R2 := Lib.hid r2
  have R3 := Lib.hid r3
  have S0 := Lib.hid s0
  have S1 := Lib.hid s1
  have S2 := Lib.hid s2
  have S3 := Lib.hid s3
  have HC := Lib.hid hc'
  clear r0 r1 r2 r3 s0 s1 s2 s3 hc' hf
  generalize col (sB a) (sB b) (sB c) (sB d) = z at *
  generalize sB a = a1 at *
  generalize sB b = b1 at *
  generalize sB c = c1 at *
  generalize sB d = d1 at *
  go_enter Tryd.func44, Tryd.ntmps44
  go_wp2_with (first
    | (go_at_call 54; (with_reducible refine (R0.out).mono ?_); rintro e w' ⟨rfl, rfl⟩)
    | (go_at_call 54; (with_reducible refine (R1.out).mono ?_); rintro e w' ⟨rfl, rfl⟩)
    | (go_at_call 54; (with_reducible refine (R2.out).mono ?_); rintro e w' ⟨rfl, rfl⟩)
    | (go_at_call 54; (with_reducible refine (R3.out).mono ?_); rintro e w' ⟨rfl, rfl⟩)
    | (go_at_call 53; (with_reducible refine (S0.out).mono ?_); rintro e w' ⟨rfl, rfl⟩)
    | (go_at_call 53; (with_reducible refine (S1.out).mono ?_); rintro e w' ⟨rfl, rfl⟩)
    | (go_at_call 53; (with_reducible refine (S2.out).mono ?_); rintro e w' ⟨rfl, rfl⟩)
    | (go_at_call 53; (with_reducible refine (S3.out).mono ?_); rintro e w' ⟨rfl, rfl⟩)
    | (go_at_call 29; (with_reducible refine (HC.out).mono ?_); rintro e w' ⟨rfl, rfl⟩))
  go_ret
  exact ⟨rfl, rfl⟩

end Go.Proofs.YtlfopcigbgfnlaaDoor
