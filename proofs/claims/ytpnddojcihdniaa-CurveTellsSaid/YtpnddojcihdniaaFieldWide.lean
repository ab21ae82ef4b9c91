/-
  field's numbers of 128 bits.
-/
import Derived.Test.YtpnddojcihdniaaFieldBits
import Derived.Test.YtpnddojcihdniaaCells
import Derived.Test.YtpnddojcihdniaaBase
import Derived.Test.YtpnddojcihdniaaMach
import Derived.Lib.Mul64
import Derived.Laws.Bits64b
import Derived.Laws.Externs
namespace Go.Proofs.Ytpnddojcihdniaa
open Go.RowKit

set_option maxRecDepth 100000
set_option maxHeartbeats 2000000

theorem and32 (a : Nat) (ha : a < 18446744073709551616) : bits .and .u64 (a : Int) 4294967295 = ((a % 4294967296 : Nat) : Int) := by
  have h := bits_and_u64_nat a 4294967295 ha (by decide)
  rw [show a &&& 4294967295 = a % 4294967296 from Nat.and_two_pow_sub_one_eq_mod a 32] at h
  exact h
theorem and51 (a : Nat) (ha : a < 18446744073709551616) : bits .and .u64 (a : Int) 2251799813685247 = ((a % 2251799813685248 : Nat) : Int) := by
  have h := bits_and_u64_nat a 2251799813685247 ha (by decide)
  rw [show a &&& 2251799813685247 = a % 2251799813685248 from Nat.and_two_pow_sub_one_eq_mod a 51] at h
  exact h
theorem div32 (a : Nat) : (a : Int) / 4294967296 = ((a / 4294967296 : Nat) : Int) := by omega
theorem w64 (a : Nat) (ha : a < 18446744073709551616) : IntKind.u64.wrap (a : Int) = (a : Int) := by rw [IntKind.wrap_u64]; omega
theorem w64m (a : Nat) : IntKind.u64.wrap (a : Int) = ((a % 18446744073709551616 : Nat) : Int) := by rw [IntKind.wrap_u64]; omega
theorem mulc (a b : Nat) : (a : Int) * (b : Int) = ((a * b : Nat) : Int) := (Int.natCast_mul a b).symm
theorem addc (a b : Nat) : (a : Int) + (b : Int) = ((a + b : Nat) : Int) := (Int.natCast_add a b).symm

theorem mul64_any (x y : Nat) (hx : x < 18446744073709551616) (hy : y < 18446744073709551616) (w : World) :
    Calls Try.prog 45 #[.int .u64 x, .int .u64 y] w fun e w' => e = .returned (.tuple #[.int .u64 ((x * y / 18446744073709551616 : Nat) : Int), .int .u64 ((x * y % 18446744073709551616 : Nat) : Int)]) ∧ w = w' := by
  obtain ⟨s1, s2, s3, hhi⟩ := Lib.mul64_hi x y hx hy
  have p1 := Lib.half_mul_le (a := x / 4294967296) (b := y / 4294967296) (by omega) (by omega)
  have p2 := Lib.half_mul_le (a := x / 4294967296) (b := y % 4294967296) (by omega) (by omega)
  have p3 := Lib.half_mul_le (a := x % 4294967296) (b := y / 4294967296) (by omega) (by omega)
  obtain ⟨lo, hlo⟩ : ∃ lo, lo = x * y := ⟨_, rfl⟩
  have HA : Hid (∀ a b : Nat, a ≤ b → a ≤ b) := Lib.hid (fun _ _ h => h)
  have x1 := and32 x hx
  have y1 := and32 y hy
  have x2 := div32 x
  have y2 := div32 y
  generalize x % 4294967296 = a0 at *
  generalize x / 4294967296 = a1 at *
  generalize y % 4294967296 = b0 at *
  generalize y / 4294967296 = b1 at *
  have H := Lib.hid hhi
  have X1 := Lib.hid x1
  have Y1 := Lib.hid y1
  have X2 := Lib.hid x2
  have Y2 := Lib.hid y2
  have HL := Lib.hid hlo
  clear hhi x1 y1 x2 y2 hlo HA
  go_enter Try.func45, Try.ntmps45
  go_wp2_with fail
  simp only [X1.out, Y1.out, X2.out, Y2.out]
  have q1 : a1 * b0 < 18446744073709551616 := by omega
  have q2 : a0 * b1 < 18446744073709551616 := by omega
  have q3 : a1 * b1 < 18446744073709551616 := by omega
  have q4 : a1 * b1 + (a1 * b0 + a0 * b0 / 4294967296) / 4294967296 < 18446744073709551616 := by omega
  have q5 : a1 * b1 + (a1 * b0 + a0 * b0 / 4294967296) / 4294967296 + ((a1 * b0 + a0 * b0 / 4294967296) % 4294967296 + a0 * b1) / 4294967296 < 18446744073709551616 := by omega
  rw [H.out] at q5
  simp only [mulc, w64 _ s1, w64 _ q1, w64 _ q2, w64 _ q3, div32, addc, w64 _ s2, and32 _ s2, w64 _ s3, w64 _ q4, w64 _ q5, H.out, w64m (x * y)]
  go_ret2
  exact ⟨rfl, rfl⟩

theorem add64_run (x y : Nat) (w : World) (hx : x < 18446744073709551616) (hy : y < 18446744073709551616) : (callFunc 46 #[.int .u64 x, .int .u64 y, .int .u64 0]).run Try.prog w =
    .ok (.value (.tuple #[.int .u64 ((x + y) % 18446744073709551616 : Int), .int .u64 ((x + y) / 18446744073709551616 : Int)])) w := by
  rw [run_callFunc_extern Try.func46 (by kernel_rfl) (by kernel_rfl) (by kernel_rfl) (e := add64Entry) (by kernel_rfl), run_add64 x y 0 (by omega) (by omega) (by omega) (by omega)]
  simp only [Result.andThen]
  congr 5 <;> omega

/-- A number of 128 bits, as the code has it. -/
def wide (n : Nat) : Value := .agg #[.int .u64 ((n / 18446744073709551616 : Nat) : Int), .int .u64 ((n % 18446744073709551616 : Nat) : Int)]

theorem under_row {P : Program} {T : TypeId} (h : (P.underlying T).map (fun d => match d with | .struct _ | .array _ _ => true | _ => false) = some true) : ∃ d, P.underlying T = some d ∧ (match d with | .struct _ | .array _ _ => true | _ => false) = true := by
  cases hd : P.underlying T with
  | none => rw [hd] at h; cases h
  | some d => rw [hd] at h; exact ⟨d, rfl, by simpa using h⟩
/-- A result that lies in a block of numbers. -/
theorem res_row {P : Program} {fn : Func} {p : Tmp} {T : TypeId} {n : Nat} {k : IntKind} {f : Nat → Nat} {tmps : Array Value} {w : World} {g : Nat} {t : TypeId} (h : fn.results = #[.cell p T]) (hp : tmps.getD p undef = .pointer (some ⟨g, 0, none⟩)) (H : Holds w g t k n f)
    (hu : (P.underlying T).map (fun d => match d with | .struct _ | .array _ _ => true | _ => false) = some true) (hi : (P.info? T).map (·.size) = some n) : (results fn tmps).run P w = .ok (.agg (cellsOf k n f)) w := by
  obtain ⟨d, h1, h2⟩ := under_row hu
  exact results_cell_row h tmps w g t _ (0, 0) d hp H.block h1 (by cases d <;> first | rfl | exact h2) (by rw [cellsOf_size]; exact hi)
theorem plus_words (n1 n0 p1 p0 a b : Nat) (h0 : n0 < 18446744073709551616) (k0 : p0 < 18446744073709551616) (hb : n1 + p1 + (n0 + p0) / 18446744073709551616 < 18446744073709551616)
    (HM : Hid (∀ w, Calls Try.prog 45 #[.int .u64 a, .int .u64 b] w fun e w' => e = .returned (.tuple #[.int .u64 p1, .int .u64 p0]) ∧ w = w')) (w : World) :
    Calls Try.prog 34 #[.agg #[.int .u64 n1, .int .u64 n0], .int .u64 a, .int .u64 b] w fun e w' =>
      e = .returned (.agg #[.int .u64 ((n1 + p1 + (n0 + p0) / 18446744073709551616 : Nat) : Int), .int .u64 (((n0 + p0) % 18446744073709551616 : Nat) : Int)]) ∧ w.grownBy w' none := by
  have g1 := grown_alloc (World.grownBy_alloc w (.cells #[.int .u64 n1, .int .u64 n0] 65) none) (.cells #[.int .u64 0, .int .u64 0] 65)
  have hA : Holds ((w.alloc (.cells #[.int .u64 n1, .int .u64 n0] 65)).alloc (.cells #[.int .u64 0, .int .u64 0] 65)) w.heap.size 65 .u64 2 (lst5 n1 n0 0 0 0) := Holds.of_block (holds_alloc w 65 .u64 2 (lst5 n1 n0 0 0 0) #[.int .u64 n1, .int .u64 n0] rfl) (by rw [heap_alloc_old]; simp)
  have hB : Holds ((w.alloc (.cells #[.int .u64 n1, .int .u64 n0] 65)).alloc (.cells #[.int .u64 0, .int .u64 0] 65)) (w.heap.size + 1) 65 .u64 2 (fun _ => 0) := by
    have := holds_alloc (w.alloc (.cells #[.int .u64 n1, .int .u64 n0] 65)) 65 .u64 2 (fun _ => 0) _ rfl
    rwa [World.size_alloc] at this
  obtain ⟨s0, hs0⟩ : ∃ t, t = (n0 + p0) % 18446744073709551616 := ⟨_, rfl⟩
  obtain ⟨s1, hs1⟩ : ∃ t, t = (n0 + p0) / 18446744073709551616 := ⟨_, rfl⟩
  have e0 : ((n0 : Int) + (p0 : Int)) % 18446744073709551616 = (s0 : Int) := by omega
  have e1 : ((n0 : Int) + (p0 : Int)) / 18446744073709551616 = (s1 : Int) := by omega
  have hadd := fun W => add64_run n0 p0 W h0 k0
  simp only [e0, e1] at hadd
  have HD := Lib.hid hadd
  rw [← hs1] at hb
  have z1 : IntKind.u64.wrap (IntKind.u64.wrap ((n1 : Int) + (p1 : Int)) + (s1 : Int)) = ((n1 + p1 + s1 : Nat) : Int) := by
    rw [IntKind.wrap_u64, IntKind.wrap_u64]
    omega
  rw [← hs0, ← hs1]
  have HZ := Lib.hid z1
  clear e0 e1 hadd z1 hs0 hs1 hb h0 k0
  go_enter Try.func34, Try.ntmps34
  go_wp2_with fail
  generalize (w.alloc (.cells #[.int .u64 n1, .int .u64 n0] 65)).alloc (.cells #[.int .u64 0, .int .u64 0] 65) = w1 at *
  have c0 := hA.cell 0 (by decide)
  have c1 := hA.cell 1 (by decide)
  have b0 := hB.cell 0 (by decide)
  have b1 := hB.cell 1 (by decide)
  have f0 := hB.frozen 0
  have f1 := hB.frozen 1
  rw [lst5_0] at c0
  rw [lst5_1] at c1
  go_at_call 45
  refine (HM.out _).mono ?_
  rintro e w' ⟨rfl, rfl⟩
  go_wp2_with (simp only [HD.out])
  simp only [HZ.out]
  have hS := ((hB.set 0 (n1 + p1 + s1)).set 1 s0).congr (g := lst5 (n1 + p1 + s1) s0 0 0 0) (fun j hj => by
    obtain rfl | rfl : j = 0 ∨ j = 1 := by omega
    · rfl
    · rfl)
  exact bodyPost_ret (v := .agg #[.int .u64 ((n1 + p1 + s1 : Nat) : Int), .int .u64 (s0 : Int)]) (res_row rfl rfl hS (by kernel_rfl) (by kernel_rfl)) rfl ⟨rfl, grown_setCell_new (grown_setCell_new g1 _ _ (Or.inl (by show w.heap.size ≤ w.heap.size + 1; omega))) _ _ (Or.inl (by show w.heap.size ≤ w.heap.size + 1; omega))⟩
theorem plus_any (n a b : Nat) (ha : a < 18446744073709551616) (hb : b < 18446744073709551616) (h : n + a * b < 340282366920938463463374607431768211456) (w : World) :
    Calls Try.prog 34 #[wide n, .int .u64 a, .int .u64 b] w fun e w' => e = .returned (wide (n + a * b)) ∧ w.grownBy w' none := by
  have hM := mul64_any a b ha hb
  generalize a * b = p at *
  have e1 : n / 18446744073709551616 + p / 18446744073709551616 + (n % 18446744073709551616 + p % 18446744073709551616) / 18446744073709551616 = (n + p) / 18446744073709551616 := by omega
  have e2 : (n % 18446744073709551616 + p % 18446744073709551616) % 18446744073709551616 = (n + p) % 18446744073709551616 := by omega
  have h1 := plus_words (n / 18446744073709551616) (n % 18446744073709551616) (p / 18446744073709551616) (p % 18446744073709551616) a b (by omega) (by omega) (by omega) (Lib.hid hM) w
  rw [e1, e2] at h1
  exact h1

theorem rest_any (n : Nat) (w : World) : Calls Try.prog 35 #[wide n] w fun e w' => e = .returned (.int .u64 ((n % 2251799813685248 : Nat) : Int)) ∧ w.grownBy w' none := by
  have h1 := and51 (n % 18446744073709551616) (by omega)
  rw [show n % 18446744073709551616 % 2251799813685248 = n % 2251799813685248 by omega] at h1
  unfold wide
  generalize n % 18446744073709551616 = a at *
  generalize n / 18446744073709551616 = b at *
  generalize n % 2251799813685248 = c at *
  have H := Lib.hid h1
  have g1 := World.grownBy_alloc w (.cells #[.int .u64 b, .int .u64 a] 65) none
  clear h1
  go_enter Try.func35, Try.ntmps35
  go_wp2_with fail
  simp only [H.out]
  go_ret
  exact ⟨rfl, g1⟩
theorem carry_any (n : Nat) (hn : n < 41538374868278621028243970633760768) (w : World) : Calls Try.prog 36 #[wide n] w fun e w' => e = .returned (.int .u64 ((n / 2251799813685248 : Nat) : Int)) ∧ w.grownBy w' none := by
  unfold wide
  have h1 : n / 2251799813685248 = n % 18446744073709551616 / 2251799813685248 + n / 18446744073709551616 * 8192 := by omega
  have h2 := or_parts' (n % 18446744073709551616 / 2251799813685248) (n / 18446744073709551616) 13 8192 (by decide) (by omega)
  rw [← h1, Nat.or_comm] at h2
  have hb : n / 18446744073709551616 * 8192 < 18446744073709551616 := by omega
  have ha : n % 18446744073709551616 < 18446744073709551616 := by omega
  generalize n % 18446744073709551616 = a at *
  generalize n / 18446744073709551616 = b at *
  generalize n / 2251799813685248 = c at *
  have h3 := bits_or_u64_nat (b * 8192) (a / 2251799813685248) hb (by omega)
  rw [h2] at h3
  have x1 : IntKind.u64.wrap ((b : Int) * 8192) = ((b * 8192 : Nat) : Int) := by rw [IntKind.wrap_u64]; omega
  have x2 : ((a : Int) / 2251799813685248) = ((a / 2251799813685248 : Nat) : Int) := by omega
  rw [← x1, ← x2] at h3
  have H := Lib.hid h3
  have g1 := World.grownBy_alloc w (.cells #[.int .u64 b, .int .u64 a] 65) none
  clear h1 h2 h3 x1 x2 hb ha hn
  go_enter Try.func36, Try.ntmps36
  go_wp2_with fail
  simp only [H.out]
  go_ret
  exact ⟨rfl, g1⟩

end Go.Proofs.Ytpnddojcihdniaa
