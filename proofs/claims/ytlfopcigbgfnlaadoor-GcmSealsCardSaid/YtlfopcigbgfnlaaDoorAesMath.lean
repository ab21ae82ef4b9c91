/-
  Plain mathematics of AES: bytes, and columns of four of them, as natural numbers; no program is named here.
-/
import Derived.Test.YtlfopcigbgfnlaaDoorCells
import Derived.KernelRfl
namespace Go.Proofs.YtlfopcigbgfnlaaDoor

/-- S of all bytes, eight a word; and of which byte each is S. -/
def swL : List Nat := [7168736081098796997, 3459159427454053238, 14592447285542078448, 12525815338755191488, 13257914670376810444, 3793691086289383701, 344283217355212186, 509611419942498933, 685440058931436192, 5925565799726264196, 6039609593741226331, 7695453541561555151, 15055440075465503621, 5042064003648233384, 5882616523660278005, 13598295960445776850, 14775206383432713239, 14170433554686482803, 6953927106521370760, 5111225026881653723, 16155038629180613724, 14038754002793260153, 16701660161774014121, 7806696291655396872, 13436530368239285446, 16779695464415857546, 8088101431703500302, 7004601249786043806, 16282931653315759764, 11177520763438967007, 10133531328707445352, 4726858829308148502]
def isL : List Nat := [82, 9, 106, 213, 48, 54, 165, 56, 191, 64, 163, 158, 129, 243, 215, 251, 124, 227, 57, 130, 155, 47, 255, 135, 52, 142, 67, 68, 196, 222, 233, 203, 84, 123, 148, 50, 166, 194, 35, 61, 238, 76, 149, 11, 66, 250, 195, 78, 8, 46, 161, 102, 40, 217, 36, 178, 118, 91, 162, 73, 109, 139, 209, 37, 114, 248, 246, 100, 134, 104, 152, 22, 212, 164, 92, 204, 93, 101, 182, 146, 108, 112, 72, 80, 253, 237, 185, 218, 94, 21, 70, 87, 167, 141, 157, 132, 144, 216, 171, 0, 140, 188, 211, 10, 247, 228, 88, 5, 184, 179, 69, 6, 208, 44, 30, 143, 202, 63, 15, 2, 193, 175, 189, 3, 1, 19, 138, 107, 58, 145, 17, 65, 79, 103, 220, 234, 151, 242, 207, 206, 240, 180, 230, 115, 150, 172, 116, 34, 231, 173, 53, 133, 226, 249, 55, 232, 28, 117, 223, 110, 71, 241, 26, 113, 29, 41, 197, 137, 111, 183, 98, 14, 170, 24, 190, 27, 252, 86, 62, 75, 198, 210, 121, 32, 154, 219, 192, 254, 120, 205, 90, 244, 31, 221, 168, 51, 136, 7, 199, 49, 177, 18, 16, 89, 39, 128, 236, 95, 96, 81, 127, 169, 25, 181, 74, 13, 45, 229, 122, 159, 147, 201, 156, 239, 160, 224, 59, 77, 174, 42, 245, 176, 200, 235, 187, 60, 131, 83, 153, 97, 23, 43, 4, 126, 186, 119, 214, 38, 225, 105, 20, 99, 85, 33, 12, 125]
def SW (i : Nat) : Nat := swL.getD i 0
def sB (b : Nat) : Nat := SW (b / 8) / 2 ^ (8 * (7 - b % 8)) % 256
theorem sB_lt (b : Nat) : sB b < 256 := Nat.mod_lt _ (by decide)
theorem all_range {n : Nat} {p : Nat → Bool} (h : (List.range n).all p = true) (i : Nat) (hi : i < n) : p i = true := List.all_eq_true.1 h i (List.mem_range.2 hi)
theorem sB_back (b : Nat) (hb : b < 256) : isL.getD (sB b) 0 = b := by
  have h : (List.range 256).all (fun b => isL.getD (sB b) 0 == b) = true := by kernel_rfl
  simpa using all_range h b hb
theorem sB_inj (a b : Nat) (ha : a < 256) (hb : b < 256) (h : sB a = sB b) : a = b := by
  rw [← sB_back a ha, ← sB_back b hb, h]

/-- A byte times 2. -/
def xt (a : Nat) : Nat := (2 * a) % 256 ^^^ a / 128 * 27
theorem xt_lt (a : Nat) (h : a < 256) : xt a < 256 := by
  unfold xt
  exact Nat.xor_lt_two_pow (n := 8) (Nat.mod_lt _ (by decide)) (by show a / 128 * 27 < 256; omega)
theorem xor_lt256 {a b : Nat} (ha : a < 256) (hb : b < 256) : a ^^^ b < 256 := Nat.xor_lt_two_pow (n := 8) ha hb
theorem xt_xor (a b : Nat) (ha : a < 256) (hb : b < 256) : xt (a ^^^ b) = xt a ^^^ xt b := by
  have h : (List.range 256).all (fun a => (List.range 256).all fun b => xt (a ^^^ b) == xt a ^^^ xt b) = true := by kernel_rfl
  simpa using all_range (all_range h a ha) b hb

/-! Four bytes, a column. -/
def col (a b c d : Nat) : Nat := ((a * 256 + b) * 256 + c) * 256 + d
theorem col_lt (a b c d : Nat) (ha : a < 256) (hb : b < 256) (hc : c < 256) (hd : d < 256) : col a b c d < 2 ^ 32 := by unfold col; omega

theorem sp_testBit (A a i : Nat) (ha : a < 256) : (A * 256 + a).testBit i = if i < 8 then a.testBit i else A.testBit (i - 8) := by
  have := Nat.testBit_two_pow_mul_add (i := 8) A (b := a) ha i
  rw [show 2 ^ 8 * A + a = A * 256 + a by omega] at this
  exact this
theorem sp_and (A B a b : Nat) (ha : a < 256) (hb : b < 256) : (A * 256 + a) &&& (B * 256 + b) = (A &&& B) * 256 + (a &&& b) := by
  apply Nat.eq_of_testBit_eq
  intro i
  rw [Nat.testBit_and, sp_testBit _ _ _ ha, sp_testBit _ _ _ hb, sp_testBit _ _ _ (Nat.and_lt_two_pow (n := 8) _ hb)]
  split <;> rw [Nat.testBit_and]
theorem sp_or (A B a b : Nat) (ha : a < 256) (hb : b < 256) : (A * 256 + a) ||| (B * 256 + b) = (A ||| B) * 256 + (a ||| b) := by
  apply Nat.eq_of_testBit_eq
  intro i
  rw [Nat.testBit_or, sp_testBit _ _ _ ha, sp_testBit _ _ _ hb, sp_testBit _ _ _ (Nat.or_lt_two_pow (n := 8) ha hb)]
  split <;> rw [Nat.testBit_or]
theorem sp_xor (A B a b : Nat) (ha : a < 256) (hb : b < 256) : (A * 256 + a) ^^^ (B * 256 + b) = (A ^^^ B) * 256 + (a ^^^ b) := by
  apply Nat.eq_of_testBit_eq
  intro i
  rw [Nat.testBit_xor, sp_testBit _ _ _ ha, sp_testBit _ _ _ hb, sp_testBit _ _ _ (Nat.xor_lt_two_pow (n := 8) ha hb)]
  split <;> rw [Nat.testBit_xor]

section
variable (a b c d a' b' c' d' : Nat) (hb : b < 256) (hc : c < 256) (hd : d < 256) (hb' : b' < 256) (hc' : c' < 256) (hd' : d' < 256)
include hb hc hd hb' hc' hd'
theorem col_and : col a b c d &&& col a' b' c' d' = col (a &&& a') (b &&& b') (c &&& c') (d &&& d') := by
  unfold col; rw [sp_and _ _ _ _ hd hd', sp_and _ _ _ _ hc hc', sp_and _ _ _ _ hb hb']
theorem col_or : col a b c d ||| col a' b' c' d' = col (a ||| a') (b ||| b') (c ||| c') (d ||| d') := by
  unfold col; rw [sp_or _ _ _ _ hd hd', sp_or _ _ _ _ hc hc', sp_or _ _ _ _ hb hb']
theorem col_xor : col a b c d ^^^ col a' b' c' d' = col (a ^^^ a') (b ^^^ b') (c ^^^ c') (d ^^^ d') := by
  unfold col; rw [sp_xor _ _ _ _ hd hd', sp_xor _ _ _ _ hc hc', sp_xor _ _ _ _ hb hb']
end

/-- A column's byte in row r. -/
def rowOf (x r : Nat) : Nat := x / 2 ^ (24 - 8 * r) % 256
theorem rowOf_lt (x r : Nat) : rowOf x r < 256 := Nat.mod_lt _ (by decide)
theorem rowOf_col (f : Nat → Nat) (r : Nat) (hf : ∀ i, f i < 256) (hr : r < 4) : rowOf (col (f 0) (f 1) (f 2) (f 3)) r = f r := by
  have h0 := hf 0
  have h1 := hf 1
  have h2 := hf 2
  have h3 := hf 3
  obtain rfl | rfl | rfl | rfl : r = 0 ∨ r = 1 ∨ r = 2 ∨ r = 3 := by omega
  all_goals
    unfold rowOf col
    simp only [Nat.reduceMul, Nat.reduceSub, Nat.reducePow]
    omega

/-- A column turned to the left by n bytes. -/
def rotc (x n : Nat) : Nat := x * 2 ^ (8 * n) % 2 ^ 32 ||| x / 2 ^ (32 - 8 * n)
theorem rotc1 (a b c d : Nat) (ha : a < 256) (hb : b < 256) (hc : c < 256) (hd : d < 256) : rotc (col a b c d) 1 = col b c d a := by
  have e1 : col a b c d * 2 ^ (8 * 1) % 2 ^ 32 = col b c d 0 := by unfold col; omega
  have e2 : col a b c d / 2 ^ (32 - 8 * 1) = col 0 0 0 a := by unfold col; omega
  unfold rotc
  rw [e1, e2, col_or _ _ _ _ _ _ _ _ hc hd (by decide) (by decide) (by decide) ha]
  simp
theorem rotc2 (a b c d : Nat) (ha : a < 256) (hb : b < 256) (hc : c < 256) (hd : d < 256) : rotc (col a b c d) 2 = col c d a b := by
  have e1 : col a b c d * 2 ^ (8 * 2) % 2 ^ 32 = col c d 0 0 := by unfold col; omega
  have e2 : col a b c d / 2 ^ (32 - 8 * 2) = col 0 0 a b := by unfold col; omega
  unfold rotc
  rw [e1, e2, col_or _ _ _ _ _ _ _ _ hd (by decide) (by decide) (by decide) ha hb]
  simp
theorem rotc3 (a b c d : Nat) (ha : a < 256) (hb : b < 256) (hc : c < 256) (hd : d < 256) : rotc (col a b c d) 3 = col d a b c := by
  have e1 : col a b c d * 2 ^ (8 * 3) % 2 ^ 32 = col d 0 0 0 := by unfold col; omega
  have e2 : col a b c d / 2 ^ (32 - 8 * 3) = col 0 a b c := by unfold col; omega
  unfold rotc
  rw [e1, e2, col_or _ _ _ _ _ _ _ _ (by decide) (by decide) (by decide) ha hb hc]
  simp

/-- A column with each byte times 2, as the program works it out. -/
def dbl (x : Nat) : Nat := (x * 2 % 2 ^ 32 &&& 4278124286) ^^^ (x / 128 &&& 16843009) * 27
theorem and1 (a e : Nat) : (a % 128 * 2 + e / 128) &&& 1 = (e / 128) % 2 := by
  rw [Nat.and_one_is_mod]; omega
theorem and254 (a e : Nat) (he : e < 2) : ((2 * a) % 256 + e) &&& 254 = (2 * a) % 256 := by
  have h : (List.range 256).all (fun x => (List.range 2).all fun e => ((2 * x) % 256 + e) &&& 254 == (2 * x) % 256) = true := by kernel_rfl
  have := all_range (all_range h (a % 256) (Nat.mod_lt _ (by decide))) e he
  simp only [beq_iff_eq] at this
  rwa [show 2 * (a % 256) % 256 = 2 * a % 256 by omega] at this
theorem dbl_col (a b c d : Nat) (ha : a < 256) (hb : b < 256) (hc : c < 256) (hd : d < 256) : dbl (col a b c d) = col (xt a) (xt b) (xt c) (xt d) := by
  have e1 : col a b c d * 2 % 2 ^ 32 = col ((2 * a) % 256 + b / 128) ((2 * b) % 256 + c / 128) ((2 * c) % 256 + d / 128) ((2 * d) % 256 + 0) := by unfold col; omega
  have e2 : col a b c d / 128 = col (a / 128) (a % 128 * 2 + b / 128) (b % 128 * 2 + c / 128) (c % 128 * 2 + d / 128) := by unfold col; omega
  have e3 : 4278124286 = col 254 254 254 254 := by unfold col; rfl
  have e4 : 16843009 = col 1 1 1 1 := by unfold col; rfl
  unfold dbl
  rw [e1, e2, e3, e4, col_and _ _ _ _ _ _ _ _ (by omega) (by omega) (by omega) (by decide) (by decide) (by decide),
    col_and _ _ _ _ _ _ _ _ (by omega) (by omega) (by omega) (by decide) (by decide) (by decide), and254 _ _ (by omega), and254 _ _ (by omega), and254 _ _ (by omega), and254 _ _ (by omega),
    and1, and1, and1, Nat.and_one_is_mod]
  have e5 : col (a / 128 % 2) (b / 128 % 2) (c / 128 % 2) (d / 128 % 2) * 27 = col (a / 128 * 27) (b / 128 * 27) (c / 128 * 27) (d / 128 * 27) := by unfold col; omega
  rw [e5, col_xor _ _ _ _ _ _ _ _ (by omega) (by omega) (by omega) (by omega) (by omega) (by omega)]
  rfl

/-- The first byte of a column that is mixed. -/
def M (a b c d : Nat) : Nat := xt (a ^^^ b) ^^^ b ^^^ c ^^^ d
theorem M_lt (a b c d : Nat) (ha : a < 256) (hb : b < 256) (hc : c < 256) (hd : d < 256) : M a b c d < 256 :=
  xor_lt256 (xor_lt256 (xor_lt256 (xt_lt _ (xor_lt256 ha hb)) hb) hc) hd
theorem mixed_col (a b c d : Nat) (ha : a < 256) (hb : b < 256) (hc : c < 256) (hd : d < 256) :
    dbl (col a b c d ^^^ rotc (col a b c d) 1) ^^^ rotc (col a b c d) 1 ^^^ rotc (col a b c d) 2 ^^^ rotc (col a b c d) 3 = col (M a b c d) (M b c d a) (M c d a b) (M d a b c) := by
  rw [rotc1 a b c d ha hb hc hd, rotc2 a b c d ha hb hc hd, rotc3 a b c d ha hb hc hd, col_xor _ _ _ _ _ _ _ _ hb hc hd hc hd ha,
    dbl_col _ _ _ _ (xor_lt256 ha hb) (xor_lt256 hb hc) (xor_lt256 hc hd) (xor_lt256 hd ha),
    col_xor _ _ _ _ _ _ _ _ (xt_lt _ (xor_lt256 hb hc)) (xt_lt _ (xor_lt256 hc hd)) (xt_lt _ (xor_lt256 hd ha)) hc hd ha,
    col_xor _ _ _ _ _ _ _ _ (xor_lt256 (xt_lt _ (xor_lt256 hb hc)) hc) (xor_lt256 (xt_lt _ (xor_lt256 hc hd)) hd) (xor_lt256 (xt_lt _ (xor_lt256 hd ha)) ha) hd ha hb,
    col_xor _ _ _ _ _ _ _ _ (xor_lt256 (xor_lt256 (xt_lt _ (xor_lt256 hb hc)) hc) hd) (xor_lt256 (xor_lt256 (xt_lt _ (xor_lt256 hc hd)) hd) ha) (xor_lt256 (xor_lt256 (xt_lt _ (xor_lt256 hd ha)) ha) hb) ha hb hc]
  rfl

/-! What is mixed can be taken apart. -/
def m9 (a : Nat) : Nat := xt (xt (xt a)) ^^^ a
def m11 (a : Nat) : Nat := xt (xt (xt a)) ^^^ xt a ^^^ a
def m13 (a : Nat) : Nat := xt (xt (xt a)) ^^^ xt (xt a) ^^^ a
def m14 (a : Nat) : Nat := xt (xt (xt a)) ^^^ xt (xt a) ^^^ xt a
theorem xself_left (a b : Nat) : a ^^^ (a ^^^ b) = b := by rw [← Nat.xor_assoc, Nat.xor_self, Nat.zero_xor]
theorem xleft_comm (a b c : Nat) : a ^^^ (b ^^^ c) = b ^^^ (a ^^^ c) := by rw [← Nat.xor_assoc, Nat.xor_comm a b, Nat.xor_assoc]
theorem xor16 (a1 b1 c1 d1 a2 b2 c2 d2 a3 b3 c3 d3 a4 b4 c4 d4 : Nat) : (a1 ^^^ b1 ^^^ c1 ^^^ d1) ^^^ (b2 ^^^ c2 ^^^ d2 ^^^ a2) ^^^ (c3 ^^^ d3 ^^^ a3 ^^^ b3) ^^^ (d4 ^^^ a4 ^^^ b4 ^^^ c4) =
    (a1 ^^^ a2 ^^^ a3 ^^^ a4) ^^^ (b1 ^^^ b2 ^^^ b3 ^^^ b4) ^^^ (c1 ^^^ c2 ^^^ c3 ^^^ c4) ^^^ (d1 ^^^ d2 ^^^ d3 ^^^ d4) := by
  simp only [Nat.xor_comm, xleft_comm]
/-- A function that can be worked out part by part. -/
structure Lin (f : Nat → Nat) : Prop where
  xor : ∀ x y, x < 256 → y < 256 → f (x ^^^ y) = f x ^^^ f y
theorem Lin.four {f : Nat → Nat} (h : Lin f) {a b c d : Nat} (ha : a < 256) (hb : b < 256) (hc : c < 256) (hd : d < 256) : f (a ^^^ b ^^^ c ^^^ d) = f a ^^^ f b ^^^ f c ^^^ f d := by
  rw [h.xor _ _ (xor_lt256 (xor_lt256 ha hb) hc) hd, h.xor _ _ (xor_lt256 ha hb) hc, h.xor _ _ ha hb]
theorem lin_xt3 (x y : Nat) (hx : x < 256) (hy : y < 256) : xt (xt (xt (x ^^^ y))) = xt (xt (xt x)) ^^^ xt (xt (xt y)) ∧ xt (xt (x ^^^ y)) = xt (xt x) ^^^ xt (xt y) := by
  rw [xt_xor x y hx hy, xt_xor (xt x) (xt y) (xt_lt x hx) (xt_lt y hy), xt_xor (xt (xt x)) (xt (xt y)) (xt_lt _ (xt_lt x hx)) (xt_lt _ (xt_lt y hy))]
  exact ⟨rfl, rfl⟩
theorem lin9 : Lin m9 := ⟨fun x y hx hy => by
  unfold m9; rw [(lin_xt3 x y hx hy).1]; simp only [Nat.xor_assoc, Nat.xor_comm, xleft_comm]⟩
theorem lin11 : Lin m11 := ⟨fun x y hx hy => by
  unfold m11; rw [(lin_xt3 x y hx hy).1, xt_xor x y hx hy]; simp only [Nat.xor_assoc, Nat.xor_comm, xleft_comm]⟩
theorem lin13 : Lin m13 := ⟨fun x y hx hy => by
  unfold m13; rw [(lin_xt3 x y hx hy).1, (lin_xt3 x y hx hy).2]; simp only [Nat.xor_assoc, Nat.xor_comm, xleft_comm]⟩
theorem lin14 : Lin m14 := ⟨fun x y hx hy => by
  unfold m14; rw [(lin_xt3 x y hx hy).1, (lin_xt3 x y hx hy).2, xt_xor x y hx hy]; simp only [Nat.xor_assoc, Nat.xor_comm, xleft_comm]⟩
def m3 (b : Nat) : Nat := xt b ^^^ b
theorem m3_lt (b : Nat) (h : b < 256) : m3 b < 256 := xor_lt256 (xt_lt b h) h
theorem M_parts (a b c d : Nat) (ha : a < 256) (hb : b < 256) : M a b c d = xt a ^^^ m3 b ^^^ c ^^^ d := by
  unfold M m3; rw [xt_xor a b ha hb]; simp only [Nat.xor_assoc]
theorem back_a (a : Nat) (h : a < 256) : m14 (xt a) ^^^ m11 a ^^^ m13 a ^^^ m9 (m3 a) = a := by
  have h0 : (List.range 256).all (fun a => m14 (xt a) ^^^ m11 a ^^^ m13 a ^^^ m9 (m3 a) == a) = true := by kernel_rfl
  simpa using all_range h0 a h
theorem back_b (a : Nat) (h : a < 256) : m14 (m3 a) ^^^ m11 (xt a) ^^^ m13 a ^^^ m9 a = 0 := by
  have h0 : (List.range 256).all (fun a => m14 (m3 a) ^^^ m11 (xt a) ^^^ m13 a ^^^ m9 a == 0) = true := by kernel_rfl
  simpa using all_range h0 a h
theorem back_c (a : Nat) (h : a < 256) : m14 a ^^^ m11 (m3 a) ^^^ m13 (xt a) ^^^ m9 a = 0 := by
  have h0 : (List.range 256).all (fun a => m14 a ^^^ m11 (m3 a) ^^^ m13 (xt a) ^^^ m9 a == 0) = true := by kernel_rfl
  simpa using all_range h0 a h
theorem back_d (a : Nat) (h : a < 256) : m14 a ^^^ m11 a ^^^ m13 (m3 a) ^^^ m9 (xt a) = 0 := by
  have h0 : (List.range 256).all (fun a => m14 a ^^^ m11 a ^^^ m13 (m3 a) ^^^ m9 (xt a) == 0) = true := by kernel_rfl
  simpa using all_range h0 a h
theorem M_back (a b c d : Nat) (ha : a < 256) (hb : b < 256) (hc : c < 256) (hd : d < 256) :
    m14 (M a b c d) ^^^ m11 (M b c d a) ^^^ m13 (M c d a b) ^^^ m9 (M d a b c) = a := by
  rw [M_parts a b c d ha hb, M_parts b c d a hb hc, M_parts c d a b hc hd, M_parts d a b c hd ha,
    lin14.four (xt_lt a ha) (m3_lt b hb) hc hd, lin11.four (xt_lt b hb) (m3_lt c hc) hd ha, lin13.four (xt_lt c hc) (m3_lt d hd) ha hb, lin9.four (xt_lt d hd) (m3_lt a ha) hb hc,
    xor16, back_a a ha, back_b b hb, back_c c hc, back_d d hd]
  simp
theorem M_inj {a b c d a' b' c' d' : Nat} (ha : a < 256) (hb : b < 256) (hc : c < 256) (hd : d < 256) (ha' : a' < 256) (hb' : b' < 256) (hc' : c' < 256) (hd' : d' < 256)
    (h0 : M a b c d = M a' b' c' d') (h1 : M b c d a = M b' c' d' a') (h2 : M c d a b = M c' d' a' b') (h3 : M d a b c = M d' a' b' c') : a = a' := by
  rw [← M_back a b c d ha hb hc hd, ← M_back a' b' c' d' ha' hb' hc' hd', h0, h1, h2, h3]

end Go.Proofs.YtlfopcigbgfnlaaDoor
