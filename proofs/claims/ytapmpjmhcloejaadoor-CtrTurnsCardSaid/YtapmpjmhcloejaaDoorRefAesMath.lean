/-
  Plain mathematics of AES's document: products of bytes, what they are multiplied by to 1, S by its words.
-/
import Derived.Test.YtapmpjmhcloejaaDoorAesMath
import Derived.Test.YtapmpjmhcloejaaDoorBase
namespace Go.Proofs.YtapmpjmhcloejaaDoor

def tmsF : Nat → Nat → Nat → Nat → Nat
  | 0, o, _, _ => o
  | k + 1, o, a, b => tmsF k (o ^^^ a * (b % 2)) (xt a) (b / 2)
/-- Two bytes, multiplied. -/
def tms (a b : Nat) : Nat := tmsF 8 0 a b
theorem tmsF_zero : ∀ k out a, tmsF k out a 0 = out
  | 0, _, _ => rfl
  | k + 1, out, a => by
    show tmsF k (out ^^^ a * (0 % 2)) (xt a) (0 / 2) = out
    rw [show a * (0 % 2) = 0 by simp, Nat.xor_zero]
    exact tmsF_zero k out (xt a)
theorem mul_bit (a b : Nat) (ha : a < 256) : a * (b % 2) < 256 := by
  rcases Nat.mod_two_eq_zero_or_one b with h | h <;> rw [h] <;> omega
theorem tmsF_lt : ∀ k out a b, out < 256 → a < 256 → tmsF k out a b < 256
  | 0, _, _, _, h, _ => h
  | k + 1, _, a, b, h, ha => tmsF_lt k _ _ _ (xor_lt256 h (mul_bit a b ha)) (xt_lt a ha)
theorem tms_lt (a b : Nat) (ha : a < 256) : tms a b < 256 := tmsF_lt 8 0 a b (by decide) ha
theorem tms2 (a : Nat) (h : a < 256) : tms a 2 = xt a := by
  have h0 : (List.range 256).all (fun a => tms a 2 == xt a) = true := by kernel_rfl
  simpa using all_range h0 a h
theorem tms3 (a : Nat) (h : a < 256) : tms a 3 = m3 a := by
  have h0 : (List.range 256).all (fun a => tms a 3 == m3 a) = true := by kernel_rfl
  simpa using all_range h0 a h

/-! What each byte is multiplied by to 1; the powers of 3 and of 246, and of which number each is the power. -/
def invL : List Nat := [0, 1, 141, 246, 203, 82, 123, 209, 232, 79, 41, 192, 176, 225, 229, 199, 116, 180, 170, 75, 153, 43, 96, 95, 88, 63, 253, 204, 255, 64, 238, 178, 58, 110, 90, 241, 85, 77, 168, 201, 193, 10, 152, 21, 48, 68, 162, 194, 44, 69, 146, 108, 243, 57, 102, 66, 242, 53, 32, 111, 119, 187, 89, 25, 29, 254, 55, 103, 45, 49, 245, 105, 167, 100, 171, 19, 84, 37, 233, 9, 237, 92, 5, 202, 76, 36, 135, 191, 24, 62, 34, 240, 81, 236, 97, 23, 22, 94, 175, 211, 73, 166, 54, 67, 244, 71, 145, 223, 51, 147, 33, 59, 121, 183, 151, 133, 16, 181, 186, 60, 182, 112, 208, 6, 161, 250, 129, 130, 131, 126, 127, 128, 150, 115, 190, 86, 155, 158, 149, 217, 247, 2, 185, 164, 222, 106, 50, 109, 216, 138, 132, 114, 42, 20, 159, 136, 249, 220, 137, 154, 251, 124, 46, 195, 143, 184, 101, 72, 38, 200, 18, 74, 206, 231, 210, 98, 12, 224, 31, 239, 17, 117, 120, 113, 165, 142, 118, 61, 189, 188, 134, 87, 11, 40, 47, 163, 218, 212, 228, 15, 169, 39, 83, 4, 27, 252, 172, 230, 122, 7, 174, 99, 197, 219, 226, 234, 148, 139, 196, 213, 157, 248, 144, 107, 177, 13, 214, 235, 198, 14, 207, 173, 8, 78, 215, 227, 93, 80, 30, 179, 91, 35, 56, 52, 104, 70, 3, 140, 221, 156, 125, 160, 205, 26, 65, 28]
def upL : List Nat := [1, 3, 5, 15, 17, 51, 85, 255, 26, 46, 114, 150, 161, 248, 19, 53, 95, 225, 56, 72, 216, 115, 149, 164, 247, 2, 6, 10, 30, 34, 102, 170, 229, 52, 92, 228, 55, 89, 235, 38, 106, 190, 217, 112, 144, 171, 230, 49, 83, 245, 4, 12, 20, 60, 68, 204, 79, 209, 104, 184, 211, 110, 178, 205, 76, 212, 103, 169, 224, 59, 77, 215, 98, 166, 241, 8, 24, 40, 120, 136, 131, 158, 185, 208, 107, 189, 220, 127, 129, 152, 179, 206, 73, 219, 118, 154, 181, 196, 87, 249, 16, 48, 80, 240, 11, 29, 39, 105, 187, 214, 97, 163, 254, 25, 43, 125, 135, 146, 173, 236, 47, 113, 147, 174, 233, 32, 96, 160, 251, 22, 58, 78, 210, 109, 183, 194, 93, 231, 50, 86, 250, 21, 63, 65, 195, 94, 226, 61, 71, 201, 64, 192, 91, 237, 44, 116, 156, 191, 218, 117, 159, 186, 213, 100, 172, 239, 42, 126, 130, 157, 188, 223, 122, 142, 137, 128, 155, 182, 193, 88, 232, 35, 101, 175, 234, 37, 111, 177, 200, 67, 197, 84, 252, 31, 33, 99, 165, 244, 7, 9, 27, 45, 119, 153, 176, 203, 70, 202, 69, 207, 74, 222, 121, 139, 134, 145, 168, 227, 62, 66, 198, 81, 243, 14, 18, 54, 90, 238, 41, 123, 141, 140, 143, 138, 133, 148, 167, 242, 13, 23, 57, 75, 221, 124, 132, 151, 162, 253, 28, 36, 108, 180, 199, 82, 246]
def dnL : List Nat := [1, 246, 82, 199, 180, 108, 36, 28, 253, 162, 151, 132, 124, 221, 75, 57, 23, 13, 242, 167, 148, 133, 138, 143, 140, 141, 123, 41, 238, 90, 54, 18, 14, 243, 81, 198, 66, 62, 227, 168, 145, 134, 139, 121, 222, 74, 207, 69, 202, 70, 203, 176, 153, 119, 45, 27, 9, 7, 244, 165, 99, 33, 31, 252, 84, 197, 67, 200, 177, 111, 37, 234, 175, 101, 35, 232, 88, 193, 182, 155, 128, 137, 142, 122, 223, 188, 157, 130, 126, 42, 239, 172, 100, 213, 186, 159, 117, 218, 191, 156, 116, 44, 237, 91, 192, 64, 201, 71, 61, 226, 94, 195, 65, 63, 21, 250, 86, 50, 231, 93, 194, 183, 109, 210, 78, 58, 22, 251, 160, 96, 32, 233, 174, 147, 113, 47, 236, 173, 146, 135, 125, 43, 25, 254, 163, 97, 214, 187, 105, 39, 29, 11, 240, 80, 48, 16, 249, 87, 196, 181, 154, 118, 219, 73, 206, 179, 152, 129, 127, 220, 189, 107, 208, 185, 158, 131, 136, 120, 40, 24, 8, 241, 166, 98, 215, 77, 59, 224, 169, 103, 212, 76, 205, 178, 110, 211, 184, 104, 209, 79, 204, 68, 60, 20, 12, 4, 245, 83, 49, 230, 171, 144, 112, 217, 190, 106, 38, 235, 89, 55, 228, 92, 52, 229, 170, 102, 34, 30, 10, 6, 2, 247, 164, 149, 115, 216, 72, 56, 225, 95, 53, 19, 248, 161, 150, 114, 46, 26, 255, 85, 51, 17, 15, 5, 3]
def lgL : List Nat := [0, 0, 25, 1, 50, 2, 26, 198, 75, 199, 27, 104, 51, 238, 223, 3, 100, 4, 224, 14, 52, 141, 129, 239, 76, 113, 8, 200, 248, 105, 28, 193, 125, 194, 29, 181, 249, 185, 39, 106, 77, 228, 166, 114, 154, 201, 9, 120, 101, 47, 138, 5, 33, 15, 225, 36, 18, 240, 130, 69, 53, 147, 218, 142, 150, 143, 219, 189, 54, 208, 206, 148, 19, 92, 210, 241, 64, 70, 131, 56, 102, 221, 253, 48, 191, 6, 139, 98, 179, 37, 226, 152, 34, 136, 145, 16, 126, 110, 72, 195, 163, 182, 30, 66, 58, 107, 40, 84, 250, 133, 61, 186, 43, 121, 10, 21, 155, 159, 94, 202, 78, 212, 172, 229, 243, 115, 167, 87, 175, 88, 168, 80, 244, 234, 214, 116, 79, 174, 233, 213, 231, 230, 173, 232, 44, 215, 117, 122, 235, 22, 11, 245, 89, 203, 95, 176, 156, 169, 81, 160, 127, 12, 246, 111, 23, 196, 73, 236, 216, 67, 31, 45, 164, 118, 123, 183, 204, 187, 62, 90, 251, 96, 177, 134, 59, 82, 161, 108, 170, 85, 41, 157, 151, 178, 135, 144, 97, 190, 220, 252, 188, 149, 207, 205, 55, 63, 91, 209, 83, 57, 132, 60, 65, 162, 109, 71, 20, 42, 158, 93, 86, 242, 211, 171, 68, 17, 146, 217, 35, 32, 46, 137, 180, 124, 184, 38, 119, 153, 227, 165, 103, 74, 237, 222, 197, 49, 254, 24, 13, 99, 140, 128, 192, 247, 112, 7]
def inv (b : Nat) : Nat := invL.getD b 0
theorem inv_lt (b : Nat) : inv b < 256 := getD_lt 256 (by decide) invL (fun x hx => by
  have h : invL.all (fun x => decide (x < 256)) = true := by kernel_rfl
  simpa using List.all_eq_true.1 h x hx) b

theorem tms_one (b i : Nat) (hb : b < 256) (hi : i < 256) (h0 : 0 < b) : tms b i = 1 ↔ i = inv b := by
  have h : (List.range 256).all (fun b => (List.range 256).all fun i => b == 0 || ((tms b i == 1) == (i == inv b))) = true := by kernel_rfl
  have := all_range (all_range h b hb) i hi
  simp only [Bool.or_eq_true, beq_iff_eq] at this
  rcases this with h | h
  · omega
  · rw [Bool.eq_iff_iff, beq_iff_eq, beq_iff_eq] at h; exact h
/-- The last number below n that b is multiplied by to 1. -/
def invTo (b : Nat) : Nat → Nat
  | 0 => 0
  | i + 1 => if tms b i = 1 then i else invTo b i
theorem invTo_all (b : Nat) (hb : b < 256) (h0 : 0 < b) : ∀ n, n ≤ 256 → invTo b n = if inv b < n then inv b else 0
  | 0, _ => by simp [invTo]
  | n + 1, hn => by
    have ih := invTo_all b hb h0 n (by omega)
    have h := tms_one b n hb (by omega) h0
    unfold invTo
    by_cases e : tms b n = 1
    · rw [if_pos e, if_pos (by rw [← h.1 e]; omega)]; exact h.1 e
    · rw [if_neg e, ih]
      have hne : inv b ≠ n := fun e' => e (h.2 e'.symm)
      by_cases e2 : inv b < n
      · rw [if_pos e2, if_pos (by omega)]
      · rw [if_neg e2, if_neg (by omega)]
theorem invTo_end (b : Nat) (hb : b < 256) (h0 : 0 < b) : invTo b 256 = inv b := by
  rw [invTo_all b hb h0 256 (Nat.le_refl _), if_pos (inv_lt b)]

/-! S of a byte, of what it is multiplied by to 1. -/
def affN (y i : Nat) : Nat := y / 2 ^ i % 2 + y / 2 ^ ((i + 4) % 8) % 2 + y / 2 ^ ((i + 5) % 8) % 2 + y / 2 ^ ((i + 6) % 8) % 2 + y / 2 ^ ((i + 7) % 8) % 2 + 99 / 2 ^ i % 2
def aff (y : Nat) : Nat → Nat
  | 0 => 0
  | i + 1 => aff y i + affN y i % 2 * 2 ^ i
theorem aff_lt (y : Nat) : ∀ n, aff y n < 2 ^ n
  | 0 => by simp [aff]
  | n + 1 => by
    have := aff_lt y n
    unfold aff
    have h : affN y n % 2 * 2 ^ n ≤ 2 ^ n := by
      rcases Nat.mod_two_eq_zero_or_one (affN y n) with h | h <;> rw [h] <;> omega
    rw [Nat.pow_succ]; omega
theorem aff_inv (b : Nat) (hb : b < 256) : aff (inv b) 8 = sB b := by
  have h : (List.range 256).all (fun b => aff (inv b) 8 == sB b) = true := by kernel_rfl
  simpa using all_range h b hb
theorem inv_zero : inv 0 = 0 := rfl

def upS : Nat → Nat
  | 0 => 1
  | i + 1 => tms (upS i) 3
def dnS : Nat → Nat
  | 0 => 1
  | i + 1 => tms (dnS i) 246
theorem upS_lt : ∀ i, upS i < 256
  | 0 => by decide
  | i + 1 => tms_lt _ _ (upS_lt i)
theorem dnS_lt : ∀ i, dnS i < 256
  | 0 => by decide
  | i + 1 => tms_lt _ _ (dnS_lt i)
theorem upS_eq : ∀ i, i < 255 → upS i = upL.getD i 0
  | 0, _ => rfl
  | i + 1, h => by
    have h0 : (List.range 254).all (fun i => tms (upL.getD i 0) 3 == upL.getD (i + 1) 0) = true := by kernel_rfl
    have := all_range h0 i (by omega)
    show tms (upS i) 3 = _
    rw [upS_eq i (by omega)]
    simpa using this
theorem dnS_eq : ∀ i, i < 255 → dnS i = dnL.getD i 0
  | 0, _ => rfl
  | i + 1, h => by
    have h0 : (List.range 254).all (fun i => tms (dnL.getD i 0) 246 == dnL.getD (i + 1) 0) = true := by kernel_rfl
    have := all_range h0 i (by omega)
    show tms (dnS i) 246 = _
    rw [dnS_eq i (by omega)]
    simpa using this
theorem lg_up (i : Nat) (h : i < 255) : lgL.getD (upS i) 0 = i := by
  have h0 : (List.range 255).all (fun i => lgL.getD (upL.getD i 0) 0 == i) = true := by kernel_rfl
  rw [upS_eq i h]
  simpa using all_range h0 i h
theorem lg_of (x : Nat) (hx : x < 256) (h0 : 0 < x) : lgL.getD x 0 < 255 ∧ upS (lgL.getD x 0) = x ∧ dnS (lgL.getD x 0) = inv x := by
  have h : (List.range 256).all (fun x => x == 0 || (decide (lgL.getD x 0 < 255) && upL.getD (lgL.getD x 0) 0 == x && dnL.getD (lgL.getD x 0) 0 == inv x)) = true := by kernel_rfl
  have := all_range h x hx
  simp only [Bool.or_eq_true, Bool.and_eq_true, beq_iff_eq, decide_eq_true_eq] at this
  rcases this with h | ⟨⟨h1, h2⟩, h3⟩
  · omega
  · exact ⟨h1, by rw [upS_eq _ h1]; exact h2, by rw [dnS_eq _ h1]; exact h3⟩
/-- The table of inverses, as it is filled. -/
def invT : Nat → Nat → Nat
  | 0 => fun _ => 0
  | i + 1 => upd (invT i) (upS i) (dnS i)
theorem invT_up : ∀ n, n ≤ 255 → ∀ j, j < n → invT n (upS j) = dnS j
  | 0, _, _, h => by omega
  | n + 1, hn, j, hj => by
    unfold invT
    by_cases e : j = n
    · subst e; rw [upd_same]
    · rw [upd_other _ _ _ _ (fun h => e (by rw [← lg_up j (by omega), ← lg_up n (by omega), h]))]
      exact invT_up n (by omega) j (by omega)
theorem invT_end (x : Nat) (hx : x < 256) (h0 : 0 < x) : invT 255 x = inv x := by
  obtain ⟨h1, h2, h3⟩ := lg_of x hx h0
  have := invT_up 255 (Nat.le_refl _) _ h1
  rw [h2, h3] at this
  exact this
theorem invT_lt : ∀ n i, invT n i < 256
  | 0, _ => (by decide : (0 : Nat) < 256)
  | n + 1, i => by
    unfold invT upd
    show (if i = upS n then dnS n else invT n i) < 256
    split
    · exact dnS_lt n
    · exact invT_lt n i

end Go.Proofs.YtapmpjmhcloejaaDoor
