/-
  wire's Out: a number of 32 bits is put.
-/
import Derived.Test.YtpddgiflljlpbaaOutLeaf
namespace Go.Proofs.Ytpddgiflljlpbaa
open Go.RowKit

set_option maxRecDepth 100000
set_option maxHeartbeats 2000000

theorem outNum32_any {w0 w : World} {p : Option Addr} {s : OSt} (x tb o c : Nat) (h : OAt w0 w p s) (hx : x < 4294967296) (hc : w.cell? ⟨tb, o, none⟩ = some (.int .u32 x)) (hm : s.len + 4 ≤ 2 ^ 46) :
    Calls Try.prog 68 #[.pointer p, .int .i64 4, .slice (some ⟨tb, o, none⟩) 1 c] w (OSays w0 p (s.put 4 (nbF x 4))) := by
  have H := Lib.hid h
  have HM := Lib.hid hm
  have HX := Lib.hid hx
  clear h hm
  go_enter Try.func68, Try.ntmps68
  go_wp2_with fail
  go_loopw [12] (fun u12 wr => (u12 = .int .i64 0 ∧ w = wr) ∨ (u12 = .int .i64 1 ∧ OAt w0 wr p (s.put 4 (nbF x 4)))) (fun u12 _ => 2 - (intOf u12).toNat)
  case atStart => exact Or.inl ⟨rfl, rfl⟩
  case round =>
    rcases hrel with ⟨rfl, rfl⟩ | ⟨rfl, hE⟩
    · have gr0 := World.grownBy_alloc w (.cells #[.int .u8 0, .int .u8 0, .int .u8 0, .int .u8 0, .int .u8 0, .int .u8 0, .int .u8 0, .int .u8 0] 89) none
      have hH := holds_alloc w 89 .u8 8 (fun _ => 0) #[.int .u8 0, .int .u8 0, .int .u8 0, .int .u8 0, .int .u8 0, .int .u8 0, .int .u8 0, .int .u8 0] rfl
      have Gr := Lib.hid gr0
      have HH := Lib.hid hH
      clear gr0 hH
      go_wp2_with fail
      obtain ⟨B, hB⟩ : ∃ B, B = w.heap.size := ⟨_, rfl⟩
      have hH := HH.out
      have gr0 := Gr.out
      rw [← hB] at hH ⊢
      clear HH Gr
      have HB := Lib.hid hB
      clear hB
      generalize w.alloc (.cells #[.int .u8 0, .int .u8 0, .int .u8 0, .int .u8 0, .int .u8 0, .int .u8 0, .int .u8 0, .int .u8 0] 89) = w1 at *
      go_loopw [17] (fun u17 w2 => ∃ i : Nat, i ≤ 4 ∧ u17 = .int .i64 i ∧ Holds w2 B 89 .u8 8 (fun j => if 4 ≤ j + i ∧ j < 4 then nbF x 4 j else 0) ∧ w.grownBy w2 none) (fun u17 _ => 4 - (intOf u17).toNat)
      case atStart => exact ⟨0, Nat.zero_le _, rfl, hH.congr (fun j hj => (if_neg (by omega)).symm), gr0⟩
      case round =>
        clear hH gr0
        obtain ⟨i, hi, rfl, hH, gr⟩ := hrel
        by_cases hlt : i < 4
        · have c0 := hH.cell (4 - 1 - i) (by omega)
          have f0 := hH.frozen (4 - 1 - i)
          have Hi := Lib.hid hi
          have HL := Lib.hid hlt
          clear hi hlt
          have j1 : (i : Int) < 4 := by have := HL.out; omega
          obtain ⟨q, hq⟩ : ∃ q, q = nbF x 4 (4 - 1 - i) := ⟨_, rfl⟩
          have x0 := shr_byte x 4 i HL.out
          rw [← hq] at x0
          have hH2 := (hH.set (4 - 1 - i) q).congr (g := fun j => if 4 ≤ j + (i + 1) ∧ j < 4 then nbF x 4 j else 0) (fun j hj => by
            have := HL.out
            by_cases e : j = 4 - 1 - i
            · subst e; rw [upd_same, if_pos (by omega), hq]
            · rw [upd_other _ _ _ _ e]
              by_cases e2 : 4 ≤ j + i ∧ j < 4
              · rw [if_pos e2, if_pos (by omega)]
              · rw [if_neg e2, if_neg (by omega)])
          have g2 := grown_setCell_new gr ⟨B, 4 - 1 - i, none⟩ (.int .u8 (q : Nat)) (Or.inl (by show w.heap.size ≤ B; have := HB.out; omega))
          have HH2 := Lib.hid hH2
          have G2 := Lib.hid g2
          clear hH2 g2 hH gr hq
          go_wp2_with fail
          go_roundw
          case rel => exact ⟨i + 1, HL.out, by go_num, HH2.out, G2.out⟩
          case measure =>
            have := HL.out
            simp [intOf]
            try omega
        · obtain rfl : i = 4 := by omega
          have hE := hH.congr (g := fun j => if j < 4 then nbF x 4 j else 0) (fun j hj => by by_cases e : j < 4 <;> simp [e])
          have hR : Rd wr wr.heap.size (some ⟨B, 0, none⟩) 4 (nbF x 4) := (hE.rd _ hE.lt 4 (by decide)).congr (fun j hj => if_pos hj)
          have HP := Lib.hid (outPut_any wr.heap.size 4 8 (some ⟨B, 0, none⟩) (nbF x 4) (H.out.grown gr) hR HM.out)
          clear hE hR hH gr hi hlt
          go_wp2_with fail
          go_at_call 36
          refine HP.out.mono ?_
          rintro e w3 ⟨rfl, hE⟩
          have HE := Lib.hid hE
          clear hE HP
          go_wp2_with fail
          go_roundw
          case rel => exact Or.inr ⟨rfl, HE.out⟩
          case measure => decide
    · have HE := Lib.hid hE
      clear hE
      go_wp2_with fail
      go_end0
      exact ⟨rfl, HE.out⟩
end Go.Proofs.Ytpddgiflljlpbaa
