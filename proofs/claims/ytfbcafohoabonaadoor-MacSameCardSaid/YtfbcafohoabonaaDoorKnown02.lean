/-
  Layer 2's rows, as the statements ask them: they are met.
-/
import Derived.Test.YtfbcafohoabonaaDoorLaw02
import Derived.Test.YtfbcafohoabonaaDoorVals02
import Derived.Test.YtfbcafohoabonaaDoorStr
namespace Go.Proofs.YtfbcafohoabonaaDoor
open Go.RowKit

set_option maxRecDepth 100000
set_option maxHeartbeats 2000000

theorem like_20 (w : World) : Calls Tryd.prog 15 #[.int .u8 11, .int .i64 20] w (GaveO w 20 (fun _ => 11)) := like_any 11 20 (by decide) w
theorem like_22 (w : World) : Calls Tryd.prog 15 #[.int .u8 11, .int .i64 22] w (GaveO w 22 (fun _ => 11)) := like_any 11 22 (by decide) w
theorem rise_13 (w : World) : Calls Tryd.prog 16 #[.int .u8 0, .int .i64 13] w (GaveO w 13 (fun i => (0 + i) % 256)) := rise_any 0 13 (by decide) w
theorem rise_10 (w : World) : Calls Tryd.prog 16 #[.int .u8 240, .int .i64 10] w (GaveO w 10 (fun i => (240 + i) % 256)) := rise_any 240 10 (by decide) w

theorem Expand_3 (k l : Value) (w : World) : Calls Tryd.prog 12 #[.int .u8 3, k, l, .int .i64 1] w fun e w' => e = .returned (.tuple #[.slice none 0 0, .int .i64 2]) ∧ w = w' := Expand_unknown 3 (by decide) (by decide) k l 1 w
theorem Mac_0 (k l : Value) (w : World) : Calls Tryd.prog 10 #[.int .u8 0, k, l] w fun e w' => e = .returned (.slice none 0 0) ∧ w = w' := Mac_none 0 (by decide) (by decide) k l w

theorem same_is (r : Bool) (n m cn cm : Nat) (a b : Option Addr) (f g : Nat → Nat) (B : Nat) (w : World) (ha : Rd w B a n f) (hb : Rd w B b m g) (hf : ∀ i, f i < 256) (hg : ∀ i, g i < 256) (hn : n < 2 ^ 62) (hm : m < 2 ^ 62) (hr : sameB n m f g = r) :
    Calls Tryd.prog 14 #[.slice a n cn, .slice b m cm] w fun e w' => e = .returned (.bool r) ∧ w = w' := by
  rw [← hr]; exact same_any n m cn cm a b f g B w ha hb hf hg hn hm

/-- True, and nothing that was is turned. -/
structure SaysTrue (w : World) (e : Ending) (w' : World) : Prop where
  ex : e = .returned (.bool true) ∧ w.grownBy w' none

theorem known02 (w : World) (hL : Laid w 1 2 FC KC) : Calls Tryd.prog 6 #[] w (SaysTrue w) := by
  go_enter Tryd.func6, Tryd.ntmps6
  go_wp2_with fail
  go_at_call 15
  with_reducible refine (like_20 _).mono ?_
  rintro e w1 ⟨v7, rfl, ho7, g1⟩
  obtain ⟨a7, c7, rfl, hc7, r7⟩ := ho7.ex
  clear ho7
  obtain ⟨k8, g8, r8⟩ := const_bytes w1 3 (msg [72, 105, 32]) #[.int .u8 72, .int .u8 105, .int .u8 32] (by kernel_rfl)
  have k8' := k8 _ rfl
  clear k8
  have z8 : (w1.alloc (.cells #[.int .u8 72, .int .u8 105, .int .u8 32] 5 (3, 4))).heap.size = w1.heap.size + 1 := by simp
  change w1.grownBy (w1.alloc (.cells #[.int .u8 72, .int .u8 105, .int .u8 32] 5 (3, 4))) none at g8
  change Rd (w1.alloc (.cells #[.int .u8 72, .int .u8 105, .int .u8 32] 5 (3, 4))) _ _ _ _ at r8
  change _ = Result.ok _ (w1.alloc (.cells #[.int .u8 72, .int .u8 105, .int .u8 32] 5 (3, 4))) at k8'
  generalize w1.alloc (.cells #[.int .u8 72, .int .u8 105, .int .u8 32] 5 (3, 4)) = u1 at *
  obtain ⟨k9, g9, r9⟩ := const_bytes u1 5 (msg [84, 104, 101, 114, 101]) #[.int .u8 84, .int .u8 104, .int .u8 101, .int .u8 114, .int .u8 101] (by kernel_rfl)
  have k9' := k9 _ rfl
  clear k9
  have z9 : (u1.alloc (.cells #[.int .u8 84, .int .u8 104, .int .u8 101, .int .u8 114, .int .u8 101] 5 (5, 6))).heap.size = u1.heap.size + 1 := by simp
  change u1.grownBy (u1.alloc (.cells #[.int .u8 84, .int .u8 104, .int .u8 101, .int .u8 114, .int .u8 101] 5 (5, 6))) none at g9
  change Rd (u1.alloc (.cells #[.int .u8 84, .int .u8 104, .int .u8 101, .int .u8 114, .int .u8 101] 5 (5, 6))) _ _ _ _ at r9
  change _ = Result.ok _ (u1.alloc (.cells #[.int .u8 84, .int .u8 104, .int .u8 101, .int .u8 114, .int .u8 101] 5 (5, 6))) at k9'
  generalize u1.alloc (.cells #[.int .u8 84, .int .u8 104, .int .u8 101, .int .u8 114, .int .u8 101] 5 (5, 6)) = u2 at *
  have hT := texts2 u2 (some ⟨w1.heap.size, 0, none⟩) (some ⟨u1.heap.size, 0, none⟩) 3 3 5 5 _ _ _ rfl (by decide) (by decide) (r8.up (by omega) g9) (r9.mono (by omega))
  have gT := World.grownBy_alloc u2 (.cells #[.slice (some ⟨w1.heap.size, 0, none⟩) 3 3, .slice (some ⟨u1.heap.size, 0, none⟩) 5 5] 22) none
  have g2 := grown_trans (grown_trans (grown_trans g1 g8) g9) gT
  have hm := Mac_any32 2 2 20 c7 _ a7 FC KC _ _ (fun _ => 11) _ (hL.grown g2 (by simp) (by simp)) hT (r7.up (Nat.le_refl _) (grown_trans (grown_trans g8 g9) gT)) (fun i => by
    split <;> exact getD_lt 256 (by decide) _ (by decide) _) (fun _ => by decide) FC_lt KC_lt hc7 (by decide) (by decide) (by decide)
  have HM := Lib.hid hm
  have Hg2 := Lib.hid g2
  clear hm hT gT g2 r8 r9 z8 z9 g8 g9 r7
  go_wp2_with fail
  go_at_call 10
  with_reducible refine (HM.out).mono ?_
  rintro e w2 ⟨ra, rfl, hra, hOa, g2⟩
  have hOa' : Holds w2 ra 60 .u8 32 (msg macAL) := hOa.congr (fun i hi => by
    rw [← macA_val]
    exact macOf_eval32 k20L hiL _ _ 20 8 rfl rfl (by decide) (fun i hi => by decide +revert) (fun i hi => by decide +revert) i hi)
  have gw2 := grown_trans Hg2.out g2
  clear hOa hra HM Hg2 g2 k8' k9' hc7 g1
  go_wp2_with fail
  go_at_call 15
  with_reducible refine (like_20 _).mono ?_
  rintro e w3 ⟨v14, rfl, ho14, g3⟩
  obtain ⟨a14, c14, rfl, hc14, r14⟩ := ho14.ex
  clear ho14
  obtain ⟨k15, g15, r15⟩ := const_bytes w3 8 (msg hiL) #[.int .u8 72, .int .u8 105, .int .u8 32, .int .u8 84, .int .u8 104, .int .u8 101, .int .u8 114, .int .u8 101] (by kernel_rfl)
  have k15' := k15 _ rfl
  clear k15
  have z15 : (w3.alloc (.cells #[.int .u8 72, .int .u8 105, .int .u8 32, .int .u8 84, .int .u8 104, .int .u8 101, .int .u8 114, .int .u8 101] 5 (8, 9))).heap.size = w3.heap.size + 1 := by simp
  change w3.grownBy (w3.alloc (.cells #[.int .u8 72, .int .u8 105, .int .u8 32, .int .u8 84, .int .u8 104, .int .u8 101, .int .u8 114, .int .u8 101] 5 (8, 9))) none at g15
  change Rd (w3.alloc (.cells #[.int .u8 72, .int .u8 105, .int .u8 32, .int .u8 84, .int .u8 104, .int .u8 101, .int .u8 114, .int .u8 101] 5 (8, 9))) _ _ _ _ at r15
  change _ = Result.ok _ (w3.alloc (.cells #[.int .u8 72, .int .u8 105, .int .u8 32, .int .u8 84, .int .u8 104, .int .u8 101, .int .u8 114, .int .u8 101] 5 (8, 9))) at k15'
  generalize w3.alloc (.cells #[.int .u8 72, .int .u8 105, .int .u8 32, .int .u8 84, .int .u8 104, .int .u8 101, .int .u8 114, .int .u8 101] 5 (8, 9)) = u3 at *
  have hT := texts1 u3 (some ⟨w3.heap.size, 0, none⟩) 8 8 _ _ rfl (by decide) (r15.mono (by omega))
  have gT := World.grownBy_alloc u3 (.cells #[.slice (some ⟨w3.heap.size, 0, none⟩) 8 8] 22) none
  have g23 := grown_trans (grown_trans g3 g15) gT
  have g4 := grown_trans gw2 g23
  have hm := Mac_any64 1 1 20 c14 _ a14 FC KC _ _ (fun _ => 11) _ (hL.grown g4 (by simp) (by simp)) hT (r14.up (Nat.le_refl _) (grown_trans g15 gT)) (fun i => getD_lt 256 (by decide) _ (by decide) _) (fun _ => by decide) FC_lt KC_lt hc14 (by decide) (by decide) (by decide)
  have HM := Lib.hid hm
  have Hg4 := Lib.hid g4
  have Hg23 := Lib.hid g23
  clear hm hT gT g4 g23 r15 z15 g15 r14
  go_wp2_with fail
  go_at_call 10
  with_reducible refine (HM.out).mono ?_
  rintro e w4 ⟨rb, rfl, hrb, hOb, g4⟩
  have hOb' : Holds w4 rb 58 .u8 64 (msg macBL) := hOb.congr (fun i hi => by
    rw [← macB_val]
    exact macOf_eval64 k20L hiL _ _ 20 8 rfl rfl (by decide) (fun i hi => by decide +revert) (fun i hi => rfl) i hi)
  have gw4 := grown_trans Hg4.out g4
  have hOa4 := hOa'.grown (grown_trans Hg23.out g4) (by simp)
  clear hOb hrb HM Hg4 Hg23 g4 k15' hc14 g3 gw2 hOa'
  go_wp2_with fail
  go_at_call 16
  with_reducible refine (rise_13 _).mono ?_
  rintro e w5 ⟨v20, rfl, ho20, g5⟩
  obtain ⟨a20, c20, rfl, hc20, r20⟩ := ho20.ex
  clear ho20
  go_wp2_with fail
  go_at_call 15
  with_reducible refine (like_22 _).mono ?_
  rintro e w6 ⟨v21, rfl, ho21, g6⟩
  obtain ⟨a21, c21, rfl, hc21, r21⟩ := ho21.ex
  clear ho21
  have g56 := grown_trans g5 g6
  have hm := Extract_any32 22 c21 13 c20 a21 a20 FC KC (fun _ => 11) (fun i => (0 + i) % 256) w6 (hL.grown (grown_trans gw4 g56) (by simp) (by simp)) r21 (r20.up (Nat.le_refl _) g6) (fun _ => by decide) (fun _ => Nat.mod_lt _ (by decide)) FC_lt KC_lt hc21 hc20 (by decide) (by decide)
  have HM := Lib.hid hm
  clear hm
  go_wp2_with fail
  go_at_call 11
  with_reducible refine (HM.out).mono ?_
  rintro e w7 ⟨rp, rfl, hrp, hOp, g7⟩
  have hOp' : Holds w7 rp 60 .u8 32 (msg prkL) := hOp.congr (fun i hi => by
    rw [← prk_val]
    exact macOf_eval32 saltL k22L _ _ 13 22 rfl rfl (by decide) (fun i hi => by decide +revert) (fun i hi => by decide +revert) i hi)
  have g57 := grown_trans g56 g7
  clear hOp hrp HM g7 g56 r20 r21 g5 g6 hc20 hc21
  go_wp2_with fail
  go_at_call 16
  with_reducible refine (rise_10 _).mono ?_
  rintro e w8 ⟨v23, rfl, ho23, g8⟩
  obtain ⟨a23, c23, rfl, hc23, r23⟩ := ho23.ex
  clear ho23
  have g58 := grown_trans g57 g8
  have hm : Calls Tryd.prog 12 #[.int .u8 1, .slice (some ⟨rp, 0, none⟩) 32 32, .slice a23 10 c23, .int .i64 42] w8 (GaveOK32 w8 42 (expandOf32 FC KC 32 (msg prkL) 10 (fun i => (240 + i) % 256))) := Expand_ok32 42 32 32 10 c23 (some ⟨rp, 0, none⟩) a23 FC KC (msg prkL) (fun i => (240 + i) % 256) w8 (hL.grown (grown_trans gw4 g58) (by simp) (by simp)) r23 ((hOp'.grown g8 (by simp)).rd _ (Nat.lt_of_lt_of_le hOp'.lt g8.size) 32 (by decide))
    (fun _ => Nat.mod_lt _ (by decide)) (fun i => getD_lt 256 (by decide) _ (by decide) i) FC_lt KC_lt (by decide) (by decide) hc23 (by decide) (by decide) (by decide)
  have HM := Lib.hid hm
  clear hm g57
  go_wp2_with fail
  go_at_call 12
  with_reducible refine (HM.out).mono ?_
  rintro e w9 ⟨re, rfl, hre, hFe, g9⟩
  have ht1 : ∀ i, i < 32 → tOf32 (macOf32 FC KC 32 (msg prkL)) 10 (fun i => (240 + i) % 256) 1 i = msg t1L i := fun i hi => by
    rw [← t1_val]
    exact tOf_eval32 prkL infoL [] (msg prkL) (fun i => (240 + i) % 256) 32 10 0 rfl rfl (by decide) (fun _ _ => rfl) (fun i hi => by decide +revert) rfl (fun i hi => absurd hi (by simp)) i hi
  have ht2 : ∀ i, i < 32 → tOf32 (macOf32 FC KC 32 (msg prkL)) 10 (fun i => (240 + i) % 256) 2 i = msg t2L i := fun i hi => by
    rw [← t2_val]
    exact tOf_eval32 prkL infoL t1L (msg prkL) (fun i => (240 + i) % 256) 32 10 1 rfl rfl (by decide) (fun _ _ => rfl) (fun i hi => by decide +revert) rfl (fun i hi => ht1 i hi) i hi
  have hFe' : Fill w9 re 42 (msg (t1L ++ t2L)) := ⟨fun i hi => by
    rw [hFe.cell i hi]
    by_cases e : i < 32
    · rw [expandOf32, outOf32, show i / 32 = 0 by omega, show i % 32 = i by omega, ht1 i e, msg_append_left _ _ _ e]
    · rw [expandOf32, outOf32, show i / 32 = 1 by omega, ht2 _ (by omega), msg_append_right _ _ _ (by show 32 ≤ i; omega)]
      rw [show i % 32 = i - t1L.length by show _ = i - 32; omega], hFe.free⟩
  have g49 := grown_trans g58 g9
  have gw9 := grown_trans gw4 g49
  have hOa9 := (hOa4.grown g49 (by simp)).rd _ (Nat.lt_of_lt_of_le hOa4.lt g49.size) 32 (by decide)
  have hOb9 := (hOb'.grown g49 (by simp)).rd _ (Nat.lt_of_lt_of_le hOb'.lt g49.size) 8 (by decide)
  have hre9 : re < w9.heap.size := hFe'.lt (by decide)
  have hRe : Rd w9 w9.heap.size (some ⟨re, 0, none⟩) 42 (msg (t1L ++ t2L)) := ⟨fun _ => ⟨re, 0, rfl, hre9, fun i hi => by rw [Nat.zero_add]; exact hFe'.cell i hi⟩⟩
  have bA : ∀ i, msg macAL i < 256 := getD_lt 256 (by decide) _ (by decide)
  have s1 := run_string 32 hOa9 bA
  have s2 := run_string 64 hOb9 (getD_lt 256 (by decide) _ (by decide))
  have s3 := run_string 42 hRe (getD_lt 256 (by decide) _ (by decide))
  rw [show strOf 32 (msg macAL) = ⟨#[176, 52, 76, 97, 216, 219, 56, 83, 92, 168, 175, 206, 175, 11, 241, 43, 136, 29, 194, 0, 201, 131, 61, 167, 38, 233, 55, 108, 46, 50, 207, 247]⟩ by kernel_rfl] at s1
  rw [show strOf 8 (msg macBL) = ⟨#[135, 170, 124, 222, 165, 239, 97, 157]⟩ by kernel_rfl] at s2
  rw [show strOf 42 (msg (t1L ++ t2L)) = ⟨#[60, 178, 95, 37, 250, 172, 213, 122, 144, 67, 79, 100, 208, 54, 47, 42, 45, 45, 10, 144, 207, 26, 90, 76, 93, 176, 45, 86, 236, 196, 197, 191, 52, 0, 114, 8, 213, 184, 135, 24, 88, 101]⟩ by kernel_rfl] at s3
  have HA := Lib.hid hOa9
  have HbA := Lib.hid bA
  have hA1 : Rd w9 w9.heap.size (some ⟨ra, 1, none⟩) 31 (fun i => msg macAL (1 + i)) := ⟨fun _ => ⟨ra, 1, rfl, Nat.lt_of_lt_of_le hOa4.lt g49.size, fun i hi => (hOa4.grown g49 (by simp)).cell (1 + i) (by omega)⟩⟩
  have HA1 := Lib.hid hA1
  have Hgw9 := Lib.hid gw9
  clear hFe hFe' ht1 ht2 hOa4 hOb' hOa9 hOb9 hRe g49 gw9 g58 g9 HM hre hre9 g8 gw4 hOp' r23 bA hA1 hc23
  go_wp2_with (first
    | (go_at_call 12; (with_reducible refine (Expand_3 _ _ _).mono ?_); rintro e w' ⟨rfl, rfl⟩)
    | (go_at_call 10; (with_reducible refine (Mac_0 _ _ _).mono ?_); rintro e w' ⟨rfl, rfl⟩))
  have hs1 := same_is true 32 32 32 32 _ _ _ _ _ _ HA.out HA.out HbA.out HbA.out (by decide) (by decide) ((sameB_iff _ _ _ _).2 ⟨rfl, fun _ _ => rfl⟩)
  have hs2 := same_is false 32 31 32 31 _ _ _ _ _ _ HA.out HA1.out HbA.out (fun i => HbA.out (1 + i)) (by decide) (by decide) (by rw [Bool.eq_false_iff]; intro h; exact absurd ((sameB_iff _ _ _ _).1 h).1 (by decide))
  have HS1 := Lib.hid hs1
  have HS2 := Lib.hid hs2
  clear hs1 hs2
  go_at_call 14
  with_reducible refine (HS1.out).mono ?_
  rintro e w' ⟨rfl, rfl⟩
  go_wp2_with (go_at_call 14; (with_reducible refine (HS2.out).mono ?_); rintro e w' ⟨rfl, rfl⟩)
  go_ret
  exact ⟨rfl, Hgw9.out⟩

end Go.Proofs.YtfbcafohoabonaaDoor
