/-
  Layer 12's rows, as the statements ask them: they are met.
-/
import Derived.Test.YtmbefbmpjkbnmaaHdTake
import Derived.Test.YtmbefbmpjkbnmaaHdRefP
import Derived.Test.YtmbefbmpjkbnmaaRowRun
import Derived.Test.YtmbefbmpjkbnmaaStr
import Derived.Lib.Strings
import Derived.Laws.IdiomStrings
namespace Go.Proofs.Ytmbefbmpjkbnmaa
open Go.RowKit Go.Shelf

set_option maxRecDepth 100000
set_option maxHeartbeats 4000000

def knK (i : Nat) : Nat := if i = 0 then 5 else if i = 1 then 8 else if i = 2 then 256 else 18446744073709551615
def knC (i : Nat) : Nat := if i = 0 then 7 else if i = 1 then 0 else if i = 2 then 65535 else 0
theorem knK_lt (i : Nat) : knK i < 18446744073709551616 := by
  unfold knK
  repeat' split
  all_goals decide
theorem knC_lt (i : Nat) : knC i < 18446744073709551616 := by
  unfold knC
  repeat' split
  all_goals decide
def knS (i : Nat) : ByteArray := strOf (hdLen (knK i) (knC i)) (hdF (knK i) (knC i))
def elF (k c : Nat) (s : ByteArray) (j : Nat) : Value := if j = 0 then .int .u64 (k : Nat) else if j = 1 then .int .u64 (c : Nat) else .string s
def knV (j : Nat) : Value := elF (knK (j / 3)) (knC (j / 3)) (knS (j / 3)) (j % 3)
/-- '[]byte(s)'. -/
theorem bytes_of {w : World} {n : Nat} {f : Nat → Nat} (hf : ∀ i, f i < 256) : ∃ cap w', (convert 9 39 (.string (strOf n f))).run Try.prog w = .ok (.slice (some ⟨w.heap.size, 0, none⟩) n cap) w' ∧ n ≤ cap ∧ w.grownBy w' none ∧ Rd w' w'.heap.size (some ⟨w.heap.size, 0, none⟩) n f := by
  have hr := run_bytes_of_string (P := Try.prog) w 9 39 5 (strOf n f) (by kernel_rfl) (by kernel_rfl) (by kernel_rfl)
  rw [strOf_size] at hr
  have hcg := grownCap_ge w n 0 5
  generalize grownCap w n 0 5 = cap at *
  refine ⟨cap, _, hr, hcg, grown_alloc (grown_drew (grown_refl w none)) _, ⟨fun h0 => ⟨w.heap.size, 0, rfl, by simp, fun i hi => ?_⟩⟩⟩
  rw [Nat.zero_add, Joins.cell_alloc_mark_at w.drew (bytesRow (strOf n f) cap) 5 _ w.heap.size i rfl]
  unfold bytesRow
  rw [Array.getElem?_append_left (by simpa [strOf] using hi)]
  have := hf i
  simp [strOf, hi, UInt8.toNat_ofNat']
  omega
theorem hdPut_enters (args : Array Value) (w : World) : (callFunc 51 args).run Try.prog w = .ok (.enter 51 args) w := enters_of Try.func51 (by kernel_rfl) rfl args w
theorem GaveHd.valP {w : World} {n : Nat} {f : Nat → Nat} {e : Ending} {w' : World} (h : GaveHd w n f e w') : ∃ v, e = .returned v ∧ ∃ g cap, v = .slice (some ⟨g, 0, none⟩) n cap ∧ OwnR w' g n cap f ∧ w.heap.size ≤ g ∧ w.grownBy w' none := by
  obtain ⟨⟨g, cap, h1, h2, h3⟩, h4⟩ := h
  exact ⟨_, h1, g, cap, rfl, h2, h3, h4⟩
/-- What was put is taken, whatever stands behind. -/
theorem hdBack_any (k c L cp D : Nat) (a : Option Addr) (F : Nat → Nat) (w : World) (hk : k < 18446744073709551616) (hc : c < 18446744073709551616) (hR : Rd w D a L F) (hF : ∀ i, F i < 256) (hcp : L ≤ cp) (hL : L ≤ 2 ^ 46) (hl : hdLen k c ≤ L) (he : ∀ i, i < hdLen k c → F i = hdF k c i) :
    Calls Try.prog 49 #[.slice a L cp] w fun e w' => e = .returned (.tuple #[.agg #[.int .u64 (k : Nat), .int .u64 (c : Nat)], .int .i64 (hdLen k c : Nat), .int .i64 0]) ∧ w.grownBy w' none :=
  (hdTake_any L cp D a F w hR hF hcp hL).mono fun e w' h => by
    obtain ⟨q1, q2, q3, q4⟩ := tk_put k c L F hk hc hl he
    refine ⟨?_, h.gr⟩
    rw [h.ret]
    unfold ansK ansC ansU ansE
    simp only [q1, q2, q3, q4]
    rfl
theorem hdNo_any (L cp D : Nat) (a : Option Addr) (F : Nat → Nat) (w : World) (hR : Rd w D a L F) (hF : ∀ i, F i < 256) (hcp : L ≤ cp) (hL : L ≤ 2 ^ 46) (hno : tkOk L F = false) :
    Calls Try.prog 49 #[.slice a L cp] w fun e w' => e = .returned (.tuple #[.agg #[.int .u64 0, .int .u64 0], .int .i64 0, .int .i64 9]) ∧ w.grownBy w' none :=
  (hdTake_any L cp D a F w hR hF hcp hL).mono fun e w' h => by
    refine ⟨?_, h.gr⟩
    rw [h.ret]
    unfold ansK ansC ansU ansE
    simp only [hno]
    rfl
/-- Bytes of no header. -/
def kb (i : Nat) : List Nat := if i = 0 then [128, 7] else if i = 1 then [152, 1, 0] else if i = 2 then [144, 0, 8] else if i = 3 then [128] else []
def kbF (i j : Nat) : Nat := (kb i).getD j 0
def kbN (i : Nat) : Nat := (kb i).length
def kbV (j : Nat) : Value := .string (strOf (kbN j) (kbF j))
theorem kb_lt (i j : Nat) : kbF i j < 256 := getD_lt 256 (by decide) (kb i) (by
  unfold kb
  repeat' split
  all_goals decide) j
theorem kb_len (i : Nat) : kbN i ≤ 3 := by
  unfold kbN kb
  repeat' split
  all_goals decide
theorem kb_no (i : Nat) (hi : i < 5) : tkOk (kbN i) (kbF i) = false := by
  obtain rfl | rfl | rfl | rfl | rfl : i = 0 ∨ i = 1 ∨ i = 2 ∨ i = 3 ∨ i = 4 := by omega
  all_goals decide
theorem hdKnown_any (w : World) : Calls Try.prog 47 #[] w fun e w' => e = .returned (.bool true) ∧ w.grownBy w' none := by
  have gA := World.grownBy_alloc w (.cells (rowOf 12 knV) 179) none
  have hA := RowAt.new w 179 12 knV _ rfl
  rw [show rowOf 12 knV = #[.int .u64 5, .int .u64 7, .string ⟨#[87]⟩, .int .u64 8, .int .u64 0, .string ⟨#[128, 8]⟩, .int .u64 256, .int .u64 65535, .string ⟨#[153, 1, 0, 255, 255]⟩, .int .u64 18446744073709551615, .int .u64 0, .string ⟨#[240, 255, 255, 255, 255, 255, 255, 255, 255]⟩] by kernel_rfl] at gA hA
  have HA := Lib.hid hA
  have HG := Lib.hid gA
  clear hA gA
  go_enter Try.func47, Try.ntmps47
  go_wp2_with fail
  generalize w.alloc (.cells #[.int .u64 5, .int .u64 7, .string ⟨#[87]⟩, .int .u64 8, .int .u64 0, .string ⟨#[128, 8]⟩, .int .u64 256, .int .u64 65535, .string ⟨#[153, 1, 0, 255, 255]⟩, .int .u64 18446744073709551615, .int .u64 0, .string ⟨#[240, 255, 255, 255, 255, 255, 255, 255, 255]⟩] 179) = w1 at *
  obtain ⟨SB, hSB⟩ : ∃ B, B = w.heap.size := ⟨_, rfl⟩
  rw [← hSB] at HA ⊢
  go_loopw [21] (fun u21 wr => ∃ i : Nat, i ≤ 4 ∧ u21 = .int .i64 i ∧ RowAt wr SB 179 12 knV ∧ w.grownBy wr none) (fun u21 _ => 4 - (intOf u21).toNat)
  case atStart => exact ⟨0, by decide, rfl, HA.out, HG.out⟩
  case round =>
    clear HA HG hSB
    obtain ⟨i, hi, rfl, hA, hG⟩ := hrel
    by_cases hlt : i < 4
    · have j1 : (i : Int) < 4 := by omega
      have hL : (Instr.loadAt 179 (.pointer (some ⟨SB, i * 3, none⟩))).run Try.prog wr = .ok (.agg (rowOf 3 (elF (knK i) (knC i) (knS i)))) wr := hA.load (P := Try.prog) (i * 3) 179 3 _ (by omega) (fun j hj => by
        unfold knV
        rw [show (i * 3 + j) / 3 = i by omega, show (i * 3 + j) % 3 = j by omega]) (by kernel_rfl) (by kernel_rfl)
      have hk := knK_lt i
      have hc := knC_lt i
      have hs : knS i = strOf (hdLen (knK i) (knC i)) (hdF (knK i) (knC i)) := rfl
      generalize knK i = k at *
      generalize knC i = c at *
      generalize knS i = s at *
      obtain ⟨n, hn⟩ : ∃ n, n = hdLen k c := ⟨_, rfl⟩
      have hn17 := (hdLen_bd k c).2
      rw [← hn] at hs hn17
      have hsz : s.size = n := by rw [hs]; exact strOf_size _ _
      have hX := RowAt.new wr 179 3 (elF k c s) _ rfl
      have gX := World.grownBy_alloc wr (.cells (rowOf 3 (elF k c s)) 179) none
      rw [show rowOf 3 (elF k c s) = #[.int .u64 (k : Nat), .int .u64 (c : Nat), .string s] from rfl] at hX gX hL
      have HS := Lib.hid hs
      have HSZ := Lib.hid hsz
      have HL := Lib.hid hL
      have HX := Lib.hid hX
      have HA2 := Lib.hid (hA.grown gX (by simp))
      have HG2 := Lib.hid (grown_trans hG gX)
      have HPT := Lib.hid (fun W => hdPut_any k c W hk hc)
      rw [← hn] at HPT
      have HN := Lib.hid hn
      have HI := Lib.hid hlt
      have HK64 := Lib.hid hk
      have HC64 := Lib.hid hc
      have j2 : (n : Int) ≤ 17 := by omega
      clear hL hs hsz hX gX hA hG hn hlt hi hk hc
      go_upto_region 4 with (first | ((with_reducible refine wpList_here ?_); refine wpList_ld (p := .pointer (some ⟨SB, i * 3, none⟩)) 23 ?_ ?_ ?_ HL.out ?_; (· rfl); go_simp; (· kernel_rfl)))
      obtain ⟨XB, hXB⟩ : ∃ B, B = wr.heap.size := ⟨_, rfl⟩
      rw [← hXB] at HX ⊢
      generalize wr.alloc (.cells #[.int .u64 (k : Nat), .int .u64 (c : Nat), .string s] 179) = w2 at *
      clear HL hXB
      have c2 : w2.cell? ⟨XB, 2, none⟩ = some (.string s) := HX.out.cell 2 (by decide)
      obtain ⟨cp, w3, z, hcp, g3, hR⟩ := bytes_of (w := w2) (n := n) (hdF_lt k c)
      rw [← HS.out] at z
      have hB := hdBack_any k c n cp _ _ (hdF k c) w3 HK64.out HC64.out hR (hdF_lt k c) hcp (by omega) (by rw [← HN.out]; exact Nat.le_refl _) (fun _ _ => rfl)
      rw [← HN.out] at hB
      have HBk := Lib.hid hB
      have HX3 := Lib.hid (HX.out.grown g3 (by simp))
      have HA3 := Lib.hid (HA2.out.grown g3 (by simp))
      have HG3 := Lib.hid (grown_trans HG2.out g3)
      clear hB hR g3 hcp hn17 HX HA2 HG2
      go_wp2_with fail
      go_at_call 49
      with_reducible refine (HBk.out).mono ?_
      rintro e w4 ⟨rfl, g4⟩
      have hH := holds_alloc w4 128 .u64 2 (two k c) #[.int .u64 k, .int .u64 c] rfl
      have gH := World.grownBy_alloc w4 (.cells #[.int .u64 k, .int .u64 c] 128) none
      have HX4 := Lib.hid ((HX3.out.grown g4 (by simp)).grown gH (by simp))
      have HA4 := Lib.hid ((HA3.out.grown g4 (by simp)).grown gH (by simp))
      have HG4 := Lib.hid (grown_trans (grown_trans HG3.out g4) gH)
      have HH4 := Lib.hid hH
      clear z c2 g4 gH hH HX3 HA3 HG3 HBk
      go_upto_region 5 with fail
      obtain ⟨HB, hHB⟩ : ∃ B, B = w4.heap.size := ⟨_, rfl⟩
      rw [← hHB] at HH4 ⊢
      generalize w4.alloc (.cells #[.int .u64 (k : Nat), .int .u64 (c : Nat)] 128) = w5 at *
      clear hHB
      obtain ⟨V0, hV0⟩ : ∃ V0, V0 = w5.drew := ⟨_, rfl⟩
      have hv0 : w5.grownBy V0 none := by rw [hV0]; exact grown_drew (grown_refl w5 none)
      have HV0 := Lib.hid hV0.symm
      have HX := Lib.hid (HX4.out.grown hv0 (by simp))
      have HH := Lib.hid (HH4.out.grown hv0 (by simp))
      have HA5 := Lib.hid (HA4.out.grown hv0 (by simp))
      have HG5 := Lib.hid (grown_trans HG4.out hv0)
      clear hV0 hv0 HX4 HH4 HA4 HG4
      refine wp_region_held (S := (fun W => V0.grownBy W none)) (by kernel_rfl) ?_
      change wpAnyH _ _ _ _ _ 24 #[false, false, false, false, false, false, false, false, false, false, false, false, false, false, false, false, false, false, false, false, false, false, false, false] _ (World.drew _)
      rw [HV0.out]
      have hS0 : V0.grownBy V0 none := grown_refl V0 _
      refine wpAnyH_takeD (some 33) (i := 0) (v := (.pointer (some ⟨XB, 0, none⟩))) rfl rfl (by kernel_rfl) (by kernel_rfl) (by kernel_rfl) (fun _ _ _ h => h) (Or.inl ⟨rfl, fun _ _ => by go_simp⟩) hS0 ?_
      simp only [Act.put, List.setIfInBounds_toArray, List.set_cons_succ, List.set_cons_zero]
      refine wpAnyH_takeD (some 34) (i := 1) (v := (.agg #[.int .u64 (k : Nat), .int .u64 (c : Nat)])) rfl rfl (by kernel_rfl) (by kernel_rfl) (by kernel_rfl) (fun _ _ _ h => h) (Or.inl ⟨rfl, fun W hW => by have c0 := (HX.out.grown hW (by simp)).cell 0 (by decide); have c1 := (HX.out.grown hW (by simp)).cell 1 (by decide); rw [show elF k c s 0 = .int .u64 (k : Nat) from rfl] at c0; rw [show elF k c s 1 = .int .u64 (c : Nat) from rfl] at c1; go_simp⟩) hS0 ?_
      simp only [Act.put, List.setIfInBounds_toArray, List.set_cons_succ, List.set_cons_zero]
      refine wpAnyH_takeD (some 37) (i := 4) (v := (.pointer (some ⟨XB, 2, none⟩))) rfl rfl (by kernel_rfl) (by kernel_rfl) (by kernel_rfl) (fun _ _ _ h => h) (Or.inl ⟨rfl, fun _ _ => by go_simp⟩) hS0 ?_
      simp only [Act.put, List.setIfInBounds_toArray, List.set_cons_succ, List.set_cons_zero]
      refine wpAnyH_takeD (some 38) (i := 5) (v := (.string s)) rfl rfl (by kernel_rfl) (by kernel_rfl) (by kernel_rfl) (fun _ _ _ h => h) (Or.inl ⟨rfl, fun W hW => by have c2 := (HX.out.grown hW (by simp)).cell 2 (by decide); rw [show elF k c s 2 = .string s from rfl] at c2; go_simp⟩) hS0 ?_
      simp only [Act.put, List.setIfInBounds_toArray, List.set_cons_succ, List.set_cons_zero]
      refine wpAnyH_callD (some 35) (i := 2) 51 #[.agg #[.int .u64 (k : Nat), .int .u64 (c : Nat)]] (by kernel_rfl) rfl rfl rfl (exec_fn1 _ _ _ rfl rfl) hdPut_enters ((HPT.out V0).mono fun e W1 h => h.valP) ?_
      rintro _ V1 ⟨gk, ck, rfl, hO, hgk, g1⟩
      refine ⟨g1, ?_⟩
      simp only [Act.put, List.setIfInBounds_toArray, List.set_cons_succ, List.set_cons_zero]
      have z := run_string ck hO.rd (hdF_lt k c)
      rw [← HS.out] at z
      refine wpAnyH_yieldD (some 36) (i := 3) (v := (.string s)) (by kernel_rfl) rfl rfl rfl (by go_simp) g1 ?_
      simp only [Act.put, List.setIfInBounds_toArray, List.set_cons_succ, List.set_cons_zero]
      clear z hO
      refine wpAnyH_takeD (some 39) (i := 6) (v := (.bool false)) rfl rfl (by kernel_rfl) (by kernel_rfl) (by kernel_rfl) (fun _ _ _ h => h) (Or.inl ⟨rfl, fun _ _ => by go_simp⟩) g1 ?_
      simp only [Act.put, List.setIfInBounds_toArray, List.set_cons_succ, List.set_cons_zero]
      refine wpAnyH_takeD (some 40) (i := 7) (v := (.bool false)) rfl rfl (by kernel_rfl) (by kernel_rfl) (by kernel_rfl) (fun _ _ _ h => h) (Or.inl ⟨rfl, fun _ _ => rfl⟩) g1 ?_
      simp only [Act.put, List.setIfInBounds_toArray, List.set_cons_succ, List.set_cons_zero]
      refine wpAnyH_takeD (some 41) (i := 8) (v := (.agg #[.int .u64 (k : Nat), .int .u64 (c : Nat)])) rfl rfl (by kernel_rfl) (by kernel_rfl) (by kernel_rfl) (fun _ _ _ h => h) (Or.inl ⟨rfl, fun W hW => by have c0 := (HH.out.grown hW (by simp)).cell 0 (by decide); have c1 := (HH.out.grown hW (by simp)).cell 1 (by decide); rw [show two k c 0 = k from rfl] at c0; rw [show two k c 1 = c from rfl] at c1; go_simp⟩) g1 ?_
      simp only [Act.put, List.setIfInBounds_toArray, List.set_cons_succ, List.set_cons_zero]
      refine wpAnyH_takeD (some 42) (i := 9) (v := (.pointer (some ⟨XB, 0, none⟩))) rfl rfl (by kernel_rfl) (by kernel_rfl) (by kernel_rfl) (fun _ _ _ h => h) (Or.inl ⟨rfl, fun _ _ => by go_simp⟩) g1 ?_
      simp only [Act.put, List.setIfInBounds_toArray, List.set_cons_succ, List.set_cons_zero]
      refine wpAnyH_takeD (some 43) (i := 10) (v := (.agg #[.int .u64 (k : Nat), .int .u64 (c : Nat)])) rfl rfl (by kernel_rfl) (by kernel_rfl) (by kernel_rfl) (fun _ _ _ h => h) (Or.inl ⟨rfl, fun W hW => by have c0 := (HX.out.grown hW (by simp)).cell 0 (by decide); have c1 := (HX.out.grown hW (by simp)).cell 1 (by decide); rw [show elF k c s 0 = .int .u64 (k : Nat) from rfl] at c0; rw [show elF k c s 1 = .int .u64 (c : Nat) from rfl] at c1; go_simp⟩) g1 ?_
      simp only [Act.put, List.setIfInBounds_toArray, List.set_cons_succ, List.set_cons_zero]
      refine wpAnyH_takeD (some 44) (i := 11) (v := (.bool false)) rfl rfl (by kernel_rfl) (by kernel_rfl) (by kernel_rfl) (fun _ _ _ h => h) (Or.inl ⟨rfl, fun _ _ => by go_simp⟩) g1 ?_
      simp only [Act.put, List.setIfInBounds_toArray, List.set_cons_succ, List.set_cons_zero]
      refine wpAnyH_takeD (some 45) (i := 12) (v := (.bool false)) rfl rfl (by kernel_rfl) (by kernel_rfl) (by kernel_rfl) (fun _ _ _ h => h) (Or.inl ⟨rfl, fun _ _ => by go_simp⟩) g1 ?_
      simp only [Act.put, List.setIfInBounds_toArray, List.set_cons_succ, List.set_cons_zero]
      refine wpAnyH_takeD (some 46) (i := 13) (v := (.bool false)) rfl rfl (by kernel_rfl) (by kernel_rfl) (by kernel_rfl) (fun _ _ _ h => h) (Or.inl ⟨rfl, fun _ _ => rfl⟩) g1 ?_
      simp only [Act.put, List.setIfInBounds_toArray, List.set_cons_succ, List.set_cons_zero]
      refine wpAnyH_takeD (some 47) (i := 14) (v := (.int .i64 (n : Nat))) rfl rfl (by kernel_rfl) (by kernel_rfl) (by kernel_rfl) (fun _ _ _ h => h) (Or.inl ⟨rfl, fun _ _ => rfl⟩) g1 ?_
      simp only [Act.put, List.setIfInBounds_toArray, List.set_cons_succ, List.set_cons_zero]
      refine wpAnyH_takeD (some 48) (i := 15) (v := (.pointer (some ⟨XB, 2, none⟩))) rfl rfl (by kernel_rfl) (by kernel_rfl) (by kernel_rfl) (fun _ _ _ h => h) (Or.inl ⟨rfl, fun _ _ => by go_simp⟩) g1 ?_
      simp only [Act.put, List.setIfInBounds_toArray, List.set_cons_succ, List.set_cons_zero]
      refine wpAnyH_takeD (some 49) (i := 16) (v := (.string s)) rfl rfl (by kernel_rfl) (by kernel_rfl) (by kernel_rfl) (fun _ _ _ h => h) (Or.inl ⟨rfl, fun W hW => by have c2 := (HX.out.grown hW (by simp)).cell 2 (by decide); rw [show elF k c s 2 = .string s from rfl] at c2; go_simp⟩) g1 ?_
      simp only [Act.put, List.setIfInBounds_toArray, List.set_cons_succ, List.set_cons_zero]
      refine wpAnyH_takeD (some 50) (i := 17) (v := (.int .i64 (n : Nat))) rfl rfl (by kernel_rfl) (by kernel_rfl) (by kernel_rfl) (fun _ _ _ h => h) (Or.inl ⟨rfl, fun _ _ => by have hz := HSZ.out; go_simp⟩) g1 ?_
      simp only [Act.put, List.setIfInBounds_toArray, List.set_cons_succ, List.set_cons_zero]
      refine wpAnyH_takeD (some 51) (i := 18) (v := (.bool false)) rfl rfl (by kernel_rfl) (by kernel_rfl) (by kernel_rfl) (fun _ _ _ h => h) (Or.inl ⟨rfl, fun _ _ => by go_simp⟩) g1 ?_
      simp only [Act.put, List.setIfInBounds_toArray, List.set_cons_succ, List.set_cons_zero]
      refine wpAnyH_takeD (some 52) (i := 19) (v := (.bool false)) rfl rfl (by kernel_rfl) (by kernel_rfl) (by kernel_rfl) (fun _ _ _ h => h) (Or.inl ⟨rfl, fun _ _ => by go_simp⟩) g1 ?_
      simp only [Act.put, List.setIfInBounds_toArray, List.set_cons_succ, List.set_cons_zero]
      refine wpAnyH_takeD (some 53) (i := 20) (v := (.bool false)) rfl rfl (by kernel_rfl) (by kernel_rfl) (by kernel_rfl) (fun _ _ _ h => h) (Or.inl ⟨rfl, fun _ _ => rfl⟩) g1 ?_
      simp only [Act.put, List.setIfInBounds_toArray, List.set_cons_succ, List.set_cons_zero]
      refine wpAnyH_takeD (some 54) (i := 21) (v := (.int .i64 0)) rfl rfl (by kernel_rfl) (by kernel_rfl) (by kernel_rfl) (fun _ _ _ h => h) (Or.inl ⟨rfl, fun _ _ => rfl⟩) g1 ?_
      simp only [Act.put, List.setIfInBounds_toArray, List.set_cons_succ, List.set_cons_zero]
      refine wpAnyH_takeD (some 55) (i := 22) (v := (.bool false)) rfl rfl (by kernel_rfl) (by kernel_rfl) (by kernel_rfl) (fun _ _ _ h => h) (Or.inl ⟨rfl, fun _ _ => by go_simp⟩) g1 ?_
      simp only [Act.put, List.setIfInBounds_toArray, List.set_cons_succ, List.set_cons_zero]
      refine wpAnyH_takeD (some 56) (i := 23) (v := (.bool false)) rfl rfl (by kernel_rfl) (by kernel_rfl) (by kernel_rfl) (fun _ _ _ h => h) (Or.inl ⟨rfl, fun _ _ => by go_simp⟩) g1 ?_
      simp only [Act.put, List.setIfInBounds_toArray, List.set_cons_succ, List.set_cons_zero]
      refine wpAnyH_done (by kernel_rfl) ?_ _
      have HA6 := Lib.hid (HA5.out.grown g1 (by simp))
      have HG6 := Lib.hid (grown_trans HG5.out g1)
      clear g1 hgk hS0
      go_wp2_with fail
      go_roundw
      case rel => exact ⟨i + 1, by have := HI.out; omega, by go_num, HA6.out, HG6.out⟩
      case measure => have := HI.out; simp [intOf]; omega
    · obtain rfl : i = 4 := by omega
      have gB := World.grownBy_alloc wr (.cells (rowOf 5 kbV) 9) none
      have hB := RowAt.new wr 9 5 kbV _ rfl
      rw [show rowOf 5 kbV = #[.string ⟨#[128, 7]⟩, .string ⟨#[152, 1, 0]⟩, .string ⟨#[144, 0, 8]⟩, .string ⟨#[128]⟩, .string ⟨#[]⟩] by kernel_rfl] at gB hB
      have HB := Lib.hid hB
      have HG := Lib.hid (grown_trans hG gB)
      clear hA hG hB gB hi hlt
      go_wp2_with fail
      obtain ⟨SC, hSC⟩ : ∃ B, B = wr.heap.size := ⟨_, rfl⟩
      rw [← hSC] at HB ⊢
      generalize wr.alloc (.cells #[.string ⟨#[128, 7]⟩, .string ⟨#[152, 1, 0]⟩, .string ⟨#[144, 0, 8]⟩, .string ⟨#[128]⟩, .string ⟨#[]⟩] 9) = w6 at *
      clear hSC wr
      go_loopw [60] (fun u60 wr => ∃ i : Nat, i ≤ 5 ∧ u60 = .int .i64 i ∧ RowAt wr SC 9 5 kbV ∧ w.grownBy wr none) (fun u60 _ => 5 - (intOf u60).toNat)
      case atStart => exact ⟨0, by decide, rfl, HB.out, HG.out⟩
      case round =>
        clear HB HG
        obtain ⟨i, hi, rfl, hA, hG⟩ := hrel
        by_cases hlt : i < 5
        · have j1 : (i : Int) < 5 := by omega
          have cS := hA.cell i hlt
          have hno := kb_no i hlt
          have hf := kb_lt i
          have hln := kb_len i
          unfold kbV at cS
          generalize kbF i = f at *
          generalize kbN i = n at *
          obtain ⟨s, hs⟩ : ∃ s, s = strOf n f := ⟨_, rfl⟩
          obtain ⟨cp, w3, z, hcp, g3, hR⟩ := bytes_of (w := wr) (n := n) hf
          rw [← hs] at cS z
          have HT := Lib.hid (hdNo_any n cp _ _ f w3 hR hf hcp (by omega) hno)
          have HA := Lib.hid (hA.grown g3 (by simp))
          have HG := Lib.hid (grown_trans hG g3)
          have HI := Lib.hid hlt
          clear hA hG hno hf hln hs hR hcp g3 hlt hi
          go_wp2_with fail
          go_at_call 49
          with_reducible refine (HT.out).mono ?_
          rintro e w4 ⟨rfl, g4⟩
          have hH := holds_alloc w4 128 .u64 2 (fun _ => 0) #[.int .u64 0, .int .u64 0] rfl
          have gH := World.grownBy_alloc w4 (.cells #[.int .u64 0, .int .u64 0] 128) none
          have HA4 := Lib.hid ((HA.out.grown g4 (by simp)).grown gH (by simp))
          have HG4 := Lib.hid (grown_trans (grown_trans HG.out g4) gH)
          clear z cS HA HG HT g4 gH
          go_upto_region 12 with fail
          obtain ⟨HB, hHB⟩ : ∃ B, B = w4.heap.size := ⟨_, rfl⟩
          rw [← hHB] at hH ⊢
          generalize w4.alloc (.cells #[.int .u64 0, .int .u64 0] 128) = w5 at *
          have c0 : w5.cell? ⟨HB, 0, none⟩ = some (.int .u64 0) := hH.cell 0 (by decide)
          have c1 : w5.cell? ⟨HB, 1, none⟩ = some (.int .u64 0) := hH.cell 1 (by decide)
          clear hH hHB
          go_wp2_with fail
          go_roundw
          case rel =>
            (repeat apply Exists.intro)
            refine And.intro ?_ rfl
            exact ⟨i + 1, by have := HI.out; omega, by go_num, HA4.out, HG4.out⟩
          case measure => have := HI.out; simp [intOf]; omega
        · obtain rfl : i = 5 := by omega
          have HG := Lib.hid hG
          clear hA hG hi hlt
          go_wp2_with fail
          go_ret
          exact ⟨rfl, HG.out⟩
end Go.Proofs.Ytmbefbmpjkbnmaa
