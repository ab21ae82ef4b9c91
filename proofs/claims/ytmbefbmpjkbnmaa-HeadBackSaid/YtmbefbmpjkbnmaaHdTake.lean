/-
  head's Take.
-/
import Derived.Test.YtmbefbmpjkbnmaaHdField
import Derived.Test.YtmbefbmpjkbnmaaHdPut
import Derived.Test.YtmbefbmpjkbnmaaOrd3
namespace Go.Proofs.Ytmbefbmpjkbnmaa
open Go.RowKit

set_option maxRecDepth 100000
set_option maxHeartbeats 4000000

/-- A result of three, or of two, of which the first is a block's two numbers. -/
theorem res_h3 {P : Program} {fn : Func} {p q r : Tmp} {T : TypeId} {f : Nat → Nat} {x y : Value} {tmps : Array Value} {w : World} {g : Nat} {t : TypeId} (hr : fn.results = #[.cell p T, .tmp q, .tmp r]) (hp : tmps.getD p undef = .pointer (some ⟨g, 0, none⟩)) (hq : tmps.getD q undef = x) (hq2 : tmps.getD r undef = y) (H : Holds w g t .u64 2 f)
    (hu : (P.underlying T).map (fun d => match d with | .struct _ | .array _ _ => true | _ => false) = some true) (hi : (P.info? T).map (·.size) = some 2) : (results fn tmps).run P w = .ok (.tuple #[.agg #[.int .u64 (f 0), .int .u64 (f 1)], x, y]) w := by
  obtain ⟨d, d1, d2⟩ := under_row hu
  have hp' : tmps[p]?.getD undef = .pointer (some ⟨g, 0, none⟩) := by simpa using hp
  have hq' : tmps[q]?.getD undef = x := by simpa using hq
  have hq2' : tmps[r]?.getD undef = y := by simpa using hq2
  have r1 := run_loadVar_row (P := P) w g t T (cellsOf .u64 2 f) (0, 0) d H.block d1 (by cases d <;> first | rfl | exact d2) (by rw [cellsOf_size]; exact hi)
  rw [show cellsOf .u64 2 f = #[.int .u64 (f 0), .int .u64 (f 1)] from rfl] at r1
  simp [results, hr, hp', hq', hq2', asAddr, r1]
theorem res_h2 {P : Program} {fn : Func} {p q : Tmp} {T : TypeId} {f : Nat → Nat} {x : Value} {tmps : Array Value} {w : World} {g : Nat} {t : TypeId} (hr : fn.results = #[.cell p T, .tmp q]) (hp : tmps.getD p undef = .pointer (some ⟨g, 0, none⟩)) (hq : tmps.getD q undef = x) (H : Holds w g t .u64 2 f)
    (hu : (P.underlying T).map (fun d => match d with | .struct _ | .array _ _ => true | _ => false) = some true) (hi : (P.info? T).map (·.size) = some 2) : (results fn tmps).run P w = .ok (.tuple #[.agg #[.int .u64 (f 0), .int .u64 (f 1)], x]) w := by
  obtain ⟨d, d1, d2⟩ := under_row hu
  have hp' : tmps[p]?.getD undef = .pointer (some ⟨g, 0, none⟩) := by simpa using hp
  have hq' : tmps[q]?.getD undef = x := by simpa using hq
  have r1 := run_loadVar_row (P := P) w g t T (cellsOf .u64 2 f) (0, 0) d H.block d1 (by cases d <;> first | rfl | exact d2) (by rw [cellsOf_size]; exact hi)
  rw [show cellsOf .u64 2 f = #[.int .u64 (f 0), .int .u64 (f 1)] from rfl] at r1
  simp [results, hr, hp', hq', asAddr, r1]
/-- A byte that stands somewhere. -/
structure ByteAt (w : World) (b o v : Nat) : Prop where
  at_ : w.cell? ⟨b, o, none⟩ = some (.int .u8 v)
theorem ByteAt.grown {w w' : World} {b o v : Nat} (h : ByteAt w b o v) (g : w.grownBy w' none) : ByteAt w' b o v := ⟨g.cell h.at_ (by simp)⟩
/-- What is answered. -/
def ansK (L : Nat) (F : Nat → Nat) : Nat := if tkOk L F then tkK L F else 0
def ansC (L : Nat) (F : Nat → Nat) : Nat := if tkOk L F then tkC L F else 0
def ansU (L : Nat) (F : Nat → Nat) : Nat := if tkOk L F then tkUsed F else 0
def ansE (L : Nat) (F : Nat → Nat) : Nat := if tkOk L F then 0 else 9
structure TookHd (w : World) (L : Nat) (F : Nat → Nat) (e : Ending) (w' : World) : Prop where
  ret : e = .returned (.tuple #[.agg #[.int .u64 (ansK L F : Nat), .int .u64 (ansC L F : Nat)], .int .i64 (ansU L F : Nat), .int .i64 (ansE L F : Nat)])
  gr : w.grownBy w' none
theorem tookHd_bad {w w' : World} {L : Nat} {F : Nat → Nat} (h : tkOk L F = false) (g : w.grownBy w' none) : TookHd w L F (.returned (.tuple #[.agg #[.int .u64 0, .int .u64 0], .int .i64 0, .int .i64 9])) w' :=
  ⟨by unfold ansK ansC ansU ansE; simp only [h]; rfl, g⟩
theorem tookHd_good {w w' : World} {L : Nat} {F : Nat → Nat} (h : tkOk L F = true) (g : w.grownBy w' none) : TookHd w L F (.returned (.tuple #[.agg #[.int .u64 (tkK L F : Nat), .int .u64 (tkC L F : Nat)], .int .i64 (tkUsed F : Nat), .int .i64 0])) w' :=
  ⟨by unfold ansK ansC ansU ansE; simp only [h]; rfl, g⟩
def tkOks (L : Nat) (F : Nat → Nat) (j : Nat) : Bool := if j = 0 then true else if j = 1 then tkOk1 L F else tkOk1 L F && tkOk2 L F
theorem tk_step (L j : Nat) (F : Nat → Nat) (hj : j < 2) : tfN (two (tk1 F) (tk2 F) j) (L - hdPos (behN (tk1 F)) (tkUsed F) j) (fun i => F (hdPos (behN (tk1 F)) (tkUsed F) j + i)) = two (tkK L F) (tkC L F) j
    ∧ (tkOks L F j && tfOk (two (tk1 F) (tk2 F) j) (L - hdPos (behN (tk1 F)) (tkUsed F) j) (fun i => F (hdPos (behN (tk1 F)) (tkUsed F) j + i))) = tkOks L F (j + 1)
    ∧ hdPos (behN (tk1 F)) (tkUsed F) (j + 1) = hdPos (behN (tk1 F)) (tkUsed F) j + behN (two (tk1 F) (tk2 F) j) := by
  obtain rfl | rfl : j = 0 ∨ j = 1 := by omega
  · exact ⟨rfl, rfl, rfl⟩
  · exact ⟨rfl, rfl, rfl⟩
theorem tkOks_end (L : Nat) (F : Nat → Nat) (h0 : 0 < L) : tkOks L F 2 = tkOk L F := by
  unfold tkOk
  simp [h0]
  rfl
theorem tkOks_no (L j : Nat) (F : Nat → Nat) (hj : j < 2) (h : tkOks L F (j + 1) = false) : tkOk L F = false := by
  unfold tkOk
  obtain rfl | rfl : j = 0 ∨ j = 1 := by omega
  · change tkOk1 L F = false at h
    rw [h]
    simp
  · change (tkOk1 L F && tkOk2 L F) = false at h
    rw [h]
    simp
theorem and_u8 (a b : Nat) (ha : a < 256) (hb : b < 256) : bits .and .u8 (a : Int) (b : Int) = ((a &&& b : Nat) : Int) := by
  show IntKind.u8.wrap ((BitVec.ofInt 8 (a : Int) &&& BitVec.ofInt 8 (b : Int)).toNat : Int) = _
  have h : a &&& b < 2 ^ 8 := Nat.and_lt_two_pow a hb
  rw [BitVec.toNat_and, toNat_ofInt 8 a ha, toNat_ofInt 8 b hb, IntKind.wrap_u8]
  omega
theorem and_nib (x : Nat) (hx : x < 256) : bits .and .u8 (x : Int) 15 = ((x % 16 : Nat) : Int) := by
  have h := and_u8 x 15 hx (by decide)
  have h2 : x &&& 15 = x % 16 := Nat.and_two_pow_sub_one_eq_mod x 4
  rw [h2] at h
  exact h
theorem hdTake_any (L c D : Nat) (a : Option Addr) (F : Nat → Nat) (w : World) (hR : Rd w D a L F) (hF : ∀ i, F i < 256) (hc : L ≤ c) (hL : L ≤ 2 ^ 46) :
    Calls Try.prog 49 #[.slice a L c] w (TookHd w L F) := by
  have ga := World.grownBy_alloc w (.cells #[.int .u64 0, .int .u64 0] 128) none
  have hB := holds_alloc w 128 .u64 2 (fun _ => 0) #[.int .u64 0, .int .u64 0] rfl
  by_cases h0 : L = 0
  · subst h0
    have hno : tkOk 0 F = false := rfl
    have HNO := Lib.hid hno
    clear hno hR hF hL
    go_enter Try.func49, Try.ntmps49
    go_upto_region 1 with fail
    obtain ⟨RB, hRB⟩ : ∃ B, B = w.heap.size := ⟨_, rfl⟩
    rw [← hRB] at hB ⊢
    generalize w.alloc (.cells #[.int .u64 0, .int .u64 0] 128) = w1 at *
    have c0 : w1.cell? ⟨RB, 0, none⟩ = some (.int .u64 0) := hB.cell 0 (by decide)
    have c1 : w1.cell? ⟨RB, 1, none⟩ = some (.int .u64 0) := hB.cell 1 (by decide)
    have f0 := hB.frozen 0
    have f1 := hB.frozen 1
    have k1 := (hB.set 0 0).set 1 0
    have k2 := grown_setCell_new (grown_setCell_new ga ⟨RB, 0, none⟩ (.int .u64 (0 : Nat)) (Or.inl (by rw [hRB]; exact Nat.le_refl _))) ⟨RB, 1, none⟩ (.int .u64 (0 : Nat)) (Or.inl (by rw [hRB]; exact Nat.le_refl _))
    have HK1 := Lib.hid k1
    have HK2 := Lib.hid k2
    clear k1 k2 hB ga hRB
    go_wp2_with fail
    exact bodyPost_ret (res_h3 rfl rfl rfl rfl HK1.out (by kernel_rfl) (by kernel_rfl)) rfl (tookHd_bad HNO.out HK2.out)
  · obtain ⟨tb, o, rfl, p2, p3⟩ := hR.ex (by omega)
    have hC : ByteAt w tb o (F 0) := ⟨p3 0 (by omega)⟩
    have i1 : (L : Int) > 0 := by omega
    have i0 : ((L : Int) == 0) = false := by simp; omega
    have i2 : (L : Int) ≤ 70368744177664 := by omega
    have HR := Lib.hid hR
    have HF := Lib.hid hF
    have HLC := Lib.hid hc
    have HL0 := Lib.hid h0
    have HL := Lib.hid hL
    clear h0 hR hF hc hL p2 p3
    go_enter Try.func49, Try.ntmps49
    go_upto_region 1 with fail
    obtain ⟨RB, hRB⟩ : ∃ B, B = w.heap.size := ⟨_, rfl⟩
    rw [← hRB] at hB ⊢
    generalize w.alloc (.cells #[.int .u64 0, .int .u64 0] 128) = w1 at *
    have HB := Lib.hid hB
    have GA := Lib.hid ga
    have HRB := Lib.hid hRB
    have HCw := Lib.hid (hC.grown ga)
    clear hB ga hRB hC
    go_upto_region 3 with fail
    obtain ⟨V0, hV0⟩ : ∃ V0, V0 = w1.drew := ⟨_, rfl⟩
    have hv0 : w1.grownBy V0 none := by rw [hV0]; exact grown_drew (grown_refl w1 none)
    have HV0 := Lib.hid hV0.symm
    have GV := Lib.hid (grown_trans GA.out hv0)
    have HBv := Lib.hid (HB.out.grown hv0 (by simp))
    have HC := Lib.hid (HCw.out.grown hv0)
    have hb := HF.out 0
    obtain ⟨d1, hd1⟩ : ∃ d, d = tk1 F := ⟨_, rfl⟩
    obtain ⟨d2, hd2⟩ : ∃ d, d = tk2 F := ⟨_, rfl⟩
    have HD1 : Hid ((F 0 : Int) / 16 = (d1 : Int)) := Lib.hid (by rw [hd1]; unfold tk1; omega)
    have HD2 : Hid (bits .and .u8 (F 0 : Int) 15 = (d2 : Int)) := Lib.hid (by rw [hd2]; exact and_nib (F 0) hb)
    have HT1 := Lib.hid hd1
    have HT2 := Lib.hid hd2
    clear hV0 hv0 HB GA HCw hb hd1 hd2
    refine wp_region_held (S := (fun W => V0.grownBy W none)) (by kernel_rfl) ?_
    change wpAnyH _ _ _ _ _ 11 #[false, false, false, false, false, false, false, false, false, false, false] _ (World.drew _)
    rw [HV0.out]
    have hS0 : V0.grownBy V0 none := grown_refl V0 _
    refine wpAnyH_takeD (some 16) (i := 0) (v := (.slice (some ⟨tb, o, none⟩) L c)) rfl rfl (by kernel_rfl) (by kernel_rfl) (by kernel_rfl) (fun _ _ _ h => h) (Or.inl ⟨rfl, fun _ _ => rfl⟩) hS0 ?_
    simp only [Act.put, List.setIfInBounds_toArray, List.set_cons_succ, List.set_cons_zero]
    refine wpAnyH_takeD (some 17) (i := 1) (v := (.pointer (some ⟨tb, o, none⟩))) rfl rfl (by kernel_rfl) (by kernel_rfl) (by kernel_rfl) (fun _ _ _ h => h) (Or.inl ⟨rfl, fun _ _ => by go_simp; exact fun e => absurd e HL0.out⟩) hS0 ?_
    simp only [Act.put, List.setIfInBounds_toArray, List.set_cons_succ, List.set_cons_zero]
    refine wpAnyH_takeD (some 18) (i := 2) (v := (.int .u8 (F 0 : Nat))) rfl rfl (by kernel_rfl) (by kernel_rfl) (by kernel_rfl) (fun _ _ _ h => h) (Or.inl ⟨rfl, fun W hW => by have cx := HC.out.grown hW; have cx := cx.at_; go_simp⟩) hS0 ?_
    simp only [Act.put, List.setIfInBounds_toArray, List.set_cons_succ, List.set_cons_zero]
    refine wpAnyH_takeD (some 19) (i := 3) (v := (.int .u8 (d1 : Nat))) rfl rfl (by kernel_rfl) (by kernel_rfl) (by kernel_rfl) (fun _ _ _ h => h) (Or.inl ⟨rfl, fun _ _ => by go_simp; rw [HD1.out]⟩) hS0 ?_
    simp only [Act.put, List.setIfInBounds_toArray, List.set_cons_succ, List.set_cons_zero]
    refine wpAnyH_takeD (some 20) (i := 4) (v := (.slice (some ⟨tb, o, none⟩) L c)) rfl rfl (by kernel_rfl) (by kernel_rfl) (by kernel_rfl) (fun _ _ _ h => h) (Or.inl ⟨rfl, fun _ _ => rfl⟩) hS0 ?_
    simp only [Act.put, List.setIfInBounds_toArray, List.set_cons_succ, List.set_cons_zero]
    refine wpAnyH_takeD (some 21) (i := 5) (v := (.pointer (some ⟨tb, o, none⟩))) rfl rfl (by kernel_rfl) (by kernel_rfl) (by kernel_rfl) (fun _ _ _ h => h) (Or.inl ⟨rfl, fun _ _ => by go_simp; exact fun e => absurd e HL0.out⟩) hS0 ?_
    simp only [Act.put, List.setIfInBounds_toArray, List.set_cons_succ, List.set_cons_zero]
    refine wpAnyH_takeD (some 22) (i := 6) (v := (.int .u8 (F 0 : Nat))) rfl rfl (by kernel_rfl) (by kernel_rfl) (by kernel_rfl) (fun _ _ _ h => h) (Or.inl ⟨rfl, fun W hW => by have cx := HC.out.grown hW; have cx := cx.at_; go_simp⟩) hS0 ?_
    simp only [Act.put, List.setIfInBounds_toArray, List.set_cons_succ, List.set_cons_zero]
    refine wpAnyH_takeD (some 23) (i := 7) (v := (.int .u8 (d2 : Nat))) rfl rfl (by kernel_rfl) (by kernel_rfl) (by kernel_rfl) (fun _ _ _ h => h) (Or.inl ⟨rfl, fun _ _ => by go_simp; rw [HD2.out]⟩) hS0 ?_
    simp only [Act.put, List.setIfInBounds_toArray, List.set_cons_succ, List.set_cons_zero]
    refine wpAnyH_takeD (some 24) (i := 8) (v := (.agg #[.int .u8 (d1 : Nat), .int .u8 (d2 : Nat)])) rfl rfl (by kernel_rfl) (by kernel_rfl) (by kernel_rfl) (fun _ _ _ h => h) (Or.inl ⟨rfl, fun _ _ => by go_simp⟩) hS0 ?_
    simp only [Act.put, List.setIfInBounds_toArray, List.set_cons_succ, List.set_cons_zero]
    refine wpAnyH_one (i := 9) (by kernel_rfl) (op_alloc (k := .u8) (n := 2) (T := 185) (some 5) rfl rfl rfl (by unfold execOp; go_simp; rfl) hS0 ?_)
    intro W1 g1 hS1 hN
    simp only [Act.put, List.setIfInBounds_toArray, List.set_cons_succ, List.set_cons_zero]
    refine wpAnyH_one (i := 10) (by kernel_rfl) (op_store 185 5 24 V0.heap.size #[.int .u8 (d1 : Nat), .int .u8 (d2 : Nat)] rfl rfl rfl rfl rfl rfl 185 _ hN.block (by kernel_rfl) rfl (by simp [Value.oneCell']) (grown_setRow_new hS1 _ _ (Or.inl (Nat.le_refl _))) ?_)
    simp only [List.setIfInBounds_toArray, List.set_cons_succ, List.set_cons_zero]
    refine wpAnyH_done (by kernel_rfl) ?_ _
    have hN2 := hN.setRow .u8 2 (two d1 d2)
    have g2 := grown_setRow_new hS1 V0.heap.size (cellsOf .u8 2 (two d1 d2)) (Or.inl (Nat.le_refl _))
    rw [show cellsOf .u8 2 (two d1 d2) = #[.int .u8 (d1 : Nat), .int .u8 (d2 : Nat)] from rfl] at hN2 g2
    obtain ⟨PB, hPB⟩ : ∃ B, B = V0.heap.size := ⟨_, rfl⟩
    rw [← hPB] at hN2 g2 ⊢
    generalize W1.setRow PB #[.int .u8 (d1 : Nat), .int .u8 (d2 : Nat)] = w2 at *
    have HN := Lib.hid hN2
    have HG2 := Lib.hid g2
    clear hN g1 hS1 hS0 hN2 g2 hPB HV0
    go_upto_region 5 with fail
    have hFl := holds_alloc w2 187 .u64 2 (fun i => if i < 0 then two (tkK L F) (tkC L F) i else 0) #[.int .u64 0, .int .u64 0] rfl
    have ga := World.grownBy_alloc w2 (.cells #[.int .u64 0, .int .u64 0] 187) none
    obtain ⟨FB, hFB⟩ : ∃ B, B = w2.heap.size := ⟨_, rfl⟩
    rw [← hFB] at hFl ⊢
    generalize w2.alloc (.cells #[.int .u64 0, .int .u64 0] 187) = w3 at *
    have HFl := Lib.hid hFl
    have HG3 := Lib.hid ga
    have HFB := Lib.hid hFB
    have hN3 := HN.out.grown ga (by simp)
    have c0 : w3.cell? ⟨PB, 0, none⟩ = some (.int .u8 d1) := hN3.cell 0 (by decide)
    have c1 : w3.cell? ⟨PB, 1, none⟩ = some (.int .u8 d2) := hN3.cell 1 (by decide)
    have HRB2 := Lib.hid (HBv.out.grown HG2.out (by simp))
    have GW2 := Lib.hid (grown_trans GV.out HG2.out)
    clear hFl ga hFB hN3 HN HBv HG2 HC HD1 HD2
    go_wp2_with fail
    clear c0 c1
    go_loopw [7, 8, 9, 10, 11, 26] (fun u7 _ _ _ _ u26 wr => ∃ j : Nat, j ≤ 2 ∧ u26 = .int .i64 j ∧ u7 = .int .i64 (hdPos (behN d1) (tkUsed F) j : Nat) ∧ hdPos (behN d1) (tkUsed F) j ≤ L ∧ tkOks L F j = true ∧ w2.grownBy wr none ∧ Holds wr FB 187 .u64 2 (fun i => if i < j then two (tkK L F) (tkC L F) i else 0)) (fun _ _ _ _ _ u26 _ => 2 - (intOf u26).toNat)
    case atStart => exact ⟨0, by omega, rfl, rfl, by have := HL0.out; unfold hdPos; rw [if_pos rfl]; omega, rfl, HG3.out, HFl.out⟩
    case round =>
      clear HFl HG3
      obtain ⟨j, hj, rfl, rfl, hsL, hok, hg, hH⟩ := hrel
      by_cases hlt : j < 2
      · have j1 : (j : Int) < 2 := by omega
        obtain ⟨q1, q2, q3⟩ := tk_step L j F hlt
        rw [← HT1.out, ← HT2.out] at q1 q2
        rw [← HT1.out, ← HT2.out] at q3
        have hD16 : two d1 d2 j < 16 := by
          have hb := HF.out 0
          rw [HT1.out, HT2.out]
          unfold two tk1 tk2
          split <;> omega
        have x0 := idx_nibs d1 d2 j j rfl hlt wr
        obtain ⟨D', hD⟩ : ∃ D, D = two d1 d2 j := ⟨_, rfl⟩
        rw [← hD] at q1 q2 q3 hD16 x0
        obtain ⟨s, hs⟩ : ∃ s, s = hdPos (behN d1) (tkUsed F) j := ⟨_, rfl⟩
        rw [← hs] at q1 q2 q3 hsL ⊢
        have hRw := (HR.out.grown (grown_trans GW2.out hg) (fun k e => by cases e))
        obtain ⟨a', z1, z2⟩ := run_restQ c s hRw hsL HLC.out
        have hR2 := z2 wr hRw
        have z3 := z1 wr
        have hB := fun W => behind_any D' W hD16
        have hT := takeField_any D' (L - s) (c - s) D a' (fun i => F (s + i)) wr hD16 hR2 (fun i => HF.out _) (by have := HLC.out; omega)
        obtain ⟨v, hv⟩ : ∃ v, v = two (tkK L F) (tkC L F) j := ⟨_, rfl⟩
        rw [q1, ← hv] at hT
        obtain ⟨ok, hok2⟩ : ∃ ok, ok = tfOk D' (L - s) (fun i => F (s + i)) := ⟨_, rfl⟩
        rw [← hok2] at hT q2
        rw [hok, Bool.true_and] at q2
        have HT := Lib.hid hT
        have HBh := Lib.hid hB
        have HLT := Lib.hid hlt
        have HQ2 := Lib.hid q2
        have HQ3 := Lib.hid q3
        have HOK2 := Lib.hid hok2
        have HG := Lib.hid hg
        have HH := Lib.hid hH
        have HV := Lib.hid hv
        have HSL := Lib.hid hsL
        have HD16 := Lib.hid hD16
        have i3 : (s : Int) ≤ L := by omega
        clear q1 q2 q3 hD hs hRw z1 z2 hR2 hT hB hv hok2 hok hg hH hlt hj hsL hD16
        go_wp2_with fail
        go_at_call 118
        with_reducible refine (HT.out).mono ?_
        rintro e w' ⟨rfl, rfl⟩
        clear HT x0 z3
        cases ok with
        | false =>
          have hRw := HRB2.out.grown HG.out (by simp)
          have c0 : wr.cell? ⟨RB, 0, none⟩ = some (.int .u64 0) := hRw.cell 0 (by decide)
          have c1 : wr.cell? ⟨RB, 1, none⟩ = some (.int .u64 0) := hRw.cell 1 (by decide)
          have f0 := hRw.frozen 0
          have f1 := hRw.frozen 1
          have k1 := (hRw.set 0 0).set 1 0
          have k2 := grown_setCell_new (grown_setCell_new (grown_trans GW2.out HG.out) ⟨RB, 0, none⟩ (.int .u64 (0 : Nat)) (Or.inl (by rw [HRB.out]; exact Nat.le_refl _))) ⟨RB, 1, none⟩ (.int .u64 (0 : Nat)) (Or.inl (by rw [HRB.out]; exact Nat.le_refl _))
          have HK1 := Lib.hid k1
          have HK2 := Lib.hid k2
          have HNO := Lib.hid (tkOks_no L j F HLT.out HQ2.out.symm)
          clear k1 k2 hRw
          go_wp2_with fail
          exact bodyPost_ret (res_h3 rfl rfl rfl rfl HK1.out (by kernel_rfl) (by kernel_rfl)) rfl (tookHd_bad HNO.out HK2.out)
        | true =>
          have hlt := HLT.out
          have cF := HH.out.cell j hlt
          rw [if_neg (Nat.lt_irrefl j)] at cF
          have fF := HH.out.frozen j
          have k1 := (HH.out.set j v).congr (g := fun i => if i < j + 1 then two (tkK L F) (tkC L F) i else 0) (by
            intro i hi
            by_cases e : i = j
            · subst e; rw [upd_same, if_pos (by omega)]; exact HV.out
            · rw [upd_other _ _ _ _ e]
              by_cases e2 : i < j
              · rw [if_pos e2, if_pos (by omega)]
              · rw [if_neg e2, if_neg (by omega)])
          have k2 := grown_setCell_new HG.out ⟨FB, j, none⟩ (.int .u64 v) (Or.inl (by rw [HFB.out]; exact Nat.le_refl _))
          obtain ⟨wz, hwz⟩ : ∃ W, W = wr.setCell ⟨FB, j, none⟩ (.int .u64 v) := ⟨_, rfl⟩
          rw [← hwz] at k1 k2
          have HK1 := Lib.hid k1
          have HK2 := Lib.hid k2
          have HWZ := Lib.hid hwz
          have b8 := behN_le D' HD16.out
          have p1 := (tf_taken D' (L - s) (fun i => F (s + i)) HOK2.out.symm (fun i => HF.out _)).1
          have b9 : s + behN D' ≤ L := by have := HSL.out; omega
          have HB9 := Lib.hid b9
          have i4 : (behN D' : Int) ≤ 8 := by omega
          clear k1 k2 hwz hlt HH HG b8 b9 p1
          go_upto_region 13 with fail
          rw [← HWZ.out]
          clear cF fF HWZ
          go_wp2_with fail
          go_at_call 119
          with_reducible refine (HBh.out wz).mono ?_
          rintro e w' ⟨rfl, rfl⟩
          clear HBh
          go_wp2_with fail
          go_roundw
          case rel => exact ⟨j + 1, by have := HLT.out; omega, by go_num, by rw [HQ3.out]; go_num, by rw [HQ3.out]; exact HB9.out, HQ2.out.symm, HK2.out, HK1.out⟩
          case measure => have := HLT.out; simp [intOf]; omega
      · obtain rfl : j = 2 := by omega
        rw [tkOks_end L F (by have := HL0.out; omega)] at hok
        have hU : hdPos (behN d1) (tkUsed F) 2 = tkUsed F := rfl
        rw [hU] at hsL ⊢
        have c0 : wr.cell? ⟨FB, 0, none⟩ = some (.int .u64 (tkK L F : Nat)) := hH.cell 0 (by decide)
        have c1 : wr.cell? ⟨FB, 1, none⟩ = some (.int .u64 (tkC L F : Nat)) := hH.cell 1 (by decide)
        have hRw := HRB2.out.grown hg (by simp)
        have r0 : wr.cell? ⟨RB, 0, none⟩ = some (.int .u64 0) := hRw.cell 0 (by decide)
        have r1 : wr.cell? ⟨RB, 1, none⟩ = some (.int .u64 0) := hRw.cell 1 (by decide)
        have f0 := hRw.frozen 0
        have f1 := hRw.frozen 1
        have k1 := (hRw.set 0 (tkK L F)).set 1 (tkC L F)
        have k2 := grown_setCell_new (grown_setCell_new (grown_trans GW2.out hg) ⟨RB, 0, none⟩ (.int .u64 (tkK L F : Nat)) (Or.inl (by rw [HRB.out]; exact Nat.le_refl _))) ⟨RB, 1, none⟩ (.int .u64 (tkC L F : Nat)) (Or.inl (by rw [HRB.out]; exact Nat.le_refl _))
        have HK1 := Lib.hid k1
        have HK2 := Lib.hid k2
        have HOK := Lib.hid hok
        clear k1 k2 hRw hok hg hH hlt hj hU hsL
        go_wp2_with fail
        exact bodyPost_ret (res_h3 rfl rfl rfl rfl HK1.out (by kernel_rfl) (by kernel_rfl)) rfl (tookHd_good HOK.out HK2.out)
end Go.Proofs.Ytmbefbmpjkbnmaa
