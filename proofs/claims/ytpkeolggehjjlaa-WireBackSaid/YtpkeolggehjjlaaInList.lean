/-
  wire's TakeList, of numbers of 32 bits; one of no function.
-/
import Derived.Test.YtpkeolggehjjlaaInKit
import Derived.Test.YtpkeolggehjjlaaOwnE
namespace Go.Proofs.Ytpkeolggehjjlaa
open Go.RowKit

set_option maxRecDepth 100000
set_option maxHeartbeats 2000000

theorem grown_row {w0 w w' : World} {row r2 : Option Nat} (h : w0.grownBy w row) (g : w.grownBy w' r2) (hk : ∀ k, r2 = some k → w0.heap.size ≤ k) : w0.grownBy w' row := by
  cases r2 with
  | none => exact ⟨g.os.trans h.os, g.tape.trans h.tape, g.output.trans h.output, Nat.le_trans h.size g.size, fun i hi hr => (g.block i (Nat.lt_of_lt_of_le hi h.size) (by simp)).trans (h.block i hi hr)⟩
  | some k => exact grown_new h g (hk k rfl)
theorem IAt.lt {w : World} {p : Option Addr} {L : Nat} {F : Nat → Nat} {s : ISt} (h : IAt w p L F s) (g : Nat) (hp : p = some ⟨g, 0, none⟩) : g < w.heap.size := by
  have hs := h.st
  cases s with
  | nil =>
    have h0 : p = none := hs
    rw [h0] at hp
    cases hp
  | bad =>
    obtain ⟨g', h1, h2⟩ := hs
    rw [hp] at h1
    cases h1
    exact World.block_lt_of_cell? w _ h2.c0
  | good a =>
    obtain ⟨g', a', c', h1, h2, _⟩ := hs
    rw [hp] at h1
    cases h1
    exact World.block_lt_of_cell? w _ h2.c0
theorem IAt.rowP_lt {w : World} {p : Option Addr} {L : Nat} {F : Nat → Nat} {s : ISt} (h : IAt w p L F s) (k : Nat) (hp : rowP p = some k) : k < w.heap.size := by
  have hs := h.st
  cases s with
  | nil =>
    have h0 : p = none := hs
    rw [h0] at hp
    cases hp
  | bad =>
    obtain ⟨g', h1, h2⟩ := hs
    rw [h1] at hp
    cases hp
    exact World.block_lt_of_cell? w _ h2.c0
  | good a =>
    obtain ⟨g', a', c', h1, h2, _⟩ := hs
    rw [h1] at hp
    cases hp
    exact World.block_lt_of_cell? w _ h2.c0
def ISt.ok : ISt → Bool
  | .good _ => true
  | _ => false
/-- So many numbers of 32 bits are taken. -/
def ISt.many (L : Nat) (s : ISt) : Nat → ISt
  | 0 => s
  | i + 1 => (ISt.many L s i).take L 4
theorem ISt.take_ok (L : Nat) (s : ISt) (n : Int) (h : s.ok = false) : s.take L n = s := by
  cases s with
  | nil => rfl
  | bad => rfl
  | good a => cases h
theorem ISt.many_stay (L : Nat) (s : ISt) (i : Nat) (h : (s.many L i).ok = false) : ∀ n, i ≤ n → s.many L n = s.many L i
  | 0, hn => by
    obtain rfl : i = 0 := by omega
    rfl
  | n + 1, hn => by
    by_cases e : i = n + 1
    · rw [e]
    · show (s.many L n).take L 4 = _
      rw [ISt.many_stay L s i h n (by omega), ISt.take_ok _ _ _ h]
theorem ISt.cnt_ok (L : Nat) (F : Nat → Nat) (s : ISt) (most : Int) (h : (s.cntS L F most).ok = false) : s.cntV L F most = 0 := by
  unfold ISt.cntV
  by_cases e : most < (s.num L F 2 : Int)
  · rw [if_pos e]
  · rw [if_neg e]
    unfold ISt.cntS at h
    rw [if_neg e] at h
    unfold ISt.num
    cases s with
    | nil => rfl
    | bad => rfl
    | good a =>
      have e2 : ISt.got L (.good a) (2 : Nat) = 0 := by
        show (if 0 ≤ ((2 : Nat) : Int) ∧ ((2 : Nat) : Int) ≤ ((L - a : Nat) : Int) then ((2 : Nat) : Int).toNat else 0) = 0
        by_cases e3 : 0 ≤ ((2 : Nat) : Int) ∧ ((2 : Nat) : Int) ≤ ((L - a : Nat) : Int)
        · exfalso
          have : ISt.take L (.good a) 2 = .good (a + 2) := if_pos e3
          rw [this] at h
          cases h
        · rw [if_neg e3]
      rw [e2]
      rfl
theorem takeOne_any {w : World} {p : Option Addr} {L : Nat} {F : Nat → Nat} {s : ISt} (h : IAt w p L F s) (hF : ∀ i, F i < 256) : Calls Try.prog 37 #[.pointer p] w fun e w' => e = .returned (.int .u32 (s.num L F 4 : Nat)) ∧ ISays w p L F (s.take L 4) w' := by
  have HP := Lib.hid (inU32_any h hF)
  clear h hF
  go_enter Try.func37, Try.ntmps37
  go_wp2_with fail
  go_at_call 32
  refine HP.out.mono ?_
  rintro e w' ⟨rfl, hE⟩
  have HE := Lib.hid hE
  clear hE HP
  go_wp2_with fail
  go_ret
  exact ⟨rfl, HE.out⟩
theorem fn_take_some (w : World) : (binOp .eql 74 (.func (.func 37) #[] #[]) .nilFunc).run Try.prog w = .ok (.bool false) w := by kernel_rfl
theorem fn_take_none (w : World) : (binOp .eql 81 .nilFunc .nilFunc).run Try.prog w = .ok (.bool true) w := by kernel_rfl
theorem info_u32 : (Try.prog.info? 49).map (fun i => (i.zero, i.size, i.bytes)) = some (some (.int .u32 0), 1, 4) := by kernel_rfl
/-- How many are handed back. -/
def ISt.lstN (L : Nat) (t : ISt) (k : Nat) : Nat := if (t.many L k).ok = true then k else 0
/-- Numbers that are handed back. -/
structure TookL (w : World) (p : Option Addr) (L : Nat) (F : Nat → Nat) (s' : ISt) (N : Nat) (fl : Nat → Nat) (e : Ending) (w' : World) : Prop where
  ex : ∃ a c, e = .returned (.slice a N c) ∧ OwnNE w' w.heap.size 1 (.slice a N c) N (fun i _ => .int .u32 (fl i))
  says : ISays w p L F s' w'
theorem inList_any {w : World} {p : Option Addr} {L : Nat} {F : Nat → Nat} {s : ISt} (most : Int) (h : IAt w p L F s) (hF : ∀ i, F i < 256) :
    Calls Try.prog 36 #[.pointer p, .int .i64 most, .func (.func 37) #[] #[]] w (TookL w p L F ((s.cntS L F most).many L (s.cntV L F most)) ((s.cntS L F most).lstN L (s.cntV L F most)) (fun i => ((s.cntS L F most).many L i).num L F 4)) := by
  have HC := Lib.hid (inCount_any most h hF)
  have hlt := ISt.cntV_lt L F s most hF
  have hok := ISt.cnt_ok L F s most
  have HLT := Lib.hid (fun g => h.lt g)
  have HRW := Lib.hid (fun k => h.rowP_lt k)
  generalize s.cntV L F most = k at *
  generalize s.cntS L F most = t at *
  have HOK : Hid (0 < k → t.ok = true) := fun h0 => by
    by_cases e : t.ok = true
    · exact e
    · exact absurd (hok (by simpa using e)) (by omega)
  have HFF := Lib.hid hF
  have kk : (k : Int) < 65536 := by omega
  have e0 := fn_take_some w
  clear h hF hlt hok
  go_enter Try.func36, Try.ntmps36
  go_wp2_with fail
  go_at_call 46
  refine HC.out.mono ?_
  rintro e w1 ⟨rfl, hE⟩
  have HE := Lib.hid hE
  clear hE HC e0
  go_wp2_with fail
  go_loopw [7, 16] (fun u7 u16 wr => ∃ i : Nat, i ≤ k ∧ u16 = .int .i64 i ∧ OwnNE wr w.heap.size 1 u7 i (fun i _ => .int .u32 ((t.many L i).num L F 4 : Nat)) ∧ (0 < k → (t.many L i).ok = true) ∧ ISays w p L F (t.many L i) wr) (fun _ u16 _ => k - (intOf u16).toNat)
  case atStart => exact ⟨0, Nat.zero_le _, rfl, OwnNE.nil _ _ _ _, HOK.out, HE.out⟩
  case round =>
    obtain ⟨i, hi, rfl, hO, hok, hE⟩ := hrel
    by_cases hlt : i < k
    · have j1 : (i : Int) < (k : Int) := by omega
      have HL2 := Lib.hid hlt
      have HP := Lib.hid (takeOne_any hE.st HFF.out)
      have G0 := Lib.hid hE.gr
      have hv := ISt.num_lt L F (t.many L i) 4 HFF.out
      obtain ⟨v, hvv⟩ : ∃ v, v = (t.many L i).num L F 4 := ⟨_, rfl⟩
      rw [← hvv] at HP hv
      have HVV := Lib.hid hvv
      have HO := Lib.hid hO
      have HOKI := Lib.hid (hok (by omega))
      clear hvv hO hE hi hlt hok hv
      go_wp2_with fail
      go_at_call 37
      refine HP.out.mono ?_
      rintro e w2 ⟨rfl, hE⟩
      have hg2 := grown_trans G0.out hE.gr
      have hO2 := HO.out.grown hE.gr HRW.out
      have hst : t.many L (i + 1) = (t.many L i).take L 4 := rfl
      rw [← hst] at hE
      have hss := hE.st.st
      have HE2 : Hid (ISays w p L F (t.many L (i + 1)) w2) := ⟨hE.st, hg2⟩
      have HO2 := Lib.hid hO2
      obtain ⟨t2, ht2⟩ : ∃ t2, t2 = t.many L (i + 1) := ⟨_, rfl⟩
      rw [← ht2] at HE2 hss
      have HT2 := Lib.hid ht2
      have hg1 := World.grownBy_alloc w2 (.cells #[.int .u32 v] 49) none
      obtain ⟨i0, hi0, hz0, hsz0, hby0⟩ := info_parts info_u32
      obtain ⟨a3, c3, w3, hap, hO3, row, hgr, hrow, _⟩ := app_E (P := Try.prog) (T := 52) (E := 49) (x := fun _ => .int .u32 v) 52 w2.heap.size 0 1 (by kernel_rfl) hi0 hz0 hsz0 (by rw [hby0]; decide) rfl (by decide)
        (by have := hg2.size; have := hg1.size; omega) (hO2.grown hg1 (by simp)) (fun j hj => by
          obtain rfl : j = 0 := by omega
          rw [cell_of_row _ _ _ _ _ _ (heap_alloc_new w2 _)]; rfl) (fun _ => rfl) (by omega)
      have hE3 : ISays w p L F (t.many L (i + 1)) w3 := ⟨(hE.st.grown0 hg1).grown hgr (fun g q hp hq => by have := HLT.out g hp; have := hrow q hq; omega), grown_row (grown_row hg2 hg1 (by simp)) hgr hrow⟩
      have hO4 : OwnNE w3 w.heap.size 1 (.slice a3 (i + 1) c3) (i + 1) (fun i _ => .int .u32 ((t.many L i).num L F 4 : Nat)) := by
        rcases hO3.ex with h | ⟨b, cap, e1, e2, e3⟩
        · exact ⟨Or.inl h⟩
        · refine ⟨Or.inr ⟨b, cap, e1, { e2 with cell := fun q j hq hj => ?_ }, e3⟩⟩
          have := e2.cell q j hq hj
          unfold snocE at this
          by_cases e : q < i
          · rwa [if_pos e] at this
          · obtain rfl : q = i := by omega
            rw [if_neg e, HVV.out] at this
            exact this
      have HAP := Lib.hid hap
      have HE3 := Lib.hid hE3
      have HO4 := Lib.hid hO4
      clear hap hE3 hO4 hO3 hgr hrow hg1 hi0 hz0 hsz0 hby0
      clear hE hg2 hO2 hst ht2 HP HO
      cases t2 with
      | nil =>
        have h1 := HT2.out
        exfalso
        have h2 : (t.many L i).take L 4 = .nil := h1.symm
        rw [show t.many L i = .nil from by
          cases e : t.many L i with
          | nil => rfl
          | bad => rw [e] at h2; cases h2
          | good a => rw [e] at h2; exact absurd h2 (by show ¬ (if _ then _ else _) = _; split <;> simp)] at HOKI
        exact absurd (HOKI.out) (by simp [ISt.ok])
      | bad =>
        obtain ⟨g, rfl, hc⟩ := hss
        have c1 := hc.c1
        have hN : t.lstN L k = 0 := by
          unfold ISt.lstN
          rw [if_neg (by
            rw [ISt.many_stay L t (i + 1) (by rw [← HT2.out]; rfl) k HL2.out, ← HT2.out]
            simp [ISt.ok])]
        have hS : t.many L k = .bad := by rw [ISt.many_stay L t (i + 1) (by rw [← HT2.out]; rfl) k HL2.out, ← HT2.out]
        have HN := Lib.hid hN
        have HS := Lib.hid hS
        clear hc hN hS HAP HE3 HO4
        go_wp2_with fail
        go_ret
        exact ⟨⟨none, 0, by rw [HN.out]; rfl, by rw [HN.out]; exact OwnNE.nil _ _ _ _⟩, by rw [HS.out]; exact HE2.out⟩
      | good a =>
        obtain ⟨g, a', c', rfl, hc, _⟩ := hss
        have c1 := hc.c1
        clear hc
        go_wp2_with (at_builtin; refine wpList_append_run rfl (.tmp 25) (.tmp 27) 52 52 rfl _ _ _ _ rfl rfl HAP.out ?_)
        go_roundw
        case rel => exact ⟨i + 1, HL2.out, by go_num, HO4.out, fun _ => by rw [← HT2.out]; rfl, HE3.out⟩
        case measure =>
          have := HL2.out
          simp [intOf]
          try omega
    · obtain rfl : i = k := by omega
      have j1 : ¬ (i : Int) < (i : Int) := by omega
      have hN : t.lstN L i = i := by
        unfold ISt.lstN
        by_cases h0 : 0 < i
        · rw [if_pos (hok h0)]
        · obtain rfl : i = 0 := by omega
          split <;> rfl
      have HN := Lib.hid hN
      have HE2 := Lib.hid hE
      rcases hO.ex with ⟨rfl, h0⟩ | ⟨g, cap, rfl, h2⟩
      · have HO := Lib.hid hO
        have HI := Lib.hid h0
        clear hO hE hi hlt hok hN h0
        go_wp2_with fail
        go_ret
        exact ⟨⟨none, 0, by rw [HN.out, HI.out]; rfl, by rw [HN.out, HI.out]; exact OwnNE.nil _ _ _ _⟩, HE2.out⟩
      · have HO := Lib.hid hO
        clear hO hE hi hlt hok hN h2
        go_wp2_with fail
        go_ret
        exact ⟨⟨some ⟨g, 0, none⟩, cap, by rw [HN.out]; rfl, by rw [HN.out]; exact HO.out⟩, HE2.out⟩
theorem ISt.fail_cnt (L : Nat) (F : Nat → Nat) (s : ISt) (most : Int) : s.fail.cntV L F most = 0 := by
  refine ISt.cnt_ok L F s.fail most ?_
  unfold ISt.cntS
  cases s <;> (split <;> rfl)
theorem inNone_any {w : World} {p : Option Addr} {L : Nat} {F : Nat → Nat} {s : ISt} (h : IAt w p L F s) (hF : ∀ i, F i < 256) :
    Calls Try.prog 23 #[.pointer p, .int .i64 1, .nilFunc] w fun e w' => e = .returned (.slice none 0 0) ∧ w.grownBy w' (rowP p) := by
  have HF := Lib.hid (inFail_any h)
  have HFF := Lib.hid hF
  have e0 := fn_take_none w
  clear h hF
  go_enter Try.func23, Try.ntmps23
  go_wp2_with fail
  go_at_call 43
  refine HF.out.mono ?_
  rintro e w1 ⟨rfl, hE⟩
  have hc := inCount_any 1 hE.st HFF.out
  rw [ISt.fail_cnt] at hc
  have HC := Lib.hid hc
  have G1 := Lib.hid hE.gr
  clear hE hc HF e0
  go_wp2_with fail
  go_at_call 46
  refine HC.out.mono ?_
  rintro e w2 ⟨rfl, hE⟩
  have G2 := Lib.hid (grown_trans G1.out hE.gr)
  clear hE HC
  go_wp2_with fail
  go_loopw [7, 16] (fun u7 u16 wr => u7 = .slice none 0 0 ∧ u16 = .int .i64 0 ∧ w2 = wr) (fun _ _ _ => 0)
  case atStart => exact ⟨rfl, rfl, rfl⟩
  case round =>
    obtain ⟨rfl, rfl, rfl⟩ := hrel
    go_wp2_with fail
    go_ret
    exact ⟨rfl, G2.out⟩
end Go.Proofs.Ytpkeolggehjjlaa
