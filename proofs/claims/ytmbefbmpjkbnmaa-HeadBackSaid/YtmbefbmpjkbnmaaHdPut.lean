/-
  head's Put.
-/
import Derived.Test.YtmbefbmpjkbnmaaHdNib
import Derived.Test.YtmbefbmpjkbnmaaOwnR
namespace Go.Proofs.Ytmbefbmpjkbnmaa
open Go.RowKit

set_option maxRecDepth 100000
set_option maxHeartbeats 4000000

theorem make_cap (n cap : Nat) (hn : n ≤ cap) (hc : cap < 2 ^ 40) (w : World) : ∃ c, (Instr.makeSlice 39 (.int .i64 n) (.int .i64 cap)).run Try.prog w = .ok (.slice (some ⟨w.heap.size, 0, none⟩) n cap) (w.alloc (.cells c 5)) ∧ OwnR (w.alloc (.cells c 5)) w.heap.size n cap (fun _ => 0) := by
  obtain ⟨i0, hi, hz, hs, hby⟩ := info_parts info_u8
  have hr := run_make (P := Try.prog) w 39 5 i0 (.int .u8 0) (by kernel_rfl) hi hz .i64 .i64 n cap (by omega) (by omega) (by rw [hby]; omega) (by omega)
  rw [hs] at hr
  simp only [Int.toNat_natCast, Nat.mul_one] at hr
  have hb := heap_alloc_new w (.cells (madeCells (Value.cells (.int .u8 0)) cap) 5)
  have hcell : ∀ i, i < cap → (w.alloc (.cells (madeCells (Value.cells (.int .u8 0)) cap) 5)).cell? ⟨w.heap.size, i, none⟩ = some (.int .u8 0) := fun i hi => by
    rw [cell_of_row _ _ _ _ _ _ hb]
    simp [madeCells, hi, Value.cells, Nat.mod_one]
  exact ⟨_, hr, ⟨fun i hi => hcell i (by omega), fun i hi => by rw [hcell i hi]; rfl, fun i => frozen_of_row _ _ _ _ _ hb, hn, by simp⟩⟩
/-- A byte more. -/
theorem app_byte {w0 w : World} {g n cap v : Nat} {f : Nat → Nat} (B : Nat) (hB : B = w.heap.size) (h0 : w0.grownBy w none) (hg : w0.heap.size ≤ g) (h : OwnR w g n cap f) (hn : n + 1 ≤ 2 ^ 40) :
    ∃ g' cap' w', (Builtin.append_ #[39, 39] 39 #[.slice (some ⟨g, 0, none⟩) n cap, .slice (some ⟨B, 0, none⟩) 1 1]).run Try.prog (w.alloc (.cells #[.int .u8 (v : Nat)] 5)) = .ok (.slice (some ⟨g', 0, none⟩) (n + 1 : Nat) cap') w' ∧ OwnR w' g' (n + 1) cap' (cat n f (fun _ => v)) ∧ w0.grownBy w' none ∧ w0.heap.size ≤ g' := by
  subst hB
  have ga := World.grownBy_alloc w (.cells #[.int .u8 (v : Nat)] 5) none
  have bb := heap_alloc_new w (.cells #[.int .u8 (v : Nat)] 5)
  have hoa := h.grown ga (by simp)
  have hR : Rd (w.alloc (.cells #[.int .u8 (v : Nat)] 5)) (w.heap.size + 1) (some ⟨w.heap.size, 0, none⟩) 1 (fun _ => v) := ⟨fun _ => ⟨w.heap.size, 0, rfl, by omega, fun k hk => by
    obtain rfl : k = 0 := by omega
    rw [cell_of_row _ _ _ _ _ _ bb]; rfl⟩⟩
  obtain ⟨v2, w2, hap, ⟨ex⟩⟩ := app_run 1 39 hoa hR (by omega)
  obtain ⟨g', cap', rfl, h1, _, h3, h4⟩ := ex
  have h0a := grown_trans h0 ga
  refine ⟨g', cap', w2, hap, h1, grown_new h0a h3 hg, ?_⟩
  have := h0a.size
  omega
/-- What is handed back: bytes of the call's own. -/
structure GaveHd (w : World) (n : Nat) (f : Nat → Nat) (e : Ending) (w' : World) : Prop where
  ex : ∃ g cap, e = .returned (.slice (some ⟨g, 0, none⟩) n cap) ∧ OwnR w' g n cap f ∧ w.heap.size ≤ g
  gr : w.grownBy w' none
def hdPos (b1 L j : Nat) : Nat := if j = 0 then 1 else if j = 1 then 1 + b1 else L
theorem two_lt (k c j : Nat) (hk : k < 18446744073709551616) (hc : c < 18446744073709551616) : two k c j < 18446744073709551616 := by
  unfold two
  split
  · exact hk
  · exact hc
theorem hdPos_next (k c j : Nat) (hj : j < 2) : hdPos (behN (nibN k)) (hdLen k c) (j + 1) = hdPos (behN (nibN k)) (hdLen k c) j + two (behN (nibN k)) (behN (nibN c)) j := by
  obtain rfl | rfl : j = 0 ∨ j = 1 := by omega
  · rfl
  · rfl
theorem hdF_at (k c j m : Nat) (hj : j < 2) (hm : m < two (behN (nibN k)) (behN (nibN c)) j) : hdF k c (hdPos (behN (nibN k)) (hdLen k c) j + m) = nbF (two k c j) (two (behN (nibN k)) (behN (nibN c)) j) m := by
  obtain rfl | rfl : j = 0 ∨ j = 1 := by omega
  · show hdF k c (1 + m) = nbF k (behN (nibN k)) m
    change m < behN (nibN k) at hm
    unfold hdF
    rw [if_neg (by omega), if_pos (by omega), show 1 + m - 1 = m by omega]
  · show hdF k c (1 + behN (nibN k) + m) = nbF c (behN (nibN c)) m
    unfold hdF
    rw [if_neg (by omega), if_neg (by omega), show 1 + behN (nibN k) + m - 1 - behN (nibN k) = m by omega]
theorem or_nibs (a b : Nat) (ha : a < 16) (hb : b < 16) : bits .or .u8 ((a : Int) * 16 % 256) (b : Int) = ((16 * a + b : Nat) : Int) := by
  have e : (a : Int) * 16 % 256 = ((16 * a : Nat) : Int) := by omega
  rw [e, bits_or_u8 _ _ (by omega) (by omega)]
  have := Nat.two_pow_add_eq_or_of_lt (i := 4) (b := b) (by omega) a
  rw [show (2 : Nat) ^ 4 = 16 from rfl] at this
  rw [this]
theorem shr_byteH (X r k m : Nat) (h : k = m + (r + 1)) : (X : Int) / 2 ^ (8 * r) % 256 = ((nbF X k m : Nat) : Int) := by
  subst h
  unfold nbF
  rw [show m + (r + 1) - 1 - m = r by omega, show (256 : Nat) = 2 ^ 8 from rfl, ← Nat.pow_mul]
  simp
theorem hdPut_any (k c : Nat) (w : World) (hk : k < 18446744073709551616) (hc : c < 18446744073709551616) :
    Calls Try.prog 51 #[.agg #[.int .u64 k, .int .u64 c]] w (GaveHd w (hdLen k c) (hdF k c)) := by
  have ga := World.grownBy_alloc w (.cells #[.int .u64 k, .int .u64 c] 128) none
  have hz := World.size_alloc w (.cells #[.int .u64 k, .int .u64 c] 128)
  have hX := holds_alloc w 128 .u64 2 (two k c) #[.int .u64 k, .int .u64 c] rfl
  have hN := fun w => nibblesOf_any k c w hk hc
  have HN := Lib.hid hN
  have HK := Lib.hid hk
  have HC := Lib.hid hc
  clear hN hk hc
  go_enter Try.func51, Try.ntmps51
  go_upto_region 1 with fail
  obtain ⟨w1, hw1⟩ : ∃ W, W = w.alloc (.cells #[.int .u64 k, .int .u64 c] 128) := ⟨_, rfl⟩
  rw [← hw1] at ga hz hX ⊢
  have c0 : w1.cell? ⟨w.heap.size, 0, none⟩ = some (.int .u64 k) := hX.cell 0 (by decide)
  have c1 : w1.cell? ⟨w.heap.size, 1, none⟩ = some (.int .u64 c) := hX.cell 1 (by decide)
  have GA := Lib.hid ga
  have HZ := Lib.hid hz
  clear hX ga hw1 hz
  go_upto_region 2 with fail
  clear c0 c1
  have hF := holds_alloc w1 187 .u64 2 (two k c) #[.int .u64 k, .int .u64 c] rfl
  have gb := World.grownBy_alloc w1 (.cells #[.int .u64 k, .int .u64 c] 187) none
  obtain ⟨F, hFe⟩ : ∃ F, F = w1.heap.size := ⟨_, rfl⟩
  rw [← hFe] at hF ⊢
  generalize w1.alloc (.cells #[.int .u64 k, .int .u64 c] 187) = w2 at *
  have c0 : w2.cell? ⟨F, 0, none⟩ = some (.int .u64 k) := hF.cell 0 (by decide)
  have c1 : w2.cell? ⟨F, 1, none⟩ = some (.int .u64 c) := hF.cell 1 (by decide)
  have GB := Lib.hid (grown_trans GA.out gb)
  have HF := Lib.hid hF
  clear GA HZ gb hF hFe
  go_wp2_with fail
  go_at_call 120
  with_reducible refine (HN.out w2).mono ?_
  rintro e w3 ⟨rfl, g⟩
  have HF3 := Lib.hid (HF.out.grown g (by simp))
  have G3 := Lib.hid (grown_trans GB.out g)
  clear HF GB HN g c0 c1
  go_upto_region 3 with fail
  have hP := holds_alloc w3 185 .u8 2 (two (nibN k) (nibN c)) #[.int .u8 (nibN k : Nat), .int .u8 (nibN c : Nat)] rfl
  have gb := World.grownBy_alloc w3 (.cells #[.int .u8 (nibN k : Nat), .int .u8 (nibN c : Nat)] 185) none
  have HF4 := Lib.hid (HF3.out.grown gb (by simp))
  have G4 := Lib.hid (grown_trans G3.out gb)
  obtain ⟨PB, hPe⟩ : ∃ F, F = w3.heap.size := ⟨_, rfl⟩
  rw [← hPe] at hP ⊢
  generalize w3.alloc (.cells #[.int .u8 (nibN k : Nat), .int .u8 (nibN c : Nat)] 185) = w4 at *
  have HP := Lib.hid hP
  clear gb HF3 G3 hPe hP
  obtain ⟨cs, hm, hO⟩ := make_cap 1 17 (by decide) (by decide) w4
  have hm' : (Instr.makeSlice 39 (.int .i64 1) (.int .i64 17)).run Try.prog w4 = .ok (.slice (some ⟨w4.heap.size, 0, none⟩) 1 17) (w4.alloc (.cells cs 5)) := hm
  have gb := World.grownBy_alloc w4 (.cells cs 5) none
  go_upto_region 4 with fail
  clear hm hm'
  obtain ⟨GB, hGe⟩ : ∃ F, F = w4.heap.size := ⟨_, rfl⟩
  rw [← hGe] at hO ⊢
  generalize w4.alloc (.cells cs 5) = w5 at *
  have HP5 := HP.out.grown gb (by simp)
  have c0 : w5.cell? ⟨PB, 0, none⟩ = some (.int .u8 (nibN k : Nat)) := HP5.cell 0 (by decide)
  have c1 : w5.cell? ⟨PB, 1, none⟩ = some (.int .u8 (nibN c : Nat)) := HP5.cell 1 (by decide)
  have cg : w5.cell? ⟨GB, 0, none⟩ = some (.int .u8 0) := hO.cell 0 (by decide)
  have fg := hO.free 0
  have HO := Lib.hid hO
  have HG := Lib.hid gb
  have HGe := Lib.hid hGe
  clear hO gb HP5 hGe
  have zor := or_nibs (nibN k) (nibN c) (nibN_lt k) (nibN_lt c)
  obtain ⟨v0, hv0⟩ : ∃ v, v = 16 * nibN k + nibN c := ⟨_, rfl⟩
  rw [← hv0] at zor
  have HV0 := Lib.hid hv0
  clear hv0
  go_upto_region 5 with fail
  have hO := (HO.out.set 0 v0 (by decide)).congr (f' := hdF k c) (fun i hi => by
    obtain rfl : i = 0 := by omega
    rw [upd_same, HV0.out]
    rfl)
  have g6 := grown_setCell_new HG.out ⟨GB, 0, none⟩ (.int .u8 v0) (Or.inl (by rw [HGe.out]; exact Nat.le_refl _))
  generalize w5.setCell ⟨GB, 0, none⟩ (.int .u8 v0) = w6 at *
  have HP6 := HP.out.grown g6 (by simp)
  have HO6 := Lib.hid hO
  have HG6 := Lib.hid g6
  clear c0 c1 cg fg zor HO HG hO g6
  have c0 : w6.cell? ⟨PB, 0, none⟩ = some (.int .u8 (nibN k : Nat)) := HP6.cell 0 (by decide)
  have c1 : w6.cell? ⟨PB, 1, none⟩ = some (.int .u8 (nibN c : Nat)) := HP6.cell 1 (by decide)
  clear HP6
  go_wp2_with fail
  clear c0 c1
  go_loopw [5, 6, 7, 8, 26] (fun u5 _ _ _ u26 wr => ∃ j g cap : Nat, j ≤ 2 ∧ u26 = .int .i64 j ∧ u5 = .slice (some ⟨g, 0, none⟩) (hdPos (behN (nibN k)) (hdLen k c) j) cap ∧ w4.grownBy wr none ∧ w4.heap.size ≤ g ∧ OwnR wr g (hdPos (behN (nibN k)) (hdLen k c) j) cap (hdF k c)) (fun _ _ _ _ u26 _ => 2 - (intOf u26).toNat)
  case atStart => exact ⟨0, GB, 17, by omega, rfl, rfl, HG6.out, by rw [HGe.out]; exact Nat.le_refl _, HO6.out⟩
  case round =>
    clear HO6 HG6
    obtain ⟨j, g, cap, hj, rfl, rfl, hg, hgg, hO⟩ := hrel
    by_cases hlt : j < 2
    · have j1 : (j : Int) < 2 := by omega
      have hnx := hdPos_next k c j hlt
      have hFa := hdF_at k c j
      have hxt := two_lt k c j HK.out HC.out
      have hDb : behN (two (nibN k) (nibN c) j) = two (behN (nibN k)) (behN (nibN c)) j := by
        unfold two
        split <;> rfl
      have hD16 : two (nibN k) (nibN c) j < 16 := by
        unfold two
        split
        · exact nibN_lt k
        · exact nibN_lt c
      have hb8 := behN_le _ hD16
      have hs17 : hdPos (behN (nibN k)) (hdLen k c) j ≤ 17 := by
        have := hdLen_bd k c
        have := behN_le _ (nibN_lt k)
        unfold hdPos
        repeat' split
        all_goals omega
      have x0 := idx_nibs (nibN k) (nibN c) j j rfl hlt wr
      obtain ⟨wb, hwb⟩ : ∃ W, W = wr := ⟨_, rfl⟩
      have hHF := (HF4.out.grown hg (by simp))
      have hB := behind_any (two (nibN k) (nibN c) j) wr hD16
      rw [← hDb] at hnx hFa
      obtain ⟨D, hD⟩ : ∃ D, D = two (nibN k) (nibN c) j := ⟨_, rfl⟩
      rw [← hD] at x0 hB hnx hb8 hFa
      obtain ⟨b, hb⟩ : ∃ b, b = behN D := ⟨_, rfl⟩
      rw [← hb] at hB hnx hb8 hFa
      obtain ⟨s, hs⟩ : ∃ s, s = hdPos (behN (nibN k)) (hdLen k c) j := ⟨_, rfl⟩
      rw [← hs] at hO hnx hs17 hFa ⊢
      have HB := Lib.hid hB
      have HNX := Lib.hid hnx
      have HFa := Lib.hid hFa
      have HO := Lib.hid hO
      have HG := Lib.hid hg
      have HGG := Lib.hid hgg
      have HXT := Lib.hid hxt
      have HLT := Lib.hid hlt
      have Hb8 := Lib.hid hb8
      have Hs17 := Lib.hid hs17
      clear hB hnx hFa hO hg hgg hxt hDb hD16 hD hb hs hHF hwb wb hlt hj hb8 hs17
      go_wp2_with fail
      go_at_call 119
      with_reducible refine (HB.out).mono ?_
      rintro e w' ⟨rfl, rfl⟩
      clear HB x0
      go_wp2_with fail
      obtain ⟨wo, hwo⟩ : ∃ W, W = wr := ⟨_, rfl⟩
      rw [← hwo] at HO HG ⊢
      clear hwo wr
      go_loopw [5, 8] (fun u5 u8 wr => ∃ m g cap : Nat, m ≤ b ∧ u8 = .int .i64 ((b - m : Nat) : Int) ∧ u5 = .slice (some ⟨g, 0, none⟩) (s + m : Nat) cap ∧ w4.grownBy wr none ∧ w4.heap.size ≤ g ∧ OwnR wr g (s + m) cap (hdF k c)) (fun _ u8 _ => (intOf u8).toNat)
      case atStart => exact ⟨0, g, cap, by omega, rfl, rfl, HG.out, HGG.out, HO.out⟩
      case round =>
        clear HO HG HGG
        obtain ⟨m, g, cap, hm, rfl, rfl, hg, hgg, hO⟩ := hrel
        by_cases hlm : m < b
        · have hF := HF4.out.grown hg (by simp)
          have cF := hF.cell j HLT.out
          have hby := HFa.out m HLT.out hlm
          obtain ⟨X, hX⟩ : ∃ X, X = two k c j := ⟨_, rfl⟩
          rw [← hX] at cF hby
          have hX64 := HXT.out
          rw [← hX] at hX64
          obtain ⟨r, rfl⟩ : ∃ r, b = m + (r + 1) := ⟨b - m - 1, by omega⟩
          have hr8 : r < 8 := by have := Hb8.out; omega
          rw [show m + (r + 1) - m = r + 1 by omega]
          have i1 : ((r + 1 : Nat) : Int) > 0 := by omega
          have i2 : ((r + 1 : Nat) : Int) ≤ 8 := by omega
          have HO := Lib.hid hO
          have HG := Lib.hid hg
          have HGG := Lib.hid hgg
          have HBY := Lib.hid hby
          have HX64 := Lib.hid hX64
          have HLM := Lib.hid hlm
          have HR8 := Lib.hid hr8
          have hz := shr_byteH X r (m + (r + 1)) m rfl
          rw [← hby] at hz
          obtain ⟨v, hv⟩ : ∃ v, v = hdF k c (s + m) := ⟨_, rfl⟩
          rw [← hv] at hz
          obtain ⟨g', cap', w', hap, hO', hg', hgg'⟩ := app_byte (v := v) wr.heap.size rfl hg hgg hO (by have := Hs17.out; have := Hb8.out; omega)
          have hO2 := hO'.congr (f' := hdF k c) (fun i hi => by
            unfold cat
            split
            · rfl
            · obtain rfl : i = s + m := by omega
              exact hv)
          have HAP := Lib.hid hap
          have HO2 := Lib.hid hO2
          have HG2 := Lib.hid hg'
          have HGG2 := Lib.hid hgg'
          clear hF hO hg hgg hby hX64 hX hlm hm hr8 hv hap hO' hO2 hg' hgg' HO HG HGG HBY
          go_wp2_with (at_builtin; refine wpList_append_run rfl (.tmp 36) (.tmp 45) 39 39 rfl (.slice (some ⟨g, 0, none⟩) (s + m) cap) (.slice (some ⟨wr.heap.size, 0, none⟩) 1 1) _ _ rfl rfl HAP.out ?_)
          go_roundw
          case rel =>
            (repeat apply Exists.intro)
            refine And.intro ?_ rfl
            exact ⟨m + 1, g', cap', by omega, by rw [show m + (r + 1) - (m + 1) = r by omega], rfl, HG2.out, HGG2.out, HO2.out⟩
          case measure => simp [intOf]
        · obtain rfl : m = b := by omega
          rw [Nat.sub_self]
          have HO := Lib.hid hO
          have HG := Lib.hid hg
          have HGG := Lib.hid hgg
          clear hO hg hgg hlm hm
          go_wp2_with fail
          go_roundw
          case rel => exact ⟨j + 1, g, cap, by have := HLT.out; omega, by go_num, by rw [HNX.out], HG.out, HGG.out, by rw [HNX.out]; exact HO.out⟩
          case measure => have := HLT.out; simp [intOf]; omega
    · obtain rfl : j = 2 := by omega
      have hz : hdPos (behN (nibN k)) (hdLen k c) 2 = hdLen k c := rfl
      rw [hz] at hO ⊢
      have HO := Lib.hid hO
      have HG := Lib.hid (grown_trans G4.out hg)
      have HGG := Lib.hid (Nat.le_trans G4.out.size hgg)
      clear hO hg hgg hlt hj hz
      go_wp2_with fail
      go_ret
      exact ⟨⟨g, cap, rfl, HO.out, HGG.out⟩, HG.out⟩
end Go.Proofs.Ytmbefbmpjkbnmaa
