/-
  Proved: whatever suite, base key, key id and counter come in, 'SuiteTells' answers true, and what came in reads afterwards as it read before. Conditions: the two tables of package sha read as the program's text lays them (tied to that text by the card); the arguments can be read as data.
-/
import Derived.Test.YtobaplndoaeoiaaDoorSuiteTellsAlla
import Derived.Test.YtobaplndoaeoiaaDoorSuLab
import Derived.Test.YtobaplndoaeoiaaDoorRowRun
import Derived.Test.YtobaplndoaeoiaaDoorGrowQ
import Derived.Test.YtobaplndoaeoiaaDoorSuOf
import Derived.Shelf.Abstract
import Derived.StillTailTactics
import Derived.Test.YtobaplndoaeoiaaDoorExpanded32
import Derived.Test.YtobaplndoaeoiaaDoorBase
import Derived.Test.YtobaplndoaeoiaaDoorBytes
import Derived.Below
import Derived.ProofKit
import Derived.LaidMore
import Derived.OpenShut
import Derived.Carry
import Derived.Test.YtobaplndoaeoiaaDoorRows
import Derived.Stop.Joined
import Derived.LaidLaws
import Derived.Test.YtobaplndoaeoiaaDoorTie
import Derived.Test.YtobaplndoaeoiaaDoorCards
import Derived.SevenTiedAt
namespace Go.Proofs.YtobaplndoaeoiaaDoor
open Go.RowKit

set_option maxRecDepth 100000
set_option maxHeartbeats 1000000

theorem app_N2_64 {w0 w : World} {B n m : Nat} {v : Value} {a : Option Addr} {f f' : Nat → Nat} (c : Nat) (ty : TypeId) (h0 : w0.grownBy w none) (h : OwnN w w0.heap.size v n f) (hx : Rd w B a m f') (hn : n + m ≤ 2 ^ 46) (hm : 0 < m) :
    ∃ v' w', (Builtin.append_ #[23, 23] ty #[v, .slice a m c]).run Tryd.prog w = .ok v' w' ∧ OwnN w' w0.heap.size v' (n + m) (cat n f f') ∧ OwnN w' w0.heap.size v n f ∧ w0.grownBy w' none ∧ w.grownBy w' v.ownBlock := by
  rcases h.ex with ⟨rfl, rfl⟩ | ⟨g, cap, rfl, h2, h3⟩
  · obtain ⟨i0, hi, hz, hsz, hby⟩ := info_parts info_u8
    have hsrc := src_bytes c hx
    have hl : (bytesOf m f').length = m := bytesOf_length m f'
    rw [← hsz] at hsrc
    have hfit : Builtin.nextslicecap (0 + m) 0 * i0.bytes ≤ 281474976710656 := by
      rw [hby]
      have := nextslicecap_le (need := 0 + m) (old := 0) (by omega)
      omega
    have hr := run_append_grow_src w 23 23 ty 5 i0 (.int .u8 0) under_bytes hi hz none 0 0 [] (by rw [hsz]; exact run_firstCells_none w.drew 1 0 0 0)
      (.slice a m c) m (bytesOf m f') hsrc (by omega) (by omega) hfit
    rw [List.nil_append] at hr
    have hcg := grownCap_ge w (0 + m) 0 5
    generalize grownCap w (0 + m) 0 5 = cap' at *
    have hb := heap_alloc_new w.drew (.cells ((bytesOf m f').toArray ++ Builtin.zeroCells (Value.cells (.int .u8 0)) (cap' - (0 + m))) 5)
    have hg := grown_alloc (grown_drew (grown_refl w none)) (.cells ((bytesOf m f').toArray ++ Builtin.zeroCells (Value.cells (.int .u8 0)) (cap' - (0 + m))) 5)
    have hb' : w.drew.heap.size = w.heap.size := rfl
    rw [hb'] at hb
    refine ⟨_, _, hr, ⟨Or.inr ⟨w.heap.size, cap', rfl, ⟨fun i hi => ?_, fun i hi => ?_, fun i => frozen_of_row _ _ _ _ _ hb, hcg, by simp [hb']⟩, h0.size⟩⟩, OwnN.nil _ _ _, grown_trans h0 hg, hg⟩
    · rw [cell_of_row _ _ _ _ _ _ hb, Array.getElem?_append_left (by simp [bytesOf]; omega)]
      have := bytesOf_get m f' i (by omega)
      simpa [cat] using this
    · rw [cell_of_row _ _ _ _ _ _ hb, Array.getElem?_eq_getElem (by
        rw [Array.size_append, size_zeroCells]
        simp [bytesOf, Value.cells]; omega)]
      rfl
  · obtain ⟨v', w', hr, ⟨g', cap', rfl, k1, k2, k3, k4⟩⟩ := app_run c ty h2 hx hn
    refine ⟨_, w', hr, ⟨Or.inr ⟨g', cap', rfl, k1, ?_⟩⟩, ⟨Or.inr ⟨g, cap, rfl, k2, h3⟩⟩, grown_new h0 k3 h3, k3⟩
    have := h0.size
    omega

theorem rexpand64 (Lk ck L c n : Nat) (ka ia : Option Addr) (key info : Nat → Nat) (w : World) (hRk : Rd w w.heap.size ka Lk key) (hRi : Rd w w.heap.size ia L info) (hk : ∀ i, key i < 256) (hi : ∀ i, info i < 256) (hLk : Lk ≤ 2 ^ 39) (hL : L ≤ 2 ^ 38) (hn0 : 1 ≤ n) (hn : n ≤ 255 * 64) :
    Calls Tryd.prog 26 #[.int .u8 2, .slice ka Lk ck, .slice ia L c, .int .i64 n] w (GaveN w n (expandOf64 FC KC Lk key L info)) := by
  have n1 : (1 : Int) ≤ n := by omega
  have n2 : (n : Int) ≤ 255 * 64 := by omega
  go_enter Tryd.func26, Tryd.ntmps26
  go_wp2_with (go_at_call 33; refine (rsize64 _).mono ?_; rintro e w' ⟨rfl, rfl⟩)
  go_loopw [9, 10, 11] (fun u9 u10 u11 wq => ∃ (i c1 s tc : Nat) (ta : Option Addr), i ≤ 255 ∧ Hid (c1 = i + 1) ∧ Hid (s = if i = 0 then 0 else 64) ∧ Hid (i * 64 < n + 64) ∧ u11 = .int .i64 c1 ∧ u10 = .slice ta s tc ∧ Rd wq wq.heap.size ta s (tOf64 (macOf64 FC KC Lk key) L info i) ∧
      OwnN wq w.heap.size u9 (i * 64) (expandOf64 FC KC Lk key L info) ∧ w.grownBy wq none)
    (fun _ _ u11 _ => 256 - (intOf u11).toNat)
  case atStart => exact ⟨0, 1, 0, 0, none, by omega, Lib.hid rfl, Lib.hid rfl, Lib.hid (by omega), rfl, rfl, ⟨fun h => absurd h (by omega)⟩, by simpa using OwnN.nil w w.heap.size (expandOf64 FC KC Lk key L info), grown_refl w none⟩
  case round =>
    obtain ⟨i, c1, s, tc, ta, hi255, hc1, hs, hin, rfl, rfl, hRt, hoN, hgr⟩ := hrel
    obtain ⟨oa, oc, rfl, hoc, hRo⟩ := hoN.rd
    by_cases hlt : i * 64 < n
    · have j1 : (i : Int) * 64 < n := by omega
      have hs2 : s ≤ 64 := by rw [hs.out]; split <;> omega
      have hc2 : c1 ≤ 255 := by have := hc1.out; omega
      have ec : IntKind.u8.wrap (c1 : Int) = (c1 : Int) := by rw [IntKind.wrap_u8]; omega
      have ga := World.grownBy_alloc wr (.cells #[] 5) none
      obtain ⟨g1, k1, x1, hap1, ho1, hg1, hb1⟩ := app_next64 (w0 := wr) tc 23 ga (Nat.le_refl _) (ownR_empty wr) (hRt.up (Nat.le_refl _) ga) (by omega)
      rw [Nat.zero_add] at hap1 ho1
      obtain ⟨g2, k2, x2, hap2, ho2, hg2, hb2⟩ := app_next64 (w0 := wr) c 23 hg1 hb1 ho1 (hRi.up (Nat.le_refl _) (grown_trans hgr hg1)) (by omega)
      have gb := World.grownBy_alloc x2 (.cells #[.int .u8 (c1 : Nat)] 5) none
      have bb := heap_alloc_new x2 (.cells #[.int .u8 (c1 : Nat)] 5)
      have hRc : Rd (x2.alloc (.cells #[.int .u8 (c1 : Nat)] 5)) (x2.heap.size + 1) (some ⟨x2.heap.size, 0, none⟩) 1 (fun _ => c1) := ⟨fun _ => ⟨x2.heap.size, 0, rfl, by omega, fun m hm => by
        obtain rfl : m = 0 := by omega
        rw [cell_of_row _ _ _ _ _ _ bb]; rfl⟩⟩
      obtain ⟨g3, k3, x3, hap3, ho3, hg3, hb3⟩ := app_next64 (w0 := wr) 1 23 (grown_trans hg2 gb) hb2 (ho2.grown gb (by simp)) hRc (by omega)
      have htl := tOf_lt64 FC KC (fun i => 54 ^^^ padKey64 FC KC Lk key i) (fun i => 92 ^^^ padKey64 FC KC Lk key i) L info i
      have ho3' : OwnR x3 g3 (s + L + 1) k3 (cat364 s (tOf64 (macOf64 FC KC Lk key) L info i) L info c1) := ho3.congr (fun m hm => by
        unfold cat cat364
        by_cases e : m < s
        · rw [if_pos (by omega), if_pos e, if_neg (by omega), if_pos e, Nat.sub_zero]
        · by_cases e2 : m < s + L
          · rw [if_pos e2, if_neg e, if_neg e, if_pos e2]
          · rw [if_neg e2, if_neg e, if_neg e2])
      have hct : ∀ m, cat364 s (tOf64 (macOf64 FC KC Lk key) L info i) L info c1 m < 256 := fun m => by
        unfold cat364
        split
        · exact htl _
        · split
          · exact hi _
          · omega
      have hm := rmac64 Lk ck (s + L + 1) k3 ka _ key _ x3 (hRk.up (Nat.le_refl _) (grown_trans hgr hg3)) ho3'.rd hk hct hLk (by omega)
      have htn : tOf64 (macOf64 FC KC Lk key) L info (i + 1) = macOf64 FC KC Lk key (cat364 s (tOf64 (macOf64 FC KC Lk key) L info i) L info c1) (s + L + 1) := by
        rw [tOf64, ← hs.out, hc1.out, Nat.add_assoc]
      rw [← htn] at hm
      have HAP1 := Lib.hid hap1
      have HAP2 := Lib.hid hap2
      have HAP3 := Lib.hid hap3
      have HM := Lib.hid hm
      have Hg3 := Lib.hid hg3
      have Hgw3 := Lib.hid (grown_trans hgr hg3)
      clear hap1 hap2 hap3 hm htn hct ho3' htl ho3 hb3 hRc gb bb ho2 hg2 hb2 ho1 hg1 hb1 ga hg3
      go_wp2_with (first
        | (at_builtin; refine wpList_append_run rfl (.tmp 29) (.tmp 30) 23 23 rfl (.slice (some ⟨wr.heap.size, 0, none⟩) 0 0) (.slice ta s tc) _ _ rfl rfl HAP1.out ?_)
        | (at_builtin; refine wpList_append_run rfl (.tmp 31) (.tmp 32) 23 23 rfl (.slice (some ⟨g1, 0, none⟩) s k1) (.slice ia L c) _ _ rfl rfl HAP2.out ?_)
        | (at_builtin; refine wpList_append_run rfl (.tmp 33) (.tmp 36) 23 23 rfl (.slice (some ⟨g2, 0, none⟩) (s + L) k2) (.slice (some ⟨x2.heap.size, 0, none⟩) 1 1) _ _ rfl rfl HAP3.out ?_))
      go_at_call 27
      with_reducible refine (HM.out).mono ?_
      rintro e x4 ⟨v4, rfl, hv4, g4⟩
      obtain ⟨r4, k4, rfl, ho4, hr4⟩ := hv4.toR64 (by decide)
      have gw4 := grown_trans Hgw3.out g4
      obtain ⟨v5, x5, hap5, hv5, _, hg5, hgo⟩ := app_N2_64 (w0 := w) k4 23 gw4 (hoN.grown (grown_trans Hg3.out g4)) ho4.rd (by omega) (by decide : 0 < 64)
      have ho5 : OwnN x5 w.heap.size v5 ((i + 1) * 64) (expandOf64 FC KC Lk key L info) := by
        have e : (i + 1) * 64 = i * 64 + 64 := by omega
        rw [e]
        obtain ⟨ex⟩ := hv5
        refine ⟨ex.imp id (fun ⟨g0, c0, q1, q2, q3⟩ => ⟨g0, c0, q1, q2.congr (fun m hm => ?_), q3⟩)⟩
        unfold cat
        by_cases e : m < i * 64
        · rw [if_pos e]
        · rw [if_neg e]
          show _ = tOf64 (macOf64 FC KC Lk key) L info (m / 64 + 1) (m % 64)
          rw [show m / 64 = i by omega, show m % 64 = m - i * 64 by omega]
      have hRr4 : Rd x5 x5.heap.size (some ⟨r4, 0, none⟩) 64 (tOf64 (macOf64 FC KC Lk key) L info (i + 1)) := ⟨fun _ => ⟨r4, 0, rfl, Nat.lt_of_lt_of_le ho4.lt hgo.size, fun m hm => by
        rw [Nat.zero_add]
        refine hgo.cell (ho4.cell m hm) (fun e => ?_)
        rcases hoN.ex with ⟨e1, _⟩ | ⟨g0, c0, e1, e2, _⟩
        · rw [e1] at e; cases e
        · rw [e1] at e
          have e3 : r4 = g0 := by simpa [Value.ownBlock] using e
          have := e2.lt
          have := Hg3.out.size
          omega⟩⟩
      have HAP5 := Lib.hid hap5
      have Hc1' : Hid (c1 + 1 = i + 1 + 1) := Lib.hid (by rw [hc1.out])
      have Hin' : Hid ((i + 1) * 64 < n + 64) := Lib.hid (by omega)
      have hi9 : i + 1 ≤ 255 := by omega
      clear hap5 hv5 hgo hr4 ho4 hoN hRo hRt gw4 g4 hv4
      go_wp2_with (at_builtin; refine wpList_append_run rfl (.tmp 39) (.tmp 40) 23 23 rfl (.slice oa (i * 64) oc) (.slice (some ⟨r4, 0, none⟩) 64 k4) _ _ rfl rfl HAP5.out ?_)
      refine ⟨⟨i + 1, c1 + 1, 64, k4, some ⟨r4, 0, none⟩, hi9, Hc1', Lib.hid (by rw [if_neg (by omega)]), Hin', by go_num, rfl, hRr4, ho5, hg5⟩, by simp [intOf]; omega⟩
    · have hge : (n : Int) ≤ (i : Int) * 64 := by omega
      have hpos : 0 < i * 64 := by omega
      obtain ⟨g9, c9, hsl, ho9, hb9⟩ := hoN.toR64 hpos
      have e1 : oa = some ⟨g9, 0, none⟩ := by injection hsl
      subst e1
      have e2 : oc = c9 := by injection hsl
      subst e2
      have ho9' : OwnN wr w.heap.size (.slice (some ⟨g9, 0, none⟩) n oc) n (expandOf64 FC KC Lk key L info) := ⟨Or.inr ⟨g9, oc, rfl, ⟨fun m hm => ho9.cell m (by omega), ho9.there, ho9.free, by omega, ho9.lt⟩, hb9⟩⟩
      have i9 : (n : Int) ≤ oc := by omega
      clear hsl ho9 hoN hRo hRt hlt hpos
      go_wp2_with fail
      go_ret
      exact ⟨_, rfl, ho9', hgr⟩

end Go.Proofs.YtobaplndoaeoiaaDoor
namespace Go.Proofs.YtobaplndoaeoiaaDoor
open Go.RowKit

set_option maxRecDepth 100000
set_option maxHeartbeats 1000000

/-- Bytes of the call's own, and so many. -/
structure GotB (w : World) (n : Nat) (f : Nat → Nat) (v : Value) (w' : World) : Prop where
  ex : ∃ a c, v = .slice a n c ∧ n ≤ c ∧ Rd w' w'.heap.size a n f ∧ (∀ g, v.ownBlock = some g → w.heap.size ≤ g)
  gr : w.grownBy w' none
/-- The secret of a base key, and what is expanded. -/
def secF (n L : Nat) (base : Nat → Nat) : Nat → Nat := if n = 5 then macOf64 FC KC 0 (fun _ => 0) base L else macOf32 FC KC 0 (fun _ => 0) base L
def expF (n : Nat) (key : Nat → Nat) (L : Nat) (info : Nat → Nat) : Nat → Nat := if n = 5 then expandOf64 FC KC 64 key L info else expandOf32 FC KC 32 key L info
theorem secF_lt (n L : Nat) (base : Nat → Nat) (i : Nat) : secF n L base i < 256 := by
  unfold secF
  split
  · exact macOf_lt64 _ _ _ _ _ _ _
  · exact macOf_lt32 _ _ _ _ _ _ _
theorem rd_nil (w : World) (B : Nat) (f : Nat → Nat) : Rd w B none 0 f := ⟨fun h => absurd h (by omega)⟩
theorem five_or (n : Nat) : (n = 5 ∧ hN n = 2 ∧ sN n = 64) ∨ (n ≠ 5 ∧ hN n = 1 ∧ sN n = 32) := by
  by_cases e : n = 5
  · subst e; exact Or.inl ⟨rfl, rfl, rfl⟩
  · exact Or.inr ⟨e, by unfold hN; rw [if_neg e], by unfold sN; rw [if_neg e]⟩
theorem extract_any (n L c : Nat) (ba : Option Addr) (base : Nat → Nat) (w : World) (hL : Laid w 1 2 FC KC) (hb : Rd w w.heap.size ba L base) (hbl : ∀ i, base i < 256) (hc : L ≤ c) (hn : L ≤ 2000) :
    Calls Tryd.prog 21 #[.int .u8 (hN n), .slice none 0 0, .slice ba L c] w fun e w' => ∃ v, e = .returned v ∧ GotB w (sN n) (secF n L base) v w' := by
  rcases five_or n with ⟨e, h1, h2⟩ | ⟨e, h1, h2⟩
  · rw [h1, h2]
    unfold secF
    rw [if_pos e]
    exact (Extract_any64 L c 0 0 ba none FC KC base (fun _ => 0) w hL hb (rd_nil _ _ _) hbl (fun _ => by decide) FC_lt KC_lt hc (Nat.le_refl _) (by decide) (by omega)).mono fun e w' ⟨r, h3, h4, h5, h6⟩ =>
      ⟨_, h3, ⟨_, _, rfl, Nat.le_refl _, h5.rd _ h5.lt _ (Nat.le_refl _), fun g hg => by cases hg; exact h4⟩, h6⟩
  · rw [h1, h2]
    unfold secF
    rw [if_neg e]
    exact (Extract_any32 L c 0 0 ba none FC KC base (fun _ => 0) w hL hb (rd_nil _ _ _) hbl (fun _ => by decide) FC_lt KC_lt hc (Nat.le_refl _) (by decide) (by omega)).mono fun e w' ⟨r, h3, h4, h5, h6⟩ =>
      ⟨_, h3, ⟨_, _, rfl, Nat.le_refl _, h5.rd _ h5.lt _ (Nat.le_refl _), fun g hg => by cases hg; exact h4⟩, h6⟩
theorem expand_any (n N L c ck : Nat) (ka ia : Option Addr) (key info : Nat → Nat) (w : World) (hL : Laid w 1 2 FC KC) (hk : Rd w w.heap.size ka (sN n) key) (hi : Rd w w.heap.size ia L info) (hkl : ∀ i, key i < 256) (hil : ∀ i, info i < 256) (hck : sN n ≤ ck) (hc : L ≤ c) (hln : L ≤ 2000) (hN0 : 1 ≤ N) (hN1 : N ≤ 64) :
    Calls Tryd.prog 17 #[.int .u8 (hN n), .slice ka (sN n) ck, .slice ia L c, .int .i64 N] w fun e w' => ∃ v, e = .returned (.tuple #[v, .int .i64 0]) ∧ GotB w N (expF n key L info) v w' := by
  rcases five_or n with ⟨e, h1, h2⟩ | ⟨e, h1, h2⟩
  · rw [h2] at hk hck
    rw [h1, h2]
    unfold expF
    rw [if_pos e]
    exact (Expand_ok64 N 64 ck L c ka ia FC KC key info w hL hi hk hil hkl FC_lt KC_lt hck (by decide) hc (by omega) hN0 (by omega)).mono fun e w' ⟨r, h3, h4, h5, h6⟩ =>
      ⟨_, h3, ⟨_, _, rfl, Nat.le_refl _, ⟨fun _ => ⟨r, 0, rfl, h5.lt (by omega), fun i hi => by rw [Nat.zero_add]; exact h5.cell i hi⟩⟩, fun g hg => by cases hg; exact h4⟩, h6⟩
  · rw [h2] at hk hck
    rw [h1, h2]
    unfold expF
    rw [if_neg e]
    exact (Expand_ok32 N 32 ck L c ka ia FC KC key info w hL hi hk hil hkl FC_lt KC_lt hck (by decide) hc (by omega) hN0 (by omega)).mono fun e w' ⟨r, h3, h4, h5, h6⟩ =>
      ⟨_, h3, ⟨_, _, rfl, Nat.le_refl _, ⟨fun _ => ⟨r, 0, rfl, h5.lt (by omega), fun i hi => by rw [Nat.zero_add]; exact h5.cell i hi⟩⟩, fun g hg => by cases hg; exact h4⟩, h6⟩
theorem OwnN.rowB {w : World} {base : Nat} {v : Value} {n : Nat} {f : Nat → Nat} (h : OwnN w base v n f) (g : Nat) (hg : v.ownBlock = some g) : base ≤ g := by
  rcases h.ex with ⟨rfl, _⟩ | ⟨g', cap, rfl, _, h3⟩
  · cases hg
  · cases hg; exact h3
theorem GotB.ofN {w w' : World} {n : Nat} {f : Nat → Nat} {v : Value} (h : OwnN w' w.heap.size v n f) (hg : w.grownBy w' none) : GotB w n f v w' := by
  obtain ⟨a, c, e, hc, hR⟩ := h.rd
  exact ⟨⟨a, c, e, hc, hR, h.rowB⟩, hg⟩
/-- It stays, whatever is stored into a block that stood there. -/
theorem GotB.later {w w1 w2 w3 : World} {n G : Nat} {f : Nat → Nat} {v : Value} (h : GotB w1 n f v w2) (g : w.grownBy w1 none) (g3 : w2.grownBy w3 (some G)) (hG : w.heap.size ≤ G) (hG1 : G < w1.heap.size) : GotB w n f v w3 := by
  obtain ⟨⟨a, c, e, hc, hR, ho⟩, hg⟩ := h
  refine ⟨⟨a, c, e, hc, ⟨fun hn => ?_⟩, fun b hb => Nat.le_trans g.size (ho b hb)⟩, ?_⟩
  · obtain ⟨tb, o, rfl, h2, h3⟩ := hR.ex hn
    have h4 := ho tb (by rw [e]; rfl)
    exact ⟨tb, o, rfl, Nat.lt_of_lt_of_le h2 g3.size, fun i hi => g3.cell (h3 i hi) (fun e' => by
      have e2 : tb = G := by injection e'
      omega)⟩
  · have h := grown_trans (grown_some (row := some G) (grown_trans g hg)) g3
    exact ⟨h.os, h.tape, h.output, h.size, fun k hk _ => h.block k hk (by intro e; cases e; omega)⟩
theorem refMac_any (n L c : Nat) (ba : Option Addr) (base : Nat → Nat) (w : World) (hb : Rd w w.heap.size ba L base) (hbl : ∀ i, base i < 256) (hn : L ≤ 2000) :
    Calls Tryd.prog 27 #[.int .u8 (hN n), .slice none 0 0, .slice ba L c] w fun e w' => ∃ v, e = .returned v ∧ GotB w (sN n) (secF n L base) v w' := by
  rcases five_or n with ⟨e, h1, h2⟩ | ⟨e, h1, h2⟩
  · rw [h1, h2]
    unfold secF
    rw [if_pos e]
    exact (rmac64 0 0 L c none ba (fun _ => 0) base w (rd_nil _ _ _) hb (fun _ => by decide) hbl (by decide) (by omega)).mono fun e w' ⟨v, h3, h4, h5⟩ => ⟨v, h3, GotB.ofN h4 h5⟩
  · rw [h1, h2]
    unfold secF
    rw [if_neg e]
    exact (rmac32 0 0 L c none ba (fun _ => 0) base w (rd_nil _ _ _) hb (fun _ => by decide) hbl (by decide) (by omega)).mono fun e w' ⟨v, h3, h4, h5⟩ => ⟨v, h3, GotB.ofN h4 h5⟩
theorem refExpand_any (n N L c ck : Nat) (ka ia : Option Addr) (key info : Nat → Nat) (w : World) (hk : Rd w w.heap.size ka (sN n) key) (hi : Rd w w.heap.size ia L info) (hkl : ∀ i, key i < 256) (hil : ∀ i, info i < 256) (hln : L ≤ 2000) (hN0 : 1 ≤ N) (hN1 : N ≤ 64) :
    Calls Tryd.prog 26 #[.int .u8 (hN n), .slice ka (sN n) ck, .slice ia L c, .int .i64 N] w fun e w' => ∃ v, e = .returned v ∧ GotB w N (expF n key L info) v w' := by
  rcases five_or n with ⟨e, h1, h2⟩ | ⟨e, h1, h2⟩
  · rw [h2] at hk
    rw [h1, h2]
    unfold expF
    rw [if_pos e]
    exact (rexpand64 64 ck L c N ka ia key info w hk hi hkl hil (by decide) (by omega) hN0 (by omega)).mono fun e w' ⟨v, h3, h4, h5⟩ => ⟨v, h3, GotB.ofN h4 h5⟩
  · rw [h2] at hk
    rw [h1, h2]
    unfold expF
    rw [if_neg e]
    exact (rexpand32 32 ck L c N ka ia key info w hk hi hkl hil (by decide) (by omega) hN0 (by omega)).mono fun e w' ⟨v, h3, h4, h5⟩ => ⟨v, h3, GotB.ofN h4 h5⟩
end Go.Proofs.YtobaplndoaeoiaaDoor
namespace Go.Proofs.YtobaplndoaeoiaaDoor
open Go.RowKit

set_option maxRecDepth 100000

section
variable {P : Program} {ops : Array Oper} {Q : Exit → Act → World → Prop}
/-- The one that may come up next stores. -/
theorem wpAnyH_skipS {md : Region.Mode} {S : World → Prop} {i : Nat} {o : Oper} {fuel : Nat} {listed : Array Bool} {a : Act} {w w' : World}
    (hr : Region.ready md ops listed = [i]) (hi : ops[i]? = some o) (hd : o.dst = none) (hw : Region.wanted o (yielded ops a.tmps) = true) (he : (execOp a.eval o).run P w = .ok .skip w') (hS : S w')
    (h : wpAnyH P md ops Q S fuel (listed.setIfInBounds i true) a w') : wpAnyH P md ops Q S (fuel + 1) listed a w := by
  refine wpAnyH_all hr (by simp) fun j hj => ?_
  obtain rfl : j = i := by simpa using hj
  refine wpOp_at hi hw (wp_skips he ⟨hS, ?_⟩)
  rw [hd]
  exact h
end
theorem exec_loadS {P : Program} {o : Oper} {a : Act} {w : World} {T : TypeId} (x : Operand) (p v : Value) (ho : o.op = .load T x) (hx : a.eval x = p) (h : (Instr.loadAt T p).run P w = .ok v w) : (execOp a.eval o).run P w = .ok (.value v) w := by
  unfold execOp
  simp only [ho, hx, Sem.run_bind, h, Result.andThen_ok, Sem.run_pure]
theorem exec_storeS {P : Program} {o : Oper} {a : Act} {w w' : World} {T : TypeId} (x y : Operand) (p v : Value) (ho : o.op = .store T x y) (hx : a.eval x = p) (hy : a.eval y = v) (h : (Instr.storeAt T p v).run P w = .ok () w') : (execOp a.eval o).run P w = .ok .skip w' := by
  unfold execOp
  simp only [ho, hx, hy, Sem.run_bind, h, Result.andThen_ok, Sem.run_pure]
/-- A result that is a block's cells, with two values beside. -/
theorem res_rowAt3 {P : Program} {fn : Func} {p q q2 : Tmp} {T : TypeId} {n : Nat} {v : Nat → Value} {x x2 : Value} {tmps : Array Value} {w : World} {g : Nat} {t : TypeId} (hr : fn.results = #[.cell p T, .tmp q, .tmp q2]) (hp : tmps.getD p undef = .pointer (some ⟨g, 0, none⟩)) (hq : tmps.getD q undef = x) (hq2 : tmps.getD q2 undef = x2) (H : RowAt w g t n v)
    (hu : (P.underlying T).map (fun d => match d with | .struct _ | .array _ _ => true | _ => false) = some true) (hi : (P.info? T).map (·.size) = some n) : (results fn tmps).run P w = .ok (.tuple #[.agg (rowOf n v), x, x2]) w := by
  obtain ⟨d, d1, d2⟩ := under_row hu
  have hp' : tmps[p]?.getD undef = .pointer (some ⟨g, 0, none⟩) := by simpa using hp
  have hq' : tmps[q]?.getD undef = x := by simpa using hq
  have hq2' : tmps[q2]?.getD undef = x2 := by simpa using hq2
  have r1 := run_loadVar_row (P := P) w g t T (rowOf n v) (0, 0) d H.block d1 (by cases d <;> first | rfl | exact d2) (by rw [rowOf_size]; exact hi)
  simp [results, hr, hp', hq', hq2', asAddr, r1]
end Go.Proofs.YtobaplndoaeoiaaDoor
namespace Go.Proofs.YtobaplndoaeoiaaDoor
open Go.RowKit Go.Shelf

set_option maxRecDepth 100000
set_option maxHeartbeats 4000000

theorem extract_enters (args : Array Value) (w : World) : (callFunc 21 args).run Tryd.prog w = .ok (.enter 21 args) w := enters_of Tryd.func21 (by kernel_rfl) rfl args w
theorem sec_no (n : Nat) (hn : n < 65536) (hs : ¬ IsSuite n) (b : Value) (w : World) :
    Calls Tryd.prog 16 #[.int .u16 n, b] w fun e w' => e = .returned (.tuple #[.agg (rowOf 5 ivz), .slice none 0 0, .int .i64 130]) ∧ w.grownBy w' none := by
  have ga := World.grownBy_alloc w (.cells #[.int .u8 0, .int .i64 0, .int .i64 0, .int .i64 0, .int .i64 0] 28) none
  have hR := RowAt.new w 28 5 ivz #[.int .u8 0, .int .i64 0, .int .i64 0, .int .i64 0, .int .i64 0] rfl
  have OF := Lib.hid (of_no n hn hs)
  go_enter Tryd.func16, Tryd.ntmps16
  go_upto_region 1 with fail
  obtain ⟨w1, hw1⟩ : ∃ W, W = w.alloc (.cells #[.int .u8 0, .int .i64 0, .int .i64 0, .int .i64 0, .int .i64 0] 28) := ⟨_, rfl⟩
  obtain ⟨G, hG⟩ : ∃ G, G = w.heap.size := ⟨_, rfl⟩
  rw [← hw1] at ga hR ⊢
  rw [← hG] at hR ⊢
  have HR := Lib.hid hR
  have GA := Lib.hid ga
  have HGe := Lib.hid hG
  clear hR ga hw1 hG
  go_wp2_with fail
  go_at_call 6
  refine (OF.out w1).mono ?_
  rintro e w2 ⟨rfl, g2⟩
  have gb := World.grownBy_alloc w2 (.cells #[.int .u8 0, .int .i64 0, .int .i64 0, .int .i64 0, .int .i64 0] 28) none
  have hR2 := RowAt.new w2 28 5 ivz #[.int .u8 0, .int .i64 0, .int .i64 0, .int .i64 0, .int .i64 0] rfl
  obtain ⟨w4, st3, hR3, g4⟩ := store_info 0 0 0 0 0 hR2
  have st4 : (Instr.storeAt 28 (.pointer (some ⟨w2.heap.size, 0, none⟩)) (.agg (rowOf 5 ivz))).run Tryd.prog (w2.alloc (.cells #[.int .u8 0, .int .i64 0, .int .i64 0, .int .i64 0, .int .i64 0] 28)) = .ok () w4 := st3
  have hR4 : RowAt w4 w2.heap.size 28 5 ivz := hR3
  have hRG := ((HR.out.grown g2 (by simp)).grown gb (by simp)).grown g4 (by
    have h1 := g2.size
    have h2 := HR.out.lt
    intro e
    cases e
    omega)
  have hne : G ≠ w2.heap.size := by
    have h1 := g2.size
    have h2 := HR.out.lt
    omega
  have G4 := Lib.hid (grown_into (grown_trans (grown_trans GA.out g2) gb) g4 (by
    have h1 := g2.size
    have h2 := GA.out.size
    omega))
  have HRG := Lib.hid hRG
  have HR4 := Lib.hid hR4
  have ST4 := Lib.hid st4
  have HGW : Hid (w.heap.size ≤ G) := Lib.hid (by rw [HGe.out]; exact Nat.le_refl _)
  have HNE := Lib.hid hne
  clear st3 hR3 hR2 gb g2 g4 hRG hR4 st4 HR GA OF HGe hne
  go_upto_region 2 with (with_reducible refine wpList_here ?_; refine wpList_st (p := .pointer (some ⟨w2.heap.size, 0, none⟩)) (.tmp 7) (.tmp 12) rfl rfl ?_ ?_ ?_ ST4.out ?_; (. kernel_rfl); (. kernel_rfl); (. kernel_rfl))
  obtain ⟨B2, hB2⟩ : ∃ B2, B2 = w2.heap.size := ⟨_, rfl⟩
  rw [← hB2] at HR4 HNE ⊢
  clear ST4 hB2
  obtain ⟨w5, st5, hR5, g5⟩ := store_info 0 0 0 0 0 HRG.out
  have HR5 := Lib.hid hR5
  have ST5 := Lib.hid st5
  have G5 := Lib.hid (grown_into G4.out g5 HGW.out)
  clear hR5 st5 g5 HRG HR4
  go_wp2_with (with_reducible refine wpList_here ?_; refine wpList_st (p := .pointer (some ⟨G, 0, none⟩)) (.tmp 4) (.tmp 16) rfl rfl ?_ ?_ ?_ ST5.out ?_; (. kernel_rfl); (. kernel_rfl); (. kernel_rfl))
  exact bodyPost_ret (res_rowAt3 rfl rfl rfl rfl HR5.out (by kernel_rfl) (by kernel_rfl)) rfl ⟨rfl, G5.out⟩

theorem sec_arg (n L c : Nat) (hs : IsSuite n) (ba : Option Addr) (w : World) (hb : L = 0 ∨ 1024 < L) :
    Calls Tryd.prog 16 #[.int .u16 n, .slice ba L c] w fun e w' => e = .returned (.tuple #[.agg (rowOf 5 ivz), .slice none 0 0, .int .i64 2]) ∧ w.grownBy w' none := by
  have HB := Lib.hid hb
  clear hb
  have ga := World.grownBy_alloc w (.cells #[.int .u8 0, .int .i64 0, .int .i64 0, .int .i64 0, .int .i64 0] 28) none
  have hR := RowAt.new w 28 5 ivz #[.int .u8 0, .int .i64 0, .int .i64 0, .int .i64 0, .int .i64 0] rfl
  have OF := Lib.hid (of_is n hs)
  go_enter Tryd.func16, Tryd.ntmps16
  go_upto_region 1 with fail
  obtain ⟨w1, hw1⟩ : ∃ W, W = w.alloc (.cells #[.int .u8 0, .int .i64 0, .int .i64 0, .int .i64 0, .int .i64 0] 28) := ⟨_, rfl⟩
  obtain ⟨G, hG⟩ : ∃ G, G = w.heap.size := ⟨_, rfl⟩
  rw [← hw1] at ga hR ⊢
  rw [← hG] at hR ⊢
  have HR := Lib.hid hR
  have GA := Lib.hid ga
  have HGe := Lib.hid hG
  clear hR ga hw1 hG
  go_wp2_with fail
  go_at_call 6
  refine (OF.out w1).mono ?_
  rintro e w2 ⟨rfl, g2⟩
  have gb := World.grownBy_alloc w2 (.cells #[.int .u8 0, .int .i64 0, .int .i64 0, .int .i64 0, .int .i64 0] 28) none
  have hR2 := RowAt.new w2 28 5 ivz #[.int .u8 0, .int .i64 0, .int .i64 0, .int .i64 0, .int .i64 0] rfl
  obtain ⟨w4, st3, hR3, g4⟩ := store_info (hN n) (kN n) (eN n) (tN n) (sN n) hR2
  have st4 : (Instr.storeAt 28 (.pointer (some ⟨w2.heap.size, 0, none⟩)) (.agg (rowOf 5 (iv n)))).run Tryd.prog (w2.alloc (.cells #[.int .u8 0, .int .i64 0, .int .i64 0, .int .i64 0, .int .i64 0] 28)) = .ok () w4 := st3
  have hR4 : RowAt w4 w2.heap.size 28 5 (iv n) := hR3
  have hRG := ((HR.out.grown g2 (by simp)).grown gb (by simp)).grown g4 (by
    have h1 := g2.size
    have h2 := HR.out.lt
    intro e
    cases e
    omega)
  have hne : G ≠ w2.heap.size := by
    have h1 := g2.size
    have h2 := HR.out.lt
    omega
  have G4 := Lib.hid (grown_into (grown_trans (grown_trans GA.out g2) gb) g4 (by
    have h1 := g2.size
    have h2 := GA.out.size
    omega))
  have HRG := Lib.hid hRG
  have HR4 := Lib.hid hR4
  have ST4 := Lib.hid st4
  have HGW : Hid (w.heap.size ≤ G) := Lib.hid (by rw [HGe.out]; exact Nat.le_refl _)
  have HNE := Lib.hid hne
  clear st3 hR3 hR2 gb g2 g4 hRG hR4 st4 HR GA OF HGe hne
  go_upto_region 2 with (with_reducible refine wpList_here ?_; refine wpList_st (p := .pointer (some ⟨w2.heap.size, 0, none⟩)) (.tmp 7) (.tmp 12) rfl rfl ?_ ?_ ?_ ST4.out ?_; (. kernel_rfl); (. kernel_rfl); (. kernel_rfl))
  obtain ⟨B2, hB2⟩ : ∃ B2, B2 = w2.heap.size := ⟨_, rfl⟩
  rw [← hB2] at HR4 HNE ⊢
  clear ST4 hB2
  rcases HB.out with rfl | hb
  · clear HB
    obtain ⟨w5, st5, hR5, g5⟩ := store_info 0 0 0 0 0 HRG.out
    have HR5 := Lib.hid hR5
    have ST5 := Lib.hid st5
    have G5 := Lib.hid (grown_into G4.out g5 HGW.out)
    clear hR5 st5 g5 HRG HR4
    go_wp2_with (with_reducible refine wpList_here ?_; refine wpList_st (p := .pointer (some ⟨G, 0, none⟩)) (.tmp 4) (.tmp 26) rfl rfl ?_ ?_ ?_ ST5.out ?_; (. kernel_rfl); (. kernel_rfl); (. kernel_rfl))
    exact bodyPost_ret (res_rowAt3 rfl rfl rfl rfl HR5.out (by kernel_rfl) (by kernel_rfl)) rfl ⟨rfl, G5.out⟩
  · have i1 : (L : Int) > 1024 := by omega
    have i2 : ((L : Int) == 0) = false := by rw [beq_eq_false_iff_ne]; omega
    clear HB hb
    obtain ⟨w5, st5, hR5, g5⟩ := store_info 0 0 0 0 0 HRG.out
    have HR5 := Lib.hid hR5
    have ST5 := Lib.hid st5
    have G5 := Lib.hid (grown_into G4.out g5 HGW.out)
    clear hR5 st5 g5 HRG HR4
    go_wp2_with (with_reducible refine wpList_here ?_; refine wpList_st (p := .pointer (some ⟨G, 0, none⟩)) (.tmp 4) (.tmp 26) rfl rfl ?_ ?_ ?_ ST5.out ?_; (. kernel_rfl); (. kernel_rfl); (. kernel_rfl))
    exact bodyPost_ret (res_rowAt3 rfl rfl rfl rfl HR5.out (by kernel_rfl) (by kernel_rfl)) rfl ⟨rfl, G5.out⟩

theorem sec_ok (n L c : Nat) (hs : IsSuite n) (ba : Option Addr) (base : Nat → Nat) (w : World) (hL : Laid w 1 2 FC KC) (hb : Rd w w.heap.size ba L base) (hbl : ∀ i, base i < 256) (hc : L ≤ c) (h0 : L ≠ 0) (h1 : L ≤ 1024) :
    Calls Tryd.prog 16 #[.int .u16 n, .slice ba L c] w fun e w' => ∃ v, e = .returned (.tuple #[.agg (rowOf 5 (iv n)), v, .int .i64 0]) ∧ GotB w (sN n) (secF n L base) v w' := by
  have EXT := Lib.hid (fun W (g : w.grownBy W none) => extract_any n L c ba base W (hL.grown g (by simp) (by simp)) (hb.up (Nat.le_refl _) g) hbl hc (by omega))
  have i1 : ¬ ((L : Int) > 1024) := by omega
  have i2 : ((L : Int) == 0) = false := by rw [beq_eq_false_iff_ne]; omega
  clear hL hb hbl h0 h1
  have ga := World.grownBy_alloc w (.cells #[.int .u8 0, .int .i64 0, .int .i64 0, .int .i64 0, .int .i64 0] 28) none
  have hR := RowAt.new w 28 5 ivz #[.int .u8 0, .int .i64 0, .int .i64 0, .int .i64 0, .int .i64 0] rfl
  have OF := Lib.hid (of_is n hs)
  go_enter Tryd.func16, Tryd.ntmps16
  go_upto_region 1 with fail
  obtain ⟨w1, hw1⟩ : ∃ W, W = w.alloc (.cells #[.int .u8 0, .int .i64 0, .int .i64 0, .int .i64 0, .int .i64 0] 28) := ⟨_, rfl⟩
  obtain ⟨G, hG⟩ : ∃ G, G = w.heap.size := ⟨_, rfl⟩
  rw [← hw1] at ga hR ⊢
  rw [← hG] at hR ⊢
  have HR := Lib.hid hR
  have GA := Lib.hid ga
  have HGe := Lib.hid hG
  clear hR ga hw1 hG
  go_wp2_with fail
  go_at_call 6
  refine (OF.out w1).mono ?_
  rintro e w2 ⟨rfl, g2⟩
  have gb := World.grownBy_alloc w2 (.cells #[.int .u8 0, .int .i64 0, .int .i64 0, .int .i64 0, .int .i64 0] 28) none
  have hR2 := RowAt.new w2 28 5 ivz #[.int .u8 0, .int .i64 0, .int .i64 0, .int .i64 0, .int .i64 0] rfl
  obtain ⟨w4, st3, hR3, g4⟩ := store_info (hN n) (kN n) (eN n) (tN n) (sN n) hR2
  have st4 : (Instr.storeAt 28 (.pointer (some ⟨w2.heap.size, 0, none⟩)) (.agg (rowOf 5 (iv n)))).run Tryd.prog (w2.alloc (.cells #[.int .u8 0, .int .i64 0, .int .i64 0, .int .i64 0, .int .i64 0] 28)) = .ok () w4 := st3
  have hR4 : RowAt w4 w2.heap.size 28 5 (iv n) := hR3
  have hRG := ((HR.out.grown g2 (by simp)).grown gb (by simp)).grown g4 (by
    have h1 := g2.size
    have h2 := HR.out.lt
    intro e
    cases e
    omega)
  have hne : G ≠ w2.heap.size := by
    have h1 := g2.size
    have h2 := HR.out.lt
    omega
  have G4 := Lib.hid (grown_into (grown_trans (grown_trans GA.out g2) gb) g4 (by
    have h1 := g2.size
    have h2 := GA.out.size
    omega))
  have HRG := Lib.hid hRG
  have HR4 := Lib.hid hR4
  have ST4 := Lib.hid st4
  have HGW : Hid (w.heap.size ≤ G) := Lib.hid (by rw [HGe.out]; exact Nat.le_refl _)
  have HNE := Lib.hid hne
  clear st3 hR3 hR2 gb g2 g4 hRG hR4 st4 HR GA OF HGe hne
  go_upto_region 2 with (with_reducible refine wpList_here ?_; refine wpList_st (p := .pointer (some ⟨w2.heap.size, 0, none⟩)) (.tmp 7) (.tmp 12) rfl rfl ?_ ?_ ?_ ST4.out ?_; (. kernel_rfl); (. kernel_rfl); (. kernel_rfl))
  obtain ⟨B2, hB2⟩ : ∃ B2, B2 = w2.heap.size := ⟨_, rfl⟩
  rw [← hB2] at HR4 HNE ⊢
  clear ST4 hB2
  go_upto_region 6 with fail
  refine wp_region_held (S := (fun W => RowAt W B2 28 5 (iv n))) (by kernel_rfl) ?_
  change wpAnyH _ _ _ _ _ 8 #[false, false, false, false, false, false, false, false] _ (World.drew _)
  obtain ⟨V4, hV4⟩ : ∃ V, V = w4.drew := ⟨_, rfl⟩
  rw [← hV4]
  have gd : w4.grownBy V4 none := by rw [hV4]; exact grown_drew (grown_refl w4 none)
  have HR4 := Lib.hid (HR4.out.grown gd (by simp))
  have HRG := Lib.hid (HRG.out.grown gd (by simp))
  have G4 := Lib.hid (grown_trans G4.out gd)
  clear gd hV4
  refine wpAnyH_takeD (some 27) (i := 0) (v := (.agg (rowOf 5 (iv n)))) rfl rfl (by kernel_rfl) (by kernel_rfl) (by kernel_rfl) (fun _ _ _ h => h) (Or.inl ⟨rfl, fun W hW => exec_loadS (.tmp 7) _ _ rfl rfl (load_info hW)⟩) HR4.out ?_
  simp only [Act.put, List.setIfInBounds_toArray, List.set_cons_succ, List.set_cons_zero]
  refine wpAnyH_takeD (some 28) (i := 1) (v := (.pointer (some ⟨B2, 0, none⟩))) rfl rfl (by kernel_rfl) (by kernel_rfl) (by kernel_rfl) (fun _ _ _ h => h) (Or.inl ⟨rfl, fun W hW => by go_simp⟩) HR4.out ?_
  simp only [Act.put, List.setIfInBounds_toArray, List.set_cons_succ, List.set_cons_zero]
  refine wpAnyH_takeD (some 29) (i := 2) (v := (.int .u8 (hN n : Nat))) rfl rfl (by kernel_rfl) (by kernel_rfl) (by kernel_rfl) (fun _ _ _ h => h) (Or.inl ⟨rfl, fun W hW => by have c0 : W.cell? ⟨B2, 0, none⟩ = some (.int .u8 (hN n : Nat)) := hW.cell 0 (by decide); clear HR4; go_simp⟩) HR4.out ?_
  simp only [Act.put, List.setIfInBounds_toArray, List.set_cons_succ, List.set_cons_zero]
  refine wpAnyH_takeD (some 30) (i := 3) (v := (.slice ba L c)) rfl rfl (by kernel_rfl) (by kernel_rfl) (by kernel_rfl) (fun _ _ _ h => h) (Or.inl ⟨rfl, fun _ _ => rfl⟩) HR4.out ?_
  simp only [Act.put, List.setIfInBounds_toArray, List.set_cons_succ, List.set_cons_zero]
  have hS0 := HR4.out
  refine wpAnyH_callD (some 31) (i := 4) 21 #[.int .u8 (hN n : Nat), .slice none 0 0, .slice ba L c] (by kernel_rfl) rfl rfl rfl (exec_fn3 _ _ _ _ _ _ _ rfl rfl rfl rfl) extract_enters (EXT.out V4 G4.out) ?_
  rintro v W1 hv
  have hS1 := hS0.grown hv.gr (by simp)
  refine ⟨hS1, ?_⟩
  obtain ⟨w5, st5, hR5, g5⟩ := store_info (hN n) (kN n) (eN n) (tN n) (sN n) (HRG.out.grown hv.gr (by simp))
  have hS2 : RowAt w5 B2 28 5 (iv n) := hS1.grown g5 (fun e => HNE.out (by cases e; rfl))
  simp only [Act.put, List.setIfInBounds_toArray, List.set_cons_succ, List.set_cons_zero]
  refine wpAnyH_skipS (i := 5) (by kernel_rfl) rfl rfl rfl (exec_storeS (.tmp 4) (.tmp 27) (.pointer (some ⟨G, 0, none⟩)) (.agg (rowOf 5 (iv n))) rfl rfl rfl st5) hS2 ?_
  refine wpAnyH_takeD (some 5) (i := 6) (v := v) rfl rfl (by kernel_rfl) (by kernel_rfl) (by kernel_rfl) (fun _ _ _ h => h) (Or.inl ⟨rfl, fun _ _ => rfl⟩) hS2 ?_
  simp only [Act.put, List.setIfInBounds_toArray, List.set_cons_succ, List.set_cons_zero]
  refine wpAnyH_takeD (some 6) (i := 7) (v := (.int .i64 0)) rfl rfl (by kernel_rfl) (by kernel_rfl) (by kernel_rfl) (fun _ _ _ h => h) (Or.inl ⟨rfl, fun _ _ => rfl⟩) hS2 ?_
  simp only [Act.put, List.setIfInBounds_toArray, List.set_cons_succ, List.set_cons_zero]
  refine wpAnyH_done (by kernel_rfl) ?_ _
  have hw := HGW.out
  have hR5 : RowAt w5 G 28 5 (iv n) := hR5
  go_wp2_with fail
  refine bodyPost_ret (res_rowAt3 rfl rfl rfl rfl hR5 (by kernel_rfl) (by kernel_rfl)) rfl ⟨v, rfl, ?_⟩
  exact GotB.later hv G4.out g5 hw HRG.out.lt
end Go.Proofs.YtobaplndoaeoiaaDoor
namespace Go.Proofs.YtobaplndoaeoiaaDoor
open Go.RowKit

set_option maxRecDepth 100000
set_option maxHeartbeats 2000000

def keyTL : List Nat := [83, 70, 114, 97, 109, 101, 32, 49, 46, 48, 32, 83, 101, 99, 114, 101, 116, 32, 107, 101, 121, 32]
def saltTL : List Nat := [83, 70, 114, 97, 109, 101, 32, 49, 46, 48, 32, 83, 101, 99, 114, 101, 116, 32, 115, 97, 108, 116, 32]
def ratTL : List Nat := [83, 70, 114, 97, 109, 101, 32, 49, 46, 48, 32, 82, 97, 116, 99, 104, 101, 116]
def txtF (l : List Nat) (i : Nat) : Nat := l.getD i 0
theorem txt_lt (l : List Nat) (h : l.all (fun x => decide (x < 256)) = true) (i : Nat) : txtF l i < 256 := by
  unfold txtF
  rw [List.getD_eq_getElem?_getD]
  by_cases hi : i < l.length
  · rw [List.getElem?_eq_getElem hi]
    simpa using List.all_eq_true.1 h l[i] (List.getElem_mem hi)
  · rw [List.getElem?_eq_none (by omega)]
    decide
theorem keyT_lt (i : Nat) : txtF keyTL i < 256 := txt_lt keyTL (by decide) i
theorem saltT_lt (i : Nat) : txtF saltTL i < 256 := txt_lt saltTL (by decide) i
theorem ratT_lt (i : Nat) : txtF ratTL i < 256 := txt_lt ratTL (by decide) i
theorem key_str : (⟨#[83, 70, 114, 97, 109, 101, 32, 49, 46, 48, 32, 83, 101, 99, 114, 101, 116, 32, 107, 101, 121, 32]⟩ : ByteArray) = strOf 22 (txtF keyTL) := by rfl
theorem salt_str : (⟨#[83, 70, 114, 97, 109, 101, 32, 49, 46, 48, 32, 83, 101, 99, 114, 101, 116, 32, 115, 97, 108, 116, 32]⟩ : ByteArray) = strOf 23 (txtF saltTL) := by rfl
theorem rat_cells : (#[.int .u8 83, .int .u8 70, .int .u8 114, .int .u8 97, .int .u8 109, .int .u8 101, .int .u8 32, .int .u8 49, .int .u8 46, .int .u8 48, .int .u8 32, .int .u8 82, .int .u8 97, .int .u8 116, .int .u8 99, .int .u8 104, .int .u8 101, .int .u8 116] : Array Value) = (bytesOf 18 (txtF ratTL)).toArray := by rfl

/-- What is told of a base key and a key id. -/
def keyF (n L : Nat) (base : Nat → Nat) (kid : Nat) : Nat → Nat := expF n (secF n L base) 32 (labF 22 (txtF keyTL) kid n)
def saltF (n L : Nat) (base : Nat → Nat) (kid : Nat) : Nat → Nat := expF n (secF n L base) 33 (labF 23 (txtF saltTL) kid n)
def behF (n L : Nat) (base : Nat → Nat) : Nat → Nat := expF n (secF n L base) 18 (txtF ratTL)
theorem expF_lt (n : Nat) (key : Nat → Nat) (L : Nat) (info : Nat → Nat) (i : Nat) : expF n key L info i < 256 := by
  unfold expF
  split
  · exact tOf_lt64 _ _ _ _ _ _ _ _
  · exact tOf_lt32 _ _ _ _ _ _ _ _

/-- The cells of a key id's keys. -/
def kv (n kid : Nat) (x : Value) (s : Nat → Nat) (i : Nat) : Value := if i = 0 then .int .u16 n else if i = 1 then .int .u64 kid else if i = 2 then x else .int .u8 (s (i - 3))
def kvz : Nat → Value := kv 0 0 (.slice none 0 0) (fun _ => 0)
theorem kv_one (n kid : Nat) (x : Value) (s : Nat → Nat) (hx : x.oneCell' = true) (i : Nat) : (kv n kid x s i).oneCell' = true := by
  unfold kv
  repeat' split
  · rfl
  · rfl
  · exact hx
  · rfl
theorem load_keys {w : World} {B : Nat} {v : Nat → Value} (hr : RowAt w B 34 15 v) : (Instr.loadAt 34 (.pointer (some ⟨B, 0, none⟩))).run Tryd.prog w = .ok (.agg (rowOf 15 v)) w :=
  RowAt.load (P := Tryd.prog) hr 0 34 15 v (by omega) (fun j _ => by rw [Nat.zero_add]) (by kernel_rfl) (by kernel_rfl)
theorem store_keys {w : World} {B : Nat} {v : Nat → Value} (u : Nat → Value) (hu : ∀ i, (u i).oneCell' = true) (hr : RowAt w B 34 15 v) :
    ∃ w', (Instr.storeAt 34 (.pointer (some ⟨B, 0, none⟩)) (.agg (rowOf 15 u))).run Tryd.prog w = .ok () w' ∧ RowAt w' B 34 15 u ∧ w.grownBy w' (some B) := by
  obtain ⟨h1, h2⟩ := RowAt.store (P := Tryd.prog) hr 0 34 15 u (by omega) (by kernel_rfl) (fun j _ => hu j)
  refine ⟨_, h1, h2.congr (fun i hi => ?_), grown_setCells B (Or.inr rfl) _ 0 w (grown_refl w (some B))⟩
  rw [if_pos ⟨Nat.zero_le _, by omega⟩, Nat.sub_zero]
/-- Twelve bytes are copied into the salt. -/
theorem copy_salt {w : World} {B n kid cs D : Nat} {a : Option Addr} {x : Value} {f : Nat → Nat} (h : RowAt w B 34 15 (kv n kid x (fun _ => 0))) (hR : Rd w D a 12 f) :
    ∃ w', (Builtin.copy_ #[23, 23] 3 #[.slice (some ⟨B, 3, none⟩) 12 12, .slice a 12 cs]).run Tryd.prog w = .ok (.int .i64 12) w' ∧ RowAt w' B 34 15 (kv n kid x f) ∧ w.grownBy w' (some B) := by
  obtain ⟨tb, so, rfl, _, hc⟩ := hR.ex (by decide)
  have hcp := run_copy_cells (P := Tryd.prog) w 23 23 3 5 B 3 12 12 ⟨tb, so, none⟩ 12 cs ((List.range 12).map fun j => Value.int .u8 (f j)) (by kernel_rfl) (by kernel_rfl) (by simp)
      (fun j v hv => by
        have hj : j < 12 := by
          have := (List.getElem?_eq_some_iff.1 hv).1
          simpa using this
        have e : v = .int .u8 (f j) := by simpa [hj] using hv.symm
        subst e
        rw [Addr.add_mid]
        exact hc j hj)
      (fun j hj => by
        have hj' : j < 12 := by simpa using hj
        rw [h.cell (3 + j) (by omega)]; rfl)
      (fun j _ => h.frozen _) (fun v hv => by
        obtain ⟨i, _, rfl⟩ := List.mem_map.1 hv
        rfl)
  rw [show ((List.range 12).map fun j => Value.int .u8 (f j)).length = 12 by simp] at hcp
  have h2 := heap_setCells_at B 34 15 ((List.range 12).map fun j => Value.int .u8 (f j)) 3 w _ h (by simp)
  refine ⟨_, hcp, h2.congr (fun i hi => ?_), grown_setCells B (Or.inr rfl) _ 3 w (grown_refl w (some B))⟩
  rw [show ((List.range 12).map fun j => Value.int .u8 (f j)).length = 12 by simp]
  by_cases e : 3 ≤ i ∧ i < 3 + 12
  · rw [if_pos e]
    obtain ⟨k, rfl⟩ : ∃ k, i = k + 3 := ⟨i - 3, by omega⟩
    have hk : k < 12 := by omega
    unfold kv
    rw [if_neg (by omega), if_neg (by omega), if_neg (by omega), Nat.add_sub_cancel]
    simp [hk]
  · rw [if_neg e]
    obtain rfl | rfl | rfl : i = 0 ∨ i = 1 ∨ i = 2 := by omega
    all_goals rfl
theorem suite_nums (n : Nat) (hs : IsSuite n) : 1 ≤ kN n ∧ kN n ≤ 64 ∧ 1 ≤ sN n ∧ sN n ≤ 64 ∧ sN n ≤ 255 := by
  rcases hs with rfl | rfl | rfl | rfl | rfl <;> decide
end Go.Proofs.YtobaplndoaeoiaaDoor
namespace Go.Proofs.YtobaplndoaeoiaaDoor
open Go.RowKit Go.Shelf

set_option maxRecDepth 100000
set_option maxHeartbeats 4000000

theorem lab_enters (args : Array Value) (w : World) : (callFunc 18 args).run Tryd.prog w = .ok (.enter 18 args) w := enters_of Tryd.func18 (by kernel_rfl) rfl args w
theorem expand_enters (args : Array Value) (w : World) : (callFunc 17 args).run Tryd.prog w = .ok (.enter 17 args) w := enters_of Tryd.func17 (by kernel_rfl) rfl args w
structure HasB (M n : Nat) (f : Nat → Nat) (v : Value) (w : World) : Prop where
  ex : ∃ a c, v = .slice a n c ∧ n ≤ c ∧ Rd w w.heap.size a n f ∧ ∀ g, v.ownBlock = some g → M ≤ g
theorem HasB.grown {M n : Nat} {f : Nat → Nat} {v : Value} {w w' : World} {row : Option Nat} (h : HasB M n f v w) (g : w.grownBy w' row) (hr : ∀ k, row = some k → k < M) : HasB M n f v w' := by
  obtain ⟨a, c, rfl, hc, hR, ho⟩ := h.ex
  refine ⟨a, c, rfl, hc, ⟨fun hn => ?_⟩, ho⟩
  obtain ⟨tb, o, rfl, h2, h3⟩ := hR.ex hn
  have h4 := ho tb rfl
  refine ⟨tb, o, rfl, Nat.lt_of_lt_of_le h2 g.size, fun i hi => g.cell (h3 i hi) (fun e' => ?_)⟩
  have := hr tb e'.symm
  omega
theorem GotB.has {w w' : World} {n : Nat} {f : Nat → Nat} {v : Value} (h : GotB w n f v w') : HasB w.heap.size n f v w' := ⟨h.ex⟩
theorem HasB.got {M n : Nat} {f : Nat → Nat} {v : Value} {w w' : World} (h : HasB M n f v w') (hM : w.heap.size ≤ M) (g : w.grownBy w' none) : GotB w n f v w' := by
  obtain ⟨a, c, h1, h2, h3, h4⟩ := h.ex
  exact ⟨⟨a, c, h1, h2, h3, fun b hb => Nat.le_trans hM (h4 b hb)⟩, g⟩
theorem GaveM.val {w : World} {n : Nat} {f : Nat → Nat} {e : Ending} {w' : World} (h : GaveM w n f e w') : ∃ v, e = .returned v ∧ GotB w n f v w' := by
  obtain ⟨⟨g, cap, h1, h2, h3, h4⟩, h5⟩ := h
  exact ⟨_, h1, ⟨_, _, rfl, h2, h3, fun b hb => by cases hb; exact h4⟩, h5⟩
theorem der_no (n : Nat) (hn : n < 65536) (hs : ¬ IsSuite n) (b k : Value) (w : World) :
    Calls Tryd.prog 7 #[.int .u16 n, b, k] w fun e w' => e = .returned (.tuple #[.agg (rowOf 15 kvz), .int .i64 130]) ∧ w.grownBy w' none := by
  have SC := Lib.hid (fun W (_ : w.grownBy W none) => sec_no n hn hs b W)
  have ga := World.grownBy_alloc w (.cells #[.int .u16 0, .int .u64 0, .slice none 0 0, .int .u8 0, .int .u8 0, .int .u8 0, .int .u8 0, .int .u8 0, .int .u8 0, .int .u8 0, .int .u8 0, .int .u8 0, .int .u8 0, .int .u8 0, .int .u8 0] 34) none
  have hK := RowAt.new w 34 15 kvz #[.int .u16 0, .int .u64 0, .slice none 0 0, .int .u8 0, .int .u8 0, .int .u8 0, .int .u8 0, .int .u8 0, .int .u8 0, .int .u8 0, .int .u8 0, .int .u8 0, .int .u8 0, .int .u8 0, .int .u8 0] rfl
  go_enter Tryd.func7, Tryd.ntmps7
  go_upto_region 1 with fail
  obtain ⟨w1, hw1⟩ : ∃ W, W = w.alloc (.cells #[.int .u16 0, .int .u64 0, .slice none 0 0, .int .u8 0, .int .u8 0, .int .u8 0, .int .u8 0, .int .u8 0, .int .u8 0, .int .u8 0, .int .u8 0, .int .u8 0, .int .u8 0, .int .u8 0, .int .u8 0] 34) := ⟨_, rfl⟩
  obtain ⟨G, hG⟩ : ∃ G, G = w.heap.size := ⟨_, rfl⟩
  rw [← hw1] at ga hK ⊢
  rw [← hG] at hK ⊢
  have HK := Lib.hid hK
  have GA := Lib.hid ga
  have HGW : Hid (w.heap.size ≤ G) := Lib.hid (by rw [hG]; exact Nat.le_refl _)
  clear hK ga hw1 hG
  go_wp2_with fail
  go_at_call 16
  with_reducible refine (SC.out w1 GA.out).mono ?_
  rintro e w2 ⟨rfl, g2⟩
  have gb := World.grownBy_alloc w2 (.cells #[.int .u8 0, .int .i64 0, .int .i64 0, .int .i64 0, .int .i64 0] 28) none
  have hR2 := RowAt.new w2 28 5 ivz #[.int .u8 0, .int .i64 0, .int .i64 0, .int .i64 0, .int .i64 0] rfl
  obtain ⟨w4, st3, hR3, g4⟩ := store_info 0 0 0 0 0 hR2
  have st4 : (Instr.storeAt 28 (.pointer (some ⟨w2.heap.size, 0, none⟩)) (.agg (rowOf 5 ivz))).run Tryd.prog (w2.alloc (.cells #[.int .u8 0, .int .i64 0, .int .i64 0, .int .i64 0, .int .i64 0] 28)) = .ok () w4 := st3
  have hR4 : RowAt w4 w2.heap.size 28 5 ivz := hR3
  have g24 : w2.grownBy w4 none := grown_into gb g4 (Nat.le_refl _)
  have G14 := Lib.hid (grown_trans g2 g24)
  have G4 := Lib.hid (grown_trans GA.out G14.out)
  have G24 := Lib.hid g24
  have HR4 := Lib.hid hR4
  have ST4 := Lib.hid st4
  have HK4 := Lib.hid (HK.out.grown G14.out (by simp))
  clear st3 hR3 hR2 gb g4 hR4 st4 g24 SC HK
  go_upto_region 2 with (with_reducible refine wpList_here ?_; refine wpList_st (p := .pointer (some ⟨w2.heap.size, 0, none⟩)) (.tmp 8) (.tmp 17) rfl rfl ?_ ?_ ?_ ST4.out ?_; (. kernel_rfl); (. kernel_rfl); (. kernel_rfl))
  obtain ⟨B2, hB2⟩ : ∃ B2, B2 = w2.heap.size := ⟨_, rfl⟩
  rw [← hB2] at HR4 ⊢
  clear ST4 hB2
  obtain ⟨w5, st5, hK5, g5⟩ := store_keys kvz (kv_one _ _ _ _ rfl) HK4.out
  have HK5 := Lib.hid hK5
  have ST5 := Lib.hid st5
  have G5 := Lib.hid (grown_into G4.out g5 HGW.out)
  clear hK5 st5 g5 HK4 HR4
  go_wp2_with (with_reducible refine wpList_here ?_; refine wpList_st (p := .pointer (some ⟨G, 0, none⟩)) (.tmp 6) (.tmp 22) rfl rfl ?_ ?_ ?_ ST5.out ?_; (. kernel_rfl); (. kernel_rfl); (. kernel_rfl))
  exact bodyPost_ret (res_rowAt2 rfl rfl rfl HK5.out (by kernel_rfl) (by kernel_rfl)) rfl ⟨rfl, G5.out⟩
theorem der_arg (n L c : Nat) (hs : IsSuite n) (ba : Option Addr) (k : Value) (w : World) (hb : L = 0 ∨ 1024 < L) :
    Calls Tryd.prog 7 #[.int .u16 n, .slice ba L c, k] w fun e w' => e = .returned (.tuple #[.agg (rowOf 15 kvz), .int .i64 2]) ∧ w.grownBy w' none := by
  have SC := Lib.hid (fun W (_ : w.grownBy W none) => sec_arg n L c hs ba W hb)
  have ga := World.grownBy_alloc w (.cells #[.int .u16 0, .int .u64 0, .slice none 0 0, .int .u8 0, .int .u8 0, .int .u8 0, .int .u8 0, .int .u8 0, .int .u8 0, .int .u8 0, .int .u8 0, .int .u8 0, .int .u8 0, .int .u8 0, .int .u8 0] 34) none
  have hK := RowAt.new w 34 15 kvz #[.int .u16 0, .int .u64 0, .slice none 0 0, .int .u8 0, .int .u8 0, .int .u8 0, .int .u8 0, .int .u8 0, .int .u8 0, .int .u8 0, .int .u8 0, .int .u8 0, .int .u8 0, .int .u8 0, .int .u8 0] rfl
  go_enter Tryd.func7, Tryd.ntmps7
  go_upto_region 1 with fail
  obtain ⟨w1, hw1⟩ : ∃ W, W = w.alloc (.cells #[.int .u16 0, .int .u64 0, .slice none 0 0, .int .u8 0, .int .u8 0, .int .u8 0, .int .u8 0, .int .u8 0, .int .u8 0, .int .u8 0, .int .u8 0, .int .u8 0, .int .u8 0, .int .u8 0, .int .u8 0] 34) := ⟨_, rfl⟩
  obtain ⟨G, hG⟩ : ∃ G, G = w.heap.size := ⟨_, rfl⟩
  rw [← hw1] at ga hK ⊢
  rw [← hG] at hK ⊢
  have HK := Lib.hid hK
  have GA := Lib.hid ga
  have HGW : Hid (w.heap.size ≤ G) := Lib.hid (by rw [hG]; exact Nat.le_refl _)
  clear hK ga hw1 hG
  go_wp2_with fail
  go_at_call 16
  with_reducible refine (SC.out w1 GA.out).mono ?_
  rintro e w2 ⟨rfl, g2⟩
  have gb := World.grownBy_alloc w2 (.cells #[.int .u8 0, .int .i64 0, .int .i64 0, .int .i64 0, .int .i64 0] 28) none
  have hR2 := RowAt.new w2 28 5 ivz #[.int .u8 0, .int .i64 0, .int .i64 0, .int .i64 0, .int .i64 0] rfl
  obtain ⟨w4, st3, hR3, g4⟩ := store_info 0 0 0 0 0 hR2
  have st4 : (Instr.storeAt 28 (.pointer (some ⟨w2.heap.size, 0, none⟩)) (.agg (rowOf 5 ivz))).run Tryd.prog (w2.alloc (.cells #[.int .u8 0, .int .i64 0, .int .i64 0, .int .i64 0, .int .i64 0] 28)) = .ok () w4 := st3
  have hR4 : RowAt w4 w2.heap.size 28 5 ivz := hR3
  have g24 : w2.grownBy w4 none := grown_into gb g4 (Nat.le_refl _)
  have G14 := Lib.hid (grown_trans g2 g24)
  have G4 := Lib.hid (grown_trans GA.out G14.out)
  have G24 := Lib.hid g24
  have HR4 := Lib.hid hR4
  have ST4 := Lib.hid st4
  have HK4 := Lib.hid (HK.out.grown G14.out (by simp))
  clear st3 hR3 hR2 gb g4 hR4 st4 g24 SC HK
  go_upto_region 2 with (with_reducible refine wpList_here ?_; refine wpList_st (p := .pointer (some ⟨w2.heap.size, 0, none⟩)) (.tmp 8) (.tmp 17) rfl rfl ?_ ?_ ?_ ST4.out ?_; (. kernel_rfl); (. kernel_rfl); (. kernel_rfl))
  obtain ⟨B2, hB2⟩ : ∃ B2, B2 = w2.heap.size := ⟨_, rfl⟩
  rw [← hB2] at HR4 ⊢
  clear ST4 hB2
  obtain ⟨w5, st5, hK5, g5⟩ := store_keys kvz (kv_one _ _ _ _ rfl) HK4.out
  have HK5 := Lib.hid hK5
  have ST5 := Lib.hid st5
  have G5 := Lib.hid (grown_into G4.out g5 HGW.out)
  clear hK5 st5 g5 HK4 HR4
  go_wp2_with (with_reducible refine wpList_here ?_; refine wpList_st (p := .pointer (some ⟨G, 0, none⟩)) (.tmp 6) (.tmp 22) rfl rfl ?_ ?_ ?_ ST5.out ?_; (. kernel_rfl); (. kernel_rfl); (. kernel_rfl))
  exact bodyPost_ret (res_rowAt2 rfl rfl rfl HK5.out (by kernel_rfl) (by kernel_rfl)) rfl ⟨rfl, G5.out⟩

theorem der_ok (n L c kid : Nat) (hs : IsSuite n) (ba : Option Addr) (base : Nat → Nat) (w : World) (hL : Laid w 1 2 FC KC) (hb : Rd w w.heap.size ba L base) (hbl : ∀ i, base i < 256) (hc : L ≤ c) (h0 : L ≠ 0) (h1 : L ≤ 1024) (hk : kid < 18446744073709551616) :
    Calls Tryd.prog 7 #[.int .u16 n, .slice ba L c, .int .u64 kid] w fun e w' => ∃ v, e = .returned (.tuple #[.agg (rowOf 15 (kv n kid v (saltF n L base kid))), .int .i64 0]) ∧ GotB w (kN n) (keyF n L base kid) v w' := by
  have hn : n < 65536 := by unfold IsSuite at hs; omega
  have SC := Lib.hid (fun W (g : w.grownBy W none) => sec_ok n L c hs ba base W (hL.grown g (by simp) (by simp)) (hb.up (Nat.le_refl _) g) hbl hc h0 h1)
  have HL := Lib.hid hL
  have HSN := Lib.hid (suite_nums n hs)
  have LAK := Lib.hid (fun W => (show Calls Tryd.prog 18 #[.string ⟨#[83, 70, 114, 97, 109, 101, 32, 49, 46, 48, 32, 83, 101, 99, 114, 101, 116, 32, 107, 101, 121, 32]⟩, .int .u64 kid, .int .u16 n] W (GaveM W 32 (labF 22 (txtF keyTL) kid n)) by rw [key_str]; exact labelled_any 22 kid n (txtF keyTL) W keyT_lt (by decide) hk hn).mono fun e w' h => h.val)
  have LAS := Lib.hid (fun W => (show Calls Tryd.prog 18 #[.string ⟨#[83, 70, 114, 97, 109, 101, 32, 49, 46, 48, 32, 83, 101, 99, 114, 101, 116, 32, 115, 97, 108, 116, 32]⟩, .int .u64 kid, .int .u16 n] W (GaveM W 33 (labF 23 (txtF saltTL) kid n)) by rw [salt_str]; exact labelled_any 23 kid n (txtF saltTL) W saltT_lt (by decide) hk hn).mono fun e w' h => h.val)
  clear hL hb hbl h0 h1 hs hc hk hn
  have ga := World.grownBy_alloc w (.cells #[.int .u16 0, .int .u64 0, .slice none 0 0, .int .u8 0, .int .u8 0, .int .u8 0, .int .u8 0, .int .u8 0, .int .u8 0, .int .u8 0, .int .u8 0, .int .u8 0, .int .u8 0, .int .u8 0, .int .u8 0] 34) none
  have hK := RowAt.new w 34 15 kvz #[.int .u16 0, .int .u64 0, .slice none 0 0, .int .u8 0, .int .u8 0, .int .u8 0, .int .u8 0, .int .u8 0, .int .u8 0, .int .u8 0, .int .u8 0, .int .u8 0, .int .u8 0, .int .u8 0, .int .u8 0] rfl
  go_enter Tryd.func7, Tryd.ntmps7
  go_upto_region 1 with fail
  obtain ⟨w1, hw1⟩ : ∃ W, W = w.alloc (.cells #[.int .u16 0, .int .u64 0, .slice none 0 0, .int .u8 0, .int .u8 0, .int .u8 0, .int .u8 0, .int .u8 0, .int .u8 0, .int .u8 0, .int .u8 0, .int .u8 0, .int .u8 0, .int .u8 0, .int .u8 0] 34) := ⟨_, rfl⟩
  obtain ⟨G, hG⟩ : ∃ G, G = w.heap.size := ⟨_, rfl⟩
  rw [← hw1] at ga hK ⊢
  rw [← hG] at hK ⊢
  have HK := Lib.hid hK
  have GA := Lib.hid ga
  have HGW : Hid (w.heap.size ≤ G) := Lib.hid (by rw [hG]; exact Nat.le_refl _)
  clear hK ga hw1 hG
  go_wp2_with fail
  go_at_call 16
  with_reducible refine (SC.out w1 GA.out).mono ?_
  rintro e w2 ⟨v, rfl, hv⟩
  have gb := World.grownBy_alloc w2 (.cells #[.int .u8 0, .int .i64 0, .int .i64 0, .int .i64 0, .int .i64 0] 28) none
  have hR2 := RowAt.new w2 28 5 ivz #[.int .u8 0, .int .i64 0, .int .i64 0, .int .i64 0, .int .i64 0] rfl
  obtain ⟨w4, st3, hR3, g4⟩ := store_info (hN n) (kN n) (eN n) (tN n) (sN n) hR2
  have st4 : (Instr.storeAt 28 (.pointer (some ⟨w2.heap.size, 0, none⟩)) (.agg (rowOf 5 (iv n)))).run Tryd.prog (w2.alloc (.cells #[.int .u8 0, .int .i64 0, .int .i64 0, .int .i64 0, .int .i64 0] 28)) = .ok () w4 := st3
  have hR4 : RowAt w4 w2.heap.size 28 5 (iv n) := hR3
  have g24 : w2.grownBy w4 none := grown_into gb g4 (Nat.le_refl _)
  have G14 := Lib.hid (grown_trans hv.gr g24)
  have G4 := Lib.hid (grown_trans GA.out G14.out)
  have G24 := Lib.hid g24
  have HR4 := Lib.hid hR4
  have ST4 := Lib.hid st4
  have HK4 := Lib.hid (HK.out.grown G14.out (by simp))
  clear st3 hR3 hR2 gb g4 hR4 st4 g24 SC HK
  go_upto_region 2 with (with_reducible refine wpList_here ?_; refine wpList_st (p := .pointer (some ⟨w2.heap.size, 0, none⟩)) (.tmp 8) (.tmp 17) rfl rfl ?_ ?_ ?_ ST4.out ?_; (. kernel_rfl); (. kernel_rfl); (. kernel_rfl))
  obtain ⟨B2, hB2⟩ : ∃ B2, B2 = w2.heap.size := ⟨_, rfl⟩
  rw [← hB2] at HR4 ⊢
  clear ST4 hB2
  obtain ⟨⟨sa, sc, rfl, hsc, hRs, _⟩, _⟩ := hv
  have HSC := Lib.hid hsc
  have hRs4 := Lib.hid (hRs.up (Nat.le_refl _) G24.out)
  have gX := World.grownBy_alloc w4 (.cells #[.int .u16 n, .int .u64 kid, .slice none 0 0, .int .u8 0, .int .u8 0, .int .u8 0, .int .u8 0, .int .u8 0, .int .u8 0, .int .u8 0, .int .u8 0, .int .u8 0, .int .u8 0, .int .u8 0, .int .u8 0] 34) none
  have hX := RowAt.new w4 34 15 (kv n kid (.slice none 0 0) (fun _ => 0)) #[.int .u16 n, .int .u64 kid, .slice none 0 0, .int .u8 0, .int .u8 0, .int .u8 0, .int .u8 0, .int .u8 0, .int .u8 0, .int .u8 0, .int .u8 0, .int .u8 0, .int .u8 0, .int .u8 0, .int .u8 0] rfl
  clear hRs hsc G24 G14
  go_upto_region 5 with fail
  obtain ⟨w5, hw5⟩ : ∃ W, W = w4.alloc (.cells #[.int .u16 n, .int .u64 kid, .slice none 0 0, .int .u8 0, .int .u8 0, .int .u8 0, .int .u8 0, .int .u8 0, .int .u8 0, .int .u8 0, .int .u8 0, .int .u8 0, .int .u8 0, .int .u8 0, .int .u8 0] 34) := ⟨_, rfl⟩
  rw [← hw5] at gX hX ⊢
  have HNE : Hid (B2 ≠ w4.heap.size) := Lib.hid (by have := HR4.out.lt; omega)
  have HGX : Hid (G ≠ w4.heap.size) := Lib.hid (by have := HK4.out.lt; omega)
  have HWX : Hid (w.heap.size ≤ w4.heap.size) := Lib.hid G4.out.size
  obtain ⟨BX, hBX⟩ : ∃ B, B = w4.heap.size := ⟨_, rfl⟩
  rw [← hBX] at hX HNE HGX HWX ⊢
  have HR5 := Lib.hid (HR4.out.grown gX (by simp))
  have HK5 := Lib.hid (HK4.out.grown gX (by simp))
  have HX5 := Lib.hid hX
  have hRs5 : Rd w5 BX sa (sN n) (secF n L base) := by rw [hBX]; exact hRs4.out.grown gX (by simp)
  have G5 := Lib.hid (grown_trans G4.out gX)
  clear gX hX hw5 hBX HR4 HK4 hRs4 G4 GA
  refine wp_region_held (S := (fun W => RowAt W B2 28 5 (iv n))) (by kernel_rfl) ?_
  change wpAnyH _ _ _ _ _ 15 #[false, false, false, false, false, false, false, false, false, false, false, false, false, false, false] _ (World.drew _)
  obtain ⟨V5, hd⟩ : ∃ V, V = w5.drew := ⟨_, rfl⟩
  rw [← hd]
  have gd : w5.grownBy V5 none := by rw [hd]; exact grown_drew (grown_refl w5 none)
  have HR5 := Lib.hid (HR5.out.grown gd (by simp))
  have HX5 := Lib.hid (HX5.out.grown gd (by simp))
  have HK5 := Lib.hid (HK5.out.grown gd (by simp))
  have hRs5 := hRs5.grown gd (by simp)
  have G5 := Lib.hid (grown_trans G5.out gd)
  clear gd hd
  refine wpAnyH_takeD (some 28) (i := 0) (v := (.pointer (some ⟨B2, 0, none⟩))) rfl rfl (by kernel_rfl) (by kernel_rfl) (by kernel_rfl) (fun _ _ _ h => h) (Or.inl ⟨rfl, fun W hW => by go_simp⟩) HR5.out ?_
  simp only [Act.put, List.setIfInBounds_toArray, List.set_cons_succ, List.set_cons_zero]
  refine wpAnyH_takeD (some 29) (i := 1) (v := (.int .u8 (hN n : Nat))) rfl rfl (by kernel_rfl) (by kernel_rfl) (by kernel_rfl) (fun _ _ _ h => h) (Or.inl ⟨rfl, fun W hW => by have c0 : W.cell? ⟨B2, 0, none⟩ = some (.int .u8 (hN n : Nat)) := hW.cell 0 (by decide); go_simp⟩) HR5.out ?_
  simp only [Act.put, List.setIfInBounds_toArray, List.set_cons_succ, List.set_cons_zero]
  refine wpAnyH_takeD (some 30) (i := 2) (v := (.slice sa (sN n) sc)) rfl rfl (by kernel_rfl) (by kernel_rfl) (by kernel_rfl) (fun _ _ _ h => h) (Or.inl ⟨rfl, fun _ _ => rfl⟩) HR5.out ?_
  simp only [Act.put, List.setIfInBounds_toArray, List.set_cons_succ, List.set_cons_zero]
  refine wpAnyH_takeD (some 31) (i := 3) (v := (.int .u64 kid)) rfl rfl (by kernel_rfl) (by kernel_rfl) (by kernel_rfl) (fun _ _ _ h => h) (Or.inl ⟨rfl, fun _ _ => rfl⟩) HR5.out ?_
  simp only [Act.put, List.setIfInBounds_toArray, List.set_cons_succ, List.set_cons_zero]
  refine wpAnyH_takeD (some 32) (i := 4) (v := (.int .u16 n)) rfl rfl (by kernel_rfl) (by kernel_rfl) (by kernel_rfl) (fun _ _ _ h => h) (Or.inl ⟨rfl, fun _ _ => rfl⟩) HR5.out ?_
  simp only [Act.put, List.setIfInBounds_toArray, List.set_cons_succ, List.set_cons_zero]
  refine wpAnyH_takeD (some 34) (i := 6) (v := (.pointer (some ⟨B2, 1, none⟩))) rfl rfl (by kernel_rfl) (by kernel_rfl) (by kernel_rfl) (fun _ _ _ h => h) (Or.inl ⟨rfl, fun W hW => by go_simp⟩) HR5.out ?_
  simp only [Act.put, List.setIfInBounds_toArray, List.set_cons_succ, List.set_cons_zero]
  refine wpAnyH_takeD (some 35) (i := 7) (v := (.int .i64 (kN n : Nat))) rfl rfl (by kernel_rfl) (by kernel_rfl) (by kernel_rfl) (fun _ _ _ h => h) (Or.inl ⟨rfl, fun W hW => by have c0 : W.cell? ⟨B2, 1, none⟩ = some (.int .i64 (kN n : Nat)) := hW.cell 1 (by decide); go_simp⟩) HR5.out ?_
  simp only [Act.put, List.setIfInBounds_toArray, List.set_cons_succ, List.set_cons_zero]
  have hS0 := HR5.out
  refine wpAnyH_callD (some 33) (i := 5) 18 #[.string ⟨#[83, 70, 114, 97, 109, 101, 32, 49, 46, 48, 32, 83, 101, 99, 114, 101, 116, 32, 107, 101, 121, 32]⟩, .int .u64 kid, .int .u16 n] (by kernel_rfl) rfl rfl rfl (exec_fn3 _ _ _ _ _ _ _ rfl rfl rfl rfl) lab_enters (LAK.out V5) ?_
  rintro _ W1 ⟨⟨a1, c1, rfl, hc1, hR1, _⟩, g1⟩
  have hS1 := hS0.grown g1 (by simp)
  refine ⟨hS1, ?_⟩
  have hE := expand_any n (kN n) 32 c1 sc sa a1 (secF n L base) (labF 22 (txtF keyTL) kid n) W1 (HL.out.grown (grown_trans G5.out g1) (by simp) (by simp)) ((hRs5.grown g1 (by simp)).mono (Nat.le_trans (Nat.le_of_lt HX5.out.lt) g1.size)) hR1 (secF_lt n L base) (labF_lt 22 (txtF keyTL) kid n keyT_lt) HSC.out hc1 (by decide) HSN.out.1 HSN.out.2.1
  simp only [Act.put, List.setIfInBounds_toArray, List.set_cons_succ, List.set_cons_zero]
  refine wpAnyH_callD (some 36) (i := 8) 17 #[.int .u8 (hN n : Nat), .slice sa (sN n) sc, .slice a1 32 c1, .int .i64 (kN n : Nat)] (R := fun v W => ∃ x, v = .tuple #[x, .int .i64 0] ∧ GotB W1 (kN n) (keyF n L base kid) x W) (by kernel_rfl) rfl rfl rfl (exec_fn4 _ _ _ _ _ _ _ _ _ rfl rfl rfl rfl rfl) expand_enters (hE.mono fun e w h => by obtain ⟨v, h1, h2⟩ := h; exact ⟨_, h1, v, rfl, h2⟩) ?_
  rintro _ W2 ⟨x, rfl, hx⟩
  have hS2 := hS1.grown hx.gr (by simp)
  have g12 := grown_trans g1 hx.gr
  have hX2 := HX5.out.grown g12 (by simp)
  refine ⟨hS2, ?_⟩
  have hY2 := hx.has
  obtain ⟨⟨a2, c2, rfl, hc2, hR2, hO2⟩, hg2⟩ := hx
  have cx : W2.cell? ⟨BX, 2, none⟩ = some (.slice none 0 0) := hX2.cell 2 (by decide)
  have fx := hX2.frozen 2
  have hX3 := hX2.put 2 (.slice a2 (kN n) c2) (by decide)
  have gS := grown_setCell_new (grown_refl W2 (some BX)) ⟨BX, 2, none⟩ (.slice a2 (kN n) c2) (Or.inr rfl)
  have hS3 := hS2.grown gS (fun e => HNE.out (by cases e; rfl))
  have hsto : (Instr.storeAt 23 (.pointer (some ⟨BX, 2, none⟩)) (.slice a2 (kN n) c2)).run Tryd.prog W2 = .ok () (W2.setCell ⟨BX, 2, none⟩ (.slice a2 (kN n) c2)) := by clear hX3 gS hS3 hX2 hS2 hE; go_simp
  simp only [Act.put, List.setIfInBounds_toArray, List.set_cons_succ, List.set_cons_zero]
  refine wpAnyH_takeD (some 27) (i := 9) (v := (.tuple #[.slice a2 (kN n) c2, .int .i64 0])) rfl rfl (by kernel_rfl) (by kernel_rfl) (by kernel_rfl) (fun _ _ _ h => h) (Or.inl ⟨rfl, fun _ _ => rfl⟩) hS2 ?_
  simp only [Act.put, List.setIfInBounds_toArray, List.set_cons_succ, List.set_cons_zero]
  refine wpAnyH_takeD (some 37) (i := 10) (v := (.slice a2 (kN n) c2)) rfl rfl (by kernel_rfl) (by kernel_rfl) (by kernel_rfl) (fun _ _ _ h => h) (Or.inl ⟨rfl, fun _ _ => by go_simp⟩) hS2 ?_
  simp only [Act.put, List.setIfInBounds_toArray, List.set_cons_succ, List.set_cons_zero]
  refine wpAnyH_takeD (some 38) (i := 11) (v := (.int .i64 0)) rfl rfl (by kernel_rfl) (by kernel_rfl) (by kernel_rfl) (fun _ _ _ h => h) (Or.inl ⟨rfl, fun _ _ => by go_simp⟩) hS2 ?_
  simp only [Act.put, List.setIfInBounds_toArray, List.set_cons_succ, List.set_cons_zero]
  refine wpAnyH_takeD (some 39) (i := 12) (v := (.pointer (some ⟨BX, 2, none⟩))) rfl rfl (by kernel_rfl) (by kernel_rfl) (by kernel_rfl) (fun _ _ _ h => h) (Or.inl ⟨rfl, fun _ _ => by go_simp⟩) hS2 ?_
  simp only [Act.put, List.setIfInBounds_toArray, List.set_cons_succ, List.set_cons_zero]
  refine wpAnyH_skipS (i := 13) (by kernel_rfl) rfl rfl rfl (exec_storeS (.tmp 39) (.tmp 37) (.pointer (some ⟨BX, 2, none⟩)) (.slice a2 (kN n) c2) rfl rfl rfl hsto) hS3 ?_
  refine wpAnyH_takeD (some 10) (i := 14) (v := (.int .i64 0)) rfl rfl (by kernel_rfl) (by kernel_rfl) (by kernel_rfl) (fun _ _ _ h => h) (Or.inl ⟨rfl, fun _ _ => rfl⟩) hS3 ?_
  simp only [Act.put, List.setIfInBounds_toArray, List.set_cons_succ, List.set_cons_zero]
  refine wpAnyH_done (by kernel_rfl) ?_ _
  have hM1 : BX < W1.heap.size := Nat.lt_of_lt_of_le HX5.out.lt g1.size
  have hMG : G < W1.heap.size := Nat.lt_of_lt_of_le HK5.out.lt g1.size
  have hMW : w.heap.size ≤ W1.heap.size := Nat.le_trans G5.out.size g1.size
  have hRs6 := (hRs5.grown g12 (by simp)).grown gS (fun k e => by cases e; exact Nat.le_refl _)
  have hY6 := hY2.grown gS (fun k e => by cases e; exact hM1)
  have hK6 := (HK5.out.grown g12 (by simp)).grown gS (fun e => HGX.out (by cases e; rfl))
  have hG6 := grown_into (grown_trans G5.out g12) gS HWX.out
  have hX6 := hX3.congr (v' := kv n kid (.slice a2 (kN n) c2) (fun _ => 0)) (fun i hi => by
    unfold kv
    by_cases e : i = 2
    · subst e; rfl
    · rw [if_neg e]
      repeat' split
      all_goals first | rfl | omega)
  generalize W2.setCell ⟨BX, 2, none⟩ (.slice a2 (kN n) c2) = w6 at *
  obtain ⟨M, hM⟩ : ∃ M, M = W1.heap.size := ⟨_, rfl⟩
  rw [← hM] at hM1 hMG hMW hY6
  have HR6 := Lib.hid hS3
  have HX6 := Lib.hid hX6
  have HK6 := Lib.hid hK6
  have HY6 := Lib.hid hY6
  have HRs6 := Lib.hid (hRs6.mono (Nat.le_of_lt hX6.lt))
  have G6 := Lib.hid hG6
  have HM1 := Lib.hid hM1
  have HMG := Lib.hid hMG
  have HMW := Lib.hid hMW
  have hk1 : ((.slice a2 (kN n) c2 : Value)).oneCell' = true := rfl
  clear hsto hS3 hX6 hK6 hY6 hRs6 hG6 hM1 hMG hMW hM gS cx fx hX3 hX2 hS2 hS1 hS0 hE hY2 hR2 hO2 hg2 hR1 g12 g1 hc1 hRs5 HX5 HK5 HR5 G5
  go_upto_region 8 with fail
  refine wp_region_held (S := (fun W => RowAt W B2 28 5 (iv n))) (by kernel_rfl) ?_
  change wpAnyH _ _ _ _ _ 12 #[false, false, false, false, false, false, false, false, false, false, false, false] _ (World.drew _)
  obtain ⟨V6, hd⟩ : ∃ V, V = w6.drew := ⟨_, rfl⟩
  rw [← hd]
  have gd : w6.grownBy V6 none := by rw [hd]; exact grown_drew (grown_refl w6 none)
  have HR6 := Lib.hid (HR6.out.grown gd (by simp))
  have HX6 := Lib.hid (HX6.out.grown gd (by simp))
  have HK6 := Lib.hid (HK6.out.grown gd (by simp))
  have HRs6 := Lib.hid (HRs6.out.up (Nat.le_refl _) gd)
  have HY6 := Lib.hid (HY6.out.grown gd (by simp))
  have G6 := Lib.hid (grown_trans G6.out gd)
  clear gd hd
  refine wpAnyH_takeD (some 45) (i := 0) (v := (.pointer (some ⟨B2, 0, none⟩))) rfl rfl (by kernel_rfl) (by kernel_rfl) (by kernel_rfl) (fun _ _ _ h => h) (Or.inl ⟨rfl, fun W hW => by go_simp⟩) HR6.out ?_
  simp only [Act.put, List.setIfInBounds_toArray, List.set_cons_succ, List.set_cons_zero]
  refine wpAnyH_takeD (some 46) (i := 1) (v := (.int .u8 (hN n : Nat))) rfl rfl (by kernel_rfl) (by kernel_rfl) (by kernel_rfl) (fun _ _ _ h => h) (Or.inl ⟨rfl, fun W hW => by have c0 : W.cell? ⟨B2, 0, none⟩ = some (.int .u8 (hN n : Nat)) := hW.cell 0 (by decide); go_simp⟩) HR6.out ?_
  simp only [Act.put, List.setIfInBounds_toArray, List.set_cons_succ, List.set_cons_zero]
  refine wpAnyH_takeD (some 47) (i := 2) (v := (.slice sa (sN n) sc)) rfl rfl (by kernel_rfl) (by kernel_rfl) (by kernel_rfl) (fun _ _ _ h => h) (Or.inl ⟨rfl, fun _ _ => rfl⟩) HR6.out ?_
  simp only [Act.put, List.setIfInBounds_toArray, List.set_cons_succ, List.set_cons_zero]
  refine wpAnyH_takeD (some 48) (i := 3) (v := (.int .u64 kid)) rfl rfl (by kernel_rfl) (by kernel_rfl) (by kernel_rfl) (fun _ _ _ h => h) (Or.inl ⟨rfl, fun _ _ => rfl⟩) HR6.out ?_
  simp only [Act.put, List.setIfInBounds_toArray, List.set_cons_succ, List.set_cons_zero]
  refine wpAnyH_takeD (some 49) (i := 4) (v := (.int .u16 n)) rfl rfl (by kernel_rfl) (by kernel_rfl) (by kernel_rfl) (fun _ _ _ h => h) (Or.inl ⟨rfl, fun _ _ => rfl⟩) HR6.out ?_
  simp only [Act.put, List.setIfInBounds_toArray, List.set_cons_succ, List.set_cons_zero]
  have hS0 := HR6.out
  refine wpAnyH_callD (some 50) (i := 5) 18 #[.string ⟨#[83, 70, 114, 97, 109, 101, 32, 49, 46, 48, 32, 83, 101, 99, 114, 101, 116, 32, 115, 97, 108, 116, 32]⟩, .int .u64 kid, .int .u16 n] (by kernel_rfl) rfl rfl rfl (exec_fn3 _ _ _ _ _ _ _ rfl rfl rfl rfl) lab_enters (LAS.out V6) ?_
  rintro _ W1 ⟨⟨a1, c1, rfl, hc1, hR1, _⟩, g1⟩
  have hS1 := hS0.grown g1 (by simp)
  refine ⟨hS1, ?_⟩
  have hE : Calls Tryd.prog 17 #[.int .u8 (hN n : Nat), .slice sa (sN n) sc, .slice a1 33 c1, .int .i64 12] W1 fun e w' => ∃ v, e = .returned (.tuple #[v, .int .i64 0]) ∧ GotB W1 12 (saltF n L base kid) v w' := expand_any n 12 33 c1 sc sa a1 (secF n L base) (labF 23 (txtF saltTL) kid n) W1 (HL.out.grown (grown_trans G6.out g1) (by simp) (by simp)) (HRs6.out.up (Nat.le_refl _) g1) hR1 (secF_lt n L base) (labF_lt 23 (txtF saltTL) kid n saltT_lt) HSC.out hc1 (by decide) (by decide) (by decide)
  simp only [Act.put, List.setIfInBounds_toArray, List.set_cons_succ, List.set_cons_zero]
  refine wpAnyH_callD (some 51) (i := 6) 17 #[.int .u8 (hN n : Nat), .slice sa (sN n) sc, .slice a1 33 c1, .int .i64 12] (R := fun v W => ∃ x, v = .tuple #[x, .int .i64 0] ∧ GotB W1 12 (saltF n L base kid) x W) (by kernel_rfl) rfl rfl rfl (exec_fn4 _ _ _ _ _ _ _ _ _ rfl rfl rfl rfl rfl) expand_enters (hE.mono fun e w h => by obtain ⟨v, h1, h2⟩ := h; exact ⟨_, h1, v, rfl, h2⟩) ?_
  rintro _ W2 ⟨x, rfl, hx⟩
  have hS2 := hS1.grown hx.gr (by simp)
  have g12 := grown_trans g1 hx.gr
  refine ⟨hS2, ?_⟩
  obtain ⟨⟨a3, c3, rfl, hc3, hR3, _⟩, _⟩ := hx
  simp only [Act.put, List.setIfInBounds_toArray, List.set_cons_succ, List.set_cons_zero]
  refine wpAnyH_takeD (some 44) (i := 7) (v := (.tuple #[.slice a3 12 c3, .int .i64 0])) rfl rfl (by kernel_rfl) (by kernel_rfl) (by kernel_rfl) (fun _ _ _ h => h) (Or.inl ⟨rfl, fun _ _ => rfl⟩) hS2 ?_
  simp only [Act.put, List.setIfInBounds_toArray, List.set_cons_succ, List.set_cons_zero]
  refine wpAnyH_takeD (some 52) (i := 8) (v := (.slice a3 12 c3)) rfl rfl (by kernel_rfl) (by kernel_rfl) (by kernel_rfl) (fun _ _ _ h => h) (Or.inl ⟨rfl, fun _ _ => by go_simp⟩) hS2 ?_
  simp only [Act.put, List.setIfInBounds_toArray, List.set_cons_succ, List.set_cons_zero]
  refine wpAnyH_takeD (some 53) (i := 9) (v := (.int .i64 0)) rfl rfl (by kernel_rfl) (by kernel_rfl) (by kernel_rfl) (fun _ _ _ h => h) (Or.inl ⟨rfl, fun _ _ => by go_simp⟩) hS2 ?_
  simp only [Act.put, List.setIfInBounds_toArray, List.set_cons_succ, List.set_cons_zero]
  refine wpAnyH_takeD (some 12) (i := 10) (v := (.slice a3 12 c3)) rfl rfl (by kernel_rfl) (by kernel_rfl) (by kernel_rfl) (fun _ _ _ h => h) (Or.inl ⟨rfl, fun _ _ => rfl⟩) hS2 ?_
  simp only [Act.put, List.setIfInBounds_toArray, List.set_cons_succ, List.set_cons_zero]
  refine wpAnyH_takeD (some 10) (i := 11) (v := (.int .i64 0)) rfl rfl (by kernel_rfl) (by kernel_rfl) (by kernel_rfl) (fun _ _ _ h => h) (Or.inl ⟨rfl, fun _ _ => rfl⟩) hS2 ?_
  simp only [Act.put, List.setIfInBounds_toArray, List.set_cons_succ, List.set_cons_zero]
  refine wpAnyH_done (by kernel_rfl) ?_ _
  have hX7 := HX6.out.grown g12 (by simp)
  have hK7 := HK6.out.grown g12 (by simp)
  have hY7 := HY6.out.grown g12 (by simp)
  have G7 := grown_trans G6.out g12
  obtain ⟨w8, cp8, hX8, g8⟩ := copy_salt (cs := c3) hX7 hR3
  have hK8 := hK7.grown g8 (fun e => HGX.out (by cases e; rfl))
  have hY8 := hY7.grown g8 (fun k e => by cases e; exact HM1.out)
  have G8 := grown_into G7 g8 HWX.out
  have ld8 := load_keys hX8
  obtain ⟨w9, st9, hK9, g9⟩ := store_keys _ (kv_one n kid (.slice a2 (kN n) c2) (saltF n L base kid) hk1) hK8
  have hY9 := hY8.grown g9 (fun k e => by cases e; exact HMG.out)
  have G9 := grown_into G8 g9 HGW.out
  have HK9 := Lib.hid hK9
  have HV9 := Lib.hid (hY9.got HMW.out G9)
  have LD8 := Lib.hid ld8
  have ST9 := Lib.hid st9
  clear hX7 hK7 hY7 G7 hX8 g8 hK8 hY8 G8 ld8 st9 hK9 g9 hY9 G9 hS2 hS1 hS0 hE g12 g1 hR1 hR3 hc1 hc3 HX6 HK6 HY6 HR6 HRs6 G6
  go_wp2_with (first
    | (with_reducible refine wpList_here ?_; refine wpList_ld (p := .pointer (some ⟨BX, 0, none⟩)) 11 ?_ ?_ ?_ LD8.out ?_; (. rfl); (. kernel_rfl); (. kernel_rfl))
    | (with_reducible refine wpList_here ?_; refine wpList_st (p := .pointer (some ⟨G, 0, none⟩)) (.tmp 6) (.tmp 62) rfl rfl ?_ ?_ ?_ ST9.out ?_; (. kernel_rfl); (. kernel_rfl); (. kernel_rfl)))
  exact bodyPost_ret (res_rowAt2 rfl rfl rfl HK9.out (by kernel_rfl) (by kernel_rfl)) rfl ⟨_, rfl, HV9.out⟩
end Go.Proofs.YtobaplndoaeoiaaDoor
namespace Go.Proofs.YtobaplndoaeoiaaDoor
open Go.RowKit

set_option maxRecDepth 100000
set_option maxHeartbeats 4000000

theorem beh_no (n : Nat) (hn : n < 65536) (hs : ¬ IsSuite n) (b : Value) (w : World) :
    Calls Tryd.prog 8 #[.int .u16 n, b] w fun e w' => e = .returned (.tuple #[.slice none 0 0, .int .i64 130]) ∧ w.grownBy w' none := by
  have SC := Lib.hid (sec_no n hn hs b w)
  go_enter Tryd.func8, Tryd.ntmps8
  go_upto_region 1 with fail
  go_wp2_with fail
  go_at_call 16
  with_reducible refine (SC.out).mono ?_
  rintro e w2 ⟨rfl, g2⟩
  have gb := World.grownBy_alloc w2 (.cells #[.int .u8 0, .int .i64 0, .int .i64 0, .int .i64 0, .int .i64 0] 28) none
  have hR2 := RowAt.new w2 28 5 ivz #[.int .u8 0, .int .i64 0, .int .i64 0, .int .i64 0, .int .i64 0] rfl
  obtain ⟨w4, st3, hR3, g4⟩ := store_info 0 0 0 0 0 hR2
  have st4 : (Instr.storeAt 28 (.pointer (some ⟨w2.heap.size, 0, none⟩)) (.agg (rowOf 5 ivz))).run Tryd.prog (w2.alloc (.cells #[.int .u8 0, .int .i64 0, .int .i64 0, .int .i64 0, .int .i64 0] 28)) = .ok () w4 := st3
  have hR4 : RowAt w4 w2.heap.size 28 5 ivz := hR3
  have g24 : w2.grownBy w4 none := grown_into gb g4 (Nat.le_refl _)
  have G4 := Lib.hid (grown_trans g2 g24)
  have G24 := Lib.hid g24
  have HR4 := Lib.hid hR4
  have ST4 := Lib.hid st4
  clear st3 hR3 hR2 gb g4 hR4 st4 g24 SC
  go_upto_region 2 with (with_reducible refine wpList_here ?_; refine wpList_st (p := .pointer (some ⟨w2.heap.size, 0, none⟩)) (.tmp 6) (.tmp 13) rfl rfl ?_ ?_ ?_ ST4.out ?_; (. kernel_rfl); (. kernel_rfl); (. kernel_rfl))
  obtain ⟨B2, hB2⟩ : ∃ B2, B2 = w2.heap.size := ⟨_, rfl⟩
  rw [← hB2] at HR4 ⊢
  clear ST4 hB2

  go_wp2_with fail
  go_ret2
  exact ⟨rfl, G4.out⟩
theorem beh_arg (n L c : Nat) (hs : IsSuite n) (ba : Option Addr) (w : World) (hb : L = 0 ∨ 1024 < L) :
    Calls Tryd.prog 8 #[.int .u16 n, .slice ba L c] w fun e w' => e = .returned (.tuple #[.slice none 0 0, .int .i64 2]) ∧ w.grownBy w' none := by
  have SC := Lib.hid (sec_arg n L c hs ba w hb)
  go_enter Tryd.func8, Tryd.ntmps8
  go_upto_region 1 with fail
  go_wp2_with fail
  go_at_call 16
  with_reducible refine (SC.out).mono ?_
  rintro e w2 ⟨rfl, g2⟩
  have gb := World.grownBy_alloc w2 (.cells #[.int .u8 0, .int .i64 0, .int .i64 0, .int .i64 0, .int .i64 0] 28) none
  have hR2 := RowAt.new w2 28 5 ivz #[.int .u8 0, .int .i64 0, .int .i64 0, .int .i64 0, .int .i64 0] rfl
  obtain ⟨w4, st3, hR3, g4⟩ := store_info 0 0 0 0 0 hR2
  have st4 : (Instr.storeAt 28 (.pointer (some ⟨w2.heap.size, 0, none⟩)) (.agg (rowOf 5 ivz))).run Tryd.prog (w2.alloc (.cells #[.int .u8 0, .int .i64 0, .int .i64 0, .int .i64 0, .int .i64 0] 28)) = .ok () w4 := st3
  have hR4 : RowAt w4 w2.heap.size 28 5 ivz := hR3
  have g24 : w2.grownBy w4 none := grown_into gb g4 (Nat.le_refl _)
  have G4 := Lib.hid (grown_trans g2 g24)
  have G24 := Lib.hid g24
  have HR4 := Lib.hid hR4
  have ST4 := Lib.hid st4
  clear st3 hR3 hR2 gb g4 hR4 st4 g24 SC
  go_upto_region 2 with (with_reducible refine wpList_here ?_; refine wpList_st (p := .pointer (some ⟨w2.heap.size, 0, none⟩)) (.tmp 6) (.tmp 13) rfl rfl ?_ ?_ ?_ ST4.out ?_; (. kernel_rfl); (. kernel_rfl); (. kernel_rfl))
  obtain ⟨B2, hB2⟩ : ∃ B2, B2 = w2.heap.size := ⟨_, rfl⟩
  rw [← hB2] at HR4 ⊢
  clear ST4 hB2

  go_wp2_with fail
  go_ret2
  exact ⟨rfl, G4.out⟩
theorem beh_ok (n L c : Nat) (hs : IsSuite n) (ba : Option Addr) (base : Nat → Nat) (w : World) (hL : Laid w 1 2 FC KC) (hb : Rd w w.heap.size ba L base) (hbl : ∀ i, base i < 256) (hc : L ≤ c) (h0 : L ≠ 0) (h1 : L ≤ 1024) :
    Calls Tryd.prog 8 #[.int .u16 n, .slice ba L c] w fun e w' => ∃ v, e = .returned (.tuple #[v, .int .i64 0]) ∧ GotB w (sN n) (behF n L base) v w' := by
  have SC := Lib.hid (sec_ok n L c hs ba base w hL hb hbl hc h0 h1)
  have HL := Lib.hid hL
  have HSN := Lib.hid (suite_nums n hs)
  clear hL hb hbl h0 h1 hs hc
  go_enter Tryd.func8, Tryd.ntmps8
  go_upto_region 1 with fail
  go_wp2_with fail
  go_at_call 16
  with_reducible refine (SC.out).mono ?_
  rintro e w2 ⟨v, rfl, hv⟩
  have gb := World.grownBy_alloc w2 (.cells #[.int .u8 0, .int .i64 0, .int .i64 0, .int .i64 0, .int .i64 0] 28) none
  have hR2 := RowAt.new w2 28 5 ivz #[.int .u8 0, .int .i64 0, .int .i64 0, .int .i64 0, .int .i64 0] rfl
  obtain ⟨w4, st3, hR3, g4⟩ := store_info (hN n) (kN n) (eN n) (tN n) (sN n) hR2
  have st4 : (Instr.storeAt 28 (.pointer (some ⟨w2.heap.size, 0, none⟩)) (.agg (rowOf 5 (iv n)))).run Tryd.prog (w2.alloc (.cells #[.int .u8 0, .int .i64 0, .int .i64 0, .int .i64 0, .int .i64 0] 28)) = .ok () w4 := st3
  have hR4 : RowAt w4 w2.heap.size 28 5 (iv n) := hR3
  have g24 : w2.grownBy w4 none := grown_into gb g4 (Nat.le_refl _)
  have G4 := Lib.hid (grown_trans hv.gr g24)
  have G24 := Lib.hid g24
  have HR4 := Lib.hid hR4
  have ST4 := Lib.hid st4
  clear st3 hR3 hR2 gb g4 hR4 st4 g24 SC
  go_upto_region 2 with (with_reducible refine wpList_here ?_; refine wpList_st (p := .pointer (some ⟨w2.heap.size, 0, none⟩)) (.tmp 6) (.tmp 13) rfl rfl ?_ ?_ ?_ ST4.out ?_; (. kernel_rfl); (. kernel_rfl); (. kernel_rfl))
  obtain ⟨B2, hB2⟩ : ∃ B2, B2 = w2.heap.size := ⟨_, rfl⟩
  rw [← hB2] at HR4 ⊢
  clear ST4 hB2
  obtain ⟨⟨sa, sc, rfl, hsc, hRs, _⟩, _⟩ := hv
  have hRs4 := hRs.up (Nat.le_refl _) G24.out
  obtain ⟨cb, gc, rc⟩ := const_bytes w4 18 (txtF ratTL) #[.int .u8 83, .int .u8 70, .int .u8 114, .int .u8 97, .int .u8 109, .int .u8 101, .int .u8 32, .int .u8 49, .int .u8 46, .int .u8 48, .int .u8 32, .int .u8 82, .int .u8 97, .int .u8 116, .int .u8 99, .int .u8 104, .int .u8 101, .int .u8 116] rat_cells
  have gc4 := Lib.hid (grown_trans G4.out gc)
  have cbb := cb w4.heap.size rfl
  obtain ⟨w5, hw5⟩ : ∃ W, W = w4.alloc (.cells #[.int .u8 83, .int .u8 70, .int .u8 114, .int .u8 97, .int .u8 109, .int .u8 101, .int .u8 32, .int .u8 49, .int .u8 46, .int .u8 48, .int .u8 32, .int .u8 82, .int .u8 97, .int .u8 116, .int .u8 99, .int .u8 104, .int .u8 101, .int .u8 116] 5 ((#[.int .u8 83, .int .u8 70, .int .u8 114, .int .u8 97, .int .u8 109, .int .u8 101, .int .u8 32, .int .u8 49, .int .u8 46, .int .u8 48, .int .u8 32, .int .u8 82, .int .u8 97, .int .u8 116, .int .u8 99, .int .u8 104, .int .u8 101, .int .u8 116] : Array Value).size, (#[.int .u8 83, .int .u8 70, .int .u8 114, .int .u8 97, .int .u8 109, .int .u8 101, .int .u8 32, .int .u8 49, .int .u8 46, .int .u8 48, .int .u8 32, .int .u8 82, .int .u8 97, .int .u8 116, .int .u8 99, .int .u8 104, .int .u8 101, .int .u8 116] : Array Value).size + 1)) := ⟨_, rfl⟩
  rw [← hw5] at cbb gc rc gc4
  have hX5 := HR4.out.grown gc (by simp)
  have c0 : w5.cell? ⟨B2, 0, none⟩ = some (.int .u8 (hN n : Nat)) := hX5.cell 0 (by decide)
  have c4 : w5.cell? ⟨B2, 4, none⟩ = some (.int .i64 (sN n : Nat)) := hX5.cell 4 (by decide)
  have d0 : w4.cell? ⟨B2, 0, none⟩ = some (.int .u8 (hN n : Nat)) := HR4.out.cell 0 (by decide)
  have hsz : w5.heap.size = w4.heap.size + 1 := by rw [hw5]; simp
  have hE := expand_any n (sN n) 18 18 sc sa (some ⟨w4.heap.size, 0, none⟩) (secF n L base) (txtF ratTL) w5 (HL.out.grown gc4.out (by simp) (by simp)) (hRs4.up (Nat.le_refl _) gc) (by rw [hsz]; exact rc) (secF_lt n L base) ratT_lt hsc (Nat.le_refl _) (by decide) HSN.out.2.2.1 HSN.out.2.2.2.1
  have HE := Lib.hid hE
  clear hE hRs4 hRs gc rc hX5 HR4 hsc hw5 hsz cb G24
  go_wp2_with fail
  go_at_call 17
  with_reducible refine (HE.out).mono ?_
  rintro e w6 ⟨v, rfl, hv⟩
  clear c0 c4 d0 cbb
  go_wp2_with fail
  go_ret2
  exact ⟨v, rfl, ⟨⟨hv.ex.choose, hv.ex.choose_spec.choose, hv.ex.choose_spec.choose_spec.1, hv.ex.choose_spec.choose_spec.2.1, hv.ex.choose_spec.choose_spec.2.2.1, fun g hg => Nat.le_trans gc4.out.size (hv.ex.choose_spec.choose_spec.2.2.2 g hg)⟩, grown_trans gc4.out hv.gr⟩⟩
end Go.Proofs.YtobaplndoaeoiaaDoor
namespace Go.Proofs.YtobaplndoaeoiaaDoor
open Go.RowKit

set_option maxRecDepth 100000
set_option maxHeartbeats 4000000

def by8 (f : Nat → Nat) (i : Nat) : Value := .int .u8 (f i)
theorem by8_pos {f g : Nat → Nat} {m j : Nat} (h : m ≤ j) : by8 (fun q => if m ≤ q then f q else g q) j = .int .u8 (f j) := by
  show Value.int .u8 ((if m ≤ j then f j else g j : Nat) : Int) = _
  rw [if_pos h]
theorem by8_neg {f g : Nat → Nat} {m j : Nat} (h : ¬ m ≤ j) : by8 (fun q => if m ≤ q then f q else g q) j = .int .u8 (g j) := by
  show Value.int .u8 ((if m ≤ j then f j else g j : Nat) : Int) = _
  rw [if_neg h]
theorem load_non {w : World} {B T n : Nat} {v : Nat → Value} (o : Nat) (f : Nat → Nat) (h : RowAt w B T n v) (ho : o + 12 ≤ n) (hv : ∀ j, j < 12 → v (o + j) = by8 f j) : (Instr.loadAt 32 (.pointer (some ⟨B, o, none⟩))).run Tryd.prog w = .ok (.agg (rowOf 12 (by8 f))) w :=
  RowAt.load (P := Tryd.prog) h o 32 12 (by8 f) ho hv (by kernel_rfl) (by kernel_rfl)
theorem store_non {w : World} {B : Nat} {v : Nat → Value} (f : Nat → Nat) (hr : RowAt w B 32 12 v) :
    ∃ w', (Instr.storeAt 32 (.pointer (some ⟨B, 0, none⟩)) (.agg (rowOf 12 (by8 f)))).run Tryd.prog w = .ok () w' ∧ RowAt w' B 32 12 (by8 f) ∧ w.grownBy w' (some B) := by
  obtain ⟨h1, h2⟩ := RowAt.store (P := Tryd.prog) hr 0 32 12 (by8 f) (by omega) (by kernel_rfl) (fun j _ => rfl)
  refine ⟨_, h1, h2.congr (fun i hi => ?_), grown_setCells B (Or.inr rfl) _ 0 w (grown_refl w (some B))⟩
  rw [if_pos ⟨Nat.zero_le _, by omega⟩, Nat.sub_zero]
theorem nonce_any (n kid ctr : Nat) (x : Value) (s : Nat → Nat) (w : World) (hs : ∀ i, s i < 256) :
    Calls Tryd.prog 10 #[.agg (rowOf 15 (kv n kid x s)), .int .u64 ctr] w fun e w' => e = .returned (.agg (rowOf 12 (by8 (nonF s ctr)))) ∧ w.grownBy w' none := by
  have hX := RowAt.new w 34 15 (kv n kid x s) (rowOf 15 (kv n kid x s)) rfl
  have g1 := World.grownBy_alloc w (.cells (rowOf 15 (kv n kid x s)) 34) none
  obtain ⟨v, hv⟩ : ∃ v, v = kv n kid x s := ⟨_, rfl⟩
  rw [← hv] at hX g1 ⊢
  obtain ⟨w1, hw1⟩ : ∃ W, W = w.alloc (.cells (rowOf 15 v) 34) := ⟨_, rfl⟩
  have hz1 : w1.heap.size = w.heap.size + 1 := by rw [hw1]; simp
  have hY := RowAt.new w1 32 12 (by8 fun _ => 0) #[.int .u8 0, .int .u8 0, .int .u8 0, .int .u8 0, .int .u8 0, .int .u8 0, .int .u8 0, .int .u8 0, .int .u8 0, .int .u8 0, .int .u8 0, .int .u8 0] rfl
  have g2 := World.grownBy_alloc w1 (.cells #[.int .u8 0, .int .u8 0, .int .u8 0, .int .u8 0, .int .u8 0, .int .u8 0, .int .u8 0, .int .u8 0, .int .u8 0, .int .u8 0, .int .u8 0, .int .u8 0] 32) none
  rw [← hw1] at hX g1
  have HX := Lib.hid (hX.grown g2 (by simp))
  have HY := Lib.hid hY
  have HG := Lib.hid (grown_trans g1 g2)
  have HV := Lib.hid hv
  have HW1 := Lib.hid hw1
  have HZ1 := Lib.hid hz1
  clear hv hX hY g1 g2 hw1 hz1
  go_enter Tryd.func10, Tryd.ntmps10
  go_upto_region 1 with fail
  rw [← HW1.out, ← HZ1.out]
  obtain ⟨B0, hB0⟩ : ∃ B, B = w.heap.size := ⟨_, rfl⟩
  obtain ⟨B1, hB1⟩ : ∃ B, B = w1.heap.size := ⟨_, rfl⟩
  rw [← hB1] at HY
  rw [← hB0] at HX
  rw [← hB0, ← hB1]
  generalize w1.alloc (.cells #[.int .u8 0, .int .u8 0, .int .u8 0, .int .u8 0, .int .u8 0, .int .u8 0, .int .u8 0, .int .u8 0, .int .u8 0, .int .u8 0, .int .u8 0, .int .u8 0] 32) = w2 at *
  have ld := load_non 3 s HX.out (by omega) (fun j hj => by
    rw [HV.out]
    unfold kv by8
    rw [if_neg (by omega), if_neg (by omega), if_neg (by omega), show 3 + j - 3 = j by omega])
  have g3 := World.grownBy_alloc w2 (.cells #[.int .u8 0, .int .u8 0, .int .u8 0, .int .u8 0, .int .u8 0, .int .u8 0, .int .u8 0, .int .u8 0, .int .u8 0, .int .u8 0, .int .u8 0, .int .u8 0] 32) none
  have hN := RowAt.new w2 32 12 (by8 fun _ => 0) #[.int .u8 0, .int .u8 0, .int .u8 0, .int .u8 0, .int .u8 0, .int .u8 0, .int .u8 0, .int .u8 0, .int .u8 0, .int .u8 0, .int .u8 0, .int .u8 0] rfl
  obtain ⟨w3, st3, hN3, g4⟩ := store_non s hN
  have hY3 := (HY.out.grown g3 (by simp)).grown g4 (by
    have := HY.out.lt
    intro e
    cases e
    omega)
  have HG3 := Lib.hid (grown_trans HG.out (grown_into g3 g4 (Nat.le_refl _)))
  have HB : Hid (w.heap.size ≤ w2.heap.size) := Lib.hid HG.out.size
  have HB1 : Hid (w.heap.size ≤ B1) := Lib.hid (by rw [hB1, HZ1.out]; omega)
  have HNE : Hid (B1 ≠ w2.heap.size) := Lib.hid (by have := HY.out.lt; omega)
  have LD := Lib.hid ld
  have ST := Lib.hid st3
  have HN3 := Lib.hid hN3
  have HY3 := Lib.hid hY3
  clear ld g3 hN st3 hN3 g4 hY3 HX HY HG HV hB0 hB1 HZ1 HW1
  go_upto_region 2 with (first
    | (with_reducible refine wpList_here ?_; refine wpList_ld (p := .pointer (some ⟨B0, 3, none⟩)) 7 ?_ ?_ ?_ LD.out ?_; (. rfl); (. kernel_rfl); (. kernel_rfl))
    | (with_reducible refine wpList_here ?_; refine wpList_st (p := .pointer (some ⟨w2.heap.size, 0, none⟩)) (.tmp 5) (.tmp 8) rfl rfl ?_ ?_ ?_ ST.out ?_; (. kernel_rfl); (. kernel_rfl); (. kernel_rfl)))
  obtain ⟨B, hB⟩ : ∃ B, B = w2.heap.size := ⟨_, rfl⟩
  rw [← hB] at HN3 HB HNE ⊢
  clear LD ST hB
  go_wp2_with fail
  go_loopw [6, 9] (fun _ u9 wr => ∃ i : Nat, i ≤ 8 ∧ u9 = .int .i64 i ∧ w.grownBy wr none ∧ RowAt wr B1 32 12 (by8 fun _ => 0) ∧ RowAt wr B 32 12 (by8 fun j => if 12 - i ≤ j then nonF s ctr j else s j)) (fun _ u9 _ => 8 - (intOf u9).toNat)
  case atStart => exact ⟨0, by omega, rfl, HG3.out, HY3.out, HN3.out.congr (fun j hj => by rw [by8_neg (by omega)]; rfl)⟩
  case round =>
    clear HG3 HY3 HN3
    obtain ⟨i, hi, rfl, hg, hY, hN⟩ := hrel
    by_cases hlt : i < 8
    · have i1 : (i : Int) < 8 := by omega
      have hgd := grown_drew hg
      have hYd := hY.grown (grown_drew (grown_refl wr none)) (by simp)
      have hNd := hN.grown (grown_drew (grown_refl wr none)) (by simp)
      obtain ⟨j, hj⟩ : ∃ j, j = 11 - i := ⟨_, rfl⟩
      have cj : wr.drew.cell? ⟨B, j, none⟩ = some (.int .u8 (s j)) := by
        rw [hNd.cell j (by omega), by8_neg (by omega)]
      have fj : wr.drew.frozen? ⟨B, j, none⟩ = false := hNd.frozen j
      have hP := hNd.put j (.int .u8 (nonF s ctr j)) (by omega)
      have hP2 := hP.congr (v' := by8 fun q => if 12 - (i + 1) ≤ q then nonF s ctr q else s q) (fun q hq => by
        by_cases e : q = j
        · subst e; rw [if_pos rfl, by8_pos (by omega)]
        · rw [if_neg e]
          by_cases e2 : 12 - i ≤ q
          · rw [by8_pos e2, by8_pos (by omega)]
          · rw [by8_neg e2, by8_neg (by omega)])
      have gP := grown_setCell_new hgd ⟨B, j, none⟩ (.int .u8 (nonF s ctr j)) (Or.inl HB.out)
      have hYP := hYd.grown (grown_setCell_new (grown_refl wr.drew (some B)) ⟨B, j, none⟩ (.int .u8 (nonF s ctr j)) (Or.inr rfl)) (fun e => HNE.out (by cases e; rfl))
      have hsh := shr_byteM ctr i 8 (7 - i) (by omega)
      have hxo : bits .xor .u8 (s j : Int) ((nbF ctr 8 (7 - i) : Nat) : Int) = ((nonF s ctr j : Nat) : Int) := by
        rw [bits_xor_u8 _ _ (hs j) (nbF_lt _ _ _)]
        unfold nonF
        rw [if_neg (by omega), show j - 4 = 7 - i by omega]
      obtain ⟨b, hb⟩ : ∃ b, b = nbF ctr 8 (7 - i) := ⟨_, rfl⟩
      obtain ⟨z, hz⟩ : ∃ z, z = nonF s ctr j := ⟨_, rfl⟩
      obtain ⟨sj, hsj⟩ : ∃ z, z = s j := ⟨_, rfl⟩
      rw [← hb] at hsh hxo
      rw [← hz] at hxo hP2 gP hYP
      rw [← hsj] at hxo cj
      have ej : IntKind.i64.wrap ((11 : Int) - i) = j := by rw [IntKind.wrap_i64]; omega
      have e8 : IntKind.i64.wrap (8 * (i : Int)) = 8 * i := by rw [IntKind.wrap_i64]; omega
      have i2 : (j : Int) < 12 := by omega
      have i3 : (i : Int) ≤ 7 := by omega
      have HP := Lib.hid hP2
      have GP := Lib.hid gP
      have HYP := Lib.hid hYP
      clear hP hP2 gP hYP hNd hYd hN hY hg hgd hb hz hsj hj hi
      go_wp2_with fail
      refine wp_region_still_tail 11 (by kernel_rfl) (by kernel_rfl) ?_
      change wpStill _ _ wr.drew (fun a' => wpList _ _ _ _ a' wr.drew) _ _
      generalize wr.drew = w5 at *
      simp only [List.take_succ_cons, List.take_zero, List.drop_succ_cons, List.drop_zero]
      repeat still_step
      refine wpStill_nil ?_
      go_wp2_with fail
      first
        | exact ⟨⟨i + 1, by omega, by go_num, GP.out, HYP.out, HP.out⟩, by simp [intOf]; omega⟩
        | (go_roundw
           case rel => exact ⟨i + 1, by omega, by go_num, GP.out, HYP.out, HP.out⟩
           case measure => simp [intOf]; omega)
    · obtain rfl : i = 8 := by omega
      have i1 : ¬ ((8 : Int) < 8) := by omega
      have hN8 := hN.congr (v' := by8 (nonF s ctr)) (fun j hj => by
        by_cases e : 12 - 8 ≤ j
        · rw [by8_pos e]; rfl
        · rw [by8_neg e]
          unfold by8 nonF
          rw [if_pos (by omega)])
      have ld := load_non 0 (nonF s ctr) hN8 (by omega) (fun j hj => by rw [Nat.zero_add])
      obtain ⟨w6, st6, hY6, g6⟩ := store_non (nonF s ctr) hY
      have LD := Lib.hid ld
      have ST := Lib.hid st6
      have HY6 := Lib.hid hY6
      have G6 := Lib.hid (grown_into hg g6 HB1.out)
      clear ld st6 hY6 g6 hN8 hN hY hg hi hlt
      go_wp2_with (first
        | (with_reducible refine wpList_here ?_; refine wpList_ld (p := .pointer (some ⟨B, 0, none⟩)) 5 ?_ ?_ ?_ LD.out ?_; (. rfl); (. kernel_rfl); (. kernel_rfl))
        | (with_reducible refine wpList_here ?_; refine wpList_st (p := .pointer (some ⟨B1, 0, none⟩)) (.tmp 4) (.tmp 24) rfl rfl ?_ ?_ ?_ ST.out ?_; (. kernel_rfl); (. kernel_rfl); (. kernel_rfl)))
      exact bodyPost_ret (res_rowAt rfl rfl HY6.out (by kernel_rfl) (by kernel_rfl)) rfl ⟨rfl, G6.out⟩
end Go.Proofs.YtobaplndoaeoiaaDoor
namespace Go.Proofs.YtobaplndoaeoiaaDoor
open Go.RowKit

set_option maxRecDepth 100000
set_option maxHeartbeats 4000000

theorem known13 (w : World) : Calls Tryd.prog 5 #[] w fun e w' => e = .returned (.bool true) ∧ w.grownBy w' none := by
  have O1 := Lib.hid (fun W => (show Calls Tryd.prog 6 #[.int .u16 5] W fun e w' => e = .returned (.tuple #[.agg (rowOf 5 (iv 5)), .int .i64 0]) ∧ W.grownBy w' none from of_is 5 (Or.inr (Or.inr (Or.inr (Or.inr rfl)))) W))
  have O2 := Lib.hid (fun W => (show Calls Tryd.prog 6 #[.int .u16 0] W fun e w' => e = .returned (.tuple #[.agg (rowOf 5 ivz), .int .i64 130]) ∧ W.grownBy w' none from of_no 0 (by decide) (by unfold IsSuite; omega) W))
  have O3 := Lib.hid (fun W => (show Calls Tryd.prog 6 #[.int .u16 6] W fun e w' => e = .returned (.tuple #[.agg (rowOf 5 ivz), .int .i64 130]) ∧ W.grownBy w' none from of_no 6 (by decide) (by unfold IsSuite; omega) W))
  have HN := Lib.hid (fun W => (show Calls Tryd.prog 10 #[.agg #[.int .u16 0, .int .u64 0, .slice none 0 0, .int .u8 0, .int .u8 0, .int .u8 0, .int .u8 0, .int .u8 0, .int .u8 0, .int .u8 0, .int .u8 0, .int .u8 0, .int .u8 0, .int .u8 0, .int .u8 0], .int .u64 1] W fun e w' => e = .returned (.agg (rowOf 12 (by8 (nonF (fun _ => 0) 1)))) ∧ W.grownBy w' none from nonce_any 0 0 1 (.slice none 0 0) (fun _ => 0) W (fun _ => by decide)))
  go_enter Tryd.func5, Tryd.ntmps5
  go_wp2_with fail
  go_at_call 6
  refine (O1.out w).mono ?_
  rintro e w1 ⟨rfl, g1⟩
  have gb := World.grownBy_alloc w1 (.cells #[.int .u8 0, .int .i64 0, .int .i64 0, .int .i64 0, .int .i64 0] 28) none
  have hR2 := RowAt.new w1 28 5 ivz #[.int .u8 0, .int .i64 0, .int .i64 0, .int .i64 0, .int .i64 0] rfl
  obtain ⟨V1, st3, hR3, g4⟩ := store_info (hN 5) (kN 5) (eN 5) (tN 5) (sN 5) hR2
  have st4 : (Instr.storeAt 28 (.pointer (some ⟨w1.heap.size, 0, none⟩)) (.agg (rowOf 5 (iv 5)))).run Tryd.prog (w1.alloc (.cells #[.int .u8 0, .int .i64 0, .int .i64 0, .int .i64 0, .int .i64 0] 28)) = .ok () V1 := st3
  have hR4 : RowAt V1 w1.heap.size 28 5 (iv 5) := hR3
  have g24 : w1.grownBy V1 none := grown_into gb g4 (Nat.le_refl _)
  have gg := grown_trans g1 g24
  have G1 := Lib.hid (gg)
  have ST4 := Lib.hid st4
  clear st3 hR3 hR2 gb g4 st4 g24 gg g1 O1
  go_upto_region 2 with (with_reducible refine wpList_here ?_; refine wpList_st (p := .pointer (some ⟨w1.heap.size, 0, none⟩)) (.tmp 1) (.tmp 9) rfl rfl ?_ ?_ ?_ ST4.out ?_; (. kernel_rfl); (. kernel_rfl); (. kernel_rfl))
  obtain ⟨B1, hB⟩ : ∃ B, B = w1.heap.size := ⟨_, rfl⟩
  rw [← hB] at hR4 ⊢
  have R1 := Lib.hid hR4
  clear ST4 hB hR4
  go_wp2_with fail
  go_at_call 6
  refine (O2.out V1).mono ?_
  rintro e w2 ⟨rfl, g2⟩
  have gb := World.grownBy_alloc w2 (.cells #[.int .u8 0, .int .i64 0, .int .i64 0, .int .i64 0, .int .i64 0] 28) none
  have hR2 := RowAt.new w2 28 5 ivz #[.int .u8 0, .int .i64 0, .int .i64 0, .int .i64 0, .int .i64 0] rfl
  obtain ⟨V2, st3, hR3, g4⟩ := store_info 0 0 0 0 0 hR2
  have st4 : (Instr.storeAt 28 (.pointer (some ⟨w2.heap.size, 0, none⟩)) (.agg (rowOf 5 ivz))).run Tryd.prog (w2.alloc (.cells #[.int .u8 0, .int .i64 0, .int .i64 0, .int .i64 0, .int .i64 0] 28)) = .ok () V2 := st3
  have hR4 : RowAt V2 w2.heap.size 28 5 ivz := hR3
  have g24 : w2.grownBy V2 none := grown_into gb g4 (Nat.le_refl _)
  have gg := grown_trans g2 g24
  have R1 := Lib.hid (R1.out.grown gg (by simp))
  have G2 := Lib.hid (grown_trans G1.out gg)
  have ST4 := Lib.hid st4
  clear st3 hR3 hR2 gb g4 st4 g24 gg g2 O2
  go_upto_region 3 with (with_reducible refine wpList_here ?_; refine wpList_st (p := .pointer (some ⟨w2.heap.size, 0, none⟩)) (.tmp 3) (.tmp 13) rfl rfl ?_ ?_ ?_ ST4.out ?_; (. kernel_rfl); (. kernel_rfl); (. kernel_rfl))
  obtain ⟨B2, hB⟩ : ∃ B, B = w2.heap.size := ⟨_, rfl⟩
  rw [← hB] at hR4 ⊢
  have R2 := Lib.hid hR4
  clear ST4 hB hR4
  go_wp2_with fail
  go_at_call 6
  refine (O3.out V2).mono ?_
  rintro e w3 ⟨rfl, g3⟩
  have gb := World.grownBy_alloc w3 (.cells #[.int .u8 0, .int .i64 0, .int .i64 0, .int .i64 0, .int .i64 0] 28) none
  have hR2 := RowAt.new w3 28 5 ivz #[.int .u8 0, .int .i64 0, .int .i64 0, .int .i64 0, .int .i64 0] rfl
  obtain ⟨V3, st3, hR3, g4⟩ := store_info 0 0 0 0 0 hR2
  have st4 : (Instr.storeAt 28 (.pointer (some ⟨w3.heap.size, 0, none⟩)) (.agg (rowOf 5 ivz))).run Tryd.prog (w3.alloc (.cells #[.int .u8 0, .int .i64 0, .int .i64 0, .int .i64 0, .int .i64 0] 28)) = .ok () V3 := st3
  have hR4 : RowAt V3 w3.heap.size 28 5 ivz := hR3
  have g24 : w3.grownBy V3 none := grown_into gb g4 (Nat.le_refl _)
  have gg := grown_trans g3 g24
  have R1 := Lib.hid (R1.out.grown gg (by simp))
  have R2 := Lib.hid (R2.out.grown gg (by simp))
  have G3 := Lib.hid (grown_trans G2.out gg)
  have ST4 := Lib.hid st4
  clear st3 hR3 hR2 gb g4 st4 g24 gg g3 O3
  go_upto_region 4 with (with_reducible refine wpList_here ?_; refine wpList_st (p := .pointer (some ⟨w3.heap.size, 0, none⟩)) (.tmp 5) (.tmp 17) rfl rfl ?_ ?_ ?_ ST4.out ?_; (. kernel_rfl); (. kernel_rfl); (. kernel_rfl))
  obtain ⟨B3, hB⟩ : ∃ B, B = w3.heap.size := ⟨_, rfl⟩
  rw [← hB] at hR4 ⊢
  have R3 := Lib.hid hR4
  clear ST4 hB hR4
  have L1 := Lib.hid (load_info R1.out)
  have L2 := Lib.hid (load_info R2.out)
  clear R1 R2 R3
  go_wp2_with (first
    | (with_reducible refine wpList_here ?_; refine wpList_ld (p := .pointer (some ⟨B1, 0, none⟩)) 1 ?_ ?_ ?_ L1.out ?_; (. rfl); (. kernel_rfl); (. kernel_rfl))
    | (with_reducible refine wpList_here ?_; refine wpList_ld (p := .pointer (some ⟨B2, 0, none⟩)) 3 ?_ ?_ ?_ L2.out ?_; (. rfl); (. kernel_rfl); (. kernel_rfl))
    | (with_reducible refine wpList_here ?_; refine wpList_eq (v := .bool true) 19 20 rfl ?_ rfl rfl ?_ ?_ ?_; (. kernel_rfl); (. kernel_rfl); (. kernel_rfl))
    | (with_reducible refine wpList_here ?_; refine wpList_eq (v := .bool true) 27 28 rfl ?_ rfl rfl ?_ ?_ ?_; (. kernel_rfl); (. kernel_rfl); (. kernel_rfl))
    | (with_reducible refine wpList_here ?_; refine wpList_eq (v := .bool true) 41 42 rfl ?_ rfl rfl ?_ ?_ ?_; (. kernel_rfl); (. kernel_rfl); (. kernel_rfl))
    | (go_at_call 10; refine (HN.out _).mono ?_; rintro e w5 ⟨rfl, g5⟩))
  go_ret
  exact ⟨rfl, grown_trans G3.out g5⟩
end Go.Proofs.YtobaplndoaeoiaaDoor
namespace Go.Proofs.YtobaplndoaeoiaaDoor
open Go.RowKit

set_option maxRecDepth 100000
set_option maxHeartbeats 4000000

theorem wrap_nat64 (x : Nat) (h : x < 18446744073709551616) : IntKind.u64.wrap (x : Int) = (x : Int) := by
  rw [IntKind.wrap_u64]
  omega
theorem nbF_back (kid k : Nat) (hk : k < 8) : nbF kid 8 (7 - k) = kid / 256 ^ k % 256 := by
  unfold nbF
  rw [show 8 - 1 - (7 - k) = k by omega]
theorem refBeh_any (m kid n : Nat) (t : Nat → Nat) (w : World) (ht : ∀ i, t i < 256) (hm : m ≤ 100) (hk : kid < 18446744073709551616) (hn : n < 65536) :
    Calls Tryd.prog 20 #[.string (strOf m t), .int .u64 kid, .int .u16 n] w (GaveM w (m + 10) (labF m t kid n)) := by
  obtain ⟨c0, hmk, hF0⟩ := make32 8 (by decide) w
  have hmk' : (Instr.makeSlice 23 (.int .i64 8) (.int .i64 8)).run Tryd.prog w = .ok (.slice (some ⟨w.heap.size, 0, none⟩) 8 8) (w.alloc (.cells c0 5)) := hmk
  have g0 := World.grownBy_alloc w (.cells c0 5) none
  obtain ⟨B, hB⟩ : ∃ B, B = w.heap.size := ⟨_, rfl⟩
  obtain ⟨w1, hw1⟩ : ∃ W, W = w.alloc (.cells c0 5) := ⟨_, rfl⟩
  rw [← hw1] at hmk' hF0 g0
  rw [← hB] at hmk' hF0
  obtain ⟨s, hs⟩ : ∃ s, s = strOf m t := ⟨_, rfl⟩
  rw [← hs]
  have HF := Lib.hid hF0
  have HG := Lib.hid g0
  have HS := Lib.hid hs
  have HB := Lib.hid hB
  have HK := Lib.hid hk
  have HN := Lib.hid hn
  have HM := Lib.hid hm
  clear hF0 g0 hs hB hk hn hm hw1 hmk
  go_enter Tryd.func20, Tryd.ntmps20
  go_wp2_with fail
  clear hmk'
  go_loopw [1, 8] (fun u1 u8 wr => ∃ k : Nat, k ≤ 8 ∧ u1 = .int .u64 (kid / 256 ^ k : Nat) ∧ u8 = .int .i64 ((8 - k : Nat) - 1 : Int) ∧ w.grownBy wr none ∧ Fill wr B 8 (fun i => if 8 - k ≤ i then nbF kid 8 i else 0)) (fun _ u8 _ => (intOf u8 + 1).toNat)
  case atStart => exact ⟨0, by omega, by rw [Nat.pow_zero, Nat.div_one], rfl, HG.out, ⟨fun i hi => by rw [if_neg (by omega)]; exact HF.out.cell i hi, HF.out.free⟩⟩
  case round =>
    clear HF HG
    obtain ⟨k, hk8, rfl, rfl, hg, hF⟩ := hrel
    by_cases hlt : k < 8
    · obtain ⟨r, hr⟩ : ∃ r, r = 7 - k := ⟨_, rfl⟩
      have e0 : ((8 - k : Nat) - 1 : Int) = (r : Int) := by omega
      rw [e0]
      have i1 : (r : Int) ≥ 0 := by omega
      have i2 : (r : Int) < 8 := by omega
      obtain ⟨x, hx⟩ : ∃ x, x = kid / 256 ^ k := ⟨_, rfl⟩
      rw [← hx]
      have hx64 : x < 18446744073709551616 := by rw [hx]; exact Nat.lt_of_le_of_lt (Nat.div_le_self _ _) HK.out
      obtain ⟨v, hv⟩ : ∃ v, v = x % 256 := ⟨_, rfl⟩
      obtain ⟨x1, hx1⟩ : ∃ v, v = x / 256 := ⟨_, rfl⟩
      have e1 : (x : Int) % 256 = (v : Int) := by omega
      have e2 : (x : Int) / 256 = (x1 : Int) := by omega
      have i3 : (v : Int) < 256 := by omega
      have hx2 : x1 = kid / 256 ^ (k + 1) := by rw [hx1, hx, Nat.div_div_eq_div_mul, ← Nat.pow_succ]
      have hw1 := wrap_nat64 x1 (by omega)
      have hvb : v = nbF kid 8 r := by rw [hr, nbF_back kid k hlt, hv, hx]
      have cr := hF.cell r (by omega)
      rw [if_neg (by omega)] at cr
      have fr := hF.free r
      have hF2 := hF.set r v (by omega)
      have hF3 : Fill (wr.setCell ⟨B, r, none⟩ (.int .u8 (v : Nat))) B 8 (fun i => if 8 - (k + 1) ≤ i then nbF kid 8 i else 0) := ⟨fun i hi => by
        rw [hF2.cell i hi]
        by_cases e : i = r
        · subst e; rw [upd_same, if_pos (by omega), hvb]
        · rw [upd_other _ _ _ _ e]
          by_cases e2 : 8 - k ≤ i
          · rw [if_pos e2, if_pos (by omega)]
          · rw [if_neg e2, if_neg (by omega)], hF2.free⟩
      have g3 := grown_setCell_new hg ⟨B, r, none⟩ (.int .u8 (v : Nat)) (Or.inl (by rw [HB.out]; exact Nat.le_refl _))
      have HF := Lib.hid hF3
      have HG := Lib.hid g3
      have HX2 := Lib.hid hx2
      have HR := Lib.hid hr
      have HLT := Lib.hid hlt
      have HW := Lib.hid hw1
      clear hF hF2 hF3 hg g3 hx hx1 hx2 hv hvb hr hlt hk8 e0 hx64 hw1
      go_wp2_with fail
      go_roundw
      case rel =>
        have := HR.out
        have := HLT.out
        exact ⟨k + 1, by omega, by rw [← HX2.out]; first | done | rw [HW.out], by rw [show ((8 - (k + 1) : Nat) - 1 : Int) = (r : Int) - 1 by omega], HG.out, HF.out⟩
      case measure => simp [intOf]
    · obtain rfl : k = 8 := by omega
      have i1 : ¬ (((8 - 8 : Nat) - 1 : Int) ≥ 0) := by omega
      have e1 : (n : Int) / 256 % 256 = ((n / 256 % 256 : Nat) : Int) := by omega
      have e3 : IntKind.u16.wrap ((n : Int) / 256) % 256 = ((n / 256 % 256 : Nat) : Int) := by
        have := HN.out
        rw [IntKind.wrap_u16]
        omega
      have e2 : (n : Int) % 256 = ((n % 256 : Nat) : Int) := by omega
      obtain ⟨cp, w2, z, g2, hO2⟩ := bytes_ofM wr m t ht
      rw [← HS.out] at z
      have hFk := hF.grown (by decide) g2 (by simp)
      have hRe : Rd w2 w2.heap.size (some ⟨B, 0, none⟩) 8 (nbF kid 8) := ⟨fun _ => ⟨B, 0, rfl, hFk.lt (by decide), fun i hi => by rw [Nat.zero_add, hFk.cell i hi, if_pos (by omega)]⟩⟩
      obtain ⟨v3, w3, hap3, ⟨ex3⟩⟩ := app_runM 8 23 hO2 hRe (by have := HM.out; omega)
      obtain ⟨g', cap', rfl, hO3, g3, hgg3⟩ := ex3
      have hO3 := hO3.congr (f' := labF m t kid n) (fun i hi => labF_cat m kid n t i hi)
      have hwr := hg.size
      have hg2 := grown_trans hg g2
      have hg3 := grown_new hg2 g3 hwr
      have hgw : w.heap.size ≤ g' := by
        have := hg2.size
        omega
      obtain ⟨g4, cap4, w4, hap4, hO4, hg4, hgg4⟩ := app_twoM (v := n / 256 % 256) (u := n % 256) w3.heap.size rfl hg3 hgw hO3 (by have := HM.out; omega)
      have hO5 := hO4.congr (f' := labF m t kid n) (fun i hi => labF_end m kid n t i hi)
      obtain ⟨v, hv⟩ : ∃ v, v = n / 256 % 256 := ⟨_, rfl⟩
      obtain ⟨u, hu⟩ : ∃ u, u = n % 256 := ⟨_, rfl⟩
      rw [← hv, ← hu] at hap4
      rw [← hv] at e1 e3
      rw [← hu] at e2
      have HAP3 := Lib.hid hap3
      have HAP4 := Lib.hid hap4
      have HO5 := Lib.hid hO5
      have HG4 := Lib.hid hg4
      have HGG4 := Lib.hid hgg4
      have i5 : (u : Int) < 256 := by omega
      have i6 : (v : Int) < 256 := by omega
      clear hap3 hap4 hO5 hO4 hO3 hO2 hg4 hgg4 hg3 hgw hg2 hwr hg hF hFk hRe g2 g3 hgg3 hv hu hlt hk8
      go_wp2_with (first
        | (at_builtin; refine wpList_append_run rfl (.tmp 24) (.tmp 25) 23 23 rfl (.slice (some ⟨wr.heap.size, 0, none⟩) m cp) (.slice (some ⟨B, 0, none⟩) 8 8) _ _ rfl rfl HAP3.out ?_)
        | (at_builtin; refine wpList_append_run rfl (.tmp 27) (.tmp 34) 23 23 rfl (.slice (some ⟨g', 0, none⟩) (m + 8 : Nat) cap') (.slice (some ⟨w3.heap.size, 0, none⟩) 2 2) _ _ rfl rfl HAP4.out ?_))
      go_ret
      exact ⟨⟨g4, cap4, rfl, HO5.out.le, HO5.out.rd, HGG4.out⟩, HG4.out⟩
end Go.Proofs.YtobaplndoaeoiaaDoor
namespace Go.Proofs.YtobaplndoaeoiaaDoor
open Go.RowKit

set_option maxRecDepth 100000
set_option maxHeartbeats 4000000

/-- A suite's row. -/
def rowN (n i : Nat) : Nat := if i = 0 then hN n else if i = 1 then kN n else if i = 2 then eN n else if i = 3 then tN n else sN n
structure RowB (w : World) (n : Nat) (v : Value) (w' : World) : Prop where
  ex : ∃ B, v = .slice (some ⟨B, 0, none⟩) 5 5 ∧ RowAt w' B 3 5 (fun i => .int .i64 (rowN n i)) ∧ w.heap.size ≤ B
  gr : w.grownBy w' none
theorem refRow_no (n : Nat) (hs : ¬ IsSuite n) (w : World) : Calls Tryd.prog 9 #[.int .u16 n] w fun e w' => e = .returned (.slice none 0 0) ∧ w.grownBy w' none := by
  obtain ⟨h1, h2, h3, h4, h5⟩ := not_suite hs
  have k1 : ((n : Int) == 1) = false := by rw [beq_eq_false_iff_ne]; omega
  have k2 : ((n : Int) == 2) = false := by rw [beq_eq_false_iff_ne]; omega
  have k3 : ((n : Int) == 3) = false := by rw [beq_eq_false_iff_ne]; omega
  have k4 : ((n : Int) == 4) = false := by rw [beq_eq_false_iff_ne]; omega
  have k5 : ((n : Int) == 5) = false := by rw [beq_eq_false_iff_ne]; omega
  clear h1 h2 h3 h4 h5 hs
  go_enter Tryd.func9, Tryd.ntmps9
  go_wp2_with fail
  go_ret
  exact ⟨rfl, grown_refl w none⟩
theorem refRow_is (n : Nat) (hs : IsSuite n) (w : World) : Calls Tryd.prog 9 #[.int .u16 n] w fun e w' => ∃ v, e = .returned v ∧ RowB w n v w' := by
  rcases hs with rfl | rfl | rfl | rfl | rfl
  all_goals
    go_enter Tryd.func9, Tryd.ntmps9
    go_wp2_with fail
    go_ret
    exact ⟨_, rfl, ⟨w.heap.size, rfl, RowAt.new w 3 5 _ _ rfl, Nat.le_refl _⟩, World.grownBy_alloc w _ none⟩
theorem hN_mod (n : Nat) : (hN n : Int) % 256 = hN n := by
  unfold hN
  split <;> rfl
theorem GotB.up {w w1 w' : World} {n : Nat} {f : Nat → Nat} {v : Value} (h : GotB w1 n f v w') (g : w.grownBy w1 none) : GotB w n f v w' := by
  obtain ⟨⟨a, c, h1, h2, h3, h4⟩, h5⟩ := h
  exact ⟨⟨a, c, h1, h2, h3, fun b hb => Nat.le_trans g.size (h4 b hb)⟩, grown_trans g h5⟩
theorem refExp_any (n L c m ct N : Nat) (hs : IsSuite n) (ba ta : Option Addr) (base t : Nat → Nat) (w : World) (hb : Rd w w.heap.size ba L base) (ht : Rd w w.heap.size ta m t) (hbl : ∀ i, base i < 256) (htl : ∀ i, t i < 256) (_ : L ≤ c) (hL : L ≤ 2000) (hct : m ≤ ct) (hm : m ≤ 2000) (h1 : 1 ≤ N) (h2 : N ≤ 64) :
    Calls Tryd.prog 19 #[.int .u16 n, .slice ba L c, .slice ta m ct, .int .i64 N] w fun e w' => ∃ v, e = .returned v ∧ GotB w N (expF n (secF n L base) m t) v w' := by
  have HB := Lib.hid hb
  have HT := Lib.hid ht
  have HBL := Lib.hid hbl
  have HTL := Lib.hid htl
  have HI := Lib.hid (And.intro hL (And.intro hct (And.intro hm (And.intro h1 h2))))
  have hmod := hN_mod n
  clear hb ht hbl htl hL hct hm h1 h2
  go_enter Tryd.func19, Tryd.ntmps19
  go_wp2_with fail
  go_at_call 9
  refine (refRow_is n hs w).mono ?_
  rintro e w1 ⟨v1, rfl, ⟨B, rfl, hR, hB⟩, g1⟩
  have c0 : w1.cell? ⟨B, 0, none⟩ = some (.int .i64 (hN n : Nat)) := hR.cell 0 (by decide)
  have HM := Lib.hid (refMac_any n L c ba base w1 (HB.out.up (Nat.le_refl _) g1) HBL.out HI.out.1)
  have G1 := Lib.hid g1
  clear hR hB g1
  go_wp2_with fail
  go_at_call 27
  with_reducible refine (HM.out).mono ?_
  rintro e w2 ⟨v2, rfl, hv2⟩
  have g2 := grown_trans G1.out hv2.gr
  obtain ⟨⟨a2, c2, rfl, hc2, hR2, _⟩, _⟩ := hv2
  have HE := Lib.hid (refExpand_any n N m ct c2 a2 ta (secF n L base) t w2 hR2 (HT.out.up (Nat.le_refl _) g2) (secF_lt n L base) HTL.out HI.out.2.2.1 HI.out.2.2.2.1 HI.out.2.2.2.2)
  have G2 := Lib.hid g2
  clear hR2 hc2 g2 c0 hmod HM
  go_wp2_with fail
  go_at_call 26
  with_reducible refine (HE.out).mono ?_
  rintro e w3 ⟨v3, rfl, hv3⟩
  go_wp2_with fail
  go_ret
  exact ⟨v3, rfl, hv3.up G2.out⟩
theorem refSalt_any (n L c kid : Nat) (hs : IsSuite n) (ba : Option Addr) (base : Nat → Nat) (w : World) (hb : Rd w w.heap.size ba L base) (hbl : ∀ i, base i < 256) (hc : L ≤ c) (hL : L ≤ 2000) (hk : kid < 18446744073709551616) :
    Calls Tryd.prog 11 #[.int .u16 n, .slice ba L c, .int .u64 kid] w fun e w' => ∃ v, e = .returned v ∧ GotB w 12 (saltF n L base kid) v w' := by
  have hn : n < 65536 := by unfold IsSuite at hs; omega
  have hS : Calls Tryd.prog 20 #[.string ⟨#[83, 70, 114, 97, 109, 101, 32, 49, 46, 48, 32, 83, 101, 99, 114, 101, 116, 32, 115, 97, 108, 116, 32]⟩, .int .u64 kid, .int .u16 n] w (GaveM w 33 (labF 23 (txtF saltTL) kid n)) := by rw [salt_str]; exact refBeh_any 23 kid n (txtF saltTL) w saltT_lt (by decide) hk hn
  have HS := Lib.hid hS
  have HB := Lib.hid hb
  have HBL := Lib.hid hbl
  have HI := Lib.hid (And.intro hc hL)
  clear hS hb hbl hc hL hk hn
  go_enter Tryd.func11, Tryd.ntmps11
  go_wp2_with fail
  go_at_call 20
  with_reducible refine (HS.out).mono ?_
  rintro e w1 ⟨⟨g, cap, rfl, hcap, hR, _⟩, g1⟩
  have hE : Calls Tryd.prog 19 #[.int .u16 n, .slice ba L c, .slice (some ⟨g, 0, none⟩) 33 cap, .int .i64 12] w1 fun e w' => ∃ v, e = .returned v ∧ GotB w1 12 (saltF n L base kid) v w' := refExp_any n L c 33 cap 12 hs ba (some ⟨g, 0, none⟩) base (labF 23 (txtF saltTL) kid n) w1 (HB.out.up (Nat.le_refl _) g1) hR HBL.out (labF_lt 23 (txtF saltTL) kid n saltT_lt) HI.out.1 HI.out.2 hcap (by decide) (by decide) (by decide)
  have HE := Lib.hid hE
  have G1 := Lib.hid g1
  clear hE hR hcap g1 HS
  go_wp2_with fail
  go_at_call 19
  with_reducible refine (HE.out).mono ?_
  rintro e w3 ⟨v3, rfl, hv3⟩
  go_wp2_with fail
  go_ret
  exact ⟨v3, rfl, hv3.up G1.out⟩
theorem refKey_any (n L c kid : Nat) (hs : IsSuite n) (ba : Option Addr) (base : Nat → Nat) (w : World) (hb : Rd w w.heap.size ba L base) (hbl : ∀ i, base i < 256) (hc : L ≤ c) (hL : L ≤ 2000) (hk : kid < 18446744073709551616) :
    Calls Tryd.prog 12 #[.int .u16 n, .slice ba L c, .int .u64 kid] w fun e w' => ∃ v, e = .returned v ∧ GotB w (kN n) (keyF n L base kid) v w' := by
  have hn : n < 65536 := by unfold IsSuite at hs; omega
  have hS : Calls Tryd.prog 20 #[.string ⟨#[83, 70, 114, 97, 109, 101, 32, 49, 46, 48, 32, 83, 101, 99, 114, 101, 116, 32, 107, 101, 121, 32]⟩, .int .u64 kid, .int .u16 n] w (GaveM w 32 (labF 22 (txtF keyTL) kid n)) := by rw [key_str]; exact refBeh_any 22 kid n (txtF keyTL) w keyT_lt (by decide) hk hn
  have HS := Lib.hid hS
  have HB := Lib.hid hb
  have HBL := Lib.hid hbl
  have HI := Lib.hid (And.intro hc hL)
  have HSN := Lib.hid (suite_nums n hs)
  clear hS hb hbl hc hL hk hn
  go_enter Tryd.func12, Tryd.ntmps12
  go_wp2_with fail
  go_at_call 20
  with_reducible refine (HS.out).mono ?_
  rintro e w1 ⟨⟨g, cap, rfl, hcap, hR, _⟩, g1⟩
  have HR := Lib.hid hR
  have G1 := Lib.hid g1
  have HC := Lib.hid hcap
  clear hR hcap g1 HS
  go_wp2_with fail
  go_at_call 9
  refine (refRow_is n hs w1).mono ?_
  rintro e w2 ⟨v2, rfl, ⟨B, rfl, hR, hB⟩, g2⟩
  have c0 : w2.cell? ⟨B, 1, none⟩ = some (.int .i64 (kN n : Nat)) := hR.cell 1 (by decide)
  have g02 := grown_trans G1.out g2
  have hE := refExp_any n L c 32 cap (kN n) hs ba (some ⟨g, 0, none⟩) base (labF 22 (txtF keyTL) kid n) w2 (HB.out.up (Nat.le_refl _) g02) (HR.out.up (Nat.le_refl _) g2) HBL.out (labF_lt 22 (txtF keyTL) kid n keyT_lt) HI.out.1 HI.out.2 HC.out (by decide) HSN.out.1 HSN.out.2.1
  have HE := Lib.hid hE
  have G2 := Lib.hid g02
  clear hE hR hB g02 g2 G1 HR HC
  go_wp2_with fail
  go_at_call 19
  with_reducible refine (HE.out).mono ?_
  rintro e w3 ⟨v3, rfl, hv3⟩
  clear c0
  go_wp2_with fail
  go_ret
  exact ⟨v3, rfl, hv3.up G2.out⟩
theorem refBehind_any (n L c : Nat) (hs : IsSuite n) (ba : Option Addr) (base : Nat → Nat) (w : World) (hb : Rd w w.heap.size ba L base) (hbl : ∀ i, base i < 256) (hc : L ≤ c) (hL : L ≤ 2000) :
    Calls Tryd.prog 13 #[.int .u16 n, .slice ba L c] w fun e w' => ∃ v, e = .returned v ∧ GotB w (sN n) (behF n L base) v w' := by
  obtain ⟨cb, gc, rc⟩ := const_bytes w 18 (txtF ratTL) #[.int .u8 83, .int .u8 70, .int .u8 114, .int .u8 97, .int .u8 109, .int .u8 101, .int .u8 32, .int .u8 49, .int .u8 46, .int .u8 48, .int .u8 32, .int .u8 82, .int .u8 97, .int .u8 116, .int .u8 99, .int .u8 104, .int .u8 101, .int .u8 116] rat_cells
  have cbb := cb w.heap.size rfl
  obtain ⟨w1, hw1⟩ : ∃ W, W = w.alloc (.cells #[.int .u8 83, .int .u8 70, .int .u8 114, .int .u8 97, .int .u8 109, .int .u8 101, .int .u8 32, .int .u8 49, .int .u8 46, .int .u8 48, .int .u8 32, .int .u8 82, .int .u8 97, .int .u8 116, .int .u8 99, .int .u8 104, .int .u8 101, .int .u8 116] 5 ((#[.int .u8 83, .int .u8 70, .int .u8 114, .int .u8 97, .int .u8 109, .int .u8 101, .int .u8 32, .int .u8 49, .int .u8 46, .int .u8 48, .int .u8 32, .int .u8 82, .int .u8 97, .int .u8 116, .int .u8 99, .int .u8 104, .int .u8 101, .int .u8 116] : Array Value).size, (#[.int .u8 83, .int .u8 70, .int .u8 114, .int .u8 97, .int .u8 109, .int .u8 101, .int .u8 32, .int .u8 49, .int .u8 46, .int .u8 48, .int .u8 32, .int .u8 82, .int .u8 97, .int .u8 116, .int .u8 99, .int .u8 104, .int .u8 101, .int .u8 116] : Array Value).size + 1)) := ⟨_, rfl⟩
  rw [← hw1] at cbb gc rc
  have hsz : w1.heap.size = w.heap.size + 1 := by rw [hw1]; simp
  have rc1 : Rd w1 w1.heap.size (some ⟨w.heap.size, 0, none⟩) 18 (txtF ratTL) := by rw [hsz]; exact rc
  have HC := Lib.hid rc1
  have G1 := Lib.hid gc
  have HB := Lib.hid hb
  have HBL := Lib.hid hbl
  have HI := Lib.hid (And.intro hc hL)
  have HSN := Lib.hid (suite_nums n hs)
  clear hb hbl hc hL rc rc1 gc hsz hw1 cb
  go_enter Tryd.func13, Tryd.ntmps13
  go_wp2_with fail
  go_at_call 9
  refine (refRow_is n hs w1).mono ?_
  rintro e w2 ⟨v2, rfl, ⟨B, rfl, hR, hB⟩, g2⟩
  have c0 : w2.cell? ⟨B, 4, none⟩ = some (.int .i64 (sN n : Nat)) := hR.cell 4 (by decide)
  have g02 := grown_trans G1.out g2
  have hE := refExp_any n L c 18 18 (sN n) hs ba (some ⟨w.heap.size, 0, none⟩) base (txtF ratTL) w2 (HB.out.up (Nat.le_refl _) g02) (HC.out.up (Nat.le_refl _) g2) HBL.out ratT_lt HI.out.1 HI.out.2 (Nat.le_refl _) (by decide) HSN.out.2.2.1 HSN.out.2.2.2.1
  have HE := Lib.hid hE
  have G2 := Lib.hid g02
  clear hE hR hB g02 g2 G1 HC cbb
  go_wp2_with fail
  go_at_call 19
  with_reducible refine (HE.out).mono ?_
  rintro e w3 ⟨v3, rfl, hv3⟩
  clear c0
  go_wp2_with fail
  go_ret
  exact ⟨v3, rfl, hv3.up G2.out⟩
end Go.Proofs.YtobaplndoaeoiaaDoor
namespace Go.Proofs.YtobaplndoaeoiaaDoor
open Go.RowKit

set_option maxRecDepth 100000
set_option maxHeartbeats 4000000

theorem div_big (c k : Nat) (hc : c < 18446744073709551616) (hk : 8 ≤ k) : c / 256 ^ k = 0 := by
  have h1 : (256 : Nat) ^ 8 ≤ 256 ^ k := Nat.pow_le_pow_right (by decide) hk
  exact Nat.div_eq_of_lt (Nat.lt_of_lt_of_le hc h1)
/-- What is added to byte 11 - k. -/
theorem nonF_at (s : Nat → Nat) (c k : Nat) (hc : c < 18446744073709551616) (hk : k < 12) : s (11 - k) ^^^ (c / 256 ^ k % 256) = nonF s c (11 - k) := by
  unfold nonF
  by_cases h : 11 - k < 4
  · rw [if_pos h, div_big c k hc (by omega), Nat.zero_mod, Nat.xor_zero]
  · rw [if_neg h]
    unfold nbF
    rw [show 8 - 1 - (11 - k - 4) = k by omega]
theorem refNonce_any (cs ctr : Nat) (sa : Option Addr) (s : Nat → Nat) (w : World) (hS : Rd w w.heap.size sa 12 s) (hs : ∀ i, s i < 256) (hc : ctr < 18446744073709551616) :
    Calls Tryd.prog 14 #[.slice sa 12 cs, .int .u64 ctr] w fun e w' => ∃ v, e = .returned v ∧ GotB w 12 (nonF s ctr) v w' := by
  have ga := World.grownBy_alloc w (.cells #[] 5) none
  have hO := (ownR_empty w).toM
  obtain ⟨v1, w1, hap, ⟨ex⟩⟩ := app_runM cs 23 hO (hS.up (Nat.le_refl _) ga) (by omega)
  obtain ⟨g, cap, rfl, hO1, hg1, hgg⟩ := ex
  have hO2 : OwnM w1 g 12 cap s := by
    have h2 : OwnM w1 g 12 cap (cat 0 (fun _ => 0) s) := hO1
    exact h2.congr (fun i _ => by unfold cat; rw [if_neg (by omega), Nat.sub_zero])
  have hG1 := grown_new ga hg1 (Nat.le_refl _)
  have hgw : w.heap.size ≤ g := by
    have := ga.size
    omega
  have hap : (Builtin.append_ #[23, 23] 23 #[.slice (some ⟨w.heap.size, 0, none⟩) 0 0, .slice sa 12 cs]).run Tryd.prog (w.alloc (.cells #[] 5)) = .ok (.slice (some ⟨g, 0, none⟩) 12 cap) w1 := hap
  have HAP := Lib.hid hap
  have HO := Lib.hid hO2
  have HG := Lib.hid hG1
  have HGW := Lib.hid hgw
  have HC := Lib.hid hc
  clear hap hO2 hO1 hG1 hgw hgg hg1 ga hO hS hc
  go_enter Tryd.func14, Tryd.ntmps14
  go_wp2_with (at_builtin; refine wpList_append_run rfl (.tmp 7) (.tmp 8) 23 23 rfl (.slice (some ⟨w.heap.size, 0, none⟩) 0 0) (.slice sa 12 cs) _ _ rfl rfl HAP.out ?_)
  clear HAP
  go_loopw [1, 6] (fun u1 u6 wr => ∃ k : Nat, k ≤ 12 ∧ u1 = .int .u64 (ctr / 256 ^ k : Nat) ∧ u6 = .int .i64 ((12 - k : Nat) - 1 : Int) ∧ w.grownBy wr none ∧ OwnM wr g 12 cap (fun j => if 12 - k ≤ j then nonF s ctr j else s j)) (fun _ u6 _ => (intOf u6 + 1).toNat)
  case atStart => exact ⟨0, by omega, by rw [Nat.pow_zero, Nat.div_one], rfl, HG.out, HO.out.congr (fun j hj => by rw [if_neg (by omega)])⟩
  case round =>
    clear HO HG
    obtain ⟨k, hk, rfl, rfl, hg, hO⟩ := hrel
    by_cases hlt : k < 12
    · obtain ⟨r, hr⟩ : ∃ r, r = 11 - k := ⟨_, rfl⟩
      have e0 : ((12 - k : Nat) - 1 : Int) = (r : Int) := by omega
      rw [e0]
      have i1 : (r : Int) ≥ 0 := by omega
      have i2 : (r : Int) < 12 := by omega
      obtain ⟨x, hx⟩ : ∃ x, x = ctr / 256 ^ k := ⟨_, rfl⟩
      rw [← hx]
      have hx64 : x < 18446744073709551616 := by rw [hx]; exact Nat.lt_of_le_of_lt (Nat.div_le_self _ _) HC.out
      obtain ⟨v, hv⟩ : ∃ v, v = x % 256 := ⟨_, rfl⟩
      obtain ⟨x1, hx1⟩ : ∃ v, v = x / 256 := ⟨_, rfl⟩
      have e1 : (x : Int) % 256 = (v : Int) := by omega
      have e2 : (x : Int) / 256 = (x1 : Int) := by omega
      have i3 : (v : Int) < 256 := by omega
      have hx2 : x1 = ctr / 256 ^ (k + 1) := by rw [hx1, hx, Nat.div_div_eq_div_mul, ← Nat.pow_succ]
      have hw1 := wrap_nat64 x1 (by omega)
      obtain ⟨z, hz⟩ : ∃ z, z = nonF s ctr r := ⟨_, rfl⟩
      have hxo : bits .xor .u8 (s r : Int) (v : Int) = (z : Int) := by
        rw [bits_xor_u8 _ _ (hs r) (by omega), hz, hv, hx, hr, nonF_at s ctr k HC.out hlt]
      have cr := hO.cell r (by omega)
      rw [if_neg (by omega)] at cr
      have fr := hO.free r (by have := hO.le; omega)
      have g3 := grown_setCell_new hg ⟨g, r, none⟩ (.int .u8 (z : Nat)) (Or.inl HGW.out)
      have hO3 : OwnM (wr.setCell ⟨g, r, none⟩ (.int .u8 (z : Nat))) g 12 cap (fun j => if 12 - (k + 1) ≤ j then nonF s ctr j else s j) := by
        refine ⟨fun i hi => ?_, fun i hi => ?_, fun i hi => by rw [World.frozen?_setCell]; exact hO.free i hi, hO.le, by simpa using hO.lt⟩
        · by_cases e : i = r
          · subst e
            rw [World.cell?_setCell_same wr _ _ cr, if_pos (by omega), hz]
          · rw [World.cell?_setCell_other wr _ _ _ (ne_off (fun e' => e e'.symm)), hO.cell i hi]
            by_cases e2 : 12 - k ≤ i
            · rw [if_pos e2, if_pos (by omega)]
            · rw [if_neg e2, if_neg (by omega)]
        · by_cases e : i = r
          · subst e
            rw [World.cell?_setCell_same wr _ _ cr]; rfl
          · rw [World.cell?_setCell_other wr _ _ _ (ne_off (fun e' => e e'.symm))]; exact hO.there i hi
      obtain ⟨sr, hsr⟩ : ∃ z, z = s r := ⟨_, rfl⟩
      rw [← hsr] at cr hxo
      have HO := Lib.hid hO3
      have HG := Lib.hid g3
      have HX2 := Lib.hid hx2
      have HR := Lib.hid hr
      have HLT := Lib.hid hlt
      have HW := Lib.hid hw1
      clear hO hO3 hg g3 hx hx1 hx2 hv hz hsr hr hlt hk e0 hx64 hw1
      go_wp2_with fail
      go_roundw
      case rel =>
        have := HR.out
        have := HLT.out
        exact ⟨k + 1, by omega, by rw [← HX2.out]; first | done | rw [HW.out], by rw [show ((12 - (k + 1) : Nat) - 1 : Int) = (r : Int) - 1 by omega], HG.out, HO.out⟩
      case measure => simp [intOf]
    · obtain rfl : k = 12 := by omega
      have i1 : ¬ (((12 - 12 : Nat) - 1 : Int) ≥ 0) := by omega
      have hO2 := hO.congr (f' := nonF s ctr) (fun j _ => by rw [if_pos (by omega)])
      have HO := Lib.hid hO2
      have HG := Lib.hid hg
      clear hO hO2 hg hk hlt
      go_wp2_with fail
      go_ret
      exact ⟨_, rfl, ⟨_, _, rfl, HO.out.le, HO.out.rd, fun b hb => by cases hb; exact HGW.out⟩, HG.out⟩
end Go.Proofs.YtobaplndoaeoiaaDoor
namespace Go.Proofs.YtobaplndoaeoiaaDoor
open Go.RowKit

/-- True, and nothing that was is turned. -/
structure SaysYes (w : World) (e : Ending) (w' : World) : Prop where
  ex : e = .returned (.bool true) ∧ w.grownBy w' none
end Go.Proofs.YtobaplndoaeoiaaDoor
namespace Go.Proofs.YtobaplndoaeoiaaDoor
open Go.RowKit Go.Shelf

set_option maxRecDepth 100000
set_option maxHeartbeats 4000000

theorem rkey_enters (args : Array Value) (w : World) : (callFunc 12 args).run Tryd.prog w = .ok (.enter 12 args) w := enters_of Tryd.func12 (by kernel_rfl) rfl args w
theorem rbeh_enters (args : Array Value) (w : World) : (callFunc 13 args).run Tryd.prog w = .ok (.enter 13 args) w := enters_of Tryd.func13 (by kernel_rfl) rfl args w
theorem rnon_enters (args : Array Value) (w : World) : (callFunc 14 args).run Tryd.prog w = .ok (.enter 14 args) w := enters_of Tryd.func14 (by kernel_rfl) rfl args w
theorem rd_salt {w : World} {B n kid : Nat} {x : Value} {s : Nat → Nat} (h : RowAt w B 34 15 (kv n kid x s)) : Rd w w.heap.size (some ⟨B, 3, none⟩) 12 s :=
  ⟨fun _ => ⟨B, 3, rfl, h.lt, fun i hi => by
    rw [h.cell (3 + i) (by omega)]
    unfold kv
    rw [if_neg (by omega), if_neg (by omega), if_neg (by omega), show 3 + i - 3 = i by omega]⟩⟩
theorem rd_non {w : World} {B T : Nat} {s : Nat → Nat} (h : RowAt w B T 12 (by8 s)) : Rd w w.heap.size (some ⟨B, 0, none⟩) 12 s :=
  ⟨fun _ => ⟨B, 0, rfl, h.lt, fun i hi => by
    rw [Nat.zero_add, h.cell i hi]
    rfl⟩⟩
theorem tells_long (n L c kid ctr : Nat) (ba : Option Addr) (w : World) (hL : 2000 < L) : Calls Tryd.prog 3 #[.int .u16 n, .slice ba L c, .int .u64 kid, .int .u64 ctr] w fun e w' => e = .returned (.bool true) ∧ w.grownBy w' none := by
  have i1 : (L : Int) > 2000 := by omega
  clear hL
  go_enter Tryd.func3, Tryd.ntmps3
  go_wp2_with fail
  go_at_call 5
  refine (known13 w).mono ?_
  rintro e w1 ⟨rfl, g1⟩
  go_wp2_with fail
  go_ret
  exact ⟨rfl, g1⟩
theorem tells_no (n L c kid ctr : Nat) (ba : Option Addr) (w : World) (hn : n < 65536) (hs : ¬ IsSuite n) (hL : L ≤ 2000) : Calls Tryd.prog 3 #[.int .u16 n, .slice ba L c, .int .u64 kid, .int .u64 ctr] w fun e w' => e = .returned (.bool true) ∧ w.grownBy w' none := by
  have i1 : (L : Int) ≤ 2000 := by omega
  have DR := Lib.hid (fun W (_ : w.grownBy W none) => der_no n hn hs (.slice ba L c) (.int .u64 kid) W)
  have BR := Lib.hid (fun W (_ : w.grownBy W none) => beh_no n hn hs (.slice ba L c) W)
  clear hL
  go_enter Tryd.func3, Tryd.ntmps3
  go_wp2_with fail
  go_at_call 5
  refine (known13 w).mono ?_
  rintro e w1 ⟨rfl, g1⟩
  go_wp2_with fail
  go_at_call 6
  refine (of_no n hn hs w1).mono ?_
  rintro e w2 ⟨rfl, g2⟩
  have gb := World.grownBy_alloc w2 (.cells #[.int .u8 0, .int .i64 0, .int .i64 0, .int .i64 0, .int .i64 0] 28) none
  have hR2 := RowAt.new w2 28 5 ivz #[.int .u8 0, .int .i64 0, .int .i64 0, .int .i64 0, .int .i64 0] rfl
  obtain ⟨V2, st3, hR3, g4⟩ := store_info 0 0 0 0 0 hR2
  have st4 : (Instr.storeAt 28 (.pointer (some ⟨w2.heap.size, 0, none⟩)) (.agg (rowOf 5 ivz))).run Tryd.prog (w2.alloc (.cells #[.int .u8 0, .int .i64 0, .int .i64 0, .int .i64 0, .int .i64 0] 28)) = .ok () V2 := st3
  have hR4 : RowAt V2 w2.heap.size 28 5 ivz := hR3
  have GV2 := Lib.hid (grown_trans (grown_trans g1 g2) (grown_into gb g4 (Nat.le_refl _)))
  have ST4 := Lib.hid st4
  have RI := Lib.hid hR4
  clear st3 hR3 hR2 gb g4 st4 hR4 g1 g2
  go_upto_region 6 with (with_reducible refine wpList_here ?_; refine wpList_st (p := .pointer (some ⟨w2.heap.size, 0, none⟩)) (.tmp 9) (.tmp 26) rfl rfl ?_ ?_ ?_ ST4.out ?_; (. kernel_rfl); (. kernel_rfl); (. kernel_rfl))
  obtain ⟨BI, hB⟩ : ∃ B, B = w2.heap.size := ⟨_, rfl⟩
  rw [← hB] at RI ⊢
  clear ST4 hB
  go_wp2_with fail
  go_at_call 7
  with_reducible refine (DR.out V2 GV2.out).mono ?_
  rintro e w3 ⟨rfl, g⟩
  have gb := World.grownBy_alloc w3 (.cells #[.int .u16 0, .int .u64 0, .slice none 0 0, .int .u8 0, .int .u8 0, .int .u8 0, .int .u8 0, .int .u8 0, .int .u8 0, .int .u8 0, .int .u8 0, .int .u8 0, .int .u8 0, .int .u8 0, .int .u8 0] 34) none
  have hK := RowAt.new w3 34 15 kvz #[.int .u16 0, .int .u64 0, .slice none 0 0, .int .u8 0, .int .u8 0, .int .u8 0, .int .u8 0, .int .u8 0, .int .u8 0, .int .u8 0, .int .u8 0, .int .u8 0, .int .u8 0, .int .u8 0, .int .u8 0] rfl
  obtain ⟨V3, st4, hK4, g4⟩ := store_keys kvz (kv_one _ _ _ _ rfl) hK
  have gg := grown_into gb g4 (Nat.le_refl _)
  have gt := grown_trans g gg
  have GV3 := Lib.hid (grown_trans GV2.out gt)
  have ST4 := Lib.hid st4
  have RK := Lib.hid hK4
  clear st4 hK4 hK gb g4 gg gt g
  go_upto_region 7 with (with_reducible refine wpList_here ?_; refine wpList_st (p := .pointer (some ⟨w3.heap.size, 0, none⟩)) (.tmp 11) (.tmp 33) rfl rfl ?_ ?_ ?_ ST4.out ?_; (. kernel_rfl); (. kernel_rfl); (. kernel_rfl))
  obtain ⟨BK, hB⟩ : ∃ B, B = w3.heap.size := ⟨_, rfl⟩
  rw [← hB] at RK ⊢
  clear ST4 hB
  go_wp2_with fail
  go_at_call 8
  with_reducible refine (BR.out V3 GV3.out).mono ?_
  rintro e V4 ⟨rfl, gt⟩
  have GV4 := Lib.hid (grown_trans GV3.out gt)
  have RK := Lib.hid (RK.out.grown gt (by simp))
  clear gt
  go_wp2_with fail
  go_at_call 9
  refine (refRow_no n hs V4).mono ?_
  rintro e V5 ⟨rfl, gt⟩
  have GV5 := Lib.hid (grown_trans GV4.out gt)
  have RK := Lib.hid (RK.out.grown gt (by simp))
  clear gt
  have k2 : V5.cell? ⟨BK, 2, none⟩ = some (.slice none 0 0) := RK.out.cell 2 (by decide)
  clear RI DR BR hs hn
  go_wp2_with fail
  go_ret
  exact ⟨rfl, GV5.out⟩
theorem tells_arg (n L c kid ctr : Nat) (ba : Option Addr) (w : World) (hs : IsSuite n) (hb : L = 0 ∨ 1024 < L) (hL : L ≤ 2000) : Calls Tryd.prog 3 #[.int .u16 n, .slice ba L c, .int .u64 kid, .int .u64 ctr] w fun e w' => e = .returned (.bool true) ∧ w.grownBy w' none := by
  have i1 : (L : Int) ≤ 2000 := by omega
  have DR := Lib.hid (fun W (_ : w.grownBy W none) => der_arg n L c hs ba (.int .u64 kid) W hb)
  have BR := Lib.hid (fun W (_ : w.grownBy W none) => beh_arg n L c hs ba W hb)
  have HB := Lib.hid hb
  clear hL hb
  go_enter Tryd.func3, Tryd.ntmps3
  go_wp2_with fail
  go_at_call 5
  refine (known13 w).mono ?_
  rintro e w1 ⟨rfl, g1⟩
  go_wp2_with fail
  go_at_call 6
  refine (of_is n hs w1).mono ?_
  rintro e w2 ⟨rfl, g2⟩
  have gb := World.grownBy_alloc w2 (.cells #[.int .u8 0, .int .i64 0, .int .i64 0, .int .i64 0, .int .i64 0] 28) none
  have hR2 := RowAt.new w2 28 5 ivz #[.int .u8 0, .int .i64 0, .int .i64 0, .int .i64 0, .int .i64 0] rfl
  obtain ⟨V2, st3, hR3, g4⟩ := store_info (hN n) (kN n) (eN n) (tN n) (sN n) hR2
  have st4 : (Instr.storeAt 28 (.pointer (some ⟨w2.heap.size, 0, none⟩)) (.agg (rowOf 5 (iv n)))).run Tryd.prog (w2.alloc (.cells #[.int .u8 0, .int .i64 0, .int .i64 0, .int .i64 0, .int .i64 0] 28)) = .ok () V2 := st3
  have hR4 : RowAt V2 w2.heap.size 28 5 (iv n) := hR3
  have GV2 := Lib.hid (grown_trans (grown_trans g1 g2) (grown_into gb g4 (Nat.le_refl _)))
  have ST4 := Lib.hid st4
  have RI := Lib.hid hR4
  clear st3 hR3 hR2 gb g4 st4 hR4 g1 g2
  go_upto_region 6 with (with_reducible refine wpList_here ?_; refine wpList_st (p := .pointer (some ⟨w2.heap.size, 0, none⟩)) (.tmp 9) (.tmp 26) rfl rfl ?_ ?_ ?_ ST4.out ?_; (. kernel_rfl); (. kernel_rfl); (. kernel_rfl))
  obtain ⟨BI, hB⟩ : ∃ B, B = w2.heap.size := ⟨_, rfl⟩
  rw [← hB] at RI ⊢
  clear ST4 hB
  go_wp2_with fail
  go_at_call 7
  with_reducible refine (DR.out V2 GV2.out).mono ?_
  rintro e w3 ⟨rfl, g⟩
  have gb := World.grownBy_alloc w3 (.cells #[.int .u16 0, .int .u64 0, .slice none 0 0, .int .u8 0, .int .u8 0, .int .u8 0, .int .u8 0, .int .u8 0, .int .u8 0, .int .u8 0, .int .u8 0, .int .u8 0, .int .u8 0, .int .u8 0, .int .u8 0] 34) none
  have hK := RowAt.new w3 34 15 kvz #[.int .u16 0, .int .u64 0, .slice none 0 0, .int .u8 0, .int .u8 0, .int .u8 0, .int .u8 0, .int .u8 0, .int .u8 0, .int .u8 0, .int .u8 0, .int .u8 0, .int .u8 0, .int .u8 0, .int .u8 0] rfl
  obtain ⟨V3, st4, hK4, g4⟩ := store_keys kvz (kv_one _ _ _ _ rfl) hK
  have gg := grown_into gb g4 (Nat.le_refl _)
  have gt := grown_trans g gg
  have GV3 := Lib.hid (grown_trans GV2.out gt)
  have ST4 := Lib.hid st4
  have RK := Lib.hid hK4
  have RI := Lib.hid (RI.out.grown gt (by simp))
  clear st4 hK4 hK gb g4 gg gt g
  go_upto_region 7 with (with_reducible refine wpList_here ?_; refine wpList_st (p := .pointer (some ⟨w3.heap.size, 0, none⟩)) (.tmp 11) (.tmp 33) rfl rfl ?_ ?_ ?_ ST4.out ?_; (. kernel_rfl); (. kernel_rfl); (. kernel_rfl))
  obtain ⟨BK, hB⟩ : ∃ B, B = w3.heap.size := ⟨_, rfl⟩
  rw [← hB] at RK ⊢
  clear ST4 hB
  go_wp2_with fail
  go_at_call 8
  with_reducible refine (BR.out V3 GV3.out).mono ?_
  rintro e V4 ⟨rfl, gt⟩
  have GV4 := Lib.hid (grown_trans GV3.out gt)
  have RK := Lib.hid (RK.out.grown gt (by simp))
  have RI := Lib.hid (RI.out.grown gt (by simp))
  clear gt
  go_wp2_with fail
  go_at_call 9
  refine (refRow_is n hs V4).mono ?_
  rintro e V5 ⟨_, rfl, ⟨BW, rfl, hRR, _⟩, gt⟩
  have GV5 := Lib.hid (grown_trans GV4.out gt)
  have RK := Lib.hid (RK.out.grown gt (by simp))
  have RI := Lib.hid (RI.out.grown gt (by simp))
  clear gt
  have RR := Lib.hid hRR
  clear DR BR hs hRR
  have HW0 : Hid (IntKind.i64.wrap (hN n : Int) = hN n) := Lib.hid (by unfold hN; split <;> rfl)
  go_upto_region 11 with fail
  obtain ⟨D0, hD0⟩ : ∃ V, V = V5.drew := ⟨_, rfl⟩
  refine wp_region_held (S := (fun W => D0.grownBy W none)) (by kernel_rfl) ?_
  change wpAnyH _ _ _ _ _ 43 #[false, false, false, false, false, false, false, false, false, false, false, false, false, false, false, false, false, false, false, false, false, false, false, false, false, false, false, false, false, false, false, false, false, false, false, false, false, false, false, false, false, false, false] _ (World.drew _)
  rw [← hD0]
  have gd : V5.grownBy D0 none := by rw [hD0]; exact grown_drew (grown_refl V5 none)
  have RI := Lib.hid (RI.out.grown gd (by simp))
  have RR := Lib.hid (RR.out.grown gd (by simp))
  have RK := Lib.hid (RK.out.grown gd (by simp))
  have GD0 := Lib.hid (grown_trans GV5.out gd)
  have hS0 : D0.grownBy D0 none := grown_refl D0 none
  refine wpAnyH_takeD (some 65) (i := 0) (v := (.int .i64 0)) rfl rfl (by kernel_rfl) (by kernel_rfl) (by kernel_rfl) (fun _ _ _ h => h) (Or.inl ⟨rfl, fun _ _ => rfl⟩) hS0 ?_
  simp only [Act.put, List.setIfInBounds_toArray, List.set_cons_succ, List.set_cons_zero]
  refine wpAnyH_takeD (some 66) (i := 1) (v := (.bool false)) rfl rfl (by kernel_rfl) (by kernel_rfl) (by kernel_rfl) (fun _ _ _ h => h) (Or.inl ⟨rfl, fun _ _ => by go_simp⟩) hS0 ?_
  simp only [Act.put, List.setIfInBounds_toArray, List.set_cons_succ, List.set_cons_zero]
  refine wpAnyH_takeD (some 67) (i := 2) (v := (.bool false)) rfl rfl (by kernel_rfl) (by kernel_rfl) (by kernel_rfl) (fun _ _ _ h => h) (Or.inl ⟨rfl, fun _ _ => rfl⟩) hS0 ?_
  simp only [Act.put, List.setIfInBounds_toArray, List.set_cons_succ, List.set_cons_zero]
  refine wpAnyH_takeD (some 68) (i := 3) (v := (.pointer (some ⟨BI, 0, none⟩))) rfl rfl (by kernel_rfl) (by kernel_rfl) (by kernel_rfl) (fun _ _ _ h => h) (Or.inl ⟨rfl, fun _ _ => by go_simp⟩) hS0 ?_
  simp only [Act.put, List.setIfInBounds_toArray, List.set_cons_succ, List.set_cons_zero]
  refine wpAnyH_takeD (some 69) (i := 4) (v := (.int .u8 (hN n : Nat))) rfl rfl (by kernel_rfl) (by kernel_rfl) (by kernel_rfl) (fun _ _ _ h => h) (Or.inl ⟨rfl, fun W hW => by have c0 : W.cell? ⟨BI, 0, none⟩ = some ((.int .u8 (hN n : Nat))) := (RI.out.grown hW (by simp)).cell 0 (by decide); clear RI RR RK; go_simp⟩) hS0 ?_
  simp only [Act.put, List.setIfInBounds_toArray, List.set_cons_succ, List.set_cons_zero]
  refine wpAnyH_takeD (some 70) (i := 5) (v := (.int .i64 (hN n : Nat))) rfl rfl (by kernel_rfl) (by kernel_rfl) (by kernel_rfl) (fun _ _ _ h => h) (Or.inl ⟨rfl, fun _ _ => by have := HW0.out; go_simp⟩) hS0 ?_
  simp only [Act.put, List.setIfInBounds_toArray, List.set_cons_succ, List.set_cons_zero]
  refine wpAnyH_takeD (some 71) (i := 6) (v := (.slice (some ⟨BW, 0, none⟩) 5 5)) rfl rfl (by kernel_rfl) (by kernel_rfl) (by kernel_rfl) (fun _ _ _ h => h) (Or.inl ⟨rfl, fun _ _ => rfl⟩) hS0 ?_
  simp only [Act.put, List.setIfInBounds_toArray, List.set_cons_succ, List.set_cons_zero]
  refine wpAnyH_takeD (some 72) (i := 7) (v := (.pointer (some ⟨BW, 0, none⟩))) rfl rfl (by kernel_rfl) (by kernel_rfl) (by kernel_rfl) (fun _ _ _ h => h) (Or.inl ⟨rfl, fun _ _ => by go_simp⟩) hS0 ?_
  simp only [Act.put, List.setIfInBounds_toArray, List.set_cons_succ, List.set_cons_zero]
  refine wpAnyH_takeD (some 73) (i := 8) (v := (.int .i64 (hN n : Nat))) rfl rfl (by kernel_rfl) (by kernel_rfl) (by kernel_rfl) (fun _ _ _ h => h) (Or.inl ⟨rfl, fun W hW => by have c0 : W.cell? ⟨BW, 0, none⟩ = some ((.int .i64 (hN n : Nat))) := (RR.out.grown hW (by simp)).cell 0 (by decide); clear RI RR RK; go_simp⟩) hS0 ?_
  simp only [Act.put, List.setIfInBounds_toArray, List.set_cons_succ, List.set_cons_zero]
  refine wpAnyH_takeD (some 74) (i := 9) (v := (.bool false)) rfl rfl (by kernel_rfl) (by kernel_rfl) (by kernel_rfl) (fun _ _ _ h => h) (Or.inl ⟨rfl, fun _ _ => by go_simp⟩) hS0 ?_
  simp only [Act.put, List.setIfInBounds_toArray, List.set_cons_succ, List.set_cons_zero]
  refine wpAnyH_takeD (some 75) (i := 10) (v := (.bool false)) rfl rfl (by kernel_rfl) (by kernel_rfl) (by kernel_rfl) (fun _ _ _ h => h) (Or.inl ⟨rfl, fun _ _ => by go_simp⟩) hS0 ?_
  simp only [Act.put, List.setIfInBounds_toArray, List.set_cons_succ, List.set_cons_zero]
  refine wpAnyH_takeD (some 76) (i := 11) (v := (.bool false)) rfl rfl (by kernel_rfl) (by kernel_rfl) (by kernel_rfl) (fun _ _ _ h => h) (Or.inl ⟨rfl, fun _ _ => rfl⟩) hS0 ?_
  simp only [Act.put, List.setIfInBounds_toArray, List.set_cons_succ, List.set_cons_zero]
  refine wpAnyH_takeD (some 77) (i := 12) (v := (.pointer (some ⟨BI, 1, none⟩))) rfl rfl (by kernel_rfl) (by kernel_rfl) (by kernel_rfl) (fun _ _ _ h => h) (Or.inl ⟨rfl, fun _ _ => by go_simp⟩) hS0 ?_
  simp only [Act.put, List.setIfInBounds_toArray, List.set_cons_succ, List.set_cons_zero]
  refine wpAnyH_takeD (some 78) (i := 13) (v := (.int .i64 (kN n : Nat))) rfl rfl (by kernel_rfl) (by kernel_rfl) (by kernel_rfl) (fun _ _ _ h => h) (Or.inl ⟨rfl, fun W hW => by have c0 : W.cell? ⟨BI, 1, none⟩ = some ((.int .i64 (kN n : Nat))) := (RI.out.grown hW (by simp)).cell 1 (by decide); clear RI RR RK; go_simp⟩) hS0 ?_
  simp only [Act.put, List.setIfInBounds_toArray, List.set_cons_succ, List.set_cons_zero]
  refine wpAnyH_takeD (some 79) (i := 14) (v := (.slice (some ⟨BW, 0, none⟩) 5 5)) rfl rfl (by kernel_rfl) (by kernel_rfl) (by kernel_rfl) (fun _ _ _ h => h) (Or.inl ⟨rfl, fun _ _ => rfl⟩) hS0 ?_
  simp only [Act.put, List.setIfInBounds_toArray, List.set_cons_succ, List.set_cons_zero]
  refine wpAnyH_takeD (some 80) (i := 15) (v := (.pointer (some ⟨BW, 1, none⟩))) rfl rfl (by kernel_rfl) (by kernel_rfl) (by kernel_rfl) (fun _ _ _ h => h) (Or.inl ⟨rfl, fun _ _ => by go_simp⟩) hS0 ?_
  simp only [Act.put, List.setIfInBounds_toArray, List.set_cons_succ, List.set_cons_zero]
  refine wpAnyH_takeD (some 81) (i := 16) (v := (.int .i64 (kN n : Nat))) rfl rfl (by kernel_rfl) (by kernel_rfl) (by kernel_rfl) (fun _ _ _ h => h) (Or.inl ⟨rfl, fun W hW => by have c0 : W.cell? ⟨BW, 1, none⟩ = some ((.int .i64 (kN n : Nat))) := (RR.out.grown hW (by simp)).cell 1 (by decide); clear RI RR RK; go_simp⟩) hS0 ?_
  simp only [Act.put, List.setIfInBounds_toArray, List.set_cons_succ, List.set_cons_zero]
  refine wpAnyH_takeD (some 82) (i := 17) (v := (.bool false)) rfl rfl (by kernel_rfl) (by kernel_rfl) (by kernel_rfl) (fun _ _ _ h => h) (Or.inl ⟨rfl, fun _ _ => by go_simp⟩) hS0 ?_
  simp only [Act.put, List.setIfInBounds_toArray, List.set_cons_succ, List.set_cons_zero]
  refine wpAnyH_takeD (some 83) (i := 18) (v := (.bool false)) rfl rfl (by kernel_rfl) (by kernel_rfl) (by kernel_rfl) (fun _ _ _ h => h) (Or.inl ⟨rfl, fun _ _ => by go_simp⟩) hS0 ?_
  simp only [Act.put, List.setIfInBounds_toArray, List.set_cons_succ, List.set_cons_zero]
  refine wpAnyH_takeD (some 84) (i := 19) (v := (.bool false)) rfl rfl (by kernel_rfl) (by kernel_rfl) (by kernel_rfl) (fun _ _ _ h => h) (Or.inl ⟨rfl, fun _ _ => rfl⟩) hS0 ?_
  simp only [Act.put, List.setIfInBounds_toArray, List.set_cons_succ, List.set_cons_zero]
  refine wpAnyH_takeD (some 85) (i := 20) (v := (.pointer (some ⟨BI, 2, none⟩))) rfl rfl (by kernel_rfl) (by kernel_rfl) (by kernel_rfl) (fun _ _ _ h => h) (Or.inl ⟨rfl, fun _ _ => by go_simp⟩) hS0 ?_
  simp only [Act.put, List.setIfInBounds_toArray, List.set_cons_succ, List.set_cons_zero]
  refine wpAnyH_takeD (some 86) (i := 21) (v := (.int .i64 (eN n : Nat))) rfl rfl (by kernel_rfl) (by kernel_rfl) (by kernel_rfl) (fun _ _ _ h => h) (Or.inl ⟨rfl, fun W hW => by have c0 : W.cell? ⟨BI, 2, none⟩ = some ((.int .i64 (eN n : Nat))) := (RI.out.grown hW (by simp)).cell 2 (by decide); clear RI RR RK; go_simp⟩) hS0 ?_
  simp only [Act.put, List.setIfInBounds_toArray, List.set_cons_succ, List.set_cons_zero]
  refine wpAnyH_takeD (some 87) (i := 22) (v := (.slice (some ⟨BW, 0, none⟩) 5 5)) rfl rfl (by kernel_rfl) (by kernel_rfl) (by kernel_rfl) (fun _ _ _ h => h) (Or.inl ⟨rfl, fun _ _ => rfl⟩) hS0 ?_
  simp only [Act.put, List.setIfInBounds_toArray, List.set_cons_succ, List.set_cons_zero]
  refine wpAnyH_takeD (some 88) (i := 23) (v := (.pointer (some ⟨BW, 2, none⟩))) rfl rfl (by kernel_rfl) (by kernel_rfl) (by kernel_rfl) (fun _ _ _ h => h) (Or.inl ⟨rfl, fun _ _ => by go_simp⟩) hS0 ?_
  simp only [Act.put, List.setIfInBounds_toArray, List.set_cons_succ, List.set_cons_zero]
  refine wpAnyH_takeD (some 89) (i := 24) (v := (.int .i64 (eN n : Nat))) rfl rfl (by kernel_rfl) (by kernel_rfl) (by kernel_rfl) (fun _ _ _ h => h) (Or.inl ⟨rfl, fun W hW => by have c0 : W.cell? ⟨BW, 2, none⟩ = some ((.int .i64 (eN n : Nat))) := (RR.out.grown hW (by simp)).cell 2 (by decide); clear RI RR RK; go_simp⟩) hS0 ?_
  simp only [Act.put, List.setIfInBounds_toArray, List.set_cons_succ, List.set_cons_zero]
  refine wpAnyH_takeD (some 90) (i := 25) (v := (.bool false)) rfl rfl (by kernel_rfl) (by kernel_rfl) (by kernel_rfl) (fun _ _ _ h => h) (Or.inl ⟨rfl, fun _ _ => by go_simp⟩) hS0 ?_
  simp only [Act.put, List.setIfInBounds_toArray, List.set_cons_succ, List.set_cons_zero]
  refine wpAnyH_takeD (some 91) (i := 26) (v := (.bool false)) rfl rfl (by kernel_rfl) (by kernel_rfl) (by kernel_rfl) (fun _ _ _ h => h) (Or.inl ⟨rfl, fun _ _ => by go_simp⟩) hS0 ?_
  simp only [Act.put, List.setIfInBounds_toArray, List.set_cons_succ, List.set_cons_zero]
  refine wpAnyH_takeD (some 92) (i := 27) (v := (.bool false)) rfl rfl (by kernel_rfl) (by kernel_rfl) (by kernel_rfl) (fun _ _ _ h => h) (Or.inl ⟨rfl, fun _ _ => rfl⟩) hS0 ?_
  simp only [Act.put, List.setIfInBounds_toArray, List.set_cons_succ, List.set_cons_zero]
  refine wpAnyH_takeD (some 93) (i := 28) (v := (.pointer (some ⟨BI, 3, none⟩))) rfl rfl (by kernel_rfl) (by kernel_rfl) (by kernel_rfl) (fun _ _ _ h => h) (Or.inl ⟨rfl, fun _ _ => by go_simp⟩) hS0 ?_
  simp only [Act.put, List.setIfInBounds_toArray, List.set_cons_succ, List.set_cons_zero]
  refine wpAnyH_takeD (some 94) (i := 29) (v := (.int .i64 (tN n : Nat))) rfl rfl (by kernel_rfl) (by kernel_rfl) (by kernel_rfl) (fun _ _ _ h => h) (Or.inl ⟨rfl, fun W hW => by have c0 : W.cell? ⟨BI, 3, none⟩ = some ((.int .i64 (tN n : Nat))) := (RI.out.grown hW (by simp)).cell 3 (by decide); clear RI RR RK; go_simp⟩) hS0 ?_
  simp only [Act.put, List.setIfInBounds_toArray, List.set_cons_succ, List.set_cons_zero]
  refine wpAnyH_takeD (some 95) (i := 30) (v := (.slice (some ⟨BW, 0, none⟩) 5 5)) rfl rfl (by kernel_rfl) (by kernel_rfl) (by kernel_rfl) (fun _ _ _ h => h) (Or.inl ⟨rfl, fun _ _ => rfl⟩) hS0 ?_
  simp only [Act.put, List.setIfInBounds_toArray, List.set_cons_succ, List.set_cons_zero]
  refine wpAnyH_takeD (some 96) (i := 31) (v := (.pointer (some ⟨BW, 3, none⟩))) rfl rfl (by kernel_rfl) (by kernel_rfl) (by kernel_rfl) (fun _ _ _ h => h) (Or.inl ⟨rfl, fun _ _ => by go_simp⟩) hS0 ?_
  simp only [Act.put, List.setIfInBounds_toArray, List.set_cons_succ, List.set_cons_zero]
  refine wpAnyH_takeD (some 97) (i := 32) (v := (.int .i64 (tN n : Nat))) rfl rfl (by kernel_rfl) (by kernel_rfl) (by kernel_rfl) (fun _ _ _ h => h) (Or.inl ⟨rfl, fun W hW => by have c0 : W.cell? ⟨BW, 3, none⟩ = some ((.int .i64 (tN n : Nat))) := (RR.out.grown hW (by simp)).cell 3 (by decide); clear RI RR RK; go_simp⟩) hS0 ?_
  simp only [Act.put, List.setIfInBounds_toArray, List.set_cons_succ, List.set_cons_zero]
  refine wpAnyH_takeD (some 98) (i := 33) (v := (.bool false)) rfl rfl (by kernel_rfl) (by kernel_rfl) (by kernel_rfl) (fun _ _ _ h => h) (Or.inl ⟨rfl, fun _ _ => by go_simp⟩) hS0 ?_
  simp only [Act.put, List.setIfInBounds_toArray, List.set_cons_succ, List.set_cons_zero]
  refine wpAnyH_takeD (some 99) (i := 34) (v := (.bool false)) rfl rfl (by kernel_rfl) (by kernel_rfl) (by kernel_rfl) (fun _ _ _ h => h) (Or.inl ⟨rfl, fun _ _ => by go_simp⟩) hS0 ?_
  simp only [Act.put, List.setIfInBounds_toArray, List.set_cons_succ, List.set_cons_zero]
  refine wpAnyH_takeD (some 100) (i := 35) (v := (.bool false)) rfl rfl (by kernel_rfl) (by kernel_rfl) (by kernel_rfl) (fun _ _ _ h => h) (Or.inl ⟨rfl, fun _ _ => rfl⟩) hS0 ?_
  simp only [Act.put, List.setIfInBounds_toArray, List.set_cons_succ, List.set_cons_zero]
  refine wpAnyH_takeD (some 101) (i := 36) (v := (.pointer (some ⟨BI, 4, none⟩))) rfl rfl (by kernel_rfl) (by kernel_rfl) (by kernel_rfl) (fun _ _ _ h => h) (Or.inl ⟨rfl, fun _ _ => by go_simp⟩) hS0 ?_
  simp only [Act.put, List.setIfInBounds_toArray, List.set_cons_succ, List.set_cons_zero]
  refine wpAnyH_takeD (some 102) (i := 37) (v := (.int .i64 (sN n : Nat))) rfl rfl (by kernel_rfl) (by kernel_rfl) (by kernel_rfl) (fun _ _ _ h => h) (Or.inl ⟨rfl, fun W hW => by have c0 : W.cell? ⟨BI, 4, none⟩ = some ((.int .i64 (sN n : Nat))) := (RI.out.grown hW (by simp)).cell 4 (by decide); clear RI RR RK; go_simp⟩) hS0 ?_
  simp only [Act.put, List.setIfInBounds_toArray, List.set_cons_succ, List.set_cons_zero]
  refine wpAnyH_takeD (some 103) (i := 38) (v := (.slice (some ⟨BW, 0, none⟩) 5 5)) rfl rfl (by kernel_rfl) (by kernel_rfl) (by kernel_rfl) (fun _ _ _ h => h) (Or.inl ⟨rfl, fun _ _ => rfl⟩) hS0 ?_
  simp only [Act.put, List.setIfInBounds_toArray, List.set_cons_succ, List.set_cons_zero]
  refine wpAnyH_takeD (some 104) (i := 39) (v := (.pointer (some ⟨BW, 4, none⟩))) rfl rfl (by kernel_rfl) (by kernel_rfl) (by kernel_rfl) (fun _ _ _ h => h) (Or.inl ⟨rfl, fun _ _ => by go_simp⟩) hS0 ?_
  simp only [Act.put, List.setIfInBounds_toArray, List.set_cons_succ, List.set_cons_zero]
  refine wpAnyH_takeD (some 105) (i := 40) (v := (.int .i64 (sN n : Nat))) rfl rfl (by kernel_rfl) (by kernel_rfl) (by kernel_rfl) (fun _ _ _ h => h) (Or.inl ⟨rfl, fun W hW => by have c0 : W.cell? ⟨BW, 4, none⟩ = some ((.int .i64 (sN n : Nat))) := (RR.out.grown hW (by simp)).cell 4 (by decide); clear RI RR RK; go_simp⟩) hS0 ?_
  simp only [Act.put, List.setIfInBounds_toArray, List.set_cons_succ, List.set_cons_zero]
  refine wpAnyH_takeD (some 106) (i := 41) (v := (.bool false)) rfl rfl (by kernel_rfl) (by kernel_rfl) (by kernel_rfl) (fun _ _ _ h => h) (Or.inl ⟨rfl, fun _ _ => by go_simp⟩) hS0 ?_
  simp only [Act.put, List.setIfInBounds_toArray, List.set_cons_succ, List.set_cons_zero]
  refine wpAnyH_takeD (some 107) (i := 42) (v := (.bool false)) rfl rfl (by kernel_rfl) (by kernel_rfl) (by kernel_rfl) (fun _ _ _ h => h) (Or.inl ⟨rfl, fun _ _ => by go_simp⟩) hS0 ?_
  simp only [Act.put, List.setIfInBounds_toArray, List.set_cons_succ, List.set_cons_zero]
  refine wpAnyH_done (by kernel_rfl) ?_ _
  clear hS0 HW0 hD0
  have k2 : D0.cell? ⟨BK, 2, none⟩ = some (.slice none 0 0) := RK.out.cell 2 (by decide)
  clear RI RR RK gd
  rcases HB.out with rfl | hb
  · clear HB
    go_wp2_with fail
    go_ret
    exact ⟨rfl, GD0.out⟩
  · have i4 : (L : Int) > 1024 := by omega
    have i5 : ((L : Int) == 0) = false := by rw [beq_eq_false_iff_ne]; omega
    clear HB hb
    go_wp2_with fail
    go_ret
    exact ⟨rfl, GD0.out⟩
theorem tells_in (n L c kid ctr : Nat) (ba : Option Addr) (base : Nat → Nat) (w : World) (hL : Laid w 1 2 FC KC) (hb : Rd w w.heap.size ba L base) (hbl : ∀ i, base i < 256) (hc : L ≤ c) (hs : IsSuite n) (h0 : L ≠ 0) (h1 : L ≤ 1024) (hk : kid < 18446744073709551616) (hct : ctr < 18446744073709551616) :
    Calls Tryd.prog 3 #[.int .u16 n, .slice ba L c, .int .u64 kid, .int .u64 ctr] w fun e w' => e = .returned (.bool true) ∧ w.grownBy w' none := by
  have i1 : (L : Int) ≤ 2000 := by omega
  have i4 : ¬ ((L : Int) > 1024) := by omega
  have i5 : ((L : Int) == 0) = false := by rw [beq_eq_false_iff_ne]; omega
  have DR := Lib.hid (fun W (g : w.grownBy W none) => der_ok n L c kid hs ba base W (hL.grown g (by simp) (by simp)) (hb.up (Nat.le_refl _) g) hbl hc h0 h1 hk)
  have BR := Lib.hid (fun W (g : w.grownBy W none) => beh_ok n L c hs ba base W (hL.grown g (by simp) (by simp)) (hb.up (Nat.le_refl _) g) hbl hc h0 h1)
  have RKEY := Lib.hid (fun W (g : w.grownBy W none) => refKey_any n L c kid hs ba base W (hb.up (Nat.le_refl _) g) hbl hc (by omega) hk)
  have RBEH := Lib.hid (fun W (g : w.grownBy W none) => refBehind_any n L c hs ba base W (hb.up (Nat.le_refl _) g) hbl hc (by omega))
  have RSAL := Lib.hid (fun W (g : w.grownBy W none) => refSalt_any n L c kid hs ba base W (hb.up (Nat.le_refl _) g) hbl hc (by omega) hk)
  have hsl : ∀ i, saltF n L base kid i < 256 := expF_lt _ _ _ _
  have hkl : ∀ i, keyF n L base kid i < 256 := expF_lt _ _ _ _
  have hbf : ∀ i, behF n L base i < 256 := expF_lt _ _ _ _
  obtain ⟨s, hse⟩ : ∃ s, s = saltF n L base kid := ⟨_, rfl⟩
  obtain ⟨kf, hkf⟩ : ∃ s, s = keyF n L base kid := ⟨_, rfl⟩
  obtain ⟨bf, hbe⟩ : ∃ s, s = behF n L base := ⟨_, rfl⟩
  rw [← hse, ← hkf] at DR
  rw [← hbe] at BR RBEH hbf
  rw [← hkf] at RKEY hkl
  rw [← hse] at RSAL hsl
  have HSL := Lib.hid hsl
  have HKL := Lib.hid hkl
  have HBF := Lib.hid hbf
  have HNL := Lib.hid (nonF_lt s ctr hsl)
  have HCT := Lib.hid hct
  obtain ⟨SK, hSK⟩ : ∃ S, S = strOf (kN n) kf := ⟨_, rfl⟩
  obtain ⟨SS, hSS⟩ : ∃ S, S = strOf 12 s := ⟨_, rfl⟩
  obtain ⟨SB, hSB⟩ : ∃ S, S = strOf (sN n) bf := ⟨_, rfl⟩
  obtain ⟨SN, hSN⟩ : ∃ S, S = strOf 12 (nonF s ctr) := ⟨_, rfl⟩
  have HSK := Lib.hid hSK
  have HSS := Lib.hid hSS
  have HSB := Lib.hid hSB
  have HSN := Lib.hid hSN
  clear hSK hSS hSB hSN hse hkf hbe hsl hkl hbf hct hL hb hbl hc h0 h1 hk
  go_enter Tryd.func3, Tryd.ntmps3
  go_wp2_with fail
  go_at_call 5
  refine (known13 w).mono ?_
  rintro e w1 ⟨rfl, g1⟩
  go_wp2_with fail
  go_at_call 6
  refine (of_is n hs w1).mono ?_
  rintro e w2 ⟨rfl, g2⟩
  have gb := World.grownBy_alloc w2 (.cells #[.int .u8 0, .int .i64 0, .int .i64 0, .int .i64 0, .int .i64 0] 28) none
  have hR2 := RowAt.new w2 28 5 ivz #[.int .u8 0, .int .i64 0, .int .i64 0, .int .i64 0, .int .i64 0] rfl
  obtain ⟨V2, st3, hR3, g4⟩ := store_info (hN n) (kN n) (eN n) (tN n) (sN n) hR2
  have st4 : (Instr.storeAt 28 (.pointer (some ⟨w2.heap.size, 0, none⟩)) (.agg (rowOf 5 (iv n)))).run Tryd.prog (w2.alloc (.cells #[.int .u8 0, .int .i64 0, .int .i64 0, .int .i64 0, .int .i64 0] 28)) = .ok () V2 := st3
  have hR4 : RowAt V2 w2.heap.size 28 5 (iv n) := hR3
  have GV2 := Lib.hid (grown_trans (grown_trans g1 g2) (grown_into gb g4 (Nat.le_refl _)))
  have ST4 := Lib.hid st4
  have RI := Lib.hid hR4
  clear st3 hR3 hR2 gb g4 st4 hR4 g1 g2
  go_upto_region 6 with (with_reducible refine wpList_here ?_; refine wpList_st (p := .pointer (some ⟨w2.heap.size, 0, none⟩)) (.tmp 9) (.tmp 26) rfl rfl ?_ ?_ ?_ ST4.out ?_; (. kernel_rfl); (. kernel_rfl); (. kernel_rfl))
  obtain ⟨BI, hB⟩ : ∃ B, B = w2.heap.size := ⟨_, rfl⟩
  rw [← hB] at RI ⊢
  clear ST4 hB
  go_wp2_with fail
  go_at_call 7
  with_reducible refine (DR.out V2 GV2.out).mono ?_
  rintro e w3 ⟨_, rfl, ⟨a3, c3, rfl, _, hR3, _⟩, g⟩
  have gb := World.grownBy_alloc w3 (.cells #[.int .u16 0, .int .u64 0, .slice none 0 0, .int .u8 0, .int .u8 0, .int .u8 0, .int .u8 0, .int .u8 0, .int .u8 0, .int .u8 0, .int .u8 0, .int .u8 0, .int .u8 0, .int .u8 0, .int .u8 0] 34) none
  have hK := RowAt.new w3 34 15 kvz #[.int .u16 0, .int .u64 0, .slice none 0 0, .int .u8 0, .int .u8 0, .int .u8 0, .int .u8 0, .int .u8 0, .int .u8 0, .int .u8 0, .int .u8 0, .int .u8 0, .int .u8 0, .int .u8 0, .int .u8 0] rfl
  obtain ⟨V3, st4, hK4, g4⟩ := store_keys (kv n kid (.slice a3 (kN n) c3) s) (kv_one _ _ _ _ rfl) hK
  have gg := grown_into gb g4 (Nat.le_refl _)
  have gt := grown_trans g gg
  have GV3 := Lib.hid (grown_trans GV2.out gt)
  have ST4 := Lib.hid st4
  have RK := Lib.hid hK4
  have RS3 := Lib.hid (hR3.up (Nat.le_refl _) gg)
  have RI := Lib.hid (RI.out.grown gt (by simp))
  clear hR3
  clear st4 hK4 hK gb g4 gg gt g
  go_upto_region 7 with (with_reducible refine wpList_here ?_; refine wpList_st (p := .pointer (some ⟨w3.heap.size, 0, none⟩)) (.tmp 11) (.tmp 33) rfl rfl ?_ ?_ ?_ ST4.out ?_; (. kernel_rfl); (. kernel_rfl); (. kernel_rfl))
  obtain ⟨BK, hB⟩ : ∃ B, B = w3.heap.size := ⟨_, rfl⟩
  rw [← hB] at RK ⊢
  clear ST4 hB
  go_wp2_with fail
  go_at_call 8
  with_reducible refine (BR.out V3 GV3.out).mono ?_
  rintro e V4 ⟨_, rfl, ⟨a5, c5, rfl, _, hR5, _⟩, gt⟩
  have GV4 := Lib.hid (grown_trans GV3.out gt)
  have RK := Lib.hid (RK.out.grown gt (by simp))
  have RI := Lib.hid (RI.out.grown gt (by simp))
  have RS3 := Lib.hid (RS3.out.up (Nat.le_refl _) gt)
  clear gt
  have RB := Lib.hid hR5
  clear hR5
  go_wp2_with fail
  go_at_call 9
  refine (refRow_is n hs V4).mono ?_
  rintro e V5 ⟨_, rfl, ⟨BW, rfl, hRR, _⟩, gt⟩
  have GV5 := Lib.hid (grown_trans GV4.out gt)
  have RK := Lib.hid (RK.out.grown gt (by simp))
  have RI := Lib.hid (RI.out.grown gt (by simp))
  have RS3 := Lib.hid (RS3.out.up (Nat.le_refl _) gt)
  have RB := Lib.hid (RB.out.up (Nat.le_refl _) gt)
  clear gt
  have RR := Lib.hid hRR
  clear DR BR hs hRR
  have HW0 : Hid (IntKind.i64.wrap (hN n : Int) = hN n) := Lib.hid (by unfold hN; split <;> rfl)
  go_upto_region 11 with fail
  obtain ⟨D0, hD0⟩ : ∃ V, V = V5.drew := ⟨_, rfl⟩
  refine wp_region_held (S := (fun W => D0.grownBy W none)) (by kernel_rfl) ?_
  change wpAnyH _ _ _ _ _ 43 #[false, false, false, false, false, false, false, false, false, false, false, false, false, false, false, false, false, false, false, false, false, false, false, false, false, false, false, false, false, false, false, false, false, false, false, false, false, false, false, false, false, false, false] _ (World.drew _)
  rw [← hD0]
  have gd : V5.grownBy D0 none := by rw [hD0]; exact grown_drew (grown_refl V5 none)
  have RI := Lib.hid (RI.out.grown gd (by simp))
  have RR := Lib.hid (RR.out.grown gd (by simp))
  have RK := Lib.hid (RK.out.grown gd (by simp))
  have GD0 := Lib.hid (grown_trans GV5.out gd)
  have hS0 : D0.grownBy D0 none := grown_refl D0 none
  refine wpAnyH_takeD (some 65) (i := 0) (v := (.int .i64 0)) rfl rfl (by kernel_rfl) (by kernel_rfl) (by kernel_rfl) (fun _ _ _ h => h) (Or.inl ⟨rfl, fun _ _ => rfl⟩) hS0 ?_
  simp only [Act.put, List.setIfInBounds_toArray, List.set_cons_succ, List.set_cons_zero]
  refine wpAnyH_takeD (some 66) (i := 1) (v := (.bool false)) rfl rfl (by kernel_rfl) (by kernel_rfl) (by kernel_rfl) (fun _ _ _ h => h) (Or.inl ⟨rfl, fun _ _ => by go_simp⟩) hS0 ?_
  simp only [Act.put, List.setIfInBounds_toArray, List.set_cons_succ, List.set_cons_zero]
  refine wpAnyH_takeD (some 67) (i := 2) (v := (.bool false)) rfl rfl (by kernel_rfl) (by kernel_rfl) (by kernel_rfl) (fun _ _ _ h => h) (Or.inl ⟨rfl, fun _ _ => rfl⟩) hS0 ?_
  simp only [Act.put, List.setIfInBounds_toArray, List.set_cons_succ, List.set_cons_zero]
  refine wpAnyH_takeD (some 68) (i := 3) (v := (.pointer (some ⟨BI, 0, none⟩))) rfl rfl (by kernel_rfl) (by kernel_rfl) (by kernel_rfl) (fun _ _ _ h => h) (Or.inl ⟨rfl, fun _ _ => by go_simp⟩) hS0 ?_
  simp only [Act.put, List.setIfInBounds_toArray, List.set_cons_succ, List.set_cons_zero]
  refine wpAnyH_takeD (some 69) (i := 4) (v := (.int .u8 (hN n : Nat))) rfl rfl (by kernel_rfl) (by kernel_rfl) (by kernel_rfl) (fun _ _ _ h => h) (Or.inl ⟨rfl, fun W hW => by have c0 : W.cell? ⟨BI, 0, none⟩ = some ((.int .u8 (hN n : Nat))) := (RI.out.grown hW (by simp)).cell 0 (by decide); clear RI RR RK; go_simp⟩) hS0 ?_
  simp only [Act.put, List.setIfInBounds_toArray, List.set_cons_succ, List.set_cons_zero]
  refine wpAnyH_takeD (some 70) (i := 5) (v := (.int .i64 (hN n : Nat))) rfl rfl (by kernel_rfl) (by kernel_rfl) (by kernel_rfl) (fun _ _ _ h => h) (Or.inl ⟨rfl, fun _ _ => by have := HW0.out; go_simp⟩) hS0 ?_
  simp only [Act.put, List.setIfInBounds_toArray, List.set_cons_succ, List.set_cons_zero]
  refine wpAnyH_takeD (some 71) (i := 6) (v := (.slice (some ⟨BW, 0, none⟩) 5 5)) rfl rfl (by kernel_rfl) (by kernel_rfl) (by kernel_rfl) (fun _ _ _ h => h) (Or.inl ⟨rfl, fun _ _ => rfl⟩) hS0 ?_
  simp only [Act.put, List.setIfInBounds_toArray, List.set_cons_succ, List.set_cons_zero]
  refine wpAnyH_takeD (some 72) (i := 7) (v := (.pointer (some ⟨BW, 0, none⟩))) rfl rfl (by kernel_rfl) (by kernel_rfl) (by kernel_rfl) (fun _ _ _ h => h) (Or.inl ⟨rfl, fun _ _ => by go_simp⟩) hS0 ?_
  simp only [Act.put, List.setIfInBounds_toArray, List.set_cons_succ, List.set_cons_zero]
  refine wpAnyH_takeD (some 73) (i := 8) (v := (.int .i64 (hN n : Nat))) rfl rfl (by kernel_rfl) (by kernel_rfl) (by kernel_rfl) (fun _ _ _ h => h) (Or.inl ⟨rfl, fun W hW => by have c0 : W.cell? ⟨BW, 0, none⟩ = some ((.int .i64 (hN n : Nat))) := (RR.out.grown hW (by simp)).cell 0 (by decide); clear RI RR RK; go_simp⟩) hS0 ?_
  simp only [Act.put, List.setIfInBounds_toArray, List.set_cons_succ, List.set_cons_zero]
  refine wpAnyH_takeD (some 74) (i := 9) (v := (.bool false)) rfl rfl (by kernel_rfl) (by kernel_rfl) (by kernel_rfl) (fun _ _ _ h => h) (Or.inl ⟨rfl, fun _ _ => by go_simp⟩) hS0 ?_
  simp only [Act.put, List.setIfInBounds_toArray, List.set_cons_succ, List.set_cons_zero]
  refine wpAnyH_takeD (some 75) (i := 10) (v := (.bool false)) rfl rfl (by kernel_rfl) (by kernel_rfl) (by kernel_rfl) (fun _ _ _ h => h) (Or.inl ⟨rfl, fun _ _ => by go_simp⟩) hS0 ?_
  simp only [Act.put, List.setIfInBounds_toArray, List.set_cons_succ, List.set_cons_zero]
  refine wpAnyH_takeD (some 76) (i := 11) (v := (.bool false)) rfl rfl (by kernel_rfl) (by kernel_rfl) (by kernel_rfl) (fun _ _ _ h => h) (Or.inl ⟨rfl, fun _ _ => rfl⟩) hS0 ?_
  simp only [Act.put, List.setIfInBounds_toArray, List.set_cons_succ, List.set_cons_zero]
  refine wpAnyH_takeD (some 77) (i := 12) (v := (.pointer (some ⟨BI, 1, none⟩))) rfl rfl (by kernel_rfl) (by kernel_rfl) (by kernel_rfl) (fun _ _ _ h => h) (Or.inl ⟨rfl, fun _ _ => by go_simp⟩) hS0 ?_
  simp only [Act.put, List.setIfInBounds_toArray, List.set_cons_succ, List.set_cons_zero]
  refine wpAnyH_takeD (some 78) (i := 13) (v := (.int .i64 (kN n : Nat))) rfl rfl (by kernel_rfl) (by kernel_rfl) (by kernel_rfl) (fun _ _ _ h => h) (Or.inl ⟨rfl, fun W hW => by have c0 : W.cell? ⟨BI, 1, none⟩ = some ((.int .i64 (kN n : Nat))) := (RI.out.grown hW (by simp)).cell 1 (by decide); clear RI RR RK; go_simp⟩) hS0 ?_
  simp only [Act.put, List.setIfInBounds_toArray, List.set_cons_succ, List.set_cons_zero]
  refine wpAnyH_takeD (some 79) (i := 14) (v := (.slice (some ⟨BW, 0, none⟩) 5 5)) rfl rfl (by kernel_rfl) (by kernel_rfl) (by kernel_rfl) (fun _ _ _ h => h) (Or.inl ⟨rfl, fun _ _ => rfl⟩) hS0 ?_
  simp only [Act.put, List.setIfInBounds_toArray, List.set_cons_succ, List.set_cons_zero]
  refine wpAnyH_takeD (some 80) (i := 15) (v := (.pointer (some ⟨BW, 1, none⟩))) rfl rfl (by kernel_rfl) (by kernel_rfl) (by kernel_rfl) (fun _ _ _ h => h) (Or.inl ⟨rfl, fun _ _ => by go_simp⟩) hS0 ?_
  simp only [Act.put, List.setIfInBounds_toArray, List.set_cons_succ, List.set_cons_zero]
  refine wpAnyH_takeD (some 81) (i := 16) (v := (.int .i64 (kN n : Nat))) rfl rfl (by kernel_rfl) (by kernel_rfl) (by kernel_rfl) (fun _ _ _ h => h) (Or.inl ⟨rfl, fun W hW => by have c0 : W.cell? ⟨BW, 1, none⟩ = some ((.int .i64 (kN n : Nat))) := (RR.out.grown hW (by simp)).cell 1 (by decide); clear RI RR RK; go_simp⟩) hS0 ?_
  simp only [Act.put, List.setIfInBounds_toArray, List.set_cons_succ, List.set_cons_zero]
  refine wpAnyH_takeD (some 82) (i := 17) (v := (.bool false)) rfl rfl (by kernel_rfl) (by kernel_rfl) (by kernel_rfl) (fun _ _ _ h => h) (Or.inl ⟨rfl, fun _ _ => by go_simp⟩) hS0 ?_
  simp only [Act.put, List.setIfInBounds_toArray, List.set_cons_succ, List.set_cons_zero]
  refine wpAnyH_takeD (some 83) (i := 18) (v := (.bool false)) rfl rfl (by kernel_rfl) (by kernel_rfl) (by kernel_rfl) (fun _ _ _ h => h) (Or.inl ⟨rfl, fun _ _ => by go_simp⟩) hS0 ?_
  simp only [Act.put, List.setIfInBounds_toArray, List.set_cons_succ, List.set_cons_zero]
  refine wpAnyH_takeD (some 84) (i := 19) (v := (.bool false)) rfl rfl (by kernel_rfl) (by kernel_rfl) (by kernel_rfl) (fun _ _ _ h => h) (Or.inl ⟨rfl, fun _ _ => rfl⟩) hS0 ?_
  simp only [Act.put, List.setIfInBounds_toArray, List.set_cons_succ, List.set_cons_zero]
  refine wpAnyH_takeD (some 85) (i := 20) (v := (.pointer (some ⟨BI, 2, none⟩))) rfl rfl (by kernel_rfl) (by kernel_rfl) (by kernel_rfl) (fun _ _ _ h => h) (Or.inl ⟨rfl, fun _ _ => by go_simp⟩) hS0 ?_
  simp only [Act.put, List.setIfInBounds_toArray, List.set_cons_succ, List.set_cons_zero]
  refine wpAnyH_takeD (some 86) (i := 21) (v := (.int .i64 (eN n : Nat))) rfl rfl (by kernel_rfl) (by kernel_rfl) (by kernel_rfl) (fun _ _ _ h => h) (Or.inl ⟨rfl, fun W hW => by have c0 : W.cell? ⟨BI, 2, none⟩ = some ((.int .i64 (eN n : Nat))) := (RI.out.grown hW (by simp)).cell 2 (by decide); clear RI RR RK; go_simp⟩) hS0 ?_
  simp only [Act.put, List.setIfInBounds_toArray, List.set_cons_succ, List.set_cons_zero]
  refine wpAnyH_takeD (some 87) (i := 22) (v := (.slice (some ⟨BW, 0, none⟩) 5 5)) rfl rfl (by kernel_rfl) (by kernel_rfl) (by kernel_rfl) (fun _ _ _ h => h) (Or.inl ⟨rfl, fun _ _ => rfl⟩) hS0 ?_
  simp only [Act.put, List.setIfInBounds_toArray, List.set_cons_succ, List.set_cons_zero]
  refine wpAnyH_takeD (some 88) (i := 23) (v := (.pointer (some ⟨BW, 2, none⟩))) rfl rfl (by kernel_rfl) (by kernel_rfl) (by kernel_rfl) (fun _ _ _ h => h) (Or.inl ⟨rfl, fun _ _ => by go_simp⟩) hS0 ?_
  simp only [Act.put, List.setIfInBounds_toArray, List.set_cons_succ, List.set_cons_zero]
  refine wpAnyH_takeD (some 89) (i := 24) (v := (.int .i64 (eN n : Nat))) rfl rfl (by kernel_rfl) (by kernel_rfl) (by kernel_rfl) (fun _ _ _ h => h) (Or.inl ⟨rfl, fun W hW => by have c0 : W.cell? ⟨BW, 2, none⟩ = some ((.int .i64 (eN n : Nat))) := (RR.out.grown hW (by simp)).cell 2 (by decide); clear RI RR RK; go_simp⟩) hS0 ?_
  simp only [Act.put, List.setIfInBounds_toArray, List.set_cons_succ, List.set_cons_zero]
  refine wpAnyH_takeD (some 90) (i := 25) (v := (.bool false)) rfl rfl (by kernel_rfl) (by kernel_rfl) (by kernel_rfl) (fun _ _ _ h => h) (Or.inl ⟨rfl, fun _ _ => by go_simp⟩) hS0 ?_
  simp only [Act.put, List.setIfInBounds_toArray, List.set_cons_succ, List.set_cons_zero]
  refine wpAnyH_takeD (some 91) (i := 26) (v := (.bool false)) rfl rfl (by kernel_rfl) (by kernel_rfl) (by kernel_rfl) (fun _ _ _ h => h) (Or.inl ⟨rfl, fun _ _ => by go_simp⟩) hS0 ?_
  simp only [Act.put, List.setIfInBounds_toArray, List.set_cons_succ, List.set_cons_zero]
  refine wpAnyH_takeD (some 92) (i := 27) (v := (.bool false)) rfl rfl (by kernel_rfl) (by kernel_rfl) (by kernel_rfl) (fun _ _ _ h => h) (Or.inl ⟨rfl, fun _ _ => rfl⟩) hS0 ?_
  simp only [Act.put, List.setIfInBounds_toArray, List.set_cons_succ, List.set_cons_zero]
  refine wpAnyH_takeD (some 93) (i := 28) (v := (.pointer (some ⟨BI, 3, none⟩))) rfl rfl (by kernel_rfl) (by kernel_rfl) (by kernel_rfl) (fun _ _ _ h => h) (Or.inl ⟨rfl, fun _ _ => by go_simp⟩) hS0 ?_
  simp only [Act.put, List.setIfInBounds_toArray, List.set_cons_succ, List.set_cons_zero]
  refine wpAnyH_takeD (some 94) (i := 29) (v := (.int .i64 (tN n : Nat))) rfl rfl (by kernel_rfl) (by kernel_rfl) (by kernel_rfl) (fun _ _ _ h => h) (Or.inl ⟨rfl, fun W hW => by have c0 : W.cell? ⟨BI, 3, none⟩ = some ((.int .i64 (tN n : Nat))) := (RI.out.grown hW (by simp)).cell 3 (by decide); clear RI RR RK; go_simp⟩) hS0 ?_
  simp only [Act.put, List.setIfInBounds_toArray, List.set_cons_succ, List.set_cons_zero]
  refine wpAnyH_takeD (some 95) (i := 30) (v := (.slice (some ⟨BW, 0, none⟩) 5 5)) rfl rfl (by kernel_rfl) (by kernel_rfl) (by kernel_rfl) (fun _ _ _ h => h) (Or.inl ⟨rfl, fun _ _ => rfl⟩) hS0 ?_
  simp only [Act.put, List.setIfInBounds_toArray, List.set_cons_succ, List.set_cons_zero]
  refine wpAnyH_takeD (some 96) (i := 31) (v := (.pointer (some ⟨BW, 3, none⟩))) rfl rfl (by kernel_rfl) (by kernel_rfl) (by kernel_rfl) (fun _ _ _ h => h) (Or.inl ⟨rfl, fun _ _ => by go_simp⟩) hS0 ?_
  simp only [Act.put, List.setIfInBounds_toArray, List.set_cons_succ, List.set_cons_zero]
  refine wpAnyH_takeD (some 97) (i := 32) (v := (.int .i64 (tN n : Nat))) rfl rfl (by kernel_rfl) (by kernel_rfl) (by kernel_rfl) (fun _ _ _ h => h) (Or.inl ⟨rfl, fun W hW => by have c0 : W.cell? ⟨BW, 3, none⟩ = some ((.int .i64 (tN n : Nat))) := (RR.out.grown hW (by simp)).cell 3 (by decide); clear RI RR RK; go_simp⟩) hS0 ?_
  simp only [Act.put, List.setIfInBounds_toArray, List.set_cons_succ, List.set_cons_zero]
  refine wpAnyH_takeD (some 98) (i := 33) (v := (.bool false)) rfl rfl (by kernel_rfl) (by kernel_rfl) (by kernel_rfl) (fun _ _ _ h => h) (Or.inl ⟨rfl, fun _ _ => by go_simp⟩) hS0 ?_
  simp only [Act.put, List.setIfInBounds_toArray, List.set_cons_succ, List.set_cons_zero]
  refine wpAnyH_takeD (some 99) (i := 34) (v := (.bool false)) rfl rfl (by kernel_rfl) (by kernel_rfl) (by kernel_rfl) (fun _ _ _ h => h) (Or.inl ⟨rfl, fun _ _ => by go_simp⟩) hS0 ?_
  simp only [Act.put, List.setIfInBounds_toArray, List.set_cons_succ, List.set_cons_zero]
  refine wpAnyH_takeD (some 100) (i := 35) (v := (.bool false)) rfl rfl (by kernel_rfl) (by kernel_rfl) (by kernel_rfl) (fun _ _ _ h => h) (Or.inl ⟨rfl, fun _ _ => rfl⟩) hS0 ?_
  simp only [Act.put, List.setIfInBounds_toArray, List.set_cons_succ, List.set_cons_zero]
  refine wpAnyH_takeD (some 101) (i := 36) (v := (.pointer (some ⟨BI, 4, none⟩))) rfl rfl (by kernel_rfl) (by kernel_rfl) (by kernel_rfl) (fun _ _ _ h => h) (Or.inl ⟨rfl, fun _ _ => by go_simp⟩) hS0 ?_
  simp only [Act.put, List.setIfInBounds_toArray, List.set_cons_succ, List.set_cons_zero]
  refine wpAnyH_takeD (some 102) (i := 37) (v := (.int .i64 (sN n : Nat))) rfl rfl (by kernel_rfl) (by kernel_rfl) (by kernel_rfl) (fun _ _ _ h => h) (Or.inl ⟨rfl, fun W hW => by have c0 : W.cell? ⟨BI, 4, none⟩ = some ((.int .i64 (sN n : Nat))) := (RI.out.grown hW (by simp)).cell 4 (by decide); clear RI RR RK; go_simp⟩) hS0 ?_
  simp only [Act.put, List.setIfInBounds_toArray, List.set_cons_succ, List.set_cons_zero]
  refine wpAnyH_takeD (some 103) (i := 38) (v := (.slice (some ⟨BW, 0, none⟩) 5 5)) rfl rfl (by kernel_rfl) (by kernel_rfl) (by kernel_rfl) (fun _ _ _ h => h) (Or.inl ⟨rfl, fun _ _ => rfl⟩) hS0 ?_
  simp only [Act.put, List.setIfInBounds_toArray, List.set_cons_succ, List.set_cons_zero]
  refine wpAnyH_takeD (some 104) (i := 39) (v := (.pointer (some ⟨BW, 4, none⟩))) rfl rfl (by kernel_rfl) (by kernel_rfl) (by kernel_rfl) (fun _ _ _ h => h) (Or.inl ⟨rfl, fun _ _ => by go_simp⟩) hS0 ?_
  simp only [Act.put, List.setIfInBounds_toArray, List.set_cons_succ, List.set_cons_zero]
  refine wpAnyH_takeD (some 105) (i := 40) (v := (.int .i64 (sN n : Nat))) rfl rfl (by kernel_rfl) (by kernel_rfl) (by kernel_rfl) (fun _ _ _ h => h) (Or.inl ⟨rfl, fun W hW => by have c0 : W.cell? ⟨BW, 4, none⟩ = some ((.int .i64 (sN n : Nat))) := (RR.out.grown hW (by simp)).cell 4 (by decide); clear RI RR RK; go_simp⟩) hS0 ?_
  simp only [Act.put, List.setIfInBounds_toArray, List.set_cons_succ, List.set_cons_zero]
  refine wpAnyH_takeD (some 106) (i := 41) (v := (.bool false)) rfl rfl (by kernel_rfl) (by kernel_rfl) (by kernel_rfl) (fun _ _ _ h => h) (Or.inl ⟨rfl, fun _ _ => by go_simp⟩) hS0 ?_
  simp only [Act.put, List.setIfInBounds_toArray, List.set_cons_succ, List.set_cons_zero]
  refine wpAnyH_takeD (some 107) (i := 42) (v := (.bool false)) rfl rfl (by kernel_rfl) (by kernel_rfl) (by kernel_rfl) (fun _ _ _ h => h) (Or.inl ⟨rfl, fun _ _ => by go_simp⟩) hS0 ?_
  simp only [Act.put, List.setIfInBounds_toArray, List.set_cons_succ, List.set_cons_zero]
  refine wpAnyH_done (by kernel_rfl) ?_ _
  clear hS0 HW0 hD0
  have RS3 := Lib.hid (RS3.out.up (Nat.le_refl _) gd)
  have RB := Lib.hid (RB.out.up (Nat.le_refl _) gd)
  clear RI RR gd
  have LK := Lib.hid (load_keys RK.out)
  have HNO := Lib.hid (nonce_any n kid ctr (.slice a3 (kN n) c3) s D0 HSL.out)
  go_upto_region 15 with fail
  go_wp2_with (with_reducible refine wpList_here ?_; refine wpList_ld (p := .pointer (some ⟨BK, 0, none⟩)) 11 ?_ ?_ ?_ LK.out ?_; (. rfl); (. kernel_rfl); (. kernel_rfl))
  go_at_call 10
  with_reducible refine (HNO.out).mono ?_
  rintro e w6 ⟨rfl, g⟩
  have gb := World.grownBy_alloc w6 (.cells #[.int .u8 0, .int .u8 0, .int .u8 0, .int .u8 0, .int .u8 0, .int .u8 0, .int .u8 0, .int .u8 0, .int .u8 0, .int .u8 0, .int .u8 0, .int .u8 0] 32) none
  have hK := RowAt.new w6 32 12 (by8 fun _ => 0) #[.int .u8 0, .int .u8 0, .int .u8 0, .int .u8 0, .int .u8 0, .int .u8 0, .int .u8 0, .int .u8 0, .int .u8 0, .int .u8 0, .int .u8 0, .int .u8 0] rfl
  obtain ⟨V6, st4, hK4, g4⟩ := store_non (nonF s ctr) hK
  have gt := grown_trans g (grown_into gb g4 (Nat.le_refl _))
  have GV6 := Lib.hid (grown_trans GD0.out gt)
  have ST4 := Lib.hid st4
  have RN := Lib.hid hK4
  have RK := Lib.hid (RK.out.grown gt (by simp))
  have RS3 := Lib.hid (RS3.out.up (Nat.le_refl _) gt)
  have RB := Lib.hid (RB.out.up (Nat.le_refl _) gt)
  clear st4 hK4 hK gb g4 gt g LK HNO
  go_upto_region 16 with (with_reducible refine wpList_here ?_; refine wpList_st (p := .pointer (some ⟨w6.heap.size, 0, none⟩)) (.tmp 16) (.tmp 133) rfl rfl ?_ ?_ ?_ ST4.out ?_; (. kernel_rfl); (. kernel_rfl); (. kernel_rfl))
  obtain ⟨BN, hB⟩ : ∃ B, B = w6.heap.size := ⟨_, rfl⟩
  rw [← hB] at RN ⊢
  clear ST4 hB
  go_wp2_with fail
  go_at_call 11
  with_reducible refine (RSAL.out V6 GV6.out).mono ?_
  rintro e V7 ⟨_, rfl, ⟨a6, c6, rfl, _, hR6, _⟩, gt⟩
  have GV7 := Lib.hid (grown_trans GV6.out gt)
  have RT := Lib.hid hR6
  have RK := Lib.hid (RK.out.grown gt (by simp))
  have RS3 := Lib.hid (RS3.out.up (Nat.le_refl _) gt)
  have RB := Lib.hid (RB.out.up (Nat.le_refl _) gt)
  have RN := Lib.hid (RN.out.grown gt (by simp))
  clear gt hR6 RSAL
  go_upto_region 17 with fail
  obtain ⟨V0, hV0⟩ : ∃ V, V = V7.drew := ⟨_, rfl⟩
  refine wp_region_held (S := (fun W => V0.grownBy W none)) (by kernel_rfl) ?_
  change wpAnyH _ _ _ _ _ 56 #[false, false, false, false, false, false, false, false, false, false, false, false, false, false, false, false, false, false, false, false, false, false, false, false, false, false, false, false, false, false, false, false, false, false, false, false, false, false, false, false, false, false, false, false, false, false, false, false, false, false, false, false, false, false, false, false] _ (World.drew _)
  rw [← hV0]
  have gd : V7.grownBy V0 none := by rw [hV0]; exact grown_drew (grown_refl V7 none)
  have RK := Lib.hid (RK.out.grown gd (by simp))
  have RN := Lib.hid (RN.out.grown gd (by simp))
  have RS3 := Lib.hid (RS3.out.up (Nat.le_refl _) gd)
  have RB := Lib.hid (RB.out.up (Nat.le_refl _) gd)
  have RT := Lib.hid (RT.out.up (Nat.le_refl _) gd)
  have G0 := Lib.hid (grown_trans GV7.out gd)
  clear gd hV0
  have hS0 : V0.grownBy V0 none := grown_refl V0 none
  have hKE := RKEY.out V0 G0.out
  refine wpAnyH_takeD (some 138) (i := 0) (v := (.int .i64 0)) rfl rfl (by kernel_rfl) (by kernel_rfl) (by kernel_rfl) (fun _ _ _ h => h) (Or.inl ⟨rfl, fun _ _ => rfl⟩) hS0 ?_
  simp only [Act.put, List.setIfInBounds_toArray, List.set_cons_succ, List.set_cons_zero]
  refine wpAnyH_takeD (some 139) (i := 1) (v := (.bool true)) rfl rfl (by kernel_rfl) (by kernel_rfl) (by kernel_rfl) (fun _ _ _ h => h) (Or.inl ⟨rfl, fun _ _ => by go_simp⟩) hS0 ?_
  simp only [Act.put, List.setIfInBounds_toArray, List.set_cons_succ, List.set_cons_zero]
  refine wpAnyH_takeD (some 140) (i := 2) (v := (.bool true)) rfl rfl (by kernel_rfl) (by kernel_rfl) (by kernel_rfl) (fun _ _ _ h => h) (Or.inl ⟨rfl, fun _ _ => rfl⟩) hS0 ?_
  simp only [Act.put, List.setIfInBounds_toArray, List.set_cons_succ, List.set_cons_zero]
  refine wpAnyH_takeD (some 141) (i := 3) (v := (.int .i64 0)) rfl rfl (by kernel_rfl) (by kernel_rfl) (by kernel_rfl) (fun _ _ _ h => h) (Or.inl ⟨rfl, fun _ _ => rfl⟩) hS0 ?_
  simp only [Act.put, List.setIfInBounds_toArray, List.set_cons_succ, List.set_cons_zero]
  refine wpAnyH_takeD (some 142) (i := 4) (v := (.bool true)) rfl rfl (by kernel_rfl) (by kernel_rfl) (by kernel_rfl) (fun _ _ _ h => h) (Or.inl ⟨rfl, fun _ _ => by go_simp⟩) hS0 ?_
  simp only [Act.put, List.setIfInBounds_toArray, List.set_cons_succ, List.set_cons_zero]
  refine wpAnyH_takeD (some 143) (i := 5) (v := (.bool true)) rfl rfl (by kernel_rfl) (by kernel_rfl) (by kernel_rfl) (fun _ _ _ h => h) (Or.inl ⟨rfl, fun _ _ => by go_simp⟩) hS0 ?_
  simp only [Act.put, List.setIfInBounds_toArray, List.set_cons_succ, List.set_cons_zero]
  refine wpAnyH_takeD (some 144) (i := 6) (v := (.bool true)) rfl rfl (by kernel_rfl) (by kernel_rfl) (by kernel_rfl) (fun _ _ _ h => h) (Or.inl ⟨rfl, fun _ _ => rfl⟩) hS0 ?_
  simp only [Act.put, List.setIfInBounds_toArray, List.set_cons_succ, List.set_cons_zero]
  refine wpAnyH_takeD (some 145) (i := 7) (v := (.pointer (some ⟨BK, 0, none⟩))) rfl rfl (by kernel_rfl) (by kernel_rfl) (by kernel_rfl) (fun _ _ _ h => h) (Or.inl ⟨rfl, fun _ _ => by go_simp⟩) hS0 ?_
  simp only [Act.put, List.setIfInBounds_toArray, List.set_cons_succ, List.set_cons_zero]
  refine wpAnyH_takeD (some 146) (i := 8) (v := (.int .u16 n)) rfl rfl (by kernel_rfl) (by kernel_rfl) (by kernel_rfl) (fun _ _ _ h => h) (Or.inl ⟨rfl, fun W hW => by have c0 : W.cell? ⟨BK, 0, none⟩ = some (.int .u16 n) := (RK.out.grown hW (by simp)).cell 0 (by decide); go_simp⟩) hS0 ?_
  simp only [Act.put, List.setIfInBounds_toArray, List.set_cons_succ, List.set_cons_zero]
  refine wpAnyH_takeD (some 147) (i := 9) (v := (.int .u16 n)) rfl rfl (by kernel_rfl) (by kernel_rfl) (by kernel_rfl) (fun _ _ _ h => h) (Or.inl ⟨rfl, fun _ _ => rfl⟩) hS0 ?_
  simp only [Act.put, List.setIfInBounds_toArray, List.set_cons_succ, List.set_cons_zero]
  refine wpAnyH_takeD (some 148) (i := 10) (v := (.bool true)) rfl rfl (by kernel_rfl) (by kernel_rfl) (by kernel_rfl) (fun _ _ _ h => h) (Or.inl ⟨rfl, fun _ _ => by go_simp⟩) hS0 ?_
  simp only [Act.put, List.setIfInBounds_toArray, List.set_cons_succ, List.set_cons_zero]
  refine wpAnyH_takeD (some 149) (i := 11) (v := (.bool true)) rfl rfl (by kernel_rfl) (by kernel_rfl) (by kernel_rfl) (fun _ _ _ h => h) (Or.inl ⟨rfl, fun _ _ => by go_simp⟩) hS0 ?_
  simp only [Act.put, List.setIfInBounds_toArray, List.set_cons_succ, List.set_cons_zero]
  refine wpAnyH_takeD (some 150) (i := 12) (v := (.bool true)) rfl rfl (by kernel_rfl) (by kernel_rfl) (by kernel_rfl) (fun _ _ _ h => h) (Or.inl ⟨rfl, fun _ _ => rfl⟩) hS0 ?_
  simp only [Act.put, List.setIfInBounds_toArray, List.set_cons_succ, List.set_cons_zero]
  refine wpAnyH_takeD (some 151) (i := 13) (v := (.pointer (some ⟨BK, 1, none⟩))) rfl rfl (by kernel_rfl) (by kernel_rfl) (by kernel_rfl) (fun _ _ _ h => h) (Or.inl ⟨rfl, fun _ _ => by go_simp⟩) hS0 ?_
  simp only [Act.put, List.setIfInBounds_toArray, List.set_cons_succ, List.set_cons_zero]
  refine wpAnyH_takeD (some 152) (i := 14) (v := (.int .u64 kid)) rfl rfl (by kernel_rfl) (by kernel_rfl) (by kernel_rfl) (fun _ _ _ h => h) (Or.inl ⟨rfl, fun W hW => by have c0 : W.cell? ⟨BK, 1, none⟩ = some (.int .u64 kid) := (RK.out.grown hW (by simp)).cell 1 (by decide); go_simp⟩) hS0 ?_
  simp only [Act.put, List.setIfInBounds_toArray, List.set_cons_succ, List.set_cons_zero]
  refine wpAnyH_takeD (some 153) (i := 15) (v := (.int .u64 kid)) rfl rfl (by kernel_rfl) (by kernel_rfl) (by kernel_rfl) (fun _ _ _ h => h) (Or.inl ⟨rfl, fun _ _ => rfl⟩) hS0 ?_
  simp only [Act.put, List.setIfInBounds_toArray, List.set_cons_succ, List.set_cons_zero]
  refine wpAnyH_takeD (some 154) (i := 16) (v := (.bool true)) rfl rfl (by kernel_rfl) (by kernel_rfl) (by kernel_rfl) (fun _ _ _ h => h) (Or.inl ⟨rfl, fun _ _ => by go_simp⟩) hS0 ?_
  simp only [Act.put, List.setIfInBounds_toArray, List.set_cons_succ, List.set_cons_zero]
  refine wpAnyH_takeD (some 155) (i := 17) (v := (.bool true)) rfl rfl (by kernel_rfl) (by kernel_rfl) (by kernel_rfl) (fun _ _ _ h => h) (Or.inl ⟨rfl, fun _ _ => by go_simp⟩) hS0 ?_
  simp only [Act.put, List.setIfInBounds_toArray, List.set_cons_succ, List.set_cons_zero]
  refine wpAnyH_takeD (some 156) (i := 18) (v := (.bool true)) rfl rfl (by kernel_rfl) (by kernel_rfl) (by kernel_rfl) (fun _ _ _ h => h) (Or.inl ⟨rfl, fun _ _ => rfl⟩) hS0 ?_
  simp only [Act.put, List.setIfInBounds_toArray, List.set_cons_succ, List.set_cons_zero]
  refine wpAnyH_takeD (some 157) (i := 19) (v := (.pointer (some ⟨BK, 2, none⟩))) rfl rfl (by kernel_rfl) (by kernel_rfl) (by kernel_rfl) (fun _ _ _ h => h) (Or.inl ⟨rfl, fun _ _ => by go_simp⟩) hS0 ?_
  simp only [Act.put, List.setIfInBounds_toArray, List.set_cons_succ, List.set_cons_zero]
  refine wpAnyH_takeD (some 158) (i := 20) (v := (.slice a3 (kN n) c3)) rfl rfl (by kernel_rfl) (by kernel_rfl) (by kernel_rfl) (fun _ _ _ h => h) (Or.inl ⟨rfl, fun W hW => by have c0 : W.cell? ⟨BK, 2, none⟩ = some (.slice a3 (kN n) c3) := (RK.out.grown hW (by simp)).cell 2 (by decide); go_simp⟩) hS0 ?_
  simp only [Act.put, List.setIfInBounds_toArray, List.set_cons_succ, List.set_cons_zero]
  refine wpAnyH_takeD (some 159) (i := 21) (v := (.string SK)) rfl rfl (by kernel_rfl) (by kernel_rfl) (by kernel_rfl) (fun _ _ _ h => h) (Or.inl ⟨rfl, fun W hW => by have z := run_string c3 (RS3.out.up (Nat.le_refl _) hW) HKL.out; rw [← HSK.out] at z; go_simp⟩) hS0 ?_
  simp only [Act.put, List.setIfInBounds_toArray, List.set_cons_succ, List.set_cons_zero]
  refine wpAnyH_takeD (some 160) (i := 22) (v := (.int .u16 n)) rfl rfl (by kernel_rfl) (by kernel_rfl) (by kernel_rfl) (fun _ _ _ h => h) (Or.inl ⟨rfl, fun _ _ => rfl⟩) hS0 ?_
  simp only [Act.put, List.setIfInBounds_toArray, List.set_cons_succ, List.set_cons_zero]
  refine wpAnyH_takeD (some 161) (i := 23) (v := (.slice ba L c)) rfl rfl (by kernel_rfl) (by kernel_rfl) (by kernel_rfl) (fun _ _ _ h => h) (Or.inl ⟨rfl, fun _ _ => rfl⟩) hS0 ?_
  simp only [Act.put, List.setIfInBounds_toArray, List.set_cons_succ, List.set_cons_zero]
  refine wpAnyH_takeD (some 162) (i := 24) (v := (.int .u64 kid)) rfl rfl (by kernel_rfl) (by kernel_rfl) (by kernel_rfl) (fun _ _ _ h => h) (Or.inl ⟨rfl, fun _ _ => rfl⟩) hS0 ?_
  simp only [Act.put, List.setIfInBounds_toArray, List.set_cons_succ, List.set_cons_zero]
  refine wpAnyH_callD (some 163) (i := 25) 12 #[.int .u16 n, .slice ba L c, .int .u64 kid] (by kernel_rfl) rfl rfl rfl (exec_fn3 _ _ _ _ _ _ _ rfl rfl rfl rfl) rkey_enters hKE ?_
  rintro _ X1 ⟨⟨a7, c7, rfl, _, hR7, _⟩, hS1⟩
  refine ⟨hS1, ?_⟩
  have z := run_string c7 hR7 HKL.out
  rw [← HSK.out] at z
  simp only [Act.put, List.setIfInBounds_toArray, List.set_cons_succ, List.set_cons_zero]
  refine wpAnyH_yieldD (some 164) (i := 26) (v := (.string SK)) (by kernel_rfl) rfl rfl rfl (by go_simp) hS1 ?_
  simp only [Act.put, List.setIfInBounds_toArray, List.set_cons_succ, List.set_cons_zero]
  clear z hR7 hKE
  refine wpAnyH_takeD (some 165) (i := 27) (v := (.bool true)) rfl rfl (by kernel_rfl) (by kernel_rfl) (by kernel_rfl) (fun _ _ _ h => h) (Or.inl ⟨rfl, fun _ _ => by go_simp⟩) hS1 ?_
  simp only [Act.put, List.setIfInBounds_toArray, List.set_cons_succ, List.set_cons_zero]
  refine wpAnyH_takeD (some 166) (i := 28) (v := (.bool true)) rfl rfl (by kernel_rfl) (by kernel_rfl) (by kernel_rfl) (fun _ _ _ h => h) (Or.inl ⟨rfl, fun _ _ => by go_simp⟩) hS1 ?_
  simp only [Act.put, List.setIfInBounds_toArray, List.set_cons_succ, List.set_cons_zero]
  refine wpAnyH_takeD (some 167) (i := 29) (v := (.bool true)) rfl rfl (by kernel_rfl) (by kernel_rfl) (by kernel_rfl) (fun _ _ _ h => h) (Or.inl ⟨rfl, fun _ _ => rfl⟩) hS1 ?_
  simp only [Act.put, List.setIfInBounds_toArray, List.set_cons_succ, List.set_cons_zero]
  refine wpAnyH_takeD (some 168) (i := 30) (v := (.pointer (some ⟨BK, 3, none⟩))) rfl rfl (by kernel_rfl) (by kernel_rfl) (by kernel_rfl) (fun _ _ _ h => h) (Or.inl ⟨rfl, fun _ _ => by go_simp⟩) hS1 ?_
  simp only [Act.put, List.setIfInBounds_toArray, List.set_cons_succ, List.set_cons_zero]
  refine wpAnyH_takeD (some 169) (i := 31) (v := (.slice (some ⟨BK, 3, none⟩) 12 12)) rfl rfl (by kernel_rfl) (by kernel_rfl) (by kernel_rfl) (fun _ _ _ h => h) (Or.inl ⟨rfl, fun _ _ => by go_simp⟩) hS1 ?_
  simp only [Act.put, List.setIfInBounds_toArray, List.set_cons_succ, List.set_cons_zero]
  refine wpAnyH_takeD (some 170) (i := 32) (v := (.string SS)) rfl rfl (by kernel_rfl) (by kernel_rfl) (by kernel_rfl) (fun _ _ _ h => h) (Or.inl ⟨rfl, fun W hW => by have z := run_string 12 (rd_salt (RK.out.grown hW (by simp))) HSL.out; rw [← HSS.out] at z; go_simp⟩) hS1 ?_
  simp only [Act.put, List.setIfInBounds_toArray, List.set_cons_succ, List.set_cons_zero]
  refine wpAnyH_takeD (some 171) (i := 33) (v := (.slice a6 12 c6)) rfl rfl (by kernel_rfl) (by kernel_rfl) (by kernel_rfl) (fun _ _ _ h => h) (Or.inl ⟨rfl, fun _ _ => rfl⟩) hS1 ?_
  simp only [Act.put, List.setIfInBounds_toArray, List.set_cons_succ, List.set_cons_zero]
  refine wpAnyH_takeD (some 172) (i := 34) (v := (.string SS)) rfl rfl (by kernel_rfl) (by kernel_rfl) (by kernel_rfl) (fun _ _ _ h => h) (Or.inl ⟨rfl, fun W hW => by have z := run_string c6 (RT.out.up (Nat.le_refl _) hW) HSL.out; rw [← HSS.out] at z; go_simp⟩) hS1 ?_
  simp only [Act.put, List.setIfInBounds_toArray, List.set_cons_succ, List.set_cons_zero]
  refine wpAnyH_takeD (some 173) (i := 35) (v := (.bool true)) rfl rfl (by kernel_rfl) (by kernel_rfl) (by kernel_rfl) (fun _ _ _ h => h) (Or.inl ⟨rfl, fun _ _ => by go_simp⟩) hS1 ?_
  simp only [Act.put, List.setIfInBounds_toArray, List.set_cons_succ, List.set_cons_zero]
  refine wpAnyH_takeD (some 174) (i := 36) (v := (.bool true)) rfl rfl (by kernel_rfl) (by kernel_rfl) (by kernel_rfl) (fun _ _ _ h => h) (Or.inl ⟨rfl, fun _ _ => by go_simp⟩) hS1 ?_
  simp only [Act.put, List.setIfInBounds_toArray, List.set_cons_succ, List.set_cons_zero]
  refine wpAnyH_takeD (some 175) (i := 37) (v := (.bool true)) rfl rfl (by kernel_rfl) (by kernel_rfl) (by kernel_rfl) (fun _ _ _ h => h) (Or.inl ⟨rfl, fun _ _ => rfl⟩) hS1 ?_
  simp only [Act.put, List.setIfInBounds_toArray, List.set_cons_succ, List.set_cons_zero]
  refine wpAnyH_takeD (some 176) (i := 38) (v := (.slice a5 (sN n) c5)) rfl rfl (by kernel_rfl) (by kernel_rfl) (by kernel_rfl) (fun _ _ _ h => h) (Or.inl ⟨rfl, fun _ _ => rfl⟩) hS1 ?_
  simp only [Act.put, List.setIfInBounds_toArray, List.set_cons_succ, List.set_cons_zero]
  refine wpAnyH_takeD (some 177) (i := 39) (v := (.string SB)) rfl rfl (by kernel_rfl) (by kernel_rfl) (by kernel_rfl) (fun _ _ _ h => h) (Or.inl ⟨rfl, fun W hW => by have z := run_string c5 (RB.out.up (Nat.le_refl _) hW) HBF.out; rw [← HSB.out] at z; go_simp⟩) hS1 ?_
  simp only [Act.put, List.setIfInBounds_toArray, List.set_cons_succ, List.set_cons_zero]
  refine wpAnyH_takeD (some 178) (i := 40) (v := (.int .u16 n)) rfl rfl (by kernel_rfl) (by kernel_rfl) (by kernel_rfl) (fun _ _ _ h => h) (Or.inl ⟨rfl, fun _ _ => rfl⟩) hS1 ?_
  simp only [Act.put, List.setIfInBounds_toArray, List.set_cons_succ, List.set_cons_zero]
  refine wpAnyH_takeD (some 179) (i := 41) (v := (.slice ba L c)) rfl rfl (by kernel_rfl) (by kernel_rfl) (by kernel_rfl) (fun _ _ _ h => h) (Or.inl ⟨rfl, fun _ _ => rfl⟩) hS1 ?_
  simp only [Act.put, List.setIfInBounds_toArray, List.set_cons_succ, List.set_cons_zero]
  have hKE := RBEH.out X1 (grown_trans G0.out hS1)
  refine wpAnyH_callD (some 180) (i := 42) 13 #[.int .u16 n, .slice ba L c] (by kernel_rfl) rfl rfl rfl (exec_fn2 _ _ _ _ _ rfl rfl rfl) rbeh_enters hKE ?_
  rintro _ X2 ⟨⟨a8, c8, rfl, _, hR8, _⟩, gx⟩
  have hS2 := grown_trans hS1 gx
  refine ⟨hS2, ?_⟩
  have z := run_string c8 hR8 HBF.out
  rw [← HSB.out] at z
  simp only [Act.put, List.setIfInBounds_toArray, List.set_cons_succ, List.set_cons_zero]
  refine wpAnyH_yieldD (some 181) (i := 43) (v := (.string SB)) (by kernel_rfl) rfl rfl rfl (by go_simp) hS2 ?_
  simp only [Act.put, List.setIfInBounds_toArray, List.set_cons_succ, List.set_cons_zero]
  clear z hR8 gx hKE
  refine wpAnyH_takeD (some 182) (i := 44) (v := (.bool true)) rfl rfl (by kernel_rfl) (by kernel_rfl) (by kernel_rfl) (fun _ _ _ h => h) (Or.inl ⟨rfl, fun _ _ => by go_simp⟩) hS2 ?_
  simp only [Act.put, List.setIfInBounds_toArray, List.set_cons_succ, List.set_cons_zero]
  refine wpAnyH_takeD (some 183) (i := 45) (v := (.bool true)) rfl rfl (by kernel_rfl) (by kernel_rfl) (by kernel_rfl) (fun _ _ _ h => h) (Or.inl ⟨rfl, fun _ _ => by go_simp⟩) hS2 ?_
  simp only [Act.put, List.setIfInBounds_toArray, List.set_cons_succ, List.set_cons_zero]
  refine wpAnyH_takeD (some 184) (i := 46) (v := (.bool true)) rfl rfl (by kernel_rfl) (by kernel_rfl) (by kernel_rfl) (fun _ _ _ h => h) (Or.inl ⟨rfl, fun _ _ => rfl⟩) hS2 ?_
  simp only [Act.put, List.setIfInBounds_toArray, List.set_cons_succ, List.set_cons_zero]
  refine wpAnyH_takeD (some 185) (i := 47) (v := (.slice (some ⟨BN, 0, none⟩) 12 12)) rfl rfl (by kernel_rfl) (by kernel_rfl) (by kernel_rfl) (fun _ _ _ h => h) (Or.inl ⟨rfl, fun _ _ => by go_simp⟩) hS2 ?_
  simp only [Act.put, List.setIfInBounds_toArray, List.set_cons_succ, List.set_cons_zero]
  refine wpAnyH_takeD (some 186) (i := 48) (v := (.string SN)) rfl rfl (by kernel_rfl) (by kernel_rfl) (by kernel_rfl) (fun _ _ _ h => h) (Or.inl ⟨rfl, fun W hW => by have z := run_string 12 (rd_non (RN.out.grown hW (by simp))) HNL.out; rw [← HSN.out] at z; go_simp⟩) hS2 ?_
  simp only [Act.put, List.setIfInBounds_toArray, List.set_cons_succ, List.set_cons_zero]
  refine wpAnyH_takeD (some 187) (i := 49) (v := (.slice a6 12 c6)) rfl rfl (by kernel_rfl) (by kernel_rfl) (by kernel_rfl) (fun _ _ _ h => h) (Or.inl ⟨rfl, fun _ _ => rfl⟩) hS2 ?_
  simp only [Act.put, List.setIfInBounds_toArray, List.set_cons_succ, List.set_cons_zero]
  refine wpAnyH_takeD (some 188) (i := 50) (v := (.int .u64 ctr)) rfl rfl (by kernel_rfl) (by kernel_rfl) (by kernel_rfl) (fun _ _ _ h => h) (Or.inl ⟨rfl, fun _ _ => rfl⟩) hS2 ?_
  simp only [Act.put, List.setIfInBounds_toArray, List.set_cons_succ, List.set_cons_zero]
  have hKE := refNonce_any c6 ctr a6 s X2 (RT.out.up (Nat.le_refl _) hS2) HSL.out HCT.out
  refine wpAnyH_callD (some 189) (i := 51) 14 #[.slice a6 12 c6, .int .u64 ctr] (by kernel_rfl) rfl rfl rfl (exec_fn2 _ _ _ _ _ rfl rfl rfl) rnon_enters hKE ?_
  rintro _ X3 ⟨⟨a9, c9, rfl, _, hR9, _⟩, gx⟩
  have hS3 := grown_trans hS2 gx
  refine ⟨hS3, ?_⟩
  have z := run_string c9 hR9 HNL.out
  rw [← HSN.out] at z
  simp only [Act.put, List.setIfInBounds_toArray, List.set_cons_succ, List.set_cons_zero]
  refine wpAnyH_yieldD (some 190) (i := 52) (v := (.string SN)) (by kernel_rfl) rfl rfl rfl (by go_simp) hS3 ?_
  simp only [Act.put, List.setIfInBounds_toArray, List.set_cons_succ, List.set_cons_zero]
  clear z hR9 gx hKE
  refine wpAnyH_takeD (some 191) (i := 53) (v := (.bool true)) rfl rfl (by kernel_rfl) (by kernel_rfl) (by kernel_rfl) (fun _ _ _ h => h) (Or.inl ⟨rfl, fun _ _ => by go_simp⟩) hS3 ?_
  simp only [Act.put, List.setIfInBounds_toArray, List.set_cons_succ, List.set_cons_zero]
  refine wpAnyH_takeD (some 192) (i := 54) (v := (.bool true)) rfl rfl (by kernel_rfl) (by kernel_rfl) (by kernel_rfl) (fun _ _ _ h => h) (Or.inl ⟨rfl, fun _ _ => by go_simp⟩) hS3 ?_
  simp only [Act.put, List.setIfInBounds_toArray, List.set_cons_succ, List.set_cons_zero]
  refine wpAnyH_takeD (some 8) (i := 55) (v := (.bool true)) rfl rfl (by kernel_rfl) (by kernel_rfl) (by kernel_rfl) (fun _ _ _ h => h) (Or.inl ⟨rfl, fun _ _ => rfl⟩) hS3 ?_
  simp only [Act.put, List.setIfInBounds_toArray, List.set_cons_succ, List.set_cons_zero]
  refine wpAnyH_done (by kernel_rfl) ?_ _
  go_wp2_with fail
  go_ret
  exact ⟨rfl, grown_trans G0.out hS3⟩
theorem suiteTells_yes (n L c kid ctr : Nat) (ba : Option Addr) (base : Nat → Nat) (w : World) (hL : Laid w 1 2 FC KC) (hb : Rd w w.heap.size ba L base) (hbl : ∀ i, base i < 256) (hc : L ≤ c) (hn : n < 65536) (hk : kid < 18446744073709551616) (hct : ctr < 18446744073709551616) :
    Calls Tryd.prog 3 #[.int .u16 n, .slice ba L c, .int .u64 kid, .int .u64 ctr] w (SaysYes w) := by
  by_cases h2 : 2000 < L
  · exact (tells_long n L c kid ctr ba w h2).mono fun _ _ h => ⟨h⟩
  · by_cases hs : IsSuite n
    · by_cases h0 : L = 0 ∨ 1024 < L
      · exact (tells_arg n L c kid ctr ba w hs h0 (by omega)).mono fun _ _ h => ⟨h⟩
      · exact (tells_in n L c kid ctr ba base w hL hb hbl hc hs (by omega) (by omega) hk hct).mono fun _ _ h => ⟨h⟩
    · exact (tells_no n L c kid ctr ba w hn hs (by omega)).mono fun _ _ h => ⟨h⟩
end Go.Proofs.YtobaplndoaeoiaaDoor
namespace Go.Proofs.YtobaplndoaeoiaaDoor
open Go.ChangeShapes Go.WideShapes Go.ChangeAt Go.RowKit

section
variable {H : Type} {enc : TypeId × Value → H} {P : Program}

theorem below_of_grown {w w' : World} (h : w.grownBy w' none) : Below w.heap.size w w' := ⟨h.os, h.tape, h.output, h.size, fun k hk => h.block k hk (by simp)⟩

theorem trodAll_below (hl : laidOutB P = true) {W W' : World} (hb : Below W.heap.size W W') : ∀ (ts : List TypeId) (vs : List Value) (ds : List (DataW H)) (ps : List MemPlace),
    DataW.TrodAll enc P W 0 (fun _ => true) true ts vs ds ps → (∀ t ∈ ts, P.readableRec t = true ∧ t < P.types.size) → (∀ x ∈ ps, x.block < W.heap.size) →
    DataW.TrodAll enc P W' 0 (fun b => decide (b < W.heap.size)) true ts vs ds ps
  | [], vs, ds, ps, h, _, _ => by
    obtain ⟨rfl, rfl, rfl⟩ := trodAll_nil h
    rfl
  | t :: ts, vs, ds, ps, h, hr, hlt => by
    obtain ⟨v, vs', d, ds', p, q, rfl, rfl, rfl, h1, h2⟩ := trodAll_cons h
    have hrt := hr t (by simp)
    exact ⟨p, q, Below.trod hl hrt.1 hrt.2 h1 hb (fun x hx => hlt x (by simp [hx])), trodAll_below hl hb ts vs' ds' q h2 (fun t' ht' => hr t' (by simp [ht'])) (fun x hx => hlt x (by simp [hx])), rfl⟩

/-- The end of a statement that is a law: true, and all that came in reads as it did. -/
theorem law_post (hl : laidOutB P = true) {f : Func} {s : ChangeSpec} {W W' : World} {args : Array Value} {ds gs : List (DataW H)} {before : List MemPlace} {tb : TypeId}
    (hW : DataW.Whole enc P f.params.toList s.vars false W args.toList ds gs before) (hv : s.vars = []) (hs : s.fn H ds = { results := [.lit (.bool true)], args := ds, vars := [] })
    (hr : f.resultTypes = #[tb]) (htb : P.underlying tb = some .bool) (hread : ∀ t ∈ f.params.toList, P.readableRec t = true ∧ t < P.types.size) (hg : W.grownBy W' none) :
    s.post enc P f false true false false W args (.bool true) W' := by
  have hb := below_of_grown hg
  have hlt : ∀ p ∈ before, p.block < W.heap.size := fun p hp => hW.lt p hp
  have hW0 := hW
  obtain ⟨p, q, hA, hV, rfl, _, _⟩ := hW
  rw [hv] at hV
  obtain ⟨rfl, rfl⟩ := trodVars_none hV
  refine ⟨ds, [], p ++ [], [], p, [], hW0, ?_, ?_, ?_, World.keptBut_mono (fun x hx => ⟨hx, Or.inr (Or.inl (by simpa using hx))⟩) (hb.frame (· ∈ p ++ [])), fun h => by cases h⟩
  · rw [hr, List.append_nil, hs]
    exact trodAll_mk1 (shut_bool htb true)
  · rw [List.append_nil, hs]
    exact trodAll_below hl hb _ _ _ _ hA hread (fun x hx => hlt x (by simpa using hx))
  · rw [hv, List.append_nil, hs]
    rfl

/-- Bytes that come in. -/
theorem open_bytes {W : World} {t e : TypeId} {r : Reach} {b0 : Nat} {v : Value} {d : DataW H} {ps : List MemPlace} (ht : P.underlying t = some (.slice e)) (he : P.underlying e = some (.int .u8)) (hc : P.cellsOf e = 1)
    (hval : Value.okWide P W r b0 t v) (h : DataW.Trod enc P W 0 (fun _ => true) true t v d ps) :
    ∃ a n c f, v = .slice a n c ∧ n ≤ c ∧ Rd W W.heap.size a n f ∧ ∀ i, f i < 256 := by
  obtain ⟨a0, len, cap, rfl⟩ := okWide_slice ht hval
  obtain ⟨fuel, hf⟩ := h
  rcases open_ints ht he hc hf with ⟨h1, _⟩ | ⟨a, len', cap', zs, h1, _, hlc, _, hzl, _, hcell, hwf⟩
  · simp [Value.cells] at h1
    obtain ⟨rfl, rfl, rfl⟩ := h1
    exact ⟨none, 0, 0, fun _ => 0, rfl, Nat.le_refl _, ⟨fun h => absurd h (by omega)⟩, fun _ => (by decide : (0 : Nat) < 256)⟩
  · simp [Value.cells] at h1
    obtain ⟨rfl, rfl, rfl⟩ := h1
    have hzl' : len ≤ zs.length := by rw [hzl]; simp [hlc]
    have hb : ∀ i, 0 ≤ zs.getD i 0 ∧ zs.getD i 0 < 256 := fun i => by
      by_cases hi : i < zs.length
      · have e1 : zs.getD i 0 = zs[i] := by simp [List.getD, List.getElem?_eq_getElem hi]
        rw [e1]
        have := hwf zs[i] (List.getElem_mem hi)
        simp [Lit.wf, IntKind.min, IntKind.max, IntKind.bits, IntKind.signed] at this
        omega
      · have e1 : zs.getD i 0 = 0 := by simp [List.getD, List.getElem?_eq_none (Nat.le_of_not_lt hi)]
        rw [e1]; decide
    refine ⟨some a, len, cap, fun i => (zs.getD i 0).toNat, rfl, hlc, ⟨fun h0 => ?_⟩, fun i => by have := hb i; show (zs.getD i 0).toNat < 256; omega⟩
    have h0' := hcell 0 (by omega)
    have hspot : a.spot = none := by simpa [Addr.add] using World.cell?_spot h0'
    obtain ⟨tb, o, sp⟩ := a
    simp only at hspot
    subst hspot
    refine ⟨tb, o, rfl, ?_, fun i hi => ?_⟩
    · have := World.block_lt_of_cell? W _ h0'
      simpa [Addr.add] using this
    · have h1 := hcell i (by omega)
      rw [Addr.add_mid] at h1
      rw [h1]
      have := hb i
      have e1 : ((zs.getD i 0).toNat : Int) = zs.getD i 0 := by omega
      show _ = some (Value.int .u8 (((zs.getD i 0).toNat : Nat) : Int))
      rw [e1]

end
end Go.Proofs.YtobaplndoaeoiaaDoor
namespace Go.Proofs.YtobaplndoaeoiaaDoor
open Go.ChangeShapes Go.WideShapes Go.ChangeAt Go.RowKit

theorem getElem?_of_take_drop {α : Type} (l : List α) (i : Nat) (x : α) (h : (l.drop i).take 1 = [x]) : l[i]? = some x := by
  have h1 : ((l.drop i).take 1)[0]? = some x := by rw [h]; rfl
  simpa using h1

/-- A table of numbers, read. -/
theorem ints_of_trod {H : Type} {enc : TypeId × Value → H} {P : Program} {w : World} {base : Nat} {spare : Nat → Bool} {held : Bool} {fuel : Nat} {t e : TypeId} {k : IntKind} {n : Nat} {cs : List Value} {d : DataW H} {ps : List MemPlace} (L : List Int)
    (ht : P.underlying t = some (.array n e)) (he : P.underlying e = some (.int k)) (hc : P.cellsOf e = 1) (hd : DataW.trod enc P w base spare held fuel t cs = some (d, ps)) (hx : d = .agg (L.map fun z => .lit (.int k z))) :
    ∀ i, i < n → cs[i]? = some (.int k (L.getD i 0)) := by
  subst hx
  obtain ⟨xs, m, rfl, hx, _, hn, hel⟩ := DataW.trod_array ht hd
  intro i hi
  have h1 := hel i hi
  rw [hc, Nat.mul_one] at h1
  have hxi : xs[i]? = some xs[i] := List.getElem?_eq_getElem (by omega)
  rw [hxi] at h1
  obtain ⟨q, e1, e2, _⟩ := DataW.trod_int he h1
  have h2 : L.map (fun z => (DataW.lit (.int k z) : DataW H)) = xs.map (·.1) := by
    have := congrArg Prod.fst hx
    simpa using this
  have h3 : (L.map (fun z => (DataW.lit (.int k z) : DataW H)))[i]? = some (.lit (.int k q)) := by
    rw [h2]; simp [hxi, e2]
  have h4 : L[i]? = some q := by
    rw [List.getElem?_map] at h3
    cases hL : L[i]? with
    | none => rw [hL] at h3; cases h3
    | some z => rw [hL] at h3; simpa using h3
  rw [List.getD, h4]
  exact getElem?_of_take_drop cs i _ e1

theorem own : ownKnob Tryd.prog.godebug = none := by kernel_rfl
theorem laidOut : laidOutB Tryd.prog = true := by kernel_rfl

end Go.Proofs.YtobaplndoaeoiaaDoor
namespace Go.Proofs.YtobaplndoaeoiaaDoor
open Go.ChangeShapes Go.WideShapes Go.ChangeAt Go.RowKit

theorem gBegin : Tryd.prog.globalNamed "hailer/sha.beginWords" = some 1 := by kernel_rfl
theorem gRound : Tryd.prog.globalNamed "hailer/sha.roundWords" = some 2 := by kernel_rfl
theorem tBegin : (Tryd.prog.globals[1]?).map (·.type) = some 99 := by kernel_rfl
theorem tRound : (Tryd.prog.globals[2]?).map (·.type) = some 113 := by kernel_rfl
def theLaid : List (String × DataW Unit) := [("hailer/sha.beginWords", Rows.laid_hailer_sha_beginWords), ("hailer/sha.roundWords", Rows.laid_hailer_sha_roundWords)]

set_option maxRecDepth 100000 in
theorem of_laid {W : World} (h : laidMetH Tryd.prog theLaid W) : Laid W 1 2 FC KC := by
  rw [MakeChecks.laidMetH_plain _ _ _ (by kernel_rfl)] at h
  obtain ⟨ps, ⟨g0, t0, cs0, f0, p0, q0, hg0, ht0, hv0, hd0, ⟨g1, t1, cs1, f1, p1, q1, hg1, ht1, hv1, hd1, _, _⟩, _⟩, _, _⟩ := h
  obtain rfl := Option.some.inj (gBegin.symm.trans hg0)
  obtain rfl := Option.some.inj (gRound.symm.trans hg1)
  obtain rfl := Option.some.inj (tBegin.symm.trans ht0)
  obtain rfl := Option.some.inj (tRound.symm.trans ht1)
  have c0 := ints_of_trod (P := Tryd.prog) (n := 8) (e := 24) (k := .u64) (FL.map Int.ofNat) (by kernel_rfl) (by kernel_rfl) (by kernel_rfl) hd0 (by rfl)
  have c1 := ints_of_trod (P := Tryd.prog) (n := 80) (e := 24) (k := .u64) (KL.map Int.ofNat) (by kernel_rfl) (by kernel_rfl) (by kernel_rfl) hd1 (by rfl)
  have hget : ∀ (l : List Nat) i, (l.map Int.ofNat).getD i 0 = ((l.getD i 0 : Nat) : Int) := fun l i => by
    by_cases h : i < l.length
    · simp [List.getD, h]
    · simp [List.getD, List.getElem?_eq_none (Nat.le_of_not_lt h)]
  constructor
  · intro i hi
    rw [World.var?_cell hg0 hv0 i]
    have := c0 i hi
    rw [hget, Array.getElem?_toList] at this
    exact this
  · intro i hi
    rw [World.var?_cell hg1 hv1 i]
    have := c1 i hi
    rw [hget, Array.getElem?_toList] at this
    exact this

/-- The door's own heap meets the condition. -/
theorem door_met (os : Os) (args : Array Value) : laidMetH Tryd.prog theLaid ((World.doorLaid Tryd.prog 400 os).forCall (fun _ _ => 0) ⟨#[], args, []⟩).memory :=
  laidMetH_of_parts3 (fuel := 8) (laidMet_of_run' 8 (by kernel_rfl) (by kernel_rfl)) (by kernel_rfl) (by kernel_rfl)

end Go.Proofs.YtobaplndoaeoiaaDoor
namespace Go.Proofs.YtobaplndoaeoiaaDoor
open Go.ChangeShapes Go.WideShapes Go.ChangeAt Go.RowKit

set_option maxRecDepth 100000 in
theorem suiteTells_lifted (os : Os) (started : os.Started) (H : Type) (enc : TypeId × Value → H) :
    ReturnsInHanded {} Tryd.checked os 3 .any (fun w args => (Rows.suiteTellsSpec.pre enc Tryd.prog Tryd.f3 [] false w args ∧ laidMetH Tryd.prog theLaid w) ∧ sizedMet enc Tryd.prog Tryd.f3 (OpenSpec.ofChange Rows.suiteTellsSpec) false w args)
      (Rows.suiteTellsSpec.post enc Tryd.prog Tryd.f3 false true false false) := by
  refine returnsInHanded_of_change_and (C := Tryd.checked) (X := fun w _ => laidMetH Tryd.prog theLaid w) (fun _ _ _ hh h => h.of_heap hh) own started (by kernel_rfl) Tryd.func3
    (ChangeSpec.witness_shaped (enc := enc) (C := Tryd.checked) (os := os) (X := fun w _ => laidMetH Tryd.prog theLaid w) false (World.doorLaid Tryd.prog 400 os) #[.int .u16 0, .slice none 0 0, .int .u64 0, .int .u64 0] 8 rfl (World.shaped_of_RefB (by kernel_rfl) (by kernel_rfl)) (by kernel_rfl) (by kernel_rfl) (by kernel_rfl) (door_met os _)) ?_
  intro W base args ds gs before hval0 hW _ _ hL _
  have hval : ∀ (j : Nat) t v, Tryd.f3.params[j]? = some t → args[j]? = some v → Value.okWide Tryd.prog W .any base t v := hval0
  have hW' := hW
  obtain ⟨p, q, hA0, hV, rfl, _, _⟩ := hW
  have hA : DataW.TrodAll enc Tryd.prog W 0 (fun _ => true) true Tryd.f3.params.toList args.toList ds p := hA0
  rw [Tryd.params3] at hA hval
  obtain ⟨v0, vs0, d0, ds0, p0, q0, hv0, rfl, rfl, h0, hA1⟩ := trodAll_cons hA
  obtain ⟨v1, vs1, d1, ds1, p1, q1, rfl, rfl, rfl, h1, hA2⟩ := trodAll_cons hA1
  obtain ⟨v2, vs2, d2, ds2, p2, q2, rfl, rfl, rfl, h2, hA3⟩ := trodAll_cons hA2
  obtain ⟨v3, vs3, d3, ds3, p3, q3, rfl, rfl, rfl, h3, hA4⟩ := trodAll_cons hA3
  obtain ⟨rfl, rfl, rfl⟩ := trodAll_nil hA4
  obtain ⟨l⟩ := args
  simp only at hv0
  subst hv0
  obtain ⟨rfl, rfl⟩ := trodVars_none hV
  obtain ⟨z0, rfl, rfl, rfl, hz0⟩ := open_int Tryd.underlying22 (hval 0 22 v0 rfl rfl) h0
  obtain ⟨x0, rfl, hr0⟩ : ∃ m : Nat, z0 = (m : Int) ∧ m < 65536 := by
    have := hz0
    simp [Lit.wf, IntKind.min, IntKind.max, IntKind.bits, IntKind.signed] at this
    exact ⟨z0.toNat, by omega, by omega⟩
  obtain ⟨a1, n1, c1, f1, rfl, hc1, hR1, hf1⟩ := open_bytes (P := Tryd.prog) under_bytes (by kernel_rfl) (by kernel_rfl) (hval 1 23 v1 rfl rfl) h1
  obtain ⟨z2, rfl, rfl, rfl, hz2⟩ := open_int Tryd.underlying24 (hval 2 24 v2 rfl rfl) h2
  obtain ⟨x2, rfl, hr2⟩ : ∃ m : Nat, z2 = (m : Int) ∧ m < 18446744073709551616 := by
    have := hz2
    simp [Lit.wf, IntKind.min, IntKind.max, IntKind.bits, IntKind.signed] at this
    exact ⟨z2.toNat, by omega, by omega⟩
  obtain ⟨z3, rfl, rfl, rfl, hz3⟩ := open_int Tryd.underlying24 (hval 3 24 v3 rfl rfl) h3
  obtain ⟨x3, rfl, hr3⟩ : ∃ m : Nat, z3 = (m : Int) ∧ m < 18446744073709551616 := by
    have := hz3
    simp [Lit.wf, IntKind.min, IntKind.max, IntKind.bits, IntKind.signed] at this
    exact ⟨z3.toNat, by omega, by omega⟩
  clear hA0 hval0
  refine (suiteTells_yes x0 n1 c1 x2 x3 a1 f1 W (of_laid hL) hR1 hf1 hc1 hr0 hr2 hr3).mono fun e W' ⟨⟨he, hg⟩⟩ => ?_
  subst he
  exact ⟨_, rfl, law_post laidOut hW' rfl rfl (tb := 4) rfl Tryd.underlying4 (by
      rw [Tryd.params3]
      intro t ht
      have hall : ([22, 23, 24, 24].all fun u => Tryd.prog.readableRec u && decide (u < Tryd.prog.types.size)) = true := by kernel_rfl
      have := List.all_eq_true.1 hall t (by simpa using ht)
      simpa using this) hg⟩

theorem suiteTells_holds : Rows.SuiteTellsSaid :=
  OpenClaim.holds_of_wide 3 Tryd.f3 rfl rfl rfl rfl rfl rfl rfl ⟨rfl, rfl, rfl, rfl, rfl⟩ rfl rfl rfl rfl rfl (by kernel_rfl) Tryd.func3 (by kernel_rfl)
    (of_decide_eq_true (by kernel_rfl)) (by unfold Func.isWrapper; first | (rw [if_pos (by decide +kernel)]; kernel_rfl) | (rw [if_neg (by decide +kernel)]; exact ⟨rfl, rfl⟩))
    (fun os started H enc _ => suiteTells_lifted os started H enc)

theorem suiteTells_card_holds : Rows.SuiteTellsCardSaid :=
  Claim7.holds_tied_plain_at .later [] [.data, .data] true _ false
    suiteTells_holds (fun _ h => by cases h) (by kernel_rfl) (fun _ h => by cases h) suiteTells_row_tie rfl ⟨rfl, rfl⟩ (by kernel_rfl) rfl
    (fun f fn hf hfn => by
      obtain rfl : f = 3 := Option.some.inj ((show Tryd.prog.funcNamed "hailer/hailerlaw13.SuiteTells" = some 3 by kernel_rfl).symm.trans hf) |>.symm
      obtain rfl : fn = Tryd.f3 := (Option.some.inj (Tryd.func3.symm.trans hfn)).symm
      exact ⟨by kernel_rfl, fun j t ht => by
        rw [Tryd.params3] at ht
        have hm : t ∈ [22, 23, 24, 24] := by simpa using Array.mem_of_getElem? ht
        have hall : ([22, 23, 24, 24].all fun u => !Tryd.prog.wantsStandIn u) = true := by kernel_rfl
        exact (show Tryd.prog.wantsStandIn t = false by simpa using List.all_eq_true.1 hall t hm)⟩)
    (by kernel_rfl)

end Go.Proofs.YtobaplndoaeoiaaDoor
