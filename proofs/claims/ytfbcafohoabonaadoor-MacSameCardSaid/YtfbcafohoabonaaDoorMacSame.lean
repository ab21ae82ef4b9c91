/-
  The walk of 'MacSame': whatever the bytes and the bit, it answers true.
-/
import Derived.Test.YtfbcafohoabonaaDoorKnown02
import Derived.Test.YtfbcafohoabonaaDoorOwnR
import Derived.StillTailTactics
namespace Go.Proofs.YtfbcafohoabonaaDoor
open Go.RowKit

set_option maxRecDepth 100000
set_option maxHeartbeats 2000000

theorem xor_ne (a b : Nat) (h : b ≠ 0) : a ^^^ b ≠ a := fun e => h (by
  have h2 : a ^^^ (a ^^^ b) = a ^^^ a := by rw [e]
  rwa [← Nat.xor_assoc, Nat.xor_self, Nat.zero_xor] at h2)

/-- A number of 64 bits. -/
structure InInt (x : Int) : Prop where
  lt : x < 9223372036854775808

theorem macSame_any (n c : Nat) (a : Option Addr) (f : Nat → Nat) (bit : Int) (w : World) (hL : Laid w 1 2 FC KC) (hR : Rd w w.heap.size a n f) (hf : ∀ i, f i < 256) (hbit : InInt bit) :
    Calls Tryd.prog 5 #[.slice a n c, .int .i64 bit] w (SaysTrue w) := by
  have hk := known02 w hL
  have HK := Lib.hid hk
  have HB := Lib.hid hbit
  clear hk hbit
  by_cases hbig : 1000 < n
  · have i1 : (1000 : Int) < n := by omega
    go_enter Tryd.func5, Tryd.ntmps5
    go_wp2_with (go_at_call 6; (with_reducible refine (HK.out).mono ?_); rintro e w1 ⟨rfl, g1⟩)
    go_ret
    exact ⟨rfl, g1⟩
  · by_cases hneg : bit < 0
    · have i1 : (n : Int) ≤ 1000 := by omega
      go_enter Tryd.func5, Tryd.ntmps5
      go_wp2_with (go_at_call 6; (with_reducible refine (HK.out).mono ?_); rintro e w1 ⟨rfl, g1⟩)
      go_ret
      exact ⟨rfl, g1⟩
    · have i1 : (n : Int) ≤ 1000 := by omega
      have hn : n < 2 ^ 62 := by omega
      have i2 : (0 : Int) ≤ bit := by omega
      obtain ⟨q, rfl⟩ : ∃ q : Nat, bit = q := ⟨bit.toNat, by omega⟩
      clear hneg hbig
      go_enter Tryd.func5, Tryd.ntmps5
      go_wp2_with fail
      go_at_call 6
      with_reducible refine (HK.out).mono ?_
      rintro e w1 ⟨rfl, g1⟩
      have hR1 := hR.up (Nat.le_refl _) g1
      have ho0 := ownR_empty w1
      have ga := World.grownBy_alloc w1 (.cells #[] 5) none
      have hRa := hR1.up (Nat.le_refl _) ga
      obtain ⟨v, w2, hap, ⟨ex⟩⟩ := app_run c 22 ho0 hRa (by omega)
      obtain ⟨gc, cap, rfl, ho2, _, g2, hgc⟩ := ex
      rw [Nat.zero_add] at hap ho2
      have ho2' : OwnR w2 gc n cap f := ho2.congr (fun i hi => by unfold cat; rw [if_neg (by omega), Nat.sub_zero])
      have za : (w1.alloc (.cells #[] 5)).heap.size = w1.heap.size + 1 := by simp
      have hgc' : w.heap.size ≤ gc := by have := g1.size; omega
      have g02 : w.grownBy w2 none := grown_new (grown_trans g1 ga) g2 g1.size
      have hR2 := hR.up (Nat.le_refl _) g02
      have hs1 := same_is true n n c cap _ _ _ _ _ _ hR2 ho2'.rd hf hf hn hn ((sameB_iff _ _ _ _).2 ⟨rfl, fun _ _ => rfl⟩)
      have HS1 := Lib.hid hs1
      have gb := World.grownBy_alloc w2 (.cells #[.int .u8 0] 5) none
      have bb := heap_alloc_new w2 (.cells #[.int .u8 0] 5)
      have hR0 : Rd (w2.alloc (.cells #[.int .u8 0] 5)) (w2.heap.size + 1) (some ⟨w2.heap.size, 0, none⟩) 1 (fun _ => 0) := ⟨fun _ => ⟨w2.heap.size, 0, rfl, by omega, fun i hi => by
        obtain rfl : i = 0 := by omega
        rw [cell_of_row _ _ _ _ _ _ bb]; rfl⟩⟩
      obtain ⟨v3, w3, hap3, ⟨ex3⟩⟩ := app_run 1 22 (ho2'.grown gb (by simp)) hR0 (by omega)
      obtain ⟨g', cap', rfl, ho', ho3, g3, _⟩ := ex3
      have g03 : w.grownBy w3 none := grown_new (grown_trans g02 gb) g3 hgc'
      have hR3 := hR.up (Nat.le_refl _) g03
      have hct : ∀ i, cat n f (fun _ => 0) i < 256 := fun i => by
        unfold cat
        split
        · exact hf _
        · exact (by decide : (0 : Nat) < 256)
      have hs2 := same_is false n (n + 1) c cap' _ _ _ _ _ _ hR3 ho'.rd hf hct hn (by omega) (by rw [Bool.eq_false_iff]; intro h; exact absurd ((sameB_iff _ _ _ _).1 h).1 (by omega))
      have HS2 := Lib.hid hs2
      have HAP := Lib.hid hap
      have Hgc := Lib.hid hgc'
      have HAP3 := Lib.hid hap3
      have Hg03 := Lib.hid g03
      have Hho3 := Lib.hid ho3
      have HR := Lib.hid hR
      have Hhf := Lib.hid hf
      clear hap hap3 hs1 hs2 g03 ho3 hct hR3 ho' hR0 bb gb hR2 g02 hgc' za ho2' g2 hgc hRa ga hR1 ho0 ho2 hR hf g3 hL
      by_cases hn0 : n = 0
      · have i3 : (n : Int) ≤ 0 := by omega
        have HN := Lib.hid hn0
        clear hn0
        go_wp2_with (first
          | (at_builtin; refine wpList_append_run rfl (.tmp 15) (.tmp 16) 22 22 rfl (.slice (some ⟨w1.heap.size, 0, none⟩) 0 0) (.slice a n c) _ _ rfl rfl HAP.out ?_)
          | (at_builtin; refine wpList_append_run rfl (.tmp 24) (.tmp 25) 22 22 rfl (.slice (some ⟨gc, 0, none⟩) n cap) (.slice (some ⟨w2.heap.size, 0, none⟩) 1 1) _ _ rfl rfl HAP3.out ?_)
          | (go_at_call 14; (with_reducible refine (HS1.out).mono ?_); rintro e w' ⟨rfl, rfl⟩)
          | (go_at_call 14; (with_reducible refine (HS2.out).mono ?_); rintro e w' ⟨rfl, rfl⟩))
        go_ret
        exact ⟨rfl, Hg03.out⟩
      · have i3 : (0 : Int) < n := by omega
        go_wp2_with (first
          | (at_builtin; refine wpList_append_run rfl (.tmp 15) (.tmp 16) 22 22 rfl (.slice (some ⟨w1.heap.size, 0, none⟩) 0 0) (.slice a n c) _ _ rfl rfl HAP.out ?_)
          | (at_builtin; refine wpList_append_run rfl (.tmp 24) (.tmp 25) 22 22 rfl (.slice (some ⟨gc, 0, none⟩) n cap) (.slice (some ⟨w2.heap.size, 0, none⟩) 1 1) _ _ rfl rfl HAP3.out ?_)
          | (go_at_call 14; (with_reducible refine (HS1.out).mono ?_); rintro e w' ⟨rfl, rfl⟩)
          | (go_at_call 14; (with_reducible refine (HS2.out).mono ?_); rintro e w' ⟨rfl, rfl⟩))
        obtain ⟨y, hy⟩ : ∃ y, y = q / 8 := ⟨_, rfl⟩
        obtain ⟨x, hx⟩ : ∃ x, x = y % n := ⟨_, rfl⟩
        have hxn : x < n := by rw [hx]; exact Nat.mod_lt _ (by omega)
        have ey : IntKind.i64.wrap ((q : Int) / 8) = (y : Int) := by have := HB.out.lt; rw [IntKind.wrap_i64]; omega
        have ex : (y : Int).tmod (n : Int) = (x : Int) := by rw [hx, Int.tmod_eq_emod_of_nonneg (by omega)]; norm_cast
        obtain ⟨r, hr⟩ : ∃ r, r = q % 8 := ⟨_, rfl⟩
        have er : (q : Int).tmod 8 = (r : Int) := by rw [hr, Int.tmod_eq_emod_of_nonneg (by omega)]; norm_cast
        have r8 : (r : Int) < 8 := by omega
        have z1 : 2 ^ r < 256 := Nat.lt_of_lt_of_le (Nat.pow_lt_pow_right (by decide) (by omega : r < 8)) (by decide)
        have z0 : 2 ^ r ≠ 0 := Nat.ne_of_gt (Nat.two_pow_pos r)
        have ez0 : ((2 : Int) ^ r) = ((2 ^ r : Nat) : Int) := by norm_cast
        obtain ⟨z, hz⟩ : ∃ z, z = 2 ^ r := ⟨_, rfl⟩
        rw [← hz] at z0 z1 ez0
        have ez : IntKind.u8.wrap ((2 : Int) ^ r) = (z : Int) := by rw [ez0, IntKind.wrap_u8]; omega
        have exz := bits_xor_u8 (f x) z (Hhf.out x) z1
        have hne := xor_ne (f x) z z0
        have htl : f x ^^^ z < 256 := Nat.xor_lt_two_pow (n := 8) (Hhf.out x) z1
        generalize f x ^^^ z = t at exz hne htl
        have Hez := Lib.hid ez0
        have Hz := Lib.hid hz
        have Hne := Lib.hid hne
        have Htl := Lib.hid htl
        clear ez0 hz z0 z1 hne htl
        have Hy := Lib.hid hy
        have Hr := Lib.hid hr
        clear hy hr
        have hc3 := Hho3.out.cell x hxn
        have hf3 := Hho3.out.free x
        have ix : (x : Int) < n := by omega
        have Hx := Lib.hid hx
        clear hx
        refine wp_region_still_tail 13 (by kernel_rfl) (by kernel_rfl) ?_
        have hc4 : w3.drew.cell? ⟨gc, x, none⟩ = some (.int .u8 (f x)) := hc3
        have hf4 : w3.drew.frozen? ⟨gc, x, none⟩ = false := hf3
        have Ho4 : Hid (OwnR w3.drew gc n cap f) := Lib.hid (Hho3.out.of_block rfl Hho3.out.lt)
        have Hg4 : Hid (w.grownBy w3.drew none) := Lib.hid (grown_drew Hg03.out)
        change wpStill _ _ w3.drew (fun a' => wpList _ _ _ _ a' w3.drew) _ _
        generalize w3.drew = w4 at *
        simp only [List.take_succ_cons, List.take_zero, List.drop_succ_cons, List.drop_zero]
        repeat still_step
        refine wpStill_nil ?_
        have ho5 := Ho4.out.set x t hxn
        have g05 := grown_setCell_new Hg4.out ⟨gc, x, none⟩ (.int .u8 (t : Nat)) (Or.inl Hgc.out)
        have hR5 := HR.out.up (Nat.le_refl _) g05
        have hut : ∀ i, upd f x t i < 256 := fun i => by
          unfold upd
          split
          · exact Htl.out
          · exact Hhf.out i
        have hs1 := same_is false n n c cap _ _ _ _ _ _ hR5 ho5.rd Hhf.out hut hn hn (by
          rw [Bool.eq_false_iff]; intro h
          have := ((sameB_iff _ _ _ _).1 h).2 x hxn
          rw [upd_same] at this
          exact Hne.out this.symm)
        have hs2 := same_is false n n cap c _ _ _ _ _ _ ho5.rd hR5 hut Hhf.out hn hn (by
          rw [Bool.eq_false_iff]; intro h
          have := ((sameB_iff _ _ _ _).1 h).2 x hxn
          rw [upd_same] at this
          exact Hne.out this)
        have HS3 := Lib.hid hs1
        have HS4 := Lib.hid hs2
        have Hg5 := Lib.hid g05
        clear hs1 hs2 hut hR5 ho5 g05 ex ey er ez exz
        go_wp2_with (first
          | (go_at_call 14; (with_reducible refine (HS3.out).mono ?_); rintro e w' ⟨rfl, rfl⟩)
          | (go_at_call 14; (with_reducible refine (HS4.out).mono ?_); rintro e w' ⟨rfl, rfl⟩))
        go_ret
        exact ⟨rfl, Hg5.out⟩

end Go.Proofs.YtfbcafohoabonaaDoor
