/-
  The document's Put of a header.
-/
import Derived.Test.YtmbefbmpjkbnmaaHdRefB
import Derived.Test.YtmbefbmpjkbnmaaOrd3
import Derived.Shelf.Abstract
namespace Go.Proofs.Ytmbefbmpjkbnmaa
open Go.RowKit Go.Shelf

set_option maxRecDepth 100000
set_option maxHeartbeats 4000000

theorem hdB_enters (args : Array Value) (w : World) : (callFunc 117 args).run Try.prog w = .ok (.enter 117 args) w := enters_of Try.func117 (by kernel_rfl) rfl args w
theorem GaveHd.val {w : World} {n : Nat} {f : Nat → Nat} {e : Ending} {w' : World} (h : GaveHd w n f e w') : ∃ v, e = .returned v ∧ ∃ g cap, v = .slice (some ⟨g, 0, none⟩) n cap ∧ OwnR w' g n cap f ∧ w.heap.size ≤ g ∧ w.grownBy w' none := by
  obtain ⟨⟨g, cap, h1, h2, h3⟩, h4⟩ := h
  exact ⟨_, h1, g, cap, rfl, h2, h3, h4⟩
/-- A field's bytes, or none. -/
structure FldAt (w : World) (n : Nat) (v : Value) : Prop where
  ex : ∃ a c, v = .slice a (behN (nibN n)) c ∧ Rd w w.heap.size a (behN (nibN n)) (nbF n (behN (nibN n)))
theorem FldAt.short (w : World) (n : Nat) (h : n < 8) : FldAt w n (.slice none 0 0) := by
  have e : behN (nibN n) = 0 := by rw [beh_nib, if_pos h]
  exact ⟨none, 0, by rw [e], ⟨fun h => by omega⟩⟩
theorem FldAt.long {w : World} {n g c : Nat} (h : ¬ n < 8) (hO : OwnR w g (blN n) c (nbF n (blN n))) : FldAt w n (.slice (some ⟨g, 0, none⟩) (blN n) c) := by
  have e : behN (nibN n) = blN n := by rw [beh_nib, if_neg h]
  exact ⟨_, c, by rw [e], by rw [e]; exact hO.rd⟩
theorem cat_hd (k c : Nat) (i : Nat) : cat (1 + behN (nibN k)) (cat 1 (fun _ => 16 * nibN k + nibN c) (nbF k (behN (nibN k)))) (nbF c (behN (nibN c))) i = hdF k c i := by
  unfold hdF cat
  by_cases h : i = 0
  · subst h
    rw [if_pos (by omega), if_pos (by omega), if_pos rfl]
  · rw [if_neg h]
    by_cases h2 : i < 1 + behN (nibN k)
    · rw [if_pos h2, if_pos h2, if_neg (by omega)]
    · rw [if_neg h2, if_neg h2, Nat.sub_add_eq]
theorem hdRefPut_any (k c : Nat) (w : World) (hk : k < 18446744073709551616) (hc : c < 18446744073709551616) :
    Calls Try.prog 48 #[.agg #[.int .u64 k, .int .u64 c]] w (GaveHd w (hdLen k c) (hdF k c)) := by
  have ga := World.grownBy_alloc w (.cells #[.int .u64 k, .int .u64 c] 128) none
  have hX := holds_alloc w 128 .u64 2 (two k c) #[.int .u64 k, .int .u64 c] rfl
  have HK := Lib.hid hk
  have HC := Lib.hid hc
  clear hk hc
  go_enter Try.func48, Try.ntmps48
  go_upto_region 1 with fail
  obtain ⟨XB, hXB⟩ : ∃ B, B = w.heap.size := ⟨_, rfl⟩
  rw [← hXB] at hX ⊢
  generalize w.alloc (.cells #[.int .u64 k, .int .u64 c] 128) = w1 at *
  obtain ⟨V0, hV0⟩ : ∃ V0, V0 = w1.drew := ⟨_, rfl⟩
  have hv0 : w1.grownBy V0 none := by rw [hV0]; exact grown_drew (grown_refl w1 none)
  have HV0 := Lib.hid hV0.symm
  have HX := Lib.hid (hX.grown hv0 (by simp))
  have GV := Lib.hid (grown_trans ga hv0)
  clear hV0 hv0 hX ga hXB
  refine wp_region_held (S := (fun W => V0.grownBy W none)) (by kernel_rfl) ?_
  change wpAnyH _ _ _ _ _ 8 #[false, false, false, false, false, false, false, false] _ (World.drew _)
  rw [HV0.out]
  have hS0 : V0.grownBy V0 none := grown_refl V0 _
  refine wpAnyH_takeD (some 6) (i := 0) (v := (.pointer (some ⟨XB, 0, none⟩))) rfl rfl (by kernel_rfl) (by kernel_rfl) (by kernel_rfl) (fun _ _ _ h => h) (Or.inl ⟨rfl, fun _ _ => by go_simp⟩) hS0 ?_
  simp only [Act.put, List.setIfInBounds_toArray, List.set_cons_succ, List.set_cons_zero]
  refine wpAnyH_takeD (some 7) (i := 1) (v := (.int .u64 (k : Nat))) rfl rfl (by kernel_rfl) (by kernel_rfl) (by kernel_rfl) (fun _ _ _ h => h) (Or.inl ⟨rfl, fun W hW => by have cx := (HX.out.grown hW (by simp)).cell 0 (by decide); rw [show two k c 0 = k from rfl] at cx; go_simp⟩) hS0 ?_
  simp only [Act.put, List.setIfInBounds_toArray, List.set_cons_succ, List.set_cons_zero]
  refine wpAnyH_takeD (some 9) (i := 3) (v := (.pointer (some ⟨XB, 1, none⟩))) rfl rfl (by kernel_rfl) (by kernel_rfl) (by kernel_rfl) (fun _ _ _ h => h) (Or.inl ⟨rfl, fun _ _ => by go_simp⟩) hS0 ?_
  simp only [Act.put, List.setIfInBounds_toArray, List.set_cons_succ, List.set_cons_zero]
  refine wpAnyH_takeD (some 10) (i := 4) (v := (.int .u64 (c : Nat))) rfl rfl (by kernel_rfl) (by kernel_rfl) (by kernel_rfl) (fun _ _ _ h => h) (Or.inl ⟨rfl, fun W hW => by have cx := (HX.out.grown hW (by simp)).cell 1 (by decide); rw [show two k c 1 = c from rfl] at cx; go_simp⟩) hS0 ?_
  simp only [Act.put, List.setIfInBounds_toArray, List.set_cons_succ, List.set_cons_zero]
  refine wpAnyH_callD (some 8) (i := 2) 117 #[.int .u64 (k : Nat)] (by kernel_rfl) rfl rfl rfl (exec_fn1 _ _ _ rfl rfl) hdB_enters ((refBytes_any k V0 HK.out).mono fun e W1 h => h.val) ?_
  rintro _ V1 ⟨gk, ck, rfl, hOk, hgk, g1⟩
  refine ⟨g1, ?_⟩
  simp only [Act.put, List.setIfInBounds_toArray, List.set_cons_succ, List.set_cons_zero]
  refine wpAnyH_callD (some 11) (i := 5) 117 #[.int .u64 (c : Nat)] (by kernel_rfl) rfl rfl rfl (exec_fn1 _ _ _ rfl rfl) hdB_enters ((refBytes_any c V1 HC.out).mono fun e W1 h => h.val) ?_
  rintro _ V2 ⟨gc, cc, rfl, hOc, hgc, g2⟩
  have g12 := grown_trans g1 g2
  refine ⟨g12, ?_⟩
  simp only [Act.put, List.setIfInBounds_toArray, List.set_cons_succ, List.set_cons_zero]
  refine wpAnyH_takeD (some 3) (i := 6) (v := (.slice (some ⟨gk, 0, none⟩) (blN k) ck)) rfl rfl (by kernel_rfl) (by kernel_rfl) (by kernel_rfl) (fun _ _ _ h => h) (Or.inl ⟨rfl, fun _ _ => rfl⟩) g12 ?_
  simp only [Act.put, List.setIfInBounds_toArray, List.set_cons_succ, List.set_cons_zero]
  refine wpAnyH_takeD (some 4) (i := 7) (v := (.slice (some ⟨gc, 0, none⟩) (blN c) cc)) rfl rfl (by kernel_rfl) (by kernel_rfl) (by kernel_rfl) (fun _ _ _ h => h) (Or.inl ⟨rfl, fun _ _ => rfl⟩) g12 ?_
  simp only [Act.put, List.setIfInBounds_toArray, List.set_cons_succ, List.set_cons_zero]
  refine wpAnyH_done (by kernel_rfl) ?_ _
  have HOk := Lib.hid (hOk.grown g2 (by simp))
  have HOc := Lib.hid hOc
  have GV2 := Lib.hid (grown_trans GV.out g12)
  have HX2 := Lib.hid (HX.out.grown g12 (by simp))
  clear hOk hOc g1 g2 g12 hgk hgc hS0 HV0 HX GV
  have c0 : V2.cell? ⟨XB, 0, none⟩ = some (.int .u64 k) := HX2.out.cell 0 (by decide)
  have c1 : V2.cell? ⟨XB, 1, none⟩ = some (.int .u64 c) := HX2.out.cell 1 (by decide)
  have bk := blN_bd k
  have bc := blN_bd c
  obtain ⟨bk1, bk8⟩ := bk
  obtain ⟨bc1, bc8⟩ := bc
  go_upto_if 14 with fail
  go_cut [3, 5] (fun s3 s5 wx => V2 = wx ∧ FldAt V2 k s3 ∧ s5 = .int .i64 (16 * nibN k : Nat))
  case first =>
    by_cases h8 : k < 8
    · have j1 : (k : Int) < 8 := by omega
      have F1 := Lib.hid (FldAt.short V2 k h8)
      have E1 := Lib.hid (show nibN k = k by unfold nibN; rw [if_pos h8])
      clear h8
      go_wp2_with fail
      go_meet
      case rel => exact ⟨rfl, F1.out, by rw [E1.out]; go_num⟩
    · have j1 : ¬ (k : Int) < 8 := by omega
      have F1 := Lib.hid (FldAt.long h8 HOk.out)
      have E1 := Lib.hid (show nibN k = 7 + blN k by unfold nibN; rw [if_neg h8])
      have j2 : (blN k : Int) ≤ 8 := by omega
      clear h8
      go_wp2_with fail
      go_meet
      case rel => exact ⟨rfl, F1.out, by rw [E1.out]; go_num⟩
  case rest =>
    obtain ⟨rfl, hF1, rfl⟩ := hcut
    have n1 := nibN_lt k
    have n2 := nibN_lt c
    have HF1 := Lib.hid hF1
    clear hF1
    go_upto_if 26 with fail
    go_cut [4, 5] (fun s4 s5 wx => V2 = wx ∧ FldAt V2 c s4 ∧ s5 = .int .i64 (16 * nibN k + nibN c : Nat))
    case first =>
      have n3 : (nibN k : Int) < 16 := by omega
      by_cases h8 : c < 8
      · have j1 : (c : Int) < 8 := by omega
        have F1 := Lib.hid (FldAt.short V2 c h8)
        have E1 := Lib.hid (show nibN c = c by unfold nibN; rw [if_pos h8])
        clear h8
        go_wp2_with fail
        go_meet
        case rel => exact ⟨rfl, F1.out, by rw [E1.out]; go_num⟩
      · have j1 : ¬ (c : Int) < 8 := by omega
        have F1 := Lib.hid (FldAt.long h8 HOc.out)
        have E1 := Lib.hid (show nibN c = 7 + blN c by unfold nibN; rw [if_neg h8])
        have j2 : (blN c : Int) ≤ 8 := by omega
        clear h8
        go_wp2_with fail
        go_meet
        case rel => exact ⟨rfl, F1.out, by rw [E1.out]; go_num⟩
    case rest =>
      obtain ⟨rfl, hF2, rfl⟩ := hcut
      obtain ⟨ak, mk, rfl, hRk⟩ := HF1.out.ex
      obtain ⟨ac, mc, rfl, hRc⟩ := hF2.ex
      have pk := behN_le _ n1
      have pc := behN_le _ n2
      have hcat := cat_hd k c
      have hlen : hdLen k c = 1 + behN (nibN k) + behN (nibN c) := rfl
      obtain ⟨v0, hv0⟩ : ∃ v, v = 16 * nibN k + nibN c := ⟨_, rfl⟩
      rw [← hv0] at hcat ⊢
      have i1 : (v0 : Int) ≤ 255 := by omega
      have gb := World.grownBy_alloc V2 (.cells #[.int .u8 (v0 : Nat)] 5) none
      obtain ⟨x1, w3, hap1, ⟨ex⟩⟩ := app_run mk 39 (ownR_one V2 v0) (hRk.grown gb (fun k e => by cases e)) (by omega)
      obtain ⟨g1, cap1, rfl, hO1, _, g3, q1⟩ := ex
      have gz := grown_new gb g3 (Nat.le_refl _)
      obtain ⟨x2, w4, hap2, ⟨ex⟩⟩ := app_run mc 39 hO1 (hRc.grown gz (fun k e => by cases e)) (by omega)
      obtain ⟨g2, cap2, rfl, hO2, _, g4, q2⟩ := ex
      have hz0 := gb.size
      have hz1 := gz.size
      have q1' : V2.heap.size ≤ g1 := by rcases q1 with q1 | q1 <;> omega
      have q2' : V2.heap.size ≤ g2 := by rcases q2 with q2 | q2 <;> omega
      have gf := grown_new gz g4 q1'
      have hO3 := hO2.congr (f' := hdF k c) (fun i _ => hcat i)
      rw [← hlen] at hap2 hO3
      have HA1 := Lib.hid hap1
      have HA2 := Lib.hid hap2
      have HO3 := Lib.hid hO3
      have HGF := Lib.hid (grown_trans GV2.out gf)
      have HQ := Lib.hid (Nat.le_trans GV2.out.size q2')
      clear hap1 hap2 hO1 hO2 hO3 gf gz gb g3 g4 hz0 hz1 q1 q2 q1' q2' hRk hRc hF2 HF1 hcat hv0 hlen n1 n2 bk1 bk8 bc1 bc8 c0 c1
      go_wp2_with (first | (at_builtin; refine wpList_append_run rfl (.tmp 40) (.tmp 41) 39 39 rfl (.slice (some ⟨V2.heap.size, 0, none⟩) 1 1) (.slice ak (behN (nibN k)) mk) _ _ rfl rfl HA1.out ?_) | (at_builtin; refine wpList_append_run rfl (.tmp 42) (.tmp 43) 39 39 rfl (.slice (some ⟨g1, 0, none⟩) (1 + behN (nibN k) : Nat) cap1) (.slice ac (behN (nibN c)) mc) _ _ rfl rfl HA2.out ?_))
      go_ret
      exact ⟨⟨g2, cap2, rfl, HO3.out, HQ.out⟩, HGF.out⟩
end Go.Proofs.Ytmbefbmpjkbnmaa
