/-
  The walk of 'AesApart'.
-/
import Derived.Test.YtbjmgolkgpdenaaDoorKnown03
import Derived.Test.YtbjmgolkgpdenaaDoorGrowQ
namespace Go.Proofs.YtbjmgolkgpdenaaDoor
open Go.RowKit

set_option maxRecDepth 100000
set_option maxHeartbeats 2000000

theorem s_enters (args : Array Value) (w : World) : (callFunc 6 args).run Tryd.prog w = .ok (.enter 6 args) w :=
  enters_of Tryd.func6 (by kernel_rfl) rfl args w

/-- Two blocks held against each other. -/
theorem run_eqlB {o : Oper} {a : Act} {W : World} (t1 t2 : Tmp) (f g : Nat → Nat) (ho : o.op = .binOp .eql 23 (.tmp t1) (.tmp t2) 23)
    (h1 : a.eval (.tmp t1) = .agg (cellsOf .u8 16 f)) (h2 : a.eval (.tmp t2) = .agg (cellsOf .u8 16 g)) : (execOp a.eval o).run Tryd.prog W = .ok (.value (.bool (eq16 f g))) W := by
  have he := run_eq16 f g W
  unfold execOp
  simp only [ho, h1, h2]
  go_simp

theorem aesApart_any (x y : Nat) (kf fa fb : Nat → Nat) (wide : Bool) (w : World) (hL : LaidS w 0) (hsz : 0 < w.heap.size) (hx : x < 256) (hy : y < 256)
    (hk : ∀ i, kf i < 256) (ha : ∀ i, fa i < 256) (hb : ∀ i, fb i < 256) :
    Calls Tryd.prog 4 #[.int .u8 x, .int .u8 y, .agg (cellsOf .u8 32 kf), .bool wide, .agg (cellsOf .u8 16 fa), .agg (cellsOf .u8 16 fb)] w (SaysYes w) := by
  go_enter Tryd.func4, Tryd.ntmps4
  go_wp2_with fail
  have hK0 : Holds (((w.alloc (.cells (cellsOf .u8 32 kf) 36)).alloc (.cells (cellsOf .u8 16 fa) 23)).alloc (.cells (cellsOf .u8 16 fb) 23)) w.heap.size 36 .u8 32 kf :=
    ((holds_alloc w 36 .u8 32 kf _ rfl).grown (World.grownBy_alloc _ _ none) (by simp)).grown (World.grownBy_alloc _ _ none) (by simp)
  have hA0 : Holds (((w.alloc (.cells (cellsOf .u8 32 kf) 36)).alloc (.cells (cellsOf .u8 16 fa) 23)).alloc (.cells (cellsOf .u8 16 fb) 23)) (w.heap.size + 1) 23 .u8 16 fa := by
    have := (holds_alloc (w.alloc (.cells (cellsOf .u8 32 kf) 36)) 23 .u8 16 fa _ rfl).grown (World.grownBy_alloc _ (.cells (cellsOf .u8 16 fb) 23) none) (by simp)
    rwa [World.size_alloc] at this
  have hB0 : Holds (((w.alloc (.cells (cellsOf .u8 32 kf) 36)).alloc (.cells (cellsOf .u8 16 fa) 23)).alloc (.cells (cellsOf .u8 16 fb) 23)) (w.heap.size + 1 + 1) 23 .u8 16 fb := by
    have := holds_alloc ((w.alloc (.cells (cellsOf .u8 32 kf) 36)).alloc (.cells (cellsOf .u8 16 fa) 23)) 23 .u8 16 fb _ rfl
    rwa [World.size_alloc, World.size_alloc] at this
  have hg0 : w.grownBy (((w.alloc (.cells (cellsOf .u8 32 kf) 36)).alloc (.cells (cellsOf .u8 16 fa) 23)).alloc (.cells (cellsOf .u8 16 fb) 23)) none := grown_alloc (grown_alloc (World.grownBy_alloc w _ none) _) _
  generalize ((w.alloc (.cells (cellsOf .u8 32 kf) 36)).alloc (.cells (cellsOf .u8 16 fa) 23)).alloc (.cells (cellsOf .u8 16 fb) 23) = w0 at *
  obtain ⟨bk, hbk⟩ : ∃ bk, bk = w.heap.size := ⟨_, rfl⟩
  obtain ⟨ba, hba⟩ : ∃ ba, ba = w.heap.size + 1 := ⟨_, rfl⟩
  obtain ⟨bb, hbb⟩ : ∃ bb, bb = w.heap.size + 1 + 1 := ⟨_, rfl⟩
  rw [← hbk] at hK0
  rw [← hba] at hA0
  rw [← hbb] at hB0
  rw [← hbb, ← hba, ← hbk]
  clear hbk hba hbb
  go_at_call 5
  with_reducible refine (known03 w0 (hL.grown hg0 (by simp)) (by have := hg0.size; omega)).mono ?_
  rintro e w1 ⟨⟨rfl, g1⟩⟩
  have hg1 := grown_trans hg0 g1
  have hK1 := hK0.grown g1 (by simp)
  have hR1 : Rd w1 w1.heap.size (some ⟨bk, 0, none⟩) 32 kf := hK1.rd _ hK1.lt 32 (Nat.le_refl _)
  have ho0 := ownR_empty w1
  have ga := World.grownBy_alloc w1 (.cells #[] 5) none
  have hRa := hR1.up (Nat.le_refl _) ga
  obtain ⟨v, w2, hap, ⟨ex⟩⟩ := app_run 32 22 ho0 hRa (by omega)
  obtain ⟨gc, cap, rfl, ho2, _, g2, hgc⟩ := ex
  rw [Nat.zero_add] at hap ho2
  have ho2' : OwnR w2 gc 32 cap kf := ho2.congr (fun i hi => by unfold cat; rw [if_neg (by omega), Nat.sub_zero])
  have hg2 : w.grownBy w2 none := grown_new (grown_trans hg1 ga) g2 hg1.size
  have hA2 : Holds w2 ba 23 .u8 16 fa := ((hA0.grown g1 (by simp)).grown ga (by simp)).grown g2 (by have := (hA0.grown g1 (by simp)).lt; simp; omega)
  have hB2 : Holds w2 bb 23 .u8 16 fb := ((hB0.grown g1 (by simp)).grown ga (by simp)).grown g2 (by have := (hB0.grown g1 (by simp)).lt; simp; omega)
  have hcap := ho2'.le
  have hgc0 : w.heap.size ≤ gc := by have := hg1.size; have := World.size_alloc w1 (.cells #[] 5); omega
  have hba : ba < gc := by have := (hA0.grown g1 (by simp)).lt; have := World.size_alloc w1 (.cells #[] 5); omega
  have hbb : bb < gc := by have := (hB0.grown g1 (by simp)).lt; have := World.size_alloc w1 (.cells #[] 5); omega
  have hgl := ho2'.lt
  clear hgc
  have i1 : (32 : Int) ≤ cap := by omega
  have i2 : (16 : Int) ≤ cap := by omega
  have HAP := Lib.hid hap
  clear hap ho2 ho0 hRa hR1 hK1 hK0 hA0 hB0 ga
  go_upto_if 26 with (at_builtin; refine wpList_append_run rfl (.tmp 22) (.tmp 23) 22 22 rfl (.slice (some ⟨w1.heap.size, 0, none⟩) 0 0) (.slice (some ⟨bk, 0, none⟩) 32 32) _ _ rfl rfl HAP.out ?_)
  go_cut [13] (fun s13 wx => ∃ N L : Nat, s13 = .slice (some ⟨gc, 0, none⟩) L cap ∧ (N = 4 ∨ N = 8) ∧ L = 4 * N ∧ wx = w2)
  case first =>
    clear HAP g1 g2 hg1 hg0
    cases wide
    · go_wp2_with fail
      go_meet
      case rel => exact ⟨4, 16, rfl, Or.inl rfl, rfl, rfl⟩
    · go_wp2_with fail
      go_meet
      case rel => exact ⟨8, 32, rfl, Or.inr rfl, rfl, rfl⟩
  case rest =>
    obtain ⟨N, L, rfl, hN, hLN, rfl⟩ := hcut
    clear HAP g1 g2 hg1 hg0
    have hRc : Rd wc wc.heap.size (some ⟨gc, 0, none⟩) L kf := ⟨fun _ => ⟨gc, 0, rfl, ho2'.lt, fun i hi => by rw [Nat.zero_add]; exact ho2'.cell i (by omega)⟩⟩
    have hs2 : 0 < wc.heap.size := by have := hg2.size; omega
    have n1 := new_ok N L cap _ _ wc (hL.grown hg2 (by simp)) hN hLN hRc hk hs2
    have N1 := Lib.hid n1
    have HLN := Lib.hid hLN
    have hgl' := hgl
    clear n1 hLN hgl
    go_wp2_with fail
    go_at_call 8
    with_reducible refine (N1.out).mono ?_
    rintro e w5 ⟨m1, C1, rfl, hm1, hg5, hC1, hc1⟩
    have hg05 := grown_trans hg2 hg5
    have hs5 := hg5.size
    have n2 := new_ok N L cap _ _ w5 (hL.grown hg05 (by simp)) hN HLN.out (hRc.up (Nat.le_refl _) hg5) hk (by have := hg05.size; omega)
    have N2 := Lib.hid n2
    clear n2 N1
    go_wp2_with fail
    go_at_call 8
    with_reducible refine (N2.out).mono ?_
    rintro e w6 ⟨m2, C2, rfl, hm2, hg6, hC2, hc2⟩
    have hg06 := grown_trans hg05 hg6
    have hC16 := hC1.grown hg6 (by simp)
    have hA6 := hA2.grown (grown_trans hg5 hg6) (by simp)
    have hB6 := hB2.grown (grown_trans hg5 hg6) (by simp)
    have hO6 := ho2'.grown (grown_trans hg5 hg6) (by simp)
    clear N2 hg5 hg6 hC1 hA2 hB2 ho2' hRc hg2
    have hkw : ∀ i, keyW N kf i < 256 := keyW_lt N kf hk
    have hs1 : ∀ W, w6.grownBy W none → Calls Tryd.prog 10 #[.pointer (some ⟨m1, 0, none⟩), .agg (cellsOf .u8 16 fa)] W fun e w' => e = .returned (.agg (cellsOf .u8 16 (sealA (N + 6) (keyW N kf) fa))) ∧ W.grownBy w' none := fun W hW =>
      seal_any m1 (N + 6) C1 (keyW N kf) fa W (hL.grown (grown_trans hg06 hW) (by simp)) (hC16.grown hW (by simp)) hc1 ha hkw (by omega) (by omega)
    have hs3 : ∀ W, w6.grownBy W none → Calls Tryd.prog 10 #[.pointer (some ⟨m1, 0, none⟩), .agg (cellsOf .u8 16 fb)] W fun e w' => e = .returned (.agg (cellsOf .u8 16 (sealA (N + 6) (keyW N kf) fb))) ∧ W.grownBy w' none := fun W hW =>
      seal_any m1 (N + 6) C1 (keyW N kf) fb W (hL.grown (grown_trans hg06 hW) (by simp)) (hC16.grown hW (by simp)) hc1 hb hkw (by omega) (by omega)
    have hpq : (eq16 (sealA (N + 6) (keyW N kf) fa) (sealA (N + 6) (keyW N kf) fb) == eq16 fa fb) = true := by
      rw [beq_iff_eq, Bool.eq_iff_iff, eq16_iff, eq16_iff]
      exact ⟨fun h => sealA_inj (N + 6) hkw ha hb h, fun h => sealA_congr (N + 6) (fun _ _ => rfl) h⟩
    go_upto_region 10 with fail
    go_cut [18, 19] (fun s18 s19 wx => ∃ X Y : Nat, s18 = .pointer (some ⟨X, 0, none⟩) ∧ s19 = .pointer (some ⟨Y, 0, none⟩) ∧ PSt w6 wx (some X) (some Y) (sealA (N + 6) (keyW N kf) fa) (sealA (N + 6) (keyW N kf) fb))
    case first =>
      have HS1 := Lib.hid hs1
      have HS3 := Lib.hid hs3
      clear hs1 hs3
      refine wp_region_held (S := fun W => w6.grownBy W none) (by kernel_rfl) ?_
      change wpAnyH _ _ _ _ _ 10 #[false, false, false, false, false, false, false, false, false, false] _ (World.drew _)
      have H := PSt.start (grown_drew (grown_refl w6 none))
      generalize World.drew w6 = W at *
      refine wpAnyH_takeD (some 45) (i := 0) (v := .pointer (some ⟨m1, 0, none⟩)) rfl rfl (by kernel_rfl) (by kernel_rfl) (by kernel_rfl) (fun _ _ _ h => h) (Or.inl ⟨rfl, fun _ _ => rfl⟩) H.gr ?_
      refine wpAnyH_takeD (some 46) (i := 1) (v := .agg (cellsOf .u8 16 fa)) rfl rfl (by kernel_rfl) (by kernel_rfl) (by kernel_rfl) (fun _ _ _ h => h) (Or.inl ⟨rfl, fun W hW => run_blk (hA6.grown hW (by simp)) rfl rfl⟩) H.gr ?_
      refine wpAnyH_takeD (some 48) (i := 3) (v := .pointer (some ⟨m1, 0, none⟩)) rfl rfl (by kernel_rfl) (by kernel_rfl) (by kernel_rfl) (fun _ _ _ h => h) (Or.inl ⟨rfl, fun _ _ => rfl⟩) H.gr ?_
      refine wpAnyH_takeD (some 49) (i := 4) (v := .agg (cellsOf .u8 16 fb)) rfl rfl (by kernel_rfl) (by kernel_rfl) (by kernel_rfl) (fun _ _ _ h => h) (Or.inl ⟨rfl, fun W hW => run_blk (hB6.grown hW (by simp)) rfl rfl⟩) H.gr ?_
      simp only [Act.put, List.setIfInBounds_toArray, List.set_cons_succ, List.set_cons_zero]
      refine pair_states (w0 := w6) (d1 := 45) (d2 := 47) (d3 := 46) (d4 := 48) (d5 := 50) (d6 := 49) (dx := 18) (dy := 19) (p := (sealA (N + 6) (keyW N kf) fa)) (q := (sealA (N + 6) (keyW N kf) fb))
        (v1 := .pointer (some ⟨m1, 0, none⟩)) (v2 := .agg (cellsOf .u8 16 fa)) (v3 := .pointer (some ⟨m1, 0, none⟩)) (v4 := .agg (cellsOf .u8 16 fb))
        10 seal_enters (by kernel_rfl) rfl rfl rfl rfl rfl rfl rfl rfl rfl rfl rfl rfl rfl rfl rfl rfl rfl rfl rfl rfl rfl rfl rfl rfl
        (by decide) (by simp) (by simp) (by simp) (by simp) rfl rfl rfl rfl HS1.out HS3.out ?_ 4 0 none none W (by decide) rfl H
      intro X Y W' H'
      simp only [ptrTo, Act.put, List.setIfInBounds_toArray, List.set_cons_succ, List.set_cons_zero]
      go_wp2_with fail
      go_meet
      case rel => exact ⟨X, Y, rfl, rfl, H'⟩
    case rest =>
      obtain ⟨X, Y, rfl, rfl, H⟩ := hcut
      obtain ⟨p, hp⟩ : ∃ p, p = sealA (N + 6) (keyW N kf) fa := ⟨_, rfl⟩
      obtain ⟨q, hq⟩ : ∃ q, q = sealA (N + 6) (keyW N kf) fb := ⟨_, rfl⟩
      rw [← hp, ← hq] at H hpq
      have hgx : w.grownBy wc none := grown_trans hg06 H.gr
      have hOx := hO6.grown H.gr (by simp)
      have hcl := run_clear_bytes (Q := Tryd.prog) (T := 22) (E := 5) (by kernel_rfl) (fun _ => by kernel_rfl) 0 gc 0 L cap (some ⟨gc, 0, none⟩) wc (fun _ => rfl)
        (fun j hj => by rw [Nat.zero_add, hOx.cell j (by have := HLN.out; omega)]; rfl) (fun j _ => hOx.free _)
      have hgy : w6.grownBy (wc.setCells gc 0 ((List.range L).map fun _ => Value.int .u8 (0 : Nat))) (some gc) := grown_setCells gc (Or.inr rfl) _ _ _ (grown_some H.gr)
      have hgy0 : w.grownBy (wc.setCells gc 0 ((List.range L).map fun _ => Value.int .u8 (0 : Nat))) none := grown_setCells gc (Or.inl (by omega)) _ _ _ hgx
      generalize hw12 : wc.setCells gc 0 ((List.range L).map fun _ => Value.int .u8 (0 : Nat)) = w12 at *
      have hm1g : m1 ≠ gc := by omega
      have hm2g : m2 ≠ gc := by omega
      have hXg : X ≠ gc := by have := (H.hx X rfl).1; have := hO6.lt; omega
      have hYg : Y ≠ gc := by have := (H.hy Y rfl).1; have := hO6.lt; omega
      have hgz : wc.grownBy w12 (some gc) := by rw [← hw12]; exact grown_setCells gc (Or.inr rfl) _ _ _ (grown_refl wc (some gc))
      have hX12 := (H.hx X rfl).2.grown hgz (by simpa using hXg)
      have hY12 := (H.hy Y rfl).2.grown hgz (by simpa using hYg)
      have hA12 := (hA6.grown H.gr (by simp)).grown hgz (by simp; omega)
      have hB12 := (hB6.grown H.gr (by simp)).grown hgz (by simp; omega)
      have hC12 := hC16.grown hgy (by simp; omega)
      have hC22 := hC2.grown hgy (by simp; omega)
      have hL12 := hL.grown hgy0 (by simp)
      have HGY := Lib.hid hgy0
      have cs : ∀ z : Nat, z < 256 → ∀ W, w12.grownBy W none → Calls Tryd.prog 6 #[.int .u8 z] W fun e w' => e = .returned (.int .u8 (sB z : Nat)) ∧ w12.grownBy w' none := fun z hz W hW =>
        (s_any z W (hL12.grown hW (by simp)) hz).mono fun e w' ⟨h1, h2⟩ => ⟨h1, h2 ▸ hW⟩
      have c1 : ∀ W, w12.grownBy W none → Calls Tryd.prog 10 #[.pointer (some ⟨m1, 0, none⟩), .agg (cellsOf .u8 16 fa)] W fun e w' => e = .returned (.agg (cellsOf .u8 16 p)) ∧ w12.grownBy w' none := fun W hW => by
        rw [hp]
        exact (seal_any m1 (N + 6) C1 (keyW N kf) fa W (hL12.grown hW (by simp)) (hC12.grown hW (by simp)) hc1 ha hkw (by omega) (by omega)).mono fun e w' ⟨h1, h2⟩ => ⟨h1, grown_trans hW h2⟩
      have c2 : ∀ W, w12.grownBy W none → Calls Tryd.prog 10 #[.pointer (some ⟨m2, 0, none⟩), .agg (cellsOf .u8 16 fb)] W fun e w' => e = .returned (.agg (cellsOf .u8 16 q)) ∧ w12.grownBy w' none := fun W hW => by
        rw [hq]
        exact (seal_any m2 (N + 6) C2 (keyW N kf) fb W (hL12.grown hW (by simp)) (hC22.grown hW (by simp)) hc2 hb hkw (by omega) (by omega)).mono fun e w' ⟨h1, h2⟩ => ⟨h1, grown_trans hW h2⟩
      have hS : ((sB x : Int) == (sB y : Int)) = (((x : Int)) == (y : Int)) := by
        rw [Bool.eq_iff_iff, beq_iff_eq, beq_iff_eq]
        exact ⟨fun h => by rw [sB_inj x y hx hy (by omega)], fun h => by rw [show x = y by omega]⟩
      have hpp : ∀ f : Nat → Nat, eq16 f f = true := fun f => (eq16_iff f f).2 fun _ _ => rfl
      clear hgz hgy0 hgy hO6 hA6 hB6 hC16 hC2 hs1 hs3 hOx H hgx hL
      go_upto_region 12 with fail
      clear hcl
      refine wp_region_quiet (C := fun W => w12.grownBy W none) (by kernel_rfl) (by kernel_rfl) (grown_drew (grown_refl w12 none)) ?_
      refine wpQ_val (some 52) (v := .int .u8 (x : Nat)) rfl rfl (fun _ _ => rfl) ?_
      simp only [Act.put, List.setIfInBounds_toArray, List.set_cons_succ, List.set_cons_zero]
      refine wpQ_call (some 53) 6 #[.int .u8 (x : Nat)] (v := .int .u8 (sB x : Nat)) rfl rfl (exec_fn1 _ _ _ rfl rfl) s_enters (cs x hx) ?_
      simp only [Act.put, List.setIfInBounds_toArray, List.set_cons_succ, List.set_cons_zero]
      refine wpQ_val (some 54) (v := .int .u8 (y : Nat)) rfl rfl (fun _ _ => rfl) ?_
      simp only [Act.put, List.setIfInBounds_toArray, List.set_cons_succ, List.set_cons_zero]
      refine wpQ_call (some 55) 6 #[.int .u8 (y : Nat)] (v := .int .u8 (sB y : Nat)) rfl rfl (exec_fn1 _ _ _ rfl rfl) s_enters (cs y hy) ?_
      simp only [Act.put, List.setIfInBounds_toArray, List.set_cons_succ, List.set_cons_zero]
      refine wpQ_val (some 56) (v := .bool ((x : Int) == (y : Int))) rfl rfl (fun _ _ => by rw [← hS]; go_simp) ?_
      simp only [Act.put, List.setIfInBounds_toArray, List.set_cons_succ, List.set_cons_zero]
      refine wpQ_val (some 57) (v := .int .u8 (x : Nat)) rfl rfl (fun _ _ => rfl) ?_
      simp only [Act.put, List.setIfInBounds_toArray, List.set_cons_succ, List.set_cons_zero]
      refine wpQ_val (some 58) (v := .int .u8 (y : Nat)) rfl rfl (fun _ _ => rfl) ?_
      simp only [Act.put, List.setIfInBounds_toArray, List.set_cons_succ, List.set_cons_zero]
      refine wpQ_val (some 59) (v := .bool ((x : Int) == (y : Int))) rfl rfl (fun _ _ => by go_simp) ?_
      simp only [Act.put, List.setIfInBounds_toArray, List.set_cons_succ, List.set_cons_zero]
      refine wpQ_val (some 60) (v := .bool true) rfl rfl (fun _ _ => by go_simp) ?_
      simp only [Act.put, List.setIfInBounds_toArray, List.set_cons_succ, List.set_cons_zero]
      refine wpQ_val (some 61) (v := .bool true) rfl rfl (fun _ _ => rfl) ?_
      simp only [Act.put, List.setIfInBounds_toArray, List.set_cons_succ, List.set_cons_zero]
      refine wpQ_val (some 62) (v := .agg (cellsOf .u8 16 p)) rfl rfl (fun W hW => run_blk (hX12.grown hW (by simp)) rfl rfl) ?_
      simp only [Act.put, List.setIfInBounds_toArray, List.set_cons_succ, List.set_cons_zero]
      refine wpQ_val (some 63) (v := .agg (cellsOf .u8 16 q)) rfl rfl (fun W hW => run_blk (hY12.grown hW (by simp)) rfl rfl) ?_
      simp only [Act.put, List.setIfInBounds_toArray, List.set_cons_succ, List.set_cons_zero]
      refine wpQ_val (some 64) (v := .bool (eq16 p q)) rfl rfl (fun W _ => run_eqlB _ _ _ _ rfl rfl rfl) ?_
      simp only [Act.put, List.setIfInBounds_toArray, List.set_cons_succ, List.set_cons_zero]
      refine wpQ_val (some 65) (v := .agg (cellsOf .u8 16 fa)) rfl rfl (fun W hW => run_blk (hA12.grown hW (by simp)) rfl rfl) ?_
      simp only [Act.put, List.setIfInBounds_toArray, List.set_cons_succ, List.set_cons_zero]
      refine wpQ_val (some 66) (v := .agg (cellsOf .u8 16 fb)) rfl rfl (fun W hW => run_blk (hB12.grown hW (by simp)) rfl rfl) ?_
      simp only [Act.put, List.setIfInBounds_toArray, List.set_cons_succ, List.set_cons_zero]
      refine wpQ_val (some 67) (v := .bool (eq16 fa fb)) rfl rfl (fun W _ => run_eqlB _ _ _ _ rfl rfl rfl) ?_
      simp only [Act.put, List.setIfInBounds_toArray, List.set_cons_succ, List.set_cons_zero]
      refine wpQ_val (some 68) (v := .bool true) rfl rfl (fun _ _ => by rw [← hpq]; go_simp) ?_
      simp only [Act.put, List.setIfInBounds_toArray, List.set_cons_succ, List.set_cons_zero]
      refine wpQ_val (some 69) (v := .bool true) rfl rfl (fun _ _ => rfl) ?_
      simp only [Act.put, List.setIfInBounds_toArray, List.set_cons_succ, List.set_cons_zero]
      refine wpQ_val (some 70) (v := .bool true) rfl rfl (fun _ _ => rfl) ?_
      simp only [Act.put, List.setIfInBounds_toArray, List.set_cons_succ, List.set_cons_zero]
      refine wpQ_val (some 71) (v := .pointer (some ⟨m1, 0, none⟩)) rfl rfl (fun _ _ => rfl) ?_
      simp only [Act.put, List.setIfInBounds_toArray, List.set_cons_succ, List.set_cons_zero]
      refine wpQ_val (some 72) (v := .agg (cellsOf .u8 16 fa)) rfl rfl (fun W hW => run_blk (hA12.grown hW (by simp)) rfl rfl) ?_
      simp only [Act.put, List.setIfInBounds_toArray, List.set_cons_succ, List.set_cons_zero]
      refine wpQ_call (some 73) 10 #[.pointer (some ⟨m1, 0, none⟩), .agg (cellsOf .u8 16 fa)] (v := .agg (cellsOf .u8 16 p)) rfl rfl (exec_fn2 _ _ _ _ _ rfl rfl rfl) seal_enters (c1) ?_
      simp only [Act.put, List.setIfInBounds_toArray, List.set_cons_succ, List.set_cons_zero]
      refine wpQ_val (some 74) (v := .agg (cellsOf .u8 16 p)) rfl rfl (fun W hW => run_blk (hX12.grown hW (by simp)) rfl rfl) ?_
      simp only [Act.put, List.setIfInBounds_toArray, List.set_cons_succ, List.set_cons_zero]
      refine wpQ_val (some 75) (v := .bool true) rfl rfl (fun W _ => by rw [← hpp p]; exact run_eqlB _ _ _ _ rfl rfl rfl) ?_
      simp only [Act.put, List.setIfInBounds_toArray, List.set_cons_succ, List.set_cons_zero]
      refine wpQ_val (some 76) (v := .bool true) rfl rfl (fun _ _ => rfl) ?_
      simp only [Act.put, List.setIfInBounds_toArray, List.set_cons_succ, List.set_cons_zero]
      refine wpQ_val (some 77) (v := .bool true) rfl rfl (fun _ _ => rfl) ?_
      simp only [Act.put, List.setIfInBounds_toArray, List.set_cons_succ, List.set_cons_zero]
      refine wpQ_val (some 78) (v := .pointer (some ⟨m2, 0, none⟩)) rfl rfl (fun _ _ => rfl) ?_
      simp only [Act.put, List.setIfInBounds_toArray, List.set_cons_succ, List.set_cons_zero]
      refine wpQ_val (some 79) (v := .agg (cellsOf .u8 16 fb)) rfl rfl (fun W hW => run_blk (hB12.grown hW (by simp)) rfl rfl) ?_
      simp only [Act.put, List.setIfInBounds_toArray, List.set_cons_succ, List.set_cons_zero]
      refine wpQ_call (some 80) 10 #[.pointer (some ⟨m2, 0, none⟩), .agg (cellsOf .u8 16 fb)] (v := .agg (cellsOf .u8 16 q)) rfl rfl (exec_fn2 _ _ _ _ _ rfl rfl rfl) seal_enters (c2) ?_
      simp only [Act.put, List.setIfInBounds_toArray, List.set_cons_succ, List.set_cons_zero]
      refine wpQ_val (some 81) (v := .agg (cellsOf .u8 16 q)) rfl rfl (fun W hW => run_blk (hY12.grown hW (by simp)) rfl rfl) ?_
      simp only [Act.put, List.setIfInBounds_toArray, List.set_cons_succ, List.set_cons_zero]
      refine wpQ_val (some 82) (v := .bool true) rfl rfl (fun W _ => by rw [← hpp q]; exact run_eqlB _ _ _ _ rfl rfl rfl) ?_
      simp only [Act.put, List.setIfInBounds_toArray, List.set_cons_succ, List.set_cons_zero]
      refine wpQ_val (some 83) (v := .bool true) rfl rfl (fun _ _ => rfl) ?_
      simp only [Act.put, List.setIfInBounds_toArray, List.set_cons_succ, List.set_cons_zero]
      refine wpQ_val (some 12) (v := .bool true) rfl rfl (fun _ _ => rfl) ?_
      simp only [Act.put, List.setIfInBounds_toArray, List.set_cons_succ, List.set_cons_zero]
      refine wpQuiet_nil ?_
      intro W hW
      go_wp2_with fail
      go_ret
      exact ⟨⟨rfl, grown_trans HGY.out hW⟩⟩

end Go.Proofs.YtbjmgolkgpdenaaDoor
