/-
  HeadTells.
-/
import Derived.Test.YtmbefbmpjkbnmaaHdKnown
import Derived.Test.YtmbefbmpjkbnmaaHdSize
import Derived.Test.YtmbefbmpjkbnmaaHdRefT
namespace Go.Proofs.Ytmbefbmpjkbnmaa
open Go.RowKit Go.Shelf

set_option maxRecDepth 100000
set_option maxHeartbeats 4000000

theorem hdSize_enters (args : Array Value) (w : World) : (callFunc 52 args).run Try.prog w = .ok (.enter 52 args) w := enters_of Try.func52 (by kernel_rfl) rfl args w
theorem HeadTells_any (k c L cp D : Nat) (a : Option Addr) (F : Nat → Nat) (w : World) (hk : k < 18446744073709551616) (hc : c < 18446744073709551616) (hR : Rd w D a L F) (hF : ∀ i, F i < 256) (hcp : L ≤ cp) :
    Calls Try.prog 6 #[.agg #[.int .u64 k, .int .u64 c], .slice a L cp] w fun e w' => e = .returned (.bool true) ∧ w.grownBy w' none := by
  have ga := World.grownBy_alloc w (.cells #[.int .u64 k, .int .u64 c] 128) none
  have hX := holds_alloc w 128 .u64 2 (two k c) #[.int .u64 k, .int .u64 c] rfl
  have HPT := Lib.hid (fun W => hdPut_any k c W hk hc)
  have HSZ := Lib.hid (fun W => size_any k c W hk hc)
  have HRP := Lib.hid (fun W => hdRefPut_any k c W hk hc)
  have HFL := Lib.hid (hdF_lt k c)
  have hn17 := (hdLen_bd k c).2
  obtain ⟨n, hn⟩ : ∃ n, n = hdLen k c := ⟨_, rfl⟩
  obtain ⟨fh, hfh⟩ : ∃ f, f = hdF k c := ⟨_, rfl⟩
  rw [← hn, ← hfh] at HPT HRP
  rw [← hn] at HSZ hn17
  rw [← hfh] at HFL
  have HN := Lib.hid hn
  clear hn hfh hk hc
  go_enter Try.func6, Try.ntmps6
  go_upto_region 1 with fail
  obtain ⟨XB, hXB⟩ : ∃ B, B = w.heap.size := ⟨_, rfl⟩
  rw [← hXB] at hX ⊢
  generalize w.alloc (.cells #[.int .u64 k, .int .u64 c] 128) = w1 at *
  have HX1 := Lib.hid hX
  have G1 := Lib.hid ga
  clear hX ga hXB
  go_wp2_with fail
  go_at_call 47
  refine (hdKnown_any w1).mono ?_
  rintro e w2 ⟨rfl, g⟩
  have HX2 := Lib.hid (HX1.out.grown g (by simp))
  have G2 := Lib.hid (grown_trans G1.out g)
  clear g HX1 G1
  by_cases hbig : 100 < L
  · have i1 : (L : Int) > 100 := by omega
    clear hR hF hcp hbig HN HPT HSZ HRP HFL hn17
    go_wp2_with fail
    go_ret
    exact ⟨rfl, G2.out⟩
  · have i1 : ¬ (L : Int) > 100 := by omega
    have c0 : w2.cell? ⟨XB, 0, none⟩ = some (.int .u64 k) := HX2.out.cell 0 (by decide)
    have c1 : w2.cell? ⟨XB, 1, none⟩ = some (.int .u64 c) := HX2.out.cell 1 (by decide)
    have HR0 := Lib.hid hR
    have HTK := Lib.hid (fun W h => hdTake_any L cp D a F W h hF hcp (by omega))
    have HRT := Lib.hid (fun W h => hdRefTake_any L cp D a F W h hF hcp (by omega))
    clear hR hF hcp hbig
    go_wp2_with fail
    go_at_call 48
    refine (HRP.out w2).mono ?_
    intro e w3 h
    obtain ⟨_, rfl, gw, cw, rfl, hW, hgw, g3⟩ := h.valP
    have HX3 := Lib.hid (HX2.out.grown g3 (by simp))
    have HW3 := Lib.hid hW
    have G3 := Lib.hid (grown_trans G2.out g3)
    clear h hW hgw g3 HX2 G2 c0 c1 HRP
    go_wp2_with fail
    go_at_call 49
    refine (HTK.out w3 (HR0.out.grown G3.out (fun k e => by cases e))).mono ?_
    intro e w4 h
    obtain ⟨h1, g4⟩ := h
    have HX4 := Lib.hid (HX3.out.grown g4 (by simp))
    have HW4 := Lib.hid (HW3.out.grown g4 (by simp))
    have G4 := Lib.hid (grown_trans G3.out g4)
    obtain ⟨K, hK⟩ : ∃ K, K = ansK L F := ⟨_, rfl⟩
    obtain ⟨C, hC⟩ : ∃ K, K = ansC L F := ⟨_, rfl⟩
    obtain ⟨U, hU⟩ : ∃ K, K = ansU L F := ⟨_, rfl⟩
    obtain ⟨E, hE⟩ : ∃ K, K = ansE L F := ⟨_, rfl⟩
    rw [← hK, ← hC, ← hU, ← hE] at h1
    subst h1
    have HKe := Lib.hid hK
    have HCe := Lib.hid hC
    have HUe := Lib.hid hU
    have HEe := Lib.hid hE
    clear g4 hK hC hU hE HX3 HW3 G3 HTK
    have gb := World.grownBy_alloc w4 (.cells #[.int .u64 (K : Nat), .int .u64 (C : Nat)] 128) none
    have HG5 := Lib.hid (holds_alloc w4 128 .u64 2 (two K C) #[.int .u64 (K : Nat), .int .u64 (C : Nat)] rfl)
    have HX5 := Lib.hid (HX4.out.grown gb (by simp))
    have HW5 := Lib.hid (HW4.out.grown gb (by simp))
    have G5 := Lib.hid (grown_trans G4.out gb)
    clear gb HX4 HW4 G4
    go_upto_region 7 with fail
    obtain ⟨GB, hGB⟩ : ∃ B, B = w4.heap.size := ⟨_, rfl⟩
    rw [← hGB] at HG5 ⊢
    generalize w4.alloc (.cells #[.int .u64 (K : Nat), .int .u64 (C : Nat)] 128) = w5 at *
    clear hGB
    go_wp2_with fail
    go_at_call 50
    refine (HRT.out w5 (HR0.out.grown G5.out (fun k e => by cases e))).mono ?_
    intro e w6 h
    obtain ⟨h1, g6⟩ := h
    rw [← HKe.out, ← HCe.out, ← HUe.out] at h1
    subst h1
    have gb := World.grownBy_alloc w6 (.cells #[.int .u64 (K : Nat), .int .u64 (C : Nat)] 128) none
    have HR7 := Lib.hid (holds_alloc w6 128 .u64 2 (two K C) #[.int .u64 (K : Nat), .int .u64 (C : Nat)] rfl)
    have HG7 := Lib.hid ((HG5.out.grown g6 (by simp)).grown gb (by simp))
    have HX7 := Lib.hid ((HX5.out.grown g6 (by simp)).grown gb (by simp))
    have HW7 := Lib.hid ((HW5.out.grown g6 (by simp)).grown gb (by simp))
    have G7 := Lib.hid (grown_trans (grown_trans G5.out g6) gb)
    clear gb g6 HG5 HX5 HW5 G5 HRT HR0
    go_upto_region 8 with fail
    obtain ⟨RB, hRB⟩ : ∃ B, B = w6.heap.size := ⟨_, rfl⟩
    rw [← hRB] at HR7 ⊢
    generalize w6.alloc (.cells #[.int .u64 (K : Nat), .int .u64 (C : Nat)] 128) = w7 at *
    clear hRB
    obtain ⟨V0, hV0⟩ : ∃ V0, V0 = w7.drew := ⟨_, rfl⟩
    have hv0 : w7.grownBy V0 none := by rw [hV0]; exact grown_drew (grown_refl w7 none)
    have HV0 := Lib.hid hV0.symm
    have HX := Lib.hid (HX7.out.grown hv0 (by simp))
    have HG := Lib.hid (HG7.out.grown hv0 (by simp))
    have HR := Lib.hid (HR7.out.grown hv0 (by simp))
    have HW := Lib.hid (HW7.out.grown hv0 (by simp))
    have G8 := Lib.hid (grown_trans G7.out hv0)
    obtain ⟨s, hs⟩ : ∃ s, s = strOf n fh := ⟨_, rfl⟩
    have HS := Lib.hid hs
    clear hV0 hv0 hs HX7 HG7 HR7 HW7 G7
    cases hok : tkOk L F with
    | true =>
      have hE : E = 0 := by rw [HEe.out]; unfold ansE; simp only [hok]; rfl
      have HU := Lib.hid (show 0 < U by rw [HUe.out]; unfold ansU tkUsed; simp only [hok, if_true]; omega)
      subst hE
      clear hok
      refine wp_region_held (S := (fun W => V0.grownBy W none)) (by kernel_rfl) ?_
      change wpAnyH _ _ _ _ _ 39 #[false, false, false, false, false, false, false, false, false, false, false, false, false, false, false, false, false, false, false, false, false, false, false, false, false, false, false, false, false, false, false, false, false, false, false, false, false, false, false] _ (World.drew _)
      rw [HV0.out]
      have hS0 : V0.grownBy V0 none := grown_refl V0 _
      refine wpAnyH_takeD (some 29) (i := 0) (v := (.agg #[.int .u64 (k : Nat), .int .u64 (c : Nat)])) rfl rfl (by kernel_rfl) (by kernel_rfl) (by kernel_rfl) (fun _ _ _ h => h) (Or.inl ⟨rfl, fun W hW => by have c0 := (HX.out.grown hW (by simp)).cell 0 (by decide); have c1 := (HX.out.grown hW (by simp)).cell 1 (by decide); rw [show two k c 0 = k from rfl] at c0; rw [show two k c 1 = c from rfl] at c1; go_simp⟩) hS0 ?_
      simp only [Act.put, List.setIfInBounds_toArray, List.set_cons_succ, List.set_cons_zero]
      refine wpAnyH_takeD (some 32) (i := 3) (v := (.slice (some ⟨gw, 0, none⟩) n cw)) rfl rfl (by kernel_rfl) (by kernel_rfl) (by kernel_rfl) (fun _ _ _ h => h) (Or.inl ⟨rfl, fun _ _ => rfl⟩) hS0 ?_
      simp only [Act.put, List.setIfInBounds_toArray, List.set_cons_succ, List.set_cons_zero]
      refine wpAnyH_takeD (some 33) (i := 4) (v := (.string s)) rfl rfl (by kernel_rfl) (by kernel_rfl) (by kernel_rfl) (fun _ _ _ h => h) (Or.inl ⟨rfl, fun W hW => by have z := run_string cw (HW.out.grown hW (by simp)).rd HFL.out; rw [← HS.out] at z; go_simp⟩) hS0 ?_
      simp only [Act.put, List.setIfInBounds_toArray, List.set_cons_succ, List.set_cons_zero]
      refine wpAnyH_callD (some 30) (i := 1) 51 #[.agg #[.int .u64 (k : Nat), .int .u64 (c : Nat)]] (by kernel_rfl) rfl rfl rfl (exec_fn1 _ _ _ rfl rfl) hdPut_enters ((HPT.out V0).mono fun e W1 h => h.valP) ?_
      rintro _ V1 ⟨gk, ck, rfl, hO, hgk, g1⟩
      refine ⟨g1, ?_⟩
      simp only [Act.put, List.setIfInBounds_toArray, List.set_cons_succ, List.set_cons_zero]
      have z := run_string ck hO.rd HFL.out
      rw [← HS.out] at z
      refine wpAnyH_yieldD (some 31) (i := 2) (v := (.string s)) (by kernel_rfl) rfl rfl rfl (by go_simp) g1 ?_
      simp only [Act.put, List.setIfInBounds_toArray, List.set_cons_succ, List.set_cons_zero]
      clear z hO
      refine wpAnyH_takeD (some 34) (i := 5) (v := (.bool true)) rfl rfl (by kernel_rfl) (by kernel_rfl) (by kernel_rfl) (fun _ _ _ h => h) (Or.inl ⟨rfl, fun _ _ => by go_simp⟩) g1 ?_
      simp only [Act.put, List.setIfInBounds_toArray, List.set_cons_succ, List.set_cons_zero]
      refine wpAnyH_takeD (some 35) (i := 6) (v := (.bool true)) rfl rfl (by kernel_rfl) (by kernel_rfl) (by kernel_rfl) (fun _ _ _ h => h) (Or.inl ⟨rfl, fun _ _ => rfl⟩) g1 ?_
      simp only [Act.put, List.setIfInBounds_toArray, List.set_cons_succ, List.set_cons_zero]
      refine wpAnyH_takeD (some 36) (i := 7) (v := (.agg #[.int .u64 (k : Nat), .int .u64 (c : Nat)])) rfl rfl (by kernel_rfl) (by kernel_rfl) (by kernel_rfl) (fun _ _ _ h => h) (Or.inl ⟨rfl, fun W hW => by have c0 := (HX.out.grown hW (by simp)).cell 0 (by decide); have c1 := (HX.out.grown hW (by simp)).cell 1 (by decide); rw [show two k c 0 = k from rfl] at c0; rw [show two k c 1 = c from rfl] at c1; go_simp⟩) g1 ?_
      simp only [Act.put, List.setIfInBounds_toArray, List.set_cons_succ, List.set_cons_zero]
      refine wpAnyH_takeD (some 38) (i := 9) (v := (.slice (some ⟨gw, 0, none⟩) n cw)) rfl rfl (by kernel_rfl) (by kernel_rfl) (by kernel_rfl) (fun _ _ _ h => h) (Or.inl ⟨rfl, fun _ _ => rfl⟩) g1 ?_
      simp only [Act.put, List.setIfInBounds_toArray, List.set_cons_succ, List.set_cons_zero]
      refine wpAnyH_takeD (some 39) (i := 10) (v := (.int .i64 (n : Nat))) rfl rfl (by kernel_rfl) (by kernel_rfl) (by kernel_rfl) (fun _ _ _ h => h) (Or.inl ⟨rfl, fun _ _ => by go_simp⟩) g1 ?_
      simp only [Act.put, List.setIfInBounds_toArray, List.set_cons_succ, List.set_cons_zero]
      refine wpAnyH_callD (some 37) (i := 8) 52 #[.agg #[.int .u64 (k : Nat), .int .u64 (c : Nat)]] (R := fun v W => v = .int .i64 (n : Nat) ∧ V1.grownBy W none) (by kernel_rfl) rfl rfl rfl (exec_fn1 _ _ _ rfl rfl) hdSize_enters ((HSZ.out V1).mono fun e W1 h => ⟨_, h.1, rfl, h.2⟩) ?_
      rintro v V2 h2
      have g12 := grown_trans g1 h2.2
      obtain rfl : v = .int .i64 (n : Nat) := h2.1
      clear h2
      refine ⟨g12, ?_⟩
      simp only [Act.put, List.setIfInBounds_toArray, List.set_cons_succ, List.set_cons_zero]
      refine wpAnyH_takeD (some 40) (i := 11) (v := (.bool true)) rfl rfl (by kernel_rfl) (by kernel_rfl) (by kernel_rfl) (fun _ _ _ h => h) (Or.inl ⟨rfl, fun _ _ => by go_simp⟩) g12 ?_
      simp only [Act.put, List.setIfInBounds_toArray, List.set_cons_succ, List.set_cons_zero]
      refine wpAnyH_takeD (some 41) (i := 12) (v := (.bool true)) rfl rfl (by kernel_rfl) (by kernel_rfl) (by kernel_rfl) (fun _ _ _ h => h) (Or.inl ⟨rfl, fun _ _ => by go_simp⟩) g12 ?_
      simp only [Act.put, List.setIfInBounds_toArray, List.set_cons_succ, List.set_cons_zero]
      refine wpAnyH_takeD (some 42) (i := 13) (v := (.bool true)) rfl rfl (by kernel_rfl) (by kernel_rfl) (by kernel_rfl) (fun _ _ _ h => h) (Or.inl ⟨rfl, fun _ _ => rfl⟩) g12 ?_
      simp only [Act.put, List.setIfInBounds_toArray, List.set_cons_succ, List.set_cons_zero]
      refine wpAnyH_takeD (some 43) (i := 14) (v := (.agg #[.int .u64 (K : Nat), .int .u64 (C : Nat)])) rfl rfl (by kernel_rfl) (by kernel_rfl) (by kernel_rfl) (fun _ _ _ h => h) (Or.inl ⟨rfl, fun W hW => by have c0 := (HG.out.grown hW (by simp)).cell 0 (by decide); have c1 := (HG.out.grown hW (by simp)).cell 1 (by decide); rw [show two K C 0 = K from rfl] at c0; rw [show two K C 1 = C from rfl] at c1; go_simp⟩) g12 ?_
      simp only [Act.put, List.setIfInBounds_toArray, List.set_cons_succ, List.set_cons_zero]
      refine wpAnyH_takeD (some 44) (i := 15) (v := (.agg #[.int .u64 (K : Nat), .int .u64 (C : Nat)])) rfl rfl (by kernel_rfl) (by kernel_rfl) (by kernel_rfl) (fun _ _ _ h => h) (Or.inl ⟨rfl, fun W hW => by have c0 := (HR.out.grown hW (by simp)).cell 0 (by decide); have c1 := (HR.out.grown hW (by simp)).cell 1 (by decide); rw [show two K C 0 = K from rfl] at c0; rw [show two K C 1 = C from rfl] at c1; go_simp⟩) g12 ?_
      simp only [Act.put, List.setIfInBounds_toArray, List.set_cons_succ, List.set_cons_zero]
      refine wpAnyH_takeD (some 45) (i := 16) (v := (.bool true)) rfl rfl (by kernel_rfl) (by kernel_rfl) (by kernel_rfl) (fun _ _ _ h => h) (Or.inl ⟨rfl, fun _ _ => by go_simp⟩) g12 ?_
      simp only [Act.put, List.setIfInBounds_toArray, List.set_cons_succ, List.set_cons_zero]
      refine wpAnyH_takeD (some 46) (i := 17) (v := (.bool true)) rfl rfl (by kernel_rfl) (by kernel_rfl) (by kernel_rfl) (fun _ _ _ h => h) (Or.inl ⟨rfl, fun _ _ => by go_simp⟩) g12 ?_
      simp only [Act.put, List.setIfInBounds_toArray, List.set_cons_succ, List.set_cons_zero]
      refine wpAnyH_takeD (some 47) (i := 18) (v := (.bool true)) rfl rfl (by kernel_rfl) (by kernel_rfl) (by kernel_rfl) (fun _ _ _ h => h) (Or.inl ⟨rfl, fun _ _ => rfl⟩) g12 ?_
      simp only [Act.put, List.setIfInBounds_toArray, List.set_cons_succ, List.set_cons_zero]
      refine wpAnyH_takeD (some 48) (i := 19) (v := (.int .i64 (U : Nat))) rfl rfl (by kernel_rfl) (by kernel_rfl) (by kernel_rfl) (fun _ _ _ h => h) (Or.inl ⟨rfl, fun _ _ => rfl⟩) g12 ?_
      simp only [Act.put, List.setIfInBounds_toArray, List.set_cons_succ, List.set_cons_zero]
      refine wpAnyH_takeD (some 49) (i := 20) (v := (.int .i64 (U : Nat))) rfl rfl (by kernel_rfl) (by kernel_rfl) (by kernel_rfl) (fun _ _ _ h => h) (Or.inl ⟨rfl, fun _ _ => rfl⟩) g12 ?_
      simp only [Act.put, List.setIfInBounds_toArray, List.set_cons_succ, List.set_cons_zero]
      refine wpAnyH_takeD (some 50) (i := 21) (v := (.bool true)) rfl rfl (by kernel_rfl) (by kernel_rfl) (by kernel_rfl) (fun _ _ _ h => h) (Or.inl ⟨rfl, fun _ _ => by go_simp⟩) g12 ?_
      simp only [Act.put, List.setIfInBounds_toArray, List.set_cons_succ, List.set_cons_zero]
      refine wpAnyH_takeD (some 51) (i := 22) (v := (.bool true)) rfl rfl (by kernel_rfl) (by kernel_rfl) (by kernel_rfl) (fun _ _ _ h => h) (Or.inl ⟨rfl, fun _ _ => by go_simp⟩) g12 ?_
      simp only [Act.put, List.setIfInBounds_toArray, List.set_cons_succ, List.set_cons_zero]
      refine wpAnyH_takeD (some 52) (i := 23) (v := (.bool true)) rfl rfl (by kernel_rfl) (by kernel_rfl) (by kernel_rfl) (fun _ _ _ h => h) (Or.inl ⟨rfl, fun _ _ => rfl⟩) g12 ?_
      simp only [Act.put, List.setIfInBounds_toArray, List.set_cons_succ, List.set_cons_zero]
      refine wpAnyH_takeD (some 53) (i := 24) (v := (.int .i64 0)) rfl rfl (by kernel_rfl) (by kernel_rfl) (by kernel_rfl) (fun _ _ _ h => h) (Or.inl ⟨rfl, fun _ _ => rfl⟩) g12 ?_
      simp only [Act.put, List.setIfInBounds_toArray, List.set_cons_succ, List.set_cons_zero]
      refine wpAnyH_takeD (some 54) (i := 25) (v := (.bool true)) rfl rfl (by kernel_rfl) (by kernel_rfl) (by kernel_rfl) (fun _ _ _ h => h) (Or.inl ⟨rfl, fun _ _ => by go_simp⟩) g12 ?_
      simp only [Act.put, List.setIfInBounds_toArray, List.set_cons_succ, List.set_cons_zero]
      refine wpAnyH_takeD (some 55) (i := 26) (v := (.int .i64 (U : Nat))) rfl rfl (by kernel_rfl) (by kernel_rfl) (by kernel_rfl) (fun _ _ _ h => h) (Or.inl ⟨rfl, fun _ _ => rfl⟩) g12 ?_
      simp only [Act.put, List.setIfInBounds_toArray, List.set_cons_succ, List.set_cons_zero]
      refine wpAnyH_takeD (some 56) (i := 27) (v := (.bool true)) rfl rfl (by kernel_rfl) (by kernel_rfl) (by kernel_rfl) (fun _ _ _ h => h) (Or.inl ⟨rfl, fun _ _ => by have hu := HU.out; go_simp⟩) g12 ?_
      simp only [Act.put, List.setIfInBounds_toArray, List.set_cons_succ, List.set_cons_zero]
      refine wpAnyH_takeD (some 57) (i := 28) (v := (.bool true)) rfl rfl (by kernel_rfl) (by kernel_rfl) (by kernel_rfl) (fun _ _ _ h => h) (Or.inl ⟨rfl, fun _ _ => by go_simp⟩) g12 ?_
      simp only [Act.put, List.setIfInBounds_toArray, List.set_cons_succ, List.set_cons_zero]
      refine wpAnyH_takeD (some 58) (i := 29) (v := (.bool true)) rfl rfl (by kernel_rfl) (by kernel_rfl) (by kernel_rfl) (fun _ _ _ h => h) (Or.inl ⟨rfl, fun _ _ => by go_simp⟩) g12 ?_
      simp only [Act.put, List.setIfInBounds_toArray, List.set_cons_succ, List.set_cons_zero]
      refine wpAnyH_takeD (some 59) (i := 30) (v := (.bool true)) rfl rfl (by kernel_rfl) (by kernel_rfl) (by kernel_rfl) (fun _ _ _ h => h) (Or.inl ⟨rfl, fun _ _ => rfl⟩) g12 ?_
      simp only [Act.put, List.setIfInBounds_toArray, List.set_cons_succ, List.set_cons_zero]
      refine wpAnyH_takeD (some 60) (i := 31) (v := (.int .i64 0)) rfl rfl (by kernel_rfl) (by kernel_rfl) (by kernel_rfl) (fun _ _ _ h => h) (Or.inl ⟨rfl, fun _ _ => rfl⟩) g12 ?_
      simp only [Act.put, List.setIfInBounds_toArray, List.set_cons_succ, List.set_cons_zero]
      refine wpAnyH_takeD (some 61) (i := 32) (v := (.bool true)) rfl rfl (by kernel_rfl) (by kernel_rfl) (by kernel_rfl) (fun _ _ _ h => h) (Or.inl ⟨rfl, fun _ _ => by go_simp⟩) g12 ?_
      simp only [Act.put, List.setIfInBounds_toArray, List.set_cons_succ, List.set_cons_zero]
      refine wpAnyH_takeD (some 62) (i := 33) (v := (.bool true)) rfl rfl (by kernel_rfl) (by kernel_rfl) (by kernel_rfl) (fun _ _ _ h => h) (Or.inl ⟨rfl, fun _ _ => rfl⟩) g12 ?_
      simp only [Act.put, List.setIfInBounds_toArray, List.set_cons_succ, List.set_cons_zero]
      refine wpAnyH_takeD (some 63) (i := 34) (v := undef) rfl rfl (by kernel_rfl) (by kernel_rfl) (by kernel_rfl) (fun _ _ _ h => h) (Or.inr ⟨by kernel_rfl, rfl⟩) g12 ?_
      simp only [Act.put, List.setIfInBounds_toArray, List.set_cons_succ, List.set_cons_zero]
      refine wpAnyH_takeD (some 64) (i := 35) (v := undef) rfl rfl (by kernel_rfl) (by kernel_rfl) (by kernel_rfl) (fun _ _ _ h => h) (Or.inr ⟨by kernel_rfl, rfl⟩) g12 ?_
      simp only [Act.put, List.setIfInBounds_toArray, List.set_cons_succ, List.set_cons_zero]
      refine wpAnyH_takeD (some 65) (i := 36) (v := (.bool true)) rfl rfl (by kernel_rfl) (by kernel_rfl) (by kernel_rfl) (fun _ _ _ h => h) (Or.inl ⟨rfl, fun _ _ => by go_simp⟩) g12 ?_
      simp only [Act.put, List.setIfInBounds_toArray, List.set_cons_succ, List.set_cons_zero]
      refine wpAnyH_takeD (some 66) (i := 37) (v := (.bool true)) rfl rfl (by kernel_rfl) (by kernel_rfl) (by kernel_rfl) (fun _ _ _ h => h) (Or.inl ⟨rfl, fun _ _ => by go_simp⟩) g12 ?_
      simp only [Act.put, List.setIfInBounds_toArray, List.set_cons_succ, List.set_cons_zero]
      refine wpAnyH_takeD (some 4) (i := 38) (v := (.bool true)) rfl rfl (by kernel_rfl) (by kernel_rfl) (by kernel_rfl) (fun _ _ _ h => h) (Or.inl ⟨rfl, fun _ _ => rfl⟩) g12 ?_
      simp only [Act.put, List.setIfInBounds_toArray, List.set_cons_succ, List.set_cons_zero]
      refine wpAnyH_done (by kernel_rfl) ?_ _
      have HGF := Lib.hid (grown_trans G8.out g12)
      clear g12 hS0
      go_wp2_with fail
      go_ret
      exact ⟨rfl, HGF.out⟩
    | false =>
      have hE : E = 9 := by rw [HEe.out]; unfold ansE; simp only [hok]; rfl
      have hU : U = 0 := by rw [HUe.out]; unfold ansU; simp only [hok]; rfl
      subst hE
      subst hU
      clear hok
      refine wp_region_held (S := (fun W => V0.grownBy W none)) (by kernel_rfl) ?_
      change wpAnyH _ _ _ _ _ 39 #[false, false, false, false, false, false, false, false, false, false, false, false, false, false, false, false, false, false, false, false, false, false, false, false, false, false, false, false, false, false, false, false, false, false, false, false, false, false, false] _ (World.drew _)
      rw [HV0.out]
      have hS0 : V0.grownBy V0 none := grown_refl V0 _
      refine wpAnyH_takeD (some 29) (i := 0) (v := (.agg #[.int .u64 (k : Nat), .int .u64 (c : Nat)])) rfl rfl (by kernel_rfl) (by kernel_rfl) (by kernel_rfl) (fun _ _ _ h => h) (Or.inl ⟨rfl, fun W hW => by have c0 := (HX.out.grown hW (by simp)).cell 0 (by decide); have c1 := (HX.out.grown hW (by simp)).cell 1 (by decide); rw [show two k c 0 = k from rfl] at c0; rw [show two k c 1 = c from rfl] at c1; go_simp⟩) hS0 ?_
      simp only [Act.put, List.setIfInBounds_toArray, List.set_cons_succ, List.set_cons_zero]
      refine wpAnyH_takeD (some 32) (i := 3) (v := (.slice (some ⟨gw, 0, none⟩) n cw)) rfl rfl (by kernel_rfl) (by kernel_rfl) (by kernel_rfl) (fun _ _ _ h => h) (Or.inl ⟨rfl, fun _ _ => rfl⟩) hS0 ?_
      simp only [Act.put, List.setIfInBounds_toArray, List.set_cons_succ, List.set_cons_zero]
      refine wpAnyH_takeD (some 33) (i := 4) (v := (.string s)) rfl rfl (by kernel_rfl) (by kernel_rfl) (by kernel_rfl) (fun _ _ _ h => h) (Or.inl ⟨rfl, fun W hW => by have z := run_string cw (HW.out.grown hW (by simp)).rd HFL.out; rw [← HS.out] at z; go_simp⟩) hS0 ?_
      simp only [Act.put, List.setIfInBounds_toArray, List.set_cons_succ, List.set_cons_zero]
      refine wpAnyH_callD (some 30) (i := 1) 51 #[.agg #[.int .u64 (k : Nat), .int .u64 (c : Nat)]] (by kernel_rfl) rfl rfl rfl (exec_fn1 _ _ _ rfl rfl) hdPut_enters ((HPT.out V0).mono fun e W1 h => h.valP) ?_
      rintro _ V1 ⟨gk, ck, rfl, hO, hgk, g1⟩
      refine ⟨g1, ?_⟩
      simp only [Act.put, List.setIfInBounds_toArray, List.set_cons_succ, List.set_cons_zero]
      have z := run_string ck hO.rd HFL.out
      rw [← HS.out] at z
      refine wpAnyH_yieldD (some 31) (i := 2) (v := (.string s)) (by kernel_rfl) rfl rfl rfl (by go_simp) g1 ?_
      simp only [Act.put, List.setIfInBounds_toArray, List.set_cons_succ, List.set_cons_zero]
      clear z hO
      refine wpAnyH_takeD (some 34) (i := 5) (v := (.bool true)) rfl rfl (by kernel_rfl) (by kernel_rfl) (by kernel_rfl) (fun _ _ _ h => h) (Or.inl ⟨rfl, fun _ _ => by go_simp⟩) g1 ?_
      simp only [Act.put, List.setIfInBounds_toArray, List.set_cons_succ, List.set_cons_zero]
      refine wpAnyH_takeD (some 35) (i := 6) (v := (.bool true)) rfl rfl (by kernel_rfl) (by kernel_rfl) (by kernel_rfl) (fun _ _ _ h => h) (Or.inl ⟨rfl, fun _ _ => rfl⟩) g1 ?_
      simp only [Act.put, List.setIfInBounds_toArray, List.set_cons_succ, List.set_cons_zero]
      refine wpAnyH_takeD (some 36) (i := 7) (v := (.agg #[.int .u64 (k : Nat), .int .u64 (c : Nat)])) rfl rfl (by kernel_rfl) (by kernel_rfl) (by kernel_rfl) (fun _ _ _ h => h) (Or.inl ⟨rfl, fun W hW => by have c0 := (HX.out.grown hW (by simp)).cell 0 (by decide); have c1 := (HX.out.grown hW (by simp)).cell 1 (by decide); rw [show two k c 0 = k from rfl] at c0; rw [show two k c 1 = c from rfl] at c1; go_simp⟩) g1 ?_
      simp only [Act.put, List.setIfInBounds_toArray, List.set_cons_succ, List.set_cons_zero]
      refine wpAnyH_takeD (some 38) (i := 9) (v := (.slice (some ⟨gw, 0, none⟩) n cw)) rfl rfl (by kernel_rfl) (by kernel_rfl) (by kernel_rfl) (fun _ _ _ h => h) (Or.inl ⟨rfl, fun _ _ => rfl⟩) g1 ?_
      simp only [Act.put, List.setIfInBounds_toArray, List.set_cons_succ, List.set_cons_zero]
      refine wpAnyH_takeD (some 39) (i := 10) (v := (.int .i64 (n : Nat))) rfl rfl (by kernel_rfl) (by kernel_rfl) (by kernel_rfl) (fun _ _ _ h => h) (Or.inl ⟨rfl, fun _ _ => by go_simp⟩) g1 ?_
      simp only [Act.put, List.setIfInBounds_toArray, List.set_cons_succ, List.set_cons_zero]
      refine wpAnyH_callD (some 37) (i := 8) 52 #[.agg #[.int .u64 (k : Nat), .int .u64 (c : Nat)]] (R := fun v W => v = .int .i64 (n : Nat) ∧ V1.grownBy W none) (by kernel_rfl) rfl rfl rfl (exec_fn1 _ _ _ rfl rfl) hdSize_enters ((HSZ.out V1).mono fun e W1 h => ⟨_, h.1, rfl, h.2⟩) ?_
      rintro v V2 h2
      have g12 := grown_trans g1 h2.2
      obtain rfl : v = .int .i64 (n : Nat) := h2.1
      clear h2
      refine ⟨g12, ?_⟩
      simp only [Act.put, List.setIfInBounds_toArray, List.set_cons_succ, List.set_cons_zero]
      refine wpAnyH_takeD (some 40) (i := 11) (v := (.bool true)) rfl rfl (by kernel_rfl) (by kernel_rfl) (by kernel_rfl) (fun _ _ _ h => h) (Or.inl ⟨rfl, fun _ _ => by go_simp⟩) g12 ?_
      simp only [Act.put, List.setIfInBounds_toArray, List.set_cons_succ, List.set_cons_zero]
      refine wpAnyH_takeD (some 41) (i := 12) (v := (.bool true)) rfl rfl (by kernel_rfl) (by kernel_rfl) (by kernel_rfl) (fun _ _ _ h => h) (Or.inl ⟨rfl, fun _ _ => by go_simp⟩) g12 ?_
      simp only [Act.put, List.setIfInBounds_toArray, List.set_cons_succ, List.set_cons_zero]
      refine wpAnyH_takeD (some 42) (i := 13) (v := (.bool true)) rfl rfl (by kernel_rfl) (by kernel_rfl) (by kernel_rfl) (fun _ _ _ h => h) (Or.inl ⟨rfl, fun _ _ => rfl⟩) g12 ?_
      simp only [Act.put, List.setIfInBounds_toArray, List.set_cons_succ, List.set_cons_zero]
      refine wpAnyH_takeD (some 43) (i := 14) (v := (.agg #[.int .u64 (K : Nat), .int .u64 (C : Nat)])) rfl rfl (by kernel_rfl) (by kernel_rfl) (by kernel_rfl) (fun _ _ _ h => h) (Or.inl ⟨rfl, fun W hW => by have c0 := (HG.out.grown hW (by simp)).cell 0 (by decide); have c1 := (HG.out.grown hW (by simp)).cell 1 (by decide); rw [show two K C 0 = K from rfl] at c0; rw [show two K C 1 = C from rfl] at c1; go_simp⟩) g12 ?_
      simp only [Act.put, List.setIfInBounds_toArray, List.set_cons_succ, List.set_cons_zero]
      refine wpAnyH_takeD (some 44) (i := 15) (v := (.agg #[.int .u64 (K : Nat), .int .u64 (C : Nat)])) rfl rfl (by kernel_rfl) (by kernel_rfl) (by kernel_rfl) (fun _ _ _ h => h) (Or.inl ⟨rfl, fun W hW => by have c0 := (HR.out.grown hW (by simp)).cell 0 (by decide); have c1 := (HR.out.grown hW (by simp)).cell 1 (by decide); rw [show two K C 0 = K from rfl] at c0; rw [show two K C 1 = C from rfl] at c1; go_simp⟩) g12 ?_
      simp only [Act.put, List.setIfInBounds_toArray, List.set_cons_succ, List.set_cons_zero]
      refine wpAnyH_takeD (some 45) (i := 16) (v := (.bool true)) rfl rfl (by kernel_rfl) (by kernel_rfl) (by kernel_rfl) (fun _ _ _ h => h) (Or.inl ⟨rfl, fun _ _ => by go_simp⟩) g12 ?_
      simp only [Act.put, List.setIfInBounds_toArray, List.set_cons_succ, List.set_cons_zero]
      refine wpAnyH_takeD (some 46) (i := 17) (v := (.bool true)) rfl rfl (by kernel_rfl) (by kernel_rfl) (by kernel_rfl) (fun _ _ _ h => h) (Or.inl ⟨rfl, fun _ _ => by go_simp⟩) g12 ?_
      simp only [Act.put, List.setIfInBounds_toArray, List.set_cons_succ, List.set_cons_zero]
      refine wpAnyH_takeD (some 47) (i := 18) (v := (.bool true)) rfl rfl (by kernel_rfl) (by kernel_rfl) (by kernel_rfl) (fun _ _ _ h => h) (Or.inl ⟨rfl, fun _ _ => rfl⟩) g12 ?_
      simp only [Act.put, List.setIfInBounds_toArray, List.set_cons_succ, List.set_cons_zero]
      refine wpAnyH_takeD (some 48) (i := 19) (v := (.int .i64 ((0 : Nat) : Int))) rfl rfl (by kernel_rfl) (by kernel_rfl) (by kernel_rfl) (fun _ _ _ h => h) (Or.inl ⟨rfl, fun _ _ => rfl⟩) g12 ?_
      simp only [Act.put, List.setIfInBounds_toArray, List.set_cons_succ, List.set_cons_zero]
      refine wpAnyH_takeD (some 49) (i := 20) (v := (.int .i64 ((0 : Nat) : Int))) rfl rfl (by kernel_rfl) (by kernel_rfl) (by kernel_rfl) (fun _ _ _ h => h) (Or.inl ⟨rfl, fun _ _ => rfl⟩) g12 ?_
      simp only [Act.put, List.setIfInBounds_toArray, List.set_cons_succ, List.set_cons_zero]
      refine wpAnyH_takeD (some 50) (i := 21) (v := (.bool true)) rfl rfl (by kernel_rfl) (by kernel_rfl) (by kernel_rfl) (fun _ _ _ h => h) (Or.inl ⟨rfl, fun _ _ => by go_simp⟩) g12 ?_
      simp only [Act.put, List.setIfInBounds_toArray, List.set_cons_succ, List.set_cons_zero]
      refine wpAnyH_takeD (some 51) (i := 22) (v := (.bool true)) rfl rfl (by kernel_rfl) (by kernel_rfl) (by kernel_rfl) (fun _ _ _ h => h) (Or.inl ⟨rfl, fun _ _ => by go_simp⟩) g12 ?_
      simp only [Act.put, List.setIfInBounds_toArray, List.set_cons_succ, List.set_cons_zero]
      refine wpAnyH_takeD (some 52) (i := 23) (v := (.bool true)) rfl rfl (by kernel_rfl) (by kernel_rfl) (by kernel_rfl) (fun _ _ _ h => h) (Or.inl ⟨rfl, fun _ _ => rfl⟩) g12 ?_
      simp only [Act.put, List.setIfInBounds_toArray, List.set_cons_succ, List.set_cons_zero]
      refine wpAnyH_takeD (some 53) (i := 24) (v := (.int .i64 9)) rfl rfl (by kernel_rfl) (by kernel_rfl) (by kernel_rfl) (fun _ _ _ h => h) (Or.inl ⟨rfl, fun _ _ => rfl⟩) g12 ?_
      simp only [Act.put, List.setIfInBounds_toArray, List.set_cons_succ, List.set_cons_zero]
      refine wpAnyH_takeD (some 54) (i := 25) (v := (.bool false)) rfl rfl (by kernel_rfl) (by kernel_rfl) (by kernel_rfl) (fun _ _ _ h => h) (Or.inl ⟨rfl, fun _ _ => by go_simp⟩) g12 ?_
      simp only [Act.put, List.setIfInBounds_toArray, List.set_cons_succ, List.set_cons_zero]
      refine wpAnyH_takeD (some 55) (i := 26) (v := (.int .i64 ((0 : Nat) : Int))) rfl rfl (by kernel_rfl) (by kernel_rfl) (by kernel_rfl) (fun _ _ _ h => h) (Or.inl ⟨rfl, fun _ _ => rfl⟩) g12 ?_
      simp only [Act.put, List.setIfInBounds_toArray, List.set_cons_succ, List.set_cons_zero]
      refine wpAnyH_takeD (some 56) (i := 27) (v := (.bool false)) rfl rfl (by kernel_rfl) (by kernel_rfl) (by kernel_rfl) (fun _ _ _ h => h) (Or.inl ⟨rfl, fun _ _ => by go_simp⟩) g12 ?_
      simp only [Act.put, List.setIfInBounds_toArray, List.set_cons_succ, List.set_cons_zero]
      refine wpAnyH_takeD (some 57) (i := 28) (v := (.bool true)) rfl rfl (by kernel_rfl) (by kernel_rfl) (by kernel_rfl) (fun _ _ _ h => h) (Or.inl ⟨rfl, fun _ _ => by go_simp⟩) g12 ?_
      simp only [Act.put, List.setIfInBounds_toArray, List.set_cons_succ, List.set_cons_zero]
      refine wpAnyH_takeD (some 58) (i := 29) (v := (.bool true)) rfl rfl (by kernel_rfl) (by kernel_rfl) (by kernel_rfl) (fun _ _ _ h => h) (Or.inl ⟨rfl, fun _ _ => by go_simp⟩) g12 ?_
      simp only [Act.put, List.setIfInBounds_toArray, List.set_cons_succ, List.set_cons_zero]
      refine wpAnyH_takeD (some 59) (i := 30) (v := (.bool true)) rfl rfl (by kernel_rfl) (by kernel_rfl) (by kernel_rfl) (fun _ _ _ h => h) (Or.inl ⟨rfl, fun _ _ => rfl⟩) g12 ?_
      simp only [Act.put, List.setIfInBounds_toArray, List.set_cons_succ, List.set_cons_zero]
      refine wpAnyH_takeD (some 60) (i := 31) (v := (.int .i64 9)) rfl rfl (by kernel_rfl) (by kernel_rfl) (by kernel_rfl) (fun _ _ _ h => h) (Or.inl ⟨rfl, fun _ _ => rfl⟩) g12 ?_
      simp only [Act.put, List.setIfInBounds_toArray, List.set_cons_succ, List.set_cons_zero]
      refine wpAnyH_takeD (some 61) (i := 32) (v := (.bool false)) rfl rfl (by kernel_rfl) (by kernel_rfl) (by kernel_rfl) (fun _ _ _ h => h) (Or.inl ⟨rfl, fun _ _ => by go_simp⟩) g12 ?_
      simp only [Act.put, List.setIfInBounds_toArray, List.set_cons_succ, List.set_cons_zero]
      refine wpAnyH_takeD (some 62) (i := 33) (v := (.bool false)) rfl rfl (by kernel_rfl) (by kernel_rfl) (by kernel_rfl) (fun _ _ _ h => h) (Or.inl ⟨rfl, fun _ _ => rfl⟩) g12 ?_
      simp only [Act.put, List.setIfInBounds_toArray, List.set_cons_succ, List.set_cons_zero]
      refine wpAnyH_takeD (some 63) (i := 34) (v := (.int .i64 9)) rfl rfl (by kernel_rfl) (by kernel_rfl) (by kernel_rfl) (fun _ _ _ h => h) (Or.inl ⟨rfl, fun _ _ => rfl⟩) g12 ?_
      simp only [Act.put, List.setIfInBounds_toArray, List.set_cons_succ, List.set_cons_zero]
      refine wpAnyH_takeD (some 64) (i := 35) (v := (.bool true)) rfl rfl (by kernel_rfl) (by kernel_rfl) (by kernel_rfl) (fun _ _ _ h => h) (Or.inl ⟨rfl, fun _ _ => by go_simp⟩) g12 ?_
      simp only [Act.put, List.setIfInBounds_toArray, List.set_cons_succ, List.set_cons_zero]
      refine wpAnyH_takeD (some 65) (i := 36) (v := (.bool true)) rfl rfl (by kernel_rfl) (by kernel_rfl) (by kernel_rfl) (fun _ _ _ h => h) (Or.inl ⟨rfl, fun _ _ => by go_simp⟩) g12 ?_
      simp only [Act.put, List.setIfInBounds_toArray, List.set_cons_succ, List.set_cons_zero]
      refine wpAnyH_takeD (some 66) (i := 37) (v := (.bool true)) rfl rfl (by kernel_rfl) (by kernel_rfl) (by kernel_rfl) (fun _ _ _ h => h) (Or.inl ⟨rfl, fun _ _ => by go_simp⟩) g12 ?_
      simp only [Act.put, List.setIfInBounds_toArray, List.set_cons_succ, List.set_cons_zero]
      refine wpAnyH_takeD (some 4) (i := 38) (v := (.bool true)) rfl rfl (by kernel_rfl) (by kernel_rfl) (by kernel_rfl) (fun _ _ _ h => h) (Or.inl ⟨rfl, fun _ _ => rfl⟩) g12 ?_
      simp only [Act.put, List.setIfInBounds_toArray, List.set_cons_succ, List.set_cons_zero]
      refine wpAnyH_done (by kernel_rfl) ?_ _
      have HGF := Lib.hid (grown_trans G8.out g12)
      clear g12 hS0
      go_wp2_with fail
      go_ret
      exact ⟨rfl, HGF.out⟩
end Go.Proofs.Ytmbefbmpjkbnmaa
