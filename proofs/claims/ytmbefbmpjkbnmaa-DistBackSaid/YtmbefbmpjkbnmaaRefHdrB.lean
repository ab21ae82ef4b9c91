/-
  The reference's HeaderBytes.
-/
import Derived.Test.YtmbefbmpjkbnmaaRefHdr
import Derived.Test.YtmbefbmpjkbnmaaExecQ
namespace Go.Proofs.Ytmbefbmpjkbnmaa
open Go.RowKit

set_option maxRecDepth 100000
set_option maxHeartbeats 4000000

structure HV.Ok (x : HV) : Prop where
  dh : ∀ i, x.dh i < 256
  prev : x.prev < 4294967296
  n : x.n < 4294967296
/-- Its bytes. -/
def HV.bytes (x : HV) : Nat → Nat := cat 36 (cat 32 x.dh (nbF x.prev 4)) (nbF x.n 4)
structure GaveB (w : World) (n : Nat) (f : Nat → Nat) (e : Ending) (w' : World) : Prop where
  ex : ∃ a c, e = .returned (.slice a n c) ∧ OwnN w' w.heap.size (.slice a n c) n f
  gr : w.grownBy w' none
theorem refHdrBytes_any (x : HV) (w : World) (hx : x.Ok) : Calls Try.prog 15 #[.agg (rowOf 34 x.v)] w (GaveB w 40 x.bytes) := by
  have hX := RowAt.new w 36 34 x.v _ rfl
  have hg := World.grownBy_alloc w (.cells (rowOf 34 x.v) 36) none
  have hz := World.size_alloc w (.cells (rowOf 34 x.v) 36)
  have HB := Lib.hid (show x.prev < 18446744073709551616 ∧ x.n < 18446744073709551616 from ⟨by have := hx.prev; omega, by have := hx.n; omega⟩)
  have hw1 : IntKind.u64.wrap (x.prev : Int) = (x.prev : Int) := by have := hx.prev; rw [IntKind.wrap_u64]; try omega
  have hw2 : IntKind.u64.wrap (x.n : Int) = (x.n : Int) := by have := hx.n; rw [IntKind.wrap_u64]; try omega
  clear hx
  go_enter Try.func15, Try.ntmps15
  go_upto_region 1 with fail
  obtain ⟨R, hRR⟩ : ∃ R, R = w.heap.size := ⟨_, rfl⟩
  generalize w.alloc (.cells (rowOf 34 x.v) 36) = w1 at *
  rw [← hRR] at hX hz ⊢
  have HG := Lib.hid hg
  have HZ := Lib.hid hz
  have HRR := Lib.hid hRR
  have HXX := Lib.hid hX
  clear hg hz hRR hX
  refine wp_region_held (S := fun W => w1.grownBy W none) (by kernel_rfl) ?_
  change wpAnyH _ _ _ _ _ 9 #[false, false, false, false, false, false, false, false, false] _ (World.drew _)
  have gq := grown_drew (grown_refl w1 none)
  generalize World.drew w1 = wq at *
  refine wpAnyH_takeD (some 4) (i := 0) (v := (.pointer (some ⟨R, 0, none⟩))) rfl rfl (by kernel_rfl) (by kernel_rfl) (by kernel_rfl) (fun _ _ _ h => h) (Or.inl ⟨rfl, fun _ _ => by go_simp⟩) gq ?_
  simp only [Act.put, List.setIfInBounds_toArray, List.set_cons_succ, List.set_cons_zero]
  refine wpAnyH_takeD (some 5) (i := 1) (v := (.agg (cellsOf .u8 32 x.dh))) rfl rfl (by kernel_rfl) (by kernel_rfl) (by kernel_rfl) (fun _ _ _ h => h) (Or.inl ⟨rfl, fun W hW => exec_loadQ (.tmp 4) _ _ rfl rfl ((HXX.out.grown hW (by simp)).load (P := Try.prog) 0 28 32 (fun j => .int .u8 (x.dh j)) (by decide) (fun j hj => by rw [Nat.zero_add]; exact if_pos hj) (by kernel_rfl) (by kernel_rfl))⟩) gq ?_
  simp only [Act.put, List.setIfInBounds_toArray, List.set_cons_succ, List.set_cons_zero]
  refine wpAnyH_takeD (some 7) (i := 3) (v := (.pointer (some ⟨R, 32, none⟩))) rfl rfl (by kernel_rfl) (by kernel_rfl) (by kernel_rfl) (fun _ _ _ h => h) (Or.inl ⟨rfl, fun _ _ => by go_simp⟩) gq ?_
  simp only [Act.put, List.setIfInBounds_toArray, List.set_cons_succ, List.set_cons_zero]
  refine wpAnyH_takeD (some 8) (i := 4) (v := (.int .u32 x.prev)) rfl rfl (by kernel_rfl) (by kernel_rfl) (by kernel_rfl) (fun _ _ _ h => h) (Or.inl ⟨rfl, fun W hW => exec_loadQ (.tmp 7) _ _ rfl rfl (load_u32Q ((HXX.out.grown hW (by simp)).cell 32 (by decide)))⟩) gq ?_
  simp only [Act.put, List.setIfInBounds_toArray, List.set_cons_succ, List.set_cons_zero]
  refine wpAnyH_takeD (some 9) (i := 5) (v := (.int .u64 x.prev)) rfl rfl (by kernel_rfl) (by kernel_rfl) (by kernel_rfl) (fun _ _ _ h => h) (Or.inl ⟨rfl, fun W hW => by go_simp⟩) gq ?_
  simp only [Act.put, List.setIfInBounds_toArray, List.set_cons_succ, List.set_cons_zero]
  refine wpAnyH_callD (some 6) (i := 2) 57 #[.agg (cellsOf .u8 32 x.dh)] (R := fun v W => OwnN W w1.heap.size v 32 x.dh ∧ wq.grownBy W none) (by kernel_rfl) rfl rfl rfl (exec_fn1 _ _ _ rfl rfl) keyQ_enters ((sgKey_any x.dh wq).mono fun e W' h => by
    obtain ⟨v, rfl, hO, hg⟩ := h.ex
    exact ⟨v, rfl, hO.base gq.size, hg⟩) ?_
  rintro v w4 ⟨hO4, hg4⟩
  have hgA := grown_trans gq hg4
  refine ⟨hgA, ?_⟩
  simp only [Act.put, List.setIfInBounds_toArray, List.set_cons_succ, List.set_cons_zero]
  obtain ⟨a4, c4, rfl, _, _⟩ := hO4.rd
  refine wpAnyH_callD (some 10) (i := 6) 55 #[.int .u64 x.prev, .int .i64 (4 : Nat)] (R := fun v W => ∃ b, v = .slice (some ⟨b, 0, none⟩) 4 4 ∧ Rd W W.heap.size (some ⟨b, 0, none⟩) 4 (nbF x.prev 4) ∧ w4.grownBy W none) (by kernel_rfl) rfl rfl rfl (exec_fn2 _ _ _ _ _ rfl rfl rfl) numberQ_enters ((sgNumber_any x.prev 4 (by have := HB.out; omega) (by decide) (by decide) w4).mono fun e W' h => by
    obtain ⟨b, rfl, _, hF⟩ := h.ex
    exact ⟨_, rfl, b, rfl, (hF.own (by decide)).rd, h.gr⟩) ?_
  rintro v w5 ⟨b5, rfl, hR5, hg5⟩
  have hgB := grown_trans hgA hg5
  refine ⟨hgB, ?_⟩
  simp only [Act.put, List.setIfInBounds_toArray, List.set_cons_succ, List.set_cons_zero]
  obtain ⟨a6, c6, w6, hap, hO6, hg6, _⟩ := app_N1 4 39 hgB (hO4.grown hg5) hR5 (by omega)
  refine wpAnyH_yieldD (some 11) (i := 7) (v := .slice a6 36 c6) (by kernel_rfl) rfl rfl rfl (exec_appendQ (.tmp 6) (.tmp 10) _ _ _ rfl rfl rfl rfl hap) hg6 ?_
  simp only [Act.put, List.setIfInBounds_toArray, List.set_cons_succ, List.set_cons_zero]
  refine wpAnyH_yieldD (some 3) (i := 8) (v := .slice a6 36 c6) (by kernel_rfl) rfl rfl rfl rfl hg6 ?_
  simp only [Act.put, List.setIfInBounds_toArray, List.set_cons_succ, List.set_cons_zero]
  refine wpAnyH_done (by kernel_rfl) ?_ _
  clear hap hO4 hg4 hg5 hgA hgB hR5 gq
  have HO6 := Lib.hid hO6
  have HG6 := Lib.hid hg6
  have hX6 := HXX.out.grown hg6 (by simp)
  have c33 : w6.cell? ⟨R, 33, none⟩ = some (.int .u32 x.n) := hX6.cell 33 (by decide)
  have HN := Lib.hid (sgNumber_any x.n 4 (by have := HB.out; omega) (by decide) (by decide) w6)
  clear hO6 hg6 hX6
  go_wp2_with fail
  go_at_call 55
  refine HN.out.mono ?_
  rintro e w7 ⟨⟨b, rfl, _, hF⟩, g7⟩
  obtain ⟨a8, c8, w8, hap, hO8, hg8, _⟩ := app_N1 4 39 (grown_trans HG6.out g7) (HO6.out.grown g7) (hF.own (by decide)).rd (by omega)
  have HAP := Lib.hid hap
  have HG8 := Lib.hid hg8
  have HO8 := Lib.hid hO8
  clear hap hg8 hO8 hF g7 HN c33
  go_wp2_with (at_builtin; refine wpList_append_run rfl (.tmp 12) (.tmp 16) 39 39 rfl _ _ _ _ rfl rfl HAP.out ?_)
  go_ret
  exact ⟨⟨a8, c8, rfl, HO8.out.base (by have := HRR.out; have := HZ.out; omega)⟩, grown_trans HG.out HG8.out⟩
end Go.Proofs.Ytmbefbmpjkbnmaa
