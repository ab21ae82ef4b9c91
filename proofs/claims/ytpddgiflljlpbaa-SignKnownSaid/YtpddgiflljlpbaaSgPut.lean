/-
  sign: the closures that put what a kind has.
-/
import Derived.Test.YtpddgiflljlpbaaSgMayF
import Derived.Test.YtpddgiflljlpbaaOutSized
import Derived.Test.YtpddgiflljlpbaaOutU32
import Derived.Shelf.Abstract
namespace Go.Proofs.Ytpddgiflljlpbaa
open Go.RowKit

set_option maxRecDepth 100000
set_option maxHeartbeats 4000000

def three (a b c : Nat) : Nat → Nat := fun i => if i = 0 then a else if i = 1 then b else c
theorem rd_three (w : World) (u v t : Nat) (D : Nat) (hD : w.heap.size < D) : Rd (w.alloc (.cells #[.int .u8 u, .int .u8 v, .int .u8 t] 5)) D (some ⟨w.heap.size, 0, none⟩) 3 (three u v t) where
  ex := fun _ => ⟨w.heap.size, 0, rfl, hD, fun i hi => by
    obtain rfl | rfl | rfl : i = 0 ∨ i = 1 ∨ i = 2 := by omega
    · rw [cell_of_row _ _ _ _ _ _ (heap_alloc_new w _)]; rfl
    · rw [cell_of_row _ _ _ _ _ _ (heap_alloc_new w _)]; rfl
    · rw [cell_of_row _ _ _ _ _ _ (heap_alloc_new w _)]; rfl⟩
theorem load_u8 {w : World} {B o v : Nat} (h : w.cell? ⟨B, o, none⟩ = some (.int .u8 v)) : (Instr.loadAt 5 (.pointer (some ⟨B, o, none⟩))).run Try.prog w = .ok (.int .u8 v) w := by go_simp
theorem outU8_enters : ∀ args w, (callFunc 17 args).run Try.prog w = .ok (.enter 17 args) w := enters_of Try.func17 (by kernel_rfl) rfl
theorem SAt.rdKey {w : World} {B : Nat} {x : SV} (h : SAt w B x) (D : Nat) (hD : B < D) : Rd w D (some ⟨B, 20, none⟩) 32 x.key := ⟨fun _ => ⟨B, 20, rfl, hD, fun i hi => h.key i hi⟩⟩
theorem SAt.rdId {w : World} {B : Nat} {x : SV} (h : SAt w B x) (D : Nat) (hD : B < D) : Rd w D (some ⟨B, 1, none⟩) 16 x.id := ⟨fun _ => ⟨B, 1, rfl, hD, fun i hi => h.id i hi⟩⟩
/-- Bytes handed in by one slice. -/
theorem cell_new (w : World) (v : Value) (T : TypeId) : (w.alloc (.cells #[v] T)).cell? ⟨w.heap.size, 0, none⟩ = some v := cell_of_row _ _ _ _ _ _ (heap_alloc_new w _)
theorem putOffer_any (b B : Nat) (x : SV) (p : Option Addr) (s : OSt) (w0 w : World) (hb : BoxAt w0 b B) (hx : SAt w0 B x) (ho : OAt w0 w p s) (hm : s.len + 35 ≤ 2 ^ 46) : Calls Try.prog 41 #[.pointer p, .pointer (some ⟨b, 0, none⟩)] w (OSays w0 p ((s.put 3 (three x.ac x.dv x.ce)).put 32 x.key)) := by
  have HM := Lib.hid (OSt.len_put s 3 (three x.ac x.dv x.ce))
  have HLM := Lib.hid hm
  go_enter Try.func41, Try.ntmps41
  go_upto_region 0 with fail
  refine wp_region_held (S := fun W => BoxAt W b B ∧ SAt W B x) (by kernel_rfl) ?_
  change wpAnyH _ _ _ _ _ 17 #[false, false, false, false, false, false, false, false, false, false, false, false, false, false, false, false, false] _ (World.drew _)
  have gq : w0.grownBy (World.drew w) none := grown_drew ho.gr
  have ho2 : OAt w0 (World.drew w) p s := ho.grown (grown_drew (grown_refl w none))
  clear ho
  generalize World.drew w = w1 at *
  have hS : BoxAt w1 b B ∧ SAt w1 B x := ⟨hb.grown gq (by simp), hx.grown gq (by simp)⟩
  refine wpAnyH_takeD (some 3) (i := 0) (v := (.pointer p)) rfl rfl (by kernel_rfl) (by kernel_rfl) (by kernel_rfl) (fun _ _ _ h => h) (Or.inl ⟨rfl, fun _ _ => rfl⟩) hS ?_
  simp only [Act.put, List.setIfInBounds_toArray, List.set_cons_succ, List.set_cons_zero]
  refine wpAnyH_takeD (some 4) (i := 1) (v := (.pointer (some ⟨B, 0, none⟩))) rfl rfl (by kernel_rfl) (by kernel_rfl) (by kernel_rfl) (fun _ _ _ h => h) (Or.inl ⟨rfl, fun W hW => exec_load (.tmp 1) (.pointer (some ⟨b, 0, none⟩)) (.pointer (some ⟨B, 0, none⟩)) rfl rfl hW.1.load⟩) hS ?_
  simp only [Act.put, List.setIfInBounds_toArray, List.set_cons_succ, List.set_cons_zero]
  refine wpAnyH_takeD (some 5) (i := 2) (v := (.pointer (some ⟨B, 0, none⟩))) rfl rfl (by kernel_rfl) (by kernel_rfl) (by kernel_rfl) (fun _ _ _ h => h) (Or.inl ⟨rfl, fun _ _ => by go_simp⟩) hS ?_
  simp only [Act.put, List.setIfInBounds_toArray, List.set_cons_succ, List.set_cons_zero]
  refine wpAnyH_takeD (some 6) (i := 3) (v := (.pointer (some ⟨B, 17, none⟩))) rfl rfl (by kernel_rfl) (by kernel_rfl) (by kernel_rfl) (fun _ _ _ h => h) (Or.inl ⟨rfl, fun _ _ => by go_simp⟩) hS ?_
  simp only [Act.put, List.setIfInBounds_toArray, List.set_cons_succ, List.set_cons_zero]
  refine wpAnyH_takeD (some 7) (i := 4) (v := (.pointer (some ⟨B, 17, none⟩))) rfl rfl (by kernel_rfl) (by kernel_rfl) (by kernel_rfl) (fun _ _ _ h => h) (Or.inl ⟨rfl, fun _ _ => by go_simp⟩) hS ?_
  simp only [Act.put, List.setIfInBounds_toArray, List.set_cons_succ, List.set_cons_zero]
  refine wpAnyH_takeD (some 8) (i := 5) (v := (.int .u8 x.ac)) rfl rfl (by kernel_rfl) (by kernel_rfl) (by kernel_rfl) (fun _ _ _ h => h) (Or.inl ⟨rfl, fun W hW => exec_load (.tmp 7) (.pointer (some ⟨B, 17, none⟩)) _ rfl rfl (load_u8 hW.2.cells.ac)⟩) hS ?_
  simp only [Act.put, List.setIfInBounds_toArray, List.set_cons_succ, List.set_cons_zero]
  refine wpAnyH_takeD (some 9) (i := 6) (v := (.pointer (some ⟨B, 0, none⟩))) rfl rfl (by kernel_rfl) (by kernel_rfl) (by kernel_rfl) (fun _ _ _ h => h) (Or.inl ⟨rfl, fun W hW => exec_load (.tmp 1) (.pointer (some ⟨b, 0, none⟩)) (.pointer (some ⟨B, 0, none⟩)) rfl rfl hW.1.load⟩) hS ?_
  simp only [Act.put, List.setIfInBounds_toArray, List.set_cons_succ, List.set_cons_zero]
  refine wpAnyH_takeD (some 10) (i := 7) (v := (.pointer (some ⟨B, 0, none⟩))) rfl rfl (by kernel_rfl) (by kernel_rfl) (by kernel_rfl) (fun _ _ _ h => h) (Or.inl ⟨rfl, fun _ _ => by go_simp⟩) hS ?_
  simp only [Act.put, List.setIfInBounds_toArray, List.set_cons_succ, List.set_cons_zero]
  refine wpAnyH_takeD (some 11) (i := 8) (v := (.pointer (some ⟨B, 17, none⟩))) rfl rfl (by kernel_rfl) (by kernel_rfl) (by kernel_rfl) (fun _ _ _ h => h) (Or.inl ⟨rfl, fun _ _ => by go_simp⟩) hS ?_
  simp only [Act.put, List.setIfInBounds_toArray, List.set_cons_succ, List.set_cons_zero]
  refine wpAnyH_takeD (some 12) (i := 9) (v := (.pointer (some ⟨B, 18, none⟩))) rfl rfl (by kernel_rfl) (by kernel_rfl) (by kernel_rfl) (fun _ _ _ h => h) (Or.inl ⟨rfl, fun _ _ => by go_simp⟩) hS ?_
  simp only [Act.put, List.setIfInBounds_toArray, List.set_cons_succ, List.set_cons_zero]
  refine wpAnyH_takeD (some 13) (i := 10) (v := (.int .u8 x.dv)) rfl rfl (by kernel_rfl) (by kernel_rfl) (by kernel_rfl) (fun _ _ _ h => h) (Or.inl ⟨rfl, fun W hW => exec_load (.tmp 12) (.pointer (some ⟨B, 18, none⟩)) _ rfl rfl (load_u8 hW.2.cells.dv)⟩) hS ?_
  simp only [Act.put, List.setIfInBounds_toArray, List.set_cons_succ, List.set_cons_zero]
  refine wpAnyH_takeD (some 14) (i := 11) (v := (.pointer (some ⟨B, 0, none⟩))) rfl rfl (by kernel_rfl) (by kernel_rfl) (by kernel_rfl) (fun _ _ _ h => h) (Or.inl ⟨rfl, fun W hW => exec_load (.tmp 1) (.pointer (some ⟨b, 0, none⟩)) (.pointer (some ⟨B, 0, none⟩)) rfl rfl hW.1.load⟩) hS ?_
  simp only [Act.put, List.setIfInBounds_toArray, List.set_cons_succ, List.set_cons_zero]
  refine wpAnyH_takeD (some 15) (i := 12) (v := (.pointer (some ⟨B, 0, none⟩))) rfl rfl (by kernel_rfl) (by kernel_rfl) (by kernel_rfl) (fun _ _ _ h => h) (Or.inl ⟨rfl, fun _ _ => by go_simp⟩) hS ?_
  simp only [Act.put, List.setIfInBounds_toArray, List.set_cons_succ, List.set_cons_zero]
  refine wpAnyH_takeD (some 16) (i := 13) (v := (.pointer (some ⟨B, 19, none⟩))) rfl rfl (by kernel_rfl) (by kernel_rfl) (by kernel_rfl) (fun _ _ _ h => h) (Or.inl ⟨rfl, fun _ _ => by go_simp⟩) hS ?_
  simp only [Act.put, List.setIfInBounds_toArray, List.set_cons_succ, List.set_cons_zero]
  refine wpAnyH_takeD (some 17) (i := 14) (v := (.int .u8 x.ce)) rfl rfl (by kernel_rfl) (by kernel_rfl) (by kernel_rfl) (fun _ _ _ h => h) (Or.inl ⟨rfl, fun W hW => exec_load (.tmp 16) (.pointer (some ⟨B, 19, none⟩)) _ rfl rfl (load_u8 hW.2.cells.ce)⟩) hS ?_
  simp only [Act.put, List.setIfInBounds_toArray, List.set_cons_succ, List.set_cons_zero]
  have ga := World.grownBy_alloc w1 (.cells #[.int .u8 x.ac, .int .u8 x.dv, .int .u8 x.ce] 5) none
  have hS2 : BoxAt (w1.alloc (.cells #[.int .u8 x.ac, .int .u8 x.dv, .int .u8 x.ce] 5)) b B ∧ SAt (w1.alloc (.cells #[.int .u8 x.ac, .int .u8 x.dv, .int .u8 x.ce] 5)) B x := ⟨hS.1.grown ga (by simp), hS.2.grown ga (by simp)⟩
  have hU := outU8_any _ 3 3 _ _ (ho2.grown ga) (rd_three w1 x.ac x.dv x.ce (w1.heap.size + 1) (by omega)) (by omega)
  refine wpAnyH_yieldD (some 18) (i := 15) (v := (.slice (some ⟨w1.heap.size, 0, none⟩) 3 3)) (by kernel_rfl) rfl rfl rfl (by go_simp) hS2 ?_
  simp only [Act.put, List.setIfInBounds_toArray, List.set_cons_succ, List.set_cons_zero]
  refine wpAnyH_callD (some 19) (i := 16) 17 #[.pointer p, .slice (some ⟨w1.heap.size, 0, none⟩) 3 3] (R := fun v W => v = .tuple #[] ∧ OAt w0 W p (s.put 3 (three x.ac x.dv x.ce))) (by kernel_rfl) rfl rfl rfl (exec_fn2 _ _ _ _ _ rfl rfl rfl) outU8_enters (hU.mono fun e W h => ⟨_, h.ex, rfl, h.st⟩) ?_
  rintro v w2 ⟨rfl, ho3⟩
  have hb2 := hb.grown ho3.gr (by simp)
  have hx2 := hx.grown ho3.gr (by simp)
  refine ⟨⟨hb2, hx2⟩, ?_⟩
  simp only [Act.put, List.setIfInBounds_toArray, List.set_cons_succ, List.set_cons_zero]
  refine wpAnyH_done (by kernel_rfl) ?_ _
  clear hU ga hS2 hS gq ho2 hm
  have c0 := hb2.cell
  have hcn := cell_new w2 (.slice (some ⟨B, 20, none⟩) 32 32) 22
  have g4 := World.grownBy_alloc w2 (.cells #[.slice (some ⟨B, 20, none⟩) 32 32] 22) none
  have HF := Lib.hid (outFixed_any (B + 1) 32 32 (some ⟨B, 20, none⟩) x.key w2.heap.size 0 1 (ho3.grown g4) hcn ((hx2.grown g4 (by simp)).rdKey (B + 1) (by omega)) (by have := HM.out; have := HLM.out; omega))
  clear hcn g4 hx2 hb2 ho3 hx hb
  go_wp2_with fail
  go_at_call 18
  refine HF.out.mono ?_
  rintro e w' ⟨rfl, hE⟩
  have HE := Lib.hid hE
  clear hE HF
  go_wp2_with fail
  go_end0
  exact ⟨rfl, HE.out⟩
theorem putAnswer_any (b B : Nat) (x : SV) (p : Option Addr) (s : OSt) (w0 w : World) (hb : BoxAt w0 b B) (hx : SAt w0 B x) (ho : OAt w0 w p s) (hm : s.len + 32 ≤ 2 ^ 46) : Calls Try.prog 45 #[.pointer p, .pointer (some ⟨b, 0, none⟩)] w (OSays w0 p (s.put 32 x.key)) := by
  have hb2 := hb.grown ho.gr (by simp)
  have hx2 := hx.grown ho.gr (by simp)
  have c0 := hb2.cell
  have hcn := cell_new w (.slice (some ⟨B, 20, none⟩) 32 32) 22
  have g4 := World.grownBy_alloc w (.cells #[.slice (some ⟨B, 20, none⟩) 32 32] 22) none
  have HF := Lib.hid (outFixed_any (B + 1) 32 32 (some ⟨B, 20, none⟩) x.key w.heap.size 0 1 (ho.grown g4) hcn ((hx2.grown g4 (by simp)).rdKey (B + 1) (by omega)) (by omega))
  clear hcn g4
  clear hb2 hx2
  clear hb hx ho hm
  go_enter Try.func45, Try.ntmps45
  go_wp2_with fail
  go_at_call 18
  refine HF.out.mono ?_
  rintro e w2 ⟨rfl, hE⟩
  clear HF
  have HE := Lib.hid hE
  clear hE
  go_wp2_with fail
  go_end0
  exact ⟨rfl, HE.out⟩
theorem putHang_any (b B : Nat) (x : SV) (p : Option Addr) (s : OSt) (w0 w : World) (hb : BoxAt w0 b B) (hx : SAt w0 B x) (ho : OAt w0 w p s) (hm : s.len + 1 ≤ 2 ^ 46) : Calls Try.prog 57 #[.pointer p, .pointer (some ⟨b, 0, none⟩)] w (OSays w0 p (s.put 1 (fun _ => x.rs))) := by
  have hb2 := hb.grown ho.gr (by simp)
  have hx2 := hx.grown ho.gr (by simp)
  have c0 := hb2.cell
  have c1 := hx2.cells.rs
  have g4 := World.grownBy_alloc w (.cells #[.int .u8 x.rs] 5) none
  have HF := Lib.hid (outU8_any _ 1 1 _ _ (ho.grown g4) (rd_one w x.rs (w.heap.size + 1) (by omega)) (by omega))
  clear g4
  clear hb2 hx2
  clear hb hx ho hm
  go_enter Try.func57, Try.ntmps57
  go_wp2_with fail
  go_at_call 17
  refine HF.out.mono ?_
  rintro e w2 ⟨rfl, hE⟩
  clear HF
  have HE := Lib.hid hE
  clear hE
  go_wp2_with fail
  go_end0
  exact ⟨rfl, HE.out⟩
theorem putCand_any (b B D : Nat) (x : SV) (p : Option Addr) (s : OSt) (w0 w : World) (hb : BoxAt w0 b B) (hx : SAt w0 B x) (hn : x.n < 4294967296) (hR : Rd w0 D x.ad x.nd x.fd) (ho : OAt w0 w p s) (hm : s.len + 6 + x.nd ≤ 2 ^ 46) : Calls Try.prog 49 #[.pointer p, .pointer (some ⟨b, 0, none⟩)] w (OSays w0 p (((s.put 4 (nbF x.n 4)).count 1024 x.nd).put x.nd x.fd)) := by
  have hb2 := hb.grown ho.gr (by simp)
  have hx2 := hx.grown ho.gr (by simp)
  have c0 := hb2.cell
  have c1 := hx2.cells.n
  have hcn := cell_new w (.int .u32 x.n) 32
  have g4 := World.grownBy_alloc w (.cells #[.int .u32 x.n] 32) none
  have HF := Lib.hid (outU32_any x.n w.heap.size 0 1 (ho.grown g4) hn hcn (by omega))
  have HL := Lib.hid (OSt.len_put s 4 (nbF x.n 4))
  have HB := Lib.hid hb
  have HX := Lib.hid hx
  have HR := Lib.hid hR
  have HM := Lib.hid hm
  clear hb2 hx2 g4 hcn hb hx ho hm hR hn
  go_enter Try.func49, Try.ntmps49
  go_wp2_with fail
  go_at_call 50
  refine HF.out.mono ?_
  rintro e w2 ⟨rfl, hE⟩
  have c2 := (HB.out.grown hE.gr (by simp)).cell
  have c3 := (HX.out.grown hE.gr (by simp)).cells.d
  have HS := Lib.hid (outSized_any 1024 D x.nd x.cd x.ad x.fd hE HR.out (by decide) (by decide) (by have := HL.out; have := HM.out; omega))
  clear hE HF c0 c1
  go_wp2_with fail
  go_at_call 51
  refine HS.out.mono ?_
  rintro e w3 ⟨rfl, hE⟩
  have HE := Lib.hid hE
  clear hE HS
  go_wp2_with fail
  go_end0
  exact ⟨rfl, HE.out⟩
theorem putNothing_any (p : Option Addr) (w : World) : Calls Try.prog 61 #[.pointer p] w fun e w' => e = .returned (.tuple #[]) ∧ w = w' := by
  go_enter Try.func61, Try.ntmps61
  go_wp2_with fail
  go_end0
  exact ⟨rfl, rfl⟩
end Go.Proofs.Ytpddgiflljlpbaa
