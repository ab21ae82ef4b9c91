/-
  The reference's number and of.
-/
import Derived.Test.YtpddgiflljlpbaaInNum
import Derived.Test.YtpddgiflljlpbaaInCount
import Derived.Test.YtpddgiflljlpbaaInLeaf
import Derived.Test.YtpddgiflljlpbaaSgPutF
import Derived.Test.YtpddgiflljlpbaaSgMayF
import Derived.Test.YtpddgiflljlpbaaEqArr
import Derived.Great.BuildSlice
import Derived.Test.YtpddgiflljlpbaaGave
namespace Go.Proofs.Ytpddgiflljlpbaa
open Go.RowKit

set_option maxRecDepth 100000
set_option maxHeartbeats 4000000

/-- Bytes that are handed back. -/
structure Gots (w : World) (p : Option Addr) (L : Nat) (F : Nat → Nat) (s' : ISt) (N : Nat) (f : Nat → Nat) (e : Ending) (w' : World) : Prop where
  ex : ∃ a c, e = .returned (.slice a N c) ∧ OwnN w' w.heap.size (.slice a N c) N f
  says : ISays w p L F s' w'
theorem inFixed_any {w : World} {p : Option Addr} {L : Nat} {F : Nat → Nat} {s : ISt} (n : Int) (h : IAt w p L F s) (n0 : -9223372036854775808 ≤ n) (n1 : n < 9223372036854775808) (hL : L ≤ 2 ^ 46) : Calls Try.prog 22 #[.pointer p, .int .i64 n] w (Gots w p L F (s.take L n) (s.got L n) (fun i => F (s.off + i))) := by
  have HT := Lib.hid (inTake_any n h n0 n1)
  have HG := Lib.hid (ISt.got_leL L s n)
  have HL := Lib.hid hL
  clear h n0 n1 hL
  obtain ⟨k, hk⟩ : ∃ k, k = s.got L n := ⟨_, rfl⟩
  rw [← hk] at HG ⊢
  go_enter Try.func22, Try.ntmps22
  go_wp2_with fail
  go_at_call 39
  refine HT.out.mono ?_
  rintro e w1 ⟨⟨a, c, rfl, hc, hR⟩, hE⟩
  rw [← hk] at hR hc ⊢
  obtain ⟨a', c', w2, hap, hO, g2, hkeep⟩ := app_N1 c 22 (grown_refl w1 none) (OwnN.nil w1 w1.heap.size (fun _ => 0)) hR (by have := HG.out; have := HL.out; omega)
  have HE : Hid (ISays w p L F (s.take L n) w2) := ⟨hE.st.grown0 g2, grown_trans hE.gr (grown_some g2)⟩
  have HAP := Lib.hid hap
  have HO : Hid (OwnN w2 w.heap.size (.slice a' k c') k (fun i => F (s.off + i))) := by
    rw [Nat.zero_add] at hO
    rcases hO.ex with h | ⟨b, cap, e1, e2, e3⟩
    · exact ⟨Or.inl h⟩
    · exact ⟨Or.inr ⟨b, cap, e1, e2.congr (fun i _ => by unfold cat; rw [if_neg (by omega)]; rfl), Nat.le_trans hE.gr.size e3⟩⟩
  rw [Nat.zero_add] at HAP
  clear hap hO g2 hkeep hE hR hc HT hk
  go_wp2_with (at_builtin; refine wpList_append_run rfl (.const (.slice none 0 0)) (.tmp 7) 22 22 rfl _ _ _ _ rfl rfl HAP.out ?_)
  go_ret
  exact ⟨⟨a', c', rfl, HO.out⟩, HE.out⟩
end Go.Proofs.Ytpddgiflljlpbaa
namespace Go.Proofs.Ytpddgiflljlpbaa
open Go.RowKit

set_option maxRecDepth 100000
set_option maxHeartbeats 4000000

theorem inSized_any {w : World} {p : Option Addr} {L : Nat} {F : Nat → Nat} {s : ISt} (most : Int) (h : IAt w p L F s) (hF : ∀ i, F i < 256) (hL : L ≤ 2 ^ 46) :
    Calls Try.prog 54 #[.pointer p, .int .i64 most] w (Gots w p L F ((s.cntS L F most).take L (s.cntV L F most : Nat)) ((s.cntS L F most).got L (s.cntV L F most : Nat)) (fun i => F ((s.cntS L F most).off + i))) := by
  have HC := Lib.hid (inCount_any most h hF)
  have hlt := ISt.cntV_lt L F s most hF
  generalize s.cntV L F most = k at *
  generalize s.cntS L F most = t at *
  obtain ⟨m, hm⟩ : ∃ m, m = t.got L (k : Nat) := ⟨_, rfl⟩
  rw [← hm]
  have HMM := Lib.hid hm
  clear hm
  have HK := Lib.hid hlt
  have HL := Lib.hid hL
  clear h hF hL hlt
  go_enter Try.func54, Try.ntmps54
  go_wp2_with fail
  go_at_call 70
  refine HC.out.mono ?_
  rintro e w1 ⟨rfl, hE⟩
  have HX := Lib.hid (inFixed_any (k : Nat) hE.st (by omega) (by have := HK.out; omega) HL.out)
  have G1 := Lib.hid hE.gr
  clear hE HC
  go_wp2_with fail
  go_at_call 22
  refine HX.out.mono ?_
  rintro e w2 ⟨⟨a, c, rfl, hO⟩, hE⟩
  rw [← HMM.out] at hO ⊢
  have HO := Lib.hid (hO.base G1.out.size)
  have HE : Hid (ISays w p L F (t.take L (k : Nat)) w2) := ⟨hE.st, grown_trans G1.out hE.gr⟩
  clear hO hE HX
  go_wp2_with fail
  go_ret
  exact ⟨⟨a, c, rfl, HO.out⟩, HE.out⟩
end Go.Proofs.Ytpddgiflljlpbaa
namespace Go.Proofs.Ytpddgiflljlpbaa
open Go.RowKit

set_option maxRecDepth 100000
set_option maxHeartbeats 4000000

theorem inU32_any {w : World} {p : Option Addr} {L : Nat} {F : Nat → Nat} {s : ISt} (h : IAt w p L F s) (hF : ∀ i, F i < 256) : Calls Try.prog 53 #[.pointer p] w fun e w' => e = .returned (.int .u32 (s.num L F 4 : Nat)) ∧ ISays w p L F (s.take L 4) w' := by
  have HN := Lib.hid (inNumber_any 4 h (by decide) hF)
  have HV := Lib.hid (ISt.num_lt L F s 4 hF)
  obtain ⟨v, hv⟩ : ∃ v, v = s.num L F 4 := ⟨_, rfl⟩
  rw [← hv] at HV ⊢
  have l0 : (v : Int) < 4294967296 := by have := HV.out; omega
  have HVV := Lib.hid hv
  clear h hF hv
  go_enter Try.func53, Try.ntmps53
  go_wp2_with fail
  go_at_call 38
  refine HN.out.mono ?_
  rintro e w1 ⟨rfl, hE⟩
  rw [← HVV.out]
  have HE := Lib.hid hE
  clear hE HN
  go_wp2_with fail
  go_ret
  exact ⟨rfl, HE.out⟩
end Go.Proofs.Ytpddgiflljlpbaa
namespace Go.Proofs.Ytpddgiflljlpbaa
open Go.RowKit

set_option maxRecDepth 100000
set_option maxHeartbeats 4000000

theorem inU8_any {w : World} {p : Option Addr} {L : Nat} {F : Nat → Nat} {s : ISt} (h : IAt w p L F s) (hF : ∀ i, F i < 256) : Calls Try.prog 21 #[.pointer p] w fun e w' => e = .returned (.int .u8 (s.num L F 1 : Nat)) ∧ ISays w p L F (s.take L 1) w' := by
  have HN := Lib.hid (inNumber_any 1 h (by decide) hF)
  have HV := Lib.hid (ISt.num_lt L F s 1 hF)
  obtain ⟨v, hv⟩ : ∃ v, v = s.num L F 1 := ⟨_, rfl⟩
  rw [← hv] at HV ⊢
  have l0 : (v : Int) < 256 := by have := HV.out; omega
  have HVV := Lib.hid hv
  clear h hF hv
  go_enter Try.func21, Try.ntmps21
  go_wp2_with fail
  go_at_call 38
  refine HN.out.mono ?_
  rintro e w1 ⟨rfl, hE⟩
  rw [← HVV.out]
  have HE := Lib.hid hE
  clear hE HN
  go_wp2_with fail
  go_ret
  exact ⟨rfl, HE.out⟩
end Go.Proofs.Ytpddgiflljlpbaa
namespace Go.Proofs.Ytpddgiflljlpbaa
open Go.RowKit

set_option maxRecDepth 100000
set_option maxHeartbeats 4000000

theorem grown_row {w0 w w' : World} {row r2 : Option Nat} (h : w0.grownBy w row) (g : w.grownBy w' r2) (hk : ∀ k, r2 = some k → w0.heap.size ≤ k) : w0.grownBy w' row := by
  cases r2 with
  | none => exact ⟨g.os.trans h.os, g.tape.trans h.tape, g.output.trans h.output, Nat.le_trans h.size g.size, fun i hi hr => (g.block i (Nat.lt_of_lt_of_le hi h.size) (by simp)).trans (h.block i hi hr)⟩
  | some k => exact grown_new h g (hk k rfl)
theorem IAt.lt {w : World} {p : Option Addr} {L : Nat} {F : Nat → Nat} {s : ISt} (h : IAt w p L F s) (g : Nat) (hp : p = some ⟨g, 0, none⟩) : g < w.heap.size := by
  have hs := h.st
  cases s with
  | nil =>
    have h0 : p = none := hs
    rw [h0] at hp
    cases hp
  | bad =>
    obtain ⟨g', h1, h2⟩ := hs
    rw [hp] at h1
    cases h1
    exact World.block_lt_of_cell? w _ h2.c0
  | good a =>
    obtain ⟨g', a', c', h1, h2, _⟩ := hs
    rw [hp] at h1
    cases h1
    exact World.block_lt_of_cell? w _ h2.c0
theorem IAt.rowP_lt {w : World} {p : Option Addr} {L : Nat} {F : Nat → Nat} {s : ISt} (h : IAt w p L F s) (k : Nat) (hp : rowP p = some k) : k < w.heap.size := by
  have hs := h.st
  cases s with
  | nil =>
    have h0 : p = none := hs
    rw [h0] at hp
    cases hp
  | bad =>
    obtain ⟨g', h1, h2⟩ := hs
    rw [h1] at hp
    cases hp
    exact World.block_lt_of_cell? w _ h2.c0
  | good a =>
    obtain ⟨g', a', c', h1, h2, _⟩ := hs
    rw [h1] at hp
    cases hp
    exact World.block_lt_of_cell? w _ h2.c0
/-- Its block is a new one. -/
theorem IAt.row_ge {w : World} {p : Option Addr} {L D : Nat} {F : Nat → Nat} {s : ISt} (h : IAt w p L F s) (hg : ∀ g, p = some ⟨g, 0, none⟩ → D ≤ g) (k : Nat) (hk : rowP p = some k) : D ≤ k := by
  have hs := h.st
  cases s with
  | nil =>
    have h0 : p = none := hs
    rw [h0] at hk; cases hk
  | bad =>
    obtain ⟨g, h1, _⟩ := hs
    rw [h1] at hk; cases hk
    exact hg g h1
  | good at' =>
    obtain ⟨g, a, c, h1, _⟩ := hs
    rw [h1] at hk; cases hk
    exact hg g h1
end Go.Proofs.Ytpddgiflljlpbaa
namespace Go.Proofs.Ytpddgiflljlpbaa
open Go.RowKit

set_option maxRecDepth 100000
set_option maxHeartbeats 4000000

/-- A reader, a signal behind it, and a block behind that in which the signal's address lies. -/
structure TSt (w0 w : World) (b B : Nat) (p : Option Addr) (L : Nat) (F : Nat → Nat) (s : ISt) (y : SV) : Prop where
  box : BoxAt w b B
  sig : SAt w B y
  inn : IAt w p L F s
  gr : w0.grownBy w none
  nb : b ≠ B
  hB : w0.heap.size ≤ B
  hp : ∀ g, p = some ⟨g, 0, none⟩ → w0.heap.size ≤ g ∧ g < B ∧ g ≠ b
section
variable {w0 w w' : World} {b B : Nat} {p : Option Addr} {L : Nat} {F : Nat → Nat} {s s' : ISt} {y y' : SV}
theorem IAt.ptr (h : IAt w p L F s) (k : Nat) (hk : rowP p = some k) : p = some ⟨k, 0, none⟩ := by
  have hs := h.st
  cases s with
  | nil =>
    have h0 : p = none := hs
    rw [h0] at hk; cases hk
  | bad =>
    obtain ⟨g, h1, _⟩ := hs
    rw [h1] at hk; cases hk; exact h1
  | good at' =>
    obtain ⟨g, a, c, h1, _⟩ := hs
    rw [h1] at hk; cases hk; exact h1
theorem TSt.row (h : TSt w0 w b B p L F s y) (k : Nat) (hk : rowP p = some k) : w0.heap.size ≤ k ∧ k < B ∧ k ≠ b := h.hp k (h.inn.ptr k hk)
theorem TSt.call (h : TSt w0 w b B p L F s y) (hs : ISays w p L F s' w') : TSt w0 w' b B p L F s' y where
  box := h.box.grown hs.gr (fun e => (h.row b e.symm).2.2 rfl)
  sig := h.sig.grown hs.gr (fun e => by have := (h.row B e.symm).2.1; omega)
  inn := hs.st
  gr := grown_row h.gr hs.gr (fun k hk => (h.row k hk).1)
  nb := h.nb
  hB := h.hB
  hp := h.hp
theorem TSt.grown (h : TSt w0 w b B p L F s y) (g : w.grownBy w' none) : TSt w0 w' b B p L F s y where
  box := h.box.grown g (by simp)
  sig := h.sig.grown g (by simp)
  inn := h.inn.grown0 g
  gr := grown_trans h.gr g
  nb := h.nb
  hB := h.hB
  hp := h.hp
theorem TSt.write (h : TSt w0 w b B p L F s y) (g : w.grownBy w' (some B)) (hs : SAt w' B y') : TSt w0 w' b B p L F s y' where
  box := h.box.grown g (by have := h.nb; simp; omega)
  sig := hs
  inn := h.inn.grown g (fun g' k e e2 => by
    cases e2
    exact (h.hp g' e).2.1)
  gr := grown_new h.gr g h.hB
  nb := h.nb
  hB := h.hB
  hp := h.hp
theorem TSt.put1 (h : TSt w0 w b B p L F s y) (o : Nat) (v : Value) (y' : SV) (e : y.cells.setIfInBounds o v = y'.cells) : TSt w0 (w.setCell ⟨B, o, none⟩ v) b B p L F s y' :=
  h.write (grown_setCell_new (grown_refl w _) ⟨B, o, none⟩ v (Or.inr rfl)) (h.sig.put1 o v y' e)
theorem TSt.set (h : TSt w0 w b B p L F s y) (o : Nat) (vs : List Value) (y' : SV) (e : putsA y.cells o vs = y'.cells) : TSt w0 (w.setCells B o vs) b B p L F s y' :=
  h.write (grown_setCells B (Or.inr rfl) vs o w (grown_refl w _)) (h.sig.set o vs y' e)
end
/-- Bytes are copied into a part of a signal: all of it, or none. -/
theorem SAt.copy {w : World} {B : Nat} {x : SV} {a : Option Addr} {D N : Nat} {f : Nat → Nat} (h : SAt w B x) (o m cs : Nat) (ho : o + m ≤ 55) (hR : Rd w D a N f) (hN : N = 0 ∨ N = m) :
    (Builtin.copy_ #[22, 22] 3 #[.slice (some ⟨B, o, none⟩) m m, .slice a N cs]).run Try.prog w = .ok (.int .i64 N) (w.setCells B o ((List.range N).map fun i => Value.int .u8 (f i))) := by
  by_cases h0 : N = 0
  · subst h0
    exact run_copy_none (P := Try.prog) w 22 22 3 5 _ _ _ _ _ _ (by kernel_rfl) (by kernel_rfl) (by simp)
  · obtain rfl : N = m := by omega
    obtain ⟨tb, so, rfl, _, hc⟩ := hR.ex (by omega)
    have ht := h.there o N ho
    have hcp := run_copy_cells (P := Try.prog) w 22 22 3 5 B o N N ⟨tb, so, none⟩ N cs ((List.range N).map fun j => Value.int .u8 (f j)) (by kernel_rfl) (by kernel_rfl) (by simp)
      (fun j v hv => by
        have hj : j < N := by
          have := (List.getElem?_eq_some_iff.1 hv).1
          simpa using this
        have e : v = .int .u8 (f j) := by simpa [hj] using hv.symm
        subst e
        rw [Addr.add_mid]
        exact hc j hj)
      (fun j hj => (ht j (by simpa using hj)).1)
      (fun j hj => (ht j (by simpa using hj)).2) (fun v hv => by
        obtain ⟨i, _, rfl⟩ := List.mem_map.1 hv
        rfl)
    rw [show ((List.range N).map fun j => Value.int .u8 (f j)).length = N by simp] at hcp
    exact hcp
/-- The first N of these, the others of those. -/
def over (N : Nat) (f g : Nat → Nat) : Nat → Nat := fun i => if i < N then f i else g i
theorem over_zero (f g : Nat → Nat) : over 0 f g = g := by funext i; unfold over; rw [if_neg (by omega)]
section
variable {w0 w : World} {b B : Nat} {p : Option Addr} {L : Nat} {F : Nat → Nat} {s : ISt} {y : SV}
theorem TSt.copyKey (h : TSt w0 w b B p L F s y) (N : Nat) (f : Nat → Nat) (hN : N = 0 ∨ N = 32) : TSt w0 (w.setCells B 20 ((List.range N).map fun i => Value.int .u8 (f i))) b B p L F s { y with key := over N f y.key } := by
  rcases hN with rfl | rfl
  · rw [over_zero]; exact h
  · exact h.set 20 _ _ (by kernel_rfl)
theorem TSt.copyId (h : TSt w0 w b B p L F s y) (N : Nat) (f : Nat → Nat) (hN : N = 0 ∨ N = 16) : TSt w0 (w.setCells B 1 ((List.range N).map fun i => Value.int .u8 (f i))) b B p L F s { y with id := over N f y.id } := by
  rcases hN with rfl | rfl
  · rw [over_zero]; exact h
  · exact h.set 1 _ _ (by kernel_rfl)
end
theorem ISt.got_two (L : Nat) (s : ISt) (n : Nat) : s.got L n = 0 ∨ s.got L n = n := by
  cases s with
  | nil => exact Or.inl rfl
  | bad => exact Or.inl rfl
  | good a =>
    by_cases h : 0 ≤ (n : Int) ∧ (n : Int) ≤ ((L - a : Nat) : Int)
    · exact Or.inr ((if_pos h).trans (Int.toNat_natCast n))
    · exact Or.inl (if_neg h)
end Go.Proofs.Ytpddgiflljlpbaa
namespace Go.Proofs.Ytpddgiflljlpbaa
open Go.RowKit

set_option maxRecDepth 100000
set_option maxHeartbeats 4000000

theorem inU8_enters : ∀ args w, (callFunc 21 args).run Try.prog w = .ok (.enter 21 args) w := enters_of Try.func21 (by kernel_rfl) rfl
theorem inU32_enters : ∀ args w, (callFunc 53 args).run Try.prog w = .ok (.enter 53 args) w := enters_of Try.func53 (by kernel_rfl) rfl
theorem inFixed_enters : ∀ args w, (callFunc 22 args).run Try.prog w = .ok (.enter 22 args) w := enters_of Try.func22 (by kernel_rfl) rfl
theorem inSized_enters : ∀ args w, (callFunc 54 args).run Try.prog w = .ok (.enter 54 args) w := enters_of Try.func54 (by kernel_rfl) rfl
theorem OwnN.setOld {w w' : World} {base k : Nat} {v : Value} {n : Nat} {f : Nat → Nat} (h : OwnN w base v n f) (g : w.grownBy w' (some k)) (hk : k < base) : OwnN w' base v n f := by
  rcases h.ex with h | ⟨g', cap, h1, h2, h3⟩
  · exact ⟨Or.inl h⟩
  · exact ⟨Or.inr ⟨g', cap, h1, h2.grown g (fun e => by cases e; omega), h3⟩⟩
/-- What a closure that takes leaves. -/
structure TakeSays (w0 : World) (b B : Nat) (p : Option Addr) (L : Nat) (F : Nat → Nat) (s : ISt) (y : SV) (e : Ending) (w' : World) : Prop where
  ex : e = .returned (.tuple #[])
  st : TSt w0 w' b B p L F s y
theorem exec_copy {o : Oper} {a : Act} {w w' : World} (x y : Operand) (vx vy v : Value) (ho : o.op = .call { callee := .builtin .copy, args := #[x, y], argTypes := #[22, 22] }) (ht : o.type = 3) (hx : a.eval x = vx) (hy : a.eval y = vy)
    (h : (Builtin.copy_ #[22, 22] 3 #[vx, vy]).run Try.prog w = .ok v w') : (execOp a.eval o).run Try.prog w = .ok (.value v) w' := by
  unfold execOp
  simp [ho, ht, resolve, invoke, builtin, hx, hy, h, Result.andThen]
def SV.takeOffer (y : SV) (L : Nat) (F : Nat → Nat) (s : ISt) : SV :=
  { y with ac := s.num L F 1, dv := (s.take L 1).num L F 1, ce := ((s.take L 1).take L 1).num L F 1, key := over ((((s.take L 1).take L 1).take L 1).got L 32) (fun i => F ((((s.take L 1).take L 1).take L 1).off + i)) y.key }
theorem takeOffer_any (w0 w : World) (b B : Nat) (p : Option Addr) (L : Nat) (F : Nat → Nat) (s : ISt) (y : SV) (hT : TSt w0 w b B p L F s y) (hF : ∀ i, F i < 256) (hL : L ≤ 2 ^ 46) :
    Calls Try.prog 42 #[.pointer p, .pointer (some ⟨b, 0, none⟩)] w (TakeSays w0 b B p L F ((((s.take L 1).take L 1).take L 1).take L 32) (y.takeOffer L F s)) := by
  go_enter Try.func42, Try.ntmps42
  go_upto_region 0 with fail
  refine wp_region_held (S := fun W => BoxAt W b B) (by kernel_rfl) ?_
  change wpAnyH _ _ _ _ _ 7 #[false, false, false, false, false, false, false] _ (World.drew _)
  replace hT := hT.grown (grown_drew (grown_refl w none))
  generalize World.drew w = w1 at *
  refine wpAnyH_takeD (some 3) (i := 0) (v := (.pointer (some ⟨B, 0, none⟩))) rfl rfl (by kernel_rfl) (by kernel_rfl) (by kernel_rfl) (fun _ _ _ h => h) (Or.inl ⟨rfl, fun W hW => exec_load (.tmp 1) (.pointer (some ⟨b, 0, none⟩)) (.pointer (some ⟨B, 0, none⟩)) rfl rfl hW.load⟩) hT.box ?_
  simp only [Act.put, List.setIfInBounds_toArray, List.set_cons_succ, List.set_cons_zero]
  refine wpAnyH_takeD (some 4) (i := 1) (v := (.pointer p)) rfl rfl (by kernel_rfl) (by kernel_rfl) (by kernel_rfl) (fun _ _ _ h => h) (Or.inl ⟨rfl, fun _ _ => rfl⟩) hT.box ?_
  simp only [Act.put, List.setIfInBounds_toArray, List.set_cons_succ, List.set_cons_zero]
  refine wpAnyH_callD (some 5) (i := 2) 21 #[.pointer p] (R := fun v W => v = .int .u8 ((s).num L F 1 : Nat) ∧ TSt w0 W b B p L F (s.take L 1) _) (by kernel_rfl) rfl rfl rfl (exec_fn1 _ _ _ rfl rfl) inU8_enters ((inU8_any hT.inn hF).mono fun e W h => ⟨_, h.1, rfl, hT.call h.2⟩) ?_
  clear hT
  rintro v w2 ⟨rfl, hT⟩
  refine ⟨hT.box, ?_⟩
  simp only [Act.put, List.setIfInBounds_toArray, List.set_cons_succ, List.set_cons_zero]
  refine wpAnyH_takeD (some 6) (i := 3) (v := (.pointer (some ⟨B, 0, none⟩))) rfl rfl (by kernel_rfl) (by kernel_rfl) (by kernel_rfl) (fun _ _ _ h => h) (Or.inl ⟨rfl, fun _ _ => by go_simp⟩) hT.box ?_
  simp only [Act.put, List.setIfInBounds_toArray, List.set_cons_succ, List.set_cons_zero]
  refine wpAnyH_takeD (some 7) (i := 4) (v := (.pointer (some ⟨B, 17, none⟩))) rfl rfl (by kernel_rfl) (by kernel_rfl) (by kernel_rfl) (fun _ _ _ h => h) (Or.inl ⟨rfl, fun _ _ => by go_simp⟩) hT.box ?_
  simp only [Act.put, List.setIfInBounds_toArray, List.set_cons_succ, List.set_cons_zero]
  refine wpAnyH_takeD (some 8) (i := 5) (v := (.pointer (some ⟨B, 17, none⟩))) rfl rfl (by kernel_rfl) (by kernel_rfl) (by kernel_rfl) (fun _ _ _ h => h) (Or.inl ⟨rfl, fun _ _ => by go_simp⟩) hT.box ?_
  simp only [Act.put, List.setIfInBounds_toArray, List.set_cons_succ, List.set_cons_zero]
  have hT2 := hT.put1 17 (.int .u8 ((s).num L F 1 : Nat)) { y with ac := s.num L F 1 } (by kernel_rfl)
  refine wpAnyH_skipD (i := 6) (by kernel_rfl) rfl rfl rfl (exec_store (.tmp 8) (.tmp 5) _ _ rfl rfl rfl (hT.sig.store8 17 _ (by decide))) hT2.box ?_
  clear hT
  refine wpAnyH_done (by kernel_rfl) ?_ _
  generalize w2.setCell _ _ = w at *
  have hT := hT2
  clear hT2
  go_upto_region 1 with fail
  refine wp_region_held (S := fun W => BoxAt W b B) (by kernel_rfl) ?_
  change wpAnyH _ _ _ _ _ 7 #[false, false, false, false, false, false, false] _ (World.drew _)
  replace hT := hT.grown (grown_drew (grown_refl w none))
  generalize World.drew w = w1 at *
  refine wpAnyH_takeD (some 9) (i := 0) (v := (.pointer (some ⟨B, 0, none⟩))) rfl rfl (by kernel_rfl) (by kernel_rfl) (by kernel_rfl) (fun _ _ _ h => h) (Or.inl ⟨rfl, fun W hW => exec_load (.tmp 1) (.pointer (some ⟨b, 0, none⟩)) (.pointer (some ⟨B, 0, none⟩)) rfl rfl hW.load⟩) hT.box ?_
  simp only [Act.put, List.setIfInBounds_toArray, List.set_cons_succ, List.set_cons_zero]
  refine wpAnyH_takeD (some 10) (i := 1) (v := (.pointer p)) rfl rfl (by kernel_rfl) (by kernel_rfl) (by kernel_rfl) (fun _ _ _ h => h) (Or.inl ⟨rfl, fun _ _ => rfl⟩) hT.box ?_
  simp only [Act.put, List.setIfInBounds_toArray, List.set_cons_succ, List.set_cons_zero]
  refine wpAnyH_callD (some 11) (i := 2) 21 #[.pointer p] (R := fun v W => v = .int .u8 ((s.take L 1).num L F 1 : Nat) ∧ TSt w0 W b B p L F ((s.take L 1).take L 1) _) (by kernel_rfl) rfl rfl rfl (exec_fn1 _ _ _ rfl rfl) inU8_enters ((inU8_any hT.inn hF).mono fun e W h => ⟨_, h.1, rfl, hT.call h.2⟩) ?_
  clear hT
  rintro v w2 ⟨rfl, hT⟩
  refine ⟨hT.box, ?_⟩
  simp only [Act.put, List.setIfInBounds_toArray, List.set_cons_succ, List.set_cons_zero]
  refine wpAnyH_takeD (some 12) (i := 3) (v := (.pointer (some ⟨B, 0, none⟩))) rfl rfl (by kernel_rfl) (by kernel_rfl) (by kernel_rfl) (fun _ _ _ h => h) (Or.inl ⟨rfl, fun _ _ => by go_simp⟩) hT.box ?_
  simp only [Act.put, List.setIfInBounds_toArray, List.set_cons_succ, List.set_cons_zero]
  refine wpAnyH_takeD (some 13) (i := 4) (v := (.pointer (some ⟨B, 17, none⟩))) rfl rfl (by kernel_rfl) (by kernel_rfl) (by kernel_rfl) (fun _ _ _ h => h) (Or.inl ⟨rfl, fun _ _ => by go_simp⟩) hT.box ?_
  simp only [Act.put, List.setIfInBounds_toArray, List.set_cons_succ, List.set_cons_zero]
  refine wpAnyH_takeD (some 14) (i := 5) (v := (.pointer (some ⟨B, 18, none⟩))) rfl rfl (by kernel_rfl) (by kernel_rfl) (by kernel_rfl) (fun _ _ _ h => h) (Or.inl ⟨rfl, fun _ _ => by go_simp⟩) hT.box ?_
  simp only [Act.put, List.setIfInBounds_toArray, List.set_cons_succ, List.set_cons_zero]
  have hT2 := hT.put1 18 (.int .u8 ((s.take L 1).num L F 1 : Nat)) { y with ac := s.num L F 1, dv := (s.take L 1).num L F 1 } (by kernel_rfl)
  refine wpAnyH_skipD (i := 6) (by kernel_rfl) rfl rfl rfl (exec_store (.tmp 14) (.tmp 11) _ _ rfl rfl rfl (hT.sig.store8 18 _ (by decide))) hT2.box ?_
  clear hT
  refine wpAnyH_done (by kernel_rfl) ?_ _
  generalize w2.setCell _ _ = w at *
  have hT := hT2
  clear hT2
  go_upto_region 2 with fail
  refine wp_region_held (S := fun W => BoxAt W b B) (by kernel_rfl) ?_
  change wpAnyH _ _ _ _ _ 6 #[false, false, false, false, false, false] _ (World.drew _)
  replace hT := hT.grown (grown_drew (grown_refl w none))
  generalize World.drew w = w1 at *
  refine wpAnyH_takeD (some 15) (i := 0) (v := (.pointer (some ⟨B, 0, none⟩))) rfl rfl (by kernel_rfl) (by kernel_rfl) (by kernel_rfl) (fun _ _ _ h => h) (Or.inl ⟨rfl, fun W hW => exec_load (.tmp 1) (.pointer (some ⟨b, 0, none⟩)) (.pointer (some ⟨B, 0, none⟩)) rfl rfl hW.load⟩) hT.box ?_
  simp only [Act.put, List.setIfInBounds_toArray, List.set_cons_succ, List.set_cons_zero]
  refine wpAnyH_takeD (some 16) (i := 1) (v := (.pointer p)) rfl rfl (by kernel_rfl) (by kernel_rfl) (by kernel_rfl) (fun _ _ _ h => h) (Or.inl ⟨rfl, fun _ _ => rfl⟩) hT.box ?_
  simp only [Act.put, List.setIfInBounds_toArray, List.set_cons_succ, List.set_cons_zero]
  refine wpAnyH_callD (some 17) (i := 2) 21 #[.pointer p] (R := fun v W => v = .int .u8 (((s.take L 1).take L 1).num L F 1 : Nat) ∧ TSt w0 W b B p L F (((s.take L 1).take L 1).take L 1) _) (by kernel_rfl) rfl rfl rfl (exec_fn1 _ _ _ rfl rfl) inU8_enters ((inU8_any hT.inn hF).mono fun e W h => ⟨_, h.1, rfl, hT.call h.2⟩) ?_
  clear hT
  rintro v w2 ⟨rfl, hT⟩
  refine ⟨hT.box, ?_⟩
  simp only [Act.put, List.setIfInBounds_toArray, List.set_cons_succ, List.set_cons_zero]
  refine wpAnyH_takeD (some 18) (i := 3) (v := (.pointer (some ⟨B, 0, none⟩))) rfl rfl (by kernel_rfl) (by kernel_rfl) (by kernel_rfl) (fun _ _ _ h => h) (Or.inl ⟨rfl, fun _ _ => by go_simp⟩) hT.box ?_
  simp only [Act.put, List.setIfInBounds_toArray, List.set_cons_succ, List.set_cons_zero]
  refine wpAnyH_takeD (some 19) (i := 4) (v := (.pointer (some ⟨B, 19, none⟩))) rfl rfl (by kernel_rfl) (by kernel_rfl) (by kernel_rfl) (fun _ _ _ h => h) (Or.inl ⟨rfl, fun _ _ => by go_simp⟩) hT.box ?_
  simp only [Act.put, List.setIfInBounds_toArray, List.set_cons_succ, List.set_cons_zero]
  have hT2 := hT.put1 19 (.int .u8 (((s.take L 1).take L 1).num L F 1 : Nat)) { y with ac := s.num L F 1, dv := (s.take L 1).num L F 1, ce := ((s.take L 1).take L 1).num L F 1 } (by kernel_rfl)
  refine wpAnyH_skipD (i := 5) (by kernel_rfl) rfl rfl rfl (exec_store (.tmp 19) (.tmp 17) _ _ rfl rfl rfl (hT.sig.store8 19 _ (by decide))) hT2.box ?_
  clear hT
  refine wpAnyH_done (by kernel_rfl) ?_ _
  generalize w2.setCell _ _ = w at *
  have hT := hT2
  clear hT2
  go_upto_region 3 with fail
  refine wp_region_held (S := fun W => BoxAt W b B) (by kernel_rfl) ?_
  change wpAnyH _ _ _ _ _ 7 #[false, false, false, false, false, false, false] _ (World.drew _)
  replace hT := hT.grown (grown_drew (grown_refl w none))
  generalize World.drew w = w1 at *
  refine wpAnyH_takeD (some 20) (i := 0) (v := (.pointer (some ⟨B, 0, none⟩))) rfl rfl (by kernel_rfl) (by kernel_rfl) (by kernel_rfl) (fun _ _ _ h => h) (Or.inl ⟨rfl, fun W hW => exec_load (.tmp 1) (.pointer (some ⟨b, 0, none⟩)) (.pointer (some ⟨B, 0, none⟩)) rfl rfl hW.load⟩) hT.box ?_
  simp only [Act.put, List.setIfInBounds_toArray, List.set_cons_succ, List.set_cons_zero]
  refine wpAnyH_takeD (some 21) (i := 1) (v := (.pointer (some ⟨B, 0, none⟩))) rfl rfl (by kernel_rfl) (by kernel_rfl) (by kernel_rfl) (fun _ _ _ h => h) (Or.inl ⟨rfl, fun _ _ => by go_simp⟩) hT.box ?_
  simp only [Act.put, List.setIfInBounds_toArray, List.set_cons_succ, List.set_cons_zero]
  refine wpAnyH_takeD (some 22) (i := 2) (v := (.pointer (some ⟨B, 20, none⟩))) rfl rfl (by kernel_rfl) (by kernel_rfl) (by kernel_rfl) (fun _ _ _ h => h) (Or.inl ⟨rfl, fun _ _ => by go_simp⟩) hT.box ?_
  simp only [Act.put, List.setIfInBounds_toArray, List.set_cons_succ, List.set_cons_zero]
  refine wpAnyH_takeD (some 23) (i := 3) (v := (.slice (some ⟨B, 20, none⟩) 32 32)) rfl rfl (by kernel_rfl) (by kernel_rfl) (by kernel_rfl) (fun _ _ _ h => h) (Or.inl ⟨rfl, fun _ _ => by go_simp⟩) hT.box ?_
  simp only [Act.put, List.setIfInBounds_toArray, List.set_cons_succ, List.set_cons_zero]
  refine wpAnyH_takeD (some 24) (i := 4) (v := (.pointer p)) rfl rfl (by kernel_rfl) (by kernel_rfl) (by kernel_rfl) (fun _ _ _ h => h) (Or.inl ⟨rfl, fun _ _ => rfl⟩) hT.box ?_
  simp only [Act.put, List.setIfInBounds_toArray, List.set_cons_succ, List.set_cons_zero]
  refine wpAnyH_callD (some 25) (i := 5) 22 #[.pointer p, .int .i64 32] (R := fun v W => ∃ a c, v = .slice a ((((s.take L 1).take L 1).take L 1).got L 32) c ∧ Rd W W.heap.size a ((((s.take L 1).take L 1).take L 1).got L 32) (fun i => F ((((s.take L 1).take L 1).take L 1).off + i)) ∧ TSt w0 W b B p L F ((((s.take L 1).take L 1).take L 1).take L 32) _) (by kernel_rfl) rfl rfl rfl (exec_fn2 _ _ _ _ _ rfl rfl rfl) inFixed_enters ((inFixed_any 32 hT.inn (by decide) (by decide) hL).mono fun e W h => by
    obtain ⟨⟨a, c, rfl, hO⟩, hs⟩ := h
    obtain ⟨a', c', e, _, hR⟩ := hO.rd
    cases e
    exact ⟨_, rfl, a, c, rfl, hR, hT.call hs⟩) ?_
  clear hT
  rintro v w2 ⟨a, c, rfl, hR, hT⟩
  refine ⟨hT.box, ?_⟩
  simp only [Act.put, List.setIfInBounds_toArray, List.set_cons_succ, List.set_cons_zero]
  have hT2 := hT.copyKey ((((s.take L 1).take L 1).take L 1).got L 32) (fun i => F ((((s.take L 1).take L 1).take L 1).off + i)) (ISt.got_two L (((s.take L 1).take L 1).take L 1) 32)
  have hcp := hT.sig.copy 20 32 c (by decide) hR (ISt.got_two L (((s.take L 1).take L 1).take L 1) 32)
  refine wpAnyH_yieldD (some 26) (i := 6) (by kernel_rfl) rfl rfl rfl (exec_copy _ _ _ _ _ rfl rfl rfl rfl hcp) hT2.box ?_
  simp only [Act.put, List.setIfInBounds_toArray, List.set_cons_succ, List.set_cons_zero]
  refine wpAnyH_done (by kernel_rfl) ?_ _
  go_end0
  exact ⟨rfl, hT2⟩
def SV.takeKey (y : SV) (L : Nat) (F : Nat → Nat) (s : ISt) : SV := { y with key := over (s.got L 32) (fun i => F (s.off + i)) y.key }
theorem takeAnswer_any (w0 w : World) (b B : Nat) (p : Option Addr) (L : Nat) (F : Nat → Nat) (s : ISt) (y : SV) (hT : TSt w0 w b B p L F s y) (hL : L ≤ 2 ^ 46) :
    Calls Try.prog 46 #[.pointer p, .pointer (some ⟨b, 0, none⟩)] w (TakeSays w0 b B p L F (s.take L 32) (y.takeKey L F s)) := by
  go_enter Try.func46, Try.ntmps46
  go_upto_region 0 with fail
  refine wp_region_held (S := fun W => BoxAt W b B) (by kernel_rfl) ?_
  change wpAnyH _ _ _ _ _ 7 #[false, false, false, false, false, false, false] _ (World.drew _)
  replace hT := hT.grown (grown_drew (grown_refl w none))
  generalize World.drew w = w1 at *
  refine wpAnyH_takeD (some 3) (i := 0) (v := (.pointer (some ⟨B, 0, none⟩))) rfl rfl (by kernel_rfl) (by kernel_rfl) (by kernel_rfl) (fun _ _ _ h => h) (Or.inl ⟨rfl, fun W hW => exec_load (.tmp 1) (.pointer (some ⟨b, 0, none⟩)) (.pointer (some ⟨B, 0, none⟩)) rfl rfl hW.load⟩) hT.box ?_
  simp only [Act.put, List.setIfInBounds_toArray, List.set_cons_succ, List.set_cons_zero]
  refine wpAnyH_takeD (some 4) (i := 1) (v := (.pointer (some ⟨B, 0, none⟩))) rfl rfl (by kernel_rfl) (by kernel_rfl) (by kernel_rfl) (fun _ _ _ h => h) (Or.inl ⟨rfl, fun _ _ => by go_simp⟩) hT.box ?_
  simp only [Act.put, List.setIfInBounds_toArray, List.set_cons_succ, List.set_cons_zero]
  refine wpAnyH_takeD (some 5) (i := 2) (v := (.pointer (some ⟨B, 20, none⟩))) rfl rfl (by kernel_rfl) (by kernel_rfl) (by kernel_rfl) (fun _ _ _ h => h) (Or.inl ⟨rfl, fun _ _ => by go_simp⟩) hT.box ?_
  simp only [Act.put, List.setIfInBounds_toArray, List.set_cons_succ, List.set_cons_zero]
  refine wpAnyH_takeD (some 6) (i := 3) (v := (.slice (some ⟨B, 20, none⟩) 32 32)) rfl rfl (by kernel_rfl) (by kernel_rfl) (by kernel_rfl) (fun _ _ _ h => h) (Or.inl ⟨rfl, fun _ _ => by go_simp⟩) hT.box ?_
  simp only [Act.put, List.setIfInBounds_toArray, List.set_cons_succ, List.set_cons_zero]
  refine wpAnyH_takeD (some 7) (i := 4) (v := (.pointer p)) rfl rfl (by kernel_rfl) (by kernel_rfl) (by kernel_rfl) (fun _ _ _ h => h) (Or.inl ⟨rfl, fun _ _ => rfl⟩) hT.box ?_
  simp only [Act.put, List.setIfInBounds_toArray, List.set_cons_succ, List.set_cons_zero]
  refine wpAnyH_callD (some 8) (i := 5) 22 #[.pointer p, .int .i64 32] (R := fun v W => ∃ a c, v = .slice a ((s).got L 32) c ∧ Rd W W.heap.size a ((s).got L 32) (fun i => F ((s).off + i)) ∧ TSt w0 W b B p L F ((s).take L 32) _) (by kernel_rfl) rfl rfl rfl (exec_fn2 _ _ _ _ _ rfl rfl rfl) inFixed_enters ((inFixed_any 32 hT.inn (by decide) (by decide) hL).mono fun e W h => by
    obtain ⟨⟨a, c, rfl, hO⟩, hs⟩ := h
    obtain ⟨a', c', e, _, hR⟩ := hO.rd
    cases e
    exact ⟨_, rfl, a, c, rfl, hR, hT.call hs⟩) ?_
  clear hT
  rintro v w2 ⟨a, c, rfl, hR, hT⟩
  refine ⟨hT.box, ?_⟩
  simp only [Act.put, List.setIfInBounds_toArray, List.set_cons_succ, List.set_cons_zero]
  have hT2 := hT.copyKey ((s).got L 32) (fun i => F ((s).off + i)) (ISt.got_two L (s) 32)
  have hcp := hT.sig.copy 20 32 c (by decide) hR (ISt.got_two L (s) 32)
  refine wpAnyH_yieldD (some 9) (i := 6) (by kernel_rfl) rfl rfl rfl (exec_copy _ _ _ _ _ rfl rfl rfl rfl hcp) hT2.box ?_
  simp only [Act.put, List.setIfInBounds_toArray, List.set_cons_succ, List.set_cons_zero]
  refine wpAnyH_done (by kernel_rfl) ?_ _
  go_end0
  exact ⟨rfl, hT2⟩
def SV.takeHang (y : SV) (L : Nat) (F : Nat → Nat) (s : ISt) : SV := { y with rs := s.num L F 1 }
theorem takeHang_any (w0 w : World) (b B : Nat) (p : Option Addr) (L : Nat) (F : Nat → Nat) (s : ISt) (y : SV) (hT : TSt w0 w b B p L F s y) (hF : ∀ i, F i < 256) :
    Calls Try.prog 58 #[.pointer p, .pointer (some ⟨b, 0, none⟩)] w (TakeSays w0 b B p L F (s.take L 1) (y.takeHang L F s)) := by
  go_enter Try.func58, Try.ntmps58
  go_upto_region 0 with fail
  refine wp_region_held (S := fun W => BoxAt W b B) (by kernel_rfl) ?_
  change wpAnyH _ _ _ _ _ 6 #[false, false, false, false, false, false] _ (World.drew _)
  replace hT := hT.grown (grown_drew (grown_refl w none))
  generalize World.drew w = w1 at *
  refine wpAnyH_takeD (some 3) (i := 0) (v := (.pointer (some ⟨B, 0, none⟩))) rfl rfl (by kernel_rfl) (by kernel_rfl) (by kernel_rfl) (fun _ _ _ h => h) (Or.inl ⟨rfl, fun W hW => exec_load (.tmp 1) (.pointer (some ⟨b, 0, none⟩)) (.pointer (some ⟨B, 0, none⟩)) rfl rfl hW.load⟩) hT.box ?_
  simp only [Act.put, List.setIfInBounds_toArray, List.set_cons_succ, List.set_cons_zero]
  refine wpAnyH_takeD (some 4) (i := 1) (v := (.pointer p)) rfl rfl (by kernel_rfl) (by kernel_rfl) (by kernel_rfl) (fun _ _ _ h => h) (Or.inl ⟨rfl, fun _ _ => rfl⟩) hT.box ?_
  simp only [Act.put, List.setIfInBounds_toArray, List.set_cons_succ, List.set_cons_zero]
  refine wpAnyH_callD (some 5) (i := 2) 21 #[.pointer p] (R := fun v W => v = .int .u8 ((s).num L F 1 : Nat) ∧ TSt w0 W b B p L F (s.take L 1) _) (by kernel_rfl) rfl rfl rfl (exec_fn1 _ _ _ rfl rfl) inU8_enters ((inU8_any hT.inn hF).mono fun e W h => ⟨_, h.1, rfl, hT.call h.2⟩) ?_
  clear hT
  rintro v w2 ⟨rfl, hT⟩
  refine ⟨hT.box, ?_⟩
  simp only [Act.put, List.setIfInBounds_toArray, List.set_cons_succ, List.set_cons_zero]
  refine wpAnyH_takeD (some 6) (i := 3) (v := (.pointer (some ⟨B, 0, none⟩))) rfl rfl (by kernel_rfl) (by kernel_rfl) (by kernel_rfl) (fun _ _ _ h => h) (Or.inl ⟨rfl, fun _ _ => by go_simp⟩) hT.box ?_
  simp only [Act.put, List.setIfInBounds_toArray, List.set_cons_succ, List.set_cons_zero]
  refine wpAnyH_takeD (some 7) (i := 4) (v := (.pointer (some ⟨B, 54, none⟩))) rfl rfl (by kernel_rfl) (by kernel_rfl) (by kernel_rfl) (fun _ _ _ h => h) (Or.inl ⟨rfl, fun _ _ => by go_simp⟩) hT.box ?_
  simp only [Act.put, List.setIfInBounds_toArray, List.set_cons_succ, List.set_cons_zero]
  have hT2 := hT.put1 54 (.int .u8 ((s).num L F 1 : Nat)) (y.takeHang L F s) (by kernel_rfl)
  refine wpAnyH_skipD (i := 5) (by kernel_rfl) rfl rfl rfl (exec_store (.tmp 7) (.tmp 5) _ _ rfl rfl rfl (hT.sig.store8 54 _ (by decide))) hT2.box ?_
  clear hT
  refine wpAnyH_done (by kernel_rfl) ?_ _
  generalize w2.setCell _ _ = w at *
  go_end0
  exact ⟨rfl, hT2⟩
theorem takeNothing_any (p : Option Addr) (w : World) : Calls Try.prog 62 #[.pointer p] w fun e w' => e = .returned (.tuple #[]) ∧ w = w' := by
  go_enter Try.func62, Try.ntmps62
  go_wp2_with fail
  go_end0
  exact ⟨rfl, rfl⟩
/-- How many bytes a candidate brings. -/
def ISt.dataN (L : Nat) (F : Nat → Nat) (s : ISt) : Nat := ((s.take L 4).cntS L F 1024).got L ((s.take L 4).cntV L F 1024 : Nat)
def ISt.dataF (L : Nat) (F : Nat → Nat) (s : ISt) : Nat → Nat := fun i => F (((s.take L 4).cntS L F 1024).off + i)
def ISt.dataS (L : Nat) (F : Nat → Nat) (s : ISt) : ISt := ((s.take L 4).cntS L F 1024).take L ((s.take L 4).cntV L F 1024 : Nat)
def SV.takeCand (y : SV) (L : Nat) (F : Nat → Nat) (s : ISt) (a : Option Addr) (c : Nat) : SV := { y with n := s.num L F 4, ad := a, nd := s.dataN L F, cd := c, fd := s.dataF L F }
structure TakeCandSays (w0 : World) (b B : Nat) (p : Option Addr) (L : Nat) (F : Nat → Nat) (s : ISt) (y : SV) (e : Ending) (w' : World) : Prop where
  ex : e = .returned (.tuple #[])
  st : ∃ a c, TSt w0 w' b B p L F (s.dataS L F) (y.takeCand L F s a c) ∧ OwnN w' (B + 1) (.slice a (s.dataN L F) c) (s.dataN L F) (s.dataF L F)
theorem takeCand_any (w0 w : World) (b B : Nat) (p : Option Addr) (L : Nat) (F : Nat → Nat) (s : ISt) (y : SV) (hT : TSt w0 w b B p L F s y) (hF : ∀ i, F i < 256) (hL : L ≤ 2 ^ 46) :
    Calls Try.prog 52 #[.pointer p, .pointer (some ⟨b, 0, none⟩)] w (TakeCandSays w0 b B p L F s y) := by
  go_enter Try.func52, Try.ntmps52
  go_upto_region 0 with fail
  refine wp_region_held (S := fun W => BoxAt W b B) (by kernel_rfl) ?_
  change wpAnyH _ _ _ _ _ 6 #[false, false, false, false, false, false] _ (World.drew _)
  replace hT := hT.grown (grown_drew (grown_refl w none))
  generalize World.drew w = w1 at *
  refine wpAnyH_takeD (some 3) (i := 0) (v := (.pointer (some ⟨B, 0, none⟩))) rfl rfl (by kernel_rfl) (by kernel_rfl) (by kernel_rfl) (fun _ _ _ h => h) (Or.inl ⟨rfl, fun W hW => exec_load (.tmp 1) (.pointer (some ⟨b, 0, none⟩)) (.pointer (some ⟨B, 0, none⟩)) rfl rfl hW.load⟩) hT.box ?_
  simp only [Act.put, List.setIfInBounds_toArray, List.set_cons_succ, List.set_cons_zero]
  refine wpAnyH_takeD (some 4) (i := 1) (v := (.pointer p)) rfl rfl (by kernel_rfl) (by kernel_rfl) (by kernel_rfl) (fun _ _ _ h => h) (Or.inl ⟨rfl, fun _ _ => rfl⟩) hT.box ?_
  simp only [Act.put, List.setIfInBounds_toArray, List.set_cons_succ, List.set_cons_zero]
  refine wpAnyH_callD (some 5) (i := 2) 53 #[.pointer p] (R := fun v W => v = .int .u32 (s.num L F 4 : Nat) ∧ TSt w0 W b B p L F (s.take L 4) _) (by kernel_rfl) rfl rfl rfl (exec_fn1 _ _ _ rfl rfl) inU32_enters ((inU32_any hT.inn hF).mono fun e W h => ⟨_, h.1, rfl, hT.call h.2⟩) ?_
  clear hT
  rintro v w2 ⟨rfl, hT⟩
  refine ⟨hT.box, ?_⟩
  simp only [Act.put, List.setIfInBounds_toArray, List.set_cons_succ, List.set_cons_zero]
  refine wpAnyH_takeD (some 6) (i := 3) (v := (.pointer (some ⟨B, 0, none⟩))) rfl rfl (by kernel_rfl) (by kernel_rfl) (by kernel_rfl) (fun _ _ _ h => h) (Or.inl ⟨rfl, fun _ _ => by go_simp⟩) hT.box ?_
  simp only [Act.put, List.setIfInBounds_toArray, List.set_cons_succ, List.set_cons_zero]
  refine wpAnyH_takeD (some 7) (i := 4) (v := (.pointer (some ⟨B, 52, none⟩))) rfl rfl (by kernel_rfl) (by kernel_rfl) (by kernel_rfl) (fun _ _ _ h => h) (Or.inl ⟨rfl, fun _ _ => by go_simp⟩) hT.box ?_
  simp only [Act.put, List.setIfInBounds_toArray, List.set_cons_succ, List.set_cons_zero]
  have hT2 := hT.put1 52 (.int .u32 (s.num L F 4 : Nat)) { y with n := s.num L F 4 } (by kernel_rfl)
  refine wpAnyH_skipD (i := 5) (by kernel_rfl) rfl rfl rfl (exec_store (.tmp 7) (.tmp 5) _ _ rfl rfl rfl (hT.sig.store32 52 _ (by decide))) hT2.box ?_
  clear hT
  refine wpAnyH_done (by kernel_rfl) ?_ _
  generalize w2.setCell _ _ = w at *
  have hT := hT2
  clear hT2
  go_upto_region 1 with fail
  refine wp_region_held (S := fun W => BoxAt W b B) (by kernel_rfl) ?_
  change wpAnyH _ _ _ _ _ 6 #[false, false, false, false, false, false] _ (World.drew _)
  replace hT := hT.grown (grown_drew (grown_refl w none))
  generalize World.drew w = w1 at *
  refine wpAnyH_takeD (some 8) (i := 0) (v := (.pointer (some ⟨B, 0, none⟩))) rfl rfl (by kernel_rfl) (by kernel_rfl) (by kernel_rfl) (fun _ _ _ h => h) (Or.inl ⟨rfl, fun W hW => exec_load (.tmp 1) (.pointer (some ⟨b, 0, none⟩)) (.pointer (some ⟨B, 0, none⟩)) rfl rfl hW.load⟩) hT.box ?_
  simp only [Act.put, List.setIfInBounds_toArray, List.set_cons_succ, List.set_cons_zero]
  refine wpAnyH_takeD (some 9) (i := 1) (v := (.pointer p)) rfl rfl (by kernel_rfl) (by kernel_rfl) (by kernel_rfl) (fun _ _ _ h => h) (Or.inl ⟨rfl, fun _ _ => rfl⟩) hT.box ?_
  simp only [Act.put, List.setIfInBounds_toArray, List.set_cons_succ, List.set_cons_zero]
  refine wpAnyH_callD (some 10) (i := 2) 54 #[.pointer p, .int .i64 1024] (R := fun v W => ∃ a c, v = .slice a (s.dataN L F) c ∧ OwnN W (B + 1) (.slice a (s.dataN L F) c) (s.dataN L F) (s.dataF L F) ∧ TSt w0 W b B p L F (s.dataS L F) _) (by kernel_rfl) rfl rfl rfl (exec_fn2 _ _ _ _ _ rfl rfl rfl) inSized_enters ((inSized_any 1024 hT.inn hF hL).mono fun e W h => by
    obtain ⟨⟨a, c, rfl, hO⟩, hs⟩ := h
    exact ⟨_, rfl, a, c, rfl, hO.base (by have := hT.sig.lt; omega), hT.call hs⟩) ?_
  clear hT
  rintro v w2 ⟨a, c, rfl, hO, hT⟩
  refine ⟨hT.box, ?_⟩
  simp only [Act.put, List.setIfInBounds_toArray, List.set_cons_succ, List.set_cons_zero]
  refine wpAnyH_takeD (some 11) (i := 3) (v := (.pointer (some ⟨B, 0, none⟩))) rfl rfl (by kernel_rfl) (by kernel_rfl) (by kernel_rfl) (fun _ _ _ h => h) (Or.inl ⟨rfl, fun _ _ => by go_simp⟩) hT.box ?_
  simp only [Act.put, List.setIfInBounds_toArray, List.set_cons_succ, List.set_cons_zero]
  refine wpAnyH_takeD (some 12) (i := 4) (v := (.pointer (some ⟨B, 53, none⟩))) rfl rfl (by kernel_rfl) (by kernel_rfl) (by kernel_rfl) (fun _ _ _ h => h) (Or.inl ⟨rfl, fun _ _ => by go_simp⟩) hT.box ?_
  simp only [Act.put, List.setIfInBounds_toArray, List.set_cons_succ, List.set_cons_zero]
  have hT2 := hT.put1 53 (.slice a (s.dataN L F) c) (y.takeCand L F s a c) (by kernel_rfl)
  have hO2 := hO.setOld (k := B) (w' := w2.setCell ⟨B, 53, none⟩ (.slice a (s.dataN L F) c)) (grown_setCell_new (grown_refl w2 _) ⟨B, 53, none⟩ _ (Or.inr rfl)) (by omega)
  refine wpAnyH_skipD (i := 5) (by kernel_rfl) rfl rfl rfl (exec_store (.tmp 12) (.tmp 10) _ _ rfl rfl rfl (hT.sig.storeS 53 a _ c (by decide))) hT2.box ?_
  refine wpAnyH_done (by kernel_rfl) ?_ _
  go_end0
  exact ⟨rfl, a, c, hT2, hO2⟩
end Go.Proofs.Ytpddgiflljlpbaa
namespace Go.Proofs.Ytpddgiflljlpbaa
open Go.RowKit

set_option maxRecDepth 100000
set_option maxHeartbeats 4000000

/-- A reader that is made. -/
structure NewInSays (w : World) (L : Nat) (F : Nat → Nat) (e : Ending) (w' : World) : Prop where
  ex : ∃ p, e = .returned (.pointer p) ∧ IAt w' p L F (.good 0) ∧ (∀ g, p = some ⟨g, 0, none⟩ → w.heap.size ≤ g) ∧ w.grownBy w' none
theorem newIn_any (D L c : Nat) (a : Option Addr) (F : Nat → Nat) (w : World) (h : Rd w D a L F) (hL : L ≤ 2 ^ 46) : Calls Try.prog 20 #[.slice a L c] w (NewInSays w L F) := by
  have HC := Lib.hid (clone_any D L c a F w h hL)
  clear h hL
  go_enter Try.func20, Try.ntmps20
  go_wp2_with fail
  go_at_call 37
  refine HC.out.mono ?_
  rintro e w1 ⟨v, rfl, hO, g1⟩
  obtain ⟨a', c', rfl, hc', hR⟩ := hO.rd
  have hb := heap_alloc_new w1 (.cells #[.slice a' L c', .bool false] 78)
  have g2 := World.grownBy_alloc w1 (.cells #[.slice a' L c', .bool false] 78) none
  have hE : IAt (w1.alloc (.cells #[.slice a' L c', .bool false] 78)) (some ⟨w1.heap.size, 0, none⟩) L F (.good 0) :=
    ⟨⟨w1.heap.size, a', c', rfl, ⟨cell_of_row _ _ _ _ _ _ hb, cell_of_row _ _ _ _ _ _ hb, fun i => frozen_of_row _ _ _ _ _ hb⟩, hc', Nat.zero_le _, (hR.grown g2 (by simp)).congr (fun i _ => by rw [Nat.zero_add])⟩⟩
  have HE := Lib.hid hE
  have G := Lib.hid (grown_trans g1 g2)
  have HS := Lib.hid g1.size
  clear hE g1 g2 hb hO hR hc' HC
  go_wp2_with fail
  go_ret
  exact ⟨_, rfl, HE.out, fun g e => by cases e; exact HS.out, G.out⟩
end Go.Proofs.Ytpddgiflljlpbaa
namespace Go.Proofs.Ytpddgiflljlpbaa
open Go.RowKit

set_option maxRecDepth 100000
set_option maxHeartbeats 4000000

def SV.zero : SV := ⟨0, fun _ => 0, 0, 0, 0, fun _ => 0, 0, none, 0, 0, fun _ => 0, 0⟩
theorem SV.zero_cells : SV.zero.cells = #[.int .u8 0, .int .u8 0, .int .u8 0, .int .u8 0, .int .u8 0, .int .u8 0, .int .u8 0, .int .u8 0, .int .u8 0, .int .u8 0, .int .u8 0, .int .u8 0, .int .u8 0, .int .u8 0, .int .u8 0, .int .u8 0, .int .u8 0, .int .u8 0, .int .u8 0, .int .u8 0, .int .u8 0, .int .u8 0, .int .u8 0, .int .u8 0, .int .u8 0, .int .u8 0, .int .u8 0, .int .u8 0, .int .u8 0, .int .u8 0, .int .u8 0, .int .u8 0, .int .u8 0, .int .u8 0, .int .u8 0, .int .u8 0, .int .u8 0, .int .u8 0, .int .u8 0, .int .u8 0, .int .u8 0, .int .u8 0, .int .u8 0, .int .u8 0, .int .u8 0, .int .u8 0, .int .u8 0, .int .u8 0, .int .u8 0, .int .u8 0, .int .u8 0, .int .u8 0, .int .u32 0, .slice none 0 0, .int .u8 0] := by kernel_rfl
theorem SV.all (x : SV) : x.cells.all (·.oneCell') = true := by
  refine all_oneCell_toArray fun v hv => ?_
  simp only [List.mem_cons, List.mem_append, List.mem_map, List.mem_range, List.not_mem_nil, or_false] at hv
  rcases hv with rfl | ⟨i, _, rfl⟩ | rfl | rfl | rfl | ⟨i, _, rfl⟩ | rfl | rfl | rfl <;> rfl
/-- A kind alone. -/
def SV.kind (k : Nat) : SV := { SV.zero with k := k }
def rs1 (L : Nat) : ISt := (ISt.good 0).take L 1
def rs2 (L : Nat) : ISt := (rs1 L).take L 16
def rk (L : Nat) (F : Nat → Nat) : Nat := (ISt.good 0).num L F 1
/-- Kind and id, taken. -/
def SV.first (L : Nat) (F : Nat → Nat) : SV := { SV.kind (rk L F) with id := over ((rs1 L).got L 16) (fun i => F ((rs1 L).off + i)) (fun _ => 0) }
def SV.fin (L : Nat) (s : ISt) (y : SV) : Option SV := if s.code L = 0 ∧ y.mayC = true then some y else none
def SV.takes (L : Nat) (F : Nat → Nat) : Option SV :=
  if rk L F = 1 then SV.fin L (((((rs2 L).take L 1).take L 1).take L 1).take L 32) ((SV.first L F).takeOffer L F (rs2 L))
  else if rk L F = 2 then SV.fin L ((rs2 L).take L 32) ((SV.first L F).takeKey L F (rs2 L))
  else if rk L F = 3 then SV.fin L ((rs2 L).dataS L F) ((SV.first L F).takeCand L F (rs2 L) none 0)
  else if rk L F = 5 then SV.fin L ((rs2 L).take L 1) ((SV.first L F).takeHang L F (rs2 L))
  else if rk L F = 4 ∨ rk L F = 6 then SV.fin L (rs2 L) (SV.first L F)
  else none
def SV.withData (y : SV) (a : Option Addr) (c : Nat) : SV := { y with ad := a, cd := c }
/-- What Take answers. -/
structure TookSig (w : World) (r : Option SV) (e : Ending) (w' : World) : Prop where
  no : r = none → e = .returned (.tuple #[.agg SV.zero.cells, .int .i64 9])
  yes : ∀ y, r = some y → ∃ a c, e = .returned (.tuple #[.agg (y.withData a c).cells, .int .i64 0]) ∧ OwnN w' w.heap.size (.slice a y.nd c) y.nd y.fd
  gr : w.grownBy w' none
/-- A signal into which kind and id were taken, and its reader. -/
structure USt (w0 w : World) (B : Nat) (p : Option Addr) (L : Nat) (F : Nat → Nat) (s : ISt) (y : SV) : Prop where
  sig : SAt w B y
  inn : IAt w p L F s
  gr : w0.grownBy w none
  hB : w0.heap.size ≤ B
  hp : ∀ g, p = some ⟨g, 0, none⟩ → w0.heap.size ≤ g ∧ g < B
theorem USt.grown {w0 w w' : World} {B : Nat} {p : Option Addr} {L : Nat} {F : Nat → Nat} {s : ISt} {y : SV} (h : USt w0 w B p L F s y) (g : w.grownBy w' none) : USt w0 w' B p L F s y :=
  ⟨h.sig.grown g (by simp), h.inn.grown0 g, grown_trans h.gr g, h.hB, h.hp⟩
theorem USt.call {w0 w w' : World} {B : Nat} {p : Option Addr} {L : Nat} {F : Nat → Nat} {s s' : ISt} {y : SV} (h : USt w0 w B p L F s y) (hs : ISays w p L F s' w') : USt w0 w' B p L F s' y where
  sig := h.sig.grown hs.gr (fun e => by have := (h.hp B (h.inn.ptr B e.symm)).2; omega)
  inn := hs.st
  gr := grown_row h.gr hs.gr (fun k hk => (h.hp k (h.inn.ptr k hk)).1)
  hB := h.hB
  hp := h.hp
theorem USt.copyId {w0 w : World} {B : Nat} {p : Option Addr} {L : Nat} {F : Nat → Nat} {s : ISt} {y : SV} (h : USt w0 w B p L F s y) (N : Nat) (f : Nat → Nat) (hN : N = 0 ∨ N = 16) : USt w0 (w.setCells B 1 ((List.range N).map fun i => Value.int .u8 (f i))) B p L F s { y with id := over N f y.id } := by
  rcases hN with rfl | rfl
  · rw [over_zero]; exact h
  · have g := grown_setCells B (Or.inr rfl) ((List.range 16).map fun i => Value.int .u8 (f i)) 1 w (grown_refl w (some B))
    exact ⟨h.sig.set 1 _ _ (by kernel_rfl), h.inn.grown g (fun g' k e e2 => by cases e2; exact (h.hp g' e).2), grown_new h.gr g h.hB, h.hB, h.hp⟩
theorem USt.boxed {w0 w w' : World} {b B : Nat} {p : Option Addr} {L : Nat} {F : Nat → Nat} {s : ISt} {y : SV} (h : USt w0 w B p L F s y) (hb : BoxAt w' b B) (g : w.grownBy w' none) (hlt : w.heap.size ≤ b) : TSt w0 w' b B p L F s y := by
  have hl := h.sig.lt
  exact ⟨hb, h.sig.grown g (by simp), h.inn.grown0 g, grown_trans h.gr g, by omega, h.hB, fun g' e => ⟨(h.hp g' e).1, (h.hp g' e).2, by have := (h.hp g' e).2; omega⟩⟩
theorem took_no {w w' : World} {L : Nat} {F : Nat → Nat} {s : ISt} {y : SV} (ht : SV.takes L F = SV.fin L s y) (h : ¬ (s.code L = 0 ∧ y.mayC = true)) (g : w.grownBy w' none) : TookSig w (SV.takes L F) (.returned (.tuple #[.agg SV.zero.cells, .int .i64 9])) w' := by
  have e : SV.takes L F = none := by rw [ht]; exact if_neg h
  rw [e]
  exact ⟨fun _ => rfl, (fun y h => by cases h), g⟩
theorem took_none {w w' : World} {L : Nat} {F : Nat → Nat} (ht : SV.takes L F = none) (g : w.grownBy w' none) : TookSig w (SV.takes L F) (.returned (.tuple #[.agg SV.zero.cells, .int .i64 9])) w' := by
  rw [ht]
  exact ⟨fun _ => rfl, (fun y h => by cases h), g⟩
theorem took_yes {w w' : World} {L c : Nat} {a : Option Addr} {F : Nat → Nat} {s : ISt} {y : SV} (ht : SV.takes L F = SV.fin L s y) (h1 : s.code L = 0) (h2 : y.mayC = true) (hO : OwnN w' w.heap.size (.slice a y.nd c) y.nd y.fd) (g : w.grownBy w' none) :
    TookSig w (SV.takes L F) (.returned (.tuple #[.agg (y.withData a c).cells, .int .i64 0])) w' := by
  have e : SV.takes L F = some y := by rw [ht]; exact if_pos ⟨h1, h2⟩
  rw [e]
  exact ⟨(fun h => by cases h), (fun y' h => by cases h; exact ⟨a, c, rfl, hO⟩), g⟩
theorem mayC_withData (y : SV) (a : Option Addr) (c : Nat) : (y.withData a c).mayC = y.mayC := rfl
theorem sgTake_any (D L c : Nat) (a : Option Addr) (F : Nat → Nat) (w : World) (hR : Rd w D a L F) (hF : ∀ i, F i < 256) (hL : L ≤ 2 ^ 46) : Calls Try.prog 9 #[.slice a L c] w (TookSig w (SV.takes L F)) := by
  have hb0 := heap_alloc_new w (.cells #[.int .u8 0, .int .u8 0, .int .u8 0, .int .u8 0, .int .u8 0, .int .u8 0, .int .u8 0, .int .u8 0, .int .u8 0, .int .u8 0, .int .u8 0, .int .u8 0, .int .u8 0, .int .u8 0, .int .u8 0, .int .u8 0, .int .u8 0, .int .u8 0, .int .u8 0, .int .u8 0, .int .u8 0, .int .u8 0, .int .u8 0, .int .u8 0, .int .u8 0, .int .u8 0, .int .u8 0, .int .u8 0, .int .u8 0, .int .u8 0, .int .u8 0, .int .u8 0, .int .u8 0, .int .u8 0, .int .u8 0, .int .u8 0, .int .u8 0, .int .u8 0, .int .u8 0, .int .u8 0, .int .u8 0, .int .u8 0, .int .u8 0, .int .u8 0, .int .u8 0, .int .u8 0, .int .u8 0, .int .u8 0, .int .u8 0, .int .u8 0, .int .u8 0, .int .u8 0, .int .u32 0, .slice none 0 0, .int .u8 0] 34)
  have hg0 := World.grownBy_alloc w (.cells #[.int .u8 0, .int .u8 0, .int .u8 0, .int .u8 0, .int .u8 0, .int .u8 0, .int .u8 0, .int .u8 0, .int .u8 0, .int .u8 0, .int .u8 0, .int .u8 0, .int .u8 0, .int .u8 0, .int .u8 0, .int .u8 0, .int .u8 0, .int .u8 0, .int .u8 0, .int .u8 0, .int .u8 0, .int .u8 0, .int .u8 0, .int .u8 0, .int .u8 0, .int .u8 0, .int .u8 0, .int .u8 0, .int .u8 0, .int .u8 0, .int .u8 0, .int .u8 0, .int .u8 0, .int .u8 0, .int .u8 0, .int .u8 0, .int .u8 0, .int .u8 0, .int .u8 0, .int .u8 0, .int .u8 0, .int .u8 0, .int .u8 0, .int .u8 0, .int .u8 0, .int .u8 0, .int .u8 0, .int .u8 0, .int .u8 0, .int .u8 0, .int .u8 0, .int .u8 0, .int .u32 0, .slice none 0 0, .int .u8 0] 34) none
  have HNI := Lib.hid (newIn_any D L c a F (w.alloc (.cells #[.int .u8 0, .int .u8 0, .int .u8 0, .int .u8 0, .int .u8 0, .int .u8 0, .int .u8 0, .int .u8 0, .int .u8 0, .int .u8 0, .int .u8 0, .int .u8 0, .int .u8 0, .int .u8 0, .int .u8 0, .int .u8 0, .int .u8 0, .int .u8 0, .int .u8 0, .int .u8 0, .int .u8 0, .int .u8 0, .int .u8 0, .int .u8 0, .int .u8 0, .int .u8 0, .int .u8 0, .int .u8 0, .int .u8 0, .int .u8 0, .int .u8 0, .int .u8 0, .int .u8 0, .int .u8 0, .int .u8 0, .int .u8 0, .int .u8 0, .int .u8 0, .int .u8 0, .int .u8 0, .int .u8 0, .int .u8 0, .int .u8 0, .int .u8 0, .int .u8 0, .int .u8 0, .int .u8 0, .int .u8 0, .int .u8 0, .int .u8 0, .int .u8 0, .int .u8 0, .int .u32 0, .slice none 0 0, .int .u8 0] 34)) (hR.grown hg0 (by simp)) hL)
  have HF := Lib.hid hF
  have HL := Lib.hid hL
  have HG0 := Lib.hid hg0
  have hz0 := World.size_alloc w (.cells #[.int .u8 0, .int .u8 0, .int .u8 0, .int .u8 0, .int .u8 0, .int .u8 0, .int .u8 0, .int .u8 0, .int .u8 0, .int .u8 0, .int .u8 0, .int .u8 0, .int .u8 0, .int .u8 0, .int .u8 0, .int .u8 0, .int .u8 0, .int .u8 0, .int .u8 0, .int .u8 0, .int .u8 0, .int .u8 0, .int .u8 0, .int .u8 0, .int .u8 0, .int .u8 0, .int .u8 0, .int .u8 0, .int .u8 0, .int .u8 0, .int .u8 0, .int .u8 0, .int .u8 0, .int .u8 0, .int .u8 0, .int .u8 0, .int .u8 0, .int .u8 0, .int .u8 0, .int .u8 0, .int .u8 0, .int .u8 0, .int .u8 0, .int .u8 0, .int .u8 0, .int .u8 0, .int .u8 0, .int .u8 0, .int .u8 0, .int .u8 0, .int .u8 0, .int .u8 0, .int .u32 0, .slice none 0 0, .int .u8 0] 34)
  clear hR hF hL hg0
  go_enter Try.func9, Try.ntmps9
  go_wp2_with fail
  generalize hw1 : (w.alloc (.cells #[.int .u8 0, .int .u8 0, .int .u8 0, .int .u8 0, .int .u8 0, .int .u8 0, .int .u8 0, .int .u8 0, .int .u8 0, .int .u8 0, .int .u8 0, .int .u8 0, .int .u8 0, .int .u8 0, .int .u8 0, .int .u8 0, .int .u8 0, .int .u8 0, .int .u8 0, .int .u8 0, .int .u8 0, .int .u8 0, .int .u8 0, .int .u8 0, .int .u8 0, .int .u8 0, .int .u8 0, .int .u8 0, .int .u8 0, .int .u8 0, .int .u8 0, .int .u8 0, .int .u8 0, .int .u8 0, .int .u8 0, .int .u8 0, .int .u8 0, .int .u8 0, .int .u8 0, .int .u8 0, .int .u8 0, .int .u8 0, .int .u8 0, .int .u8 0, .int .u8 0, .int .u8 0, .int .u8 0, .int .u8 0, .int .u8 0, .int .u8 0, .int .u8 0, .int .u8 0, .int .u32 0, .slice none 0 0, .int .u8 0] 34)) = w1 at *
  clear hw1
  have HB0 := Lib.hid hb0
  have HZ0 := Lib.hid hz0
  clear hb0 hz0
  go_at_call 20
  refine HNI.out.mono ?_
  rintro e w2 ⟨p, rfl, hI, hpg, hg2⟩
  have HPG := Lib.hid hpg
  have HG2 := Lib.hid hg2
  have HU := Lib.hid (inU8_any hI HF.out)
  have HIL := Lib.hid (fun g (e : p = some ⟨g, 0, none⟩) => hI.lt g e)
  clear hI HNI hpg hg2
  go_wp2_with fail
  go_at_call 21
  refine HU.out.mono ?_
  rintro e w3 ⟨rfl, hs⟩
  replace hs : ISays w2 p L F (rs1 L) w3 := hs
  have hrow := grown_row HG2.out hs.gr (fun k hk => by
    have h1 := hs.st.ptr k hk
    exact HPG.out k h1)
  have hpb := heap_alloc_new w3 (.cells #[.int .u8 0, .int .u8 0, .int .u8 0, .int .u8 0, .int .u8 0, .int .u8 0, .int .u8 0, .int .u8 0, .int .u8 0, .int .u8 0, .int .u8 0, .int .u8 0, .int .u8 0, .int .u8 0, .int .u8 0, .int .u8 0, .int .u8 0, .int .u8 0, .int .u8 0, .int .u8 0, .int .u8 0, .int .u8 0, .int .u8 0, .int .u8 0, .int .u8 0, .int .u8 0, .int .u8 0, .int .u8 0, .int .u8 0, .int .u8 0, .int .u8 0, .int .u8 0, .int .u8 0, .int .u8 0, .int .u8 0, .int .u8 0, .int .u8 0, .int .u8 0, .int .u8 0, .int .u8 0, .int .u8 0, .int .u8 0, .int .u8 0, .int .u8 0, .int .u8 0, .int .u8 0, .int .u8 0, .int .u8 0, .int .u8 0, .int .u8 0, .int .u8 0, .int .u8 0, .int .u32 0, .slice none 0 0, .int .u8 0] 34)
  have ga := World.grownBy_alloc w3 (.cells #[.int .u8 0, .int .u8 0, .int .u8 0, .int .u8 0, .int .u8 0, .int .u8 0, .int .u8 0, .int .u8 0, .int .u8 0, .int .u8 0, .int .u8 0, .int .u8 0, .int .u8 0, .int .u8 0, .int .u8 0, .int .u8 0, .int .u8 0, .int .u8 0, .int .u8 0, .int .u8 0, .int .u8 0, .int .u8 0, .int .u8 0, .int .u8 0, .int .u8 0, .int .u8 0, .int .u8 0, .int .u8 0, .int .u8 0, .int .u8 0, .int .u8 0, .int .u8 0, .int .u8 0, .int .u8 0, .int .u8 0, .int .u8 0, .int .u8 0, .int .u8 0, .int .u8 0, .int .u8 0, .int .u8 0, .int .u8 0, .int .u8 0, .int .u8 0, .int .u8 0, .int .u8 0, .int .u8 0, .int .u8 0, .int .u8 0, .int .u8 0, .int .u8 0, .int .u8 0, .int .u32 0, .slice none 0 0, .int .u8 0] 34) none
  have gs := grown_setRow_new (grown_refl (w3.alloc (.cells #[.int .u8 0, .int .u8 0, .int .u8 0, .int .u8 0, .int .u8 0, .int .u8 0, .int .u8 0, .int .u8 0, .int .u8 0, .int .u8 0, .int .u8 0, .int .u8 0, .int .u8 0, .int .u8 0, .int .u8 0, .int .u8 0, .int .u8 0, .int .u8 0, .int .u8 0, .int .u8 0, .int .u8 0, .int .u8 0, .int .u8 0, .int .u8 0, .int .u8 0, .int .u8 0, .int .u8 0, .int .u8 0, .int .u8 0, .int .u8 0, .int .u8 0, .int .u8 0, .int .u8 0, .int .u8 0, .int .u8 0, .int .u8 0, .int .u8 0, .int .u8 0, .int .u8 0, .int .u8 0, .int .u8 0, .int .u8 0, .int .u8 0, .int .u8 0, .int .u8 0, .int .u8 0, .int .u8 0, .int .u8 0, .int .u8 0, .int .u8 0, .int .u8 0, .int .u8 0, .int .u32 0, .slice none 0 0, .int .u8 0] 34)) (some w3.heap.size)) w3.heap.size (SV.kind (rk L F)).cells (Or.inr rfl)
  have hgk := grown_setRow_new (grown_alloc hrow (.cells #[.int .u8 0, .int .u8 0, .int .u8 0, .int .u8 0, .int .u8 0, .int .u8 0, .int .u8 0, .int .u8 0, .int .u8 0, .int .u8 0, .int .u8 0, .int .u8 0, .int .u8 0, .int .u8 0, .int .u8 0, .int .u8 0, .int .u8 0, .int .u8 0, .int .u8 0, .int .u8 0, .int .u8 0, .int .u8 0, .int .u8 0, .int .u8 0, .int .u8 0, .int .u8 0, .int .u8 0, .int .u8 0, .int .u8 0, .int .u8 0, .int .u8 0, .int .u8 0, .int .u8 0, .int .u8 0, .int .u8 0, .int .u8 0, .int .u8 0, .int .u8 0, .int .u8 0, .int .u8 0, .int .u8 0, .int .u8 0, .int .u8 0, .int .u8 0, .int .u8 0, .int .u8 0, .int .u8 0, .int .u8 0, .int .u8 0, .int .u8 0, .int .u8 0, .int .u8 0, .int .u32 0, .slice none 0 0, .int .u8 0] 34)) w3.heap.size (SV.kind (rk L F)).cells (Or.inl hrow.size)
  have HUS : Hid (USt w1 ((w3.alloc (.cells #[.int .u8 0, .int .u8 0, .int .u8 0, .int .u8 0, .int .u8 0, .int .u8 0, .int .u8 0, .int .u8 0, .int .u8 0, .int .u8 0, .int .u8 0, .int .u8 0, .int .u8 0, .int .u8 0, .int .u8 0, .int .u8 0, .int .u8 0, .int .u8 0, .int .u8 0, .int .u8 0, .int .u8 0, .int .u8 0, .int .u8 0, .int .u8 0, .int .u8 0, .int .u8 0, .int .u8 0, .int .u8 0, .int .u8 0, .int .u8 0, .int .u8 0, .int .u8 0, .int .u8 0, .int .u8 0, .int .u8 0, .int .u8 0, .int .u8 0, .int .u8 0, .int .u8 0, .int .u8 0, .int .u8 0, .int .u8 0, .int .u8 0, .int .u8 0, .int .u8 0, .int .u8 0, .int .u8 0, .int .u8 0, .int .u8 0, .int .u8 0, .int .u8 0, .int .u8 0, .int .u32 0, .slice none 0 0, .int .u8 0] 34)).setRow w3.heap.size (SV.kind (rk L F)).cells) w3.heap.size p L F (rs1 L) (SV.kind (rk L F))) := by
    refine ⟨⟨setRow_heap _ _ _ _ _ _ hpb⟩, ?_, hgk, hrow.size, fun g e => ⟨HPG.out g e, ?_⟩⟩
    · exact (hs.st.grown0 ga).grown gs (fun g k e e2 => by
        cases e2
        exact hs.st.lt g e)
    · exact hs.st.lt g e
  have hrk : (ISt.good 0).num L F 1 = rk L F := rfl
  rw [hrk]
  clear hs hrow ga gs hgk HU hrk
  go_upto_region 3 with (first | (with_reducible refine wpList_here ?_; refine wpList_store_row rfl 34 (.tmp 5) (.tmp 12) rfl w3.heap.size (SV.kind (rk L F)).cells rfl (by kernel_rfl) 34 _ hpb (by kernel_rfl) (by kernel_rfl) (SV.all _) ?_))
  clear hpb
  generalize (w3.alloc (.cells #[.int .u8 0, .int .u8 0, .int .u8 0, .int .u8 0, .int .u8 0, .int .u8 0, .int .u8 0, .int .u8 0, .int .u8 0, .int .u8 0, .int .u8 0, .int .u8 0, .int .u8 0, .int .u8 0, .int .u8 0, .int .u8 0, .int .u8 0, .int .u8 0, .int .u8 0, .int .u8 0, .int .u8 0, .int .u8 0, .int .u8 0, .int .u8 0, .int .u8 0, .int .u8 0, .int .u8 0, .int .u8 0, .int .u8 0, .int .u8 0, .int .u8 0, .int .u8 0, .int .u8 0, .int .u8 0, .int .u8 0, .int .u8 0, .int .u8 0, .int .u8 0, .int .u8 0, .int .u8 0, .int .u8 0, .int .u8 0, .int .u8 0, .int .u8 0, .int .u8 0, .int .u8 0, .int .u8 0, .int .u8 0, .int .u8 0, .int .u8 0, .int .u8 0, .int .u8 0, .int .u32 0, .slice none 0 0, .int .u8 0] 34)).setRow w3.heap.size (SV.kind (rk L F)).cells = w4 at *
  generalize w3.heap.size = B at *
  simp only [Act.put]
  go_cut [] (fun wx => USt w1 wx B p L F (rs2 L) (SV.first L F))
  case first =>
    have hU := HUS.out
    clear HUS
    refine wp_region_held (S := fun _ => True) (by kernel_rfl) ?_
    change wpAnyH _ _ _ _ _ 5 #[false, false, false, false, false] _ (World.drew _)
    replace hU := hU.grown (grown_drew (grown_refl w4 none))
    generalize World.drew w4 = w5 at *
    refine wpAnyH_takeD (some 13) (i := 0) (v := (.pointer (some ⟨B, 1, none⟩))) rfl rfl (by kernel_rfl) (by kernel_rfl) (by kernel_rfl) (fun _ _ _ h => h) (Or.inl ⟨rfl, fun _ _ => by go_simp⟩) trivial ?_
    simp only [Act.put, List.setIfInBounds_toArray, List.set_cons_succ, List.set_cons_zero]
    refine wpAnyH_takeD (some 14) (i := 1) (v := (.slice (some ⟨B, 1, none⟩) 16 16)) rfl rfl (by kernel_rfl) (by kernel_rfl) (by kernel_rfl) (fun _ _ _ h => h) (Or.inl ⟨rfl, fun _ _ => by go_simp⟩) trivial ?_
    simp only [Act.put, List.setIfInBounds_toArray, List.set_cons_succ, List.set_cons_zero]
    refine wpAnyH_takeD (some 15) (i := 2) (v := (.pointer p)) rfl rfl (by kernel_rfl) (by kernel_rfl) (by kernel_rfl) (fun _ _ _ h => h) (Or.inl ⟨rfl, fun _ _ => rfl⟩) trivial ?_
    simp only [Act.put, List.setIfInBounds_toArray, List.set_cons_succ, List.set_cons_zero]
    refine wpAnyH_callD (some 16) (i := 3) 22 #[.pointer p, .int .i64 16] (R := fun v W => ∃ a c, v = .slice a ((rs1 L).got L 16) c ∧ Rd W W.heap.size a ((rs1 L).got L 16) (fun i => F ((rs1 L).off + i)) ∧ USt w1 W B p L F ((rs1 L).take L 16) _) (by kernel_rfl) rfl rfl rfl (exec_fn2 _ _ _ _ _ rfl rfl rfl) inFixed_enters ((inFixed_any 16 hU.inn (by decide) (by decide) HL.out).mono fun e W h => by
      obtain ⟨⟨a, c, rfl, hO⟩, hs⟩ := h
      obtain ⟨a', c', e, _, hR⟩ := hO.rd
      cases e
      exact ⟨_, rfl, a, c, rfl, hR, hU.call hs⟩) ?_
    clear hU
    rintro v w6 ⟨a6, c6, rfl, hR, hU⟩
    refine ⟨trivial, ?_⟩
    simp only [Act.put, List.setIfInBounds_toArray, List.set_cons_succ, List.set_cons_zero]
    have hU2 := hU.copyId ((rs1 L).got L 16) (fun i => F ((rs1 L).off + i)) (ISt.got_two L (rs1 L) 16)
    have hcp := hU.sig.copy 1 16 c6 (by decide) hR (ISt.got_two L (rs1 L) 16)
    refine wpAnyH_yieldD (some 17) (i := 4) (by kernel_rfl) rfl rfl rfl (exec_copy _ _ _ _ _ rfl rfl rfl rfl hcp) trivial ?_
    simp only [Act.put, List.setIfInBounds_toArray, List.set_cons_succ, List.set_cons_zero]
    refine wpAnyH_done (by kernel_rfl) ?_ _
    go_wp2_with fail
    go_meet
    case rel => exact hU2
  case rest =>
    clear HUS HIL
    by_cases hk : rk L F = 1
    · as_aux_lemma =>
        have htk : SV.takes L F = SV.fin L (((((rs2 L).take L 1).take L 1).take L 1).take L 32) ((SV.first L F).takeOffer L F (rs2 L)) := by
          unfold SV.takes
          rw [if_pos hk]
        have HTK := Lib.hid htk
        have hck : wc.cell? ⟨B, 0, none⟩ = some (.int .u8 1) := hcut.sig.cells.k.trans (by rw [show (SV.first L F).k = 1 from hk]; rfl)
        have HP := Lib.hid (partOf_offer B wc hck)
        have HU := Lib.hid hcut
        clear hcut hck htk hk
        go_wp2_with fail
        go_at_call 15
        refine HP.out.mono ?_
        rintro e w7 ⟨b, rfl, hlt, hbx, hg7⟩
        have hT7 := HU.out.boxed hbx hg7 hlt
        have hlt7 := hbx.lt
        have hpb := heap_alloc_new w7 (.cells #[.nilFunc, .nilFunc, .nilFunc, .nilFunc] 49)
        have hp8 := PartAt.new w7 (offerC b)
        have hT8 := hT7.grown (grown_part w7 (offerC b))
        clear hT7 hg7 HP HU hbx hlt hlt7
        go_upto_region 5 with (first | (with_reducible refine wpList_here ?_; refine wpList_store_row rfl 49 (.tmp 6) (.tmp 20) rfl w7.heap.size (offerC b) rfl rfl 49 #[.nilFunc, .nilFunc, .nilFunc, .nilFunc] hpb (by kernel_rfl) rfl (by simp [offerC, clo, Value.oneCell']) ?_))
        clear hpb
        generalize (w7.alloc (.cells #[.nilFunc, .nilFunc, .nilFunc, .nilFunc] 49)).setRow w7.heap.size (offerC b) = w8 at *
        generalize w7.heap.size = pb at *
        have ct : w8.cell? ⟨pb, 2, none⟩ = some (.func (.func 42) #[] #[.pointer (some ⟨b, 0, none⟩)]) := hp8.cell 2
        have HT := Lib.hid (takeOffer_any w1 w8 b B p L F (rs2 L) (SV.first L F) hT8 HF.out HL.out)
        clear hT8 hp8
        go_wp2_with fail
        go_at_call 42
        refine HT.out.mono ?_
        rintro e w9 ⟨rfl, hT9⟩
        have HE := Lib.hid (inEnd_any hT9.inn)
        have HZ9 := Lib.hid ((hT9.gr.block w.heap.size (by have := HZ0.out; omega) (by simp)).trans HB0.out)
        have HGR := Lib.hid (grown_trans HG0.out hT9.gr)
        have HB9 := Lib.hid hT9.hB
        obtain ⟨_, _, _, l4⟩ := hT9.sig.loads
        have HM := Lib.hid (sgMay_any ((SV.first L F).takeOffer L F (rs2 L)) w9)
        have hsl := hT9.sig.lt
        have HSG := Lib.hid hT9.sig
        clear hT9 ct HT hsl 
        obtain ⟨cc, hcc⟩ : ∃ cc, cc = (((((rs2 L).take L 1).take L 1).take L 1).take L 32).code L := ⟨_, rfl⟩
        rw [← hcc] at HE
        have HCC := Lib.hid hcc
        clear hcc
        obtain ⟨mb, hmb⟩ : ∃ mb, mb = ((SV.first L F).takeOffer L F (rs2 L)).mayC := ⟨_, rfl⟩
        rw [← hmb] at HM
        have HMB := Lib.hid hmb
        clear hmb
        by_cases hz : cc = 0
        · subst hz
          go_wp2_with fail
          go_at_call 23
          refine HE.out.mono ?_
          rintro e w10 ⟨rfl, rfl⟩
          cases mb with
          | false =>
            go_wp2_with (first | (with_reducible refine wpList_here ?_; refine wpList_ld (p := .pointer (some ⟨B, 0, none⟩)) 5 ?_ ?_ ?_ l4 ?_; (· rfl); go_simp; (· kernel_rfl)))
            go_at_call 11
            refine HM.out.mono ?_
            rintro e w11 ⟨rfl, g11⟩
            replace HZ9 := Lib.hid ((g11.block w.heap.size (by have h1 := World.block_lt_of_cell? _ _ (cell_of_row _ _ 0 _ _ _ HZ9.out); exact h1) (by simp)).trans HZ9.out)
            replace HGR := Lib.hid (grown_trans HGR.out g11)
            clear g11 HM l4 HE
            go_wp2_with (first | (with_reducible refine wpList_here ?_; refine wpList_store_row rfl 34 (.tmp 2) (.tmp 37) rfl w.heap.size SV.zero.cells rfl (by kernel_rfl) 34 _ HZ9.out (by kernel_rfl) (by kernel_rfl) (SV.all _) ?_))
            exact bodyPost_ret (v := .tuple #[.agg SV.zero.cells, .int .i64 9]) (results_row2 rfl _ _ w.heap.size 34 _ (0, 0) rfl (setRow_heap _ _ _ _ _ _ HZ9.out) (by kernel_rfl) (by kernel_rfl) rfl) rfl (took_no HTK.out (fun h => Bool.noConfusion (HMB.out.trans h.2)) (grown_setRow_new HGR.out _ _ (Or.inl (Nat.le_refl _))))
          | true =>
            go_wp2_with (first | (with_reducible refine wpList_here ?_; refine wpList_ld (p := .pointer (some ⟨B, 0, none⟩)) 5 ?_ ?_ ?_ l4 ?_; (· rfl); go_simp; (· kernel_rfl)))
            go_at_call 11
            refine HM.out.mono ?_
            rintro e w11 ⟨rfl, g11⟩
            have l5 := (HSG.out.grown g11 (by simp)).loads.all
            replace HZ9 := Lib.hid ((g11.block w.heap.size (by have h1 := World.block_lt_of_cell? _ _ (cell_of_row _ _ 0 _ _ _ HZ9.out); exact h1) (by simp)).trans HZ9.out)
            replace HGR := Lib.hid (grown_trans HGR.out g11)
            clear g11 HM l4 HE
            go_wp2_with (first | (with_reducible refine wpList_here ?_; refine wpList_ld (p := .pointer (some ⟨B, 0, none⟩)) 5 ?_ ?_ ?_ l5 ?_; (· rfl); go_simp; (· kernel_rfl)) | (with_reducible refine wpList_here ?_; refine wpList_store_row rfl 34 (.tmp 2) (.tmp 38) rfl w.heap.size ((SV.first L F).takeOffer L F (rs2 L)).cells rfl rfl 34 _ HZ9.out (by kernel_rfl) (by rw [SV.size]; kernel_rfl) (SV.all _) ?_))
            exact bodyPost_ret (v := .tuple #[.agg ((SV.first L F).takeOffer L F (rs2 L)).cells, .int .i64 0]) (results_row2 rfl _ _ w.heap.size 34 _ (0, 0) rfl (setRow_heap _ _ _ _ _ _ HZ9.out) (by kernel_rfl) (by rw [SV.size]; kernel_rfl) rfl) rfl (took_yes (a := none) (c := 0) HTK.out HCC.out.symm HMB.out.symm (OwnN.nil _ _ _) (grown_setRow_new HGR.out _ _ (Or.inl (Nat.le_refl _))))
        · have hz2 : (cc == 0) = false := beq_eq_false_iff_ne.2 hz
          go_wp2_with fail
          go_at_call 23
          refine HE.out.mono ?_
          rintro e w10 ⟨rfl, rfl⟩
          clear HE HM l4
          go_wp2_with (first | (with_reducible refine wpList_here ?_; refine wpList_store_row rfl 34 (.tmp 2) (.tmp 37) rfl w.heap.size SV.zero.cells rfl (by kernel_rfl) 34 _ HZ9.out (by kernel_rfl) (by kernel_rfl) (SV.all _) ?_))
          exact bodyPost_ret (v := .tuple #[.agg SV.zero.cells, .int .i64 9]) (results_row2 rfl _ _ w.heap.size 34 _ (0, 0) rfl (setRow_heap _ _ _ _ _ _ HZ9.out) (by kernel_rfl) (by kernel_rfl) rfl) rfl (took_no HTK.out (fun h => hz (HCC.out.trans h.1)) (grown_setRow_new HGR.out _ _ (Or.inl (Nat.le_refl _))))
    have hk1 := hk
    clear hk
    by_cases hk : rk L F = 2
    · as_aux_lemma =>
        have htk : SV.takes L F = SV.fin L ((rs2 L).take L 32) ((SV.first L F).takeKey L F (rs2 L)) := by
          unfold SV.takes
          rw [if_neg (by omega)]; rw [if_pos hk]
        have HTK := Lib.hid htk
        have hck : wc.cell? ⟨B, 0, none⟩ = some (.int .u8 2) := hcut.sig.cells.k.trans (by rw [show (SV.first L F).k = 2 from hk]; rfl)
        have HP := Lib.hid (partOf_answer B wc hck)
        have HU := Lib.hid hcut
        clear hcut hck htk hk
        go_wp2_with fail
        go_at_call 15
        refine HP.out.mono ?_
        rintro e w7 ⟨b, rfl, hlt, hbx, hg7⟩
        have hT7 := HU.out.boxed hbx hg7 hlt
        have hlt7 := hbx.lt
        have hpb := heap_alloc_new w7 (.cells #[.nilFunc, .nilFunc, .nilFunc, .nilFunc] 49)
        have hp8 := PartAt.new w7 (answerC b)
        have hT8 := hT7.grown (grown_part w7 (answerC b))
        clear hT7 hg7 HP HU hbx hlt hlt7
        go_upto_region 5 with (first | (with_reducible refine wpList_here ?_; refine wpList_store_row rfl 49 (.tmp 6) (.tmp 20) rfl w7.heap.size (answerC b) rfl rfl 49 #[.nilFunc, .nilFunc, .nilFunc, .nilFunc] hpb (by kernel_rfl) rfl (by simp [answerC, clo, bare, Value.oneCell']) ?_))
        clear hpb
        generalize (w7.alloc (.cells #[.nilFunc, .nilFunc, .nilFunc, .nilFunc] 49)).setRow w7.heap.size (answerC b) = w8 at *
        generalize w7.heap.size = pb at *
        have ct : w8.cell? ⟨pb, 2, none⟩ = some (.func (.func 46) #[] #[.pointer (some ⟨b, 0, none⟩)]) := hp8.cell 2
        have HT := Lib.hid (takeAnswer_any w1 w8 b B p L F (rs2 L) (SV.first L F) hT8 HL.out)
        clear hT8 hp8
        go_wp2_with fail
        go_at_call 46
        refine HT.out.mono ?_
        rintro e w9 ⟨rfl, hT9⟩
        have HE := Lib.hid (inEnd_any hT9.inn)
        have HZ9 := Lib.hid ((hT9.gr.block w.heap.size (by have := HZ0.out; omega) (by simp)).trans HB0.out)
        have HGR := Lib.hid (grown_trans HG0.out hT9.gr)
        have HB9 := Lib.hid hT9.hB
        obtain ⟨_, _, _, l4⟩ := hT9.sig.loads
        have HM := Lib.hid (sgMay_any ((SV.first L F).takeKey L F (rs2 L)) w9)
        have hsl := hT9.sig.lt
        have HSG := Lib.hid hT9.sig
        clear hT9 ct HT hsl 
        obtain ⟨cc, hcc⟩ : ∃ cc, cc = ((rs2 L).take L 32).code L := ⟨_, rfl⟩
        rw [← hcc] at HE
        have HCC := Lib.hid hcc
        clear hcc
        obtain ⟨mb, hmb⟩ : ∃ mb, mb = ((SV.first L F).takeKey L F (rs2 L)).mayC := ⟨_, rfl⟩
        rw [← hmb] at HM
        have HMB := Lib.hid hmb
        clear hmb
        by_cases hz : cc = 0
        · subst hz
          go_wp2_with fail
          go_at_call 23
          refine HE.out.mono ?_
          rintro e w10 ⟨rfl, rfl⟩
          cases mb with
          | false =>
            go_wp2_with (first | (with_reducible refine wpList_here ?_; refine wpList_ld (p := .pointer (some ⟨B, 0, none⟩)) 5 ?_ ?_ ?_ l4 ?_; (· rfl); go_simp; (· kernel_rfl)))
            go_at_call 11
            refine HM.out.mono ?_
            rintro e w11 ⟨rfl, g11⟩
            replace HZ9 := Lib.hid ((g11.block w.heap.size (by have h1 := World.block_lt_of_cell? _ _ (cell_of_row _ _ 0 _ _ _ HZ9.out); exact h1) (by simp)).trans HZ9.out)
            replace HGR := Lib.hid (grown_trans HGR.out g11)
            clear g11 HM l4 HE
            go_wp2_with (first | (with_reducible refine wpList_here ?_; refine wpList_store_row rfl 34 (.tmp 2) (.tmp 37) rfl w.heap.size SV.zero.cells rfl (by kernel_rfl) 34 _ HZ9.out (by kernel_rfl) (by kernel_rfl) (SV.all _) ?_))
            exact bodyPost_ret (v := .tuple #[.agg SV.zero.cells, .int .i64 9]) (results_row2 rfl _ _ w.heap.size 34 _ (0, 0) rfl (setRow_heap _ _ _ _ _ _ HZ9.out) (by kernel_rfl) (by kernel_rfl) rfl) rfl (took_no HTK.out (fun h => Bool.noConfusion (HMB.out.trans h.2)) (grown_setRow_new HGR.out _ _ (Or.inl (Nat.le_refl _))))
          | true =>
            go_wp2_with (first | (with_reducible refine wpList_here ?_; refine wpList_ld (p := .pointer (some ⟨B, 0, none⟩)) 5 ?_ ?_ ?_ l4 ?_; (· rfl); go_simp; (· kernel_rfl)))
            go_at_call 11
            refine HM.out.mono ?_
            rintro e w11 ⟨rfl, g11⟩
            have l5 := (HSG.out.grown g11 (by simp)).loads.all
            replace HZ9 := Lib.hid ((g11.block w.heap.size (by have h1 := World.block_lt_of_cell? _ _ (cell_of_row _ _ 0 _ _ _ HZ9.out); exact h1) (by simp)).trans HZ9.out)
            replace HGR := Lib.hid (grown_trans HGR.out g11)
            clear g11 HM l4 HE
            go_wp2_with (first | (with_reducible refine wpList_here ?_; refine wpList_ld (p := .pointer (some ⟨B, 0, none⟩)) 5 ?_ ?_ ?_ l5 ?_; (· rfl); go_simp; (· kernel_rfl)) | (with_reducible refine wpList_here ?_; refine wpList_store_row rfl 34 (.tmp 2) (.tmp 38) rfl w.heap.size ((SV.first L F).takeKey L F (rs2 L)).cells rfl rfl 34 _ HZ9.out (by kernel_rfl) (by rw [SV.size]; kernel_rfl) (SV.all _) ?_))
            exact bodyPost_ret (v := .tuple #[.agg ((SV.first L F).takeKey L F (rs2 L)).cells, .int .i64 0]) (results_row2 rfl _ _ w.heap.size 34 _ (0, 0) rfl (setRow_heap _ _ _ _ _ _ HZ9.out) (by kernel_rfl) (by rw [SV.size]; kernel_rfl) rfl) rfl (took_yes (a := none) (c := 0) HTK.out HCC.out.symm HMB.out.symm (OwnN.nil _ _ _) (grown_setRow_new HGR.out _ _ (Or.inl (Nat.le_refl _))))
        · have hz2 : (cc == 0) = false := beq_eq_false_iff_ne.2 hz
          go_wp2_with fail
          go_at_call 23
          refine HE.out.mono ?_
          rintro e w10 ⟨rfl, rfl⟩
          clear HE HM l4
          go_wp2_with (first | (with_reducible refine wpList_here ?_; refine wpList_store_row rfl 34 (.tmp 2) (.tmp 37) rfl w.heap.size SV.zero.cells rfl (by kernel_rfl) 34 _ HZ9.out (by kernel_rfl) (by kernel_rfl) (SV.all _) ?_))
          exact bodyPost_ret (v := .tuple #[.agg SV.zero.cells, .int .i64 9]) (results_row2 rfl _ _ w.heap.size 34 _ (0, 0) rfl (setRow_heap _ _ _ _ _ _ HZ9.out) (by kernel_rfl) (by kernel_rfl) rfl) rfl (took_no HTK.out (fun h => hz (HCC.out.trans h.1)) (grown_setRow_new HGR.out _ _ (Or.inl (Nat.le_refl _))))
    have hk2 := hk
    clear hk
    by_cases hk : rk L F = 3
    · as_aux_lemma =>
        have htk : SV.takes L F = SV.fin L ((rs2 L).dataS L F) ((SV.first L F).takeCand L F (rs2 L) none 0) := by
          unfold SV.takes
          rw [if_neg (by omega)]; rw [if_neg (by omega)]; rw [if_pos hk]
        have HTK := Lib.hid htk
        have hck : wc.cell? ⟨B, 0, none⟩ = some (.int .u8 3) := hcut.sig.cells.k.trans (by rw [show (SV.first L F).k = 3 from hk]; rfl)
        have HP := Lib.hid (partOf_candidate B wc hck)
        have HU := Lib.hid hcut
        clear hcut hck htk hk
        go_wp2_with fail
        go_at_call 15
        refine HP.out.mono ?_
        rintro e w7 ⟨b, rfl, hlt, hbx, hg7⟩
        have hT7 := HU.out.boxed hbx hg7 hlt
        have hlt7 := hbx.lt
        have hpb := heap_alloc_new w7 (.cells #[.nilFunc, .nilFunc, .nilFunc, .nilFunc] 49)
        have hp8 := PartAt.new w7 (candC b)
        have hT8 := hT7.grown (grown_part w7 (candC b))
        clear hT7 hg7 HP HU hbx hlt hlt7
        go_upto_region 5 with (first | (with_reducible refine wpList_here ?_; refine wpList_store_row rfl 49 (.tmp 6) (.tmp 20) rfl w7.heap.size (candC b) rfl rfl 49 #[.nilFunc, .nilFunc, .nilFunc, .nilFunc] hpb (by kernel_rfl) rfl (by simp [candC, clo, Value.oneCell']) ?_))
        clear hpb
        generalize (w7.alloc (.cells #[.nilFunc, .nilFunc, .nilFunc, .nilFunc] 49)).setRow w7.heap.size (candC b) = w8 at *
        generalize w7.heap.size = pb at *
        have ct : w8.cell? ⟨pb, 2, none⟩ = some (.func (.func 52) #[] #[.pointer (some ⟨b, 0, none⟩)]) := hp8.cell 2
        have HT := Lib.hid (takeCand_any w1 w8 b B p L F (rs2 L) (SV.first L F) hT8 HF.out HL.out)
        clear hT8 hp8
        go_wp2_with fail
        go_at_call 52
        refine HT.out.mono ?_
        rintro e w9 ⟨rfl, ad, cd, hT9, hO9⟩
        have HO9 := Lib.hid hO9
        replace hT9 : TSt w1 w9 b B p L F ((rs2 L).dataS L F) (((SV.first L F).takeCand L F (rs2 L) none 0).withData ad cd) := hT9
        have HE := Lib.hid (inEnd_any hT9.inn)
        have HZ9 := Lib.hid ((hT9.gr.block w.heap.size (by have := HZ0.out; omega) (by simp)).trans HB0.out)
        have HGR := Lib.hid (grown_trans HG0.out hT9.gr)
        have HB9 := Lib.hid hT9.hB
        obtain ⟨_, _, _, l4⟩ := hT9.sig.loads
        have HM := Lib.hid (sgMay_any (((SV.first L F).takeCand L F (rs2 L) none 0).withData ad cd) w9)
        have hsl := hT9.sig.lt
        have HSG := Lib.hid hT9.sig
        clear hT9 ct HT hsl hO9
        obtain ⟨cc, hcc⟩ : ∃ cc, cc = ((rs2 L).dataS L F).code L := ⟨_, rfl⟩
        rw [← hcc] at HE
        have HCC := Lib.hid hcc
        clear hcc
        obtain ⟨mb, hmb⟩ : ∃ mb, mb = (((SV.first L F).takeCand L F (rs2 L) none 0).withData ad cd).mayC := ⟨_, rfl⟩
        rw [← hmb] at HM
        have HMB := Lib.hid hmb
        clear hmb
        by_cases hz : cc = 0
        · subst hz
          go_wp2_with fail
          go_at_call 23
          refine HE.out.mono ?_
          rintro e w10 ⟨rfl, rfl⟩
          cases mb with
          | false =>
            go_wp2_with (first | (with_reducible refine wpList_here ?_; refine wpList_ld (p := .pointer (some ⟨B, 0, none⟩)) 5 ?_ ?_ ?_ l4 ?_; (· rfl); go_simp; (· kernel_rfl)))
            go_at_call 11
            refine HM.out.mono ?_
            rintro e w11 ⟨rfl, g11⟩
            replace HZ9 := Lib.hid ((g11.block w.heap.size (by have h1 := World.block_lt_of_cell? _ _ (cell_of_row _ _ 0 _ _ _ HZ9.out); exact h1) (by simp)).trans HZ9.out)
            replace HGR := Lib.hid (grown_trans HGR.out g11)
            clear g11 HM l4 HE
            go_wp2_with (first | (with_reducible refine wpList_here ?_; refine wpList_store_row rfl 34 (.tmp 2) (.tmp 37) rfl w.heap.size SV.zero.cells rfl (by kernel_rfl) 34 _ HZ9.out (by kernel_rfl) (by kernel_rfl) (SV.all _) ?_))
            exact bodyPost_ret (v := .tuple #[.agg SV.zero.cells, .int .i64 9]) (results_row2 rfl _ _ w.heap.size 34 _ (0, 0) rfl (setRow_heap _ _ _ _ _ _ HZ9.out) (by kernel_rfl) (by kernel_rfl) rfl) rfl (took_no HTK.out (fun h => Bool.noConfusion (HMB.out.trans ((mayC_withData _ ad cd).trans h.2))) (grown_setRow_new HGR.out _ _ (Or.inl (Nat.le_refl _))))
          | true =>
            go_wp2_with (first | (with_reducible refine wpList_here ?_; refine wpList_ld (p := .pointer (some ⟨B, 0, none⟩)) 5 ?_ ?_ ?_ l4 ?_; (· rfl); go_simp; (· kernel_rfl)))
            go_at_call 11
            refine HM.out.mono ?_
            rintro e w11 ⟨rfl, g11⟩
            have l5 := (HSG.out.grown g11 (by simp)).loads.all
            have HO11 := Lib.hid (HO9.out.grown g11)
            replace HZ9 := Lib.hid ((g11.block w.heap.size (by have h1 := World.block_lt_of_cell? _ _ (cell_of_row _ _ 0 _ _ _ HZ9.out); exact h1) (by simp)).trans HZ9.out)
            replace HGR := Lib.hid (grown_trans HGR.out g11)
            clear g11 HM l4 HE
            go_wp2_with (first | (with_reducible refine wpList_here ?_; refine wpList_ld (p := .pointer (some ⟨B, 0, none⟩)) 5 ?_ ?_ ?_ l5 ?_; (· rfl); go_simp; (· kernel_rfl)) | (with_reducible refine wpList_here ?_; refine wpList_store_row rfl 34 (.tmp 2) (.tmp 38) rfl w.heap.size (((SV.first L F).takeCand L F (rs2 L) none 0).withData ad cd).cells rfl rfl 34 _ HZ9.out (by kernel_rfl) (by rw [SV.size]; kernel_rfl) (SV.all _) ?_))
            exact bodyPost_ret (v := .tuple #[.agg (((SV.first L F).takeCand L F (rs2 L) none 0).withData ad cd).cells, .int .i64 0]) (results_row2 rfl _ _ w.heap.size 34 _ (0, 0) rfl (setRow_heap _ _ _ _ _ _ HZ9.out) (by kernel_rfl) (by rw [SV.size]; kernel_rfl) rfl) rfl (took_yes (a := ad) (c := cd) HTK.out HCC.out.symm (by rw [← mayC_withData _ ad cd]; exact HMB.out.symm) ((HO11.out.setOld (grown_setRow_new (grown_refl _ (some w.heap.size)) _ _ (Or.inr rfl)) (by have := HB9.out; have := HZ0.out; omega)).base (by have := HB9.out; have := HZ0.out; omega)) (grown_setRow_new HGR.out _ _ (Or.inl (Nat.le_refl _))))
        · have hz2 : (cc == 0) = false := beq_eq_false_iff_ne.2 hz
          go_wp2_with fail
          go_at_call 23
          refine HE.out.mono ?_
          rintro e w10 ⟨rfl, rfl⟩
          clear HE HM l4
          go_wp2_with (first | (with_reducible refine wpList_here ?_; refine wpList_store_row rfl 34 (.tmp 2) (.tmp 37) rfl w.heap.size SV.zero.cells rfl (by kernel_rfl) 34 _ HZ9.out (by kernel_rfl) (by kernel_rfl) (SV.all _) ?_))
          exact bodyPost_ret (v := .tuple #[.agg SV.zero.cells, .int .i64 9]) (results_row2 rfl _ _ w.heap.size 34 _ (0, 0) rfl (setRow_heap _ _ _ _ _ _ HZ9.out) (by kernel_rfl) (by kernel_rfl) rfl) rfl (took_no HTK.out (fun h => hz (HCC.out.trans h.1)) (grown_setRow_new HGR.out _ _ (Or.inl (Nat.le_refl _))))
    have hk3 := hk
    clear hk
    by_cases hk : rk L F = 5
    · as_aux_lemma =>
        have htk : SV.takes L F = SV.fin L ((rs2 L).take L 1) ((SV.first L F).takeHang L F (rs2 L)) := by
          unfold SV.takes
          rw [if_neg (by omega)]; rw [if_neg (by omega)]; rw [if_neg (by omega)]; rw [if_pos hk]
        have HTK := Lib.hid htk
        have hck : wc.cell? ⟨B, 0, none⟩ = some (.int .u8 5) := hcut.sig.cells.k.trans (by rw [show (SV.first L F).k = 5 from hk]; rfl)
        have HP := Lib.hid (partOf_hangup B wc hck)
        have HU := Lib.hid hcut
        clear hcut hck htk hk
        go_wp2_with fail
        go_at_call 15
        refine HP.out.mono ?_
        rintro e w7 ⟨b, rfl, hlt, hbx, hg7⟩
        have hT7 := HU.out.boxed hbx hg7 hlt
        have hlt7 := hbx.lt
        have hpb := heap_alloc_new w7 (.cells #[.nilFunc, .nilFunc, .nilFunc, .nilFunc] 49)
        have hp8 := PartAt.new w7 (hangC b)
        have hT8 := hT7.grown (grown_part w7 (hangC b))
        clear hT7 hg7 HP HU hbx hlt hlt7
        go_upto_region 5 with (first | (with_reducible refine wpList_here ?_; refine wpList_store_row rfl 49 (.tmp 6) (.tmp 20) rfl w7.heap.size (hangC b) rfl rfl 49 #[.nilFunc, .nilFunc, .nilFunc, .nilFunc] hpb (by kernel_rfl) rfl (by simp [hangC, clo, Value.oneCell']) ?_))
        clear hpb
        generalize (w7.alloc (.cells #[.nilFunc, .nilFunc, .nilFunc, .nilFunc] 49)).setRow w7.heap.size (hangC b) = w8 at *
        generalize w7.heap.size = pb at *
        have ct : w8.cell? ⟨pb, 2, none⟩ = some (.func (.func 58) #[] #[.pointer (some ⟨b, 0, none⟩)]) := hp8.cell 2
        have HT := Lib.hid (takeHang_any w1 w8 b B p L F (rs2 L) (SV.first L F) hT8 HF.out)
        clear hT8 hp8
        go_wp2_with fail
        go_at_call 58
        refine HT.out.mono ?_
        rintro e w9 ⟨rfl, hT9⟩
        have HE := Lib.hid (inEnd_any hT9.inn)
        have HZ9 := Lib.hid ((hT9.gr.block w.heap.size (by have := HZ0.out; omega) (by simp)).trans HB0.out)
        have HGR := Lib.hid (grown_trans HG0.out hT9.gr)
        have HB9 := Lib.hid hT9.hB
        obtain ⟨_, _, _, l4⟩ := hT9.sig.loads
        have HM := Lib.hid (sgMay_any ((SV.first L F).takeHang L F (rs2 L)) w9)
        have hsl := hT9.sig.lt
        have HSG := Lib.hid hT9.sig
        clear hT9 ct HT hsl 
        obtain ⟨cc, hcc⟩ : ∃ cc, cc = ((rs2 L).take L 1).code L := ⟨_, rfl⟩
        rw [← hcc] at HE
        have HCC := Lib.hid hcc
        clear hcc
        obtain ⟨mb, hmb⟩ : ∃ mb, mb = ((SV.first L F).takeHang L F (rs2 L)).mayC := ⟨_, rfl⟩
        rw [← hmb] at HM
        have HMB := Lib.hid hmb
        clear hmb
        by_cases hz : cc = 0
        · subst hz
          go_wp2_with fail
          go_at_call 23
          refine HE.out.mono ?_
          rintro e w10 ⟨rfl, rfl⟩
          cases mb with
          | false =>
            go_wp2_with (first | (with_reducible refine wpList_here ?_; refine wpList_ld (p := .pointer (some ⟨B, 0, none⟩)) 5 ?_ ?_ ?_ l4 ?_; (· rfl); go_simp; (· kernel_rfl)))
            go_at_call 11
            refine HM.out.mono ?_
            rintro e w11 ⟨rfl, g11⟩
            replace HZ9 := Lib.hid ((g11.block w.heap.size (by have h1 := World.block_lt_of_cell? _ _ (cell_of_row _ _ 0 _ _ _ HZ9.out); exact h1) (by simp)).trans HZ9.out)
            replace HGR := Lib.hid (grown_trans HGR.out g11)
            clear g11 HM l4 HE
            go_wp2_with (first | (with_reducible refine wpList_here ?_; refine wpList_store_row rfl 34 (.tmp 2) (.tmp 37) rfl w.heap.size SV.zero.cells rfl (by kernel_rfl) 34 _ HZ9.out (by kernel_rfl) (by kernel_rfl) (SV.all _) ?_))
            exact bodyPost_ret (v := .tuple #[.agg SV.zero.cells, .int .i64 9]) (results_row2 rfl _ _ w.heap.size 34 _ (0, 0) rfl (setRow_heap _ _ _ _ _ _ HZ9.out) (by kernel_rfl) (by kernel_rfl) rfl) rfl (took_no HTK.out (fun h => Bool.noConfusion (HMB.out.trans h.2)) (grown_setRow_new HGR.out _ _ (Or.inl (Nat.le_refl _))))
          | true =>
            go_wp2_with (first | (with_reducible refine wpList_here ?_; refine wpList_ld (p := .pointer (some ⟨B, 0, none⟩)) 5 ?_ ?_ ?_ l4 ?_; (· rfl); go_simp; (· kernel_rfl)))
            go_at_call 11
            refine HM.out.mono ?_
            rintro e w11 ⟨rfl, g11⟩
            have l5 := (HSG.out.grown g11 (by simp)).loads.all
            replace HZ9 := Lib.hid ((g11.block w.heap.size (by have h1 := World.block_lt_of_cell? _ _ (cell_of_row _ _ 0 _ _ _ HZ9.out); exact h1) (by simp)).trans HZ9.out)
            replace HGR := Lib.hid (grown_trans HGR.out g11)
            clear g11 HM l4 HE
            go_wp2_with (first | (with_reducible refine wpList_here ?_; refine wpList_ld (p := .pointer (some ⟨B, 0, none⟩)) 5 ?_ ?_ ?_ l5 ?_; (· rfl); go_simp; (· kernel_rfl)) | (with_reducible refine wpList_here ?_; refine wpList_store_row rfl 34 (.tmp 2) (.tmp 38) rfl w.heap.size ((SV.first L F).takeHang L F (rs2 L)).cells rfl rfl 34 _ HZ9.out (by kernel_rfl) (by rw [SV.size]; kernel_rfl) (SV.all _) ?_))
            exact bodyPost_ret (v := .tuple #[.agg ((SV.first L F).takeHang L F (rs2 L)).cells, .int .i64 0]) (results_row2 rfl _ _ w.heap.size 34 _ (0, 0) rfl (setRow_heap _ _ _ _ _ _ HZ9.out) (by kernel_rfl) (by rw [SV.size]; kernel_rfl) rfl) rfl (took_yes (a := none) (c := 0) HTK.out HCC.out.symm HMB.out.symm (OwnN.nil _ _ _) (grown_setRow_new HGR.out _ _ (Or.inl (Nat.le_refl _))))
        · have hz2 : (cc == 0) = false := beq_eq_false_iff_ne.2 hz
          go_wp2_with fail
          go_at_call 23
          refine HE.out.mono ?_
          rintro e w10 ⟨rfl, rfl⟩
          clear HE HM l4
          go_wp2_with (first | (with_reducible refine wpList_here ?_; refine wpList_store_row rfl 34 (.tmp 2) (.tmp 37) rfl w.heap.size SV.zero.cells rfl (by kernel_rfl) 34 _ HZ9.out (by kernel_rfl) (by kernel_rfl) (SV.all _) ?_))
          exact bodyPost_ret (v := .tuple #[.agg SV.zero.cells, .int .i64 9]) (results_row2 rfl _ _ w.heap.size 34 _ (0, 0) rfl (setRow_heap _ _ _ _ _ _ HZ9.out) (by kernel_rfl) (by kernel_rfl) rfl) rfl (took_no HTK.out (fun h => hz (HCC.out.trans h.1)) (grown_setRow_new HGR.out _ _ (Or.inl (Nat.le_refl _))))
    have hk5 := hk
    clear hk
    by_cases hk : rk L F = 4
    · as_aux_lemma =>
        have htk : SV.takes L F = SV.fin L (rs2 L) (SV.first L F) := by
          unfold SV.takes
          rw [if_neg (by omega)]; rw [if_neg (by omega)]; rw [if_neg (by omega)]; rw [if_neg (by omega)]; rw [if_pos (by omega)]
        have HTK := Lib.hid htk
        have hck : wc.cell? ⟨B, 0, none⟩ = some (.int .u8 4) := hcut.sig.cells.k.trans (by rw [show (SV.first L F).k = 4 from hk]; rfl)
        have HP := Lib.hid (partOf_nothing4 B wc hck)
        have HU := Lib.hid hcut
        clear hcut hck htk hk
        go_wp2_with fail
        go_at_call 15
        refine HP.out.mono ?_
        rintro e w7 ⟨rfl, hg7⟩
        have hT7 := HU.out.grown hg7
        have hpb := heap_alloc_new w7 (.cells #[.nilFunc, .nilFunc, .nilFunc, .nilFunc] 49)
        have hp8 := PartAt.new w7 (nothC)
        have hT8 := hT7.grown (grown_part w7 (nothC))
        clear hT7 hg7 HP HU 
        go_upto_region 5 with (first | (with_reducible refine wpList_here ?_; refine wpList_store_row rfl 49 (.tmp 6) (.tmp 20) rfl w7.heap.size (nothC) rfl rfl 49 #[.nilFunc, .nilFunc, .nilFunc, .nilFunc] hpb (by kernel_rfl) rfl (by simp [nothC, bare, Value.oneCell']) ?_))
        clear hpb
        generalize (w7.alloc (.cells #[.nilFunc, .nilFunc, .nilFunc, .nilFunc] 49)).setRow w7.heap.size (nothC) = w8 at *
        generalize w7.heap.size = pb at *
        have ct : w8.cell? ⟨pb, 2, none⟩ = some (.func (.func 62) #[] #[]) := hp8.cell 2
        have HT := Lib.hid (takeNothing_any p w8)
        have HT8 := Lib.hid hT8
        clear hT8 hp8
        go_wp2_with fail
        go_at_call 62
        refine HT.out.mono ?_
        rintro e w9 ⟨rfl, rfl⟩
        have hT9 := HT8.out
        have HE := Lib.hid (inEnd_any hT9.inn)
        have HZ9 := Lib.hid ((hT9.gr.block w.heap.size (by have := HZ0.out; omega) (by simp)).trans HB0.out)
        have HGR := Lib.hid (grown_trans HG0.out hT9.gr)
        have HB9 := Lib.hid hT9.hB
        obtain ⟨_, _, _, l4⟩ := hT9.sig.loads
        have HM := Lib.hid (sgMay_any (SV.first L F) w8)
        have hsl := hT9.sig.lt
        have HSG := Lib.hid hT9.sig
        clear hT9 ct HT hsl 
        obtain ⟨cc, hcc⟩ : ∃ cc, cc = (rs2 L).code L := ⟨_, rfl⟩
        rw [← hcc] at HE
        have HCC := Lib.hid hcc
        clear hcc
        obtain ⟨mb, hmb⟩ : ∃ mb, mb = (SV.first L F).mayC := ⟨_, rfl⟩
        rw [← hmb] at HM
        have HMB := Lib.hid hmb
        clear hmb
        by_cases hz : cc = 0
        · subst hz
          go_wp2_with fail
          go_at_call 23
          refine HE.out.mono ?_
          rintro e w10 ⟨rfl, rfl⟩
          cases mb with
          | false =>
            go_wp2_with (first | (with_reducible refine wpList_here ?_; refine wpList_ld (p := .pointer (some ⟨B, 0, none⟩)) 5 ?_ ?_ ?_ l4 ?_; (· rfl); go_simp; (· kernel_rfl)))
            go_at_call 11
            refine HM.out.mono ?_
            rintro e w11 ⟨rfl, g11⟩
            replace HZ9 := Lib.hid ((g11.block w.heap.size (by have h1 := World.block_lt_of_cell? _ _ (cell_of_row _ _ 0 _ _ _ HZ9.out); exact h1) (by simp)).trans HZ9.out)
            replace HGR := Lib.hid (grown_trans HGR.out g11)
            clear g11 HM l4 HE
            go_wp2_with (first | (with_reducible refine wpList_here ?_; refine wpList_store_row rfl 34 (.tmp 2) (.tmp 37) rfl w.heap.size SV.zero.cells rfl (by kernel_rfl) 34 _ HZ9.out (by kernel_rfl) (by kernel_rfl) (SV.all _) ?_))
            exact bodyPost_ret (v := .tuple #[.agg SV.zero.cells, .int .i64 9]) (results_row2 rfl _ _ w.heap.size 34 _ (0, 0) rfl (setRow_heap _ _ _ _ _ _ HZ9.out) (by kernel_rfl) (by kernel_rfl) rfl) rfl (took_no HTK.out (fun h => Bool.noConfusion (HMB.out.trans h.2)) (grown_setRow_new HGR.out _ _ (Or.inl (Nat.le_refl _))))
          | true =>
            go_wp2_with (first | (with_reducible refine wpList_here ?_; refine wpList_ld (p := .pointer (some ⟨B, 0, none⟩)) 5 ?_ ?_ ?_ l4 ?_; (· rfl); go_simp; (· kernel_rfl)))
            go_at_call 11
            refine HM.out.mono ?_
            rintro e w11 ⟨rfl, g11⟩
            have l5 := (HSG.out.grown g11 (by simp)).loads.all
            replace HZ9 := Lib.hid ((g11.block w.heap.size (by have h1 := World.block_lt_of_cell? _ _ (cell_of_row _ _ 0 _ _ _ HZ9.out); exact h1) (by simp)).trans HZ9.out)
            replace HGR := Lib.hid (grown_trans HGR.out g11)
            clear g11 HM l4 HE
            go_wp2_with (first | (with_reducible refine wpList_here ?_; refine wpList_ld (p := .pointer (some ⟨B, 0, none⟩)) 5 ?_ ?_ ?_ l5 ?_; (· rfl); go_simp; (· kernel_rfl)) | (with_reducible refine wpList_here ?_; refine wpList_store_row rfl 34 (.tmp 2) (.tmp 38) rfl w.heap.size (SV.first L F).cells rfl rfl 34 _ HZ9.out (by kernel_rfl) (by rw [SV.size]; kernel_rfl) (SV.all _) ?_))
            exact bodyPost_ret (v := .tuple #[.agg (SV.first L F).cells, .int .i64 0]) (results_row2 rfl _ _ w.heap.size 34 _ (0, 0) rfl (setRow_heap _ _ _ _ _ _ HZ9.out) (by kernel_rfl) (by rw [SV.size]; kernel_rfl) rfl) rfl (took_yes (a := none) (c := 0) HTK.out HCC.out.symm HMB.out.symm (OwnN.nil _ _ _) (grown_setRow_new HGR.out _ _ (Or.inl (Nat.le_refl _))))
        · have hz2 : (cc == 0) = false := beq_eq_false_iff_ne.2 hz
          go_wp2_with fail
          go_at_call 23
          refine HE.out.mono ?_
          rintro e w10 ⟨rfl, rfl⟩
          clear HE HM l4
          go_wp2_with (first | (with_reducible refine wpList_here ?_; refine wpList_store_row rfl 34 (.tmp 2) (.tmp 37) rfl w.heap.size SV.zero.cells rfl (by kernel_rfl) 34 _ HZ9.out (by kernel_rfl) (by kernel_rfl) (SV.all _) ?_))
          exact bodyPost_ret (v := .tuple #[.agg SV.zero.cells, .int .i64 9]) (results_row2 rfl _ _ w.heap.size 34 _ (0, 0) rfl (setRow_heap _ _ _ _ _ _ HZ9.out) (by kernel_rfl) (by kernel_rfl) rfl) rfl (took_no HTK.out (fun h => hz (HCC.out.trans h.1)) (grown_setRow_new HGR.out _ _ (Or.inl (Nat.le_refl _))))
    have hk4 := hk
    clear hk
    by_cases hk : rk L F = 6
    · as_aux_lemma =>
        have htk : SV.takes L F = SV.fin L (rs2 L) (SV.first L F) := by
          unfold SV.takes
          rw [if_neg (by omega)]; rw [if_neg (by omega)]; rw [if_neg (by omega)]; rw [if_neg (by omega)]; rw [if_pos (by omega)]
        have HTK := Lib.hid htk
        have hck : wc.cell? ⟨B, 0, none⟩ = some (.int .u8 6) := hcut.sig.cells.k.trans (by rw [show (SV.first L F).k = 6 from hk]; rfl)
        have HP := Lib.hid (partOf_nothing6 B wc hck)
        have HU := Lib.hid hcut
        clear hcut hck htk hk
        go_wp2_with fail
        go_at_call 15
        refine HP.out.mono ?_
        rintro e w7 ⟨rfl, hg7⟩
        have hT7 := HU.out.grown hg7
        have hpb := heap_alloc_new w7 (.cells #[.nilFunc, .nilFunc, .nilFunc, .nilFunc] 49)
        have hp8 := PartAt.new w7 (nothC)
        have hT8 := hT7.grown (grown_part w7 (nothC))
        clear hT7 hg7 HP HU 
        go_upto_region 5 with (first | (with_reducible refine wpList_here ?_; refine wpList_store_row rfl 49 (.tmp 6) (.tmp 20) rfl w7.heap.size (nothC) rfl rfl 49 #[.nilFunc, .nilFunc, .nilFunc, .nilFunc] hpb (by kernel_rfl) rfl (by simp [nothC, bare, Value.oneCell']) ?_))
        clear hpb
        generalize (w7.alloc (.cells #[.nilFunc, .nilFunc, .nilFunc, .nilFunc] 49)).setRow w7.heap.size (nothC) = w8 at *
        generalize w7.heap.size = pb at *
        have ct : w8.cell? ⟨pb, 2, none⟩ = some (.func (.func 62) #[] #[]) := hp8.cell 2
        have HT := Lib.hid (takeNothing_any p w8)
        have HT8 := Lib.hid hT8
        clear hT8 hp8
        go_wp2_with fail
        go_at_call 62
        refine HT.out.mono ?_
        rintro e w9 ⟨rfl, rfl⟩
        have hT9 := HT8.out
        have HE := Lib.hid (inEnd_any hT9.inn)
        have HZ9 := Lib.hid ((hT9.gr.block w.heap.size (by have := HZ0.out; omega) (by simp)).trans HB0.out)
        have HGR := Lib.hid (grown_trans HG0.out hT9.gr)
        have HB9 := Lib.hid hT9.hB
        obtain ⟨_, _, _, l4⟩ := hT9.sig.loads
        have HM := Lib.hid (sgMay_any (SV.first L F) w8)
        have hsl := hT9.sig.lt
        have HSG := Lib.hid hT9.sig
        clear hT9 ct HT hsl 
        obtain ⟨cc, hcc⟩ : ∃ cc, cc = (rs2 L).code L := ⟨_, rfl⟩
        rw [← hcc] at HE
        have HCC := Lib.hid hcc
        clear hcc
        obtain ⟨mb, hmb⟩ : ∃ mb, mb = (SV.first L F).mayC := ⟨_, rfl⟩
        rw [← hmb] at HM
        have HMB := Lib.hid hmb
        clear hmb
        by_cases hz : cc = 0
        · subst hz
          go_wp2_with fail
          go_at_call 23
          refine HE.out.mono ?_
          rintro e w10 ⟨rfl, rfl⟩
          cases mb with
          | false =>
            go_wp2_with (first | (with_reducible refine wpList_here ?_; refine wpList_ld (p := .pointer (some ⟨B, 0, none⟩)) 5 ?_ ?_ ?_ l4 ?_; (· rfl); go_simp; (· kernel_rfl)))
            go_at_call 11
            refine HM.out.mono ?_
            rintro e w11 ⟨rfl, g11⟩
            replace HZ9 := Lib.hid ((g11.block w.heap.size (by have h1 := World.block_lt_of_cell? _ _ (cell_of_row _ _ 0 _ _ _ HZ9.out); exact h1) (by simp)).trans HZ9.out)
            replace HGR := Lib.hid (grown_trans HGR.out g11)
            clear g11 HM l4 HE
            go_wp2_with (first | (with_reducible refine wpList_here ?_; refine wpList_store_row rfl 34 (.tmp 2) (.tmp 37) rfl w.heap.size SV.zero.cells rfl (by kernel_rfl) 34 _ HZ9.out (by kernel_rfl) (by kernel_rfl) (SV.all _) ?_))
            exact bodyPost_ret (v := .tuple #[.agg SV.zero.cells, .int .i64 9]) (results_row2 rfl _ _ w.heap.size 34 _ (0, 0) rfl (setRow_heap _ _ _ _ _ _ HZ9.out) (by kernel_rfl) (by kernel_rfl) rfl) rfl (took_no HTK.out (fun h => Bool.noConfusion (HMB.out.trans h.2)) (grown_setRow_new HGR.out _ _ (Or.inl (Nat.le_refl _))))
          | true =>
            go_wp2_with (first | (with_reducible refine wpList_here ?_; refine wpList_ld (p := .pointer (some ⟨B, 0, none⟩)) 5 ?_ ?_ ?_ l4 ?_; (· rfl); go_simp; (· kernel_rfl)))
            go_at_call 11
            refine HM.out.mono ?_
            rintro e w11 ⟨rfl, g11⟩
            have l5 := (HSG.out.grown g11 (by simp)).loads.all
            replace HZ9 := Lib.hid ((g11.block w.heap.size (by have h1 := World.block_lt_of_cell? _ _ (cell_of_row _ _ 0 _ _ _ HZ9.out); exact h1) (by simp)).trans HZ9.out)
            replace HGR := Lib.hid (grown_trans HGR.out g11)
            clear g11 HM l4 HE
            go_wp2_with (first | (with_reducible refine wpList_here ?_; refine wpList_ld (p := .pointer (some ⟨B, 0, none⟩)) 5 ?_ ?_ ?_ l5 ?_; (· rfl); go_simp; (· kernel_rfl)) | (with_reducible refine wpList_here ?_; refine wpList_store_row rfl 34 (.tmp 2) (.tmp 38) rfl w.heap.size (SV.first L F).cells rfl rfl 34 _ HZ9.out (by kernel_rfl) (by rw [SV.size]; kernel_rfl) (SV.all _) ?_))
            exact bodyPost_ret (v := .tuple #[.agg (SV.first L F).cells, .int .i64 0]) (results_row2 rfl _ _ w.heap.size 34 _ (0, 0) rfl (setRow_heap _ _ _ _ _ _ HZ9.out) (by kernel_rfl) (by rw [SV.size]; kernel_rfl) rfl) rfl (took_yes (a := none) (c := 0) HTK.out HCC.out.symm HMB.out.symm (OwnN.nil _ _ _) (grown_setRow_new HGR.out _ _ (Or.inl (Nat.le_refl _))))
        · have hz2 : (cc == 0) = false := beq_eq_false_iff_ne.2 hz
          go_wp2_with fail
          go_at_call 23
          refine HE.out.mono ?_
          rintro e w10 ⟨rfl, rfl⟩
          clear HE HM l4
          go_wp2_with (first | (with_reducible refine wpList_here ?_; refine wpList_store_row rfl 34 (.tmp 2) (.tmp 37) rfl w.heap.size SV.zero.cells rfl (by kernel_rfl) 34 _ HZ9.out (by kernel_rfl) (by kernel_rfl) (SV.all _) ?_))
          exact bodyPost_ret (v := .tuple #[.agg SV.zero.cells, .int .i64 9]) (results_row2 rfl _ _ w.heap.size 34 _ (0, 0) rfl (setRow_heap _ _ _ _ _ _ HZ9.out) (by kernel_rfl) (by kernel_rfl) rfl) rfl (took_no HTK.out (fun h => hz (HCC.out.trans h.1)) (grown_setRow_new HGR.out _ _ (Or.inl (Nat.le_refl _))))
    have hk6 := hk
    clear hk
    have htk : SV.takes L F = none := by
      unfold SV.takes
      rw [if_neg hk1, if_neg hk2, if_neg hk3, if_neg hk5, if_neg (by omega)]
    have HTK := Lib.hid htk
    have HP := Lib.hid (partOf_none B (rk L F) wc hcut.sig.cells.k (by omega))
    have HU := Lib.hid hcut
    clear hcut htk hk1 hk2 hk3 hk4 hk5 hk6
    go_wp2_with fail
    go_at_call 15
    refine HP.out.mono ?_
    rintro e w7 ⟨rfl, hg7⟩
    have hpb := heap_alloc_new w7 (.cells #[.nilFunc, .nilFunc, .nilFunc, .nilFunc] 49)
    have g8 := grown_part w7 #[.nilFunc, .nilFunc, .nilFunc, .nilFunc]
    have hT9 := (HU.out.grown hg7).grown g8
    have HZ9 := Lib.hid ((hT9.gr.block w.heap.size (by have := HZ0.out; omega) (by simp)).trans HB0.out)
    have HGR := Lib.hid (grown_trans HG0.out hT9.gr)
    clear hT9 g8 hg7 HU HP
    go_wp2_with (first | (with_reducible refine wpList_here ?_; refine wpList_store_row rfl 49 (.tmp 6) (.tmp 20) rfl w7.heap.size #[.nilFunc, .nilFunc, .nilFunc, .nilFunc] rfl rfl 49 #[.nilFunc, .nilFunc, .nilFunc, .nilFunc] hpb (by kernel_rfl) rfl (by simp [Value.oneCell']) ?_) | (with_reducible refine wpList_here ?_; refine wpList_store_row rfl 34 (.tmp 2) (.tmp 24) rfl w.heap.size SV.zero.cells rfl (by kernel_rfl) 34 _ HZ9.out (by kernel_rfl) (by kernel_rfl) (SV.all _) ?_))
    exact bodyPost_ret (v := .tuple #[.agg SV.zero.cells, .int .i64 9]) (results_row2 rfl _ _ w.heap.size 34 _ (0, 0) rfl (setRow_heap _ _ _ _ _ _ HZ9.out) (by kernel_rfl) (by kernel_rfl) rfl) rfl (took_none HTK.out (grown_setRow_new HGR.out _ _ (Or.inl (Nat.le_refl _))))
end Go.Proofs.Ytpddgiflljlpbaa
namespace Go.Proofs.Ytpddgiflljlpbaa
open Go.RowKit

set_option maxRecDepth 100000
set_option maxHeartbeats 4000000

def SV.zeroV : SV := ⟨0, fun _ => 0, 0, 0, 0, fun _ => 0, 0, none, 0, 0, fun _ => 0, 0⟩
/-- Kind and id alone. -/
def SV.bareV (x : SV) : SV := { SV.zeroV with k := x.k, id := x.id }
def SV.keep1 (x : SV) : SV := { x.bareV with ac := x.ac, dv := x.dv, ce := x.ce, key := x.key }
def SV.keep2 (x : SV) : SV := { x.bareV with key := x.key }
def SV.keep3 (x : SV) : SV := { x.bareV with n := x.n, ad := x.ad, nd := x.nd, cd := x.cd, fd := x.fd }
def SV.keep5 (x : SV) : SV := { x.bareV with rs := x.rs }
theorem str_none (n : Nat) (f g : Nat → Nat) : decide (strOf n f = strOf 0 g) = ((n : Int) == 0) := by
  by_cases h : n = 0
  · subst h
    exact decide_eq_true (strOf_congr 0 f g (fun i hi => absurd hi (by omega)))
  · rw [show ((n : Int) == 0) = false from beq_eq_false_iff_ne.2 (by omega)]
    refine decide_eq_false fun e => h ?_
    have := congrArg ByteArray.size e
    rwa [strOf_size, strOf_size] at this
theorem int_beq_self (n : Nat) : ((n : Int) == (n : Int)) = true := beq_self_eq_true _
theorem same_keep1 (x : SV) : x.same x.keep1 = x.noOffer.nothing := by
  show (((x.k : Int) == (x.k : Int)) && eqN 16 x.id x.id && ((x.ac : Int) == (x.ac : Int) && (x.dv : Int) == (x.dv : Int)) && ((x.ce : Int) == (x.ce : Int)) && eqN 32 x.key x.key && ((x.n : Int) == 0) && decide (strOf x.nd x.fd = strOf 0 (fun _ => 0)) && ((x.rs : Int) == 0)) = (((0 : Int) == 0 && (0 : Int) == 0) && ((0 : Int) == 0) && eqN 32 (fun _ => 0) (fun _ => 0) && ((x.n : Int) == 0) && ((x.nd : Int) == 0) && ((x.rs : Int) == 0))
  rw [str_none, eqN_refl, eqN_refl, eqN_refl, int_beq_self, int_beq_self, int_beq_self, int_beq_self]
  simp
theorem same_keep2 (x : SV) : x.same x.keep2 = x.noKey.nothing := by
  show (((x.k : Int) == (x.k : Int)) && eqN 16 x.id x.id && ((x.ac : Int) == 0 && (x.dv : Int) == 0) && ((x.ce : Int) == 0) && eqN 32 x.key x.key && ((x.n : Int) == 0) && decide (strOf x.nd x.fd = strOf 0 (fun _ => 0)) && ((x.rs : Int) == 0)) = (((x.ac : Int) == 0 && (x.dv : Int) == 0) && ((x.ce : Int) == 0) && eqN 32 (fun _ => 0) (fun _ => 0) && ((x.n : Int) == 0) && ((x.nd : Int) == 0) && ((x.rs : Int) == 0))
  rw [str_none, eqN_refl, eqN_refl, eqN_refl, int_beq_self]
  simp
theorem same_keep3 (x : SV) : x.same x.keep3 = x.noCand.nothing := by
  show (((x.k : Int) == (x.k : Int)) && eqN 16 x.id x.id && ((x.ac : Int) == 0 && (x.dv : Int) == 0) && ((x.ce : Int) == 0) && eqN 32 x.key (fun _ => 0) && ((x.n : Int) == (x.n : Int)) && decide (strOf x.nd x.fd = strOf x.nd x.fd) && ((x.rs : Int) == 0)) = (((x.ac : Int) == 0 && (x.dv : Int) == 0) && ((x.ce : Int) == 0) && eqN 32 x.key (fun _ => 0) && ((0 : Int) == 0) && ((0 : Int) == 0) && ((x.rs : Int) == 0))
  rw [decide_eq_true (show strOf x.nd x.fd = strOf x.nd x.fd from rfl), eqN_refl, int_beq_self, int_beq_self]
  simp
theorem same_keep5 (x : SV) : x.same x.keep5 = x.noHang.nothing := by
  show (((x.k : Int) == (x.k : Int)) && eqN 16 x.id x.id && ((x.ac : Int) == 0 && (x.dv : Int) == 0) && ((x.ce : Int) == 0) && eqN 32 x.key (fun _ => 0) && ((x.n : Int) == 0) && decide (strOf x.nd x.fd = strOf 0 (fun _ => 0)) && ((x.rs : Int) == (x.rs : Int))) = (((x.ac : Int) == 0 && (x.dv : Int) == 0) && ((x.ce : Int) == 0) && eqN 32 x.key (fun _ => 0) && ((x.n : Int) == 0) && ((x.nd : Int) == 0) && ((0 : Int) == 0))
  rw [str_none, eqN_refl, int_beq_self, int_beq_self]
  simp
theorem same_bare (x : SV) : x.same x.bareV = x.nothing := by
  show (((x.k : Int) == (x.k : Int)) && eqN 16 x.id x.id && ((x.ac : Int) == 0 && (x.dv : Int) == 0) && ((x.ce : Int) == 0) && eqN 32 x.key (fun _ => 0) && ((x.n : Int) == 0) && decide (strOf x.nd x.fd = strOf 0 (fun _ => 0)) && ((x.rs : Int) == 0)) = (((x.ac : Int) == 0 && (x.dv : Int) == 0) && ((x.ce : Int) == 0) && eqN 32 x.key (fun _ => 0) && ((x.n : Int) == 0) && ((x.nd : Int) == 0) && ((x.rs : Int) == 0))
  rw [str_none, eqN_refl, int_beq_self]
  simp
theorem SV.Ok.bare {x : SV} (h : x.Ok) : x.bareV.Ok := ⟨h.k, h.id, Nat.succ_pos _, Nat.succ_pos _, Nat.succ_pos _, fun _ => Nat.succ_pos _, Nat.succ_pos _, fun _ => Nat.succ_pos _, Nat.succ_pos _⟩
theorem SV.Ok.keep1 {x : SV} (h : x.Ok) : x.keep1.Ok := ⟨h.k, h.id, h.ac, h.dv, h.ce, h.key, Nat.succ_pos _, fun _ => Nat.succ_pos _, Nat.succ_pos _⟩
theorem SV.Ok.keep2 {x : SV} (h : x.Ok) : x.keep2.Ok := ⟨h.k, h.id, Nat.succ_pos _, Nat.succ_pos _, Nat.succ_pos _, h.key, Nat.succ_pos _, fun _ => Nat.succ_pos _, Nat.succ_pos _⟩
theorem SV.Ok.keep3 {x : SV} (h : x.Ok) : x.keep3.Ok := ⟨h.k, h.id, Nat.succ_pos _, Nat.succ_pos _, Nat.succ_pos _, fun _ => Nat.succ_pos _, h.n, h.fd, Nat.succ_pos _⟩
theorem SV.Ok.keep5 {x : SV} (h : x.Ok) : x.keep5.Ok := ⟨h.k, h.id, Nat.succ_pos _, Nat.succ_pos _, Nat.succ_pos _, fun _ => Nat.succ_pos _, Nat.succ_pos _, fun _ => Nat.succ_pos _, h.rs⟩
theorem SV.allV (x : SV) : x.cells.all (·.oneCell') = true := by
  refine all_oneCell_toArray fun v hv => ?_
  simp only [List.mem_cons, List.mem_append, List.mem_map, List.mem_range, List.not_mem_nil, or_false] at hv
  rcases hv with rfl | ⟨i, _, rfl⟩ | rfl | rfl | rfl | ⟨i, _, rfl⟩ | rfl | rfl | rfl <;> rfl
theorem rd_none (w : World) (D : Nat) (f : Nat → Nat) : Rd w D none 0 f := ⟨fun h => absurd h (by omega)⟩
end Go.Proofs.Ytpddgiflljlpbaa
namespace Go.Proofs.Ytpddgiflljlpbaa
open Go.RowKit

set_option maxRecDepth 100000
set_option maxHeartbeats 4000000

/-- The signal, and what it keeps. -/
structure TwoSt (w0 w : World) (R S : Nat) (x y : SV) : Prop where
  one : SAt w R x
  two : SAt w S y
  ne : R ≠ S
  hS : w0.heap.size ≤ S
  gr : w0.grownBy w none
theorem TwoSt.put1 {w0 w : World} {R S : Nat} {x y : SV} (h : TwoSt w0 w R S x y) (o : Nat) (v : Value) (y' : SV) (e : y.cells.setIfInBounds o v = y'.cells) : TwoSt w0 (w.setCell ⟨S, o, none⟩ v) R S x y' :=
  ⟨h.one.grown (grown_setCell_new (grown_refl w (some S)) ⟨S, o, none⟩ v (Or.inr rfl)) (by have := h.ne; simp; omega), h.two.put1 o v y' e, h.ne, h.hS, grown_setCell_new h.gr ⟨S, o, none⟩ v (Or.inl h.hS)⟩
theorem TwoSt.set {w0 w : World} {R S : Nat} {x y : SV} (h : TwoSt w0 w R S x y) (o : Nat) (vs : List Value) (y' : SV) (e : putsA y.cells o vs = y'.cells) : TwoSt w0 (w.setCells S o vs) R S x y' :=
  ⟨h.one.grown (grown_setCells S (Or.inr rfl) vs o w (grown_refl w (some S))) (by have := h.ne; simp; omega), h.two.set o vs y' e, h.ne, h.hS, grown_setCells S (Or.inl h.hS) vs o w h.gr⟩
theorem TwoSt.start (w : World) (x : SV) : TwoSt w (((w.alloc (.cells x.cells 34)).alloc (.cells #[.int .u8 0, .int .u8 0, .int .u8 0, .int .u8 0, .int .u8 0, .int .u8 0, .int .u8 0, .int .u8 0, .int .u8 0, .int .u8 0, .int .u8 0, .int .u8 0, .int .u8 0, .int .u8 0, .int .u8 0, .int .u8 0, .int .u8 0, .int .u8 0, .int .u8 0, .int .u8 0, .int .u8 0, .int .u8 0, .int .u8 0, .int .u8 0, .int .u8 0, .int .u8 0, .int .u8 0, .int .u8 0, .int .u8 0, .int .u8 0, .int .u8 0, .int .u8 0, .int .u8 0, .int .u8 0, .int .u8 0, .int .u8 0, .int .u8 0, .int .u8 0, .int .u8 0, .int .u8 0, .int .u8 0, .int .u8 0, .int .u8 0, .int .u8 0, .int .u8 0, .int .u8 0, .int .u8 0, .int .u8 0, .int .u8 0, .int .u8 0, .int .u8 0, .int .u8 0, .int .u32 0, .slice none 0 0, .int .u8 0] 34)).setRow (w.heap.size + 1) x.bareV.cells) w.heap.size (w.heap.size + 1) x x.bareV := by
  have hb : ((w.alloc (.cells x.cells 34)).alloc (.cells #[.int .u8 0, .int .u8 0, .int .u8 0, .int .u8 0, .int .u8 0, .int .u8 0, .int .u8 0, .int .u8 0, .int .u8 0, .int .u8 0, .int .u8 0, .int .u8 0, .int .u8 0, .int .u8 0, .int .u8 0, .int .u8 0, .int .u8 0, .int .u8 0, .int .u8 0, .int .u8 0, .int .u8 0, .int .u8 0, .int .u8 0, .int .u8 0, .int .u8 0, .int .u8 0, .int .u8 0, .int .u8 0, .int .u8 0, .int .u8 0, .int .u8 0, .int .u8 0, .int .u8 0, .int .u8 0, .int .u8 0, .int .u8 0, .int .u8 0, .int .u8 0, .int .u8 0, .int .u8 0, .int .u8 0, .int .u8 0, .int .u8 0, .int .u8 0, .int .u8 0, .int .u8 0, .int .u8 0, .int .u8 0, .int .u8 0, .int .u8 0, .int .u8 0, .int .u8 0, .int .u32 0, .slice none 0 0, .int .u8 0] 34)).heap[w.heap.size + 1]? = some (.cells #[.int .u8 0, .int .u8 0, .int .u8 0, .int .u8 0, .int .u8 0, .int .u8 0, .int .u8 0, .int .u8 0, .int .u8 0, .int .u8 0, .int .u8 0, .int .u8 0, .int .u8 0, .int .u8 0, .int .u8 0, .int .u8 0, .int .u8 0, .int .u8 0, .int .u8 0, .int .u8 0, .int .u8 0, .int .u8 0, .int .u8 0, .int .u8 0, .int .u8 0, .int .u8 0, .int .u8 0, .int .u8 0, .int .u8 0, .int .u8 0, .int .u8 0, .int .u8 0, .int .u8 0, .int .u8 0, .int .u8 0, .int .u8 0, .int .u8 0, .int .u8 0, .int .u8 0, .int .u8 0, .int .u8 0, .int .u8 0, .int .u8 0, .int .u8 0, .int .u8 0, .int .u8 0, .int .u8 0, .int .u8 0, .int .u8 0, .int .u8 0, .int .u8 0, .int .u8 0, .int .u32 0, .slice none 0 0, .int .u8 0] 34 (0, 0)) := by
    have := heap_alloc_new (w.alloc (.cells x.cells 34)) (.cells #[.int .u8 0, .int .u8 0, .int .u8 0, .int .u8 0, .int .u8 0, .int .u8 0, .int .u8 0, .int .u8 0, .int .u8 0, .int .u8 0, .int .u8 0, .int .u8 0, .int .u8 0, .int .u8 0, .int .u8 0, .int .u8 0, .int .u8 0, .int .u8 0, .int .u8 0, .int .u8 0, .int .u8 0, .int .u8 0, .int .u8 0, .int .u8 0, .int .u8 0, .int .u8 0, .int .u8 0, .int .u8 0, .int .u8 0, .int .u8 0, .int .u8 0, .int .u8 0, .int .u8 0, .int .u8 0, .int .u8 0, .int .u8 0, .int .u8 0, .int .u8 0, .int .u8 0, .int .u8 0, .int .u8 0, .int .u8 0, .int .u8 0, .int .u8 0, .int .u8 0, .int .u8 0, .int .u8 0, .int .u8 0, .int .u8 0, .int .u8 0, .int .u8 0, .int .u8 0, .int .u32 0, .slice none 0 0, .int .u8 0] 34)
    rwa [World.size_alloc] at this
  refine ⟨⟨?_⟩, ⟨setRow_heap _ _ _ _ _ _ hb⟩, by omega, by omega, grown_setRow_new (grown_alloc (World.grownBy_alloc w _ none) _) _ _ (Or.inl (by omega))⟩
  rw [setRow_other _ _ _ _ (by omega), heap_old _ _ _ (by rw [World.size_alloc]; omega)]
  exact heap_alloc_new w _
theorem refMay_1 (D : Nat) (x : SV) (w : World) (hk : x.k = 1) (hO : x.Ok) (hR : Rd w D x.ad x.nd x.fd) : Calls Try.prog 10 #[.agg x.cells] w (SameSays w x.mayC) := by
  have hb : ((w.alloc (.cells x.cells 34)).alloc (.cells #[.int .u8 0, .int .u8 0, .int .u8 0, .int .u8 0, .int .u8 0, .int .u8 0, .int .u8 0, .int .u8 0, .int .u8 0, .int .u8 0, .int .u8 0, .int .u8 0, .int .u8 0, .int .u8 0, .int .u8 0, .int .u8 0, .int .u8 0, .int .u8 0, .int .u8 0, .int .u8 0, .int .u8 0, .int .u8 0, .int .u8 0, .int .u8 0, .int .u8 0, .int .u8 0, .int .u8 0, .int .u8 0, .int .u8 0, .int .u8 0, .int .u8 0, .int .u8 0, .int .u8 0, .int .u8 0, .int .u8 0, .int .u8 0, .int .u8 0, .int .u8 0, .int .u8 0, .int .u8 0, .int .u8 0, .int .u8 0, .int .u8 0, .int .u8 0, .int .u8 0, .int .u8 0, .int .u8 0, .int .u8 0, .int .u8 0, .int .u8 0, .int .u8 0, .int .u8 0, .int .u32 0, .slice none 0 0, .int .u8 0] 34)).heap[w.heap.size + 1]? = some (.cells #[.int .u8 0, .int .u8 0, .int .u8 0, .int .u8 0, .int .u8 0, .int .u8 0, .int .u8 0, .int .u8 0, .int .u8 0, .int .u8 0, .int .u8 0, .int .u8 0, .int .u8 0, .int .u8 0, .int .u8 0, .int .u8 0, .int .u8 0, .int .u8 0, .int .u8 0, .int .u8 0, .int .u8 0, .int .u8 0, .int .u8 0, .int .u8 0, .int .u8 0, .int .u8 0, .int .u8 0, .int .u8 0, .int .u8 0, .int .u8 0, .int .u8 0, .int .u8 0, .int .u8 0, .int .u8 0, .int .u8 0, .int .u8 0, .int .u8 0, .int .u8 0, .int .u8 0, .int .u8 0, .int .u8 0, .int .u8 0, .int .u8 0, .int .u8 0, .int .u8 0, .int .u8 0, .int .u8 0, .int .u8 0, .int .u8 0, .int .u8 0, .int .u8 0, .int .u8 0, .int .u32 0, .slice none 0 0, .int .u8 0] 34 (0, 0)) := by
    have := heap_alloc_new (w.alloc (.cells x.cells 34)) (.cells #[.int .u8 0, .int .u8 0, .int .u8 0, .int .u8 0, .int .u8 0, .int .u8 0, .int .u8 0, .int .u8 0, .int .u8 0, .int .u8 0, .int .u8 0, .int .u8 0, .int .u8 0, .int .u8 0, .int .u8 0, .int .u8 0, .int .u8 0, .int .u8 0, .int .u8 0, .int .u8 0, .int .u8 0, .int .u8 0, .int .u8 0, .int .u8 0, .int .u8 0, .int .u8 0, .int .u8 0, .int .u8 0, .int .u8 0, .int .u8 0, .int .u8 0, .int .u8 0, .int .u8 0, .int .u8 0, .int .u8 0, .int .u8 0, .int .u8 0, .int .u8 0, .int .u8 0, .int .u8 0, .int .u8 0, .int .u8 0, .int .u8 0, .int .u8 0, .int .u8 0, .int .u8 0, .int .u8 0, .int .u8 0, .int .u8 0, .int .u8 0, .int .u8 0, .int .u8 0, .int .u32 0, .slice none 0 0, .int .u8 0] 34)
    rwa [World.size_alloc] at this
  have h1 : SAt ((w.alloc (.cells x.cells 34)).alloc (.cells #[.int .u8 0, .int .u8 0, .int .u8 0, .int .u8 0, .int .u8 0, .int .u8 0, .int .u8 0, .int .u8 0, .int .u8 0, .int .u8 0, .int .u8 0, .int .u8 0, .int .u8 0, .int .u8 0, .int .u8 0, .int .u8 0, .int .u8 0, .int .u8 0, .int .u8 0, .int .u8 0, .int .u8 0, .int .u8 0, .int .u8 0, .int .u8 0, .int .u8 0, .int .u8 0, .int .u8 0, .int .u8 0, .int .u8 0, .int .u8 0, .int .u8 0, .int .u8 0, .int .u8 0, .int .u8 0, .int .u8 0, .int .u8 0, .int .u8 0, .int .u8 0, .int .u8 0, .int .u8 0, .int .u8 0, .int .u8 0, .int .u8 0, .int .u8 0, .int .u8 0, .int .u8 0, .int .u8 0, .int .u8 0, .int .u8 0, .int .u8 0, .int .u8 0, .int .u8 0, .int .u32 0, .slice none 0 0, .int .u8 0] 34)) w.heap.size x := ⟨(heap_old _ _ _ (by rw [World.size_alloc]; omega)).trans (heap_alloc_new w _)⟩
  have h0 : SAt (w.alloc (.cells x.cells 34)) w.heap.size x := SAt.new x w
  have hS := TwoSt.start w x
  have l1 := h0.loads.id
  have ck := h0.cells.k
  have HO := Lib.hid hO
  have HR := Lib.hid hR
  have HK := Lib.hid hk
  clear h0 h1 hO hR hk
  go_enter Try.func10, Try.ntmps10
  go_upto_region 2 with (first | ((with_reducible refine wpList_here ?_); refine wpList_ld (p := .pointer (some ⟨w.heap.size, 1, none⟩)) 6 ?_ ?_ ?_ l1 ?_; (· rfl); go_simp; (· kernel_rfl)) | ((with_reducible refine wpList_here ?_); refine wpList_buildTo rfl 34 _ rfl (some 8) rfl x.bareV.cells (by kernel_rfl) ?_) | ((with_reducible refine wpList_here ?_); refine wpList_store_row rfl 34 (.tmp 3) (.tmp 8) rfl (w.heap.size + 1) x.bareV.cells rfl rfl 34 _ hb (by kernel_rfl) (by kernel_rfl) (SV.allV _) ?_))
  clear hb l1 ck
  generalize ((w.alloc (.cells x.cells 34)).alloc (.cells #[.int .u8 0, .int .u8 0, .int .u8 0, .int .u8 0, .int .u8 0, .int .u8 0, .int .u8 0, .int .u8 0, .int .u8 0, .int .u8 0, .int .u8 0, .int .u8 0, .int .u8 0, .int .u8 0, .int .u8 0, .int .u8 0, .int .u8 0, .int .u8 0, .int .u8 0, .int .u8 0, .int .u8 0, .int .u8 0, .int .u8 0, .int .u8 0, .int .u8 0, .int .u8 0, .int .u8 0, .int .u8 0, .int .u8 0, .int .u8 0, .int .u8 0, .int .u8 0, .int .u8 0, .int .u8 0, .int .u8 0, .int .u8 0, .int .u8 0, .int .u8 0, .int .u8 0, .int .u8 0, .int .u8 0, .int .u8 0, .int .u8 0, .int .u8 0, .int .u8 0, .int .u8 0, .int .u8 0, .int .u8 0, .int .u8 0, .int .u8 0, .int .u8 0, .int .u8 0, .int .u32 0, .slice none 0 0, .int .u8 0] 34)).setRow (w.heap.size + 1) x.bareV.cells = w2 at *
  obtain ⟨R, hRR⟩ : ∃ R, R = w.heap.size := ⟨_, rfl⟩
  rw [← hRR] at hS ⊢
  have HRR := Lib.hid hRR
  clear hRR
  try simp only [Act.put]
  have c0 : w2.cell? ⟨R, 0, none⟩ = some (.int .u8 1) := hS.one.cells.k.trans (by rw [HK.out]; rfl)
  obtain ⟨_, l2, _, _⟩ := hS.one.loads
  have th := hS.two.there 17 2 (by decide)
  have hS3 := hS.set 17 [.int .u8 x.ac, .int .u8 x.dv] { x.bareV with ac := x.ac, dv := x.dv } (by kernel_rfl)
  clear hS
  go_upto_region 6 with (first | ((with_reducible refine wpList_here ?_); refine wpList_ld (p := .pointer (some ⟨R, 17, none⟩)) 13 ?_ ?_ ?_ l2 ?_; (· rfl); go_simp; (· kernel_rfl)) | ((with_reducible refine wpList_here ?_); refine wpList_store_mid rfl 29 (.tmp 15) (.tmp 14) rfl (R + 1) 17 #[.int .u8 x.ac, .int .u8 x.dv] rfl (by kernel_rfl) th (by kernel_rfl) (by simp [Value.oneCell']) ?_))
  try simp only [Act.put]
  change Code.wp _ _ _ _ (w2.setCells (R + 1) 17 [.int .u8 x.ac, .int .u8 x.dv])
  generalize w2.setCells (R + 1) 17 [.int .u8 x.ac, .int .u8 x.dv] = w3 at *
  clear l2 th c0
  have cce := hS3.one.cells.ce
  have dce := hS3.two.cells.ce
  have fce := hS3.two.frozen 19
  have hS4 := hS3.put1 19 (.int .u8 x.ce) { x.bareV with ac := x.ac, dv := x.dv, ce := x.ce } (by kernel_rfl)
  clear hS3
  go_upto_region 7 with fail
  generalize w3.setCell ⟨R + 1, 19, none⟩ (.int .u8 x.ce) = w4 at *
  clear cce dce fce
  obtain ⟨_, _, l3, _⟩ := hS4.one.loads
  have th := hS4.two.there 20 32 (by decide)
  have hS5 := hS4.set 20 (cellsOf .u8 32 x.key).toList x.keep1 (by kernel_rfl)
  clear hS4
  go_upto_region 8 with (first | ((with_reducible refine wpList_here ?_); refine wpList_ld (p := .pointer (some ⟨R, 20, none⟩)) 19 ?_ ?_ ?_ l3 ?_; (· rfl); go_simp; (· kernel_rfl)) | ((with_reducible refine wpList_here ?_); refine wpList_store_mid rfl 31 (.tmp 21) (.tmp 20) rfl (R + 1) 20 (cellsOf .u8 32 x.key) rfl (by kernel_rfl) (by rw [cellsOf_size]; exact th) (by rw [cellsOf_size]; kernel_rfl) (cellsOf_all _ _ _) ?_))
  try simp only [Act.put]
  generalize w4.setCells (R + 1) 20 (cellsOf .u8 32 x.key).toList = w5 at *
  clear l3 th
  obtain ⟨_, cac, cdv, cce, _, _, _⟩ := hS5.one.cells
  have HM : Hid (x.mayC = ((decide (x.ac < 8) && decide (x.dv < 4) && decide (x.ce < 8)) && x.noOffer.nothing)) := Lib.hid (by unfold SV.mayC; rw [if_pos HK.out])
  have HA : Hid (∀ b, b = x.same x.keep1 → x.ac < 8 → x.dv < 4 → x.ce < 8 → b = x.mayC) := fun b hb h1 h2 h3 => by rw [HM.out, decide_eq_true h1, decide_eq_true h2, decide_eq_true h3, hb, same_keep1]; rfl
  have HB : Hid (¬ (x.ac < 8 ∧ x.dv < 4 ∧ x.ce < 8) → false = x.mayC) := fun h => by
    rw [HM.out]
    by_cases h1 : x.ac < 8
    · by_cases h2 : x.dv < 4
      · rw [decide_eq_false (show ¬ x.ce < 8 from fun h3 => h ⟨h1, h2, h3⟩)]
        simp
      · rw [decide_eq_false h2]
        simp
    · rw [decide_eq_false h1]
      simp
  by_cases h1 : x.ac < 8
  · have k1 : ¬ (7 : Int) < (x.ac : Int) := by omega
    by_cases h2 : x.dv < 4
    · have k2 : ¬ (3 : Int) < (x.dv : Int) := by omega
      by_cases h3 : x.ce < 8
      · have k3 : ¬ (7 : Int) < (x.ce : Int) := by omega
        have HH := Lib.hid (And.intro h1 (And.intro h2 h3))
        clear h1 h2 h3
        go_upto_region 23 with fail
        clear k1 k2 k3 cac cdv cce
        obtain ⟨_, _, _, m1⟩ := hS5.one.loads
        obtain ⟨_, _, _, m2⟩ := hS5.two.loads
        have HG := Lib.hid hS5.gr
        have HC := Lib.hid (sgSame_any D x x.keep1 _ HO.out HO.out.keep1 (HR.out.grown hS5.gr (by simp)) (rd_none _ _ _))
        clear hS5
        go_wp2_with (first | ((with_reducible refine wpList_here ?_); refine wpList_ld (p := .pointer (some ⟨R, 0, none⟩)) 1 ?_ ?_ ?_ m1 ?_; (· rfl); go_simp; (· kernel_rfl)) | ((with_reducible refine wpList_here ?_); refine wpList_ld (p := .pointer (some ⟨(R + 1), 0, none⟩)) 3 ?_ ?_ ?_ m2 ?_; (· rfl); go_simp; (· kernel_rfl)))
        go_at_call 14
        refine HC.out.mono ?_
        rintro e wz ⟨rfl, gz⟩
        have GZ := Lib.hid (grown_trans HG.out gz)
        clear gz HC m1 m2
        go_wp2_with fail
        go_ret
        exact ⟨ret_bool (HA.out _ rfl HH.out.1 HH.out.2.1 HH.out.2.2), GZ.out⟩
      · have k3 : (7 : Int) < (x.ce : Int) := by omega
        have HH := Lib.hid h3
        clear h1 h2 h3
        have HG := Lib.hid hS5.gr
        clear hS5
        go_wp2_with fail
        go_ret
        exact ⟨ret_bool (HB.out (fun h => HH.out h.2.2)), HG.out⟩
    · have k2 : (3 : Int) < (x.dv : Int) := by omega
      have HH := Lib.hid h2
      clear h1 h2
      have HG := Lib.hid hS5.gr
      clear hS5
      go_wp2_with fail
      go_ret
      exact ⟨ret_bool (HB.out (fun h => HH.out h.2.1)), HG.out⟩
  · have k1 : (7 : Int) < (x.ac : Int) := by omega
    have HH := Lib.hid h1
    clear h1
    have HG := Lib.hid hS5.gr
    clear hS5
    go_wp2_with fail
    go_ret
    exact ⟨ret_bool (HB.out (fun h => HH.out h.1)), HG.out⟩
theorem refMay_2 (D : Nat) (x : SV) (w : World) (hk : x.k = 2) (hO : x.Ok) (hR : Rd w D x.ad x.nd x.fd) : Calls Try.prog 10 #[.agg x.cells] w (SameSays w x.mayC) := by
  have hb : ((w.alloc (.cells x.cells 34)).alloc (.cells #[.int .u8 0, .int .u8 0, .int .u8 0, .int .u8 0, .int .u8 0, .int .u8 0, .int .u8 0, .int .u8 0, .int .u8 0, .int .u8 0, .int .u8 0, .int .u8 0, .int .u8 0, .int .u8 0, .int .u8 0, .int .u8 0, .int .u8 0, .int .u8 0, .int .u8 0, .int .u8 0, .int .u8 0, .int .u8 0, .int .u8 0, .int .u8 0, .int .u8 0, .int .u8 0, .int .u8 0, .int .u8 0, .int .u8 0, .int .u8 0, .int .u8 0, .int .u8 0, .int .u8 0, .int .u8 0, .int .u8 0, .int .u8 0, .int .u8 0, .int .u8 0, .int .u8 0, .int .u8 0, .int .u8 0, .int .u8 0, .int .u8 0, .int .u8 0, .int .u8 0, .int .u8 0, .int .u8 0, .int .u8 0, .int .u8 0, .int .u8 0, .int .u8 0, .int .u8 0, .int .u32 0, .slice none 0 0, .int .u8 0] 34)).heap[w.heap.size + 1]? = some (.cells #[.int .u8 0, .int .u8 0, .int .u8 0, .int .u8 0, .int .u8 0, .int .u8 0, .int .u8 0, .int .u8 0, .int .u8 0, .int .u8 0, .int .u8 0, .int .u8 0, .int .u8 0, .int .u8 0, .int .u8 0, .int .u8 0, .int .u8 0, .int .u8 0, .int .u8 0, .int .u8 0, .int .u8 0, .int .u8 0, .int .u8 0, .int .u8 0, .int .u8 0, .int .u8 0, .int .u8 0, .int .u8 0, .int .u8 0, .int .u8 0, .int .u8 0, .int .u8 0, .int .u8 0, .int .u8 0, .int .u8 0, .int .u8 0, .int .u8 0, .int .u8 0, .int .u8 0, .int .u8 0, .int .u8 0, .int .u8 0, .int .u8 0, .int .u8 0, .int .u8 0, .int .u8 0, .int .u8 0, .int .u8 0, .int .u8 0, .int .u8 0, .int .u8 0, .int .u8 0, .int .u32 0, .slice none 0 0, .int .u8 0] 34 (0, 0)) := by
    have := heap_alloc_new (w.alloc (.cells x.cells 34)) (.cells #[.int .u8 0, .int .u8 0, .int .u8 0, .int .u8 0, .int .u8 0, .int .u8 0, .int .u8 0, .int .u8 0, .int .u8 0, .int .u8 0, .int .u8 0, .int .u8 0, .int .u8 0, .int .u8 0, .int .u8 0, .int .u8 0, .int .u8 0, .int .u8 0, .int .u8 0, .int .u8 0, .int .u8 0, .int .u8 0, .int .u8 0, .int .u8 0, .int .u8 0, .int .u8 0, .int .u8 0, .int .u8 0, .int .u8 0, .int .u8 0, .int .u8 0, .int .u8 0, .int .u8 0, .int .u8 0, .int .u8 0, .int .u8 0, .int .u8 0, .int .u8 0, .int .u8 0, .int .u8 0, .int .u8 0, .int .u8 0, .int .u8 0, .int .u8 0, .int .u8 0, .int .u8 0, .int .u8 0, .int .u8 0, .int .u8 0, .int .u8 0, .int .u8 0, .int .u8 0, .int .u32 0, .slice none 0 0, .int .u8 0] 34)
    rwa [World.size_alloc] at this
  have h1 : SAt ((w.alloc (.cells x.cells 34)).alloc (.cells #[.int .u8 0, .int .u8 0, .int .u8 0, .int .u8 0, .int .u8 0, .int .u8 0, .int .u8 0, .int .u8 0, .int .u8 0, .int .u8 0, .int .u8 0, .int .u8 0, .int .u8 0, .int .u8 0, .int .u8 0, .int .u8 0, .int .u8 0, .int .u8 0, .int .u8 0, .int .u8 0, .int .u8 0, .int .u8 0, .int .u8 0, .int .u8 0, .int .u8 0, .int .u8 0, .int .u8 0, .int .u8 0, .int .u8 0, .int .u8 0, .int .u8 0, .int .u8 0, .int .u8 0, .int .u8 0, .int .u8 0, .int .u8 0, .int .u8 0, .int .u8 0, .int .u8 0, .int .u8 0, .int .u8 0, .int .u8 0, .int .u8 0, .int .u8 0, .int .u8 0, .int .u8 0, .int .u8 0, .int .u8 0, .int .u8 0, .int .u8 0, .int .u8 0, .int .u8 0, .int .u32 0, .slice none 0 0, .int .u8 0] 34)) w.heap.size x := ⟨(heap_old _ _ _ (by rw [World.size_alloc]; omega)).trans (heap_alloc_new w _)⟩
  have h0 : SAt (w.alloc (.cells x.cells 34)) w.heap.size x := SAt.new x w
  have hS := TwoSt.start w x
  have l1 := h0.loads.id
  have ck := h0.cells.k
  have HO := Lib.hid hO
  have HR := Lib.hid hR
  have HK := Lib.hid hk
  clear h0 h1 hO hR hk
  go_enter Try.func10, Try.ntmps10
  go_upto_region 2 with (first | ((with_reducible refine wpList_here ?_); refine wpList_ld (p := .pointer (some ⟨w.heap.size, 1, none⟩)) 6 ?_ ?_ ?_ l1 ?_; (· rfl); go_simp; (· kernel_rfl)) | ((with_reducible refine wpList_here ?_); refine wpList_buildTo rfl 34 _ rfl (some 8) rfl x.bareV.cells (by kernel_rfl) ?_) | ((with_reducible refine wpList_here ?_); refine wpList_store_row rfl 34 (.tmp 3) (.tmp 8) rfl (w.heap.size + 1) x.bareV.cells rfl rfl 34 _ hb (by kernel_rfl) (by kernel_rfl) (SV.allV _) ?_))
  clear hb l1 ck
  generalize ((w.alloc (.cells x.cells 34)).alloc (.cells #[.int .u8 0, .int .u8 0, .int .u8 0, .int .u8 0, .int .u8 0, .int .u8 0, .int .u8 0, .int .u8 0, .int .u8 0, .int .u8 0, .int .u8 0, .int .u8 0, .int .u8 0, .int .u8 0, .int .u8 0, .int .u8 0, .int .u8 0, .int .u8 0, .int .u8 0, .int .u8 0, .int .u8 0, .int .u8 0, .int .u8 0, .int .u8 0, .int .u8 0, .int .u8 0, .int .u8 0, .int .u8 0, .int .u8 0, .int .u8 0, .int .u8 0, .int .u8 0, .int .u8 0, .int .u8 0, .int .u8 0, .int .u8 0, .int .u8 0, .int .u8 0, .int .u8 0, .int .u8 0, .int .u8 0, .int .u8 0, .int .u8 0, .int .u8 0, .int .u8 0, .int .u8 0, .int .u8 0, .int .u8 0, .int .u8 0, .int .u8 0, .int .u8 0, .int .u8 0, .int .u32 0, .slice none 0 0, .int .u8 0] 34)).setRow (w.heap.size + 1) x.bareV.cells = w2 at *
  obtain ⟨R, hRR⟩ : ∃ R, R = w.heap.size := ⟨_, rfl⟩
  rw [← hRR] at hS ⊢
  have HRR := Lib.hid hRR
  clear hRR
  try simp only [Act.put]
  have c0 : w2.cell? ⟨R, 0, none⟩ = some (.int .u8 2) := hS.one.cells.k.trans (by rw [HK.out]; rfl)
  obtain ⟨_, _, l3, _⟩ := hS.one.loads
  have th := hS.two.there 20 32 (by decide)
  have hS5 := hS.set 20 (cellsOf .u8 32 x.key).toList x.keep2 (by kernel_rfl)
  clear hS
  go_upto_region 23 with (first | ((with_reducible refine wpList_here ?_); refine wpList_ld (p := .pointer (some ⟨R, 20, none⟩)) 39 ?_ ?_ ?_ l3 ?_; (· rfl); go_simp; (· kernel_rfl)) | ((with_reducible refine wpList_here ?_); refine wpList_store_mid rfl 31 (.tmp 41) (.tmp 40) rfl (R + 1) 20 (cellsOf .u8 32 x.key) rfl (by kernel_rfl) (by rw [cellsOf_size]; exact th) (by rw [cellsOf_size]; kernel_rfl) (cellsOf_all _ _ _) ?_))
  try simp only [Act.put]
  generalize w2.setCells (R + 1) 20 (cellsOf .u8 32 x.key).toList = w5 at *
  clear l3 th c0
  obtain ⟨_, _, _, m1⟩ := hS5.one.loads
  obtain ⟨_, _, _, m2⟩ := hS5.two.loads
  have HG := Lib.hid hS5.gr
  have HC := Lib.hid (sgSame_any D x x.keep2 _ HO.out HO.out.keep2 (HR.out.grown hS5.gr (by simp)) (rd_none _ _ _))
  clear hS5
  go_wp2_with (first | ((with_reducible refine wpList_here ?_); refine wpList_ld (p := .pointer (some ⟨R, 0, none⟩)) 1 ?_ ?_ ?_ m1 ?_; (· rfl); go_simp; (· kernel_rfl)) | ((with_reducible refine wpList_here ?_); refine wpList_ld (p := .pointer (some ⟨(R + 1), 0, none⟩)) 3 ?_ ?_ ?_ m2 ?_; (· rfl); go_simp; (· kernel_rfl)))
  go_at_call 14
  refine HC.out.mono ?_
  rintro e wz ⟨rfl, gz⟩
  have GZ := Lib.hid (grown_trans HG.out gz)
  clear gz HC m1 m2
  go_wp2_with fail
  go_ret
  exact ⟨ret_bool ((same_keep2 x).trans (by unfold SV.mayC; rw [if_neg (by have := HK.out; omega), if_pos HK.out])), GZ.out⟩
theorem refMay_3 (D : Nat) (x : SV) (w : World) (hk : x.k = 3) (hO : x.Ok) (hR : Rd w D x.ad x.nd x.fd) : Calls Try.prog 10 #[.agg x.cells] w (SameSays w x.mayC) := by
  have hb : ((w.alloc (.cells x.cells 34)).alloc (.cells #[.int .u8 0, .int .u8 0, .int .u8 0, .int .u8 0, .int .u8 0, .int .u8 0, .int .u8 0, .int .u8 0, .int .u8 0, .int .u8 0, .int .u8 0, .int .u8 0, .int .u8 0, .int .u8 0, .int .u8 0, .int .u8 0, .int .u8 0, .int .u8 0, .int .u8 0, .int .u8 0, .int .u8 0, .int .u8 0, .int .u8 0, .int .u8 0, .int .u8 0, .int .u8 0, .int .u8 0, .int .u8 0, .int .u8 0, .int .u8 0, .int .u8 0, .int .u8 0, .int .u8 0, .int .u8 0, .int .u8 0, .int .u8 0, .int .u8 0, .int .u8 0, .int .u8 0, .int .u8 0, .int .u8 0, .int .u8 0, .int .u8 0, .int .u8 0, .int .u8 0, .int .u8 0, .int .u8 0, .int .u8 0, .int .u8 0, .int .u8 0, .int .u8 0, .int .u8 0, .int .u32 0, .slice none 0 0, .int .u8 0] 34)).heap[w.heap.size + 1]? = some (.cells #[.int .u8 0, .int .u8 0, .int .u8 0, .int .u8 0, .int .u8 0, .int .u8 0, .int .u8 0, .int .u8 0, .int .u8 0, .int .u8 0, .int .u8 0, .int .u8 0, .int .u8 0, .int .u8 0, .int .u8 0, .int .u8 0, .int .u8 0, .int .u8 0, .int .u8 0, .int .u8 0, .int .u8 0, .int .u8 0, .int .u8 0, .int .u8 0, .int .u8 0, .int .u8 0, .int .u8 0, .int .u8 0, .int .u8 0, .int .u8 0, .int .u8 0, .int .u8 0, .int .u8 0, .int .u8 0, .int .u8 0, .int .u8 0, .int .u8 0, .int .u8 0, .int .u8 0, .int .u8 0, .int .u8 0, .int .u8 0, .int .u8 0, .int .u8 0, .int .u8 0, .int .u8 0, .int .u8 0, .int .u8 0, .int .u8 0, .int .u8 0, .int .u8 0, .int .u8 0, .int .u32 0, .slice none 0 0, .int .u8 0] 34 (0, 0)) := by
    have := heap_alloc_new (w.alloc (.cells x.cells 34)) (.cells #[.int .u8 0, .int .u8 0, .int .u8 0, .int .u8 0, .int .u8 0, .int .u8 0, .int .u8 0, .int .u8 0, .int .u8 0, .int .u8 0, .int .u8 0, .int .u8 0, .int .u8 0, .int .u8 0, .int .u8 0, .int .u8 0, .int .u8 0, .int .u8 0, .int .u8 0, .int .u8 0, .int .u8 0, .int .u8 0, .int .u8 0, .int .u8 0, .int .u8 0, .int .u8 0, .int .u8 0, .int .u8 0, .int .u8 0, .int .u8 0, .int .u8 0, .int .u8 0, .int .u8 0, .int .u8 0, .int .u8 0, .int .u8 0, .int .u8 0, .int .u8 0, .int .u8 0, .int .u8 0, .int .u8 0, .int .u8 0, .int .u8 0, .int .u8 0, .int .u8 0, .int .u8 0, .int .u8 0, .int .u8 0, .int .u8 0, .int .u8 0, .int .u8 0, .int .u8 0, .int .u32 0, .slice none 0 0, .int .u8 0] 34)
    rwa [World.size_alloc] at this
  have h1 : SAt ((w.alloc (.cells x.cells 34)).alloc (.cells #[.int .u8 0, .int .u8 0, .int .u8 0, .int .u8 0, .int .u8 0, .int .u8 0, .int .u8 0, .int .u8 0, .int .u8 0, .int .u8 0, .int .u8 0, .int .u8 0, .int .u8 0, .int .u8 0, .int .u8 0, .int .u8 0, .int .u8 0, .int .u8 0, .int .u8 0, .int .u8 0, .int .u8 0, .int .u8 0, .int .u8 0, .int .u8 0, .int .u8 0, .int .u8 0, .int .u8 0, .int .u8 0, .int .u8 0, .int .u8 0, .int .u8 0, .int .u8 0, .int .u8 0, .int .u8 0, .int .u8 0, .int .u8 0, .int .u8 0, .int .u8 0, .int .u8 0, .int .u8 0, .int .u8 0, .int .u8 0, .int .u8 0, .int .u8 0, .int .u8 0, .int .u8 0, .int .u8 0, .int .u8 0, .int .u8 0, .int .u8 0, .int .u8 0, .int .u8 0, .int .u32 0, .slice none 0 0, .int .u8 0] 34)) w.heap.size x := ⟨(heap_old _ _ _ (by rw [World.size_alloc]; omega)).trans (heap_alloc_new w _)⟩
  have h0 : SAt (w.alloc (.cells x.cells 34)) w.heap.size x := SAt.new x w
  have hS := TwoSt.start w x
  have l1 := h0.loads.id
  have ck := h0.cells.k
  have HO := Lib.hid hO
  have HR := Lib.hid hR
  have HK := Lib.hid hk
  clear h0 h1 hO hR hk
  go_enter Try.func10, Try.ntmps10
  go_upto_region 2 with (first | ((with_reducible refine wpList_here ?_); refine wpList_ld (p := .pointer (some ⟨w.heap.size, 1, none⟩)) 6 ?_ ?_ ?_ l1 ?_; (· rfl); go_simp; (· kernel_rfl)) | ((with_reducible refine wpList_here ?_); refine wpList_buildTo rfl 34 _ rfl (some 8) rfl x.bareV.cells (by kernel_rfl) ?_) | ((with_reducible refine wpList_here ?_); refine wpList_store_row rfl 34 (.tmp 3) (.tmp 8) rfl (w.heap.size + 1) x.bareV.cells rfl rfl 34 _ hb (by kernel_rfl) (by kernel_rfl) (SV.allV _) ?_))
  clear hb l1 ck
  generalize ((w.alloc (.cells x.cells 34)).alloc (.cells #[.int .u8 0, .int .u8 0, .int .u8 0, .int .u8 0, .int .u8 0, .int .u8 0, .int .u8 0, .int .u8 0, .int .u8 0, .int .u8 0, .int .u8 0, .int .u8 0, .int .u8 0, .int .u8 0, .int .u8 0, .int .u8 0, .int .u8 0, .int .u8 0, .int .u8 0, .int .u8 0, .int .u8 0, .int .u8 0, .int .u8 0, .int .u8 0, .int .u8 0, .int .u8 0, .int .u8 0, .int .u8 0, .int .u8 0, .int .u8 0, .int .u8 0, .int .u8 0, .int .u8 0, .int .u8 0, .int .u8 0, .int .u8 0, .int .u8 0, .int .u8 0, .int .u8 0, .int .u8 0, .int .u8 0, .int .u8 0, .int .u8 0, .int .u8 0, .int .u8 0, .int .u8 0, .int .u8 0, .int .u8 0, .int .u8 0, .int .u8 0, .int .u8 0, .int .u8 0, .int .u32 0, .slice none 0 0, .int .u8 0] 34)).setRow (w.heap.size + 1) x.bareV.cells = w2 at *
  obtain ⟨R, hRR⟩ : ∃ R, R = w.heap.size := ⟨_, rfl⟩
  rw [← hRR] at hS ⊢
  have HRR := Lib.hid hRR
  clear hRR
  try simp only [Act.put]
  have c0 : w2.cell? ⟨R, 0, none⟩ = some (.int .u8 3) := hS.one.cells.k.trans (by rw [HK.out]; rfl)
  have cn := hS.one.cells.n
  have dn := hS.two.cells.n
  have fn := hS.two.frozen 52
  have hS3 := hS.put1 52 (.int .u32 x.n) { x.bareV with n := x.n } (by kernel_rfl)
  clear hS
  go_upto_region 14 with fail
  generalize w2.setCell ⟨R + 1, 52, none⟩ (.int .u32 x.n) = w3 at *
  clear cn dn fn c0
  have cn := hS3.one.cells.d
  have dn := hS3.two.cells.d
  have fn := hS3.two.frozen 53
  have hS5 := hS3.put1 53 (.slice x.ad x.nd x.cd) x.keep3 (by kernel_rfl)
  clear hS3
  go_upto_region 15 with fail
  generalize w3.setCell ⟨R + 1, 53, none⟩ (.slice x.ad x.nd x.cd) = w4 at *
  clear cn dn fn
  have cd := hS5.one.cells.d
  have HM : Hid (x.mayC = (decide (x.nd ≤ 1024) && x.noCand.nothing)) := Lib.hid (by unfold SV.mayC; rw [if_neg (by have := HK.out; omega), if_neg (by have := HK.out; omega), if_pos HK.out])
  by_cases h1 : x.nd ≤ 1024
  · have k1 : ¬ (1024 : Int) < (x.nd : Int) := by omega
    have HH := Lib.hid h1
    clear h1
    go_upto_region 23 with fail
    clear k1 cd
    obtain ⟨_, _, _, m1⟩ := hS5.one.loads
    obtain ⟨_, _, _, m2⟩ := hS5.two.loads
    have HG := Lib.hid hS5.gr
    have HC := Lib.hid (sgSame_any D x x.keep3 _ HO.out HO.out.keep3 (HR.out.grown hS5.gr (by simp)) (HR.out.grown hS5.gr (by simp)))
    clear hS5
    go_wp2_with (first | ((with_reducible refine wpList_here ?_); refine wpList_ld (p := .pointer (some ⟨R, 0, none⟩)) 1 ?_ ?_ ?_ m1 ?_; (· rfl); go_simp; (· kernel_rfl)) | ((with_reducible refine wpList_here ?_); refine wpList_ld (p := .pointer (some ⟨(R + 1), 0, none⟩)) 3 ?_ ?_ ?_ m2 ?_; (· rfl); go_simp; (· kernel_rfl)))
    go_at_call 14
    refine HC.out.mono ?_
    rintro e wz ⟨rfl, gz⟩
    have GZ := Lib.hid (grown_trans HG.out gz)
    clear gz HC m1 m2
    go_wp2_with fail
    go_ret
    exact ⟨ret_bool (by rw [HM.out, decide_eq_true HH.out, same_keep3]; rfl), GZ.out⟩
  · have k1 : (1024 : Int) < (x.nd : Int) := by omega
    have HH := Lib.hid h1
    clear h1
    have HG := Lib.hid hS5.gr
    clear hS5
    go_wp2_with fail
    go_ret
    exact ⟨ret_bool (by rw [HM.out, decide_eq_false HH.out]; rfl), HG.out⟩
theorem refMay_5 (D : Nat) (x : SV) (w : World) (hk : x.k = 5) (hO : x.Ok) (hR : Rd w D x.ad x.nd x.fd) : Calls Try.prog 10 #[.agg x.cells] w (SameSays w x.mayC) := by
  have hb : ((w.alloc (.cells x.cells 34)).alloc (.cells #[.int .u8 0, .int .u8 0, .int .u8 0, .int .u8 0, .int .u8 0, .int .u8 0, .int .u8 0, .int .u8 0, .int .u8 0, .int .u8 0, .int .u8 0, .int .u8 0, .int .u8 0, .int .u8 0, .int .u8 0, .int .u8 0, .int .u8 0, .int .u8 0, .int .u8 0, .int .u8 0, .int .u8 0, .int .u8 0, .int .u8 0, .int .u8 0, .int .u8 0, .int .u8 0, .int .u8 0, .int .u8 0, .int .u8 0, .int .u8 0, .int .u8 0, .int .u8 0, .int .u8 0, .int .u8 0, .int .u8 0, .int .u8 0, .int .u8 0, .int .u8 0, .int .u8 0, .int .u8 0, .int .u8 0, .int .u8 0, .int .u8 0, .int .u8 0, .int .u8 0, .int .u8 0, .int .u8 0, .int .u8 0, .int .u8 0, .int .u8 0, .int .u8 0, .int .u8 0, .int .u32 0, .slice none 0 0, .int .u8 0] 34)).heap[w.heap.size + 1]? = some (.cells #[.int .u8 0, .int .u8 0, .int .u8 0, .int .u8 0, .int .u8 0, .int .u8 0, .int .u8 0, .int .u8 0, .int .u8 0, .int .u8 0, .int .u8 0, .int .u8 0, .int .u8 0, .int .u8 0, .int .u8 0, .int .u8 0, .int .u8 0, .int .u8 0, .int .u8 0, .int .u8 0, .int .u8 0, .int .u8 0, .int .u8 0, .int .u8 0, .int .u8 0, .int .u8 0, .int .u8 0, .int .u8 0, .int .u8 0, .int .u8 0, .int .u8 0, .int .u8 0, .int .u8 0, .int .u8 0, .int .u8 0, .int .u8 0, .int .u8 0, .int .u8 0, .int .u8 0, .int .u8 0, .int .u8 0, .int .u8 0, .int .u8 0, .int .u8 0, .int .u8 0, .int .u8 0, .int .u8 0, .int .u8 0, .int .u8 0, .int .u8 0, .int .u8 0, .int .u8 0, .int .u32 0, .slice none 0 0, .int .u8 0] 34 (0, 0)) := by
    have := heap_alloc_new (w.alloc (.cells x.cells 34)) (.cells #[.int .u8 0, .int .u8 0, .int .u8 0, .int .u8 0, .int .u8 0, .int .u8 0, .int .u8 0, .int .u8 0, .int .u8 0, .int .u8 0, .int .u8 0, .int .u8 0, .int .u8 0, .int .u8 0, .int .u8 0, .int .u8 0, .int .u8 0, .int .u8 0, .int .u8 0, .int .u8 0, .int .u8 0, .int .u8 0, .int .u8 0, .int .u8 0, .int .u8 0, .int .u8 0, .int .u8 0, .int .u8 0, .int .u8 0, .int .u8 0, .int .u8 0, .int .u8 0, .int .u8 0, .int .u8 0, .int .u8 0, .int .u8 0, .int .u8 0, .int .u8 0, .int .u8 0, .int .u8 0, .int .u8 0, .int .u8 0, .int .u8 0, .int .u8 0, .int .u8 0, .int .u8 0, .int .u8 0, .int .u8 0, .int .u8 0, .int .u8 0, .int .u8 0, .int .u8 0, .int .u32 0, .slice none 0 0, .int .u8 0] 34)
    rwa [World.size_alloc] at this
  have h1 : SAt ((w.alloc (.cells x.cells 34)).alloc (.cells #[.int .u8 0, .int .u8 0, .int .u8 0, .int .u8 0, .int .u8 0, .int .u8 0, .int .u8 0, .int .u8 0, .int .u8 0, .int .u8 0, .int .u8 0, .int .u8 0, .int .u8 0, .int .u8 0, .int .u8 0, .int .u8 0, .int .u8 0, .int .u8 0, .int .u8 0, .int .u8 0, .int .u8 0, .int .u8 0, .int .u8 0, .int .u8 0, .int .u8 0, .int .u8 0, .int .u8 0, .int .u8 0, .int .u8 0, .int .u8 0, .int .u8 0, .int .u8 0, .int .u8 0, .int .u8 0, .int .u8 0, .int .u8 0, .int .u8 0, .int .u8 0, .int .u8 0, .int .u8 0, .int .u8 0, .int .u8 0, .int .u8 0, .int .u8 0, .int .u8 0, .int .u8 0, .int .u8 0, .int .u8 0, .int .u8 0, .int .u8 0, .int .u8 0, .int .u8 0, .int .u32 0, .slice none 0 0, .int .u8 0] 34)) w.heap.size x := ⟨(heap_old _ _ _ (by rw [World.size_alloc]; omega)).trans (heap_alloc_new w _)⟩
  have h0 : SAt (w.alloc (.cells x.cells 34)) w.heap.size x := SAt.new x w
  have hS := TwoSt.start w x
  have l1 := h0.loads.id
  have ck := h0.cells.k
  have HO := Lib.hid hO
  have HR := Lib.hid hR
  have HK := Lib.hid hk
  clear h0 h1 hO hR hk
  go_enter Try.func10, Try.ntmps10
  go_upto_region 2 with (first | ((with_reducible refine wpList_here ?_); refine wpList_ld (p := .pointer (some ⟨w.heap.size, 1, none⟩)) 6 ?_ ?_ ?_ l1 ?_; (· rfl); go_simp; (· kernel_rfl)) | ((with_reducible refine wpList_here ?_); refine wpList_buildTo rfl 34 _ rfl (some 8) rfl x.bareV.cells (by kernel_rfl) ?_) | ((with_reducible refine wpList_here ?_); refine wpList_store_row rfl 34 (.tmp 3) (.tmp 8) rfl (w.heap.size + 1) x.bareV.cells rfl rfl 34 _ hb (by kernel_rfl) (by kernel_rfl) (SV.allV _) ?_))
  clear hb l1 ck
  generalize ((w.alloc (.cells x.cells 34)).alloc (.cells #[.int .u8 0, .int .u8 0, .int .u8 0, .int .u8 0, .int .u8 0, .int .u8 0, .int .u8 0, .int .u8 0, .int .u8 0, .int .u8 0, .int .u8 0, .int .u8 0, .int .u8 0, .int .u8 0, .int .u8 0, .int .u8 0, .int .u8 0, .int .u8 0, .int .u8 0, .int .u8 0, .int .u8 0, .int .u8 0, .int .u8 0, .int .u8 0, .int .u8 0, .int .u8 0, .int .u8 0, .int .u8 0, .int .u8 0, .int .u8 0, .int .u8 0, .int .u8 0, .int .u8 0, .int .u8 0, .int .u8 0, .int .u8 0, .int .u8 0, .int .u8 0, .int .u8 0, .int .u8 0, .int .u8 0, .int .u8 0, .int .u8 0, .int .u8 0, .int .u8 0, .int .u8 0, .int .u8 0, .int .u8 0, .int .u8 0, .int .u8 0, .int .u8 0, .int .u8 0, .int .u32 0, .slice none 0 0, .int .u8 0] 34)).setRow (w.heap.size + 1) x.bareV.cells = w2 at *
  obtain ⟨R, hRR⟩ : ∃ R, R = w.heap.size := ⟨_, rfl⟩
  rw [← hRR] at hS ⊢
  have HRR := Lib.hid hRR
  clear hRR
  try simp only [Act.put]
  have c0 : w2.cell? ⟨R, 0, none⟩ = some (.int .u8 5) := hS.one.cells.k.trans (by rw [HK.out]; rfl)
  have cn := hS.one.cells.rs
  have dn := hS.two.cells.rs
  have fn := hS.two.frozen 54
  have hS5 := hS.put1 54 (.int .u8 x.rs) x.keep5 (by kernel_rfl)
  clear hS
  go_upto_region 21 with fail
  generalize w2.setCell ⟨R + 1, 54, none⟩ (.int .u8 x.rs) = w3 at *
  clear cn dn fn c0
  have cd := hS5.one.cells.rs
  have HM : Hid (x.mayC = ((decide (1 ≤ x.rs) && decide (x.rs ≤ 4)) && x.noHang.nothing)) := Lib.hid (by unfold SV.mayC; rw [if_neg (by have := HK.out; omega), if_neg (by have := HK.out; omega), if_neg (by have := HK.out; omega), if_pos HK.out])
  by_cases h1 : 1 ≤ x.rs
  · have k1 : ¬ (x.rs : Int) < 1 := by omega
    have HH1 := Lib.hid h1
    by_cases h2 : x.rs ≤ 4
    · have k2 : ¬ (4 : Int) < (x.rs : Int) := by omega
      have HH := Lib.hid h2
      clear h1 h2
      go_upto_region 23 with fail
      clear k1 k2 cd
      obtain ⟨_, _, _, m1⟩ := hS5.one.loads
      obtain ⟨_, _, _, m2⟩ := hS5.two.loads
      have HG := Lib.hid hS5.gr
      have HC := Lib.hid (sgSame_any D x x.keep5 _ HO.out HO.out.keep5 (HR.out.grown hS5.gr (by simp)) (rd_none _ _ _))
      clear hS5
      go_wp2_with (first | ((with_reducible refine wpList_here ?_); refine wpList_ld (p := .pointer (some ⟨R, 0, none⟩)) 1 ?_ ?_ ?_ m1 ?_; (· rfl); go_simp; (· kernel_rfl)) | ((with_reducible refine wpList_here ?_); refine wpList_ld (p := .pointer (some ⟨(R + 1), 0, none⟩)) 3 ?_ ?_ ?_ m2 ?_; (· rfl); go_simp; (· kernel_rfl)))
      go_at_call 14
      refine HC.out.mono ?_
      rintro e wz ⟨rfl, gz⟩
      have GZ := Lib.hid (grown_trans HG.out gz)
      clear gz HC m1 m2
      go_wp2_with fail
      go_ret
      exact ⟨ret_bool (by rw [HM.out, decide_eq_true HH1.out, decide_eq_true HH.out, same_keep5]; rfl), GZ.out⟩
    · have k2 : (4 : Int) < (x.rs : Int) := by omega
      have HH := Lib.hid h2
      clear h1 h2
      have HG := Lib.hid hS5.gr
      clear hS5
      go_wp2_with fail
      go_ret
      exact ⟨ret_bool (by rw [HM.out, decide_eq_false HH.out]; simp), HG.out⟩
  · have k1 : (x.rs : Int) < 1 := by omega
    have HH := Lib.hid h1
    clear h1
    have HG := Lib.hid hS5.gr
    clear hS5
    go_wp2_with fail
    go_ret
    exact ⟨ret_bool (by rw [HM.out, decide_eq_false HH.out]; rfl), HG.out⟩
theorem refMay_4 (D : Nat) (x : SV) (w : World) (hk : x.k = 4) (hO : x.Ok) (hR : Rd w D x.ad x.nd x.fd) : Calls Try.prog 10 #[.agg x.cells] w (SameSays w x.mayC) := by
  have hb : ((w.alloc (.cells x.cells 34)).alloc (.cells #[.int .u8 0, .int .u8 0, .int .u8 0, .int .u8 0, .int .u8 0, .int .u8 0, .int .u8 0, .int .u8 0, .int .u8 0, .int .u8 0, .int .u8 0, .int .u8 0, .int .u8 0, .int .u8 0, .int .u8 0, .int .u8 0, .int .u8 0, .int .u8 0, .int .u8 0, .int .u8 0, .int .u8 0, .int .u8 0, .int .u8 0, .int .u8 0, .int .u8 0, .int .u8 0, .int .u8 0, .int .u8 0, .int .u8 0, .int .u8 0, .int .u8 0, .int .u8 0, .int .u8 0, .int .u8 0, .int .u8 0, .int .u8 0, .int .u8 0, .int .u8 0, .int .u8 0, .int .u8 0, .int .u8 0, .int .u8 0, .int .u8 0, .int .u8 0, .int .u8 0, .int .u8 0, .int .u8 0, .int .u8 0, .int .u8 0, .int .u8 0, .int .u8 0, .int .u8 0, .int .u32 0, .slice none 0 0, .int .u8 0] 34)).heap[w.heap.size + 1]? = some (.cells #[.int .u8 0, .int .u8 0, .int .u8 0, .int .u8 0, .int .u8 0, .int .u8 0, .int .u8 0, .int .u8 0, .int .u8 0, .int .u8 0, .int .u8 0, .int .u8 0, .int .u8 0, .int .u8 0, .int .u8 0, .int .u8 0, .int .u8 0, .int .u8 0, .int .u8 0, .int .u8 0, .int .u8 0, .int .u8 0, .int .u8 0, .int .u8 0, .int .u8 0, .int .u8 0, .int .u8 0, .int .u8 0, .int .u8 0, .int .u8 0, .int .u8 0, .int .u8 0, .int .u8 0, .int .u8 0, .int .u8 0, .int .u8 0, .int .u8 0, .int .u8 0, .int .u8 0, .int .u8 0, .int .u8 0, .int .u8 0, .int .u8 0, .int .u8 0, .int .u8 0, .int .u8 0, .int .u8 0, .int .u8 0, .int .u8 0, .int .u8 0, .int .u8 0, .int .u8 0, .int .u32 0, .slice none 0 0, .int .u8 0] 34 (0, 0)) := by
    have := heap_alloc_new (w.alloc (.cells x.cells 34)) (.cells #[.int .u8 0, .int .u8 0, .int .u8 0, .int .u8 0, .int .u8 0, .int .u8 0, .int .u8 0, .int .u8 0, .int .u8 0, .int .u8 0, .int .u8 0, .int .u8 0, .int .u8 0, .int .u8 0, .int .u8 0, .int .u8 0, .int .u8 0, .int .u8 0, .int .u8 0, .int .u8 0, .int .u8 0, .int .u8 0, .int .u8 0, .int .u8 0, .int .u8 0, .int .u8 0, .int .u8 0, .int .u8 0, .int .u8 0, .int .u8 0, .int .u8 0, .int .u8 0, .int .u8 0, .int .u8 0, .int .u8 0, .int .u8 0, .int .u8 0, .int .u8 0, .int .u8 0, .int .u8 0, .int .u8 0, .int .u8 0, .int .u8 0, .int .u8 0, .int .u8 0, .int .u8 0, .int .u8 0, .int .u8 0, .int .u8 0, .int .u8 0, .int .u8 0, .int .u8 0, .int .u32 0, .slice none 0 0, .int .u8 0] 34)
    rwa [World.size_alloc] at this
  have h1 : SAt ((w.alloc (.cells x.cells 34)).alloc (.cells #[.int .u8 0, .int .u8 0, .int .u8 0, .int .u8 0, .int .u8 0, .int .u8 0, .int .u8 0, .int .u8 0, .int .u8 0, .int .u8 0, .int .u8 0, .int .u8 0, .int .u8 0, .int .u8 0, .int .u8 0, .int .u8 0, .int .u8 0, .int .u8 0, .int .u8 0, .int .u8 0, .int .u8 0, .int .u8 0, .int .u8 0, .int .u8 0, .int .u8 0, .int .u8 0, .int .u8 0, .int .u8 0, .int .u8 0, .int .u8 0, .int .u8 0, .int .u8 0, .int .u8 0, .int .u8 0, .int .u8 0, .int .u8 0, .int .u8 0, .int .u8 0, .int .u8 0, .int .u8 0, .int .u8 0, .int .u8 0, .int .u8 0, .int .u8 0, .int .u8 0, .int .u8 0, .int .u8 0, .int .u8 0, .int .u8 0, .int .u8 0, .int .u8 0, .int .u8 0, .int .u32 0, .slice none 0 0, .int .u8 0] 34)) w.heap.size x := ⟨(heap_old _ _ _ (by rw [World.size_alloc]; omega)).trans (heap_alloc_new w _)⟩
  have h0 : SAt (w.alloc (.cells x.cells 34)) w.heap.size x := SAt.new x w
  have hS := TwoSt.start w x
  have l1 := h0.loads.id
  have ck := h0.cells.k
  have HO := Lib.hid hO
  have HR := Lib.hid hR
  have HK := Lib.hid hk
  clear h0 h1 hO hR hk
  go_enter Try.func10, Try.ntmps10
  go_upto_region 2 with (first | ((with_reducible refine wpList_here ?_); refine wpList_ld (p := .pointer (some ⟨w.heap.size, 1, none⟩)) 6 ?_ ?_ ?_ l1 ?_; (· rfl); go_simp; (· kernel_rfl)) | ((with_reducible refine wpList_here ?_); refine wpList_buildTo rfl 34 _ rfl (some 8) rfl x.bareV.cells (by kernel_rfl) ?_) | ((with_reducible refine wpList_here ?_); refine wpList_store_row rfl 34 (.tmp 3) (.tmp 8) rfl (w.heap.size + 1) x.bareV.cells rfl rfl 34 _ hb (by kernel_rfl) (by kernel_rfl) (SV.allV _) ?_))
  clear hb l1 ck
  generalize ((w.alloc (.cells x.cells 34)).alloc (.cells #[.int .u8 0, .int .u8 0, .int .u8 0, .int .u8 0, .int .u8 0, .int .u8 0, .int .u8 0, .int .u8 0, .int .u8 0, .int .u8 0, .int .u8 0, .int .u8 0, .int .u8 0, .int .u8 0, .int .u8 0, .int .u8 0, .int .u8 0, .int .u8 0, .int .u8 0, .int .u8 0, .int .u8 0, .int .u8 0, .int .u8 0, .int .u8 0, .int .u8 0, .int .u8 0, .int .u8 0, .int .u8 0, .int .u8 0, .int .u8 0, .int .u8 0, .int .u8 0, .int .u8 0, .int .u8 0, .int .u8 0, .int .u8 0, .int .u8 0, .int .u8 0, .int .u8 0, .int .u8 0, .int .u8 0, .int .u8 0, .int .u8 0, .int .u8 0, .int .u8 0, .int .u8 0, .int .u8 0, .int .u8 0, .int .u8 0, .int .u8 0, .int .u8 0, .int .u8 0, .int .u32 0, .slice none 0 0, .int .u8 0] 34)).setRow (w.heap.size + 1) x.bareV.cells = w2 at *
  obtain ⟨R, hRR⟩ : ∃ R, R = w.heap.size := ⟨_, rfl⟩
  rw [← hRR] at hS ⊢
  have HRR := Lib.hid hRR
  clear hRR
  try simp only [Act.put]
  have c0 : w2.cell? ⟨R, 0, none⟩ = some (.int .u8 4) := hS.one.cells.k.trans (by rw [HK.out]; rfl)
  go_upto_region 23 with fail
  clear c0
  obtain ⟨_, _, _, m1⟩ := hS.one.loads
  obtain ⟨_, _, _, m2⟩ := hS.two.loads
  have HG := Lib.hid hS.gr
  have HC := Lib.hid (sgSame_any D x x.bareV _ HO.out HO.out.bare (HR.out.grown hS.gr (by simp)) (rd_none _ _ _))
  clear hS
  go_wp2_with (first | ((with_reducible refine wpList_here ?_); refine wpList_ld (p := .pointer (some ⟨R, 0, none⟩)) 1 ?_ ?_ ?_ m1 ?_; (· rfl); go_simp; (· kernel_rfl)) | ((with_reducible refine wpList_here ?_); refine wpList_ld (p := .pointer (some ⟨(R + 1), 0, none⟩)) 3 ?_ ?_ ?_ m2 ?_; (· rfl); go_simp; (· kernel_rfl)))
  go_at_call 14
  refine HC.out.mono ?_
  rintro e wz ⟨rfl, gz⟩
  have GZ := Lib.hid (grown_trans HG.out gz)
  clear gz HC m1 m2
  go_wp2_with fail
  go_ret
  exact ⟨ret_bool ((same_bare x).trans (by unfold SV.mayC; rw [if_neg (by have := HK.out; omega), if_neg (by have := HK.out; omega), if_neg (by have := HK.out; omega), if_neg (by have := HK.out; omega), if_pos (by have := HK.out; omega)])), GZ.out⟩
theorem refMay_6 (D : Nat) (x : SV) (w : World) (hk : x.k = 6) (hO : x.Ok) (hR : Rd w D x.ad x.nd x.fd) : Calls Try.prog 10 #[.agg x.cells] w (SameSays w x.mayC) := by
  have hb : ((w.alloc (.cells x.cells 34)).alloc (.cells #[.int .u8 0, .int .u8 0, .int .u8 0, .int .u8 0, .int .u8 0, .int .u8 0, .int .u8 0, .int .u8 0, .int .u8 0, .int .u8 0, .int .u8 0, .int .u8 0, .int .u8 0, .int .u8 0, .int .u8 0, .int .u8 0, .int .u8 0, .int .u8 0, .int .u8 0, .int .u8 0, .int .u8 0, .int .u8 0, .int .u8 0, .int .u8 0, .int .u8 0, .int .u8 0, .int .u8 0, .int .u8 0, .int .u8 0, .int .u8 0, .int .u8 0, .int .u8 0, .int .u8 0, .int .u8 0, .int .u8 0, .int .u8 0, .int .u8 0, .int .u8 0, .int .u8 0, .int .u8 0, .int .u8 0, .int .u8 0, .int .u8 0, .int .u8 0, .int .u8 0, .int .u8 0, .int .u8 0, .int .u8 0, .int .u8 0, .int .u8 0, .int .u8 0, .int .u8 0, .int .u32 0, .slice none 0 0, .int .u8 0] 34)).heap[w.heap.size + 1]? = some (.cells #[.int .u8 0, .int .u8 0, .int .u8 0, .int .u8 0, .int .u8 0, .int .u8 0, .int .u8 0, .int .u8 0, .int .u8 0, .int .u8 0, .int .u8 0, .int .u8 0, .int .u8 0, .int .u8 0, .int .u8 0, .int .u8 0, .int .u8 0, .int .u8 0, .int .u8 0, .int .u8 0, .int .u8 0, .int .u8 0, .int .u8 0, .int .u8 0, .int .u8 0, .int .u8 0, .int .u8 0, .int .u8 0, .int .u8 0, .int .u8 0, .int .u8 0, .int .u8 0, .int .u8 0, .int .u8 0, .int .u8 0, .int .u8 0, .int .u8 0, .int .u8 0, .int .u8 0, .int .u8 0, .int .u8 0, .int .u8 0, .int .u8 0, .int .u8 0, .int .u8 0, .int .u8 0, .int .u8 0, .int .u8 0, .int .u8 0, .int .u8 0, .int .u8 0, .int .u8 0, .int .u32 0, .slice none 0 0, .int .u8 0] 34 (0, 0)) := by
    have := heap_alloc_new (w.alloc (.cells x.cells 34)) (.cells #[.int .u8 0, .int .u8 0, .int .u8 0, .int .u8 0, .int .u8 0, .int .u8 0, .int .u8 0, .int .u8 0, .int .u8 0, .int .u8 0, .int .u8 0, .int .u8 0, .int .u8 0, .int .u8 0, .int .u8 0, .int .u8 0, .int .u8 0, .int .u8 0, .int .u8 0, .int .u8 0, .int .u8 0, .int .u8 0, .int .u8 0, .int .u8 0, .int .u8 0, .int .u8 0, .int .u8 0, .int .u8 0, .int .u8 0, .int .u8 0, .int .u8 0, .int .u8 0, .int .u8 0, .int .u8 0, .int .u8 0, .int .u8 0, .int .u8 0, .int .u8 0, .int .u8 0, .int .u8 0, .int .u8 0, .int .u8 0, .int .u8 0, .int .u8 0, .int .u8 0, .int .u8 0, .int .u8 0, .int .u8 0, .int .u8 0, .int .u8 0, .int .u8 0, .int .u8 0, .int .u32 0, .slice none 0 0, .int .u8 0] 34)
    rwa [World.size_alloc] at this
  have h1 : SAt ((w.alloc (.cells x.cells 34)).alloc (.cells #[.int .u8 0, .int .u8 0, .int .u8 0, .int .u8 0, .int .u8 0, .int .u8 0, .int .u8 0, .int .u8 0, .int .u8 0, .int .u8 0, .int .u8 0, .int .u8 0, .int .u8 0, .int .u8 0, .int .u8 0, .int .u8 0, .int .u8 0, .int .u8 0, .int .u8 0, .int .u8 0, .int .u8 0, .int .u8 0, .int .u8 0, .int .u8 0, .int .u8 0, .int .u8 0, .int .u8 0, .int .u8 0, .int .u8 0, .int .u8 0, .int .u8 0, .int .u8 0, .int .u8 0, .int .u8 0, .int .u8 0, .int .u8 0, .int .u8 0, .int .u8 0, .int .u8 0, .int .u8 0, .int .u8 0, .int .u8 0, .int .u8 0, .int .u8 0, .int .u8 0, .int .u8 0, .int .u8 0, .int .u8 0, .int .u8 0, .int .u8 0, .int .u8 0, .int .u8 0, .int .u32 0, .slice none 0 0, .int .u8 0] 34)) w.heap.size x := ⟨(heap_old _ _ _ (by rw [World.size_alloc]; omega)).trans (heap_alloc_new w _)⟩
  have h0 : SAt (w.alloc (.cells x.cells 34)) w.heap.size x := SAt.new x w
  have hS := TwoSt.start w x
  have l1 := h0.loads.id
  have ck := h0.cells.k
  have HO := Lib.hid hO
  have HR := Lib.hid hR
  have HK := Lib.hid hk
  clear h0 h1 hO hR hk
  go_enter Try.func10, Try.ntmps10
  go_upto_region 2 with (first | ((with_reducible refine wpList_here ?_); refine wpList_ld (p := .pointer (some ⟨w.heap.size, 1, none⟩)) 6 ?_ ?_ ?_ l1 ?_; (· rfl); go_simp; (· kernel_rfl)) | ((with_reducible refine wpList_here ?_); refine wpList_buildTo rfl 34 _ rfl (some 8) rfl x.bareV.cells (by kernel_rfl) ?_) | ((with_reducible refine wpList_here ?_); refine wpList_store_row rfl 34 (.tmp 3) (.tmp 8) rfl (w.heap.size + 1) x.bareV.cells rfl rfl 34 _ hb (by kernel_rfl) (by kernel_rfl) (SV.allV _) ?_))
  clear hb l1 ck
  generalize ((w.alloc (.cells x.cells 34)).alloc (.cells #[.int .u8 0, .int .u8 0, .int .u8 0, .int .u8 0, .int .u8 0, .int .u8 0, .int .u8 0, .int .u8 0, .int .u8 0, .int .u8 0, .int .u8 0, .int .u8 0, .int .u8 0, .int .u8 0, .int .u8 0, .int .u8 0, .int .u8 0, .int .u8 0, .int .u8 0, .int .u8 0, .int .u8 0, .int .u8 0, .int .u8 0, .int .u8 0, .int .u8 0, .int .u8 0, .int .u8 0, .int .u8 0, .int .u8 0, .int .u8 0, .int .u8 0, .int .u8 0, .int .u8 0, .int .u8 0, .int .u8 0, .int .u8 0, .int .u8 0, .int .u8 0, .int .u8 0, .int .u8 0, .int .u8 0, .int .u8 0, .int .u8 0, .int .u8 0, .int .u8 0, .int .u8 0, .int .u8 0, .int .u8 0, .int .u8 0, .int .u8 0, .int .u8 0, .int .u8 0, .int .u32 0, .slice none 0 0, .int .u8 0] 34)).setRow (w.heap.size + 1) x.bareV.cells = w2 at *
  obtain ⟨R, hRR⟩ : ∃ R, R = w.heap.size := ⟨_, rfl⟩
  rw [← hRR] at hS ⊢
  have HRR := Lib.hid hRR
  clear hRR
  try simp only [Act.put]
  have c0 : w2.cell? ⟨R, 0, none⟩ = some (.int .u8 6) := hS.one.cells.k.trans (by rw [HK.out]; rfl)
  go_upto_region 23 with fail
  clear c0
  obtain ⟨_, _, _, m1⟩ := hS.one.loads
  obtain ⟨_, _, _, m2⟩ := hS.two.loads
  have HG := Lib.hid hS.gr
  have HC := Lib.hid (sgSame_any D x x.bareV _ HO.out HO.out.bare (HR.out.grown hS.gr (by simp)) (rd_none _ _ _))
  clear hS
  go_wp2_with (first | ((with_reducible refine wpList_here ?_); refine wpList_ld (p := .pointer (some ⟨R, 0, none⟩)) 1 ?_ ?_ ?_ m1 ?_; (· rfl); go_simp; (· kernel_rfl)) | ((with_reducible refine wpList_here ?_); refine wpList_ld (p := .pointer (some ⟨(R + 1), 0, none⟩)) 3 ?_ ?_ ?_ m2 ?_; (· rfl); go_simp; (· kernel_rfl)))
  go_at_call 14
  refine HC.out.mono ?_
  rintro e wz ⟨rfl, gz⟩
  have GZ := Lib.hid (grown_trans HG.out gz)
  clear gz HC m1 m2
  go_wp2_with fail
  go_ret
  exact ⟨ret_bool ((same_bare x).trans (by unfold SV.mayC; rw [if_neg (by have := HK.out; omega), if_neg (by have := HK.out; omega), if_neg (by have := HK.out; omega), if_neg (by have := HK.out; omega), if_pos (by have := HK.out; omega)])), GZ.out⟩
theorem refMay_none (D : Nat) (x : SV) (w : World) (hk : x.k = 0 ∨ 6 < x.k) (hO : x.Ok) (hR : Rd w D x.ad x.nd x.fd) : Calls Try.prog 10 #[.agg x.cells] w (SameSays w x.mayC) := by
  have hb : ((w.alloc (.cells x.cells 34)).alloc (.cells #[.int .u8 0, .int .u8 0, .int .u8 0, .int .u8 0, .int .u8 0, .int .u8 0, .int .u8 0, .int .u8 0, .int .u8 0, .int .u8 0, .int .u8 0, .int .u8 0, .int .u8 0, .int .u8 0, .int .u8 0, .int .u8 0, .int .u8 0, .int .u8 0, .int .u8 0, .int .u8 0, .int .u8 0, .int .u8 0, .int .u8 0, .int .u8 0, .int .u8 0, .int .u8 0, .int .u8 0, .int .u8 0, .int .u8 0, .int .u8 0, .int .u8 0, .int .u8 0, .int .u8 0, .int .u8 0, .int .u8 0, .int .u8 0, .int .u8 0, .int .u8 0, .int .u8 0, .int .u8 0, .int .u8 0, .int .u8 0, .int .u8 0, .int .u8 0, .int .u8 0, .int .u8 0, .int .u8 0, .int .u8 0, .int .u8 0, .int .u8 0, .int .u8 0, .int .u8 0, .int .u32 0, .slice none 0 0, .int .u8 0] 34)).heap[w.heap.size + 1]? = some (.cells #[.int .u8 0, .int .u8 0, .int .u8 0, .int .u8 0, .int .u8 0, .int .u8 0, .int .u8 0, .int .u8 0, .int .u8 0, .int .u8 0, .int .u8 0, .int .u8 0, .int .u8 0, .int .u8 0, .int .u8 0, .int .u8 0, .int .u8 0, .int .u8 0, .int .u8 0, .int .u8 0, .int .u8 0, .int .u8 0, .int .u8 0, .int .u8 0, .int .u8 0, .int .u8 0, .int .u8 0, .int .u8 0, .int .u8 0, .int .u8 0, .int .u8 0, .int .u8 0, .int .u8 0, .int .u8 0, .int .u8 0, .int .u8 0, .int .u8 0, .int .u8 0, .int .u8 0, .int .u8 0, .int .u8 0, .int .u8 0, .int .u8 0, .int .u8 0, .int .u8 0, .int .u8 0, .int .u8 0, .int .u8 0, .int .u8 0, .int .u8 0, .int .u8 0, .int .u8 0, .int .u32 0, .slice none 0 0, .int .u8 0] 34 (0, 0)) := by
    have := heap_alloc_new (w.alloc (.cells x.cells 34)) (.cells #[.int .u8 0, .int .u8 0, .int .u8 0, .int .u8 0, .int .u8 0, .int .u8 0, .int .u8 0, .int .u8 0, .int .u8 0, .int .u8 0, .int .u8 0, .int .u8 0, .int .u8 0, .int .u8 0, .int .u8 0, .int .u8 0, .int .u8 0, .int .u8 0, .int .u8 0, .int .u8 0, .int .u8 0, .int .u8 0, .int .u8 0, .int .u8 0, .int .u8 0, .int .u8 0, .int .u8 0, .int .u8 0, .int .u8 0, .int .u8 0, .int .u8 0, .int .u8 0, .int .u8 0, .int .u8 0, .int .u8 0, .int .u8 0, .int .u8 0, .int .u8 0, .int .u8 0, .int .u8 0, .int .u8 0, .int .u8 0, .int .u8 0, .int .u8 0, .int .u8 0, .int .u8 0, .int .u8 0, .int .u8 0, .int .u8 0, .int .u8 0, .int .u8 0, .int .u8 0, .int .u32 0, .slice none 0 0, .int .u8 0] 34)
    rwa [World.size_alloc] at this
  have h1 : SAt ((w.alloc (.cells x.cells 34)).alloc (.cells #[.int .u8 0, .int .u8 0, .int .u8 0, .int .u8 0, .int .u8 0, .int .u8 0, .int .u8 0, .int .u8 0, .int .u8 0, .int .u8 0, .int .u8 0, .int .u8 0, .int .u8 0, .int .u8 0, .int .u8 0, .int .u8 0, .int .u8 0, .int .u8 0, .int .u8 0, .int .u8 0, .int .u8 0, .int .u8 0, .int .u8 0, .int .u8 0, .int .u8 0, .int .u8 0, .int .u8 0, .int .u8 0, .int .u8 0, .int .u8 0, .int .u8 0, .int .u8 0, .int .u8 0, .int .u8 0, .int .u8 0, .int .u8 0, .int .u8 0, .int .u8 0, .int .u8 0, .int .u8 0, .int .u8 0, .int .u8 0, .int .u8 0, .int .u8 0, .int .u8 0, .int .u8 0, .int .u8 0, .int .u8 0, .int .u8 0, .int .u8 0, .int .u8 0, .int .u8 0, .int .u32 0, .slice none 0 0, .int .u8 0] 34)) w.heap.size x := ⟨(heap_old _ _ _ (by rw [World.size_alloc]; omega)).trans (heap_alloc_new w _)⟩
  have h0 : SAt (w.alloc (.cells x.cells 34)) w.heap.size x := SAt.new x w
  have hS := TwoSt.start w x
  have l1 := h0.loads.id
  have ck := h0.cells.k
  have HO := Lib.hid hO
  have HR := Lib.hid hR
  have HK := Lib.hid hk
  clear h0 h1 hO hR hk
  go_enter Try.func10, Try.ntmps10
  go_upto_region 2 with (first | ((with_reducible refine wpList_here ?_); refine wpList_ld (p := .pointer (some ⟨w.heap.size, 1, none⟩)) 6 ?_ ?_ ?_ l1 ?_; (· rfl); go_simp; (· kernel_rfl)) | ((with_reducible refine wpList_here ?_); refine wpList_buildTo rfl 34 _ rfl (some 8) rfl x.bareV.cells (by kernel_rfl) ?_) | ((with_reducible refine wpList_here ?_); refine wpList_store_row rfl 34 (.tmp 3) (.tmp 8) rfl (w.heap.size + 1) x.bareV.cells rfl rfl 34 _ hb (by kernel_rfl) (by kernel_rfl) (SV.allV _) ?_))
  clear hb l1 ck
  generalize ((w.alloc (.cells x.cells 34)).alloc (.cells #[.int .u8 0, .int .u8 0, .int .u8 0, .int .u8 0, .int .u8 0, .int .u8 0, .int .u8 0, .int .u8 0, .int .u8 0, .int .u8 0, .int .u8 0, .int .u8 0, .int .u8 0, .int .u8 0, .int .u8 0, .int .u8 0, .int .u8 0, .int .u8 0, .int .u8 0, .int .u8 0, .int .u8 0, .int .u8 0, .int .u8 0, .int .u8 0, .int .u8 0, .int .u8 0, .int .u8 0, .int .u8 0, .int .u8 0, .int .u8 0, .int .u8 0, .int .u8 0, .int .u8 0, .int .u8 0, .int .u8 0, .int .u8 0, .int .u8 0, .int .u8 0, .int .u8 0, .int .u8 0, .int .u8 0, .int .u8 0, .int .u8 0, .int .u8 0, .int .u8 0, .int .u8 0, .int .u8 0, .int .u8 0, .int .u8 0, .int .u8 0, .int .u8 0, .int .u8 0, .int .u32 0, .slice none 0 0, .int .u8 0] 34)).setRow (w.heap.size + 1) x.bareV.cells = w2 at *
  obtain ⟨R, hRR⟩ : ∃ R, R = w.heap.size := ⟨_, rfl⟩
  rw [← hRR] at hS ⊢
  have HRR := Lib.hid hRR
  clear hRR
  try simp only [Act.put]
  have c0 := hS.one.cells.k
  have HM : Hid (x.mayC = false) := Lib.hid (by
    have h := HK.out
    unfold SV.mayC
    rw [if_neg (by omega), if_neg (by omega), if_neg (by omega), if_neg (by omega), if_neg (by omega)])
  have k1 : ¬ (x.k : Int) = 1 := by have := HK.out; omega
  have k2 : ¬ (x.k : Int) = 2 := by have := HK.out; omega
  have k3 : ¬ (x.k : Int) = 3 := by have := HK.out; omega
  have k4 : ¬ (x.k : Int) = 4 := by have := HK.out; omega
  have k5 : ¬ (x.k : Int) = 5 := by have := HK.out; omega
  have k6 : ¬ (x.k : Int) = 6 := by have := HK.out; omega
  have HG := Lib.hid hS.gr
  clear hS
  go_wp2_with fail
  go_ret
  exact ⟨ret_bool (HM.out.symm), HG.out⟩
/-- The reference's May. -/
theorem refSgMay_any (D : Nat) (x : SV) (w : World) (hO : x.Ok) (hR : Rd w D x.ad x.nd x.fd) : Calls Try.prog 10 #[.agg x.cells] w (SameSays w x.mayC) := by
  by_cases h1 : x.k = 1
  · exact refMay_1 D x w h1 hO hR
  by_cases h2 : x.k = 2
  · exact refMay_2 D x w h2 hO hR
  by_cases h3 : x.k = 3
  · exact refMay_3 D x w h3 hO hR
  by_cases h4 : x.k = 4
  · exact refMay_4 D x w h4 hO hR
  by_cases h5 : x.k = 5
  · exact refMay_5 D x w h5 hO hR
  by_cases h6 : x.k = 6
  · exact refMay_6 D x w h6 hO hR
  exact refMay_none D x w (by omega) hO hR
end Go.Proofs.Ytpddgiflljlpbaa
namespace Go.Proofs.Ytpddgiflljlpbaa
open Go.RowKit

set_option maxRecDepth 100000
set_option maxHeartbeats 2000000

theorem sgNumber_any (n many : Nat) (hn : n < 18446744073709551616) (h0 : 0 < many) (h8 : many ≤ 8) (w : World) :
    Calls Try.prog 27 #[.int .u64 n, .int .i64 many] w (GaveF w many (nbF n many)) := by
  obtain ⟨c, hr, hF⟩ := make_any many (by omega) w
  have gr := World.grownBy_alloc w (.cells c 5) none
  have k0 : (many : Int) < 9 := by omega
  have k1 : (0 : Int) < many := by omega
  have hz : w.heap.size < (w.alloc (.cells c 5)).heap.size := by rw [World.size_alloc]; omega
  have HN := Lib.hid hn
  have H0 := Lib.hid h0
  have H8 := Lib.hid h8
  clear hn
  go_enter Try.func27, Try.ntmps27
  go_wp2_with fail
  generalize w.alloc (.cells c 5) = w1 at *
  obtain ⟨B, hB⟩ : ∃ B, B = w.heap.size := ⟨_, rfl⟩
  simp only [← hB] at hF hz ⊢
  have HB := Lib.hid hB
  clear hB hr
  go_loopw [0, 6] (fun u0 u6 wr => ∃ j : Nat, j ≤ many ∧ u0 = .int .u64 ((n / 256 ^ j : Nat) : Int) ∧ u6 = .int .i64 ((many : Int) - 1 - (j : Int)) ∧ Fill wr B many (fun i => if many - j ≤ i then nbF n many i else 0) ∧ w.grownBy wr none) (fun _ u6 _ => (intOf u6 + 1).toNat)
  case atStart => exact ⟨0, Nat.zero_le _, by rw [Nat.pow_zero, Nat.div_one], by go_num, hF.congr (fun i hi => (if_neg (by omega)).symm), gr⟩
  case round =>
    clear hF gr
    obtain ⟨j, hj, rfl, rfl, hF, gr⟩ := hrel
    by_cases hlt : j < many
    · obtain ⟨m, hm⟩ : ∃ m, m = many - 1 - j := ⟨_, rfl⟩
      have em : (many : Int) - 1 - (j : Int) = (m : Int) := by omega
      rw [em]
      have j1 : (m : Int) < (many : Int) := by omega
      obtain ⟨y, hy⟩ : ∃ y, y = n / 256 ^ j := ⟨_, rfl⟩
      have yl : y < 18446744073709551616 := by rw [hy]; exact Nat.lt_of_le_of_lt (Nat.div_le_self _ _) HN.out
      obtain ⟨q, hq⟩ : ∃ q, q = y % 256 := ⟨_, rfl⟩
      obtain ⟨d, hd⟩ : ∃ d, d = y / 256 := ⟨_, rfl⟩
      have hqn : q = nbF n many m := by
        unfold nbF
        rw [hq, hy, show many - 1 - m = j by omega]
      have hdn : d = n / 256 ^ (j + 1) := by rw [hd, hy, Nat.div_div_eq_div_mul, ← Nat.pow_succ]
      rw [← hy]
      have x0 : (y : Int) % 256 = (q : Int) := by omega
      have x0' : (y : Int).tmod 256 = (q : Int) := by rw [Int.tmod_eq_emod_of_nonneg (by omega)]; omega
      have x1 : (y : Int) / 256 = (d : Int) := by omega
      have x1' : (y : Int).tdiv 256 = (d : Int) := by rw [Int.tdiv_eq_ediv_of_nonneg (by omega)]; omega
      have l0 : (q : Int) < 256 := by omega
      have l1 : (d : Int) < 18446744073709551616 := by omega
      have c0 := hF.cell m (by omega)
      have f0 := hF.free m
      have hF2 := (hF.set m q (by omega)).congr (g := fun i => if many - (j + 1) ≤ i then nbF n many i else 0) (fun i hi => by
        by_cases e : i = m
        · subst e; rw [upd_same, if_pos (by omega), hqn]
        · rw [upd_other _ _ _ _ e]
          by_cases e2 : many - j ≤ i
          · rw [if_pos e2, if_pos (by omega)]
          · rw [if_neg e2, if_neg (by omega)])
      have g2 := grown_setCell_new gr ⟨B, m, none⟩ (.int .u8 (q : Nat)) (Or.inl (by show w.heap.size ≤ B; have := HB.out; omega))
      have HF2 := Lib.hid hF2
      have G2 := Lib.hid g2
      have HD := Lib.hid hdn
      have HJ := Lib.hid hlt
      have Hm := Lib.hid hm
      clear hF hF2 g2 gr hy hq hd hqn hdn yl em hm hlt hj
      go_wp2_with fail
      go_roundw
      case rel => exact ⟨j + 1, HJ.out, by rw [← HD.out], congrArg (Value.int .i64) (by have := Hm.out; have := HJ.out; omega), HF2.out, G2.out⟩
      case measure =>
        have := Hm.out
        have := HJ.out
        simp [intOf]
        try omega
    · obtain rfl : j = many := by omega
      have hE := hF.congr (g := nbF n j) (fun i hi => if_pos (by omega))
      have em : (j : Int) - 1 - (j : Int) = -1 := by omega
      rw [em]
      have HE := Lib.hid hE
      clear hF hlt hE em
      go_wp2_with fail
      go_ret
      exact ⟨⟨B, rfl, by have := HB.out; omega, HE.out⟩, gr⟩

theorem sgOf_w (f : Nat → Nat) (hf : ∀ i, f i < 256) (k c : Nat) (a : Option Addr) (D : Nat) (w : World) (h8 : k ≤ 8) (h : Rd w D a k f) :
    Calls Try.prog 30 #[.slice a k c] w fun e w' => e = .returned (.int .u64 (ofB8 f k : Nat)) ∧ w = w' := by
  have k0 : (k : Int) < 9 := by omega
  have H8 := Lib.hid h8
  have HF := Lib.hid hf
  have HR := Lib.hid h
  clear hf h h8
  go_enter Try.func30, Try.ntmps30
  go_wp2_with fail
  go_loopw [3, 4] (fun u3 u4 wr => ∃ j : Nat, j ≤ k ∧ u3 = .int .u64 (ofB8 f j : Nat) ∧ u4 = .int .i64 j ∧ wr = w) (fun _ u4 _ => k - (intOf u4).toNat)
  case atStart => exact ⟨0, Nat.zero_le _, rfl, rfl, rfl⟩
  case round =>
    obtain ⟨j, hj, rfl, rfl, rfl⟩ := hrel
    by_cases hlt : j < k
    · obtain ⟨tb, o, rfl, htb, hc⟩ := HR.out.ex (by omega)
      have j1 : (j : Int) < (k : Int) := by omega
      have c0 := hc j hlt
      have b0 := HF.out j
      have b1 : ofB8 f (j + 1) < 18446744073709551616 := Nat.lt_of_lt_of_le (ofB8_lt f HF.out (j + 1)) (pow256 _ (by have := H8.out; omega))
      obtain ⟨x, hx⟩ : ∃ x, x = ofB8 f (j + 1) := ⟨_, rfl⟩
      have hx2 : x = 256 * ofB8 f j + f j := hx
      rw [← hx] at b1
      obtain ⟨y, hy⟩ : ∃ x, x = ofB8 f j := ⟨_, rfl⟩
      obtain ⟨z, hz⟩ : ∃ x, x = f j := ⟨_, rfl⟩
      rw [← hy, ← hz] at hx2
      rw [← hz] at b0 c0
      rw [← hy]
      have l0 : (z : Int) < 256 := by omega
      have l1 : (x : Int) < 18446744073709551616 := by omega
      obtain ⟨p, hp⟩ : ∃ x, x = 256 * y := ⟨_, rfl⟩
      have p0 : 256 * (y : Int) = (p : Int) := by omega
      have p1 : (p : Int) < 18446744073709551616 := by omega
      have p2 : (p : Int) + (z : Int) = (x : Int) := by omega
      have HX := Lib.hid hx
      have HJ := Lib.hid hlt
      clear hx hx2 hy hz hp b0 b1 hc hlt hj
      go_wp2_with fail
      go_roundw
      case rel => exact ⟨j + 1, HJ.out, by rw [← HX.out], by go_num, trivial⟩
      case measure =>
        have := HJ.out
        simp [intOf]
        try omega
    · obtain rfl : j = k := by omega
      have j1 : ¬ (j : Int) < (j : Int) := by omega
      go_wp2_with fail
      go_ret
      exact ⟨rfl, rfl⟩
end Go.Proofs.Ytpddgiflljlpbaa
