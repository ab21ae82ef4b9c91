/-
  The reference's All.
-/
import Derived.Test.YtdagbighlgfhjaaRefDistB
import Derived.Test.YtdagbighlgfhjaaOutFlag
import Derived.Test.YtdagbighlgfhjaaInLeaf
import Derived.Test.YtdagbighlgfhjaaInNum
import Derived.Test.YtdagbighlgfhjaaInU8
import Derived.Test.YtdagbighlgfhjaaRefCurN
import Derived.Test.YtdagbighlgfhjaaRefHdr
import Derived.Test.YtdagbighlgfhjaaRowRun
import Derived.Test.YtdagbighlgfhjaaInFlag
import Derived.Test.YtdagbighlgfhjaaExecQ
import Derived.Test.YtdagbighlgfhjaaRefCurD
import Derived.Test.YtdagbighlgfhjaaOutRd
import Derived.Test.YtdagbighlgfhjaaOutU8
import Derived.Test.YtdagbighlgfhjaaBase
import Derived.Test.YtdagbighlgfhjaaOwnR
import Derived.ChangeKeysEq
import Derived.Laws.StructEq
import Derived.RangeFuncNested
import Derived.RangeFuncBound
import Derived.RangeFuncCalls
import Derived.RangeFuncLeaves
import Derived.RangeFuncFrom
import Derived.Shelf.Abstract
import Derived.OwnWalkIn
import Derived.TacticsInMore
import Derived.LoopNIn
import Derived.LoopIn
import Derived.OrdersIn
import Derived.StillTailTactics
import Derived.Test.YtdagbighlgfhjaaWantRun
import Derived.Test.YtdagbighlgfhjaaSliceQ
import Derived.Test.YtdagbighlgfhjaaRelAll
import Derived.Test.YtdagbighlgfhjaaRelKit
import Derived.Test.YtdagbighlgfhjaaRefSign2
namespace Go.Proofs.Ytdagbighlgfhjaa
open Go.RowKit

set_option maxRecDepth 100000

theorem cat_cat (n m : Nat) (f g h : Nat → Nat) : cat (n + m) (cat n f g) h = cat n f (cat m g h) := by
  funext i
  unfold cat
  by_cases h1 : i < n
  · rw [if_pos (by omega), if_pos h1, if_pos h1]
  · by_cases h2 : i < n + m
    · rw [if_pos h2, if_neg h1, if_neg h1, if_pos (by omega)]
    · rw [if_neg h2, if_neg h1, if_neg (by omega), Nat.sub_sub]
theorem cat_none (f g : Nat → Nat) : cat 0 f g = g := by
  funext i
  unfold cat
  rw [if_neg (by omega), Nat.sub_zero]
theorem HV.v_dh (x : HV) (j : Nat) (hj : j < 32) : x.v (0 + j) = .int .u8 (x.dh j) := by
  rw [Nat.zero_add]; exact if_pos hj
/-- A setup. -/
structure SetV where
  ident : Nat → Nat
  eph : Nat → Nat
  once : Bool
  oid : Nat
def SetV.v (x : SetV) (i : Nat) : Value := if i < 32 then .int .u8 (x.ident i) else if i < 64 then .int .u8 (x.eph (i - 32)) else if i < 65 then .bool x.once else .int .u32 x.oid
theorem SetV.v_ident (x : SetV) (j : Nat) (hj : j < 32) : x.v (0 + j) = .int .u8 (x.ident j) := by
  rw [Nat.zero_add]; exact if_pos hj
theorem SetV.v_eph (x : SetV) (j : Nat) (hj : j < 32) : x.v (32 + j) = .int .u8 (x.eph j) := by
  unfold SetV.v
  rw [if_neg (by omega), if_pos (by omega), Nat.add_sub_cancel_left]
theorem SetV.one (x : SetV) (j : Nat) : (x.v j).oneCell' = true := by
  unfold SetV.v
  repeat' split
  all_goals rfl
def SetV.zero : SetV := ⟨fun _ => 0, fun _ => 0, false, 0⟩
structure SetV.Ok (x : SetV) : Prop where
  ident : ∀ i, x.ident i < 256
  eph : ∀ i, x.eph i < 256
  oid : x.oid < 4294967296
/-- How many bytes it has, and these. -/
def SetV.sl (x : SetV) (has : Bool) : Nat := if has = true then (if x.once = true then 69 else 65) else 0
def SetV.sf (x : SetV) : Nat → Nat := cat 65 (cat 64 (cat 32 x.ident x.eph) (fun _ => flagB x.once)) (nbF x.oid 4)
/-- An envelope. -/
structure EV where
  fr : Nat → Nat
  tw : Nat → Nat
  has : Bool
  st : SetV
  hd : HV
  ad : Option Addr
  nb : Nat
  cb : Nat
def EV.v (x : EV) (i : Nat) : Value := if i < 2 then .int .u8 (x.fr i) else if i < 4 then .int .u8 (x.tw (i - 2)) else if i < 5 then .bool x.has else if i < 71 then x.st.v (i - 5) else if i < 105 then x.hd.v (i - 71) else .slice x.ad x.nb x.cb
theorem EV.v_fr (x : EV) (j : Nat) (hj : j < 2) : x.v (0 + j) = .int .u8 (x.fr j) := by
  rw [Nat.zero_add]; exact if_pos hj
theorem EV.v_to (x : EV) (j : Nat) (hj : j < 2) : x.v (2 + j) = .int .u8 (x.tw j) := by
  unfold EV.v
  rw [if_neg (by omega), if_pos (by omega), Nat.add_sub_cancel_left]
theorem EV.v_st (x : EV) (j : Nat) (hj : j < 66) : x.v (5 + j) = x.st.v j := by
  unfold EV.v
  rw [if_neg (by omega), if_neg (by omega), if_neg (by omega), if_pos (by omega), Nat.add_sub_cancel_left]
theorem EV.v_hd (x : EV) (j : Nat) (hj : j < 34) : x.v (71 + j) = x.hd.v j := by
  unfold EV.v
  rw [if_neg (by omega), if_neg (by omega), if_neg (by omega), if_neg (by omega), if_pos (by omega), Nat.add_sub_cancel_left]
theorem EV.one (x : EV) (j : Nat) : (x.v j).oneCell' = true := by
  unfold EV.v
  repeat' split
  all_goals first | rfl | exact SetV.one _ _ | exact HV.one _ _
structure EV.Ok (x : EV) : Prop where
  fr : ∀ i, x.fr i < 256
  tw : ∀ i, x.tw i < 256
  st : x.st.Ok
  hd : x.hd.Ok
/-- How many bytes it has, of a box of these; and its bytes. -/
def EV.len (x : EV) : Nat := 5 + x.st.sl x.has + 40 + 2 + x.nb
def EV.bytes (x : EV) (fb : Nat → Nat) : Nat → Nat := cat (5 + x.st.sl x.has + 40 + 2) (cat (5 + x.st.sl x.has + 40) (cat (5 + x.st.sl x.has) (cat 5 (cat 4 (cat 2 x.fr x.tw) (fun _ => flagB x.has)) x.st.sf) x.hd.bytes) (nbF x.nb 2)) fb
/-- A roster. -/
structure RV where
  id : Nat → Nat
  ep : Nat
  am : Option Addr
  nm : Nat
  cm : Nat
def RV.v (x : RV) (i : Nat) : Value := if i < 16 then .int .u8 (x.id i) else if i < 17 then .int .u64 x.ep else .slice x.am x.nm x.cm
theorem RV.v_id (x : RV) (j : Nat) (hj : j < 16) : x.v (0 + j) = .int .u8 (x.id j) := by
  rw [Nat.zero_add]; exact if_pos hj
theorem RV.one (x : RV) (j : Nat) : (x.v j).oneCell' = true := by
  unfold RV.v
  repeat' split
  all_goals rfl
/-- So many devices' bytes. -/
def devsB (fm : Nat → Nat → Nat) : Nat → (Nat → Nat)
  | 0 => fun _ => 0
  | i + 1 => cat (2 * i) (devsB fm i) (fm i)
def RV.len (x : RV) : Nat := 26 + 2 * x.nm
def RV.bytes (x : RV) (fm : Nat → Nat → Nat) : Nat → Nat := cat 26 (cat 24 (cat 16 x.id (nbF x.ep 8)) (nbF x.nm 2)) (devsB fm x.nm)
/-- A packet. -/
structure PV where
  fr : Nat → Nat
  tw : Nat → Nat
  id : Nat → Nat
  ad : Option Addr
  nb : Nat
  cb : Nat
def PV.v (x : PV) (i : Nat) : Value := if i < 2 then .int .u8 (x.fr i) else if i < 4 then .int .u8 (x.tw (i - 2)) else if i < 20 then .int .u8 (x.id (i - 4)) else .slice x.ad x.nb x.cb
theorem PV.v_fr (x : PV) (j : Nat) (hj : j < 2) : x.v (0 + j) = .int .u8 (x.fr j) := by
  rw [Nat.zero_add]; exact if_pos hj
theorem PV.v_to (x : PV) (j : Nat) (hj : j < 2) : x.v (2 + j) = .int .u8 (x.tw j) := by
  unfold PV.v
  rw [if_neg (by omega), if_pos (by omega), Nat.add_sub_cancel_left]
theorem PV.v_id (x : PV) (j : Nat) (hj : j < 16) : x.v (4 + j) = .int .u8 (x.id j) := by
  unfold PV.v
  rw [if_neg (by omega), if_neg (by omega), if_pos (by omega), Nat.add_sub_cancel_left]
theorem PV.one (x : PV) (j : Nat) : (x.v j).oneCell' = true := by
  unfold PV.v
  repeat' split
  all_goals rfl
def PV.len (x : PV) : Nat := 24 + x.nb
def PV.bytes (x : PV) (fb : Nat → Nat) : Nat → Nat := cat 24 (cat 20 (cat 4 (cat 2 x.fr x.tw) x.id) (nbF x.nb 4)) fb
end Go.Proofs.Ytdagbighlgfhjaa
namespace Go.Proofs.Ytdagbighlgfhjaa
open Go.RowKit

set_option maxRecDepth 100000
set_option maxHeartbeats 4000000

theorem grown_row {w0 w w' : World} {row r2 : Option Nat} (h : w0.grownBy w row) (g : w.grownBy w' r2) (hk : ∀ k, r2 = some k → w0.heap.size ≤ k) : w0.grownBy w' row := by
  cases r2 with
  | none => exact ⟨g.os.trans h.os, g.tape.trans h.tape, g.output.trans h.output, Nat.le_trans h.size g.size, fun i hi hr => (g.block i (Nat.lt_of_lt_of_le hi h.size) (by simp)).trans (h.block i hi hr)⟩
  | some k => exact grown_new h g (hk k rfl)
theorem IAt.lt {w : World} {p : Option Addr} {L : Nat} {F : Nat → Nat} {s : ISt} (h : IAt w p L F s) (g : Nat) (hp : p = some ⟨g, 0, none⟩) : g < w.heap.size := by
  have hs := h.st
  cases s with
  | nil =>
    have h0 : p = none := hs
    rw [h0] at hp
    cases hp
  | bad =>
    obtain ⟨g', h1, h2⟩ := hs
    rw [hp] at h1
    cases h1
    exact World.block_lt_of_cell? w _ h2.c0
  | good a =>
    obtain ⟨g', a', c', h1, h2, _⟩ := hs
    rw [hp] at h1
    cases h1
    exact World.block_lt_of_cell? w _ h2.c0
theorem IAt.rowP_lt {w : World} {p : Option Addr} {L : Nat} {F : Nat → Nat} {s : ISt} (h : IAt w p L F s) (k : Nat) (hp : rowP p = some k) : k < w.heap.size := by
  have hs := h.st
  cases s with
  | nil =>
    have h0 : p = none := hs
    rw [h0] at hp
    cases hp
  | bad =>
    obtain ⟨g', h1, h2⟩ := hs
    rw [h1] at hp
    cases hp
    exact World.block_lt_of_cell? w _ h2.c0
  | good a =>
    obtain ⟨g', a', c', h1, h2, _⟩ := hs
    rw [h1] at hp
    cases hp
    exact World.block_lt_of_cell? w _ h2.c0
/-- Its block is a new one. -/
theorem IAt.row_ge {w : World} {p : Option Addr} {L D : Nat} {F : Nat → Nat} {s : ISt} (h : IAt w p L F s) (hg : ∀ g, p = some ⟨g, 0, none⟩ → D ≤ g) (k : Nat) (hk : rowP p = some k) : D ≤ k := by
  have hs := h.st
  cases s with
  | nil =>
    have h0 : p = none := hs
    rw [h0] at hk; cases hk
  | bad =>
    obtain ⟨g, h1, _⟩ := hs
    rw [h1] at hk; cases hk
    exact hg g h1
  | good at' =>
    obtain ⟨g, a, c, h1, _⟩ := hs
    rw [h1] at hk; cases hk
    exact hg g h1
end Go.Proofs.Ytdagbighlgfhjaa
namespace Go.Proofs.Ytdagbighlgfhjaa
open Go.RowKit

set_option maxRecDepth 100000
set_option maxHeartbeats 2000000

/-- Block k is not the reader's. -/
def IForeign (w : World) (p : Option Addr) (k : Nat) : Prop := ∀ g, p = some ⟨g, 0, none⟩ → g ≠ k ∧ ∀ tb o n c, w.cell? ⟨g, 0, none⟩ = some (.slice (some ⟨tb, o, none⟩) n c) → tb ≠ k
theorem IAt.foreign {w w' : World} {p : Option Addr} {L k : Nat} {F : Nat → Nat} {s : ISt} (h : IAt w p L F s) (hf : IForeign w p k) (gr : w.grownBy w' (some k)) : IAt w' p L F s := by
  have hs := h.st
  cases s with
  | nil => exact ⟨hs⟩
  | bad =>
    obtain ⟨g, h1, h2⟩ := hs
    exact ⟨⟨g, h1, h2.of_block (gr.block g (World.block_lt_of_cell? w _ h2.c0) (fun e => (hf g h1).1 (Option.some.inj e)))⟩⟩
  | good at' =>
    obtain ⟨g, a, c, h1, h2, h3, h4, h5⟩ := hs
    have hb := gr.block g (World.block_lt_of_cell? w _ h2.c0) (fun e => (hf g h1).1 (Option.some.inj e))
    refine ⟨⟨g, a, c, h1, h2.of_block hb, h3, h4, ⟨fun hn => ?_⟩⟩⟩
    obtain ⟨tb, o, e1, e2, e3⟩ := h5.ex hn
    refine ⟨tb, o, e1, e2, fun i hi => gr.cell (e3 i hi) (fun e => ?_)⟩
    have hc := h2.c0
    rw [e1] at hc
    exact (hf g h1).2 tb o _ _ hc (Option.some.inj e)
theorem newInF_any (D L c : Nat) (a : Option Addr) (F : Nat → Nat) (w : World) (h : Rd w D a L F) (hL : L ≤ 2 ^ 46) : Calls Try.prog 111 #[.slice a L c] w fun e w' => ∃ p, e = .returned (.pointer p) ∧ IAt w' p L F (.good 0) ∧ (∀ g, p = some ⟨g, 0, none⟩ → w.heap.size ≤ g) ∧ w.grownBy w' none ∧ ∀ k, k < w.heap.size → IForeign w' p k := by
  have HC := Lib.hid (clone_any D L c a F w h hL)
  clear h hL
  go_enter Try.func111, Try.ntmps111
  go_wp2_with fail
  go_at_call 130
  refine HC.out.mono ?_
  rintro e w1 ⟨v, rfl, hO, g1⟩
  obtain ⟨a', c', rfl, hc', hR⟩ := hO.rd
  have hb := heap_alloc_new w1 (.cells #[.slice a' L c', .bool false] 204)
  have g2 := World.grownBy_alloc w1 (.cells #[.slice a' L c', .bool false] 204) none
  have hc0 : (w1.alloc (.cells #[.slice a' L c', .bool false] 204)).cell? ⟨w1.heap.size, 0, none⟩ = some (.slice a' L c') := cell_of_row _ _ _ _ _ _ hb
  have hE : IAt (w1.alloc (.cells #[.slice a' L c', .bool false] 204)) (some ⟨w1.heap.size, 0, none⟩) L F (.good 0) :=
    ⟨⟨w1.heap.size, a', c', rfl, ⟨hc0, cell_of_row _ _ _ _ _ _ hb, fun i => frozen_of_row _ _ _ _ _ hb⟩, hc', Nat.zero_le _, (hR.grown g2 (by simp)).congr (fun i _ => by rw [Nat.zero_add])⟩⟩
  have hF : ∀ k, k < w.heap.size → IForeign (w1.alloc (.cells #[.slice a' L c', .bool false] 204)) (some ⟨w1.heap.size, 0, none⟩) k := fun k hk g hg => by
    cases hg
    have := g1.size
    refine ⟨by omega, fun tb o n c h => ?_⟩
    rw [hc0] at h
    cases h
    rcases hO.ex with ⟨e, _⟩ | ⟨b, cap, e, _, h3⟩
    · cases e
    · cases e
      omega
  have HE := Lib.hid hE
  have HF := Lib.hid hF
  have G := Lib.hid (grown_trans g1 g2)
  have HS := Lib.hid g1.size
  clear hE g1 g2 hb hO hR hc' HC hF hc0
  go_wp2_with fail
  go_ret
  exact ⟨_, rfl, HE.out, fun g e => by cases e; exact HS.out, G.out, HF.out⟩
end Go.Proofs.Ytdagbighlgfhjaa
namespace Go.Proofs.Ytdagbighlgfhjaa
open Go.RowKit

set_option maxRecDepth 100000
set_option maxHeartbeats 4000000

/-- Bytes that are handed back. -/
structure Gots (w : World) (p : Option Addr) (L : Nat) (F : Nat → Nat) (s' : ISt) (N : Nat) (f : Nat → Nat) (e : Ending) (w' : World) : Prop where
  ex : ∃ a c, e = .returned (.slice a N c) ∧ OwnN w' w.heap.size (.slice a N c) N f
  says : ISays w p L F s' w'
theorem inFixed_any {w : World} {p : Option Addr} {L : Nat} {F : Nat → Nat} {s : ISt} (n : Int) (h : IAt w p L F s) (n0 : -9223372036854775808 ≤ n) (n1 : n < 9223372036854775808) (hL : L ≤ 2 ^ 46) : Calls Try.prog 109 #[.pointer p, .int .i64 n] w (Gots w p L F (s.take L n) (s.got L n) (fun i => F (s.off + i))) := by
  have HT := Lib.hid (inTake_any n h n0 n1)
  have HG := Lib.hid (ISt.got_leL L s n)
  have HL := Lib.hid hL
  clear h n0 n1 hL
  obtain ⟨k, hk⟩ : ∃ k, k = s.got L n := ⟨_, rfl⟩
  rw [← hk] at HG ⊢
  go_enter Try.func109, Try.ntmps109
  go_wp2_with fail
  go_at_call 144
  refine HT.out.mono ?_
  rintro e w1 ⟨⟨a, c, rfl, hc, hR⟩, hE⟩
  rw [← hk] at hR hc ⊢
  obtain ⟨a', c', w2, hap, hO, g2, hkeep⟩ := app_N1 c 39 (grown_refl w1 none) (OwnN.nil w1 w1.heap.size (fun _ => 0)) hR (by have := HG.out; have := HL.out; omega)
  have HE : Hid (ISays w p L F (s.take L n) w2) := ⟨hE.st.grown0 g2, grown_trans hE.gr (grown_some g2)⟩
  have HAP := Lib.hid hap
  have HO : Hid (OwnN w2 w.heap.size (.slice a' k c') k (fun i => F (s.off + i))) := by
    rw [Nat.zero_add] at hO
    rcases hO.ex with h | ⟨b, cap, e1, e2, e3⟩
    · exact ⟨Or.inl h⟩
    · exact ⟨Or.inr ⟨b, cap, e1, e2.congr (fun i _ => by unfold cat; rw [if_neg (by omega)]; rfl), Nat.le_trans hE.gr.size e3⟩⟩
  rw [Nat.zero_add] at HAP
  clear hap hO g2 hkeep hE hR hc HT hk
  go_wp2_with (at_builtin; refine wpList_append_run rfl (.const (.slice none 0 0)) (.tmp 7) 39 39 rfl _ _ _ _ rfl rfl HAP.out ?_)
  go_ret
  exact ⟨⟨a', c', rfl, HO.out⟩, HE.out⟩
end Go.Proofs.Ytdagbighlgfhjaa
namespace Go.Proofs.Ytdagbighlgfhjaa
open Go.RowKit

set_option maxRecDepth 100000
set_option maxHeartbeats 4000000

/-- A reader, and n cells behind it; since wS only the reader was written to, of what was there. -/
structure TX (wS w : World) (g L : Nat) (F : Nat → Nat) (s : ISt) (B : Nat) (T : TypeId) (N : Nat) (v : Nat → Value) : Prop where
  inn : IAt w (some ⟨g, 0, none⟩) L F s
  row : RowAt w B T N v
  gB : g < B
  hB : wS.heap.size ≤ B
  gr : wS.grownBy w (some g)
theorem grown_into2 {w w1 w2 : World} {g B : Nat} (h1 : w.grownBy w1 (some g)) (h2 : w1.grownBy w2 (some B)) (hB : w.heap.size ≤ B) : w.grownBy w2 (some g) :=
  ⟨h2.os.trans h1.os, h2.tape.trans h1.tape, h2.output.trans h1.output, Nat.le_trans h1.size h2.size, fun k hk hne => by
    rw [h2.block k (Nat.lt_of_lt_of_le hk h1.size) (fun e => by cases e; omega), h1.block k hk hne]⟩
section
variable {wS w w' : World} {g L : Nat} {F : Nat → Nat} {s s' : ISt} {B : Nat} {T : TypeId} {N : Nat} {v v' : Nat → Value}
theorem IAt.ltS (h : IAt w (some ⟨g, 0, none⟩) L F s) : g < w.heap.size := by
  have hs := h.st
  cases s with
  | nil => cases (show (some ⟨g, 0, none⟩ : Option Addr) = none from hs)
  | bad =>
    obtain ⟨g', h1, h2⟩ := hs
    cases h1
    exact World.block_lt_of_cell? w _ h2.c0
  | good at' =>
    obtain ⟨g', a, c, h1, h2, _⟩ := hs
    cases h1
    exact World.block_lt_of_cell? w _ h2.c0
theorem TX.begin (h : IAt w (some ⟨g, 0, none⟩) L F s) (T : TypeId) (N : Nat) (v : Nat → Value) (c : Array Value) (hc : c = rowOf N v) : TX w (w.alloc (.cells c T)) g L F s w.heap.size T N v :=
  have g1 := World.grownBy_alloc w (.cells c T) none
  ⟨h.grown0 g1, RowAt.new w T N v c hc, h.ltS, Nat.le_refl _, grown_some g1⟩
theorem TX.call (h : TX wS w g L F s B T N v) (hs : ISays w (some ⟨g, 0, none⟩) L F s' w') : TX wS w' g L F s' B T N v :=
  ⟨hs.st, h.row.grown hs.gr (fun e => by
    have := h.gB
    have e : B = g := by simpa [rowP] using e
    omega), h.gB, h.hB, grown_trans h.gr hs.gr⟩
theorem TX.grown (h : TX wS w g L F s B T N v) (g1 : w.grownBy w' none) : TX wS w' g L F s B T N v :=
  ⟨h.inn.grown0 g1, h.row.grown g1 (by simp), h.gB, h.hB, grown_trans h.gr (grown_some g1)⟩
theorem TX.write (h : TX wS w g L F s B T N v) (g1 : w.grownBy w' (some B)) (hr : RowAt w' B T N v') : TX wS w' g L F s B T N v' :=
  ⟨h.inn.grown g1 (fun g' k e1 e2 => by cases e1; cases e2; exact h.gB), hr, h.gB, h.hB, grown_into2 h.gr g1 h.hB⟩
theorem TX.put (h : TX wS w g L F s B T N v) (o : Nat) (x : Value) (ho : o < N) (e : ∀ i, i < N → (if i = o then x else v i) = v' i) : TX wS (w.setCell ⟨B, o, none⟩ x) g L F s B T N v' :=
  h.write (grown_setCell_new (grown_refl w _) _ _ (Or.inr rfl)) ((h.row.put o x ho).congr e)
theorem TX.store {P : Program} (h : TX wS w g L F s B T N v) (o : Nat) (U : TypeId) (m : Nat) (u : Nat → Value) (hm : o + m ≤ N) (hi : (P.info? U).map (·.size) = some m) (h1 : ∀ j, j < m → (u j).oneCell' = true) (e : ∀ i, i < N → (if o ≤ i ∧ i < o + m then u (i - o) else v i) = v' i) :
    (Instr.storeAt U (.pointer (some ⟨B, o, none⟩)) (.agg (rowOf m u))).run P w = .ok () (w.setCells B o (rowOf m u).toList) ∧ TX wS (w.setCells B o (rowOf m u).toList) g L F s B T N v' := by
  obtain ⟨k1, k2⟩ := RowAt.store (P := P) h.row o U m u hm hi h1
  exact ⟨k1, h.write (grown_setCells B (Or.inr rfl) _ o _ (grown_refl w _)) (k2.congr e)⟩
/-- What it leaves, all told. -/
theorem TX.says (h : TX wS w g L F s B T N v) : ISays wS (some ⟨g, 0, none⟩) L F s w := ⟨h.inn, h.gr⟩
theorem RowAt.copy {a : Option Addr} {D k : Nat} {f : Nat → Nat} (h : RowAt w B T N v) (o m cs : Nat) (ho : o + m ≤ N) (hR : Rd w D a k f) (hk : k = 0 ∨ k = m) :
    (Builtin.copy_ #[39, 39] 3 #[.slice (some ⟨B, o, none⟩) m m, .slice a k cs]).run Try.prog w = .ok (.int .i64 k) (w.setCells B o ((List.range k).map fun i => Value.int .u8 (f i))) := by
  by_cases h0 : k = 0
  · subst h0
    exact run_copy_none (P := Try.prog) w 39 39 3 5 _ _ _ _ _ _ (by kernel_rfl) (by kernel_rfl) (by simp)
  · obtain rfl : k = m := by omega
    obtain ⟨tb, so, rfl, _, hc⟩ := hR.ex (by omega)
    have hcp := run_copy_cells (P := Try.prog) w 39 39 3 5 B o k k ⟨tb, so, none⟩ k cs ((List.range k).map fun j => Value.int .u8 (f j)) (by kernel_rfl) (by kernel_rfl) (by simp)
      (fun j v hv => by
        have hj : j < k := by
          have := (List.getElem?_eq_some_iff.1 hv).1
          simpa using this
        have e : v = .int .u8 (f j) := by simpa [hj] using hv.symm
        subst e
        rw [Addr.add_mid]
        exact hc j hj)
      (fun j hj => by rw [h.cell (o + j) (by simp at hj; omega)]; rfl)
      (fun j _ => h.frozen _) (fun v hv => by
        obtain ⟨i, _, rfl⟩ := List.mem_map.1 hv
        rfl)
    rw [show ((List.range k).map fun j => Value.int .u8 (f j)).length = k by simp] at hcp
    exact hcp
end
/-- What a call that follows leaves. -/
abbrev Taken (wS : World) (g L : Nat) (F : Nat → Nat) (s : ISt) (B : Nat) (T : TypeId) (N : Nat) (v : Nat → Value) (e : Ending) (w' : World) : Prop := e = .returned (.tuple #[]) ∧ TX wS w' g L F s B T N v
theorem takeFixed_any {wS w : World} {g L : Nat} {F : Nat → Nat} {s : ISt} {B : Nat} {T : TypeId} {N : Nat} {v : Nat → Value} (o m : Nat) (v' : Nat → Value) (h : TX wS w g L F s B T N v) (ho : o + m ≤ N) (hz : ∀ j, j < m → v (o + j) = .int .u8 (0 : Nat)) (hm : m ≤ 1000) (hL : L ≤ 2 ^ 46) (e : ∀ i, i < N → (if o ≤ i ∧ i < o + m then .int .u8 (s.cF L F m (i - o)) else v i) = v' i) :
    Calls Try.prog 73 #[.pointer (some ⟨g, 0, none⟩), .slice (some ⟨B, o, none⟩) m m] w (Taken wS g L F (s.take L m) B T N v') := by
  have HF := Lib.hid (inFixed_any (m : Int) h.inn (by omega) (by omega) hL)
  have HX := Lib.hid (fun (w1 : World) (hs : ISays w (some ⟨g, 0, none⟩) L F (s.take L m) w1) (a : Option Addr) (c : Nat) (hO : OwnN w1 w.heap.size (.slice a (s.got L m) c) (s.got L m) (fun i => F (s.off + i))) => show (Builtin.copy_ #[39, 39] 3 #[.slice (some ⟨B, o, none⟩) m m, .slice a (s.got L m) c]).run Try.prog w1 = .ok (.int .i64 (s.got L m : Nat)) (w1.setCells B o ((List.range (s.got L m)).map fun i => Value.int .u8 (F (s.off + i)))) ∧ TX wS (w1.setCells B o ((List.range (s.got L m)).map fun i => Value.int .u8 (F (s.off + i)))) g L F (s.take L m) B T N v' from by
    have h1 := h.call hs
    obtain ⟨a', c', e', hac, hR⟩ := hO.rd
    cases e'
    have hk : s.got L m = 0 ∨ s.got L m = m := by
      rw [ISt.got_fits]
      split
      · exact Or.inr rfl
      · exact Or.inl rfl
    refine ⟨h1.row.copy o m c ho hR hk, h1.write (grown_setCells B (Or.inr rfl) _ o _ (grown_refl w1 _)) ?_⟩
    refine (heap_setCells_at B T N _ o w1 v h1.row (by rw [List.length_map, List.length_range]; omega)).congr fun i hi => ?_
    rw [← e i hi, List.length_map, List.length_range]
    have hg := ISt.got_fits L s m
    unfold ISt.cF
    by_cases hf : s.fits L m = true
    · rw [if_pos hf] at hg
      rw [hg]
      by_cases hi2 : o ≤ i ∧ i < o + m
      · rw [if_pos hi2, if_pos hi2, if_pos hf]
        simp [show i - o < m by omega]
      · rw [if_neg hi2, if_neg hi2]
    · rw [if_neg hf] at hg
      rw [hg, if_neg (by omega)]
      by_cases hi2 : o ≤ i ∧ i < o + m
      · rw [if_pos hi2, if_neg hf]
        have := hz (i - o) (by omega)
        rwa [show o + (i - o) = i by omega] at this
      · rw [if_neg hi2])
  clear h ho hz hL e hm
  go_enter Try.func73, Try.ntmps73
  go_wp2_with fail
  go_at_call 109
  refine HF.out.mono ?_
  rintro e w1 hE
  obtain ⟨⟨a, c, rfl, hO⟩, hs⟩ := hE
  obtain ⟨h1, h2⟩ := HX.out w1 hs a c hO
  have HT := Lib.hid h2
  clear h2 hO hs HX HF
  go_wp2_with fail
  go_end0
  exact ⟨rfl, HT.out⟩
/-- The next two bytes, one by one. -/
def ISt.devC (L : Nat) (F : Nat → Nat) (s : ISt) (i : Nat) : Nat := if i = 0 then s.num L F 1 else (s.take L 1).num L F 1
structure DevSays (w : World) (g L : Nat) (F : Nat → Nat) (s : ISt) (e : Ending) (w' : World) : Prop where
  ex : e = .returned (.agg (rowOf 2 (fun j => .int .u8 (s.devC L F j))))
  says : ISays w (some ⟨g, 0, none⟩) L F ((s.take L 1).take L 1) w'
theorem takeDevice_any {w : World} {g L : Nat} {F : Nat → Nat} {s : ISt} (h : IAt w (some ⟨g, 0, none⟩) L F s) (hF : ∀ i, F i < 256) :
    Calls Try.prog 75 #[.pointer (some ⟨g, 0, none⟩)] w (DevSays w g L F s) := by
  have hT := TX.begin h 26 2 (fun _ => .int .u8 (0 : Nat)) #[.int .u8 0, .int .u8 0] rfl
  have HF := Lib.hid hF
  clear h hF
  go_enter Try.func75, Try.ntmps75
  go_upto_region 1 with fail
  obtain ⟨B, hB⟩ : ∃ B, B = w.heap.size := ⟨_, rfl⟩
  rw [← hB] at hT ⊢
  generalize w.alloc (.cells #[.int .u8 0, .int .u8 0] 26) = w1 at *
  clear hB
  have HX := Lib.hid (inU8_any hT.inn HF.out)
  have HT := Lib.hid hT
  clear hT
  go_wp2_with fail
  go_at_call 135
  refine HX.out.mono ?_
  rintro e w2 ⟨rfl, hs⟩
  have hT := HT.out.call hs
  obtain ⟨x, hx⟩ : ∃ x, x = s.num L F 1 := ⟨_, rfl⟩
  rw [← hx]
  have c0 : w2.cell? ⟨B, 0, none⟩ = some (.int .u8 (0 : Nat)) := hT.row.cell 0 (by decide)
  have f0 := hT.row.frozen 0
  have hT2 := hT.put 0 (.int .u8 (x : Nat)) (by decide) (fun i _ => rfl)
  have HX2 := Lib.hid (inU8_any hT2.inn HF.out)
  have HT2 := Lib.hid hT2
  have HXX := Lib.hid hx
  clear hT hT2 HX HT hs hx
  go_wp2_with fail
  go_at_call 135
  refine HX2.out.mono ?_
  rintro e w3 ⟨rfl, hs⟩
  have hT := HT2.out.call hs
  obtain ⟨y, hy⟩ : ∃ y, y = (s.take L 1).num L F 1 := ⟨_, rfl⟩
  rw [← hy]
  have c1 : w3.cell? ⟨B, 1, none⟩ = some (.int .u8 (0 : Nat)) := hT.row.cell 1 (by decide)
  have f1 := hT.row.frozen 1
  have hT2 := hT.put 1 (.int .u8 (y : Nat)) (by decide) (v' := fun j => .int .u8 (s.devC L F j)) (fun i hi => by
    obtain rfl | rfl : i = 0 ∨ i = 1 := by omega
    · rw [if_neg (by decide), if_pos rfl, HXX.out]; rfl
    · rw [if_pos rfl, hy]; rfl)
  have HT2 := Lib.hid hT2
  clear HX2 hs hy hT c0 f0
  go_upto_region 3 with fail
  obtain ⟨w4, hw4⟩ : ∃ W, W = w3.setCell ⟨B, 1, none⟩ (.int .u8 (y : Nat)) := ⟨_, rfl⟩
  have hT := HT2.out
  rw [← hw4] at hT ⊢
  clear hw4 HT2 c1 f1
  have HL := Lib.hid (hT.row.load (P := Try.prog) 0 26 2 _ (by decide) (fun j _ => by rw [Nat.zero_add]) (by kernel_rfl) (by kernel_rfl))
  obtain ⟨k1, k2⟩ := hT.store (P := Try.prog) 0 26 2 (fun j => .int .u8 (s.devC L F j)) (by decide) (by kernel_rfl) (fun _ _ => rfl) (v' := fun j => .int .u8 (s.devC L F j)) (fun i hi => by rw [if_pos ⟨Nat.zero_le _, by omega⟩, Nat.sub_zero])
  have HS := Lib.hid k1
  have HK := Lib.hid k2
  clear k1 k2 hT
  go_wp2_with (first | ((with_reducible refine wpList_here ?_); refine wpList_ld (p := .pointer (some ⟨B, 0, none⟩)) 2 ?_ ?_ ?_ HL.out ?_; (· rfl); go_simp; (· kernel_rfl)) | ((with_reducible refine wpList_here ?_); refine wpList_st (T := 26) (p := .pointer (some ⟨B, 0, none⟩)) (v := .agg (rowOf 2 (fun j => .int .u8 (s.devC L F j)))) (.tmp 2) (.tmp 9) ?_ ?_ ?_ ?_ ?_ HS.out ?_; (· rfl); (· rfl); go_simp; (· kernel_rfl); (· kernel_rfl)))
  exact bodyPost_ret (res_rowAt rfl rfl HK.out.row (by kernel_rfl) (by kernel_rfl)) rfl ⟨rfl, HK.out.says⟩
end Go.Proofs.Ytdagbighlgfhjaa
namespace Go.Proofs.Ytdagbighlgfhjaa
open Go.RowKit

set_option maxRecDepth 100000
set_option maxHeartbeats 4000000

/-- A record. -/
structure QV where
  id : Nat → Nat
  pe : Nat
  out : Bool
  oc : Nat
  bg : Nat
  an : Nat
  en : Nat
def QV.v (x : QV) (i : Nat) : Value := if i < 16 then .int .u8 (x.id i) else if i < 17 then .int .u8 x.pe else if i < 18 then .bool x.out else if i < 19 then .int .u8 x.oc else if i < 20 then .int .u64 x.bg else if i < 21 then .int .u64 x.an else .int .u64 x.en
theorem QV.v_id (x : QV) (j : Nat) (hj : j < 16) : x.v (0 + j) = .int .u8 (x.id j) := by
  rw [Nat.zero_add]; exact if_pos hj
theorem QV.one (x : QV) (j : Nat) : (x.v j).oneCell' = true := by
  unfold QV.v
  repeat' split
  all_goals rfl
structure QV.Ok (x : QV) : Prop where
  id : ∀ i, x.id i < 256
  pe : x.pe < 256
  oc : x.oc < 256
  bg : x.bg < 18446744073709551616
  an : x.an < 18446744073709551616
  en : x.en < 18446744073709551616
def QV.ticks (x : QV) : Bool := decide (x.bg ≤ x.en ∧ (x.an = 0 ∨ (x.bg ≤ x.an ∧ x.an ≤ x.en)))
def QV.may (x : QV) : Bool := decide (x.pe < 8 ∧ 1 ≤ x.oc ∧ x.oc ≤ 7) && x.ticks
def QV.zero : QV := ⟨fun _ => 0, 0, false, 0, 0, 0, 0⟩
theorem QV.zero_row : (#[.int .u8 0, .int .u8 0, .int .u8 0, .int .u8 0, .int .u8 0, .int .u8 0, .int .u8 0, .int .u8 0, .int .u8 0, .int .u8 0, .int .u8 0, .int .u8 0, .int .u8 0, .int .u8 0, .int .u8 0, .int .u8 0, .int .u8 0, .bool false, .int .u8 0, .int .u64 0, .int .u64 0, .int .u64 0] : Array Value) = rowOf 22 QV.zero.v := by kernel_rfl
def QV.bytes (x : QV) : Nat → Nat := cat 35 (cat 27 (cat 19 (cat 18 (cat 17 (cat 16 x.id (fun _ => x.pe)) (fun _ => flagB x.out)) (fun _ => x.oc)) (nbF x.bg 8)) (nbF x.an 8)) (nbF x.en 8)
theorem QV.put_pe (x : QV) (n : Nat) (i : Nat) (hi : i < 22) : (if i = 16 then Value.int .u8 (n : Nat) else x.v i) = ({ x with pe := n } : QV).v i := by
  unfold QV.v
  by_cases h : i = 16
  · subst h; rfl
  · rw [if_neg h]
    repeat' split
    all_goals first | rfl | (exfalso; omega)
theorem QV.put_out (x : QV) (n : Bool) (i : Nat) (hi : i < 22) : (if i = 17 then Value.bool n else x.v i) = ({ x with out := n } : QV).v i := by
  unfold QV.v
  by_cases h : i = 17
  · subst h; rfl
  · rw [if_neg h]
    repeat' split
    all_goals first | rfl | (exfalso; omega)
theorem QV.put_oc (x : QV) (n : Nat) (i : Nat) (hi : i < 22) : (if i = 18 then Value.int .u8 (n : Nat) else x.v i) = ({ x with oc := n } : QV).v i := by
  unfold QV.v
  by_cases h : i = 18
  · subst h; rfl
  · rw [if_neg h]
    repeat' split
    all_goals first | rfl | (exfalso; omega)
theorem QV.put_bg (x : QV) (n : Nat) (i : Nat) (hi : i < 22) : (if i = 19 then Value.int .u64 (n : Nat) else x.v i) = ({ x with bg := n } : QV).v i := by
  unfold QV.v
  by_cases h : i = 19
  · subst h; rfl
  · rw [if_neg h]
    repeat' split
    all_goals first | rfl | (exfalso; omega)
theorem QV.put_an (x : QV) (n : Nat) (i : Nat) (hi : i < 22) : (if i = 20 then Value.int .u64 (n : Nat) else x.v i) = ({ x with an := n } : QV).v i := by
  unfold QV.v
  by_cases h : i = 20
  · subst h; rfl
  · rw [if_neg h]
    repeat' split
    all_goals first | rfl | (exfalso; omega)
theorem QV.put_en (x : QV) (n : Nat) (i : Nat) (hi : i < 22) : (if i = 21 then Value.int .u64 (n : Nat) else x.v i) = ({ x with en := n } : QV).v i := by
  unfold QV.v
  by_cases h : i = 21
  · subst h; rfl
  · rw [if_neg h]
    repeat' split
    all_goals first | rfl | (exfalso; omega)
theorem QV.put_id (x : QV) (f : Nat → Nat) (i : Nat) : (if 0 ≤ i ∧ i < 0 + 16 then Value.int .u8 (f (i - 0)) else x.v i) = ({ x with id := f } : QV).v i := by
  unfold QV.v
  by_cases h : i < 16
  · rw [if_pos ⟨Nat.zero_le _, by omega⟩, if_pos h, Nat.sub_zero]
  · rw [if_neg (by omega), if_neg h, if_neg h]
end Go.Proofs.Ytdagbighlgfhjaa
namespace Go.Proofs.Ytdagbighlgfhjaa
open Go.RowKit

set_option maxRecDepth 100000
set_option maxHeartbeats 4000000

theorem mayTicks_any (x : QV) (w : World) : Calls Try.prog 129 #[.agg (rowOf 22 x.v)] w fun e w' => e = .returned (.bool x.ticks) ∧ w.grownBy w' none := by
  obtain ⟨id, pe, ou, oc, bg, an, en⟩ := x
  have ga := World.grownBy_alloc w (.cells (rowOf 22 (QV.mk id pe ou oc bg an en).v) 128) none
  have hX := RowAt.new w 128 22 (QV.mk id pe ou oc bg an en).v _ rfl
  go_enter Try.func129, Try.ntmps129
  go_upto_region 1 with fail
  obtain ⟨B, hB⟩ : ∃ B, B = w.heap.size := ⟨_, rfl⟩
  rw [← hB] at hX ⊢
  generalize w.alloc (.cells (rowOf 22 (QV.mk id pe ou oc bg an en).v) 128) = w1 at *
  have c19 : w1.cell? ⟨B, 19, none⟩ = some (.int .u64 (bg : Nat)) := hX.cell 19 (by decide)
  have c20 : w1.cell? ⟨B, 20, none⟩ = some (.int .u64 (an : Nat)) := hX.cell 20 (by decide)
  have c21 : w1.cell? ⟨B, 21, none⟩ = some (.int .u64 (en : Nat)) := hX.cell 21 (by decide)
  have HG := Lib.hid ga
  clear hB
  by_cases h1 : an = 0
  · have h10 : ((an : Int) == 0) = true := by rw [h1]; rfl
    by_cases h2 : bg ≤ an
    · have h20 : (bg : Int) ≤ (an : Int) := by omega
      by_cases h3 : an ≤ en
      · have h30 : (an : Int) ≤ (en : Int) := by omega
        by_cases h4 : bg ≤ en
        · have h40 : (bg : Int) ≤ (en : Int) := by omega
          have HT := Lib.hid (show (QV.mk id pe ou oc bg an en).ticks = true from by first | exact decide_eq_true (by dsimp; omega) | exact decide_eq_false (by dsimp; omega))
          clear h1 h2 h3 h4 ga hX
          go_wp2_with fail
          go_ret
          exact ⟨by rw [HT.out] <;> rfl, HG.out⟩
        · have h40 : ¬ (bg : Int) ≤ (en : Int) := by omega
          exfalso
          omega
      · have h30 : ¬ (an : Int) ≤ (en : Int) := by omega
        by_cases h4 : bg ≤ en
        · have h40 : (bg : Int) ≤ (en : Int) := by omega
          exfalso
          omega
        · have h40 : ¬ (bg : Int) ≤ (en : Int) := by omega
          exfalso
          omega
    · have h20 : ¬ (bg : Int) ≤ (an : Int) := by omega
      by_cases h3 : an ≤ en
      · have h30 : (an : Int) ≤ (en : Int) := by omega
        by_cases h4 : bg ≤ en
        · have h40 : (bg : Int) ≤ (en : Int) := by omega
          have HT := Lib.hid (show (QV.mk id pe ou oc bg an en).ticks = true from by first | exact decide_eq_true (by dsimp; omega) | exact decide_eq_false (by dsimp; omega))
          clear h1 h2 h3 h4 ga hX
          go_wp2_with fail
          go_ret
          exact ⟨by rw [HT.out] <;> rfl, HG.out⟩
        · have h40 : ¬ (bg : Int) ≤ (en : Int) := by omega
          have HT := Lib.hid (show (QV.mk id pe ou oc bg an en).ticks = false from by first | exact decide_eq_true (by dsimp; omega) | exact decide_eq_false (by dsimp; omega))
          clear h1 h2 h3 h4 ga hX
          go_wp2_with fail
          go_ret
          exact ⟨by rw [HT.out] <;> rfl, HG.out⟩
      · have h30 : ¬ (an : Int) ≤ (en : Int) := by omega
        by_cases h4 : bg ≤ en
        · have h40 : (bg : Int) ≤ (en : Int) := by omega
          exfalso
          omega
        · have h40 : ¬ (bg : Int) ≤ (en : Int) := by omega
          exfalso
          omega
  · have h10 : ((an : Int) == 0) = false := beq_eq_false_iff_ne.2 (by omega)
    by_cases h2 : bg ≤ an
    · have h20 : (bg : Int) ≤ (an : Int) := by omega
      by_cases h3 : an ≤ en
      · have h30 : (an : Int) ≤ (en : Int) := by omega
        by_cases h4 : bg ≤ en
        · have h40 : (bg : Int) ≤ (en : Int) := by omega
          have HT := Lib.hid (show (QV.mk id pe ou oc bg an en).ticks = true from by first | exact decide_eq_true (by dsimp; omega) | exact decide_eq_false (by dsimp; omega))
          clear h1 h2 h3 h4 ga hX
          go_wp2_with fail
          go_ret
          exact ⟨by rw [HT.out] <;> rfl, HG.out⟩
        · have h40 : ¬ (bg : Int) ≤ (en : Int) := by omega
          exfalso
          omega
      · have h30 : ¬ (an : Int) ≤ (en : Int) := by omega
        by_cases h4 : bg ≤ en
        · have h40 : (bg : Int) ≤ (en : Int) := by omega
          have HT := Lib.hid (show (QV.mk id pe ou oc bg an en).ticks = false from by first | exact decide_eq_true (by dsimp; omega) | exact decide_eq_false (by dsimp; omega))
          clear h1 h2 h3 h4 ga hX
          go_wp2_with fail
          go_ret
          exact ⟨by rw [HT.out] <;> rfl, HG.out⟩
        · have h40 : ¬ (bg : Int) ≤ (en : Int) := by omega
          have HT := Lib.hid (show (QV.mk id pe ou oc bg an en).ticks = false from by first | exact decide_eq_true (by dsimp; omega) | exact decide_eq_false (by dsimp; omega))
          clear h1 h2 h3 h4 ga hX
          go_wp2_with fail
          go_ret
          exact ⟨by rw [HT.out] <;> rfl, HG.out⟩
    · have h20 : ¬ (bg : Int) ≤ (an : Int) := by omega
      by_cases h3 : an ≤ en
      · have h30 : (an : Int) ≤ (en : Int) := by omega
        by_cases h4 : bg ≤ en
        · have h40 : (bg : Int) ≤ (en : Int) := by omega
          have HT := Lib.hid (show (QV.mk id pe ou oc bg an en).ticks = false from by first | exact decide_eq_true (by dsimp; omega) | exact decide_eq_false (by dsimp; omega))
          clear h1 h2 h3 h4 ga hX
          go_wp2_with fail
          go_ret
          exact ⟨by rw [HT.out] <;> rfl, HG.out⟩
        · have h40 : ¬ (bg : Int) ≤ (en : Int) := by omega
          have HT := Lib.hid (show (QV.mk id pe ou oc bg an en).ticks = false from by first | exact decide_eq_true (by dsimp; omega) | exact decide_eq_false (by dsimp; omega))
          clear h1 h2 h3 h4 ga hX
          go_wp2_with fail
          go_ret
          exact ⟨by rw [HT.out] <;> rfl, HG.out⟩
      · have h30 : ¬ (an : Int) ≤ (en : Int) := by omega
        by_cases h4 : bg ≤ en
        · have h40 : (bg : Int) ≤ (en : Int) := by omega
          exfalso
          omega
        · have h40 : ¬ (bg : Int) ≤ (en : Int) := by omega
          have HT := Lib.hid (show (QV.mk id pe ou oc bg an en).ticks = false from by first | exact decide_eq_true (by dsimp; omega) | exact decide_eq_false (by dsimp; omega))
          clear h1 h2 h3 h4 ga hX
          go_wp2_with fail
          go_ret
          exact ⟨by rw [HT.out] <;> rfl, HG.out⟩
theorem recMay_any (x : QV) (w : World) : Calls Try.prog 54 #[.agg (rowOf 22 x.v)] w fun e w' => e = .returned (.bool x.may) ∧ w.grownBy w' none := by
  obtain ⟨id, pe, ou, oc, bg, an, en⟩ := x
  have ga := World.grownBy_alloc w (.cells (rowOf 22 (QV.mk id pe ou oc bg an en).v) 128) none
  have hX := RowAt.new w 128 22 (QV.mk id pe ou oc bg an en).v _ rfl
  go_enter Try.func54, Try.ntmps54
  go_upto_region 1 with fail
  obtain ⟨B, hB⟩ : ∃ B, B = w.heap.size := ⟨_, rfl⟩
  rw [← hB] at hX ⊢
  generalize w.alloc (.cells (rowOf 22 (QV.mk id pe ou oc bg an en).v) 128) = w1 at *
  have c16 : w1.cell? ⟨B, 16, none⟩ = some (.int .u8 (pe : Nat)) := hX.cell 16 (by decide)
  have c18 : w1.cell? ⟨B, 18, none⟩ = some (.int .u8 (oc : Nat)) := hX.cell 18 (by decide)
  have HG := Lib.hid ga
  clear hB
  by_cases g1 : pe < 8
  · have g10 : (pe : Int) < 8 := by omega
    by_cases g2 : 1 ≤ oc
    · have g20 : (1 : Int) ≤ (oc : Int) := by omega
      by_cases g3 : oc ≤ 7
      · have g30 : (oc : Int) ≤ 7 := by omega
        have HM := Lib.hid (show (QV.mk id pe ou oc bg an en).may = (QV.mk id pe ou oc bg an en).ticks from by unfold QV.may; rw [decide_eq_true (show (QV.mk id pe ou oc bg an en).pe < 8 ∧ 1 ≤ (QV.mk id pe ou oc bg an en).oc ∧ (QV.mk id pe ou oc bg an en).oc ≤ 7 from ⟨g1, g2, g3⟩)]; rfl)
        have HL := Lib.hid (hX.load (P := Try.prog) 0 128 22 (QV.mk id pe ou oc bg an en).v (by decide) (fun j _ => by rw [Nat.zero_add]) (by kernel_rfl) (by kernel_rfl))
        have HC := Lib.hid (mayTicks_any ⟨id, pe, ou, oc, bg, an, en⟩ w1)
        clear g1 g2 g3 ga hX
        go_wp2_with (first | ((with_reducible refine wpList_here ?_); refine wpList_ld (p := .pointer (some ⟨B, 0, none⟩)) 1 ?_ ?_ ?_ HL.out ?_; (· rfl); go_simp; (· kernel_rfl)))
        go_at_call 129
        refine HC.out.mono ?_
        rintro e w2 ⟨rfl, g2⟩
        obtain ⟨tk, htk⟩ : ∃ t, t = (QV.mk id pe ou oc bg an en).ticks := ⟨_, rfl⟩
        rw [← htk] at HM ⊢
        have HG2 := Lib.hid (grown_trans HG.out g2)
        clear g2 HL HC htk
        go_wp2_with fail
        go_ret
        exact ⟨by rw [HM.out] <;> rfl, HG2.out⟩
      · have g30 : ¬ (oc : Int) ≤ 7 := by omega
        have HM := Lib.hid (show (QV.mk id pe ou oc bg an en).may = false from by unfold QV.may; rw [decide_eq_false (by dsimp; omega)]; rfl)
        clear g1 g2 g3 ga hX
        go_wp2_with fail
        go_ret
        exact ⟨by rw [HM.out] <;> rfl, HG.out⟩
    · have g20 : ¬ (1 : Int) ≤ (oc : Int) := by omega
      by_cases g3 : oc ≤ 7
      · have g30 : (oc : Int) ≤ 7 := by omega
        have HM := Lib.hid (show (QV.mk id pe ou oc bg an en).may = false from by unfold QV.may; rw [decide_eq_false (by dsimp; omega)]; rfl)
        clear g1 g2 g3 ga hX
        go_wp2_with fail
        go_ret
        exact ⟨by rw [HM.out] <;> rfl, HG.out⟩
      · have g30 : ¬ (oc : Int) ≤ 7 := by omega
        exfalso
        omega
  · have g10 : ¬ (pe : Int) < 8 := by omega
    by_cases g2 : 1 ≤ oc
    · have g20 : (1 : Int) ≤ (oc : Int) := by omega
      by_cases g3 : oc ≤ 7
      · have g30 : (oc : Int) ≤ 7 := by omega
        have HM := Lib.hid (show (QV.mk id pe ou oc bg an en).may = false from by unfold QV.may; rw [decide_eq_false (by dsimp; omega)]; rfl)
        clear g1 g2 g3 ga hX
        go_wp2_with fail
        go_ret
        exact ⟨by rw [HM.out] <;> rfl, HG.out⟩
      · have g30 : ¬ (oc : Int) ≤ 7 := by omega
        have HM := Lib.hid (show (QV.mk id pe ou oc bg an en).may = false from by unfold QV.may; rw [decide_eq_false (by dsimp; omega)]; rfl)
        clear g1 g2 g3 ga hX
        go_wp2_with fail
        go_ret
        exact ⟨by rw [HM.out] <;> rfl, HG.out⟩
    · have g20 : ¬ (1 : Int) ≤ (oc : Int) := by omega
      by_cases g3 : oc ≤ 7
      · have g30 : (oc : Int) ≤ 7 := by omega
        have HM := Lib.hid (show (QV.mk id pe ou oc bg an en).may = false from by unfold QV.may; rw [decide_eq_false (by dsimp; omega)]; rfl)
        clear g1 g2 g3 ga hX
        go_wp2_with fail
        go_ret
        exact ⟨by rw [HM.out] <;> rfl, HG.out⟩
      · have g30 : ¬ (oc : Int) ≤ 7 := by omega
        exfalso
        omega
end Go.Proofs.Ytdagbighlgfhjaa
namespace Go.Proofs.Ytdagbighlgfhjaa
open Go.RowKit

set_option maxRecDepth 100000
set_option maxHeartbeats 4000000

theorem inU64_any {w : World} {p : Option Addr} {L : Nat} {F : Nat → Nat} {s : ISt} (h : IAt w p L F s) (hF : ∀ i, F i < 256) : Calls Try.prog 74 #[.pointer p] w fun e w' => e = .returned (.int .u64 (s.num L F 8 : Nat)) ∧ ISays w p L F (s.take L 8) w' := by
  have HN := Lib.hid (inNumber_any 8 h (by decide) hF)
  have HV := Lib.hid (ISt.num_lt L F s 8 hF)
  obtain ⟨v, hv⟩ : ∃ v, v = s.num L F 8 := ⟨_, rfl⟩
  rw [← hv] at HV ⊢
  have HVV := Lib.hid hv
  clear h hF hv
  go_enter Try.func74, Try.ntmps74
  go_wp2_with fail
  go_at_call 134
  refine HN.out.mono ?_
  rintro e w1 ⟨rfl, hE⟩
  rw [← HVV.out]
  have HE := Lib.hid hE
  clear hE HN
  go_wp2_with fail
  go_ret
  exact ⟨rfl, HE.out⟩
end Go.Proofs.Ytdagbighlgfhjaa
namespace Go.Proofs.Ytdagbighlgfhjaa
open Go.RowKit

set_option maxRecDepth 100000
set_option maxHeartbeats 4000000

theorem TX.copied {wS w : World} {g L : Nat} {F : Nat → Nat} {s : ISt} {B : Nat} {T : TypeId} {N : Nat} {v : Nat → Value} (o m : Nat) (v' : Nat → Value) (h : TX wS w g L F s B T N v) (ho : o + m ≤ N) (hz : ∀ j, j < m → v (o + j) = .int .u8 (0 : Nat)) (e : ∀ i, i < N → (if o ≤ i ∧ i < o + m then .int .u8 (s.cF L F m (i - o)) else v i) = v' i)
    (w1 : World) (hs : ISays w (some ⟨g, 0, none⟩) L F (s.take L m) w1) (a : Option Addr) (c : Nat) (hO : OwnN w1 w.heap.size (.slice a (s.got L m) c) (s.got L m) (fun i => F (s.off + i))) :
    (Builtin.copy_ #[39, 39] 3 #[.slice (some ⟨B, o, none⟩) m m, .slice a (s.got L m) c]).run Try.prog w1 = .ok (.int .i64 (s.got L m : Nat)) (w1.setCells B o ((List.range (s.got L m)).map fun i => Value.int .u8 (F (s.off + i)))) ∧ TX wS (w1.setCells B o ((List.range (s.got L m)).map fun i => Value.int .u8 (F (s.off + i)))) g L F (s.take L m) B T N v' := by
  have h1 := h.call hs
  obtain ⟨a', c', e', hac, hR⟩ := hO.rd
  cases e'
  have hk : s.got L m = 0 ∨ s.got L m = m := by
    rw [ISt.got_fits]
    split
    · exact Or.inr rfl
    · exact Or.inl rfl
  refine ⟨h1.row.copy o m c ho hR hk, h1.write (grown_setCells B (Or.inr rfl) _ o _ (grown_refl w1 _)) ?_⟩
  refine (heap_setCells_at B T N _ o w1 v h1.row (by rw [List.length_map, List.length_range]; omega)).congr fun i hi => ?_
  rw [← e i hi, List.length_map, List.length_range]
  have hg := ISt.got_fits L s m
  unfold ISt.cF
  by_cases hf : s.fits L m = true
  · rw [if_pos hf] at hg
    rw [hg]
    by_cases hi2 : o ≤ i ∧ i < o + m
    · rw [if_pos hi2, if_pos hi2, if_pos hf]
      simp [show i - o < m by omega]
    · rw [if_neg hi2, if_neg hi2]
  · rw [if_neg hf] at hg
    rw [hg, if_neg (by omega)]
    by_cases hi2 : o ≤ i ∧ i < o + m
    · rw [if_pos hi2, if_neg hf]
      have := hz (i - o) (by omega)
      rwa [show o + (i - o) = i by omega] at this
    · rw [if_neg hi2]
theorem exec_copyQ {o : Oper} {a : Act} {w w' : World} (x y : Operand) (vx vy v : Value) (ho : o.op = .call { callee := .builtin .copy, args := #[x, y], argTypes := #[39, 39] }) (ht : o.type = 3) (hx : a.eval x = vx) (hy : a.eval y = vy)
    (h : (Builtin.copy_ #[39, 39] 3 #[vx, vy]).run Try.prog w = .ok v w') : (execOp a.eval o).run Try.prog w = .ok (.value v) w' := by
  unfold execOp
  simp [ho, ht, resolve, invoke, builtin, hx, hy, h, Result.andThen]
theorem inFixedQ_enters : ∀ args w, (callFunc 109 args).run Try.prog w = .ok (.enter 109 args) w := enters_of Try.func109 (by kernel_rfl) rfl
/-- The record that stands next, whether it may be or not. -/
def ISt.rcS (L : Nat) (F : Nat → Nat) (s : ISt) : ISt := (((((((s.take L 16).take L 1).flagS L F).take L 1).take L 8).take L 8).take L 8)
def ISt.rc (L : Nat) (F : Nat → Nat) (s : ISt) : QV :=
  ⟨s.cF L F 16, (s.take L 16).num L F 1, decide (((s.take L 16).take L 1).num L F 1 = 1), (((s.take L 16).take L 1).flagS L F).num L F 1, ((((s.take L 16).take L 1).flagS L F).take L 1).num L F 8, (((((s.take L 16).take L 1).flagS L F).take L 1).take L 8).num L F 8, ((((((s.take L 16).take L 1).flagS L F).take L 1).take L 8).take L 8).num L F 8⟩
structure RcSays (w : World) (g L : Nat) (F : Nat → Nat) (s : ISt) (e : Ending) (w' : World) : Prop where
  ex : e = .returned (.agg (rowOf 22 (s.rc L F).v))
  says : ISays w (some ⟨g, 0, none⟩) L F (s.rcS L F) w'
theorem takeFields_any {w : World} {g L : Nat} {F : Nat → Nat} {s : ISt} (h : IAt w (some ⟨g, 0, none⟩) L F s) (hF : ∀ i, F i < 256) (hL : L ≤ 2 ^ 46) :
    Calls Try.prog 126 #[.pointer (some ⟨g, 0, none⟩)] w (RcSays w g L F s) := by
  have hT := TX.begin h 128 22 QV.zero.v #[.int .u8 0, .int .u8 0, .int .u8 0, .int .u8 0, .int .u8 0, .int .u8 0, .int .u8 0, .int .u8 0, .int .u8 0, .int .u8 0, .int .u8 0, .int .u8 0, .int .u8 0, .int .u8 0, .int .u8 0, .int .u8 0, .int .u8 0, .bool false, .int .u8 0, .int .u64 0, .int .u64 0, .int .u64 0] rfl
  have HF := Lib.hid hF
  have HL := Lib.hid hL
  clear h hF hL
  go_enter Try.func126, Try.ntmps126
  go_upto_region 1 with fail
  obtain ⟨B, hB⟩ : ∃ B, B = w.heap.size := ⟨_, rfl⟩
  rw [← hB] at hT ⊢
  generalize w.alloc (.cells #[.int .u8 0, .int .u8 0, .int .u8 0, .int .u8 0, .int .u8 0, .int .u8 0, .int .u8 0, .int .u8 0, .int .u8 0, .int .u8 0, .int .u8 0, .int .u8 0, .int .u8 0, .int .u8 0, .int .u8 0, .int .u8 0, .int .u8 0, .bool false, .int .u8 0, .int .u64 0, .int .u64 0, .int .u64 0] 128) = w1 at *
  clear hB
  refine wp_region_held (S := fun _ => True) (by kernel_rfl) ?_
  change wpAnyH _ _ _ _ _ 5 #[false, false, false, false, false] _ (World.drew _)
  have hT := hT.grown (grown_drew (grown_refl w1 none))
  generalize World.drew w1 = wq at *
  refine wpAnyH_takeD (some 3) (i := 0) (v := (.pointer (some ⟨B, 0, none⟩))) rfl rfl (by kernel_rfl) (by kernel_rfl) (by kernel_rfl) (fun _ _ _ h => h) (Or.inl ⟨rfl, fun _ _ => by go_simp⟩) trivial ?_
  simp only [Act.put, List.setIfInBounds_toArray, List.set_cons_succ, List.set_cons_zero]
  refine wpAnyH_takeD (some 4) (i := 1) (v := (.slice (some ⟨B, 0, none⟩) 16 16)) rfl rfl (by kernel_rfl) (by kernel_rfl) (by kernel_rfl) (fun _ _ _ h => h) (Or.inl ⟨rfl, fun _ _ => by go_simp⟩) trivial ?_
  simp only [Act.put, List.setIfInBounds_toArray, List.set_cons_succ, List.set_cons_zero]
  refine wpAnyH_takeD (some 5) (i := 2) (v := (.pointer (some ⟨g, 0, none⟩))) rfl rfl (by kernel_rfl) (by kernel_rfl) (by kernel_rfl) (fun _ _ _ h => h) (Or.inl ⟨rfl, fun _ _ => rfl⟩) trivial ?_
  simp only [Act.put, List.setIfInBounds_toArray, List.set_cons_succ, List.set_cons_zero]
  have HX := Lib.hid (inFixed_any (16 : Int) hT.inn (by decide) (by decide) HL.out)
  have HCP := Lib.hid (fun w1 hs a c hO => TX.copied 0 16 (QV.mk (s.cF L F 16) 0 false 0 0 0 0).v hT (by decide) (fun j hj => QV.v_id QV.zero j hj) (fun i _ => QV.put_id QV.zero _ i) w1 hs a c hO)
  refine wpAnyH_callD (some 6) (i := 3) 109 #[.pointer (some ⟨g, 0, none⟩), .int .i64 16] (R := fun v W => ∃ a c, v = .slice a (s.got L 16) c ∧ OwnN W wq.heap.size (.slice a (s.got L 16) c) (s.got L 16) (fun i => F (s.off + i)) ∧ ISays wq (some ⟨g, 0, none⟩) L F (s.take L 16) W) (by kernel_rfl) rfl rfl rfl (exec_fn2 _ _ _ _ _ rfl rfl rfl) inFixedQ_enters (HX.out.mono fun e W h => by
    obtain ⟨⟨a, c, rfl, hO⟩, hs⟩ := h
    exact ⟨_, rfl, a, c, rfl, hO, hs⟩) ?_
  clear hT HX
  rintro v w2 ⟨a, c, rfl, hO, hs⟩
  refine ⟨trivial, ?_⟩
  simp only [Act.put, List.setIfInBounds_toArray, List.set_cons_succ, List.set_cons_zero]
  obtain ⟨h1, h2⟩ := HCP.out w2 hs a c hO
  obtain ⟨w3, hw3⟩ : ∃ W, W = w2.setCells B 0 ((List.range (s.got L 16)).map fun i => Value.int .u8 (F (s.off + i))) := ⟨_, rfl⟩
  have h1 : (Builtin.copy_ #[39, 39] 3 #[.slice (some ⟨B, 0, none⟩) 16 16, .slice a (s.got L 16) c]).run Try.prog w2 = .ok (.int .i64 (s.got L 16 : Nat)) (w2.setCells B 0 ((List.range (s.got L 16)).map fun i => Value.int .u8 (F (s.off + i)))) := h1
  have h2 : TX w (w2.setCells B 0 ((List.range (s.got L 16)).map fun i => Value.int .u8 (F (s.off + i)))) g L F (s.take L 16) B 128 22 (QV.mk (s.cF L F 16) 0 false 0 0 0 0).v := h2
  rw [← hw3] at h1 h2
  obtain ⟨f1, hf1⟩ : ∃ f, f = s.cF L F 16 := ⟨_, rfl⟩
  rw [← hf1] at h2
  have HF1 := Lib.hid hf1
  have HT := Lib.hid h2
  clear h2 hO hs HCP hw3 hf1
  obtain ⟨gt, hgt⟩ : ∃ x, x = s.got L 16 := ⟨_, rfl⟩
  rw [← hgt] at h1 ⊢
  clear hgt
  refine wpAnyH_yieldD (some 7) (i := 4) (v := .int .i64 (gt : Nat)) (by kernel_rfl) rfl rfl rfl (exec_copyQ (.tmp 4) (.tmp 6) _ _ _ rfl rfl rfl rfl h1) trivial ?_
  simp only [Act.put, List.setIfInBounds_toArray, List.set_cons_succ, List.set_cons_zero]
  refine wpAnyH_done (by kernel_rfl) ?_ _
  have hT := HT.out
  clear HT h1
  go_upto_region 2 with fail
  have HX := Lib.hid (inU8_any hT.inn HF.out)
  have HT := Lib.hid hT
  clear hT
  go_wp2_with fail
  go_at_call 135
  refine HX.out.mono ?_
  rintro e w4 ⟨rfl, hs⟩
  have hT := HT.out.call hs
  obtain ⟨n2, hn2⟩ : ∃ x, x = (s.take L 16).num L F 1 := ⟨_, rfl⟩
  rw [← hn2]
  have HNn2 := Lib.hid hn2
  clear HX HT hs hn2
  have cc : w4.cell? ⟨B, 16, none⟩ = some (.int .u8 (0 : Nat)) := hT.row.cell 16 (by decide)
  have ff := hT.row.frozen 16
  have hT2 := hT.put 16 (.int .u8 (n2 : Nat)) (by decide) (v' := (QV.mk f1 n2 false 0 0 0 0).v) (fun i hi => QV.put_pe (QV.mk f1 0 false 0 0 0 0) n2 i hi)
  have HT2 := Lib.hid hT2
  clear hT hT2
  go_upto_region 3 with fail
  have hT := HT2.out
  obtain ⟨w4', hw'⟩ : ∃ W, W = w4.setCell ⟨B, 16, none⟩ (.int .u8 (n2 : Nat)) := ⟨_, rfl⟩
  rw [← hw'] at hT ⊢
  clear hw' HT2 cc ff
  have HX := Lib.hid (inFlag_any hT.inn HF.out)
  have HT := Lib.hid hT
  clear hT
  go_wp2_with fail
  go_at_call 142
  refine HX.out.mono ?_
  rintro e w5 ⟨rfl, hs⟩
  have hT := HT.out.call hs
  obtain ⟨b3, hb3⟩ : ∃ x, x = decide (((s.take L 16).take L 1).num L F 1 = 1) := ⟨_, rfl⟩
  rw [← hb3]
  have HNb3 := Lib.hid hb3
  clear HX HT hs hb3
  have cc : w5.cell? ⟨B, 17, none⟩ = some (.bool false) := hT.row.cell 17 (by decide)
  have ff := hT.row.frozen 17
  have hT2 := hT.put 17 (.bool b3) (by decide) (v' := (QV.mk f1 n2 b3 0 0 0 0).v) (fun i hi => QV.put_out (QV.mk f1 n2 false 0 0 0 0) b3 i hi)
  have HT2 := Lib.hid hT2
  clear hT hT2
  go_upto_region 4 with fail
  have hT := HT2.out
  obtain ⟨w5', hw'⟩ : ∃ W, W = w5.setCell ⟨B, 17, none⟩ (.bool b3) := ⟨_, rfl⟩
  rw [← hw'] at hT ⊢
  clear hw' HT2 cc ff
  have HX := Lib.hid (inU8_any hT.inn HF.out)
  have HT := Lib.hid hT
  clear hT
  go_wp2_with fail
  go_at_call 135
  refine HX.out.mono ?_
  rintro e w6 ⟨rfl, hs⟩
  have hT := HT.out.call hs
  obtain ⟨n4, hn4⟩ : ∃ x, x = (((s.take L 16).take L 1).flagS L F).num L F 1 := ⟨_, rfl⟩
  rw [← hn4]
  have HNn4 := Lib.hid hn4
  clear HX HT hs hn4
  have cc : w6.cell? ⟨B, 18, none⟩ = some (.int .u8 (0 : Nat)) := hT.row.cell 18 (by decide)
  have ff := hT.row.frozen 18
  have hT2 := hT.put 18 (.int .u8 (n4 : Nat)) (by decide) (v' := (QV.mk f1 n2 b3 n4 0 0 0).v) (fun i hi => QV.put_oc (QV.mk f1 n2 b3 0 0 0 0) n4 i hi)
  have HT2 := Lib.hid hT2
  clear hT hT2
  go_upto_region 5 with fail
  have hT := HT2.out
  obtain ⟨w6', hw'⟩ : ∃ W, W = w6.setCell ⟨B, 18, none⟩ (.int .u8 (n4 : Nat)) := ⟨_, rfl⟩
  rw [← hw'] at hT ⊢
  clear hw' HT2 cc ff
  have HX := Lib.hid (inU64_any hT.inn HF.out)
  have HT := Lib.hid hT
  clear hT
  go_wp2_with fail
  go_at_call 74
  refine HX.out.mono ?_
  rintro e w7 ⟨rfl, hs⟩
  have hT := HT.out.call hs
  obtain ⟨n5, hn5⟩ : ∃ x, x = ((((s.take L 16).take L 1).flagS L F).take L 1).num L F 8 := ⟨_, rfl⟩
  rw [← hn5]
  have HNn5 := Lib.hid hn5
  clear HX HT hs hn5
  have cc : w7.cell? ⟨B, 19, none⟩ = some (.int .u64 (0 : Nat)) := hT.row.cell 19 (by decide)
  have ff := hT.row.frozen 19
  have hT2 := hT.put 19 (.int .u64 (n5 : Nat)) (by decide) (v' := (QV.mk f1 n2 b3 n4 n5 0 0).v) (fun i hi => QV.put_bg (QV.mk f1 n2 b3 n4 0 0 0) n5 i hi)
  have HT2 := Lib.hid hT2
  clear hT hT2
  go_upto_region 6 with fail
  have hT := HT2.out
  obtain ⟨w7', hw'⟩ : ∃ W, W = w7.setCell ⟨B, 19, none⟩ (.int .u64 (n5 : Nat)) := ⟨_, rfl⟩
  rw [← hw'] at hT ⊢
  clear hw' HT2 cc ff
  have HX := Lib.hid (inU64_any hT.inn HF.out)
  have HT := Lib.hid hT
  clear hT
  go_wp2_with fail
  go_at_call 74
  refine HX.out.mono ?_
  rintro e w8 ⟨rfl, hs⟩
  have hT := HT.out.call hs
  obtain ⟨n6, hn6⟩ : ∃ x, x = (((((s.take L 16).take L 1).flagS L F).take L 1).take L 8).num L F 8 := ⟨_, rfl⟩
  rw [← hn6]
  have HNn6 := Lib.hid hn6
  clear HX HT hs hn6
  have cc : w8.cell? ⟨B, 20, none⟩ = some (.int .u64 (0 : Nat)) := hT.row.cell 20 (by decide)
  have ff := hT.row.frozen 20
  have hT2 := hT.put 20 (.int .u64 (n6 : Nat)) (by decide) (v' := (QV.mk f1 n2 b3 n4 n5 n6 0).v) (fun i hi => QV.put_an (QV.mk f1 n2 b3 n4 n5 0 0) n6 i hi)
  have HT2 := Lib.hid hT2
  clear hT hT2
  go_upto_region 7 with fail
  have hT := HT2.out
  obtain ⟨w8', hw'⟩ : ∃ W, W = w8.setCell ⟨B, 20, none⟩ (.int .u64 (n6 : Nat)) := ⟨_, rfl⟩
  rw [← hw'] at hT ⊢
  clear hw' HT2 cc ff
  have HX := Lib.hid (inU64_any hT.inn HF.out)
  have HT := Lib.hid hT
  clear hT
  go_wp2_with fail
  go_at_call 74
  refine HX.out.mono ?_
  rintro e w9 ⟨rfl, hs⟩
  have hT := HT.out.call hs
  obtain ⟨n7, hn7⟩ : ∃ x, x = ((((((s.take L 16).take L 1).flagS L F).take L 1).take L 8).take L 8).num L F 8 := ⟨_, rfl⟩
  rw [← hn7]
  have HNn7 := Lib.hid hn7
  clear HX HT hs hn7
  have cc : w9.cell? ⟨B, 21, none⟩ = some (.int .u64 (0 : Nat)) := hT.row.cell 21 (by decide)
  have ff := hT.row.frozen 21
  have hT2 := hT.put 21 (.int .u64 (n7 : Nat)) (by decide) (v' := (QV.mk f1 n2 b3 n4 n5 n6 n7).v) (fun i hi => QV.put_en (QV.mk f1 n2 b3 n4 n5 n6 0) n7 i hi)
  have HT2 := Lib.hid hT2
  clear hT hT2
  go_upto_region 8 with fail
  have hT := HT2.out
  obtain ⟨w9', hw'⟩ : ∃ W, W = w9.setCell ⟨B, 21, none⟩ (.int .u64 (n7 : Nat)) := ⟨_, rfl⟩
  rw [← hw'] at hT ⊢
  clear hw' HT2 cc ff
  have HLD := Lib.hid (hT.row.load (P := Try.prog) 0 128 22 _ (by decide) (fun j _ => by rw [Nat.zero_add]) (by kernel_rfl) (by kernel_rfl))
  obtain ⟨k1, k2⟩ := hT.store (P := Try.prog) 0 128 22 (QV.mk f1 n2 b3 n4 n5 n6 n7).v (by decide) (by kernel_rfl) (fun j _ => by exact QV.one _ j) (v' := (QV.mk f1 n2 b3 n4 n5 n6 n7).v) (fun i hi => by rw [if_pos ⟨Nat.zero_le _, by omega⟩, Nat.sub_zero])
  have HS := Lib.hid k1
  have HK := Lib.hid k2
  clear k1 k2 hT
  go_wp2_with (first | ((with_reducible refine wpList_here ?_); refine wpList_ld (p := .pointer (some ⟨B, 0, none⟩)) 2 ?_ ?_ ?_ HLD.out ?_; (· rfl); go_simp; (· kernel_rfl)) | ((with_reducible refine wpList_here ?_); refine wpList_st (T := 128) (p := .pointer (some ⟨B, 0, none⟩)) (v := .agg (rowOf 22 (QV.mk f1 n2 b3 n4 n5 n6 n7).v)) (.tmp 2) (.tmp 26) ?_ ?_ ?_ ?_ ?_ HS.out ?_; (· rfl); (· rfl); go_simp; (· kernel_rfl); (· kernel_rfl)))
  exact bodyPost_ret (res_rowAt rfl rfl HK.out.row (by kernel_rfl) (by kernel_rfl)) rfl ⟨by rw [HF1.out, HNn2.out, HNb3.out, HNn4.out, HNn5.out, HNn6.out, HNn7.out]; rfl, HK.out.says⟩
end Go.Proofs.Ytdagbighlgfhjaa
namespace Go.Proofs.Ytdagbighlgfhjaa
open Go.RowKit

set_option maxRecDepth 100000
set_option maxHeartbeats 4000000

theorem IAt.codeR {w : World} {g L : Nat} {F : Nat → Nat} {s : ISt} (h : IAt w (some ⟨g, 0, none⟩) L F s) : match s.all L with | true => s.code L = 0 | false => ¬ s.code L = 0 := by
  have hs := h.st
  cases s with
  | nil => cases (show (some ⟨g, 0, none⟩ : Option Addr) = none from hs)
  | bad => show ¬ (9 : Int) = 0; decide
  | good at' =>
    obtain ⟨_, _, _, _, _, _, h4, _⟩ := hs
    show match decide (at' = L) with | true => (if 0 < L - at' then (9 : Int) else 0) = 0 | false => ¬ (if 0 < L - at' then (9 : Int) else 0) = 0
    by_cases e : at' = L
    · subst e
      simp
    · rw [decide_eq_false e, if_pos (by omega)]
      decide
theorem QV.zero_agg : Value.agg #[.int .u8 0, .int .u8 0, .int .u8 0, .int .u8 0, .int .u8 0, .int .u8 0, .int .u8 0, .int .u8 0, .int .u8 0, .int .u8 0, .int .u8 0, .int .u8 0, .int .u8 0, .int .u8 0, .int .u8 0, .int .u8 0, .int .u8 0, .bool false, .int .u8 0, .int .u64 0, .int .u64 0, .int .u64 0] = .agg (rowOf 22 QV.zero.v) := by rw [QV.zero_row]
/-- Whether bytes are a record's that may be; which. -/
def rcOk (L : Nat) (F : Nat → Nat) : Bool := ((ISt.good 0).rcS L F).all L && ((ISt.good 0).rc L F).may
def rcOf (L : Nat) (F : Nat → Nat) : QV := if rcOk L F = true then (ISt.good 0).rc L F else QV.zero
def rcRes (ok : Bool) (x : QV) : Value := .tuple #[.agg (rowOf 22 (if ok = true then x else QV.zero).v), .int .i64 (if ok = true then 0 else 9)]
theorem recTake_any (D L c : Nat) (a : Option Addr) (F : Nat → Nat) (w : World) (hRd : Rd w D a L F) (hL : L ≤ 2 ^ 46) (hF : ∀ i, F i < 256) :
    Calls Try.prog 50 #[.slice a L c] w fun e w' => e = .returned (rcRes (rcOk L F) ((ISt.good 0).rc L F)) ∧ w.grownBy w' none := by
  have ga := World.grownBy_alloc w (.cells #[.int .u8 0, .int .u8 0, .int .u8 0, .int .u8 0, .int .u8 0, .int .u8 0, .int .u8 0, .int .u8 0, .int .u8 0, .int .u8 0, .int .u8 0, .int .u8 0, .int .u8 0, .int .u8 0, .int .u8 0, .int .u8 0, .int .u8 0, .bool false, .int .u8 0, .int .u64 0, .int .u64 0, .int .u64 0] 128) none
  have hR := RowAt.new w 128 22 QV.zero.v _ QV.zero_row
  have hz := World.size_alloc w (.cells #[.int .u8 0, .int .u8 0, .int .u8 0, .int .u8 0, .int .u8 0, .int .u8 0, .int .u8 0, .int .u8 0, .int .u8 0, .int .u8 0, .int .u8 0, .int .u8 0, .int .u8 0, .int .u8 0, .int .u8 0, .int .u8 0, .int .u8 0, .bool false, .int .u8 0, .int .u64 0, .int .u64 0, .int .u64 0] 128)
  have hRd := hRd.grown ga (by simp)
  have HF := Lib.hid hF
  have HL := Lib.hid hL
  obtain ⟨x, hx⟩ : ∃ x, x = (ISt.good 0).rc L F := ⟨_, rfl⟩
  obtain ⟨s, hss⟩ : ∃ s, s = (ISt.good 0).rcS L F := ⟨_, rfl⟩
  obtain ⟨ok, hok⟩ : ∃ ok, ok = rcOk L F := ⟨_, rfl⟩
  have HOK := Lib.hid (show ok = (s.all L && x.may) by rw [hok, hx, hss]; rfl)
  rw [← hx, ← hok]
  have HX0 := Lib.hid hx
  have HS0 := Lib.hid hss
  clear hF hL hx hss hok
  go_enter Try.func50, Try.ntmps50
  go_upto_region 1 with fail
  obtain ⟨B, hB⟩ : ∃ B, B = w.heap.size := ⟨_, rfl⟩
  rw [← hB] at hR hz ⊢
  generalize w.alloc (.cells #[.int .u8 0, .int .u8 0, .int .u8 0, .int .u8 0, .int .u8 0, .int .u8 0, .int .u8 0, .int .u8 0, .int .u8 0, .int .u8 0, .int .u8 0, .int .u8 0, .int .u8 0, .int .u8 0, .int .u8 0, .int .u8 0, .int .u8 0, .bool false, .int .u8 0, .int .u64 0, .int .u64 0, .int .u64 0] 128) = w1 at *
  have HB := Lib.hid (And.intro hB hz)
  have HNI := Lib.hid (newInF_any D L c a F w1 hRd HL.out)
  have HG1 := Lib.hid ga
  have HR := Lib.hid hR
  clear hB hz hRd ga hR
  go_wp2_with fail
  go_at_call 111
  refine HNI.out.mono ?_
  rintro e w2 ⟨p, rfl, hI, hgp, g2, _⟩
  obtain ⟨g, rfl⟩ : ∃ g, p = some ⟨g, 0, none⟩ := by
    obtain ⟨g', a, c, e, _⟩ := hI.st
    exact ⟨g', e⟩
  have hgg := hgp g rfl
  have HGG := Lib.hid (show B < g from by have := HB.out.2; omega)
  have HX := Lib.hid (takeFields_any hI HF.out HL.out)
  have hR := HR.out.grown g2 (by simp)
  have hG := grown_trans HG1.out g2
  have HR := Lib.hid hR
  have HGW := Lib.hid hG
  clear hgp HNI hI g2 hgg HG1 hG hR
  go_wp2_with fail
  go_at_call 126
  refine HX.out.mono ?_
  rintro e w3 ⟨rfl, hs⟩
  have hR := HR.out.grown hs.gr (fun e => by have := HGG.out; have e : B = g := by simpa [rowP] using e
                                             omega)
  have hG : w.grownBy w3 none := grown_into HGW.out (show w2.grownBy w3 (some g) from hs.gr) (by have := HGG.out; have := HB.out.1; omega)
  rw [← HS0.out] at hs
  rw [← HX0.out]
  have hN := RowAt.new w3 128 22 QV.zero.v _ QV.zero_row
  obtain ⟨k1, k2⟩ := RowAt.store (P := Try.prog) hN 0 128 22 x.v (by decide) (by kernel_rfl) (fun j _ => QV.one _ j)
  have gx : w3.grownBy ((w3.alloc (.cells #[.int .u8 0, .int .u8 0, .int .u8 0, .int .u8 0, .int .u8 0, .int .u8 0, .int .u8 0, .int .u8 0, .int .u8 0, .int .u8 0, .int .u8 0, .int .u8 0, .int .u8 0, .int .u8 0, .int .u8 0, .int .u8 0, .int .u8 0, .bool false, .int .u8 0, .int .u64 0, .int .u64 0, .int .u64 0] 128)).setCells w3.heap.size 0 (rowOf 22 x.v).toList) none := grown_setCells w3.heap.size (Or.inl (Nat.le_refl _)) _ 0 _ (World.grownBy_alloc w3 _ none)
  have hX := k2.congr (v' := x.v) fun i hi => by rw [if_pos ⟨Nat.zero_le _, by omega⟩, Nat.sub_zero]
  have hI := hs.st.grown0 gx
  have hR := hR.grown gx (by simp)
  have hG := grown_trans hG gx
  have HLT := Lib.hid (show B < w3.heap.size by have := hs.st.ltS; have := HGG.out; omega)
  obtain ⟨X, hXX⟩ : ∃ X, X = w3.heap.size := ⟨_, rfl⟩
  obtain ⟨w4, hw4⟩ : ∃ W, W = (w3.alloc (.cells #[.int .u8 0, .int .u8 0, .int .u8 0, .int .u8 0, .int .u8 0, .int .u8 0, .int .u8 0, .int .u8 0, .int .u8 0, .int .u8 0, .int .u8 0, .int .u8 0, .int .u8 0, .int .u8 0, .int .u8 0, .int .u8 0, .int .u8 0, .bool false, .int .u8 0, .int .u64 0, .int .u64 0, .int .u64 0] 128)).setCells X 0 (rowOf 22 x.v).toList := ⟨_, rfl⟩
  rw [← hXX] at HLT
  rw [← hXX, ← hw4] at k1 k2 gx hX hI hR hG
  have HS := Lib.hid k1
  have HW4 := Lib.hid hw4
  have HXX := Lib.hid hXX
  have HE := Lib.hid (inEnd_any hI)
  have hcode := hI.codeR
  have HCO := Lib.hid hcode
  have HX := Lib.hid hX
  have HR := Lib.hid hR
  have HG := Lib.hid hG
  clear hs k1 k2 gx hX hI hR hG hXX hw4 hN hcode HGW HX0 HS0
  go_upto_region 3 with (first | ((with_reducible refine wpList_here ?_); refine wpList_st (T := 128) (p := .pointer (some ⟨w3.heap.size, 0, none⟩)) (v := .agg (rowOf 22 x.v)) (.tmp 5) (.tmp 9) ?_ ?_ ?_ ?_ ?_ (by rw [← HXX.out]; exact HS.out) ?_; (· rfl); (· rfl); go_simp; (· kernel_rfl); (· kernel_rfl)))
  rw [← HXX.out]
  have HLX := Lib.hid (HX.out.load (P := Try.prog) 0 128 22 x.v (by decide) (fun j _ => by rw [Nat.zero_add]) (by kernel_rfl) (by kernel_rfl))
  clear HS HW4 HXX HLT
  obtain ⟨cd, hcd⟩ : ∃ x, x = s.code L := ⟨_, rfl⟩
  obtain ⟨al, hal⟩ : ∃ x, x = s.all L := ⟨_, rfl⟩
  have hcode := HCO.out
  rw [← hcd, ← hal] at hcode
  rw [← hcd] at HE
  have HAL := Lib.hid hal
  clear hcd hal HCO
  go_wp2_with fail
  go_at_call 112
  refine HE.out.mono ?_
  rintro e w5 ⟨rfl, rfl⟩
  clear HE
  cases al with
  | false =>
    have hne : ¬ cd = 0 := hcode
    have hR := HR.out
    have hX := HX.out
    clear HR HX hcode
    obtain ⟨k1, k2⟩ := RowAt.store (P := Try.prog) hR 0 128 22 QV.zero.v (by decide) (by kernel_rfl) (fun j _ => QV.one _ j)
    obtain ⟨wz, hwz⟩ : ∃ W, W = w4.setCells B 0 (rowOf 22 QV.zero.v).toList := ⟨_, rfl⟩
    rw [← hwz] at k1 k2
    have gz : w4.grownBy wz (some B) := by rw [hwz]; exact grown_setCells B (Or.inr rfl) _ 0 _ (grown_refl _ _)
    have HK := Lib.hid (k2.congr (v' := QV.zero.v) fun i hi => by rw [if_pos ⟨Nat.zero_le _, by omega⟩, Nat.sub_zero])
    have HS := Lib.hid k1
    have HGZ := Lib.hid (grown_into HG.out gz (by have := HB.out; omega))
    clear k1 k2 hwz gz hR hX
    go_wp2_with (first | ((with_reducible refine wpList_here ?_); refine wpList_st (T := 128) (p := .pointer (some ⟨B, 0, none⟩)) (v := .agg (rowOf 22 QV.zero.v)) (.tmp 2) (.tmp 18) ?_ ?_ ?_ ?_ ?_ HS.out ?_; (· rfl); (· rfl); go_simp; (· kernel_rfl); (· kernel_rfl)))
    exact bodyPost_ret (res_rowAt2 rfl rfl rfl HK.out (by kernel_rfl) (by kernel_rfl)) rfl ⟨by rw [HOK.out, ← HAL.out]; rfl, HGZ.out⟩
  | true =>
    obtain rfl : cd = 0 := hcode
    have HMY := Lib.hid (recMay_any x w4)
    go_wp2_with (first | ((with_reducible refine wpList_here ?_); refine wpList_ld (p := .pointer (some ⟨X, 0, none⟩)) 5 ?_ ?_ ?_ HLX.out ?_; (· rfl); go_simp; (· kernel_rfl)))
    go_at_call 54
    refine HMY.out.mono ?_
    rintro e w6 ⟨rfl, g6⟩
    have hR := HR.out.grown g6 (by simp)
    have hX := HX.out.grown g6 (by simp)
    have HG2 := Lib.hid (grown_trans HG.out g6)
    clear g6 HR HX HMY HLX HG
    have HG := HG2
    clear HG2
    have HLX := Lib.hid (hX.load (P := Try.prog) 0 128 22 x.v (by decide) (fun j _ => by rw [Nat.zero_add]) (by kernel_rfl) (by kernel_rfl))
    obtain ⟨m, hm⟩ : ∃ m, m = x.may := ⟨_, rfl⟩
    rw [← hm]
    have HMM := Lib.hid hm
    clear hm
    cases m with
    | false =>
      obtain ⟨k1, k2⟩ := RowAt.store (P := Try.prog) hR 0 128 22 QV.zero.v (by decide) (by kernel_rfl) (fun j _ => QV.one _ j)
      obtain ⟨wz, hwz⟩ : ∃ W, W = w6.setCells B 0 (rowOf 22 QV.zero.v).toList := ⟨_, rfl⟩
      rw [← hwz] at k1 k2
      have gz : w6.grownBy wz (some B) := by rw [hwz]; exact grown_setCells B (Or.inr rfl) _ 0 _ (grown_refl _ _)
      have HK := Lib.hid (k2.congr (v' := QV.zero.v) fun i hi => by rw [if_pos ⟨Nat.zero_le _, by omega⟩, Nat.sub_zero])
      have HS := Lib.hid k1
      have HGZ := Lib.hid (grown_into HG.out gz (by have := HB.out; omega))
      clear k1 k2 hwz gz hR hX
      go_wp2_with (first | ((with_reducible refine wpList_here ?_); refine wpList_st (T := 128) (p := .pointer (some ⟨B, 0, none⟩)) (v := .agg (rowOf 22 QV.zero.v)) (.tmp 2) (.tmp 18) ?_ ?_ ?_ ?_ ?_ HS.out ?_; (· rfl); (· rfl); go_simp; (· kernel_rfl); (· kernel_rfl)))
      exact bodyPost_ret (res_rowAt2 rfl rfl rfl HK.out (by kernel_rfl) (by kernel_rfl)) rfl ⟨by rw [HOK.out, ← HAL.out, ← HMM.out]; rfl, HGZ.out⟩
    | true =>
      obtain ⟨k1, k2⟩ := RowAt.store (P := Try.prog) hR 0 128 22 x.v (by decide) (by kernel_rfl) (fun j _ => QV.one _ j)
      obtain ⟨wz, hwz⟩ : ∃ W, W = w6.setCells B 0 (rowOf 22 x.v).toList := ⟨_, rfl⟩
      rw [← hwz] at k1 k2
      have gz : w6.grownBy wz (some B) := by rw [hwz]; exact grown_setCells B (Or.inr rfl) _ 0 _ (grown_refl _ _)
      have HK := Lib.hid (k2.congr (v' := x.v) fun i hi => by rw [if_pos ⟨Nat.zero_le _, by omega⟩, Nat.sub_zero])
      have HS := Lib.hid k1
      have HGZ := Lib.hid (grown_into HG.out gz (by have := HB.out; omega))
      clear k1 k2 hwz gz hR hX
      go_wp2_with (first | ((with_reducible refine wpList_here ?_); refine wpList_ld (p := .pointer (some ⟨X, 0, none⟩)) 5 ?_ ?_ ?_ HLX.out ?_; (· rfl); go_simp; (· kernel_rfl)) | ((with_reducible refine wpList_here ?_); refine wpList_st (T := 128) (p := .pointer (some ⟨B, 0, none⟩)) (v := .agg (rowOf 22 x.v)) (.tmp 2) (.tmp 19) ?_ ?_ ?_ ?_ ?_ HS.out ?_; (· rfl); (· rfl); go_simp; (· kernel_rfl); (· kernel_rfl)))
      exact bodyPost_ret (res_rowAt2 rfl rfl rfl HK.out (by kernel_rfl) (by kernel_rfl)) rfl ⟨by rw [HOK.out, ← HAL.out, ← HMM.out]; rfl, HGZ.out⟩
end Go.Proofs.Ytdagbighlgfhjaa
namespace Go.Proofs.Ytdagbighlgfhjaa
open Go.RowKit

set_option maxRecDepth 100000

/-- The record that 43 bytes tell. -/
def recF (F : Nat → Nat) : QV := ⟨F, F 16, decide (F 17 = 1), F 18, ofB8 (fun i => F (19 + i)) 8, ofB8 (fun i => F (27 + i)) 8, ofB8 (fun i => F (35 + i)) 8⟩
def recOk (L : Nat) (F : Nat → Nat) : Bool := decide (L = 43 ∧ F 17 ≤ 1) && (recF F).may
theorem num1_good (L : Nat) (F : Nat → Nat) (a : Nat) (h : a + 1 ≤ L) : (ISt.good a).num L F 1 = F a := by
  have : ISt.got L (.good a) ((1 : Nat) : Int) = 1 := if_pos (by omega)
  unfold ISt.num
  rw [this]
  show 256 * 0 + F (a + 0) = F a
  simp
theorem take_good (L a n : Nat) : ISt.take L (.good a) (n : Int) = if a + n ≤ L ∨ n = 0 then .good (a + n) else .bad := by
  show (if 0 ≤ (n : Int) ∧ (n : Int) ≤ ((L - a : Nat) : Int) then ISt.good (a + (n : Int).toNat) else .bad) = _
  by_cases h : a + n ≤ L ∨ n = 0
  · rw [if_pos h, if_pos (by omega)]; simp
  · rw [if_neg h, if_neg (by omega)]
theorem at_take {L a n : Nat} {s : ISt} (h : s = .bad ∨ s = .good a) : s.take L (n : Int) = .bad ∨ s.take L (n : Int) = .good (a + n) := by
  rcases h with rfl | rfl
  · exact Or.inl rfl
  · rw [take_good]
    split
    · exact Or.inr rfl
    · exact Or.inl rfl
theorem at_flag {L a : Nat} {F : Nat → Nat} {s : ISt} (h : s = .bad ∨ s = .good a) : s.flagS L F = .bad ∨ s.flagS L F = .good (a + 1) := by
  unfold ISt.flagS
  split
  · rcases at_take (L := L) (n := 1) h with e | e
    · left; exact (congrArg ISt.fail e).trans rfl
    · left; exact (congrArg ISt.fail e).trans rfl
  · exact at_take (L := L) (n := 1) h
theorem rcS_at (L : Nat) (F : Nat → Nat) : (ISt.good 0).rcS L F = .bad ∨ (ISt.good 0).rcS L F = .good 43 :=
  at_take (n := 8) (at_take (n := 8) (at_take (n := 8) (at_take (n := 1) (at_flag (at_take (n := 1) (at_take (L := L) (n := 16) (Or.inr rfl)))))))
theorem rcOk_not (L : Nat) (F : Nat → Nat) (h : L ≠ 43) : rcOk L F = false := by
  have : ((ISt.good 0).rcS L F).all L = false := by
    rcases rcS_at L F with e | e
    · rw [e]; rfl
    · rw [e]; exact decide_eq_false (fun e => h e.symm)
  unfold rcOk
  rw [this]; rfl
theorem flag43 (F : Nat → Nat) : (ISt.good 17).flagS 43 F = if F 17 ≤ 1 then .good 18 else .bad := by
  unfold ISt.flagS
  rw [num1_good 43 F 17 (by decide)]
  by_cases h : F 17 ≤ 1
  · rw [if_neg (by omega), if_pos h]; rfl
  · rw [if_pos (by omega), if_neg h]; rfl
theorem rcS43 (F : Nat → Nat) : (ISt.good 0).rcS 43 F = if F 17 ≤ 1 then .good 43 else .bad := by
  have : (ISt.good 0).rcS 43 F = (((((ISt.good 17).flagS 43 F).take 43 1).take 43 8).take 43 8).take 43 8 := rfl
  rw [this, flag43]
  split <;> rfl
theorem rc43 (F : Nat → Nat) (h : F 17 ≤ 1) (i : Nat) : ((ISt.good 0).rc 43 F).v i = (recF F).v i := by
  have e : (ISt.good 0).rc 43 F = ⟨(ISt.good 0).cF 43 F 16, (ISt.good 16).num 43 F 1, decide ((ISt.good 17).num 43 F 1 = 1), ((ISt.good 17).flagS 43 F).num 43 F 1, ((((ISt.good 17).flagS 43 F).take 43 1)).num 43 F 8, ((((ISt.good 17).flagS 43 F).take 43 1).take 43 8).num 43 F 8, (((((ISt.good 17).flagS 43 F).take 43 1).take 43 8).take 43 8).num 43 F 8⟩ := rfl
  rw [e, flag43, if_pos h, num1_good 43 F 16 (by decide), num1_good 43 F 17 (by decide), num1_good 43 F 18 (by decide)]
  have c : ∀ i, (ISt.good 0).cF 43 F 16 i = F i := fun i => by
    show (if _ then F (0 + i) else 0) = _
    rw [if_pos (show ISt.fits 43 (ISt.good 0) 16 = true by decide), Nat.zero_add]
  unfold QV.v
  dsimp only
  rw [c]
  rfl
theorem rc43_may (F : Nat → Nat) (h : F 17 ≤ 1) : ((ISt.good 0).rc 43 F).may = (recF F).may := by
  have e : (ISt.good 0).rc 43 F = ⟨(ISt.good 0).cF 43 F 16, (ISt.good 16).num 43 F 1, decide ((ISt.good 17).num 43 F 1 = 1), ((ISt.good 17).flagS 43 F).num 43 F 1, ((((ISt.good 17).flagS 43 F).take 43 1)).num 43 F 8, ((((ISt.good 17).flagS 43 F).take 43 1).take 43 8).num 43 F 8, (((((ISt.good 17).flagS 43 F).take 43 1).take 43 8).take 43 8).num 43 F 8⟩ := rfl
  rw [e, flag43, if_pos h, num1_good 43 F 16 (by decide), num1_good 43 F 17 (by decide), num1_good 43 F 18 (by decide)]
  rfl
theorem rcOk_eq (L : Nat) (F : Nat → Nat) : rcOk L F = recOk L F := by
  by_cases h : L = 43
  · subst h
    unfold rcOk recOk
    by_cases h2 : F 17 ≤ 1
    · rw [rcS43, if_pos h2, rc43_may F h2, decide_eq_true (⟨rfl, h2⟩ : 43 = 43 ∧ F 17 ≤ 1)]; rfl
    · rw [rcS43, if_neg h2, decide_eq_false (fun e => h2 e.2)]; rfl
  · rw [rcOk_not L F h]
    unfold recOk
    rw [decide_eq_false (fun e => h e.1)]; rfl
theorem rcRes_eq (L : Nat) (F : Nat → Nat) : rcRes (rcOk L F) ((ISt.good 0).rc L F) = rcRes (recOk L F) (recF F) := by
  rw [rcOk_eq]
  by_cases h : recOk L F = true
  · rw [h]
    unfold recOk at h
    have h2 : L = 43 ∧ F 17 ≤ 1 := by
      by_cases h3 : L = 43 ∧ F 17 ≤ 1
      · exact h3
      · rw [decide_eq_false h3] at h; cases h
    obtain ⟨rfl, h2⟩ := h2
    unfold rcRes
    rw [rowOf_congr (n := 22) (v := (if true = true then (ISt.good 0).rc 43 F else QV.zero).v) (v' := (if true = true then recF F else QV.zero).v) (fun i _ => rc43 F h2 i)]
  · rw [show recOk L F = false by simpa using h]; rfl
theorem recF_ok (F : Nat → Nat) (hF : ∀ i, F i < 256) : (recF F).Ok := by
  have h : ∀ k, ofB8 (fun i => F (k + i)) 8 < 18446744073709551616 := fun k => ofB8_lt (fun i => F (k + i)) (fun i => hF _) 8
  exact ⟨hF, hF _, hF _, h 19, h 27, h 35⟩
theorem recTake_f (D L c : Nat) (a : Option Addr) (F : Nat → Nat) (w : World) (hRd : Rd w D a L F) (hL : L ≤ 2 ^ 46) (hF : ∀ i, F i < 256) :
    Calls Try.prog 50 #[.slice a L c] w fun e w' => e = .returned (rcRes (recOk L F) (recF F)) ∧ w.grownBy w' none := by
  have := recTake_any D L c a F w hRd hL hF
  rwa [rcRes_eq] at this
end Go.Proofs.Ytdagbighlgfhjaa
namespace Go.Proofs.Ytdagbighlgfhjaa
open Go.RowKit

set_option maxRecDepth 100000
set_option maxHeartbeats 4000000

theorem outFixed_any {w0 w : World} {p : Option Addr} {s : OSt} (D m cv : Nat) (av : Option Addr) (f : Nat → Nat) (tb o c : Nat) (h : OAt w0 w p s) (hc : w.cell? ⟨tb, o, none⟩ = some (.slice av m cv)) (hR : Rd w D av m f) (hm : s.len + m ≤ 2 ^ 46) :
    Calls Try.prog 69 #[.pointer p, .slice (some ⟨tb, o, none⟩) 1 c] w (OSays w0 p (s.put m f)) := by
  have HP := Lib.hid (outPut_any D m cv av f h hR hm)
  clear h hm hR
  go_enter Try.func69, Try.ntmps69
  go_wp2_with fail
  go_loopw [8] (fun u8 wr => (u8 = .int .i64 0 ∧ w = wr) ∨ (u8 = .int .i64 1 ∧ OAt w0 wr p (s.put m f))) (fun u8 _ => 2 - (intOf u8).toNat)
  case atStart => exact Or.inl ⟨rfl, rfl⟩
  case round =>
    rcases hrel with ⟨rfl, rfl⟩ | ⟨rfl, hE⟩
    · go_wp2_with fail
      go_at_call 132
      refine HP.out.mono ?_
      rintro e w' ⟨rfl, hE⟩
      have HE := Lib.hid hE
      clear hE HP
      go_wp2_with fail
      go_roundw
      case rel => exact Or.inr ⟨rfl, HE.out⟩
      case measure => decide
    · have HE := Lib.hid hE
      clear hE
      go_wp2_with fail
      go_end0
      exact ⟨rfl, HE.out⟩
end Go.Proofs.Ytdagbighlgfhjaa
namespace Go.Proofs.Ytdagbighlgfhjaa
open Go.RowKit

set_option maxRecDepth 100000
set_option maxHeartbeats 4000000

/-- How many there are is put; of which there may be so many. -/
def OSt.count (s : OSt) (most : Int) (n : Nat) : OSt := if min most 65535 < (n : Int) then s.fail else s.put 2 (nbF n 2)
theorem OSt.len_count (s : OSt) (most : Int) (n : Nat) : (s.count most n).len ≤ s.len + 2 := by
  unfold OSt.count
  split
  · rw [OSt.len_fail]; omega
  · exact OSt.len_put _ _ _
theorem outCount_any {w0 w : World} {p : Option Addr} {s : OSt} (most : Int) (n : Nat) (h : OAt w0 w p s) (m0 : -9223372036854775808 ≤ most) (m1 : most < 9223372036854775808) (hm : s.len + 2 ≤ 2 ^ 46) :
    Calls Try.prog 138 #[.pointer p, .int .i64 most, .int .i64 n] w (OSays w0 p (s.count most n)) := by
  obtain ⟨hi, hhi⟩ : ∃ y, y = n / 256 % 256 := ⟨_, rfl⟩
  obtain ⟨lo, hlo⟩ : ∃ y, y = n % 256 := ⟨_, rfl⟩
  have e1 : (n : Int) / 256 % 256 = (hi : Int) := by omega
  have e2 : (n : Int) % 256 = (lo : Int) := by omega
  have hb : ∀ i, i < 2 → (if i = 0 then hi else lo) = nbF n 2 i := fun i h2 => by
    obtain rfl | rfl : i = 0 ∨ i = 1 := by omega
    · rw [if_pos rfl, hhi]; rfl
    · rw [if_neg (by decide), hlo]; unfold nbF; simp
  have HB := Lib.hid hb
  have HH := Lib.hid h
  have HM := Lib.hid hm
  clear hhi hlo hb hm h
  unfold OSt.count
  by_cases hmo : 65535 < most
  · rw [show min most 65535 = 65535 by omega]
    by_cases hw : (65535 : Int) < (n : Int)
    · rw [if_pos hw]
      have HF := Lib.hid (outFail_any HH.out)
      go_enter Try.func138, Try.ntmps138
      go_wp2_with fail
      go_at_call 137
      refine HF.out.mono ?_
      rintro e w1 ⟨rfl, hE⟩
      have HP := Lib.hid (outU8_any _ 2 2 _ _ (hE.grown (World.grownBy_alloc w1 (.cells #[.int .u8 hi, .int .u8 lo] 5) none)) (rd_two w1 hi lo (w1.heap.size + 1) (by omega)) (by rw [OSt.len_fail]; decide))
      clear hE HF
      go_wp2_with fail
      go_at_call 123
      refine HP.out.mono ?_
      rintro e w' ⟨rfl, hE⟩
      rw [OSt.put_fail] at hE
      have HE := Lib.hid hE
      clear hE HP
      go_wp2_with fail
      go_end0
      exact ⟨rfl, HE.out⟩
    · rw [if_neg hw]
      have e3 : (n : Int) / 256 = (hi : Int) := by omega
      have HP := Lib.hid (outU8_any _ 2 2 _ _ (HH.out.grown (World.grownBy_alloc w (.cells #[.int .u8 hi, .int .u8 lo] 5) none)) (rd_two w hi lo (w.heap.size + 1) (by omega)) HM.out)
      go_enter Try.func138, Try.ntmps138
      go_wp2_with fail
      go_at_call 123
      refine HP.out.mono ?_
      rintro e w' ⟨rfl, hE⟩
      have HE := Lib.hid (hE.putCongr HB.out)
      clear hE HP
      go_wp2_with fail
      go_end0
      exact ⟨rfl, HE.out⟩
  · rw [show min most 65535 = most by omega]
    by_cases hw : most < (n : Int)
    · rw [if_pos hw]
      have HF := Lib.hid (outFail_any HH.out)
      go_enter Try.func138, Try.ntmps138
      go_wp2_with fail
      go_at_call 137
      refine HF.out.mono ?_
      rintro e w1 ⟨rfl, hE⟩
      have HP := Lib.hid (outU8_any _ 2 2 _ _ (hE.grown (World.grownBy_alloc w1 (.cells #[.int .u8 hi, .int .u8 lo] 5) none)) (rd_two w1 hi lo (w1.heap.size + 1) (by omega)) (by rw [OSt.len_fail]; decide))
      clear hE HF
      go_wp2_with fail
      go_at_call 123
      refine HP.out.mono ?_
      rintro e w' ⟨rfl, hE⟩
      rw [OSt.put_fail] at hE
      have HE := Lib.hid hE
      clear hE HP
      go_wp2_with fail
      go_end0
      exact ⟨rfl, HE.out⟩
    · rw [if_neg hw]
      have e3 : (n : Int) / 256 = (hi : Int) := by omega
      have HP := Lib.hid (outU8_any _ 2 2 _ _ (HH.out.grown (World.grownBy_alloc w (.cells #[.int .u8 hi, .int .u8 lo] 5) none)) (rd_two w hi lo (w.heap.size + 1) (by omega)) HM.out)
      go_enter Try.func138, Try.ntmps138
      go_wp2_with fail
      go_at_call 123
      refine HP.out.mono ?_
      rintro e w' ⟨rfl, hE⟩
      have HE := Lib.hid (hE.putCongr HB.out)
      clear hE HP
      go_wp2_with fail
      go_end0
      exact ⟨rfl, HE.out⟩
theorem outSized_any {w0 w : World} {p : Option Addr} {s : OSt} (most : Int) (D m cv : Nat) (av : Option Addr) (f : Nat → Nat) (h : OAt w0 w p s) (hR : Rd w0 D av m f) (m0 : -9223372036854775808 ≤ most) (m1 : most < 9223372036854775808) (hm : s.len + 2 + m ≤ 2 ^ 46) :
    Calls Try.prog 98 #[.pointer p, .int .i64 most, .slice av m cv] w (OSays w0 p ((s.count most m).put m f)) := by
  have HC := Lib.hid (outCount_any most m h m0 m1 (by omega))
  have HM := Lib.hid hm
  have HR := Lib.hid hR
  clear h hm m0 m1 hR
  go_enter Try.func98, Try.ntmps98
  go_wp2_with fail
  go_at_call 138
  refine HC.out.mono ?_
  rintro e w1 ⟨rfl, hE⟩
  have HP := Lib.hid (outPut_any D m cv av f hE (HR.out.grown hE.gr (by simp)) (by have := OSt.len_count s most m; have := HM.out; omega))
  clear hE HC
  go_wp2_with fail
  go_at_call 132
  refine HP.out.mono ?_
  rintro e w' ⟨rfl, hE⟩
  have HE := Lib.hid hE
  clear hE HP
  go_wp2_with fail
  go_end0
  exact ⟨rfl, HE.out⟩
end Go.Proofs.Ytdagbighlgfhjaa
namespace Go.Proofs.Ytdagbighlgfhjaa
open Go.RowKit

set_option maxRecDepth 100000
set_option maxHeartbeats 2000000

/-- Block k is not the writer's. -/
def Foreign (w : World) (p : Option Addr) (k : Nat) : Prop := ∀ g, p = some ⟨g, 0, none⟩ → g ≠ k ∧ ∀ b n c, w.cell? ⟨g, 0, none⟩ = some (.slice (some ⟨b, 0, none⟩) n c) → b ≠ k
def Keep (w : World) (p : Option Addr) (w' : World) : Prop := ∀ k, k < w.heap.size → Foreign w p k → w'.heap[k]? = w.heap[k]? ∧ Foreign w' p k
theorem Keep.refl (w : World) (p : Option Addr) : Keep w p w := fun _ _ h => ⟨rfl, h⟩
theorem Keep.pre {w w1 w' : World} {g : Nat} {v : Value} (hc : w.cell? ⟨g, 0, none⟩ = some v) (gr : w.grownBy w1 none) (h : Keep w1 (some ⟨g, 0, none⟩) w') : Keep w (some ⟨g, 0, none⟩) w' := fun k hk hf => by
  have h1 := h k (Nat.lt_of_lt_of_le hk gr.size) (fun g' e => by
    cases e
    refine ⟨(hf g rfl).1, fun b n c hcell => ?_⟩
    rw [gr.cell hc (by simp)] at hcell
    cases hcell
    exact (hf g rfl).2 b n c hc)
  exact ⟨h1.1.trans (gr.block k hk (by simp)), h1.2⟩
structure OSaysK (w0 w : World) (p : Option Addr) (s : OSt) (e : Ending) (w' : World) : Prop where
  says : OSays w0 p s e w'
  kp : Keep w p w'
theorem outFailK_any {w0 w : World} {p : Option Addr} {s : OSt} (h : OAt w0 w p s) : Calls Try.prog 137 #[.pointer p] w (OSaysK w0 w p s.fail) := by
  have hs := h.st
  have gr := h.gr
  have key : ∀ (g : Nat) (v : Value) (l : Int) (wr : Bool), p = some ⟨g, 0, none⟩ → w0.heap.size ≤ g → OCells w g v l wr → Calls Try.prog 137 #[.pointer p] w (OSaysK w0 w p .bad) := by
    intro g v l wr hp hg hc
    subst hp
    have c0 := hc.c0
    have c1 := hc.c1
    have c2 := hc.c2
    have f0 := hc.fr 0
    have f1 := hc.fr 1
    have f2 := hc.fr 2
    have hE : OAt w0 (((w.setCell ⟨g, 0, none⟩ (.slice none 0 0)).setCell ⟨g, 1, none⟩ (.int .i64 0)).setCell ⟨g, 2, none⟩ (.bool true)) (some ⟨g, 0, none⟩) .bad := by
      refine ⟨⟨g, 0, rfl, hg, ⟨?_, ?_, ?_, fun i => ?_⟩⟩, grown_setCell_new (grown_setCell_new (grown_setCell_new gr _ _ (Or.inl hg)) _ _ (Or.inl hg)) _ _ (Or.inl hg)⟩
      · rw [World.cell?_setCell_other _ _ _ _ (by simp), World.cell?_setCell_other _ _ _ _ (by simp)]
        exact World.cell?_setCell_same w _ _ c0
      · rw [World.cell?_setCell_other _ _ _ _ (by simp)]
        exact World.cell?_setCell_same _ _ _ ((World.cell?_setCell_other _ _ _ _ (by simp)).trans c1)
      · exact World.cell?_setCell_same _ _ _ (((World.cell?_setCell_other _ _ _ _ (by simp)).trans (World.cell?_setCell_other _ _ _ _ (by simp))).trans c2)
      · rw [World.frozen?_setCell, World.frozen?_setCell, World.frozen?_setCell]; exact hc.fr i
    have HE := Lib.hid hE
    have HKP : Hid (Keep w (some ⟨g, 0, none⟩) (((w.setCell ⟨g, 0, none⟩ (.slice none 0 0)).setCell ⟨g, 1, none⟩ (.int .i64 0)).setCell ⟨g, 2, none⟩ (.bool true))) := fun k hk hf => by
      have hne := (hf g rfl).1
      refine ⟨?_, fun g' e => ?_⟩
      · rw [heap_setCell_other _ ⟨g, 2, none⟩ k _ (Ne.symm hne), heap_setCell_other _ ⟨g, 1, none⟩ k _ (Ne.symm hne), heap_setCell_other _ ⟨g, 0, none⟩ k _ (Ne.symm hne)]
      · cases e
        refine ⟨hne, fun b n c hcell => ?_⟩
        rw [World.cell?_setCell_other _ _ _ _ (by simp), World.cell?_setCell_other _ _ _ _ (by simp), World.cell?_setCell_same w _ _ c0] at hcell
        cases hcell
    clear hE hc gr hg h hs
    go_enter Try.func137, Try.ntmps137
    go_wp2_with fail
    go_end0
    exact ⟨⟨rfl, HE.out⟩, HKP.out⟩
  cases s with
  | nil =>
    obtain rfl : p = none := hs
    have HE := Lib.hid h
    clear h gr key
    go_enter Try.func137, Try.ntmps137
    go_wp2_with fail
    go_end0
    exact ⟨⟨rfl, HE.out⟩, Keep.refl _ _⟩
  | bad =>
    obtain ⟨g, l, h1, h2, h3⟩ := hs
    exact key g _ l _ h1 h2 h3
  | good lim n f =>
    obtain ⟨g, a, c, h1, h2, h3, h4, h5⟩ := hs
    exact key g _ _ _ h1 h2 h3
theorem outPutK_any {w0 w : World} {p : Option Addr} {s : OSt} (D m c : Nat) (a : Option Addr) (f : Nat → Nat) (h : OAt w0 w p s) (hR : Rd w D a m f) (hm : s.len + m ≤ 2 ^ 46) : Calls Try.prog 132 #[.pointer p, .slice a m c] w (OSaysK w0 w p (s.put m f)) := by
  have hs := h.st
  have HD := Lib.hid (done_any h)
  by_cases ho : s.over = true
  · have HE := Lib.hid h
    rw [OSt.put_over s m f ho]
    obtain ⟨b, hb⟩ : ∃ b, b = s.over := ⟨_, rfl⟩
    rw [← hb] at ho HD
    subst ho
    clear hb hs h hR hm
    go_enter Try.func132, Try.ntmps132
    go_wp2_with fail
    go_at_call 139
    refine HD.out.mono ?_
    rintro e w' ⟨rfl, rfl⟩
    go_wp2_with fail
    go_end0
    exact ⟨⟨rfl, HE.out⟩, Keep.refl _ _⟩
  · cases s with
    | nil => exact absurd rfl ho
    | bad => exact absurd rfl ho
    | good lim n f0 =>
      obtain ⟨g, av, cv, rfl, h2, h3, h4, h5, h6, h7⟩ := hs
      have HD2 : Hid (Calls Try.prog 139 #[.pointer (some ⟨g, 0, none⟩)] w fun e w' => e = .returned (.bool false) ∧ w = w') := HD
      have c0 := h3.c0
      have c1 := h3.c1
      have f0' := h3.fr 0
      have gr := h.gr
      have H3 := Lib.hid h3
      have hm' : n + m ≤ 2 ^ 46 := hm
      have k0 : (n : Int) ≤ (lim : Int) := by omega
      have k1 : (lim : Int) < 9223372036854775808 := by omega
      by_cases hroom : n + m ≤ lim
      · have k2 : ¬ ((lim : Int) - (n : Int) < (m : Int)) := by omega
        have e0 : OSt.put (.good lim n f0) m f = .good lim (n + m) (cat n f0 f) := by show (if n + m ≤ lim then _ else _) = _; rw [if_pos hroom]
        rw [e0]
        have H4 := Lib.hid h4
        have H5 := Lib.hid h5
        have H7 := Lib.hid h7
        have HM := Lib.hid hm'
        have HR := Lib.hid hR
        have HRM := Lib.hid hroom
        have G2 := Lib.hid h2
        have GR := Lib.hid gr
        clear e0 h3 h4 h5 h6 h7 hm hm' HD ho h hroom hR gr h2
        go_enter Try.func132, Try.ntmps132
        go_wp2_with fail
        go_at_call 139
        refine HD2.out.mono ?_
        rintro e w' ⟨rfl, rfl⟩
        go_wp2_with fail
        go_quiet (fail)
        have gq : w.grownBy (World.drewN w nq) none := grown_drewN (grown_refl w none) nq
        generalize World.drewN w nq = w5 at *
        have h3 := H3.out.grown gq (by simp)
        have h4 := H4.out.grown gq
        have gr := grown_trans GR.out gq
        have hR := HR.out.grown gq (by simp)
        have c0 := h3.c0
        have hm' := HM.out
        obtain ⟨a', c', w2, hap, hO2, g2, hkeep⟩ := app_N1 c 39 gr h4 hR hm'
        have HAP := Lib.hid hap
        clear hap
        obtain ⟨hbl, hne⟩ := hkeep g H5.out (World.block_lt_of_cell? w5 _ c0)
        have c0' := (World.cell?_of_block (a := ⟨g, 0, none⟩) hbl).trans c0
        have c1' := (World.cell?_of_block (a := ⟨g, 1, none⟩) hbl).trans h3.c1
        have c2' := (World.cell?_of_block (a := ⟨g, 2, none⟩) hbl).trans h3.c2
        have f1' : ∀ i, w2.frozen? ⟨g, i, none⟩ = false := fun i => (World.frozen?_of_block (a := ⟨g, i, none⟩) hbl).trans (h3.fr i)
        have f0'' := f1' 0
        have hO3 : OwnN (w2.setCell ⟨g, 0, none⟩ (.slice a' (n + m) c')) w0.heap.size (.slice a' (n + m) c') (n + m) (cat n f0 f) := by
          rcases hO2.ex with h | ⟨b, cap, e1, e2, e3⟩
          · exact ⟨Or.inl h⟩
          · cases e1
            exact ⟨Or.inr ⟨b, c', rfl, e2.of_block (heap_setCell_other w2 ⟨g, 0, none⟩ b _ (hne b rfl)) (by simpa [World.setCell] using e2.lt), e3⟩⟩
        have hE : OAt w0 (w2.setCell ⟨g, 0, none⟩ (.slice a' (n + m) c')) (some ⟨g, 0, none⟩) (.good lim (n + m) (cat n f0 f)) := by
          refine ⟨⟨g, a', c', rfl, G2.out, ⟨World.cell?_setCell_same w2 _ _ c0', ?_, ?_, fun i => ?_⟩, hO3, hne, HRM.out, H7.out⟩, grown_setCell_new g2 _ _ (Or.inl G2.out)⟩
          · rw [World.cell?_setCell_other _ _ _ _ (by simp)]; exact c1'
          · rw [World.cell?_setCell_other _ _ _ _ (by simp)]; exact c2'
          · rw [World.frozen?_setCell]; exact f1' i
        have HKP : Hid (Keep w (some ⟨g, 0, none⟩) (w2.setCell ⟨g, 0, none⟩ (.slice a' (n + m) c'))) := fun k hk hf => by
          have hne2 := (hf g rfl).1
          have hb := hkeep k (fun b e => by
            refine (hf g rfl).2 b n cv ?_
            rw [← e]
            exact H3.out.c0) (Nat.lt_of_lt_of_le hk gq.size)
          refine ⟨?_, fun g' e => ?_⟩
          · rw [heap_setCell_other _ ⟨g, 0, none⟩ k _ (Ne.symm hne2), hb.1, gq.block k hk (by simp)]
          · cases e
            refine ⟨hne2, fun b n' c2 hcell => ?_⟩
            rw [World.cell?_setCell_same w2 _ _ c0'] at hcell
            cases hcell
            exact hb.2 b rfl
        have HE := Lib.hid hE
        clear hE hO3 hO2 g2 hbl hne c1' c2' h3 h4 f1' hR gr hm' hkeep gq
        clear k0 k1
        go_wp2_with (at_builtin; refine wpList_append_run rfl (.tmp 25) (.tmp 26) 39 39 rfl _ _ _ _ rfl rfl HAP.out ?_)
        go_end0
        exact ⟨⟨rfl, HE.out⟩, HKP.out⟩
      · have k2 : (lim : Int) - (n : Int) < (m : Int) := by omega
        have HF := Lib.hid (fun W => outFailK_any (w0 := w0) (w := W) (p := some ⟨g, 0, none⟩) (s := .good lim n f0))
        have HE := Lib.hid h
        have e0 : OSt.put (.good lim n f0) m f = .bad := by show (if n + m ≤ lim then _ else _) = _; rw [if_neg hroom]
        rw [e0]
        clear h3 h4 h5 h6 h7 hm hm' hroom HD ho h gr h2
        go_enter Try.func132, Try.ntmps132
        go_wp2_with fail
        go_at_call 139
        refine HD2.out.mono ?_
        rintro e w' ⟨rfl, rfl⟩
        go_wp2_with fail
        go_quiet (fail)
        have HE2 := Lib.hid (HE.out.grown (grown_drewN (grown_refl _ none) nq))
        have HGQ : Hid (w.grownBy (World.drewN w nq) none) := grown_drewN (grown_refl w none) nq
        generalize World.drewN w nq = w5 at *
        go_wp2_with fail
        go_at_call 137
        refine (HF.out w5 HE2.out).mono ?_
        rintro e w' ⟨⟨rfl, hE⟩, hkp⟩
        have HE3 := Lib.hid hE
        have HKP := Lib.hid (Keep.pre H3.out.c0 HGQ.out hkp)
        clear hE hkp
        go_wp2_with fail
        go_end0
        exact ⟨⟨rfl, HE3.out⟩, HKP.out⟩
theorem outU8K_any {w0 w : World} {p : Option Addr} {s : OSt} (D m c : Nat) (a : Option Addr) (f : Nat → Nat) (h : OAt w0 w p s) (hR : Rd w D a m f) (hm : s.len + m ≤ 2 ^ 46) : Calls Try.prog 123 #[.pointer p, .slice a m c] w (OSaysK w0 w p (s.put m f)) := by
  have HP := Lib.hid (outPutK_any D m c a f h hR hm)
  clear h hR hm
  go_enter Try.func123, Try.ntmps123
  go_wp2_with fail
  go_at_call 132
  refine HP.out.mono ?_
  rintro e w' ⟨⟨rfl, hE⟩, hkp⟩
  have HKP := Lib.hid hkp
  have HE := Lib.hid hE
  clear hE HP hkp
  go_wp2_with fail
  go_end0
  exact ⟨⟨rfl, HE.out⟩, HKP.out⟩
theorem outCountK_any {w0 w : World} {g lim n0 : Nat} {f0 : Nat → Nat} (most : Int) (n : Nat) (h : OAt w0 w (some ⟨g, 0, none⟩) (.good lim n0 f0)) (hw : ¬ min most 65535 < (n : Int)) (m0 : -9223372036854775808 ≤ most) (m1 : most < 9223372036854775808) (hm : n0 + 2 ≤ 2 ^ 46) :
    Calls Try.prog 138 #[.pointer (some ⟨g, 0, none⟩), .int .i64 most, .int .i64 n] w (OSaysK w0 w (some ⟨g, 0, none⟩) (OSt.put (.good lim n0 f0) 2 (nbF n 2))) := by
  obtain ⟨hi, hhi⟩ : ∃ y, y = n / 256 % 256 := ⟨_, rfl⟩
  obtain ⟨lo, hlo⟩ : ∃ y, y = n % 256 := ⟨_, rfl⟩
  have e1 : (n : Int) / 256 % 256 = (hi : Int) := by omega
  have e2 : (n : Int) % 256 = (lo : Int) := by omega
  have hb : ∀ i, i < 2 → (if i = 0 then hi else lo) = nbF n 2 i := fun i h2 => by
    obtain rfl | rfl : i = 0 ∨ i = 1 := by omega
    · rw [if_pos rfl, hhi]; rfl
    · rw [if_neg (by decide), hlo]; unfold nbF; simp
  have HB := Lib.hid hb
  have HH := Lib.hid h
  have HM : Hid (OSt.len (.good lim n0 f0) + 2 ≤ 2 ^ 46) := hm
  obtain ⟨v, hv⟩ : ∃ v, w.cell? ⟨g, 0, none⟩ = some v := by
    obtain ⟨g', a, c, e, _, h3, _⟩ := h.st
    cases e
    exact ⟨_, h3.c0⟩
  have HC := Lib.hid hv
  clear hhi hlo hb hm h hv
  by_cases hmo : 65535 < most
  · rw [show min most 65535 = 65535 by omega] at hw
    · have e3 : (n : Int) / 256 = (hi : Int) := by omega
      have HP := Lib.hid (outU8K_any _ 2 2 _ _ (HH.out.grown (World.grownBy_alloc w (.cells #[.int .u8 hi, .int .u8 lo] 5) none)) (rd_two w hi lo (w.heap.size + 1) (by omega)) HM.out)
      go_enter Try.func138, Try.ntmps138
      go_wp2_with fail
      go_at_call 123
      refine HP.out.mono ?_
      rintro e w' ⟨⟨rfl, hE⟩, hkp⟩
      have HE := Lib.hid (hE.putCongr HB.out)
      have HKP := Lib.hid (Keep.pre HC.out (World.grownBy_alloc w (.cells #[.int .u8 hi, .int .u8 lo] 5) none) hkp)
      clear hE HP hkp
      go_wp2_with fail
      go_end0
      exact ⟨⟨rfl, HE.out⟩, HKP.out⟩
  · rw [show min most 65535 = most by omega] at hw
    · have e3 : (n : Int) / 256 = (hi : Int) := by omega
      have HP := Lib.hid (outU8K_any _ 2 2 _ _ (HH.out.grown (World.grownBy_alloc w (.cells #[.int .u8 hi, .int .u8 lo] 5) none)) (rd_two w hi lo (w.heap.size + 1) (by omega)) HM.out)
      go_enter Try.func138, Try.ntmps138
      go_wp2_with fail
      go_at_call 123
      refine HP.out.mono ?_
      rintro e w' ⟨⟨rfl, hE⟩, hkp⟩
      have HE := Lib.hid (hE.putCongr HB.out)
      have HKP := Lib.hid (Keep.pre HC.out (World.grownBy_alloc w (.cells #[.int .u8 hi, .int .u8 lo] 5) none) hkp)
      clear hE HP hkp
      go_wp2_with fail
      go_end0
      exact ⟨⟨rfl, HE.out⟩, HKP.out⟩
theorem outPutOver_any {w0 w : World} {p : Option Addr} {s : OSt} (m c : Nat) (a : Option Addr) (h : OAt w0 w p s) (ho : s.over = true) : Calls Try.prog 132 #[.pointer p, .slice a m c] w (OSays w0 p s) := by
  have HD := Lib.hid (done_any h)
  have HE := Lib.hid h
  rw [ho] at HD
  clear h ho
  go_enter Try.func132, Try.ntmps132
  go_wp2_with fail
  go_at_call 139
  refine HD.out.mono ?_
  rintro e w' ⟨rfl, rfl⟩
  go_wp2_with fail
  go_end0
  exact ⟨rfl, HE.out⟩
/-- Sized, of bytes that lie in a block that is not the writer's. -/
theorem outSized2_any {w0 w : World} {p : Option Addr} {lim n0 : Nat} {f0 : Nat → Nat} (most : Int) (m cv tb o : Nat) (f : Nat → Nat) (h : OAt w0 w p (.good lim n0 f0)) (hfr : Foreign w p tb) (htb : tb < w.heap.size) (hR : ∀ i, i < m → w.cell? ⟨tb, o + i, none⟩ = some (.int .u8 (f i))) (m0 : -9223372036854775808 ≤ most) (m1 : most < 9223372036854775808) (hm : n0 + 2 + m ≤ 2 ^ 46) :
    Calls Try.prog 98 #[.pointer p, .int .i64 most, .slice (some ⟨tb, o, none⟩) m cv] w (OSays w0 p ((OSt.count (.good lim n0 f0) most m).put m f)) := by
  by_cases hw : min most 65535 < (m : Int)
  · have e : OSt.count (.good lim n0 f0) most m = .bad := if_pos hw
    have HC := Lib.hid (outCount_any most m h m0 m1 (by show n0 + 2 ≤ _; omega))
    rw [e] at HC ⊢
    clear h hm m0 m1 hR hfr htb e hw
    go_enter Try.func98, Try.ntmps98
    go_wp2_with fail
    go_at_call 138
    refine HC.out.mono ?_
    rintro e w1 ⟨rfl, hE⟩
    have HP := Lib.hid (outPutOver_any m cv (some ⟨tb, o, none⟩) hE rfl)
    clear hE HC
    go_wp2_with fail
    go_at_call 132
    refine HP.out.mono ?_
    rintro e w' ⟨rfl, hE⟩
    have HE := Lib.hid hE
    clear hE HP
    go_wp2_with fail
    go_end0
    exact ⟨rfl, HE.out⟩
  · have e : OSt.count (.good lim n0 f0) most m = OSt.put (.good lim n0 f0) 2 (nbF m 2) := if_neg hw
    have hp : ∃ g, p = some ⟨g, 0, none⟩ := by
      obtain ⟨g, a, c, h1, _⟩ := h.st
      exact ⟨g, h1⟩
    obtain ⟨g, rfl⟩ := hp
    have HC := Lib.hid (outCountK_any most m h hw m0 m1 (by omega))
    rw [e]
    obtain ⟨t, ht⟩ : ∃ t, t = OSt.put (.good lim n0 f0) 2 (nbF m 2) := ⟨_, rfl⟩
    have HLN : Hid (t.len + m ≤ 2 ^ 46) := by
      have := OSt.len_put (.good lim n0 f0) 2 (nbF m 2)
      rw [← ht] at this
      have h2 : OSt.len (.good lim n0 f0) = n0 := rfl
      show _ ≤ _
      omega
    rw [← ht] at HC ⊢
    have HFR := Lib.hid hfr
    have HTB := Lib.hid htb
    have HR := Lib.hid hR
    clear h hm m0 m1 hR hfr htb e hw ht
    go_enter Try.func98, Try.ntmps98
    go_wp2_with fail
    go_at_call 138
    refine HC.out.mono ?_
    rintro e w1 ⟨⟨rfl, hE⟩, hkp⟩
    have hb := (hkp tb HTB.out HFR.out).1
    have HP := Lib.hid (outPut_any (tb + 1) m cv (some ⟨tb, o, none⟩) f hE ⟨fun _ => ⟨tb, o, rfl, Nat.lt_succ_self _, fun i hi => (World.cell?_of_block (a := ⟨tb, o + i, none⟩) hb).trans (HR.out i hi)⟩⟩ HLN.out)
    clear hE HC hkp hb
    go_wp2_with fail
    go_at_call 132
    refine HP.out.mono ?_
    rintro e w' ⟨rfl, hE⟩
    have HE := Lib.hid hE
    clear hE HP
    go_wp2_with fail
    go_end0
    exact ⟨rfl, HE.out⟩
end Go.Proofs.Ytdagbighlgfhjaa
namespace Go.Proofs.Ytdagbighlgfhjaa
open Go.RowKit

set_option maxRecDepth 100000
set_option maxHeartbeats 4000000

theorem Keep.trans {w w1 w2 : World} {p : Option Addr} (h1 : Keep w p w1) (h2 : Keep w1 p w2) : Keep w p w2 := fun k hk hf => by
  obtain ⟨e1, f1⟩ := h1 k hk hf
  have hk1 : k < w1.heap.size := by
    by_cases hlt : k < w1.heap.size
    · exact hlt
    · rw [Array.getElem?_eq_none (by omega), Array.getElem?_eq_getElem hk] at e1
      cases e1
  obtain ⟨e2, f2⟩ := h2 k hk1 f1
  exact ⟨e2.trans e1, f2⟩
/-- A good writer at block g, within lim bytes, of n bytes f. -/
abbrev Good (w0 w : World) (g lim n : Nat) (f : Nat → Nat) : Prop := OAt w0 w (some ⟨g, 0, none⟩) (.good lim n f)
/-- It stands so then, and what is not its own as before. -/
abbrev Goes (w0 w : World) (g lim n : Nat) (f : Nat → Nat) (e : Ending) (w' : World) : Prop := OSaysK w0 w (some ⟨g, 0, none⟩) (.good lim n f) e w'
theorem OSt.put_room (lim n m : Nat) (f h : Nat → Nat) (hr : n + m ≤ lim) : OSt.put (.good lim n f) m h = .good lim (n + m) (cat n f h) := by show (if n + m ≤ lim then _ else _) = _; rw [if_pos hr]
section
variable {w0 w w' : World} {g lim n : Nat} {f : Nat → Nat}
theorem OAt.cell0 (h : Good w0 w g lim n f) : ∃ a c, w.cell? ⟨g, 0, none⟩ = some (.slice a n c) := by
  obtain ⟨g', a, c, e, _, h3, _⟩ := h.st
  cases e
  exact ⟨a, c, h3.c0⟩
theorem OAt.base0 (h : Good w0 w g lim n f) : w0.heap.size ≤ g := by
  obtain ⟨g', a, c, e, h2, _⟩ := h.st
  cases e
  exact h2
theorem OAt.lt0 (h : Good w0 w g lim n f) : g < w.heap.size := by
  obtain ⟨a, c, h⟩ := h.cell0
  exact World.block_lt_of_cell? w _ h
/-- A new block is not the writer's. -/
theorem OAt.new (h : Good w0 w g lim n f) {w1 : World} (g1 : w.grownBy w1 none) (k : Nat) (hk : w.heap.size ≤ k) : Foreign w1 (some ⟨g, 0, none⟩) k := by
  obtain ⟨g', a, c, e, _, h3, h4, _⟩ := h.st
  cases e
  intro g2 e
  cases e
  have := World.block_lt_of_cell? w _ h3.c0
  dsimp at this
  refine ⟨by omega, fun b n' c' hcell => ?_⟩
  rw [g1.cell h3.c0 (by simp)] at hcell
  cases hcell
  rcases h4.ex with ⟨e, _⟩ | ⟨b2, cap, e, hO, _⟩
  · cases e
  · cases e
    have := hO.lt
    omega
theorem Foreign.grown {k : Nat} (hf : Foreign w (some ⟨g, 0, none⟩) k) (h : Good w0 w g lim n f) (g1 : w.grownBy w' none) : Foreign w' (some ⟨g, 0, none⟩) k := by
  obtain ⟨a, c, hc⟩ := h.cell0
  intro g2 e
  cases e
  refine ⟨(hf g rfl).1, fun b n' c' hcell => (hf g rfl).2 b n' c' ?_⟩
  rw [g1.cell hc (by simp)] at hcell
  cases hcell
  exact hc
theorem Keep.grown (h : Good w0 w g lim n f) (g1 : w.grownBy w' none) : Keep w (some ⟨g, 0, none⟩) w' := fun k hk hf => ⟨g1.block k hk (by simp), hf.grown h g1⟩
theorem outPutG (D m c : Nat) (a : Option Addr) (h : Nat → Nat) (hO : Good w0 w g lim n f) (hR : Rd w D a m h) (hr : n + m ≤ lim) (hl : lim ≤ 2 ^ 46) : Calls Try.prog 132 #[.pointer (some ⟨g, 0, none⟩), .slice a m c] w (Goes w0 w g lim (n + m) (cat n f h)) := by
  have := outPutK_any D m c a h hO hR (show n + m ≤ _ by omega)
  rwa [OSt.put_room _ _ _ _ _ hr] at this
theorem outU8G (D m c : Nat) (a : Option Addr) (h : Nat → Nat) (hO : Good w0 w g lim n f) (hR : Rd w D a m h) (hr : n + m ≤ lim) (hl : lim ≤ 2 ^ 46) : Calls Try.prog 123 #[.pointer (some ⟨g, 0, none⟩), .slice a m c] w (Goes w0 w g lim (n + m) (cat n f h)) := by
  have := outU8K_any D m c a h hO hR (show n + m ≤ _ by omega)
  rwa [OSt.put_room _ _ _ _ _ hr] at this
end
theorem meas_lt (N k : Nat) (v : Value) (h : v = .int .i64 ((k + 1 : Nat) : Int)) (hk : k < N) : N - (intOf v).toNat < N - (intOf (.int .i64 (k : Int))).toNat := by
  subst h
  simp [intOf]
  omega
/-- One slice. -/
theorem outFixedG {w0 w : World} {g lim n : Nat} {f : Nat → Nat} (D m cv : Nat) (av : Option Addr) (h : Nat → Nat) (tb c : Nat) (hO : Good w0 w g lim n f) (hc : w.cell? ⟨tb, 0, none⟩ = some (.slice av m cv)) (hR : Rd w D av m h) (hr : n + m ≤ lim) (hl : lim ≤ 2 ^ 46) :
    Calls Try.prog 69 #[.pointer (some ⟨g, 0, none⟩), .slice (some ⟨tb, 0, none⟩) 1 c] w (Goes w0 w g lim (n + m) (cat n f h)) := by
  have HP := Lib.hid (outPutG D m cv av h hO hR hr hl)
  clear hO hr hl hR
  go_enter Try.func69, Try.ntmps69
  go_wp2_with fail
  go_loopw [8] (fun u8 wr => (u8 = .int .i64 0 ∧ w = wr) ∨ (u8 = .int .i64 1 ∧ Goes w0 w g lim (n + m) (cat n f h) (.returned (.tuple #[])) wr)) (fun u8 _ => 2 - (intOf u8).toNat)
  case atStart => exact Or.inl ⟨rfl, rfl⟩
  case round =>
    rcases hrel with ⟨rfl, rfl⟩ | ⟨rfl, hE⟩
    · go_wp2_with fail
      go_at_call 132
      refine HP.out.mono ?_
      rintro e w' hE
      obtain ⟨⟨rfl, h1⟩, h2⟩ := hE
      have HE := Lib.hid (show Goes w0 w g lim (n + m) (cat n f h) (.returned (.tuple #[])) w' from ⟨⟨rfl, h1⟩, h2⟩)
      clear h1 h2 HP
      go_wp2_with fail
      go_roundw
      case rel => exact Or.inr ⟨rfl, HE.out⟩
      case measure => decide
    · have HE := Lib.hid hE
      clear hE
      go_wp2_with fail
      go_end0
      exact HE.out
/-- Two slices; the second one's bytes lie in a block that is not the writer's. -/
theorem outFixedG2 {w0 w : World} {g lim n : Nat} {f : Nat → Nat} (D m cv : Nat) (av : Option Addr) (h : Nat → Nat) (B o m2 cv2 : Nat) (h2 : Nat → Nat) (tb c : Nat) (hO : Good w0 w g lim n f) (hft : Foreign w (some ⟨g, 0, none⟩) tb) (hc : w.cell? ⟨tb, 0, none⟩ = some (.slice av m cv)) (hc2 : w.cell? ⟨tb, 1, none⟩ = some (.slice (some ⟨B, o, none⟩) m2 cv2)) (hR : Rd w D av m h)
    (hfB : Foreign w (some ⟨g, 0, none⟩) B) (hB : B < w.heap.size) (hR2 : ∀ i, i < m2 → w.cell? ⟨B, o + i, none⟩ = some (.int .u8 (h2 i))) (hr : n + m + m2 ≤ lim) (hl : lim ≤ 2 ^ 46) :
    Calls Try.prog 69 #[.pointer (some ⟨g, 0, none⟩), .slice (some ⟨tb, 0, none⟩) 2 c] w (Goes w0 w g lim (n + m + m2) (cat (n + m) (cat n f h) h2)) := by
  have HP := Lib.hid (outPutG D m cv av h hO hR (by omega) hl)
  have htb := World.block_lt_of_cell? w _ hc
  dsimp at htb
  have HX : Hid (∀ w', Goes w0 w g lim (n + m) (cat n f h) (.returned (.tuple #[])) w' → w'.cell? ⟨tb, 1, none⟩ = some (.slice (some ⟨B, o, none⟩) m2 cv2) ∧ Calls Try.prog 132 #[.pointer (some ⟨g, 0, none⟩), .slice (some ⟨B, o, none⟩) m2 cv2] w' (Goes w0 w' g lim (n + m + m2) (cat (n + m) (cat n f h) h2))) := fun w' hE => by
    have e1 := (hE.kp tb htb hft).1
    have e2 := (hE.kp B hB hfB).1
    exact ⟨(World.cell?_of_block (a := ⟨tb, 1, none⟩) e1).trans hc2, outPutG (B + 1) m2 cv2 (some ⟨B, o, none⟩) h2 hE.says.st ⟨fun _ => ⟨B, o, rfl, Nat.lt_succ_self _, fun i hi => (World.cell?_of_block (a := ⟨B, o + i, none⟩) e2).trans (hR2 i hi)⟩⟩ hr hl⟩
  clear hO hr hl hR hft hfB hB hR2 htb hc2
  go_enter Try.func69, Try.ntmps69
  go_wp2_with fail
  go_loopw [8] (fun u8 wr => (u8 = .int .i64 0 ∧ w = wr) ∨ (u8 = .int .i64 1 ∧ Goes w0 w g lim (n + m) (cat n f h) (.returned (.tuple #[])) wr) ∨ (u8 = .int .i64 2 ∧ Goes w0 w g lim (n + m + m2) (cat (n + m) (cat n f h) h2) (.returned (.tuple #[])) wr)) (fun u8 _ => 3 - (intOf u8).toNat)
  case atStart => exact Or.inl ⟨rfl, rfl⟩
  case round =>
    rcases hrel with ⟨rfl, rfl⟩ | ⟨rfl, hE⟩ | ⟨rfl, hE⟩
    · go_wp2_with fail
      go_at_call 132
      refine HP.out.mono ?_
      rintro e w' hE
      obtain ⟨⟨rfl, h1⟩, h2⟩ := hE
      have HE := Lib.hid (show Goes w0 w g lim (n + m) (cat n f h) (.returned (.tuple #[])) w' from ⟨⟨rfl, h1⟩, h2⟩)
      clear h1 h2 HP
      go_wp2_with fail
      go_roundw
      case rel => exact Or.inr (Or.inl ⟨rfl, HE.out⟩)
      case measure => decide
    · obtain ⟨cc, hcall⟩ := HX.out _ hE
      have HC := Lib.hid hcall
      have HK := Lib.hid hE.kp
      clear hcall hE HP HX hc
      go_wp2_with fail
      go_at_call 132
      refine HC.out.mono ?_
      rintro e w' hE
      obtain ⟨⟨rfl, h1⟩, h3⟩ := hE
      have HE := Lib.hid (show Goes w0 w g lim (n + m + m2) (cat (n + m) (cat n f h) h2) (.returned (.tuple #[])) w' from ⟨⟨rfl, h1⟩, HK.out.trans h3⟩)
      clear h1 h3 HC cc
      go_wp2_with fail
      go_roundw
      case rel => exact Or.inr (Or.inr ⟨rfl, HE.out⟩)
      case measure => decide
    · have HE := Lib.hid hE
      clear hE
      go_wp2_with fail
      go_end0
      exact HE.out
theorem outFlagG {w0 w : World} {g lim n : Nat} {f : Nat → Nat} (b : Bool) (tb c : Nat) (hO : Good w0 w g lim n f) (hc : w.cell? ⟨tb, 0, none⟩ = some (.bool b)) (hr : n + 1 ≤ lim) (hl : lim ≤ 2 ^ 46) :
    Calls Try.prog 124 #[.pointer (some ⟨g, 0, none⟩), .slice (some ⟨tb, 0, none⟩) 1 c] w (Goes w0 w g lim (n + 1) (cat n f (fun _ => flagB b))) := by
  have H := Lib.hid hO
  have HM : Hid (n + 1 ≤ lim ∧ lim ≤ 2 ^ 46) := ⟨hr, hl⟩
  clear hO hr hl
  go_enter Try.func124, Try.ntmps124
  go_wp2_with fail
  go_loopw [8] (fun u8 wr => (u8 = .int .i64 0 ∧ w = wr) ∨ (u8 = .int .i64 1 ∧ Goes w0 w g lim (n + 1) (cat n f (fun _ => flagB b)) (.returned (.tuple #[])) wr)) (fun u8 _ => 2 - (intOf u8).toNat)
  case atStart => exact Or.inl ⟨rfl, rfl⟩
  case round =>
    rcases hrel with ⟨rfl, rfl⟩ | ⟨rfl, hE⟩
    · cases b with
      | false =>
        have g1 := World.grownBy_alloc w (.cells #[.int .u8 0] 5) none
        have HP := Lib.hid (outU8G _ 1 1 _ _ (H.out.grown g1) (rd_one w 0 (w.heap.size + 1) (by omega)) HM.out.1 HM.out.2)
        have HK := Lib.hid (Keep.grown H.out g1)
        clear g1
        go_wp2_with fail
        go_at_call 123
        refine HP.out.mono ?_
        rintro e w' hE
        obtain ⟨⟨rfl, h1⟩, h3⟩ := hE
        have HE := Lib.hid (show Goes w0 w g lim (n + 1) (cat n f (fun _ => flagB false)) (.returned (.tuple #[])) w' from ⟨⟨rfl, h1⟩, HK.out.trans h3⟩)
        clear h1 h3 HP
        go_wp2_with fail
        go_roundw
        case rel => exact Or.inr ⟨rfl, HE.out⟩
        case measure => decide
      | true =>
        have g1 := World.grownBy_alloc w (.cells #[.int .u8 1] 5) none
        have HP := Lib.hid (outU8G _ 1 1 _ _ (H.out.grown g1) (rd_one w 1 (w.heap.size + 1) (by omega)) HM.out.1 HM.out.2)
        have HK := Lib.hid (Keep.grown H.out g1)
        clear g1
        go_wp2_with fail
        go_at_call 123
        refine HP.out.mono ?_
        rintro e w' hE
        obtain ⟨⟨rfl, h1⟩, h3⟩ := hE
        have HE := Lib.hid (show Goes w0 w g lim (n + 1) (cat n f (fun _ => flagB true)) (.returned (.tuple #[])) w' from ⟨⟨rfl, h1⟩, HK.out.trans h3⟩)
        clear h1 h3 HP
        go_wp2_with fail
        go_roundw
        case rel => exact Or.inr ⟨rfl, HE.out⟩
        case measure => decide
    · have HE := Lib.hid hE
      clear hE
      go_wp2_with fail
      go_end0
      exact HE.out
theorem outSizedG {w0 w : World} {g lim n : Nat} {f : Nat → Nat} (most : Int) (D m c : Nat) (a : Option Addr) (h : Nat → Nat) (hO : Good w0 w g lim n f) (hw : ¬ min most 65535 < (m : Int)) (hR : Rd w0 D a m h) (m0 : -9223372036854775808 ≤ most) (m1 : most < 9223372036854775808) (hr : n + 2 + m ≤ lim) (hl : lim ≤ 2 ^ 46) :
    Calls Try.prog 98 #[.pointer (some ⟨g, 0, none⟩), .int .i64 most, .slice a m c] w (Goes w0 w g lim (n + 2 + m) (cat (n + 2) (cat n f (nbF m 2)) h)) := by
  have HC := Lib.hid (outCountK_any most m hO hw m0 m1 (by omega))
  rw [OSt.put_room _ _ _ _ _ (by omega)] at HC
  have HX : Hid (∀ w', Goes w0 w g lim (n + 2) (cat n f (nbF m 2)) (.returned (.tuple #[])) w' → Calls Try.prog 132 #[.pointer (some ⟨g, 0, none⟩), .slice a m c] w' (Goes w0 w' g lim (n + 2 + m) (cat (n + 2) (cat n f (nbF m 2)) h))) := fun w' hE =>
    outPutG D m c a h hE.says.st (hR.grown hE.says.st.gr (by simp)) hr hl
  clear hO hw hR m0 m1 hr hl
  go_enter Try.func98, Try.ntmps98
  go_wp2_with fail
  go_at_call 138
  refine HC.out.mono ?_
  rintro e w1 ⟨⟨rfl, h1⟩, h3⟩
  have HP := Lib.hid (HX.out w1 ⟨⟨rfl, h1⟩, h3⟩)
  have HK := Lib.hid h3
  clear HX HC h1 h3
  go_wp2_with fail
  go_at_call 132
  refine HP.out.mono ?_
  rintro e w' ⟨⟨rfl, h1⟩, h3⟩
  have HE := Lib.hid (show Goes w0 w g lim (n + 2 + m) (cat (n + 2) (cat n f (nbF m 2)) h) (.returned (.tuple #[])) w' from ⟨⟨rfl, h1⟩, HK.out.trans h3⟩)
  clear h1 h3 HP
  go_wp2_with fail
  go_end0
  exact HE.out
end Go.Proofs.Ytdagbighlgfhjaa
namespace Go.Proofs.Ytdagbighlgfhjaa
open Go.RowKit

set_option maxRecDepth 100000
set_option maxHeartbeats 4000000

/-- So many numbers of 32 bits behind. -/
def nums32 (n : Nat) (f x : Nat → Nat) : Nat → (Nat → Nat)
  | 0 => f
  | i + 1 => cat (n + 4 * i) (nums32 n f x i) (nbF (x i) 4)
theorem nums32_succ (n : Nat) (f x : Nat → Nat) (i : Nat) : nums32 n f x (i + 1) = cat (n + 4 * i) (nums32 n f x i) (nbF (x i) 4) := rfl
theorem outNums32G {w0 w : World} {g lim n : Nat} {f : Nat → Nat} (N tb c : Nat) (x : Nat → Nat) (hO : Good w0 w g lim n f) (hft : Foreign w (some ⟨g, 0, none⟩) tb) (htb : tb < w.heap.size) (hN : N ≤ 1000) (hx : ∀ i, x i < 4294967296) (hc : ∀ i, i < N → w.cell? ⟨tb, 0 + i, none⟩ = some (.int .u32 (x i))) (hr : n + 4 * N ≤ lim) (hl : lim ≤ 2 ^ 46) :
    Calls Try.prog 143 #[.pointer (some ⟨g, 0, none⟩), .int .i64 4, .slice (some ⟨tb, 0, none⟩) N c] w (Goes w0 w g lim (n + 4 * N) (nums32 n f x N)) := by
  have HC := Lib.hid (And.intro hft (And.intro htb hc))
  have HM := Lib.hid (And.intro hr hl)
  have HX := Lib.hid hx
  have HN := Lib.hid hN
  have HO := Lib.hid hO
  clear hO hft htb hc hr hl hx hN
  go_enter Try.func143, Try.ntmps143
  go_wp2_with fail
  go_loopw [12] (fun u12 wr => ∃ i : Nat, i ≤ N ∧ u12 = .int .i64 i ∧ Goes w0 w g lim (n + 4 * i) (nums32 n f x i) (.returned (.tuple #[])) wr) (fun u12 _ => N - (intOf u12).toNat)
  case atStart => exact ⟨0, Nat.zero_le _, rfl, ⟨rfl, HO.out⟩, Keep.refl _ _⟩
  case round =>
    obtain ⟨k, hk, rfl, hG⟩ := hrel
    obtain ⟨N', hN'⟩ : ∃ y, y = N := ⟨_, rfl⟩
    have HNN := Lib.hid hN'
    by_cases hlt : k < N
    · have j0 : (k : Int) < (N : Int) := by omega
      have cx := (World.cell?_of_block (a := ⟨tb, 0 + k, none⟩) (hG.kp tb HC.out.2.1 HC.out.1).1).trans (HC.out.2.2 k hlt)
      rw [Nat.zero_add] at cx
      obtain ⟨y, hy⟩ : ∃ y, y = x k := ⟨_, rfl⟩
      rw [← hy] at cx
      have HY : Hid (y < 4294967296) := Lib.hid (by rw [hy]; exact HX.out k)
      have HYY := Lib.hid hy
      have gr0 := World.grownBy_alloc wr (.cells #[.int .u8 0, .int .u8 0, .int .u8 0, .int .u8 0, .int .u8 0, .int .u8 0, .int .u8 0, .int .u8 0] 210) none
      have hH := holds_alloc wr 210 .u8 8 (fun _ => 0) #[.int .u8 0, .int .u8 0, .int .u8 0, .int .u8 0, .int .u8 0, .int .u8 0, .int .u8 0, .int .u8 0] rfl
      have Gr := Lib.hid gr0
      have HH := Lib.hid hH
      have HG := Lib.hid hG
      have HLT := Lib.hid hlt
      have HK := Lib.hid hk
      clear gr0 hH hG hy hlt hk hN'
      have HNB := Lib.hid (show wrap64 ((k : Int) + 1) = ((k + 1 : Nat) : Int) by have := HLT.out; have := HN.out; unfold wrap64; omega)
      go_wp2_with fail
      obtain ⟨B, hB⟩ : ∃ B, B = wr.heap.size := ⟨_, rfl⟩
      have hH := HH.out
      have gr0 := Gr.out
      rw [← hB] at hH ⊢
      clear HH Gr
      have HB := Lib.hid hB
      clear hB
      generalize wr.alloc (.cells #[.int .u8 0, .int .u8 0, .int .u8 0, .int .u8 0, .int .u8 0, .int .u8 0, .int .u8 0, .int .u8 0] 210) = w1 at *
      obtain ⟨wr2, hwr2⟩ : ∃ y, y = wr := ⟨_, rfl⟩
      rw [← hwr2] at HB HG gr0
      clear hwr2 cx
      go_loopw [17] (fun u17 w2 => ∃ i : Nat, i ≤ 4 ∧ u17 = .int .i64 i ∧ Holds w2 B 210 .u8 8 (fun j => if 4 ≤ j + i ∧ j < 4 then nbF y 4 j else 0) ∧ wr2.grownBy w2 none) (fun u17 _ => 4 - (intOf u17).toNat)
      case atStart => exact ⟨0, Nat.zero_le _, rfl, hH.congr (fun j hj => (if_neg (by omega)).symm), gr0⟩
      case round =>
        clear hH gr0
        obtain ⟨i, hi, rfl, hH, gr⟩ := hrel
        by_cases hlt : i < 4
        · have c0 := hH.cell (4 - 1 - i) (by omega)
          have f0 := hH.frozen (4 - 1 - i)
          have Hi := Lib.hid hi
          have HL := Lib.hid hlt
          clear hi hlt
          have j1 : (i : Int) < 4 := by have := HL.out; omega
          obtain ⟨q, hq⟩ : ∃ q, q = nbF y 4 (4 - 1 - i) := ⟨_, rfl⟩
          have x0 := shr_byte y 4 i HL.out
          rw [← hq] at x0
          have hH2 := (hH.set (4 - 1 - i) q).congr (g := fun j => if 4 ≤ j + (i + 1) ∧ j < 4 then nbF y 4 j else 0) (fun j hj => by
            have := HL.out
            by_cases e : j = 4 - 1 - i
            · subst e; rw [upd_same, if_pos (by omega), hq]
            · rw [upd_other _ _ _ _ e]
              by_cases e2 : 4 ≤ j + i ∧ j < 4
              · rw [if_pos e2, if_pos (by omega)]
              · rw [if_neg e2, if_neg (by omega)])
          have g2 := grown_setCell_new gr ⟨B, 4 - 1 - i, none⟩ (.int .u8 (q : Nat)) (Or.inl (by show wr2.heap.size ≤ B; have := HB.out; omega))
          have HH2 := Lib.hid hH2
          have G2 := Lib.hid g2
          clear hH2 g2 hH gr hq
          go_wp2_with fail
          go_roundw
          case rel => exact ⟨i + 1, HL.out, by go_num, HH2.out, G2.out⟩
          case measure =>
            have := HL.out
            simp [intOf]
            try omega
        · obtain rfl : i = 4 := by omega
          have hE := hH.congr (g := fun j => if j < 4 then nbF y 4 j else 0) (fun j hj => by by_cases e : j < 4 <;> simp [e])
          have hR : Rd wr wr.heap.size (some ⟨B, 0, none⟩) 4 (nbF y 4) := (hE.rd _ hE.lt 4 (by decide)).congr (fun j hj => if_pos hj)
          have HP := Lib.hid (outPutG wr.heap.size 4 8 (some ⟨B, 0, none⟩) (nbF y 4) (HG.out.says.st.grown gr) hR (by have := HM.out.1; have := HLT.out; omega) HM.out.2)
          have HKK := Lib.hid (HG.out.kp.trans (Keep.grown HG.out.says.st gr))
          clear hE hR hH gr hi hlt
          go_wp2_with fail
          go_at_call 132
          refine HP.out.mono ?_
          rintro e w3 hE
          obtain ⟨⟨rfl, h1⟩, h3⟩ := hE
          have HE : Hid (Goes w0 w g lim (n + 4 * (k + 1)) (nums32 n f x (k + 1)) (.returned (.tuple #[])) w3) := Lib.hid (by
            rw [show n + 4 * (k + 1) = n + 4 * k + 4 by omega, nums32_succ, ← HYY.out]
            exact ⟨⟨rfl, h1⟩, HKK.out.trans h3⟩)
          clear h1 h3 HP HKK HG
          go_wp2_with fail
          go_roundw
          case rel => exact ⟨k + 1, HLT.out, by rw [HNB.out], HE.out⟩
          case measure =>
            have := HLT.out
            exact meas_lt N k _ (by rw [HNB.out]) HLT.out
    · obtain rfl : k = N := by omega
      have HE := Lib.hid hG
      clear hG hk hlt hN'
      go_wp2_with fail
      go_end0
      exact HE.out
theorem outU32G {w0 w : World} {g lim n : Nat} {f : Nat → Nat} (N tb c : Nat) (x : Nat → Nat) (hO : Good w0 w g lim n f) (hft : Foreign w (some ⟨g, 0, none⟩) tb) (htb : tb < w.heap.size) (hN : N ≤ 1000) (hx : ∀ i, x i < 4294967296) (hc : ∀ i, i < N → w.cell? ⟨tb, 0 + i, none⟩ = some (.int .u32 (x i))) (hr : n + 4 * N ≤ lim) (hl : lim ≤ 2 ^ 46) :
    Calls Try.prog 107 #[.pointer (some ⟨g, 0, none⟩), .slice (some ⟨tb, 0, none⟩) N c] w (Goes w0 w g lim (n + 4 * N) (nums32 n f x N)) := by
  have HP := Lib.hid (outNums32G N tb c x hO hft htb hN hx hc hr hl)
  clear hO hft htb hN hx hc hr hl
  go_enter Try.func107, Try.ntmps107
  go_wp2_with fail
  go_at_call 143
  refine HP.out.mono ?_
  rintro e w' ⟨⟨rfl, h1⟩, h3⟩
  have HE := Lib.hid (show Goes w0 w g lim (n + 4 * N) (nums32 n f x N) (.returned (.tuple #[])) w' from ⟨⟨rfl, h1⟩, h3⟩)
  clear h1 h3 HP
  go_wp2_with fail
  go_end0
  exact HE.out
end Go.Proofs.Ytdagbighlgfhjaa
namespace Go.Proofs.Ytdagbighlgfhjaa
open Go.RowKit

set_option maxRecDepth 100000
set_option maxHeartbeats 4000000

/-- So many numbers of 64 bits behind. -/
def nums64 (n : Nat) (f x : Nat → Nat) : Nat → (Nat → Nat)
  | 0 => f
  | i + 1 => cat (n + 8 * i) (nums64 n f x i) (nbF (x i) 8)
theorem nums64_succ (n : Nat) (f x : Nat → Nat) (i : Nat) : nums64 n f x (i + 1) = cat (n + 8 * i) (nums64 n f x i) (nbF (x i) 8) := rfl
theorem outNums64G {w0 w : World} {g lim n : Nat} {f : Nat → Nat} (N tb c : Nat) (x : Nat → Nat) (hO : Good w0 w g lim n f) (hft : Foreign w (some ⟨g, 0, none⟩) tb) (htb : tb < w.heap.size) (hN : N ≤ 1000) (hx : ∀ i, x i < 18446744073709551616) (hc : ∀ i, i < N → w.cell? ⟨tb, 0 + i, none⟩ = some (.int .u64 (x i))) (hr : n + 8 * N ≤ lim) (hl : lim ≤ 2 ^ 46) :
    Calls Try.prog 133 #[.pointer (some ⟨g, 0, none⟩), .int .i64 8, .slice (some ⟨tb, 0, none⟩) N c] w (Goes w0 w g lim (n + 8 * N) (nums64 n f x N)) := by
  have HC := Lib.hid (And.intro hft (And.intro htb hc))
  have HM := Lib.hid (And.intro hr hl)
  have HX := Lib.hid hx
  have HN := Lib.hid hN
  have HO := Lib.hid hO
  clear hO hft htb hc hr hl hx hN
  go_enter Try.func133, Try.ntmps133
  go_wp2_with fail
  go_loopw [12] (fun u12 wr => ∃ i : Nat, i ≤ N ∧ u12 = .int .i64 i ∧ Goes w0 w g lim (n + 8 * i) (nums64 n f x i) (.returned (.tuple #[])) wr) (fun u12 _ => N - (intOf u12).toNat)
  case atStart => exact ⟨0, Nat.zero_le _, rfl, ⟨rfl, HO.out⟩, Keep.refl _ _⟩
  case round =>
    obtain ⟨k, hk, rfl, hG⟩ := hrel
    obtain ⟨N', hN'⟩ : ∃ y, y = N := ⟨_, rfl⟩
    have HNN := Lib.hid hN'
    by_cases hlt : k < N
    · have j0 : (k : Int) < (N : Int) := by omega
      have cx := (World.cell?_of_block (a := ⟨tb, 0 + k, none⟩) (hG.kp tb HC.out.2.1 HC.out.1).1).trans (HC.out.2.2 k hlt)
      rw [Nat.zero_add] at cx
      obtain ⟨y, hy⟩ : ∃ y, y = x k := ⟨_, rfl⟩
      rw [← hy] at cx
      have HY : Hid (y < 18446744073709551616) := Lib.hid (by rw [hy]; exact HX.out k)
      have HYY := Lib.hid hy
      have gr0 := World.grownBy_alloc wr (.cells #[.int .u8 0, .int .u8 0, .int .u8 0, .int .u8 0, .int .u8 0, .int .u8 0, .int .u8 0, .int .u8 0] 210) none
      have hH := holds_alloc wr 210 .u8 8 (fun _ => 0) #[.int .u8 0, .int .u8 0, .int .u8 0, .int .u8 0, .int .u8 0, .int .u8 0, .int .u8 0, .int .u8 0] rfl
      have Gr := Lib.hid gr0
      have HH := Lib.hid hH
      have HG := Lib.hid hG
      have HLT := Lib.hid hlt
      have HK := Lib.hid hk
      clear gr0 hH hG hy hlt hk hN'
      have HNB := Lib.hid (show wrap64 ((k : Int) + 1) = ((k + 1 : Nat) : Int) by have := HLT.out; have := HN.out; unfold wrap64; omega)
      go_wp2_with fail
      obtain ⟨B, hB⟩ : ∃ B, B = wr.heap.size := ⟨_, rfl⟩
      have hH := HH.out
      have gr0 := Gr.out
      rw [← hB] at hH ⊢
      clear HH Gr
      have HB := Lib.hid hB
      clear hB
      generalize wr.alloc (.cells #[.int .u8 0, .int .u8 0, .int .u8 0, .int .u8 0, .int .u8 0, .int .u8 0, .int .u8 0, .int .u8 0] 210) = w1 at *
      obtain ⟨wr2, hwr2⟩ : ∃ y, y = wr := ⟨_, rfl⟩
      rw [← hwr2] at HB HG gr0
      clear hwr2 cx
      go_loopw [17] (fun u17 w2 => ∃ i : Nat, i ≤ 8 ∧ u17 = .int .i64 i ∧ Holds w2 B 210 .u8 8 (fun j => if 8 ≤ j + i ∧ j < 8 then nbF y 8 j else 0) ∧ wr2.grownBy w2 none) (fun u17 _ => 8 - (intOf u17).toNat)
      case atStart => exact ⟨0, Nat.zero_le _, rfl, hH.congr (fun j hj => (if_neg (by omega)).symm), gr0⟩
      case round =>
        clear hH gr0
        obtain ⟨i, hi, rfl, hH, gr⟩ := hrel
        by_cases hlt : i < 8
        · have c0 := hH.cell (8 - 1 - i) (by omega)
          have f0 := hH.frozen (8 - 1 - i)
          have Hi := Lib.hid hi
          have HL := Lib.hid hlt
          clear hi hlt
          have j1 : (i : Int) < 8 := by have := HL.out; omega
          obtain ⟨q, hq⟩ : ∃ q, q = nbF y 8 (8 - 1 - i) := ⟨_, rfl⟩
          have x0 := shr_byte y 8 i HL.out
          rw [← hq] at x0
          have hH2 := (hH.set (8 - 1 - i) q).congr (g := fun j => if 8 ≤ j + (i + 1) ∧ j < 8 then nbF y 8 j else 0) (fun j hj => by
            have := HL.out
            by_cases e : j = 8 - 1 - i
            · subst e; rw [upd_same, if_pos (by omega), hq]
            · rw [upd_other _ _ _ _ e]
              by_cases e2 : 8 ≤ j + i ∧ j < 8
              · rw [if_pos e2, if_pos (by omega)]
              · rw [if_neg e2, if_neg (by omega)])
          have g2 := grown_setCell_new gr ⟨B, 8 - 1 - i, none⟩ (.int .u8 (q : Nat)) (Or.inl (by show wr2.heap.size ≤ B; have := HB.out; omega))
          have HH2 := Lib.hid hH2
          have G2 := Lib.hid g2
          clear hH2 g2 hH gr hq
          go_wp2_with fail
          go_roundw
          case rel => exact ⟨i + 1, HL.out, by go_num, HH2.out, G2.out⟩
          case measure =>
            have := HL.out
            simp [intOf]
            try omega
        · obtain rfl : i = 8 := by omega
          have hE := hH.congr (g := fun j => if j < 8 then nbF y 8 j else 0) (fun j hj => by by_cases e : j < 8 <;> simp [e])
          have hR : Rd wr wr.heap.size (some ⟨B, 0, none⟩) 8 (nbF y 8) := (hE.rd _ hE.lt 8 (by decide)).congr (fun j hj => if_pos hj)
          have HP := Lib.hid (outPutG wr.heap.size 8 8 (some ⟨B, 0, none⟩) (nbF y 8) (HG.out.says.st.grown gr) hR (by have := HM.out.1; have := HLT.out; omega) HM.out.2)
          have HKK := Lib.hid (HG.out.kp.trans (Keep.grown HG.out.says.st gr))
          clear hE hR hH gr hi hlt
          go_wp2_with fail
          go_at_call 132
          refine HP.out.mono ?_
          rintro e w3 hE
          obtain ⟨⟨rfl, h1⟩, h3⟩ := hE
          have HE : Hid (Goes w0 w g lim (n + 8 * (k + 1)) (nums64 n f x (k + 1)) (.returned (.tuple #[])) w3) := Lib.hid (by
            rw [show n + 8 * (k + 1) = n + 8 * k + 8 by omega, nums64_succ, ← HYY.out]
            exact ⟨⟨rfl, h1⟩, HKK.out.trans h3⟩)
          clear h1 h3 HP HKK HG
          go_wp2_with fail
          go_roundw
          case rel => exact ⟨k + 1, HLT.out, by rw [HNB.out], HE.out⟩
          case measure =>
            have := HLT.out
            exact meas_lt N k _ (by rw [HNB.out]) HLT.out
    · obtain rfl : k = N := by omega
      have HE := Lib.hid hG
      clear hG hk hlt hN'
      go_wp2_with fail
      go_end0
      exact HE.out
theorem outU64G {w0 w : World} {g lim n : Nat} {f : Nat → Nat} (N tb c : Nat) (x : Nat → Nat) (hO : Good w0 w g lim n f) (hft : Foreign w (some ⟨g, 0, none⟩) tb) (htb : tb < w.heap.size) (hN : N ≤ 1000) (hx : ∀ i, x i < 18446744073709551616) (hc : ∀ i, i < N → w.cell? ⟨tb, 0 + i, none⟩ = some (.int .u64 (x i))) (hr : n + 8 * N ≤ lim) (hl : lim ≤ 2 ^ 46) :
    Calls Try.prog 70 #[.pointer (some ⟨g, 0, none⟩), .slice (some ⟨tb, 0, none⟩) N c] w (Goes w0 w g lim (n + 8 * N) (nums64 n f x N)) := by
  have HP := Lib.hid (outNums64G N tb c x hO hft htb hN hx hc hr hl)
  clear hO hft htb hN hx hc hr hl
  go_enter Try.func70, Try.ntmps70
  go_wp2_with fail
  go_at_call 133
  refine HP.out.mono ?_
  rintro e w' ⟨⟨rfl, h1⟩, h3⟩
  have HE := Lib.hid (show Goes w0 w g lim (n + 8 * N) (nums64 n f x N) (.returned (.tuple #[])) w' from ⟨⟨rfl, h1⟩, h3⟩)
  clear h1 h3 HP
  go_wp2_with fail
  go_end0
  exact HE.out
end Go.Proofs.Ytdagbighlgfhjaa
namespace Go.Proofs.Ytdagbighlgfhjaa
open Go.RowKit

set_option maxRecDepth 100000
set_option maxHeartbeats 4000000

/-- A good writer, and n cells that are not its own; since wS what is not its own stands still. -/
structure PX (w0 wS w : World) (g lim n : Nat) (f : Nat → Nat) (B : Nat) (T : TypeId) (N : Nat) (v : Nat → Value) : Prop where
  out : Good w0 w g lim n f
  row : RowAt w B T N v
  fr : Foreign w (some ⟨g, 0, none⟩) B
  kp : Keep wS (some ⟨g, 0, none⟩) w
section
variable {w0 wS w w' : World} {g lim n : Nat} {f : Nat → Nat} {B : Nat} {T : TypeId} {N : Nat} {v : Nat → Value}
theorem PX.begin (h : Good w0 w g lim n f) (T : TypeId) (N : Nat) (v : Nat → Value) : PX w0 w (w.alloc (.cells (rowOf N v) T)) g lim n f w.heap.size T N v :=
  have g1 := World.grownBy_alloc w (.cells (rowOf N v) T) none
  ⟨h.grown g1, RowAt.new w T N v _ rfl, h.new g1 _ (Nat.le_refl _), Keep.grown h g1⟩
theorem PX.grown (h : PX w0 wS w g lim n f B T N v) (g1 : w.grownBy w' none) : PX w0 wS w' g lim n f B T N v :=
  ⟨h.out.grown g1, h.row.grown g1 (by simp), h.fr.grown h.out g1, h.kp.trans (Keep.grown h.out g1)⟩
theorem PX.call (h : PX w0 wS w g lim n f B T N v) {n' : Nat} {f' : Nat → Nat} {e : Ending} (hs : Goes w0 w g lim n' f' e w') : e = .returned (.tuple #[]) ∧ PX w0 wS w' g lim n' f' B T N v :=
  have hb := hs.kp B h.row.lt h.fr
  ⟨hs.says.ex, hs.says.st, ⟨hb.1.trans h.row.block⟩, hb.2, h.kp.trans hs.kp⟩
theorem PX.done (h : PX w0 wS w g lim n f B T N v) : Goes w0 wS g lim n f (.returned (.tuple #[])) w := ⟨⟨rfl, h.out⟩, h.kp⟩
theorem PX.rd (h : PX w0 wS w g lim n f B T N v) (o m : Nat) (fb : Nat → Nat) (ho : o + m ≤ N) (hv : ∀ i, i < m → v (o + i) = .int .u8 (fb i)) : Rd w (B + 1) (some ⟨B, o, none⟩) m fb :=
  ⟨fun _ => ⟨B, o, rfl, Nat.lt_succ_self _, fun i hi => by rw [h.row.cell (o + i) (by omega), hv i hi]⟩⟩
/-- What a call that follows leaves. -/
abbrev Left (w0 wS : World) (g lim n : Nat) (f : Nat → Nat) (B : Nat) (T : TypeId) (N : Nat) (v : Nat → Value) (e : Ending) (w' : World) : Prop := e = .returned (.tuple #[]) ∧ PX w0 wS w' g lim n f B T N v
theorem PX.fixed (h : PX w0 wS w g lim n f B T N v) (T' : TypeId) (o m cv : Nat) (fb : Nat → Nat) (ho : o + m ≤ N) (hv : ∀ i, i < m → v (o + i) = .int .u8 (fb i)) (hr : n + m ≤ lim) (hl : lim ≤ 2 ^ 46) :
    Calls Try.prog 69 #[.pointer (some ⟨g, 0, none⟩), .slice (some ⟨w.heap.size, 0, none⟩) 1 1] (w.alloc (.cells #[.slice (some ⟨B, o, none⟩) m cv] T')) (Left w0 wS g lim (n + m) (cat n f fb) B T N v) := by
  have h2 := h.grown (World.grownBy_alloc w (.cells #[.slice (some ⟨B, o, none⟩) m cv] T') none)
  exact (outFixedG (B + 1) m cv (some ⟨B, o, none⟩) fb w.heap.size 1 h2.out (cell_of_row _ _ _ _ _ _ (heap_alloc_new w _)) (h2.rd o m fb ho hv) hr hl).mono fun e w' hs => h2.call hs
theorem PX.fixed2 (h : PX w0 wS w g lim n f B T N v) (T' : TypeId) (o m cv : Nat) (fb : Nat → Nat) (o2 m2 cv2 : Nat) (fb2 : Nat → Nat) (ho : o + m ≤ N) (hv : ∀ i, i < m → v (o + i) = .int .u8 (fb i)) (ho2 : o2 + m2 ≤ N) (hv2 : ∀ i, i < m2 → v (o2 + i) = .int .u8 (fb2 i)) (hr : n + m + m2 ≤ lim) (hl : lim ≤ 2 ^ 46) :
    Calls Try.prog 69 #[.pointer (some ⟨g, 0, none⟩), .slice (some ⟨w.heap.size, 0, none⟩) 2 2] (w.alloc (.cells #[.slice (some ⟨B, o, none⟩) m cv, .slice (some ⟨B, o2, none⟩) m2 cv2] T')) (Left w0 wS g lim (n + m + m2) (cat (n + m) (cat n f fb) fb2) B T N v) := by
  have g1 := World.grownBy_alloc w (.cells #[.slice (some ⟨B, o, none⟩) m cv, .slice (some ⟨B, o2, none⟩) m2 cv2] T') none
  have h2 := h.grown g1
  exact (outFixedG2 (B + 1) m cv (some ⟨B, o, none⟩) fb B o2 m2 cv2 fb2 w.heap.size 2 h2.out (h.out.new g1 _ (Nat.le_refl _)) (cell_of_row _ _ _ _ _ _ (heap_alloc_new w _)) (cell_of_row _ _ _ _ _ _ (heap_alloc_new w _)) (h2.rd o m fb ho hv) h2.fr h2.row.lt
    (fun i hi => by rw [h2.row.cell (o2 + i) (by omega), hv2 i hi]) hr hl).mono fun e w' hs => h2.call hs
theorem PX.flag (h : PX w0 wS w g lim n f B T N v) (T' : TypeId) (b : Bool) (hr : n + 1 ≤ lim) (hl : lim ≤ 2 ^ 46) :
    Calls Try.prog 124 #[.pointer (some ⟨g, 0, none⟩), .slice (some ⟨w.heap.size, 0, none⟩) 1 1] (w.alloc (.cells #[.bool b] T')) (Left w0 wS g lim (n + 1) (cat n f (fun _ => flagB b)) B T N v) := by
  have h2 := h.grown (World.grownBy_alloc w (.cells #[.bool b] T') none)
  exact (outFlagG b w.heap.size 1 h2.out (cell_of_row _ _ _ _ _ _ (heap_alloc_new w _)) hr hl).mono fun e w' hs => h2.call hs
theorem PX.u64 (h : PX w0 wS w g lim n f B T N v) (T' : TypeId) (x : Nat) (hx : x < 18446744073709551616) (hr : n + 8 ≤ lim) (hl : lim ≤ 2 ^ 46) :
    Calls Try.prog 70 #[.pointer (some ⟨g, 0, none⟩), .slice (some ⟨w.heap.size, 0, none⟩) 1 1] (w.alloc (.cells #[.int .u64 x] T')) (Left w0 wS g lim (n + 8) (cat n f (nbF x 8)) B T N v) := by
  have g1 := World.grownBy_alloc w (.cells #[.int .u64 x] T') none
  have h2 := h.grown g1
  exact (outU64G 1 w.heap.size 1 (fun _ => x) h2.out (h.out.new g1 _ (Nat.le_refl _)) (by rw [World.size_alloc]; omega) (by decide) (fun _ => hx) (fun i hi => by
    obtain rfl : i = 0 := by omega
    exact cell_of_row _ _ _ _ _ _ (heap_alloc_new w _)) hr hl).mono fun e w' hs => h2.call hs
theorem PX.u32 (h : PX w0 wS w g lim n f B T N v) (T' : TypeId) (x : Nat) (hx : x < 4294967296) (hr : n + 4 ≤ lim) (hl : lim ≤ 2 ^ 46) :
    Calls Try.prog 107 #[.pointer (some ⟨g, 0, none⟩), .slice (some ⟨w.heap.size, 0, none⟩) 1 1] (w.alloc (.cells #[.int .u32 x] T')) (Left w0 wS g lim (n + 4) (cat n f (nbF x 4)) B T N v) := by
  have g1 := World.grownBy_alloc w (.cells #[.int .u32 x] T') none
  have h2 := h.grown g1
  exact (outU32G 1 w.heap.size 1 (fun _ => x) h2.out (h.out.new g1 _ (Nat.le_refl _)) (by rw [World.size_alloc]; omega) (by decide) (fun _ => hx) (fun i hi => by
    obtain rfl : i = 0 := by omega
    exact cell_of_row _ _ _ _ _ _ (heap_alloc_new w _)) hr hl).mono fun e w' hs => h2.call hs
theorem PX.u32two (h : PX w0 wS w g lim n f B T N v) (T' : TypeId) (x y : Nat) (hx : x < 4294967296) (hy : y < 4294967296) (hr : n + 8 ≤ lim) (hl : lim ≤ 2 ^ 46) :
    Calls Try.prog 107 #[.pointer (some ⟨g, 0, none⟩), .slice (some ⟨w.heap.size, 0, none⟩) 2 2] (w.alloc (.cells #[.int .u32 x, .int .u32 y] T')) (Left w0 wS g lim (n + 8) (cat (n + 4) (cat n f (nbF x 4)) (nbF y 4)) B T N v) := by
  have g1 := World.grownBy_alloc w (.cells #[.int .u32 x, .int .u32 y] T') none
  have h2 := h.grown g1
  exact (outU32G 2 w.heap.size 2 (fun i => if i = 0 then x else y) h2.out (h.out.new g1 _ (Nat.le_refl _)) (by rw [World.size_alloc]; omega) (by decide) (fun i => by split <;> assumption) (fun i hi => by
    obtain rfl | rfl : i = 0 ∨ i = 1 := by omega
    · exact cell_of_row _ _ _ _ _ _ (heap_alloc_new w _)
    · exact cell_of_row _ _ _ _ _ _ (heap_alloc_new w _)) hr hl).mono fun e w' hs => h2.call hs
end
/-- A device. -/
abbrev devR (f : Nat → Nat) : Value := .agg (rowOf 2 (fun j => .int .u8 (f j)))
theorem putDevice_any {w0 w : World} {g lim n : Nat} {f : Nat → Nat} (d : Nat → Nat) (h : Good w0 w g lim n f) (hr : n + 2 ≤ lim) (hl : lim ≤ 2 ^ 46) :
    Calls Try.prog 71 #[.pointer (some ⟨g, 0, none⟩), devR d] w (Goes w0 w g lim (n + 2) (cat n f d)) := by
  have hP := PX.begin h 26 2 (fun j => .int .u8 (d j))
  go_enter Try.func71, Try.ntmps71
  go_upto_region 1 with fail
  obtain ⟨B, hB⟩ : ∃ B, B = w.heap.size := ⟨_, rfl⟩
  rw [← hB] at hP ⊢
  generalize w.alloc (.cells (rowOf 2 (fun j => .int .u8 (d j))) 26) = w2 at *
  have c0 : w2.cell? ⟨B, 0, none⟩ = some (.int .u8 (d 0)) := hP.row.cell 0 (by decide)
  have c1 : w2.cell? ⟨B, 1, none⟩ = some (.int .u8 (d 1)) := hP.row.cell 1 (by decide)
  have HX := Lib.hid ((outU8G (w2.heap.size + 1) 2 2 _ d (hP.out.grown (World.grownBy_alloc w2 (.cells #[.int .u8 (d 0), .int .u8 (d 1)] 5) none)) ((rd_two w2 (d 0) (d 1) (w2.heap.size + 1) (by omega)).congr (fun i hi => by
    obtain rfl | rfl : i = 0 ∨ i = 1 := by omega
    · rfl
    · rfl)) hr hl).mono fun e w' hs => (hP.grown (World.grownBy_alloc w2 (.cells #[.int .u8 (d 0), .int .u8 (d 1)] 5) none)).call hs)
  clear hP h hr hl hB
  go_wp2_with fail
  go_at_call 123
  refine HX.out.mono ?_
  rintro e w' ⟨rfl, hP⟩
  have HE := Lib.hid hP.done
  clear hP HX
  go_wp2_with fail
  go_end0
  exact HE.out
end Go.Proofs.Ytdagbighlgfhjaa
namespace Go.Proofs.Ytdagbighlgfhjaa
open Go.RowKit

set_option maxRecDepth 100000
set_option maxHeartbeats 4000000

section
variable {w0 wS w w' : World} {g lim n : Nat} {f : Nat → Nat} {B : Nat} {T : TypeId} {N : Nat} {v : Nat → Value}
/-- What lay there when the writer was made is not its own. -/
theorem OAt.old (h : Good w0 w g lim n f) (k : Nat) (hk : k < w0.heap.size) : Foreign w (some ⟨g, 0, none⟩) k := by
  obtain ⟨g', a, c, e, h2, h3, h4, _⟩ := h.st
  cases e
  intro g2 e
  cases e
  refine ⟨by omega, fun b n' c' hcell => ?_⟩
  rw [h3.c0] at hcell
  cases hcell
  rcases h4.ex with ⟨e, _⟩ | ⟨b2, cap, e, hO, hb⟩
  · cases e
  · cases e
    omega
theorem PX.old (h : Good w0 w g lim n f) (hB : B < w0.heap.size) (hr : RowAt w B T N v) : PX w0 w w g lim n f B T N v := ⟨h, hr, h.old B hB, Keep.grown h (grown_refl w none)⟩
theorem PX.u8 (h : PX w0 wS w g lim n f B T N v) (T' : TypeId) (x : Nat) (hr : n + 1 ≤ lim) (hl : lim ≤ 2 ^ 46) :
    Calls Try.prog 123 #[.pointer (some ⟨g, 0, none⟩), .slice (some ⟨w.heap.size, 0, none⟩) 1 1] (w.alloc (.cells #[.int .u8 x] T')) (Left w0 wS g lim (n + 1) (cat n f (fun _ => x)) B T N v) := by
  have h2 := h.grown (World.grownBy_alloc w (.cells #[.int .u8 x] T') none)
  exact (outU8G (w.heap.size + 1) 1 1 _ (fun _ => x) h2.out ⟨fun _ => ⟨w.heap.size, 0, rfl, Nat.lt_succ_self _, fun i hi => by
    obtain rfl : i = 0 := by omega
    exact cell_of_row _ _ _ _ _ _ (heap_alloc_new w _)⟩⟩ hr hl).mono fun e w' hs => h2.call hs
theorem PX.u64three (h : PX w0 wS w g lim n f B T N v) (T' : TypeId) (x y z : Nat) (hx : x < 18446744073709551616) (hy : y < 18446744073709551616) (hz : z < 18446744073709551616) (hr : n + 24 ≤ lim) (hl : lim ≤ 2 ^ 46) :
    Calls Try.prog 70 #[.pointer (some ⟨g, 0, none⟩), .slice (some ⟨w.heap.size, 0, none⟩) 3 3] (w.alloc (.cells #[.int .u64 x, .int .u64 y, .int .u64 z] T')) (Left w0 wS g lim (n + 24) (cat (n + 16) (cat (n + 8) (cat n f (nbF x 8)) (nbF y 8)) (nbF z 8)) B T N v) := by
  have g1 := World.grownBy_alloc w (.cells #[.int .u64 x, .int .u64 y, .int .u64 z] T') none
  have h2 := h.grown g1
  exact (outU64G 3 w.heap.size 3 (fun i => if i = 0 then x else if i = 1 then y else z) h2.out (h.out.new g1 _ (Nat.le_refl _)) (by rw [World.size_alloc]; omega) (by decide) (fun i => by split <;> (try split) <;> assumption) (fun i hi => by
    obtain rfl | rfl | rfl : i = 0 ∨ i = 1 ∨ i = 2 := by omega
    · exact cell_of_row _ _ _ _ _ _ (heap_alloc_new w _)
    · exact cell_of_row _ _ _ _ _ _ (heap_alloc_new w _)
    · exact cell_of_row _ _ _ _ _ _ (heap_alloc_new w _)) hr hl).mono fun e w' hs => h2.call hs
end
/-- Bytes and no error, if it may be; else none, and ErrArg. -/
structure RcPutSays (w : World) (m : Bool) (n : Nat) (f : Nat → Nat) (e : Ending) (w' : World) : Prop where
  ex : ∃ a c, e = .returned (.tuple #[.slice a (if m = true then n else 0) c, .int .i64 (if m = true then 0 else 2)]) ∧ OwnN w' w.heap.size (.slice a (if m = true then n else 0) c) (if m = true then n else 0) f
  gr : w.grownBy w' none
theorem recPut_any (x : QV) (hx : x.Ok) (w : World) : Calls Try.prog 49 #[.agg (rowOf 22 x.v)] w (RcPutSays w x.may 43 x.bytes) := by
  have ga := World.grownBy_alloc w (.cells (rowOf 22 x.v) 128) none
  have hX := RowAt.new w 128 22 x.v _ rfl
  have HXX := Lib.hid hx
  obtain ⟨m, hm⟩ : ∃ m, m = x.may := ⟨_, rfl⟩
  rw [← hm]
  have HMM := Lib.hid hm
  clear hx hm
  go_enter Try.func49, Try.ntmps49
  go_upto_region 1 with fail
  obtain ⟨B, hB⟩ : ∃ B, B = w.heap.size := ⟨_, rfl⟩
  rw [← hB] at hX ⊢
  generalize w.alloc (.cells (rowOf 22 x.v) 128) = w1 at *
  clear hB
  have HL := Lib.hid (hX.load (P := Try.prog) 0 128 22 x.v (by decide) (fun j _ => by rw [Nat.zero_add]) (by kernel_rfl) (by kernel_rfl))
  have HM := Lib.hid (recMay_any x w1)
  have HG := Lib.hid ga
  have HR := Lib.hid hX
  clear ga hX
  go_wp2_with (first | ((with_reducible refine wpList_here ?_); refine wpList_ld (p := .pointer (some ⟨B, 0, none⟩)) 1 ?_ ?_ ?_ HL.out ?_; (· rfl); go_simp; (· kernel_rfl)))
  go_at_call 54
  refine HM.out.mono ?_
  rintro e w2 ⟨rfl, g2⟩
  have HG2 := Lib.hid (grown_trans HG.out g2)
  rw [← HMM.out]
  have hX := HR.out.grown g2 (by simp)
  have HR2 := Lib.hid hX
  clear HM HL g2 HG HR hX HMM
  cases m with
  | false =>
    go_wp2_with fail
    go_ret2
    exact ⟨⟨none, 0, rfl, OwnN.nil _ _ _⟩, HG2.out⟩
  | true =>
    have HN := Lib.hid (newOut_any 43 (by decide) (by decide) w2)
    go_wp2_with fail
    go_at_call 122
    refine HN.out.mono ?_
    rintro e w3 ⟨p, rfl, hO⟩
    obtain ⟨g, rfl⟩ : ∃ g, p = some ⟨g, 0, none⟩ := by
      obtain ⟨g', a, c, e, _⟩ := (show OAt w2 w3 p (.good 43 0 fun _ => 0) from hO).st
      exact ⟨g', e⟩
    have hO : Good w2 w3 g 43 0 (fun _ => 0) := hO
    have hP := PX.old (T := 128) hO HR2.out.lt (HR2.out.grown hO.gr (by simp))
    clear hO HN HR2
    have HX := Lib.hid (hP.fixed 39 0 16 16 x.id (by decide) x.v_id (by decide) (by decide))
    clear hP
    go_wp2_with fail
    go_at_call 69
    refine HX.out.mono ?_
    rintro e w4 ⟨rfl, hP⟩
    clear HX
    have HX := Lib.hid (hP.u8 5 x.pe (by decide) (by decide))
    have c16 : w4.cell? ⟨B, 16, none⟩ = some (.int .u8 x.pe) := hP.row.cell 16 (by decide)
    clear hP
    go_wp2_with fail
    go_at_call 123
    refine HX.out.mono ?_
    rintro e w5 ⟨rfl, hP⟩
    clear HX
    have HX := Lib.hid (hP.flag 4 x.out (by decide) (by decide))
    have c17 : w5.cell? ⟨B, 17, none⟩ = some (.bool x.out) := hP.row.cell 17 (by decide)
    clear hP
    go_wp2_with fail
    go_at_call 124
    refine HX.out.mono ?_
    rintro e w6 ⟨rfl, hP⟩
    clear HX
    have HX := Lib.hid (hP.u8 5 x.oc (by decide) (by decide))
    have c18 : w6.cell? ⟨B, 18, none⟩ = some (.int .u8 x.oc) := hP.row.cell 18 (by decide)
    clear hP
    go_wp2_with fail
    go_at_call 123
    refine HX.out.mono ?_
    rintro e w7 ⟨rfl, hP⟩
    clear HX
    have HX := Lib.hid (hP.u64three 24 x.bg x.an x.en HXX.out.bg HXX.out.an HXX.out.en (by decide) (by decide))
    have c19 : w7.cell? ⟨B, 19, none⟩ = some (.int .u64 x.bg) := hP.row.cell 19 (by decide)
    have c20 : w7.cell? ⟨B, 20, none⟩ = some (.int .u64 x.an) := hP.row.cell 20 (by decide)
    have c21 : w7.cell? ⟨B, 21, none⟩ = some (.int .u64 x.en) := hP.row.cell 21 (by decide)
    clear hP
    go_wp2_with fail
    go_at_call 70
    refine HX.out.mono ?_
    rintro e w8 ⟨rfl, hP⟩
    clear HX
    have h5 := hP.out
    clear hP
    rw [cat_none] at h5
    have HY := Lib.hid (outBytes_any h5 (show 43 ≤ 2 ^ 46 by decide))
    have HG5 := Lib.hid (grown_trans HG2.out h5.gr)
    clear h5
    go_wp2_with fail
    go_at_call 125
    refine HY.out.mono ?_
    rintro e w9 hE
    obtain ⟨a, c, rfl, hO, hg⟩ := hE.ex
    have HO := Lib.hid hO
    have HG6 := Lib.hid (grown_trans HG5.out hg)
    have HS5 := Lib.hid HG5.out.size
    clear hE hO hg HY
    go_wp2_with fail
    go_ret2
    exact ⟨⟨a, c, rfl, HO.out.base HS5.out⟩, HG6.out⟩
end Go.Proofs.Ytdagbighlgfhjaa
namespace Go.Proofs.Ytdagbighlgfhjaa
open Go.RowKit

/-- True, and nothing that was is turned. -/
structure SaysYes (w : World) (e : Ending) (w' : World) : Prop where
  ex : e = .returned (.bool true) ∧ w.grownBy w' none
end Go.Proofs.Ytdagbighlgfhjaa
namespace Go.Proofs.Ytdagbighlgfhjaa
open Go.RowKit

set_option maxRecDepth 100000

def eqN (n : Nat) (f g : Nat → Nat) : Bool := (List.range n).all fun i => f i == g i
theorem eqN_iff (n : Nat) (f g : Nat → Nat) : eqN n f g = true ↔ ∀ i, i < n → f i = g i := by
  unfold eqN
  rw [List.all_eq_true]
  simp
theorem eqN_refl (n : Nat) (f : Nat → Nat) : eqN n f f = true := (eqN_iff n f f).2 (fun _ _ => rfl)

theorem run_itemsN (d n : Nat) (f g : Nat → Nat) (w : World) : ∀ is : List Nat, (∀ i ∈ is, i < n) →
    (Op.eqItems (d + 1) 5 1 (cellsOf .u8 n f) (cellsOf .u8 n g) is).run Try.prog w = .ok (is.all fun i => f i == g i) w
  | [], _ => by simp [Op.eqItems]
  | i :: is, h => by
    have hi := h i (by simp)
    have hp : Try.prog.plainKey 5 = true := by kernel_rfl
    have p1 := run_part_plain w (P := Try.prog) hp (xs := cellsOf .u8 n f) (off := i * 1) (v := .int .u8 (f i)) (by rw [Nat.mul_one, cellsOf_get _ _ _ _ hi])
    have p2 := run_part_plain w (P := Try.prog) hp (xs := cellsOf .u8 n g) (off := i * 1) (v := .int .u8 (g i)) (by rw [Nat.mul_one, cellsOf_get _ _ _ _ hi])
    have p3 := run_equalIn_int (P := Try.prog) w d 5 .u8 .u8 (f i : Int) (g i : Int) (by kernel_rfl)
    have ih := run_itemsN d n f g w is (fun j hj => h j (by simp [hj]))
    have e : ((f i : Int) == (g i : Int)) = (f i == g i) := by rw [Bool.eq_iff_iff]; simp only [beq_iff_eq]; omega
    simp only [Op.eqItems, Sem.run_bind, p1, p2, p3, Result.andThen_ok, List.all_cons, e]
    cases hb : (f i == g i)
    · simp
    · simpa using ih

theorem run_eq32 (f g : Nat → Nat) (w : World) : (Op.equalIn 10000 27 (.agg (cellsOf .u8 32 f)) (.agg (cellsOf .u8 32 g))).run Try.prog w = .ok (eqN 32 f g) w := by
  obtain ⟨i0, hi, hz, hsz, hby⟩ := info_parts info_u8
  rw [run_equalIn_array (P := Try.prog) w 9999 (cellsOf .u8 32 f) (cellsOf .u8 32 g) (t := 27) (e := 5) (n := 32) (by kernel_rfl) hi]
  rw [show Try.prog.cellsOf 5 = 1 by kernel_rfl]
  exact run_itemsN 9998 32 f g w (List.range 32) (fun i hi => List.mem_range.1 hi)
theorem run_eql32 {o : Oper} {a : Act} {W : World} (t1 t2 : Tmp) (f g : Nat → Nat) (ho : o.op = .binOp .eql 27 (.tmp t1) (.tmp t2) 27)
    (h1 : a.eval (.tmp t1) = .agg (cellsOf .u8 32 f)) (h2 : a.eval (.tmp t2) = .agg (cellsOf .u8 32 g)) : (execOp a.eval o).run Try.prog W = .ok (.value (.bool (eqN 32 f g))) W := by
  have he := run_eq32 f g W
  unfold execOp
  simp only [ho, h1, h2]
  go_simp
end Go.Proofs.Ytdagbighlgfhjaa
namespace Go.Proofs.Ytdagbighlgfhjaa
open Go.RowKit

set_option maxRecDepth 100000
set_option maxHeartbeats 4000000

theorem eqiR_arr (d n : Nat) (T : TypeId) (hu : Try.prog.underlying T = some (.array n 5)) (f g : Nat → Nat) (w : World) : (Op.equalIn (d + 2) T (.agg (cellsOf .u8 n f)) (.agg (cellsOf .u8 n g))).run Try.prog w = .ok (eqN n f g) w := by
  obtain ⟨i0, hi, hz, hsz, hby⟩ := info_parts info_u8
  rw [run_equalIn_array (P := Try.prog) w (d + 1) (cellsOf .u8 n f) (cellsOf .u8 n g) (t := T) (e := 5) (n := n) hu hi]
  rw [show Try.prog.cellsOf 5 = 1 by kernel_rfl]
  exact run_itemsN d n f g w (List.range n) (fun i hi => List.mem_range.1 hi)
theorem eqi_rec (d : Nat) (x : QV) (w : World) : (Op.equalIn (d + 3) 128 (.agg (rowOf 22 x.v)) (.agg (rowOf 22 x.v))).run Try.prog w = .ok true w := by
  have h0 := eqiR_arr d 16 23 (by kernel_rfl) x.id x.id w
  rw [eqN_refl] at h0
  have e0 : ∀ x : QV, (rowOf 22 x.v).extract 0 16 = cellsOf .u8 16 x.id := fun x => by kernel_rfl
  have e1 : ∀ x : QV, (rowOf 22 x.v)[16]? = some (.int .u8 x.pe) := fun x => by kernel_rfl
  have e2 : ∀ x : QV, (rowOf 22 x.v)[17]? = some (.bool x.out) := fun x => by kernel_rfl
  have e3 : ∀ x : QV, (rowOf 22 x.v)[18]? = some (.int .u8 x.oc) := fun x => by kernel_rfl
  have e4 : ∀ x : QV, (rowOf 22 x.v)[19]? = some (.int .u64 x.bg) := fun x => by kernel_rfl
  have e5 : ∀ x : QV, (rowOf 22 x.v)[20]? = some (.int .u64 x.an) := fun x => by kernel_rfl
  have e6 : ∀ x : QV, (rowOf 22 x.v)[21]? = some (.int .u64 x.en) := fun x => by kernel_rfl
  rw [run_equalIn_struct w (d + 2) 128 _ _ (by kernel_rfl) (by kernel_rfl)]
  have hf := Try.underlying128
  simp only [Program.fieldsOf, hf, Op.eqFields]
  go_simp
theorem eq_rec (x : QV) (w : World) : (binOp .eql 128 (.agg (rowOf 22 x.v)) (.agg (rowOf 22 x.v))).run Try.prog w = .ok (.bool true) w := by
  have he : (Op.equalIn 10000 128 (.agg (rowOf 22 x.v)) (.agg (rowOf 22 x.v))).run Try.prog w = .ok true w := eqi_rec 9997 x w
  generalize rowOf 22 x.v = a at *
  go_simp
theorem ne_rec (x : QV) (w : World) : (binOp .neq 128 (.agg (rowOf 22 x.v)) (.agg (rowOf 22 x.v))).run Try.prog w = .ok (.bool false) w := by
  have he : (Op.equalIn 10000 128 (.agg (rowOf 22 x.v)) (.agg (rowOf 22 x.v))).run Try.prog w = .ok true w := eqi_rec 9997 x w
  generalize rowOf 22 x.v = a at *
  go_simp
theorem guard_rec (op : BinOp) (t1 t2 : Nat) (a b : Array Value) (w : World) (h : op = .eql ∨ op = .neq) : (eqGuard op 128 (.tmp t1) (.tmp t2) (.agg a) (.agg b)).run Try.prog w = .ok () w := by
  rcases h with rfl | rfl
  · unfold eqGuard; go_simp
  · unfold eqGuard; go_simp
theorem exec_eqR {o : Oper} {a : Act} {W : World} (t1 t2 : Nat) (x : QV) (ho : o.op = .binOp .eql 128 (.tmp t1) (.tmp t2) 128) (h1 : a.eval (.tmp t1) = .agg (rowOf 22 x.v)) (h2 : a.eval (.tmp t2) = .agg (rowOf 22 x.v)) : (execOp a.eval o).run Try.prog W = .ok (.value (.bool true)) W := by
  have hb := eq_rec x W
  have hg := guard_rec .eql t1 t2 (rowOf 22 x.v) (rowOf 22 x.v) W (Or.inl rfl)
  unfold execOp
  simp only [ho, h1, h2]
  simp only [Sem.run_bind, Sem.run_pure, Result.andThen_ok, hg, hb]
theorem exec_neR {o : Oper} {a : Act} {W : World} (t1 t2 : Nat) (x : QV) (ho : o.op = .binOp .neq 128 (.tmp t1) (.tmp t2) 128) (h1 : a.eval (.tmp t1) = .agg (rowOf 22 x.v)) (h2 : a.eval (.tmp t2) = .agg (rowOf 22 x.v)) : (execOp a.eval o).run Try.prog W = .ok (.value (.bool false)) W := by
  have hb := ne_rec x W
  have hg := guard_rec .neq t1 t2 (rowOf 22 x.v) (rowOf 22 x.v) W (Or.inr rfl)
  unfold execOp
  simp only [ho, h1, h2]
  simp only [Sem.run_bind, Sem.run_pure, Result.andThen_ok, hg, hb]
section
variable (x : QV)
theorem QV.b_id (i : Nat) (h : i < 16) : x.bytes i = x.id i := by
  unfold QV.bytes cat
  rw [if_pos (by omega), if_pos (by omega), if_pos (by omega), if_pos (by omega), if_pos (by omega), if_pos h]
theorem QV.b_pe : x.bytes 16 = x.pe := rfl
theorem QV.b_out : x.bytes 17 = flagB x.out := rfl
theorem QV.b_oc : x.bytes 18 = x.oc := rfl
theorem QV.b_bg (i : Nat) (h : i < 8) : x.bytes (19 + i) = nbF x.bg 8 i := by
  unfold QV.bytes cat
  rw [if_pos (by omega), if_pos (by omega), if_neg (by omega), Nat.add_sub_cancel_left]
theorem QV.b_an (i : Nat) (h : i < 8) : x.bytes (27 + i) = nbF x.an 8 i := by
  unfold QV.bytes cat
  rw [if_pos (by omega), if_neg (by omega), Nat.add_sub_cancel_left]
theorem QV.b_en (i : Nat) : x.bytes (35 + i) = nbF x.en 8 i := by
  unfold QV.bytes cat
  rw [if_neg (by omega), Nat.add_sub_cancel_left]
theorem QV.b_lt (hx : x.Ok) (i : Nat) : x.bytes i < 256 := by
  have h := fun n i => nbF_lt n 8 i
  have hf : flagB x.out < 256 := by cases x.out <;> decide
  unfold QV.bytes cat
  repeat' split
  all_goals first | exact hx.id _ | exact hx.pe | exact hx.oc | exact hf | exact h _ _
variable {x} {F : Nat → Nat}
theorem recF_at (hx : x.Ok) (hF : ∀ i, i < 43 → F i = x.bytes i) : recF F = ⟨F, x.pe, x.out, x.oc, x.bg, x.an, x.en⟩ := by
  have n8 : ∀ (k n : Nat), n < 18446744073709551616 → (∀ i, i < 8 → F (k + i) = nbF n 8 i) → ofB8 (fun i => F (k + i)) 8 = n := fun k n hn h => by
    rw [ofB8_congr _ (nbF n 8) 8 h]
    exact ofB8_number n 8 hn
  have ho : decide (F 17 = 1) = x.out := by
    rw [hF 17 (by decide), x.b_out]
    cases x.out <;> rfl
  unfold recF
  rw [hF 16 (by decide), x.b_pe, ho, hF 18 (by decide), x.b_oc, n8 19 x.bg hx.bg (fun i hi => by rw [hF _ (by omega), x.b_bg i hi]), n8 27 x.an hx.an (fun i hi => by rw [hF _ (by omega), x.b_an i hi]), n8 35 x.en hx.en (fun i hi => by rw [hF _ (by omega), x.b_en i])]
/-- What was put is taken as it was. -/
theorem recF_put (hx : x.Ok) (hF : ∀ i, i < 43 → F i = x.bytes i) : rowOf 22 (recF F).v = rowOf 22 x.v := by
  rw [recF_at hx hF]
  refine rowOf_congr fun i _ => ?_
  unfold QV.v
  dsimp only
  by_cases h : i < 16
  · rw [if_pos h, if_pos h, hF i (by omega), x.b_id i h]
  · rw [if_neg h, if_neg h]
theorem recOk_put (hx : x.Ok) (hF : ∀ i, i < 43 → F i = x.bytes i) : recOk 43 F = x.may := by
  unfold recOk
  rw [recF_at hx hF, decide_eq_true (show 43 = 43 ∧ F 17 ≤ 1 from ⟨rfl, by rw [hF 17 (by decide), x.b_out]; cases x.out <;> decide⟩)]
  rfl
/-- What is taken is put as those bytes. -/
theorem put_recF (hF : ∀ i, F i < 256) (h17 : F 17 ≤ 1) (i : Nat) (hi : i < 43) : (recF F).bytes i = F i := by
  have n8 : ∀ (k j : Nat), j < 8 → nbF (ofB8 (fun i => F (k + i)) 8) 8 j = F (k + j) := fun k j hj => nbF_ofB8 (fun i => F (k + i)) (fun i => hF _) 8 j hj
  by_cases h1 : i < 16
  · exact (recF F).b_id i h1
  · by_cases h2 : i < 19
    · obtain rfl | rfl | rfl : i = 16 ∨ i = 17 ∨ i = 18 := by omega
      · rfl
      · rw [(recF F).b_out]
        show flagB (decide (F 17 = 1)) = F 17
        obtain e | e : F 17 = 0 ∨ F 17 = 1 := by omega
        · rw [e]; rfl
        · rw [e]; rfl
      · rfl
    · by_cases h3 : i < 27
      · obtain ⟨j, rfl⟩ : ∃ j, i = 19 + j := ⟨i - 19, by omega⟩
        rw [(recF F).b_bg j (by omega)]; exact n8 19 j (by omega)
      · by_cases h4 : i < 35
        · obtain ⟨j, rfl⟩ : ∃ j, i = 27 + j := ⟨i - 27, by omega⟩
          rw [(recF F).b_an j (by omega)]; exact n8 27 j (by omega)
        · obtain ⟨j, rfl⟩ : ∃ j, i = 35 + j := ⟨i - 35, by omega⟩
          rw [(recF F).b_en j]; exact n8 35 j (by omega)
end
end Go.Proofs.Ytdagbighlgfhjaa
namespace Go.Proofs.Ytdagbighlgfhjaa
open Go.RowKit

/-- What a round leaves as it was: what lay below A, but for X. -/
structure KeepX (A : Nat) (X : Nat → Prop) (W W' : World) : Prop where
  size : W.heap.size ≤ W'.heap.size
  eq : ∀ b, b < A → ¬ X b → W'.heap[b]? = W.heap[b]?
theorem KeepX.refl (A : Nat) (X : Nat → Prop) (W : World) : KeepX A X W W := ⟨Nat.le_refl _, fun _ _ _ => rfl⟩
theorem KeepX.trans {A : Nat} {X : Nat → Prop} {U V W : World} (h : KeepX A X U V) (k : KeepX A X V W) : KeepX A X U W :=
  ⟨Nat.le_trans h.size k.size, fun b hb hx => (k.eq b hb hx).trans (h.eq b hb hx)⟩
theorem KeepX.putObj {A : Nat} {X : Nat → Prop} (W : World) (l : Nat) (o : Obj) (h1 : A ≤ l) : KeepX A X W (W.putObj l o) :=
  ⟨by simp [World.putObj], fun b hb _ => World.putObj_heap_other (by omega)⟩
theorem KeepX.grown {A : Nat} {X : Nat → Prop} {W W' : World} (hA : A ≤ W.heap.size) (h : W.grownBy W' none) : KeepX A X W W' := ⟨h.size, fun b hb _ => h.block b (by omega) (by simp)⟩
theorem KeepX.into {A : Nat} {X : Nat → Prop} {W W' : World} (hA : A ≤ W.heap.size) {r : Nat} (h : W.grownBy W' (some r)) (hx : X r ∨ A ≤ r) : KeepX A X W W' := ⟨h.size, fun b hb hnx => h.block b (by omega) (fun e => by
  cases e
  rcases hx with hx | hx
  · exact hnx hx
  · omega)⟩

section
variable {F : Fence} {n : Nat} {P : Program}

/-- An iterator of N rounds. -/
def SeqN (F : Fence) (n : Nat) (P : Program) (g : Nat) (lb : Array Value) (encs : Nat → Array Value) (N : Nat) (X : Nat → Prop) (w : World) : Prop :=
  ∀ (l : Nat) (J Jx : Nat → World → Prop) (W : World), Below w.heap.size w W →
    (∀ k U U', J k U → U.grownBy U' none → J k U') →
    (∀ k U, k < N → J k U → YieldAt F (n - 1) P l (encs k) U fun e U' =>
      (e = .returned (.bool true) ∧ J (k + 1) U' ∧ KeepX w.heap.size X U U') ∨ (e = .returned (.bool false) ∧ Jx (k + 1) U')) →
    J 0 W →
    CallsIn F n P g (#[.func (.yield l) #[] #[]] ++ lb) W fun e U => (∃ v, e = .returned v) ∧ (J N U ∨ ∃ k, k ≤ N ∧ Jx k U)

/-- How a round's body may be left. -/
def postN (A : Nat) (X : Nat → Prop) (I : Nat → World → Prop) (Ix : Code → Nat → World → Prop) (k : Nat) (W : World) : Exit → Act → World → Prop
  | .normal, _, W' => KeepsOthers W W' ∧ KeepX A X W W' ∧ I k W'
  | .ret, _, W' => KeepsOthers W W' ∧ Ix .ret k W'
  | .exit id, _, W' => KeepsOthers W W' ∧ Ix (.exit id) k W'
  | .goto t, _, W' => KeepsOthers W W' ∧ Ix (.goto t) k W'
  | .panic _, _, _ => False
  | .outgrown, _, _ => False

/-- 'for .. := range it { .. }'. -/
theorem wpIn_rangeN {g : Operand} {ps : Array Tmp} {assign body : Code} {Q : Exit → Act → World → Prop} {a : Act} {w : World}
    (hro : F.round = none) (h1 : 1 ≤ n) {gf : Nat} {lb : Array Value} (hg : a.eval g = .func (.func gf) #[] lb) (hFg : F.fn gf) (eg : ∀ args w, (callFunc gf args).run P w = .ok (.enter gf args) w)
    {encs : Nat → Array Value} {N : Nat} {X : Nat → Prop} (hseq : SeqN F (n - 1) P gf lb encs N X w) (hps : ∀ k, (encs k).size = ps.size)
    (I : Nat → World → Prop) (Ix : Code → Nat → World → Prop) (hI : OwnFrom w.heap.size I) (hIx : ∀ c, OwnFrom w.heap.size (Ix c)) (h0 : I 0 w)
    (Ax : Nat → Act → World → Prop) (hAx : ∀ k a', OwnFrom w.heap.size (fun (_ : Unit) W => Ax k a' W))
    (hassign : ∀ (l k : Nat) (W : World) (K : Act → World → Prop), k < N → I k W → w.heap.size + 2 ≤ W.heap.size → (∀ a' W', KeepsOthers W W' → KeepX w.heap.size X W W' → Ax k a' W' → K a' W') →
      assign.wpIn (F.inRound l) (n - 1 - 1) P (Exit.then K (fun _ _ _ => False)) { tmps := (ps.zip (encs k)).foldl (fun t (p, v) => t.setIfInBounds p v) a.tmps, defers := [] } W)
    (hbody : ∀ (l k : Nat) (a' : Act) (W : World), k < N → w.heap.size + 2 ≤ W.heap.size → Ax k a' W → body.wpIn (F.inRound l) (n - 1 - 1) P (postN w.heap.size X I Ix (k + 1) W) a' W)
    (hdone : ∀ (D : Nat) (W : World), w.heap.size ≤ D → I N W → W.heap[D]? = some (.deferred (some [])) → Q .normal { a with defers := { target := .collected D, args := #[] } :: a.defers } W)
    (hstop : ∀ (D : Nat) (c : Code) (k : Nat) (W : World), w.heap.size ≤ D → k ≤ N → Ix c k W → W.heap[D]? = some (.deferred (some [])) → c.wpIn F n P Q { a with defers := { target := .collected D, args := #[] } :: a.defers } W) :
    (Code.rangeFunc g ps assign body).wpIn F n P Q a w := by
  refine wpIn_rangeFunc fun fn hfn => ?_
  rw [hro]
  let rec_ : LoopState → Option Code → Loop := fun st pe => { state := st, pending := pe, fn, tmps := a.tmps, params := ps, assign, body, defers := w.heap.size }
  obtain ⟨rec, hrec⟩ : ∃ rec, rec = rec_ := ⟨_, rfl⟩
  obtain ⟨W1, hW1⟩ : ∃ W1, (w.alloc (.deferred (some []))).alloc (.loop (rec .ready none)) = W1 := ⟨_, rfl⟩
  have hZ1 : W1.heap.size = w.heap.size + 2 := by rw [← hW1]; simp
  have hL1 : W1.heap[w.heap.size + 1]? = some (.loop (rec .ready none)) := by
    rw [← hW1]
    have := World.alloc_heap_new (w.alloc (.deferred (some []))) (.loop (rec .ready none))
    rwa [World.size_alloc] at this
  have hD1 : W1.heap[w.heap.size]? = some (.deferred (some [])) := by
    rw [← hW1]
    exact (Below.heap_alloc _ _ _ (by simp)).trans (World.alloc_heap_new w _)
  have hgr : ∀ {k : Nat} {U U' : World}, I k U → U.grownBy U' none → I k U' := fun h g => hI _ _ _ none h g (fun r e => by cases e)
  have hI1 : I 0 W1 := by rw [← hW1]; exact hgr (hgr h0 (World.grownBy_alloc w _ none)) (World.grownBy_alloc _ _ none)
  have hb1 : Below w.heap.size w W1 := by rw [← hW1]; exact ((Below.refl _ w).alloc (Nat.le_refl _) _).alloc (by simp) _
  refine ⟨w.heap.size + 1, [{ target := .collected w.heap.size, args := #[] }], W1, { target := .fn (.func gf) lb, args := #[.func (.yield (w.heap.size + 1)) #[] #[]] }, W1, gf,
    #[.func (.yield (w.heap.size + 1)) #[] #[]] ++ lb, W1, by rw [← hW1, hrec]; exact run_enterLoop_outer _ _ _ _ _, by simp only [resolve, hg]; simp [go_sem], ?_, by simp [invoke, go_sem, eg], fun _ => h1, ?_⟩
  · intro f' hf'
    simp [Target.leads] at hf'
    subst hf'
    exact hFg
  refine (hseq (w.heap.size + 1)
    (fun k U => I k U ∧ U.heap[w.heap.size + 1]? = some (.loop (rec .ready none)) ∧ U.heap[w.heap.size]? = some (.deferred (some [])))
    (fun k U => ∃ c, Ix c k U ∧ U.heap[w.heap.size + 1]? = some (.loop (rec .done (some c))) ∧ U.heap[w.heap.size]? = some (.deferred (some [])))
    W1 hb1 (fun k U U' h hg' => by
      have hlt : w.heap.size + 1 < U.heap.size := (Array.getElem?_eq_some_iff.1 h.2.1).1
      exact ⟨hgr h.1 hg', (hg'.block _ hlt (by simp)).trans h.2.1, (hg'.block _ (by omega) (by simp)).trans h.2.2⟩) ?_ ⟨hI1, hL1, hD1⟩).mono ?_
  · -- a round
    rintro k U hkN ⟨hi, hl, hd⟩
    have hy := run_yield (P := P) (args := encs k) hl (by rw [hrec]; exact hps k)
    rw [hrec] at hy
    have hlU := (Array.getElem?_eq_some_iff.1 hl).1
    refine ⟨fn, _, assign, body, hy, roundIn_of_wpIn hfn (hassign _ k U _ hkN hi (by omega) ?_)⟩
    intro a' V hko hks hax
    have hlV := hko.same _ _ hl rfl
    have hdV := hko.same _ _ hd rfl
    refine ⟨_, run_beginRound hlV (by rw [hrec]), ?_⟩
    have hlt : w.heap.size + 1 < V.heap.size := (Array.getElem?_eq_some_iff.1 hlV).1
    have hl2 : (V.putObj (w.heap.size + 1) (.loop { rec .ready none with state := .busy })).heap[w.heap.size + 1]? = some (.loop { rec .ready none with state := .busy }) := World.putObj_heap_same hlt
    have hd2 : (V.putObj (w.heap.size + 1) (.loop { rec .ready none with state := .busy })).heap[w.heap.size]? = some (.deferred (some [])) := (World.putObj_heap_other (by omega)).trans hdV
    have hks2 : KeepX w.heap.size X U (V.putObj (w.heap.size + 1) (.loop { rec .ready none with state := .busy })) := hks.trans (KeepX.putObj V _ _ (by omega))
    have hV2 : w.heap.size + 2 ≤ (V.putObj (w.heap.size + 1) (.loop { rec .ready none with state := .busy })).heap.size := by simp [World.putObj]; omega
    refine wpIn_mono (hbody _ k a' _ hkN hV2 ((hAx k a').putObj (s := ()) _ hax (by omega) hlV rfl)) ?_
    generalize V.putObj (w.heap.size + 1) (.loop { rec .ready none with state := .busy }) = V2 at *
    have fin : ∀ (jump : Option Code) (V3 : World), KeepsOthers V2 V3 →
        (Instr.endRound (w.heap.size + 1) jump).run P V3 = .ok (.bool jump.isNone) (V3.putObj (w.heap.size + 1) (.loop (rec (if jump.isNone then .ready else .done) jump))) ∧
        V3.heap[w.heap.size + 1]? = some (.loop { rec .ready none with state := .busy }) ∧
        (V3.putObj (w.heap.size + 1) (.loop (rec (if jump.isNone then .ready else .done) jump))).heap[w.heap.size + 1]? = some (.loop (rec (if jump.isNone then .ready else .done) jump)) ∧
        (V3.putObj (w.heap.size + 1) (.loop (rec (if jump.isNone then .ready else .done) jump))).heap[w.heap.size]? = some (.deferred (some [])) := fun jump V3 hk3 => by
      have hl3 := hk3.same _ _ hl2 rfl
      have hr := run_endRound (P := P) jump hl3
      rw [hrec] at hr hl3 ⊢
      exact ⟨hr, hl3, World.putObj_heap_same (Array.getElem?_eq_some_iff.1 hl3).1, (World.putObj_heap_other (by omega)).trans (hk3.same _ _ hd2 rfl)⟩
    have out : ∀ c V3, KeepsOthers V2 V3 → Ix c (k + 1) V3 → ∃ v U', (Instr.endRound (w.heap.size + 1) (some c)).run P V3 = .ok v U' ∧ ((Ending.returned v = .returned (.bool true) ∧ (I (k + 1) U' ∧ U'.heap[w.heap.size + 1]? = some (.loop (rec .ready none)) ∧ U'.heap[w.heap.size]? = some (.deferred (some []))) ∧ KeepX w.heap.size X U U') ∨
        (Ending.returned v = .returned (.bool false) ∧ ∃ c, Ix c (k + 1) U' ∧ U'.heap[w.heap.size + 1]? = some (.loop (rec .done (some c))) ∧ U'.heap[w.heap.size]? = some (.deferred (some [])))) := fun c V3 hk3 hi3 => by
      obtain ⟨hr, hl3, hl4, hd4⟩ := fin (some c) V3 hk3
      exact ⟨_, _, hr, .inr ⟨rfl, c, (hIx c).putObj _ hi3 (by omega) hl3 rfl, hl4, hd4⟩⟩
    rintro e a3 V3 hp
    cases e with
    | normal =>
      obtain ⟨hk3, hs3, hi3⟩ := hp
      obtain ⟨hr, hl3, hl4, hd4⟩ := fin none V3 hk3
      exact ⟨_, _, hr, .inl ⟨rfl, ⟨hI.putObj _ hi3 (by omega) hl3 rfl, hl4, hd4⟩, (hks2.trans hs3).trans (KeepX.putObj V3 _ _ (by omega))⟩⟩
    | ret => exact out _ _ hp.1 hp.2
    | exit id => exact out _ _ hp.1 hp.2
    | goto t => exact out _ _ hp.1 hp.2
    | panic ch => exact hp.elim
    | outgrown => exact hp.elim
  · -- behind it
    rintro e U ⟨⟨v, rfl⟩, (⟨hi, hl, hd⟩ | ⟨k, hk, c, hi, hl, hd⟩)⟩
    · exact ⟨none, _, by have := run_endLoop (P := P) hl (by rw [hrec]; simp [rec_]); rw [hrec] at this; exact this, hdone _ _ (Nat.le_refl _) (hI.putObj _ hi (by omega) hl rfl) ((World.putObj_heap_other (by omega)).trans hd)⟩
    · exact ⟨some c, _, by have := run_endLoop (P := P) hl (by rw [hrec]; simp [rec_]); rw [hrec] at this; exact this, hstop _ c k _ (Nat.le_refl _) hk ((hIx c).putObj _ hi (by omega) hl rfl) ((World.putObj_heap_other (by omega)).trans hd)⟩
end
end Go.Proofs.Ytdagbighlgfhjaa
namespace Go.Proofs.Ytdagbighlgfhjaa
open Go.RowKit

section
variable {P : Program} {ops : Array Oper} {Q : Exit → Act → World → Prop} {n l : Nat}

theorem wide_room : (Fence.wide.inRound l).depth.isSome = true → 1 ≤ n := fun h => by simp [Fence.wide] at h

theorem oper_round {o : Oper} {a : Act} {w : World} {K : Act → World → Prop} (hnd : ∀ c, o.op ≠ .defer c) (h : o.wp P a w K Q) : o.wpIn (Fence.wide.inRound l) n P a w K Q := by
  unfold Oper.wp at h
  unfold Oper.wpIn
  refine ⟨fun _ _ => trivial, ?_⟩
  rw [Oper.semAt_eq _ _ _ hnd]
  generalize (execOp a.eval o).run P w = r at *
  cases r with
  | ok x w' =>
    cases x with
    | value v => exact h
    | skip => exact h
    | defer d => exact h
    | enter f args => exact ⟨wide_room, CallsIn.inRound l (callsIn_wide.2 h)⟩
    | row r args => exact ⟨wide_room, fun c cs _ => let ⟨v, w', r, s⟩ := h c cs; ⟨v, w', r, stepsIn_wide.2 s⟩⟩
    | _ => exact h.elim
  | halt x w' =>
    cases x with
    | panic v => exact h
    | _ => exact h.elim

theorem op_round {i : Nat} {a : Act} {w : World} {K : Act → World → Prop} (hlo : ¬ LetsOut Q) (hnd : ∀ o ∈ ops, ∀ c, o.op ≠ .defer c) (h : wpOp P ops Q i K a w) : wpOpIn (Fence.wide.inRound l) n P ops Q i K a w := by
  unfold wpOp at h
  unfold wpOpIn
  split
  · rename_i ho; simp only [ho] at h; exact h
  · rename_i o ho
    simp only [ho] at h
    split
    · rename_i hw
      simp only [hw, if_true] at h
      rcases h with h | h
      · exact oper_round (hnd o (Array.mem_of_getElem? ho)) h
      · exact absurd h.2 hlo
    · rename_i hw
      simp only [hw] at h
      exact ⟨fun _ _ => trivial, h⟩

theorem any_round {md : Region.Mode} (hlo : ¬ LetsOut Q) (hnd : ∀ o ∈ ops, ∀ c, o.op ≠ .defer c) : ∀ (fuel : Nat) (listed : Array Bool) (a : Act) (w : World), wpAny P md ops Q fuel listed a w → wpAnyIn (Fence.wide.inRound l) n P md ops Q fuel listed a w
  | 0, _, _, _, h => h
  | fuel + 1, _, _, _, h => ⟨h.1, fun i hi => wpOpIn_mono (fun a w hh => any_round hlo hnd fuel _ a w hh) (op_round hlo hnd (h.2 i hi))⟩

/-- No operation of the list puts a call off. -/
def noDefer (ops : List Oper) : Bool := ops.all fun o => match o.op with | .defer _ => false | _ => true
theorem noDefer_spec {ops : List Oper} (h : noDefer ops = true) : ∀ o ∈ ops.toArray, ∀ c, o.op ≠ .defer c := fun o ho c e => by
  have := List.all_eq_true.1 h o (by simpa using ho)
  rw [e] at this
  cases this

/-- Reads and quiet calls, and then what is in a forced order: one walk serves every order, in a round too. -/
theorem wpIn_region_still_tail {id : Nat} {a : Act} {w : World} {ol : List Oper} (m : Nat) (hm : P.follows .mixedOrders = true) (hB : Region.lexTailB .any ol.toArray m = true) (hD : noDefer ol = true) (hlo : ¬ LetsOut Q)
    (h : wpStill P ol.toArray { w with drawn := w.drawn + 1 } (fun a' => wpList P ol.toArray Q (ol.drop m) a' { w with drawn := w.drawn + 1 }) (ol.take m) a) : (Code.region id ol.toArray true).wpIn (Fence.wide.inRound l) n P Q a w := by
  simp only [Region.lexTailB, Bool.and_eq_true, decide_eq_true_eq] at hB
  obtain ⟨⟨⟨⟨hsel, hn⟩, hs⟩, hc⟩, hlex⟩ := hB
  have hn' : m < ol.length := by simpa using hn
  have htl : (ol.take m).length = m := by simp; omega
  have hdl : (ol.drop m).length = ol.toArray.size - m := by simp
  have inv0 : HeadInv .any ol.toArray m (Array.replicate ol.toArray.size false) :=
    ⟨by simp, fun j oj _ hl => (by rw [getD_replicate_false] at hl; cases hl), fun t _ ht => getD_in (by simpa using ht) (getD_replicate_false _ _)⟩
  have H := wpAnyL_lex (md := .any) (g := ol.toArray.size - m) hsel hs hc hn (ol.take m) 0 _ a (fun j hj => by
    have hj' : j < m := by rw [htl] at hj; exact hj
    simp [hj']) (by simpa using htl) inv0 (by rw [htl]; exact hlex) h
  refine wpIn_region_any hm (any_round hlo (noDefer_spec hD) _ _ _ _ ?_)
  have := wpAny_of_head (Q' := Q) (g := ol.toArray.size - m) (fun listed a' hL => by
    have := wpAny_of_seq (md := .any) (Q' := Q) (ol.drop m) m listed a' { w with drawn := w.drawn + 1 } (fun j => by simp [List.getElem?_drop]) (by rw [hdl]; exact hL.1) hL.2
    rwa [hdl] at this) _ _ _ H
  rw [htl, show m + (ol.toArray.size - m) = ol.toArray.size by omega] at this
  exact this
end
end Go.Proofs.Ytdagbighlgfhjaa
namespace Go.Proofs.Ytdagbighlgfhjaa
open Go.RowKit

section
variable {P : Program} {ops : Array Oper} {Q : Exit → Act → World → Prop} {n l : Nat}

theorem oper_wide {o : Oper} {a : Act} {w : World} {K : Act → World → Prop} (hnd : ∀ c, o.op ≠ .defer c) (h : o.wp P a w K Q) : o.wpIn Fence.wide n P a w K Q := by
  unfold Oper.wp at h
  unfold Oper.wpIn
  refine ⟨fun _ _ => trivial, ?_⟩
  rw [Oper.semAt_plain _ _ _ hnd]
  generalize (execOp a.eval o).run P w = r at *
  cases r with
  | ok x w' =>
    cases x with
    | value v => exact h
    | skip => exact h
    | defer d => exact h
    | enter f args => exact ⟨fun h => by simp [Fence.wide] at h, callsIn_wide.2 h⟩
    | row r args => exact ⟨fun h => by simp [Fence.wide] at h, fun c cs _ => let ⟨v, w', r, s⟩ := h c cs; ⟨v, w', r, stepsIn_wide.2 s⟩⟩
    | _ => exact h.elim
  | halt x w' =>
    cases x with
    | panic v => exact h
    | _ => exact h.elim

theorem wideIn_load_row {rest : List Oper} {o : Oper} {a : Act} {w : World} (hgd : o.guard = none) (ty : TypeId) (x : Operand) (ho : o.op = .load ty x)
    (g : Nat) (hx : a.eval x = .pointer (some ⟨g, 0, none⟩)) (t : TypeId) (cs : Array Value) (fr : Nat × Nat) (d : TypeDesc) (hg : w.heap[g]? = some (.cells cs t fr))
    (hu : P.underlying ty = some d) (hd : (match d with | .struct _ | .array _ _ => true | _ => false) = true) (hi : (P.info? ty).map (·.size) = some cs.size)
    (h : wpListIn Fence.wide n P ops Q rest (a.put o.dst (.agg cs)) w) : wpListIn Fence.wide n P ops Q (o :: rest) a w :=
  wpListIn_plain hgd fun _ hK => oper_wide (fun c e => by rw [ho] at e; cases e) (wp_load_row ty x ho g hx t cs fr d hg hu hd hi (hK _ _ h))
theorem roundIn_load_row {rest : List Oper} {o : Oper} {a : Act} {w : World} (hgd : o.guard = none) (ty : TypeId) (x : Operand) (ho : o.op = .load ty x)
    (g : Nat) (hx : a.eval x = .pointer (some ⟨g, 0, none⟩)) (t : TypeId) (cs : Array Value) (fr : Nat × Nat) (d : TypeDesc) (hg : w.heap[g]? = some (.cells cs t fr))
    (hu : P.underlying ty = some d) (hd : (match d with | .struct _ | .array _ _ => true | _ => false) = true) (hi : (P.info? ty).map (·.size) = some cs.size)
    (h : wpListIn (Fence.wide.inRound l) n P ops Q rest (a.put o.dst (.agg cs)) w) : wpListIn (Fence.wide.inRound l) n P ops Q (o :: rest) a w :=
  wpListIn_plain hgd fun _ hK => oper_round (fun c e => by rw [ho] at e; cases e) (wp_load_row ty x ho g hx t cs fr d hg hu hd hi (hK _ _ h))
theorem wideIn_store_row {rest : List Oper} {o : Oper} {a : Act} {w : World} (hgd : o.guard = none) (ty : TypeId) (x y : Operand) (ho : o.op = .store ty x y)
    (g : Nat) (cells : Array Value) (hx : a.eval x = .pointer (some ⟨g, 0, none⟩)) (hy : a.eval y = .agg cells)
    (t : TypeId) (old : Array Value) (hg : w.heap[g]? = some (.cells old t (0, 0))) (hi : (P.info? ty).map (·.size) = some cells.size)
    (hold : old.size = cells.size) (h1 : cells.all (·.oneCell') = true)
    (h : wpListIn Fence.wide n P ops Q rest (a.put o.dst undef) (w.setRow g cells)) : wpListIn Fence.wide n P ops Q (o :: rest) a w :=
  wpListIn_plain hgd fun _ hK => oper_wide (fun c e => by rw [ho] at e; cases e) (wp_store_row ty x y ho g cells hx hy t old hg hi hold h1 (hK _ _ h))
theorem roundIn_store_row {rest : List Oper} {o : Oper} {a : Act} {w : World} (hgd : o.guard = none) (ty : TypeId) (x y : Operand) (ho : o.op = .store ty x y)
    (g : Nat) (cells : Array Value) (hx : a.eval x = .pointer (some ⟨g, 0, none⟩)) (hy : a.eval y = .agg cells)
    (t : TypeId) (old : Array Value) (hg : w.heap[g]? = some (.cells old t (0, 0))) (hi : (P.info? ty).map (·.size) = some cells.size)
    (hold : old.size = cells.size) (h1 : cells.all (·.oneCell') = true)
    (h : wpListIn (Fence.wide.inRound l) n P ops Q rest (a.put o.dst undef) (w.setRow g cells)) : wpListIn (Fence.wide.inRound l) n P ops Q (o :: rest) a w :=
  wpListIn_plain hgd fun _ hK => oper_round (fun c e => by rw [ho] at e; cases e) (wp_store_row ty x y ho g cells hx hy t old hg hi hold h1 (hK _ _ h))
end
end Go.Proofs.Ytdagbighlgfhjaa
namespace Go.Proofs.Ytdagbighlgfhjaa
open Go.RowKit

section
variable {P : Program} {ops : Array Oper} {Q : Exit → Act → World → Prop} {n l : Nat} {rest : List Oper} {o : Oper} {a : Act} {w w' : World}
theorem wideIn_here (h : wpListIn Fence.wide n P ops Q (o :: rest) a w) : wpListIn Fence.wide n P ops Q (o :: rest) a w := h
theorem roundIn_here (h : wpListIn (Fence.wide.inRound l) n P ops Q (o :: rest) a w) : wpListIn (Fence.wide.inRound l) n P ops Q (o :: rest) a w := h
theorem wideIn_ld {T : TypeId} {p v : Value} (t : Tmp) (ho : o.op = .load T (.tmp t)) (hw : Region.wanted o (yielded ops a.tmps) = true) (ha : a.eval (.tmp t) = p) (h : (Instr.loadAt T p).run P w = .ok v w) (hk : wpListIn Fence.wide n P ops Q rest (a.put o.dst v) w) : wpListIn Fence.wide n P ops Q (o :: rest) a w := by
  unfold wpListIn
  rw [if_pos hw]
  refine oper_wide (fun c e => by rw [ho] at e; cases e) (wp_yields ?_ hk)
  unfold execOp
  simp only [ho, ha, Sem.run_bind, Sem.run_pure, Result.andThen_ok, h]
theorem roundIn_ld {T : TypeId} {p v : Value} (t : Tmp) (ho : o.op = .load T (.tmp t)) (hw : Region.wanted o (yielded ops a.tmps) = true) (ha : a.eval (.tmp t) = p) (h : (Instr.loadAt T p).run P w = .ok v w) (hk : wpListIn (Fence.wide.inRound l) n P ops Q rest (a.put o.dst v) w) : wpListIn (Fence.wide.inRound l) n P ops Q (o :: rest) a w := by
  unfold wpListIn
  rw [if_pos hw]
  refine oper_round (fun c e => by rw [ho] at e; cases e) (wp_yields ?_ hk)
  unfold execOp
  simp only [ho, ha, Sem.run_bind, Sem.run_pure, Result.andThen_ok, h]
theorem roundIn_st {T : TypeId} {p v : Value} (x y : Operand) (ho : o.op = .store T x y) (hd : o.dst = none) (hw : Region.wanted o (yielded ops a.tmps) = true) (hx : a.eval x = p) (hy : a.eval y = v) (h : (Instr.storeAt T p v).run P w = .ok () w') (hk : wpListIn (Fence.wide.inRound l) n P ops Q rest a w') : wpListIn (Fence.wide.inRound l) n P ops Q (o :: rest) a w := by
  unfold wpListIn
  rw [if_pos hw]
  refine oper_round (fun c e => by rw [ho] at e; cases e) ?_
  have he : (execOp a.eval o).run P w = .ok .skip w' := by
    unfold execOp
    simp only [ho, hx, hy, Sem.run_bind, h, Result.andThen_ok, Sem.run_pure]
  unfold Oper.wp
  rw [he, Oper.upon_skip, hd]
  exact hk
theorem roundIn_want {v : Value} (hnd : ∀ c, o.op ≠ .defer c) (hw : Region.wanted o (yielded ops a.tmps) = true) (hr : (execOp a.eval o).run P w = .ok (.value v) w') (hk : wpListIn (Fence.wide.inRound l) n P ops Q rest (a.put o.dst v) w') : wpListIn (Fence.wide.inRound l) n P ops Q (o :: rest) a w := by
  unfold wpListIn
  rw [if_pos hw]
  exact oper_round hnd (wp_yields hr hk)
end
end Go.Proofs.Ytdagbighlgfhjaa
namespace Go.Proofs.Ytdagbighlgfhjaa
open Go.RowKit

set_option maxRecDepth 100000
set_option maxHeartbeats 4000000

def shF (F : Nat → Nat) (o : Nat) (i : Nat) : Nat := F (o + i)
/-- The j-th record of L bytes stands there, and may be. -/
def recAt (L : Nat) (F : Nat → Nat) (j : Nat) : Prop := 43 * j + 43 ≤ L ∧ recOk 43 (shF F (43 * j)) = true
/-- So many records stand there, and then none. -/
structure IsN (L : Nat) (F : Nat → Nat) (N : Nat) : Prop where
  all : ∀ j, j < N → recAt L F j
  stop : ¬ recAt L F N
theorem exN (L : Nat) (F : Nat → Nat) : ∃ N, IsN L F N := by
  have key : ∀ m k, (∀ j, j < k → recAt L F j) → L < 43 * (k + m) + 43 → ∃ N, IsN L F N := by
    intro m
    induction m with
    | zero => exact fun k h1 h2 => ⟨k, h1, fun h => by have := h.1; omega⟩
    | succ m ih =>
      intro k h1 h2
      by_cases h : recAt L F k
      · exact ih (k + 1) (fun j hj => by
          by_cases e : j = k
          · rw [e]; exact h
          · exact h1 j (by omega)) (by omega)
      · exact ⟨k, h1, h⟩
  exact key L 0 (fun j h => by omega) (by omega)
theorem IsN.one {L : Nat} {F : Nat → Nat} {N M : Nat} (h : IsN L F N) (k : IsN L F M) : N = M := by
  by_cases h1 : N < M
  · exact absurd (k.all N h1) h.stop
  · by_cases h2 : M < N
    · exact absurd (h.all M h2) k.stop
    · omega
theorem IsN.le {L : Nat} {F : Nat → Nat} {N : Nat} (h : IsN L F N) : 43 * N ≤ L := by
  by_cases e : N = 0
  · omega
  · have := (h.all (N - 1) (by omega)).1; omega
def recs (F : Nat → Nat) (k : Nat) : QV := recF (shF F (43 * k))
structure AllSays (w : World) (L : Nat) (F : Nat → Nat) (e : Ending) (w' : World) : Prop where
  ex : ∃ B a c, e = .returned (.func (.func 131) #[] #[.pointer (some ⟨B, 0, none⟩)]) ∧ w.heap.size ≤ B ∧ w'.cell? ⟨B, 0, none⟩ = some (.slice a L c) ∧ L ≤ c ∧ OwnN w' w.heap.size (.slice a L c) L F
  gr : w.grownBy w' none
theorem recAll_any (D L c : Nat) (a : Option Addr) (F : Nat → Nat) (w : World) (hRd : Rd w D a L F) (hL : L ≤ 2 ^ 46) : Calls Try.prog 57 #[.slice a L c] w (AllSays w L F) := by
  have ga := World.grownBy_alloc w (.cells #[.slice a L c] 39) none
  have hz := World.size_alloc w (.cells #[.slice a L c] 39)
  have hb := heap_alloc_new w (.cells #[.slice a L c] 39)
  have c0 : (w.alloc (.cells #[.slice a L c] 39)).cell? ⟨w.heap.size, 0, none⟩ = some (.slice a L c) := cell_of_row _ _ _ _ _ _ hb
  have HC := Lib.hid (clone_any D L c a F _ (hRd.grown ga (by simp)) hL)
  go_enter Try.func57, Try.ntmps57
  go_upto_region 1 with fail
  obtain ⟨B, hB⟩ : ∃ B, B = w.heap.size := ⟨_, rfl⟩
  rw [← hB] at hz hb c0 ⊢
  generalize w.alloc (.cells #[.slice a L c] 39) = w1 at *
  have HB := Lib.hid (And.intro hB hz)
  have HG := Lib.hid ga
  have HBK := Lib.hid hb
  clear hB hz hRd hL ga hb
  go_wp2_with fail
  go_at_call 130
  refine HC.out.mono ?_
  rintro e w2 ⟨v, rfl, hO, g1⟩
  obtain ⟨a', c', rfl, hc', hR⟩ := hO.rd
  have c1 : w2.cell? ⟨B, 0, none⟩ = some (.slice a L c) := g1.cell c0 (by simp)
  have hb2 : w2.heap[B]? = some (.cells #[.slice a L c] 39 (0, 0)) := (g1.block B (World.block_lt_of_cell? w1 _ c0) (by simp)).trans HBK.out
  have f1 : w2.frozen? ⟨B, 0, none⟩ = false := frozen_of_row _ _ _ _ _ hb2
  have gs := grown_setCell_new (grown_refl w2 (some B)) ⟨B, 0, none⟩ (.slice a' L c') (Or.inr rfl)
  have HF : Hid (AllSays w L F (.returned (.func (.func 131) #[] #[.pointer (some ⟨B, 0, none⟩)])) (w2.setCell ⟨B, 0, none⟩ (.slice a' L c'))) := Lib.hid ⟨⟨B, a', c', rfl, by have := HB.out; omega, World.cell?_setCell_same w2 _ _ c1, hc', by
    rcases hO.ex with ⟨e, h0⟩ | ⟨q, cap, e, hOr, hq⟩
    · exact ⟨Or.inl ⟨e, h0⟩⟩
    · exact ⟨Or.inr ⟨q, cap, e, hOr.grown gs (by have := HB.out.2; intro e; cases e; omega), by have := HB.out; omega⟩⟩⟩, grown_setCell_new (grown_trans HG.out g1) _ _ (Or.inl (by show w.heap.size ≤ B; have := HB.out; omega))⟩
  clear gs hb2 hO g1 hc' hR c0 HC
  go_wp2_with fail
  go_ret
  exact HF.out
theorem Rd.keepX {w w' : World} {A L : Nat} {a : Option Addr} {F : Nat → Nat} {X : Nat → Prop} (h : Rd w A a L F) (k : KeepX A X w w') (hX : ∀ tb o, a = some ⟨tb, o, none⟩ → ¬ X tb) : Rd w' A a L F where
  ex := fun hL => by
    obtain ⟨tb, o, h1, h2, h3⟩ := h.ex hL
    exact ⟨tb, o, h1, h2, fun i hi => (World.cell?_of_block (a := ⟨tb, o + i, none⟩) (k.eq tb h2 (hX tb o h1))).trans (h3 i hi)⟩
theorem all_run (n l N L c B A : Nat) (a : Option Addr) (F : Nat → Nat) (X : Nat → Prop) (hF : ∀ i, F i < 256) (hN : IsN L F N) (hL : L ≤ 2 ^ 46) (hLc : L ≤ c) (hn : 1 ≤ n) (hB : B < A) (hXB : ¬ X B) (hXa : ∀ tb o, a = some ⟨tb, o, none⟩ → ¬ X tb)
    (J Jx : Nat → World → Prop) (W0 : World) (hA : A ≤ W0.heap.size) (hJ : ∀ k U U', J k U → U.grownBy U' none → J k U')
    (hY : ∀ k U, k < N → J k U → YieldAt Fence.wide (n - 1) Try.prog l #[.int .i64 (43 * k : Nat), .agg (rowOf 22 (recs F k).v)] U fun e U' =>
      (e = .returned (.bool true) ∧ J (k + 1) U' ∧ KeepX A X U U') ∨ (e = .returned (.bool false) ∧ Jx (k + 1) U'))
    (hC : W0.cell? ⟨B, 0, none⟩ = some (.slice a L c)) (hR : Rd W0 A a L F) (h0 : J 0 W0) :
    CallsIn Fence.wide n Try.prog 131 #[.func (.yield l) #[] #[], .pointer (some ⟨B, 0, none⟩)] W0 fun e U => (∃ v, e = .returned v) ∧ (J N U ∨ ∃ k, k ≤ N ∧ Jx k U) := by
  have HJ := Lib.hid hJ
  have HY := Lib.hid hY
  have HN := Lib.hid hN
  have HL := Lib.hid (And.intro hL hLc)
  have HX := Lib.hid (And.intro hB (And.intro hXB hXa))
  have HF := Lib.hid hF
  clear hJ hY hN hL hLc hB hXB hXa hF
  refine callsIn_of_wp Try.func131 rfl trivial ?_ rfl
  simp only [Try.ntmps131, List.size_toArray, List.length_cons, List.length_nil, Nat.reduceAdd, Nat.reduceSub, Array.replicate_succ, Array.replicate_zero, List.push_toArray, List.append_toArray, List.nil_append, List.cons_append]
  gi_wp2
  gi_loopw [3] (fun u3 wr => ∃ k, k ≤ N ∧ u3 = .int .i64 (43 * k : Nat) ∧ J k wr ∧ wr.cell? ⟨B, 0, none⟩ = some (.slice a L c) ∧ Rd wr A a L F ∧ A ≤ wr.heap.size) (fun u3 _ => L + 43 - (intOf u3).toNat)
  case atStart => exact ⟨0, Nat.zero_le _, rfl, h0, hC, hR, hA⟩
  case round =>
    clear h0 hC hR hA
    obtain ⟨k, hk, rfl, hJk, hC, hR, hA⟩ := hrel
    obtain ⟨p, hp⟩ : ∃ p, p = 43 * k := ⟨_, rfl⟩
    rw [← hp]
    have HP := Lib.hid hp
    have hLp : p ≤ L := by have := HN.out.le; omega
    obtain ⟨m, hm⟩ : ∃ m, m = L - p := ⟨_, rfl⟩
    have j0 : (L : Int) - (p : Int) = (m : Int) := by omega
    have j1 : (m : Int) < 70368744177665 := by have := HL.out.1; omega
    have HK := Lib.hid hk
    have HJK := Lib.hid hJk
    clear hk hJk hp
    refine wpIn_wide.2 ?_
    by_cases h43 : 43 ≤ m
    · have j2 : (43 : Int) ≤ (m : Int) := by omega
      obtain ⟨q, hq⟩ : ∃ q, q = p + 43 := ⟨_, rfl⟩
      have j3 : (p : Int) + 43 = (q : Int) := by omega
      have j4 : (q : Int) < 70368744177665 := by have := HL.out.1; omega
      obtain ⟨a', -, s1, r1⟩ := run_subQ c p q hR (by omega) (by omega) HL.out.2
      rw [show q - p = 43 by omega] at s1 r1
      have hT := recTake_f A 43 (c - p) a' (shF F p) wr (r1 wr hR) (by decide) (fun i => HF.out _)
      obtain ⟨ok, hok⟩ : ∃ ok, ok = recOk 43 (shF F p) := ⟨_, rfl⟩
      obtain ⟨x, hx⟩ : ∃ x, x = recF (shF F p) := ⟨_, rfl⟩
      rw [← hok, ← hx] at hT
      have S1 := s1 wr
      have HT := Lib.hid hT
      have HR := Lib.hid hR
      have HQ := Lib.hid (show m = L - p ∧ 43 ≤ m ∧ q = p + 43 ∧ p ≤ L from ⟨hm, h43, hq, hLp⟩)
      have HOKE := Lib.hid hok
      have HXE := Lib.hid hx
      have HAA := Lib.hid hA
      clear hR hT s1 r1 hm h43 hq hLp hok hx hA
      go_wp2_with fail
      go_at_call 50
      refine HT.out.mono ?_
      rintro e w1 ⟨rfl, g1⟩
      clear S1 HT
      have hN := RowAt.new w1 128 22 QV.zero.v _ QV.zero_row
      obtain ⟨y, hy⟩ : ∃ y : QV, y = (if ok = true then x else QV.zero) := ⟨_, rfl⟩
      unfold rcRes
      rw [← hy]
      obtain ⟨k1, k2⟩ := RowAt.store (P := Try.prog) hN 0 128 22 y.v (by decide) (by kernel_rfl) (fun j _ => QV.one _ j)
      obtain ⟨w2, hw2⟩ : ∃ W, W = (w1.alloc (.cells #[.int .u8 0, .int .u8 0, .int .u8 0, .int .u8 0, .int .u8 0, .int .u8 0, .int .u8 0, .int .u8 0, .int .u8 0, .int .u8 0, .int .u8 0, .int .u8 0, .int .u8 0, .int .u8 0, .int .u8 0, .int .u8 0, .int .u8 0, .bool false, .int .u8 0, .int .u64 0, .int .u64 0, .int .u64 0] 128)).setCells w1.heap.size 0 (rowOf 22 y.v).toList := ⟨_, rfl⟩
      have g2 : w1.grownBy w2 none := by rw [hw2]; exact grown_setCells w1.heap.size (Or.inl (Nat.le_refl _)) _ 0 _ (World.grownBy_alloc w1 _ none)
      rw [← hw2] at k1 k2
      have hX2 := k2.congr (v' := y.v) fun i hi => by rw [if_pos ⟨Nat.zero_le _, by omega⟩, Nat.sub_zero]
      have g := grown_trans g1 g2
      have hC2 := g.cell hC (by simp)
      have hR2 := HR.out.grown g (by simp)
      have hA2 : A ≤ w2.heap.size := by have := g.size; have := HAA.out; omega
      have hJ2 := HJ.out _ _ _ HJK.out g
      have HS := Lib.hid k1
      have HLX := Lib.hid (hX2.load (P := Try.prog) 0 128 22 y.v (by decide) (fun j _ => by rw [Nat.zero_add]) (by kernel_rfl) (by kernel_rfl))
      have HJ2 := Lib.hid hJ2
      have HA2 := Lib.hid hA2
      have HR2 := Lib.hid hR2
      have HC2 := Lib.hid hC2
      have HYE := Lib.hid (show ok = true → y = x from fun e => by rw [hy, if_pos e])
      clear hN k1 k2 hw2 hX2 g g1 g2 hC hR2 hA2 hJ2 hC2 hy HR HAA HJK
      obtain ⟨xb, hxb⟩ : ∃ xb, xb = w1.heap.size := ⟨_, rfl⟩
      rw [← hxb] at HS HLX
      have HXB := Lib.hid hxb
      clear hxb
      cases ok with
      | false =>
        go_upto_region 4 with (first | ((with_reducible refine wpList_here ?_); refine wpList_st (T := 128) (p := .pointer (some ⟨w1.heap.size, 0, none⟩)) (v := .agg (rowOf 22 y.v)) (.tmp 4) (.tmp 20) ?_ ?_ ?_ ?_ ?_ (by rw [← HXB.out]; exact HS.out) ?_; (· rfl); (· rfl); go_simp; (· kernel_rfl); (· kernel_rfl)))
        have HE : Hid (J N w2) := Lib.hid (by
          have e : k = N := by
            by_cases e : k < N
            · have h2 := (HN.out.all k e).2
              rw [← HP.out, ← HOKE.out] at h2
              cases h2
            · have := HK.out; omega
          rw [← e]; exact HJ2.out)
        clear HS HLX HJ2 HA2 HR2 HC2
        go_wp2_with fail
        refine bodyPost_ret (results_none rfl _ _ _) rfl ?_
        exact ⟨⟨_, rfl⟩, Or.inl HE.out⟩
      | true =>
        go_upto_region 4 with (first | ((with_reducible refine wpList_here ?_); refine wpList_st (T := 128) (p := .pointer (some ⟨w1.heap.size, 0, none⟩)) (v := .agg (rowOf 22 y.v)) (.tmp 4) (.tmp 20) ?_ ?_ ?_ ?_ ?_ (by rw [← HXB.out]; exact HS.out) ?_; (· rfl); (· rfl); go_simp; (· kernel_rfl); (· kernel_rfl)))
        rw [← HXB.out]
        have hlt : k < N := by
          by_cases e : k < N
          · exact e
          · have e2 : k = N := by have := HK.out; omega
            refine absurd ?_ HN.out.stop
            rw [← e2]
            exact ⟨by have := HQ.out; have := HP.out; omega, by rw [← HP.out]; exact HOKE.out.symm⟩
        have hRec : recs F k = y := by
          rw [HYE.out (by first | rfl | trivial), HXE.out, HP.out]; rfl
        have HYk := HY.out k w2 hlt HJ2.out
        rw [hRec, ← HP.out] at HYk
        obtain ⟨fn, tmps, assign, body, hy, hRd⟩ := HYk
        have HRD := Lib.hid hRd
        have HLT := Lib.hid hlt
        clear hRd hlt HS HJ2 hRec
        refine (wpIn_wide (n := n)).1 ?_
        gi_wp2_with (first | ((with_reducible refine wideIn_here ?_); refine wideIn_ld (p := .pointer (some ⟨xb, 0, none⟩)) 4 ?_ ?_ ?_ HLX.out ?_; (· rfl); go_simp; (· kernel_rfl)))
        refine HRD.out.mono ?_
        rintro e w5 (⟨rfl, hJ5, hk5⟩ | ⟨rfl, hJx5⟩)
        · have hbB := HX.out.1
          have c5 : w5.cell? ⟨B, 0, none⟩ = some (.slice a L c) := (World.cell?_of_block (a := ⟨B, 0, none⟩) (hk5.eq B HX.out.1 HX.out.2.1)).trans HC2.out
          have HR5 := Lib.hid (HR2.out.keepX hk5 HX.out.2.2)
          have HA5 := Lib.hid (show A ≤ w5.heap.size by have := hk5.size; have := HA2.out; omega)
          have HC5 := Lib.hid c5
          have HJ5 := Lib.hid hJ5
          clear hJ5 hk5 c5 hbB HRD HC2 HR2 HA2 HLX hy
          gi_wp2
          go_wp2_with fail
          go_roundw
          case rel => exact ⟨k + 1, HLT.out, by have h1 := HQ.out; have h2 := HP.out; exact congrArg (Value.int .i64) (by omega), HJ5.out, HC5.out, HR5.out, HA5.out⟩
          case measure =>
            have := HQ.out
            simp [intOf]
            omega
        · have HJX := Lib.hid hJx5
          clear hJx5 HRD HC2 HR2 HA2 HLX hy
          gi_wp2
          go_wp2_with fail
          refine bodyPost_ret (results_none rfl _ _ _) rfl ?_
          exact ⟨⟨_, rfl⟩, Or.inr ⟨k + 1, HLT.out, HJX.out⟩⟩
    · have j2 : ¬ (43 : Int) ≤ (m : Int) := by omega
      have HE : Hid (J N wr) := Lib.hid (by
        have e : k = N := by
          by_cases e : k < N
          · have h2 := (HN.out.all k e).1
            have := HP.out
            omega
          · have := HK.out; omega
        rw [← e]; exact HJK.out)
      clear hR hm h43 hLp hA HJK
      go_wp2_with fail
      go_end0
      exact ⟨⟨_, rfl⟩, Or.inl HE.out⟩
theorem all_seq (n N L c B : Nat) (a : Option Addr) (F : Nat → Nat) (X : Nat → Prop) (w : World) (hF : ∀ i, F i < 256) (hN : IsN L F N) (hL : L ≤ 2 ^ 46) (hLc : L ≤ c) (hn : 1 ≤ n) (hXB : ¬ X B) (hXa : ∀ tb o, a = some ⟨tb, o, none⟩ → ¬ X tb)
    (hC : w.cell? ⟨B, 0, none⟩ = some (.slice a L c)) (hR : Rd w w.heap.size a L F) : SeqN Fence.wide n Try.prog 131 #[.pointer (some ⟨B, 0, none⟩)] (fun k => #[.int .i64 (43 * k : Nat), .agg (rowOf 22 (recs F k).v)]) N X w := by
  intro l J Jx V hV hJ hY h0
  have hB := World.block_lt_of_cell? w _ hC
  exact all_run n l N L c B w.heap.size a F X hF hN hL hLc hn hB hXB hXa J Jx V hV.size hJ hY ((World.cell?_of_block (a := ⟨B, 0, none⟩) (hV.block B hB)).trans hC) (hR.of_block (fun k hk => hV.block k hk)) h0
end Go.Proofs.Ytdagbighlgfhjaa
namespace Go.Proofs.Ytdagbighlgfhjaa
open Go.RowKit

set_option maxRecDepth 100000
set_option maxHeartbeats 4000000

theorem refRecMay_any (x : QV) (w : World) : Calls Try.prog 52 #[.agg (rowOf 22 x.v)] w fun e w' => e = .returned (.bool x.may) ∧ w.grownBy w' none := by
  obtain ⟨id, pe, ou, oc, bg, an, en⟩ := x
  have ga := World.grownBy_alloc w (.cells (rowOf 22 (QV.mk id pe ou oc bg an en).v) 128) none
  have hX := RowAt.new w 128 22 (QV.mk id pe ou oc bg an en).v _ rfl
  go_enter Try.func52, Try.ntmps52
  go_upto_region 1 with fail
  obtain ⟨B, hB⟩ : ∃ B, B = w.heap.size := ⟨_, rfl⟩
  rw [← hB] at hX ⊢
  generalize w.alloc (.cells (rowOf 22 (QV.mk id pe ou oc bg an en).v) 128) = w1 at *
  have c16 : w1.cell? ⟨B, 16, none⟩ = some (.int .u8 (pe : Nat)) := hX.cell 16 (by decide)
  have c18 : w1.cell? ⟨B, 18, none⟩ = some (.int .u8 (oc : Nat)) := hX.cell 18 (by decide)
  have c19 : w1.cell? ⟨B, 19, none⟩ = some (.int .u64 (bg : Nat)) := hX.cell 19 (by decide)
  have c20 : w1.cell? ⟨B, 20, none⟩ = some (.int .u64 (an : Nat)) := hX.cell 20 (by decide)
  have c21 : w1.cell? ⟨B, 21, none⟩ = some (.int .u64 (en : Nat)) := hX.cell 21 (by decide)
  have HG := Lib.hid ga
  clear hB
  by_cases k1 : 7 < pe
  · have k10 : (7 : Int) < (pe : Int) := by omega
    have HM := Lib.hid (show (QV.mk id pe ou oc bg an en).may = false from by unfold QV.may QV.ticks; rw [← Bool.decide_and]; exact decide_eq_false (by dsimp; omega))
    clear k1 ga hX
    go_wp2_with fail
    go_ret
    exact ⟨by rw [HM.out] <;> rfl, HG.out⟩
  · have k10 : ¬ (7 : Int) < (pe : Int) := by omega
    by_cases k2 : oc < 1
    · have k20 : (oc : Int) < 1 := by omega
      have HM := Lib.hid (show (QV.mk id pe ou oc bg an en).may = false from by unfold QV.may QV.ticks; rw [← Bool.decide_and]; exact decide_eq_false (by dsimp; omega))
      clear k1 k2 ga hX
      go_wp2_with fail
      go_ret
      exact ⟨by rw [HM.out] <;> rfl, HG.out⟩
    · have k20 : ¬ (oc : Int) < 1 := by omega
      by_cases k3 : 7 < oc
      · have k30 : (7 : Int) < (oc : Int) := by omega
        have HM := Lib.hid (show (QV.mk id pe ou oc bg an en).may = false from by unfold QV.may QV.ticks; rw [← Bool.decide_and]; exact decide_eq_false (by dsimp; omega))
        clear k1 k2 k3 ga hX
        go_wp2_with fail
        go_ret
        exact ⟨by rw [HM.out] <;> rfl, HG.out⟩
      · have k30 : ¬ (7 : Int) < (oc : Int) := by omega
        by_cases k4 : en < bg
        · have k40 : (en : Int) < (bg : Int) := by omega
          have HM := Lib.hid (show (QV.mk id pe ou oc bg an en).may = false from by unfold QV.may QV.ticks; rw [← Bool.decide_and]; exact decide_eq_false (by dsimp; omega))
          clear k1 k2 k3 k4 ga hX
          go_wp2_with fail
          go_ret
          exact ⟨by rw [HM.out] <;> rfl, HG.out⟩
        · have k40 : ¬ (en : Int) < (bg : Int) := by omega
          by_cases h1 : an = 0
          · have h10 : ((an : Int) == 0) = true := by rw [h1]; rfl
            by_cases h2 : bg ≤ an
            · have h20 : (bg : Int) ≤ (an : Int) := by omega
              by_cases h3 : an ≤ en
              · have h30 : (an : Int) ≤ (en : Int) := by omega
                have HM := Lib.hid (show (QV.mk id pe ou oc bg an en).may = true from by unfold QV.may QV.ticks; rw [← Bool.decide_and]; first | exact decide_eq_true (by dsimp; omega) | exact decide_eq_false (by dsimp; omega))
                clear k1 k2 k3 k4 h1 h2 h3 ga hX
                go_wp2_with fail
                go_ret
                exact ⟨by rw [HM.out] <;> rfl, HG.out⟩
              · have h30 : ¬ (an : Int) ≤ (en : Int) := by omega
                exfalso
                omega
            · have h20 : ¬ (bg : Int) ≤ (an : Int) := by omega
              by_cases h3 : an ≤ en
              · have h30 : (an : Int) ≤ (en : Int) := by omega
                have HM := Lib.hid (show (QV.mk id pe ou oc bg an en).may = true from by unfold QV.may QV.ticks; rw [← Bool.decide_and]; first | exact decide_eq_true (by dsimp; omega) | exact decide_eq_false (by dsimp; omega))
                clear k1 k2 k3 k4 h1 h2 h3 ga hX
                go_wp2_with fail
                go_ret
                exact ⟨by rw [HM.out] <;> rfl, HG.out⟩
              · have h30 : ¬ (an : Int) ≤ (en : Int) := by omega
                exfalso
                omega
          · have h10 : ((an : Int) == 0) = false := beq_eq_false_iff_ne.2 (by omega)
            by_cases h2 : bg ≤ an
            · have h20 : (bg : Int) ≤ (an : Int) := by omega
              by_cases h3 : an ≤ en
              · have h30 : (an : Int) ≤ (en : Int) := by omega
                have HM := Lib.hid (show (QV.mk id pe ou oc bg an en).may = true from by unfold QV.may QV.ticks; rw [← Bool.decide_and]; first | exact decide_eq_true (by dsimp; omega) | exact decide_eq_false (by dsimp; omega))
                clear k1 k2 k3 k4 h1 h2 h3 ga hX
                go_wp2_with fail
                go_ret
                exact ⟨by rw [HM.out] <;> rfl, HG.out⟩
              · have h30 : ¬ (an : Int) ≤ (en : Int) := by omega
                have HM := Lib.hid (show (QV.mk id pe ou oc bg an en).may = false from by unfold QV.may QV.ticks; rw [← Bool.decide_and]; first | exact decide_eq_true (by dsimp; omega) | exact decide_eq_false (by dsimp; omega))
                clear k1 k2 k3 k4 h1 h2 h3 ga hX
                go_wp2_with fail
                go_ret
                exact ⟨by rw [HM.out] <;> rfl, HG.out⟩
            · have h20 : ¬ (bg : Int) ≤ (an : Int) := by omega
              by_cases h3 : an ≤ en
              · have h30 : (an : Int) ≤ (en : Int) := by omega
                have HM := Lib.hid (show (QV.mk id pe ou oc bg an en).may = false from by unfold QV.may QV.ticks; rw [← Bool.decide_and]; first | exact decide_eq_true (by dsimp; omega) | exact decide_eq_false (by dsimp; omega))
                clear k1 k2 k3 k4 h1 h2 h3 ga hX
                go_wp2_with fail
                go_ret
                exact ⟨by rw [HM.out] <;> rfl, HG.out⟩
              · have h30 : ¬ (an : Int) ≤ (en : Int) := by omega
                exfalso
                omega
end Go.Proofs.Ytdagbighlgfhjaa
namespace Go.Proofs.Ytdagbighlgfhjaa
open Go.RowKit

set_option maxRecDepth 100000
set_option maxHeartbeats 4000000

/-- A new block that has a record of noughts. -/
def NewQ (w0 : World) (x : Value) (W : World) : Prop := ∃ B, x = .pointer (some ⟨B, 0, none⟩) ∧ w0.heap.size ≤ B ∧ RowAt W B 128 22 QV.zero.v
theorem NewQ.grown {w0 : World} {x : Value} {W W' : World} (h : NewQ w0 x W) (g : W.grownBy W' none) : NewQ w0 x W' := by
  obtain ⟨b, h1, h2, h3⟩ := h
  exact ⟨b, h1, h2, h3.grown g (by simp)⟩
theorem NewQ.at {w0 : World} {x : Value} {W : World} (h : NewQ w0 x W) : ∃ B, x = .pointer (some ⟨B, 0, none⟩) ∧ B < W.heap.size := by
  obtain ⟨b, h1, _, h3⟩ := h
  exact ⟨b, h1, h3.lt⟩
theorem wpAnyH_skipR {P : Program} {ops : Array Oper} {Q : Exit → Act → World → Prop} {md : Region.Mode} {S : World → Prop} {i : Nat} {o : Oper} {fuel : Nat} {listed : Array Bool} {a : Act} {w w' : World}
    (hr : Region.ready md ops listed = [i]) (hi : ops[i]? = some o) (hd : o.dst = none) (hw : Region.wanted o (yielded ops a.tmps) = true) (he : (execOp a.eval o).run P w = .ok .skip w') (hS : S w')
    (h : wpAnyH P md ops Q S fuel (listed.setIfInBounds i true) a w') : wpAnyH P md ops Q S (fuel + 1) listed a w := by
  refine wpAnyH_all hr (by simp) fun j hj => ?_
  obtain rfl : j = i := by simpa using hj
  refine wpOp_at hi hw (wp_skips he ⟨hS, ?_⟩)
  rw [hd]
  exact h
theorem exec_storeR {o : Oper} {a : Act} {w w' : World} {T : TypeId} (x y : Operand) (p v : Value) (ho : o.op = .store T x y) (hx : a.eval x = p) (hy : a.eval y = v) (h : (Instr.storeAt T p v).run Try.prog w = .ok () w') : (execOp a.eval o).run Try.prog w = .ok .skip w' := by
  unfold execOp
  simp only [ho, hx, hy, Sem.run_bind, h, Result.andThen_ok, Sem.run_pure]
theorem run_build22 (x : QV) (w : World) : (Instr.build 128 #[(0, .agg (cellsOf .u8 16 x.id)), (1, .int .u8 (x.pe : Nat)), (2, .bool x.out), (3, .int .u8 (x.oc : Nat)), (4, .int .u64 (x.bg : Nat)), (5, .int .u64 (x.an : Nat)), (6, .int .u64 (x.en : Nat))]).run Try.prog w = .ok (.agg (rowOf 22 x.v)) w := by kernel_rfl
theorem exec_build22 {o : Oper} {b : Act} (t0 t1 t2 t3 t4 t5 t6 : Nat) (x : QV) (ho : o.op = .build 128 #[(0, .tmp t0), (1, .tmp t1), (2, .tmp t2), (3, .tmp t3), (4, .tmp t4), (5, .tmp t5), (6, .tmp t6)])
    {v0 v1 v2 v3 v4 v5 v6 : Value} (h0 : b.tmps[t0]?.getD undef = v0) (h1 : b.tmps[t1]?.getD undef = v1) (h2 : b.tmps[t2]?.getD undef = v2) (h3 : b.tmps[t3]?.getD undef = v3) (h4 : b.tmps[t4]?.getD undef = v4) (h5 : b.tmps[t5]?.getD undef = v5) (h6 : b.tmps[t6]?.getD undef = v6)
    (e : v0 = .agg (cellsOf .u8 16 x.id) ∧ v1 = .int .u8 (x.pe : Nat) ∧ v2 = .bool x.out ∧ v3 = .int .u8 (x.oc : Nat) ∧ v4 = .int .u64 (x.bg : Nat) ∧ v5 = .int .u64 (x.an : Nat) ∧ v6 = .int .u64 (x.en : Nat)) (w : World) : (execOp b.eval o).run Try.prog w = .ok (.value (.agg (rowOf 22 x.v))) w := by
  obtain ⟨rfl, rfl, rfl, rfl, rfl, rfl, rfl⟩ := e
  have k : ∀ t v, b.tmps[t]?.getD undef = v → b.eval (.tmp t) = v := fun t v h => by rw [eval_slot]; unfold slotv; simpa using h
  unfold execOp
  simp only [ho, k _ _ h0, k _ _ h1, k _ _ h2, k _ _ h3, k _ _ h4, k _ _ h5, k _ _ h6, List.map_toArray, List.map_cons, List.map_nil, Sem.run_bind, run_build22, Result.andThen_ok, Sem.run_pure]
theorem exec_sliceQ {o : Oper} {a : Act} {w : World} {T : TypeId} (x : Operand) (lo hi mx : Option Operand) (vx v : Value) (vl vh vm : Option Value) (ho : o.op = .slice T x lo hi mx) (hx : a.eval x = vx) (hl : lo.map a.eval = vl) (hh : hi.map a.eval = vh) (hm : mx.map a.eval = vm) (h : (Instr.sliceAt T vx vl vh vm).run Try.prog w = .ok v w) : (execOp a.eval o).run Try.prog w = .ok (.value v) w := by
  unfold execOp
  simp only [ho, hx, hl, hh, hm, Sem.run_bind, h, Result.andThen_ok, Sem.run_pure]
theorem refOf_enters : ∀ args w, (callFunc 128 args).run Try.prog w = .ok (.enter 128 args) w := enters_of Try.func128 (by kernel_rfl) rfl
theorem refOfId_enters : ∀ args w, (callFunc 113 args).run Try.prog w = .ok (.enter 113 args) w := enters_of Try.func113 (by kernel_rfl) rfl
def refRes (ok : Bool) (x : QV) : Value := .tuple #[.agg (rowOf 22 (if ok = true then x else QV.zero).v), .bool ok]
theorem refRecTake_any (D L c : Nat) (a : Option Addr) (F : Nat → Nat) (w : World) (hRd : Rd w D a L F) (hc : L ≤ c) (hF : ∀ i, F i < 256) :
    Calls Try.prog 53 #[.slice a L c] w fun e w' => e = .returned (refRes (recOk L F) (recF F)) ∧ w.grownBy w' none := by
  have ga := World.grownBy_alloc w (.cells #[.int .u8 0, .int .u8 0, .int .u8 0, .int .u8 0, .int .u8 0, .int .u8 0, .int .u8 0, .int .u8 0, .int .u8 0, .int .u8 0, .int .u8 0, .int .u8 0, .int .u8 0, .int .u8 0, .int .u8 0, .int .u8 0, .int .u8 0, .bool false, .int .u8 0, .int .u64 0, .int .u64 0, .int .u64 0] 128) none
  have hR := RowAt.new w 128 22 QV.zero.v _ QV.zero_row
  have hRd := hRd.grown ga (by simp)
  obtain ⟨x, hx⟩ : ∃ x, x = recF F := ⟨_, rfl⟩
  obtain ⟨ok, hok⟩ : ∃ ok, ok = recOk L F := ⟨_, rfl⟩
  rw [← hx, ← hok]
  have HOK := Lib.hid (show ok = (decide (L = 43 ∧ F 17 ≤ 1) && x.may) by rw [hok, hx]; rfl)
  have HXX := Lib.hid hx
  have HF := Lib.hid hF
  have HC := Lib.hid hc
  clear hx hok hF hc
  go_enter Try.func53, Try.ntmps53
  go_upto_region 1 with fail
  obtain ⟨B, hB⟩ : ∃ B, B = w.heap.size := ⟨_, rfl⟩
  rw [← hB] at hR ⊢
  generalize w.alloc (.cells #[.int .u8 0, .int .u8 0, .int .u8 0, .int .u8 0, .int .u8 0, .int .u8 0, .int .u8 0, .int .u8 0, .int .u8 0, .int .u8 0, .int .u8 0, .int .u8 0, .int .u8 0, .int .u8 0, .int .u8 0, .int .u8 0, .int .u8 0, .bool false, .int .u8 0, .int .u64 0, .int .u64 0, .int .u64 0] 128) = w1 at *
  have HB := Lib.hid hB
  have HG := Lib.hid ga
  have HR := Lib.hid hR
  have HRW := Lib.hid hRd
  clear hB ga hR hRd
  by_cases h43 : L = 43
  · subst h43
    obtain ⟨tb, o, rfl, htb, hcell⟩ := HRW.out.ex (by decide)
    have C16 := Lib.hid (hcell 16 (by decide))
    have C17 := Lib.hid (hcell 17 (by decide))
    have C18 := Lib.hid (hcell 18 (by decide))
    obtain ⟨f16, hf16⟩ : ∃ n, n = F 16 := ⟨_, rfl⟩
    obtain ⟨f17, hf17⟩ : ∃ n, n = F 17 := ⟨_, rfl⟩
    obtain ⟨f18, hf18⟩ : ∃ n, n = F 18 := ⟨_, rfl⟩
    rw [← hf16] at C16
    rw [← hf17] at C17 HOK
    rw [← hf18] at C18
    have c17 := C17.out
    have HXE : Hid (Value.agg (cellsOf .u8 16 F) = .agg (cellsOf .u8 16 x.id) ∧ Value.int .u8 (f16 : Nat) = .int .u8 (x.pe : Nat) ∧ Value.bool ((f17 : Int) == 1) = .bool x.out ∧ Value.int .u8 (f18 : Nat) = .int .u8 (x.oc : Nat) ∧ Value.int .u64 (ofB8 (fun i => F (19 + i)) 8 : Nat) = .int .u64 (x.bg : Nat) ∧ Value.int .u64 (ofB8 (fun i => F (27 + i)) 8 : Nat) = .int .u64 (x.an : Nat) ∧ Value.int .u64 (ofB8 (fun i => F (35 + i)) 8 : Nat) = .int .u64 (x.en : Nat)) := by
      refine Lib.hid ⟨by rw [HXX.out]; rfl, by rw [HXX.out, hf16]; rfl, ?_, by rw [HXX.out, hf18]; rfl, by rw [HXX.out]; rfl, by rw [HXX.out]; rfl, by rw [HXX.out]; rfl⟩
      rw [HXX.out, hf17]
      show Value.bool ((F 17 : Int) == 1) = .bool (decide (F 17 = 1))
      by_cases e : F 17 = 1
      · rw [e]; rfl
      · rw [decide_eq_false e, beq_eq_false_iff_ne.2 (by omega)]
    obtain ⟨v1, hv1⟩ : ∃ n, n = ofB8 (fun i => F (19 + i)) 8 := ⟨_, rfl⟩
    obtain ⟨v2, hv2⟩ : ∃ n, n = ofB8 (fun i => F (27 + i)) 8 := ⟨_, rfl⟩
    obtain ⟨v3, hv3⟩ : ∃ n, n = ofB8 (fun i => F (35 + i)) 8 := ⟨_, rfl⟩
    rw [← hv1, ← hv2, ← hv3] at HXE
    have HV1 := Lib.hid hv1
    have HV2 := Lib.hid hv2
    have HV3 := Lib.hid hv3
    clear hv1 hv2 hv3 hf16 hf17 hf18 HXX hcell
    by_cases h17 : 1 < f17
    · have j17 : (1 : Int) < (f17 : Int) := by omega
      replace HOK := Lib.hid (show ok = false by rw [HOK.out, decide_eq_false (by omega)]; rfl)
      have hR := HR.out
      clear h17
      obtain ⟨k1, k2⟩ := RowAt.store (P := Try.prog) hR 0 128 22 QV.zero.v (by decide) (by kernel_rfl) (fun j _ => QV.one _ j)
      obtain ⟨wz, hwz⟩ : ∃ W, W = w1.setCells B 0 (rowOf 22 QV.zero.v).toList := ⟨_, rfl⟩
      rw [← hwz] at k1 k2
      have gz : w1.grownBy wz (some B) := by rw [hwz]; exact grown_setCells B (Or.inr rfl) _ 0 _ (grown_refl _ _)
      have HK := Lib.hid (k2.congr (v' := QV.zero.v) fun i hi => by rw [if_pos ⟨Nat.zero_le _, by omega⟩, Nat.sub_zero])
      have HS := Lib.hid k1
      have HGZ := Lib.hid (grown_into HG.out gz (by have := HB.out; omega))
      clear k1 k2 hwz gz hR
      go_wp2_with (first | ((with_reducible refine wpList_here ?_); refine wpList_st (T := 128) (p := .pointer (some ⟨B, 0, none⟩)) (v := .agg (rowOf 22 QV.zero.v)) (.tmp 2) (.tmp 14) ?_ ?_ ?_ ?_ ?_ HS.out ?_; (· rfl); (· rfl); go_simp; (· kernel_rfl); (· kernel_rfl)))
      exact bodyPost_ret (res_rowAt2 rfl rfl rfl HK.out (by kernel_rfl) (by kernel_rfl)) rfl ⟨by rw [HOK.out]; rfl, HGZ.out⟩
    · have j17 : ¬ (1 : Int) < (f17 : Int) := by omega
      replace HOK := Lib.hid (show ok = x.may by rw [HOK.out, decide_eq_true (show 43 = 43 ∧ f17 ≤ 1 from ⟨rfl, by omega⟩)]; rfl)
      obtain ⟨a1, -, s1, r1⟩ := run_subQ c 19 27 HRW.out (by decide) (by decide) HC.out
      obtain ⟨a2, -, s2, r2⟩ := run_subQ c 27 35 HRW.out (by decide) (by decide) HC.out
      obtain ⟨a3, -, s3, r3⟩ := run_subQ c 35 43 HRW.out (by decide) (by decide) HC.out
      have S1 := Lib.hid s1
      have S2 := Lib.hid s2
      have S3 := Lib.hid s3
      have R1 := Lib.hid (r1 _ HRW.out)
      have R2 := Lib.hid (r2 _ HRW.out)
      have R3 := Lib.hid (r3 _ HRW.out)
      clear s1 s2 s3 r1 r2 r3 h17 htb
      go_upto_region 3 with fail
      clear c17 j17
      refine wp_region_rel_all (fun W => w1.grownBy W none) (fun _ h => h) (alL []) (relL [fun vv _ => vv = .slice (some ⟨tb, o, none⟩) 43 c, fun vv _ => vv = .agg (cellsOf .u8 16 F), fun vv _ => vv = .slice (some ⟨tb, o, none⟩) 43 c, fun vv _ => vv = .pointer (some ⟨tb, o + 16, none⟩), fun vv _ => vv = .int .u8 (f16 : Nat), fun vv _ => vv = .slice (some ⟨tb, o, none⟩) 43 c, fun vv _ => vv = .pointer (some ⟨tb, o + 17, none⟩), fun vv _ => vv = .int .u8 (f17 : Nat), fun vv _ => vv = .bool ((f17 : Int) == 1), fun vv _ => vv = .slice (some ⟨tb, o, none⟩) 43 c, fun vv _ => vv = .pointer (some ⟨tb, o + 18, none⟩), fun vv _ => vv = .int .u8 (f18 : Nat), fun vv _ => vv = .slice (some ⟨tb, o, none⟩) 43 c, fun vv _ => vv = .slice a1 8 (c - 19), fun vv _ => vv = .int .u64 (v1 : Nat), fun vv _ => vv = .slice (some ⟨tb, o, none⟩) 43 c, fun vv _ => vv = .slice a2 8 (c - 27), fun vv _ => vv = .int .u64 (v2 : Nat), fun vv _ => vv = .slice (some ⟨tb, o, none⟩) 43 c, fun vv _ => vv = .slice a3 8 (c - 35), fun vv _ => vv = .int .u64 (v3 : Nat), fun vv _ => vv = .agg (rowOf 22 x.v), NewQ w1])
        23 1 (atL [15, 16, 17, 18, 19, 20, 21, 22, 23, 24, 25, 26, 27, 28, 29, 30, 31, 32, 33, 34, 35, 36, 4]) (depL [[], [0], [], [2], [3], [], [5], [6], [7], [], [9], [10], [], [12], [13], [], [15], [16], [], [18], [19], [1, 4, 8, 11, 14, 17, 20], []]) (by kernel_rfl) rfl (by kernel_rfl) (by kernel_rfl) (by kernel_rfl) (by decide) (by kernel_rfl) 42 rfl (by decide) (by decide) (by decide) ?monoT3 ?alT3 ?stepT3 ?finT3
      case monoT3 =>
        intro k x W W' hk h g
        obtain rfl | rfl | rfl | rfl | rfl | rfl | rfl | rfl | rfl | rfl | rfl | rfl | rfl | rfl | rfl | rfl | rfl | rfl | rfl | rfl | rfl | rfl | rfl : k = 0 ∨ k = 1 ∨ k = 2 ∨ k = 3 ∨ k = 4 ∨ k = 5 ∨ k = 6 ∨ k = 7 ∨ k = 8 ∨ k = 9 ∨ k = 10 ∨ k = 11 ∨ k = 12 ∨ k = 13 ∨ k = 14 ∨ k = 15 ∨ k = 16 ∨ k = 17 ∨ k = 18 ∨ k = 19 ∨ k = 20 ∨ k = 21 ∨ k = 22 := by omega
        · exact h
        · exact h
        · exact h
        · exact h
        · exact h
        · exact h
        · exact h
        · exact h
        · exact h
        · exact h
        · exact h
        · exact h
        · exact h
        · exact h
        · exact h
        · exact h
        · exact h
        · exact h
        · exact h
        · exact h
        · exact h
        · exact h
        · exact NewQ.grown h g
      case alT3 =>
        intro k x W hk e h
        obtain rfl | rfl | rfl | rfl | rfl | rfl | rfl | rfl | rfl | rfl | rfl | rfl | rfl | rfl | rfl | rfl | rfl | rfl | rfl | rfl | rfl | rfl | rfl : k = 0 ∨ k = 1 ∨ k = 2 ∨ k = 3 ∨ k = 4 ∨ k = 5 ∨ k = 6 ∨ k = 7 ∨ k = 8 ∨ k = 9 ∨ k = 10 ∨ k = 11 ∨ k = 12 ∨ k = 13 ∨ k = 14 ∨ k = 15 ∨ k = 16 ∨ k = 17 ∨ k = 18 ∨ k = 19 ∨ k = 20 ∨ k = 21 ∨ k = 22 := by omega
        · exact absurd e (by decide)
        · exact absurd e (by decide)
        · exact absurd e (by decide)
        · exact absurd e (by decide)
        · exact absurd e (by decide)
        · exact absurd e (by decide)
        · exact absurd e (by decide)
        · exact absurd e (by decide)
        · exact absurd e (by decide)
        · exact absurd e (by decide)
        · exact absurd e (by decide)
        · exact absurd e (by decide)
        · exact absurd e (by decide)
        · exact absurd e (by decide)
        · exact absurd e (by decide)
        · exact absurd e (by decide)
        · exact absurd e (by decide)
        · exact absurd e (by decide)
        · exact absurd e (by decide)
        · exact absurd e (by decide)
        · exact absurd e (by decide)
        · exact absurd e (by decide)
        · exact absurd e (by decide)
      case stepT3 =>
        intro k hk
        obtain rfl | rfl | rfl | rfl | rfl | rfl | rfl | rfl | rfl | rfl | rfl | rfl | rfl | rfl | rfl | rfl | rfl | rfl | rfl | rfl | rfl | rfl | rfl : k = 0 ∨ k = 1 ∨ k = 2 ∨ k = 3 ∨ k = 4 ∨ k = 5 ∨ k = 6 ∨ k = 7 ∨ k = 8 ∨ k = 9 ∨ k = 10 ∨ k = 11 ∨ k = 12 ∨ k = 13 ∨ k = 14 ∨ k = 15 ∨ k = 16 ∨ k = 17 ∨ k = 18 ∨ k = 19 ∨ k = 20 ∨ k = 21 ∨ k = 22 := by omega
        · refine ⟨_, rfl, rfl, fun b W hs hg hD => ⟨wanted_of rfl, fun K hK0 => ?_⟩⟩
          have hK := fun v W' g h => hK0 v W' g h (fun e => absurd e (by decide))
          exact rel_move 0 rfl (hs 0 (by decide)) rfl hK
        · refine ⟨_, rfl, rfl, fun b W hs hg hD => ⟨wanted_of rfl, fun K hK0 => ?_⟩⟩
          have hK := fun v W' g h => hK0 v W' g h (fun e => absurd e (by decide))
          have h0 : b.tmps[15]?.getD undef = .slice (some ⟨tb, o, none⟩) 43 c := (hD 0 (by decide))
          refine rel_call 113 _ (exec_fn1 _ _ _ rfl ((eval_slot b 15).trans h0)) refOfId_enters ?_ hK
          exact (sgOfId_any D 43 c _ F W (HRW.out.grown hg (by simp)) (by decide)).mono fun e w' h => ⟨_, h.1, h.2, rfl⟩
        · refine ⟨_, rfl, rfl, fun b W hs hg hD => ⟨wanted_of rfl, fun K hK0 => ?_⟩⟩
          have hK := fun v W' g h => hK0 v W' g h (fun e => absurd e (by decide))
          exact rel_move 0 rfl (hs 0 (by decide)) rfl hK
        · refine ⟨_, rfl, rfl, fun b W hs hg hD => ⟨wanted_of rfl, fun K hK0 => ?_⟩⟩
          have hK := fun v W' g h => hK0 v W' g h (fun e => absurd e (by decide))
          have h0 : b.tmps[17]?.getD undef = .slice (some ⟨tb, o, none⟩) 43 c := (hD 2 (by decide))
          exact rel_val (v := .pointer (some ⟨tb, o + 16, none⟩)) (by unfold execOp; go_simp) rfl hK
        · refine ⟨_, rfl, rfl, fun b W hs hg hD => ⟨wanted_of rfl, fun K hK0 => ?_⟩⟩
          have hK := fun v W' g h => hK0 v W' g h (fun e => absurd e (by decide))
          have h0 : b.tmps[18]?.getD undef = .pointer (some ⟨tb, o + 16, none⟩) := (hD 3 (by decide))
          have cc := hg.cell (C16.out) (by simp)
          exact rel_val (by unfold execOp; go_simp) rfl hK
        · refine ⟨_, rfl, rfl, fun b W hs hg hD => ⟨wanted_of rfl, fun K hK0 => ?_⟩⟩
          have hK := fun v W' g h => hK0 v W' g h (fun e => absurd e (by decide))
          exact rel_move 0 rfl (hs 0 (by decide)) rfl hK
        · refine ⟨_, rfl, rfl, fun b W hs hg hD => ⟨wanted_of rfl, fun K hK0 => ?_⟩⟩
          have hK := fun v W' g h => hK0 v W' g h (fun e => absurd e (by decide))
          have h0 : b.tmps[20]?.getD undef = .slice (some ⟨tb, o, none⟩) 43 c := (hD 5 (by decide))
          exact rel_val (v := .pointer (some ⟨tb, o + 17, none⟩)) (by unfold execOp; go_simp) rfl hK
        · refine ⟨_, rfl, rfl, fun b W hs hg hD => ⟨wanted_of rfl, fun K hK0 => ?_⟩⟩
          have hK := fun v W' g h => hK0 v W' g h (fun e => absurd e (by decide))
          have h0 : b.tmps[21]?.getD undef = .pointer (some ⟨tb, o + 17, none⟩) := (hD 6 (by decide))
          have cc := hg.cell (C17.out) (by simp)
          exact rel_val (by unfold execOp; go_simp) rfl hK
        · refine ⟨_, rfl, rfl, fun b W hs hg hD => ⟨wanted_of rfl, fun K hK0 => ?_⟩⟩
          have hK := fun v W' g h => hK0 v W' g h (fun e => absurd e (by decide))
          have h0 : b.tmps[22]?.getD undef = .int .u8 (f17 : Nat) := (hD 7 (by decide))
          exact rel_val (v := .bool ((f17 : Int) == 1)) (by unfold execOp; go_simp) rfl hK
        · refine ⟨_, rfl, rfl, fun b W hs hg hD => ⟨wanted_of rfl, fun K hK0 => ?_⟩⟩
          have hK := fun v W' g h => hK0 v W' g h (fun e => absurd e (by decide))
          exact rel_move 0 rfl (hs 0 (by decide)) rfl hK
        · refine ⟨_, rfl, rfl, fun b W hs hg hD => ⟨wanted_of rfl, fun K hK0 => ?_⟩⟩
          have hK := fun v W' g h => hK0 v W' g h (fun e => absurd e (by decide))
          have h0 : b.tmps[24]?.getD undef = .slice (some ⟨tb, o, none⟩) 43 c := (hD 9 (by decide))
          exact rel_val (v := .pointer (some ⟨tb, o + 18, none⟩)) (by unfold execOp; go_simp) rfl hK
        · refine ⟨_, rfl, rfl, fun b W hs hg hD => ⟨wanted_of rfl, fun K hK0 => ?_⟩⟩
          have hK := fun v W' g h => hK0 v W' g h (fun e => absurd e (by decide))
          have h0 : b.tmps[25]?.getD undef = .pointer (some ⟨tb, o + 18, none⟩) := (hD 10 (by decide))
          have cc := hg.cell (C18.out) (by simp)
          exact rel_val (by unfold execOp; go_simp) rfl hK
        · refine ⟨_, rfl, rfl, fun b W hs hg hD => ⟨wanted_of rfl, fun K hK0 => ?_⟩⟩
          have hK := fun v W' g h => hK0 v W' g h (fun e => absurd e (by decide))
          exact rel_move 0 rfl (hs 0 (by decide)) rfl hK
        · refine ⟨_, rfl, rfl, fun b W hs hg hD => ⟨wanted_of rfl, fun K hK0 => ?_⟩⟩
          have hK := fun v W' g h => hK0 v W' g h (fun e => absurd e (by decide))
          have h0 : b.tmps[27]?.getD undef = .slice (some ⟨tb, o, none⟩) 43 c := (hD 12 (by decide))
          exact rel_val (exec_sliceQ (.tmp 27) (some (.const (.int .i64 19))) (some (.const (.int .i64 27))) none _ _ _ _ _ rfl ((eval_slot b 27).trans h0) rfl rfl rfl (S1.out W)) rfl hK
        · refine ⟨_, rfl, rfl, fun b W hs hg hD => ⟨wanted_of rfl, fun K hK0 => ?_⟩⟩
          have hK := fun v W' g h => hK0 v W' g h (fun e => absurd e (by decide))
          have h0 : b.tmps[28]?.getD undef = .slice a1 8 (c - 19) := (hD 13 (by decide))
          refine rel_call 128 _ (exec_fn1 _ _ _ rfl ((eval_slot b 28).trans h0)) refOf_enters ?_ hK
          exact (sgOf_w (fun i => F (19 + i)) (fun i => HF.out _) 8 (c - 19) a1 D W (by decide) (R1.out.grown hg (by simp))).mono fun e w' h => ⟨_, h.1.trans (by rw [HV1.out]), by rw [← h.2]; exact grown_refl _ _, rfl⟩
        · refine ⟨_, rfl, rfl, fun b W hs hg hD => ⟨wanted_of rfl, fun K hK0 => ?_⟩⟩
          have hK := fun v W' g h => hK0 v W' g h (fun e => absurd e (by decide))
          exact rel_move 0 rfl (hs 0 (by decide)) rfl hK
        · refine ⟨_, rfl, rfl, fun b W hs hg hD => ⟨wanted_of rfl, fun K hK0 => ?_⟩⟩
          have hK := fun v W' g h => hK0 v W' g h (fun e => absurd e (by decide))
          have h0 : b.tmps[30]?.getD undef = .slice (some ⟨tb, o, none⟩) 43 c := (hD 15 (by decide))
          exact rel_val (exec_sliceQ (.tmp 30) (some (.const (.int .i64 27))) (some (.const (.int .i64 35))) none _ _ _ _ _ rfl ((eval_slot b 30).trans h0) rfl rfl rfl (S2.out W)) rfl hK
        · refine ⟨_, rfl, rfl, fun b W hs hg hD => ⟨wanted_of rfl, fun K hK0 => ?_⟩⟩
          have hK := fun v W' g h => hK0 v W' g h (fun e => absurd e (by decide))
          have h0 : b.tmps[31]?.getD undef = .slice a2 8 (c - 27) := (hD 16 (by decide))
          refine rel_call 128 _ (exec_fn1 _ _ _ rfl ((eval_slot b 31).trans h0)) refOf_enters ?_ hK
          exact (sgOf_w (fun i => F (27 + i)) (fun i => HF.out _) 8 (c - 27) a2 D W (by decide) (R2.out.grown hg (by simp))).mono fun e w' h => ⟨_, h.1.trans (by rw [HV2.out]), by rw [← h.2]; exact grown_refl _ _, rfl⟩
        · refine ⟨_, rfl, rfl, fun b W hs hg hD => ⟨wanted_of rfl, fun K hK0 => ?_⟩⟩
          have hK := fun v W' g h => hK0 v W' g h (fun e => absurd e (by decide))
          exact rel_move 0 rfl (hs 0 (by decide)) rfl hK
        · refine ⟨_, rfl, rfl, fun b W hs hg hD => ⟨wanted_of rfl, fun K hK0 => ?_⟩⟩
          have hK := fun v W' g h => hK0 v W' g h (fun e => absurd e (by decide))
          have h0 : b.tmps[33]?.getD undef = .slice (some ⟨tb, o, none⟩) 43 c := (hD 18 (by decide))
          exact rel_val (exec_sliceQ (.tmp 33) (some (.const (.int .i64 35))) (some (.const (.int .i64 43))) none _ _ _ _ _ rfl ((eval_slot b 33).trans h0) rfl rfl rfl (S3.out W)) rfl hK
        · refine ⟨_, rfl, rfl, fun b W hs hg hD => ⟨wanted_of rfl, fun K hK0 => ?_⟩⟩
          have hK := fun v W' g h => hK0 v W' g h (fun e => absurd e (by decide))
          have h0 : b.tmps[34]?.getD undef = .slice a3 8 (c - 35) := (hD 19 (by decide))
          refine rel_call 128 _ (exec_fn1 _ _ _ rfl ((eval_slot b 34).trans h0)) refOf_enters ?_ hK
          exact (sgOf_w (fun i => F (35 + i)) (fun i => HF.out _) 8 (c - 35) a3 D W (by decide) (R3.out.grown hg (by simp))).mono fun e w' h => ⟨_, h.1.trans (by rw [HV3.out]), by rw [← h.2]; exact grown_refl _ _, rfl⟩
        · refine ⟨_, rfl, rfl, fun b W hs hg hD => ⟨wanted_of rfl, fun K hK0 => ?_⟩⟩
          have hK := fun v W' g h => hK0 v W' g h (fun e => absurd e (by decide))
          have h0 : b.tmps[16]?.getD undef = .agg (cellsOf .u8 16 F) := (hD 1 (by decide))
          have h1 : b.tmps[19]?.getD undef = .int .u8 (f16 : Nat) := (hD 4 (by decide))
          have h2 : b.tmps[23]?.getD undef = .bool ((f17 : Int) == 1) := (hD 8 (by decide))
          have h3 : b.tmps[26]?.getD undef = .int .u8 (f18 : Nat) := (hD 11 (by decide))
          have h4 : b.tmps[29]?.getD undef = .int .u64 (v1 : Nat) := (hD 14 (by decide))
          have h5 : b.tmps[32]?.getD undef = .int .u64 (v2 : Nat) := (hD 17 (by decide))
          have h6 : b.tmps[35]?.getD undef = .int .u64 (v3 : Nat) := (hD 20 (by decide))
          exact rel_val (exec_build22 _ _ _ _ _ _ _ x rfl h0 h1 h2 h3 h4 h5 h6 HXE.out W) rfl hK
        · refine ⟨_, rfl, rfl, fun b W hs hg hD => ⟨wanted_of rfl, fun K hK0 => ?_⟩⟩
          have hK := fun v W' g h => hK0 v W' g h (fun e => absurd e (by decide))
          exact wp_yields (by unfold execOp; go_simp) (hK0 _ _ (World.grownBy_alloc W (.cells #[.int .u8 0, .int .u8 0, .int .u8 0, .int .u8 0, .int .u8 0, .int .u8 0, .int .u8 0, .int .u8 0, .int .u8 0, .int .u8 0, .int .u8 0, .int .u8 0, .int .u8 0, .int .u8 0, .int .u8 0, .int .u8 0, .int .u8 0, .bool false, .int .u8 0, .int .u64 0, .int .u64 0, .int .u64 0] 128) none) (show NewQ w1 _ _ from ⟨W.heap.size, rfl, hg.size, RowAt.new W 128 22 QV.zero.v _ QV.zero_row⟩) (fun e => absurd e (by decide)))
      case finT3 =>
      intro vals W hg hR hap
      have e21 : vals 21 = .agg (rowOf 22 x.v) := hR 21 (by decide)
      obtain ⟨X, e22, hXb, hX⟩ := hR 22 (by decide)
      clear hR hap
      simp only [putsN, atL, Act.put, List.getD_cons_zero, List.getD_cons_succ, List.setIfInBounds_toArray, List.set_cons_succ, List.set_cons_zero, e21, e22]
      generalize vals 0 = q0
      generalize vals 1 = q1
      generalize vals 2 = q2
      generalize vals 3 = q3
      generalize vals 4 = q4
      generalize vals 5 = q5
      generalize vals 6 = q6
      generalize vals 7 = q7
      generalize vals 8 = q8
      generalize vals 9 = q9
      generalize vals 10 = q10
      generalize vals 11 = q11
      generalize vals 12 = q12
      generalize vals 13 = q13
      generalize vals 14 = q14
      generalize vals 15 = q15
      generalize vals 16 = q16
      generalize vals 17 = q17
      generalize vals 18 = q18
      generalize vals 19 = q19
      generalize vals 20 = q20
      clear e21 e22 vals
      show wpAnyH _ _ _ _ _ 1 #[true, true, true, true, true, true, true, true, true, true, true, true, true, true, true, true, true, true, true, true, true, true, true, false] _ _
      obtain ⟨k1, k2⟩ := RowAt.store (P := Try.prog) hX 0 128 22 x.v (by decide) (by kernel_rfl) (fun j _ => QV.one _ j)
      have hX2 := k2.congr (v' := x.v) fun i hi => by rw [if_pos ⟨Nat.zero_le _, by omega⟩, Nat.sub_zero]
      have gX : w1.grownBy (W.setCells X 0 (rowOf 22 x.v).toList) none := grown_setCells X (Or.inl hXb) _ 0 _ hg
      refine wpAnyH_skipR (i := 23) (by kernel_rfl) rfl rfl rfl (exec_storeR (.tmp 4) (.tmp 36) _ _ rfl rfl rfl k1) gX ?_
      simp only [List.setIfInBounds_toArray, List.set_cons_succ, List.set_cons_zero]
      refine wpAnyH_done (by kernel_rfl) ?_ _
      generalize W.setCells X 0 (rowOf 22 x.v).toList = w4 at *
      have HLX := Lib.hid (hX2.load (P := Try.prog) 0 128 22 x.v (by decide) (fun j _ => by rw [Nat.zero_add]) (by kernel_rfl) (by kernel_rfl))
      have HG4 := Lib.hid (grown_trans HG.out gX)
      have HR4 := Lib.hid (HR.out.grown gX (by simp))
      have HX4 := Lib.hid hX2
      have HMY := Lib.hid (refRecMay_any x w4)
      clear hg hXb hX k1 k2 hX2 gX
      go_wp2_with (first | ((with_reducible refine wpList_here ?_); refine wpList_ld (p := .pointer (some ⟨X, 0, none⟩)) 4 ?_ ?_ ?_ HLX.out ?_; (· rfl); go_simp; (· kernel_rfl)))
      go_at_call 52
      refine HMY.out.mono ?_
      rintro e w6 ⟨rfl, g6⟩
      have hR := HR4.out.grown g6 (by simp)
      have hX := HX4.out.grown g6 (by simp)
      have HG6 := Lib.hid (grown_trans HG4.out g6)
      clear g6 HR4 HX4 HMY HLX HG4
      have HLX := Lib.hid (hX.load (P := Try.prog) 0 128 22 x.v (by decide) (fun j _ => by rw [Nat.zero_add]) (by kernel_rfl) (by kernel_rfl))
      obtain ⟨m, hm⟩ : ∃ m, m = x.may := ⟨_, rfl⟩
      rw [← hm]
      have HMM := Lib.hid hm
      clear hm
      cases m with
      | false =>
        obtain ⟨k1, k2⟩ := RowAt.store (P := Try.prog) hR 0 128 22 QV.zero.v (by decide) (by kernel_rfl) (fun j _ => QV.one _ j)
        obtain ⟨wz, hwz⟩ : ∃ W, W = w6.setCells B 0 (rowOf 22 QV.zero.v).toList := ⟨_, rfl⟩
        rw [← hwz] at k1 k2
        have gz : w6.grownBy wz (some B) := by rw [hwz]; exact grown_setCells B (Or.inr rfl) _ 0 _ (grown_refl _ _)
        have HK := Lib.hid (k2.congr (v' := QV.zero.v) fun i hi => by rw [if_pos ⟨Nat.zero_le _, by omega⟩, Nat.sub_zero])
        have HS := Lib.hid k1
        have HGZ := Lib.hid (grown_into HG6.out gz (by have := HB.out; omega))
        clear k1 k2 hwz gz hR
        go_wp2_with (first | ((with_reducible refine wpList_here ?_); refine wpList_st (T := 128) (p := .pointer (some ⟨B, 0, none⟩)) (v := .agg (rowOf 22 QV.zero.v)) (.tmp 2) (.tmp 40) ?_ ?_ ?_ ?_ ?_ HS.out ?_; (· rfl); (· rfl); go_simp; (· kernel_rfl); (· kernel_rfl)))
        exact bodyPost_ret (res_rowAt2 rfl rfl rfl HK.out (by kernel_rfl) (by kernel_rfl)) rfl ⟨by rw [HOK.out, ← HMM.out]; rfl, HGZ.out⟩
      | true =>
        obtain ⟨k1, k2⟩ := RowAt.store (P := Try.prog) hR 0 128 22 x.v (by decide) (by kernel_rfl) (fun j _ => QV.one _ j)
        obtain ⟨wz, hwz⟩ : ∃ W, W = w6.setCells B 0 (rowOf 22 x.v).toList := ⟨_, rfl⟩
        rw [← hwz] at k1 k2
        have gz : w6.grownBy wz (some B) := by rw [hwz]; exact grown_setCells B (Or.inr rfl) _ 0 _ (grown_refl _ _)
        have HK := Lib.hid (k2.congr (v' := x.v) fun i hi => by rw [if_pos ⟨Nat.zero_le _, by omega⟩, Nat.sub_zero])
        have HS := Lib.hid k1
        have HGZ := Lib.hid (grown_into HG6.out gz (by have := HB.out; omega))
        clear k1 k2 hwz gz hR
        go_wp2_with (first | ((with_reducible refine wpList_here ?_); refine wpList_ld (p := .pointer (some ⟨X, 0, none⟩)) 4 ?_ ?_ ?_ HLX.out ?_; (· rfl); go_simp; (· kernel_rfl)) | ((with_reducible refine wpList_here ?_); refine wpList_st (T := 128) (p := .pointer (some ⟨B, 0, none⟩)) (v := .agg (rowOf 22 x.v)) (.tmp 2) (.tmp 41) ?_ ?_ ?_ ?_ ?_ HS.out ?_; (· rfl); (· rfl); go_simp; (· kernel_rfl); (· kernel_rfl)))
        exact bodyPost_ret (res_rowAt2 rfl rfl rfl HK.out (by kernel_rfl) (by kernel_rfl)) rfl ⟨by rw [HOK.out, ← HMM.out]; rfl, HGZ.out⟩
  · have j43 : ¬ (L : Int) = 43 := by omega
    replace HOK := Lib.hid (show ok = false by rw [HOK.out, decide_eq_false (by omega)]; rfl)
    have hR := HR.out
    clear h43
    obtain ⟨k1, k2⟩ := RowAt.store (P := Try.prog) hR 0 128 22 QV.zero.v (by decide) (by kernel_rfl) (fun j _ => QV.one _ j)
    obtain ⟨wz, hwz⟩ : ∃ W, W = w1.setCells B 0 (rowOf 22 QV.zero.v).toList := ⟨_, rfl⟩
    rw [← hwz] at k1 k2
    have gz : w1.grownBy wz (some B) := by rw [hwz]; exact grown_setCells B (Or.inr rfl) _ 0 _ (grown_refl _ _)
    have HK := Lib.hid (k2.congr (v' := QV.zero.v) fun i hi => by rw [if_pos ⟨Nat.zero_le _, by omega⟩, Nat.sub_zero])
    have HS := Lib.hid k1
    have HGZ := Lib.hid (grown_into HG.out gz (by have := HB.out; omega))
    clear k1 k2 hwz gz hR
    go_wp2_with (first | ((with_reducible refine wpList_here ?_); refine wpList_st (T := 128) (p := .pointer (some ⟨B, 0, none⟩)) (v := .agg (rowOf 22 QV.zero.v)) (.tmp 2) (.tmp 14) ?_ ?_ ?_ ?_ ?_ HS.out ?_; (· rfl); (· rfl); go_simp; (· kernel_rfl); (· kernel_rfl)))
    exact bodyPost_ret (res_rowAt2 rfl rfl rfl HK.out (by kernel_rfl) (by kernel_rfl)) rfl ⟨by rw [HOK.out]; rfl, HGZ.out⟩
end Go.Proofs.Ytdagbighlgfhjaa
namespace Go.Proofs.Ytdagbighlgfhjaa
open Go.RowKit

set_option maxRecDepth 100000

/-- Block g holds n elements of sz cells, and room for cap of them; ev i j: cell j of element i. -/
structure OwnE (w : World) (sz g n cap : Nat) (ev : Nat → Nat → Value) : Prop where
  cell : ∀ i j, i < n → j < sz → w.cell? ⟨g, i * sz + j, none⟩ = some (ev i j)
  there : ∀ k, k < cap * sz → (w.cell? ⟨g, k, none⟩).isSome = true
  free : ∀ i, w.frozen? ⟨g, i, none⟩ = false
  le : n ≤ cap
  lt : g < w.heap.size
theorem OwnE.of_block {w w' : World} {sz g n cap : Nat} {ev : Nat → Nat → Value} (h : OwnE w sz g n cap ev) (e : w'.heap[g]? = w.heap[g]?) (hl : g < w'.heap.size) : OwnE w' sz g n cap ev where
  cell := fun i j hi hj => (World.cell?_of_block (a := ⟨g, i * sz + j, none⟩) e).trans (h.cell i j hi hj)
  there := fun k hk => by rw [World.cell?_of_block (a := ⟨g, k, none⟩) e]; exact h.there k hk
  free := fun i => (World.frozen?_of_block (a := ⟨g, i, none⟩) e).trans (h.free i)
  le := h.le
  lt := hl
theorem OwnE.grown {w w' : World} {sz g n cap : Nat} {ev : Nat → Nat → Value} (h : OwnE w sz g n cap ev) {row : Option Nat} (e : w.grownBy w' row) (hr : some g ≠ row) : OwnE w' sz g n cap ev :=
  h.of_block (e.block g h.lt hr) (Nat.lt_of_lt_of_le h.lt e.size)
/-- Nil, or elements that the call has made. -/
structure OwnNE (w : World) (base : Nat) (sz : Nat) (v : Value) (n : Nat) (ev : Nat → Nat → Value) : Prop where
  ex : (v = .slice none 0 0 ∧ n = 0) ∨ ∃ g cap, v = .slice (some ⟨g, 0, none⟩) n cap ∧ OwnE w sz g n cap ev ∧ base ≤ g
theorem OwnNE.nil (w : World) (base sz : Nat) (ev : Nat → Nat → Value) : OwnNE w base sz (.slice none 0 0) 0 ev := ⟨Or.inl ⟨rfl, rfl⟩⟩
theorem OwnNE.grown {w w' : World} {base sz : Nat} {v : Value} {n : Nat} {ev : Nat → Nat → Value} (h : OwnNE w base sz v n ev) {row : Option Nat} (e : w.grownBy w' row) (hr : ∀ k, row = some k → k < base) : OwnNE w' base sz v n ev := by
  rcases h.ex with h | ⟨g, cap, h1, h2, h3⟩
  · exact ⟨Or.inl h⟩
  · exact ⟨Or.inr ⟨g, cap, h1, h2.grown e (fun e' => by have := hr g e'.symm; omega), h3⟩⟩
/-- One more. -/
def snocE (n : Nat) (ev : Nat → Nat → Value) (x : Nat → Value) : Nat → Nat → Value := fun i => if i < n then ev i else x
/-- Elements as a list of cells. -/
def rowsE (sz n : Nat) (ev : Nat → Nat → Value) : List Value := (List.range (n * sz)).map fun k => ev (k / sz) (k % sz)
theorem rowsE_length (sz n : Nat) (ev : Nat → Nat → Value) : (rowsE sz n ev).length = n * sz := by simp [rowsE]
theorem rowsE_get (sz n : Nat) (ev : Nat → Nat → Value) (k : Nat) (h : k < n * sz) : (rowsE sz n ev)[k]? = some (ev (k / sz) (k % sz)) := by simp [rowsE, h]
theorem div_mod_at (sz i j : Nat) (hj : j < sz) : (i * sz + j) / sz = i ∧ (i * sz + j) % sz = j := by
  have h0 : 0 < sz := by omega
  refine ⟨?_, ?_⟩
  · rw [Nat.mul_comm, Nat.mul_add_div h0, Nat.div_eq_of_lt hj, Nat.add_zero]
  · rw [Nat.mul_comm, Nat.mul_add_mod, Nat.mod_eq_of_lt hj]
theorem idx_lt (sz n i j : Nat) (hi : i < n) (hj : j < sz) : i * sz + j < n * sz := by
  have : (i + 1) * sz ≤ n * sz := Nat.mul_le_mul_right sz (by omega)
  rw [Nat.add_mul, Nat.one_mul] at this
  omega
/-- The cells of an element, as a list. -/
def cellsE (sz : Nat) (x : Nat → Value) : List Value := (List.range sz).map x
theorem cellsE_get (sz : Nat) (x : Nat → Value) (j : Nat) (h : j < sz) : (cellsE sz x)[j]? = some (x j) := by simp [cellsE, h]
section
variable {P : Program}
theorem app_E {w : World} {base0 : Nat} {T E : TypeId} {info : TypeInfo} {z : Value} {sz n : Nat} {v : Value} {ev : Nat → Nat → Value} {x : Nat → Value} (ty : TypeId) (b o c : Nat) (hT : P.underlying T = some (.slice E)) (hi : P.info? E = some info) (hz : info.zero = some z) (hsz : info.size = sz) (hby : info.bytes ≤ 128) (hzc : z.cells.size = sz) (hs0 : 0 < sz)
    (h0 : base0 ≤ w.heap.size) (h : OwnNE w base0 sz v n ev) (hx : ∀ j, j < sz → w.cell? ⟨b, o + j, none⟩ = some (x j)) (hone : ∀ j, (x j).oneCell' = true) (hn : n < 2 ^ 38) :
    ∃ a' c' w', (Builtin.append_ #[T, T] ty #[v, .slice (some ⟨b, o, none⟩) 1 c]).run P w = .ok (.slice a' (n + 1) c') w' ∧ OwnNE w' base0 sz (.slice a' (n + 1) c') (n + 1) (snocE n ev x) ∧
      ∃ row, w.grownBy w' row ∧ (∀ k, row = some k → base0 ≤ k) ∧ ∃ g', a' = some ⟨g', 0, none⟩ ∧ ((row = none ∧ w.heap.size ≤ g') ∨ (row = some g' ∧ ∃ c'', v = .slice (some ⟨g', 0, none⟩) n c'')) := by
  have hsrc : Src P info.size T (.slice (some ⟨b, o, none⟩) 1 c) 1 (cellsE sz x) w := by
    refine Src.ofSlice w hT ⟨b, o, none⟩ 1 c (cellsE sz x) (by simp [cellsE, hsz]) (fun j u hj => ?_) (fun u hu => ?_)
    · have hj' : j < sz := by
        have := (List.getElem?_eq_some_iff.1 hj).1
        simpa [cellsE] using this
      rw [cellsE_get sz x j hj'] at hj
      cases hj
      rw [Addr.add_mid]
      exact hx j hj'
    · obtain ⟨j, _, rfl⟩ := List.mem_map.1 hu
      exact hone j
  have grow : ∀ (base : Option Addr) (cap : Nat) (olds : List Value), v = .slice base n cap → cap < n + 1 → olds.length = n * sz → (∀ i j, i < n → j < sz → olds[i * sz + j]? = some (ev i j)) → (Builtin.firstCells info.size n (.slice base n cap)).run P w.drew = .ok olds.toArray w.drew →
      ∃ a' c' w', (Builtin.append_ #[T, T] ty #[v, .slice (some ⟨b, o, none⟩) 1 c]).run P w = .ok (.slice a' (n + 1) c') w' ∧ OwnNE w' base0 sz (.slice a' (n + 1) c') (n + 1) (snocE n ev x) ∧ ∃ row, w.grownBy w' row ∧ (∀ k, row = some k → base0 ≤ k) ∧ ∃ g', a' = some ⟨g', 0, none⟩ ∧ ((row = none ∧ w.heap.size ≤ g') ∨ (row = some g' ∧ ∃ c'', v = .slice (some ⟨g', 0, none⟩) n c'')) := by
    intro base cap olds hv hcap hol hog hold
    subst hv
    have hfit : Builtin.nextslicecap (n + 1) cap * info.bytes ≤ 281474976710656 := by
      have h1 := nextslicecap_le hcap
      have h2 : Builtin.nextslicecap (n + 1) cap * info.bytes ≤ (2 * (n + 1)) * 128 := Nat.mul_le_mul h1 hby
      omega
    have hr := run_append_grow_src w T T ty E info z hT hi hz base n cap olds hold (.slice (some ⟨b, o, none⟩) 1 c) 1 (cellsE sz x) hsrc hcap (by omega) hfit
    have hcg := grownCap_ge w (n + 1) cap E
    generalize grownCap w (n + 1) cap E = cap' at *
    have hb := heap_alloc_new w.drew (.cells ((olds ++ cellsE sz x).toArray ++ Builtin.zeroCells z.cells (cap' - (n + 1))) E)
    have hb' : w.drew.heap.size = w.heap.size := rfl
    rw [hb'] at hb
    have hg := grown_alloc (grown_drew (grown_refl w none)) (.cells ((olds ++ cellsE sz x).toArray ++ Builtin.zeroCells z.cells (cap' - (n + 1))) E)
    have hlen : (olds ++ cellsE sz x).length = (n + 1) * sz := by rw [List.length_append, hol, Nat.add_mul, Nat.one_mul]; simp [cellsE]
    refine ⟨_, _, _, hr, ⟨Or.inr ⟨w.heap.size, cap', rfl, ⟨fun i j hi2 hj => ?_, fun k hk => ?_, fun i => frozen_of_row _ _ _ _ _ hb, hcg, by simp [hb']⟩, h0⟩⟩, none, hg, (fun k e => by cases e), w.heap.size, rfl, Or.inl ⟨rfl, Nat.le_refl _⟩⟩
    · have hlt := idx_lt sz (n + 1) i j hi2 hj
      rw [cell_of_row _ _ _ _ _ _ hb, Array.getElem?_append_left (by rw [List.size_toArray, hlen]; exact hlt)]
      rw [List.getElem?_toArray]
      unfold snocE
      by_cases e : i < n
      · rw [if_pos e, List.getElem?_append_left (by rw [hol]; exact idx_lt sz n i j e hj)]
        exact hog i j e hj
      · obtain rfl : i = n := by omega
        rw [if_neg e, List.getElem?_append_right (by rw [hol]; omega), hol, show i * sz + j - i * sz = j by omega]
        exact cellsE_get sz x j hj
    · have hsize : ((olds ++ cellsE sz x).toArray ++ Builtin.zeroCells z.cells (cap' - (n + 1))).size = cap' * sz := by
        rw [Array.size_append, size_zeroCells, hzc, List.size_toArray, hlen, ← Nat.add_mul]
        congr 1
        omega
      rw [cell_of_row _ _ _ _ _ _ hb, Array.getElem?_eq_getElem (by rw [hsize]; exact hk)]
      rfl
  rcases h.ex with ⟨hv, h00⟩ | ⟨g, cap, hv, h2, h3⟩
  · exact grow none 0 [] (by rw [hv, h00]) (by omega) (by simp [h00]) (fun i j hi2 _ => absurd hi2 (by omega)) (by rw [h00]; exact run_firstCells_none w.drew info.size 0 0 0)
  · by_cases hroom : n + 1 ≤ cap
    · subst hv
      have hcz : (n + 1) * sz ≤ cap * sz := Nat.mul_le_mul_right sz hroom
      rw [Nat.add_mul, Nat.one_mul] at hcz
      have hlx : (cellsE sz x).length = sz := by simp [cellsE]
      have hr := run_append_room_src w T T ty E info hT hi g 0 n cap (.slice (some ⟨b, o, none⟩) 1 c) 1 (cellsE sz x) hsrc hroom
        (fun j hj => by rw [hsz, Nat.zero_add]; exact h2.there _ (by rw [hlx] at hj; omega)) (fun j _ => h2.free _)
      rw [hsz, Nat.zero_add] at hr
      have hout : ∀ k, k < n * sz → (w.setCells g (n * sz) (cellsE sz x)).cell? ⟨g, k, none⟩ = w.cell? ⟨g, k, none⟩ := fun k hk => World.cell?_setCells_out g _ _ w ⟨g, k, none⟩ (fun _ _ => Or.inl hk)
      have hin : ∀ j, j < sz → (w.setCells g (n * sz) (cellsE sz x)).cell? ⟨g, n * sz + j, none⟩ = some (x j) := fun j hj => by
        have := World.cell?_setCells_in g (cellsE sz x) (n * sz) w (fun i hi => h2.there _ (by rw [hlx] at hi; omega)) j (by rw [hlx]; exact hj)
        rw [this]
        simp [cellsE]
      have hg := grown_setCells g (Or.inr rfl) (cellsE sz x) (n * sz) w (grown_refl w (some g))
      refine ⟨_, _, _, hr, ⟨Or.inr ⟨g, cap, rfl, ⟨fun i j hi2 hj => ?_, fun k hk => ?_, fun i => (by rw [World.frozen?_setCells]; exact h2.free i), hroom, Nat.lt_of_lt_of_le h2.lt hg.size⟩, h3⟩⟩, some g, hg, (fun k e => by cases e; exact h3), g, rfl, Or.inr ⟨rfl, cap, rfl⟩⟩
      · unfold snocE
        by_cases e : i < n
        · rw [if_pos e, hout _ (idx_lt sz n i j e hj)]; exact h2.cell i j e hj
        · obtain rfl : i = n := by omega
          rw [if_neg e]; exact hin j hj
      · by_cases e : k < n * sz
        · rw [hout k e]; exact h2.there k hk
        · by_cases e2 : k < n * sz + sz
          · have := hin (k - n * sz) (by omega)
            rw [show n * sz + (k - n * sz) = k by omega] at this
            rw [this]; rfl
          · rw [World.cell?_setCells_out g _ _ w ⟨g, k, none⟩ (fun _ _ => Or.inr (by rw [hlx]; show n * sz + sz ≤ k; omega))]; exact h2.there k hk
    · refine grow (some ⟨g, 0, none⟩) cap (rowsE sz n ev) hv (by omega) (rowsE_length sz n ev) (fun i j hi2 hj => ?_) ?_
      · rw [rowsE_get sz n ev _ (idx_lt sz n i j hi2 hj), (div_mod_at sz i j hj).1, (div_mod_at sz i j hj).2]
      · refine run_firstCells_some w.drew info.size n ⟨g, 0, none⟩ n cap (rowsE sz n ev) (by rw [rowsE_length, hsz]) (fun k u hk => ?_)
        have hk' : k < n * sz := by
          have := (List.getElem?_eq_some_iff.1 hk).1
          rwa [rowsE_length] at this
        rw [rowsE_get sz n ev k hk'] at hk
        cases hk
        rw [Addr.add_mid, Nat.zero_add]
        have := h2.cell (k / sz) (k % sz) (Nat.div_lt_of_lt_mul (by rw [Nat.mul_comm]; exact hk')) (Nat.mod_lt _ hs0)
        rw [Nat.mul_comm, Nat.div_add_mod] at this
        exact this
end
end Go.Proofs.Ytdagbighlgfhjaa
namespace Go.Proofs.Ytdagbighlgfhjaa
open Go.RowKit

set_option maxRecDepth 100000
set_option maxHeartbeats 4000000

/-- One more record. -/
theorem app_rec {w : World} {base0 n : Nat} {v : Value} {ev : Nat → Nat → Value} {x : Nat → Value} (b o c : Nat) (h0 : base0 ≤ w.heap.size) (h : OwnNE w base0 22 v n ev) (hx : ∀ j, j < 22 → w.cell? ⟨b, o + j, none⟩ = some (x j)) (hone : ∀ j, (x j).oneCell' = true) (hn : n < 2 ^ 38) :
    ∃ a' c' w', (Builtin.append_ #[129, 129] 129 #[v, .slice (some ⟨b, o, none⟩) 1 c]).run Try.prog w = .ok (.slice a' (n + 1) c') w' ∧ OwnNE w' base0 22 (.slice a' (n + 1) c') (n + 1) (snocE n ev x) ∧
      ∃ row, w.grownBy w' row ∧ (∀ k, row = some k → base0 ≤ k) ∧ ∃ g', a' = some ⟨g', 0, none⟩ ∧ ((row = none ∧ w.heap.size ≤ g') ∨ (row = some g' ∧ ∃ c'', v = .slice (some ⟨g', 0, none⟩) n c'')) := by
  have hi : (Try.prog.info? 128).map (fun i => (i.zero.map (fun z => z.cells.size), i.size, decide (i.bytes ≤ 128))) = some (some 22, 22, true) := by kernel_rfl
  obtain ⟨info, he⟩ : ∃ info, Try.prog.info? 128 = some info := by
    cases h : Try.prog.info? 128 with
    | none => rw [h] at hi; cases hi
    | some i => exact ⟨i, rfl⟩
  rw [he] at hi
  obtain ⟨z, hz⟩ : ∃ z, info.zero = some z := by
    cases h : info.zero with
    | none => simp [h] at hi
    | some z => exact ⟨z, rfl⟩
  simp [hz] at hi
  obtain ⟨h1, h2, h3⟩ := hi
  exact app_E (P := Try.prog) (T := 129) (E := 128) 129 b o c (by kernel_rfl) he hz h2 h3 h1 (by decide) h0 h hx hone hn
theorem run_build1 (y : QV) (w : World) : (Instr.buildSlice 129 1 #[(0, .agg (rowOf 22 y.v))]).run Try.prog w = .ok (.slice (some ⟨w.heap.size, 0, none⟩) 1 1) (w.alloc (.cells (rowOf 22 y.v) 128)) := by kernel_rfl
theorem exec_build1 {o : Oper} {a : Act} {w : World} (t : Nat) (y : QV) (ho : o.op = .buildSlice 129 1 #[(0, .tmp t)]) (h : a.eval (.tmp t) = .agg (rowOf 22 y.v)) : (execOp a.eval o).run Try.prog w = .ok (.value (.slice (some ⟨w.heap.size, 0, none⟩) 1 1)) (w.alloc (.cells (rowOf 22 y.v) 128)) := by
  unfold execOp
  simp only [ho, h, List.map_toArray, List.map_cons, List.map_nil, Sem.run_bind, run_build1, Result.andThen_ok, Sem.run_pure]
structure RefAllSays (w : World) (F : Nat → Nat) (N : Nat) (e : Ending) (w' : World) : Prop where
  ex : ∃ a c, e = .returned (.slice a N c) ∧ OwnNE w' w.heap.size 22 (.slice a N c) N (fun i j => (recs F i).v j)
  gr : w.grownBy w' none
theorem OwnNE.congr {w : World} {base sz n : Nat} {v : Value} {ev ev' : Nat → Nat → Value} (h : OwnNE w base sz v n ev) (e : ∀ i j, i < n → j < sz → ev i j = ev' i j) : OwnNE w base sz v n ev' := by
  rcases h.ex with h | ⟨g, cap, h1, h2, h3⟩
  · exact ⟨Or.inl h⟩
  · exact ⟨Or.inr ⟨g, cap, h1, { h2 with cell := fun i j hi hj => by rw [← e i j hi hj]; exact h2.cell i j hi hj }, h3⟩⟩
theorem refRecAll_any (D L c N : Nat) (a : Option Addr) (F : Nat → Nat) (w : World) (hRd : Rd w D a L F) (hc : L ≤ c) (hF : ∀ i, F i < 256) (hN : IsN L F N) (hL : L ≤ 2 ^ 40) : Calls Try.prog 56 #[.slice a L c] w (RefAllSays w F N) := by
  have HR := Lib.hid hRd
  have HC := Lib.hid hc
  have HF := Lib.hid hF
  have HN := Lib.hid hN
  have HL := Lib.hid hL
  clear hRd hc hF hN hL
  go_enter Try.func56, Try.ntmps56
  go_wp2_with fail
  go_loopw [3, 4] (fun u3 u4 wr => ∃ (k : Nat) (a3 : Option Addr) (c3 : Nat), k ≤ N ∧ u3 = .slice a3 k c3 ∧ u4 = .int .i64 (43 * k : Nat) ∧ OwnNE wr w.heap.size 22 (.slice a3 k c3) k (fun i j => (recs F i).v j) ∧ w.grownBy wr none) (fun _ u4 _ => L + 43 - (intOf u4).toNat)
  case atStart => exact ⟨0, none, 0, Nat.zero_le _, rfl, rfl, OwnNE.nil _ _ _ _, grown_refl _ _⟩
  case round =>
    obtain ⟨k, a3, c3, hk, rfl, rfl, hO, hG⟩ := hrel
    obtain ⟨p, hp⟩ : ∃ p, p = 43 * k := ⟨_, rfl⟩
    rw [← hp]
    have HP := Lib.hid hp
    have hLp : p ≤ L := by have := HN.out.le; omega
    have HK := Lib.hid hk
    have HO := Lib.hid hO
    have HG := Lib.hid hG
    obtain ⟨q, hq⟩ : ∃ q, q = p + 43 := ⟨_, rfl⟩
    have j3 : (p : Int) + 43 = (q : Int) := by omega
    have j4 : (q : Int) < 70368744177665 := by have := HL.out; omega
    clear hk hp hO hG
    by_cases h43 : q ≤ L
    · have j2 : (q : Int) ≤ (L : Int) := by omega
      obtain ⟨a', -, s1, r1⟩ := run_subQ c p q HR.out (by omega) h43 HC.out
      rw [show q - p = 43 by omega] at s1 r1
      have hT := refRecTake_any D 43 (c - p) a' (shF F p) wr (r1 wr (HR.out.grown HG.out (by simp))) (by have := HC.out; omega) (fun i => HF.out _)
      obtain ⟨ok, hok⟩ : ∃ ok, ok = recOk 43 (shF F p) := ⟨_, rfl⟩
      obtain ⟨x, hx⟩ : ∃ x, x = recF (shF F p) := ⟨_, rfl⟩
      rw [← hok, ← hx] at hT
      have S1 := s1 wr
      have HT := Lib.hid hT
      have HQ := Lib.hid (show q = p + 43 ∧ q ≤ L from ⟨hq, h43⟩)
      have HOKE := Lib.hid hok
      have HXE := Lib.hid hx
      clear hT s1 r1 h43 hq hLp hok hx
      go_wp2_with fail
      go_at_call 53
      refine HT.out.mono ?_
      rintro e w1 ⟨rfl, g1⟩
      clear S1 HT
      have hN := RowAt.new w1 128 22 QV.zero.v _ QV.zero_row
      obtain ⟨y, hy⟩ : ∃ y : QV, y = (if ok = true then x else QV.zero) := ⟨_, rfl⟩
      unfold refRes
      rw [← hy]
      obtain ⟨k1, k2⟩ := RowAt.store (P := Try.prog) hN 0 128 22 y.v (by decide) (by kernel_rfl) (fun j _ => QV.one _ j)
      obtain ⟨w2, hw2⟩ : ∃ W, W = (w1.alloc (.cells #[.int .u8 0, .int .u8 0, .int .u8 0, .int .u8 0, .int .u8 0, .int .u8 0, .int .u8 0, .int .u8 0, .int .u8 0, .int .u8 0, .int .u8 0, .int .u8 0, .int .u8 0, .int .u8 0, .int .u8 0, .int .u8 0, .int .u8 0, .bool false, .int .u8 0, .int .u64 0, .int .u64 0, .int .u64 0] 128)).setCells w1.heap.size 0 (rowOf 22 y.v).toList := ⟨_, rfl⟩
      have g2 : w1.grownBy w2 none := by rw [hw2]; exact grown_setCells w1.heap.size (Or.inl (Nat.le_refl _)) _ 0 _ (World.grownBy_alloc w1 _ none)
      rw [← hw2] at k1 k2
      have hX2 := k2.congr (v' := y.v) fun i hi => by rw [if_pos ⟨Nat.zero_le _, by omega⟩, Nat.sub_zero]
      have HS := Lib.hid k1
      have HLX := Lib.hid (hX2.load (P := Try.prog) 0 128 22 y.v (by decide) (fun j _ => by rw [Nat.zero_add]) (by kernel_rfl) (by kernel_rfl))
      have HG2 := Lib.hid (grown_trans HG.out (grown_trans g1 g2))
      have HO2 := Lib.hid (HO.out.grown (grown_trans g1 g2) (fun k e => by cases e))
      have HYE := Lib.hid (show ok = true → y = x from fun e => by rw [hy, if_pos e])
      clear hN k1 k2 hw2 hX2 g1 g2 hy HG HO
      obtain ⟨xb, hxb⟩ : ∃ xb, xb = w1.heap.size := ⟨_, rfl⟩
      rw [← hxb] at HS HLX
      have HXB := Lib.hid hxb
      clear hxb
      cases ok with
      | false =>
        go_upto_region 6 with (first | ((with_reducible refine wpList_here ?_); refine wpList_st (T := 128) (p := .pointer (some ⟨w1.heap.size, 0, none⟩)) (v := .agg (rowOf 22 y.v)) (.tmp 5) (.tmp 21) ?_ ?_ ?_ ?_ ?_ (by rw [← HXB.out]; exact HS.out) ?_; (· rfl); (· rfl); go_simp; (· kernel_rfl); (· kernel_rfl)))
        have HE := Lib.hid (show k = N by
          by_cases e : k < N
          · have h2 := (HN.out.all k e).2
            rw [← HP.out, ← HOKE.out] at h2
            cases h2
          · have := HK.out; omega)
        clear HS HLX
        go_wp2_with fail
        go_ret
        exact ⟨⟨a3, c3, by rw [← HE.out] <;> rfl, by rw [← HE.out]; exact HO2.out⟩, HG2.out⟩
      | true =>
        go_upto_region 6 with (first | ((with_reducible refine wpList_here ?_); refine wpList_st (T := 128) (p := .pointer (some ⟨w1.heap.size, 0, none⟩)) (v := .agg (rowOf 22 y.v)) (.tmp 5) (.tmp 21) ?_ ?_ ?_ ?_ ?_ (by rw [← HXB.out]; exact HS.out) ?_; (· rfl); (· rfl); go_simp; (· kernel_rfl); (· kernel_rfl)))
        rw [← HXB.out]
        have hlt : k < N := by
          by_cases e : k < N
          · exact e
          · have e2 : k = N := by have := HK.out; omega
            refine absurd ?_ HN.out.stop
            rw [← e2]
            exact ⟨by have := HQ.out; have := HP.out; omega, by rw [← HP.out]; exact HOKE.out.symm⟩
        have hRec : recs F k = y := by
          rw [HYE.out (by first | rfl | trivial), HXE.out, HP.out]; rfl
        have gA := World.grownBy_alloc w2 (.cells (rowOf 22 y.v) 128) none
        have hA := RowAt.new w2 128 22 y.v _ rfl
        obtain ⟨a4, c4, w4, hap, hO4, row, hgr, hrow, _⟩ := app_rec w2.heap.size 0 1 (by have := HG2.out.size; have := gA.size; omega) (HO2.out.grown gA (fun k e => by cases e)) (fun j hj => by rw [Nat.zero_add]; exact hA.cell j hj) (fun j => QV.one y j) (by have := HN.out.le; have := HL.out; omega)
        have HAP := Lib.hid hap
        have HO4 := Lib.hid (hO4.congr (ev' := fun i j => (recs F i).v j) fun i j hi hj => by
          unfold snocE
          by_cases e : i < k
          · rw [if_pos e]
          · rw [if_neg e, show i = k by omega, hRec])
        have HG4 : Hid (w.grownBy w4 none) := Lib.hid (by
          have h := grown_trans HG2.out gA
          cases row with
          | none => exact grown_trans h hgr
          | some r => exact grown_new h hgr (hrow r rfl))
        have HLT := Lib.hid hlt
        clear HS hap hO4 hgr hrow gA hA hlt hRec HO2 HG2
        go_upto_region 8 with fail
        go_wp2_with (first | ((with_reducible refine wpList_here ?_); refine wpList_ld (p := .pointer (some ⟨xb, 0, none⟩)) 5 ?_ ?_ ?_ HLX.out ?_; (· rfl); go_simp; (· kernel_rfl)) | ((with_reducible refine wpList_here ?_); refine wpList_want (v := .slice (some ⟨w2.heap.size, 0, none⟩) 1 1) (w' := w2.alloc (.cells (rowOf 22 y.v) 128)) ?_ (exec_build1 27 y rfl ?_) ?_; go_simp; (· rfl)) | (at_builtin; refine wpList_append_run rfl (.tmp 26) (.tmp 28) 129 129 rfl _ _ _ _ rfl rfl HAP.out ?_))
        go_roundw
        case rel => exact ⟨k + 1, a4, c4, HLT.out, rfl, by have h1 := HQ.out; have h2 := HP.out; exact congrArg (Value.int .i64) (by omega), HO4.out, HG4.out⟩
        case measure =>
          have := HQ.out
          simp [intOf]
          omega
    · have j2 : ¬ (q : Int) ≤ (L : Int) := by omega
      have HE := Lib.hid (show k = N by
        by_cases e : k < N
        · have h2 := (HN.out.all k e).1
          have := HP.out
          omega
        · have := HK.out; omega)
      clear h43 hLp hq
      go_wp2_with fail
      go_ret
      exact ⟨⟨a3, c3, by rw [← HE.out] <;> rfl, by rw [← HE.out]; exact HO.out⟩, HG.out⟩
end Go.Proofs.Ytdagbighlgfhjaa
