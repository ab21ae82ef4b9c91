/-
  Proved: whatever fields, bytes and cut come in, 'WireBack' answers true, and what came in reads afterwards as it read before. Conditions: the arguments can be read as data.
-/
import Derived.Test.YtpkeolggehjjlaaBase
import Derived.Test.YtpkeolggehjjlaaInHead
import Derived.Test.YtpkeolggehjjlaaLawTake
import Derived.Test.YtpkeolggehjjlaaRefTake
import Derived.Test.YtpkeolggehjjlaaRefWireSame
import Derived.Test.YtpkeolggehjjlaaRefWireGreat
import Derived.Test.YtpkeolggehjjlaaKnown08
import Derived.Test.YtpkeolggehjjlaaOwnR
import Derived.Test.YtpkeolggehjjlaaRelKit
import Derived.Test.YtpkeolggehjjlaaRelAll
import Derived.Test.YtpkeolggehjjlaaWireF
import Derived.Test.YtpkeolggehjjlaaRefWire1
import Derived.Test.YtpkeolggehjjlaaJoin1
import Derived.Test.YtpkeolggehjjlaaLawPut
import Derived.Deep.DeepCutAuto
import Derived.Test.YtpkeolggehjjlaaLaw
import Derived.Test.YtpkeolggehjjlaaRows
import Derived.Stop.Joined
import Derived.LaidLaws
import Derived.Deep.Slices
import Derived.Test.YtpkeolggehjjlaaFldsW
import Derived.SizedLaws
namespace Go.Proofs.Ytpkeolggehjjlaa
open Go.RowKit

/-- True, and nothing that was is turned. -/
structure SaysYes (w : World) (e : Ending) (w' : World) : Prop where
  ex : e = .returned (.bool true) ∧ w.grownBy w' none
end Go.Proofs.Ytpkeolggehjjlaa
namespace Go.Proofs.Ytpkeolggehjjlaa
open Go.RowKit

set_option maxRecDepth 100000
set_option maxHeartbeats 4000000

theorem TakenF.like {L : Nat} {F : Nat → Nat} {s : ISt} {x y z : FV} (h : TakenF L F s x y) (k : TakenF L F s x z) : y.Like z where
  k := h.k.trans k.k.symm
  n := h.n.trans k.n.symm
  nb := h.nb.trans k.nb.symm
  fb := fun j hj => (h.fb j hj).trans (k.fb j (by rw [k.nb, ← h.nb]; exact hj)).symm
  nl := h.nl.trans k.nl.symm
  fl := fun j hj => (h.fl j hj).trans (k.fl j (by rw [k.nl, ← h.nl]; exact hj)).symm
theorem FV.Like.str {y z : FV} (h : y.Like z) (hy : y.Ok) (hz : z.Ok) : strOf y.nb y.fb = strOf z.nb z.fb :=
  (strOf_inj _ _ _ _ hy.fb hz.fb).2 ⟨h.nb, h.fb⟩
/-- lent, made and cleared. -/
structure Lent (w : World) (g n cap : Nat) (f : Nat → Nat) (wa : World) : Prop where
  own : OwnR wa g n cap f
  gr : w.grownBy wa none
  new : w.heap.size ≤ g
theorem lent_any (D n c : Nat) (a : Option Addr) (f : Nat → Nat) (w : World) (h : Rd w D a n f) (hn : n ≤ 2 ^ 46) :
    ∃ g cap w', (Builtin.append_ #[28, 28] 28 #[.slice (some ⟨w.heap.size, 0, none⟩) 0 0, .slice a n c]).run Try.prog (w.alloc (.cells #[] 5)) = .ok (.slice (some ⟨g, 0, none⟩) n cap) w' ∧ Lent w g n cap f w' := by
  have ho := ownR_empty w
  have ga := World.grownBy_alloc w (.cells #[] 5) none
  obtain ⟨v', w', hr, ⟨g', cap', rfl, k1, k2, k3, k4⟩⟩ := app_run c 28 ho (h.grown ga (by simp)) (by omega)
  have hz := World.size_alloc w (.cells #[] 5)
  rw [Nat.zero_add] at hr
  refine ⟨g', cap', w', hr, ?_, grown_new ga k3 (Nat.le_refl _), by omega⟩
  have := k1.congr (f' := f) (fun i _ => by unfold cat; rw [if_neg (by omega)]; rfl)
  rwa [Nat.zero_add] at this
theorem wireTakes_any (n0 c0 n1 c1 : Nat) (a0 a1 : Option Addr) (f0 : Nat → Nat) (X1 : Nat → FV) (w : World) (hR : Rd w w.heap.size a0 n0 f0) (hc0 : n0 ≤ c0) (_hn0 : n0 ≤ 140737488355328) (hf : ∀ i, f0 i < 256) (hX : FldsW w w.heap.size a1 n1 X1) (hn1 : n1 ≤ 140737488355328) :
    Calls Try.prog 4 #[.slice a0 n0 c0, .slice a1 n1 c1] w (SaysYes w) := by
  have HK := Lib.hid (known_any w)
  have HX := Lib.hid hX
  have HN := Lib.hid hn1
  have HR := Lib.hid hR
  have HC := Lib.hid hc0
  have HFL := Lib.hid hf
  obtain ⟨D, hD⟩ : ∃ D, D = w.heap.size := ⟨_, rfl⟩
  rw [← hD] at HX HR
  have HD := Lib.hid hD
  clear hX hn1 hR hc0 hf hD
  go_enter Try.func4, Try.ntmps4
  go_wp2_with fail
  go_at_call 6
  refine HK.out.mono ?_
  rintro e w1 ⟨rfl, g1⟩
  have hXW : FldsW w1 D a1 n1 X1 := ⟨fun h0 => by
    obtain ⟨tb, o, e1, e2, e3⟩ := HX.out.ex h0
    exact ⟨tb, o, e1, e2, fun i hi => (e3 i hi).grown g1 (by simp)⟩, fun i hi => (HX.out.mem i hi).grown g1 (by simp), HX.out.ok⟩
  have HG := Lib.hid (refGreat_any D a1 n1 c1 X1 w1 hXW HN.out)
  have G1 := Lib.hid g1
  have HXW := Lib.hid hXW
  have HR1 := Lib.hid (HR.out.grown g1 (by simp))
  clear HK g1 hXW HX HR
  by_cases h20 : 20000 < n0
  · have j20 : (20000 : Int) < (n0 : Int) := by omega
    go_wp2_with fail
    go_at_call 7
    refine HG.out.mono ?_
    rintro e w2 ⟨b, rfl, g2, himp⟩
    have G2 := Lib.hid (grown_trans G1.out g2)
    clear himp g2 HG G1
    cases b with
    | true =>
      go_wp2_with fail
      go_ret
      exact ⟨rfl, G2.out⟩
    | false =>
      go_wp2_with fail
      go_ret
      exact ⟨rfl, G2.out⟩
  have j20 : ¬ (20000 : Int) < (n0 : Int) := by omega
  have HN0 : Hid (n0 ≤ 20000) := by show _ ≤ _; omega
  go_wp2_with fail
  go_at_call 7
  refine HG.out.mono ?_
  rintro e w2 ⟨b, rfl, g2, himp⟩
  have G2 := Lib.hid (grown_trans G1.out g2)
  cases b with
  | true =>
    clear himp g2 HG G1
    go_wp2_with fail
    go_ret
    exact ⟨rfl, G2.out⟩
  | false =>
    obtain ⟨hF, hn3, _⟩ := HXW.out.few (himp rfl)
    have hF2 := hF.grown g2 (by simp)
    obtain ⟨X, hX⟩ : ∃ X, X = cutX n1 X1 := ⟨_, rfl⟩
    rw [← hX] at hF2
    have HF := Lib.hid hF2
    have HN3 : Hid (n1 ≤ 1048576) := by show _ ≤ _; omega
    have HR2 := Lib.hid (HR1.out.grown g2 (by simp))
    obtain ⟨gl, cap, w3, hap, hL3⟩ := lent_any D n0 c0 a0 f0 w2 HR2.out (by have := HN0.out; omega)
    have HAP := Lib.hid hap
    have HL3 := Lib.hid hL3
    have HI := Lib.hid (newInF_any w3.heap.size n0 cap (some ⟨gl, 0, none⟩) f0 w3 hL3.own.rd (by have := HN0.out; omega))
    clear himp g2 HG G1 hF hF2 hn3 hX HXW HN HR1 hap hL3 h20
    go_wp2_with (at_builtin; refine wpList_append_run rfl (.tmp 19) (.tmp 20) 28 28 rfl _ _ _ _ rfl rfl HAP.out ?_)
    go_at_call 12
    refine HI.out.mono ?_
    rintro e w4 ⟨p, rfl, hI4, hp4, g4, _⟩
    have hDl : D ≤ w3.heap.size := by
      have := HD.out; have := G2.out.size; have := HL3.out.gr.size
      omega
    have hF4 := (HF.out.grown HL3.out.gr (by simp)).grown g4 (by simp)
    have HT := Lib.hid (lawTake_any D n1 c1 a1 X hI4 HFL.out hF4 HN3.out (fun g hg => Nat.le_trans hDl (hp4 g hg)) (by have := HN0.out; omega))
    have HP4 := Lib.hid (row_ge hI4 hp4)
    have hne : ∀ g, p = some ⟨g, 0, none⟩ → some g ≠ some gl := fun g hg e => by
      have := hp4 g hg
      have := HL3.out.own.lt
      cases e
      omega
    have HNE := Lib.hid hne
    have HO4 := Lib.hid (HL3.out.own.grown g4 (by simp))
    have HF4 := Lib.hid hF4
    have HR4 := Lib.hid ((HR2.out.grown HL3.out.gr (by simp)).grown g4 (by simp))
    have G4 := Lib.hid (grown_trans (grown_trans G2.out HL3.out.gr) g4)
    have HDG : Hid (D ≤ gl) := by
      have := HD.out; have := G2.out.size; have := HL3.out.new
      show _ ≤ _
      omega
    have HS4 : Hid (w3.heap.size ≤ w4.heap.size ∧ D ≤ w3.heap.size ∧ gl < w3.heap.size) := ⟨g4.size, hDl, HL3.out.own.lt⟩
    clear hI4 hp4 g4 HI HAP hDl hF4 hne HL3 G2 HF HR2
    go_wp2_with fail
    go_at_call 13
    refine HT.out.mono ?_
    rintro e w5 ⟨⟨a5, c5, Y5, rfl, hK5, hT5, hY5⟩, hI5, g5⟩
    have hrow5 : ∀ k, rowP p = some k → w3.heap.size ≤ k := HP4.out
    have hO5 : OwnR w5 gl n0 cap f0 := HO4.out.grown g5 (fun e => by have := hrow5 gl e.symm; have := HS4.out.2.2; omega)
    have hcl := run_clear_bytes (Q := Try.prog) (T := 28) (E := 5) (by kernel_rfl) (fun _ => by kernel_rfl) 0 gl 0 n0 cap (some ⟨gl, 0, none⟩) w5 (fun _ => rfl)
        (fun j hj => by rw [Nat.zero_add, hO5.cell j hj]; rfl) (fun j _ => hO5.free _)
    have g6 : w5.grownBy (w5.setCells gl 0 ((List.range n0).map fun _ => Value.int .u8 (0 : Nat))) (some gl) := grown_setCells gl (Or.inr rfl) _ _ _ (grown_refl w5 (some gl))
    obtain ⟨w6, hw6⟩ : ∃ w6, w6 = w5.setCells gl 0 ((List.range n0).map fun _ => Value.int .u8 (0 : Nat)) := ⟨_, rfl⟩
    rw [← hw6] at g6 hcl
    have hH6 := hI5.head.grown g6 HNE.out
    have hK6 : Kept w6 w4.heap.size w4.heap.size (.slice a5 n1 c5) n1 Y5 := hK5.grown g6 (fun k hk => by
      cases hk
      have := HS4.out
      exact Or.inl ⟨by omega, by omega⟩)
    have hF6 := (HF4.out.grown g5 (fun k hk => by have := hrow5 k hk; have := HS4.out; omega)).grown g6 (fun k hk => by cases hk; exact HDG.out)
    have hR6 := (HR4.out.grown g5 (fun k hk => by have := hrow5 k hk; have := HS4.out; omega)).grown g6 (fun k hk => by cases hk; exact HDG.out)
    have hG6 : w.grownBy w6 none := grown_row (grown_row G4.out g5 (fun k hk => by have := hrow5 k hk; have := HS4.out; have := HD.out; omega)) g6 (fun k hk => by cases hk; have := HDG.out; have := HD.out; omega)
    have HRT := Lib.hid (refTake_any D n0 c0 n1 c1 a0 a1 f0 X w6 hR6 HC.out HFL.out hF6 HN3.out (by have := HN0.out; omega))
    have HCL := Lib.hid hcl
    have HH6 := Lib.hid hH6
    have HK6 := Lib.hid hK6
    have HT5 := Lib.hid hT5
    have HY5 := Lib.hid hY5
    have G6 := Lib.hid hG6
    clear hrow5 hO5 hcl g6 hw6 hH6 hK6 hF6 hR6 hG6 hT5 hY5 hK5 hI5 g5 HT HP4 HNE HO4 HF4 HR4 G4 HDG HS4
    have hcl := HCL.out
    clear HCL
    go_wp2_with fail
    go_at_call 14
    clear hcl
    refine HRT.out.mono ?_
    rintro e w7 ⟨hex, g7⟩
    have HH7 := Lib.hid (HH6.out.grown g7 (by simp))
    have hK7 := HK6.out.grown g7 (fun k hk => by cases hk)
    have G7 := Lib.hid (grown_trans G6.out g7)
    rcases hex with ⟨at', a8, c8, Y8, hst, hat, rfl, hK8, hT8, hY8⟩ | ⟨hst, rfl⟩
    · rw [hst] at HH7
      have hlike : ∀ q, q < n1 → (Y5 q).Like (Y8 q) := fun q hq => (HT5.out q hq).like (hT8 q hq)
      have HSM := Lib.hid (refSame_any w7.heap.size w7.heap.size a5 a8 n1 c5 c8 Y5 Y8 w7 (hK7.flds HY5.out) (hK8.flds hY8) HN3.out hlike (fun q hq => (hlike q hq).str (HY5.out q) (hY8 q)))
      obtain ⟨m, hm⟩ : ∃ m, m = n0 - at' := ⟨_, rfl⟩
      have HM := Lib.hid hm
      rw [← hm]
      have j0 : ¬ (m : Int) < 0 := by omega
      clear hK7 hst hat hK8 hT8 hY8 hlike hm HK6 HT5 HY5 HRT g7 G6 HH6
      go_wp2_with fail
      go_at_call 17
      refine HSM.out.mono ?_
      rintro e w8 ⟨rfl, g8⟩
      have HH8 := HH7.out.grown g8 (by simp)
      have HL := Lib.hid (headLeft_any HH8)
      have HE := Lib.hid (headEnd_any HH8)
      have hc0 : (ISt.good at').code n0 = if 0 < n0 - at' then 9 else 0 := rfl
      have hl0 : (ISt.good at').left n0 = n0 - at' := rfl
      rw [hc0, ← HM.out] at HE
      rw [hl0, ← HM.out] at HL
      have G8 := Lib.hid (grown_trans G7.out g8)
      clear HH8 hc0 hl0 HM HH7 G7 g8 HSM
      by_cases h0 : 0 < m
      · rw [if_pos h0] at HE
        have j2 : ((m : Int) == 0) = false := beq_eq_false_iff_ne.2 (by omega)
        clear h0
        go_wp2_with fail
        go_at_call 15
        refine HL.out.mono ?_
        rintro e w9 ⟨rfl, rfl⟩
        go_wp2_with fail
        go_at_call 16
        refine HE.out.mono ?_
        rintro e w9 ⟨rfl, rfl⟩
        clear HL HE
        go_wp2_with fail
        go_ret
        exact ⟨rfl, G8.out⟩
      · rw [if_neg h0] at HE
        obtain rfl : m = 0 := by omega
        clear h0
        go_wp2_with fail
        go_at_call 15
        refine HL.out.mono ?_
        rintro e w9 ⟨rfl, rfl⟩
        go_wp2_with fail
        go_at_call 16
        refine HE.out.mono ?_
        rintro e w9 ⟨rfl, rfl⟩
        clear HL HE
        go_wp2_with fail
        go_ret
        exact ⟨rfl, G8.out⟩
    · rw [hst] at HH7
      have HL := Lib.hid (headLeft_any HH7.out)
      have HE := Lib.hid (headEnd_any HH7.out)
      have hc0 : ISt.bad.code n0 = 9 := rfl
      have hl0 : ISt.bad.left n0 = 0 := rfl
      rw [hc0] at HE
      rw [hl0] at HL
      clear hK7 hst hc0 hl0 HK6 HT5 HY5 HRT g7 G6 HH6 HH7
      go_wp2_with fail
      go_at_call 15
      refine HL.out.mono ?_
      rintro e w9 ⟨rfl, rfl⟩
      go_wp2_with fail
      go_at_call 16
      refine HE.out.mono ?_
      rintro e w9 ⟨rfl, rfl⟩
      clear HL HE
      go_wp2_with fail
      go_ret
      exact ⟨rfl, G7.out⟩
end Go.Proofs.Ytpkeolggehjjlaa
namespace Go.Proofs.Ytpkeolggehjjlaa
open Go.RowKit

set_option maxRecDepth 100000

/-- Bytes in a slice of their own. -/
def OwnV (n : Nat) (f : Nat → Nat) (x : Value) (W : World) : Prop := ∃ g cap, x = .slice (some ⟨g, 0, none⟩) n cap ∧ OwnR W g n cap f
theorem OwnV.grown {n : Nat} {f : Nat → Nat} {x : Value} {W W' : World} (h : OwnV n f x W) (g : W.grownBy W' none) : OwnV n f x W' := by
  obtain ⟨b, c, h1, h2⟩ := h
  exact ⟨b, c, h1, h2.grown g (by simp)⟩
theorem app_full {w : World} {B g n m : Nat} {a : Option Addr} {f f' : Nat → Nat} (c : Nat) (ty : TypeId) (h : OwnR w g n n f) (hx : Rd w B a m f') (hn : n + m ≤ 2 ^ 46) :
    ∃ v w', (Builtin.append_ #[28, 28] ty #[.slice (some ⟨g, 0, none⟩) n n, .slice a m c]).run Try.prog w = .ok v w' ∧ w.grownBy w' none ∧ OwnV (n + m) (cat n f f') v w' := by
  obtain ⟨i0, hi, hz, hsz, hby⟩ := info_parts info_u8
  have hsrc := src_bytes c hx
  have hl : (bytesOf m f').length = m := bytesOf_length m f'
  rw [← hsz] at hsrc
  by_cases hroom : n + m ≤ n
  · obtain rfl : m = 0 := by omega
    have hr := run_append_room_src w 28 28 ty 5 i0 under_bytes hi g 0 n n (.slice a 0 c) 0 (bytesOf 0 f') hsrc hroom
      (fun j hj => by omega) (fun j _ => h.free _)
    rw [hsz, Nat.zero_add, Nat.mul_one] at hr
    refine ⟨_, _, hr, grown_refl w none, g, n, rfl, ?_⟩
    exact OwnR.congr (f := f) h (fun i hi => (if_pos (by omega)).symm)
  · have hfit : Builtin.nextslicecap (n + m) n * i0.bytes ≤ 281474976710656 := by
      rw [hby]
      have := nextslicecap_le (need := n + m) (old := n) (by omega)
      omega
    have hr := run_append_grow_src w 28 28 ty 5 i0 (.int .u8 0) under_bytes hi hz (some ⟨g, 0, none⟩) n n (bytesOf n f)
      (by
        rw [hsz]
        refine run_firstCells_some w.drew 1 n ⟨g, 0, none⟩ n n (bytesOf n f) (by simp [bytesOf]) (fun j u hj => ?_)
        have hj' : j < n := by
          have := (List.getElem?_eq_some_iff.1 hj).1
          simpa [bytesOf] using this
        rw [bytesOf_get n f j hj'] at hj
        cases hj
        rw [Addr.add_mid, Nat.zero_add]
        exact h.cell j hj')
      (.slice a m c) m (bytesOf m f') hsrc (by omega) (by omega) hfit
    rw [bytesOf_append n m f f' (cat n f f') (fun i hi => by simp [cat, hi]) (fun i hi => by
      unfold cat; rw [if_neg (by omega), show n + i - n = i by omega])] at hr
    have hcg := grownCap_ge w (n + m) n 5
    generalize grownCap w (n + m) n 5 = cap' at *
    have hb := heap_alloc_new w.drew (.cells ((bytesOf (n + m) (cat n f f')).toArray ++ Builtin.zeroCells (Value.cells (.int .u8 0)) (cap' - (n + m))) 5)
    have hb' : w.drew.heap.size = w.heap.size := rfl
    rw [hb'] at hb
    have hg0 := grown_alloc (grown_drew (grown_refl w none)) (.cells ((bytesOf (n + m) (cat n f f')).toArray ++ Builtin.zeroCells (Value.cells (.int .u8 0)) (cap' - (n + m))) 5)
    refine ⟨_, _, hr, hg0, w.heap.size, cap', rfl, ⟨fun i hi => ?_, fun i hi => ?_, fun i => frozen_of_row _ _ _ _ _ hb, hcg, by simp [hb']⟩⟩
    · rw [cell_of_row _ _ _ _ _ _ hb, Array.getElem?_append_left (by simpa [bytesOf] using hi)]
      simpa using bytesOf_get (n + m) (cat n f f') i hi
    · rw [cell_of_row _ _ _ _ _ _ hb, Array.getElem?_eq_getElem (by
        rw [Array.size_append, size_zeroCells]
        simp [bytesOf, Value.cells]; omega)]
      rfl
theorem rel_append {Q : Exit → Act → World → Prop} {o : Oper} {b : Act} {W : World} {K : Act → World → Prop} {R : Value → World → Prop} (s x : Operand) (t t' : TypeId)
    (ho : o.op = .call { callee := .builtin .append, args := #[s, x], argTypes := #[t, t'] }) (vs vx v : Value) (w' : World) (hs : b.eval s = vs) (hx : b.eval x = vx)
    (hrun : (Builtin.append_ #[t, t'] o.type #[vs, vx]).run Try.prog W = .ok v w') (hg : W.grownBy w' none) (hR : R v w') (hK : ∀ v W', W.grownBy W' none → R v W' → K (b.put o.dst v) W') : o.wp Try.prog b W K Q := by
  have h := hK v w' hg hR
  unfold Oper.wp
  simp [execOp, ho, resolve, invoke, builtin, hs, hx, hrun, Result.andThen]
  exact h
end Go.Proofs.Ytpkeolggehjjlaa
namespace Go.Proofs.Ytpkeolggehjjlaa
open Go.RowKit

theorem wanted_is {ops : Array Oper} {o : Oper} {b : Act} {j t : Nat} {v : Bool} (hg : o.guard = some (j, v)) (hd : (ops[j]?).bind (·.dst) = some t) (h : slotv b t = .bool v) : Region.wanted o (yielded ops b.tmps) = true := by
  have h1 : b.tmps[t]? = some (.bool v) := by
    unfold slotv at h
    cases e : b.tmps[t]? with
    | none => rw [e] at h; cases h
    | some v => rw [e] at h; exact congrArg some h
  unfold Region.wanted yielded
  simp [hg, hd, h1]
theorem wanted_not {ops : Array Oper} {o : Oper} {b : Act} {j t : Nat} {v : Bool} (hg : o.guard = some (j, !v)) (hd : (ops[j]?).bind (·.dst) = some t) (h : slotv b t = .bool v) : Region.wanted o (yielded ops b.tmps) = false := by
  have h1 : b.tmps[t]? = some (.bool v) := by
    unfold slotv at h
    cases e : b.tmps[t]? with
    | none => rw [e] at h; cases h
    | some v => rw [e] at h; exact congrArg some h
  unfold Region.wanted yielded
  cases v <;> simp [hg, hd, h1]
theorem wpOp_skip {P : Program} {ops : Array Oper} {Q : Exit → Act → World → Prop} {i : Nat} {o : Oper} {a : Act} {w : World} {K : Act → World → Prop} (ho : ops[i]? = some o) (hw : Region.wanted o (yielded ops a.tmps) = false) (h : K (a.put o.dst undef) w) : wpOp P ops Q i K a w := by
  unfold wpOp
  rw [ho]
  simp only [hw]
  exact h
/-- What an operation does, where it may come up. -/
def RelStepC (P : Program) (ops : Array Oper) (Q : Exit → Act → World → Prop) (a : Act) (w0 : World) (al : Nat → Bool) (R : Nat → Value → World → Prop) (n : Nat) (d : Nat → Nat) (dep : Nat → List Nat) (i : Nat) : Prop :=
  ∃ o, ops[i]? = some o ∧ o.dst = some (d i) ∧ ∀ (b : Act) (W : World), (∀ t, (∀ k, k < n → t ≠ d k) → slotv b t = slotv a t) → w0.grownBy W none → (∀ j, j ∈ dep i → R j (slotv b (d j)) W) →
    ∀ K : Act → World → Prop, (∀ v W', W.grownBy W' none → R i v W' → (al i = true → ∀ B, v = .pointer (some ⟨B, 0, none⟩) → W.heap.size ≤ B) → K (b.put o.dst v) W') → wpOp P ops Q i K b W
section
variable {P : Program} {ops : Array Oper} {Q : Exit → Act → World → Prop} {a : Act} {w0 : World} {R : Nat → Value → World → Prop} {al : Nat → Bool}
theorem rel_steps_c (S : World → Prop) (hS : ∀ W, w0.grownBy W none → S W) (n r : Nat) (d : Nat → Nat) (dep : Nat → List Nat) (hsz : ops.size = n + r) (hb : backB ops = true) (hs : Region.sinkB .any ops n = true) (hch : Region.chainB .any ops n = true) (hr : 0 < r)
    (hdp : depB ops dep = true) (hd : ∀ k, k < n → d k < a.tmps.size) (hinj : ∀ i k, i < n → k < n → d i = d k → i = k)
    (hmono : ∀ k v W W', k < n → R k v W → W.grownBy W' none → R k v W') (hal : ∀ k v W, k < n → al k = true → R k v W → ∃ B, v = .pointer (some ⟨B, 0, none⟩) ∧ B < W.heap.size) (hstep : ∀ i, i < n → RelStepC P ops Q a w0 al R n d dep i) (hlt : ∀ i, i < n → ∀ j, j ∈ dep i → j < n)
    (hfin : ∀ ls b W, (∀ k, k < n → ls.getD k true = true) → RelAl a w0 al d n r R ops ls b W → wpAnyH P .any ops Q S r ls b W) :
    ∀ (m : Nat) (ls : Array Bool) (b : Act) (W : World), m = cntU ls n → RelAl a w0 al d n r R ops ls b W → wpAnyH P .any ops Q S (m + r) ls b W
  | 0, ls, b, W, hm, h => by
    rw [Nat.zero_add]
    exact hfin ls b W (cntU_zero n hm.symm) h
  | m + 1, ls, b, W, hm, h => by
    rw [Nat.add_right_comm]
    obtain ⟨i0, q1, q2, q3⟩ := first_un n (by omega : cntU ls n ≠ 0)
    refine ⟨fun he => ?_, fun i hi => ?_⟩
    · have hio : i0 < ops.size := by omega
      have : i0 ∈ Region.ready .any ops ls := mem_ready.2 ⟨q2, ops[i0], by simp [hio], fun e he' hbd => by
        have := backB_at hb (by simp [hio] : ops[i0]? = some ops[i0]) hio e he' hbd
        exact getD_tt (by rw [h.lsz]; omega) true false (q3 _ this)⟩
      rw [he] at this
      cases this
    · obtain ⟨hun, y, hy, hall⟩ := mem_ready.1 hi
      have hio : i < ops.size := (Array.getElem?_eq_some_iff.1 hy).1
      have hin : i < n := Nat.lt_of_not_le fun hge => tail_waits hs hch (by omega) h.inv _ i0 rfl q1 q2 i hge hi
      have hils : i < ls.size := by rw [h.lsz]; omega
      obtain ⟨o, ho, hdo, hw0⟩ := hstep i hin
      obtain rfl : y = o := by rw [hy] at ho; exact Option.some.inj ho
      refine hw0 b W h.rest h.gr (fun j hj => by
        obtain ⟨e, he, hbd, rfl⟩ := depB_at hdp hy hio hj
        exact h.has _ (hlt i hin _ hj) (getD_tt (by have := hlt i hin _ hj; rw [h.lsz]; omega) false true (hall e he hbd))) _ (fun v W' g hR hfr => ?_)
      · have hgr := grown_trans h.gr g
        rw [hdo]
        refine ⟨hS _ hgr, rel_steps_c S hS n r d dep hsz hb hs hch hr hdp hd hinj hmono hal hstep hlt hfin m _ _ W' ?_ ?_⟩
        · have := cntU_set hils hun n hin
          omega
        · have hdb : d i < b.tmps.size := by rw [h.size]; exact hd i hin
          refine ⟨h.defers, by simp [Act.put, h.size], fun t ht => ?_, fun k hk hl => ?_, hgr, by simp [h.lsz], h.inv.set hi hin, ?_⟩
          · rw [slotv_put _ _ _ _ hdb, if_neg (ht i hin)]
            exact h.rest t ht
          · rw [slotv_put _ _ _ _ hdb]
            by_cases e : k = i
            · subst e
              rw [if_pos rfl]
              exact hR
            · rw [if_neg (fun e' => e (hinj k i hk hin e'))]
              rw [getD_set_ne true (Ne.symm e)] at hl
              exact hmono k _ W W' hk (h.has k hk hl) g
          · intro p q hp hq hne a1 a2 l1 l2
            rw [slotv_put _ _ _ _ hdb, slotv_put _ _ _ _ hdb]
            by_cases e1 : p = i
            · subst e1
              have e2 : q ≠ p := fun e => hne e.symm
              rw [if_pos rfl, if_neg (fun e' => e2 (hinj q p hq hin e'))]
              rw [getD_set_ne true (Ne.symm e2)] at l2
              obtain ⟨B, hB, hlt2⟩ := hal q _ W hq a2 (h.has q hq l2)
              rw [hB]
              intro e
              have := hfr a1 B e
              omega
            · rw [if_neg (fun e' => e1 (hinj p i hp hin e'))]
              rw [getD_set_ne true (Ne.symm e1)] at l1
              by_cases e2 : q = i
              · subst e2
                rw [if_pos rfl]
                obtain ⟨B, hB, hlt2⟩ := hal p _ W hp a1 (h.has p hp l1)
                rw [hB]
                intro e
                have := hfr a2 B e.symm
                omega
              · rw [if_neg (fun e' => e2 (hinj q i hq hin e'))]
                rw [getD_set_ne true (Ne.symm e2)] at l2
                exact h.apart p q hp hq hne a1 a2 l1 l2
/-- The head in whatever order; then the tail, which keeps S. -/
theorem wp_region_rel_c {id : Nat} {w : World} (S : World → Prop) (hS : ∀ W, w.grownBy W none → S W) (al : Nat → Bool) (R : Nat → Value → World → Prop) (n r : Nat) (d : Nat → Nat) (dep : Nat → List Nat) (hm : P.follows .mixedOrders = true) (hsz : ops.size = n + r) (hb : backB ops = true) (hs : Region.sinkB .any ops n = true) (hch : Region.chainB .any ops n = true) (hr : 0 < r) (hdp : depB ops dep = true)
    (m : Nat) (hsm : a.tmps.size = m) (hd : ∀ k, k < n → d k < m) (hinj0 : ∀ i, i < n → ∀ k, k < n → d i = d k → i = k) (hlt : ∀ i, i < n → ∀ j, j ∈ dep i → j < n)
    (hmono : ∀ k v W W', k < n → R k v W → W.grownBy W' none → R k v W') (hal : ∀ k v W, k < n → al k = true → R k v W → ∃ B, v = .pointer (some ⟨B, 0, none⟩) ∧ B < W.heap.size) (hstep : ∀ i, i < n → RelStepC P ops Q a w al R n d dep i)
    (hfin : ∀ vals W, w.grownBy W none → (∀ k, k < n → R k (vals k) W) → (∀ i k, i < n → k < n → i ≠ k → al i = true → al k = true → vals i ≠ vals k) → wpAnyH P .any ops Q S r (headL n r) (putsN a d vals n) W) : (Code.region id ops true).wp P Q a w := by
  subst hsm
  have hinj : ∀ i k, i < n → k < n → d i = d k → i = k := fun i k h1 h2 => hinj0 i h1 k h2
  refine wp_region_held (S := S) hm ?_
  show wpAnyH P .any ops Q _ ops.size (Array.replicate ops.size false) a w.drew
  have hc : ∀ k, k ≤ ops.size → cntU (Array.replicate ops.size false) k = k := fun k => by
    induction k with
    | zero => intro _; rfl
    | succ k ih =>
      intro hk
      show cntU _ k + _ = _
      rw [ih (by omega), getD_in (by simp; omega) (getD_replicate_false _ _)]
      rfl
  have H := rel_steps_c (R := R) (al := al) (w0 := w) S hS n r d dep hsz hb hs hch hr hdp hd hinj hmono hal hstep hlt (fun ls b W hall h => ?_) n (Array.replicate ops.size false) a w.drew (hc n (by omega)).symm
    ⟨rfl, rfl, fun _ _ => rfl, fun k hk hl => (by rw [getD_in (by simp; omega) (getD_replicate_false _ _)] at hl; cases hl), grown_drew (grown_refl _ _), by simp [hsz], ⟨by simp, fun j y _ hl => (by rw [getD_replicate_false] at hl; cases hl), fun t _ ht => getD_in (by simpa using ht) (getD_replicate_false _ _)⟩, fun i k hi _ _ _ _ hl _ => (by rw [getD_in (by simp; omega) (getD_replicate_false _ _)] at hl; cases hl)⟩
  · rw [hsz] at H ⊢
    exact H
  · have he : b = putsN a d (fun k => slotv b (d k)) n := by
      refine act_ext (h.defers.trans (putsN_defers a d _ n).symm) (h.size.trans (putsN_size a d _ n).symm) fun t _ => ?_
      by_cases e : ∃ k, k < n ∧ t = d k
      · obtain ⟨k, hk, rfl⟩ := e
        exact (putsN_at a d (fun k => slotv b (d k)) n hd hinj k hk).symm
      · have e' : ∀ k, k < n → t ≠ d k := fun k hk h => e ⟨k, hk, h⟩
        rw [h.rest t e', putsN_rest a d _ n hd t e']
    have hl : ls = headL n r := by
      refine Array.ext (by simp [headL, h.lsz]) fun i h1 h2 => ?_
      have hi : i < n + r := by rw [← h.lsz]; exact h1
      by_cases e : i < n
      · have h3 := hall i e
        simp only [Array.getD_eq_getD_getElem?, Array.getElem?_eq_getElem h1, Option.getD_some] at h3
        rw [h3]
        simp [headL, e]
      · have h3 := h.inv.tail i (by omega) (by omega)
        simp only [Array.getD_eq_getD_getElem?, Array.getElem?_eq_getElem h1, Option.getD_some] at h3
        rw [h3]
        simp [headL, List.getElem_append, e]
    rw [he, hl]
    exact hfin _ W h.gr (fun k hk => h.has k hk (hall k hk)) (fun i k hi hk hne a1 a2 => h.apart i k hi hk hne a1 a2 (hall i hi) (hall k hk))
end
end Go.Proofs.Ytpkeolggehjjlaa
namespace Go.Proofs.Ytpkeolggehjjlaa
open Go.RowKit

set_option maxRecDepth 100000
set_option maxHeartbeats 4000000

/-- How many bytes a field has. -/
def oneN (k nb nl : Nat) : Nat := if k = 0 then 1 else if k = 1 then 4 else if k = 2 then 8 else if k = 3 then 1 else if k = 4 then nb else if k = 5 then 2 + nb else if k = 6 then 2 + 4 * nl else 0
/-- The list's bytes. -/
def lstB (fl : Nat → Nat) (i : Nat) : Nat := nbF (fl (i / 4)) 4 (i % 4)
/-- They. -/
def oneF (k n nb : Nat) (fb : Nat → Nat) (nl : Nat) (fl : Nat → Nat) : Nat → Nat :=
  if k = 0 then nbF (n % 256) 1 else if k = 1 then nbF (n % 4294967296) 4 else if k = 2 then nbF n 8 else if k = 3 then fun _ => if n = 0 then 0 else 1 else if k = 4 then fb
  else if k = 5 then cat 2 (nbF nb 2) fb else if k = 6 then cat 2 (nbF nl 2) (lstB fl) else fun _ => 0
/-- Nothing is wrong. -/
def oneOk (k nb nl : Nat) (m : Int) : Bool := if k = 5 then decide ((nb : Int) ≤ m) && decide (nb < 65536) else if k = 6 then decide ((nl : Int) ≤ m) && decide (nl < 65536) else true
structure OneSays (w : World) (N : Nat) (f : Nat → Nat) (ok : Bool) (e : Ending) (w' : World) : Prop where
  ex : ∃ a c, e = .returned (.tuple #[.slice a N c, .bool ok]) ∧ Rd w' w'.heap.size a N f
  gr : w.grownBy w' none
theorem GaveF.v {w : World} {n : Nat} {f : Nat → Nat} {e : Ending} {w' : World} (hn : 0 < n) (h : GaveF w n f e w') : ∃ v, e = .returned v ∧ w.grownBy w' none ∧ ∃ g, v = .slice (some ⟨g, 0, none⟩) n n ∧ OwnR w' g n n f := by
  obtain ⟨⟨b, h1, h2, h3⟩, h4⟩ := h
  exact ⟨_, h1, h4, b, rfl, h3.own hn⟩

theorem GaveF.v2 {w : World} {n : Nat} {f : Nat → Nat} {e : Ending} {w' : World} (hn : 0 < n) (h : GaveF w n f e w') : ∃ g, e = .returned (.slice (some ⟨g, 0, none⟩) n n) ∧ w.heap.size ≤ g ∧ OwnR w' g n n f ∧ w.grownBy w' none := by
  obtain ⟨⟨b, h1, h2, h3⟩, h4⟩ := h
  exact ⟨b, h1, h2, h3.own hn, h4⟩
theorem lst_next (nl i x : Nat) (fl : Nat → Nat) (hx : x = fl i) (j : Nat) (hj : j < 2 + 4 * i + 4) : cat (2 + 4 * i) (cat 2 (nbF nl 2) (lstB fl)) (nbF x 4) j = cat 2 (nbF nl 2) (lstB fl) j := by
  unfold cat
  by_cases e : j < 2 + 4 * i
  · rw [if_pos e]
  · rw [if_neg e, if_neg (by omega)]
    unfold lstB
    rw [show (j - 2) / 4 = i by omega, show (j - 2) % 4 = j - (2 + 4 * i) by omega, hx]
/-- Bytes in a slice that is full. -/
def FullV (n : Nat) (f : Nat → Nat) (x : Value) (W : World) : Prop := ∃ g, x = .slice (some ⟨g, 0, none⟩) n n ∧ OwnR W g n n f
theorem FullV.grown {n : Nat} {f : Nat → Nat} {x : Value} {W W' : World} (h : FullV n f x W) (g : W.grownBy W' none) : FullV n f x W' := by
  obtain ⟨b, h1, h2⟩ := h
  exact ⟨b, h1, h2.grown g (by simp)⟩

theorem refOne_any (k n nb cb nl cl : Nat) (ab al : Option Addr) (fb fl : Nat → Nat) (m : Int) (D : Nat) (w : World) (hk : k < 256) (hn : n < 18446744073709551616) (hnb : nb ≤ 1048576) (hnl : nl ≤ 1048576) (hfl : ∀ i, fl i < 4294967296) (m0 : -9223372036854775808 ≤ m) (m1 : m < 9223372036854775808)
    (hD : D ≤ w.heap.size) (hb : Rd w D ab nb fb) (hl : RdL w D al nl fl) :
    Calls Try.prog 30 #[.agg #[.int .u8 k, .int .u64 n, .slice ab nb cb, .slice al nl cl, .int .i64 m]] w (OneSays w (oneN k nb nl) (oneF k n nb fb nl fl) (oneOk k nb nl m)) := by
  have hF := FAt.new ⟨k, n, ab, nb, cb, fun _ => 0, al, nl, cl, fun _ => 0, m⟩ w
  have c0 : (w.alloc (.cells #[.int .u8 k, .int .u64 n, .slice ab nb cb, .slice al nl cl, .int .i64 m] 54)).cell? ⟨w.heap.size, 0, none⟩ = some (.int .u8 k) := hF.c0
  have c1 : (w.alloc (.cells #[.int .u8 k, .int .u64 n, .slice ab nb cb, .slice al nl cl, .int .i64 m] 54)).cell? ⟨w.heap.size, 1, none⟩ = some (.int .u64 n) := hF.c1
  have c2 : (w.alloc (.cells #[.int .u8 k, .int .u64 n, .slice ab nb cb, .slice al nl cl, .int .i64 m] 54)).cell? ⟨w.heap.size, 2, none⟩ = some (.slice ab nb cb) := hF.c2
  have c3 : (w.alloc (.cells #[.int .u8 k, .int .u64 n, .slice ab nb cb, .slice al nl cl, .int .i64 m] 54)).cell? ⟨w.heap.size, 3, none⟩ = some (.slice al nl cl) := hF.c3
  have c4 : (w.alloc (.cells #[.int .u8 k, .int .u64 n, .slice ab nb cb, .slice al nl cl, .int .i64 m] 54)).cell? ⟨w.heap.size, 4, none⟩ = some (.int .i64 m) := hF.c4
  have gr := World.grownBy_alloc w (.cells #[.int .u8 k, .int .u64 n, .slice ab nb cb, .slice al nl cl, .int .i64 m] 54) none
  have hB := hb.grown gr (fun k e => by cases e)
  have hL := hl.grown gr (fun k e => by cases e)
  have hDz : D ≤ (w.alloc (.cells #[.int .u8 k, .int .u64 n, .slice ab nb cb, .slice al nl cl, .int .i64 m] 54)).heap.size := by rw [World.size_alloc]; omega
  clear hF hb hl
  go_enter Try.func30, Try.ntmps30
  go_upto_region 1 with fail
  generalize w.alloc (.cells #[.int .u8 k, .int .u64 n, .slice ab nb cb, .slice al nl cl, .int .i64 m] 54) = w1 at *
  obtain ⟨B, hBw⟩ : ∃ B, B = w.heap.size := ⟨_, rfl⟩
  simp only [← hBw] at c0 c1 c2 c3 c4 ⊢
  have HBw := Lib.hid hBw
  have HD := Lib.hid hD
  have C1 := Lib.hid c1
  have C2 := Lib.hid c2
  have C3 := Lib.hid c3
  have C4 := Lib.hid c4
  have M0 := Lib.hid m0
  have M1 := Lib.hid m1
  have HN := Lib.hid hn
  have HNB := Lib.hid hnb
  have HNL := Lib.hid hnl
  have HFL := Lib.hid hfl
  have HZ := Lib.hid hDz
  clear hBw hD c1 c2 c3 c4 m0 m1 hn hnb hnl hfl hDz
  by_cases e0 : k = 0
  · as_aux_lemma =>
    subst e0
    obtain ⟨q, hq⟩ : ∃ q, q = n % 256 := ⟨_, rfl⟩
    have x0 : (n : Int) % 256 = (q : Int) := by omega
    have x1 : (n : Int).tmod 256 = (q : Int) := by rw [Int.tmod_eq_emod_of_nonneg (by omega)]; omega
    have l0 : (q : Int) < 256 := by omega
    have c1 := C1.out
    have HC := Lib.hid (refNumber_any q 1 (by have := HN.out; omega) (by decide) (by decide))
    have HQ := Lib.hid hq
    clear hq
    go_wp2_with fail
    go_at_call 48
    refine (HC.out _).mono ?_
    intro e V h
    obtain ⟨v, rfl, g, b, rfl, ho⟩ := h.v (by decide)
    have hr := ho.rd
    rw [HQ.out] at hr
    have HR := Lib.hid hr
    have gw := grown_trans gr g
    clear h g ho c0 c1 HC gr hB hL hr
    go_wp2_with fail
    go_ret2
    exact ⟨⟨_, _, rfl, HR.out⟩, gw⟩
  by_cases e1 : k = 1
  · as_aux_lemma =>
    subst e1
    obtain ⟨q, hq⟩ : ∃ q, q = n % 4294967296 := ⟨_, rfl⟩
    have x0 : (n : Int) % 4294967296 = (q : Int) := by omega
    have x1 : (n : Int).tmod 4294967296 = (q : Int) := by rw [Int.tmod_eq_emod_of_nonneg (by omega)]; omega
    have c1 := C1.out
    have HC := Lib.hid (refNumber_any q 4 (by have := HN.out; omega) (by decide) (by decide))
    have HQ := Lib.hid hq
    clear hq
    go_wp2_with fail
    go_at_call 48
    refine (HC.out _).mono ?_
    intro e V h
    obtain ⟨v, rfl, g, b, rfl, ho⟩ := h.v (by decide)
    have hr := ho.rd
    rw [HQ.out] at hr
    have HR := Lib.hid hr
    have gw := grown_trans gr g
    clear h g ho c0 c1 HC gr hB hL hr
    go_wp2_with fail
    go_ret2
    exact ⟨⟨_, _, rfl, HR.out⟩, gw⟩
  by_cases e2 : k = 2
  · as_aux_lemma =>
    subst e2
    obtain ⟨q, hq⟩ : ∃ q, q = n := ⟨_, rfl⟩
    have c1 := C1.out
    rw [← hq] at c1
    have HC := Lib.hid (refNumber_any q 8 (by have := HN.out; omega) (by decide) (by decide))
    have HQ := Lib.hid hq
    clear hq
    go_wp2_with fail
    go_at_call 48
    refine (HC.out _).mono ?_
    intro e V h
    obtain ⟨v, rfl, g, b, rfl, ho⟩ := h.v (by decide)
    have hr := ho.rd
    rw [HQ.out] at hr
    have HR := Lib.hid hr
    have gw := grown_trans gr g
    clear h g ho c0 c1 HC gr hB hL hr
    go_wp2_with fail
    go_ret2
    exact ⟨⟨_, _, rfl, HR.out⟩, gw⟩
  by_cases e3 : k = 3
  · as_aux_lemma =>
    subst e3
    have c1 := C1.out
    by_cases en : n = 0
    · have HFN := Lib.hid (show oneF 3 n nb fb nl fl = (fun _ => 0) from funext fun _ => if_pos en)
      have b1 : ((n : Int) != 0) = false := by simp [en]
      clear en
      have hb1 := heap_alloc_new w1 (.cells #[.int .u8 0] 5)
      have ga := World.grownBy_alloc w1 (.cells #[.int .u8 0] 5) none
      have hR : Rd (w1.alloc (.cells #[.int .u8 0] 5)) (w1.alloc (.cells #[.int .u8 0] 5)).heap.size (some ⟨w1.heap.size, 0, none⟩) 1 (fun _ => 0) := ⟨fun _ => ⟨w1.heap.size, 0, rfl, by rw [World.size_alloc]; omega, fun i hi => by
        obtain rfl : i = 0 := by omega
        rw [cell_of_row _ _ _ _ _ _ hb1]; rfl⟩⟩
      have gw := grown_trans gr ga
      have HR := Lib.hid hR
      have GW := Lib.hid gw
      clear hb1 ga hR gw gr hB hL
      go_wp2_with fail
      go_ret2
      exact ⟨⟨_, _, rfl, by rw [HFN.out]; exact HR.out⟩, GW.out⟩
    · have HFN := Lib.hid (show oneF 3 n nb fb nl fl = (fun _ => 1) from funext fun _ => if_neg en)
      have b1 : ((n : Int) != 0) = true := by simp [en]
      clear en
      have hb1 := heap_alloc_new w1 (.cells #[.int .u8 1] 5)
      have ga := World.grownBy_alloc w1 (.cells #[.int .u8 1] 5) none
      have hR : Rd (w1.alloc (.cells #[.int .u8 1] 5)) (w1.alloc (.cells #[.int .u8 1] 5)).heap.size (some ⟨w1.heap.size, 0, none⟩) 1 (fun _ => 1) := ⟨fun _ => ⟨w1.heap.size, 0, rfl, by rw [World.size_alloc]; omega, fun i hi => by
        obtain rfl : i = 0 := by omega
        rw [cell_of_row _ _ _ _ _ _ hb1]; rfl⟩⟩
      have gw := grown_trans gr ga
      have HR := Lib.hid hR
      have GW := Lib.hid gw
      clear hb1 ga hR gw gr hB hL
      go_wp2_with fail
      go_ret2
      exact ⟨⟨_, _, rfl, by rw [HFN.out]; exact HR.out⟩, GW.out⟩
  by_cases e4 : k = 4
  · as_aux_lemma =>
    subst e4
    have c2 := C2.out
    have HR := Lib.hid (Rd.mono hB HZ.out)
    clear hB hL
    go_wp2_with fail
    go_ret2
    exact ⟨⟨_, _, rfl, HR.out⟩, gr⟩
  by_cases e5 : k = 5
  · as_aux_lemma =>
    subst e5
    have hwb : IntKind.u64.wrap (nb : Int) = (nb : Int) := by rw [IntKind.wrap_u64]; have := HNB.out; omega
    have kb : (nb : Int) ≤ 1048576 := by have := HNB.out; omega
    obtain ⟨b2, hb2⟩ : ∃ b, b = decide ((nb : Int) < 65536) := ⟨_, rfl⟩
    go_upto_region 15 with fail
    by_cases hb1 : (nb : Int) ≤ m
    · have HO := Lib.hid (show oneOk 5 nb nl m = b2 by
        show (decide ((nb : Int) ≤ m) && decide (nb < 65536)) = b2
        rw [decide_eq_true hb1, Bool.true_and, hb2]
        exact decide_eq_decide.2 (by omega))
      replace hb2 := hb2.symm
      clear c0
      refine wp_region_rel_c (fun W => w1.grownBy W none) (fun _ h => h) (alL []) (relL [fun vv _ => vv = .pointer (some ⟨B, 2, none⟩), fun vv _ => vv = .slice ab nb cb, fun vv _ => vv = .int .i64 (nb : Nat), fun vv _ => vv = .int .u64 (nb : Nat), FullV 2 (nbF nb 2), fun vv _ => vv = .pointer (some ⟨B, 2, none⟩), fun vv _ => vv = .slice ab nb cb, OwnV (2 + nb) (cat 2 (nbF nb 2) fb), fun vv _ => vv = .pointer (some ⟨B, 2, none⟩), fun vv _ => vv = .slice ab nb cb, fun vv _ => vv = .int .i64 (nb : Nat), fun vv _ => vv = .pointer (some ⟨B, 4, none⟩), fun vv _ => vv = .int .i64 m, fun vv _ => vv = .bool true, fun vv _ => vv = .bool true, fun vv _ => vv = .pointer (some ⟨B, 2, none⟩), fun vv _ => vv = .slice ab nb cb, fun vv _ => vv = .int .i64 (nb : Nat), fun vv _ => vv = .bool b2, fun vv _ => vv = .bool b2, OwnV (2 + nb) (cat 2 (nbF nb 2) fb)])
        21 1 (atL [38, 39, 40, 41, 42, 43, 44, 45, 46, 47, 48, 49, 50, 51, 52, 53, 54, 55, 56, 57, 2]) (depL [[], [0], [1], [2], [3], [], [5], [4, 6], [], [8], [9], [], [11], [10, 12], [13], [14], [15, 14], [16, 14], [17, 14], [14, 18], [7]]) (by kernel_rfl) rfl (by kernel_rfl) (by kernel_rfl) (by kernel_rfl) (by decide) (by kernel_rfl) 94 rfl (by decide) (by decide) (by decide) ?mono15true ?al15true ?step15true ?fin15true
      case mono15true =>
        intro k x W W' hk h g
        obtain rfl | rfl | rfl | rfl | rfl | rfl | rfl | rfl | rfl | rfl | rfl | rfl | rfl | rfl | rfl | rfl | rfl | rfl | rfl | rfl | rfl : k = 0 ∨ k = 1 ∨ k = 2 ∨ k = 3 ∨ k = 4 ∨ k = 5 ∨ k = 6 ∨ k = 7 ∨ k = 8 ∨ k = 9 ∨ k = 10 ∨ k = 11 ∨ k = 12 ∨ k = 13 ∨ k = 14 ∨ k = 15 ∨ k = 16 ∨ k = 17 ∨ k = 18 ∨ k = 19 ∨ k = 20 := by omega
        · exact h
        · exact h
        · exact h
        · exact h
        · exact FullV.grown h g
        · exact h
        · exact h
        · exact OwnV.grown h g
        · exact h
        · exact h
        · exact h
        · exact h
        · exact h
        · exact h
        · exact h
        · exact h
        · exact h
        · exact h
        · exact h
        · exact h
        · exact OwnV.grown h g
      case al15true =>
        intro k x W hk e h
        obtain rfl | rfl | rfl | rfl | rfl | rfl | rfl | rfl | rfl | rfl | rfl | rfl | rfl | rfl | rfl | rfl | rfl | rfl | rfl | rfl | rfl : k = 0 ∨ k = 1 ∨ k = 2 ∨ k = 3 ∨ k = 4 ∨ k = 5 ∨ k = 6 ∨ k = 7 ∨ k = 8 ∨ k = 9 ∨ k = 10 ∨ k = 11 ∨ k = 12 ∨ k = 13 ∨ k = 14 ∨ k = 15 ∨ k = 16 ∨ k = 17 ∨ k = 18 ∨ k = 19 ∨ k = 20 := by omega
        · exact absurd e (by decide)
        · exact absurd e (by decide)
        · exact absurd e (by decide)
        · exact absurd e (by decide)
        · exact absurd e (by decide)
        · exact absurd e (by decide)
        · exact absurd e (by decide)
        · exact absurd e (by decide)
        · exact absurd e (by decide)
        · exact absurd e (by decide)
        · exact absurd e (by decide)
        · exact absurd e (by decide)
        · exact absurd e (by decide)
        · exact absurd e (by decide)
        · exact absurd e (by decide)
        · exact absurd e (by decide)
        · exact absurd e (by decide)
        · exact absurd e (by decide)
        · exact absurd e (by decide)
        · exact absurd e (by decide)
        · exact absurd e (by decide)
      case step15true =>
        intro k hk
        obtain rfl | rfl | rfl | rfl | rfl | rfl | rfl | rfl | rfl | rfl | rfl | rfl | rfl | rfl | rfl | rfl | rfl | rfl | rfl | rfl | rfl : k = 0 ∨ k = 1 ∨ k = 2 ∨ k = 3 ∨ k = 4 ∨ k = 5 ∨ k = 6 ∨ k = 7 ∨ k = 8 ∨ k = 9 ∨ k = 10 ∨ k = 11 ∨ k = 12 ∨ k = 13 ∨ k = 14 ∨ k = 15 ∨ k = 16 ∨ k = 17 ∨ k = 18 ∨ k = 19 ∨ k = 20 := by omega
        · refine ⟨_, rfl, rfl, fun b W hs hg hD K hK0 => ?_⟩
          refine wpOp_at rfl (wanted_of rfl) ?_
          have hK := fun v W' g h => hK0 v W' g h (fun e => absurd e (by decide))
          have h0 : b.tmps[1]?.getD undef = .pointer (some ⟨B, 0, none⟩) := (hs 1 (by decide))
          exact rel_val (v := .pointer (some ⟨B, 2, none⟩)) (by unfold execOp; go_simp) rfl hK
        · refine ⟨_, rfl, rfl, fun b W hs hg hD K hK0 => ?_⟩
          refine wpOp_at rfl (wanted_of rfl) ?_
          have hK := fun v W' g h => hK0 v W' g h (fun e => absurd e (by decide))
          have h0 : b.tmps[38]?.getD undef = .pointer (some ⟨B, 2, none⟩) := (hD 0 (by decide))
          exact rel_val (v := .slice ab nb cb) (by have cc := hg.cell C2.out (by simp); unfold execOp; go_simp) rfl hK
        · refine ⟨_, rfl, rfl, fun b W hs hg hD K hK0 => ?_⟩
          refine wpOp_at rfl (wanted_of rfl) ?_
          have hK := fun v W' g h => hK0 v W' g h (fun e => absurd e (by decide))
          have h0 : b.tmps[39]?.getD undef = .slice ab nb cb := (hD 1 (by decide))
          exact rel_val (v := .int .i64 (nb : Nat)) (by unfold execOp; go_simp) rfl hK
        · refine ⟨_, rfl, rfl, fun b W hs hg hD K hK0 => ?_⟩
          refine wpOp_at rfl (wanted_of rfl) ?_
          have hK := fun v W' g h => hK0 v W' g h (fun e => absurd e (by decide))
          have h0 : b.tmps[40]?.getD undef = .int .i64 (nb : Nat) := (hD 2 (by decide))
          exact rel_val (v := .int .u64 (nb : Nat)) (by unfold execOp; go_simp) rfl hK
        · refine ⟨_, rfl, rfl, fun b W hs hg hD K hK0 => ?_⟩
          refine wpOp_at rfl (wanted_of rfl) ?_
          have hK := fun v W' g h => hK0 v W' g h (fun e => absurd e (by decide))
          refine rel_call 48 _ (exec_fn2 _ _ _ _ _ rfl ((eval_slot b 41).trans (hD 3 (by decide))) rfl) (fun _ _ => rfl) ?_ hK
          exact (refNumber_any nb 2 (by have := HNB.out; omega) (by decide) (by decide) W).mono fun e w' h => h.v (by decide)
        · refine ⟨_, rfl, rfl, fun b W hs hg hD K hK0 => ?_⟩
          refine wpOp_at rfl (wanted_of rfl) ?_
          have hK := fun v W' g h => hK0 v W' g h (fun e => absurd e (by decide))
          have h0 : b.tmps[1]?.getD undef = .pointer (some ⟨B, 0, none⟩) := (hs 1 (by decide))
          exact rel_val (v := .pointer (some ⟨B, 2, none⟩)) (by unfold execOp; go_simp) rfl hK
        · refine ⟨_, rfl, rfl, fun b W hs hg hD K hK0 => ?_⟩
          refine wpOp_at rfl (wanted_of rfl) ?_
          have hK := fun v W' g h => hK0 v W' g h (fun e => absurd e (by decide))
          have h0 : b.tmps[43]?.getD undef = .pointer (some ⟨B, 2, none⟩) := (hD 5 (by decide))
          exact rel_val (v := .slice ab nb cb) (by have cc := hg.cell C2.out (by simp); unfold execOp; go_simp) rfl hK
        · refine ⟨_, rfl, rfl, fun b W hs hg hD K hK0 => ?_⟩
          refine wpOp_at rfl (wanted_of rfl) ?_
          have hK := fun v W' g h => hK0 v W' g h (fun e => absurd e (by decide))
          have h1 : b.tmps[44]?.getD undef = .slice ab nb cb := (hD 6 (by decide))
          obtain ⟨g, ha, ho⟩ := hD 4 (by decide)
          obtain ⟨v, w', hr, hg2, hv⟩ := app_full cb 28 ho (hB.grown hg (fun k e => by cases e)) (by have := HNB.out; omega)
          exact rel_append (.tmp 42) (.tmp 44) _ _ rfl _ _ v w' ((eval_slot b 42).trans ha) ((eval_slot b 44).trans h1) hr hg2 hv hK
        · refine ⟨_, rfl, rfl, fun b W hs hg hD K hK0 => ?_⟩
          refine wpOp_at rfl (wanted_of rfl) ?_
          have hK := fun v W' g h => hK0 v W' g h (fun e => absurd e (by decide))
          have h0 : b.tmps[1]?.getD undef = .pointer (some ⟨B, 0, none⟩) := (hs 1 (by decide))
          exact rel_val (v := .pointer (some ⟨B, 2, none⟩)) (by unfold execOp; go_simp) rfl hK
        · refine ⟨_, rfl, rfl, fun b W hs hg hD K hK0 => ?_⟩
          refine wpOp_at rfl (wanted_of rfl) ?_
          have hK := fun v W' g h => hK0 v W' g h (fun e => absurd e (by decide))
          have h0 : b.tmps[46]?.getD undef = .pointer (some ⟨B, 2, none⟩) := (hD 8 (by decide))
          exact rel_val (v := .slice ab nb cb) (by have cc := hg.cell C2.out (by simp); unfold execOp; go_simp) rfl hK
        · refine ⟨_, rfl, rfl, fun b W hs hg hD K hK0 => ?_⟩
          refine wpOp_at rfl (wanted_of rfl) ?_
          have hK := fun v W' g h => hK0 v W' g h (fun e => absurd e (by decide))
          have h0 : b.tmps[47]?.getD undef = .slice ab nb cb := (hD 9 (by decide))
          exact rel_val (v := .int .i64 (nb : Nat)) (by unfold execOp; go_simp) rfl hK
        · refine ⟨_, rfl, rfl, fun b W hs hg hD K hK0 => ?_⟩
          refine wpOp_at rfl (wanted_of rfl) ?_
          have hK := fun v W' g h => hK0 v W' g h (fun e => absurd e (by decide))
          have h0 : b.tmps[1]?.getD undef = .pointer (some ⟨B, 0, none⟩) := (hs 1 (by decide))
          exact rel_val (v := .pointer (some ⟨B, 4, none⟩)) (by unfold execOp; go_simp) rfl hK
        · refine ⟨_, rfl, rfl, fun b W hs hg hD K hK0 => ?_⟩
          refine wpOp_at rfl (wanted_of rfl) ?_
          have hK := fun v W' g h => hK0 v W' g h (fun e => absurd e (by decide))
          have h0 : b.tmps[49]?.getD undef = .pointer (some ⟨B, 4, none⟩) := (hD 11 (by decide))
          exact rel_val (v := .int .i64 m) (by have cc := hg.cell C4.out (by simp); unfold execOp; go_simp) rfl hK
        · refine ⟨_, rfl, rfl, fun b W hs hg hD K hK0 => ?_⟩
          refine wpOp_at rfl (wanted_of rfl) ?_
          have hK := fun v W' g h => hK0 v W' g h (fun e => absurd e (by decide))
          have h0 : b.tmps[48]?.getD undef = .int .i64 (nb : Nat) := (hD 10 (by decide))
          have h1 : b.tmps[50]?.getD undef = .int .i64 m := (hD 12 (by decide))
          exact rel_val (v := .bool true) (by unfold execOp; go_simp) rfl hK
        · refine ⟨_, rfl, rfl, fun b W hs hg hD K hK0 => ?_⟩
          refine wpOp_at rfl (wanted_of rfl) ?_
          have hK := fun v W' g h => hK0 v W' g h (fun e => absurd e (by decide))
          exact rel_move 51 rfl (hD 13 (by decide)) rfl hK
        · refine ⟨_, rfl, rfl, fun b W hs hg hD K hK0 => ?_⟩
          refine wpOp_at rfl (wanted_is (j := 14) (t := 52) (v := true) rfl rfl (hD 14 (by decide))) ?_
          have hK := fun v W' g h => hK0 v W' g h (fun e => absurd e (by decide))
          have h0 : b.tmps[1]?.getD undef = .pointer (some ⟨B, 0, none⟩) := (hs 1 (by decide))
          exact rel_val (v := .pointer (some ⟨B, 2, none⟩)) (by unfold execOp; go_simp) rfl hK
        · refine ⟨_, rfl, rfl, fun b W hs hg hD K hK0 => ?_⟩
          refine wpOp_at rfl (wanted_is (j := 14) (t := 52) (v := true) rfl rfl (hD 14 (by decide))) ?_
          have hK := fun v W' g h => hK0 v W' g h (fun e => absurd e (by decide))
          have h0 : b.tmps[53]?.getD undef = .pointer (some ⟨B, 2, none⟩) := (hD 15 (by decide))
          exact rel_val (v := .slice ab nb cb) (by have cc := hg.cell C2.out (by simp); unfold execOp; go_simp) rfl hK
        · refine ⟨_, rfl, rfl, fun b W hs hg hD K hK0 => ?_⟩
          refine wpOp_at rfl (wanted_is (j := 14) (t := 52) (v := true) rfl rfl (hD 14 (by decide))) ?_
          have hK := fun v W' g h => hK0 v W' g h (fun e => absurd e (by decide))
          have h0 : b.tmps[54]?.getD undef = .slice ab nb cb := (hD 16 (by decide))
          exact rel_val (v := .int .i64 (nb : Nat)) (by unfold execOp; go_simp) rfl hK
        · refine ⟨_, rfl, rfl, fun b W hs hg hD K hK0 => ?_⟩
          refine wpOp_at rfl (wanted_is (j := 14) (t := 52) (v := true) rfl rfl (hD 14 (by decide))) ?_
          have hK := fun v W' g h => hK0 v W' g h (fun e => absurd e (by decide))
          have h0 : b.tmps[55]?.getD undef = .int .i64 (nb : Nat) := (hD 17 (by decide))
          exact rel_val (v := .bool b2) (by unfold execOp; go_simp) rfl hK
        · refine ⟨_, rfl, rfl, fun b W hs hg hD K hK0 => ?_⟩
          refine wpOp_at rfl (wanted_of rfl) ?_
          have hK := fun v W' g h => hK0 v W' g h (fun e => absurd e (by decide))
          have h0 : b.tmps[52]?.getD undef = .bool true := (hD 14 (by decide))
          have h1 : b.tmps[56]?.getD undef = .bool b2 := (hD 18 (by decide))
          exact rel_val (v := .bool b2) (by unfold execOp; go_simp) rfl hK
        · refine ⟨_, rfl, rfl, fun b W hs hg hD K hK0 => ?_⟩
          refine wpOp_at rfl (wanted_of rfl) ?_
          have hK := fun v W' g h => hK0 v W' g h (fun e => absurd e (by decide))
          exact rel_assign 45 rfl rfl (hD 7 (by decide)) hK
      intro vals W hg hR hap
      have e1 : vals 19 = .bool b2 := hR 19 (by decide)
      obtain ⟨g, cap, e2, ho⟩ := hR 20 (by decide)
      clear hR hap
      simp only [putsN, atL, Act.put, List.getD_cons_zero, List.getD_cons_succ, List.setIfInBounds_toArray, List.set_cons_succ, List.set_cons_zero, e1, e2]
      generalize vals 0 = q0
      generalize vals 1 = q1
      generalize vals 2 = q2
      generalize vals 3 = q3
      generalize vals 4 = q4
      generalize vals 5 = q5
      generalize vals 6 = q6
      generalize vals 7 = q7
      generalize vals 8 = q8
      generalize vals 9 = q9
      generalize vals 10 = q10
      generalize vals 11 = q11
      generalize vals 12 = q12
      generalize vals 13 = q13
      generalize vals 14 = q14
      generalize vals 15 = q15
      generalize vals 16 = q16
      generalize vals 17 = q17
      generalize vals 18 = q18
      clear e1 e2 vals
      show wpAnyH _ _ _ _ _ 1 #[true, true, true, true, true, true, true, true, true, true, true, true, true, true, true, true, true, true, true, true, true, false] _ _
      refine wpAnyH_yieldD (some 3) (i := 21) (v := .bool b2) (by kernel_rfl) rfl rfl rfl (by unfold execOp; go_simp) hg ?_
      simp only [Act.put, List.setIfInBounds_toArray, List.set_cons_succ, List.set_cons_zero]
      refine wpAnyH_done (by kernel_rfl) ?_ _
      have gw := grown_trans gr hg
      have HR := Lib.hid ho.rd
      have GW := Lib.hid gw
      clear gw ho hg hB hL gr
      go_wp2_with fail
      go_ret2
      exact ⟨⟨some ⟨g, 0, none⟩, cap, by rw [HO.out]; rfl, HR.out⟩, GW.out⟩
    · have HO := Lib.hid (show oneOk 5 nb nl m = false by
        show (decide ((nb : Int) ≤ m) && decide (nb < 65536)) = false
        rw [decide_eq_false hb1, Bool.false_and])
      clear c0 hb2
      refine wp_region_rel_c (fun W => w1.grownBy W none) (fun _ h => h) (alL []) (relL [fun vv _ => vv = .pointer (some ⟨B, 2, none⟩), fun vv _ => vv = .slice ab nb cb, fun vv _ => vv = .int .i64 (nb : Nat), fun vv _ => vv = .int .u64 (nb : Nat), FullV 2 (nbF nb 2), fun vv _ => vv = .pointer (some ⟨B, 2, none⟩), fun vv _ => vv = .slice ab nb cb, OwnV (2 + nb) (cat 2 (nbF nb 2) fb), fun vv _ => vv = .pointer (some ⟨B, 2, none⟩), fun vv _ => vv = .slice ab nb cb, fun vv _ => vv = .int .i64 (nb : Nat), fun vv _ => vv = .pointer (some ⟨B, 4, none⟩), fun vv _ => vv = .int .i64 m, fun vv _ => vv = .bool false, fun vv _ => vv = .bool false, fun vv _ => vv = undef, fun vv _ => vv = undef, fun vv _ => vv = undef, fun vv _ => vv = undef, fun vv _ => vv = .bool false, OwnV (2 + nb) (cat 2 (nbF nb 2) fb)])
        21 1 (atL [38, 39, 40, 41, 42, 43, 44, 45, 46, 47, 48, 49, 50, 51, 52, 53, 54, 55, 56, 57, 2]) (depL [[], [0], [1], [2], [3], [], [5], [4, 6], [], [8], [9], [], [11], [10, 12], [13], [14], [15, 14], [16, 14], [17, 14], [14, 18], [7]]) (by kernel_rfl) rfl (by kernel_rfl) (by kernel_rfl) (by kernel_rfl) (by decide) (by kernel_rfl) 94 rfl (by decide) (by decide) (by decide) ?mono15false ?al15false ?step15false ?fin15false
      case mono15false =>
        intro k x W W' hk h g
        obtain rfl | rfl | rfl | rfl | rfl | rfl | rfl | rfl | rfl | rfl | rfl | rfl | rfl | rfl | rfl | rfl | rfl | rfl | rfl | rfl | rfl : k = 0 ∨ k = 1 ∨ k = 2 ∨ k = 3 ∨ k = 4 ∨ k = 5 ∨ k = 6 ∨ k = 7 ∨ k = 8 ∨ k = 9 ∨ k = 10 ∨ k = 11 ∨ k = 12 ∨ k = 13 ∨ k = 14 ∨ k = 15 ∨ k = 16 ∨ k = 17 ∨ k = 18 ∨ k = 19 ∨ k = 20 := by omega
        · exact h
        · exact h
        · exact h
        · exact h
        · exact FullV.grown h g
        · exact h
        · exact h
        · exact OwnV.grown h g
        · exact h
        · exact h
        · exact h
        · exact h
        · exact h
        · exact h
        · exact h
        · exact h
        · exact h
        · exact h
        · exact h
        · exact h
        · exact OwnV.grown h g
      case al15false =>
        intro k x W hk e h
        obtain rfl | rfl | rfl | rfl | rfl | rfl | rfl | rfl | rfl | rfl | rfl | rfl | rfl | rfl | rfl | rfl | rfl | rfl | rfl | rfl | rfl : k = 0 ∨ k = 1 ∨ k = 2 ∨ k = 3 ∨ k = 4 ∨ k = 5 ∨ k = 6 ∨ k = 7 ∨ k = 8 ∨ k = 9 ∨ k = 10 ∨ k = 11 ∨ k = 12 ∨ k = 13 ∨ k = 14 ∨ k = 15 ∨ k = 16 ∨ k = 17 ∨ k = 18 ∨ k = 19 ∨ k = 20 := by omega
        · exact absurd e (by decide)
        · exact absurd e (by decide)
        · exact absurd e (by decide)
        · exact absurd e (by decide)
        · exact absurd e (by decide)
        · exact absurd e (by decide)
        · exact absurd e (by decide)
        · exact absurd e (by decide)
        · exact absurd e (by decide)
        · exact absurd e (by decide)
        · exact absurd e (by decide)
        · exact absurd e (by decide)
        · exact absurd e (by decide)
        · exact absurd e (by decide)
        · exact absurd e (by decide)
        · exact absurd e (by decide)
        · exact absurd e (by decide)
        · exact absurd e (by decide)
        · exact absurd e (by decide)
        · exact absurd e (by decide)
        · exact absurd e (by decide)
      case step15false =>
        intro k hk
        obtain rfl | rfl | rfl | rfl | rfl | rfl | rfl | rfl | rfl | rfl | rfl | rfl | rfl | rfl | rfl | rfl | rfl | rfl | rfl | rfl | rfl : k = 0 ∨ k = 1 ∨ k = 2 ∨ k = 3 ∨ k = 4 ∨ k = 5 ∨ k = 6 ∨ k = 7 ∨ k = 8 ∨ k = 9 ∨ k = 10 ∨ k = 11 ∨ k = 12 ∨ k = 13 ∨ k = 14 ∨ k = 15 ∨ k = 16 ∨ k = 17 ∨ k = 18 ∨ k = 19 ∨ k = 20 := by omega
        · refine ⟨_, rfl, rfl, fun b W hs hg hD K hK0 => ?_⟩
          refine wpOp_at rfl (wanted_of rfl) ?_
          have hK := fun v W' g h => hK0 v W' g h (fun e => absurd e (by decide))
          have h0 : b.tmps[1]?.getD undef = .pointer (some ⟨B, 0, none⟩) := (hs 1 (by decide))
          exact rel_val (v := .pointer (some ⟨B, 2, none⟩)) (by unfold execOp; go_simp) rfl hK
        · refine ⟨_, rfl, rfl, fun b W hs hg hD K hK0 => ?_⟩
          refine wpOp_at rfl (wanted_of rfl) ?_
          have hK := fun v W' g h => hK0 v W' g h (fun e => absurd e (by decide))
          have h0 : b.tmps[38]?.getD undef = .pointer (some ⟨B, 2, none⟩) := (hD 0 (by decide))
          exact rel_val (v := .slice ab nb cb) (by have cc := hg.cell C2.out (by simp); unfold execOp; go_simp) rfl hK
        · refine ⟨_, rfl, rfl, fun b W hs hg hD K hK0 => ?_⟩
          refine wpOp_at rfl (wanted_of rfl) ?_
          have hK := fun v W' g h => hK0 v W' g h (fun e => absurd e (by decide))
          have h0 : b.tmps[39]?.getD undef = .slice ab nb cb := (hD 1 (by decide))
          exact rel_val (v := .int .i64 (nb : Nat)) (by unfold execOp; go_simp) rfl hK
        · refine ⟨_, rfl, rfl, fun b W hs hg hD K hK0 => ?_⟩
          refine wpOp_at rfl (wanted_of rfl) ?_
          have hK := fun v W' g h => hK0 v W' g h (fun e => absurd e (by decide))
          have h0 : b.tmps[40]?.getD undef = .int .i64 (nb : Nat) := (hD 2 (by decide))
          exact rel_val (v := .int .u64 (nb : Nat)) (by unfold execOp; go_simp) rfl hK
        · refine ⟨_, rfl, rfl, fun b W hs hg hD K hK0 => ?_⟩
          refine wpOp_at rfl (wanted_of rfl) ?_
          have hK := fun v W' g h => hK0 v W' g h (fun e => absurd e (by decide))
          refine rel_call 48 _ (exec_fn2 _ _ _ _ _ rfl ((eval_slot b 41).trans (hD 3 (by decide))) rfl) (fun _ _ => rfl) ?_ hK
          exact (refNumber_any nb 2 (by have := HNB.out; omega) (by decide) (by decide) W).mono fun e w' h => h.v (by decide)
        · refine ⟨_, rfl, rfl, fun b W hs hg hD K hK0 => ?_⟩
          refine wpOp_at rfl (wanted_of rfl) ?_
          have hK := fun v W' g h => hK0 v W' g h (fun e => absurd e (by decide))
          have h0 : b.tmps[1]?.getD undef = .pointer (some ⟨B, 0, none⟩) := (hs 1 (by decide))
          exact rel_val (v := .pointer (some ⟨B, 2, none⟩)) (by unfold execOp; go_simp) rfl hK
        · refine ⟨_, rfl, rfl, fun b W hs hg hD K hK0 => ?_⟩
          refine wpOp_at rfl (wanted_of rfl) ?_
          have hK := fun v W' g h => hK0 v W' g h (fun e => absurd e (by decide))
          have h0 : b.tmps[43]?.getD undef = .pointer (some ⟨B, 2, none⟩) := (hD 5 (by decide))
          exact rel_val (v := .slice ab nb cb) (by have cc := hg.cell C2.out (by simp); unfold execOp; go_simp) rfl hK
        · refine ⟨_, rfl, rfl, fun b W hs hg hD K hK0 => ?_⟩
          refine wpOp_at rfl (wanted_of rfl) ?_
          have hK := fun v W' g h => hK0 v W' g h (fun e => absurd e (by decide))
          have h1 : b.tmps[44]?.getD undef = .slice ab nb cb := (hD 6 (by decide))
          obtain ⟨g, ha, ho⟩ := hD 4 (by decide)
          obtain ⟨v, w', hr, hg2, hv⟩ := app_full cb 28 ho (hB.grown hg (fun k e => by cases e)) (by have := HNB.out; omega)
          exact rel_append (.tmp 42) (.tmp 44) _ _ rfl _ _ v w' ((eval_slot b 42).trans ha) ((eval_slot b 44).trans h1) hr hg2 hv hK
        · refine ⟨_, rfl, rfl, fun b W hs hg hD K hK0 => ?_⟩
          refine wpOp_at rfl (wanted_of rfl) ?_
          have hK := fun v W' g h => hK0 v W' g h (fun e => absurd e (by decide))
          have h0 : b.tmps[1]?.getD undef = .pointer (some ⟨B, 0, none⟩) := (hs 1 (by decide))
          exact rel_val (v := .pointer (some ⟨B, 2, none⟩)) (by unfold execOp; go_simp) rfl hK
        · refine ⟨_, rfl, rfl, fun b W hs hg hD K hK0 => ?_⟩
          refine wpOp_at rfl (wanted_of rfl) ?_
          have hK := fun v W' g h => hK0 v W' g h (fun e => absurd e (by decide))
          have h0 : b.tmps[46]?.getD undef = .pointer (some ⟨B, 2, none⟩) := (hD 8 (by decide))
          exact rel_val (v := .slice ab nb cb) (by have cc := hg.cell C2.out (by simp); unfold execOp; go_simp) rfl hK
        · refine ⟨_, rfl, rfl, fun b W hs hg hD K hK0 => ?_⟩
          refine wpOp_at rfl (wanted_of rfl) ?_
          have hK := fun v W' g h => hK0 v W' g h (fun e => absurd e (by decide))
          have h0 : b.tmps[47]?.getD undef = .slice ab nb cb := (hD 9 (by decide))
          exact rel_val (v := .int .i64 (nb : Nat)) (by unfold execOp; go_simp) rfl hK
        · refine ⟨_, rfl, rfl, fun b W hs hg hD K hK0 => ?_⟩
          refine wpOp_at rfl (wanted_of rfl) ?_
          have hK := fun v W' g h => hK0 v W' g h (fun e => absurd e (by decide))
          have h0 : b.tmps[1]?.getD undef = .pointer (some ⟨B, 0, none⟩) := (hs 1 (by decide))
          exact rel_val (v := .pointer (some ⟨B, 4, none⟩)) (by unfold execOp; go_simp) rfl hK
        · refine ⟨_, rfl, rfl, fun b W hs hg hD K hK0 => ?_⟩
          refine wpOp_at rfl (wanted_of rfl) ?_
          have hK := fun v W' g h => hK0 v W' g h (fun e => absurd e (by decide))
          have h0 : b.tmps[49]?.getD undef = .pointer (some ⟨B, 4, none⟩) := (hD 11 (by decide))
          exact rel_val (v := .int .i64 m) (by have cc := hg.cell C4.out (by simp); unfold execOp; go_simp) rfl hK
        · refine ⟨_, rfl, rfl, fun b W hs hg hD K hK0 => ?_⟩
          refine wpOp_at rfl (wanted_of rfl) ?_
          have hK := fun v W' g h => hK0 v W' g h (fun e => absurd e (by decide))
          have h0 : b.tmps[48]?.getD undef = .int .i64 (nb : Nat) := (hD 10 (by decide))
          have h1 : b.tmps[50]?.getD undef = .int .i64 m := (hD 12 (by decide))
          exact rel_val (v := .bool false) (by unfold execOp; go_simp) rfl hK
        · refine ⟨_, rfl, rfl, fun b W hs hg hD K hK0 => ?_⟩
          refine wpOp_at rfl (wanted_of rfl) ?_
          have hK := fun v W' g h => hK0 v W' g h (fun e => absurd e (by decide))
          exact rel_move 51 rfl (hD 13 (by decide)) rfl hK
        · refine ⟨_, rfl, rfl, fun b W hs hg hD K hK0 => ?_⟩
          exact wpOp_skip rfl (wanted_not (j := 14) (t := 52) (v := false) rfl rfl (hD 14 (by decide))) (hK0 _ _ (grown_refl W none) rfl (fun e => absurd e (by decide)))
        · refine ⟨_, rfl, rfl, fun b W hs hg hD K hK0 => ?_⟩
          exact wpOp_skip rfl (wanted_not (j := 14) (t := 52) (v := false) rfl rfl (hD 14 (by decide))) (hK0 _ _ (grown_refl W none) rfl (fun e => absurd e (by decide)))
        · refine ⟨_, rfl, rfl, fun b W hs hg hD K hK0 => ?_⟩
          exact wpOp_skip rfl (wanted_not (j := 14) (t := 52) (v := false) rfl rfl (hD 14 (by decide))) (hK0 _ _ (grown_refl W none) rfl (fun e => absurd e (by decide)))
        · refine ⟨_, rfl, rfl, fun b W hs hg hD K hK0 => ?_⟩
          exact wpOp_skip rfl (wanted_not (j := 14) (t := 52) (v := false) rfl rfl (hD 14 (by decide))) (hK0 _ _ (grown_refl W none) rfl (fun e => absurd e (by decide)))
        · refine ⟨_, rfl, rfl, fun b W hs hg hD K hK0 => ?_⟩
          refine wpOp_at rfl (wanted_of rfl) ?_
          have hK := fun v W' g h => hK0 v W' g h (fun e => absurd e (by decide))
          have h0 : b.tmps[52]?.getD undef = .bool false := (hD 14 (by decide))
          have h1 : b.tmps[56]?.getD undef = undef := (hD 18 (by decide))
          exact rel_val (v := .bool false) (by unfold execOp; go_simp) rfl hK
        · refine ⟨_, rfl, rfl, fun b W hs hg hD K hK0 => ?_⟩
          refine wpOp_at rfl (wanted_of rfl) ?_
          have hK := fun v W' g h => hK0 v W' g h (fun e => absurd e (by decide))
          exact rel_assign 45 rfl rfl (hD 7 (by decide)) hK
      intro vals W hg hR hap
      have e1 : vals 19 = .bool false := hR 19 (by decide)
      obtain ⟨g, cap, e2, ho⟩ := hR 20 (by decide)
      clear hR hap
      simp only [putsN, atL, Act.put, List.getD_cons_zero, List.getD_cons_succ, List.setIfInBounds_toArray, List.set_cons_succ, List.set_cons_zero, e1, e2]
      generalize vals 0 = q0
      generalize vals 1 = q1
      generalize vals 2 = q2
      generalize vals 3 = q3
      generalize vals 4 = q4
      generalize vals 5 = q5
      generalize vals 6 = q6
      generalize vals 7 = q7
      generalize vals 8 = q8
      generalize vals 9 = q9
      generalize vals 10 = q10
      generalize vals 11 = q11
      generalize vals 12 = q12
      generalize vals 13 = q13
      generalize vals 14 = q14
      generalize vals 15 = q15
      generalize vals 16 = q16
      generalize vals 17 = q17
      generalize vals 18 = q18
      clear e1 e2 vals
      show wpAnyH _ _ _ _ _ 1 #[true, true, true, true, true, true, true, true, true, true, true, true, true, true, true, true, true, true, true, true, true, false] _ _
      refine wpAnyH_yieldD (some 3) (i := 21) (v := .bool false) (by kernel_rfl) rfl rfl rfl (by unfold execOp; go_simp) hg ?_
      simp only [Act.put, List.setIfInBounds_toArray, List.set_cons_succ, List.set_cons_zero]
      refine wpAnyH_done (by kernel_rfl) ?_ _
      have gw := grown_trans gr hg
      have HR := Lib.hid ho.rd
      have GW := Lib.hid gw
      clear gw ho hg hB hL gr
      go_wp2_with fail
      go_ret2
      exact ⟨⟨some ⟨g, 0, none⟩, cap, by rw [HO.out]; rfl, HR.out⟩, GW.out⟩
  by_cases e6 : k = 6
  · as_aux_lemma =>
    subst e6
    have hwl : IntKind.u64.wrap (nl : Int) = (nl : Int) := by rw [IntKind.wrap_u64]; have := HNL.out; omega
    have kl : (nl : Int) ≤ 1048576 := by have := HNL.out; omega
    have c3 := C3.out
    have HC := Lib.hid (refNumber_any nl 2 (by have := HNL.out; omega) (by decide) (by decide))
    clear hB
    go_wp2_with fail
    go_at_call 48
    refine (HC.out _).mono ?_
    intro e V h
    obtain ⟨b, rfl, hbz, ho, g0⟩ := h.v2 (by decide)
    clear h HC hwl c0
    go_wp2_with fail
    clear c3
    go_loopw [4, 5] (fun u4 u5 wr => ∃ i g cap : Nat, i ≤ nl ∧ u5 = .int .i64 i ∧ u4 = .slice (some ⟨g, 0, none⟩) (2 + 4 * i) cap ∧ OwnR wr g (2 + 4 * i) cap (cat 2 (nbF nl 2) (lstB fl)) ∧ w1.heap.size ≤ g ∧ w1.grownBy wr none) (fun _ u5 _ => nl - (intOf u5).toNat)
    case atStart => exact ⟨0, b, 2, Nat.zero_le _, rfl, rfl, ho.congr (fun i hi => (if_pos hi).symm), hbz, g0⟩
    case round =>
      clear ho hbz g0
      obtain ⟨i, g, cap, hi, rfl, rfl, hO, hgz, hg⟩ := hrel
      have c3 := hg.cell C3.out (by simp)
      by_cases hlt : i < nl
      · obtain ⟨tb, o, rfl, htb, hc⟩ := hL.ex (by omega)
        have cx := hg.cell (hc i hlt) (by simp)
        have j1 : (i : Int) < (nl : Int) := by omega
        obtain ⟨x, hx⟩ : ∃ x, x = fl i := ⟨_, rfl⟩
        have xl : x < 18446744073709551616 := by rw [hx]; exact Nat.lt_trans (HFL.out i) (by decide)
        have hwx : IntKind.u64.wrap (x : Int) = (x : Int) := by rw [IntKind.wrap_u64]; omega
        rw [← hx] at cx
        have HC := Lib.hid (refNumber_any x 4 xl (by decide) (by decide))
        have HX := Lib.hid hx
        have HI := Lib.hid hlt
        have HO := Lib.hid hO
        have HGZ := Lib.hid hgz
        have HG := Lib.hid hg
        clear hx xl hc htb hO hgz hg hi hlt hL gr
        go_wp2_with fail
        go_at_call 48
        refine (HC.out _).mono ?_
        intro e V2 h
        obtain ⟨b4, rfl, hz4, ho4, g4⟩ := h.v2 (by decide)
        have hO2 := HO.out.grown g4 (by simp)
        obtain ⟨v, w2, hap, ⟨g', cap', rfl, hO3, _, hgp, hor⟩⟩ := app_run 4 28 hO2 ho4.rd (by have := HNL.out; have := HI.out; omega)
        have hO4 := hO3.congr (lst_next nl i x fl HX.out)
        have hgw := grown_new (grown_trans HG.out g4) hgp HGZ.out
        have hgz : w1.heap.size ≤ g' := by
          have h1 := HGZ.out
          have h2 := (grown_trans HG.out g4).size
          omega
        have HAP := Lib.hid hap
        have HO4 := Lib.hid hO4
        have HGW := Lib.hid hgw
        have HGZ2 := Lib.hid hgz
        clear h hz4 ho4 g4 hO2 hO3 hgp hor hO4 hgw hgz hap HO HG HC
        go_wp2_with (at_builtin; refine wpList_append_run rfl (.tmp 72) (.tmp 79) 28 28 rfl _ (.slice (some ⟨b4, 0, none⟩) 4 4) _ _ rfl rfl HAP.out ?_)
        go_roundw
        case rel => exact ⟨i + 1, g', cap', HI.out, by go_num, by rw [show 2 + 4 * (i + 1) = 2 + 4 * i + 4 by omega], by rw [show 2 + 4 * (i + 1) = 2 + 4 * i + 4 by omega]; exact HO4.out, HGZ2.out, HGW.out⟩
        case measure =>
          have := HI.out
          simp [intOf]
          try omega
      · obtain rfl : i = nl := by omega
        have j1 : ¬ (i : Int) < (i : Int) := by omega
        obtain ⟨b2, hb2⟩ : ∃ b, b = decide ((i : Int) < 65536) := ⟨_, rfl⟩
        have gr2 := grown_trans gr hg
        have K3 := Lib.hid c3
        have K4 := Lib.hid (hg.cell C4.out (by simp))
        have HO := Lib.hid hO
        clear hlt hi hL hgz hO hg gr
        go_upto_region 22 with fail
        clear c3
        by_cases hb1 : (i : Int) ≤ m
        · have HOk := Lib.hid (show oneOk 6 nb i m = b2 by
            show (decide ((i : Int) ≤ m) && decide (i < 65536)) = b2
            rw [decide_eq_true hb1, Bool.true_and, hb2]
            exact decide_eq_decide.2 (by omega))
          replace hb2 := hb2.symm
          refine wp_region_rel_c (fun W => wr.grownBy W none) (fun _ h => h) (alL []) (relL [fun vv _ => vv = .slice (some ⟨g, 0, none⟩) (2 + 4 * i) cap, fun vv _ => vv = .pointer (some ⟨B, 3, none⟩), fun vv _ => vv = .slice al i cl, fun vv _ => vv = .int .i64 (i : Nat), fun vv _ => vv = .pointer (some ⟨B, 4, none⟩), fun vv _ => vv = .int .i64 m, fun vv _ => vv = .bool true, fun vv _ => vv = .bool true, fun vv _ => vv = .pointer (some ⟨B, 3, none⟩), fun vv _ => vv = .slice al i cl, fun vv _ => vv = .int .i64 (i : Nat), fun vv _ => vv = .bool b2, fun vv _ => vv = .bool b2, fun vv _ => vv = .slice (some ⟨g, 0, none⟩) (2 + 4 * i) cap])
            14 1 (atL [81, 82, 83, 84, 85, 86, 87, 88, 89, 90, 91, 92, 93, 2]) (depL [[], [], [1], [2], [], [4], [3, 5], [6], [7], [8, 7], [9, 7], [10, 7], [7, 11], [0]]) (by kernel_rfl) rfl (by kernel_rfl) (by kernel_rfl) (by kernel_rfl) (by decide) (by kernel_rfl) 94 rfl (by decide) (by decide) (by decide) ?mono22true ?al22true ?step22true ?fin22true
          case mono22true =>
            intro k x W W' hk h g
            obtain rfl | rfl | rfl | rfl | rfl | rfl | rfl | rfl | rfl | rfl | rfl | rfl | rfl | rfl : k = 0 ∨ k = 1 ∨ k = 2 ∨ k = 3 ∨ k = 4 ∨ k = 5 ∨ k = 6 ∨ k = 7 ∨ k = 8 ∨ k = 9 ∨ k = 10 ∨ k = 11 ∨ k = 12 ∨ k = 13 := by omega
            · exact h
            · exact h
            · exact h
            · exact h
            · exact h
            · exact h
            · exact h
            · exact h
            · exact h
            · exact h
            · exact h
            · exact h
            · exact h
            · exact h
          case al22true =>
            intro k x W hk e h
            obtain rfl | rfl | rfl | rfl | rfl | rfl | rfl | rfl | rfl | rfl | rfl | rfl | rfl | rfl : k = 0 ∨ k = 1 ∨ k = 2 ∨ k = 3 ∨ k = 4 ∨ k = 5 ∨ k = 6 ∨ k = 7 ∨ k = 8 ∨ k = 9 ∨ k = 10 ∨ k = 11 ∨ k = 12 ∨ k = 13 := by omega
            · exact absurd e (by decide)
            · exact absurd e (by decide)
            · exact absurd e (by decide)
            · exact absurd e (by decide)
            · exact absurd e (by decide)
            · exact absurd e (by decide)
            · exact absurd e (by decide)
            · exact absurd e (by decide)
            · exact absurd e (by decide)
            · exact absurd e (by decide)
            · exact absurd e (by decide)
            · exact absurd e (by decide)
            · exact absurd e (by decide)
            · exact absurd e (by decide)
          case step22true =>
            intro k hk
            obtain rfl | rfl | rfl | rfl | rfl | rfl | rfl | rfl | rfl | rfl | rfl | rfl | rfl | rfl : k = 0 ∨ k = 1 ∨ k = 2 ∨ k = 3 ∨ k = 4 ∨ k = 5 ∨ k = 6 ∨ k = 7 ∨ k = 8 ∨ k = 9 ∨ k = 10 ∨ k = 11 ∨ k = 12 ∨ k = 13 := by omega
            · refine ⟨_, rfl, rfl, fun b W hs hg hD K hK0 => ?_⟩
              refine wpOp_at rfl (wanted_of rfl) ?_
              have hK := fun v W' g h => hK0 v W' g h (fun e => absurd e (by decide))
              exact rel_move 4 rfl (hs 4 (by decide)) rfl hK
            · refine ⟨_, rfl, rfl, fun b W hs hg hD K hK0 => ?_⟩
              refine wpOp_at rfl (wanted_of rfl) ?_
              have hK := fun v W' g h => hK0 v W' g h (fun e => absurd e (by decide))
              have h0 : b.tmps[1]?.getD undef = .pointer (some ⟨B, 0, none⟩) := (hs 1 (by decide))
              exact rel_val (v := .pointer (some ⟨B, 3, none⟩)) (by unfold execOp; go_simp) rfl hK
            · refine ⟨_, rfl, rfl, fun b W hs hg hD K hK0 => ?_⟩
              refine wpOp_at rfl (wanted_of rfl) ?_
              have hK := fun v W' g h => hK0 v W' g h (fun e => absurd e (by decide))
              have h0 : b.tmps[82]?.getD undef = .pointer (some ⟨B, 3, none⟩) := (hD 1 (by decide))
              exact rel_val (v := .slice al i cl) (by have cc := hg.cell K3.out (by simp); unfold execOp; go_simp) rfl hK
            · refine ⟨_, rfl, rfl, fun b W hs hg hD K hK0 => ?_⟩
              refine wpOp_at rfl (wanted_of rfl) ?_
              have hK := fun v W' g h => hK0 v W' g h (fun e => absurd e (by decide))
              have h0 : b.tmps[83]?.getD undef = .slice al i cl := (hD 2 (by decide))
              exact rel_val (v := .int .i64 (i : Nat)) (by unfold execOp; go_simp) rfl hK
            · refine ⟨_, rfl, rfl, fun b W hs hg hD K hK0 => ?_⟩
              refine wpOp_at rfl (wanted_of rfl) ?_
              have hK := fun v W' g h => hK0 v W' g h (fun e => absurd e (by decide))
              have h0 : b.tmps[1]?.getD undef = .pointer (some ⟨B, 0, none⟩) := (hs 1 (by decide))
              exact rel_val (v := .pointer (some ⟨B, 4, none⟩)) (by unfold execOp; go_simp) rfl hK
            · refine ⟨_, rfl, rfl, fun b W hs hg hD K hK0 => ?_⟩
              refine wpOp_at rfl (wanted_of rfl) ?_
              have hK := fun v W' g h => hK0 v W' g h (fun e => absurd e (by decide))
              have h0 : b.tmps[85]?.getD undef = .pointer (some ⟨B, 4, none⟩) := (hD 4 (by decide))
              exact rel_val (v := .int .i64 m) (by have cc := hg.cell K4.out (by simp); unfold execOp; go_simp) rfl hK
            · refine ⟨_, rfl, rfl, fun b W hs hg hD K hK0 => ?_⟩
              refine wpOp_at rfl (wanted_of rfl) ?_
              have hK := fun v W' g h => hK0 v W' g h (fun e => absurd e (by decide))
              have h0 : b.tmps[84]?.getD undef = .int .i64 (i : Nat) := (hD 3 (by decide))
              have h1 : b.tmps[86]?.getD undef = .int .i64 m := (hD 5 (by decide))
              exact rel_val (v := .bool true) (by unfold execOp; go_simp) rfl hK
            · refine ⟨_, rfl, rfl, fun b W hs hg hD K hK0 => ?_⟩
              refine wpOp_at rfl (wanted_of rfl) ?_
              have hK := fun v W' g h => hK0 v W' g h (fun e => absurd e (by decide))
              exact rel_move 87 rfl (hD 6 (by decide)) rfl hK
            · refine ⟨_, rfl, rfl, fun b W hs hg hD K hK0 => ?_⟩
              refine wpOp_at rfl (wanted_is (j := 7) (t := 88) (v := true) rfl rfl (hD 7 (by decide))) ?_
              have hK := fun v W' g h => hK0 v W' g h (fun e => absurd e (by decide))
              have h0 : b.tmps[1]?.getD undef = .pointer (some ⟨B, 0, none⟩) := (hs 1 (by decide))
              exact rel_val (v := .pointer (some ⟨B, 3, none⟩)) (by unfold execOp; go_simp) rfl hK
            · refine ⟨_, rfl, rfl, fun b W hs hg hD K hK0 => ?_⟩
              refine wpOp_at rfl (wanted_is (j := 7) (t := 88) (v := true) rfl rfl (hD 7 (by decide))) ?_
              have hK := fun v W' g h => hK0 v W' g h (fun e => absurd e (by decide))
              have h0 : b.tmps[89]?.getD undef = .pointer (some ⟨B, 3, none⟩) := (hD 8 (by decide))
              exact rel_val (v := .slice al i cl) (by have cc := hg.cell K3.out (by simp); unfold execOp; go_simp) rfl hK
            · refine ⟨_, rfl, rfl, fun b W hs hg hD K hK0 => ?_⟩
              refine wpOp_at rfl (wanted_is (j := 7) (t := 88) (v := true) rfl rfl (hD 7 (by decide))) ?_
              have hK := fun v W' g h => hK0 v W' g h (fun e => absurd e (by decide))
              have h0 : b.tmps[90]?.getD undef = .slice al i cl := (hD 9 (by decide))
              exact rel_val (v := .int .i64 (i : Nat)) (by unfold execOp; go_simp) rfl hK
            · refine ⟨_, rfl, rfl, fun b W hs hg hD K hK0 => ?_⟩
              refine wpOp_at rfl (wanted_is (j := 7) (t := 88) (v := true) rfl rfl (hD 7 (by decide))) ?_
              have hK := fun v W' g h => hK0 v W' g h (fun e => absurd e (by decide))
              have h0 : b.tmps[91]?.getD undef = .int .i64 (i : Nat) := (hD 10 (by decide))
              exact rel_val (v := .bool b2) (by unfold execOp; go_simp) rfl hK
            · refine ⟨_, rfl, rfl, fun b W hs hg hD K hK0 => ?_⟩
              refine wpOp_at rfl (wanted_of rfl) ?_
              have hK := fun v W' g h => hK0 v W' g h (fun e => absurd e (by decide))
              have h0 : b.tmps[88]?.getD undef = .bool true := (hD 7 (by decide))
              have h1 : b.tmps[92]?.getD undef = .bool b2 := (hD 11 (by decide))
              exact rel_val (v := .bool b2) (by unfold execOp; go_simp) rfl hK
            · refine ⟨_, rfl, rfl, fun b W hs hg hD K hK0 => ?_⟩
              refine wpOp_at rfl (wanted_of rfl) ?_
              have hK := fun v W' g h => hK0 v W' g h (fun e => absurd e (by decide))
              exact rel_assign 81 rfl (hD 0 (by decide)) rfl hK
          intro vals W hg hR hap
          have e1 : vals 12 = .bool b2 := hR 12 (by decide)
          have e2 : vals 13 = .slice (some ⟨g, 0, none⟩) (2 + 4 * i) cap := hR 13 (by decide)
          clear hR hap
          simp only [putsN, atL, Act.put, List.getD_cons_zero, List.getD_cons_succ, List.setIfInBounds_toArray, List.set_cons_succ, List.set_cons_zero, e1, e2]
          generalize vals 0 = q0
          generalize vals 1 = q1
          generalize vals 2 = q2
          generalize vals 3 = q3
          generalize vals 4 = q4
          generalize vals 5 = q5
          generalize vals 6 = q6
          generalize vals 7 = q7
          generalize vals 8 = q8
          generalize vals 9 = q9
          generalize vals 10 = q10
          generalize vals 11 = q11
          clear e1 e2 vals
          show wpAnyH _ _ _ _ _ 1 #[true, true, true, true, true, true, true, true, true, true, true, true, true, true, false] _ _
          refine wpAnyH_yieldD (some 3) (i := 14) (v := .bool b2) (by kernel_rfl) rfl rfl rfl (by unfold execOp; go_simp) hg ?_
          simp only [Act.put, List.setIfInBounds_toArray, List.set_cons_succ, List.set_cons_zero]
          refine wpAnyH_done (by kernel_rfl) ?_ _
          have gw := grown_trans gr2 hg
          have HR := Lib.hid (HO.out.grown hg (by simp)).rd
          have GW := Lib.hid gw
          clear gw hg gr2
          go_wp2_with fail
          go_ret2
          exact ⟨⟨some ⟨g, 0, none⟩, cap, by rw [HOk.out]; rfl, HR.out⟩, GW.out⟩
        · have HOk := Lib.hid (show oneOk 6 nb i m = false by
            show (decide ((i : Int) ≤ m) && decide (i < 65536)) = false
            rw [decide_eq_false hb1, Bool.false_and])
          clear hb2
          refine wp_region_rel_c (fun W => wr.grownBy W none) (fun _ h => h) (alL []) (relL [fun vv _ => vv = .slice (some ⟨g, 0, none⟩) (2 + 4 * i) cap, fun vv _ => vv = .pointer (some ⟨B, 3, none⟩), fun vv _ => vv = .slice al i cl, fun vv _ => vv = .int .i64 (i : Nat), fun vv _ => vv = .pointer (some ⟨B, 4, none⟩), fun vv _ => vv = .int .i64 m, fun vv _ => vv = .bool false, fun vv _ => vv = .bool false, fun vv _ => vv = undef, fun vv _ => vv = undef, fun vv _ => vv = undef, fun vv _ => vv = undef, fun vv _ => vv = .bool false, fun vv _ => vv = .slice (some ⟨g, 0, none⟩) (2 + 4 * i) cap])
            14 1 (atL [81, 82, 83, 84, 85, 86, 87, 88, 89, 90, 91, 92, 93, 2]) (depL [[], [], [1], [2], [], [4], [3, 5], [6], [7], [8, 7], [9, 7], [10, 7], [7, 11], [0]]) (by kernel_rfl) rfl (by kernel_rfl) (by kernel_rfl) (by kernel_rfl) (by decide) (by kernel_rfl) 94 rfl (by decide) (by decide) (by decide) ?mono22false ?al22false ?step22false ?fin22false
          case mono22false =>
            intro k x W W' hk h g
            obtain rfl | rfl | rfl | rfl | rfl | rfl | rfl | rfl | rfl | rfl | rfl | rfl | rfl | rfl : k = 0 ∨ k = 1 ∨ k = 2 ∨ k = 3 ∨ k = 4 ∨ k = 5 ∨ k = 6 ∨ k = 7 ∨ k = 8 ∨ k = 9 ∨ k = 10 ∨ k = 11 ∨ k = 12 ∨ k = 13 := by omega
            · exact h
            · exact h
            · exact h
            · exact h
            · exact h
            · exact h
            · exact h
            · exact h
            · exact h
            · exact h
            · exact h
            · exact h
            · exact h
            · exact h
          case al22false =>
            intro k x W hk e h
            obtain rfl | rfl | rfl | rfl | rfl | rfl | rfl | rfl | rfl | rfl | rfl | rfl | rfl | rfl : k = 0 ∨ k = 1 ∨ k = 2 ∨ k = 3 ∨ k = 4 ∨ k = 5 ∨ k = 6 ∨ k = 7 ∨ k = 8 ∨ k = 9 ∨ k = 10 ∨ k = 11 ∨ k = 12 ∨ k = 13 := by omega
            · exact absurd e (by decide)
            · exact absurd e (by decide)
            · exact absurd e (by decide)
            · exact absurd e (by decide)
            · exact absurd e (by decide)
            · exact absurd e (by decide)
            · exact absurd e (by decide)
            · exact absurd e (by decide)
            · exact absurd e (by decide)
            · exact absurd e (by decide)
            · exact absurd e (by decide)
            · exact absurd e (by decide)
            · exact absurd e (by decide)
            · exact absurd e (by decide)
          case step22false =>
            intro k hk
            obtain rfl | rfl | rfl | rfl | rfl | rfl | rfl | rfl | rfl | rfl | rfl | rfl | rfl | rfl : k = 0 ∨ k = 1 ∨ k = 2 ∨ k = 3 ∨ k = 4 ∨ k = 5 ∨ k = 6 ∨ k = 7 ∨ k = 8 ∨ k = 9 ∨ k = 10 ∨ k = 11 ∨ k = 12 ∨ k = 13 := by omega
            · refine ⟨_, rfl, rfl, fun b W hs hg hD K hK0 => ?_⟩
              refine wpOp_at rfl (wanted_of rfl) ?_
              have hK := fun v W' g h => hK0 v W' g h (fun e => absurd e (by decide))
              exact rel_move 4 rfl (hs 4 (by decide)) rfl hK
            · refine ⟨_, rfl, rfl, fun b W hs hg hD K hK0 => ?_⟩
              refine wpOp_at rfl (wanted_of rfl) ?_
              have hK := fun v W' g h => hK0 v W' g h (fun e => absurd e (by decide))
              have h0 : b.tmps[1]?.getD undef = .pointer (some ⟨B, 0, none⟩) := (hs 1 (by decide))
              exact rel_val (v := .pointer (some ⟨B, 3, none⟩)) (by unfold execOp; go_simp) rfl hK
            · refine ⟨_, rfl, rfl, fun b W hs hg hD K hK0 => ?_⟩
              refine wpOp_at rfl (wanted_of rfl) ?_
              have hK := fun v W' g h => hK0 v W' g h (fun e => absurd e (by decide))
              have h0 : b.tmps[82]?.getD undef = .pointer (some ⟨B, 3, none⟩) := (hD 1 (by decide))
              exact rel_val (v := .slice al i cl) (by have cc := hg.cell K3.out (by simp); unfold execOp; go_simp) rfl hK
            · refine ⟨_, rfl, rfl, fun b W hs hg hD K hK0 => ?_⟩
              refine wpOp_at rfl (wanted_of rfl) ?_
              have hK := fun v W' g h => hK0 v W' g h (fun e => absurd e (by decide))
              have h0 : b.tmps[83]?.getD undef = .slice al i cl := (hD 2 (by decide))
              exact rel_val (v := .int .i64 (i : Nat)) (by unfold execOp; go_simp) rfl hK
            · refine ⟨_, rfl, rfl, fun b W hs hg hD K hK0 => ?_⟩
              refine wpOp_at rfl (wanted_of rfl) ?_
              have hK := fun v W' g h => hK0 v W' g h (fun e => absurd e (by decide))
              have h0 : b.tmps[1]?.getD undef = .pointer (some ⟨B, 0, none⟩) := (hs 1 (by decide))
              exact rel_val (v := .pointer (some ⟨B, 4, none⟩)) (by unfold execOp; go_simp) rfl hK
            · refine ⟨_, rfl, rfl, fun b W hs hg hD K hK0 => ?_⟩
              refine wpOp_at rfl (wanted_of rfl) ?_
              have hK := fun v W' g h => hK0 v W' g h (fun e => absurd e (by decide))
              have h0 : b.tmps[85]?.getD undef = .pointer (some ⟨B, 4, none⟩) := (hD 4 (by decide))
              exact rel_val (v := .int .i64 m) (by have cc := hg.cell K4.out (by simp); unfold execOp; go_simp) rfl hK
            · refine ⟨_, rfl, rfl, fun b W hs hg hD K hK0 => ?_⟩
              refine wpOp_at rfl (wanted_of rfl) ?_
              have hK := fun v W' g h => hK0 v W' g h (fun e => absurd e (by decide))
              have h0 : b.tmps[84]?.getD undef = .int .i64 (i : Nat) := (hD 3 (by decide))
              have h1 : b.tmps[86]?.getD undef = .int .i64 m := (hD 5 (by decide))
              exact rel_val (v := .bool false) (by unfold execOp; go_simp) rfl hK
            · refine ⟨_, rfl, rfl, fun b W hs hg hD K hK0 => ?_⟩
              refine wpOp_at rfl (wanted_of rfl) ?_
              have hK := fun v W' g h => hK0 v W' g h (fun e => absurd e (by decide))
              exact rel_move 87 rfl (hD 6 (by decide)) rfl hK
            · refine ⟨_, rfl, rfl, fun b W hs hg hD K hK0 => ?_⟩
              exact wpOp_skip rfl (wanted_not (j := 7) (t := 88) (v := false) rfl rfl (hD 7 (by decide))) (hK0 _ _ (grown_refl W none) rfl (fun e => absurd e (by decide)))
            · refine ⟨_, rfl, rfl, fun b W hs hg hD K hK0 => ?_⟩
              exact wpOp_skip rfl (wanted_not (j := 7) (t := 88) (v := false) rfl rfl (hD 7 (by decide))) (hK0 _ _ (grown_refl W none) rfl (fun e => absurd e (by decide)))
            · refine ⟨_, rfl, rfl, fun b W hs hg hD K hK0 => ?_⟩
              exact wpOp_skip rfl (wanted_not (j := 7) (t := 88) (v := false) rfl rfl (hD 7 (by decide))) (hK0 _ _ (grown_refl W none) rfl (fun e => absurd e (by decide)))
            · refine ⟨_, rfl, rfl, fun b W hs hg hD K hK0 => ?_⟩
              exact wpOp_skip rfl (wanted_not (j := 7) (t := 88) (v := false) rfl rfl (hD 7 (by decide))) (hK0 _ _ (grown_refl W none) rfl (fun e => absurd e (by decide)))
            · refine ⟨_, rfl, rfl, fun b W hs hg hD K hK0 => ?_⟩
              refine wpOp_at rfl (wanted_of rfl) ?_
              have hK := fun v W' g h => hK0 v W' g h (fun e => absurd e (by decide))
              have h0 : b.tmps[88]?.getD undef = .bool false := (hD 7 (by decide))
              have h1 : b.tmps[92]?.getD undef = undef := (hD 11 (by decide))
              exact rel_val (v := .bool false) (by unfold execOp; go_simp) rfl hK
            · refine ⟨_, rfl, rfl, fun b W hs hg hD K hK0 => ?_⟩
              refine wpOp_at rfl (wanted_of rfl) ?_
              have hK := fun v W' g h => hK0 v W' g h (fun e => absurd e (by decide))
              exact rel_assign 81 rfl (hD 0 (by decide)) rfl hK
          intro vals W hg hR hap
          have e1 : vals 12 = .bool false := hR 12 (by decide)
          have e2 : vals 13 = .slice (some ⟨g, 0, none⟩) (2 + 4 * i) cap := hR 13 (by decide)
          clear hR hap
          simp only [putsN, atL, Act.put, List.getD_cons_zero, List.getD_cons_succ, List.setIfInBounds_toArray, List.set_cons_succ, List.set_cons_zero, e1, e2]
          generalize vals 0 = q0
          generalize vals 1 = q1
          generalize vals 2 = q2
          generalize vals 3 = q3
          generalize vals 4 = q4
          generalize vals 5 = q5
          generalize vals 6 = q6
          generalize vals 7 = q7
          generalize vals 8 = q8
          generalize vals 9 = q9
          generalize vals 10 = q10
          generalize vals 11 = q11
          clear e1 e2 vals
          show wpAnyH _ _ _ _ _ 1 #[true, true, true, true, true, true, true, true, true, true, true, true, true, true, false] _ _
          refine wpAnyH_yieldD (some 3) (i := 14) (v := .bool false) (by kernel_rfl) rfl rfl rfl (by unfold execOp; go_simp) hg ?_
          simp only [Act.put, List.setIfInBounds_toArray, List.set_cons_succ, List.set_cons_zero]
          refine wpAnyH_done (by kernel_rfl) ?_ _
          have gw := grown_trans gr2 hg
          have HR := Lib.hid (HO.out.grown hg (by simp)).rd
          have GW := Lib.hid gw
          clear gw hg gr2
          go_wp2_with fail
          go_ret2
          exact ⟨⟨some ⟨g, 0, none⟩, cap, by rw [HOk.out]; rfl, HR.out⟩, GW.out⟩
  have hN : oneN k nb nl = 0 := by unfold oneN; simp [e0, e1, e2, e3, e4, e5, e6]
  have hO : oneOk k nb nl m = true := by unfold oneOk; simp [e5, e6]
  have H1 := Lib.hid hN
  have H2 := Lib.hid hO
  have d0 : ((k : Int) == 0) = false := beq_eq_false_iff_ne.2 (by omega)
  have d1 : ((k : Int) == 1) = false := beq_eq_false_iff_ne.2 (by omega)
  have d2 : ((k : Int) == 2) = false := beq_eq_false_iff_ne.2 (by omega)
  have d3 : ((k : Int) == 3) = false := beq_eq_false_iff_ne.2 (by omega)
  have d4 : ((k : Int) == 4) = false := beq_eq_false_iff_ne.2 (by omega)
  have d5 : ((k : Int) == 5) = false := beq_eq_false_iff_ne.2 (by omega)
  have d6 : ((k : Int) == 6) = false := beq_eq_false_iff_ne.2 (by omega)
  clear hN hO e0 e1 e2 e3 e4 e5 e6 hk hB hL
  go_wp2_with fail
  go_ret2
  exact ⟨⟨none, 0, by rw [H1.out, H2.out]; rfl, ⟨fun h => by rw [H1.out] at h; omega⟩⟩, gr⟩
end Go.Proofs.Ytpkeolggehjjlaa
namespace Go.Proofs.Ytpkeolggehjjlaa
open Go.RowKit

set_option maxRecDepth 100000
set_option maxHeartbeats 4000000

def FV.oN (x : FV) : Nat := oneN x.k x.nb x.nl
def FV.oF (x : FV) : Nat → Nat := oneF x.k x.n x.nb x.fb x.nl x.fl
def FV.oOk (x : FV) : Bool := oneOk x.k x.nb x.nl x.m
/-- The bytes of the first ones. -/
def putN (X : Nat → FV) : Nat → Nat
  | 0 => 0
  | i + 1 => putN X i + (X i).oN
def putF (X : Nat → FV) : Nat → Nat → Nat
  | 0 => fun _ => 0
  | i + 1 => cat (putN X i) (putF X i) (X i).oF
def putOk (X : Nat → FV) : Nat → Bool
  | 0 => true
  | i + 1 => putOk X i && (X i).oOk
theorem oneN_le (k nb nl : Nat) (h1 : nb ≤ 1048576) (h2 : nl ≤ 1048576) : oneN k nb nl ≤ 4194306 := by
  unfold oneN
  repeat' split
  all_goals omega
theorem putN_le (X : Nat → FV) (hX : ∀ i, (X i).Ok) : ∀ i, putN X i ≤ i * 4194306
  | 0 => by rw [Nat.zero_mul]; exact Nat.le_refl _
  | i + 1 => by
    have h1 := putN_le X hX i
    have h2 := oneN_le (X i).k (X i).nb (X i).nl (hX i).lb (hX i).ll
    show putN X i + oneN (X i).k (X i).nb (X i).nl ≤ _
    omega
theorem putOk_before (X : Nat → FV) (i : Nat) : ∀ n, i ≤ n → putOk X i = false → putOk X n = false
  | 0, h, e => by
    obtain rfl : i = 0 := by omega
    exact e
  | n + 1, h, e => by
    by_cases hi : i = n + 1
    · rw [← hi]; exact e
    · show (putOk X n && (X n).oOk) = false
      rw [putOk_before X i n (by omega) e, Bool.false_and]
structure PutSays (w : World) (X : Nat → FV) (n : Nat) (lim : Int) (e : Ending) (w' : World) : Prop where
  ex : ∃ v, e = .returned (.tuple #[v, .bool (putOk X n && decide ((putN X n : Int) ≤ lim))]) ∧ (putOk X n = true → OwnN w' w.heap.size v (putN X n) (putF X n))
  gr : w.grownBy w' none

theorem refPut_any (lim : Int) (D : Nat) (a : Option Addr) (n c : Nat) (X : Nat → FV) (w : World) (h : Flds w D a n X) (hn : n ≤ 1048576) (hD : D ≤ w.heap.size) :
    Calls Try.prog 11 #[.int .i64 lim, .slice a n c] w (PutSays w X n lim) := by
  have H := Lib.hid h
  have kn : (n : Int) ≤ 1048576 := by omega
  have HN := Lib.hid hn
  have HD := Lib.hid hD
  clear h hn hD
  go_enter Try.func11, Try.ntmps11
  go_wp2_with fail
  go_loopw [6, 7] (fun u6 u7 wr => ∃ i : Nat, i ≤ n ∧ u7 = .int .i64 i ∧ OwnN wr w.heap.size u6 (putN X i) (putF X i) ∧ putOk X i = true ∧ w.grownBy wr none) (fun _ u7 _ => n - (intOf u7).toNat)
  case atStart => exact ⟨0, Nat.zero_le _, rfl, OwnN.nil w w.heap.size _, rfl, grown_refl w none⟩
  case round =>
    obtain ⟨i, hi, rfl, hO, hok, gr⟩ := hrel
    by_cases hlt : i < n
    · obtain ⟨tb, o, rfl, htb, hF⟩ := H.out.ex (by omega)
      have hx := (hF i hlt).grown gr (by simp)
      have hm := (H.out.mem i hlt).grown gr (fun k e => by cases e)
      have ho := H.out.ok i
      have hDw : D ≤ wr.heap.size := Nat.le_trans HD.out gr.size
      have hle := putN_le X H.out.ok i
      have hl1 := oneN_le (X i).k (X i).nb (X i).nl ho.lb ho.ll
      have e1 : putN X (i + 1) = putN X i + (X i).oN := rfl
      have e2 : putF X (i + 1) = cat (putN X i) (putF X i) (X i).oF := rfl
      have e3 : putOk X (i + 1) = (X i).oOk := by show (putOk X i && (X i).oOk) = _; rw [hok, Bool.true_and]
      have hC := refOne_any (X i).k (X i).n (X i).nb (X i).cb (X i).nl (X i).cl (X i).ab (X i).al (X i).fb (X i).fl (X i).m D wr ho.k ho.n ho.lb ho.ll ho.fl ho.mlo ho.mhi hDw hm.b hm.l
      change Calls Try.prog 30 #[(X i).val] wr (OneSays wr (X i).oN (X i).oF (X i).oOk) at hC
      change (X i).oN ≤ 4194306 at hl1
      obtain ⟨p, hp⟩ : ∃ p, p = putN X i := ⟨_, rfl⟩
      obtain ⟨pf, hpf⟩ : ∃ p, p = putF X i := ⟨_, rfl⟩
      rw [← hp] at hO hle e1 e2
      rw [← hpf] at hO e2
      generalize hxx : X i = x at *
      obtain ⟨q, hq⟩ : ∃ q, q = x.oN := ⟨_, rfl⟩
      obtain ⟨qf, hqf⟩ : ∃ q, q = x.oF := ⟨_, rfl⟩
      obtain ⟨qo, hqo⟩ : ∃ q, q = x.oOk := ⟨_, rfl⟩
      rw [← hq, ← hqf, ← hqo] at hC
      rw [← hq] at e1 hl1
      rw [← hqf] at e2
      rw [← hqo] at e3
      have j1 : (i : Int) < (n : Int) := by omega
      have HC := Lib.hid hC
      have E1 := Lib.hid e1
      have E2 := Lib.hid e2
      have E3 := Lib.hid e3
      have HO := Lib.hid hO
      have HI := Lib.hid hlt
      have HB := Lib.hid (show p + q ≤ 2 ^ 46 by have := HN.out; omega)
      have GR := Lib.hid gr
      clear hC e1 e2 e3 hO hlt hi hle hl1 hq hqf hqo hp hpf hxx hm ho hDw hF htb hok gr
      go_wp2_with (refine wpList_load_field rfl 19 hx rfl rfl ?_)
      go_at_call 30
      refine HC.out.mono ?_
      intro e V hs
      obtain ⟨⟨a1, c1, rfl, hR⟩, g1⟩ := hs
      have hO1 := HO.out.grown g1
      have gw := grown_trans GR.out g1
      clear hx HC g1 HO
      by_cases hb : qo = true
      · subst hb
        obtain ⟨v', w2, hap, hO2, g2⟩ := app_N0 c1 28 gw hO1 hR HB.out
        have HAP := Lib.hid hap
        rw [← E1.out, ← E2.out] at hO2
        have HO2 := Lib.hid hO2
        have G2 := Lib.hid g2
        clear hap hO2 g2 hO1 gw hR
        go_wp2_with (at_builtin; refine wpList_append_run rfl (.tmp 26) (.tmp 27) 28 28 rfl _ (.slice a1 q c1) _ _ rfl rfl HAP.out ?_)
        go_roundw
        case rel => exact ⟨i + 1, HI.out, by go_num, HO2.out, E3.out, G2.out⟩
        case measure =>
          have := HI.out
          simp [intOf]
          try omega
      · obtain rfl : qo = false := by simpa using hb
        have hfl := putOk_before X (i + 1) n HI.out E3.out
        have HFL := Lib.hid hfl
        have GW := Lib.hid gw
        clear hb hO1 hR hfl gw
        go_wp2_with fail
        go_ret2
        exact ⟨⟨_, by rw [HFL.out]; rfl, fun h => by rw [HFL.out] at h; cases h⟩, GW.out⟩
    · obtain rfl : i = n := by omega
      have j1 : ¬ (i : Int) < (i : Int) := by omega
      have hle := putN_le X H.out.ok i
      have hbb : (putOk X i && decide ((putN X i : Int) ≤ lim)) = decide ((putN X i : Int) ≤ lim) := by rw [hok, Bool.true_and]
      have HBB := Lib.hid hbb
      have HOO := Lib.hid hO
      obtain ⟨p, hp⟩ : ∃ p, p = putN X i := ⟨_, rfl⟩
      rw [← hp] at hO hle
      have HP := Lib.hid hp
      have kp : (p : Int) ≤ 4398048608256 := by have := HN.out; omega
      obtain ⟨b, hb⟩ : ∃ b, b = decide ((p : Int) ≤ lim) := ⟨_, rfl⟩
      replace hb := hb.symm
      have HB := Lib.hid hb
      have GR := Lib.hid gr
      clear hbb hle hlt hi hok gr hp
      rcases hO.ex with ⟨rfl, h0⟩ | ⟨g, cap, rfl, h2, h3⟩
      · subst h0
        have hb0 : decide ((0 : Int) ≤ lim) = b := hb
        clear hO hb
        go_wp2_with fail
        go_ret2
        exact ⟨⟨.slice none 0 0, by rw [HBB.out, ← HP.out, HB.out]; rfl, fun _ => HOO.out⟩, GR.out⟩
      · clear hO h2 h3
        go_wp2_with fail
        go_ret2
        exact ⟨⟨.slice (some ⟨g, 0, none⟩) p cap, by rw [HBB.out, ← HP.out, HB.out]; rfl, fun _ => HOO.out⟩, GR.out⟩
end Go.Proofs.Ytpkeolggehjjlaa
namespace Go.Proofs.Ytpkeolggehjjlaa
open Go.RowKit

set_option maxRecDepth 100000

/-- The writer has these bytes, if c; else it is wrong. -/
structure OIs (s : OSt) (c : Prop) (lim n : Nat) (F : Nat → Nat) : Prop where
  g : c → ∃ G, s = .good lim n G ∧ ∀ j, j < n → G j = F j
  f : ¬ c → s = .bad
section
variable {s : OSt} {c c' : Prop} {lim n m : Nat} {F F' g : Nat → Nat}
theorem OIs.iff (h : OIs s c lim n F) (e : c ↔ c') : OIs s c' lim n F := ⟨fun hc => h.g (e.2 hc), fun hc => h.f (fun h' => hc (e.1 h'))⟩
theorem OIs.congr (h : OIs s c lim n F) (e : ∀ j, j < n → F j = F' j) : OIs s c lim n F' := ⟨fun hc => by
  obtain ⟨G, h1, h2⟩ := h.g hc
  exact ⟨G, h1, fun j hj => (h2 j hj).trans (e j hj)⟩, h.f⟩
theorem OIs.size (h : OIs s c lim n F) (e : n = m) : OIs s c lim m F := by rw [← e]; exact h
theorem OIs.put (h : OIs s c lim n F) (m : Nat) (g : Nat → Nat) : OIs (s.put m g) (c ∧ n + m ≤ lim) lim (n + m) (cat n F g) := by
  by_cases hc : c
  · obtain ⟨G, rfl, h2⟩ := h.g hc
    by_cases hl : n + m ≤ lim
    · refine ⟨fun _ => ⟨cat n G g, if_pos hl, fun j hj => ?_⟩, fun h => absurd ⟨hc, hl⟩ h⟩
      unfold cat
      by_cases e : j < n
      · rw [if_pos e, if_pos e]; exact h2 j e
      · rw [if_neg e, if_neg e]
    · exact ⟨fun h => absurd h.2 hl, fun _ => if_neg hl⟩
  · have := h.f hc
    subst this
    exact ⟨fun h => absurd h.1 hc, fun _ => rfl⟩
theorem OIs.fail (h : OIs s c lim n F) (m : Nat) (F' : Nat → Nat) : OIs s.fail False lim m F' := by
  refine ⟨fun h => h.elim, fun _ => ?_⟩
  by_cases hc : c
  · obtain ⟨G, rfl, _⟩ := h.g hc; rfl
  · rw [h.f hc]; rfl
end
theorem cat_assoc (n m : Nat) (F g h : Nat → Nat) : cat (n + m) (cat n F g) h = cat n F (cat m g h) := by
  funext j
  unfold cat
  by_cases e1 : j < n
  · rw [if_pos (by omega), if_pos e1, if_pos e1]
  · by_cases e2 : j < n + m
    · rw [if_pos e2, if_neg e1, if_neg e1, if_pos (by omega)]
    · rw [if_neg e2, if_neg e1, if_neg (by omega)]
      congr 1
      omega
theorem cat_congr {n m : Nat} {F g h : Nat → Nat} (e : ∀ j, j < m → g j = h j) (j : Nat) (hj : j < n + m) : cat n F g j = cat n F h j := by
  unfold cat
  by_cases e1 : j < n
  · rw [if_pos e1, if_pos e1]
  · rw [if_neg e1, if_neg e1]; exact e _ (by omega)
theorem OIs.nums {s : OSt} {c : Prop} {lim n : Nat} {F : Nat → Nat} (h : OIs s c lim n F) (hc : c → n ≤ lim) (fl : Nat → Nat) : ∀ i, OIs (s.nums fl i) (c ∧ n + 4 * i ≤ lim) lim (n + 4 * i) (cat n F (lstB fl))
  | 0 => (h.iff ⟨fun h1 => ⟨h1, by have := hc h1; omega⟩, fun h1 => h1.1⟩).congr (fun j hj => by unfold cat; rw [if_pos hj])
  | i + 1 => by
    have h1 := (OIs.nums h hc fl i).put 4 (nbF (fl i) 4)
    refine ((h1.iff (c' := c ∧ n + 4 * (i + 1) ≤ lim) ⟨fun h2 => ⟨h2.1.1, by omega⟩, fun h2 => ⟨⟨h2.1, by omega⟩, by omega⟩⟩).size (by omega)).congr (fun j hj => ?_)
    show (if j < n + 4 * i then cat n F (lstB fl) j else nbF (fl i) 4 (j - (n + 4 * i))) = cat n F (lstB fl) j
    by_cases e1 : j < n + 4 * i
    · rw [if_pos e1]
    · rw [if_neg e1]
      unfold cat
      rw [if_neg (by omega)]
      unfold lstB
      rw [show (j - n) / 4 = i by omega, show (j - n) % 4 = j - (n + 4 * i) by omega]
theorem OIs.count {s : OSt} {c : Prop} {lim n : Nat} {F : Nat → Nat} (h : OIs s c lim n F) (most : Int) (m : Nat) : OIs (s.count most m) ((c ∧ n + 2 ≤ lim) ∧ (m : Int) ≤ most ∧ m < 65536) lim (n + 2) (cat n F (nbF m 2)) := by
  unfold OSt.count
  by_cases hw : min most 65535 < (m : Int)
  · rw [if_pos hw]
    exact (h.fail (n + 2) (cat n F (nbF m 2))).iff ⟨fun h => h.elim, fun h => by omega⟩
  · rw [if_neg hw]
    exact (h.put 2 (nbF m 2)).iff ⟨fun h => ⟨h, by omega⟩, fun h => h.1⟩
theorem OIs.field {s : OSt} {c : Prop} {lim n : Nat} {F : Nat → Nat} (h : OIs s c lim n F) (hc : c → n ≤ lim) (x : FV) : OIs (s.field x) ((c ∧ x.oOk = true) ∧ n + x.oN ≤ lim) lim (n + x.oN) (cat n F x.oF) := by
  unfold OSt.field FV.oN FV.oF FV.oOk oneN oneF oneOk
  by_cases e0 : x.k = 0
  · simp only [if_pos e0]
    refine ((h.put 1 _).iff ?_).congr (cat_congr (fun j hj => ?_))
    · rw [if_neg (by omega), if_neg (by omega)]; simp
    · obtain rfl : j = 0 := by omega
      show x.n % 256 = x.n % 256 / 256 ^ 0 % 256
      rw [Nat.pow_zero, Nat.div_one]
      omega
  simp only [if_neg e0]
  by_cases e1 : x.k = 1
  · simp only [if_pos e1]
    refine (h.put 4 _).iff ?_
    rw [if_neg (by omega), if_neg (by omega)]; simp
  simp only [if_neg e1]
  by_cases e2 : x.k = 2
  · simp only [if_pos e2]
    refine (h.put 8 _).iff ?_
    rw [if_neg (by omega), if_neg (by omega)]; simp
  simp only [if_neg e2]
  by_cases e3 : x.k = 3
  · simp only [if_pos e3]
    refine ((h.put 1 _).iff ?_).congr (cat_congr (fun j hj => ?_))
    · rw [if_neg (by omega), if_neg (by omega)]; simp
    · unfold flagB
      by_cases e : x.n = 0 <;> simp [e]
  simp only [if_neg e3]
  by_cases e4 : x.k = 4
  · simp only [if_pos e4]
    refine (h.put x.nb x.fb).iff ?_
    rw [if_neg (by omega), if_neg (by omega)]; simp
  simp only [if_neg e4]
  by_cases e5 : x.k = 5
  · simp only [if_pos e5]
    have h1 := (h.count x.m x.nb).put x.nb x.fb
    rw [cat_assoc] at h1
    refine (h1.iff ?_).size (by omega)
    simp only [Bool.and_eq_true, decide_eq_true_eq]
    constructor
    · intro h2; exact ⟨⟨h2.1.1.1, h2.1.2.1, h2.1.2.2⟩, by omega⟩
    · intro h2; exact ⟨⟨⟨h2.1.1, by omega⟩, h2.1.2.1, h2.1.2.2⟩, by omega⟩
  simp only [if_neg e5]
  by_cases e6 : x.k = 6
  · simp only [if_pos e6]
    have h1 := (h.count x.m x.nl).nums (fun h2 => h2.1.2) x.fl x.nl
    rw [cat_assoc] at h1
    refine (h1.iff ?_).size (by omega)
    simp only [Bool.and_eq_true, decide_eq_true_eq]
    constructor
    · intro h2; exact ⟨⟨h2.1.1.1, h2.1.2.1, h2.1.2.2⟩, by omega⟩
    · intro h2; exact ⟨⟨⟨h2.1.1, by omega⟩, h2.1.2.1, h2.1.2.2⟩, by omega⟩
  simp only [if_neg e6]
  refine (h.iff ?_).congr (fun j hj => ?_)
  · simp only [Nat.add_zero]
    constructor
    · intro h2; exact ⟨⟨h2, by first | rfl | trivial⟩, hc h2⟩
    · intro h2; exact h2.1.1
  · unfold cat
    rw [if_pos (by omega)]
theorem OIs.fields {s : OSt} {lim : Nat} {F : Nat → Nat} (h : OIs s True lim 0 F) (X : Nat → FV) : ∀ i, OIs (s.fields X i) (putOk X i = true ∧ putN X i ≤ lim) lim (putN X i) (putF X i)
  | 0 => (h.iff ⟨fun _ => ⟨rfl, Nat.zero_le _⟩, fun _ => trivial⟩).congr (fun j hj => absurd hj (Nat.not_lt_zero _))
  | i + 1 => by
    have h1 := (OIs.fields h X i).field (fun h => h.2) (X i)
    refine h1.iff ?_
    show _ ↔ (putOk X i && (X i).oOk) = true ∧ putN X i + (X i).oN ≤ lim
    simp only [Bool.and_eq_true]
    constructor
    · intro h2; exact ⟨⟨h2.1.1.1, h2.1.2⟩, h2.2⟩
    · intro h2; exact ⟨⟨⟨h2.1.1, by omega⟩, h2.1.2⟩, h2.2⟩
theorem OSt.field_bad (x : FV) : OSt.field .bad x = .bad := by
  unfold OSt.field
  have h1 : ∀ m n, OSt.count .bad m n = .bad := fun m n => by
    unfold OSt.count
    split <;> rfl
  have h2 : ∀ fl n, OSt.nums .bad fl n = .bad := fun fl n => OSt.nums_over .bad fl rfl n
  repeat' split
  all_goals first | rfl | (rw [h1]; rfl) | (rw [h1, h2])
theorem OSt.fields_bad (X : Nat → FV) : ∀ n, OSt.fields .bad X n = .bad
  | 0 => rfl
  | n + 1 => by
    show (OSt.fields .bad X n).field (X n) = .bad
    rw [OSt.fields_bad X n, OSt.field_bad]
/-- What stands in a new writer of this limit, when all fields are put. -/
theorem put_new (l : Int) (X : Nat → FV) (n : Nat) : OIs (OSt.fields (if 0 ≤ l then .good l.toNat 0 (fun _ => 0) else .bad) X n) (putOk X n = true ∧ (putN X n : Int) ≤ l) l.toNat (putN X n) (putF X n) := by
  by_cases hl : 0 ≤ l
  · rw [if_pos hl]
    refine (OIs.fields (F := fun _ => 0) ⟨fun _ => ⟨fun _ => 0, rfl, fun _ _ => rfl⟩, fun h => absurd trivial h⟩ X n).iff ?_
    constructor
    · intro h; exact ⟨h.1, by omega⟩
    · intro h; exact ⟨h.1, by omega⟩
  · rw [if_neg hl, OSt.fields_bad]
    exact ⟨fun h => absurd h.2 (by omega), fun _ => rfl⟩
/-- What is then in memory. -/
theorem OIs.at {w0 w : World} {p : Option Addr} {s : OSt} {c : Prop} {lim n : Nat} {F : Nat → Nat} (h : OIs s c lim n F) (ha : OAt w0 w p s) : (c → OAt w0 w p (.good lim n F)) ∧ (¬ c → OAt w0 w p .bad) := by
  refine ⟨fun hc => ?_, fun hc => ?_⟩
  · obtain ⟨G, h1, h2⟩ := h.g hc
    rw [h1] at ha
    exact ha.eqv h2
  · rw [h.f hc] at ha; exact ha
end Go.Proofs.Ytpkeolggehjjlaa
namespace Go.Proofs.Ytpkeolggehjjlaa
open Go.RowKit

set_option maxRecDepth 100000
set_option maxHeartbeats 4000000

theorem cat_lt {n : Nat} {F g : Nat → Nat} (h1 : ∀ j, F j < 256) (h2 : ∀ j, g j < 256) (j : Nat) : cat n F g j < 256 := by
  unfold cat
  split
  · exact h1 j
  · exact h2 _
theorem oF_lt (x : FV) (hx : x.Ok) (j : Nat) : x.oF j < 256 := by
  unfold FV.oF oneF
  by_cases e0 : x.k = 0
  · rw [if_pos e0]; exact nbF_lt _ _ _
  rw [if_neg e0]
  by_cases e1 : x.k = 1
  · rw [if_pos e1]; exact nbF_lt _ _ _
  rw [if_neg e1]
  by_cases e2 : x.k = 2
  · rw [if_pos e2]; exact nbF_lt _ _ _
  rw [if_neg e2]
  by_cases e3 : x.k = 3
  · rw [if_pos e3]
    show (if x.n = 0 then 0 else 1) < 256
    split <;> decide
  rw [if_neg e3]
  by_cases e4 : x.k = 4
  · rw [if_pos e4]; exact hx.fb j
  rw [if_neg e4]
  by_cases e5 : x.k = 5
  · rw [if_pos e5]; exact cat_lt (fun j => nbF_lt _ _ _) hx.fb j
  rw [if_neg e5]
  by_cases e6 : x.k = 6
  · rw [if_pos e6]; exact cat_lt (fun j => nbF_lt _ _ _) (fun j => nbF_lt _ _ _) j
  rw [if_neg e6]
  decide
theorem putF_lt (X : Nat → FV) (hX : ∀ i, (X i).Ok) : ∀ n j, putF X n j < 256
  | 0, _ => by show (0 : Nat) < 256; decide
  | n + 1, j => cat_lt (putF_lt X hX n) (oF_lt (X n) (hX n)) j
theorem wirePuts_any (l : Int) (n c : Nat) (a : Option Addr) (X : Nat → FV) (w : World) (hl : -9223372036854775808 ≤ l ∧ l < 9223372036854775808) (hX : FldsW w w.heap.size a n X) (hn : n ≤ 140737488355328) :
    Calls Try.prog 3 #[.int .i64 l, .slice a n c] w (SaysYes w) := by
  have HK := Lib.hid (known_any w)
  have HX := Lib.hid hX
  have HN := Lib.hid hn
  have HL := Lib.hid hl
  clear hX hn hl
  go_enter Try.func3, Try.ntmps3
  go_wp2_with fail
  go_at_call 6
  refine HK.out.mono ?_
  rintro e w1 ⟨rfl, g1⟩
  have hXW : FldsW w1 w.heap.size a n X := ⟨fun h0 => by
    obtain ⟨tb, o, e1, e2, e3⟩ := HX.out.ex h0
    exact ⟨tb, o, e1, e2, fun i hi => (e3 i hi).grown g1 (by simp)⟩, fun i hi => (HX.out.mem i hi).grown g1 (by simp), HX.out.ok⟩
  have HG := Lib.hid (refGreat_any w.heap.size a n c X w1 hXW HN.out)
  have G1 := Lib.hid g1
  have HXW := Lib.hid hXW
  clear HK g1 hXW HX
  go_wp2_with fail
  go_at_call 7
  refine HG.out.mono ?_
  rintro e w2 ⟨b, rfl, g2, himp⟩
  have G2 := Lib.hid (grown_trans G1.out g2)
  cases b with
  | true =>
    clear himp g2 HG G1
    go_wp2_with fail
    go_ret
    exact ⟨rfl, G2.out⟩
  | false =>
    obtain ⟨hF, hn3, _⟩ := HXW.out.few (himp rfl)
    have hF2 := hF.grown g2 (by simp)
    obtain ⟨Y, hY⟩ : ∃ Y, Y = cutX n X := ⟨_, rfl⟩
    rw [← hY] at hF2
    have HF := Lib.hid hF2
    have HN3 := Lib.hid hn3
    have HO := Lib.hid (newOut_any l HL.out.1 HL.out.2 w2)
    clear himp g2 HG G1 hF hF2 hn3 hY HXW HN
    go_wp2_with fail
    go_at_call 8
    refine HO.out.mono ?_
    rintro e w3 ⟨p, rfl, hO⟩
    have hsl : OSt.len (if 0 ≤ l then .good l.toNat 0 (fun _ => 0) else .bad) = 0 := by split <;> rfl
    have HP := Lib.hid (lawPut_any w.heap.size n c a Y hO HF.out (by have := HN3.out; omega) (by rw [hsl]; decide))
    clear hO HO hsl
    go_wp2_with fail
    go_at_call 9
    refine HP.out.mono ?_
    rintro e w4 ⟨rfl, hO⟩
    obtain ⟨hgood, hbad⟩ := (put_new l Y n).at hO
    have hle := putN_le Y HF.out.ok n
    obtain ⟨N, hN⟩ : ∃ N, N = putN Y n := ⟨_, rfl⟩
    obtain ⟨F, hF⟩ : ∃ F, F = putF Y n := ⟨_, rfl⟩
    have hFlt : ∀ j, F j < 256 := by rw [hF]; exact putF_lt Y HF.out.ok n
    have hFD := HF.out.grown hO.gr (by simp)
    have hDle : w.heap.size ≤ w4.heap.size := Nat.le_trans G2.out.size hO.gr.size
    have G4 := Lib.hid (grown_trans G2.out hO.gr)
    have HF4 := Lib.hid hFD
    have HNle : Hid (N ≤ 2 ^ 46) := by have := HN3.out; rw [hN]; show _ ≤ _; omega
    by_cases hc : putOk Y n = true ∧ (putN Y n : Int) ≤ l
    · have hO2 := hgood hc
      rw [← hN, ← hF] at hO2
      have HB : Hid (Calls Try.prog 10 #[.pointer p] w4 fun e w' => ∃ a c, e = .returned (.tuple #[.slice a N c, .int .i64 0]) ∧ OwnN w' w4.heap.size (.slice a N c) N F ∧ w4.grownBy w' none) := (outBytes_any hO2 HNle.out).mono fun e w' h => h.ex
      have hok : (putOk Y n && decide ((putN Y n : Int) ≤ l)) = true := by rw [hc.1, decide_eq_true hc.2]; rfl
      have HOK := Lib.hid hok
      have HPO := Lib.hid hc.1
      have HNN := Lib.hid hN
      have HFF := Lib.hid hF
      have HLT := Lib.hid hFlt
      have HDL := Lib.hid hDle
      clear hgood hbad hle hN hF hFlt hFD hDle hc hO2 hok hO HP G2 HF
      go_wp2_with fail
      go_at_call 10
      refine HB.out.mono ?_
      rintro e w5 ⟨a5, c5, rfl, hO5, g5⟩
      have HR := Lib.hid (refPut_any l w.heap.size a n c Y w5 (HF4.out.grown g5 (by simp)) (by have := HN3.out; omega) (Nat.le_trans HDL.out g5.size))
      have HO5 := Lib.hid hO5
      have G5 := Lib.hid (grown_trans G4.out g5)
      clear hO5 g5 HB G4 HF4
      go_wp2_with fail
      go_at_call 11
      refine HR.out.mono ?_
      rintro e w6 ⟨⟨v, rfl, hv⟩, g6⟩
      have hv2 := hv HPO.out
      rw [← HNN.out, ← HFF.out] at hv2
      rw [HOK.out]
      obtain ⟨av, cv, rfl, _, hRv⟩ := hv2.rd
      obtain ⟨ax, cx, ex, _, hRx⟩ := (HO5.out.grown g6).rd
      cases ex
      have hcv1 := run_string c5 hRx HLT.out
      have hcv2 := run_string cv hRv HLT.out
      have G6 := Lib.hid (grown_trans G5.out g6)
      clear hv hv2 hRv hRx g6 HR HO5 HOK HPO HNN HFF G5
      go_wp2_with fail
      go_ret
      exact ⟨rfl, G6.out⟩
    · have hO2 := hbad hc
      have HB : Hid (Calls Try.prog 10 #[.pointer p] w4 fun e w' => ∃ a c, e = .returned (.tuple #[.slice a 0 c, .int .i64 3]) ∧ OwnN w' w4.heap.size (.slice a 0 c) 0 (fun _ => 0) ∧ w4.grownBy w' none) := (outBytes_any hO2 (by show (0 : Nat) ≤ _; decide)).mono fun e w' h => h.ex
      have hok : (putOk Y n && decide ((putN Y n : Int) ≤ l)) = false := by
        by_cases h1 : putOk Y n = true
        · rw [decide_eq_false (fun h2 => hc ⟨h1, h2⟩), Bool.and_false]
        · rw [show putOk Y n = false by simpa using h1, Bool.false_and]
      have HOK := Lib.hid hok
      have HDL := Lib.hid hDle
      clear hgood hbad hle hN hF hFlt hFD hDle hc hO2 hok hO HP G2 HF
      go_wp2_with fail
      go_at_call 10
      refine HB.out.mono ?_
      rintro e w5 ⟨a5, c5, rfl, hO5, g5⟩
      have HR := Lib.hid (refPut_any l w.heap.size a n c Y w5 (HF4.out.grown g5 (by simp)) (by have := HN3.out; omega) (Nat.le_trans HDL.out g5.size))
      have G5 := Lib.hid (grown_trans G4.out g5)
      clear hO5 g5 HB G4 HF4
      go_wp2_with fail
      go_at_call 11
      refine HR.out.mono ?_
      rintro e w6 ⟨⟨v, rfl, _⟩, g6⟩
      rw [HOK.out]
      have G6 := Lib.hid (grown_trans G5.out g6)
      clear g6 HR HOK G5
      go_wp2_with fail
      go_ret
      exact ⟨rfl, G6.out⟩
end Go.Proofs.Ytpkeolggehjjlaa
namespace Go.Proofs.Ytpkeolggehjjlaa
open Go.RowKit

set_option maxRecDepth 100000

/-- A field's width, by its bytes. -/
def widA (F : Nat → Nat) (at' k nb : Nat) : Nat := if k = 0 then 1 else if k = 1 then 4 else if k = 2 then 8 else if k = 3 then 1 else if k = 4 then nb else if k = 5 then 2 + ofB8 (fun i => F (at' + i)) 2 else if k = 6 then 2 + 4 * ofB8 (fun i => F (at' + i)) 2 else 0
structure OkA (F : Nat → Nat) (at' k : Nat) (m : Int) : Prop where
  flag : k = 3 → F at' ≤ 1
  cnt : (k = 5 ∨ k = 6) → ¬ m < (ofB8 (fun i => F (at' + i)) 2 : Int)
theorem seven {P : Nat → Prop} (h0 : P 0) (h1 : P 1) (h2 : P 2) (h3 : P 3) (h4 : P 4) (h5 : P 5) (h6 : P 6) (h7 : ∀ k, 7 ≤ k → P k) (k : Nat) : P k := by
  obtain rfl | rfl | rfl | rfl | rfl | rfl | rfl | h : k = 0 ∨ k = 1 ∨ k = 2 ∨ k = 3 ∨ k = 4 ∨ k = 5 ∨ k = 6 ∨ 7 ≤ k := by omega
  all_goals first | assumption | exact h7 k h
theorem field_seven {L k nb : Nat} {F : Nat → Nat} {s : ISt} {m : Int} (h : 7 ≤ k) : ISt.field L F s k nb m = s := by
  unfold ISt.field
  rw [if_neg (by omega), if_neg (by omega), if_neg (by omega), if_neg (by omega), if_neg (by omega), if_neg (by omega), if_neg (by omega)]
theorem widA_seven {k nb at' : Nat} {F : Nat → Nat} (h : 7 ≤ k) : widA F at' k nb = 0 := by
  unfold widA
  rw [if_neg (by omega), if_neg (by omega), if_neg (by omega), if_neg (by omega), if_neg (by omega), if_neg (by omega), if_neg (by omega)]
theorem ofB8_one (f : Nat → Nat) : ofB8 f 1 = f 0 := by
  show 256 * 0 + f 0 = f 0
  omega
structure FieldIs (L at' k nb : Nat) (F : Nat → Nat) (m : Int) : Prop where
  yes : OkA F at' k m → at' + widA F at' k nb ≤ L → ISt.field L F (.good at') k nb m = .good (at' + widA F at' k nb)
  no : ¬ (OkA F at' k m ∧ at' + widA F at' k nb ≤ L) → ISt.field L F (.good at') k nb m = .bad
theorem field_is (L at' nb : Nat) (F : Nat → Nat) (m : Int) (hl : at' ≤ L) (k : Nat) : FieldIs L at' k nb F m := by
  have plain : ∀ w : Nat, (at' + w ≤ L → ISt.take L (.good at') (w : Nat) = .good (at' + w)) ∧ (¬ at' + w ≤ L → ISt.take L (.good at') (w : Nat) = .bad) := fun w =>
    ⟨fun h => (ISt.take_fit (F := F) (by omega)).1, fun h => (ISt.take_not (F := F) (by omega)).1⟩
  refine seven (P := fun k => FieldIs L at' k nb F m) ?_ ?_ ?_ ?_ ?_ ?_ ?_ ?_ k
  · exact ⟨fun _ h => (plain 1).1 h, fun h => (plain 1).2 (fun h2 => h ⟨⟨(fun e => by cases e), fun e => by omega⟩, h2⟩)⟩
  · exact ⟨fun _ h => (plain 4).1 h, fun h => (plain 4).2 (fun h2 => h ⟨⟨(fun e => by cases e), fun e => by omega⟩, h2⟩)⟩
  · exact ⟨fun _ h => (plain 8).1 h, fun h => (plain 8).2 (fun h2 => h ⟨⟨(fun e => by cases e), fun e => by omega⟩, h2⟩)⟩
  · have e1 : ISt.field L F (.good at') 3 nb m = if 1 < ISt.num L F (.good at') 1 then (ISt.take L (.good at') 1).fail else ISt.take L (.good at') 1 := rfl
    by_cases hf : at' + 1 ≤ L
    · have h1 := ISt.take_fit (L := L) (at' := at') (F := F) (n := 1) (by omega)
      have h2 : ISt.num L F (.good at') 1 = F at' := h1.2.2.trans ((ofB8_one _).trans (by rw [Nat.add_zero]))
      have h3 : ISt.take L (.good at') 1 = .good (at' + 1) := h1.1
      rw [h2, h3] at e1
      refine ⟨fun ho _ => ?_, fun h => ?_⟩
      · have := ho.flag rfl
        rw [e1, if_neg (by omega)]
        rfl
      · rw [e1, if_pos]
        · rfl
        · apply Nat.lt_of_not_le
          intro h4
          exact h ⟨⟨fun _ => h4, fun e => by omega⟩, hf⟩
    · have h1 := ISt.take_not (L := L) (at' := at') (F := F) (n := 1) (by omega)
      have h3 : ISt.take L (.good at') 1 = .bad := h1.1
      rw [h1.2.2, h3, if_neg (by omega)] at e1
      exact ⟨fun _ h => absurd h hf, fun _ => e1⟩
  · exact ⟨fun _ h => (plain nb).1 h, fun h => (plain nb).2 (fun h2 => h ⟨⟨(fun e => by cases e), fun e => by omega⟩, h2⟩)⟩
  · obtain ⟨M, hM⟩ : ∃ M, M = ofB8 (fun i => F (at' + i)) 2 := ⟨_, rfl⟩
    have hw : widA F at' 5 nb = 2 + M := by rw [hM]; rfl
    by_cases h2 : 2 ≤ L - at'
    · obtain ⟨f1, f2, f3⟩ := fld5 (L := L) (nb := nb) (F := F) (m := m) h2 rfl hM
      refine ⟨fun ho h => ?_, fun h => ?_⟩
      · have := ho.cnt (Or.inl rfl)
        rw [← hM] at this
        rw [hw] at h ⊢
        rw [(f3 this (by omega)).1]
        congr 1
        omega
      · by_cases hm : m < (M : Int)
        · exact f1 hm
        · refine f2 hm ?_
          apply Nat.lt_of_not_le
          intro h4
          exact h ⟨⟨(fun e => by cases e), fun _ => by rw [← hM]; exact hm⟩, by rw [hw]; omega⟩
    · exact ⟨fun _ h => by rw [hw] at h; omega, fun _ => field_short (by show L - at' < 2; omega)⟩
  · obtain ⟨M, hM⟩ : ∃ M, M = ofB8 (fun i => F (at' + i)) 2 := ⟨_, rfl⟩
    have hw : widA F at' 6 nb = 2 + 4 * M := by rw [hM]; rfl
    by_cases h2 : 2 ≤ L - at'
    · obtain ⟨f1, f2, f3⟩ := fld6 (L := L) (nb := nb) (F := F) (m := m) h2 rfl hM
      refine ⟨fun ho h => ?_, fun h => ?_⟩
      · have := ho.cnt (Or.inr rfl)
        rw [← hM] at this
        rw [hw] at h ⊢
        rw [(f3 this (by omega)).1]
        congr 1
        omega
      · by_cases hm : m < (M : Int)
        · exact f1 hm
        · refine f2 hm ?_
          apply Nat.lt_of_not_le
          intro h4
          exact h ⟨⟨(fun e => by cases e), fun _ => by rw [← hM]; exact hm⟩, by rw [hw]; omega⟩
    · exact ⟨fun _ h => by rw [hw] at h; omega, fun _ => field_short (by show L - at' < 2; omega)⟩
  · intro k h7
    refine ⟨fun _ _ => ?_, fun h => absurd ⟨⟨fun e => by omega, fun e => by omega⟩, ?_⟩ h⟩
    · rw [field_seven h7, widA_seven h7, Nat.add_zero]
    · rw [widA_seven h7]; exact hl
theorem oneN_seven {k nb nl : Nat} (h : 7 ≤ k) : oneN k nb nl = 0 := by
  unfold oneN
  rw [if_neg (by omega), if_neg (by omega), if_neg (by omega), if_neg (by omega), if_neg (by omega), if_neg (by omega), if_neg (by omega)]
theorem oneOk_seven {k nb nl : Nat} {m : Int} (h : 7 ≤ k) : oneOk k nb nl m = true := by
  unfold oneOk
  rw [if_neg (by omega), if_neg (by omega)]
structure Fits (F : Nat → Nat) (at' : Nat) (x : FV) : Prop where
  ok : OkA F at' x.k x.m
  wid : widA F at' x.k x.nb = x.oN
theorem put_fits {F : Nat → Nat} {at' : Nat} (x : FV) (hk : x.oOk = true) (hF : ∀ j, j < x.oN → F (at' + j) = x.oF j) : Fits F at' x := by
  obtain ⟨k, n, ab, nb, cb, fb, al, nl, cl, fl, m⟩ := x
  revert hk hF
  refine seven (P := fun k => FV.oOk ⟨k, n, ab, nb, cb, fb, al, nl, cl, fl, m⟩ = true → (∀ j, j < FV.oN ⟨k, n, ab, nb, cb, fb, al, nl, cl, fl, m⟩ → F (at' + j) = FV.oF ⟨k, n, ab, nb, cb, fb, al, nl, cl, fl, m⟩ j) → Fits F at' ⟨k, n, ab, nb, cb, fb, al, nl, cl, fl, m⟩) ?_ ?_ ?_ ?_ ?_ ?_ ?_ ?_ k
  · exact fun _ _ => ⟨⟨(fun e => by cases e), fun e => by rcases e with e | e <;> cases e⟩, rfl⟩
  · exact fun _ _ => ⟨⟨(fun e => by cases e), fun e => by rcases e with e | e <;> cases e⟩, rfl⟩
  · exact fun _ _ => ⟨⟨(fun e => by cases e), fun e => by rcases e with e | e <;> cases e⟩, rfl⟩
  · refine fun _ hF => ⟨⟨fun _ => ?_, fun e => by rcases e with e | e <;> cases e⟩, rfl⟩
    have h : F at' = if n = 0 then 0 else 1 := hF 0 (by show 0 < 1; decide)
    rw [h]
    split <;> omega
  · exact fun _ _ => ⟨⟨(fun e => by cases e), fun e => by rcases e with e | e <;> cases e⟩, rfl⟩
  · intro hk hF
    have hk' : (decide ((nb : Int) ≤ m) && decide (nb < 65536)) = true := hk
    rw [Bool.and_eq_true, decide_eq_true_eq, decide_eq_true_eq] at hk'
    have e : ofB8 (fun i => F (at' + i)) 2 = nb := (ofB8_congr _ (nbF nb 2) 2 (fun i hi => (hF i (by show i < 2 + nb; omega)).trans (if_pos hi))).trans (ofB8_number nb 2 hk'.2)
    refine ⟨⟨(fun e => by cases e), fun _ => ?_⟩, ?_⟩
    · rw [e]; show ¬ m < (nb : Int); omega
    · show 2 + ofB8 (fun i => F (at' + i)) 2 = 2 + nb
      rw [e]
  · intro hk hF
    have hk' : (decide ((nl : Int) ≤ m) && decide (nl < 65536)) = true := hk
    rw [Bool.and_eq_true, decide_eq_true_eq, decide_eq_true_eq] at hk'
    have e : ofB8 (fun i => F (at' + i)) 2 = nl := (ofB8_congr _ (nbF nl 2) 2 (fun i hi => (hF i (by show i < 2 + 4 * nl; omega)).trans (if_pos hi))).trans (ofB8_number nl 2 hk'.2)
    refine ⟨⟨(fun e => by cases e), fun _ => ?_⟩, ?_⟩
    · rw [e]; show ¬ m < (nl : Int); omega
    · show 2 + 4 * ofB8 (fun i => F (at' + i)) 2 = 2 + 4 * nl
      rw [e]
  · intro k h7 _ _
    have h7' : 7 ≤ (⟨k, n, ab, nb, cb, fb, al, nl, cl, fl, m⟩ : FV).k := h7
    refine ⟨⟨fun e => by omega, fun e => by omega⟩, ?_⟩
    rw [widA_seven h7']
    exact (oneN_seven h7).symm
theorem num_put {L at' N w : Nat} {F : Nat → Nat} (hF : ∀ i, F i < 256) (hw : at' + w ≤ L) (h : N = ISt.num L F (.good at') w) : N < 256 ^ w ∧ ∀ j, j < w → nbF N w j = F (at' + j) := by
  have h1 := ISt.take_fit (L := L) (at' := at') (F := F) (n := w) (by omega)
  rw [h, h1.2.2]
  exact ⟨ofB8_lt _ (fun i => hF _) w, fun j hj => nbF_ofB8 _ (fun i => hF _) w j hj⟩
structure PutsIt (L at' b : Nat) (F : Nat → Nat) (y : FV) : Prop where
  le : b ≤ L
  eq : b = at' + y.oN
  ok : y.oOk = true
  f : ∀ j, j < y.oN → y.oF j = F (at' + j)
theorem taken_put {L at' b : Nat} {F : Nat → Nat} (x y : FV) (hl : at' ≤ L) (hF : ∀ i, F i < 256) (hT : TakenF L F (.good at') x y) (hb : ISt.field L F (.good at') x.k x.nb x.m = .good b) : PutsIt L at' b F y := by
  obtain ⟨k, n, ab, nb, cb, fb, al, nl, cl, fl, m⟩ := x
  obtain ⟨k', n', ab', nb', cb', fb', al', nl', cl', fl', m'⟩ := y
  have hFI := field_is L at' nb F m hl k
  have hc : OkA F at' k m ∧ at' + widA F at' k nb ≤ L := by
    apply Classical.byContradiction
    intro h
    have := (hFI.no h).symm.trans hb
    cases this
  have hbw : b = at' + widA F at' k nb := by
    have := (hFI.yes hc.1 hc.2).symm.trans hb
    cases this
    rfl
  obtain ⟨hok, hwL⟩ := hc
  have hTk : k' = k := hT.k
  have hTm : m' = m := hT.m
  subst hTk
  subst hTm
  have hTn := hT.n
  have hTnb := hT.nb
  have hTfb := hT.fb
  have hTnl := hT.nl
  have hTfl := hT.fl
  clear hT hFI hb
  refine seven (P := fun k' => OkA F at' k' m' → at' + widA F at' k' nb ≤ L → b = at' + widA F at' k' nb → n' = ISt.fldN L F (.good at') k' → nb' = ISt.fldB L F (.good at') k' nb m' → (∀ i, i < nb' → fb' i = ISt.fldF L F (.good at') k' m' i) → nl' = ISt.fldL L F (.good at') k' m' → (∀ i, i < nl' → fl' i = ISt.fldG L F (.good at') k' m' i) → PutsIt L at' b F ⟨k', n', ab', nb', cb', fb', al', nl', cl', fl', m'⟩) ?_ ?_ ?_ ?_ ?_ ?_ ?_ ?_ k' hok hwL hbw hTn hTnb hTfb hTnl hTfl
  all_goals clear hok hwL hbw hTn hTnb hTfb hTnl hTfl
  · intro _ hwL hbw hTn _ _ _ _
    have hwL' : at' + 1 ≤ L := hwL
    obtain ⟨h1, h2⟩ := num_put hF hwL' hTn
    refine ⟨by rw [hbw]; exact hwL, hbw, rfl, fun j hj => ?_⟩
    show nbF (n' % 256) 1 j = _
    rw [Nat.mod_eq_of_lt h1]
    exact h2 j hj
  · intro _ hwL hbw hTn _ _ _ _
    have hwL' : at' + 4 ≤ L := hwL
    obtain ⟨h1, h2⟩ := num_put hF hwL' hTn
    refine ⟨by rw [hbw]; exact hwL, hbw, rfl, fun j hj => ?_⟩
    show nbF (n' % 4294967296) 4 j = _
    rw [Nat.mod_eq_of_lt h1]
    exact h2 j hj
  · intro _ hwL hbw hTn _ _ _ _
    have hwL' : at' + 8 ≤ L := hwL
    obtain ⟨h1, h2⟩ := num_put hF hwL' hTn
    refine ⟨by rw [hbw]; exact hwL, hbw, rfl, fun j hj => ?_⟩
    show nbF n' 8 j = _
    exact h2 j hj
  · intro hok hwL hbw hTn _ _ _ _
    have hwL' : at' + 1 ≤ L := hwL
    have h1 := ISt.take_fit (L := L) (at' := at') (F := F) (n := 1) (by omega)
    have h2 : ISt.num L F (.good at') 1 = F at' := h1.2.2.trans ((ofB8_one _).trans (by rw [Nat.add_zero]))
    have h3 : n' = if ISt.num L F (.good at') 1 = 1 then 1 else 0 := hTn
    rw [h2] at h3
    have h4 := hok.flag rfl
    refine ⟨by rw [hbw]; exact hwL, hbw, rfl, fun j hj => ?_⟩
    have hj' : j < 1 := hj
    obtain rfl : j = 0 := by omega
    show (if n' = 0 then 0 else 1) = F (at' + 0)
    rw [Nat.add_zero, h3]
    by_cases e : F at' = 1
    · rw [if_pos e, e]; rfl
    · rw [if_neg e, if_pos rfl]; omega
  · intro _ hwL hbw _ hTnb hTfb _ _
    have hwL' : at' + nb ≤ L := hwL
    have h1 := ISt.take_fit (L := L) (at' := at') (F := F) (n := nb) (by omega)
    have h2 : nb' = nb := hTnb.trans h1.2.1
    subst h2
    exact ⟨by rw [hbw]; exact hwL, hbw, rfl, fun j hj => hTfb j hj⟩
  · intro hok hwL hbw _ hTnb hTfb _ _
    obtain ⟨M, hM⟩ : ∃ M, M = ofB8 (fun i => F (at' + i)) 2 := ⟨_, rfl⟩
    have hw : widA F at' 5 nb = 2 + M := by rw [hM]; rfl
    rw [hw] at hwL hbw
    have hm := hok.cnt (Or.inl rfl)
    rw [← hM] at hm
    obtain ⟨_, g2, g3⟩ := (fld5 (L := L) (nb := nb) (F := F) (m := m') (by omega) rfl hM).2.2 hm (by omega)
    rw [g2] at hTnb
    rw [g3] at hTfb
    subst hTnb
    have hlt : nb' < 65536 := by rw [hM]; exact ofB8_lt _ (fun i => hF _) 2
    refine ⟨by omega, hbw, ?_, fun j hj => ?_⟩
    · show (decide ((nb' : Int) ≤ m') && decide (nb' < 65536)) = true
      rw [Bool.and_eq_true, decide_eq_true_eq, decide_eq_true_eq]
      omega
    · show cat 2 (nbF nb' 2) fb' j = _
      have hj' : j < 2 + nb' := hj
      unfold cat
      by_cases e : j < 2
      · rw [if_pos e, hM]
        exact nbF_ofB8 _ (fun i => hF _) 2 j e
      · rw [if_neg e, hTfb (j - 2) (by omega)]
        show F (at' + 2 + (j - 2)) = _
        congr 1
        omega
  · intro hok hwL hbw _ _ _ hTnl hTfl
    obtain ⟨M, hM⟩ : ∃ M, M = ofB8 (fun i => F (at' + i)) 2 := ⟨_, rfl⟩
    have hw : widA F at' 6 nb = 2 + 4 * M := by rw [hM]; rfl
    rw [hw] at hwL hbw
    have hm := hok.cnt (Or.inr rfl)
    rw [← hM] at hm
    obtain ⟨_, g2, g3⟩ := (fld6 (L := L) (nb := nb) (F := F) (m := m') (by omega) rfl hM).2.2 hm (by omega)
    rw [g2] at hTnl
    subst hTnl
    have hlt : nl' < 65536 := by rw [hM]; exact ofB8_lt _ (fun i => hF _) 2
    refine ⟨by omega, hbw, ?_, fun j hj => ?_⟩
    · show (decide ((nl' : Int) ≤ m') && decide (nl' < 65536)) = true
      rw [Bool.and_eq_true, decide_eq_true_eq, decide_eq_true_eq]
      omega
    · show cat 2 (nbF nl' 2) (lstB fl') j = _
      have hj' : j < 2 + 4 * nl' := hj
      unfold cat
      by_cases e : j < 2
      · rw [if_pos e, hM]
        exact nbF_ofB8 _ (fun i => hF _) 2 j e
      · rw [if_neg e]
        unfold lstB
        have hq : (j - 2) / 4 < nl' := by omega
        rw [hTfl _ hq, g3 _ hq, nbF_ofB8 _ (fun i => hF _) 4 ((j - 2) % 4) (by omega)]
        congr 1
        omega
  · intro k h7 _ hwL hbw _ _ _ _ _
    rw [widA_seven h7] at hwL hbw
    have h0 : FV.oN ⟨k, n', ab', nb', cb', fb', al', nl', cl', fl', m'⟩ = 0 := oneN_seven h7
    exact ⟨by omega, by rw [h0]; exact hbw, oneOk_seven h7, fun j hj => by rw [h0] at hj; omega⟩
theorem putN_mono (X : Nat → FV) (i : Nat) : ∀ n, i ≤ n → putN X i ≤ putN X n
  | 0, h => by rw [show i = 0 by omega]; exact Nat.le_refl _
  | n + 1, h => by
    by_cases e : i = n + 1
    · rw [e]; exact Nat.le_refl _
    · have := putN_mono X i n (by omega)
      show putN X i ≤ putN X n + (X n).oN
      omega
theorem putF_at (X : Nat → FV) (i j : Nat) (hj : j < (X i).oN) : ∀ n, i < n → putF X n (putN X i + j) = (X i).oF j
  | n + 1, h => by
    show cat (putN X n) (putF X n) (X n).oF (putN X i + j) = _
    unfold cat
    by_cases e : i = n
    · subst e
      rw [if_neg (by omega), Nat.add_sub_cancel_left]
    · have h1 : putN X i + (X i).oN ≤ putN X n := putN_mono X (i + 1) n (by omega)
      rw [if_pos (by omega)]
      exact putF_at X i j hj n (by omega)
theorem putOk_at (X : Nat → FV) (i : Nat) : ∀ n, i < n → putOk X n = true → (X i).oOk = true
  | n + 1, h, hk => by
    have hk' : (putOk X n && (X n).oOk) = true := hk
    rw [Bool.and_eq_true] at hk'
    by_cases e : i = n
    · rw [e]; exact hk'.2
    · exact putOk_at X i n (by omega) hk'.1
/-- What was put is taken, as far as it goes. -/
structure Goes (L : Nat) (F : Nat → Nat) (X : Nat → FV) (i : Nat) : Prop where
  yes : putN X i ≤ L → ISt.fields L F (.good 0) X i = .good (putN X i)
  no : L < putN X i → ISt.fields L F (.good 0) X i = .bad
theorem fields_put (X : Nat → FV) (n L : Nat) (F : Nat → Nat) (hk : putOk X n = true) (hF : ∀ j, j < putN X n → F j = putF X n j) : ∀ i, i ≤ n → Goes L F X i
  | 0, _ => ⟨fun _ => rfl, fun h => absurd h (Nat.not_lt_zero _)⟩
  | i + 1, h => by
    have ih := fields_put X n L F hk hF i (by omega)
    have hle : putN X i + (X i).oN ≤ putN X n := putN_mono X (i + 1) n h
    have hfit := put_fits (F := F) (at' := putN X i) (X i) (putOk_at X i n (by omega) hk) (fun j hj => (hF _ (by omega)).trans (putF_at X i j hj n (by omega)))
    have e1 : ISt.fields L F (.good 0) X (i + 1) = (ISt.fields L F (.good 0) X i).field L F (X i).k (X i).nb (X i).m := rfl
    have e2 : putN X (i + 1) = putN X i + (X i).oN := rfl
    by_cases hl : putN X i ≤ L
    · have hFI := field_is L (putN X i) (X i).nb F (X i).m hl (X i).k
      have hy := hFI.yes hfit.ok
      have hn := hFI.no
      rw [hfit.wid] at hy hn
      refine ⟨fun h1 => ?_, fun h1 => ?_⟩
      · rw [e1, ih.yes hl]; exact hy h1
      · rw [e1, ih.yes hl]; exact hn (fun h2 => by omega)
    · refine ⟨fun h1 => by omega, fun _ => ?_⟩
      rw [e1, ih.no (by omega)]
      exact ISt.field_bad L F _ _ _
/-- What is taken is put as it was. -/
structure PutsAll (L : Nat) (F : Nat → Nat) (Y : Nat → FV) (i b : Nat) : Prop where
  le : b ≤ L
  n : b = putN Y i
  ok : putOk Y i = true
  f : ∀ j, j < b → putF Y i j = F j
theorem fields_taken (X Y : Nat → FV) (n L : Nat) (F : Nat → Nat) (hF : ∀ i, F i < 256) (hT : ∀ q, q < n → TakenF L F (ISt.fields L F (.good 0) X q) (X q) (Y q)) : ∀ i, i ≤ n → ∀ b, ISt.fields L F (.good 0) X i = .good b → PutsAll L F Y i b
  | 0, _, b, hb => by
    have hb' : ISt.good 0 = .good b := hb
    cases hb'
    exact ⟨Nat.zero_le _, rfl, rfl, fun j hj => absurd hj (Nat.not_lt_zero _)⟩
  | i + 1, h, b, hb => by
    have ih := fields_taken X Y n L F hF hT i (by omega)
    have hT' := hT i (by omega)
    have e1 : (ISt.fields L F (.good 0) X i).field L F (X i).k (X i).nb (X i).m = .good b := hb
    generalize ISt.fields L F (.good 0) X i = s at *
    cases s with
    | nil => rw [ISt.field_nil] at e1; cases e1
    | bad => rw [ISt.field_bad] at e1; cases e1
    | good a =>
      have h1 := ih a rfl
      have h2 := taken_put (X i) (Y i) h1.le hF hT' e1
      refine ⟨h2.le, ?_, ?_, fun j hj => ?_⟩
      · show b = putN Y i + (Y i).oN
        rw [← h1.n]; exact h2.eq
      · show (putOk Y i && (Y i).oOk) = true
        rw [h1.ok, h2.ok]; rfl
      · show cat (putN Y i) (putF Y i) (Y i).oF j = F j
        have he := h2.eq
        have hn := h1.n
        unfold cat
        by_cases e : j < putN Y i
        · rw [if_pos e]; exact h1.f j (by omega)
        · rw [if_neg e, h2.f _ (by omega)]
          congr 1
          omega
end Go.Proofs.Ytpkeolggehjjlaa
namespace Go.Proofs.Ytpkeolggehjjlaa
open Go.RowKit

set_option maxRecDepth 100000
set_option maxHeartbeats 4000000

/-- What Bytes gives, behind put. -/
structure Wrote (w : World) (l : Int) (Y : Nat → FV) (n : Nat) (e : Ending) (w' : World) : Prop where
  ex : ∃ a c M code, e = .returned (.tuple #[.slice a M c, .int .i64 code]) ∧ w.grownBy w' none ∧
    ((code = 0 ∧ M = putN Y n ∧ putOk Y n = true ∧ (putN Y n : Int) ≤ l ∧ M ≤ c ∧ Rd w' w'.heap.size a M (putF Y n)) ∨ (code = 3 ∧ ¬ (putOk Y n = true ∧ (putN Y n : Int) ≤ l)))
theorem wrote_any {w0 w : World} {p : Option Addr} (l : Int) (Y : Nat → FV) (n : Nat) (h : OAt w0 w p (OSt.fields (if 0 ≤ l then .good l.toNat 0 (fun _ => 0) else .bad) Y n)) (hle : putN Y n ≤ 2 ^ 46) :
    Calls Try.prog 10 #[.pointer p] w (Wrote w l Y n) := by
  obtain ⟨hgood, hbad⟩ := (put_new l Y n).at h
  by_cases hc : putOk Y n = true ∧ (putN Y n : Int) ≤ l
  · refine (outBytes_any (hgood hc) hle).mono fun e w' ⟨a, c, h1, h2, h3⟩ => ⟨a, c, putN Y n, 0, h1, h3, Or.inl ⟨rfl, rfl, hc.1, hc.2, ?_⟩⟩
    have h2' : OwnN w' w.heap.size (.slice a (putN Y n) c) (putN Y n) (putF Y n) := h2
    obtain ⟨a', c', e, h4, h5⟩ := h2'.rd
    cases e
    exact ⟨h4, h5⟩
  · exact (outBytes_any (hbad hc) (by show (0 : Nat) ≤ _; decide)).mono fun e w' ⟨a, c, h1, _, h3⟩ => ⟨a, c, 0, 3, h1, h3, Or.inr ⟨rfl, hc⟩⟩
theorem new_len (l : Int) : OSt.len (if 0 ≤ l then .good l.toNat 0 (fun _ => 0) else .bad) ≤ 2 ^ 45 := by
  split
  · exact Nat.zero_le _
  · exact Nat.zero_le _
theorem code_end (N : Nat) : (ISt.good N).code N = 0 := by
  show (if 0 < N - N then (9 : Int) else 0) = 0
  rw [Nat.sub_self]
  rfl
theorem wireBack_any (n0 c0 n1 c1 : Nat) (x2 : Int) (a0 a1 : Option Addr) (X0 : Nat → FV) (f1 : Nat → Nat) (w : World) (hX : FldsW w w.heap.size a0 n0 X0) (hn0 : n0 ≤ 140737488355328) (hR : Rd w w.heap.size a1 n1 f1) (hc1 : n1 ≤ c1) (_hn1 : n1 ≤ 140737488355328) (hf : ∀ i, f1 i < 256) (hx : -9223372036854775808 ≤ x2 ∧ x2 < 9223372036854775808) :
    Calls Try.prog 5 #[.slice a0 n0 c0, .slice a1 n1 c1, .int .i64 x2] w (SaysYes w) := by
  have HK := Lib.hid (known_any w)
  have HX := Lib.hid hX
  have HN := Lib.hid hn0
  have HR := Lib.hid hR
  have HC := Lib.hid hc1
  have HFL := Lib.hid hf
  have HXX := Lib.hid hx
  obtain ⟨D, hD⟩ : ∃ D, D = w.heap.size := ⟨_, rfl⟩
  rw [← hD] at HX HR
  have HD := Lib.hid hD
  clear hX hn0 hR hc1 hf hx hD
  go_enter Try.func5, Try.ntmps5
  go_wp2_with fail
  go_at_call 6
  refine HK.out.mono ?_
  rintro e w1 ⟨rfl, g1⟩
  have hXW : FldsW w1 D a0 n0 X0 := ⟨fun h0 => by
    obtain ⟨tb, o, e1, e2, e3⟩ := HX.out.ex h0
    exact ⟨tb, o, e1, e2, fun i hi => (e3 i hi).grown g1 (by simp)⟩, fun i hi => (HX.out.mem i hi).grown g1 (by simp), HX.out.ok⟩
  have HG := Lib.hid (refGreat_any D a0 n0 c0 X0 w1 hXW HN.out)
  have G1 := Lib.hid g1
  have HXW := Lib.hid hXW
  have HR1 := Lib.hid (HR.out.grown g1 (by simp))
  clear HK g1 hXW HX HR
  by_cases h20 : 20000 < n1
  · have j20 : (20000 : Int) < (n1 : Int) := by omega
    go_wp2_with fail
    go_at_call 7
    refine HG.out.mono ?_
    rintro e w2 ⟨b, rfl, g2, himp⟩
    have G2 := Lib.hid (grown_trans G1.out g2)
    clear himp g2 HG G1
    cases b with
    | true =>
      go_wp2_with fail
      go_ret
      exact ⟨rfl, G2.out⟩
    | false =>
      go_wp2_with fail
      go_ret
      exact ⟨rfl, G2.out⟩
  have j20 : ¬ (20000 : Int) < (n1 : Int) := by omega
  have HN1 : Hid (n1 ≤ 20000) := by show _ ≤ _; omega
  go_wp2_with fail
  go_at_call 7
  refine HG.out.mono ?_
  rintro e w2 ⟨b, rfl, g2, himp⟩
  have G2 := Lib.hid (grown_trans G1.out g2)
  cases b with
  | true =>
    clear himp g2 HG G1
    go_wp2_with fail
    go_ret
    exact ⟨rfl, G2.out⟩
  | false =>
    obtain ⟨hF, hn3, _⟩ := HXW.out.few (himp rfl)
    have hF2 := hF.grown g2 (by simp)
    obtain ⟨X, hX⟩ : ∃ X, X = cutX n0 X0 := ⟨_, rfl⟩
    rw [← hX] at hF2
    have HF := Lib.hid hF2
    have HN3 : Hid (n0 ≤ 3000) := by show _ ≤ _; omega
    have HR2 := Lib.hid (HR1.out.grown g2 (by simp))
    have HO := Lib.hid (newOut_any 1048576 (by decide) (by decide) w2)
    have HPN : Hid (putN X n0 ≤ 2 ^ 46) := by
      have := putN_le X hF2.ok n0
      show _ ≤ _
      omega
    clear himp g2 HG G1 hF hF2 hn3 hX HXW HN HR1 h20
    go_wp2_with fail
    go_at_call 8
    refine HO.out.mono ?_
    rintro e w3 ⟨p, rfl, hO⟩
    have HP := Lib.hid (lawPut_any D n0 c0 a0 X hO HF.out (by have := HN3.out; omega) (new_len _))
    clear hO HO
    go_wp2_with fail
    go_at_call 9
    refine HP.out.mono ?_
    rintro e w4 ⟨rfl, hO⟩
    have HB := Lib.hid (wrote_any 1048576 X n0 hO HPN.out)
    have G4 := Lib.hid hO.gr
    clear HP hO
    go_wp2_with fail
    go_at_call 10
    refine HB.out.mono ?_
    rintro e w5 ⟨a5, c5, M, code, rfl, g5, hcase⟩
    have HCS := Lib.hid hcase
    have hg25 := grown_trans G4.out g5
    have HF5 := Lib.hid (HF.out.grown hg25 (by simp))
    have HR5 := Lib.hid (HR2.out.grown hg25 (by simp))
    have G5 := Lib.hid (grown_trans G2.out hg25)
    clear hcase g5 hg25 HB G4 G2 HF HR2
    go_upto_if 40 with fail
    go_cut [10] (fun _ wx => w5.grownBy wx none)
    case first =>
      rcases HCS.out with ⟨rfl, hM, hok, hle, hMc, hRd⟩ | ⟨rfl, _⟩
      · obtain ⟨F, hFd⟩ : ∃ F, F = putF X n0 := ⟨_, rfl⟩
        have hFlt : ∀ j, F j < 256 := by rw [hFd]; exact putF_lt X HF5.out.ok n0
        have hle' : M ≤ 1048576 := by rw [hM]; omega
        have hgoes : ∀ L, Goes L F X n0 := fun L => fields_put X n0 L F hok (fun j _ => by rw [hFd]) n0 (Nat.le_refl _)
        rw [← hM] at hle
        have hgM : ISt.fields M F (.good 0) X n0 = .good M := by
          have := (hgoes M).yes (by rw [hM]; exact Nat.le_refl _)
          rwa [← hM] at this
        have hgL : ∀ L, L < M → ISt.fields L F (.good 0) X n0 = .bad := fun L hL => (hgoes L).no (by rw [← hM]; exact hL)
        rw [← hFd] at hRd
        have HLT := Lib.hid hFlt
        have HLE := Lib.hid hle'
        have HGM := Lib.hid hgM
        have HGL := Lib.hid hgL
        have HMC := Lib.hid hMc
        have HRD := Lib.hid hRd
        have HDW : Hid (D ≤ w5.heap.size) := by have := HD.out; have := G5.out.size; show _ ≤ _; omega
        have HI := Lib.hid (newInF_any w5.heap.size M c5 a5 F w5 hRd (by omega))
        clear hM hok hle hMc hRd hFd hFlt hle' hgoes hgM hgL HCS HPN
        go_wp2_with fail
        go_at_call 12
        refine HI.out.mono ?_
        rintro e w6 ⟨p6, rfl, hI6, hp6, g6, _⟩
        have HT := Lib.hid (lawTake_any D n0 c0 a0 X hI6 HLT.out (HF5.out.grown g6 (by simp)) (by have := HN3.out; omega) (fun g hg => Nat.le_trans HDW.out (hp6 g hg)) HLE.out)
        have HP6 := Lib.hid (row_ge hI6 hp6)
        have G6 := Lib.hid g6
        clear hI6 hp6 g6 HI
        go_wp2_with fail
        go_at_call 13
        refine HT.out.mono ?_
        rintro e w7 ⟨⟨a7, c7, Y7, rfl, hK7, hT7, hY7⟩, hI7, g7⟩
        rw [HGM.out] at hI7
        have hPA := fields_taken X Y7 n0 M F HLT.out hT7 n0 (Nat.le_refl _) M HGM.out
        have hF7 := hK7.flds hY7
        have hg57 : w5.grownBy w7 none := grown_row G6.out g7 HP6.out
        have HO := Lib.hid (newOut_any (M : Int) (by omega) (by have := HLE.out; omega) w7)
        have HI7 := Lib.hid hI7
        have HPA := Lib.hid hPA
        have HF7 := Lib.hid hF7
        have G7 := Lib.hid hg57
        clear hK7 hT7 hY7 hI7 g7 hPA hF7 hg57 HP6 G6 HT
        go_wp2_with fail
        go_at_call 8
        refine HO.out.mono ?_
        rintro e w8 ⟨p8, rfl, hO8⟩
        have HP := Lib.hid (lawPut_any w7.heap.size n0 c7 a7 Y7 hO8 HF7.out (by have := HN3.out; omega) (new_len _))
        clear hO8 HO
        go_wp2_with fail
        go_at_call 9
        refine HP.out.mono ?_
        rintro e w9 ⟨rfl, hO9⟩
        have HB := Lib.hid (wrote_any (M : Int) Y7 n0 hO9 (by rw [← HPA.out.n]; have := HLE.out; omega))
        have HI9 := Lib.hid (HI7.out.grown0 hO9.gr)
        have G9 := Lib.hid (grown_trans G7.out hO9.gr)
        clear hO9 HP HI7 G7
        go_wp2_with fail
        go_at_call 10
        refine HB.out.mono ?_
        rintro e w10 ⟨a10, c10, M2, code, rfl, g10, hcase⟩
        rcases hcase with ⟨rfl, hM2, _, _, _, hRd⟩ | ⟨rfl, hno⟩
        · have hE := inEnd_any (HI9.out.grown0 g10)
          rw [code_end] at hE
          have HE := Lib.hid hE
          obtain rfl : M2 = M := hM2.trans HPA.out.n.symm
          have G10 := Lib.hid (grown_trans G9.out g10)
          have hs1 := run_string c5 (HRD.out.grown G10.out (by simp)) HLT.out
          have hs2 := run_string c10 (hRd.congr (fun j hj => HPA.out.f j hj)) HLT.out
          clear hE hM2 g10 hRd HPA HI9 G9 HB HGM HF7
          by_cases hcut : 0 ≤ x2 ∧ x2 < (M2 : Int)
          · obtain ⟨h0, h1⟩ := hcut
            have h2 : x2 ≤ (c5 : Int) := by have := HMC.out; omega
            obtain ⟨q, hq⟩ : ∃ q, q = x2.toNat := ⟨_, rfl⟩
            have hqM : q < M2 := by omega
            have hRq : Rd w10 w5.heap.size a5 q F := ⟨fun hp => by
              obtain ⟨tb, o, e1, e2, e3⟩ := (HRD.out.grown G10.out (by simp)).ex (by omega)
              exact ⟨tb, o, e1, e2, fun i hi => e3 i (by omega)⟩⟩
            have HI := Lib.hid (newInF_any w5.heap.size q c5 a5 F w10 hRq (by have := HLE.out; omega))
            have HQM := Lib.hid hqM
            have HF10 := Lib.hid (HF5.out.grown G10.out (by simp))
            have HDW2 := Lib.hid (Nat.le_trans HDW.out G10.out.size)
            clear hqM hRq
            subst hq
            go_wp2_with fail
            go_at_call 16
            refine HE.out.mono ?_
            rintro e w11 ⟨rfl, rfl⟩
            clear HE
            go_wp2_with fail
            go_at_call 12
            refine HI.out.mono ?_
            rintro e w12 ⟨p12, rfl, hI12, hp12, g12, _⟩
            have HT := Lib.hid (lawTake_any D n0 c0 a0 X hI12 HLT.out (HF10.out.grown g12 (by simp)) (by have := HN3.out; omega) (fun g hg => Nat.le_trans HDW2.out (hp12 g hg)) (by have := HQM.out; have := HLE.out; omega))
            have HP12 := Lib.hid (row_ge hI12 hp12)
            have G12 := Lib.hid g12
            clear hI12 hp12 g12 HI
            go_wp2_with fail
            go_at_call 13
            refine HT.out.mono ?_
            rintro e w13 ⟨⟨a13, c13, Y13, rfl, _, _, _⟩, hI13, g13⟩
            rw [HGL.out _ HQM.out] at hI13
            have HE := Lib.hid (inEnd_any hI13)
            have G13 := Lib.hid (grown_trans G10.out (grown_row G12.out g13 HP12.out))
            clear hI13 g13 HP12 G12 HT
            go_wp2_with fail
            go_at_call 16
            refine HE.out.mono ?_
            rintro e w14 ⟨rfl, rfl⟩
            clear HE
            go_wp2_with fail
            go_meet
            case rel => exact G13.out
          · go_wp2_with fail
            go_at_call 16
            refine HE.out.mono ?_
            rintro e w11 ⟨rfl, rfl⟩
            by_cases h0 : 0 ≤ x2
            · have h1 : ¬ x2 < (M2 : Int) := fun h => hcut ⟨h0, h⟩
              clear hcut
              go_wp2_with fail
              go_meet
              case rel => exact G10.out
            · clear hcut
              go_wp2_with fail
              go_meet
              case rel => exact G10.out
        · exact absurd ⟨HPA.out.ok, by rw [← HPA.out.n]; exact Int.le_refl _⟩ hno
      · clear HCS
        go_wp2_with fail
        go_meet
        case rel => exact grown_refl w5 none
    case rest =>
      have HFc := Lib.hid (HF5.out.grown hcut (by simp))
      have hRc := HR5.out.grown hcut (by simp)
      have HRc := Lib.hid hRc
      have Gc := Lib.hid (grown_trans G5.out hcut)
      have HDc : Hid (D ≤ wc.heap.size) := by have := HD.out; have := Gc.out.size; show _ ≤ _; omega
      have HI := Lib.hid (newInF_any D n1 c1 a1 f1 wc hRc (by have := HN1.out; omega))
      clear hRc hcut HF5 HR5 G5 HCS HPN
      go_wp2_with fail
      go_at_call 12
      refine HI.out.mono ?_
      rintro e w6 ⟨p6, rfl, hI6, hp6, g6, _⟩
      have HT := Lib.hid (lawTake_any D n0 c0 a0 X hI6 HFL.out (HFc.out.grown g6 (by simp)) (by have := HN3.out; omega) (fun g hg => Nat.le_trans HDc.out (hp6 g hg)) (by have := HN1.out; omega))
      have HP6 := Lib.hid (row_ge hI6 hp6)
      have G6 := Lib.hid g6
      clear hI6 hp6 g6 HI
      go_wp2_with fail
      go_at_call 13
      refine HT.out.mono ?_
      rintro e w7 ⟨⟨a7, c7, Y7, rfl, hK7, hT7, hY7⟩, hI7, g7⟩
      have HPA : Hid (∀ b, ISt.fields n1 f1 (.good 0) X n0 = .good b → PutsAll n1 f1 Y7 n0 b) := fields_taken X Y7 n0 n1 f1 HFL.out hT7 n0 (Nat.le_refl _)
      have HF7 := Lib.hid (hK7.flds hY7)
      have hgc7 : wc.grownBy w7 none := grown_row G6.out g7 HP6.out
      have HRc7 := Lib.hid (HRc.out.grown hgc7 (by simp))
      have G7 := Lib.hid (grown_trans Gc.out hgc7)
      have hE := inEnd_any hI7
      have HI7 := Lib.hid hI7
      clear hK7 hT7 hY7 hI7 g7 hgc7 HP6 G6 HT HFc HRc
      generalize ISt.fields n1 f1 (.good 0) X n0 = s at *
      have HE := Lib.hid hE
      clear hE
      by_cases hs : s.code n1 = 0
      · rw [hs] at HE
        obtain ⟨b, rfl⟩ : ∃ b, s = .good b := by
          cases s with
          | nil => cases hs
          | bad => cases hs
          | good b => exact ⟨b, rfl⟩
        have hPA := HPA.out b rfl
        have hb : b = n1 := by
          have hle := hPA.le
          have hs' : (if 0 < n1 - b then (9 : Int) else 0) = 0 := hs
          by_cases e : 0 < n1 - b
          · rw [if_pos e] at hs'; cases hs'
          · omega
        rw [hb] at hPA
        have HPB := Lib.hid hPA
        have HO := Lib.hid (newOut_any (n1 : Int) (by omega) (by have := HN1.out; omega) w7)
        clear hPA hb hs HPA HI7
        go_wp2_with fail
        go_at_call 16
        refine HE.out.mono ?_
        rintro e w8 ⟨rfl, rfl⟩
        clear HE
        go_wp2_with fail
        go_at_call 8
        refine HO.out.mono ?_
        rintro e w8 ⟨p8, rfl, hO8⟩
        have HP := Lib.hid (lawPut_any w7.heap.size n0 c7 a7 Y7 hO8 HF7.out (by have := HN3.out; omega) (new_len _))
        clear hO8 HO
        go_wp2_with fail
        go_at_call 9
        refine HP.out.mono ?_
        rintro e w9 ⟨rfl, hO9⟩
        have HB := Lib.hid (wrote_any (n1 : Int) Y7 n0 hO9 (by rw [← HPB.out.n]; have := HN1.out; omega))
        have HR9 := Lib.hid (HRc7.out.grown hO9.gr (by simp))
        have G9 := Lib.hid (grown_trans G7.out hO9.gr)
        clear hO9 HP HRc7 G7
        go_wp2_with fail
        go_at_call 10
        refine HB.out.mono ?_
        rintro e w10 ⟨a10, c10, M2, code, rfl, g10, hcase⟩
        rcases hcase with ⟨rfl, hM2, _, _, _, hRd⟩ | ⟨rfl, hno⟩
        · obtain rfl : M2 = n1 := hM2.trans HPB.out.n.symm
          have G10 := Lib.hid (grown_trans G9.out g10)
          have hs1 := run_string c1 (HR9.out.grown g10 (by simp)) HFL.out
          have hs2 := run_string c10 (hRd.congr (fun j hj => HPB.out.f j hj)) HFL.out
          clear hM2 g10 hRd HPB HB HF7 G9 HR9
          go_wp2_with fail
          go_ret
          exact ⟨rfl, G10.out⟩
        · exact absurd ⟨HPB.out.ok, by rw [← HPB.out.n]; exact Int.le_refl _⟩ hno
      · generalize s.code n1 = code at *
        go_wp2_with fail
        go_at_call 16
        refine HE.out.mono ?_
        rintro e w8 ⟨rfl, rfl⟩
        clear HE
        go_wp2_with fail
        go_ret
        exact ⟨rfl, G7.out⟩
end Go.Proofs.Ytpkeolggehjjlaa
namespace Go.Proofs.Ytpkeolggehjjlaa
open Go.ChangeShapes Go.WideShapes Go.ChangeAt Go.RowKit

theorem getElem?_of_take_drop {α : Type} (l : List α) (i : Nat) (x : α) (h : (l.drop i).take 1 = [x]) : l[i]? = some x := by
  have h1 : ((l.drop i).take 1)[0]? = some x := by rw [h]; rfl
  simpa using h1

/-- A table of numbers, read. -/
theorem ints_of_trod {H : Type} {enc : TypeId × Value → H} {P : Program} {w : World} {base : Nat} {spare : Nat → Bool} {held : Bool} {fuel : Nat} {t e : TypeId} {k : IntKind} {n : Nat} {cs : List Value} {d : DataW H} {ps : List MemPlace} (L : List Int)
    (ht : P.underlying t = some (.array n e)) (he : P.underlying e = some (.int k)) (hc : P.cellsOf e = 1) (hd : DataW.trod enc P w base spare held fuel t cs = some (d, ps)) (hx : d = .agg (L.map fun z => .lit (.int k z))) :
    ∀ i, i < n → cs[i]? = some (.int k (L.getD i 0)) := by
  subst hx
  obtain ⟨xs, m, rfl, hx, _, hn, hel⟩ := DataW.trod_array ht hd
  intro i hi
  have h1 := hel i hi
  rw [hc, Nat.mul_one] at h1
  have hxi : xs[i]? = some xs[i] := List.getElem?_eq_getElem (by omega)
  rw [hxi] at h1
  obtain ⟨q, e1, e2, _⟩ := DataW.trod_int he h1
  have h2 : L.map (fun z => (DataW.lit (.int k z) : DataW H)) = xs.map (·.1) := by
    have := congrArg Prod.fst hx
    simpa using this
  have h3 : (L.map (fun z => (DataW.lit (.int k z) : DataW H)))[i]? = some (.lit (.int k q)) := by
    rw [h2]; simp [hxi, e2]
  have h4 : L[i]? = some q := by
    rw [List.getElem?_map] at h3
    cases hL : L[i]? with
    | none => rw [hL] at h3; cases h3
    | some z => rw [hL] at h3; simpa using h3
  rw [List.getD, h4]
  exact getElem?_of_take_drop cs i _ e1

theorem own : ownKnob Try.prog.godebug = none := by kernel_rfl
theorem laidOut : laidOutB Try.prog = true := by kernel_rfl

end Go.Proofs.Ytpkeolggehjjlaa
namespace Go.Proofs.Ytpkeolggehjjlaa
open Go.ChangeShapes Go.WideShapes Go.ChangeAt Go.RowKit

section
variable {H : Type} {enc : TypeId × Value → H} {P : Program}

theorem open_arr8 {W : World} {t e : TypeId} {n : Nat} {r : Reach} {b0 : Nat} {v : Value} {d : DataW H} {ps : List MemPlace} (ht : P.underlying t = some (.array n e)) (he : P.underlying e = some (.int .u8)) (hc : P.cellsOf e = 1) (hn : P.cellsOf t = n)
    (hval : Value.okWide P W r b0 t v) (h : DataW.Trod enc P W 0 (fun _ => true) true t v d ps) : ∃ f, v = .agg (cellsOf .u8 n f) ∧ ∀ i, f i < 256 := by
  have hv := hval
  simp only [Value.okWide, ht] at hv
  obtain ⟨cs, rfl, hs, _⟩ := hv
  obtain ⟨fuel, hf⟩ := h
  obtain ⟨xs, m, rfl, _, hl, _, hel⟩ := DataW.trod_array ht hf
  have key : ∀ i, i < n → ∃ q : Nat, q < 256 ∧ cs[i]? = some (.int .u8 q) := fun i hi => by
    have h1 := hel i hi
    rw [hc, Nat.mul_one] at h1
    cases hx : xs[i]? with
    | none =>
      rw [hx] at h1
      have hlen : i < cs.toList.length := by
        have : cs.size = n := by rw [hs, hn]
        simp [this]; exact hi
      exfalso
      rename_i hxl
      have : xs.length ≤ i := by simpa using hx
      omega
    | some x =>
      rw [hx] at h1
      obtain ⟨q, e1, _, hw⟩ := DataW.trod_int he h1
      have h2 := getElem?_of_take_drop _ i _ e1
      simp [Lit.wf, IntKind.min, IntKind.max, IntKind.bits, IntKind.signed] at hw
      refine ⟨q.toNat, by omega, ?_⟩
      have e2 : ((q.toNat : Nat) : Int) = q := by omega
      rw [e2]
      simpa [Value.cells] using h2
  refine ⟨fun i => (match cs[i]? with | some (.int _ q) => q.toNat | _ => 0) % 256, ?_, fun i => Nat.mod_lt _ (by decide)⟩
  congr 1
  apply Array.ext
  · rw [cellsOf_size, hs, hn]
  · intro i h1 h2
    have hi : i < n := by rwa [hs, hn] at h1
    obtain ⟨q, hq, hcq⟩ := key i hi
    have e1 := cellsOf_get .u8 n (fun i => (match cs[i]? with | some (.int _ q) => q.toNat | _ => 0) % 256) i hi
    rw [Array.getElem?_eq_getElem h2] at e1
    rw [Array.getElem?_eq_getElem h1] at hcq
    injection e1 with e1
    injection hcq with hcq'
    rw [e1, hcq']
    simp only [Array.getElem?_eq_getElem h1, hcq']
    congr 1
    simp; omega

/-- A byte that comes in. -/
theorem open_u8 {W : World} {t : TypeId} {r : Reach} {b0 : Nat} {v : Value} {d : DataW H} {ps : List MemPlace} (ht : P.underlying t = some (.int .u8))
    (hval : Value.okWide P W r b0 t v) (h : DataW.Trod enc P W 0 (fun _ => true) true t v d ps) : ∃ n : Nat, v = .int .u8 n ∧ n < 256 := by
  obtain ⟨x, rfl, _, _, hx⟩ := open_int ht hval h
  simp [Lit.wf, IntKind.min, IntKind.max, IntKind.bits, IntKind.signed] at hx
  exact ⟨x.toNat, by rw [show ((x.toNat : Nat) : Int) = x by omega], by omega⟩

end
end Go.Proofs.Ytpkeolggehjjlaa
namespace Go.Proofs.Ytpkeolggehjjlaa
open Go.ChangeShapes Go.WideShapes Go.ChangeAt Go.RowKit

set_option maxRecDepth 100000

section
variable {H : Type} {enc : TypeId × Value → H} {P : Program}
theorem bulk_one (d : DataW H) : 1 ≤ Rows.uptoBulk d := by
  cases d with
  | lit l => cases l <;> simp [Rows.uptoBulk]
  | nil => simp [Rows.uptoBulk]
  | ptr d => simp [Rows.uptoBulk]
  | slice elems spare => simp [Rows.uptoBulk]
  | agg parts => simp [Rows.uptoBulk]
  | iface t d => simp [Rows.uptoBulk]
  | map entries => simp [Rows.uptoBulk]
  | held h => simp [Rows.uptoBulk]
theorem bulk_len : ∀ l : List (DataW H), l.length ≤ Rows.uptoBulkAll l
  | [] => Nat.zero_le _
  | x :: r => by
    have h1 := bulk_one x
    have h2 := bulk_len r
    simp only [Rows.uptoBulkAll, List.length_cons]
    omega
theorem bulk_part {d : DataW H} : ∀ {l : List (DataW H)}, d ∈ l → Rows.uptoBulk d ≤ Rows.uptoBulkAll l
  | x :: r, h => by
    simp only [Rows.uptoBulkAll]
    rcases List.mem_cons.1 h with e | e
    · subst e; omega
    · have := bulk_part e; omega
/-- A slice of numbers, out of its cell. -/
theorem open_nums {W : World} {t e : TypeId} {k : IntKind} {fuel : Nat} {cs : List Value} {x : DataW H × List MemPlace} (ht : P.underlying t = some (.slice e)) (he : P.underlying e = some (.int k)) (hc : P.cellsOf e = 1) (h0 : (Lit.int k 0).wf = true)
    (h : DataW.trod enc P W 0 (fun _ => true) true fuel t cs = some x) :
    ∃ (a : Option Addr) (n c : Nat) (z : Nat → Int), cs = [.slice a n c] ∧ n ≤ Rows.uptoBulk x.1 ∧ (∀ i, (Lit.int k (z i)).wf = true) ∧
      (0 < n → ∃ tb o, a = some ⟨tb, o, none⟩ ∧ tb < W.heap.size ∧ ∀ i, i < n → W.cell? ⟨tb, o + i, none⟩ = some (.int k (z i))) := by
  rcases open_ints ht he hc h with ⟨h1, _⟩ | ⟨a, len, cap, zs, h1, _, hlc, _, hzl, hx, hcell, hwf⟩
  · exact ⟨none, 0, 0, fun _ => 0, h1, Nat.zero_le _, fun _ => h0, fun h => absurd h (by omega)⟩
  · have hzl' : len ≤ zs.length := by rw [hzl]; simp [hlc]
    refine ⟨some a, len, cap, fun i => zs.getD i 0, h1, ?_, fun i => ?_, fun hn => ?_⟩
    · rw [hx]
      have := bulk_len (H := H) (lits k (zs.take len))
      have h3 : (lits (H := H) k (zs.take len)).length = len := by simp [lits, hzl']
      simp only [Rows.uptoBulk]
      omega
    · show (Lit.int k (zs.getD i 0)).wf = true
      by_cases hi : i < zs.length
      · have e1 : zs.getD i 0 = zs[i] := by simp [List.getD, List.getElem?_eq_getElem hi]
        rw [e1]
        exact hwf zs[i] (List.getElem_mem hi)
      · have e1 : zs.getD i 0 = 0 := by simp [List.getD, List.getElem?_eq_none (Nat.le_of_not_lt hi)]
        rw [e1]; exact h0
    · have h0' := hcell 0 (by omega)
      have hspot : a.spot = none := by simpa [Addr.add] using World.cell?_spot h0'
      obtain ⟨tb, o, sp⟩ := a
      simp only at hspot
      subst hspot
      refine ⟨tb, o, rfl, ?_, fun i hi => ?_⟩
      · have := World.block_lt_of_cell? W _ h0'
        simpa [Addr.add] using this
      · have h1 := hcell i (by omega)
        rw [Addr.add_mid] at h1
        exact h1
theorem trod_struct5 {W : World} {base : Nat} {spare : Nat → Bool} {held : Bool} {t : TypeId} {f0 f1 f2 f3 f4 : Field} {fuel : Nat} {cs : List Value} {x : DataW H × List MemPlace} (ht : P.underlying t = some (.struct #[f0, f1, f2, f3, f4])) (h : DataW.trod enc P W base spare held fuel t cs = some x) :
    ∃ y0 y1 y2 y3 y4 n, x.1 = .agg [y0.1, y1.1, y2.1, y3.1, y4.1] ∧ cs.length = P.cellsOf t ∧ DataW.trod enc P W base spare held n f0.type ((cs.drop f0.offset).take (P.cellsOf f0.type)) = some y0 ∧
      DataW.trod enc P W base spare held n f1.type ((cs.drop f1.offset).take (P.cellsOf f1.type)) = some y1 ∧ DataW.trod enc P W base spare held n f2.type ((cs.drop f2.offset).take (P.cellsOf f2.type)) = some y2 ∧
      DataW.trod enc P W base spare held n f3.type ((cs.drop f3.offset).take (P.cellsOf f3.type)) = some y3 ∧ DataW.trod enc P W base spare held n f4.type ((cs.drop f4.offset).take (P.cellsOf f4.type)) = some y4 := by
  obtain ⟨xs, n, _, rfl, hl, hlen, hf⟩ := DataW.trod_struct ht h
  match xs, hlen with
  | [y0, y1, y2, y3, y4], _ => exact ⟨y0, y1, y2, y3, y4, n, by simp, hl, by simpa using hf 0 f0 rfl, by simpa using hf 1 f1 rfl, by simpa using hf 2 f2 rfl, by simpa using hf 3 f3 rfl, by simpa using hf 4 f4 rfl⟩
theorem at_drop {cs : List Value} {i : Nat} {v : Value} (h : (cs.drop i).take 1 = [v]) : cs[i]? = some v := getElem?_of_take_drop _ i _ h
/-- An element's cells, and what is known of it. -/
theorem open_fld {W : World} {u t8 t64 tb tl tm e8 e32 : TypeId} {f0 f1 f2 f3 f4 : Field} {fuel : Nat} {cs : List Value} {x : DataW H × List MemPlace} (hu : P.underlying u = some (.struct #[f0, f1, f2, f3, f4]))
    (o0 : f0.offset = 0) (o1 : f1.offset = 1) (o2 : f2.offset = 2) (o3 : f3.offset = 3) (o4 : f4.offset = 4) (t0 : f0.type = t8) (t1 : f1.type = t64) (t2 : f2.type = tb) (t3 : f3.type = tl) (t4 : f4.type = tm)
    (h8 : P.underlying t8 = some (.int .u8)) (h64 : P.underlying t64 = some (.int .u64)) (hb : P.underlying tb = some (.slice e8)) (hl : P.underlying tl = some (.slice e32)) (hm : P.underlying tm = some (.int .i64)) (he8 : P.underlying e8 = some (.int .u8)) (he32 : P.underlying e32 = some (.int .u32))
    (s8 : P.cellsOf t8 = 1) (s64 : P.cellsOf t64 = 1) (sb : P.cellsOf tb = 1) (sl : P.cellsOf tl = 1) (sm : P.cellsOf tm = 1) (se8 : P.cellsOf e8 = 1) (se32 : P.cellsOf e32 = 1)
    (h : DataW.trod enc P W 0 (fun _ => true) true fuel u cs = some x) (hbk : Rows.uptoBulk x.1 ≤ 1048576) :
    ∃ X : FV, X.Ok ∧ X.Mem W W.heap.size ∧ cs[0]? = some (.int .u8 X.k) ∧ cs[1]? = some (.int .u64 X.n) ∧ cs[2]? = some (.slice X.ab X.nb X.cb) ∧ cs[3]? = some (.slice X.al X.nl X.cl) ∧ cs[4]? = some (.int .i64 X.m) := by
  obtain ⟨y0, y1, y2, y3, y4, n, hx, _, q0, q1, q2, q3, q4⟩ := trod_struct5 hu h
  rw [o0, t0, s8] at q0
  rw [o1, t1, s64] at q1
  rw [o2, t2, sb] at q2
  rw [o3, t3, sl] at q3
  rw [o4, t4, sm] at q4
  obtain ⟨k, r0, _, w0⟩ := DataW.trod_int h8 q0
  obtain ⟨v, r1, _, w1⟩ := DataW.trod_int h64 q1
  obtain ⟨m, r4, _, w4⟩ := DataW.trod_int hm q4
  obtain ⟨ab, nb, cb, zb, r2, l2, wb, hB⟩ := open_nums hb he8 se8 (by rfl) q2
  obtain ⟨al, nl, cl, zl, r3, l3, wl, hL⟩ := open_nums hl he32 se32 (by rfl) q3
  rw [hx] at hbk
  simp only [Rows.uptoBulk, Rows.uptoBulkAll] at hbk
  have b1 := bulk_one y2.1
  have b2 := bulk_one y3.1
  have wb' : ∀ i, 0 ≤ zb i ∧ zb i < 256 := fun i => by have := wb i; simp [Lit.wf, IntKind.min, IntKind.max, IntKind.bits, IntKind.signed] at this; omega
  have wl' : ∀ i, 0 ≤ zl i ∧ zl i < 4294967296 := fun i => by have := wl i; simp [Lit.wf, IntKind.min, IntKind.max, IntKind.bits, IntKind.signed] at this; omega
  simp [Lit.wf, IntKind.min, IntKind.max, IntKind.bits, IntKind.signed] at w0 w1 w4
  refine ⟨⟨k.toNat, v.toNat, ab, nb, cb, fun i => (zb i).toNat, al, nl, cl, fun i => (zl i).toNat, m⟩, ⟨?_, ?_, fun i => ?_, fun i => ?_, ?_, ?_, ?_, ?_⟩, ⟨⟨fun hn => ?_⟩, ⟨fun hn => ?_⟩⟩, ?_, ?_, at_drop r2, at_drop r3, at_drop r4⟩
  · show k.toNat < 256; omega
  · show v.toNat < 18446744073709551616; omega
  · have := wb' i; show (zb i).toNat < 256; omega
  · have := wl' i; show (zl i).toNat < 4294967296; omega
  · show nb ≤ 1048576; omega
  · show nl ≤ 1048576; omega
  · show -9223372036854775808 ≤ m; omega
  · show m < 9223372036854775808; omega
  · obtain ⟨tb, o, e1, e2, e3⟩ := hB hn
    refine ⟨tb, o, e1, e2, fun i hi => ?_⟩
    have := wb' i
    rw [e3 i hi]
    show some (Value.int .u8 (zb i)) = some (Value.int .u8 (((zb i).toNat : Nat) : Int))
    rw [show (((zb i).toNat : Nat) : Int) = zb i by omega]
  · obtain ⟨tb, o, e1, e2, e3⟩ := hL hn
    refine ⟨tb, o, e1, e2, fun i hi => ?_⟩
    have := wl' i
    rw [e3 i hi]
    show some (Value.int .u32 (zl i)) = some (Value.int .u32 (((zl i).toNat : Nat) : Int))
    rw [show (((zl i).toNat : Nat) : Int) = zl i by omega]
  · rw [at_drop r0]
    show some (Value.int .u8 k) = some (Value.int .u8 ((k.toNat : Nat) : Int))
    rw [show ((k.toNat : Nat) : Int) = k by omega]
  · rw [at_drop r1]
    show some (Value.int .u64 v) = some (Value.int .u64 ((v.toNat : Nat) : Int))
    rw [show ((v.toNat : Nat) : Int) = v by omega]
/-- No field. -/
def fv0 : FV := ⟨0, 0, none, 0, 0, fun _ => 0, none, 0, 0, fun _ => 0, 0⟩
theorem fv0_ok : fv0.Ok := ⟨by decide, by decide, fun _ => (by decide : (0 : Nat) < 256), fun _ => (by decide : (0 : Nat) < 4294967296), by decide, by decide, by decide, by decide⟩
theorem open_flds {W : World} {t u t8 t64 tb tl tm e8 e32 : TypeId} {f0 f1 f2 f3 f4 : Field} {v : Value} {d : DataW H} {ps : List MemPlace} {r : Reach} {b0 : Nat} (ht : P.underlying t = some (.slice u)) (hu : P.underlying u = some (.struct #[f0, f1, f2, f3, f4]))
    (o0 : f0.offset = 0) (o1 : f1.offset = 1) (o2 : f2.offset = 2) (o3 : f3.offset = 3) (o4 : f4.offset = 4) (t0 : f0.type = t8) (t1 : f1.type = t64) (t2 : f2.type = tb) (t3 : f3.type = tl) (t4 : f4.type = tm)
    (h8 : P.underlying t8 = some (.int .u8)) (h64 : P.underlying t64 = some (.int .u64)) (hb : P.underlying tb = some (.slice e8)) (hl : P.underlying tl = some (.slice e32)) (hm : P.underlying tm = some (.int .i64)) (he8 : P.underlying e8 = some (.int .u8)) (he32 : P.underlying e32 = some (.int .u32))
    (cu : P.cellsOf u = 5) (s8 : P.cellsOf t8 = 1) (s64 : P.cellsOf t64 = 1) (sb : P.cellsOf tb = 1) (sl : P.cellsOf tl = 1) (sm : P.cellsOf tm = 1) (se8 : P.cellsOf e8 = 1) (se32 : P.cellsOf e32 = 1)
    (hval : Value.okWide P W r b0 t v) (h : DataW.Trod enc P W 0 (fun _ => true) true t v d ps) (hk : Rows.uptoBulk d ≤ 1048576) :
    ∃ a n c X, v = .slice a n c ∧ n ≤ c ∧ n ≤ 1048576 ∧ Flds W W.heap.size a n X := by
  obtain ⟨a0, len, cap, rfl⟩ := okWide_slice ht hval
  obtain ⟨fuel, hf⟩ := h
  rcases Deep.open_slice ht hf with ⟨h1, _⟩ | ⟨a, len', cap', m, n, D, Pl, h1, _, hlc, hmx, hmm, hd, hx⟩
  · simp [Value.cells] at h1
    obtain ⟨rfl, rfl, rfl⟩ := h1
    exact ⟨none, 0, 0, fun _ => fv0, rfl, Nat.le_refl _, Nat.zero_le _, ⟨fun h => absurd h (by omega), fun i hi => absurd hi (by omega), fun _ => fv0_ok⟩⟩
  · simp [Value.cells] at h1
    obtain ⟨rfl, rfl, rfl⟩ := h1
    have hmc : m = cap := by simpa using hmm
    have hdd : d = .slice ((List.range len).map D) ((List.range (m - len)).map fun j => D (len + j)) := congrArg Prod.fst hd
    rw [hdd] at hk
    simp only [Rows.uptoBulk] at hk
    have hlen : len ≤ 1048576 := by
      have := bulk_len ((List.range len).map D)
      rw [List.length_map, List.length_range] at this
      omega
    have hspot0 : 0 < len → a.spot = none := fun h0 => by
      obtain ⟨cs', g1, _⟩ := hx 0 (by omega)
      rw [cu] at g1
      obtain ⟨_, hl5, hc⟩ := World.cells?_some g1
      have c0 := hc 0 (by omega)
      obtain ⟨v0, hv0⟩ : ∃ v, cs'[0]? = some v := ⟨_, List.getElem?_eq_getElem (by omega)⟩
      rw [hv0] at c0
      simpa [Addr.add] using World.cell?_spot c0
    have key : ∀ i, ∃ X : FV, X.Ok ∧ (i < len → X.Mem W W.heap.size ∧ FAt W a.block (a.off + i * 5) X ∧ a.spot = none) := fun i => by
      by_cases hi : i < len
      · obtain ⟨cs', g1, g2⟩ := hx i (by omega)
        rw [cu] at g1
        obtain ⟨_, hl5, hc⟩ := World.cells?_some g1
        have hbi : Rows.uptoBulk (D i) ≤ 1048576 := by
          have := bulk_part (d := D i) (l := (List.range len).map D) (List.mem_map.2 ⟨i, List.mem_range.2 hi, rfl⟩)
          omega
        obtain ⟨X, hok, hmem, k0, k1, k2, k3, k4⟩ := open_fld hu o0 o1 o2 o3 o4 t0 t1 t2 t3 t4 h8 h64 hb hl hm he8 he32 s8 s64 sb sl sm se8 se32 g2 hbi
        have c0 := (hc 0 (by omega)).trans k0
        have c1 := (hc 1 (by omega)).trans k1
        have c2 := (hc 2 (by omega)).trans k2
        have c3 := (hc 3 (by omega)).trans k3
        have c4 := (hc 4 (by omega)).trans k4
        have hspot := hspot0 (by omega)
        obtain ⟨tb', o', sp⟩ := a
        simp only at hspot
        subst hspot
        rw [Addr.add_mid, Addr.add_mid] at c0 c1 c2 c3 c4
        exact ⟨X, hok, fun _ => ⟨hmem, ⟨c0, c1, c2, c3, c4⟩, rfl⟩⟩
      · exact ⟨fv0, fv0_ok, fun h => absurd h hi⟩
    obtain ⟨X, hX⟩ := Classical.axiomOfChoice key
    refine ⟨some a, len, cap, X, rfl, hlc, hlen, ⟨fun h0 => ?_, fun i hi => ((hX i).2 hi).1, fun i => (hX i).1⟩⟩
    have h2 := ((hX 0).2 h0).2
    have hlt := World.block_lt_of_cell? W _ h2.1.c0
    obtain ⟨tb', o', sp⟩ := a
    have hspot := h2.2
    simp only at hspot
    subst hspot
    exact ⟨tb', o', rfl, hlt, fun i hi => ((hX i).2 hi).2.1⟩
/-- Bytes that come in, of a bulk that is bounded. -/
theorem open_bytes_bulk {W : World} {t e : TypeId} {r : Reach} {b0 : Nat} {v : Value} {d : DataW H} {ps : List MemPlace} (ht : P.underlying t = some (.slice e)) (he : P.underlying e = some (.int .u8)) (hc : P.cellsOf e = 1)
    (hval : Value.okWide P W r b0 t v) (h : DataW.Trod enc P W 0 (fun _ => true) true t v d ps) (hk : Rows.uptoBulk d ≤ 1048576) :
    ∃ a n c f, v = .slice a n c ∧ n ≤ 1048576 ∧ Rd W W.heap.size a n f ∧ ∀ i, f i < 256 := by
  obtain ⟨a0, len, cap, rfl⟩ := okWide_slice ht hval
  obtain ⟨fuel, hf⟩ := h
  obtain ⟨a, n, c, z, h1, hb, hw, hcell⟩ := open_nums ht he hc (by rfl) hf
  simp [Value.cells] at h1
  obtain ⟨rfl, rfl, rfl⟩ := h1
  have wb : ∀ i, 0 ≤ z i ∧ z i < 256 := fun i => by have := hw i; simp [Lit.wf, IntKind.min, IntKind.max, IntKind.bits, IntKind.signed] at this; omega
  refine ⟨a0, len, cap, fun i => (z i).toNat, rfl, Nat.le_trans hb hk, ⟨fun hn => ?_⟩, fun i => by have := wb i; show (z i).toNat < 256; omega⟩
  obtain ⟨tb, o, e1, e2, e3⟩ := hcell hn
  refine ⟨tb, o, e1, e2, fun i hi => ?_⟩
  have := wb i
  rw [e3 i hi]
  show some (Value.int .u8 (z i)) = some (Value.int .u8 (((z i).toNat : Nat) : Int))
  rw [show (((z i).toNat : Nat) : Int) = z i by omega]
end
end Go.Proofs.Ytpkeolggehjjlaa
namespace Go.Proofs.Ytpkeolggehjjlaa
open Go.ChangeShapes Go.WideShapes Go.ChangeAt Go.RowKit

set_option maxRecDepth 100000

section
variable {H : Type} {enc : TypeId × Value → H} {P : Program}
/-- A slice of numbers, out of its cell. -/
theorem open_numsW {W : World} {t e : TypeId} {k : IntKind} {fuel : Nat} {cs : List Value} {x : DataW H × List MemPlace} (ht : P.underlying t = some (.slice e)) (he : P.underlying e = some (.int k)) (hc : P.cellsOf e = 1) (h0 : (Lit.int k 0).wf = true) (hby : 1 ≤ P.bytesOf e)
    (h : DataW.trod enc P W 0 (fun _ => true) true fuel t cs = some x) (hw : ∀ y, y ∈ x.1.weights P t → y ≤ reachBytes) :
    ∃ (a : Option Addr) (n c : Nat) (z : Nat → Int), cs = [.slice a n c] ∧ n ≤ 140737488355328 ∧ (∀ i, (Lit.int k (z i)).wf = true) ∧
      (0 < n → ∃ tb o, a = some ⟨tb, o, none⟩ ∧ tb < W.heap.size ∧ ∀ i, i < n → W.cell? ⟨tb, o + i, none⟩ = some (.int k (z i))) := by
  rcases open_ints ht he hc h with ⟨h1, _⟩ | ⟨a, len, cap, zs, h1, _, hlc, _, hzl, hx, hcell, hwf⟩
  · exact ⟨none, 0, 0, fun _ => 0, h1, Nat.zero_le _, fun _ => h0, fun h => absurd h (by omega)⟩
  · have hzl' : len ≤ zs.length := by rw [hzl]; simp [hlc]
    refine ⟨some a, len, cap, fun i => zs.getD i 0, h1, ?_, fun i => ?_, fun hn => ?_⟩
    · have := hw ((min len zs.length + (zs.length - len)) * P.bytesOf e) (by
        rw [hx]
        unfold DataW.weights
        rw [ht]
        refine List.mem_cons.2 (Or.inl ?_)
        simp [lits])
      have h2 : (min len zs.length + (zs.length - len)) * 1 ≤ (min len zs.length + (zs.length - len)) * P.bytesOf e := Nat.mul_le_mul_left _ hby
      unfold reachBytes at this
      omega
    · show (Lit.int k (zs.getD i 0)).wf = true
      by_cases hi : i < zs.length
      · have e1 : zs.getD i 0 = zs[i] := by simp [List.getD, List.getElem?_eq_getElem hi]
        rw [e1]
        exact hwf zs[i] (List.getElem_mem hi)
      · have e1 : zs.getD i 0 = 0 := by simp [List.getD, List.getElem?_eq_none (Nat.le_of_not_lt hi)]
        rw [e1]; exact h0
    · have h0' := hcell 0 (by omega)
      have hspot : a.spot = none := by simpa [Addr.add] using World.cell?_spot h0'
      obtain ⟨tb, o, sp⟩ := a
      simp only at hspot
      subst hspot
      refine ⟨tb, o, rfl, ?_, fun i hi => ?_⟩
      · have := World.block_lt_of_cell? W _ h0'
        simpa [Addr.add] using this
      · have h1 := hcell i (by omega)
        rw [Addr.add_mid] at h1
        exact h1
/-- An element's cells, and what is known of it. -/
theorem open_fldW {W : World} {u t8 t64 tb tl tm e8 e32 : TypeId} {f0 f1 f2 f3 f4 : Field} {fuel : Nat} {cs : List Value} {x : DataW H × List MemPlace} (hu : P.underlying u = some (.struct #[f0, f1, f2, f3, f4]))
    (o0 : f0.offset = 0) (o1 : f1.offset = 1) (o2 : f2.offset = 2) (o3 : f3.offset = 3) (o4 : f4.offset = 4) (t0 : f0.type = t8) (t1 : f1.type = t64) (t2 : f2.type = tb) (t3 : f3.type = tl) (t4 : f4.type = tm)
    (h8 : P.underlying t8 = some (.int .u8)) (h64 : P.underlying t64 = some (.int .u64)) (hb : P.underlying tb = some (.slice e8)) (hl : P.underlying tl = some (.slice e32)) (hm : P.underlying tm = some (.int .i64)) (he8 : P.underlying e8 = some (.int .u8)) (he32 : P.underlying e32 = some (.int .u32))
    (s8 : P.cellsOf t8 = 1) (s64 : P.cellsOf t64 = 1) (sb : P.cellsOf tb = 1) (sl : P.cellsOf tl = 1) (sm : P.cellsOf tm = 1) (se8 : P.cellsOf e8 = 1) (se32 : P.cellsOf e32 = 1) (b8 : 1 ≤ P.bytesOf e8) (b32 : 1 ≤ P.bytesOf e32)
    (h : DataW.trod enc P W 0 (fun _ => true) true fuel u cs = some x) (hw : ∀ y, y ∈ x.1.weights P u → y ≤ reachBytes) :
    ∃ X : FV, X.OkW ∧ X.Mem W W.heap.size ∧ cs[0]? = some (.int .u8 X.k) ∧ cs[1]? = some (.int .u64 X.n) ∧ cs[2]? = some (.slice X.ab X.nb X.cb) ∧ cs[3]? = some (.slice X.al X.nl X.cl) ∧ cs[4]? = some (.int .i64 X.m) := by
  obtain ⟨y0, y1, y2, y3, y4, n, hx, _, q0, q1, q2, q3, q4⟩ := trod_struct5 hu h
  have hwx : x.1.weights P u = DataW.weightsEach P [f0.type, f1.type, f2.type, f3.type, f4.type] [y0.1, y1.1, y2.1, y3.1, y4.1] := by
    rw [hx]
    conv => lhs; unfold DataW.weights
    rw [hu]
    rfl
  rw [hwx, t2, t3] at hw
  rw [o0, t0, s8] at q0
  rw [o1, t1, s64] at q1
  rw [o2, t2, sb] at q2
  rw [o3, t3, sl] at q3
  rw [o4, t4, sm] at q4
  obtain ⟨k, r0, _, w0⟩ := DataW.trod_int h8 q0
  obtain ⟨v, r1, _, w1⟩ := DataW.trod_int h64 q1
  obtain ⟨m, r4, _, w4⟩ := DataW.trod_int hm q4
  obtain ⟨ab, nb, cb, zb, r2, l2, wb, hB⟩ := open_numsW hb he8 se8 (by rfl) b8 q2 (fun y hy => hw y (by
    simp only [DataW.weightsEach, List.mem_append]
    exact Or.inr (Or.inr (Or.inl hy))))
  obtain ⟨al, nl, cl, zl, r3, l3, wl, hL⟩ := open_numsW hl he32 se32 (by rfl) b32 q3 (fun y hy => hw y (by
    simp only [DataW.weightsEach, List.mem_append]
    exact Or.inr (Or.inr (Or.inr (Or.inl hy)))))
  have wb' : ∀ i, 0 ≤ zb i ∧ zb i < 256 := fun i => by have := wb i; simp [Lit.wf, IntKind.min, IntKind.max, IntKind.bits, IntKind.signed] at this; omega
  have wl' : ∀ i, 0 ≤ zl i ∧ zl i < 4294967296 := fun i => by have := wl i; simp [Lit.wf, IntKind.min, IntKind.max, IntKind.bits, IntKind.signed] at this; omega
  simp [Lit.wf, IntKind.min, IntKind.max, IntKind.bits, IntKind.signed] at w0 w1 w4
  refine ⟨⟨k.toNat, v.toNat, ab, nb, cb, fun i => (zb i).toNat, al, nl, cl, fun i => (zl i).toNat, m⟩, ⟨?_, ?_, fun i => ?_, fun i => ?_, ?_, ?_, ?_, ?_⟩, ⟨⟨fun hn => ?_⟩, ⟨fun hn => ?_⟩⟩, ?_, ?_, at_drop r2, at_drop r3, at_drop r4⟩
  · show k.toNat < 256; omega
  · show v.toNat < 18446744073709551616; omega
  · have := wb' i; show (zb i).toNat < 256; omega
  · have := wl' i; show (zl i).toNat < 4294967296; omega
  · exact l2
  · exact l3
  · show -9223372036854775808 ≤ m; omega
  · show m < 9223372036854775808; omega
  · obtain ⟨tb, o, e1, e2, e3⟩ := hB hn
    refine ⟨tb, o, e1, e2, fun i hi => ?_⟩
    have := wb' i
    rw [e3 i hi]
    show some (Value.int .u8 (zb i)) = some (Value.int .u8 (((zb i).toNat : Nat) : Int))
    rw [show (((zb i).toNat : Nat) : Int) = zb i by omega]
  · obtain ⟨tb, o, e1, e2, e3⟩ := hL hn
    refine ⟨tb, o, e1, e2, fun i hi => ?_⟩
    have := wl' i
    rw [e3 i hi]
    show some (Value.int .u32 (zl i)) = some (Value.int .u32 (((zl i).toNat : Nat) : Int))
    rw [show (((zl i).toNat : Nat) : Int) = zl i by omega]
  · rw [at_drop r0]
    show some (Value.int .u8 k) = some (Value.int .u8 ((k.toNat : Nat) : Int))
    rw [show ((k.toNat : Nat) : Int) = k by omega]
  · rw [at_drop r1]
    show some (Value.int .u64 v) = some (Value.int .u64 ((v.toNat : Nat) : Int))
    rw [show ((v.toNat : Nat) : Int) = v by omega]
theorem fvZ_okW : fvZ.OkW := ⟨by decide, by decide, fun _ => (by decide : (0 : Nat) < 256), fun _ => (by decide : (0 : Nat) < 4294967296), by decide, by decide, by decide, by decide⟩
theorem open_fldsW {W : World} {t u t8 t64 tb tl tm e8 e32 : TypeId} {f0 f1 f2 f3 f4 : Field} {v : Value} {d : DataW H} {ps : List MemPlace} {r : Reach} {b0 : Nat} (ht : P.underlying t = some (.slice u)) (hu : P.underlying u = some (.struct #[f0, f1, f2, f3, f4]))
    (o0 : f0.offset = 0) (o1 : f1.offset = 1) (o2 : f2.offset = 2) (o3 : f3.offset = 3) (o4 : f4.offset = 4) (t0 : f0.type = t8) (t1 : f1.type = t64) (t2 : f2.type = tb) (t3 : f3.type = tl) (t4 : f4.type = tm)
    (h8 : P.underlying t8 = some (.int .u8)) (h64 : P.underlying t64 = some (.int .u64)) (hb : P.underlying tb = some (.slice e8)) (hl : P.underlying tl = some (.slice e32)) (hm : P.underlying tm = some (.int .i64)) (he8 : P.underlying e8 = some (.int .u8)) (he32 : P.underlying e32 = some (.int .u32))
    (cu : P.cellsOf u = 5) (s8 : P.cellsOf t8 = 1) (s64 : P.cellsOf t64 = 1) (sb : P.cellsOf tb = 1) (sl : P.cellsOf tl = 1) (sm : P.cellsOf tm = 1) (se8 : P.cellsOf e8 = 1) (se32 : P.cellsOf e32 = 1) (b8 : 1 ≤ P.bytesOf e8) (b32 : 1 ≤ P.bytesOf e32) (bu : 1 ≤ P.bytesOf u)
    (hval : Value.okWide P W r b0 t v) (h : DataW.Trod enc P W 0 (fun _ => true) true t v d ps) (hw : ∀ y, y ∈ d.weights P t → y ≤ reachBytes) :
    ∃ a n c X, v = .slice a n c ∧ n ≤ c ∧ n ≤ 140737488355328 ∧ FldsW W W.heap.size a n X := by
  obtain ⟨a0, len, cap, rfl⟩ := okWide_slice ht hval
  obtain ⟨fuel, hf⟩ := h
  rcases Deep.open_slice ht hf with ⟨h1, _⟩ | ⟨a, len', cap', m, n, D, Pl, h1, _, hlc, hmx, hmm, hd, hx⟩
  · simp [Value.cells] at h1
    obtain ⟨rfl, rfl, rfl⟩ := h1
    exact ⟨none, 0, 0, fun _ => fvZ, rfl, Nat.le_refl _, Nat.zero_le _, ⟨fun h => absurd h (by omega), fun i hi => absurd hi (by omega), fun _ => fvZ_okW⟩⟩
  · simp [Value.cells] at h1
    obtain ⟨rfl, rfl, rfl⟩ := h1
    have hmc : m = cap := by simpa using hmm
    have hdd : d = .slice ((List.range len).map D) ((List.range (m - len)).map fun j => D (len + j)) := congrArg Prod.fst hd
    have hwd : DataW.weights P t d = (((List.range len).map D).length + ((List.range (m - len)).map fun j => D (len + j)).length) * P.bytesOf u :: (DataW.weightsAll P u ((List.range len).map D) ++ DataW.weightsAll P u ((List.range (m - len)).map fun j => D (len + j))) := by
      rw [hdd]
      conv => lhs; unfold DataW.weights
      rw [ht]
    rw [hwd] at hw
    have hlen : len ≤ 140737488355328 := by
      have h1 := hw _ (List.mem_cons_self ..)
      simp only [List.length_map, List.length_range] at h1
      have h2 : (len + (m - len)) * 1 ≤ (len + (m - len)) * P.bytesOf u := Nat.mul_le_mul_left _ bu
      unfold reachBytes at h1
      omega
    have hwe : ∀ j, j < len → ∀ y, y ∈ (D j).weights P u → y ≤ reachBytes := fun j hj y hy =>
      hw y (List.mem_cons_of_mem _ (List.mem_append.2 (Or.inl (mem_weightsAll _ (D j) y (List.mem_map.2 ⟨j, List.mem_range.2 hj, rfl⟩) hy))))
    have hspot0 : 0 < len → a.spot = none := fun h0 => by
      obtain ⟨cs', g1, _⟩ := hx 0 (by omega)
      rw [cu] at g1
      obtain ⟨_, hl5, hc⟩ := World.cells?_some g1
      have c0 := hc 0 (by omega)
      obtain ⟨v0, hv0⟩ : ∃ v, cs'[0]? = some v := ⟨_, List.getElem?_eq_getElem (by omega)⟩
      rw [hv0] at c0
      simpa [Addr.add] using World.cell?_spot c0
    have key : ∀ i, ∃ X : FV, X.OkW ∧ (i < len → X.Mem W W.heap.size ∧ FAt W a.block (a.off + i * 5) X ∧ a.spot = none) := fun i => by
      by_cases hi : i < len
      · obtain ⟨cs', g1, g2⟩ := hx i (by omega)
        rw [cu] at g1
        obtain ⟨_, hl5, hc⟩ := World.cells?_some g1
        obtain ⟨X, hok, hmem, k0, k1, k2, k3, k4⟩ := open_fldW hu o0 o1 o2 o3 o4 t0 t1 t2 t3 t4 h8 h64 hb hl hm he8 he32 s8 s64 sb sl sm se8 se32 b8 b32 g2 (hwe i hi)
        have c0 := (hc 0 (by omega)).trans k0
        have c1 := (hc 1 (by omega)).trans k1
        have c2 := (hc 2 (by omega)).trans k2
        have c3 := (hc 3 (by omega)).trans k3
        have c4 := (hc 4 (by omega)).trans k4
        have hspot := hspot0 (by omega)
        obtain ⟨tb', o', sp⟩ := a
        simp only at hspot
        subst hspot
        rw [Addr.add_mid, Addr.add_mid] at c0 c1 c2 c3 c4
        exact ⟨X, hok, fun _ => ⟨hmem, ⟨c0, c1, c2, c3, c4⟩, rfl⟩⟩
      · exact ⟨fvZ, fvZ_okW, fun h => absurd h hi⟩
    obtain ⟨X, hX⟩ := Classical.axiomOfChoice key
    refine ⟨some a, len, cap, X, rfl, hlc, hlen, ⟨fun h0 => ?_, fun i hi => ((hX i).2 hi).1, fun i => (hX i).1⟩⟩
    have h2 := ((hX 0).2 h0).2
    have hlt := World.block_lt_of_cell? W _ h2.1.c0
    obtain ⟨tb', o', sp⟩ := a
    have hspot := h2.2
    simp only at hspot
    subst hspot
    exact ⟨tb', o', rfl, hlt, fun i hi => ((hX i).2 hi).2.1⟩
/-- Bytes that come in, and how many. -/
theorem open_bytesW {W : World} {t e : TypeId} {r : Reach} {b0 : Nat} {v : Value} {d : DataW H} {ps : List MemPlace} (ht : P.underlying t = some (.slice e)) (he : P.underlying e = some (.int .u8)) (hc : P.cellsOf e = 1) (hby : 1 ≤ P.bytesOf e)
    (hval : Value.okWide P W r b0 t v) (h : DataW.Trod enc P W 0 (fun _ => true) true t v d ps) (hw : ∀ y, y ∈ d.weights P t → y ≤ reachBytes) :
    ∃ a n c f, v = .slice a n c ∧ n ≤ c ∧ n ≤ 140737488355328 ∧ Rd W W.heap.size a n f ∧ ∀ i, f i < 256 := by
  obtain ⟨a0, len, cap, rfl⟩ := okWide_slice ht hval
  obtain ⟨fuel, hf⟩ := h
  obtain ⟨a, n, c, z, h1, hb, hwf, hcell⟩ := open_numsW ht he hc (by rfl) hby hf hw
  simp [Value.cells] at h1
  obtain ⟨rfl, rfl, rfl⟩ := h1
  have hlc : len ≤ cap := by
    rcases open_ints ht he hc hf with ⟨h2, _⟩ | ⟨_, _, _, _, h2, _, h3, _⟩
    · simp [Value.cells] at h2
      omega
    · simp [Value.cells] at h2
      omega
  have wb : ∀ i, 0 ≤ z i ∧ z i < 256 := fun i => by have := hwf i; simp [Lit.wf, IntKind.min, IntKind.max, IntKind.bits, IntKind.signed] at this; omega
  refine ⟨a0, len, cap, fun i => (z i).toNat, rfl, hlc, hb, ⟨fun hn => ?_⟩, fun i => by have := wb i; show (z i).toNat < 256; omega⟩
  obtain ⟨tb, o, e1, e2, e3⟩ := hcell hn
  refine ⟨tb, o, e1, e2, fun i hi => ?_⟩
  have := wb i
  rw [e3 i hi]
  show some (Value.int .u8 (z i)) = some (Value.int .u8 (((z i).toNat : Nat) : Int))
  rw [show (((z i).toNat : Nat) : Int) = z i by omega]
end
end Go.Proofs.Ytpkeolggehjjlaa
namespace Go.Proofs.Ytpkeolggehjjlaa
open Go.ChangeShapes Go.WideShapes Go.ChangeAt Go.RowKit

set_option maxRecDepth 100000 in
theorem wireBack_lifted (os : Os) (started : os.Started) (H : Type) (enc : TypeId × Value → H) :
    ReturnsInHanded {} Try.checked os 5 .any (Rows.wireBackSpec.pre6 enc Try.prog Try.f5 Rows.wireBackRow.domain false) (Rows.wireBackSpec.post enc Try.prog Try.f5 false true false false) := by
  refine returnsInHanded_of_change_sized (C := Try.checked) own started (by kernel_rfl) Try.func5
    (ChangeSpec.witness6 (enc := enc) (C := Try.checked) false ⟨#[], #[.slice none 0 0, .slice none 0 0, .int .i64 0], []⟩ 8 (by kernel_rfl) (by kernel_rfl) (by kernel_rfl) (by kernel_rfl)) ?_
  intro W base args ds gs before hval0 hW _ hwt _
  have hval : ∀ (j : Nat) t v, Try.f5.params[j]? = some t → args[j]? = some v → Value.okWide Try.prog W .any base t v := hval0
  have hW' := hW
  obtain ⟨p, q, hA0, hV, rfl, _, _⟩ := hW
  have hA : DataW.TrodAll enc Try.prog W 0 (fun _ => true) true Try.f5.params.toList args.toList ds p := hA0
  have hwt' : (DataW.weightsEach Try.prog (Try.f5.params.toList ++ Rows.wireBackSpec.plain.varTypes Try.prog) (ds ++ gs)).all (· ≤ reachBytes) = true := hwt
  rw [Try.params5] at hA hval hwt'
  obtain ⟨v0, vs0, d0, ds0, p0, q0, hv0, rfl, rfl, h0, hA1⟩ := trodAll_cons hA
  obtain ⟨v1, vs1, d1, ds1, p1, q1, rfl, rfl, rfl, h1, hA2⟩ := trodAll_cons hA1
  obtain ⟨v2, vs2, d2, ds2, p2, q2, rfl, rfl, rfl, h2, hA3⟩ := trodAll_cons hA2
  obtain ⟨rfl, rfl, rfl⟩ := trodAll_nil hA3
  obtain ⟨l⟩ := args
  simp only at hv0
  subst hv0
  obtain ⟨rfl, rfl⟩ := trodVars_none hV
  have hw0 : ∀ y, y ∈ DataW.weights Try.prog 22 d0 → y ≤ reachBytes := fun y hy => by
    have hm : y ∈ DataW.weightsEach Try.prog (#[22, 28, 3].toList ++ Rows.wireBackSpec.plain.varTypes Try.prog) ([d0, d1, d2] ++ []) := List.mem_append.2 (Or.inl hy)
    simpa using List.all_eq_true.1 hwt' y hm
  have hw1 : ∀ y, y ∈ DataW.weights Try.prog 28 d1 → y ≤ reachBytes := fun y hy => by
    have hm : y ∈ DataW.weightsEach Try.prog (#[22, 28, 3].toList ++ Rows.wireBackSpec.plain.varTypes Try.prog) ([d0, d1, d2] ++ []) := List.mem_append.2 (Or.inr (List.mem_append.2 (Or.inl hy)))
    simpa using List.all_eq_true.1 hwt' y hm
  obtain ⟨a0, n0, c0, X0, rfl, _, hn0, hF0⟩ := open_fldsW (P := Try.prog) (t := 22) (u := 54) (t8 := 5) (t64 := 51) (tb := 28) (tl := 52) (tm := 3) (e8 := 5) (e32 := 49) (by kernel_rfl) Try.underlying54 rfl rfl rfl rfl rfl rfl rfl rfl rfl rfl (by kernel_rfl) (by kernel_rfl) (by kernel_rfl) (by kernel_rfl) (by kernel_rfl) (by kernel_rfl) (by kernel_rfl) (by kernel_rfl) (by kernel_rfl) (by kernel_rfl) (by kernel_rfl) (by kernel_rfl) (by kernel_rfl) (by kernel_rfl) (by kernel_rfl) (by rw [show Try.prog.bytesOf 5 = 1 by kernel_rfl]; decide) (by rw [show Try.prog.bytesOf 49 = 4 by kernel_rfl]; decide) (by rw [show Try.prog.bytesOf 54 = 72 by kernel_rfl]; decide) (hval 0 22 v0 rfl rfl) h0 hw0
  obtain ⟨a1, n1, c1, f1, rfl, hc1, hn1, hR1, hf1⟩ := open_bytesW (P := Try.prog) under_bytes (by kernel_rfl) (by kernel_rfl) (by rw [show Try.prog.bytesOf 5 = 1 by kernel_rfl]; decide) (hval 1 28 v1 rfl rfl) h1 hw1
  obtain ⟨x2, rfl, rfl, rfl, hx2⟩ := open_int Try.underlying3 (hval 2 3 v2 rfl rfl) h2
  have hr2 : -9223372036854775808 ≤ x2 ∧ x2 < 9223372036854775808 := by
    have := hx2
    simp [Lit.wf, IntKind.min, IntKind.max, IntKind.bits, IntKind.signed] at this
    omega
  clear hA0 hval0
  refine (wireBack_any n0 c0 n1 c1 x2 a0 a1 X0 f1 W hF0 hn0 hR1 hc1 hn1 hf1 hr2).mono fun e W' ⟨⟨he, hg⟩⟩ => ?_
  subst he
  exact ⟨_, rfl, law_post laidOut hW' rfl rfl (tb := 4) rfl Try.underlying4 (by
      rw [Try.params5]
      intro t ht
      have hall : ([22, 28, 3].all fun u => Try.prog.readableRec u && decide (u < Try.prog.types.size)) = true := by kernel_rfl
      have := List.all_eq_true.1 hall t (by simpa using ht)
      simpa using this) hg⟩

theorem wireBack_holds : Rows.WireBackSaid :=
  OpenClaim.holds_of_wide 5 Try.f5 rfl rfl rfl rfl rfl rfl rfl ⟨rfl, rfl, rfl, rfl, rfl⟩ rfl rfl rfl rfl rfl (by kernel_rfl) Try.func5 (by kernel_rfl)
    (of_decide_eq_true (by kernel_rfl)) (by unfold Func.isWrapper; first | (rw [if_pos (by decide +kernel)]; kernel_rfl) | (rw [if_neg (by decide +kernel)]; exact ⟨rfl, rfl⟩))
    (fun os started H enc _ => wireBack_lifted os started H enc)

end Go.Proofs.Ytpkeolggehjjlaa
