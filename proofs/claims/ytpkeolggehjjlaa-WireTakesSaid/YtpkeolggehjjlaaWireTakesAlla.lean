/-
  Proved: whatever bytes and kinds of fields come in, 'WireTakes' answers true, and what came in reads afterwards as it read before. Conditions: the arguments can be read as data.
-/
import Derived.Test.YtpkeolggehjjlaaBase
import Derived.Test.YtpkeolggehjjlaaInHead
import Derived.Test.YtpkeolggehjjlaaLawTake
import Derived.Test.YtpkeolggehjjlaaRefTake
import Derived.Test.YtpkeolggehjjlaaRefWireSame
import Derived.Test.YtpkeolggehjjlaaRefWireGreat
import Derived.Test.YtpkeolggehjjlaaKnown08
import Derived.Test.YtpkeolggehjjlaaLaw
import Derived.Test.YtpkeolggehjjlaaRows
import Derived.Stop.Joined
import Derived.LaidLaws
import Derived.Test.YtpkeolggehjjlaaWireF
import Derived.Deep.Slices
import Derived.Test.YtpkeolggehjjlaaFldsW
import Derived.Test.YtpkeolggehjjlaaJoin1
import Derived.SizedLaws
namespace Go.Proofs.Ytpkeolggehjjlaa
open Go.RowKit

/-- True, and nothing that was is turned. -/
structure SaysYes (w : World) (e : Ending) (w' : World) : Prop where
  ex : e = .returned (.bool true) ∧ w.grownBy w' none
end Go.Proofs.Ytpkeolggehjjlaa
namespace Go.Proofs.Ytpkeolggehjjlaa
open Go.RowKit

set_option maxRecDepth 100000
set_option maxHeartbeats 4000000

theorem TakenF.like {L : Nat} {F : Nat → Nat} {s : ISt} {x y z : FV} (h : TakenF L F s x y) (k : TakenF L F s x z) : y.Like z where
  k := h.k.trans k.k.symm
  n := h.n.trans k.n.symm
  nb := h.nb.trans k.nb.symm
  fb := fun j hj => (h.fb j hj).trans (k.fb j (by rw [k.nb, ← h.nb]; exact hj)).symm
  nl := h.nl.trans k.nl.symm
  fl := fun j hj => (h.fl j hj).trans (k.fl j (by rw [k.nl, ← h.nl]; exact hj)).symm
theorem FV.Like.str {y z : FV} (h : y.Like z) (hy : y.Ok) (hz : z.Ok) : strOf y.nb y.fb = strOf z.nb z.fb :=
  (strOf_inj _ _ _ _ hy.fb hz.fb).2 ⟨h.nb, h.fb⟩
/-- lent, made and cleared. -/
structure Lent (w : World) (g n cap : Nat) (f : Nat → Nat) (wa : World) : Prop where
  own : OwnR wa g n cap f
  gr : w.grownBy wa none
  new : w.heap.size ≤ g
theorem lent_any (D n c : Nat) (a : Option Addr) (f : Nat → Nat) (w : World) (h : Rd w D a n f) (hn : n ≤ 2 ^ 46) :
    ∃ g cap w', (Builtin.append_ #[28, 28] 28 #[.slice (some ⟨w.heap.size, 0, none⟩) 0 0, .slice a n c]).run Try.prog (w.alloc (.cells #[] 5)) = .ok (.slice (some ⟨g, 0, none⟩) n cap) w' ∧ Lent w g n cap f w' := by
  have ho := ownR_empty w
  have ga := World.grownBy_alloc w (.cells #[] 5) none
  obtain ⟨v', w', hr, ⟨g', cap', rfl, k1, k2, k3, k4⟩⟩ := app_run c 28 ho (h.grown ga (by simp)) (by omega)
  have hz := World.size_alloc w (.cells #[] 5)
  rw [Nat.zero_add] at hr
  refine ⟨g', cap', w', hr, ?_, grown_new ga k3 (Nat.le_refl _), by omega⟩
  have := k1.congr (f' := f) (fun i _ => by unfold cat; rw [if_neg (by omega)]; rfl)
  rwa [Nat.zero_add] at this
theorem wireTakes_any (n0 c0 n1 c1 : Nat) (a0 a1 : Option Addr) (f0 : Nat → Nat) (X1 : Nat → FV) (w : World) (hR : Rd w w.heap.size a0 n0 f0) (hc0 : n0 ≤ c0) (_hn0 : n0 ≤ 140737488355328) (hf : ∀ i, f0 i < 256) (hX : FldsW w w.heap.size a1 n1 X1) (hn1 : n1 ≤ 140737488355328) :
    Calls Try.prog 4 #[.slice a0 n0 c0, .slice a1 n1 c1] w (SaysYes w) := by
  have HK := Lib.hid (known_any w)
  have HX := Lib.hid hX
  have HN := Lib.hid hn1
  have HR := Lib.hid hR
  have HC := Lib.hid hc0
  have HFL := Lib.hid hf
  obtain ⟨D, hD⟩ : ∃ D, D = w.heap.size := ⟨_, rfl⟩
  rw [← hD] at HX HR
  have HD := Lib.hid hD
  clear hX hn1 hR hc0 hf hD
  go_enter Try.func4, Try.ntmps4
  go_wp2_with fail
  go_at_call 6
  refine HK.out.mono ?_
  rintro e w1 ⟨rfl, g1⟩
  have hXW : FldsW w1 D a1 n1 X1 := ⟨fun h0 => by
    obtain ⟨tb, o, e1, e2, e3⟩ := HX.out.ex h0
    exact ⟨tb, o, e1, e2, fun i hi => (e3 i hi).grown g1 (by simp)⟩, fun i hi => (HX.out.mem i hi).grown g1 (by simp), HX.out.ok⟩
  have HG := Lib.hid (refGreat_any D a1 n1 c1 X1 w1 hXW HN.out)
  have G1 := Lib.hid g1
  have HXW := Lib.hid hXW
  have HR1 := Lib.hid (HR.out.grown g1 (by simp))
  clear HK g1 hXW HX HR
  by_cases h20 : 20000 < n0
  · have j20 : (20000 : Int) < (n0 : Int) := by omega
    go_wp2_with fail
    go_at_call 7
    refine HG.out.mono ?_
    rintro e w2 ⟨b, rfl, g2, himp⟩
    have G2 := Lib.hid (grown_trans G1.out g2)
    clear himp g2 HG G1
    cases b with
    | true =>
      go_wp2_with fail
      go_ret
      exact ⟨rfl, G2.out⟩
    | false =>
      go_wp2_with fail
      go_ret
      exact ⟨rfl, G2.out⟩
  have j20 : ¬ (20000 : Int) < (n0 : Int) := by omega
  have HN0 : Hid (n0 ≤ 20000) := by show _ ≤ _; omega
  go_wp2_with fail
  go_at_call 7
  refine HG.out.mono ?_
  rintro e w2 ⟨b, rfl, g2, himp⟩
  have G2 := Lib.hid (grown_trans G1.out g2)
  cases b with
  | true =>
    clear himp g2 HG G1
    go_wp2_with fail
    go_ret
    exact ⟨rfl, G2.out⟩
  | false =>
    obtain ⟨hF, hn3, _⟩ := HXW.out.few (himp rfl)
    have hF2 := hF.grown g2 (by simp)
    obtain ⟨X, hX⟩ : ∃ X, X = cutX n1 X1 := ⟨_, rfl⟩
    rw [← hX] at hF2
    have HF := Lib.hid hF2
    have HN3 : Hid (n1 ≤ 1048576) := by show _ ≤ _; omega
    have HR2 := Lib.hid (HR1.out.grown g2 (by simp))
    obtain ⟨gl, cap, w3, hap, hL3⟩ := lent_any D n0 c0 a0 f0 w2 HR2.out (by have := HN0.out; omega)
    have HAP := Lib.hid hap
    have HL3 := Lib.hid hL3
    have HI := Lib.hid (newInF_any w3.heap.size n0 cap (some ⟨gl, 0, none⟩) f0 w3 hL3.own.rd (by have := HN0.out; omega))
    clear himp g2 HG G1 hF hF2 hn3 hX HXW HN HR1 hap hL3 h20
    go_wp2_with (at_builtin; refine wpList_append_run rfl (.tmp 19) (.tmp 20) 28 28 rfl _ _ _ _ rfl rfl HAP.out ?_)
    go_at_call 12
    refine HI.out.mono ?_
    rintro e w4 ⟨p, rfl, hI4, hp4, g4, _⟩
    have hDl : D ≤ w3.heap.size := by
      have := HD.out; have := G2.out.size; have := HL3.out.gr.size
      omega
    have hF4 := (HF.out.grown HL3.out.gr (by simp)).grown g4 (by simp)
    have HT := Lib.hid (lawTake_any D n1 c1 a1 X hI4 HFL.out hF4 HN3.out (fun g hg => Nat.le_trans hDl (hp4 g hg)) (by have := HN0.out; omega))
    have HP4 := Lib.hid (row_ge hI4 hp4)
    have hne : ∀ g, p = some ⟨g, 0, none⟩ → some g ≠ some gl := fun g hg e => by
      have := hp4 g hg
      have := HL3.out.own.lt
      cases e
      omega
    have HNE := Lib.hid hne
    have HO4 := Lib.hid (HL3.out.own.grown g4 (by simp))
    have HF4 := Lib.hid hF4
    have HR4 := Lib.hid ((HR2.out.grown HL3.out.gr (by simp)).grown g4 (by simp))
    have G4 := Lib.hid (grown_trans (grown_trans G2.out HL3.out.gr) g4)
    have HDG : Hid (D ≤ gl) := by
      have := HD.out; have := G2.out.size; have := HL3.out.new
      show _ ≤ _
      omega
    have HS4 : Hid (w3.heap.size ≤ w4.heap.size ∧ D ≤ w3.heap.size ∧ gl < w3.heap.size) := ⟨g4.size, hDl, HL3.out.own.lt⟩
    clear hI4 hp4 g4 HI HAP hDl hF4 hne HL3 G2 HF HR2
    go_wp2_with fail
    go_at_call 13
    refine HT.out.mono ?_
    rintro e w5 ⟨⟨a5, c5, Y5, rfl, hK5, hT5, hY5⟩, hI5, g5⟩
    have hrow5 : ∀ k, rowP p = some k → w3.heap.size ≤ k := HP4.out
    have hO5 : OwnR w5 gl n0 cap f0 := HO4.out.grown g5 (fun e => by have := hrow5 gl e.symm; have := HS4.out.2.2; omega)
    have hcl := run_clear_bytes (Q := Try.prog) (T := 28) (E := 5) (by kernel_rfl) (fun _ => by kernel_rfl) 0 gl 0 n0 cap (some ⟨gl, 0, none⟩) w5 (fun _ => rfl)
        (fun j hj => by rw [Nat.zero_add, hO5.cell j hj]; rfl) (fun j _ => hO5.free _)
    have g6 : w5.grownBy (w5.setCells gl 0 ((List.range n0).map fun _ => Value.int .u8 (0 : Nat))) (some gl) := grown_setCells gl (Or.inr rfl) _ _ _ (grown_refl w5 (some gl))
    obtain ⟨w6, hw6⟩ : ∃ w6, w6 = w5.setCells gl 0 ((List.range n0).map fun _ => Value.int .u8 (0 : Nat)) := ⟨_, rfl⟩
    rw [← hw6] at g6 hcl
    have hH6 := hI5.head.grown g6 HNE.out
    have hK6 : Kept w6 w4.heap.size w4.heap.size (.slice a5 n1 c5) n1 Y5 := hK5.grown g6 (fun k hk => by
      cases hk
      have := HS4.out
      exact Or.inl ⟨by omega, by omega⟩)
    have hF6 := (HF4.out.grown g5 (fun k hk => by have := hrow5 k hk; have := HS4.out; omega)).grown g6 (fun k hk => by cases hk; exact HDG.out)
    have hR6 := (HR4.out.grown g5 (fun k hk => by have := hrow5 k hk; have := HS4.out; omega)).grown g6 (fun k hk => by cases hk; exact HDG.out)
    have hG6 : w.grownBy w6 none := grown_row (grown_row G4.out g5 (fun k hk => by have := hrow5 k hk; have := HS4.out; have := HD.out; omega)) g6 (fun k hk => by cases hk; have := HDG.out; have := HD.out; omega)
    have HRT := Lib.hid (refTake_any D n0 c0 n1 c1 a0 a1 f0 X w6 hR6 HC.out HFL.out hF6 HN3.out (by have := HN0.out; omega))
    have HCL := Lib.hid hcl
    have HH6 := Lib.hid hH6
    have HK6 := Lib.hid hK6
    have HT5 := Lib.hid hT5
    have HY5 := Lib.hid hY5
    have G6 := Lib.hid hG6
    clear hrow5 hO5 hcl g6 hw6 hH6 hK6 hF6 hR6 hG6 hT5 hY5 hK5 hI5 g5 HT HP4 HNE HO4 HF4 HR4 G4 HDG HS4
    have hcl := HCL.out
    clear HCL
    go_wp2_with fail
    go_at_call 14
    clear hcl
    refine HRT.out.mono ?_
    rintro e w7 ⟨hex, g7⟩
    have HH7 := Lib.hid (HH6.out.grown g7 (by simp))
    have hK7 := HK6.out.grown g7 (fun k hk => by cases hk)
    have G7 := Lib.hid (grown_trans G6.out g7)
    rcases hex with ⟨at', a8, c8, Y8, hst, hat, rfl, hK8, hT8, hY8⟩ | ⟨hst, rfl⟩
    · rw [hst] at HH7
      have hlike : ∀ q, q < n1 → (Y5 q).Like (Y8 q) := fun q hq => (HT5.out q hq).like (hT8 q hq)
      have HSM := Lib.hid (refSame_any w7.heap.size w7.heap.size a5 a8 n1 c5 c8 Y5 Y8 w7 (hK7.flds HY5.out) (hK8.flds hY8) HN3.out hlike (fun q hq => (hlike q hq).str (HY5.out q) (hY8 q)))
      obtain ⟨m, hm⟩ : ∃ m, m = n0 - at' := ⟨_, rfl⟩
      have HM := Lib.hid hm
      rw [← hm]
      have j0 : ¬ (m : Int) < 0 := by omega
      clear hK7 hst hat hK8 hT8 hY8 hlike hm HK6 HT5 HY5 HRT g7 G6 HH6
      go_wp2_with fail
      go_at_call 17
      refine HSM.out.mono ?_
      rintro e w8 ⟨rfl, g8⟩
      have HH8 := HH7.out.grown g8 (by simp)
      have HL := Lib.hid (headLeft_any HH8)
      have HE := Lib.hid (headEnd_any HH8)
      have hc0 : (ISt.good at').code n0 = if 0 < n0 - at' then 9 else 0 := rfl
      have hl0 : (ISt.good at').left n0 = n0 - at' := rfl
      rw [hc0, ← HM.out] at HE
      rw [hl0, ← HM.out] at HL
      have G8 := Lib.hid (grown_trans G7.out g8)
      clear HH8 hc0 hl0 HM HH7 G7 g8 HSM
      by_cases h0 : 0 < m
      · rw [if_pos h0] at HE
        have j2 : ((m : Int) == 0) = false := beq_eq_false_iff_ne.2 (by omega)
        clear h0
        go_wp2_with fail
        go_at_call 15
        refine HL.out.mono ?_
        rintro e w9 ⟨rfl, rfl⟩
        go_wp2_with fail
        go_at_call 16
        refine HE.out.mono ?_
        rintro e w9 ⟨rfl, rfl⟩
        clear HL HE
        go_wp2_with fail
        go_ret
        exact ⟨rfl, G8.out⟩
      · rw [if_neg h0] at HE
        obtain rfl : m = 0 := by omega
        clear h0
        go_wp2_with fail
        go_at_call 15
        refine HL.out.mono ?_
        rintro e w9 ⟨rfl, rfl⟩
        go_wp2_with fail
        go_at_call 16
        refine HE.out.mono ?_
        rintro e w9 ⟨rfl, rfl⟩
        clear HL HE
        go_wp2_with fail
        go_ret
        exact ⟨rfl, G8.out⟩
    · rw [hst] at HH7
      have HL := Lib.hid (headLeft_any HH7.out)
      have HE := Lib.hid (headEnd_any HH7.out)
      have hc0 : ISt.bad.code n0 = 9 := rfl
      have hl0 : ISt.bad.left n0 = 0 := rfl
      rw [hc0] at HE
      rw [hl0] at HL
      clear hK7 hst hc0 hl0 HK6 HT5 HY5 HRT g7 G6 HH6 HH7
      go_wp2_with fail
      go_at_call 15
      refine HL.out.mono ?_
      rintro e w9 ⟨rfl, rfl⟩
      go_wp2_with fail
      go_at_call 16
      refine HE.out.mono ?_
      rintro e w9 ⟨rfl, rfl⟩
      clear HL HE
      go_wp2_with fail
      go_ret
      exact ⟨rfl, G7.out⟩
end Go.Proofs.Ytpkeolggehjjlaa
namespace Go.Proofs.Ytpkeolggehjjlaa
open Go.ChangeShapes Go.WideShapes Go.ChangeAt Go.RowKit

theorem getElem?_of_take_drop {α : Type} (l : List α) (i : Nat) (x : α) (h : (l.drop i).take 1 = [x]) : l[i]? = some x := by
  have h1 : ((l.drop i).take 1)[0]? = some x := by rw [h]; rfl
  simpa using h1

/-- A table of numbers, read. -/
theorem ints_of_trod {H : Type} {enc : TypeId × Value → H} {P : Program} {w : World} {base : Nat} {spare : Nat → Bool} {held : Bool} {fuel : Nat} {t e : TypeId} {k : IntKind} {n : Nat} {cs : List Value} {d : DataW H} {ps : List MemPlace} (L : List Int)
    (ht : P.underlying t = some (.array n e)) (he : P.underlying e = some (.int k)) (hc : P.cellsOf e = 1) (hd : DataW.trod enc P w base spare held fuel t cs = some (d, ps)) (hx : d = .agg (L.map fun z => .lit (.int k z))) :
    ∀ i, i < n → cs[i]? = some (.int k (L.getD i 0)) := by
  subst hx
  obtain ⟨xs, m, rfl, hx, _, hn, hel⟩ := DataW.trod_array ht hd
  intro i hi
  have h1 := hel i hi
  rw [hc, Nat.mul_one] at h1
  have hxi : xs[i]? = some xs[i] := List.getElem?_eq_getElem (by omega)
  rw [hxi] at h1
  obtain ⟨q, e1, e2, _⟩ := DataW.trod_int he h1
  have h2 : L.map (fun z => (DataW.lit (.int k z) : DataW H)) = xs.map (·.1) := by
    have := congrArg Prod.fst hx
    simpa using this
  have h3 : (L.map (fun z => (DataW.lit (.int k z) : DataW H)))[i]? = some (.lit (.int k q)) := by
    rw [h2]; simp [hxi, e2]
  have h4 : L[i]? = some q := by
    rw [List.getElem?_map] at h3
    cases hL : L[i]? with
    | none => rw [hL] at h3; cases h3
    | some z => rw [hL] at h3; simpa using h3
  rw [List.getD, h4]
  exact getElem?_of_take_drop cs i _ e1

theorem own : ownKnob Try.prog.godebug = none := by kernel_rfl
theorem laidOut : laidOutB Try.prog = true := by kernel_rfl

end Go.Proofs.Ytpkeolggehjjlaa
namespace Go.Proofs.Ytpkeolggehjjlaa
open Go.ChangeShapes Go.WideShapes Go.ChangeAt Go.RowKit

section
variable {H : Type} {enc : TypeId × Value → H} {P : Program}

theorem open_arr8 {W : World} {t e : TypeId} {n : Nat} {r : Reach} {b0 : Nat} {v : Value} {d : DataW H} {ps : List MemPlace} (ht : P.underlying t = some (.array n e)) (he : P.underlying e = some (.int .u8)) (hc : P.cellsOf e = 1) (hn : P.cellsOf t = n)
    (hval : Value.okWide P W r b0 t v) (h : DataW.Trod enc P W 0 (fun _ => true) true t v d ps) : ∃ f, v = .agg (cellsOf .u8 n f) ∧ ∀ i, f i < 256 := by
  have hv := hval
  simp only [Value.okWide, ht] at hv
  obtain ⟨cs, rfl, hs, _⟩ := hv
  obtain ⟨fuel, hf⟩ := h
  obtain ⟨xs, m, rfl, _, hl, _, hel⟩ := DataW.trod_array ht hf
  have key : ∀ i, i < n → ∃ q : Nat, q < 256 ∧ cs[i]? = some (.int .u8 q) := fun i hi => by
    have h1 := hel i hi
    rw [hc, Nat.mul_one] at h1
    cases hx : xs[i]? with
    | none =>
      rw [hx] at h1
      have hlen : i < cs.toList.length := by
        have : cs.size = n := by rw [hs, hn]
        simp [this]; exact hi
      exfalso
      rename_i hxl
      have : xs.length ≤ i := by simpa using hx
      omega
    | some x =>
      rw [hx] at h1
      obtain ⟨q, e1, _, hw⟩ := DataW.trod_int he h1
      have h2 := getElem?_of_take_drop _ i _ e1
      simp [Lit.wf, IntKind.min, IntKind.max, IntKind.bits, IntKind.signed] at hw
      refine ⟨q.toNat, by omega, ?_⟩
      have e2 : ((q.toNat : Nat) : Int) = q := by omega
      rw [e2]
      simpa [Value.cells] using h2
  refine ⟨fun i => (match cs[i]? with | some (.int _ q) => q.toNat | _ => 0) % 256, ?_, fun i => Nat.mod_lt _ (by decide)⟩
  congr 1
  apply Array.ext
  · rw [cellsOf_size, hs, hn]
  · intro i h1 h2
    have hi : i < n := by rwa [hs, hn] at h1
    obtain ⟨q, hq, hcq⟩ := key i hi
    have e1 := cellsOf_get .u8 n (fun i => (match cs[i]? with | some (.int _ q) => q.toNat | _ => 0) % 256) i hi
    rw [Array.getElem?_eq_getElem h2] at e1
    rw [Array.getElem?_eq_getElem h1] at hcq
    injection e1 with e1
    injection hcq with hcq'
    rw [e1, hcq']
    simp only [Array.getElem?_eq_getElem h1, hcq']
    congr 1
    simp; omega

/-- A byte that comes in. -/
theorem open_u8 {W : World} {t : TypeId} {r : Reach} {b0 : Nat} {v : Value} {d : DataW H} {ps : List MemPlace} (ht : P.underlying t = some (.int .u8))
    (hval : Value.okWide P W r b0 t v) (h : DataW.Trod enc P W 0 (fun _ => true) true t v d ps) : ∃ n : Nat, v = .int .u8 n ∧ n < 256 := by
  obtain ⟨x, rfl, _, _, hx⟩ := open_int ht hval h
  simp [Lit.wf, IntKind.min, IntKind.max, IntKind.bits, IntKind.signed] at hx
  exact ⟨x.toNat, by rw [show ((x.toNat : Nat) : Int) = x by omega], by omega⟩

end
end Go.Proofs.Ytpkeolggehjjlaa
namespace Go.Proofs.Ytpkeolggehjjlaa
open Go.ChangeShapes Go.WideShapes Go.ChangeAt Go.RowKit

set_option maxRecDepth 100000

section
variable {H : Type} {enc : TypeId × Value → H} {P : Program}
theorem bulk_one (d : DataW H) : 1 ≤ Rows.uptoBulk d := by
  cases d with
  | lit l => cases l <;> simp [Rows.uptoBulk]
  | nil => simp [Rows.uptoBulk]
  | ptr d => simp [Rows.uptoBulk]
  | slice elems spare => simp [Rows.uptoBulk]
  | agg parts => simp [Rows.uptoBulk]
  | iface t d => simp [Rows.uptoBulk]
  | map entries => simp [Rows.uptoBulk]
  | held h => simp [Rows.uptoBulk]
theorem bulk_len : ∀ l : List (DataW H), l.length ≤ Rows.uptoBulkAll l
  | [] => Nat.zero_le _
  | x :: r => by
    have h1 := bulk_one x
    have h2 := bulk_len r
    simp only [Rows.uptoBulkAll, List.length_cons]
    omega
theorem bulk_part {d : DataW H} : ∀ {l : List (DataW H)}, d ∈ l → Rows.uptoBulk d ≤ Rows.uptoBulkAll l
  | x :: r, h => by
    simp only [Rows.uptoBulkAll]
    rcases List.mem_cons.1 h with e | e
    · subst e; omega
    · have := bulk_part e; omega
/-- A slice of numbers, out of its cell. -/
theorem open_nums {W : World} {t e : TypeId} {k : IntKind} {fuel : Nat} {cs : List Value} {x : DataW H × List MemPlace} (ht : P.underlying t = some (.slice e)) (he : P.underlying e = some (.int k)) (hc : P.cellsOf e = 1) (h0 : (Lit.int k 0).wf = true)
    (h : DataW.trod enc P W 0 (fun _ => true) true fuel t cs = some x) :
    ∃ (a : Option Addr) (n c : Nat) (z : Nat → Int), cs = [.slice a n c] ∧ n ≤ Rows.uptoBulk x.1 ∧ (∀ i, (Lit.int k (z i)).wf = true) ∧
      (0 < n → ∃ tb o, a = some ⟨tb, o, none⟩ ∧ tb < W.heap.size ∧ ∀ i, i < n → W.cell? ⟨tb, o + i, none⟩ = some (.int k (z i))) := by
  rcases open_ints ht he hc h with ⟨h1, _⟩ | ⟨a, len, cap, zs, h1, _, hlc, _, hzl, hx, hcell, hwf⟩
  · exact ⟨none, 0, 0, fun _ => 0, h1, Nat.zero_le _, fun _ => h0, fun h => absurd h (by omega)⟩
  · have hzl' : len ≤ zs.length := by rw [hzl]; simp [hlc]
    refine ⟨some a, len, cap, fun i => zs.getD i 0, h1, ?_, fun i => ?_, fun hn => ?_⟩
    · rw [hx]
      have := bulk_len (H := H) (lits k (zs.take len))
      have h3 : (lits (H := H) k (zs.take len)).length = len := by simp [lits, hzl']
      simp only [Rows.uptoBulk]
      omega
    · show (Lit.int k (zs.getD i 0)).wf = true
      by_cases hi : i < zs.length
      · have e1 : zs.getD i 0 = zs[i] := by simp [List.getD, List.getElem?_eq_getElem hi]
        rw [e1]
        exact hwf zs[i] (List.getElem_mem hi)
      · have e1 : zs.getD i 0 = 0 := by simp [List.getD, List.getElem?_eq_none (Nat.le_of_not_lt hi)]
        rw [e1]; exact h0
    · have h0' := hcell 0 (by omega)
      have hspot : a.spot = none := by simpa [Addr.add] using World.cell?_spot h0'
      obtain ⟨tb, o, sp⟩ := a
      simp only at hspot
      subst hspot
      refine ⟨tb, o, rfl, ?_, fun i hi => ?_⟩
      · have := World.block_lt_of_cell? W _ h0'
        simpa [Addr.add] using this
      · have h1 := hcell i (by omega)
        rw [Addr.add_mid] at h1
        exact h1
theorem trod_struct5 {W : World} {base : Nat} {spare : Nat → Bool} {held : Bool} {t : TypeId} {f0 f1 f2 f3 f4 : Field} {fuel : Nat} {cs : List Value} {x : DataW H × List MemPlace} (ht : P.underlying t = some (.struct #[f0, f1, f2, f3, f4])) (h : DataW.trod enc P W base spare held fuel t cs = some x) :
    ∃ y0 y1 y2 y3 y4 n, x.1 = .agg [y0.1, y1.1, y2.1, y3.1, y4.1] ∧ cs.length = P.cellsOf t ∧ DataW.trod enc P W base spare held n f0.type ((cs.drop f0.offset).take (P.cellsOf f0.type)) = some y0 ∧
      DataW.trod enc P W base spare held n f1.type ((cs.drop f1.offset).take (P.cellsOf f1.type)) = some y1 ∧ DataW.trod enc P W base spare held n f2.type ((cs.drop f2.offset).take (P.cellsOf f2.type)) = some y2 ∧
      DataW.trod enc P W base spare held n f3.type ((cs.drop f3.offset).take (P.cellsOf f3.type)) = some y3 ∧ DataW.trod enc P W base spare held n f4.type ((cs.drop f4.offset).take (P.cellsOf f4.type)) = some y4 := by
  obtain ⟨xs, n, _, rfl, hl, hlen, hf⟩ := DataW.trod_struct ht h
  match xs, hlen with
  | [y0, y1, y2, y3, y4], _ => exact ⟨y0, y1, y2, y3, y4, n, by simp, hl, by simpa using hf 0 f0 rfl, by simpa using hf 1 f1 rfl, by simpa using hf 2 f2 rfl, by simpa using hf 3 f3 rfl, by simpa using hf 4 f4 rfl⟩
theorem at_drop {cs : List Value} {i : Nat} {v : Value} (h : (cs.drop i).take 1 = [v]) : cs[i]? = some v := getElem?_of_take_drop _ i _ h
/-- An element's cells, and what is known of it. -/
theorem open_fld {W : World} {u t8 t64 tb tl tm e8 e32 : TypeId} {f0 f1 f2 f3 f4 : Field} {fuel : Nat} {cs : List Value} {x : DataW H × List MemPlace} (hu : P.underlying u = some (.struct #[f0, f1, f2, f3, f4]))
    (o0 : f0.offset = 0) (o1 : f1.offset = 1) (o2 : f2.offset = 2) (o3 : f3.offset = 3) (o4 : f4.offset = 4) (t0 : f0.type = t8) (t1 : f1.type = t64) (t2 : f2.type = tb) (t3 : f3.type = tl) (t4 : f4.type = tm)
    (h8 : P.underlying t8 = some (.int .u8)) (h64 : P.underlying t64 = some (.int .u64)) (hb : P.underlying tb = some (.slice e8)) (hl : P.underlying tl = some (.slice e32)) (hm : P.underlying tm = some (.int .i64)) (he8 : P.underlying e8 = some (.int .u8)) (he32 : P.underlying e32 = some (.int .u32))
    (s8 : P.cellsOf t8 = 1) (s64 : P.cellsOf t64 = 1) (sb : P.cellsOf tb = 1) (sl : P.cellsOf tl = 1) (sm : P.cellsOf tm = 1) (se8 : P.cellsOf e8 = 1) (se32 : P.cellsOf e32 = 1)
    (h : DataW.trod enc P W 0 (fun _ => true) true fuel u cs = some x) (hbk : Rows.uptoBulk x.1 ≤ 1048576) :
    ∃ X : FV, X.Ok ∧ X.Mem W W.heap.size ∧ cs[0]? = some (.int .u8 X.k) ∧ cs[1]? = some (.int .u64 X.n) ∧ cs[2]? = some (.slice X.ab X.nb X.cb) ∧ cs[3]? = some (.slice X.al X.nl X.cl) ∧ cs[4]? = some (.int .i64 X.m) := by
  obtain ⟨y0, y1, y2, y3, y4, n, hx, _, q0, q1, q2, q3, q4⟩ := trod_struct5 hu h
  rw [o0, t0, s8] at q0
  rw [o1, t1, s64] at q1
  rw [o2, t2, sb] at q2
  rw [o3, t3, sl] at q3
  rw [o4, t4, sm] at q4
  obtain ⟨k, r0, _, w0⟩ := DataW.trod_int h8 q0
  obtain ⟨v, r1, _, w1⟩ := DataW.trod_int h64 q1
  obtain ⟨m, r4, _, w4⟩ := DataW.trod_int hm q4
  obtain ⟨ab, nb, cb, zb, r2, l2, wb, hB⟩ := open_nums hb he8 se8 (by rfl) q2
  obtain ⟨al, nl, cl, zl, r3, l3, wl, hL⟩ := open_nums hl he32 se32 (by rfl) q3
  rw [hx] at hbk
  simp only [Rows.uptoBulk, Rows.uptoBulkAll] at hbk
  have b1 := bulk_one y2.1
  have b2 := bulk_one y3.1
  have wb' : ∀ i, 0 ≤ zb i ∧ zb i < 256 := fun i => by have := wb i; simp [Lit.wf, IntKind.min, IntKind.max, IntKind.bits, IntKind.signed] at this; omega
  have wl' : ∀ i, 0 ≤ zl i ∧ zl i < 4294967296 := fun i => by have := wl i; simp [Lit.wf, IntKind.min, IntKind.max, IntKind.bits, IntKind.signed] at this; omega
  simp [Lit.wf, IntKind.min, IntKind.max, IntKind.bits, IntKind.signed] at w0 w1 w4
  refine ⟨⟨k.toNat, v.toNat, ab, nb, cb, fun i => (zb i).toNat, al, nl, cl, fun i => (zl i).toNat, m⟩, ⟨?_, ?_, fun i => ?_, fun i => ?_, ?_, ?_, ?_, ?_⟩, ⟨⟨fun hn => ?_⟩, ⟨fun hn => ?_⟩⟩, ?_, ?_, at_drop r2, at_drop r3, at_drop r4⟩
  · show k.toNat < 256; omega
  · show v.toNat < 18446744073709551616; omega
  · have := wb' i; show (zb i).toNat < 256; omega
  · have := wl' i; show (zl i).toNat < 4294967296; omega
  · show nb ≤ 1048576; omega
  · show nl ≤ 1048576; omega
  · show -9223372036854775808 ≤ m; omega
  · show m < 9223372036854775808; omega
  · obtain ⟨tb, o, e1, e2, e3⟩ := hB hn
    refine ⟨tb, o, e1, e2, fun i hi => ?_⟩
    have := wb' i
    rw [e3 i hi]
    show some (Value.int .u8 (zb i)) = some (Value.int .u8 (((zb i).toNat : Nat) : Int))
    rw [show (((zb i).toNat : Nat) : Int) = zb i by omega]
  · obtain ⟨tb, o, e1, e2, e3⟩ := hL hn
    refine ⟨tb, o, e1, e2, fun i hi => ?_⟩
    have := wl' i
    rw [e3 i hi]
    show some (Value.int .u32 (zl i)) = some (Value.int .u32 (((zl i).toNat : Nat) : Int))
    rw [show (((zl i).toNat : Nat) : Int) = zl i by omega]
  · rw [at_drop r0]
    show some (Value.int .u8 k) = some (Value.int .u8 ((k.toNat : Nat) : Int))
    rw [show ((k.toNat : Nat) : Int) = k by omega]
  · rw [at_drop r1]
    show some (Value.int .u64 v) = some (Value.int .u64 ((v.toNat : Nat) : Int))
    rw [show ((v.toNat : Nat) : Int) = v by omega]
/-- No field. -/
def fv0 : FV := ⟨0, 0, none, 0, 0, fun _ => 0, none, 0, 0, fun _ => 0, 0⟩
theorem fv0_ok : fv0.Ok := ⟨by decide, by decide, fun _ => (by decide : (0 : Nat) < 256), fun _ => (by decide : (0 : Nat) < 4294967296), by decide, by decide, by decide, by decide⟩
theorem open_flds {W : World} {t u t8 t64 tb tl tm e8 e32 : TypeId} {f0 f1 f2 f3 f4 : Field} {v : Value} {d : DataW H} {ps : List MemPlace} {r : Reach} {b0 : Nat} (ht : P.underlying t = some (.slice u)) (hu : P.underlying u = some (.struct #[f0, f1, f2, f3, f4]))
    (o0 : f0.offset = 0) (o1 : f1.offset = 1) (o2 : f2.offset = 2) (o3 : f3.offset = 3) (o4 : f4.offset = 4) (t0 : f0.type = t8) (t1 : f1.type = t64) (t2 : f2.type = tb) (t3 : f3.type = tl) (t4 : f4.type = tm)
    (h8 : P.underlying t8 = some (.int .u8)) (h64 : P.underlying t64 = some (.int .u64)) (hb : P.underlying tb = some (.slice e8)) (hl : P.underlying tl = some (.slice e32)) (hm : P.underlying tm = some (.int .i64)) (he8 : P.underlying e8 = some (.int .u8)) (he32 : P.underlying e32 = some (.int .u32))
    (cu : P.cellsOf u = 5) (s8 : P.cellsOf t8 = 1) (s64 : P.cellsOf t64 = 1) (sb : P.cellsOf tb = 1) (sl : P.cellsOf tl = 1) (sm : P.cellsOf tm = 1) (se8 : P.cellsOf e8 = 1) (se32 : P.cellsOf e32 = 1)
    (hval : Value.okWide P W r b0 t v) (h : DataW.Trod enc P W 0 (fun _ => true) true t v d ps) (hk : Rows.uptoBulk d ≤ 1048576) :
    ∃ a n c X, v = .slice a n c ∧ n ≤ c ∧ n ≤ 1048576 ∧ Flds W W.heap.size a n X := by
  obtain ⟨a0, len, cap, rfl⟩ := okWide_slice ht hval
  obtain ⟨fuel, hf⟩ := h
  rcases Deep.open_slice ht hf with ⟨h1, _⟩ | ⟨a, len', cap', m, n, D, Pl, h1, _, hlc, hmx, hmm, hd, hx⟩
  · simp [Value.cells] at h1
    obtain ⟨rfl, rfl, rfl⟩ := h1
    exact ⟨none, 0, 0, fun _ => fv0, rfl, Nat.le_refl _, Nat.zero_le _, ⟨fun h => absurd h (by omega), fun i hi => absurd hi (by omega), fun _ => fv0_ok⟩⟩
  · simp [Value.cells] at h1
    obtain ⟨rfl, rfl, rfl⟩ := h1
    have hmc : m = cap := by simpa using hmm
    have hdd : d = .slice ((List.range len).map D) ((List.range (m - len)).map fun j => D (len + j)) := congrArg Prod.fst hd
    rw [hdd] at hk
    simp only [Rows.uptoBulk] at hk
    have hlen : len ≤ 1048576 := by
      have := bulk_len ((List.range len).map D)
      rw [List.length_map, List.length_range] at this
      omega
    have hspot0 : 0 < len → a.spot = none := fun h0 => by
      obtain ⟨cs', g1, _⟩ := hx 0 (by omega)
      rw [cu] at g1
      obtain ⟨_, hl5, hc⟩ := World.cells?_some g1
      have c0 := hc 0 (by omega)
      obtain ⟨v0, hv0⟩ : ∃ v, cs'[0]? = some v := ⟨_, List.getElem?_eq_getElem (by omega)⟩
      rw [hv0] at c0
      simpa [Addr.add] using World.cell?_spot c0
    have key : ∀ i, ∃ X : FV, X.Ok ∧ (i < len → X.Mem W W.heap.size ∧ FAt W a.block (a.off + i * 5) X ∧ a.spot = none) := fun i => by
      by_cases hi : i < len
      · obtain ⟨cs', g1, g2⟩ := hx i (by omega)
        rw [cu] at g1
        obtain ⟨_, hl5, hc⟩ := World.cells?_some g1
        have hbi : Rows.uptoBulk (D i) ≤ 1048576 := by
          have := bulk_part (d := D i) (l := (List.range len).map D) (List.mem_map.2 ⟨i, List.mem_range.2 hi, rfl⟩)
          omega
        obtain ⟨X, hok, hmem, k0, k1, k2, k3, k4⟩ := open_fld hu o0 o1 o2 o3 o4 t0 t1 t2 t3 t4 h8 h64 hb hl hm he8 he32 s8 s64 sb sl sm se8 se32 g2 hbi
        have c0 := (hc 0 (by omega)).trans k0
        have c1 := (hc 1 (by omega)).trans k1
        have c2 := (hc 2 (by omega)).trans k2
        have c3 := (hc 3 (by omega)).trans k3
        have c4 := (hc 4 (by omega)).trans k4
        have hspot := hspot0 (by omega)
        obtain ⟨tb', o', sp⟩ := a
        simp only at hspot
        subst hspot
        rw [Addr.add_mid, Addr.add_mid] at c0 c1 c2 c3 c4
        exact ⟨X, hok, fun _ => ⟨hmem, ⟨c0, c1, c2, c3, c4⟩, rfl⟩⟩
      · exact ⟨fv0, fv0_ok, fun h => absurd h hi⟩
    obtain ⟨X, hX⟩ := Classical.axiomOfChoice key
    refine ⟨some a, len, cap, X, rfl, hlc, hlen, ⟨fun h0 => ?_, fun i hi => ((hX i).2 hi).1, fun i => (hX i).1⟩⟩
    have h2 := ((hX 0).2 h0).2
    have hlt := World.block_lt_of_cell? W _ h2.1.c0
    obtain ⟨tb', o', sp⟩ := a
    have hspot := h2.2
    simp only at hspot
    subst hspot
    exact ⟨tb', o', rfl, hlt, fun i hi => ((hX i).2 hi).2.1⟩
/-- Bytes that come in, of a bulk that is bounded. -/
theorem open_bytes_bulk {W : World} {t e : TypeId} {r : Reach} {b0 : Nat} {v : Value} {d : DataW H} {ps : List MemPlace} (ht : P.underlying t = some (.slice e)) (he : P.underlying e = some (.int .u8)) (hc : P.cellsOf e = 1)
    (hval : Value.okWide P W r b0 t v) (h : DataW.Trod enc P W 0 (fun _ => true) true t v d ps) (hk : Rows.uptoBulk d ≤ 1048576) :
    ∃ a n c f, v = .slice a n c ∧ n ≤ 1048576 ∧ Rd W W.heap.size a n f ∧ ∀ i, f i < 256 := by
  obtain ⟨a0, len, cap, rfl⟩ := okWide_slice ht hval
  obtain ⟨fuel, hf⟩ := h
  obtain ⟨a, n, c, z, h1, hb, hw, hcell⟩ := open_nums ht he hc (by rfl) hf
  simp [Value.cells] at h1
  obtain ⟨rfl, rfl, rfl⟩ := h1
  have wb : ∀ i, 0 ≤ z i ∧ z i < 256 := fun i => by have := hw i; simp [Lit.wf, IntKind.min, IntKind.max, IntKind.bits, IntKind.signed] at this; omega
  refine ⟨a0, len, cap, fun i => (z i).toNat, rfl, Nat.le_trans hb hk, ⟨fun hn => ?_⟩, fun i => by have := wb i; show (z i).toNat < 256; omega⟩
  obtain ⟨tb, o, e1, e2, e3⟩ := hcell hn
  refine ⟨tb, o, e1, e2, fun i hi => ?_⟩
  have := wb i
  rw [e3 i hi]
  show some (Value.int .u8 (z i)) = some (Value.int .u8 (((z i).toNat : Nat) : Int))
  rw [show (((z i).toNat : Nat) : Int) = z i by omega]
end
end Go.Proofs.Ytpkeolggehjjlaa
namespace Go.Proofs.Ytpkeolggehjjlaa
open Go.ChangeShapes Go.WideShapes Go.ChangeAt Go.RowKit

set_option maxRecDepth 100000

section
variable {H : Type} {enc : TypeId × Value → H} {P : Program}
/-- A slice of numbers, out of its cell. -/
theorem open_numsW {W : World} {t e : TypeId} {k : IntKind} {fuel : Nat} {cs : List Value} {x : DataW H × List MemPlace} (ht : P.underlying t = some (.slice e)) (he : P.underlying e = some (.int k)) (hc : P.cellsOf e = 1) (h0 : (Lit.int k 0).wf = true) (hby : 1 ≤ P.bytesOf e)
    (h : DataW.trod enc P W 0 (fun _ => true) true fuel t cs = some x) (hw : ∀ y, y ∈ x.1.weights P t → y ≤ reachBytes) :
    ∃ (a : Option Addr) (n c : Nat) (z : Nat → Int), cs = [.slice a n c] ∧ n ≤ 140737488355328 ∧ (∀ i, (Lit.int k (z i)).wf = true) ∧
      (0 < n → ∃ tb o, a = some ⟨tb, o, none⟩ ∧ tb < W.heap.size ∧ ∀ i, i < n → W.cell? ⟨tb, o + i, none⟩ = some (.int k (z i))) := by
  rcases open_ints ht he hc h with ⟨h1, _⟩ | ⟨a, len, cap, zs, h1, _, hlc, _, hzl, hx, hcell, hwf⟩
  · exact ⟨none, 0, 0, fun _ => 0, h1, Nat.zero_le _, fun _ => h0, fun h => absurd h (by omega)⟩
  · have hzl' : len ≤ zs.length := by rw [hzl]; simp [hlc]
    refine ⟨some a, len, cap, fun i => zs.getD i 0, h1, ?_, fun i => ?_, fun hn => ?_⟩
    · have := hw ((min len zs.length + (zs.length - len)) * P.bytesOf e) (by
        rw [hx]
        unfold DataW.weights
        rw [ht]
        refine List.mem_cons.2 (Or.inl ?_)
        simp [lits])
      have h2 : (min len zs.length + (zs.length - len)) * 1 ≤ (min len zs.length + (zs.length - len)) * P.bytesOf e := Nat.mul_le_mul_left _ hby
      unfold reachBytes at this
      omega
    · show (Lit.int k (zs.getD i 0)).wf = true
      by_cases hi : i < zs.length
      · have e1 : zs.getD i 0 = zs[i] := by simp [List.getD, List.getElem?_eq_getElem hi]
        rw [e1]
        exact hwf zs[i] (List.getElem_mem hi)
      · have e1 : zs.getD i 0 = 0 := by simp [List.getD, List.getElem?_eq_none (Nat.le_of_not_lt hi)]
        rw [e1]; exact h0
    · have h0' := hcell 0 (by omega)
      have hspot : a.spot = none := by simpa [Addr.add] using World.cell?_spot h0'
      obtain ⟨tb, o, sp⟩ := a
      simp only at hspot
      subst hspot
      refine ⟨tb, o, rfl, ?_, fun i hi => ?_⟩
      · have := World.block_lt_of_cell? W _ h0'
        simpa [Addr.add] using this
      · have h1 := hcell i (by omega)
        rw [Addr.add_mid] at h1
        exact h1
/-- An element's cells, and what is known of it. -/
theorem open_fldW {W : World} {u t8 t64 tb tl tm e8 e32 : TypeId} {f0 f1 f2 f3 f4 : Field} {fuel : Nat} {cs : List Value} {x : DataW H × List MemPlace} (hu : P.underlying u = some (.struct #[f0, f1, f2, f3, f4]))
    (o0 : f0.offset = 0) (o1 : f1.offset = 1) (o2 : f2.offset = 2) (o3 : f3.offset = 3) (o4 : f4.offset = 4) (t0 : f0.type = t8) (t1 : f1.type = t64) (t2 : f2.type = tb) (t3 : f3.type = tl) (t4 : f4.type = tm)
    (h8 : P.underlying t8 = some (.int .u8)) (h64 : P.underlying t64 = some (.int .u64)) (hb : P.underlying tb = some (.slice e8)) (hl : P.underlying tl = some (.slice e32)) (hm : P.underlying tm = some (.int .i64)) (he8 : P.underlying e8 = some (.int .u8)) (he32 : P.underlying e32 = some (.int .u32))
    (s8 : P.cellsOf t8 = 1) (s64 : P.cellsOf t64 = 1) (sb : P.cellsOf tb = 1) (sl : P.cellsOf tl = 1) (sm : P.cellsOf tm = 1) (se8 : P.cellsOf e8 = 1) (se32 : P.cellsOf e32 = 1) (b8 : 1 ≤ P.bytesOf e8) (b32 : 1 ≤ P.bytesOf e32)
    (h : DataW.trod enc P W 0 (fun _ => true) true fuel u cs = some x) (hw : ∀ y, y ∈ x.1.weights P u → y ≤ reachBytes) :
    ∃ X : FV, X.OkW ∧ X.Mem W W.heap.size ∧ cs[0]? = some (.int .u8 X.k) ∧ cs[1]? = some (.int .u64 X.n) ∧ cs[2]? = some (.slice X.ab X.nb X.cb) ∧ cs[3]? = some (.slice X.al X.nl X.cl) ∧ cs[4]? = some (.int .i64 X.m) := by
  obtain ⟨y0, y1, y2, y3, y4, n, hx, _, q0, q1, q2, q3, q4⟩ := trod_struct5 hu h
  have hwx : x.1.weights P u = DataW.weightsEach P [f0.type, f1.type, f2.type, f3.type, f4.type] [y0.1, y1.1, y2.1, y3.1, y4.1] := by
    rw [hx]
    conv => lhs; unfold DataW.weights
    rw [hu]
    rfl
  rw [hwx, t2, t3] at hw
  rw [o0, t0, s8] at q0
  rw [o1, t1, s64] at q1
  rw [o2, t2, sb] at q2
  rw [o3, t3, sl] at q3
  rw [o4, t4, sm] at q4
  obtain ⟨k, r0, _, w0⟩ := DataW.trod_int h8 q0
  obtain ⟨v, r1, _, w1⟩ := DataW.trod_int h64 q1
  obtain ⟨m, r4, _, w4⟩ := DataW.trod_int hm q4
  obtain ⟨ab, nb, cb, zb, r2, l2, wb, hB⟩ := open_numsW hb he8 se8 (by rfl) b8 q2 (fun y hy => hw y (by
    simp only [DataW.weightsEach, List.mem_append]
    exact Or.inr (Or.inr (Or.inl hy))))
  obtain ⟨al, nl, cl, zl, r3, l3, wl, hL⟩ := open_numsW hl he32 se32 (by rfl) b32 q3 (fun y hy => hw y (by
    simp only [DataW.weightsEach, List.mem_append]
    exact Or.inr (Or.inr (Or.inr (Or.inl hy)))))
  have wb' : ∀ i, 0 ≤ zb i ∧ zb i < 256 := fun i => by have := wb i; simp [Lit.wf, IntKind.min, IntKind.max, IntKind.bits, IntKind.signed] at this; omega
  have wl' : ∀ i, 0 ≤ zl i ∧ zl i < 4294967296 := fun i => by have := wl i; simp [Lit.wf, IntKind.min, IntKind.max, IntKind.bits, IntKind.signed] at this; omega
  simp [Lit.wf, IntKind.min, IntKind.max, IntKind.bits, IntKind.signed] at w0 w1 w4
  refine ⟨⟨k.toNat, v.toNat, ab, nb, cb, fun i => (zb i).toNat, al, nl, cl, fun i => (zl i).toNat, m⟩, ⟨?_, ?_, fun i => ?_, fun i => ?_, ?_, ?_, ?_, ?_⟩, ⟨⟨fun hn => ?_⟩, ⟨fun hn => ?_⟩⟩, ?_, ?_, at_drop r2, at_drop r3, at_drop r4⟩
  · show k.toNat < 256; omega
  · show v.toNat < 18446744073709551616; omega
  · have := wb' i; show (zb i).toNat < 256; omega
  · have := wl' i; show (zl i).toNat < 4294967296; omega
  · exact l2
  · exact l3
  · show -9223372036854775808 ≤ m; omega
  · show m < 9223372036854775808; omega
  · obtain ⟨tb, o, e1, e2, e3⟩ := hB hn
    refine ⟨tb, o, e1, e2, fun i hi => ?_⟩
    have := wb' i
    rw [e3 i hi]
    show some (Value.int .u8 (zb i)) = some (Value.int .u8 (((zb i).toNat : Nat) : Int))
    rw [show (((zb i).toNat : Nat) : Int) = zb i by omega]
  · obtain ⟨tb, o, e1, e2, e3⟩ := hL hn
    refine ⟨tb, o, e1, e2, fun i hi => ?_⟩
    have := wl' i
    rw [e3 i hi]
    show some (Value.int .u32 (zl i)) = some (Value.int .u32 (((zl i).toNat : Nat) : Int))
    rw [show (((zl i).toNat : Nat) : Int) = zl i by omega]
  · rw [at_drop r0]
    show some (Value.int .u8 k) = some (Value.int .u8 ((k.toNat : Nat) : Int))
    rw [show ((k.toNat : Nat) : Int) = k by omega]
  · rw [at_drop r1]
    show some (Value.int .u64 v) = some (Value.int .u64 ((v.toNat : Nat) : Int))
    rw [show ((v.toNat : Nat) : Int) = v by omega]
theorem fvZ_okW : fvZ.OkW := ⟨by decide, by decide, fun _ => (by decide : (0 : Nat) < 256), fun _ => (by decide : (0 : Nat) < 4294967296), by decide, by decide, by decide, by decide⟩
theorem open_fldsW {W : World} {t u t8 t64 tb tl tm e8 e32 : TypeId} {f0 f1 f2 f3 f4 : Field} {v : Value} {d : DataW H} {ps : List MemPlace} {r : Reach} {b0 : Nat} (ht : P.underlying t = some (.slice u)) (hu : P.underlying u = some (.struct #[f0, f1, f2, f3, f4]))
    (o0 : f0.offset = 0) (o1 : f1.offset = 1) (o2 : f2.offset = 2) (o3 : f3.offset = 3) (o4 : f4.offset = 4) (t0 : f0.type = t8) (t1 : f1.type = t64) (t2 : f2.type = tb) (t3 : f3.type = tl) (t4 : f4.type = tm)
    (h8 : P.underlying t8 = some (.int .u8)) (h64 : P.underlying t64 = some (.int .u64)) (hb : P.underlying tb = some (.slice e8)) (hl : P.underlying tl = some (.slice e32)) (hm : P.underlying tm = some (.int .i64)) (he8 : P.underlying e8 = some (.int .u8)) (he32 : P.underlying e32 = some (.int .u32))
    (cu : P.cellsOf u = 5) (s8 : P.cellsOf t8 = 1) (s64 : P.cellsOf t64 = 1) (sb : P.cellsOf tb = 1) (sl : P.cellsOf tl = 1) (sm : P.cellsOf tm = 1) (se8 : P.cellsOf e8 = 1) (se32 : P.cellsOf e32 = 1) (b8 : 1 ≤ P.bytesOf e8) (b32 : 1 ≤ P.bytesOf e32) (bu : 1 ≤ P.bytesOf u)
    (hval : Value.okWide P W r b0 t v) (h : DataW.Trod enc P W 0 (fun _ => true) true t v d ps) (hw : ∀ y, y ∈ d.weights P t → y ≤ reachBytes) :
    ∃ a n c X, v = .slice a n c ∧ n ≤ c ∧ n ≤ 140737488355328 ∧ FldsW W W.heap.size a n X := by
  obtain ⟨a0, len, cap, rfl⟩ := okWide_slice ht hval
  obtain ⟨fuel, hf⟩ := h
  rcases Deep.open_slice ht hf with ⟨h1, _⟩ | ⟨a, len', cap', m, n, D, Pl, h1, _, hlc, hmx, hmm, hd, hx⟩
  · simp [Value.cells] at h1
    obtain ⟨rfl, rfl, rfl⟩ := h1
    exact ⟨none, 0, 0, fun _ => fvZ, rfl, Nat.le_refl _, Nat.zero_le _, ⟨fun h => absurd h (by omega), fun i hi => absurd hi (by omega), fun _ => fvZ_okW⟩⟩
  · simp [Value.cells] at h1
    obtain ⟨rfl, rfl, rfl⟩ := h1
    have hmc : m = cap := by simpa using hmm
    have hdd : d = .slice ((List.range len).map D) ((List.range (m - len)).map fun j => D (len + j)) := congrArg Prod.fst hd
    have hwd : DataW.weights P t d = (((List.range len).map D).length + ((List.range (m - len)).map fun j => D (len + j)).length) * P.bytesOf u :: (DataW.weightsAll P u ((List.range len).map D) ++ DataW.weightsAll P u ((List.range (m - len)).map fun j => D (len + j))) := by
      rw [hdd]
      conv => lhs; unfold DataW.weights
      rw [ht]
    rw [hwd] at hw
    have hlen : len ≤ 140737488355328 := by
      have h1 := hw _ (List.mem_cons_self ..)
      simp only [List.length_map, List.length_range] at h1
      have h2 : (len + (m - len)) * 1 ≤ (len + (m - len)) * P.bytesOf u := Nat.mul_le_mul_left _ bu
      unfold reachBytes at h1
      omega
    have hwe : ∀ j, j < len → ∀ y, y ∈ (D j).weights P u → y ≤ reachBytes := fun j hj y hy =>
      hw y (List.mem_cons_of_mem _ (List.mem_append.2 (Or.inl (mem_weightsAll _ (D j) y (List.mem_map.2 ⟨j, List.mem_range.2 hj, rfl⟩) hy))))
    have hspot0 : 0 < len → a.spot = none := fun h0 => by
      obtain ⟨cs', g1, _⟩ := hx 0 (by omega)
      rw [cu] at g1
      obtain ⟨_, hl5, hc⟩ := World.cells?_some g1
      have c0 := hc 0 (by omega)
      obtain ⟨v0, hv0⟩ : ∃ v, cs'[0]? = some v := ⟨_, List.getElem?_eq_getElem (by omega)⟩
      rw [hv0] at c0
      simpa [Addr.add] using World.cell?_spot c0
    have key : ∀ i, ∃ X : FV, X.OkW ∧ (i < len → X.Mem W W.heap.size ∧ FAt W a.block (a.off + i * 5) X ∧ a.spot = none) := fun i => by
      by_cases hi : i < len
      · obtain ⟨cs', g1, g2⟩ := hx i (by omega)
        rw [cu] at g1
        obtain ⟨_, hl5, hc⟩ := World.cells?_some g1
        obtain ⟨X, hok, hmem, k0, k1, k2, k3, k4⟩ := open_fldW hu o0 o1 o2 o3 o4 t0 t1 t2 t3 t4 h8 h64 hb hl hm he8 he32 s8 s64 sb sl sm se8 se32 b8 b32 g2 (hwe i hi)
        have c0 := (hc 0 (by omega)).trans k0
        have c1 := (hc 1 (by omega)).trans k1
        have c2 := (hc 2 (by omega)).trans k2
        have c3 := (hc 3 (by omega)).trans k3
        have c4 := (hc 4 (by omega)).trans k4
        have hspot := hspot0 (by omega)
        obtain ⟨tb', o', sp⟩ := a
        simp only at hspot
        subst hspot
        rw [Addr.add_mid, Addr.add_mid] at c0 c1 c2 c3 c4
        exact ⟨X, hok, fun _ => ⟨hmem, ⟨c0, c1, c2, c3, c4⟩, rfl⟩⟩
      · exact ⟨fvZ, fvZ_okW, fun h => absurd h hi⟩
    obtain ⟨X, hX⟩ := Classical.axiomOfChoice key
    refine ⟨some a, len, cap, X, rfl, hlc, hlen, ⟨fun h0 => ?_, fun i hi => ((hX i).2 hi).1, fun i => (hX i).1⟩⟩
    have h2 := ((hX 0).2 h0).2
    have hlt := World.block_lt_of_cell? W _ h2.1.c0
    obtain ⟨tb', o', sp⟩ := a
    have hspot := h2.2
    simp only at hspot
    subst hspot
    exact ⟨tb', o', rfl, hlt, fun i hi => ((hX i).2 hi).2.1⟩
/-- Bytes that come in, and how many. -/
theorem open_bytesW {W : World} {t e : TypeId} {r : Reach} {b0 : Nat} {v : Value} {d : DataW H} {ps : List MemPlace} (ht : P.underlying t = some (.slice e)) (he : P.underlying e = some (.int .u8)) (hc : P.cellsOf e = 1) (hby : 1 ≤ P.bytesOf e)
    (hval : Value.okWide P W r b0 t v) (h : DataW.Trod enc P W 0 (fun _ => true) true t v d ps) (hw : ∀ y, y ∈ d.weights P t → y ≤ reachBytes) :
    ∃ a n c f, v = .slice a n c ∧ n ≤ c ∧ n ≤ 140737488355328 ∧ Rd W W.heap.size a n f ∧ ∀ i, f i < 256 := by
  obtain ⟨a0, len, cap, rfl⟩ := okWide_slice ht hval
  obtain ⟨fuel, hf⟩ := h
  obtain ⟨a, n, c, z, h1, hb, hwf, hcell⟩ := open_numsW ht he hc (by rfl) hby hf hw
  simp [Value.cells] at h1
  obtain ⟨rfl, rfl, rfl⟩ := h1
  have hlc : len ≤ cap := by
    rcases open_ints ht he hc hf with ⟨h2, _⟩ | ⟨_, _, _, _, h2, _, h3, _⟩
    · simp [Value.cells] at h2
      omega
    · simp [Value.cells] at h2
      omega
  have wb : ∀ i, 0 ≤ z i ∧ z i < 256 := fun i => by have := hwf i; simp [Lit.wf, IntKind.min, IntKind.max, IntKind.bits, IntKind.signed] at this; omega
  refine ⟨a0, len, cap, fun i => (z i).toNat, rfl, hlc, hb, ⟨fun hn => ?_⟩, fun i => by have := wb i; show (z i).toNat < 256; omega⟩
  obtain ⟨tb, o, e1, e2, e3⟩ := hcell hn
  refine ⟨tb, o, e1, e2, fun i hi => ?_⟩
  have := wb i
  rw [e3 i hi]
  show some (Value.int .u8 (z i)) = some (Value.int .u8 (((z i).toNat : Nat) : Int))
  rw [show (((z i).toNat : Nat) : Int) = z i by omega]
end
end Go.Proofs.Ytpkeolggehjjlaa
namespace Go.Proofs.Ytpkeolggehjjlaa
open Go.ChangeShapes Go.WideShapes Go.ChangeAt Go.RowKit

set_option maxRecDepth 100000 in
theorem wireTakes_lifted (os : Os) (started : os.Started) (H : Type) (enc : TypeId × Value → H) :
    ReturnsInHanded {} Try.checked os 4 .any (Rows.wireTakesSpec.pre6 enc Try.prog Try.f4 Rows.wireTakesRow.domain false) (Rows.wireTakesSpec.post enc Try.prog Try.f4 false true false false) := by
  refine returnsInHanded_of_change_sized (C := Try.checked) own started (by kernel_rfl) Try.func4
    (ChangeSpec.witness6 (enc := enc) (C := Try.checked) false ⟨#[], #[.slice none 0 0, .slice none 0 0], []⟩ 8 (by kernel_rfl) (by kernel_rfl) (by kernel_rfl) (by kernel_rfl)) ?_
  intro W base args ds gs before hval0 hW _ hwt _
  have hval : ∀ (j : Nat) t v, Try.f4.params[j]? = some t → args[j]? = some v → Value.okWide Try.prog W .any base t v := hval0
  have hW' := hW
  obtain ⟨p, q, hA0, hV, rfl, _, _⟩ := hW
  have hA : DataW.TrodAll enc Try.prog W 0 (fun _ => true) true Try.f4.params.toList args.toList ds p := hA0
  have hwt' : (DataW.weightsEach Try.prog (Try.f4.params.toList ++ Rows.wireTakesSpec.plain.varTypes Try.prog) (ds ++ gs)).all (· ≤ reachBytes) = true := hwt
  rw [Try.params4] at hA hval hwt'
  obtain ⟨v0, vs0, d0, ds0, p0, q0, hv0, rfl, rfl, h0, hA1⟩ := trodAll_cons hA
  obtain ⟨v1, vs1, d1, ds1, p1, q1, rfl, rfl, rfl, h1, hA2⟩ := trodAll_cons hA1
  obtain ⟨rfl, rfl, rfl⟩ := trodAll_nil hA2
  obtain ⟨l⟩ := args
  simp only at hv0
  subst hv0
  obtain ⟨rfl, rfl⟩ := trodVars_none hV
  have hw0 : ∀ y, y ∈ DataW.weights Try.prog 28 d0 → y ≤ reachBytes := fun y hy => by
    have hm : y ∈ DataW.weightsEach Try.prog (#[28, 22].toList ++ Rows.wireTakesSpec.plain.varTypes Try.prog) ([d0, d1] ++ []) := List.mem_append.2 (Or.inl hy)
    simpa using List.all_eq_true.1 hwt' y hm
  have hw1 : ∀ y, y ∈ DataW.weights Try.prog 22 d1 → y ≤ reachBytes := fun y hy => by
    have hm : y ∈ DataW.weightsEach Try.prog (#[28, 22].toList ++ Rows.wireTakesSpec.plain.varTypes Try.prog) ([d0, d1] ++ []) := List.mem_append.2 (Or.inr (List.mem_append.2 (Or.inl hy)))
    simpa using List.all_eq_true.1 hwt' y hm
  obtain ⟨a0, n0, c0, f0, rfl, hc0, hn0, hR0, hf0⟩ := open_bytesW (P := Try.prog) under_bytes (by kernel_rfl) (by kernel_rfl) (by rw [show Try.prog.bytesOf 5 = 1 by kernel_rfl]; decide) (hval 0 28 v0 rfl rfl) h0 hw0
  obtain ⟨a1, n1, c1, X1, rfl, _, hn1, hF1⟩ := open_fldsW (P := Try.prog) (t := 22) (u := 54) (t8 := 5) (t64 := 51) (tb := 28) (tl := 52) (tm := 3) (e8 := 5) (e32 := 49) (by kernel_rfl) Try.underlying54 rfl rfl rfl rfl rfl rfl rfl rfl rfl rfl (by kernel_rfl) (by kernel_rfl) (by kernel_rfl) (by kernel_rfl) (by kernel_rfl) (by kernel_rfl) (by kernel_rfl) (by kernel_rfl) (by kernel_rfl) (by kernel_rfl) (by kernel_rfl) (by kernel_rfl) (by kernel_rfl) (by kernel_rfl) (by kernel_rfl) (by rw [show Try.prog.bytesOf 5 = 1 by kernel_rfl]; decide) (by rw [show Try.prog.bytesOf 49 = 4 by kernel_rfl]; decide) (by rw [show Try.prog.bytesOf 54 = 72 by kernel_rfl]; decide) (hval 1 22 v1 rfl rfl) h1 hw1
  clear hA0 hval0
  refine (wireTakes_any n0 c0 n1 c1 a0 a1 f0 X1 W hR0 hc0 hn0 hf0 hF1 hn1).mono fun e W' ⟨⟨he, hg⟩⟩ => ?_
  subst he
  exact ⟨_, rfl, law_post laidOut hW' rfl rfl (tb := 4) rfl Try.underlying4 (by
      rw [Try.params4]
      intro t ht
      have hall : ([28, 22].all fun u => Try.prog.readableRec u && decide (u < Try.prog.types.size)) = true := by kernel_rfl
      have := List.all_eq_true.1 hall t (by simpa using ht)
      simpa using this) hg⟩

theorem wireTakes_holds : Rows.WireTakesSaid :=
  OpenClaim.holds_of_wide 4 Try.f4 rfl rfl rfl rfl rfl rfl rfl ⟨rfl, rfl, rfl, rfl, rfl⟩ rfl rfl rfl rfl rfl (by kernel_rfl) Try.func4 (by kernel_rfl)
    (of_decide_eq_true (by kernel_rfl)) (by unfold Func.isWrapper; first | (rw [if_pos (by decide +kernel)]; kernel_rfl) | (rw [if_neg (by decide +kernel)]; exact ⟨rfl, rfl⟩))
    (fun os started H enc _ => wireTakes_lifted os started H enc)

end Go.Proofs.Ytpkeolggehjjlaa
