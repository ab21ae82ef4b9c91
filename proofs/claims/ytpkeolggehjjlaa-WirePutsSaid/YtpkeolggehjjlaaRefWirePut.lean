/-
  The reference's Put.
-/
import Derived.Test.YtpkeolggehjjlaaRefWireOne
import Derived.Test.YtpkeolggehjjlaaJoin1
namespace Go.Proofs.Ytpkeolggehjjlaa
open Go.RowKit

set_option maxRecDepth 100000
set_option maxHeartbeats 4000000

def FV.oN (x : FV) : Nat := oneN x.k x.nb x.nl
def FV.oF (x : FV) : Nat → Nat := oneF x.k x.n x.nb x.fb x.nl x.fl
def FV.oOk (x : FV) : Bool := oneOk x.k x.nb x.nl x.m
/-- The bytes of the first ones. -/
def putN (X : Nat → FV) : Nat → Nat
  | 0 => 0
  | i + 1 => putN X i + (X i).oN
def putF (X : Nat → FV) : Nat → Nat → Nat
  | 0 => fun _ => 0
  | i + 1 => cat (putN X i) (putF X i) (X i).oF
def putOk (X : Nat → FV) : Nat → Bool
  | 0 => true
  | i + 1 => putOk X i && (X i).oOk
theorem oneN_le (k nb nl : Nat) (h1 : nb ≤ 1048576) (h2 : nl ≤ 1048576) : oneN k nb nl ≤ 4194306 := by
  unfold oneN
  repeat' split
  all_goals omega
theorem putN_le (X : Nat → FV) (hX : ∀ i, (X i).Ok) : ∀ i, putN X i ≤ i * 4194306
  | 0 => by rw [Nat.zero_mul]; exact Nat.le_refl _
  | i + 1 => by
    have h1 := putN_le X hX i
    have h2 := oneN_le (X i).k (X i).nb (X i).nl (hX i).lb (hX i).ll
    show putN X i + oneN (X i).k (X i).nb (X i).nl ≤ _
    omega
theorem putOk_before (X : Nat → FV) (i : Nat) : ∀ n, i ≤ n → putOk X i = false → putOk X n = false
  | 0, h, e => by
    obtain rfl : i = 0 := by omega
    exact e
  | n + 1, h, e => by
    by_cases hi : i = n + 1
    · rw [← hi]; exact e
    · show (putOk X n && (X n).oOk) = false
      rw [putOk_before X i n (by omega) e, Bool.false_and]
structure PutSays (w : World) (X : Nat → FV) (n : Nat) (lim : Int) (e : Ending) (w' : World) : Prop where
  ex : ∃ v, e = .returned (.tuple #[v, .bool (putOk X n && decide ((putN X n : Int) ≤ lim))]) ∧ (putOk X n = true → OwnN w' w.heap.size v (putN X n) (putF X n))
  gr : w.grownBy w' none

theorem refPut_any (lim : Int) (D : Nat) (a : Option Addr) (n c : Nat) (X : Nat → FV) (w : World) (h : Flds w D a n X) (hn : n ≤ 1048576) (hD : D ≤ w.heap.size) :
    Calls Try.prog 11 #[.int .i64 lim, .slice a n c] w (PutSays w X n lim) := by
  have H := Lib.hid h
  have kn : (n : Int) ≤ 1048576 := by omega
  have HN := Lib.hid hn
  have HD := Lib.hid hD
  clear h hn hD
  go_enter Try.func11, Try.ntmps11
  go_wp2_with fail
  go_loopw [6, 7] (fun u6 u7 wr => ∃ i : Nat, i ≤ n ∧ u7 = .int .i64 i ∧ OwnN wr w.heap.size u6 (putN X i) (putF X i) ∧ putOk X i = true ∧ w.grownBy wr none) (fun _ u7 _ => n - (intOf u7).toNat)
  case atStart => exact ⟨0, Nat.zero_le _, rfl, OwnN.nil w w.heap.size _, rfl, grown_refl w none⟩
  case round =>
    obtain ⟨i, hi, rfl, hO, hok, gr⟩ := hrel
    by_cases hlt : i < n
    · obtain ⟨tb, o, rfl, htb, hF⟩ := H.out.ex (by omega)
      have hx := (hF i hlt).grown gr (by simp)
      have hm := (H.out.mem i hlt).grown gr (fun k e => by cases e)
      have ho := H.out.ok i
      have hDw : D ≤ wr.heap.size := Nat.le_trans HD.out gr.size
      have hle := putN_le X H.out.ok i
      have hl1 := oneN_le (X i).k (X i).nb (X i).nl ho.lb ho.ll
      have e1 : putN X (i + 1) = putN X i + (X i).oN := rfl
      have e2 : putF X (i + 1) = cat (putN X i) (putF X i) (X i).oF := rfl
      have e3 : putOk X (i + 1) = (X i).oOk := by show (putOk X i && (X i).oOk) = _; rw [hok, Bool.true_and]
      have hC := refOne_any (X i).k (X i).n (X i).nb (X i).cb (X i).nl (X i).cl (X i).ab (X i).al (X i).fb (X i).fl (X i).m D wr ho.k ho.n ho.lb ho.ll ho.fl ho.mlo ho.mhi hDw hm.b hm.l
      change Calls Try.prog 30 #[(X i).val] wr (OneSays wr (X i).oN (X i).oF (X i).oOk) at hC
      change (X i).oN ≤ 4194306 at hl1
      obtain ⟨p, hp⟩ : ∃ p, p = putN X i := ⟨_, rfl⟩
      obtain ⟨pf, hpf⟩ : ∃ p, p = putF X i := ⟨_, rfl⟩
      rw [← hp] at hO hle e1 e2
      rw [← hpf] at hO e2
      generalize hxx : X i = x at *
      obtain ⟨q, hq⟩ : ∃ q, q = x.oN := ⟨_, rfl⟩
      obtain ⟨qf, hqf⟩ : ∃ q, q = x.oF := ⟨_, rfl⟩
      obtain ⟨qo, hqo⟩ : ∃ q, q = x.oOk := ⟨_, rfl⟩
      rw [← hq, ← hqf, ← hqo] at hC
      rw [← hq] at e1 hl1
      rw [← hqf] at e2
      rw [← hqo] at e3
      have j1 : (i : Int) < (n : Int) := by omega
      have HC := Lib.hid hC
      have E1 := Lib.hid e1
      have E2 := Lib.hid e2
      have E3 := Lib.hid e3
      have HO := Lib.hid hO
      have HI := Lib.hid hlt
      have HB := Lib.hid (show p + q ≤ 2 ^ 46 by have := HN.out; omega)
      have GR := Lib.hid gr
      clear hC e1 e2 e3 hO hlt hi hle hl1 hq hqf hqo hp hpf hxx hm ho hDw hF htb hok gr
      go_wp2_with (refine wpList_load_field rfl 19 hx rfl rfl ?_)
      go_at_call 30
      refine HC.out.mono ?_
      intro e V hs
      obtain ⟨⟨a1, c1, rfl, hR⟩, g1⟩ := hs
      have hO1 := HO.out.grown g1
      have gw := grown_trans GR.out g1
      clear hx HC g1 HO
      by_cases hb : qo = true
      · subst hb
        obtain ⟨v', w2, hap, hO2, g2⟩ := app_N0 c1 28 gw hO1 hR HB.out
        have HAP := Lib.hid hap
        rw [← E1.out, ← E2.out] at hO2
        have HO2 := Lib.hid hO2
        have G2 := Lib.hid g2
        clear hap hO2 g2 hO1 gw hR
        go_wp2_with (at_builtin; refine wpList_append_run rfl (.tmp 26) (.tmp 27) 28 28 rfl _ (.slice a1 q c1) _ _ rfl rfl HAP.out ?_)
        go_roundw
        case rel => exact ⟨i + 1, HI.out, by go_num, HO2.out, E3.out, G2.out⟩
        case measure =>
          have := HI.out
          simp [intOf]
          try omega
      · obtain rfl : qo = false := by simpa using hb
        have hfl := putOk_before X (i + 1) n HI.out E3.out
        have HFL := Lib.hid hfl
        have GW := Lib.hid gw
        clear hb hO1 hR hfl gw
        go_wp2_with fail
        go_ret2
        exact ⟨⟨_, by rw [HFL.out]; rfl, fun h => by rw [HFL.out] at h; cases h⟩, GW.out⟩
    · obtain rfl : i = n := by omega
      have j1 : ¬ (i : Int) < (i : Int) := by omega
      have hle := putN_le X H.out.ok i
      have hbb : (putOk X i && decide ((putN X i : Int) ≤ lim)) = decide ((putN X i : Int) ≤ lim) := by rw [hok, Bool.true_and]
      have HBB := Lib.hid hbb
      have HOO := Lib.hid hO
      obtain ⟨p, hp⟩ : ∃ p, p = putN X i := ⟨_, rfl⟩
      rw [← hp] at hO hle
      have HP := Lib.hid hp
      have kp : (p : Int) ≤ 4398048608256 := by have := HN.out; omega
      obtain ⟨b, hb⟩ : ∃ b, b = decide ((p : Int) ≤ lim) := ⟨_, rfl⟩
      replace hb := hb.symm
      have HB := Lib.hid hb
      have GR := Lib.hid gr
      clear hbb hle hlt hi hok gr hp
      rcases hO.ex with ⟨rfl, h0⟩ | ⟨g, cap, rfl, h2, h3⟩
      · subst h0
        have hb0 : decide ((0 : Int) ≤ lim) = b := hb
        clear hO hb
        go_wp2_with fail
        go_ret2
        exact ⟨⟨.slice none 0 0, by rw [HBB.out, ← HP.out, HB.out]; rfl, fun _ => HOO.out⟩, GR.out⟩
      · clear hO h2 h3
        go_wp2_with fail
        go_ret2
        exact ⟨⟨.slice (some ⟨g, 0, none⟩) p cap, by rw [HBB.out, ← HP.out, HB.out]; rfl, fun _ => HOO.out⟩, GR.out⟩
end Go.Proofs.Ytpkeolggehjjlaa
