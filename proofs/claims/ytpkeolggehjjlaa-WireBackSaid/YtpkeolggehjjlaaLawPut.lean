/-
  hailerlaw08's put.
-/
import Derived.Test.YtpkeolggehjjlaaOutList
namespace Go.Proofs.Ytpkeolggehjjlaa
open Go.RowKit

set_option maxRecDepth 100000
set_option maxHeartbeats 4000000

/-- A field is put. -/
def OSt.field (s : OSt) (x : FV) : OSt :=
  if x.k = 0 then s.put 1 (fun _ => x.n % 256) else if x.k = 1 then s.put 4 (nbF (x.n % 4294967296) 4) else if x.k = 2 then s.put 8 (nbF x.n 8) else if x.k = 3 then s.put 1 (fun _ => flagB (x.n != 0)) else if x.k = 4 then s.put x.nb x.fb
  else if x.k = 5 then (s.count x.m x.nb).put x.nb x.fb else if x.k = 6 then (s.count x.m x.nl).nums x.fl x.nl else s
def OSt.fields (s : OSt) (X : Nat → FV) : Nat → OSt
  | 0 => s
  | i + 1 => (OSt.fields s X i).field (X i)
theorem OSt.len_field (s : OSt) (x : FV) (hx : x.Ok) : (s.field x).len ≤ s.len + 4194306 := by
  have h1 := hx.lb
  have h2 := hx.ll
  unfold OSt.field
  repeat' split
  · have := OSt.len_put s 1 (fun _ => x.n % 256); omega
  · have := OSt.len_put s 4 (nbF (x.n % 4294967296) 4); omega
  · have := OSt.len_put s 8 (nbF x.n 8); omega
  · have := OSt.len_put s 1 (fun _ => flagB (x.n != 0)); omega
  · have := OSt.len_put s x.nb x.fb; omega
  · have := OSt.len_put (s.count x.m x.nb) x.nb x.fb
    have := OSt.len_count s x.m x.nb
    omega
  · have := OSt.len_nums (s.count x.m x.nl) x.fl x.nl
    have := OSt.len_count s x.m x.nl
    omega
  · omega
theorem OSt.len_fields (s : OSt) (X : Nat → FV) (hX : ∀ i, (X i).Ok) : ∀ i, (s.fields X i).len ≤ s.len + i * 4194306
  | 0 => by rw [Nat.zero_mul]; exact Nat.le_refl _
  | i + 1 => by
    have h1 := OSt.len_fields s X hX i
    have h2 := OSt.len_field (s.fields X i) (X i) (hX i)
    show ((s.fields X i).field (X i)).len ≤ _
    omega
theorem int_ne_zero (n : Nat) : ((n : Int) != 0) = (n != 0) := by
  cases n with
  | zero => rfl
  | succ n => 
    have h1 : (((n + 1 : Nat) : Int) != 0) = true := bne_iff_ne.2 (by omega)
    have h2 : ((n + 1) != 0) = true := bne_iff_ne.2 (by omega)
    rw [h1, h2]
theorem rd_u64 (w : World) (x : Nat) : (w.alloc (.cells #[.int .u64 x] 51)).cell? ⟨w.heap.size, 0, none⟩ = some (.int .u64 x) := by
  rw [cell_of_row _ _ _ _ _ _ (heap_alloc_new w _)]; rfl
theorem rd_bool (w : World) (b : Bool) : (w.alloc (.cells #[.bool b] 4)).cell? ⟨w.heap.size, 0, none⟩ = some (.bool b) := by
  rw [cell_of_row _ _ _ _ _ _ (heap_alloc_new w _)]; rfl
theorem rd_text (w : World) (v : Value) : (w.alloc (.cells #[v] 28)).cell? ⟨w.heap.size, 0, none⟩ = some v := by
  rw [cell_of_row _ _ _ _ _ _ (heap_alloc_new w _)]; rfl
theorem lawPut_any {w0 w : World} {p : Option Addr} {s : OSt} (D n c : Nat) (a : Option Addr) (X : Nat → FV) (h : OAt w0 w p s) (hX : Flds w0 D a n X) (hn : n ≤ 1048576) (hm : s.len ≤ 2 ^ 45) :
    Calls Try.prog 9 #[.pointer p, .slice a n c] w (OSays w0 p (s.fields X n)) := by
  have H := Lib.hid h
  have HX := Lib.hid hX
  have HM := Lib.hid hm
  have HN := Lib.hid hn
  have kn : (n : Int) ≤ 1048576 := by omega
  clear h hm hn hX
  go_enter Try.func9, Try.ntmps9
  go_wp2_with fail
  go_loopw [8] (fun u8 wr => ∃ i : Nat, i ≤ n ∧ u8 = .int .i64 i ∧ OAt w0 wr p (s.fields X i)) (fun u8 _ => n - (intOf u8).toNat)
  case atStart => exact ⟨0, Nat.zero_le _, rfl, H.out⟩
  case round =>
    obtain ⟨i, hi, rfl, hE⟩ := hrel
    by_cases hlt : i < n
    · obtain ⟨tb, o, rfl, htb, hF⟩ := HX.out.ex (by omega)
      have hx := (hF i hlt).grown hE.gr (by simp)
      have hok := HX.out.ok i
      have hmem := HX.out.mem i hlt
      have j1 : (i : Int) < (n : Int) := by omega
      have HLT := Lib.hid hlt
      have hst : s.fields X (i + 1) = (s.fields X i).field (X i) := rfl
      have hlen := OSt.len_fields s X HX.out.ok i
      have hlen2 : (s.fields X i).len + 8388608 ≤ 2 ^ 46 := by have := HM.out; have := HN.out; omega
      generalize X i = x at *
      have hC := FAt.new x wr
      have g1 := World.grownBy_alloc wr (.cells #[.int .u8 x.k, .int .u64 x.n, .slice x.ab x.nb x.cb, .slice x.al x.nl x.cl, .int .i64 x.m] 54) none
      have hE1 := hE.grown g1
      have HE1 := Lib.hid hE1
      have HC := Lib.hid hC
      have HO := Lib.hid hok
      have HMEM := Lib.hid hmem
      have HL := Lib.hid hlen2
      have HST := Lib.hid hst
      clear hE1 hC hok hmem hlen hlen2 hst hE g1 hlt hi htb hF
      go_upto_region 3 with (refine wpList_load_field rfl 10 hx rfl rfl ?_; simp only [FV.val])
      generalize wr.alloc (.cells #[.int .u8 x.k, .int .u64 x.n, .slice x.ab x.nb x.cb, .slice x.al x.nl x.cl, .int .i64 x.m] 54) = w1 at *
      have hC := HC.out
      have hE1 := HE1.out
      generalize wr.heap.size = B at *
      have c0 := hC.c0
      have c1 := hC.c1
      have c2 := hC.c2
      have c3 := hC.c3
      have c4 := hC.c4
      have hb := HMEM.out.b
      have hl := HMEM.out.l
      have hok := HO.out
      have o1 := hok.k
      have o2 := hok.n
      have o3 := hok.lb
      have o4 := hok.ll
      have o5 := hok.mlo
      have o6 := hok.mhi
      have o7 := hok.fl
      have HST2 := HST.out
      unfold OSt.field at HST2
      obtain ⟨t, ht⟩ : ∃ t, t = s.fields X i := ⟨_, rfl⟩
      rw [← ht] at HST2 HL hE1
      have HL2 := HL.out
      obtain ⟨xk, hxk⟩ : ∃ y, y = x.k := ⟨_, rfl⟩
      obtain ⟨xn, hxn⟩ : ∃ y, y = x.n := ⟨_, rfl⟩
      obtain ⟨nb, hnb⟩ : ∃ y, y = x.nb := ⟨_, rfl⟩
      obtain ⟨nl, hnl⟩ : ∃ y, y = x.nl := ⟨_, rfl⟩
      obtain ⟨xm, hxm⟩ : ∃ y, y = x.m := ⟨_, rfl⟩
      obtain ⟨fb, hfb⟩ : ∃ y, y = x.fb := ⟨_, rfl⟩
      obtain ⟨fl, hfl⟩ : ∃ y, y = x.fl := ⟨_, rfl⟩
      obtain ⟨ab, hab⟩ : ∃ y, y = x.ab := ⟨_, rfl⟩
      obtain ⟨al, hal⟩ : ∃ y, y = x.al := ⟨_, rfl⟩
      obtain ⟨cb, hcb⟩ : ∃ y, y = x.cb := ⟨_, rfl⟩
      obtain ⟨cl, hcl⟩ : ∃ y, y = x.cl := ⟨_, rfl⟩
      rw [← hxk, ← hxn, ← hnb, ← hnl, ← hxm, ← hfb, ← hfl] at HST2
      rw [← hxk] at c0 o1
      rw [← hxn] at c1 o2
      rw [← hab, ← hnb, ← hcb] at c2
      rw [← hal, ← hnl, ← hcl] at c3
      rw [← hxm] at c4 o5 o6
      rw [← hnb] at o3
      rw [← hnl] at o4
      rw [← hfl] at o7
      rw [← hab, ← hnb, ← hfb] at hb
      rw [← hal, ← hnl, ← hfl] at hl
      generalize Value.agg #[.int .u8 x.k, .int .u64 x.n, .slice x.ab x.nb x.cb, .slice x.al x.nl x.cl, .int .i64 x.m] = xv at *
      clear hxk hxn hnb hnl hxm hfb hfl hab hal hcb hcl hok HO HMEM HC HE1 HL HST hC hx x
      have HT := Lib.hid ht
      clear ht
      simp only [Nat.zero_add] at c1 c2 c3 c4
      go_upto_region 4 with fail
      by_cases e0 : xk = 0
      · subst e0
        replace HST2 : s.fields X (i + 1) = t.put 1 (fun _ => xn % 256) := HST2
        obtain ⟨v, hv⟩ : ∃ v, v = xn % 256 := ⟨_, rfl⟩
        have v0 : (xn : Int) % 256 = (v : Int) := by omega
        rw [← hv] at HST2
        have HP := Lib.hid (outU8_any _ 1 1 _ _ (hE1.grown (World.grownBy_alloc w1 (.cells #[.int .u8 v] 5) none)) (rd_one w1 v (w1.heap.size + 1) (by omega)) (by omega))
        clear hv c2 c3 c4 hb hl o1 o2 o3 o4 o5 o6 o7 HL2 hE1
        go_wp2_with fail
        go_at_call 18
        refine HP.out.mono ?_
        rintro e w3 ⟨rfl, hE⟩
        rw [← HST2] at hE
        have HE := Lib.hid hE
        clear hE HP
        go_wp2_with fail
        go_roundw
        case rel => exact ⟨i + 1, HLT.out, by go_num, HE.out⟩
        case measure =>
          have := HLT.out
          simp [intOf]
          try omega
      by_cases e1 : xk = 1
      · subst e1
        replace HST2 : s.fields X (i + 1) = t.put 4 (nbF (xn % 4294967296) 4) := HST2
        obtain ⟨v, hv⟩ : ∃ v, v = xn % 4294967296 := ⟨_, rfl⟩
        have v0 : (xn : Int) % 4294967296 = (v : Int) := by omega
        rw [← hv] at HST2
        have HP := Lib.hid (outU32_any v _ 0 1 (hE1.grown (World.grownBy_alloc w1 (.cells #[.int .u32 v] 49) none)) (by omega) (rd_u32 w1 v) (by omega))
        clear hv c2 c3 c4 hb hl o1 o2 o3 o4 o5 o6 o7 HL2 hE1
        go_wp2_with fail
        go_at_call 19
        refine HP.out.mono ?_
        rintro e w3 ⟨rfl, hE⟩
        rw [← HST2] at hE
        have HE := Lib.hid hE
        clear hE HP
        go_wp2_with fail
        go_roundw
        case rel => exact ⟨i + 1, HLT.out, by go_num, HE.out⟩
        case measure =>
          have := HLT.out
          simp [intOf]
          try omega
      by_cases e2 : xk = 2
      · subst e2
        replace HST2 : s.fields X (i + 1) = t.put 8 (nbF xn 8) := HST2
        have HP := Lib.hid (outU64_any xn _ 0 1 (hE1.grown (World.grownBy_alloc w1 (.cells #[.int .u64 xn] 51) none)) o2 (rd_u64 w1 xn) (by omega))
        clear c2 c3 c4 hb hl o1 o2 o3 o4 o5 o6 o7 HL2 hE1
        go_wp2_with fail
        go_at_call 24
        refine HP.out.mono ?_
        rintro e w3 ⟨rfl, hE⟩
        rw [← HST2] at hE
        have HE := Lib.hid hE
        clear hE HP
        go_wp2_with fail
        go_roundw
        case rel => exact ⟨i + 1, HLT.out, by go_num, HE.out⟩
        case measure =>
          have := HLT.out
          simp [intOf]
          try omega
      by_cases e3 : xk = 3
      · subst e3
        replace HST2 : s.fields X (i + 1) = t.put 1 (fun _ => flagB (xn != 0)) := HST2
        obtain ⟨v, hv⟩ : ∃ v, v = (xn != 0) := ⟨_, rfl⟩
        have v0 : ((xn : Int) != 0) = v := by rw [hv]; exact int_ne_zero xn
        rw [← hv] at HST2
        have HP := Lib.hid (outFlag_any v _ 0 1 (hE1.grown (World.grownBy_alloc w1 (.cells #[.bool v] 4) none)) (rd_bool w1 v) (by omega))
        clear hv c2 c3 c4 hb hl o1 o2 o3 o4 o5 o6 o7 HL2 hE1
        go_wp2_with fail
        go_at_call 25
        refine HP.out.mono ?_
        rintro e w3 ⟨rfl, hE⟩
        rw [← HST2] at hE
        have HE := Lib.hid hE
        clear hE HP
        go_wp2_with fail
        go_roundw
        case rel => exact ⟨i + 1, HLT.out, by go_num, HE.out⟩
        case measure =>
          have := HLT.out
          simp [intOf]
          try omega
      by_cases e4 : xk = 4
      · subst e4
        replace HST2 : s.fields X (i + 1) = t.put nb fb := HST2
        have hE2 := hE1.grown (World.grownBy_alloc w1 (.cells #[.slice ab nb cb] 28) none)
        have HP := Lib.hid (outFixed_any D nb cb ab fb _ 0 1 hE2 (rd_text w1 (.slice ab nb cb)) (hb.grown hE2.gr (by simp)) (by omega))
        clear hE2 c1 c3 c4 hb hl o1 o2 o3 o4 o5 o6 o7 HL2 hE1
        go_wp2_with fail
        go_at_call 26
        refine HP.out.mono ?_
        rintro e w3 ⟨rfl, hE⟩
        rw [← HST2] at hE
        have HE := Lib.hid hE
        clear hE HP
        go_wp2_with fail
        go_roundw
        case rel => exact ⟨i + 1, HLT.out, by go_num, HE.out⟩
        case measure =>
          have := HLT.out
          simp [intOf]
          try omega
      by_cases e5 : xk = 5
      · subst e5
        replace HST2 : s.fields X (i + 1) = (t.count xm nb).put nb fb := HST2
        have HP := Lib.hid (outSized_any xm D nb cb ab fb hE1 hb o5 o6 (by omega))
        clear c1 c3 hb hl o1 o2 o3 o4 o5 o6 o7 HL2 hE1
        go_wp2_with fail
        go_at_call 20
        refine HP.out.mono ?_
        rintro e w3 ⟨rfl, hE⟩
        rw [← HST2] at hE
        have HE := Lib.hid hE
        clear hE HP
        go_wp2_with fail
        go_roundw
        case rel => exact ⟨i + 1, HLT.out, by go_num, HE.out⟩
        case measure =>
          have := HLT.out
          simp [intOf]
          try omega
      by_cases e6 : xk = 6
      · subst e6
        replace HST2 : s.fields X (i + 1) = (t.count xm nl).nums fl nl := HST2
        have HP := Lib.hid (outList_any xm D nl cl al fl hE1 hl o7 o4 o5 o6 (by omega))
        clear c1 c2 hb hl o1 o2 o3 o4 o5 o6 o7 HL2 hE1
        go_wp2_with fail
        go_at_call 27
        refine HP.out.mono ?_
        rintro e w3 ⟨rfl, hE⟩
        rw [← HST2] at hE
        have HE := Lib.hid hE
        clear hE HP
        go_wp2_with fail
        go_roundw
        case rel => exact ⟨i + 1, HLT.out, by go_num, HE.out⟩
        case measure =>
          have := HLT.out
          simp [intOf]
          try omega
      have hst : s.fields X (i + 1) = t := by rw [HST2]; simp [e0, e1, e2, e3, e4, e5, e6]
      rw [← hst] at hE1
      have HE := Lib.hid hE1
      have d0 : ((xk : Int) == 0) = false := beq_eq_false_iff_ne.2 (by omega)
      have d1 : ((xk : Int) == 1) = false := beq_eq_false_iff_ne.2 (by omega)
      have d2 : ((xk : Int) == 2) = false := beq_eq_false_iff_ne.2 (by omega)
      have d3 : ((xk : Int) == 3) = false := beq_eq_false_iff_ne.2 (by omega)
      have d4 : ((xk : Int) == 4) = false := beq_eq_false_iff_ne.2 (by omega)
      have d5 : ((xk : Int) == 5) = false := beq_eq_false_iff_ne.2 (by omega)
      have d6 : ((xk : Int) == 6) = false := beq_eq_false_iff_ne.2 (by omega)
      clear e0 e1 e2 e3 e4 e5 e6 hst HST2 c0 c1 c2 c3 c4 hb hl o1 o2 o3 o4 o5 o6 o7 HL2 hE1
      go_wp2_with fail
      go_roundw
      case rel => exact ⟨i + 1, HLT.out, by go_num, HE.out⟩
      case measure =>
        have := HLT.out
        simp [intOf]
        try omega
    · obtain rfl : i = n := by omega
      have HE2 := Lib.hid hE
      have j1 : ¬ (i : Int) < (i : Int) := by omega
      clear hE hi hlt
      go_wp2_with fail
      go_end0
      exact ⟨rfl, HE2.out⟩
end Go.Proofs.Ytpkeolggehjjlaa
