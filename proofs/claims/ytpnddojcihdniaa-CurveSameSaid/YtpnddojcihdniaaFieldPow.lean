/-
  field's powers and inverses.
-/
import Derived.Test.YtpnddojcihdniaaFieldDown
import Derived.Test.YtpnddojcihdniaaFieldBytes
namespace Go.Proofs.Ytpnddojcihdniaa
open Go.RowKit Go.Shelf

attribute [local go_sem] Oper.semAt_some

set_option maxRecDepth 100000
set_option maxHeartbeats 4000000

/-- What stands when some bits have been gone over. -/
structure InP (w : World) (b0 bn : Nat) (f : Nat → Nat) (bt : Nat → Nat) (pre : List Nat) (W : World) : Prop where
  x : Holds W w.heap.size 28 .u64 5 f
  r : Holds W (w.heap.size + 2) 28 .u64 5 (fun _ => 0)
  n : Holds W bn 28 .u64 5 (pwL f bt pre)
  gr : w.grownBy W none
  sz : b0 ≤ W.heap.size
theorem InP.own {w : World} {b0 bn : Nat} {f : Nat → Nat} {bt : Nat → Nat} (B : Nat) (hB : w.heap.size + 2 < B) (hb : bn < B) : OwnFrom B (InP w b0 bn f bt) := fun pre W W' row h hg hr => by
  have hne : ∀ k, k < B → some k ≠ row := fun k hk e => by
    have := (hr k e.symm).1
    omega
  exact ⟨h.x.grown hg (hne _ (by omega)), h.r.grown hg (hne _ (by omega)), h.n.grown hg (hne _ hb), ⟨hg.os.trans h.gr.os, hg.tape.trans h.gr.tape, hg.output.trans h.gr.output, Nat.le_trans h.gr.size hg.size, fun k hk hr' => (hg.block k (Nat.lt_of_lt_of_le hk h.gr.size) (hne k (by omega))).trans (h.gr.block k hk hr')⟩, Nat.le_trans h.sz hg.size⟩
theorem keeps_grown {W W' : World} (g : W.grownBy W' none) : KeepsOthers W W' := ⟨g.size, fun k o hk _ => (g.block k (Array.getElem?_eq_some_iff.1 hk).1 (by simp)).trans hk⟩
theorem keeps_setRow (W : World) {b T n : Nat} {k : IntKind} {f : Nat → Nat} (h : Holds W b T k n f) (cs : Array Value) : KeepsOthers W (W.setRow b cs) := ⟨by simp, fun j o hj ho => by
  by_cases e : j = b
  · subst e
    rw [h.block] at hj
    cases hj
    cases ho
  · exact (setRow_other W b j cs e).trans hj⟩

theorem roundIn_load_num {l n : Nat} {ops : Array Oper} {Q : Exit → Act → World → Prop} {rest : List Oper} {o : Oper} {a : Act} {w : World} {g : Nat} {f : Nat → Nat} (hgd : o.guard = none) (t : Tmp) (ho : o.op = .load 28 (.tmp t)) (hx : a.eval (.tmp t) = .pointer (some ⟨g, 0, none⟩))
    (H : Holds w g 28 .u64 5 f) (h : wpListIn (Fence.wide.inRound l) n Try.prog ops Q rest (a.put o.dst (.agg (cellsOf .u64 5 f))) w) : wpListIn (Fence.wide.inRound l) n Try.prog ops Q (o :: rest) a w := by
  obtain ⟨d, h1, h2⟩ := under_row (P := Try.prog) (T := 28) (by kernel_rfl)
  exact roundIn_load_row hgd 28 (.tmp t) ho g hx 28 _ (0, 0) d H.block h1 (by cases d <;> first | rfl | exact h2) (by rw [cellsOf_size]; kernel_rfl) h
theorem wpList_load_num {ops : Array Oper} {Q : Exit → Act → World → Prop} {rest : List Oper} {o : Oper} {a : Act} {w : World} {g : Nat} {f : Nat → Nat} (hgd : o.guard = none) (t : Tmp) (ho : o.op = .load 28 (.tmp t)) (hx : a.eval (.tmp t) = .pointer (some ⟨g, 0, none⟩))
    (H : Holds w g 28 .u64 5 f) (h : wpList Try.prog ops Q rest (a.put o.dst (.agg (cellsOf .u64 5 f))) w) : wpList Try.prog ops Q (o :: rest) a w := by
  obtain ⟨d, h1, h2⟩ := under_row (P := Try.prog) (T := 28) (by kernel_rfl)
  exact wpList_load_row hgd 28 (.tmp t) ho g hx 28 _ (0, 0) d H.block h1 (by cases d <;> first | rfl | exact h2) (by rw [cellsOf_size]; kernel_rfl) h

theorem power_any {f : Nat → Nat} {v : Nat} (hf : Is5 f v) (E : Nat) (w : World) :
    Calls Try.prog 43 #[.agg (cellsOf .u64 5 f), .agg (cellsOf .u64 4 (lim 64 E))] w fun e w' => e = .returned (.agg (cellsOf .u64 5 (pwL f (btE E) (List.range 256)))) ∧ w.grownBy w' none := by
  have HP := Lib.hid (fun l => is5_pow hf (btE E) l)
  have Hf := Lib.hid hf
  obtain ⟨X, hX⟩ : ∃ X, X = lim 64 E := ⟨_, rfl⟩
  obtain ⟨S, hS⟩ : ∃ S, S = pwL f (btE E) (List.range 256) := ⟨_, rfl⟩
  rw [← hX, ← hS]
  have HX := Lib.hid hX
  have HS := Lib.hid hS
  clear hX hS hf
  refine (callsIn_wide (n := 6)).1 ?_
  refine callsIn_of_wp_marks Try.func43 rfl trivial ?_ rfl
  simp only [Try.ntmps43, List.size_toArray, List.length_cons, List.length_nil, Nat.reduceAdd, Nat.reduceSub, Array.replicate_succ, Array.replicate_zero, List.push_toArray, List.append_toArray, List.nil_append, List.cons_append]
  refine wpIn_wide.2 ?_
  have hA : Holds (((w.alloc (.cells (cellsOf .u64 5 f) 28)).alloc (.cells (cellsOf .u64 4 X) 58)).alloc (.cells #[.int .u64 0, .int .u64 0, .int .u64 0, .int .u64 0, .int .u64 0] 28)) w.heap.size 28 .u64 5 f := ((holds_alloc w 28 .u64 5 f _ rfl).grown (World.grownBy_alloc _ _ none) (by simp)).grown (World.grownBy_alloc _ _ none) (by simp)
  have hB : Holds (((w.alloc (.cells (cellsOf .u64 5 f) 28)).alloc (.cells (cellsOf .u64 4 X) 58)).alloc (.cells #[.int .u64 0, .int .u64 0, .int .u64 0, .int .u64 0, .int .u64 0] 28)) (w.heap.size + 1) 58 .u64 4 X := by
    have := (holds_alloc (w.alloc (.cells (cellsOf .u64 5 f) 28)) 58 .u64 4 X _ rfl).grown (World.grownBy_alloc _ (.cells #[.int .u64 0, .int .u64 0, .int .u64 0, .int .u64 0, .int .u64 0] 28) none) (by simp)
    rwa [World.size_alloc] at this
  have hD : Holds (((w.alloc (.cells (cellsOf .u64 5 f) 28)).alloc (.cells (cellsOf .u64 4 X) 58)).alloc (.cells #[.int .u64 0, .int .u64 0, .int .u64 0, .int .u64 0, .int .u64 0] 28)) (w.heap.size + 2) 28 .u64 5 (fun _ => 0) := by
    have := holds_alloc ((w.alloc (.cells (cellsOf .u64 5 f) 28)).alloc (.cells (cellsOf .u64 4 X) 58)) 28 .u64 5 (fun _ => 0) #[.int .u64 0, .int .u64 0, .int .u64 0, .int .u64 0, .int .u64 0] rfl
    rwa [World.size_alloc, World.size_alloc] at this
  have gr := grown_alloc (grown_alloc (World.grownBy_alloc w (.cells (cellsOf .u64 5 f) 28) none) (.cells (cellsOf .u64 4 X) 58)) (.cells #[.int .u64 0, .int .u64 0, .int .u64 0, .int .u64 0, .int .u64 0] 28)
  go_wp2_with fail
  generalize ((w.alloc (.cells (cellsOf .u64 5 f) 28)).alloc (.cells (cellsOf .u64 4 X) 58)).alloc (.cells #[.int .u64 0, .int .u64 0, .int .u64 0, .int .u64 0, .int .u64 0] 28) = w1 at *
  have hsm := small_any 1 (by decide)
  obtain ⟨s1, hs1⟩ : ∃ s, s = smL 1 := ⟨_, rfl⟩
  rw [← hs1] at hsm
  have HSm := Lib.hid hsm
  clear hsm
  go_at_call 15
  refine (HSm.out _).mono ?_
  rintro e U ⟨rfl, gU⟩
  replace hA := hA.grown gU (by simp)
  replace hB := hB.grown gU (by simp)
  replace hD := hD.grown gU (by simp)
  replace gr := grown_trans gr gU
  have hL0 := holds_alloc U 28 .u64 5 (fun _ => 0) #[.int .u64 0, .int .u64 0, .int .u64 0, .int .u64 0, .int .u64 0] rfl
  have gg := World.grownBy_alloc U (.cells #[.int .u64 0, .int .u64 0, .int .u64 0, .int .u64 0, .int .u64 0] 28) none
  replace hA := hA.grown gg (by simp)
  replace hB := hB.grown gg (by simp)
  have hdU := hD.lt
  replace hD := hD.grown gg (by simp)
  replace gr := grown_trans gr gg
  have Hs1 := Lib.hid hs1
  clear hs1
  go_upto_region 2 with (refine wpList_store_row rfl 28 (.tmp 5) (.tmp 7) rfl U.heap.size _ rfl rfl 28 _ hL0.block (by rw [cellsOf_size]; kernel_rfl) rfl (cellsOf_all _ _ _) ?_)
  have hN := hL0.setRow .u64 5 s1
  have gs : (U.alloc (.cells #[.int .u64 0, .int .u64 0, .int .u64 0, .int .u64 0, .int .u64 0] 28)).grownBy ((U.alloc (.cells #[.int .u64 0, .int .u64 0, .int .u64 0, .int .u64 0, .int .u64 0] 28)).setRow U.heap.size (cellsOf .u64 5 s1)) (some U.heap.size) := grown_setRow_new (grown_refl _ _) _ _ (Or.inr rfl)
  replace hA := hA.grown gs (by simp; omega)
  replace hB := hB.grown gs (by simp; omega)
  replace hD := hD.grown gs (by simp; omega)
  replace gr := grown_setRow_new gr U.heap.size (cellsOf .u64 5 s1) (Or.inl (by omega))
  generalize hbn : U.heap.size = bn at *
  generalize (U.alloc (.cells #[.int .u64 0, .int .u64 0, .int .u64 0, .int .u64 0, .int .u64 0] 28)).setRow bn (cellsOf .u64 5 s1) = w2 at *
  clear gU gg gs hL0 HSm
  go_wp2_with (first
    | refine wpList_load_row rfl 58 (.tmp 3) rfl (w.heap.size + 1) rfl 58 _ (0, 0) (.array 4 25) hB.block (by kernel_rfl) rfl (by rw [cellsOf_size]; kernel_rfl) ?_
    | (go_at_call 53; (with_reducible refine (down_any X _).mono ?_); rintro e w' ⟨rfl, rfl⟩))
  have hX4 := holds_alloc w2 58 .u64 4 X _ rfl
  have gg := World.grownBy_alloc w2 (.cells (cellsOf .u64 4 X) 58) none
  have hZ : (w2.alloc (.cells (cellsOf .u64 4 X) 58)).heap.size = w2.heap.size + 1 := World.size_alloc _ _
  have hn2 := hN.lt
  replace hA := hA.grown gg (by simp)
  replace hD := hD.grown gg (by simp)
  replace hN := hN.grown gg (by simp)
  replace gr := grown_trans gr gg
  generalize w2.alloc (.cells (cellsOf .u64 4 X) 58) = w3 at *
  obtain ⟨bx, hbx⟩ : ∃ b, b = w2.heap.size := ⟨_, rfl⟩
  rw [← hbx] at hX4 hZ hn2 ⊢
  have hX5 := hX4
  rw [HX.out] at hX5
  rw [Hs1.out] at hN
  have Hbx := Lib.hid hbx
  have Hbn := Lib.hid hbn
  clear hbx hbn
  refine (wpIn_wide (n := 6)).1 ?_
  refine wpIn_rangeFunc_ownF rfl (by decide) (gf := 57) (lb := #[.pointer (some ⟨bx, 0, none⟩)]) rfl trivial (enters_of Try.func57 (by kernel_rfl) rfl)
    (down_stops (6 - 1) bx E (by decide) w3 hX5) (fun h k => k.trans h) (fun A l o o' hl _ _ _ => World.putObj_heap_other (by omega)) (Below.refl _ _) (fun _ => rfl)
    (InP w w3.heap.size bn f (btE E)) (fun _ _ _ => False) (InP.own _ (by omega) (by omega)) (fun _ _ _ _ _ hs _ _ => hs)
    ⟨hA, hD, hN, gr, Nat.le_refl _⟩
    (fun k => { tmps := #[.agg (cellsOf .u64 5 f), .agg (cellsOf .u64 4 X), .pointer (some ⟨w.heap.size, 0, none⟩), .pointer (some ⟨w.heap.size + 1, 0, none⟩), .pointer (some ⟨w.heap.size + 1 + 1, 0, none⟩), .pointer (some ⟨bn, 0, none⟩), .int .u64 (btE E k : Nat), .agg (cellsOf .u64 5 s1), .agg (cellsOf .u64 4 X), .func (.func 57) #[] #[.pointer (some ⟨bx, 0, none⟩)], .int .u64 (btE E k : Nat), undef, undef, undef, undef, undef, undef, undef, undef, undef], defers := [] }) ?assign ?body ?done ?stop
  case assign =>
    intro l x W' K hK
    unfold encB
    gi_wp2
    exact hK
  case body =>
    rintro l pre k W' hI _
    have hx := hI.x
    have hr := hI.r
    have hn := hI.n
    have hgr := hI.gr
    have hsz := hI.sz
    have hP := HP.out pre
    have hsn := pwL_snoc f (btE E) pre k
    have hM1 := fun U => mul_any hP hP U
    have hM2 := fun U => mul_any (hP.mul hP) Hf.out U
    obtain ⟨a, ha⟩ : ∃ a, a = pwL f (btE E) pre := ⟨_, rfl⟩
    rw [← ha] at hn hsn
    simp only [← ha] at hM1 hM2
    obtain ⟨q, hq⟩ : ∃ q, q = mulL a a := ⟨_, rfl⟩
    rw [← hq] at hsn
    simp only [← hq] at hM1 hM2
    obtain ⟨z, hz⟩ : ∃ z, z = mulL q f := ⟨_, rfl⟩
    rw [← hz] at hsn
    simp only [← hz] at hM2
    have HM1 := Lib.hid hM1
    have HM2 := Lib.hid hM2
    clear hI hP hM1 hM2 ha hq hz hA hD hN hX4 hX5 gr gg
    by_cases hb : btE E k = 1
    · rw [if_pos hb] at hsn
      have Hsn := Lib.hid hsn
      clear hsn
      generalize btE E k = b at *
      have jb : ((b : Int) == 1) = true := by rw [beq_iff_eq]; omega
      have HB := Lib.hid hb
      clear hb
      gi_wp2_with (refine roundIn_load_num rfl 5 rfl rfl hn ?_)
      refine ⟨trivial, ?_⟩
      gi_at_call 13
      refine (CallsIn.inRound l (callsIn_wide.2 (HM1.out _))).mono ?_
      rintro e U1 ⟨rfl, g1⟩
      have hn1 := hn.grown g1 (by simp)
      have k1 := (keeps_grown g1).trans (keeps_setRow U1 hn1 (cellsOf .u64 5 q))
      have gs1 : W'.grownBy (U1.setRow bn (cellsOf .u64 5 q)) (some bn) := grown_setRow_new (grown_some g1) _ _ (Or.inr rfl)
      have hx1 := hx.grown gs1 (by simp; omega)
      have hr1 := hr.grown gs1 (by simp; omega)
      have hn2' := hn1.setRow .u64 5 q
      have gw1 := grown_new hgr gs1 (by omega)
      have kb1 : KeepB bx W' (U1.setRow bn (cellsOf .u64 5 q)) := gs1.block bx (by omega) (by simp; omega)
      have hz1 := Nat.le_trans hsz gs1.size
      clear g1 hx hr hn hgr gs1 hsz
      gi_wp2_with (first
        | refine roundIn_store_row rfl 28 (.tmp 5) (.tmp 13) rfl bn _ rfl rfl 28 _ hn1.block (by rw [cellsOf_size]; kernel_rfl) rfl (cellsOf_all _ _ _) ?_
        | refine roundIn_load_num rfl 5 rfl rfl hn2' ?_
        | refine roundIn_load_num rfl 2 rfl rfl hx1 ?_)
      generalize U1.setRow bn (cellsOf .u64 5 q) = V1 at *
      refine ⟨trivial, ?_⟩
      gi_at_call 13
      refine (CallsIn.inRound l (callsIn_wide.2 (HM2.out _))).mono ?_
      rintro e U2 ⟨rfl, g2⟩
      have hn3 := hn2'.grown g2 (by simp)
      have k2 := k1.trans ((keeps_grown g2).trans (keeps_setRow U2 hn3 (cellsOf .u64 5 z)))
      have gs2 : V1.grownBy (U2.setRow bn (cellsOf .u64 5 z)) (some bn) := grown_setRow_new (grown_some g2) _ _ (Or.inr rfl)
      have hx2 := hx1.grown gs2 (by simp; omega)
      have hr2 := hr1.grown gs2 (by simp; omega)
      have hn4 := hn3.setRow .u64 5 z
      have gw2 := grown_new gw1 gs2 (by omega)
      have kb2 : KeepB bx W' (U2.setRow bn (cellsOf .u64 5 z)) := (gs2.block bx (by omega) (by simp; omega)).trans kb1
      have hz2 := Nat.le_trans hz1 gs2.size
      have HFin : Hid (KeepsOthers W' (U2.setRow bn (cellsOf .u64 5 z)) ∧ KeepB bx W' (U2.setRow bn (cellsOf .u64 5 z)) ∧ InP w w3.heap.size bn f (btE E) (pre ++ [k]) (U2.setRow bn (cellsOf .u64 5 z))) := Lib.hid ⟨k2, kb2, ⟨hx2, hr2, hn4.congr (fun j _ => by rw [Hsn.out]), gw2, hz2⟩⟩
      clear g2 k1 k2 gs2 hx1 hx2 hr1 hr2 hn1 hn2' hn4 gw1 gw2 kb1 kb2 hz1 hz2
      gi_wp2_with (refine roundIn_store_row rfl 28 (.tmp 5) (.tmp 18) rfl bn _ rfl rfl 28 _ hn3.block (by rw [cellsOf_size]; kernel_rfl) rfl (cellsOf_all _ _ _) ?_)
      exact HFin.out
    · rw [if_neg hb] at hsn
      have Hsn := Lib.hid hsn
      clear hsn
      generalize btE E k = b at *
      have jb : ((b : Int) == 1) = false := by rw [beq_eq_false_iff_ne]; omega
      have HB := Lib.hid hb
      clear hb
      gi_wp2_with (refine roundIn_load_num rfl 5 rfl rfl hn ?_)
      refine ⟨trivial, ?_⟩
      gi_at_call 13
      refine (CallsIn.inRound l (callsIn_wide.2 (HM1.out _))).mono ?_
      rintro e U1 ⟨rfl, g1⟩
      have hn1 := hn.grown g1 (by simp)
      have k1 := (keeps_grown g1).trans (keeps_setRow U1 hn1 (cellsOf .u64 5 q))
      have gs1 : W'.grownBy (U1.setRow bn (cellsOf .u64 5 q)) (some bn) := grown_setRow_new (grown_some g1) _ _ (Or.inr rfl)
      have hx1 := hx.grown gs1 (by simp; omega)
      have hr1 := hr.grown gs1 (by simp; omega)
      have hn2' := hn1.setRow .u64 5 q
      have gw1 := grown_new hgr gs1 (by omega)
      have kb1 : KeepB bx W' (U1.setRow bn (cellsOf .u64 5 q)) := gs1.block bx (by omega) (by simp; omega)
      have hz1 := Nat.le_trans hsz gs1.size
      have HFin : Hid (KeepsOthers W' (U1.setRow bn (cellsOf .u64 5 q)) ∧ KeepB bx W' (U1.setRow bn (cellsOf .u64 5 q)) ∧ InP w w3.heap.size bn f (btE E) (pre ++ [k]) (U1.setRow bn (cellsOf .u64 5 q))) := Lib.hid ⟨k1, kb1, ⟨hx1, hr1, hn2'.congr (fun j _ => by rw [Hsn.out]), gw1, hz1⟩⟩
      clear g1 k1 gs1 hx1 hr1 hn2' gw1 kb1 hz1 hx hr hn hgr hsz
      gi_wp2_with (refine roundIn_store_row rfl 28 (.tmp 5) (.tmp 13) rfl bn _ rfl rfl 28 _ hn1.block (by rw [cellsOf_size]; kernel_rfl) rfl (cellsOf_all _ _ _) ?_)
      exact HFin.out
  case done =>
    rintro D xs W' hD rfl hI hK
    have hn : Holds W' bn 28 .u64 5 S := hI.n.congr (fun j _ => by rw [HS.out])
    have hr := hI.r
    have hgr := hI.gr
    have hKs : (W'.setRow (w.heap.size + 2) (cellsOf .u64 5 S)).heap[D]? = some (.deferred (some [])) := (setRow_other W' _ D _ (by omega)).trans hK
    have hHs := (hr.setRow .u64 5 S).grown (grownBy_putObj' _ D (.deferred none)) (by intro e; injection e with e; omega)
    have hgs := grown_new (grown_setRow_new hgr (w.heap.size + 2) (cellsOf .u64 5 S) (Or.inl (by omega))) (grownBy_putObj' _ D (.deferred none)) (by omega)
    have HKs := Lib.hid hKs
    have HHs := Lib.hid hHs
    have HGs := Lib.hid hgs
    clear hKs hHs hgs hK hI hA hD hN hX4 hX5 gr gg hgr
    go_wp2_with (first
      | refine wpList_load_num rfl 5 rfl rfl hn ?_
      | refine wpList_store_row rfl 28 (.tmp 4) (.tmp 19) rfl (w.heap.size + 2) _ rfl rfl 28 _ hr.block (by rw [cellsOf_size]; kernel_rfl) rfl (cellsOf_all _ _ _) ?_)
    refine ⟨by simp, .inl ⟨_, _, rfl, run_takeDeferred HKs.out, ?_⟩⟩
    exact ⟨.agg (cellsOf .u64 5 S), res_row rfl rfl HHs.out (by kernel_rfl) (by kernel_rfl), rfl, HGs.out⟩
  case stop =>
    rintro D c pre W' _ _ h _
    exact h.elim
theorem inverse_any {f : Nat → Nat} {v : Nat} (hf : Is5 f v) (w : World) :
    Calls Try.prog 28 #[.agg (cellsOf .u64 5 f)] w fun e w' => e = .returned (.agg (cellsOf .u64 5 (invL f))) ∧ w.grownBy w' none := by
  have HP := Lib.hid (fun U => power_any hf (pF - 2) U)
  have hlim : cellsOf .u64 4 (lim 64 (pF - 2)) = #[.int .u64 18446744073709551595, .int .u64 18446744073709551615, .int .u64 18446744073709551615, .int .u64 9223372036854775807] := by kernel_rfl
  unfold invL
  simp only [hlim] at HP
  obtain ⟨S, hS⟩ : ∃ S, S = pwL f (btE (pF - 2)) (List.range 256) := ⟨_, rfl⟩
  rw [← hS] at HP ⊢
  clear hS hlim hf
  have hA : Holds ((w.alloc (.cells (cellsOf .u64 5 f) 28)).alloc (.cells #[.int .u64 0, .int .u64 0, .int .u64 0, .int .u64 0, .int .u64 0] 28)) w.heap.size 28 .u64 5 f := (holds_alloc w 28 .u64 5 f _ rfl).grown (World.grownBy_alloc _ _ none) (by simp)
  have hD : Holds ((w.alloc (.cells (cellsOf .u64 5 f) 28)).alloc (.cells #[.int .u64 0, .int .u64 0, .int .u64 0, .int .u64 0, .int .u64 0] 28)) (w.heap.size + 1) 28 .u64 5 (fun _ => 0) := by
    have := holds_alloc (w.alloc (.cells (cellsOf .u64 5 f) 28)) 28 .u64 5 (fun _ => 0) #[.int .u64 0, .int .u64 0, .int .u64 0, .int .u64 0, .int .u64 0] rfl
    rwa [World.size_alloc] at this
  have gr := grown_alloc (World.grownBy_alloc w (.cells (cellsOf .u64 5 f) 28) none) (.cells #[.int .u64 0, .int .u64 0, .int .u64 0, .int .u64 0, .int .u64 0] 28)
  go_enter Try.func28, Try.ntmps28
  go_upto_region 1 with fail
  generalize (w.alloc (.cells (cellsOf .u64 5 f) 28)).alloc (.cells #[.int .u64 0, .int .u64 0, .int .u64 0, .int .u64 0, .int .u64 0] 28) = w1 at *
  go_wp2_with (refine wpList_load_num rfl 1 rfl rfl hA ?_)
  go_at_call 43
  refine (HP.out _).mono ?_
  rintro e U ⟨rfl, gU⟩
  have hD2 := hD.grown gU (by simp)
  have gr2 := grown_trans gr gU
  go_wp2_with (refine wpList_store_row rfl 28 (.tmp 2) (.tmp 5) rfl (w.heap.size + 1) _ rfl rfl 28 _ hD2.block (by rw [cellsOf_size]; kernel_rfl) rfl (cellsOf_all _ _ _) ?_)
  exact bodyPost_ret (res_row rfl rfl (hD2.setRow .u64 5 S) (by kernel_rfl) (by kernel_rfl)) rfl ⟨rfl, grown_setRow_new gr2 _ _ (Or.inl (by omega))⟩

end Go.Proofs.Ytpnddojcihdniaa
