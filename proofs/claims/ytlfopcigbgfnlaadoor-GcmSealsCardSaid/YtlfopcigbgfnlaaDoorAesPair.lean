/-
  Two blocks that one statement seals, in whatever order its variables are made.
-/
import Derived.Test.YtlfopcigbgfnlaaDoorAesEq
import Derived.Test.YtlfopcigbgfnlaaDoorOrd
import Derived.Great.Frames
import Derived.RangeFuncCalls
import Derived.Deep.DeepCutAuto
namespace Go.Proofs.YtlfopcigbgfnlaaDoor
open Go.RowKit

/-- A new block of 16 bytes 0. -/
theorem new16 (W : World) : Holds (W.alloc (.cells (cellsOf .u8 16 (fun _ => 0)) 24)) W.heap.size 24 .u8 16 (fun _ => 0) := holds_alloc W 24 .u8 16 (fun _ => 0) _ rfl

/-- What two variables hold, as far as they are made. -/
structure PSt (w0 W : World) (x y : Option Nat) (fx fy : Nat → Nat) : Prop where
  gr : w0.grownBy W none
  hx : ∀ X, x = some X → w0.heap.size ≤ X ∧ Holds W X 24 .u8 16 fx
  hy : ∀ Y, y = some Y → w0.heap.size ≤ Y ∧ Holds W Y 24 .u8 16 fy
  ne : ∀ X Y, x = some X → y = some Y → X ≠ Y
theorem PSt.start {w0 W : World} (h : w0.grownBy W none) : PSt w0 W none none (fun _ => 0) (fun _ => 0) := ⟨h, (fun _ h => by cases h), (fun _ h => by cases h), (fun _ _ h => by cases h)⟩
theorem PSt.call {w0 W W' : World} {x y : Option Nat} {fx fy : Nat → Nat} (h : PSt w0 W x y fx fy) (g : W.grownBy W' none) : PSt w0 W' x y fx fy :=
  ⟨grown_trans h.gr g, fun X e => ⟨(h.hx X e).1, (h.hx X e).2.grown g (by simp)⟩, fun Y e => ⟨(h.hy Y e).1, (h.hy Y e).2.grown g (by simp)⟩, h.ne⟩
theorem PSt.newX {w0 W : World} {y : Option Nat} {fx fy : Nat → Nat} (h : PSt w0 W none y fx fy) : PSt w0 (W.alloc (.cells (cellsOf .u8 16 (fun _ => 0)) 24)) (some W.heap.size) y (fun _ => 0) fy :=
  ⟨grown_alloc h.gr _, fun X e => by cases e; exact ⟨h.gr.size, new16 W⟩, fun Y e => ⟨(h.hy Y e).1, (h.hy Y e).2.grown (World.grownBy_alloc W _ none) (by simp)⟩, fun X Y e1 e2 => by
    cases e1
    have := (h.hy Y e2).2.lt
    omega⟩
theorem PSt.newY {w0 W : World} {x : Option Nat} {fx fy : Nat → Nat} (h : PSt w0 W x none fx fy) : PSt w0 (W.alloc (.cells (cellsOf .u8 16 (fun _ => 0)) 24)) x (some W.heap.size) fx (fun _ => 0) :=
  ⟨grown_alloc h.gr _, fun X e => ⟨(h.hx X e).1, (h.hx X e).2.grown (World.grownBy_alloc W _ none) (by simp)⟩, fun Y e => by cases e; exact ⟨h.gr.size, new16 W⟩, fun X Y e1 e2 => by
    cases e2
    have := (h.hx X e1).2.lt
    omega⟩
theorem PSt.storeX {w0 W : World} {X : Nat} {y : Option Nat} {fx fy : Nat → Nat} (h : PSt w0 W (some X) y fx fy) (p : Nat → Nat) : PSt w0 (W.setRow X (cellsOf .u8 16 p)) (some X) y p fy :=
  ⟨grown_setRow_new h.gr _ _ (Or.inl (h.hx X rfl).1), fun X' e => by cases e; exact ⟨(h.hx X rfl).1, (h.hx X rfl).2.setRow .u8 16 p⟩,
    fun Y e => ⟨(h.hy Y e).1, (h.hy Y e).2.of_block (setRow_other _ _ _ _ (fun e' => h.ne X Y rfl e e'.symm))⟩, h.ne⟩
theorem PSt.storeY {w0 W : World} {Y : Nat} {x : Option Nat} {fx fy : Nat → Nat} (h : PSt w0 W x (some Y) fx fy) (q : Nat → Nat) : PSt w0 (W.setRow Y (cellsOf .u8 16 q)) x (some Y) fx q :=
  ⟨grown_setRow_new h.gr _ _ (Or.inl (h.hy Y rfl).1), fun X e => ⟨(h.hx X e).1, (h.hx X e).2.of_block (setRow_other _ _ _ _ (h.ne X Y e rfl))⟩,
    fun Y' e => by cases e; exact ⟨(h.hy Y rfl).1, (h.hy Y rfl).2.setRow .u8 16 q⟩, h.ne⟩

theorem wp_store16 {o : Oper} {a : Act} {W : World} {K : Act → World → Prop} {Q : Exit → Act → World → Prop} (X : Nat) (t1 t2 : Tmp) (p f : Nat → Nat) (ho : o.op = .store 24 (.tmp t1) (.tmp t2)) (h1 : a.eval (.tmp t1) = .pointer (some ⟨X, 0, none⟩))
    (h2 : a.eval (.tmp t2) = .agg (cellsOf .u8 16 p)) (hX : Holds W X 24 .u8 16 f) (h : K (a.put o.dst undef) (W.setRow X (cellsOf .u8 16 p))) : o.wp Tryd.prog a W K Q :=
  wp_store_row (P := Tryd.prog) 24 (.tmp t1) (.tmp t2) ho X (cellsOf .u8 16 p) h1 h2 24 _ hX.block (by rw [cellsOf_size]; kernel_rfl) (by rw [cellsOf_size, cellsOf_size]) (cellsOf_all _ _ _) h

/-- A block, loaded. -/
theorem run_blk {o : Oper} {a : Act} {W : World} {B : Nat} {f : Nat → Nat} {t : Tmp} (h : Holds W B 24 .u8 16 f) (ho : o.op = .load 24 (.tmp t)) (ha : a.eval (.tmp t) = .pointer (some ⟨B, 0, none⟩)) :
    (execOp a.eval o).run Tryd.prog W = .ok (.value (.agg (cellsOf .u8 16 f))) W := by
  have hl := run_loadVar_row (P := Tryd.prog) W B 24 24 _ (0, 0) (.array 16 5) h.block (by kernel_rfl) rfl (by rw [cellsOf_size]; kernel_rfl)
  unfold execOp
  simp only [ho, ha, Instr.loadAt, Instr.sureAddr, Sem.run_bind, Sem.run_pure, Result.andThen_ok, hl]

theorem run_new16 {o : Oper} {a : Act} {W : World} (ho : o.op = .alloc 24) :
    (execOp a.eval o).run Tryd.prog W = .ok (.value (.pointer (some ⟨W.heap.size, 0, none⟩))) (W.alloc (.cells (cellsOf .u8 16 (fun _ => 0)) 24)) := by
  rw [← zero16]
  unfold execOp
  simp only [ho]
  go_simp

theorem seal_enters (args : Array Value) (w : World) : (callFunc 34 args).run Tryd.prog w = .ok (.enter 34 args) w :=
  enters_of Tryd.func34 (by kernel_rfl) rfl args w


/-- The frame: whose blocks are sealed, which variables are made. -/
def cnA (d2 d5 : Tmp) (vp vq : Value) (a : Act) : Nat → Act
  | 0 => a
  | 1 => a.put (some d2) vp
  | _ => (a.put (some d2) vp).put (some d5) vq
def ptrTo (X : Nat) : Value := .pointer (some ⟨X, 0, none⟩)
def putO (a : Act) (d : Tmp) : Option Nat → Act
  | none => a
  | some X => a.put (some d) (ptrTo X)
def cn (d2 d5 dx dy : Tmp) (vp vq : Value) (a : Act) (c : Nat) (x y : Option Nat) : Act := putO (putO (cnA d2 d5 vp vq a c) dx x) dy y

theorem putO_put (a : Act) (d e : Tmp) (x : Option Nat) (v : Value) (h : d ≠ e) : (putO a d x).put (some e) v = putO (a.put (some e) v) d x := by
  cases x with
  | none => rfl
  | some X => exact Act.put_comm (x := some d) (y := some e) a _ _ (fun k hk he => by
    injection hk with hk
    injection he with he
    exact h (by rw [hk, he]))
theorem putO_eval (a : Act) (d t : Tmp) (x : Option Nat) (h : d ≠ t) : (putO a d x).eval (.tmp t) = a.eval (.tmp t) := by
  cases x with
  | none => rfl
  | some X => exact Act.eval_put_ne a d t _ h
theorem putO_size (a : Act) (d : Tmp) (x : Option Nat) : (putO a d x).tmps.size = a.tmps.size := by
  cases x <;> simp [putO, Act.put]
theorem cnA_eval (d2 d5 t : Tmp) (vp vq : Value) (a : Act) (c : Nat) (h2 : d2 ≠ t) (h5 : d5 ≠ t) : (cnA d2 d5 vp vq a c).eval (.tmp t) = a.eval (.tmp t) := by
  match c with
  | 0 => rfl
  | 1 => exact Act.eval_put_ne a d2 t _ h2
  | _ + 2 => exact (Act.eval_put_ne _ d5 t _ h5).trans (Act.eval_put_ne a d2 t _ h2)
theorem cnA_size (d2 d5 : Tmp) (vp vq : Value) (a : Act) (c : Nat) : (cnA d2 d5 vp vq a c).tmps.size = a.tmps.size := by
  match c with
  | 0 => rfl
  | 1 => simp [cnA, Act.put]
  | _ + 2 => simp [cnA, Act.put]

/-- Which operations have come up. -/
def fl (c : Nat) (x y : Option Nat) (s t : Bool) : Array Bool := #[true, true, decide (1 ≤ c), true, true, decide (2 ≤ c), x.isSome, y.isSome, s, t]
/-- Which may come up, where: as the program's text has it. -/
def mayTable : List (Array Bool × List Nat) :=
  [(#[true, true, false, true, true, false, false, false, false, false], [2, 6, 7]), (#[true, true, false, true, true, false, true, false, false, false], [2, 7]), (#[true, true, false, true, true, false, false, true, false, false], [2, 6]), (#[true, true, false, true, true, false, true, true, false, false], [2]),
   (#[true, true, true, true, true, false, false, false, false, false], [5, 6, 7]), (#[true, true, true, true, true, false, true, false, false, false], [5, 7]), (#[true, true, true, true, true, false, false, true, false, false], [5, 6]), (#[true, true, true, true, true, false, true, true, false, false], [5]),
   (#[true, true, true, true, true, true, false, false, false, false], [6, 7]), (#[true, true, true, true, true, true, true, false, false, false], [7]), (#[true, true, true, true, true, true, false, true, false, false], [6]), (#[true, true, true, true, true, true, true, true, false, false], [8]),
   (#[true, true, true, true, true, true, true, true, true, false], [9]), (#[true, true, true, true, true, true, true, true, true, true], [])]

section
variable {ops : Array Oper} {Q : Exit → Act → World → Prop} {w0 : World} {d1 d2 d3 d4 d5 d6 dx dy : Tmp} {v1 v2 v3 v4 : Value} {p q : Nat → Nat} {a : Act} {o2 o5 o6 o7 o8 o9 : Oper} {t2 t5 : Array TypeId}
theorem pair_states (f : FuncId) (hent : ∀ args w, (callFunc f args).run Tryd.prog w = .ok (.enter f args) w)
    (hm : (mayTable.all fun x => Region.ready .any ops x.1 == x.2) = true)
    (g2 : ops[2]? = some o2) (g5 : ops[5]? = some o5) (g6 : ops[6]? = some o6) (g7 : ops[7]? = some o7) (g8 : ops[8]? = some o8) (g9 : ops[9]? = some o9)
    (u2 : o2.guard = none) (u5 : o5.guard = none) (u6 : o6.guard = none) (u7 : o7.guard = none) (u8 : o8.guard = none) (u9 : o9.guard = none)
    (k2 : o2.op = .call { callee := .value (.func f), args := #[.tmp d1, .tmp d3], argTypes := t2 }) (k5 : o5.op = .call { callee := .value (.func f), args := #[.tmp d4, .tmp d6], argTypes := t5 })
    (k6 : o6.op = .alloc 24) (k7 : o7.op = .alloc 24) (k8 : o8.op = .store 24 (.tmp dx) (.tmp d2)) (k9 : o9.op = .store 24 (.tmp dy) (.tmp d5))
    (e2 : o2.dst = some d2) (e5 : o5.dst = some d5) (e6 : o6.dst = some dx) (e7 : o7.dst = some dy) (e8 : o8.dst = none) (e9 : o9.dst = none)
    (hd : [d1, d2, d3, d4, d5, d6, dx, dy].Nodup) (hz2 : d2 < a.tmps.size) (hz5 : d5 < a.tmps.size) (hzx : dx < a.tmps.size) (hzy : dy < a.tmps.size)
    (a1 : a.eval (.tmp d1) = v1) (a3 : a.eval (.tmp d3) = v2) (a4 : a.eval (.tmp d4) = v3) (a6 : a.eval (.tmp d6) = v4)
    (C1 : ∀ W, w0.grownBy W none → Calls Tryd.prog f #[v1, v2] W fun e w' => e = .returned (.agg (cellsOf .u8 16 p)) ∧ W.grownBy w' none)
    (C2 : ∀ W, w0.grownBy W none → Calls Tryd.prog f #[v3, v4] W fun e w' => e = .returned (.agg (cellsOf .u8 16 q)) ∧ W.grownBy w' none)
    (hQ : ∀ X Y W, PSt w0 W (some X) (some Y) p q → Q .normal ((((a.put (some d2) (.agg (cellsOf .u8 16 p))).put (some d5) (.agg (cellsOf .u8 16 q))).put (some dx) (ptrTo X)).put (some dy) (ptrTo Y)) W) :
    ∀ (k c : Nat) (x y : Option Nat) (W : World), c ≤ 2 → k = (2 - c) + (if x.isSome then 0 else 1) + (if y.isSome then 0 else 1) → PSt w0 W x y (fun _ => 0) (fun _ => 0) →
      wpAnyH Tryd.prog .any ops Q (fun W => w0.grownBy W none) (k + 2) (fl c x y false false) (cn d2 d5 dx dy (.agg (cellsOf .u8 16 p)) (.agg (cellsOf .u8 16 q)) a c x y) W := by
  have hr : ∀ L r, (L, r) ∈ mayTable → Region.ready .any ops L = r := fun L r h => by simpa using List.all_eq_true.1 hm (L, r) h
  simp only [List.nodup_cons, List.mem_cons, List.not_mem_nil, or_false, not_or] at hd
  obtain ⟨⟨n12, n13, n14, n15, n16, n1x, n1y⟩, ⟨n23, n24, n25, n26, n2x, n2y⟩, ⟨n34, n35, n36, n3x, n3y⟩, ⟨n45, n46, n4x, n4y⟩, ⟨n56, n5x, n5y⟩, ⟨n6x, n6y⟩, nxy, _⟩ := hd
  have s1 : ∀ (F : Nat) (L : Array Bool) (x y : Option Nat) (W : World), PSt w0 W x y (fun _ => 0) (fun _ => 0) → (∀ W', PSt w0 W' x y (fun _ => 0) (fun _ => 0) → wpAnyH Tryd.prog .any ops Q (fun W => w0.grownBy W none) F L (cn d2 d5 dx dy (.agg (cellsOf .u8 16 p)) (.agg (cellsOf .u8 16 q)) a 1 x y) W') →
      wpOp Tryd.prog ops Q 2 (fun a' w' => w0.grownBy w' none ∧ wpAnyH Tryd.prog .any ops Q (fun W => w0.grownBy W none) F L a' w') (cn d2 d5 dx dy (.agg (cellsOf .u8 16 p)) (.agg (cellsOf .u8 16 q)) a 0 x y) W := fun F L x y W H IH => by
    refine wpOp_at g2 (wanted_of u2) (wp_fn2 f d1 d3 v1 v2 k2 ?_ ?_ hent (C1 W H.gr) fun W' g' => ?_)
    · unfold cn; rw [putO_eval _ _ _ _ (Ne.symm n1y), putO_eval _ _ _ _ (Ne.symm n1x)]; exact a1
    · unfold cn; rw [putO_eval _ _ _ _ (Ne.symm n3y), putO_eval _ _ _ _ (Ne.symm n3x)]; exact a3
    · have H' := H.call g'
      refine ⟨H'.gr, ?_⟩
      rw [e2]
      unfold cn
      rw [putO_put _ _ _ _ _ (Ne.symm n2y), putO_put _ _ _ _ _ (Ne.symm n2x)]
      exact IH W' H'
  have s2 : ∀ (F : Nat) (L : Array Bool) (x y : Option Nat) (W : World), PSt w0 W x y (fun _ => 0) (fun _ => 0) → (∀ W', PSt w0 W' x y (fun _ => 0) (fun _ => 0) → wpAnyH Tryd.prog .any ops Q (fun W => w0.grownBy W none) F L (cn d2 d5 dx dy (.agg (cellsOf .u8 16 p)) (.agg (cellsOf .u8 16 q)) a 2 x y) W') →
      wpOp Tryd.prog ops Q 5 (fun a' w' => w0.grownBy w' none ∧ wpAnyH Tryd.prog .any ops Q (fun W => w0.grownBy W none) F L a' w') (cn d2 d5 dx dy (.agg (cellsOf .u8 16 p)) (.agg (cellsOf .u8 16 q)) a 1 x y) W := fun F L x y W H IH => by
    refine wpOp_at g5 (wanted_of u5) (wp_fn2 f d4 d6 v3 v4 k5 ?_ ?_ hent (C2 W H.gr) fun W' g' => ?_)
    · unfold cn; rw [putO_eval _ _ _ _ (Ne.symm n4y), putO_eval _ _ _ _ (Ne.symm n4x), cnA_eval _ _ _ _ _ _ _ n24 (Ne.symm n45)]; exact a4
    · unfold cn; rw [putO_eval _ _ _ _ (Ne.symm n6y), putO_eval _ _ _ _ (Ne.symm n6x), cnA_eval _ _ _ _ _ _ _ n26 n56]; exact a6
    · have H' := H.call g'
      refine ⟨H'.gr, ?_⟩
      rw [e5]
      unfold cn
      rw [putO_put _ _ _ _ _ (Ne.symm n5y), putO_put _ _ _ _ _ (Ne.symm n5x)]
      exact IH W' H'
  have s6 : ∀ (F : Nat) (L : Array Bool) (c : Nat) (y : Option Nat) (W : World), PSt w0 W none y (fun _ => 0) (fun _ => 0) → (∀ X W', PSt w0 W' (some X) y (fun _ => 0) (fun _ => 0) → wpAnyH Tryd.prog .any ops Q (fun W => w0.grownBy W none) F L (cn d2 d5 dx dy (.agg (cellsOf .u8 16 p)) (.agg (cellsOf .u8 16 q)) a c (some X) y) W') →
      wpOp Tryd.prog ops Q 6 (fun a' w' => w0.grownBy w' none ∧ wpAnyH Tryd.prog .any ops Q (fun W => w0.grownBy W none) F L a' w') (cn d2 d5 dx dy (.agg (cellsOf .u8 16 p)) (.agg (cellsOf .u8 16 q)) a c none y) W := fun F L c y W H IH => by
    refine wpOp_at g6 (wanted_of u6) (wp_yields (run_new16 k6) ?_)
    have H' := H.newX
    refine ⟨H'.gr, ?_⟩
    rw [e6]
    unfold cn
    rw [putO_put _ _ _ _ _ (Ne.symm nxy)]
    exact IH _ _ H'
  have s7 : ∀ (F : Nat) (L : Array Bool) (c : Nat) (x : Option Nat) (W : World), PSt w0 W x none (fun _ => 0) (fun _ => 0) → (∀ Y W', PSt w0 W' x (some Y) (fun _ => 0) (fun _ => 0) → wpAnyH Tryd.prog .any ops Q (fun W => w0.grownBy W none) F L (cn d2 d5 dx dy (.agg (cellsOf .u8 16 p)) (.agg (cellsOf .u8 16 q)) a c x (some Y)) W') →
      wpOp Tryd.prog ops Q 7 (fun a' w' => w0.grownBy w' none ∧ wpAnyH Tryd.prog .any ops Q (fun W => w0.grownBy W none) F L a' w') (cn d2 d5 dx dy (.agg (cellsOf .u8 16 p)) (.agg (cellsOf .u8 16 q)) a c x none) W := fun F L c x W H IH => by
    refine wpOp_at g7 (wanted_of u7) (wp_yields (run_new16 k7) ?_)
    have H' := H.newY
    refine ⟨H'.gr, ?_⟩
    rw [e7]
    exact IH _ _ H'
  intro k
  induction k with
  | zero =>
    intro c x y W hc hk H
    cases x with
    | none => exact absurd hk (by cases y <;> simp <;> omega)
    | some X =>
      cases y with
      | none => exact absurd hk (by simp)
      | some Y =>
        obtain rfl : c = 2 := by simp at hk; omega
        refine wpAnyH_all (rs := [8]) (hr _ _ (by simp [mayTable, fl])) (by simp) fun i hi => ?_
        obtain rfl : i = 8 := by simpa using hi
        refine wpOp_at g8 (wanted_of u8) (wp_store16 X dx d2 p _ k8 ?_ ?_ (H.hx X rfl).2 ?_)
        · show ((_ : Act).put (some dy) _).eval _ = _
          rw [Act.eval_put_ne _ _ _ _ (Ne.symm nxy)]
          show (Act.put _ (some dx) _).eval _ = _
          rw [Act.eval_put_same _ _ _ (by rw [cnA_size]; exact hzx)]
          rfl
        · show ((_ : Act).put (some dy) _).eval _ = _
          rw [Act.eval_put_ne _ _ _ _ (Ne.symm n2y)]
          show (Act.put _ (some dx) _).eval _ = _
          rw [Act.eval_put_ne _ _ _ _ (Ne.symm n2x)]
          show ((a.put (some d2) _).put (some d5) _).eval _ = _
          rw [Act.eval_put_ne _ _ _ _ (Ne.symm n25), Act.eval_put_same _ _ _ hz2]
        · have H1 := H.storeX p
          refine ⟨H1.gr, ?_⟩
          rw [e8]
          refine wpAnyH_all (rs := [9]) (hr _ _ (by simp [mayTable, fl])) (by simp) fun i hi => ?_
          obtain rfl : i = 9 := by simpa using hi
          refine wpOp_at g9 (wanted_of u9) (wp_store16 Y dy d5 q _ k9 ?_ ?_ (H1.hy Y rfl).2 ?_)
          · show ((_ : Act).put (some dy) _).eval _ = _
            rw [Act.eval_put_same _ _ _ (by rw [show (putO (cnA d2 d5 (.agg (cellsOf .u8 16 p)) (.agg (cellsOf .u8 16 q)) a 2) dx (some X)).tmps.size = a.tmps.size by rw [putO_size, cnA_size]]; exact hzy)]
            rfl
          · show ((_ : Act).put (some dy) _).eval _ = _
            rw [Act.eval_put_ne _ _ _ _ (Ne.symm n5y)]
            show (Act.put _ (some dx) _).eval _ = _
            rw [Act.eval_put_ne _ _ _ _ (Ne.symm n5x)]
            show ((a.put (some d2) _).put (some d5) _).eval _ = _
            rw [Act.eval_put_same _ _ _ (by simpa [Act.put] using hz5)]
          · have H2 := H1.storeY q
            refine ⟨H2.gr, ?_⟩
            rw [e9]
            exact wpAnyH_done (hr _ _ (by simp [mayTable, fl])) (hQ X Y _ H2) _
  | succ k ih =>
    intro c x y W hc hk H
    have hkk : k + 1 = (2 - c) + (if x.isSome then 0 else 1) + (if y.isSome then 0 else 1) := hk
    obtain rfl | rfl | rfl : c = 0 ∨ c = 1 ∨ c = 2 := by omega
    · cases x with
      | none => cases y with
        | none =>
          refine wpAnyH_all (rs := [2, 6, 7]) (hr _ _ (by simp [mayTable, fl])) (by simp) fun i hi => ?_
          simp only [List.mem_cons, List.not_mem_nil, or_false] at hi
          rcases hi with rfl | rfl | rfl
          · exact s1 _ _ _ _ _ H fun W' H' => ih 1 none none W' (by omega) (by simp at hkk ⊢; omega) H'
          · exact s6 _ _ _ _ _ H fun X W' H' => ih 0 (some X) none W' (by omega) (by simp at hkk ⊢; omega) H'
          · exact s7 _ _ _ _ _ H fun Y W' H' => ih 0 none (some Y) W' (by omega) (by simp at hkk ⊢; omega) H'
        | some Y =>
          refine wpAnyH_all (rs := [2, 6]) (hr _ _ (by simp [mayTable, fl])) (by simp) fun i hi => ?_
          simp only [List.mem_cons, List.not_mem_nil, or_false] at hi
          rcases hi with rfl | rfl
          · exact s1 _ _ _ _ _ H fun W' H' => ih 1 none (some Y) W' (by omega) (by simp at hkk ⊢; omega) H'
          · exact s6 _ _ _ _ _ H fun X W' H' => ih 0 (some X) (some Y) W' (by omega) (by simp at hkk ⊢; omega) H'
      | some X => cases y with
        | none =>
          refine wpAnyH_all (rs := [2, 7]) (hr _ _ (by simp [mayTable, fl])) (by simp) fun i hi => ?_
          simp only [List.mem_cons, List.not_mem_nil, or_false] at hi
          rcases hi with rfl | rfl
          · exact s1 _ _ _ _ _ H fun W' H' => ih 1 (some X) none W' (by omega) (by simp at hkk ⊢; omega) H'
          · exact s7 _ _ _ _ _ H fun Y W' H' => ih 0 (some X) (some Y) W' (by omega) (by simp at hkk ⊢; omega) H'
        | some Y =>
          refine wpAnyH_all (rs := [2]) (hr _ _ (by simp [mayTable, fl])) (by simp) fun i hi => ?_
          simp only [List.mem_cons, List.not_mem_nil, or_false] at hi
          rcases hi with rfl
          · exact s1 _ _ _ _ _ H fun W' H' => ih 1 (some X) (some Y) W' (by omega) (by simp at hkk ⊢; omega) H'
    · cases x with
      | none => cases y with
        | none =>
          refine wpAnyH_all (rs := [5, 6, 7]) (hr _ _ (by simp [mayTable, fl])) (by simp) fun i hi => ?_
          simp only [List.mem_cons, List.not_mem_nil, or_false] at hi
          rcases hi with rfl | rfl | rfl
          · exact s2 _ _ _ _ _ H fun W' H' => ih 2 none none W' (by omega) (by simp at hkk ⊢; omega) H'
          · exact s6 _ _ _ _ _ H fun X W' H' => ih 1 (some X) none W' (by omega) (by simp at hkk ⊢; omega) H'
          · exact s7 _ _ _ _ _ H fun Y W' H' => ih 1 none (some Y) W' (by omega) (by simp at hkk ⊢; omega) H'
        | some Y =>
          refine wpAnyH_all (rs := [5, 6]) (hr _ _ (by simp [mayTable, fl])) (by simp) fun i hi => ?_
          simp only [List.mem_cons, List.not_mem_nil, or_false] at hi
          rcases hi with rfl | rfl
          · exact s2 _ _ _ _ _ H fun W' H' => ih 2 none (some Y) W' (by omega) (by simp at hkk ⊢; omega) H'
          · exact s6 _ _ _ _ _ H fun X W' H' => ih 1 (some X) (some Y) W' (by omega) (by simp at hkk ⊢; omega) H'
      | some X => cases y with
        | none =>
          refine wpAnyH_all (rs := [5, 7]) (hr _ _ (by simp [mayTable, fl])) (by simp) fun i hi => ?_
          simp only [List.mem_cons, List.not_mem_nil, or_false] at hi
          rcases hi with rfl | rfl
          · exact s2 _ _ _ _ _ H fun W' H' => ih 2 (some X) none W' (by omega) (by simp at hkk ⊢; omega) H'
          · exact s7 _ _ _ _ _ H fun Y W' H' => ih 1 (some X) (some Y) W' (by omega) (by simp at hkk ⊢; omega) H'
        | some Y =>
          refine wpAnyH_all (rs := [5]) (hr _ _ (by simp [mayTable, fl])) (by simp) fun i hi => ?_
          simp only [List.mem_cons, List.not_mem_nil, or_false] at hi
          rcases hi with rfl
          · exact s2 _ _ _ _ _ H fun W' H' => ih 2 (some X) (some Y) W' (by omega) (by simp at hkk ⊢; omega) H'
    · cases x with
      | none => cases y with
        | none =>
          refine wpAnyH_all (rs := [6, 7]) (hr _ _ (by simp [mayTable, fl])) (by simp) fun i hi => ?_
          simp only [List.mem_cons, List.not_mem_nil, or_false] at hi
          rcases hi with rfl | rfl
          · exact s6 _ _ _ _ _ H fun X W' H' => ih 2 (some X) none W' (by omega) (by simp at hkk ⊢; omega) H'
          · exact s7 _ _ _ _ _ H fun Y W' H' => ih 2 none (some Y) W' (by omega) (by simp at hkk ⊢; omega) H'
        | some Y =>
          refine wpAnyH_all (rs := [6]) (hr _ _ (by simp [mayTable, fl])) (by simp) fun i hi => ?_
          simp only [List.mem_cons, List.not_mem_nil, or_false] at hi
          rcases hi with rfl
          · exact s6 _ _ _ _ _ H fun X W' H' => ih 2 (some X) (some Y) W' (by omega) (by simp at hkk ⊢; omega) H'
      | some X => cases y with
        | none =>
          refine wpAnyH_all (rs := [7]) (hr _ _ (by simp [mayTable, fl])) (by simp) fun i hi => ?_
          simp only [List.mem_cons, List.not_mem_nil, or_false] at hi
          rcases hi with rfl
          · exact s7 _ _ _ _ _ H fun Y W' H' => ih 2 (some X) (some Y) W' (by omega) (by simp at hkk ⊢; omega) H'
        | some Y =>
          exact absurd hk (by simp)
end

end Go.Proofs.YtlfopcigbgfnlaaDoor
