/-
  dist: each of what comes in may be, or its Put says that it may not.
-/
import Derived.Test.YtmbefbmpjkbnmaaDistBackAllc
namespace Go.Proofs.Ytmbefbmpjkbnmaa
open Go.RowKit

set_option maxRecDepth 100000
set_option maxHeartbeats 8000000

theorem q0 (t : Array Value) (ds : _) (d : Nat) (v : Value) : (Act.mk t ds).put (some d) v = ⟨t.setIfInBounds d v, ds⟩ := rfl
theorem q1 {α : Type} (l : List α) (i : Nat) (x : α) : l.toArray.setIfInBounds i x = (l.set i x).toArray := List.setIfInBounds_toArray ..
theorem q2 {α : Type} (a : α) (l : List α) (i : Nat) (x : α) : (a :: l).set (i + 1) x = a :: l.set i x := rfl
theorem q3 {α : Type} (a : α) (l : List α) (x : α) : (a :: l).set 0 x = x :: l := rfl
theorem r4_any (CT T TT : TypeId) (TAKE : FuncId) (N : Nat) (zv : Nat → Value) (Zc cd : Array Value) {CB n cp D : Nat} {ap : Option Addr} {f : Nat → Nat} {w V0 : World} {ds : _} {t0 t1 t2 t3 t4 t6 t7 t8 t9 t10 t12 t13 t14 t15 t16 t17 t18 t19 t20 t21 t22 t23 t24 t25 t26 t27 t28 t29 t30 t31 t32 t33 t34 t35 t36 t37 t38 t39 t40 t41 t42 t43 t44 t45 t46 t47 t48 t49 t50 t51 t52 t53 t54 t55 t56 t57 t58 t59 t60 t61 t62 t63 t64 t65 t66 t67 t68 t69 t70 t71 t72 t73 t74 t75 t76 t77 t78 t79 t80 t81 t82 t83 t84 t85 t86 t87 t88 t89 t90 t91 t92 t93 t94 t95 t96 t97 : Value} {Q : Exit → Act → World → Prop}
  (hV0 : World.drew w = V0) (hZ : Zc = rowOf N zv) (hsi : (Try.prog.info? T).map (·.size) = some N)
  (hld : ∀ W, V0.grownBy W none → (Instr.loadAt CT (.pointer (some ⟨CB, 0, none⟩))).run Try.prog W = .ok (.agg cd) W)
  (hal : ∀ (W : World) (ev : Operand → Value), (execOp ev { dst := some 15, op := Op.alloc T, type := 0, pos := "outright.go:13", after := #[], guard := none }).run Try.prog W = .ok (.value (.pointer (some ⟨W.heap.size, 0, none⟩))) (W.alloc (.cells Zc T)))
  (hRp : Rd V0 D ap n f) (hn : n ≤ 100000)
  (htk : ∀ W gB cB, V0.grownBy W none → OwnR W gB (n + 1) cB (cat n (cat 0 (fun _ => 0) f) (fun _ => 0)) → Calls Try.prog TAKE #[.agg cd, .slice (some ⟨gB, 0, none⟩) (n + 1 : Nat) cB] W fun e w' => ∃ vv : Nat → Value, e = .returned (.tuple #[.agg (rowOf N vv), .int .i64 9]) ∧ (∀ j, (vv j).oneCell' = true) ∧ W.grownBy w' none)
  (hen : ∀ args w, (callFunc TAKE args).run Try.prog w = .ok (.enter TAKE args) w)
  (hq : ∀ (d : Tmp) (v : Value) c a w, Q (.panic c) (a.put (some d) v) w → Q (.panic c) a w)
  (hfin : ∀ (x36 x38 x40 x41 x42 x43 x44 x45 x15 : Value) (W : World), V0.grownBy W none → Q .normal ⟨#[t0, t1, t2, t3, t4, .pointer (some ⟨CB, 0, none⟩), t6, t7, t8, t9, t10, .slice ap n cp, t12, t13, t14, x15, .int .i64 9, t17, t18, t19, t20, t21, t22, t23, t24, t25, t26, t27, t28, t29, t30, t31, t32, t33, t34, t35, x36, .agg cd, x38, .slice ap n cp, x40, x41, x42, x43, x44, x45, t46, t47, t48, t49, t50, t51, t52, t53, t54, t55, t56, t57, t58, t59, t60, t61, t62, t63, t64, t65, t66, t67, t68, t69, t70, t71, t72, t73, t74, t75, t76, t77, t78, t79, t80, t81, t82, t83, t84, t85, t86, t87, t88, t89, t90, t91, t92, t93, t94, t95, t96, t97], ds⟩ W) :
  (Code.region 4 #[{ dst := some 37, op := Op.load CT (Operand.tmp 5), type := CT, pos := "outright.go:13", after := #[], guard := none }, { dst := some 38, op := Op.buildSlice 39 0 #[], type := 39, pos := "outright.go:13", after := #[], guard := none }, { dst := some 39, op := Op.move (Operand.tmp 11), type := 39, pos := "outright.go:13", after := #[], guard := none }, { dst := some 40, op := Op.call { callee := Callee.builtin Builtin.append, args := #[Operand.tmp 38, Operand.tmp 39], argTypes := #[39, 39] }, type := 39, pos := "outright.go:13", after := #[{ on := 1, ground := Ground.data }, { on := 2, ground := Ground.data }], guard := none }, { dst := some 41, op := Op.buildSlice 39 1 #[(0, Operand.const (Value.int IntKind.u8 0))], type := 39, pos := "outright.go:13", after := #[], guard := none }, { dst := some 42, op := Op.call { callee := Callee.builtin Builtin.append, args := #[Operand.tmp 40, Operand.tmp 41], argTypes := #[39, 39] }, type := 39, pos := "outright.go:13", after := #[{ on := 3, ground := Ground.data }, { on := 4, ground := Ground.data }, { on := 3, ground := Ground.chain }], guard := none }, { dst := some 43, op := Op.call { callee := Callee.value (Operand.func TAKE), args := #[Operand.tmp 37, Operand.tmp 42], argTypes := #[CT, 39] }, type := TT, pos := "outright.go:13", after := #[{ on := 0, ground := Ground.data }, { on := 5, ground := Ground.data }, { on := 5, ground := Ground.chain }], guard := none }, { dst := some 36, op := Op.move (Operand.tmp 43), type := TT, pos := "outright.go:13", after := #[{ on := 6, ground := Ground.data }], guard := none }, { dst := some 44, op := Op.extract (Operand.tmp 36) 0, type := T, pos := "outright.go:13", after := #[{ on := 7, ground := Ground.data }], guard := none }, { dst := some 45, op := Op.extract (Operand.tmp 36) 1, type := 89, pos := "outright.go:13", after := #[{ on := 7, ground := Ground.data }, { on := 11, ground := Ground.gcOnly Departure.lateStores }], guard := none }, { dst := some 15, op := Op.alloc T, type := 0, pos := "outright.go:13", after := #[], guard := none }, { dst := none, op := Op.store T (Operand.tmp 15) (Operand.tmp 44), type := 0, pos := "outright.go:13", after := #[{ on := 10, ground := Ground.data }, { on := 8, ground := Ground.data }, { on := 6, ground := Ground.chain }, { on := 0, ground := Ground.phase }, { on := 1, ground := Ground.phase }, { on := 2, ground := Ground.phase }, { on := 3, ground := Ground.phase }, { on := 4, ground := Ground.phase }, { on := 5, ground := Ground.phase }, { on := 6, ground := Ground.phase }, { on := 7, ground := Ground.phase }, { on := 8, ground := Ground.phase }, { on := 9, ground := Ground.textOnly Departure.lateStores }, { on := 10, ground := Ground.phase }], guard := none }, { dst := some 16, op := Op.assign (Operand.tmp 45), type := 89, pos := "outright.go:13", after := #[{ on := 9, ground := Ground.data }, { on := 11, ground := Ground.chain }, { on := 0, ground := Ground.phase }, { on := 1, ground := Ground.phase }, { on := 2, ground := Ground.phase }, { on := 3, ground := Ground.phase }, { on := 4, ground := Ground.phase }, { on := 5, ground := Ground.phase }, { on := 6, ground := Ground.phase }, { on := 7, ground := Ground.phase }, { on := 8, ground := Ground.phase }, { on := 9, ground := Ground.phase }, { on := 10, ground := Ground.phase }, { on := 11, ground := Ground.phase }], guard := none }] true).wp Try.prog Q ⟨#[t0, t1, t2, t3, t4, .pointer (some ⟨CB, 0, none⟩), t6, t7, t8, t9, t10, .slice ap n cp, t12, t13, t14, t15, t16, t17, t18, t19, t20, t21, t22, t23, t24, t25, t26, t27, t28, t29, t30, t31, t32, t33, t34, t35, t36, t37, t38, t39, t40, t41, t42, t43, t44, t45, t46, t47, t48, t49, t50, t51, t52, t53, t54, t55, t56, t57, t58, t59, t60, t61, t62, t63, t64, t65, t66, t67, t68, t69, t70, t71, t72, t73, t74, t75, t76, t77, t78, t79, t80, t81, t82, t83, t84, t85, t86, t87, t88, t89, t90, t91, t92, t93, t94, t95, t96, t97], ds⟩ w := by
 have HV0 := Lib.hid hV0
 have HZ := Lib.hid hZ
 have HSI := Lib.hid hsi
 have HLD := Lib.hid hld
 have HAL := Lib.hid hal
 have HRp := Lib.hid hRp
 have HN4 := Lib.hid hn
 have HTK := Lib.hid htk
 have HEN := Lib.hid hen
 have HFN := Lib.hid hfin
 have HQ := Lib.hid hq
 clear hV0 hZ hsi hld hal hRp hn htk hen hfin hq
 refine wp_region_held (S := fun W => V0.grownBy W none) (by kernel_rfl) ?_
 change wpAnyH _ _ _ _ _ 13 #[false, false, false, false, false, false, false, false, false, false, false, false, false] _ (World.drew _)
 rw [HV0.out]
 have hS : V0.grownBy V0 none := grown_refl V0 _
 refine wpAnyH_takeD (some 37) (i := 0) (v := (.agg cd)) rfl rfl (by kernel_rfl) (by kernel_rfl) (by kernel_rfl) (HQ.out _ _) (Or.inl ⟨rfl, fun W hW => exec_loadQ (.tmp 5) _ _ rfl rfl (HLD.out W hW)⟩) hS ?_
 simp only [q0, q1, q2, q3]
 refine wpAnyH_takeD (some 39) (i := 2) (v := (.slice ap n cp)) rfl rfl (by kernel_rfl) (by kernel_rfl) (by kernel_rfl) (HQ.out _ _) (Or.inl ⟨rfl, fun _ _ => rfl⟩) hS ?_
 simp only [q0, q1, q2, q3]
 refine wpAnyH_all (rs := [1, 4, 10]) (by kernel_rfl) (by simp) fun i hi => ?_
 rcases (by simpa using hi : i = 1 ∨ i = 4 ∨ i = 10) with rfl | rfl | rfl
 · clear hi
   have hEb : V0.heap.size ≤ V0.heap.size := hS.size
   have hE := ownR_empty V0
   refine op_yield (some 38) (v := .slice (some ⟨V0.heap.size, 0, none⟩) 0 0) (w' := V0.alloc (.cells #[] 5)) rfl rfl rfl (by unfold execOp; go_simp) (grown_alloc hS _) ?_
   simp only [q0, q1, q2, q3]
   have gn := World.grownBy_alloc V0 (.cells #[] 5) none
   replace hS := grown_trans hS gn
   generalize V0.alloc (.cells #[] 5) = u1 at *
   clear gn
   refine wpAnyH_all (rs := [3, 4, 10]) (by kernel_rfl) (by simp) fun i hi => ?_
   rcases (by simpa using hi : i = 3 ∨ i = 4 ∨ i = 10) with rfl | rfl | rfl
   · clear hi
     obtain ⟨x1, u2, hap, ⟨ex⟩⟩ := app_run cp 39 hE (HRp.out.grown hS (by simp)) (by have := HN4.out; omega)
     obtain ⟨gA, cA, rfl, hA, _, ga, qa⟩ := ex
     rw [Nat.zero_add] at hap hA
     refine op_yield (some 40) (v := .slice (some ⟨gA, 0, none⟩) n cA) (w' := u2) rfl rfl rfl (exec_appendQ _ _ _ _ _ rfl rfl rfl rfl hap) (grown_new hS ga hEb) ?_
     simp only [q0, q1, q2, q3]
     have hsz := hS.size
     have hAb : V0.heap.size ≤ gA := by rcases qa with qa | qa <;> omega
     replace hS := grown_new hS ga hEb
     clear hap hE ga qa hsz
     refine wpAnyH_all (rs := [4, 10]) (by kernel_rfl) (by simp) fun i hi => ?_
     rcases (by simpa using hi : i = 4 ∨ i = 10) with rfl | rfl
     · clear hi
       have hZ := ownR_one10 u2 0
       refine op_yield (some 41) (v := .slice (some ⟨u2.heap.size, 0, none⟩) 1 1) (w' := u2.alloc (.cells #[.int .u8 ((0 : Nat) : Int)] 5)) rfl rfl rfl (by unfold execOp; go_simp) (grown_alloc hS _) ?_
       simp only [q0, q1, q2, q3]
       have gn := World.grownBy_alloc u2 (.cells #[.int .u8 ((0 : Nat) : Int)] 5) none
       replace hS := grown_trans hS gn
       replace hA := hA.grown gn (by simp)
       generalize u2.alloc (.cells #[.int .u8 ((0 : Nat) : Int)] 5) = u3 at *
       clear gn
       refine wpAnyH_all (rs := [5, 10]) (by kernel_rfl) (by simp) fun i hi => ?_
       rcases (by simpa using hi : i = 5 ∨ i = 10) with rfl | rfl
       · clear hi
         obtain ⟨x2, u4, hap, ⟨ex⟩⟩ := app_run 1 39 hA hZ.rd (by have := HN4.out; omega)
         obtain ⟨gB, cB, rfl, hB, _, ga, _⟩ := ex
         refine op_yield (some 42) (v := .slice (some ⟨gB, 0, none⟩) (n + 1 : Nat) cB) (w' := u4) rfl rfl rfl (exec_appendQ _ _ _ _ _ rfl rfl rfl rfl hap) (grown_new hS ga hAb) ?_
         simp only [q0, q1, q2, q3]
         replace hS := grown_new hS ga hAb
         clear hap hA hZ ga
         refine wpAnyH_all (rs := [6, 10]) (by kernel_rfl) (by simp) fun i hi => ?_
         rcases (by simpa using hi : i = 6 ∨ i = 10) with rfl | rfl
         · clear hi
           refine op_callR (R := fun v W => ∃ vv : Nat → Value, v = .tuple #[.agg (rowOf N vv), .int .i64 9] ∧ (∀ j, (vv j).oneCell' = true) ∧ u4.grownBy W none) (some 43) TAKE #[.agg cd, .slice (some ⟨gB, 0, none⟩) (n + 1 : Nat) cB] rfl rfl rfl (exec_fn2 _ _ _ _ _ rfl rfl rfl) HEN.out ((HTK.out u4 gB cB hS hB).mono fun e W h => by
            obtain ⟨vv, rfl, h1, h3⟩ := h
            exact ⟨_, rfl, vv, rfl, h1, h3⟩) ?_
           rintro v u5 ⟨vv, rfl, h1v, gn⟩
           replace hS := grown_trans hS gn
           clear gn hB
           refine ⟨hS, ?_⟩
           simp only [q0, q1, q2, q3]
           refine wpAnyH_takeD (some 36) (i := 7) (v := (.tuple #[.agg (rowOf N vv), .int .i64 9])) rfl rfl (by kernel_rfl) (by kernel_rfl) (by kernel_rfl) (HQ.out _ _) (Or.inl ⟨rfl, fun _ _ => rfl⟩) hS ?_
           simp only [q0, q1, q2, q3]
           refine wpAnyH_takeD (some 44) (i := 8) (v := (.agg (rowOf N vv))) rfl rfl (by kernel_rfl) (by kernel_rfl) (by kernel_rfl) (HQ.out _ _) (Or.inl ⟨rfl, fun _ _ => by go_simp⟩) hS ?_
           simp only [q0, q1, q2, q3]
           refine wpAnyH_takeD (some 45) (i := 9) (v := (.int .i64 9)) rfl rfl (by kernel_rfl) (by kernel_rfl) (by kernel_rfl) (HQ.out _ _) (Or.inl ⟨rfl, fun _ _ => by go_simp⟩) hS ?_
           simp only [q0, q1, q2, q3]
           refine wpAnyH_one (i := 10) (by kernel_rfl) ?_
           have hYb : V0.heap.size ≤ u5.heap.size := hS.size
           have hY := RowAt.new u5 T N zv Zc HZ.out
           refine op_yield (some 15) (v := .pointer (some ⟨u5.heap.size, 0, none⟩)) (w' := u5.alloc (.cells Zc T)) rfl rfl rfl (HAL.out _ _) (grown_alloc hS _) ?_
           simp only [q0, q1, q2, q3]
           have gn := World.grownBy_alloc u5 (.cells Zc T) none
           replace hS := grown_trans hS gn
           generalize u5.alloc (.cells Zc T) = u6 at *
           clear gn
           obtain ⟨k1, k2⟩ := RowAt.store (P := Try.prog) hY 0 T N vv (by omega) HSI.out (fun j _ => h1v j)
           have gX : V0.grownBy (u6.setCells u5.heap.size 0 (rowOf N vv).toList) none := grown_setCells u5.heap.size (Or.inl hYb) _ 0 _ hS
           refine wpAnyH_skipQ (i := 11) (by kernel_rfl) rfl rfl rfl (exec_storeQ (.tmp 15) (.tmp 44) _ _ rfl rfl rfl k1) gX ?_
           simp only [q1, q2, q3]
           refine wpAnyH_yieldD (some 16) (i := 12) (v := .int .i64 9) (by kernel_rfl) rfl rfl rfl (by unfold execOp; go_simp) gX ?_
           simp only [q0, q1, q2, q3]
           exact wpAnyH_done (by kernel_rfl) (HFN.out _ _ _ _ _ _ _ _ _ _ gX) _
         · clear hi
           have hYb : V0.heap.size ≤ u4.heap.size := hS.size
           have hY := RowAt.new u4 T N zv Zc HZ.out
           refine op_yield (some 15) (v := .pointer (some ⟨u4.heap.size, 0, none⟩)) (w' := u4.alloc (.cells Zc T)) rfl rfl rfl (HAL.out _ _) (grown_alloc hS _) ?_
           simp only [q0, q1, q2, q3]
           have gn := World.grownBy_alloc u4 (.cells Zc T) none
           replace hS := grown_trans hS gn
           replace hB := hB.grown gn (by simp)
           generalize u4.alloc (.cells Zc T) = u5 at *
           clear gn
           refine wpAnyH_one (i := 6) (by kernel_rfl) ?_
           refine op_callR (R := fun v W => ∃ vv : Nat → Value, v = .tuple #[.agg (rowOf N vv), .int .i64 9] ∧ (∀ j, (vv j).oneCell' = true) ∧ u5.grownBy W none) (some 43) TAKE #[.agg cd, .slice (some ⟨gB, 0, none⟩) (n + 1 : Nat) cB] rfl rfl rfl (exec_fn2 _ _ _ _ _ rfl rfl rfl) HEN.out ((HTK.out u5 gB cB hS hB).mono fun e W h => by
            obtain ⟨vv, rfl, h1, h3⟩ := h
            exact ⟨_, rfl, vv, rfl, h1, h3⟩) ?_
           rintro v u6 ⟨vv, rfl, h1v, gn⟩
           replace hY := hY.grown gn (by simp)
           replace hS := grown_trans hS gn
           clear gn hB
           refine ⟨hS, ?_⟩
           simp only [q0, q1, q2, q3]
           refine wpAnyH_takeD (some 36) (i := 7) (v := (.tuple #[.agg (rowOf N vv), .int .i64 9])) rfl rfl (by kernel_rfl) (by kernel_rfl) (by kernel_rfl) (HQ.out _ _) (Or.inl ⟨rfl, fun _ _ => rfl⟩) hS ?_
           simp only [q0, q1, q2, q3]
           refine wpAnyH_takeD (some 44) (i := 8) (v := (.agg (rowOf N vv))) rfl rfl (by kernel_rfl) (by kernel_rfl) (by kernel_rfl) (HQ.out _ _) (Or.inl ⟨rfl, fun _ _ => by go_simp⟩) hS ?_
           simp only [q0, q1, q2, q3]
           refine wpAnyH_takeD (some 45) (i := 9) (v := (.int .i64 9)) rfl rfl (by kernel_rfl) (by kernel_rfl) (by kernel_rfl) (HQ.out _ _) (Or.inl ⟨rfl, fun _ _ => by go_simp⟩) hS ?_
           simp only [q0, q1, q2, q3]
           obtain ⟨k1, k2⟩ := RowAt.store (P := Try.prog) hY 0 T N vv (by omega) HSI.out (fun j _ => h1v j)
           have gX : V0.grownBy (u6.setCells u4.heap.size 0 (rowOf N vv).toList) none := grown_setCells u4.heap.size (Or.inl hYb) _ 0 _ hS
           refine wpAnyH_skipQ (i := 11) (by kernel_rfl) rfl rfl rfl (exec_storeQ (.tmp 15) (.tmp 44) _ _ rfl rfl rfl k1) gX ?_
           simp only [q1, q2, q3]
           refine wpAnyH_yieldD (some 16) (i := 12) (v := .int .i64 9) (by kernel_rfl) rfl rfl rfl (by unfold execOp; go_simp) gX ?_
           simp only [q0, q1, q2, q3]
           exact wpAnyH_done (by kernel_rfl) (HFN.out _ _ _ _ _ _ _ _ _ _ gX) _
       · clear hi
         have hYA : u3.heap.size ≠ gA := Ne.symm (Nat.ne_of_lt hA.lt)
         have hYb : V0.heap.size ≤ u3.heap.size := hS.size
         have hY := RowAt.new u3 T N zv Zc HZ.out
         refine op_yield (some 15) (v := .pointer (some ⟨u3.heap.size, 0, none⟩)) (w' := u3.alloc (.cells Zc T)) rfl rfl rfl (HAL.out _ _) (grown_alloc hS _) ?_
         simp only [q0, q1, q2, q3]
         have gn := World.grownBy_alloc u3 (.cells Zc T) none
         replace hS := grown_trans hS gn
         replace hA := hA.grown gn (by simp)
         replace hZ := hZ.grown gn (by simp)
         generalize u3.alloc (.cells Zc T) = u4 at *
         clear gn
         refine wpAnyH_one (i := 5) (by kernel_rfl) ?_
         obtain ⟨x2, u5, hap, ⟨ex⟩⟩ := app_run 1 39 hA hZ.rd (by have := HN4.out; omega)
         obtain ⟨gB, cB, rfl, hB, _, ga, _⟩ := ex
         refine op_yield (some 42) (v := .slice (some ⟨gB, 0, none⟩) (n + 1 : Nat) cB) (w' := u5) rfl rfl rfl (exec_appendQ _ _ _ _ _ rfl rfl rfl rfl hap) (grown_new hS ga hAb) ?_
         simp only [q0, q1, q2, q3]
         replace hY := hY.grown ga (fun e => hYA (by injection e))
         replace hS := grown_new hS ga hAb
         clear hap hA hZ ga
         refine wpAnyH_one (i := 6) (by kernel_rfl) ?_
         refine op_callR (R := fun v W => ∃ vv : Nat → Value, v = .tuple #[.agg (rowOf N vv), .int .i64 9] ∧ (∀ j, (vv j).oneCell' = true) ∧ u5.grownBy W none) (some 43) TAKE #[.agg cd, .slice (some ⟨gB, 0, none⟩) (n + 1 : Nat) cB] rfl rfl rfl (exec_fn2 _ _ _ _ _ rfl rfl rfl) HEN.out ((HTK.out u5 gB cB hS hB).mono fun e W h => by
          obtain ⟨vv, rfl, h1, h3⟩ := h
          exact ⟨_, rfl, vv, rfl, h1, h3⟩) ?_
         rintro v u6 ⟨vv, rfl, h1v, gn⟩
         replace hY := hY.grown gn (by simp)
         replace hS := grown_trans hS gn
         clear gn hB
         refine ⟨hS, ?_⟩
         simp only [q0, q1, q2, q3]
         refine wpAnyH_takeD (some 36) (i := 7) (v := (.tuple #[.agg (rowOf N vv), .int .i64 9])) rfl rfl (by kernel_rfl) (by kernel_rfl) (by kernel_rfl) (HQ.out _ _) (Or.inl ⟨rfl, fun _ _ => rfl⟩) hS ?_
         simp only [q0, q1, q2, q3]
         refine wpAnyH_takeD (some 44) (i := 8) (v := (.agg (rowOf N vv))) rfl rfl (by kernel_rfl) (by kernel_rfl) (by kernel_rfl) (HQ.out _ _) (Or.inl ⟨rfl, fun _ _ => by go_simp⟩) hS ?_
         simp only [q0, q1, q2, q3]
         refine wpAnyH_takeD (some 45) (i := 9) (v := (.int .i64 9)) rfl rfl (by kernel_rfl) (by kernel_rfl) (by kernel_rfl) (HQ.out _ _) (Or.inl ⟨rfl, fun _ _ => by go_simp⟩) hS ?_
         simp only [q0, q1, q2, q3]
         obtain ⟨k1, k2⟩ := RowAt.store (P := Try.prog) hY 0 T N vv (by omega) HSI.out (fun j _ => h1v j)
         have gX : V0.grownBy (u6.setCells u3.heap.size 0 (rowOf N vv).toList) none := grown_setCells u3.heap.size (Or.inl hYb) _ 0 _ hS
         refine wpAnyH_skipQ (i := 11) (by kernel_rfl) rfl rfl rfl (exec_storeQ (.tmp 15) (.tmp 44) _ _ rfl rfl rfl k1) gX ?_
         simp only [q1, q2, q3]
         refine wpAnyH_yieldD (some 16) (i := 12) (v := .int .i64 9) (by kernel_rfl) rfl rfl rfl (by unfold execOp; go_simp) gX ?_
         simp only [q0, q1, q2, q3]
         exact wpAnyH_done (by kernel_rfl) (HFN.out _ _ _ _ _ _ _ _ _ _ gX) _
     · clear hi
       have hYA : u2.heap.size ≠ gA := Ne.symm (Nat.ne_of_lt hA.lt)
       have hYb : V0.heap.size ≤ u2.heap.size := hS.size
       have hY := RowAt.new u2 T N zv Zc HZ.out
       refine op_yield (some 15) (v := .pointer (some ⟨u2.heap.size, 0, none⟩)) (w' := u2.alloc (.cells Zc T)) rfl rfl rfl (HAL.out _ _) (grown_alloc hS _) ?_
       simp only [q0, q1, q2, q3]
       have gn := World.grownBy_alloc u2 (.cells Zc T) none
       replace hS := grown_trans hS gn
       replace hA := hA.grown gn (by simp)
       generalize u2.alloc (.cells Zc T) = u3 at *
       clear gn
       refine wpAnyH_one (i := 4) (by kernel_rfl) ?_
       have hZ := ownR_one10 u3 0
       refine op_yield (some 41) (v := .slice (some ⟨u3.heap.size, 0, none⟩) 1 1) (w' := u3.alloc (.cells #[.int .u8 ((0 : Nat) : Int)] 5)) rfl rfl rfl (by unfold execOp; go_simp) (grown_alloc hS _) ?_
       simp only [q0, q1, q2, q3]
       have gn := World.grownBy_alloc u3 (.cells #[.int .u8 ((0 : Nat) : Int)] 5) none
       replace hS := grown_trans hS gn
       replace hA := hA.grown gn (by simp)
       replace hY := hY.grown gn (by simp)
       generalize u3.alloc (.cells #[.int .u8 ((0 : Nat) : Int)] 5) = u4 at *
       clear gn
       refine wpAnyH_one (i := 5) (by kernel_rfl) ?_
       obtain ⟨x2, u5, hap, ⟨ex⟩⟩ := app_run 1 39 hA hZ.rd (by have := HN4.out; omega)
       obtain ⟨gB, cB, rfl, hB, _, ga, _⟩ := ex
       refine op_yield (some 42) (v := .slice (some ⟨gB, 0, none⟩) (n + 1 : Nat) cB) (w' := u5) rfl rfl rfl (exec_appendQ _ _ _ _ _ rfl rfl rfl rfl hap) (grown_new hS ga hAb) ?_
       simp only [q0, q1, q2, q3]
       replace hY := hY.grown ga (fun e => hYA (by injection e))
       replace hS := grown_new hS ga hAb
       clear hap hA hZ ga
       refine wpAnyH_one (i := 6) (by kernel_rfl) ?_
       refine op_callR (R := fun v W => ∃ vv : Nat → Value, v = .tuple #[.agg (rowOf N vv), .int .i64 9] ∧ (∀ j, (vv j).oneCell' = true) ∧ u5.grownBy W none) (some 43) TAKE #[.agg cd, .slice (some ⟨gB, 0, none⟩) (n + 1 : Nat) cB] rfl rfl rfl (exec_fn2 _ _ _ _ _ rfl rfl rfl) HEN.out ((HTK.out u5 gB cB hS hB).mono fun e W h => by
        obtain ⟨vv, rfl, h1, h3⟩ := h
        exact ⟨_, rfl, vv, rfl, h1, h3⟩) ?_
       rintro v u6 ⟨vv, rfl, h1v, gn⟩
       replace hY := hY.grown gn (by simp)
       replace hS := grown_trans hS gn
       clear gn hB
       refine ⟨hS, ?_⟩
       simp only [q0, q1, q2, q3]
       refine wpAnyH_takeD (some 36) (i := 7) (v := (.tuple #[.agg (rowOf N vv), .int .i64 9])) rfl rfl (by kernel_rfl) (by kernel_rfl) (by kernel_rfl) (HQ.out _ _) (Or.inl ⟨rfl, fun _ _ => rfl⟩) hS ?_
       simp only [q0, q1, q2, q3]
       refine wpAnyH_takeD (some 44) (i := 8) (v := (.agg (rowOf N vv))) rfl rfl (by kernel_rfl) (by kernel_rfl) (by kernel_rfl) (HQ.out _ _) (Or.inl ⟨rfl, fun _ _ => by go_simp⟩) hS ?_
       simp only [q0, q1, q2, q3]
       refine wpAnyH_takeD (some 45) (i := 9) (v := (.int .i64 9)) rfl rfl (by kernel_rfl) (by kernel_rfl) (by kernel_rfl) (HQ.out _ _) (Or.inl ⟨rfl, fun _ _ => by go_simp⟩) hS ?_
       simp only [q0, q1, q2, q3]
       obtain ⟨k1, k2⟩ := RowAt.store (P := Try.prog) hY 0 T N vv (by omega) HSI.out (fun j _ => h1v j)
       have gX : V0.grownBy (u6.setCells u2.heap.size 0 (rowOf N vv).toList) none := grown_setCells u2.heap.size (Or.inl hYb) _ 0 _ hS
       refine wpAnyH_skipQ (i := 11) (by kernel_rfl) rfl rfl rfl (exec_storeQ (.tmp 15) (.tmp 44) _ _ rfl rfl rfl k1) gX ?_
       simp only [q1, q2, q3]
       refine wpAnyH_yieldD (some 16) (i := 12) (v := .int .i64 9) (by kernel_rfl) rfl rfl rfl (by unfold execOp; go_simp) gX ?_
       simp only [q0, q1, q2, q3]
       exact wpAnyH_done (by kernel_rfl) (HFN.out _ _ _ _ _ _ _ _ _ _ gX) _
   · clear hi
     have hZE : u1.heap.size ≠ V0.heap.size := Ne.symm (Nat.ne_of_lt hE.lt)
     have hZ := ownR_one10 u1 0
     refine op_yield (some 41) (v := .slice (some ⟨u1.heap.size, 0, none⟩) 1 1) (w' := u1.alloc (.cells #[.int .u8 ((0 : Nat) : Int)] 5)) rfl rfl rfl (by unfold execOp; go_simp) (grown_alloc hS _) ?_
     simp only [q0, q1, q2, q3]
     have gn := World.grownBy_alloc u1 (.cells #[.int .u8 ((0 : Nat) : Int)] 5) none
     replace hS := grown_trans hS gn
     replace hE := hE.grown gn (by simp)
     generalize u1.alloc (.cells #[.int .u8 ((0 : Nat) : Int)] 5) = u2 at *
     clear gn
     refine wpAnyH_all (rs := [3, 10]) (by kernel_rfl) (by simp) fun i hi => ?_
     rcases (by simpa using hi : i = 3 ∨ i = 10) with rfl | rfl
     · clear hi
       obtain ⟨x1, u3, hap, ⟨ex⟩⟩ := app_run cp 39 hE (HRp.out.grown hS (by simp)) (by have := HN4.out; omega)
       obtain ⟨gA, cA, rfl, hA, _, ga, qa⟩ := ex
       rw [Nat.zero_add] at hap hA
       refine op_yield (some 40) (v := .slice (some ⟨gA, 0, none⟩) n cA) (w' := u3) rfl rfl rfl (exec_appendQ _ _ _ _ _ rfl rfl rfl rfl hap) (grown_new hS ga hEb) ?_
       simp only [q0, q1, q2, q3]
       have hsz := hS.size
       have hAb : V0.heap.size ≤ gA := by rcases qa with qa | qa <;> omega
       replace hZ := hZ.grown ga (fun e => hZE (by injection e))
       replace hS := grown_new hS ga hEb
       clear hap hE ga qa hsz
       refine wpAnyH_all (rs := [5, 10]) (by kernel_rfl) (by simp) fun i hi => ?_
       rcases (by simpa using hi : i = 5 ∨ i = 10) with rfl | rfl
       · clear hi
         obtain ⟨x2, u4, hap, ⟨ex⟩⟩ := app_run 1 39 hA hZ.rd (by have := HN4.out; omega)
         obtain ⟨gB, cB, rfl, hB, _, ga, _⟩ := ex
         refine op_yield (some 42) (v := .slice (some ⟨gB, 0, none⟩) (n + 1 : Nat) cB) (w' := u4) rfl rfl rfl (exec_appendQ _ _ _ _ _ rfl rfl rfl rfl hap) (grown_new hS ga hAb) ?_
         simp only [q0, q1, q2, q3]
         replace hS := grown_new hS ga hAb
         clear hap hA hZ ga
         refine wpAnyH_all (rs := [6, 10]) (by kernel_rfl) (by simp) fun i hi => ?_
         rcases (by simpa using hi : i = 6 ∨ i = 10) with rfl | rfl
         · clear hi
           refine op_callR (R := fun v W => ∃ vv : Nat → Value, v = .tuple #[.agg (rowOf N vv), .int .i64 9] ∧ (∀ j, (vv j).oneCell' = true) ∧ u4.grownBy W none) (some 43) TAKE #[.agg cd, .slice (some ⟨gB, 0, none⟩) (n + 1 : Nat) cB] rfl rfl rfl (exec_fn2 _ _ _ _ _ rfl rfl rfl) HEN.out ((HTK.out u4 gB cB hS hB).mono fun e W h => by
            obtain ⟨vv, rfl, h1, h3⟩ := h
            exact ⟨_, rfl, vv, rfl, h1, h3⟩) ?_
           rintro v u5 ⟨vv, rfl, h1v, gn⟩
           replace hS := grown_trans hS gn
           clear gn hB
           refine ⟨hS, ?_⟩
           simp only [q0, q1, q2, q3]
           refine wpAnyH_takeD (some 36) (i := 7) (v := (.tuple #[.agg (rowOf N vv), .int .i64 9])) rfl rfl (by kernel_rfl) (by kernel_rfl) (by kernel_rfl) (HQ.out _ _) (Or.inl ⟨rfl, fun _ _ => rfl⟩) hS ?_
           simp only [q0, q1, q2, q3]
           refine wpAnyH_takeD (some 44) (i := 8) (v := (.agg (rowOf N vv))) rfl rfl (by kernel_rfl) (by kernel_rfl) (by kernel_rfl) (HQ.out _ _) (Or.inl ⟨rfl, fun _ _ => by go_simp⟩) hS ?_
           simp only [q0, q1, q2, q3]
           refine wpAnyH_takeD (some 45) (i := 9) (v := (.int .i64 9)) rfl rfl (by kernel_rfl) (by kernel_rfl) (by kernel_rfl) (HQ.out _ _) (Or.inl ⟨rfl, fun _ _ => by go_simp⟩) hS ?_
           simp only [q0, q1, q2, q3]
           refine wpAnyH_one (i := 10) (by kernel_rfl) ?_
           have hYb : V0.heap.size ≤ u5.heap.size := hS.size
           have hY := RowAt.new u5 T N zv Zc HZ.out
           refine op_yield (some 15) (v := .pointer (some ⟨u5.heap.size, 0, none⟩)) (w' := u5.alloc (.cells Zc T)) rfl rfl rfl (HAL.out _ _) (grown_alloc hS _) ?_
           simp only [q0, q1, q2, q3]
           have gn := World.grownBy_alloc u5 (.cells Zc T) none
           replace hS := grown_trans hS gn
           generalize u5.alloc (.cells Zc T) = u6 at *
           clear gn
           obtain ⟨k1, k2⟩ := RowAt.store (P := Try.prog) hY 0 T N vv (by omega) HSI.out (fun j _ => h1v j)
           have gX : V0.grownBy (u6.setCells u5.heap.size 0 (rowOf N vv).toList) none := grown_setCells u5.heap.size (Or.inl hYb) _ 0 _ hS
           refine wpAnyH_skipQ (i := 11) (by kernel_rfl) rfl rfl rfl (exec_storeQ (.tmp 15) (.tmp 44) _ _ rfl rfl rfl k1) gX ?_
           simp only [q1, q2, q3]
           refine wpAnyH_yieldD (some 16) (i := 12) (v := .int .i64 9) (by kernel_rfl) rfl rfl rfl (by unfold execOp; go_simp) gX ?_
           simp only [q0, q1, q2, q3]
           exact wpAnyH_done (by kernel_rfl) (HFN.out _ _ _ _ _ _ _ _ _ _ gX) _
         · clear hi
           have hYb : V0.heap.size ≤ u4.heap.size := hS.size
           have hY := RowAt.new u4 T N zv Zc HZ.out
           refine op_yield (some 15) (v := .pointer (some ⟨u4.heap.size, 0, none⟩)) (w' := u4.alloc (.cells Zc T)) rfl rfl rfl (HAL.out _ _) (grown_alloc hS _) ?_
           simp only [q0, q1, q2, q3]
           have gn := World.grownBy_alloc u4 (.cells Zc T) none
           replace hS := grown_trans hS gn
           replace hB := hB.grown gn (by simp)
           generalize u4.alloc (.cells Zc T) = u5 at *
           clear gn
           refine wpAnyH_one (i := 6) (by kernel_rfl) ?_
           refine op_callR (R := fun v W => ∃ vv : Nat → Value, v = .tuple #[.agg (rowOf N vv), .int .i64 9] ∧ (∀ j, (vv j).oneCell' = true) ∧ u5.grownBy W none) (some 43) TAKE #[.agg cd, .slice (some ⟨gB, 0, none⟩) (n + 1 : Nat) cB] rfl rfl rfl (exec_fn2 _ _ _ _ _ rfl rfl rfl) HEN.out ((HTK.out u5 gB cB hS hB).mono fun e W h => by
            obtain ⟨vv, rfl, h1, h3⟩ := h
            exact ⟨_, rfl, vv, rfl, h1, h3⟩) ?_
           rintro v u6 ⟨vv, rfl, h1v, gn⟩
           replace hY := hY.grown gn (by simp)
           replace hS := grown_trans hS gn
           clear gn hB
           refine ⟨hS, ?_⟩
           simp only [q0, q1, q2, q3]
           refine wpAnyH_takeD (some 36) (i := 7) (v := (.tuple #[.agg (rowOf N vv), .int .i64 9])) rfl rfl (by kernel_rfl) (by kernel_rfl) (by kernel_rfl) (HQ.out _ _) (Or.inl ⟨rfl, fun _ _ => rfl⟩) hS ?_
           simp only [q0, q1, q2, q3]
           refine wpAnyH_takeD (some 44) (i := 8) (v := (.agg (rowOf N vv))) rfl rfl (by kernel_rfl) (by kernel_rfl) (by kernel_rfl) (HQ.out _ _) (Or.inl ⟨rfl, fun _ _ => by go_simp⟩) hS ?_
           simp only [q0, q1, q2, q3]
           refine wpAnyH_takeD (some 45) (i := 9) (v := (.int .i64 9)) rfl rfl (by kernel_rfl) (by kernel_rfl) (by kernel_rfl) (HQ.out _ _) (Or.inl ⟨rfl, fun _ _ => by go_simp⟩) hS ?_
           simp only [q0, q1, q2, q3]
           obtain ⟨k1, k2⟩ := RowAt.store (P := Try.prog) hY 0 T N vv (by omega) HSI.out (fun j _ => h1v j)
           have gX : V0.grownBy (u6.setCells u4.heap.size 0 (rowOf N vv).toList) none := grown_setCells u4.heap.size (Or.inl hYb) _ 0 _ hS
           refine wpAnyH_skipQ (i := 11) (by kernel_rfl) rfl rfl rfl (exec_storeQ (.tmp 15) (.tmp 44) _ _ rfl rfl rfl k1) gX ?_
           simp only [q1, q2, q3]
           refine wpAnyH_yieldD (some 16) (i := 12) (v := .int .i64 9) (by kernel_rfl) rfl rfl rfl (by unfold execOp; go_simp) gX ?_
           simp only [q0, q1, q2, q3]
           exact wpAnyH_done (by kernel_rfl) (HFN.out _ _ _ _ _ _ _ _ _ _ gX) _
       · clear hi
         have hYA : u3.heap.size ≠ gA := Ne.symm (Nat.ne_of_lt hA.lt)
         have hYb : V0.heap.size ≤ u3.heap.size := hS.size
         have hY := RowAt.new u3 T N zv Zc HZ.out
         refine op_yield (some 15) (v := .pointer (some ⟨u3.heap.size, 0, none⟩)) (w' := u3.alloc (.cells Zc T)) rfl rfl rfl (HAL.out _ _) (grown_alloc hS _) ?_
         simp only [q0, q1, q2, q3]
         have gn := World.grownBy_alloc u3 (.cells Zc T) none
         replace hS := grown_trans hS gn
         replace hA := hA.grown gn (by simp)
         replace hZ := hZ.grown gn (by simp)
         generalize u3.alloc (.cells Zc T) = u4 at *
         clear gn
         refine wpAnyH_one (i := 5) (by kernel_rfl) ?_
         obtain ⟨x2, u5, hap, ⟨ex⟩⟩ := app_run 1 39 hA hZ.rd (by have := HN4.out; omega)
         obtain ⟨gB, cB, rfl, hB, _, ga, _⟩ := ex
         refine op_yield (some 42) (v := .slice (some ⟨gB, 0, none⟩) (n + 1 : Nat) cB) (w' := u5) rfl rfl rfl (exec_appendQ _ _ _ _ _ rfl rfl rfl rfl hap) (grown_new hS ga hAb) ?_
         simp only [q0, q1, q2, q3]
         replace hY := hY.grown ga (fun e => hYA (by injection e))
         replace hS := grown_new hS ga hAb
         clear hap hA hZ ga
         refine wpAnyH_one (i := 6) (by kernel_rfl) ?_
         refine op_callR (R := fun v W => ∃ vv : Nat → Value, v = .tuple #[.agg (rowOf N vv), .int .i64 9] ∧ (∀ j, (vv j).oneCell' = true) ∧ u5.grownBy W none) (some 43) TAKE #[.agg cd, .slice (some ⟨gB, 0, none⟩) (n + 1 : Nat) cB] rfl rfl rfl (exec_fn2 _ _ _ _ _ rfl rfl rfl) HEN.out ((HTK.out u5 gB cB hS hB).mono fun e W h => by
          obtain ⟨vv, rfl, h1, h3⟩ := h
          exact ⟨_, rfl, vv, rfl, h1, h3⟩) ?_
         rintro v u6 ⟨vv, rfl, h1v, gn⟩
         replace hY := hY.grown gn (by simp)
         replace hS := grown_trans hS gn
         clear gn hB
         refine ⟨hS, ?_⟩
         simp only [q0, q1, q2, q3]
         refine wpAnyH_takeD (some 36) (i := 7) (v := (.tuple #[.agg (rowOf N vv), .int .i64 9])) rfl rfl (by kernel_rfl) (by kernel_rfl) (by kernel_rfl) (HQ.out _ _) (Or.inl ⟨rfl, fun _ _ => rfl⟩) hS ?_
         simp only [q0, q1, q2, q3]
         refine wpAnyH_takeD (some 44) (i := 8) (v := (.agg (rowOf N vv))) rfl rfl (by kernel_rfl) (by kernel_rfl) (by kernel_rfl) (HQ.out _ _) (Or.inl ⟨rfl, fun _ _ => by go_simp⟩) hS ?_
         simp only [q0, q1, q2, q3]
         refine wpAnyH_takeD (some 45) (i := 9) (v := (.int .i64 9)) rfl rfl (by kernel_rfl) (by kernel_rfl) (by kernel_rfl) (HQ.out _ _) (Or.inl ⟨rfl, fun _ _ => by go_simp⟩) hS ?_
         simp only [q0, q1, q2, q3]
         obtain ⟨k1, k2⟩ := RowAt.store (P := Try.prog) hY 0 T N vv (by omega) HSI.out (fun j _ => h1v j)
         have gX : V0.grownBy (u6.setCells u3.heap.size 0 (rowOf N vv).toList) none := grown_setCells u3.heap.size (Or.inl hYb) _ 0 _ hS
         refine wpAnyH_skipQ (i := 11) (by kernel_rfl) rfl rfl rfl (exec_storeQ (.tmp 15) (.tmp 44) _ _ rfl rfl rfl k1) gX ?_
         simp only [q1, q2, q3]
         refine wpAnyH_yieldD (some 16) (i := 12) (v := .int .i64 9) (by kernel_rfl) rfl rfl rfl (by unfold execOp; go_simp) gX ?_
         simp only [q0, q1, q2, q3]
         exact wpAnyH_done (by kernel_rfl) (HFN.out _ _ _ _ _ _ _ _ _ _ gX) _
     · clear hi
       have hYE : u2.heap.size ≠ V0.heap.size := Ne.symm (Nat.ne_of_lt hE.lt)
       have hYb : V0.heap.size ≤ u2.heap.size := hS.size
       have hY := RowAt.new u2 T N zv Zc HZ.out
       refine op_yield (some 15) (v := .pointer (some ⟨u2.heap.size, 0, none⟩)) (w' := u2.alloc (.cells Zc T)) rfl rfl rfl (HAL.out _ _) (grown_alloc hS _) ?_
       simp only [q0, q1, q2, q3]
       have gn := World.grownBy_alloc u2 (.cells Zc T) none
       replace hS := grown_trans hS gn
       replace hE := hE.grown gn (by simp)
       replace hZ := hZ.grown gn (by simp)
       generalize u2.alloc (.cells Zc T) = u3 at *
       clear gn
       refine wpAnyH_one (i := 3) (by kernel_rfl) ?_
       obtain ⟨x1, u4, hap, ⟨ex⟩⟩ := app_run cp 39 hE (HRp.out.grown hS (by simp)) (by have := HN4.out; omega)
       obtain ⟨gA, cA, rfl, hA, _, ga, qa⟩ := ex
       rw [Nat.zero_add] at hap hA
       refine op_yield (some 40) (v := .slice (some ⟨gA, 0, none⟩) n cA) (w' := u4) rfl rfl rfl (exec_appendQ _ _ _ _ _ rfl rfl rfl rfl hap) (grown_new hS ga hEb) ?_
       simp only [q0, q1, q2, q3]
       have hsz := hS.size
       have hAb : V0.heap.size ≤ gA := by rcases qa with qa | qa <;> omega
       replace hZ := hZ.grown ga (fun e => hZE (by injection e))
       have hYl := hY.lt
       have hYA : u2.heap.size ≠ gA := by rcases qa with qa | qa <;> omega
       replace hY := hY.grown ga (fun e => hYE (by injection e))
       replace hS := grown_new hS ga hEb
       clear hap hE ga qa hsz hYl
       refine wpAnyH_one (i := 5) (by kernel_rfl) ?_
       obtain ⟨x2, u5, hap, ⟨ex⟩⟩ := app_run 1 39 hA hZ.rd (by have := HN4.out; omega)
       obtain ⟨gB, cB, rfl, hB, _, ga, _⟩ := ex
       refine op_yield (some 42) (v := .slice (some ⟨gB, 0, none⟩) (n + 1 : Nat) cB) (w' := u5) rfl rfl rfl (exec_appendQ _ _ _ _ _ rfl rfl rfl rfl hap) (grown_new hS ga hAb) ?_
       simp only [q0, q1, q2, q3]
       replace hY := hY.grown ga (fun e => hYA (by injection e))
       replace hS := grown_new hS ga hAb
       clear hap hA hZ ga
       refine wpAnyH_one (i := 6) (by kernel_rfl) ?_
       refine op_callR (R := fun v W => ∃ vv : Nat → Value, v = .tuple #[.agg (rowOf N vv), .int .i64 9] ∧ (∀ j, (vv j).oneCell' = true) ∧ u5.grownBy W none) (some 43) TAKE #[.agg cd, .slice (some ⟨gB, 0, none⟩) (n + 1 : Nat) cB] rfl rfl rfl (exec_fn2 _ _ _ _ _ rfl rfl rfl) HEN.out ((HTK.out u5 gB cB hS hB).mono fun e W h => by
        obtain ⟨vv, rfl, h1, h3⟩ := h
        exact ⟨_, rfl, vv, rfl, h1, h3⟩) ?_
       rintro v u6 ⟨vv, rfl, h1v, gn⟩
       replace hY := hY.grown gn (by simp)
       replace hS := grown_trans hS gn
       clear gn hB
       refine ⟨hS, ?_⟩
       simp only [q0, q1, q2, q3]
       refine wpAnyH_takeD (some 36) (i := 7) (v := (.tuple #[.agg (rowOf N vv), .int .i64 9])) rfl rfl (by kernel_rfl) (by kernel_rfl) (by kernel_rfl) (HQ.out _ _) (Or.inl ⟨rfl, fun _ _ => rfl⟩) hS ?_
       simp only [q0, q1, q2, q3]
       refine wpAnyH_takeD (some 44) (i := 8) (v := (.agg (rowOf N vv))) rfl rfl (by kernel_rfl) (by kernel_rfl) (by kernel_rfl) (HQ.out _ _) (Or.inl ⟨rfl, fun _ _ => by go_simp⟩) hS ?_
       simp only [q0, q1, q2, q3]
       refine wpAnyH_takeD (some 45) (i := 9) (v := (.int .i64 9)) rfl rfl (by kernel_rfl) (by kernel_rfl) (by kernel_rfl) (HQ.out _ _) (Or.inl ⟨rfl, fun _ _ => by go_simp⟩) hS ?_
       simp only [q0, q1, q2, q3]
       obtain ⟨k1, k2⟩ := RowAt.store (P := Try.prog) hY 0 T N vv (by omega) HSI.out (fun j _ => h1v j)
       have gX : V0.grownBy (u6.setCells u2.heap.size 0 (rowOf N vv).toList) none := grown_setCells u2.heap.size (Or.inl hYb) _ 0 _ hS
       refine wpAnyH_skipQ (i := 11) (by kernel_rfl) rfl rfl rfl (exec_storeQ (.tmp 15) (.tmp 44) _ _ rfl rfl rfl k1) gX ?_
       simp only [q1, q2, q3]
       refine wpAnyH_yieldD (some 16) (i := 12) (v := .int .i64 9) (by kernel_rfl) rfl rfl rfl (by unfold execOp; go_simp) gX ?_
       simp only [q0, q1, q2, q3]
       exact wpAnyH_done (by kernel_rfl) (HFN.out _ _ _ _ _ _ _ _ _ _ gX) _
   · clear hi
     have hYE : u1.heap.size ≠ V0.heap.size := Ne.symm (Nat.ne_of_lt hE.lt)
     have hYb : V0.heap.size ≤ u1.heap.size := hS.size
     have hY := RowAt.new u1 T N zv Zc HZ.out
     refine op_yield (some 15) (v := .pointer (some ⟨u1.heap.size, 0, none⟩)) (w' := u1.alloc (.cells Zc T)) rfl rfl rfl (HAL.out _ _) (grown_alloc hS _) ?_
     simp only [q0, q1, q2, q3]
     have gn := World.grownBy_alloc u1 (.cells Zc T) none
     replace hS := grown_trans hS gn
     replace hE := hE.grown gn (by simp)
     generalize u1.alloc (.cells Zc T) = u2 at *
     clear gn
     refine wpAnyH_all (rs := [3, 4]) (by kernel_rfl) (by simp) fun i hi => ?_
     rcases (by simpa using hi : i = 3 ∨ i = 4) with rfl | rfl
     · clear hi
       obtain ⟨x1, u3, hap, ⟨ex⟩⟩ := app_run cp 39 hE (HRp.out.grown hS (by simp)) (by have := HN4.out; omega)
       obtain ⟨gA, cA, rfl, hA, _, ga, qa⟩ := ex
       rw [Nat.zero_add] at hap hA
       refine op_yield (some 40) (v := .slice (some ⟨gA, 0, none⟩) n cA) (w' := u3) rfl rfl rfl (exec_appendQ _ _ _ _ _ rfl rfl rfl rfl hap) (grown_new hS ga hEb) ?_
       simp only [q0, q1, q2, q3]
       have hsz := hS.size
       have hAb : V0.heap.size ≤ gA := by rcases qa with qa | qa <;> omega
       have hYl := hY.lt
       have hYA : u1.heap.size ≠ gA := by rcases qa with qa | qa <;> omega
       replace hY := hY.grown ga (fun e => hYE (by injection e))
       replace hS := grown_new hS ga hEb
       clear hap hE ga qa hsz hYl
       refine wpAnyH_one (i := 4) (by kernel_rfl) ?_
       have hZ := ownR_one10 u3 0
       refine op_yield (some 41) (v := .slice (some ⟨u3.heap.size, 0, none⟩) 1 1) (w' := u3.alloc (.cells #[.int .u8 ((0 : Nat) : Int)] 5)) rfl rfl rfl (by unfold execOp; go_simp) (grown_alloc hS _) ?_
       simp only [q0, q1, q2, q3]
       have gn := World.grownBy_alloc u3 (.cells #[.int .u8 ((0 : Nat) : Int)] 5) none
       replace hS := grown_trans hS gn
       replace hA := hA.grown gn (by simp)
       replace hY := hY.grown gn (by simp)
       generalize u3.alloc (.cells #[.int .u8 ((0 : Nat) : Int)] 5) = u4 at *
       clear gn
       refine wpAnyH_one (i := 5) (by kernel_rfl) ?_
       obtain ⟨x2, u5, hap, ⟨ex⟩⟩ := app_run 1 39 hA hZ.rd (by have := HN4.out; omega)
       obtain ⟨gB, cB, rfl, hB, _, ga, _⟩ := ex
       refine op_yield (some 42) (v := .slice (some ⟨gB, 0, none⟩) (n + 1 : Nat) cB) (w' := u5) rfl rfl rfl (exec_appendQ _ _ _ _ _ rfl rfl rfl rfl hap) (grown_new hS ga hAb) ?_
       simp only [q0, q1, q2, q3]
       replace hY := hY.grown ga (fun e => hYA (by injection e))
       replace hS := grown_new hS ga hAb
       clear hap hA hZ ga
       refine wpAnyH_one (i := 6) (by kernel_rfl) ?_
       refine op_callR (R := fun v W => ∃ vv : Nat → Value, v = .tuple #[.agg (rowOf N vv), .int .i64 9] ∧ (∀ j, (vv j).oneCell' = true) ∧ u5.grownBy W none) (some 43) TAKE #[.agg cd, .slice (some ⟨gB, 0, none⟩) (n + 1 : Nat) cB] rfl rfl rfl (exec_fn2 _ _ _ _ _ rfl rfl rfl) HEN.out ((HTK.out u5 gB cB hS hB).mono fun e W h => by
        obtain ⟨vv, rfl, h1, h3⟩ := h
        exact ⟨_, rfl, vv, rfl, h1, h3⟩) ?_
       rintro v u6 ⟨vv, rfl, h1v, gn⟩
       replace hY := hY.grown gn (by simp)
       replace hS := grown_trans hS gn
       clear gn hB
       refine ⟨hS, ?_⟩
       simp only [q0, q1, q2, q3]
       refine wpAnyH_takeD (some 36) (i := 7) (v := (.tuple #[.agg (rowOf N vv), .int .i64 9])) rfl rfl (by kernel_rfl) (by kernel_rfl) (by kernel_rfl) (HQ.out _ _) (Or.inl ⟨rfl, fun _ _ => rfl⟩) hS ?_
       simp only [q0, q1, q2, q3]
       refine wpAnyH_takeD (some 44) (i := 8) (v := (.agg (rowOf N vv))) rfl rfl (by kernel_rfl) (by kernel_rfl) (by kernel_rfl) (HQ.out _ _) (Or.inl ⟨rfl, fun _ _ => by go_simp⟩) hS ?_
       simp only [q0, q1, q2, q3]
       refine wpAnyH_takeD (some 45) (i := 9) (v := (.int .i64 9)) rfl rfl (by kernel_rfl) (by kernel_rfl) (by kernel_rfl) (HQ.out _ _) (Or.inl ⟨rfl, fun _ _ => by go_simp⟩) hS ?_
       simp only [q0, q1, q2, q3]
       obtain ⟨k1, k2⟩ := RowAt.store (P := Try.prog) hY 0 T N vv (by omega) HSI.out (fun j _ => h1v j)
       have gX : V0.grownBy (u6.setCells u1.heap.size 0 (rowOf N vv).toList) none := grown_setCells u1.heap.size (Or.inl hYb) _ 0 _ hS
       refine wpAnyH_skipQ (i := 11) (by kernel_rfl) rfl rfl rfl (exec_storeQ (.tmp 15) (.tmp 44) _ _ rfl rfl rfl k1) gX ?_
       simp only [q1, q2, q3]
       refine wpAnyH_yieldD (some 16) (i := 12) (v := .int .i64 9) (by kernel_rfl) rfl rfl rfl (by unfold execOp; go_simp) gX ?_
       simp only [q0, q1, q2, q3]
       exact wpAnyH_done (by kernel_rfl) (HFN.out _ _ _ _ _ _ _ _ _ _ gX) _
     · clear hi
       have hZE : u2.heap.size ≠ V0.heap.size := Ne.symm (Nat.ne_of_lt hE.lt)
       have hZ := ownR_one10 u2 0
       refine op_yield (some 41) (v := .slice (some ⟨u2.heap.size, 0, none⟩) 1 1) (w' := u2.alloc (.cells #[.int .u8 ((0 : Nat) : Int)] 5)) rfl rfl rfl (by unfold execOp; go_simp) (grown_alloc hS _) ?_
       simp only [q0, q1, q2, q3]
       have gn := World.grownBy_alloc u2 (.cells #[.int .u8 ((0 : Nat) : Int)] 5) none
       replace hS := grown_trans hS gn
       replace hE := hE.grown gn (by simp)
       replace hY := hY.grown gn (by simp)
       generalize u2.alloc (.cells #[.int .u8 ((0 : Nat) : Int)] 5) = u3 at *
       clear gn
       refine wpAnyH_one (i := 3) (by kernel_rfl) ?_
       obtain ⟨x1, u4, hap, ⟨ex⟩⟩ := app_run cp 39 hE (HRp.out.grown hS (by simp)) (by have := HN4.out; omega)
       obtain ⟨gA, cA, rfl, hA, _, ga, qa⟩ := ex
       rw [Nat.zero_add] at hap hA
       refine op_yield (some 40) (v := .slice (some ⟨gA, 0, none⟩) n cA) (w' := u4) rfl rfl rfl (exec_appendQ _ _ _ _ _ rfl rfl rfl rfl hap) (grown_new hS ga hEb) ?_
       simp only [q0, q1, q2, q3]
       have hsz := hS.size
       have hAb : V0.heap.size ≤ gA := by rcases qa with qa | qa <;> omega
       replace hZ := hZ.grown ga (fun e => hZE (by injection e))
       have hYl := hY.lt
       have hYA : u1.heap.size ≠ gA := by rcases qa with qa | qa <;> omega
       replace hY := hY.grown ga (fun e => hYE (by injection e))
       replace hS := grown_new hS ga hEb
       clear hap hE ga qa hsz hYl
       refine wpAnyH_one (i := 5) (by kernel_rfl) ?_
       obtain ⟨x2, u5, hap, ⟨ex⟩⟩ := app_run 1 39 hA hZ.rd (by have := HN4.out; omega)
       obtain ⟨gB, cB, rfl, hB, _, ga, _⟩ := ex
       refine op_yield (some 42) (v := .slice (some ⟨gB, 0, none⟩) (n + 1 : Nat) cB) (w' := u5) rfl rfl rfl (exec_appendQ _ _ _ _ _ rfl rfl rfl rfl hap) (grown_new hS ga hAb) ?_
       simp only [q0, q1, q2, q3]
       replace hY := hY.grown ga (fun e => hYA (by injection e))
       replace hS := grown_new hS ga hAb
       clear hap hA hZ ga
       refine wpAnyH_one (i := 6) (by kernel_rfl) ?_
       refine op_callR (R := fun v W => ∃ vv : Nat → Value, v = .tuple #[.agg (rowOf N vv), .int .i64 9] ∧ (∀ j, (vv j).oneCell' = true) ∧ u5.grownBy W none) (some 43) TAKE #[.agg cd, .slice (some ⟨gB, 0, none⟩) (n + 1 : Nat) cB] rfl rfl rfl (exec_fn2 _ _ _ _ _ rfl rfl rfl) HEN.out ((HTK.out u5 gB cB hS hB).mono fun e W h => by
        obtain ⟨vv, rfl, h1, h3⟩ := h
        exact ⟨_, rfl, vv, rfl, h1, h3⟩) ?_
       rintro v u6 ⟨vv, rfl, h1v, gn⟩
       replace hY := hY.grown gn (by simp)
       replace hS := grown_trans hS gn
       clear gn hB
       refine ⟨hS, ?_⟩
       simp only [q0, q1, q2, q3]
       refine wpAnyH_takeD (some 36) (i := 7) (v := (.tuple #[.agg (rowOf N vv), .int .i64 9])) rfl rfl (by kernel_rfl) (by kernel_rfl) (by kernel_rfl) (HQ.out _ _) (Or.inl ⟨rfl, fun _ _ => rfl⟩) hS ?_
       simp only [q0, q1, q2, q3]
       refine wpAnyH_takeD (some 44) (i := 8) (v := (.agg (rowOf N vv))) rfl rfl (by kernel_rfl) (by kernel_rfl) (by kernel_rfl) (HQ.out _ _) (Or.inl ⟨rfl, fun _ _ => by go_simp⟩) hS ?_
       simp only [q0, q1, q2, q3]
       refine wpAnyH_takeD (some 45) (i := 9) (v := (.int .i64 9)) rfl rfl (by kernel_rfl) (by kernel_rfl) (by kernel_rfl) (HQ.out _ _) (Or.inl ⟨rfl, fun _ _ => by go_simp⟩) hS ?_
       simp only [q0, q1, q2, q3]
       obtain ⟨k1, k2⟩ := RowAt.store (P := Try.prog) hY 0 T N vv (by omega) HSI.out (fun j _ => h1v j)
       have gX : V0.grownBy (u6.setCells u1.heap.size 0 (rowOf N vv).toList) none := grown_setCells u1.heap.size (Or.inl hYb) _ 0 _ hS
       refine wpAnyH_skipQ (i := 11) (by kernel_rfl) rfl rfl rfl (exec_storeQ (.tmp 15) (.tmp 44) _ _ rfl rfl rfl k1) gX ?_
       simp only [q1, q2, q3]
       refine wpAnyH_yieldD (some 16) (i := 12) (v := .int .i64 9) (by kernel_rfl) rfl rfl rfl (by unfold execOp; go_simp) gX ?_
       simp only [q0, q1, q2, q3]
       exact wpAnyH_done (by kernel_rfl) (HFN.out _ _ _ _ _ _ _ _ _ _ gX) _
 · clear hi
   have hZ := ownR_one10 V0 0
   refine op_yield (some 41) (v := .slice (some ⟨V0.heap.size, 0, none⟩) 1 1) (w' := V0.alloc (.cells #[.int .u8 ((0 : Nat) : Int)] 5)) rfl rfl rfl (by unfold execOp; go_simp) (grown_alloc hS _) ?_
   simp only [q0, q1, q2, q3]
   have gn := World.grownBy_alloc V0 (.cells #[.int .u8 ((0 : Nat) : Int)] 5) none
   replace hS := grown_trans hS gn
   generalize V0.alloc (.cells #[.int .u8 ((0 : Nat) : Int)] 5) = u1 at *
   clear gn
   refine wpAnyH_all (rs := [1, 10]) (by kernel_rfl) (by simp) fun i hi => ?_
   rcases (by simpa using hi : i = 1 ∨ i = 10) with rfl | rfl
   · clear hi
     have hZE : V0.heap.size ≠ u1.heap.size := Nat.ne_of_lt hZ.lt
     have hEb : V0.heap.size ≤ u1.heap.size := hS.size
     have hE := ownR_empty u1
     refine op_yield (some 38) (v := .slice (some ⟨u1.heap.size, 0, none⟩) 0 0) (w' := u1.alloc (.cells #[] 5)) rfl rfl rfl (by unfold execOp; go_simp) (grown_alloc hS _) ?_
     simp only [q0, q1, q2, q3]
     have gn := World.grownBy_alloc u1 (.cells #[] 5) none
     replace hS := grown_trans hS gn
     replace hZ := hZ.grown gn (by simp)
     generalize u1.alloc (.cells #[] 5) = u2 at *
     clear gn
     refine wpAnyH_all (rs := [3, 10]) (by kernel_rfl) (by simp) fun i hi => ?_
     rcases (by simpa using hi : i = 3 ∨ i = 10) with rfl | rfl
     · clear hi
       obtain ⟨x1, u3, hap, ⟨ex⟩⟩ := app_run cp 39 hE (HRp.out.grown hS (by simp)) (by have := HN4.out; omega)
       obtain ⟨gA, cA, rfl, hA, _, ga, qa⟩ := ex
       rw [Nat.zero_add] at hap hA
       refine op_yield (some 40) (v := .slice (some ⟨gA, 0, none⟩) n cA) (w' := u3) rfl rfl rfl (exec_appendQ _ _ _ _ _ rfl rfl rfl rfl hap) (grown_new hS ga hEb) ?_
       simp only [q0, q1, q2, q3]
       have hsz := hS.size
       have hAb : V0.heap.size ≤ gA := by rcases qa with qa | qa <;> omega
       replace hZ := hZ.grown ga (fun e => hZE (by injection e))
       replace hS := grown_new hS ga hEb
       clear hap hE ga qa hsz
       refine wpAnyH_all (rs := [5, 10]) (by kernel_rfl) (by simp) fun i hi => ?_
       rcases (by simpa using hi : i = 5 ∨ i = 10) with rfl | rfl
       · clear hi
         obtain ⟨x2, u4, hap, ⟨ex⟩⟩ := app_run 1 39 hA hZ.rd (by have := HN4.out; omega)
         obtain ⟨gB, cB, rfl, hB, _, ga, _⟩ := ex
         refine op_yield (some 42) (v := .slice (some ⟨gB, 0, none⟩) (n + 1 : Nat) cB) (w' := u4) rfl rfl rfl (exec_appendQ _ _ _ _ _ rfl rfl rfl rfl hap) (grown_new hS ga hAb) ?_
         simp only [q0, q1, q2, q3]
         replace hS := grown_new hS ga hAb
         clear hap hA hZ ga
         refine wpAnyH_all (rs := [6, 10]) (by kernel_rfl) (by simp) fun i hi => ?_
         rcases (by simpa using hi : i = 6 ∨ i = 10) with rfl | rfl
         · clear hi
           refine op_callR (R := fun v W => ∃ vv : Nat → Value, v = .tuple #[.agg (rowOf N vv), .int .i64 9] ∧ (∀ j, (vv j).oneCell' = true) ∧ u4.grownBy W none) (some 43) TAKE #[.agg cd, .slice (some ⟨gB, 0, none⟩) (n + 1 : Nat) cB] rfl rfl rfl (exec_fn2 _ _ _ _ _ rfl rfl rfl) HEN.out ((HTK.out u4 gB cB hS hB).mono fun e W h => by
            obtain ⟨vv, rfl, h1, h3⟩ := h
            exact ⟨_, rfl, vv, rfl, h1, h3⟩) ?_
           rintro v u5 ⟨vv, rfl, h1v, gn⟩
           replace hS := grown_trans hS gn
           clear gn hB
           refine ⟨hS, ?_⟩
           simp only [q0, q1, q2, q3]
           refine wpAnyH_takeD (some 36) (i := 7) (v := (.tuple #[.agg (rowOf N vv), .int .i64 9])) rfl rfl (by kernel_rfl) (by kernel_rfl) (by kernel_rfl) (HQ.out _ _) (Or.inl ⟨rfl, fun _ _ => rfl⟩) hS ?_
           simp only [q0, q1, q2, q3]
           refine wpAnyH_takeD (some 44) (i := 8) (v := (.agg (rowOf N vv))) rfl rfl (by kernel_rfl) (by kernel_rfl) (by kernel_rfl) (HQ.out _ _) (Or.inl ⟨rfl, fun _ _ => by go_simp⟩) hS ?_
           simp only [q0, q1, q2, q3]
           refine wpAnyH_takeD (some 45) (i := 9) (v := (.int .i64 9)) rfl rfl (by kernel_rfl) (by kernel_rfl) (by kernel_rfl) (HQ.out _ _) (Or.inl ⟨rfl, fun _ _ => by go_simp⟩) hS ?_
           simp only [q0, q1, q2, q3]
           refine wpAnyH_one (i := 10) (by kernel_rfl) ?_
           have hYb : V0.heap.size ≤ u5.heap.size := hS.size
           have hY := RowAt.new u5 T N zv Zc HZ.out
           refine op_yield (some 15) (v := .pointer (some ⟨u5.heap.size, 0, none⟩)) (w' := u5.alloc (.cells Zc T)) rfl rfl rfl (HAL.out _ _) (grown_alloc hS _) ?_
           simp only [q0, q1, q2, q3]
           have gn := World.grownBy_alloc u5 (.cells Zc T) none
           replace hS := grown_trans hS gn
           generalize u5.alloc (.cells Zc T) = u6 at *
           clear gn
           obtain ⟨k1, k2⟩ := RowAt.store (P := Try.prog) hY 0 T N vv (by omega) HSI.out (fun j _ => h1v j)
           have gX : V0.grownBy (u6.setCells u5.heap.size 0 (rowOf N vv).toList) none := grown_setCells u5.heap.size (Or.inl hYb) _ 0 _ hS
           refine wpAnyH_skipQ (i := 11) (by kernel_rfl) rfl rfl rfl (exec_storeQ (.tmp 15) (.tmp 44) _ _ rfl rfl rfl k1) gX ?_
           simp only [q1, q2, q3]
           refine wpAnyH_yieldD (some 16) (i := 12) (v := .int .i64 9) (by kernel_rfl) rfl rfl rfl (by unfold execOp; go_simp) gX ?_
           simp only [q0, q1, q2, q3]
           exact wpAnyH_done (by kernel_rfl) (HFN.out _ _ _ _ _ _ _ _ _ _ gX) _
         · clear hi
           have hYb : V0.heap.size ≤ u4.heap.size := hS.size
           have hY := RowAt.new u4 T N zv Zc HZ.out
           refine op_yield (some 15) (v := .pointer (some ⟨u4.heap.size, 0, none⟩)) (w' := u4.alloc (.cells Zc T)) rfl rfl rfl (HAL.out _ _) (grown_alloc hS _) ?_
           simp only [q0, q1, q2, q3]
           have gn := World.grownBy_alloc u4 (.cells Zc T) none
           replace hS := grown_trans hS gn
           replace hB := hB.grown gn (by simp)
           generalize u4.alloc (.cells Zc T) = u5 at *
           clear gn
           refine wpAnyH_one (i := 6) (by kernel_rfl) ?_
           refine op_callR (R := fun v W => ∃ vv : Nat → Value, v = .tuple #[.agg (rowOf N vv), .int .i64 9] ∧ (∀ j, (vv j).oneCell' = true) ∧ u5.grownBy W none) (some 43) TAKE #[.agg cd, .slice (some ⟨gB, 0, none⟩) (n + 1 : Nat) cB] rfl rfl rfl (exec_fn2 _ _ _ _ _ rfl rfl rfl) HEN.out ((HTK.out u5 gB cB hS hB).mono fun e W h => by
            obtain ⟨vv, rfl, h1, h3⟩ := h
            exact ⟨_, rfl, vv, rfl, h1, h3⟩) ?_
           rintro v u6 ⟨vv, rfl, h1v, gn⟩
           replace hY := hY.grown gn (by simp)
           replace hS := grown_trans hS gn
           clear gn hB
           refine ⟨hS, ?_⟩
           simp only [q0, q1, q2, q3]
           refine wpAnyH_takeD (some 36) (i := 7) (v := (.tuple #[.agg (rowOf N vv), .int .i64 9])) rfl rfl (by kernel_rfl) (by kernel_rfl) (by kernel_rfl) (HQ.out _ _) (Or.inl ⟨rfl, fun _ _ => rfl⟩) hS ?_
           simp only [q0, q1, q2, q3]
           refine wpAnyH_takeD (some 44) (i := 8) (v := (.agg (rowOf N vv))) rfl rfl (by kernel_rfl) (by kernel_rfl) (by kernel_rfl) (HQ.out _ _) (Or.inl ⟨rfl, fun _ _ => by go_simp⟩) hS ?_
           simp only [q0, q1, q2, q3]
           refine wpAnyH_takeD (some 45) (i := 9) (v := (.int .i64 9)) rfl rfl (by kernel_rfl) (by kernel_rfl) (by kernel_rfl) (HQ.out _ _) (Or.inl ⟨rfl, fun _ _ => by go_simp⟩) hS ?_
           simp only [q0, q1, q2, q3]
           obtain ⟨k1, k2⟩ := RowAt.store (P := Try.prog) hY 0 T N vv (by omega) HSI.out (fun j _ => h1v j)
           have gX : V0.grownBy (u6.setCells u4.heap.size 0 (rowOf N vv).toList) none := grown_setCells u4.heap.size (Or.inl hYb) _ 0 _ hS
           refine wpAnyH_skipQ (i := 11) (by kernel_rfl) rfl rfl rfl (exec_storeQ (.tmp 15) (.tmp 44) _ _ rfl rfl rfl k1) gX ?_
           simp only [q1, q2, q3]
           refine wpAnyH_yieldD (some 16) (i := 12) (v := .int .i64 9) (by kernel_rfl) rfl rfl rfl (by unfold execOp; go_simp) gX ?_
           simp only [q0, q1, q2, q3]
           exact wpAnyH_done (by kernel_rfl) (HFN.out _ _ _ _ _ _ _ _ _ _ gX) _
       · clear hi
         have hYA : u3.heap.size ≠ gA := Ne.symm (Nat.ne_of_lt hA.lt)
         have hYb : V0.heap.size ≤ u3.heap.size := hS.size
         have hY := RowAt.new u3 T N zv Zc HZ.out
         refine op_yield (some 15) (v := .pointer (some ⟨u3.heap.size, 0, none⟩)) (w' := u3.alloc (.cells Zc T)) rfl rfl rfl (HAL.out _ _) (grown_alloc hS _) ?_
         simp only [q0, q1, q2, q3]
         have gn := World.grownBy_alloc u3 (.cells Zc T) none
         replace hS := grown_trans hS gn
         replace hA := hA.grown gn (by simp)
         replace hZ := hZ.grown gn (by simp)
         generalize u3.alloc (.cells Zc T) = u4 at *
         clear gn
         refine wpAnyH_one (i := 5) (by kernel_rfl) ?_
         obtain ⟨x2, u5, hap, ⟨ex⟩⟩ := app_run 1 39 hA hZ.rd (by have := HN4.out; omega)
         obtain ⟨gB, cB, rfl, hB, _, ga, _⟩ := ex
         refine op_yield (some 42) (v := .slice (some ⟨gB, 0, none⟩) (n + 1 : Nat) cB) (w' := u5) rfl rfl rfl (exec_appendQ _ _ _ _ _ rfl rfl rfl rfl hap) (grown_new hS ga hAb) ?_
         simp only [q0, q1, q2, q3]
         replace hY := hY.grown ga (fun e => hYA (by injection e))
         replace hS := grown_new hS ga hAb
         clear hap hA hZ ga
         refine wpAnyH_one (i := 6) (by kernel_rfl) ?_
         refine op_callR (R := fun v W => ∃ vv : Nat → Value, v = .tuple #[.agg (rowOf N vv), .int .i64 9] ∧ (∀ j, (vv j).oneCell' = true) ∧ u5.grownBy W none) (some 43) TAKE #[.agg cd, .slice (some ⟨gB, 0, none⟩) (n + 1 : Nat) cB] rfl rfl rfl (exec_fn2 _ _ _ _ _ rfl rfl rfl) HEN.out ((HTK.out u5 gB cB hS hB).mono fun e W h => by
          obtain ⟨vv, rfl, h1, h3⟩ := h
          exact ⟨_, rfl, vv, rfl, h1, h3⟩) ?_
         rintro v u6 ⟨vv, rfl, h1v, gn⟩
         replace hY := hY.grown gn (by simp)
         replace hS := grown_trans hS gn
         clear gn hB
         refine ⟨hS, ?_⟩
         simp only [q0, q1, q2, q3]
         refine wpAnyH_takeD (some 36) (i := 7) (v := (.tuple #[.agg (rowOf N vv), .int .i64 9])) rfl rfl (by kernel_rfl) (by kernel_rfl) (by kernel_rfl) (HQ.out _ _) (Or.inl ⟨rfl, fun _ _ => rfl⟩) hS ?_
         simp only [q0, q1, q2, q3]
         refine wpAnyH_takeD (some 44) (i := 8) (v := (.agg (rowOf N vv))) rfl rfl (by kernel_rfl) (by kernel_rfl) (by kernel_rfl) (HQ.out _ _) (Or.inl ⟨rfl, fun _ _ => by go_simp⟩) hS ?_
         simp only [q0, q1, q2, q3]
         refine wpAnyH_takeD (some 45) (i := 9) (v := (.int .i64 9)) rfl rfl (by kernel_rfl) (by kernel_rfl) (by kernel_rfl) (HQ.out _ _) (Or.inl ⟨rfl, fun _ _ => by go_simp⟩) hS ?_
         simp only [q0, q1, q2, q3]
         obtain ⟨k1, k2⟩ := RowAt.store (P := Try.prog) hY 0 T N vv (by omega) HSI.out (fun j _ => h1v j)
         have gX : V0.grownBy (u6.setCells u3.heap.size 0 (rowOf N vv).toList) none := grown_setCells u3.heap.size (Or.inl hYb) _ 0 _ hS
         refine wpAnyH_skipQ (i := 11) (by kernel_rfl) rfl rfl rfl (exec_storeQ (.tmp 15) (.tmp 44) _ _ rfl rfl rfl k1) gX ?_
         simp only [q1, q2, q3]
         refine wpAnyH_yieldD (some 16) (i := 12) (v := .int .i64 9) (by kernel_rfl) rfl rfl rfl (by unfold execOp; go_simp) gX ?_
         simp only [q0, q1, q2, q3]
         exact wpAnyH_done (by kernel_rfl) (HFN.out _ _ _ _ _ _ _ _ _ _ gX) _
     · clear hi
       have hYE : u2.heap.size ≠ u1.heap.size := Ne.symm (Nat.ne_of_lt hE.lt)
       have hYb : V0.heap.size ≤ u2.heap.size := hS.size
       have hY := RowAt.new u2 T N zv Zc HZ.out
       refine op_yield (some 15) (v := .pointer (some ⟨u2.heap.size, 0, none⟩)) (w' := u2.alloc (.cells Zc T)) rfl rfl rfl (HAL.out _ _) (grown_alloc hS _) ?_
       simp only [q0, q1, q2, q3]
       have gn := World.grownBy_alloc u2 (.cells Zc T) none
       replace hS := grown_trans hS gn
       replace hE := hE.grown gn (by simp)
       replace hZ := hZ.grown gn (by simp)
       generalize u2.alloc (.cells Zc T) = u3 at *
       clear gn
       refine wpAnyH_one (i := 3) (by kernel_rfl) ?_
       obtain ⟨x1, u4, hap, ⟨ex⟩⟩ := app_run cp 39 hE (HRp.out.grown hS (by simp)) (by have := HN4.out; omega)
       obtain ⟨gA, cA, rfl, hA, _, ga, qa⟩ := ex
       rw [Nat.zero_add] at hap hA
       refine op_yield (some 40) (v := .slice (some ⟨gA, 0, none⟩) n cA) (w' := u4) rfl rfl rfl (exec_appendQ _ _ _ _ _ rfl rfl rfl rfl hap) (grown_new hS ga hEb) ?_
       simp only [q0, q1, q2, q3]
       have hsz := hS.size
       have hAb : V0.heap.size ≤ gA := by rcases qa with qa | qa <;> omega
       replace hZ := hZ.grown ga (fun e => hZE (by injection e))
       have hYl := hY.lt
       have hYA : u2.heap.size ≠ gA := by rcases qa with qa | qa <;> omega
       replace hY := hY.grown ga (fun e => hYE (by injection e))
       replace hS := grown_new hS ga hEb
       clear hap hE ga qa hsz hYl
       refine wpAnyH_one (i := 5) (by kernel_rfl) ?_
       obtain ⟨x2, u5, hap, ⟨ex⟩⟩ := app_run 1 39 hA hZ.rd (by have := HN4.out; omega)
       obtain ⟨gB, cB, rfl, hB, _, ga, _⟩ := ex
       refine op_yield (some 42) (v := .slice (some ⟨gB, 0, none⟩) (n + 1 : Nat) cB) (w' := u5) rfl rfl rfl (exec_appendQ _ _ _ _ _ rfl rfl rfl rfl hap) (grown_new hS ga hAb) ?_
       simp only [q0, q1, q2, q3]
       replace hY := hY.grown ga (fun e => hYA (by injection e))
       replace hS := grown_new hS ga hAb
       clear hap hA hZ ga
       refine wpAnyH_one (i := 6) (by kernel_rfl) ?_
       refine op_callR (R := fun v W => ∃ vv : Nat → Value, v = .tuple #[.agg (rowOf N vv), .int .i64 9] ∧ (∀ j, (vv j).oneCell' = true) ∧ u5.grownBy W none) (some 43) TAKE #[.agg cd, .slice (some ⟨gB, 0, none⟩) (n + 1 : Nat) cB] rfl rfl rfl (exec_fn2 _ _ _ _ _ rfl rfl rfl) HEN.out ((HTK.out u5 gB cB hS hB).mono fun e W h => by
        obtain ⟨vv, rfl, h1, h3⟩ := h
        exact ⟨_, rfl, vv, rfl, h1, h3⟩) ?_
       rintro v u6 ⟨vv, rfl, h1v, gn⟩
       replace hY := hY.grown gn (by simp)
       replace hS := grown_trans hS gn
       clear gn hB
       refine ⟨hS, ?_⟩
       simp only [q0, q1, q2, q3]
       refine wpAnyH_takeD (some 36) (i := 7) (v := (.tuple #[.agg (rowOf N vv), .int .i64 9])) rfl rfl (by kernel_rfl) (by kernel_rfl) (by kernel_rfl) (HQ.out _ _) (Or.inl ⟨rfl, fun _ _ => rfl⟩) hS ?_
       simp only [q0, q1, q2, q3]
       refine wpAnyH_takeD (some 44) (i := 8) (v := (.agg (rowOf N vv))) rfl rfl (by kernel_rfl) (by kernel_rfl) (by kernel_rfl) (HQ.out _ _) (Or.inl ⟨rfl, fun _ _ => by go_simp⟩) hS ?_
       simp only [q0, q1, q2, q3]
       refine wpAnyH_takeD (some 45) (i := 9) (v := (.int .i64 9)) rfl rfl (by kernel_rfl) (by kernel_rfl) (by kernel_rfl) (HQ.out _ _) (Or.inl ⟨rfl, fun _ _ => by go_simp⟩) hS ?_
       simp only [q0, q1, q2, q3]
       obtain ⟨k1, k2⟩ := RowAt.store (P := Try.prog) hY 0 T N vv (by omega) HSI.out (fun j _ => h1v j)
       have gX : V0.grownBy (u6.setCells u2.heap.size 0 (rowOf N vv).toList) none := grown_setCells u2.heap.size (Or.inl hYb) _ 0 _ hS
       refine wpAnyH_skipQ (i := 11) (by kernel_rfl) rfl rfl rfl (exec_storeQ (.tmp 15) (.tmp 44) _ _ rfl rfl rfl k1) gX ?_
       simp only [q1, q2, q3]
       refine wpAnyH_yieldD (some 16) (i := 12) (v := .int .i64 9) (by kernel_rfl) rfl rfl rfl (by unfold execOp; go_simp) gX ?_
       simp only [q0, q1, q2, q3]
       exact wpAnyH_done (by kernel_rfl) (HFN.out _ _ _ _ _ _ _ _ _ _ gX) _
   · clear hi
     have hYb : V0.heap.size ≤ u1.heap.size := hS.size
     have hY := RowAt.new u1 T N zv Zc HZ.out
     refine op_yield (some 15) (v := .pointer (some ⟨u1.heap.size, 0, none⟩)) (w' := u1.alloc (.cells Zc T)) rfl rfl rfl (HAL.out _ _) (grown_alloc hS _) ?_
     simp only [q0, q1, q2, q3]
     have gn := World.grownBy_alloc u1 (.cells Zc T) none
     replace hS := grown_trans hS gn
     replace hZ := hZ.grown gn (by simp)
     generalize u1.alloc (.cells Zc T) = u2 at *
     clear gn
     refine wpAnyH_one (i := 1) (by kernel_rfl) ?_
     have hZE : V0.heap.size ≠ u2.heap.size := Nat.ne_of_lt hZ.lt
     have hYE : u1.heap.size ≠ u2.heap.size := Nat.ne_of_lt hY.lt
     have hEb : V0.heap.size ≤ u2.heap.size := hS.size
     have hE := ownR_empty u2
     refine op_yield (some 38) (v := .slice (some ⟨u2.heap.size, 0, none⟩) 0 0) (w' := u2.alloc (.cells #[] 5)) rfl rfl rfl (by unfold execOp; go_simp) (grown_alloc hS _) ?_
     simp only [q0, q1, q2, q3]
     have gn := World.grownBy_alloc u2 (.cells #[] 5) none
     replace hS := grown_trans hS gn
     replace hZ := hZ.grown gn (by simp)
     replace hY := hY.grown gn (by simp)
     generalize u2.alloc (.cells #[] 5) = u3 at *
     clear gn
     refine wpAnyH_one (i := 3) (by kernel_rfl) ?_
     obtain ⟨x1, u4, hap, ⟨ex⟩⟩ := app_run cp 39 hE (HRp.out.grown hS (by simp)) (by have := HN4.out; omega)
     obtain ⟨gA, cA, rfl, hA, _, ga, qa⟩ := ex
     rw [Nat.zero_add] at hap hA
     refine op_yield (some 40) (v := .slice (some ⟨gA, 0, none⟩) n cA) (w' := u4) rfl rfl rfl (exec_appendQ _ _ _ _ _ rfl rfl rfl rfl hap) (grown_new hS ga hEb) ?_
     simp only [q0, q1, q2, q3]
     have hsz := hS.size
     have hAb : V0.heap.size ≤ gA := by rcases qa with qa | qa <;> omega
     replace hZ := hZ.grown ga (fun e => hZE (by injection e))
     have hYl := hY.lt
     have hYA : u1.heap.size ≠ gA := by rcases qa with qa | qa <;> omega
     replace hY := hY.grown ga (fun e => hYE (by injection e))
     replace hS := grown_new hS ga hEb
     clear hap hE ga qa hsz hYl
     refine wpAnyH_one (i := 5) (by kernel_rfl) ?_
     obtain ⟨x2, u5, hap, ⟨ex⟩⟩ := app_run 1 39 hA hZ.rd (by have := HN4.out; omega)
     obtain ⟨gB, cB, rfl, hB, _, ga, _⟩ := ex
     refine op_yield (some 42) (v := .slice (some ⟨gB, 0, none⟩) (n + 1 : Nat) cB) (w' := u5) rfl rfl rfl (exec_appendQ _ _ _ _ _ rfl rfl rfl rfl hap) (grown_new hS ga hAb) ?_
     simp only [q0, q1, q2, q3]
     replace hY := hY.grown ga (fun e => hYA (by injection e))
     replace hS := grown_new hS ga hAb
     clear hap hA hZ ga
     refine wpAnyH_one (i := 6) (by kernel_rfl) ?_
     refine op_callR (R := fun v W => ∃ vv : Nat → Value, v = .tuple #[.agg (rowOf N vv), .int .i64 9] ∧ (∀ j, (vv j).oneCell' = true) ∧ u5.grownBy W none) (some 43) TAKE #[.agg cd, .slice (some ⟨gB, 0, none⟩) (n + 1 : Nat) cB] rfl rfl rfl (exec_fn2 _ _ _ _ _ rfl rfl rfl) HEN.out ((HTK.out u5 gB cB hS hB).mono fun e W h => by
      obtain ⟨vv, rfl, h1, h3⟩ := h
      exact ⟨_, rfl, vv, rfl, h1, h3⟩) ?_
     rintro v u6 ⟨vv, rfl, h1v, gn⟩
     replace hY := hY.grown gn (by simp)
     replace hS := grown_trans hS gn
     clear gn hB
     refine ⟨hS, ?_⟩
     simp only [q0, q1, q2, q3]
     refine wpAnyH_takeD (some 36) (i := 7) (v := (.tuple #[.agg (rowOf N vv), .int .i64 9])) rfl rfl (by kernel_rfl) (by kernel_rfl) (by kernel_rfl) (HQ.out _ _) (Or.inl ⟨rfl, fun _ _ => rfl⟩) hS ?_
     simp only [q0, q1, q2, q3]
     refine wpAnyH_takeD (some 44) (i := 8) (v := (.agg (rowOf N vv))) rfl rfl (by kernel_rfl) (by kernel_rfl) (by kernel_rfl) (HQ.out _ _) (Or.inl ⟨rfl, fun _ _ => by go_simp⟩) hS ?_
     simp only [q0, q1, q2, q3]
     refine wpAnyH_takeD (some 45) (i := 9) (v := (.int .i64 9)) rfl rfl (by kernel_rfl) (by kernel_rfl) (by kernel_rfl) (HQ.out _ _) (Or.inl ⟨rfl, fun _ _ => by go_simp⟩) hS ?_
     simp only [q0, q1, q2, q3]
     obtain ⟨k1, k2⟩ := RowAt.store (P := Try.prog) hY 0 T N vv (by omega) HSI.out (fun j _ => h1v j)
     have gX : V0.grownBy (u6.setCells u1.heap.size 0 (rowOf N vv).toList) none := grown_setCells u1.heap.size (Or.inl hYb) _ 0 _ hS
     refine wpAnyH_skipQ (i := 11) (by kernel_rfl) rfl rfl rfl (exec_storeQ (.tmp 15) (.tmp 44) _ _ rfl rfl rfl k1) gX ?_
     simp only [q1, q2, q3]
     refine wpAnyH_yieldD (some 16) (i := 12) (v := .int .i64 9) (by kernel_rfl) rfl rfl rfl (by unfold execOp; go_simp) gX ?_
     simp only [q0, q1, q2, q3]
     exact wpAnyH_done (by kernel_rfl) (HFN.out _ _ _ _ _ _ _ _ _ _ gX) _
 · clear hi
   have hYb : V0.heap.size ≤ V0.heap.size := hS.size
   have hY := RowAt.new V0 T N zv Zc HZ.out
   refine op_yield (some 15) (v := .pointer (some ⟨V0.heap.size, 0, none⟩)) (w' := V0.alloc (.cells Zc T)) rfl rfl rfl (HAL.out _ _) (grown_alloc hS _) ?_
   simp only [q0, q1, q2, q3]
   have gn := World.grownBy_alloc V0 (.cells Zc T) none
   replace hS := grown_trans hS gn
   generalize V0.alloc (.cells Zc T) = u1 at *
   clear gn
   refine wpAnyH_all (rs := [1, 4]) (by kernel_rfl) (by simp) fun i hi => ?_
   rcases (by simpa using hi : i = 1 ∨ i = 4) with rfl | rfl
   · clear hi
     have hYE : V0.heap.size ≠ u1.heap.size := Nat.ne_of_lt hY.lt
     have hEb : V0.heap.size ≤ u1.heap.size := hS.size
     have hE := ownR_empty u1
     refine op_yield (some 38) (v := .slice (some ⟨u1.heap.size, 0, none⟩) 0 0) (w' := u1.alloc (.cells #[] 5)) rfl rfl rfl (by unfold execOp; go_simp) (grown_alloc hS _) ?_
     simp only [q0, q1, q2, q3]
     have gn := World.grownBy_alloc u1 (.cells #[] 5) none
     replace hS := grown_trans hS gn
     replace hY := hY.grown gn (by simp)
     generalize u1.alloc (.cells #[] 5) = u2 at *
     clear gn
     refine wpAnyH_all (rs := [3, 4]) (by kernel_rfl) (by simp) fun i hi => ?_
     rcases (by simpa using hi : i = 3 ∨ i = 4) with rfl | rfl
     · clear hi
       obtain ⟨x1, u3, hap, ⟨ex⟩⟩ := app_run cp 39 hE (HRp.out.grown hS (by simp)) (by have := HN4.out; omega)
       obtain ⟨gA, cA, rfl, hA, _, ga, qa⟩ := ex
       rw [Nat.zero_add] at hap hA
       refine op_yield (some 40) (v := .slice (some ⟨gA, 0, none⟩) n cA) (w' := u3) rfl rfl rfl (exec_appendQ _ _ _ _ _ rfl rfl rfl rfl hap) (grown_new hS ga hEb) ?_
       simp only [q0, q1, q2, q3]
       have hsz := hS.size
       have hAb : V0.heap.size ≤ gA := by rcases qa with qa | qa <;> omega
       have hYl := hY.lt
       have hYA : V0.heap.size ≠ gA := by rcases qa with qa | qa <;> omega
       replace hY := hY.grown ga (fun e => hYE (by injection e))
       replace hS := grown_new hS ga hEb
       clear hap hE ga qa hsz hYl
       refine wpAnyH_one (i := 4) (by kernel_rfl) ?_
       have hZ := ownR_one10 u3 0
       refine op_yield (some 41) (v := .slice (some ⟨u3.heap.size, 0, none⟩) 1 1) (w' := u3.alloc (.cells #[.int .u8 ((0 : Nat) : Int)] 5)) rfl rfl rfl (by unfold execOp; go_simp) (grown_alloc hS _) ?_
       simp only [q0, q1, q2, q3]
       have gn := World.grownBy_alloc u3 (.cells #[.int .u8 ((0 : Nat) : Int)] 5) none
       replace hS := grown_trans hS gn
       replace hA := hA.grown gn (by simp)
       replace hY := hY.grown gn (by simp)
       generalize u3.alloc (.cells #[.int .u8 ((0 : Nat) : Int)] 5) = u4 at *
       clear gn
       refine wpAnyH_one (i := 5) (by kernel_rfl) ?_
       obtain ⟨x2, u5, hap, ⟨ex⟩⟩ := app_run 1 39 hA hZ.rd (by have := HN4.out; omega)
       obtain ⟨gB, cB, rfl, hB, _, ga, _⟩ := ex
       refine op_yield (some 42) (v := .slice (some ⟨gB, 0, none⟩) (n + 1 : Nat) cB) (w' := u5) rfl rfl rfl (exec_appendQ _ _ _ _ _ rfl rfl rfl rfl hap) (grown_new hS ga hAb) ?_
       simp only [q0, q1, q2, q3]
       replace hY := hY.grown ga (fun e => hYA (by injection e))
       replace hS := grown_new hS ga hAb
       clear hap hA hZ ga
       refine wpAnyH_one (i := 6) (by kernel_rfl) ?_
       refine op_callR (R := fun v W => ∃ vv : Nat → Value, v = .tuple #[.agg (rowOf N vv), .int .i64 9] ∧ (∀ j, (vv j).oneCell' = true) ∧ u5.grownBy W none) (some 43) TAKE #[.agg cd, .slice (some ⟨gB, 0, none⟩) (n + 1 : Nat) cB] rfl rfl rfl (exec_fn2 _ _ _ _ _ rfl rfl rfl) HEN.out ((HTK.out u5 gB cB hS hB).mono fun e W h => by
        obtain ⟨vv, rfl, h1, h3⟩ := h
        exact ⟨_, rfl, vv, rfl, h1, h3⟩) ?_
       rintro v u6 ⟨vv, rfl, h1v, gn⟩
       replace hY := hY.grown gn (by simp)
       replace hS := grown_trans hS gn
       clear gn hB
       refine ⟨hS, ?_⟩
       simp only [q0, q1, q2, q3]
       refine wpAnyH_takeD (some 36) (i := 7) (v := (.tuple #[.agg (rowOf N vv), .int .i64 9])) rfl rfl (by kernel_rfl) (by kernel_rfl) (by kernel_rfl) (HQ.out _ _) (Or.inl ⟨rfl, fun _ _ => rfl⟩) hS ?_
       simp only [q0, q1, q2, q3]
       refine wpAnyH_takeD (some 44) (i := 8) (v := (.agg (rowOf N vv))) rfl rfl (by kernel_rfl) (by kernel_rfl) (by kernel_rfl) (HQ.out _ _) (Or.inl ⟨rfl, fun _ _ => by go_simp⟩) hS ?_
       simp only [q0, q1, q2, q3]
       refine wpAnyH_takeD (some 45) (i := 9) (v := (.int .i64 9)) rfl rfl (by kernel_rfl) (by kernel_rfl) (by kernel_rfl) (HQ.out _ _) (Or.inl ⟨rfl, fun _ _ => by go_simp⟩) hS ?_
       simp only [q0, q1, q2, q3]
       obtain ⟨k1, k2⟩ := RowAt.store (P := Try.prog) hY 0 T N vv (by omega) HSI.out (fun j _ => h1v j)
       have gX : V0.grownBy (u6.setCells V0.heap.size 0 (rowOf N vv).toList) none := grown_setCells V0.heap.size (Or.inl hYb) _ 0 _ hS
       refine wpAnyH_skipQ (i := 11) (by kernel_rfl) rfl rfl rfl (exec_storeQ (.tmp 15) (.tmp 44) _ _ rfl rfl rfl k1) gX ?_
       simp only [q1, q2, q3]
       refine wpAnyH_yieldD (some 16) (i := 12) (v := .int .i64 9) (by kernel_rfl) rfl rfl rfl (by unfold execOp; go_simp) gX ?_
       simp only [q0, q1, q2, q3]
       exact wpAnyH_done (by kernel_rfl) (HFN.out _ _ _ _ _ _ _ _ _ _ gX) _
     · clear hi
       have hZE : u2.heap.size ≠ u1.heap.size := Ne.symm (Nat.ne_of_lt hE.lt)
       have hZ := ownR_one10 u2 0
       refine op_yield (some 41) (v := .slice (some ⟨u2.heap.size, 0, none⟩) 1 1) (w' := u2.alloc (.cells #[.int .u8 ((0 : Nat) : Int)] 5)) rfl rfl rfl (by unfold execOp; go_simp) (grown_alloc hS _) ?_
       simp only [q0, q1, q2, q3]
       have gn := World.grownBy_alloc u2 (.cells #[.int .u8 ((0 : Nat) : Int)] 5) none
       replace hS := grown_trans hS gn
       replace hE := hE.grown gn (by simp)
       replace hY := hY.grown gn (by simp)
       generalize u2.alloc (.cells #[.int .u8 ((0 : Nat) : Int)] 5) = u3 at *
       clear gn
       refine wpAnyH_one (i := 3) (by kernel_rfl) ?_
       obtain ⟨x1, u4, hap, ⟨ex⟩⟩ := app_run cp 39 hE (HRp.out.grown hS (by simp)) (by have := HN4.out; omega)
       obtain ⟨gA, cA, rfl, hA, _, ga, qa⟩ := ex
       rw [Nat.zero_add] at hap hA
       refine op_yield (some 40) (v := .slice (some ⟨gA, 0, none⟩) n cA) (w' := u4) rfl rfl rfl (exec_appendQ _ _ _ _ _ rfl rfl rfl rfl hap) (grown_new hS ga hEb) ?_
       simp only [q0, q1, q2, q3]
       have hsz := hS.size
       have hAb : V0.heap.size ≤ gA := by rcases qa with qa | qa <;> omega
       replace hZ := hZ.grown ga (fun e => hZE (by injection e))
       have hYl := hY.lt
       have hYA : V0.heap.size ≠ gA := by rcases qa with qa | qa <;> omega
       replace hY := hY.grown ga (fun e => hYE (by injection e))
       replace hS := grown_new hS ga hEb
       clear hap hE ga qa hsz hYl
       refine wpAnyH_one (i := 5) (by kernel_rfl) ?_
       obtain ⟨x2, u5, hap, ⟨ex⟩⟩ := app_run 1 39 hA hZ.rd (by have := HN4.out; omega)
       obtain ⟨gB, cB, rfl, hB, _, ga, _⟩ := ex
       refine op_yield (some 42) (v := .slice (some ⟨gB, 0, none⟩) (n + 1 : Nat) cB) (w' := u5) rfl rfl rfl (exec_appendQ _ _ _ _ _ rfl rfl rfl rfl hap) (grown_new hS ga hAb) ?_
       simp only [q0, q1, q2, q3]
       replace hY := hY.grown ga (fun e => hYA (by injection e))
       replace hS := grown_new hS ga hAb
       clear hap hA hZ ga
       refine wpAnyH_one (i := 6) (by kernel_rfl) ?_
       refine op_callR (R := fun v W => ∃ vv : Nat → Value, v = .tuple #[.agg (rowOf N vv), .int .i64 9] ∧ (∀ j, (vv j).oneCell' = true) ∧ u5.grownBy W none) (some 43) TAKE #[.agg cd, .slice (some ⟨gB, 0, none⟩) (n + 1 : Nat) cB] rfl rfl rfl (exec_fn2 _ _ _ _ _ rfl rfl rfl) HEN.out ((HTK.out u5 gB cB hS hB).mono fun e W h => by
        obtain ⟨vv, rfl, h1, h3⟩ := h
        exact ⟨_, rfl, vv, rfl, h1, h3⟩) ?_
       rintro v u6 ⟨vv, rfl, h1v, gn⟩
       replace hY := hY.grown gn (by simp)
       replace hS := grown_trans hS gn
       clear gn hB
       refine ⟨hS, ?_⟩
       simp only [q0, q1, q2, q3]
       refine wpAnyH_takeD (some 36) (i := 7) (v := (.tuple #[.agg (rowOf N vv), .int .i64 9])) rfl rfl (by kernel_rfl) (by kernel_rfl) (by kernel_rfl) (HQ.out _ _) (Or.inl ⟨rfl, fun _ _ => rfl⟩) hS ?_
       simp only [q0, q1, q2, q3]
       refine wpAnyH_takeD (some 44) (i := 8) (v := (.agg (rowOf N vv))) rfl rfl (by kernel_rfl) (by kernel_rfl) (by kernel_rfl) (HQ.out _ _) (Or.inl ⟨rfl, fun _ _ => by go_simp⟩) hS ?_
       simp only [q0, q1, q2, q3]
       refine wpAnyH_takeD (some 45) (i := 9) (v := (.int .i64 9)) rfl rfl (by kernel_rfl) (by kernel_rfl) (by kernel_rfl) (HQ.out _ _) (Or.inl ⟨rfl, fun _ _ => by go_simp⟩) hS ?_
       simp only [q0, q1, q2, q3]
       obtain ⟨k1, k2⟩ := RowAt.store (P := Try.prog) hY 0 T N vv (by omega) HSI.out (fun j _ => h1v j)
       have gX : V0.grownBy (u6.setCells V0.heap.size 0 (rowOf N vv).toList) none := grown_setCells V0.heap.size (Or.inl hYb) _ 0 _ hS
       refine wpAnyH_skipQ (i := 11) (by kernel_rfl) rfl rfl rfl (exec_storeQ (.tmp 15) (.tmp 44) _ _ rfl rfl rfl k1) gX ?_
       simp only [q1, q2, q3]
       refine wpAnyH_yieldD (some 16) (i := 12) (v := .int .i64 9) (by kernel_rfl) rfl rfl rfl (by unfold execOp; go_simp) gX ?_
       simp only [q0, q1, q2, q3]
       exact wpAnyH_done (by kernel_rfl) (HFN.out _ _ _ _ _ _ _ _ _ _ gX) _
   · clear hi
     have hZ := ownR_one10 u1 0
     refine op_yield (some 41) (v := .slice (some ⟨u1.heap.size, 0, none⟩) 1 1) (w' := u1.alloc (.cells #[.int .u8 ((0 : Nat) : Int)] 5)) rfl rfl rfl (by unfold execOp; go_simp) (grown_alloc hS _) ?_
     simp only [q0, q1, q2, q3]
     have gn := World.grownBy_alloc u1 (.cells #[.int .u8 ((0 : Nat) : Int)] 5) none
     replace hS := grown_trans hS gn
     replace hY := hY.grown gn (by simp)
     generalize u1.alloc (.cells #[.int .u8 ((0 : Nat) : Int)] 5) = u2 at *
     clear gn
     refine wpAnyH_one (i := 1) (by kernel_rfl) ?_
     have hZE : u1.heap.size ≠ u2.heap.size := Nat.ne_of_lt hZ.lt
     have hYE : V0.heap.size ≠ u2.heap.size := Nat.ne_of_lt hY.lt
     have hEb : V0.heap.size ≤ u2.heap.size := hS.size
     have hE := ownR_empty u2
     refine op_yield (some 38) (v := .slice (some ⟨u2.heap.size, 0, none⟩) 0 0) (w' := u2.alloc (.cells #[] 5)) rfl rfl rfl (by unfold execOp; go_simp) (grown_alloc hS _) ?_
     simp only [q0, q1, q2, q3]
     have gn := World.grownBy_alloc u2 (.cells #[] 5) none
     replace hS := grown_trans hS gn
     replace hZ := hZ.grown gn (by simp)
     replace hY := hY.grown gn (by simp)
     generalize u2.alloc (.cells #[] 5) = u3 at *
     clear gn
     refine wpAnyH_one (i := 3) (by kernel_rfl) ?_
     obtain ⟨x1, u4, hap, ⟨ex⟩⟩ := app_run cp 39 hE (HRp.out.grown hS (by simp)) (by have := HN4.out; omega)
     obtain ⟨gA, cA, rfl, hA, _, ga, qa⟩ := ex
     rw [Nat.zero_add] at hap hA
     refine op_yield (some 40) (v := .slice (some ⟨gA, 0, none⟩) n cA) (w' := u4) rfl rfl rfl (exec_appendQ _ _ _ _ _ rfl rfl rfl rfl hap) (grown_new hS ga hEb) ?_
     simp only [q0, q1, q2, q3]
     have hsz := hS.size
     have hAb : V0.heap.size ≤ gA := by rcases qa with qa | qa <;> omega
     replace hZ := hZ.grown ga (fun e => hZE (by injection e))
     have hYl := hY.lt
     have hYA : V0.heap.size ≠ gA := by rcases qa with qa | qa <;> omega
     replace hY := hY.grown ga (fun e => hYE (by injection e))
     replace hS := grown_new hS ga hEb
     clear hap hE ga qa hsz hYl
     refine wpAnyH_one (i := 5) (by kernel_rfl) ?_
     obtain ⟨x2, u5, hap, ⟨ex⟩⟩ := app_run 1 39 hA hZ.rd (by have := HN4.out; omega)
     obtain ⟨gB, cB, rfl, hB, _, ga, _⟩ := ex
     refine op_yield (some 42) (v := .slice (some ⟨gB, 0, none⟩) (n + 1 : Nat) cB) (w' := u5) rfl rfl rfl (exec_appendQ _ _ _ _ _ rfl rfl rfl rfl hap) (grown_new hS ga hAb) ?_
     simp only [q0, q1, q2, q3]
     replace hY := hY.grown ga (fun e => hYA (by injection e))
     replace hS := grown_new hS ga hAb
     clear hap hA hZ ga
     refine wpAnyH_one (i := 6) (by kernel_rfl) ?_
     refine op_callR (R := fun v W => ∃ vv : Nat → Value, v = .tuple #[.agg (rowOf N vv), .int .i64 9] ∧ (∀ j, (vv j).oneCell' = true) ∧ u5.grownBy W none) (some 43) TAKE #[.agg cd, .slice (some ⟨gB, 0, none⟩) (n + 1 : Nat) cB] rfl rfl rfl (exec_fn2 _ _ _ _ _ rfl rfl rfl) HEN.out ((HTK.out u5 gB cB hS hB).mono fun e W h => by
      obtain ⟨vv, rfl, h1, h3⟩ := h
      exact ⟨_, rfl, vv, rfl, h1, h3⟩) ?_
     rintro v u6 ⟨vv, rfl, h1v, gn⟩
     replace hY := hY.grown gn (by simp)
     replace hS := grown_trans hS gn
     clear gn hB
     refine ⟨hS, ?_⟩
     simp only [q0, q1, q2, q3]
     refine wpAnyH_takeD (some 36) (i := 7) (v := (.tuple #[.agg (rowOf N vv), .int .i64 9])) rfl rfl (by kernel_rfl) (by kernel_rfl) (by kernel_rfl) (HQ.out _ _) (Or.inl ⟨rfl, fun _ _ => rfl⟩) hS ?_
     simp only [q0, q1, q2, q3]
     refine wpAnyH_takeD (some 44) (i := 8) (v := (.agg (rowOf N vv))) rfl rfl (by kernel_rfl) (by kernel_rfl) (by kernel_rfl) (HQ.out _ _) (Or.inl ⟨rfl, fun _ _ => by go_simp⟩) hS ?_
     simp only [q0, q1, q2, q3]
     refine wpAnyH_takeD (some 45) (i := 9) (v := (.int .i64 9)) rfl rfl (by kernel_rfl) (by kernel_rfl) (by kernel_rfl) (HQ.out _ _) (Or.inl ⟨rfl, fun _ _ => by go_simp⟩) hS ?_
     simp only [q0, q1, q2, q3]
     obtain ⟨k1, k2⟩ := RowAt.store (P := Try.prog) hY 0 T N vv (by omega) HSI.out (fun j _ => h1v j)
     have gX : V0.grownBy (u6.setCells V0.heap.size 0 (rowOf N vv).toList) none := grown_setCells V0.heap.size (Or.inl hYb) _ 0 _ hS
     refine wpAnyH_skipQ (i := 11) (by kernel_rfl) rfl rfl rfl (exec_storeQ (.tmp 15) (.tmp 44) _ _ rfl rfl rfl k1) gX ?_
     simp only [q1, q2, q3]
     refine wpAnyH_yieldD (some 16) (i := 12) (v := .int .i64 9) (by kernel_rfl) rfl rfl rfl (by unfold execOp; go_simp) gX ?_
     simp only [q0, q1, q2, q3]
     exact wpAnyH_done (by kernel_rfl) (HFN.out _ _ _ _ _ _ _ _ _ _ gX) _
end Go.Proofs.Ytmbefbmpjkbnmaa
namespace Go.Proofs.Ytmbefbmpjkbnmaa
open Go.RowKit Go.Shelf

set_option maxRecDepth 100000
set_option maxHeartbeats 4000000

theorem bkDistT_enters (args : Array Value) (w : World) : (callFunc 25 args).run Try.prog w = .ok (.enter 25 args) w := enters_of Try.func25 (by kernel_rfl) rfl args w
theorem backDist_any (xv : Nat → Value) (L c D cut : Nat) (a : Option Addr) (F : Nat → Nat) (w : World) (hx : (∃ n f, IsD w xv n f) ∨ ∀ W, w.grownBy W none → Calls Try.prog 59 #[.agg (rowOf 3 codDist), .agg (rowOf 52 xv)] W (PutSays W false 0 (fun _ => 0))) (hR : Rd w D a L F) (hF : ∀ i, F i < 256) (hc : L ≤ c) (hL : L ≤ 9000) :
    Calls Try.prog 38 #[.agg (rowOf 3 codDist), .agg (rowOf 52 xv), .slice a L c, .int .i64 (cut : Nat), .func (.func 39) #[] #[]] w fun e w' => e = .returned (.bool true) ∧ w.grownBy w' none := by
  have HK := Lib.hid kDist
  have ga := World.grownBy_alloc w (.cells (rowOf 3 codDist) 54) none
  have hz := World.size_alloc w (.cells (rowOf 3 codDist) 54)
  have hC := RowAt.new w 54 3 codDist _ rfl
  have gb := World.grownBy_alloc (w.alloc (.cells (rowOf 3 codDist) 54)) (.cells (rowOf 52 xv) 30) none
  have hX := RowAt.new (w.alloc (.cells (rowOf 3 codDist) 54)) 30 52 xv _ rfl
  rw [hz] at hX
  replace hC := hC.grown gb (by simp)
  have HG0 := Lib.hid (grown_trans ga gb)
  have HX0 := Lib.hid hx
  have HR := Lib.hid hR
  have HF := Lib.hid hF
  have HLC := Lib.hid hc
  have HL := Lib.hid hL
  clear ga gb hz hx hR hF hc hL
  go_enter Try.func38, Try.ntmps38
  go_upto_region 1 with fail
  obtain ⟨CB, hCB⟩ : ∃ B, B = w.heap.size := ⟨_, rfl⟩
  rw [← hCB] at hC hX ⊢
  generalize (w.alloc (.cells (rowOf 3 codDist) 54)).alloc (.cells (rowOf 52 xv) 30) = w1 at *
  have HC := Lib.hid hC
  have HX := Lib.hid hX
  have HG1 := HG0
  clear hC hX hCB HG0
  have HLC1 := Lib.hid ((HC.out).load (P := Try.prog) 0 54 3 codDist (by decide) (fun j _ => by rw [Nat.zero_add]) (by kernel_rfl) (by kernel_rfl))
  have HLX1 := Lib.hid ((HX.out).load (P := Try.prog) 0 30 52 xv (by decide) (fun j _ => by rw [Nat.zero_add]) (by kernel_rfl) (by kernel_rfl))
  obtain ⟨m, n, f, hIs, hP⟩ : ∃ (m : Bool) (n : Nat) (f : Nat → Nat), (m = true → IsD w1 xv n f) ∧ Calls Try.prog 59 #[.agg (rowOf 3 codDist), .agg (rowOf 52 xv)] w1 (PutSays w1 m n f) := by
    rcases HX0.out with ⟨n, f, hIs⟩ | hno
    · have h := HK.out.grown hIs HG1.out
      exact ⟨true, n, f, fun _ => h, HK.out.put h⟩
    · exact ⟨false, 0, fun _ => 0, fun e => absurd e (by decide), hno w1 HG1.out⟩
  have HP := Lib.hid hP
  have HIs := Lib.hid hIs
  clear hP hIs HX0
  go_wp2_with (first | ((with_reducible refine wpList_here ?_); refine wpList_ld (p := .pointer (some ⟨CB, 0, none⟩)) 5 ?_ ?_ ?_ HLC1.out ?_; (· rfl); go_simp; (· kernel_rfl)) | ((with_reducible refine wpList_here ?_); refine wpList_ld (p := .pointer (some ⟨(CB + 1), 0, none⟩)) 6 ?_ ?_ ?_ HLX1.out ?_; (· rfl); go_simp; (· kernel_rfl)))
  go_at_call 59
  refine HP.out.mono ?_
  rintro e w2 ⟨⟨ap, cp, rfl, hO⟩, g⟩
  have HGw2 := Lib.hid g
  have HO := Lib.hid hO
  clear g hO HP HLC1 HLX1
  obtain ⟨E, hE⟩ : ∃ E : Int, E = if m = true then 0 else 2 := ⟨_, rfl⟩
  obtain ⟨np, hnp⟩ : ∃ q, q = if m = true then n else 0 := ⟨_, rfl⟩
  rw [← hE, ← hnp]
  rw [← hnp] at HO
  have HE := Lib.hid hE
  have HNP := Lib.hid hnp
  clear hE hnp
  go_upto_if 29 with fail
  go_cut [13] (fun _ wx => w2.grownBy wx none)
  case first =>
    cases m with
    | false =>
      obtain rfl : E = 2 := HE.out
      clear HE HNP HO
      go_wp2_with fail
      go_meet
      case rel => exact grown_refl w2 none
    | true =>
      obtain rfl : E = 0 := HE.out
      obtain rfl : n = np := HNP.out.symm
      have hO := HO.out
      have HIS1 := Lib.hid (HIs.out rfl)
      have hln := HK.out.len HIS1.out
      have HN4 := Lib.hid hln
      have HFp := Lib.hid (HK.out.byt HIS1.out)
      clear HE HNP HO HIs hln
      obtain ⟨hcp, hRp⟩ := own_rd hO
      have HCP := Lib.hid hcp
      have HRw2 := Lib.hid hRp
      clear hO hcp hRp
      have HLC2 := Lib.hid (((HC.out.grown HGw2.out (by simp))).load (P := Try.prog) 0 54 3 codDist (by decide) (fun j _ => by rw [Nat.zero_add]) (by kernel_rfl) (by kernel_rfl))
      go_wp2_with (first | ((with_reducible refine wpList_here ?_); refine wpList_ld (p := .pointer (some ⟨CB, 0, none⟩)) 5 ?_ ?_ ?_ HLC2.out ?_; (· rfl); go_simp; (· kernel_rfl)))
      go_at_call 25
      refine (HK.out.take cp HRw2.out HFp.out (by have := HN4.out; omega)).mono ?_
      rintro e w3 ⟨v3, rfl, h1, h2, g⟩
      have hok : distOk n f = true := HK.out.isok HIS1.out f (fun _ _ => rfl)
      rw [show errT (distOk n f) = 0 by rw [hok]; rfl]
      have HIS3 := Lib.hid (h2 hok)
      have H13 := Lib.hid h1
      have HGw3 := Lib.hid g
      clear h1 h2 g hok HLC2
      have hN := RowAt.new w3 30 52 DV.zero.v #[.int .u8 0, .int .u8 0, .int .u8 0, .int .u8 0, .int .u8 0, .int .u8 0, .int .u8 0, .int .u8 0, .int .u8 0, .int .u8 0, .int .u8 0, .int .u8 0, .int .u8 0, .int .u8 0, .int .u8 0, .int .u8 0, .int .u64 0, .int .u8 0, .int .u8 0, .int .u64 0, .int .u8 0, .int .u8 0, .int .u8 0, .int .u8 0, .int .u8 0, .int .u8 0, .int .u8 0, .int .u8 0, .int .u8 0, .int .u8 0, .int .u8 0, .int .u8 0, .int .u8 0, .int .u8 0, .int .u8 0, .int .u8 0, .int .u8 0, .int .u8 0, .int .u8 0, .int .u8 0, .int .u8 0, .int .u8 0, .int .u8 0, .int .u8 0, .int .u8 0, .int .u8 0, .int .u8 0, .int .u8 0, .int .u8 0, .int .u8 0, .int .u8 0, .int .u8 0] (by kernel_rfl)
      obtain ⟨k1, k2⟩ := RowAt.store (P := Try.prog) hN 0 30 52 v3 (by decide) (by kernel_rfl) (fun j _ => H13.out j)
      obtain ⟨w4, hw⟩ : ∃ W, W = (w3.alloc (.cells #[.int .u8 0, .int .u8 0, .int .u8 0, .int .u8 0, .int .u8 0, .int .u8 0, .int .u8 0, .int .u8 0, .int .u8 0, .int .u8 0, .int .u8 0, .int .u8 0, .int .u8 0, .int .u8 0, .int .u8 0, .int .u8 0, .int .u64 0, .int .u8 0, .int .u8 0, .int .u64 0, .int .u8 0, .int .u8 0, .int .u8 0, .int .u8 0, .int .u8 0, .int .u8 0, .int .u8 0, .int .u8 0, .int .u8 0, .int .u8 0, .int .u8 0, .int .u8 0, .int .u8 0, .int .u8 0, .int .u8 0, .int .u8 0, .int .u8 0, .int .u8 0, .int .u8 0, .int .u8 0, .int .u8 0, .int .u8 0, .int .u8 0, .int .u8 0, .int .u8 0, .int .u8 0, .int .u8 0, .int .u8 0, .int .u8 0, .int .u8 0, .int .u8 0, .int .u8 0] 30)).setCells w3.heap.size 0 (rowOf 52 v3).toList := ⟨_, rfl⟩
      have g2 : w3.grownBy w4 none := by rw [hw]; exact grown_setCells w3.heap.size (Or.inl (Nat.le_refl _)) _ 0 _ (World.grownBy_alloc w3 _ none)
      rw [← hw] at k1 k2
      have HYyb := Lib.hid (k2.congr (v' := v3) fun i hi => by rw [if_pos ⟨Nat.zero_le _, by omega⟩, Nat.sub_zero])
      obtain ⟨yb, hb⟩ : ∃ b, b = w3.heap.size := ⟨_, rfl⟩
      rw [← hb] at k1 HYyb
      have HXB := Lib.hid hb
      have HS := Lib.hid k1
      have HGw4 := Lib.hid (grown_trans HGw3.out g2)
      have HG34 := Lib.hid g2
      clear hN k1 k2 hw g2 hb HGw3
      go_upto_region 4 with (first | ((with_reducible refine wpList_here ?_); refine wpList_st (T := 30) (p := .pointer (some ⟨w3.heap.size, 0, none⟩)) (v := .agg (rowOf 52 v3)) (.tmp 13) (.tmp 34) ?_ ?_ ?_ ?_ ?_ (by rw [← HXB.out]; exact HS.out) ?_; (· rfl); (· rfl); go_simp; (· kernel_rfl); (· kernel_rfl)))
      rw [← HXB.out]
      clear HS HXB
      obtain ⟨V0, hV0⟩ : ∃ V0, V0 = w4.drew := ⟨_, rfl⟩
      have hv0 : w4.grownBy V0 none := by rw [hV0]; exact grown_drew (grown_refl w4 none)
      have HV0 := Lib.hid hV0.symm
      have HGw34 := Lib.hid (grown_trans HG34.out hv0)
      have HGV0 := Lib.hid (grown_trans HGw4.out hv0)
      have HG1V := Lib.hid (grown_trans HGw2.out HGV0.out)
      have HC4 := Lib.hid (HC.out.grown HG1V.out (by simp))
      have HY4 := Lib.hid (HYyb.out.grown hv0 (by simp))
      have HRp := Lib.hid (rd_up (HRw2.out) HGw2.out HGV0.out)
      have HFB := Lib.hid (cat_uB (n := n) (cat_uB (n := 0) (fun _ => (by decide : (0 : Nat) < 256)) HFp.out) (fun _ => (by decide : (0 : Nat) < 256)))
      have HNO4 : Hid (distOk (n + 1) (cat n (cat 0 (fun _ => 0) f) (fun _ => 0)) = false) := Lib.hid (HK.out.only HIS1.out (n + 1) (cat n (cat 0 (fun _ => 0) f) (fun _ => 0)) (fun i _ h2 => by
        unfold cat
        rw [if_pos h2, if_neg (by omega), Nat.sub_zero]) (by omega))
      clear hV0 hv0 HYyb HGw4
      go_cut [15, 16] (fun _ s16 wx => s16 = .int .i64 9 ∧ V0.grownBy wx none)
      case first =>
        refine r4_any 54 30 _ 25 52 DV.zero.v #[.int .u8 0, .int .u8 0, .int .u8 0, .int .u8 0, .int .u8 0, .int .u8 0, .int .u8 0, .int .u8 0, .int .u8 0, .int .u8 0, .int .u8 0, .int .u8 0, .int .u8 0, .int .u8 0, .int .u8 0, .int .u8 0, .int .u64 0, .int .u8 0, .int .u8 0, .int .u64 0, .int .u8 0, .int .u8 0, .int .u8 0, .int .u8 0, .int .u8 0, .int .u8 0, .int .u8 0, .int .u8 0, .int .u8 0, .int .u8 0, .int .u8 0, .int .u8 0, .int .u8 0, .int .u8 0, .int .u8 0, .int .u8 0, .int .u8 0, .int .u8 0, .int .u8 0, .int .u8 0, .int .u8 0, .int .u8 0, .int .u8 0, .int .u8 0, .int .u8 0, .int .u8 0, .int .u8 0, .int .u8 0, .int .u8 0, .int .u8 0, .int .u8 0, .int .u8 0] (rowOf 3 codDist) HV0.out (by kernel_rfl) (by kernel_rfl) (fun W hW => ((HC4.out.grown hW (by simp)).load (P := Try.prog) 0 54 3 codDist (by decide) (fun j _ => by rw [Nat.zero_add]) (by kernel_rfl) (by kernel_rfl))) (fun W ev => by unfold execOp; go_simp) HRp.out HN4.out (fun W gB cB hW hB => (HK.out.take cB hB.rd HFB.out (by have := HN4.out; omega)).mono fun e W h => by
          obtain ⟨vv, rfl, h1, _, h3⟩ := h
          rw [HNO4.out]
          exact ⟨vv, rfl, h1, h3⟩) bkDistT_enters (fun _ _ _ _ _ h => h) ?_
        intro x36 x38 x40 x41 x42 x43 x44 x45 x15 W gX
        go_wp2_with fail
        go_meet
        case rel => exact ⟨rfl, gX⟩
      case rest =>
        obtain ⟨rfl, g5⟩ := hcut
        generalize wc = w5 at *
        have HGw5 := Lib.hid (grown_trans HGV0.out g5)
        have HG15 := Lib.hid (grown_trans HG1V.out g5)
        have HY5 := Lib.hid (HY4.out.grown g5 (by simp))
        have HX5 := Lib.hid (HX.out.grown HG15.out (by simp))
        have HSAME := Lib.hid (HK.out.same (HK.out.grown HIS1.out HG15.out) (HK.out.grown HIS3.out (grown_trans HGw34.out g5)))
        have HLX5 := Lib.hid ((HX5.out).load (P := Try.prog) 0 30 52 xv (by decide) (fun j _ => by rw [Nat.zero_add]) (by kernel_rfl) (by kernel_rfl))
        have HLY5 := Lib.hid ((HY5.out).load (P := Try.prog) 0 30 52 v3 (by decide) (fun j _ => by rw [Nat.zero_add]) (by kernel_rfl) (by kernel_rfl))
        clear g5 HY4 HGV0 HG1V HC4 HV0
        go_wp2_with (first | ((with_reducible refine wpList_here ?_); refine wpList_ld (p := .pointer (some ⟨(CB + 1), 0, none⟩)) 6 ?_ ?_ ?_ HLX5.out ?_; (· rfl); go_simp; (· kernel_rfl)) | ((with_reducible refine wpList_here ?_); refine wpList_ld (p := .pointer (some ⟨yb, 0, none⟩)) 13 ?_ ?_ ?_ HLY5.out ?_; (· rfl); go_simp; (· kernel_rfl)))
        go_at_call 39
        refine HSAME.out.mono ?_
        rintro e w6 ⟨rfl, g⟩
        have HGw6 := Lib.hid (grown_trans HGw5.out g)
        clear g HSAME HLX5 HLY5 HY5 HX5 HG15 HGw5
        by_cases h0 : 0 < n
        · have i1 : (n : Int) > 0 := by omega
          obtain ⟨kc, hkc⟩ : ∃ q, q = cut % n := ⟨_, rfl⟩
          have hkl : kc < n := by rw [hkc]; exact Nat.mod_lt _ h0
          have HKC := Lib.hid (show (cut : Int) % (n : Int) = (kc : Int) by rw [hkc]; omega)
          have HKC2 := Lib.hid (show (cut : Int).tmod (n : Int) = (kc : Int) by rw [hkc]; rfl)
          have HKL := Lib.hid hkl
          have HZ8 := Lib.hid (fun W => run_aheadQ ap n cp kc HCP.out (Nat.le_of_lt hkl) W)
          have HNO8 : Hid (distOk kc f = false) := Lib.hid (HK.out.only HIS1.out kc f (fun _ _ _ => rfl) (by omega))
          clear hkc hkl
          go_upto_region 8 with fail
          obtain ⟨V1, hV1⟩ : ∃ V1, V1 = w6.drew := ⟨_, rfl⟩
          have hv1 : w6.grownBy V1 none := by rw [hV1]; exact grown_drew (grown_refl w6 none)
          have HV1 := Lib.hid hV1.symm
          have HGV1 := Lib.hid (grown_trans HGw6.out hv1)
          have HC8 := Lib.hid (HC.out.grown (grown_trans HGw2.out HGV1.out) (by simp))
          have HRk : Hid (Rd V1 V1.heap.size ap kc f) := Lib.hid ⟨fun hk0 => by
            have hr := (rd_up (HRw2.out) HGw2.out HGV1.out).ex (by have := HKL.out; omega)
            obtain ⟨tb, o, q1, q2, q3⟩ := hr
            exact ⟨tb, o, q1, q2, fun i hi => q3 i (by have := HKL.out; omega)⟩⟩
          clear hV1 hv1 HGw6
          go_cut [17, 18] (fun _ s18 wx => s18 = .int .i64 9 ∧ V1.grownBy wx none)
          case first =>
            refine wp_region_held (S := fun W => V1.grownBy W none) (by kernel_rfl) ?_
            change wpAnyH _ _ _ _ _ 14 #[false, false, false, false, false, false, false, false, false, false, false, false, false, false] _ (World.drew _)
            rw [HV1.out]
            have hS : V1.grownBy V1 none := grown_refl V1 _
            refine wpAnyH_takeD (some 63) (i := 0) (v := (.agg (rowOf 3 codDist))) rfl rfl (by kernel_rfl) (by kernel_rfl) (by kernel_rfl) (fun _ _ _ h => h) (Or.inl ⟨rfl, fun W hW => exec_loadQ (.tmp 5) _ _ rfl rfl ((HC8.out.grown hW (by simp)).load (P := Try.prog) 0 54 3 codDist (by decide) (fun j _ => by rw [Nat.zero_add]) (by kernel_rfl) (by kernel_rfl))⟩) hS ?_
            simp only [Act.put, List.setIfInBounds_toArray, List.set_cons_succ, List.set_cons_zero]
            refine wpAnyH_takeD (some 64) (i := 1) (v := (.slice ap n cp)) rfl rfl (by kernel_rfl) (by kernel_rfl) (by kernel_rfl) (fun _ _ _ h => h) (Or.inl ⟨rfl, fun _ _ => rfl⟩) hS ?_
            simp only [Act.put, List.setIfInBounds_toArray, List.set_cons_succ, List.set_cons_zero]
            refine wpAnyH_takeD (some 65) (i := 2) (v := (.int .i64 (cut : Nat))) rfl rfl (by kernel_rfl) (by kernel_rfl) (by kernel_rfl) (fun _ _ _ h => h) (Or.inl ⟨rfl, fun _ _ => rfl⟩) hS ?_
            simp only [Act.put, List.setIfInBounds_toArray, List.set_cons_succ, List.set_cons_zero]
            refine wpAnyH_takeD (some 66) (i := 3) (v := (.slice ap n cp)) rfl rfl (by kernel_rfl) (by kernel_rfl) (by kernel_rfl) (fun _ _ _ h => h) (Or.inl ⟨rfl, fun _ _ => rfl⟩) hS ?_
            simp only [Act.put, List.setIfInBounds_toArray, List.set_cons_succ, List.set_cons_zero]
            refine wpAnyH_takeD (some 67) (i := 4) (v := (.int .i64 (n : Nat))) rfl rfl (by kernel_rfl) (by kernel_rfl) (by kernel_rfl) (fun _ _ _ h => h) (Or.inl ⟨rfl, fun _ _ => by go_simp⟩) hS ?_
            simp only [Act.put, List.setIfInBounds_toArray, List.set_cons_succ, List.set_cons_zero]
            refine wpAnyH_takeD (some 68) (i := 5) (v := (.int .i64 (kc : Nat))) rfl rfl (by kernel_rfl) (by kernel_rfl) (by kernel_rfl) (fun _ _ _ h => h) (Or.inl ⟨rfl, fun _ _ => by have hq := HKC.out; have hq2 := HKC2.out; go_simp; have := HKL.out; omega⟩) hS ?_
            simp only [Act.put, List.setIfInBounds_toArray, List.set_cons_succ, List.set_cons_zero]
            refine wpAnyH_takeD (some 69) (i := 6) (v := (.slice ap kc cp)) rfl rfl (by kernel_rfl) (by kernel_rfl) (by kernel_rfl) (fun _ _ _ h => h) (Or.inl ⟨rfl, fun W _ => by have z := HZ8.out W; go_simp⟩) hS ?_
            simp only [Act.put, List.setIfInBounds_toArray, List.set_cons_succ, List.set_cons_zero]
            refine wpAnyH_both (i := 7) (j := 11) (by kernel_rfl) ?_ ?_
            · have hA0 := hS
              refine op_callR (R := fun v W => ∃ vv : Nat → Value, v = .tuple #[.agg (rowOf 52 vv), .int .i64 9] ∧ (∀ j, (vv j).oneCell' = true) ∧ V1.grownBy W none) (some 70) 25 #[.agg (rowOf 3 codDist), .slice ap kc cp] rfl rfl rfl (exec_fn2 _ _ _ _ _ rfl rfl rfl) bkDistT_enters (((HK.out.take cp (HRk.out.grown hS (by simp)) HFp.out (by have := HN4.out; have := HKL.out; omega)).mono fun e W h => by
                obtain ⟨vv, rfl, h1, _, h3⟩ := h
                rw [HNO8.out]
                exact ⟨_, rfl, vv, rfl, h1, h3⟩)) ?_
              rintro v u1 ⟨vv, rfl, h1v, gn⟩
              replace hS := grown_trans hS gn
              clear gn hA0
              refine ⟨hS, ?_⟩
              simp only [Act.put, List.setIfInBounds_toArray, List.set_cons_succ, List.set_cons_zero]
              refine wpAnyH_takeD (some 62) (i := 8) (v := (.tuple #[.agg (rowOf 52 vv), .int .i64 9])) rfl rfl (by kernel_rfl) (by kernel_rfl) (by kernel_rfl) (fun _ _ _ h => h) (Or.inl ⟨rfl, fun _ _ => rfl⟩) hS ?_
              simp only [Act.put, List.setIfInBounds_toArray, List.set_cons_succ, List.set_cons_zero]
              refine wpAnyH_takeD (some 71) (i := 9) (v := (.agg (rowOf 52 vv))) rfl rfl (by kernel_rfl) (by kernel_rfl) (by kernel_rfl) (fun _ _ _ h => h) (Or.inl ⟨rfl, fun _ _ => by go_simp⟩) hS ?_
              simp only [Act.put, List.setIfInBounds_toArray, List.set_cons_succ, List.set_cons_zero]
              refine wpAnyH_takeD (some 72) (i := 10) (v := (.int .i64 9)) rfl rfl (by kernel_rfl) (by kernel_rfl) (by kernel_rfl) (fun _ _ _ h => h) (Or.inl ⟨rfl, fun _ _ => by go_simp⟩) hS ?_
              simp only [Act.put, List.setIfInBounds_toArray, List.set_cons_succ, List.set_cons_zero]
              refine wpAnyH_one (i := 11) (by kernel_rfl) ?_
              have hYb : V1.heap.size ≤ u1.heap.size := hS.size
              have hY := RowAt.new u1 30 52 DV.zero.v #[.int .u8 0, .int .u8 0, .int .u8 0, .int .u8 0, .int .u8 0, .int .u8 0, .int .u8 0, .int .u8 0, .int .u8 0, .int .u8 0, .int .u8 0, .int .u8 0, .int .u8 0, .int .u8 0, .int .u8 0, .int .u8 0, .int .u64 0, .int .u8 0, .int .u8 0, .int .u64 0, .int .u8 0, .int .u8 0, .int .u8 0, .int .u8 0, .int .u8 0, .int .u8 0, .int .u8 0, .int .u8 0, .int .u8 0, .int .u8 0, .int .u8 0, .int .u8 0, .int .u8 0, .int .u8 0, .int .u8 0, .int .u8 0, .int .u8 0, .int .u8 0, .int .u8 0, .int .u8 0, .int .u8 0, .int .u8 0, .int .u8 0, .int .u8 0, .int .u8 0, .int .u8 0, .int .u8 0, .int .u8 0, .int .u8 0, .int .u8 0, .int .u8 0, .int .u8 0] (by kernel_rfl)
              refine op_yield (some 17) (v := .pointer (some ⟨u1.heap.size, 0, none⟩)) (w' := u1.alloc (.cells #[.int .u8 0, .int .u8 0, .int .u8 0, .int .u8 0, .int .u8 0, .int .u8 0, .int .u8 0, .int .u8 0, .int .u8 0, .int .u8 0, .int .u8 0, .int .u8 0, .int .u8 0, .int .u8 0, .int .u8 0, .int .u8 0, .int .u64 0, .int .u8 0, .int .u8 0, .int .u64 0, .int .u8 0, .int .u8 0, .int .u8 0, .int .u8 0, .int .u8 0, .int .u8 0, .int .u8 0, .int .u8 0, .int .u8 0, .int .u8 0, .int .u8 0, .int .u8 0, .int .u8 0, .int .u8 0, .int .u8 0, .int .u8 0, .int .u8 0, .int .u8 0, .int .u8 0, .int .u8 0, .int .u8 0, .int .u8 0, .int .u8 0, .int .u8 0, .int .u8 0, .int .u8 0, .int .u8 0, .int .u8 0, .int .u8 0, .int .u8 0, .int .u8 0, .int .u8 0] 30)) rfl rfl rfl (by unfold execOp; go_simp) (grown_alloc hS _) ?_
              simp only [Act.put, List.setIfInBounds_toArray, List.set_cons_succ, List.set_cons_zero]
              replace hS := grown_alloc hS (.cells #[.int .u8 0, .int .u8 0, .int .u8 0, .int .u8 0, .int .u8 0, .int .u8 0, .int .u8 0, .int .u8 0, .int .u8 0, .int .u8 0, .int .u8 0, .int .u8 0, .int .u8 0, .int .u8 0, .int .u8 0, .int .u8 0, .int .u64 0, .int .u8 0, .int .u8 0, .int .u64 0, .int .u8 0, .int .u8 0, .int .u8 0, .int .u8 0, .int .u8 0, .int .u8 0, .int .u8 0, .int .u8 0, .int .u8 0, .int .u8 0, .int .u8 0, .int .u8 0, .int .u8 0, .int .u8 0, .int .u8 0, .int .u8 0, .int .u8 0, .int .u8 0, .int .u8 0, .int .u8 0, .int .u8 0, .int .u8 0, .int .u8 0, .int .u8 0, .int .u8 0, .int .u8 0, .int .u8 0, .int .u8 0, .int .u8 0, .int .u8 0, .int .u8 0, .int .u8 0] 30)
              generalize u1.alloc (.cells #[.int .u8 0, .int .u8 0, .int .u8 0, .int .u8 0, .int .u8 0, .int .u8 0, .int .u8 0, .int .u8 0, .int .u8 0, .int .u8 0, .int .u8 0, .int .u8 0, .int .u8 0, .int .u8 0, .int .u8 0, .int .u8 0, .int .u64 0, .int .u8 0, .int .u8 0, .int .u64 0, .int .u8 0, .int .u8 0, .int .u8 0, .int .u8 0, .int .u8 0, .int .u8 0, .int .u8 0, .int .u8 0, .int .u8 0, .int .u8 0, .int .u8 0, .int .u8 0, .int .u8 0, .int .u8 0, .int .u8 0, .int .u8 0, .int .u8 0, .int .u8 0, .int .u8 0, .int .u8 0, .int .u8 0, .int .u8 0, .int .u8 0, .int .u8 0, .int .u8 0, .int .u8 0, .int .u8 0, .int .u8 0, .int .u8 0, .int .u8 0, .int .u8 0, .int .u8 0] 30) = u2 at *
              obtain ⟨k1, k2⟩ := RowAt.store (P := Try.prog) hY 0 30 52 vv (by decide) (by kernel_rfl) (fun j _ => h1v j)
              have gX : V1.grownBy (u2.setCells u1.heap.size 0 (rowOf 52 vv).toList) none := grown_setCells u1.heap.size (Or.inl hYb) _ 0 _ hS
              refine wpAnyH_skipQ (i := 12) (by kernel_rfl) rfl rfl rfl (exec_storeQ (.tmp 17) (.tmp 71) _ _ rfl rfl rfl k1) gX ?_
              simp only [List.setIfInBounds_toArray, List.set_cons_succ, List.set_cons_zero]
              refine wpAnyH_yieldD (some 18) (i := 13) (v := .int .i64 9) (by kernel_rfl) rfl rfl rfl (by unfold execOp; go_simp) gX ?_
              simp only [Act.put, List.setIfInBounds_toArray, List.set_cons_succ, List.set_cons_zero]
              refine wpAnyH_done (by kernel_rfl) ?_ _
              clear k1 k2 hY h1v hS
              go_wp2_with fail
              go_meet
              case rel => exact ⟨rfl, gX⟩
            · have hA0 := hS
              have hYb : V1.heap.size ≤ V1.heap.size := hS.size
              have hY := RowAt.new V1 30 52 DV.zero.v #[.int .u8 0, .int .u8 0, .int .u8 0, .int .u8 0, .int .u8 0, .int .u8 0, .int .u8 0, .int .u8 0, .int .u8 0, .int .u8 0, .int .u8 0, .int .u8 0, .int .u8 0, .int .u8 0, .int .u8 0, .int .u8 0, .int .u64 0, .int .u8 0, .int .u8 0, .int .u64 0, .int .u8 0, .int .u8 0, .int .u8 0, .int .u8 0, .int .u8 0, .int .u8 0, .int .u8 0, .int .u8 0, .int .u8 0, .int .u8 0, .int .u8 0, .int .u8 0, .int .u8 0, .int .u8 0, .int .u8 0, .int .u8 0, .int .u8 0, .int .u8 0, .int .u8 0, .int .u8 0, .int .u8 0, .int .u8 0, .int .u8 0, .int .u8 0, .int .u8 0, .int .u8 0, .int .u8 0, .int .u8 0, .int .u8 0, .int .u8 0, .int .u8 0, .int .u8 0] (by kernel_rfl)
              refine op_yield (some 17) (v := .pointer (some ⟨V1.heap.size, 0, none⟩)) (w' := V1.alloc (.cells #[.int .u8 0, .int .u8 0, .int .u8 0, .int .u8 0, .int .u8 0, .int .u8 0, .int .u8 0, .int .u8 0, .int .u8 0, .int .u8 0, .int .u8 0, .int .u8 0, .int .u8 0, .int .u8 0, .int .u8 0, .int .u8 0, .int .u64 0, .int .u8 0, .int .u8 0, .int .u64 0, .int .u8 0, .int .u8 0, .int .u8 0, .int .u8 0, .int .u8 0, .int .u8 0, .int .u8 0, .int .u8 0, .int .u8 0, .int .u8 0, .int .u8 0, .int .u8 0, .int .u8 0, .int .u8 0, .int .u8 0, .int .u8 0, .int .u8 0, .int .u8 0, .int .u8 0, .int .u8 0, .int .u8 0, .int .u8 0, .int .u8 0, .int .u8 0, .int .u8 0, .int .u8 0, .int .u8 0, .int .u8 0, .int .u8 0, .int .u8 0, .int .u8 0, .int .u8 0] 30)) rfl rfl rfl (by unfold execOp; go_simp) (grown_alloc hS _) ?_
              simp only [Act.put, List.setIfInBounds_toArray, List.set_cons_succ, List.set_cons_zero]
              replace hS := grown_alloc hS (.cells #[.int .u8 0, .int .u8 0, .int .u8 0, .int .u8 0, .int .u8 0, .int .u8 0, .int .u8 0, .int .u8 0, .int .u8 0, .int .u8 0, .int .u8 0, .int .u8 0, .int .u8 0, .int .u8 0, .int .u8 0, .int .u8 0, .int .u64 0, .int .u8 0, .int .u8 0, .int .u64 0, .int .u8 0, .int .u8 0, .int .u8 0, .int .u8 0, .int .u8 0, .int .u8 0, .int .u8 0, .int .u8 0, .int .u8 0, .int .u8 0, .int .u8 0, .int .u8 0, .int .u8 0, .int .u8 0, .int .u8 0, .int .u8 0, .int .u8 0, .int .u8 0, .int .u8 0, .int .u8 0, .int .u8 0, .int .u8 0, .int .u8 0, .int .u8 0, .int .u8 0, .int .u8 0, .int .u8 0, .int .u8 0, .int .u8 0, .int .u8 0, .int .u8 0, .int .u8 0] 30)
              generalize V1.alloc (.cells #[.int .u8 0, .int .u8 0, .int .u8 0, .int .u8 0, .int .u8 0, .int .u8 0, .int .u8 0, .int .u8 0, .int .u8 0, .int .u8 0, .int .u8 0, .int .u8 0, .int .u8 0, .int .u8 0, .int .u8 0, .int .u8 0, .int .u64 0, .int .u8 0, .int .u8 0, .int .u64 0, .int .u8 0, .int .u8 0, .int .u8 0, .int .u8 0, .int .u8 0, .int .u8 0, .int .u8 0, .int .u8 0, .int .u8 0, .int .u8 0, .int .u8 0, .int .u8 0, .int .u8 0, .int .u8 0, .int .u8 0, .int .u8 0, .int .u8 0, .int .u8 0, .int .u8 0, .int .u8 0, .int .u8 0, .int .u8 0, .int .u8 0, .int .u8 0, .int .u8 0, .int .u8 0, .int .u8 0, .int .u8 0, .int .u8 0, .int .u8 0, .int .u8 0, .int .u8 0] 30) = u1 at *
              refine wpAnyH_one (i := 7) (by kernel_rfl) ?_
              refine op_callR (R := fun v W => ∃ vv : Nat → Value, v = .tuple #[.agg (rowOf 52 vv), .int .i64 9] ∧ (∀ j, (vv j).oneCell' = true) ∧ u1.grownBy W none) (some 70) 25 #[.agg (rowOf 3 codDist), .slice ap kc cp] rfl rfl rfl (exec_fn2 _ _ _ _ _ rfl rfl rfl) bkDistT_enters (((HK.out.take cp (HRk.out.grown hS (by simp)) HFp.out (by have := HN4.out; have := HKL.out; omega)).mono fun e W h => by
                obtain ⟨vv, rfl, h1, _, h3⟩ := h
                rw [HNO8.out]
                exact ⟨_, rfl, vv, rfl, h1, h3⟩)) ?_
              rintro v u2 ⟨vv, rfl, h1v, gn⟩
              replace hY := hY.grown gn (by simp)
              replace hS := grown_trans hS gn
              clear gn hA0
              refine ⟨hS, ?_⟩
              simp only [Act.put, List.setIfInBounds_toArray, List.set_cons_succ, List.set_cons_zero]
              refine wpAnyH_takeD (some 62) (i := 8) (v := (.tuple #[.agg (rowOf 52 vv), .int .i64 9])) rfl rfl (by kernel_rfl) (by kernel_rfl) (by kernel_rfl) (fun _ _ _ h => h) (Or.inl ⟨rfl, fun _ _ => rfl⟩) hS ?_
              simp only [Act.put, List.setIfInBounds_toArray, List.set_cons_succ, List.set_cons_zero]
              refine wpAnyH_takeD (some 71) (i := 9) (v := (.agg (rowOf 52 vv))) rfl rfl (by kernel_rfl) (by kernel_rfl) (by kernel_rfl) (fun _ _ _ h => h) (Or.inl ⟨rfl, fun _ _ => by go_simp⟩) hS ?_
              simp only [Act.put, List.setIfInBounds_toArray, List.set_cons_succ, List.set_cons_zero]
              refine wpAnyH_takeD (some 72) (i := 10) (v := (.int .i64 9)) rfl rfl (by kernel_rfl) (by kernel_rfl) (by kernel_rfl) (fun _ _ _ h => h) (Or.inl ⟨rfl, fun _ _ => by go_simp⟩) hS ?_
              simp only [Act.put, List.setIfInBounds_toArray, List.set_cons_succ, List.set_cons_zero]
              obtain ⟨k1, k2⟩ := RowAt.store (P := Try.prog) hY 0 30 52 vv (by decide) (by kernel_rfl) (fun j _ => h1v j)
              have gX : V1.grownBy (u2.setCells V1.heap.size 0 (rowOf 52 vv).toList) none := grown_setCells V1.heap.size (Or.inl hYb) _ 0 _ hS
              refine wpAnyH_skipQ (i := 12) (by kernel_rfl) rfl rfl rfl (exec_storeQ (.tmp 17) (.tmp 71) _ _ rfl rfl rfl k1) gX ?_
              simp only [List.setIfInBounds_toArray, List.set_cons_succ, List.set_cons_zero]
              refine wpAnyH_yieldD (some 18) (i := 13) (v := .int .i64 9) (by kernel_rfl) rfl rfl rfl (by unfold execOp; go_simp) gX ?_
              simp only [Act.put, List.setIfInBounds_toArray, List.set_cons_succ, List.set_cons_zero]
              refine wpAnyH_done (by kernel_rfl) ?_ _
              clear k1 k2 hY h1v hS
              go_wp2_with fail
              go_meet
              case rel => exact ⟨rfl, gX⟩
          case rest =>
            obtain ⟨rfl, g9⟩ := hcut
            have HGe := Lib.hid (grown_trans HGV1.out g9)
            clear g9
            go_wp2_with fail
            go_meet
            case rel => exact HGe.out
        · have i1 : ¬ (n : Int) > 0 := by omega
          go_wp2_with fail
          go_meet
          case rel => exact HGw6.out
  case rest =>
    generalize wc = w20 at *
    have HG20 := Lib.hid (grown_trans HGw2.out hcut)
    have HGA := Lib.hid (grown_trans HG1.out HG20.out)
    have HRb := Lib.hid (HR.out.grown HGA.out (fun k e => by cases e))
    have HLC20 := Lib.hid (((HC.out.grown HG20.out (by simp))).load (P := Try.prog) 0 54 3 codDist (by decide) (fun j _ => by rw [Nat.zero_add]) (by kernel_rfl) (by kernel_rfl))
    clear hcut HO HE HNP HIs HGw2
    go_wp2_with (first | ((with_reducible refine wpList_here ?_); refine wpList_ld (p := .pointer (some ⟨CB, 0, none⟩)) 5 ?_ ?_ ?_ HLC20.out ?_; (· rfl); go_simp; (· kernel_rfl)))
    go_at_call 25
    refine (HK.out.take c HRb.out HF.out (by have := HL.out; omega)).mono ?_
    rintro e w21 ⟨v, rfl, h1, h2, g⟩
    have H1V := Lib.hid h1
    have H2V := Lib.hid h2
    have HGw21 := Lib.hid g
    clear h1 h2 g HLC20
    cases hok : distOk L F with
    | false =>
      rw [show errT false = 9 from rfl]
      clear hok H2V
      have hN := RowAt.new w21 30 52 DV.zero.v #[.int .u8 0, .int .u8 0, .int .u8 0, .int .u8 0, .int .u8 0, .int .u8 0, .int .u8 0, .int .u8 0, .int .u8 0, .int .u8 0, .int .u8 0, .int .u8 0, .int .u8 0, .int .u8 0, .int .u8 0, .int .u8 0, .int .u64 0, .int .u8 0, .int .u8 0, .int .u64 0, .int .u8 0, .int .u8 0, .int .u8 0, .int .u8 0, .int .u8 0, .int .u8 0, .int .u8 0, .int .u8 0, .int .u8 0, .int .u8 0, .int .u8 0, .int .u8 0, .int .u8 0, .int .u8 0, .int .u8 0, .int .u8 0, .int .u8 0, .int .u8 0, .int .u8 0, .int .u8 0, .int .u8 0, .int .u8 0, .int .u8 0, .int .u8 0, .int .u8 0, .int .u8 0, .int .u8 0, .int .u8 0, .int .u8 0, .int .u8 0, .int .u8 0, .int .u8 0] (by kernel_rfl)
      obtain ⟨k1, k2⟩ := RowAt.store (P := Try.prog) hN 0 30 52 v (by decide) (by kernel_rfl) (fun j _ => H1V.out j)
      obtain ⟨w22, hw⟩ : ∃ W, W = (w21.alloc (.cells #[.int .u8 0, .int .u8 0, .int .u8 0, .int .u8 0, .int .u8 0, .int .u8 0, .int .u8 0, .int .u8 0, .int .u8 0, .int .u8 0, .int .u8 0, .int .u8 0, .int .u8 0, .int .u8 0, .int .u8 0, .int .u8 0, .int .u64 0, .int .u8 0, .int .u8 0, .int .u64 0, .int .u8 0, .int .u8 0, .int .u8 0, .int .u8 0, .int .u8 0, .int .u8 0, .int .u8 0, .int .u8 0, .int .u8 0, .int .u8 0, .int .u8 0, .int .u8 0, .int .u8 0, .int .u8 0, .int .u8 0, .int .u8 0, .int .u8 0, .int .u8 0, .int .u8 0, .int .u8 0, .int .u8 0, .int .u8 0, .int .u8 0, .int .u8 0, .int .u8 0, .int .u8 0, .int .u8 0, .int .u8 0, .int .u8 0, .int .u8 0, .int .u8 0, .int .u8 0] 30)).setCells w21.heap.size 0 (rowOf 52 v).toList := ⟨_, rfl⟩
      have g2 : w21.grownBy w22 none := by rw [hw]; exact grown_setCells w21.heap.size (Or.inl (Nat.le_refl _)) _ 0 _ (World.grownBy_alloc w21 _ none)
      rw [← hw] at k1 k2
      have HYyb := Lib.hid (k2.congr (v' := v) fun i hi => by rw [if_pos ⟨Nat.zero_le _, by omega⟩, Nat.sub_zero])
      obtain ⟨yb, hb⟩ : ∃ b, b = w21.heap.size := ⟨_, rfl⟩
      rw [← hb] at k1 HYyb
      have HXB := Lib.hid hb
      have HS := Lib.hid k1
      have HGw22 := Lib.hid (grown_trans HGw21.out g2)
      have HG34 := Lib.hid g2
      clear hN k1 k2 hw g2 hb HGw21
      go_upto_region 12 with (first | ((with_reducible refine wpList_here ?_); refine wpList_st (T := 30) (p := .pointer (some ⟨w21.heap.size, 0, none⟩)) (v := .agg (rowOf 52 v)) (.tmp 19) (.tmp 79) ?_ ?_ ?_ ?_ ?_ (by rw [← HXB.out]; exact HS.out) ?_; (· rfl); (· rfl); go_simp; (· kernel_rfl); (· kernel_rfl)))
      rw [← HXB.out]
      clear HS HXB
      go_wp2_with fail
      go_ret
      exact ⟨rfl, grown_trans HGA.out HGw22.out⟩
    | true =>
      rw [show errT true = 0 from rfl]
      have HIS21 := Lib.hid (H2V.out hok)
      clear hok H2V
      have hN := RowAt.new w21 30 52 DV.zero.v #[.int .u8 0, .int .u8 0, .int .u8 0, .int .u8 0, .int .u8 0, .int .u8 0, .int .u8 0, .int .u8 0, .int .u8 0, .int .u8 0, .int .u8 0, .int .u8 0, .int .u8 0, .int .u8 0, .int .u8 0, .int .u8 0, .int .u64 0, .int .u8 0, .int .u8 0, .int .u64 0, .int .u8 0, .int .u8 0, .int .u8 0, .int .u8 0, .int .u8 0, .int .u8 0, .int .u8 0, .int .u8 0, .int .u8 0, .int .u8 0, .int .u8 0, .int .u8 0, .int .u8 0, .int .u8 0, .int .u8 0, .int .u8 0, .int .u8 0, .int .u8 0, .int .u8 0, .int .u8 0, .int .u8 0, .int .u8 0, .int .u8 0, .int .u8 0, .int .u8 0, .int .u8 0, .int .u8 0, .int .u8 0, .int .u8 0, .int .u8 0, .int .u8 0, .int .u8 0] (by kernel_rfl)
      obtain ⟨k1, k2⟩ := RowAt.store (P := Try.prog) hN 0 30 52 v (by decide) (by kernel_rfl) (fun j _ => H1V.out j)
      obtain ⟨w22, hw⟩ : ∃ W, W = (w21.alloc (.cells #[.int .u8 0, .int .u8 0, .int .u8 0, .int .u8 0, .int .u8 0, .int .u8 0, .int .u8 0, .int .u8 0, .int .u8 0, .int .u8 0, .int .u8 0, .int .u8 0, .int .u8 0, .int .u8 0, .int .u8 0, .int .u8 0, .int .u64 0, .int .u8 0, .int .u8 0, .int .u64 0, .int .u8 0, .int .u8 0, .int .u8 0, .int .u8 0, .int .u8 0, .int .u8 0, .int .u8 0, .int .u8 0, .int .u8 0, .int .u8 0, .int .u8 0, .int .u8 0, .int .u8 0, .int .u8 0, .int .u8 0, .int .u8 0, .int .u8 0, .int .u8 0, .int .u8 0, .int .u8 0, .int .u8 0, .int .u8 0, .int .u8 0, .int .u8 0, .int .u8 0, .int .u8 0, .int .u8 0, .int .u8 0, .int .u8 0, .int .u8 0, .int .u8 0, .int .u8 0] 30)).setCells w21.heap.size 0 (rowOf 52 v).toList := ⟨_, rfl⟩
      have g2 : w21.grownBy w22 none := by rw [hw]; exact grown_setCells w21.heap.size (Or.inl (Nat.le_refl _)) _ 0 _ (World.grownBy_alloc w21 _ none)
      rw [← hw] at k1 k2
      have HYyb := Lib.hid (k2.congr (v' := v) fun i hi => by rw [if_pos ⟨Nat.zero_le _, by omega⟩, Nat.sub_zero])
      obtain ⟨yb, hb⟩ : ∃ b, b = w21.heap.size := ⟨_, rfl⟩
      rw [← hb] at k1 HYyb
      have HXB := Lib.hid hb
      have HS := Lib.hid k1
      have HGw22 := Lib.hid (grown_trans HGw21.out g2)
      have HG34 := Lib.hid g2
      clear hN k1 k2 hw g2 hb HGw21
      go_upto_region 14 with (first | ((with_reducible refine wpList_here ?_); refine wpList_st (T := 30) (p := .pointer (some ⟨w21.heap.size, 0, none⟩)) (v := .agg (rowOf 52 v)) (.tmp 19) (.tmp 79) ?_ ?_ ?_ ?_ ?_ (by rw [← HXB.out]; exact HS.out) ?_; (· rfl); (· rfl); go_simp; (· kernel_rfl); (· kernel_rfl)))
      rw [← HXB.out]
      clear HS HXB
      have HIS22 := Lib.hid (HK.out.grown HIS21.out HG34.out)
      have HGC := Lib.hid (grown_trans HG20.out HGw22.out)
      have HLC22 := Lib.hid (((HC.out.grown HGC.out (by simp))).load (P := Try.prog) 0 54 3 codDist (by decide) (fun j _ => by rw [Nat.zero_add]) (by kernel_rfl) (by kernel_rfl))
      have HLY22 := Lib.hid ((HYyb.out).load (P := Try.prog) 0 30 52 v (by decide) (fun j _ => by rw [Nat.zero_add]) (by kernel_rfl) (by kernel_rfl))
      have HP22 := Lib.hid (HK.out.put HIS22.out)
      clear HIS21 HG34
      go_wp2_with (first | ((with_reducible refine wpList_here ?_); refine wpList_ld (p := .pointer (some ⟨CB, 0, none⟩)) 5 ?_ ?_ ?_ HLC22.out ?_; (· rfl); go_simp; (· kernel_rfl)) | ((with_reducible refine wpList_here ?_); refine wpList_ld (p := .pointer (some ⟨yb, 0, none⟩)) 19 ?_ ?_ ?_ HLY22.out ?_; (· rfl); go_simp; (· kernel_rfl)))
      go_at_call 59
      refine HP22.out.mono ?_
      rintro e w23 ⟨⟨ap, cp, rfl, hO⟩, g⟩
      rw [show (.slice ap (if true = true then L else 0) cp : Value) = .slice ap L cp from rfl, show (.int .i64 (if true = true then 0 else 2) : Value) = .int .i64 0 from rfl]
      have hO : OwnN w23 w22.heap.size (.slice ap L cp) L F := hO
      obtain ⟨_, hRp⟩ := own_rd hO
      have HGw23 := Lib.hid (grown_trans HGw22.out g)
      have hsp := run_string cp hRp HF.out
      have hsb := run_string c (HRb.out.grown HGw23.out (fun k e => by cases e)) HF.out
      obtain ⟨sx, hsx⟩ : ∃ s, s = strOf L F := ⟨_, rfl⟩
      rw [← hsx] at hsp hsb
      clear g hO hRp HP22 HLC22 HLY22 HGw22 hsx HYyb HIS22 HGC
      go_wp2_with fail
      go_ret
      exact ⟨rfl, grown_trans HGA.out HGw23.out⟩
end Go.Proofs.Ytmbefbmpjkbnmaa
namespace Go.Proofs.Ytmbefbmpjkbnmaa
open Go.RowKit Go.Shelf

set_option maxRecDepth 100000
set_option maxHeartbeats 4000000

theorem bkHdrT_enters (args : Array Value) (w : World) : (callFunc 30 args).run Try.prog w = .ok (.enter 30 args) w := enters_of Try.func30 (by kernel_rfl) rfl args w
theorem backHdr_any (xv : Nat → Value) (L c D cut : Nat) (a : Option Addr) (F : Nat → Nat) (w : World) (hx : (∃ n f, IsH w xv n f) ∨ ∀ W, w.grownBy W none → Calls Try.prog 53 #[.agg (rowOf 3 codHdr), .agg (rowOf 34 xv)] W (PutSays W false 0 (fun _ => 0))) (hR : Rd w D a L F) (hF : ∀ i, F i < 256) (hc : L ≤ c) (hL : L ≤ 9000) :
    Calls Try.prog 40 #[.agg (rowOf 3 codHdr), .agg (rowOf 34 xv), .slice a L c, .int .i64 (cut : Nat), .func (.func 41) #[] #[]] w fun e w' => e = .returned (.bool true) ∧ w.grownBy w' none := by
  have HK := Lib.hid kHdr
  have ga := World.grownBy_alloc w (.cells (rowOf 3 codHdr) 61) none
  have hz := World.size_alloc w (.cells (rowOf 3 codHdr) 61)
  have hC := RowAt.new w 61 3 codHdr _ rfl
  have gb := World.grownBy_alloc (w.alloc (.cells (rowOf 3 codHdr) 61)) (.cells (rowOf 34 xv) 36) none
  have hX := RowAt.new (w.alloc (.cells (rowOf 3 codHdr) 61)) 36 34 xv _ rfl
  rw [hz] at hX
  replace hC := hC.grown gb (by simp)
  have HG0 := Lib.hid (grown_trans ga gb)
  have HX0 := Lib.hid hx
  have HR := Lib.hid hR
  have HF := Lib.hid hF
  have HLC := Lib.hid hc
  have HL := Lib.hid hL
  clear ga gb hz hx hR hF hc hL
  go_enter Try.func40, Try.ntmps40
  go_upto_region 1 with fail
  obtain ⟨CB, hCB⟩ : ∃ B, B = w.heap.size := ⟨_, rfl⟩
  rw [← hCB] at hC hX ⊢
  generalize (w.alloc (.cells (rowOf 3 codHdr) 61)).alloc (.cells (rowOf 34 xv) 36) = w1 at *
  have HC := Lib.hid hC
  have HX := Lib.hid hX
  have HG1 := HG0
  clear hC hX hCB HG0
  have HLC1 := Lib.hid ((HC.out).load (P := Try.prog) 0 61 3 codHdr (by decide) (fun j _ => by rw [Nat.zero_add]) (by kernel_rfl) (by kernel_rfl))
  have HLX1 := Lib.hid ((HX.out).load (P := Try.prog) 0 36 34 xv (by decide) (fun j _ => by rw [Nat.zero_add]) (by kernel_rfl) (by kernel_rfl))
  obtain ⟨m, n, f, hIs, hP⟩ : ∃ (m : Bool) (n : Nat) (f : Nat → Nat), (m = true → IsH w1 xv n f) ∧ Calls Try.prog 53 #[.agg (rowOf 3 codHdr), .agg (rowOf 34 xv)] w1 (PutSays w1 m n f) := by
    rcases HX0.out with ⟨n, f, hIs⟩ | hno
    · have h := HK.out.grown hIs HG1.out
      exact ⟨true, n, f, fun _ => h, HK.out.put h⟩
    · exact ⟨false, 0, fun _ => 0, fun e => absurd e (by decide), hno w1 HG1.out⟩
  have HP := Lib.hid hP
  have HIs := Lib.hid hIs
  clear hP hIs HX0
  go_wp2_with (first | ((with_reducible refine wpList_here ?_); refine wpList_ld (p := .pointer (some ⟨CB, 0, none⟩)) 5 ?_ ?_ ?_ HLC1.out ?_; (· rfl); go_simp; (· kernel_rfl)) | ((with_reducible refine wpList_here ?_); refine wpList_ld (p := .pointer (some ⟨(CB + 1), 0, none⟩)) 6 ?_ ?_ ?_ HLX1.out ?_; (· rfl); go_simp; (· kernel_rfl)))
  go_at_call 53
  refine HP.out.mono ?_
  rintro e w2 ⟨⟨ap, cp, rfl, hO⟩, g⟩
  have HGw2 := Lib.hid g
  have HO := Lib.hid hO
  clear g hO HP HLC1 HLX1
  obtain ⟨E, hE⟩ : ∃ E : Int, E = if m = true then 0 else 2 := ⟨_, rfl⟩
  obtain ⟨np, hnp⟩ : ∃ q, q = if m = true then n else 0 := ⟨_, rfl⟩
  rw [← hE, ← hnp]
  rw [← hnp] at HO
  have HE := Lib.hid hE
  have HNP := Lib.hid hnp
  clear hE hnp
  go_upto_if 29 with fail
  go_cut [13] (fun _ wx => w2.grownBy wx none)
  case first =>
    cases m with
    | false =>
      obtain rfl : E = 2 := HE.out
      clear HE HNP HO
      go_wp2_with fail
      go_meet
      case rel => exact grown_refl w2 none
    | true =>
      obtain rfl : E = 0 := HE.out
      obtain rfl : n = np := HNP.out.symm
      have hO := HO.out
      have HIS1 := Lib.hid (HIs.out rfl)
      have hln := HK.out.len HIS1.out
      have HN4 := Lib.hid hln
      have HFp := Lib.hid (HK.out.byt HIS1.out)
      clear HE HNP HO HIs hln
      obtain ⟨hcp, hRp⟩ := own_rd hO
      have HCP := Lib.hid hcp
      have HRw2 := Lib.hid hRp
      clear hO hcp hRp
      have HLC2 := Lib.hid (((HC.out.grown HGw2.out (by simp))).load (P := Try.prog) 0 61 3 codHdr (by decide) (fun j _ => by rw [Nat.zero_add]) (by kernel_rfl) (by kernel_rfl))
      go_wp2_with (first | ((with_reducible refine wpList_here ?_); refine wpList_ld (p := .pointer (some ⟨CB, 0, none⟩)) 5 ?_ ?_ ?_ HLC2.out ?_; (· rfl); go_simp; (· kernel_rfl)))
      go_at_call 30
      refine (HK.out.take cp HRw2.out HFp.out (by have := HN4.out; omega)).mono ?_
      rintro e w3 ⟨v3, rfl, h1, h2, g⟩
      have hok : hdrOkF n f = true := HK.out.isok HIS1.out f (fun _ _ => rfl)
      rw [show errT (hdrOkF n f) = 0 by rw [hok]; rfl]
      have HIS3 := Lib.hid (h2 hok)
      have H13 := Lib.hid h1
      have HGw3 := Lib.hid g
      clear h1 h2 g hok HLC2
      have hN := RowAt.new w3 36 34 HV.zero.v #[.int .u8 0, .int .u8 0, .int .u8 0, .int .u8 0, .int .u8 0, .int .u8 0, .int .u8 0, .int .u8 0, .int .u8 0, .int .u8 0, .int .u8 0, .int .u8 0, .int .u8 0, .int .u8 0, .int .u8 0, .int .u8 0, .int .u8 0, .int .u8 0, .int .u8 0, .int .u8 0, .int .u8 0, .int .u8 0, .int .u8 0, .int .u8 0, .int .u8 0, .int .u8 0, .int .u8 0, .int .u8 0, .int .u8 0, .int .u8 0, .int .u8 0, .int .u8 0, .int .u32 0, .int .u32 0] (by kernel_rfl)
      obtain ⟨k1, k2⟩ := RowAt.store (P := Try.prog) hN 0 36 34 v3 (by decide) (by kernel_rfl) (fun j _ => H13.out j)
      obtain ⟨w4, hw⟩ : ∃ W, W = (w3.alloc (.cells #[.int .u8 0, .int .u8 0, .int .u8 0, .int .u8 0, .int .u8 0, .int .u8 0, .int .u8 0, .int .u8 0, .int .u8 0, .int .u8 0, .int .u8 0, .int .u8 0, .int .u8 0, .int .u8 0, .int .u8 0, .int .u8 0, .int .u8 0, .int .u8 0, .int .u8 0, .int .u8 0, .int .u8 0, .int .u8 0, .int .u8 0, .int .u8 0, .int .u8 0, .int .u8 0, .int .u8 0, .int .u8 0, .int .u8 0, .int .u8 0, .int .u8 0, .int .u8 0, .int .u32 0, .int .u32 0] 36)).setCells w3.heap.size 0 (rowOf 34 v3).toList := ⟨_, rfl⟩
      have g2 : w3.grownBy w4 none := by rw [hw]; exact grown_setCells w3.heap.size (Or.inl (Nat.le_refl _)) _ 0 _ (World.grownBy_alloc w3 _ none)
      rw [← hw] at k1 k2
      have HYyb := Lib.hid (k2.congr (v' := v3) fun i hi => by rw [if_pos ⟨Nat.zero_le _, by omega⟩, Nat.sub_zero])
      obtain ⟨yb, hb⟩ : ∃ b, b = w3.heap.size := ⟨_, rfl⟩
      rw [← hb] at k1 HYyb
      have HXB := Lib.hid hb
      have HS := Lib.hid k1
      have HGw4 := Lib.hid (grown_trans HGw3.out g2)
      have HG34 := Lib.hid g2
      clear hN k1 k2 hw g2 hb HGw3
      go_upto_region 4 with (first | ((with_reducible refine wpList_here ?_); refine wpList_st (T := 36) (p := .pointer (some ⟨w3.heap.size, 0, none⟩)) (v := .agg (rowOf 34 v3)) (.tmp 13) (.tmp 34) ?_ ?_ ?_ ?_ ?_ (by rw [← HXB.out]; exact HS.out) ?_; (· rfl); (· rfl); go_simp; (· kernel_rfl); (· kernel_rfl)))
      rw [← HXB.out]
      clear HS HXB
      obtain ⟨V0, hV0⟩ : ∃ V0, V0 = w4.drew := ⟨_, rfl⟩
      have hv0 : w4.grownBy V0 none := by rw [hV0]; exact grown_drew (grown_refl w4 none)
      have HV0 := Lib.hid hV0.symm
      have HGw34 := Lib.hid (grown_trans HG34.out hv0)
      have HGV0 := Lib.hid (grown_trans HGw4.out hv0)
      have HG1V := Lib.hid (grown_trans HGw2.out HGV0.out)
      have HC4 := Lib.hid (HC.out.grown HG1V.out (by simp))
      have HY4 := Lib.hid (HYyb.out.grown hv0 (by simp))
      have HRp := Lib.hid (rd_up (HRw2.out) HGw2.out HGV0.out)
      have HFB := Lib.hid (cat_uB (n := n) (cat_uB (n := 0) (fun _ => (by decide : (0 : Nat) < 256)) HFp.out) (fun _ => (by decide : (0 : Nat) < 256)))
      have HNO4 : Hid (hdrOkF (n + 1) (cat n (cat 0 (fun _ => 0) f) (fun _ => 0)) = false) := Lib.hid (HK.out.only HIS1.out (n + 1) (cat n (cat 0 (fun _ => 0) f) (fun _ => 0)) (fun i _ h2 => by
        unfold cat
        rw [if_pos h2, if_neg (by omega), Nat.sub_zero]) (by omega))
      clear hV0 hv0 HYyb HGw4
      go_cut [15, 16] (fun _ s16 wx => s16 = .int .i64 9 ∧ V0.grownBy wx none)
      case first =>
        refine r4_any 61 36 _ 30 34 HV.zero.v #[.int .u8 0, .int .u8 0, .int .u8 0, .int .u8 0, .int .u8 0, .int .u8 0, .int .u8 0, .int .u8 0, .int .u8 0, .int .u8 0, .int .u8 0, .int .u8 0, .int .u8 0, .int .u8 0, .int .u8 0, .int .u8 0, .int .u8 0, .int .u8 0, .int .u8 0, .int .u8 0, .int .u8 0, .int .u8 0, .int .u8 0, .int .u8 0, .int .u8 0, .int .u8 0, .int .u8 0, .int .u8 0, .int .u8 0, .int .u8 0, .int .u8 0, .int .u8 0, .int .u32 0, .int .u32 0] (rowOf 3 codHdr) HV0.out (by kernel_rfl) (by kernel_rfl) (fun W hW => ((HC4.out.grown hW (by simp)).load (P := Try.prog) 0 61 3 codHdr (by decide) (fun j _ => by rw [Nat.zero_add]) (by kernel_rfl) (by kernel_rfl))) (fun W ev => by unfold execOp; go_simp) HRp.out HN4.out (fun W gB cB hW hB => (HK.out.take cB hB.rd HFB.out (by have := HN4.out; omega)).mono fun e W h => by
          obtain ⟨vv, rfl, h1, _, h3⟩ := h
          rw [HNO4.out]
          exact ⟨vv, rfl, h1, h3⟩) bkHdrT_enters (fun _ _ _ _ _ h => h) ?_
        intro x36 x38 x40 x41 x42 x43 x44 x45 x15 W gX
        go_wp2_with fail
        go_meet
        case rel => exact ⟨rfl, gX⟩
      case rest =>
        obtain ⟨rfl, g5⟩ := hcut
        generalize wc = w5 at *
        have HGw5 := Lib.hid (grown_trans HGV0.out g5)
        have HG15 := Lib.hid (grown_trans HG1V.out g5)
        have HY5 := Lib.hid (HY4.out.grown g5 (by simp))
        have HX5 := Lib.hid (HX.out.grown HG15.out (by simp))
        have HSAME := Lib.hid (HK.out.same (HK.out.grown HIS1.out HG15.out) (HK.out.grown HIS3.out (grown_trans HGw34.out g5)))
        have HLX5 := Lib.hid ((HX5.out).load (P := Try.prog) 0 36 34 xv (by decide) (fun j _ => by rw [Nat.zero_add]) (by kernel_rfl) (by kernel_rfl))
        have HLY5 := Lib.hid ((HY5.out).load (P := Try.prog) 0 36 34 v3 (by decide) (fun j _ => by rw [Nat.zero_add]) (by kernel_rfl) (by kernel_rfl))
        clear g5 HY4 HGV0 HG1V HC4 HV0
        go_wp2_with (first | ((with_reducible refine wpList_here ?_); refine wpList_ld (p := .pointer (some ⟨(CB + 1), 0, none⟩)) 6 ?_ ?_ ?_ HLX5.out ?_; (· rfl); go_simp; (· kernel_rfl)) | ((with_reducible refine wpList_here ?_); refine wpList_ld (p := .pointer (some ⟨yb, 0, none⟩)) 13 ?_ ?_ ?_ HLY5.out ?_; (· rfl); go_simp; (· kernel_rfl)))
        go_at_call 41
        refine HSAME.out.mono ?_
        rintro e w6 ⟨rfl, g⟩
        have HGw6 := Lib.hid (grown_trans HGw5.out g)
        clear g HSAME HLX5 HLY5 HY5 HX5 HG15 HGw5
        by_cases h0 : 0 < n
        · have i1 : (n : Int) > 0 := by omega
          obtain ⟨kc, hkc⟩ : ∃ q, q = cut % n := ⟨_, rfl⟩
          have hkl : kc < n := by rw [hkc]; exact Nat.mod_lt _ h0
          have HKC := Lib.hid (show (cut : Int) % (n : Int) = (kc : Int) by rw [hkc]; omega)
          have HKC2 := Lib.hid (show (cut : Int).tmod (n : Int) = (kc : Int) by rw [hkc]; rfl)
          have HKL := Lib.hid hkl
          have HZ8 := Lib.hid (fun W => run_aheadQ ap n cp kc HCP.out (Nat.le_of_lt hkl) W)
          have HNO8 : Hid (hdrOkF kc f = false) := Lib.hid (HK.out.only HIS1.out kc f (fun _ _ _ => rfl) (by omega))
          clear hkc hkl
          go_upto_region 8 with fail
          obtain ⟨V1, hV1⟩ : ∃ V1, V1 = w6.drew := ⟨_, rfl⟩
          have hv1 : w6.grownBy V1 none := by rw [hV1]; exact grown_drew (grown_refl w6 none)
          have HV1 := Lib.hid hV1.symm
          have HGV1 := Lib.hid (grown_trans HGw6.out hv1)
          have HC8 := Lib.hid (HC.out.grown (grown_trans HGw2.out HGV1.out) (by simp))
          have HRk : Hid (Rd V1 V1.heap.size ap kc f) := Lib.hid ⟨fun hk0 => by
            have hr := (rd_up (HRw2.out) HGw2.out HGV1.out).ex (by have := HKL.out; omega)
            obtain ⟨tb, o, q1, q2, q3⟩ := hr
            exact ⟨tb, o, q1, q2, fun i hi => q3 i (by have := HKL.out; omega)⟩⟩
          clear hV1 hv1 HGw6
          go_cut [17, 18] (fun _ s18 wx => s18 = .int .i64 9 ∧ V1.grownBy wx none)
          case first =>
            refine wp_region_held (S := fun W => V1.grownBy W none) (by kernel_rfl) ?_
            change wpAnyH _ _ _ _ _ 14 #[false, false, false, false, false, false, false, false, false, false, false, false, false, false] _ (World.drew _)
            rw [HV1.out]
            have hS : V1.grownBy V1 none := grown_refl V1 _
            refine wpAnyH_takeD (some 63) (i := 0) (v := (.agg (rowOf 3 codHdr))) rfl rfl (by kernel_rfl) (by kernel_rfl) (by kernel_rfl) (fun _ _ _ h => h) (Or.inl ⟨rfl, fun W hW => exec_loadQ (.tmp 5) _ _ rfl rfl ((HC8.out.grown hW (by simp)).load (P := Try.prog) 0 61 3 codHdr (by decide) (fun j _ => by rw [Nat.zero_add]) (by kernel_rfl) (by kernel_rfl))⟩) hS ?_
            simp only [Act.put, List.setIfInBounds_toArray, List.set_cons_succ, List.set_cons_zero]
            refine wpAnyH_takeD (some 64) (i := 1) (v := (.slice ap n cp)) rfl rfl (by kernel_rfl) (by kernel_rfl) (by kernel_rfl) (fun _ _ _ h => h) (Or.inl ⟨rfl, fun _ _ => rfl⟩) hS ?_
            simp only [Act.put, List.setIfInBounds_toArray, List.set_cons_succ, List.set_cons_zero]
            refine wpAnyH_takeD (some 65) (i := 2) (v := (.int .i64 (cut : Nat))) rfl rfl (by kernel_rfl) (by kernel_rfl) (by kernel_rfl) (fun _ _ _ h => h) (Or.inl ⟨rfl, fun _ _ => rfl⟩) hS ?_
            simp only [Act.put, List.setIfInBounds_toArray, List.set_cons_succ, List.set_cons_zero]
            refine wpAnyH_takeD (some 66) (i := 3) (v := (.slice ap n cp)) rfl rfl (by kernel_rfl) (by kernel_rfl) (by kernel_rfl) (fun _ _ _ h => h) (Or.inl ⟨rfl, fun _ _ => rfl⟩) hS ?_
            simp only [Act.put, List.setIfInBounds_toArray, List.set_cons_succ, List.set_cons_zero]
            refine wpAnyH_takeD (some 67) (i := 4) (v := (.int .i64 (n : Nat))) rfl rfl (by kernel_rfl) (by kernel_rfl) (by kernel_rfl) (fun _ _ _ h => h) (Or.inl ⟨rfl, fun _ _ => by go_simp⟩) hS ?_
            simp only [Act.put, List.setIfInBounds_toArray, List.set_cons_succ, List.set_cons_zero]
            refine wpAnyH_takeD (some 68) (i := 5) (v := (.int .i64 (kc : Nat))) rfl rfl (by kernel_rfl) (by kernel_rfl) (by kernel_rfl) (fun _ _ _ h => h) (Or.inl ⟨rfl, fun _ _ => by have hq := HKC.out; have hq2 := HKC2.out; go_simp; have := HKL.out; omega⟩) hS ?_
            simp only [Act.put, List.setIfInBounds_toArray, List.set_cons_succ, List.set_cons_zero]
            refine wpAnyH_takeD (some 69) (i := 6) (v := (.slice ap kc cp)) rfl rfl (by kernel_rfl) (by kernel_rfl) (by kernel_rfl) (fun _ _ _ h => h) (Or.inl ⟨rfl, fun W _ => by have z := HZ8.out W; go_simp⟩) hS ?_
            simp only [Act.put, List.setIfInBounds_toArray, List.set_cons_succ, List.set_cons_zero]
            refine wpAnyH_both (i := 7) (j := 11) (by kernel_rfl) ?_ ?_
            · have hA0 := hS
              refine op_callR (R := fun v W => ∃ vv : Nat → Value, v = .tuple #[.agg (rowOf 34 vv), .int .i64 9] ∧ (∀ j, (vv j).oneCell' = true) ∧ V1.grownBy W none) (some 70) 30 #[.agg (rowOf 3 codHdr), .slice ap kc cp] rfl rfl rfl (exec_fn2 _ _ _ _ _ rfl rfl rfl) bkHdrT_enters (((HK.out.take cp (HRk.out.grown hS (by simp)) HFp.out (by have := HN4.out; have := HKL.out; omega)).mono fun e W h => by
                obtain ⟨vv, rfl, h1, _, h3⟩ := h
                rw [HNO8.out]
                exact ⟨_, rfl, vv, rfl, h1, h3⟩)) ?_
              rintro v u1 ⟨vv, rfl, h1v, gn⟩
              replace hS := grown_trans hS gn
              clear gn hA0
              refine ⟨hS, ?_⟩
              simp only [Act.put, List.setIfInBounds_toArray, List.set_cons_succ, List.set_cons_zero]
              refine wpAnyH_takeD (some 62) (i := 8) (v := (.tuple #[.agg (rowOf 34 vv), .int .i64 9])) rfl rfl (by kernel_rfl) (by kernel_rfl) (by kernel_rfl) (fun _ _ _ h => h) (Or.inl ⟨rfl, fun _ _ => rfl⟩) hS ?_
              simp only [Act.put, List.setIfInBounds_toArray, List.set_cons_succ, List.set_cons_zero]
              refine wpAnyH_takeD (some 71) (i := 9) (v := (.agg (rowOf 34 vv))) rfl rfl (by kernel_rfl) (by kernel_rfl) (by kernel_rfl) (fun _ _ _ h => h) (Or.inl ⟨rfl, fun _ _ => by go_simp⟩) hS ?_
              simp only [Act.put, List.setIfInBounds_toArray, List.set_cons_succ, List.set_cons_zero]
              refine wpAnyH_takeD (some 72) (i := 10) (v := (.int .i64 9)) rfl rfl (by kernel_rfl) (by kernel_rfl) (by kernel_rfl) (fun _ _ _ h => h) (Or.inl ⟨rfl, fun _ _ => by go_simp⟩) hS ?_
              simp only [Act.put, List.setIfInBounds_toArray, List.set_cons_succ, List.set_cons_zero]
              refine wpAnyH_one (i := 11) (by kernel_rfl) ?_
              have hYb : V1.heap.size ≤ u1.heap.size := hS.size
              have hY := RowAt.new u1 36 34 HV.zero.v #[.int .u8 0, .int .u8 0, .int .u8 0, .int .u8 0, .int .u8 0, .int .u8 0, .int .u8 0, .int .u8 0, .int .u8 0, .int .u8 0, .int .u8 0, .int .u8 0, .int .u8 0, .int .u8 0, .int .u8 0, .int .u8 0, .int .u8 0, .int .u8 0, .int .u8 0, .int .u8 0, .int .u8 0, .int .u8 0, .int .u8 0, .int .u8 0, .int .u8 0, .int .u8 0, .int .u8 0, .int .u8 0, .int .u8 0, .int .u8 0, .int .u8 0, .int .u8 0, .int .u32 0, .int .u32 0] (by kernel_rfl)
              refine op_yield (some 17) (v := .pointer (some ⟨u1.heap.size, 0, none⟩)) (w' := u1.alloc (.cells #[.int .u8 0, .int .u8 0, .int .u8 0, .int .u8 0, .int .u8 0, .int .u8 0, .int .u8 0, .int .u8 0, .int .u8 0, .int .u8 0, .int .u8 0, .int .u8 0, .int .u8 0, .int .u8 0, .int .u8 0, .int .u8 0, .int .u8 0, .int .u8 0, .int .u8 0, .int .u8 0, .int .u8 0, .int .u8 0, .int .u8 0, .int .u8 0, .int .u8 0, .int .u8 0, .int .u8 0, .int .u8 0, .int .u8 0, .int .u8 0, .int .u8 0, .int .u8 0, .int .u32 0, .int .u32 0] 36)) rfl rfl rfl (by unfold execOp; go_simp) (grown_alloc hS _) ?_
              simp only [Act.put, List.setIfInBounds_toArray, List.set_cons_succ, List.set_cons_zero]
              replace hS := grown_alloc hS (.cells #[.int .u8 0, .int .u8 0, .int .u8 0, .int .u8 0, .int .u8 0, .int .u8 0, .int .u8 0, .int .u8 0, .int .u8 0, .int .u8 0, .int .u8 0, .int .u8 0, .int .u8 0, .int .u8 0, .int .u8 0, .int .u8 0, .int .u8 0, .int .u8 0, .int .u8 0, .int .u8 0, .int .u8 0, .int .u8 0, .int .u8 0, .int .u8 0, .int .u8 0, .int .u8 0, .int .u8 0, .int .u8 0, .int .u8 0, .int .u8 0, .int .u8 0, .int .u8 0, .int .u32 0, .int .u32 0] 36)
              generalize u1.alloc (.cells #[.int .u8 0, .int .u8 0, .int .u8 0, .int .u8 0, .int .u8 0, .int .u8 0, .int .u8 0, .int .u8 0, .int .u8 0, .int .u8 0, .int .u8 0, .int .u8 0, .int .u8 0, .int .u8 0, .int .u8 0, .int .u8 0, .int .u8 0, .int .u8 0, .int .u8 0, .int .u8 0, .int .u8 0, .int .u8 0, .int .u8 0, .int .u8 0, .int .u8 0, .int .u8 0, .int .u8 0, .int .u8 0, .int .u8 0, .int .u8 0, .int .u8 0, .int .u8 0, .int .u32 0, .int .u32 0] 36) = u2 at *
              obtain ⟨k1, k2⟩ := RowAt.store (P := Try.prog) hY 0 36 34 vv (by decide) (by kernel_rfl) (fun j _ => h1v j)
              have gX : V1.grownBy (u2.setCells u1.heap.size 0 (rowOf 34 vv).toList) none := grown_setCells u1.heap.size (Or.inl hYb) _ 0 _ hS
              refine wpAnyH_skipQ (i := 12) (by kernel_rfl) rfl rfl rfl (exec_storeQ (.tmp 17) (.tmp 71) _ _ rfl rfl rfl k1) gX ?_
              simp only [List.setIfInBounds_toArray, List.set_cons_succ, List.set_cons_zero]
              refine wpAnyH_yieldD (some 18) (i := 13) (v := .int .i64 9) (by kernel_rfl) rfl rfl rfl (by unfold execOp; go_simp) gX ?_
              simp only [Act.put, List.setIfInBounds_toArray, List.set_cons_succ, List.set_cons_zero]
              refine wpAnyH_done (by kernel_rfl) ?_ _
              clear k1 k2 hY h1v hS
              go_wp2_with fail
              go_meet
              case rel => exact ⟨rfl, gX⟩
            · have hA0 := hS
              have hYb : V1.heap.size ≤ V1.heap.size := hS.size
              have hY := RowAt.new V1 36 34 HV.zero.v #[.int .u8 0, .int .u8 0, .int .u8 0, .int .u8 0, .int .u8 0, .int .u8 0, .int .u8 0, .int .u8 0, .int .u8 0, .int .u8 0, .int .u8 0, .int .u8 0, .int .u8 0, .int .u8 0, .int .u8 0, .int .u8 0, .int .u8 0, .int .u8 0, .int .u8 0, .int .u8 0, .int .u8 0, .int .u8 0, .int .u8 0, .int .u8 0, .int .u8 0, .int .u8 0, .int .u8 0, .int .u8 0, .int .u8 0, .int .u8 0, .int .u8 0, .int .u8 0, .int .u32 0, .int .u32 0] (by kernel_rfl)
              refine op_yield (some 17) (v := .pointer (some ⟨V1.heap.size, 0, none⟩)) (w' := V1.alloc (.cells #[.int .u8 0, .int .u8 0, .int .u8 0, .int .u8 0, .int .u8 0, .int .u8 0, .int .u8 0, .int .u8 0, .int .u8 0, .int .u8 0, .int .u8 0, .int .u8 0, .int .u8 0, .int .u8 0, .int .u8 0, .int .u8 0, .int .u8 0, .int .u8 0, .int .u8 0, .int .u8 0, .int .u8 0, .int .u8 0, .int .u8 0, .int .u8 0, .int .u8 0, .int .u8 0, .int .u8 0, .int .u8 0, .int .u8 0, .int .u8 0, .int .u8 0, .int .u8 0, .int .u32 0, .int .u32 0] 36)) rfl rfl rfl (by unfold execOp; go_simp) (grown_alloc hS _) ?_
              simp only [Act.put, List.setIfInBounds_toArray, List.set_cons_succ, List.set_cons_zero]
              replace hS := grown_alloc hS (.cells #[.int .u8 0, .int .u8 0, .int .u8 0, .int .u8 0, .int .u8 0, .int .u8 0, .int .u8 0, .int .u8 0, .int .u8 0, .int .u8 0, .int .u8 0, .int .u8 0, .int .u8 0, .int .u8 0, .int .u8 0, .int .u8 0, .int .u8 0, .int .u8 0, .int .u8 0, .int .u8 0, .int .u8 0, .int .u8 0, .int .u8 0, .int .u8 0, .int .u8 0, .int .u8 0, .int .u8 0, .int .u8 0, .int .u8 0, .int .u8 0, .int .u8 0, .int .u8 0, .int .u32 0, .int .u32 0] 36)
              generalize V1.alloc (.cells #[.int .u8 0, .int .u8 0, .int .u8 0, .int .u8 0, .int .u8 0, .int .u8 0, .int .u8 0, .int .u8 0, .int .u8 0, .int .u8 0, .int .u8 0, .int .u8 0, .int .u8 0, .int .u8 0, .int .u8 0, .int .u8 0, .int .u8 0, .int .u8 0, .int .u8 0, .int .u8 0, .int .u8 0, .int .u8 0, .int .u8 0, .int .u8 0, .int .u8 0, .int .u8 0, .int .u8 0, .int .u8 0, .int .u8 0, .int .u8 0, .int .u8 0, .int .u8 0, .int .u32 0, .int .u32 0] 36) = u1 at *
              refine wpAnyH_one (i := 7) (by kernel_rfl) ?_
              refine op_callR (R := fun v W => ∃ vv : Nat → Value, v = .tuple #[.agg (rowOf 34 vv), .int .i64 9] ∧ (∀ j, (vv j).oneCell' = true) ∧ u1.grownBy W none) (some 70) 30 #[.agg (rowOf 3 codHdr), .slice ap kc cp] rfl rfl rfl (exec_fn2 _ _ _ _ _ rfl rfl rfl) bkHdrT_enters (((HK.out.take cp (HRk.out.grown hS (by simp)) HFp.out (by have := HN4.out; have := HKL.out; omega)).mono fun e W h => by
                obtain ⟨vv, rfl, h1, _, h3⟩ := h
                rw [HNO8.out]
                exact ⟨_, rfl, vv, rfl, h1, h3⟩)) ?_
              rintro v u2 ⟨vv, rfl, h1v, gn⟩
              replace hY := hY.grown gn (by simp)
              replace hS := grown_trans hS gn
              clear gn hA0
              refine ⟨hS, ?_⟩
              simp only [Act.put, List.setIfInBounds_toArray, List.set_cons_succ, List.set_cons_zero]
              refine wpAnyH_takeD (some 62) (i := 8) (v := (.tuple #[.agg (rowOf 34 vv), .int .i64 9])) rfl rfl (by kernel_rfl) (by kernel_rfl) (by kernel_rfl) (fun _ _ _ h => h) (Or.inl ⟨rfl, fun _ _ => rfl⟩) hS ?_
              simp only [Act.put, List.setIfInBounds_toArray, List.set_cons_succ, List.set_cons_zero]
              refine wpAnyH_takeD (some 71) (i := 9) (v := (.agg (rowOf 34 vv))) rfl rfl (by kernel_rfl) (by kernel_rfl) (by kernel_rfl) (fun _ _ _ h => h) (Or.inl ⟨rfl, fun _ _ => by go_simp⟩) hS ?_
              simp only [Act.put, List.setIfInBounds_toArray, List.set_cons_succ, List.set_cons_zero]
              refine wpAnyH_takeD (some 72) (i := 10) (v := (.int .i64 9)) rfl rfl (by kernel_rfl) (by kernel_rfl) (by kernel_rfl) (fun _ _ _ h => h) (Or.inl ⟨rfl, fun _ _ => by go_simp⟩) hS ?_
              simp only [Act.put, List.setIfInBounds_toArray, List.set_cons_succ, List.set_cons_zero]
              obtain ⟨k1, k2⟩ := RowAt.store (P := Try.prog) hY 0 36 34 vv (by decide) (by kernel_rfl) (fun j _ => h1v j)
              have gX : V1.grownBy (u2.setCells V1.heap.size 0 (rowOf 34 vv).toList) none := grown_setCells V1.heap.size (Or.inl hYb) _ 0 _ hS
              refine wpAnyH_skipQ (i := 12) (by kernel_rfl) rfl rfl rfl (exec_storeQ (.tmp 17) (.tmp 71) _ _ rfl rfl rfl k1) gX ?_
              simp only [List.setIfInBounds_toArray, List.set_cons_succ, List.set_cons_zero]
              refine wpAnyH_yieldD (some 18) (i := 13) (v := .int .i64 9) (by kernel_rfl) rfl rfl rfl (by unfold execOp; go_simp) gX ?_
              simp only [Act.put, List.setIfInBounds_toArray, List.set_cons_succ, List.set_cons_zero]
              refine wpAnyH_done (by kernel_rfl) ?_ _
              clear k1 k2 hY h1v hS
              go_wp2_with fail
              go_meet
              case rel => exact ⟨rfl, gX⟩
          case rest =>
            obtain ⟨rfl, g9⟩ := hcut
            have HGe := Lib.hid (grown_trans HGV1.out g9)
            clear g9
            go_wp2_with fail
            go_meet
            case rel => exact HGe.out
        · have i1 : ¬ (n : Int) > 0 := by omega
          go_wp2_with fail
          go_meet
          case rel => exact HGw6.out
  case rest =>
    generalize wc = w20 at *
    have HG20 := Lib.hid (grown_trans HGw2.out hcut)
    have HGA := Lib.hid (grown_trans HG1.out HG20.out)
    have HRb := Lib.hid (HR.out.grown HGA.out (fun k e => by cases e))
    have HLC20 := Lib.hid (((HC.out.grown HG20.out (by simp))).load (P := Try.prog) 0 61 3 codHdr (by decide) (fun j _ => by rw [Nat.zero_add]) (by kernel_rfl) (by kernel_rfl))
    clear hcut HO HE HNP HIs HGw2
    go_wp2_with (first | ((with_reducible refine wpList_here ?_); refine wpList_ld (p := .pointer (some ⟨CB, 0, none⟩)) 5 ?_ ?_ ?_ HLC20.out ?_; (· rfl); go_simp; (· kernel_rfl)))
    go_at_call 30
    refine (HK.out.take c HRb.out HF.out (by have := HL.out; omega)).mono ?_
    rintro e w21 ⟨v, rfl, h1, h2, g⟩
    have H1V := Lib.hid h1
    have H2V := Lib.hid h2
    have HGw21 := Lib.hid g
    clear h1 h2 g HLC20
    cases hok : hdrOkF L F with
    | false =>
      rw [show errT false = 9 from rfl]
      clear hok H2V
      have hN := RowAt.new w21 36 34 HV.zero.v #[.int .u8 0, .int .u8 0, .int .u8 0, .int .u8 0, .int .u8 0, .int .u8 0, .int .u8 0, .int .u8 0, .int .u8 0, .int .u8 0, .int .u8 0, .int .u8 0, .int .u8 0, .int .u8 0, .int .u8 0, .int .u8 0, .int .u8 0, .int .u8 0, .int .u8 0, .int .u8 0, .int .u8 0, .int .u8 0, .int .u8 0, .int .u8 0, .int .u8 0, .int .u8 0, .int .u8 0, .int .u8 0, .int .u8 0, .int .u8 0, .int .u8 0, .int .u8 0, .int .u32 0, .int .u32 0] (by kernel_rfl)
      obtain ⟨k1, k2⟩ := RowAt.store (P := Try.prog) hN 0 36 34 v (by decide) (by kernel_rfl) (fun j _ => H1V.out j)
      obtain ⟨w22, hw⟩ : ∃ W, W = (w21.alloc (.cells #[.int .u8 0, .int .u8 0, .int .u8 0, .int .u8 0, .int .u8 0, .int .u8 0, .int .u8 0, .int .u8 0, .int .u8 0, .int .u8 0, .int .u8 0, .int .u8 0, .int .u8 0, .int .u8 0, .int .u8 0, .int .u8 0, .int .u8 0, .int .u8 0, .int .u8 0, .int .u8 0, .int .u8 0, .int .u8 0, .int .u8 0, .int .u8 0, .int .u8 0, .int .u8 0, .int .u8 0, .int .u8 0, .int .u8 0, .int .u8 0, .int .u8 0, .int .u8 0, .int .u32 0, .int .u32 0] 36)).setCells w21.heap.size 0 (rowOf 34 v).toList := ⟨_, rfl⟩
      have g2 : w21.grownBy w22 none := by rw [hw]; exact grown_setCells w21.heap.size (Or.inl (Nat.le_refl _)) _ 0 _ (World.grownBy_alloc w21 _ none)
      rw [← hw] at k1 k2
      have HYyb := Lib.hid (k2.congr (v' := v) fun i hi => by rw [if_pos ⟨Nat.zero_le _, by omega⟩, Nat.sub_zero])
      obtain ⟨yb, hb⟩ : ∃ b, b = w21.heap.size := ⟨_, rfl⟩
      rw [← hb] at k1 HYyb
      have HXB := Lib.hid hb
      have HS := Lib.hid k1
      have HGw22 := Lib.hid (grown_trans HGw21.out g2)
      have HG34 := Lib.hid g2
      clear hN k1 k2 hw g2 hb HGw21
      go_upto_region 12 with (first | ((with_reducible refine wpList_here ?_); refine wpList_st (T := 36) (p := .pointer (some ⟨w21.heap.size, 0, none⟩)) (v := .agg (rowOf 34 v)) (.tmp 19) (.tmp 79) ?_ ?_ ?_ ?_ ?_ (by rw [← HXB.out]; exact HS.out) ?_; (· rfl); (· rfl); go_simp; (· kernel_rfl); (· kernel_rfl)))
      rw [← HXB.out]
      clear HS HXB
      go_wp2_with fail
      go_ret
      exact ⟨rfl, grown_trans HGA.out HGw22.out⟩
    | true =>
      rw [show errT true = 0 from rfl]
      have HIS21 := Lib.hid (H2V.out hok)
      clear hok H2V
      have hN := RowAt.new w21 36 34 HV.zero.v #[.int .u8 0, .int .u8 0, .int .u8 0, .int .u8 0, .int .u8 0, .int .u8 0, .int .u8 0, .int .u8 0, .int .u8 0, .int .u8 0, .int .u8 0, .int .u8 0, .int .u8 0, .int .u8 0, .int .u8 0, .int .u8 0, .int .u8 0, .int .u8 0, .int .u8 0, .int .u8 0, .int .u8 0, .int .u8 0, .int .u8 0, .int .u8 0, .int .u8 0, .int .u8 0, .int .u8 0, .int .u8 0, .int .u8 0, .int .u8 0, .int .u8 0, .int .u8 0, .int .u32 0, .int .u32 0] (by kernel_rfl)
      obtain ⟨k1, k2⟩ := RowAt.store (P := Try.prog) hN 0 36 34 v (by decide) (by kernel_rfl) (fun j _ => H1V.out j)
      obtain ⟨w22, hw⟩ : ∃ W, W = (w21.alloc (.cells #[.int .u8 0, .int .u8 0, .int .u8 0, .int .u8 0, .int .u8 0, .int .u8 0, .int .u8 0, .int .u8 0, .int .u8 0, .int .u8 0, .int .u8 0, .int .u8 0, .int .u8 0, .int .u8 0, .int .u8 0, .int .u8 0, .int .u8 0, .int .u8 0, .int .u8 0, .int .u8 0, .int .u8 0, .int .u8 0, .int .u8 0, .int .u8 0, .int .u8 0, .int .u8 0, .int .u8 0, .int .u8 0, .int .u8 0, .int .u8 0, .int .u8 0, .int .u8 0, .int .u32 0, .int .u32 0] 36)).setCells w21.heap.size 0 (rowOf 34 v).toList := ⟨_, rfl⟩
      have g2 : w21.grownBy w22 none := by rw [hw]; exact grown_setCells w21.heap.size (Or.inl (Nat.le_refl _)) _ 0 _ (World.grownBy_alloc w21 _ none)
      rw [← hw] at k1 k2
      have HYyb := Lib.hid (k2.congr (v' := v) fun i hi => by rw [if_pos ⟨Nat.zero_le _, by omega⟩, Nat.sub_zero])
      obtain ⟨yb, hb⟩ : ∃ b, b = w21.heap.size := ⟨_, rfl⟩
      rw [← hb] at k1 HYyb
      have HXB := Lib.hid hb
      have HS := Lib.hid k1
      have HGw22 := Lib.hid (grown_trans HGw21.out g2)
      have HG34 := Lib.hid g2
      clear hN k1 k2 hw g2 hb HGw21
      go_upto_region 14 with (first | ((with_reducible refine wpList_here ?_); refine wpList_st (T := 36) (p := .pointer (some ⟨w21.heap.size, 0, none⟩)) (v := .agg (rowOf 34 v)) (.tmp 19) (.tmp 79) ?_ ?_ ?_ ?_ ?_ (by rw [← HXB.out]; exact HS.out) ?_; (· rfl); (· rfl); go_simp; (· kernel_rfl); (· kernel_rfl)))
      rw [← HXB.out]
      clear HS HXB
      have HIS22 := Lib.hid (HK.out.grown HIS21.out HG34.out)
      have HGC := Lib.hid (grown_trans HG20.out HGw22.out)
      have HLC22 := Lib.hid (((HC.out.grown HGC.out (by simp))).load (P := Try.prog) 0 61 3 codHdr (by decide) (fun j _ => by rw [Nat.zero_add]) (by kernel_rfl) (by kernel_rfl))
      have HLY22 := Lib.hid ((HYyb.out).load (P := Try.prog) 0 36 34 v (by decide) (fun j _ => by rw [Nat.zero_add]) (by kernel_rfl) (by kernel_rfl))
      have HP22 := Lib.hid (HK.out.put HIS22.out)
      clear HIS21 HG34
      go_wp2_with (first | ((with_reducible refine wpList_here ?_); refine wpList_ld (p := .pointer (some ⟨CB, 0, none⟩)) 5 ?_ ?_ ?_ HLC22.out ?_; (· rfl); go_simp; (· kernel_rfl)) | ((with_reducible refine wpList_here ?_); refine wpList_ld (p := .pointer (some ⟨yb, 0, none⟩)) 19 ?_ ?_ ?_ HLY22.out ?_; (· rfl); go_simp; (· kernel_rfl)))
      go_at_call 53
      refine HP22.out.mono ?_
      rintro e w23 ⟨⟨ap, cp, rfl, hO⟩, g⟩
      rw [show (.slice ap (if true = true then L else 0) cp : Value) = .slice ap L cp from rfl, show (.int .i64 (if true = true then 0 else 2) : Value) = .int .i64 0 from rfl]
      have hO : OwnN w23 w22.heap.size (.slice ap L cp) L F := hO
      obtain ⟨_, hRp⟩ := own_rd hO
      have HGw23 := Lib.hid (grown_trans HGw22.out g)
      have hsp := run_string cp hRp HF.out
      have hsb := run_string c (HRb.out.grown HGw23.out (fun k e => by cases e)) HF.out
      obtain ⟨sx, hsx⟩ : ∃ s, s = strOf L F := ⟨_, rfl⟩
      rw [← hsx] at hsp hsb
      clear g hO hRp HP22 HLC22 HLY22 HGw22 hsx HYyb HIS22 HGC
      go_wp2_with fail
      go_ret
      exact ⟨rfl, grown_trans HGA.out HGw23.out⟩
end Go.Proofs.Ytmbefbmpjkbnmaa
namespace Go.Proofs.Ytmbefbmpjkbnmaa
open Go.RowKit Go.Shelf

set_option maxRecDepth 100000
set_option maxHeartbeats 4000000

theorem bkRosT_enters (args : Array Value) (w : World) : (callFunc 27 args).run Try.prog w = .ok (.enter 27 args) w := enters_of Try.func27 (by kernel_rfl) rfl args w
theorem backRos_any (xv : Nat → Value) (L c D cut : Nat) (a : Option Addr) (F : Nat → Nat) (w : World) (hx : (∃ n f, IsR w xv n f) ∨ ∀ W, w.grownBy W none → Calls Try.prog 76 #[.agg (rowOf 3 codRos), .agg (rowOf 18 xv)] W (PutSays W false 0 (fun _ => 0))) (hR : Rd w D a L F) (hF : ∀ i, F i < 256) (hc : L ≤ c) (hL : L ≤ 9000) :
    Calls Try.prog 42 #[.agg (rowOf 3 codRos), .agg (rowOf 18 xv), .slice a L c, .int .i64 (cut : Nat), .func (.func 29) #[] #[]] w fun e w' => e = .returned (.bool true) ∧ w.grownBy w' none := by
  have HK := Lib.hid kRos
  have ga := World.grownBy_alloc w (.cells (rowOf 3 codRos) 70) none
  have hz := World.size_alloc w (.cells (rowOf 3 codRos) 70)
  have hC := RowAt.new w 70 3 codRos _ rfl
  have gb := World.grownBy_alloc (w.alloc (.cells (rowOf 3 codRos) 70)) (.cells (rowOf 18 xv) 33) none
  have hX := RowAt.new (w.alloc (.cells (rowOf 3 codRos) 70)) 33 18 xv _ rfl
  rw [hz] at hX
  replace hC := hC.grown gb (by simp)
  have HG0 := Lib.hid (grown_trans ga gb)
  have HX0 := Lib.hid hx
  have HR := Lib.hid hR
  have HF := Lib.hid hF
  have HLC := Lib.hid hc
  have HL := Lib.hid hL
  clear ga gb hz hx hR hF hc hL
  go_enter Try.func42, Try.ntmps42
  go_upto_region 1 with fail
  obtain ⟨CB, hCB⟩ : ∃ B, B = w.heap.size := ⟨_, rfl⟩
  rw [← hCB] at hC hX ⊢
  generalize (w.alloc (.cells (rowOf 3 codRos) 70)).alloc (.cells (rowOf 18 xv) 33) = w1 at *
  have HC := Lib.hid hC
  have HX := Lib.hid hX
  have HG1 := HG0
  clear hC hX hCB HG0
  have HLC1 := Lib.hid ((HC.out).load (P := Try.prog) 0 70 3 codRos (by decide) (fun j _ => by rw [Nat.zero_add]) (by kernel_rfl) (by kernel_rfl))
  have HLX1 := Lib.hid ((HX.out).load (P := Try.prog) 0 33 18 xv (by decide) (fun j _ => by rw [Nat.zero_add]) (by kernel_rfl) (by kernel_rfl))
  obtain ⟨m, n, f, hIs, hP⟩ : ∃ (m : Bool) (n : Nat) (f : Nat → Nat), (m = true → IsR w1 xv n f) ∧ Calls Try.prog 76 #[.agg (rowOf 3 codRos), .agg (rowOf 18 xv)] w1 (PutSays w1 m n f) := by
    rcases HX0.out with ⟨n, f, hIs⟩ | hno
    · have h := HK.out.grown hIs HG1.out
      exact ⟨true, n, f, fun _ => h, HK.out.put h⟩
    · exact ⟨false, 0, fun _ => 0, fun e => absurd e (by decide), hno w1 HG1.out⟩
  have HP := Lib.hid hP
  have HIs := Lib.hid hIs
  clear hP hIs HX0
  go_wp2_with (first | ((with_reducible refine wpList_here ?_); refine wpList_ld (p := .pointer (some ⟨CB, 0, none⟩)) 5 ?_ ?_ ?_ HLC1.out ?_; (· rfl); go_simp; (· kernel_rfl)) | ((with_reducible refine wpList_here ?_); refine wpList_ld (p := .pointer (some ⟨(CB + 1), 0, none⟩)) 6 ?_ ?_ ?_ HLX1.out ?_; (· rfl); go_simp; (· kernel_rfl)))
  go_at_call 76
  refine HP.out.mono ?_
  rintro e w2 ⟨⟨ap, cp, rfl, hO⟩, g⟩
  have HGw2 := Lib.hid g
  have HO := Lib.hid hO
  clear g hO HP HLC1 HLX1
  obtain ⟨E, hE⟩ : ∃ E : Int, E = if m = true then 0 else 2 := ⟨_, rfl⟩
  obtain ⟨np, hnp⟩ : ∃ q, q = if m = true then n else 0 := ⟨_, rfl⟩
  rw [← hE, ← hnp]
  rw [← hnp] at HO
  have HE := Lib.hid hE
  have HNP := Lib.hid hnp
  clear hE hnp
  go_upto_if 29 with fail
  go_cut [13] (fun _ wx => w2.grownBy wx none)
  case first =>
    cases m with
    | false =>
      obtain rfl : E = 2 := HE.out
      clear HE HNP HO
      go_wp2_with fail
      go_meet
      case rel => exact grown_refl w2 none
    | true =>
      obtain rfl : E = 0 := HE.out
      obtain rfl : n = np := HNP.out.symm
      have hO := HO.out
      have HIS1 := Lib.hid (HIs.out rfl)
      have hln := HK.out.len HIS1.out
      have HN4 := Lib.hid hln
      have HFp := Lib.hid (HK.out.byt HIS1.out)
      clear HE HNP HO HIs hln
      obtain ⟨hcp, hRp⟩ := own_rd hO
      have HCP := Lib.hid hcp
      have HRw2 := Lib.hid hRp
      clear hO hcp hRp
      have HLC2 := Lib.hid (((HC.out.grown HGw2.out (by simp))).load (P := Try.prog) 0 70 3 codRos (by decide) (fun j _ => by rw [Nat.zero_add]) (by kernel_rfl) (by kernel_rfl))
      go_wp2_with (first | ((with_reducible refine wpList_here ?_); refine wpList_ld (p := .pointer (some ⟨CB, 0, none⟩)) 5 ?_ ?_ ?_ HLC2.out ?_; (· rfl); go_simp; (· kernel_rfl)))
      go_at_call 27
      refine (HK.out.take cp HRw2.out HFp.out (by have := HN4.out; omega)).mono ?_
      rintro e w3 ⟨v3, rfl, h1, h2, g⟩
      have hok : rOk2 n f = true := HK.out.isok HIS1.out f (fun _ _ => rfl)
      rw [show errT (rOk2 n f) = 0 by rw [hok]; rfl]
      have HIS3 := Lib.hid (h2 hok)
      have H13 := Lib.hid h1
      have HGw3 := Lib.hid g
      clear h1 h2 g hok HLC2
      have hN := RowAt.new w3 33 18 RV.zero.v #[.int .u8 0, .int .u8 0, .int .u8 0, .int .u8 0, .int .u8 0, .int .u8 0, .int .u8 0, .int .u8 0, .int .u8 0, .int .u8 0, .int .u8 0, .int .u8 0, .int .u8 0, .int .u8 0, .int .u8 0, .int .u8 0, .int .u64 0, .slice none 0 0] (by kernel_rfl)
      obtain ⟨k1, k2⟩ := RowAt.store (P := Try.prog) hN 0 33 18 v3 (by decide) (by kernel_rfl) (fun j _ => H13.out j)
      obtain ⟨w4, hw⟩ : ∃ W, W = (w3.alloc (.cells #[.int .u8 0, .int .u8 0, .int .u8 0, .int .u8 0, .int .u8 0, .int .u8 0, .int .u8 0, .int .u8 0, .int .u8 0, .int .u8 0, .int .u8 0, .int .u8 0, .int .u8 0, .int .u8 0, .int .u8 0, .int .u8 0, .int .u64 0, .slice none 0 0] 33)).setCells w3.heap.size 0 (rowOf 18 v3).toList := ⟨_, rfl⟩
      have g2 : w3.grownBy w4 none := by rw [hw]; exact grown_setCells w3.heap.size (Or.inl (Nat.le_refl _)) _ 0 _ (World.grownBy_alloc w3 _ none)
      rw [← hw] at k1 k2
      have HYyb := Lib.hid (k2.congr (v' := v3) fun i hi => by rw [if_pos ⟨Nat.zero_le _, by omega⟩, Nat.sub_zero])
      obtain ⟨yb, hb⟩ : ∃ b, b = w3.heap.size := ⟨_, rfl⟩
      rw [← hb] at k1 HYyb
      have HXB := Lib.hid hb
      have HS := Lib.hid k1
      have HGw4 := Lib.hid (grown_trans HGw3.out g2)
      have HG34 := Lib.hid g2
      clear hN k1 k2 hw g2 hb HGw3
      go_upto_region 4 with (first | ((with_reducible refine wpList_here ?_); refine wpList_st (T := 33) (p := .pointer (some ⟨w3.heap.size, 0, none⟩)) (v := .agg (rowOf 18 v3)) (.tmp 13) (.tmp 34) ?_ ?_ ?_ ?_ ?_ (by rw [← HXB.out]; exact HS.out) ?_; (· rfl); (· rfl); go_simp; (· kernel_rfl); (· kernel_rfl)))
      rw [← HXB.out]
      clear HS HXB
      obtain ⟨V0, hV0⟩ : ∃ V0, V0 = w4.drew := ⟨_, rfl⟩
      have hv0 : w4.grownBy V0 none := by rw [hV0]; exact grown_drew (grown_refl w4 none)
      have HV0 := Lib.hid hV0.symm
      have HGw34 := Lib.hid (grown_trans HG34.out hv0)
      have HGV0 := Lib.hid (grown_trans HGw4.out hv0)
      have HG1V := Lib.hid (grown_trans HGw2.out HGV0.out)
      have HC4 := Lib.hid (HC.out.grown HG1V.out (by simp))
      have HY4 := Lib.hid (HYyb.out.grown hv0 (by simp))
      have HRp := Lib.hid (rd_up (HRw2.out) HGw2.out HGV0.out)
      have HFB := Lib.hid (cat_uB (n := n) (cat_uB (n := 0) (fun _ => (by decide : (0 : Nat) < 256)) HFp.out) (fun _ => (by decide : (0 : Nat) < 256)))
      have HNO4 : Hid (rOk2 (n + 1) (cat n (cat 0 (fun _ => 0) f) (fun _ => 0)) = false) := Lib.hid (HK.out.only HIS1.out (n + 1) (cat n (cat 0 (fun _ => 0) f) (fun _ => 0)) (fun i _ h2 => by
        unfold cat
        rw [if_pos h2, if_neg (by omega), Nat.sub_zero]) (by omega))
      clear hV0 hv0 HYyb HGw4
      go_cut [15, 16] (fun _ s16 wx => s16 = .int .i64 9 ∧ V0.grownBy wx none)
      case first =>
        refine r4_any 70 33 _ 27 18 RV.zero.v #[.int .u8 0, .int .u8 0, .int .u8 0, .int .u8 0, .int .u8 0, .int .u8 0, .int .u8 0, .int .u8 0, .int .u8 0, .int .u8 0, .int .u8 0, .int .u8 0, .int .u8 0, .int .u8 0, .int .u8 0, .int .u8 0, .int .u64 0, .slice none 0 0] (rowOf 3 codRos) HV0.out (by kernel_rfl) (by kernel_rfl) (fun W hW => ((HC4.out.grown hW (by simp)).load (P := Try.prog) 0 70 3 codRos (by decide) (fun j _ => by rw [Nat.zero_add]) (by kernel_rfl) (by kernel_rfl))) (fun W ev => by unfold execOp; go_simp) HRp.out HN4.out (fun W gB cB hW hB => (HK.out.take cB hB.rd HFB.out (by have := HN4.out; omega)).mono fun e W h => by
          obtain ⟨vv, rfl, h1, _, h3⟩ := h
          rw [HNO4.out]
          exact ⟨vv, rfl, h1, h3⟩) bkRosT_enters (fun _ _ _ _ _ h => h) ?_
        intro x36 x38 x40 x41 x42 x43 x44 x45 x15 W gX
        go_wp2_with fail
        go_meet
        case rel => exact ⟨rfl, gX⟩
      case rest =>
        obtain ⟨rfl, g5⟩ := hcut
        generalize wc = w5 at *
        have HGw5 := Lib.hid (grown_trans HGV0.out g5)
        have HG15 := Lib.hid (grown_trans HG1V.out g5)
        have HY5 := Lib.hid (HY4.out.grown g5 (by simp))
        have HX5 := Lib.hid (HX.out.grown HG15.out (by simp))
        have HSAME := Lib.hid (HK.out.same (HK.out.grown HIS1.out HG15.out) (HK.out.grown HIS3.out (grown_trans HGw34.out g5)))
        have HLX5 := Lib.hid ((HX5.out).load (P := Try.prog) 0 33 18 xv (by decide) (fun j _ => by rw [Nat.zero_add]) (by kernel_rfl) (by kernel_rfl))
        have HLY5 := Lib.hid ((HY5.out).load (P := Try.prog) 0 33 18 v3 (by decide) (fun j _ => by rw [Nat.zero_add]) (by kernel_rfl) (by kernel_rfl))
        clear g5 HY4 HGV0 HG1V HC4 HV0
        go_wp2_with (first | ((with_reducible refine wpList_here ?_); refine wpList_ld (p := .pointer (some ⟨(CB + 1), 0, none⟩)) 6 ?_ ?_ ?_ HLX5.out ?_; (· rfl); go_simp; (· kernel_rfl)) | ((with_reducible refine wpList_here ?_); refine wpList_ld (p := .pointer (some ⟨yb, 0, none⟩)) 13 ?_ ?_ ?_ HLY5.out ?_; (· rfl); go_simp; (· kernel_rfl)))
        go_at_call 29
        refine HSAME.out.mono ?_
        rintro e w6 ⟨rfl, g⟩
        have HGw6 := Lib.hid (grown_trans HGw5.out g)
        clear g HSAME HLX5 HLY5 HY5 HX5 HG15 HGw5
        by_cases h0 : 0 < n
        · have i1 : (n : Int) > 0 := by omega
          obtain ⟨kc, hkc⟩ : ∃ q, q = cut % n := ⟨_, rfl⟩
          have hkl : kc < n := by rw [hkc]; exact Nat.mod_lt _ h0
          have HKC := Lib.hid (show (cut : Int) % (n : Int) = (kc : Int) by rw [hkc]; omega)
          have HKC2 := Lib.hid (show (cut : Int).tmod (n : Int) = (kc : Int) by rw [hkc]; rfl)
          have HKL := Lib.hid hkl
          have HZ8 := Lib.hid (fun W => run_aheadQ ap n cp kc HCP.out (Nat.le_of_lt hkl) W)
          have HNO8 : Hid (rOk2 kc f = false) := Lib.hid (HK.out.only HIS1.out kc f (fun _ _ _ => rfl) (by omega))
          clear hkc hkl
          go_upto_region 8 with fail
          obtain ⟨V1, hV1⟩ : ∃ V1, V1 = w6.drew := ⟨_, rfl⟩
          have hv1 : w6.grownBy V1 none := by rw [hV1]; exact grown_drew (grown_refl w6 none)
          have HV1 := Lib.hid hV1.symm
          have HGV1 := Lib.hid (grown_trans HGw6.out hv1)
          have HC8 := Lib.hid (HC.out.grown (grown_trans HGw2.out HGV1.out) (by simp))
          have HRk : Hid (Rd V1 V1.heap.size ap kc f) := Lib.hid ⟨fun hk0 => by
            have hr := (rd_up (HRw2.out) HGw2.out HGV1.out).ex (by have := HKL.out; omega)
            obtain ⟨tb, o, q1, q2, q3⟩ := hr
            exact ⟨tb, o, q1, q2, fun i hi => q3 i (by have := HKL.out; omega)⟩⟩
          clear hV1 hv1 HGw6
          go_cut [17, 18] (fun _ s18 wx => s18 = .int .i64 9 ∧ V1.grownBy wx none)
          case first =>
            refine wp_region_held (S := fun W => V1.grownBy W none) (by kernel_rfl) ?_
            change wpAnyH _ _ _ _ _ 14 #[false, false, false, false, false, false, false, false, false, false, false, false, false, false] _ (World.drew _)
            rw [HV1.out]
            have hS : V1.grownBy V1 none := grown_refl V1 _
            refine wpAnyH_takeD (some 63) (i := 0) (v := (.agg (rowOf 3 codRos))) rfl rfl (by kernel_rfl) (by kernel_rfl) (by kernel_rfl) (fun _ _ _ h => h) (Or.inl ⟨rfl, fun W hW => exec_loadQ (.tmp 5) _ _ rfl rfl ((HC8.out.grown hW (by simp)).load (P := Try.prog) 0 70 3 codRos (by decide) (fun j _ => by rw [Nat.zero_add]) (by kernel_rfl) (by kernel_rfl))⟩) hS ?_
            simp only [Act.put, List.setIfInBounds_toArray, List.set_cons_succ, List.set_cons_zero]
            refine wpAnyH_takeD (some 64) (i := 1) (v := (.slice ap n cp)) rfl rfl (by kernel_rfl) (by kernel_rfl) (by kernel_rfl) (fun _ _ _ h => h) (Or.inl ⟨rfl, fun _ _ => rfl⟩) hS ?_
            simp only [Act.put, List.setIfInBounds_toArray, List.set_cons_succ, List.set_cons_zero]
            refine wpAnyH_takeD (some 65) (i := 2) (v := (.int .i64 (cut : Nat))) rfl rfl (by kernel_rfl) (by kernel_rfl) (by kernel_rfl) (fun _ _ _ h => h) (Or.inl ⟨rfl, fun _ _ => rfl⟩) hS ?_
            simp only [Act.put, List.setIfInBounds_toArray, List.set_cons_succ, List.set_cons_zero]
            refine wpAnyH_takeD (some 66) (i := 3) (v := (.slice ap n cp)) rfl rfl (by kernel_rfl) (by kernel_rfl) (by kernel_rfl) (fun _ _ _ h => h) (Or.inl ⟨rfl, fun _ _ => rfl⟩) hS ?_
            simp only [Act.put, List.setIfInBounds_toArray, List.set_cons_succ, List.set_cons_zero]
            refine wpAnyH_takeD (some 67) (i := 4) (v := (.int .i64 (n : Nat))) rfl rfl (by kernel_rfl) (by kernel_rfl) (by kernel_rfl) (fun _ _ _ h => h) (Or.inl ⟨rfl, fun _ _ => by go_simp⟩) hS ?_
            simp only [Act.put, List.setIfInBounds_toArray, List.set_cons_succ, List.set_cons_zero]
            refine wpAnyH_takeD (some 68) (i := 5) (v := (.int .i64 (kc : Nat))) rfl rfl (by kernel_rfl) (by kernel_rfl) (by kernel_rfl) (fun _ _ _ h => h) (Or.inl ⟨rfl, fun _ _ => by have hq := HKC.out; have hq2 := HKC2.out; go_simp; have := HKL.out; omega⟩) hS ?_
            simp only [Act.put, List.setIfInBounds_toArray, List.set_cons_succ, List.set_cons_zero]
            refine wpAnyH_takeD (some 69) (i := 6) (v := (.slice ap kc cp)) rfl rfl (by kernel_rfl) (by kernel_rfl) (by kernel_rfl) (fun _ _ _ h => h) (Or.inl ⟨rfl, fun W _ => by have z := HZ8.out W; go_simp⟩) hS ?_
            simp only [Act.put, List.setIfInBounds_toArray, List.set_cons_succ, List.set_cons_zero]
            refine wpAnyH_both (i := 7) (j := 11) (by kernel_rfl) ?_ ?_
            · have hA0 := hS
              refine op_callR (R := fun v W => ∃ vv : Nat → Value, v = .tuple #[.agg (rowOf 18 vv), .int .i64 9] ∧ (∀ j, (vv j).oneCell' = true) ∧ V1.grownBy W none) (some 70) 27 #[.agg (rowOf 3 codRos), .slice ap kc cp] rfl rfl rfl (exec_fn2 _ _ _ _ _ rfl rfl rfl) bkRosT_enters (((HK.out.take cp (HRk.out.grown hS (by simp)) HFp.out (by have := HN4.out; have := HKL.out; omega)).mono fun e W h => by
                obtain ⟨vv, rfl, h1, _, h3⟩ := h
                rw [HNO8.out]
                exact ⟨_, rfl, vv, rfl, h1, h3⟩)) ?_
              rintro v u1 ⟨vv, rfl, h1v, gn⟩
              replace hS := grown_trans hS gn
              clear gn hA0
              refine ⟨hS, ?_⟩
              simp only [Act.put, List.setIfInBounds_toArray, List.set_cons_succ, List.set_cons_zero]
              refine wpAnyH_takeD (some 62) (i := 8) (v := (.tuple #[.agg (rowOf 18 vv), .int .i64 9])) rfl rfl (by kernel_rfl) (by kernel_rfl) (by kernel_rfl) (fun _ _ _ h => h) (Or.inl ⟨rfl, fun _ _ => rfl⟩) hS ?_
              simp only [Act.put, List.setIfInBounds_toArray, List.set_cons_succ, List.set_cons_zero]
              refine wpAnyH_takeD (some 71) (i := 9) (v := (.agg (rowOf 18 vv))) rfl rfl (by kernel_rfl) (by kernel_rfl) (by kernel_rfl) (fun _ _ _ h => h) (Or.inl ⟨rfl, fun _ _ => by go_simp⟩) hS ?_
              simp only [Act.put, List.setIfInBounds_toArray, List.set_cons_succ, List.set_cons_zero]
              refine wpAnyH_takeD (some 72) (i := 10) (v := (.int .i64 9)) rfl rfl (by kernel_rfl) (by kernel_rfl) (by kernel_rfl) (fun _ _ _ h => h) (Or.inl ⟨rfl, fun _ _ => by go_simp⟩) hS ?_
              simp only [Act.put, List.setIfInBounds_toArray, List.set_cons_succ, List.set_cons_zero]
              refine wpAnyH_one (i := 11) (by kernel_rfl) ?_
              have hYb : V1.heap.size ≤ u1.heap.size := hS.size
              have hY := RowAt.new u1 33 18 RV.zero.v #[.int .u8 0, .int .u8 0, .int .u8 0, .int .u8 0, .int .u8 0, .int .u8 0, .int .u8 0, .int .u8 0, .int .u8 0, .int .u8 0, .int .u8 0, .int .u8 0, .int .u8 0, .int .u8 0, .int .u8 0, .int .u8 0, .int .u64 0, .slice none 0 0] (by kernel_rfl)
              refine op_yield (some 17) (v := .pointer (some ⟨u1.heap.size, 0, none⟩)) (w' := u1.alloc (.cells #[.int .u8 0, .int .u8 0, .int .u8 0, .int .u8 0, .int .u8 0, .int .u8 0, .int .u8 0, .int .u8 0, .int .u8 0, .int .u8 0, .int .u8 0, .int .u8 0, .int .u8 0, .int .u8 0, .int .u8 0, .int .u8 0, .int .u64 0, .slice none 0 0] 33)) rfl rfl rfl (by unfold execOp; go_simp) (grown_alloc hS _) ?_
              simp only [Act.put, List.setIfInBounds_toArray, List.set_cons_succ, List.set_cons_zero]
              replace hS := grown_alloc hS (.cells #[.int .u8 0, .int .u8 0, .int .u8 0, .int .u8 0, .int .u8 0, .int .u8 0, .int .u8 0, .int .u8 0, .int .u8 0, .int .u8 0, .int .u8 0, .int .u8 0, .int .u8 0, .int .u8 0, .int .u8 0, .int .u8 0, .int .u64 0, .slice none 0 0] 33)
              generalize u1.alloc (.cells #[.int .u8 0, .int .u8 0, .int .u8 0, .int .u8 0, .int .u8 0, .int .u8 0, .int .u8 0, .int .u8 0, .int .u8 0, .int .u8 0, .int .u8 0, .int .u8 0, .int .u8 0, .int .u8 0, .int .u8 0, .int .u8 0, .int .u64 0, .slice none 0 0] 33) = u2 at *
              obtain ⟨k1, k2⟩ := RowAt.store (P := Try.prog) hY 0 33 18 vv (by decide) (by kernel_rfl) (fun j _ => h1v j)
              have gX : V1.grownBy (u2.setCells u1.heap.size 0 (rowOf 18 vv).toList) none := grown_setCells u1.heap.size (Or.inl hYb) _ 0 _ hS
              refine wpAnyH_skipQ (i := 12) (by kernel_rfl) rfl rfl rfl (exec_storeQ (.tmp 17) (.tmp 71) _ _ rfl rfl rfl k1) gX ?_
              simp only [List.setIfInBounds_toArray, List.set_cons_succ, List.set_cons_zero]
              refine wpAnyH_yieldD (some 18) (i := 13) (v := .int .i64 9) (by kernel_rfl) rfl rfl rfl (by unfold execOp; go_simp) gX ?_
              simp only [Act.put, List.setIfInBounds_toArray, List.set_cons_succ, List.set_cons_zero]
              refine wpAnyH_done (by kernel_rfl) ?_ _
              clear k1 k2 hY h1v hS
              go_wp2_with fail
              go_meet
              case rel => exact ⟨rfl, gX⟩
            · have hA0 := hS
              have hYb : V1.heap.size ≤ V1.heap.size := hS.size
              have hY := RowAt.new V1 33 18 RV.zero.v #[.int .u8 0, .int .u8 0, .int .u8 0, .int .u8 0, .int .u8 0, .int .u8 0, .int .u8 0, .int .u8 0, .int .u8 0, .int .u8 0, .int .u8 0, .int .u8 0, .int .u8 0, .int .u8 0, .int .u8 0, .int .u8 0, .int .u64 0, .slice none 0 0] (by kernel_rfl)
              refine op_yield (some 17) (v := .pointer (some ⟨V1.heap.size, 0, none⟩)) (w' := V1.alloc (.cells #[.int .u8 0, .int .u8 0, .int .u8 0, .int .u8 0, .int .u8 0, .int .u8 0, .int .u8 0, .int .u8 0, .int .u8 0, .int .u8 0, .int .u8 0, .int .u8 0, .int .u8 0, .int .u8 0, .int .u8 0, .int .u8 0, .int .u64 0, .slice none 0 0] 33)) rfl rfl rfl (by unfold execOp; go_simp) (grown_alloc hS _) ?_
              simp only [Act.put, List.setIfInBounds_toArray, List.set_cons_succ, List.set_cons_zero]
              replace hS := grown_alloc hS (.cells #[.int .u8 0, .int .u8 0, .int .u8 0, .int .u8 0, .int .u8 0, .int .u8 0, .int .u8 0, .int .u8 0, .int .u8 0, .int .u8 0, .int .u8 0, .int .u8 0, .int .u8 0, .int .u8 0, .int .u8 0, .int .u8 0, .int .u64 0, .slice none 0 0] 33)
              generalize V1.alloc (.cells #[.int .u8 0, .int .u8 0, .int .u8 0, .int .u8 0, .int .u8 0, .int .u8 0, .int .u8 0, .int .u8 0, .int .u8 0, .int .u8 0, .int .u8 0, .int .u8 0, .int .u8 0, .int .u8 0, .int .u8 0, .int .u8 0, .int .u64 0, .slice none 0 0] 33) = u1 at *
              refine wpAnyH_one (i := 7) (by kernel_rfl) ?_
              refine op_callR (R := fun v W => ∃ vv : Nat → Value, v = .tuple #[.agg (rowOf 18 vv), .int .i64 9] ∧ (∀ j, (vv j).oneCell' = true) ∧ u1.grownBy W none) (some 70) 27 #[.agg (rowOf 3 codRos), .slice ap kc cp] rfl rfl rfl (exec_fn2 _ _ _ _ _ rfl rfl rfl) bkRosT_enters (((HK.out.take cp (HRk.out.grown hS (by simp)) HFp.out (by have := HN4.out; have := HKL.out; omega)).mono fun e W h => by
                obtain ⟨vv, rfl, h1, _, h3⟩ := h
                rw [HNO8.out]
                exact ⟨_, rfl, vv, rfl, h1, h3⟩)) ?_
              rintro v u2 ⟨vv, rfl, h1v, gn⟩
              replace hY := hY.grown gn (by simp)
              replace hS := grown_trans hS gn
              clear gn hA0
              refine ⟨hS, ?_⟩
              simp only [Act.put, List.setIfInBounds_toArray, List.set_cons_succ, List.set_cons_zero]
              refine wpAnyH_takeD (some 62) (i := 8) (v := (.tuple #[.agg (rowOf 18 vv), .int .i64 9])) rfl rfl (by kernel_rfl) (by kernel_rfl) (by kernel_rfl) (fun _ _ _ h => h) (Or.inl ⟨rfl, fun _ _ => rfl⟩) hS ?_
              simp only [Act.put, List.setIfInBounds_toArray, List.set_cons_succ, List.set_cons_zero]
              refine wpAnyH_takeD (some 71) (i := 9) (v := (.agg (rowOf 18 vv))) rfl rfl (by kernel_rfl) (by kernel_rfl) (by kernel_rfl) (fun _ _ _ h => h) (Or.inl ⟨rfl, fun _ _ => by go_simp⟩) hS ?_
              simp only [Act.put, List.setIfInBounds_toArray, List.set_cons_succ, List.set_cons_zero]
              refine wpAnyH_takeD (some 72) (i := 10) (v := (.int .i64 9)) rfl rfl (by kernel_rfl) (by kernel_rfl) (by kernel_rfl) (fun _ _ _ h => h) (Or.inl ⟨rfl, fun _ _ => by go_simp⟩) hS ?_
              simp only [Act.put, List.setIfInBounds_toArray, List.set_cons_succ, List.set_cons_zero]
              obtain ⟨k1, k2⟩ := RowAt.store (P := Try.prog) hY 0 33 18 vv (by decide) (by kernel_rfl) (fun j _ => h1v j)
              have gX : V1.grownBy (u2.setCells V1.heap.size 0 (rowOf 18 vv).toList) none := grown_setCells V1.heap.size (Or.inl hYb) _ 0 _ hS
              refine wpAnyH_skipQ (i := 12) (by kernel_rfl) rfl rfl rfl (exec_storeQ (.tmp 17) (.tmp 71) _ _ rfl rfl rfl k1) gX ?_
              simp only [List.setIfInBounds_toArray, List.set_cons_succ, List.set_cons_zero]
              refine wpAnyH_yieldD (some 18) (i := 13) (v := .int .i64 9) (by kernel_rfl) rfl rfl rfl (by unfold execOp; go_simp) gX ?_
              simp only [Act.put, List.setIfInBounds_toArray, List.set_cons_succ, List.set_cons_zero]
              refine wpAnyH_done (by kernel_rfl) ?_ _
              clear k1 k2 hY h1v hS
              go_wp2_with fail
              go_meet
              case rel => exact ⟨rfl, gX⟩
          case rest =>
            obtain ⟨rfl, g9⟩ := hcut
            have HGe := Lib.hid (grown_trans HGV1.out g9)
            clear g9
            go_wp2_with fail
            go_meet
            case rel => exact HGe.out
        · have i1 : ¬ (n : Int) > 0 := by omega
          go_wp2_with fail
          go_meet
          case rel => exact HGw6.out
  case rest =>
    generalize wc = w20 at *
    have HG20 := Lib.hid (grown_trans HGw2.out hcut)
    have HGA := Lib.hid (grown_trans HG1.out HG20.out)
    have HRb := Lib.hid (HR.out.grown HGA.out (fun k e => by cases e))
    have HLC20 := Lib.hid (((HC.out.grown HG20.out (by simp))).load (P := Try.prog) 0 70 3 codRos (by decide) (fun j _ => by rw [Nat.zero_add]) (by kernel_rfl) (by kernel_rfl))
    clear hcut HO HE HNP HIs HGw2
    go_wp2_with (first | ((with_reducible refine wpList_here ?_); refine wpList_ld (p := .pointer (some ⟨CB, 0, none⟩)) 5 ?_ ?_ ?_ HLC20.out ?_; (· rfl); go_simp; (· kernel_rfl)))
    go_at_call 27
    refine (HK.out.take c HRb.out HF.out (by have := HL.out; omega)).mono ?_
    rintro e w21 ⟨v, rfl, h1, h2, g⟩
    have H1V := Lib.hid h1
    have H2V := Lib.hid h2
    have HGw21 := Lib.hid g
    clear h1 h2 g HLC20
    cases hok : rOk2 L F with
    | false =>
      rw [show errT false = 9 from rfl]
      clear hok H2V
      have hN := RowAt.new w21 33 18 RV.zero.v #[.int .u8 0, .int .u8 0, .int .u8 0, .int .u8 0, .int .u8 0, .int .u8 0, .int .u8 0, .int .u8 0, .int .u8 0, .int .u8 0, .int .u8 0, .int .u8 0, .int .u8 0, .int .u8 0, .int .u8 0, .int .u8 0, .int .u64 0, .slice none 0 0] (by kernel_rfl)
      obtain ⟨k1, k2⟩ := RowAt.store (P := Try.prog) hN 0 33 18 v (by decide) (by kernel_rfl) (fun j _ => H1V.out j)
      obtain ⟨w22, hw⟩ : ∃ W, W = (w21.alloc (.cells #[.int .u8 0, .int .u8 0, .int .u8 0, .int .u8 0, .int .u8 0, .int .u8 0, .int .u8 0, .int .u8 0, .int .u8 0, .int .u8 0, .int .u8 0, .int .u8 0, .int .u8 0, .int .u8 0, .int .u8 0, .int .u8 0, .int .u64 0, .slice none 0 0] 33)).setCells w21.heap.size 0 (rowOf 18 v).toList := ⟨_, rfl⟩
      have g2 : w21.grownBy w22 none := by rw [hw]; exact grown_setCells w21.heap.size (Or.inl (Nat.le_refl _)) _ 0 _ (World.grownBy_alloc w21 _ none)
      rw [← hw] at k1 k2
      have HYyb := Lib.hid (k2.congr (v' := v) fun i hi => by rw [if_pos ⟨Nat.zero_le _, by omega⟩, Nat.sub_zero])
      obtain ⟨yb, hb⟩ : ∃ b, b = w21.heap.size := ⟨_, rfl⟩
      rw [← hb] at k1 HYyb
      have HXB := Lib.hid hb
      have HS := Lib.hid k1
      have HGw22 := Lib.hid (grown_trans HGw21.out g2)
      have HG34 := Lib.hid g2
      clear hN k1 k2 hw g2 hb HGw21
      go_upto_region 12 with (first | ((with_reducible refine wpList_here ?_); refine wpList_st (T := 33) (p := .pointer (some ⟨w21.heap.size, 0, none⟩)) (v := .agg (rowOf 18 v)) (.tmp 19) (.tmp 79) ?_ ?_ ?_ ?_ ?_ (by rw [← HXB.out]; exact HS.out) ?_; (· rfl); (· rfl); go_simp; (· kernel_rfl); (· kernel_rfl)))
      rw [← HXB.out]
      clear HS HXB
      go_wp2_with fail
      go_ret
      exact ⟨rfl, grown_trans HGA.out HGw22.out⟩
    | true =>
      rw [show errT true = 0 from rfl]
      have HIS21 := Lib.hid (H2V.out hok)
      clear hok H2V
      have hN := RowAt.new w21 33 18 RV.zero.v #[.int .u8 0, .int .u8 0, .int .u8 0, .int .u8 0, .int .u8 0, .int .u8 0, .int .u8 0, .int .u8 0, .int .u8 0, .int .u8 0, .int .u8 0, .int .u8 0, .int .u8 0, .int .u8 0, .int .u8 0, .int .u8 0, .int .u64 0, .slice none 0 0] (by kernel_rfl)
      obtain ⟨k1, k2⟩ := RowAt.store (P := Try.prog) hN 0 33 18 v (by decide) (by kernel_rfl) (fun j _ => H1V.out j)
      obtain ⟨w22, hw⟩ : ∃ W, W = (w21.alloc (.cells #[.int .u8 0, .int .u8 0, .int .u8 0, .int .u8 0, .int .u8 0, .int .u8 0, .int .u8 0, .int .u8 0, .int .u8 0, .int .u8 0, .int .u8 0, .int .u8 0, .int .u8 0, .int .u8 0, .int .u8 0, .int .u8 0, .int .u64 0, .slice none 0 0] 33)).setCells w21.heap.size 0 (rowOf 18 v).toList := ⟨_, rfl⟩
      have g2 : w21.grownBy w22 none := by rw [hw]; exact grown_setCells w21.heap.size (Or.inl (Nat.le_refl _)) _ 0 _ (World.grownBy_alloc w21 _ none)
      rw [← hw] at k1 k2
      have HYyb := Lib.hid (k2.congr (v' := v) fun i hi => by rw [if_pos ⟨Nat.zero_le _, by omega⟩, Nat.sub_zero])
      obtain ⟨yb, hb⟩ : ∃ b, b = w21.heap.size := ⟨_, rfl⟩
      rw [← hb] at k1 HYyb
      have HXB := Lib.hid hb
      have HS := Lib.hid k1
      have HGw22 := Lib.hid (grown_trans HGw21.out g2)
      have HG34 := Lib.hid g2
      clear hN k1 k2 hw g2 hb HGw21
      go_upto_region 14 with (first | ((with_reducible refine wpList_here ?_); refine wpList_st (T := 33) (p := .pointer (some ⟨w21.heap.size, 0, none⟩)) (v := .agg (rowOf 18 v)) (.tmp 19) (.tmp 79) ?_ ?_ ?_ ?_ ?_ (by rw [← HXB.out]; exact HS.out) ?_; (· rfl); (· rfl); go_simp; (· kernel_rfl); (· kernel_rfl)))
      rw [← HXB.out]
      clear HS HXB
      have HIS22 := Lib.hid (HK.out.grown HIS21.out HG34.out)
      have HGC := Lib.hid (grown_trans HG20.out HGw22.out)
      have HLC22 := Lib.hid (((HC.out.grown HGC.out (by simp))).load (P := Try.prog) 0 70 3 codRos (by decide) (fun j _ => by rw [Nat.zero_add]) (by kernel_rfl) (by kernel_rfl))
      have HLY22 := Lib.hid ((HYyb.out).load (P := Try.prog) 0 33 18 v (by decide) (fun j _ => by rw [Nat.zero_add]) (by kernel_rfl) (by kernel_rfl))
      have HP22 := Lib.hid (HK.out.put HIS22.out)
      clear HIS21 HG34
      go_wp2_with (first | ((with_reducible refine wpList_here ?_); refine wpList_ld (p := .pointer (some ⟨CB, 0, none⟩)) 5 ?_ ?_ ?_ HLC22.out ?_; (· rfl); go_simp; (· kernel_rfl)) | ((with_reducible refine wpList_here ?_); refine wpList_ld (p := .pointer (some ⟨yb, 0, none⟩)) 19 ?_ ?_ ?_ HLY22.out ?_; (· rfl); go_simp; (· kernel_rfl)))
      go_at_call 76
      refine HP22.out.mono ?_
      rintro e w23 ⟨⟨ap, cp, rfl, hO⟩, g⟩
      rw [show (.slice ap (if true = true then L else 0) cp : Value) = .slice ap L cp from rfl, show (.int .i64 (if true = true then 0 else 2) : Value) = .int .i64 0 from rfl]
      have hO : OwnN w23 w22.heap.size (.slice ap L cp) L F := hO
      obtain ⟨_, hRp⟩ := own_rd hO
      have HGw23 := Lib.hid (grown_trans HGw22.out g)
      have hsp := run_string cp hRp HF.out
      have hsb := run_string c (HRb.out.grown HGw23.out (fun k e => by cases e)) HF.out
      obtain ⟨sx, hsx⟩ : ∃ s, s = strOf L F := ⟨_, rfl⟩
      rw [← hsx] at hsp hsb
      clear g hO hRp HP22 HLC22 HLY22 HGw22 hsx HYyb HIS22 HGC
      go_wp2_with fail
      go_ret
      exact ⟨rfl, grown_trans HGA.out HGw23.out⟩
end Go.Proofs.Ytmbefbmpjkbnmaa
namespace Go.Proofs.Ytmbefbmpjkbnmaa
open Go.RowKit Go.Shelf

set_option maxRecDepth 100000
set_option maxHeartbeats 4000000

theorem bkEnvT_enters (args : Array Value) (w : World) : (callFunc 32 args).run Try.prog w = .ok (.enter 32 args) w := enters_of Try.func32 (by kernel_rfl) rfl args w
theorem backEnv_any (xv : Nat → Value) (L c D cut : Nat) (a : Option Addr) (F : Nat → Nat) (w : World) (hx : (∃ n f, IsE w xv n f) ∨ ∀ W, w.grownBy W none → Calls Try.prog 86 #[.agg (rowOf 3 codEnv), .agg (rowOf 106 xv)] W (PutSays W false 0 (fun _ => 0))) (hR : Rd w D a L F) (hF : ∀ i, F i < 256) (hc : L ≤ c) (hL : L ≤ 9000) :
    Calls Try.prog 43 #[.agg (rowOf 3 codEnv), .agg (rowOf 106 xv), .slice a L c, .int .i64 (cut : Nat), .func (.func 34) #[] #[]] w fun e w' => e = .returned (.bool true) ∧ w.grownBy w' none := by
  have HK := Lib.hid kEnv
  have ga := World.grownBy_alloc w (.cells (rowOf 3 codEnv) 78) none
  have hz := World.size_alloc w (.cells (rowOf 3 codEnv) 78)
  have hC := RowAt.new w 78 3 codEnv _ rfl
  have gb := World.grownBy_alloc (w.alloc (.cells (rowOf 3 codEnv) 78)) (.cells (rowOf 106 xv) 41) none
  have hX := RowAt.new (w.alloc (.cells (rowOf 3 codEnv) 78)) 41 106 xv _ rfl
  rw [hz] at hX
  replace hC := hC.grown gb (by simp)
  have HG0 := Lib.hid (grown_trans ga gb)
  have HX0 := Lib.hid hx
  have HR := Lib.hid hR
  have HF := Lib.hid hF
  have HLC := Lib.hid hc
  have HL := Lib.hid hL
  clear ga gb hz hx hR hF hc hL
  go_enter Try.func43, Try.ntmps43
  go_upto_region 1 with fail
  obtain ⟨CB, hCB⟩ : ∃ B, B = w.heap.size := ⟨_, rfl⟩
  rw [← hCB] at hC hX ⊢
  generalize (w.alloc (.cells (rowOf 3 codEnv) 78)).alloc (.cells (rowOf 106 xv) 41) = w1 at *
  have HC := Lib.hid hC
  have HX := Lib.hid hX
  have HG1 := HG0
  clear hC hX hCB HG0
  have HLC1 := Lib.hid ((HC.out).load (P := Try.prog) 0 78 3 codEnv (by decide) (fun j _ => by rw [Nat.zero_add]) (by kernel_rfl) (by kernel_rfl))
  have HLX1 := Lib.hid ((HX.out).load (P := Try.prog) 0 41 106 xv (by decide) (fun j _ => by rw [Nat.zero_add]) (by kernel_rfl) (by kernel_rfl))
  obtain ⟨m, n, f, hIs, hP⟩ : ∃ (m : Bool) (n : Nat) (f : Nat → Nat), (m = true → IsE w1 xv n f) ∧ Calls Try.prog 86 #[.agg (rowOf 3 codEnv), .agg (rowOf 106 xv)] w1 (PutSays w1 m n f) := by
    rcases HX0.out with ⟨n, f, hIs⟩ | hno
    · have h := HK.out.grown hIs HG1.out
      exact ⟨true, n, f, fun _ => h, HK.out.put h⟩
    · exact ⟨false, 0, fun _ => 0, fun e => absurd e (by decide), hno w1 HG1.out⟩
  have HP := Lib.hid hP
  have HIs := Lib.hid hIs
  clear hP hIs HX0
  go_wp2_with (first | ((with_reducible refine wpList_here ?_); refine wpList_ld (p := .pointer (some ⟨CB, 0, none⟩)) 5 ?_ ?_ ?_ HLC1.out ?_; (· rfl); go_simp; (· kernel_rfl)) | ((with_reducible refine wpList_here ?_); refine wpList_ld (p := .pointer (some ⟨(CB + 1), 0, none⟩)) 6 ?_ ?_ ?_ HLX1.out ?_; (· rfl); go_simp; (· kernel_rfl)))
  go_at_call 86
  refine HP.out.mono ?_
  rintro e w2 ⟨⟨ap, cp, rfl, hO⟩, g⟩
  have HGw2 := Lib.hid g
  have HO := Lib.hid hO
  clear g hO HP HLC1 HLX1
  obtain ⟨E, hE⟩ : ∃ E : Int, E = if m = true then 0 else 2 := ⟨_, rfl⟩
  obtain ⟨np, hnp⟩ : ∃ q, q = if m = true then n else 0 := ⟨_, rfl⟩
  rw [← hE, ← hnp]
  rw [← hnp] at HO
  have HE := Lib.hid hE
  have HNP := Lib.hid hnp
  clear hE hnp
  go_upto_if 29 with fail
  go_cut [13] (fun _ wx => w2.grownBy wx none)
  case first =>
    cases m with
    | false =>
      obtain rfl : E = 2 := HE.out
      clear HE HNP HO
      go_wp2_with fail
      go_meet
      case rel => exact grown_refl w2 none
    | true =>
      obtain rfl : E = 0 := HE.out
      obtain rfl : n = np := HNP.out.symm
      have hO := HO.out
      have HIS1 := Lib.hid (HIs.out rfl)
      have hln := HK.out.len HIS1.out
      have HN4 := Lib.hid hln
      have HFp := Lib.hid (HK.out.byt HIS1.out)
      clear HE HNP HO HIs hln
      obtain ⟨hcp, hRp⟩ := own_rd hO
      have HCP := Lib.hid hcp
      have HRw2 := Lib.hid hRp
      clear hO hcp hRp
      have HLC2 := Lib.hid (((HC.out.grown HGw2.out (by simp))).load (P := Try.prog) 0 78 3 codEnv (by decide) (fun j _ => by rw [Nat.zero_add]) (by kernel_rfl) (by kernel_rfl))
      go_wp2_with (first | ((with_reducible refine wpList_here ?_); refine wpList_ld (p := .pointer (some ⟨CB, 0, none⟩)) 5 ?_ ?_ ?_ HLC2.out ?_; (· rfl); go_simp; (· kernel_rfl)))
      go_at_call 32
      refine (HK.out.take cp HRw2.out HFp.out (by have := HN4.out; omega)).mono ?_
      rintro e w3 ⟨v3, rfl, h1, h2, g⟩
      have hok : eOk2 n f = true := HK.out.isok HIS1.out f (fun _ _ => rfl)
      rw [show errT (eOk2 n f) = 0 by rw [hok]; rfl]
      have HIS3 := Lib.hid (h2 hok)
      have H13 := Lib.hid h1
      have HGw3 := Lib.hid g
      clear h1 h2 g hok HLC2
      have hN := RowAt.new w3 41 106 EV.zero.v Try.zeroCells41 (by kernel_rfl)
      obtain ⟨k1, k2⟩ := RowAt.store (P := Try.prog) hN 0 41 106 v3 (by decide) (by kernel_rfl) (fun j _ => H13.out j)
      obtain ⟨w4, hw⟩ : ∃ W, W = (w3.alloc (.cells Try.zeroCells41 41)).setCells w3.heap.size 0 (rowOf 106 v3).toList := ⟨_, rfl⟩
      have g2 : w3.grownBy w4 none := by rw [hw]; exact grown_setCells w3.heap.size (Or.inl (Nat.le_refl _)) _ 0 _ (World.grownBy_alloc w3 _ none)
      rw [← hw] at k1 k2
      have HYyb := Lib.hid (k2.congr (v' := v3) fun i hi => by rw [if_pos ⟨Nat.zero_le _, by omega⟩, Nat.sub_zero])
      obtain ⟨yb, hb⟩ : ∃ b, b = w3.heap.size := ⟨_, rfl⟩
      rw [← hb] at k1 HYyb
      have HXB := Lib.hid hb
      have HS := Lib.hid k1
      have HGw4 := Lib.hid (grown_trans HGw3.out g2)
      have HG34 := Lib.hid g2
      clear hN k1 k2 hw g2 hb HGw3
      go_upto_region 4 with (first | ((with_reducible refine wpList_here ?_); refine wpList_st (T := 41) (p := .pointer (some ⟨w3.heap.size, 0, none⟩)) (v := .agg (rowOf 106 v3)) (.tmp 13) (.tmp 34) ?_ ?_ ?_ ?_ ?_ (by rw [← HXB.out]; exact HS.out) ?_; (· rfl); (· rfl); go_simp; (· kernel_rfl); (· kernel_rfl)))
      rw [← HXB.out]
      clear HS HXB
      obtain ⟨V0, hV0⟩ : ∃ V0, V0 = w4.drew := ⟨_, rfl⟩
      have hv0 : w4.grownBy V0 none := by rw [hV0]; exact grown_drew (grown_refl w4 none)
      have HV0 := Lib.hid hV0.symm
      have HGw34 := Lib.hid (grown_trans HG34.out hv0)
      have HGV0 := Lib.hid (grown_trans HGw4.out hv0)
      have HG1V := Lib.hid (grown_trans HGw2.out HGV0.out)
      have HC4 := Lib.hid (HC.out.grown HG1V.out (by simp))
      have HY4 := Lib.hid (HYyb.out.grown hv0 (by simp))
      have HRp := Lib.hid (rd_up (HRw2.out) HGw2.out HGV0.out)
      have HFB := Lib.hid (cat_uB (n := n) (cat_uB (n := 0) (fun _ => (by decide : (0 : Nat) < 256)) HFp.out) (fun _ => (by decide : (0 : Nat) < 256)))
      have HNO4 : Hid (eOk2 (n + 1) (cat n (cat 0 (fun _ => 0) f) (fun _ => 0)) = false) := Lib.hid (HK.out.only HIS1.out (n + 1) (cat n (cat 0 (fun _ => 0) f) (fun _ => 0)) (fun i _ h2 => by
        unfold cat
        rw [if_pos h2, if_neg (by omega), Nat.sub_zero]) (by omega))
      clear hV0 hv0 HYyb HGw4
      go_cut [15, 16] (fun _ s16 wx => s16 = .int .i64 9 ∧ V0.grownBy wx none)
      case first =>
        refine r4_any 78 41 _ 32 106 EV.zero.v Try.zeroCells41 (rowOf 3 codEnv) HV0.out (by kernel_rfl) (by kernel_rfl) (fun W hW => ((HC4.out.grown hW (by simp)).load (P := Try.prog) 0 78 3 codEnv (by decide) (fun j _ => by rw [Nat.zero_add]) (by kernel_rfl) (by kernel_rfl))) (fun W ev => by unfold execOp; go_simp) HRp.out HN4.out (fun W gB cB hW hB => (HK.out.take cB hB.rd HFB.out (by have := HN4.out; omega)).mono fun e W h => by
          obtain ⟨vv, rfl, h1, _, h3⟩ := h
          rw [HNO4.out]
          exact ⟨vv, rfl, h1, h3⟩) bkEnvT_enters (fun _ _ _ _ _ h => h) ?_
        intro x36 x38 x40 x41 x42 x43 x44 x45 x15 W gX
        go_wp2_with fail
        go_meet
        case rel => exact ⟨rfl, gX⟩
      case rest =>
        obtain ⟨rfl, g5⟩ := hcut
        generalize wc = w5 at *
        have HGw5 := Lib.hid (grown_trans HGV0.out g5)
        have HG15 := Lib.hid (grown_trans HG1V.out g5)
        have HY5 := Lib.hid (HY4.out.grown g5 (by simp))
        have HX5 := Lib.hid (HX.out.grown HG15.out (by simp))
        have HSAME := Lib.hid (HK.out.same (HK.out.grown HIS1.out HG15.out) (HK.out.grown HIS3.out (grown_trans HGw34.out g5)))
        have HLX5 := Lib.hid ((HX5.out).load (P := Try.prog) 0 41 106 xv (by decide) (fun j _ => by rw [Nat.zero_add]) (by kernel_rfl) (by kernel_rfl))
        have HLY5 := Lib.hid ((HY5.out).load (P := Try.prog) 0 41 106 v3 (by decide) (fun j _ => by rw [Nat.zero_add]) (by kernel_rfl) (by kernel_rfl))
        clear g5 HY4 HGV0 HG1V HC4 HV0
        go_wp2_with (first | ((with_reducible refine wpList_here ?_); refine wpList_ld (p := .pointer (some ⟨(CB + 1), 0, none⟩)) 6 ?_ ?_ ?_ HLX5.out ?_; (· rfl); go_simp; (· kernel_rfl)) | ((with_reducible refine wpList_here ?_); refine wpList_ld (p := .pointer (some ⟨yb, 0, none⟩)) 13 ?_ ?_ ?_ HLY5.out ?_; (· rfl); go_simp; (· kernel_rfl)))
        go_at_call 34
        refine HSAME.out.mono ?_
        rintro e w6 ⟨rfl, g⟩
        have HGw6 := Lib.hid (grown_trans HGw5.out g)
        clear g HSAME HLX5 HLY5 HY5 HX5 HG15 HGw5
        by_cases h0 : 0 < n
        · have i1 : (n : Int) > 0 := by omega
          obtain ⟨kc, hkc⟩ : ∃ q, q = cut % n := ⟨_, rfl⟩
          have hkl : kc < n := by rw [hkc]; exact Nat.mod_lt _ h0
          have HKC := Lib.hid (show (cut : Int) % (n : Int) = (kc : Int) by rw [hkc]; omega)
          have HKC2 := Lib.hid (show (cut : Int).tmod (n : Int) = (kc : Int) by rw [hkc]; rfl)
          have HKL := Lib.hid hkl
          have HZ8 := Lib.hid (fun W => run_aheadQ ap n cp kc HCP.out (Nat.le_of_lt hkl) W)
          have HNO8 : Hid (eOk2 kc f = false) := Lib.hid (HK.out.only HIS1.out kc f (fun _ _ _ => rfl) (by omega))
          clear hkc hkl
          go_upto_region 8 with fail
          obtain ⟨V1, hV1⟩ : ∃ V1, V1 = w6.drew := ⟨_, rfl⟩
          have hv1 : w6.grownBy V1 none := by rw [hV1]; exact grown_drew (grown_refl w6 none)
          have HV1 := Lib.hid hV1.symm
          have HGV1 := Lib.hid (grown_trans HGw6.out hv1)
          have HC8 := Lib.hid (HC.out.grown (grown_trans HGw2.out HGV1.out) (by simp))
          have HRk : Hid (Rd V1 V1.heap.size ap kc f) := Lib.hid ⟨fun hk0 => by
            have hr := (rd_up (HRw2.out) HGw2.out HGV1.out).ex (by have := HKL.out; omega)
            obtain ⟨tb, o, q1, q2, q3⟩ := hr
            exact ⟨tb, o, q1, q2, fun i hi => q3 i (by have := HKL.out; omega)⟩⟩
          clear hV1 hv1 HGw6
          go_cut [17, 18] (fun _ s18 wx => s18 = .int .i64 9 ∧ V1.grownBy wx none)
          case first =>
            refine wp_region_held (S := fun W => V1.grownBy W none) (by kernel_rfl) ?_
            change wpAnyH _ _ _ _ _ 14 #[false, false, false, false, false, false, false, false, false, false, false, false, false, false] _ (World.drew _)
            rw [HV1.out]
            have hS : V1.grownBy V1 none := grown_refl V1 _
            refine wpAnyH_takeD (some 63) (i := 0) (v := (.agg (rowOf 3 codEnv))) rfl rfl (by kernel_rfl) (by kernel_rfl) (by kernel_rfl) (fun _ _ _ h => h) (Or.inl ⟨rfl, fun W hW => exec_loadQ (.tmp 5) _ _ rfl rfl ((HC8.out.grown hW (by simp)).load (P := Try.prog) 0 78 3 codEnv (by decide) (fun j _ => by rw [Nat.zero_add]) (by kernel_rfl) (by kernel_rfl))⟩) hS ?_
            simp only [Act.put, List.setIfInBounds_toArray, List.set_cons_succ, List.set_cons_zero]
            refine wpAnyH_takeD (some 64) (i := 1) (v := (.slice ap n cp)) rfl rfl (by kernel_rfl) (by kernel_rfl) (by kernel_rfl) (fun _ _ _ h => h) (Or.inl ⟨rfl, fun _ _ => rfl⟩) hS ?_
            simp only [Act.put, List.setIfInBounds_toArray, List.set_cons_succ, List.set_cons_zero]
            refine wpAnyH_takeD (some 65) (i := 2) (v := (.int .i64 (cut : Nat))) rfl rfl (by kernel_rfl) (by kernel_rfl) (by kernel_rfl) (fun _ _ _ h => h) (Or.inl ⟨rfl, fun _ _ => rfl⟩) hS ?_
            simp only [Act.put, List.setIfInBounds_toArray, List.set_cons_succ, List.set_cons_zero]
            refine wpAnyH_takeD (some 66) (i := 3) (v := (.slice ap n cp)) rfl rfl (by kernel_rfl) (by kernel_rfl) (by kernel_rfl) (fun _ _ _ h => h) (Or.inl ⟨rfl, fun _ _ => rfl⟩) hS ?_
            simp only [Act.put, List.setIfInBounds_toArray, List.set_cons_succ, List.set_cons_zero]
            refine wpAnyH_takeD (some 67) (i := 4) (v := (.int .i64 (n : Nat))) rfl rfl (by kernel_rfl) (by kernel_rfl) (by kernel_rfl) (fun _ _ _ h => h) (Or.inl ⟨rfl, fun _ _ => by go_simp⟩) hS ?_
            simp only [Act.put, List.setIfInBounds_toArray, List.set_cons_succ, List.set_cons_zero]
            refine wpAnyH_takeD (some 68) (i := 5) (v := (.int .i64 (kc : Nat))) rfl rfl (by kernel_rfl) (by kernel_rfl) (by kernel_rfl) (fun _ _ _ h => h) (Or.inl ⟨rfl, fun _ _ => by have hq := HKC.out; have hq2 := HKC2.out; go_simp; have := HKL.out; omega⟩) hS ?_
            simp only [Act.put, List.setIfInBounds_toArray, List.set_cons_succ, List.set_cons_zero]
            refine wpAnyH_takeD (some 69) (i := 6) (v := (.slice ap kc cp)) rfl rfl (by kernel_rfl) (by kernel_rfl) (by kernel_rfl) (fun _ _ _ h => h) (Or.inl ⟨rfl, fun W _ => by have z := HZ8.out W; go_simp⟩) hS ?_
            simp only [Act.put, List.setIfInBounds_toArray, List.set_cons_succ, List.set_cons_zero]
            refine wpAnyH_both (i := 7) (j := 11) (by kernel_rfl) ?_ ?_
            · have hA0 := hS
              refine op_callR (R := fun v W => ∃ vv : Nat → Value, v = .tuple #[.agg (rowOf 106 vv), .int .i64 9] ∧ (∀ j, (vv j).oneCell' = true) ∧ V1.grownBy W none) (some 70) 32 #[.agg (rowOf 3 codEnv), .slice ap kc cp] rfl rfl rfl (exec_fn2 _ _ _ _ _ rfl rfl rfl) bkEnvT_enters (((HK.out.take cp (HRk.out.grown hS (by simp)) HFp.out (by have := HN4.out; have := HKL.out; omega)).mono fun e W h => by
                obtain ⟨vv, rfl, h1, _, h3⟩ := h
                rw [HNO8.out]
                exact ⟨_, rfl, vv, rfl, h1, h3⟩)) ?_
              rintro v u1 ⟨vv, rfl, h1v, gn⟩
              replace hS := grown_trans hS gn
              clear gn hA0
              refine ⟨hS, ?_⟩
              simp only [Act.put, List.setIfInBounds_toArray, List.set_cons_succ, List.set_cons_zero]
              refine wpAnyH_takeD (some 62) (i := 8) (v := (.tuple #[.agg (rowOf 106 vv), .int .i64 9])) rfl rfl (by kernel_rfl) (by kernel_rfl) (by kernel_rfl) (fun _ _ _ h => h) (Or.inl ⟨rfl, fun _ _ => rfl⟩) hS ?_
              simp only [Act.put, List.setIfInBounds_toArray, List.set_cons_succ, List.set_cons_zero]
              refine wpAnyH_takeD (some 71) (i := 9) (v := (.agg (rowOf 106 vv))) rfl rfl (by kernel_rfl) (by kernel_rfl) (by kernel_rfl) (fun _ _ _ h => h) (Or.inl ⟨rfl, fun _ _ => by go_simp⟩) hS ?_
              simp only [Act.put, List.setIfInBounds_toArray, List.set_cons_succ, List.set_cons_zero]
              refine wpAnyH_takeD (some 72) (i := 10) (v := (.int .i64 9)) rfl rfl (by kernel_rfl) (by kernel_rfl) (by kernel_rfl) (fun _ _ _ h => h) (Or.inl ⟨rfl, fun _ _ => by go_simp⟩) hS ?_
              simp only [Act.put, List.setIfInBounds_toArray, List.set_cons_succ, List.set_cons_zero]
              refine wpAnyH_one (i := 11) (by kernel_rfl) ?_
              have hYb : V1.heap.size ≤ u1.heap.size := hS.size
              have hY := RowAt.new u1 41 106 EV.zero.v Try.zeroCells41 (by kernel_rfl)
              refine op_yield (some 17) (v := .pointer (some ⟨u1.heap.size, 0, none⟩)) (w' := u1.alloc (.cells Try.zeroCells41 41)) rfl rfl rfl (by unfold execOp; go_simp) (grown_alloc hS _) ?_
              simp only [Act.put, List.setIfInBounds_toArray, List.set_cons_succ, List.set_cons_zero]
              replace hS := grown_alloc hS (.cells Try.zeroCells41 41)
              generalize u1.alloc (.cells Try.zeroCells41 41) = u2 at *
              obtain ⟨k1, k2⟩ := RowAt.store (P := Try.prog) hY 0 41 106 vv (by decide) (by kernel_rfl) (fun j _ => h1v j)
              have gX : V1.grownBy (u2.setCells u1.heap.size 0 (rowOf 106 vv).toList) none := grown_setCells u1.heap.size (Or.inl hYb) _ 0 _ hS
              refine wpAnyH_skipQ (i := 12) (by kernel_rfl) rfl rfl rfl (exec_storeQ (.tmp 17) (.tmp 71) _ _ rfl rfl rfl k1) gX ?_
              simp only [List.setIfInBounds_toArray, List.set_cons_succ, List.set_cons_zero]
              refine wpAnyH_yieldD (some 18) (i := 13) (v := .int .i64 9) (by kernel_rfl) rfl rfl rfl (by unfold execOp; go_simp) gX ?_
              simp only [Act.put, List.setIfInBounds_toArray, List.set_cons_succ, List.set_cons_zero]
              refine wpAnyH_done (by kernel_rfl) ?_ _
              clear k1 k2 hY h1v hS
              go_wp2_with fail
              go_meet
              case rel => exact ⟨rfl, gX⟩
            · have hA0 := hS
              have hYb : V1.heap.size ≤ V1.heap.size := hS.size
              have hY := RowAt.new V1 41 106 EV.zero.v Try.zeroCells41 (by kernel_rfl)
              refine op_yield (some 17) (v := .pointer (some ⟨V1.heap.size, 0, none⟩)) (w' := V1.alloc (.cells Try.zeroCells41 41)) rfl rfl rfl (by unfold execOp; go_simp) (grown_alloc hS _) ?_
              simp only [Act.put, List.setIfInBounds_toArray, List.set_cons_succ, List.set_cons_zero]
              replace hS := grown_alloc hS (.cells Try.zeroCells41 41)
              generalize V1.alloc (.cells Try.zeroCells41 41) = u1 at *
              refine wpAnyH_one (i := 7) (by kernel_rfl) ?_
              refine op_callR (R := fun v W => ∃ vv : Nat → Value, v = .tuple #[.agg (rowOf 106 vv), .int .i64 9] ∧ (∀ j, (vv j).oneCell' = true) ∧ u1.grownBy W none) (some 70) 32 #[.agg (rowOf 3 codEnv), .slice ap kc cp] rfl rfl rfl (exec_fn2 _ _ _ _ _ rfl rfl rfl) bkEnvT_enters (((HK.out.take cp (HRk.out.grown hS (by simp)) HFp.out (by have := HN4.out; have := HKL.out; omega)).mono fun e W h => by
                obtain ⟨vv, rfl, h1, _, h3⟩ := h
                rw [HNO8.out]
                exact ⟨_, rfl, vv, rfl, h1, h3⟩)) ?_
              rintro v u2 ⟨vv, rfl, h1v, gn⟩
              replace hY := hY.grown gn (by simp)
              replace hS := grown_trans hS gn
              clear gn hA0
              refine ⟨hS, ?_⟩
              simp only [Act.put, List.setIfInBounds_toArray, List.set_cons_succ, List.set_cons_zero]
              refine wpAnyH_takeD (some 62) (i := 8) (v := (.tuple #[.agg (rowOf 106 vv), .int .i64 9])) rfl rfl (by kernel_rfl) (by kernel_rfl) (by kernel_rfl) (fun _ _ _ h => h) (Or.inl ⟨rfl, fun _ _ => rfl⟩) hS ?_
              simp only [Act.put, List.setIfInBounds_toArray, List.set_cons_succ, List.set_cons_zero]
              refine wpAnyH_takeD (some 71) (i := 9) (v := (.agg (rowOf 106 vv))) rfl rfl (by kernel_rfl) (by kernel_rfl) (by kernel_rfl) (fun _ _ _ h => h) (Or.inl ⟨rfl, fun _ _ => by go_simp⟩) hS ?_
              simp only [Act.put, List.setIfInBounds_toArray, List.set_cons_succ, List.set_cons_zero]
              refine wpAnyH_takeD (some 72) (i := 10) (v := (.int .i64 9)) rfl rfl (by kernel_rfl) (by kernel_rfl) (by kernel_rfl) (fun _ _ _ h => h) (Or.inl ⟨rfl, fun _ _ => by go_simp⟩) hS ?_
              simp only [Act.put, List.setIfInBounds_toArray, List.set_cons_succ, List.set_cons_zero]
              obtain ⟨k1, k2⟩ := RowAt.store (P := Try.prog) hY 0 41 106 vv (by decide) (by kernel_rfl) (fun j _ => h1v j)
              have gX : V1.grownBy (u2.setCells V1.heap.size 0 (rowOf 106 vv).toList) none := grown_setCells V1.heap.size (Or.inl hYb) _ 0 _ hS
              refine wpAnyH_skipQ (i := 12) (by kernel_rfl) rfl rfl rfl (exec_storeQ (.tmp 17) (.tmp 71) _ _ rfl rfl rfl k1) gX ?_
              simp only [List.setIfInBounds_toArray, List.set_cons_succ, List.set_cons_zero]
              refine wpAnyH_yieldD (some 18) (i := 13) (v := .int .i64 9) (by kernel_rfl) rfl rfl rfl (by unfold execOp; go_simp) gX ?_
              simp only [Act.put, List.setIfInBounds_toArray, List.set_cons_succ, List.set_cons_zero]
              refine wpAnyH_done (by kernel_rfl) ?_ _
              clear k1 k2 hY h1v hS
              go_wp2_with fail
              go_meet
              case rel => exact ⟨rfl, gX⟩
          case rest =>
            obtain ⟨rfl, g9⟩ := hcut
            have HGe := Lib.hid (grown_trans HGV1.out g9)
            clear g9
            go_wp2_with fail
            go_meet
            case rel => exact HGe.out
        · have i1 : ¬ (n : Int) > 0 := by omega
          go_wp2_with fail
          go_meet
          case rel => exact HGw6.out
  case rest =>
    generalize wc = w20 at *
    have HG20 := Lib.hid (grown_trans HGw2.out hcut)
    have HGA := Lib.hid (grown_trans HG1.out HG20.out)
    have HRb := Lib.hid (HR.out.grown HGA.out (fun k e => by cases e))
    have HLC20 := Lib.hid (((HC.out.grown HG20.out (by simp))).load (P := Try.prog) 0 78 3 codEnv (by decide) (fun j _ => by rw [Nat.zero_add]) (by kernel_rfl) (by kernel_rfl))
    clear hcut HO HE HNP HIs HGw2
    go_wp2_with (first | ((with_reducible refine wpList_here ?_); refine wpList_ld (p := .pointer (some ⟨CB, 0, none⟩)) 5 ?_ ?_ ?_ HLC20.out ?_; (· rfl); go_simp; (· kernel_rfl)))
    go_at_call 32
    refine (HK.out.take c HRb.out HF.out (by have := HL.out; omega)).mono ?_
    rintro e w21 ⟨v, rfl, h1, h2, g⟩
    have H1V := Lib.hid h1
    have H2V := Lib.hid h2
    have HGw21 := Lib.hid g
    clear h1 h2 g HLC20
    cases hok : eOk2 L F with
    | false =>
      rw [show errT false = 9 from rfl]
      clear hok H2V
      have hN := RowAt.new w21 41 106 EV.zero.v Try.zeroCells41 (by kernel_rfl)
      obtain ⟨k1, k2⟩ := RowAt.store (P := Try.prog) hN 0 41 106 v (by decide) (by kernel_rfl) (fun j _ => H1V.out j)
      obtain ⟨w22, hw⟩ : ∃ W, W = (w21.alloc (.cells Try.zeroCells41 41)).setCells w21.heap.size 0 (rowOf 106 v).toList := ⟨_, rfl⟩
      have g2 : w21.grownBy w22 none := by rw [hw]; exact grown_setCells w21.heap.size (Or.inl (Nat.le_refl _)) _ 0 _ (World.grownBy_alloc w21 _ none)
      rw [← hw] at k1 k2
      have HYyb := Lib.hid (k2.congr (v' := v) fun i hi => by rw [if_pos ⟨Nat.zero_le _, by omega⟩, Nat.sub_zero])
      obtain ⟨yb, hb⟩ : ∃ b, b = w21.heap.size := ⟨_, rfl⟩
      rw [← hb] at k1 HYyb
      have HXB := Lib.hid hb
      have HS := Lib.hid k1
      have HGw22 := Lib.hid (grown_trans HGw21.out g2)
      have HG34 := Lib.hid g2
      clear hN k1 k2 hw g2 hb HGw21
      go_upto_region 12 with (first | ((with_reducible refine wpList_here ?_); refine wpList_st (T := 41) (p := .pointer (some ⟨w21.heap.size, 0, none⟩)) (v := .agg (rowOf 106 v)) (.tmp 19) (.tmp 79) ?_ ?_ ?_ ?_ ?_ (by rw [← HXB.out]; exact HS.out) ?_; (· rfl); (· rfl); go_simp; (· kernel_rfl); (· kernel_rfl)))
      rw [← HXB.out]
      clear HS HXB
      go_wp2_with fail
      go_ret
      exact ⟨rfl, grown_trans HGA.out HGw22.out⟩
    | true =>
      rw [show errT true = 0 from rfl]
      have HIS21 := Lib.hid (H2V.out hok)
      clear hok H2V
      have hN := RowAt.new w21 41 106 EV.zero.v Try.zeroCells41 (by kernel_rfl)
      obtain ⟨k1, k2⟩ := RowAt.store (P := Try.prog) hN 0 41 106 v (by decide) (by kernel_rfl) (fun j _ => H1V.out j)
      obtain ⟨w22, hw⟩ : ∃ W, W = (w21.alloc (.cells Try.zeroCells41 41)).setCells w21.heap.size 0 (rowOf 106 v).toList := ⟨_, rfl⟩
      have g2 : w21.grownBy w22 none := by rw [hw]; exact grown_setCells w21.heap.size (Or.inl (Nat.le_refl _)) _ 0 _ (World.grownBy_alloc w21 _ none)
      rw [← hw] at k1 k2
      have HYyb := Lib.hid (k2.congr (v' := v) fun i hi => by rw [if_pos ⟨Nat.zero_le _, by omega⟩, Nat.sub_zero])
      obtain ⟨yb, hb⟩ : ∃ b, b = w21.heap.size := ⟨_, rfl⟩
      rw [← hb] at k1 HYyb
      have HXB := Lib.hid hb
      have HS := Lib.hid k1
      have HGw22 := Lib.hid (grown_trans HGw21.out g2)
      have HG34 := Lib.hid g2
      clear hN k1 k2 hw g2 hb HGw21
      go_upto_region 14 with (first | ((with_reducible refine wpList_here ?_); refine wpList_st (T := 41) (p := .pointer (some ⟨w21.heap.size, 0, none⟩)) (v := .agg (rowOf 106 v)) (.tmp 19) (.tmp 79) ?_ ?_ ?_ ?_ ?_ (by rw [← HXB.out]; exact HS.out) ?_; (· rfl); (· rfl); go_simp; (· kernel_rfl); (· kernel_rfl)))
      rw [← HXB.out]
      clear HS HXB
      have HIS22 := Lib.hid (HK.out.grown HIS21.out HG34.out)
      have HGC := Lib.hid (grown_trans HG20.out HGw22.out)
      have HLC22 := Lib.hid (((HC.out.grown HGC.out (by simp))).load (P := Try.prog) 0 78 3 codEnv (by decide) (fun j _ => by rw [Nat.zero_add]) (by kernel_rfl) (by kernel_rfl))
      have HLY22 := Lib.hid ((HYyb.out).load (P := Try.prog) 0 41 106 v (by decide) (fun j _ => by rw [Nat.zero_add]) (by kernel_rfl) (by kernel_rfl))
      have HP22 := Lib.hid (HK.out.put HIS22.out)
      clear HIS21 HG34
      go_wp2_with (first | ((with_reducible refine wpList_here ?_); refine wpList_ld (p := .pointer (some ⟨CB, 0, none⟩)) 5 ?_ ?_ ?_ HLC22.out ?_; (· rfl); go_simp; (· kernel_rfl)) | ((with_reducible refine wpList_here ?_); refine wpList_ld (p := .pointer (some ⟨yb, 0, none⟩)) 19 ?_ ?_ ?_ HLY22.out ?_; (· rfl); go_simp; (· kernel_rfl)))
      go_at_call 86
      refine HP22.out.mono ?_
      rintro e w23 ⟨⟨ap, cp, rfl, hO⟩, g⟩
      rw [show (.slice ap (if true = true then L else 0) cp : Value) = .slice ap L cp from rfl, show (.int .i64 (if true = true then 0 else 2) : Value) = .int .i64 0 from rfl]
      have hO : OwnN w23 w22.heap.size (.slice ap L cp) L F := hO
      obtain ⟨_, hRp⟩ := own_rd hO
      have HGw23 := Lib.hid (grown_trans HGw22.out g)
      have hsp := run_string cp hRp HF.out
      have hsb := run_string c (HRb.out.grown HGw23.out (fun k e => by cases e)) HF.out
      obtain ⟨sx, hsx⟩ : ∃ s, s = strOf L F := ⟨_, rfl⟩
      rw [← hsx] at hsp hsb
      clear g hO hRp HP22 HLC22 HLY22 HGw22 hsx HYyb HIS22 HGC
      go_wp2_with fail
      go_ret
      exact ⟨rfl, grown_trans HGA.out HGw23.out⟩
end Go.Proofs.Ytmbefbmpjkbnmaa
namespace Go.Proofs.Ytmbefbmpjkbnmaa
open Go.RowKit Go.Shelf

set_option maxRecDepth 100000
set_option maxHeartbeats 4000000

theorem bkPktT_enters (args : Array Value) (w : World) : (callFunc 35 args).run Try.prog w = .ok (.enter 35 args) w := enters_of Try.func35 (by kernel_rfl) rfl args w
theorem backPkt_any (xv : Nat → Value) (L c D cut : Nat) (a : Option Addr) (F : Nat → Nat) (w : World) (hx : (∃ n f, IsP w xv n f) ∨ ∀ W, w.grownBy W none → Calls Try.prog 98 #[.agg (rowOf 3 codPkt), .agg (rowOf 21 xv)] W (PutSays W false 0 (fun _ => 0))) (hR : Rd w D a L F) (hF : ∀ i, F i < 256) (hc : L ≤ c) (hL : L ≤ 9000) :
    Calls Try.prog 44 #[.agg (rowOf 3 codPkt), .agg (rowOf 21 xv), .slice a L c, .int .i64 (cut : Nat), .func (.func 37) #[] #[]] w fun e w' => e = .returned (.bool true) ∧ w.grownBy w' none := by
  have HK := Lib.hid kPkt
  have ga := World.grownBy_alloc w (.cells (rowOf 3 codPkt) 86) none
  have hz := World.size_alloc w (.cells (rowOf 3 codPkt) 86)
  have hC := RowAt.new w 86 3 codPkt _ rfl
  have gb := World.grownBy_alloc (w.alloc (.cells (rowOf 3 codPkt) 86)) (.cells (rowOf 21 xv) 43) none
  have hX := RowAt.new (w.alloc (.cells (rowOf 3 codPkt) 86)) 43 21 xv _ rfl
  rw [hz] at hX
  replace hC := hC.grown gb (by simp)
  have HG0 := Lib.hid (grown_trans ga gb)
  have HX0 := Lib.hid hx
  have HR := Lib.hid hR
  have HF := Lib.hid hF
  have HLC := Lib.hid hc
  have HL := Lib.hid hL
  clear ga gb hz hx hR hF hc hL
  go_enter Try.func44, Try.ntmps44
  go_upto_region 1 with fail
  obtain ⟨CB, hCB⟩ : ∃ B, B = w.heap.size := ⟨_, rfl⟩
  rw [← hCB] at hC hX ⊢
  generalize (w.alloc (.cells (rowOf 3 codPkt) 86)).alloc (.cells (rowOf 21 xv) 43) = w1 at *
  have HC := Lib.hid hC
  have HX := Lib.hid hX
  have HG1 := HG0
  clear hC hX hCB HG0
  have HLC1 := Lib.hid ((HC.out).load (P := Try.prog) 0 86 3 codPkt (by decide) (fun j _ => by rw [Nat.zero_add]) (by kernel_rfl) (by kernel_rfl))
  have HLX1 := Lib.hid ((HX.out).load (P := Try.prog) 0 43 21 xv (by decide) (fun j _ => by rw [Nat.zero_add]) (by kernel_rfl) (by kernel_rfl))
  obtain ⟨m, n, f, hIs, hP⟩ : ∃ (m : Bool) (n : Nat) (f : Nat → Nat), (m = true → IsP w1 xv n f) ∧ Calls Try.prog 98 #[.agg (rowOf 3 codPkt), .agg (rowOf 21 xv)] w1 (PutSays w1 m n f) := by
    rcases HX0.out with ⟨n, f, hIs⟩ | hno
    · have h := HK.out.grown hIs HG1.out
      exact ⟨true, n, f, fun _ => h, HK.out.put h⟩
    · exact ⟨false, 0, fun _ => 0, fun e => absurd e (by decide), hno w1 HG1.out⟩
  have HP := Lib.hid hP
  have HIs := Lib.hid hIs
  clear hP hIs HX0
  go_wp2_with (first | ((with_reducible refine wpList_here ?_); refine wpList_ld (p := .pointer (some ⟨CB, 0, none⟩)) 5 ?_ ?_ ?_ HLC1.out ?_; (· rfl); go_simp; (· kernel_rfl)) | ((with_reducible refine wpList_here ?_); refine wpList_ld (p := .pointer (some ⟨(CB + 1), 0, none⟩)) 6 ?_ ?_ ?_ HLX1.out ?_; (· rfl); go_simp; (· kernel_rfl)))
  go_at_call 98
  refine HP.out.mono ?_
  rintro e w2 ⟨⟨ap, cp, rfl, hO⟩, g⟩
  have HGw2 := Lib.hid g
  have HO := Lib.hid hO
  clear g hO HP HLC1 HLX1
  obtain ⟨E, hE⟩ : ∃ E : Int, E = if m = true then 0 else 2 := ⟨_, rfl⟩
  obtain ⟨np, hnp⟩ : ∃ q, q = if m = true then n else 0 := ⟨_, rfl⟩
  rw [← hE, ← hnp]
  rw [← hnp] at HO
  have HE := Lib.hid hE
  have HNP := Lib.hid hnp
  clear hE hnp
  go_upto_if 29 with fail
  go_cut [13] (fun _ wx => w2.grownBy wx none)
  case first =>
    cases m with
    | false =>
      obtain rfl : E = 2 := HE.out
      clear HE HNP HO
      go_wp2_with fail
      go_meet
      case rel => exact grown_refl w2 none
    | true =>
      obtain rfl : E = 0 := HE.out
      obtain rfl : n = np := HNP.out.symm
      have hO := HO.out
      have HIS1 := Lib.hid (HIs.out rfl)
      have hln := HK.out.len HIS1.out
      have HN4 := Lib.hid hln
      have HFp := Lib.hid (HK.out.byt HIS1.out)
      clear HE HNP HO HIs hln
      obtain ⟨hcp, hRp⟩ := own_rd hO
      have HCP := Lib.hid hcp
      have HRw2 := Lib.hid hRp
      clear hO hcp hRp
      have HLC2 := Lib.hid (((HC.out.grown HGw2.out (by simp))).load (P := Try.prog) 0 86 3 codPkt (by decide) (fun j _ => by rw [Nat.zero_add]) (by kernel_rfl) (by kernel_rfl))
      go_wp2_with (first | ((with_reducible refine wpList_here ?_); refine wpList_ld (p := .pointer (some ⟨CB, 0, none⟩)) 5 ?_ ?_ ?_ HLC2.out ?_; (· rfl); go_simp; (· kernel_rfl)))
      go_at_call 35
      refine (HK.out.take cp HRw2.out HFp.out (by have := HN4.out; omega)).mono ?_
      rintro e w3 ⟨v3, rfl, h1, h2, g⟩
      have hok : pOk2 n f = true := HK.out.isok HIS1.out f (fun _ _ => rfl)
      rw [show errT (pOk2 n f) = 0 by rw [hok]; rfl]
      have HIS3 := Lib.hid (h2 hok)
      have H13 := Lib.hid h1
      have HGw3 := Lib.hid g
      clear h1 h2 g hok HLC2
      have hN := RowAt.new w3 43 21 PV.zero.v #[.int .u8 0, .int .u8 0, .int .u8 0, .int .u8 0, .int .u8 0, .int .u8 0, .int .u8 0, .int .u8 0, .int .u8 0, .int .u8 0, .int .u8 0, .int .u8 0, .int .u8 0, .int .u8 0, .int .u8 0, .int .u8 0, .int .u8 0, .int .u8 0, .int .u8 0, .int .u8 0, .slice none 0 0] (by kernel_rfl)
      obtain ⟨k1, k2⟩ := RowAt.store (P := Try.prog) hN 0 43 21 v3 (by decide) (by kernel_rfl) (fun j _ => H13.out j)
      obtain ⟨w4, hw⟩ : ∃ W, W = (w3.alloc (.cells #[.int .u8 0, .int .u8 0, .int .u8 0, .int .u8 0, .int .u8 0, .int .u8 0, .int .u8 0, .int .u8 0, .int .u8 0, .int .u8 0, .int .u8 0, .int .u8 0, .int .u8 0, .int .u8 0, .int .u8 0, .int .u8 0, .int .u8 0, .int .u8 0, .int .u8 0, .int .u8 0, .slice none 0 0] 43)).setCells w3.heap.size 0 (rowOf 21 v3).toList := ⟨_, rfl⟩
      have g2 : w3.grownBy w4 none := by rw [hw]; exact grown_setCells w3.heap.size (Or.inl (Nat.le_refl _)) _ 0 _ (World.grownBy_alloc w3 _ none)
      rw [← hw] at k1 k2
      have HYyb := Lib.hid (k2.congr (v' := v3) fun i hi => by rw [if_pos ⟨Nat.zero_le _, by omega⟩, Nat.sub_zero])
      obtain ⟨yb, hb⟩ : ∃ b, b = w3.heap.size := ⟨_, rfl⟩
      rw [← hb] at k1 HYyb
      have HXB := Lib.hid hb
      have HS := Lib.hid k1
      have HGw4 := Lib.hid (grown_trans HGw3.out g2)
      have HG34 := Lib.hid g2
      clear hN k1 k2 hw g2 hb HGw3
      go_upto_region 4 with (first | ((with_reducible refine wpList_here ?_); refine wpList_st (T := 43) (p := .pointer (some ⟨w3.heap.size, 0, none⟩)) (v := .agg (rowOf 21 v3)) (.tmp 13) (.tmp 34) ?_ ?_ ?_ ?_ ?_ (by rw [← HXB.out]; exact HS.out) ?_; (· rfl); (· rfl); go_simp; (· kernel_rfl); (· kernel_rfl)))
      rw [← HXB.out]
      clear HS HXB
      obtain ⟨V0, hV0⟩ : ∃ V0, V0 = w4.drew := ⟨_, rfl⟩
      have hv0 : w4.grownBy V0 none := by rw [hV0]; exact grown_drew (grown_refl w4 none)
      have HV0 := Lib.hid hV0.symm
      have HGw34 := Lib.hid (grown_trans HG34.out hv0)
      have HGV0 := Lib.hid (grown_trans HGw4.out hv0)
      have HG1V := Lib.hid (grown_trans HGw2.out HGV0.out)
      have HC4 := Lib.hid (HC.out.grown HG1V.out (by simp))
      have HY4 := Lib.hid (HYyb.out.grown hv0 (by simp))
      have HRp := Lib.hid (rd_up (HRw2.out) HGw2.out HGV0.out)
      have HFB := Lib.hid (cat_uB (n := n) (cat_uB (n := 0) (fun _ => (by decide : (0 : Nat) < 256)) HFp.out) (fun _ => (by decide : (0 : Nat) < 256)))
      have HNO4 : Hid (pOk2 (n + 1) (cat n (cat 0 (fun _ => 0) f) (fun _ => 0)) = false) := Lib.hid (HK.out.only HIS1.out (n + 1) (cat n (cat 0 (fun _ => 0) f) (fun _ => 0)) (fun i _ h2 => by
        unfold cat
        rw [if_pos h2, if_neg (by omega), Nat.sub_zero]) (by omega))
      clear hV0 hv0 HYyb HGw4
      go_cut [15, 16] (fun _ s16 wx => s16 = .int .i64 9 ∧ V0.grownBy wx none)
      case first =>
        refine r4_any 86 43 _ 35 21 PV.zero.v #[.int .u8 0, .int .u8 0, .int .u8 0, .int .u8 0, .int .u8 0, .int .u8 0, .int .u8 0, .int .u8 0, .int .u8 0, .int .u8 0, .int .u8 0, .int .u8 0, .int .u8 0, .int .u8 0, .int .u8 0, .int .u8 0, .int .u8 0, .int .u8 0, .int .u8 0, .int .u8 0, .slice none 0 0] (rowOf 3 codPkt) HV0.out (by kernel_rfl) (by kernel_rfl) (fun W hW => ((HC4.out.grown hW (by simp)).load (P := Try.prog) 0 86 3 codPkt (by decide) (fun j _ => by rw [Nat.zero_add]) (by kernel_rfl) (by kernel_rfl))) (fun W ev => by unfold execOp; go_simp) HRp.out HN4.out (fun W gB cB hW hB => (HK.out.take cB hB.rd HFB.out (by have := HN4.out; omega)).mono fun e W h => by
          obtain ⟨vv, rfl, h1, _, h3⟩ := h
          rw [HNO4.out]
          exact ⟨vv, rfl, h1, h3⟩) bkPktT_enters (fun _ _ _ _ _ h => h) ?_
        intro x36 x38 x40 x41 x42 x43 x44 x45 x15 W gX
        go_wp2_with fail
        go_meet
        case rel => exact ⟨rfl, gX⟩
      case rest =>
        obtain ⟨rfl, g5⟩ := hcut
        generalize wc = w5 at *
        have HGw5 := Lib.hid (grown_trans HGV0.out g5)
        have HG15 := Lib.hid (grown_trans HG1V.out g5)
        have HY5 := Lib.hid (HY4.out.grown g5 (by simp))
        have HX5 := Lib.hid (HX.out.grown HG15.out (by simp))
        have HSAME := Lib.hid (HK.out.same (HK.out.grown HIS1.out HG15.out) (HK.out.grown HIS3.out (grown_trans HGw34.out g5)))
        have HLX5 := Lib.hid ((HX5.out).load (P := Try.prog) 0 43 21 xv (by decide) (fun j _ => by rw [Nat.zero_add]) (by kernel_rfl) (by kernel_rfl))
        have HLY5 := Lib.hid ((HY5.out).load (P := Try.prog) 0 43 21 v3 (by decide) (fun j _ => by rw [Nat.zero_add]) (by kernel_rfl) (by kernel_rfl))
        clear g5 HY4 HGV0 HG1V HC4 HV0
        go_wp2_with (first | ((with_reducible refine wpList_here ?_); refine wpList_ld (p := .pointer (some ⟨(CB + 1), 0, none⟩)) 6 ?_ ?_ ?_ HLX5.out ?_; (· rfl); go_simp; (· kernel_rfl)) | ((with_reducible refine wpList_here ?_); refine wpList_ld (p := .pointer (some ⟨yb, 0, none⟩)) 13 ?_ ?_ ?_ HLY5.out ?_; (· rfl); go_simp; (· kernel_rfl)))
        go_at_call 37
        refine HSAME.out.mono ?_
        rintro e w6 ⟨rfl, g⟩
        have HGw6 := Lib.hid (grown_trans HGw5.out g)
        clear g HSAME HLX5 HLY5 HY5 HX5 HG15 HGw5
        by_cases h0 : 0 < n
        · have i1 : (n : Int) > 0 := by omega
          obtain ⟨kc, hkc⟩ : ∃ q, q = cut % n := ⟨_, rfl⟩
          have hkl : kc < n := by rw [hkc]; exact Nat.mod_lt _ h0
          have HKC := Lib.hid (show (cut : Int) % (n : Int) = (kc : Int) by rw [hkc]; omega)
          have HKC2 := Lib.hid (show (cut : Int).tmod (n : Int) = (kc : Int) by rw [hkc]; rfl)
          have HKL := Lib.hid hkl
          have HZ8 := Lib.hid (fun W => run_aheadQ ap n cp kc HCP.out (Nat.le_of_lt hkl) W)
          have HNO8 : Hid (pOk2 kc f = false) := Lib.hid (HK.out.only HIS1.out kc f (fun _ _ _ => rfl) (by omega))
          clear hkc hkl
          go_upto_region 8 with fail
          obtain ⟨V1, hV1⟩ : ∃ V1, V1 = w6.drew := ⟨_, rfl⟩
          have hv1 : w6.grownBy V1 none := by rw [hV1]; exact grown_drew (grown_refl w6 none)
          have HV1 := Lib.hid hV1.symm
          have HGV1 := Lib.hid (grown_trans HGw6.out hv1)
          have HC8 := Lib.hid (HC.out.grown (grown_trans HGw2.out HGV1.out) (by simp))
          have HRk : Hid (Rd V1 V1.heap.size ap kc f) := Lib.hid ⟨fun hk0 => by
            have hr := (rd_up (HRw2.out) HGw2.out HGV1.out).ex (by have := HKL.out; omega)
            obtain ⟨tb, o, q1, q2, q3⟩ := hr
            exact ⟨tb, o, q1, q2, fun i hi => q3 i (by have := HKL.out; omega)⟩⟩
          clear hV1 hv1 HGw6
          go_cut [17, 18] (fun _ s18 wx => s18 = .int .i64 9 ∧ V1.grownBy wx none)
          case first =>
            refine wp_region_held (S := fun W => V1.grownBy W none) (by kernel_rfl) ?_
            change wpAnyH _ _ _ _ _ 14 #[false, false, false, false, false, false, false, false, false, false, false, false, false, false] _ (World.drew _)
            rw [HV1.out]
            have hS : V1.grownBy V1 none := grown_refl V1 _
            refine wpAnyH_takeD (some 63) (i := 0) (v := (.agg (rowOf 3 codPkt))) rfl rfl (by kernel_rfl) (by kernel_rfl) (by kernel_rfl) (fun _ _ _ h => h) (Or.inl ⟨rfl, fun W hW => exec_loadQ (.tmp 5) _ _ rfl rfl ((HC8.out.grown hW (by simp)).load (P := Try.prog) 0 86 3 codPkt (by decide) (fun j _ => by rw [Nat.zero_add]) (by kernel_rfl) (by kernel_rfl))⟩) hS ?_
            simp only [Act.put, List.setIfInBounds_toArray, List.set_cons_succ, List.set_cons_zero]
            refine wpAnyH_takeD (some 64) (i := 1) (v := (.slice ap n cp)) rfl rfl (by kernel_rfl) (by kernel_rfl) (by kernel_rfl) (fun _ _ _ h => h) (Or.inl ⟨rfl, fun _ _ => rfl⟩) hS ?_
            simp only [Act.put, List.setIfInBounds_toArray, List.set_cons_succ, List.set_cons_zero]
            refine wpAnyH_takeD (some 65) (i := 2) (v := (.int .i64 (cut : Nat))) rfl rfl (by kernel_rfl) (by kernel_rfl) (by kernel_rfl) (fun _ _ _ h => h) (Or.inl ⟨rfl, fun _ _ => rfl⟩) hS ?_
            simp only [Act.put, List.setIfInBounds_toArray, List.set_cons_succ, List.set_cons_zero]
            refine wpAnyH_takeD (some 66) (i := 3) (v := (.slice ap n cp)) rfl rfl (by kernel_rfl) (by kernel_rfl) (by kernel_rfl) (fun _ _ _ h => h) (Or.inl ⟨rfl, fun _ _ => rfl⟩) hS ?_
            simp only [Act.put, List.setIfInBounds_toArray, List.set_cons_succ, List.set_cons_zero]
            refine wpAnyH_takeD (some 67) (i := 4) (v := (.int .i64 (n : Nat))) rfl rfl (by kernel_rfl) (by kernel_rfl) (by kernel_rfl) (fun _ _ _ h => h) (Or.inl ⟨rfl, fun _ _ => by go_simp⟩) hS ?_
            simp only [Act.put, List.setIfInBounds_toArray, List.set_cons_succ, List.set_cons_zero]
            refine wpAnyH_takeD (some 68) (i := 5) (v := (.int .i64 (kc : Nat))) rfl rfl (by kernel_rfl) (by kernel_rfl) (by kernel_rfl) (fun _ _ _ h => h) (Or.inl ⟨rfl, fun _ _ => by have hq := HKC.out; have hq2 := HKC2.out; go_simp; have := HKL.out; omega⟩) hS ?_
            simp only [Act.put, List.setIfInBounds_toArray, List.set_cons_succ, List.set_cons_zero]
            refine wpAnyH_takeD (some 69) (i := 6) (v := (.slice ap kc cp)) rfl rfl (by kernel_rfl) (by kernel_rfl) (by kernel_rfl) (fun _ _ _ h => h) (Or.inl ⟨rfl, fun W _ => by have z := HZ8.out W; go_simp⟩) hS ?_
            simp only [Act.put, List.setIfInBounds_toArray, List.set_cons_succ, List.set_cons_zero]
            refine wpAnyH_both (i := 7) (j := 11) (by kernel_rfl) ?_ ?_
            · have hA0 := hS
              refine op_callR (R := fun v W => ∃ vv : Nat → Value, v = .tuple #[.agg (rowOf 21 vv), .int .i64 9] ∧ (∀ j, (vv j).oneCell' = true) ∧ V1.grownBy W none) (some 70) 35 #[.agg (rowOf 3 codPkt), .slice ap kc cp] rfl rfl rfl (exec_fn2 _ _ _ _ _ rfl rfl rfl) bkPktT_enters (((HK.out.take cp (HRk.out.grown hS (by simp)) HFp.out (by have := HN4.out; have := HKL.out; omega)).mono fun e W h => by
                obtain ⟨vv, rfl, h1, _, h3⟩ := h
                rw [HNO8.out]
                exact ⟨_, rfl, vv, rfl, h1, h3⟩)) ?_
              rintro v u1 ⟨vv, rfl, h1v, gn⟩
              replace hS := grown_trans hS gn
              clear gn hA0
              refine ⟨hS, ?_⟩
              simp only [Act.put, List.setIfInBounds_toArray, List.set_cons_succ, List.set_cons_zero]
              refine wpAnyH_takeD (some 62) (i := 8) (v := (.tuple #[.agg (rowOf 21 vv), .int .i64 9])) rfl rfl (by kernel_rfl) (by kernel_rfl) (by kernel_rfl) (fun _ _ _ h => h) (Or.inl ⟨rfl, fun _ _ => rfl⟩) hS ?_
              simp only [Act.put, List.setIfInBounds_toArray, List.set_cons_succ, List.set_cons_zero]
              refine wpAnyH_takeD (some 71) (i := 9) (v := (.agg (rowOf 21 vv))) rfl rfl (by kernel_rfl) (by kernel_rfl) (by kernel_rfl) (fun _ _ _ h => h) (Or.inl ⟨rfl, fun _ _ => by go_simp⟩) hS ?_
              simp only [Act.put, List.setIfInBounds_toArray, List.set_cons_succ, List.set_cons_zero]
              refine wpAnyH_takeD (some 72) (i := 10) (v := (.int .i64 9)) rfl rfl (by kernel_rfl) (by kernel_rfl) (by kernel_rfl) (fun _ _ _ h => h) (Or.inl ⟨rfl, fun _ _ => by go_simp⟩) hS ?_
              simp only [Act.put, List.setIfInBounds_toArray, List.set_cons_succ, List.set_cons_zero]
              refine wpAnyH_one (i := 11) (by kernel_rfl) ?_
              have hYb : V1.heap.size ≤ u1.heap.size := hS.size
              have hY := RowAt.new u1 43 21 PV.zero.v #[.int .u8 0, .int .u8 0, .int .u8 0, .int .u8 0, .int .u8 0, .int .u8 0, .int .u8 0, .int .u8 0, .int .u8 0, .int .u8 0, .int .u8 0, .int .u8 0, .int .u8 0, .int .u8 0, .int .u8 0, .int .u8 0, .int .u8 0, .int .u8 0, .int .u8 0, .int .u8 0, .slice none 0 0] (by kernel_rfl)
              refine op_yield (some 17) (v := .pointer (some ⟨u1.heap.size, 0, none⟩)) (w' := u1.alloc (.cells #[.int .u8 0, .int .u8 0, .int .u8 0, .int .u8 0, .int .u8 0, .int .u8 0, .int .u8 0, .int .u8 0, .int .u8 0, .int .u8 0, .int .u8 0, .int .u8 0, .int .u8 0, .int .u8 0, .int .u8 0, .int .u8 0, .int .u8 0, .int .u8 0, .int .u8 0, .int .u8 0, .slice none 0 0] 43)) rfl rfl rfl (by unfold execOp; go_simp) (grown_alloc hS _) ?_
              simp only [Act.put, List.setIfInBounds_toArray, List.set_cons_succ, List.set_cons_zero]
              replace hS := grown_alloc hS (.cells #[.int .u8 0, .int .u8 0, .int .u8 0, .int .u8 0, .int .u8 0, .int .u8 0, .int .u8 0, .int .u8 0, .int .u8 0, .int .u8 0, .int .u8 0, .int .u8 0, .int .u8 0, .int .u8 0, .int .u8 0, .int .u8 0, .int .u8 0, .int .u8 0, .int .u8 0, .int .u8 0, .slice none 0 0] 43)
              generalize u1.alloc (.cells #[.int .u8 0, .int .u8 0, .int .u8 0, .int .u8 0, .int .u8 0, .int .u8 0, .int .u8 0, .int .u8 0, .int .u8 0, .int .u8 0, .int .u8 0, .int .u8 0, .int .u8 0, .int .u8 0, .int .u8 0, .int .u8 0, .int .u8 0, .int .u8 0, .int .u8 0, .int .u8 0, .slice none 0 0] 43) = u2 at *
              obtain ⟨k1, k2⟩ := RowAt.store (P := Try.prog) hY 0 43 21 vv (by decide) (by kernel_rfl) (fun j _ => h1v j)
              have gX : V1.grownBy (u2.setCells u1.heap.size 0 (rowOf 21 vv).toList) none := grown_setCells u1.heap.size (Or.inl hYb) _ 0 _ hS
              refine wpAnyH_skipQ (i := 12) (by kernel_rfl) rfl rfl rfl (exec_storeQ (.tmp 17) (.tmp 71) _ _ rfl rfl rfl k1) gX ?_
              simp only [List.setIfInBounds_toArray, List.set_cons_succ, List.set_cons_zero]
              refine wpAnyH_yieldD (some 18) (i := 13) (v := .int .i64 9) (by kernel_rfl) rfl rfl rfl (by unfold execOp; go_simp) gX ?_
              simp only [Act.put, List.setIfInBounds_toArray, List.set_cons_succ, List.set_cons_zero]
              refine wpAnyH_done (by kernel_rfl) ?_ _
              clear k1 k2 hY h1v hS
              go_wp2_with fail
              go_meet
              case rel => exact ⟨rfl, gX⟩
            · have hA0 := hS
              have hYb : V1.heap.size ≤ V1.heap.size := hS.size
              have hY := RowAt.new V1 43 21 PV.zero.v #[.int .u8 0, .int .u8 0, .int .u8 0, .int .u8 0, .int .u8 0, .int .u8 0, .int .u8 0, .int .u8 0, .int .u8 0, .int .u8 0, .int .u8 0, .int .u8 0, .int .u8 0, .int .u8 0, .int .u8 0, .int .u8 0, .int .u8 0, .int .u8 0, .int .u8 0, .int .u8 0, .slice none 0 0] (by kernel_rfl)
              refine op_yield (some 17) (v := .pointer (some ⟨V1.heap.size, 0, none⟩)) (w' := V1.alloc (.cells #[.int .u8 0, .int .u8 0, .int .u8 0, .int .u8 0, .int .u8 0, .int .u8 0, .int .u8 0, .int .u8 0, .int .u8 0, .int .u8 0, .int .u8 0, .int .u8 0, .int .u8 0, .int .u8 0, .int .u8 0, .int .u8 0, .int .u8 0, .int .u8 0, .int .u8 0, .int .u8 0, .slice none 0 0] 43)) rfl rfl rfl (by unfold execOp; go_simp) (grown_alloc hS _) ?_
              simp only [Act.put, List.setIfInBounds_toArray, List.set_cons_succ, List.set_cons_zero]
              replace hS := grown_alloc hS (.cells #[.int .u8 0, .int .u8 0, .int .u8 0, .int .u8 0, .int .u8 0, .int .u8 0, .int .u8 0, .int .u8 0, .int .u8 0, .int .u8 0, .int .u8 0, .int .u8 0, .int .u8 0, .int .u8 0, .int .u8 0, .int .u8 0, .int .u8 0, .int .u8 0, .int .u8 0, .int .u8 0, .slice none 0 0] 43)
              generalize V1.alloc (.cells #[.int .u8 0, .int .u8 0, .int .u8 0, .int .u8 0, .int .u8 0, .int .u8 0, .int .u8 0, .int .u8 0, .int .u8 0, .int .u8 0, .int .u8 0, .int .u8 0, .int .u8 0, .int .u8 0, .int .u8 0, .int .u8 0, .int .u8 0, .int .u8 0, .int .u8 0, .int .u8 0, .slice none 0 0] 43) = u1 at *
              refine wpAnyH_one (i := 7) (by kernel_rfl) ?_
              refine op_callR (R := fun v W => ∃ vv : Nat → Value, v = .tuple #[.agg (rowOf 21 vv), .int .i64 9] ∧ (∀ j, (vv j).oneCell' = true) ∧ u1.grownBy W none) (some 70) 35 #[.agg (rowOf 3 codPkt), .slice ap kc cp] rfl rfl rfl (exec_fn2 _ _ _ _ _ rfl rfl rfl) bkPktT_enters (((HK.out.take cp (HRk.out.grown hS (by simp)) HFp.out (by have := HN4.out; have := HKL.out; omega)).mono fun e W h => by
                obtain ⟨vv, rfl, h1, _, h3⟩ := h
                rw [HNO8.out]
                exact ⟨_, rfl, vv, rfl, h1, h3⟩)) ?_
              rintro v u2 ⟨vv, rfl, h1v, gn⟩
              replace hY := hY.grown gn (by simp)
              replace hS := grown_trans hS gn
              clear gn hA0
              refine ⟨hS, ?_⟩
              simp only [Act.put, List.setIfInBounds_toArray, List.set_cons_succ, List.set_cons_zero]
              refine wpAnyH_takeD (some 62) (i := 8) (v := (.tuple #[.agg (rowOf 21 vv), .int .i64 9])) rfl rfl (by kernel_rfl) (by kernel_rfl) (by kernel_rfl) (fun _ _ _ h => h) (Or.inl ⟨rfl, fun _ _ => rfl⟩) hS ?_
              simp only [Act.put, List.setIfInBounds_toArray, List.set_cons_succ, List.set_cons_zero]
              refine wpAnyH_takeD (some 71) (i := 9) (v := (.agg (rowOf 21 vv))) rfl rfl (by kernel_rfl) (by kernel_rfl) (by kernel_rfl) (fun _ _ _ h => h) (Or.inl ⟨rfl, fun _ _ => by go_simp⟩) hS ?_
              simp only [Act.put, List.setIfInBounds_toArray, List.set_cons_succ, List.set_cons_zero]
              refine wpAnyH_takeD (some 72) (i := 10) (v := (.int .i64 9)) rfl rfl (by kernel_rfl) (by kernel_rfl) (by kernel_rfl) (fun _ _ _ h => h) (Or.inl ⟨rfl, fun _ _ => by go_simp⟩) hS ?_
              simp only [Act.put, List.setIfInBounds_toArray, List.set_cons_succ, List.set_cons_zero]
              obtain ⟨k1, k2⟩ := RowAt.store (P := Try.prog) hY 0 43 21 vv (by decide) (by kernel_rfl) (fun j _ => h1v j)
              have gX : V1.grownBy (u2.setCells V1.heap.size 0 (rowOf 21 vv).toList) none := grown_setCells V1.heap.size (Or.inl hYb) _ 0 _ hS
              refine wpAnyH_skipQ (i := 12) (by kernel_rfl) rfl rfl rfl (exec_storeQ (.tmp 17) (.tmp 71) _ _ rfl rfl rfl k1) gX ?_
              simp only [List.setIfInBounds_toArray, List.set_cons_succ, List.set_cons_zero]
              refine wpAnyH_yieldD (some 18) (i := 13) (v := .int .i64 9) (by kernel_rfl) rfl rfl rfl (by unfold execOp; go_simp) gX ?_
              simp only [Act.put, List.setIfInBounds_toArray, List.set_cons_succ, List.set_cons_zero]
              refine wpAnyH_done (by kernel_rfl) ?_ _
              clear k1 k2 hY h1v hS
              go_wp2_with fail
              go_meet
              case rel => exact ⟨rfl, gX⟩
          case rest =>
            obtain ⟨rfl, g9⟩ := hcut
            have HGe := Lib.hid (grown_trans HGV1.out g9)
            clear g9
            go_wp2_with fail
            go_meet
            case rel => exact HGe.out
        · have i1 : ¬ (n : Int) > 0 := by omega
          go_wp2_with fail
          go_meet
          case rel => exact HGw6.out
  case rest =>
    generalize wc = w20 at *
    have HG20 := Lib.hid (grown_trans HGw2.out hcut)
    have HGA := Lib.hid (grown_trans HG1.out HG20.out)
    have HRb := Lib.hid (HR.out.grown HGA.out (fun k e => by cases e))
    have HLC20 := Lib.hid (((HC.out.grown HG20.out (by simp))).load (P := Try.prog) 0 86 3 codPkt (by decide) (fun j _ => by rw [Nat.zero_add]) (by kernel_rfl) (by kernel_rfl))
    clear hcut HO HE HNP HIs HGw2
    go_wp2_with (first | ((with_reducible refine wpList_here ?_); refine wpList_ld (p := .pointer (some ⟨CB, 0, none⟩)) 5 ?_ ?_ ?_ HLC20.out ?_; (· rfl); go_simp; (· kernel_rfl)))
    go_at_call 35
    refine (HK.out.take c HRb.out HF.out (by have := HL.out; omega)).mono ?_
    rintro e w21 ⟨v, rfl, h1, h2, g⟩
    have H1V := Lib.hid h1
    have H2V := Lib.hid h2
    have HGw21 := Lib.hid g
    clear h1 h2 g HLC20
    cases hok : pOk2 L F with
    | false =>
      rw [show errT false = 9 from rfl]
      clear hok H2V
      have hN := RowAt.new w21 43 21 PV.zero.v #[.int .u8 0, .int .u8 0, .int .u8 0, .int .u8 0, .int .u8 0, .int .u8 0, .int .u8 0, .int .u8 0, .int .u8 0, .int .u8 0, .int .u8 0, .int .u8 0, .int .u8 0, .int .u8 0, .int .u8 0, .int .u8 0, .int .u8 0, .int .u8 0, .int .u8 0, .int .u8 0, .slice none 0 0] (by kernel_rfl)
      obtain ⟨k1, k2⟩ := RowAt.store (P := Try.prog) hN 0 43 21 v (by decide) (by kernel_rfl) (fun j _ => H1V.out j)
      obtain ⟨w22, hw⟩ : ∃ W, W = (w21.alloc (.cells #[.int .u8 0, .int .u8 0, .int .u8 0, .int .u8 0, .int .u8 0, .int .u8 0, .int .u8 0, .int .u8 0, .int .u8 0, .int .u8 0, .int .u8 0, .int .u8 0, .int .u8 0, .int .u8 0, .int .u8 0, .int .u8 0, .int .u8 0, .int .u8 0, .int .u8 0, .int .u8 0, .slice none 0 0] 43)).setCells w21.heap.size 0 (rowOf 21 v).toList := ⟨_, rfl⟩
      have g2 : w21.grownBy w22 none := by rw [hw]; exact grown_setCells w21.heap.size (Or.inl (Nat.le_refl _)) _ 0 _ (World.grownBy_alloc w21 _ none)
      rw [← hw] at k1 k2
      have HYyb := Lib.hid (k2.congr (v' := v) fun i hi => by rw [if_pos ⟨Nat.zero_le _, by omega⟩, Nat.sub_zero])
      obtain ⟨yb, hb⟩ : ∃ b, b = w21.heap.size := ⟨_, rfl⟩
      rw [← hb] at k1 HYyb
      have HXB := Lib.hid hb
      have HS := Lib.hid k1
      have HGw22 := Lib.hid (grown_trans HGw21.out g2)
      have HG34 := Lib.hid g2
      clear hN k1 k2 hw g2 hb HGw21
      go_upto_region 12 with (first | ((with_reducible refine wpList_here ?_); refine wpList_st (T := 43) (p := .pointer (some ⟨w21.heap.size, 0, none⟩)) (v := .agg (rowOf 21 v)) (.tmp 19) (.tmp 79) ?_ ?_ ?_ ?_ ?_ (by rw [← HXB.out]; exact HS.out) ?_; (· rfl); (· rfl); go_simp; (· kernel_rfl); (· kernel_rfl)))
      rw [← HXB.out]
      clear HS HXB
      go_wp2_with fail
      go_ret
      exact ⟨rfl, grown_trans HGA.out HGw22.out⟩
    | true =>
      rw [show errT true = 0 from rfl]
      have HIS21 := Lib.hid (H2V.out hok)
      clear hok H2V
      have hN := RowAt.new w21 43 21 PV.zero.v #[.int .u8 0, .int .u8 0, .int .u8 0, .int .u8 0, .int .u8 0, .int .u8 0, .int .u8 0, .int .u8 0, .int .u8 0, .int .u8 0, .int .u8 0, .int .u8 0, .int .u8 0, .int .u8 0, .int .u8 0, .int .u8 0, .int .u8 0, .int .u8 0, .int .u8 0, .int .u8 0, .slice none 0 0] (by kernel_rfl)
      obtain ⟨k1, k2⟩ := RowAt.store (P := Try.prog) hN 0 43 21 v (by decide) (by kernel_rfl) (fun j _ => H1V.out j)
      obtain ⟨w22, hw⟩ : ∃ W, W = (w21.alloc (.cells #[.int .u8 0, .int .u8 0, .int .u8 0, .int .u8 0, .int .u8 0, .int .u8 0, .int .u8 0, .int .u8 0, .int .u8 0, .int .u8 0, .int .u8 0, .int .u8 0, .int .u8 0, .int .u8 0, .int .u8 0, .int .u8 0, .int .u8 0, .int .u8 0, .int .u8 0, .int .u8 0, .slice none 0 0] 43)).setCells w21.heap.size 0 (rowOf 21 v).toList := ⟨_, rfl⟩
      have g2 : w21.grownBy w22 none := by rw [hw]; exact grown_setCells w21.heap.size (Or.inl (Nat.le_refl _)) _ 0 _ (World.grownBy_alloc w21 _ none)
      rw [← hw] at k1 k2
      have HYyb := Lib.hid (k2.congr (v' := v) fun i hi => by rw [if_pos ⟨Nat.zero_le _, by omega⟩, Nat.sub_zero])
      obtain ⟨yb, hb⟩ : ∃ b, b = w21.heap.size := ⟨_, rfl⟩
      rw [← hb] at k1 HYyb
      have HXB := Lib.hid hb
      have HS := Lib.hid k1
      have HGw22 := Lib.hid (grown_trans HGw21.out g2)
      have HG34 := Lib.hid g2
      clear hN k1 k2 hw g2 hb HGw21
      go_upto_region 14 with (first | ((with_reducible refine wpList_here ?_); refine wpList_st (T := 43) (p := .pointer (some ⟨w21.heap.size, 0, none⟩)) (v := .agg (rowOf 21 v)) (.tmp 19) (.tmp 79) ?_ ?_ ?_ ?_ ?_ (by rw [← HXB.out]; exact HS.out) ?_; (· rfl); (· rfl); go_simp; (· kernel_rfl); (· kernel_rfl)))
      rw [← HXB.out]
      clear HS HXB
      have HIS22 := Lib.hid (HK.out.grown HIS21.out HG34.out)
      have HGC := Lib.hid (grown_trans HG20.out HGw22.out)
      have HLC22 := Lib.hid (((HC.out.grown HGC.out (by simp))).load (P := Try.prog) 0 86 3 codPkt (by decide) (fun j _ => by rw [Nat.zero_add]) (by kernel_rfl) (by kernel_rfl))
      have HLY22 := Lib.hid ((HYyb.out).load (P := Try.prog) 0 43 21 v (by decide) (fun j _ => by rw [Nat.zero_add]) (by kernel_rfl) (by kernel_rfl))
      have HP22 := Lib.hid (HK.out.put HIS22.out)
      clear HIS21 HG34
      go_wp2_with (first | ((with_reducible refine wpList_here ?_); refine wpList_ld (p := .pointer (some ⟨CB, 0, none⟩)) 5 ?_ ?_ ?_ HLC22.out ?_; (· rfl); go_simp; (· kernel_rfl)) | ((with_reducible refine wpList_here ?_); refine wpList_ld (p := .pointer (some ⟨yb, 0, none⟩)) 19 ?_ ?_ ?_ HLY22.out ?_; (· rfl); go_simp; (· kernel_rfl)))
      go_at_call 98
      refine HP22.out.mono ?_
      rintro e w23 ⟨⟨ap, cp, rfl, hO⟩, g⟩
      rw [show (.slice ap (if true = true then L else 0) cp : Value) = .slice ap L cp from rfl, show (.int .i64 (if true = true then 0 else 2) : Value) = .int .i64 0 from rfl]
      have hO : OwnN w23 w22.heap.size (.slice ap L cp) L F := hO
      obtain ⟨_, hRp⟩ := own_rd hO
      have HGw23 := Lib.hid (grown_trans HGw22.out g)
      have hsp := run_string cp hRp HF.out
      have hsb := run_string c (HRb.out.grown HGw23.out (fun k e => by cases e)) HF.out
      obtain ⟨sx, hsx⟩ : ∃ s, s = strOf L F := ⟨_, rfl⟩
      rw [← hsx] at hsp hsb
      clear g hO hRp HP22 HLC22 HLY22 HGw22 hsx HYyb HIS22 HGC
      go_wp2_with fail
      go_ret
      exact ⟨rfl, grown_trans HGA.out HGw23.out⟩
end Go.Proofs.Ytmbefbmpjkbnmaa
namespace Go.Proofs.Ytmbefbmpjkbnmaa
open Go.RowKit

set_option maxRecDepth 100000
set_option maxHeartbeats 4000000

theorem PutSays.none {w : World} {n : Nat} {f : Nat → Nat} {e : Ending} {w' : World} (h : PutSays w false n f e w') : PutSays w false 0 (fun _ => 0) e w' := by
  obtain ⟨⟨a, c, h1, h2⟩, h3⟩ := h
  refine ⟨⟨a, c, h1, ?_⟩, h3⟩
  change OwnN w' w.heap.size (.slice a 0 c) 0 f at h2
  show OwnN w' w.heap.size (.slice a 0 c) 0 (fun _ => 0)
  rcases h2.ex with ⟨p, q⟩ | ⟨x, y, p, q, r⟩
  · exact ⟨Or.inl ⟨p, q⟩⟩
  · exact ⟨Or.inr ⟨x, y, p, q.congr (fun i hi => absurd hi (by omega)), r⟩⟩
theorem hasD (x : DV) (w : World) (hx : x.Ok) : (∃ n f, IsD w x.v n f) ∨ ∀ W, w.grownBy W none → Calls Try.prog 59 #[.agg (rowOf 3 codDist), .agg (rowOf 52 x.v)] W (PutSays W false 0 (fun _ => 0)) := by
  cases hm : devMay x.sd with
  | true => exact Or.inl ⟨66, x.bytes, rfl, x.b_u hx, x, hx, hm, rfl, fun _ _ => rfl⟩
  | false =>
    refine Or.inr fun W _ => ?_
    have := putDist_any x.v (devMay x.sd) 66 x.bytes W (fun w1 _ => distMay_any x w1) (fun _ _ _ _ _ h => distPut_any x ⟨hx.ep, hx.kid⟩ h (by decide) (by decide))
    rw [hm] at this
    exact this.mono fun e w' h => h.none
theorem hasH (x : HV) (w : World) (hx : x.Ok) : (∃ n f, IsH w x.v n f) ∨ ∀ W, w.grownBy W none → Calls Try.prog 53 #[.agg (rowOf 3 codHdr), .agg (rowOf 34 x.v)] W (PutSays W false 0 (fun _ => 0)) :=
  Or.inl ⟨40, x.bytes, rfl, x.b_u hx, x, hx, rfl, fun _ _ => rfl⟩
theorem hasP (x : PV) (fb : Nat → Nat) (D : Nat) (w : World) (hx : x.Ok) (hR : Rd w D x.ad x.nb fb) (hf : ∀ i, fb i < 256) : (∃ n f, IsP w x.v n f) ∨ ∀ W, w.grownBy W none → Calls Try.prog 98 #[.agg (rowOf 3 codPkt), .agg (rowOf 21 x.v)] W (PutSays W false 0 (fun _ => 0)) := by
  cases hm : pktMay x with
  | true => exact Or.inl ⟨x.len, x.bytes fb, x.b_u hx hf, x, fb, D, hx, hm, hR, hf, rfl, rfl, fun _ _ => rfl⟩
  | false =>
    refine Or.inr fun W g => ?_
    have := putPkt_any x.v (pktMay x) x.len (x.bytes fb) W (fun w1 _ => pktMay_any x w1) (fun hm w0 w1 g0 h0 h => by
      unfold pktMay at hm
      rw [Bool.and_eq_true, decide_eq_true_eq] at hm
      exact pktPut_any (D := D) x ((hR.grown g (fun k e => by cases e)).grown h0 (by simp)) hm.2 h (by unfold PV.len; omega) (by decide))
    rw [hm] at this
    exact this.mono fun e w' h => h.none
theorem hasE (x : EV) (fb : Nat → Nat) (D : Nat) (w : World) (hx : x.Ok) (hR : Rd w D x.ad x.nb fb) (hf : ∀ i, fb i < 256) : (∃ n f, IsE w x.v n f) ∨ ∀ W, w.grownBy W none → Calls Try.prog 86 #[.agg (rowOf 3 codEnv), .agg (rowOf 106 x.v)] W (PutSays W false 0 (fun _ => 0)) := by
  cases hm : envMay x with
  | true => exact Or.inl ⟨x.len, x.bytes fb, x.b_u hx hf, x, fb, D, hx, hm, hR, hf, rfl, rfl, fun _ _ => rfl⟩
  | false =>
    refine Or.inr fun W g => ?_
    have := putEnv_any x.v (envMay x) x.len (x.bytes fb) W (fun w1 _ => envMay_any x w1) (fun hm w0 w1 g0 h0 h => by
      unfold envMay at hm
      rw [Bool.and_eq_true, decide_eq_true_eq] at hm
      exact envPut_any (D := D) x hx ((hR.grown g (fun k e => by cases e)).grown h0 (by simp)) hm.2 h (by omega) (by decide))
    rw [hm] at this
    exact this.mono fun e w' h => h.none
theorem hasR (x : RV) (fm : Nat → Nat → Nat) (D : Nat) (w : World) (hi : ∀ i, x.id i < 256) (he : x.ep < 18446744073709551616) (hc : x.nm ≤ x.cm) (hf : ∀ i j, fm i j < 256) (hR : RdD w D x.am x.nm fm) (hn : x.nm ≤ 1048576) : (∃ n f, IsR w x.v n f) ∨ ∀ W, w.grownBy W none → Calls Try.prog 76 #[.agg (rowOf 3 codRos), .agg (rowOf 18 x.v)] W (PutSays W false 0 (fun _ => 0)) := by
  cases hm : memMay x.nm fm with
  | true => exact Or.inl ⟨x.len, x.bytes fm, x.b_u hi hf, x, fm, D, he, hm, hc, hR, rfl, rfl, fun _ _ => rfl⟩
  | false =>
    refine Or.inr fun W g => ?_
    have hRW := hR.grown g (by simp)
    have := putRos_any x.v (memMay x.nm fm) x.len (x.bytes fm) W (fun w1 h => rosMay_any D x fm w1 (hRW.grown h (by simp)) hn) (fun hm w0 w1 g0 h0 h => by
      exact rosPut_any (D := D) x fm he (hRW.grown h0 (by simp)) (mem_le hm) h (by have := mem_le hm; unfold RV.len; omega) (by decide))
    rw [hm] at this
    exact this.mono fun e w' h => h.none
theorem has_up {w W : World} {v : Nat → Value} {B : World → Prop} (Is : World → (Nat → Value) → Nat → (Nat → Nat) → Prop) (h : (∃ n f, Is w v n f) ∨ ∀ V, w.grownBy V none → B V) (g : w.grownBy W none) (hA : ∀ n f, Is w v n f → Is W v n f) : (∃ n f, Is W v n f) ∨ ∀ V, W.grownBy V none → B V :=
  h.imp (fun ⟨n, f, k⟩ => ⟨n, f, hA n f k⟩) (fun k V gv => k V (grown_trans g gv))
end Go.Proofs.Ytmbefbmpjkbnmaa
