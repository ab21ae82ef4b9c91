/-
  Proved: whatever bytes come in, 'DistTakes' answers true, and what came in reads afterwards as it read before. Conditions: the arguments can be read as data.
-/
import Derived.Test.YtdagbighlgfhjaaDistTakesAllb
import Derived.Test.YtdagbighlgfhjaaStr
import Derived.Test.YtdagbighlgfhjaaExecQ
import Derived.Test.YtdagbighlgfhjaaDistTakesAllc
import Derived.Deep.DeepCutAuto
import Derived.Test.YtdagbighlgfhjaaLaw
import Derived.Test.YtdagbighlgfhjaaRows
import Derived.Stop.Joined
import Derived.LaidLaws
import Derived.Test.YtdagbighlgfhjaaRd
import Derived.Deep.Slices
import Derived.SizedLaws
namespace Go.Proofs.Ytdagbighlgfhjaa
open Go.RowKit

set_option maxRecDepth 100000
set_option maxHeartbeats 4000000

theorem run_eql_dev (a b : Array Value) (r : Bool) (w : World) (he : (Op.equalIn 10000 26 (.agg a) (.agg b)).run Try.prog w = .ok r w) : (binOp .eql 26 (.agg a) (.agg b)).run Try.prog w = .ok (.bool (r)) w := by
  go_simp
theorem guard_eql_dev (t1 t2 : Nat) (a b : Array Value) (w : World) : (eqGuard .eql 26 (.tmp t1) (.tmp t2) (.agg a) (.agg b)).run Try.prog w = .ok () w := by
  unfold eqGuard; go_simp
theorem exec_eql_dev {o : Oper} {ac : Act} {W : World} (t1 t2 : Nat) (a b : Array Value) (r : Bool) (he : (Op.equalIn 10000 26 (.agg a) (.agg b)).run Try.prog W = .ok r W) (ho : o.op = .binOp .eql 26 (.tmp t1) (.tmp t2) 26) (h1 : ac.eval (.tmp t1) = .agg a) (h2 : ac.eval (.tmp t2) = .agg b) : (execOp ac.eval o).run Try.prog W = .ok (.value (.bool (r))) W := by
  have hb := run_eql_dev a b r W he
  have hg := guard_eql_dev t1 t2 a b W
  unfold execOp
  simp only [ho, h1, h2]
  simp only [Sem.run_bind, Sem.run_pure, Result.andThen_ok, hg, hb]
theorem run_neq_dev (a b : Array Value) (r : Bool) (w : World) (he : (Op.equalIn 10000 26 (.agg a) (.agg b)).run Try.prog w = .ok r w) : (binOp .neq 26 (.agg a) (.agg b)).run Try.prog w = .ok (.bool (!r)) w := by
  go_simp
theorem guard_neq_dev (t1 t2 : Nat) (a b : Array Value) (w : World) : (eqGuard .neq 26 (.tmp t1) (.tmp t2) (.agg a) (.agg b)).run Try.prog w = .ok () w := by
  unfold eqGuard; go_simp
theorem exec_neq_dev {o : Oper} {ac : Act} {W : World} (t1 t2 : Nat) (a b : Array Value) (r : Bool) (he : (Op.equalIn 10000 26 (.agg a) (.agg b)).run Try.prog W = .ok r W) (ho : o.op = .binOp .neq 26 (.tmp t1) (.tmp t2) 26) (h1 : ac.eval (.tmp t1) = .agg a) (h2 : ac.eval (.tmp t2) = .agg b) : (execOp ac.eval o).run Try.prog W = .ok (.value (.bool (!r))) W := by
  have hb := run_neq_dev a b r W he
  have hg := guard_neq_dev t1 t2 a b W
  unfold execOp
  simp only [ho, h1, h2]
  simp only [Sem.run_bind, Sem.run_pure, Result.andThen_ok, hg, hb]
theorem run_eql_id (a b : Array Value) (r : Bool) (w : World) (he : (Op.equalIn 10000 23 (.agg a) (.agg b)).run Try.prog w = .ok r w) : (binOp .eql 23 (.agg a) (.agg b)).run Try.prog w = .ok (.bool (r)) w := by
  go_simp
theorem guard_eql_id (t1 t2 : Nat) (a b : Array Value) (w : World) : (eqGuard .eql 23 (.tmp t1) (.tmp t2) (.agg a) (.agg b)).run Try.prog w = .ok () w := by
  unfold eqGuard; go_simp
theorem exec_eql_id {o : Oper} {ac : Act} {W : World} (t1 t2 : Nat) (a b : Array Value) (r : Bool) (he : (Op.equalIn 10000 23 (.agg a) (.agg b)).run Try.prog W = .ok r W) (ho : o.op = .binOp .eql 23 (.tmp t1) (.tmp t2) 23) (h1 : ac.eval (.tmp t1) = .agg a) (h2 : ac.eval (.tmp t2) = .agg b) : (execOp ac.eval o).run Try.prog W = .ok (.value (.bool (r))) W := by
  have hb := run_eql_id a b r W he
  have hg := guard_eql_id t1 t2 a b W
  unfold execOp
  simp only [ho, h1, h2]
  simp only [Sem.run_bind, Sem.run_pure, Result.andThen_ok, hg, hb]
theorem run_neq_id (a b : Array Value) (r : Bool) (w : World) (he : (Op.equalIn 10000 23 (.agg a) (.agg b)).run Try.prog w = .ok r w) : (binOp .neq 23 (.agg a) (.agg b)).run Try.prog w = .ok (.bool (!r)) w := by
  go_simp
theorem guard_neq_id (t1 t2 : Nat) (a b : Array Value) (w : World) : (eqGuard .neq 23 (.tmp t1) (.tmp t2) (.agg a) (.agg b)).run Try.prog w = .ok () w := by
  unfold eqGuard; go_simp
theorem exec_neq_id {o : Oper} {ac : Act} {W : World} (t1 t2 : Nat) (a b : Array Value) (r : Bool) (he : (Op.equalIn 10000 23 (.agg a) (.agg b)).run Try.prog W = .ok r W) (ho : o.op = .binOp .neq 23 (.tmp t1) (.tmp t2) 23) (h1 : ac.eval (.tmp t1) = .agg a) (h2 : ac.eval (.tmp t2) = .agg b) : (execOp ac.eval o).run Try.prog W = .ok (.value (.bool (!r))) W := by
  have hb := run_neq_id a b r W he
  have hg := guard_neq_id t1 t2 a b W
  unfold execOp
  simp only [ho, h1, h2]
  simp only [Sem.run_bind, Sem.run_pure, Result.andThen_ok, hg, hb]
theorem run_eql_set (a b : Array Value) (r : Bool) (w : World) (he : (Op.equalIn 10000 38 (.agg a) (.agg b)).run Try.prog w = .ok r w) : (binOp .eql 38 (.agg a) (.agg b)).run Try.prog w = .ok (.bool (r)) w := by
  go_simp
theorem guard_eql_set (t1 t2 : Nat) (a b : Array Value) (w : World) : (eqGuard .eql 38 (.tmp t1) (.tmp t2) (.agg a) (.agg b)).run Try.prog w = .ok () w := by
  unfold eqGuard; go_simp
theorem exec_eql_set {o : Oper} {ac : Act} {W : World} (t1 t2 : Nat) (a b : Array Value) (r : Bool) (he : (Op.equalIn 10000 38 (.agg a) (.agg b)).run Try.prog W = .ok r W) (ho : o.op = .binOp .eql 38 (.tmp t1) (.tmp t2) 38) (h1 : ac.eval (.tmp t1) = .agg a) (h2 : ac.eval (.tmp t2) = .agg b) : (execOp ac.eval o).run Try.prog W = .ok (.value (.bool (r))) W := by
  have hb := run_eql_set a b r W he
  have hg := guard_eql_set t1 t2 a b W
  unfold execOp
  simp only [ho, h1, h2]
  simp only [Sem.run_bind, Sem.run_pure, Result.andThen_ok, hg, hb]
theorem run_neq_set (a b : Array Value) (r : Bool) (w : World) (he : (Op.equalIn 10000 38 (.agg a) (.agg b)).run Try.prog w = .ok r w) : (binOp .neq 38 (.agg a) (.agg b)).run Try.prog w = .ok (.bool (!r)) w := by
  go_simp
theorem guard_neq_set (t1 t2 : Nat) (a b : Array Value) (w : World) : (eqGuard .neq 38 (.tmp t1) (.tmp t2) (.agg a) (.agg b)).run Try.prog w = .ok () w := by
  unfold eqGuard; go_simp
theorem exec_neq_set {o : Oper} {ac : Act} {W : World} (t1 t2 : Nat) (a b : Array Value) (r : Bool) (he : (Op.equalIn 10000 38 (.agg a) (.agg b)).run Try.prog W = .ok r W) (ho : o.op = .binOp .neq 38 (.tmp t1) (.tmp t2) 38) (h1 : ac.eval (.tmp t1) = .agg a) (h2 : ac.eval (.tmp t2) = .agg b) : (execOp ac.eval o).run Try.prog W = .ok (.value (.bool (!r))) W := by
  have hb := run_neq_set a b r W he
  have hg := guard_neq_set t1 t2 a b W
  unfold execOp
  simp only [ho, h1, h2]
  simp only [Sem.run_bind, Sem.run_pure, Result.andThen_ok, hg, hb]
theorem run_eql_hdr (a b : Array Value) (r : Bool) (w : World) (he : (Op.equalIn 10000 36 (.agg a) (.agg b)).run Try.prog w = .ok r w) : (binOp .eql 36 (.agg a) (.agg b)).run Try.prog w = .ok (.bool (r)) w := by
  go_simp
theorem guard_eql_hdr (t1 t2 : Nat) (a b : Array Value) (w : World) : (eqGuard .eql 36 (.tmp t1) (.tmp t2) (.agg a) (.agg b)).run Try.prog w = .ok () w := by
  unfold eqGuard; go_simp
theorem exec_eql_hdr {o : Oper} {ac : Act} {W : World} (t1 t2 : Nat) (a b : Array Value) (r : Bool) (he : (Op.equalIn 10000 36 (.agg a) (.agg b)).run Try.prog W = .ok r W) (ho : o.op = .binOp .eql 36 (.tmp t1) (.tmp t2) 36) (h1 : ac.eval (.tmp t1) = .agg a) (h2 : ac.eval (.tmp t2) = .agg b) : (execOp ac.eval o).run Try.prog W = .ok (.value (.bool (r))) W := by
  have hb := run_eql_hdr a b r W he
  have hg := guard_eql_hdr t1 t2 a b W
  unfold execOp
  simp only [ho, h1, h2]
  simp only [Sem.run_bind, Sem.run_pure, Result.andThen_ok, hg, hb]
theorem run_neq_hdr (a b : Array Value) (r : Bool) (w : World) (he : (Op.equalIn 10000 36 (.agg a) (.agg b)).run Try.prog w = .ok r w) : (binOp .neq 36 (.agg a) (.agg b)).run Try.prog w = .ok (.bool (!r)) w := by
  go_simp
theorem guard_neq_hdr (t1 t2 : Nat) (a b : Array Value) (w : World) : (eqGuard .neq 36 (.tmp t1) (.tmp t2) (.agg a) (.agg b)).run Try.prog w = .ok () w := by
  unfold eqGuard; go_simp
theorem exec_neq_hdr {o : Oper} {ac : Act} {W : World} (t1 t2 : Nat) (a b : Array Value) (r : Bool) (he : (Op.equalIn 10000 36 (.agg a) (.agg b)).run Try.prog W = .ok r W) (ho : o.op = .binOp .neq 36 (.tmp t1) (.tmp t2) 36) (h1 : ac.eval (.tmp t1) = .agg a) (h2 : ac.eval (.tmp t2) = .agg b) : (execOp ac.eval o).run Try.prog W = .ok (.value (.bool (!r))) W := by
  have hb := run_neq_hdr a b r W he
  have hg := guard_neq_hdr t1 t2 a b W
  unfold execOp
  simp only [ho, h1, h2]
  simp only [Sem.run_bind, Sem.run_pure, Result.andThen_ok, hg, hb]
theorem run_eql_dist (a b : Array Value) (r : Bool) (w : World) (he : (Op.equalIn 10000 30 (.agg a) (.agg b)).run Try.prog w = .ok r w) : (binOp .eql 30 (.agg a) (.agg b)).run Try.prog w = .ok (.bool (r)) w := by
  go_simp
theorem guard_eql_dist (t1 t2 : Nat) (a b : Array Value) (w : World) : (eqGuard .eql 30 (.tmp t1) (.tmp t2) (.agg a) (.agg b)).run Try.prog w = .ok () w := by
  unfold eqGuard; go_simp
theorem exec_eql_dist {o : Oper} {ac : Act} {W : World} (t1 t2 : Nat) (a b : Array Value) (r : Bool) (he : (Op.equalIn 10000 30 (.agg a) (.agg b)).run Try.prog W = .ok r W) (ho : o.op = .binOp .eql 30 (.tmp t1) (.tmp t2) 30) (h1 : ac.eval (.tmp t1) = .agg a) (h2 : ac.eval (.tmp t2) = .agg b) : (execOp ac.eval o).run Try.prog W = .ok (.value (.bool (r))) W := by
  have hb := run_eql_dist a b r W he
  have hg := guard_eql_dist t1 t2 a b W
  unfold execOp
  simp only [ho, h1, h2]
  simp only [Sem.run_bind, Sem.run_pure, Result.andThen_ok, hg, hb]
theorem run_neq_dist (a b : Array Value) (r : Bool) (w : World) (he : (Op.equalIn 10000 30 (.agg a) (.agg b)).run Try.prog w = .ok r w) : (binOp .neq 30 (.agg a) (.agg b)).run Try.prog w = .ok (.bool (!r)) w := by
  go_simp
theorem guard_neq_dist (t1 t2 : Nat) (a b : Array Value) (w : World) : (eqGuard .neq 30 (.tmp t1) (.tmp t2) (.agg a) (.agg b)).run Try.prog w = .ok () w := by
  unfold eqGuard; go_simp
theorem exec_neq_dist {o : Oper} {ac : Act} {W : World} (t1 t2 : Nat) (a b : Array Value) (r : Bool) (he : (Op.equalIn 10000 30 (.agg a) (.agg b)).run Try.prog W = .ok r W) (ho : o.op = .binOp .neq 30 (.tmp t1) (.tmp t2) 30) (h1 : ac.eval (.tmp t1) = .agg a) (h2 : ac.eval (.tmp t2) = .agg b) : (execOp ac.eval o).run Try.prog W = .ok (.value (.bool (!r))) W := by
  have hb := run_neq_dist a b r W he
  have hg := guard_neq_dist t1 t2 a b W
  unfold execOp
  simp only [ho, h1, h2]
  simp only [Sem.run_bind, Sem.run_pure, Result.andThen_ok, hg, hb]
theorem self_dev (f : Nat → Nat) (w : World) : (Op.equalIn 10000 26 (.agg (cellsOf .u8 2 f)) (.agg (cellsOf .u8 2 f))).run Try.prog w = .ok true w := by
  have h := eqi_dev 9998 f f w
  rwa [eqN_self] at h
theorem self_id (f : Nat → Nat) (w : World) : (Op.equalIn 10000 23 (.agg (cellsOf .u8 16 f)) (.agg (cellsOf .u8 16 f))).run Try.prog w = .ok true w := by
  have h := eqi_arr 9998 16 23 (by kernel_rfl) f f w
  rwa [eqN_self] at h
theorem self_set (x : SetV) (w : World) : (Op.equalIn 10000 38 (.agg (rowOf 66 x.v)) (.agg (rowOf 66 x.v))).run Try.prog w = .ok true w := by
  have h := eqi_set 9997 x x w
  rw [eqN_self, eqN_self] at h
  simpa using h
theorem self_hdr (x : HV) (w : World) : (Op.equalIn 10000 36 (.agg (rowOf 34 x.v)) (.agg (rowOf 34 x.v))).run Try.prog w = .ok true w := by
  have h := eqi_hdr 9997 x x w
  rw [eqN_self] at h
  simpa using h
theorem self_dist (x : DV) (w : World) : (Op.equalIn 10000 30 (.agg (rowOf 52 x.v)) (.agg (rowOf 52 x.v))).run Try.prog w = .ok true w := by
  have h := eqi_dist 9997 x x w
  rw [eqN_self, eqN_self] at h
  simpa using h
theorem samePkt_any {f f1 f2 f3 : Nat → Nat} {n c d D1 D2 : Nat} {a b : Option Addr} (w : World) (hf : ∀ i, f i < 256) (hRx : Rd w D1 a n f) (hRy : Rd w D2 b n f) :
    Calls Try.prog 39 #[.agg (rowOf 21 (PV.mk f1 f2 f3 a n c).v), .agg (rowOf 21 (PV.mk f1 f2 f3 b n d).v)] w fun e w' => e = .returned (.bool true) ∧ w.grownBy w' none := by
  have ga := World.grownBy_alloc w (.cells (rowOf 21 (PV.mk f1 f2 f3 a n c).v) 43) none
  have hz := World.size_alloc w (.cells (rowOf 21 (PV.mk f1 f2 f3 a n c).v) 43)
  have hX := RowAt.new w 43 21 ((PV.mk f1 f2 f3 a n c).v) _ rfl
  have gb := World.grownBy_alloc (w.alloc (.cells (rowOf 21 (PV.mk f1 f2 f3 a n c).v) 43)) (.cells (rowOf 21 (PV.mk f1 f2 f3 b n d).v) 43) none
  have hY := RowAt.new (w.alloc (.cells (rowOf 21 (PV.mk f1 f2 f3 a n c).v) 43)) 43 21 ((PV.mk f1 f2 f3 b n d).v) _ rfl
  rw [hz] at hY
  have hX := hX.grown gb (by simp)
  have hG := grown_trans ga gb
  have hsx := run_string c (hRx.grown hG (by simp)) hf
  have hsy := run_string d (hRy.grown hG (by simp)) hf
  have HG := Lib.hid hG
  clear ga gb hz hG hRx hRy hf
  go_enter Try.func39, Try.ntmps39
  go_upto_region 1 with fail
  obtain ⟨B, hB⟩ : ∃ B, B = w.heap.size := ⟨_, rfl⟩
  rw [← hB] at hX hY ⊢
  generalize (w.alloc (.cells (rowOf 21 (PV.mk f1 f2 f3 a n c).v) 43)).alloc (.cells (rowOf 21 (PV.mk f1 f2 f3 b n d).v) 43) = w1 at *
  obtain ⟨sx, hsx0⟩ : ∃ s, s = strOf n f := ⟨_, rfl⟩
  rw [← hsx0] at hsx hsy
  have cx : w1.cell? ⟨B, 20, none⟩ = some (.slice a n c) := hX.cell 20 (by decide)
  have cy : w1.cell? ⟨B + 1, 20, none⟩ = some (.slice b n d) := hY.cell 20 (by decide)
  clear hsx0 hB
  have HX0 := Lib.hid (hX.load (P := Try.prog) 0 26 2 (fun j => .int .u8 (f1 j)) (by decide) (PV.v_fr (PV.mk f1 f2 f3 a n c)) (by kernel_rfl) (by kernel_rfl))
  have HY0 := Lib.hid (hY.load (P := Try.prog) 0 26 2 (fun j => .int .u8 (f1 j)) (by decide) (PV.v_fr (PV.mk f1 f2 f3 b n d)) (by kernel_rfl) (by kernel_rfl))
  have HX2 := Lib.hid (hX.load (P := Try.prog) 2 26 2 (fun j => .int .u8 (f2 j)) (by decide) (PV.v_to (PV.mk f1 f2 f3 a n c)) (by kernel_rfl) (by kernel_rfl))
  have HY2 := Lib.hid (hY.load (P := Try.prog) 2 26 2 (fun j => .int .u8 (f2 j)) (by decide) (PV.v_to (PV.mk f1 f2 f3 b n d)) (by kernel_rfl) (by kernel_rfl))
  have HX4 := Lib.hid (hX.load (P := Try.prog) 4 23 16 (fun j => .int .u8 (f3 j)) (by decide) (PV.v_id (PV.mk f1 f2 f3 a n c)) (by kernel_rfl) (by kernel_rfl))
  have HY4 := Lib.hid (hY.load (P := Try.prog) 4 23 16 (fun j => .int .u8 (f3 j)) (by decide) (PV.v_id (PV.mk f1 f2 f3 b n d)) (by kernel_rfl) (by kernel_rfl))
  clear hX hY
  go_wp2_with (first | ((with_reducible refine wpList_here ?_); refine wpList_ld (p := .pointer (some ⟨B, 0, none⟩)) 5 ?_ ?_ ?_ HX0.out ?_; (· rfl); go_simp; (· kernel_rfl)) | ((with_reducible refine wpList_here ?_); refine wpList_ld (p := .pointer (some ⟨B + 1, 0, none⟩)) 7 ?_ ?_ ?_ HY0.out ?_; (· rfl); go_simp; (· kernel_rfl)) | ((with_reducible refine wpList_here ?_); refine wpList_ld (p := .pointer (some ⟨B, 2, none⟩)) 11 ?_ ?_ ?_ HX2.out ?_; (· rfl); go_simp; (· kernel_rfl)) | ((with_reducible refine wpList_here ?_); refine wpList_ld (p := .pointer (some ⟨B + 1, 2, none⟩)) 13 ?_ ?_ ?_ HY2.out ?_; (· rfl); go_simp; (· kernel_rfl)) | ((with_reducible refine wpList_here ?_); refine wpList_ld (p := .pointer (some ⟨B, 4, none⟩)) 18 ?_ ?_ ?_ HX4.out ?_; (· rfl); go_simp; (· kernel_rfl)) | ((with_reducible refine wpList_here ?_); refine wpList_ld (p := .pointer (some ⟨B + 1, 4, none⟩)) 20 ?_ ?_ ?_ HY4.out ?_; (· rfl); go_simp; (· kernel_rfl)) | ((with_reducible refine wpList_here ?_); refine wpList_want (v := .bool true) (w' := w1) ?_ (exec_eql_dev 6 8 _ _ true (self_dev f1 w1) rfl rfl rfl) ?_; go_simp) | ((with_reducible refine wpList_here ?_); refine wpList_want (v := .bool true) (w' := w1) ?_ (exec_eql_dev 12 14 _ _ true (self_dev f2 w1) rfl rfl rfl) ?_; go_simp) | ((with_reducible refine wpList_here ?_); refine wpList_want (v := .bool true) (w' := w1) ?_ (exec_eql_id 19 21 _ _ true (self_id f3 w1) rfl rfl rfl) ?_; go_simp))
  go_ret
  exact ⟨rfl, HG.out⟩
theorem sameEnv_any {f f1 f2 : Nat → Nat} {hs : Bool} {st : SetV} {hd : HV} {n c d D1 D2 : Nat} {a b : Option Addr} (w : World) (hf : ∀ i, f i < 256) (hRx : Rd w D1 a n f) (hRy : Rd w D2 b n f) :
    Calls Try.prog 36 #[.agg (rowOf 106 (EV.mk f1 f2 hs st hd a n c).v), .agg (rowOf 106 (EV.mk f1 f2 hs st hd b n d).v)] w fun e w' => e = .returned (.bool true) ∧ w.grownBy w' none := by
  have ga := World.grownBy_alloc w (.cells (rowOf 106 (EV.mk f1 f2 hs st hd a n c).v) 41) none
  have hz := World.size_alloc w (.cells (rowOf 106 (EV.mk f1 f2 hs st hd a n c).v) 41)
  have hX := RowAt.new w 41 106 ((EV.mk f1 f2 hs st hd a n c).v) _ rfl
  have gb := World.grownBy_alloc (w.alloc (.cells (rowOf 106 (EV.mk f1 f2 hs st hd a n c).v) 41)) (.cells (rowOf 106 (EV.mk f1 f2 hs st hd b n d).v) 41) none
  have hY := RowAt.new (w.alloc (.cells (rowOf 106 (EV.mk f1 f2 hs st hd a n c).v) 41)) 41 106 ((EV.mk f1 f2 hs st hd b n d).v) _ rfl
  rw [hz] at hY
  have hX := hX.grown gb (by simp)
  have hG := grown_trans ga gb
  have hsx := run_string c (hRx.grown hG (by simp)) hf
  have hsy := run_string d (hRy.grown hG (by simp)) hf
  have HG := Lib.hid hG
  clear ga gb hz hG hRx hRy hf
  go_enter Try.func36, Try.ntmps36
  go_upto_region 1 with fail
  obtain ⟨B, hB⟩ : ∃ B, B = w.heap.size := ⟨_, rfl⟩
  rw [← hB] at hX hY ⊢
  generalize (w.alloc (.cells (rowOf 106 (EV.mk f1 f2 hs st hd a n c).v) 41)).alloc (.cells (rowOf 106 (EV.mk f1 f2 hs st hd b n d).v) 41) = w1 at *
  obtain ⟨sx, hsx0⟩ : ∃ s, s = strOf n f := ⟨_, rfl⟩
  rw [← hsx0] at hsx hsy
  have cx : w1.cell? ⟨B, 105, none⟩ = some (.slice a n c) := hX.cell 105 (by decide)
  have cy : w1.cell? ⟨B + 1, 105, none⟩ = some (.slice b n d) := hY.cell 105 (by decide)
  clear hsx0 hB
  have HX0 := Lib.hid (hX.load (P := Try.prog) 0 26 2 (fun j => .int .u8 (f1 j)) (by decide) (EV.v_fr (EV.mk f1 f2 hs st hd a n c)) (by kernel_rfl) (by kernel_rfl))
  have HY0 := Lib.hid (hY.load (P := Try.prog) 0 26 2 (fun j => .int .u8 (f1 j)) (by decide) (EV.v_fr (EV.mk f1 f2 hs st hd b n d)) (by kernel_rfl) (by kernel_rfl))
  have HX2 := Lib.hid (hX.load (P := Try.prog) 2 26 2 (fun j => .int .u8 (f2 j)) (by decide) (EV.v_to (EV.mk f1 f2 hs st hd a n c)) (by kernel_rfl) (by kernel_rfl))
  have HY2 := Lib.hid (hY.load (P := Try.prog) 2 26 2 (fun j => .int .u8 (f2 j)) (by decide) (EV.v_to (EV.mk f1 f2 hs st hd b n d)) (by kernel_rfl) (by kernel_rfl))
  have HX4 := Lib.hid (hX.load (P := Try.prog) 5 38 66 st.v (by decide) (EV.v_st (EV.mk f1 f2 hs st hd a n c)) (by kernel_rfl) (by kernel_rfl))
  have HY4 := Lib.hid (hY.load (P := Try.prog) 5 38 66 st.v (by decide) (EV.v_st (EV.mk f1 f2 hs st hd b n d)) (by kernel_rfl) (by kernel_rfl))
  have HX6 := Lib.hid (hX.load (P := Try.prog) 71 36 34 hd.v (by decide) (EV.v_hd (EV.mk f1 f2 hs st hd a n c)) (by kernel_rfl) (by kernel_rfl))
  have HY6 := Lib.hid (hY.load (P := Try.prog) 71 36 34 hd.v (by decide) (EV.v_hd (EV.mk f1 f2 hs st hd b n d)) (by kernel_rfl) (by kernel_rfl))
  have cb4 : w1.cell? ⟨B, 4, none⟩ = some (.bool hs) := hX.cell 4 (by decide)
  have cd4 : w1.cell? ⟨B + 1, 4, none⟩ = some (.bool hs) := hY.cell 4 (by decide)
  clear hX hY
  go_wp2_with (first | ((with_reducible refine wpList_here ?_); refine wpList_ld (p := .pointer (some ⟨B, 0, none⟩)) 5 ?_ ?_ ?_ HX0.out ?_; (· rfl); go_simp; (· kernel_rfl)) | ((with_reducible refine wpList_here ?_); refine wpList_ld (p := .pointer (some ⟨B + 1, 0, none⟩)) 7 ?_ ?_ ?_ HY0.out ?_; (· rfl); go_simp; (· kernel_rfl)) | ((with_reducible refine wpList_here ?_); refine wpList_ld (p := .pointer (some ⟨B, 2, none⟩)) 11 ?_ ?_ ?_ HX2.out ?_; (· rfl); go_simp; (· kernel_rfl)) | ((with_reducible refine wpList_here ?_); refine wpList_ld (p := .pointer (some ⟨B + 1, 2, none⟩)) 13 ?_ ?_ ?_ HY2.out ?_; (· rfl); go_simp; (· kernel_rfl)) | ((with_reducible refine wpList_here ?_); refine wpList_ld (p := .pointer (some ⟨B, 5, none⟩)) 25 ?_ ?_ ?_ HX4.out ?_; (· rfl); go_simp; (· kernel_rfl)) | ((with_reducible refine wpList_here ?_); refine wpList_ld (p := .pointer (some ⟨B + 1, 5, none⟩)) 27 ?_ ?_ ?_ HY4.out ?_; (· rfl); go_simp; (· kernel_rfl)) | ((with_reducible refine wpList_here ?_); refine wpList_ld (p := .pointer (some ⟨B, 71, none⟩)) 32 ?_ ?_ ?_ HX6.out ?_; (· rfl); go_simp; (· kernel_rfl)) | ((with_reducible refine wpList_here ?_); refine wpList_ld (p := .pointer (some ⟨B + 1, 71, none⟩)) 34 ?_ ?_ ?_ HY6.out ?_; (· rfl); go_simp; (· kernel_rfl)) | ((with_reducible refine wpList_here ?_); refine wpList_want (v := .bool true) (w' := w1) ?_ (exec_eql_dev 6 8 _ _ true (self_dev f1 w1) rfl rfl rfl) ?_; go_simp) | ((with_reducible refine wpList_here ?_); refine wpList_want (v := .bool true) (w' := w1) ?_ (exec_eql_dev 12 14 _ _ true (self_dev f2 w1) rfl rfl rfl) ?_; go_simp) | ((with_reducible refine wpList_here ?_); refine wpList_want (v := .bool true) (w' := w1) ?_ (exec_eql_set 26 28 _ _ true (self_set st w1) rfl rfl rfl) ?_; go_simp) | ((with_reducible refine wpList_here ?_); refine wpList_want (v := .bool true) (w' := w1) ?_ (exec_eql_hdr 33 35 _ _ true (self_hdr hd w1) rfl rfl rfl) ?_; go_simp))
  go_ret
  exact ⟨rfl, HG.out⟩
end Go.Proofs.Ytdagbighlgfhjaa
namespace Go.Proofs.Ytdagbighlgfhjaa
open Go.RowKit

set_option maxRecDepth 100000
set_option maxHeartbeats 4000000

theorem sameRos_any {f1 : Nat → Nat} {fm : Nat → Nat → Nat} {e1 n c d D1 D2 : Nat} {a b : Option Addr} (w : World) (hn : n ≤ 1048576) (hx : n ≤ c) (hy : n ≤ d) (hRx : RdD w D1 a n fm) (hRy : RdD w D2 b n fm) :
    Calls Try.prog 31 #[.agg (rowOf 18 (RV.mk f1 e1 a n c).v), .agg (rowOf 18 (RV.mk f1 e1 b n d).v)] w fun e w' => e = .returned (.bool true) ∧ w.grownBy w' none := by
  have ga := World.grownBy_alloc w (.cells (rowOf 18 (RV.mk f1 e1 a n c).v) 33) none
  have hz := World.size_alloc w (.cells (rowOf 18 (RV.mk f1 e1 a n c).v) 33)
  have hX := RowAt.new w 33 18 ((RV.mk f1 e1 a n c).v) _ rfl
  have gb := World.grownBy_alloc (w.alloc (.cells (rowOf 18 (RV.mk f1 e1 a n c).v) 33)) (.cells (rowOf 18 (RV.mk f1 e1 b n d).v) 33) none
  have hY := RowAt.new (w.alloc (.cells (rowOf 18 (RV.mk f1 e1 a n c).v) 33)) 33 18 ((RV.mk f1 e1 b n d).v) _ rfl
  rw [hz] at hY
  have hX := hX.grown gb (by simp)
  have hG := grown_trans ga gb
  have hRx := hRx.grown hG (by simp)
  have hRy := hRy.grown hG (by simp)
  have HG := Lib.hid hG
  have HRX := Lib.hid hRx
  have HRY := Lib.hid hRy
  have HN := Lib.hid (And.intro hn (And.intro hx hy))
  clear ga gb hz hG hRx hRy hn hx hy
  go_enter Try.func31, Try.ntmps31
  go_upto_region 1 with fail
  obtain ⟨B, hB⟩ : ∃ B, B = w.heap.size := ⟨_, rfl⟩
  rw [← hB] at hX hY ⊢
  generalize (w.alloc (.cells (rowOf 18 (RV.mk f1 e1 a n c).v) 33)).alloc (.cells (rowOf 18 (RV.mk f1 e1 b n d).v) 33) = w1 at *
  have cx : w1.cell? ⟨B, 17, none⟩ = some (.slice a n c) := hX.cell 17 (by decide)
  have cy : w1.cell? ⟨B + 1, 17, none⟩ = some (.slice b n d) := hY.cell 17 (by decide)
  have ex : w1.cell? ⟨B, 16, none⟩ = some (.int .u64 e1) := hX.cell 16 (by decide)
  have ey : w1.cell? ⟨B + 1, 16, none⟩ = some (.int .u64 e1) := hY.cell 16 (by decide)
  have HX0 := Lib.hid (hX.load (P := Try.prog) 0 23 16 (fun j => .int .u8 (f1 j)) (by decide) (RV.v_id _) (by kernel_rfl) (by kernel_rfl))
  have HY0 := Lib.hid (hY.load (P := Try.prog) 0 23 16 (fun j => .int .u8 (f1 j)) (by decide) (RV.v_id _) (by kernel_rfl) (by kernel_rfl))
  have HCX := Lib.hid cx
  have HCY := Lib.hid cy
  clear hX hY hB
  go_upto_region 2 with (first | ((with_reducible refine wpList_here ?_); refine wpList_ld (p := .pointer (some ⟨B, 0, none⟩)) 7 ?_ ?_ ?_ HX0.out ?_; (· rfl); go_simp; (· kernel_rfl)) | ((with_reducible refine wpList_here ?_); refine wpList_ld (p := .pointer (some ⟨B + 1, 0, none⟩)) 9 ?_ ?_ ?_ HY0.out ?_; (· rfl); go_simp; (· kernel_rfl)) | ((with_reducible refine wpList_here ?_); refine wpList_want (v := .bool true) (w' := w1) ?_ (exec_eql_id 8 10 _ _ true (self_id f1 w1) rfl rfl rfl) ?_; go_simp))
  clear cx cy ex ey HX0 HY0
  go_wp2_with fail
  go_loopw [5, 6] (fun u5 u6 wr => ∃ i : Nat, i ≤ n ∧ u5 = .bool true ∧ u6 = .int .i64 i ∧ w1.grownBy wr none) (fun _ u6 _ => n - (intOf u6).toNat)
  case atStart => exact ⟨0, Nat.zero_le _, rfl, rfl, grown_refl _ _⟩
  case round =>
    obtain ⟨i, hi, rfl, rfl, hg⟩ := hrel
    have HGR := Lib.hid hg
    have cx : wr.cell? ⟨B, 17, none⟩ = some (.slice a n c) := hg.cell HCX.out (by simp)
    by_cases hlt : i < n
    · have j1 : (i : Int) < (n : Int) := by omega
      obtain ⟨tx, ox, rfl, htx, hdx⟩ := HRX.out.ex (by omega)
      obtain ⟨ty, oy, rfl, hty, hdy⟩ := HRY.out.ex (by omega)
      have HLT := Lib.hid hlt
      have HDX : Hid (∀ i j, i < n → j < 2 → wr.cell? ⟨tx, ox + i * 2 + j, none⟩ = some (.int .u8 (fm i j))) := Lib.hid fun i j hi hj => by rw [Nat.add_assoc]; exact hg.cell (hdx i j hi hj) (by simp)
      have HDY : Hid (∀ i j, i < n → j < 2 → wr.cell? ⟨ty, oy + i * 2 + j, none⟩ = some (.int .u8 (fm i j))) := Lib.hid fun i j hi hj => by rw [Nat.add_assoc]; exact hg.cell (hdy i j hi hj) (by simp)
      have HCX : Hid (wr.cell? ⟨B, 17, none⟩ = some (.slice (some ⟨tx, ox, none⟩) n c)) := Lib.hid (hg.cell HCX.out (by simp))
      have HCY : Hid (wr.cell? ⟨B + 1, 17, none⟩ = some (.slice (some ⟨ty, oy, none⟩) n d)) := Lib.hid (hg.cell HCY.out (by simp))
      clear hlt hdx hdy hi hg
      go_upto_region 5 with fail
      clear cx
      refine wp_region_plainR ?_
      refine wp_region_held (S := fun W => wr.grownBy W none) (by kernel_rfl) ?_
      change wpAnyH _ _ _ _ _ 12 #[false, false, false, false, false, false, false, false, false, false, false, false] _ (World.drew _)
      have gq := grown_drew (grown_refl wr none)
      generalize World.drew wr = q at *
      refine wpAnyH_takeD (some 38) (i := 0) (v := (.pointer (some ⟨B, 17, none⟩))) rfl rfl (by kernel_rfl) (by kernel_rfl) (by kernel_rfl) (fun _ _ _ h => absurd h.1 (by simp)) (Or.inl ⟨rfl, fun _ _ => by go_simp⟩) gq ?_
      simp only [Act.put, List.setIfInBounds_toArray, List.set_cons_succ, List.set_cons_zero]
      refine wpAnyH_takeD (some 39) (i := 1) (v := (.slice (some ⟨tx, ox, none⟩) n c)) rfl rfl (by kernel_rfl) (by kernel_rfl) (by kernel_rfl) (fun _ _ _ h => absurd h.1 (by simp)) (Or.inl ⟨rfl, fun W hW => by have cc : W.cell? ⟨B, 17, none⟩ = some (.slice (some ⟨tx, ox, none⟩) n c) := hW.cell HCX.out (by simp); go_simp⟩) gq ?_
      simp only [Act.put, List.setIfInBounds_toArray, List.set_cons_succ, List.set_cons_zero]
      refine wpAnyH_takeD (some 40) (i := 2) (v := (.int .i64 (i : Nat))) rfl rfl (by kernel_rfl) (by kernel_rfl) (by kernel_rfl) (fun _ _ _ h => absurd h.1 (by simp)) (Or.inl ⟨rfl, fun _ _ => rfl⟩) gq ?_
      simp only [Act.put, List.setIfInBounds_toArray, List.set_cons_succ, List.set_cons_zero]
      refine wpAnyH_takeD (some 41) (i := 3) (v := (.pointer (some ⟨tx, ox + i * 2, none⟩))) rfl rfl (by kernel_rfl) (by kernel_rfl) (by kernel_rfl) (fun _ _ _ h => absurd h.1 (by simp)) (Or.inl ⟨rfl, fun _ _ => by go_simp⟩) gq ?_
      simp only [Act.put, List.setIfInBounds_toArray, List.set_cons_succ, List.set_cons_zero]
      refine wpAnyH_takeD (some 42) (i := 4) (v := (.agg (cellsOf .u8 2 (fm i)))) rfl rfl (by kernel_rfl) (by kernel_rfl) (by kernel_rfl) (fun _ _ _ h => absurd h.1 (by simp)) (Or.inl ⟨rfl, fun W hW => exec_loadQ (.tmp 41) _ _ rfl rfl (load_devQ (hW.cell (HDX.out i 0 HLT.out (by decide)) (by simp)) (hW.cell (HDX.out i 1 HLT.out (by decide)) (by simp)))⟩) gq ?_
      simp only [Act.put, List.setIfInBounds_toArray, List.set_cons_succ, List.set_cons_zero]
      refine wpAnyH_takeD (some 43) (i := 5) (v := (.pointer (some ⟨B + 1, 17, none⟩))) rfl rfl (by kernel_rfl) (by kernel_rfl) (by kernel_rfl) (fun _ _ _ h => absurd h.1 (by simp)) (Or.inl ⟨rfl, fun _ _ => by go_simp⟩) gq ?_
      simp only [Act.put, List.setIfInBounds_toArray, List.set_cons_succ, List.set_cons_zero]
      refine wpAnyH_takeD (some 44) (i := 6) (v := (.slice (some ⟨ty, oy, none⟩) n d)) rfl rfl (by kernel_rfl) (by kernel_rfl) (by kernel_rfl) (fun _ _ _ h => absurd h.1 (by simp)) (Or.inl ⟨rfl, fun W hW => by have cc : W.cell? ⟨B + 1, 17, none⟩ = some (.slice (some ⟨ty, oy, none⟩) n d) := hW.cell HCY.out (by simp); go_simp⟩) gq ?_
      simp only [Act.put, List.setIfInBounds_toArray, List.set_cons_succ, List.set_cons_zero]
      refine wpAnyH_takeD (some 45) (i := 7) (v := (.int .i64 (i : Nat))) rfl rfl (by kernel_rfl) (by kernel_rfl) (by kernel_rfl) (fun _ _ _ h => absurd h.1 (by simp)) (Or.inl ⟨rfl, fun _ _ => rfl⟩) gq ?_
      simp only [Act.put, List.setIfInBounds_toArray, List.set_cons_succ, List.set_cons_zero]
      refine wpAnyH_takeD (some 46) (i := 8) (v := (.pointer (some ⟨ty, oy + i * 2, none⟩))) rfl rfl (by kernel_rfl) (by kernel_rfl) (by kernel_rfl) (fun _ _ _ h => absurd h.1 (by simp)) (Or.inl ⟨rfl, fun _ _ => by go_simp⟩) gq ?_
      simp only [Act.put, List.setIfInBounds_toArray, List.set_cons_succ, List.set_cons_zero]
      refine wpAnyH_takeD (some 47) (i := 9) (v := (.agg (cellsOf .u8 2 (fm i)))) rfl rfl (by kernel_rfl) (by kernel_rfl) (by kernel_rfl) (fun _ _ _ h => absurd h.1 (by simp)) (Or.inl ⟨rfl, fun W hW => exec_loadQ (.tmp 46) _ _ rfl rfl (load_devQ (hW.cell (HDY.out i 0 HLT.out (by decide)) (by simp)) (hW.cell (HDY.out i 1 HLT.out (by decide)) (by simp)))⟩) gq ?_
      simp only [Act.put, List.setIfInBounds_toArray, List.set_cons_succ, List.set_cons_zero]
      refine wpAnyH_takeD (some 48) (i := 10) (v := (.bool true)) rfl rfl (by kernel_rfl) (by kernel_rfl) (by kernel_rfl) (fun _ _ _ h => absurd h.1 (by simp)) (Or.inl ⟨rfl, fun W _ => exec_eql_dev 42 47 _ _ true (self_dev (fm i) W) rfl rfl rfl⟩) gq ?_
      simp only [Act.put, List.setIfInBounds_toArray, List.set_cons_succ, List.set_cons_zero]
      refine wpAnyH_takeD (some 5) (i := 11) (v := (.bool true)) rfl rfl (by kernel_rfl) (by kernel_rfl) (by kernel_rfl) (fun _ _ _ h => absurd h.1 (by simp)) (Or.inl ⟨rfl, fun _ _ => rfl⟩) gq ?_
      simp only [Act.put, List.setIfInBounds_toArray, List.set_cons_succ, List.set_cons_zero]
      refine wpAnyH_done (by kernel_rfl) ?_ _
      have HGQ := Lib.hid (grown_trans HGR.out gq)
      clear gq
      refine ⟨rfl, ?_⟩
      have kk : (i : Int) < 1048576 := by have := HLT.out; have := HN.out.1; omega
      go_wp2_with fail
      go_roundw
      case rel => exact ⟨i + 1, HLT.out, rfl, by go_num, HGQ.out⟩
      case measure =>
        have := HLT.out
        simp [intOf]
        try omega
    · obtain rfl : i = n := by omega
      have j1 : ¬ (i : Int) < (i : Int) := by omega
      clear hlt hi hg
      go_wp2_with fail
      go_ret
      exact ⟨rfl, grown_trans HG.out HGR.out⟩
end Go.Proofs.Ytdagbighlgfhjaa
namespace Go.Proofs.Ytdagbighlgfhjaa
open Go.RowKit

set_option maxRecDepth 100000

theorem hdr_val (L : Nat) (F : Nat → Nat) : (if hOk L = true then gd.hdr L F else HV.zero) = hdrOf L F := rfl
theorem pVal (L : Nat) (F : Nat → Nat) (a : Option Addr) (c : Nat) (h : pOk2 L F = true) : rowOf 21 (gd.pkt L F a c).v = rowOf 21 (pkt2 L F a c).v := by
  obtain ⟨h1, h2⟩ := pOk_at L F h
  have hg : (gd.pktB L).ok2 = true := by rw [h1]; rfl
  have e3 : (gd.pkt L F a c).nb = (pkt2 L F a c).nb := by show gd.pktL L F = _; rw [h2, pktN_eq]; rfl
  refine rowOf_congr fun i hi => ?_
  unfold PV.v
  rw [e3, pkt_id L F a c]
  repeat' split
  all_goals first | rfl | exact congrArg (fun q : Nat => Value.int .u8 (q : Int)) (pkt_fr L F a c hg _ (by omega)) | exact congrArg (fun q : Nat => Value.int .u8 (q : Int)) (pkt_tw L F a c hg _ (by omega))
theorem eVal (L : Nat) (F : Nat → Nat) (a : Option Addr) (c : Nat) (h : eOk2 L F = true) : rowOf 106 (gd.env L F a c).v = rowOf 106 (env2 L F a c).v := by
  obtain ⟨_, h2, hg⟩ := eOk_at L F h
  have e3 : (gd.env L F a c).nb = (env2 L F a c).nb := by show gd.envL L F = _; rw [h2, envH_eq]; rfl
  obtain ⟨q1, q2, q3⟩ := env_has L F a c
  refine rowOf_congr fun i hi => ?_
  unfold EV.v
  rw [e3, q1, q2, q3]
  repeat' split
  all_goals first | rfl | exact congrArg (fun q : Nat => Value.int .u8 (q : Int)) (env_fr L F a c hg _ (by omega)) | exact congrArg (fun q : Nat => Value.int .u8 (q : Int)) (env_tw L F a c hg _ (by omega))
theorem rVal (L : Nat) (F : Nat → Nat) (a : Option Addr) (c : Nat) (h : rOk2 L F = true) : rowOf 18 (gd.ros L F a c).v = rowOf 18 (ros2 L F a c).v := by
  obtain ⟨h1, _, _⟩ := rOk_at L F h
  have e3 : (gd.ros L F a c).nm = (ros2 L F a c).nm := by show gd.rosL L F = _; rw [h1]; rfl
  refine rowOf_congr fun i hi => ?_
  unfold RV.v
  rw [e3]
  repeat' split
  all_goals rfl
theorem tPkt2_any (D L c : Nat) (a : Option Addr) (F : Nat → Nat) (w : World) (hR : Rd w D a L F) (hF : ∀ i, F i < 256) (hL : L ≤ 2 ^ 46) :
    Calls Try.prog 37 #[.agg (rowOf 3 codPkt), .slice a L c] w fun e w' => ∃ a2 c2, e = .returned (.tuple #[.agg (rowOf 21 (if pOk2 L F = true then pkt2 L F a2 c2 else PV.zero).v), .int .i64 (errT (pOk2 L F))]) ∧ (pOk2 L F = true → OwnN w' w.heap.size (.slice a2 (((((ISt.good 0).take L 2).take L 2).take L ((16 : Nat) : Int)).num L F 4) c2) (((((ISt.good 0).take L 2).take L 2).take L ((16 : Nat) : Int)).num L F 4) (fun i => F ((L - ((((ISt.good 0).take L 2).take L 2).take L ((16 : Nat) : Int)).num L F 4) + i))) ∧ w.grownBy w' none := by
  refine (tPkt_any D L c a F w hR hF hL).mono fun e w' hs => ?_
  obtain ⟨a2, c2, he, ho, hg⟩ := hs
  refine ⟨a2, c2, ?_, fun hk => ?_, hg⟩
  · rw [he, pOk_eq]
    cases hk : pOk2 L F with
    | false => rfl
    | true => rw [if_pos rfl, if_pos rfl, pVal L F a2 c2 hk]
  · obtain ⟨h1, h2⟩ := pOk_at L F hk
    rw [h2, h1, pktN_eq] at ho
    exact ho
theorem tEnv2_any (D L c : Nat) (a : Option Addr) (F : Nat → Nat) (w : World) (hR : Rd w D a L F) (hF : ∀ i, F i < 256) (hL : L ≤ 2 ^ 46) :
    Calls Try.prog 34 #[.agg (rowOf 3 codEnv), .slice a L c] w fun e w' => ∃ a2 c2, e = .returned (.tuple #[.agg (rowOf 106 (if eOk2 L F = true then env2 L F a2 c2 else EV.zero).v), .int .i64 (errT (eOk2 L F))]) ∧ (eOk2 L F = true → OwnN w' w.heap.size (.slice a2 ((((((ISt.good 0).take L 2).take L 2).setS L F).hdrS L).num L F 2) c2) ((((((ISt.good 0).take L 2).take L 2).setS L F).hdrS L).num L F 2) (fun i => F ((L - (((((ISt.good 0).take L 2).take L 2).setS L F).hdrS L).num L F 2) + i))) ∧ w.grownBy w' none := by
  refine (tEnv_any D L c a F w hR hF hL).mono fun e w' hs => ?_
  obtain ⟨a2, c2, he, ho, hg⟩ := hs
  refine ⟨a2, c2, ?_, fun hk => ?_, hg⟩
  · rw [he, eOk_eq]
    cases hk : eOk2 L F with
    | false => rfl
    | true => rw [if_pos rfl, if_pos rfl, eVal L F a2 c2 hk]
  · obtain ⟨h1, h2, _⟩ := eOk_at L F hk
    rw [h2, h1, envH_eq] at ho
    exact ho
theorem tRos2_any (D L c : Nat) (a : Option Addr) (F : Nat → Nat) (w : World) (hR : Rd w D a L F) (hF : ∀ i, F i < 256) (hL : L ≤ 2 ^ 46) :
    Calls Try.prog 29 #[.agg (rowOf 3 codRos), .slice a L c] w fun e w' => ∃ a2 c2, e = .returned (.tuple #[.agg (rowOf 18 (if rOk2 L F = true then ros2 L F a2 c2 else RV.zero).v), .int .i64 (errT (rOk2 L F))]) ∧ (rOk2 L F = true → OwnNE w' w.heap.size 2 (.slice a2 ((((ISt.good 0).take L ((16 : Nat) : Int)).take L ((8 : Nat) : Int)).num L F 2) c2) ((((ISt.good 0).take L ((16 : Nat) : Int)).take L ((8 : Nat) : Int)).num L F 2) (fun q j => .int .u8 ((((((ISt.good 0).take L ((16 : Nat) : Int)).take L ((8 : Nat) : Int)).take L ((2 : Nat) : Int)).dv2 L q).cF L F 2 j))) ∧ w.grownBy w' none := by
  refine (tRos_any D L c a F w hR hF hL).mono fun e w' hs => ?_
  obtain ⟨a2, c2, he, ho, hg⟩ := hs
  refine ⟨a2, c2, ?_, fun hk => ?_, hg⟩
  · rw [he, rOk_eq]
    cases hk : rOk2 L F with
    | false => rfl
    | true => rw [if_pos rfl, if_pos rfl, rVal L F a2 c2 hk]
  · obtain ⟨h1, _, h3⟩ := rOk_at L F hk
    rw [h1] at ho
    exact ho.congrE fun q j hq hj => by rw [h3 q hq j hj]; rfl
theorem samePkt2_any (L c2 c3 : Nat) (a2 a3 : Option Addr) (F : Nat → Nat) (w : World) (hF : ∀ i, F i < 256) (h1 : pOk2 L F = true → ∃ D, Rd w D a2 (((((ISt.good 0).take L 2).take L 2).take L ((16 : Nat) : Int)).num L F 4) (fun i => F ((L - ((((ISt.good 0).take L 2).take L 2).take L ((16 : Nat) : Int)).num L F 4) + i))) (h2 : pOk2 L F = true → ∃ D, Rd w D a3 (((((ISt.good 0).take L 2).take L 2).take L ((16 : Nat) : Int)).num L F 4) (fun i => F ((L - ((((ISt.good 0).take L 2).take L 2).take L ((16 : Nat) : Int)).num L F 4) + i))) :
    Calls Try.prog 39 #[.agg (rowOf 21 (if pOk2 L F = true then pkt2 L F a2 c2 else PV.zero).v), .agg (rowOf 21 (if pOk2 L F = true then pkt2 L F a3 c3 else PV.zero).v)] w fun e w' => e = .returned (.bool true) ∧ w.grownBy w' none := by
  cases hk : pOk2 L F with
  | true =>
    rw [if_pos rfl, if_pos rfl]
    obtain ⟨D1, r1⟩ := h1 hk
    obtain ⟨D2, r2⟩ := h2 hk
    exact samePkt_any w (fun i => hF _) r1 r2
  | false =>
    rw [if_neg (by decide), if_neg (by decide)]
    exact samePkt_any (f := fun _ => 0) (D1 := 0) (D2 := 0) w (fun _ => by decide) ⟨fun h => absurd h (by decide)⟩ ⟨fun h => absurd h (by decide)⟩
theorem sameEnv2_any (L c2 c3 : Nat) (a2 a3 : Option Addr) (F : Nat → Nat) (w : World) (hF : ∀ i, F i < 256) (h1 : eOk2 L F = true → ∃ D, Rd w D a2 ((((((ISt.good 0).take L 2).take L 2).setS L F).hdrS L).num L F 2) (fun i => F ((L - (((((ISt.good 0).take L 2).take L 2).setS L F).hdrS L).num L F 2) + i))) (h2 : eOk2 L F = true → ∃ D, Rd w D a3 ((((((ISt.good 0).take L 2).take L 2).setS L F).hdrS L).num L F 2) (fun i => F ((L - (((((ISt.good 0).take L 2).take L 2).setS L F).hdrS L).num L F 2) + i))) :
    Calls Try.prog 36 #[.agg (rowOf 106 (if eOk2 L F = true then env2 L F a2 c2 else EV.zero).v), .agg (rowOf 106 (if eOk2 L F = true then env2 L F a3 c3 else EV.zero).v)] w fun e w' => e = .returned (.bool true) ∧ w.grownBy w' none := by
  cases hk : eOk2 L F with
  | true =>
    rw [if_pos rfl, if_pos rfl]
    obtain ⟨D1, r1⟩ := h1 hk
    obtain ⟨D2, r2⟩ := h2 hk
    exact sameEnv_any w (fun i => hF _) r1 r2
  | false =>
    rw [if_neg (by decide), if_neg (by decide)]
    exact sameEnv_any (f := fun _ => 0) (D1 := 0) (D2 := 0) w (fun _ => by decide) ⟨fun h => absurd h (by decide)⟩ ⟨fun h => absurd h (by decide)⟩
theorem sameRos2_any (L c2 c3 : Nat) (a2 a3 : Option Addr) (F : Nat → Nat) (w : World) (h1 : rOk2 L F = true → ∃ D, RdD w D a2 ((((ISt.good 0).take L ((16 : Nat) : Int)).take L ((8 : Nat) : Int)).num L F 2) (fun q => (((((ISt.good 0).take L ((16 : Nat) : Int)).take L ((8 : Nat) : Int)).take L ((2 : Nat) : Int)).dv2 L q).cF L F 2) ∧ (((ISt.good 0).take L ((16 : Nat) : Int)).take L ((8 : Nat) : Int)).num L F 2 ≤ c2) (h2 : rOk2 L F = true → ∃ D, RdD w D a3 ((((ISt.good 0).take L ((16 : Nat) : Int)).take L ((8 : Nat) : Int)).num L F 2) (fun q => (((((ISt.good 0).take L ((16 : Nat) : Int)).take L ((8 : Nat) : Int)).take L ((2 : Nat) : Int)).dv2 L q).cF L F 2) ∧ (((ISt.good 0).take L ((16 : Nat) : Int)).take L ((8 : Nat) : Int)).num L F 2 ≤ c3) :
    Calls Try.prog 31 #[.agg (rowOf 18 (if rOk2 L F = true then ros2 L F a2 c2 else RV.zero).v), .agg (rowOf 18 (if rOk2 L F = true then ros2 L F a3 c3 else RV.zero).v)] w fun e w' => e = .returned (.bool true) ∧ w.grownBy w' none := by
  cases hk : rOk2 L F with
  | true =>
    rw [if_pos rfl, if_pos rfl]
    obtain ⟨D1, r1, k1⟩ := h1 hk
    obtain ⟨D2, r2, k2⟩ := h2 hk
    obtain ⟨_, h32, _⟩ := rOk_at L F hk
    exact sameRos_any w (by have : (((ISt.good 0).take L ((16 : Nat) : Int)).take L ((8 : Nat) : Int)).num L F 2 ≤ 32 := h32; omega) k1 k2 r1 r2
  | false =>
    rw [if_neg (by decide), if_neg (by decide)]
    exact sameRos_any (fm := fun _ _ => 0) (D1 := 0) (D2 := 0) w (Nat.zero_le _) (Nat.le_refl _) (Nat.le_refl _) ⟨fun h => absurd h (by decide)⟩ ⟨fun h => absurd h (by decide)⟩
end Go.Proofs.Ytdagbighlgfhjaa
namespace Go.Proofs.Ytdagbighlgfhjaa
open Go.RowKit

set_option maxRecDepth 100000
set_option maxHeartbeats 4000000

theorem own_leE {w : World} {base sz n c : Nat} {a : Option Addr} {ev : Nat → Nat → Value} (h : OwnNE w base sz (.slice a n c) n ev) : n ≤ c := by
  rcases h.ex with ⟨h1, rfl⟩ | ⟨g, cap, h1, h2, _⟩
  · exact Nat.zero_le _
  · cases h1; exact h2.le
theorem DistTakes_any (L c : Nat) (a : Option Addr) (F : Nat → Nat) (w : World) (hR : Rd w w.heap.size a L F) (hc : L ≤ c) (_hn : L ≤ 140737488355328) (hF : ∀ i, F i < 256) :
    Calls Try.prog 4 #[.slice a L c] w fun e w' => e = .returned (.bool true) ∧ w.grownBy w' none := by
  have HR := Lib.hid hR
  have HC := Lib.hid hc
  have HF := Lib.hid hF
  clear hR hc hF
  by_cases hb : 20000 < L
  · have j0 : (20000 : Int) < (L : Int) := by omega
    have HW := Lib.hid (works_any w)
    clear hb
    go_enter Try.func4, Try.ntmps4
    go_wp2_with fail
    go_at_call 11
    refine HW.out.mono ?_
    rintro e w1 ⟨rfl, g⟩
    have HG := Lib.hid g
    clear g HW
    go_wp2_with fail
    go_ret
    exact ⟨rfl, HG.out⟩
  have j0 : ¬ (20000 : Int) < (L : Int) := by omega
  have HL := Lib.hid (Nat.le_of_not_lt hb)
  clear hb _hn
  go_enter Try.func4, Try.ntmps4
  go_upto_region 3 with fail
  clear j0
  have HG1 : Hid (w.grownBy w none) := Lib.hid (grown_refl _ _)
  have HCO := Lib.hid (codDist_any w)
  go_wp2_with fail
  go_at_call 14
  refine HCO.out.mono ?_
  rintro e w2 ⟨rfl, g⟩
  have HG2 := Lib.hid (grown_trans HG1.out g)
  clear g HCO HG1
  have hT := tDist_any w.heap.size L c a F w2 (HR.out.grown HG2.out (by simp)) HF.out (by have := HL.out; omega)
  rw [dVal_eq, dOk_eq] at hT
  have HT := Lib.hid hT
  clear hT
  go_wp2_with fail
  go_at_call 27
  refine HT.out.mono ?_
  rintro e w3 ⟨rfl, g⟩
  have HG3 := Lib.hid (grown_trans HG2.out g)
  clear g HT HG2
  obtain ⟨x, hx⟩ : ∃ v, v = (distOf L F).v := ⟨_, rfl⟩
  rw [← hx]
  have Hx1 : Hid (∀ j, (x j).oneCell' = true) := Lib.hid fun j => by rw [hx]; exact DV.one _ j
  have Hx2 := Lib.hid hx
  clear hx
  obtain ⟨er, her⟩ : ∃ e, e = errT (distOk L F) := ⟨_, rfl⟩
  rw [← her]
  have HER := Lib.hid her
  clear her
  have hN := RowAt.new w3 30 52 DV.zero.v #[.int .u8 0, .int .u8 0, .int .u8 0, .int .u8 0, .int .u8 0, .int .u8 0, .int .u8 0, .int .u8 0, .int .u8 0, .int .u8 0, .int .u8 0, .int .u8 0, .int .u8 0, .int .u8 0, .int .u8 0, .int .u8 0, .int .u64 0, .int .u8 0, .int .u8 0, .int .u64 0, .int .u8 0, .int .u8 0, .int .u8 0, .int .u8 0, .int .u8 0, .int .u8 0, .int .u8 0, .int .u8 0, .int .u8 0, .int .u8 0, .int .u8 0, .int .u8 0, .int .u8 0, .int .u8 0, .int .u8 0, .int .u8 0, .int .u8 0, .int .u8 0, .int .u8 0, .int .u8 0, .int .u8 0, .int .u8 0, .int .u8 0, .int .u8 0, .int .u8 0, .int .u8 0, .int .u8 0, .int .u8 0, .int .u8 0, .int .u8 0, .int .u8 0, .int .u8 0] (by kernel_rfl)
  obtain ⟨k1, k2⟩ := RowAt.store (P := Try.prog) hN 0 30 52 (x) (by decide) (by kernel_rfl) (fun j _ => Hx1.out j)
  obtain ⟨w4, hw⟩ : ∃ W, W = (w3.alloc (.cells #[.int .u8 0, .int .u8 0, .int .u8 0, .int .u8 0, .int .u8 0, .int .u8 0, .int .u8 0, .int .u8 0, .int .u8 0, .int .u8 0, .int .u8 0, .int .u8 0, .int .u8 0, .int .u8 0, .int .u8 0, .int .u8 0, .int .u64 0, .int .u8 0, .int .u8 0, .int .u64 0, .int .u8 0, .int .u8 0, .int .u8 0, .int .u8 0, .int .u8 0, .int .u8 0, .int .u8 0, .int .u8 0, .int .u8 0, .int .u8 0, .int .u8 0, .int .u8 0, .int .u8 0, .int .u8 0, .int .u8 0, .int .u8 0, .int .u8 0, .int .u8 0, .int .u8 0, .int .u8 0, .int .u8 0, .int .u8 0, .int .u8 0, .int .u8 0, .int .u8 0, .int .u8 0, .int .u8 0, .int .u8 0, .int .u8 0, .int .u8 0, .int .u8 0, .int .u8 0] 30)).setCells w3.heap.size 0 (rowOf 52 (x)).toList := ⟨_, rfl⟩
  have g2 : w3.grownBy w4 none := by rw [hw]; exact grown_setCells w3.heap.size (Or.inl (Nat.le_refl _)) _ 0 _ (World.grownBy_alloc w3 _ none)
  rw [← hw] at k1 k2
  have HxX := Lib.hid (k2.congr (v' := x) fun i hi => by rw [if_pos ⟨Nat.zero_le _, by omega⟩, Nat.sub_zero])
  obtain ⟨xb, hb⟩ : ∃ b, b = w3.heap.size := ⟨_, rfl⟩
  rw [← hb] at k1 HxX
  have HXB := Lib.hid hb
  have HS := Lib.hid k1
  have HG4 := Lib.hid (grown_trans HG3.out g2)
  have HG2 := Lib.hid g2
  clear hN k1 k2 hw g2 hb HG3
  go_upto_region 4 with (first | ((with_reducible refine wpList_here ?_); refine wpList_st (T := 30) (p := .pointer (some ⟨w3.heap.size, 0, none⟩)) (v := .agg (rowOf 52 (x))) (.tmp 3) (.tmp 23) ?_ ?_ ?_ ?_ ?_ (by rw [← HXB.out]; exact HS.out) ?_; (· rfl); (· rfl); go_simp; (· kernel_rfl); (· kernel_rfl)))
  rw [← HXB.out]
  clear HS HXB
  clear HG2
  have HT := Lib.hid (refTakeDist_any L c a F w4 ((HR.out.grown HG4.out (by simp)).mono HG4.out.size) HC.out (by have := HL.out; omega) HF.out)
  go_wp2_with fail
  go_at_call 28
  refine HT.out.mono ?_
  rintro e w5 ⟨rfl, g⟩
  have HG5 := Lib.hid (grown_trans HG4.out g)
  have HxX := Lib.hid (HxX.out.grown g (by simp))
  clear g HT HG4
  obtain ⟨ok, hok⟩ : ∃ b, b = distOk L F := ⟨_, rfl⟩
  obtain ⟨y, hy⟩ : ∃ v, v = (distOf L F).v := ⟨_, rfl⟩
  rw [← hy, ← hok]
  have Hy1 : Hid (∀ j, (y j).oneCell' = true) := Lib.hid fun j => by rw [hy]; exact DV.one _ j
  have Hy2 := Lib.hid hy
  have HOK := Lib.hid hok
  clear hy hok
  have hN := RowAt.new w5 30 52 DV.zero.v #[.int .u8 0, .int .u8 0, .int .u8 0, .int .u8 0, .int .u8 0, .int .u8 0, .int .u8 0, .int .u8 0, .int .u8 0, .int .u8 0, .int .u8 0, .int .u8 0, .int .u8 0, .int .u8 0, .int .u8 0, .int .u8 0, .int .u64 0, .int .u8 0, .int .u8 0, .int .u64 0, .int .u8 0, .int .u8 0, .int .u8 0, .int .u8 0, .int .u8 0, .int .u8 0, .int .u8 0, .int .u8 0, .int .u8 0, .int .u8 0, .int .u8 0, .int .u8 0, .int .u8 0, .int .u8 0, .int .u8 0, .int .u8 0, .int .u8 0, .int .u8 0, .int .u8 0, .int .u8 0, .int .u8 0, .int .u8 0, .int .u8 0, .int .u8 0, .int .u8 0, .int .u8 0, .int .u8 0, .int .u8 0, .int .u8 0, .int .u8 0, .int .u8 0, .int .u8 0] (by kernel_rfl)
  obtain ⟨k1, k2⟩ := RowAt.store (P := Try.prog) hN 0 30 52 (y) (by decide) (by kernel_rfl) (fun j _ => Hy1.out j)
  obtain ⟨w6, hw⟩ : ∃ W, W = (w5.alloc (.cells #[.int .u8 0, .int .u8 0, .int .u8 0, .int .u8 0, .int .u8 0, .int .u8 0, .int .u8 0, .int .u8 0, .int .u8 0, .int .u8 0, .int .u8 0, .int .u8 0, .int .u8 0, .int .u8 0, .int .u8 0, .int .u8 0, .int .u64 0, .int .u8 0, .int .u8 0, .int .u64 0, .int .u8 0, .int .u8 0, .int .u8 0, .int .u8 0, .int .u8 0, .int .u8 0, .int .u8 0, .int .u8 0, .int .u8 0, .int .u8 0, .int .u8 0, .int .u8 0, .int .u8 0, .int .u8 0, .int .u8 0, .int .u8 0, .int .u8 0, .int .u8 0, .int .u8 0, .int .u8 0, .int .u8 0, .int .u8 0, .int .u8 0, .int .u8 0, .int .u8 0, .int .u8 0, .int .u8 0, .int .u8 0, .int .u8 0, .int .u8 0, .int .u8 0, .int .u8 0] 30)).setCells w5.heap.size 0 (rowOf 52 (y)).toList := ⟨_, rfl⟩
  have g2 : w5.grownBy w6 none := by rw [hw]; exact grown_setCells w5.heap.size (Or.inl (Nat.le_refl _)) _ 0 _ (World.grownBy_alloc w5 _ none)
  rw [← hw] at k1 k2
  have HyX := Lib.hid (k2.congr (v' := y) fun i hi => by rw [if_pos ⟨Nat.zero_le _, by omega⟩, Nat.sub_zero])
  obtain ⟨yb, hb⟩ : ∃ b, b = w5.heap.size := ⟨_, rfl⟩
  rw [← hb] at k1 HyX
  have HXB := Lib.hid hb
  have HS := Lib.hid k1
  have HG6 := Lib.hid (grown_trans HG5.out g2)
  have HG2 := Lib.hid g2
  clear hN k1 k2 hw g2 hb HG5
  go_upto_region 5 with (first | ((with_reducible refine wpList_here ?_); refine wpList_st (T := 30) (p := .pointer (some ⟨w5.heap.size, 0, none⟩)) (v := .agg (rowOf 52 (y))) (.tmp 5) (.tmp 28) ?_ ?_ ?_ ?_ ?_ (by rw [← HXB.out]; exact HS.out) ?_; (· rfl); (· rfl); go_simp; (· kernel_rfl); (· kernel_rfl)))
  rw [← HXB.out]
  clear HS HXB
  have HxX := Lib.hid (HxX.out.grown HG2.out (by simp))
  clear HG2
  have HLX := Lib.hid (HxX.out.load (P := Try.prog) 0 30 52 x (by decide) (fun j _ => by rw [Nat.zero_add]) (by kernel_rfl) (by kernel_rfl))
  have HLY := Lib.hid (HyX.out.load (P := Try.prog) 0 30 52 y (by decide) (fun j _ => by rw [Nat.zero_add]) (by kernel_rfl) (by kernel_rfl))
  clear HxX HyX Hx1 Hy1
  have hxy : x = y := by rw [Hx2.out, Hy2.out]
  subst hxy
  have HSF : Hid (∀ W, (Op.equalIn 10000 30 (.agg (rowOf 52 x)) (.agg (rowOf 52 x))).run Try.prog W = .ok true W) := Lib.hid fun W => by rw [Hx2.out]; exact self_dist _ W
  go_cut [46] (fun s w7 => s = .bool false ∧ w.grownBy w7 none)
  case first =>
    cases ok with
    | false =>
      have he : er = 9 := by rw [HER.out, ← HOK.out]; rfl
      subst he
      go_wp2_with (first | ((with_reducible refine wpList_here ?_); refine wpList_ld (p := .pointer (some ⟨xb, 0, none⟩)) 3 ?_ ?_ ?_ HLX.out ?_; (· rfl); go_simp; (· kernel_rfl)) | ((with_reducible refine wpList_here ?_); refine wpList_ld (p := .pointer (some ⟨yb, 0, none⟩)) 5 ?_ ?_ ?_ HLY.out ?_; (· rfl); go_simp; (· kernel_rfl)) | ((with_reducible refine wpList_here ?_); refine wpList_want (v := .bool false) (w' := w6) ?_ (exec_neq_dist 30 31 _ _ true (HSF.out w6) rfl rfl rfl) ?_; go_simp))
      go_meet
      case rel => exact ⟨rfl, HG6.out⟩
    | true =>
      have he : er = 0 := by rw [HER.out, ← HOK.out]; rfl
      subst he
      go_wp2_with (first | ((with_reducible refine wpList_here ?_); refine wpList_ld (p := .pointer (some ⟨xb, 0, none⟩)) 3 ?_ ?_ ?_ HLX.out ?_; (· rfl); go_simp; (· kernel_rfl)) | ((with_reducible refine wpList_here ?_); refine wpList_ld (p := .pointer (some ⟨yb, 0, none⟩)) 5 ?_ ?_ ?_ HLY.out ?_; (· rfl); go_simp; (· kernel_rfl)) | ((with_reducible refine wpList_here ?_); refine wpList_want (v := .bool false) (w' := w6) ?_ (exec_neq_dist 30 31 _ _ true (HSF.out w6) rfl rfl rfl) ?_; go_simp))
      go_meet
      case rel => exact ⟨rfl, HG6.out⟩
  case rest =>
  clear HLX HLY HER HOK Hx2 Hy2 HSF HG6
  obtain ⟨rfl, hG⟩ := hcut
  generalize wc = w7 at *
  have HG7 := Lib.hid hG
  clear hG
  go_upto_region 7 with fail
  have HCO := Lib.hid (codRos_any w7)
  go_wp2_with fail
  go_at_call 20
  refine HCO.out.mono ?_
  rintro e w8 ⟨rfl, g⟩
  have HG8 := Lib.hid (grown_trans HG7.out g)
  clear g HCO HG7
  have hT := tRos2_any w.heap.size L c a F w8 (HR.out.grown HG8.out (by simp)) HF.out (by have := HL.out; omega)
  have HT := Lib.hid hT
  clear hT
  go_wp2_with fail
  go_at_call 29
  refine HT.out.mono ?_
  rintro e w9 ⟨a2, c2, rfl, hO, g⟩
  have HO1 := Lib.hid hO
  clear hO
  have HG9 := Lib.hid (grown_trans HG8.out g)
  clear g HT HG8
  obtain ⟨x, hx⟩ : ∃ v, v = (if rOk2 L F = true then ros2 L F a2 c2 else RV.zero).v := ⟨_, rfl⟩
  rw [← hx]
  have Hx1 : Hid (∀ j, (x j).oneCell' = true) := Lib.hid fun j => by rw [hx]; exact RV.one _ j
  have Hx2 := Lib.hid hx
  clear hx
  obtain ⟨er, her⟩ : ∃ e, e = errT (rOk2 L F) := ⟨_, rfl⟩
  rw [← her]
  have HER := Lib.hid her
  clear her
  have hN := RowAt.new w9 33 18 RV.zero.v #[.int .u8 0, .int .u8 0, .int .u8 0, .int .u8 0, .int .u8 0, .int .u8 0, .int .u8 0, .int .u8 0, .int .u8 0, .int .u8 0, .int .u8 0, .int .u8 0, .int .u8 0, .int .u8 0, .int .u8 0, .int .u8 0, .int .u64 0, .slice none 0 0] (by kernel_rfl)
  obtain ⟨k1, k2⟩ := RowAt.store (P := Try.prog) hN 0 33 18 (x) (by decide) (by kernel_rfl) (fun j _ => Hx1.out j)
  obtain ⟨w10, hw⟩ : ∃ W, W = (w9.alloc (.cells #[.int .u8 0, .int .u8 0, .int .u8 0, .int .u8 0, .int .u8 0, .int .u8 0, .int .u8 0, .int .u8 0, .int .u8 0, .int .u8 0, .int .u8 0, .int .u8 0, .int .u8 0, .int .u8 0, .int .u8 0, .int .u8 0, .int .u64 0, .slice none 0 0] 33)).setCells w9.heap.size 0 (rowOf 18 (x)).toList := ⟨_, rfl⟩
  have g2 : w9.grownBy w10 none := by rw [hw]; exact grown_setCells w9.heap.size (Or.inl (Nat.le_refl _)) _ 0 _ (World.grownBy_alloc w9 _ none)
  rw [← hw] at k1 k2
  have HxX := Lib.hid (k2.congr (v' := x) fun i hi => by rw [if_pos ⟨Nat.zero_le _, by omega⟩, Nat.sub_zero])
  obtain ⟨xb, hb⟩ : ∃ b, b = w9.heap.size := ⟨_, rfl⟩
  rw [← hb] at k1 HxX
  have HXB := Lib.hid hb
  have HS := Lib.hid k1
  have HG10 := Lib.hid (grown_trans HG9.out g2)
  have HG2 := Lib.hid g2
  clear hN k1 k2 hw g2 hb HG9
  go_upto_region 8 with (first | ((with_reducible refine wpList_here ?_); refine wpList_st (T := 33) (p := .pointer (some ⟨w9.heap.size, 0, none⟩)) (v := .agg (rowOf 18 (x))) (.tmp 7) (.tmp 51) ?_ ?_ ?_ ?_ ?_ (by rw [← HXB.out]; exact HS.out) ?_; (· rfl); (· rfl); go_simp; (· kernel_rfl); (· kernel_rfl)))
  rw [← HXB.out]
  clear HS HXB
  have HO1 : Hid (rOk2 L F = true → _) := Lib.hid fun h => (HO1.out h).grown HG2.out (by simp)
  clear HG2
  have HT := Lib.hid (refTakeRos_any L c a F w10 ((HR.out.grown HG10.out (by simp)).mono HG10.out.size) HC.out (by have := HL.out; omega) HF.out)
  go_wp2_with fail
  go_at_call 30
  refine HT.out.mono ?_
  rintro e w11 ⟨⟨a3, c3, rfl, hO⟩, g⟩
  have HO2 := Lib.hid hO
  clear hO
  have HG11 := Lib.hid (grown_trans HG10.out g)
  have HxX := Lib.hid (HxX.out.grown g (by simp))
  have HO1 : Hid (rOk2 L F = true → _) := Lib.hid fun h => (HO1.out h).grown g (by simp)
  clear g HT HG10
  obtain ⟨ok, hok⟩ : ∃ b, b = rOk2 L F := ⟨_, rfl⟩
  obtain ⟨y, hy⟩ : ∃ v, v = (if rOk2 L F = true then ros2 L F a3 c3 else RV.zero).v := ⟨_, rfl⟩
  rw [← hy, ← hok]
  have Hy1 : Hid (∀ j, (y j).oneCell' = true) := Lib.hid fun j => by rw [hy]; exact RV.one _ j
  have Hy2 := Lib.hid hy
  have HOK := Lib.hid hok
  clear hy hok
  have hN := RowAt.new w11 33 18 RV.zero.v #[.int .u8 0, .int .u8 0, .int .u8 0, .int .u8 0, .int .u8 0, .int .u8 0, .int .u8 0, .int .u8 0, .int .u8 0, .int .u8 0, .int .u8 0, .int .u8 0, .int .u8 0, .int .u8 0, .int .u8 0, .int .u8 0, .int .u64 0, .slice none 0 0] (by kernel_rfl)
  obtain ⟨k1, k2⟩ := RowAt.store (P := Try.prog) hN 0 33 18 (y) (by decide) (by kernel_rfl) (fun j _ => Hy1.out j)
  obtain ⟨w12, hw⟩ : ∃ W, W = (w11.alloc (.cells #[.int .u8 0, .int .u8 0, .int .u8 0, .int .u8 0, .int .u8 0, .int .u8 0, .int .u8 0, .int .u8 0, .int .u8 0, .int .u8 0, .int .u8 0, .int .u8 0, .int .u8 0, .int .u8 0, .int .u8 0, .int .u8 0, .int .u64 0, .slice none 0 0] 33)).setCells w11.heap.size 0 (rowOf 18 (y)).toList := ⟨_, rfl⟩
  have g2 : w11.grownBy w12 none := by rw [hw]; exact grown_setCells w11.heap.size (Or.inl (Nat.le_refl _)) _ 0 _ (World.grownBy_alloc w11 _ none)
  rw [← hw] at k1 k2
  have HyX := Lib.hid (k2.congr (v' := y) fun i hi => by rw [if_pos ⟨Nat.zero_le _, by omega⟩, Nat.sub_zero])
  obtain ⟨yb, hb⟩ : ∃ b, b = w11.heap.size := ⟨_, rfl⟩
  rw [← hb] at k1 HyX
  have HXB := Lib.hid hb
  have HS := Lib.hid k1
  have HG12 := Lib.hid (grown_trans HG11.out g2)
  have HG2 := Lib.hid g2
  clear hN k1 k2 hw g2 hb HG11
  go_upto_region 9 with (first | ((with_reducible refine wpList_here ?_); refine wpList_st (T := 33) (p := .pointer (some ⟨w11.heap.size, 0, none⟩)) (v := .agg (rowOf 18 (y))) (.tmp 8) (.tmp 56) ?_ ?_ ?_ ?_ ?_ (by rw [← HXB.out]; exact HS.out) ?_; (· rfl); (· rfl); go_simp; (· kernel_rfl); (· kernel_rfl)))
  rw [← HXB.out]
  clear HS HXB
  have HxX := Lib.hid (HxX.out.grown HG2.out (by simp))
  have HO1 : Hid (rOk2 L F = true → _) := Lib.hid fun h => (HO1.out h).grown HG2.out (by simp)
  have HO2 : Hid (rOk2 L F = true → _) := Lib.hid fun h => (HO2.out h).grown HG2.out (by simp)
  clear HG2
  have HLX := Lib.hid (HxX.out.load (P := Try.prog) 0 33 18 x (by decide) (fun j _ => by rw [Nat.zero_add]) (by kernel_rfl) (by kernel_rfl))
  have HLY := Lib.hid (HyX.out.load (P := Try.prog) 0 33 18 y (by decide) (fun j _ => by rw [Nat.zero_add]) (by kernel_rfl) (by kernel_rfl))
  clear HxX HyX Hx1 Hy1
  have hSM := sameRos2_any L c2 c3 a2 a3 F w12 (fun h => ⟨_, RdD.of_own2 (HO1.out h), (own_leE (HO1.out h))⟩) (fun h => ⟨_, RdD.of_own2 (HO2.out h), (own_leE (HO2.out h))⟩)
  rw [← Hx2.out, ← Hy2.out] at hSM
  have HSM := Lib.hid hSM
  clear hSM HO1 HO2 Hx2 Hy2
  go_cut [75] (fun s w13 => s = .bool false ∧ w.grownBy w13 none)
  case first =>
    go_wp2_with (first | ((with_reducible refine wpList_here ?_); refine wpList_ld (p := .pointer (some ⟨xb, 0, none⟩)) 7 ?_ ?_ ?_ HLX.out ?_; (· rfl); go_simp; (· kernel_rfl)) | ((with_reducible refine wpList_here ?_); refine wpList_ld (p := .pointer (some ⟨yb, 0, none⟩)) 8 ?_ ?_ ?_ HLY.out ?_; (· rfl); go_simp; (· kernel_rfl)))
    go_at_call 31
    refine HSM.out.mono ?_
    rintro e w13 ⟨rfl, g⟩
    have HG13 := Lib.hid (grown_trans HG12.out g)
    clear g HSM HLX HLY
    cases ok with
    | false =>
      have he : er = 9 := by rw [HER.out, ← HOK.out]; rfl
      subst he
      go_wp2_with fail
      go_meet
      case rel => exact ⟨rfl, HG13.out⟩
    | true =>
      have he : er = 0 := by rw [HER.out, ← HOK.out]; rfl
      subst he
      go_wp2_with fail
      go_meet
      case rel => exact ⟨rfl, HG13.out⟩
  case rest =>
  clear HSM HLX HLY HER HOK HG12
  obtain ⟨rfl, hG⟩ := hcut
  generalize wc = w13 at *
  have HG13 := Lib.hid hG
  clear hG
  go_upto_region 11 with fail
  have HCO := Lib.hid (codHdr_any w13)
  go_wp2_with fail
  go_at_call 16
  refine HCO.out.mono ?_
  rintro e w14 ⟨rfl, g⟩
  have HG14 := Lib.hid (grown_trans HG13.out g)
  clear g HCO HG13
  have hT := tHdr_any w.heap.size L c a F w14 (HR.out.grown HG14.out (by simp)) HF.out (by have := HL.out; omega)
  rw [hdr_val, show hOk L = hdrOk L from rfl] at hT
  have HT := Lib.hid hT
  clear hT
  go_wp2_with fail
  go_at_call 32
  refine HT.out.mono ?_
  rintro e w15 ⟨rfl, g⟩
  have HG15 := Lib.hid (grown_trans HG14.out g)
  clear g HT HG14
  obtain ⟨x, hx⟩ : ∃ v, v = (hdrOf L F).v := ⟨_, rfl⟩
  rw [← hx]
  have Hx1 : Hid (∀ j, (x j).oneCell' = true) := Lib.hid fun j => by rw [hx]; exact HV.one _ j
  have Hx2 := Lib.hid hx
  clear hx
  obtain ⟨er, her⟩ : ∃ e, e = errT (hdrOk L) := ⟨_, rfl⟩
  rw [← her]
  have HER := Lib.hid her
  clear her
  have hN := RowAt.new w15 36 34 HV.zero.v #[.int .u8 0, .int .u8 0, .int .u8 0, .int .u8 0, .int .u8 0, .int .u8 0, .int .u8 0, .int .u8 0, .int .u8 0, .int .u8 0, .int .u8 0, .int .u8 0, .int .u8 0, .int .u8 0, .int .u8 0, .int .u8 0, .int .u8 0, .int .u8 0, .int .u8 0, .int .u8 0, .int .u8 0, .int .u8 0, .int .u8 0, .int .u8 0, .int .u8 0, .int .u8 0, .int .u8 0, .int .u8 0, .int .u8 0, .int .u8 0, .int .u8 0, .int .u8 0, .int .u32 0, .int .u32 0] (by kernel_rfl)
  obtain ⟨k1, k2⟩ := RowAt.store (P := Try.prog) hN 0 36 34 (x) (by decide) (by kernel_rfl) (fun j _ => Hx1.out j)
  obtain ⟨w16, hw⟩ : ∃ W, W = (w15.alloc (.cells #[.int .u8 0, .int .u8 0, .int .u8 0, .int .u8 0, .int .u8 0, .int .u8 0, .int .u8 0, .int .u8 0, .int .u8 0, .int .u8 0, .int .u8 0, .int .u8 0, .int .u8 0, .int .u8 0, .int .u8 0, .int .u8 0, .int .u8 0, .int .u8 0, .int .u8 0, .int .u8 0, .int .u8 0, .int .u8 0, .int .u8 0, .int .u8 0, .int .u8 0, .int .u8 0, .int .u8 0, .int .u8 0, .int .u8 0, .int .u8 0, .int .u8 0, .int .u8 0, .int .u32 0, .int .u32 0] 36)).setCells w15.heap.size 0 (rowOf 34 (x)).toList := ⟨_, rfl⟩
  have g2 : w15.grownBy w16 none := by rw [hw]; exact grown_setCells w15.heap.size (Or.inl (Nat.le_refl _)) _ 0 _ (World.grownBy_alloc w15 _ none)
  rw [← hw] at k1 k2
  have HxX := Lib.hid (k2.congr (v' := x) fun i hi => by rw [if_pos ⟨Nat.zero_le _, by omega⟩, Nat.sub_zero])
  obtain ⟨xb, hb⟩ : ∃ b, b = w15.heap.size := ⟨_, rfl⟩
  rw [← hb] at k1 HxX
  have HXB := Lib.hid hb
  have HS := Lib.hid k1
  have HG16 := Lib.hid (grown_trans HG15.out g2)
  have HG2 := Lib.hid g2
  clear hN k1 k2 hw g2 hb HG15
  go_upto_region 12 with (first | ((with_reducible refine wpList_here ?_); refine wpList_st (T := 36) (p := .pointer (some ⟨w15.heap.size, 0, none⟩)) (v := .agg (rowOf 34 (x))) (.tmp 9) (.tmp 80) ?_ ?_ ?_ ?_ ?_ (by rw [← HXB.out]; exact HS.out) ?_; (· rfl); (· rfl); go_simp; (· kernel_rfl); (· kernel_rfl)))
  rw [← HXB.out]
  clear HS HXB
  clear HG2
  have HT := Lib.hid (refTakeHdr_any L c a F w16 ((HR.out.grown HG16.out (by simp)).mono HG16.out.size) HC.out (by have := HL.out; omega) HF.out)
  go_wp2_with fail
  go_at_call 33
  refine HT.out.mono ?_
  rintro e w17 ⟨rfl, g⟩
  have HG17 := Lib.hid (grown_trans HG16.out g)
  have HxX := Lib.hid (HxX.out.grown g (by simp))
  clear g HT HG16
  obtain ⟨ok, hok⟩ : ∃ b, b = hdrOk L := ⟨_, rfl⟩
  obtain ⟨y, hy⟩ : ∃ v, v = (hdrOf L F).v := ⟨_, rfl⟩
  rw [← hy, ← hok]
  have Hy1 : Hid (∀ j, (y j).oneCell' = true) := Lib.hid fun j => by rw [hy]; exact HV.one _ j
  have Hy2 := Lib.hid hy
  have HOK := Lib.hid hok
  clear hy hok
  have hN := RowAt.new w17 36 34 HV.zero.v #[.int .u8 0, .int .u8 0, .int .u8 0, .int .u8 0, .int .u8 0, .int .u8 0, .int .u8 0, .int .u8 0, .int .u8 0, .int .u8 0, .int .u8 0, .int .u8 0, .int .u8 0, .int .u8 0, .int .u8 0, .int .u8 0, .int .u8 0, .int .u8 0, .int .u8 0, .int .u8 0, .int .u8 0, .int .u8 0, .int .u8 0, .int .u8 0, .int .u8 0, .int .u8 0, .int .u8 0, .int .u8 0, .int .u8 0, .int .u8 0, .int .u8 0, .int .u8 0, .int .u32 0, .int .u32 0] (by kernel_rfl)
  obtain ⟨k1, k2⟩ := RowAt.store (P := Try.prog) hN 0 36 34 (y) (by decide) (by kernel_rfl) (fun j _ => Hy1.out j)
  obtain ⟨w18, hw⟩ : ∃ W, W = (w17.alloc (.cells #[.int .u8 0, .int .u8 0, .int .u8 0, .int .u8 0, .int .u8 0, .int .u8 0, .int .u8 0, .int .u8 0, .int .u8 0, .int .u8 0, .int .u8 0, .int .u8 0, .int .u8 0, .int .u8 0, .int .u8 0, .int .u8 0, .int .u8 0, .int .u8 0, .int .u8 0, .int .u8 0, .int .u8 0, .int .u8 0, .int .u8 0, .int .u8 0, .int .u8 0, .int .u8 0, .int .u8 0, .int .u8 0, .int .u8 0, .int .u8 0, .int .u8 0, .int .u8 0, .int .u32 0, .int .u32 0] 36)).setCells w17.heap.size 0 (rowOf 34 (y)).toList := ⟨_, rfl⟩
  have g2 : w17.grownBy w18 none := by rw [hw]; exact grown_setCells w17.heap.size (Or.inl (Nat.le_refl _)) _ 0 _ (World.grownBy_alloc w17 _ none)
  rw [← hw] at k1 k2
  have HyX := Lib.hid (k2.congr (v' := y) fun i hi => by rw [if_pos ⟨Nat.zero_le _, by omega⟩, Nat.sub_zero])
  obtain ⟨yb, hb⟩ : ∃ b, b = w17.heap.size := ⟨_, rfl⟩
  rw [← hb] at k1 HyX
  have HXB := Lib.hid hb
  have HS := Lib.hid k1
  have HG18 := Lib.hid (grown_trans HG17.out g2)
  have HG2 := Lib.hid g2
  clear hN k1 k2 hw g2 hb HG17
  go_upto_region 13 with (first | ((with_reducible refine wpList_here ?_); refine wpList_st (T := 36) (p := .pointer (some ⟨w17.heap.size, 0, none⟩)) (v := .agg (rowOf 34 (y))) (.tmp 10) (.tmp 85) ?_ ?_ ?_ ?_ ?_ (by rw [← HXB.out]; exact HS.out) ?_; (· rfl); (· rfl); go_simp; (· kernel_rfl); (· kernel_rfl)))
  rw [← HXB.out]
  clear HS HXB
  have HxX := Lib.hid (HxX.out.grown HG2.out (by simp))
  clear HG2
  have HLX := Lib.hid (HxX.out.load (P := Try.prog) 0 36 34 x (by decide) (fun j _ => by rw [Nat.zero_add]) (by kernel_rfl) (by kernel_rfl))
  have HLY := Lib.hid (HyX.out.load (P := Try.prog) 0 36 34 y (by decide) (fun j _ => by rw [Nat.zero_add]) (by kernel_rfl) (by kernel_rfl))
  clear HxX HyX Hx1 Hy1
  have hxy : x = y := by rw [Hx2.out, Hy2.out]
  subst hxy
  have HSF : Hid (∀ W, (Op.equalIn 10000 36 (.agg (rowOf 34 x)) (.agg (rowOf 34 x))).run Try.prog W = .ok true W) := Lib.hid fun W => by rw [Hx2.out]; exact self_hdr _ W
  go_cut [103] (fun s w19 => s = .bool false ∧ w.grownBy w19 none)
  case first =>
    cases ok with
    | false =>
      have he : er = 9 := by rw [HER.out, ← HOK.out]; rfl
      subst he
      go_wp2_with (first | ((with_reducible refine wpList_here ?_); refine wpList_ld (p := .pointer (some ⟨xb, 0, none⟩)) 9 ?_ ?_ ?_ HLX.out ?_; (· rfl); go_simp; (· kernel_rfl)) | ((with_reducible refine wpList_here ?_); refine wpList_ld (p := .pointer (some ⟨yb, 0, none⟩)) 10 ?_ ?_ ?_ HLY.out ?_; (· rfl); go_simp; (· kernel_rfl)) | ((with_reducible refine wpList_here ?_); refine wpList_want (v := .bool false) (w' := w18) ?_ (exec_neq_hdr 87 88 _ _ true (HSF.out w18) rfl rfl rfl) ?_; go_simp))
      go_meet
      case rel => exact ⟨rfl, HG18.out⟩
    | true =>
      have he : er = 0 := by rw [HER.out, ← HOK.out]; rfl
      subst he
      go_wp2_with (first | ((with_reducible refine wpList_here ?_); refine wpList_ld (p := .pointer (some ⟨xb, 0, none⟩)) 9 ?_ ?_ ?_ HLX.out ?_; (· rfl); go_simp; (· kernel_rfl)) | ((with_reducible refine wpList_here ?_); refine wpList_ld (p := .pointer (some ⟨yb, 0, none⟩)) 10 ?_ ?_ ?_ HLY.out ?_; (· rfl); go_simp; (· kernel_rfl)) | ((with_reducible refine wpList_here ?_); refine wpList_want (v := .bool false) (w' := w18) ?_ (exec_neq_hdr 87 88 _ _ true (HSF.out w18) rfl rfl rfl) ?_; go_simp))
      go_meet
      case rel => exact ⟨rfl, HG18.out⟩
  case rest =>
  clear HLX HLY HER HOK Hx2 Hy2 HSF HG18
  obtain ⟨rfl, hG⟩ := hcut
  generalize wc = w19 at *
  have HG19 := Lib.hid hG
  clear hG
  go_upto_region 15 with fail
  have HCO := Lib.hid (codEnv_any w19)
  go_wp2_with fail
  go_at_call 23
  refine HCO.out.mono ?_
  rintro e w20 ⟨rfl, g⟩
  have HG20 := Lib.hid (grown_trans HG19.out g)
  clear g HCO HG19
  have hT := tEnv2_any w.heap.size L c a F w20 (HR.out.grown HG20.out (by simp)) HF.out (by have := HL.out; omega)
  have HT := Lib.hid hT
  clear hT
  go_wp2_with fail
  go_at_call 34
  refine HT.out.mono ?_
  rintro e w21 ⟨a2, c2, rfl, hO, g⟩
  have HO1 := Lib.hid hO
  clear hO
  have HG21 := Lib.hid (grown_trans HG20.out g)
  clear g HT HG20
  obtain ⟨x, hx⟩ : ∃ v, v = (if eOk2 L F = true then env2 L F a2 c2 else EV.zero).v := ⟨_, rfl⟩
  rw [← hx]
  have Hx1 : Hid (∀ j, (x j).oneCell' = true) := Lib.hid fun j => by rw [hx]; exact EV.one _ j
  have Hx2 := Lib.hid hx
  clear hx
  obtain ⟨er, her⟩ : ∃ e, e = errT (eOk2 L F) := ⟨_, rfl⟩
  rw [← her]
  have HER := Lib.hid her
  clear her
  have hN := RowAt.new w21 41 106 EV.zero.v Try.zeroCells41 (by kernel_rfl)
  obtain ⟨k1, k2⟩ := RowAt.store (P := Try.prog) hN 0 41 106 (x) (by decide) (by kernel_rfl) (fun j _ => Hx1.out j)
  obtain ⟨w22, hw⟩ : ∃ W, W = (w21.alloc (.cells Try.zeroCells41 41)).setCells w21.heap.size 0 (rowOf 106 (x)).toList := ⟨_, rfl⟩
  have g2 : w21.grownBy w22 none := by rw [hw]; exact grown_setCells w21.heap.size (Or.inl (Nat.le_refl _)) _ 0 _ (World.grownBy_alloc w21 _ none)
  rw [← hw] at k1 k2
  have HxX := Lib.hid (k2.congr (v' := x) fun i hi => by rw [if_pos ⟨Nat.zero_le _, by omega⟩, Nat.sub_zero])
  obtain ⟨xb, hb⟩ : ∃ b, b = w21.heap.size := ⟨_, rfl⟩
  rw [← hb] at k1 HxX
  have HXB := Lib.hid hb
  have HS := Lib.hid k1
  have HG22 := Lib.hid (grown_trans HG21.out g2)
  have HG2 := Lib.hid g2
  clear hN k1 k2 hw g2 hb HG21
  go_upto_region 16 with (first | ((with_reducible refine wpList_here ?_); refine wpList_st (T := 41) (p := .pointer (some ⟨w21.heap.size, 0, none⟩)) (v := .agg (rowOf 106 (x))) (.tmp 11) (.tmp 108) ?_ ?_ ?_ ?_ ?_ (by rw [← HXB.out]; exact HS.out) ?_; (· rfl); (· rfl); go_simp; (· kernel_rfl); (· kernel_rfl)))
  rw [← HXB.out]
  clear HS HXB
  have HO1 : Hid (eOk2 L F = true → _) := Lib.hid fun h => (HO1.out h).grown HG2.out
  clear HG2
  have HT := Lib.hid (refTakeEnv_any L c a F w22 ((HR.out.grown HG22.out (by simp)).mono HG22.out.size) HC.out (by have := HL.out; omega) HF.out)
  go_wp2_with fail
  go_at_call 35
  refine HT.out.mono ?_
  rintro e w23 ⟨⟨a3, c3, rfl, hO⟩, g⟩
  have HO2 := Lib.hid hO
  clear hO
  have HG23 := Lib.hid (grown_trans HG22.out g)
  have HxX := Lib.hid (HxX.out.grown g (by simp))
  have HO1 : Hid (eOk2 L F = true → _) := Lib.hid fun h => (HO1.out h).grown g
  clear g HT HG22
  obtain ⟨ok, hok⟩ : ∃ b, b = eOk2 L F := ⟨_, rfl⟩
  obtain ⟨y, hy⟩ : ∃ v, v = (if eOk2 L F = true then env2 L F a3 c3 else EV.zero).v := ⟨_, rfl⟩
  rw [← hy, ← hok]
  have Hy1 : Hid (∀ j, (y j).oneCell' = true) := Lib.hid fun j => by rw [hy]; exact EV.one _ j
  have Hy2 := Lib.hid hy
  have HOK := Lib.hid hok
  clear hy hok
  have hN := RowAt.new w23 41 106 EV.zero.v Try.zeroCells41 (by kernel_rfl)
  obtain ⟨k1, k2⟩ := RowAt.store (P := Try.prog) hN 0 41 106 (y) (by decide) (by kernel_rfl) (fun j _ => Hy1.out j)
  obtain ⟨w24, hw⟩ : ∃ W, W = (w23.alloc (.cells Try.zeroCells41 41)).setCells w23.heap.size 0 (rowOf 106 (y)).toList := ⟨_, rfl⟩
  have g2 : w23.grownBy w24 none := by rw [hw]; exact grown_setCells w23.heap.size (Or.inl (Nat.le_refl _)) _ 0 _ (World.grownBy_alloc w23 _ none)
  rw [← hw] at k1 k2
  have HyX := Lib.hid (k2.congr (v' := y) fun i hi => by rw [if_pos ⟨Nat.zero_le _, by omega⟩, Nat.sub_zero])
  obtain ⟨yb, hb⟩ : ∃ b, b = w23.heap.size := ⟨_, rfl⟩
  rw [← hb] at k1 HyX
  have HXB := Lib.hid hb
  have HS := Lib.hid k1
  have HG24 := Lib.hid (grown_trans HG23.out g2)
  have HG2 := Lib.hid g2
  clear hN k1 k2 hw g2 hb HG23
  go_upto_region 17 with (first | ((with_reducible refine wpList_here ?_); refine wpList_st (T := 41) (p := .pointer (some ⟨w23.heap.size, 0, none⟩)) (v := .agg (rowOf 106 (y))) (.tmp 12) (.tmp 113) ?_ ?_ ?_ ?_ ?_ (by rw [← HXB.out]; exact HS.out) ?_; (· rfl); (· rfl); go_simp; (· kernel_rfl); (· kernel_rfl)))
  rw [← HXB.out]
  clear HS HXB
  have HxX := Lib.hid (HxX.out.grown HG2.out (by simp))
  have HO1 : Hid (eOk2 L F = true → _) := Lib.hid fun h => (HO1.out h).grown HG2.out
  have HO2 : Hid (eOk2 L F = true → _) := Lib.hid fun h => (HO2.out h).grown HG2.out
  clear HG2
  have HLX := Lib.hid (HxX.out.load (P := Try.prog) 0 41 106 x (by decide) (fun j _ => by rw [Nat.zero_add]) (by kernel_rfl) (by kernel_rfl))
  have HLY := Lib.hid (HyX.out.load (P := Try.prog) 0 41 106 y (by decide) (fun j _ => by rw [Nat.zero_add]) (by kernel_rfl) (by kernel_rfl))
  clear HxX HyX Hx1 Hy1
  have hSM := sameEnv2_any L c2 c3 a2 a3 F w24 HF.out (fun h => ⟨_, (own_rd (HO1.out h)).2⟩) (fun h => ⟨_, (own_rd (HO2.out h)).2⟩)
  rw [← Hx2.out, ← Hy2.out] at hSM
  have HSM := Lib.hid hSM
  clear hSM HO1 HO2 Hx2 Hy2
  go_cut [132] (fun s w25 => s = .bool false ∧ w.grownBy w25 none)
  case first =>
    go_wp2_with (first | ((with_reducible refine wpList_here ?_); refine wpList_ld (p := .pointer (some ⟨xb, 0, none⟩)) 11 ?_ ?_ ?_ HLX.out ?_; (· rfl); go_simp; (· kernel_rfl)) | ((with_reducible refine wpList_here ?_); refine wpList_ld (p := .pointer (some ⟨yb, 0, none⟩)) 12 ?_ ?_ ?_ HLY.out ?_; (· rfl); go_simp; (· kernel_rfl)))
    go_at_call 36
    refine HSM.out.mono ?_
    rintro e w25 ⟨rfl, g⟩
    have HG25 := Lib.hid (grown_trans HG24.out g)
    clear g HSM HLX HLY
    cases ok with
    | false =>
      have he : er = 9 := by rw [HER.out, ← HOK.out]; rfl
      subst he
      go_wp2_with fail
      go_meet
      case rel => exact ⟨rfl, HG25.out⟩
    | true =>
      have he : er = 0 := by rw [HER.out, ← HOK.out]; rfl
      subst he
      go_wp2_with fail
      go_meet
      case rel => exact ⟨rfl, HG25.out⟩
  case rest =>
  clear HSM HLX HLY HER HOK HG24
  obtain ⟨rfl, hG⟩ := hcut
  generalize wc = w25 at *
  have HG25 := Lib.hid hG
  clear hG
  go_upto_region 19 with fail
  have HCO := Lib.hid (codPkt_any w25)
  go_wp2_with fail
  go_at_call 26
  refine HCO.out.mono ?_
  rintro e w26 ⟨rfl, g⟩
  have HG26 := Lib.hid (grown_trans HG25.out g)
  clear g HCO HG25
  have hT := tPkt2_any w.heap.size L c a F w26 (HR.out.grown HG26.out (by simp)) HF.out (by have := HL.out; omega)
  have HT := Lib.hid hT
  clear hT
  go_wp2_with fail
  go_at_call 37
  refine HT.out.mono ?_
  rintro e w27 ⟨a2, c2, rfl, hO, g⟩
  have HO1 := Lib.hid hO
  clear hO
  have HG27 := Lib.hid (grown_trans HG26.out g)
  clear g HT HG26
  obtain ⟨x, hx⟩ : ∃ v, v = (if pOk2 L F = true then pkt2 L F a2 c2 else PV.zero).v := ⟨_, rfl⟩
  rw [← hx]
  have Hx1 : Hid (∀ j, (x j).oneCell' = true) := Lib.hid fun j => by rw [hx]; exact PV.one _ j
  have Hx2 := Lib.hid hx
  clear hx
  obtain ⟨er, her⟩ : ∃ e, e = errT (pOk2 L F) := ⟨_, rfl⟩
  rw [← her]
  have HER := Lib.hid her
  clear her
  have hN := RowAt.new w27 43 21 PV.zero.v #[.int .u8 0, .int .u8 0, .int .u8 0, .int .u8 0, .int .u8 0, .int .u8 0, .int .u8 0, .int .u8 0, .int .u8 0, .int .u8 0, .int .u8 0, .int .u8 0, .int .u8 0, .int .u8 0, .int .u8 0, .int .u8 0, .int .u8 0, .int .u8 0, .int .u8 0, .int .u8 0, .slice none 0 0] (by kernel_rfl)
  obtain ⟨k1, k2⟩ := RowAt.store (P := Try.prog) hN 0 43 21 (x) (by decide) (by kernel_rfl) (fun j _ => Hx1.out j)
  obtain ⟨w28, hw⟩ : ∃ W, W = (w27.alloc (.cells #[.int .u8 0, .int .u8 0, .int .u8 0, .int .u8 0, .int .u8 0, .int .u8 0, .int .u8 0, .int .u8 0, .int .u8 0, .int .u8 0, .int .u8 0, .int .u8 0, .int .u8 0, .int .u8 0, .int .u8 0, .int .u8 0, .int .u8 0, .int .u8 0, .int .u8 0, .int .u8 0, .slice none 0 0] 43)).setCells w27.heap.size 0 (rowOf 21 (x)).toList := ⟨_, rfl⟩
  have g2 : w27.grownBy w28 none := by rw [hw]; exact grown_setCells w27.heap.size (Or.inl (Nat.le_refl _)) _ 0 _ (World.grownBy_alloc w27 _ none)
  rw [← hw] at k1 k2
  have HxX := Lib.hid (k2.congr (v' := x) fun i hi => by rw [if_pos ⟨Nat.zero_le _, by omega⟩, Nat.sub_zero])
  obtain ⟨xb, hb⟩ : ∃ b, b = w27.heap.size := ⟨_, rfl⟩
  rw [← hb] at k1 HxX
  have HXB := Lib.hid hb
  have HS := Lib.hid k1
  have HG28 := Lib.hid (grown_trans HG27.out g2)
  have HG2 := Lib.hid g2
  clear hN k1 k2 hw g2 hb HG27
  go_upto_region 20 with (first | ((with_reducible refine wpList_here ?_); refine wpList_st (T := 43) (p := .pointer (some ⟨w27.heap.size, 0, none⟩)) (v := .agg (rowOf 21 (x))) (.tmp 13) (.tmp 137) ?_ ?_ ?_ ?_ ?_ (by rw [← HXB.out]; exact HS.out) ?_; (· rfl); (· rfl); go_simp; (· kernel_rfl); (· kernel_rfl)))
  rw [← HXB.out]
  clear HS HXB
  have HO1 : Hid (pOk2 L F = true → _) := Lib.hid fun h => (HO1.out h).grown HG2.out
  clear HG2
  have HT := Lib.hid (refTakePkt_any L c a F w28 ((HR.out.grown HG28.out (by simp)).mono HG28.out.size) HC.out (by have := HL.out; omega) HF.out)
  go_wp2_with fail
  go_at_call 38
  refine HT.out.mono ?_
  rintro e w29 ⟨⟨a3, c3, rfl, hO⟩, g⟩
  have HO2 := Lib.hid hO
  clear hO
  have HG29 := Lib.hid (grown_trans HG28.out g)
  have HxX := Lib.hid (HxX.out.grown g (by simp))
  have HO1 : Hid (pOk2 L F = true → _) := Lib.hid fun h => (HO1.out h).grown g
  clear g HT HG28
  obtain ⟨ok, hok⟩ : ∃ b, b = pOk2 L F := ⟨_, rfl⟩
  obtain ⟨y, hy⟩ : ∃ v, v = (if pOk2 L F = true then pkt2 L F a3 c3 else PV.zero).v := ⟨_, rfl⟩
  rw [← hy, ← hok]
  have Hy1 : Hid (∀ j, (y j).oneCell' = true) := Lib.hid fun j => by rw [hy]; exact PV.one _ j
  have Hy2 := Lib.hid hy
  have HOK := Lib.hid hok
  clear hy hok
  have hN := RowAt.new w29 43 21 PV.zero.v #[.int .u8 0, .int .u8 0, .int .u8 0, .int .u8 0, .int .u8 0, .int .u8 0, .int .u8 0, .int .u8 0, .int .u8 0, .int .u8 0, .int .u8 0, .int .u8 0, .int .u8 0, .int .u8 0, .int .u8 0, .int .u8 0, .int .u8 0, .int .u8 0, .int .u8 0, .int .u8 0, .slice none 0 0] (by kernel_rfl)
  obtain ⟨k1, k2⟩ := RowAt.store (P := Try.prog) hN 0 43 21 (y) (by decide) (by kernel_rfl) (fun j _ => Hy1.out j)
  obtain ⟨w30, hw⟩ : ∃ W, W = (w29.alloc (.cells #[.int .u8 0, .int .u8 0, .int .u8 0, .int .u8 0, .int .u8 0, .int .u8 0, .int .u8 0, .int .u8 0, .int .u8 0, .int .u8 0, .int .u8 0, .int .u8 0, .int .u8 0, .int .u8 0, .int .u8 0, .int .u8 0, .int .u8 0, .int .u8 0, .int .u8 0, .int .u8 0, .slice none 0 0] 43)).setCells w29.heap.size 0 (rowOf 21 (y)).toList := ⟨_, rfl⟩
  have g2 : w29.grownBy w30 none := by rw [hw]; exact grown_setCells w29.heap.size (Or.inl (Nat.le_refl _)) _ 0 _ (World.grownBy_alloc w29 _ none)
  rw [← hw] at k1 k2
  have HyX := Lib.hid (k2.congr (v' := y) fun i hi => by rw [if_pos ⟨Nat.zero_le _, by omega⟩, Nat.sub_zero])
  obtain ⟨yb, hb⟩ : ∃ b, b = w29.heap.size := ⟨_, rfl⟩
  rw [← hb] at k1 HyX
  have HXB := Lib.hid hb
  have HS := Lib.hid k1
  have HG30 := Lib.hid (grown_trans HG29.out g2)
  have HG2 := Lib.hid g2
  clear hN k1 k2 hw g2 hb HG29
  go_upto_region 21 with (first | ((with_reducible refine wpList_here ?_); refine wpList_st (T := 43) (p := .pointer (some ⟨w29.heap.size, 0, none⟩)) (v := .agg (rowOf 21 (y))) (.tmp 14) (.tmp 142) ?_ ?_ ?_ ?_ ?_ (by rw [← HXB.out]; exact HS.out) ?_; (· rfl); (· rfl); go_simp; (· kernel_rfl); (· kernel_rfl)))
  rw [← HXB.out]
  clear HS HXB
  have HxX := Lib.hid (HxX.out.grown HG2.out (by simp))
  have HO1 : Hid (pOk2 L F = true → _) := Lib.hid fun h => (HO1.out h).grown HG2.out
  have HO2 : Hid (pOk2 L F = true → _) := Lib.hid fun h => (HO2.out h).grown HG2.out
  clear HG2
  have HLX := Lib.hid (HxX.out.load (P := Try.prog) 0 43 21 x (by decide) (fun j _ => by rw [Nat.zero_add]) (by kernel_rfl) (by kernel_rfl))
  have HLY := Lib.hid (HyX.out.load (P := Try.prog) 0 43 21 y (by decide) (fun j _ => by rw [Nat.zero_add]) (by kernel_rfl) (by kernel_rfl))
  clear HxX HyX Hx1 Hy1
  have hSM := samePkt2_any L c2 c3 a2 a3 F w30 HF.out (fun h => ⟨_, (own_rd (HO1.out h)).2⟩) (fun h => ⟨_, (own_rd (HO2.out h)).2⟩)
  rw [← Hx2.out, ← Hy2.out] at hSM
  have HSM := Lib.hid hSM
  clear hSM HO1 HO2 Hx2 Hy2
  go_wp2_with (first | ((with_reducible refine wpList_here ?_); refine wpList_ld (p := .pointer (some ⟨xb, 0, none⟩)) 13 ?_ ?_ ?_ HLX.out ?_; (· rfl); go_simp; (· kernel_rfl)) | ((with_reducible refine wpList_here ?_); refine wpList_ld (p := .pointer (some ⟨yb, 0, none⟩)) 14 ?_ ?_ ?_ HLY.out ?_; (· rfl); go_simp; (· kernel_rfl)))
  go_at_call 39
  refine HSM.out.mono ?_
  rintro e w31 ⟨rfl, g⟩
  have HG31 := Lib.hid (grown_trans HG30.out g)
  clear g HSM HLX HLY
  cases ok with
  | false =>
    have he : er = 9 := by rw [HER.out, ← HOK.out]; rfl
    subst he
    have HW := Lib.hid (works_any w31)
    go_wp2_with fail
    go_at_call 11
    refine HW.out.mono ?_
    rintro e wz ⟨rfl, g⟩
    have HGZ := Lib.hid (grown_trans HG31.out g)
    clear g HW
    go_wp2_with fail
    go_ret
    exact ⟨rfl, HGZ.out⟩
  | true =>
    have he : er = 0 := by rw [HER.out, ← HOK.out]; rfl
    subst he
    have HW := Lib.hid (works_any w31)
    go_wp2_with fail
    go_at_call 11
    refine HW.out.mono ?_
    rintro e wz ⟨rfl, g⟩
    have HGZ := Lib.hid (grown_trans HG31.out g)
    clear g HW
    go_wp2_with fail
    go_ret
    exact ⟨rfl, HGZ.out⟩
end Go.Proofs.Ytdagbighlgfhjaa
namespace Go.Proofs.Ytdagbighlgfhjaa
open Go.ChangeShapes Go.WideShapes Go.ChangeAt Go.RowKit

theorem getElem?_of_take_drop {α : Type} (l : List α) (i : Nat) (x : α) (h : (l.drop i).take 1 = [x]) : l[i]? = some x := by
  have h1 : ((l.drop i).take 1)[0]? = some x := by rw [h]; rfl
  simpa using h1

/-- A table of numbers, read. -/
theorem ints_of_trod {H : Type} {enc : TypeId × Value → H} {P : Program} {w : World} {base : Nat} {spare : Nat → Bool} {held : Bool} {fuel : Nat} {t e : TypeId} {k : IntKind} {n : Nat} {cs : List Value} {d : DataW H} {ps : List MemPlace} (L : List Int)
    (ht : P.underlying t = some (.array n e)) (he : P.underlying e = some (.int k)) (hc : P.cellsOf e = 1) (hd : DataW.trod enc P w base spare held fuel t cs = some (d, ps)) (hx : d = .agg (L.map fun z => .lit (.int k z))) :
    ∀ i, i < n → cs[i]? = some (.int k (L.getD i 0)) := by
  subst hx
  obtain ⟨xs, m, rfl, hx, _, hn, hel⟩ := DataW.trod_array ht hd
  intro i hi
  have h1 := hel i hi
  rw [hc, Nat.mul_one] at h1
  have hxi : xs[i]? = some xs[i] := List.getElem?_eq_getElem (by omega)
  rw [hxi] at h1
  obtain ⟨q, e1, e2, _⟩ := DataW.trod_int he h1
  have h2 : L.map (fun z => (DataW.lit (.int k z) : DataW H)) = xs.map (·.1) := by
    have := congrArg Prod.fst hx
    simpa using this
  have h3 : (L.map (fun z => (DataW.lit (.int k z) : DataW H)))[i]? = some (.lit (.int k q)) := by
    rw [h2]; simp [hxi, e2]
  have h4 : L[i]? = some q := by
    rw [List.getElem?_map] at h3
    cases hL : L[i]? with
    | none => rw [hL] at h3; cases h3
    | some z => rw [hL] at h3; simpa using h3
  rw [List.getD, h4]
  exact getElem?_of_take_drop cs i _ e1

theorem own : ownKnob Try.prog.godebug = none := by kernel_rfl
theorem laidOut : laidOutB Try.prog = true := by kernel_rfl

end Go.Proofs.Ytdagbighlgfhjaa
namespace Go.Proofs.Ytdagbighlgfhjaa
open Go.ChangeShapes Go.WideShapes Go.ChangeAt Go.RowKit

section
variable {H : Type} {enc : TypeId × Value → H} {P : Program}

theorem open_arr8 {W : World} {t e : TypeId} {n : Nat} {r : Reach} {b0 : Nat} {v : Value} {d : DataW H} {ps : List MemPlace} (ht : P.underlying t = some (.array n e)) (he : P.underlying e = some (.int .u8)) (hc : P.cellsOf e = 1) (hn : P.cellsOf t = n)
    (hval : Value.okWide P W r b0 t v) (h : DataW.Trod enc P W 0 (fun _ => true) true t v d ps) : ∃ f, v = .agg (cellsOf .u8 n f) ∧ ∀ i, f i < 256 := by
  have hv := hval
  simp only [Value.okWide, ht] at hv
  obtain ⟨cs, rfl, hs, _⟩ := hv
  obtain ⟨fuel, hf⟩ := h
  obtain ⟨xs, m, rfl, _, hl, _, hel⟩ := DataW.trod_array ht hf
  have key : ∀ i, i < n → ∃ q : Nat, q < 256 ∧ cs[i]? = some (.int .u8 q) := fun i hi => by
    have h1 := hel i hi
    rw [hc, Nat.mul_one] at h1
    cases hx : xs[i]? with
    | none =>
      rw [hx] at h1
      have hlen : i < cs.toList.length := by
        have : cs.size = n := by rw [hs, hn]
        simp [this]; exact hi
      exfalso
      rename_i hxl
      have : xs.length ≤ i := by simpa using hx
      omega
    | some x =>
      rw [hx] at h1
      obtain ⟨q, e1, _, hw⟩ := DataW.trod_int he h1
      have h2 := getElem?_of_take_drop _ i _ e1
      simp [Lit.wf, IntKind.min, IntKind.max, IntKind.bits, IntKind.signed] at hw
      refine ⟨q.toNat, by omega, ?_⟩
      have e2 : ((q.toNat : Nat) : Int) = q := by omega
      rw [e2]
      simpa [Value.cells] using h2
  refine ⟨fun i => (match cs[i]? with | some (.int _ q) => q.toNat | _ => 0) % 256, ?_, fun i => Nat.mod_lt _ (by decide)⟩
  congr 1
  apply Array.ext
  · rw [cellsOf_size, hs, hn]
  · intro i h1 h2
    have hi : i < n := by rwa [hs, hn] at h1
    obtain ⟨q, hq, hcq⟩ := key i hi
    have e1 := cellsOf_get .u8 n (fun i => (match cs[i]? with | some (.int _ q) => q.toNat | _ => 0) % 256) i hi
    rw [Array.getElem?_eq_getElem h2] at e1
    rw [Array.getElem?_eq_getElem h1] at hcq
    injection e1 with e1
    injection hcq with hcq'
    rw [e1, hcq']
    simp only [Array.getElem?_eq_getElem h1, hcq']
    congr 1
    simp; omega

/-- A byte that comes in. -/
theorem open_u8 {W : World} {t : TypeId} {r : Reach} {b0 : Nat} {v : Value} {d : DataW H} {ps : List MemPlace} (ht : P.underlying t = some (.int .u8))
    (hval : Value.okWide P W r b0 t v) (h : DataW.Trod enc P W 0 (fun _ => true) true t v d ps) : ∃ n : Nat, v = .int .u8 n ∧ n < 256 := by
  obtain ⟨x, rfl, _, _, hx⟩ := open_int ht hval h
  simp [Lit.wf, IntKind.min, IntKind.max, IntKind.bits, IntKind.signed] at hx
  exact ⟨x.toNat, by rw [show ((x.toNat : Nat) : Int) = x by omega], by omega⟩

end
end Go.Proofs.Ytdagbighlgfhjaa
namespace Go.Proofs.Ytdagbighlgfhjaa
open Go.ChangeShapes Go.WideShapes Go.ChangeAt Go.RowKit

set_option maxRecDepth 100000

section
variable {H : Type} {enc : TypeId × Value → H} {P : Program}
theorem at_drop {cs : List Value} {i : Nat} {v : Value} (h : (cs.drop i).take 1 = [v]) : cs[i]? = some v := getElem?_of_take_drop _ i _ h
/-- A slice of numbers, out of its cell. -/
theorem open_numsW {W : World} {t e : TypeId} {k : IntKind} {fuel : Nat} {cs : List Value} {x : DataW H × List MemPlace} (ht : P.underlying t = some (.slice e)) (he : P.underlying e = some (.int k)) (hc : P.cellsOf e = 1) (h0 : (Lit.int k 0).wf = true) (hby : 1 ≤ P.bytesOf e)
    (h : DataW.trod enc P W 0 (fun _ => true) true fuel t cs = some x) (hw : ∀ y, y ∈ x.1.weights P t → y ≤ reachBytes) :
    ∃ (a : Option Addr) (n c : Nat) (z : Nat → Int), cs = [.slice a n c] ∧ n ≤ 140737488355328 ∧ (∀ i, (Lit.int k (z i)).wf = true) ∧
      (0 < n → ∃ tb o, a = some ⟨tb, o, none⟩ ∧ tb < W.heap.size ∧ ∀ i, i < n → W.cell? ⟨tb, o + i, none⟩ = some (.int k (z i))) := by
  rcases open_ints ht he hc h with ⟨h1, _⟩ | ⟨a, len, cap, zs, h1, _, hlc, _, hzl, hx, hcell, hwf⟩
  · exact ⟨none, 0, 0, fun _ => 0, h1, Nat.zero_le _, fun _ => h0, fun h => absurd h (by omega)⟩
  · have hzl' : len ≤ zs.length := by rw [hzl]; simp [hlc]
    refine ⟨some a, len, cap, fun i => zs.getD i 0, h1, ?_, fun i => ?_, fun hn => ?_⟩
    · have := hw ((min len zs.length + (zs.length - len)) * P.bytesOf e) (by
        rw [hx]
        unfold DataW.weights
        rw [ht]
        refine List.mem_cons.2 (Or.inl ?_)
        simp [lits])
      have h2 : (min len zs.length + (zs.length - len)) * 1 ≤ (min len zs.length + (zs.length - len)) * P.bytesOf e := Nat.mul_le_mul_left _ hby
      unfold reachBytes at this
      omega
    · show (Lit.int k (zs.getD i 0)).wf = true
      by_cases hi : i < zs.length
      · have e1 : zs.getD i 0 = zs[i] := by simp [List.getD, List.getElem?_eq_getElem hi]
        rw [e1]
        exact hwf zs[i] (List.getElem_mem hi)
      · have e1 : zs.getD i 0 = 0 := by simp [List.getD, List.getElem?_eq_none (Nat.le_of_not_lt hi)]
        rw [e1]; exact h0
    · have h0' := hcell 0 (by omega)
      have hspot : a.spot = none := by simpa [Addr.add] using World.cell?_spot h0'
      obtain ⟨tb, o, sp⟩ := a
      simp only at hspot
      subst hspot
      refine ⟨tb, o, rfl, ?_, fun i hi => ?_⟩
      · have := World.block_lt_of_cell? W _ h0'
        simpa [Addr.add] using this
      · have h1 := hcell i (by omega)
        rw [Addr.add_mid] at h1
        exact h1
/-- Bytes that come in, and how many. -/
theorem open_bytesW {W : World} {t e : TypeId} {r : Reach} {b0 : Nat} {v : Value} {d : DataW H} {ps : List MemPlace} (ht : P.underlying t = some (.slice e)) (he : P.underlying e = some (.int .u8)) (hc : P.cellsOf e = 1) (hby : 1 ≤ P.bytesOf e)
    (hval : Value.okWide P W r b0 t v) (h : DataW.Trod enc P W 0 (fun _ => true) true t v d ps) (hw : ∀ y, y ∈ d.weights P t → y ≤ reachBytes) :
    ∃ a n c f, v = .slice a n c ∧ n ≤ c ∧ n ≤ 140737488355328 ∧ Rd W W.heap.size a n f ∧ ∀ i, f i < 256 := by
  obtain ⟨a0, len, cap, rfl⟩ := okWide_slice ht hval
  obtain ⟨fuel, hf⟩ := h
  obtain ⟨a, n, c, z, h1, hb, hwf, hcell⟩ := open_numsW ht he hc (by rfl) hby hf hw
  simp [Value.cells] at h1
  obtain ⟨rfl, rfl, rfl⟩ := h1
  have hlc : len ≤ cap := by
    rcases open_ints ht he hc hf with ⟨h2, _⟩ | ⟨_, _, _, _, h2, _, h3, _⟩
    · simp [Value.cells] at h2
      omega
    · simp [Value.cells] at h2
      omega
  have wb : ∀ i, 0 ≤ z i ∧ z i < 256 := fun i => by have := hwf i; simp [Lit.wf, IntKind.min, IntKind.max, IntKind.bits, IntKind.signed] at this; omega
  refine ⟨a0, len, cap, fun i => (z i).toNat, rfl, hlc, hb, ⟨fun hn => ?_⟩, fun i => by have := wb i; show (z i).toNat < 256; omega⟩
  obtain ⟨tb, o, e1, e2, e3⟩ := hcell hn
  refine ⟨tb, o, e1, e2, fun i hi => ?_⟩
  have := wb i
  rw [e3 i hi]
  show some (Value.int .u8 (z i)) = some (Value.int .u8 (((z i).toNat : Nat) : Int))
  rw [show (((z i).toNat : Nat) : Int) = z i by omega]
end
end Go.Proofs.Ytdagbighlgfhjaa
namespace Go.Proofs.Ytdagbighlgfhjaa
open Go.ChangeShapes Go.WideShapes Go.ChangeAt Go.RowKit

set_option maxRecDepth 100000 in
theorem distTakes_lifted (os : Os) (started : os.Started) (H : Type) (enc : TypeId × Value → H) :
    ReturnsInHanded {} Try.checked os 4 .any (Rows.distTakesSpec.pre6 enc Try.prog Try.f4 Rows.distTakesRow.domain false) (Rows.distTakesSpec.post enc Try.prog Try.f4 false true false false) := by
  refine returnsInHanded_of_change_sized (C := Try.checked) own started (by kernel_rfl) Try.func4
    (ChangeSpec.witness6 (enc := enc) (C := Try.checked) false ⟨#[], #[.slice none 0 0], []⟩ 8 (by kernel_rfl) (by kernel_rfl) (by kernel_rfl) (by kernel_rfl)) ?_
  intro W base args ds gs before hval0 hW _ hwt _
  have hval : ∀ (j : Nat) t v, Try.f4.params[j]? = some t → args[j]? = some v → Value.okWide Try.prog W .any base t v := hval0
  have hW' := hW
  obtain ⟨p, q, hA0, hV, rfl, _, _⟩ := hW
  have hA : DataW.TrodAll enc Try.prog W 0 (fun _ => true) true Try.f4.params.toList args.toList ds p := hA0
  have hwt' : (DataW.weightsEach Try.prog (Try.f4.params.toList ++ Rows.distTakesSpec.plain.varTypes Try.prog) (ds ++ gs)).all (· ≤ reachBytes) = true := hwt
  rw [Try.params4] at hA hval hwt'
  obtain ⟨v0, vs0, d0, ds0, p0, q0, hv0, rfl, rfl, h0, hA1⟩ := trodAll_cons hA
  obtain ⟨rfl, rfl, rfl⟩ := trodAll_nil hA1
  obtain ⟨l⟩ := args
  simp only at hv0
  subst hv0
  obtain ⟨rfl, rfl⟩ := trodVars_none hV
  have hw0 : ∀ y, y ∈ DataW.weights Try.prog 39 d0 → y ≤ reachBytes := fun y hy => by
    have hm : y ∈ DataW.weightsEach Try.prog (#[39].toList ++ Rows.distTakesSpec.plain.varTypes Try.prog) ([d0] ++ []) := List.mem_append.2 (Or.inl hy)
    simpa using List.all_eq_true.1 hwt' y hm
  obtain ⟨a0, n0, c0, f0, rfl, hc0, hn0, hR0, hf0⟩ := open_bytesW (P := Try.prog) under_bytes (by kernel_rfl) (by kernel_rfl) (by rw [show Try.prog.bytesOf 5 = 1 by kernel_rfl]; decide) (hval 0 39 v0 rfl rfl) h0 hw0
  clear hA0 hval0
  refine (DistTakes_any n0 c0 a0 f0 W hR0 hc0 hn0 hf0).mono fun e W' ⟨he, hg⟩ => ?_
  subst he
  exact ⟨_, rfl, law_post laidOut hW' rfl rfl (tb := 4) rfl Try.underlying4 (by
      rw [Try.params4]
      intro t ht
      have hall : (([39] : List TypeId).all fun u => Try.prog.readableRec u && decide (u < Try.prog.types.size)) = true := by kernel_rfl
      have := List.all_eq_true.1 hall t (by simpa using ht)
      simpa using this) hg⟩

theorem distTakes_holds : Rows.DistTakesSaid :=
  OpenClaim.holds_of_wide 4 Try.f4 rfl rfl rfl rfl rfl rfl rfl ⟨rfl, rfl, rfl, rfl, rfl⟩ rfl rfl rfl rfl rfl (by kernel_rfl) Try.func4 (by kernel_rfl)
    (of_decide_eq_true (by kernel_rfl)) (by unfold Func.isWrapper; first | (rw [if_pos (by decide +kernel)]; kernel_rfl) | (rw [if_neg (by decide +kernel)]; exact ⟨rfl, rfl⟩))
    (fun os started H enc _ => distTakes_lifted os started H enc)

end Go.Proofs.Ytdagbighlgfhjaa
