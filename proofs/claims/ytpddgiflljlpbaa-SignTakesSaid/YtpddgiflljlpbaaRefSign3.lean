/-
  The reference's Same.
-/
import Derived.Test.YtpddgiflljlpbaaSignF
import Derived.Test.YtpddgiflljlpbaaWantRun
import Derived.Laws.StructEq
namespace Go.Proofs.Ytpddgiflljlpbaa
open Go.RowKit

set_option maxRecDepth 100000
set_option maxHeartbeats 4000000

theorem eq_id (f g : Nat → Nat) (w : World) : (binOp .eql 27 (.agg (cellsOf .u8 16 f)) (.agg (cellsOf .u8 16 g))).run Try.prog w = .ok (.bool (eqN 16 f g)) w := by
  obtain ⟨i0, hi, hz, hsz, hby⟩ := info_parts info_u8
  have he : (Op.equalIn 10000 27 (.agg (cellsOf .u8 16 f)) (.agg (cellsOf .u8 16 g))).run Try.prog w = .ok (eqN 16 f g) w := by
    rw [run_equalIn_array (P := Try.prog) w 9999 (cellsOf .u8 16 f) (cellsOf .u8 16 g) (t := 27) (e := 5) (n := 16) (by kernel_rfl) hi]
    rw [show Try.prog.cellsOf 5 = 1 by kernel_rfl]
    exact run_itemsN 9998 16 f g w (List.range 16) (fun i hi => List.mem_range.1 hi)
  go_simp
theorem eq_key (f g : Nat → Nat) (w : World) : (binOp .eql 31 (.agg (cellsOf .u8 32 f)) (.agg (cellsOf .u8 32 g))).run Try.prog w = .ok (.bool (eqN 32 f g)) w := by
  obtain ⟨i0, hi, hz, hsz, hby⟩ := info_parts info_u8
  have he : (Op.equalIn 10000 31 (.agg (cellsOf .u8 32 f)) (.agg (cellsOf .u8 32 g))).run Try.prog w = .ok (eqN 32 f g) w := by
    rw [run_equalIn_array (P := Try.prog) w 9999 (cellsOf .u8 32 f) (cellsOf .u8 32 g) (t := 31) (e := 5) (n := 32) (by kernel_rfl) hi]
    rw [show Try.prog.cellsOf 5 = 1 by kernel_rfl]
    exact run_itemsN 9998 32 f g w (List.range 32) (fun i hi => List.mem_range.1 hi)
  go_simp
theorem eq_dev (a b c d : Nat) (w : World) : (binOp .eql 29 (.agg #[.int .u8 a, .int .u8 b]) (.agg #[.int .u8 c, .int .u8 d])).run Try.prog w = .ok (.bool ((a : Int) == (c : Int) && (b : Int) == (d : Int))) w := by
  go_simp
  by_cases h1 : (a : Int) = c <;> by_cases h2 : (b : Int) = d <;> simp [h1, h2]
/-- Whether two signals are one. -/
def SV.same (x y : SV) : Bool := ((x.k : Int) == (y.k : Int)) && eqN 16 x.id y.id && ((x.ac : Int) == (y.ac : Int) && (x.dv : Int) == (y.dv : Int)) && ((x.ce : Int) == (y.ce : Int)) && eqN 32 x.key y.key && ((x.n : Int) == (y.n : Int)) && decide (strOf x.nd x.fd = strOf y.nd y.fd) && ((x.rs : Int) == (y.rs : Int))
structure SameSays (w : World) (b : Bool) (e : Ending) (w' : World) : Prop where
  ex : e = .returned (.bool b) ∧ w.grownBy w' none
theorem sgSame_any (D : Nat) (x y : SV) (w : World) (hx : x.Ok) (hy : y.Ok) (hRx : Rd w D x.ad x.nd x.fd) (hRy : Rd w D y.ad y.nd y.fd) :
    Calls Try.prog 14 #[.agg x.cells, .agg y.cells] w (SameSays w (x.same y)) := by
  have hX : SAt ((w.alloc (.cells x.cells 34)).alloc (.cells y.cells 34)) w.heap.size x := ⟨(show ((w.alloc (.cells x.cells 34)).alloc (.cells y.cells 34)).heap[w.heap.size]? = (w.alloc (.cells x.cells 34)).heap[w.heap.size]? by rw [heap_alloc_old]; simp).trans (heap_alloc_new w _)⟩
  have hY : SAt ((w.alloc (.cells x.cells 34)).alloc (.cells y.cells 34)) (w.heap.size + 1) y := by
    have := SAt.new y (w.alloc (.cells x.cells 34))
    rwa [World.size_alloc] at this
  have hg := grown_alloc (World.grownBy_alloc w (.cells x.cells 34) none) (.cells y.cells 34)
  have hs1 := run_string x.cd (hRx.grown hg (by simp)) hx.fd
  have hs2 := run_string y.cd (hRy.grown hg (by simp)) hy.fd
  have G := Lib.hid hg
  obtain ⟨b1, e1⟩ : ∃ b, b = ((x.k : Int) == (y.k : Int)) := ⟨_, rfl⟩
  obtain ⟨b2, e2⟩ : ∃ b, b = eqN 16 x.id y.id := ⟨_, rfl⟩
  obtain ⟨b3, e3⟩ : ∃ b, b = ((x.ac : Int) == (y.ac : Int) && (x.dv : Int) == (y.dv : Int)) := ⟨_, rfl⟩
  obtain ⟨b4, e4⟩ : ∃ b, b = ((x.ce : Int) == (y.ce : Int)) := ⟨_, rfl⟩
  obtain ⟨b5, e5⟩ : ∃ b, b = eqN 32 x.key y.key := ⟨_, rfl⟩
  obtain ⟨b6, e6⟩ : ∃ b, b = ((x.n : Int) == (y.n : Int)) := ⟨_, rfl⟩
  obtain ⟨b7, e7⟩ : ∃ b, b = decide (strOf x.nd x.fd = strOf y.nd y.fd) := ⟨_, rfl⟩
  obtain ⟨b8, e8⟩ : ∃ b, b = ((x.rs : Int) == (y.rs : Int)) := ⟨_, rfl⟩
  have hsm : x.same y = (b1 && b2 && b3 && b4 && b5 && b6 && b7 && b8) := by unfold SV.same; rw [e1, e2, e3, e4, e5, e6, e7, e8]
  rw [hsm]
  have k2 := eq_id x.id y.id ((w.alloc (.cells x.cells 34)).alloc (.cells y.cells 34))
  have k3 := eq_dev x.ac x.dv y.ac y.dv ((w.alloc (.cells x.cells 34)).alloc (.cells y.cells 34))
  have k5 := eq_key x.key y.key ((w.alloc (.cells x.cells 34)).alloc (.cells y.cells 34))
  rw [← e2] at k2
  rw [← e3] at k3
  rw [← e5] at k5
  have e7' : strOf x.nd x.fd = strOf y.nd y.fd ↔ b7 = true := by rw [e7, decide_eq_true_eq]
  obtain ⟨xk, xac, xdv, xce, xn, xd, xrs⟩ := hX.cells
  obtain ⟨yk, yac, ydv, yce, yn, yd, yrs⟩ := hY.cells
  obtain ⟨lx1, lx2, lx3, _⟩ := hX.loads
  obtain ⟨ly1, ly2, ly3, _⟩ := hY.loads
  replace e1 := e1.symm
  replace e4 := e4.symm
  replace e6 := e6.symm
  replace e8 := e8.symm
  generalize strOf x.nd x.fd = sx at *
  generalize strOf y.nd y.fd = sy at *
  clear hX hY hg hRx hRy hx hy e2 e3 e5 e7 hsm
  go_enter Try.func14, Try.ntmps14
  go_upto_region 1 with fail
  generalize ((w.alloc (.cells x.cells 34)).alloc (.cells y.cells 34)) = w2 at *
  cases b1 with
  | false =>
    go_wp2_with (first | (with_reducible refine wpList_here ?_; refine wpList_ld (p := .pointer (some ⟨w.heap.size, 1, none⟩)) 11 ?_ ?_ ?_ lx1 ?_; (· rfl); go_simp; (· kernel_rfl)) | (with_reducible refine wpList_here ?_; refine wpList_ld (p := .pointer (some ⟨w.heap.size + 1, 1, none⟩)) 13 ?_ ?_ ?_ ly1 ?_; (· rfl); go_simp; (· kernel_rfl)) | (with_reducible refine wpList_here ?_; refine wpList_ld (p := .pointer (some ⟨w.heap.size, 17, none⟩)) 18 ?_ ?_ ?_ lx2 ?_; (· rfl); go_simp; (· kernel_rfl)) | (with_reducible refine wpList_here ?_; refine wpList_ld (p := .pointer (some ⟨w.heap.size + 1, 17, none⟩)) 20 ?_ ?_ ?_ ly2 ?_; (· rfl); go_simp; (· kernel_rfl)) | (with_reducible refine wpList_here ?_; refine wpList_ld (p := .pointer (some ⟨w.heap.size, 20, none⟩)) 32 ?_ ?_ ?_ lx3 ?_; (· rfl); go_simp; (· kernel_rfl)) | (with_reducible refine wpList_here ?_; refine wpList_ld (p := .pointer (some ⟨w.heap.size + 1, 20, none⟩)) 34 ?_ ?_ ?_ ly3 ?_; (· rfl); go_simp; (· kernel_rfl)) | (with_reducible refine wpList_here ?_; refine wpList_eq (v1 := (.agg (cellsOf .u8 16 x.id))) (v2 := (.agg (cellsOf .u8 16 y.id))) 12 14 ?_ ?_ ?_ ?_ (by kernel_rfl) k2 ?_; (· rfl); go_simp; (· kernel_rfl); (· kernel_rfl)) | (with_reducible refine wpList_here ?_; refine wpList_eq (v1 := (.agg #[.int .u8 x.ac, .int .u8 x.dv])) (v2 := (.agg #[.int .u8 y.ac, .int .u8 y.dv])) 19 21 ?_ ?_ ?_ ?_ (by kernel_rfl) k3 ?_; (· rfl); go_simp; (· kernel_rfl); (· kernel_rfl)) | (with_reducible refine wpList_here ?_; refine wpList_eq (v1 := (.agg (cellsOf .u8 32 x.key))) (v2 := (.agg (cellsOf .u8 32 y.key))) 33 35 ?_ ?_ ?_ ?_ (by kernel_rfl) k5 ?_; (· rfl); go_simp; (· kernel_rfl); (· kernel_rfl)))
    go_ret
    exact ⟨rfl, G.out⟩
  | true =>
    cases b2 with
    | false =>
      go_wp2_with (first | (with_reducible refine wpList_here ?_; refine wpList_ld (p := .pointer (some ⟨w.heap.size, 1, none⟩)) 11 ?_ ?_ ?_ lx1 ?_; (· rfl); go_simp; (· kernel_rfl)) | (with_reducible refine wpList_here ?_; refine wpList_ld (p := .pointer (some ⟨w.heap.size + 1, 1, none⟩)) 13 ?_ ?_ ?_ ly1 ?_; (· rfl); go_simp; (· kernel_rfl)) | (with_reducible refine wpList_here ?_; refine wpList_ld (p := .pointer (some ⟨w.heap.size, 17, none⟩)) 18 ?_ ?_ ?_ lx2 ?_; (· rfl); go_simp; (· kernel_rfl)) | (with_reducible refine wpList_here ?_; refine wpList_ld (p := .pointer (some ⟨w.heap.size + 1, 17, none⟩)) 20 ?_ ?_ ?_ ly2 ?_; (· rfl); go_simp; (· kernel_rfl)) | (with_reducible refine wpList_here ?_; refine wpList_ld (p := .pointer (some ⟨w.heap.size, 20, none⟩)) 32 ?_ ?_ ?_ lx3 ?_; (· rfl); go_simp; (· kernel_rfl)) | (with_reducible refine wpList_here ?_; refine wpList_ld (p := .pointer (some ⟨w.heap.size + 1, 20, none⟩)) 34 ?_ ?_ ?_ ly3 ?_; (· rfl); go_simp; (· kernel_rfl)) | (with_reducible refine wpList_here ?_; refine wpList_eq (v1 := (.agg (cellsOf .u8 16 x.id))) (v2 := (.agg (cellsOf .u8 16 y.id))) 12 14 ?_ ?_ ?_ ?_ (by kernel_rfl) k2 ?_; (· rfl); go_simp; (· kernel_rfl); (· kernel_rfl)) | (with_reducible refine wpList_here ?_; refine wpList_eq (v1 := (.agg #[.int .u8 x.ac, .int .u8 x.dv])) (v2 := (.agg #[.int .u8 y.ac, .int .u8 y.dv])) 19 21 ?_ ?_ ?_ ?_ (by kernel_rfl) k3 ?_; (· rfl); go_simp; (· kernel_rfl); (· kernel_rfl)) | (with_reducible refine wpList_here ?_; refine wpList_eq (v1 := (.agg (cellsOf .u8 32 x.key))) (v2 := (.agg (cellsOf .u8 32 y.key))) 33 35 ?_ ?_ ?_ ?_ (by kernel_rfl) k5 ?_; (· rfl); go_simp; (· kernel_rfl); (· kernel_rfl)))
      go_ret
      exact ⟨rfl, G.out⟩
    | true =>
      cases b3 with
      | false =>
        go_wp2_with (first | (with_reducible refine wpList_here ?_; refine wpList_ld (p := .pointer (some ⟨w.heap.size, 1, none⟩)) 11 ?_ ?_ ?_ lx1 ?_; (· rfl); go_simp; (· kernel_rfl)) | (with_reducible refine wpList_here ?_; refine wpList_ld (p := .pointer (some ⟨w.heap.size + 1, 1, none⟩)) 13 ?_ ?_ ?_ ly1 ?_; (· rfl); go_simp; (· kernel_rfl)) | (with_reducible refine wpList_here ?_; refine wpList_ld (p := .pointer (some ⟨w.heap.size, 17, none⟩)) 18 ?_ ?_ ?_ lx2 ?_; (· rfl); go_simp; (· kernel_rfl)) | (with_reducible refine wpList_here ?_; refine wpList_ld (p := .pointer (some ⟨w.heap.size + 1, 17, none⟩)) 20 ?_ ?_ ?_ ly2 ?_; (· rfl); go_simp; (· kernel_rfl)) | (with_reducible refine wpList_here ?_; refine wpList_ld (p := .pointer (some ⟨w.heap.size, 20, none⟩)) 32 ?_ ?_ ?_ lx3 ?_; (· rfl); go_simp; (· kernel_rfl)) | (with_reducible refine wpList_here ?_; refine wpList_ld (p := .pointer (some ⟨w.heap.size + 1, 20, none⟩)) 34 ?_ ?_ ?_ ly3 ?_; (· rfl); go_simp; (· kernel_rfl)) | (with_reducible refine wpList_here ?_; refine wpList_eq (v1 := (.agg (cellsOf .u8 16 x.id))) (v2 := (.agg (cellsOf .u8 16 y.id))) 12 14 ?_ ?_ ?_ ?_ (by kernel_rfl) k2 ?_; (· rfl); go_simp; (· kernel_rfl); (· kernel_rfl)) | (with_reducible refine wpList_here ?_; refine wpList_eq (v1 := (.agg #[.int .u8 x.ac, .int .u8 x.dv])) (v2 := (.agg #[.int .u8 y.ac, .int .u8 y.dv])) 19 21 ?_ ?_ ?_ ?_ (by kernel_rfl) k3 ?_; (· rfl); go_simp; (· kernel_rfl); (· kernel_rfl)) | (with_reducible refine wpList_here ?_; refine wpList_eq (v1 := (.agg (cellsOf .u8 32 x.key))) (v2 := (.agg (cellsOf .u8 32 y.key))) 33 35 ?_ ?_ ?_ ?_ (by kernel_rfl) k5 ?_; (· rfl); go_simp; (· kernel_rfl); (· kernel_rfl)))
        go_ret
        exact ⟨rfl, G.out⟩
      | true =>
        cases b4 with
        | false =>
          go_wp2_with (first | (with_reducible refine wpList_here ?_; refine wpList_ld (p := .pointer (some ⟨w.heap.size, 1, none⟩)) 11 ?_ ?_ ?_ lx1 ?_; (· rfl); go_simp; (· kernel_rfl)) | (with_reducible refine wpList_here ?_; refine wpList_ld (p := .pointer (some ⟨w.heap.size + 1, 1, none⟩)) 13 ?_ ?_ ?_ ly1 ?_; (· rfl); go_simp; (· kernel_rfl)) | (with_reducible refine wpList_here ?_; refine wpList_ld (p := .pointer (some ⟨w.heap.size, 17, none⟩)) 18 ?_ ?_ ?_ lx2 ?_; (· rfl); go_simp; (· kernel_rfl)) | (with_reducible refine wpList_here ?_; refine wpList_ld (p := .pointer (some ⟨w.heap.size + 1, 17, none⟩)) 20 ?_ ?_ ?_ ly2 ?_; (· rfl); go_simp; (· kernel_rfl)) | (with_reducible refine wpList_here ?_; refine wpList_ld (p := .pointer (some ⟨w.heap.size, 20, none⟩)) 32 ?_ ?_ ?_ lx3 ?_; (· rfl); go_simp; (· kernel_rfl)) | (with_reducible refine wpList_here ?_; refine wpList_ld (p := .pointer (some ⟨w.heap.size + 1, 20, none⟩)) 34 ?_ ?_ ?_ ly3 ?_; (· rfl); go_simp; (· kernel_rfl)) | (with_reducible refine wpList_here ?_; refine wpList_eq (v1 := (.agg (cellsOf .u8 16 x.id))) (v2 := (.agg (cellsOf .u8 16 y.id))) 12 14 ?_ ?_ ?_ ?_ (by kernel_rfl) k2 ?_; (· rfl); go_simp; (· kernel_rfl); (· kernel_rfl)) | (with_reducible refine wpList_here ?_; refine wpList_eq (v1 := (.agg #[.int .u8 x.ac, .int .u8 x.dv])) (v2 := (.agg #[.int .u8 y.ac, .int .u8 y.dv])) 19 21 ?_ ?_ ?_ ?_ (by kernel_rfl) k3 ?_; (· rfl); go_simp; (· kernel_rfl); (· kernel_rfl)) | (with_reducible refine wpList_here ?_; refine wpList_eq (v1 := (.agg (cellsOf .u8 32 x.key))) (v2 := (.agg (cellsOf .u8 32 y.key))) 33 35 ?_ ?_ ?_ ?_ (by kernel_rfl) k5 ?_; (· rfl); go_simp; (· kernel_rfl); (· kernel_rfl)))
          go_ret
          exact ⟨rfl, G.out⟩
        | true =>
          cases b5 with
          | false =>
            go_wp2_with (first | (with_reducible refine wpList_here ?_; refine wpList_ld (p := .pointer (some ⟨w.heap.size, 1, none⟩)) 11 ?_ ?_ ?_ lx1 ?_; (· rfl); go_simp; (· kernel_rfl)) | (with_reducible refine wpList_here ?_; refine wpList_ld (p := .pointer (some ⟨w.heap.size + 1, 1, none⟩)) 13 ?_ ?_ ?_ ly1 ?_; (· rfl); go_simp; (· kernel_rfl)) | (with_reducible refine wpList_here ?_; refine wpList_ld (p := .pointer (some ⟨w.heap.size, 17, none⟩)) 18 ?_ ?_ ?_ lx2 ?_; (· rfl); go_simp; (· kernel_rfl)) | (with_reducible refine wpList_here ?_; refine wpList_ld (p := .pointer (some ⟨w.heap.size + 1, 17, none⟩)) 20 ?_ ?_ ?_ ly2 ?_; (· rfl); go_simp; (· kernel_rfl)) | (with_reducible refine wpList_here ?_; refine wpList_ld (p := .pointer (some ⟨w.heap.size, 20, none⟩)) 32 ?_ ?_ ?_ lx3 ?_; (· rfl); go_simp; (· kernel_rfl)) | (with_reducible refine wpList_here ?_; refine wpList_ld (p := .pointer (some ⟨w.heap.size + 1, 20, none⟩)) 34 ?_ ?_ ?_ ly3 ?_; (· rfl); go_simp; (· kernel_rfl)) | (with_reducible refine wpList_here ?_; refine wpList_eq (v1 := (.agg (cellsOf .u8 16 x.id))) (v2 := (.agg (cellsOf .u8 16 y.id))) 12 14 ?_ ?_ ?_ ?_ (by kernel_rfl) k2 ?_; (· rfl); go_simp; (· kernel_rfl); (· kernel_rfl)) | (with_reducible refine wpList_here ?_; refine wpList_eq (v1 := (.agg #[.int .u8 x.ac, .int .u8 x.dv])) (v2 := (.agg #[.int .u8 y.ac, .int .u8 y.dv])) 19 21 ?_ ?_ ?_ ?_ (by kernel_rfl) k3 ?_; (· rfl); go_simp; (· kernel_rfl); (· kernel_rfl)) | (with_reducible refine wpList_here ?_; refine wpList_eq (v1 := (.agg (cellsOf .u8 32 x.key))) (v2 := (.agg (cellsOf .u8 32 y.key))) 33 35 ?_ ?_ ?_ ?_ (by kernel_rfl) k5 ?_; (· rfl); go_simp; (· kernel_rfl); (· kernel_rfl)))
            go_ret
            exact ⟨rfl, G.out⟩
          | true =>
            cases b6 with
            | false =>
              go_wp2_with (first | (with_reducible refine wpList_here ?_; refine wpList_ld (p := .pointer (some ⟨w.heap.size, 1, none⟩)) 11 ?_ ?_ ?_ lx1 ?_; (· rfl); go_simp; (· kernel_rfl)) | (with_reducible refine wpList_here ?_; refine wpList_ld (p := .pointer (some ⟨w.heap.size + 1, 1, none⟩)) 13 ?_ ?_ ?_ ly1 ?_; (· rfl); go_simp; (· kernel_rfl)) | (with_reducible refine wpList_here ?_; refine wpList_ld (p := .pointer (some ⟨w.heap.size, 17, none⟩)) 18 ?_ ?_ ?_ lx2 ?_; (· rfl); go_simp; (· kernel_rfl)) | (with_reducible refine wpList_here ?_; refine wpList_ld (p := .pointer (some ⟨w.heap.size + 1, 17, none⟩)) 20 ?_ ?_ ?_ ly2 ?_; (· rfl); go_simp; (· kernel_rfl)) | (with_reducible refine wpList_here ?_; refine wpList_ld (p := .pointer (some ⟨w.heap.size, 20, none⟩)) 32 ?_ ?_ ?_ lx3 ?_; (· rfl); go_simp; (· kernel_rfl)) | (with_reducible refine wpList_here ?_; refine wpList_ld (p := .pointer (some ⟨w.heap.size + 1, 20, none⟩)) 34 ?_ ?_ ?_ ly3 ?_; (· rfl); go_simp; (· kernel_rfl)) | (with_reducible refine wpList_here ?_; refine wpList_eq (v1 := (.agg (cellsOf .u8 16 x.id))) (v2 := (.agg (cellsOf .u8 16 y.id))) 12 14 ?_ ?_ ?_ ?_ (by kernel_rfl) k2 ?_; (· rfl); go_simp; (· kernel_rfl); (· kernel_rfl)) | (with_reducible refine wpList_here ?_; refine wpList_eq (v1 := (.agg #[.int .u8 x.ac, .int .u8 x.dv])) (v2 := (.agg #[.int .u8 y.ac, .int .u8 y.dv])) 19 21 ?_ ?_ ?_ ?_ (by kernel_rfl) k3 ?_; (· rfl); go_simp; (· kernel_rfl); (· kernel_rfl)) | (with_reducible refine wpList_here ?_; refine wpList_eq (v1 := (.agg (cellsOf .u8 32 x.key))) (v2 := (.agg (cellsOf .u8 32 y.key))) 33 35 ?_ ?_ ?_ ?_ (by kernel_rfl) k5 ?_; (· rfl); go_simp; (· kernel_rfl); (· kernel_rfl)))
              go_ret
              exact ⟨rfl, G.out⟩
            | true =>
              cases b7 with
              | false =>
                have e7 : ¬ sx = sy := fun h => Bool.noConfusion (e7'.1 h)
                have e7c : ¬ sx.toList = sy.toList := fun h => e7 (ByteArray.ext (by simpa [ByteArray.toList_eq] using h))
                have e7d : (sx.toList == sy.toList) = false := beq_eq_false_iff_ne.2 e7c
                clear e7'
                go_wp2_with (first | (with_reducible refine wpList_here ?_; refine wpList_ld (p := .pointer (some ⟨w.heap.size, 1, none⟩)) 11 ?_ ?_ ?_ lx1 ?_; (· rfl); go_simp; (· kernel_rfl)) | (with_reducible refine wpList_here ?_; refine wpList_ld (p := .pointer (some ⟨w.heap.size + 1, 1, none⟩)) 13 ?_ ?_ ?_ ly1 ?_; (· rfl); go_simp; (· kernel_rfl)) | (with_reducible refine wpList_here ?_; refine wpList_ld (p := .pointer (some ⟨w.heap.size, 17, none⟩)) 18 ?_ ?_ ?_ lx2 ?_; (· rfl); go_simp; (· kernel_rfl)) | (with_reducible refine wpList_here ?_; refine wpList_ld (p := .pointer (some ⟨w.heap.size + 1, 17, none⟩)) 20 ?_ ?_ ?_ ly2 ?_; (· rfl); go_simp; (· kernel_rfl)) | (with_reducible refine wpList_here ?_; refine wpList_ld (p := .pointer (some ⟨w.heap.size, 20, none⟩)) 32 ?_ ?_ ?_ lx3 ?_; (· rfl); go_simp; (· kernel_rfl)) | (with_reducible refine wpList_here ?_; refine wpList_ld (p := .pointer (some ⟨w.heap.size + 1, 20, none⟩)) 34 ?_ ?_ ?_ ly3 ?_; (· rfl); go_simp; (· kernel_rfl)) | (with_reducible refine wpList_here ?_; refine wpList_eq (v1 := (.agg (cellsOf .u8 16 x.id))) (v2 := (.agg (cellsOf .u8 16 y.id))) 12 14 ?_ ?_ ?_ ?_ (by kernel_rfl) k2 ?_; (· rfl); go_simp; (· kernel_rfl); (· kernel_rfl)) | (with_reducible refine wpList_here ?_; refine wpList_eq (v1 := (.agg #[.int .u8 x.ac, .int .u8 x.dv])) (v2 := (.agg #[.int .u8 y.ac, .int .u8 y.dv])) 19 21 ?_ ?_ ?_ ?_ (by kernel_rfl) k3 ?_; (· rfl); go_simp; (· kernel_rfl); (· kernel_rfl)) | (with_reducible refine wpList_here ?_; refine wpList_eq (v1 := (.agg (cellsOf .u8 32 x.key))) (v2 := (.agg (cellsOf .u8 32 y.key))) 33 35 ?_ ?_ ?_ ?_ (by kernel_rfl) k5 ?_; (· rfl); go_simp; (· kernel_rfl); (· kernel_rfl)))
                go_ret
                exact ⟨rfl, G.out⟩
              | true =>
                obtain rfl := e7'.2 rfl
                clear e7'
                cases b8 with
                | false =>
                  go_wp2_with (first | (with_reducible refine wpList_here ?_; refine wpList_ld (p := .pointer (some ⟨w.heap.size, 1, none⟩)) 11 ?_ ?_ ?_ lx1 ?_; (· rfl); go_simp; (· kernel_rfl)) | (with_reducible refine wpList_here ?_; refine wpList_ld (p := .pointer (some ⟨w.heap.size + 1, 1, none⟩)) 13 ?_ ?_ ?_ ly1 ?_; (· rfl); go_simp; (· kernel_rfl)) | (with_reducible refine wpList_here ?_; refine wpList_ld (p := .pointer (some ⟨w.heap.size, 17, none⟩)) 18 ?_ ?_ ?_ lx2 ?_; (· rfl); go_simp; (· kernel_rfl)) | (with_reducible refine wpList_here ?_; refine wpList_ld (p := .pointer (some ⟨w.heap.size + 1, 17, none⟩)) 20 ?_ ?_ ?_ ly2 ?_; (· rfl); go_simp; (· kernel_rfl)) | (with_reducible refine wpList_here ?_; refine wpList_ld (p := .pointer (some ⟨w.heap.size, 20, none⟩)) 32 ?_ ?_ ?_ lx3 ?_; (· rfl); go_simp; (· kernel_rfl)) | (with_reducible refine wpList_here ?_; refine wpList_ld (p := .pointer (some ⟨w.heap.size + 1, 20, none⟩)) 34 ?_ ?_ ?_ ly3 ?_; (· rfl); go_simp; (· kernel_rfl)) | (with_reducible refine wpList_here ?_; refine wpList_eq (v1 := (.agg (cellsOf .u8 16 x.id))) (v2 := (.agg (cellsOf .u8 16 y.id))) 12 14 ?_ ?_ ?_ ?_ (by kernel_rfl) k2 ?_; (· rfl); go_simp; (· kernel_rfl); (· kernel_rfl)) | (with_reducible refine wpList_here ?_; refine wpList_eq (v1 := (.agg #[.int .u8 x.ac, .int .u8 x.dv])) (v2 := (.agg #[.int .u8 y.ac, .int .u8 y.dv])) 19 21 ?_ ?_ ?_ ?_ (by kernel_rfl) k3 ?_; (· rfl); go_simp; (· kernel_rfl); (· kernel_rfl)) | (with_reducible refine wpList_here ?_; refine wpList_eq (v1 := (.agg (cellsOf .u8 32 x.key))) (v2 := (.agg (cellsOf .u8 32 y.key))) 33 35 ?_ ?_ ?_ ?_ (by kernel_rfl) k5 ?_; (· rfl); go_simp; (· kernel_rfl); (· kernel_rfl)))
                  go_ret
                  exact ⟨rfl, G.out⟩
                | true =>
                  go_wp2_with (first | (with_reducible refine wpList_here ?_; refine wpList_ld (p := .pointer (some ⟨w.heap.size, 1, none⟩)) 11 ?_ ?_ ?_ lx1 ?_; (· rfl); go_simp; (· kernel_rfl)) | (with_reducible refine wpList_here ?_; refine wpList_ld (p := .pointer (some ⟨w.heap.size + 1, 1, none⟩)) 13 ?_ ?_ ?_ ly1 ?_; (· rfl); go_simp; (· kernel_rfl)) | (with_reducible refine wpList_here ?_; refine wpList_ld (p := .pointer (some ⟨w.heap.size, 17, none⟩)) 18 ?_ ?_ ?_ lx2 ?_; (· rfl); go_simp; (· kernel_rfl)) | (with_reducible refine wpList_here ?_; refine wpList_ld (p := .pointer (some ⟨w.heap.size + 1, 17, none⟩)) 20 ?_ ?_ ?_ ly2 ?_; (· rfl); go_simp; (· kernel_rfl)) | (with_reducible refine wpList_here ?_; refine wpList_ld (p := .pointer (some ⟨w.heap.size, 20, none⟩)) 32 ?_ ?_ ?_ lx3 ?_; (· rfl); go_simp; (· kernel_rfl)) | (with_reducible refine wpList_here ?_; refine wpList_ld (p := .pointer (some ⟨w.heap.size + 1, 20, none⟩)) 34 ?_ ?_ ?_ ly3 ?_; (· rfl); go_simp; (· kernel_rfl)) | (with_reducible refine wpList_here ?_; refine wpList_eq (v1 := (.agg (cellsOf .u8 16 x.id))) (v2 := (.agg (cellsOf .u8 16 y.id))) 12 14 ?_ ?_ ?_ ?_ (by kernel_rfl) k2 ?_; (· rfl); go_simp; (· kernel_rfl); (· kernel_rfl)) | (with_reducible refine wpList_here ?_; refine wpList_eq (v1 := (.agg #[.int .u8 x.ac, .int .u8 x.dv])) (v2 := (.agg #[.int .u8 y.ac, .int .u8 y.dv])) 19 21 ?_ ?_ ?_ ?_ (by kernel_rfl) k3 ?_; (· rfl); go_simp; (· kernel_rfl); (· kernel_rfl)) | (with_reducible refine wpList_here ?_; refine wpList_eq (v1 := (.agg (cellsOf .u8 32 x.key))) (v2 := (.agg (cellsOf .u8 32 y.key))) 33 35 ?_ ?_ ?_ ?_ (by kernel_rfl) k5 ?_; (· rfl); go_simp; (· kernel_rfl); (· kernel_rfl)))
                  go_ret
                  exact ⟨rfl, G.out⟩
end Go.Proofs.Ytpddgiflljlpbaa
