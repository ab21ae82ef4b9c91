/-
  sign: nothingMore.
-/
import Derived.Test.YtpddgiflljlpbaaSgMay
import Derived.Test.YtpddgiflljlpbaaRefSign3
namespace Go.Proofs.Ytpddgiflljlpbaa
open Go.RowKit

set_option maxRecDepth 100000
set_option maxHeartbeats 4000000

/-- Nothing beside kind and id. -/
def SV.nothing (x : SV) : Bool := ((x.ac : Int) == 0 && (x.dv : Int) == 0) && ((x.ce : Int) == 0) && eqN 32 x.key (fun _ => 0) && ((x.n : Int) == 0) && ((x.nd : Int) == 0) && ((x.rs : Int) == 0)
theorem nothingMore_any (x : SV) (w : World) : Calls Try.prog 24 #[.agg x.cells] w (SameSays w x.nothing) := by
  have hX := SAt.new x w
  have hg := World.grownBy_alloc w (.cells x.cells 34) none
  have G := Lib.hid hg
  obtain ⟨b1, e1⟩ : ∃ b, b = ((x.ac : Int) == 0 && (x.dv : Int) == 0) := ⟨_, rfl⟩
  obtain ⟨b2, e2⟩ : ∃ b, b = ((x.ce : Int) == 0) := ⟨_, rfl⟩
  obtain ⟨b3, e3⟩ : ∃ b, b = eqN 32 x.key (fun _ => 0) := ⟨_, rfl⟩
  obtain ⟨b4, e4⟩ : ∃ b, b = ((x.n : Int) == 0) := ⟨_, rfl⟩
  obtain ⟨b5, e5⟩ : ∃ b, b = ((x.nd : Int) == 0) := ⟨_, rfl⟩
  obtain ⟨b6, e6⟩ : ∃ b, b = ((x.rs : Int) == 0) := ⟨_, rfl⟩
  have hsm : x.nothing = (b1 && b2 && b3 && b4 && b5 && b6) := by unfold SV.nothing; rw [e1, e2, e3, e4, e5, e6]
  rw [hsm]
  have k1 : (binOp .eql 29 (.agg #[.int .u8 x.ac, .int .u8 x.dv]) (.agg #[.int .u8 0, .int .u8 0])).run Try.prog (w.alloc (.cells x.cells 34)) = .ok (.bool b1) (w.alloc (.cells x.cells 34)) := by
    have := eq_dev x.ac x.dv 0 0 (w.alloc (.cells x.cells 34))
    rw [e1]
    exact this
  have k3 := eq_key x.key (fun _ => 0) (w.alloc (.cells x.cells 34))
  rw [← e3] at k3
  obtain ⟨xk, xac, xdv, xce, xn, xd, xrs⟩ := hX.cells
  obtain ⟨l1, l2, l3, _⟩ := hX.loads
  replace e2 := e2.symm
  replace e4 := e4.symm
  replace e5 := e5.symm
  replace e6 := e6.symm
  clear hX hg e1 e3 hsm l1
  go_enter Try.func24, Try.ntmps24
  go_upto_region 1 with fail
  generalize hB : w.heap.size = B at *
  generalize (w.alloc (.cells x.cells 34)) = w2 at *
  cases b1 with
  | false =>
    go_wp2_with (first | (with_reducible refine wpList_here ?_; refine wpList_ld (p := .pointer (some ⟨B, 17, none⟩)) 3 ?_ ?_ ?_ l2 ?_; (· rfl); go_simp; (· kernel_rfl)) | (with_reducible refine wpList_here ?_; refine wpList_ld (p := .pointer (some ⟨B, 20, none⟩)) 13 ?_ ?_ ?_ l3 ?_; (· rfl); go_simp; (· kernel_rfl)) | (with_reducible refine wpList_here ?_; refine wpList_eq (v1 := (.agg #[.int .u8 x.ac, .int .u8 x.dv])) (v2 := (.agg #[.int .u8 0, .int .u8 0])) 4 5 ?_ ?_ ?_ ?_ (by kernel_rfl) k1 ?_; (· rfl); go_simp; (· kernel_rfl); (· kernel_rfl)) | (with_reducible refine wpList_here ?_; refine wpList_eq (v1 := (.agg (cellsOf .u8 32 x.key))) (v2 := (.agg (cellsOf .u8 32 (fun _ => 0)))) 14 15 ?_ ?_ ?_ ?_ (by kernel_rfl) k3 ?_; (· rfl); go_simp; (· kernel_rfl); (· kernel_rfl)))
    go_ret
    exact ⟨rfl, G.out⟩
  | true =>
    cases b2 with
    | false =>
      go_wp2_with (first | (with_reducible refine wpList_here ?_; refine wpList_ld (p := .pointer (some ⟨B, 17, none⟩)) 3 ?_ ?_ ?_ l2 ?_; (· rfl); go_simp; (· kernel_rfl)) | (with_reducible refine wpList_here ?_; refine wpList_ld (p := .pointer (some ⟨B, 20, none⟩)) 13 ?_ ?_ ?_ l3 ?_; (· rfl); go_simp; (· kernel_rfl)) | (with_reducible refine wpList_here ?_; refine wpList_eq (v1 := (.agg #[.int .u8 x.ac, .int .u8 x.dv])) (v2 := (.agg #[.int .u8 0, .int .u8 0])) 4 5 ?_ ?_ ?_ ?_ (by kernel_rfl) k1 ?_; (· rfl); go_simp; (· kernel_rfl); (· kernel_rfl)) | (with_reducible refine wpList_here ?_; refine wpList_eq (v1 := (.agg (cellsOf .u8 32 x.key))) (v2 := (.agg (cellsOf .u8 32 (fun _ => 0)))) 14 15 ?_ ?_ ?_ ?_ (by kernel_rfl) k3 ?_; (· rfl); go_simp; (· kernel_rfl); (· kernel_rfl)))
      go_ret
      exact ⟨rfl, G.out⟩
    | true =>
      cases b3 with
      | false =>
        go_wp2_with (first | (with_reducible refine wpList_here ?_; refine wpList_ld (p := .pointer (some ⟨B, 17, none⟩)) 3 ?_ ?_ ?_ l2 ?_; (· rfl); go_simp; (· kernel_rfl)) | (with_reducible refine wpList_here ?_; refine wpList_ld (p := .pointer (some ⟨B, 20, none⟩)) 13 ?_ ?_ ?_ l3 ?_; (· rfl); go_simp; (· kernel_rfl)) | (with_reducible refine wpList_here ?_; refine wpList_eq (v1 := (.agg #[.int .u8 x.ac, .int .u8 x.dv])) (v2 := (.agg #[.int .u8 0, .int .u8 0])) 4 5 ?_ ?_ ?_ ?_ (by kernel_rfl) k1 ?_; (· rfl); go_simp; (· kernel_rfl); (· kernel_rfl)) | (with_reducible refine wpList_here ?_; refine wpList_eq (v1 := (.agg (cellsOf .u8 32 x.key))) (v2 := (.agg (cellsOf .u8 32 (fun _ => 0)))) 14 15 ?_ ?_ ?_ ?_ (by kernel_rfl) k3 ?_; (· rfl); go_simp; (· kernel_rfl); (· kernel_rfl)))
        go_ret
        exact ⟨rfl, G.out⟩
      | true =>
        cases b4 with
        | false =>
          go_wp2_with (first | (with_reducible refine wpList_here ?_; refine wpList_ld (p := .pointer (some ⟨B, 17, none⟩)) 3 ?_ ?_ ?_ l2 ?_; (· rfl); go_simp; (· kernel_rfl)) | (with_reducible refine wpList_here ?_; refine wpList_ld (p := .pointer (some ⟨B, 20, none⟩)) 13 ?_ ?_ ?_ l3 ?_; (· rfl); go_simp; (· kernel_rfl)) | (with_reducible refine wpList_here ?_; refine wpList_eq (v1 := (.agg #[.int .u8 x.ac, .int .u8 x.dv])) (v2 := (.agg #[.int .u8 0, .int .u8 0])) 4 5 ?_ ?_ ?_ ?_ (by kernel_rfl) k1 ?_; (· rfl); go_simp; (· kernel_rfl); (· kernel_rfl)) | (with_reducible refine wpList_here ?_; refine wpList_eq (v1 := (.agg (cellsOf .u8 32 x.key))) (v2 := (.agg (cellsOf .u8 32 (fun _ => 0)))) 14 15 ?_ ?_ ?_ ?_ (by kernel_rfl) k3 ?_; (· rfl); go_simp; (· kernel_rfl); (· kernel_rfl)))
          go_ret
          exact ⟨rfl, G.out⟩
        | true =>
          cases b5 with
          | false =>
            go_wp2_with (first | (with_reducible refine wpList_here ?_; refine wpList_ld (p := .pointer (some ⟨B, 17, none⟩)) 3 ?_ ?_ ?_ l2 ?_; (· rfl); go_simp; (· kernel_rfl)) | (with_reducible refine wpList_here ?_; refine wpList_ld (p := .pointer (some ⟨B, 20, none⟩)) 13 ?_ ?_ ?_ l3 ?_; (· rfl); go_simp; (· kernel_rfl)) | (with_reducible refine wpList_here ?_; refine wpList_eq (v1 := (.agg #[.int .u8 x.ac, .int .u8 x.dv])) (v2 := (.agg #[.int .u8 0, .int .u8 0])) 4 5 ?_ ?_ ?_ ?_ (by kernel_rfl) k1 ?_; (· rfl); go_simp; (· kernel_rfl); (· kernel_rfl)) | (with_reducible refine wpList_here ?_; refine wpList_eq (v1 := (.agg (cellsOf .u8 32 x.key))) (v2 := (.agg (cellsOf .u8 32 (fun _ => 0)))) 14 15 ?_ ?_ ?_ ?_ (by kernel_rfl) k3 ?_; (· rfl); go_simp; (· kernel_rfl); (· kernel_rfl)))
            go_ret
            exact ⟨rfl, G.out⟩
          | true =>
            cases b6 with
            | false =>
              go_wp2_with (first | (with_reducible refine wpList_here ?_; refine wpList_ld (p := .pointer (some ⟨B, 17, none⟩)) 3 ?_ ?_ ?_ l2 ?_; (· rfl); go_simp; (· kernel_rfl)) | (with_reducible refine wpList_here ?_; refine wpList_ld (p := .pointer (some ⟨B, 20, none⟩)) 13 ?_ ?_ ?_ l3 ?_; (· rfl); go_simp; (· kernel_rfl)) | (with_reducible refine wpList_here ?_; refine wpList_eq (v1 := (.agg #[.int .u8 x.ac, .int .u8 x.dv])) (v2 := (.agg #[.int .u8 0, .int .u8 0])) 4 5 ?_ ?_ ?_ ?_ (by kernel_rfl) k1 ?_; (· rfl); go_simp; (· kernel_rfl); (· kernel_rfl)) | (with_reducible refine wpList_here ?_; refine wpList_eq (v1 := (.agg (cellsOf .u8 32 x.key))) (v2 := (.agg (cellsOf .u8 32 (fun _ => 0)))) 14 15 ?_ ?_ ?_ ?_ (by kernel_rfl) k3 ?_; (· rfl); go_simp; (· kernel_rfl); (· kernel_rfl)))
              go_ret
              exact ⟨rfl, G.out⟩
            | true =>
              go_wp2_with (first | (with_reducible refine wpList_here ?_; refine wpList_ld (p := .pointer (some ⟨B, 17, none⟩)) 3 ?_ ?_ ?_ l2 ?_; (· rfl); go_simp; (· kernel_rfl)) | (with_reducible refine wpList_here ?_; refine wpList_ld (p := .pointer (some ⟨B, 20, none⟩)) 13 ?_ ?_ ?_ l3 ?_; (· rfl); go_simp; (· kernel_rfl)) | (with_reducible refine wpList_here ?_; refine wpList_eq (v1 := (.agg #[.int .u8 x.ac, .int .u8 x.dv])) (v2 := (.agg #[.int .u8 0, .int .u8 0])) 4 5 ?_ ?_ ?_ ?_ (by kernel_rfl) k1 ?_; (· rfl); go_simp; (· kernel_rfl); (· kernel_rfl)) | (with_reducible refine wpList_here ?_; refine wpList_eq (v1 := (.agg (cellsOf .u8 32 x.key))) (v2 := (.agg (cellsOf .u8 32 (fun _ => 0)))) 14 15 ?_ ?_ ?_ ?_ (by kernel_rfl) k3 ?_; (· rfl); go_simp; (· kernel_rfl); (· kernel_rfl)))
              go_ret
              exact ⟨rfl, G.out⟩
end Go.Proofs.Ytpddgiflljlpbaa
