/-
  A field as it lies in memory.
-/
import Derived.Test.YtpkeolggehjjlaaWireM
import Derived.Test.YtpkeolggehjjlaaRd
import Derived.Test.YtpkeolggehjjlaaRelAll
import Derived.Test.YtpkeolggehjjlaaUnderRow
import Derived.Deep.MidRow
namespace Go.Proofs.Ytpkeolggehjjlaa
open Go.RowKit

set_option maxRecDepth 100000

/-- Numbers of 32 bits that are read. -/
structure RdL (w : World) (B : Nat) (a : Option Addr) (L : Nat) (g : Nat → Nat) : Prop where
  ex : 0 < L → ∃ tb o, a = some ⟨tb, o, none⟩ ∧ tb < B ∧ ∀ i, i < L → w.cell? ⟨tb, o + i, none⟩ = some (.int .u32 (g i))
theorem RdL.grown {w w' : World} {B : Nat} {a : Option Addr} {L : Nat} {g : Nat → Nat} (h : RdL w B a L g) {row : Option Nat} (hg : w.grownBy w' row) (hr : ∀ k, row = some k → B ≤ k) : RdL w' B a L g where
  ex := fun hL => by
    obtain ⟨tb, o, h1, h2, h3⟩ := h.ex hL
    exact ⟨tb, o, h1, h2, fun i hi => hg.cell (h3 i hi) (fun e => by have := hr tb e.symm; omega)⟩
/-- A field: its kind, number, bytes, list, bound; where bytes and list lie. -/
structure FV where
  k : Nat
  n : Nat
  ab : Option Addr
  nb : Nat
  cb : Nat
  fb : Nat → Nat
  al : Option Addr
  nl : Nat
  cl : Nat
  fl : Nat → Nat
  m : Int
/-- Its value. -/
def FV.val (x : FV) : Value := .agg #[.int .u8 x.k, .int .u64 x.n, .slice x.ab x.nb x.cb, .slice x.al x.nl x.cl, .int .i64 x.m]
/-- What is known of it. -/
structure FV.Ok (x : FV) : Prop where
  k : x.k < 256
  n : x.n < 18446744073709551616
  fb : ∀ i, x.fb i < 256
  fl : ∀ i, x.fl i < 4294967296
  lb : x.nb ≤ 1048576
  ll : x.nl ≤ 1048576
  mlo : -9223372036854775808 ≤ x.m
  mhi : x.m < 9223372036854775808
/-- What it leads to. -/
structure FV.Mem (x : FV) (W : World) (D : Nat) : Prop where
  b : Rd W D x.ab x.nb x.fb
  l : RdL W D x.al x.nl x.fl
theorem FV.Mem.grown {x : FV} {W W' : World} {D : Nat} (h : x.Mem W D) {row : Option Nat} (g : W.grownBy W' row) (hr : ∀ k, row = some k → D ≤ k) : x.Mem W' D := ⟨h.b.grown g hr, h.l.grown g hr⟩
/-- It lies there. -/
structure FAt (W : World) (tb o : Nat) (x : FV) : Prop where
  c0 : W.cell? ⟨tb, o, none⟩ = some (.int .u8 x.k)
  c1 : W.cell? ⟨tb, o + 1, none⟩ = some (.int .u64 x.n)
  c2 : W.cell? ⟨tb, o + 2, none⟩ = some (.slice x.ab x.nb x.cb)
  c3 : W.cell? ⟨tb, o + 3, none⟩ = some (.slice x.al x.nl x.cl)
  c4 : W.cell? ⟨tb, o + 4, none⟩ = some (.int .i64 x.m)
theorem FAt.grown {W W' : World} {tb o : Nat} {x : FV} (h : FAt W tb o x) {row : Option Nat} (g : W.grownBy W' row) (hr : some tb ≠ row) : FAt W' tb o x := ⟨g.cell h.c0 hr, g.cell h.c1 hr, g.cell h.c2 hr, g.cell h.c3 hr, g.cell h.c4 hr⟩
/-- Fields in a slice. -/
structure Flds (W : World) (D : Nat) (a : Option Addr) (n : Nat) (X : Nat → FV) : Prop where
  ex : 0 < n → ∃ tb o, a = some ⟨tb, o, none⟩ ∧ tb < D ∧ ∀ i, i < n → FAt W tb (o + i * 5) (X i)
  mem : ∀ i, i < n → (X i).Mem W D
  ok : ∀ i, (X i).Ok
theorem Flds.grown {W W' : World} {D : Nat} {a : Option Addr} {n : Nat} {X : Nat → FV} (h : Flds W D a n X) {row : Option Nat} (g : W.grownBy W' row) (hr : ∀ k, row = some k → D ≤ k) : Flds W' D a n X where
  ex := fun hn => by
    obtain ⟨tb, o, h1, h2, h3⟩ := h.ex hn
    exact ⟨tb, o, h1, h2, fun i hi => (h3 i hi).grown g (fun e => by have := hr tb e.symm; omega)⟩
  mem := fun i hi => (h.mem i hi).grown g hr
  ok := h.ok
/-- A field is loaded. -/
theorem run_field {o : Oper} {a : Act} {W : World} {tb off : Nat} {x : FV} {t : Tmp} (h : FAt W tb off x) (ho : o.op = .load 54 (.tmp t)) (ha : a.eval (.tmp t) = .pointer (some ⟨tb, off, none⟩)) :
    (execOp a.eval o).run Try.prog W = .ok (.value x.val) W := by
  obtain ⟨d, d1, d2⟩ := under_row (P := Try.prog) (T := 54) (by kernel_rfl)
  have hl := run_loadAt_mid (P := Try.prog) W tb off 54 [.int .u8 x.k, .int .u64 x.n, .slice x.ab x.nb x.cb, .slice x.al x.nl x.cl, .int .i64 x.m] d (fun j v hv => by
    match j, hv with
    | 0, hv => cases hv; exact h.c0
    | 1, hv => cases hv; exact h.c1
    | 2, hv => cases hv; exact h.c2
    | 3, hv => cases hv; exact h.c3
    | 4, hv => cases hv; exact h.c4) d1 (by cases d <;> first | rfl | exact d2) (by kernel_rfl)
  unfold execOp
  simp only [ho, ha, Sem.run_bind, Sem.run_pure, Result.andThen_ok, hl]
  rfl
theorem wpList_load_field {ops : Array Oper} {Q : Exit → Act → World → Prop} {rest : List Oper} {o : Oper} {a : Act} {w : World} {tb off : Nat} {x : FV} (hgd : o.guard = none) (t : Tmp) (h : FAt w tb off x) (ho : o.op = .load 54 (.tmp t)) (ha : a.eval (.tmp t) = .pointer (some ⟨tb, off, none⟩))
    (hk : wpList Try.prog ops Q rest (a.put o.dst x.val) w) : wpList Try.prog ops Q (o :: rest) a w :=
  wpList_plain hgd fun _ hK => wp_yields (run_field h ho ha) (hK _ _ hk)
/-- A field that is put into a block of its own. -/
theorem FAt.new (x : FV) (W : World) : FAt (W.alloc (.cells #[.int .u8 x.k, .int .u64 x.n, .slice x.ab x.nb x.cb, .slice x.al x.nl x.cl, .int .i64 x.m] 54)) W.heap.size 0 x := by
  have hb := heap_alloc_new W (.cells #[.int .u8 x.k, .int .u64 x.n, .slice x.ab x.nb x.cb, .slice x.al x.nl x.cl, .int .i64 x.m] 54)
  refine ⟨?_, ?_, ?_, ?_, ?_⟩
  all_goals (rw [cell_of_row _ _ _ _ _ _ hb]; rfl)
end Go.Proofs.Ytpkeolggehjjlaa
