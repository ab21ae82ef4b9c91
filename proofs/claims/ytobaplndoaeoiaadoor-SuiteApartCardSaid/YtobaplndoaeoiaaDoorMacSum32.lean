/-
  mac's sum of some texts, of the hash of Sum256.
-/
import Derived.Test.YtobaplndoaeoiaaDoorMacBase
import Derived.Test.YtobaplndoaeoiaaDoorSum32
import Derived.Test.YtobaplndoaeoiaaDoorSum64
namespace Go.Proofs.YtobaplndoaeoiaaDoor
open Go.RowKit

set_option maxRecDepth 100000
set_option maxHeartbeats 1000000

theorem msum32 (n lc : Nat) (la : Option Addr) (F K g off : Nat → Nat) (w : World) (hL : Laid w 1 2 F K) (hT : Texts w w.heap.size la n off g)
    (hg : ∀ i, g i < 256) (hF : ∀ i, F i < 2 ^ 64) (hK : ∀ i, K i < 2 ^ 64) (hn : n < 2 ^ 62) (hN : off n < 2 ^ 61) :
    Calls Tryd.prog 30 #[.int .u8 1, .slice la n lc] w (Gave w 74 32 (sumOf 32 64 P32 K (H32 F) g (off n))) := by
  go_enter Tryd.func30, Tryd.ntmps30
  go_wp2_with (first
    | (go_at_call 37; (with_reducible refine (Sum256_any n lc la F K g off _ hL hT hg hF hK hn hN).mono ?_); rintro e w1 ⟨rfl, hg1⟩; have hO1 := holds_alloc w1 74 .u8 32 (fun _ => 0) #[.int .u8 0, .int .u8 0, .int .u8 0, .int .u8 0, .int .u8 0, .int .u8 0, .int .u8 0, .int .u8 0, .int .u8 0, .int .u8 0, .int .u8 0, .int .u8 0, .int .u8 0, .int .u8 0, .int .u8 0, .int .u8 0, .int .u8 0, .int .u8 0, .int .u8 0, .int .u8 0, .int .u8 0, .int .u8 0, .int .u8 0, .int .u8 0, .int .u8 0, .int .u8 0, .int .u8 0, .int .u8 0, .int .u8 0, .int .u8 0, .int .u8 0, .int .u8 0] (by kernel_rfl))
    | refine wpList_store_row rfl 74 (.tmp 6) (.tmp 13) rfl w1.heap.size _ rfl rfl 74 _ hO1.block (by rw [cellsOf_size]; kernel_rfl) (by rw [cellsOf_size, cellsOf_size]) (cellsOf_all _ _ _) ?_)
  go_ret
  have hG1 := grown_setRow_new (grown_alloc hg1 (.cells #[.int .u8 0, .int .u8 0, .int .u8 0, .int .u8 0, .int .u8 0, .int .u8 0, .int .u8 0, .int .u8 0, .int .u8 0, .int .u8 0, .int .u8 0, .int .u8 0, .int .u8 0, .int .u8 0, .int .u8 0, .int .u8 0, .int .u8 0, .int .u8 0, .int .u8 0, .int .u8 0, .int .u8 0, .int .u8 0, .int .u8 0, .int .u8 0, .int .u8 0, .int .u8 0, .int .u8 0, .int .u8 0, .int .u8 0, .int .u8 0, .int .u8 0, .int .u8 0] 74)) w1.heap.size (cellsOf .u8 32 (sumOf 32 64 P32 K (H32 F) g (off n))) (Or.inl hg1.size)
  have hO2 := hO1.setRow .u8 32 (sumOf 32 64 P32 K (H32 F) g (off n))
  exact ⟨w1.heap.size, rfl, hg1.size, hO2, hG1⟩

theorem mblock32 (w : World) : Calls Tryd.prog 29 #[.int .u8 1] w fun e w' => e = .returned (.int .i64 64) ∧ w = w' := by
  go_enter Tryd.func29, Tryd.ntmps29
  go_wp2
  go_ret
  exact ⟨rfl, rfl⟩

theorem msumBytes32 (w : World) : Calls Tryd.prog 23 #[.int .u8 1] w fun e w' => e = .returned (.int .i64 32) ∧ w = w' := by
  go_enter Tryd.func23, Tryd.ntmps23
  go_wp2_with (go_at_call 29; refine (mblock32 _).mono ?_; rintro e w' ⟨rfl, rfl⟩)
  go_ret
  exact ⟨rfl, rfl⟩

theorem mknown32 (w : World) : Calls Tryd.prog 22 #[.int .u8 1] w fun e w' => e = .returned (.bool true) ∧ w = w' := by
  go_enter Tryd.func22, Tryd.ntmps22
  go_wp2
  go_ret
  exact ⟨rfl, rfl⟩

end Go.Proofs.YtobaplndoaeoiaaDoor
