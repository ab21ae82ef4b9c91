/-
  The helpers of layer 2's statements: bytes of one kind, and bytes that rise.
-/
import Derived.Test.YtfbcafohoabonaaDoorBytes
import Derived.Test.YtfbcafohoabonaaDoorMacErr
namespace Go.Proofs.YtfbcafohoabonaaDoor
open Go.RowKit

set_option maxRecDepth 100000
set_option maxHeartbeats 1000000

theorem like_any (x n : Nat) (hn : n ≤ 2 ^ 30) (w : World) : Calls Tryd.prog 15 #[.int .u8 x, .int .i64 n] w (GaveO w n (fun _ => x)) := by
  go_enter Tryd.func15, Tryd.ntmps15
  go_wp2_with fail
  go_loopw [5, 7] (fun v i wr => ∃ k : Nat, k ≤ n ∧ i = .int .i64 k ∧ OwnB wr w.heap.size v k (fun _ => x) ∧ w.grownBy wr none) (fun _ i _ => n - (intOf i).toNat)
  case atStart => exact ⟨0, by omega, rfl, OwnB.nil _ _ _, grown_refl w none⟩
  case round =>
    obtain ⟨k, hk, rfl, hown, hgr⟩ := hrel
    by_cases hlt : k < n
    · have i1 : (k : Int) < n := by omega
      have hb := heap_alloc_new wr (.cells #[.int .u8 x] 5)
      have hga := World.grownBy_alloc wr (.cells #[.int .u8 x] 5) none
      have hoa := hown.grown hga
      have hgr1 := grown_trans hgr hga
      have hc : (wr.alloc (.cells #[.int .u8 x] 5)).cell? ⟨wr.heap.size, 0, none⟩ = some (.int .u8 x) := by rw [cell_of_row _ _ _ _ _ _ hb]; rfl
      have HC : Hid (∀ j, j < 1 → (wr.alloc (.cells #[.int .u8 x] 5)).cell? ((⟨wr.heap.size, 0, none⟩ : Addr).add j) = some (.int .u8 x)) := Lib.hid (fun j hj => by
        obtain rfl : j = 0 := by omega
        exact hc)
      clear hb hga hown hgr
      go_wp2_with (at_builtin; refine wpList_app rfl _ _ rfl w.heap.size _ k _ rfl hoa ⟨wr.heap.size, 0, none⟩ 1 1 (fun _ => x) rfl HC.out (by omega) hgr1.size ?_; intro v' w1 hown' hg')
      have hg2 := grown_own hgr1 hoa hg'
      have ho2 : OwnB w1 w.heap.size v' (k + 1) (fun _ => x) := hown'.congr (fun i hi => by split <;> rfl)
      clear hown' hg' hoa hgr1 hc
      go_wp2_with fail
      exact ⟨⟨k + 1, by omega, by go_num, ho2, hg2⟩, by simp [intOf]; omega⟩
    · have hE : k = n := by omega
      have hge : (n : Int) ≤ k := by omega
      have HE := Lib.hid hE
      clear hE hk hlt
      go_wp2_with fail
      go_ret
      exact ⟨_, rfl, by rw [← HE.out]; exact hown, hgr⟩

theorem rise_any (x n : Nat) (hn : n ≤ 2 ^ 30) (w : World) : Calls Tryd.prog 16 #[.int .u8 x, .int .i64 n] w (GaveO w n (fun i => (x + i) % 256)) := by
  go_enter Tryd.func16, Tryd.ntmps16
  go_wp2_with fail
  go_loopw [5, 8] (fun v i wr => ∃ k : Nat, k ≤ n ∧ i = .int .i64 k ∧ OwnB wr w.heap.size v k (fun i => (x + i) % 256) ∧ w.grownBy wr none) (fun _ i _ => n - (intOf i).toNat)
  case atStart => exact ⟨0, by omega, rfl, OwnB.nil _ _ _, grown_refl w none⟩
  case round =>
    obtain ⟨k, hk, rfl, hown, hgr⟩ := hrel
    by_cases hlt : k < n
    · have i1 : (k : Int) < n := by omega
      have e1 : IntKind.u8.wrap ((x : Int) + IntKind.u8.wrap (k : Int)) = (((x + k) % 256 : Nat) : Int) := by simp only [IntKind.wrap_u8]; omega
      have e2 : ((x : Int) + (k : Int) % 256) % 256 = (((x + k) % 256 : Nat) : Int) := by omega
      obtain ⟨y, hy⟩ : ∃ y, y = (x + k) % 256 := ⟨_, rfl⟩
      rw [← hy] at e1 e2
      have hb := heap_alloc_new wr (.cells #[.int .u8 (y : Nat)] 5)
      have hga := World.grownBy_alloc wr (.cells #[.int .u8 (y : Nat)] 5) none
      have hoa := hown.grown hga
      have hgr1 := grown_trans hgr hga
      have hc : (wr.alloc (.cells #[.int .u8 (y : Nat)] 5)).cell? ⟨wr.heap.size, 0, none⟩ = some (.int .u8 (y : Nat)) := by rw [cell_of_row _ _ _ _ _ _ hb]; rfl
      have HC : Hid (∀ j, j < 1 → (wr.alloc (.cells #[.int .u8 (y : Nat)] 5)).cell? ((⟨wr.heap.size, 0, none⟩ : Addr).add j) = some (.int .u8 (y : Nat))) := Lib.hid (fun j hj => by
        obtain rfl : j = 0 := by omega
        exact hc)
      have Hy := Lib.hid hy
      clear hb hga hown hgr hy
      go_wp2_with (at_builtin; refine wpList_app rfl _ _ rfl w.heap.size _ k _ rfl hoa ⟨wr.heap.size, 0, none⟩ 1 1 (fun _ => y) rfl HC.out (by omega) hgr1.size ?_; intro v' w1 hown' hg')
      have hg2 := grown_own hgr1 hoa hg'
      have ho2 : OwnB w1 w.heap.size v' (k + 1) (fun i => (x + i) % 256) := hown'.congr (fun i hi => by
        by_cases e : i < k
        · simp [e]
        · obtain rfl : i = k := by omega
          simp [Hy.out])
      clear hown' hg' hoa hgr1 hc e1 e2
      go_wp2_with fail
      exact ⟨⟨k + 1, by omega, by go_num, ho2, hg2⟩, by simp [intOf]; omega⟩
    · have hE : k = n := by omega
      have hge : (n : Int) ≤ k := by omega
      have HE := Lib.hid hE
      clear hE hk hlt
      go_wp2_with fail
      go_ret
      exact ⟨_, rfl, by rw [← HE.out]; exact hown, hgr⟩

end Go.Proofs.YtfbcafohoabonaaDoor
