/-
  Expanded bytes of a key's block and an info (Sum256).
-/
import Derived.Test.YtobaplndoaeoiaaDoorKeyed32
import Derived.Laws.MakeOwn
namespace Go.Proofs.YtobaplndoaeoiaaDoor
open Go.RowKit

set_option maxRecDepth 100000
set_option maxHeartbeats 2000000

/-- A block's bytes t, an info's, and a number, side by side. -/
def cat332 (n0 : Nat) (t : Nat → Nat) (L : Nat) (info : Nat → Nat) (c : Nat) : Nat → Nat := fun j => if j < n0 then t j else if j < n0 + L then info (j - n0) else c
/-- Block i of what is expanded; block 0 is none. -/
def tOf32 (M : (Nat → Nat) → Nat → Nat → Nat) (L : Nat) (info : Nat → Nat) : Nat → Nat → Nat
  | 0 => fun _ => 0
  | i + 1 => M (cat332 (if i = 0 then 0 else 32) (tOf32 M L info i) L info (i + 1)) ((if i = 0 then 0 else 32) + (L + 1))
/-- What is expanded. -/
def outOf32 (M : (Nat → Nat) → Nat → Nat → Nat) (L : Nat) (info : Nat → Nat) : Nat → Nat := fun j => tOf32 M L info (j / 32 + 1) (j % 32)
/-- The MAC under a key's blocks. -/
def kmacOf32 (F K kin kout : Nat → Nat) : (Nat → Nat) → Nat → Nat → Nat := fun g N =>
  sumOf 32 64 P32 K (H32 F) (gcat32 64 kout (sumOf 32 64 P32 K (H32 F) (gcat32 64 kin g) (64 + N))) (64 + 32)

theorem kmacOf_lt32 (F K kin kout g : Nat → Nat) (N i : Nat) : kmacOf32 F K kin kout g N i < 256 := Nat.mod_lt _ (by decide)
theorem tOf_lt32 (F K kin kout : Nat → Nat) (L : Nat) (info : Nat → Nat) : ∀ i j, tOf32 (kmacOf32 F K kin kout) L info i j < 256
  | 0, _ => by simp [tOf32]
  | _ + 1, _ => kmacOf_lt32 F K kin kout _ _ _

/-- What is handed back: n bytes of a new block. -/
structure GaveF32 (w : World) (n : Nat) (f : Nat → Nat) (e : Ending) (w' : World) : Prop where
  ex : ∃ r, e = .returned (.slice (some ⟨r, 0, none⟩) n n) ∧ w.heap.size ≤ r ∧ Fill w' r n f ∧ w.grownBy w' none

theorem info_byte32 : (Tryd.prog.info? 5).map (fun i => (i.zero, i.size, i.bytes)) = some (some (.int .u8 0), 1, 1) := by kernel_rfl

theorem make32 (n : Nat) (hn : n < 2 ^ 40) (w : World) : ∃ c, (Instr.makeSlice 23 (.int .i64 n) (.int .i64 n)).run Tryd.prog w = .ok (.slice (some ⟨w.heap.size, 0, none⟩) n n) (w.alloc (.cells c 5)) ∧ Fill (w.alloc (.cells c 5)) w.heap.size n (fun _ => 0) := by
  obtain ⟨i0, hi, hz, hs, hby⟩ := info_parts info_byte32
  have hr := run_make (P := Tryd.prog) w 23 5 i0 (.int .u8 0) (by kernel_rfl) hi hz .i64 .i64 n n (by omega) (Int.le_refl _) (by rw [hby]; omega) (by omega)
  rw [hs] at hr
  simp only [Int.toNat_natCast, Nat.mul_one] at hr
  have hb := heap_alloc_new w (.cells (madeCells (Value.cells (.int .u8 0)) n) 5)
  refine ⟨_, hr, ⟨fun i hi => ?_, fun i => frozen_of_row _ _ _ _ _ hb⟩⟩
  rw [cell_of_row _ _ _ _ _ _ hb]
  simp [madeCells, hi, Value.cells, Nat.mod_one]

theorem Fill.copy32 {w : World} {r N : Nat} {f : Nat → Nat} (h : Fill w r N f) (o k : Nat) (g : Nat → Nat) (hk : o + k ≤ N) : Fill (w.setCells r o ((List.range k).map fun i => Value.int .u8 (g i))) r N (fun j => if o ≤ j ∧ j < o + k then g (j - o) else f j) where
  cell := fun j hj => by
    by_cases e : o ≤ j ∧ j < o + k
    · rw [if_pos e]
      have hl : j - o < ((List.range k).map fun i => Value.int .u8 (g i)).length := by simp; omega
      have := World.cell?_setCells_in r ((List.range k).map fun i => Value.int .u8 (g i)) o w (fun i hi => by
        have hi' : i < k := by simpa using hi
        rw [h.cell (o + i) (by omega)]; rfl) (j - o) hl
      rw [show o + (j - o) = j by omega] at this
      rw [this]
      simp
    · rw [if_neg e, World.cell?_setCells_out r _ _ w ⟨r, j, none⟩ (fun _ _ => by simp; omega)]
      exact h.cell j hj
  free := fun j => by rw [World.frozen?_setCells]; exact h.free j

theorem expanded32 (ri ro n L c : Nat) (ia : Option Addr) (F K info kin kout : Nat → Nat) (w : World) (hL : Laid w 1 2 F K) (hI : Rd w w.heap.size ia L info)
    (hg : ∀ i, info i < 256) (hF : ∀ i, F i < 2 ^ 64) (hK : ∀ i, K i < 2 ^ 64) (hc : L ≤ c) (hLn : L < 2 ^ 59) (hn0 : 1 ≤ n) (hn : n ≤ 255 * 32)
    (hki : ∀ i, i < 64 → w.cell? ⟨ri, i, none⟩ = some (.int .u8 (kin i))) (hko : ∀ i, i < 64 → w.cell? ⟨ro, i, none⟩ = some (.int .u8 (kout i))) (hkin : ∀ i, kin i < 256) (hkout : ∀ i, kout i < 256) :
    Calls Tryd.prog 25 #[.agg #[.int .u8 1, .slice (some ⟨ri, 0, none⟩) 64 64, .slice (some ⟨ro, 0, none⟩) 64 64], .slice ia L c, .int .i64 n] w
      (GaveF32 w n (outOf32 (kmacOf32 F K kin kout) L info)) := by
  have hgb := World.grownBy_alloc w (.cells #[.int .u8 1, .slice (some ⟨ri, 0, none⟩) 64 64, .slice (some ⟨ro, 0, none⟩) 64 64] 59) none
  have hbx := heap_alloc_new w (.cells #[.int .u8 1, .slice (some ⟨ri, 0, none⟩) 64 64, .slice (some ⟨ro, 0, none⟩) 64 64] 59)
  have hszb : (w.alloc (.cells #[.int .u8 1, .slice (some ⟨ri, 0, none⟩) 64 64, .slice (some ⟨ro, 0, none⟩) 64 64] 59)).heap.size = w.heap.size + 1 := by simp
  have hrl := World.block_lt_of_cell? w _ (hki 0 (by decide))
  have hrl2 := World.block_lt_of_cell? w _ (hko 0 (by decide))
  obtain ⟨mc, hmk, hFm⟩ := make32 n (by omega) (w.alloc (.cells #[.int .u8 1, .slice (some ⟨ri, 0, none⟩) 64 64, .slice (some ⟨ro, 0, none⟩) 64 64] 59))
  rw [hszb] at hmk hFm
  have Hszb := Lib.hid hszb
  clear hszb
  go_enter Tryd.func25, Tryd.ntmps25
  go_wp2_with fail
  have hbm := (World.grownBy_alloc (w.alloc (.cells #[.int .u8 1, .slice (some ⟨ri, 0, none⟩) 64 64, .slice (some ⟨ro, 0, none⟩) 64 64] 59)) (.cells mc 5) none)
  have hbx2 := (hbm.block w.heap.size (by rw [Hszb.out]; omega) (by simp)).trans hbx
  have hg2 := grown_trans hgb hbm
  have hz2 : ((w.alloc (.cells #[.int .u8 1, .slice (some ⟨ri, 0, none⟩) 64 64, .slice (some ⟨ro, 0, none⟩) 64 64] 59)).alloc (.cells mc 5)).heap.size = w.heap.size + 2 := by simp
  clear hbm hbx hgb hmk
  generalize (w.alloc (.cells #[.int .u8 1, .slice (some ⟨ri, 0, none⟩) 64 64, .slice (some ⟨ro, 0, none⟩) 64 64] 59)).alloc (.cells mc 5) = w2 at *
  generalize hbn : w.heap.size = bx at *
  have Hbn := Lib.hid hbn
  have Hz2 := Lib.hid hz2
  clear hbn hz2 Hszb
  go_loopw [8, 9, 10] (fun u8 u9 u10 wr => ∃ (i d : Nat) (ta : Option Addr), d ≤ n ∧ (d < n → d = i * 32 ∧ i < 255) ∧ u9 = .int .i64 d ∧ u10 = .int .u8 ((i + 1) % 256 : Nat) ∧ u8 = .slice ta (if i = 0 then 0 else 32) (if i = 0 then 0 else 32) ∧
      Rd wr wr.heap.size ta (if i = 0 then 0 else 32) (tOf32 (kmacOf32 F K kin kout) L info i) ∧ w.grownBy wr none ∧ wr.heap[bx]? = some (.cells #[.int .u8 1, .slice (some ⟨ri, 0, none⟩) 64 64, .slice (some ⟨ro, 0, none⟩) 64 64] 59 (0, 0)) ∧
      Fill wr (bx + 1) n (fun j => if j < d then outOf32 (kmacOf32 F K kin kout) L info j else 0)) (fun _ u9 _ _ => n - (intOf u9).toNat)
  case atStart => exact ⟨0, 0, none, by omega, fun _ => by omega, rfl, rfl, rfl, ⟨fun h => absurd h (by decide)⟩, hg2, hbx2, ⟨fun j hj => by simpa using hFm.cell j hj, hFm.free⟩⟩
  case round =>
    obtain ⟨i, d, ta, hd, hdi, rfl, rfl, rfl, hRt, hgr, hkr, hFr⟩ := hrel
    clear hg2 hbx2 hFm
    by_cases hlt : d < n
    · obtain ⟨hdi1, hi255⟩ := hdi hlt
      clear hdi
      obtain ⟨s, hs⟩ : ∃ s, s = if i = 0 then 0 else 32 := ⟨_, rfl⟩
      have hs2 : s ≤ 32 := by rw [hs]; split <;> omega
      rw [← hs] at hRt ⊢
      have hc1m : (i + 1) % 256 = i + 1 := by omega
      rw [hc1m]
      clear hc1m
      have htn : tOf32 (kmacOf32 F K kin kout) L info (i + 1) = kmacOf32 F K kin kout (cat332 s (tOf32 (kmacOf32 F K kin kout) L info i) L info (i + 1)) (s + (L + 1)) := by rw [tOf32, ← hs]
      have htl := tOf_lt32 F K kin kout L info i
      obtain ⟨c1, hc1⟩ : ∃ c1, c1 = i + 1 := ⟨_, rfl⟩
      rw [← hc1] at htn ⊢
      generalize htv : tOf32 (kmacOf32 F K kin kout) L info i = tv at *
      clear htv
      have Hs := Lib.hid hs
      have hc1b : c1 ≤ 255 := by omega
      have Hc1 := Lib.hid hc1
      have Htn := Lib.hid htn
      have Hdi1 := Lib.hid hdi1
      clear hs htn hdi1 hc1
      have ga := World.grownBy_alloc wr (.cells #[.int .u8 (c1 : Nat)] 5) none
      have ba := heap_alloc_new wr (.cells #[.int .u8 (c1 : Nat)] 5)
      have gb := World.grownBy_alloc (wr.alloc (.cells #[.int .u8 (c1 : Nat)] 5)) (.cells #[.slice ta s s, .slice ia L c, .slice (some ⟨wr.heap.size, 0, none⟩) 1 1] 23) none
      have bb := heap_alloc_new (wr.alloc (.cells #[.int .u8 (c1 : Nat)] 5)) (.cells #[.slice ta s s, .slice ia L c, .slice (some ⟨wr.heap.size, 0, none⟩) 1 1] 23)
      have za : (wr.alloc (.cells #[.int .u8 (c1 : Nat)] 5)).heap.size = wr.heap.size + 1 := by simp
      rw [za] at bb
      have gab := grown_trans ga gb
      have gwb := grown_trans hgr gab
      have zb : ((wr.alloc (.cells #[.int .u8 (c1 : Nat)] 5)).alloc (.cells #[.slice ta s s, .slice ia L c, .slice (some ⟨wr.heap.size, 0, none⟩) 1 1] 23)).heap.size = wr.heap.size + 2 := by simp
      have hTx : Texts ((wr.alloc (.cells #[.int .u8 (c1 : Nat)] 5)).alloc (.cells #[.slice ta s s, .slice ia L c, .slice (some ⟨wr.heap.size, 0, none⟩) 1 1] 23)) ((wr.alloc (.cells #[.int .u8 (c1 : Nat)] 5)).alloc (.cells #[.slice ta s s, .slice ia L c, .slice (some ⟨wr.heap.size, 0, none⟩) 1 1] 23)).heap.size
          (some ⟨wr.heap.size + 1, 0, none⟩) 3 (fun j => if j = 0 then 0 else if j = 1 then s else if j = 2 then s + L else s + (L + 1)) (cat332 s tv L info c1) := ⟨rfl, fun _ => ⟨wr.heap.size + 1, 0, rfl, by omega, fun j hj => by
        obtain rfl | rfl | rfl : j = 0 ∨ j = 1 ∨ j = 2 := by omega
        · refine ⟨ta, s, s, by rw [cell_of_row _ _ _ _ _ _ bb]; rfl, Nat.le_refl _, by simp, fun h => ?_⟩
          obtain ⟨tb, o, h1, h2, h3⟩ := hRt.ex h
          exact ⟨tb, o, h1, by omega, fun j hj => by rw [gab.cell (h3 j hj) (by simp)]; simp [cat332, hj]⟩
        · refine ⟨ia, L, c, by rw [cell_of_row _ _ _ _ _ _ bb]; rfl, hc, by simp, fun h => ?_⟩
          obtain ⟨tb, o, h1, h2, h3⟩ := hI.ex h
          have hwl := hgr.size
          rw [Hbn.out] at hwl
          refine ⟨tb, o, h1, by omega, fun j hj => ?_⟩
          rw [gwb.cell (h3 j hj) (by simp)]
          have e3 : s + j - s = j := by omega
          show _ = some (Value.int .u8 (cat332 s tv L info c1 (s + j) : Nat))
          simp only [cat332]
          rw [if_neg (by omega), if_pos (by omega), e3]
        · refine ⟨some ⟨wr.heap.size, 0, none⟩, 1, 1, by rw [cell_of_row _ _ _ _ _ _ bb]; rfl, Nat.le_refl _, by simp; omega, fun h => ⟨wr.heap.size, 0, rfl, by omega, fun j hj => ?_⟩⟩
          obtain rfl : j = 0 := by omega
          have hcc : (wr.alloc (.cells #[.int .u8 (c1 : Nat)] 5)).cell? ⟨wr.heap.size, 0, none⟩ = some (.int .u8 (c1 : Nat)) := by rw [cell_of_row _ _ _ _ _ _ ba]; rfl
          rw [Nat.zero_add, gb.cell hcc (by simp)]
          show _ = some (Value.int .u8 (cat332 s tv L info c1 (s + L + 0) : Nat))
          simp only [cat332]
          rw [if_neg (by omega), if_neg (by omega)]⟩⟩
      have hct : ∀ j, cat332 s tv L info c1 j < 256 := fun j => by
        unfold cat332
        split
        · exact htl _
        · split
          · exact hg _
          · omega
      have hkm := kmac32 ri ro 3 3 _ F K _ _ kin kout _ (hL.grown gwb (by simp) (by simp)) hTx hct hF hK (by decide) (by show s + (L + 1) < _; omega)
        (fun i hi => gwb.cell (hki i hi) (by simp)) (fun i hi => gwb.cell (hko i hi) (by simp)) hkin hkout
      have HKM := Lib.hid hkm
      have Hgwb := Lib.hid gwb
      have Hgab := Lib.hid gab
      have hlti : (d : Int) < n := by omega
      have Hzb := Lib.hid zb
      clear hkm hTx gwb gab ga ba gb bb za zb hct
      go_wp2_with (first
        | refine wpList_load_row rfl 59 (.tmp 3) rfl bx rfl 59 _ (0, 0) _ hkr Tryd.underlying59 rfl (by kernel_rfl) ?_)
      go_at_call 32
      with_reducible refine (HKM.out).mono ?_
      rintro e w3 ⟨rs, rfl, hrs, hOs, hg3⟩
      have hgn := grown_trans Hgab.out hg3
      have hgw := grown_trans Hgwb.out hg3
      have hbl : bx + 1 < wr.heap.size := World.block_lt_of_cell? wr _ (hFr.cell 0 (by omega))
      have hk3 := hgn.block bx (by omega) (by simp)
      rw [hkr] at hk3
      have hF3 := hFr.grown (by omega) hgn (by simp)
      have e0 : sumOf 32 64 P32 K (H32 F) (gcat32 64 kout (sumOf 32 64 P32 K (H32 F) (gcat32 64 kin (cat332 s tv L info c1)) (64 + (s + (L + 1))))) (64 + 32) = tOf32 (kmacOf32 F K kin kout) L info c1 := by rw [Htn.out]; rfl
      have hO3 : Holds w3 rs 74 .u8 32 (tOf32 (kmacOf32 F K kin kout) L info c1) := by rw [← e0]; exact hOs
      clear hOs e0 hgr hFr hkr hRt
      have hgt : bx + 1 < w3.heap.size := World.block_lt_of_cell? w3 _ (hF3.cell 0 (by omega))
      generalize hT : tOf32 (kmacOf32 F K kin kout) L info c1 = tn at *
      have HT := Lib.hid hT
      clear hT
      obtain ⟨k, hk⟩ : ∃ k, k = Nat.min 32 (n - d) := ⟨_, rfl⟩
      have hk1 : k ≤ 32 := by rw [hk]; exact Nat.min_le_left _ _
      have hk2 : k ≤ n - d := by rw [hk]; exact Nat.min_le_right _ _
      have hk4 : k = 32 ∨ k = n - d := by rw [hk]; simp only [Nat.min_def]; split <;> simp
      obtain ⟨a2, ha2, ht1, ht2⟩ := run_rest (Q := Tryd.prog) (T := 23) (E := 5) (by kernel_rfl) (fun _ => by kernel_rfl) (bx + 1) 0 n n d (by omega) (Nat.le_refl _)
      obtain rfl := ha2 hlt
      rw [Nat.zero_add] at ht1 ht2
      have hcp := run_copy_cells (P := Tryd.prog) w3 23 23 3 5 (bx + 1) d (n - d) (n - d) ⟨rs, 0, none⟩ 32 32 ((List.range k).map fun j => Value.int .u8 (tn j)) (by kernel_rfl) (by kernel_rfl) (by simpa using hk)
        (fun j v hv => by
          have hj : j < k := by
            have := (List.getElem?_eq_some_iff.1 hv).1
            simpa using this
          have e : v = .int .u8 (tn j) := by simpa [hj] using hv.symm
          subst e
          rw [Addr.add_mid, Nat.zero_add]
          exact hO3.cell j (by omega))
        (fun j hj => by
          have hj' : j < k := by simpa using hj
          rw [hF3.cell (d + j) (by omega)]; rfl)
        (fun j _ => hF3.free _) (fun v hv => by
          obtain ⟨j, _, rfl⟩ := List.mem_map.1 hv
          rfl)
      rw [show ((List.range k).map fun j => Value.int .u8 (tn j)).length = k by simp] at hcp
      have hF4 := hF3.copy32 d k tn (by omega)
      have hg34 := grown_setCells (bx + 1) (Or.inr rfl) ((List.range k).map fun j => Value.int .u8 (tn j)) d _ (grown_refl w3 (some (bx + 1)))
      have hrb : bx + 1 < rs := by have := Hzb.out; omega
      have hO4 : Rd (w3.setCells (bx + 1) d ((List.range k).map fun j => Value.int .u8 (tn j))) (w3.setCells (bx + 1) d ((List.range k).map fun j => Value.int .u8 (tn j))).heap.size (some ⟨rs, 0, none⟩) 32 tn := ⟨fun _ => ⟨rs, 0, rfl, Nat.lt_of_lt_of_le hO3.lt hg34.size, fun j hj => by
        rw [Nat.zero_add]; exact hg34.cell (hO3.cell j hj) (by simp; omega)⟩⟩
      have hg4 := grown_setCells (bx + 1) (Or.inl (by rw [Hbn.out]; omega)) ((List.range k).map fun j => Value.int .u8 (tn j)) d _ hgw
      have hk4' : (w3.setCells (bx + 1) d ((List.range k).map fun j => Value.int .u8 (tn j))).heap[bx]? = some (.cells #[.int .u8 1, .slice (some ⟨ri, 0, none⟩) 64 64, .slice (some ⟨ro, 0, none⟩) 64 64] 59 (0, 0)) := by rw [hg34.block bx (by omega) (by simp), hk3]
      have hdk : (d : Int) + k ≤ n := by omega
      have Hk := Lib.hid hk
      clear hk
      go_wp2_with fail
      refine ⟨⟨i + 1, d + k, some ⟨rs, 0, none⟩, by omega, fun h => ?_, by go_num, ?_, rfl, ?_, hg4, hk4', ⟨fun j hj => ?_, hF4.free⟩⟩, by simp [intOf]; omega⟩
      · have := Hdi1.out; omega
      · rw [← Hc1.out]; go_num
      · rw [if_neg (by omega), ← Hc1.out, HT.out]; exact hO4
      · rw [hF4.cell j hj]
        have h1 := Hdi1.out
        by_cases e : d ≤ j ∧ j < d + k
        · have e1 : j < d + k := by omega
          have e2 : j / 32 + 1 = c1 := by rw [Hc1.out]; omega
          have e3 : j % 32 = j - d := by omega
          rw [if_pos e, if_pos e1, outOf32, e2, e3, HT.out]
        · rw [if_neg e]
          by_cases e1 : j < d
          · rw [if_pos e1, if_pos (by omega)]
          · rw [if_neg e1, if_neg (by omega)]
    · have hE : d = n := by omega
      have HE := Lib.hid hE
      have hge : (n : Int) ≤ d := by omega
      clear hE hd hdi hlt hRt
      generalize (if i = 0 then 0 else 32) = s0
      go_wp2_with fail
      go_ret
      refine ⟨bx + 1, rfl, by rw [Hbn.out]; omega, ⟨fun j hj => ?_, hFr.free⟩, hgr⟩
      rw [hFr.cell j hj, if_pos (by rw [HE.out]; exact hj)]

end Go.Proofs.YtobaplndoaeoiaaDoor
