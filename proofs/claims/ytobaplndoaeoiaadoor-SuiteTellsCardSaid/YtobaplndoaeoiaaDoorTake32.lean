/-
  A block taken in by sha's machine of words of 32 bits.
-/
import Derived.Test.YtobaplndoaeoiaaDoorSched32
namespace Go.Proofs.YtobaplndoaeoiaaDoor
open Go.RowKit

set_option maxRecDepth 100000
set_option maxHeartbeats 1000000

theorem takeIn32 (m : Nat) (P F K st blk : Nat → Nat) (fl len : Nat) (w : World) (hM : Mach .u32 w m P 64 st blk fl len) (hL : Laid w 1 2 F K)
    (hb : ∀ i, blk i < 256) (hP : ∀ i, 0 < P i ∧ P i < 32) (hs : ∀ i, st i < 2 ^ 32) (hK : ∀ i, K i < 2 ^ 64) :
    Calls Tryd.prog 68 #[.pointer (some ⟨m, 0, none⟩)] w fun e w' => e = .returned (.tuple #[]) ∧ w.grownBy w' (some m) ∧ Mach .u32 w' m P 64 (compress 32 64 P K st blk) blk 0 len := by
  have hml := hM.lt
  go_enter Tryd.func68, Tryd.ntmps68
  go_wp2_with (first
    | (go_at_call 73; refine (schedule32 m P st blk fl len _ hM hb hP).mono ?_; rintro e w1 ⟨rfl, hg1⟩; have hH0 := holds_alloc w1 116 .u32 80 (fun _ => 0) Tryd.zeroCells116 (by kernel_rfl))
    | refine wpList_store_row rfl 116 (.tmp 2) (.tmp 17) rfl w1.heap.size _ rfl rfl 116 _ hH0.block (by rw [cellsOf_size]; kernel_rfl) (by rw [cellsOf_size, cellsOf_size]) (cellsOf_all _ _ _) ?_)
  have hH1 := hH0.setRow .u32 80 (wordsTo 32 P blk 64)
  have hG1 : w.grownBy ((w1.alloc (Obj.cells Tryd.zeroCells116 116)).setRow w1.heap.size (cellsOf .u32 80 (wordsTo 32 P blk 64))) none :=
    grown_setRow_new (grown_alloc hg1 _) _ _ (Or.inl hg1.size)
  have hB1 : w.heap.size ≤ w1.heap.size := hg1.size
  generalize (w1.alloc (Obj.cells Tryd.zeroCells116 116)).setRow w1.heap.size (cellsOf .u32 80 (wordsTo 32 P blk 64)) = w2 at *
  generalize w1.heap.size = B at *
  clear hH0 hg1
  have hM2 := hM.grown hG1 (by simp)
  have s0 : w2.cell? ⟨m, 13, none⟩ = some (.int .u32 (st 0)) := hM2.state 0 (by omega)
  have s1 : w2.cell? ⟨m, 14, none⟩ = some (.int .u32 (st 1)) := hM2.state 1 (by omega)
  have s2 : w2.cell? ⟨m, 15, none⟩ = some (.int .u32 (st 2)) := hM2.state 2 (by omega)
  have s3 : w2.cell? ⟨m, 16, none⟩ = some (.int .u32 (st 3)) := hM2.state 3 (by omega)
  have s4 : w2.cell? ⟨m, 17, none⟩ = some (.int .u32 (st 4)) := hM2.state 4 (by omega)
  have s5 : w2.cell? ⟨m, 18, none⟩ = some (.int .u32 (st 5)) := hM2.state 5 (by omega)
  have s6 : w2.cell? ⟨m, 19, none⟩ = some (.int .u32 (st 6)) := hM2.state 6 (by omega)
  have s7 : w2.cell? ⟨m, 20, none⟩ = some (.int .u32 (st 7)) := hM2.state 7 (by omega)
  have r0 : w2.cell? ⟨m, 12, none⟩ = some (.int .i64 64) := hM2.rounds
  go_quiet (fail)
  go_wp2
  go_quiet (fail)
  go_wp2
  have hL2 := hL.grown hG1 (by simp) (by simp)
  have r0' := r0
  clear s0 s1 s2 s3 s4 s5 s6 s7 r0
  generalize hw3 : w2.drewN _ = w3
  have hG2 : w2.grownBy w3 none := by rw [← hw3]; exact grown_drewN (grown_refl _ _) _
  clear hw3
  go_loopw [3, 4, 5, 6, 7, 8, 9, 10, 62] (fun ua ub uc ud ue uf ug uh ut wr => ∃ (t : Nat) (v : Oct), t ≤ 64 ∧ ut = .int .i64 t ∧ ua = .int .u32 v.a ∧ ub = .int .u32 v.b ∧ uc = .int .u32 v.c ∧ ud = .int .u32 v.d ∧ ue = .int .u32 v.e ∧ uf = .int .u32 v.f ∧ ug = .int .u32 v.g ∧ uh = .int .u32 v.h ∧
      Hid (v = rnds 32 P (fun t => K t / 2 ^ (64 - 32)) (word 32 P blk) (Oct.of st) t) ∧ w2.grownBy wr none) (fun _ _ _ _ _ _ _ _ ut _ => 64 - (intOf ut).toNat)
  case atStart => exact ⟨0, Oct.of st, by omega, rfl, rfl, rfl, rfl, rfl, rfl, rfl, rfl, rfl, rfl, hG2⟩
  case round =>
    obtain ⟨t, v, ht, rfl, rfl, rfl, rfl, rfl, rfl, rfl, rfl, rfl, hv, hg⟩ := hrel
    have hM3 := hM2.grown hg (by simp)
    have hL3 := hL2.grown hg (by simp) (by simp)
    have hH3 := hH1.grown hg (by simp)
    have hvl : v.Lt (2 ^ 32) := by
      rw [hv.out]; exact rnds_lt 32 P _ _ _ ⟨hs 0, hs 1, hs 2, hs 3, hs 4, hs 5, hs 6, hs 7⟩ t
    by_cases htt : t < 64
    · have ht1 : (t : Int) < 64 := by omega
      have ht2 : (t : Int) < 80 := by omega
      have p3 : wr.cell? ⟨m, 3, none⟩ = some (.int .u64 (P 3)) := hM3.by_ 3 (by omega)
      have p4 : wr.cell? ⟨m, 4, none⟩ = some (.int .u64 (P 4)) := hM3.by_ 4 (by omega)
      have p5 : wr.cell? ⟨m, 5, none⟩ = some (.int .u64 (P 5)) := hM3.by_ 5 (by omega)
      have k1 : wr.cell? ⟨2, t, none⟩ = some (.int .u64 (K t)) := hL3.round_ t (by omega)
      have c1 := hH3.cell t (by omega)
      rw [show wordsTo 32 P blk 64 t = word 32 P blk t by simp [wordsTo, htt]] at c1
      go_wp2_with fail
      go_region_held3 (fun w' => w2.grownBy w' none ∧ w'.cell? ⟨m, 3, none⟩ = some (.int .u64 (P 3)) ∧ w'.cell? ⟨m, 4, none⟩ = some (.int .u64 (P 4)) ∧ w'.cell? ⟨m, 5, none⟩ = some (.int .u64 (P 5)) ∧
          w'.cell? ⟨2, t, none⟩ = some (.int .u64 (K t)) ∧ w'.cell? ⟨B, t, none⟩ = some (.int .u32 (word 32 P blk t)))
        (first
          | exact ⟨grown_drew hg, p3, p4, p5, k1, c1⟩
          | (go_split_ands; exact ⟨grown_trans (by assumption) hg', hg'.cell (by assumption) (by simp), hg'.cell (by assumption) (by simp), hg'.cell (by assumption) (by simp), hg'.cell (by assumption) (by simp), hg'.cell (by assumption) (by simp)⟩)
          | assumption)
        (first
          | (go_at_call 74; (with_reducible refine (turned32 _ _ _ _ _ hvl.e (hP 3) (hP 4) (hP 5)).mono ?_); rintro e w' ⟨rfl, hg'⟩)
          | (go_at_call 58; (with_reducible refine (upper32 _ _ (hK _)).mono ?_); rintro e w' ⟨rfl, rfl⟩))
      rename_i hHeld
      clear hHeld
      obtain ⟨KT, hKT⟩ : ∃ KT, KT = K t / 2 ^ (64 - 32) := ⟨_, rfl⟩
      rw [p_val32 P (K t) (word 32 P blk t) v hvl, ← hKT]
      have HKT := Lib.hid hKT
      clear hKT
      have hq := q_val32 P v hvl
      have HQ := Lib.hid hq
      clear hq
      have hg4 : w2.grownBy w' none := grown_trans hg (grown_trans (grown_drew (grown_refl _ _)) hg')
      have hM4 := hM2.grown hg4 (by simp)
      have p0 : w'.cell? ⟨m, 0, none⟩ = some (.int .u64 (P 0)) := hM4.by_ 0 (by omega)
      have p1 : w'.cell? ⟨m, 1, none⟩ = some (.int .u64 (P 1)) := hM4.by_ 1 (by omega)
      have p2 : w'.cell? ⟨m, 2, none⟩ = some (.int .u64 (P 2)) := hM4.by_ 2 (by omega)
      clear p3 p4 p5 k1 c1 hg' r0'
      go_wp2_with (go_at_call 74; (with_reducible refine (turned32 _ _ _ _ _ hvl.a (hP 0) (hP 1) (hP 2)).mono ?_); rintro e w5 ⟨rfl, hg5⟩)
      have hq := HQ.out
      have ha := add_val32 (rndP 32 P KT (word 32 P blk t) v) (rndQ 32 P v)
      have hd := add_val32 v.d (rndP 32 P KT (word 32 P blk t) v)
      refine ⟨⟨t + 1, rnd 32 P KT (word 32 P blk t) v, by omega, by go_num, congrArg (Value.int _) ?_, rfl, rfl, rfl, congrArg (Value.int _) ?_, rfl, rfl, rfl, ?_, grown_trans hg4 hg5⟩, by simp [intOf]; omega⟩
      · rw [← hq] at ha
        simp only [IntKind.wrap_u32] at ha ⊢
        exact ha
      · simp only [IntKind.wrap_u32] at hd ⊢
        exact hd
      · show rnd _ _ _ _ _ = _
        rw [HKT.out, hv.out]; rfl
    · have hR : t = 64 := by omega
      have hge : (64 : Int) ≤ t := by omega
      rw [hR] at hv
      clear hR htt ht
      go_wp2_with fail
      go_loopw [133] (fun ui wl => ∃ (i : Nat), i ≤ 8 ∧ ui = .int .i64 i ∧ w2.grownBy wl (some m) ∧ Mach .u32 wl m P 64 (fun j => if j < i then (st j + v.get j) % 2 ^ 32 else st j) blk fl len) (fun ui _ => 8 - (intOf ui).toNat)
      case atStart => exact ⟨0, by omega, rfl, grown_some hg, hM3.congr (fun _ _ => by simp) (fun _ _ => rfl)⟩
      case round =>
        clear hg hM3 hL3 hH3 hge
        obtain ⟨i, hi, rfl, hg, hM3⟩ := hrel
        by_cases hi8 : i < 8
        · have hi1 : (i : Int) < 8 := by omega
          have hx := run_indexOf (Q := Tryd.prog) (T := 105) (E := 88) (n := 8) (by kernel_rfl) (fun _ => by kernel_rfl) (fun _ => by kernel_rfl) #[.int .u32 v.a, .int .u32 v.b, .int .u32 v.c, .int .u32 v.d, .int .u32 v.e, .int .u32 v.f, .int .u32 v.g, .int .u32 v.h] i i rfl (.int .u32 (v.get i)) hi8 (cellsOf_get .u32 8 v.get i hi8)
          have c1 := hM3.state i hi8
          simp only [Nat.lt_irrefl, if_false] at c1
          have f1 := hM3.free (13 + i)
          go_wp2_with fail
          go_region
          have hsum := add_val32 (st i) (v.get i)
          have hM5 := ((hM3.setState i ((st i + v.get i) % 2 ^ 32) hi8).of_block (w' := (wr.setCell ⟨m, 13 + i, none⟩ (.int .u32 (((st i + v.get i) % 2 ^ 32 : Nat) : Int))).drew) rfl)
          have hg5 := grown_drew (grown_setCell_new hg ⟨m, 13 + i, none⟩ (.int .u32 (((st i + v.get i) % 2 ^ 32 : Nat) : Int)) (Or.inr rfl))
          have hM6 := hM5.congr (st' := fun j => if j < i + 1 then (st j + v.get j) % 2 ^ 32 else st j) (fun j hj => by
            by_cases e : j = i
            · subst e; simp [upd]
            · have e1 : (j < i + 1) = (j < i) := by simp; omega
              simp [upd, e, e1]) (fun _ _ => rfl)
          have HS := Lib.hid hsum
          clear hsum hM5 c1 f1
          go_wp2_with fail
          have hsum := HS.out
          refine ⟨⟨i + 1, by omega, by go_num, ?_, ?_⟩, by simp [intOf]; omega⟩
          · simp only [IntKind.wrap_u32] at hsum ⊢
            rw [hsum]; exact hg5
          · simp only [IntKind.wrap_u32] at hsum ⊢
            rw [hsum]; exact hM6
        · have h8 : i = 8 := by omega
          rw [h8] at hM3
          have h8' : (8 : Int) ≤ i := by omega
          clear h8 hi8 hi
          have c1 := hM3.filled
          have f1 := hM3.free 149
          have hM4 := hM3.setFilled 0
          have hG6 := grown_setCell_new (grown_trans (grown_some (row := some m) hG1) hg) ⟨m, 149, none⟩ (.int .i64 0) (Or.inr rfl)
          go_wp2_with fail
          go_end0
          refine ⟨rfl, hG6, hM4.congr ?_ (fun _ _ => rfl)⟩
          intro j hj
          simp only [hj, if_true, compress, ← hv.out]

end Go.Proofs.YtobaplndoaeoiaaDoor
