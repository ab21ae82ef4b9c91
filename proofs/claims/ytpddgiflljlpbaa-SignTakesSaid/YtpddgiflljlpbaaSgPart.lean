/-
  sign: the parts of a signal by its kind: what offer, answer, candidate, hangup, nothing and partOf answer.
-/
import Derived.Test.YtpddgiflljlpbaaSignF
import Derived.Test.YtpddgiflljlpbaaWantRun
import Derived.Laws.ResultCell
namespace Go.Proofs.Ytpddgiflljlpbaa
open Go.RowKit

set_option maxRecDepth 100000
set_option maxHeartbeats 4000000

/-- A closure over the block in which the signal's address lies. -/
def clo (n b : Nat) : Value := .func (.func n) #[] #[.pointer (some ⟨b, 0, none⟩)]
def bare (n : Nat) : Value := .func (.func n) #[] #[]
structure BoxAt (w : World) (b B : Nat) : Prop where
  cell : w.cell? ⟨b, 0, none⟩ = some (.pointer (some ⟨B, 0, none⟩))
theorem BoxAt.grown {w w' : World} {b B : Nat} (h : BoxAt w b B) {row : Option Nat} (g : w.grownBy w' row) (hr : some b ≠ row) : BoxAt w' b B := ⟨g.cell h.cell hr⟩
theorem BoxAt.lt {w : World} {b B : Nat} (h : BoxAt w b B) : b < w.heap.size := World.block_lt_of_cell? w _ h.cell
/-- What is answered: closures over a new block in which the address lies. -/
structure Parted (w : World) (B : Nat) (v : Nat → Value) (e : Ending) (w' : World) : Prop where
  ex : ∃ b, e = .returned (v b) ∧ w.heap.size ≤ b ∧ BoxAt w' b B ∧ w.grownBy w' none
theorem results_rowU {fn : Func} {p : Tmp} {ty : TypeId} (h : fn.results = #[.cell p ty]) (tmps : Array Value) (w : World) (g : Nat) (t : TypeId) (cs : Array Value) (fr : Nat × Nat)
    (hp : tmps.getD p undef = .pointer (some ⟨g, 0, none⟩)) (hg : w.heap[g]? = some (.cells cs t fr)) (hu : ((Try.prog.underlying ty).map (fun d => match d with | .struct _ | .array _ _ => true | _ => false)) = some true) (hi : (Try.prog.info? ty).map (·.size) = some cs.size) :
    (results fn tmps).run Try.prog w = .ok (.agg cs) w := by
  obtain ⟨d, h1, h2⟩ := under_row hu
  exact results_cell_row h tmps w g t cs fr d hp hg h1 (by cases d <;> first | rfl | exact h2) hi
theorem heap_old (w : World) (o : Obj) (b : Nat) (h : b < w.heap.size) : (w.alloc o).heap[b]? = w.heap[b]? := heap_alloc_old w o h
def offerC (b : Nat) : Array Value := #[clo 40 b, clo 41 b, clo 42 b, clo 43 b]
def answerC (b : Nat) : Array Value := #[bare 44, clo 45 b, clo 46 b, clo 47 b]
def candC (b : Nat) : Array Value := #[clo 48 b, clo 49 b, clo 52 b, clo 55 b]
def hangC (b : Nat) : Array Value := #[clo 56 b, clo 57 b, clo 58 b, clo 59 b]
def nothC : Array Value := #[bare 60, bare 61, bare 62, bare 63]
theorem offer_any (B : Nat) (w : World) : Calls Try.prog 31 #[.pointer (some ⟨B, 0, none⟩)] w (Parted w B (fun b => .agg (offerC b))) := by
  have hb : ((w.alloc (.cells #[.pointer (some ⟨B, 0, none⟩)] 52)).alloc (.cells #[.nilFunc, .nilFunc, .nilFunc, .nilFunc] 49)).heap[w.heap.size + 1]? = some (.cells #[.nilFunc, .nilFunc, .nilFunc, .nilFunc] 49 (0, 0)) := by
    have := heap_alloc_new (w.alloc (.cells #[.pointer (some ⟨B, 0, none⟩)] 52)) (.cells #[.nilFunc, .nilFunc, .nilFunc, .nilFunc] 49)
    rwa [World.size_alloc] at this
  have hx : BoxAt ((w.alloc (.cells #[.pointer (some ⟨B, 0, none⟩)] 52)).alloc (.cells #[.nilFunc, .nilFunc, .nilFunc, .nilFunc] 49)) w.heap.size B := ⟨cell_of_row _ _ _ _ _ _ (show ((w.alloc (.cells #[.pointer (some ⟨B, 0, none⟩)] 52)).alloc (.cells #[.nilFunc, .nilFunc, .nilFunc, .nilFunc] 49)).heap[w.heap.size]? = some (.cells #[.pointer (some ⟨B, 0, none⟩)] 52 (0, 0)) by
    rw [heap_old _ _ _ (by rw [World.size_alloc]; omega)]
    exact heap_alloc_new w _)⟩
  have hg := grown_alloc (World.grownBy_alloc w (.cells #[.pointer (some ⟨B, 0, none⟩)] 52) none) (.cells #[.nilFunc, .nilFunc, .nilFunc, .nilFunc] 49)
  have HX := Lib.hid hx
  have HG := Lib.hid hg
  clear hx hg
  go_enter Try.func31, Try.ntmps31
  go_wp2_with (refine wpList_store_row rfl 49 (.tmp 2) (.tmp 7) rfl (w.heap.size + 1) (offerC w.heap.size) rfl rfl 49 #[.nilFunc, .nilFunc, .nilFunc, .nilFunc] hb (by kernel_rfl) rfl (by simp [offerC, clo, Value.oneCell']) ?_)
  exact bodyPost_ret (v := .agg (offerC w.heap.size)) (results_rowU rfl _ _ (w.heap.size + 1) 49 _ (0, 0) rfl (setRow_heap _ _ _ _ _ _ hb) (by kernel_rfl) (by kernel_rfl)) rfl ⟨w.heap.size, rfl, Nat.le_refl _, ⟨(cell_setRow_other _ _ _ _ (by show w.heap.size ≠ w.heap.size + 1; omega)).trans HX.out.cell⟩, grown_setRow_new HG.out _ _ (Or.inl (by omega))⟩
theorem answer_any (B : Nat) (w : World) : Calls Try.prog 32 #[.pointer (some ⟨B, 0, none⟩)] w (Parted w B (fun b => .agg (answerC b))) := by
  have hb : ((w.alloc (.cells #[.pointer (some ⟨B, 0, none⟩)] 52)).alloc (.cells #[.nilFunc, .nilFunc, .nilFunc, .nilFunc] 49)).heap[w.heap.size + 1]? = some (.cells #[.nilFunc, .nilFunc, .nilFunc, .nilFunc] 49 (0, 0)) := by
    have := heap_alloc_new (w.alloc (.cells #[.pointer (some ⟨B, 0, none⟩)] 52)) (.cells #[.nilFunc, .nilFunc, .nilFunc, .nilFunc] 49)
    rwa [World.size_alloc] at this
  have hx : BoxAt ((w.alloc (.cells #[.pointer (some ⟨B, 0, none⟩)] 52)).alloc (.cells #[.nilFunc, .nilFunc, .nilFunc, .nilFunc] 49)) w.heap.size B := ⟨cell_of_row _ _ _ _ _ _ (show ((w.alloc (.cells #[.pointer (some ⟨B, 0, none⟩)] 52)).alloc (.cells #[.nilFunc, .nilFunc, .nilFunc, .nilFunc] 49)).heap[w.heap.size]? = some (.cells #[.pointer (some ⟨B, 0, none⟩)] 52 (0, 0)) by
    rw [heap_old _ _ _ (by rw [World.size_alloc]; omega)]
    exact heap_alloc_new w _)⟩
  have hg := grown_alloc (World.grownBy_alloc w (.cells #[.pointer (some ⟨B, 0, none⟩)] 52) none) (.cells #[.nilFunc, .nilFunc, .nilFunc, .nilFunc] 49)
  have HX := Lib.hid hx
  have HG := Lib.hid hg
  clear hx hg
  go_enter Try.func32, Try.ntmps32
  go_wp2_with (refine wpList_store_row rfl 49 (.tmp 2) (.tmp 6) rfl (w.heap.size + 1) (answerC w.heap.size) rfl rfl 49 #[.nilFunc, .nilFunc, .nilFunc, .nilFunc] hb (by kernel_rfl) rfl (by simp [answerC, clo, bare, Value.oneCell']) ?_)
  exact bodyPost_ret (v := .agg (answerC w.heap.size)) (results_rowU rfl _ _ (w.heap.size + 1) 49 _ (0, 0) rfl (setRow_heap _ _ _ _ _ _ hb) (by kernel_rfl) (by kernel_rfl)) rfl ⟨w.heap.size, rfl, Nat.le_refl _, ⟨(cell_setRow_other _ _ _ _ (by show w.heap.size ≠ w.heap.size + 1; omega)).trans HX.out.cell⟩, grown_setRow_new HG.out _ _ (Or.inl (by omega))⟩
theorem candidate_any (B : Nat) (w : World) : Calls Try.prog 33 #[.pointer (some ⟨B, 0, none⟩)] w (Parted w B (fun b => .agg (candC b))) := by
  have hb : ((w.alloc (.cells #[.pointer (some ⟨B, 0, none⟩)] 52)).alloc (.cells #[.nilFunc, .nilFunc, .nilFunc, .nilFunc] 49)).heap[w.heap.size + 1]? = some (.cells #[.nilFunc, .nilFunc, .nilFunc, .nilFunc] 49 (0, 0)) := by
    have := heap_alloc_new (w.alloc (.cells #[.pointer (some ⟨B, 0, none⟩)] 52)) (.cells #[.nilFunc, .nilFunc, .nilFunc, .nilFunc] 49)
    rwa [World.size_alloc] at this
  have hx : BoxAt ((w.alloc (.cells #[.pointer (some ⟨B, 0, none⟩)] 52)).alloc (.cells #[.nilFunc, .nilFunc, .nilFunc, .nilFunc] 49)) w.heap.size B := ⟨cell_of_row _ _ _ _ _ _ (show ((w.alloc (.cells #[.pointer (some ⟨B, 0, none⟩)] 52)).alloc (.cells #[.nilFunc, .nilFunc, .nilFunc, .nilFunc] 49)).heap[w.heap.size]? = some (.cells #[.pointer (some ⟨B, 0, none⟩)] 52 (0, 0)) by
    rw [heap_old _ _ _ (by rw [World.size_alloc]; omega)]
    exact heap_alloc_new w _)⟩
  have hg := grown_alloc (World.grownBy_alloc w (.cells #[.pointer (some ⟨B, 0, none⟩)] 52) none) (.cells #[.nilFunc, .nilFunc, .nilFunc, .nilFunc] 49)
  have HX := Lib.hid hx
  have HG := Lib.hid hg
  clear hx hg
  go_enter Try.func33, Try.ntmps33
  go_wp2_with (refine wpList_store_row rfl 49 (.tmp 2) (.tmp 7) rfl (w.heap.size + 1) (candC w.heap.size) rfl rfl 49 #[.nilFunc, .nilFunc, .nilFunc, .nilFunc] hb (by kernel_rfl) rfl (by simp [candC, clo, Value.oneCell']) ?_)
  exact bodyPost_ret (v := .agg (candC w.heap.size)) (results_rowU rfl _ _ (w.heap.size + 1) 49 _ (0, 0) rfl (setRow_heap _ _ _ _ _ _ hb) (by kernel_rfl) (by kernel_rfl)) rfl ⟨w.heap.size, rfl, Nat.le_refl _, ⟨(cell_setRow_other _ _ _ _ (by show w.heap.size ≠ w.heap.size + 1; omega)).trans HX.out.cell⟩, grown_setRow_new HG.out _ _ (Or.inl (by omega))⟩
theorem hangup_any (B : Nat) (w : World) : Calls Try.prog 34 #[.pointer (some ⟨B, 0, none⟩)] w (Parted w B (fun b => .agg (hangC b))) := by
  have hb : ((w.alloc (.cells #[.pointer (some ⟨B, 0, none⟩)] 52)).alloc (.cells #[.nilFunc, .nilFunc, .nilFunc, .nilFunc] 49)).heap[w.heap.size + 1]? = some (.cells #[.nilFunc, .nilFunc, .nilFunc, .nilFunc] 49 (0, 0)) := by
    have := heap_alloc_new (w.alloc (.cells #[.pointer (some ⟨B, 0, none⟩)] 52)) (.cells #[.nilFunc, .nilFunc, .nilFunc, .nilFunc] 49)
    rwa [World.size_alloc] at this
  have hx : BoxAt ((w.alloc (.cells #[.pointer (some ⟨B, 0, none⟩)] 52)).alloc (.cells #[.nilFunc, .nilFunc, .nilFunc, .nilFunc] 49)) w.heap.size B := ⟨cell_of_row _ _ _ _ _ _ (show ((w.alloc (.cells #[.pointer (some ⟨B, 0, none⟩)] 52)).alloc (.cells #[.nilFunc, .nilFunc, .nilFunc, .nilFunc] 49)).heap[w.heap.size]? = some (.cells #[.pointer (some ⟨B, 0, none⟩)] 52 (0, 0)) by
    rw [heap_old _ _ _ (by rw [World.size_alloc]; omega)]
    exact heap_alloc_new w _)⟩
  have hg := grown_alloc (World.grownBy_alloc w (.cells #[.pointer (some ⟨B, 0, none⟩)] 52) none) (.cells #[.nilFunc, .nilFunc, .nilFunc, .nilFunc] 49)
  have HX := Lib.hid hx
  have HG := Lib.hid hg
  clear hx hg
  go_enter Try.func34, Try.ntmps34
  go_wp2_with (refine wpList_store_row rfl 49 (.tmp 2) (.tmp 7) rfl (w.heap.size + 1) (hangC w.heap.size) rfl rfl 49 #[.nilFunc, .nilFunc, .nilFunc, .nilFunc] hb (by kernel_rfl) rfl (by simp [hangC, clo, Value.oneCell']) ?_)
  exact bodyPost_ret (v := .agg (hangC w.heap.size)) (results_rowU rfl _ _ (w.heap.size + 1) 49 _ (0, 0) rfl (setRow_heap _ _ _ _ _ _ hb) (by kernel_rfl) (by kernel_rfl)) rfl ⟨w.heap.size, rfl, Nat.le_refl _, ⟨(cell_setRow_other _ _ _ _ (by show w.heap.size ≠ w.heap.size + 1; omega)).trans HX.out.cell⟩, grown_setRow_new HG.out _ _ (Or.inl (by omega))⟩
theorem nothing_any (w : World) : Calls Try.prog 35 #[] w (fun e w' => e = .returned (.agg nothC) ∧ w.grownBy w' none) := by
  have hb := heap_alloc_new w (.cells #[.nilFunc, .nilFunc, .nilFunc, .nilFunc] 49)
  have HG := Lib.hid (World.grownBy_alloc w (.cells #[.nilFunc, .nilFunc, .nilFunc, .nilFunc] 49) none)
  go_enter Try.func35, Try.ntmps35
  go_wp2_with (refine wpList_store_row rfl 49 (.tmp 0) (.tmp 1) rfl w.heap.size nothC rfl rfl 49 #[.nilFunc, .nilFunc, .nilFunc, .nilFunc] hb (by kernel_rfl) rfl (by simp [nothC, bare, Value.oneCell']) ?_)
  exact bodyPost_ret (v := .agg nothC) (results_rowU rfl _ _ w.heap.size 49 _ (0, 0) rfl (setRow_heap _ _ _ _ _ _ hb) (by kernel_rfl) (by kernel_rfl)) rfl ⟨rfl, grown_setRow_new HG.out _ _ (Or.inl (Nat.le_refl _))⟩
theorem results_row2 {fn : Func} {p u : Tmp} {ty : TypeId} (h : fn.results = #[.cell p ty, .tmp u]) (tmps : Array Value) (w : World) (g : Nat) (t : TypeId) (cs : Array Value) (fr : Nat × Nat)
    (hp : tmps.getD p undef = .pointer (some ⟨g, 0, none⟩)) (hg : w.heap[g]? = some (.cells cs t fr)) (hu : ((Try.prog.underlying ty).map (fun d => match d with | .struct _ | .array _ _ => true | _ => false)) = some true) (hi : (Try.prog.info? ty).map (·.size) = some cs.size) {v : Value} (hv : tmps.getD u undef = v) :
    (results fn tmps).run Try.prog w = .ok (.tuple #[.agg cs, v]) w := by
  obtain ⟨d, h1, h2⟩ := under_row hu
  rw [results_cell_tmp h, hp, hv]
  simp [asAddr, run_loadVar_row w g t ty cs fr d hg h1 (by cases d <;> first | rfl | exact h2) hi, Result.andThen]
/-- What partOf answers, of a kind that has closures over the signal. -/
theorem partOf_offer (B : Nat) (w : World) (hk : w.cell? ⟨B, 0, none⟩ = some (.int .u8 1)) : Calls Try.prog 15 #[.pointer (some ⟨B, 0, none⟩)] w (Parted w B (fun b => .tuple #[.agg (offerC b), .bool true])) := by
  have hg := World.grownBy_alloc w (.cells #[.nilFunc, .nilFunc, .nilFunc, .nilFunc] 49) none
  have hb := heap_alloc_new w (.cells #[.nilFunc, .nilFunc, .nilFunc, .nilFunc] 49)
  have c0 := hg.cell hk (by simp)
  have HC := Lib.hid (offer_any B (w.alloc (.cells #[.nilFunc, .nilFunc, .nilFunc, .nilFunc] 49)))
  clear hk
  go_enter Try.func15, Try.ntmps15
  go_wp2_with fail
  go_at_call 31
  refine HC.out.mono ?_
  rintro e w2 ⟨b, rfl, hlt, hx, hg2⟩
  have hb2 := (hg2.block w.heap.size (by rw [World.size_alloc]; omega) (by simp)).trans hb
  rw [World.size_alloc] at hlt
  have HL := Lib.hid hlt
  have HX := Lib.hid hx
  have HG := Lib.hid (grown_trans hg hg2)
  clear hx hg hg2 hb c0 HC hlt
  go_wp2_with (refine wpList_store_row rfl 49 (.tmp 2) (.tmp 11) rfl w.heap.size (offerC b) rfl rfl 49 #[.nilFunc, .nilFunc, .nilFunc, .nilFunc] hb2 (by kernel_rfl) rfl (by simp [offerC, clo, Value.oneCell']) ?_)
  exact bodyPost_ret (v := .tuple #[.agg (offerC b), .bool true]) (results_row2 rfl _ _ w.heap.size 49 _ (0, 0) rfl (setRow_heap _ _ _ _ _ _ hb2) (by kernel_rfl) (by kernel_rfl) rfl) rfl ⟨b, rfl, by have := HL.out; omega, ⟨(cell_setRow_other _ _ _ _ (by show b ≠ w.heap.size; have := HL.out; omega)).trans HX.out.cell⟩, grown_setRow_new HG.out _ _ (Or.inl (Nat.le_refl _))⟩
theorem partOf_answer (B : Nat) (w : World) (hk : w.cell? ⟨B, 0, none⟩ = some (.int .u8 2)) : Calls Try.prog 15 #[.pointer (some ⟨B, 0, none⟩)] w (Parted w B (fun b => .tuple #[.agg (answerC b), .bool true])) := by
  have hg := World.grownBy_alloc w (.cells #[.nilFunc, .nilFunc, .nilFunc, .nilFunc] 49) none
  have hb := heap_alloc_new w (.cells #[.nilFunc, .nilFunc, .nilFunc, .nilFunc] 49)
  have c0 := hg.cell hk (by simp)
  have HC := Lib.hid (answer_any B (w.alloc (.cells #[.nilFunc, .nilFunc, .nilFunc, .nilFunc] 49)))
  clear hk
  go_enter Try.func15, Try.ntmps15
  go_wp2_with fail
  go_at_call 32
  refine HC.out.mono ?_
  rintro e w2 ⟨b, rfl, hlt, hx, hg2⟩
  have hb2 := (hg2.block w.heap.size (by rw [World.size_alloc]; omega) (by simp)).trans hb
  rw [World.size_alloc] at hlt
  have HL := Lib.hid hlt
  have HX := Lib.hid hx
  have HG := Lib.hid (grown_trans hg hg2)
  clear hx hg hg2 hb c0 HC hlt
  go_wp2_with (refine wpList_store_row rfl 49 (.tmp 2) (.tmp 15) rfl w.heap.size (answerC b) rfl rfl 49 #[.nilFunc, .nilFunc, .nilFunc, .nilFunc] hb2 (by kernel_rfl) rfl (by simp [answerC, clo, bare, Value.oneCell']) ?_)
  exact bodyPost_ret (v := .tuple #[.agg (answerC b), .bool true]) (results_row2 rfl _ _ w.heap.size 49 _ (0, 0) rfl (setRow_heap _ _ _ _ _ _ hb2) (by kernel_rfl) (by kernel_rfl) rfl) rfl ⟨b, rfl, by have := HL.out; omega, ⟨(cell_setRow_other _ _ _ _ (by show b ≠ w.heap.size; have := HL.out; omega)).trans HX.out.cell⟩, grown_setRow_new HG.out _ _ (Or.inl (Nat.le_refl _))⟩
theorem partOf_candidate (B : Nat) (w : World) (hk : w.cell? ⟨B, 0, none⟩ = some (.int .u8 3)) : Calls Try.prog 15 #[.pointer (some ⟨B, 0, none⟩)] w (Parted w B (fun b => .tuple #[.agg (candC b), .bool true])) := by
  have hg := World.grownBy_alloc w (.cells #[.nilFunc, .nilFunc, .nilFunc, .nilFunc] 49) none
  have hb := heap_alloc_new w (.cells #[.nilFunc, .nilFunc, .nilFunc, .nilFunc] 49)
  have c0 := hg.cell hk (by simp)
  have HC := Lib.hid (candidate_any B (w.alloc (.cells #[.nilFunc, .nilFunc, .nilFunc, .nilFunc] 49)))
  clear hk
  go_enter Try.func15, Try.ntmps15
  go_wp2_with fail
  go_at_call 33
  refine HC.out.mono ?_
  rintro e w2 ⟨b, rfl, hlt, hx, hg2⟩
  have hb2 := (hg2.block w.heap.size (by rw [World.size_alloc]; omega) (by simp)).trans hb
  rw [World.size_alloc] at hlt
  have HL := Lib.hid hlt
  have HX := Lib.hid hx
  have HG := Lib.hid (grown_trans hg hg2)
  clear hx hg hg2 hb c0 HC hlt
  go_wp2_with (refine wpList_store_row rfl 49 (.tmp 2) (.tmp 19) rfl w.heap.size (candC b) rfl rfl 49 #[.nilFunc, .nilFunc, .nilFunc, .nilFunc] hb2 (by kernel_rfl) rfl (by simp [candC, clo, Value.oneCell']) ?_)
  exact bodyPost_ret (v := .tuple #[.agg (candC b), .bool true]) (results_row2 rfl _ _ w.heap.size 49 _ (0, 0) rfl (setRow_heap _ _ _ _ _ _ hb2) (by kernel_rfl) (by kernel_rfl) rfl) rfl ⟨b, rfl, by have := HL.out; omega, ⟨(cell_setRow_other _ _ _ _ (by show b ≠ w.heap.size; have := HL.out; omega)).trans HX.out.cell⟩, grown_setRow_new HG.out _ _ (Or.inl (Nat.le_refl _))⟩
theorem partOf_hangup (B : Nat) (w : World) (hk : w.cell? ⟨B, 0, none⟩ = some (.int .u8 5)) : Calls Try.prog 15 #[.pointer (some ⟨B, 0, none⟩)] w (Parted w B (fun b => .tuple #[.agg (hangC b), .bool true])) := by
  have hg := World.grownBy_alloc w (.cells #[.nilFunc, .nilFunc, .nilFunc, .nilFunc] 49) none
  have hb := heap_alloc_new w (.cells #[.nilFunc, .nilFunc, .nilFunc, .nilFunc] 49)
  have c0 := hg.cell hk (by simp)
  have HC := Lib.hid (hangup_any B (w.alloc (.cells #[.nilFunc, .nilFunc, .nilFunc, .nilFunc] 49)))
  clear hk
  go_enter Try.func15, Try.ntmps15
  go_wp2_with fail
  go_at_call 34
  refine HC.out.mono ?_
  rintro e w2 ⟨b, rfl, hlt, hx, hg2⟩
  have hb2 := (hg2.block w.heap.size (by rw [World.size_alloc]; omega) (by simp)).trans hb
  rw [World.size_alloc] at hlt
  have HL := Lib.hid hlt
  have HX := Lib.hid hx
  have HG := Lib.hid (grown_trans hg hg2)
  clear hx hg hg2 hb c0 HC hlt
  go_wp2_with (refine wpList_store_row rfl 49 (.tmp 2) (.tmp 23) rfl w.heap.size (hangC b) rfl rfl 49 #[.nilFunc, .nilFunc, .nilFunc, .nilFunc] hb2 (by kernel_rfl) rfl (by simp [hangC, clo, Value.oneCell']) ?_)
  exact bodyPost_ret (v := .tuple #[.agg (hangC b), .bool true]) (results_row2 rfl _ _ w.heap.size 49 _ (0, 0) rfl (setRow_heap _ _ _ _ _ _ hb2) (by kernel_rfl) (by kernel_rfl) rfl) rfl ⟨b, rfl, by have := HL.out; omega, ⟨(cell_setRow_other _ _ _ _ (by show b ≠ w.heap.size; have := HL.out; omega)).trans HX.out.cell⟩, grown_setRow_new HG.out _ _ (Or.inl (Nat.le_refl _))⟩
theorem partOf_nothing4 (B : Nat) (w : World) (hk : w.cell? ⟨B, 0, none⟩ = some (.int .u8 4)) : Calls Try.prog 15 #[.pointer (some ⟨B, 0, none⟩)] w (fun e w' => e = .returned (.tuple #[.agg nothC, .bool true]) ∧ w.grownBy w' none) := by
  have hg := World.grownBy_alloc w (.cells #[.nilFunc, .nilFunc, .nilFunc, .nilFunc] 49) none
  have hb := heap_alloc_new w (.cells #[.nilFunc, .nilFunc, .nilFunc, .nilFunc] 49)
  have c0 := hg.cell hk (by simp)
  have HC := Lib.hid (nothing_any (w.alloc (.cells #[.nilFunc, .nilFunc, .nilFunc, .nilFunc] 49)))
  clear hk
  go_enter Try.func15, Try.ntmps15
  go_wp2_with fail
  go_at_call 35
  refine HC.out.mono ?_
  rintro e w2 ⟨rfl, hg2⟩
  have hb2 := (hg2.block w.heap.size (by rw [World.size_alloc]; omega) (by simp)).trans hb
  have HG := Lib.hid (grown_trans hg hg2)
  clear hg hg2 hb c0 HC
  go_wp2_with (refine wpList_store_row rfl 49 (.tmp 2) (.tmp 27) rfl w.heap.size nothC rfl rfl 49 #[.nilFunc, .nilFunc, .nilFunc, .nilFunc] hb2 (by kernel_rfl) rfl (by simp [nothC, bare, Value.oneCell']) ?_)
  exact bodyPost_ret (v := .tuple #[.agg nothC, .bool true]) (results_row2 rfl _ _ w.heap.size 49 _ (0, 0) rfl (setRow_heap _ _ _ _ _ _ hb2) (by kernel_rfl) (by kernel_rfl) rfl) rfl ⟨rfl, grown_setRow_new HG.out _ _ (Or.inl (Nat.le_refl _))⟩
theorem partOf_nothing6 (B : Nat) (w : World) (hk : w.cell? ⟨B, 0, none⟩ = some (.int .u8 6)) : Calls Try.prog 15 #[.pointer (some ⟨B, 0, none⟩)] w (fun e w' => e = .returned (.tuple #[.agg nothC, .bool true]) ∧ w.grownBy w' none) := by
  have hg := World.grownBy_alloc w (.cells #[.nilFunc, .nilFunc, .nilFunc, .nilFunc] 49) none
  have hb := heap_alloc_new w (.cells #[.nilFunc, .nilFunc, .nilFunc, .nilFunc] 49)
  have c0 := hg.cell hk (by simp)
  have HC := Lib.hid (nothing_any (w.alloc (.cells #[.nilFunc, .nilFunc, .nilFunc, .nilFunc] 49)))
  clear hk
  go_enter Try.func15, Try.ntmps15
  go_wp2_with fail
  go_at_call 35
  refine HC.out.mono ?_
  rintro e w2 ⟨rfl, hg2⟩
  have hb2 := (hg2.block w.heap.size (by rw [World.size_alloc]; omega) (by simp)).trans hb
  have HG := Lib.hid (grown_trans hg hg2)
  clear hg hg2 hb c0 HC
  go_wp2_with (refine wpList_store_row rfl 49 (.tmp 2) (.tmp 27) rfl w.heap.size nothC rfl rfl 49 #[.nilFunc, .nilFunc, .nilFunc, .nilFunc] hb2 (by kernel_rfl) rfl (by simp [nothC, bare, Value.oneCell']) ?_)
  exact bodyPost_ret (v := .tuple #[.agg nothC, .bool true]) (results_row2 rfl _ _ w.heap.size 49 _ (0, 0) rfl (setRow_heap _ _ _ _ _ _ hb2) (by kernel_rfl) (by kernel_rfl) rfl) rfl ⟨rfl, grown_setRow_new HG.out _ _ (Or.inl (Nat.le_refl _))⟩
theorem partOf_none (B k : Nat) (w : World) (hk : w.cell? ⟨B, 0, none⟩ = some (.int .u8 k)) (h0 : k = 0 ∨ 6 < k) : Calls Try.prog 15 #[.pointer (some ⟨B, 0, none⟩)] w (fun e w' => e = .returned (.tuple #[.agg #[.nilFunc, .nilFunc, .nilFunc, .nilFunc], .bool false]) ∧ w.grownBy w' none) := by
  have hg := World.grownBy_alloc w (.cells #[.nilFunc, .nilFunc, .nilFunc, .nilFunc] 49) none
  have hb := heap_alloc_new w (.cells #[.nilFunc, .nilFunc, .nilFunc, .nilFunc] 49)
  have c0 := hg.cell hk (by simp)
  have k1 : ¬ (k : Int) = 1 := by omega
  have k2 : ¬ (k : Int) = 2 := by omega
  have k3 : ¬ (k : Int) = 3 := by omega
  have k4 : ¬ (k : Int) = 4 := by omega
  have k5 : ¬ (k : Int) = 5 := by omega
  have k6 : ¬ (k : Int) = 6 := by omega
  have HG := Lib.hid hg
  clear hk h0 hg
  go_enter Try.func15, Try.ntmps15
  go_wp2_with (refine wpList_store_row rfl 49 (.tmp 2) (.tmp 28) rfl w.heap.size #[.nilFunc, .nilFunc, .nilFunc, .nilFunc] rfl rfl 49 #[.nilFunc, .nilFunc, .nilFunc, .nilFunc] hb (by kernel_rfl) rfl (by simp [Value.oneCell']) ?_)
  exact bodyPost_ret (v := .tuple #[.agg #[.nilFunc, .nilFunc, .nilFunc, .nilFunc], .bool false]) (results_row2 rfl _ _ w.heap.size 49 _ (0, 0) rfl (setRow_heap _ _ _ _ _ _ hb) (by kernel_rfl) (by kernel_rfl) rfl) rfl ⟨rfl, grown_setRow_new HG.out _ _ (Or.inl (Nat.le_refl _))⟩
end Go.Proofs.Ytpddgiflljlpbaa
