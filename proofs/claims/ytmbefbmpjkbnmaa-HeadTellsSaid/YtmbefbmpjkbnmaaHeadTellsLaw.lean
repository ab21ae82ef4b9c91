/-
  Proved: whatever header and bytes come in, 'HeadTells' answers true, and what came in reads afterwards as it read before. Conditions: the arguments can be read as data.
-/
import Derived.Test.YtmbefbmpjkbnmaaHeadTells
import Derived.Test.YtmbefbmpjkbnmaaOpenHead
import Derived.SizedLaws
namespace Go.Proofs.Ytmbefbmpjkbnmaa
open Go.ChangeShapes Go.WideShapes Go.ChangeAt Go.RowKit

set_option maxRecDepth 100000 in
theorem headTells_lifted (os : Os) (started : os.Started) (H : Type) (enc : TypeId × Value → H) :
    ReturnsInHanded {} Try.checked os 6 .any (Rows.headTellsSpec.pre6 enc Try.prog Try.f6 Rows.headTellsRow.domain false) (Rows.headTellsSpec.post enc Try.prog Try.f6 false true false false) := by
  refine returnsInHanded_of_change_sized (C := Try.checked) own started (by kernel_rfl) Try.func6
    (ChangeSpec.witness6 (enc := enc) (C := Try.checked) false ⟨#[], #[.agg #[.int .u64 0, .int .u64 0], .slice none 0 0], []⟩ 8 (by kernel_rfl) (by kernel_rfl) (by kernel_rfl) (by kernel_rfl)) ?_
  intro W base args ds gs before hval0 hW _ hwt _
  have hval : ∀ (j : Nat) t v, Try.f6.params[j]? = some t → args[j]? = some v → Value.okWide Try.prog W .any base t v := hval0
  have hW' := hW
  obtain ⟨p, q, hA0, hV, rfl, _, _⟩ := hW
  have hA : DataW.TrodAll enc Try.prog W 0 (fun _ => true) true Try.f6.params.toList args.toList ds p := hA0
  have hwt' : (DataW.weightsEach Try.prog (Try.f6.params.toList ++ Rows.headTellsSpec.plain.varTypes Try.prog) (ds ++ gs)).all (· ≤ reachBytes) = true := hwt
  rw [Try.params6] at hA hval hwt'
  obtain ⟨v0, vs0, d0, ds0, p0, q0, hv0, rfl, rfl, h0, hA1⟩ := trodAll_cons hA
  obtain ⟨v1, vs1, d1, ds1, p1, q1, rfl, rfl, rfl, h1, hA2⟩ := trodAll_cons hA1
  obtain ⟨rfl, rfl, rfl⟩ := trodAll_nil hA2
  obtain ⟨l⟩ := args
  simp only at hv0
  subst hv0
  obtain ⟨rfl, rfl⟩ := trodVars_none hV
  have hw1 : ∀ y, y ∈ DataW.weights Try.prog 39 d1 → y ≤ reachBytes := fun y hy => by
    have hm : y ∈ DataW.weightsEach Try.prog (#[128, 39].toList ++ Rows.headTellsSpec.plain.varTypes Try.prog) ([d0, d1] ++ []) := List.mem_append.2 (Or.inr (List.mem_append.2 (Or.inl hy)))
    simpa using List.all_eq_true.1 hwt' y hm
  obtain ⟨k0, c0, rfl, hk0, hc0⟩ := open_head (hval 0 128 v0 rfl rfl) h0
  obtain ⟨a1, n1, c1, f1, rfl, hc1, hn1, hR1, hf1⟩ := open_bytesW (P := Try.prog) under_bytes (by kernel_rfl) (by kernel_rfl) (by rw [show Try.prog.bytesOf 5 = 1 by kernel_rfl]; decide) (hval 1 39 v1 rfl rfl) h1 hw1
  clear hA0 hval0
  refine (HeadTells_any k0 c0 n1 c1 _ a1 f1 W hk0 hc0 hR1 hf1 hc1).mono fun e W' ⟨he, hg⟩ => ?_
  subst he
  exact ⟨_, rfl, law_post laidOut hW' rfl rfl (tb := 4) rfl Try.underlying4 (by
      rw [Try.params6]
      intro t ht
      have hall : (([128, 39] : List TypeId).all fun u => Try.prog.readableRec u && decide (u < Try.prog.types.size)) = true := by kernel_rfl
      have := List.all_eq_true.1 hall t (by simpa using ht)
      simpa using this) hg⟩

theorem headTells_holds : Rows.HeadTellsSaid :=
  OpenClaim.holds_of_wide 6 Try.f6 rfl rfl rfl rfl rfl rfl rfl ⟨rfl, rfl, rfl, rfl, rfl⟩ rfl rfl rfl rfl rfl (by kernel_rfl) Try.func6 (by kernel_rfl)
    (of_decide_eq_true (by kernel_rfl)) (by unfold Func.isWrapper; first | (rw [if_pos (by decide +kernel)]; kernel_rfl) | (rw [if_neg (by decide +kernel)]; exact ⟨rfl, rfl⟩))
    (fun os started H enc _ => headTells_lifted os started H enc)

end Go.Proofs.Ytmbefbmpjkbnmaa
