/-
  The end of a region that draws its order: 'x = append(x, b)', b a byte that is reckoned ahead.
-/
import Derived.Test.YtpnddojcihdniaaOrd
import Derived.Test.YtpnddojcihdniaaOwnR
import Derived.Great.Frames
namespace Go.Proofs.Ytpnddojcihdniaa
open Go.RowKit

section
variable {ops : Array Oper} {Q : Exit → Act → World → Prop} {S : World → Prop}

theorem append_byte_tail {listed : Array Bool} {a : Act} {W : World} {g m cap v : Nat} {f : Nat → Nat} (n : Nat) (ob oa os : Oper) (ts tv db da ds : Tmp)
    (g1 : ops[n]? = some ob) (g2 : ops[n + 1]? = some oa) (g3 : ops[n + 2]? = some os)
    (u1 : ob.guard = none) (u2 : oa.guard = none) (u3 : os.guard = none)
    (k1 : ob.op = .buildSlice 33 1 #[(0, .tmp tv)]) (k2 : oa.op = .call { callee := .builtin .append, args := #[.tmp ts, .tmp db], argTypes := #[33, 33] }) (k3 : os.op = .assign (.tmp da))
    (e1 : ob.dst = some db) (e2 : oa.dst = some da) (e3 : os.dst = some ds) (t2 : oa.type = 33)
    (r1 : Region.ready .any ops listed = [n]) (r2 : Region.ready .any ops (listed.setIfInBounds n true) = [n + 1]) (r3 : Region.ready .any ops ((listed.setIfInBounds n true).setIfInBounds (n + 1) true) = [n + 2])
    (r4 : Region.ready .any ops (((listed.setIfInBounds n true).setIfInBounds (n + 1) true).setIfInBounds (n + 2) true) = [])
    (hs : a.eval (.tmp ts) = .slice (some ⟨g, 0, none⟩) m cap) (hv : a.eval (.tmp tv) = .int .u8 (v : Nat)) (hd : db ≠ ts) (zb : db < a.tmps.size) (za : da < a.tmps.size)
    (ho : OwnR W g m cap f) (hm : m + 1 ≤ 2 ^ 46) (hS : ∀ W', W.grownBy W' (some g) → OwnR W' g m cap f → S W')
    (hQ : ∀ B g' cap' W', OwnR W' g' (m + 1) cap' (cat m f (fun _ => v)) → OwnR W' g m cap f → W.grownBy W' (some g) → (g' = g ∨ W.heap.size ≤ g') →
      Q .normal (((a.put (some db) (.slice (some ⟨B, 0, none⟩) 1 1)).put (some da) (.slice (some ⟨g', 0, none⟩) (m + 1 : Nat) cap')).put (some ds) (.slice (some ⟨g', 0, none⟩) (m + 1 : Nat) cap')) W') :
    wpAnyH Try.prog .any ops Q S 3 listed a W := by
  refine wpAnyH_all r1 (by simp) fun i hi => ?_
  obtain rfl : i = n := by simpa using hi
  have hbuild : (execOp a.eval ob).run Try.prog W = .ok (.value (.slice (some ⟨W.heap.size, 0, none⟩) 1 1)) (W.alloc (.cells #[.int .u8 (v : Nat)] 5)) := by
    have hv2 : a.tmps[tv]?.getD undef = .int .u8 (v : Nat) := by simpa [Act.eval] using hv
    unfold execOp
    simp only [k1]
    go_simp
  refine wpOp_at g1 (wanted_of u1) (wp_yields hbuild ?_)
  have ga := World.grownBy_alloc W (.cells #[.int .u8 (v : Nat)] 5) none
  have bb := heap_alloc_new W (.cells #[.int .u8 (v : Nat)] 5)
  have hoa := ho.grown ga (by simp)
  have hz := World.size_alloc W (.cells #[.int .u8 (v : Nat)] 5)
  refine ⟨hS _ (grown_some ga) hoa, ?_⟩
  rw [e1]
  refine wpAnyH_all r2 (by simp) fun j hj => ?_
  obtain rfl : j = i + 1 := by simpa using hj
  have hR : Rd (W.alloc (.cells #[.int .u8 (v : Nat)] 5)) (W.heap.size + 1) (some ⟨W.heap.size, 0, none⟩) 1 (fun _ => v) := ⟨fun _ => ⟨W.heap.size, 0, rfl, by omega, fun k hk => by
    obtain rfl : k = 0 := by omega
    rw [cell_of_row _ _ _ _ _ _ bb]; rfl⟩⟩
  obtain ⟨v2, w2, hap, ⟨ex⟩⟩ := app_run 1 33 hoa hR hm
  obtain ⟨g', cap', rfl, ho', hold, hg2, hor⟩ := ex
  have happ : (execOp (a.put (some db) (.slice (some ⟨W.heap.size, 0, none⟩) 1 1)).eval oa).run Try.prog (W.alloc (.cells #[.int .u8 (v : Nat)] 5)) = .ok (.value (.slice (some ⟨g', 0, none⟩) (m + 1 : Nat) cap')) w2 := by
    have h1 := (Act.eval_put_ne a db ts (.slice (some ⟨W.heap.size, 0, none⟩) 1 1) hd).trans hs
    have h2 := Act.eval_put_same a db (.slice (some ⟨W.heap.size, 0, none⟩) 1 1) zb
    unfold execOp
    simp [k2, resolve, invoke, builtin, h1, h2, t2, hap, Result.andThen]
  have hgw : W.grownBy w2 (some g) := grown_trans (grown_some ga) hg2
  refine wpOp_at g2 (wanted_of u2) (wp_yields happ ⟨hS _ hgw hold, ?_⟩)
  rw [e2]
  refine wpAnyH_all r3 (by simp) fun k hk => ?_
  obtain rfl : k = i + 2 := by simpa using hk
  have has : (execOp ((a.put (some db) (.slice (some ⟨W.heap.size, 0, none⟩) 1 1)).put (some da) (.slice (some ⟨g', 0, none⟩) (m + 1 : Nat) cap')).eval os).run Try.prog w2 = .ok (.value (.slice (some ⟨g', 0, none⟩) (m + 1 : Nat) cap')) w2 := by
    have h1 := Act.eval_put_same (a.put (some db) (.slice (some ⟨W.heap.size, 0, none⟩) 1 1)) da (.slice (some ⟨g', 0, none⟩) (m + 1 : Nat) cap') (by simpa [Act.put] using za)
    unfold execOp
    simp [k3, h1]
  refine wpOp_at g3 (wanted_of u3) (wp_yields has ⟨hS _ hgw hold, ?_⟩)
  rw [e3]
  exact wpAnyH_done r4 (hQ _ _ _ _ ho' hold hgw (by omega)) _
end

end Go.Proofs.Ytpnddojcihdniaa
