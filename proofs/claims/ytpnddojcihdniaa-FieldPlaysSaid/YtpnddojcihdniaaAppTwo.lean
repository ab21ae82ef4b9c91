/-
  'x = append(x, b, c)' at a region's end, x nil or bytes of the call's own (made out of AppTailV's text).
-/
import Derived.Test.YtpnddojcihdniaaAppTailV
namespace Go.Proofs.Ytpnddojcihdniaa
open Go.RowKit

def pairF (v u : Nat) (k : Nat) : Nat := if k = 0 then v else u
section
variable {ops : Array Oper} {Q : Exit → Act → World → Prop} {S : World → Prop}

theorem append_two_tailV {listed : Array Bool} {a : Act} {W : World} {v0 : Value} {m v u : Nat} {f : Nat → Nat} (n : Nat) (ob oa os : Oper) (ts tv tu db da ds : Tmp)
    (g1 : ops[n]? = some ob) (g2 : ops[n + 1]? = some oa) (g3 : ops[n + 2]? = some os)
    (u1 : ob.guard = none) (u2 : oa.guard = none) (u3 : os.guard = none)
    (k1 : ob.op = .buildSlice 33 2 #[(0, .tmp tv), (1, .tmp tu)]) (k2 : oa.op = .call { callee := .builtin .append, args := #[.tmp ts, .tmp db], argTypes := #[33, 33] }) (k3 : os.op = .assign (.tmp da))
    (e1 : ob.dst = some db) (e2 : oa.dst = some da) (e3 : os.dst = some ds) (t2 : oa.type = 33)
    (r1 : Region.ready .any ops listed = [n]) (r2 : Region.ready .any ops (listed.setIfInBounds n true) = [n + 1]) (r3 : Region.ready .any ops ((listed.setIfInBounds n true).setIfInBounds (n + 1) true) = [n + 2])
    (r4 : Region.ready .any ops (((listed.setIfInBounds n true).setIfInBounds (n + 1) true).setIfInBounds (n + 2) true) = [])
    (hs : a.eval (.tmp ts) = v0) (hv : a.eval (.tmp tv) = .int .u8 (v : Nat)) (hu : a.eval (.tmp tu) = .int .u8 (u : Nat)) (hd : db ≠ ts) (zb : db < a.tmps.size) (za : da < a.tmps.size)
    (ho : OwnV W v0 m f) (hm : m + 2 ≤ 2 ^ 46) (hS : ∀ W', W.grownBy W' v0.ownBlock → S W')
    (hQ : ∀ B v' W', OwnV W' v' (m + 2) (cat m f (pairF v u)) → W.grownBy W' v0.ownBlock → (v'.ownBlock = v0.ownBlock ∨ ∃ g', v'.ownBlock = some g' ∧ W.heap.size ≤ g') →
      Q .normal (((a.put (some db) (.slice (some ⟨B, 0, none⟩) 2 2)).put (some da) v').put (some ds) v') W') :
    wpAnyH Try.prog .any ops Q S 3 listed a W := by
  refine wpAnyH_all r1 (by simp) fun i hi => ?_
  obtain rfl : i = n := by simpa using hi
  have hbuild : (execOp a.eval ob).run Try.prog W = .ok (.value (.slice (some ⟨W.heap.size, 0, none⟩) 2 2)) (W.alloc (.cells #[.int .u8 (v : Nat), .int .u8 (u : Nat)] 5)) := by
    have hv2 : a.tmps[tv]?.getD undef = .int .u8 (v : Nat) := by simpa [Act.eval] using hv
    have hu2 : a.tmps[tu]?.getD undef = .int .u8 (u : Nat) := by simpa [Act.eval] using hu
    unfold execOp
    simp only [k1]
    go_simp
  refine wpOp_at g1 (wanted_of u1) (wp_yields hbuild ?_)
  have ga := World.grownBy_alloc W (.cells #[.int .u8 (v : Nat), .int .u8 (u : Nat)] 5) none
  have gs : W.grownBy (W.alloc (.cells #[.int .u8 (v : Nat), .int .u8 (u : Nat)] 5)) v0.ownBlock := World.grownBy_alloc W _ _
  have bb := heap_alloc_new W (.cells #[.int .u8 (v : Nat), .int .u8 (u : Nat)] 5)
  have hoa := ho.grown ga
  have hz := World.size_alloc W (.cells #[.int .u8 (v : Nat), .int .u8 (u : Nat)] 5)
  refine ⟨hS _ gs, ?_⟩
  rw [e1]
  refine wpAnyH_all r2 (by simp) fun j hj => ?_
  obtain rfl : j = i + 1 := by simpa using hj
  have hR : Rd (W.alloc (.cells #[.int .u8 (v : Nat), .int .u8 (u : Nat)] 5)) (W.heap.size + 1) (some ⟨W.heap.size, 0, none⟩) 2 (pairF v u) := ⟨fun _ => ⟨W.heap.size, 0, rfl, by omega, fun k hk => by
    obtain rfl | rfl : k = 0 ∨ k = 1 := by omega
    · rw [cell_of_row _ _ _ _ _ _ bb]; rfl
    · rw [cell_of_row _ _ _ _ _ _ bb]; rfl⟩⟩
  obtain ⟨v2, w2, hap, ho', hold, hg2, hor⟩ := app_V 2 33 hoa hR hm (by decide)
  have happ : (execOp (a.put (some db) (.slice (some ⟨W.heap.size, 0, none⟩) 2 2)).eval oa).run Try.prog (W.alloc (.cells #[.int .u8 (v : Nat), .int .u8 (u : Nat)] 5)) = .ok (.value v2) w2 := by
    have h1 := (Act.eval_put_ne a db ts (.slice (some ⟨W.heap.size, 0, none⟩) 2 2) hd).trans hs
    have h2 := Act.eval_put_same a db (.slice (some ⟨W.heap.size, 0, none⟩) 2 2) zb
    unfold execOp
    simp [k2, resolve, invoke, builtin, h1, h2, t2, hap, Result.andThen]
  have hgw : W.grownBy w2 v0.ownBlock := grown_trans gs hg2
  refine wpOp_at g2 (wanted_of u2) (wp_yields happ ⟨hS _ hgw, ?_⟩)
  rw [e2]
  refine wpAnyH_all r3 (by simp) fun k hk => ?_
  obtain rfl : k = i + 2 := by simpa using hk
  have has : (execOp ((a.put (some db) (.slice (some ⟨W.heap.size, 0, none⟩) 2 2)).put (some da) v2).eval os).run Try.prog w2 = .ok (.value v2) w2 := by
    have h1 := Act.eval_put_same (a.put (some db) (.slice (some ⟨W.heap.size, 0, none⟩) 2 2)) da v2 (by simpa [Act.put] using za)
    unfold execOp
    simp [k3, h1]
  refine wpOp_at g3 (wanted_of u3) (wp_yields has ⟨hS _ hgw, ?_⟩)
  rw [e3]
  exact wpAnyH_done r4 (hQ _ _ _ ho' hgw (hor.imp id (fun ⟨g', h1, h2⟩ => ⟨g', h1, by omega⟩))) _
end

end Go.Proofs.Ytpnddojcihdniaa
