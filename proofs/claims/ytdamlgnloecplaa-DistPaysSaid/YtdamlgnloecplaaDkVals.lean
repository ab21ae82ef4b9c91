/-
  dist: setups, envelopes, rosters, packets as values; their bytes.
-/
import Derived.Test.YtdamlgnloecplaaRefDistB
import Derived.Test.YtdamlgnloecplaaOutFlag
namespace Go.Proofs.Ytdamlgnloecplaa
open Go.RowKit

set_option maxRecDepth 100000

theorem cat_cat (n m : Nat) (f g h : Nat → Nat) : cat (n + m) (cat n f g) h = cat n f (cat m g h) := by
  funext i
  unfold cat
  by_cases h1 : i < n
  · rw [if_pos (by omega), if_pos h1, if_pos h1]
  · by_cases h2 : i < n + m
    · rw [if_pos h2, if_neg h1, if_neg h1, if_pos (by omega)]
    · rw [if_neg h2, if_neg h1, if_neg (by omega), Nat.sub_sub]
theorem cat_none (f g : Nat → Nat) : cat 0 f g = g := by
  funext i
  unfold cat
  rw [if_neg (by omega), Nat.sub_zero]
theorem HV.v_dh (x : HV) (j : Nat) (hj : j < 32) : x.v (0 + j) = .int .u8 (x.dh j) := by
  rw [Nat.zero_add]; exact if_pos hj
/-- A setup. -/
structure SetV where
  ident : Nat → Nat
  eph : Nat → Nat
  once : Bool
  oid : Nat
def SetV.v (x : SetV) (i : Nat) : Value := if i < 32 then .int .u8 (x.ident i) else if i < 64 then .int .u8 (x.eph (i - 32)) else if i < 65 then .bool x.once else .int .u32 x.oid
theorem SetV.v_ident (x : SetV) (j : Nat) (hj : j < 32) : x.v (0 + j) = .int .u8 (x.ident j) := by
  rw [Nat.zero_add]; exact if_pos hj
theorem SetV.v_eph (x : SetV) (j : Nat) (hj : j < 32) : x.v (32 + j) = .int .u8 (x.eph j) := by
  unfold SetV.v
  rw [if_neg (by omega), if_pos (by omega), Nat.add_sub_cancel_left]
theorem SetV.one (x : SetV) (j : Nat) : (x.v j).oneCell' = true := by
  unfold SetV.v
  repeat' split
  all_goals rfl
def SetV.zero : SetV := ⟨fun _ => 0, fun _ => 0, false, 0⟩
structure SetV.Ok (x : SetV) : Prop where
  ident : ∀ i, x.ident i < 256
  eph : ∀ i, x.eph i < 256
  oid : x.oid < 4294967296
/-- How many bytes it has, and these. -/
def SetV.sl (x : SetV) (has : Bool) : Nat := if has = true then (if x.once = true then 69 else 65) else 0
def SetV.sf (x : SetV) : Nat → Nat := cat 65 (cat 64 (cat 32 x.ident x.eph) (fun _ => flagB x.once)) (nbF x.oid 4)
/-- An envelope. -/
structure EV where
  fr : Nat → Nat
  tw : Nat → Nat
  has : Bool
  st : SetV
  hd : HV
  ad : Option Addr
  nb : Nat
  cb : Nat
def EV.v (x : EV) (i : Nat) : Value := if i < 2 then .int .u8 (x.fr i) else if i < 4 then .int .u8 (x.tw (i - 2)) else if i < 5 then .bool x.has else if i < 71 then x.st.v (i - 5) else if i < 105 then x.hd.v (i - 71) else .slice x.ad x.nb x.cb
theorem EV.v_fr (x : EV) (j : Nat) (hj : j < 2) : x.v (0 + j) = .int .u8 (x.fr j) := by
  rw [Nat.zero_add]; exact if_pos hj
theorem EV.v_to (x : EV) (j : Nat) (hj : j < 2) : x.v (2 + j) = .int .u8 (x.tw j) := by
  unfold EV.v
  rw [if_neg (by omega), if_pos (by omega), Nat.add_sub_cancel_left]
theorem EV.v_st (x : EV) (j : Nat) (hj : j < 66) : x.v (5 + j) = x.st.v j := by
  unfold EV.v
  rw [if_neg (by omega), if_neg (by omega), if_neg (by omega), if_pos (by omega), Nat.add_sub_cancel_left]
theorem EV.v_hd (x : EV) (j : Nat) (hj : j < 34) : x.v (71 + j) = x.hd.v j := by
  unfold EV.v
  rw [if_neg (by omega), if_neg (by omega), if_neg (by omega), if_neg (by omega), if_pos (by omega), Nat.add_sub_cancel_left]
theorem EV.one (x : EV) (j : Nat) : (x.v j).oneCell' = true := by
  unfold EV.v
  repeat' split
  all_goals first | rfl | exact SetV.one _ _ | exact HV.one _ _
structure EV.Ok (x : EV) : Prop where
  fr : ∀ i, x.fr i < 256
  tw : ∀ i, x.tw i < 256
  st : x.st.Ok
  hd : x.hd.Ok
/-- How many bytes it has, of a box of these; and its bytes. -/
def EV.len (x : EV) : Nat := 5 + x.st.sl x.has + 40 + 2 + x.nb
def EV.bytes (x : EV) (fb : Nat → Nat) : Nat → Nat := cat (5 + x.st.sl x.has + 40 + 2) (cat (5 + x.st.sl x.has + 40) (cat (5 + x.st.sl x.has) (cat 5 (cat 4 (cat 2 x.fr x.tw) (fun _ => flagB x.has)) x.st.sf) x.hd.bytes) (nbF x.nb 2)) fb
/-- A roster. -/
structure RV where
  id : Nat → Nat
  ep : Nat
  am : Option Addr
  nm : Nat
  cm : Nat
def RV.v (x : RV) (i : Nat) : Value := if i < 16 then .int .u8 (x.id i) else if i < 17 then .int .u64 x.ep else .slice x.am x.nm x.cm
theorem RV.v_id (x : RV) (j : Nat) (hj : j < 16) : x.v (0 + j) = .int .u8 (x.id j) := by
  rw [Nat.zero_add]; exact if_pos hj
theorem RV.one (x : RV) (j : Nat) : (x.v j).oneCell' = true := by
  unfold RV.v
  repeat' split
  all_goals rfl
/-- So many devices' bytes. -/
def devsB (fm : Nat → Nat → Nat) : Nat → (Nat → Nat)
  | 0 => fun _ => 0
  | i + 1 => cat (2 * i) (devsB fm i) (fm i)
def RV.len (x : RV) : Nat := 26 + 2 * x.nm
def RV.bytes (x : RV) (fm : Nat → Nat → Nat) : Nat → Nat := cat 26 (cat 24 (cat 16 x.id (nbF x.ep 8)) (nbF x.nm 2)) (devsB fm x.nm)
/-- A packet. -/
structure PV where
  fr : Nat → Nat
  tw : Nat → Nat
  id : Nat → Nat
  ad : Option Addr
  nb : Nat
  cb : Nat
def PV.v (x : PV) (i : Nat) : Value := if i < 2 then .int .u8 (x.fr i) else if i < 4 then .int .u8 (x.tw (i - 2)) else if i < 20 then .int .u8 (x.id (i - 4)) else .slice x.ad x.nb x.cb
theorem PV.v_fr (x : PV) (j : Nat) (hj : j < 2) : x.v (0 + j) = .int .u8 (x.fr j) := by
  rw [Nat.zero_add]; exact if_pos hj
theorem PV.v_to (x : PV) (j : Nat) (hj : j < 2) : x.v (2 + j) = .int .u8 (x.tw j) := by
  unfold PV.v
  rw [if_neg (by omega), if_pos (by omega), Nat.add_sub_cancel_left]
theorem PV.v_id (x : PV) (j : Nat) (hj : j < 16) : x.v (4 + j) = .int .u8 (x.id j) := by
  unfold PV.v
  rw [if_neg (by omega), if_neg (by omega), if_pos (by omega), Nat.add_sub_cancel_left]
theorem PV.one (x : PV) (j : Nat) : (x.v j).oneCell' = true := by
  unfold PV.v
  repeat' split
  all_goals rfl
def PV.len (x : PV) : Nat := 24 + x.nb
def PV.bytes (x : PV) (fb : Nat → Nat) : Nat → Nat := cat 24 (cat 20 (cat 4 (cat 2 x.fr x.tw) x.id) (nbF x.nb 4)) fb
end Go.Proofs.Ytdamlgnloecplaa
