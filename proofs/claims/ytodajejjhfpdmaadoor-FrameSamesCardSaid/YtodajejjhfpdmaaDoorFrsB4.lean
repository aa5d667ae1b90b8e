/-
  Equality of frames that differ.
-/
import Derived.Test.YtodajejjhfpdmaaDoorFrsA
namespace Go.Proofs.YtodajejjhfpdmaaDoor
open Go.RowKit Go.Instr

set_option maxHeartbeats 4000000 in
set_option maxRecDepth 20000 in
theorem same_10 (akind : Nat) (afrm : Nat) (adest : Nat) (aepoch : Nat) (akey : Nat) (asn : Nat) (asb : Nat) (asl : Nat) (ahas : Bool) (atext : ByteArray) (armw : Bool) (aflag : Bool) (adir : Nat) (alife : Nat) (areq : Nat) (abn : Nat) (abb : Nat) (aslot : Nat) (acmd : CmdV) (ave : Nat) (alv : Lv) (ams : List Mem) (aes : List Ent) (bbn : Nat) (bbb : Nat) (bslot : Nat) (bcmd : CmdV) (bve : Nat) (blv : Lv) (bms : List Mem) (bes : List Ent) (s t s' t' : Value) (w : World) (hk : ¬ (abn = bbn ∧ abb = bbb)) :
    Calls Tryd.prog 13 #[.agg (frC (⟨akind, afrm, adest, aepoch, akey, asn, asb, asl, ahas, atext, armw, aflag, adir, alife, areq, abn, abb, aslot, acmd, ave, alv, ams, aes⟩ : Fr) s t), .agg (frC (⟨akind, afrm, adest, aepoch, akey, asn, asb, asl, ahas, atext, armw, aflag, adir, alife, areq, bbn, bbb, bslot, bcmd, bve, blv, bms, bes⟩ : Fr) s' t')] w (retB false w) := by
  have HBB := Lib.hid (show Below w.heap.size w ((w.alloc (.cells (frC (⟨akind, afrm, adest, aepoch, akey, asn, asb, asl, ahas, atext, armw, aflag, adir, alife, areq, abn, abb, aslot, acmd, ave, alv, ams, aes⟩ : Fr) s t) 47)).alloc (.cells (frC (⟨akind, afrm, adest, aepoch, akey, asn, asb, asl, ahas, atext, armw, aflag, adir, alife, areq, bbn, bbb, bslot, bcmd, bve, blv, bms, bes⟩ : Fr) s' t') 47)) from by go_grown)
  have hz : ¬ ((abn : Int) = (bbn : Int) ∧ (abb : Int) = (bbb : Int)) := by omega
  go_enter Tryd.func13, Tryd.ntmps13
  go_wp2_with fail
  all_goals go_ret
  all_goals exact ⟨rfl, HBB.out⟩
set_option maxHeartbeats 4000000 in
set_option maxRecDepth 20000 in
theorem same_11 (akind : Nat) (afrm : Nat) (adest : Nat) (aepoch : Nat) (akey : Nat) (asn : Nat) (asb : Nat) (asl : Nat) (ahas : Bool) (atext : ByteArray) (armw : Bool) (aflag : Bool) (adir : Nat) (alife : Nat) (areq : Nat) (abn : Nat) (abb : Nat) (aslot : Nat) (acmd : CmdV) (ave : Nat) (alv : Lv) (ams : List Mem) (aes : List Ent) (bslot : Nat) (bcmd : CmdV) (bve : Nat) (blv : Lv) (bms : List Mem) (bes : List Ent) (s t s' t' : Value) (w : World) (hk : ¬ (aslot = bslot)) :
    Calls Tryd.prog 13 #[.agg (frC (⟨akind, afrm, adest, aepoch, akey, asn, asb, asl, ahas, atext, armw, aflag, adir, alife, areq, abn, abb, aslot, acmd, ave, alv, ams, aes⟩ : Fr) s t), .agg (frC (⟨akind, afrm, adest, aepoch, akey, asn, asb, asl, ahas, atext, armw, aflag, adir, alife, areq, abn, abb, bslot, bcmd, bve, blv, bms, bes⟩ : Fr) s' t')] w (retB false w) := by
  have HBB := Lib.hid (show Below w.heap.size w ((w.alloc (.cells (frC (⟨akind, afrm, adest, aepoch, akey, asn, asb, asl, ahas, atext, armw, aflag, adir, alife, areq, abn, abb, aslot, acmd, ave, alv, ams, aes⟩ : Fr) s t) 47)).alloc (.cells (frC (⟨akind, afrm, adest, aepoch, akey, asn, asb, asl, ahas, atext, armw, aflag, adir, alife, areq, abn, abb, bslot, bcmd, bve, blv, bms, bes⟩ : Fr) s' t') 47)) from by go_grown)
  have hz : ¬ ((aslot : Int) = (bslot : Int)) := by omega
  go_enter Tryd.func13, Tryd.ntmps13
  go_wp2_with fail
  all_goals go_ret
  all_goals exact ⟨rfl, HBB.out⟩
set_option maxHeartbeats 4000000 in
set_option maxRecDepth 20000 in
theorem same_12 (akind : Nat) (afrm : Nat) (adest : Nat) (aepoch : Nat) (akey : Nat) (asn : Nat) (asb : Nat) (asl : Nat) (ahas : Bool) (atext : ByteArray) (armw : Bool) (aflag : Bool) (adir : Nat) (alife : Nat) (areq : Nat) (abn : Nat) (abb : Nat) (aslot : Nat) (acmd : CmdV) (ave : Nat) (alv : Lv) (ams : List Mem) (aes : List Ent) (bcmd : CmdV) (bve : Nat) (blv : Lv) (bms : List Mem) (bes : List Ent) (s t s' t' : Value) (w : World) (hk : ¬ (acmd = bcmd)) :
    Calls Tryd.prog 13 #[.agg (frC (⟨akind, afrm, adest, aepoch, akey, asn, asb, asl, ahas, atext, armw, aflag, adir, alife, areq, abn, abb, aslot, acmd, ave, alv, ams, aes⟩ : Fr) s t), .agg (frC (⟨akind, afrm, adest, aepoch, akey, asn, asb, asl, ahas, atext, armw, aflag, adir, alife, areq, abn, abb, aslot, bcmd, bve, blv, bms, bes⟩ : Fr) s' t')] w (retB false w) := by
  have HBB := Lib.hid (show Below w.heap.size w ((w.alloc (.cells (frC (⟨akind, afrm, adest, aepoch, akey, asn, asb, asl, ahas, atext, armw, aflag, adir, alife, areq, abn, abb, aslot, acmd, ave, alv, ams, aes⟩ : Fr) s t) 47)).alloc (.cells (frC (⟨akind, afrm, adest, aepoch, akey, asn, asb, asl, ahas, atext, armw, aflag, adir, alife, areq, abn, abb, aslot, bcmd, bve, blv, bms, bes⟩ : Fr) s' t') 47)) from by go_grown)
  obtain ⟨xk, xn, xl, xe, xr⟩ := acmd
  obtain ⟨yk, yn, yl, ye, yr⟩ := bcmd
  have hk2 : ¬ (xk = yk ∧ xn = yn ∧ xl = yl ∧ xe = ye ∧ xr = yr) := fun h => hk (by obtain ⟨rfl, rfl, rfl, rfl, rfl⟩ := h; rfl)
  have hz : ¬ ((xk : Int) = (yk : Int) ∧ (xn : Int) = (yn : Int) ∧ (xl : Int) = (yl : Int) ∧ (xe : Int) = (ye : Int) ∧ (xr : Int) = (yr : Int)) := by omega
  clear hk hk2
  go_enter Tryd.func13, Tryd.ntmps13
  go_wp2_with fail
  all_goals go_ret
  all_goals exact ⟨rfl, HBB.out⟩
end Go.Proofs.YtodajejjhfpdmaaDoor
