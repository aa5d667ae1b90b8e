/-
  Equality of frames that differ.
-/
import Derived.Test.YtodajejjhfpdmaaDoorFrsA
namespace Go.Proofs.YtodajejjhfpdmaaDoor
open Go.RowKit Go.Instr

set_option maxHeartbeats 4000000 in
set_option maxRecDepth 20000 in
theorem same_3 (akind : Nat) (afrm : Nat) (adest : Nat) (aepoch : Nat) (akey : Nat) (asn : Nat) (asb : Nat) (asl : Nat) (ahas : Bool) (atext : ByteArray) (armw : Bool) (aflag : Bool) (adir : Nat) (alife : Nat) (areq : Nat) (abn : Nat) (abb : Nat) (aslot : Nat) (acmd : CmdV) (ave : Nat) (alv : Lv) (ams : List Mem) (aes : List Ent) (bsn : Nat) (bsb : Nat) (bsl : Nat) (bhas : Bool) (btext : ByteArray) (brmw : Bool) (bflag : Bool) (bdir : Nat) (blife : Nat) (breq : Nat) (bbn : Nat) (bbb : Nat) (bslot : Nat) (bcmd : CmdV) (bve : Nat) (blv : Lv) (bms : List Mem) (bes : List Ent) (s t s' t' : Value) (w : World) (hk : ¬ (asn = bsn ∧ asb = bsb ∧ asl = bsl)) :
    Calls Tryd.prog 13 #[.agg (frC (⟨akind, afrm, adest, aepoch, akey, asn, asb, asl, ahas, atext, armw, aflag, adir, alife, areq, abn, abb, aslot, acmd, ave, alv, ams, aes⟩ : Fr) s t), .agg (frC (⟨akind, afrm, adest, aepoch, akey, bsn, bsb, bsl, bhas, btext, brmw, bflag, bdir, blife, breq, bbn, bbb, bslot, bcmd, bve, blv, bms, bes⟩ : Fr) s' t')] w (retB false w) := by
  have HBB := Lib.hid (show Below w.heap.size w ((w.alloc (.cells (frC (⟨akind, afrm, adest, aepoch, akey, asn, asb, asl, ahas, atext, armw, aflag, adir, alife, areq, abn, abb, aslot, acmd, ave, alv, ams, aes⟩ : Fr) s t) 47)).alloc (.cells (frC (⟨akind, afrm, adest, aepoch, akey, bsn, bsb, bsl, bhas, btext, brmw, bflag, bdir, blife, breq, bbn, bbb, bslot, bcmd, bve, blv, bms, bes⟩ : Fr) s' t') 47)) from by go_grown)
  have hz : ¬ ((asn : Int) = (bsn : Int) ∧ (asb : Int) = (bsb : Int) ∧ (asl : Int) = (bsl : Int)) := by omega
  go_enter Tryd.func13, Tryd.ntmps13
  go_wp2_with fail
  all_goals go_ret
  all_goals exact ⟨rfl, HBB.out⟩
set_option maxHeartbeats 4000000 in
set_option maxRecDepth 20000 in
theorem same_5 (akind : Nat) (afrm : Nat) (adest : Nat) (aepoch : Nat) (akey : Nat) (asn : Nat) (asb : Nat) (asl : Nat) (ahas : Bool) (atext : ByteArray) (armw : Bool) (aflag : Bool) (adir : Nat) (alife : Nat) (areq : Nat) (abn : Nat) (abb : Nat) (aslot : Nat) (acmd : CmdV) (ave : Nat) (alv : Lv) (ams : List Mem) (aes : List Ent) (brmw : Bool) (bflag : Bool) (bdir : Nat) (blife : Nat) (breq : Nat) (bbn : Nat) (bbb : Nat) (bslot : Nat) (bcmd : CmdV) (bve : Nat) (blv : Lv) (bms : List Mem) (bes : List Ent) (s t s' t' : Value) (w : World) (hk : ¬ (armw = brmw)) :
    Calls Tryd.prog 13 #[.agg (frC (⟨akind, afrm, adest, aepoch, akey, asn, asb, asl, ahas, atext, armw, aflag, adir, alife, areq, abn, abb, aslot, acmd, ave, alv, ams, aes⟩ : Fr) s t), .agg (frC (⟨akind, afrm, adest, aepoch, akey, asn, asb, asl, ahas, atext, brmw, bflag, bdir, blife, breq, bbn, bbb, bslot, bcmd, bve, blv, bms, bes⟩ : Fr) s' t')] w (retB false w) := by
  have HBB := Lib.hid (show Below w.heap.size w ((w.alloc (.cells (frC (⟨akind, afrm, adest, aepoch, akey, asn, asb, asl, ahas, atext, armw, aflag, adir, alife, areq, abn, abb, aslot, acmd, ave, alv, ams, aes⟩ : Fr) s t) 47)).alloc (.cells (frC (⟨akind, afrm, adest, aepoch, akey, asn, asb, asl, ahas, atext, brmw, bflag, bdir, blife, breq, bbn, bbb, bslot, bcmd, bve, blv, bms, bes⟩ : Fr) s' t') 47)) from by go_grown)
  go_enter Tryd.func13, Tryd.ntmps13
  go_wp2_with fail
  all_goals go_ret
  all_goals exact ⟨rfl, HBB.out⟩
end Go.Proofs.YtodajejjhfpdmaaDoor
