/-
  Equality of frames in general.
-/
import Derived.Test.YtodajejjhfpdmaaDoorFrsB1
import Derived.Test.YtodajejjhfpdmaaDoorFrsB2
import Derived.Test.YtodajejjhfpdmaaDoorFrsB3
import Derived.Test.YtodajejjhfpdmaaDoorFrsB4
import Derived.Test.YtodajejjhfpdmaaDoorFrsB5
import Derived.Test.YtodajejjhfpdmaaDoorFrlE
namespace Go.Proofs.YtodajejjhfpdmaaDoor
open Go.RowKit Go.Instr

set_option maxHeartbeats 4000000 in
set_option maxRecDepth 20000 in
theorem same_13 (akind : Nat) (afrm : Nat) (adest : Nat) (aepoch : Nat) (akey : Nat) (asn : Nat) (asb : Nat) (asl : Nat) (ahas : Bool) (atext : ByteArray) (armw : Bool) (aflag : Bool) (adir : Nat) (alife : Nat) (areq : Nat) (abn : Nat) (abb : Nat) (aslot : Nat) (acmd : CmdV) (ave : Nat) (alv : Lv) (ams : List Mem) (aes : List Ent) (bve : Nat) (blv : Lv) (bms : List Mem) (bes : List Ent) (s t s' t' : Value) (w : World) (hl : ams.length ≤ 40) (hl2 : bms.length ≤ 40) (hs : memR.At w s ams) (hs' : memR.At w s' bms) (hk : ¬ (ave = bve ∧ ams = bms ∧ alv = blv)) :
    Calls Tryd.prog 13 #[.agg (frC (⟨akind, afrm, adest, aepoch, akey, asn, asb, asl, ahas, atext, armw, aflag, adir, alife, areq, abn, abb, aslot, acmd, ave, alv, ams, aes⟩ : Fr) s t), .agg (frC (⟨akind, afrm, adest, aepoch, akey, asn, asb, asl, ahas, atext, armw, aflag, adir, alife, areq, abn, abb, aslot, acmd, bve, blv, bms, bes⟩ : Fr) s' t')] w (retB false w) := by
  have B0 := Lib.hid (show Below w.heap.size w ((w.alloc (.cells (frC (⟨akind, afrm, adest, aepoch, akey, asn, asb, asl, ahas, atext, armw, aflag, adir, alife, areq, abn, abb, aslot, acmd, ave, alv, ams, aes⟩ : Fr) s t) 47)).alloc (.cells (frC (⟨akind, afrm, adest, aepoch, akey, asn, asb, asl, ahas, atext, armw, aflag, adir, alife, areq, abn, abb, aslot, acmd, bve, blv, bms, bes⟩ : Fr) s' t') 47)) from by go_grown)
  have H5 := Lib.hid (vSame_any ave bve s s' alv blv ams bms ((w.alloc (.cells (frC (⟨akind, afrm, adest, aepoch, akey, asn, asb, asl, ahas, atext, armw, aflag, adir, alife, areq, abn, abb, aslot, acmd, ave, alv, ams, aes⟩ : Fr) s t) 47)).alloc (.cells (frC (⟨akind, afrm, adest, aepoch, akey, asn, asb, asl, ahas, atext, armw, aflag, adir, alife, areq, abn, abb, aslot, acmd, bve, blv, bms, bes⟩ : Fr) s' t') 47)) hl hl2 (hs.on B0.out) (hs'.on B0.out))
  clear hs hs'
  go_enter Tryd.func13, Tryd.ntmps13
  go_wp2_with fail
  refine H5.out.mono ?_
  rintro e w3 ⟨r, rfl, hr, hB3⟩
  have B3 := Lib.hid (m_below_on B0.out hB3)
  obtain rfl : r = false := by cases r with | false => rfl | true => exact absurd (hr.1 rfl) hk
  clear H5 hB3 hr
  go_wp2_with fail
  go_ret
  exact ⟨rfl, B3.out⟩
set_option maxHeartbeats 4000000 in
set_option maxRecDepth 20000 in
theorem same_14 (akind : Nat) (afrm : Nat) (adest : Nat) (aepoch : Nat) (akey : Nat) (asn : Nat) (asb : Nat) (asl : Nat) (ahas : Bool) (atext : ByteArray) (armw : Bool) (aflag : Bool) (adir : Nat) (alife : Nat) (areq : Nat) (abn : Nat) (abb : Nat) (aslot : Nat) (acmd : CmdV) (ave : Nat) (alv : Lv) (ams : List Mem) (aes : List Ent) (bes : List Ent) (s t s' t' : Value) (w : World) (hl : ams.length ≤ 40) (hl1 : aes.length ≤ 40) (hl2 : bes.length ≤ 40) (hs : memR.At w s ams) (hs' : memR.At w s' ams) (ht : entR.At w t aes) (ht' : entR.At w t' bes) (hk : ¬ (aes = bes)) :
    Calls Tryd.prog 13 #[.agg (frC (⟨akind, afrm, adest, aepoch, akey, asn, asb, asl, ahas, atext, armw, aflag, adir, alife, areq, abn, abb, aslot, acmd, ave, alv, ams, aes⟩ : Fr) s t), .agg (frC (⟨akind, afrm, adest, aepoch, akey, asn, asb, asl, ahas, atext, armw, aflag, adir, alife, areq, abn, abb, aslot, acmd, ave, alv, ams, bes⟩ : Fr) s' t')] w (retB false w) := by
  have B0 := Lib.hid (show Below w.heap.size w ((w.alloc (.cells (frC (⟨akind, afrm, adest, aepoch, akey, asn, asb, asl, ahas, atext, armw, aflag, adir, alife, areq, abn, abb, aslot, acmd, ave, alv, ams, aes⟩ : Fr) s t) 47)).alloc (.cells (frC (⟨akind, afrm, adest, aepoch, akey, asn, asb, asl, ahas, atext, armw, aflag, adir, alife, areq, abn, abb, aslot, acmd, ave, alv, ams, bes⟩ : Fr) s' t') 47)) from by go_grown)
  have F1 := Lib.hid (show Blk ((w.alloc (.cells (frC (⟨akind, afrm, adest, aepoch, akey, asn, asb, asl, ahas, atext, armw, aflag, adir, alife, areq, abn, abb, aslot, acmd, ave, alv, ams, aes⟩ : Fr) s t) 47)).alloc (.cells (frC (⟨akind, afrm, adest, aepoch, akey, asn, asb, asl, ahas, atext, armw, aflag, adir, alife, areq, abn, abb, aslot, acmd, ave, alv, ams, bes⟩ : Fr) s' t') 47)) w.heap.size (frC (⟨akind, afrm, adest, aepoch, akey, asn, asb, asl, ahas, atext, armw, aflag, adir, alife, areq, abn, abb, aslot, acmd, ave, alv, ams, aes⟩ : Fr) s t) 47 from (Blk.new rfl).alloc _)
  have F2 := Lib.hid (show Blk ((w.alloc (.cells (frC (⟨akind, afrm, adest, aepoch, akey, asn, asb, asl, ahas, atext, armw, aflag, adir, alife, areq, abn, abb, aslot, acmd, ave, alv, ams, aes⟩ : Fr) s t) 47)).alloc (.cells (frC (⟨akind, afrm, adest, aepoch, akey, asn, asb, asl, ahas, atext, armw, aflag, adir, alife, areq, abn, abb, aslot, acmd, ave, alv, ams, bes⟩ : Fr) s' t') 47)) (w.heap.size + 1) (frC (⟨akind, afrm, adest, aepoch, akey, asn, asb, asl, ahas, atext, armw, aflag, adir, alife, areq, abn, abb, aslot, acmd, ave, alv, ams, bes⟩ : Fr) s' t') 47 from Blk.new (by simp))
  have H5 := Lib.hid (vSame_same ave s s' alv ams ((w.alloc (.cells (frC (⟨akind, afrm, adest, aepoch, akey, asn, asb, asl, ahas, atext, armw, aflag, adir, alife, areq, abn, abb, aslot, acmd, ave, alv, ams, aes⟩ : Fr) s t) 47)).alloc (.cells (frC (⟨akind, afrm, adest, aepoch, akey, asn, asb, asl, ahas, atext, armw, aflag, adir, alife, areq, abn, abb, aslot, acmd, ave, alv, ams, bes⟩ : Fr) s' t') 47)) hl (hs.on B0.out) (hs'.on B0.out))
  have HT := Lib.hid (ht.on B0.out)
  have HT' := Lib.hid (ht'.on B0.out)
  clear hs hs' ht ht'
  go_enter Tryd.func13, Tryd.ntmps13
  go_wp2_with fail
  refine H5.out.mono ?_
  rintro e w3 ⟨rfl, hB3⟩
  have B3 := Lib.hid (m_below_on B0.out hB3)
  have c1 := (F1.out.on hB3).cell 33
  have c2 := (F2.out.on hB3).cell 33
  simp at c1 c2
  have H6 := Lib.hid (eqE_any t t' aes bes false w3 hl1 hl2 (HT.out.on hB3) (HT'.out.on hB3) (by simp [hk]))
  clear H5 hB3
  go_wp2_with fail
  refine H6.out.mono ?_
  rintro e w4 ⟨rfl, hB4⟩
  have B4 := Lib.hid (m_below_on B3.out hB4)
  clear H6 hB4
  go_wp2_with fail
  go_ret
  exact ⟨rfl, B4.out⟩
set_option maxRecDepth 20000 in
theorem Same_any (a b : Fr) (s t s' t' : Value) (w : World) (hl : a.ms.length ≤ 40) (hl2 : b.ms.length ≤ 40) (hk1 : a.es.length ≤ 40) (hk2 : b.es.length ≤ 40) (hs : memR.At w s a.ms) (hs' : memR.At w s' b.ms) (ht : entR.At w t a.es) (ht' : entR.At w t' b.es) :
    Calls Tryd.prog 13 #[.agg (frC a s t), .agg (frC b s' t')] w (SameP (a = b) w) := by
  obtain ⟨akind, afrm, adest, aepoch, akey, asn, asb, asl, ahas, atext, armw, aflag, adir, alife, areq, abn, abb, aslot, acmd, ave, alv, ams, aes⟩ := a
  obtain ⟨bkind, bfrm, bdest, bepoch, bkey, bsn, bsb, bsl, bhas, btext, brmw, bflag, bdir, blife, breq, bbn, bbb, bslot, bcmd, bve, blv, bms, bes⟩ := b
  by_cases h0 : akind = bkind ∧ afrm = bfrm ∧ adest = bdest
  case neg =>
    exact (same_0 akind afrm adest aepoch akey asn asb asl ahas atext armw aflag adir alife areq abn abb aslot acmd ave alv ams aes bkind bfrm bdest bepoch bkey bsn bsb bsl bhas btext brmw bflag bdir blife breq bbn bbb bslot bcmd bve blv bms bes s t s' t' w h0).mono fun e w' ⟨he, hB⟩ => ⟨false, he, ⟨fun h => (by cases h), fun h => absurd (by injections; refine ⟨?_, ?_, ?_⟩ <;> assumption) h0⟩, hB⟩
  obtain ⟨rfl, rfl, rfl⟩ := h0
  by_cases h1 : aepoch = bepoch
  case neg =>
    exact (same_1 akind afrm adest aepoch akey asn asb asl ahas atext armw aflag adir alife areq abn abb aslot acmd ave alv ams aes bepoch bkey bsn bsb bsl bhas btext brmw bflag bdir blife breq bbn bbb bslot bcmd bve blv bms bes s t s' t' w h1).mono fun e w' ⟨he, hB⟩ => ⟨false, he, ⟨fun h => (by cases h), fun h => absurd (by injections) h1⟩, hB⟩
  obtain rfl := h1
  by_cases h2 : akey = bkey
  case neg =>
    exact (same_2 akind afrm adest aepoch akey asn asb asl ahas atext armw aflag adir alife areq abn abb aslot acmd ave alv ams aes bkey bsn bsb bsl bhas btext brmw bflag bdir blife breq bbn bbb bslot bcmd bve blv bms bes s t s' t' w h2).mono fun e w' ⟨he, hB⟩ => ⟨false, he, ⟨fun h => (by cases h), fun h => absurd (by injections) h2⟩, hB⟩
  obtain rfl := h2
  by_cases h3 : asn = bsn ∧ asb = bsb ∧ asl = bsl
  case neg =>
    exact (same_3 akind afrm adest aepoch akey asn asb asl ahas atext armw aflag adir alife areq abn abb aslot acmd ave alv ams aes bsn bsb bsl bhas btext brmw bflag bdir blife breq bbn bbb bslot bcmd bve blv bms bes s t s' t' w h3).mono fun e w' ⟨he, hB⟩ => ⟨false, he, ⟨fun h => (by cases h), fun h => absurd (by injections; refine ⟨?_, ?_, ?_⟩ <;> assumption) h3⟩, hB⟩
  obtain ⟨rfl, rfl, rfl⟩ := h3
  by_cases h4 : ahas = bhas ∧ atext = btext
  case neg =>
    exact (same_4 akind afrm adest aepoch akey asn asb asl ahas atext armw aflag adir alife areq abn abb aslot acmd ave alv ams aes bhas btext brmw bflag bdir blife breq bbn bbb bslot bcmd bve blv bms bes s t s' t' w h4).mono fun e w' ⟨he, hB⟩ => ⟨false, he, ⟨fun h => (by cases h), fun h => absurd (by injections; refine ⟨?_, ?_⟩ <;> assumption) h4⟩, hB⟩
  obtain ⟨rfl, rfl⟩ := h4
  by_cases h5 : armw = brmw
  case neg =>
    exact (same_5 akind afrm adest aepoch akey asn asb asl ahas atext armw aflag adir alife areq abn abb aslot acmd ave alv ams aes brmw bflag bdir blife breq bbn bbb bslot bcmd bve blv bms bes s t s' t' w h5).mono fun e w' ⟨he, hB⟩ => ⟨false, he, ⟨fun h => (by cases h), fun h => absurd (by injections) h5⟩, hB⟩
  obtain rfl := h5
  by_cases h6 : aflag = bflag
  case neg =>
    exact (same_6 akind afrm adest aepoch akey asn asb asl ahas atext armw aflag adir alife areq abn abb aslot acmd ave alv ams aes bflag bdir blife breq bbn bbb bslot bcmd bve blv bms bes s t s' t' w h6).mono fun e w' ⟨he, hB⟩ => ⟨false, he, ⟨fun h => (by cases h), fun h => absurd (by injections) h6⟩, hB⟩
  obtain rfl := h6
  by_cases h7 : adir = bdir
  case neg =>
    exact (same_7 akind afrm adest aepoch akey asn asb asl ahas atext armw aflag adir alife areq abn abb aslot acmd ave alv ams aes bdir blife breq bbn bbb bslot bcmd bve blv bms bes s t s' t' w h7).mono fun e w' ⟨he, hB⟩ => ⟨false, he, ⟨fun h => (by cases h), fun h => absurd (by injections) h7⟩, hB⟩
  obtain rfl := h7
  by_cases h8 : alife = blife
  case neg =>
    exact (same_8 akind afrm adest aepoch akey asn asb asl ahas atext armw aflag adir alife areq abn abb aslot acmd ave alv ams aes blife breq bbn bbb bslot bcmd bve blv bms bes s t s' t' w h8).mono fun e w' ⟨he, hB⟩ => ⟨false, he, ⟨fun h => (by cases h), fun h => absurd (by injections) h8⟩, hB⟩
  obtain rfl := h8
  by_cases h9 : areq = breq
  case neg =>
    exact (same_9 akind afrm adest aepoch akey asn asb asl ahas atext armw aflag adir alife areq abn abb aslot acmd ave alv ams aes breq bbn bbb bslot bcmd bve blv bms bes s t s' t' w h9).mono fun e w' ⟨he, hB⟩ => ⟨false, he, ⟨fun h => (by cases h), fun h => absurd (by injections) h9⟩, hB⟩
  obtain rfl := h9
  by_cases h10 : abn = bbn ∧ abb = bbb
  case neg =>
    exact (same_10 akind afrm adest aepoch akey asn asb asl ahas atext armw aflag adir alife areq abn abb aslot acmd ave alv ams aes bbn bbb bslot bcmd bve blv bms bes s t s' t' w h10).mono fun e w' ⟨he, hB⟩ => ⟨false, he, ⟨fun h => (by cases h), fun h => absurd (by injections; refine ⟨?_, ?_⟩ <;> assumption) h10⟩, hB⟩
  obtain ⟨rfl, rfl⟩ := h10
  by_cases h11 : aslot = bslot
  case neg =>
    exact (same_11 akind afrm adest aepoch akey asn asb asl ahas atext armw aflag adir alife areq abn abb aslot acmd ave alv ams aes bslot bcmd bve blv bms bes s t s' t' w h11).mono fun e w' ⟨he, hB⟩ => ⟨false, he, ⟨fun h => (by cases h), fun h => absurd (by injections) h11⟩, hB⟩
  obtain rfl := h11
  by_cases h12 : acmd = bcmd
  case neg =>
    exact (same_12 akind afrm adest aepoch akey asn asb asl ahas atext armw aflag adir alife areq abn abb aslot acmd ave alv ams aes bcmd bve blv bms bes s t s' t' w h12).mono fun e w' ⟨he, hB⟩ => ⟨false, he, ⟨fun h => (by cases h), fun h => absurd (by injections) h12⟩, hB⟩
  obtain rfl := h12
  by_cases h13 : ave = bve ∧ ams = bms ∧ alv = blv
  case neg =>
    exact (same_13 akind afrm adest aepoch akey asn asb asl ahas atext armw aflag adir alife areq abn abb aslot acmd ave alv ams aes bve blv bms bes s t s' t' w hl hl2 hs hs' h13).mono fun e w' ⟨he, hB⟩ => ⟨false, he, ⟨fun h => (by cases h), fun h => absurd (by injections; refine ⟨?_, ?_, ?_⟩ <;> assumption) h13⟩, hB⟩
  obtain ⟨rfl, rfl, rfl⟩ := h13
  by_cases h14 : aes = bes
  case neg =>
    exact (same_14 akind afrm adest aepoch akey asn asb asl ahas atext armw aflag adir alife areq abn abb aslot acmd ave alv ams aes bes s t s' t' w hl hk1 hk2 hs hs' ht ht' h14).mono fun e w' ⟨he, hB⟩ => ⟨false, he, ⟨fun h => (by cases h), fun h => absurd (by injections) h14⟩, hB⟩
  obtain rfl := h14
  exact (fSame_same ⟨akind, afrm, adest, aepoch, akey, asn, asb, asl, ahas, atext, armw, aflag, adir, alife, areq, abn, abb, aslot, acmd, ave, alv, ams, aes⟩ s t s' t' w hl hk1 hs hs' ht ht').mono fun e w' ⟨he, hB⟩ => ⟨true, he, ⟨fun _ => rfl, fun _ => rfl⟩, hB⟩
end Go.Proofs.YtodajejjhfpdmaaDoor
