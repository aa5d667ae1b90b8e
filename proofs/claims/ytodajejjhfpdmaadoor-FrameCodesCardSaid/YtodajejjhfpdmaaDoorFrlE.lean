/-
  Equality of frames that are alike.
-/
import Derived.Test.YtodajejjhfpdmaaDoorFrlD
namespace Go.Proofs.YtodajejjhfpdmaaDoor
open Go.RowKit Go.Instr

set_option maxHeartbeats 4000000 in
set_option maxRecDepth 20000 in
theorem fSame_same (f : Fr) (s t s' t' : Value) (w : World) (hl : f.ms.length ≤ 40) (hk : f.es.length ≤ 40) (hs : memR.At w s f.ms) (hs' : memR.At w s' f.ms) (ht : entR.At w t f.es) (ht' : entR.At w t' f.es) :
    Calls Tryd.prog 13 #[.agg (frC f s t), .agg (frC f s' t')] w (retB true w) := by
  have HS := Lib.hid hs
  have HS' := Lib.hid hs'
  have HT := Lib.hid ht
  have HT' := Lib.hid ht'
  have B0 := Lib.hid (show Below w.heap.size w ((w.alloc (.cells (frC f s t) 47)).alloc (.cells (frC f s' t') 47)) from by go_grown)
  have F1 := Lib.hid (show Blk ((w.alloc (.cells (frC f s t) 47)).alloc (.cells (frC f s' t') 47)) w.heap.size (frC f s t) 47 from (Blk.new rfl).alloc _)
  have F2 := Lib.hid (show Blk ((w.alloc (.cells (frC f s t) 47)).alloc (.cells (frC f s' t') 47)) (w.heap.size + 1) (frC f s' t') 47 from Blk.new (by simp))
  clear hs hs' ht ht'
  go_enter Tryd.func13, Tryd.ntmps13
  go_wp2_with fail
  refine (vSame_same f.ve s s' f.lv f.ms _ hl ((HS.out.al _).al _) ((HS'.out.al _).al _)).mono ?_
  rintro e w3 ⟨rfl, hB3⟩
  have B3 := Lib.hid (m_below_on B0.out hB3)
  have c1 := (F1.out.on hB3).cell 33
  have c2 := (F2.out.on hB3).cell 33
  simp at c1 c2
  have H5 := Lib.hid (eqE_any t t' f.es f.es true w3 hk hk (((HT.out.al _).al _).on hB3) (((HT'.out.al _).al _).on hB3) (by simp))
  clear hB3
  go_wp2_with fail
  refine H5.out.mono ?_
  rintro e w4 ⟨rfl, hB4⟩
  have B4 := Lib.hid (m_below_on B3.out hB4)
  clear H5 hB4
  go_wp2_with fail
  go_ret
  exact ⟨rfl, B4.out⟩
end Go.Proofs.YtodajejjhfpdmaaDoor
