/-
  Frame: what was encoded is decoded again (the mathematics).
-/
import Derived.Test.YtodajejjhfpdmaaDoorFrdG
import Derived.Test.YtodajejjhfpdmaaDoorFrmL
import Derived.Test.YtodajejjhfpdmaaDoorOctG
import Derived.ProofKit
namespace Go.Proofs.YtodajejjhfpdmaaDoor
open Go.RowKit Go.Instr

theorem beN_right (x m : Nat) : beN x (m + 1) = beN (x / 256) m ++ [UInt8.ofNat x] := by
  unfold beN
  rw [List.range_succ, List.map_append, List.map_singleton]
  congr 1
  · apply List.map_congr_left
    intro i hi
    have hin : i < m := List.mem_range.1 hi
    rw [show m + 1 - 1 - i = (m - 1 - i) + 1 by omega, Nat.pow_succ, Nat.mul_comm, Nat.div_div_eq_div_mul]
  · simp
theorem getN_beN (m : Nat) : ∀ x : Nat, x < 256 ^ m → getN (beN x m) = x := by
  induction m with
  | zero => intro x hx; have : x = 0 := by simpa using hx
            subst this; rfl
  | succ m ih =>
    intro x hx
    rw [beN_right, getN_snoc, ih (x / 256) (Nat.div_lt_of_lt_mul (by rw [Nat.pow_succ, Nat.mul_comm] at hx; exact hx)), UInt8.toNat_ofNat']
    omega
theorem ext_pre (r : ByteArray) (a b : List UInt8) (n : Nat) (h : r.data.toList = a ++ b) (hn : a.length = n) : (r.extract 0 n).data.toList = a ∧ r.extract n r.size = ⟨b.toArray⟩ ∧ n ≤ r.size := by
  have hl : r.data.toList.length = r.size := rfl
  refine ⟨?_, ?_, ?_⟩
  · rw [Lib.extract_data, h, List.drop_zero, Nat.sub_zero, List.take_left' hn]
  · apply Go.WideShapes.bytes_inj
    rw [Lib.extract_data, h, List.drop_left' hn]
    exact List.take_of_length_le (by rw [← hl, h, List.length_append]; omega)
  · rw [← hl, h, List.length_append]; omega
/-- A state in which these bytes are left, without an error. -/
def S0 (l : List UInt8) : Sd := ⟨⟨l.toArray⟩, 0, false⟩
theorem dNum_enc (z n : Nat) (rest : List UInt8) (h1 : 1 ≤ z) (h8 : z ≤ 8) (hn : n < 256 ^ z) : dNum z (S0 (beN n z ++ rest)) = (n, S0 rest) := by
  obtain ⟨e1, e2, e3⟩ := ext_pre ⟨(beN n z ++ rest).toArray⟩ (beN n z) rest z (by simp) (beN_len n z)
  have hs : sizedB (z : Int) = true := by simp [sizedB]; omega
  have h2 : takeT ⟨(beN n z ++ rest).toArray⟩ 0 z = (⟨(beN n z ++ rest).toArray⟩ : ByteArray).extract 0 z := by unfold takeT; rw [if_pos ⟨rfl, e3⟩]
  have h3 : takeR ⟨(beN n z ++ rest).toArray⟩ 0 z = ⟨rest.toArray⟩ := by unfold takeR; rw [if_pos ⟨rfl, e3⟩, e2]
  have h4 : takeF ⟨(beN n z ++ rest).toArray⟩ 0 z = 0 := by unfold takeF; rw [if_pos rfl, if_pos e3]
  unfold dNum S0 numN numR numF
  simp only [hs, if_true, Int.toNat_natCast]
  rw [h2, h3, h4, e1, getN_beN z n hn]
theorem dOne_enc (n : Nat) (rest : List UInt8) (hn : n < 256) : dOne (S0 (enc (n1 n) ++ rest)) = (n, S0 rest) := dNum_enc 1 n rest (by decide) (by decide) hn
theorem dFour_enc (n : Nat) (rest : List UInt8) (hn : n < 4294967296) : dFour (S0 (enc (n4 n) ++ rest)) = (n, S0 rest) := dNum_enc 4 n rest (by decide) (by decide) hn
theorem S0_ck (l : List UInt8) : (S0 l).ck true = S0 l := by simp [S0, Sd.ck]
theorem dFlag_enc (b : Bool) (rest : List UInt8) : dFlag (S0 (enc (nB b) ++ rest)) = (b, S0 rest) := by
  have h := dOne_enc (if b then 1 else 0) rest (by cases b <;> decide)
  unfold dFlag
  rw [show enc (nB b) = enc (n1 (if b then 1 else 0)) from rfl, h]
  cases b <;> simp [S0, Sd.ck]
theorem dKey_enc (n : Nat) (rest : List UInt8) (hn : n < 6) : dKey (S0 (enc (n1 n) ++ rest)) = (n, S0 rest) := by
  unfold dKey
  rw [dOne_enc n rest (by omega)]
  simp [S0, Sd.ck, hn]
theorem dCount_enc (m n : Nat) (rest : List UInt8) (hn : n ≤ m) (hm : m < 256) : dCount m (S0 (enc (n1 n) ++ rest)) = (n, S0 rest) := by
  unfold dCount
  rw [dOne_enc n rest (by omega)]
  rw [if_neg (by simp; omega)]
theorem dMark_enc (n b : Nat) (rest : List UInt8) (hn : n < 4294967296) (hb : b < 256) : dMark (S0 (enc (n4 n) ++ (enc (n1 b) ++ rest))) = ((n, b), S0 rest) := by
  unfold dMark
  rw [dFour_enc n _ hn]
  simp only
  rw [dOne_enc b rest hb]
theorem dStamp_enc (n b l : Nat) (rest : List UInt8) (hn : n < 4294967296) (hb : b < 256) (hl : l < 256) : dStamp (S0 (enc (n4 n) ++ (enc (n1 b) ++ (enc (n1 l) ++ rest)))) = ((n, b, l), S0 rest) := by
  unfold dStamp
  rw [dMark_enc n b _ hn hb]
  simp only
  rw [dOne_enc l rest hl]
theorem dText_enc (s : ByteArray) (rest : List UInt8) (hs : s.size ≤ 255) : dText (S0 (enc (pT s) ++ rest)) = (s, S0 rest) := by
  have hen : enc (pT s) = UInt8.ofNat s.size :: s.data.toList := by simp [enc, pT]
  rw [hen]
  have hlen : (UInt8.ofNat s.size :: s.data.toList).length = 1 + s.size := by rw [List.length_cons, Nat.add_comm]; rfl
  obtain ⟨r, hr⟩ : ∃ r : ByteArray, r = ⟨((UInt8.ofNat s.size :: s.data.toList) ++ rest).toArray⟩ := ⟨_, rfl⟩
  have hd : r.data.toList = (UInt8.ofNat s.size :: s.data.toList) ++ rest := by rw [hr]
  obtain ⟨e1, e2, e3⟩ := ext_pre r _ rest (1 + s.size) hd hlen
  have ht : textN r = 1 + s.size := by
    unfold textN
    rw [hd]
    show 1 + (UInt8.ofNat s.size).toNat = _
    rw [UInt8.toNat_ofNat', Nat.mod_eq_of_lt (by omega)]
  have e4 : (r.extract 0 (1 + s.size)).extract 1 (r.extract 0 (1 + s.size)).size = s := by
    rw [ext_ext r _ e3]
    apply Go.WideShapes.bytes_inj
    rw [Lib.extract_data, hd]
    simp only [List.cons_append, List.drop_succ_cons, List.drop_zero]
    rw [show 1 + s.size - 1 = s.data.toList.length by rw [Nat.add_sub_cancel_left]; rfl, List.take_left]
  have e5 : (r.extract 0 (1 + s.size)).size ≠ 0 := by rw [ByteArray.size_extract]; omega
  unfold dText S0
  rw [← hr]
  simp only [ht]
  have h2 : takeT r 0 (1 + s.size) = r.extract 0 (1 + s.size) := by unfold takeT; rw [if_pos ⟨rfl, e3⟩]
  have h3 : takeR r 0 (1 + s.size) = ⟨rest.toArray⟩ := by unfold takeR; rw [if_pos ⟨rfl, e3⟩, e2]
  have h4 : takeF r 0 (1 + s.size) = 0 := by unfold takeF; rw [if_pos rfl, if_pos e3]
  rw [h2, h3, h4]
  unfold tailT
  rw [if_neg e5, e4]
theorem dValue_enc (b : Bool) (s : ByteArray) (rest : List UInt8) (h : valueB b s = true) : dValue (S0 (enc (nB b) ++ (enc (pT s) ++ rest))) = ((b, s), S0 rest) := by
  have hs : s.size ≤ 255 := by
    unfold valueB at h
    rw [Bool.and_eq_true] at h
    have := h.1
    simp at this
    omega
  unfold dValue
  rw [dFlag_enc]
  simp only
  rw [dText_enc s rest hs]
  simp only
  rw [h, S0_ck]
theorem dHead_enc (a b c : Nat) (rest : List UInt8) (ha : a < 256) (hb : b < 256) (hc : c < 256) : dHead (S0 (enc (n1 a) ++ (enc (n1 b) ++ (enc (n1 c) ++ rest)))) = ((a, b, c), S0 rest) := by
  unfold dHead
  rw [dOne_enc a _ ha]
  simp only
  rw [dOne_enc b _ hb]
  simp only
  rw [dOne_enc c _ hc]
theorem dCmd_enc (c : CmdV) (rest : List UInt8) (h : c.fine) : dCmd (S0 (enc (n1 c.k) ++ (enc (n1 c.n) ++ (enc (n1 c.l) ++ (enc (n4 c.e) ++ (enc (n4 c.r) ++ rest)))))) = (c, S0 rest) := by
  obtain ⟨h1, h2, h3, h4, h5⟩ := h
  unfold dCmd
  rw [dHead_enc _ _ _ _ h1 h2 h3]
  simp only
  rw [dFour_enc _ _ h4]
  simp only
  rw [dFour_enc _ _ h5]
theorem dMem_enc (m : Mem) (rest : List UInt8) (h : m.fine) : dMem (S0 (enc (n1 m.n) ++ (enc (n1 m.l) ++ (enc (nB m.r) ++ rest)))) = (m, S0 rest) := by
  unfold dMem
  rw [dOne_enc _ _ h.1]
  simp only
  rw [dOne_enc _ _ h.2]
  simp only
  rw [dFlag_enc]
theorem dEnt_enc (x : Ent) (rest : List UInt8) (h : x.fine) : dEnt (S0 (encs (pE x) ++ rest)) = (x, S0 rest) := by
  obtain ⟨h1, h2, h3, h4⟩ := h
  have e : encs (pE x) ++ rest = enc (n4 x.s) ++ (enc (n4 x.n) ++ (enc (n1 x.b) ++ (enc (n1 x.c.k) ++ (enc (n1 x.c.n) ++ (enc (n1 x.c.l) ++ (enc (n4 x.c.e) ++ (enc (n4 x.c.r) ++ rest))))))) := by simp [encs, pE, pC]
  rw [e]
  unfold dEnt
  rw [dFour_enc _ _ h1]
  simp only
  rw [dMark_enc _ _ _ h2 h3]
  simp only
  rw [dCmd_enc _ _ h4]
theorem encs_app (a b : List PartV) : encs (a ++ b) = encs a ++ encs b := by simp [encs]
theorem encs_cons (p : PartV) (b : List PartV) : encs (p :: b) = enc p ++ encs b := by simp [encs]
theorem dMems_enc (l : List Mem) (h : ∀ x ∈ l, x.fine) : ∀ (k : Nat) (rest : List UInt8), k ≤ l.length → dMems (S0 (encs (l.flatMap pM) ++ rest)) k = (l.take k, S0 (encs ((l.drop k).flatMap pM) ++ rest)) := by
  intro k rest hk
  induction k with
  | zero => simp [dMems]
  | succ k ih =>
    have hlt : k < l.length := hk
    have h1 := ih (by omega)
    have hd : l.drop k = l[k] :: l.drop (k + 1) := List.drop_eq_getElem_cons hlt
    have e : encs ((l.drop k).flatMap pM) ++ rest = enc (n1 l[k].n) ++ (enc (n1 l[k].l) ++ (enc (nB l[k].r) ++ (encs ((l.drop (k + 1)).flatMap pM) ++ rest))) := by
      rw [hd, List.flatMap_cons, encs_app, List.append_assoc]
      generalize encs ((l.drop (k + 1)).flatMap pM) ++ rest = q
      simp [encs, pM]
    unfold dMems
    rw [h1, e, dMem_enc _ _ (h _ (List.getElem_mem hlt))]
    rw [List.take_succ_eq_append_getElem hlt]
theorem dEnts_enc (l : List Ent) (h : ∀ x ∈ l, x.fine) : ∀ (k : Nat) (rest : List UInt8), k ≤ l.length → dEnts (S0 (encs (l.flatMap pE) ++ rest)) k = (l.take k, S0 (encs ((l.drop k).flatMap pE) ++ rest)) := by
  intro k rest hk
  induction k with
  | zero => simp [dEnts]
  | succ k ih =>
    have hlt : k < l.length := hk
    have h1 := ih (by omega)
    have hd : l.drop k = l[k] :: l.drop (k + 1) := List.drop_eq_getElem_cons hlt
    have e : encs ((l.drop k).flatMap pE) ++ rest = encs (pE l[k]) ++ (encs ((l.drop (k + 1)).flatMap pE) ++ rest) := by
      rw [hd, List.flatMap_cons, encs_app, List.append_assoc]
    unfold dEnts
    rw [h1, e, dEnt_enc _ _ (h _ (List.getElem_mem hlt))]
    rw [List.take_succ_eq_append_getElem hlt]
theorem lives_enc (lv : Lv) (rest : List UInt8) (h : lv.fine) : dRaw 8 (S0 (encs ((lvL lv).map n1) ++ rest)) = (⟨(encs ((lvL lv).map n1)).toArray⟩, S0 rest) ∧ lvOf ⟨(encs ((lvL lv).map n1)).toArray⟩ = lv := by
  obtain ⟨a, b, c, d, e, f, g, k⟩ := lv
  obtain ⟨h0, h1, h2, h3, h4, h5, h6, h7⟩ := h
  simp only at h0 h1 h2 h3 h4 h5 h6 h7
  have hl : encs ((lvL ⟨a, b, c, d, e, f, g, k⟩).map n1) = [UInt8.ofNat a, UInt8.ofNat b, UInt8.ofNat c, UInt8.ofNat d, UInt8.ofNat e, UInt8.ofNat f, UInt8.ofNat g, UInt8.ofNat k] := by
    simp [encs, lvL, enc, n1, beN, List.range, List.range.loop]
  constructor
  · rw [hl]
    obtain ⟨e1, e2, e3⟩ := ext_pre ⟨([UInt8.ofNat a, UInt8.ofNat b, UInt8.ofNat c, UInt8.ofNat d, UInt8.ofNat e, UInt8.ofNat f, UInt8.ofNat g, UInt8.ofNat k] ++ rest).toArray⟩ _ rest 8 (by rfl) rfl
    have e4 := Go.WideShapes.bytes_inj (a := ByteArray.extract ⟨([UInt8.ofNat a, UInt8.ofNat b, UInt8.ofNat c, UInt8.ofNat d, UInt8.ofNat e, UInt8.ofNat f, UInt8.ofNat g, UInt8.ofNat k] ++ rest).toArray⟩ 0 8) (b := ⟨[UInt8.ofNat a, UInt8.ofNat b, UInt8.ofNat c, UInt8.ofNat d, UInt8.ofNat e, UInt8.ofNat f, UInt8.ofNat g, UInt8.ofNat k].toArray⟩) e1
    obtain ⟨r, hr⟩ : ∃ r : ByteArray, r = ⟨([UInt8.ofNat a, UInt8.ofNat b, UInt8.ofNat c, UInt8.ofNat d, UInt8.ofNat e, UInt8.ofNat f, UInt8.ofNat g, UInt8.ofNat k] ++ rest).toArray⟩ := ⟨_, rfl⟩
    rw [← hr] at e2 e3 e4
    unfold dRaw S0
    rw [← hr]
    unfold rawT rawR rawF
    rw [if_neg (by omega), if_neg (by omega), if_neg (by omega)]
    have h2 : takeT r 0 ((8 : Nat) : Int).toNat = r.extract 0 8 := by unfold takeT; rw [if_pos ⟨rfl, e3⟩]; rfl
    have h3 : takeR r 0 ((8 : Nat) : Int).toNat = ⟨rest.toArray⟩ := by unfold takeR; rw [if_pos ⟨rfl, e3⟩]; exact e2
    have h4 : takeF r 0 ((8 : Nat) : Int).toNat = 0 := by unfold takeF; rw [if_pos rfl, if_pos (show ((8 : Nat) : Int).toNat ≤ r.size from e3)]
    rw [h2, h3, h4, e4]
  · rw [hl]
    unfold lvOf byteN
    simp
    omega
/-- Frame g with field c of f. -/
def cpF (f : Fr) (g : Fr) (c : Nat) : Fr :=
  if c = 69 then { g with epoch := f.epoch }
  else if c = 75 then { g with key := f.key }
  else if c = 84 then { g with sn := f.sn, sb := f.sb, sl := f.sl }
  else if c = 86 then { g with has := f.has, text := f.text }
  else if c = 77 then { g with rmw := f.rmw }
  else if c = 68 then { g with dir := f.dir }
  else if c = 70 then { g with flag := f.flag }
  else if c = 76 then { g with life := f.life }
  else if c = 82 then { g with req := f.req }
  else if c = 87 then { g with ve := f.ve, ms := f.ms, lv := f.lv }
  else if c = 66 then { g with bn := f.bn, bb := f.bb }
  else if c = 83 then { g with slot := f.slot }
  else if c = 78 then { g with es := f.es }
  else if c = 67 then { g with cmd := f.cmd }
  else g
theorem dView_enc (f : Fr) (rest : List UInt8) (hn : f.ms.length ≤ 8) (hv : f.ve < 4294967296) (hm : ∀ x ∈ f.ms, x.fine) (hl : f.lv.fine) :
    dView (S0 (encs ([n4 f.ve, n1 f.ms.length] ++ f.ms.flatMap pM ++ (lvL f.lv).map n1) ++ rest)) = ((f.ve, f.ms, f.lv), S0 rest) := by
  have e : encs ([n4 f.ve, n1 f.ms.length] ++ f.ms.flatMap pM ++ (lvL f.lv).map n1) ++ rest = enc (n4 f.ve) ++ (enc (n1 f.ms.length) ++ (encs (f.ms.flatMap pM) ++ (encs ((lvL f.lv).map n1) ++ rest))) := by
    rw [encs_app, encs_app, List.append_assoc, List.append_assoc]
    generalize encs (f.ms.flatMap pM) ++ (encs ((lvL f.lv).map n1) ++ rest) = q
    simp [encs]
  rw [e]
  unfold dView
  rw [dFour_enc _ _ hv]
  simp only
  rw [dCount_enc 8 _ _ hn (by decide)]
  simp only
  rw [dMems_enc f.ms hm _ _ (Nat.le_refl _)]
  simp only [List.take_length, List.drop_length, List.flatMap_nil]
  rw [show encs ([] : List PartV) ++ (encs ((lvL f.lv).map n1) ++ rest) = encs ((lvL f.lv).map n1) ++ rest from rfl]
  obtain ⟨h1, h2⟩ := lives_enc f.lv rest hl
  rw [h1]
  simp only
  rw [h2]
theorem dEntries_enc (f : Fr) (rest : List UInt8) (hn : f.es.length ≤ 16) (hm : ∀ x ∈ f.es, x.fine) :
    dEntries (S0 (encs ([n1 f.es.length] ++ f.es.flatMap pE) ++ rest)) = (f.es, S0 rest) := by
  have e : encs ([n1 f.es.length] ++ f.es.flatMap pE) ++ rest = enc (n1 f.es.length) ++ (encs (f.es.flatMap pE) ++ rest) := by
    rw [encs_app, List.append_assoc]
    generalize encs (f.es.flatMap pE) ++ rest = q
    simp [encs]
  rw [e]
  unfold dEntries
  rw [dCount_enc 16 _ _ hn (by decide)]
  simp only
  rw [dEnts_enc f.es hm _ _ (Nat.le_refl _)]
  simp only [List.take_length, List.drop_length, List.flatMap_nil]
  rfl
theorem dField_enc (c : Nat) (hc : c ∈ l14) (f g : Fr) (rest : List UInt8) (hf : f.fine) (hfit : fitsF f c = true) : dField c g (S0 (encs (fldP f c) ++ rest)) = (cpF f g c, S0 rest) := by
  obtain ⟨k1, k2, k3, k4, k5, ⟨k6, k7, k8⟩, k9, k10, k11, ⟨k12, k13⟩, k14, k15, k20, k21, k22, k23⟩ := hf
  have one : ∀ n, encs [n1 n] ++ rest = enc (n1 n) ++ rest := fun n => by simp [encs]
  have four : ∀ n, encs [n4 n] ++ rest = enc (n4 n) ++ rest := fun n => by simp [encs]
  simp only [l14, List.mem_cons, List.not_mem_nil, or_false] at hc
  rcases hc with rfl | rfl | rfl | rfl | rfl | rfl | rfl | rfl | rfl | rfl | rfl | rfl | rfl | rfl
  · show ({ g with epoch := (dFour (S0 (encs [n4 f.epoch] ++ rest))).1 }, (dFour (S0 (encs [n4 f.epoch] ++ rest))).2) = _
    rw [four, dFour_enc _ _ k4]; rfl
  · have h6 : f.key < 6 := by simpa [fitsF] using hfit
    show ({ g with key := (dKey (S0 (encs [n1 f.key] ++ rest))).1 }, (dKey (S0 (encs [n1 f.key] ++ rest))).2) = _
    rw [one, dKey_enc _ _ h6]; rfl
  · have e : encs [n4 f.sn, n1 f.sb, n1 f.sl] ++ rest = enc (n4 f.sn) ++ (enc (n1 f.sb) ++ (enc (n1 f.sl) ++ rest)) := by simp [encs]
    show ({ g with sn := (dStamp (S0 (encs [n4 f.sn, n1 f.sb, n1 f.sl] ++ rest))).1.1, sb := (dStamp (S0 (encs [n4 f.sn, n1 f.sb, n1 f.sl] ++ rest))).1.2.1, sl := (dStamp (S0 (encs [n4 f.sn, n1 f.sb, n1 f.sl] ++ rest))).1.2.2 }, (dStamp (S0 (encs [n4 f.sn, n1 f.sb, n1 f.sl] ++ rest))).2) = _
    rw [e, dStamp_enc _ _ _ _ k6 k7 k8]; rfl
  · have h6 : valueB f.has f.text = true := by simpa [fitsF] using hfit
    have e : encs [nB f.has, pT f.text] ++ rest = enc (nB f.has) ++ (enc (pT f.text) ++ rest) := by simp [encs]
    show ({ g with has := (dValue (S0 (encs [nB f.has, pT f.text] ++ rest))).1.1, text := (dValue (S0 (encs [nB f.has, pT f.text] ++ rest))).1.2 }, (dValue (S0 (encs [nB f.has, pT f.text] ++ rest))).2) = _
    rw [e, dValue_enc _ _ _ h6]; rfl
  · show ({ g with rmw := (dFlag (S0 (encs [n1 (if f.rmw then 1 else 0)] ++ rest))).1 }, (dFlag (S0 (encs [n1 (if f.rmw then 1 else 0)] ++ rest))).2) = _
    rw [one, show enc (n1 (if f.rmw then 1 else 0)) = enc (nB f.rmw) from rfl, dFlag_enc]; rfl
  · show ({ g with dir := (dOne (S0 (encs [n1 f.dir] ++ rest))).1 }, (dOne (S0 (encs [n1 f.dir] ++ rest))).2) = _
    rw [one, dOne_enc _ _ k9]; rfl
  · show ({ g with flag := (dFlag (S0 (encs [n1 (if f.flag then 1 else 0)] ++ rest))).1 }, (dFlag (S0 (encs [n1 (if f.flag then 1 else 0)] ++ rest))).2) = _
    rw [one, show enc (n1 (if f.flag then 1 else 0)) = enc (nB f.flag) from rfl, dFlag_enc]; rfl
  · show ({ g with life := (dOne (S0 (encs [n1 f.life] ++ rest))).1 }, (dOne (S0 (encs [n1 f.life] ++ rest))).2) = _
    rw [one, dOne_enc _ _ k10]; rfl
  · show ({ g with req := (dFour (S0 (encs [n4 f.req] ++ rest))).1 }, (dFour (S0 (encs [n4 f.req] ++ rest))).2) = _
    rw [four, dFour_enc _ _ k11]; rfl
  · have hn : f.ms.length ≤ 8 := by simpa [fitsF] using hfit
    show ({ g with ve := (dView (S0 (encs ([n4 f.ve, n1 f.ms.length] ++ f.ms.flatMap pM ++ (lvL f.lv).map n1) ++ rest))).1.1, ms := (dView (S0 (encs ([n4 f.ve, n1 f.ms.length] ++ f.ms.flatMap pM ++ (lvL f.lv).map n1) ++ rest))).1.2.1, lv := (dView (S0 (encs ([n4 f.ve, n1 f.ms.length] ++ f.ms.flatMap pM ++ (lvL f.lv).map n1) ++ rest))).1.2.2 }, (dView (S0 (encs ([n4 f.ve, n1 f.ms.length] ++ f.ms.flatMap pM ++ (lvL f.lv).map n1) ++ rest))).2) = _
    rw [dView_enc f rest hn k20 k22 k21]; rfl
  · have e : encs [n4 f.bn, n1 f.bb] ++ rest = enc (n4 f.bn) ++ (enc (n1 f.bb) ++ rest) := by simp [encs]
    show ({ g with bn := (dMark (S0 (encs [n4 f.bn, n1 f.bb] ++ rest))).1.1, bb := (dMark (S0 (encs [n4 f.bn, n1 f.bb] ++ rest))).1.2 }, (dMark (S0 (encs [n4 f.bn, n1 f.bb] ++ rest))).2) = _
    rw [e, dMark_enc _ _ _ k12 k13]; rfl
  · show ({ g with slot := (dFour (S0 (encs [n4 f.slot] ++ rest))).1 }, (dFour (S0 (encs [n4 f.slot] ++ rest))).2) = _
    rw [four, dFour_enc _ _ k14]; rfl
  · have hn : f.es.length ≤ 16 := by simpa [fitsF] using hfit
    show ({ g with es := (dEntries (S0 (encs ([n1 f.es.length] ++ f.es.flatMap pE) ++ rest))).1 }, (dEntries (S0 (encs ([n1 f.es.length] ++ f.es.flatMap pE) ++ rest))).2) = _
    rw [dEntries_enc f rest hn k23]; rfl
  · have e : encs [n1 f.cmd.k, n1 f.cmd.n, n1 f.cmd.l, n4 f.cmd.e, n4 f.cmd.r] ++ rest = enc (n1 f.cmd.k) ++ (enc (n1 f.cmd.n) ++ (enc (n1 f.cmd.l) ++ (enc (n4 f.cmd.e) ++ (enc (n4 f.cmd.r) ++ rest)))) := by simp [encs]
    show ({ g with cmd := (dCmd (S0 (encs [n1 f.cmd.k, n1 f.cmd.n, n1 f.cmd.l, n4 f.cmd.e, n4 f.cmd.r] ++ rest))).1 }, (dCmd (S0 (encs [n1 f.cmd.k, n1 f.cmd.n, n1 f.cmd.l, n4 f.cmd.e, n4 f.cmd.r] ++ rest))).2) = _
    rw [e, dCmd_enc _ _ k15]; rfl
theorem dFlds_enc (f : Fr) (hf : f.fine) (rest : List UInt8) : ∀ (l : List Nat) (g : Fr), (∀ c ∈ l, c ∈ l14 ∧ fitsF f c = true) → dFlds l g (S0 (encs (l.flatMap (fldP f)) ++ rest)) = (l.foldl (cpF f) g, S0 rest) := by
  intro l
  induction l with
  | nil => intro g _; rfl
  | cons c l ih =>
    intro g h
    have hc := h c (by simp)
    have e := dField_enc c hc.1 f g (encs (l.flatMap (fldP f)) ++ rest) hf hc.2
    rw [List.flatMap_cons, encs_app, List.append_assoc]
    unfold dFlds
    rw [e, if_neg (by show ¬ (false = true); decide)]
    exact ih _ (fun x hx => h x (by simp [hx]))
/-- The frame with the fields of its kind alone. -/
def restF (f : Fr) : Fr := (letK f.kind).foldl (cpF f) { fr0 with kind := f.kind, frm := f.frm, dest := f.dest }
theorem decT_enc (f : Fr) (hf : f.fine) (hv : validF f = true) (hj : joinE (partsF f) = 0) : decT (bodyF f) = (restF f, 0) := by
  unfold validF at hv
  rw [Bool.and_eq_true] at hv
  have hall := List.all_eq_true.1 hv.2
  have hb : bodyF f = ⟨(encs (partsF f)).toArray⟩ := by unfold bodyF joinS; rw [if_pos hj]
  have e : encs (partsF f) = enc (n1 f.kind) ++ (enc (n1 f.frm) ++ (enc (n1 f.dest) ++ (encs ((letK f.kind).flatMap (fldP f)) ++ []))) := by
    unfold partsF
    rw [encs_app, List.append_nil]
    generalize encs ((letK f.kind).flatMap (fldP f)) = q
    simp [encs]
  have hd : dHead ⟨bodyF f, 0, false⟩ = ((f.kind, f.frm, f.dest), S0 (encs ((letK f.kind).flatMap (fldP f)) ++ [])) := by
    rw [hb, e]
    exact dHead_enc _ _ _ _ hf.1 hf.2.1 hf.2.2.1
  have hfl := dFlds_enc f hf [] (letK f.kind) (headF ⟨bodyF f, 0, false⟩) (fun c hc => ⟨letK_in _ _ hc, hall c hc⟩)
  have hh : headF ⟨bodyF f, 0, false⟩ = { fr0 with kind := f.kind, frm := f.frm, dest := f.dest } := by unfold headF; rw [hd]
  unfold decT
  rw [hd]
  simp only
  rw [if_neg (by unfold endF S0; simp only; rw [if_pos True.intro]; split <;> decide), if_neg (by rw [hv.1]; decide), hfl]
  simp only
  rw [if_neg (by show ¬ (false = true); decide), if_pos (by rfl), hh]
  rfl
theorem chk_n1 {n : Nat} (h : n < 256) : chk (n1 n) = 0 := by
  have h2 : fitsB n 1 = true := by simp [fitsB]; omega
  simp [chk, n1, sizedB, h2]
theorem chk_n4 {n : Nat} (h : n < 4294967296) : chk (n4 n) = 0 := by
  have h2 : fitsB n 4 = true := by simp [fitsB]; omega
  simp [chk, n4, sizedB, h2]
theorem chk_nB (b : Bool) : chk (nB b) = 0 := chk_n1 (by cases b <;> decide)
theorem chk_pT {s : ByteArray} (h : s.size ≤ 255) : chk (pT s) = 0 := by
  have h2 : ¬ 255 < s.size := by omega
  simp [chk, pT, h2]
theorem chk_cons {p : PartV} {l : List PartV} (h : chk p = 0) (k : joinE l = 0) : joinE (p :: l) = 0 := by simp only [joinE]; rw [if_pos h]; exact k
theorem chk_nil : joinE [] = 0 := rfl
theorem chk_app {l k : List PartV} (h : joinE l = 0) (g : joinE k = 0) : joinE (l ++ k) = 0 := by
  induction l with
  | nil => exact g
  | cons p l ih =>
    simp only [joinE, List.cons_append] at h ⊢
    by_cases hc : chk p = 0
    · rw [if_pos hc] at h ⊢; exact ih h
    · rw [if_neg hc] at h; exact absurd h hc
theorem chk_flat {α : Type} {l : List α} {f : α → List PartV} (h : ∀ x ∈ l, joinE (f x) = 0) : joinE (l.flatMap f) = 0 := by
  induction l with
  | nil => rfl
  | cons x l ih => rw [List.flatMap_cons]; exact chk_app (h x (by simp)) (ih (fun y hy => h y (by simp [hy])))
theorem chk_cmd {c : CmdV} (h : c.fine) : joinE [n1 c.k, n1 c.n, n1 c.l, n4 c.e, n4 c.r] = 0 :=
  chk_cons (chk_n1 h.1) (chk_cons (chk_n1 h.2.1) (chk_cons (chk_n1 h.2.2.1) (chk_cons (chk_n4 h.2.2.2.1) (chk_cons (chk_n4 h.2.2.2.2) chk_nil))))
theorem chk_lives {l : Lv} (h : l.fine) : joinE ((lvL l).map n1) = 0 := by
  obtain ⟨h0, h1, h2, h3, h4, h5, h6, h7⟩ := h
  exact chk_cons (chk_n1 h0) (chk_cons (chk_n1 h1) (chk_cons (chk_n1 h2) (chk_cons (chk_n1 h3) (chk_cons (chk_n1 h4) (chk_cons (chk_n1 h5) (chk_cons (chk_n1 h6) (chk_cons (chk_n1 h7) chk_nil)))))))
theorem val_size {f : Fr} (h : fitsF f 86 = true) : f.text.size ≤ 255 := by
  have h : valueB f.has f.text = true := by simpa [fitsF] using h
  unfold valueB at h
  rw [Bool.and_eq_true] at h
  have := h.1
  simp at this
  omega
theorem ms_lt {f : Fr} (h : fitsF f 87 = true) : f.ms.length < 256 := by
  have : f.ms.length ≤ 8 := by simpa [fitsF] using h
  omega
theorem es_lt {f : Fr} (h : fitsF f 78 = true) : f.es.length < 256 := by
  have : f.es.length ≤ 16 := by simpa [fitsF] using h
  omega
theorem fldP_chk (f : Fr) (c : Nat) (hf : f.fine) (hfit : fitsF f c = true) : joinE (fldP f c) = 0 := by
  obtain ⟨k1, k2, k3, k4, k5, ⟨k6, k7, k8⟩, k9, k10, k11, ⟨k12, k13⟩, k14, k15, k20, k21, k22, k23⟩ := hf
  by_cases e69 : c = 69
  · subst e69
    exact chk_cons (chk_n4 k4) chk_nil
  by_cases e75 : c = 75
  · subst e75
    exact chk_cons (chk_n1 k5) chk_nil
  by_cases e84 : c = 84
  · subst e84
    exact chk_cons (chk_n4 k6) (chk_cons (chk_n1 k7) (chk_cons (chk_n1 k8) chk_nil))
  by_cases e86 : c = 86
  · subst e86
    exact chk_cons (chk_nB _) (chk_cons (chk_pT (val_size hfit)) chk_nil)
  by_cases e77 : c = 77
  · subst e77
    exact chk_cons (chk_nB _) chk_nil
  by_cases e68 : c = 68
  · subst e68
    exact chk_cons (chk_n1 k9) chk_nil
  by_cases e70 : c = 70
  · subst e70
    exact chk_cons (chk_nB _) chk_nil
  by_cases e76 : c = 76
  · subst e76
    exact chk_cons (chk_n1 k10) chk_nil
  by_cases e82 : c = 82
  · subst e82
    exact chk_cons (chk_n4 k11) chk_nil
  by_cases e87 : c = 87
  · subst e87
    exact chk_app (chk_app (chk_cons (chk_n4 k20) (chk_cons (chk_n1 (ms_lt hfit)) chk_nil)) (chk_flat fun x hx => chk_cons (chk_n1 (k22 x hx).1) (chk_cons (chk_n1 (k22 x hx).2) (chk_cons (chk_nB _) chk_nil)))) (chk_lives k21)
  by_cases e66 : c = 66
  · subst e66
    exact chk_cons (chk_n4 k12) (chk_cons (chk_n1 k13) chk_nil)
  by_cases e83 : c = 83
  · subst e83
    exact chk_cons (chk_n4 k14) chk_nil
  by_cases e78 : c = 78
  · subst e78
    exact chk_app (chk_cons (chk_n1 (es_lt hfit)) chk_nil) (chk_flat fun x hx => chk_app (chk_cons (chk_n4 (k23 x hx).1) (chk_cons (chk_n4 (k23 x hx).2.1) (chk_cons (chk_n1 (k23 x hx).2.2.1) chk_nil))) (chk_cmd (k23 x hx).2.2.2))
  by_cases e67 : c = 67
  · subst e67
    exact chk_cmd k15
  rw [show fldP f c = [] by unfold fldP; rw [if_neg e69, if_neg e75, if_neg e84, if_neg e86, if_neg e77, if_neg e68, if_neg e70, if_neg e76, if_neg e82, if_neg e87, if_neg e66, if_neg e83, if_neg e78, if_neg e67]]
  rfl
theorem partsF_chk (f : Fr) (hf : f.fine) (hv : validF f = true) : joinE (partsF f) = 0 := by
  unfold validF at hv
  rw [Bool.and_eq_true] at hv
  have hall := List.all_eq_true.1 hv.2
  exact chk_app (chk_cons (chk_n1 hf.1) (chk_cons (chk_n1 hf.2.1) (chk_cons (chk_n1 hf.2.2.1) chk_nil))) (chk_flat fun c hc => fldP_chk f c hf (hall c hc))
/-- What was encoded is decoded again. -/
theorem decF_enc (f : Fr) (hf : f.fine) (hv : validF f = true) : decF (encS f) = (restF f, 0) := by
  obtain ⟨h1, h2⟩ := open_seal (bodyF f)
  unfold decF encS
  rw [if_pos hv, if_pos h2, h1]
  exact decT_enc f hf hv (partsF_chk f hf hv)
theorem kinds {k : Nat} (h : knownB k = true) : k = 1 ∨ k = 2 ∨ k = 3 ∨ k = 4 ∨ k = 5 ∨ k = 6 ∨ k = 7 ∨ k = 8 ∨ k = 9 ∨ k = 10 ∨ k = 11 ∨ k = 12 ∨ k = 13 ∨ k = 14 ∨ k = 15 ∨ k = 16 := by
  have : 1 ≤ k ∧ k ≤ 16 := by simpa [knownB] using h
  omega
theorem restF_parts (f : Fr) (hv : validF f = true) : validF (restF f) = true ∧ partsF (restF f) = partsF f := by
  have hv' := hv
  unfold validF at hv
  rw [Bool.and_eq_true] at hv
  have hall := List.all_eq_true.1 hv.2
  have hk := kinds hv.1
  obtain ⟨k, hkk⟩ : ∃ k, f.kind = k := ⟨_, rfl⟩
  rw [hkk] at hall hk
  have hkn : knownB f.kind = true := hv.1
  rw [hkk] at hkn
  rcases hk with rfl | rfl | rfl | rfl | rfl | rfl | rfl | rfl | rfl | rfl | rfl | rfl | rfl | rfl | rfl | rfl
  all_goals
    have e : (restF f).kind = f.kind := by unfold restF; rw [hkk]; rfl
    refine ⟨?_, ?_⟩
    · unfold validF
      rw [e, hkk, hkn, Bool.true_and, List.all_eq_true]
      intro c hc
      have h1 := hall c hc
      simp only [letK, List.mem_cons, List.not_mem_nil, or_false] at hc
      unfold restF
      rw [hkk]
      first
        | (rcases hc with rfl | rfl | rfl | rfl | rfl | rfl; all_goals exact h1)
        | (rcases hc with rfl | rfl | rfl | rfl; all_goals exact h1)
        | (rcases hc with rfl | rfl | rfl; all_goals exact h1)
        | (rcases hc with rfl | rfl; all_goals exact h1)
        | (rcases hc with rfl; exact h1)
    · unfold partsF
      rw [e, hkk]
      unfold restF
      rw [hkk]
      rfl
theorem encS_rest (f : Fr) (hv : validF f = true) : encS (restF f) = encS f := by
  obtain ⟨h1, h2⟩ := restF_parts f hv
  unfold encS bodyF
  rw [if_pos hv, if_pos h1, h2]
end Go.Proofs.YtodajejjhfpdmaaDoor
