/-
  The document's reading of a whole frame.
-/
import Derived.Test.YtodajejjhfpdmaaDoorFrrG
import Derived.Test.YtodajejjhfpdmaaDoorFrrH
import Derived.Test.YtodajejjhfpdmaaDoorFrrI
import Derived.Test.YtodajejjhfpdmaaDoorFrrJ
import Derived.Test.YtodajejjhfpdmaaDoorFrfD
import Derived.Test.YtodajejjhfpdmaaDoorCrcB
namespace Go.Proofs.YtodajejjhfpdmaaDoor
open Go.RowKit Go.Instr

/-- The document's letters and the program's. -/
def cv (c : Nat) : Nat := if c = 101 then 69 else if c = 107 then 75 else if c = 115 then 84 else if c = 118 then 86 else if c = 114 then 77 else if c = 100 then 68 else if c = 102 then 70 else if c = 108 then 76 else if c = 113 then 82 else if c = 119 then 87 else if c = 98 then 66 else if c = 110 then 83 else if c = 116 then 78 else if c = 99 then 67 else 0
def r14 : List Nat := [101, 107, 115, 118, 114, 100, 102, 108, 113, 119, 98, 110, 116, 99]
theorem rfK_out (k : Nat) (h : ¬ k < 17) : rfK k = [] ∧ letK k = [] ∧ knownB k = false := by
  refine ⟨?_, ?_, ?_⟩
  · unfold rfK
    split <;> first | omega | rfl
  · unfold letK
    split <;> first | omega | rfl
  · unfold knownB
    exact decide_eq_false (by omega)
theorem rfK_all (k : Nat) : (rfK k).map cv = letK k ∧ (rfK k).Nodup ∧ (∀ c ∈ rfK k, c ∈ r14) ∧ (rfK k).length ≤ 6 ∧ (knownB k = !((rfK k).isEmpty)) := by
  by_cases h : k < 17
  · have hc : k = 0 ∨ k = 1 ∨ k = 2 ∨ k = 3 ∨ k = 4 ∨ k = 5 ∨ k = 6 ∨ k = 7 ∨ k = 8 ∨ k = 9 ∨ k = 10 ∨ k = 11 ∨ k = 12 ∨ k = 13 ∨ k = 14 ∨ k = 15 ∨ k = 16 := by omega
    rcases hc with rfl | rfl | rfl | rfl | rfl | rfl | rfl | rfl | rfl | rfl | rfl | rfl | rfl | rfl | rfl | rfl | rfl
    all_goals exact ⟨by decide, by decide, by decide, by decide, by decide⟩
  · obtain ⟨h1, h2, h3⟩ := rfK_out k h
    rw [h1, h2, h3]
    refine ⟨rfl, List.nodup_nil, ?_, by decide, rfl⟩
    intro c hc
    cases hc
theorem rfS_size (k : Nat) : (rfS k).size = (rfK k).length := by
  unfold rfS
  show ((rfK k).map UInt8.ofNat).toArray.size = _
  simp
theorem r14_lt {c : Nat} (h : c ∈ r14) : c < 256 := by
  simp only [r14, List.mem_cons, List.not_mem_nil, or_false] at h
  omega
theorem rField_keeps (c : Nat) (hc : c ∈ r14) (f : Fr) (z : Zs) : (c ≠ 119 → (rField (cv c) f z).1.ms = f.ms) ∧ (c ≠ 116 → (rField (cv c) f z).1.es = f.es) ∧ (c ≠ 118 → (rField (cv c) f z).1.text = f.text) := by
  simp only [r14, List.mem_cons, List.not_mem_nil, or_false] at hc
  rcases hc with rfl | rfl | rfl | rfl | rfl | rfl | rfl | rfl | rfl | rfl | rfl | rfl | rfl | rfl
  all_goals refine ⟨?_, ?_, ?_⟩ <;> intro h <;> first | rfl | exact absurd rfl h
/-- What the letters that are still to come ask of the frame. -/
def Fresh3 (l : List Nat) (f : Fr) (s t : Value) : Prop :=
  (119 ∈ l → f.ms = [] ∧ s = .slice none 0 0) ∧ (116 ∈ l → f.es = [] ∧ t = .slice none 0 0) ∧ (118 ∈ l → f.text = ⟨#[]⟩)
theorem rfield_any (c : Nat) (hc : c ∈ r14) (f : Fr) (z : Zs) (s t : Value) (b0 : Nat) (w : World) (hb0 : b0 ≤ w.heap.size) (hz : z.ok) (hs : memR.Own 77 w b0 s f.ms) (ht : entR.Own 83 w b0 t f.es) (h : Fresh3 [c] f s t) :
    Calls Tryd.prog 37 #[.agg (zC z), .agg (frC f s t), .int .u8 c] w (RFieldP c (rField (cv c) f z) s t b0 w) := by
  simp only [r14, List.mem_cons, List.not_mem_nil, or_false] at hc
  rcases hc with rfl | rfl | rfl | rfl | rfl | rfl | rfl | rfl | rfl | rfl | rfl | rfl | rfl | rfl
  · exact rfield_e f z s t b0 w hz hs ht
  · exact rfield_k f z s t b0 w hz hs ht
  · exact rfield_s f z s t b0 w hz hs ht
  · exact rfield_v f z s t b0 w hz hs ht (h.2.2 (by simp))
  · exact rfield_r f z s t b0 w hz hs ht
  · exact rfield_d f z s t b0 w hz hs ht
  · exact rfield_f f z s t b0 w hz hs ht
  · exact rfield_l f z s t b0 w hz hs ht
  · exact rfield_q f z s t b0 w hz hs ht
  · exact rfield_w f z s t b0 w hz hs ht hb0 (h.1 (by simp)).1 (h.1 (by simp)).2
  · exact rfield_b f z s t b0 w hz hs ht
  · exact rfield_n f z s t b0 w hz hs ht
  · exact rfield_t f z s t b0 w hz hs ht hb0 (h.2.1 (by simp)).1 (h.2.1 (by simp)).2
  · exact rfield_c f z s t b0 w hz hs ht
/-- The document's frame of any text, and the error. -/
def rDec (s : ByteArray) : Fr × Int := if s.size < 4 then (fr0, 2) else if s.extract 0 (s.size - 4) ++ sealB (s.extract 0 (s.size - 4)) = s then rDecT (s.extract 0 (s.size - 4)) else (fr0, 5)
theorem cut_join (s : ByteArray) (n : Nat) (hn : n ≤ s.size) : s.extract 0 n ++ s.extract n s.size = s := by
  apply Go.WideShapes.bytes_inj
  have hl : s.data.toList.length = s.size := rfl
  rw [show (s.extract 0 n ++ s.extract n s.size).data.toList = (s.extract 0 n).data.toList ++ (s.extract n s.size).data.toList by simp only [ByteArray.data_append, Array.toList_append], Lib.extract_data, Lib.extract_data]
  have e : List.take (s.size - n) (List.drop n s.data.toList) = List.drop n s.data.toList := List.take_of_length_le (by rw [List.length_drop]; omega)
  rw [e, List.drop_zero, Nat.sub_zero, List.take_append_drop]
theorem join_right {a b c : ByteArray} (h : a ++ b = a ++ c) : b = c := by
  apply Go.WideShapes.bytes_inj
  have h2 := congrArg (fun x : ByteArray => x.data.toList) h
  simpa using h2
theorem decF_rDec (s : ByteArray) (hs : s.size ≤ 1000000) : decF s = rDec s := by
  unfold decF openE openT rDec
  by_cases h4 : s.size < 4
  · rw [if_pos h4]
    simp [Nat.not_le.2 h4]
  · have h4' : 4 ≤ s.size := by omega
    simp only [if_pos h4', if_neg h4]
    by_cases h : sealB (s.extract 0 (s.size - 4)) = s.extract (s.size - 4) s.size
    · have h2 : s.extract 0 (s.size - 4) ++ sealB (s.extract 0 (s.size - 4)) = s := by rw [h]; exact cut_join s _ (by omega)
      rw [if_pos h, if_pos h, if_pos rfl, if_pos h2]
      exact decT_eq _ (by rw [ByteArray.size_extract]; omega)
    · have h2 : ¬ s.extract 0 (s.size - 4) ++ sealB (s.extract 0 (s.size - 4)) = s := fun e => h (join_right (e.trans (cut_join s (s.size - 4) (by omega)).symm))
      rw [if_neg h, if_neg h, if_neg h2, if_neg (by decide)]
/-- The reading of a frame: its state, its frame, the place of the result. -/
structure RD (w : World) (Z : Nat) (z : Zs) (f : Fr) (s t : Value) (wx : World) : Prop where
  zb : Blk wx Z (zC z) 107
  xb : Blk wx (Z + 1) (frC f s t) 52
  rb : Blk wx w.heap.size z34 52
  ms : memR.Own 77 wx w.heap.size s f.ms
  es : entR.Own 83 wx w.heap.size t f.es
  bw : Below w.heap.size w wx
  good : z.ok
  gt : w.heap.size < Z
theorem RD.on {w wx wy : World} {Z : Nat} {z : Zs} {f : Fr} {s t : Value} (h : RD w Z z f s t wx) (hB : Below wx.heap.size wx wy) : RD w Z z f s t wy :=
  ⟨h.zb.on hB, h.xb.on hB, h.rb.on hB, h.ms.on hB, h.es.on hB, m_below_on h.bw hB, h.good, h.gt⟩
theorem RD.setz {w wx : World} {Z : Nat} {z z' : Zs} {f : Fr} {s t : Value} (h : RD w Z z f s t wx) (hok : z'.ok) : RD w Z z' f s t (wx.setRow Z (zC z')) := by
  have hg := grown_setRow wx Z (zC z')
  have h0 := h.gt
  exact ⟨setRow_blk _ h.zb, h.xb.grown hg (fun e => by have := Option.some.inj e; omega), h.rb.grown hg (fun e => by have := Option.some.inj e; omega), own_setRow h.ms h.zb (by decide) _, own_setRow h.es h.zb (by decide) _, below_sr h.bw (Nat.le_of_lt h0) _, hok, h0⟩
theorem RD.setz1 {w wx : World} {Z : Nat} {z z' : Zs} {f : Fr} {s t : Value} (h : RD w Z z f s t wx) (hok : z'.ok) (j : Nat) (v : Value) (e : (zC z).setIfInBounds j v = zC z') : RD w Z z' f s t (wx.setCell ⟨Z, j, none⟩ v) := by
  have h0 := h.gt
  exact ⟨h.zb.set j v _ e, h.xb.set_other j v (by omega), h.rb.set_other j v (by omega), own_set h.ms h.zb (by decide) _ _, own_set h.es h.zb (by decide) _ _, h.bw.setCell (p := ⟨Z, j, none⟩) (Nat.le_of_lt h0) v, hok, h0⟩
theorem RD.setf {w wx : World} {Z : Nat} {z : Zs} {f f' : Fr} {s t : Value} (h : RD w Z z f s t wx) (j : Nat) (v : Value) (e : (frC f s t).setIfInBounds j v = frC f' s t) (hm : f'.ms = f.ms) (he : f'.es = f.es) : RD w Z z f' s t (wx.setCell ⟨Z + 1, j, none⟩ v) := by
  have h0 := h.gt
  refine ⟨h.zb.set_other j v (by omega), h.xb.set j v _ e, h.rb.set_other j v (by omega), ?_, ?_, h.bw.setCell (p := ⟨Z + 1, j, none⟩) (by show w.heap.size ≤ Z + 1; omega) v, h.good, h0⟩
  · rw [hm]; exact own_set h.ms h.xb (by decide) _ _
  · rw [he]; exact own_set h.es h.xb (by decide) _ _
theorem RD.setfr {w wx : World} {Z : Nat} {z : Zs} {f f' : Fr} {s t s' t' : Value} (h : RD w Z z f s t wx) (hm : memR.Own 77 wx w.heap.size s' f'.ms) (he : entR.Own 83 wx w.heap.size t' f'.es) : RD w Z z f' s' t' (wx.setRow (Z + 1) (frC f' s' t')) := by
  have hg := grown_setRow wx (Z + 1) (frC f' s' t')
  have h0 := h.gt
  exact ⟨h.zb.grown hg (fun e => by have := Option.some.inj e; omega), setRow_blk _ h.xb, h.rb.grown hg (fun e => by have := Option.some.inj e; omega), own_setRow hm h.xb (by decide) _, own_setRow he h.xb (by decide) _, below_sr h.bw (by omega) _, h.good, h0⟩
/-- What the document's Decode leaves. -/
def RDecP (p : Fr × Int) (w : World) (e : Ending) (w' : World) : Prop :=
  ∃ s t, e = .returned (.tuple #[.agg (frC p.1 s t), .int .i64 p.2]) ∧ Below w.heap.size w w' ∧ memR.At w' s p.1.ms ∧ entR.At w' t p.1.es
theorem RDecP.err {w w' : World} (q : Int) (hB : Below w.heap.size w w') : RDecP (fr0, q) w (.returned (.tuple #[.agg z34, .int .i64 q])) w' :=
  ⟨.slice none 0 0, .slice none 0 0, rfl, hB, .inl ⟨rfl, rfl⟩, .inl ⟨rfl, rfl⟩⟩
def RDecLoop (w : World) (Z : Nat) (K : Nat) (R : Fr × Zs) (i : Value) (wr : World) : Prop :=
  ∃ (j : Nat) (z : Zs) (f : Fr) (s t : Value), j ≤ (rfK K).length ∧ i = .int .i64 j ∧ RD w Z z f s t wr ∧ rFlds ((letK K).drop j) f z = R ∧ Fresh3 ((rfK K).drop j) f s t
theorem rfS_known (k : Nat) : ((rfS k).toList != (⟨#[]⟩ : ByteArray).toList) = knownB k := by
  rw [(rfK_all k).2.2.2.2, bne, beq_bytes]
  congr 1
  rw [Bool.eq_iff_iff, decide_eq_true_iff, List.isEmpty_iff]
  constructor
  · intro h
    have h2 := rfS_size k
    rw [h] at h2
    exact List.length_eq_zero_iff.1 h2.symm
  · intro h
    unfold rfS
    rw [h]
    rfl
theorem rfS_known2 (k : Nat) : (!(rfS k).toList.isEmpty) = knownB k := by
  rw [(rfK_all k).2.2.2.2, empty_dec, rfS_size]
  congr 1
  rw [Bool.eq_iff_iff, decide_eq_true_iff, List.isEmpty_iff, List.length_eq_zero_iff]
theorem fresh_next {K j : Nat} (hj : j < (rfK K).length) (f : Fr) (z : Zs) (s t : Value) (h : Fresh3 ((rfK K).drop j) f s t) : Fresh3 [(rfK K)[j]] f s t ∧ (∀ s' t', ((rfK K)[j] ≠ 119 → s' = s) → ((rfK K)[j] ≠ 116 → t' = t) → Fresh3 ((rfK K).drop (j + 1)) (rField (cv (rfK K)[j]) f z).1 s' t') := by
  have hd : (rfK K).drop j = (rfK K)[j] :: (rfK K).drop (j + 1) := List.drop_eq_getElem_cons hj
  have hn : ((rfK K).drop j).Nodup := (rfK_all K).2.1.sublist (List.drop_sublist _ _)
  have hin : (rfK K)[j] ∈ r14 := (rfK_all K).2.2.1 _ (List.getElem_mem hj)
  rw [hd] at h hn
  generalize (rfK K)[j] = c at h hn hin ⊢
  have hc := (List.nodup_cons.1 hn).1
  obtain ⟨k1, k2, k3⟩ := rField_keeps c hin f z
  refine ⟨⟨fun hm => h.1 (by simp at hm; simp [hm]), fun hm => h.2.1 (by simp at hm; simp [hm]), fun hm => h.2.2 (by simp at hm; simp [hm])⟩, fun s' t' hs ht => ⟨fun hm => ?_, fun hm => ?_, fun hm => ?_⟩⟩
  · have hne : c ≠ 119 := fun e => hc (e ▸ hm)
    rw [k1 hne, hs hne]
    exact h.1 (List.mem_cons_of_mem _ hm)
  · have hne : c ≠ 116 := fun e => hc (e ▸ hm)
    rw [k2 hne, ht hne]
    exact h.2.1 (List.mem_cons_of_mem _ hm)
  · have hne : c ≠ 118 := fun e => hc (e ▸ hm)
    rw [k3 hne]
    exact h.2.2 (List.mem_cons_of_mem _ hm)
theorem rFlds_next {K j : Nat} (hj : j < (rfK K).length) (f : Fr) (z : Zs) (he : z.err = 0) : rFlds ((letK K).drop j) f z = rFlds ((letK K).drop (j + 1)) (rField (cv (rfK K)[j]) f z).1 (rField (cv (rfK K)[j]) f z).2 := by
  have hd : (rfK K).drop j = (rfK K)[j] :: (rfK K).drop (j + 1) := List.drop_eq_getElem_cons hj
  rw [← (rfK_all K).1, ← List.map_drop, ← List.map_drop, hd, List.map_cons]
  show (if z.err = 0 then _ else _) = _
  rw [if_pos he]
theorem rfS_at {K j : Nat} (hj : j < (rfK K).length) : ∀ h : j < (rfS K).size, ((rfS K)[j]'h).toNat = (rfK K)[j] := by
  intro h
  have h1 := r14_lt ((rfK_all K).2.2.1 _ (List.getElem_mem hj))
  have h2 : (rfS K)[j]'h = UInt8.ofNat (rfK K)[j] := by
    have h3 : (rfS K).data.toList[j]? = some (UInt8.ofNat (rfK K)[j]) := by
      unfold rfS
      simp [hj]
    show (rfS K).data[j]'h = _
    rw [← Array.getElem_toList]
    exact (List.getElem?_eq_some_iff.1 h3).2
  rw [h2, UInt8.toNat_ofNat']
  omega
def RDecEnd (w : World) (Z : Nat) (R : Fr × Zs) (wx : World) : Prop := ∃ (z : Zs) (f : Fr) (s t : Value), RD w Z z f s t wx ∧ R = (f, z)
set_option maxHeartbeats 4000000 in
set_option maxRecDepth 20000 in
theorem rdecode_any (s : ByteArray) (w : World) (hs : s.size ≤ 900000) : Calls Tryd.prog 12 #[.string s] w (RDecP (rDec s) w) := by
  have R0 := Lib.hid (show Blk (w.alloc (.cells z34 52)) w.heap.size z34 52 from Blk.new rfl)
  have B0 := Lib.hid (show Below w.heap.size w (w.alloc (.cells z34 52)) by go_grown)
  by_cases h4 : s.size < 4
  · have hD : rDec s = (fr0, 2) := by unfold rDec; rw [if_pos h4]
    have h4' : (s.size : Int) < 4 := by omega
    have RR := Lib.hid (blk_raw R0.out)
    rw [hD]
    go_enter Tryd.func12, Tryd.ntmps12
    go_wp2_with (first | (refine wpList_store_row rfl 52 (.tmp 2) (.tmp 14) rfl w.heap.size z34 rfl rfl 52 z34 RR.out (by kernel_rfl) rfl z34_one ?_))
    refine bodyPost_ret (results_cell_tmp_row (p := 2) (u := 3) Tryd.results12 _ _ w.heap.size 52 _ (0, 0) _ rfl (blk_raw (setRow_blk z34 R0.out)) Tryd.underlying52 rfl (by kernel_rfl)) rfl ?_
    exact RDecP.err 2 (below_sr B0.out (Nat.le_refl _) _)
  · have h4' : ¬ (s.size : Int) < 4 := by omega
    have wa : wrap64 ((s.size : Int) - 4) = (s.size : Int) - 4 := IntWalk.wrap64_in _ (by omega)
    have ha : ((s.size : Int) - 4).toNat = s.size - 4 := by omega
    obtain ⟨t, ht⟩ : ∃ t, t = s.extract 0 (s.size - 4) := ⟨_, rfl⟩
    have hts : t.size = s.size - 4 := by rw [ht, ByteArray.size_extract]; omega
    have H1 : Hid (Calls Tryd.prog 27 #[.string (s.extract 0 (s.size - 4))] (w.alloc (.cells z34 52)) fun e w' => e = .returned (.string (t ++ sealB t)) ∧ Below (w.alloc (.cells z34 52)).heap.size (w.alloc (.cells z34 52)) w') := Lib.hid (by rw [← ht]; exact refSeal_any t _ (by omega))
    have HT := Lib.hid ht
    clear ht
    go_enter Tryd.func12, Tryd.ntmps12
    go_wp2_with fail
    with_reducible refine H1.out.mono ?_
    rintro e w1 ⟨rfl, hB⟩
    have R1 := Lib.hid (R0.out.on hB)
    have B1 := Lib.hid (m_below_on B0.out hB)
    clear hB H1 R0 B0
    by_cases hq : t ++ sealB t = s
    · have hbe : ((t ++ sealB t).toList == s.toList) = true := by rw [beq_bytes]; exact decide_eq_true hq
      have HD := Lib.hid (show rDec s = rDecT t by unfold rDec; rw [if_neg h4, ← HT.out, if_pos hq])
      clear hq
      go_upto_region 8 with fail
      obtain ⟨Z, hZ⟩ : ∃ Z, Z = w1.heap.size := ⟨_, rfl⟩
      obtain ⟨z0, hz0⟩ : ∃ z0 : Zs, z0 = ⟨t, 0, 0⟩ := ⟨_, rfl⟩
      obtain ⟨v0, hv⟩ : ∃ vq, vq = (w1.alloc (.cells #[.string (s.extract 0 (s.size - 4)), .int .i64 0, .int .i64 0] 107)).alloc (.cells z34 52) := ⟨_, rfl⟩
      have X0 : Hid (RD w Z z0 fr0 (.slice none 0 0) (.slice none 0 0) v0) := Lib.hid (by
        rw [hv, hZ, hz0, ← HT.out]
        exact ⟨(Blk.new rfl).alloc _, Blk.new (by simp), (R1.out.alloc _).alloc _, World.ownsRow_nil _ _ _ _, World.ownsRow_nil _ _ _ _, m_below_on B1.out (by go_grown), ⟨Nat.zero_le _, by show t.size ≤ 1000000; omega⟩, R1.out.lt⟩)
      have HZ0 := Lib.hid hz0
      rw [← hv]
      simp only [← hZ]
      clear hv hZ hz0 R1 B1 hbe
      have R1 := Lib.hid (blk_raw X0.out.zb)
      obtain ⟨z1, n1, hq⟩ : ∃ zq nq, rNum z0 1 = (zq, nq) := ⟨_, _, rfl⟩
      have E1 := Lib.hid hq
      have K1 := Lib.hid (show z1.ok by have h : (rNum z0 1).1.ok := rNum_ok (k := 1) X0.out.good; rw [hq] at h; exact h)
      have L1 : n1 < 256 ^ 1 := by have h := rNum_lt z0 1 (by decide); rw [hq] at h; exact h
      have U1 : IntKind.u8.wrap (n1 : Int) = (n1 : Int) := IntWalk.u8_in _ (by omega)
      have H1 : Hid (Calls Tryd.prog 35 #[.agg #[.string z0.s, .int .i64 z0.at_, .int .i64 z0.err], .int .i64 1] v0 (NumZ (z1, n1) v0)) := Lib.hid (by rw [← hq]; exact rnum1_any z0 v0 X0.out.good)
      clear hq
      go_wp2_with (first | (refine wpList_load_row rfl 107 (.tmp 4) rfl Z rfl 107 (zC z0) (0, 0) _ R1.out Tryd.underlying107 rfl (by kernel_rfl) ?_))
      with_reducible refine H1.out.mono ?_
      rintro e w2 ⟨rfl, hB⟩
      have T1 := Lib.hid (X0.out.on hB)
      have Q1 := Lib.hid (blk_raw T1.out.zb)
      have O1 := Lib.hid (zC_one z1)
      clear hB H1 R1 X0
      go_upto_region 9 with (first | (refine wpList_store_row rfl 107 (.tmp 4) (.tmp 33) rfl Z (zC z1) rfl rfl 107 (zC z0) Q1.out (by kernel_rfl) rfl O1.out ?_))
      obtain ⟨v1, hv⟩ : ∃ vq, vq = w2.setRow Z (zC z1) := ⟨_, rfl⟩
      have X1 : Hid (RD w Z z1 fr0 (.slice none 0 0) (.slice none 0 0) v1) := Lib.hid (by rw [hv]; exact T1.out.setz K1.out)
      rw [← hv]
      clear hv T1 Q1 O1
      have R2 := Lib.hid (blk_raw X1.out.zb)
      obtain ⟨z2, n2, hq⟩ : ∃ zq nq, rNum z1 1 = (zq, nq) := ⟨_, _, rfl⟩
      have E2 := Lib.hid hq
      have K2 := Lib.hid (show z2.ok by have h : (rNum z1 1).1.ok := rNum_ok (k := 1) X1.out.good; rw [hq] at h; exact h)
      have L2 : n2 < 256 ^ 1 := by have h := rNum_lt z1 1 (by decide); rw [hq] at h; exact h
      have U2 : IntKind.u8.wrap (n2 : Int) = (n2 : Int) := IntWalk.u8_in _ (by omega)
      have H2 : Hid (Calls Tryd.prog 35 #[.agg #[.string z1.s, .int .i64 z1.at_, .int .i64 z1.err], .int .i64 1] v1 (NumZ (z2, n2) v1)) := Lib.hid (by rw [← hq]; exact rnum1_any z1 v1 X1.out.good)
      clear hq
      go_wp2_with (first | (refine wpList_load_row rfl 107 (.tmp 4) rfl Z rfl 107 (zC z1) (0, 0) _ R2.out Tryd.underlying107 rfl (by kernel_rfl) ?_))
      with_reducible refine H2.out.mono ?_
      rintro e w3 ⟨rfl, hB⟩
      have T2 := Lib.hid (X1.out.on hB)
      have Q2 := Lib.hid (blk_raw T2.out.zb)
      have O2 := Lib.hid (zC_one z2)
      clear hB H2 R2 X1
      go_upto_region 10 with (first | (refine wpList_store_row rfl 107 (.tmp 4) (.tmp 38) rfl Z (zC z2) rfl rfl 107 (zC z1) Q2.out (by kernel_rfl) rfl O2.out ?_))
      obtain ⟨v2, hv⟩ : ∃ vq, vq = w3.setRow Z (zC z2) := ⟨_, rfl⟩
      have X2 : Hid (RD w Z z2 fr0 (.slice none 0 0) (.slice none 0 0) v2) := Lib.hid (by rw [hv]; exact T2.out.setz K2.out)
      rw [← hv]
      clear hv T2 Q2 O2
      have R3 := Lib.hid (blk_raw X2.out.zb)
      obtain ⟨z3, n3, hq⟩ : ∃ zq nq, rNum z2 1 = (zq, nq) := ⟨_, _, rfl⟩
      have E3 := Lib.hid hq
      have K3 := Lib.hid (show z3.ok by have h : (rNum z2 1).1.ok := rNum_ok (k := 1) X2.out.good; rw [hq] at h; exact h)
      have L3 : n3 < 256 ^ 1 := by have h := rNum_lt z2 1 (by decide); rw [hq] at h; exact h
      have U3 : IntKind.u8.wrap (n3 : Int) = (n3 : Int) := IntWalk.u8_in _ (by omega)
      have H3 : Hid (Calls Tryd.prog 35 #[.agg #[.string z2.s, .int .i64 z2.at_, .int .i64 z2.err], .int .i64 1] v2 (NumZ (z3, n3) v2)) := Lib.hid (by rw [← hq]; exact rnum1_any z2 v2 X2.out.good)
      clear hq
      go_wp2_with (first | (refine wpList_load_row rfl 107 (.tmp 4) rfl Z rfl 107 (zC z2) (0, 0) _ R3.out Tryd.underlying107 rfl (by kernel_rfl) ?_))
      with_reducible refine H3.out.mono ?_
      rintro e w4 ⟨rfl, hB⟩
      have T3 := Lib.hid (X2.out.on hB)
      have Q3 := Lib.hid (blk_raw T3.out.zb)
      have O3 := Lib.hid (zC_one z3)
      clear hB H3 R3 X2
      go_upto_region 11 with (first | (refine wpList_store_row rfl 107 (.tmp 4) (.tmp 43) rfl Z (zC z3) rfl rfl 107 (zC z2) Q3.out (by kernel_rfl) rfl O3.out ?_))
      obtain ⟨v3, hv⟩ : ∃ vq, vq = w4.setRow Z (zC z3) := ⟨_, rfl⟩
      have X3 : Hid (RD w Z z3 fr0 (.slice none 0 0) (.slice none 0 0) v3) := Lib.hid (by rw [hv]; exact T3.out.setz K3.out)
      rw [← hv]
      clear hv T3 Q3 O3
      have y0 := X3.out.xb.cell 0
      have y1 := X3.out.xb.cell 1
      have y2 := X3.out.xb.cell 2
      have x0 := X3.out.xb.frozen 0
      have x1 := X3.out.xb.frozen 1
      have x2 := X3.out.xb.frozen 2
      simp at y0 y1 y2
      go_upto_region 12 with fail
      obtain ⟨f0, hf0⟩ : ∃ f0 : Fr, f0 = { fr0 with kind := n1, frm := n2, dest := n3 } := ⟨_, rfl⟩
      obtain ⟨v4, hv⟩ : ∃ vq, vq = ((v3.setCell ⟨Z + 1, 0, none⟩ (.int .u8 n1)).setCell ⟨Z + 1, 1, none⟩ (.int .u8 n2)).setCell ⟨Z + 1, 2, none⟩ (.int .u8 n3) := ⟨_, rfl⟩
      have X4 : Hid (RD w Z z3 f0 (.slice none 0 0) (.slice none 0 0) v4) := Lib.hid (by
        rw [hv, hf0]
        exact RD.setf (f' := { fr0 with kind := n1, frm := n2, dest := n3 }) (RD.setf (f' := { fr0 with kind := n1, frm := n2 }) (RD.setf (f' := { fr0 with kind := n1 }) X3.out 0 _ rfl rfl rfl) 1 _ rfl rfl rfl) 2 _ rfl rfl rfl)
      have HK0 := Lib.hid (show f0.kind = n1 by rw [hf0])
      have HF0 := Lib.hid hf0
      have FR0 := Lib.hid (show f0.ms = [] ∧ f0.es = [] ∧ f0.text = ⟨#[]⟩ by rw [hf0]; exact ⟨rfl, rfl, rfl⟩)
      rw [← hv]
      clear hv hf0 X3 y0 y1 y2 x0 x1 x2
      have y0 : v4.cell? ⟨Z + 1, 0, none⟩ = some (.int .u8 n1) := by rw [X4.out.xb.cell 0]; show some (Value.int .u8 (f0.kind : Int)) = _; rw [HK0.out]
      have H5 := Lib.hid (rfields_any n1 v4 (by omega))
      go_wp2_with fail
      with_reducible refine H5.out.mono ?_
      rintro e w5 ⟨rfl, hB⟩
      have X5 := Lib.hid (X4.out.on hB)
      clear hB X4 y0 H5
      have hne : (!(rfS n1).toList.isEmpty) = knownB n1 := rfS_known2 n1
      have R6 := Lib.hid (blk_raw X5.out.zb)
      have HNE := Lib.hid hne
      have HM : Hid (∀ b, Calls Tryd.prog 36 #[.agg #[.string z3.s, .int .i64 z3.at_, .int .i64 z3.err], .bool b] w5 (fun e w2 => e = .returned (.agg (zC (rMust z3 b))) ∧ Below w5.heap.size w5 w2)) := Lib.hid (fun b => rmustZ_any z3 b w5)
      clear hne
      go_upto_region 13 with fail
      go_wp2_with (first | (refine wpList_load_row rfl 107 (.tmp 4) rfl Z rfl 107 (zC z3) (0, 0) _ R6.out Tryd.underlying107 rfl (by kernel_rfl) ?_))
      rw [HNE.out]
      with_reducible refine (HM.out _).mono ?_
      rintro e w6 ⟨rfl, hB⟩
      obtain ⟨z4, hq⟩ : ∃ zq, rMust z3 (knownB n1) = zq := ⟨_, rfl⟩
      have E4 := Lib.hid hq
      have K4 := Lib.hid (show z4.ok by rw [← hq]; exact rMust_ok X5.out.good)
      have T6 := Lib.hid (X5.out.on hB)
      have Q6 := Lib.hid (blk_raw T6.out.zb)
      have O6 := Lib.hid (zC_one z4)
      rw [hq]
      clear hB HM R6 X5 hq HNE
      go_upto_region 14 with (first | (refine wpList_store_row rfl 107 (.tmp 4) (.tmp 60) rfl Z (zC z4) rfl rfl 107 (zC z3) Q6.out (by kernel_rfl) rfl O6.out ?_))
      obtain ⟨v6, hv⟩ : ∃ vq, vq = w6.setRow Z (zC z4) := ⟨_, rfl⟩
      have X6 : Hid (RD w Z z4 f0 (.slice none 0 0) (.slice none 0 0) v6) := Lib.hid (by rw [hv]; exact T6.out.setz K4.out)
      rw [← hv]
      clear hv T6 Q6 O6
      obtain ⟨R, hR⟩ : ∃ R, R = rFlds (letK n1) f0 z4 := ⟨_, rfl⟩
      have HRD : Hid (rDec s = if R.2.err = 0 then if R.2.at_ < R.2.s.size then (fr0, 3) else (R.1, 0) else (fr0, R.2.err)) := Lib.hid (by
        rw [HD.out]
        show (if (rFlds (letK (rNum ⟨t, 0, 0⟩ 1).2) { fr0 with kind := (rNum ⟨t, 0, 0⟩ 1).2, frm := (rNum (rNum ⟨t, 0, 0⟩ 1).1 1).2, dest := (rNum (rNum (rNum ⟨t, 0, 0⟩ 1).1 1).1 1).2 } (rMust (rNum (rNum (rNum ⟨t, 0, 0⟩ 1).1 1).1 1).1 (knownB (rNum ⟨t, 0, 0⟩ 1).2))).2.err = 0 then if (rFlds (letK (rNum ⟨t, 0, 0⟩ 1).2) { fr0 with kind := (rNum ⟨t, 0, 0⟩ 1).2, frm := (rNum (rNum ⟨t, 0, 0⟩ 1).1 1).2, dest := (rNum (rNum (rNum ⟨t, 0, 0⟩ 1).1 1).1 1).2 } (rMust (rNum (rNum (rNum ⟨t, 0, 0⟩ 1).1 1).1 1).1 (knownB (rNum ⟨t, 0, 0⟩ 1).2))).2.at_ < (rFlds (letK (rNum ⟨t, 0, 0⟩ 1).2) { fr0 with kind := (rNum ⟨t, 0, 0⟩ 1).2, frm := (rNum (rNum ⟨t, 0, 0⟩ 1).1 1).2, dest := (rNum (rNum (rNum ⟨t, 0, 0⟩ 1).1 1).1 1).2 } (rMust (rNum (rNum (rNum ⟨t, 0, 0⟩ 1).1 1).1 1).1 (knownB (rNum ⟨t, 0, 0⟩ 1).2))).2.s.size then (fr0, 3) else ((rFlds (letK (rNum ⟨t, 0, 0⟩ 1).2) { fr0 with kind := (rNum ⟨t, 0, 0⟩ 1).2, frm := (rNum (rNum ⟨t, 0, 0⟩ 1).1 1).2, dest := (rNum (rNum (rNum ⟨t, 0, 0⟩ 1).1 1).1 1).2 } (rMust (rNum (rNum (rNum ⟨t, 0, 0⟩ 1).1 1).1 1).1 (knownB (rNum ⟨t, 0, 0⟩ 1).2))).1, 0) else (fr0, (rFlds (letK (rNum ⟨t, 0, 0⟩ 1).2) { fr0 with kind := (rNum ⟨t, 0, 0⟩ 1).2, frm := (rNum (rNum ⟨t, 0, 0⟩ 1).1 1).2, dest := (rNum (rNum (rNum ⟨t, 0, 0⟩ 1).1 1).1 1).2 } (rMust (rNum (rNum (rNum ⟨t, 0, 0⟩ 1).1 1).1 1).1 (knownB (rNum ⟨t, 0, 0⟩ 1).2))).2.err)) = _
        rw [← HZ0.out, E1.out]; simp only; rw [E2.out]; simp only; rw [E3.out]; simp only; rw [E4.out, ← HF0.out, ← hR])
      have HST : Hid (RDecLoop w Z n1 R (.int .i64 0) v6) := Lib.hid ⟨0, z4, f0, _, _, Nat.zero_le _, rfl, X6.out, by rw [hR]; rfl, fun _ => ⟨FR0.out.1, rfl⟩, fun _ => ⟨FR0.out.2.1, rfl⟩, fun _ => FR0.out.2.2⟩
      have HSZ := Lib.hid (rfS_size n1)
      clear E1 E2 E3 E4 K1 K2 K3 K4 L1 L2 L3 U1 U2 U3 HK0 HF0 FR0 HZ0 HD X6 hR
      go_upto_block 0 with fail
      go_cut [] from 200 (fun wx => RDecEnd w Z R wx)
      case first =>
        rename_i JJ KK hJJ hKK
        have HJ := Lib.hid hJJ
        clear hJJ
        go_wp2_with fail
        go_loopw [10] (fun i wr => RDecLoop w Z n1 R i wr) (fun i _ => (rfK n1).length - (intOf i).toNat)
        case atStart => exact HST.out
        case round =>
          obtain ⟨j, z, f, sl, tl, hj, rfl, hX, hE, hF⟩ := hrel
          have X := Lib.hid hX
          have EE := Lib.hid hE
          have FF := Lib.hid hF
          have cE : wr.cell? ⟨Z, 2, none⟩ = some (.int .i64 z.err) := hX.zb.cell 2
          clear HST hX hE hF
          by_cases h1 : j < (rfS n1).size
          · have h2 : j < (rfK n1).length := by rw [← HSZ.out]; exact h1
            by_cases he : z.err = 0
            · have he' : (z.err == 0) = true := by rw [he]; rfl
              have HE0 := Lib.hid he
              clear he
              go_upto_region 17 with fail
              clear cE he'
              obtain ⟨c, hc⟩ : ∃ c, c = (rfK n1)[j] := ⟨_, rfl⟩
              have hin : c ∈ r14 := by rw [hc]; exact (rfK_all n1).2.2.1 _ (List.getElem_mem h2)
              have hFN := fresh_next h2 f z sl tl FF.out
              rw [← hc] at hFN
              have HEN : Hid (rFlds ((letK n1).drop (j + 1)) (rField (cv c) f z).1 (rField (cv c) f z).2 = R) := Lib.hid (by rw [hc, ← rFlds_next h2 f z HE0.out]; exact EE.out)
              have HIX := Lib.hid (rfS_at h2)
              rw [← hc] at HIX
              have HFN := Lib.hid hFN
              have H2 := Lib.hid h2
              have hS0 : Below wr.heap.size wr wr.drew := by go_grown
              have HC : Hid (∀ w', Below wr.heap.size wr w' → Calls Tryd.prog 37 #[.agg (zC z), .agg (frC f sl tl), .int .u8 c] w' (RFieldP c (rField (cv c) f z) sl tl w.heap.size w')) := Lib.hid (fun w' h => rfield_any c hin f z sl tl w.heap.size w' (Nat.le_trans X.out.bw.size h.size) X.out.good (X.out.ms.on h) (X.out.es.on h) hFN.1)
              have lZ := X.out.zb.lt
              have lF := X.out.xb.lt
              have RZ := Lib.hid (blk_raw X.out.zb)
              have RX := Lib.hid (blk_raw X.out.xb)
              clear hc hin hFN h2 FF EE HE0
              refine WalkS.begin (fun w' => Below wr.heap.size wr w') [9, 10] (by kernel_rfl) hS0 ?_
              simp only [List.size_toArray, List.length_cons, List.length_nil, Nat.zero_add, Nat.reduceAdd, show Array.replicate 11 false = #[false, false, false, false, false, false, false, false, false, false, false] from rfl]
              refine WalkS.take 0 _ (v := .agg (zC z)) rfl (by kernel_rfl) (by kernel_rfl) (by kernel_rfl) (by kernel_rfl) (by kernel_rfl) (fun _ _ _ h => h) (Or.inl ⟨by rfl, fun w9 h9 => loadRow_r 107 (.tmp 4) rfl Z rfl 107 (zC z) (0, 0) _ ((h9.block Z lZ).trans RZ.out) Tryd.underlying107 rfl (by kernel_rfl)⟩) ?_
              simp only [Act.put, List.setIfInBounds_toArray, List.set_cons_zero, List.set_cons_succ]
              refine WalkS.take 1 _ (v := .agg (frC f sl tl)) rfl (by kernel_rfl) (by kernel_rfl) (by kernel_rfl) (by kernel_rfl) (by kernel_rfl) (fun _ _ _ h => h) (Or.inl ⟨by rfl, fun w9 h9 => loadRow_r 52 (.tmp 5) rfl (Z + 1) rfl 52 (frC f sl tl) (0, 0) _ ((h9.block (Z + 1) lF).trans RX.out) Tryd.underlying52 rfl (by kernel_rfl)⟩) ?_
              simp only [Act.put, List.setIfInBounds_toArray, List.set_cons_zero, List.set_cons_succ]
              refine' WalkS.take0 2 _ (v := _) rfl (by kernel_rfl) (by kernel_rfl) (by kernel_rfl) (by kernel_rfl) (fun _ _ _ h => h) (Or.inl ⟨by rfl, ?hy1⟩) ?rest1
              case hy1 => (intro w9; go_simp <;> with_reducible rfl)
              simp only [Act.put, List.setIfInBounds_toArray, List.set_cons_zero, List.set_cons_succ]
              refine' WalkS.take0 3 _ (v := _) rfl (by kernel_rfl) (by kernel_rfl) (by kernel_rfl) (by kernel_rfl) (fun _ _ _ h => h) (Or.inl ⟨by rfl, ?hy2⟩) ?rest2
              case hy2 => (intro w9; go_simp <;> with_reducible rfl)
              simp only [Act.put, List.setIfInBounds_toArray, List.set_cons_zero, List.set_cons_succ]
              refine' WalkS.take0 4 _ (v := .int .u8 c) rfl (by kernel_rfl) (by kernel_rfl) (by kernel_rfl) (by kernel_rfl) (fun _ _ _ h => h) (Or.inl ⟨by rfl, ?hy3⟩) ?rest3
              case hy3 => (intro w9; go_simp; rw [HIX.out])
              simp only [Act.put, List.setIfInBounds_toArray, List.set_cons_zero, List.set_cons_succ]
              refine WalkS.each [5] (by kernel_rfl) rfl ?_
              refine EachS.cons 5 _ rfl (fun K hK => ?s1) EachS.nil
              go_simp
              refine (HC.out _ hS0).mono ?_
              rintro e w2 ⟨s', t', rfl, hB, hm, hes, hok, hs', ht'⟩
              have hS1 := m_below_on hS0 hB
              refine hK.out _ _ (fun _ => hS1) ?_
              clear hK K
              obtain ⟨f', z', hfz⟩ : ∃ f' z', rField (cv c) f z = (f', z') := ⟨_, _, rfl⟩
              have HFZ := Lib.hid hfz
              rw [hfz] at hm hes hok
              rw [hfz]
              simp only at hm hes hok
              have X2 := Lib.hid (RD.on X.out hS1)
              have M2 := Lib.hid hm
              have E2 := Lib.hid hes
              have O2 := Lib.hid hok
              have ST := Lib.hid (And.intro hs' ht')
              clear hB hm hes hok hs' ht' hfz hS0
              simp only [List.setIfInBounds_toArray, List.set_cons_zero, List.set_cons_succ]
              refine' WalkS.take0 6 _ (v := _) rfl (by kernel_rfl) (by kernel_rfl) (by kernel_rfl) (by kernel_rfl) (fun _ _ _ h => h) (Or.inl ⟨by rfl, ?hy4⟩) ?rest4
              case hy4 => (intro w9; go_simp <;> with_reducible rfl)
              simp only [Act.put, List.setIfInBounds_toArray, List.set_cons_zero, List.set_cons_succ]
              refine' WalkS.take0 7 _ (v := _) rfl (by kernel_rfl) (by kernel_rfl) (by kernel_rfl) (by kernel_rfl) (fun _ _ _ h => h) (Or.inl ⟨by rfl, ?hy5⟩) ?rest5
              case hy5 => (intro w9; go_simp <;> with_reducible rfl)
              simp only [Act.put, List.setIfInBounds_toArray, List.set_cons_zero, List.set_cons_succ]
              refine' WalkS.take0 8 _ (v := _) rfl (by kernel_rfl) (by kernel_rfl) (by kernel_rfl) (by kernel_rfl) (fun _ _ _ h => h) (Or.inl ⟨by rfl, ?hy6⟩) ?rest6
              case hy6 => (intro w9; go_simp <;> with_reducible rfl)
              simp only [Act.put, List.setIfInBounds_toArray, List.set_cons_zero, List.set_cons_succ]
              have QZ := Lib.hid (blk_raw X2.out.zb)
              have X3 := Lib.hid (X2.out.setz O2.out)
              have M3 := Lib.hid (own_setRow M2.out X2.out.zb (by decide) (zC z'))
              have E3 := Lib.hid (own_setRow E2.out X2.out.zb (by decide) (zC z'))
              have QX := Lib.hid (blk_raw X3.out.xb)
              have X4 := Lib.hid (X3.out.setfr M3.out E3.out)
              have OZ := Lib.hid (zC_one z')
              have OX := Lib.hid (frC_1s f' s' t' (own_1 M2.out) (own_1 E2.out))
              clear M2 E2 M3 E3 X2 X3
              refine WalkS.each [9] (by kernel_rfl) rfl ?_
              refine EachS.cons 9 _ rfl (fun K hK => ?s2) EachS.nil
              refine wp_store_row 107 (.tmp 4) (.tmp 79) rfl Z (zC z') rfl rfl 107 (zC z) QZ.out (by kernel_rfl) rfl OZ.out ?_
              refine hK.out _ _ (fun h => absurd h (by decide)) ?_
              clear hK K
              simp only [Act.put, List.setIfInBounds_toArray, List.set_cons_zero, List.set_cons_succ]
              refine WalkS.each [10] (by kernel_rfl) rfl ?_
              refine EachS.cons 10 _ rfl (fun K hK => ?s3) EachS.nil
              refine wp_store_row 52 (.tmp 5) (.tmp 80) rfl (Z + 1) (frC f' s' t') rfl rfl 52 (frC f sl tl) QX.out (by kernel_rfl) rfl OX.out ?_
              refine hK.out _ _ (fun h => absurd h (by decide)) ?_
              clear hK K
              simp only [Act.put, List.setIfInBounds_toArray, List.set_cons_zero, List.set_cons_succ]
              refine WalkS.done (by kernel_rfl) ?_
              have hF4 := HFN.out.2 s' t' ST.out.1 ST.out.2
              rw [HFZ.out] at hF4
              have hwj : wrap64 ((j : Int) + 1) = (j : Int) + 1 := IntWalk.wrap64_in _ (by have := H2.out; have := (rfK_all n1).2.2.2.1; omega)
              have HREL : Hid (RDecLoop w Z n1 R (.int .i64 (wrap64 ((j : Int) + 1))) ((w2.setRow Z (zC z')).setRow (Z + 1) (frC f' s' t'))) := Lib.hid ⟨j + 1, z', f', s', t', H2.out, by rw [hwj]; go_num, X4.out, by have := HEN.out; rw [HFZ.out] at this; exact this, hF4⟩
              have HWJ := Lib.hid hwj
              clear hF4 X4 HFN HEN QZ QX OZ OX hwj
              go_wp2_with fail
              go_roundw
              case rel => exact HREL.out
              case measure =>
                have h9 := H2.out
                rw [HWJ.out]
                simp only [intOf]
                omega
            · have he' : (z.err == 0) = false := by simpa using he
              have HX1 : Hid (RDecEnd w Z R wr) := Lib.hid ⟨z, f, sl, tl, X.out, by rw [← EE.out, rFlds_stay _ _ he]⟩
              clear he
              go_wp2_with fail
              refine Met.intro (HJ.out _ _ ?_)
              repeat apply Exists.intro
              refine ⟨?_, rfl⟩
              exact HX1.out
          · have h2 : ¬ j < (rfK n1).length := by rw [← HSZ.out]; exact h1
            have h1' : ¬ (j : Int) < ((rfS n1).size : Int) := by omega
            have HX1 : Hid (RDecEnd w Z R wr) := Lib.hid ⟨z, f, sl, tl, X.out, by rw [← EE.out, List.drop_of_length_le (by rw [← (rfK_all n1).1, List.length_map]; omega)]; rfl⟩
            go_wp2_with fail
            refine Met.intro (HJ.out _ _ ?_)
            repeat apply Exists.intro
            refine ⟨?_, rfl⟩
            exact HX1.out
      case rest =>
        obtain ⟨z, f, sl, tl, hX, hR⟩ := hcut
        have X := Lib.hid hX
        have HR := Lib.hid hR
        have c0 : wc.cell? ⟨Z, 0, none⟩ = some (.string z.s) := X.out.zb.cell 0
        have c1 : wc.cell? ⟨Z, 1, none⟩ = some (.int .i64 z.at_) := X.out.zb.cell 1
        have cE : wc.cell? ⟨Z, 2, none⟩ = some (.int .i64 z.err) := X.out.zb.cell 2
        have fE := X.out.zb.frozen 2
        clear hX hR HST
        by_cases he : z.err = 0
        · have he' : (z.err == 0) = true := by rw [he]; rfl
          by_cases hl : z.at_ < z.s.size
          · have HDD := Lib.hid (show rDec s = (fr0, 3) by rw [HRD.out, HR.out]; simp only; rw [if_pos he, if_pos hl])
            go_upto_region 20 with fail
            obtain ⟨v9, hv⟩ : ∃ vq, vq = wc.setCell ⟨Z, 2, none⟩ (.int .i64 3) := ⟨_, rfl⟩
            have X9 : Hid (RD w Z ⟨z.s, z.at_, 3⟩ f sl tl v9) := Lib.hid (by rw [hv]; exact RD.setz1 (z' := ⟨z.s, z.at_, 3⟩) X.out X.out.good 2 _ rfl)
            rw [← hv]
            clear hv X c0 c1 cE fE he he'
            have cE : v9.cell? ⟨Z, 2, none⟩ = some (.int .i64 3) := X9.out.zb.cell 2
            have RR := Lib.hid (blk_raw X9.out.rb)
            have BX := Lib.hid X9.out.bw
            have CE := Lib.hid cE
            have CZ : Hid ((((v9).drew).setRow w.heap.size z34).cell? ⟨Z, 2, none⟩ = some (.int .i64 3)) := Lib.hid ((Blk.grown (show Blk (v9).drew Z _ 107 from X9.out.zb) (grown_setRow _ w.heap.size z34) (fun e => by have := Option.some.inj e; have := X9.out.gt; omega)).cell 2)
            go_upto_region 21 with fail
            clear cE
            refine WalkS.begin (fun w' => w'.cell? ⟨Z, 2, none⟩ = some (.int .i64 3)) [4] (by kernel_rfl) CE.out ?_
            simp only [List.size_toArray, List.length_cons, List.length_nil, Nat.zero_add, Nat.reduceAdd, show Array.replicate 5 false = #[false, false, false, false, false] from rfl]
            refine' WalkS.take0 0 _ (v := .agg z34) rfl (by kernel_rfl) (by kernel_rfl) (by kernel_rfl) (by kernel_rfl) (fun _ _ _ h => h) (Or.inl ⟨by rfl, ?hyb1⟩) ?restb1
            case hyb1 => (intro w9; go_simp <;> with_reducible rfl)
            simp only [Act.put, List.setIfInBounds_toArray, List.set_cons_zero, List.set_cons_succ]
            refine' WalkS.take0 1 _ (v := _) rfl (by kernel_rfl) (by kernel_rfl) (by kernel_rfl) (by kernel_rfl) (fun _ _ _ h => h) (Or.inl ⟨by rfl, ?hyc1⟩) ?restc1
            case hyc1 => (intro w9; go_simp <;> with_reducible rfl)
            simp only [Act.put, List.setIfInBounds_toArray, List.set_cons_zero, List.set_cons_succ]
            refine WalkS.take 2 _ (v := .int .i64 3) rfl (by kernel_rfl) (by kernel_rfl) (by kernel_rfl) (by kernel_rfl) (by kernel_rfl) (fun _ _ _ h => h) (Or.inl ⟨by rfl, fun w9 c9 => ?hyd1⟩) ?restd1
            case hyd1 =>
              go_simp
            simp only [Act.put, List.setIfInBounds_toArray, List.set_cons_zero, List.set_cons_succ]
            refine WalkS.each [3] (by kernel_rfl) rfl ?_
            refine EachS.cons 3 _ rfl (fun K hK => ?s51) EachS.nil
            refine wp_store_row 52 (.tmp 2) (.tmp 96) rfl w.heap.size z34 rfl rfl 52 z34 RR.out (by kernel_rfl) rfl z34_one ?_
            refine hK.out _ _ (fun _ => CZ.out) ?_
            clear hK K
            simp only [Act.put, List.setIfInBounds_toArray, List.set_cons_zero, List.set_cons_succ]
            refine WalkS.each [4] (by kernel_rfl) rfl ?_
            refine EachS.cons 4 _ rfl (fun K hK => ?s61) EachS.nil
            go_simp
            refine hK.out _ _ (fun h => absurd h (by decide)) ?_
            clear hK K
            simp only [List.setIfInBounds_toArray, List.set_cons_zero, List.set_cons_succ]
            refine WalkS.done (by kernel_rfl) ?_
            go_wp2_with fail
            refine bodyPost_ret (results_cell_tmp_row (p := 2) (u := 3) Tryd.results12 _ _ w.heap.size 52 _ (0, 0) _ rfl (blk_raw (setRow_blk z34 (show Blk (v9).drew w.heap.size z34 52 from RR.out))) Tryd.underlying52 rfl (by kernel_rfl)) rfl ?_
            rw [HDD.out]
            exact RDecP.err 3 (below_sr (BX.out.drew) (Nat.le_refl _) _)
          · have HDD := Lib.hid (show rDec s = (f, 0) by rw [HRD.out, HR.out]; simp only; rw [if_pos he, if_neg hl])
            have hl' : ¬ (z.at_ : Int) < (z.s.size : Int) := by omega
            have RX := Lib.hid (blk_raw X.out.xb)
            have RR := Lib.hid (blk_raw X.out.rb)
            have OX := Lib.hid (frC_1s f sl tl (own_1 X.out.ms) (own_1 X.out.es))
            go_wp2_with (first | (refine wpList_load_row rfl 52 (.tmp 5) rfl (Z + 1) rfl 52 (frC f sl tl) (0, 0) _ RX.out Tryd.underlying52 rfl (by kernel_rfl) ?_) | (refine wpList_store_row rfl 52 (.tmp 2) (.tmp 99) rfl w.heap.size (frC f sl tl) rfl rfl 52 z34 RR.out (by kernel_rfl) rfl OX.out ?_))
            refine bodyPost_ret (results_cell_tmp_row (p := 2) (u := 3) Tryd.results12 _ _ w.heap.size 52 _ (0, 0) _ rfl (blk_raw (setRow_blk (frC f sl tl) X.out.rb)) Tryd.underlying52 rfl (by kernel_rfl)) rfl ?_
            rw [HDD.out]
            exact ⟨sl, tl, rfl, below_sr X.out.bw (Nat.le_refl _) _, (own_setRow X.out.ms X.out.rb (by decide) _).at, (own_setRow X.out.es X.out.rb (by decide) _).at⟩
        · have he' : (z.err == 0) = false := by simpa using he
          have he'' : (z.err != 0) = true := by simpa using he
          have HDD := Lib.hid (show rDec s = (fr0, z.err) by rw [HRD.out, HR.out]; simp only; rw [if_neg he])
          clear he
          have RR := Lib.hid (blk_raw X.out.rb)
          have BX := Lib.hid X.out.bw
          have CE := Lib.hid cE
          have CZ : Hid ((((wc).drew).setRow w.heap.size z34).cell? ⟨Z, 2, none⟩ = some (.int .i64 z.err)) := Lib.hid ((Blk.grown (show Blk (wc).drew Z _ 107 from X.out.zb) (grown_setRow _ w.heap.size z34) (fun e => by have := Option.some.inj e; have := X.out.gt; omega)).cell 2)
          go_upto_region 21 with fail
          clear cE
          refine WalkS.begin (fun w' => w'.cell? ⟨Z, 2, none⟩ = some (.int .i64 z.err)) [4] (by kernel_rfl) CE.out ?_
          simp only [List.size_toArray, List.length_cons, List.length_nil, Nat.zero_add, Nat.reduceAdd, show Array.replicate 5 false = #[false, false, false, false, false] from rfl]
          refine' WalkS.take0 0 _ (v := .agg z34) rfl (by kernel_rfl) (by kernel_rfl) (by kernel_rfl) (by kernel_rfl) (fun _ _ _ h => h) (Or.inl ⟨by rfl, ?hyb2⟩) ?restb2
          case hyb2 => (intro w9; go_simp <;> with_reducible rfl)
          simp only [Act.put, List.setIfInBounds_toArray, List.set_cons_zero, List.set_cons_succ]
          refine' WalkS.take0 1 _ (v := _) rfl (by kernel_rfl) (by kernel_rfl) (by kernel_rfl) (by kernel_rfl) (fun _ _ _ h => h) (Or.inl ⟨by rfl, ?hyc2⟩) ?restc2
          case hyc2 => (intro w9; go_simp <;> with_reducible rfl)
          simp only [Act.put, List.setIfInBounds_toArray, List.set_cons_zero, List.set_cons_succ]
          refine WalkS.take 2 _ (v := .int .i64 z.err) rfl (by kernel_rfl) (by kernel_rfl) (by kernel_rfl) (by kernel_rfl) (by kernel_rfl) (fun _ _ _ h => h) (Or.inl ⟨by rfl, fun w9 c9 => ?hyd2⟩) ?restd2
          case hyd2 =>
            go_simp
          simp only [Act.put, List.setIfInBounds_toArray, List.set_cons_zero, List.set_cons_succ]
          refine WalkS.each [3] (by kernel_rfl) rfl ?_
          refine EachS.cons 3 _ rfl (fun K hK => ?s52) EachS.nil
          refine wp_store_row 52 (.tmp 2) (.tmp 96) rfl w.heap.size z34 rfl rfl 52 z34 RR.out (by kernel_rfl) rfl z34_one ?_
          refine hK.out _ _ (fun _ => CZ.out) ?_
          clear hK K
          simp only [Act.put, List.setIfInBounds_toArray, List.set_cons_zero, List.set_cons_succ]
          refine WalkS.each [4] (by kernel_rfl) rfl ?_
          refine EachS.cons 4 _ rfl (fun K hK => ?s62) EachS.nil
          go_simp
          refine hK.out _ _ (fun h => absurd h (by decide)) ?_
          clear hK K
          simp only [List.setIfInBounds_toArray, List.set_cons_zero, List.set_cons_succ]
          refine WalkS.done (by kernel_rfl) ?_
          go_wp2_with fail
          refine bodyPost_ret (results_cell_tmp_row (p := 2) (u := 3) Tryd.results12 _ _ w.heap.size 52 _ (0, 0) _ rfl (blk_raw (setRow_blk z34 (show Blk (wc).drew w.heap.size z34 52 from RR.out))) Tryd.underlying52 rfl (by kernel_rfl)) rfl ?_
          rw [HDD.out]
          exact RDecP.err z.err (below_sr (BX.out.drew) (Nat.le_refl _) _)
    · have hbe : ((t ++ sealB t).toList == s.toList) = false := by rw [beq_bytes]; exact decide_eq_false hq
      have HD := Lib.hid (show rDec s = (fr0, 5) by unfold rDec; rw [if_neg h4, ← HT.out, if_neg hq])
      have RR := Lib.hid (blk_raw R1.out)
      clear hq
      go_wp2_with (first | (refine wpList_store_row rfl 52 (.tmp 2) (.tmp 23) rfl w.heap.size z34 rfl rfl 52 z34 RR.out (by kernel_rfl) rfl z34_one ?_))
      refine bodyPost_ret (results_cell_tmp_row (p := 2) (u := 3) Tryd.results12 _ _ w.heap.size 52 _ (0, 0) _ rfl (blk_raw (setRow_blk z34 R1.out)) Tryd.underlying52 rfl (by kernel_rfl)) rfl ?_
      rw [HD.out]
      exact RDecP.err 5 (below_sr B1.out (Nat.le_refl _) _)
end Go.Proofs.YtodajejjhfpdmaaDoor
