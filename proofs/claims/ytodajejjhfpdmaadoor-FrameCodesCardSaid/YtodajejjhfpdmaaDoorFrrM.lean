/-
  The document's encoding of a frame.
-/
import Derived.Test.YtodajejjhfpdmaaDoorFrrK
import Derived.Test.YtodajejjhfpdmaaDoorFrlS
namespace Go.Proofs.YtodajejjhfpdmaaDoor
open Go.RowKit Go.Instr

/-- The bytes of some parts. -/
def bL (l : List PartV) : ByteArray := ⟨(encs l).toArray⟩
theorem bL_app (a b : List PartV) : bL (a ++ b) = bL a ++ bL b := by
  apply Go.WideShapes.bytes_inj
  simp [bL, encs_app, ByteArray.data_append]
theorem bL_nil : bL [] = ⟨#[]⟩ := rfl
theorem ba_nil (a : ByteArray) : a ++ (⟨#[]⟩ : ByteArray) = a := by
  apply Go.WideShapes.bytes_inj
  simp [ByteArray.data_append]
theorem bL_n1 (x : Nat) : bL [n1 x] = oneB x 1 := by simp [bL, encs, enc, n1, oneB]
theorem bL_n4 (x : Nat) : bL [n4 x] = oneB x 4 := by simp [bL, encs, enc, n4, oneB]
theorem bL_cons (p : PartV) (l : List PartV) : bL (p :: l) = bL [p] ++ bL l := bL_app [p] l
theorem bL_size (l : List PartV) : (bL l).size = (encs l).length := by
  show (encs l).toArray.size = _
  simp
theorem wt_le (c : Nat) : wt c ≤ 400 := by
  unfold wt
  repeat' split
  all_goals omega
def REncP (f : Fr) (w : World) (e : Ending) (w' : World) : Prop := e = .returned (.tuple #[.string (encS f), .bool (validF f)]) ∧ Below w.heap.size w w'
def REncLoop (w : World) (f : Fr) (s t : Value) (i sv : Value) (wr : World) : Prop :=
  ∃ (j : Nat) (S : ByteArray), j ≤ (rfK f.kind).length ∧ i = .int .i64 j ∧ sv = .string S ∧ S = bL ([n1 f.kind, n1 f.frm, n1 f.dest] ++ ((letK f.kind).take j).flatMap (fldP f)) ∧ S.size ≤ 3 + 400 * j ∧ (∀ c ∈ (letK f.kind).take j, fitsF f c = true) ∧ Blk wr w.heap.size (frC f s t) 52 ∧ Below w.heap.size w wr
theorem bL_nB (b : Bool) : bL [nB b] = oneB (if b then 1 else 0) 1 := bL_n1 _
theorem rflag_is (b : Bool) (w : World) : Calls Tryd.prog 25 #[.bool b] w fun e w' => e = .returned (.string (oneB (if b then 1 else 0) 1)) ∧ Below w.heap.size w w' := rflag_any b w
theorem take_cv {K j : Nat} (h2 : j < (rfK K).length) : (letK K).take (j + 1) = (letK K).take j ++ [cv (rfK K)[j]] := by
  have hl : j < (letK K).length := by rw [← (rfK_all K).1, List.length_map]; exact h2
  rw [List.take_succ_eq_append_getElem hl]
  congr 2
  simp only [← (rfK_all K).1, List.getElem_map]
theorem renc_next {f : Fr} {s t : Value} {w wr : World} {j c : Nat} {S B : ByteArray} (h2 : j < (rfK f.kind).length) (hc : c = (rfK f.kind)[j]) (hS : S = bL ([n1 f.kind, n1 f.frm, n1 f.dest] ++ ((letK f.kind).take j).flatMap (fldP f))) (hSs : S.size ≤ 3 + 400 * j) (hfit : ∀ c ∈ (letK f.kind).take j, fitsF f c = true) (hf : fitsF f (cv c) = true) (ht : f.text.size ≤ 40) (hB : B = bL (fldP f (cv c))) (hX : Blk wr w.heap.size (frC f s t) 52) (hW : Below w.heap.size w wr) : REncLoop w f s t (.int .i64 (wrap64 ((j : Int) + 1))) (.string (S ++ B)) wr := by
  have h6 := (rfK_all f.kind).2.2.2.1
  have hw : wrap64 ((j : Int) + 1) = (j : Int) + 1 := IntWalk.wrap64_in _ (by omega)
  have hl := fld_len f (cv c) hf ht
  have hwt := wt_le (cv c)
  have htk := take_cv h2
  rw [← hc] at htk
  refine ⟨j + 1, S ++ B, h2, by rw [hw]; rfl, rfl, ?_, ?_, ?_, hX, hW⟩
  · rw [htk, List.flatMap_append, ← List.append_assoc, bL_app, ← hS, hB]
    simp
  · rw [ByteArray.size_append, hB, bL_size]; omega
  · intro d hd
    rw [htk] at hd
    rcases List.mem_append.1 hd with h | h
    · exact hfit d h
    · rw [List.mem_singleton.1 h]; exact hf
theorem renc_bad {f : Fr} {w w' : World} {j c : Nat} (h2 : j < (rfK f.kind).length) (hc : c = (rfK f.kind)[j]) (hf : fitsF f (cv c) = false) (hW : Below w.heap.size w w') : REncP f w (.returned (.tuple #[.string ⟨#[]⟩, .bool false])) w' := by
  have hv : validF f = false := by
    unfold validF
    have hm : cv c ∈ letK f.kind := by
      rw [← (rfK_all f.kind).1, hc]
      exact List.mem_map_of_mem (List.getElem_mem h2)
    have ha : (letK f.kind).all (fitsF f) = false := by
      rw [Bool.eq_false_iff]
      intro h
      rw [List.all_eq_true] at h
      have := h _ hm
      rw [hf] at this
      cases this
    rw [ha, Bool.and_false]
  refine ⟨?_, hW⟩
  unfold encS
  rw [hv]
  rfl
theorem bL_2 {a b : ByteArray} (p q : PartV) (h1 : bL [p] = a) (h2 : bL [q] = b) : a ++ b = bL [p, q] := by
  rw [bL_cons, h1, h2]
theorem bL_3 {a b c : ByteArray} (p q r : PartV) (h1 : bL [p] = a) (h2 : bL [q] = b) (h3 : bL [r] = c) : a ++ b ++ c = bL [p, q, r] := by
  rw [bL_cons, bL_cons q, h1, h2, h3]
  apply Go.WideShapes.bytes_inj
  simp [ByteArray.data_append]
theorem cmdS_size (c : CmdV) : (cmdS c).size = 11 := by
  unfold cmdS
  simp only [ByteArray.size_append, oneB_size]
theorem cmdS_bL (c : CmdV) : cmdS c = bL [n1 c.k, n1 c.n, n1 c.l, n4 c.e, n4 c.r] := by
  unfold cmdS
  rw [bL_cons, bL_cons (n1 c.n), bL_cons (n1 c.l), bL_cons (n4 c.e), bL_n1, bL_n1, bL_n1, bL_n4, bL_n4]
  apply Go.WideShapes.bytes_inj
  simp [ByteArray.data_append]
theorem bL_pT (t : ByteArray) : bL [pT t] = oneB t.size 1 ++ t := by
  apply Go.WideShapes.bytes_inj
  simp [bL, encs, enc, pT, oneB, beN, ByteArray.data_append]
theorem val_bL (b : Bool) (t : ByteArray) : oneB (if b then 1 else 0) 1 ++ oneB t.size 1 ++ t = bL [nB b, pT t] := by
  rw [bL_cons, bL_nB, bL_pT]
  apply Go.WideShapes.bytes_inj
  simp [ByteArray.data_append]
theorem renc_none {f : Fr} {w w' : World} (hk : knownB f.kind = false) (hW : Below w.heap.size w w') : REncP f w (.returned (.tuple #[.string ⟨#[]⟩, .bool false])) w' := by
  have hv : validF f = false := by unfold validF; rw [hk]; rfl
  refine ⟨?_, hW⟩
  unfold encS
  rw [hv]
  rfl
theorem renc_end {f : Fr} {w w' : World} {j : Nat} {S : ByteArray} (hj : j = (rfK f.kind).length) (hk : knownB f.kind = true) (hf : f.fine) (hS : S = bL ([n1 f.kind, n1 f.frm, n1 f.dest] ++ ((letK f.kind).take j).flatMap (fldP f))) (hfit : ∀ c ∈ (letK f.kind).take j, fitsF f c = true) (hW : Below w.heap.size w w') : REncP f w (.returned (.tuple #[.string (S ++ sealB S), .bool true])) w' := by
  have hl : (letK f.kind).length = j := by rw [hj, ← (rfK_all f.kind).1, List.length_map]
  rw [List.take_of_length_le (by omega)] at hS hfit
  have hv : validF f = true := by
    unfold validF
    rw [hk, Bool.true_and, List.all_eq_true]
    exact hfit
  have hb : bodyF f = S := by
    unfold bodyF joinS
    rw [if_pos (partsF_chk f hf hv), hS]
    rfl
  refine ⟨?_, hW⟩
  unfold encS
  rw [hv, if_pos rfl, hb]
theorem rflag_t (w : World) : Calls Tryd.prog 25 #[.bool true] w fun e w' => e = .returned (.string (oneB 1 1)) ∧ Below w.heap.size w w' := rflag_is true w
theorem rflag_f (w : World) : Calls Tryd.prog 25 #[.bool false] w fun e w' => e = .returned (.string (oneB 0 1)) ∧ Below w.heap.size w w' := rflag_is false w
theorem rcommand_is (c : CmdV) (w : World) (hc : c.fine) : Calls Tryd.prog 26 #[.agg #[.int .u8 c.k, .int .u8 c.n, .int .u8 c.l, .int .u32 c.e, .int .u32 c.r]] w fun e w' => e = .returned (.string (cmdS c)) ∧ Below w.heap.size w w' := rcommand_any c w hc
def WL1 (w : World) (f : Fr) (s t : Value) (S1 : ByteArray) (i sv : Value) (wr : World) : Prop :=
  ∃ (k : Nat) (V : ByteArray), k ≤ f.ms.length ∧ i = .int .i64 k ∧ sv = .string V ∧ V = S1 ++ bL ((f.ms.take k).flatMap pM) ∧ V.size ≤ S1.size + 3 * k ∧ Blk wr w.heap.size (frC f s t) 52 ∧ Below w.heap.size w wr
def WL2 (w : World) (f : Fr) (s t : Value) (S2 : ByteArray) (i sv : Value) (wr : World) : Prop :=
  ∃ (k : Nat) (V : ByteArray), k ≤ 8 ∧ i = .int .i64 k ∧ sv = .string V ∧ V = S2 ++ bL (((lvL f.lv).take k).map n1) ∧ V.size ≤ S2.size + k ∧ Blk wr w.heap.size (frC f s t) 52 ∧ Below w.heap.size w wr
def WL3 (w : World) (f : Fr) (s t : Value) (S1 : ByteArray) (i sv : Value) (wr : World) : Prop :=
  ∃ (k : Nat) (V : ByteArray), k ≤ f.es.length ∧ i = .int .i64 k ∧ sv = .string V ∧ V = S1 ++ bL ((f.es.take k).flatMap pE) ∧ V.size ≤ S1.size + 20 * k ∧ Blk wr w.heap.size (frC f s t) 52 ∧ Below w.heap.size w wr
theorem ba_assoc (a b c : ByteArray) : a ++ b ++ c = a ++ (b ++ c) := by
  apply Go.WideShapes.bytes_inj
  simp [ByteArray.data_append]
theorem mem_bL (m : Mem) : oneB m.n 1 ++ oneB m.l 1 ++ oneB (if m.r then 1 else 0) 1 = bL (pM m) := bL_3 (n1 m.n) (n1 m.l) (nB m.r) (bL_n1 _) (bL_n1 _) (bL_nB _)
theorem ent_bL (x : Ent) : oneB x.s 4 ++ oneB x.n 4 ++ oneB x.b 1 ++ cmdS x.c = bL (pE x) := by
  rw [cmdS_bL, bL_3 (n4 x.s) (n4 x.n) (n1 x.b) (bL_n4 _) (bL_n4 _) (bL_n1 _), ← bL_app]
  rfl
theorem take_flat {α : Type} (g : α → List PartV) (l : List α) {k : Nat} (h : k < l.length) : bL ((l.take (k + 1)).flatMap g) = bL ((l.take k).flatMap g) ++ bL (g l[k]) := by
  rw [List.take_succ_eq_append_getElem h, List.flatMap_append, bL_app]
  simp
theorem lv_at (l : Lv) {k : Nat} (h : k < 8) (hf : l.fine) : ∃ n : Nat, n < 256 ∧ lvCell l k = .int .u8 n ∧ bL (((lvL l).take (k + 1)).map n1) = bL (((lvL l).take k).map n1) ++ oneB n 1 := by
  obtain ⟨h1, h2, h3, h4, h5, h6, h7, h8⟩ := hf
  have hl : k < (lvL l).length := h
  refine ⟨(lvL l)[k], ?_, ?_, ?_⟩
  · have hc : k = 0 ∨ k = 1 ∨ k = 2 ∨ k = 3 ∨ k = 4 ∨ k = 5 ∨ k = 6 ∨ k = 7 := by omega
    rcases hc with rfl | rfl | rfl | rfl | rfl | rfl | rfl | rfl <;> assumption
  · unfold lvCell
    rw [List.getD_eq_getElem?_getD, List.getElem?_eq_getElem (show k < (lvLs l).length from h)]
    rfl
  · rw [List.take_succ_eq_append_getElem hl, List.map_append, bL_app]
    rw [show ([(lvL l)[k]].map n1) = [n1 (lvL l)[k]] from rfl, bL_n1]
set_option maxHeartbeats 4000000 in
set_option maxRecDepth 20000 in
theorem rencode_any (f : Fr) (a1 a2 : Option Addr) (c1 c2 : Nat) (w : World) (hf : f.fine) (ht : f.text.size ≤ 40) (hm : memR.At w (.slice a1 f.ms.length c1) f.ms) (he : entR.At w (.slice a2 f.es.length c2) f.es) (hb1 : f.ms.length ≤ 40) (hb2 : f.es.length ≤ 40) :
    Calls Tryd.prog 10 #[.agg (frC f (.slice a1 f.ms.length c1) (.slice a2 f.es.length c2))] w (REncP f w) := by
  obtain ⟨s, hs⟩ : ∃ s, s = (.slice a1 f.ms.length c1 : Value) := ⟨_, rfl⟩
  obtain ⟨t, ht'⟩ : ∃ t, t = (.slice a2 f.es.length c2 : Value) := ⟨_, rfl⟩
  obtain ⟨w0, hw0⟩ : ∃ w0, w0 = w.alloc (.cells (frC f (.slice a1 f.ms.length c1) (.slice a2 f.es.length c2)) 52) := ⟨_, rfl⟩
  have X0 := Lib.hid (show Blk w0 w.heap.size (frC f (.slice a1 f.ms.length c1) (.slice a2 f.es.length c2)) 52 by rw [hw0]; exact Blk.new rfl)
  have B0 := Lib.hid (show Below w.heap.size w w0 by rw [hw0]; go_grown)
  have HF := Lib.hid hf
  have HM := Lib.hid hm
  have HE := Lib.hid he
  have HB := Lib.hid (And.intro hb1 hb2)
  have HTX := Lib.hid ht
  have hk := hf.1
  have H1 := Lib.hid (rfields_any f.kind w0 hk)
  go_enter Tryd.func10, Tryd.ntmps10
  go_upto_region 1 with fail
  rw [← hw0]
  rw [← hs, ← ht'] at X0 ⊢
  have HSE := Lib.hid (And.intro hs ht')
  clear hw0 hf hm he hb1 hb2 hs ht' ht
  have y0 : w0.cell? ⟨w.heap.size, 0, none⟩ = some (.int .u8 f.kind) := X0.out.cell 0
  go_wp2_with fail
  with_reducible refine H1.out.mono ?_
  rintro e w1 ⟨rfl, hB⟩
  have X1 := Lib.hid (X0.out.on hB)
  have B1 := Lib.hid (m_below_on B0.out hB)
  clear H1 hB y0 X0 B0
  by_cases hkn : knownB f.kind = true
  · have hne := rfS_known2 f.kind
    rw [hkn] at hne
    simp only [Bool.not_eq_true'] at hne
    go_upto_region 4 with fail
    have q0 := onto_cell (show w1.cell? ⟨w.heap.size, 0, none⟩ = some (.int .u8 f.kind) from X1.out.cell 0)
    have q1 := onto_cell (show w1.cell? ⟨w.heap.size, 1, none⟩ = some (.int .u8 f.frm) from X1.out.cell 1)
    have q2 := onto_cell (show w1.cell? ⟨w.heap.size, 2, none⟩ = some (.int .u8 f.dest) from X1.out.cell 2)
    have z1 : (oneB f.kind 1).size = 1 := oneB_size _ _
    have z2 : (oneB f.frm 1).size = 1 := oneB_size _ _
    have z3 : (oneB f.dest 1).size = 1 := oneB_size _ _
    refine wp_region_onto (by kernel_rfl) (by kernel_rfl) ?_
    repeat (go_big_quiet_step ((first | (go_at_call 23; first | exact onto_calls (rone_is f.kind _ HF.out.1) | exact onto_calls (rone_is f.frm _ HF.out.2.1) | exact onto_calls (rone_is f.dest _ HF.out.2.2.1)))))
    refine wpQuiet_nil ?_
    intro _ hw'
    obtain ⟨z, rfl⟩ := hw'
    have hBz := onto_below w1 z
    obtain ⟨w2, hw2⟩ : ∃ w2, w2 = onto w1 z := ⟨_, rfl⟩
    rw [← hw2] at hBz ⊢
    have X2 := Lib.hid (X1.out.on hBz)
    have B2 := Lib.hid (m_below_on B1.out hBz)
    clear hBz hw2 q0 q1 q2 X1 B1
    have HST : Hid (REncLoop w f s t (.int .i64 0) (.string (oneB f.kind 1 ++ oneB f.frm 1 ++ oneB f.dest 1)) w2) := Lib.hid ⟨0, _, Nat.zero_le _, rfl, rfl, by
      rw [List.take_zero, List.flatMap_nil, List.append_nil]
      exact bL_3 _ _ _ (bL_n1 _) (bL_n1 _) (bL_n1 _), by rw [ByteArray.size_append, ByteArray.size_append, z1, z2, z3]; omega, by intro c hc; simp at hc, X2.out, B2.out⟩
    generalize oneB f.kind 1 ++ oneB f.frm 1 ++ oneB f.dest 1 = S0 at HST ⊢
    clear z1 z2 z3 X2 B2 hne
    have HSZ := Lib.hid (rfS_size f.kind)
    go_wp2_with fail
    go_loopw [6, 5] (fun i sv wr => REncLoop w f s t i sv wr) (fun i _ _ => (rfK f.kind).length - (intOf i).toNat)
    case atStart => exact HST.out
    case round =>
      obtain ⟨j, S, hj, rfl, rfl, hS, hSs, hfit, hX, hB⟩ := hrel
      have X := Lib.hid hX
      have BB := Lib.hid hB
      have SS := Lib.hid hS
      have FIT := Lib.hid hfit
      have SZ := Lib.hid hSs
      clear HST hX hB hS hSs hfit
      by_cases h1 : j < (rfS f.kind).size
      · have h2 : j < (rfK f.kind).length := by rw [← HSZ.out]; exact h1
        have hin := (rfK_all f.kind).2.2.1 _ (List.getElem_mem h2)
        have hix := rfS_at h2 h1
        obtain ⟨c, hc⟩ : ∃ c, c = (rfK f.kind)[j] := ⟨_, rfl⟩
        rw [← hc] at hin hix
        have HC := Lib.hid hc
        clear hc
        simp only [r14, List.mem_cons, List.not_mem_nil, or_false] at hin
        have H2J := Lib.hid h2
        have hwj : wrap64 ((j : Int) + 1) = (j : Int) + 1 := IntWalk.wrap64_in _ (by have := (rfK_all f.kind).2.2.2.1; omega)
        have HWJ := Lib.hid hwj
        have hS6 : S.size ≤ 2500 := by have := SZ.out; have := (rfK_all f.kind).2.2.2.1; omega
        have happ : ∀ a b : ByteArray, (a ++ b).size = a.size + b.size := fun a b => ByteArray.size_append
        clear hwj
        rcases hin with rfl | rfl | rfl | rfl | rfl | rfl | rfl | rfl | rfl | rfl | rfl | rfl | rfl | rfl
        · as_aux_lemma =>
          have y0 : wr.cell? ⟨w.heap.size, 3, none⟩ = some (.int .u32 f.epoch) := X.out.cell 3
          have H2 := Lib.hid (rfour_is f.epoch wr HF.out.2.2.2.1)
          go_wp2_with fail
          with_reducible refine H2.out.mono ?_
          rintro e w3 ⟨rfl, hB⟩
          have X3 := Lib.hid (X.out.on hB)
          have B3 := Lib.hid (m_below_on BB.out hB)
          have zz : (oneB f.epoch 4).size = 4 := oneB_size _ _
          have HREL : Hid (REncLoop w f s t (.int .i64 (wrap64 ((j : Int) + 1))) (.string (S ++ (oneB f.epoch 4))) w3) := Lib.hid (renc_next H2J.out HC.out SS.out SZ.out FIT.out (rfl) HTX.out ((bL_n4 _).symm) X3.out B3.out)
          clear hB H2 y0 X3 B3
          clear X BB SS SZ FIT
          go_wp2_with fail
          go_roundw
          case rel => exact HREL.out
          case measure =>
            have h9 := H2J.out
            rw [HWJ.out]
            simp only [intOf]
            omega
        · as_aux_lemma =>
          by_cases hky : f.key < 6
          · have hky' : ¬ (6 : Int) ≤ (f.key : Int) := by omega
            have y4 : wr.cell? ⟨w.heap.size, 4, none⟩ = some (.int .u8 f.key) := X.out.cell 4
            have y0 : wr.cell? ⟨w.heap.size, 4, none⟩ = some (.int .u8 f.key) := X.out.cell 4
            have H2 := Lib.hid (rone_is f.key wr HF.out.2.2.2.2.1)
            go_wp2_with fail
            with_reducible refine H2.out.mono ?_
            rintro e w3 ⟨rfl, hB⟩
            have X3 := Lib.hid (X.out.on hB)
            have B3 := Lib.hid (m_below_on BB.out hB)
            have zz : (oneB f.key 1).size = 1 := oneB_size _ _
            have HREL : Hid (REncLoop w f s t (.int .i64 (wrap64 ((j : Int) + 1))) (.string (S ++ (oneB f.key 1))) w3) := Lib.hid (renc_next H2J.out HC.out SS.out SZ.out FIT.out (decide_eq_true hky) HTX.out ((bL_n1 _).symm) X3.out B3.out)
            clear hB H2 y0 y4 X3 B3
            clear X BB SS SZ FIT
            go_wp2_with fail
            go_roundw
            case rel => exact HREL.out
            case measure =>
              have h9 := H2J.out
              rw [HWJ.out]
              simp only [intOf]
              omega
          · have hky' : (6 : Int) ≤ (f.key : Int) := by omega
            have y4 : wr.cell? ⟨w.heap.size, 4, none⟩ = some (.int .u8 f.key) := X.out.cell 4
            have HBAD : Hid (fitsF f (cv 107) = false) := Lib.hid (decide_eq_false hky)
            clear X SS SZ FIT
            go_wp2_with fail
            refine bodyPost_ret (v := .tuple #[.string ⟨#[]⟩, .bool false]) (by simp [results, Tryd.results10, go_sem]) rfl ?_
            exact renc_bad H2J.out HC.out HBAD.out BB.out
        · as_aux_lemma =>
          go_upto_region 24 with fail
          have q0 := onto_cell (show wr.cell? ⟨w.heap.size, 5, none⟩ = some (.int .u32 f.sn) from X.out.cell 5)
          have q1 := onto_cell (show wr.cell? ⟨w.heap.size, 6, none⟩ = some (.int .u8 f.sb) from X.out.cell 6)
          have q2 := onto_cell (show wr.cell? ⟨w.heap.size, 7, none⟩ = some (.int .u8 f.sl) from X.out.cell 7)
          have z0 : (oneB f.sn 4).size = 4 := oneB_size _ _
          have z1 : (oneB f.sb 1).size = 1 := oneB_size _ _
          have z2 : (oneB f.sl 1).size = 1 := oneB_size _ _
          refine wp_region_onto (by kernel_rfl) (by kernel_rfl) ?_
          repeat (go_big_quiet_step ((first | (go_at_call 24; first | exact onto_calls (rfour_is f.sn _ HF.out.2.2.2.2.2.1.1)) | (go_at_call 23; first | exact onto_calls (rone_is f.sb _ HF.out.2.2.2.2.2.1.2.1) | exact onto_calls (rone_is f.sl _ HF.out.2.2.2.2.2.1.2.2)))))
          refine wpQuiet_nil ?_
          intro _ hw'
          obtain ⟨z, rfl⟩ := hw'
          have hBz := onto_below wr z
          obtain ⟨w3, hw3⟩ : ∃ w3, w3 = onto wr z := ⟨_, rfl⟩
          rw [← hw3] at hBz ⊢
          have X3 := Lib.hid (X.out.on hBz)
          have B3 := Lib.hid (m_below_on BB.out hBz)
          have HREL : Hid (REncLoop w f s t (.int .i64 (wrap64 ((j : Int) + 1))) (.string (S ++ (oneB f.sn 4 ++ oneB f.sb 1 ++ oneB f.sl 1))) w3) := Lib.hid (renc_next H2J.out HC.out SS.out SZ.out FIT.out (rfl) HTX.out (bL_3 (n4 f.sn) (n1 f.sb) (n1 f.sl) (bL_n4 _) (bL_n1 _) (bL_n1 _)) X3.out B3.out)
          clear hBz hw3 X3 B3 q0 q1 q2
          clear X BB SS SZ FIT
          go_wp2_with fail
          go_roundw
          case rel => exact HREL.out
          case measure =>
            have h9 := H2J.out
            rw [HWJ.out]
            simp only [intOf]
            omega
        · as_aux_lemma =>
          have hu8 : IntKind.u8.wrap (f.text.size : Int) = (f.text.size : Int) := IntWalk.u8_in _ (by have := HTX.out; omega)
          have ht40 : f.text.size ≤ 40 := HTX.out
          by_cases h32 : f.text.size ≤ 32
          · have h32' : ¬ (32 : Int) < (f.text.size : Int) := by omega
            by_cases hb : f.has = true
            · have HHB := Lib.hid hb
              have HVB : Hid (fitsF f (cv 118) = true) := Lib.hid (by show valueB f.has f.text = true; unfold valueB; rw [hb, decide_eq_true h32]; rfl)
              clear hb
              have y8 : wr.cell? ⟨w.heap.size, 8, none⟩ = some (.bool true) := by rw [X.out.cell 8, ← HHB.out]; rfl
              have y9 : wr.cell? ⟨w.heap.size, 9, none⟩ = some (.string f.text) := X.out.cell 9
              go_upto_region 28 with fail
              have q0 := onto_cell (show wr.cell? ⟨w.heap.size, 8, none⟩ = some (.bool true) by rw [X.out.cell 8, ← HHB.out]; rfl)
              have q1 := onto_cell (show wr.cell? ⟨w.heap.size, 9, none⟩ = some (.string f.text) from X.out.cell 9)
              have z0 : (oneB 1 1).size = 1 := oneB_size _ _
              have z1 : (oneB f.text.size 1).size = 1 := oneB_size _ _
              refine wp_region_onto (by kernel_rfl) (by kernel_rfl) ?_
              repeat (go_big_quiet_step ((first | (go_at_call 25; first | exact onto_calls (rflag_t _)) | (go_at_call 23; first | exact onto_calls (rone_is f.text.size _ (by have := HTX.out; omega))))))
              refine wpQuiet_nil ?_
              intro _ hw'
              obtain ⟨z, rfl⟩ := hw'
              have hBz := onto_below wr z
              obtain ⟨w3, hw3⟩ : ∃ w3, w3 = onto wr z := ⟨_, rfl⟩
              rw [← hw3] at hBz ⊢
              have X3 := Lib.hid (X.out.on hBz)
              have B3 := Lib.hid (m_below_on BB.out hBz)
              have HREL : Hid (REncLoop w f s t (.int .i64 (wrap64 ((j : Int) + 1))) (.string (S ++ (oneB 1 1 ++ oneB f.text.size 1 ++ f.text))) w3) := Lib.hid (renc_next H2J.out HC.out SS.out SZ.out FIT.out (HVB.out) HTX.out (by rw [show fldP f (cv 118) = [nB f.has, pT f.text] from rfl, HHB.out]; exact val_bL true _) X3.out B3.out)
              clear hBz hw3 X3 B3 q0 q1
              clear X BB SS SZ FIT
              go_wp2_with fail
              go_roundw
              case rel => exact HREL.out
              case measure =>
                have h9 := H2J.out
                rw [HWJ.out]
                simp only [intOf]
                omega
            · simp only [Bool.not_eq_true] at hb
              have HHB := Lib.hid hb
              by_cases h0 : f.text.toList.isEmpty = true
              · have HVB : Hid (fitsF f (cv 118) = true) := Lib.hid (by show valueB f.has f.text = true; unfold valueB; rw [hb, decide_eq_true h32, h0]; rfl)
                clear hb
                have y8 : wr.cell? ⟨w.heap.size, 8, none⟩ = some (.bool false) := by rw [X.out.cell 8, ← HHB.out]; rfl
                have y9 : wr.cell? ⟨w.heap.size, 9, none⟩ = some (.string f.text) := X.out.cell 9
                go_upto_region 28 with fail
                have q0 := onto_cell (show wr.cell? ⟨w.heap.size, 8, none⟩ = some (.bool false) by rw [X.out.cell 8, ← HHB.out]; rfl)
                have q1 := onto_cell (show wr.cell? ⟨w.heap.size, 9, none⟩ = some (.string f.text) from X.out.cell 9)
                have z0 : (oneB 0 1).size = 1 := oneB_size _ _
                have z1 : (oneB f.text.size 1).size = 1 := oneB_size _ _
                refine wp_region_onto (by kernel_rfl) (by kernel_rfl) ?_
                repeat (go_big_quiet_step ((first | (go_at_call 25; first | exact onto_calls (rflag_f _)) | (go_at_call 23; first | exact onto_calls (rone_is f.text.size _ (by have := HTX.out; omega))))))
                refine wpQuiet_nil ?_
                intro _ hw'
                obtain ⟨z, rfl⟩ := hw'
                have hBz := onto_below wr z
                obtain ⟨w3, hw3⟩ : ∃ w3, w3 = onto wr z := ⟨_, rfl⟩
                rw [← hw3] at hBz ⊢
                have X3 := Lib.hid (X.out.on hBz)
                have B3 := Lib.hid (m_below_on BB.out hBz)
                have HREL : Hid (REncLoop w f s t (.int .i64 (wrap64 ((j : Int) + 1))) (.string (S ++ (oneB 0 1 ++ oneB f.text.size 1 ++ f.text))) w3) := Lib.hid (renc_next H2J.out HC.out SS.out SZ.out FIT.out (HVB.out) HTX.out (by rw [show fldP f (cv 118) = [nB f.has, pT f.text] from rfl, HHB.out]; exact val_bL false _) X3.out B3.out)
                clear hBz hw3 X3 B3 q0 q1
                clear X BB SS SZ FIT
                go_wp2_with fail
                go_roundw
                case rel => exact HREL.out
                case measure =>
                  have h9 := H2J.out
                  rw [HWJ.out]
                  simp only [intOf]
                  omega
              · simp only [Bool.not_eq_true] at h0
                have HBAD : Hid (fitsF f (cv 118) = false) := Lib.hid (by show valueB f.has f.text = false; unfold valueB; rw [hb, h0]; simp)
                clear hb
                have y8 : wr.cell? ⟨w.heap.size, 8, none⟩ = some (.bool false) := by rw [X.out.cell 8, ← HHB.out]; rfl
                have y9 : wr.cell? ⟨w.heap.size, 9, none⟩ = some (.string f.text) := X.out.cell 9
                clear X SS SZ FIT
                go_wp2_with fail
                refine bodyPost_ret (v := .tuple #[.string ⟨#[]⟩, .bool false]) (by simp [results, Tryd.results10, go_sem]) rfl ?_
                exact renc_bad H2J.out HC.out HBAD.out BB.out
          · have h32' : (32 : Int) < (f.text.size : Int) := by omega
            have HBAD : Hid (fitsF f (cv 118) = false) := Lib.hid (by show valueB f.has f.text = false; unfold valueB; rw [decide_eq_false h32]; rfl)
            have y9 : wr.cell? ⟨w.heap.size, 9, none⟩ = some (.string f.text) := X.out.cell 9
            clear X SS SZ FIT
            go_wp2_with fail
            refine bodyPost_ret (v := .tuple #[.string ⟨#[]⟩, .bool false]) (by simp [results, Tryd.results10, go_sem]) rfl ?_
            exact renc_bad H2J.out HC.out HBAD.out BB.out
        · as_aux_lemma =>
          have y0 : wr.cell? ⟨w.heap.size, 10, none⟩ = some (.bool f.rmw) := X.out.cell 10
          have H2 := Lib.hid (rflag_is f.rmw wr)
          go_wp2_with fail
          with_reducible refine H2.out.mono ?_
          rintro e w3 ⟨rfl, hB⟩
          have X3 := Lib.hid (X.out.on hB)
          have B3 := Lib.hid (m_below_on BB.out hB)
          have zz : (oneB (if f.rmw then 1 else 0) 1).size = 1 := oneB_size _ _
          have HREL : Hid (REncLoop w f s t (.int .i64 (wrap64 ((j : Int) + 1))) (.string (S ++ (oneB (if f.rmw then 1 else 0) 1))) w3) := Lib.hid (renc_next H2J.out HC.out SS.out SZ.out FIT.out (rfl) HTX.out ((bL_nB _).symm) X3.out B3.out)
          clear hB H2 y0 X3 B3
          clear X BB SS SZ FIT
          go_wp2_with fail
          go_roundw
          case rel => exact HREL.out
          case measure =>
            have h9 := H2J.out
            rw [HWJ.out]
            simp only [intOf]
            omega
        · as_aux_lemma =>
          have y0 : wr.cell? ⟨w.heap.size, 12, none⟩ = some (.int .u8 f.dir) := X.out.cell 12
          have H2 := Lib.hid (rone_is f.dir wr HF.out.2.2.2.2.2.2.1)
          go_wp2_with fail
          with_reducible refine H2.out.mono ?_
          rintro e w3 ⟨rfl, hB⟩
          have X3 := Lib.hid (X.out.on hB)
          have B3 := Lib.hid (m_below_on BB.out hB)
          have zz : (oneB f.dir 1).size = 1 := oneB_size _ _
          have HREL : Hid (REncLoop w f s t (.int .i64 (wrap64 ((j : Int) + 1))) (.string (S ++ (oneB f.dir 1))) w3) := Lib.hid (renc_next H2J.out HC.out SS.out SZ.out FIT.out (rfl) HTX.out ((bL_n1 _).symm) X3.out B3.out)
          clear hB H2 y0 X3 B3
          clear X BB SS SZ FIT
          go_wp2_with fail
          go_roundw
          case rel => exact HREL.out
          case measure =>
            have h9 := H2J.out
            rw [HWJ.out]
            simp only [intOf]
            omega
        · as_aux_lemma =>
          have y0 : wr.cell? ⟨w.heap.size, 11, none⟩ = some (.bool f.flag) := X.out.cell 11
          have H2 := Lib.hid (rflag_is f.flag wr)
          go_wp2_with fail
          with_reducible refine H2.out.mono ?_
          rintro e w3 ⟨rfl, hB⟩
          have X3 := Lib.hid (X.out.on hB)
          have B3 := Lib.hid (m_below_on BB.out hB)
          have zz : (oneB (if f.flag then 1 else 0) 1).size = 1 := oneB_size _ _
          have HREL : Hid (REncLoop w f s t (.int .i64 (wrap64 ((j : Int) + 1))) (.string (S ++ (oneB (if f.flag then 1 else 0) 1))) w3) := Lib.hid (renc_next H2J.out HC.out SS.out SZ.out FIT.out (rfl) HTX.out ((bL_nB _).symm) X3.out B3.out)
          clear hB H2 y0 X3 B3
          clear X BB SS SZ FIT
          go_wp2_with fail
          go_roundw
          case rel => exact HREL.out
          case measure =>
            have h9 := H2J.out
            rw [HWJ.out]
            simp only [intOf]
            omega
        · as_aux_lemma =>
          have y0 : wr.cell? ⟨w.heap.size, 13, none⟩ = some (.int .u8 f.life) := X.out.cell 13
          have H2 := Lib.hid (rone_is f.life wr HF.out.2.2.2.2.2.2.2.1)
          go_wp2_with fail
          with_reducible refine H2.out.mono ?_
          rintro e w3 ⟨rfl, hB⟩
          have X3 := Lib.hid (X.out.on hB)
          have B3 := Lib.hid (m_below_on BB.out hB)
          have zz : (oneB f.life 1).size = 1 := oneB_size _ _
          have HREL : Hid (REncLoop w f s t (.int .i64 (wrap64 ((j : Int) + 1))) (.string (S ++ (oneB f.life 1))) w3) := Lib.hid (renc_next H2J.out HC.out SS.out SZ.out FIT.out (rfl) HTX.out ((bL_n1 _).symm) X3.out B3.out)
          clear hB H2 y0 X3 B3
          clear X BB SS SZ FIT
          go_wp2_with fail
          go_roundw
          case rel => exact HREL.out
          case measure =>
            have h9 := H2J.out
            rw [HWJ.out]
            simp only [intOf]
            omega
        · as_aux_lemma =>
          have y0 : wr.cell? ⟨w.heap.size, 14, none⟩ = some (.int .u32 f.req) := X.out.cell 14
          have H2 := Lib.hid (rfour_is f.req wr HF.out.2.2.2.2.2.2.2.2.1)
          go_wp2_with fail
          with_reducible refine H2.out.mono ?_
          rintro e w3 ⟨rfl, hB⟩
          have X3 := Lib.hid (X.out.on hB)
          have B3 := Lib.hid (m_below_on BB.out hB)
          have zz : (oneB f.req 4).size = 4 := oneB_size _ _
          have HREL : Hid (REncLoop w f s t (.int .i64 (wrap64 ((j : Int) + 1))) (.string (S ++ (oneB f.req 4))) w3) := Lib.hid (renc_next H2J.out HC.out SS.out SZ.out FIT.out (rfl) HTX.out ((bL_n4 _).symm) X3.out B3.out)
          clear hB H2 y0 X3 B3
          clear X BB SS SZ FIT
          go_wp2_with fail
          go_roundw
          case rel => exact HREL.out
          case measure =>
            have h9 := H2J.out
            rw [HWJ.out]
            simp only [intOf]
            omega
        · as_aux_lemma =>
          have hnm : f.ms.length ≤ 40 := HB.out.1
          have y24 : wr.cell? ⟨w.heap.size, 24, none⟩ = some (.slice a1 f.ms.length c1) := by rw [X.out.cell 24, ← HSE.out.1]; rfl
          have y23 : wr.cell? ⟨w.heap.size, 23, none⟩ = some (.int .u32 f.ve) := X.out.cell 23
          by_cases hn8 : f.ms.length ≤ 8
          · have hn8' : ¬ (8 : Int) < (f.ms.length : Int) := by omega
            go_upto_region 48 with fail
            have hu8 : IntKind.u8.wrap (f.ms.length : Int) = (f.ms.length : Int) := IntWalk.u8_in _ (by omega)
            have q0 := onto_cell y23
            have q1 := onto_cell y24
            have z0 : (oneB f.ve 4).size = 4 := oneB_size _ _
            have z1 : (oneB f.ms.length 1).size = 1 := oneB_size _ _
            refine wp_region_onto (by kernel_rfl) (by kernel_rfl) ?_
            repeat (go_big_quiet_step ((first | (go_at_call 24; exact onto_calls (rfour_is f.ve _ HF.out.2.2.2.2.2.2.2.2.2.2.2.2.1)) | (go_at_call 23; exact onto_calls (rone_is f.ms.length _ (by omega))))))
            refine wpQuiet_nil ?_
            intro _ hw'
            obtain ⟨z, rfl⟩ := hw'
            have hBz := onto_below wr z
            obtain ⟨w3, hw3⟩ : ∃ w3, w3 = onto wr z := ⟨_, rfl⟩
            rw [← hw3] at hBz ⊢
            have X3 := Lib.hid (X.out.on hBz)
            have B3 := Lib.hid (m_below_on BB.out hBz)
            obtain ⟨S1, hS1⟩ : ∃ S1, S1 = S ++ (oneB f.ve 4 ++ oneB f.ms.length 1) := ⟨_, rfl⟩
            have hS1z : S1.size ≤ 2600 := by rw [hS1, happ, happ, z0, z1]; omega
            have HS1 := Lib.hid hS1
            rw [← hS1]
            have HST1 : Hid (WL1 w f s t S1 (.int .i64 0) (.string S1) w3) := Lib.hid ⟨0, S1, Nat.zero_le _, rfl, rfl, by rw [List.take_zero, List.flatMap_nil, bL_nil, ba_nil], Nat.le_refl _, X3.out, B3.out⟩
            clear hBz hw3 X3 B3 q0 q1 y24 y23 hS1 z0 z1 X BB
            go_wp2_with fail
            go_loopw [7, 5] (fun i sv wx => WL1 w f s t S1 i sv wx) (fun i _ _ => f.ms.length - (intOf i).toNat)
            case atStart => exact HST1.out
            case round =>
              obtain ⟨k, V, hk1, rfl, rfl, hV, hVs, hX, hB⟩ := hrel
              have X := Lib.hid hX
              have BB := Lib.hid hB
              have HV := Lib.hid hV
              have y24 : wr.cell? ⟨w.heap.size, 24, none⟩ = some (.slice a1 f.ms.length c1) := by rw [X.out.cell 24, ← HSE.out.1]; rfl
              clear HST1 hX hB hV
              by_cases hkl : k < f.ms.length
              · obtain ⟨b, off, cap, hsl, hbl, hcs⟩ := HM.out.form (by omega)
                simp only [Value.slice.injEq] at hsl
                obtain ⟨rfl, hd1, hd2⟩ := hsl
                clear hd1 hd2
                obtain ⟨mm, hmm⟩ : ∃ mm, mm = f.ms[k] := ⟨_, rfl⟩
                have hmf : mm.fine := by rw [hmm]; exact HF.out.2.2.2.2.2.2.2.2.2.2.2.2.2.2.1 _ (List.getElem_mem hkl)
                have q0 := onto_cell y24
                have q1 := onto_cell ((BB.out.cell (p := ⟨b, off + k * 3, none⟩) hbl).trans (show w.cell? ⟨b, off + k * 3, none⟩ = some (.int .u8 mm.n) by rw [hmm]; exact hcs k hkl 0 _ rfl))
                have q2 := onto_cell ((BB.out.cell (p := ⟨b, off + k * 3 + 1, none⟩) hbl).trans (show w.cell? ⟨b, off + k * 3 + 1, none⟩ = some (.int .u8 mm.l) by rw [hmm, Nat.add_assoc]; exact hcs k hkl 1 _ rfl))
                have q3 := onto_cell ((BB.out.cell (p := ⟨b, off + k * 3 + 2, none⟩) hbl).trans (show w.cell? ⟨b, off + k * 3 + 2, none⟩ = some (.bool mm.r) by rw [hmm, Nat.add_assoc]; exact hcs k hkl 2 _ rfl))
                have z0 : (oneB mm.n 1).size = 1 := oneB_size _ _
                have z1 : (oneB mm.l 1).size = 1 := oneB_size _ _
                have z2 : (oneB (if mm.r then 1 else 0) 1).size = 1 := oneB_size _ _
                have HMM := Lib.hid hmm
                have HMF := Lib.hid hmf
                clear hcs hbl hmm hmf
                go_upto_region 52 with fail
                refine wp_region_onto (by kernel_rfl) (by kernel_rfl) ?_
                repeat (go_big_quiet_step ((first | (go_at_call 23; first | exact onto_calls (rone_is mm.n _ HMF.out.1) | exact onto_calls (rone_is mm.l _ HMF.out.2)) | (go_at_call 25; exact onto_calls (rflag_is mm.r _)))))
                refine wpQuiet_nil ?_
                intro _ hw'
                obtain ⟨z, rfl⟩ := hw'
                have hBz := onto_below wr z
                obtain ⟨w4, hw4⟩ : ∃ w4, w4 = onto wr z := ⟨_, rfl⟩
                rw [← hw4] at hBz ⊢
                have HR1 : Hid (WL1 w f s t S1 (.int .i64 ((k : Int) + 1)) (.string (V ++ (oneB mm.n 1 ++ oneB mm.l 1 ++ oneB (if mm.r then 1 else 0) 1))) w4) := Lib.hid ⟨k + 1, _, hkl, rfl, rfl, by rw [take_flat pM f.ms hkl, ← HMM.out, mem_bL, HV.out, ba_assoc], by rw [happ, happ, happ, z0, z1, z2]; omega, X.out.on hBz, m_below_on BB.out hBz⟩
                clear hBz hw4 q0 q1 q2 q3 X BB HV y24
                go_wp2_with fail
                go_roundw
                case rel => exact HR1.out
                case measure => simp only [intOf]; omega
              · have hkl' : ¬ (k : Int) < (f.ms.length : Int) := by omega
                have hke : k = f.ms.length := by omega
                have HV2 : Hid (V = S1 ++ bL (f.ms.flatMap pM)) := Lib.hid (by rw [HV.out, hke, List.take_length])
                have hV9 : V.size ≤ 2700 := by omega
                have HST2 : Hid (WL2 w f s t V (.int .i64 0) (.string V) wr) := Lib.hid ⟨0, V, Nat.zero_le _, rfl, rfl, by rw [List.take_zero, List.map_nil, bL_nil, ba_nil], Nat.le_refl _, X.out, BB.out⟩
                clear X BB HV hke hVs hk1 hkl
                go_wp2_with fail
                go_loopw [8, 5] (fun i sv wx => WL2 w f s t V i sv wx) (fun i _ _ => 8 - (intOf i).toNat)
                case atStart => exact HST2.out
                case round =>
                  obtain ⟨l, U, hl1, rfl, rfl, hU, hUs, hX, hB⟩ := hrel
                  have X := Lib.hid hX
                  have BB := Lib.hid hB
                  have HU := Lib.hid hU
                  clear HST2 hX hB hU
                  by_cases hl8 : l < 8
                  · obtain ⟨n, hn, hc, hb⟩ := lv_at f.lv hl8 HF.out.2.2.2.2.2.2.2.2.2.2.2.2.2.1
                    have yl : wr.cell? ⟨w.heap.size, 25 + l, none⟩ = some (.int .u8 n) := by rw [X.out.cell, ← hc]; exact lv_cell f f.lv s t hl8
                    have H2 := Lib.hid (rone_is n wr hn)
                    have HBL := Lib.hid hb
                    have z0 : (oneB n 1).size = 1 := oneB_size _ _
                    clear hc hb
                    go_wp2_with fail
                    with_reducible refine H2.out.mono ?_
                    rintro e w4 ⟨rfl, hB⟩
                    have HR1 : Hid (WL2 w f s t V (.int .i64 ((l : Int) + 1)) (.string (U ++ oneB n 1)) w4) := Lib.hid ⟨l + 1, _, hl8, rfl, rfl, by rw [HBL.out, HU.out, ba_assoc], by rw [happ, z0]; omega, X.out.on hB, m_below_on BB.out hB⟩
                    clear hB H2 yl X BB HU HBL
                    go_wp2_with fail
                    go_roundw
                    case rel => exact HR1.out
                    case measure => simp only [intOf]; omega
                  · obtain rfl : l = 8 := by omega
                    have HREL : Hid (REncLoop w f s t (.int .i64 (wrap64 ((j : Int) + 1))) (.string U) wr) := Lib.hid (by
                      have hU8 : U = S ++ (oneB f.ve 4 ++ oneB f.ms.length 1 ++ bL (f.ms.flatMap pM) ++ bL ((lvL f.lv).map n1)) := by
                        rw [HU.out, HV2.out, HS1.out, show (lvL f.lv).take 8 = lvL f.lv from rfl]
                        simp only [ba_assoc]
                      rw [hU8]
                      exact renc_next H2J.out HC.out SS.out SZ.out FIT.out (decide_eq_true hn8) HTX.out (by rw [bL_2 (n4 f.ve) (n1 f.ms.length) (bL_n4 _) (bL_n1 _), ← bL_app, ← bL_app]; rfl) X.out BB.out)
                    clear X BB HU SS SZ FIT
                    go_wp2_with fail
                    go_roundw
                    case rel => exact HREL.out
                    case measure =>
                      have h9 := H2J.out
                      rw [HWJ.out]
                      simp only [intOf]
                      omega
          · have hn8' : (8 : Int) < (f.ms.length : Int) := by omega
            have HBAD : Hid (fitsF f (cv 119) = false) := Lib.hid (decide_eq_false hn8)
            clear X SS SZ FIT
            go_wp2_with fail
            refine bodyPost_ret (v := .tuple #[.string ⟨#[]⟩, .bool false]) (by simp [results, Tryd.results10, go_sem]) rfl ?_
            exact renc_bad H2J.out HC.out HBAD.out BB.out
        · as_aux_lemma =>
          go_upto_region 40 with fail
          have q0 := onto_cell (show wr.cell? ⟨w.heap.size, 15, none⟩ = some (.int .u32 f.bn) from X.out.cell 15)
          have q1 := onto_cell (show wr.cell? ⟨w.heap.size, 16, none⟩ = some (.int .u8 f.bb) from X.out.cell 16)
          have z0 : (oneB f.bn 4).size = 4 := oneB_size _ _
          have z1 : (oneB f.bb 1).size = 1 := oneB_size _ _
          refine wp_region_onto (by kernel_rfl) (by kernel_rfl) ?_
          repeat (go_big_quiet_step ((first | (go_at_call 24; first | exact onto_calls (rfour_is f.bn _ HF.out.2.2.2.2.2.2.2.2.2.1.1)) | (go_at_call 23; first | exact onto_calls (rone_is f.bb _ HF.out.2.2.2.2.2.2.2.2.2.1.2)))))
          refine wpQuiet_nil ?_
          intro _ hw'
          obtain ⟨z, rfl⟩ := hw'
          have hBz := onto_below wr z
          obtain ⟨w3, hw3⟩ : ∃ w3, w3 = onto wr z := ⟨_, rfl⟩
          rw [← hw3] at hBz ⊢
          have X3 := Lib.hid (X.out.on hBz)
          have B3 := Lib.hid (m_below_on BB.out hBz)
          have HREL : Hid (REncLoop w f s t (.int .i64 (wrap64 ((j : Int) + 1))) (.string (S ++ (oneB f.bn 4 ++ oneB f.bb 1))) w3) := Lib.hid (renc_next H2J.out HC.out SS.out SZ.out FIT.out (rfl) HTX.out (bL_2 (n4 f.bn) (n1 f.bb) (bL_n4 _) (bL_n1 _)) X3.out B3.out)
          clear hBz hw3 X3 B3 q0 q1
          clear X BB SS SZ FIT
          go_wp2_with fail
          go_roundw
          case rel => exact HREL.out
          case measure =>
            have h9 := H2J.out
            rw [HWJ.out]
            simp only [intOf]
            omega
        · as_aux_lemma =>
          have y0 : wr.cell? ⟨w.heap.size, 17, none⟩ = some (.int .u32 f.slot) := X.out.cell 17
          have H2 := Lib.hid (rfour_is f.slot wr HF.out.2.2.2.2.2.2.2.2.2.2.1)
          go_wp2_with fail
          with_reducible refine H2.out.mono ?_
          rintro e w3 ⟨rfl, hB⟩
          have X3 := Lib.hid (X.out.on hB)
          have B3 := Lib.hid (m_below_on BB.out hB)
          have zz : (oneB f.slot 4).size = 4 := oneB_size _ _
          have HREL : Hid (REncLoop w f s t (.int .i64 (wrap64 ((j : Int) + 1))) (.string (S ++ (oneB f.slot 4))) w3) := Lib.hid (renc_next H2J.out HC.out SS.out SZ.out FIT.out (rfl) HTX.out ((bL_n4 _).symm) X3.out B3.out)
          clear hB H2 y0 X3 B3
          clear X BB SS SZ FIT
          go_wp2_with fail
          go_roundw
          case rel => exact HREL.out
          case measure =>
            have h9 := H2J.out
            rw [HWJ.out]
            simp only [intOf]
            omega
        · as_aux_lemma =>
          have hnm : f.es.length ≤ 40 := HB.out.2
          have y33 : wr.cell? ⟨w.heap.size, 33, none⟩ = some (.slice a2 f.es.length c2) := by rw [X.out.cell 33, ← HSE.out.2]; rfl
          by_cases hn8 : f.es.length ≤ 16
          · have hn8' : ¬ (16 : Int) < (f.es.length : Int) := by omega
            have hu8 : IntKind.u8.wrap (f.es.length : Int) = (f.es.length : Int) := IntWalk.u8_in _ (by omega)
            have H2 := Lib.hid (rone_is f.es.length wr (by omega))
            have z1 : (oneB f.es.length 1).size = 1 := oneB_size _ _
            go_wp2_with fail
            with_reducible refine H2.out.mono ?_
            rintro e w3 ⟨rfl, hB⟩
            have X3 := Lib.hid (X.out.on hB)
            have B3 := Lib.hid (m_below_on BB.out hB)
            have hS1z : (S ++ oneB f.es.length 1).size ≤ 2600 := by rw [happ, z1]; omega
            clear hB H2 y33 X BB
            go_upto_region 12 with fail
            obtain ⟨S1, hS1⟩ : ∃ S1, S1 = S ++ oneB f.es.length 1 := ⟨_, rfl⟩
            have HS1 := Lib.hid hS1
            rw [← hS1] at hS1z ⊢
            have HST1 : Hid (WL3 w f s t S1 (.int .i64 0) (.string S1) w3) := Lib.hid ⟨0, S1, Nat.zero_le _, rfl, rfl, by rw [List.take_zero, List.flatMap_nil, bL_nil, ba_nil], Nat.le_refl _, X3.out, B3.out⟩
            clear X3 B3 hS1 z1
            go_wp2_with fail
            go_loopw [9, 5] (fun i sv wx => WL3 w f s t S1 i sv wx) (fun i _ _ => f.es.length - (intOf i).toNat)
            case atStart => exact HST1.out
            case round =>
              obtain ⟨k, V, hk1, rfl, rfl, hV, hVs, hX, hB⟩ := hrel
              have X := Lib.hid hX
              have BB := Lib.hid hB
              have HV := Lib.hid hV
              have y33 : wr.cell? ⟨w.heap.size, 33, none⟩ = some (.slice a2 f.es.length c2) := by rw [X.out.cell 33, ← HSE.out.2]; rfl
              clear HST1 hX hB hV
              by_cases hkl : k < f.es.length
              · obtain ⟨b, off, cap, hsl, hbl, hcs⟩ := HE.out.form (by omega)
                simp only [Value.slice.injEq] at hsl
                obtain ⟨rfl, hd1, hd2⟩ := hsl
                clear hd1 hd2
                obtain ⟨yy, hyy⟩ : ∃ yy, yy = f.es[k] := ⟨_, rfl⟩
                have hyf : yy.fine := by rw [hyy]; exact HF.out.2.2.2.2.2.2.2.2.2.2.2.2.2.2.2 _ (List.getElem_mem hkl)
                have q0 := (BB.out.cell (p := ⟨b, off + k * 8, none⟩) hbl).trans (show w.cell? ⟨b, off + k * 8, none⟩ = some (.int .u32 yy.s) by rw [hyy]; exact hcs k hkl 0 _ rfl)
                have q1 := (BB.out.cell (p := ⟨b, off + k * 8 + 1, none⟩) hbl).trans (show w.cell? ⟨b, off + k * 8 + 1, none⟩ = some (.int .u32 yy.n) by rw [hyy, Nat.add_assoc]; exact hcs k hkl 1 _ rfl)
                have q2 := (BB.out.cell (p := ⟨b, off + k * 8 + 2, none⟩) hbl).trans (show w.cell? ⟨b, off + k * 8 + 2, none⟩ = some (.int .u8 yy.b) by rw [hyy, Nat.add_assoc]; exact hcs k hkl 2 _ rfl)
                have q3 := (BB.out.cell (p := ⟨b, off + k * 8 + 3, none⟩) hbl).trans (show w.cell? ⟨b, off + k * 8 + 3, none⟩ = some (.int .u8 yy.c.k) by rw [hyy, Nat.add_assoc]; exact hcs k hkl 3 _ rfl)
                have q4 := (BB.out.cell (p := ⟨b, off + k * 8 + 4, none⟩) hbl).trans (show w.cell? ⟨b, off + k * 8 + 4, none⟩ = some (.int .u8 yy.c.n) by rw [hyy, Nat.add_assoc]; exact hcs k hkl 4 _ rfl)
                have q5 := (BB.out.cell (p := ⟨b, off + k * 8 + 5, none⟩) hbl).trans (show w.cell? ⟨b, off + k * 8 + 5, none⟩ = some (.int .u8 yy.c.l) by rw [hyy, Nat.add_assoc]; exact hcs k hkl 5 _ rfl)
                have q6 := (BB.out.cell (p := ⟨b, off + k * 8 + 6, none⟩) hbl).trans (show w.cell? ⟨b, off + k * 8 + 6, none⟩ = some (.int .u32 yy.c.e) by rw [hyy, Nat.add_assoc]; exact hcs k hkl 6 _ rfl)
                have q7 := (BB.out.cell (p := ⟨b, off + k * 8 + 7, none⟩) hbl).trans (show w.cell? ⟨b, off + k * 8 + 7, none⟩ = some (.int .u32 yy.c.r) by rw [hyy, Nat.add_assoc]; exact hcs k hkl 7 _ rfl)
                have HYY := Lib.hid hyy
                have HYF := Lib.hid hyf
                have lb := Nat.lt_of_lt_of_le hbl BB.out.size
                clear hcs hbl hyy hyf
                go_upto_region 16 with fail
                obtain ⟨w4, hw4⟩ : ∃ w4, w4 = wr.alloc (.cells (entA yy) 83) := ⟨_, rfl⟩
                have hY : Blk w4 wr.heap.size (entA yy) 83 := by rw [hw4]; exact Blk.new rfl
                have hB4 : Below wr.heap.size wr w4 := by rw [hw4]; go_grown
                rw [← hw4]
                obtain ⟨Y, hYe⟩ : ∃ Y, Y = wr.heap.size := ⟨_, rfl⟩
                rw [← hYe] at hY
                simp only [← hYe]
                have X4 := Lib.hid (X.out.on hB4)
                have B4 := Lib.hid (m_below_on BB.out hB4)
                clear hw4 hB4 q0 q1 q2 q3 q4 q5 q6 q7 lb hYe X BB y33
                have q0 := onto_cell (show w4.cell? ⟨Y, 0, none⟩ = some (.int .u32 yy.s) from hY.cell 0)
                have q1 := onto_cell (show w4.cell? ⟨Y, 1, none⟩ = some (.int .u32 yy.n) from hY.cell 1)
                have q2 := onto_cell (show w4.cell? ⟨Y, 2, none⟩ = some (.int .u8 yy.b) from hY.cell 2)
                have q3 := onto_cell (show w4.cell? ⟨Y, 3, none⟩ = some (.int .u8 yy.c.k) from hY.cell 3)
                have q4 := onto_cell (show w4.cell? ⟨Y, 4, none⟩ = some (.int .u8 yy.c.n) from hY.cell 4)
                have q5 := onto_cell (show w4.cell? ⟨Y, 5, none⟩ = some (.int .u8 yy.c.l) from hY.cell 5)
                have q6 := onto_cell (show w4.cell? ⟨Y, 6, none⟩ = some (.int .u32 yy.c.e) from hY.cell 6)
                have q7 := onto_cell (show w4.cell? ⟨Y, 7, none⟩ = some (.int .u32 yy.c.r) from hY.cell 7)
                have z0 : (oneB yy.s 4).size = 4 := oneB_size _ _
                have z1 : (oneB yy.n 4).size = 4 := oneB_size _ _
                have z2 : (oneB yy.b 1).size = 1 := oneB_size _ _
                have z3 : (cmdS yy.c).size = 11 := cmdS_size _
                refine wp_region_onto (by kernel_rfl) (by kernel_rfl) ?_
                repeat (go_big_quiet_step ((first | (go_at_call 24; first | exact onto_calls (rfour_is yy.s _ HYF.out.1) | exact onto_calls (rfour_is yy.n _ HYF.out.2.1)) | (go_at_call 23; exact onto_calls (rone_is yy.b _ HYF.out.2.2.1)) | (go_at_call 26; exact onto_calls (rcommand_is yy.c _ HYF.out.2.2.2)))))
                refine wpQuiet_nil ?_
                intro _ hw'
                obtain ⟨z, rfl⟩ := hw'
                have hBz := onto_below w4 z
                obtain ⟨w5, hw5⟩ : ∃ w5, w5 = onto w4 z := ⟨_, rfl⟩
                rw [← hw5] at hBz ⊢
                have HR1 : Hid (WL3 w f s t S1 (.int .i64 ((k : Int) + 1)) (.string (V ++ (oneB yy.s 4 ++ oneB yy.n 4 ++ oneB yy.b 1 ++ cmdS yy.c))) w5) := Lib.hid ⟨k + 1, _, hkl, rfl, rfl, by rw [take_flat pE f.es hkl, ← HYY.out, ent_bL, HV.out, ba_assoc], by rw [happ, happ, happ, happ, z0, z1, z2, z3]; omega, X4.out.on hBz, m_below_on B4.out hBz⟩
                clear hBz hw5 q0 q1 q2 q3 q4 q5 q6 q7 X4 B4 HV hY
                go_wp2_with fail
                go_roundw
                case rel => exact HR1.out
                case measure => simp only [intOf]; omega
              · have hkl' : ¬ (k : Int) < (f.es.length : Int) := by omega
                have hke : k = f.es.length := by omega
                have HREL : Hid (REncLoop w f s t (.int .i64 (wrap64 ((j : Int) + 1))) (.string V) wr) := Lib.hid (by
                  have hU8 : V = S ++ (oneB f.es.length 1 ++ bL (f.es.flatMap pE)) := by
                    rw [HV.out, hke, List.take_length, HS1.out, ba_assoc]
                  rw [hU8]
                  exact renc_next H2J.out HC.out SS.out SZ.out FIT.out (decide_eq_true hn8) HTX.out (by rw [← bL_n1, ← bL_app]; rfl) X.out BB.out)
                clear X BB HV SS SZ FIT
                go_wp2_with fail
                go_roundw
                case rel => exact HREL.out
                case measure =>
                  have h9 := H2J.out
                  rw [HWJ.out]
                  simp only [intOf]
                  omega
          · have hn8' : (16 : Int) < (f.es.length : Int) := by omega
            have HBAD : Hid (fitsF f (cv 116) = false) := Lib.hid (decide_eq_false hn8)
            clear X SS SZ FIT
            go_wp2_with fail
            refine bodyPost_ret (v := .tuple #[.string ⟨#[]⟩, .bool false]) (by simp [results, Tryd.results10, go_sem]) rfl ?_
            exact renc_bad H2J.out HC.out HBAD.out BB.out
        · as_aux_lemma =>
          have y18 : wr.cell? ⟨w.heap.size, 18, none⟩ = some (.int .u8 f.cmd.k) := X.out.cell 18
          have y19 : wr.cell? ⟨w.heap.size, 19, none⟩ = some (.int .u8 f.cmd.n) := X.out.cell 19
          have y20 : wr.cell? ⟨w.heap.size, 20, none⟩ = some (.int .u8 f.cmd.l) := X.out.cell 20
          have y21 : wr.cell? ⟨w.heap.size, 21, none⟩ = some (.int .u32 f.cmd.e) := X.out.cell 21
          have y22 : wr.cell? ⟨w.heap.size, 22, none⟩ = some (.int .u32 f.cmd.r) := X.out.cell 22
          have H2 := Lib.hid (rcommand_any f.cmd wr HF.out.2.2.2.2.2.2.2.2.2.2.2.1)
          go_wp2_with fail
          with_reducible refine H2.out.mono ?_
          rintro e w3 ⟨rfl, hB⟩
          have X3 := Lib.hid (X.out.on hB)
          have B3 := Lib.hid (m_below_on BB.out hB)
          have zz : (cmdS f.cmd).size = 11 := cmdS_size _
          have HREL : Hid (REncLoop w f s t (.int .i64 (wrap64 ((j : Int) + 1))) (.string (S ++ (cmdS f.cmd))) w3) := Lib.hid (renc_next H2J.out HC.out SS.out SZ.out FIT.out (rfl) HTX.out (cmdS_bL f.cmd) X3.out B3.out)
          clear hB H2 y18 y19 y20 y21 y22 X3 B3
          clear X BB SS SZ FIT
          go_wp2_with fail
          go_roundw
          case rel => exact HREL.out
          case measure =>
            have h9 := H2J.out
            rw [HWJ.out]
            simp only [intOf]
            omega
      · have h2 : j = (rfK f.kind).length := by have := HSZ.out; omega
        have h1' : ¬ (j : Int) < ((rfS f.kind).size : Int) := by omega
        have hS9 : S.size ≤ 900000 := by have := SZ.out; have := (rfK_all f.kind).2.2.2.1; omega
        have H2 := Lib.hid (refSeal_any S wr hS9)
        go_wp2_with fail
        with_reducible refine H2.out.mono ?_
        rintro e w3 ⟨rfl, hB⟩
        have B3 := Lib.hid (m_below_on BB.out hB)
        clear hB H2 X BB
        go_wp2_with fail
        refine bodyPost_ret (v := .tuple #[.string (S ++ sealB S), .bool true]) (by simp [results, Tryd.results10, go_sem]) rfl ?_
        exact renc_end h2 hkn HF.out SS.out FIT.out B3.out
  · simp only [Bool.not_eq_true] at hkn
    have hne := rfS_known2 f.kind
    rw [hkn] at hne
    simp only [Bool.not_eq_false'] at hne
    go_wp2_with fail
    refine bodyPost_ret (v := .tuple #[.string ⟨#[]⟩, .bool false]) (by simp [results, Tryd.results10, go_sem]) rfl ?_
    exact renc_none hkn B1.out
end Go.Proofs.YtodajejjhfpdmaaDoor
