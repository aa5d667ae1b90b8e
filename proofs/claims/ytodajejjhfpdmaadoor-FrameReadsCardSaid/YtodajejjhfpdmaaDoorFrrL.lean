/-
  FrameReads: the walk.
-/
import Derived.Test.YtodajejjhfpdmaaDoorFrrA
import Derived.Test.YtodajejjhfpdmaaDoorFrlB
import Derived.Test.YtodajejjhfpdmaaDoorFrlE
import Derived.Test.YtodajejjhfpdmaaDoorFrrK
namespace Go.Proofs.YtodajejjhfpdmaaDoor
open Go.RowKit Go.Instr

def LenOk (f : Fr) : Prop := f.ms.length ≤ 8 ∧ f.es.length ≤ 16
theorem dField_len (c : Nat) (f : Fr) (s : Sd) (h : LenOk f) : LenOk (dField c f s).1 := by
  unfold dField
  by_cases h69 : c = 69
  · rw [if_pos h69]
    exact h
  rw [if_neg h69]
  by_cases h75 : c = 75
  · rw [if_pos h75]
    exact h
  rw [if_neg h75]
  by_cases h84 : c = 84
  · rw [if_pos h84]
    exact h
  rw [if_neg h84]
  by_cases h86 : c = 86
  · rw [if_pos h86]
    exact h
  rw [if_neg h86]
  by_cases h77 : c = 77
  · rw [if_pos h77]
    exact h
  rw [if_neg h77]
  by_cases h68 : c = 68
  · rw [if_pos h68]
    exact h
  rw [if_neg h68]
  by_cases h70 : c = 70
  · rw [if_pos h70]
    exact h
  rw [if_neg h70]
  by_cases h76 : c = 76
  · rw [if_pos h76]
    exact h
  rw [if_neg h76]
  by_cases h82 : c = 82
  · rw [if_pos h82]
    exact h
  rw [if_neg h82]
  by_cases h87 : c = 87
  · rw [if_pos h87]
    exact ⟨dView_len s, h.2⟩
  rw [if_neg h87]
  by_cases h66 : c = 66
  · rw [if_pos h66]
    exact h
  rw [if_neg h66]
  by_cases h83 : c = 83
  · rw [if_pos h83]
    exact h
  rw [if_neg h83]
  by_cases h78 : c = 78
  · rw [if_pos h78]
    exact ⟨h.1, dEntries_len s⟩
  rw [if_neg h78]
  by_cases h67 : c = 67
  · rw [if_pos h67]
    exact h
  rw [if_neg h67]
  exact h
theorem dFlds_len (l : List Nat) : ∀ (f : Fr) (s : Sd), LenOk f → LenOk (dFlds l f s).1 := by
  induction l with
  | nil => intro f s h; exact h
  | cons c l ih =>
    intro f s h
    have h1 := dField_len c f s h
    show LenOk (if (dField c f s).2.wr = true then dField c f s else dFlds l (dField c f s).1 (dField c f s).2).1
    split
    · exact h1
    · exact ih _ _ h1
theorem decF_len (s : ByteArray) : LenOk (decF s).1 := by
  have h0 : LenOk fr0 := ⟨by decide, by decide⟩
  unfold decF
  split
  · unfold decT
    split
    · exact h0
    · split
      · exact h0
      · split
        · exact h0
        · split
          · exact dFlds_len _ _ _ h0
          · exact h0
  · exact h0
theorem toldF_same {f : Fr} (h : LenOk f) : toldF f = f := by
  unfold toldF
  obtain ⟨h1, h2⟩ := h
  rw [List.take_of_length_le (by omega), List.take_of_length_le (by omega)]
theorem cut_150 (t : ByteArray) : (t.extract 0 (if (150 : Int) < (t.size : Int) then (150 : Int) else (t.size : Int)).toNat).size ≤ 150 := by
  rw [ByteArray.size_extract]
  split <;> omega
def TextCut (w : World) (m : Nat) (u : Value) (wx : World) : Prop := ∃ U : ByteArray, u = .string U ∧ U.size ≤ m ∧ Below w.heap.size w wx
set_option maxHeartbeats 4000000 in
set_option maxRecDepth 20000 in
theorem reads_any (s : ByteArray) (b : Bool) (q : Nat) (w : World) (henv : FEnv w) (hq : q < 256) (hsz : s.size ≤ maxLen) :
    Calls Tryd.prog 4 #[.string s, .bool b, .int .u8 q] w (retB true w) := by
  have HENV := Lib.hid henv
  have H1 := Lib.hid (speaks_any w henv)
  unfold maxLen at hsz
  clear henv
  go_enter Tryd.func4, Tryd.ntmps4
  go_wp2_with fail
  with_reducible refine H1.out.mono ?_
  rintro e w2 ⟨rfl, hB2⟩
  have HB2 := Lib.hid hB2
  clear H1 hB2
  go_upto_region 4 with fail
  obtain ⟨T, hT⟩ : ∃ T, T = s.extract 0 (if (150 : Int) < (s.size : Int) then (150 : Int) else (s.size : Int)).toNat := ⟨_, rfl⟩
  have hTs : T.size ≤ 150 := by rw [hT]; exact cut_150 _
  rw [← hT]
  generalize (if (150 : Int) < (s.size : Int) then (150 : Int) else (s.size : Int)) = N150
  clear hT
  have HQ := Lib.hid hq
  clear hq hsz
  go_upto_if 20 with fail
  obtain ⟨d, hd⟩ : ∃ d, d = decide (0 < T.size) := ⟨_, rfl⟩
  rw [← hd]
  have HD := Lib.hid hd
  clear hd
  go_cut [0] from 200 (fun u wx => TextCut w 150 u wx)
  case first =>
    rename_i JJ KK hJJ hKK
    have HJ := Lib.hid hJJ
    clear hJJ
    cases d with
    | true =>
      have h0 : 0 < T.size := of_decide_eq_true HD.out.symm
      have hcv : ∀ y : Int, (convert 67 9 (.slice (some ⟨w2.heap.size, 0, none⟩) 1 1)).run Tryd.prog ((w2.alloc (.cells #[.int .u8 y] 5)).drew) = .ok (.string (strOfNums [y])) ((w2.alloc (.cells #[.int .u8 y] 5)).drew) := fun y => one_conv w2.drew w2.heap.size y 5 rfl
      have happ : ∀ a b : ByteArray, (a ++ b).size = a.size + b.size := fun a b => ByteArray.size_append
      have hsn : ∀ y : Int, (strOfNums [y]).size = 1 := fun y => strOfNums_size [y]
      go_upto_region 5 with fail
      go_region
      go_upto_region 6 with fail
      obtain ⟨A, hA⟩ : ∃ A, A = strOfNums [((T[0]'h0).toNat : Int) % 18] ++ T.extract 1 T.size := ⟨_, rfl⟩
      have hAs : A.size = T.size := by rw [hA, happ, hsn, ByteArray.size_extract]; omega
      rw [← hA]
      generalize strOfNums [((T[0]'h0).toNat : Int) % 18] = A1
      have HB5 : Hid (Below w.heap.size w ((w2.alloc (.cells #[.int .u8 (((T[0]'h0).toNat : Int) % 18)] 5)).drew)) := Lib.hid ((HB2.out.alloc HB2.out.size _).drew)
      have hApos : 0 < A.size := by omega
      have hA150 : A.size ≤ 150 := by omega
      have hA0 : ¬ ((A.size : Int) = 0) := by omega
      obtain ⟨r, hr⟩ : ∃ r, (q : Int).tmod (A.size : Int) = r := ⟨_, rfl⟩
      have hr1 : 0 ≤ r := by rw [← hr]; exact Int.tmod_nonneg _ (by omega)
      have hr2 : r < A.size := by rw [← hr]; exact Int.tmod_lt_of_pos _ (by omega)
      have hw1 : wrap64 ((A.size : Int) - r) = (A.size : Int) - r := IntWalk.wrap64_in _ (by omega)
      have hwq : wrap64 (q : Int) = (q : Int) := IntWalk.wrap64_in _ (by have := HQ.out; omega)
      clear hA hcv happ hsn hAs
      go_wp2_with fail
      refine Met.intro (HJ.out _ _ ?_)
      repeat apply Exists.intro
      refine ⟨?_, rfl⟩
      exact ⟨_, rfl, by rw [ByteArray.size_extract]; omega, HB5.out⟩
    | false =>
      go_wp2_with fail
      refine Met.intro (HJ.out _ _ ?_)
      repeat apply Exists.intro
      refine ⟨?_, rfl⟩
      exact ⟨T, rfl, hTs, HB2.out⟩
  case rest =>
    obtain ⟨U, rfl, hU, hBU⟩ := hcut
    have HBU := Lib.hid hBU
    have HU := Lib.hid hU
    clear HB2 hBU hTs
    go_upto_if 39 with fail
    go_cut [0] from 200 (fun u wx => TextCut w 154 u wx)
    case first =>
      rename_i JJ KK hJJ hKK
      have HJ := Lib.hid hJJ
      clear hJJ
      cases b
      · go_wp2_with fail
        refine Met.intro (HJ.out _ _ ?_)
        repeat apply Exists.intro
        refine ⟨?_, rfl⟩
        exact ⟨U, rfl, by omega, HBU.out⟩
      · have H2 := Lib.hid (Seal_any U wc (by omega))
        go_wp2_with fail
        with_reducible refine H2.out.mono ?_
        rintro e w3 ⟨rfl, hB⟩
        have HB3 := Lib.hid (m_below_on HBU.out hB)
        clear hB H2
        go_wp2_with fail
        refine Met.intro (HJ.out _ _ ?_)
        repeat apply Exists.intro
        refine ⟨?_, rfl⟩
        exact ⟨_, rfl, by rw [ByteArray.size_append, sealB_size]; omega, HB3.out⟩
    case rest =>
      obtain ⟨V, rfl, hV, hBV⟩ := hcut
      have HBV := Lib.hid hBV
      have HV := Lib.hid hV
      have HP := Lib.hid (decF_rDec V (by omega))
      have HLN := Lib.hid (decF_len V)
      have HFN := Lib.hid (HENV.out.on HBV.out HENV.out.pos)
      have H4 := Lib.hid (Decode_any V wc (by omega) HFN.out)
      clear HU HBU hBV hU
      go_wp2_with fail
      with_reducible refine H4.out.mono ?_
      rintro e w4 ⟨s1, t1, rfl, hB4, m1, e1⟩
      obtain ⟨⟨F, k⟩, hFk⟩ : ∃ p, p = decF V := ⟨_, rfl⟩
      rw [← hFk] at m1 e1 HP HLN ⊢
      simp only at m1 e1
      obtain ⟨g1, d1, rfl⟩ := m1.len
      obtain ⟨g2, d2, rfl⟩ := e1.len
      have HB4 := Lib.hid (m_below_on HBV.out hB4)
      have NF := Lib.hid (Blk.new (w := w4) (B := w4.heap.size) (T := 47) (cs := z34) rfl)
      have O1 := Lib.hid (frC_one F g1 g2 F.ms.length F.es.length d1 d2)
      have M1 := Lib.hid m1
      have E1 := Lib.hid e1
      clear H4 hB4 HBV m1 e1 hFk
      go_upto_region 10 with (first | (refine wpList_store_row rfl 47 (.tmp 7) (.tmp 45) rfl w4.heap.size (frC F (.slice g1 F.ms.length d1) (.slice g2 F.es.length d2)) rfl rfl 47 z34 (blk_raw NF.out) (by kernel_rfl) rfl O1.out ?_))
      obtain ⟨w5, hw5⟩ : ∃ vq, vq = (w4.alloc (.cells z34 47)).setRow w4.heap.size (frC F (.slice g1 F.ms.length d1) (.slice g2 F.es.length d2)) := ⟨_, rfl⟩
      have hB5 : Below w4.heap.size w4 w5 := by rw [hw5]; exact below_sr (by go_grown) (Nat.le_refl _) _
      have HF5 := Lib.hid (show Blk w5 w4.heap.size (frC F (.slice g1 F.ms.length d1) (.slice g2 F.es.length d2)) 47 by rw [hw5]; exact setRow_blk _ NF.out)
      have HB5 := Lib.hid (m_below_on HB4.out hB5)
      have M5 := Lib.hid (M1.out.on hB5)
      have E5 := Lib.hid (E1.out.on hB5)
      rw [← hw5]
      have H6 := Lib.hid (rdecode_any V w5 (by omega))
      rw [← HP.out] at H6
      clear hw5 hB5 NF M1 E1 HB4
      go_wp2_with fail
      with_reducible refine H6.out.mono ?_
      rintro e w6 ⟨s2, t2, rfl, hB6, m2, e2⟩
      simp only at m2 e2 ⊢
      obtain ⟨g3, d3, rfl⟩ := m2.len
      obtain ⟨g4, d4, rfl⟩ := e2.len
      have HB6 := Lib.hid (m_below_on HB5.out hB6)
      have NR := Lib.hid (Blk.new (w := w6) (B := w6.heap.size) (T := 52) (cs := z34) rfl)
      have O2 := Lib.hid (frC_one F g3 g4 F.ms.length F.es.length d3 d4)
      have HF6 := Lib.hid (HF5.out.on hB6)
      have M6 := Lib.hid (M5.out.on hB6)
      have E6 := Lib.hid (E5.out.on hB6)
      have M2 := Lib.hid m2
      have E2 := Lib.hid e2
      clear H6 hB6 m2 e2 M5 E5 HF5 HB5
      go_upto_region 11 with (first | (refine wpList_store_row rfl 52 (.tmp 9) (.tmp 50) rfl w6.heap.size (frC F (.slice g3 F.ms.length d3) (.slice g4 F.es.length d4)) rfl rfl 52 z34 (blk_raw NR.out) (by kernel_rfl) rfl O2.out ?_))
      obtain ⟨w7, hw7⟩ : ∃ vq, vq = (w6.alloc (.cells z34 52)).setRow w6.heap.size (frC F (.slice g3 F.ms.length d3) (.slice g4 F.es.length d4)) := ⟨_, rfl⟩
      have hB7 : Below w6.heap.size w6 w7 := by rw [hw7]; exact below_sr (by go_grown) (Nat.le_refl _) _
      have HR7 := Lib.hid (show Blk w7 w6.heap.size (frC F (.slice g3 F.ms.length d3) (.slice g4 F.es.length d4)) 52 by rw [hw7]; exact setRow_blk _ NR.out)
      have HF7 := Lib.hid (HF6.out.on hB7)
      have HB7 := Lib.hid (m_below_on HB6.out hB7)
      have M7 := Lib.hid (M6.out.on hB7)
      have E7 := Lib.hid (E6.out.on hB7)
      have N7 := Lib.hid (M2.out.on hB7)
      have P7 := Lib.hid (E2.out.on hB7)
      rw [← hw7]
      clear hw7 hB7 NR M6 E6 M2 E2 HB6 HF6
      obtain ⟨A, hA⟩ : ∃ A, A = w4.heap.size := ⟨_, rfl⟩
      obtain ⟨B, hB⟩ : ∃ B, B = w6.heap.size := ⟨_, rfl⟩
      simp only [← hA, ← hB] at HR7 HF7 ⊢
      clear hA hB
      have lA := HF7.out.lt
      have lB := HR7.out.lt
      have RA := Lib.hid (blk_raw HF7.out)
      have RB := Lib.hid (blk_raw HR7.out)
      have HC1 : Hid (∀ w', Below w7.heap.size w7 w' → Calls Tryd.prog 14 #[.agg (frC F (.slice g3 F.ms.length d3) (.slice g4 F.es.length d4))] w' (MadeP F w')) := Lib.hid (fun w' h => by
        have hm := made_any F g3 g4 F.ms.length F.es.length d3 d4 w' rfl rfl (fun _ => N7.out.on h) (fun _ => P7.out.on h) (by have := HLN.out.1; omega) (by have := HLN.out.2; omega)
        rw [toldF_same HLN.out] at hm
        exact hm)
      have HC2 : Hid (∀ (s' t' : Value) (w' w'' : World), Below w7.heap.size w7 w' → memR.At w' s' F.ms → entR.At w' t' F.es → Calls Tryd.prog 13 #[.agg (frC F (.slice g1 F.ms.length d1) (.slice g2 F.es.length d2)), .agg (frC F s' t')] w' (retB true w')) := Lib.hid (fun s' t' w' _ h hs ht => fSame_same F _ _ s' t' w' (by have := HLN.out.1; omega) (by have := HLN.out.2; omega) (M7.out.on h) hs (E7.out.on h) ht)
      have hS0 : Below w7.heap.size w7 w7.drew := by go_grown
      refine WalkS.begin (fun w' => Below w7.heap.size w7 w') [] (by kernel_rfl) hS0 ?_
      simp only [List.size_toArray, List.length_cons, List.length_nil, Nat.zero_add, Nat.reduceAdd, show Array.replicate 10 false = #[false, false, false, false, false, false, false, false, false, false] from rfl]
      refine' WalkS.take0 0 _ (v := _) rfl (by kernel_rfl) (by kernel_rfl) (by kernel_rfl) (by kernel_rfl) (fun _ _ _ h => h) (Or.inl ⟨by rfl, ?hy1⟩) ?rest1
      case hy1 => (intro w9; go_simp <;> with_reducible rfl)
      simp only [Act.put, List.setIfInBounds_toArray, List.set_cons_zero, List.set_cons_succ]
      refine' WalkS.take0 1 _ (v := _) rfl (by kernel_rfl) (by kernel_rfl) (by kernel_rfl) (by kernel_rfl) (fun _ _ _ h => h) (Or.inl ⟨by rfl, ?hy2⟩) ?rest2
      case hy2 => (intro w9; go_simp <;> with_reducible rfl)
      simp only [Act.put, List.setIfInBounds_toArray, List.set_cons_zero, List.set_cons_succ]
      refine' WalkS.take0 2 _ (v := .bool true) rfl (by kernel_rfl) (by kernel_rfl) (by kernel_rfl) (by kernel_rfl) (fun _ _ _ h => h) (Or.inl ⟨by rfl, ?hy3⟩) ?rest3
      case hy3 => (intro w9; go_simp)
      simp only [Act.put, List.setIfInBounds_toArray, List.set_cons_zero, List.set_cons_succ]
      refine' WalkS.take0 3 _ (v := _) rfl (by kernel_rfl) (by kernel_rfl) (by kernel_rfl) (by kernel_rfl) (fun _ _ _ h => h) (Or.inl ⟨by rfl, ?hy4⟩) ?rest4
      case hy4 => (intro w9; go_simp <;> with_reducible rfl)
      simp only [Act.put, List.setIfInBounds_toArray, List.set_cons_zero, List.set_cons_succ]
      refine WalkS.take 4 _ (v := .agg (frC F (.slice g1 F.ms.length d1) (.slice g2 F.es.length d2))) rfl (by kernel_rfl) (by kernel_rfl) (by kernel_rfl) (by kernel_rfl) (by kernel_rfl) (fun _ _ _ h => h) (Or.inl ⟨by rfl, fun w9 h9 => loadRow_r 47 (.tmp 7) rfl A rfl 47 (frC F (.slice g1 F.ms.length d1) (.slice g2 F.es.length d2)) (0, 0) _ ((h9.block A lA).trans RA.out) Tryd.underlying47 rfl (by kernel_rfl)⟩) ?_
      simp only [Act.put, List.setIfInBounds_toArray, List.set_cons_zero, List.set_cons_succ]
      refine WalkS.take 5 _ (v := .agg (frC F (.slice g3 F.ms.length d3) (.slice g4 F.es.length d4))) rfl (by kernel_rfl) (by kernel_rfl) (by kernel_rfl) (by kernel_rfl) (by kernel_rfl) (fun _ _ _ h => h) (Or.inl ⟨by rfl, fun w9 h9 => loadRow_r 52 (.tmp 9) rfl B rfl 52 (frC F (.slice g3 F.ms.length d3) (.slice g4 F.es.length d4)) (0, 0) _ ((h9.block B lB).trans RB.out) Tryd.underlying52 rfl (by kernel_rfl)⟩) ?_
      simp only [Act.put, List.setIfInBounds_toArray, List.set_cons_zero, List.set_cons_succ]
      refine WalkS.each [6] (by kernel_rfl) rfl ?_
      refine EachS.cons 6 _ rfl (fun K hK => ?s1) EachS.nil
      go_simp
      refine (HC1.out _ hS0).mono ?_
      rintro e w8 ⟨s5, t5, rfl, hB8, m8, e8⟩
      have hS1 := m_below_on hS0 hB8
      refine hK.out _ _ (fun _ => hS1) ?_
      clear hK K hB8
      simp only [List.setIfInBounds_toArray, List.set_cons_zero, List.set_cons_succ]
      refine WalkS.each [7] (by kernel_rfl) rfl ?_
      refine EachS.cons 7 _ rfl (fun K hK => ?s2) EachS.nil
      go_simp
      refine (HC2.out s5 t5 _ w8 hS1 m8 e8).mono ?_
      rintro e w9 ⟨rfl, hB9⟩
      have hS2 := m_below_on hS1 hB9
      refine hK.out _ _ (fun _ => hS2) ?_
      clear hK K hB9
      simp only [List.setIfInBounds_toArray, List.set_cons_zero, List.set_cons_succ]
      refine' WalkS.take0 8 _ (v := _) rfl (by kernel_rfl) (by kernel_rfl) (by kernel_rfl) (by kernel_rfl) (fun _ _ _ h => h) (Or.inl ⟨by rfl, ?hy7⟩) ?rest7
      case hy7 => (intro w9; go_simp <;> with_reducible rfl)
      simp only [Act.put, List.setIfInBounds_toArray, List.set_cons_zero, List.set_cons_succ]
      refine' WalkS.take0 9 _ (v := _) rfl (by kernel_rfl) (by kernel_rfl) (by kernel_rfl) (by kernel_rfl) (fun _ _ _ h => h) (Or.inl ⟨by rfl, ?hy8⟩) ?rest8
      case hy8 => (intro w9; go_simp <;> with_reducible rfl)
      simp only [Act.put, List.setIfInBounds_toArray, List.set_cons_zero, List.set_cons_succ]
      refine WalkS.done (by kernel_rfl) ?_
      go_wp2_with fail
      go_ret
      exact ⟨rfl, m_below_on HB7.out hS2⟩
end Go.Proofs.YtodajejjhfpdmaaDoor
