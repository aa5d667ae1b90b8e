/-
  FrameSpoilt: the walk.
-/
import Derived.Test.YtodajejjhfpdmaaDoorFrlS
import Derived.Test.YtodajejjhfpdmaaDoorFrlB
import Derived.Test.YtodajejjhfpdmaaDoorFrlE
import Derived.Test.YtodajejjhfpdmaaDoorCrcO
import Derived.Test.YtodajejjhfpdmaaDoorFrlA
namespace Go.Proofs.YtodajejjhfpdmaaDoor
open Go.RowKit Go.Instr

theorem told_fine {x : Fr} (h : x.fine) : (toldF x).fine := by
  obtain ⟨h1, h2, h3, h4, h5, h6, h7, h8, h9, h10, h11, h12, h13, h14, h15, h16⟩ := h
  exact ⟨h1, h2, h3, h4, h5, h6, h7, h8, h9, h10, h11, h12, h13, h14, fun m hm => h15 m (List.mem_of_mem_take hm), fun m hm => h16 m (List.mem_of_mem_take hm)⟩
theorem text_fine {x : Fr} (h : x.fine) (t : ByteArray) : ({ x with text := t } : Fr).fine := h
theorem cut_text (t : ByteArray) : (t.extract 0 (if (40 : Int) < (t.size : Int) then (40 : Int) else (t.size : Int)).toNat).size ≤ 40 := by
  rw [ByteArray.size_extract]
  split <;> omega
set_option maxHeartbeats 4000000 in
set_option maxRecDepth 20000 in
theorem spoilt_any (x : Fr) (a1 a2 : Option Addr) (n1 n2 c1 c2 : Nat) (z : Int) (q : Nat) (w : World) (henv : FEnv w) (hf : x.fine) (hsz : x.text.size ≤ maxLen) (hz1 : -9223372036854775808 ≤ z) (hz2 : z ≤ 9223372036854775807) (hq : q < 4294967296)
    (hn1 : n1 = x.ms.length) (hn2 : n2 = x.es.length) (hm : 0 < n1 → memR.At w (.slice a1 n1 c1) x.ms) (he : 0 < n2 → entR.At w (.slice a2 n2 c2) x.es) (hb1 : n1 ≤ maxLen) (hb2 : n2 ≤ maxLen) :
    Calls Tryd.prog 6 #[.agg (frC x (.slice a1 n1 c1) (.slice a2 n2 c2)), .int .i64 z, .int .u32 q] w (retB true w) := by
  have HENV := Lib.hid henv
  have HF := Lib.hid hf
  have HZ := Lib.hid (And.intro hz1 (And.intro hz2 hq))
  have HN := Lib.hid (And.intro hn1 hn2)
  have HM := Lib.hid hm
  have HE := Lib.hid he
  obtain ⟨w0, hw0⟩ : ∃ w0, w0 = w.alloc (.cells (frC x (.slice a1 n1 c1) (.slice a2 n2 c2)) 29) := ⟨_, rfl⟩
  have hB0 : Below w.heap.size w w0 := by rw [hw0]; go_grown
  have HX0 := Lib.hid (show Blk w0 w.heap.size (frC x (.slice a1 n1 c1) (.slice a2 n2 c2)) 29 by rw [hw0]; exact Blk.new rfl)
  have HB0 := Lib.hid hB0
  have H1 := Lib.hid (speaks_any w0 (henv.on hB0 henv.pos))
  clear henv hf hz1 hz2 hq hn1 hn2 hm he hB0
  go_enter Tryd.func6, Tryd.ntmps6
  go_upto_region 1 with fail
  rw [← hw0]
  clear hw0
  go_wp2_with fail
  with_reducible refine H1.out.mono ?_
  rintro e w2 ⟨rfl, hB2⟩
  have HX2 := Lib.hid (HX0.out.on hB2)
  have HB2 := Lib.hid (m_below_on HB0.out hB2)
  clear H1 hB2 HX0 HB0
  have cT : w2.cell? ⟨w.heap.size, 9, none⟩ = some (.string x.text) := HX2.out.cell 9
  have fT := HX2.out.frozen 9
  have hmn : (if (x.text.size : Int) ≤ 40 then (x.text.size : Int) else 40) = ((min x.text.size 40 : Nat) : Int) := by split <;> omega
  go_upto_region 4 with fail
  obtain ⟨T, hT⟩ : ∃ T, T = x.text.extract 0 (if (40 : Int) < (x.text.size : Int) then (40 : Int) else (x.text.size : Int)).toNat := ⟨_, rfl⟩
  have hTs : T.size ≤ 40 := by rw [hT]; exact cut_text _
  rw [← hT]
  generalize (if (40 : Int) < (x.text.size : Int) then (40 : Int) else (x.text.size : Int)) = N40
  have HX3 := Lib.hid (HX2.out.set 9 (.string T) (frC { x with text := T } (.slice a1 n1 c1) (.slice a2 n2 c2)) rfl)
  have HB3 := Lib.hid (HB2.out.setCell (p := ⟨w.heap.size, 9, none⟩) (Nat.le_refl _) (.string T))
  obtain ⟨w3, hw3⟩ : ∃ w3, w3 = w2.setCell ⟨w.heap.size, 9, none⟩ (.string T) := ⟨_, rfl⟩
  rw [← hw3] at HX3 HB3 ⊢
  obtain ⟨v, hv⟩ : ∃ v : Fr, v = { x with text := T } := ⟨_, rfl⟩
  rw [← hv] at HX3
  have hvt : v.text.size ≤ 40 := by rw [hv]; exact hTs
  have HVF := Lib.hid (show v.fine by rw [hv]; exact text_fine HF.out T)
  have H2 := Lib.hid (told_any v a1 a2 n1 n2 c1 c2 w3 (by rw [hv]; exact HN.out.1) (by rw [hv]; exact HN.out.2) (fun h => by rw [hv]; exact (HM.out h).on HB3.out) (fun h => by rw [hv]; exact (HE.out h).on HB3.out) hb1 hb2)
  have HR3 := Lib.hid (blk_raw HX3.out)
  clear cT fT hT hTs hw3 hv HX2 HB2 HM HE HF HN hmn
  go_wp2_with (first | (refine wpList_load_row rfl 29 (.tmp 3) rfl w.heap.size rfl 29 (frC v (.slice a1 n1 c1) (.slice a2 n2 c2)) (0, 0) _ HR3.out Tryd.underlying29 rfl (by kernel_rfl) ?_))
  with_reducible refine H2.out.mono ?_
  rintro e w4 ⟨s1, t1, s2, t2, rfl, hB4, m1, e1, m2, e2⟩
  have HVF2 := Lib.hid (told_fine HVF.out)
  have hyt : (toldF v).text.size ≤ 40 := hvt
  obtain ⟨y, hy⟩ : ∃ y, y = toldF v := ⟨_, rfl⟩
  rw [← hy] at HVF2 hyt m1 e1 m2 e2 ⊢
  have hyl : y.ms.length ≤ 10 ∧ y.es.length ≤ 18 := by rw [hy]; exact ⟨by simp [toldF]; omega, by simp [toldF]; omega⟩
  obtain ⟨g1, d1, rfl⟩ := m1.len
  obtain ⟨g2, d2, rfl⟩ := e1.len
  obtain ⟨g3, d3, rfl⟩ := m2.len
  obtain ⟨g4, d4, rfl⟩ := e2.len
  have HB4 := Lib.hid (HB3.out.trans (hB4.mono HB3.out.size))
  have NF0 : Blk (w4.alloc (.cells z34 47)) w4.heap.size z34 47 := Blk.new rfl
  have NF := Lib.hid (NF0.alloc (.cells z34 52))
  have NR := Lib.hid (show Blk ((w4.alloc (.cells z34 47)).alloc (.cells z34 52)) (w4.heap.size + 1) z34 52 from Blk.new (by simp))
  have O1 := Lib.hid (frC_one y g1 g2 y.ms.length y.es.length d1 d2)
  have O2 := Lib.hid (frC_one y g3 g4 y.ms.length y.es.length d3 d4)
  have hne : w4.heap.size + 1 ≠ w4.heap.size := by omega
  have NR2 := Lib.hid ((setRow_other ((w4.alloc (.cells z34 47)).alloc (.cells z34 52)) w4.heap.size (w4.heap.size + 1) (frC y (.slice g1 y.ms.length d1) (.slice g2 y.es.length d2)) hne).trans (blk_raw NR.out))
  have HMS := Lib.hid m1
  have HES := Lib.hid e1
  clear H2 hB4 m1 e1 m2 e2 hy NF0 HR3 HX3
  go_upto_region 5 with (first | (refine wpList_store_row rfl 47 (.tmp 7) (.tmp 27) rfl w4.heap.size (frC y (.slice g1 y.ms.length d1) (.slice g2 y.es.length d2)) rfl rfl 47 z34 (blk_raw NF.out) (by kernel_rfl) rfl O1.out ?_) | (refine wpList_store_row rfl 52 (.tmp 8) (.tmp 28) rfl (w4.heap.size + 1) (frC y (.slice g3 y.ms.length d3) (.slice g4 y.es.length d4)) rfl rfl 52 z34 NR2.out (by kernel_rfl) rfl O2.out ?_))
  obtain ⟨w5, hw5⟩ : ∃ w5, w5 = (((w4.alloc (.cells z34 47)).alloc (.cells z34 52)).setRow w4.heap.size (frC y (.slice g1 y.ms.length d1) (.slice g2 y.es.length d2))).setRow (w4.heap.size + 1) (frC y (.slice g3 y.ms.length d3) (.slice g4 y.es.length d4)) := ⟨_, rfl⟩
  rw [← hw5]
  have hB5 : Below w4.heap.size w4 w5 := by rw [hw5]; exact below_sr (below_sr (by go_grown) (Nat.le_refl _) _) (Nat.le_succ _) _
  have HR5 := Lib.hid (show w5.heap[w4.heap.size]? = some (.cells (frC y (.slice g1 y.ms.length d1) (.slice g2 y.es.length d2)) 47 (0, 0)) by rw [hw5]; exact (setRow_other _ _ _ _ (Ne.symm hne)).trans (blk_raw (setRow_blk _ NF.out)))
  have HB5 := Lib.hid (HB4.out.trans (hB5.mono HB4.out.size))
  have H3 := Lib.hid (Encode_any y g1 g2 d1 d2 w5 HVF2.out (by omega) (HENV.out.on HB5.out HENV.out.pos) (memsAt_of (HMS.out.on hB5)) (entsAt_of (HES.out.on hB5)))
  clear hw5 hB5 NF NR NR2 O1 O2 HMS HES HB4
  go_wp2_with (first | (refine wpList_load_row rfl 47 (.tmp 7) rfl w4.heap.size rfl 47 (frC y (.slice g1 y.ms.length d1) (.slice g2 y.es.length d2)) (0, 0) _ HR5.out Tryd.underlying47 rfl (by kernel_rfl) ?_))
  with_reducible refine H3.out.mono ?_
  rintro e w6 ⟨rfl, hB6⟩
  have HB6 := Lib.hid (m_below_on HB5.out hB6)
  clear H3 hB6 HB5 HR5
  by_cases hval : validF y = true
  · have hE : encE y = 0 := by unfold encE; rw [if_pos hval]
    have hS : encS y = bodyF y ++ sealB (bodyF y) := by unfold encS; rw [if_pos hval]
    have hsm := bodyF_small y hval hyt
    have hD := decF_enc y HVF2.out hval
    obtain ⟨S, hSS⟩ : ∃ S, S = encS y := ⟨_, rfl⟩
    have hSz : S.size ≤ 1004 := by rw [hSS, hS, ByteArray.size_append, sealB_size]; omega
    obtain ⟨U, hU⟩ : ∃ U, U = turnB S z q := ⟨_, rfl⟩
    have hUz : U.size = S.size := by rw [hU, turnB_size]
    have H4 := Lib.hid (Turn_any S z q w6 (by omega) HZ.out.1 HZ.out.2.1 HZ.out.2.2)
    rw [← hU] at H4
    rw [hE, ← hSS]
    rw [← hSS] at hD
    have HUO := Lib.hid (show U ≠ S → openE U = 5 from fun hne => by
      rw [hU, hSS, hS] at *
      exact (turn_open (bodyF y) z q HZ.out.2.2 hne).2)
    have HD := Lib.hid hD
    clear hE hS hSS hU hD hsm
    go_wp2_with fail
    with_reducible refine H4.out.mono ?_
    rintro e w7 ⟨rfl, hB7⟩
    have HB7 := Lib.hid (m_below_on HB6.out hB7)
    have H5 := Lib.hid (Decode_any U w7 (by omega) (HENV.out.on HB7.out HENV.out.pos))
    clear H4 hB7 HB6
    go_wp2_with fail
    with_reducible refine H5.out.mono ?_
    rintro e w8 ⟨sl, tl, rfl, hB8, hm8, he8⟩
    have HB8 := Lib.hid (m_below_on HB7.out hB8)
    have HSZ := Lib.hid (And.intro hSz hUz)
    obtain ⟨g5, d5, rfl⟩ := hm8.len
    obtain ⟨g6, d6, rfl⟩ := he8.len
    have HM8 := Lib.hid hm8
    have HE8 := Lib.hid he8
    clear H5 hB8 HB7 hm8 he8
    by_cases hus : U = S
    · subst hus
      rw [HD.out] at HM8 HE8 ⊢
      obtain ⟨r, hr⟩ : ∃ r, r = restF y := ⟨_, rfl⟩
      rw [← hr] at HM8 HE8 ⊢
      have NB := Lib.hid (Blk.new (w := w8) (B := w8.heap.size) (T := 47) (cs := z34) rfl)
      have ON := Lib.hid (frC_one r g5 g6 r.ms.length r.es.length d5 d6)
      have hB9 := Lib.hid (below_sr (HB8.out.alloc HB8.out.size (.cells z34 47)) HB8.out.size (frC r (.slice g5 r.ms.length d5) (.slice g6 r.es.length d6)))
      have hS1 : (U.size : Int) ≤ 1024 := by have := HSZ.out; omega
      clear hr HM8 HE8
      go_wp2_with (first | (refine wpList_store_row rfl 47 (.tmp 12) (.tmp 49) rfl w8.heap.size (frC r (.slice g5 r.ms.length d5) (.slice g6 r.es.length d6)) rfl rfl 47 z34 (blk_raw NB.out) (by kernel_rfl) rfl ON.out ?_))
      go_ret
      exact ⟨rfl, hB9.out⟩
    · have hbe : (U.toList == S.toList) = false := by rw [beq_bytes]; simpa using hus
      have hdu : decF U = (fr0, 5) := by unfold decF; rw [HUO.out hus]; rfl
      rw [hdu] at HM8 HE8 ⊢
      have NB := Lib.hid (Blk.new (w := w8) (B := w8.heap.size) (T := 47) (cs := z34) rfl)
      have ON := Lib.hid (frC_one fr0 g5 g6 0 0 d5 d6)
      have hB9 := Lib.hid (below_sr (HB8.out.alloc HB8.out.size (.cells z34 47)) HB8.out.size (frC fr0 (.slice g5 0 d5) (.slice g6 0 d6)))
      have hB9' := Lib.hid (below_sr ((Below.refl w8.heap.size w8).alloc (Nat.le_refl _) (.cells z34 47)) (Nat.le_refl _) (frC fr0 (.slice g5 0 d5) (.slice g6 0 d6)))
      have RN := Lib.hid (blk_raw (setRow_blk (frC fr0 (.slice g5 0 d5) (.slice g6 0 d6)) NB.out))
      have hS1 : (S.size : Int) ≤ 1024 := by have := HSZ.out; omega
      obtain ⟨w9, hw9⟩ : ∃ w9, w9 = (w8.alloc (.cells z34 47)).setRow w8.heap.size (frC fr0 (.slice g5 0 d5) (.slice g6 0 d6)) := ⟨_, rfl⟩
      have H6 := Lib.hid (show Calls Tryd.prog 13 #[.agg (frC fr0 (.slice g5 0 d5) (.slice g6 0 d6)), .agg z34] w9 (retB true w9) from fSame_same fr0 (.slice g5 0 d5) (.slice g6 0 d6) (.slice none 0 0) (.slice none 0 0) w9 (by decide) (by decide) (by rw [hw9]; exact HM8.out.on hB9'.out) (.inl ⟨rfl, rfl⟩) (by rw [hw9]; exact HE8.out.on hB9'.out) (.inl ⟨rfl, rfl⟩))
      clear hdu HM8 HE8 HSZ
      go_upto_region 10 with (first | (refine wpList_store_row rfl 47 (.tmp 12) (.tmp 49) rfl w8.heap.size (frC fr0 (.slice g5 0 d5) (.slice g6 0 d6)) rfl rfl 47 z34 (blk_raw NB.out) (by kernel_rfl) rfl ON.out ?_))
      rw [← hw9] at RN hB9 hB9' ⊢
      clear hw9 NB ON
      go_wp2_with (first | (refine Go.BigFrame.wpList_want (by rfl) (fun K hK => wp_load_row 47 (.tmp 12) rfl w8.heap.size rfl 47 (frC fr0 (.slice g5 0 d5) (.slice g6 0 d6)) (0, 0) _ RN.out Tryd.underlying47 rfl (by kernel_rfl) (hK _ _ ?_))))
      with_reducible refine H6.out.mono ?_
      rintro e w10 ⟨rfl, hB10⟩
      have HB10 := Lib.hid (m_below_on hB9.out hB10)
      clear H6 hB10
      go_wp2_with fail
      go_ret
      exact ⟨rfl, HB10.out⟩
  · have hE : encE y = 4 := by unfold encE; rw [if_neg hval]
    have hS : encS y = ⟨#[]⟩ := by unfold encS; rw [if_neg hval]
    rw [hE, hS]
    go_wp2_with fail
    go_ret
    exact ⟨rfl, HB6.out⟩
end Go.Proofs.YtodajejjhfpdmaaDoor
