/-
  The law FrameCodes returns true: a frame is encoded as the document says, or it is told that it may not be; what is encoded is decoded to the frame with the fields of its kind, and that one is encoded alike.
  Conditions: the program's table of the fields of each kind holds what the program's text lays (the card ties it); else none: whatever the arguments that the types allow, the call returns true and leaves its arguments as they were.
-/
import Derived.Test.YtodajejjhfpdmaaDoorFrrM
import Derived.Test.YtodajejjhfpdmaaDoorFrrA
import Derived.Test.YtodajejjhfpdmaaDoorFrlB
import Derived.Test.YtodajejjhfpdmaaDoorFrlE
import Derived.Test.YtodajejjhfpdmaaDoorFrlK
import Derived.Test.YtodajejjhfpdmaaDoorFrlQ
import Derived.Test.YtodajejjhfpdmaaDoorRows
import Derived.ProofKit
import Derived.OpenShut
import Derived.ShutString
import Derived.ChangeOld
import Derived.Below
import Derived.Deep.Slices
import Derived.Lib.SmallJoins
import Derived.LaidLaws
import Derived.Lib.LaidTab
import Derived.SizedLaws
import Derived.Test.YtodajejjhfpdmaaDoorTie
import Derived.Test.YtodajejjhfpdmaaDoorCards
import Derived.SevenTiedAt
namespace Go.Proofs.YtodajejjhfpdmaaDoor
open Go.RowKit Go.Instr

def LenOk (f : Fr) : Prop := f.ms.length ≤ 8 ∧ f.es.length ≤ 16
theorem dField_len (c : Nat) (f : Fr) (s : Sd) (h : LenOk f) : LenOk (dField c f s).1 := by
  unfold dField
  by_cases h69 : c = 69
  · rw [if_pos h69]
    exact h
  rw [if_neg h69]
  by_cases h75 : c = 75
  · rw [if_pos h75]
    exact h
  rw [if_neg h75]
  by_cases h84 : c = 84
  · rw [if_pos h84]
    exact h
  rw [if_neg h84]
  by_cases h86 : c = 86
  · rw [if_pos h86]
    exact h
  rw [if_neg h86]
  by_cases h77 : c = 77
  · rw [if_pos h77]
    exact h
  rw [if_neg h77]
  by_cases h68 : c = 68
  · rw [if_pos h68]
    exact h
  rw [if_neg h68]
  by_cases h70 : c = 70
  · rw [if_pos h70]
    exact h
  rw [if_neg h70]
  by_cases h76 : c = 76
  · rw [if_pos h76]
    exact h
  rw [if_neg h76]
  by_cases h82 : c = 82
  · rw [if_pos h82]
    exact h
  rw [if_neg h82]
  by_cases h87 : c = 87
  · rw [if_pos h87]
    exact ⟨dView_len s, h.2⟩
  rw [if_neg h87]
  by_cases h66 : c = 66
  · rw [if_pos h66]
    exact h
  rw [if_neg h66]
  by_cases h83 : c = 83
  · rw [if_pos h83]
    exact h
  rw [if_neg h83]
  by_cases h78 : c = 78
  · rw [if_pos h78]
    exact ⟨h.1, dEntries_len s⟩
  rw [if_neg h78]
  by_cases h67 : c = 67
  · rw [if_pos h67]
    exact h
  rw [if_neg h67]
  exact h
theorem dFlds_len (l : List Nat) : ∀ (f : Fr) (s : Sd), LenOk f → LenOk (dFlds l f s).1 := by
  induction l with
  | nil => intro f s h; exact h
  | cons c l ih =>
    intro f s h
    have h1 := dField_len c f s h
    show LenOk (if (dField c f s).2.wr = true then dField c f s else dFlds l (dField c f s).1 (dField c f s).2).1
    split
    · exact h1
    · exact ih _ _ h1
theorem decF_len (s : ByteArray) : LenOk (decF s).1 := by
  have h0 : LenOk fr0 := ⟨by decide, by decide⟩
  unfold decF
  split
  · unfold decT
    split
    · exact h0
    · split
      · exact h0
      · split
        · exact h0
        · split
          · exact dFlds_len _ _ _ h0
          · exact h0
  · exact h0
theorem toldF_same {f : Fr} (h : LenOk f) : toldF f = f := by
  unfold toldF
  obtain ⟨h1, h2⟩ := h
  rw [List.take_of_length_le (by omega), List.take_of_length_le (by omega)]

def FineT (f : Fr) : Prop := f.fine ∧ f.text.size ≤ 40
theorem cpF_fine (f g : Fr) (c : Nat) (hf : FineT f) (hg : FineT g) : FineT (cpF f g c) := by
  obtain ⟨⟨a1, a2, a3, a4, a5, a6, a7, a8, a9, a10, a11, a12, a13, a14, a15, a16⟩, a17⟩ := hf
  obtain ⟨⟨b1, b2, b3, b4, b5, b6, b7, b8, b9, b10, b11, b12, b13, b14, b15, b16⟩, b17⟩ := hg
  unfold cpF
  by_cases h69 : c = 69
  · rw [if_pos h69]
    exact ⟨⟨b1, b2, b3, a4, b5, b6, b7, b8, b9, b10, b11, b12, b13, b14, b15, b16⟩, b17⟩
  rw [if_neg h69]
  by_cases h75 : c = 75
  · rw [if_pos h75]
    exact ⟨⟨b1, b2, b3, b4, a5, b6, b7, b8, b9, b10, b11, b12, b13, b14, b15, b16⟩, b17⟩
  rw [if_neg h75]
  by_cases h84 : c = 84
  · rw [if_pos h84]
    exact ⟨⟨b1, b2, b3, b4, b5, a6, b7, b8, b9, b10, b11, b12, b13, b14, b15, b16⟩, b17⟩
  rw [if_neg h84]
  by_cases h86 : c = 86
  · rw [if_pos h86]
    exact ⟨⟨b1, b2, b3, b4, b5, b6, b7, b8, b9, b10, b11, b12, b13, b14, b15, b16⟩, a17⟩
  rw [if_neg h86]
  by_cases h77 : c = 77
  · rw [if_pos h77]
    exact ⟨⟨b1, b2, b3, b4, b5, b6, b7, b8, b9, b10, b11, b12, b13, b14, b15, b16⟩, b17⟩
  rw [if_neg h77]
  by_cases h68 : c = 68
  · rw [if_pos h68]
    exact ⟨⟨b1, b2, b3, b4, b5, b6, a7, b8, b9, b10, b11, b12, b13, b14, b15, b16⟩, b17⟩
  rw [if_neg h68]
  by_cases h70 : c = 70
  · rw [if_pos h70]
    exact ⟨⟨b1, b2, b3, b4, b5, b6, b7, b8, b9, b10, b11, b12, b13, b14, b15, b16⟩, b17⟩
  rw [if_neg h70]
  by_cases h76 : c = 76
  · rw [if_pos h76]
    exact ⟨⟨b1, b2, b3, b4, b5, b6, b7, a8, b9, b10, b11, b12, b13, b14, b15, b16⟩, b17⟩
  rw [if_neg h76]
  by_cases h82 : c = 82
  · rw [if_pos h82]
    exact ⟨⟨b1, b2, b3, b4, b5, b6, b7, b8, a9, b10, b11, b12, b13, b14, b15, b16⟩, b17⟩
  rw [if_neg h82]
  by_cases h87 : c = 87
  · rw [if_pos h87]
    exact ⟨⟨b1, b2, b3, b4, b5, b6, b7, b8, b9, b10, b11, b12, a13, a14, a15, b16⟩, b17⟩
  rw [if_neg h87]
  by_cases h66 : c = 66
  · rw [if_pos h66]
    exact ⟨⟨b1, b2, b3, b4, b5, b6, b7, b8, b9, a10, b11, b12, b13, b14, b15, b16⟩, b17⟩
  rw [if_neg h66]
  by_cases h83 : c = 83
  · rw [if_pos h83]
    exact ⟨⟨b1, b2, b3, b4, b5, b6, b7, b8, b9, b10, a11, b12, b13, b14, b15, b16⟩, b17⟩
  rw [if_neg h83]
  by_cases h78 : c = 78
  · rw [if_pos h78]
    exact ⟨⟨b1, b2, b3, b4, b5, b6, b7, b8, b9, b10, b11, b12, b13, b14, b15, a16⟩, b17⟩
  rw [if_neg h78]
  by_cases h67 : c = 67
  · rw [if_pos h67]
    exact ⟨⟨b1, b2, b3, b4, b5, b6, b7, b8, b9, b10, b11, a12, b13, b14, b15, b16⟩, b17⟩
  rw [if_neg h67]
  exact ⟨⟨b1, b2, b3, b4, b5, b6, b7, b8, b9, b10, b11, b12, b13, b14, b15, b16⟩, b17⟩
theorem fr0_fine : FineT fr0 :=
  ⟨⟨by decide, by decide, by decide, by decide, by decide, by decide, by decide, by decide, by decide, by decide, by decide, ⟨by decide, by decide, by decide, by decide, by decide⟩, by decide, ⟨by decide, by decide, by decide, by decide, by decide, by decide, by decide, by decide⟩, by intro x h; exact absurd h (by show ¬ x ∈ ([] : List Mem); simp), by intro x h; exact absurd h (by show ¬ x ∈ ([] : List Ent); simp)⟩, by decide⟩
theorem restF_fine (f : Fr) (hf : FineT f) : FineT (restF f) := by
  have h0 : FineT { fr0 with kind := f.kind, frm := f.frm, dest := f.dest } := by
    obtain ⟨⟨a1, a2, a3, _⟩, _⟩ := hf
    obtain ⟨⟨_, _, _, b4, b5, b6, b7, b8, b9, b10, b11, b12, b13, b14, b15, b16⟩, b17⟩ := fr0_fine
    exact ⟨⟨a1, a2, a3, b4, b5, b6, b7, b8, b9, b10, b11, b12, b13, b14, b15, b16⟩, b17⟩
  unfold restF
  generalize ({ fr0 with kind := f.kind, frm := f.frm, dest := f.dest } : Fr) = g at h0 ⊢
  induction (letK f.kind) generalizing g with
  | nil => exact h0
  | cons c l ih => exact ih _ (cpF_fine f g c hf h0)
theorem told_fine {x : Fr} (h : x.fine) : (toldF x).fine := by
  obtain ⟨h1, h2, h3, h4, h5, h6, h7, h8, h9, h10, h11, h12, h13, h14, h15, h16⟩ := h
  exact ⟨h1, h2, h3, h4, h5, h6, h7, h8, h9, h10, h11, h12, h13, h14, fun m hm => h15 m (List.mem_of_mem_take hm), fun m hm => h16 m (List.mem_of_mem_take hm)⟩
theorem text_fine {x : Fr} (h : x.fine) (t : ByteArray) : ({ x with text := t } : Fr).fine := h
theorem cut_text (t : ByteArray) : (t.extract 0 (if (40 : Int) < (t.size : Int) then (40 : Int) else (t.size : Int)).toNat).size ≤ 40 := by
  rw [ByteArray.size_extract]
  split <;> omega
set_option maxHeartbeats 4000000 in
set_option maxRecDepth 20000 in
theorem codes_any (x : Fr) (a1 a2 : Option Addr) (n1 n2 c1 c2 : Nat) (w : World) (henv : FEnv w) (hf : x.fine) (_hsz : x.text.size ≤ maxLen)
    (hn1 : n1 = x.ms.length) (hn2 : n2 = x.es.length) (hm : 0 < n1 → memR.At w (.slice a1 n1 c1) x.ms) (he : 0 < n2 → entR.At w (.slice a2 n2 c2) x.es) (hb1 : n1 ≤ maxLen) (hb2 : n2 ≤ maxLen) :
    Calls Tryd.prog 3 #[.agg (frC x (.slice a1 n1 c1) (.slice a2 n2 c2))] w (retB true w) := by
  have HENV := Lib.hid henv
  have HF := Lib.hid hf
  have HN := Lib.hid (And.intro hn1 hn2)
  have HM := Lib.hid hm
  have HE := Lib.hid he
  obtain ⟨w0, hw0⟩ : ∃ w0, w0 = w.alloc (.cells (frC x (.slice a1 n1 c1) (.slice a2 n2 c2)) 29) := ⟨_, rfl⟩
  have hB0 : Below w.heap.size w w0 := by rw [hw0]; go_grown
  have HX0 := Lib.hid (show Blk w0 w.heap.size (frC x (.slice a1 n1 c1) (.slice a2 n2 c2)) 29 by rw [hw0]; exact Blk.new rfl)
  have HB0 := Lib.hid hB0
  have H1 := Lib.hid (speaks_any w0 (henv.on hB0 henv.pos))
  clear henv hf hn1 hn2 hm he hB0
  go_enter Tryd.func3, Tryd.ntmps3
  go_upto_region 1 with fail
  rw [← hw0]
  clear hw0
  go_wp2_with fail
  with_reducible refine H1.out.mono ?_
  rintro e w2 ⟨rfl, hB2⟩
  have HX2 := Lib.hid (HX0.out.on hB2)
  have HB2 := Lib.hid (m_below_on HB0.out hB2)
  clear H1 hB2 HX0 HB0
  have cT : w2.cell? ⟨w.heap.size, 9, none⟩ = some (.string x.text) := HX2.out.cell 9
  have fT := HX2.out.frozen 9
  have hmn : (if (x.text.size : Int) ≤ 40 then (x.text.size : Int) else 40) = ((min x.text.size 40 : Nat) : Int) := by split <;> omega
  go_upto_region 4 with fail
  obtain ⟨T, hT⟩ : ∃ T, T = x.text.extract 0 (if (40 : Int) < (x.text.size : Int) then (40 : Int) else (x.text.size : Int)).toNat := ⟨_, rfl⟩
  have hTs : T.size ≤ 40 := by rw [hT]; exact cut_text _
  rw [← hT]
  generalize (if (40 : Int) < (x.text.size : Int) then (40 : Int) else (x.text.size : Int)) = N40
  have HX3 := Lib.hid (HX2.out.set 9 (.string T) (frC { x with text := T } (.slice a1 n1 c1) (.slice a2 n2 c2)) rfl)
  have HB3 := Lib.hid (HB2.out.setCell (p := ⟨w.heap.size, 9, none⟩) (Nat.le_refl _) (.string T))
  obtain ⟨w3, hw3⟩ : ∃ w3, w3 = w2.setCell ⟨w.heap.size, 9, none⟩ (.string T) := ⟨_, rfl⟩
  rw [← hw3] at HX3 HB3 ⊢
  obtain ⟨v, hv⟩ : ∃ v : Fr, v = { x with text := T } := ⟨_, rfl⟩
  rw [← hv] at HX3
  have hvt : v.text.size ≤ 40 := by rw [hv]; exact hTs
  have HVF := Lib.hid (show v.fine by rw [hv]; exact text_fine HF.out T)
  have H2 := Lib.hid (told_new v a1 a2 n1 n2 c1 c2 w3 (by rw [hv]; exact HN.out.1) (by rw [hv]; exact HN.out.2) (fun h => by rw [hv]; exact (HM.out h).on HB3.out) (fun h => by rw [hv]; exact (HE.out h).on HB3.out) hb1 hb2)
  have HR3 := Lib.hid (blk_raw HX3.out)
  clear cT fT hT hTs hw3 hv HX2 HB2 HM HE HF HN hmn
  go_wp2_with (first | (refine wpList_load_row rfl 29 (.tmp 1) rfl w.heap.size rfl 29 (frC v (.slice a1 n1 c1) (.slice a2 n2 c2)) (0, 0) _ HR3.out Tryd.underlying29 rfl (by kernel_rfl) ?_))
  with_reducible refine H2.out.mono ?_
  rintro e w4 ⟨s1, t1, s2, t2, rfl, hB4, m1, e1, m2, e2, q1, q2⟩
  have HVF2 := Lib.hid (told_fine HVF.out)
  have hyt : (toldF v).text.size ≤ 40 := hvt
  obtain ⟨y, hy⟩ : ∃ y, y = toldF v := ⟨_, rfl⟩
  rw [← hy] at HVF2 hyt m1 e1 m2 e2 ⊢
  have hyl : y.ms.length ≤ 10 ∧ y.es.length ≤ 18 := by rw [hy]; exact ⟨by simp [toldF]; omega, by simp [toldF]; omega⟩
  obtain ⟨g1, d1, rfl⟩ := m1.len
  obtain ⟨g2, d2, rfl⟩ := e1.len
  obtain ⟨g3, d3, rfl⟩ := m2.len
  obtain ⟨g4, d4, rfl⟩ := e2.len
  have HB4 := Lib.hid (HB3.out.trans (hB4.mono HB3.out.size))
  have NF0 : Blk (w4.alloc (.cells z34 47)) w4.heap.size z34 47 := Blk.new rfl
  have NF := Lib.hid (NF0.alloc (.cells z34 52))
  have NR := Lib.hid (show Blk ((w4.alloc (.cells z34 47)).alloc (.cells z34 52)) (w4.heap.size + 1) z34 52 from Blk.new (by simp))
  have O1 := Lib.hid (frC_one y g1 g2 y.ms.length y.es.length d1 d2)
  have O2 := Lib.hid (frC_one y g3 g4 y.ms.length y.es.length d3 d4)
  have hne : w4.heap.size + 1 ≠ w4.heap.size := by omega
  have NR2 := Lib.hid ((setRow_other ((w4.alloc (.cells z34 47)).alloc (.cells z34 52)) w4.heap.size (w4.heap.size + 1) (frC y (.slice g1 y.ms.length d1) (.slice g2 y.es.length d2)) hne).trans (blk_raw NR.out))
  have HMS := Lib.hid m1
  have HMR := Lib.hid m2
  have HER := Lib.hid e2
  have HES := Lib.hid e1
  clear H2 hB4 m1 e1 m2 e2 hy NF0 HR3 HX3 q1 q2
  go_upto_region 5 with (first | (refine wpList_store_row rfl 47 (.tmp 3) (.tmp 28) rfl w4.heap.size (frC y (.slice g1 y.ms.length d1) (.slice g2 y.es.length d2)) rfl rfl 47 z34 (blk_raw NF.out) (by kernel_rfl) rfl O1.out ?_) | (refine wpList_store_row rfl 52 (.tmp 4) (.tmp 29) rfl (w4.heap.size + 1) (frC y (.slice g3 y.ms.length d3) (.slice g4 y.es.length d4)) rfl rfl 52 z34 NR2.out (by kernel_rfl) rfl O2.out ?_))
  obtain ⟨w5, hw5⟩ : ∃ w5, w5 = (((w4.alloc (.cells z34 47)).alloc (.cells z34 52)).setRow w4.heap.size (frC y (.slice g1 y.ms.length d1) (.slice g2 y.es.length d2))).setRow (w4.heap.size + 1) (frC y (.slice g3 y.ms.length d3) (.slice g4 y.es.length d4)) := ⟨_, rfl⟩
  rw [← hw5]
  have hB5 : Below w4.heap.size w4 w5 := by rw [hw5]; exact below_sr (below_sr (by go_grown) (Nat.le_refl _) _) (Nat.le_succ _) _
  have HR5 := Lib.hid (show w5.heap[w4.heap.size]? = some (.cells (frC y (.slice g1 y.ms.length d1) (.slice g2 y.es.length d2)) 47 (0, 0)) by rw [hw5]; exact (setRow_other _ _ _ _ (Ne.symm hne)).trans (blk_raw (setRow_blk _ NF.out)))
  have HS5 := Lib.hid (show Blk w5 (w4.heap.size + 1) (frC y (.slice g3 y.ms.length d3) (.slice g4 y.es.length d4)) 52 by rw [hw5]; exact setRow_blk (frC y (.slice g3 y.ms.length d3) (.slice g4 y.es.length d4)) (show Blk (((w4.alloc (.cells z34 47)).alloc (.cells z34 52)).setRow w4.heap.size (frC y (.slice g1 y.ms.length d1) (.slice g2 y.es.length d2))) (w4.heap.size + 1) z34 52 from NR2.out))
  have HB5 := Lib.hid (HB4.out.trans (hB5.mono HB4.out.size))
  have M5 := Lib.hid (HMR.out.on hB5)
  have E5 := Lib.hid (HER.out.on hB5)
  have H3 := Lib.hid (Encode_any y g1 g2 d1 d2 w5 HVF2.out (by omega) (HENV.out.on HB5.out HENV.out.pos) (memsAt_of (HMS.out.on hB5)) (entsAt_of (HES.out.on hB5)))
  obtain ⟨R, hRR⟩ : ∃ R, R = w4.heap.size + 1 := ⟨_, rfl⟩
  rw [← hRR] at HS5
  simp only [← hRR]
  clear hw5 hB5 NF NR NR2 O1 O2 HMS HES HB4 HMR HER hRR
  go_wp2_with (first | (refine wpList_load_row rfl 47 (.tmp 3) rfl w4.heap.size rfl 47 (frC y (.slice g1 y.ms.length d1) (.slice g2 y.es.length d2)) (0, 0) _ HR5.out Tryd.underlying47 rfl (by kernel_rfl) ?_))
  with_reducible refine H3.out.mono ?_
  rintro e w6 ⟨rfl, hB6⟩
  have HB6 := Lib.hid (m_below_on HB5.out hB6)
  have RS6 := Lib.hid (blk_raw (HS5.out.on hB6))
  have H4 := Lib.hid (rencode_any y g3 g4 d3 d4 w6 HVF2.out hyt (M5.out.on hB6) (E5.out.on hB6) (by omega) (by omega))
  clear H3 hB6 HB5 HR5 HS5 M5 E5
  go_wp2_with (first | (refine wpList_load_row rfl 52 (.tmp 4) rfl R rfl 52 (frC y (.slice g3 y.ms.length d3) (.slice g4 y.es.length d4)) (0, 0) _ RS6.out Tryd.underlying52 rfl (by kernel_rfl) ?_))
  with_reducible refine H4.out.mono ?_
  rintro e w7 ⟨rfl, hB7⟩
  have HB7 := Lib.hid (m_below_on HB6.out hB7)
  clear H4 hB7 HB6 RS6
  by_cases hval : validF y = true
  · have hE : encE y = 0 := by unfold encE; rw [if_pos hval]
    have hS : encS y = bodyF y ++ sealB (bodyF y) := by unfold encS; rw [if_pos hval]
    have hsm := bodyF_small y hval hyt
    have hD := decF_enc y HVF2.out hval
    have hRS := encS_rest y hval
    have hRE : encE (restF y) = 0 := by unfold encE; rw [if_pos (restF_parts y hval).1]
    have hRF := restF_fine y ⟨HVF2.out, hyt⟩
    obtain ⟨S, hSS⟩ : ∃ S, S = encS y := ⟨_, rfl⟩
    have hSz : S.size ≤ 1004 := by rw [hSS, hS, ByteArray.size_append, sealB_size]; omega
    have hln := decF_len S
    rw [← hSS] at hD hRS
    rw [hD] at hln
    have hP := decF_rDec S (by omega)
    rw [hD] at hP
    rw [hE, hval, ← hSS]
    obtain ⟨F, hFF⟩ : ∃ F, F = restF y := ⟨_, rfl⟩
    rw [← hFF] at hD hRS hRE hRF hln hP
    simp only at hln
    have HD := Lib.hid hD
    have HP := Lib.hid hP
    have HRS := Lib.hid hRS
    have HRE := Lib.hid hRE
    have HRF := Lib.hid hRF
    have HLN := Lib.hid hln
    have HFN := Lib.hid (HENV.out.on HB7.out HENV.out.pos)
    have H5 := Lib.hid (Decode_any S w7 (by omega) HFN.out)
    clear hE hS hSS hD hsm hRS hRE hRF hFF hln hP hval
    go_wp2_with fail
    with_reducible refine H5.out.mono ?_
    rintro e w8 ⟨s5, t5, rfl, hB8, m8, e8⟩
    rw [HD.out] at m8 e8 ⊢
    simp only at m8 e8 ⊢
    obtain ⟨g5, d5, rfl⟩ := m8.len
    obtain ⟨g6, d6, rfl⟩ := e8.len
    have HB8 := Lib.hid (m_below_on HB7.out hB8)
    have NG := Lib.hid (Blk.new (w := w8) (B := w8.heap.size) (T := 47) (cs := z34) rfl)
    have O5 := Lib.hid (frC_one F g5 g6 F.ms.length F.es.length d5 d6)
    have M8 := Lib.hid m8
    have E8 := Lib.hid e8
    clear H5 hB8 HB7 m8 e8
    go_upto_region 10 with (first | (refine wpList_store_row rfl 47 (.tmp 9) (.tmp 51) rfl w8.heap.size (frC F (.slice g5 F.ms.length d5) (.slice g6 F.es.length d6)) rfl rfl 47 z34 (blk_raw NG.out) (by kernel_rfl) rfl O5.out ?_))
    obtain ⟨w9, hw9⟩ : ∃ vq, vq = (w8.alloc (.cells z34 47)).setRow w8.heap.size (frC F (.slice g5 F.ms.length d5) (.slice g6 F.es.length d6)) := ⟨_, rfl⟩
    have hB9 : Below w8.heap.size w8 w9 := by rw [hw9]; exact below_sr (by go_grown) (Nat.le_refl _) _
    have HG9 := Lib.hid (show Blk w9 w8.heap.size (frC F (.slice g5 F.ms.length d5) (.slice g6 F.es.length d6)) 47 by rw [hw9]; exact setRow_blk _ NG.out)
    have HB9 := Lib.hid (m_below_on HB8.out hB9)
    have M9 := Lib.hid (M8.out.on hB9)
    have E9 := Lib.hid (E8.out.on hB9)
    rw [← hw9]
    obtain ⟨A, hA⟩ : ∃ A, A = w8.heap.size := ⟨_, rfl⟩
    rw [← hA] at HG9
    simp only [← hA]
    have H6 := Lib.hid (rdecode_any S w9 (by omega))
    rw [← HP.out] at H6
    clear hw9 hB9 NG M8 E8 HB8 hA
    go_wp2_with fail
    with_reducible refine H6.out.mono ?_
    rintro e w10 ⟨s7, t7, rfl, hB10, m10, e10⟩
    simp only at m10 e10 ⊢
    obtain ⟨g7, d7, rfl⟩ := m10.len
    obtain ⟨g8, d8, rfl⟩ := e10.len
    have HB10 := Lib.hid (m_below_on HB9.out hB10)
    have NR := Lib.hid (Blk.new (w := w10) (B := w10.heap.size) (T := 52) (cs := z34) rfl)
    have O7 := Lib.hid (frC_one F g7 g8 F.ms.length F.es.length d7 d8)
    have HG10 := Lib.hid (HG9.out.on hB10)
    have M10 := Lib.hid (M9.out.on hB10)
    have E10 := Lib.hid (E9.out.on hB10)
    have N10 := Lib.hid m10
    have P10 := Lib.hid e10
    clear H6 hB10 m10 e10 M9 E9 HG9 HB9
    go_upto_region 11 with (first | (refine wpList_store_row rfl 52 (.tmp 11) (.tmp 56) rfl w10.heap.size (frC F (.slice g7 F.ms.length d7) (.slice g8 F.es.length d8)) rfl rfl 52 z34 (blk_raw NR.out) (by kernel_rfl) rfl O7.out ?_))
    obtain ⟨w11, hw11⟩ : ∃ vq, vq = (w10.alloc (.cells z34 52)).setRow w10.heap.size (frC F (.slice g7 F.ms.length d7) (.slice g8 F.es.length d8)) := ⟨_, rfl⟩
    have hB11 : Below w10.heap.size w10 w11 := by rw [hw11]; exact below_sr (by go_grown) (Nat.le_refl _) _
    have HR11 := Lib.hid (show Blk w11 w10.heap.size (frC F (.slice g7 F.ms.length d7) (.slice g8 F.es.length d8)) 52 by rw [hw11]; exact setRow_blk _ NR.out)
    have HG11 := Lib.hid (HG10.out.on hB11)
    have HB11 := Lib.hid (m_below_on HB10.out hB11)
    have M11 := Lib.hid (M10.out.on hB11)
    have E11 := Lib.hid (E10.out.on hB11)
    have N11 := Lib.hid (N10.out.on hB11)
    have P11 := Lib.hid (P10.out.on hB11)
    rw [← hw11]
    obtain ⟨B, hB⟩ : ∃ B, B = w10.heap.size := ⟨_, rfl⟩
    rw [← hB] at HR11
    simp only [← hB]
    have RA0 := Lib.hid (blk_raw HG11.out)
    have H7 := Lib.hid (Encode_any F g5 g6 d5 d6 w11 HRF.out.1 (by have := HRF.out.2; omega) (HENV.out.on HB11.out HENV.out.pos) (memsAt_of M11.out) (entsAt_of E11.out))
    clear hw11 hB11 NR M10 E10 N10 P10 HB10 HG10 hB
    go_wp2_with (first | (refine wpList_load_row rfl 47 (.tmp 9) rfl A rfl 47 (frC F (.slice g5 F.ms.length d5) (.slice g6 F.es.length d6)) (0, 0) _ RA0.out Tryd.underlying47 rfl (by kernel_rfl) ?_))
    with_reducible refine H7.out.mono ?_
    rintro e w12 ⟨rfl, hB12⟩
    rw [HRS.out, HRE.out]
    have HG12 := Lib.hid (HG11.out.on hB12)
    have HR12 := Lib.hid (HR11.out.on hB12)
    have HB12 := Lib.hid (m_below_on HB11.out hB12)
    have M12 := Lib.hid (M11.out.on hB12)
    have E12 := Lib.hid (E11.out.on hB12)
    have N12 := Lib.hid (N11.out.on hB12)
    have P12 := Lib.hid (P11.out.on hB12)
    have lA := HG12.out.lt
    have lB := HR12.out.lt
    have RA := Lib.hid (blk_raw HG12.out)
    have RB := Lib.hid (blk_raw HR12.out)
    have HC1 : Hid (∀ w', Below w12.heap.size w12 w' → Calls Tryd.prog 14 #[.agg (frC F (.slice g7 F.ms.length d7) (.slice g8 F.es.length d8))] w' (MadeP F w')) := Lib.hid (fun w' h => by
      have hm := made_any F g7 g8 F.ms.length F.es.length d7 d8 w' rfl rfl (fun _ => N12.out.on h) (fun _ => P12.out.on h) (by have := HLN.out.1; omega) (by have := HLN.out.2; omega)
      rw [toldF_same HLN.out] at hm
      exact hm)
    have HC2 : Hid (∀ (s' t' : Value) (w' : World), Below w12.heap.size w12 w' → memR.At w' s' F.ms → entR.At w' t' F.es → Calls Tryd.prog 13 #[.agg (frC F (.slice g5 F.ms.length d5) (.slice g6 F.es.length d6)), .agg (frC F s' t')] w' (retB true w')) := Lib.hid (fun s' t' w' h hs ht => fSame_same F _ _ s' t' w' (by have := HLN.out.1; omega) (by have := HLN.out.2; omega) (M12.out.on h) hs (E12.out.on h) ht)
    clear H7 hB12 M11 E11 N11 P11 HB11 HG11 HR11 RA0 HFN
    go_upto_region 12 with fail
    have hS0 : Below w12.heap.size w12 w12.drew := by go_grown
    refine WalkS.begin (fun w' => Below w12.heap.size w12 w') [] (by kernel_rfl) hS0 ?_
    simp only [List.size_toArray, List.length_cons, List.length_nil, Nat.zero_add, Nat.reduceAdd, show Array.replicate 31 false = #[false, false, false, false, false, false, false, false, false, false, false, false, false, false, false, false, false, false, false, false, false, false, false, false, false, false, false, false, false, false, false] from rfl]
    refine' WalkS.take0 0 _ (v := _) rfl (by kernel_rfl) (by kernel_rfl) (by kernel_rfl) (by kernel_rfl) (fun _ _ _ h => h) (Or.inl ⟨by rfl, ?hy1⟩) ?rest1
    case hy1 => (intro w9; go_simp <;> with_reducible rfl)
    simp only [Act.put, List.setIfInBounds_toArray, List.set_cons_zero, List.set_cons_succ]
    refine' WalkS.take0 1 _ (v := .bool true) rfl (by kernel_rfl) (by kernel_rfl) (by kernel_rfl) (by kernel_rfl) (fun _ _ _ h => h) (Or.inl ⟨by rfl, ?hy2⟩) ?rest2
    case hy2 => (intro w9; go_simp)
    simp only [Act.put, List.setIfInBounds_toArray, List.set_cons_zero, List.set_cons_succ]
    refine' WalkS.take0 2 _ (v := _) rfl (by kernel_rfl) (by kernel_rfl) (by kernel_rfl) (by kernel_rfl) (fun _ _ _ h => h) (Or.inl ⟨by rfl, ?hy3⟩) ?rest3
    case hy3 => (intro w9; go_simp <;> with_reducible rfl)
    simp only [Act.put, List.setIfInBounds_toArray, List.set_cons_zero, List.set_cons_succ]
    refine' WalkS.take0 3 _ (v := _) rfl (by kernel_rfl) (by kernel_rfl) (by kernel_rfl) (by kernel_rfl) (fun _ _ _ h => h) (Or.inl ⟨by rfl, ?hy4⟩) ?rest4
    case hy4 => (intro w9; go_simp <;> with_reducible rfl)
    simp only [Act.put, List.setIfInBounds_toArray, List.set_cons_zero, List.set_cons_succ]
    refine' WalkS.take0 4 _ (v := _) rfl (by kernel_rfl) (by kernel_rfl) (by kernel_rfl) (by kernel_rfl) (fun _ _ _ h => h) (Or.inl ⟨by rfl, ?hy5⟩) ?rest5
    case hy5 => (intro w9; go_simp <;> with_reducible rfl)
    simp only [Act.put, List.setIfInBounds_toArray, List.set_cons_zero, List.set_cons_succ]
    refine' WalkS.take0 5 _ (v := .bool true) rfl (by kernel_rfl) (by kernel_rfl) (by kernel_rfl) (by kernel_rfl) (fun _ _ _ h => h) (Or.inl ⟨by rfl, ?hy6⟩) ?rest6
    case hy6 => (intro w9; go_simp)
    simp only [Act.put, List.setIfInBounds_toArray, List.set_cons_zero, List.set_cons_succ]
    refine' WalkS.take0 6 _ (v := .bool true) rfl (by kernel_rfl) (by kernel_rfl) (by kernel_rfl) (by kernel_rfl) (fun _ _ _ h => h) (Or.inl ⟨by rfl, ?hy7⟩) ?rest7
    case hy7 => (intro w9; go_simp)
    simp only [Act.put, List.setIfInBounds_toArray, List.set_cons_zero, List.set_cons_succ]
    refine' WalkS.take0 7 _ (v := _) rfl (by kernel_rfl) (by kernel_rfl) (by kernel_rfl) (by kernel_rfl) (fun _ _ _ h => h) (Or.inl ⟨by rfl, ?hy8⟩) ?rest8
    case hy8 => (intro w9; go_simp <;> with_reducible rfl)
    simp only [Act.put, List.setIfInBounds_toArray, List.set_cons_zero, List.set_cons_succ]
    refine' WalkS.take0 8 _ (v := _) rfl (by kernel_rfl) (by kernel_rfl) (by kernel_rfl) (by kernel_rfl) (fun _ _ _ h => h) (Or.inl ⟨by rfl, ?hy9⟩) ?rest9
    case hy9 => (intro w9; go_simp <;> with_reducible rfl)
    simp only [Act.put, List.setIfInBounds_toArray, List.set_cons_zero, List.set_cons_succ]
    refine' WalkS.take0 9 _ (v := .bool true) rfl (by kernel_rfl) (by kernel_rfl) (by kernel_rfl) (by kernel_rfl) (fun _ _ _ h => h) (Or.inl ⟨by rfl, ?hy10⟩) ?rest10
    case hy10 => (intro w9; go_simp)
    simp only [Act.put, List.setIfInBounds_toArray, List.set_cons_zero, List.set_cons_succ]
    refine' WalkS.take0 10 _ (v := .bool true) rfl (by kernel_rfl) (by kernel_rfl) (by kernel_rfl) (by kernel_rfl) (fun _ _ _ h => h) (Or.inl ⟨by rfl, ?hy11⟩) ?rest11
    case hy11 => (intro w9; go_simp)
    simp only [Act.put, List.setIfInBounds_toArray, List.set_cons_zero, List.set_cons_succ]
    refine' WalkS.take0 11 _ (v := _) rfl (by kernel_rfl) (by kernel_rfl) (by kernel_rfl) (by kernel_rfl) (fun _ _ _ h => h) (Or.inl ⟨by rfl, ?hy12⟩) ?rest12
    case hy12 => (intro w9; go_simp <;> with_reducible rfl)
    simp only [Act.put, List.setIfInBounds_toArray, List.set_cons_zero, List.set_cons_succ]
    refine' WalkS.take0 12 _ (v := _) rfl (by kernel_rfl) (by kernel_rfl) (by kernel_rfl) (by kernel_rfl) (fun _ _ _ h => h) (Or.inl ⟨by rfl, ?hy13⟩) ?rest13
    case hy13 => (intro w9; go_simp <;> with_reducible rfl)
    simp only [Act.put, List.setIfInBounds_toArray, List.set_cons_zero, List.set_cons_succ]
    refine' WalkS.take0 13 _ (v := .bool true) rfl (by kernel_rfl) (by kernel_rfl) (by kernel_rfl) (by kernel_rfl) (fun _ _ _ h => h) (Or.inl ⟨by rfl, ?hy14⟩) ?rest14
    case hy14 => (intro w9; go_simp)
    simp only [Act.put, List.setIfInBounds_toArray, List.set_cons_zero, List.set_cons_succ]
    refine' WalkS.take0 14 _ (v := .bool true) rfl (by kernel_rfl) (by kernel_rfl) (by kernel_rfl) (by kernel_rfl) (fun _ _ _ h => h) (Or.inl ⟨by rfl, ?hy15⟩) ?rest15
    case hy15 => (intro w9; go_simp)
    simp only [Act.put, List.setIfInBounds_toArray, List.set_cons_zero, List.set_cons_succ]
    refine' WalkS.take0 15 _ (v := _) rfl (by kernel_rfl) (by kernel_rfl) (by kernel_rfl) (by kernel_rfl) (fun _ _ _ h => h) (Or.inl ⟨by rfl, ?hy16⟩) ?rest16
    case hy16 => (intro w9; go_simp <;> with_reducible rfl)
    simp only [Act.put, List.setIfInBounds_toArray, List.set_cons_zero, List.set_cons_succ]
    refine WalkS.take 16 _ (v := .agg (frC F (.slice g5 F.ms.length d5) (.slice g6 F.es.length d6))) rfl (by kernel_rfl) (by kernel_rfl) (by kernel_rfl) (by kernel_rfl) (by kernel_rfl) (fun _ _ _ h => h) (Or.inl ⟨by rfl, fun w9 h9 => loadRow_r 47 (.tmp 9) rfl A rfl 47 (frC F (.slice g5 F.ms.length d5) (.slice g6 F.es.length d6)) (0, 0) _ ((h9.block A lA).trans RA.out) Tryd.underlying47 rfl (by kernel_rfl)⟩) ?_
    simp only [Act.put, List.setIfInBounds_toArray, List.set_cons_zero, List.set_cons_succ]
    refine WalkS.take 17 _ (v := .agg (frC F (.slice g7 F.ms.length d7) (.slice g8 F.es.length d8))) rfl (by kernel_rfl) (by kernel_rfl) (by kernel_rfl) (by kernel_rfl) (by kernel_rfl) (fun _ _ _ h => h) (Or.inl ⟨by rfl, fun w9 h9 => loadRow_r 52 (.tmp 11) rfl B rfl 52 (frC F (.slice g7 F.ms.length d7) (.slice g8 F.es.length d8)) (0, 0) _ ((h9.block B lB).trans RB.out) Tryd.underlying52 rfl (by kernel_rfl)⟩) ?_
    simp only [Act.put, List.setIfInBounds_toArray, List.set_cons_zero, List.set_cons_succ]
    refine WalkS.each [18] (by kernel_rfl) rfl ?_
    refine EachS.cons 18 _ rfl (fun K hK => ?s1) EachS.nil
    go_simp
    refine (HC1.out _ hS0).mono ?_
    rintro e w13 ⟨s9, t9, rfl, hB13, m13, e13⟩
    have hS1 := m_below_on hS0 hB13
    refine hK.out _ _ (fun _ => hS1) ?_
    clear hK K hB13
    simp only [List.setIfInBounds_toArray, List.set_cons_zero, List.set_cons_succ]
    refine WalkS.each [19] (by kernel_rfl) rfl ?_
    refine EachS.cons 19 _ rfl (fun K hK => ?s2) EachS.nil
    go_simp
    refine (HC2.out s9 t9 w13 hS1 m13 e13).mono ?_
    rintro e w14 ⟨rfl, hB14⟩
    have hS2 := m_below_on hS1 hB14
    refine hK.out _ _ (fun _ => hS2) ?_
    clear hK K hB14
    simp only [List.setIfInBounds_toArray, List.set_cons_zero, List.set_cons_succ]
    refine' WalkS.take0 20 _ (v := .bool true) rfl (by kernel_rfl) (by kernel_rfl) (by kernel_rfl) (by kernel_rfl) (fun _ _ _ h => h) (Or.inl ⟨by rfl, ?hy17⟩) ?rest17
    case hy17 => (intro w9; go_simp)
    simp only [Act.put, List.setIfInBounds_toArray, List.set_cons_zero, List.set_cons_succ]
    refine' WalkS.take0 21 _ (v := _) rfl (by kernel_rfl) (by kernel_rfl) (by kernel_rfl) (by kernel_rfl) (fun _ _ _ h => h) (Or.inl ⟨by rfl, ?hy18⟩) ?rest18
    case hy18 => (intro w9; go_simp <;> with_reducible rfl)
    simp only [Act.put, List.setIfInBounds_toArray, List.set_cons_zero, List.set_cons_succ]
    refine' WalkS.take0 22 _ (v := _) rfl (by kernel_rfl) (by kernel_rfl) (by kernel_rfl) (by kernel_rfl) (fun _ _ _ h => h) (Or.inl ⟨by rfl, ?hy19⟩) ?rest19
    case hy19 => (intro w9; go_simp <;> with_reducible rfl)
    simp only [Act.put, List.setIfInBounds_toArray, List.set_cons_zero, List.set_cons_succ]
    refine' WalkS.take0 23 _ (v := .bool true) rfl (by kernel_rfl) (by kernel_rfl) (by kernel_rfl) (by kernel_rfl) (fun _ _ _ h => h) (Or.inl ⟨by rfl, ?hy20⟩) ?rest20
    case hy20 => (intro w9; go_simp)
    simp only [Act.put, List.setIfInBounds_toArray, List.set_cons_zero, List.set_cons_succ]
    refine' WalkS.take0 24 _ (v := .bool true) rfl (by kernel_rfl) (by kernel_rfl) (by kernel_rfl) (by kernel_rfl) (fun _ _ _ h => h) (Or.inl ⟨by rfl, ?hy21⟩) ?rest21
    case hy21 => (intro w9; go_simp)
    simp only [Act.put, List.setIfInBounds_toArray, List.set_cons_zero, List.set_cons_succ]
    refine' WalkS.take0 25 _ (v := _) rfl (by kernel_rfl) (by kernel_rfl) (by kernel_rfl) (by kernel_rfl) (fun _ _ _ h => h) (Or.inl ⟨by rfl, ?hy22⟩) ?rest22
    case hy22 => (intro w9; go_simp <;> with_reducible rfl)
    simp only [Act.put, List.setIfInBounds_toArray, List.set_cons_zero, List.set_cons_succ]
    refine' WalkS.take0 26 _ (v := _) rfl (by kernel_rfl) (by kernel_rfl) (by kernel_rfl) (by kernel_rfl) (fun _ _ _ h => h) (Or.inl ⟨by rfl, ?hy23⟩) ?rest23
    case hy23 => (intro w9; go_simp <;> with_reducible rfl)
    simp only [Act.put, List.setIfInBounds_toArray, List.set_cons_zero, List.set_cons_succ]
    refine' WalkS.take0 27 _ (v := _) rfl (by kernel_rfl) (by kernel_rfl) (by kernel_rfl) (by kernel_rfl) (fun _ _ _ h => h) (Or.inl ⟨by rfl, ?hy24⟩) ?rest24
    case hy24 => (intro w9; go_simp <;> with_reducible rfl)
    simp only [Act.put, List.setIfInBounds_toArray, List.set_cons_zero, List.set_cons_succ]
    refine' WalkS.take0 28 _ (v := .bool true) rfl (by kernel_rfl) (by kernel_rfl) (by kernel_rfl) (by kernel_rfl) (fun _ _ _ h => h) (Or.inl ⟨by rfl, ?hy25⟩) ?rest25
    case hy25 => (intro w9; go_simp)
    simp only [Act.put, List.setIfInBounds_toArray, List.set_cons_zero, List.set_cons_succ]
    refine' WalkS.take0 29 _ (v := .bool true) rfl (by kernel_rfl) (by kernel_rfl) (by kernel_rfl) (by kernel_rfl) (fun _ _ _ h => h) (Or.inl ⟨by rfl, ?hy26⟩) ?rest26
    case hy26 => (intro w9; go_simp)
    simp only [Act.put, List.setIfInBounds_toArray, List.set_cons_zero, List.set_cons_succ]
    refine' WalkS.take0 30 _ (v := _) rfl (by kernel_rfl) (by kernel_rfl) (by kernel_rfl) (by kernel_rfl) (fun _ _ _ h => h) (Or.inl ⟨by rfl, ?hy27⟩) ?rest27
    case hy27 => (intro w9; go_simp <;> with_reducible rfl)
    simp only [Act.put, List.setIfInBounds_toArray, List.set_cons_zero, List.set_cons_succ]
    refine WalkS.done (by kernel_rfl) ?_
    go_wp2_with fail
    go_ret
    exact ⟨rfl, m_below_on HB12.out hS2⟩
  · have hE : encE y = 4 := by unfold encE; rw [if_neg hval]
    have hS : encS y = ⟨#[]⟩ := by unfold encS; rw [if_neg hval]
    simp only [Bool.not_eq_true] at hval
    rw [hE, hS, hval]
    go_wp2_with fail
    go_ret
    exact ⟨rfl, HB7.out⟩
end Go.Proofs.YtodajejjhfpdmaaDoor

namespace Go.Proofs.YtodajejjhfpdmaaDoor
open Go.RowKit Go.Instr Go.ChangeShapes Go.WideShapes Go.ChangeAt
open Go.ChangeMaps (open_string shut_string)
set_option maxHeartbeats 4000000 in
set_option maxRecDepth 100000 in
theorem frameCodes_lifted (os : Os) (started : os.Started) (H : Type) (enc : TypeId × Value → H) :
    ReturnsInHanded {} Tryd.checked os 3 .any (fun w args => (Rows.frameCodesSpec.pre enc Tryd.prog Tryd.f3 Rows.frameCodesRow.domain false w args ∧ laidMet Tryd.prog Rows.frameCodesRow.laid w) ∧ sizedMet enc Tryd.prog Tryd.f3 (OpenSpec.ofChange Rows.frameCodesSpec) false w args)
      (Rows.frameCodesSpec.post enc Tryd.prog Tryd.f3 false true false false) := by
  refine returnsInHanded_of_change_and (C := Tryd.checked) (X := fun w _ => laidMet Tryd.prog Rows.frameCodesRow.laid w) (fun _ _ _ hh h => h.of_heap hh) frame_own started (by kernel_rfl) Tryd.func3
    (ChangeSpec.witness_at (enc := enc) (C := Tryd.checked) (os := os) (X := fun w _ => laidMet Tryd.prog Rows.frameCodesRow.laid w) false (laidWorld os) #[.agg z34] 8 rfl (by kernel_rfl) (by kernel_rfl) (by kernel_rfl) (by kernel_rfl) (by kernel_rfl) (laidWorld_met os _)) ?_
  intro W base args ds gs before hval0 hW _ _ hL _
  have hval : ∀ (j : Nat) t v, Tryd.f3.params[j]? = some t → args[j]? = some v → Value.okWide Tryd.prog W .any base t v := hval0
  have hW' := hW
  obtain ⟨p, q, hA0, hV, rfl, hfz, hnd⟩ := hW
  have hA : DataW.TrodAll enc Tryd.prog W 0 (fun _ => true) true Tryd.f3.params.toList args.toList ds p := hA0
  rw [Tryd.params3] at hA hval
  obtain ⟨v0, vs0, d0, ds0, p0, q0, hargs, rfl, rfl, h0, r0⟩ := trodAll_cons hA
  obtain ⟨rfl, rfl, rfl⟩ := trodAll_nil r0
  obtain rfl : args = #[v0] := by cases args; simp_all
  obtain ⟨rfl, rfl⟩ := trodVars_none hV
  have k0 := h0
  have lt0 : ∀ x ∈ p0, x.block < W.heap.size := by obtain ⟨m, hm⟩ := k0; exact DataW.trod_lt m _ _ _ hm
  obtain ⟨cs0, rfl, _⟩ := okWide_struct Tryd.underlying29 (hval 0 29 v0 rfl rfl)
  obtain ⟨x0, a0, b0, n0, m0, k01, k02, hcs0, hf0, e01, e02, l01, l02, ht0, hm0, he0⟩ := open_frame h0.choose_spec
  obtain rfl : cs0 = frC x0 (.slice a0 n0 k01) (.slice b0 m0 k02) := Array.toList_inj.1 hcs0
  clear hA0 hval0
  refine (codes_any x0 a0 b0 n0 m0 k01 k02 W (env_of_laid hL) hf0 ht0 e01 e02 hm0 he0 l01 l02).mono fun e W' ⟨he, bel⟩ => ?_
  subst he
  exact ⟨_, rfl, _, _, _, [], _, [], hW', trodAll_mk1 (shut_bool Tryd.underlying4 _), (trodAll_cons_mk (Below.trod frame_laidOut (by kernel_rfl) (of_decide_eq_true (by kernel_rfl)) k0 bel lt0) trodAll_mk0), rfl, bel.frame _, fun h => by cases h⟩
theorem frameCodes_over : Rows.frameCodesRow.holds Tryd.pinned (OpenSpec.ofChange Rows.frameCodesSpec) :=
  OpenClaim.holds_of_wide 3 Tryd.f3 rfl rfl rfl rfl rfl rfl rfl ⟨rfl, rfl, rfl, rfl, rfl⟩ rfl rfl rfl rfl rfl (by kernel_rfl) Tryd.func3 (by kernel_rfl)
    (of_decide_eq_true (by kernel_rfl)) (by unfold Func.isWrapper; first | (rw [if_pos (by decide +kernel)]; kernel_rfl) | (rw [if_neg (by decide +kernel)]; exact ⟨rfl, rfl⟩))
    (fun os started H enc _ => frameCodes_lifted os started H enc)
theorem frameCodes_holds0 : Rows.FrameCodesSaid := frameCodes_over
/-- The statement: the card. -/
theorem frameCodes_holds : Rows.FrameCodesCardSaid :=
  Claim7.holds_tied_plain_at .later [] [.data] true (true, "7ed13fc011df5ef10bea253c36d7aca96492c31ec3e98f1f59ae9d290bafd484") false
    frameCodes_holds0 (fun _ h => by cases h) (by kernel_rfl) (fun _ h => by cases h) frameCodes_row_tie rfl ⟨rfl, rfl⟩ (by kernel_rfl) rfl
    (fun f fn hf hfn => by
      obtain rfl : f = 3 := Option.some.inj ((show Tryd.prog.funcNamed "talaria/talarialaw06.FrameCodes" = some 3 by kernel_rfl).symm.trans hf) |>.symm
      obtain rfl : fn = Tryd.f3 := (Option.some.inj (Tryd.func3.symm.trans hfn)).symm
      exact ⟨by kernel_rfl, fun j t ht => by
        rw [Tryd.params3] at ht
        rcases j with _ | j
        · obtain rfl := Option.some.inj ht
          exact (show Tryd.prog.wantsStandIn 29 = false by kernel_rfl)
        simp at ht⟩)
    (by kernel_rfl)
#print axioms frameCodes_holds
end Go.Proofs.YtodajejjhfpdmaaDoor
