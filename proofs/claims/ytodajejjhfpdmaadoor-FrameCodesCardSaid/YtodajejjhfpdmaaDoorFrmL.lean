/-
  Frame's Encode: the walk.
-/
import Derived.Test.YtodajejjhfpdmaaDoorFrmK
import Derived.Test.YtodajejjhfpdmaaDoorOctC
namespace Go.Proofs.YtodajejjhfpdmaaDoor
open Go.RowKit Go.Instr

theorem onesP4 (a b c d : Value) (ha : a.oneCell' = true) (hb : b.oneCell' = true) (hc : c.oneCell' = true) (hd : d.oneCell' = true) : ∀ u ∈ [a, b, c, d], u.oneCell' = true := by
  intro u hu
  simp only [List.mem_cons, List.not_mem_nil, or_false] at hu
  rcases hu with rfl | rfl | rfl | rfl
  all_goals assumption
def partR : RK PartV := { f := fun p => [.int .i64 p.k, .int .u64 p.n, .int .i64 p.z, .string p.s], c := 4, pos := by decide, len := fun _ => rfl, one := fun _ => onesP4 _ _ _ _ rfl rfl rfl rfl }
theorem EncAt.parts {base E : Nat} {w : World} {ps : List PartV} {v : Value} (h : EncAt base E w ps v) : PartsAt w v ps := by
  have ho : partR.Own 119 w base v ps := h.o
  rcases ho.at with ⟨rfl, rfl⟩ | ⟨b, off, cap, rfl, hb, hc⟩
  · exact .inl ⟨rfl, rfl⟩
  · refine .inr ⟨b, off, cap, rfl, fun i hi => ?_⟩
    have h4 : ∀ j, j < 4 → ∀ u, (partR.f ps[i])[j]? = some u → w.cell? ⟨b, off + i * 4 + j, none⟩ = some u := fun j hj u hu => by
      have := hc (i * 4 + j) u (by rw [show i * 4 + j = i * partR.c + j from rfl, partR.row_at ps i j hi hj]; exact hu)
      rw [Nat.add_assoc]
      exact this
    exact ⟨h4 0 (by decide) _ rfl, h4 1 (by decide) _ rfl, h4 2 (by decide) _ rfl, h4 3 (by decide) _ rfl⟩
theorem encs_len (ps : List PartV) (hf : ∀ p ∈ ps, p.fine) (h : joinE ps = 0) : (encs ps).length ≤ 2001 * ps.length := by
  induction ps with
  | nil => simp [encs]
  | cons p l ih =>
    by_cases hc : chk p = 0
    · simp only [joinE, if_pos hc] at h
      have h1 := enc_len p (hf p (by simp)) hc
      have h2 := ih (fun q hq => hf q (by simp [hq])) h
      have e : encs (p :: l) = enc p ++ encs l := by simp [encs]
      rw [e, List.length_append, List.length_cons]
      omega
    · simp only [joinE, if_neg hc] at h
      exact absurd h hc
theorem bodyF_size (f : Fr) (hfit : ∀ c ∈ letK f.kind, fitsF f c = true) (ht : f.text.size ≤ 1000) : (bodyF f).size ≤ 1000000 := by
  unfold bodyF joinS
  split
  · next h =>
    have h1 := encs_len _ (partsF_fine f ht) h
    have h2 := partsF_len f hfit
    have h3 : (⟨(encs (partsF f)).toArray⟩ : ByteArray).size = (encs (partsF f)).length := by simp [ByteArray.size]
    rw [h3]
    omega
  · exact Nat.zero_le _
def EncodeP (f : Fr) (w : World) (e : Ending) (w' : World) : Prop := e = .returned (.tuple #[.string (encS f), .int .i64 (encE f)]) ∧ Below w.heap.size w w'
def CodeLoop (w : World) (f : Fr) (a1 a2 : Option Addr) (c1 c2 E I : Nat) (wr : World) : Prop :=
  ∃ pos v, pos ≤ (letK f.kind).length ∧ IterAt wr I f.kind pos ∧ EncAt (E + 1) E wr ([n1 f.kind, n1 f.frm, n1 f.dest] ++ ((letK f.kind).take pos).flatMap (fldP f)) v ∧ Blk wr w.heap.size (frC f (.slice a1 f.ms.length c1) (.slice a2 f.es.length c2)) 47 ∧ Below w.heap.size w wr ∧ E < wr.heap.size
theorem MemsAt.lt {w : World} {a : Option Addr} {n c : Nat} {l : List Mem} (h : MemsAt w (.slice a n c) l) : ∀ b off, a = some ⟨b, off, none⟩ → b < w.heap.size := by
  rintro b off rfl
  rcases h with ⟨h, _⟩ | ⟨b', off', cap, h, hb, _⟩
  · cases h
  · cases h; exact hb
theorem EntsAt.lt {w : World} {a : Option Addr} {n c : Nat} {l : List Ent} (h : EntsAt w (.slice a n c) l) : ∀ b off, a = some ⟨b, off, none⟩ → b < w.heap.size := by
  rintro b off rfl
  rcases h with ⟨h, _⟩ | ⟨b', off', cap, h, hb, _⟩
  · cases h
  · cases h; exact hb
set_option maxHeartbeats 2000000 in
set_option maxRecDepth 20000 in
theorem Encode_any (f : Fr) (a1 a2 : Option Addr) (c1 c2 : Nat) (w : World) (hf : f.fine) (ht : f.text.size ≤ 1000) (henv : FEnv w) (hs1 : MemsAt w (.slice a1 f.ms.length c1) f.ms) (hs2 : EntsAt w (.slice a2 f.es.length c2) f.es) :
    Calls Tryd.prog 9 #[.agg (frC f (.slice a1 f.ms.length c1) (.slice a2 f.es.length c2))] w (EncodeP f w) := by
  have hB : Below w.heap.size w (w.alloc (.cells (frC f (.slice a1 f.ms.length c1) (.slice a2 f.es.length c2)) 47)) := (Below.refl _ _).alloc (Nat.le_refl _) _
  have hF : Blk (w.alloc (.cells (frC f (.slice a1 f.ms.length c1) (.slice a2 f.es.length c2)) 47)) w.heap.size (frC f (.slice a1 f.ms.length c1) (.slice a2 f.es.length c2)) 47 := Blk.new rfl
  have HB := Lib.hid hB
  have HF := Lib.hid hF
  have HENV := Lib.hid henv
  have HFF := Lib.hid hf
  have HM := Lib.hid hs1
  have HE := Lib.hid hs2
  have h1 := hf.1
  have h2 := hf.2.1
  have h3 := hf.2.2.1
  have htm : f.text.size ≤ maxLen := by unfold maxLen; omega
  have H1 := Lib.hid (valid_any f a1 a2 c1 c2 _ htm h1 (HENV.out.on HB.out HENV.out.pos))
  have RF := Lib.hid (show (w.alloc (.cells (frC f (.slice a1 f.ms.length c1) (.slice a2 f.es.length c2)) 47)).heap[w.heap.size]? = some (.cells (frC f (.slice a1 f.ms.length c1) (.slice a2 f.es.length c2)) 47 (0, 0)) from HF.out)
  clear hB hF henv hf hs1 hs2
  go_enter Tryd.func9, Tryd.ntmps9
  go_wp2_with (first | (refine wpList_load_row rfl 47 (.tmp 1) rfl w.heap.size rfl 47 (frC f (.slice a1 f.ms.length c1) (.slice a2 f.es.length c2)) (0, 0) _ RF.out Tryd.underlying47 rfl (by kernel_rfl) ?_))
  with_reducible refine H1.out.mono ?_
  rintro e w2 ⟨rfl, hB2⟩
  have HB2 := Lib.hid (m_below_on HB.out hB2)
  have F2 := Lib.hid (HF.out.on hB2)
  clear hB2 H1 RF
  by_cases hv : validF f = true
  · rw [hv]
    have c0 := F2.out.cell 0
    have c1' := F2.out.cell 1
    have c2' := F2.out.cell 2
    simp at c0 c1' c2'
    have hkn : 1 ≤ f.kind ∧ f.kind ≤ 16 := by
      unfold validF at hv
      rw [Bool.and_eq_true] at hv
      simpa [knownB] using hv.1
    have hall : ∀ c ∈ letK f.kind, fitsF f c = true := by
      unfold validF at hv
      rw [Bool.and_eq_true] at hv
      exact List.all_eq_true.1 hv.2
    have HALL := Lib.hid hall
    have HV := Lib.hid hv
    clear hall hv
    obtain ⟨E, hE⟩ : ∃ E, E = w2.heap.size := ⟨_, rfl⟩
    have hwE : w.heap.size < E := by rw [hE]; exact F2.out.lt
    have hl2 : w.heap.size < w2.heap.size := F2.out.lt
    have eA : EncAt (E + 1) E (w2.alloc (.cells #[.slice none 0 0] 87)) [] (.slice none 0 0) := ⟨Blk.new hE, World.ownsRow_nil _ _ _ _⟩
    have hsz : (w2.alloc (.cells #[.slice none 0 0] 87)).heap.size = E + 1 := by rw [hE]; simp
    have h6 := one_3 (E + 1) E [] (.slice none 0 0) f.kind f.frm f.dest (w2.alloc (.cells #[.slice none 0 0] 87)) eA (Nat.lt_succ_self _) (by omega) (by simp) h1 h2 h3
    rw [hsz] at h6
    have H6 := Lib.hid h6
    have B3 := Lib.hid (show Below w.heap.size w (w2.alloc (.cells #[.slice none 0 0] 87)) from HB2.out.alloc HB2.out.size _)
    have F3 := Lib.hid (F2.out.alloc (.cells #[.slice none 0 0] 87))
    have HWE := Lib.hid hwE
    have HSZ := Lib.hid hsz
    clear eA h6 hsz
    go_wp2_with fail
    simp only [← hE]
    with_reducible refine H6.out.mono ?_
    rintro e w4 ⟨⟨v4, hv4⟩, ⟨hk4, ht4⟩, rfl⟩
    have F4 := Lib.hid (ht4 _ _ _ F3.out (by decide) (by decide))
    have B4 := Lib.hid (B3.out.trans (hk4.below (k := w.heap.size) (by omega) (by omega)))
    have V4 := Lib.hid hv4
    have hk := (HENV.out.on B4.out HENV.out.pos) f.kind (by omega)
    have c0 := F4.out.cell 0
    simp at c0
    have hkk : (f.kind : Int) < 17 := by omega
    clear H6 F3 B3 hv4 hk4 ht4 hE c1' c2' HWE HSZ
    go_wp2_with fail
    have B5 := Lib.hid (show Below w.heap.size w (w4.iter (letS f.kind) 0) from B4.out.alloc B4.out.size (.stringIter (letS f.kind) 0))
    have F5 := Lib.hid (show Blk (w4.iter (letS f.kind) 0) w.heap.size (frC f (.slice a1 f.ms.length c1) (.slice a2 f.es.length c2)) 47 from F4.out.alloc (.stringIter (letS f.kind) 0))
    have I5 := Lib.hid (show IterAt (w4.iter (letS f.kind) 0) w4.heap.size f.kind 0 from World.iter_heap w4 (letS f.kind) 0)
    have V5 := Lib.hid (V4.out.on (show Below w4.heap.size w4 (w4.iter (letS f.kind) 0) from (Below.refl _ _).alloc (Nat.le_refl _) (.stringIter (letS f.kind) 0)))
    have hE4 : E < w4.heap.size := V4.out.e.lt
    obtain ⟨I, hI⟩ : ∃ I, I = w4.heap.size := ⟨_, rfl⟩
    rw [← hI] at I5
    simp only [← hI]
    have hIX := Lib.hid (show w.heap.size < I ∧ E < I from ⟨by rw [hI]; exact F4.out.lt, by rw [hI]; exact hE4⟩)
    have HST : Hid (CodeLoop w f a1 a2 c1 c2 E I (w4.iter (letS f.kind) 0)) := Lib.hid ⟨0, v4, Nat.zero_le _, I5.out, by simpa using V5.out, F5.out, B5.out, V5.out.e.lt⟩
    clear c0 hk B5 F5 I5 V5 F4 B4 V4 hI hE4
    go_loopw [6] (fun _ wr => CodeLoop w f a1 a2 c1 c2 E I wr) (fun _ wr => (letK f.kind).length - wr.iterPos I)
    case atStart => exact HST.out
    case round =>
      obtain ⟨pos, v, hp, hit, hev, hb, hB, hEl⟩ := hrel
      have hps := iterPos_of hit
      clear HST
      have hx := hIX.out
      by_cases hlt : pos < (letK f.kind).length
      · have hrun := run_next_let 0 hit hlt
        have HB4 := Lib.hid (Lib.below_iterAt hB (k := I) (by omega) (letS f.kind) (pos + 1))
        have I4 := Lib.hid (show IterAt (wr.iterAt I (letS f.kind) (pos + 1)) I f.kind (pos + 1) from Lib.iterAt_heap wr I (letS f.kind) pos (pos + 1) hit)
        have F4 := Lib.hid (show Blk (wr.iterAt I (letS f.kind) (pos + 1)) w.heap.size (frC f (.slice a1 f.ms.length c1) (.slice a2 f.es.length c2)) 47 from (Lib.iterAt_other wr I w.heap.size (letS f.kind) (pos + 1) (by omega)).trans hb)
        have R4 := Lib.hid (show (wr.iterAt I (letS f.kind) (pos + 1)).heap[w.heap.size]? = some (.cells (frC f (.slice a1 f.ms.length c1) (.slice a2 f.es.length c2)) 47 (0, 0)) from F4.out)
        have V4 : Hid (EncAt (E + 1) E (wr.iterAt I (letS f.kind) (pos + 1)) ([n1 f.kind, n1 f.frm, n1 f.dest] ++ ((letK f.kind).take pos).flatMap (fldP f)) v) := Lib.hid ⟨(Lib.iterAt_other wr I E (letS f.kind) (pos + 1) (by omega)).trans hev.e, own_block hev.o (fun g hg => Lib.iterAt_other wr I g (letS f.kind) (pos + 1) (fun e => own_ne_iter hev.o hit (by rw [hg, e])))⟩
        have hsz4 : (wr.iterAt I (letS f.kind) (pos + 1)).heap.size = wr.heap.size := Lib.iterAt_size _ _ _ _
        have hin : (letK f.kind)[pos] ∈ letK f.kind := List.getElem_mem hlt
        have hstep : (letK f.kind).take (pos + 1) = (letK f.kind).take pos ++ [(letK f.kind)[pos]] := List.take_succ_eq_append_getElem hlt
        obtain ⟨c, hc⟩ : ∃ c, (letK f.kind)[pos] = c := ⟨_, rfl⟩
        rw [hc] at hrun hin hstep
        have HSTEP := Lib.hid hstep
        have M4 := HM.out.on (HB4.out)
        have N4 := HE.out.on (HB4.out)
        have hm1 := HM.out.lt
        have hm2 := HE.out.lt
        have H7 := Lib.hid (field_any (E + 1) E _ v a1 a2 c1 c2 c f _ (letK_in _ _ hin) V4.out (Nat.lt_succ_self _) (by omega) (by have := front_len f pos hlt; omega) HFF.out (HALL.out c hin) M4 (fun b off h => by have := hm1 b off h; omega) N4 (fun b off h => by have := hm2 b off h; omega))
        clear hit hev hb hB hin hstep hc M4 N4 hm1 hm2 V4 hsz4
        go_wp2_with (first | (refine wpList_load_row rfl 47 (.tmp 1) rfl w.heap.size rfl 47 (frC f (.slice a1 f.ms.length c1) (.slice a2 f.es.length c2)) (0, 0) _ R4.out Tryd.underlying47 rfl (by kernel_rfl) ?_))
        with_reducible refine H7.out.mono ?_
        rintro e w5 ⟨⟨v5, hv5⟩, ⟨hk5, ht5⟩, rfl⟩
        have I5 := Lib.hid (show IterAt w5 I f.kind (pos + 1) from ht5.iter _ _ _ I4.out)
        have F5 := Lib.hid (ht5 _ _ _ F4.out (by decide) (by decide))
        have B5 := Lib.hid (HB4.out.trans (hk5.below (k := w.heap.size) (by omega) (by omega)))
        have HREL : Hid (CodeLoop w f a1 a2 c1 c2 E I w5) := Lib.hid ⟨pos + 1, v5, hlt, I5.out, by
          rw [HSTEP.out, List.flatMap_append, ← List.append_assoc]
          simpa using hv5, F5.out, B5.out, hv5.e.lt⟩
        have hp5 := iterPos_of I5.out
        clear hv5 hk5 ht5 R4 H7 hrun
        go_wp2_with fail
        go_roundw
        case rel => exact HREL.out
        case measure => rw [hp5, hps]; omega
      · have hrun := run_next_fin 0 hit hlt
        have e0 := hev.e.cell 0
        simp at e0
        have hfull : [n1 f.kind, n1 f.frm, n1 f.dest] ++ ((letK f.kind).take pos).flatMap (fldP f) = partsF f := by
          rw [List.take_of_length_le (by omega)]; rfl
        rw [hfull] at hev
        have H8 := Lib.hid (join_any v (partsF f) wr (by have := partsF_len f HALL.out; omega) (partsF_fine f ht) hev.parts)
        have HB9 := Lib.hid hB
        clear hit hev hb hB hfull
        go_wp2_with fail
        with_reducible refine H8.out.mono ?_
        rintro e w6 ⟨rfl, hB6⟩
        have HB6 := Lib.hid (m_below_on HB9.out hB6)
        have H9 := Lib.hid (Seal_any (joinS (partsF f)) w6 (bodyF_size f HALL.out ht))
        clear H8 HB9 hB6
        go_wp2_with fail
        with_reducible refine H9.out.mono ?_
        rintro e w7 ⟨rfl, hB7⟩
        have HB7 := Lib.hid (m_below_on HB6.out hB7)
        clear H9 HB6 hB7
        go_wp2_with fail
        go_ret2
        exact ⟨by rw [show encS f = bodyF f ++ sealB (bodyF f) by simp [encS, HV.out], show encE f = 0 by simp [encE, HV.out]]; rfl, HB7.out⟩
  · simp only [Bool.not_eq_true] at hv
    rw [hv]
    go_wp2_with fail
    go_ret2
    exact ⟨by rw [show encS f = ⟨#[]⟩ by simp [encS, hv], show encE f = 4 by simp [encE, hv]]; rfl, HB2.out⟩
end Go.Proofs.YtodajejjhfpdmaaDoor
