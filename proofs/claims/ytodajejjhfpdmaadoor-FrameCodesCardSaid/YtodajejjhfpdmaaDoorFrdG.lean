/-
  Frame's Decode: what it answers, and the walk.
-/
import Derived.Test.YtodajejjhfpdmaaDoorFrdF
import Derived.Test.YtodajejjhfpdmaaDoorFrmK
namespace Go.Proofs.YtodajejjhfpdmaaDoor
open Go.RowKit Go.Instr

theorem dfield_any {base D B F : Nat} {s : Sd} {f : Fr} {w : World} (c : Nat) (hc : c ∈ l14) (h : DecAt w D B s) (hf : FrAt w F base f) (hb : base ≤ B) (hbD : base ≤ D) (hF : base ≤ F) :
    Calls Tryd.prog 33 #[.pointer (some ⟨D, 0, none⟩), .pointer (some ⟨F, 0, none⟩), .int .i32 c] w (FldP base D B F w (dField c f s)) := by
  simp only [l14, List.mem_cons, List.not_mem_nil, or_false] at hc
  rcases hc with rfl | rfl | rfl | rfl | rfl | rfl | rfl | rfl | rfl | rfl | rfl | rfl | rfl | rfl
  · exact dfield_E h hf hb hbD hF
  · exact dfield_K h hf hb hbD hF
  · exact dfield_T h hf hb hbD hF
  · exact dfield_V h hf hb hbD hF
  · exact dfield_M h hf hb hbD hF
  · exact dfield_D h hf hb hbD hF
  · exact dfield_F h hf hb hbD hF
  · exact dfield_L h hf hb hbD hF
  · exact dfield_R h hf hb hbD hF
  · exact dfield_W h hf hb hbD hF
  · exact dfield_B h hf hb hbD hF
  · exact dfield_S h hf hb hbD hF
  · exact dfield_N h hf hb hbD hF
  · exact dfield_C h hf hb hbD hF
def fr0 : Fr := ⟨0, 0, 0, 0, 0, 0, 0, 0, false, ⟨#[]⟩, false, false, 0, 0, 0, 0, 0, 0, ⟨0, 0, 0, 0, 0⟩, 0, ⟨0, 0, 0, 0, 0, 0, 0, 0⟩, [], []⟩
abbrev z34 : Array Value := #[.int .u8 0, .int .u8 0, .int .u8 0, .int .u32 0, .int .u8 0, .int .u32 0, .int .u8 0, .int .u8 0, .bool false, .string ⟨#[]⟩, .bool false, .bool false, .int .u8 0, .int .u8 0, .int .u32 0, .int .u32 0, .int .u8 0, .int .u32 0, .int .u8 0, .int .u8 0, .int .u8 0, .int .u32 0, .int .u32 0, .int .u32 0, .slice none 0 0, .int .u8 0, .int .u8 0, .int .u8 0, .int .u8 0, .int .u8 0, .int .u8 0, .int .u8 0, .int .u8 0, .slice none 0 0]
abbrev h34 (k a b : Nat) : Array Value := #[.int .u8 k, .int .u8 a, .int .u8 b, .int .u32 0, .int .u8 0, .int .u32 0, .int .u8 0, .int .u8 0, .bool false, .string ⟨#[]⟩, .bool false, .bool false, .int .u8 0, .int .u8 0, .int .u32 0, .int .u32 0, .int .u8 0, .int .u32 0, .int .u8 0, .int .u8 0, .int .u8 0, .int .u32 0, .int .u32 0, .int .u32 0, .slice none 0 0, .int .u8 0, .int .u8 0, .int .u8 0, .int .u8 0, .int .u8 0, .int .u8 0, .int .u8 0, .int .u8 0, .slice none 0 0]
/-- The fields, till something is wrong. -/
def dFlds : List Nat → Fr → Sd → Fr × Sd
  | [], f, s => (f, s)
  | c :: l, f, s => if (dField c f s).2.wr = true then dField c f s else dFlds l (dField c f s).1 (dField c f s).2
def headF (s : Sd) : Fr := { fr0 with kind := (dHead s).1.1, frm := (dHead s).1.2.1, dest := (dHead s).1.2.2 }
/-- The frame that a text without its checksum holds, and the error. -/
def decT (t : ByteArray) : Fr × Int :=
  if endF (dHead ⟨t, 0, false⟩).2.r (dHead ⟨t, 0, false⟩).2.f = 2 then (fr0, 2)
  else if knownB (dHead ⟨t, 0, false⟩).1.1 = false then (fr0, 4)
  else if (dFlds (letK (dHead ⟨t, 0, false⟩).1.1) (headF ⟨t, 0, false⟩) (dHead ⟨t, 0, false⟩).2).2.wr = true then (fr0, 4)
  else if endF (dFlds (letK (dHead ⟨t, 0, false⟩).1.1) (headF ⟨t, 0, false⟩) (dHead ⟨t, 0, false⟩).2).2.r (dFlds (letK (dHead ⟨t, 0, false⟩).1.1) (headF ⟨t, 0, false⟩) (dHead ⟨t, 0, false⟩).2).2.f = 0 then
    ((dFlds (letK (dHead ⟨t, 0, false⟩).1.1) (headF ⟨t, 0, false⟩) (dHead ⟨t, 0, false⟩).2).1, 0)
  else (fr0, endF (dFlds (letK (dHead ⟨t, 0, false⟩).1.1) (headF ⟨t, 0, false⟩) (dHead ⟨t, 0, false⟩).2).2.r (dFlds (letK (dHead ⟨t, 0, false⟩).1.1) (headF ⟨t, 0, false⟩) (dHead ⟨t, 0, false⟩).2).2.f)
/-- What Decode answers. -/
def decF (s : ByteArray) : Fr × Int := if openE s = 0 then decT (openT s) else (fr0, openE s)
/-- What Decode leaves. -/
def DecodeP (p : Fr × Int) (w : World) (e : Ending) (w' : World) : Prop :=
  ∃ sl tl, e = .returned (.tuple #[.agg (frC p.1 sl tl), .int .i64 p.2]) ∧ Below w.heap.size w w' ∧ memR.At w' sl p.1.ms ∧ entR.At w' tl p.1.es
theorem DecodeP.err {w w' : World} (q : Int) (hB : Below w.heap.size w w') : DecodeP (fr0, q) w (.returned (.tuple #[.agg z34, .int .i64 q])) w' :=
  ⟨.slice none 0 0, .slice none 0 0, rfl, hB, .inl ⟨rfl, rfl⟩, .inl ⟨rfl, rfl⟩⟩
theorem results_cell_tmp_row {P : Program} {fn : Func} {p u : Tmp} {ty : TypeId} (h : fn.results = #[.cell p ty, .tmp u]) (tmps : Array Value) (w : World) (g : Nat) (t : TypeId) (cs : Array Value) (fr : Nat × Nat) (d : TypeDesc)
    (hp : tmps.getD p undef = .pointer (some ⟨g, 0, none⟩)) (hg : w.heap[g]? = some (.cells cs t fr))
    (hu : P.underlying ty = some d) (hd : (match d with | .struct _ | .array _ _ => true | _ => false) = true) (hi : (P.info? ty).map (·.size) = some cs.size) :
    (results fn tmps).run P w = .ok (.tuple #[.agg cs, tmps.getD u undef]) w := by
  rw [results_cell_tmp h, hp]
  simp [asAddr, run_loadVar_row w g t ty cs fr d hg hu hd hi, Result.andThen]
theorem dshort_any {D B : Nat} {s : Sd} {w : World} (h : DecAt w D B s) :
    Calls Tryd.prog 31 #[.pointer (some ⟨D, 0, none⟩)] w fun e w' => e = .returned (.bool (endF s.r s.f == 2)) ∧ w = w' := by
  have c0 := h.1.cell 0
  simp at c0
  have H1 := Lib.hid (end_any B s.r s.f w h.2.1)
  clear h
  go_enter Tryd.func31, Tryd.ntmps31
  go_wp2_with fail
  with_reducible refine H1.out.mono ?_
  rintro e w2 ⟨rfl, rfl⟩
  go_wp2_with fail
  go_ret
  exact ⟨rfl, rfl⟩
theorem below_sr {b g : Nat} {w0 w : World} (h : Below b w0 w) (hb : b ≤ g) (cs : Array Value) : Below b w0 (w.setRow g cs) :=
  h.trans ⟨rfl, rfl, rfl, by simp [World.setRow], fun k hk => setRow_other w g k cs (by omega)⟩
def DecLoop (w : World) (k : Nat) (f1 : Fr) (s1 : Sd) (D B F I : Nat) (wr : World) : Prop :=
  ∃ i f s, i ≤ (letK k).length ∧ IterAt wr I k i ∧ dFlds ((letK k).drop i) f s = dFlds (letK k) f1 s1 ∧ s.wr = false ∧ DecAt wr D B s ∧ FrAt wr F (w.heap.size + 1) f ∧ Blk wr w.heap.size z34 47 ∧ Below w.heap.size w wr
theorem FrAt.on {w w' : World} {F b : Nat} {f : Fr} (h : FrAt w F b f) (hB : Below w.heap.size w w') : FrAt w' F b f := by
  obtain ⟨s, t, h1, h2, h3⟩ := h
  exact ⟨s, t, h1.on hB, h2.on hB, h3.on hB⟩
theorem h34_one (k a b : Nat) : (h34 k a b).all (fun v => v.oneCell') = true := by simp [Value.oneCell']
theorem DecAt.sr {w : World} {D B F : Nat} {s : Sd} (h : DecAt w D B s) (h1 : F ≠ D) (h2 : F ≠ B) (cs : Array Value) : DecAt (w.setRow F cs) D B s :=
  ⟨(setRow_other w F D cs (Ne.symm h1)).trans h.1, (setRow_other w F B cs (Ne.symm h2)).trans h.2.1, h.2.2⟩
theorem frC_one (f : Fr) (a b : Option Addr) (n m c d : Nat) : (frC f (.slice a n c) (.slice b m d)).all (fun v => v.oneCell') = true := by simp [Value.oneCell']
theorem z34_one : z34.all (fun v => v.oneCell') = true := by simp [Value.oneCell']
set_option maxHeartbeats 1500000 in
set_option maxRecDepth 20000 in
theorem Decode_any (s : ByteArray) (w : World) (hs : s.size ≤ 1000000) (henv : FEnv w) :
    Calls Tryd.prog 11 #[.string s] w (DecodeP (decF s) w) := by
  have R0 := Lib.hid (Blk.new (w := w) (B := w.heap.size) (T := 47) (cs := z34) rfl)
  have B0 := Lib.hid (show Below w.heap.size w (w.alloc (.cells z34 47)) from (Below.refl _ _).alloc (Nat.le_refl _) _)
  have HENV := Lib.hid henv
  have H1 := Lib.hid (Open_any s (w.alloc (.cells z34 47)) hs)
  clear henv
  go_enter Tryd.func11, Tryd.ntmps11
  go_wp2_with fail
  refine H1.out.mono ?_
  rintro e w2 ⟨rfl, hB2⟩
  have B2 := Lib.hid (m_below_on B0.out hB2)
  have R2 := Lib.hid (R0.out.on hB2)
  clear H1 hB2 R0 B0
  by_cases hq : openE s = 0
  · rw [hq]
    have hdec : decF s = decT (openT s) := by unfold decF; rw [if_pos hq]
    have hopen : (openT s).size ≤ 1000000 := by
      unfold openT
      split
      · split
        · rw [ByteArray.size_extract]; omega
        · exact Nat.zero_le _
      · exact Nat.zero_le _
    obtain ⟨t, ht⟩ : ∃ t, t = openT s := ⟨_, rfl⟩
    rw [← ht] at hdec hopen ⊢
    have HDEC := Lib.hid hdec
    have H2 := Lib.hid (read_any t w2)
    have hw2 : w.heap.size < w2.heap.size := R2.out.lt
    clear hdec ht hq
    go_wp2_with fail
    with_reducible refine H2.out.mono ?_
    rintro e w3 ⟨rfl, rfl⟩
    have hB3 : ReaderAt (w2.alloc (.cells #[.string t, .int .i64 0] 134)) w2.heap.size t 0 := Blk.new rfl
    have hsz : (w2.alloc (.cells #[.string t, .int .i64 0] 134)).heap.size = w2.heap.size + 1 := by simp
    have D3 : DecAt ((w2.alloc (.cells #[.string t, .int .i64 0] 134)).alloc (.cells #[.pointer (some ⟨w2.heap.size, 0, none⟩), .bool false] 100)) (w2.heap.size + 1) w2.heap.size ⟨t, 0, false⟩ :=
      ⟨Blk.new hsz.symm, Blk.alloc (T := 134) hB3 _, hopen⟩
    have R3 := Lib.hid ((R2.out.alloc (.cells #[.string t, .int .i64 0] 134)).alloc (.cells #[.pointer (some ⟨w2.heap.size, 0, none⟩), .bool false] 100))
    have B3 := Lib.hid ((B2.out.alloc B2.out.size (.cells #[.string t, .int .i64 0] 134)).alloc (by rw [hsz]; omega) (.cells #[.pointer (some ⟨w2.heap.size, 0, none⟩), .bool false] 100))
    obtain ⟨B, hBe⟩ : ∃ B, B = w2.heap.size := ⟨_, rfl⟩
    rw [← hBe] at D3 R3 B3 hw2
    have DD3 := Lib.hid D3
    have H3 := Lib.hid (dhead_any (base := w.heap.size + 1) D3 (by omega) (by omega))
    have HBE := Lib.hid hBe
    clear H2 R2 B2 hB3 hsz D3 hBe
    go_wp2_with fail
    simp only [← HBE.out]
    with_reducible refine H3.out.mono ?_
    rintro e w4 ⟨rfl, q4⟩
    have R4 := Lib.hid (R3.out.below q4.2.1 (Nat.lt_succ_self _))
    have B4 := Lib.hid (B3.out.trans (q4.2.1.mono (Nat.le_succ _)))
    have D4 := Lib.hid q4.1
    obtain ⟨kk, ka, kb, hh⟩ : ∃ kk ka kb, (dHead ⟨t, 0, false⟩).1 = (kk, ka, kb) := ⟨_, _, _, rfl⟩
    have hkk : kk < 256 := by have : (dHead ⟨t, 0, false⟩).1.1 < 256 := dOne_lt _; rw [hh] at this; exact this
    obtain ⟨s1, hs1⟩ : ∃ s1, (dHead ⟨t, 0, false⟩).2 = s1 := ⟨_, rfl⟩
    have hwr1 : s1.wr = false := by rw [← hs1]; rfl
    rw [hs1] at D4
    have HH := Lib.hid (And.intro hh hs1)
    have hf1 : headF ⟨t, 0, false⟩ = { fr0 with kind := kk, frm := ka, dest := kb } := by unfold headF; rw [hh]
    have HF1 := Lib.hid hf1
    simp only [hh]
    clear H3 R3 B3 DD3 q4 HBE hh hs1 hf1
    have D5 := Lib.hid ((D4.out.on (show Below w4.heap.size w4 (w4.alloc (.cells z34 47)) from (Below.refl _ _).alloc (Nat.le_refl _) _)).sr (F := w4.heap.size) (Ne.symm (Nat.ne_of_lt D4.out.1.lt)) (Ne.symm (Nat.ne_of_lt D4.out.ltB)) (h34 kk ka kb))
    have Z5 : Blk (w4.alloc (.cells z34 47)) w4.heap.size z34 47 := Blk.new rfl
    have F0 := Lib.hid (setRow_blk (h34 kk ka kb) Z5)
    have F5 : Hid (FrAt ((w4.alloc (.cells z34 47)).setRow w4.heap.size (h34 kk ka kb)) w4.heap.size (w.heap.size + 1) { fr0 with kind := kk, frm := ka, dest := kb }) := Lib.hid ⟨.slice none 0 0, .slice none 0 0, F0.out, World.ownsRow_nil _ _ _ _, World.ownsRow_nil _ _ _ _⟩
    have R5 := Lib.hid ((R4.out.alloc (.cells z34 47)).grown (grown_setRow _ w4.heap.size (h34 kk ka kb)) (fun e => Nat.ne_of_lt R4.out.lt (Option.some.inj e)))
    have B5 := Lib.hid (below_sr (g := w4.heap.size) (B4.out.alloc B4.out.size (.cells z34 47)) B4.out.size (h34 kk ka kb))
    have H5 := Lib.hid (dshort_any D5.out)
    have hw4 : w.heap.size < w4.heap.size := R4.out.lt
    have RZ := Lib.hid (blk_raw Z5)
    have HON := Lib.hid (h34_one kk ka kb)
    clear R4 B4 D4 Z5
    go_wp2_with (first | (refine wpList_store_row rfl 47 (.tmp 7) (.tmp 24) rfl w4.heap.size (h34 kk ka kb) rfl rfl 47 z34 RZ.out (by kernel_rfl) rfl HON.out ?_))
    obtain ⟨w5, hw5⟩ : ∃ w5, w5 = (w4.alloc (.cells z34 47)).setRow w4.heap.size (h34 kk ka kb) := ⟨_, rfl⟩
    obtain ⟨F, hFe⟩ : ∃ F, F = w4.heap.size := ⟨_, rfl⟩
    rw [← hw5] at D5 R5 B5 H5 F5 F0 ⊢
    rw [← hFe] at hw4 F5 F0 ⊢
    clear RZ HON
    with_reducible refine H5.out.mono ?_
    rintro e w6 ⟨rfl, rfl⟩
    clear hw5 hFe H5
    by_cases hshort : endF s1.r s1.f = 2
    · have hb2 : (endF s1.r s1.f == 2) = true := by rw [hshort]; rfl
      have hdt : decT t = (fr0, 2) := by
        unfold decT
        rw [HH.out.2, if_pos hshort]
      have RR := Lib.hid (blk_raw R5.out)
      have HDT := Lib.hid hdt
      rw [hb2]
      clear hdt hshort hb2
      go_wp2_with (first | (refine wpList_store_row rfl 47 (.tmp 2) (.tmp 26) rfl w.heap.size z34 rfl rfl 47 z34 RR.out (by kernel_rfl) rfl z34_one ?_))
      refine bodyPost_ret (results_cell_tmp_row (p := 2) (u := 3) Tryd.results11 _ _ w.heap.size 47 _ (0, 0) _ rfl (blk_raw (setRow_blk z34 R5.out)) Tryd.underlying47 rfl (by kernel_rfl)) rfl ?_
      rw [HDEC.out, HDT.out]
      exact DecodeP.err 2 (below_sr B5.out (Nat.le_refl _) _)
    · have hb2 : (endF s1.r s1.f == 2) = false := by simpa using hshort
      rw [hb2]
      have c0 := F0.out.cell 0
      simp at c0
      have HS := Lib.hid hshort
      clear hb2 hshort
      go_wp2_with fail
      with_reducible refine (known_any _ _).mono ?_
      rintro e w6 ⟨rfl, hB6⟩
      have R6 := Lib.hid (R5.out.on hB6)
      have B6 := Lib.hid (m_below_on B5.out hB6)
      have D6 := Lib.hid (D5.out.on hB6)
      have F6 := Lib.hid (F5.out.on hB6)
      have F06 := Lib.hid (F0.out.on hB6)
      clear hB6 R5 B5 D5 F5 F0 c0
      by_cases hkn : knownB kk = true
      · rw [hkn]
        have hk16 : 1 ≤ kk ∧ kk ≤ 16 := by simpa [knownB] using hkn
        have hc := (HENV.out.on B6.out HENV.out.pos) kk (by omega)
        have c0 := F06.out.cell 0
        simp at c0
        have hkk' : (kk : Int) < 17 := by omega
        go_wp2_with fail
        obtain ⟨f1, hf1⟩ : ∃ f1 : Fr, f1 = { fr0 with kind := kk, frm := ka, dest := kb } := ⟨_, rfl⟩
        rw [← hf1] at F6 HF1
        obtain ⟨I, hI⟩ : ∃ I, I = w6.heap.size := ⟨_, rfl⟩
        have hBI : Below w6.heap.size w6 (w6.iter (letS kk) 0) := (Below.refl _ _).alloc (Nat.le_refl _) (.stringIter (letS kk) 0)
        have hX : B + 1 < I ∧ F < I ∧ w.heap.size < I ∧ w.heap.size < B := by
          rw [hI]; exact ⟨D6.out.1.lt, F06.out.lt, R6.out.lt, hw2⟩
        have HX := Lib.hid hX
        have HST : Hid (DecLoop w kk f1 s1 (B + 1) B F I (w6.iter (letS kk) 0)) := Lib.hid ⟨0, f1, s1, Nat.zero_le _, by rw [hI]; exact World.iter_heap w6 (letS kk) 0, rfl, hwr1, D6.out.on hBI, F6.out.on hBI, R6.out.on hBI, m_below_on B6.out hBI⟩
        have HW := Lib.hid hw4
        simp only [← hI]
        clear hc c0 hI hBI R6 B6 D6 F6 F06 hX hf1 hw4 hwr1
        go_loopw [9] (fun _ wr => DecLoop w kk f1 s1 (B + 1) B F I wr) (fun _ wr => (letK kk).length - wr.iterPos I)
        case atStart => exact HST.out
        case round => as_aux_lemma =>
          obtain ⟨pos, f, sd, hp, hit, heq, hwr, hd, hfr, hr, hB⟩ := hrel
          have hps := iterPos_of hit
          have hx := HX.out
          have hw4 := HW.out
          clear HST
          by_cases hlt : pos < (letK kk).length
          · have hrun := run_next_let 0 hit hlt
            have hgr : wr.grownBy (wr.iterAt I (letS kk) (pos + 1)) (some I) := ⟨rfl, rfl, rfl, by rw [Lib.iterAt_size]; exact Nat.le_refl _, fun k _ hk => Lib.iterAt_other wr I k (letS kk) (pos + 1) (fun e => hk (by rw [e]))⟩
            have HB4 := Lib.hid (Lib.below_iterAt hB (k := I) (by omega) (letS kk) (pos + 1))
            have I4 := Lib.hid (show IterAt (wr.iterAt I (letS kk) (pos + 1)) I kk (pos + 1) from Lib.iterAt_heap wr I (letS kk) pos (pos + 1) hit)
            have R4 := Lib.hid (hr.grown hgr (fun e => by have := Option.some.inj e; omega))
            have D4 : Hid (DecAt (wr.iterAt I (letS kk) (pos + 1)) (B + 1) B sd) := Lib.hid ⟨hd.1.grown hgr (fun e => by have := Option.some.inj e; omega), (hgr.block B hd.ltB (fun e => by have := Option.some.inj e; omega)).trans hd.2.1, hd.2.2⟩
            have F4 : Hid (FrAt (wr.iterAt I (letS kk) (pos + 1)) F (w.heap.size + 1) f) := Lib.hid (by
              obtain ⟨sl, tl, h1, h2, h3⟩ := hfr
              exact ⟨sl, tl, h1.grown hgr (fun e => by have := Option.some.inj e; omega), h2.block (fun g hg => hgr.block g (World.ownsRow.lt h2 g hg).2 (fun e => own_ne_iter h2 hit (by rw [hg, e]))), h3.block (fun g hg => hgr.block g (World.ownsRow.lt h3 g hg).2 (fun e => own_ne_iter h3 hit (by rw [hg, e])))⟩)
            have hin : (letK kk)[pos] ∈ letK kk := List.getElem_mem hlt
            have hstep : (letK kk).drop pos = (letK kk)[pos] :: (letK kk).drop (pos + 1) := List.drop_eq_getElem_cons hlt
            obtain ⟨c, hc⟩ : ∃ c, (letK kk)[pos] = c := ⟨_, rfl⟩
            rw [hc] at hrun hin hstep
            rw [hstep] at heq
            have HEQ := Lib.hid heq
            have H7 := Lib.hid (dfield_any c (letK_in _ _ hin) D4.out F4.out (by omega) (by omega) (by omega))
            obtain ⟨fn, sn, hfs⟩ : ∃ fn sn, dField c f sd = (fn, sn) := ⟨_, _, rfl⟩
            rw [hfs] at H7
            have HFS := Lib.hid hfs
            have hIl : I < (wr.iterAt I (letS kk) (pos + 1)).heap.size := (Array.getElem?_eq_some_iff.1 I4.out).1
            clear hit heq hwr hd hfr hr hB hgr hin hstep hc hfs D4 F4
            go_wp2_with fail
            with_reducible refine H7.out.mono ?_
            rintro e w8 ⟨rfl, hd8, hb8, hk8, hf8⟩
            have I8 := Lib.hid (show IterAt w8 I kk (pos + 1) from (hk8.2 I hIl (by omega) (by omega) (by omega)).trans I4.out)
            have R8 := Lib.hid (R4.out.below hb8 (Nat.lt_succ_self _))
            have B8 := Lib.hid (HB4.out.trans (hb8.mono (Nat.le_succ _)))
            have hp8 := iterPos_of I8.out
            have c1 := hd8.1.cell 1
            simp at c1
            have D8 := Lib.hid hd8
            have F8 := Lib.hid hf8
            clear hb8 hk8 hd8 hf8 H7 I4 R4 HB4 hIl hrun
            by_cases hwn : sn.wr = true
            · rw [hwn] at c1
              have hres : dFlds (letK kk) f1 s1 = (fn, sn) := by
                rw [← HEQ.out]
                unfold dFlds
                rw [HFS.out, if_pos hwn]
              have hdt : decT t = (fr0, 4) := by
                unfold decT
                rw [HH.out.2, if_neg HS.out, HF1.out, HH.out.1, if_neg (by rw [hkn]; decide), hres, if_pos hwn]
              have HDT := Lib.hid hdt
              have RR := Lib.hid (blk_raw R8.out)
              clear hdt hres
              go_wp2_with (first | (refine wpList_store_row rfl 47 (.tmp 2) (.tmp 46) rfl w.heap.size z34 rfl rfl 47 z34 RR.out (by kernel_rfl) rfl z34_one ?_))
              refine bodyPost_ret (results_cell_tmp_row (p := 2) (u := 3) Tryd.results11 _ _ w.heap.size 47 _ (0, 0) _ rfl (blk_raw (setRow_blk z34 R8.out)) Tryd.underlying47 rfl (by kernel_rfl)) rfl ?_
              rw [HDEC.out, HDT.out]
              exact DecodeP.err 4 (below_sr B8.out (Nat.le_refl _) _)
            · simp only [Bool.not_eq_true] at hwn
              rw [hwn] at c1
              have HREL : Hid (DecLoop w kk f1 s1 (B + 1) B F I w8) := Lib.hid ⟨pos + 1, fn, sn, hlt, I8.out, by
                rw [← HEQ.out]
                conv => rhs; unfold dFlds
                rw [HFS.out, if_neg (by rw [hwn]; decide)], hwn, D8.out, F8.out, R8.out, B8.out⟩
              go_wp2_with fail
              go_roundw
              case rel => exact HREL.out
              case measure => rw [hp8, hps]; omega
          · have hrun := run_next_fin 0 hit hlt
            have hres : dFlds (letK kk) f1 s1 = (f, sd) := by
              rw [← heq, List.drop_of_length_le (by omega)]
              rfl
            have c0 := hd.1.cell 0
            simp at c0
            have H9 := Lib.hid (end_any B sd.r sd.f wr hd.2.1)
            have R9 := Lib.hid hr
            have F9 := Lib.hid hfr
            have B9 := Lib.hid hB
            have HRES := Lib.hid (And.intro hres hwr)
            clear hit heq hwr hd hfr hr hB hres
            go_wp2_with fail
            with_reducible refine H9.out.mono ?_
            rintro e w8 ⟨rfl, rfl⟩
            clear H9
            by_cases hz : endF sd.r sd.f = 0
            · rw [hz]
              have hdt : decT t = (f, 0) := by
                unfold decT
                rw [HH.out.2, if_neg HS.out, HF1.out, HH.out.1, if_neg (by rw [hkn]; decide), HRES.out.1, if_neg (by rw [HRES.out.2]; decide), if_pos hz]
              have HDT := Lib.hid hdt
              clear hdt
              obtain ⟨sl, tl, h1, h2, h3⟩ := F9.out
              obtain ⟨a, c1, rfl⟩ := h2.at.len
              obtain ⟨a', c2, rfl⟩ := h3.at.len
              have RR := Lib.hid (blk_raw R9.out)
              have LL := Lib.hid (blk_raw h1)
              have ONE := Lib.hid (frC_one f a a' f.ms.length f.es.length c1 c2)
              have M9 := Lib.hid (own_setRow h2 R9.out (by decide) (frC f (.slice a f.ms.length c1) (.slice a' f.es.length c2)))
              have E9 := Lib.hid (own_setRow h3 R9.out (by decide) (frC f (.slice a f.ms.length c1) (.slice a' f.es.length c2)))
              clear h1 h2 h3
              go_wp2_with (first | (refine wpList_load_row rfl 47 (.tmp 7) rfl F rfl 47 (frC f (.slice a f.ms.length c1) (.slice a' f.es.length c2)) (0, 0) _ LL.out Tryd.underlying47 rfl (by kernel_rfl) ?_) | (refine wpList_store_row rfl 47 (.tmp 2) (.tmp 54) rfl w.heap.size (frC f (.slice a f.ms.length c1) (.slice a' f.es.length c2)) rfl rfl 47 z34 RR.out (by kernel_rfl) rfl ONE.out ?_))
              refine bodyPost_ret (results_cell_tmp_row (p := 2) (u := 3) Tryd.results11 _ _ w.heap.size 47 _ (0, 0) _ rfl (blk_raw (setRow_blk (frC f (.slice a f.ms.length c1) (.slice a' f.es.length c2)) R9.out)) Tryd.underlying47 rfl (by kernel_rfl)) rfl ?_
              rw [HDEC.out, HDT.out]
              exact ⟨_, _, rfl, below_sr B9.out (Nat.le_refl _) _, M9.out.at, E9.out.at⟩
            · have hdt : decT t = (fr0, endF sd.r sd.f) := by
                unfold decT
                rw [HH.out.2, if_neg HS.out, HF1.out, HH.out.1, if_neg (by rw [hkn]; decide), HRES.out.1, if_neg (by rw [HRES.out.2]; decide), if_neg hz]
              obtain ⟨q, hqe⟩ : ∃ q, q = endF sd.r sd.f := ⟨_, rfl⟩
              rw [← hqe] at hz hdt ⊢
              have hq1 : (q != 0) = true := by simpa using hz
              have HDT := Lib.hid hdt
              have RR := Lib.hid (blk_raw R9.out)
              clear hqe hdt hz
              go_wp2_with (first | (refine wpList_store_row rfl 47 (.tmp 2) (.tmp 52) rfl w.heap.size z34 rfl rfl 47 z34 RR.out (by kernel_rfl) rfl z34_one ?_))
              refine bodyPost_ret (results_cell_tmp_row (p := 2) (u := 3) Tryd.results11 _ _ w.heap.size 47 _ (0, 0) _ rfl (blk_raw (setRow_blk z34 R9.out)) Tryd.underlying47 rfl (by kernel_rfl)) rfl ?_
              rw [HDEC.out, HDT.out]
              exact DecodeP.err q (below_sr B9.out (Nat.le_refl _) _)
      · simp only [Bool.not_eq_true] at hkn
        have hdt : decT t = (fr0, 4) := by
          unfold decT
          rw [HH.out.2, if_neg HS.out, HH.out.1, if_pos hkn]
        have RR := Lib.hid (blk_raw R6.out)
        have HDT := Lib.hid hdt
        rw [hkn]
        clear hdt
        go_wp2_with (first | (refine wpList_store_row rfl 47 (.tmp 2) (.tmp 32) rfl w.heap.size z34 rfl rfl 47 z34 RR.out (by kernel_rfl) rfl z34_one ?_))
        refine bodyPost_ret (results_cell_tmp_row (p := 2) (u := 3) Tryd.results11 _ _ w.heap.size 47 _ (0, 0) _ rfl (blk_raw (setRow_blk z34 R6.out)) Tryd.underlying47 rfl (by kernel_rfl)) rfl ?_
        rw [HDEC.out, HDT.out]
        exact DecodeP.err 4 (below_sr B6.out (Nat.le_refl _) _)
  · have hdec : decF s = (fr0, openE s) := by unfold decF; rw [if_neg hq]
    obtain ⟨q, hqe⟩ : ∃ q, q = openE s := ⟨_, rfl⟩
    rw [← hqe] at hq hdec ⊢
    have HDEC := Lib.hid hdec
    clear hdec
    have hq1 : (q != 0) = true := by simpa using hq
    have RR := Lib.hid (blk_raw R2.out)
    clear hqe
    go_wp2_with (first | (refine wpList_store_row rfl 47 (.tmp 2) (.tmp 18) rfl w.heap.size z34 rfl rfl 47 z34 RR.out (by kernel_rfl) rfl z34_one ?_))
    refine bodyPost_ret (results_cell_tmp_row (p := 2) (u := 3) Tryd.results11 _ _ w.heap.size 47 _ (0, 0) _ rfl (blk_raw (setRow_blk z34 R2.out)) Tryd.underlying47 rfl (by kernel_rfl)) rfl ?_
    rw [HDEC.out]
    exact DecodeP.err q (below_sr B2.out (Nat.le_refl _) _)
end Go.Proofs.YtodajejjhfpdmaaDoor
