/-
  Frame's decoder: views.
-/
import Derived.Test.YtodajejjhfpdmaaDoorFrdD
import Derived.Lib.BufferWrite
namespace Go.Proofs.YtodajejjhfpdmaaDoor
open Go.RowKit Go.Instr

abbrev lv0 : Lv := ⟨0, 0, 0, 0, 0, 0, 0, 0⟩
abbrev vw1 (e : Nat) : Array Value := #[.int .u32 e, .slice none 0 0, .int .u8 0, .int .u8 0, .int .u8 0, .int .u8 0, .int .u8 0, .int .u8 0, .int .u8 0, .int .u8 0]
abbrev vw0 : Array Value := #[.int .u32 0, .slice none 0 0, .int .u8 0, .int .u8 0, .int .u8 0, .int .u8 0, .int .u8 0, .int .u8 0, .int .u8 0, .int .u8 0]
/-- 'copy(dst, s)', s a string that fits, dst in a row, as a step of a region that draws. -/
theorem step_copy_row {P : Program} {ops : Array Oper} {o : Oper} {a : Act} {w : World} {K : Act → World → Prop} {Q : Exit → Act → World → Prop} {E : Prop}
    (hg : o.guard = none) (d x : Operand) (dT sT : TypeId) (hop : o.op = Op.call { callee := Callee.builtin Builtin.copy, args := #[d, x], argTypes := #[dT, sT] })
    (elem : TypeId) (hu : P.underlying dT = some (.slice elem)) (hs : (P.info? elem).map (·.size) = some 1)
    (g off dLen dCap : Nat) (hd : a.eval d = .slice (some ⟨g, off, none⟩) dLen dCap) (t : ByteArray) (hx : a.eval x = .string t) (cur : Array Value) (T : TypeId) (hgr : w.heap[g]? = some (.cells cur T (0, 0))) (hle : t.size ≤ dLen) (hfit : off + t.size ≤ cur.size)
    (row : Array Value) (hrow : (cur.toList.take off ++ Lib.byteCells t.data.toList ++ cur.toList.drop (off + t.size)).toArray = row) (hK : K (a.put o.dst (goInt t.size)) (w.setRow g row)) :
    if Region.wanted o (yielded ops a.tmps) = true then Oper.wp P o a w K Q else E := by
  have hw : Region.wanted o (yielded ops a.tmps) = true := by simp [Region.wanted, hg]
  rw [if_pos hw]
  have hrun := Lib.run_copy_row_string (P := P) w dT sT o.type elem g off dLen dCap t cur T hu hs hgr hle hfit
  unfold Oper.wp
  subst hrow
  rw [List.append_assoc] at hK
  simp [execOp, hop, resolve, invoke, builtin, hd, hx, hrun, Result.andThen]
  exact hK
theorem lives_row (e : Nat) (v : Value) (t : ByteArray) (ht : t.size = 0 ∨ t.size = 8) : ((vwC e v lv0).toList.take 2 ++ Lib.byteCells t.data.toList ++ (vwC e v lv0).toList.drop (2 + t.size)).toArray = vwC e v (lvOf t) := by
  rcases ht with ht | ht
  · obtain rfl : t = ⟨#[]⟩ := by
      cases t with
      | mk d => rw [Array.eq_empty_of_size_eq_zero ht]
    rfl
  · have hl : t.data.toList.length = 8 := ht
    rw [ht]
    unfold lvOf byteN
    generalize t.data.toList = l at hl
    match l, hl with
    | [a, b, c, d, e, f, g, h], _ => rfl
theorem dRaw8_size (s : Sd) : (dRaw 8 s).1.size = 0 ∨ (dRaw 8 s).1.size = 8 := by
  show (rawT s.r s.f ((8 : Nat) : Int)).size = 0 ∨ _
  have h : rawT s.r s.f ((8 : Nat) : Int) = takeT s.r s.f 8 := by unfold rawT; rw [if_neg (by omega)]; rfl
  show _ ∨ (rawT s.r s.f ((8 : Nat) : Int)).size = 8
  rw [h]
  unfold takeT
  split
  · next hc => right; rw [ByteArray.size_extract]; omega
  · left; rfl
theorem grown_setRow (w : World) (g : Nat) (cs : Array Value) : w.grownBy (w.setRow g cs) (some g) :=
  ⟨rfl, rfl, rfl, by simp [World.setRow], fun k _ hk => setRow_other w g k cs (fun e => hk (by rw [e]))⟩
theorem setRow_blk {w : World} {g : Nat} {old : Array Value} {T : TypeId} (cs : Array Value) (h : Blk w g old T) : Blk (w.setRow g cs) g cs T := setRow_heap w g old cs T (0, 0) h
theorem own_setRow {α : Type} {R : RK α} {E : TypeId} {b0 : Nat} {w : World} {v : Value} {l : List α} {X : Nat} {cs : Array Value} {T : TypeId} (h : R.Own E w b0 v l) (hx : Blk w X cs T) (hT : E ≠ T) (row : Array Value) : R.Own E (w.setRow X row) b0 v l :=
  h.block (fun g hg => setRow_other _ _ _ _ (fun e => own_ne h hx hT (by rw [hg, e])))
theorem blk_raw {w : World} {B : Nat} {cs : Array Value} {T : TypeId} (h : Blk w B cs T) : w.heap[B]? = some (.cells cs T (0, 0)) := h
def DMemLoop (base D B X : Nat) (w : World) (e : Nat) (s1 : Sd) (n : Nat) (i : Value) (wr : World) : Prop :=
  ∃ (k : Nat) (v : Value), k ≤ n ∧ i = .int .i64 k ∧ DQ base D B w (dMems s1 k).2 wr ∧ Blk wr X (vwC e v lv0) 44 ∧ Blk wr w.heap.size vw0 44 ∧ memR.Own 75 wr w.heap.size v (dMems s1 k).1
def ViewCut (base D B X : Nat) (w : World) (e : Nat) (l : List Mem) (t : ByteArray) (s : Sd) (wx : World) : Prop :=
  ∃ (v : Value), DQ base D B w s wx ∧ Blk wx X (vwC e v (lvOf t)) 44 ∧ Blk wx w.heap.size vw0 44 ∧ memR.Own 75 wx w.heap.size v l
/-- What the reading of a view leaves. -/
def ViewP (base D B : Nat) (w : World) (e : Nat) (l : List Mem) (lv : Lv) (s : Sd) (en : Ending) (w' : World) : Prop :=
  ∃ v, en = .returned (.agg (vwC e v lv)) ∧ DQ base D B w s w' ∧ memR.Own 75 w' w.heap.size v l
theorem newsM {w : World} {X : Nat} {x : Mem} (h : Blk w X #[.int .u8 x.n, .int .u8 x.l, .bool x.r] 75) : ∀ j u, (memR.f x)[j]? = some u → w.cell? ((⟨X, 0, none⟩ : Addr).add j) = some u := by
  intro j u hu
  have e : (⟨X, 0, none⟩ : Addr).add j = ⟨X, j, none⟩ := by unfold Addr.add; split <;> simp_all
  rw [e, h.cell j]
  simpa [memR] using hu
set_option maxHeartbeats 2000000 in
set_option maxRecDepth 20000 in
theorem dview_any {base D B : Nat} {s : Sd} {w : World} (h : DecAt w D B s) (hb : base ≤ B) (hbD : base ≤ D) :
    Calls Tryd.prog 61 #[.pointer (some ⟨D, 0, none⟩)] w (ViewP base D B w (dView s).1.1 (dView s).1.2.1 (dView s).1.2.2 (dView s).2) := by
  have hbw : base ≤ w.heap.size := Nat.le_trans hb (Nat.le_of_lt h.ltB)
  have hDB := Lib.hid (And.intro h.1.lt h.ltB)
  obtain ⟨i0, hi0, hz0, hz1, hz2⟩ := infoPM
  have HI := Lib.hid (And.intro hi0 (And.intro hz0 (And.intro hz1 hz2)))
  have Q1 := Lib.hid ((DQ.start (base := base) h).alloc hb (.cells vw0 44))
  have R1 := Lib.hid (Blk.new (w := w) (B := w.heap.size) (T := 44) (cs := vw0) rfl)
  have H1 := Lib.hid (dfour_any (base := base) Q1.out.1 hb)
  have hn8 := dCount_le 8 (dFour s).2
  have hV : dView s = (((dFour s).1, (dMems (dCount 8 (dFour s).2).2 (dCount 8 (dFour s).2).1).1, lvOf (dRaw 8 (dMems (dCount 8 (dFour s).2).2 (dCount 8 (dFour s).2).1).2).1), (dRaw 8 (dMems (dCount 8 (dFour s).2).2 (dCount 8 (dFour s).2).1).2).2) := rfl
  rw [hV]
  obtain ⟨n, s1, hp⟩ : ∃ n s1, dCount 8 (dFour s).2 = (n, s1) := ⟨_, _, rfl⟩
  rw [hp] at hn8 ⊢
  simp only at hn8 ⊢
  obtain ⟨e, he⟩ : ∃ e, (dFour s).1 = e := ⟨_, rfl⟩
  rw [he] at H1 ⊢
  have HP := Lib.hid hp
  have HE := Lib.hid he
  clear h hi0 hz0 hz1 hz2 hp he hV
  go_enter Tryd.func61, Tryd.ntmps61
  go_wp2_with fail
  with_reducible refine H1.out.mono ?_
  rintro en w2 ⟨rfl, q2⟩
  have Q2 := Lib.hid (Q1.out.call q2)
  have R2 := Lib.hid (DQ.blk q2 Q1.out.1 R1.out (by decide) (by decide))
  have Q3 := Lib.hid (Q2.out.alloc hb (.cells (vw1 (dFour s).1) 44))
  have R3 := Lib.hid (R2.out.alloc (.cells (vw1 (dFour s).1) 44))
  have X3 : Hid (Blk (w2.alloc (.cells (vw1 (dFour s).1) 44)) w2.heap.size (vwC (dFour s).1 (.slice none 0 0) lv0) 44) := Lib.hid (Blk.new (w := w2) (B := w2.heap.size) (T := 44) (cs := vw1 (dFour s).1) rfl)
  have H3 := Lib.hid (dcount_any (base := base) 8 8 rfl Q3.out.1 hb hbD)
  have hRX := Lib.hid (R2.out.lt)
  have hwX := Lib.hid Q2.out.size
  rw [HP.out] at H3
  simp only at H3
  rw [HE.out] at Q3 R3 X3 H3
  clear H1 q2 Q1 R1 Q2 R2
  go_wp2_with fail
  with_reducible refine H3.out.mono ?_
  rintro en w3 ⟨rfl, q3⟩
  obtain ⟨X, hX⟩ : ∃ X, X = w2.heap.size := ⟨_, rfl⟩
  rw [← hX] at X3 hRX hwX
  simp only [← hX]
  have HST : Hid (DMemLoop base D B X w e s1 n (.int .i64 0) w3) := Lib.hid ⟨0, .slice none 0 0, Nat.zero_le _, rfl, Q3.out.call q3, DQ.blk q3 Q3.out.1 X3.out (by decide) (by decide), DQ.blk q3 Q3.out.1 R3.out (by decide) (by decide), World.ownsRow_nil _ _ _ _⟩
  clear H3 q3 Q3 R3 X3 hX
  go_wp2_with fail
  go_loopw [10] (fun i wr => DMemLoop base D B X w e s1 n i wr) (fun i _ => n - (intOf i).toNat)
  case atStart => exact HST.out
  case round => as_aux_lemma =>
    obtain ⟨k, v, hk, rfl, hq, hx, hr, ho⟩ := hrel
    have HQ := Lib.hid hq
    have HX := Lib.hid hx
    have HR := Lib.hid hr
    have HO := Lib.hid ho
    have hl := dMems_len s1 k
    have hle : (dMems s1 (k + 1)) = ((dMems s1 k).1 ++ [(dMem (dMems s1 k).2).1], (dMem (dMems s1 k).2).2) := rfl
    generalize hpk : dMems s1 k = pk at HQ HO hl hle
    obtain ⟨lk, sk⟩ := pk
    simp only at HQ HO hl hle
    have HL := Lib.hid hle
    have HPK := Lib.hid hpk
    clear HST hq hx hr ho hle hpk
    by_cases hlt : k < n
    · have H4 := Lib.hid (done_any (base := base) HQ.out.1 hb)
      go_wp2_with fail
      with_reducible refine H4.out.mono ?_
      rintro en w4 ⟨rfl, q4⟩
      have Q4 := Lib.hid (HQ.out.call q4)
      have O4 := Lib.hid (own_kd HO.out HQ.out.1 q4 (by decide) (by decide))
      have X4 := Lib.hid (DQ.blk q4 HQ.out.1 HX.out (by decide) (by decide))
      have R4 := Lib.hid (DQ.blk q4 HQ.out.1 HR.out (by decide) (by decide))
      have H5 := Lib.hid (done_any (base := base) Q4.out.1 hb)
      clear H4 q4 HQ HO HX HR
      go_wp2_with fail
      with_reducible refine H5.out.mono ?_
      rintro en w5 ⟨rfl, q5⟩
      have Q5 := Lib.hid (Q4.out.call q5)
      have O5 := Lib.hid (own_kd O4.out Q4.out.1 q5 (by decide) (by decide))
      have X5 := Lib.hid (DQ.blk q5 Q4.out.1 X4.out (by decide) (by decide))
      have R5 := Lib.hid (DQ.blk q5 Q4.out.1 R4.out (by decide) (by decide))
      have H6 := Lib.hid (dflag_any (base := base) Q5.out.1 hb hbD)
      clear H5 q5 Q4 O4 X4 R4
      go_wp2_with fail
      with_reducible refine H6.out.mono ?_
      rintro en w6 ⟨rfl, q6⟩
      have Q6 := Lib.hid (Q5.out.call q6)
      have O6 := Lib.hid (own_kd O5.out Q5.out.1 q6 (by decide) (by decide))
      have X6 := Lib.hid (DQ.blk q6 Q5.out.1 X5.out (by decide) (by decide))
      have R6 := Lib.hid (DQ.blk q6 Q5.out.1 R5.out (by decide) (by decide))
      clear H6 q6 Q5 O5 X5 R5
      have hws := Q6.out.size
      obtain ⟨x, hx⟩ : ∃ x, x = (dMem sk).1 := ⟨_, rfl⟩
      have x0 : (dOne sk).1 = x.n := by rw [hx]; rfl
      have x1 : (dOne (dOne sk).2).1 = x.l := by rw [hx]; rfl
      have x2 : (dFlag (dOne (dOne sk).2).2).1 = x.r := by rw [hx]; rfl
      have x4 : (dFlag (dOne (dOne sk).2).2).2 = (dMem sk).2 := rfl
      rw [x4] at Q6
      simp only [x0, x1, x2]
      rw [← hx] at HL
      clear x0 x1 x2 x4 hx
      have hX1 := X6.out.cell 1
      have hXl := X6.out.lt
      have hXf := X6.out.frozen 1
      simp at hX1
      have OA := Lib.hid ((O6.out.al (.cells #[.int .u8 x.n, .int .u8 x.l, .bool x.r] 75)).al (.cells #[.int .u8 x.n, .int .u8 x.l, .bool x.r] 75))
      have XA := Lib.hid ((X6.out.alloc (.cells #[.int .u8 x.n, .int .u8 x.l, .bool x.r] 75)).alloc (.cells #[.int .u8 x.n, .int .u8 x.l, .bool x.r] 75))
      have RA := Lib.hid ((R6.out.alloc (.cells #[.int .u8 x.n, .int .u8 x.l, .bool x.r] 75)).alloc (.cells #[.int .u8 x.n, .int .u8 x.l, .bool x.r] 75))
      have QA := Lib.hid ((Q6.out.alloc hb (.cells #[.int .u8 x.n, .int .u8 x.l, .bool x.r] 75)).alloc hb (.cells #[.int .u8 x.n, .int .u8 x.l, .bool x.r] 75))
      have NB := Lib.hid (Blk.new (w := w6.alloc (.cells #[.int .u8 x.n, .int .u8 x.l, .bool x.r] 75)) (B := w6.heap.size + 1) (T := 75) (cs := #[.int .u8 x.n, .int .u8 x.l, .bool x.r]) (by simp))
      go_wp2_with (at_builtin; refine wpList_append_own1 _ rfl _ _ 42 rfl w.heap.size 75 i0 _ 3 3 Tryd.underlying42 HI.out.1 HI.out.2.1 HI.out.2.2.1 HI.out.2.2.2 rfl (by decide) _ _ _ rfl OA.out ⟨w6.heap.size + 1, 0, none⟩ 1 1 (memR.f x) rfl rfl ?qn (memR.one x) (by unfold maxLen; omega) (by omega) (by simp; omega) (by decide) ?_)
      case qn => exact newsM NB.out
      intro g cap' w8 hg hown hgrow
      have hD' := hDB.out
      have X8 := Lib.hid (XA.out.grown hgrow (Ne.symm (own_ne OA.out XA.out (by decide))))
      have R8 := Lib.hid (RA.out.grown hgrow (Ne.symm (own_ne OA.out RA.out (by decide))))
      have Q8 := Lib.hid (QA.out.grown hD'.1 hD'.2 hbw hgrow (fun j hj => (World.ownsRow.lt OA.out j hj).1))
      have hX1 := X8.out.cell 1
      have hXf := X8.out.frozen 1
      simp at hX1
      have O8 : Hid (memR.Own 75 w8 w.heap.size (.slice (some ⟨g, 0, none⟩) (k + 1) cap') (lk ++ [x])) := Lib.hid (by
        unfold RK.Own
        rw [List.length_append, RK.row_snoc, hl]
        exact hown)
      have HREL : Hid (DMemLoop base D B X w e s1 n (.int .i64 (k + 1)) (w8.setCell ⟨X, 1, none⟩ (.slice (some ⟨g, 0, none⟩) (k + 1) cap'))) := Lib.hid ⟨k + 1, .slice (some ⟨g, 0, none⟩) (k + 1) cap', hlt, by go_num, by rw [HL.out]; exact Q8.out.set hbw hD'.1 hD'.2 hwX.out 1 _, X8.out.set 1 _ _ rfl, R8.out.set_other 1 _ (Nat.ne_of_lt hRX.out), by rw [HL.out]; exact O8.out.setB X8.out (by decide)⟩
      clear hown hgrow Q6 O6 OA NB Q8 X6 R6 XA RA QA
      go_wp2_with fail
      go_roundw
      case rel => exact HREL.out
      case measure => simp [intOf]; omega
    · obtain rfl : k = n := by omega
      have hX1 := HX.out.cell 1
      simp at hX1
      have HLl := Lib.hid hl
      clear hl
      go_upto_region 7 with fail
      go_cut [] (fun wx => ViewCut base D B X w e lk (dRaw 8 sk).1 (dRaw 8 sk).2 wx)
      case first => as_aux_lemma =>
        have c0 := HQ.out.1.1.cell 0
        simp at c0
        have hsz := dRaw8_size sk
        have hsl : (dRaw 8 sk).1.size ≤ 8 := by omega
        have HSZ := Lib.hid hsz
        have HFT : Hid (2 + (dRaw 8 sk).1.size ≤ (vwC e v lv0).size) := Lib.hid (by show 2 + (dRaw 8 sk).1.size ≤ 10; omega)
        have hs5 : (Tryd.prog.info? 5).map (·.size) = some 1 := by kernel_rfl
        have HS5 := Lib.hid hs5
        clear hsz hs5
        go_region_law (first
          | (refine step_calls2 rfl 80 Tryd.func80 (by kernel_rfl) rfl rfl (.pointer (some ⟨B, 0, none⟩)) (.int .i64 8) rfl rfl ?_
             refine Calls.mono (draw_any (base := base) (D := D) (B := B) (s := sk) 8 8 rfl (HQ.out.1.on (by go_grown)) hb) ?_
             rintro en w5 ⟨rfl, q5⟩
             refine ⟨_, rfl, ?_⟩
             have Q5 := Lib.hid (DQ.call (HQ.out.on hb (by go_grown)) q5)
             have X5 := Lib.hid (DQ.blk q5 (HQ.out.1.on (by go_grown)) (HX.out.on (by go_grown)) (by decide) (by decide))
             have R5 := Lib.hid (DQ.blk q5 (HQ.out.1.on (by go_grown)) (HR.out.on (by go_grown)) (by decide) (by decide))
             have O5 := Lib.hid (own_kd (HO.out.on (by go_grown)) (HQ.out.1.on (by go_grown)) q5 (by decide) (by decide))
             clear q5)
          | (refine step_copy_row rfl _ _ 67 9 rfl 5 Tryd.underlying67 HS5.out X 2 8 8 rfl (dRaw 8 sk).1 rfl (vwC e v lv0) 44 X5.out hsl HFT.out _ (lives_row e v _ HSZ.out) ?_))
        all_goals
          have hD' := hDB.out
          go_wp2_with fail
          go_meet
          refine ⟨v, ?_, ?_, ?_, ?_⟩
          · with_reducible exact Q5.out.grown hD'.1 hD'.2 hbw (grown_setRow _ _ _) (fun j hj => by cases hj; exact hwX.out)
          · with_reducible exact setRow_blk _ X5.out
          · with_reducible exact R5.out.grown (grown_setRow _ _ _) (fun h => absurd (Option.some.inj h) (Nat.ne_of_lt hRX.out))
          · with_reducible exact own_setRow O5.out X5.out (by decide) _
      case rest => as_aux_lemma =>
        obtain ⟨v, q9, x9, r9, o9⟩ := hcut
        obtain ⟨a, cap, hv⟩ := o9.at.len
        rw [HLl.out] at hv
        subst hv
        have hD' := hDB.out
        have Q9 := Lib.hid (q9.grown hD'.1 hD'.2 hbw (grown_setRow _ w.heap.size (vwC e (.slice a k cap) (lvOf (dRaw 8 sk).1))) (fun j hj => by cases hj; exact Nat.le_refl _))
        have O9 := Lib.hid (own_setRow o9 r9 (by decide) (vwC e (.slice a k cap) (lvOf (dRaw 8 sk).1)))
        have R9 := Lib.hid (setRow_blk (vwC e (.slice a k cap) (lvOf (dRaw 8 sk).1)) r9)
        have HONE : Hid ((vwC e (.slice a k cap) (lvOf (dRaw 8 sk).1)).all (fun v => v.oneCell') = true) := Lib.hid (by simp [Value.oneCell'])
        have XX := Lib.hid (blk_raw x9)
        have RR := Lib.hid (blk_raw r9)
        clear q9 x9 r9 o9
        go_wp2_with (first | (refine wpList_load_row rfl 44 (.tmp 3) rfl X rfl 44 (vwC e (.slice a k cap) (lvOf (dRaw 8 sk).1)) (0, 0) _ XX.out Tryd.underlying44 rfl (by kernel_rfl) ?_) | (refine wpList_store_row rfl 44 (.tmp 2) (.tmp 34) rfl w.heap.size (vwC e (.slice a k cap) (lvOf (dRaw 8 sk).1)) rfl rfl 44 vw0 RR.out (by kernel_rfl) rfl HONE.out ?_))
        refine bodyPost_ret (v := .agg (vwC e (.slice a k cap) (lvOf (dRaw 8 sk).1))) (results_cell_row (p := 2) Tryd.results61 _ _ w.heap.size 44 _ (0, 0) _ rfl R9.out Tryd.underlying44 rfl (by kernel_rfl)) rfl ⟨.slice a k cap, ?_, ?_, ?_⟩
        · rw [HPK.out]
        · rw [HPK.out]; exact Q9.out
        · rw [HPK.out]; exact O9.out
end Go.Proofs.YtodajejjhfpdmaaDoor
