/-
  made: the program's frame of the document's.
-/
import Derived.Test.YtodajejjhfpdmaaDoorFrrV
import Derived.Test.YtodajejjhfpdmaaDoorFrlS
import Derived.Deep.CutBlock
namespace Go.Proofs.YtodajejjhfpdmaaDoor
open Go.RowKit Go.Instr

set_option maxRecDepth 20000 in
theorem Tryd.infoLMem : (Tryd.prog.info? 76).map (fun i => (i.zero, i.size, i.bytes)) = some (some (.agg #[.int .u8 0, .int .u8 0, .bool false]), 3, 3) := by kernel_rfl
set_option maxRecDepth 20000 in
theorem infoPLM : ∃ i, Tryd.prog.info? 76 = some i ∧ i.zero = some (.agg #[.int .u8 0, .int .u8 0, .bool false]) ∧ i.size = 3 ∧ i.bytes = 3 := by
  cases hi : Tryd.prog.info? 76 with
  | none => have h := Tryd.infoLMem; simp [hi] at h
  | some i => have h := Tryd.infoLMem; simp [hi] at h; exact ⟨i, rfl, h.1, h.2.1, h.2.2⟩
set_option maxRecDepth 20000 in
theorem Tryd.infoLEnt : (Tryd.prog.info? 79).map (fun i => (i.zero, i.size, i.bytes)) = some (some (.agg #[.int .u32 0, .int .u32 0, .int .u8 0, .int .u8 0, .int .u8 0, .int .u8 0, .int .u32 0, .int .u32 0]), 8, 24) := by kernel_rfl
set_option maxRecDepth 20000 in
theorem infoPLE : ∃ i, Tryd.prog.info? 79 = some i ∧ i.zero = some (.agg #[.int .u32 0, .int .u32 0, .int .u8 0, .int .u8 0, .int .u8 0, .int .u8 0, .int .u32 0, .int .u32 0]) ∧ i.size = 8 ∧ i.bytes = 24 := by
  cases hi : Tryd.prog.info? 79 with
  | none => have h := Tryd.infoLEnt; simp [hi] at h
  | some i => have h := Tryd.infoLEnt; simp [hi] at h; exact ⟨i, rfl, h.1, h.2.1, h.2.2⟩
/-- made's blocks: f1, e1 what its frame holds as members and entries, u1, v1 the rows. -/
structure M3 (x : Fr) (s t : Value) (A X : Nat) (w : World) (f1 u1 : Value) (l1 : List Mem) (e1 v1 : Value) (l2 : List Ent) (wx : World) : Prop where
  a : Blk wx A (frC x s t) 52
  p : Blk wx (A + 1) z34 47
  f : Blk wx X (frC x f1 e1) 29
  o : memR.Own 76 wx w.heap.size u1 l1
  q : entR.Own 79 wx w.heap.size v1 l2
  b : Below w.heap.size w wx
theorem M3.on {x : Fr} {s t : Value} {A X : Nat} {w : World} {f1 u1 e1 v1 : Value} {l1 : List Mem} {l2 : List Ent} {wx wy : World} (h : M3 x s t A X w f1 u1 l1 e1 v1 l2 wx) (hB : Below wx.heap.size wx wy) : M3 x s t A X w f1 u1 l1 e1 v1 l2 wy := ⟨h.a.on hB, h.p.on hB, h.f.on hB, h.o.on hB, h.q.on hB, m_below_on h.b hB⟩
theorem M3.appM {x : Fr} {s t : Value} {A X : Nat} {w : World} {f1 u1 e1 v1 : Value} {l1 : List Mem} {l2 : List Ent} {wx wy : World} {v : Value} {l : List Mem} (h : M3 x s t A X w f1 u1 l1 e1 v1 l2 wx) (ho : memR.Own 76 wy w.heap.size v l) (hg : wx.grownBy wy u1.ownBlock) : M3 x s t A X w f1 v l e1 v1 l2 wy :=
  ⟨h.a.grown hg (Ne.symm (own_ne h.o h.a (by decide))), h.p.grown hg (Ne.symm (own_ne h.o h.p (by decide))), h.f.grown hg (Ne.symm (own_ne h.o h.f (by decide))), ho, h.q.block (fun g hgg => hg.block g (World.ownsRow.lt h.q g hgg).2 (fun e => rows_ne h.o h.q (by decide) e.symm hgg)), h.b.grown hg h.b.size (fun k hk => (World.ownsRow.lt h.o k hk).1)⟩
theorem M3.appE {x : Fr} {s t : Value} {A X : Nat} {w : World} {f1 u1 e1 v1 : Value} {l1 : List Mem} {l2 : List Ent} {wx wy : World} {v : Value} {l : List Ent} (h : M3 x s t A X w f1 u1 l1 e1 v1 l2 wx) (ho : entR.Own 79 wy w.heap.size v l) (hg : wx.grownBy wy v1.ownBlock) : M3 x s t A X w f1 u1 l1 e1 v l wy :=
  ⟨h.a.grown hg (Ne.symm (own_ne h.q h.a (by decide))), h.p.grown hg (Ne.symm (own_ne h.q h.p (by decide))), h.f.grown hg (Ne.symm (own_ne h.q h.f (by decide))), h.o.block (fun g hgg => hg.block g (World.ownsRow.lt h.o g hgg).2 (fun e => rows_ne h.q h.o (by decide) e.symm hgg)), ho, h.b.grown hg h.b.size (fun k hk => (World.ownsRow.lt h.q k hk).1)⟩
theorem M3.setM {x : Fr} {s t : Value} {A X : Nat} {w : World} {f1 u1 e1 v1 : Value} {l1 : List Mem} {l2 : List Ent} {wx : World} (h : M3 x s t A X w f1 u1 l1 e1 v1 l2 wx) (hF : A + 1 < X) (hw : w.heap.size ≤ X) (v : Value) : M3 x s t A X w v u1 l1 e1 v1 l2 (wx.setCell ⟨X, 24, none⟩ v) :=
  ⟨h.a.set_other 24 v (by omega), h.p.set_other 24 v (by omega), h.f.set 24 v _ rfl, h.o.setB h.f (by decide), h.q.setB h.f (by decide), h.b.setCell hw v⟩
theorem M3.setE {x : Fr} {s t : Value} {A X : Nat} {w : World} {f1 u1 e1 v1 : Value} {l1 : List Mem} {l2 : List Ent} {wx : World} (h : M3 x s t A X w f1 u1 l1 e1 v1 l2 wx) (hF : A + 1 < X) (hw : w.heap.size ≤ X) (v : Value) : M3 x s t A X w f1 u1 l1 v v1 l2 (wx.setCell ⟨X, 33, none⟩ v) :=
  ⟨h.a.set_other 33 v (by omega), h.p.set_other 33 v (by omega), h.f.set 33 v _ rfl, h.o.setB h.f (by decide), h.q.setB h.f (by decide), h.b.setCell hw v⟩
def MemMade (x : Fr) (s t : Value) (A X : Nat) (w : World) (n : Nat) (i : Value) (wr : World) : Prop :=
  ∃ (k : Nat) (u : Value), k ≤ n ∧ i = .int .i64 k ∧ M3 x s t A X w u u (x.ms.take k) (.slice none 0 0) (.slice none 0 0) [] wr
def EntMade (x : Fr) (s t : Value) (A X : Nat) (w : World) (f1 : Value) (n : Nat) (i : Value) (wr : World) : Prop :=
  ∃ (k : Nat) (u : Value), k ≤ n ∧ i = .int .i64 k ∧ M3 x s t A X w f1 f1 x.ms u u (x.es.take k) wr
theorem M3.of {x : Fr} {s t : Value} {A : Nat} {w wc : World} (_hA : A = w.heap.size) (h1 : Blk wc A (frC x s t) 52) (h2 : Blk wc (A + 1) z34 47) (h5 : Below w.heap.size w wc) :
    ∃ M, (.pointer (some ⟨wc.heap.size, 0, none⟩) : Value) = .pointer (some ⟨M, 0, none⟩) ∧ A + 1 < M ∧ M3 x s t A M w (.slice none 0 0) (.slice none 0 0) [] (.slice none 0 0) (.slice none 0 0) [] ((wc.alloc (.cells z34 29)).setRow wc.heap.size (frC x (.slice none 0 0) (.slice none 0 0))) := by
  have hg := grown_setRow (wc.alloc (.cells z34 29)) wc.heap.size (frC x (.slice none 0 0) (.slice none 0 0))
  have hs := h5.size
  exact ⟨_, rfl, h2.lt, (h1.alloc _).grown hg (fun e => Nat.ne_of_lt h1.lt (Option.some.inj e)), (h2.alloc _).grown hg (fun e => Nat.ne_of_lt h2.lt (Option.some.inj e)), setRow_blk _ (Blk.new (w := wc) rfl), World.ownsRow_nil _ _ _ _, World.ownsRow_nil _ _ _ _, below_sr (h5.alloc hs _) hs _⟩
/-- What made leaves. -/
def MadeP (y : Fr) (w : World) (e : Ending) (w' : World) : Prop := ∃ s t, e = .returned (.agg (frC y s t)) ∧ Below w.heap.size w w' ∧ memR.At w' s y.ms ∧ entR.At w' t y.es
set_option maxHeartbeats 8000000 in
set_option maxRecDepth 20000 in
theorem made_any (x : Fr) (a1 a2 : Option Addr) (n1 n2 c1 c2 : Nat) (w : World) (hn1 : n1 = x.ms.length) (hn2 : n2 = x.es.length) (hm : 0 < n1 → memR.At w (.slice a1 n1 c1) x.ms) (he : 0 < n2 → entR.At w (.slice a2 n2 c2) x.es) (hb1 : n1 ≤ 40) (hb2 : n2 ≤ 40) :
    Calls Tryd.prog 14 #[.agg (frC x (.slice a1 n1 c1) (.slice a2 n2 c2))] w (MadeP (toldF x) w) := by
  have X0 : Blk ((w.alloc (.cells (frC x (.slice a1 n1 c1) (.slice a2 n2 c2)) 52)).alloc (.cells z34 47)) w.heap.size (frC x (.slice a1 n1 c1) (.slice a2 n2 c2)) 52 := (Blk.new rfl).alloc _
  have P0 : Blk ((w.alloc (.cells (frC x (.slice a1 n1 c1) (.slice a2 n2 c2)) 52)).alloc (.cells z34 47)) (w.heap.size + 1) z34 47 := Blk.new (by simp)
  have B0 : Below w.heap.size w ((w.alloc (.cells (frC x (.slice a1 n1 c1) (.slice a2 n2 c2)) 52)).alloc (.cells z34 47)) := by go_grown
  have HM := Lib.hid hm
  have HE := Lib.hid he
  have HN := Lib.hid (And.intro hn1 hn2)
  obtain ⟨A, hA⟩ : ∃ A, A = w.heap.size := ⟨_, rfl⟩
  clear hm he hn1 hn2
  go_enter Tryd.func14, Tryd.ntmps14
  go_upto_region 1 with fail
  obtain ⟨w1, hw1⟩ : ∃ w1, w1 = ((w.alloc (.cells (frC x (.slice a1 n1 c1) (.slice a2 n2 c2)) 52)).alloc (.cells z34 47)) := ⟨_, rfl⟩
  rw [← hw1] at X0 P0 B0 ⊢
  rw [← hA] at X0 P0 ⊢
  have HA := Lib.hid hA
  have HX := Lib.hid X0
  have HP := Lib.hid P0
  have HB := Lib.hid B0
  clear hA hw1 X0 P0 B0
  go_cut [3] from 101 (fun u wx => ∃ M, u = .pointer (some ⟨M, 0, none⟩) ∧ A + 1 < M ∧ M3 x (.slice a1 n1 c1) (.slice a2 n2 c2) A M w (.slice none 0 0) (.slice none 0 0) [] (.slice none 0 0) (.slice none 0 0) [] wx)
  case first =>
    rename_i JJ KK hJJ hKK
    have HJ := Lib.hid hJJ
    clear hJJ
    have ONE := Lib.hid (frCn_one x)
    have NB := Lib.hid (Blk.new (w := w1) (B := w1.heap.size) (T := 29) (cs := z34) rfl)
    have HX1 := HX.out
    have c0 : w1.cell? ⟨A, 0, none⟩ = some _ := HX1.cell 0
    have c1 : w1.cell? ⟨A, 1, none⟩ = some _ := HX1.cell 1
    have c2 : w1.cell? ⟨A, 2, none⟩ = some _ := HX1.cell 2
    have c3 : w1.cell? ⟨A, 3, none⟩ = some _ := HX1.cell 3
    have c4 : w1.cell? ⟨A, 4, none⟩ = some _ := HX1.cell 4
    have c5 : w1.cell? ⟨A, 5, none⟩ = some _ := HX1.cell 5
    have c6 : w1.cell? ⟨A, 6, none⟩ = some _ := HX1.cell 6
    have c7 : w1.cell? ⟨A, 7, none⟩ = some _ := HX1.cell 7
    have c8 : w1.cell? ⟨A, 8, none⟩ = some _ := HX1.cell 8
    have c9 : w1.cell? ⟨A, 9, none⟩ = some _ := HX1.cell 9
    have c10 : w1.cell? ⟨A, 10, none⟩ = some _ := HX1.cell 10
    have c11 : w1.cell? ⟨A, 11, none⟩ = some _ := HX1.cell 11
    have c12 : w1.cell? ⟨A, 12, none⟩ = some _ := HX1.cell 12
    have c13 : w1.cell? ⟨A, 13, none⟩ = some _ := HX1.cell 13
    have c14 : w1.cell? ⟨A, 14, none⟩ = some _ := HX1.cell 14
    have c15 : w1.cell? ⟨A, 15, none⟩ = some _ := HX1.cell 15
    have c16 : w1.cell? ⟨A, 16, none⟩ = some _ := HX1.cell 16
    have c17 : w1.cell? ⟨A, 17, none⟩ = some _ := HX1.cell 17
    have c18 : w1.cell? ⟨A, 18, none⟩ = some _ := HX1.cell 18
    have c19 : w1.cell? ⟨A, 19, none⟩ = some _ := HX1.cell 19
    have c20 : w1.cell? ⟨A, 20, none⟩ = some _ := HX1.cell 20
    have c21 : w1.cell? ⟨A, 21, none⟩ = some _ := HX1.cell 21
    have c22 : w1.cell? ⟨A, 22, none⟩ = some _ := HX1.cell 22
    have c23 : w1.cell? ⟨A, 23, none⟩ = some _ := HX1.cell 23
    have c25 : w1.cell? ⟨A, 25, none⟩ = some _ := HX1.cell 25
    have c26 : w1.cell? ⟨A, 26, none⟩ = some _ := HX1.cell 26
    have c27 : w1.cell? ⟨A, 27, none⟩ = some _ := HX1.cell 27
    have c28 : w1.cell? ⟨A, 28, none⟩ = some _ := HX1.cell 28
    have c29 : w1.cell? ⟨A, 29, none⟩ = some _ := HX1.cell 29
    have c30 : w1.cell? ⟨A, 30, none⟩ = some _ := HX1.cell 30
    have c31 : w1.cell? ⟨A, 31, none⟩ = some _ := HX1.cell 31
    have c32 : w1.cell? ⟨A, 32, none⟩ = some _ := HX1.cell 32
    have lA := HX1.lt
    clear HX1
    go_wp2_with (first | (refine wpList_build_to rfl 29 _ rfl (frC x (.slice none 0 0) (.slice none 0 0)) (by kernel_rfl) ?_) | (refine wpList_store_row rfl 29 (.tmp 3) (.tmp 51) rfl w1.heap.size (frC x (.slice none 0 0) (.slice none 0 0)) rfl rfl 29 z34 (blk_raw NB.out) (by kernel_rfl) rfl ONE.out ?_))
    refine Met.intro (HJ.out _ _ ?_)
    repeat apply Exists.intro
    refine ⟨?_, rfl⟩
    with_reducible exact M3.of HA.out HX.out HP.out HB.out
  case rest =>
    obtain ⟨X, rfl, hAX, hT⟩ := hcut
    have HST : Hid (MemMade x (.slice a1 n1 c1) (.slice a2 n2 c2) A X w n1 (.int .i64 0) wc) := Lib.hid ⟨0, _, Nat.zero_le _, rfl, by simpa using hT⟩
    clear hT HX HP HB
    go_upto_block 0 with fail
    go_cut [] from 101 (fun wx => ∃ f1, M3 x (.slice a1 n1 c1) (.slice a2 n2 c2) A X w f1 f1 x.ms (.slice none 0 0) (.slice none 0 0) [] wx)
    case first =>
      rename_i JJ KK hJJ hKK
      have HJ := Lib.hid hJJ
      clear hJJ
      go_wp2_with fail
      go_loopw [4] (fun i wr => MemMade x (.slice a1 n1 c1) (.slice a2 n2 c2) A X w n1 i wr) (fun i _ => n1 - (intOf i).toNat)
      case atStart => exact HST.out
      case round =>
        obtain ⟨k, u1, hk, rfl, hT⟩ := hrel
        have HT := Lib.hid hT
        have cA : wr.cell? ⟨A, 24, none⟩ = some (.slice a1 n1 c1) := hT.a.cell 24
        clear HST hT
        by_cases h1 : k < n1
        · have hkl : k < x.ms.length := by rw [← HN.out.1]; exact h1
          obtain ⟨b, off, cap, hsl, hbl, hcs⟩ := (HM.out (by omega)).form (by omega)
          simp only [Value.slice.injEq] at hsl
          obtain ⟨rfl, hd1, hd2⟩ := hsl
          clear hd1 hd2
          obtain ⟨mm, hmm⟩ : ∃ mm, mm = x.ms[k] := ⟨_, rfl⟩
          have Q0 := Lib.hid (show w.cell? ⟨b, off + k * 3, none⟩ = some (.int .u8 mm.n) by rw [hmm]; exact hcs k hkl 0 _ rfl)
          have Q1 := Lib.hid (show w.cell? ⟨b, off + k * 3 + 1, none⟩ = some (.int .u8 mm.l) by rw [hmm, Nat.add_assoc]; exact hcs k hkl 1 _ rfl)
          have Q2 := Lib.hid (show w.cell? ⟨b, off + k * 3 + 2, none⟩ = some (.bool mm.r) by rw [hmm, Nat.add_assoc]; exact hcs k hkl 2 _ rfl)
          have HTK := Lib.hid (show x.ms.take (k + 1) = x.ms.take k ++ [mm] by rw [hmm]; exact List.take_succ_eq_append_getElem hkl)
          have HLN := Lib.hid (show (x.ms.take k).length = k by rw [List.length_take]; omega)
          have HMN := Lib.hid (show min k x.ms.length = k by omega)
          have HBL := Lib.hid hbl
          obtain ⟨mn, ml, mr⟩ := mm
          simp only at Q0 Q1 Q2
          obtain ⟨iA, hiA, hzA0, hzA1, hzA2⟩ := infoPLM
          have HIA := Lib.hid (And.intro hiA (And.intro hzA0 (And.intro hzA1 hzA2)))
          clear hiA hzA0 hzA1 hzA2 hcs hbl hmm cA
          have cA : wr.cell? ⟨A, 24, none⟩ = some (.slice (some ⟨b, off, none⟩) n1 c1) := HT.out.a.cell 24
          have cF : wr.cell? ⟨X, 24, none⟩ = some u1 := HT.out.f.cell 24
          have lA := HT.out.a.lt
          have lF := HT.out.f.lt
          have lb := Nat.lt_of_lt_of_le HBL.out HT.out.b.size
          have q0 := (HT.out.b.cell (p := ⟨b, off + k * 3, none⟩) HBL.out).trans Q0.out
          have q1 := (HT.out.b.cell (p := ⟨b, off + k * 3 + 1, none⟩) HBL.out).trans Q1.out
          have q2 := (HT.out.b.cell (p := ⟨b, off + k * 3 + 2, none⟩) HBL.out).trans Q2.out
          go_upto_region 5 with fail
          refine WalkS.begin (fun w' => w'.cell? ⟨A, 24, none⟩ = some (.slice (some ⟨b, off, none⟩) n1 c1) ∧ w'.cell? ⟨b, off + k * 3, none⟩ = some (.int .u8 mn) ∧ w'.cell? ⟨b, off + k * 3 + 1, none⟩ = some (.int .u8 ml) ∧ w'.cell? ⟨b, off + k * 3 + 2, none⟩ = some (.bool mr) ∧ w'.cell? ⟨X, 24, none⟩ = some u1) [10] (by kernel_rfl) ⟨cA, q0, q1, q2, cF⟩ ?_
          simp only [List.size_toArray, List.length_cons, List.length_nil, Nat.zero_add, Nat.reduceAdd, show Array.replicate 11 false = #[false, false, false, false, false, false, false, false, false, false, false] from rfl]
          refine' WalkS.take0 0 _ (v := _) rfl (by kernel_rfl) (by kernel_rfl) (by kernel_rfl) (by kernel_rfl) (fun _ _ _ h => h) (Or.inl ⟨by rfl, ?hy1⟩) ?rest1
          case hy1 => (intro w9; go_simp <;> with_reducible rfl)
          simp only [Act.put, List.setIfInBounds_toArray, List.set_cons_zero, List.set_cons_succ]
          refine' WalkS.take 1 _ (v := _) rfl (by kernel_rfl) (by kernel_rfl) (by kernel_rfl) (by kernel_rfl) (by kernel_rfl) (fun _ _ _ h => h) (Or.inl ⟨by rfl, ?hy2⟩) ?rest2
          case hy2 => (intro w9 hSw; obtain ⟨sA, s0, s1, s2, sF⟩ := hSw; go_simp <;> with_reducible rfl)
          simp only [Act.put, List.setIfInBounds_toArray, List.set_cons_zero, List.set_cons_succ]
          refine' WalkS.take0 2 _ (v := _) rfl (by kernel_rfl) (by kernel_rfl) (by kernel_rfl) (by kernel_rfl) (fun _ _ _ h => h) (Or.inl ⟨by rfl, ?hy3⟩) ?rest3
          case hy3 => (intro w9; go_simp <;> with_reducible rfl)
          simp only [Act.put, List.setIfInBounds_toArray, List.set_cons_zero, List.set_cons_succ]
          refine' WalkS.take 3 _ (v := _) rfl (by kernel_rfl) (by kernel_rfl) (by kernel_rfl) (by kernel_rfl) (by kernel_rfl) (fun _ _ _ h => h) (Or.inl ⟨by rfl, ?hy4⟩) ?rest4
          case hy4 => (intro w9 hSw; obtain ⟨sA, s0, s1, s2, sF⟩ := hSw; go_simp <;> with_reducible rfl)
          simp only [Act.put, List.setIfInBounds_toArray, List.set_cons_zero, List.set_cons_succ]
          refine' WalkS.take0 4 _ (v := _) rfl (by kernel_rfl) (by kernel_rfl) (by kernel_rfl) (by kernel_rfl) (fun _ _ _ h => h) (Or.inl ⟨by rfl, ?hy5⟩) ?rest5
          case hy5 => (intro w9; go_simp <;> with_reducible rfl)
          simp only [Act.put, List.setIfInBounds_toArray, List.set_cons_zero, List.set_cons_succ]
          refine' WalkS.take0 5 _ (v := _) rfl (by kernel_rfl) (by kernel_rfl) (by kernel_rfl) (by kernel_rfl) (fun _ _ _ h => h) (Or.inl ⟨by rfl, ?hy6⟩) ?rest6
          case hy6 => (intro w9; go_simp <;> with_reducible rfl)
          simp only [Act.put, List.setIfInBounds_toArray, List.set_cons_zero, List.set_cons_succ]
          refine' WalkS.take 6 _ (v := _) rfl (by kernel_rfl) (by kernel_rfl) (by kernel_rfl) (by kernel_rfl) (by kernel_rfl) (fun _ _ _ h => h) (Or.inl ⟨by rfl, ?hy7⟩) ?rest7
          case hy7 => (intro w9 hSw; obtain ⟨sA, s0, s1, s2, sF⟩ := hSw; go_simp <;> with_reducible rfl)
          simp only [Act.put, List.setIfInBounds_toArray, List.set_cons_zero, List.set_cons_succ]
          refine WalkS.each [7] (by kernel_rfl) rfl ?_
          refine EachS.cons 7 _ rfl (fun K hK => ?sa) EachS.nil
          go_simp
          refine hK.out _ _ (fun _ => ?sb) ?sc
          case sb => (refine ⟨?_, ?_, ?_, ?_, ?_⟩ <;> first | assumption | (simp [World.cell?_alloc_some, cA, q0, q1, q2, cF]; done))
          clear hK K
          simp only [List.setIfInBounds_toArray, List.set_cons_zero, List.set_cons_succ]
          refine WalkS.each [8] (by kernel_rfl) rfl ?_
          refine EachS.cons 8 _ rfl (fun K hK => ?sd) EachS.nil
          refine step_append_own1 rfl (.tmp 60) (.tmp 66) 25 rfl w.heap.size 76 iA _ 3 3 Tryd.underlying25 HIA.out.1 HIA.out.2.1 HIA.out.2.2.1 HIA.out.2.2.2 rfl (by decide) u1 _ _ rfl (HT.out.on (by go_grown)).o _ 1 1 [.int .u8 mn, .int .u8 ml, .bool mr] rfl rfl (newsRM (x := ⟨mn, ml, mr⟩) (by simp [go_sem]; done) (by simp [go_sem]; done) (by simp [go_sem]; done)) (onesM _ _ _ rfl rfl rfl) (by rw [HLN.out]; unfold maxLen; omega) (by rw [HLN.out]; omega) (by have := HT.out.b.size; simp; omega) (by decide) ?_
          intro g1 k1 w3 hg1 hown1 hgr1
          have HTn := Lib.hid ((HT.out.on (by go_grown)).appM (l := x.ms.take (k + 1)) (by unfold RK.Own; rw [HTK.out, List.length_append, RK.row_snoc]; exact hown1) hgr1)
          clear HT hown1 hgr1 hg1 cA cF lA lF lb q0 q1 q2
          have HT := HTn
          clear HTn
          have cA : w3.cell? ⟨A, 24, none⟩ = some (.slice (some ⟨b, off, none⟩) n1 c1) := HT.out.a.cell 24
          have cF : w3.cell? ⟨X, 24, none⟩ = some u1 := HT.out.f.cell 24
          have fF := HT.out.f.frozen 24
          have q0 := (HT.out.b.cell (p := ⟨b, off + k * 3, none⟩) HBL.out).trans Q0.out
          have q1 := (HT.out.b.cell (p := ⟨b, off + k * 3 + 1, none⟩) HBL.out).trans Q1.out
          have q2 := (HT.out.b.cell (p := ⟨b, off + k * 3 + 2, none⟩) HBL.out).trans Q2.out
          refine hK.out _ _ (fun _ => ⟨cA, q0, q1, q2, cF⟩) ?_
          clear hK K
          simp only [Act.put, List.setIfInBounds_toArray, List.set_cons_zero, List.set_cons_succ]
          refine' WalkS.take0 9 _ (v := _) rfl (by kernel_rfl) (by kernel_rfl) (by kernel_rfl) (by kernel_rfl) (fun _ _ _ h => h) (Or.inl ⟨by rfl, ?hy8⟩) ?rest8
          case hy8 => (intro w9; go_simp <;> with_reducible rfl)
          simp only [Act.put, List.setIfInBounds_toArray, List.set_cons_zero, List.set_cons_succ]
          refine WalkS.each [10] (by kernel_rfl) rfl ?_
          refine EachS.cons 10 _ rfl (fun K hK => ?se) EachS.nil
          go_simp
          refine hK.out _ _ (fun h => absurd h (by decide)) ?_
          clear hK K
          simp only [List.setIfInBounds_toArray, List.set_cons_zero, List.set_cons_succ]
          refine WalkS.done (by kernel_rfl) ?_
          have HREL : Hid (MemMade x (.slice (some ⟨b, off, none⟩) n1 c1) (.slice a2 n2 c2) A X w n1 (.int .i64 (k + 1)) (w3.setCell ⟨X, 24, none⟩ (.slice (some ⟨g1, 0, none⟩) ((x.ms.take k).length + 1) k1))) := Lib.hid ⟨k + 1, _, by omega, by go_num, HT.out.setM (by omega) (by have := HA.out; omega) _⟩
          simp only [HLN.out] at HREL ⊢
          have HREL2 : Hid (MemMade x (.slice (some ⟨b, off, none⟩) n1 c1) (.slice a2 n2 c2) A X w n1 (.int .i64 (k + 1)) (w3.setCell ⟨X, 24, none⟩ (.slice (some ⟨g1, 0, none⟩) (min k x.ms.length + 1) k1))) := Lib.hid (by rw [HMN.out]; exact HREL.out)
          clear HT cA cF fF q0 q1 q2
          go_wp2_with fail
          first
            | (exact ⟨HREL.out, by simp only [intOf]; omega⟩)
            | (exact ⟨HREL2.out, by simp only [intOf]; omega⟩)
            | (go_roundw
               case rel => first | exact HREL.out | exact HREL2.out
               case measure => simp only [intOf]; omega)
        · have hk' : ¬ ((k : Int) < (n1 : Int)) := by omega
          have HE1 := Lib.hid (show x.ms.take k = x.ms by rw [List.take_of_length_le (by have := HN.out.1; omega)])
          go_wp2_with fail
          refine Met.intro (HJ.out _ _ ?_)
          repeat apply Exists.intro
          refine ⟨?_, rfl⟩
          exact ⟨u1, by have := HT.out; rw [HE1.out] at this; exact this⟩
    case rest =>
      obtain ⟨f1, hT⟩ := hcut
      have HST2 : Hid (EntMade x (.slice a1 n1 c1) (.slice a2 n2 c2) A X w f1 n2 (.int .i64 0) wc) := Lib.hid ⟨0, _, Nat.zero_le _, rfl, by simpa using hT⟩
      clear hT HST
      go_upto_block 2 with fail
      go_cut [] from 101 (fun wx => ∃ v1, M3 x (.slice a1 n1 c1) (.slice a2 n2 c2) A X w f1 f1 x.ms v1 v1 x.es wx)
      case first =>
        rename_i JJ KK hJJ hKK
        have HJ := Lib.hid hJJ
        clear hJJ
        go_wp2_with fail
        go_loopw [5] (fun i wr => EntMade x (.slice a1 n1 c1) (.slice a2 n2 c2) A X w f1 n2 i wr) (fun i _ => n2 - (intOf i).toNat)
        case atStart => exact HST2.out
        case round =>
          obtain ⟨k, u1, hk, rfl, hT⟩ := hrel
          have HT := Lib.hid hT
          have cA : wr.cell? ⟨A, 33, none⟩ = some (.slice a2 n2 c2) := hT.a.cell 33
          clear HST2 hT
          by_cases h1 : k < n2
          · have hkl : k < x.es.length := by rw [← HN.out.2]; exact h1
            obtain ⟨b, off, cap, hsl, hbl, hcs⟩ := (HE.out (by omega)).form (by omega)
            simp only [Value.slice.injEq] at hsl
            obtain ⟨rfl, hd1, hd2⟩ := hsl
            clear hd1 hd2
            obtain ⟨yy, hyy⟩ : ∃ yy, yy = x.es[k] := ⟨_, rfl⟩
            have HTK := Lib.hid (show x.es.take (k + 1) = x.es.take k ++ [yy] by rw [hyy]; exact List.take_succ_eq_append_getElem hkl)
            have HLN := Lib.hid (show (x.es.take k).length = k by rw [List.length_take]; omega)
            have HMN := Lib.hid (show min k x.es.length = k by omega)
            have HBL := Lib.hid hbl
            have Q0 := Lib.hid (show w.cell? ⟨b, off + k * 8, none⟩ = some (.int .u32 yy.s) by rw [hyy]; exact hcs k hkl 0 _ rfl)
            have Q1 := Lib.hid (show w.cell? ⟨b, off + k * 8 + 1, none⟩ = some (.int .u32 yy.n) by rw [hyy, Nat.add_assoc]; exact hcs k hkl 1 _ rfl)
            have Q2 := Lib.hid (show w.cell? ⟨b, off + k * 8 + 2, none⟩ = some (.int .u8 yy.b) by rw [hyy, Nat.add_assoc]; exact hcs k hkl 2 _ rfl)
            have Q3 := Lib.hid (show w.cell? ⟨b, off + k * 8 + 3, none⟩ = some (.int .u8 yy.c.k) by rw [hyy, Nat.add_assoc]; exact hcs k hkl 3 _ rfl)
            have Q4 := Lib.hid (show w.cell? ⟨b, off + k * 8 + 4, none⟩ = some (.int .u8 yy.c.n) by rw [hyy, Nat.add_assoc]; exact hcs k hkl 4 _ rfl)
            have Q5 := Lib.hid (show w.cell? ⟨b, off + k * 8 + 5, none⟩ = some (.int .u8 yy.c.l) by rw [hyy, Nat.add_assoc]; exact hcs k hkl 5 _ rfl)
            have Q6 := Lib.hid (show w.cell? ⟨b, off + k * 8 + 6, none⟩ = some (.int .u32 yy.c.e) by rw [hyy, Nat.add_assoc]; exact hcs k hkl 6 _ rfl)
            have Q7 := Lib.hid (show w.cell? ⟨b, off + k * 8 + 7, none⟩ = some (.int .u32 yy.c.r) by rw [hyy, Nat.add_assoc]; exact hcs k hkl 7 _ rfl)
            clear hcs hbl hyy
            have q0 := (HT.out.b.cell (p := ⟨b, off + k * 8, none⟩) HBL.out).trans Q0.out
            have q1 := (HT.out.b.cell (p := ⟨b, off + k * 8 + 1, none⟩) HBL.out).trans Q1.out
            have q2 := (HT.out.b.cell (p := ⟨b, off + k * 8 + 2, none⟩) HBL.out).trans Q2.out
            have q3 := (HT.out.b.cell (p := ⟨b, off + k * 8 + 3, none⟩) HBL.out).trans Q3.out
            have q4 := (HT.out.b.cell (p := ⟨b, off + k * 8 + 4, none⟩) HBL.out).trans Q4.out
            have q5 := (HT.out.b.cell (p := ⟨b, off + k * 8 + 5, none⟩) HBL.out).trans Q5.out
            have q6 := (HT.out.b.cell (p := ⟨b, off + k * 8 + 6, none⟩) HBL.out).trans Q6.out
            have q7 := (HT.out.b.cell (p := ⟨b, off + k * 8 + 7, none⟩) HBL.out).trans Q7.out
            have lb := Nat.lt_of_lt_of_le HBL.out HT.out.b.size
            go_upto_region 9 with fail
            go_cut [6] from 69 to 94 (fun u wx => u = .pointer (some ⟨wr.heap.size, 0, none⟩) ∧ Blk wx wr.heap.size (entA yy) 83 ∧ Below wr.heap.size wr wx)
            case first =>
              rename_i JJ2 KK2 hJJ2 hKK2
              have HJ2 := Lib.hid hJJ2
              clear hJJ2
              go_wp2_with fail
              refine Met.intro (HJ2.out _ _ ?_)
              repeat apply Exists.intro
              refine ⟨?_, rfl⟩
              exact ⟨rfl, Blk.new rfl, by go_grown⟩
            case rest =>
              obtain ⟨rfl, hy, hb⟩ := hcut
              have TZ := Lib.hid (HT.out.on hb)
              have YC := Lib.hid hy
              obtain ⟨Y, hY⟩ : ∃ Y, Y = wr.heap.size := ⟨_, rfl⟩
              rw [← hY] at YC ⊢
              clear hy hb HT hY q0 q1 q2 q3 q4 q5 q6 q7 lb cA Q0 Q1 Q2 Q3 Q4 Q5 Q6 Q7
              go_upto_region 10 with fail
              have y0 : wc.cell? ⟨Y, 0, none⟩ = some (.int .u32 yy.s) := YC.out.cell 0
              have y1 : wc.cell? ⟨Y, 1, none⟩ = some (.int .u32 yy.n) := YC.out.cell 1
              have y2 : wc.cell? ⟨Y, 2, none⟩ = some (.int .u8 yy.b) := YC.out.cell 2
              have y3 : wc.cell? ⟨Y, 3, none⟩ = some (.int .u8 yy.c.k) := YC.out.cell 3
              have y4 : wc.cell? ⟨Y, 4, none⟩ = some (.int .u8 yy.c.n) := YC.out.cell 4
              have y5 : wc.cell? ⟨Y, 5, none⟩ = some (.int .u8 yy.c.l) := YC.out.cell 5
              have y6 : wc.cell? ⟨Y, 6, none⟩ = some (.int .u32 yy.c.e) := YC.out.cell 6
              have y7 : wc.cell? ⟨Y, 7, none⟩ = some (.int .u32 yy.c.r) := YC.out.cell 7
              have cX : wc.cell? ⟨X, 33, none⟩ = some u1 := TZ.out.f.cell 33
              have lY := YC.out.lt
              have lX := TZ.out.f.lt
              obtain ⟨i0, hi0, hz0, hz1, hz2⟩ := infoPLE
              have HI := Lib.hid (And.intro hi0 (And.intro hz0 (And.intro hz1 hz2)))
              clear hi0 hz0 hz1 hz2
              have TA := Lib.hid (TZ.out.on (wy := wc.alloc (.cells (entA yy) 79)) (by go_grown))
              have NB := Lib.hid (Blk.new (w := wc) (B := wc.heap.size) (T := 79) (cs := entA yy) rfl)
              go_wp2_with (at_builtin; refine wpList_append_own1 _ rfl _ _ 27 rfl w.heap.size 79 i0 _ 8 24 Tryd.underlying27 HI.out.1 HI.out.2.1 HI.out.2.2.1 HI.out.2.2.2 rfl (by decide) _ _ _ rfl TA.out.q ⟨wc.heap.size, 0, none⟩ 1 1 (entR.f yy) rfl rfl ?qn (entR.one yy) (by rw [HLN.out]; unfold maxLen; omega) (by rw [HLN.out]; omega) (by have := TZ.out.b.size; simp; omega) (by decide) ?_)
              case qn => exact news8 NB.out.cell
              intro g9 cap9 w8 hg hown hgrow
              simp only [HMN.out] at hown ⊢
              have T8 := Lib.hid (TA.out.appE (l := x.es.take (k + 1)) (by unfold RK.Own; rw [HTK.out, List.length_append, RK.row_snoc, HLN.out]; exact hown) hgrow)
              clear hown hgrow hg TA NB y0 y1 y2 y3 y4 y5 y6 y7 cX lY lX
              have cX : w8.cell? ⟨X, 33, none⟩ = some u1 := T8.out.f.cell 33
              have fX := T8.out.f.frozen 33
              have HREL : Hid (EntMade x (.slice a1 n1 c1) (.slice (some ⟨b, off, none⟩) n2 c2) A X w f1 n2 (.int .i64 (k + 1)) (w8.setCell ⟨X, 33, none⟩ (.slice (some ⟨g9, 0, none⟩) (k + 1) cap9))) := Lib.hid ⟨k + 1, _, by omega, by go_num, T8.out.setE (by omega) (by have := HA.out; omega) _⟩
              clear T8 TZ YC
              go_wp2_with fail
              go_roundw
              case rel => exact HREL.out
              case measure => simp [intOf]; omega
          · have hk' : ¬ ((k : Int) < (n2 : Int)) := by omega
            have HE1 := Lib.hid (show x.es.take k = x.es by rw [List.take_of_length_le (by have := HN.out.2; omega)])
            go_wp2_with fail
            refine Met.intro (HJ.out _ _ ?_)
            repeat apply Exists.intro
            refine ⟨?_, rfl⟩
            exact ⟨u1, by have := HT.out; rw [HE1.out] at this; exact this⟩
      case rest =>
        obtain ⟨v1, hT⟩ := hcut
        obtain ⟨am, cm, hf1⟩ := (show memR.At wc f1 x.ms from hT.o.at).len
        obtain ⟨ae, ce, hv1⟩ := (show entR.At wc v1 x.es from hT.q.at).len
        subst hf1
        subst hv1
        have HT := Lib.hid hT
        have RX := Lib.hid (blk_raw hT.f)
        obtain ⟨f, hf⟩ : ∃ f, f = toldF x := ⟨_, rfl⟩
        have H3 := Lib.hid (told_new x am ae x.ms.length x.es.length cm ce wc rfl rfl (fun _ => hT.o.at) (fun _ => hT.q.at) (by have := HN.out.1; unfold maxLen; omega) (by have := HN.out.2; unfold maxLen; omega))
        have lA1 := hT.p.lt
        rw [← hf] at H3
        have HF := Lib.hid hf
        clear hf
        clear hT HST2
        go_wp2_with (first | (refine wpList_load_row rfl 29 (.tmp 3) rfl X rfl 29 (frC x (.slice am x.ms.length cm) (.slice ae x.es.length ce)) (0, 0) _ RX.out Tryd.underlying29 rfl (by kernel_rfl) ?_))
        with_reducible refine H3.out.mono ?_
        rintro e w4 ⟨s1, t1, s2, t2, rfl, hB4, m1, e1, m2, e2, q1, q2⟩
        obtain ⟨g1, d1, rfl⟩ := m1.len
        obtain ⟨g2, d2, rfl⟩ := e1.len
        obtain ⟨g3, d3, rfl⟩ := m2.len
        obtain ⟨g4, d4, rfl⟩ := e2.len
        have HP4 := Lib.hid (HT.out.p.on hB4)
        have HB4 := Lib.hid (m_below_on HT.out.b hB4)
        have NF0 : Blk (w4.alloc (.cells z34 47)) w4.heap.size z34 47 := Blk.new rfl
        have NF := Lib.hid (NF0.alloc (.cells z34 52))
        have NR := Lib.hid (show Blk ((w4.alloc (.cells z34 47)).alloc (.cells z34 52)) (w4.heap.size + 1) z34 52 from Blk.new (by simp))
        have O1 := Lib.hid (frC_one f g1 g2 f.ms.length f.es.length d1 d2)
        have O2 := Lib.hid (frC_one f g3 g4 f.ms.length f.es.length d3 d4)
        have hne : w4.heap.size + 1 ≠ w4.heap.size := by omega
        have NR2 := Lib.hid ((setRow_other ((w4.alloc (.cells z34 47)).alloc (.cells z34 52)) w4.heap.size (w4.heap.size + 1) (frC f (.slice g1 f.ms.length d1) (.slice g2 f.es.length d2)) hne).trans (blk_raw NR.out))
        have hB5 : Below w4.heap.size w4 ((((w4.alloc (.cells z34 47)).alloc (.cells z34 52)).setRow w4.heap.size (frC f (.slice g1 f.ms.length d1) (.slice g2 f.es.length d2))).setRow (w4.heap.size + 1) (frC f (.slice g3 f.ms.length d3) (.slice g4 f.es.length d4))) := below_sr (below_sr (by go_grown) (Nat.le_refl _) _) (Nat.le_succ _) _
        clear H3 hB4 RX HT NF0
        go_upto_region 12 with (first | (refine wpList_store_row rfl 47 (.tmp 7) (.tmp 98) rfl w4.heap.size (frC f (.slice g1 f.ms.length d1) (.slice g2 f.es.length d2)) rfl rfl 47 z34 (blk_raw NF.out) (by kernel_rfl) rfl O1.out ?_) | (refine wpList_store_row rfl 52 (.tmp 8) (.tmp 99) rfl (w4.heap.size + 1) (frC f (.slice g3 f.ms.length d3) (.slice g4 f.es.length d4)) rfl rfl 52 z34 NR2.out (by kernel_rfl) rfl O2.out ?_))
        obtain ⟨w5, hw5⟩ : ∃ w5, w5 = (((w4.alloc (.cells z34 47)).alloc (.cells z34 52)).setRow w4.heap.size (frC f (.slice g1 f.ms.length d1) (.slice g2 f.es.length d2))).setRow (w4.heap.size + 1) (frC f (.slice g3 f.ms.length d3) (.slice g4 f.es.length d4)) := ⟨_, rfl⟩
        rw [← hw5] at hB5 ⊢
        have R5 := Lib.hid (show w5.heap[w4.heap.size]? = some (.cells (frC f (.slice g1 f.ms.length d1) (.slice g2 f.es.length d2)) 47 (0, 0)) by rw [hw5]; exact (setRow_other _ _ _ _ (Ne.symm hne)).trans (blk_raw (setRow_blk _ NF.out)))
        have P5 := Lib.hid (HP4.out.on hB5)
        have B5 := Lib.hid (m_below_on HB4.out hB5)
        have M5 := Lib.hid (m1.on hB5)
        have E5 := Lib.hid (e1.on hB5)
        clear hw5 hB5 NF NR NR2 m1 e1 m2 e2 O2 HP4 HB4
        go_wp2_with (first | (refine wpList_load_row rfl 47 (.tmp 7) rfl w4.heap.size rfl 47 (frC f (.slice g1 f.ms.length d1) (.slice g2 f.es.length d2)) (0, 0) _ R5.out Tryd.underlying47 rfl (by kernel_rfl) ?_) | (refine wpList_store_row rfl 47 (.tmp 2) (.tmp 100) rfl (A + 1) (frC f (.slice g1 f.ms.length d1) (.slice g2 f.es.length d2)) rfl rfl 47 z34 (blk_raw P5.out) (by kernel_rfl) rfl O1.out ?_))
        refine bodyPost_ret (results_cell_row (p := 2) Tryd.results14 _ _ (A + 1) 47 _ (0, 0) _ rfl (blk_raw (setRow_blk (frC f (.slice g1 f.ms.length d1) (.slice g2 f.es.length d2)) P5.out)) Tryd.underlying47 rfl (by kernel_rfl)) rfl ?_
        have hAw := HA.out
        rw [← HF.out]
        exact ⟨_, _, rfl, below_sr B5.out (by omega) _, at_setRow M5.out _ q1 lA1, at_setRow E5.out _ q2 lA1⟩
end Go.Proofs.YtodajejjhfpdmaaDoor
