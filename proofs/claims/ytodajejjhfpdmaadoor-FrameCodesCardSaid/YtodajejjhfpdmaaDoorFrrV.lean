/-
  told: the program's frame and the document's, of plain data: the walk.
-/
import Derived.Test.YtodajejjhfpdmaaDoorFrrT
import Derived.Deep.CutBlock
namespace Go.Proofs.YtodajejjhfpdmaaDoor
open Go.RowKit Go.Instr

set_option maxHeartbeats 100000000 in
set_option maxRecDepth 20000 in
theorem told_new (x : Fr) (a1 a2 : Option Addr) (n1 n2 c1 c2 : Nat) (w : World) (hn1 : n1 = x.ms.length) (hn2 : n2 = x.es.length) (hm : 0 < n1 → memR.At w (.slice a1 n1 c1) x.ms) (he : 0 < n2 → entR.At w (.slice a2 n2 c2) x.es) (_hb1 : n1 ≤ maxLen) (_hb2 : n2 ≤ maxLen) :
    Calls Tryd.prog 8 #[.agg (frC x (.slice a1 n1 c1) (.slice a2 n2 c2))] w (ToldQ (toldF x) w) := by
  have X0 : Blk (((w.alloc (.cells (frC x (.slice a1 n1 c1) (.slice a2 n2 c2)) 29)).alloc (.cells z34 47)).alloc (.cells z34 52)) w.heap.size (frC x (.slice a1 n1 c1) (.slice a2 n2 c2)) 29 := ((Blk.new rfl).alloc _).alloc _
  have P0 : Blk (((w.alloc (.cells (frC x (.slice a1 n1 c1) (.slice a2 n2 c2)) 29)).alloc (.cells z34 47)).alloc (.cells z34 52)) (w.heap.size + 1) z34 47 := (Blk.new (by simp)).alloc _
  have R0 : Blk (((w.alloc (.cells (frC x (.slice a1 n1 c1) (.slice a2 n2 c2)) 29)).alloc (.cells z34 47)).alloc (.cells z34 52)) (w.heap.size + 2) z34 52 := Blk.new (by simp)
  have B0 : Below w.heap.size w (((w.alloc (.cells (frC x (.slice a1 n1 c1) (.slice a2 n2 c2)) 29)).alloc (.cells z34 47)).alloc (.cells z34 52)) := by go_grown
  have HM := Lib.hid hm
  have HE := Lib.hid he
  have HN := Lib.hid (And.intro hn1 hn2)
  obtain ⟨A, hA⟩ : ∃ A, A = w.heap.size := ⟨_, rfl⟩
  clear hm he hn1 hn2
  go_enter Tryd.func8, Tryd.ntmps8
  go_upto_region 1 with fail
  obtain ⟨w1, hw1⟩ : ∃ w1, w1 = (((w.alloc (.cells (frC x (.slice a1 n1 c1) (.slice a2 n2 c2)) 29)).alloc (.cells z34 47)).alloc (.cells z34 52)) := ⟨_, rfl⟩
  rw [← hw1] at X0 P0 R0 B0 ⊢
  rw [← hA] at X0 P0 R0 ⊢
  have HA := Lib.hid hA
  have HX := Lib.hid X0
  have HP := Lib.hid P0
  have HR := Lib.hid R0
  have HB := Lib.hid B0
  clear hA hw1 X0 P0 R0 B0
  go_cut [4] from 183 (fun u wx => ToldCut x (.slice a1 n1 c1) (.slice a2 n2 c2) A w1.heap.size w u wx)
  case first =>
    rename_i JJ KK hJJ hKK
    have HJ := Lib.hid hJJ
    clear hJJ
    have ONE := Lib.hid (frCn_one x)
    have NB := Lib.hid (Blk.new (w := w1) (B := w1.heap.size) (T := 47) (cs := z34) rfl)
    have HX1 := HX.out
    have c0 : w1.cell? ⟨A, 0, none⟩ = some _ := HX1.cell 0
    have c1 : w1.cell? ⟨A, 1, none⟩ = some _ := HX1.cell 1
    have c2 : w1.cell? ⟨A, 2, none⟩ = some _ := HX1.cell 2
    have c3 : w1.cell? ⟨A, 3, none⟩ = some _ := HX1.cell 3
    have c4 : w1.cell? ⟨A, 4, none⟩ = some _ := HX1.cell 4
    have c5 : w1.cell? ⟨A, 5, none⟩ = some _ := HX1.cell 5
    have c6 : w1.cell? ⟨A, 6, none⟩ = some _ := HX1.cell 6
    have c7 : w1.cell? ⟨A, 7, none⟩ = some _ := HX1.cell 7
    have c8 : w1.cell? ⟨A, 8, none⟩ = some _ := HX1.cell 8
    have c9 : w1.cell? ⟨A, 9, none⟩ = some _ := HX1.cell 9
    have c10 : w1.cell? ⟨A, 10, none⟩ = some _ := HX1.cell 10
    have c11 : w1.cell? ⟨A, 11, none⟩ = some _ := HX1.cell 11
    have c12 : w1.cell? ⟨A, 12, none⟩ = some _ := HX1.cell 12
    have c13 : w1.cell? ⟨A, 13, none⟩ = some _ := HX1.cell 13
    have c14 : w1.cell? ⟨A, 14, none⟩ = some _ := HX1.cell 14
    have c15 : w1.cell? ⟨A, 15, none⟩ = some _ := HX1.cell 15
    have c16 : w1.cell? ⟨A, 16, none⟩ = some _ := HX1.cell 16
    have c17 : w1.cell? ⟨A, 17, none⟩ = some _ := HX1.cell 17
    have c18 : w1.cell? ⟨A, 18, none⟩ = some _ := HX1.cell 18
    have c19 : w1.cell? ⟨A, 19, none⟩ = some _ := HX1.cell 19
    have c20 : w1.cell? ⟨A, 20, none⟩ = some _ := HX1.cell 20
    have c21 : w1.cell? ⟨A, 21, none⟩ = some _ := HX1.cell 21
    have c22 : w1.cell? ⟨A, 22, none⟩ = some _ := HX1.cell 22
    have c23 : w1.cell? ⟨A, 23, none⟩ = some _ := HX1.cell 23
    have c25 : w1.cell? ⟨A, 25, none⟩ = some _ := HX1.cell 25
    have c26 : w1.cell? ⟨A, 26, none⟩ = some _ := HX1.cell 26
    have c27 : w1.cell? ⟨A, 27, none⟩ = some _ := HX1.cell 27
    have c28 : w1.cell? ⟨A, 28, none⟩ = some _ := HX1.cell 28
    have c29 : w1.cell? ⟨A, 29, none⟩ = some _ := HX1.cell 29
    have c30 : w1.cell? ⟨A, 30, none⟩ = some _ := HX1.cell 30
    have c31 : w1.cell? ⟨A, 31, none⟩ = some _ := HX1.cell 31
    have c32 : w1.cell? ⟨A, 32, none⟩ = some _ := HX1.cell 32
    have lA := HX1.lt
    clear HX1
    go_wp2_with (first | (refine wpList_store_row rfl 47 (.tmp 4) (.tmp 58) rfl w1.heap.size (frC x (.slice none 0 0) (.slice none 0 0)) rfl rfl 47 z34 (blk_raw NB.out) (by kernel_rfl) rfl ONE.out ?_))
    refine Met.intro (HJ.out _ _ ?_)
    repeat apply Exists.intro
    refine ⟨?_, rfl⟩
    with_reducible exact ToldCut.of (by have := HA.out; have := HB.out.size; omega) HX.out HP.out HR.out HB.out
  case rest =>
    obtain ⟨rfl, hx, hp, hr, hf, hb⟩ := hcut
    have HX2 := Lib.hid hx
    have HP2 := Lib.hid hp
    have HR2 := Lib.hid hr
    have HF2 := Lib.hid hf
    have HB2 := Lib.hid hb
    have hAF : A + 2 < w1.heap.size := HR.out.lt
    obtain ⟨F, hF⟩ : ∃ F, F = w1.heap.size := ⟨_, rfl⟩
    rw [← hF] at HF2 hAF ⊢
    clear hF hx hp hr hf hb HX HP HR HB
    go_upto_region 2 with fail
    go_cut [5] from 183 (fun u wx => ∃ M, u = .pointer (some ⟨M, 0, none⟩) ∧ F < M ∧ T2 x (.slice a1 n1 c1) (.slice a2 n2 c2) A F M (.slice none 0 0) (.slice none 0 0) w (.slice none 0 0) (.slice none 0 0) (.slice none 0 0) (.slice none 0 0) [] [] wx)
    case first =>
      rename_i JJ KK hJJ hKK
      have HJ := Lib.hid hJJ
      clear hJJ
      have ONE := Lib.hid (frCn_one x)
      have NB := Lib.hid (Blk.new (w := wc) (B := wc.heap.size) (T := 52) (cs := z34) rfl)
      have HX1 := HX2.out
      have c0 : wc.cell? ⟨A, 0, none⟩ = some _ := HX1.cell 0
      have c1 : wc.cell? ⟨A, 1, none⟩ = some _ := HX1.cell 1
      have c2 : wc.cell? ⟨A, 2, none⟩ = some _ := HX1.cell 2
      have c3 : wc.cell? ⟨A, 3, none⟩ = some _ := HX1.cell 3
      have c4 : wc.cell? ⟨A, 4, none⟩ = some _ := HX1.cell 4
      have c5 : wc.cell? ⟨A, 5, none⟩ = some _ := HX1.cell 5
      have c6 : wc.cell? ⟨A, 6, none⟩ = some _ := HX1.cell 6
      have c7 : wc.cell? ⟨A, 7, none⟩ = some _ := HX1.cell 7
      have c8 : wc.cell? ⟨A, 8, none⟩ = some _ := HX1.cell 8
      have c9 : wc.cell? ⟨A, 9, none⟩ = some _ := HX1.cell 9
      have c10 : wc.cell? ⟨A, 10, none⟩ = some _ := HX1.cell 10
      have c11 : wc.cell? ⟨A, 11, none⟩ = some _ := HX1.cell 11
      have c12 : wc.cell? ⟨A, 12, none⟩ = some _ := HX1.cell 12
      have c13 : wc.cell? ⟨A, 13, none⟩ = some _ := HX1.cell 13
      have c14 : wc.cell? ⟨A, 14, none⟩ = some _ := HX1.cell 14
      have c15 : wc.cell? ⟨A, 15, none⟩ = some _ := HX1.cell 15
      have c16 : wc.cell? ⟨A, 16, none⟩ = some _ := HX1.cell 16
      have c17 : wc.cell? ⟨A, 17, none⟩ = some _ := HX1.cell 17
      have c18 : wc.cell? ⟨A, 18, none⟩ = some _ := HX1.cell 18
      have c19 : wc.cell? ⟨A, 19, none⟩ = some _ := HX1.cell 19
      have c20 : wc.cell? ⟨A, 20, none⟩ = some _ := HX1.cell 20
      have c21 : wc.cell? ⟨A, 21, none⟩ = some _ := HX1.cell 21
      have c22 : wc.cell? ⟨A, 22, none⟩ = some _ := HX1.cell 22
      have c23 : wc.cell? ⟨A, 23, none⟩ = some _ := HX1.cell 23
      have c25 : wc.cell? ⟨A, 25, none⟩ = some _ := HX1.cell 25
      have c26 : wc.cell? ⟨A, 26, none⟩ = some _ := HX1.cell 26
      have c27 : wc.cell? ⟨A, 27, none⟩ = some _ := HX1.cell 27
      have c28 : wc.cell? ⟨A, 28, none⟩ = some _ := HX1.cell 28
      have c29 : wc.cell? ⟨A, 29, none⟩ = some _ := HX1.cell 29
      have c30 : wc.cell? ⟨A, 30, none⟩ = some _ := HX1.cell 30
      have c31 : wc.cell? ⟨A, 31, none⟩ = some _ := HX1.cell 31
      have c32 : wc.cell? ⟨A, 32, none⟩ = some _ := HX1.cell 32
      have lA := HX1.lt
      clear HX1
      go_wp2_with (first | (refine wpList_build_to rfl 52 _ rfl (frC x (.slice none 0 0) (.slice none 0 0)) (by kernel_rfl) ?_) | (refine wpList_store_row rfl 52 (.tmp 5) (.tmp 101) rfl wc.heap.size (frC x (.slice none 0 0) (.slice none 0 0)) rfl rfl 52 z34 (blk_raw NB.out) (by kernel_rfl) rfl ONE.out ?_))
      refine Met.intro (HJ.out _ _ ?_)
      repeat apply Exists.intro
      refine ⟨?_, rfl⟩
      with_reducible exact T2.of HA.out hAF HX2.out HP2.out HR2.out HF2.out HB2.out
    case rest =>
      obtain ⟨M, rfl, hFM, hT⟩ := hcut
      have HT := Lib.hid hT
      obtain ⟨hn1, hn2⟩ := HN.out
      have HST : Hid (MemTold x (.slice a1 n1 c1) (.slice a2 n2 c2) A F M w n1 (.int .i64 0) wc) := Lib.hid ⟨0, _, _, Nat.zero_le _, Nat.zero_le _, rfl, by simpa using hT⟩
      clear hT hn1 hn2
      go_upto_block 0 with fail
      go_cut [] from 183 (fun wx => ∃ f1 f2, T2 x (.slice a1 n1 c1) (.slice a2 n2 c2) A F M (.slice none 0 0) (.slice none 0 0) w f1 f1 f2 f2 (x.ms.take 10) (x.ms.take 10) wx)
      case first =>
        rename_i JJ KK hJJ hKK
        have HJ := Lib.hid hJJ
        clear hJJ
        go_wp2_with fail
        go_loopw [6] (fun i wr => MemTold x (.slice a1 n1 c1) (.slice a2 n2 c2) A F M w n1 i wr) (fun i _ => n1 - (intOf i).toNat)
        case atStart => exact HST.out
        case round =>
          obtain ⟨k, v1, v2, hk, hk10, rfl, hT⟩ := hrel
          have HT := Lib.hid hT
          have cA : wr.cell? ⟨A, 24, none⟩ = some (.slice a1 n1 c1) := hT.a.cell 24
          clear HST hT
          by_cases h1 : k < n1
          · by_cases h2 : k < 10
            · have hkl : k < x.ms.length := by rw [← HN.out.1]; exact h1
              obtain ⟨b, off, cap, hsl, hbl, hcs⟩ := (HM.out (by omega)).form (by omega)
              simp only [Value.slice.injEq] at hsl
              obtain ⟨rfl, hd1, hd2⟩ := hsl
              clear hd1 hd2
              obtain ⟨mm, hmm⟩ : ∃ mm, mm = x.ms[k] := ⟨_, rfl⟩
              have Q0 := Lib.hid (show w.cell? ⟨b, off + k * 3, none⟩ = some (.int .u8 mm.n) by rw [hmm]; exact hcs k hkl 0 _ rfl)
              have Q1 := Lib.hid (show w.cell? ⟨b, off + k * 3 + 1, none⟩ = some (.int .u8 mm.l) by rw [hmm, Nat.add_assoc]; exact hcs k hkl 1 _ rfl)
              have Q2 := Lib.hid (show w.cell? ⟨b, off + k * 3 + 2, none⟩ = some (.bool mm.r) by rw [hmm, Nat.add_assoc]; exact hcs k hkl 2 _ rfl)
              have HTK := Lib.hid (show x.ms.take (k + 1) = x.ms.take k ++ [mm] by rw [hmm]; exact List.take_succ_eq_append_getElem hkl)
              have HLN := Lib.hid (show (x.ms.take k).length = k by rw [List.length_take]; omega)
              have HBL := Lib.hid hbl
              obtain ⟨mn, ml, mr⟩ := mm
              simp only at Q0 Q1 Q2
              obtain ⟨iA, hiA, hzA0, hzA1, hzA2⟩ := infoPM
              obtain ⟨iB, hiB, hzB0, hzB1, hzB2⟩ := infoPRM
              have HIA := Lib.hid (And.intro hiA (And.intro hzA0 (And.intro hzA1 hzA2)))
              have HIB := Lib.hid (And.intro hiB (And.intro hzB0 (And.intro hzB1 hzB2)))
              have HN1 : Hid (∀ j, wr.heap.size ≤ j → some j ≠ v1.ownBlock) := Lib.hid (fun j hj he => by have := (World.ownsRow.lt HT.out.o1 j he.symm).2; omega)
              have HN2 : Hid (∀ j, wr.heap.size ≤ j → some j ≠ v2.ownBlock) := Lib.hid (fun j hj he => by have := (World.ownsRow.lt HT.out.o2 j he.symm).2; omega)
              clear hiA hzA0 hzA1 hzA2 hiB hzB0 hzB1 hzB2 hcs hbl hmm cA
              have cA : wr.cell? ⟨A, 24, none⟩ = some (.slice (some ⟨b, off, none⟩) n1 c1) := HT.out.a.cell 24
              have cF : wr.cell? ⟨F, 24, none⟩ = some v1 := HT.out.f.cell 24
              have cM : wr.cell? ⟨M, 24, none⟩ = some v2 := HT.out.m.cell 24
              have fF := HT.out.f.frozen 24
              have fM := HT.out.m.frozen 24
              have lA := HT.out.a.lt
              have lF := HT.out.f.lt
              have lM := HT.out.m.lt
              have lb := Nat.lt_of_lt_of_le HBL.out HT.out.b.size
              have q0 := (HT.out.b.cell (p := ⟨b, off + k * 3, none⟩) HBL.out).trans Q0.out
              have q1 := (HT.out.b.cell (p := ⟨b, off + k * 3 + 1, none⟩) HBL.out).trans Q1.out
              have q2 := (HT.out.b.cell (p := ⟨b, off + k * 3 + 2, none⟩) HBL.out).trans Q2.out
              go_upto_region 6 with fail
              have nA : F ≠ A := by omega
              have nM : M ≠ A := by omega
              have nb : F ≠ b := by have := HBL.out; have := HA.out; omega
              have nc : M ≠ b := by have := HBL.out; have := HA.out; omega
              refine WalkS.begin (fun w' => w'.cell? ⟨A, 24, none⟩ = some (.slice (some ⟨b, off, none⟩) n1 c1) ∧ w'.cell? ⟨b, off + k * 3, none⟩ = some (.int .u8 mn) ∧ w'.cell? ⟨b, off + k * 3 + 1, none⟩ = some (.int .u8 ml) ∧ w'.cell? ⟨b, off + k * 3 + 2, none⟩ = some (.bool mr) ∧ w'.cell? ⟨F, 24, none⟩ = some v1 ∧ w'.cell? ⟨M, 24, none⟩ = some v2) [21, 23] (by kernel_rfl) ⟨cA, q0, q1, q2, cF, cM⟩ ?_
              simp only [List.size_toArray, List.length_cons, List.length_nil, Nat.zero_add, Nat.reduceAdd, show Array.replicate 24 false = #[false, false, false, false, false, false, false, false, false, false, false, false, false, false, false, false, false, false, false, false, false, false, false, false] from rfl]
              refine' WalkS.take0 0 _ (v := _) rfl (by kernel_rfl) (by kernel_rfl) (by kernel_rfl) (by kernel_rfl) (fun _ _ _ h => h) (Or.inl ⟨by rfl, ?hy1⟩) ?rest1
              case hy1 => (intro w9; go_simp <;> with_reducible rfl)
              simp only [Act.put, List.setIfInBounds_toArray, List.set_cons_zero, List.set_cons_succ]
              refine' WalkS.take0 1 _ (v := _) rfl (by kernel_rfl) (by kernel_rfl) (by kernel_rfl) (by kernel_rfl) (fun _ _ _ h => h) (Or.inl ⟨by rfl, ?hy2⟩) ?rest2
              case hy2 => (intro w9; go_simp <;> with_reducible rfl)
              simp only [Act.put, List.setIfInBounds_toArray, List.set_cons_zero, List.set_cons_succ]
              refine' WalkS.take 2 _ (v := _) rfl (by kernel_rfl) (by kernel_rfl) (by kernel_rfl) (by kernel_rfl) (by kernel_rfl) (fun _ _ _ h => h) (Or.inl ⟨by rfl, ?hy3⟩) ?rest3
              case hy3 => (intro w9 hSw; obtain ⟨sA, s0, s1, s2, sF, sM⟩ := hSw; go_simp <;> with_reducible rfl)
              simp only [Act.put, List.setIfInBounds_toArray, List.set_cons_zero, List.set_cons_succ]
              refine' WalkS.take0 3 _ (v := _) rfl (by kernel_rfl) (by kernel_rfl) (by kernel_rfl) (by kernel_rfl) (fun _ _ _ h => h) (Or.inl ⟨by rfl, ?hy4⟩) ?rest4
              case hy4 => (intro w9; go_simp <;> with_reducible rfl)
              simp only [Act.put, List.setIfInBounds_toArray, List.set_cons_zero, List.set_cons_succ]
              refine' WalkS.take 4 _ (v := _) rfl (by kernel_rfl) (by kernel_rfl) (by kernel_rfl) (by kernel_rfl) (by kernel_rfl) (fun _ _ _ h => h) (Or.inl ⟨by rfl, ?hy5⟩) ?rest5
              case hy5 => (intro w9 hSw; obtain ⟨sA, s0, s1, s2, sF, sM⟩ := hSw; go_simp <;> with_reducible rfl)
              simp only [Act.put, List.setIfInBounds_toArray, List.set_cons_zero, List.set_cons_succ]
              refine' WalkS.take0 5 _ (v := _) rfl (by kernel_rfl) (by kernel_rfl) (by kernel_rfl) (by kernel_rfl) (fun _ _ _ h => h) (Or.inl ⟨by rfl, ?hy6⟩) ?rest6
              case hy6 => (intro w9; go_simp <;> with_reducible rfl)
              simp only [Act.put, List.setIfInBounds_toArray, List.set_cons_zero, List.set_cons_succ]
              refine' WalkS.take0 6 _ (v := _) rfl (by kernel_rfl) (by kernel_rfl) (by kernel_rfl) (by kernel_rfl) (fun _ _ _ h => h) (Or.inl ⟨by rfl, ?hy7⟩) ?rest7
              case hy7 => (intro w9; go_simp <;> with_reducible rfl)
              simp only [Act.put, List.setIfInBounds_toArray, List.set_cons_zero, List.set_cons_succ]
              refine' WalkS.take 7 _ (v := _) rfl (by kernel_rfl) (by kernel_rfl) (by kernel_rfl) (by kernel_rfl) (by kernel_rfl) (fun _ _ _ h => h) (Or.inl ⟨by rfl, ?hy8⟩) ?rest8
              case hy8 => (intro w9 hSw; obtain ⟨sA, s0, s1, s2, sF, sM⟩ := hSw; go_simp <;> with_reducible rfl)
              simp only [Act.put, List.setIfInBounds_toArray, List.set_cons_zero, List.set_cons_succ]
              refine' WalkS.take0 10 _ (v := _) rfl (by kernel_rfl) (by kernel_rfl) (by kernel_rfl) (by kernel_rfl) (fun _ _ _ h => h) (Or.inl ⟨by rfl, ?hy9⟩) ?rest9
              case hy9 => (intro w9; go_simp <;> with_reducible rfl)
              simp only [Act.put, List.setIfInBounds_toArray, List.set_cons_zero, List.set_cons_succ]
              refine' WalkS.take 11 _ (v := _) rfl (by kernel_rfl) (by kernel_rfl) (by kernel_rfl) (by kernel_rfl) (by kernel_rfl) (fun _ _ _ h => h) (Or.inl ⟨by rfl, ?hy10⟩) ?rest10
              case hy10 => (intro w9 hSw; obtain ⟨sA, s0, s1, s2, sF, sM⟩ := hSw; go_simp <;> with_reducible rfl)
              simp only [Act.put, List.setIfInBounds_toArray, List.set_cons_zero, List.set_cons_succ]
              refine' WalkS.take0 12 _ (v := _) rfl (by kernel_rfl) (by kernel_rfl) (by kernel_rfl) (by kernel_rfl) (fun _ _ _ h => h) (Or.inl ⟨by rfl, ?hy11⟩) ?rest11
              case hy11 => (intro w9; go_simp <;> with_reducible rfl)
              simp only [Act.put, List.setIfInBounds_toArray, List.set_cons_zero, List.set_cons_succ]
              refine' WalkS.take 13 _ (v := _) rfl (by kernel_rfl) (by kernel_rfl) (by kernel_rfl) (by kernel_rfl) (by kernel_rfl) (fun _ _ _ h => h) (Or.inl ⟨by rfl, ?hy12⟩) ?rest12
              case hy12 => (intro w9 hSw; obtain ⟨sA, s0, s1, s2, sF, sM⟩ := hSw; go_simp <;> with_reducible rfl)
              simp only [Act.put, List.setIfInBounds_toArray, List.set_cons_zero, List.set_cons_succ]
              refine' WalkS.take0 14 _ (v := _) rfl (by kernel_rfl) (by kernel_rfl) (by kernel_rfl) (by kernel_rfl) (fun _ _ _ h => h) (Or.inl ⟨by rfl, ?hy13⟩) ?rest13
              case hy13 => (intro w9; go_simp <;> with_reducible rfl)
              simp only [Act.put, List.setIfInBounds_toArray, List.set_cons_zero, List.set_cons_succ]
              refine' WalkS.take0 15 _ (v := _) rfl (by kernel_rfl) (by kernel_rfl) (by kernel_rfl) (by kernel_rfl) (fun _ _ _ h => h) (Or.inl ⟨by rfl, ?hy14⟩) ?rest14
              case hy14 => (intro w9; go_simp <;> with_reducible rfl)
              simp only [Act.put, List.setIfInBounds_toArray, List.set_cons_zero, List.set_cons_succ]
              refine' WalkS.take 16 _ (v := _) rfl (by kernel_rfl) (by kernel_rfl) (by kernel_rfl) (by kernel_rfl) (by kernel_rfl) (fun _ _ _ h => h) (Or.inl ⟨by rfl, ?hy15⟩) ?rest15
              case hy15 => (intro w9 hSw; obtain ⟨sA, s0, s1, s2, sF, sM⟩ := hSw; go_simp <;> with_reducible rfl)
              simp only [Act.put, List.setIfInBounds_toArray, List.set_cons_zero, List.set_cons_succ]
              refine WalkS.each [8, 17] (by kernel_rfl) rfl ?_
              refine EachS.cons 8 _ rfl (fun K hK => ?s16) ?m16
              case s16 =>
                go_simp
                refine hK.out _ _ (fun _ => ?hS17) ?rest17
                case hS17 => (refine ⟨?_, ?_, ?_, ?_, ?_, ?_⟩ <;> first | assumption | (simp [World.cell?_alloc_some, cA, q0, q1, q2, cF, cM]; done))
                clear hK K
                simp only [List.setIfInBounds_toArray, List.set_cons_zero, List.set_cons_succ]
                refine WalkS.each [9, 17] (by kernel_rfl) rfl ?_
                refine EachS.cons 9 _ rfl (fun K hK => ?s18) ?m18
                case s18 =>
                  refine step_append_own1 rfl (.tmp 115) (.tmp 121) 42 rfl w.heap.size 75 iA _ 3 3 Tryd.underlying42 HIA.out.1 HIA.out.2.1 HIA.out.2.2.1 HIA.out.2.2.2 rfl (by decide) v1 _ _ rfl (HT.out.on (by go_grown)).o1 _ 1 1 [.int .u8 mn, .int .u8 ml, .bool mr] rfl rfl (newsRM (x := ⟨mn, ml, mr⟩) (by first | (simp [go_sem]; done) | exact HG2.out.cell (by simp [go_sem]) (HN2.out _ (by first | omega | (simp; done) | (simp; omega)))) (by first | (simp [go_sem]; done) | exact HG2.out.cell (by simp [go_sem]) (HN2.out _ (by first | omega | (simp; done) | (simp; omega)))) (by first | (simp [go_sem]; done) | exact HG2.out.cell (by simp [go_sem]) (HN2.out _ (by first | omega | (simp; done) | (simp; omega))))) (onesM _ _ _ rfl rfl rfl) (by rw [HLN.out]; unfold maxLen; omega) (by rw [HLN.out]; omega) (by have := HT.out.b.size; simp; omega) (by decide) ?_
                  intro g1 k1 w4 hg1 hown1 hgr1
                  have HG1 := Lib.hid hgr1
                  have HTn := Lib.hid ((HT.out.on (by go_grown)).app1 (l := x.ms.take (k + 1)) (by unfold RK.Own; rw [HTK.out, List.length_append, RK.row_snoc]; exact hown1) hgr1)
                  clear HT hown1 hgr1 hg1 cA cF cM fF fM lA lF lM lb q0 q1 q2
                  have HT := HTn
                  clear HTn
                  have cA : w4.cell? ⟨A, 24, none⟩ = some (.slice (some ⟨b, off, none⟩) n1 c1) := HT.out.a.cell 24
                  have cF : w4.cell? ⟨F, 24, none⟩ = some v1 := HT.out.f.cell 24
                  have cM : w4.cell? ⟨M, 24, none⟩ = some v2 := HT.out.m.cell 24
                  have fF := HT.out.f.frozen 24
                  have fM := HT.out.m.frozen 24
                  have lA := HT.out.a.lt
                  have lF := HT.out.f.lt
                  have lM := HT.out.m.lt
                  have lb := Nat.lt_of_lt_of_le HBL.out HT.out.b.size
                  have q0 := (HT.out.b.cell (p := ⟨b, off + k * 3, none⟩) HBL.out).trans Q0.out
                  have q1 := (HT.out.b.cell (p := ⟨b, off + k * 3 + 1, none⟩) HBL.out).trans Q1.out
                  have q2 := (HT.out.b.cell (p := ⟨b, off + k * 3 + 2, none⟩) HBL.out).trans Q2.out
                  refine hK.out _ _ (fun _ => ⟨cA, q0, q1, q2, cF, cM⟩) ?_
                  clear hK K
                  simp only [Act.put, List.setIfInBounds_toArray, List.set_cons_zero, List.set_cons_succ]
                  refine' WalkS.take0 19 _ (v := _) rfl (by kernel_rfl) (by kernel_rfl) (by kernel_rfl) (by kernel_rfl) (fun _ _ _ h => h) (Or.inl ⟨by rfl, ?hy19⟩) ?rest19
                  case hy19 => (intro w9; go_simp <;> with_reducible rfl)
                  simp only [Act.put, List.setIfInBounds_toArray, List.set_cons_zero, List.set_cons_succ]
                  refine' WalkS.take0 20 _ (v := _) rfl (by kernel_rfl) (by kernel_rfl) (by kernel_rfl) (by kernel_rfl) (fun _ _ _ h => h) (Or.inl ⟨by rfl, ?hy20⟩) ?rest20
                  case hy20 => (intro w9; go_simp <;> with_reducible rfl)
                  simp only [Act.put, List.setIfInBounds_toArray, List.set_cons_zero, List.set_cons_succ]
                  refine WalkS.each [17] (by kernel_rfl) rfl ?_
                  refine EachS.cons 17 _ rfl (fun K hK => ?s21) ?m21
                  case s21 =>
                    go_simp
                    refine hK.out _ _ (fun _ => ?hS22) ?rest22
                    case hS22 => (refine ⟨?_, ?_, ?_, ?_, ?_, ?_⟩ <;> first | assumption | (simp [World.cell?_alloc_some, cA, q0, q1, q2, cF, cM]; done))
                    clear hK K
                    simp only [List.setIfInBounds_toArray, List.set_cons_zero, List.set_cons_succ]
                    refine WalkS.each [18] (by kernel_rfl) rfl ?_
                    refine EachS.cons 18 _ rfl (fun K hK => ?s23) ?m23
                    case s23 =>
                      refine step_append_own1 rfl (.tmp 124) (.tmp 130) 49 rfl w.heap.size 77 iB _ 3 3 Tryd.underlying49 HIB.out.1 HIB.out.2.1 HIB.out.2.2.1 HIB.out.2.2.2 rfl (by decide) v2 _ _ rfl (HT.out.on (by go_grown)).o2 _ 1 1 [.int .u8 mn, .int .u8 ml, .bool mr] rfl rfl (newsRM (x := ⟨mn, ml, mr⟩) (by first | (simp [go_sem]; done) | exact HG1.out.cell (by simp [go_sem]) (HN1.out _ (by first | omega | (simp; done) | (simp; omega)))) (by first | (simp [go_sem]; done) | exact HG1.out.cell (by simp [go_sem]) (HN1.out _ (by first | omega | (simp; done) | (simp; omega)))) (by first | (simp [go_sem]; done) | exact HG1.out.cell (by simp [go_sem]) (HN1.out _ (by first | omega | (simp; done) | (simp; omega))))) (onesM _ _ _ rfl rfl rfl) (by rw [HLN.out]; unfold maxLen; omega) (by rw [HLN.out]; omega) (by have := HT.out.b.size; simp; omega) (by decide) ?_
                      intro g2 k2 w6 hg2 hown2 hgr2
                      have HG2 := Lib.hid hgr2
                      have HTn := Lib.hid ((HT.out.on (by go_grown)).app2 (l := x.ms.take (k + 1)) (by unfold RK.Own; rw [HTK.out, List.length_append, RK.row_snoc]; exact hown2) hgr2)
                      clear HT hown2 hgr2 hg2 cA cF cM fF fM lA lF lM lb q0 q1 q2
                      have HT := HTn
                      clear HTn
                      have cA : w6.cell? ⟨A, 24, none⟩ = some (.slice (some ⟨b, off, none⟩) n1 c1) := HT.out.a.cell 24
                      have cF : w6.cell? ⟨F, 24, none⟩ = some v1 := HT.out.f.cell 24
                      have cM : w6.cell? ⟨M, 24, none⟩ = some v2 := HT.out.m.cell 24
                      have fF := HT.out.f.frozen 24
                      have fM := HT.out.m.frozen 24
                      have lA := HT.out.a.lt
                      have lF := HT.out.f.lt
                      have lM := HT.out.m.lt
                      have lb := Nat.lt_of_lt_of_le HBL.out HT.out.b.size
                      have q0 := (HT.out.b.cell (p := ⟨b, off + k * 3, none⟩) HBL.out).trans Q0.out
                      have q1 := (HT.out.b.cell (p := ⟨b, off + k * 3 + 1, none⟩) HBL.out).trans Q1.out
                      have q2 := (HT.out.b.cell (p := ⟨b, off + k * 3 + 2, none⟩) HBL.out).trans Q2.out
                      refine hK.out _ _ (fun _ => ⟨cA, q0, q1, q2, cF, cM⟩) ?_
                      clear hK K
                      simp only [Act.put, List.setIfInBounds_toArray, List.set_cons_zero, List.set_cons_succ]
                      refine WalkS.each [21] (by kernel_rfl) rfl ?_
                      refine EachS.cons 21 _ rfl (fun K hK => ?s24) ?m24
                      case s24 =>
                        go_simp
                        refine hK.out _ _ (fun h => absurd h (by decide)) ?_
                        clear hK K
                        simp only [List.setIfInBounds_toArray, List.set_cons_zero, List.set_cons_succ]
                        refine' WalkS.take0 22 _ (v := _) rfl (by kernel_rfl) (by kernel_rfl) (by kernel_rfl) (by kernel_rfl) (fun _ _ _ h => h) (Or.inl ⟨by rfl, ?hy25⟩) ?rest25
                        case hy25 => (intro w9; go_simp <;> with_reducible rfl)
                        simp only [Act.put, List.setIfInBounds_toArray, List.set_cons_zero, List.set_cons_succ]
                        refine WalkS.each [23] (by kernel_rfl) rfl ?_
                        refine EachS.cons 23 _ rfl (fun K hK => ?s26) ?m26
                        case s26 =>
                          go_simp
                          refine hK.out _ _ (fun h => absurd h (by decide)) ?_
                          clear hK K
                          simp only [List.setIfInBounds_toArray, List.set_cons_zero, List.set_cons_succ]
                          refine WalkS.done (by kernel_rfl) ?_
                          go_wp2_with fail
                          with_reducible exact MemTold.next h1 h2 HA.out hAF hFM HT.out
                        exact EachS.nil
                      exact EachS.nil
                    exact EachS.nil
                  exact EachS.nil
                refine EachS.cons 17 _ rfl (fun K hK => ?s27) ?m27
                case s27 =>
                  go_simp
                  refine hK.out _ _ (fun _ => ?hS28) ?rest28
                  case hS28 => (refine ⟨?_, ?_, ?_, ?_, ?_, ?_⟩ <;> first | assumption | (simp [World.cell?_alloc_some, cA, q0, q1, q2, cF, cM]; done))
                  clear hK K
                  simp only [List.setIfInBounds_toArray, List.set_cons_zero, List.set_cons_succ]
                  refine WalkS.each [9] (by kernel_rfl) rfl ?_
                  refine EachS.cons 9 _ rfl (fun K hK => ?s29) ?m29
                  case s29 =>
                    refine step_append_own1 rfl (.tmp 115) (.tmp 121) 42 rfl w.heap.size 75 iA _ 3 3 Tryd.underlying42 HIA.out.1 HIA.out.2.1 HIA.out.2.2.1 HIA.out.2.2.2 rfl (by decide) v1 _ _ rfl (HT.out.on (by go_grown)).o1 _ 1 1 [.int .u8 mn, .int .u8 ml, .bool mr] rfl rfl (newsRM (x := ⟨mn, ml, mr⟩) (by first | (simp [go_sem]; done) | exact HG2.out.cell (by simp [go_sem]) (HN2.out _ (by first | omega | (simp; done) | (simp; omega)))) (by first | (simp [go_sem]; done) | exact HG2.out.cell (by simp [go_sem]) (HN2.out _ (by first | omega | (simp; done) | (simp; omega)))) (by first | (simp [go_sem]; done) | exact HG2.out.cell (by simp [go_sem]) (HN2.out _ (by first | omega | (simp; done) | (simp; omega))))) (onesM _ _ _ rfl rfl rfl) (by rw [HLN.out]; unfold maxLen; omega) (by rw [HLN.out]; omega) (by have := HT.out.b.size; simp; omega) (by decide) ?_
                    intro g1 k1 w5 hg1 hown1 hgr1
                    have HG1 := Lib.hid hgr1
                    have HTn := Lib.hid ((HT.out.on (by go_grown)).app1 (l := x.ms.take (k + 1)) (by unfold RK.Own; rw [HTK.out, List.length_append, RK.row_snoc]; exact hown1) hgr1)
                    clear HT hown1 hgr1 hg1 cA cF cM fF fM lA lF lM lb q0 q1 q2
                    have HT := HTn
                    clear HTn
                    have cA : w5.cell? ⟨A, 24, none⟩ = some (.slice (some ⟨b, off, none⟩) n1 c1) := HT.out.a.cell 24
                    have cF : w5.cell? ⟨F, 24, none⟩ = some v1 := HT.out.f.cell 24
                    have cM : w5.cell? ⟨M, 24, none⟩ = some v2 := HT.out.m.cell 24
                    have fF := HT.out.f.frozen 24
                    have fM := HT.out.m.frozen 24
                    have lA := HT.out.a.lt
                    have lF := HT.out.f.lt
                    have lM := HT.out.m.lt
                    have lb := Nat.lt_of_lt_of_le HBL.out HT.out.b.size
                    have q0 := (HT.out.b.cell (p := ⟨b, off + k * 3, none⟩) HBL.out).trans Q0.out
                    have q1 := (HT.out.b.cell (p := ⟨b, off + k * 3 + 1, none⟩) HBL.out).trans Q1.out
                    have q2 := (HT.out.b.cell (p := ⟨b, off + k * 3 + 2, none⟩) HBL.out).trans Q2.out
                    refine hK.out _ _ (fun _ => ⟨cA, q0, q1, q2, cF, cM⟩) ?_
                    clear hK K
                    simp only [Act.put, List.setIfInBounds_toArray, List.set_cons_zero, List.set_cons_succ]
                    refine' WalkS.take0 19 _ (v := _) rfl (by kernel_rfl) (by kernel_rfl) (by kernel_rfl) (by kernel_rfl) (fun _ _ _ h => h) (Or.inl ⟨by rfl, ?hy30⟩) ?rest30
                    case hy30 => (intro w9; go_simp <;> with_reducible rfl)
                    simp only [Act.put, List.setIfInBounds_toArray, List.set_cons_zero, List.set_cons_succ]
                    refine' WalkS.take0 20 _ (v := _) rfl (by kernel_rfl) (by kernel_rfl) (by kernel_rfl) (by kernel_rfl) (fun _ _ _ h => h) (Or.inl ⟨by rfl, ?hy31⟩) ?rest31
                    case hy31 => (intro w9; go_simp <;> with_reducible rfl)
                    simp only [Act.put, List.setIfInBounds_toArray, List.set_cons_zero, List.set_cons_succ]
                    refine WalkS.each [18] (by kernel_rfl) rfl ?_
                    refine EachS.cons 18 _ rfl (fun K hK => ?s32) ?m32
                    case s32 =>
                      refine step_append_own1 rfl (.tmp 124) (.tmp 130) 49 rfl w.heap.size 77 iB _ 3 3 Tryd.underlying49 HIB.out.1 HIB.out.2.1 HIB.out.2.2.1 HIB.out.2.2.2 rfl (by decide) v2 _ _ rfl (HT.out.on (by go_grown)).o2 _ 1 1 [.int .u8 mn, .int .u8 ml, .bool mr] rfl rfl (newsRM (x := ⟨mn, ml, mr⟩) (by first | (simp [go_sem]; done) | exact HG1.out.cell (by simp [go_sem]) (HN1.out _ (by first | omega | (simp; done) | (simp; omega)))) (by first | (simp [go_sem]; done) | exact HG1.out.cell (by simp [go_sem]) (HN1.out _ (by first | omega | (simp; done) | (simp; omega)))) (by first | (simp [go_sem]; done) | exact HG1.out.cell (by simp [go_sem]) (HN1.out _ (by first | omega | (simp; done) | (simp; omega))))) (onesM _ _ _ rfl rfl rfl) (by rw [HLN.out]; unfold maxLen; omega) (by rw [HLN.out]; omega) (by have := HT.out.b.size; simp; omega) (by decide) ?_
                      intro g2 k2 w6 hg2 hown2 hgr2
                      have HG2 := Lib.hid hgr2
                      have HTn := Lib.hid ((HT.out.on (by go_grown)).app2 (l := x.ms.take (k + 1)) (by unfold RK.Own; rw [HTK.out, List.length_append, RK.row_snoc]; exact hown2) hgr2)
                      clear HT hown2 hgr2 hg2 cA cF cM fF fM lA lF lM lb q0 q1 q2
                      have HT := HTn
                      clear HTn
                      have cA : w6.cell? ⟨A, 24, none⟩ = some (.slice (some ⟨b, off, none⟩) n1 c1) := HT.out.a.cell 24
                      have cF : w6.cell? ⟨F, 24, none⟩ = some v1 := HT.out.f.cell 24
                      have cM : w6.cell? ⟨M, 24, none⟩ = some v2 := HT.out.m.cell 24
                      have fF := HT.out.f.frozen 24
                      have fM := HT.out.m.frozen 24
                      have lA := HT.out.a.lt
                      have lF := HT.out.f.lt
                      have lM := HT.out.m.lt
                      have lb := Nat.lt_of_lt_of_le HBL.out HT.out.b.size
                      have q0 := (HT.out.b.cell (p := ⟨b, off + k * 3, none⟩) HBL.out).trans Q0.out
                      have q1 := (HT.out.b.cell (p := ⟨b, off + k * 3 + 1, none⟩) HBL.out).trans Q1.out
                      have q2 := (HT.out.b.cell (p := ⟨b, off + k * 3 + 2, none⟩) HBL.out).trans Q2.out
                      refine hK.out _ _ (fun _ => ⟨cA, q0, q1, q2, cF, cM⟩) ?_
                      clear hK K
                      simp only [Act.put, List.setIfInBounds_toArray, List.set_cons_zero, List.set_cons_succ]
                      refine WalkS.each [21] (by kernel_rfl) rfl ?_
                      refine EachS.cons 21 _ rfl (fun K hK => ?s33) ?m33
                      case s33 =>
                        go_simp
                        refine hK.out _ _ (fun h => absurd h (by decide)) ?_
                        clear hK K
                        simp only [List.setIfInBounds_toArray, List.set_cons_zero, List.set_cons_succ]
                        refine' WalkS.take0 22 _ (v := _) rfl (by kernel_rfl) (by kernel_rfl) (by kernel_rfl) (by kernel_rfl) (fun _ _ _ h => h) (Or.inl ⟨by rfl, ?hy34⟩) ?rest34
                        case hy34 => (intro w9; go_simp <;> with_reducible rfl)
                        simp only [Act.put, List.setIfInBounds_toArray, List.set_cons_zero, List.set_cons_succ]
                        refine WalkS.each [23] (by kernel_rfl) rfl ?_
                        refine EachS.cons 23 _ rfl (fun K hK => ?s35) ?m35
                        case s35 =>
                          go_simp
                          refine hK.out _ _ (fun h => absurd h (by decide)) ?_
                          clear hK K
                          simp only [List.setIfInBounds_toArray, List.set_cons_zero, List.set_cons_succ]
                          refine WalkS.done (by kernel_rfl) ?_
                          go_wp2_with fail
                          with_reducible exact MemTold.next h1 h2 HA.out hAF hFM HT.out
                        exact EachS.nil
                      exact EachS.nil
                    exact EachS.nil
                  exact EachS.nil
                exact EachS.nil
              refine EachS.cons 17 _ rfl (fun K hK => ?s36) ?m36
              case s36 =>
                go_simp
                refine hK.out _ _ (fun _ => ?hS37) ?rest37
                case hS37 => (refine ⟨?_, ?_, ?_, ?_, ?_, ?_⟩ <;> first | assumption | (simp [World.cell?_alloc_some, cA, q0, q1, q2, cF, cM]; done))
                clear hK K
                simp only [List.setIfInBounds_toArray, List.set_cons_zero, List.set_cons_succ]
                refine WalkS.each [8] (by kernel_rfl) rfl ?_
                refine EachS.cons 8 _ rfl (fun K hK => ?s38) ?m38
                case s38 =>
                  go_simp
                  refine hK.out _ _ (fun _ => ?hS39) ?rest39
                  case hS39 => (refine ⟨?_, ?_, ?_, ?_, ?_, ?_⟩ <;> first | assumption | (simp [World.cell?_alloc_some, cA, q0, q1, q2, cF, cM]; done))
                  clear hK K
                  simp only [List.setIfInBounds_toArray, List.set_cons_zero, List.set_cons_succ]
                  refine WalkS.each [9] (by kernel_rfl) rfl ?_
                  refine EachS.cons 9 _ rfl (fun K hK => ?s40) ?m40
                  case s40 =>
                    refine step_append_own1 rfl (.tmp 115) (.tmp 121) 42 rfl w.heap.size 75 iA _ 3 3 Tryd.underlying42 HIA.out.1 HIA.out.2.1 HIA.out.2.2.1 HIA.out.2.2.2 rfl (by decide) v1 _ _ rfl (HT.out.on (by go_grown)).o1 _ 1 1 [.int .u8 mn, .int .u8 ml, .bool mr] rfl rfl (newsRM (x := ⟨mn, ml, mr⟩) (by first | (simp [go_sem]; done) | exact HG2.out.cell (by simp [go_sem]) (HN2.out _ (by first | omega | (simp; done) | (simp; omega)))) (by first | (simp [go_sem]; done) | exact HG2.out.cell (by simp [go_sem]) (HN2.out _ (by first | omega | (simp; done) | (simp; omega)))) (by first | (simp [go_sem]; done) | exact HG2.out.cell (by simp [go_sem]) (HN2.out _ (by first | omega | (simp; done) | (simp; omega))))) (onesM _ _ _ rfl rfl rfl) (by rw [HLN.out]; unfold maxLen; omega) (by rw [HLN.out]; omega) (by have := HT.out.b.size; simp; omega) (by decide) ?_
                    intro g1 k1 w5 hg1 hown1 hgr1
                    have HG1 := Lib.hid hgr1
                    have HTn := Lib.hid ((HT.out.on (by go_grown)).app1 (l := x.ms.take (k + 1)) (by unfold RK.Own; rw [HTK.out, List.length_append, RK.row_snoc]; exact hown1) hgr1)
                    clear HT hown1 hgr1 hg1 cA cF cM fF fM lA lF lM lb q0 q1 q2
                    have HT := HTn
                    clear HTn
                    have cA : w5.cell? ⟨A, 24, none⟩ = some (.slice (some ⟨b, off, none⟩) n1 c1) := HT.out.a.cell 24
                    have cF : w5.cell? ⟨F, 24, none⟩ = some v1 := HT.out.f.cell 24
                    have cM : w5.cell? ⟨M, 24, none⟩ = some v2 := HT.out.m.cell 24
                    have fF := HT.out.f.frozen 24
                    have fM := HT.out.m.frozen 24
                    have lA := HT.out.a.lt
                    have lF := HT.out.f.lt
                    have lM := HT.out.m.lt
                    have lb := Nat.lt_of_lt_of_le HBL.out HT.out.b.size
                    have q0 := (HT.out.b.cell (p := ⟨b, off + k * 3, none⟩) HBL.out).trans Q0.out
                    have q1 := (HT.out.b.cell (p := ⟨b, off + k * 3 + 1, none⟩) HBL.out).trans Q1.out
                    have q2 := (HT.out.b.cell (p := ⟨b, off + k * 3 + 2, none⟩) HBL.out).trans Q2.out
                    refine hK.out _ _ (fun _ => ⟨cA, q0, q1, q2, cF, cM⟩) ?_
                    clear hK K
                    simp only [Act.put, List.setIfInBounds_toArray, List.set_cons_zero, List.set_cons_succ]
                    refine' WalkS.take0 19 _ (v := _) rfl (by kernel_rfl) (by kernel_rfl) (by kernel_rfl) (by kernel_rfl) (fun _ _ _ h => h) (Or.inl ⟨by rfl, ?hy41⟩) ?rest41
                    case hy41 => (intro w9; go_simp <;> with_reducible rfl)
                    simp only [Act.put, List.setIfInBounds_toArray, List.set_cons_zero, List.set_cons_succ]
                    refine' WalkS.take0 20 _ (v := _) rfl (by kernel_rfl) (by kernel_rfl) (by kernel_rfl) (by kernel_rfl) (fun _ _ _ h => h) (Or.inl ⟨by rfl, ?hy42⟩) ?rest42
                    case hy42 => (intro w9; go_simp <;> with_reducible rfl)
                    simp only [Act.put, List.setIfInBounds_toArray, List.set_cons_zero, List.set_cons_succ]
                    refine WalkS.each [18] (by kernel_rfl) rfl ?_
                    refine EachS.cons 18 _ rfl (fun K hK => ?s43) ?m43
                    case s43 =>
                      refine step_append_own1 rfl (.tmp 124) (.tmp 130) 49 rfl w.heap.size 77 iB _ 3 3 Tryd.underlying49 HIB.out.1 HIB.out.2.1 HIB.out.2.2.1 HIB.out.2.2.2 rfl (by decide) v2 _ _ rfl (HT.out.on (by go_grown)).o2 _ 1 1 [.int .u8 mn, .int .u8 ml, .bool mr] rfl rfl (newsRM (x := ⟨mn, ml, mr⟩) (by first | (simp [go_sem]; done) | exact HG1.out.cell (by simp [go_sem]) (HN1.out _ (by first | omega | (simp; done) | (simp; omega)))) (by first | (simp [go_sem]; done) | exact HG1.out.cell (by simp [go_sem]) (HN1.out _ (by first | omega | (simp; done) | (simp; omega)))) (by first | (simp [go_sem]; done) | exact HG1.out.cell (by simp [go_sem]) (HN1.out _ (by first | omega | (simp; done) | (simp; omega))))) (onesM _ _ _ rfl rfl rfl) (by rw [HLN.out]; unfold maxLen; omega) (by rw [HLN.out]; omega) (by have := HT.out.b.size; simp; omega) (by decide) ?_
                      intro g2 k2 w6 hg2 hown2 hgr2
                      have HG2 := Lib.hid hgr2
                      have HTn := Lib.hid ((HT.out.on (by go_grown)).app2 (l := x.ms.take (k + 1)) (by unfold RK.Own; rw [HTK.out, List.length_append, RK.row_snoc]; exact hown2) hgr2)
                      clear HT hown2 hgr2 hg2 cA cF cM fF fM lA lF lM lb q0 q1 q2
                      have HT := HTn
                      clear HTn
                      have cA : w6.cell? ⟨A, 24, none⟩ = some (.slice (some ⟨b, off, none⟩) n1 c1) := HT.out.a.cell 24
                      have cF : w6.cell? ⟨F, 24, none⟩ = some v1 := HT.out.f.cell 24
                      have cM : w6.cell? ⟨M, 24, none⟩ = some v2 := HT.out.m.cell 24
                      have fF := HT.out.f.frozen 24
                      have fM := HT.out.m.frozen 24
                      have lA := HT.out.a.lt
                      have lF := HT.out.f.lt
                      have lM := HT.out.m.lt
                      have lb := Nat.lt_of_lt_of_le HBL.out HT.out.b.size
                      have q0 := (HT.out.b.cell (p := ⟨b, off + k * 3, none⟩) HBL.out).trans Q0.out
                      have q1 := (HT.out.b.cell (p := ⟨b, off + k * 3 + 1, none⟩) HBL.out).trans Q1.out
                      have q2 := (HT.out.b.cell (p := ⟨b, off + k * 3 + 2, none⟩) HBL.out).trans Q2.out
                      refine hK.out _ _ (fun _ => ⟨cA, q0, q1, q2, cF, cM⟩) ?_
                      clear hK K
                      simp only [Act.put, List.setIfInBounds_toArray, List.set_cons_zero, List.set_cons_succ]
                      refine WalkS.each [21] (by kernel_rfl) rfl ?_
                      refine EachS.cons 21 _ rfl (fun K hK => ?s44) ?m44
                      case s44 =>
                        go_simp
                        refine hK.out _ _ (fun h => absurd h (by decide)) ?_
                        clear hK K
                        simp only [List.setIfInBounds_toArray, List.set_cons_zero, List.set_cons_succ]
                        refine' WalkS.take0 22 _ (v := _) rfl (by kernel_rfl) (by kernel_rfl) (by kernel_rfl) (by kernel_rfl) (fun _ _ _ h => h) (Or.inl ⟨by rfl, ?hy45⟩) ?rest45
                        case hy45 => (intro w9; go_simp <;> with_reducible rfl)
                        simp only [Act.put, List.setIfInBounds_toArray, List.set_cons_zero, List.set_cons_succ]
                        refine WalkS.each [23] (by kernel_rfl) rfl ?_
                        refine EachS.cons 23 _ rfl (fun K hK => ?s46) ?m46
                        case s46 =>
                          go_simp
                          refine hK.out _ _ (fun h => absurd h (by decide)) ?_
                          clear hK K
                          simp only [List.setIfInBounds_toArray, List.set_cons_zero, List.set_cons_succ]
                          refine WalkS.done (by kernel_rfl) ?_
                          go_wp2_with fail
                          with_reducible exact MemTold.next h1 h2 HA.out hAF hFM HT.out
                        exact EachS.nil
                      exact EachS.nil
                    exact EachS.nil
                  exact EachS.nil
                exact EachS.nil
              exact EachS.nil
            · have hk' : ¬ ((k : Int) < 10) := by omega
              go_wp2_with fail
              refine Met.intro (HJ.out _ _ ?_)
              repeat apply Exists.intro
              refine ⟨?_, rfl⟩
              obtain rfl : k = 10 := by omega
              exact ⟨v1, v2, HT.out⟩
          · have hk' : ¬ ((k : Int) < (n1 : Int)) := by omega
            have HE1 := Lib.hid (show x.ms.take k = x.ms.take 10 by rw [List.take_of_length_le (by have := HN.out.1; omega), List.take_of_length_le (by have := HN.out.1; omega)])
            go_wp2_with fail
            refine Met.intro (HJ.out _ _ ?_)
            repeat apply Exists.intro
            refine ⟨?_, rfl⟩
            exact ⟨v1, v2, by have := HT.out; rw [HE1.out] at this; exact this⟩
      case rest =>
        obtain ⟨f1, f2, hT⟩ := hcut
        have HT1 := Lib.hid hT.ents
        have HST2 : Hid (EntTold x (.slice a1 n1 c1) (.slice a2 n2 c2) A F M w f1 f2 (x.ms.take 10) n2 (.int .i64 0) wc) := Lib.hid ⟨0, _, _, Nat.zero_le _, Nat.zero_le _, rfl, by simpa using hT.ents⟩
        clear hT HT HST HX2 HP2 HR2 HF2 HB2
        go_upto_block 2 with fail
        go_cut [] from 183 (fun wx => ∃ u1 u2, T3 x (.slice a1 n1 c1) (.slice a2 n2 c2) A F M w f1 f2 (x.ms.take 10) u1 u1 u2 u2 (x.es.take 18) (x.es.take 18) wx)
        case first =>
          rename_i JJ KK hJJ hKK
          have HJ := Lib.hid hJJ
          clear hJJ
          go_wp2_with fail
          go_loopw [7] (fun i wr => EntTold x (.slice a1 n1 c1) (.slice a2 n2 c2) A F M w f1 f2 (x.ms.take 10) n2 i wr) (fun i _ => n2 - (intOf i).toNat)
          case atStart => exact HST2.out
          case round =>
            obtain ⟨k, u1, u2, hk, hk18, rfl, hT⟩ := hrel
            have HT := Lib.hid hT
            have cA : wr.cell? ⟨A, 33, none⟩ = some (.slice a2 n2 c2) := hT.a.cell 33
            clear HST2 hT HT1
            by_cases h1 : k < n2
            · by_cases h2 : k < 18
              · have hkl : k < x.es.length := by rw [← HN.out.2]; exact h1
                obtain ⟨b, off, cap, hsl, hbl, hcs⟩ := (HE.out (by omega)).form (by omega)
                simp only [Value.slice.injEq] at hsl
                obtain ⟨rfl, hd1, hd2⟩ := hsl
                clear hd1 hd2
                obtain ⟨yy, hyy⟩ : ∃ yy, yy = x.es[k] := ⟨_, rfl⟩
                have HTK := Lib.hid (show x.es.take (k + 1) = x.es.take k ++ [yy] by rw [hyy]; exact List.take_succ_eq_append_getElem hkl)
                have HLN := Lib.hid (show (x.es.take k).length = k by rw [List.length_take]; omega)
                have HMN := Lib.hid (show min k x.es.length = k by omega)
                have HBL := Lib.hid hbl
                have Q0 := Lib.hid (show w.cell? ⟨b, off + k * 8, none⟩ = some (.int .u32 yy.s) by rw [hyy]; exact hcs k hkl 0 _ rfl)
                have Q1 := Lib.hid (show w.cell? ⟨b, off + k * 8 + 1, none⟩ = some (.int .u32 yy.n) by rw [hyy, Nat.add_assoc]; exact hcs k hkl 1 _ rfl)
                have Q2 := Lib.hid (show w.cell? ⟨b, off + k * 8 + 2, none⟩ = some (.int .u8 yy.b) by rw [hyy, Nat.add_assoc]; exact hcs k hkl 2 _ rfl)
                have Q3 := Lib.hid (show w.cell? ⟨b, off + k * 8 + 3, none⟩ = some (.int .u8 yy.c.k) by rw [hyy, Nat.add_assoc]; exact hcs k hkl 3 _ rfl)
                have Q4 := Lib.hid (show w.cell? ⟨b, off + k * 8 + 4, none⟩ = some (.int .u8 yy.c.n) by rw [hyy, Nat.add_assoc]; exact hcs k hkl 4 _ rfl)
                have Q5 := Lib.hid (show w.cell? ⟨b, off + k * 8 + 5, none⟩ = some (.int .u8 yy.c.l) by rw [hyy, Nat.add_assoc]; exact hcs k hkl 5 _ rfl)
                have Q6 := Lib.hid (show w.cell? ⟨b, off + k * 8 + 6, none⟩ = some (.int .u32 yy.c.e) by rw [hyy, Nat.add_assoc]; exact hcs k hkl 6 _ rfl)
                have Q7 := Lib.hid (show w.cell? ⟨b, off + k * 8 + 7, none⟩ = some (.int .u32 yy.c.r) by rw [hyy, Nat.add_assoc]; exact hcs k hkl 7 _ rfl)
                clear hcs hbl hyy
                have q0 := (HT.out.b.cell (p := ⟨b, off + k * 8, none⟩) HBL.out).trans Q0.out
                have q1 := (HT.out.b.cell (p := ⟨b, off + k * 8 + 1, none⟩) HBL.out).trans Q1.out
                have q2 := (HT.out.b.cell (p := ⟨b, off + k * 8 + 2, none⟩) HBL.out).trans Q2.out
                have q3 := (HT.out.b.cell (p := ⟨b, off + k * 8 + 3, none⟩) HBL.out).trans Q3.out
                have q4 := (HT.out.b.cell (p := ⟨b, off + k * 8 + 4, none⟩) HBL.out).trans Q4.out
                have q5 := (HT.out.b.cell (p := ⟨b, off + k * 8 + 5, none⟩) HBL.out).trans Q5.out
                have q6 := (HT.out.b.cell (p := ⟨b, off + k * 8 + 6, none⟩) HBL.out).trans Q6.out
                have q7 := (HT.out.b.cell (p := ⟨b, off + k * 8 + 7, none⟩) HBL.out).trans Q7.out
                have lb := Nat.lt_of_lt_of_le HBL.out HT.out.b.size
                go_upto_region 10 with fail
                go_cut [8] from 135 to 180 (fun u wx => u = .pointer (some ⟨wr.heap.size, 0, none⟩) ∧ Blk wx wr.heap.size (entA yy) 79 ∧ Below wr.heap.size wr wx)
                case first =>
                  rename_i JJ2 KK2 hJJ2 hKK2
                  have HJ2 := Lib.hid hJJ2
                  clear hJJ2
                  have NB := Lib.hid (Blk.new (w := wr) (B := wr.heap.size) (T := 79) (cs := entA ⟨0, 0, 0, ⟨0, 0, 0, 0, 0⟩⟩) rfl)
                  go_wp2_with (first | (refine wpList_store_row rfl 79 (.tmp 8) (.tmp 150) rfl wr.heap.size (entA yy) rfl rfl 79 (entA ⟨0, 0, 0, ⟨0, 0, 0, 0, 0⟩⟩) (blk_raw NB.out) (by kernel_rfl) rfl rfl ?_))
                  refine Met.intro (HJ2.out _ _ ?_)
                  repeat apply Exists.intro
                  refine ⟨?_, rfl⟩
                  exact ⟨rfl, Blk.new rfl, by go_grown⟩
                case rest =>
                  obtain ⟨rfl, hy, hb⟩ := hcut
                  have TY := Lib.hid (HT.out.on hb)
                  have YB := Lib.hid hy
                  obtain ⟨Y, hY⟩ : ∃ Y, Y = wr.heap.size := ⟨_, rfl⟩
                  have HYF : F ≠ Y ∧ M ≠ Y := ⟨by have := HT.out.f.lt; omega, by have := HT.out.m.lt; omega⟩
                  rw [← hY] at YB ⊢
                  have HYW := Lib.hid (show w.heap.size ≤ Y by rw [hY]; exact HT.out.b.size)
                  clear hy hb HT hY q0 q1 q2 q3 q4 q5 q6 q7 lb cA Q0 Q1 Q2 Q3 Q4 Q5 Q6 Q7
                  go_upto_region 11 with fail
                  go_cut [] from 135 to 180 (fun wx => ∃ g c, Blk wx Y (entA yy) 79 ∧ T3 x (.slice a1 n1 c1) (.slice (some ⟨b, off, none⟩) n2 c2) A F M w f1 f2 (x.ms.take 10) (.slice (some ⟨g, 0, none⟩) (k + 1) c) (.slice (some ⟨g, 0, none⟩) (k + 1) c) u2 u2 (x.es.take (k + 1)) (x.es.take k) wx)
                  case first =>
                    rename_i JJ3 KK3 hJJ3 hKK3
                    have HJ3 := Lib.hid hJJ3
                    clear hJJ3
                    have y0 : wc.cell? ⟨Y, 0, none⟩ = some (.int .u32 yy.s) := YB.out.cell 0
                    have y1 : wc.cell? ⟨Y, 1, none⟩ = some (.int .u32 yy.n) := YB.out.cell 1
                    have y2 : wc.cell? ⟨Y, 2, none⟩ = some (.int .u8 yy.b) := YB.out.cell 2
                    have y3 : wc.cell? ⟨Y, 3, none⟩ = some (.int .u8 yy.c.k) := YB.out.cell 3
                    have y4 : wc.cell? ⟨Y, 4, none⟩ = some (.int .u8 yy.c.n) := YB.out.cell 4
                    have y5 : wc.cell? ⟨Y, 5, none⟩ = some (.int .u8 yy.c.l) := YB.out.cell 5
                    have y6 : wc.cell? ⟨Y, 6, none⟩ = some (.int .u32 yy.c.e) := YB.out.cell 6
                    have y7 : wc.cell? ⟨Y, 7, none⟩ = some (.int .u32 yy.c.r) := YB.out.cell 7
                    have cX : wc.cell? ⟨F, 33, none⟩ = some u1 := TY.out.f.cell 33
                    have lY := YB.out.lt
                    have lX := TY.out.f.lt
                    obtain ⟨i0, hi0, hz0, hz1, hz2⟩ := infoPE
                    have HI := Lib.hid (And.intro hi0 (And.intro hz0 (And.intro hz1 hz2)))
                    clear hi0 hz0 hz1 hz2
                    have TA := Lib.hid (TY.out.on (wy := wc.alloc (.cells (entA yy) 81)) (by go_grown))
                    have NB := Lib.hid (Blk.new (w := wc) (B := wc.heap.size) (T := 81) (cs := entA yy) rfl)
                    have YA := Lib.hid (YB.out.on (show Below wc.heap.size wc (wc.alloc (.cells (entA yy) 81)) by go_grown))
                    go_wp2_with (at_builtin; refine wpList_append_own1 _ rfl _ _ 45 rfl w.heap.size 81 i0 _ 8 24 Tryd.underlying45 HI.out.1 HI.out.2.1 HI.out.2.2.1 HI.out.2.2.2 rfl (by decide) _ _ _ rfl TA.out.q1 ⟨wc.heap.size, 0, none⟩ 1 1 (entR.f yy) rfl rfl ?qn (entR.one yy) (by rw [HLN.out]; unfold maxLen; omega) (by rw [HLN.out]; omega) (by have := TY.out.b.size; simp; omega) (by decide) ?_)
                    case qn => exact news8 NB.out.cell
                    intro g9 cap9 w8 hg hown hgrow
                    simp only [HMN.out] at hown ⊢
                    have T8 := Lib.hid (TA.out.app1 (l := x.es.take (k + 1)) (by unfold RK.Own; rw [HTK.out, List.length_append, RK.row_snoc, HLN.out]; exact hown) hgrow)
                    have Y8 := Lib.hid (YA.out.grown hgrow (Ne.symm (own_ne TA.out.q1 YA.out (by decide))))
                    clear hown hgrow hg TA NB YA y0 y1 y2 y3 y4 y5 y6 y7 cX lY lX
                    have cX : w8.cell? ⟨F, 33, none⟩ = some u1 := T8.out.f.cell 33
                    have fX := T8.out.f.frozen 33
                    go_wp2_with fail
                    refine Met.intro (HJ3.out _ _ ?_)
                    repeat apply Exists.intro
                    refine ⟨?_, rfl⟩
                    exact ⟨g9, cap9, Y8.out.set_other 33 _ HYF.1.symm, T8.out.setF (by omega) (by have := HA.out; omega) _⟩
                  case rest =>
                    obtain ⟨g, cg, hy, hT⟩ := hcut
                    have TZ := Lib.hid hT
                    have YC := Lib.hid hy
                    clear hy hT TY YB
                    go_upto_region 12 with fail
                    have y0 : wc.cell? ⟨Y, 0, none⟩ = some (.int .u32 yy.s) := YC.out.cell 0
                    have y1 : wc.cell? ⟨Y, 1, none⟩ = some (.int .u32 yy.n) := YC.out.cell 1
                    have y2 : wc.cell? ⟨Y, 2, none⟩ = some (.int .u8 yy.b) := YC.out.cell 2
                    have y3 : wc.cell? ⟨Y, 3, none⟩ = some (.int .u8 yy.c.k) := YC.out.cell 3
                    have y4 : wc.cell? ⟨Y, 4, none⟩ = some (.int .u8 yy.c.n) := YC.out.cell 4
                    have y5 : wc.cell? ⟨Y, 5, none⟩ = some (.int .u8 yy.c.l) := YC.out.cell 5
                    have y6 : wc.cell? ⟨Y, 6, none⟩ = some (.int .u32 yy.c.e) := YC.out.cell 6
                    have y7 : wc.cell? ⟨Y, 7, none⟩ = some (.int .u32 yy.c.r) := YC.out.cell 7
                    have cX : wc.cell? ⟨M, 33, none⟩ = some u2 := TZ.out.m.cell 33
                    have lY := YC.out.lt
                    have lX := TZ.out.m.lt
                    obtain ⟨i0, hi0, hz0, hz1, hz2⟩ := infoPRE
                    have HI := Lib.hid (And.intro hi0 (And.intro hz0 (And.intro hz1 hz2)))
                    clear hi0 hz0 hz1 hz2
                    have TA := Lib.hid (TZ.out.on (wy := wc.alloc (.cells (entA yy) 83)) (by go_grown))
                    have NB := Lib.hid (Blk.new (w := wc) (B := wc.heap.size) (T := 83) (cs := entA yy) rfl)
                    have YA := Lib.hid (YC.out.on (show Below wc.heap.size wc (wc.alloc (.cells (entA yy) 83)) by go_grown))
                    go_wp2_with (at_builtin; refine wpList_append_own1 _ rfl _ _ 50 rfl w.heap.size 83 i0 _ 8 24 Tryd.underlying50 HI.out.1 HI.out.2.1 HI.out.2.2.1 HI.out.2.2.2 rfl (by decide) _ _ _ rfl TA.out.q2 ⟨wc.heap.size, 0, none⟩ 1 1 (entR.f yy) rfl rfl ?qn (entR.one yy) (by rw [HLN.out]; unfold maxLen; omega) (by rw [HLN.out]; omega) (by have := TZ.out.b.size; simp; omega) (by decide) ?_)
                    case qn => exact news8 NB.out.cell
                    intro g9 cap9 w8 hg hown hgrow
                    simp only [HMN.out] at hown ⊢
                    have T8 := Lib.hid (TA.out.app2 (l := x.es.take (k + 1)) (by unfold RK.Own; rw [HTK.out, List.length_append, RK.row_snoc, HLN.out]; exact hown) hgrow)
                    have Y8 := Lib.hid (YA.out.grown hgrow (Ne.symm (own_ne TA.out.q2 YA.out (by decide))))
                    clear hown hgrow hg TA NB YA y0 y1 y2 y3 y4 y5 y6 y7 cX lY lX
                    have cX : w8.cell? ⟨M, 33, none⟩ = some u2 := T8.out.m.cell 33
                    have fX := T8.out.m.frozen 33
                    have HREL : Hid (EntTold x (.slice a1 n1 c1) (.slice (some ⟨b, off, none⟩) n2 c2) A F M w f1 f2 (x.ms.take 10) n2 (.int .i64 (k + 1)) (w8.setCell ⟨M, 33, none⟩ (.slice (some ⟨g9, 0, none⟩) (k + 1) cap9))) := Lib.hid ⟨k + 1, _, _, by omega, by omega, by go_num, T8.out.setM (by omega) (by have := HA.out; omega) _⟩
                    clear T8 Y8 TZ YC
                    go_wp2_with fail
                    go_roundw
                    case rel => exact HREL.out
                    case measure => simp [intOf]; omega
              · have hk' : ¬ ((k : Int) < 18) := by omega
                go_wp2_with fail
                refine Met.intro (HJ.out _ _ ?_)
                repeat apply Exists.intro
                refine ⟨?_, rfl⟩
                obtain rfl : k = 18 := by omega
                exact ⟨u1, u2, HT.out⟩
            · have hk' : ¬ ((k : Int) < (n2 : Int)) := by omega
              have HE1 := Lib.hid (show x.es.take k = x.es.take 18 by rw [List.take_of_length_le (by have := HN.out.2; omega), List.take_of_length_le (by have := HN.out.2; omega)])
              go_wp2_with fail
              refine Met.intro (HJ.out _ _ ?_)
              repeat apply Exists.intro
              refine ⟨?_, rfl⟩
              exact ⟨u1, u2, by have := HT.out; rw [HE1.out] at this; exact this⟩
        case rest =>
          obtain ⟨u1, u2, hT⟩ := hcut
          have HT := Lib.hid hT
          have O1 := Lib.hid (frC_ones x f1 u1 (own_one hT.o1) (own_one hT.q1))
          have O2 := Lib.hid (frC_ones x f2 u2 (own_one hT.o2) (own_one hT.q2))
          have N1 : A + 1 ≠ F := by have := hAF; omega
          have N2 : A + 1 ≠ M := by have := hAF; omega
          have N3 : A + 1 ≠ A + 2 := by omega
          clear hT HT1 HST2
          go_upto_region 13 with fail
          refine WalkS.begin (fun w' => w'.heap[F]? = some (.cells (frC x f1 u1) 47 (0, 0)) ∧ w'.heap[M]? = some (.cells (frC x f2 u2) 52 (0, 0))) [3] (by kernel_rfl) ⟨blk_raw HT.out.f, blk_raw HT.out.m⟩ ?_
          simp only [List.size_toArray, List.length_cons, List.length_nil, Nat.zero_add, Nat.reduceAdd, show Array.replicate 4 false = #[false, false, false, false] from rfl]
          refine WalkS.take 0 _ (v := .agg (frC x f1 u1)) rfl (by kernel_rfl) (by kernel_rfl) (by kernel_rfl) (by kernel_rfl) (by kernel_rfl) (fun _ _ _ h => h) (yieldsIf_load_row rfl 47 (.tmp 4) rfl F rfl 47 _ (0, 0) _ (fun w h => h.1) Tryd.underlying47 rfl (by kernel_rfl)) ?_
          simp only [Act.put, List.setIfInBounds_toArray, List.set_cons_zero, List.set_cons_succ]
          refine WalkS.take 1 _ (v := .agg (frC x f2 u2)) rfl (by kernel_rfl) (by kernel_rfl) (by kernel_rfl) (by kernel_rfl) (by kernel_rfl) (fun _ _ _ h => h) (yieldsIf_load_row rfl 52 (.tmp 5) rfl M rfl 52 _ (0, 0) _ (fun w h => h.2) Tryd.underlying52 rfl (by kernel_rfl)) ?_
          simp only [Act.put, List.setIfInBounds_toArray, List.set_cons_zero, List.set_cons_succ]
          refine WalkS.each [2] (by kernel_rfl) rfl ?_
          refine EachS.cons 2 _ rfl (fun K hK => ?s2) ?m2
          case s2 =>
            rw [if_pos (by rfl)]
            refine wp_store_row 47 (.tmp 2) (.tmp 181) rfl (A + 1) (frC x f1 u1) rfl rfl 47 z34 (blk_raw HT.out.p) (by kernel_rfl) rfl O1.out ?_
            refine hK.out _ _ (fun _ => ⟨(setRow_other _ _ _ _ N1.symm).trans (blk_raw HT.out.f), (setRow_other _ _ _ _ N2.symm).trans (blk_raw HT.out.m)⟩) ?_
            clear hK K
            simp only [Act.put, List.setIfInBounds_toArray, List.set_cons_zero, List.set_cons_succ]
            refine WalkS.each [3] (by kernel_rfl) rfl ?_
            refine EachS.cons 3 _ rfl (fun K hK => ?s3) ?m3
            case s3 =>
              rw [if_pos (by rfl)]
              refine wp_store_row 52 (.tmp 3) (.tmp 182) rfl (A + 2) (frC x f2 u2) rfl rfl 52 z34 ((setRow_other _ _ _ _ N3.symm).trans (blk_raw HT.out.r)) (by kernel_rfl) rfl O2.out ?_
              refine hK.out _ _ (fun h => absurd h (by decide)) ?_
              clear hK K
              simp only [Act.put, List.setIfInBounds_toArray, List.set_cons_zero, List.set_cons_succ]
              refine WalkS.done (by kernel_rfl) ?_
              go_wp2_with fail
              refine bodyPost_ret (results_cell2_row (p := 2) (q := 3) Tryd.results8 _ _ (A + 1) (A + 2) 47 52 _ _ (0, 0) (0, 0) _ _ rfl (blk_raw (Blk.setRow_other (setRow_blk (frC x f1 u1) HT.out.p) N3.symm _)) Tryd.underlying47 rfl (by kernel_rfl) rfl (blk_raw (setRow_blk (frC x f2 u2) (Blk.setRow_other HT.out.r N3 _))) Tryd.underlying52 rfl (by kernel_rfl)) rfl ?_
              exact (HT.out.on (wy := wc.drew) (by go_grown)).toldQ HA.out
            exact EachS.nil
          exact EachS.nil
end Go.Proofs.YtodajejjhfpdmaaDoor
