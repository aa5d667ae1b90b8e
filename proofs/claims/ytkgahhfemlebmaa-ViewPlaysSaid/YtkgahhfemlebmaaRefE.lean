/-
  The law's 'asks' of a node that is the member at place i, where the nodes of the members are distinct.
-/
import Derived.Test.YtkgahhfemlebmaaRefD
namespace Go.Proofs.Ytkgahhfemlebmaa
open Go.RowKit Go.Instr
set_option maxRecDepth 20000 in
set_option maxHeartbeats 4000000 in
theorem asks_yes (e : Nat) (s t : Value) (lv : Lv) (l : List Mem) (node life : Nat) (w : World) (hl : l.length ≤ 40) (hs : MemsAt w s l) (ht : MemsAt w t l) (i : Nat) (hnd : (l.map (·.n)).Nodup) (hi : i < l.length) (hx : idxOf (isNode node) l = (i : Nat)) (hin : l[i].n = node) :
    Calls Try.prog 11 #[.agg (vC e s lv), .agg (vC e t lv), .int .u8 node, .int .u8 life] w fun en w' => en = .returned (.bool true) ∧ Below w.heap.size w w' := by
  obtain ⟨a1, c1, rfl⟩ := hs.len
  obtain ⟨a2, c2, rfl⟩ := ht.len
  have hdiff : ∀ j (hj : j < l.length), j ≠ i → l[j].n ≠ node := fun j hj hji hjn => by
    rcases Nat.lt_or_ge j i with h | h
    · exact (List.pairwise_iff_getElem.1 hnd) j i (by simpa using hj) (by simpa using hi) h (by simp only [List.getElem_map]; rw [hjn, hin])
    · exact (List.pairwise_iff_getElem.1 hnd) i j (by simpa using hi) (by simpa using hj) (by omega) (by simp only [List.getElem_map]; rw [hjn, hin])
  have hb : decide (0 ≤ idxOf (isBoth node life) l) = decide (l[i].l = life) := by
    by_cases hlf : l[i].l = life
    · have := idxOf_at (p := isBoth node life) (l := l) (k := i) (fun j hj hji => by simp [isBoth, hdiff j hj (by omega)]) hi (by simp [isBoth, hin, hlf])
      rw [this, decide_eq_true hlf, decide_eq_true (by omega)]
    · have := idxOf_none (p := isBoth node life) (l := l) (fun j hj => by
        by_cases hji : j = i
        · subst hji; simp [isBoth, hlf]
        · simp [isBoth, hdiff j hj hji])
      rw [this, decide_eq_false hlf]; rfl
  obtain ⟨hr, hhr⟩ : ∃ r, decide (l[i].l = life) = r := ⟨_, rfl⟩
  rw [hhr] at hb
  have HX := Lib.hid hx
  have HNO := Lib.hid hdiff
  have HBO := Lib.hid hb
  have HI := Lib.hid hi
  have hPA : prevN l i = if 0 < i then nodeAt l (i - 1) else 0 := rfl
  obtain ⟨m0, hm0⟩ : ∃ m : Mem, l[i]'hi = m := ⟨_, rfl⟩
  have hin' : node = m0.n := by rw [← hm0]; exact hin.symm
  have hhq : decide (m0.l = life) = hr := by rw [← hm0]; exact hhr
  obtain ⟨nd0, lf0, rd0⟩ := m0
  simp only at hin' hhq
  subst hin'
  have HM0 := Lib.hid hm0
  have hhr' : ((lf0 : Int) == life) = hr := by rw [← hhq, Bool.eq_iff_iff]; simp; omega
  clear hhq
  clear hnd hdiff hhr hm0 hin
  obtain ⟨n, hn⟩ : ∃ n, n = l.length := ⟨_, rfl⟩
  rw [← hn] at hs ht ⊢
  have HN := Lib.hid hn
  have HL := Lib.hid hl
  have hn40 : n ≤ 40 := by rw [HN.out]; exact hl
  have hin2 : i < n := by rw [HN.out]; exact HI.out
  clear hn hl hx hb hPA
  have HW : Hid (Two w w.heap.size (w.heap.size + 1) e (.slice a1 n c1) (.slice a2 n c2) lv l ((w.alloc (.cells (vC e (.slice a1 n c1) lv) 28)).alloc (.cells (vC e (.slice a2 n c2) lv) 34))) := Lib.hid ⟨(Blk.new rfl).alloc _, Blk.new (by simp), (hs.al _).al _, (ht.al _).al _, by go_grown⟩
  clear hs ht
  unfold vC
  go_enter Try.func11, Try.ntmps11
  go_upto_region 1 with fail
  unfold vC at HW
  generalize (w.alloc (.cells (_) 28)).alloc _ = w1 at *
  obtain ⟨A, hA⟩ : ∃ A, A = w.heap.size := ⟨_, rfl⟩
  obtain ⟨B, hB⟩ : ∃ B, B = A + 1 := ⟨_, rfl⟩
  rw [← hA, ← hB] at HW
  simp only [← hA]
  simp only [← hB]
  have HAE := Lib.hid hA
  clear hA hB
  obtain ⟨d0, d1, d2, d3, d4, d5, d6, d7, d8, d9⟩ := HW.out.tenb
  go_wp2_with fail
  with_reducible refine (refAt_is e _ lv l node (i : Nat) _ HL.out HW.out.t HX.out).mono ?_
  rintro en w2 ⟨rfl, hB⟩
  have HW2 := Lib.hid (HW.out.on hB)
  clear hB d0 d1 d2 d3 d4 d5 d6 d7 d8 d9 HW
  obtain ⟨d0, d1, d2, d3, d4, d5, d6, d7, d8, d9⟩ := HW2.out.a.ten
  go_wp2_with fail
  with_reducible refine (Find_yes e _ lv l node i ⟨node, lf0, rd0⟩ _ HL.out HW2.out.s HX.out HI.out HM0.out).mono ?_
  rintro en w3 ⟨rfl, hB⟩
  have HW3 := Lib.hid ((HW2.out.on hB).al (.cells (mC ⟨node, lf0, rd0⟩) 52))
  have HD3 : Hid (Blk (w3.alloc (.cells (mC ⟨node, lf0, rd0⟩) 52)) w3.heap.size (mC ⟨node, lf0, rd0⟩) 52) := Lib.hid (Blk.new rfl)
  clear hB d0 d1 d2 d3 d4 d5 d6 d7 d8 d9 HW2
  unfold mC at HW3 HD3
  obtain ⟨d0, d1, d2, d3, d4, d5, d6, d7, d8, d9⟩ := HW3.out.a.ten
  go_upto_region 3 with fail
  generalize w3.alloc _ = w4 at *
  obtain ⟨D, hD⟩ : ∃ D, D = w3.heap.size := ⟨_, rfl⟩
  rw [← hD] at HD3
  simp only [← hD]
  clear hD
  go_upto_region 4 with ((go_at_call 16; (with_reducible refine (Ends_yes e _ lv l node i _ HL.out HW3.out.s HX.out HI.out).mono ?_); rintro en w5 ⟨rfl, hB⟩; have HW5 := Lib.hid (HW3.out.on hB); have HD5 := Lib.hid (HD3.out.on hB); clear hB d0 d1 d2 d3 d4 d5 d6 d7 d8 d9 HW3 HD3; obtain ⟨d0, d1, d2, d3, d4, d5, d6, d7, d8, d9⟩ := HW5.out.a.ten))
  obtain ⟨g2, o2, cg2, hsg, hgw, hc2⟩ := HW5.out.t.form (by have := HI.out; omega)
  simp only [Value.slice.injEq] at hsg
  obtain ⟨rfl, hml, rfl⟩ := hsg
  clear hml
  obtain ⟨y0, y1, y2⟩ := hc2 i HI.out
  rw [HM0.out] at y0 y1 y2
  simp only at y0 y1 y2
  have HY := Lib.hid (And.intro y0 (And.intro y1 y2))
  have hpv : 0 < i → w5.cell? ⟨g2, o2 + (i - 1) * 3, none⟩ = some (.int .u8 (prevN l i)) := fun h => by
    rw [prevN, if_pos h, nodeAt_lt (by have := HI.out; omega)]
    exact (hc2 (i - 1) (by have := HI.out; omega)).1
  have hp0 : ¬ 0 < i → prevN l i = 0 := fun h => by rw [prevN, if_neg h]
  have hnx : i + 1 < n → w5.cell? ⟨g2, o2 + (i + 1) * 3, none⟩ = some (.int .u8 (nodeAt l (i + 1))) := fun h => by
    rw [nodeAt_lt (by rw [← HN.out]; exact h)]
    exact (hc2 (i + 1) (by rw [← HN.out]; exact h)).1
  have hn0 : ¬ i + 1 < n → nodeAt l (i + 1) = 0 := fun h => nodeAt_ge (by rw [← HN.out]; exact h)
  have HPV := Lib.hid hpv
  have HP0 := Lib.hid hp0
  have HNX := Lib.hid hnx
  have HN0 := Lib.hid hn0
  clear hpv hp0 hnx hn0 hc2 y0 y1 y2
  obtain ⟨b0, b1, b2, b3, b4, b5, b6, b7, b8, b9⟩ := HW5.out.tenb
  clear b0 b2 b3 b4 b5 b6 b7 b8 b9
  by_cases h1 : 0 < i
  · have z1 := HPV.out h1
    obtain ⟨j, rfl⟩ : ∃ j, i = j + 1 := ⟨i - 1, by omega⟩
    rw [Nat.add_sub_cancel] at z1
    by_cases h2 : j + 1 + 1 < n
    · have z2 := HNX.out h2
      go_upto_region 9 with fail
      have e0 := onto_cell d0
      have e1 := onto_cell d1
      have e2 := onto_cell d2
      have e3 := onto_cell d3
      have e4 := onto_cell d4
      have e5 := onto_cell d5
      have e6 := onto_cell d6
      have e7 := onto_cell d7
      have e8 := onto_cell d8
      have e9 := onto_cell d9
      have p0 := onto_cell (HD5.out.cell 0)
      have p1 := onto_cell (HD5.out.cell 1)
      have p2 := onto_cell (HD5.out.cell 2)
      have f1 := onto_cell b1
      have g0 := onto_cell HY.out.1
      have g1 := onto_cell HY.out.2.1
      have g2' := onto_cell HY.out.2.2
      clear d0 d1 d2 d3 d4 d5 d6 d7 d8 d9
      refine wp_region_onto (by kernel_rfl) (by kernel_rfl) ?_
      repeat (go_big_quiet_step ((go_at_call 18; exact onto_calls (has_no e _ lv l node life hr _ HL.out (HW5.out.s.on (onto_below _ _)) HBO.out))))
      refine wpQuiet_nil ?_
      intro _ hw'
      obtain ⟨z, hw''⟩ := hw'
      subst hw''
      have HW6 := Lib.hid (HW5.out.on (onto_below w5 z))
      clear b1 f1 g0 g1 g2' HY HPV HP0 HNX HN0 hgw e0 e1 e2 e3 e4 e5 e6 e7 e8 e9 p0 p1 p2 HD5 HW5
      generalize onto w5 z = w6 at *
      obtain ⟨d0, d1, d2, d3, d4, d5, d6, d7, d8, d9⟩ := HW6.out.a.ten
      go_wp2_with fail
      with_reducible refine (Others_any e _ lv l node _ HL.out HW6.out.s).mono ?_
      rintro en w7 ⟨ov, rfl, ho, hB⟩
      have HW7 := Lib.hid (HW6.out.on hB)
      have HO := Lib.hid (show w7.ownsRow w.heap.size 5 1 ov (othN node l).length (bRow (othN node l)) from own_mono ho HW6.out.w.size)
      clear ho hB d0 d1 d2 d3 d4 d5 d6 d7 d8 d9 HW6
      have HST : Hid (AsksLoop w A B e n node (.slice a1 n c1) (.slice (some ⟨g2, o2, none⟩) n c2) lv l ov (.int .i64 0) (.int .i64 0) w7) := Lib.hid ⟨0, by omega, rfl, rfl, HW7.out, HO.out⟩
      go_wp2_with fail
      go_loopw [17, 18] (fun k i wr => AsksLoop w A B e n node (.slice a1 n c1) (.slice (some ⟨g2, o2, none⟩) n c2) lv l ov k i wr) (fun _ i _ => n - (intOf i).toNat)
      case atStart => exact HST.out
      case round =>
        obtain ⟨tt, hj, rfl, rfl, hw, ho⟩ := hrel
        have HW := Lib.hid hw
        have HOW := Lib.hid ho
        clear hw ho HST HW7 HO
        by_cases hlt : tt < n
        · have hjl : tt < l.length := by rw [← HN.out]; exact hlt
          obtain ⟨h2', p2', ch2', hsg, hgw, hc2⟩ := HW.out.t.form (by omega)
          simp only [Value.slice.injEq, Option.some.injEq, Addr.mk.injEq] at hsg
          obtain ⟨⟨rfl, rfl, _⟩, hml, rfl⟩ := hsg
          clear hml
          obtain ⟨y0, y1, y2⟩ := hc2 tt hjl
          by_cases hti : tt = j + 1
          · subst hti
            have hps := othN_pass (node := node) hjl
            rw [if_pos (congrArg Mem.n HM0.out)] at hps
            have d1 := HW.out.b.cell 1
            simp at d1
            obtain ⟨K, hK⟩ : ∃ K, K = (othN node (l.take (j + 1))).length := ⟨_, rfl⟩
            rw [← hK] at hps ⊢
            have HPS := Lib.hid hps
            clear hps hK hc2 hjl y0 y1 y2
            go_wp2_with fail
            go_roundw
            case rel => exact ⟨j + 1 + 1, by omega, by first | rfl | go_num | simp, by rw [HPS.out]; rfl, HW.out, HOW.out⟩
            case measure => simp [intOf] <;> omega
          · have htn : ¬ (tt : Int) = ((j + 1 : Nat) : Int) := by omega
            have hnn : l[tt].n ≠ node := by
              exact HNO.out tt hjl hti
            have hat := othN_at hjl hnn
            have hps := othN_pass (node := node) hjl
            rw [if_neg hnn] at hps
            generalize l[tt] = mb at y0 y1 y2 hat
            obtain ⟨nd, lf, rd⟩ := mb
            simp only at y0 hat
            obtain ⟨K, hK⟩ : ∃ K, K = (othN node (l.take tt)).length := ⟨_, rfl⟩
            rw [← hK] at hat hps ⊢
            have HPS := Lib.hid hps
            have hKl := (List.getElem?_eq_some_iff.1 hat).1
            obtain ⟨cnt, hcnt⟩ : ∃ c, c = (othN node l).length := ⟨_, rfl⟩
            have ho := HOW.out
            rw [← hcnt] at ho hKl
            have hrow : (bRow (othN node l))[K]? = some (.int .u8 nd) := by rw [bRow, List.getElem?_map, hat]; rfl
            rcases ho.2 with ⟨_, h0⟩ | ⟨g, gcap, cur, hov, _⟩
            · omega
            subst hov
            have z0 := own_cell ho hrow
            rw [Nat.zero_add] at z0
            have hcm : cnt ≤ 40 := by
              have := othN_len node l
              have := HL.out
              omega
            have HREL : Hid (∀ q, AsksLoop w A B e n node (.slice a1 n c1) (.slice (some ⟨g2, o2, none⟩) n c2) lv l (.slice (some ⟨g, 0, none⟩) cnt gcap) (.int .i64 (K + 1)) (.int .i64 (tt + 1)) (wr.drewN q)) := Lib.hid (fun q => ⟨tt + 1, by omega, by go_num, by rw [HPS.out]; go_num, HW.out.on ⟨rfl, rfl, rfl, Nat.le_refl _, fun _ _ => rfl⟩, own_below HOW.out ⟨rfl, rfl, rfl, Nat.le_refl _, fun _ _ => rfl⟩⟩)
            have d1 := HW.out.b.cell 1
            simp at d1
            clear hK hcnt ho hrow hat hps hc2 hjl y1 y2 hnn
            have hk1 : ¬ (cnt : Int) ≤ K := by omega
            go_wp2_with fail
            go_quiet (fail)
            go_wp2_with fail
            go_roundw
            case rel => exact HREL.out _
            case measure => simp [intOf]; omega
        · obtain rfl : tt = n := by omega
          have HK : Hid ((othN node (l.take tt)).length = (othN node l).length) := Lib.hid (by rw [HN.out, List.take_length])
          obtain ⟨va, vc, hov⟩ : ∃ a c, ov = .slice a (othN node l).length c := by
            rcases HOW.out.2 with ⟨rfl, h0⟩ | ⟨g, gcap, cur, rfl, _⟩
            · exact ⟨none, 0, by rw [h0]⟩
            · exact ⟨_, _, rfl⟩
          subst hov
          have d1 := HW.out.b.cell 1
          simp at d1
          rw [HK.out]
          generalize (othN node l).length = cnt at *
          go_wp2
          go_ret
          exact ⟨rbool (by simp), HW.out.w⟩
    · go_upto_region 9 with fail
      have qn : ((nodeAt l (j + 1 + 1) : Nat) : Int) = 0 := by rw [HN0.out h2]; rfl
      simp only [qn]
      have e0 := onto_cell d0
      have e1 := onto_cell d1
      have e2 := onto_cell d2
      have e3 := onto_cell d3
      have e4 := onto_cell d4
      have e5 := onto_cell d5
      have e6 := onto_cell d6
      have e7 := onto_cell d7
      have e8 := onto_cell d8
      have e9 := onto_cell d9
      have p0 := onto_cell (HD5.out.cell 0)
      have p1 := onto_cell (HD5.out.cell 1)
      have p2 := onto_cell (HD5.out.cell 2)
      have f1 := onto_cell b1
      have g0 := onto_cell HY.out.1
      have g1 := onto_cell HY.out.2.1
      have g2' := onto_cell HY.out.2.2
      clear d0 d1 d2 d3 d4 d5 d6 d7 d8 d9
      refine wp_region_onto (by kernel_rfl) (by kernel_rfl) ?_
      repeat (go_big_quiet_step ((go_at_call 18; exact onto_calls (has_no e _ lv l node life hr _ HL.out (HW5.out.s.on (onto_below _ _)) HBO.out))))
      refine wpQuiet_nil ?_
      intro _ hw'
      obtain ⟨z, hw''⟩ := hw'
      subst hw''
      have HW6 := Lib.hid (HW5.out.on (onto_below w5 z))
      clear b1 f1 g0 g1 g2' HY HPV HP0 HNX HN0 hgw e0 e1 e2 e3 e4 e5 e6 e7 e8 e9 p0 p1 p2 HD5 HW5
      generalize onto w5 z = w6 at *
      obtain ⟨d0, d1, d2, d3, d4, d5, d6, d7, d8, d9⟩ := HW6.out.a.ten
      go_wp2_with fail
      with_reducible refine (Others_any e _ lv l node _ HL.out HW6.out.s).mono ?_
      rintro en w7 ⟨ov, rfl, ho, hB⟩
      have HW7 := Lib.hid (HW6.out.on hB)
      have HO := Lib.hid (show w7.ownsRow w.heap.size 5 1 ov (othN node l).length (bRow (othN node l)) from own_mono ho HW6.out.w.size)
      clear ho hB d0 d1 d2 d3 d4 d5 d6 d7 d8 d9 HW6
      have HST : Hid (AsksLoop w A B e n node (.slice a1 n c1) (.slice (some ⟨g2, o2, none⟩) n c2) lv l ov (.int .i64 0) (.int .i64 0) w7) := Lib.hid ⟨0, by omega, rfl, rfl, HW7.out, HO.out⟩
      go_wp2_with fail
      go_loopw [17, 18] (fun k i wr => AsksLoop w A B e n node (.slice a1 n c1) (.slice (some ⟨g2, o2, none⟩) n c2) lv l ov k i wr) (fun _ i _ => n - (intOf i).toNat)
      case atStart => exact HST.out
      case round =>
        obtain ⟨tt, hj, rfl, rfl, hw, ho⟩ := hrel
        have HW := Lib.hid hw
        have HOW := Lib.hid ho
        clear hw ho HST HW7 HO
        by_cases hlt : tt < n
        · have hjl : tt < l.length := by rw [← HN.out]; exact hlt
          obtain ⟨h2', p2', ch2', hsg, hgw, hc2⟩ := HW.out.t.form (by omega)
          simp only [Value.slice.injEq, Option.some.injEq, Addr.mk.injEq] at hsg
          obtain ⟨⟨rfl, rfl, _⟩, hml, rfl⟩ := hsg
          clear hml
          obtain ⟨y0, y1, y2⟩ := hc2 tt hjl
          by_cases hti : tt = j + 1
          · subst hti
            have hps := othN_pass (node := node) hjl
            rw [if_pos (congrArg Mem.n HM0.out)] at hps
            have d1 := HW.out.b.cell 1
            simp at d1
            obtain ⟨K, hK⟩ : ∃ K, K = (othN node (l.take (j + 1))).length := ⟨_, rfl⟩
            rw [← hK] at hps ⊢
            have HPS := Lib.hid hps
            clear hps hK hc2 hjl y0 y1 y2
            go_wp2_with fail
            go_roundw
            case rel => exact ⟨j + 1 + 1, by omega, by first | rfl | go_num | simp, by rw [HPS.out]; rfl, HW.out, HOW.out⟩
            case measure => simp [intOf] <;> omega
          · have htn : ¬ (tt : Int) = ((j + 1 : Nat) : Int) := by omega
            have hnn : l[tt].n ≠ node := by
              exact HNO.out tt hjl hti
            have hat := othN_at hjl hnn
            have hps := othN_pass (node := node) hjl
            rw [if_neg hnn] at hps
            generalize l[tt] = mb at y0 y1 y2 hat
            obtain ⟨nd, lf, rd⟩ := mb
            simp only at y0 hat
            obtain ⟨K, hK⟩ : ∃ K, K = (othN node (l.take tt)).length := ⟨_, rfl⟩
            rw [← hK] at hat hps ⊢
            have HPS := Lib.hid hps
            have hKl := (List.getElem?_eq_some_iff.1 hat).1
            obtain ⟨cnt, hcnt⟩ : ∃ c, c = (othN node l).length := ⟨_, rfl⟩
            have ho := HOW.out
            rw [← hcnt] at ho hKl
            have hrow : (bRow (othN node l))[K]? = some (.int .u8 nd) := by rw [bRow, List.getElem?_map, hat]; rfl
            rcases ho.2 with ⟨_, h0⟩ | ⟨g, gcap, cur, hov, _⟩
            · omega
            subst hov
            have z0 := own_cell ho hrow
            rw [Nat.zero_add] at z0
            have hcm : cnt ≤ 40 := by
              have := othN_len node l
              have := HL.out
              omega
            have HREL : Hid (∀ q, AsksLoop w A B e n node (.slice a1 n c1) (.slice (some ⟨g2, o2, none⟩) n c2) lv l (.slice (some ⟨g, 0, none⟩) cnt gcap) (.int .i64 (K + 1)) (.int .i64 (tt + 1)) (wr.drewN q)) := Lib.hid (fun q => ⟨tt + 1, by omega, by go_num, by rw [HPS.out]; go_num, HW.out.on ⟨rfl, rfl, rfl, Nat.le_refl _, fun _ _ => rfl⟩, own_below HOW.out ⟨rfl, rfl, rfl, Nat.le_refl _, fun _ _ => rfl⟩⟩)
            have d1 := HW.out.b.cell 1
            simp at d1
            clear hK hcnt ho hrow hat hps hc2 hjl y1 y2 hnn
            have hk1 : ¬ (cnt : Int) ≤ K := by omega
            go_wp2_with fail
            go_quiet (fail)
            go_wp2_with fail
            go_roundw
            case rel => exact HREL.out _
            case measure => simp [intOf]; omega
        · obtain rfl : tt = n := by omega
          have HK : Hid ((othN node (l.take tt)).length = (othN node l).length) := Lib.hid (by rw [HN.out, List.take_length])
          obtain ⟨va, vc, hov⟩ : ∃ a c, ov = .slice a (othN node l).length c := by
            rcases HOW.out.2 with ⟨rfl, h0⟩ | ⟨g, gcap, cur, rfl, _⟩
            · exact ⟨none, 0, by rw [h0]⟩
            · exact ⟨_, _, rfl⟩
          subst hov
          have d1 := HW.out.b.cell 1
          simp at d1
          rw [HK.out]
          generalize (othN node l).length = cnt at *
          go_wp2
          go_ret
          exact ⟨rbool (by simp), HW.out.w⟩
  · obtain rfl : i = 0 := by omega
    by_cases h2 : 0 + 1 < n
    · have z2 := HNX.out h2
      go_upto_region 9 with fail
      have qp : ((prevN l 0 : Nat) : Int) = 0 := by rw [HP0.out (by omega)]; rfl
      simp only [qp]
      have e0 := onto_cell d0
      have e1 := onto_cell d1
      have e2 := onto_cell d2
      have e3 := onto_cell d3
      have e4 := onto_cell d4
      have e5 := onto_cell d5
      have e6 := onto_cell d6
      have e7 := onto_cell d7
      have e8 := onto_cell d8
      have e9 := onto_cell d9
      have p0 := onto_cell (HD5.out.cell 0)
      have p1 := onto_cell (HD5.out.cell 1)
      have p2 := onto_cell (HD5.out.cell 2)
      have f1 := onto_cell b1
      have g0 := onto_cell HY.out.1
      have g1 := onto_cell HY.out.2.1
      have g2' := onto_cell HY.out.2.2
      simp only [Nat.zero_mul, Nat.add_zero] at g0 g1 g2'
      clear d0 d1 d2 d3 d4 d5 d6 d7 d8 d9
      refine wp_region_onto (by kernel_rfl) (by kernel_rfl) ?_
      repeat (go_big_quiet_step ((go_at_call 18; exact onto_calls (has_no e _ lv l node life hr _ HL.out (HW5.out.s.on (onto_below _ _)) HBO.out))))
      refine wpQuiet_nil ?_
      intro _ hw'
      obtain ⟨z, hw''⟩ := hw'
      subst hw''
      have HW6 := Lib.hid (HW5.out.on (onto_below w5 z))
      clear b1 f1 g0 g1 g2' HY HPV HP0 HNX HN0 hgw e0 e1 e2 e3 e4 e5 e6 e7 e8 e9 p0 p1 p2 HD5 HW5
      generalize onto w5 z = w6 at *
      obtain ⟨d0, d1, d2, d3, d4, d5, d6, d7, d8, d9⟩ := HW6.out.a.ten
      go_wp2_with fail
      with_reducible refine (Others_any e _ lv l node _ HL.out HW6.out.s).mono ?_
      rintro en w7 ⟨ov, rfl, ho, hB⟩
      have HW7 := Lib.hid (HW6.out.on hB)
      have HO := Lib.hid (show w7.ownsRow w.heap.size 5 1 ov (othN node l).length (bRow (othN node l)) from own_mono ho HW6.out.w.size)
      clear ho hB d0 d1 d2 d3 d4 d5 d6 d7 d8 d9 HW6
      have HST : Hid (AsksLoop w A B e n node (.slice a1 n c1) (.slice (some ⟨g2, o2, none⟩) n c2) lv l ov (.int .i64 0) (.int .i64 0) w7) := Lib.hid ⟨0, by omega, rfl, rfl, HW7.out, HO.out⟩
      go_wp2_with fail
      go_loopw [17, 18] (fun k i wr => AsksLoop w A B e n node (.slice a1 n c1) (.slice (some ⟨g2, o2, none⟩) n c2) lv l ov k i wr) (fun _ i _ => n - (intOf i).toNat)
      case atStart => exact HST.out
      case round =>
        obtain ⟨tt, hj, rfl, rfl, hw, ho⟩ := hrel
        have HW := Lib.hid hw
        have HOW := Lib.hid ho
        clear hw ho HST HW7 HO
        by_cases hlt : tt < n
        · have hjl : tt < l.length := by rw [← HN.out]; exact hlt
          obtain ⟨h2', p2', ch2', hsg, hgw, hc2⟩ := HW.out.t.form (by omega)
          simp only [Value.slice.injEq, Option.some.injEq, Addr.mk.injEq] at hsg
          obtain ⟨⟨rfl, rfl, _⟩, hml, rfl⟩ := hsg
          clear hml
          obtain ⟨y0, y1, y2⟩ := hc2 tt hjl
          by_cases hti : tt = 0
          · subst hti
            have hps := othN_pass (node := node) hjl
            rw [if_pos (congrArg Mem.n HM0.out)] at hps
            have d1 := HW.out.b.cell 1
            simp at d1
            obtain ⟨K, hK⟩ : ∃ K, K = (othN node (l.take (0))).length := ⟨_, rfl⟩
            rw [← hK] at hps ⊢
            have HPS := Lib.hid hps
            clear hps hK hc2 hjl y0 y1 y2
            go_wp2_with fail
            go_roundw
            case rel => exact ⟨0 + 1, by omega, by first | rfl | go_num | simp, by rw [HPS.out]; rfl, HW.out, HOW.out⟩
            case measure => simp [intOf] <;> omega
          · have htn : ¬ (tt : Int) = 0 := by omega
            have hnn : l[tt].n ≠ node := by
              exact HNO.out tt hjl hti
            have hat := othN_at hjl hnn
            have hps := othN_pass (node := node) hjl
            rw [if_neg hnn] at hps
            generalize l[tt] = mb at y0 y1 y2 hat
            obtain ⟨nd, lf, rd⟩ := mb
            simp only at y0 hat
            obtain ⟨K, hK⟩ : ∃ K, K = (othN node (l.take tt)).length := ⟨_, rfl⟩
            rw [← hK] at hat hps ⊢
            have HPS := Lib.hid hps
            have hKl := (List.getElem?_eq_some_iff.1 hat).1
            obtain ⟨cnt, hcnt⟩ : ∃ c, c = (othN node l).length := ⟨_, rfl⟩
            have ho := HOW.out
            rw [← hcnt] at ho hKl
            have hrow : (bRow (othN node l))[K]? = some (.int .u8 nd) := by rw [bRow, List.getElem?_map, hat]; rfl
            rcases ho.2 with ⟨_, h0⟩ | ⟨g, gcap, cur, hov, _⟩
            · omega
            subst hov
            have z0 := own_cell ho hrow
            rw [Nat.zero_add] at z0
            have hcm : cnt ≤ 40 := by
              have := othN_len node l
              have := HL.out
              omega
            have HREL : Hid (∀ q, AsksLoop w A B e n node (.slice a1 n c1) (.slice (some ⟨g2, o2, none⟩) n c2) lv l (.slice (some ⟨g, 0, none⟩) cnt gcap) (.int .i64 (K + 1)) (.int .i64 (tt + 1)) (wr.drewN q)) := Lib.hid (fun q => ⟨tt + 1, by omega, by go_num, by rw [HPS.out]; go_num, HW.out.on ⟨rfl, rfl, rfl, Nat.le_refl _, fun _ _ => rfl⟩, own_below HOW.out ⟨rfl, rfl, rfl, Nat.le_refl _, fun _ _ => rfl⟩⟩)
            have d1 := HW.out.b.cell 1
            simp at d1
            clear hK hcnt ho hrow hat hps hc2 hjl y1 y2 hnn
            have hk1 : ¬ (cnt : Int) ≤ K := by omega
            go_wp2_with fail
            go_quiet (fail)
            go_wp2_with fail
            go_roundw
            case rel => exact HREL.out _
            case measure => simp [intOf]; omega
        · obtain rfl : tt = n := by omega
          have HK : Hid ((othN node (l.take tt)).length = (othN node l).length) := Lib.hid (by rw [HN.out, List.take_length])
          obtain ⟨va, vc, hov⟩ : ∃ a c, ov = .slice a (othN node l).length c := by
            rcases HOW.out.2 with ⟨rfl, h0⟩ | ⟨g, gcap, cur, rfl, _⟩
            · exact ⟨none, 0, by rw [h0]⟩
            · exact ⟨_, _, rfl⟩
          subst hov
          have d1 := HW.out.b.cell 1
          simp at d1
          rw [HK.out]
          generalize (othN node l).length = cnt at *
          go_wp2
          go_ret
          exact ⟨rbool (by simp), HW.out.w⟩
    · go_upto_region 9 with fail
      have qp : ((prevN l 0 : Nat) : Int) = 0 := by rw [HP0.out (by omega)]; rfl
      simp only [qp]
      have qn : ((nodeAt l (0 + 1) : Nat) : Int) = 0 := by rw [HN0.out h2]; rfl
      simp only [qn]
      have e0 := onto_cell d0
      have e1 := onto_cell d1
      have e2 := onto_cell d2
      have e3 := onto_cell d3
      have e4 := onto_cell d4
      have e5 := onto_cell d5
      have e6 := onto_cell d6
      have e7 := onto_cell d7
      have e8 := onto_cell d8
      have e9 := onto_cell d9
      have p0 := onto_cell (HD5.out.cell 0)
      have p1 := onto_cell (HD5.out.cell 1)
      have p2 := onto_cell (HD5.out.cell 2)
      have f1 := onto_cell b1
      have g0 := onto_cell HY.out.1
      have g1 := onto_cell HY.out.2.1
      have g2' := onto_cell HY.out.2.2
      simp only [Nat.zero_mul, Nat.add_zero] at g0 g1 g2'
      clear d0 d1 d2 d3 d4 d5 d6 d7 d8 d9
      refine wp_region_onto (by kernel_rfl) (by kernel_rfl) ?_
      repeat (go_big_quiet_step ((go_at_call 18; exact onto_calls (has_no e _ lv l node life hr _ HL.out (HW5.out.s.on (onto_below _ _)) HBO.out))))
      refine wpQuiet_nil ?_
      intro _ hw'
      obtain ⟨z, hw''⟩ := hw'
      subst hw''
      have HW6 := Lib.hid (HW5.out.on (onto_below w5 z))
      clear b1 f1 g0 g1 g2' HY HPV HP0 HNX HN0 hgw e0 e1 e2 e3 e4 e5 e6 e7 e8 e9 p0 p1 p2 HD5 HW5
      generalize onto w5 z = w6 at *
      obtain ⟨d0, d1, d2, d3, d4, d5, d6, d7, d8, d9⟩ := HW6.out.a.ten
      go_wp2_with fail
      with_reducible refine (Others_any e _ lv l node _ HL.out HW6.out.s).mono ?_
      rintro en w7 ⟨ov, rfl, ho, hB⟩
      have HW7 := Lib.hid (HW6.out.on hB)
      have HO := Lib.hid (show w7.ownsRow w.heap.size 5 1 ov (othN node l).length (bRow (othN node l)) from own_mono ho HW6.out.w.size)
      clear ho hB d0 d1 d2 d3 d4 d5 d6 d7 d8 d9 HW6
      have HST : Hid (AsksLoop w A B e n node (.slice a1 n c1) (.slice (some ⟨g2, o2, none⟩) n c2) lv l ov (.int .i64 0) (.int .i64 0) w7) := Lib.hid ⟨0, by omega, rfl, rfl, HW7.out, HO.out⟩
      go_wp2_with fail
      go_loopw [17, 18] (fun k i wr => AsksLoop w A B e n node (.slice a1 n c1) (.slice (some ⟨g2, o2, none⟩) n c2) lv l ov k i wr) (fun _ i _ => n - (intOf i).toNat)
      case atStart => exact HST.out
      case round =>
        obtain ⟨tt, hj, rfl, rfl, hw, ho⟩ := hrel
        have HW := Lib.hid hw
        have HOW := Lib.hid ho
        clear hw ho HST HW7 HO
        by_cases hlt : tt < n
        · have hjl : tt < l.length := by rw [← HN.out]; exact hlt
          obtain ⟨h2', p2', ch2', hsg, hgw, hc2⟩ := HW.out.t.form (by omega)
          simp only [Value.slice.injEq, Option.some.injEq, Addr.mk.injEq] at hsg
          obtain ⟨⟨rfl, rfl, _⟩, hml, rfl⟩ := hsg
          clear hml
          obtain ⟨y0, y1, y2⟩ := hc2 tt hjl
          by_cases hti : tt = 0
          · subst hti
            have hps := othN_pass (node := node) hjl
            rw [if_pos (congrArg Mem.n HM0.out)] at hps
            have d1 := HW.out.b.cell 1
            simp at d1
            obtain ⟨K, hK⟩ : ∃ K, K = (othN node (l.take (0))).length := ⟨_, rfl⟩
            rw [← hK] at hps ⊢
            have HPS := Lib.hid hps
            clear hps hK hc2 hjl y0 y1 y2
            go_wp2_with fail
            go_roundw
            case rel => exact ⟨0 + 1, by omega, by first | rfl | go_num | simp, by rw [HPS.out]; rfl, HW.out, HOW.out⟩
            case measure => simp [intOf] <;> omega
          · exfalso; omega
        · obtain rfl : tt = n := by omega
          have HK : Hid ((othN node (l.take tt)).length = (othN node l).length) := Lib.hid (by rw [HN.out, List.take_length])
          obtain ⟨va, vc, hov⟩ : ∃ a c, ov = .slice a (othN node l).length c := by
            rcases HOW.out.2 with ⟨rfl, h0⟩ | ⟨g, gcap, cur, rfl, _⟩
            · exact ⟨none, 0, by rw [h0]⟩
            · exact ⟨_, _, rfl⟩
          subst hov
          have d1 := HW.out.b.cell 1
          simp at d1
          rw [HK.out]
          generalize (othN node l).length = cnt at *
          go_wp2
          go_ret
          exact ⟨rbool (by simp), HW.out.w⟩
end Go.Proofs.Ytkgahhfemlebmaa
