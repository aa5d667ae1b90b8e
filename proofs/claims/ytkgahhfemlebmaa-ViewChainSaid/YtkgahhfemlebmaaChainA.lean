/-
  The law ViewChain: the walk.
-/
import Derived.Test.YtkgahhfemlebmaaViewS
import Derived.Test.YtkgahhfemlebmaaViewJ
import Derived.Test.YtkgahhfemlebmaaOpenC
import Derived.Test.YtkgahhfemlebmaaLoose
namespace Go.Proofs.Ytkgahhfemlebmaa
open Go.RowKit Go.Instr

theorem has_is (e : Nat) (s : Value) (lv : Lv) (l : List Mem) (node life j : Nat) (w : World) (hl : l.length ≤ 40) (hs : MemsAt w s l) (hx : idxOf (isBoth node life) l = (j : Nat)) :
    Calls Try.prog 18 #[.agg (vC e s lv), .int .u8 node, .int .u8 life] w fun en w' => en = .returned (.bool true) ∧ Below w.heap.size w w' := by
  have := has_any e s lv l node life w hl hs
  rw [hx, decide_eq_true (by omega)] at this
  exact this
theorem others_is (e : Nat) (s : Value) (lv : Lv) (l : List Mem) (node m : Nat) (w : World) (hl : l.length ≤ 40) (hs : MemsAt w s l) (hm : (othN node l).length = m) :
    Calls Try.prog 17 #[.agg (vC e s lv), .int .u8 node] w fun en w' => ∃ v, en = .returned v ∧ Below w.heap.size w w' ∧ ∃ a cap, v = .slice a m cap := by
  refine (Others_any e s lv l node w hl hs).mono ?_
  rintro en w' ⟨v, rfl, ho, hB⟩
  refine ⟨v, rfl, hB, ?_⟩
  rw [hm] at ho
  rcases ho.2 with ⟨rfl, h0⟩ | ⟨g, cap, cur, rfl, _⟩
  · exact ⟨none, 0, by rw [h0]⟩
  · exact ⟨_, _, rfl⟩
/-- The law's second loop: the members are looked at one by one. -/
def ChainLoop2 (w : World) (V e : Nat) (s : Value) (lv : Lv) (l : List Mem) (last i : Value) (wr : World) : Prop :=
  ∃ j : Nat, j ≤ l.length ∧ i = .int .i64 j ∧ last = .int .u8 (prevN l j) ∧ Blk wr V (vC e s lv) 28 ∧ MemsAt wr s l ∧ Below w.heap.size w wr
/-- The law's first loop: the view in block V. -/
def ChainLoop (w : World) (V len : Nat) (i : Value) (wr : World) : Prop :=
  ∃ (k : Nat) (v : Vw) (a : Option Addr) (cap : Nat), i = .int .i64 k ∧ k ≤ len ∧ k ≤ 30 ∧ v.e ≤ k + 1 ∧ Good v ∧ Blk wr V (vC v.e (.slice a v.l.length cap) v.lv) 28 ∧ MemsAt wr (.slice a v.l.length cap) v.l ∧ Below w.heap.size w wr
set_option maxRecDepth 20000 in
set_option maxHeartbeats 4000000 in
theorem chain_walk (n : Nat) (a : Option Addr) (len cap : Nat) (z : Nat → Cmd) (w : World) (hn : n < 256) (hlen : len ≤ maxLen) (hrow : RowC w a len z) :
    Calls Try.prog 5 #[.int .u8 n, .slice a len cap] w fun e w' => e = .returned (.bool true) ∧ Below w.heap.size w w' := by
  unfold maxLen at hlen
  have HR := Lib.hid hrow
  clear hrow
  go_enter Try.func5, Try.ntmps5
  go_wp2_with fail
  refine (speaks_any _).mono ?_
  rintro en w1 ⟨rfl, hB⟩
  have HB := Lib.hid hB
  clear hB
  obtain ⟨v0, hv0⟩ : ∃ v, firstV (1 + n % 8) = v := ⟨_, rfl⟩
  have hfir := first_is (1 + n % 8) _ w1 (by omega) (by omega) hv0
  rw [show ((1 + n % 8 : Nat) : Int) = 1 + (n : Int) % 8 by omega] at hfir
  have HF := Lib.hid hfir
  have HG := Lib.hid (good_first (n := 1 + n % 8) (by omega) (by omega))
  have HE := Lib.hid (epoch_first (1 + n % 8))
  rw [hv0] at HG HE
  clear hfir hv0
  go_wp2_with (refine HF.out.mono ?_; rintro en w2 ⟨s2, rfl, hM, hB⟩; obtain ⟨a2, c2, hs2⟩ := hM.len; subst hs2; have HM2 := Lib.hid hM; have HB2 : Hid (Below w.heap.size w w2) := Lib.hid (m_below_on HB.out hB); clear hM hB)
  have hV : w.heap.size ≤ w2.heap.size := HB2.out.size
  have HST : Hid (ChainLoop w w2.heap.size len (.int .i64 0) (w2.alloc (.cells (vC v0.e (.slice a2 v0.l.length c2) v0.lv) 28))) :=
    Lib.hid ⟨0, v0, a2, c2, rfl, by omega, by omega, HE.out, HG.out, Blk.new rfl, HM2.out.al _, by have := HB2.out; go_grown⟩
  obtain ⟨V, hVE⟩ : ∃ V, V = w2.heap.size := ⟨_, rfl⟩
  rw [← hVE] at HST hV
  simp only [← hVE]
  clear hVE
  unfold vC at HST
  generalize w2.alloc _ = w3 at HST ⊢
  go_loopw [7] (fun i wr => ChainLoop w V len i wr) (fun i _ => 30 - (intOf i).toNat)
  case atStart => exact HST.out
  case round =>
    obtain ⟨k, v, a3, c3, rfl, hk, hk30, he, hg, hv, hm, hb⟩ := hrel
    have HE := Lib.hid he
    have HG := Lib.hid hg
    have HV := Lib.hid hv
    have HM := Lib.hid hm
    have HB3 := Lib.hid hb
    clear he hg hv hm hb HST HF HM2 HB2
    by_cases hlk : k < len ∧ k < 30
    · obtain ⟨hlt, hk3⟩ := hlk
      obtain ⟨b, off, rfl, q0, q1, q2, q3, q4, qf⟩ := HR.out k hlt
      have hbw := World.block_lt_of_cell? _ _ q0
      simp only at hbw
      have q0 := (HB3.out.cell (p := ⟨b, off + k * 5, none⟩) hbw).trans q0
      have q1 := (HB3.out.cell (p := ⟨b, off + k * 5 + 1, none⟩) hbw).trans q1
      have q2 := (HB3.out.cell (p := ⟨b, off + k * 5 + 2, none⟩) hbw).trans q2
      have q3 := (HB3.out.cell (p := ⟨b, off + k * 5 + 3, none⟩) hbw).trans q3
      have q4 := (HB3.out.cell (p := ⟨b, off + k * 5 + 4, none⟩) hbw).trans q4
      generalize z k = c at *
      obtain ⟨ck, cn, cl, ce, cr⟩ := c
      simp only at q0 q1 q2 q3 q4
      have QF := Lib.hid qf
      clear qf
      obtain ⟨d0, d1, d2, d3, d4, d5, d6, d7, d8, d9⟩ := HV.out.ten
      have hl40 : v.l.length ≤ 40 := by have := HG.out.len; omega
      have he32 : v.e < 4294967296 := by have := HE.out; omega
      have HG' := Lib.hid (good_apply HG.out QF.out)
      have HE' := Lib.hid (epoch_apply (c := ⟨ck, cn, cl, ce, cr⟩) HE.out)
      obtain ⟨R, hR⟩ : ∃ R, Vw.apply v ⟨ck, cn, cl, ce, cr⟩ = R := ⟨_, rfl⟩
      have HRR := Lib.hid hR
      rw [hR] at HG' HE'
      clear hR
      obtain ⟨⟨e', lv', l'⟩, ok⟩ := R
      obtain ⟨e, lv, l⟩ := v
      simp only at *
      have hVw : V < wr.heap.size := HV.out.lt
      go_wp2_with fail
      go_region_with ((go_at_call 9; (with_reducible refine (apply_is _ e lv l ck cn cl ce cr _ _ hl40 (HM.out.on (by go_grown)) he32 QF.out HRR.out).mono ?_); rintro en w4 ⟨s4, rfl, hM4, hB4⟩; obtain ⟨a4, c4, hs4⟩ := hM4.len; subst hs4; simp only at hM4 hB4; have HM4 := Lib.hid hM4; have hv4 := HV.out.on (Below.trans (by go_grown) (hB4.mono (by simp))); have HB4 : Hid (Below w.heap.size w w4) := Lib.hid (HB3.out.trans (Below.trans (by go_grown) (hB4.mono (by have := HB3.out.size; simp; omega)))); clear hM4 hB4 q0 q1 q2 q3 q4 d0 d1 d2 d3 d4 d5 d6 d7 d8 d9; obtain ⟨d0, d1, d2, d3, d4, d5, d6, d7, d8, d9⟩ := hv4.ten; have f0 := hv4.frozen 0; have f1 := hv4.frozen 1; have f2 := hv4.frozen 2; have f3 := hv4.frozen 3; have f4 := hv4.frozen 4; have f5 := hv4.frozen 5; have f6 := hv4.frozen 6; have f7 := hv4.frozen 7; have f8 := hv4.frozen 8; have f9 := hv4.frozen 9; have HV4 := Lib.hid hv4; clear hv4))
      all_goals
        obtain ⟨wf, hwf⟩ : ∃ wf, wf = (((((((((w4.setCell ⟨V, 0, none⟩ (.int .u32 e')).setCell ⟨V, 1, none⟩ (.slice a4 l'.length c4)).setCell ⟨V, 2, none⟩ (.int .u8 lv'.a)).setCell ⟨V, 3, none⟩ (.int .u8 lv'.b)).setCell ⟨V, 4, none⟩ (.int .u8 lv'.c)).setCell ⟨V, 5, none⟩ (.int .u8 lv'.d)).setCell ⟨V, 6, none⟩ (.int .u8 lv'.e)).setCell ⟨V, 7, none⟩ (.int .u8 lv'.f)).setCell ⟨V, 8, none⟩ (.int .u8 lv'.g)).setCell ⟨V, 9, none⟩ (.int .u8 lv'.h) := ⟨_, rfl⟩
        rw [← hwf]
        obtain ⟨hF, hFB, hFs, hFo⟩ := fill_view HV4.out e' a4 lv' wf hwf
        have HREL : Hid (ChainLoop w V len (.int .i64 (k + 1)) wf) := Lib.hid ⟨k + 1, ⟨e', lv', l'⟩, a4, c4, by go_num, by omega, by omega, HE'.out, HG'.out, hF, HM4.out.but HV4.out (by omega) (fun k _ hk => hFo k hk), HB4.out.trans (hFB.mono hV)⟩
        clear hwf hF hFB hFs hFo d0 d1 d2 d3 d4 d5 d6 d7 d8 d9 f0 f1 f2 f3 f4 f5 f6 f7 f8 f9
        go_wp2_with fail
        go_roundw
        case rel => exact HREL.out
        case measure => simp [intOf]; omega
    · have hcase : (¬ k < len) ∨ (k < len ∧ ¬ k < 30) := by omega
      clear hlk
      obtain ⟨e, lv, l⟩ := v
      simp only at *
      clear HE HR
      rcases hcase with hc | ⟨hc, hc2⟩
      all_goals
        go_wp2_with fail
        obtain ⟨m, hm⟩ : ∃ m, m = l.length := ⟨_, rfl⟩
        rw [← hm] at HV HM
        have HN := Lib.hid hm
        clear hm
        go_loopw [8, 9] (fun s8 s9 wx => ChainLoop2 w V e (.slice a3 m c3) lv l s8 s9 wx) (fun _ i _ => m - (intOf i).toNat)
        case atStart => exact ⟨0, by omega, rfl, rfl, HV.out, HM.out, HB3.out⟩
        case round =>
          obtain ⟨j, hj, rfl, rfl, hv, hmm, hb⟩ := hrel
          rw [← HN.out] at hj
          clear HV HM HB3
          have HV := Lib.hid hv
          have HM := Lib.hid hmm
          have HB3 := Lib.hid hb
          clear hv hmm hb
          by_cases hjm : j < m
          · have hjl : j < l.length := by rw [← HN.out]; exact hjm
            obtain ⟨g, off, cg, hsg, hgw, hcells⟩ := HM.out.form (by omega)
            simp only [Value.slice.injEq] at hsg
            obtain ⟨rfl, hml, rfl⟩ := hsg
            clear hml
            obtain ⟨q0, q1, q2⟩ := hcells j hjl
            have hnx : j + 1 < m → wr.cell? ⟨g, off + (j + 1) * 3, none⟩ = some (.int .u8 (nodeAt l (j + 1))) := fun h => by
              rw [nodeAt_lt (by rw [← HN.out]; exact h)]
              exact (hcells (j + 1) (by rw [← HN.out]; exact h)).1
            have hnz : ¬ j + 1 < m → nodeAt l (j + 1) = 0 := fun h => nodeAt_ge (by rw [← HN.out]; exact h)
            have hidx := good_node HG.out hjl
            have hboth := good_both HG.out hjl
            have hoth := good_others HG.out hjl
            have hrange := HG.out.range l[j] (List.getElem_mem _)
            have hstepP : prevN l (j + 1) = l[j].n := by rw [prevN, if_pos (by omega), Nat.add_sub_cancel, nodeAt_lt hjl]
            simp only at hidx hboth hoth hrange
            obtain ⟨mb, hmb⟩ : ∃ x, x = l[j] := ⟨_, rfl⟩
            rw [← hmb] at q0 q1 q2 hidx hboth hoth hrange hstepP
            clear hmb
            obtain ⟨nd, lf, rd⟩ := mb
            simp only at q0 q1 q2 hidx hboth hoth hrange hstepP
            obtain ⟨r1, r2, r3, r4⟩ := hrange
            obtain ⟨q, rfl⟩ : ∃ q, nd = q + 1 := ⟨nd - 1, by omega⟩
            rw [Nat.add_sub_cancel] at r4
            have HIX := Lib.hid hidx
            have HBO := Lib.hid hboth
            have HOT := Lib.hid hoth
            have HSP := Lib.hid hstepP
            have HNX := Lib.hid hnx
            have HNZ := Lib.hid hnz
            have HJL := Lib.hid hjl
            have HQ := Lib.hid (And.intro q0 (And.intro q1 q2))
            have d1 := HV.out.cell 1
            simp at d1
            obtain ⟨d0, _, d2, d3, d4, d5, d6, d7, d8, d9⟩ := HV.out.ten
            have HLF := Lib.hid r4
            clear hidx hboth hoth hstepP hnx hnz hjl hcells q1 q2 r4
            obtain ⟨P, hP⟩ : ∃ P, P = prevN l j := ⟨_, rfl⟩
            rw [← hP]
            have HP := Lib.hid hP
            clear hP
            have hl40 : l.length ≤ 40 := by have := HG.out.len; simp only at this; omega
            have hE := Ends_yes e (.slice (some ⟨g, off, none⟩) m c3) lv l (q + 1) j wr hl40 HM.out HIX.out HJL.out
            rw [← HP.out, show ((q + 1 : Nat) : Int) = (q : Int) + 1 from rfl] at hE
            have HEN := Lib.hid hE
            clear hE
            go_wp2_with fail
            with_reducible refine HEN.out.mono ?_
            rintro en w5 ⟨rfl, hB5⟩
            have HV5 := Lib.hid (HV.out.on hB5)
            have HM5 := Lib.hid (HM.out.on hB5)
            have HB5 := Lib.hid (m_below_on HB3.out hB5)
            have x0 := (hB5.cell (p := ⟨g, off + j * 3, none⟩) hgw).trans HQ.out.1
            have x1 := (hB5.cell (p := ⟨g, off + j * 3 + 1, none⟩) hgw).trans HQ.out.2.1
            have hnx5 : j + 1 < m → w5.cell? ⟨g, off + (j + 1) * 3, none⟩ = some (.int .u8 (nodeAt l (j + 1))) := fun h => (hB5.cell (p := ⟨g, off + (j + 1) * 3, none⟩) hgw).trans (HNX.out h)
            have HNX5 := Lib.hid hnx5
            clear hB5 hnx5 q0 d0 d1 d2 d3 d4 d5 d6 d7 d8 d9 HV HM HB3 HEN HNX HQ
            have HV := Lib.hid HV5.out
            obtain ⟨N, hN⟩ : ∃ N, N = nodeAt l (j + 1) := ⟨_, rfl⟩
            rw [← hN] at HNX5 HNZ ⊢
            clear hN
            have hm40 : m ≤ 40 := by rw [HN.out]; exact hl40
            have d1 := HV5.out.cell 1
            have dq := HV5.out.cell (2 + q)
            rw [vC_get _ _ _ (by omega), HLF.out] at dq
            simp at d1
            by_cases hj1 : j + 1 < m
            · have y0 := HNX5.out hj1
              go_upto_region 19 with fail
              obtain ⟨M, hM⟩ : ∃ M, M = m - 1 := ⟨_, rfl⟩
              have hMi : ((M : Int) != (m : Int) - 1) = false := by rw [hM]; simp; omega
              have HOM : Hid ((othN (q + 1) l).length = M) := Lib.hid (by rw [HOT.out, hM, HN.out])
              clear hM
              have d0 := onto_cell HV5.out.ten.1
              have d1 := onto_cell d1
              have d2 := onto_cell HV5.out.ten.2.2.1
              have d3 := onto_cell HV5.out.ten.2.2.2.1
              have d4 := onto_cell HV5.out.ten.2.2.2.2.1
              have d5 := onto_cell HV5.out.ten.2.2.2.2.2.1
              have d6 := onto_cell HV5.out.ten.2.2.2.2.2.2.1
              have d7 := onto_cell HV5.out.ten.2.2.2.2.2.2.2.1
              have d8 := onto_cell HV5.out.ten.2.2.2.2.2.2.2.2.1
              have d9 := onto_cell HV5.out.ten.2.2.2.2.2.2.2.2.2
              have dq := onto_cell dq
              have x1 := onto_cell x1
              clear x0
              refine wp_region_loose (fun w' => ∃ z, w' = onto w5 z) (fun f _ v => (f = 17 ∧ ∃ a cap, v = .slice a M cap) ∨ (f = 18 ∧ v = .bool true)) (by kernel_rfl) (by kernel_rfl) ⟨_, onto_of (Below.drew (Below.refl _ _))⟩ ?_
              repeat (refine lWalk_plain rfl ?_; go_big_quiet_step (fail); refine wpQuiet_nil ?_)
              refine lWalk_call 17 #[.agg (vC e (.slice (some ⟨g, off, none⟩) m c3) lv), .int .u8 (q + 1)] (by rfl) (run_call rfl (enters_fn Try.func17 (by kernel_rfl) rfl) _ (by simp [Act.eval])) ?_ ?_
              · rintro w' ⟨z', rfl⟩
                refine (others_is e _ lv l (q + 1) M _ hl40 (HM5.out.on (onto_below _ _)) HOM.out).mono ?_
                rintro en w'' ⟨v, rfl, hb, hv⟩
                exact ⟨v, rfl, ⟨w'', onto_of (m_below_on (onto_below _ _) hb)⟩, .inl ⟨rfl, hv⟩⟩
              · rintro v (⟨_, a', cap', rfl⟩ | ⟨h, _⟩)
                · simp only [Act.put, List.setIfInBounds_toArray, List.set_cons_zero, List.set_cons_succ]
                  repeat (refine lWalk_plain rfl ?_; go_big_quiet_step (fail); refine wpQuiet_nil ?_)
                  refine lWalk_call 18 #[.agg (vC e (.slice (some ⟨g, off, none⟩) m c3) lv), .int .u8 (q + 1), .int .u8 lf] (by rfl) (run_call rfl (enters_fn Try.func18 (by kernel_rfl) rfl) _ (by simp [Act.eval])) ?_ ?_
                  · rintro w' ⟨z', rfl⟩
                    refine (has_is e _ lv l (q + 1) lf j _ hl40 (HM5.out.on (onto_below _ _)) HBO.out).mono ?_
                    rintro en w'' ⟨rfl, hb⟩
                    exact ⟨_, rfl, ⟨w'', onto_of (m_below_on (onto_below _ _) hb)⟩, .inr ⟨rfl, rfl⟩⟩
                  · rintro v (⟨h, _⟩ | ⟨_, rfl⟩)
                    · exact absurd h (by decide)
                    · simp only [Act.put, List.setIfInBounds_toArray, List.set_cons_zero, List.set_cons_succ]
                      repeat (refine lWalk_plain rfl ?_; go_big_quiet_step (fail); refine wpQuiet_nil ?_)
                      refine lWalk_nil ?_
                      rintro w' ⟨z', rfl⟩
                      have HREL : Hid (ChainLoop2 w V e (.slice (some ⟨g, off, none⟩) m c3) lv l (.int .u8 (q + 1)) (.int .i64 (j + 1)) (onto w5 z')) := Lib.hid ⟨j + 1, by have := HJL.out; omega, by go_num, by rw [HSP.out]; go_num, HV5.out.on (onto_below _ _), HM5.out.on (onto_below _ _), m_below_on HB5.out (onto_below _ _)⟩
                      clear d0 d1 d2 d3 d4 d5 d6 d7 d8 d9 dq x1 hMi
                      generalize onto w5 z' = w6 at *
                      go_wp2_with fail
                      go_roundw
                      case rel => exact HREL.out
                      case measure => simp [intOf]; omega
                · exact absurd h (by decide)
            · have hN0 := HNZ.out hj1
              subst hN0
              go_upto_region 19 with fail
              obtain ⟨M, hM⟩ : ∃ M, M = m - 1 := ⟨_, rfl⟩
              have hMi : ((M : Int) != (m : Int) - 1) = false := by rw [hM]; simp; omega
              have HOM : Hid ((othN (q + 1) l).length = M) := Lib.hid (by rw [HOT.out, hM, HN.out])
              clear hM
              have d0 := onto_cell HV5.out.ten.1
              have d1 := onto_cell d1
              have d2 := onto_cell HV5.out.ten.2.2.1
              have d3 := onto_cell HV5.out.ten.2.2.2.1
              have d4 := onto_cell HV5.out.ten.2.2.2.2.1
              have d5 := onto_cell HV5.out.ten.2.2.2.2.2.1
              have d6 := onto_cell HV5.out.ten.2.2.2.2.2.2.1
              have d7 := onto_cell HV5.out.ten.2.2.2.2.2.2.2.1
              have d8 := onto_cell HV5.out.ten.2.2.2.2.2.2.2.2.1
              have d9 := onto_cell HV5.out.ten.2.2.2.2.2.2.2.2.2
              have dq := onto_cell dq
              have x1 := onto_cell x1
              clear x0
              refine wp_region_loose (fun w' => ∃ z, w' = onto w5 z) (fun f _ v => (f = 17 ∧ ∃ a cap, v = .slice a M cap) ∨ (f = 18 ∧ v = .bool true)) (by kernel_rfl) (by kernel_rfl) ⟨_, onto_of (Below.drew (Below.refl _ _))⟩ ?_
              repeat (refine lWalk_plain rfl ?_; go_big_quiet_step (fail); refine wpQuiet_nil ?_)
              refine lWalk_call 17 #[.agg (vC e (.slice (some ⟨g, off, none⟩) m c3) lv), .int .u8 (q + 1)] (by rfl) (run_call rfl (enters_fn Try.func17 (by kernel_rfl) rfl) _ (by simp [Act.eval])) ?_ ?_
              · rintro w' ⟨z', rfl⟩
                refine (others_is e _ lv l (q + 1) M _ hl40 (HM5.out.on (onto_below _ _)) HOM.out).mono ?_
                rintro en w'' ⟨v, rfl, hb, hv⟩
                exact ⟨v, rfl, ⟨w'', onto_of (m_below_on (onto_below _ _) hb)⟩, .inl ⟨rfl, hv⟩⟩
              · rintro v (⟨_, a', cap', rfl⟩ | ⟨h, _⟩)
                · simp only [Act.put, List.setIfInBounds_toArray, List.set_cons_zero, List.set_cons_succ]
                  repeat (refine lWalk_plain rfl ?_; go_big_quiet_step (fail); refine wpQuiet_nil ?_)
                  refine lWalk_call 18 #[.agg (vC e (.slice (some ⟨g, off, none⟩) m c3) lv), .int .u8 (q + 1), .int .u8 lf] (by rfl) (run_call rfl (enters_fn Try.func18 (by kernel_rfl) rfl) _ (by simp [Act.eval])) ?_ ?_
                  · rintro w' ⟨z', rfl⟩
                    refine (has_is e _ lv l (q + 1) lf j _ hl40 (HM5.out.on (onto_below _ _)) HBO.out).mono ?_
                    rintro en w'' ⟨rfl, hb⟩
                    exact ⟨_, rfl, ⟨w'', onto_of (m_below_on (onto_below _ _) hb)⟩, .inr ⟨rfl, rfl⟩⟩
                  · rintro v (⟨h, _⟩ | ⟨_, rfl⟩)
                    · exact absurd h (by decide)
                    · simp only [Act.put, List.setIfInBounds_toArray, List.set_cons_zero, List.set_cons_succ]
                      repeat (refine lWalk_plain rfl ?_; go_big_quiet_step (fail); refine wpQuiet_nil ?_)
                      refine lWalk_nil ?_
                      rintro w' ⟨z', rfl⟩
                      have HREL : Hid (ChainLoop2 w V e (.slice (some ⟨g, off, none⟩) m c3) lv l (.int .u8 (q + 1)) (.int .i64 (j + 1)) (onto w5 z')) := Lib.hid ⟨j + 1, by have := HJL.out; omega, by go_num, by rw [HSP.out]; go_num, HV5.out.on (onto_below _ _), HM5.out.on (onto_below _ _), m_below_on HB5.out (onto_below _ _)⟩
                      clear d0 d1 d2 d3 d4 d5 d6 d7 d8 d9 dq x1 hMi
                      generalize onto w5 z' = w6 at *
                      go_wp2_with fail
                      go_roundw
                      case rel => exact HREL.out
                      case measure => simp [intOf]; omega
                · exact absurd h (by decide)
          · have hP1 : 1 ≤ prevN l j := by
              have hj2 := HN.out
              have hpos : 0 < l.length := by
                have := HG.out.ready
                have h2 := readyN_le l
                simp only at this
                omega
              have hjj : j = l.length := by omega
              subst hjj
              rw [prevN, if_pos hpos, nodeAt_lt (by omega)]
              exact (HG.out.range l[l.length - 1] (List.getElem_mem _)).1
            generalize prevN l j = P at hP1 ⊢
            have hP2 : ¬ (P : Int) = 0 := by omega
            have d1 := HV.out.cell 1
            simp at d1
            go_wp2
            go_ret
            exact ⟨rbool (by simp; omega), HB3.out⟩
end Go.Proofs.Ytkgahhfemlebmaa
