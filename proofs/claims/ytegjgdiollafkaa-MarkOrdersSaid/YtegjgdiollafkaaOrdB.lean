/-
  The law MarkOrders returns true: the walk.
-/
import Derived.Test.YtegjgdiollafkaaOrdA
namespace Go.Proofs.Ytegjgdiollafkaa
open Go.RowKit Go.Instr

set_option maxRecDepth 20000 in
set_option maxHeartbeats 4000000 in
theorem orders_walk (n b l m c k : Nat) (a2 : Option Addr) (len cap : Nat) (z : Nat → S) (w : World) (hf : S.fine ⟨n, b, l⟩) (hf' : S.fine ⟨m, c, k⟩) (_hlen : len ≤ maxLen) (hrow : RowAt w a2 len z) :
    Calls Try.prog 3 #[.agg #[.int .u32 n, .int .u8 b, .int .u8 l], .agg #[.int .u32 m, .int .u8 c, .int .u8 k], .slice a2 len cap] w fun e w' => e = .returned (.bool true) ∧ Below w.heap.size w w' := by
  unfold maxLen at _hlen
  have HF := Lib.hid hf
  have HF' := Lib.hid hf'
  have HR := Lib.hid hrow
  clear hf hf' hrow
  have HBX : Hid (Duo ((w.alloc (.cells #[.int .u32 n, .int .u8 b, .int .u8 l] 24)).alloc (.cells #[.int .u32 m, .int .u8 c, .int .u8 k] 24)) 24 w.heap.size (w.heap.size + 1) ⟨n, b, l⟩ ⟨m, c, k⟩) := ⟨Blk.alloc (Blk.new rfl) _, Blk.new (by simp)⟩
  go_enter Try.func3, Try.ntmps3
  go_upto_region 3 with (go_at_call 6; refine (speaks_any _).mono ?_; rintro e w1 ⟨rfl, hB⟩; have HT := Lib.hid (HBX.out.on hB); have HB1 : Hid (Below w.heap.size w w1) := m_below_on (by go_grown) hB; clear hB)
  clear HBX
  generalize w.heap.size = X at HT ⊢
  obtain ⟨x0, x1, x2, y0, y1, y2⟩ := HT.out.cells
  have hX1 : X + 1 < w1.heap.size := HT.out.2.lt
  go_cut [7, 8] (fun s7 s8 wx => ∃ A B : Nat, s7 = .pointer (some ⟨A, 0, none⟩) ∧ s8 = .pointer (some ⟨B, 0, none⟩) ∧ Duo wx 24 X (X + 1) ⟨n, b, l⟩ ⟨m, c, k⟩ ∧ Duo wx 30 A B ⟨n, b, l⟩ ⟨m, c, k⟩ ∧ Below w.heap.size w wx)
  case first =>
    go_region_held3 (fun w' => w'.cell? ⟨X, 0, none⟩ = some (.int .u32 n) ∧ w'.cell? ⟨X, 1, none⟩ = some (.int .u8 b) ∧ w'.cell? ⟨X, 2, none⟩ = some (.int .u8 l) ∧ w'.cell? ⟨X + 1, 0, none⟩ = some (.int .u32 m) ∧ w'.cell? ⟨X + 1, 1, none⟩ = some (.int .u8 c) ∧ w'.cell? ⟨X + 1, 2, none⟩ = some (.int .u8 k))
      ((refine Duo.cells (T := 24) (a := ⟨n, b, l⟩) (b := ⟨m, c, k⟩) ?_; repeat (first | exact HT.out | refine Duo.dr ?_ | refine Duo.al ?_ _)))
      (first | (go_at_call 7; (with_reducible refine (told_ex _ _ _ _).mono ?_); rintro e w2 ⟨rfl, rfl⟩))
    all_goals
      go_wp2_with fail
      go_meet
      refine ⟨_, _, rfl, rfl, ?_, ⟨?_, ?_⟩, ?_⟩
      · repeat (first | exact HT.out | refine Duo.dr ?_ | refine Duo.al ?_ _)
      · repeat (first | (refine Blk.new ?_; simp; done) | refine Blk.dr ?_ | refine Blk.alloc ?_ _)
      · repeat (first | (refine Blk.new ?_; simp; done) | refine Blk.dr ?_ | refine Blk.alloc ?_ _)
      · have := HB1.out
        have hsz := HB1.out.size
        go_grown
  case rest =>
    obtain ⟨A, B, rfl, rfl, hT, hP, hB⟩ := hcut
    clear HT HB1 x0 x1 x2 y0 y1 y2 hX1
    have HT := Lib.hid hT
    have HP := Lib.hid hP
    have HB := Lib.hid hB
    obtain ⟨x0, x1, x2, y0, y1, y2⟩ := hT.cells
    have hX0 : X < wc.heap.size := hT.1.lt
    have hX1 : X + 1 < wc.heap.size := hT.2.lt
    clear hT hP hB
    generalize X + 1 = Y at *
    have nX : X ≠ wc.heap.size := by omega
    have nY : Y ≠ wc.heap.size := by omega
    have nX1 : X ≠ wc.heap.size + 1 := by omega
    have nY1 : Y ≠ wc.heap.size + 1 := by omega
    go_upto_region 4 with fail
    go_cut [9, 10] (fun s9 s10 wx => ∃ C D : Nat, s9 = .pointer (some ⟨C, 0, none⟩) ∧ s10 = .pointer (some ⟨D, 0, none⟩) ∧ Duo wx 24 X Y ⟨n, b, l⟩ ⟨m, c, k⟩ ∧ Duo wx 30 A B ⟨n, b, l⟩ ⟨m, c, k⟩ ∧ Duo wx 32 C D ⟨n, b, l⟩ ⟨m, c, k⟩ ∧ Below w.heap.size w wx)
    case first =>
      go_region
      all_goals
        go_wp2_with fail
        go_meet
        refine ⟨_, _, rfl, rfl, ?_, ?_, ⟨?_, ?_⟩, ?_⟩
        · (repeat (first | (with_reducible exact HT.out) | (with_reducible refine Duo.dr ?_) | (with_reducible refine Duo.al ?_ _)))
        · (repeat (first | (with_reducible exact HP.out) | (with_reducible refine Duo.dr ?_) | (with_reducible refine Duo.al ?_ _)))
        · (repeat (first | ((with_reducible refine Blk.new ?_); simp; done) | (with_reducible refine Blk.dr ?_) | (with_reducible refine Blk.alloc ?_ _)))
        · (repeat (first | ((with_reducible refine Blk.new ?_); simp; done) | (with_reducible refine Blk.dr ?_) | (with_reducible refine Blk.alloc ?_ _)))
        · have := HB.out
          have hsz := HB.out.size
          go_grown
    case rest =>
      obtain ⟨C, D, rfl, rfl, hT, hP, hC, hB⟩ := hcut
      clear HT HP HB x0 x1 x2 y0 y1 y2 hX0 hX1 nX nY nX1 nY1
      have HB := Lib.hid hB
      have HC := Lib.hid hC
      go_upto_region 5 with fail
      go_cut [67] (fun s67 wx => s67 = .bool false ∧ Below w.heap.size w wx)
      case first =>
        obtain ⟨q0, q1, q2, r0, r1, r2⟩ := hT.cells
        obtain ⟨p0, p1, p2, t0, t1, t2⟩ := hP.cells
        obtain ⟨c0, c1, c2, d0, d1, d2⟩ := hC.cells
        have q0 := onto_cell q0
        have q1 := onto_cell q1
        have r0 := onto_cell r0
        have r1 := onto_cell r1
        have p0 := onto_cell p0
        have p1 := onto_cell p1
        have p2 := onto_cell p2
        have t0 := onto_cell t0
        have t1 := onto_cell t1
        have t2 := onto_cell t2
        have c0 := onto_cell c0
        have c1 := onto_cell c1
        have c2 := onto_cell c2
        have d0 := onto_cell d0
        have d1 := onto_cell d1
        have d2 := onto_cell d2
        obtain ⟨u, hu⟩ : ∃ u, stLt ⟨n, b, l⟩ ⟨m, c, k⟩ = u := ⟨_, rfl⟩
        obtain ⟨v, hv⟩ : ∃ v, markLt ⟨n, b, 0⟩ ⟨m, c, 0⟩ = v := ⟨_, rfl⟩
        have hv' : stLt ⟨n, b, 0⟩ ⟨m, c, 0⟩ = v := by rw [← hv]; exact st_mark n b m c
        obtain ⟨o, ho⟩ : ∃ o, decide (n = 0 ∧ b = 0) = o := ⟨_, rfl⟩
        have HU := Lib.hid hu
        have HV := Lib.hid hv
        have HV' := Lib.hid hv'
        have HO := Lib.hid ho
        have hF0 := Lib.hid (show S.fine ⟨n, b, 0⟩ from ⟨HF.out.1, HF.out.2.1, (by decide : 0 < 256)⟩)
        have hF1 := Lib.hid (show S.fine ⟨m, c, 0⟩ from ⟨HF'.out.1, HF'.out.2.1, (by decide : 0 < 256)⟩)
        have huu : (u != u) = false := by simp
        have hvv : (v != v) = false := by simp
        clear hu hv hv' hT hP hC hB
        by_cases hn : n = 0
        · subst hn
          have ho2 : decide (b = 0) = o := by rw [← ho]; simp
          have hoo : (o != decide ((b : Int) = 0)) = false := by rw [← ho2]; simp
          have ho3 : ((b : Int) == 0) = o := by rw [← ho2, Bool.eq_iff_iff]; simp
          clear ho ho2
          refine wp_region_onto (by kernel_rfl) (by kernel_rfl) ?_
          repeat (go_big_quiet_step ((first | (go_at_call 8; exact onto_calls (less_is _ _ _ _ _ _ u _ HU.out)) | (go_at_call 9; first | exact onto_calls (refLess_is _ _ _ _ _ _ u _ HF.out HF'.out HU.out) | exact onto_calls (refLess_is _ _ 0 _ _ 0 v _ hF0.out hF1.out HV'.out)) | (go_at_call 10; exact onto_calls (below_is _ _ _ _ v _ HV.out)) | (go_at_call 11; exact onto_calls (none_is _ _ _ _ HO.out)))))
          refine wpQuiet_nil ?_
          intro _ hw'
          obtain ⟨z', hw''⟩ := hw'
          subst hw''
          clear q0 q1 r0 r1 p0 p1 p2 t0 t1 t2 c0 c1 c2 d0 d1 d2
          go_wp2_with fail
          go_meet
          exact ⟨by first | rfl | (simp only [Value.bool.injEq]; rw [← ho3]; simp), m_below_on HB.out (onto_below wc z')⟩
        · have ho2 : false = o := by rw [← ho]; simp [hn]
          subst ho2
          have hn2 : ¬ (n : Int) = 0 := by omega
          have hn3 : ((n : Int) == 0) = false := by simpa using hn
          clear ho
          refine wp_region_onto (by kernel_rfl) (by kernel_rfl) ?_
          repeat (go_big_quiet_step ((first | (go_at_call 8; exact onto_calls (less_is _ _ _ _ _ _ u _ HU.out)) | (go_at_call 9; first | exact onto_calls (refLess_is _ _ _ _ _ _ u _ HF.out HF'.out HU.out) | exact onto_calls (refLess_is _ _ 0 _ _ 0 v _ hF0.out hF1.out HV'.out)) | (go_at_call 10; exact onto_calls (below_is _ _ _ _ v _ HV.out)) | (go_at_call 11; exact onto_calls (none_is _ _ _ _ HO.out)))))
          refine wpQuiet_nil ?_
          intro _ hw'
          obtain ⟨z', hw''⟩ := hw'
          subst hw''
          clear q0 q1 r0 r1 p0 p1 p2 t0 t1 t2 c0 c1 c2 d0 d1 d2
          go_wp2_with fail
          go_meet
          exact ⟨rfl, m_below_on HB.out (onto_below wc z')⟩
      case rest =>
        obtain ⟨rfl, hb⟩ := hcut
        have HB2 := Lib.hid hb
        clear hb hT hP hC hB HC HB
        go_wp2_with fail
        go_loopw [11, 12, 13, 14, 15] (fun s11 s12 s13 s14 i wr => OrdLoop w len s11 s12 s13 s14 i wr) (fun _ _ _ _ i _ => (len - (intOf i).toNat))
        case atStart => exact ⟨0, [], Nat.zero_le _, by decide, rfl, rfl, by simp, World.ownsRow_nil _ _ _ _, World.ownsRow_nil _ _ _ _, World.ownsRow_nil _ _ _ _, World.ownsRow_nil _ _ _ _, .inl rfl, HB2.out⟩
        case round =>
          obtain ⟨j, lz, hj, hj20, rfl, hll, hlf, hst⟩ := hrel
          have HST := Lib.hid hst
          have HLL := Lib.hid hll
          have HLF := Lib.hid hlf
          clear hst hll hlf HB2
          by_cases hlt : j < len ∧ j < 20
          · obtain ⟨hlt1, hlt2⟩ := hlt
            obtain ⟨bb, off, rfl, q0, q1, q2, hzf⟩ := HR.out j hlt1
            have HZF := Lib.hid hzf
            generalize z j = p at *
            obtain ⟨pn, pb, pl⟩ := p
            simp only at q0 q1 q2
            have HB := Lib.hid HST.out.2.2.2.2.2
            have c0 := (HB.out.cell (World.block_lt_of_cell? _ _ q0)).trans q0
            have c1 := (HB.out.cell (World.block_lt_of_cell? _ _ q1)).trans q1
            have c2 := (HB.out.cell (World.block_lt_of_cell? _ _ q2)).trans q2
            have Q0 := Lib.hid q0
            have Q1 := Lib.hid q1
            have Q2 := Lib.hid q2
            clear q0 q1 q2 hzf
            go_upto_region 13 with fail
            obtain ⟨iA, hiA, hzA0, hzA1, hzA2⟩ := info_parts Try.info30
            obtain ⟨iB, hiB, hzB0, hzB1, hzB2⟩ := info_parts Try.info40
            have HIA := Lib.hid hiA
            have HZA0 := Lib.hid hzA0
            have HZA1 := Lib.hid hzA1
            have HZA2 := Lib.hid hzA2
            have HIB := Lib.hid hiB
            have HZB0 := Lib.hid hzB0
            have HZB1 := Lib.hid hzB1
            have HZB2 := Lib.hid hzB2
            clear hiA hzA0 hzA1 hzA2 hiB hzB0 hzB1 hzB2
            have HNA : Hid (∀ k, wr.heap.size ≤ k → some k ≠ u11.ownBlock) := fun k hk he => by have := (HST.out.1.lt k he.symm).2; omega
            have HNB : Hid (∀ k, wr.heap.size ≤ k → some k ≠ u12.ownBlock) := fun k hk he => by have := (HST.out.2.1.lt k he.symm).2; omega
            have hbl := World.block_lt_of_cell? _ _ c0
            simp only at hbl
            have f30 := field30 pn pb pl
            go_cut [11, 12] (fun s11 s12 wx => Own4 w wx s11 (j + 1) (sRow (lz ++ [⟨pn, pb, pl⟩])) s12 (j + 1) (bRow (lz ++ [⟨pn, pb, pl⟩])) u13 j (sRow lz) u14 j (oRow lz))
            case first =>
              go_region_held3 (fun w' => w'.cell? ⟨bb, off + j * 3, none⟩ = some (.int .u32 pn) ∧ w'.cell? ⟨bb, off + j * 3 + 1, none⟩ = some (.int .u8 pb) ∧ w'.cell? ⟨bb, off + j * 3 + 2, none⟩ = some (.int .u8 pl)) ((refine ⟨?_, ?_, ?_⟩ <;> repeat (first | (with_reducible assumption) | (with_reducible refine cell_dr ?_) | (with_reducible refine cell_al ?_ _))))
                (first
                  | (go_at_call 7; (with_reducible refine (told_ex _ _ _ _).mono ?_); rintro e w2 ⟨rfl, rfl⟩)
                  | (refine step_append_lies _ rfl (.tmp 78) (.tmp 84) 36 rfl w.heap.size 30 iA (.agg #[.int .u32 0, .int .u8 0, .int .u8 0]) 3 12 Try.underlying36 HIA.out HZA0.out HZA1.out HZA2.out rfl (by decide) u11 j _ rfl (HST.out.on (by go_grown)).1 _ 1 1 [.int .u32 pn, .int .u8 pb, .int .u8 pl] rfl rfl (news3 (by first | (simp [go_sem]; done) | exact HGB.out.cell (by simp [go_sem]) (HNB.out _ (by first | omega | (simp; done) | (simp; omega)))) (by first | (simp [go_sem]; done) | exact HGB.out.cell (by simp [go_sem]) (HNB.out _ (by first | omega | (simp; done) | (simp; omega)))) (by first | (simp [go_sem]; done) | exact HGB.out.cell (by simp [go_sem]) (HNB.out _ (by first | omega | (simp; done) | (simp; omega))))) (oneCells3 _ _ _ rfl rfl rfl) (by decide) (by unfold maxLen; omega) (by omega) (by have := HST.out.2.2.2.2.2.size; simp; omega) _ rfl ?_; intro gA cA w3 hownA hgA hatA hltA; have HST2 := Lib.hid ((HST.out.on (by go_grown)).app1 hownA hgA); have HGA := Lib.hid hgA; clear HST hownA hgA hatA hltA; have HST := HST2; clear HST2; have c0 := (HST.out.2.2.2.2.2.cell (World.block_lt_of_cell? _ _ Q0.out)).trans Q0.out; have c1 := (HST.out.2.2.2.2.2.cell (World.block_lt_of_cell? _ _ Q1.out)).trans Q1.out; have c2 := (HST.out.2.2.2.2.2.cell (World.block_lt_of_cell? _ _ Q2.out)).trans Q2.out)
                  | (refine step_append_lies _ rfl (.tmp 86) (.tmp 94) 37 rfl w.heap.size 40 iB (.agg #[.int .u32 0, .int .u8 0]) 2 8 Try.underlying37 HIB.out HZB0.out HZB1.out HZB2.out rfl (by decide) u12 j _ rfl (HST.out.on (by go_grown)).2.1 _ 1 1 [.int .u32 pn, .int .u8 pb] rfl rfl (news2 (by first | (simp [go_sem]; done) | exact HGA.out.cell (by simp [go_sem]) (HNA.out _ (by first | omega | (simp; done) | (simp; omega)))) (by first | (simp [go_sem]; done) | exact HGA.out.cell (by simp [go_sem]) (HNA.out _ (by first | omega | (simp; done) | (simp; omega))))) (oneCells2 _ _ rfl rfl) (by decide) (by unfold maxLen; omega) (by omega) (by have := HST.out.2.2.2.2.2.size; simp; omega) _ rfl ?_; intro gB cB w4 hownB hgB hatB hltB; have HST2 := Lib.hid ((HST.out.on (by go_grown)).app2 hownB hgB); have HGB := Lib.hid hgB; clear HST hownB hgB hatB hltB; have HST := HST2; clear HST2; have c0 := (HST.out.2.2.2.2.2.cell (World.block_lt_of_cell? _ _ Q0.out)).trans Q0.out; have c1 := (HST.out.2.2.2.2.2.cell (World.block_lt_of_cell? _ _ Q1.out)).trans Q1.out; have c2 := (HST.out.2.2.2.2.2.cell (World.block_lt_of_cell? _ _ Q2.out)).trans Q2.out))
              all_goals
                go_wp2_with fail
                go_meet
                rw [sRow_snoc, bRow_snoc]
                exact HST.out.on (by go_grown)
            case rest =>
              clear HST HB HNA HNB hbl f30 c0 c1 c2 HIB HZB0 HZB1 HZB2
              have HST := Lib.hid hcut
              clear hcut
              obtain ⟨iC, hiC, hzC0, hzC1, hzC2⟩ := info_parts Try.info32
              have HIC := Lib.hid hiC
              have HZC0 := Lib.hid hzC0
              have HZC1 := Lib.hid hzC1
              have HZC2 := Lib.hid hzC2
              clear hiC hzC0 hzC1 hzC2 HIA HZA0 HZA1 HZA2
              have c0 := (HST.out.2.2.2.2.2.cell (World.block_lt_of_cell? _ _ Q0.out)).trans Q0.out
              have c1 := (HST.out.2.2.2.2.2.cell (World.block_lt_of_cell? _ _ Q1.out)).trans Q1.out
              have c2 := (HST.out.2.2.2.2.2.cell (World.block_lt_of_cell? _ _ Q2.out)).trans Q2.out
              have HNC : Hid (∀ k, wc.heap.size ≤ k → some k ≠ u13.ownBlock) := fun k hk he => by have := (HST.out.2.2.1.lt k he.symm).2; omega
              have HND : Hid (∀ k, wc.heap.size ≤ k → some k ≠ u14.ownBlock) := fun k hk he => by have := (HST.out.2.2.2.1.lt k he.symm).2; omega
              go_upto_region 14 with fail
              go_region_held3 (fun w' => w'.cell? ⟨bb, off + j * 3, none⟩ = some (.int .u32 pn) ∧ w'.cell? ⟨bb, off + j * 3 + 1, none⟩ = some (.int .u8 pb) ∧ w'.cell? ⟨bb, off + j * 3 + 2, none⟩ = some (.int .u8 pl)) ((refine ⟨?_, ?_, ?_⟩ <;> repeat (first | (with_reducible assumption) | (with_reducible refine cell_dr ?_) | (with_reducible refine cell_al ?_ _))))
                (first
                  | (refine step_append_lies _ rfl (.tmp 96) (.tmp 101) 38 rfl w.heap.size 32 iC (.agg #[.int .u32 0, .int .u8 0, .int .u8 0]) 3 8 Try.underlying38 HIC.out HZC0.out HZC1.out HZC2.out rfl (by decide) u13 j _ rfl (HST.out.on (by go_grown)).2.2.1 _ 1 1 [.int .u32 pn, .int .u8 pb, .int .u8 pl] rfl rfl (news3 (by first | (simp [go_sem]; done) | exact HGD.out.cell (by simp [go_sem]) (HND.out _ (by first | omega | (simp; done) | (simp; omega)))) (by first | (simp [go_sem]; done) | exact HGD.out.cell (by simp [go_sem]) (HND.out _ (by first | omega | (simp; done) | (simp; omega)))) (by first | (simp [go_sem]; done) | exact HGD.out.cell (by simp [go_sem]) (HND.out _ (by first | omega | (simp; done) | (simp; omega))))) (oneCells3 _ _ _ rfl rfl rfl) (by decide) (by unfold maxLen; omega) (by omega) (by have := HST.out.2.2.2.2.2.size; simp; omega) _ rfl ?_; intro gC cC w3 hownC hgC hatC hltC; have HST2 := Lib.hid ((HST.out.on (by go_grown)).app3 hownC hgC hatC); have HGC := Lib.hid hgC; clear HST hownC hgC hatC hltC; have HST := HST2; clear HST2; have c0 := (HST.out.2.2.2.2.2.cell (World.block_lt_of_cell? _ _ Q0.out)).trans Q0.out; have c1 := (HST.out.2.2.2.2.2.cell (World.block_lt_of_cell? _ _ Q1.out)).trans Q1.out; have c2 := (HST.out.2.2.2.2.2.cell (World.block_lt_of_cell? _ _ Q2.out)).trans Q2.out)
                  | (refine step_append_lies _ rfl (.tmp 103) (.tmp 115) 38 rfl w.heap.size 32 iC (.agg #[.int .u32 0, .int .u8 0, .int .u8 0]) 3 8 Try.underlying38 HIC.out HZC0.out HZC1.out HZC2.out rfl (by decide) u14 j _ rfl (HST.out.on (by go_grown)).2.2.2.1 _ 1 1 [.int .u32 pn, .int .u8 pb, .int .u8 0] rfl rfl (news3 (by first | (simp [go_sem]; done) | exact HGC.out.cell (by simp [go_sem]) (HNC.out _ (by first | omega | (simp; done) | (simp; omega)))) (by first | (simp [go_sem]; done) | exact HGC.out.cell (by simp [go_sem]) (HNC.out _ (by first | omega | (simp; done) | (simp; omega)))) (by first | (simp [go_sem]; done) | exact HGC.out.cell (by simp [go_sem]) (HNC.out _ (by first | omega | (simp; done) | (simp; omega))))) (oneCells3 _ _ _ rfl rfl rfl) (by decide) (by unfold maxLen; omega) (by omega) (by have := HST.out.2.2.2.2.2.size; simp; omega) _ rfl ?_; intro gD cD w4 hownD hgD hatD hltD; have HST2 := Lib.hid ((HST.out.on (by go_grown)).app4 hownD hgD hatD); have HGD := Lib.hid hgD; clear HST hownD hgD hatD hltD; have HST := HST2; clear HST2; have c0 := (HST.out.2.2.2.2.2.cell (World.block_lt_of_cell? _ _ Q0.out)).trans Q0.out; have c1 := (HST.out.2.2.2.2.2.cell (World.block_lt_of_cell? _ _ Q1.out)).trans Q1.out; have c2 := (HST.out.2.2.2.2.2.cell (World.block_lt_of_cell? _ _ Q2.out)).trans Q2.out))
              all_goals
                go_wp2_with fail
                go_roundw
                case rel =>
                  refine ⟨j + 1, lz ++ [⟨pn, pb, pl⟩], by omega, by omega, by go_num, by rw [List.length_append, HLL.out]; rfl, fine_snoc HLF.out HZF.out, ?_⟩
                  rw [sRow_snoc, bRow_snoc, oRow_snoc] at *
                  exact HST.out.on (by go_grown)
                case measure => simp [intOf]; omega
          · have hgu : len ≤ j ∨ (j < len ∧ 20 ≤ j) := by omega
            clear hlt
            obtain ⟨⟨tn, tb, tl⟩, htop⟩ : ∃ t, topS lz = t := ⟨_, rfl⟩
            obtain ⟨⟨mn, mb, ml⟩, hmt⟩ : ∃ t, topM lz = t := ⟨_, rfl⟩
            have HTOP := Lib.hid htop
            have HMT := Lib.hid hmt
            clear htop hmt HR
            rcases hgu with hgu | ⟨hgu1, hgu2⟩
            all_goals
              go_upto_region 17 with (first
                | (go_at_call 12; (with_reducible refine Calls.mono (great_is _ lz j tn tb tl _ _ HST.out.r1 HLL.out hj20 HTOP.out) ?_); rintro e w5 ⟨rfl, hB⟩; have HST2 := Lib.hid (HST.out.on hB); clear HST hB; have HST := HST2; clear HST2)
                | (go_at_call 13; first
                    | ((with_reducible refine Calls.mono (refGreat_is _ lz j tn tb tl _ _ HST.out.r3 HLL.out hj20 HLF.out HTOP.out) ?_); rintro e w6 ⟨rfl, hB⟩; have HST2 := Lib.hid ((HST.out.on hB).on (show Below w6.heap.size w6 ((w6.alloc (.cells #[.int .u32 tn, .int .u8 tb, .int .u8 tl] 30)).alloc (.cells #[.int .u32 tn, .int .u8 tb, .int .u8 tl] 32)) from by go_grown)); have HX : Hid (Blk ((w6.alloc (.cells #[.int .u32 tn, .int .u8 tb, .int .u8 tl] 30)).alloc (.cells #[.int .u32 tn, .int .u8 tb, .int .u8 tl] 32)) w6.heap.size #[.int .u32 tn, .int .u8 tb, .int .u8 tl] 30 ∧ Blk ((w6.alloc (.cells #[.int .u32 tn, .int .u8 tb, .int .u8 tl] 30)).alloc (.cells #[.int .u32 tn, .int .u8 tb, .int .u8 tl] 32)) (w6.heap.size + 1) #[.int .u32 tn, .int .u8 tb, .int .u8 tl] 32) := ⟨Blk.alloc (Blk.new rfl) _, Blk.new (by simp)⟩; clear HST hB; have HST := HST2; clear HST2)
                    | ((with_reducible refine Calls.mono (refLow_is _ lz j mn mb ml _ _ HST.out.r4 HLL.out hj20 HLF.out HMT.out) ?_); rintro e w8 ⟨rfl, hB⟩; have HST2 := Lib.hid (HST.out.on hB); have HX2 : Hid (_ ∧ _) := ⟨HX.out.1.on hB, HX.out.2.on hB⟩; clear HX HST hB; have HST := HST2; have HX := HX2; clear HST2 HX2))
                | (go_at_call 14; (with_reducible refine Calls.mono (high_is _ lz j mn mb ml _ _ HST.out.r2 HLL.out hj20 HMT.out) ?_); rintro e w7 ⟨rfl, hB⟩; have HST2 := Lib.hid (HST.out.on hB); have HX2 : Hid (_ ∧ _) := ⟨HX.out.1.on hB, HX.out.2.on hB⟩; clear HX HST hB; have HST := HST2; have HX := HX2; clear HST2 HX2))
              have HX3 := Lib.hid (⟨(HX.out.1.alloc (.cells #[.int .u32 mn, .int .u8 mb] 40)).alloc (.cells #[.int .u32 mn, .int .u8 mb, .int .u8 0] 32), (HX.out.2.alloc (.cells #[.int .u32 mn, .int .u8 mb] 40)).alloc (.cells #[.int .u32 mn, .int .u8 mb, .int .u8 0] 32)⟩ : _ ∧ _)
              have HY : Hid (Blk ((w8.alloc (.cells #[.int .u32 mn, .int .u8 mb] 40)).alloc (.cells #[.int .u32 mn, .int .u8 mb, .int .u8 0] 32)) w8.heap.size #[.int .u32 mn, .int .u8 mb] 40 ∧ Blk ((w8.alloc (.cells #[.int .u32 mn, .int .u8 mb] 40)).alloc (.cells #[.int .u32 mn, .int .u8 mb, .int .u8 0] 32)) (w8.heap.size + 1) #[.int .u32 mn, .int .u8 mb, .int .u8 0] 32) := ⟨Blk.alloc (Blk.new rfl) _, Blk.new (by simp)⟩
              have HB9 : Hid (Below w.heap.size w ((w8.alloc (.cells #[.int .u32 mn, .int .u8 mb] 40)).alloc (.cells #[.int .u32 mn, .int .u8 mb, .int .u8 0] 32))) := m_below_on HST.out.2.2.2.2.2 (by go_grown)
              clear HST HX HTOP HMT
              generalize (w8.alloc (.cells #[.int .u32 mn, .int .u8 mb] 40)).alloc (.cells #[.int .u32 mn, .int .u8 mb, .int .u8 0] 32) = w9 at *
              generalize w6.heap.size + 1 = F at *
              generalize w6.heap.size = E at *
              generalize w8.heap.size + 1 = H at *
              generalize w8.heap.size = G at *
              have e0 := onto_cell (HX3.out.1.cell 0)
              have e1 := onto_cell (HX3.out.1.cell 1)
              have e2 := onto_cell (HX3.out.1.cell 2)
              have f0 := onto_cell (HX3.out.2.cell 0)
              have f1 := onto_cell (HX3.out.2.cell 1)
              have f2 := onto_cell (HX3.out.2.cell 2)
              have g0 := onto_cell (HY.out.1.cell 0)
              have g1 := onto_cell (HY.out.1.cell 1)
              have h0 := onto_cell (HY.out.2.cell 0)
              have h1 := onto_cell (HY.out.2.cell 1)
              clear HX3 HY
              refine wp_region_onto (by kernel_rfl) (by kernel_rfl) ?_
              repeat (go_big_quiet_step ((go_at_call 7; exact onto_calls (told_is _ _ _ _))))
              refine wpQuiet_nil ?_
              intro _ hw'
              obtain ⟨z', hw''⟩ := hw'
              subst hw''
              clear e0 e1 e2 f0 f1 f2 g0 g1 h0 h1
              go_wp2_with fail
              go_ret
              exact ⟨rfl, m_below_on HB9.out (onto_below w9 z')⟩
end Go.Proofs.Ytegjgdiollafkaa
