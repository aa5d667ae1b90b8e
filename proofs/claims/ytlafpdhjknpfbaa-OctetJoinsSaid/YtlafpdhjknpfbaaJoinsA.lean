/-
  The law OctetJoins returns true: any parts are encoded as the reference says, or refused with the document's error; what may be is read again, part by part.
-/
import Derived.Test.YtlafpdhjknpfbaaJoinsL
namespace Go.Proofs.Ytlafpdhjknpfbaa
open Go.RowKit Go.Instr

set_option maxRecDepth 100000 in
set_option maxHeartbeats 4000000 in
theorem joins_any (a1 : Option Addr) (n cap : Nat) (z : Nat → LawV) (w : World) (hn : n ≤ maxLen)
    (hrow : ∀ k, k < n → ∃ b off, a1 = some ⟨b, off, none⟩ ∧ w.cell? ⟨b, off + k * 4, none⟩ = some (.int .i64 (z k).k) ∧ w.cell? ⟨b, off + k * 4 + 1, none⟩ = some (.int .i64 (z k).z) ∧ w.cell? ⟨b, off + k * 4 + 2, none⟩ = some (.int .u64 (z k).n) ∧ w.cell? ⟨b, off + k * 4 + 3, none⟩ = some (.string (z k).s) ∧ (z k).n ≤ 18446744073709551615 ∧ (z k).s.size ≤ maxLen) :
    Calls Try.prog 3 #[.slice a1 n cap] w fun e w' => e = .returned (.bool true) ∧ Below w.heap.size w w' := by
  unfold maxLen at hn
  have HR := Lib.hid hrow
  clear hrow
  obtain ⟨iA, hiA, hzA0, hzA1, hzA2⟩ := info_parts Try.info30
  obtain ⟨iB, hiB, hzB0, hzB1, hzB2⟩ := info_parts Try.info31
  have HIA := Lib.hid hiA
  have HZA0 := Lib.hid hzA0
  have HZA1 := Lib.hid hzA1
  have HZA2 := Lib.hid hzA2
  have HIB := Lib.hid hiB
  have HZB0 := Lib.hid hzB0
  have HZB1 := Lib.hid hzB1
  have HZB2 := Lib.hid hzB2
  clear hiA hzA0 hzA1 hzA2 hiB hzB0 hzB1 hzB2
  go_enter Try.func3, Try.ntmps3
  go_wp2_with (first | (go_at_call 10; refine (speaks1 _).mono ?_; rintro e w1 ⟨rfl, hB1⟩))
  have HB1 := Lib.hid hB1
  clear hB1
  go_loopw [3, 4, 5] (fun av bv i wr => ∃ (k : Nat) (l : List RefV), k ≤ 20 ∧ k ≤ n ∧ i = .int .i64 k ∧ l.length = k ∧ (∀ q ∈ l, q.fine) ∧ wr.ownsRow w.heap.size 30 4 av k (pRow l) ∧ wr.ownsRow w.heap.size 31 4 bv k (qRow l) ∧ Below w.heap.size w wr) (fun _ _ i _ => (n - (intOf i).toNat))
  case atStart => exact ⟨0, [], by omega, by omega, rfl, rfl, by simp, World.ownsRow_nil _ _ _ _, World.ownsRow_nil _ _ _ _, HB1.out⟩
  case round =>
    obtain ⟨k, l, hk20, hkn, rfl, hll, hlf, howna, hownb, hB⟩ := hrel
    have HA := Lib.hid howna
    have HBR := Lib.hid hownb
    have HB := Lib.hid hB
    have HLL := Lib.hid hll
    have HLF := Lib.hid hlf
    clear howna hownb hB hll hlf
    by_cases hlt : k < n ∧ k < 20
    · obtain ⟨hlt1, hlt2⟩ := hlt
      obtain ⟨b, off, rfl, q0, q1, q2, q3, hzn, hzs⟩ := HR.out k hlt1
      generalize z k = p at *
      obtain ⟨pk, pz, pn, ps⟩ := p
      simp only at q0 q1 q2 q3 hzn hzs
      have hb0 := World.block_lt_of_cell? _ _ q0
      have c0 := (HB.out.cell (p := ⟨b, off + k * 4, none⟩) hb0).trans q0
      have c1 := (HB.out.cell (p := ⟨b, off + k * 4 + 1, none⟩) hb0).trans q1
      have c2 := (HB.out.cell (p := ⟨b, off + k * 4 + 2, none⟩) hb0).trans q2
      have c3 := (HB.out.cell (p := ⟨b, off + k * 4 + 3, none⟩) hb0).trans q3
      unfold maxLen at hzs
      clear q0 q1 q2 q3
      obtain ⟨kk, hkk⟩ : ∃ kk, kindOf pk = kk := ⟨_, rfl⟩
      have hk3 := kindOf_range pk
      rw [hkk] at hk3
      have HK3 := Lib.hid hk3
      have HKK := Lib.hid hkk
      clear hkk hk3
      have htc : ∃ t, LawV.cut ps = t ∧ t.size ≤ 300 ∧ ((300 < ps.size ∧ ps.extract 0 300 = t) ∨ (ps.size ≤ 300 ∧ t = ps)) := by
        by_cases h : 300 < ps.size
        · exact ⟨ps.extract 0 300, if_pos h, by simp; omega, .inl ⟨h, rfl⟩⟩
        · exact ⟨ps, if_neg h, by omega, .inr ⟨by omega, rfl⟩⟩
      obtain ⟨t, htc, hts, htt⟩ := htc
      have HTC := Lib.hid htc
      clear htc
      obtain ⟨⟨gk, gn, gz, gs⟩, hP⟩ : ∃ P, RefV.part ⟨kk, pz, pn, t⟩ = P := ⟨_, rfl⟩
      have HP := Lib.hid hP
      clear hP
      have HNA : Hid (∀ j, wr.heap.size ≤ j → some j ≠ u3.ownBlock) := fun j hj he => by have := (HA.out.lt j he.symm).2; omega
      rcases htt with ⟨hcut, hct⟩ | ⟨hcut, rfl⟩
      all_goals
        go_wp2_with (first | (go_at_call 11; refine (told_is _ _ _ _ kk gk gn gz gs _ HKK.out HP.out).mono ?_; rintro e w5 ⟨rfl, hB5⟩; have HB5 := Lib.hid hB5; clear hB5))
        try clear hct
        clear c0 c1 c2 c3
        have HBx := Lib.hid (o_below_on (HB.out.alloc HB.out.size _) HB5.out)
        have HAx := Lib.hid (own_below (HA.out.alloc _) HB5.out)
        have HRx := Lib.hid (own_below (HBR.out.alloc _) HB5.out)
        have a0 : ((w5.alloc (.cells #[.int .i64 gk, .int .u64 gn, .int .i64 gz, .string gs] 30)).alloc (.cells #[.int .i64 kk, .int .i64 pz, .int .u64 pn, .string t] 31)).cell? ⟨w5.heap.size, 0, none⟩ = some (.int .i64 gk) := by simp
        have a1 : ((w5.alloc (.cells #[.int .i64 gk, .int .u64 gn, .int .i64 gz, .string gs] 30)).alloc (.cells #[.int .i64 kk, .int .i64 pz, .int .u64 pn, .string t] 31)).cell? ⟨w5.heap.size, 1, none⟩ = some (.int .u64 gn) := by simp
        have a2 : ((w5.alloc (.cells #[.int .i64 gk, .int .u64 gn, .int .i64 gz, .string gs] 30)).alloc (.cells #[.int .i64 kk, .int .i64 pz, .int .u64 pn, .string t] 31)).cell? ⟨w5.heap.size, 2, none⟩ = some (.int .i64 gz) := by simp
        have a3 : ((w5.alloc (.cells #[.int .i64 gk, .int .u64 gn, .int .i64 gz, .string gs] 30)).alloc (.cells #[.int .i64 kk, .int .i64 pz, .int .u64 pn, .string t] 31)).cell? ⟨w5.heap.size, 3, none⟩ = some (.string gs) := by simp
        have b0 : ((w5.alloc (.cells #[.int .i64 gk, .int .u64 gn, .int .i64 gz, .string gs] 30)).alloc (.cells #[.int .i64 kk, .int .i64 pz, .int .u64 pn, .string t] 31)).cell? ⟨w5.heap.size + 1, 0, none⟩ = some (.int .i64 kk) := by simp
        have b1 : ((w5.alloc (.cells #[.int .i64 gk, .int .u64 gn, .int .i64 gz, .string gs] 30)).alloc (.cells #[.int .i64 kk, .int .i64 pz, .int .u64 pn, .string t] 31)).cell? ⟨w5.heap.size + 1, 1, none⟩ = some (.int .i64 pz) := by simp
        have b2 : ((w5.alloc (.cells #[.int .i64 gk, .int .u64 gn, .int .i64 gz, .string gs] 30)).alloc (.cells #[.int .i64 kk, .int .i64 pz, .int .u64 pn, .string t] 31)).cell? ⟨w5.heap.size + 1, 2, none⟩ = some (.int .u64 pn) := by simp
        have b3 : ((w5.alloc (.cells #[.int .i64 gk, .int .u64 gn, .int .i64 gz, .string gs] 30)).alloc (.cells #[.int .i64 kk, .int .i64 pz, .int .u64 pn, .string t] 31)).cell? ⟨w5.heap.size + 1, 3, none⟩ = some (.string t) := by simp
        have HBq := Lib.hid ((HBx.out.alloc HBx.out.size (.cells #[.int .i64 gk, .int .u64 gn, .int .i64 gz, .string gs] 30)).alloc (by have := HBx.out.size; simp; omega) (.cells #[.int .i64 kk, .int .i64 pz, .int .u64 pn, .string t] 31))
        have HAq := Lib.hid ((HAx.out.alloc (.cells #[.int .i64 gk, .int .u64 gn, .int .i64 gz, .string gs] 30)).alloc (.cells #[.int .i64 kk, .int .i64 pz, .int .u64 pn, .string t] 31))
        have HRq := Lib.hid ((HRx.out.alloc (.cells #[.int .i64 gk, .int .u64 gn, .int .i64 gz, .string gs] 30)).alloc (.cells #[.int .i64 kk, .int .i64 pz, .int .u64 pn, .string t] 31))
        have HN2 : Hid (some (w5.heap.size + 1) ≠ u3.ownBlock) := HNA.out _ (by have := HB5.out.size; simp at this; omega)
        have HSr : Hid (wr.heap.size ≤ ((w5.alloc (.cells #[.int .i64 gk, .int .u64 gn, .int .i64 gz, .string gs] 30)).alloc (.cells #[.int .i64 kk, .int .i64 pz, .int .u64 pn, .string t] 31)).heap.size) := by have := HB5.out.size; simp at this; unfold Hid; simp; omega
        have HSq := Lib.hid HBq.out.size
        have hl1 : w5.heap.size < ((w5.alloc (.cells #[.int .i64 gk, .int .u64 gn, .int .i64 gz, .string gs] 30)).alloc (.cells #[.int .i64 kk, .int .i64 pz, .int .u64 pn, .string t] 31)).heap.size := by simp; omega
        have hl2 : w5.heap.size + 1 < ((w5.alloc (.cells #[.int .i64 gk, .int .u64 gn, .int .i64 gz, .string gs] 30)).alloc (.cells #[.int .i64 kk, .int .i64 pz, .int .u64 pn, .string t] 31)).heap.size := by simp
        clear HBx HAx HRx HB5
        generalize (w5.alloc (.cells #[.int .i64 gk, .int .u64 gn, .int .i64 gz, .string gs] 30)).alloc (.cells #[.int .i64 kk, .int .i64 pz, .int .u64 pn, .string t] 31) = wq at *
        generalize w5.heap.size + 1 = B2 at *
        generalize w5.heap.size = B1 at *
        go_region_law (first | (refine step_append_own rfl (.tmp 44) (.tmp 46) 24 rfl w.heap.size 30 iA (.agg #[.int .i64 0, .int .u64 0, .int .i64 0, .string ByteArray.empty]) 4 40 Try.underlying24 HIA.out HZA0.out HZA1.out HZA2.out rfl (by decide) u3 k _ rfl (own_below HAq.out (by go_grown)) _ 1 1 [.int .i64 gk, .int .u64 gn, .int .i64 gz, .string gs] rfl rfl (news4 (by simp [go_sem]) (by simp [go_sem]) (by simp [go_sem]) (by simp [go_sem])) (oneCells4 _ _ _ _ rfl rfl rfl rfl) (by unfold maxLen; omega) (by omega) (by have := HSq.out; simp; omega) ?_; intro va w3 hownA hgrA _hnilA; have HOA := Lib.hid hownA; have HB3 := Lib.hid (below_app HBq.out (by go_grown) hgrA (fun j hj => (HAq.out.lt j hj).1)); have d0 := cell_kept b0 (by go_grown) hgrA HN2.out; have d1 := cell_kept b1 (by go_grown) hgrA HN2.out; have d2 := cell_kept b2 (by go_grown) hgrA HN2.out; have d3 := cell_kept b3 (by go_grown) hgrA HN2.out; have HOB := Lib.hid ((own_below HRq.out (by go_grown)).kept hgrA (own_disj HRq.out HAq.out (by decide))); have HGA := Lib.hid hgrA; clear hownA hgrA _hnilA) | (refine step_append_own rfl (.tmp 48) (.tmp 50) 25 rfl w.heap.size 31 iB (.agg #[.int .i64 0, .int .i64 0, .int .u64 0, .string ByteArray.empty]) 4 40 Try.underlying25 HIB.out HZB0.out HZB1.out HZB2.out rfl (by decide) u4 k _ rfl (own_below HOB.out (by go_grown)) _ 1 1 [.int .i64 kk, .int .i64 pz, .int .u64 pn, .string t] rfl rfl (news4 (by first | (simp [go_sem]; done) | exact HGA.out.cell (by simp [go_sem]) (HNA.out _ (by have := HSr.out; simp; omega))) (by first | (simp [go_sem]; done) | exact HGA.out.cell (by simp [go_sem]) (HNA.out _ (by have := HSr.out; simp; omega))) (by first | (simp [go_sem]; done) | exact HGA.out.cell (by simp [go_sem]) (HNA.out _ (by have := HSr.out; simp; omega))) (by first | (simp [go_sem]; done) | exact HGA.out.cell (by simp [go_sem]) (HNA.out _ (by have := HSr.out; simp; omega)))) (oneCells4 _ _ _ _ rfl rfl rfl rfl) (by unfold maxLen; omega) (by omega) (by have := HB3.out.size; simp; omega) ?_; intro vb w4 hownB hgrB _hnilB; have HOB4 := Lib.hid hownB; have HOA4 := Lib.hid ((own_below HOA.out (by go_grown)).kept hgrB (own_disj HOA.out HOB.out (by decide))); have HB4 := Lib.hid (below_app HB3.out (by go_grown) hgrB (fun j hj => (HOB.out.lt j hj).1)); clear hownB hgrB _hnilB))
        all_goals
          go_wp2
          go_roundw
          case rel => exact ⟨k + 1, l ++ [⟨kk, pz, pn, t⟩], by omega, by omega, by go_num, by rw [List.length_append, HLL.out]; rfl, fine_snoc HLF.out ⟨HK3.out, hzn, hts⟩, by rw [pRow_snoc l _ _ HP.out]; exact HOA4.out, by rw [qRow_snoc]; exact HOB4.out, HB4.out⟩
          case measure => simp [intOf]; omega
    · have hgu : n ≤ k ∨ (k < n ∧ 20 ≤ k) := by omega
      clear hlt
      obtain ⟨S, hS⟩ : ∃ S, joinS (parts l) = S := ⟨_, rfl⟩
      obtain ⟨E, hE⟩ : ∃ E, joinE (parts l) = E := ⟨_, rfl⟩
      have HS := Lib.hid hS
      have HE := Lib.hid hE
      clear hS hE
      by_cases hE0 : E = 0
      · subst hE0
        have HSD : Hid (S.data.toList = encs (parts l)) := by rw [← HS.out, joinS, if_pos HE.out]; exact rfl
        have HCK : Hid (∀ p ∈ parts l, chk p = 0) := joinE_all HE.out
        rcases HBR.out.2 with ⟨hv, hk0⟩ | ⟨g, cap4, cur4, hv, _⟩
        · subst hv
          have hl0 : l = [] := List.eq_nil_of_length_eq_zero (by rw [HLL.out]; exact hk0)
          have hSe : S = ⟨#[]⟩ := Go.WideShapes.bytes_inj (HSD.out.trans (by rw [hl0]; rfl))
          subst hSe
          clear hl0 hk0
          rcases hgu with hgu | ⟨hgu1, hgu2⟩
          all_goals
            go_wp2_with (first | (go_at_call 12; refine (join_is _ l k ⟨#[]⟩ 0 _ _ HA.out HLL.out hk20 HLF.out HS.out HE.out).mono ?_; rintro e w6 ⟨rfl, hB6⟩; have HB6 := Lib.hid hB6; clear hB6) | (go_at_call 13; refine (refJoin_is _ l k ⟨#[]⟩ 0 _ _ (own_below HBR.out HB6.out) HLL.out hk20 HLF.out HS.out HE.out).mono ?_; rintro e w7 ⟨rfl, hB7⟩; have HB7 := Lib.hid hB7; clear hB7) | (go_at_call 14; refine (read_any _ _).mono ?_; rintro e w8 ⟨rfl, rfl⟩))
            have HRD : Hid (ReaderAt (w7.alloc (.cells #[.string ⟨#[]⟩, .int .i64 0] 68)) w7.heap.size ⟨#[]⟩ 0) := heap_alloc_new _ _
            refine wp_loop_rounds 1 ?_
            rw [rounds_succ]
            go_wp2_with (first | (go_at_call 18; refine (left_zero _ _ HRD.out).mono ?_; rintro e w9 ⟨rfl, rfl⟩) | (go_at_call 19; refine (end_zero _ _ HRD.out).mono ?_; rintro e w9 ⟨rfl, rfl⟩))
            go_ret
            exact ⟨rfl, (o_below_on (o_below_on HB.out HB6.out) HB7.out).alloc (by have := (o_below_on (o_below_on HB.out HB6.out) HB7.out).size; omega) _⟩
        · subst hv
          rcases hgu with hgu | ⟨hgu1, hgu2⟩
          all_goals
            go_wp2_with (first | (go_at_call 12; refine (join_is _ l k S 0 _ _ HA.out HLL.out hk20 HLF.out HS.out HE.out).mono ?_; rintro e w6 ⟨rfl, hB6⟩; have HB6 := Lib.hid hB6; clear hB6) | (go_at_call 13; refine (refJoin_is _ l k S 0 _ _ (own_below HBR.out HB6.out) HLL.out hk20 HLF.out HS.out HE.out).mono ?_; rintro e w7 ⟨rfl, hB7⟩; have HB7 := Lib.hid hB7; clear hB7) | (go_at_call 14; refine (read_any _ _).mono ?_; rintro e w8 ⟨rfl, rfl⟩))
            have HRD : Hid (ReaderAt (w7.alloc (.cells #[.string S, .int .i64 0] 68)) w7.heap.size S 0) := heap_alloc_new _ _
            have HOB := Lib.hid ((own_below (own_below HBR.out HB6.out) HB7.out).alloc (.cells #[.string S, .int .i64 0] 68))
            have HBz := Lib.hid ((o_below_on (o_below_on HB.out HB6.out) HB7.out).alloc (by have := (o_below_on (o_below_on HB.out HB6.out) HB7.out).size; omega) (.cells #[.string S, .int .i64 0] 68))
            have HGB : Hid ((Value.slice (some ⟨g, 0, none⟩) k cap4).ownBlock ≠ some w7.heap.size) := fun he => by
              have h1 := (HBR.out.lt _ he).2
              have h2 := HB6.out.size
              have h3 := HB7.out.size
              omega
            have HGN : Hid (some g ≠ some w7.heap.size) := fun he => HGB.out (by rw [← he]; rfl)
            have HWB : Hid (w.heap.size ≤ w7.heap.size) := (o_below_on (o_below_on HB.out HB6.out) HB7.out).size
            clear HB6 HB7
            generalize w7.alloc (.cells #[.string S, .int .i64 0] 68) = wz at *
            generalize w7.heap.size = B at *
            go_loopw [14] (fun i wx => ∃ (j : Nat) (rs : ByteArray), j ≤ k ∧ i = .int .i64 j ∧ ReaderAt wx B rs 0 ∧ rs.data.toList = encs (parts (l.drop j)) ∧ wx.ownsRow w.heap.size 31 4 (.slice (some ⟨g, 0, none⟩) k cap4) k (qRow l) ∧ Below w.heap.size w wx) (fun i _ => (k - (intOf i).toNat))
            case atStart => exact ⟨0, S, by omega, rfl, HRD.out, HSD.out, HOB.out, HBz.out⟩
            case round =>
              obtain ⟨j, rs, hjk, rfl, hrd, hrs, hown, hbel⟩ := hrel
              have HR' := Lib.hid hrd
              have HD := Lib.hid hrs
              have HO' := Lib.hid hown
              have HB' := Lib.hid hbel
              clear hrd hrs hown hbel HRD HOB HBz
              have hsz : rs.size ≤ 1000000 := by
                have h1 := encs_len (l := parts (l.drop j)) (fun p hp => parts_fine (fun q hq => HLF.out q (List.mem_of_mem_drop hq)) p hp) (fun p hp => HCK.out p (by
                  obtain ⟨q, hq, rfl⟩ := List.mem_map.1 hp
                  exact List.mem_map.2 ⟨q, List.mem_of_mem_drop hq, rfl⟩))
                have h2 : (parts (l.drop j)).length ≤ 20 := by simp only [parts, List.length_map, List.length_drop]; have := HLL.out; omega
                have h3 : rs.data.toList.length = rs.size := rfl
                have h4 := congrArg List.length HD.out
                omega
              by_cases hlt : j < k
              · have hjl : j < l.length := by rw [HLL.out]; exact hlt
                have hqf := HLF.out l[j] (List.getElem_mem hjl)
                have hqc := HCK.out l[j].part (List.mem_map.2 ⟨l[j], List.getElem_mem hjl, rfl⟩)
                have hcell : ∀ c, c < 4 → (qRow l)[j * 4 + c]? = (qCells l[j])[c]? := fun c hc => flat4 _ (fun _ => rfl) l j c hjl hc
                have c0 := own_cell HO'.out (hcell 0 (by decide))
                have c1 := own_cell HO'.out (hcell 1 (by decide))
                have c2 := own_cell HO'.out (hcell 2 (by decide))
                have c3 := own_cell HO'.out (hcell 3 (by decide))
                have hdr := HD.out.trans (encs_drop hjl)
                generalize l[j] = q at *
                obtain ⟨qk, qz, qn, qs⟩ := q
                obtain ⟨hk3, hqn, hqs⟩ := hqf
                simp only [Nat.zero_add, Nat.add_zero] at c0 c1 c2 c3 hk3 hqn hqs
                obtain ⟨rest, hrest⟩ : ∃ rest, encs (parts (l.drop (j + 1))) = rest := ⟨_, rfl⟩
                rw [hrest] at hdr
                have HRE := Lib.hid hrest
                clear hrest hcell
                have hkc : qk = 0 ∨ qk = 1 ∨ qk = 2 ∨ qk = 3 := by omega
                have c0' : wr.cell? ⟨g, j * 4, none⟩ = some (.int .i64 qk) := c0
                have c1' : wr.cell? ⟨g, j * 4 + 1, none⟩ = some (.int .i64 qz) := c1
                have c2' : wr.cell? ⟨g, j * 4 + 2, none⟩ = some (.int .u64 qn) := c2
                have c3' : wr.cell? ⟨g, j * 4 + 3, none⟩ = some (.string qs) := c3
                clear c0 c1 c2 c3
                rcases hkc with rfl | rfl | rfl | rfl
                · exfalso; rw [chk_none] at hqc; exact absurd hqc (by decide)
                · have hfz : fitsZ qn qz = true := by
                    rw [chk_num] at hqc
                    cases h : fitsZ qn qz with
                    | true => rfl
                    | false => rw [h] at hqc; exact absurd hqc (by decide)
                  obtain ⟨hs1, hs2⟩ : sizedB qz = true ∧ fitsB qn qz.toNat = true := by unfold fitsZ at hfz; rw [Bool.and_eq_true] at hfz; exact hfz
                  have hz2 : 1 ≤ qz ∧ qz ≤ 8 := by simpa [sizedB] using hs1
                  obtain ⟨m, rfl⟩ := Int.eq_ofNat_of_zero_le (show 0 ≤ qz by omega)
                  rw [enc_num, Int.toNat_natCast] at hdr
                  have hnm : qn < 256 ^ m := by unfold fitsB at hs2; rw [Int.toNat_natCast] at hs2; exact of_decide_eq_true hs2
                  have HNM := Lib.hid hnm
                  have HDR := Lib.hid hdr
                  have hm1 : 1 ≤ m := by omega
                  have hm8 : m ≤ 8 := by omega
                  clear hqc hfz hs1 hs2 hz2 hnm hdr
                  go_wp2
                  go_region_with (go_at_call 15; refine (rd_num wr.drew HR'.out hsz HDR.out hm1 hm8 HNM.out).mono ?_; rintro e w9 ⟨rfl, hR9, hG9⟩; have e2 := hG9.cell (a := ⟨g, j * 4 + 2, none⟩) c2' HGN.out)
                  all_goals
                    go_wp2
                    go_roundw
                    case rel => exact ⟨j + 1, ⟨rest.toArray⟩, by omega, by go_num, hR9, HRE.out.symm, own_kept HO'.out.drew hG9 rfl HGB.out, below_grown HB'.out.drew hG9 HWB.out⟩
                    case measure => simp [intOf]; omega
                · have hs255 : qs.size ≤ 255 := by
                    rw [chk_text] at hqc
                    rcases Nat.lt_or_ge 255 qs.size with h | h
                    · rw [if_pos h] at hqc; exact absurd hqc (by decide)
                    · exact h
                  rw [enc_text] at hdr
                  have HDR := Lib.hid hdr
                  clear hqc hdr
                  go_wp2
                  go_region_with (go_at_call 16; refine (rd_text wr.drew HR'.out hsz HDR.out hs255).mono ?_; rintro e w9 ⟨rfl, hR9, hG9⟩; have e3 := hG9.cell (a := ⟨g, j * 4 + 3, none⟩) c3' HGN.out)
                  all_goals
                    go_wp2
                    go_roundw
                    case rel => exact ⟨j + 1, ⟨rest.toArray⟩, by omega, by go_num, hR9, HRE.out.symm, own_kept HO'.out.drew hG9 rfl HGB.out, below_grown HB'.out.drew hG9 HWB.out⟩
                    case measure => simp [intOf]; omega
                · rw [enc_raw] at hdr
                  have HDR := Lib.hid hdr
                  clear hqc hdr
                  go_wp2
                  go_region_with (go_at_call 17; refine (rd_raw wr.drew HR'.out hsz HDR.out).mono ?_; rintro e w9 ⟨rfl, hR9, hG9⟩; have e3 := hG9.cell (a := ⟨g, j * 4 + 3, none⟩) c3' HGN.out)
                  all_goals
                    go_wp2
                    go_roundw
                    case rel => exact ⟨j + 1, ⟨rest.toArray⟩, by omega, by go_num, hR9, HRE.out.symm, own_kept HO'.out.drew hG9 rfl HGB.out, below_grown HB'.out.drew hG9 HWB.out⟩
                    case measure => simp [intOf]; omega
              · obtain rfl : j = k := by omega
                have hnil : rs = ⟨#[]⟩ := by
                  apply Go.WideShapes.bytes_inj
                  rw [HD.out, List.drop_of_length_le (by rw [HLL.out]; exact Nat.le_refl _)]
                  rfl
                subst hnil
                go_wp2_with (first | (go_at_call 18; refine (left_zero _ _ HR'.out).mono ?_; rintro e w9 ⟨rfl, rfl⟩) | (go_at_call 19; refine (end_zero _ _ HR'.out).mono ?_; rintro e w9 ⟨rfl, rfl⟩))
                go_ret
                exact ⟨rfl, HB'.out⟩
      · have hEb : (E == 0) = false := by simpa using hE0
        clear hE0
        rcases hgu with hgu | ⟨hgu1, hgu2⟩
        all_goals
          go_wp2_with (first | (go_at_call 12; refine (join_is _ l k S E _ _ HA.out HLL.out hk20 HLF.out HS.out HE.out).mono ?_; rintro e w6 ⟨rfl, hB6⟩; have HB6 := Lib.hid hB6; clear hB6) | (go_at_call 13; refine (refJoin_is _ l k S E _ _ (own_below HBR.out HB6.out) HLL.out hk20 HLF.out HS.out HE.out).mono ?_; rintro e w7 ⟨rfl, hB7⟩; have HB7 := Lib.hid hB7; clear hB7))
          go_ret
          exact ⟨rfl, o_below_on (o_below_on HB.out HB6.out) HB7.out⟩
end Go.Proofs.Ytlafpdhjknpfbaa
