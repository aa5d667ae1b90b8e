/-
  The law JournalReads: the walk.
-/
import Derived.Test.YtobmfbafjpbkoaaTornM
import Derived.Deep.CutBlock
import Derived.Deep.LoopGhost
namespace Go.Proofs.Ytobmfbafjpbkoaa
open Go.RowKit Go.Instr

theorem frs_len (l : List ByteArray) : l.length * 6 ≤ (frs l).size := by
  induction l with
  | nil => simp
  | cons x l ih => rw [frs_cons, ByteArray.size_append, fr_size, List.length_cons]; omega
theorem okM : okR ⟨#[109, 111, 114, 101]⟩ := ⟨by decide, by decide⟩
theorem flip_done {W : World} {B p c : Nat} {l : List UInt8} {y : UInt8} (hA : BytesAt W B l) (hy : l[p]? = some y) (hc : c < 256) :
    BytesAt (W.setCell ⟨B, p, none⟩ (.int .u8 (bits .xor .u8 (y.toNat : Int) (c : Int)))) B (l.set p (y ^^^ UInt8.ofNat c)) := by
  have e2 : bits .xor .u8 (y.toNat : Int) (c : Int) = ((y ^^^ UInt8.ofNat c).toNat : Int) := by
    rw [u8_xor_nat _ _ y.toNat_lt hc, UInt8.toNat_xor, UInt8.toNat_ofNat', Nat.mod_eq_of_lt hc]
  rw [e2]
  have hlt : p < l.length := by
    rcases Nat.lt_or_ge p l.length with h | h
    · exact h
    · rw [List.getElem?_eq_none h] at hy; cases hy
  intro j hj
  have hj' : j < l.length := by rw [List.length_set] at hj; exact hj
  refine ⟨?_, ?_⟩
  · by_cases h : p = j
    · subst h
      rw [World.cell?_setCell_same _ _ _ (hA _ hlt).1]
      simp
    · rw [World.cell?_setCell_other _ _ _ _ (by simp), (hA j hj').1]
      simp [h]
  · rw [World.frozen?_setCell]
    exact (hA j hj').2
theorem arr_size (l : List UInt8) : (⟨l.toArray⟩ : ByteArray).size = l.length := by show l.toArray.size = _; simp
theorem arr_ok {a b : ByteArray} (h : a.data.toList = b.data.toList) : a.toList = b.toList := by rw [bext h]
/-- The same at a guarded operation, where its guard is met. -/
theorem wpList_append_src2 (w : World) {ops : Array Oper} {rest : List Oper} {o : Oper} {a : Act} {Q : Exit → Act → World → Prop} (hw : Region.wanted o (yielded ops a.tmps) = true) (s x : Operand)
    (ho : o.op = .call { callee := .builtin .append, args := #[s, x], argTypes := #[44, 44] })
    (base : Nat) (v : Value) (n : Nat) (xs : List Value) (hs : a.eval s = v) (hown : w.ownsRow base 9 1 v n xs)
    (l : List ByteArray) (vx : Value) (hx : a.eval x = vx) (hat : strR.At w vx l) (hn : n + l.length ≤ 1000000) (hbase : base ≤ w.heap.size)
    (h : ∀ v' w', w'.ownsRow base 9 1 v' (n + l.length) (xs ++ strR.row l) → w.grownBy w' v.ownBlock → wpList Try.prog ops Q rest (a.put o.dst v') w') : wpList Try.prog ops Q (o :: rest) a w :=
  wpList_step fun K hK => by
    rw [if_pos hw]
    obtain ⟨i0, hi, hz0, hz1, hz2⟩ := info_parts Try.info9
    rcases hat with ⟨rfl, rfl⟩ | ⟨b, off, cap, rfl, hb, hc⟩
    · have hrun := run_append_owned_none (P := Try.prog) (w := w) base 44 o.type 9 i0 1 Try.underlying44 hi v n xs hown
      unfold Oper.wp
      simp [execOp, ho, resolve, invoke, builtin, hs, hx, hrun, Result.andThen]
      refine hK _ _ (h v w ?_ (grown_same _ _))
      simpa [RK.row] using hown
    · refine wp_append_own w s x 44 ho base 9 i0 (.string ByteArray.empty) 1 16 Try.underlying44 hi hz0 hz1 hz2 rfl (by decide) v n xs hs hown ⟨b, off, none⟩ l.length cap (strR.row l) hx (by rw [RK.row_len]; rfl) ?_ (strR.row_ones l) (by unfold maxLen; omega) (by omega) hbase (fun v' w' h1 h2 _ => hK _ _ (h v' w' h1 h2))
      intro j u hj
      have e : (⟨b, off, none⟩ : Addr).add j = ⟨b, off + j, none⟩ := by unfold Addr.add; split <;> simp_all
      rw [e]
      exact hc j u hj
def ReadLoop (w : World) (len g : Nat) (s7 s8 : Value) (wr : World) : Prop := ∃ (k : Nat) (S : ByteArray), s8 = .int .i64 k ∧ s7 = .string S ∧ k + g = len ∧ k ≤ 9 ∧ S.size ≤ 36 * k ∧ Below w.heap.size w wr
set_option maxHeartbeats 40000000 in
set_option maxRecDepth 100000 in
theorem reads_walk (l : List ByteArray) (a1 : Option Addr) (n1 c1 : Nat) (tail : ByteArray) (at_ : Int) (c : Nat) (w : World)
    (hn1 : n1 ≤ maxLen) (hl1 : l.length = n1) (hf1 : ∀ x ∈ l, x.size ≤ maxLen) (hA1 : 0 < n1 → strR.At w (.slice a1 n1 c1) l)
    (htl : tail.size ≤ maxLen) (g1 : -9223372036854775808 ≤ at_) (g2 : at_ ≤ 9223372036854775807) (hc : c < 256) :
    Calls Try.prog 5 #[.agg #[.slice a1 n1 c1, .string tail, .int .i64 at_, .int .u8 c]] w fun e w' => e = .returned (.bool true) ∧ Below w.heap.size w w' := by
  unfold maxLen at hn1 htl
  have HA1 := Lib.hid hA1
  have HF1 := Lib.hid hf1
  have HL1 := Lib.hid hl1
  clear hA1 hf1 hl1
  go_enter Try.func5, Try.ntmps5
  go_upto_region 3 with (go_at_call 22; (refine (speaks10 _).mono ?_); rintro en w1 ⟨rfl, hB1⟩; have hv : Blk w1 w.heap.size #[.slice a1 n1 c1, .string tail, .int .i64 at_, .int .u8 c] 47 := (Blk.new rfl).on hB1; have y0 : w1.cell? ⟨w.heap.size, 0, none⟩ = some (.slice a1 n1 c1) := hv.cell 0; have y1 : w1.cell? ⟨w.heap.size, 1, none⟩ = some (.string tail) := hv.cell 1; have y2 : w1.cell? ⟨w.heap.size, 2, none⟩ = some (.int .i64 at_) := hv.cell 2; have y3 : w1.cell? ⟨w.heap.size, 3, none⟩ = some (.int .u8 c) := hv.cell 3; have HB1 : Hid (Below w.heap.size w w1) := Lib.hid (m_below_on (by go_grown) hB1); clear hB1 hv)
  go_cut [3, 4, 5, 6] (fun s3 s4 s5 s6 wx => s3 = .slice a1 n1 c1 ∧ s4 = .string tail ∧ s5 = .int .i64 at_ ∧ s6 = .int .u8 c ∧ Below w.heap.size w wx)
  case first => as_aux_lemma =>
    go_quiet (fail)
    go_wp2
    go_meet
    exact ⟨rfl, rfl, rfl, rfl, m_below_on HB1.out (below_drN4 _ _)⟩
  case rest => as_aux_lemma =>
    obtain ⟨rfl, rfl, rfl, rfl, hBa⟩ := hcut
    have HBa := Lib.hid hBa
    clear hBa y0 y1 y2 y3 HB1
    go_upto_block 0 with fail
    go_cut [7] (fun s7 wx => ∃ S : ByteArray, s7 = .string S ∧ S.size ≤ 324 ∧ Below w.heap.size w wx)
    case first => as_aux_lemma =>
      go_wp2_with fail
      go_loopg [7, 8] n1 (fun g s7 s8 wr => ReadLoop w n1 g s7 s8 wr)
      case atStart => exact ⟨0, ⟨#[]⟩, rfl, rfl, Nat.zero_add _, by decide, by decide, HBa.out⟩
      case round =>
        obtain ⟨k, S, rfl, rfl, hk, hk9, hS, hB⟩ := hrel
        have HB := Lib.hid hB
        clear hB
        by_cases hlk : k < n1 ∧ k < 9
        · obtain ⟨hlk, hk3⟩ := hlk
          have hkl : k < l.length := by rw [HL1.out]; exact hlk
          obtain ⟨b, off, cc, he, hbw, hcells⟩ := ((HA1.out (by omega)).on HB.out).form (by omega)
          simp only [Value.slice.injEq] at he
          obtain ⟨rfl, hnn, rfl⟩ := he
          clear hnn
          have x0 : wr.cell? ⟨b, off + k * 1, none⟩ = some (.string l[k]) := hcells k hkl 0 _ rfl
          rw [Nat.mul_one] at x0
          have hfx := HF1.out _ (List.getElem_mem hkl)
          unfold maxLen at hfx
          generalize l[k] = x at x0 hfx
          clear hcells
          have hda : decide ((k : Int) < (n1 : Int)) = true := by simp; omega
          have hdb : decide ((k : Int) < 9) = true := by simp; omega
          have z0 := onto_cell x0
          go_upto_region 8 with fail
          have hfs : ∀ t : ByteArray, (fr t).size = t.size + 6 := fr_size
          by_cases hx30 : x.size ≤ 30
          · have hsum : S.size + (fr x).size ≤ 9223372036854775807 := by rw [hfs]; omega
            have hsum2 : (S ++ fr x).size ≤ 36 * (k + 1) := by rw [ByteArray.size_append, hfs]; omega
            have HS2 := Lib.hid hsum2
            have HXE : Hid (x.size ≤ 2000) := Lib.hid (by omega)
            clear hfs hsum2
            refine wp_region_onto (by kernel_rfl) (by kernel_rfl) ?_
            repeat (go_big_quiet_step (first | (go_at_call 23; exact onto_calls (refFramed_any x _ HXE.out))))
            refine wpQuiet_nil ?_
            intro _ hw'
            obtain ⟨z, hw''⟩ := hw'
            subst hw''
            have HBc := Lib.hid (m_below_on HB.out (onto_below wr z))
            clear z0 x0
            generalize onto wr z = wo at *
            generalize fr x = fx at *
            go_wp2
            go_roundg (n1 - (k + 1))
            case measure => omega
            case rel => exact ⟨k + 1, S ++ fx, by go_num, rfl, by omega, by omega, HS2.out, HBc.out⟩
          · have hxe : (x.extract 0 30).size = 30 := by simp; omega
            have hsum : S.size + (fr (x.extract 0 30)).size ≤ 9223372036854775807 := by rw [hfs]; omega
            have hsum2 : (S ++ fr (x.extract 0 30)).size ≤ 36 * (k + 1) := by rw [ByteArray.size_append, hfs]; omega
            have HS2 := Lib.hid hsum2
            have HXE : Hid ((x.extract 0 30).size ≤ 2000) := Lib.hid (by omega)
            clear hfs hsum2 hxe
            refine wp_region_onto (by kernel_rfl) (by kernel_rfl) ?_
            repeat (go_big_quiet_step (first | (go_at_call 23; exact onto_calls (refFramed_any (x.extract 0 30) _ HXE.out))))
            refine wpQuiet_nil ?_
            intro _ hw'
            obtain ⟨z, hw''⟩ := hw'
            subst hw''
            have HBc := Lib.hid (m_below_on HB.out (onto_below wr z))
            clear z0 x0
            generalize onto wr z = wo at *
            generalize fr (x.extract 0 30) = fx at *
            go_wp2
            go_roundg (n1 - (k + 1))
            case measure => omega
            case rel => exact ⟨k + 1, S ++ fx, by go_num, rfl, by omega, by omega, HS2.out, HBc.out⟩
        · have hcase : (¬ k < n1) ∨ (k < n1 ∧ ¬ k < 9) := by omega
          rcases hcase with hc | ⟨hc, hc2⟩
          · have hda : decide ((k : Int) < (n1 : Int)) = false := by simp; omega
            go_wp2_with fail
            go_meet
            exact ⟨S, rfl, by omega, HB.out⟩
          · have hda : decide ((k : Int) < (n1 : Int)) = true := by simp; omega
            have hdb : decide ((k : Int) < 9) = false := by simp; omega
            go_wp2_with fail
            go_meet
            exact ⟨S, rfl, by omega, HB.out⟩
    case rest => as_aux_lemma =>
      obtain ⟨S, rfl, hS, hBb⟩ := hcut
      have HBb := Lib.hid hBb
      clear hBb HBa
      go_upto_region 9 with fail
      go_cut [7] (fun s7 wx => ∃ T : ByteArray, s7 = .string T ∧ T.size ≤ 354 ∧ wc = wx)
      case first => as_aux_lemma =>
        by_cases hx30 : tail.size ≤ 30
        · have hsum : S.size + tail.size ≤ 9223372036854775807 := by omega
          have hsum2 : (S ++ tail).size ≤ 354 := by rw [ByteArray.size_append]; omega
          have HS2 := Lib.hid hsum2
          clear hsum2
          go_wp2
          go_meet
          exact ⟨_, rfl, HS2.out, rfl⟩
        · have hxe : (tail.extract 0 30).size = 30 := by simp; omega
          have hsum : S.size + (tail.extract 0 30).size ≤ 9223372036854775807 := by omega
          have hsum2 : (S ++ tail.extract 0 30).size ≤ 354 := by rw [ByteArray.size_append]; omega
          have HS2 := Lib.hid hsum2
          clear hsum2
          go_wp2
          go_meet
          exact ⟨_, rfl, HS2.out, rfl⟩
      case rest => as_aux_lemma =>
        obtain ⟨T, rfl, hT, rfl⟩ := hcut
        clear hS
        go_upto_region 10 with fail
        have HTS : Hid (T.size ≤ 354) := Lib.hid hT
        go_cut [66] (fun s66 wx => ∃ cb : Bool, s66 = .bool cb ∧ cb = decide (0 < T.size ∧ c ≠ 0) ∧ wc = wx)
        case first => as_aux_lemma =>
          by_cases hpos : 0 < T.size
          · have d1 : decide (0 < (T.size : Int)) = true := by simp; omega
            have d1' : decide (0 < T.size) = true := by simp; omega
            by_cases hc0 : c = 0
            · have d2 : ((c : Int) != 0) = false := by simp; omega
              have HF : Hid (false = decide (0 < T.size ∧ c ≠ 0)) := Lib.hid (by simp; omega)
              clear hc0
              go_wp2
              go_meet
              exact ⟨false, rfl, HF.out, rfl⟩
            · have d2 : ((c : Int) != 0) = true := by simp; omega
              have HF : Hid (true = decide (0 < T.size ∧ c ≠ 0)) := Lib.hid (by simp; omega)
              clear hc0
              go_wp2
              go_meet
              exact ⟨true, rfl, HF.out, rfl⟩
          · have d1 : decide (0 < (T.size : Int)) = false := decide_eq_false (by omega)
            have d1' : decide (0 < T.size) = false := decide_eq_false hpos
            have HF : Hid (false = decide (0 < T.size ∧ c ≠ 0)) := Lib.hid (decide_eq_false (fun h => hpos h.1)).symm
            clear hpos
            go_wp2
            go_meet
            exact ⟨false, rfl, HF.out, rfl⟩
        case rest => as_aux_lemma =>
         obtain ⟨cb, rfl, hcb, rfl⟩ := hcut
         have HCB := Lib.hid hcb
         clear hcb
         go_upto_if 66 with fail
         go_cut [7] (fun s7 wx => ∃ U : ByteArray, s7 = .string U ∧ U.size ≤ 354 ∧ Below w.heap.size w wx)
         case first => as_aux_lemma =>
           cases cb with
           | true =>
             obtain ⟨hpos, hc0⟩ := of_decide_eq_true HCB.out.symm
             obtain ⟨Wb, cap, hconv, hB2, hA2, hsz2⟩ := conv_bytes T wc
             have HA2 := Lib.hid hA2
             have HB2 := Lib.hid hB2
             clear hA2 hB2
             obtain ⟨q, r, hq, hq1, hq2, hr, hrn⟩ := rem_pos at_ T.size hpos
             have hq' : at_.tmod (T.size : Int) = q := hq
             have hT0 : ¬ (T.size : Int) = 0 := by omega
             have hT0b : ((T.size : Int) == 0) = false := beq_eq_false_iff_ne.2 hT0
             have hrl : r < T.data.toList.length := hrn
             obtain ⟨y, hy, hcell, hfr⟩ : ∃ y : UInt8, T.data.toList[r]? = some y ∧ Wb.cell? ⟨wc.heap.size, r, none⟩ = some (.int .u8 (y.toNat : Int)) ∧ Wb.frozen? ⟨wc.heap.size, r, none⟩ = false :=
               ⟨_, List.getElem?_eq_getElem hrl, (HA2.out r hrl).1, (HA2.out r hrl).2⟩
             have hA3 := flip_done HA2.out hy hc
             have hlen : (T.data.toList.set r (y ^^^ UInt8.ofNat c)).length = T.size := by rw [List.length_set]; rfl
             have hback := conv_back _ _ cap _ hA3
             rw [hlen] at hback
             have HY := Lib.hid hy
             have HLEN := Lib.hid hlen
             clear hq hy hA3 hlen hrl
             go_wp2
             go_meet
             refine ⟨_, rfl, ?_, ?_⟩
             · have e9 : (⟨(T.data.toList.set r (y ^^^ UInt8.ofNat c)).toArray⟩ : ByteArray).size = T.size := by
                 rw [arr_size]; exact HLEN.out
               rw [e9]; exact HTS.out
             · exact (HBb.out.trans (HB2.out.mono HBb.out.size)).setCell (p := ⟨wc.heap.size, r, none⟩) HBb.out.size _
           | false =>
             go_wp2
             go_meet
             exact ⟨T, rfl, HTS.out, HBb.out⟩
         case rest => as_aux_lemma =>
           obtain ⟨U, rfl, hU, hBd⟩ := hcut
           have HBd := Lib.hid hBd
           clear hBd hT HBb HTS HCB
           have hu9 : U.size ≤ 900000 := by omega
           have HU9 := Lib.hid hu9
           have HKU : Hid ((⟨U, 0, true⟩ : Dk).ok) := Lib.hid ⟨Nat.zero_le _, by show U.size ≤ _; omega⟩
           have EU : Hid ((⟨ByteArray.empty ++ U, 0, true⟩ : Dk) = ⟨U, 0, true⟩) := Lib.hid (by rw [b_nil'])
           clear hu9
           have HBS := Lib.hid HBd.out.size
           go_upto_region 19 with (first
             | (go_at_call 9; (refine (New_disk _).mono ?_); rintro en w1 ⟨rfl, hA1, hB1, hz1⟩; have HD1 := Lib.hid hA1; have HB1 := Lib.hid hB1; have HZ1 := Lib.hid hz1; clear hA1 hB1 hz1)
             | (go_at_call 18; (refine (Append_good U HD1.out (Nat.le_refl _) (by decide) rfl (by show ByteArray.empty.size + U.size ≤ _; have : ByteArray.empty.size = 0 := rfl; omega)).mono ?_); rintro en w2 ⟨rfl, hD2, hB2, hK2⟩; have HD2 : Hid (DiskAt w2 wc.heap.size wc.heap.size ⟨U, 0, true⟩) := Lib.hid (EU.out ▸ hD2); have HB2 : Hid (Below wc.heap.size wc w2) := Lib.hid (HB1.out.trans hB2); clear hD2 hB2 hK2)
             | (go_at_call 24; (refine (refRecords_any U _ HU9.out).mono ?_); rintro en w3 ⟨v3, l3, r3, rfl, hO3, hI3, hB3⟩; have HO3 := Lib.hid hO3; have HI3 := Lib.hid hI3; have HD3 := Lib.hid (HD2.out.on hB3); have HB3 : Hid (Below wc.heap.size wc w3) := Lib.hid (HB2.out.trans (hB3.mono (by have := HB2.out.size; omega))); clear hO3 hI3 hB3)
             | (go_at_call 25; (refine (Open_on U HD3.out (Nat.le_refl _) HKU.out rfl rfl HU9.out).mono ?_); rintro en w4 ⟨J, l4, r4, rfl, hI4, hJ4, hD4, hB4, hK4, hz4⟩; obtain ⟨el, er⟩ := recs_one HI3.out hI4; subst el; have HJ4 := Lib.hid hJ4; have HD4 := Lib.hid hD4; have HO4 := Lib.hid (own_kept HO3.out hK4); have HLT := Lib.hid (own_lt HO3.out); have HB4 : Hid (Below wc.heap.size wc w4) := Lib.hid (HB3.out.trans hB4); have HZ4 := Lib.hid hz4; clear hI4 hJ4 hD4 hB4 hK4 hz4)
             | (go_at_call 20; (refine (Read_is (frs l3) HD4.out rfl rfl).mono ?_); rintro en w5 ⟨rfl, rfl⟩))
           have hsz3 : U.size = (frs l3).size + r3.size := by
             have := congrArg ByteArray.size HI3.out.1
             rw [ByteArray.size_append] at this
             exact this
           have hex : U.extract 0 (frs l3).size = frs l3 := by rw [HI3.out.1]; exact ext_head _ _
           have hln3 : l3.length ≤ 1000000 := by have := frs_len l3; omega
           obtain ⟨F, hF⟩ : ∃ F, F = frs l3 := ⟨_, rfl⟩
           rw [← hF] at hex hsz3
           have HFF := Lib.hid hF
           simp only [← hF]
           clear hF
           have hFU : F.size ≤ U.size := by omega
           have hFe : ((F.toList) != (F.toList)) = false := by simp
           have HLN := Lib.hid hln3
           have HOK3 := Lib.hid HI3.out.2.1
           have HSZ3 : Hid ((frs l3).size ≤ 354) := Lib.hid (by rw [← HFF.out]; omega)
           clear hsz3 hln3
           go_upto_region 21 with (first
             | (go_at_call 27; (refine (Records_any HJ4.out HLN.out).mono ?_); rintro en w5 ⟨v5, rfl, hO5, hB5⟩; have HO5 := Lib.hid hO5; have HJ5 := Lib.hid (HJ4.out.on hB5); have HD5 := Lib.hid (HD4.out.on hB5); have HW5 := Lib.hid (HO4.out.on hB5); have HB5 : Hid (Below wc.heap.size wc w5) := Lib.hid (HB4.out.trans (hB5.mono (by have := HB4.out.size; omega))); clear hO5 hB5)
             | (go_at_call 26; (refine (same_yes v5 _ l3 _ HLN.out HO5.out.at HW5.out.at).mono ?_); rintro en w6 ⟨rfl, hB6⟩; have HJ6 := Lib.hid (HJ5.out.on hB6); have HD6 := Lib.hid (HD5.out.on hB6); have HW6 := Lib.hid (HW5.out.on hB6); have HB6 : Hid (Below wc.heap.size wc w6) := Lib.hid (HB5.out.trans (hB6.mono (by have := HB5.out.size; omega))); clear hB6))
           have hw34 : wc.heap.size ≤ w3.heap.size := HB3.out.size
           have HLX : Hid ((l3 ++ [(⟨#[109, 111, 114, 101]⟩ : ByteArray)]).length ≤ 1000000) := Lib.hid (by rw [List.length_append]; simp; have := frs_len l3; have := HSZ3.out; omega)
           have HSX : Hid ((frs (l3 ++ [(⟨#[109, 111, 114, 101]⟩ : ByteArray)])).size ≤ 900000) := Lib.hid (by rw [frs_size_snoc]; have := HSZ3.out; have h4 : (⟨#[109, 111, 114, 101]⟩ : ByteArray).size = 4 := rfl; omega)
           have HFZ : Hid ((frs l3).size + ((⟨#[109, 111, 114, 101]⟩ : ByteArray).size + 6) ≤ 1048576) := Lib.hid (by have := HSZ3.out; have h4 : (⟨#[109, 111, 114, 101]⟩ : ByteArray).size = 4 := rfl; omega)
           obtain ⟨M, hM⟩ : ∃ M : ByteArray, M = ⟨#[109, 111, 114, 101]⟩ := ⟨_, rfl⟩
           have HOKM : Hid (okR M) := Lib.hid (by rw [hM]; exact okM)
           rw [← hM] at HLX HSX HFZ
           simp only [← hM]
           have HMM := Lib.hid hM
           clear hM
           obtain ⟨lx, hlx⟩ : ∃ lx, lx = l3 ++ [M] := ⟨_, rfl⟩
           rw [← hlx] at HLX HSX
           have HLXE := Lib.hid hlx
           have HOKX : Hid (∀ y ∈ lx, okR y) := Lib.hid (by rw [hlx]; exact ok_snoc HOK3.out HOKM.out)
           clear hlx
           go_upto_region 24 with (first
             | (go_at_call 28; (with_reducible refine (Add_is M HJ6.out HD6.out (Nat.le_refl _) hw34 (Nat.le_refl _) HOKM.out HFZ.out HLN.out).mono ?_); rintro en w7 ⟨rfl, hJ7, hD7, hB7, hK7⟩; rw [← HLXE.out] at hJ7 hD7; have HJ7 := Lib.hid hJ7; have HD7 := Lib.hid hD7; have HW7 := Lib.hid (own_keptB HW6.out hK7 HLT.out); have HB7 : Hid (Below wc.heap.size wc w7) := Lib.hid (HB6.out.trans hB7); clear hJ7 hD7 hB7 hK7)
             | (go_at_call 25; (with_reducible refine (Open_is (l := lx) HD7.out (Nat.le_refl _) (Nat.le_refl _) HOKX.out HSX.out).mono ?_); rintro en w8 ⟨J8, rfl, hJ8, hD8, hB8, hK8, hz8⟩; have HJ8 := Lib.hid hJ8; have HJ8' := Lib.hid (HJ7.out.kept hK8); have HW8 := Lib.hid (own_kept HW7.out hK8); have HB8 : Hid (Below wc.heap.size wc w8) := Lib.hid (HB7.out.trans hB8); clear hJ8 hD8 hB8 hK8 hz8))
           obtain ⟨n, hn⟩ : ∃ n, l3.length = n := ⟨_, rfl⟩
           have HN := Lib.hid hn
           have hn6 : n ≤ 354 := by rw [← hn]; have := frs_len l3; have := HSZ3.out; omega
           obtain ⟨aw, cw, hvw⟩ := own_form (own_len HW8.out hn)
           subst hvw
           have HLN2 : Hid (0 + l3.length ≤ 1000000) := Lib.hid (by rw [hn]; omega)
           obtain ⟨i0, hi, hz0, hz1, hz2⟩ := info_parts Try.info9
           have HI := Lib.hid (And.intro hi (And.intro hz0 (And.intro hz1 hz2)))
           clear hi hz0 hz1 hz2 hn
           go_wp2_with (first
             | (go_at_call 27; (with_reducible refine (Records_any HJ8.out HLX.out).mono ?_); rintro en w9 ⟨v9, rfl, hO9, hB9⟩; have HO9 := Lib.hid hO9; have HJ9 := Lib.hid (HJ8.out.on hB9); have HJ9' := Lib.hid (HJ8'.out.on hB9); have HWA := Lib.hid ((HW8.out.on hB9).al (.cells #[] 9)); have HB9 : Hid (Below wc.heap.size wc w9) := Lib.hid (HB8.out.trans (hB9.mono (by have := HB8.out.size; omega))); clear hO9 hB9)
             | (at_builtin; refine wpList_append_src2 _ rfl (.tmp 139) (.tmp 140) rfl w9.heap.size (.slice (some ⟨w9.heap.size, 0, none⟩) 0 0) 0 [] rfl (own_zero w9 _ (Nat.le_refl _)) l3 (.slice aw n cw) rfl HWA.out.at HLN2.out (by simp) ?_; intro v10 w10 hown hgr; have hown' := own_src hown HN.out; obtain ⟨a10, c10, rfl⟩ := own_form hown'; have HO10 := Lib.hid hown'; have HB10 : Hid (Below w9.heap.size w9 w10) := Lib.hid (grown_fresh hgr); have HOA10 := Lib.hid (World.ownsRow.alloc hown' (.cells #[.string ⟨#[109, 111, 114, 101]⟩] 9)); clear hown hgr hown')
             | (at_builtin; refine wpList_append_own2 _ rfl (.tmp 141) (.tmp 142) 44 rfl w9.heap.size 9 i0 (.string ByteArray.empty) 1 16 Try.underlying44 HI.out.1 HI.out.2.1 HI.out.2.2.1 HI.out.2.2.2 rfl (by decide) (.slice a10 n c10) n _ rfl HOA10.out ⟨w10.heap.size, 0, none⟩ 1 1 [.string ⟨#[109, 111, 114, 101]⟩] rfl rfl (cell_one _ _ _ _ rfl) (one_str ⟨#[109, 111, 114, 101]⟩) (by unfold maxLen; omega) (by omega) (by have := HB10.out.size; simp; omega) (by decide) ?_; intro g3 c3 w11 hg3 hown3 hgr3; have HO11 : Hid (strR.Own 9 w11 w9.heap.size (.slice (some ⟨g3, 0, none⟩) (n + 1) c3) lx) := Lib.hid (by rw [HLXE.out, HMM.out]; unfold RK.Own; rw [List.length_append, RK.row_snoc, HN.out]; exact hown3); have HB11 : Hid (Below w9.heap.size w9 w11) := Lib.hid ((HB10.out.alloc HB10.out.size _).grown hgr3 (by have := HB10.out.size; simp; omega) (fun j hj => (World.ownsRow.lt HOA10.out j hj).1)); have HR11 := Lib.hid (HO9.out.on HB11.out); have HJ11 := Lib.hid (HJ9.out.on HB11.out); have HJ11' := Lib.hid (HJ9'.out.on HB11.out); have HBB11 : Hid (Below wc.heap.size wc w11) := Lib.hid (HB9.out.trans (HB11.out.mono (by have := HB9.out.size; omega))); clear hown3 hgr3)
             | (go_at_call 26; (with_reducible refine (same_yes v9 _ lx _ HLX.out HR11.out.at HO11.out.at).mono ?_); rintro en w12 ⟨rfl, hB12⟩; have HJ12 := Lib.hid (HJ11.out.on hB12); have HJ12' := Lib.hid (HJ11'.out.on hB12); have HB12 : Hid (Below wc.heap.size wc w12) := Lib.hid (HBB11.out.trans (hB12.mono (by have := HBB11.out.size; omega))); clear hB12)
             | (go_at_call 27; (with_reducible refine (Records_any HJ12'.out HLX.out).mono ?_); rintro en w13 ⟨v13, rfl, hO13, hB13⟩; have HO13 := Lib.hid hO13; have HJ13 := Lib.hid (HJ12.out.on hB13); have HB13 : Hid (Below wc.heap.size wc w13) := Lib.hid (HB12.out.trans (hB13.mono (by have := HB12.out.size; omega))); clear hO13 hB13)
             | (go_at_call 27; (with_reducible refine (Records_any HJ13.out HLX.out).mono ?_); rintro en w14 ⟨v14, rfl, hO14, hB14⟩; have HO14 := Lib.hid hO14; have HP14 := Lib.hid (HO13.out.on hB14); have HB14 : Hid (Below wc.heap.size wc w14) := Lib.hid (HB13.out.trans (hB14.mono (by have := HB13.out.size; omega))); clear hO14 hB14)
             | (go_at_call 26; (with_reducible refine (same_yes v13 v14 lx _ HLX.out HP14.out.at HO14.out.at).mono ?_); rintro en w15 ⟨rfl, hB15⟩; have HB15 : Hid (Below wc.heap.size wc w15) := Lib.hid (HB14.out.trans (hB15.mono (by have := HB14.out.size; omega))); clear hB15))
           go_ret
           exact ⟨rfl, HBd.out.trans (HB15.out.mono HBS.out)⟩
end Go.Proofs.Ytobmfbafjpbkoaa
