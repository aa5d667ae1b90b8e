/-
  The law JournalTorn: the walk.
-/
import Derived.Test.YtobmfbafjpbkoaaTornM
import Derived.Deep.CutBlock
import Derived.Deep.LoopGhost
namespace Go.Proofs.Ytobmfbafjpbkoaa
open Go.RowKit Go.Instr

/-- The law's row of records, and the disk with the same, all durable. -/
def TornAt (w : World) (B k : Nat) (m : List ByteArray) (s6 : Value) (wr : World) : Prop := strR.Own 9 wr w.heap.size s6 m ∧ DiskAt wr w.heap.size B ⟨frs m, (frs m).size, true⟩ ∧ (∀ x ∈ m, okR x) ∧ m.length ≤ k ∧ (frs m).size ≤ 47 * k ∧ Below w.heap.size w wr
theorem TornAt.ro {w wr : World} {B k : Nat} {m : List ByteArray} {s6 : Value} (h : TornAt w B k m s6 wr) : strR.Own 9 wr w.heap.size s6 m := h.1
theorem TornAt.dk {w wr : World} {B k : Nat} {m : List ByteArray} {s6 : Value} (h : TornAt w B k m s6 wr) : DiskAt wr w.heap.size B ⟨frs m, (frs m).size, true⟩ := h.2.1
theorem TornAt.ok {w wr : World} {B k : Nat} {m : List ByteArray} {s6 : Value} (h : TornAt w B k m s6 wr) : ∀ x ∈ m, okR x := h.2.2.1
theorem TornAt.ln {w wr : World} {B k : Nat} {m : List ByteArray} {s6 : Value} (h : TornAt w B k m s6 wr) : m.length ≤ k := h.2.2.2.1
theorem TornAt.sz {w wr : World} {B k : Nat} {m : List ByteArray} {s6 : Value} (h : TornAt w B k m s6 wr) : (frs m).size ≤ 47 * k := h.2.2.2.2.1
theorem TornAt.bl {w wr : World} {B k : Nat} {m : List ByteArray} {s6 : Value} (h : TornAt w B k m s6 wr) : Below w.heap.size w wr := h.2.2.2.2.2
theorem TornAt.on {w wr w2 : World} {B k : Nat} {m : List ByteArray} {s6 : Value} (h : TornAt w B k m s6 wr) (hB : Below wr.heap.size wr w2) : TornAt w B k m s6 w2 :=
  ⟨h.1.on hB, h.2.1.on hB, h.2.2.1, h.2.2.2.1, h.2.2.2.2.1, m_below_on h.2.2.2.2.2 hB⟩
def TornLoop (w : World) (B len g : Nat) (s6 s7 : Value) (wr : World) : Prop := ∃ (k : Nat) (m : List ByteArray), s7 = .int .i64 k ∧ k + g = len ∧ k ≤ 30 ∧ TornAt w B k m s6 wr
set_option maxHeartbeats 40000000 in
set_option maxRecDepth 100000 in
theorem torn_walk (l : List ByteArray) (ks : List Int) (a1 a2 : Option Addr) (n1 n2 c1 c2 : Nat) (w : World)
    (hn1 : n1 ≤ maxLen) (hl1 : l.length = n1) (hf1 : ∀ x ∈ l, x.size ≤ maxLen) (hA1 : 0 < n1 → strR.At w (.slice a1 n1 c1) l)
    (hn2 : n2 ≤ maxLen) (hl2 : ks.length = n2) (hf2 : ∀ x ∈ ks, -9223372036854775808 ≤ x ∧ x ≤ 9223372036854775807) (hA2 : 0 < n2 → intR.At w (.slice a2 n2 c2) ks) :
    Calls Try.prog 6 #[.slice a1 n1 c1, .slice a2 n2 c2] w fun e w' => e = .returned (.bool true) ∧ Below w.heap.size w w' := by
  unfold maxLen at hn1 hn2
  have HA1 := Lib.hid hA1
  have HF1 := Lib.hid hf1
  have HL1 := Lib.hid hl1
  have HA2 := Lib.hid hA2
  have HF2 := Lib.hid hf2
  have HL2 := Lib.hid hl2
  clear hA1 hf1 hl1 hA2 hf2 hl2
  go_enter Try.func6, Try.ntmps6
  go_upto_region 4 with (first
    | (go_at_call 22; (refine (speaks10 _).mono ?_); rintro en w1 ⟨rfl, hB1⟩; have HB1 := Lib.hid hB1; clear hB1)
    | (go_at_call 9; (refine (New_disk _).mono ?_); rintro en w2 ⟨rfl, hA2, hB2, hz2⟩; have HD2 := Lib.hid hA2; have HB2 := Lib.hid (m_below_on HB1.out hB2); clear hA2 hB2 hz2))
  have hwB : w.heap.size ≤ w1.heap.size := HB1.out.size
  have HAT : Hid (TornAt w w1.heap.size 0 [] (.slice none 0 0) w2) := Lib.hid ⟨World.ownsRow_nil _ _ _ _, by
    obtain ⟨v, h1, h2⟩ := HD2.out
    exact ⟨v, h1, own_mono h2 hwB⟩, fun _ h => (by cases h), Nat.le_refl _, Nat.le_refl _, HB2.out⟩
  clear HD2 HB2
  generalize w1.heap.size = B at *
  clear HB1
  go_wp2_with fail
  go_loopg [6, 7] n1 (fun g s6 s7 wr => TornLoop w B n1 g s6 s7 wr)
  case atStart => exact ⟨0, [], rfl, Nat.zero_add _, by decide, HAT.out⟩
  case round => as_aux_lemma =>
    obtain ⟨k, m, rfl, hk, hk30, hP⟩ := hrel
    clear HAT
    have HP := Lib.hid hP
    clear hP
    by_cases hlk : k < n1 ∧ k < 30
    · obtain ⟨hlk, hk3⟩ := hlk
      have hkl : k < l.length := by rw [HL1.out]; exact hlk
      obtain ⟨b, off, cc, he, hbw, hcells⟩ := ((HA1.out (by omega)).on HP.out.bl).form (by omega)
      simp only [Value.slice.injEq] at he
      obtain ⟨rfl, hnn, rfl⟩ := he
      clear hnn
      have x0 : wr.cell? ⟨b, off + k * 1, none⟩ = some (.string l[k]) := hcells k hkl 0 _ rfl
      rw [Nat.mul_one] at x0
      have hfx := HF1.out _ (List.getElem_mem hkl)
      unfold maxLen at hfx
      generalize l[k] = x at x0 hfx
      clear hcells
      have hda : decide ((k : Int) < (n1 : Int)) = true := by simp; omega
      have hdb : decide ((k : Int) < 30) = true := by simp; omega
      go_upto_region 8 with fail
      go_cut [8] (fun s8 wx => ∃ t : ByteArray, s8 = .string t ∧ 1 ≤ t.size ∧ t.size ≤ 41 ∧ Below wr.heap.size wr wx)
      case first => as_aux_lemma =>
        go_quiet (fail)
        go_wp2
        all_goals
          go_meet
          refine ⟨_, rfl, ?_, ?_, below_drN4 wr nq⟩
          · simp [ByteArray.size_append]
            have : (⟨#[46]⟩ : ByteArray).size = 1 := rfl
            omega
          · simp [ByteArray.size_append]
            have : (⟨#[46]⟩ : ByteArray).size = 1 := rfl
            omega
      case rest => as_aux_lemma =>
        obtain ⟨t, rfl, ht1, ht41, hBc⟩ := hcut
        have HQ := Lib.hid (HP.out.on hBc)
        have HOKT : Hid (okR t) := Lib.hid ⟨ht1, by omega⟩
        clear HP x0 hBc hda hdb
        have hml : m.length ≤ 1000000 := by have := HQ.out.ln; omega
        have HML := Lib.hid hml
        have HLT := Lib.hid (own_lt HQ.out.ro)
        have hm47 : (frs m).size ≤ 1410 := by have := HQ.out.sz; omega
        have HM47 := Lib.hid hm47
        have HBC := Lib.hid HQ.out.bl.size
        clear hml hm47
        go_upto_region 12 with (first
          | (go_at_call 25; (refine (Open_is (l := m) HQ.out.dk hwB (Nat.le_refl _) HQ.out.ok (by have := HM47.out; omega)).mono ?_); rintro en w2 ⟨J, rfl, hJ2, hD2, hB2, hK2, hz2⟩; have HJ2 := Lib.hid hJ2; have HD2 := Lib.hid hD2; have HR2 := Lib.hid (own_kept HQ.out.ro hK2); have HB2 := Lib.hid (HQ.out.bl.trans (hB2)); clear hJ2 hD2 hB2 hK2 hz2)
          | (go_at_call 27; (refine (Records_any HJ2.out HML.out).mono ?_); rintro en w3 ⟨v3, rfl, hO3, hB3⟩; have HO3 := Lib.hid hO3; have HJ3 := Lib.hid (HJ2.out.on hB3); have HD3 := Lib.hid (HD2.out.on hB3); have HR3 := Lib.hid (HR2.out.on hB3); have HB3 := Lib.hid (m_below_on HB2.out hB3); clear hO3 hB3)
          | (go_at_call 26; (refine (same_yes v3 _ m _ HML.out HO3.out.at HR3.out.at).mono ?_); rintro en w4 ⟨rfl, hB4⟩; have HJ4 := Lib.hid (HJ3.out.on hB4); have HD4 := Lib.hid (HD3.out.on hB4); have HR4 := Lib.hid (HR3.out.on hB4); have HB4 := Lib.hid (m_below_on HB3.out hB4); clear hB4))
        clear HJ2 HJ3 HD2 HD3 HR2 HR3 HB2 HB3 HO3
        have hln := HQ.out.ln
        by_cases hev : k % 2 = 0
        · have hev2 : ((k : Int) % 2 == 0) = true := by simp; omega
          have HSZ5 : Hid ((frs (m ++ [t])).size ≤ 47 * (k + 1)) := Lib.hid (by rw [frs_size_snoc]; have := HQ.out.sz; omega)
          go_upto_region 15 with (first
            | (go_at_call 28; (refine (Add_is t HJ4.out HD4.out hwB HBC.out (Nat.le_refl _) HOKT.out (by have := HM47.out; omega) HML.out).mono ?_); rintro en w5 ⟨rfl, hJ5, hD5, hB5, hK5⟩; have HD5 := Lib.hid hD5; have HB5 := Lib.hid (HB4.out.trans hB5); have HR5 := Lib.hid (own_keptB HR4.out hK5 HLT.out); clear hJ5 hD5 hB5 hK5))
          obtain ⟨n, hn⟩ : ∃ n, m.length = n := ⟨_, rfl⟩
          have HN := Lib.hid hn
          have HO5 : Hid (w5.ownsRow w.heap.size 9 1 u6 n (strR.row m)) := Lib.hid (own_len HR5.out hn)
          have hsw : w.heap.size ≤ w5.heap.size := HB5.out.size
          have HOA := Lib.hid (World.ownsRow.alloc HO5.out (.cells #[.string t] 9))
          have HDA := Lib.hid (HD5.out.on (w1 := w5.alloc (.cells #[.string t] 9)) (by go_grown))
          obtain ⟨i0, hi, hz0, hz1, hz2⟩ := info_parts Try.info9
          have HI := Lib.hid (And.intro hi (And.intro hz0 (And.intro hz1 hz2)))
          rw [hn] at hln
          clear hi hz0 hz1 hz2 hn
          go_upto_region 16 with (at_builtin; refine wpList_append_own1 _ rfl (.tmp 60) (.tmp 62) 44 rfl w.heap.size 9 i0 (.string ByteArray.empty) 1 16 Try.underlying44 HI.out.1 HI.out.2.1 HI.out.2.2.1 HI.out.2.2.2 rfl (by decide) u6 n _ rfl HOA.out ⟨w5.heap.size, 0, none⟩ 1 1 [.string t] rfl rfl (cell_one _ _ _ _ rfl) (one_str t) (by unfold maxLen; omega) (by omega) (by simp; omega) (by decide) ?_; intro g3 c3 w6 hg3 hown3 hgr3; have HO6 : Hid (strR.Own 9 w6 w.heap.size (.slice (some ⟨g3, 0, none⟩) (n + 1) c3) (m ++ [t])) := Lib.hid (by unfold RK.Own; rw [List.length_append, RK.row_snoc, HN.out]; exact hown3); have HD6 := Lib.hid (HDA.out.grownS HOA.out hgr3); have HB6 : Hid (Below w.heap.size w w6) := Lib.hid ((HB5.out.alloc hsw _).grown hgr3 (by simp; omega) (fun j hj => (World.ownsRow.lt HOA.out j hj).1)); clear hown3 hgr3)
          have HOK6 : Hid ((⟨frs (m ++ [t]), (frs (m ++ [t])).size, true⟩ : Dk).ok) := Lib.hid ⟨Nat.le_refl _, by have := HSZ5.out; show (frs (m ++ [t])).size ≤ _; omega⟩
          go_wp2_with (first
            | (go_at_call 14; (with_reducible refine (Crash_on 1000 HD6.out hwB HOK6.out rfl (by decide) (by decide)).mono ?_); rintro en w7 ⟨rfl, hD7, hB7, hK7⟩; have HD7 : Hid (DiskAt w7 w.heap.size B ⟨frs (m ++ [t]), (frs (m ++ [t])).size, false⟩) := Lib.hid (crash_full _ 1000 ▸ hD7); have HR7 := Lib.hid (own_kept HO6.out hK7); have HB7 := Lib.hid (HB6.out.trans hB7); clear hD7 hB7 hK7)
            | (go_at_call 16; (with_reducible refine (Start_any HD7.out hwB).mono ?_); rintro en w8 ⟨rfl, hD8, hB8, hK8⟩; have HD8 : Hid (DiskAt w8 w.heap.size B ⟨frs (m ++ [t]), (frs (m ++ [t])).size, true⟩) := Lib.hid hD8; have HR8 := Lib.hid (own_kept HR7.out hK8); have HB8 := Lib.hid (HB7.out.trans hB8); clear hD8 hB8 hK8))
          go_roundg (n1 - (k + 1))
          case measure => omega
          case rel => exact ⟨k + 1, m ++ [t], by go_num, by omega, by omega, HR8.out, HD8.out, ok_snoc HQ.out.ok HOKT.out, by rw [List.length_append, HN.out]; simp; omega, HSZ5.out, HB8.out⟩
        · have hev2 : ((k : Int) % 2 == 0) = false := by simp; omega
          go_upto_region 19 with (first
            | (go_at_call 23; (refine (refFramed_any t _ (by omega)).mono ?_); rintro en w5 ⟨rfl, hB5⟩; have HD5 := Lib.hid (HD4.out.on hB5); have HR5 := Lib.hid (HR4.out.on hB5); have HB5 := Lib.hid (m_below_on HB4.out hB5); clear hB5)
            | (go_at_call 18; (refine (Append_good (fr t) HD5.out hwB ⟨Nat.le_refl _, by have := HM47.out; show (frs m).size ≤ _; omega⟩ rfl (by have := HM47.out; show (frs m).size + (fr t).size ≤ _; rw [fr_size]; omega)).mono ?_); rintro en w6 ⟨rfl, hD6, hB6, hK6⟩; have HD6 : Hid (DiskAt w6 w.heap.size B ⟨frs m ++ fr t, (frs m).size, true⟩) := Lib.hid hD6; have HR6 := Lib.hid (own_kept HR5.out hK6); have HB6 := Lib.hid (HB5.out.trans hB6); clear hD6 hB6 hK6))
          clear HJ4 HD4 HR4 HD5 HR5
          go_upto_if 75 with fail
          go_cut [11] (fun s11 wx => ∃ q : Int, s11 = .int .i64 q ∧ -9223372036854775808 ≤ q ∧ q ≤ 9223372036854775807 ∧ w6 = wx)
          case first => as_aux_lemma =>
            by_cases hk2 : k < n2
            · have hkl2 : k < ks.length := by rw [HL2.out]; exact hk2
              obtain ⟨b2, off2, cc2, he2, hbw2, hcells2⟩ := ((HA2.out (by omega)).on HB6.out).form (by omega)
              simp only [Value.slice.injEq] at he2
              obtain ⟨rfl, hnn, rfl⟩ := he2
              clear hnn
              have z0 : w6.cell? ⟨b2, off2 + k * 1, none⟩ = some (.int .i64 ks[k]) := hcells2 k hkl2 0 _ rfl
              rw [Nat.mul_one] at z0
              have hfq := HF2.out _ (List.getElem_mem hkl2)
              generalize ks[k] = q at z0 hfq
              clear hcells2
              have hdc : decide ((k : Int) < (n2 : Int)) = true := by simp; omega
              go_wp2
              go_meet
              exact ⟨q, rfl, hfq.1, hfq.2, rfl⟩
            · have hdc : decide ((k : Int) < (n2 : Int)) = false := by simp; omega
              go_wp2
              go_meet
              exact ⟨0, rfl, by decide, by decide, rfl⟩
          case rest => as_aux_lemma =>
            obtain ⟨q, rfl, hq1, hq2, rfl⟩ := hcut
            obtain ⟨l', r', hI, hcs⟩ := recs_torn HQ.out.ok HOKT.out (crashR (fr t) q) (crashR_le _ _)
            have HI' := Lib.hid hI
            have HCS := Lib.hid hcs
            obtain ⟨d, hd⟩ : ∃ d, d = frs m ++ (fr t).extract 0 (crashR (fr t) q) := ⟨_, rfl⟩
            have hds : d.size ≤ (frs m).size + 47 := by
              have := crashR_le (fr t) q
              rw [hd, ByteArray.size_append, ext_size _ _ this]
              rw [fr_size] at this
              omega
            rw [← hd] at HI'
            have HDD : Hid ((⟨(frs m ++ fr t).extract 0 (crashN (⟨frs m ++ fr t, (frs m).size, true⟩ : Dk) q), crashN (⟨frs m ++ fr t, (frs m).size, true⟩ : Dk) q, false⟩ : Dk) = ⟨d, d.size, false⟩) := Lib.hid (by rw [hd]; exact crash_torn _ _ _)
            have HOK6 : Hid ((⟨frs m ++ fr t, (frs m).size, true⟩ : Dk).ok) := Lib.hid ⟨by show (frs m).size ≤ (frs m ++ fr t).size; rw [ByteArray.size_append]; omega, by have := HM47.out; show (frs m ++ fr t).size ≤ _; rw [ByteArray.size_append, fr_size]; omega⟩
            have HOK8 : Hid ((⟨d, d.size, true⟩ : Dk).ok) := Lib.hid ⟨Nat.le_refl _, by have := HM47.out; show d.size ≤ _; omega⟩
            have HD9 : Hid (d.size ≤ 900000) := Lib.hid (by have := HM47.out; omega)
            have HLX : Hid (l'.length ≤ 1000000) := Lib.hid (by
              have := HML.out
              have h2 := HQ.out.ln
              rcases hcs with rfl | rfl
              · omega
              · rw [List.length_append]; simp; omega)
            clear hI hcs hd hds
            go_upto_region 26 with (first
              | (go_at_call 14; (with_reducible refine (Crash_on q HD6.out hwB HOK6.out rfl hq1 hq2).mono ?_); rintro en w7 ⟨rfl, hD7, hB7, hK7⟩; have HD7 : Hid (DiskAt w7 w.heap.size B ⟨d, d.size, false⟩) := Lib.hid (HDD.out ▸ hD7); have HR7 := Lib.hid (own_kept HR6.out hK7); have HB7 := Lib.hid (HB6.out.trans hB7); clear hD7 hB7 hK7)
              | (go_at_call 16; (with_reducible refine (Start_any HD7.out hwB).mono ?_); rintro en w8 ⟨rfl, hD8, hB8, hK8⟩; have HD8 : Hid (DiskAt w8 w.heap.size B ⟨d, d.size, true⟩) := Lib.hid hD8; have HR8 := Lib.hid (own_kept HR7.out hK8); have HB8 := Lib.hid (HB7.out.trans hB8); clear hD8 hB8 hK8)
              | (go_at_call 25; (with_reducible refine (Open_on d HD8.out hwB HOK8.out rfl rfl HD9.out).mono ?_); rintro en w9 ⟨J9, l9, r9, rfl, hI9, hJ9, hD9', hB9, hK9, hz9⟩; obtain ⟨el, er⟩ := recs_one HI'.out hI9; subst el; have HJ9 := Lib.hid hJ9; have HD9' := Lib.hid hD9'; have HR9 := Lib.hid (own_kept HR8.out hK9); have HB9 := Lib.hid (HB8.out.trans hB9); clear hI9 hJ9 hD9' hB9 hK9 hz9)
              | (go_at_call 27; (refine (Records_any HJ9.out HLX.out).mono ?_); rintro en w10 ⟨v10, rfl, hO10, hB10⟩; have HO10 := Lib.hid (hO10.mono (b2 := w.heap.size) HB9.out.size); have HD10 := Lib.hid (HD9'.out.on hB10); have HR10 := Lib.hid (HR9.out.on hB10); have HB10 := Lib.hid (m_below_on HB9.out hB10); clear hO10 hB10))
            obtain ⟨n, hn⟩ : ∃ n, m.length = n := ⟨_, rfl⟩
            have HN := Lib.hid hn
            rw [hn] at hln
            clear hn
            have hw10 : w.heap.size ≤ w10.heap.size := HB10.out.size
            obtain ⟨a6, c6, rfl⟩ := own_form (own_len HR10.out HN.out)
            have HRA := Lib.hid (HR10.out.al (.cells #[] 9))
            obtain ⟨i0, hi, hz0, hz1, hz2⟩ := info_parts Try.info9
            have HI := Lib.hid (And.intro hi (And.intro hz0 (And.intro hz1 hz2)))
            clear hi hz0 hz1 hz2
            have HML2 : Hid (0 + m.length ≤ 1000000) := Lib.hid (by have := HML.out; omega)
            go_upto_region 27 with (first
              | (at_builtin; refine wpList_append_src _ rfl (.tmp 92) (.tmp 93) rfl w10.heap.size (.slice (some ⟨w10.heap.size, 0, none⟩) 0 0) 0 [] rfl (own_zero w10 _ (Nat.le_refl _)) m (.slice a6 n c6) rfl HRA.out.at HML2.out (by simp) ?_; intro v11 w11 hown hgr; have hown' := own_src hown HN.out; obtain ⟨a11, c11, rfl⟩ := own_form hown'; have HO11 := Lib.hid hown'; have HB11 : Hid (Below w10.heap.size w10 w11) := Lib.hid (grown_fresh hgr); have HOA11 := Lib.hid (World.ownsRow.alloc hown' (.cells #[.string t] 9)); clear hown hgr hown')
              | (at_builtin; refine wpList_append_own1 _ rfl (.tmp 94) (.tmp 96) 44 rfl w10.heap.size 9 i0 (.string ByteArray.empty) 1 16 Try.underlying44 HI.out.1 HI.out.2.1 HI.out.2.2.1 HI.out.2.2.2 rfl (by decide) (.slice a11 n c11) n _ rfl HOA11.out ⟨w11.heap.size, 0, none⟩ 1 1 [.string t] rfl rfl (cell_one _ _ _ _ rfl) (one_str t) (by unfold maxLen; omega) (by omega) (by have := HB11.out.size; simp; omega) (by decide) ?_; intro g3 c3 w12 hg3 hown3 hgr3; have HO12 : Hid (strR.Own 9 w12 w10.heap.size (.slice (some ⟨g3, 0, none⟩) (n + 1) c3) (m ++ [t])) := Lib.hid (by unfold RK.Own; rw [List.length_append, RK.row_snoc, HN.out]; exact hown3); have HB12 : Hid (Below w10.heap.size w10 w12) := Lib.hid ((HB11.out.alloc HB11.out.size _).grown hgr3 (by have := HB11.out.size; simp; omega) (fun j hj => (World.ownsRow.lt HOA11.out j hj).1)); clear hown3 hgr3))
            have HM12 := Lib.hid (HR10.out.on HB12.out)
            have HD12 := Lib.hid (HD10.out.on HB12.out)
            have HG12 := Lib.hid (HO10.out.on HB12.out)
            have HBB := Lib.hid (m_below_on HB10.out HB12.out)
            have HEX : Hid (m.length ≤ 30) := Lib.hid (by have := HQ.out.ln; omega)
            rcases HCS.out with e | e
            · have HG1 : Hid (strR.Own 9 w12 w.heap.size v10 m) := Lib.hid (e ▸ HG12.out)
              have HD1 : Hid (DiskAt w12 w.heap.size B ⟨frs m, (frs m).size, true⟩) := Lib.hid (e ▸ HD12.out)
              clear e
              go_wp2_with ((refine (same_yes v10 _ m _ HML.out HG1.out.at HM12.out.at).mono ?_); rintro en w13 ⟨rfl, hB13⟩; have HG2 := Lib.hid (HG1.out.on hB13); have HD2 := Lib.hid (HD1.out.on hB13); have HB13 := Lib.hid (m_below_on HBB.out hB13); clear hB13)
              go_roundg (n1 - (k + 1))
              case measure => omega
              case rel => exact ⟨k + 1, m, by go_num, by omega, by omega, HG2.out, HD2.out, HQ.out.ok, by rw [HN.out]; omega, by have := HQ.out.sz; omega, HB13.out⟩
            · have HG1 : Hid (strR.Own 9 w12 w.heap.size v10 (m ++ [t])) := Lib.hid (e ▸ HG12.out)
              have HD1 : Hid (DiskAt w12 w.heap.size B ⟨frs (m ++ [t]), (frs (m ++ [t])).size, true⟩) := Lib.hid (e ▸ HD12.out)
              have hlen1 : (m ++ [t]).length = n + 1 := by rw [List.length_append, HN.out]; rfl
              have HLEN1 := Lib.hid hlen1
              obtain ⟨a10, c10, rfl⟩ := own_form (own_len HG1.out hlen1)
              have hne : n + 1 ≠ n := by omega
              have HNE := Lib.hid hne
              have HML1 : Hid ((m ++ [t]).length ≤ 1000000) := Lib.hid (by rw [hlen1]; omega)
              clear e hlen1 hne
              go_wp2_with (first
                | (go_at_call 26; (with_reducible refine (same_len a10 a6 (n + 1) n c10 c6 _ HNE.out).mono ?_); rintro en w13 ⟨rfl, rfl⟩)
                | (go_at_call 26; (refine (same_yes (.slice a10 (n + 1) c10) (.slice (some ⟨g3, 0, none⟩) (n + 1) c3) (m ++ [t]) _ HML1.out HG1.out.at HO12.out.at).mono ?_); rintro en w13 ⟨rfl, hB13⟩; have HG2 := Lib.hid (HG1.out.on hB13); have HD2 := Lib.hid (HD1.out.on hB13); have HB13 := Lib.hid (m_below_on HBB.out hB13); clear hB13))
              go_roundg (n1 - (k + 1))
              case measure => omega
              case rel => exact ⟨k + 1, m ++ [t], by go_num, by omega, by omega, HG2.out, HD2.out, ok_snoc HQ.out.ok HOKT.out, by rw [HLEN1.out]; omega, by rw [frs_size_snoc]; have := HQ.out.sz; omega, HB13.out⟩
    · have hcase : (¬ k < n1) ∨ (k < n1 ∧ ¬ k < 30) := by omega
      rcases hcase with hc | ⟨hc, hc2⟩
      · have hda : decide ((k : Int) < (n1 : Int)) = false := by simp; omega
        go_wp2_with fail
        go_ret
        exact ⟨rfl, HP.out.bl⟩
      · have hda : decide ((k : Int) < (n1 : Int)) = true := by simp; omega
        have hdb : decide ((k : Int) < 30) = false := by simp; omega
        go_wp2_with fail
        go_ret
        exact ⟨rfl, HP.out.bl⟩
end Go.Proofs.Ytobmfbafjpbkoaa
