/-
  The law DiskLasts: the walk.
-/
import Derived.Test.YtobmfbafjpbkoaaDiskS
import Derived.Deep.CutBlock
import Derived.Deep.LoopGhost
namespace Go.Proofs.Ytobmfbafjpbkoaa
open Go.RowKit Go.Instr

def strR : RK ByteArray := { f := fun s => [.string s], c := 1, pos := by decide, len := fun _ => rfl, one := fun _ => by intro u hu; simp only [List.mem_cons, List.not_mem_nil, or_false] at hu; subst hu; rfl }
def cut50 (s : ByteArray) : ByteArray := s.extract 0 (if 50 < (s.size : Int) then 50 else (s.size : Int)).toNat
theorem crash_ext (a b : ByteArray) (c : Nat) : (a ++ b).extract 0 (a.size + c) = a ++ b.extract 0 c := by
  apply Go.WideShapes.bytes_inj
  rw [Lib.extract_data, ByteArray.data_append, Array.toList_append, ByteArray.data_append, Array.toList_append, Lib.extract_data]
  simp only [List.drop_zero, Nat.sub_zero]
  have h1 : a.data.toList.length = a.size := rfl
  rw [List.take_append, h1, List.take_of_length_le (by omega)]
  congr 2
  omega
/-- The loop over what is appended: the disk is at a ++ b. -/
def LastLoop (w : World) (B len : Nat) (a0 : ByteArray) (d g : Nat) (s i : Value) (wr : World) : Prop :=
  ∃ (k : Nat) (b : ByteArray), i = .int .i64 k ∧ s = .string b ∧ k + g = len ∧ k ≤ 20 ∧ b.size ≤ 50 * k ∧ DiskAt wr w.heap.size B ⟨a0 ++ b, d, true⟩ ∧ Below w.heap.size w wr
def LastOut (w : World) (B : Nat) (a0 : ByteArray) (d : Nat) (s : Value) (wr : World) : Prop :=
  ∃ b : ByteArray, s = .string b ∧ b.size ≤ 1000 ∧ DiskAt wr w.heap.size B ⟨a0 ++ b, d, true⟩ ∧ Below w.heap.size w wr
theorem emp_app (b : ByteArray) : ByteArray.empty ++ b = b := by
  apply Go.WideShapes.bytes_inj; rw [ByteArray.data_append, Array.toList_append]; rfl
theorem app_emp (b : ByteArray) : b ++ ByteArray.empty = b := by
  apply Go.WideShapes.bytes_inj; rw [ByteArray.data_append, Array.toList_append]; exact List.append_nil _
theorem app_assoc (a b c : ByteArray) : a ++ (b ++ c) = (a ++ b) ++ c := by
  apply Go.WideShapes.bytes_inj; simp [ByteArray.data_append, Array.toList_append]
set_option maxHeartbeats 4000000 in
set_option maxRecDepth 100000 in
theorem lasts_walk (l1 l2 : List ByteArray) (a1 a2 : Option Addr) (n1 n2 c1 c2 : Nat) (keep : Int) (w : World) (k1 : -9223372036854775808 ≤ keep) (k2 : keep ≤ 9223372036854775807)
    (hn1 : n1 ≤ maxLen) (hl1 : l1.length = n1) (hf1 : ∀ x ∈ l1, x.size ≤ maxLen) (hA1 : 0 < n1 → strR.At w (.slice a1 n1 c1) l1)
    (hn2 : n2 ≤ maxLen) (hl2 : l2.length = n2) (hf2 : ∀ x ∈ l2, x.size ≤ maxLen) (hA2 : 0 < n2 → strR.At w (.slice a2 n2 c2) l2) :
    Calls Try.prog 4 #[.slice a1 n1 c1, .slice a2 n2 c2, .int .i64 keep] w fun e w' => e = .returned (.bool true) ∧ Below w.heap.size w w' := by
  unfold maxLen at hn1 hn2
  have HA1 := Lib.hid hA1
  have HF1 := Lib.hid hf1
  have HL1 := Lib.hid hl1
  have HA2 := Lib.hid hA2
  have HF2 := Lib.hid hf2
  have HL2 := Lib.hid hl2
  clear hA1 hf1 hl1 hA2 hf2 hl2
  go_enter Try.func4, Try.ntmps4
  go_upto_region 5 with (first
    | (go_at_call 8; (refine (speaks9 _).mono ?_); rintro en w1 ⟨rfl, hB1⟩; have HB1 := Lib.hid hB1; clear hB1)
    | (go_at_call 9; (refine (New_disk _).mono ?_); rintro en w2 ⟨rfl, hA2, hB2, hz2⟩; have HD2 := Lib.hid hA2; have HB2 := Lib.hid (m_below_on HB1.out hB2); clear hA2 hB2 hz2))
  have hwB : w.heap.size ≤ w1.heap.size := HB1.out.size
  have HAT : Hid (LastLoop w w1.heap.size n1 ByteArray.empty 0 n1 (.string ByteArray.empty) (.int .i64 0) w2) := Lib.hid ⟨0, ByteArray.empty, rfl, rfl, by omega, by decide, by decide, by
    obtain ⟨v, h1, h2⟩ := HD2.out
    exact ⟨v, h1, own_mono h2 hwB⟩, HB2.out⟩
  clear HD2 HB2
  generalize w1.heap.size = B at *
  clear HB1
  have hwB2 : w.heap.size ≤ B := hwB
  have HA0 : Hid ((ByteArray.empty).size ≤ 1000 ∧ 0 ≤ (ByteArray.empty).size) := Lib.hid (by decide)
  go_upto_block 0 with fail
  go_cut [8] (fun s8 wx => LastOut w B ByteArray.empty 0 s8 wx)
  case first => as_aux_lemma =>
    go_wp2_with fail
    go_loopg [8, 10] n1 (fun g s i wr => LastLoop w B n1 ByteArray.empty 0 g s i wr)
    case atStart => exact HAT.out
    case round =>
      obtain ⟨k, b, rfl, rfl, hk, hk20, hb, hD, hB⟩ := hrel
      clear HAT
      have HD := Lib.hid hD
      have HB := Lib.hid hB
      clear hD hB
      by_cases hlt : k < n1 ∧ k < 20
      · obtain ⟨hlt1, hlt2⟩ := hlt
        have hkl : k < l1.length := by rw [HL1.out]; exact hlt1
        obtain ⟨bb, off, cc, he, hbw, hcells⟩ := ((HA1.out (by omega)).on HB.out).form (by omega)
        simp only [Value.slice.injEq] at he
        obtain ⟨rfl, hnn, rfl⟩ := he
        clear hnn
        have x0 : wr.cell? ⟨bb, off + k * 1, none⟩ = some (.string l1[k]) := hcells k hkl 0 _ rfl
        rw [Nat.mul_one] at x0
        have hfx := HF1.out _ (List.getElem_mem hkl)
        unfold maxLen at hfx
        generalize l1[k] = x at x0 hfx
        clear hcells
        have hda : decide ((k : Int) < (n1 : Int)) = true := by simp; omega
        have hdb : decide ((k : Int) < 20) = true := by simp; omega
        go_wp2_with fail
        go_quiet (fail)
        obtain ⟨t, ht⟩ : ∃ t, t = x.extract 0 (if 50 < (x.size : Int) then 50 else (x.size : Int)).toNat := ⟨_, rfl⟩
        have ht50 : t.size ≤ 50 := by rw [ht]; simp; split <;> omega
        rw [← ht]
        generalize (if 50 < (x.size : Int) then (50 : Int) else (x.size : Int)) = mn
        clear ht x0
        have HDq := Lib.hid (HD.out.on (w1 := wr.drewN nq) ⟨rfl, rfl, rfl, Nat.le_refl _, fun _ _ => rfl⟩)
        have HBq : Hid (Below w.heap.size w (wr.drewN nq)) := Lib.hid (HB.out.trans ⟨rfl, rfl, rfl, Nat.le_refl _, fun _ _ => rfl⟩)
        generalize wr.drewN nq = wq at *
        have hsum : (b ++ t).size = b.size + t.size := ByteArray.size_append
        have HS := Lib.hid hsum
        clear hsum
        go_wp2_with ((refine (Append_good t HDq.out hwB (by have := HA0.out; unfold Dk.ok; simp only [ByteArray.size_append]; omega) rfl (by have := HA0.out; simp only [ByteArray.size_append]; omega)).mono ?_); rintro en w3 ⟨rfl, hD3, hB3, _⟩; have HD3 := Lib.hid hD3; have HB3 := Lib.hid (HBq.out.trans hB3); clear hD3 hB3)
        go_roundg (n1 - (k + 1))
        case measure => omega
        case rel => exact ⟨k + 1, b ++ t, by go_num, rfl, by omega, by omega, by rw [HS.out]; omega, by rw [app_assoc]; exact HD3.out, HB3.out⟩
      · have hgu : n1 ≤ k ∨ (k < n1 ∧ 20 ≤ k) := by omega
        clear hlt
        rcases hgu with hgu | ⟨hgu1, hgu2⟩
        · have hda : decide ((k : Int) < (n1 : Int)) = false := by simp; omega
          go_wp2_with fail
          go_meet
          exact ⟨b, rfl, by omega, HD.out, HB.out⟩
        · have hda : decide ((k : Int) < (n1 : Int)) = true := by simp; omega
          have hdb : decide ((k : Int) < 20) = false := by simp; omega
          go_wp2_with fail
          go_meet
          exact ⟨b, rfl, by omega, HD.out, HB.out⟩
  case rest => as_aux_lemma =>
    obtain ⟨a, rfl, ha, hD, hB⟩ := hcut
    rw [emp_app] at hD
    clear HAT HA0
    have HD := Lib.hid hD
    have HB := Lib.hid hB
    clear hD hB
    go_upto_region 14 with ((refine (Sync_on HD.out hwB (by unfold Dk.ok; simp only; omega) rfl).mono ?_); rintro en w3 ⟨rfl, hD3, hB3, _⟩; have HD3 := Lib.hid hD3; have HB3 := Lib.hid (HB.out.trans hB3); clear hD3 hB3)
    have HA0 : Hid (a.size ≤ 1000 ∧ a.size ≤ a.size) := Lib.hid ⟨ha, Nat.le_refl _⟩
    have HAT : Hid (LastLoop w B n2 a a.size n2 (.string ByteArray.empty) (.int .i64 0) w3) := Lib.hid ⟨0, ByteArray.empty, rfl, rfl, by omega, by decide, by decide, by rw [app_emp]; exact HD3.out, HB3.out⟩
    clear HD3 HB3 HD HB
    go_upto_block 2 with fail
    go_cut [9] (fun s9 wx => LastOut w B a a.size s9 wx)
    case first => as_aux_lemma =>
      go_wp2_with fail
      go_loopg [9, 12] n2 (fun g s i wr => LastLoop w B n2 a a.size g s i wr)
      case atStart => exact HAT.out
      case round =>
        obtain ⟨k, b, rfl, rfl, hk, hk20, hb, hD, hB⟩ := hrel
        clear HAT
        have HD := Lib.hid hD
        have HB := Lib.hid hB
        clear hD hB
        by_cases hlt : k < n2 ∧ k < 20
        · obtain ⟨hlt1, hlt2⟩ := hlt
          have hkl : k < l2.length := by rw [HL2.out]; exact hlt1
          obtain ⟨bb, off, cc, he, hbw, hcells⟩ := ((HA2.out (by omega)).on HB.out).form (by omega)
          simp only [Value.slice.injEq] at he
          obtain ⟨rfl, hnn, rfl⟩ := he
          clear hnn
          have x0 : wr.cell? ⟨bb, off + k * 1, none⟩ = some (.string l2[k]) := hcells k hkl 0 _ rfl
          rw [Nat.mul_one] at x0
          have hfx := HF2.out _ (List.getElem_mem hkl)
          unfold maxLen at hfx
          generalize l2[k] = x at x0 hfx
          clear hcells
          have hda : decide ((k : Int) < (n2 : Int)) = true := by simp; omega
          have hdb : decide ((k : Int) < 20) = true := by simp; omega
          go_wp2_with fail
          go_quiet (fail)
          obtain ⟨t, ht⟩ : ∃ t, t = x.extract 0 (if 50 < (x.size : Int) then 50 else (x.size : Int)).toNat := ⟨_, rfl⟩
          have ht50 : t.size ≤ 50 := by rw [ht]; simp; split <;> omega
          rw [← ht]
          generalize (if 50 < (x.size : Int) then (50 : Int) else (x.size : Int)) = mn
          clear ht x0
          have HDq := Lib.hid (HD.out.on (w1 := wr.drewN nq) ⟨rfl, rfl, rfl, Nat.le_refl _, fun _ _ => rfl⟩)
          have HBq : Hid (Below w.heap.size w (wr.drewN nq)) := Lib.hid (HB.out.trans ⟨rfl, rfl, rfl, Nat.le_refl _, fun _ _ => rfl⟩)
          generalize wr.drewN nq = wq at *
          have hsum : (b ++ t).size = b.size + t.size := ByteArray.size_append
          have HS := Lib.hid hsum
          clear hsum
          go_wp2_with ((refine (Append_good t HDq.out hwB (by have := HA0.out; unfold Dk.ok; simp only [ByteArray.size_append]; omega) rfl (by have := HA0.out; simp only [ByteArray.size_append]; omega)).mono ?_); rintro en w3 ⟨rfl, hD3, hB3, _⟩; have HD3 := Lib.hid hD3; have HB3 := Lib.hid (HBq.out.trans hB3); clear hD3 hB3)
          go_roundg (n2 - (k + 1))
          case measure => omega
          case rel => exact ⟨k + 1, b ++ t, by go_num, rfl, by omega, by omega, by rw [HS.out]; omega, by rw [app_assoc]; exact HD3.out, HB3.out⟩
        · have hgu : n2 ≤ k ∨ (k < n2 ∧ 20 ≤ k) := by omega
          clear hlt
          rcases hgu with hgu | ⟨hgu1, hgu2⟩
          · have hda : decide ((k : Int) < (n2 : Int)) = false := by simp; omega
            go_wp2_with fail
            go_meet
            exact ⟨b, rfl, by omega, HD.out, HB.out⟩
          · have hda : decide ((k : Int) < (n2 : Int)) = true := by simp; omega
            have hdb : decide ((k : Int) < 20) = false := by simp; omega
            go_wp2_with fail
            go_meet
            exact ⟨b, rfl, by omega, HD.out, HB.out⟩
    case rest => as_aux_lemma =>
      obtain ⟨b, rfl, hb, hD, hB⟩ := hcut
      clear HAT HA0
      have HD := Lib.hid hD
      have HB := Lib.hid hB
      clear hD hB
      have k3 : crashN (⟨a ++ b, a.size, true⟩ : Dk) keep = a.size + crashR b keep := by
        unfold crashN crashR; simp only [ByteArray.size_append]; omega
      obtain ⟨c, hc⟩ : ∃ c, crashR b keep = c := ⟨_, rfl⟩
      have hcb : c ≤ b.size := by rw [← hc]; unfold crashR; omega
      rw [hc] at k3
      have HC := Lib.hid hc
      clear hc
      obtain ⟨T, hT⟩ : ∃ T, T = a ++ b.extract 0 c := ⟨_, rfl⟩
      have hTs : T.size = a.size + c := by rw [hT, ByteArray.size_append]; simp; omega
      have k4 : (⟨(a ++ b).extract 0 (crashN (⟨a ++ b, a.size, true⟩ : Dk) keep), crashN (⟨a ++ b, a.size, true⟩ : Dk) keep, false⟩ : Dk) = ⟨T, T.size, false⟩ := by
        rw [k3, hTs, crash_ext, ← hT]
      have k5 : (⟨T.extract 0 (crashN (⟨T, T.size, true⟩ : Dk) 0), crashN (⟨T, T.size, true⟩ : Dk) 0, false⟩ : Dk) = ⟨T, T.size, false⟩ := by
        have e : crashN (⟨T, T.size, true⟩ : Dk) 0 = T.size := by unfold crashN; simp
        rw [e, ext_all]
      have K4 := Lib.hid k4
      have K5 := Lib.hid k5
      have HT := Lib.hid hT
      clear k3 k4 k5 hT
      have hTm : T.size ≤ 2000 := by omega
      have HTS := Lib.hid hTs
      clear hTs
      go_upto_region 34 with (first
        | (go_at_call 14; (with_reducible refine (Crash_nil 1).mono ?_); rintro en w3 ⟨rfl, rfl⟩)
        | (go_at_call 16; (with_reducible refine (Start_nil).mono ?_); rintro en w3 ⟨rfl, rfl⟩)
        | (go_at_call 17; (with_reducible refine (Wipe_nil).mono ?_); rintro en w3 ⟨rfl, rfl⟩)
        | (go_at_call 20; (with_reducible refine (Read_nil).mono ?_); rintro en w3 ⟨rfl, rfl⟩)
        | (go_at_call 14; (with_reducible refine (Crash_on 0 HD4.out hwB (by unfold Dk.ok; simp only; omega) rfl (by decide) (by decide)).mono ?_); rintro en w5 ⟨rfl, hD5, hB5, _⟩; have HD5 : Hid (DiskAt w5 w.heap.size B ⟨T, T.size, false⟩) := Lib.hid (K5.out ▸ hD5); have HB5 := Lib.hid (HB4.out.trans hB5); clear hD5 hB5)
        | (go_at_call 14; (with_reducible refine (Crash_on keep HD.out hwB (by unfold Dk.ok; simp only [ByteArray.size_append]; omega) rfl k1 k2).mono ?_); rintro en w3 ⟨rfl, hD3, hB3, _⟩; have HD3 : Hid (DiskAt w3 w.heap.size B ⟨T, T.size, false⟩) := Lib.hid (K4.out ▸ hD3); have HB3 := Lib.hid (HB.out.trans hB3); clear hD3 hB3)
        | (go_at_call 18; (with_reducible refine (Append_off _ HD3.out rfl).mono ?_); rintro en w4 ⟨rfl, rfl⟩)
        | (go_at_call 10; (with_reducible refine (Sync_off HD3.out rfl).mono ?_); rintro en w4 ⟨rfl, rfl⟩)
        | (go_at_call 12; (with_reducible refine (Cut_off 0 HD3.out rfl).mono ?_); rintro en w4 ⟨rfl, rfl⟩)
        | (go_at_call 16; (with_reducible refine (Start_any HD5.out hwB).mono ?_); rintro en w6 ⟨rfl, hD6, hB6, _⟩; have HD6 : Hid (DiskAt w6 w.heap.size B ⟨T, T.size, true⟩) := Lib.hid hD6; have HB6 := Lib.hid (HB5.out.trans hB6); clear hD6 hB6)
        | (go_at_call 16; (with_reducible refine (Start_any HD3.out hwB).mono ?_); rintro en w4 ⟨rfl, hD4, hB4, _⟩; have HD4 : Hid (DiskAt w4 w.heap.size B ⟨T, T.size, true⟩) := Lib.hid hD4; have HB4 := Lib.hid (HB3.out.trans hB4); clear hD4 hB4)
        | (go_at_call 20; (with_reducible refine (Read_is T HD6.out rfl rfl).mono ?_); rintro en w7 ⟨rfl, rfl⟩)
        | (go_at_call 20; (with_reducible refine (Read_is T HD4.out rfl rfl).mono ?_); rintro en w7 ⟨rfl, rfl⟩))
      have hcase : (keep < 0 ∧ c = 0) ∨ (0 ≤ keep ∧ keep ≤ (b.size : Int) ∧ keep = (c : Int)) ∨ ((b.size : Int) < keep ∧ c = b.size) := by
        have := HC.out
        unfold crashR at this
        omega
      have HT2 := HT.out
      clear HT
      rcases hcase with ⟨q, rfl⟩ | ⟨q, q2, rfl⟩ | ⟨q, rfl⟩
      · have q1 : decide (0 < keep) = false := by simp; omega
        have q3 : ¬ (b.size : Int) < 0 := by omega
        have q4 : T = a := by rw [HT2]; simp
        clear HT2
        subst q4
        go_wp2_with (first
          | (go_at_call 18; (with_reducible refine (Append_nil _).mono ?_); rintro en w7 ⟨rfl, rfl⟩)
          | (go_at_call 10; (with_reducible refine (Sync_nil).mono ?_); rintro en w7 ⟨rfl, rfl⟩)
          | (go_at_call 12; (with_reducible refine (Cut_nil 0).mono ?_); rintro en w7 ⟨rfl, rfl⟩)
          | (go_at_call 21; (with_reducible refine (On_nil).mono ?_); rintro en w7 ⟨rfl, rfl⟩))
        go_ret
        exact ⟨rfl, HB6.out⟩
      · have q3 : decide ((b.size : Int) < (c : Int)) = false := by simp; omega
        have q5 : decide (b.size < c) = false := by simp; omega
        subst HT2
        go_wp2_with (first
          | (go_at_call 18; (with_reducible refine (Append_nil _).mono ?_); rintro en w7 ⟨rfl, rfl⟩)
          | (go_at_call 10; (with_reducible refine (Sync_nil).mono ?_); rintro en w7 ⟨rfl, rfl⟩)
          | (go_at_call 12; (with_reducible refine (Cut_nil 0).mono ?_); rintro en w7 ⟨rfl, rfl⟩)
          | (go_at_call 21; (with_reducible refine (On_nil).mono ?_); rintro en w7 ⟨rfl, rfl⟩))
        go_ret
        exact ⟨rfl, HB6.out⟩
      · have q3 : decide (keep < 0) = false := by simp; omega
        have q4 : T = a ++ b := by rw [HT2, ext_all]
        clear HT2
        subst q4
        go_wp2_with (first
          | (go_at_call 18; (with_reducible refine (Append_nil _).mono ?_); rintro en w7 ⟨rfl, rfl⟩)
          | (go_at_call 10; (with_reducible refine (Sync_nil).mono ?_); rintro en w7 ⟨rfl, rfl⟩)
          | (go_at_call 12; (with_reducible refine (Cut_nil 0).mono ?_); rintro en w7 ⟨rfl, rfl⟩)
          | (go_at_call 21; (with_reducible refine (On_nil).mono ?_); rintro en w7 ⟨rfl, rfl⟩))
        go_ret
        exact ⟨rfl, HB6.out⟩
end Go.Proofs.Ytobmfbafjpbkoaa
