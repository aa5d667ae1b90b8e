/-
  The law OctetReads returns true: any calls on a reader of any bytes decode what the reference says.
-/
import Derived.Test.YtlafpdhjknpfbaaOctS
import Derived.Test.YtlafpdhjknpfbaaOctG
import Derived.Test.YtlafpdhjknpfbaaRows
import Derived.ProofKit
import Derived.OpenShut
import Derived.ShutString
import Derived.ChangeOld
import Derived.Below
namespace Go.Proofs.Ytlafpdhjknpfbaa
open Go.RowKit Go.Instr Go.ChangeShapes Go.WideShapes Go.ChangeAt
open Go.ChangeMaps (open_string shut_string)

theorem end_clean {B : Nat} {r : ByteArray} {w : World} (h : ReaderAt w B r 0) (hr : r.size = 0) : Calls Try.prog 19 #[.pointer (some ⟨B, 0, none⟩)] w fun en w' => en = .returned (.int .i64 0) ∧ w = w' :=
  (end_any B r 0 w h).mono fun _ _ ⟨h1, h2⟩ => ⟨h1.trans (oEndInt (by unfold endF; rw [if_pos rfl, if_pos hr])), h2⟩
theorem end_more {B : Nat} {r : ByteArray} {w : World} (h : ReaderAt w B r 0) (hr : ¬ r.size = 0) : Calls Try.prog 19 #[.pointer (some ⟨B, 0, none⟩)] w fun en w' => en = .returned (.int .i64 3) ∧ w = w' :=
  (end_any B r 0 w h).mono fun _ _ ⟨h1, h2⟩ => ⟨h1.trans (oEndInt (by unfold endF; rw [if_pos rfl, if_neg hr])), h2⟩
theorem end_stuck {B : Nat} {r : ByteArray} {f : Int} {w : World} (h : ReaderAt w B r f) (hf : ¬ f = 0) : Calls Try.prog 19 #[.pointer (some ⟨B, 0, none⟩)] w fun en w' => en = .returned (.int .i64 f) ∧ w = w' :=
  (end_any B r f w h).mono fun _ _ ⟨h1, h2⟩ => ⟨h1.trans (oEndInt (by unfold endF; rw [if_neg hf])), h2⟩
set_option maxRecDepth 100000 in
set_option maxHeartbeats 4000000 in
theorem reads_cut (s t : ByteArray) (a1 : Option Addr) (n cap : Nat) (z : Nat → Int) (w : World) (h0 : s.size ≤ maxLen) (hn : n ≤ maxLen)
    (hrow : ∀ k, k < n → ∃ b off, a1 = some ⟨b, off, none⟩ ∧ w.cell? ⟨b, off + k, none⟩ = some (.int .i64 (z k)) ∧ -9223372036854775808 ≤ z k ∧ z k ≤ 9223372036854775807)
    (ht : t.size ≤ 100) (hcut : (s.size ≤ 100 ∧ t = s) ∨ (100 < s.size ∧ t = s.extract 0 100)) :
    Calls Try.prog 4 #[.string s, .slice a1 n cap] w fun e w' => e = .returned (.bool true) ∧ Below w.heap.size w w' := by
  unfold maxLen at h0 hn
  have HR := Lib.hid hrow
  clear hrow
  rcases hcut with ⟨hc, rfl⟩ | ⟨hc, hct⟩
  all_goals
    try (have hct2 := hct.symm; clear hct)
    go_enter Try.func4, Try.ntmps4
    go_wp2_with (first | (go_at_call 10; refine (speaks1 _).mono ?_; rintro e w1 ⟨rfl, hB1⟩; have HB1 := Lib.hid hB1; clear hB1) | (go_at_call 14; refine (read_any _ _).mono ?_; rintro e w2 ⟨rfl, rfl⟩))
    try clear hct2
    obtain ⟨B, hBB⟩ : ∃ B, B = w1.heap.size := ⟨_, rfl⟩
    have HRD : Hid (ReaderAt (w1.alloc (.cells #[.string t, .int .i64 0] 68)) w1.heap.size t 0) := heap_alloc_new _ _
    have HB2 : Hid (Below w.heap.size w (w1.alloc (.cells #[.string t, .int .i64 0] 68))) := HB1.out.alloc HB1.out.size _
    have hBw : w.heap.size ≤ B := by rw [hBB]; exact HB1.out.size
    rw [← hBB] at HRD ⊢
    clear hBB
    go_loopw [6, 7, 8] (fun r f i wr => ∃ (k : Nat) (rs : ByteArray) (bd : Int), k ≤ n ∧ i = .int .i64 k ∧ r = .string rs ∧ f = .int .i64 bd ∧ ReaderAt wr B rs bd ∧ rs.size ≤ 100 ∧ Below w.heap.size w wr) (fun _ _ i _ => (n - (intOf i).toNat))
    case atStart => exact ⟨0, t, 0, by omega, rfl, rfl, rfl, HRD.out, ht, HB2.out⟩
    case round =>
      obtain ⟨k, rs, bd, hkn, rfl, rfl, rfl, hrd, hrs, hB⟩ := hrel
      have HRD' := Lib.hid hrd
      have HB := Lib.hid hB
      clear hrd hB HRD HB2
      by_cases hlt : k < n ∧ k < 20
      · obtain ⟨hlt1, hlt2⟩ := hlt
        obtain ⟨b, off, rfl, hcell0, hz1, hz2⟩ := HR.out k hlt1
        have hcell := (HB.out.cell (p := ⟨b, off + k, none⟩) (World.block_lt_of_cell? _ _ hcell0)).trans hcell0
        clear hcell0
        generalize z k = x at *
        by_cases hx20 : x < 20
        · by_cases hbd : bd = 0
          · subst hbd
            by_cases hv1 : x < 1
            · go_wp2_with (first | (go_at_call 15; refine (num_inv HRD'.out (by omega) (.inl hv1)).mono ?_; rintro e w3 ⟨rfl, hR3, hG3⟩; have HR3 := Lib.hid hR3; have HG3 := Lib.hid hG3; clear hR3 hG3) | (go_at_call 18; refine (left_any _ _ _ _ HR3.out).mono ?_; rintro e w4 ⟨rfl, rfl⟩))
              go_roundw
              case rel => exact ⟨k + 1, rs, 4, by omega, by go_num, rfl, rfl, HR3.out, hrs, below_grown HB.out HG3.out hBw⟩
              case measure => simp [intOf]; omega
            · by_cases hv8 : 8 < x
              · go_wp2_with (first | (go_at_call 15; refine (num_inv HRD'.out (by omega) (.inr hv8)).mono ?_; rintro e w3 ⟨rfl, hR3, hG3⟩; have HR3 := Lib.hid hR3; have HG3 := Lib.hid hG3; clear hR3 hG3) | (go_at_call 18; refine (left_any _ _ _ _ HR3.out).mono ?_; rintro e w4 ⟨rfl, rfl⟩))
                go_roundw
                case rel => exact ⟨k + 1, rs, 4, by omega, by go_num, rfl, rfl, HR3.out, hrs, below_grown HB.out HG3.out hBw⟩
                case measure => simp [intOf]; omega
              · obtain ⟨m, rfl⟩ := Int.eq_ofNat_of_zero_le (show 0 ≤ x by omega)
                by_cases hfit : rs.size < m
                · go_wp2_with (first | (go_at_call 15; refine (num_short HRD'.out (by omega) (by omega) (by omega) hfit).mono ?_; rintro e w3 ⟨rfl, hR3, hG3⟩; have HR3 := Lib.hid hR3; have HG3 := Lib.hid hG3; clear hR3 hG3) | (go_at_call 18; refine (left_any _ _ _ _ HR3.out).mono ?_; rintro e w4 ⟨rfl, rfl⟩))
                  go_roundw
                  case rel => exact ⟨k + 1, rs, 2, by omega, by go_num, rfl, rfl, HR3.out, hrs, below_grown HB.out HG3.out hBw⟩
                  case measure => simp [intOf]; omega
                · have hfit2 : m ≤ rs.size := by omega
                  have hget : (rs.extract 0 m).size ≤ 8 := by simp; omega
                  have hnew : (rs.extract m rs.size).size ≤ 100 := by simp; omega
                  go_wp2_with (first | (go_at_call 15; refine (num_good HRD'.out (by omega) (by omega) (by omega) hfit2).mono ?_; rintro e w3 ⟨rfl, hR3, hG3⟩; have HR3 := Lib.hid hR3; have HG3 := Lib.hid hG3; clear hR3 hG3) | (go_at_call 18; refine (left_any _ _ _ _ HR3.out).mono ?_; rintro e w4 ⟨rfl, rfl⟩) | (go_at_call 20; refine (get_any _ _ hget).mono ?_; rintro e w5 ⟨rfl, rfl⟩))
                  go_roundw
                  case rel => exact ⟨k + 1, rs.extract m rs.size, 0, by omega, by go_num, rfl, rfl, HR3.out, hnew, below_grown HB.out HG3.out hBw⟩
                  case measure => simp [intOf]; omega
          · have hbb : (bd == 0) = false := by simpa using hbd
            have HBD := Lib.hid hbd
            clear hbd
            by_cases hv1 : x < 1
            · go_wp2_with (first | (go_at_call 15; refine (num_stuck HRD'.out (by omega) HBD.out).mono ?_; rintro e w3 ⟨rfl, hR3, hG3⟩; have HR3 := Lib.hid hR3; have HG3 := Lib.hid hG3; clear hR3 hG3) | (go_at_call 18; refine (left_any _ _ _ _ HR3.out).mono ?_; rintro e w4 ⟨rfl, rfl⟩))
              go_roundw
              case rel => exact ⟨k + 1, rs, bd, by omega, by go_num, rfl, rfl, HR3.out, hrs, below_grown HB.out HG3.out hBw⟩
              case measure => simp [intOf]; omega
            · by_cases hv8 : 8 < x
              · go_wp2_with (first | (go_at_call 15; refine (num_stuck HRD'.out (by omega) HBD.out).mono ?_; rintro e w3 ⟨rfl, hR3, hG3⟩; have HR3 := Lib.hid hR3; have HG3 := Lib.hid hG3; clear hR3 hG3) | (go_at_call 18; refine (left_any _ _ _ _ HR3.out).mono ?_; rintro e w4 ⟨rfl, rfl⟩))
                go_roundw
                case rel => exact ⟨k + 1, rs, bd, by omega, by go_num, rfl, rfl, HR3.out, hrs, below_grown HB.out HG3.out hBw⟩
                case measure => simp [intOf]; omega
              · go_wp2_with (first | (go_at_call 15; refine (num_stuck HRD'.out (by omega) HBD.out).mono ?_; rintro e w3 ⟨rfl, hR3, hG3⟩; have HR3 := Lib.hid hR3; have HG3 := Lib.hid hG3; clear hR3 hG3) | (go_at_call 18; refine (left_any _ _ _ _ HR3.out).mono ?_; rintro e w4 ⟨rfl, rfl⟩))
                go_roundw
                case rel => exact ⟨k + 1, rs, bd, by omega, by go_num, rfl, rfl, HR3.out, hrs, below_grown HB.out HG3.out hBw⟩
                case measure => simp [intOf]; omega
        · by_cases hx : x = 20
          · subst hx
            by_cases hr0 : rs.size = 0
            · have htn : rs.size < textN rs := by unfold textN; omega
              have HTN := Lib.hid htn
              have hrz : ¬ (0 : Int) < (rs.size : Int) := by omega
              have hrl : (rs.size : Int) - 1 < 0 := by omega
              clear htn hr0
              by_cases hbd : bd = 0
              · subst hbd
                go_wp2_with (first | (go_at_call 16; refine (text_short HRD'.out (by omega) HTN.out).mono ?_; rintro e w3 ⟨rfl, hR3, hG3⟩; have HR3 := Lib.hid hR3; have HG3 := Lib.hid hG3; clear hR3 hG3) | (go_at_call 18; refine (left_any _ _ _ _ HR3.out).mono ?_; rintro e w4 ⟨rfl, rfl⟩))
                go_roundw
                case rel => exact ⟨k + 1, rs, 2, by omega, by go_num, rfl, rfl, HR3.out, hrs, below_grown HB.out HG3.out hBw⟩
                case measure => simp [intOf]; omega
              · have hbb : (bd == 0) = false := by simpa using hbd
                have HBD := Lib.hid hbd
                clear hbd
                go_wp2_with (first | (go_at_call 16; refine (text_stuck HRD'.out (by omega) HBD.out).mono ?_; rintro e w3 ⟨rfl, hR3, hG3⟩; have HR3 := Lib.hid hR3; have HG3 := Lib.hid hG3; clear hR3 hG3) | (go_at_call 18; refine (left_any _ _ _ _ HR3.out).mono ?_; rintro e w4 ⟨rfl, rfl⟩))
                go_roundw
                case rel => exact ⟨k + 1, rs, bd, by omega, by go_num, rfl, rfl, HR3.out, hrs, below_grown HB.out HG3.out hBw⟩
                case measure => simp [intOf]; omega
            · have hpos : 0 < rs.size := by omega
              have hposi : (0 : Int) < (rs.size : Int) := by omega
              have hby := rs[0].toNat_lt
              have HTN : Hid (textN rs = 1 + rs[0].toNat) := by unfold textN; rw [List.getD_eq_getElem?_getD, List.getElem?_eq_getElem (by simpa using hpos)]; rfl
              clear hr0
              by_cases hbd : bd = 0
              · subst hbd
                by_cases hfit : rs.size < 1 + rs[0].toNat
                · have hfi : (rs.size : Int) - 1 < (rs[0].toNat : Int) := by omega
                  go_wp2_with (first | (go_at_call 16; refine (text_short HRD'.out (by omega) (by rw [HTN.out]; exact hfit)).mono ?_; rintro e w3 ⟨rfl, hR3, hG3⟩; have HR3 := Lib.hid hR3; have HG3 := Lib.hid hG3; clear hR3 hG3) | (go_at_call 18; refine (left_any _ _ _ _ HR3.out).mono ?_; rintro e w4 ⟨rfl, rfl⟩))
                  go_roundw
                  case rel => exact ⟨k + 1, rs, 2, by omega, by go_num, rfl, rfl, HR3.out, hrs, below_grown HB.out HG3.out hBw⟩
                  case measure => simp [intOf]; omega
                · have hfi : (rs[0].toNat : Int) ≤ (rs.size : Int) - 1 := by omega
                  have hnew : (rs.extract (1 + rs[0].toNat) rs.size).size ≤ 100 := by simp; omega
                  go_wp2_with (first | (go_at_call 16; refine (text_good HRD'.out (by omega) HTN.out (by omega)).mono ?_; rintro e w3 ⟨rfl, hR3, hG3⟩; have HR3 := Lib.hid hR3; have HG3 := Lib.hid hG3; clear hR3 hG3) | (go_at_call 18; refine (left_any _ _ _ _ HR3.out).mono ?_; rintro e w4 ⟨rfl, rfl⟩))
                  go_roundw
                  case rel => exact ⟨k + 1, rs.extract (1 + rs[0].toNat) rs.size, 0, by omega, by go_num, rfl, rfl, HR3.out, hnew, below_grown HB.out HG3.out hBw⟩
                  case measure => simp [intOf]; omega
              · have hbb : (bd == 0) = false := by simpa using hbd
                have HBD := Lib.hid hbd
                clear hbd
                go_wp2_with (first | (go_at_call 16; refine (text_stuck HRD'.out (by omega) HBD.out).mono ?_; rintro e w3 ⟨rfl, hR3, hG3⟩; have HR3 := Lib.hid hR3; have HG3 := Lib.hid hG3; clear hR3 hG3) | (go_at_call 18; refine (left_any _ _ _ _ HR3.out).mono ?_; rintro e w4 ⟨rfl, rfl⟩))
                go_roundw
                case rel => exact ⟨k + 1, rs, bd, by omega, by go_num, rfl, rfl, HR3.out, hrs, below_grown HB.out HG3.out hBw⟩
                case measure => simp [intOf]; omega
          · have hx21 : 20 < x := by omega
            have hxe : (x == 20) = false := by simpa using hx
            clear hx
            by_cases hbd : bd = 0
            · subst hbd
              by_cases hneg : x - 30 < 0
              · go_wp2_with (first | (go_at_call 17; refine (raw_inv HRD'.out (by omega) hneg).mono ?_; rintro e w3 ⟨rfl, hR3, hG3⟩; have HR3 := Lib.hid hR3; have HG3 := Lib.hid hG3; clear hR3 hG3) | (go_at_call 18; refine (left_any _ _ _ _ HR3.out).mono ?_; rintro e w4 ⟨rfl, rfl⟩))
                go_roundw
                case rel => exact ⟨k + 1, rs, 4, by omega, by go_num, rfl, rfl, HR3.out, hrs, below_grown HB.out HG3.out hBw⟩
                case measure => simp [intOf]; omega
              · obtain ⟨m, hm⟩ := Int.eq_ofNat_of_zero_le (show 0 ≤ x - 30 by omega)
                by_cases hfit : rs.size < m
                · have hfi : (rs.size : Int) < (m : Int) := by omega
                  clear hneg
                  go_wp2_with (first | (go_at_call 17; refine (raw_short HRD'.out (by omega) hfit).mono ?_; rintro e w3 ⟨rfl, hR3, hG3⟩; have HR3 := Lib.hid hR3; have HG3 := Lib.hid hG3; clear hR3 hG3) | (go_at_call 18; refine (left_any _ _ _ _ HR3.out).mono ?_; rintro e w4 ⟨rfl, rfl⟩))
                  go_roundw
                  case rel => exact ⟨k + 1, rs, 2, by omega, by go_num, rfl, rfl, HR3.out, hrs, below_grown HB.out HG3.out hBw⟩
                  case measure => simp [intOf]; omega
                · have hfit2 : m ≤ rs.size := by omega
                  have hfi : (m : Int) ≤ (rs.size : Int) := by omega
                  have hnew : (rs.extract m rs.size).size ≤ 100 := by simp; omega
                  clear hneg
                  go_wp2_with (first | (go_at_call 17; refine (raw_good HRD'.out (by omega) hfit2).mono ?_; rintro e w3 ⟨rfl, hR3, hG3⟩; have HR3 := Lib.hid hR3; have HG3 := Lib.hid hG3; clear hR3 hG3) | (go_at_call 18; refine (left_any _ _ _ _ HR3.out).mono ?_; rintro e w4 ⟨rfl, rfl⟩))
                  go_roundw
                  case rel => exact ⟨k + 1, rs.extract m rs.size, 0, by omega, by go_num, rfl, rfl, HR3.out, hnew, below_grown HB.out HG3.out hBw⟩
                  case measure => simp [intOf]; omega
            · have hbb : (bd == 0) = false := by simpa using hbd
              have HBD := Lib.hid hbd
              clear hbd
              by_cases hneg : x - 30 < 0
              · go_wp2_with (first | (go_at_call 17; refine (raw_stuck HRD'.out (by omega) HBD.out).mono ?_; rintro e w3 ⟨rfl, hR3, hG3⟩; have HR3 := Lib.hid hR3; have HG3 := Lib.hid hG3; clear hR3 hG3) | (go_at_call 18; refine (left_any _ _ _ _ HR3.out).mono ?_; rintro e w4 ⟨rfl, rfl⟩))
                go_roundw
                case rel => exact ⟨k + 1, rs, bd, by omega, by go_num, rfl, rfl, HR3.out, hrs, below_grown HB.out HG3.out hBw⟩
                case measure => simp [intOf]; omega
              · go_wp2_with (first | (go_at_call 17; refine (raw_stuck HRD'.out (by omega) HBD.out).mono ?_; rintro e w3 ⟨rfl, hR3, hG3⟩; have HR3 := Lib.hid hR3; have HG3 := Lib.hid hG3; clear hR3 hG3) | (go_at_call 18; refine (left_any _ _ _ _ HR3.out).mono ?_; rintro e w4 ⟨rfl, rfl⟩))
                go_roundw
                case rel => exact ⟨k + 1, rs, bd, by omega, by go_num, rfl, rfl, HR3.out, hrs, below_grown HB.out HG3.out hBw⟩
                case measure => simp [intOf]; omega
      · have hgu : n ≤ k ∨ (k < n ∧ 20 ≤ k) := by omega
        clear hlt
        rcases hgu with hgu | ⟨hgu1, hgu2⟩
        all_goals
          by_cases hbd : bd = 0
          · subst hbd
            by_cases hr0 : rs.size = 0
            · have hrz : ¬ (0 : Int) < (rs.size : Int) := by omega
              have HR0 := Lib.hid hr0
              clear hr0
              go_wp2_with (first | (go_at_call 19; (with_reducible refine (end_clean HRD'.out HR0.out).mono ?_); rintro e w3 ⟨rfl, rfl⟩) | (go_at_call 15; (with_reducible refine (rnum_nil _).mono ?_); rintro e w3 ⟨rfl, rfl⟩) | (go_at_call 16; (with_reducible refine (rtext_nil _).mono ?_); rintro e w3 ⟨rfl, rfl⟩) | (go_at_call 17; (with_reducible refine (rraw_nil _).mono ?_); rintro e w3 ⟨rfl, rfl⟩) | (go_at_call 18; (with_reducible refine (left_nil _).mono ?_); rintro e w3 ⟨rfl, rfl⟩) | (go_at_call 19; (with_reducible refine (end_nil _).mono ?_); rintro e w3 ⟨rfl, rfl⟩))
              go_ret
              exact ⟨rfl, HB.out⟩
            · have hrz : (0 : Int) < (rs.size : Int) := by omega
              have HR0 := Lib.hid hr0
              clear hr0
              go_wp2_with (first | (go_at_call 19; (with_reducible refine (end_more HRD'.out HR0.out).mono ?_); rintro e w3 ⟨rfl, rfl⟩) | (go_at_call 15; (with_reducible refine (rnum_nil _).mono ?_); rintro e w3 ⟨rfl, rfl⟩) | (go_at_call 16; (with_reducible refine (rtext_nil _).mono ?_); rintro e w3 ⟨rfl, rfl⟩) | (go_at_call 17; (with_reducible refine (rraw_nil _).mono ?_); rintro e w3 ⟨rfl, rfl⟩) | (go_at_call 18; (with_reducible refine (left_nil _).mono ?_); rintro e w3 ⟨rfl, rfl⟩) | (go_at_call 19; (with_reducible refine (end_nil _).mono ?_); rintro e w3 ⟨rfl, rfl⟩))
              go_ret
              exact ⟨rfl, HB.out⟩
          · have hbb : (bd == 0) = false := by simpa using hbd
            have HBD := Lib.hid hbd
            clear hbd
            go_wp2_with (first | (go_at_call 19; (with_reducible refine (end_stuck HRD'.out HBD.out).mono ?_); rintro e w3 ⟨rfl, rfl⟩) | (go_at_call 15; (with_reducible refine (rnum_nil _).mono ?_); rintro e w3 ⟨rfl, rfl⟩) | (go_at_call 16; (with_reducible refine (rtext_nil _).mono ?_); rintro e w3 ⟨rfl, rfl⟩) | (go_at_call 17; (with_reducible refine (rraw_nil _).mono ?_); rintro e w3 ⟨rfl, rfl⟩) | (go_at_call 18; (with_reducible refine (left_nil _).mono ?_); rintro e w3 ⟨rfl, rfl⟩) | (go_at_call 19; (with_reducible refine (end_nil _).mono ?_); rintro e w3 ⟨rfl, rfl⟩))
            go_ret
            exact ⟨rfl, HB.out⟩
end Go.Proofs.Ytlafpdhjknpfbaa
