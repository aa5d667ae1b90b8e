/-
  The law CrcSums returns true: the checksum of any texts, any text sealed and any bytes opened are what the reference says.
  Conditions: none: whatever the arguments that the types allow, the call returns true and leaves its arguments as they were.
-/
import Derived.Test.YtlafpdhjknpfbaaCrcC
import Derived.Test.YtlafpdhjknpfbaaCrcL
import Derived.Test.YtlafpdhjknpfbaaRows
import Derived.ProofKit
import Derived.OpenShut
import Derived.ShutString
import Derived.SliceStrings
import Derived.ChangeOld
import Derived.Below
namespace Go.Proofs.Ytlafpdhjknpfbaa
open Go.RowKit Go.Instr Go.ChangeShapes Go.WideShapes Go.ChangeAt
open Go.ChangeMaps (open_string shut_string)

theorem sums_own {w : World} {base : Nat} {v : Value} {n : Nat} {ss : List ByteArray} {al : ByteArray} (h : w.ownsRow base 9 1 v n (ss.map Value.string)) (hf : al.data.toList = flat ss) (ht : al.size ≤ 1000) :
    Calls Try.prog 23 #[v] w fun e w' => e = .returned (.int .u32 (crcN al.data.toList)) ∧ w = w' := by
  have hl : (flat ss).length ≤ maxLen := by rw [← hf]; exact Nat.le_trans ht (by decide)
  have := sum_any v ss w (strs_own h hl)
  rw [← hf] at this
  exact this
theorem whole_iff (t : ByteArray) (h4 : 4 ≤ t.size) : (t.extract 0 (t.size - 4) ++ sealB (t.extract 0 (t.size - 4)) = t) ↔ sealB (t.extract 0 (t.size - 4)) = t.extract (t.size - 4) t.size := by
  have hh := halves t (t.size - 4) (by omega)
  constructor
  · intro h
    apply Go.WideShapes.bytes_inj
    have h2 := congrArg (fun b : ByteArray => b.data.toList) h
    simp only [ByteArray.data_append, Array.toList_append] at h2
    rw [← hh] at h2
    conv at h2 => rhs; rw [hh]
    rw [← hh] at h2
    exact List.append_cancel_left h2
  · intro h
    apply Go.WideShapes.bytes_inj
    rw [h, ByteArray.data_append, Array.toList_append]
    exact hh
theorem sums_cases (t : ByteArray) : t.size < 4 ∨
    (4 ≤ t.size ∧ ((sealB (t.extract 0 (t.size - 4))).toList == (t.extract (t.size - 4) t.size).toList) = true ∧ ((t.extract 0 (t.size - 4) ++ sealB (t.extract 0 (t.size - 4))).toList == t.toList) = true) ∨
    (4 ≤ t.size ∧ ((sealB (t.extract 0 (t.size - 4))).toList == (t.extract (t.size - 4) t.size).toList) = false ∧ ((t.extract 0 (t.size - 4) ++ sealB (t.extract 0 (t.size - 4))).toList == t.toList) = false) := by
  by_cases h4 : t.size < 4
  · exact .inl h4
  · have h5 : 4 ≤ t.size := by omega
    right
    by_cases h : sealB (t.extract 0 (t.size - 4)) = t.extract (t.size - 4) t.size
    · exact .inl ⟨h5, by rw [beq_bytes]; exact decide_eq_true h, by rw [beq_bytes]; exact decide_eq_true ((whole_iff t h5).2 h)⟩
    · exact .inr ⟨h5, by rw [beq_bytes]; exact decide_eq_false h, by rw [beq_bytes]; exact decide_eq_false (fun h2 => h ((whole_iff t h5).1 h2))⟩
set_option maxHeartbeats 2000000 in
theorem sums_cut (s t : ByteArray) (a1 : Option Addr) (n cap : Nat) (z : Nat → ByteArray) (w : World) (h0 : s.size ≤ maxLen) (hn : n ≤ maxLen)
    (hrow : ∀ k, k < n → ∃ b off, a1 = some ⟨b, off, none⟩ ∧ w.cell? ⟨b, off + k, none⟩ = some (.string (z k)) ∧ (z k).size ≤ maxLen)
    (ht : t.size ≤ 100) (hcut : (s.size ≤ 100 ∧ t = s) ∨ (100 < s.size ∧ t = s.extract 0 100)) :
    Calls Try.prog 6 #[.slice a1 n cap, .string s] w fun e w' => e = .returned (.bool true) ∧ Below w.heap.size w w' := by
  unfold maxLen at h0 hn
  obtain ⟨i0, hi, hz0, hz1, hz2⟩ := info_parts Try.info9
  have HI := Lib.hid hi
  have HZ0 := Lib.hid hz0
  have HZ1 := Lib.hid hz1
  have HZ2 := Lib.hid hz2
  have HR := Lib.hid hrow
  clear hi hz0 hz1 hz2 hrow
  rcases hcut with ⟨hc, rfl⟩ | ⟨hc, hct⟩
  all_goals
    try (have hct2 := hct.symm; clear hct)
    go_enter Try.func6, Try.ntmps6
    go_wp2_with (first | (go_at_call 22; refine (speaks2 _).mono ?_; rintro e w1 ⟨rfl, hB1⟩))
    try clear hct2
    have HB1 := Lib.hid hB1
    clear hB1
    go_loopw [5, 6, 7] (fun r l i wr => ∃ (k : Nat) (ss : List ByteArray) (al : ByteArray), k ≤ 8 ∧ k ≤ n ∧ i = .int .i64 k ∧ r = .string al ∧ ss.length = k ∧ wr.ownsRow w.heap.size 9 1 l k (ss.map Value.string) ∧ al.data.toList = flat ss ∧ al.size ≤ 40 * k ∧ Below w.heap.size w wr) (fun _ _ i _ => (n - (intOf i).toNat))
    case atStart => exact ⟨0, [], ByteArray.empty, by omega, by omega, rfl, rfl, rfl, World.ownsRow_nil _ _ _ _, rfl, by decide, HB1.out⟩
    case round =>
      obtain ⟨k, ss, al, hk12, hkn, rfl, rfl, hss, hown, hfl, hal, hB⟩ := hrel
      have HOWN := Lib.hid hown
      have HFL := Lib.hid hfl
      have HB := Lib.hid hB
      have HSS := Lib.hid hss
      clear hown hfl hB hss
      by_cases hlt : k < n ∧ k < 8
      · obtain ⟨hlt1, hlt2⟩ := hlt
        obtain ⟨b, off, rfl, hcell0, hzk⟩ := HR.out k hlt1
        have hcell := (HB.out.cell (p := ⟨b, off + k, none⟩) (World.block_lt_of_cell? _ _ hcell0)).trans hcell0
        clear hcell0
        unfold maxLen at hzk
        go_wp2
        go_quiet (fail)
        obtain ⟨x, hx⟩ : ∃ x, x = (z k).extract 0 (if 40 < ((z k).size : Int) then 40 else ((z k).size : Int)).toNat := ⟨_, rfl⟩
        have hx40 : x.size ≤ 40 := by rw [hx]; simp; split <;> omega
        rw [← hx]
        clear hx
        have HOWNq : Hid ((wr.drewN nq).ownsRow w.heap.size 9 1 u6 k (ss.map Value.string)) := HOWN.out
        have HBq : Hid (Below w.heap.size w (wr.drewN nq)) := HB.out.trans ⟨rfl, rfl, rfl, Nat.le_refl _, fun _ _ => rfl⟩
        have happ : ∀ a b : ByteArray, (a ++ b).size = a.size + b.size := fun a b => ByteArray.size_append
        clear hcell
        generalize wr.drewN nq = wq at *
        go_wp2_with (first | (at_builtin; refine wpList_append_own1 _ rfl (.tmp 39) (.tmp 41) 52 rfl w.heap.size 9 i0 (.string ByteArray.empty) 1 16 Try.underlying52 HI.out HZ0.out HZ1.out HZ2.out rfl (by decide) u6 k _ rfl (HOWNq.out.alloc _) ⟨wq.heap.size, 0, none⟩ 1 1 [.string x] rfl rfl (cell_one_new _ _ _) (by simp [Value.oneCell']) (by unfold maxLen; omega) (by omega) (by have := HBq.out.size; simp; omega) (by decide) ?_; intro g3 c3 w3 hg3 hown3 hgrow3; have HG3 := Lib.hid hg3; have HOWN3 := Lib.hid hown3; have HGR3 := Lib.hid hgrow3; clear hg3 hown3 hgrow3))
        go_roundw
        case rel => exact ⟨k + 1, ss ++ [x], al ++ x, by omega, by omega, by go_num, rfl, by rw [List.length_append, HSS.out]; rfl, by rw [List.map_append]; exact HOWN3.out, by rw [flat_add, ByteArray.data_append, Array.toList_append, HFL.out], by rw [happ]; omega, (HBq.out.alloc (by have := HBq.out.size; omega) _).grown HGR3.out (by have := HBq.out.size; simp; omega) (fun j hj => (HOWNq.out.lt j hj).1)⟩
        case measure => simp [intOf]; omega
      · have hgu : n ≤ k ∨ (k < n ∧ 8 ≤ k) := by omega
        clear hlt
        have h6 : ((t.size : Int) - 4).toNat = t.size - 4 := by omega
        have hu : (t.extract 0 (t.size - 4)).size ≤ 900000 := by simp; omega
        rcases hgu with hgu | ⟨hgu1, hgu2⟩
        all_goals
          rcases sums_cases t with h4 | ⟨h4, hb, hb2⟩ | ⟨h4, hb, hb2⟩
          · have h4i : (t.size : Int) < 4 := by omega
            clear h6 hu
            go_wp2_with (first | (go_at_call 23; (with_reducible refine (sums_own HOWN.out HFL.out (by omega)).mono ?_); rintro e w' ⟨rfl, rfl⟩) | (go_at_call 24; (with_reducible refine (refSum_any _ _ (by omega)).mono ?_); rintro e w' ⟨rfl, rfl⟩) | (go_at_call 25; (with_reducible refine (Seal_any _ _ (by omega)).mono ?_); rintro e w3 ⟨rfl, hB3⟩) | (go_at_call 26; (with_reducible refine (refSeal_any _ _ (by omega)).mono ?_); rintro e w4 ⟨rfl, hB4⟩) | (go_at_call 27; (with_reducible refine (Open_short _ _ h4).mono ?_); rintro e w5 ⟨rfl, hB5⟩))
            go_ret
            exact ⟨rfl, below_on (below_on (below_on HB.out hB3) hB4) hB5⟩
          · have h4i : 4 ≤ (t.size : Int) := by omega
            go_wp2_with (first | (go_at_call 23; (with_reducible refine (sums_own HOWN.out HFL.out (by omega)).mono ?_); rintro e w' ⟨rfl, rfl⟩) | (go_at_call 24; (with_reducible refine (refSum_any _ _ (by omega)).mono ?_); rintro e w' ⟨rfl, rfl⟩) | (go_at_call 25; (with_reducible refine (Seal_any _ _ (by omega)).mono ?_); rintro e w3 ⟨rfl, hB3⟩) | (go_at_call 26; (with_reducible refine (refSeal_any t _ (by omega)).mono ?_); rintro e w4 ⟨rfl, hB4⟩) | (go_at_call 27; (with_reducible refine (Open_good _ _ h4 (by omega) hb).mono ?_); rintro e w5 ⟨rfl, hB5⟩) | (go_at_call 26; (with_reducible refine (refSeal_any (t.extract 0 (t.size - 4)) _ hu).mono ?_); rintro e w6 ⟨rfl, hB6⟩))
            go_ret
            exact ⟨rfl, below_on (below_on (below_on (below_on HB.out hB3) hB4) hB5) hB6⟩
          · have h4i : 4 ≤ (t.size : Int) := by omega
            go_wp2_with (first | (go_at_call 23; (with_reducible refine (sums_own HOWN.out HFL.out (by omega)).mono ?_); rintro e w' ⟨rfl, rfl⟩) | (go_at_call 24; (with_reducible refine (refSum_any _ _ (by omega)).mono ?_); rintro e w' ⟨rfl, rfl⟩) | (go_at_call 25; (with_reducible refine (Seal_any _ _ (by omega)).mono ?_); rintro e w3 ⟨rfl, hB3⟩) | (go_at_call 26; (with_reducible refine (refSeal_any t _ (by omega)).mono ?_); rintro e w4 ⟨rfl, hB4⟩) | (go_at_call 27; (with_reducible refine (Open_bad _ _ h4 (by omega) hb).mono ?_); rintro e w5 ⟨rfl, hB5⟩) | (go_at_call 26; (with_reducible refine (refSeal_any (t.extract 0 (t.size - 4)) _ hu).mono ?_); rintro e w6 ⟨rfl, hB6⟩))
            go_ret
            exact ⟨rfl, below_on (below_on (below_on (below_on HB.out hB3) hB4) hB5) hB6⟩

/-- What the walk is told of a slice of texts that came in: nil, or it leads to a row of cells that are texts. -/
def IsTexts (w : World) (a : Option Addr) (len cap : Nat) (ss : List ByteArray) : Prop :=
  (a = none ∧ len = 0 ∧ cap = 0) ∨
  ∃ x, a = some x ∧ len ≤ cap ∧ cap ≤ maxLen ∧ ss.length = cap ∧ (∀ i, i < ss.length → w.cell? (x.add i) = some (.string (ss.getD i ByteArray.empty))) ∧ ∀ s ∈ ss, s.size ≤ maxLen
theorem sums_walk (a1 : Option Addr) (len cap : Nat) (ss : List ByteArray) (s : ByteArray) (w : World) (h0 : s.size ≤ maxLen) (h1 : IsTexts w a1 len cap ss) :
    Calls Try.prog 6 #[.slice a1 len cap, .string s] w fun e w' => e = .returned (.bool true) ∧ Below w.heap.size w w' := by
  have hlen : len ≤ maxLen := by
    rcases h1 with ⟨_, rfl, _⟩ | ⟨x, _, hl, hm, _⟩
    · exact Nat.zero_le _
    · omega
  have hrow : ∀ k, k < len → ∃ b off, a1 = some ⟨b, off, none⟩ ∧ w.cell? ⟨b, off + k, none⟩ = some (.string (ss.getD k ByteArray.empty)) ∧ (ss.getD k ByteArray.empty).size ≤ maxLen := by
    intro k hk
    rcases h1 with ⟨_, rfl, _⟩ | ⟨⟨b, off, spot⟩, rfl, hl, hm, hz, hcell, hwz⟩
    · omega
    · have hc := hcell k (by omega)
      have hmem : ss.getD k ByteArray.empty ∈ ss := by
        rw [List.getD_eq_getElem?_getD, List.getElem?_eq_getElem (by omega)]
        exact List.getElem_mem _
      have h00 := hcell 0 (by omega)
      have hspot : spot = none := by simpa [Addr.add] using World.cell?_spot h00
      subst hspot
      have e2 : (⟨b, off, none⟩ : Addr).add k = ⟨b, off + k, none⟩ := by unfold Addr.add; split <;> simp_all
      rw [e2] at hc
      exact ⟨b, off, rfl, hc, hwz _ hmem⟩
  by_cases h : s.size ≤ 100
  · exact sums_cut s s a1 len cap _ w h0 hlen hrow h (.inl ⟨h, rfl⟩)
  · exact sums_cut s (s.extract 0 100) a1 len cap _ w h0 hlen hrow (by simp; omega) (.inr ⟨by omega, rfl⟩)
theorem crcSums_own : ownKnob Try.prog.godebug = none := by kernel_rfl
theorem crcSums_laidOut : laidOutB Try.prog = true := by kernel_rfl
set_option maxRecDepth 100000 in
theorem crcSums_lifted (os : Os) (started : os.Started) (H : Type) (enc : TypeId × Value → H) :
    ReturnsInHanded {} Try.checked os 6 .any (Rows.crcSumsSpec.pre6 enc Try.prog Try.f6 Rows.crcSumsRow.domain false) (Rows.crcSumsSpec.post enc Try.prog Try.f6 false true false false) := by
  refine returnsInHanded_of_change (C := Try.checked) crcSums_own started (by kernel_rfl) Try.func6
    (ChangeSpec.witness6 (enc := enc) (C := Try.checked) false ⟨#[], #[.slice none 0 0, .string ByteArray.empty], []⟩ 8 (by kernel_rfl) (by kernel_rfl) (by kernel_rfl) (by kernel_rfl)) ?_
  intro W base args ds gs before hval0 hW hcnd _
  have hval : ∀ (j : Nat) t v, Try.f6.params[j]? = some t → args[j]? = some v → Value.okWide Try.prog W .any base t v := hval0
  have hW' := hW
  obtain ⟨p, q, hA0, hV, rfl, hfz, hnd⟩ := hW
  have hA : DataW.TrodAll enc Try.prog W 0 (fun _ => true) true Try.f6.params.toList args.toList ds p := hA0
  rw [Try.params6] at hA hval
  obtain ⟨v0, vs0, d0, ds0, p0, q0, hargs, rfl, rfl, h0, r0⟩ := trodAll_cons hA
  obtain ⟨v1, vs1, d1, ds1, p1, q1, rfl, rfl, rfl, h1, r1⟩ := trodAll_cons r0
  obtain ⟨rfl, rfl, rfl⟩ := trodAll_nil r1
  obtain rfl : args = #[v0, v1] := by cases args; simp_all
  obtain ⟨rfl, rfl⟩ := trodVars_none hV
  obtain ⟨a1, rfl, rfl, rfl, w1⟩ := open_string Try.underlying9 (hval 1 9 v1 rfl rfl) h1
  obtain ⟨a0, len0, cap0, rfl⟩ := okWide_slice Try.underlying52 (hval 0 52 v0 rfl rfl)
  have k0 := h0
  have lt0 : ∀ x ∈ p0, x.block < W.heap.size := by obtain ⟨m, hm⟩ := k0; exact DataW.trod_lt m _ _ _ hm
  obtain ⟨ss, w0⟩ : ∃ ss, IsTexts W a0 len0 cap0 ss := by
    obtain ⟨fuel, hf⟩ := h0
    rcases open_strings Try.underlying52 Try.underlying9 (by kernel_rfl) hf with ⟨hcs, _⟩ | ⟨x, l, c, ss, hcs, _, hl, hm, hz, _, hcell, hwz⟩
    · simp [Value.cells] at hcs
      obtain ⟨rfl, rfl, rfl⟩ := hcs
      exact ⟨[], .inl ⟨rfl, rfl, rfl⟩⟩
    · simp [Value.cells] at hcs
      obtain ⟨rfl, rfl, rfl⟩ := hcs
      exact ⟨ss, .inr ⟨_, rfl, hl, hm, by simpa using hz, hcell, hwz⟩⟩
  clear hA0 hval0
  refine (sums_walk a0 len0 cap0 ss a1 W w1 w0).mono fun e W' ⟨he, bel⟩ => ?_
  subst he
  exact ⟨_, rfl, _, _, _, [], _, [], hW', trodAll_mk1 (shut_bool Try.underlying4 _), (trodAll_cons_mk (Below.trod crcSums_laidOut (by kernel_rfl) (of_decide_eq_true (by kernel_rfl)) k0 bel lt0) (trodAll_cons_mk (shut_string Try.underlying9 w1) trodAll_mk0)), rfl, bel.frame _, fun h => by cases h⟩

theorem crcSums_over : Rows.crcSumsRow.holds Try.pinned (OpenSpec.ofChange Rows.crcSumsSpec) :=
  OpenClaim.holds_of_wide 6 Try.f6 rfl rfl rfl rfl rfl rfl rfl ⟨rfl, rfl, rfl, rfl, rfl⟩ rfl rfl rfl rfl rfl (by kernel_rfl) Try.func6 (by kernel_rfl)
    (of_decide_eq_true (by kernel_rfl)) (by unfold Func.isWrapper; first | (rw [if_pos (by decide +kernel)]; kernel_rfl) | (rw [if_neg (by decide +kernel)]; exact ⟨rfl, rfl⟩))
    (fun os started H enc _ => crcSums_lifted os started H enc)

/-- The statement. -/
theorem crcSums_holds : Rows.CrcSumsSaid := crcSums_over
#print axioms crcSums_holds
end Go.Proofs.Ytlafpdhjknpfbaa
