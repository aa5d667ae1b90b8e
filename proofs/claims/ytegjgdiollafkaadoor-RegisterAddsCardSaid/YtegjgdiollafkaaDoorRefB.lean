/-
  The walk of the reference's Number: what it reads, digit by digit.
-/
import Derived.Test.YtegjgdiollafkaaDoorRefA
namespace Go.Proofs.YtegjgdiollafkaaDoor
open Go.RowKit Go.Instr

set_option maxHeartbeats 1000000 in
theorem refNumber_none (s : ByteArray) (w : World) : Calls Tryd.prog 16 #[.agg #[.bool false, .string s]] w fun en w' => en = .returned (.tuple #[.int .i64 0, .bool true]) ∧ Below w.heap.size w w' := by
  go_enter Tryd.func16, Tryd.ntmps16
  go_wp2
  go_ret2
  exact ⟨rfl, by go_grown⟩
theorem neg_append (a b : List UInt8) : ∀ n, negParse n (a ++ b) = (negParse n a).bind fun m => negParse m b := by
  induction a with
  | nil => intro n; rfl
  | cons c a ih =>
    intro n
    simp only [List.cons_append, negParse]
    split
    · rfl
    · split
      · rfl
      · exact ih _
theorem neg_bound (l : List UInt8) : ∀ n m, -9223372036854775808 ≤ n → n ≤ 0 → negParse n l = some m → -9223372036854775808 ≤ m ∧ m ≤ 0 := by
  induction l with
  | nil => intro n m h0 h1 h; simp only [negParse, Option.some.injEq] at h; omega
  | cons c l ih =>
    intro n m h0 h1 h
    simp only [negParse] at h
    split at h
    · cases h
    · split at h
      · cases h
      · exact ih _ m (by omega) (by omega) h
/-- What the reference has behind the sign: the rest of the text, and whether there is a sign. -/
def Kind (s r : ByteArray) (b : Bool) : Prop :=
  refNum s.data.toList = if r.size = 0 ∨ 19 < r.size then none else (negParse 0 r.data.toList).bind fun n => if b = true then some n else if n = -9223372036854775808 then none else some (-n)
theorem kind_minus (s : ByteArray) (h : 0 < s.size) (h1 : s[0].toNat = 45) : Kind s (s.extract 1 s.size) true := by
  have e : s.data.toList = s[0] :: (s.extract 1 s.size).data.toList := by
    rw [Lib.extract_data]
    have hl : s.data.toList.length = s.size := rfl
    have h2 : 0 < s.data.toList.length := by omega
    rw [List.take_of_length_le (by rw [List.length_drop]; omega)]
    have := List.drop_eq_getElem_cons (l := s.data.toList) (i := 0) h2
    simp only [List.drop_zero] at this
    rw [this]
    rfl
  unfold Kind
  have hz : (s.extract 1 s.size).size = (s.extract 1 s.size).data.toList.length := rfl
  rw [e, refNum, if_pos h1, hz]
  generalize (s.extract 1 s.size).data.toList = l
  simp only [if_true]
  by_cases hl : l = [] ∨ 19 < l.length
  · rw [if_pos hl, if_pos (by rcases hl with rfl | hl; exact .inl rfl; exact .inr hl)]
  · rw [if_neg hl, if_neg (by rintro (h | h); exact hl (.inl (List.eq_nil_of_length_eq_zero h)); exact hl (.inr h))]
    cases negParse 0 l <;> rfl
theorem kind_plain (s : ByteArray) (h : ∀ h : 0 < s.size, ¬ s[0].toNat = 45) : Kind s s false := by
  unfold Kind
  have hz : s.size = s.data.toList.length := rfl
  have h2 : ∀ c r, s.data.toList = c :: r → ¬ c.toNat = 45 := by
    intro c r hc
    have h0 : 0 < s.size := by rw [hz, hc]; simp
    have := h h0
    have e : s[0] = c := by
      show s.data[0] = c
      have : s.data.toList[0]'(by rw [hc]; simp) = c := by simp [hc]
      simpa using this
    rwa [e] at this
  rw [hz]
  generalize s.data.toList = l at h2
  cases l with
  | nil => rfl
  | cons c r =>
    unfold refNum
    simp only
    rw [if_neg (h2 c r rfl)]
    by_cases hl : 19 < (c :: r).length
    · rw [if_pos hl, if_pos (.inr hl)]
    · rw [if_neg hl, if_neg (by rintro (h | h); simp at h; exact hl h)]
      rfl
def refRes (s : ByteArray) : Int × Bool := match refNum s.data.toList with | .none => (0, false) | .some m => (m, decide (Lib.itoa m = s.data.toList))
theorem kind_no {s r : ByteArray} {b : Bool} (h : Kind s r b) (hr : r.size = 0 ∨ 19 < r.size) : refRes s = (0, false) := by
  unfold refRes
  rw [h, if_pos hr]
theorem kind_fail {s r : ByteArray} {b : Bool} (h : Kind s r b) (hf : negParse 0 r.data.toList = none) : refRes s = (0, false) := by
  unfold refRes
  rw [h]
  split
  · rfl
  · next hx =>
    rw [hf] at hx
    split at hx <;> cases hx
theorem kind_ok {s r : ByteArray} {m : Int} (h : Kind s r true) (hr : ¬ (r.size = 0 ∨ 19 < r.size)) (hm : negParse 0 r.data.toList = some m) : refRes s = (m, decide (Lib.itoa m = s.data.toList)) := by
  unfold refRes
  rw [h, if_neg hr, hm]
  rfl
theorem kind_plus {s r : ByteArray} {m : Int} (h : Kind s r false) (hr : ¬ (r.size = 0 ∨ 19 < r.size)) (hm : negParse 0 r.data.toList = some m) (h1 : ¬ m = -9223372036854775808) : refRes s = (-m, decide (Lib.itoa (-m) = s.data.toList)) := by
  unfold refRes
  rw [h, if_neg hr, hm]
  simp only [Option.bind_some, Bool.false_eq_true, if_false, if_neg h1]
theorem kind_least {s r : ByteArray} (h : Kind s r false) (hm : negParse 0 r.data.toList = some (-9223372036854775808)) : refRes s = (0, false) := by
  unfold refRes
  rw [h]
  split
  · rfl
  · next hx =>
    rw [hm] at hx
    split at hx
    · cases hx
    · simp at hx
theorem take_next (r : ByteArray) (k : Nat) (h : k < r.size) : r.data.toList.take (k + 1) = r.data.toList.take k ++ [r[k]] := by
  rw [List.take_succ_eq_append_getElem (by simpa using h)]
  rfl
theorem step_fail {r : ByteArray} {k : Nat} {m : Int} (h : k < r.size) (hm : negParse 0 (r.data.toList.take k) = some m) (hf : negParse m [r[k]] = none) : negParse 0 r.data.toList = none := by
  rw [← List.take_append_drop (k + 1) r.data.toList, take_next r k h, neg_append, neg_append, hm]
  simp [hf]
theorem step_next {r : ByteArray} {k : Nat} {m : Int} (h : k < r.size) (hm : negParse 0 (r.data.toList.take k) = some m) : negParse 0 (r.data.toList.take (k + 1)) = negParse m [r[k]] := by
  rw [take_next r k h, neg_append, hm]; rfl
theorem one_no (m : Int) (c : UInt8) (h : c.toNat < 48 ∨ 57 < c.toNat) : negParse m [c] = none := by
  simp only [negParse]; rw [if_pos h]
theorem one_big (m : Int) (c : UInt8) (h : m < -922337203685477580 ∨ (m = -922337203685477580 ∧ 8 < (c.toNat : Int) - 48)) : negParse m [c] = none := by
  simp only [negParse]; split
  · rfl
  · simp
theorem one_ok (m : Int) (c : UInt8) (h : ¬ (c.toNat < 48 ∨ 57 < c.toNat)) (h1 : ¬ (m < -922337203685477580 ∨ (m = -922337203685477580 ∧ 8 < (c.toNat : Int) - 48))) : negParse m [c] = some (10 * m - ((c.toNat : Int) - 48)) := by
  simp only [negParse]; rw [if_neg h, if_neg h1]
theorem eq_text (m : Int) (s : ByteArray) : (Lib.itoa m == s.toList) = decide (Lib.itoa m = s.data.toList) := by
  rw [Bool.eq_iff_iff, beq_iff_eq, decide_eq_true_iff, ByteArray.toList_eq]
/-- What the loop over the digits holds. -/
def NumLoop (r : ByteArray) (w0 : World) (n i : Value) (wr : World) : Prop :=
  ∃ (k : Nat) (m : Int), k ≤ r.size ∧ i = .int .i64 k ∧ n = .int .i64 m ∧ negParse 0 (r.data.toList.take k) = some m ∧ wr = w0
theorem ret_num {a b : Int × Bool} (h : a = b) : Ending.returned (.tuple #[.int .i64 b.1, .bool b.2]) = .returned (.tuple #[.int .i64 a.1, .bool a.2]) := by rw [h]
set_option maxHeartbeats 2000000 in
theorem refNumber_minus (s r : ByteArray) (w : World) (hs : s.size ≤ 1000000) (h0 : 0 < s.size) (h1 : ((s[0].toNat : Int) == 45) = true) (hr : s.extract 1 s.size = r) (hk : Kind s r true) (hg : ¬ (r.size = 0 ∨ 19 < r.size)) : Calls Tryd.prog 16 #[.agg #[.bool true, .string s]] w fun en w' => en = .returned (.tuple #[.int .i64 (refRes s).1, .bool (refRes s).2]) ∧ Below w.heap.size w w' := by
  have HK := Lib.hid hk
  have hrs : r.size = s.size - 1 := by rw [← hr]; simp
  clear hk
  have hg1 : ¬ s.size - 1 = 0 := by omega
  have hg2 : s.size - 1 ≤ 19 := by omega
  go_enter Tryd.func16, Tryd.ntmps16
  go_wp2
  · exfalso; rename_i hh; simp at hh; omega
  clear hr
  go_loopw [6, 7] (fun n i wr => NumLoop r (w.alloc (.cells #[.bool true, .string s] 27)) n i wr) (fun _ i _ => (r.size - (intOf i).toNat))
  case atStart => exact ⟨0, 0, by omega, rfl, rfl, rfl, rfl⟩
  case round =>
    obtain ⟨k, m, hk, rfl, rfl, hm, rfl⟩ := hrel
    have hmb := neg_bound _ _ _ (by decide) (by decide) hm
    have HM := Lib.hid hm
    clear hm
    by_cases hlt : k < r.size
    · by_cases h1 : r[k].toNat < 48
      · have hx := h1
        have HF := Lib.hid (kind_fail HK.out (step_fail hlt HM.out (one_no m _ (.inl hx))))
        go_wp2
        go_ret2
        exact ⟨(ret_num HF.out), Below.alloc (Below.refl _ _) (Nat.le_refl _) _⟩
      · by_cases h2 : 57 < r[k].toNat
        · have hx := h2
          have HF := Lib.hid (kind_fail HK.out (step_fail hlt HM.out (one_no m _ (.inr hx))))
          go_wp2
          go_ret2
          exact ⟨(ret_num HF.out), Below.alloc (Below.refl _ _) (Nat.le_refl _) _⟩
        · by_cases h3 : m < -922337203685477580
          · have hx := h3
            have HF := Lib.hid (kind_fail HK.out (step_fail hlt HM.out (one_big m _ (.inl hx))))
            go_wp2
            go_ret2
            exact ⟨(ret_num HF.out), Below.alloc (Below.refl _ _) (Nat.le_refl _) _⟩
          · by_cases h4 : m = -922337203685477580
            · subst h4
              by_cases h5 : 56 < r[k].toNat
              · have hx := h5
                have HF := Lib.hid (kind_fail HK.out (step_fail hlt HM.out (one_big _ _ (.inr ⟨rfl, by omega⟩))))
                go_wp2
                go_ret2
                exact ⟨(ret_num HF.out), Below.alloc (Below.refl _ _) (Nat.le_refl _) _⟩
              · have hx := h5
                have HN := Lib.hid ((step_next hlt HM.out).trans (one_ok _ _ (by omega) (by omega)))
                go_wp2
                go_roundw
                case rel => exact ⟨_, _, _, _, ⟨k + 1, _, by omega, rfl, rfl, HN.out, rfl⟩, rfl, rfl, by first | rfl | go_num, by go_num⟩
                case measure => simp [intOf]; omega
            · have hx := h4
              have HN := Lib.hid ((step_next hlt HM.out).trans (one_ok _ _ (by omega) (by omega)))
              go_wp2
              go_roundw
              case rel => exact ⟨_, _, _, _, ⟨k + 1, _, by omega, rfl, rfl, HN.out, rfl⟩, rfl, rfl, by first | rfl | go_num, by go_num⟩
              case measure => simp [intOf]; omega
    · obtain rfl : k = r.size := by omega
      have hall : negParse 0 r.data.toList = some m := by
        have := HM.out
        rwa [List.take_of_length_le (by exact Nat.le_refl _)] at this
      have HO := Lib.hid (kind_ok HK.out hg hall)
      have HIN : Hid (in64 m) := ⟨hmb.1, by omega⟩
      clear hall
      go_wp2
      have x1 : (w.alloc (.cells #[.bool true, .string s] 27)).cell? ⟨w.heap.size, 1, none⟩ = some (.string s) := by simp
      have x1 := onto_cell x1
      refine wp_region_onto (by kernel_rfl) (by kernel_rfl) ?_
      repeat (go_big_quiet_step ((go_at_call 17; exact onto_calls (refDigits_any _ _ HIN.out))))
      refine wpQuiet_nil ?_
      intro _ hw'
      obtain ⟨z, hw''⟩ := hw'
      subst hw''
      have HZ := Lib.hid (onto_below (w.alloc (.cells #[.bool true, .string s] 27)) z)
      clear x1
      go_wp2
      go_ret2
      refine ⟨?_, g_below_on (Below.alloc (Below.refl _ _) (Nat.le_refl _) _) HZ.out⟩
      rw [HO.out, ← eq_text]
      rfl
set_option maxHeartbeats 2000000 in
theorem refNumber_plain (r : ByteArray) (w : World) (h0 : 0 < r.size) (h1 : ((r[0].toNat : Int) == 45) = false) (hk : Kind r r false) (hg : ¬ (r.size = 0 ∨ 19 < r.size)) : Calls Tryd.prog 16 #[.agg #[.bool true, .string r]] w fun en w' => en = .returned (.tuple #[.int .i64 (refRes r).1, .bool (refRes r).2]) ∧ Below w.heap.size w w' := by
  have HK := Lib.hid hk
  clear hk
  have hg2 : r.size ≤ 19 := by omega
  have hne : ¬ r = ByteArray.empty := by rintro rfl; exact absurd h0 (by decide)
  go_enter Tryd.func16, Tryd.ntmps16
  go_wp2
  · exfalso; rename_i hh; rcases hh with hh | hh
    · have := eq_of_beq hh; omega
    · omega
  go_loopw [6, 7] (fun n i wr => NumLoop r (w.alloc (.cells #[.bool true, .string r] 27)) n i wr) (fun _ i _ => (r.size - (intOf i).toNat))
  case atStart => exact ⟨0, 0, by omega, rfl, rfl, rfl, rfl⟩
  case round =>
    obtain ⟨k, m, hk, rfl, rfl, hm, rfl⟩ := hrel
    have hmb := neg_bound _ _ _ (by decide) (by decide) hm
    have HM := Lib.hid hm
    clear hm
    by_cases hlt : k < r.size
    · by_cases h1 : r[k].toNat < 48
      · have hx := h1
        have HF := Lib.hid (kind_fail HK.out (step_fail hlt HM.out (one_no m _ (.inl hx))))
        go_wp2
        go_ret2
        exact ⟨(ret_num HF.out), Below.alloc (Below.refl _ _) (Nat.le_refl _) _⟩
      · by_cases h2 : 57 < r[k].toNat
        · have hx := h2
          have HF := Lib.hid (kind_fail HK.out (step_fail hlt HM.out (one_no m _ (.inr hx))))
          go_wp2
          go_ret2
          exact ⟨(ret_num HF.out), Below.alloc (Below.refl _ _) (Nat.le_refl _) _⟩
        · by_cases h3 : m < -922337203685477580
          · have hx := h3
            have HF := Lib.hid (kind_fail HK.out (step_fail hlt HM.out (one_big m _ (.inl hx))))
            go_wp2
            go_ret2
            exact ⟨(ret_num HF.out), Below.alloc (Below.refl _ _) (Nat.le_refl _) _⟩
          · by_cases h4 : m = -922337203685477580
            · subst h4
              by_cases h5 : 56 < r[k].toNat
              · have hx := h5
                have HF := Lib.hid (kind_fail HK.out (step_fail hlt HM.out (one_big _ _ (.inr ⟨rfl, by omega⟩))))
                go_wp2
                go_ret2
                exact ⟨(ret_num HF.out), Below.alloc (Below.refl _ _) (Nat.le_refl _) _⟩
              · have hx := h5
                have HN := Lib.hid ((step_next hlt HM.out).trans (one_ok _ _ (by omega) (by omega)))
                go_wp2
                go_roundw
                case rel => exact ⟨_, _, _, _, ⟨k + 1, _, by omega, rfl, rfl, HN.out, rfl⟩, rfl, rfl, by first | rfl | go_num, by go_num⟩
                case measure => simp [intOf]; omega
            · have hx := h4
              have HN := Lib.hid ((step_next hlt HM.out).trans (one_ok _ _ (by omega) (by omega)))
              go_wp2
              go_roundw
              case rel => exact ⟨_, _, _, _, ⟨k + 1, _, by omega, rfl, rfl, HN.out, rfl⟩, rfl, rfl, by first | rfl | go_num, by go_num⟩
              case measure => simp [intOf]; omega
    · obtain rfl : k = r.size := by omega
      have hall : negParse 0 r.data.toList = some m := by
        have := HM.out
        rwa [List.take_of_length_le (by exact Nat.le_refl _)] at this
      by_cases hl : m = -9223372036854775808
      · subst hl
        have HO := Lib.hid (kind_least HK.out hall)
        clear hall
        go_wp2
        go_ret2
        exact ⟨(ret_num HO.out), Below.alloc (Below.refl _ _) (Nat.le_refl _) _⟩
      · have HO := Lib.hid (kind_plus HK.out hg hall hl)
        have HIN : Hid (in64 (-m)) := ⟨by omega, by omega⟩
        clear hall
        go_wp2
        have x1 : (w.alloc (.cells #[.bool true, .string r] 27)).cell? ⟨w.heap.size, 1, none⟩ = some (.string r) := by simp
        have x1 := onto_cell x1
        refine wp_region_onto (by kernel_rfl) (by kernel_rfl) ?_
        repeat (go_big_quiet_step ((go_at_call 17; exact onto_calls (refDigits_any _ _ HIN.out))))
        refine wpQuiet_nil ?_
        intro _ hw'
        obtain ⟨z, hw''⟩ := hw'
        subst hw''
        have HZ := Lib.hid (onto_below (w.alloc (.cells #[.bool true, .string r] 27)) z)
        clear x1
        go_wp2
        go_ret2
        refine ⟨?_, g_below_on (Below.alloc (Below.refl _ _) (Nat.le_refl _) _) HZ.out⟩
        rw [HO.out, ← eq_text]
        rfl
set_option maxHeartbeats 1000000 in
theorem refNumber_no (s : ByteArray) (w : World) (hs : s.size ≤ 1000000) (hm : (∃ h : 0 < s.size, s[0].toNat = 45 ∧ (s.size - 1 = 0 ∨ 19 < s.size - 1)) ∨ ((∀ h : 0 < s.size, ¬ s[0].toNat = 45) ∧ (s.size = 0 ∨ 19 < s.size))) : Calls Tryd.prog 16 #[.agg #[.bool true, .string s]] w fun en w' => en = .returned (.tuple #[.int .i64 0, .bool false]) ∧ Below w.heap.size w w' := by
  rcases hm with ⟨h0, h1, h2⟩ | ⟨h1, h2⟩
  · have h3 : ((s[0].toNat : Int) == 45) = true := by simp; omega
    clear h1
    rcases h2 with h2 | h2
    · go_enter Tryd.func16, Tryd.ntmps16
      go_wp2
      go_ret2
      exact ⟨rfl, Below.alloc (Below.refl _ _) (Nat.le_refl _) _⟩
    · have h4 : ¬ s.size - 1 = 0 := by omega
      go_enter Tryd.func16, Tryd.ntmps16
      go_wp2
      go_ret2
      exact ⟨rfl, Below.alloc (Below.refl _ _) (Nat.le_refl _) _⟩
  · rcases h2 with h2 | h2
    · have h5 : s = ByteArray.empty := by
        apply Go.WideShapes.bytes_inj
        exact List.eq_nil_of_length_eq_zero h2
      subst h5
      clear h1 h2
      go_enter Tryd.func16, Tryd.ntmps16
      go_wp2
      go_ret2
      exact ⟨rfl, Below.alloc (Below.refl _ _) (Nat.le_refl _) _⟩
    · have h0 : 0 < s.size := by omega
      have h3 : ((s[0].toNat : Int) == 45) = false := by have := h1 h0; simp; omega
      clear h1
      go_enter Tryd.func16, Tryd.ntmps16
      go_wp2
      all_goals first
        | (go_ret2; exact ⟨rfl, Below.alloc (Below.refl _ _) (Nat.le_refl _) _⟩)
        | (exfalso; rename_i hh; simp at hh; omega)
/-- The reference's number of a text. -/
theorem refNumber_any (s : ByteArray) (w : World) (hs : s.size ≤ 1000000) : Calls Tryd.prog 16 #[.agg #[.bool true, .string s]] w fun en w' => en = .returned (.tuple #[.int .i64 (refRes s).1, .bool (refRes s).2]) ∧ Below w.heap.size w w' := by
  by_cases hm : ∃ h : 0 < s.size, s[0].toNat = 45
  · obtain ⟨h0, h1⟩ := hm
    have hk := kind_minus s h0 h1
    have hz : (s.extract 1 s.size).size = s.size - 1 := by simp
    by_cases hg : (s.extract 1 s.size).size = 0 ∨ 19 < (s.extract 1 s.size).size
    · rw [kind_no hk hg]
      exact refNumber_no s w hs (.inl ⟨h0, h1, by rw [← hz]; exact hg⟩)
    · exact refNumber_minus s _ w hs h0 (by simp; omega) rfl hk hg
  · have hm' : ∀ h : 0 < s.size, ¬ s[0].toNat = 45 := fun h h1 => hm ⟨h, h1⟩
    have hk := kind_plain s hm'
    by_cases hg : s.size = 0 ∨ 19 < s.size
    · rw [kind_no hk hg]
      exact refNumber_no s w hs (.inr ⟨hm', hg⟩)
    · have h0 : 0 < s.size := by omega
      exact refNumber_plain s w h0 (by have := hm' h0; simp; omega) hk hg
end Go.Proofs.YtegjgdiollafkaaDoor
