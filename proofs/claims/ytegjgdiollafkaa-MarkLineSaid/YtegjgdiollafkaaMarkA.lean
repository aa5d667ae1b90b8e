/-
  The walks of mark's Below, None, Less and Next, of told, and of the reference's value, Less and Next: what each call returns, and that nothing old in memory changes.
-/
import Derived.Test.YtegjgdiollafkaaProg
import Derived.WalkKit
import Derived.WalkSpells
import Derived.WalkLawsBesides
import Derived.Laws.BitsAllLaws
import Derived.Laws.BytesArg
import Derived.Lib.Hide
import Derived.Lib.Strings
import Derived.Lib.AppendStr
import Derived.Handy
import Derived.RegionTactic
import Derived.ChangeAlike
import Derived.Deep.RegionWith
import Derived.Deep.RegionHeld3
import Derived.Deep.QuietTactic
import Derived.BigQuiet
import Derived.IntWalk
import Derived.OwnWalk
import Derived.Deep.AppendLies
import Derived.Deep.RegionLaw
namespace Go.Proofs.Ytegjgdiollafkaa
open Go.RowKit Go.Instr

theorem m_below_on {w w1 w2 : World} (h1 : Below w.heap.size w w1) (h2 : Below w1.heap.size w1 w2) : Below w.heap.size w w2 := h1.trans (h2.mono h1.size)
structure S where
  n : Nat
  b : Nat
  l : Nat
def S.fine (s : S) : Prop := s.n < 4294967296 ∧ s.b < 256 ∧ s.l < 256
abbrev mk (s : S) : Value := .agg #[.int .u32 s.n, .int .u8 s.b]
abbrev st (s : S) : Value := .agg #[.int .u32 s.n, .int .u8 s.b, .int .u8 s.l]
def markLt (s t : S) : Bool := if s.n = t.n then decide (s.b < t.b) else decide (s.n < t.n)
def stLt (s t : S) : Bool := if s.n = t.n ∧ s.b = t.b then decide (s.l < t.l) else markLt s t
theorem rbool {a b : Bool} (h : a = b) : Ending.returned (.bool a) = .returned (.bool b) := by rw [h]
set_option maxHeartbeats 400000 in
theorem below_any (s t : S) (w : World) : Calls Try.prog 10 #[mk s, mk t] w fun e w' => e = .returned (.bool (markLt s t)) ∧ Below w.heap.size w w' := by
  obtain ⟨n, b, l⟩ := s
  obtain ⟨m, c, k⟩ := t
  unfold mk markLt
  simp only
  by_cases h : n = m
  · subst h
    rw [if_pos rfl]
    go_enter Try.func10, Try.ntmps10
    go_wp2
    go_ret
    exact ⟨rfl, by go_grown⟩
  · rw [if_neg h]
    go_enter Try.func10, Try.ntmps10
    go_wp2
    go_ret
    exact ⟨rfl, by go_grown⟩
def S.none (s : S) : Bool := decide (s.n = 0 ∧ s.b = 0)
set_option maxHeartbeats 400000 in
theorem none_any (s : S) (w : World) : Calls Try.prog 11 #[mk s] w fun e w' => e = .returned (.bool s.none) ∧ Below w.heap.size w w' := by
  obtain ⟨n, b, l⟩ := s
  unfold mk S.none
  go_enter Try.func11, Try.ntmps11
  go_wp2
  all_goals
    go_ret
    exact ⟨rbool (by simp_all), by go_grown⟩
set_option maxHeartbeats 400000 in
theorem less_any (s t : S) (w : World)  : Calls Try.prog 8 #[st s, st t] w fun e w' => e = .returned (.bool (stLt s t)) ∧ Below w.heap.size w w' := by
  obtain ⟨n, b, l⟩ := s
  obtain ⟨m, c, k⟩ := t
  unfold st stLt
  simp only
  by_cases h : n = m
  · by_cases h2 : b = c
    · subst h; subst h2
      rw [if_pos ⟨rfl, rfl⟩]
      go_enter Try.func8, Try.ntmps8
      go_wp2
      go_ret
      exact ⟨rfl, by go_grown⟩
    · subst h
      rw [if_neg (fun h => h2 h.2)]
      go_enter Try.func8, Try.ntmps8
      go_wp2_with (go_at_call 10; refine (below_any ⟨n, b, l⟩ ⟨n, c, k⟩ _).mono ?_; rintro e w1 ⟨rfl, hB⟩; have hB1 : Below w.heap.size w w1 := m_below_on (by go_grown) hB; clear hB)
      go_ret
      exact ⟨rfl, hB1⟩
  · rw [if_neg (fun h3 => h h3.1)]
    go_enter Try.func8, Try.ntmps8
    go_wp2_with (go_at_call 10; refine (below_any ⟨n, b, l⟩ ⟨m, c, k⟩ _).mono ?_; rintro e w1 ⟨rfl, hB⟩; have hB1 : Below w.heap.size w w1 := m_below_on (by go_grown) hB; clear hB)
    go_ret
    exact ⟨rfl, hB1⟩
set_option maxHeartbeats 400000 in
theorem told_any (s : S) (w : World) : Calls Try.prog 7 #[st s] w fun e w' => e = .returned (st s) ∧ Below w.heap.size w w' := by
  obtain ⟨n, b, l⟩ := s
  unfold st
  go_enter Try.func7, Try.ntmps7
  go_wp2
  exact bodyPost_ret (v := st ⟨n, b, l⟩) (by simp [results, Try.results7, go_sem]) rfl ⟨rfl, by go_grown⟩
def S.val (s : S) : Nat := s.n * 65536 + s.b * 256 + s.l
set_option maxHeartbeats 400000 in
theorem value_any (s : S) (w : World) (h : s.fine) : Calls Try.prog 18 #[st s] w fun e w' => e = .returned (.int .u64 s.val) ∧ w.alloc (.cells #[.int .u32 s.n, .int .u8 s.b, .int .u8 s.l] 32) = w' := by
  obtain ⟨n, b, l⟩ := s
  obtain ⟨h1, h2, h3⟩ := h
  simp only at h1 h2 h3
  unfold st S.val
  go_enter Try.func18, Try.ntmps18
  go_wp2
  go_ret
  exact ⟨by simp, rfl⟩
theorem val_lt (s t : S) (h : s.fine) (h' : t.fine) : decide (s.val < t.val) = stLt s t := by
  obtain ⟨n, b, l⟩ := s
  obtain ⟨m, c, k⟩ := t
  obtain ⟨h1, h2, h3⟩ := h
  obtain ⟨h4, h5, h6⟩ := h'
  simp only at h1 h2 h3 h4 h5 h6
  unfold stLt markLt S.val
  simp only
  split
  · rw [decide_eq_decide]; omega
  · split <;> (rw [decide_eq_decide]; omega)
set_option maxHeartbeats 400000 in
theorem refLess_any (s t : S) (w : World) (h : s.fine) (h' : t.fine) : Calls Try.prog 9 #[st s, st t] w fun e w' => e = .returned (.bool (stLt s t)) ∧ Below w.heap.size w w' := by
  have hv := Lib.hid (val_lt s t h h')
  have H := Lib.hid h
  have H' := Lib.hid h'
  clear h h'
  go_enter Try.func9, Try.ntmps9
  go_wp2
  go_region_with (first | (go_at_call 18; (with_reducible refine (value_any s _ H.out).mono ?_); rintro e w1 ⟨rfl, rfl⟩) | (go_at_call 18; (with_reducible refine (value_any t _ H'.out).mono ?_); rintro e w2 ⟨rfl, rfl⟩))
  all_goals
    go_wp2
    go_ret
    exact ⟨rbool hv.out, by go_grown⟩
/-- The next stamp. -/
def nextS (s : S) (by' node life : Nat) : S × Bool := if by' = 0 ∨ 4294967295 < s.n + by' then (⟨0, 0, 0⟩, false) else (⟨s.n + by', node, life⟩, true)
theorem nextS_no {s : S} {y node life : Nat} (h : y = 0 ∨ 4294967295 < s.n + y) : nextS s y node life = (⟨0, 0, 0⟩, false) := if_pos h
theorem nextS_yes {s : S} {y node life : Nat} (h : ¬ (y = 0 ∨ 4294967295 < s.n + y)) : nextS s y node life = (⟨s.n + y, node, life⟩, true) := if_neg h
set_option maxHeartbeats 400000 in
theorem next_any (s : S) (y node life : Nat) (w : World) (h : s.fine) (hy : y < 4294967296) : Calls Try.prog 15 #[st s, .int .u32 y, .int .u8 node, .int .u8 life] w fun e w' => e = .returned (.tuple #[st (nextS s y node life).1, .bool (nextS s y node life).2]) ∧ Below w.heap.size w w' := by
  obtain ⟨n, b, l⟩ := s
  obtain ⟨h1, _, _⟩ := h
  simp only at h1
  unfold st
  by_cases h0 : y = 0
  · subst h0
    rw [nextS_no (.inl rfl)]
    go_enter Try.func15, Try.ntmps15
    go_wp2
    exact bodyPost_ret (by simp [results, Try.results15, go_sem]; rfl) rfl ⟨by simp, by go_grown⟩
  · by_cases h2 : 4294967295 < n + y
    · rw [nextS_no (.inr h2)]
      go_enter Try.func15, Try.ntmps15
      go_wp2
      exact bodyPost_ret (by simp [results, Try.results15, go_sem]; rfl) rfl ⟨by simp, by go_grown⟩
    · rw [nextS_yes (by simp only; omega)]
      go_enter Try.func15, Try.ntmps15
      go_wp2
      · exfalso; rename_i hh; simp at hh; omega
      · exact bodyPost_ret (by simp [results, Try.results15, go_sem]; rfl) rfl ⟨by simp, by go_grown⟩
set_option maxHeartbeats 400000 in
theorem refNext_any (s : S) (y node life : Nat) (w : World) (h : s.fine) (hy : y < 4294967296) : Calls Try.prog 16 #[st s, .int .u32 y, .int .u8 node, .int .u8 life] w fun e w' => e = .returned (.tuple #[st (nextS s y node life).1, .bool (nextS s y node life).2]) ∧ Below w.heap.size w w' := by
  obtain ⟨n, b, l⟩ := s
  obtain ⟨h1, _, _⟩ := h
  simp only at h1
  unfold st
  by_cases h0 : y = 0
  · subst h0
    rw [nextS_no (.inl rfl)]
    go_enter Try.func16, Try.ntmps16
    go_wp2
    exact bodyPost_ret (by simp [results, Try.results16, go_sem]; rfl) rfl ⟨by simp, by go_grown⟩
  · by_cases h2 : 4294967295 < n + y
    · rw [nextS_no (.inr h2)]
      go_enter Try.func16, Try.ntmps16
      go_wp2
      exact bodyPost_ret (by simp [results, Try.results16, go_sem]; rfl) rfl ⟨by simp, by go_grown⟩
    · rw [nextS_yes (by simp only; omega)]
      go_enter Try.func16, Try.ntmps16
      go_wp2
      · exfalso; rename_i hh; simp at hh; omega
      · exact bodyPost_ret (by simp [results, Try.results16, go_sem]; rfl) rfl ⟨by simp, by go_grown⟩
set_option maxHeartbeats 400000 in
theorem bnext_any (s : S) (node : Nat) (w : World) (h : s.fine) : Calls Try.prog 17 #[mk s, .int .u8 node] w fun e w' => e = .returned (.tuple #[mk (nextS s 1 node 0).1, .bool (nextS s 1 node 0).2]) ∧ Below w.heap.size w w' := by
  obtain ⟨n, b, l⟩ := s
  obtain ⟨h1, _, _⟩ := h
  simp only at h1
  unfold mk
  by_cases h2 : n = 4294967295
  · subst h2
    rw [nextS_no (.inr (by simp only; omega))]
    go_enter Try.func17, Try.ntmps17
    go_wp2
    exact bodyPost_ret (by simp [results, Try.results17, go_sem]; rfl) rfl ⟨by simp, by go_grown⟩
  · rw [nextS_yes (by simp only; omega)]
    go_enter Try.func17, Try.ntmps17
    go_wp2
    exact bodyPost_ret (by simp [results, Try.results17, go_sem]; rfl) rfl ⟨by simp, by go_grown⟩
end Go.Proofs.Ytegjgdiollafkaa
