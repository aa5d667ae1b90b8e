/-
  The walks of register's Good, Plain, keep, write, text and overflows and of the reference's Good: what each call returns, and that nothing old in memory changes.
-/
import Derived.Test.YtegjgdiollafkaaDoorNumM
import Derived.Test.YtegjgdiollafkaaDoorShelf
import Derived.Deep.DeepCutAuto
import Derived.StillTailTactics
import Derived.Laws.IdiomStrings
import Derived.WalkKit
import Derived.WalkSpells
import Derived.WalkLawsBesides
import Derived.Laws.BitsAllLaws
import Derived.Laws.BytesArg
import Derived.Lib.Hide
import Derived.Lib.Strings
import Derived.Lib.AppendStr
import Derived.Handy
import Derived.RegionTactic
import Derived.ChangeAlike
import Derived.Deep.RegionWith
import Derived.Deep.RegionHeld3
import Derived.Deep.QuietTactic
import Derived.BigQuiet
import Derived.IntWalk
namespace Go.Proofs.YtegjgdiollafkaaDoor
open Go.RowKit Go.Instr

theorem g_below_on {w w1 w2 : World} (h1 : Below w.heap.size w w1) (h2 : Below w1.heap.size w1 w2) : Below w.heap.size w w2 := h1.trans (h2.mono h1.size)
theorem gbool {a b : Bool} (h : a = b) : Ending.returned (.bool a) = .returned (.bool b) := by rw [h]
/-- A value of a key. -/
structure V where
  has : Bool
  s : ByteArray
/-- An operation. -/
structure O where
  kind : Int
  key : Int
  s : ByteArray
  oh : Bool
  os : ByteArray
  n : Int
abbrev vC (v : V) : Array Value := #[.bool v.has, .string v.s]
abbrev oC (x : O) : Array Value := #[.int .i64 x.kind, .int .i64 x.key, .string x.s, .bool x.oh, .string x.os, .int .i64 x.n]
abbrev aC (e : Int) (v : V) : Array Value := #[.int .i64 e, .bool v.has, .string v.s]
def eS : ByteArray := ⟨#[]⟩
def V.none : V := ⟨false, ByteArray.empty⟩
set_option maxHeartbeats 400000 in
theorem keep_any (v a : V) (e : Int) (w : World) : Calls Tryd.prog 12 #[.agg (vC v), .int .i64 e, .agg (vC a)] w fun en w' => en = .returned (.tuple #[.agg (vC v), .agg (aC e a), .bool false]) ∧ Below w.heap.size w w' := by
  go_enter Tryd.func12, Tryd.ntmps12
  go_wp2
  go_region
  all_goals
    go_wp2
    exact bodyPost_ret (v := .tuple #[.agg (vC v), .agg (aC e a), .bool false]) (by simp [results, Tryd.results12, go_sem]) rfl ⟨rfl, by go_grown⟩
set_option maxHeartbeats 400000 in
theorem write_any (v a : V) (w : World) : Calls Tryd.prog 13 #[.agg (vC v), .agg (vC a)] w fun en w' => en = .returned (.tuple #[.agg (vC v), .agg (aC 0 a), .bool true]) ∧ Below w.heap.size w w' := by
  go_enter Tryd.func13, Tryd.ntmps13
  go_wp2
  go_region
  all_goals
    go_wp2
    exact bodyPost_ret (v := .tuple #[.agg (vC v), .agg (aC 0 a), .bool true]) (by simp [results, Tryd.results13, go_sem]) rfl ⟨rfl, by go_grown⟩
set_option maxHeartbeats 400000 in
theorem text_any (s : ByteArray) (w : World) : Calls Tryd.prog 14 #[.string s] w fun en w' => en = .returned (.agg (vC ⟨true, s⟩)) ∧ Below w.heap.size w w' := by
  go_enter Tryd.func14, Tryd.ntmps14
  go_wp2
  exact bodyPost_ret (v := .agg (vC ⟨true, s⟩)) (by simp [results, Tryd.results14, go_sem]) rfl ⟨rfl, by go_grown⟩
def over (n b : Int) : Bool := decide (n + b < -9223372036854775808 ∨ 9223372036854775807 < n + b)
set_option maxHeartbeats 400000 in
theorem over_any (n b : Int) (w : World) (hn : in64 n) (hb : in64 b) : Calls Tryd.prog 19 #[.int .i64 n, .int .i64 b] w fun en w' => en = .returned (.bool (over n b)) ∧ w = w' := by
  obtain ⟨h0, h1⟩ := hn
  obtain ⟨h2, h3⟩ := hb
  by_cases hs : b < 0
  · go_enter Tryd.func19, Tryd.ntmps19
    go_wp2
    go_ret
    refine ⟨gbool ?_, rfl⟩
    unfold over
    rw [decide_eq_decide]; omega
  · go_enter Tryd.func19, Tryd.ntmps19
    go_wp2
    go_ret
    refine ⟨gbool ?_, rfl⟩
    unfold over
    rw [decide_eq_decide]; omega
set_option maxHeartbeats 400000 in
theorem plain_any (x : O) (w : World) : Calls Tryd.prog 9 #[.agg (oC x)] w fun en w' => en = .returned (.bool (decide (x.kind = 2 ∨ x.kind = 3))) ∧ Below w.heap.size w w' := by
  go_enter Tryd.func9, Tryd.ntmps9
  go_wp2
  all_goals
    go_ret
    exact ⟨gbool (by first | (simp_all; done) | (rw [Bool.eq_iff_iff]; simp)), by go_grown⟩
def O.good (x : O) : Bool := decide (1 ≤ x.kind ∧ x.kind ≤ 5 ∧ 0 ≤ x.key ∧ x.key < 6 ∧ x.s.size ≤ 32 ∧ x.os.size ≤ 32 ∧ (x.oh = true ∨ x.os.size = 0))
theorem isE (s : ByteArray) : s.toList.isEmpty = decide (s.size = 0) := by
  rw [ByteArray.toList_eq, Bool.eq_iff_iff, List.isEmpty_iff, decide_eq_true_iff]
  constructor
  · intro h; have := congrArg List.length h; simpa using this
  · intro h; exact List.eq_nil_of_length_eq_zero (by simpa using h)
set_option maxHeartbeats 800000 in
theorem good_any (x : O) (w : World) : Calls Tryd.prog 7 #[.agg (oC x)] w fun en w' => en = .returned (.bool x.good) ∧ Below w.heap.size w w' := by
  go_enter Tryd.func7, Tryd.ntmps7
  go_wp2
  all_goals
    go_ret
    refine ⟨gbool ?_, by go_grown⟩
    unfold O.good
    first
      | (have hoh : ¬ x.oh = true := by assumption
         rw [isE, decide_eq_decide]
         refine ⟨fun h => ⟨by assumption, by assumption, by assumption, by assumption, by omega, by omega, .inr h⟩, fun h => h.2.2.2.2.2.2.resolve_left hoh⟩)
      | (symm; rw [decide_eq_true_iff]; simp_all; omega)
      | (symm; rw [decide_eq_false_iff_not]; simp_all; omega)
set_option maxHeartbeats 800000 in
theorem refGood_any (x : O) (w : World) : Calls Tryd.prog 8 #[.agg (oC x)] w fun en w' => en = .returned (.bool x.good) ∧ Below w.heap.size w w' := by
  go_enter Tryd.func8, Tryd.ntmps8
  go_wp2
  all_goals
    go_ret
    refine ⟨gbool ?_, by go_grown⟩
    unfold O.good
    first
      | (have hoh : ¬ x.oh = true := by assumption
         rw [isE, decide_eq_decide]
         refine ⟨fun h => ⟨by assumption, by assumption, by assumption, by assumption, by omega, by omega, .inr h⟩, fun h => h.2.2.2.2.2.2.resolve_left hoh⟩)
      | (symm; rw [decide_eq_true_iff]; simp_all; omega)
      | (symm; rw [decide_eq_false_iff_not]; simp_all; omega)
end Go.Proofs.YtegjgdiollafkaaDoor
