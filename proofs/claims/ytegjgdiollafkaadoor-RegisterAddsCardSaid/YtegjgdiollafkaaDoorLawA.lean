/-
  The first lines of each law of layer 4, and told: what they check, what it returns.
-/
import Derived.Test.YtegjgdiollafkaaDoorRefC
namespace Go.Proofs.YtegjgdiollafkaaDoor
open Go.RowKit Go.Instr

theorem itoa_m3 : Lib.itoa (-3) = [45, 51] := by
  have h := Lib.itoa_neg 3 (by decide)
  rw [decDigits_one 3 (by decide)] at h
  exact h
theorem itoa_2 : Lib.itoa 2 = [50] := by
  have h := Lib.itoa_nonneg 2
  rw [decDigits_one 2 (by decide)] at h
  exact h
theorem sp_apply : applyV ⟨true, ⟨#[45, 51]⟩⟩ ⟨5, 0, ⟨#[]⟩, false, ⟨#[]⟩, 5⟩ = (⟨true, ⟨#[50]⟩⟩, 0, ⟨true, ⟨#[50]⟩⟩, true) := by
  have hg : O.good ⟨5, 0, ⟨#[]⟩, false, ⟨#[]⟩, 5⟩ = true := by decide
  have hn : numV ⟨true, ⟨#[45, 51]⟩⟩ = some (-3) := by
    have := numO_itoa (-3) ⟨by decide, by decide⟩
    rw [itoa_m3] at this
    exact this
  have ho : over (-3) 5 = false := by decide
  unfold applyV
  rw [if_pos hg, if_neg (by decide), if_neg (by decide), if_neg (by decide), if_pos rfl]
  unfold addV
  rw [hn]
  simp only [ho]
  rw [if_neg (by decide), show (-3 : Int) + 5 = 2 by decide, itoa_2]
theorem sp_call (w : World) (he : Env w) : Calls Tryd.prog 10 #[.agg #[.bool true, .string ⟨#[45, 51]⟩], .agg #[.int .i64 5, .int .i64 0, .string ⟨#[]⟩, .bool false, .string ⟨#[]⟩, .int .i64 5]] w fun en w' => en = .returned (.tuple #[.agg #[.bool true, .string ⟨#[50]⟩], .agg #[.int .i64 0, .bool true, .string ⟨#[50]⟩], .bool true]) ∧ Below w.heap.size w w' := by
  have := apply_any ⟨true, ⟨#[45, 51]⟩⟩ ⟨5, 0, ⟨#[]⟩, false, ⟨#[]⟩, 5⟩ w (by decide) he ⟨by decide, by decide⟩
  rw [sp_apply] at this
  exact this
theorem sp_good (w : World) : Calls Tryd.prog 7 #[.agg #[.int .i64 1, .int .i64 0, .string ⟨#[]⟩, .bool false, .string ⟨#[]⟩, .int .i64 0]] w fun en w' => en = .returned (.bool true) ∧ Below w.heap.size w w' :=
  good_any ⟨1, 0, ⟨#[]⟩, false, ⟨#[]⟩, 0⟩ w
set_option maxHeartbeats 1000000 in
theorem speaks_any (w : World) (he : Env w) : Calls Tryd.prog 5 #[] w fun e w' => e = .returned (.bool true) ∧ Below w.heap.size w w' := by
  have HE := Lib.hid he
  clear he
  go_enter Tryd.func5, Tryd.ntmps5
  go_wp2_with (first | (go_at_call 10; (with_reducible refine (sp_call _ HE.out).mono ?_); rintro e w1 ⟨rfl, hB⟩; have HB1 := Lib.hid hB; clear hB) | (go_at_call 7; (with_reducible refine (sp_good _).mono ?_); rintro e w2 ⟨rfl, hB⟩; have HB2 := Lib.hid hB; clear hB))
  go_ret
  refine ⟨rfl, ?_⟩
  refine g_below_on ?_ HB2.out
  have := HB1.out
  have hsz := HB1.out.size
  go_grown
set_option maxHeartbeats 1000000 in
theorem told_any (k key : Int) (s : ByteArray) (oh : Bool) (os : ByteArray) (n : Int) (w : World) : Calls Tryd.prog 6 #[.agg #[.int .i64 k, .int .i64 key, .string s, .bool oh, .string os, .int .i64 n]] w fun e w' => e = .returned (.tuple #[.agg #[.int .i64 k, .int .i64 key, .string s, .bool oh, .string os, .int .i64 n], .agg #[.int .i64 k, .int .i64 key, .string s, .bool oh, .string os, .int .i64 n]]) ∧ Below w.heap.size w w' := by
  go_enter Tryd.func6, Tryd.ntmps6
  go_wp2
  go_region_held3 (fun w' => w'.cell? ⟨w.heap.size, 0, none⟩ = some (.int .i64 k) ∧ w'.cell? ⟨w.heap.size, 1, none⟩ = some (.int .i64 key) ∧ w'.cell? ⟨w.heap.size, 2, none⟩ = some (.string s) ∧ w'.cell? ⟨w.heap.size, 3, none⟩ = some (.bool oh) ∧ w'.cell? ⟨w.heap.size, 4, none⟩ = some (.string os) ∧ w'.cell? ⟨w.heap.size, 5, none⟩ = some (.int .i64 n)) (go_keep) (fail)
  all_goals
    go_wp2
    exact bodyPost_ret (v := .tuple #[.agg #[.int .i64 k, .int .i64 key, .string s, .bool oh, .string os, .int .i64 n], .agg #[.int .i64 k, .int .i64 key, .string s, .bool oh, .string os, .int .i64 n]]) (by simp [results, Tryd.results6, go_sem]) rfl ⟨rfl, by go_grown⟩
end Go.Proofs.YtegjgdiollafkaaDoor
