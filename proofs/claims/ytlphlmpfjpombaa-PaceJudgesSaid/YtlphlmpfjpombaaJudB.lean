/-
  The law PaceJudges: the walk where a count may not be.
-/
import Derived.Test.YtlphlmpfjpombaaJudA
namespace Go.Proofs.Ytlphlmpfjpombaa
open Go.RowKit Go.Instr

set_option maxHeartbeats 4000000 in
set_option maxRecDepth 100000 in
theorem judge_bad (a b c d : Int) (s : Value) (len cap : Nat) (sa : Option Addr) (w : World) (hs : s = .slice sa len cap) (hbad : ¬ (1 ≤ a ∧ a ≤ 5 ∧ 1 ≤ b ∧ b ≤ 8 ∧ 1 ≤ c ∧ c ≤ 1000 ∧ 1 ≤ d ∧ d ≤ 1000)) :
    Calls Try.prog 5 #[.agg #[.int .i64 a, .int .i64 b, .int .i64 c, .int .i64 d], s] w fun e w' => e = .returned (.bool true) ∧ Below w.heap.size w w' := by
  subst hs
  have HBAD := Lib.hid hbad
  clear hbad
  go_enter Try.func5, Try.ntmps5
  go_upto_region 3 with (go_at_call 22; (refine (speaks8 _).mono ?_); rintro en w1 ⟨rfl, hB⟩; have HBw := Lib.hid (m_below_on below_al1 hB); have HC := Lib.hid ((Blk.new (w := w) (cs := #[.int .i64 a, .int .i64 b, .int .i64 c, .int .i64 d]) (T := 50) rfl).on hB); clear hB)
  have c0 : w1.cell? ⟨w.heap.size, 0, none⟩ = some (.int .i64 a) := HC.out.cell 0
  have c1 : w1.cell? ⟨w.heap.size, 1, none⟩ = some (.int .i64 b) := HC.out.cell 1
  have c2 : w1.cell? ⟨w.heap.size, 2, none⟩ = some (.int .i64 c) := HC.out.cell 2
  have c3 : w1.cell? ⟨w.heap.size, 3, none⟩ = some (.int .i64 d) := HC.out.cell 3
  go_upto_region 4 with (go_at_call 23; (refine (New_bad a b c d _ HBAD.out).mono ?_); rintro en w2 ⟨rfl, h2⟩; have H2 := Lib.hid h2; clear h2)
  have e2 := H2.out
  subst e2
  go_cut [7] (fun s7 wx => s7 = .bool false ∧ w1 = wx)
  case first =>
    have hcase : (¬ (1 : Int) ≤ a) ∨ ((1 : Int) ≤ a ∧ ¬ a ≤ 5) ∨ ((1 : Int) ≤ a ∧ a ≤ 5 ∧ ¬ (1 : Int) ≤ b) ∨ ((1 : Int) ≤ a ∧ a ≤ 5 ∧ (1 : Int) ≤ b ∧ ¬ b ≤ 8) ∨ ((1 : Int) ≤ a ∧ a ≤ 5 ∧ (1 : Int) ≤ b ∧ b ≤ 8 ∧ ¬ (1 : Int) ≤ c) ∨ ((1 : Int) ≤ a ∧ a ≤ 5 ∧ (1 : Int) ≤ b ∧ b ≤ 8 ∧ (1 : Int) ≤ c ∧ ¬ c ≤ 1000) ∨ ((1 : Int) ≤ a ∧ a ≤ 5 ∧ (1 : Int) ≤ b ∧ b ≤ 8 ∧ (1 : Int) ≤ c ∧ c ≤ 1000 ∧ ¬ (1 : Int) ≤ d) ∨ ((1 : Int) ≤ a ∧ a ≤ 5 ∧ (1 : Int) ≤ b ∧ b ≤ 8 ∧ (1 : Int) ≤ c ∧ c ≤ 1000 ∧ (1 : Int) ≤ d ∧ ¬ d ≤ 1000) := by
      have := HBAD.out
      omega
    rcases hcase with p0 | ⟨p0, p1⟩ | ⟨p0, p1, p2⟩ | ⟨p0, p1, p2, p3⟩ | ⟨p0, p1, p2, p3, p4⟩ | ⟨p0, p1, p2, p3, p4, p5⟩ | ⟨p0, p1, p2, p3, p4, p5, p6⟩ | ⟨p0, p1, p2, p3, p4, p5, p6, p7⟩
    · have q0 : decide ((1 : Int) ≤ a) = false := decide_eq_false p0
      clear p0
      go_wp2_with fail
      go_meet
      exact ⟨rfl, rfl⟩
    · have q0 : decide ((1 : Int) ≤ a) = true := decide_eq_true p0
      have q1 : decide (a ≤ 5) = false := decide_eq_false p1
      clear p0 p1
      go_wp2_with fail
      go_meet
      exact ⟨rfl, rfl⟩
    · have q0 : decide ((1 : Int) ≤ a) = true := decide_eq_true p0
      have q1 : decide (a ≤ 5) = true := decide_eq_true p1
      have q2 : decide ((1 : Int) ≤ b) = false := decide_eq_false p2
      clear p0 p1 p2
      go_wp2_with fail
      go_meet
      exact ⟨rfl, rfl⟩
    · have q0 : decide ((1 : Int) ≤ a) = true := decide_eq_true p0
      have q1 : decide (a ≤ 5) = true := decide_eq_true p1
      have q2 : decide ((1 : Int) ≤ b) = true := decide_eq_true p2
      have q3 : decide (b ≤ 8) = false := decide_eq_false p3
      clear p0 p1 p2 p3
      go_wp2_with fail
      go_meet
      exact ⟨rfl, rfl⟩
    · have q0 : decide ((1 : Int) ≤ a) = true := decide_eq_true p0
      have q1 : decide (a ≤ 5) = true := decide_eq_true p1
      have q2 : decide ((1 : Int) ≤ b) = true := decide_eq_true p2
      have q3 : decide (b ≤ 8) = true := decide_eq_true p3
      have q4 : decide ((1 : Int) ≤ c) = false := decide_eq_false p4
      clear p0 p1 p2 p3 p4
      go_wp2_with fail
      go_meet
      exact ⟨rfl, rfl⟩
    · have q0 : decide ((1 : Int) ≤ a) = true := decide_eq_true p0
      have q1 : decide (a ≤ 5) = true := decide_eq_true p1
      have q2 : decide ((1 : Int) ≤ b) = true := decide_eq_true p2
      have q3 : decide (b ≤ 8) = true := decide_eq_true p3
      have q4 : decide ((1 : Int) ≤ c) = true := decide_eq_true p4
      have q5 : decide (c ≤ 1000) = false := decide_eq_false p5
      clear p0 p1 p2 p3 p4 p5
      go_wp2_with fail
      go_meet
      exact ⟨rfl, rfl⟩
    · have q0 : decide ((1 : Int) ≤ a) = true := decide_eq_true p0
      have q1 : decide (a ≤ 5) = true := decide_eq_true p1
      have q2 : decide ((1 : Int) ≤ b) = true := decide_eq_true p2
      have q3 : decide (b ≤ 8) = true := decide_eq_true p3
      have q4 : decide ((1 : Int) ≤ c) = true := decide_eq_true p4
      have q5 : decide (c ≤ 1000) = true := decide_eq_true p5
      have q6 : decide ((1 : Int) ≤ d) = false := decide_eq_false p6
      clear p0 p1 p2 p3 p4 p5 p6
      go_wp2_with fail
      go_meet
      exact ⟨rfl, rfl⟩
    · have q0 : decide ((1 : Int) ≤ a) = true := decide_eq_true p0
      have q1 : decide (a ≤ 5) = true := decide_eq_true p1
      have q2 : decide ((1 : Int) ≤ b) = true := decide_eq_true p2
      have q3 : decide (b ≤ 8) = true := decide_eq_true p3
      have q4 : decide ((1 : Int) ≤ c) = true := decide_eq_true p4
      have q5 : decide (c ≤ 1000) = true := decide_eq_true p5
      have q6 : decide ((1 : Int) ≤ d) = true := decide_eq_true p6
      have q7 : decide (d ≤ 1000) = false := decide_eq_false p7
      clear p0 p1 p2 p3 p4 p5 p6 p7
      go_wp2_with fail
      go_meet
      exact ⟨rfl, rfl⟩
  case rest =>
    obtain ⟨rfl, rfl⟩ := hcut
    go_upto_region 9 with (go_at_call 24; (refine (Fair_nil _).mono ?_); rintro en w2 ⟨rfl, rfl⟩)
    go_wp2_with fail
    go_loopg [9] 0 (fun _ s9 wr => s9 = .int .i64 0 ∧ w1 = wr)
    case atStart => exact ⟨rfl, rfl⟩
    case round =>
      obtain ⟨rfl, rfl⟩ := hrel
      go_wp2_with (go_at_call 27; (refine (Ask_nil 99 _).mono ?_); rintro en w5 ⟨rfl, hB⟩; have HB5 := Lib.hid (m_below_on HBw.out hB); clear hB)
      go_ret
      exact ⟨rfl, HB5.out⟩
end Go.Proofs.Ytlphlmpfjpombaa
