/-
  The walks of the law's 'same' and 'alike'.
-/
import Derived.Test.YtkgahhfemlebmaaRefA
namespace Go.Proofs.Ytkgahhfemlebmaa
open Go.RowKit Go.Instr

theorem arr_neq (l m : Lv) (w : World) : Sem.run Try.prog (binOp .neq 26 (.agg #[.int .u8 l.a, .int .u8 l.b, .int .u8 l.c, .int .u8 l.d, .int .u8 l.e, .int .u8 l.f, .int .u8 l.g, .int .u8 l.h]) (.agg #[.int .u8 m.a, .int .u8 m.b, .int .u8 m.c, .int .u8 m.d, .int .u8 m.e, .int .u8 m.f, .int .u8 m.g, .int .u8 m.h])) w = .ok (.bool (!decide (l = m))) w := by
  have h := arr_eq l m w
  rw [run_eql_struct] at h
  rw [run_neq_struct]
  generalize (Op.equalIn 10000 26 (.agg #[.int .u8 l.a, .int .u8 l.b, .int .u8 l.c, .int .u8 l.d, .int .u8 l.e, .int .u8 l.f, .int .u8 l.g, .int .u8 l.h]) (.agg #[.int .u8 m.a, .int .u8 m.b, .int .u8 m.c, .int .u8 m.d, .int .u8 m.e, .int .u8 m.f, .int .u8 m.g, .int .u8 m.h])).run Try.prog w = r at h ⊢
  cases r with
  | ok b w1 =>
    simp only [Result.andThen_ok, Result.ok.injEq, Value.bool.injEq] at h ⊢
    rw [h.1]; exact ⟨rfl, h.2⟩
  | halt x w1 => simp [Result.andThen] at h
theorem refReadyN_is (e : Nat) (s : Value) (lv : Lv) (l : List Mem) (r : Nat) (w : World) (hl : l.length ≤ 40) (hs : MemsAt w s l) (hr : readyN l = r) :
    Calls Try.prog 19 #[.agg (vC e s lv)] w fun en w' => en = .returned (.int .i64 r) ∧ Below w.heap.size w w' := by
  subst hr
  exact refReadyN_any e s lv l w hl hs
theorem ready_is2 (e : Nat) (s : Value) (lv : Lv) (l : List Mem) (r : Nat) (w : World) (hl : l.length ≤ 40) (hs : MemsAt w s l) (hr : readyN l = r) :
    Calls Try.prog 14 #[.agg (vC e s lv)] w fun en w' => en = .returned (.int .i64 r) ∧ Below w.heap.size w w' := by
  subst hr
  exact ready_any e s lv l w hl hs
/-- What stands at the head of the loop of 'same'. -/
def SameLoop (w : World) (A B n : Nat) (cs cs' : Array Value) (s t : Value) (l : List Mem) (i : Value) (wr : World) : Prop :=
  ∃ k : Nat, k ≤ n ∧ i = .int .i64 k ∧ Blk wr A cs 28 ∧ Blk wr B cs' 34 ∧ MemsAt wr s l ∧ MemsAt wr t l ∧ Below w.heap.size w wr
set_option maxRecDepth 20000 in
set_option maxHeartbeats 2000000 in
theorem same_yes (e : Nat) (s t : Value) (lv : Lv) (l : List Mem) (w : World) (hl : l.length ≤ 40) (hs : MemsAt w s l) (ht : MemsAt w t l) :
    Calls Try.prog 8 #[.agg (vC e s lv), .agg (vC e t lv)] w fun en w' => en = .returned (.bool true) ∧ Below w.heap.size w w' := by
  obtain ⟨a1, c1, rfl⟩ := hs.len
  obtain ⟨a2, c2, rfl⟩ := ht.len
  obtain ⟨n, hn⟩ : ∃ n, n = l.length := ⟨_, rfl⟩
  rw [← hn] at hs ht ⊢
  have HN := Lib.hid hn
  clear hn
  have HL := Lib.hid hl
  have hn40 : n ≤ 40 := by rw [HN.out]; exact hl
  clear hl
  have HS := Lib.hid ((hs.al (.cells (vC e (.slice a1 n c1) lv) 28)).al (.cells (vC e (.slice a2 n c2) lv) 34))
  have HT := Lib.hid ((ht.al (.cells (vC e (.slice a1 n c1) lv) 28)).al (.cells (vC e (.slice a2 n c2) lv) 34))
  have HB0 : Hid (Blk ((w.alloc (.cells (vC e (.slice a1 n c1) lv) 28)).alloc (.cells (vC e (.slice a2 n c2) lv) 34)) w.heap.size (vC e (.slice a1 n c1) lv) 28) := Lib.hid ((Blk.new rfl).alloc _)
  have HB1 : Hid (Blk ((w.alloc (.cells (vC e (.slice a1 n c1) lv) 28)).alloc (.cells (vC e (.slice a2 n c2) lv) 34)) (w.heap.size + 1) (vC e (.slice a2 n c2) lv) 34) := Lib.hid (Blk.new (by simp))
  have HBW : Hid (Below w.heap.size w ((w.alloc (.cells (vC e (.slice a1 n c1) lv) 28)).alloc (.cells (vC e (.slice a2 n c2) lv) 34))) := Lib.hid (by go_grown)
  clear hs ht
  have hrun := arr_neq lv lv
  rw [show (!decide (lv = lv)) = false by simp] at hrun
  obtain ⟨R, hR⟩ : ∃ R, readyN l = R := ⟨_, rfl⟩
  have HR := Lib.hid hR
  clear hR
  unfold vC
  go_enter Try.func8, Try.ntmps8
  go_wp2_with fail
  unfold vC at HB0 HB1 HS HT HBW
  generalize (w.alloc (.cells (_) 28)).alloc _ = w1 at *
  obtain ⟨A, hA⟩ : ∃ A, A = w.heap.size := ⟨_, rfl⟩
  obtain ⟨B, hB⟩ : ∃ B, B = A + 1 := ⟨_, rfl⟩
  rw [← hA] at HB0 HB1
  rw [← hB] at HB1
  simp only [← hA]
  simp only [← hB]
  have HAE := Lib.hid hA
  clear hA hB
  obtain ⟨d0, d1, d2, d3, d4, d5, d6, d7, d8, d9⟩ := HB0.out.ten
  have e0 := onto_cell (HB1.out.cell 0)
  have e1 := onto_cell (HB1.out.cell 1)
  have e2 := onto_cell (HB1.out.cell 2)
  have e3 := onto_cell (HB1.out.cell 3)
  have e4 := onto_cell (HB1.out.cell 4)
  have e5 := onto_cell (HB1.out.cell 5)
  have e6 := onto_cell (HB1.out.cell 6)
  have e7 := onto_cell (HB1.out.cell 7)
  have e8 := onto_cell (HB1.out.cell 8)
  have e9 := onto_cell (HB1.out.cell 9)
  have d0 := onto_cell d0
  have d1 := onto_cell d1
  have d2 := onto_cell d2
  have d3 := onto_cell d3
  have d4 := onto_cell d4
  have d5 := onto_cell d5
  have d6 := onto_cell d6
  have d7 := onto_cell d7
  have d8 := onto_cell d8
  have d9 := onto_cell d9
  refine wp_region_onto (by kernel_rfl) (by kernel_rfl) ?_
  repeat (go_big_quiet_step ((first | (go_at_call 14; exact onto_calls (ready_is2 e _ lv l R _ HL.out (HS.out.on (onto_below _ _)) HR.out)) | (go_at_call 19; exact onto_calls (refReadyN_is e _ lv l R _ HL.out (HT.out.on (onto_below _ _)) HR.out)))))
  refine wpQuiet_nil ?_
  intro _ hw'
  obtain ⟨z, hw''⟩ := hw'
  subst hw''
  have HST : Hid (SameLoop w A B n #[.int .u32 e, .slice a1 n c1, .int .u8 lv.a, .int .u8 lv.b, .int .u8 lv.c, .int .u8 lv.d, .int .u8 lv.e, .int .u8 lv.f, .int .u8 lv.g, .int .u8 lv.h] #[.int .u32 e, .slice a2 n c2, .int .u8 lv.a, .int .u8 lv.b, .int .u8 lv.c, .int .u8 lv.d, .int .u8 lv.e, .int .u8 lv.f, .int .u8 lv.g, .int .u8 lv.h] (.slice a1 n c1) (.slice a2 n c2) l (.int .i64 0) (onto w1 z)) := Lib.hid ⟨0, by omega, rfl, HB0.out.on (onto_below _ _), HB1.out.on (onto_below _ _), HS.out.on (onto_below _ _), HT.out.on (onto_below _ _), m_below_on HBW.out (onto_below _ _)⟩
  clear d0 d1 d2 d3 d4 d5 d6 d7 d8 d9 e0 e1 e2 e3 e4 e5 e6 e7 e8 e9 HB0 HB1 HS HT HBW hrun
  generalize onto w1 z = w2 at *
  go_wp2_with fail
  go_loopw [5] (fun i wr => SameLoop w A B n #[.int .u32 e, .slice a1 n c1, .int .u8 lv.a, .int .u8 lv.b, .int .u8 lv.c, .int .u8 lv.d, .int .u8 lv.e, .int .u8 lv.f, .int .u8 lv.g, .int .u8 lv.h] #[.int .u32 e, .slice a2 n c2, .int .u8 lv.a, .int .u8 lv.b, .int .u8 lv.c, .int .u8 lv.d, .int .u8 lv.e, .int .u8 lv.f, .int .u8 lv.g, .int .u8 lv.h] (.slice a1 n c1) (.slice a2 n c2) l i wr) (fun i _ => n - (intOf i).toNat)
  case atStart => exact HST.out
  case round =>
    obtain ⟨k, hk, rfl, hA, hB, hs, ht, hb⟩ := hrel
    clear HST
    have d1 := hA.cell 1
    have e1 := hB.cell 1
    simp at d1 e1
    by_cases hlt : k < n
    · have hkl : k < l.length := by rw [← HN.out]; exact hlt
      obtain ⟨g1, o1, cg1, hsg, _, hc1⟩ := hs.form (by omega)
      simp only [Value.slice.injEq] at hsg
      obtain ⟨rfl, hml, rfl⟩ := hsg
      clear hml
      obtain ⟨g2, o2, cg2, hsg, _, hc2⟩ := ht.form (by omega)
      simp only [Value.slice.injEq] at hsg
      obtain ⟨rfl, hml, rfl⟩ := hsg
      clear hml
      obtain ⟨x0, x1, x2⟩ := hc1 k hkl
      obtain ⟨y0, y1, y2⟩ := hc2 k hkl
      generalize l[k] = mb at x0 x1 x2 y0 y1 y2
      obtain ⟨nd, lf, rd⟩ := mb
      simp only at x0 x1 x2 y0 y1 y2
      have HREL : Hid (∀ wx, wx = wr.drew → SameLoop w A B n #[.int .u32 e, .slice (some ⟨g1, o1, none⟩) n c1, .int .u8 lv.a, .int .u8 lv.b, .int .u8 lv.c, .int .u8 lv.d, .int .u8 lv.e, .int .u8 lv.f, .int .u8 lv.g, .int .u8 lv.h] #[.int .u32 e, .slice (some ⟨g2, o2, none⟩) n c2, .int .u8 lv.a, .int .u8 lv.b, .int .u8 lv.c, .int .u8 lv.d, .int .u8 lv.e, .int .u8 lv.f, .int .u8 lv.g, .int .u8 lv.h] (.slice (some ⟨g1, o1, none⟩) n c1) (.slice (some ⟨g2, o2, none⟩) n c2) l (.int .i64 (k + 1)) wx) := Lib.hid (fun wx hx => by subst hx; exact ⟨k + 1, by omega, by go_num, hA, hB, hs.dr, ht.dr, Below.drew hb⟩)
      clear hA hB hs ht hb hc1 hc2 hkl
      go_wp2_with fail
      go_region
      all_goals
        go_wp2
        go_roundw
        case rel => exact HREL.out _ rfl
        case measure => simp [intOf]; omega
    · have HB := Lib.hid hb
      clear hA hB hs ht hb
      go_wp2
      go_ret
      exact ⟨rfl, HB.out⟩
end Go.Proofs.Ytkgahhfemlebmaa
