/-
  The walk of the law's 'alike'.
-/
import Derived.Test.YtkgahhfemlebmaaRefB
namespace Go.Proofs.Ytkgahhfemlebmaa
open Go.RowKit Go.Instr

theorem alike_end {l k : List Mem} {j : Nat} (he : l.take j = k.take j) (h : ¬ j < l.length ∨ ¬ j < k.length) : ((l.length : Int) == k.length) = decide (l = k) := by
  rw [Bool.eq_iff_iff]
  simp only [beq_iff_eq, decide_eq_true_eq]
  constructor
  · intro hl
    have hl' : l.length = k.length := by omega
    have h1 : l.take j = l := List.take_of_length_le (by omega)
    have h2 : k.take j = k := List.take_of_length_le (by omega)
    rw [← h1, he, h2]
  · intro hl; rw [hl]
set_option maxHeartbeats 2000000 in
theorem alike_any (s t : Value) (l k : List Mem) (w : World) (hl : l.length ≤ 40) (hk : k.length ≤ 40) (hs : MemsAt w s l) (ht : MemsAt w t k) :
    Calls Try.prog 13 #[s, t] w fun e w' => e = .returned (.bool (decide (l = k))) ∧ Below w.heap.size w w' := by
  obtain ⟨a1, c1, rfl⟩ := hs.len
  obtain ⟨a2, c2, rfl⟩ := ht.len
  have HS := Lib.hid hs
  have HT := Lib.hid ht
  have HEND := Lib.hid (fun j => @alike_end l k j)
  obtain ⟨n, hn⟩ : ∃ n, n = l.length := ⟨_, rfl⟩
  obtain ⟨m, hm⟩ : ∃ m, m = k.length := ⟨_, rfl⟩
  rw [← hn] at hl HS HEND ⊢
  rw [← hm] at hk HT HEND ⊢
  have HN := Lib.hid hn
  have HM := Lib.hid hm
  clear hs ht hn hm
  go_enter Try.func13, Try.ntmps13
  go_wp2
  go_loopw [5] (fun i wr => ∃ j : Nat, j ≤ n ∧ j ≤ m ∧ i = .int .i64 j ∧ l.take j = k.take j ∧ Below w.heap.size w wr) (fun i _ => (n - (intOf i).toNat))
  case atStart => exact ⟨0, by omega, by omega, rfl, rfl, by go_grown⟩
  case round =>
    obtain ⟨j, hj, hj', rfl, he, hBw⟩ := hrel
    have HE := Lib.hid he
    have HBW := Lib.hid hBw
    clear he hBw
    by_cases hlt : j < n
    · by_cases hlt' : j < m
      · have h1 : j < l.length := by rw [← HN.out]; exact hlt
        have h2 : j < k.length := by rw [← HM.out]; exact hlt'
        obtain ⟨b, off, cg, hsg, hb, hc⟩ := HS.out.form (by omega)
        simp only [Value.slice.injEq] at hsg
        obtain ⟨rfl, hml, rfl⟩ := hsg
        clear hml
        obtain ⟨b2, off2, cg2, hsg, hb2, hc2⟩ := HT.out.form (by omega)
        simp only [Value.slice.injEq] at hsg
        obtain ⟨rfl, hml, rfl⟩ := hsg
        clear hml
        obtain ⟨c0, c1, c2⟩ := hc j h1
        obtain ⟨e0, e1, e2⟩ := hc2 j h2
        obtain ⟨p, hp⟩ : ∃ p, p = l[j] := ⟨_, rfl⟩
        obtain ⟨p', hp'⟩ : ∃ p, p = k[j] := ⟨_, rfl⟩
        rw [← hp] at c0 c1 c2
        rw [← hp'] at e0 e1 e2
        have HP := Lib.hid hp
        have HP' := Lib.hid hp'
        clear hp hp' hc hc2
        obtain ⟨pn, pl, pr⟩ := p
        obtain ⟨qn, ql, qr⟩ := p'
        simp only at c0 c1 c2 e0 e1 e2
        have x0 := (HBW.out.cell (p := ⟨b, off + j * 3, none⟩) hb).trans c0
        have x1 := (HBW.out.cell (p := ⟨b, off + j * 3 + 1, none⟩) hb).trans c1
        have x2 := (HBW.out.cell (p := ⟨b, off + j * 3 + 2, none⟩) hb).trans c2
        have y0 := (HBW.out.cell (p := ⟨b2, off2 + j * 3, none⟩) hb2).trans e0
        have y1 := (HBW.out.cell (p := ⟨b2, off2 + j * 3 + 1, none⟩) hb2).trans e1
        have y2 := (HBW.out.cell (p := ⟨b2, off2 + j * 3 + 2, none⟩) hb2).trans e2
        clear c0 c1 c2 e0 e1 e2
        have hstep : ∀ (_ : (⟨pn, pl, pr⟩ : Mem) = ⟨qn, ql, qr⟩), l.take (j + 1) = k.take (j + 1) := by
          intro h
          rw [List.take_succ_eq_append_getElem h1, List.take_succ_eq_append_getElem h2, HE.out, ← HP.out, ← HP'.out, h]
        have hdiff : ∀ (_ : (⟨pn, pl, pr⟩ : Mem) ≠ ⟨qn, ql, qr⟩), ¬ l = k := by
          intro h hlk
          subst hlk
          exact h (HP.out.trans HP'.out.symm)
        have HST := Lib.hid hstep
        have HDF := Lib.hid hdiff
        clear hstep hdiff HP HP' h1 h2
        by_cases hn : pn = qn
        · subst hn
          by_cases hll : pl = ql
          · subst hll
            by_cases hr : pr = qr
            · subst hr
              have HS1 := Lib.hid (HST.out rfl)
              go_wp2_with fail
              go_region
              all_goals
                go_wp2
                go_roundw
                case rel => exact ⟨j + 1, by omega, by omega, by go_num, HS1.out, by have := HBW.out; have := HBW.out.size; go_grown⟩
                case measure => simp [intOf]; omega
            · have HD := Lib.hid (HDF.out (by intro h; cases h; exact hr rfl))
              go_wp2_with fail
              go_region
              all_goals
                go_wp2
                go_ret
                exact ⟨rbool (decide_eq_false HD.out).symm, by have := HBW.out; have := HBW.out.size; go_grown⟩
          · have hx : ¬ (pl : Int) = ql := by omega
            have HD := Lib.hid (HDF.out (by intro h; cases h; exact hll rfl))
            go_wp2_with fail
            go_region
            all_goals
              go_wp2
              go_ret
              exact ⟨rbool (decide_eq_false HD.out).symm, by have := HBW.out; have := HBW.out.size; go_grown⟩
        · have hx : ¬ (pn : Int) = qn := by omega
          have HD := Lib.hid (HDF.out (by intro h; cases h; exact hn rfl))
          go_wp2_with fail
          go_region
          all_goals
            go_wp2
            go_ret
            exact ⟨rbool (decide_eq_false HD.out).symm, by have := HBW.out; have := HBW.out.size; go_grown⟩
      · have HX := Lib.hid (HEND.out j HE.out (.inr hlt'))
        go_wp2
        go_ret
        exact ⟨rbool HX.out, HBW.out⟩
    · have HX := Lib.hid (HEND.out j HE.out (.inl hlt))
      go_wp2
      go_ret
      exact ⟨rbool HX.out, HBW.out⟩
end Go.Proofs.Ytkgahhfemlebmaa
