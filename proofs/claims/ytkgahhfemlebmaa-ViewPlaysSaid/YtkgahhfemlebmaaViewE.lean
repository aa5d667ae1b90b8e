/-
  The walks of view's remove and change.
-/
import Derived.Test.YtkgahhfemlebmaaViewD
namespace Go.Proofs.Ytkgahhfemlebmaa
open Go.RowKit Go.Instr

theorem readyN_erase {l : List Mem} {i : Nat} (h : i < l.length) : readyN l = readyN (l.eraseIdx i) + if l[i].r then 1 else 0 := by
  have e : l = l.take i ++ l[i] :: l.drop (i + 1) := by rw [← List.drop_eq_getElem_cons h, List.take_append_drop]
  have h1 : readyN l = readyN (l.take i ++ l[i] :: l.drop (i + 1)) := by rw [← e]
  rw [h1, List.eraseIdx_eq_take_drop_succ]
  simp only [readyN, List.countP_append, List.countP_cons]
  omega
theorem OwnM.form {w : World} {base : Nat} {s : Value} {l : List Mem} (h : OwnM w base s l) (hi : 0 < l.length) : ∃ g cap, s = .slice (some ⟨g, 0, none⟩) l.length cap ∧ base ≤ g ∧ g < w.heap.size ∧ ∀ j, j < l.length * 3 → w.frozen? ⟨g, j, none⟩ = false := by
  rcases h.2 with ⟨_, h0⟩ | ⟨g, cap, cur, he, hb, hg, _⟩
  · omega
  · refine ⟨g, cap, he, hb, (Array.getElem?_eq_some_iff.1 hg).1, fun j _ => ?_⟩
    unfold World.frozen?; rw [hg]; simp
theorem MemsAt.at {w : World} {g n cap : Nat} {l : List Mem} (h : MemsAt w (.slice (some ⟨g, 0, none⟩) n cap) l) (i : Nat) (hi : i < l.length) : w.cell? ⟨g, i * 3, none⟩ = some (.int .u8 l[i].n) ∧ w.cell? ⟨g, i * 3 + 1, none⟩ = some (.int .u8 l[i].l) ∧ w.cell? ⟨g, i * 3 + 2, none⟩ = some (.bool l[i].r) := by
  rcases h with ⟨h, _⟩ | ⟨b', off', cap', he, hb, hc⟩
  · cases h
  · simp only [Value.slice.injEq, Option.some.injEq, Addr.mk.injEq] at he
    obtain ⟨⟨rfl, rfl, _⟩, rfl, rfl⟩ := he
    have := hc i hi
    simpa only [Nat.zero_add] using this
theorem OwnM.on {w w1 : World} {base : Nat} {s : Value} {l : List Mem} (h : OwnM w base s l) (hB : Below w.heap.size w w1) : OwnM w1 base s l := own_below h hB
theorem OwnM.ne {w : World} {base B : Nat} {g n c : Nat} {l : List Mem} {cs : Array Value} (h : OwnM w base (.slice (some ⟨g, 0, none⟩) n c) l) (hv : Blk w B cs 28) : B ≠ g := by
  intro e
  exact own_ne h hv (by decide) (by rw [e]; rfl)
/-- What is left once the i-th is gone, if it may go. -/
def remB (e : Nat) (l : List Mem) (i : Nat) : Bool := decide (0 < readyN (l.eraseIdx i) ∧ e ≠ 4294967295)
theorem rem_facts {l : List Mem} {i : Nat} (hi : i < l.length) : ∃ (rd : Bool) (R RN : Nat), RN = readyN l ∧ R = readyN (l.eraseIdx i) ∧ rd = (l[i]'hi).r ∧ RN = (if rd = true then R + 1 else R) ∧ RN ≤ l.length :=
  ⟨_, _, _, rfl, rfl, rfl, by rw [readyN_erase hi]; split <;> rfl, readyN_le l⟩
set_option maxHeartbeats 1000000 in
theorem remove_yes (base B e : Nat) (s : Value) (lv : Lv) (l : List Mem) (i : Nat) (w : World) (hl : l.length ≤ 40) (hv : Blk w B (vC e s lv) 28) (hs : OwnM w base s l) (hbw : base ≤ w.heap.size) (hi : i < l.length) (he32 : e < 4294967296) (hyes : remB e l i = true) :
    Calls Try.prog 28 #[.pointer (some ⟨B, 0, none⟩), .int .i64 i] w (ChgP base B w true (e + 1) lv (l.eraseIdx i)) := by
  obtain ⟨g, cap, rfl, hg, hgw, hfz⟩ := hs.form (by omega)
  have hBg := hs.ne hv
  obtain ⟨rd, R, RN, hRN, hR, hrd, hre, hrl⟩ := rem_facts hi
  have hB := (decide_eq_true_iff.1 hyes)
  rw [← hR] at hB
  obtain ⟨hR0, hel⟩ := hB
  have HMW := MemsAt.at hs.mems i hi
  rw [← hrd] at HMW
  have HDEL := Lib.hid (fun w2 (h : OwnM w2 base (.slice (some ⟨g, 0, none⟩) l.length cap) l) => delete_any base g cap l i w2 hl h hi)
  have HI := Lib.hid hi
  obtain ⟨n, hn⟩ : ∃ n, n = l.length := ⟨_, rfl⟩
  have HL := Lib.hid hl
  rw [← hn] at hl hi hrl hs hv HDEL
  have HO := Lib.hid hs
  have HV := Lib.hid hv
  have HRN := Lib.hid hRN
  have HN := Lib.hid hn
  obtain ⟨d0, d1, d2, d3, d4, d5, d6, d7, d8, d9⟩ := hv.ten
  have HMW2 := Lib.hid HMW.2.2
  have hBw := hv.lt
  clear hs hv hfz hrd hR hn hRN hyes HMW
  have hR1 : ¬ R = 0 := by omega
  cases rd with
  | true =>
    simp only [if_true] at hre
    subst hre
    go_enter Try.func28, Try.ntmps28
    go_upto_region 6 with (first | (go_at_call 14; (refine (ready_any e _ lv l _ HL.out HO.out.mems).mono ?_); rw [← HRN.out]; rintro en w1 ⟨rfl, hB⟩; have HB := Lib.hid hB; obtain ⟨d0, d1, d2, d3, d4, d5, d6, d7, d8, d9⟩ := (HV.out.on hB).ten; have q2 := (hB.cell (p := ⟨g, i * 3 + 2, none⟩) hgw).trans HMW2.out; clear hB) | (go_at_call 33; (with_reducible refine (last_any B e _ lv _ (HV.out.on HB.out)).mono ?_); rw [decide_eq_false hel]; rintro en w2 ⟨rfl, rfl⟩))
    go_wp2_with (go_at_call 34; (refine (HDEL.out _ (HO.out.on HB.out)).mono ?_); rintro en w2 ⟨rfl, hM, hB2, hheap⟩; have HM := Lib.hid hM; have HV2 : Hid (Blk w2 B (vC e (.slice (some ⟨g, 0, none⟩) n cap) lv) 28) := Lib.hid ((hheap B hBg).trans (HV.out.on HB.out)); have HB2 : Hid (Below base w w2) := Lib.hid ((HB.out.mono (by omega)).trans hB2); clear hM hB2 hheap; obtain ⟨d0, d1, d2, d3, d4, d5, d6, d7, d8, d9⟩ := HV2.out.ten; have f0 := HV2.out.frozen 0; have f1 := HV2.out.frozen 1)
    go_ret
    refine ⟨.slice (some ⟨g, 0, none⟩) (l.length - 1) cap, rfl, ?_, ?_, ?_⟩
    · exact Blk.set (Blk.set HV2.out 1 _ (vC e (.slice (some ⟨g, 0, none⟩) (l.length - 1) cap) lv) rfl) 0 _ _ rfl
    · exact (HM.out.set hBg.symm).set hBg.symm
    · exact ((KB.of_below HB2.out).set).set
  | false =>
    simp only [Bool.false_eq_true, if_false] at hre
    subst hre
    go_enter Try.func28, Try.ntmps28
    go_upto_region 6 with (first | (go_at_call 14; (refine (ready_any e _ lv l _ HL.out HO.out.mems).mono ?_); rw [← HRN.out]; rintro en w1 ⟨rfl, hB⟩; have HB := Lib.hid hB; obtain ⟨d0, d1, d2, d3, d4, d5, d6, d7, d8, d9⟩ := (HV.out.on hB).ten; have q2 := (hB.cell (p := ⟨g, i * 3 + 2, none⟩) hgw).trans HMW2.out; clear hB) | (go_at_call 33; (with_reducible refine (last_any B e _ lv _ (HV.out.on HB.out)).mono ?_); rw [decide_eq_false hel]; rintro en w2 ⟨rfl, rfl⟩))
    go_wp2_with (go_at_call 34; (refine (HDEL.out _ (HO.out.on HB.out)).mono ?_); rintro en w2 ⟨rfl, hM, hB2, hheap⟩; have HM := Lib.hid hM; have HV2 : Hid (Blk w2 B (vC e (.slice (some ⟨g, 0, none⟩) n cap) lv) 28) := Lib.hid ((hheap B hBg).trans (HV.out.on HB.out)); have HB2 : Hid (Below base w w2) := Lib.hid ((HB.out.mono (by omega)).trans hB2); clear hM hB2 hheap; obtain ⟨d0, d1, d2, d3, d4, d5, d6, d7, d8, d9⟩ := HV2.out.ten; have f0 := HV2.out.frozen 0; have f1 := HV2.out.frozen 1)
    go_ret
    refine ⟨.slice (some ⟨g, 0, none⟩) (l.length - 1) cap, rfl, ?_, ?_, ?_⟩
    · exact Blk.set (Blk.set HV2.out 1 _ (vC e (.slice (some ⟨g, 0, none⟩) (l.length - 1) cap) lv) rfl) 0 _ _ rfl
    · exact (HM.out.set hBg.symm).set hBg.symm
    · exact ((KB.of_below HB2.out).set).set
set_option maxHeartbeats 1000000 in
theorem remove_no (base B e : Nat) (s : Value) (lv : Lv) (l : List Mem) (i : Nat) (w : World) (hl : l.length ≤ 40) (hv : Blk w B (vC e s lv) 28) (hs : OwnM w base s l) (hbw : base ≤ w.heap.size) (hi : i < l.length) (he32 : e < 4294967296) (hyes : remB e l i = false) :
    Calls Try.prog 28 #[.pointer (some ⟨B, 0, none⟩), .int .i64 i] w (ChgP base B w false e lv l) := by
  obtain ⟨g, cap, rfl, hg, hgw, hfz⟩ := hs.form (by omega)
  have hBg := hs.ne hv
  obtain ⟨rd, R, RN, hRN, hR, hrd, hre, hrl⟩ := rem_facts hi
  have hB := (decide_eq_false_iff_not.1 hyes)
  rw [← hR] at hB
  have HMW := MemsAt.at hs.mems i hi
  rw [← hrd] at HMW
  have HI := Lib.hid hi
  obtain ⟨n, hn⟩ : ∃ n, n = l.length := ⟨_, rfl⟩
  have HL := Lib.hid hl
  rw [← hn] at hl hi hrl hs hv
  have HO := Lib.hid hs
  have HV := Lib.hid hv
  have HRN := Lib.hid hRN
  have HN := Lib.hid hn
  obtain ⟨d0, d1, d2, d3, d4, d5, d6, d7, d8, d9⟩ := hv.ten
  have HMW2 := Lib.hid HMW.2.2
  have hBw := hv.lt
  clear hs hv hfz hrd hR hn hRN hyes HMW
  have HNO := Lib.hid hB
  clear hB
  by_cases hR1 : R = 0
  · subst hR1
    have hRi : ((0 : Nat) : Int) = 0 := rfl
    cases rd with
    | true =>
      simp only [if_true] at hre
      subst hre
      go_enter Try.func28, Try.ntmps28
      go_wp2_with (first | (go_at_call 14; (refine (ready_any e _ lv l _ HL.out HO.out.mems).mono ?_); rw [← HRN.out]; rintro en w1 ⟨rfl, hB⟩; have HB := Lib.hid hB; obtain ⟨d0, d1, d2, d3, d4, d5, d6, d7, d8, d9⟩ := (HV.out.on hB).ten; have q2 := (hB.cell (p := ⟨g, i * 3 + 2, none⟩) hgw).trans HMW2.out; clear hB))
      go_ret
      exact chg_no HV.out HO.out.mems HB.out hbw
    | false =>
      simp only [Bool.false_eq_true, if_false] at hre
      subst hre
      go_enter Try.func28, Try.ntmps28
      go_wp2_with (first | (go_at_call 14; (refine (ready_any e _ lv l _ HL.out HO.out.mems).mono ?_); rw [← HRN.out]; rintro en w1 ⟨rfl, hB⟩; have HB := Lib.hid hB; obtain ⟨d0, d1, d2, d3, d4, d5, d6, d7, d8, d9⟩ := (HV.out.on hB).ten; have q2 := (hB.cell (p := ⟨g, i * 3 + 2, none⟩) hgw).trans HMW2.out; clear hB))
      go_ret
      exact chg_no HV.out HO.out.mems HB.out hbw
  · have hel : e = 4294967295 := by
      have := HNO.out
      omega
    have HEL := Lib.hid hel
    clear hel
    cases rd with
    | true =>
      simp only [if_true] at hre
      subst hre
      go_enter Try.func28, Try.ntmps28
      go_wp2_with (first | (go_at_call 14; (refine (ready_any e _ lv l _ HL.out HO.out.mems).mono ?_); rw [← HRN.out]; rintro en w1 ⟨rfl, hB⟩; have HB := Lib.hid hB; obtain ⟨d0, d1, d2, d3, d4, d5, d6, d7, d8, d9⟩ := (HV.out.on hB).ten; have q2 := (hB.cell (p := ⟨g, i * 3 + 2, none⟩) hgw).trans HMW2.out; clear hB) | (go_at_call 33; (with_reducible refine (last_any B e _ lv _ (HV.out.on HB.out)).mono ?_); rw [decide_eq_true HEL.out]; rintro en w2 ⟨rfl, rfl⟩))
      go_ret
      exact chg_no HV.out HO.out.mems HB.out hbw
    | false =>
      simp only [Bool.false_eq_true, if_false] at hre
      subst hre
      go_enter Try.func28, Try.ntmps28
      go_wp2_with (first | (go_at_call 14; (refine (ready_any e _ lv l _ HL.out HO.out.mems).mono ?_); rw [← HRN.out]; rintro en w1 ⟨rfl, hB⟩; have HB := Lib.hid hB; obtain ⟨d0, d1, d2, d3, d4, d5, d6, d7, d8, d9⟩ := (HV.out.on hB).ten; have q2 := (hB.cell (p := ⟨g, i * 3 + 2, none⟩) hgw).trans HMW2.out; clear hB) | (go_at_call 33; (with_reducible refine (last_any B e _ lv _ (HV.out.on HB.out)).mono ?_); rw [decide_eq_true HEL.out]; rintro en w2 ⟨rfl, rfl⟩))
      go_ret
      exact chg_no HV.out HO.out.mems HB.out hbw
end Go.Proofs.Ytkgahhfemlebmaa
