/-
  The first lines of the laws of layer 8 ('speaks'); what stands of a pace whose clocks all tick in turn.
-/
import Derived.Test.YtlphlmpfjpombaaPaceG
namespace Go.Proofs.Ytlphlmpfjpombaa
open Go.RowKit Go.Instr

theorem Fair_is (base P : Nat) (p : Pc) (r : Bool) (w : World) (hp : PaceE w base P p) (hr : (!p.bad) = r) :
    Calls Try.prog 24 #[.pointer (some ⟨P, 0, none⟩)] w fun e w' => e = .returned (.bool r) ∧ w = w' := by
  subst hr
  obtain ⟨mb, mc, nb, nc, xs, h⟩ := hp
  exact Fair_any base P p mb mc nb nc xs w h
theorem Ask_any (base P : Nat) (p : Pc) (i N : Nat) (w : World) (hp : PaceE w base P p) (hf : p.fine N) (hN : N ≤ 1000) (hb : base ≤ w.heap.size) (hi : i < p.ns.length) :
    Calls Try.prog 27 #[.pointer (some ⟨P, 0, none⟩), .int .i64 (i + 1)] w (PaceP base P w (.tuple #[]) (p.ask i)) := by
  rcases hs : p.ns[i].sp.getLast? with _ | s
  · exact Ask_new base P p i N w hp hf hN hb hi (fun s h => by rw [hs] at h; cases h)
  · by_cases hst : s.s = p.ns[i].t
    · exact Ask_old base P p i N w hp hf hN hb hi s hs hst
    · exact Ask_new base P p i N w hp hf hN hb hi (fun s' h => by rw [hs] at h; cases h; exact hst)
def pS0 : Pc := ⟨2, 3, [0], [⟨0, []⟩], false⟩
def pS1 : Pc := ⟨2, 3, [0], [⟨0, [⟨0, [0]⟩]⟩], false⟩
def pS2 : Pc := ⟨2, 3, [1], [⟨0, [⟨0, [0]⟩]⟩], false⟩
def pS3 : Pc := ⟨2, 3, [2], [⟨0, [⟨0, [0]⟩]⟩], false⟩
def pS4 : Pc := ⟨2, 3, [3], [⟨0, [⟨0, [0]⟩]⟩], true⟩
theorem fS0 : pS0.fine 10 := ⟨by decide, by decide, by decide, by decide, by decide, by unfold pS0; simp⟩
theorem fS1 : pS1.fine 10 := ⟨by decide, by decide, by decide, by decide, by decide, by unfold pS1; simp⟩
theorem fS2 : pS2.fine 10 := ⟨by decide, by decide, by decide, by decide, by decide, by unfold pS2; simp⟩
theorem fS3 : pS3.fine 10 := ⟨by decide, by decide, by decide, by decide, by decide, by unfold pS3; simp⟩
set_option maxHeartbeats 1000000 in
theorem speaks8 (w : World) : Calls Try.prog 22 #[] w fun e w' => e = .returned (.bool true) ∧ Below w.heap.size w w' := by
  go_enter Try.func22, Try.ntmps22
  go_wp2_with (first
    | (go_at_call 23; (refine (New_ok 1 1 2 3 _ (by decide) (by decide) (by decide) (by decide) (by decide) (by decide) (by decide) (by decide)).mono ?_); rintro en w1 ⟨P, hP, rfl, hA, hB⟩; have HP := Lib.hid hP; have HA1 : Hid (PaceE w1 w.heap.size P pS0) := Lib.hid hA; have HB1 := Lib.hid hB; clear hP hA hB)
    | (go_at_call 27; (refine (Ask_any w.heap.size P pS0 0 10 _ HA1.out fS0 (by decide) HB1.out.size (by decide)).mono ?_); rintro en w2 ⟨rfl, hA, hB, _⟩; have HA2 : Hid (PaceE w2 w.heap.size P pS1) := Lib.hid hA; have HB2 := Lib.hid (HB1.out.trans hB); clear hA hB)
    | (go_at_call 24; (refine (Fair_is w.heap.size P pS4 false _ HA5.out rfl).mono ?_); rintro en w6 ⟨rfl, rfl⟩)
    | (go_at_call 25; (refine (Master_yes w.heap.size P pS3 0 10 _ HA4.out fS3 (by decide) HP.out (by decide)).mono ?_); rintro en w5 ⟨rfl, hA, hB, _⟩; have HA5 : Hid (PaceE w5 w.heap.size P pS4) := Lib.hid hA; have HB5 := Lib.hid (HB4.out.trans hB); clear hA hB)
    | (go_at_call 24; (refine (Fair_is w.heap.size P pS3 true _ HA4.out rfl).mono ?_); rintro en w6 ⟨rfl, rfl⟩)
    | (go_at_call 25; (refine (Master_yes w.heap.size P pS2 0 10 _ HA3.out fS2 (by decide) HP.out (by decide)).mono ?_); rintro en w4 ⟨rfl, hA, hB, _⟩; have HA4 : Hid (PaceE w4 w.heap.size P pS3) := Lib.hid hA; have HB4 := Lib.hid (HB3.out.trans hB); clear hA hB)
    | (go_at_call 25; (refine (Master_yes w.heap.size P pS1 0 10 _ HA2.out fS1 (by decide) HP.out (by decide)).mono ?_); rintro en w3 ⟨rfl, hA, hB, _⟩; have HA3 : Hid (PaceE w3 w.heap.size P pS2) := Lib.hid hA; have HB3 := Lib.hid (HB2.out.trans hB); clear hA hB))
  go_ret
  exact ⟨rfl, HB5.out⟩
/-- A node in turn: its ticks, at most how many spans, each begun when every clock stood alike, and not over. -/
def NdOk (h T L : Nat) (x : Nd) : Prop := x.t = T ∧ x.sp.length ≤ L ∧ ∀ s ∈ x.sp, s.ms = List.replicate 3 s.s ∧ s.s ≤ T ∧ T < s.s + h
theorem NdOk.tick {h T L : Nat} {x : Nd} (hx : NdOk h T L x) : NdOk h (T + 1) L (Nd.tick h x) := by
  obtain ⟨e, hl, hs⟩ := hx
  refine ⟨by simp [Nd.tick, e], Nat.le_trans (List.length_filter_le _ _) hl, fun s hm => ?_⟩
  obtain ⟨hm1, hm2⟩ := List.mem_filter.1 hm
  obtain ⟨a, b, c⟩ := hs s hm1
  have := of_decide_eq_true hm2
  exact ⟨a, by omega, by omega⟩
theorem NdOk.ask {h T L : Nat} {x : Nd} (hx : NdOk h T L x) (hh : 1 ≤ h) : NdOk h T (L + 1) (Nd.ask (List.replicate 3 T) x) := by
  obtain ⟨e, hl, hs⟩ := hx
  have hnew : NdOk h T (L + 1) ⟨x.t, x.sp ++ [⟨x.t, List.replicate 3 T⟩]⟩ := by
    refine ⟨e, by simp; exact hl, fun s hm => ?_⟩
    rcases List.mem_append.1 hm with h1 | h1
    · exact hs s h1
    · rw [List.mem_singleton.1 h1]
      simp only [e]
      exact ⟨trivial, by omega, by omega⟩
  by_cases hq : ∀ s, x.sp.getLast? = some s → s.s ≠ x.t
  · rw [ask_new hq]; exact hnew
  · simp only [Classical.not_forall, Decidable.not_not] at hq
    obtain ⟨s, h1, h2⟩ := hq
    rw [ask_old h1 h2]
    exact ⟨e, by omega, hs⟩
theorem NdOk.stop {h T L : Nat} {x : Nd} (hx : NdOk h T L x) : NdOk h T L ⟨x.t, []⟩ := ⟨hx.1, Nat.zero_le _, fun s hm => (by cases hm)⟩
theorem NdOk.more {h T L L' : Nat} {x : Nd} (hx : NdOk h T L x) (hl : L ≤ L') : NdOk h T L' x := ⟨hx.1, Nat.le_trans hx.2.1 hl, hx.2.2⟩
theorem NdOk.late {h T L i k wt : Nat} {x : Nd} (hx : NdOk h T L x) (hi : i < 3) (hk : k ≤ T + 1) (hw : h < wt) : Nd.late i k wt x = false := by
  unfold Nd.late
  obtain ⟨_, _, hs⟩ := hx
  cases hsp : x.sp with
  | nil => rfl
  | cons s r =>
    obtain ⟨a, b, c⟩ := hs s (by rw [hsp]; simp)
    simp only
    rw [a, List.getD_eq_getElem?_getD, List.getElem?_replicate, if_pos hi]
    simp
    omega
/-- A pace in turn: the masters' ticks; each node's ticks and at most how many spans. -/
structure Ev (h wt : Nat) (ms : List Nat) (tl : List (Nat × Nat)) (p : Pc) : Prop where
  hold : p.hold = h
  wait : p.wait = wt
  ms : p.ms = ms
  bad : p.bad = false
  len : p.ns.length = tl.length
  ns : ∀ i (hi : i < p.ns.length) (hi' : i < tl.length), NdOk h tl[i].1 tl[i].2 p.ns[i]
theorem Ev.fine {h wt N : Nat} {ms : List Nat} {tl : List (Nat × Nat)} {p : Pc} (hp : Ev h wt ms tl p) (h1 : 1 ≤ h ∧ h ≤ 1000) (h2 : 1 ≤ wt ∧ wt ≤ 1000) (h3 : ms.length = 3) (h4 : tl.length = 4) (h5 : ∀ k ∈ ms, k ≤ N) (h6 : ∀ x ∈ tl, x.1 ≤ N ∧ x.2 ≤ N) : p.fine N := by
  refine ⟨by rw [hp.hold]; exact h1, by rw [hp.wait]; exact h2, by rw [hp.ms]; omega, by rw [hp.len]; omega, by rw [hp.ms]; exact h5, fun x hx => ?_⟩
  obtain ⟨i, hi, rfl⟩ := List.mem_iff_getElem.1 hx
  have hi' : i < tl.length := by rw [← hp.len]; exact hi
  obtain ⟨e, hl, hs⟩ := hp.ns i hi hi'
  have h7 := h6 _ (List.getElem_mem hi')
  refine ⟨by omega, by omega, fun s hsm => ?_⟩
  obtain ⟨a, b, c⟩ := hs s hsm
  refine ⟨by omega, by rw [a, hp.ms, h3]; simp, fun k hk => ?_⟩
  rw [a] at hk
  have := List.eq_of_mem_replicate hk
  omega
theorem Ev.master {h wt i : Nat} {ms : List Nat} {tl : List (Nat × Nat)} {p : Pc} (hp : Ev h wt ms tl p) (hw : h < wt) (h3 : ms.length = 3) (hi : i < ms.length) (hk : ∀ x ∈ tl, ms[i] ≤ x.1) : Ev h wt (ms.set i (ms[i] + 1)) tl (p.master i) := by
  have hg : p.ms.getD i 0 = ms[i] := by rw [hp.ms]; simp [List.getD_eq_getElem?_getD, List.getElem?_eq_getElem hi]
  refine ⟨hp.hold, hp.wait, by unfold Pc.master; rw [hg]; simp only [hp.ms], ?_, hp.len, hp.ns⟩
  unfold Pc.master
  simp only [hp.bad, Bool.false_or, hg, hp.wait]
  rw [List.any_eq_false]
  intro x hx
  obtain ⟨j, hj, rfl⟩ := List.mem_iff_getElem.1 hx
  have hj' : j < tl.length := by rw [← hp.len]; exact hj
  rw [(hp.ns j hj hj').late (by omega) (by have := hk _ (List.getElem_mem hj'); omega) hw]
  decide
theorem modify_at {α : Type} {l : List α} {i j : Nat} {f : α → α} (hj : j < (l.modify i f).length) (hj' : j < l.length) : (l.modify i f)[j] = if i = j then f l[j] else l[j] := by
  rw [List.getElem_modify]
theorem Ev.at {h wt i : Nat} {ms : List Nat} {tl : List (Nat × Nat)} {p : Pc} {f : Nd → Nd} {y : Nat × Nat} (hp : Ev h wt ms tl p) (hi : i < tl.length) (hf : ∀ x, NdOk h tl[i].1 tl[i].2 x → NdOk h y.1 y.2 (f x)) : Ev h wt ms (tl.set i y) { p with ns := p.ns.modify i f } := by
  refine ⟨hp.hold, hp.wait, hp.ms, hp.bad, by simp [hp.len], fun j hj hj' => ?_⟩
  simp only [List.length_modify] at hj
  simp only [List.length_set] at hj'
  simp only [List.getElem_modify, List.getElem_set]
  by_cases hij : i = j
  · subst hij
    rw [if_pos rfl, if_pos rfl]
    exact hf _ (hp.ns i hj hj')
  · rw [if_neg hij, if_neg hij]
    exact hp.ns j hj hj'
theorem Ev.node {h wt i : Nat} {ms : List Nat} {tl : List (Nat × Nat)} {p : Pc} (hp : Ev h wt ms tl p) (hi : i < tl.length) : Ev h wt ms (tl.set i (tl[i].1 + 1, tl[i].2)) (p.node i) := by
  have := hp.at (f := Nd.tick p.hold) (y := (tl[i].1 + 1, tl[i].2)) hi (fun x hx => by rw [hp.hold]; exact hx.tick)
  exact this
theorem Ev.ask {h wt i : Nat} {ms : List Nat} {tl : List (Nat × Nat)} {p : Pc} (hp : Ev h wt ms tl p) (hh : 1 ≤ h) (hi : i < tl.length) (hms : ms = List.replicate 3 tl[i].1) : Ev h wt ms (tl.set i (tl[i].1, tl[i].2 + 1)) (p.ask i) := by
  have := hp.at (f := Nd.ask p.ms) (y := (tl[i].1, tl[i].2 + 1)) hi (fun x hx => by rw [hp.ms, hms]; exact hx.ask hh)
  exact this
theorem Ev.stop {h wt i : Nat} {ms : List Nat} {tl : List (Nat × Nat)} {p : Pc} (hp : Ev h wt ms tl p) (hi : i < tl.length) : Ev h wt ms tl (p.stop i) := by
  have := hp.at (f := fun x => ⟨x.t, []⟩) (y := tl[i]) hi (fun x hx => hx.stop)
  rw [List.set_getElem_self] at this
  exact this
end Go.Proofs.Ytlphlmpfjpombaa
