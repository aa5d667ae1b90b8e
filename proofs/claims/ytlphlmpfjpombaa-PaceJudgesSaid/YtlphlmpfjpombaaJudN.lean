/-
  The law PaceJudges: nodes tick, request and stop; any act; the bounds.
-/
import Derived.Test.YtlphlmpfjpombaaJudM
namespace Go.Proofs.Ytlphlmpfjpombaa

theorem Jv.start (h wt m nn : Nat) : Jv h wt m nn ⟨h, wt, List.replicate m 0, List.replicate nn ⟨0, []⟩, false⟩ [] := by
  refine ⟨rfl, rfl, by simp, by simp, fun e he => (by cases he), rfl, fun e he => (by cases he), fun i q hq s hs => ?_, fun i q hq => ?_⟩
  · have := List.eq_of_mem_replicate (List.mem_of_getElem? hq)
    subst this
    cases hs
  · have := List.eq_of_mem_replicate (List.mem_of_getElem? hq)
    subst this
    exact List.Pairwise.nil
theorem modify_get {α : Type} {l : List α} {i j : Nat} {f : α → α} {q : α} (h : (l.modify i f)[j]? = some q) : ∃ q0, l[j]? = some q0 ∧ q = if i = j then f q0 else q0 := by
  rw [List.getElem?_modify] at h
  cases hj : l[j]? with
  | none => rw [hj] at h; simp at h
  | some q0 =>
    rw [hj] at h
    simp only [Option.map_eq_map, Option.map_some, Option.some.injEq] at h
    exact ⟨q0, rfl, h.symm⟩
theorem any_map_bad {h wt m : Nat} {x : Ac} {S : List Se} (hb : ∀ e : Se, (Se.step h wt m x e).bad = e.bad) : (S.map (Se.step h wt m x)).any (·.bad) = S.any (·.bad) := by
  rw [List.any_map]
  congr 1
  funext e
  exact hb e
/-- A node ticks. -/
theorem Jv.node {h wt m nn : Nat} {p : Pc} {S : List Se} {x : Ac} (hp : Jv h wt m nn p S) (h1 : x.1 = 2) (h2 : 1 ≤ x.2) : Jv h wt m nn (p.node (Ac.at0 x)) (spans1 h wt m nn S x) := by
  have ha : ¬ Ac.asks nn x := by rintro ⟨a, _⟩; omega
  have hr : ¬ Ac.rules m x := by rintro ⟨a, _⟩; omega
  have hs : ∀ n, ¬ Ac.stops n x := by rintro n ⟨a, _⟩; omega
  have ht : ∀ n, Ac.ticks n x ↔ Ac.at0 x = n := fun n => by unfold Ac.ticks Ac.at0; omega
  have hst : ∀ e : Se, Se.step h wt m x e = if e.op = true ∧ Ac.at0 x = e.n then { e with t := e.t + 1, op := decide (e.t + 1 < h) } else e := fun e => by
    unfold Se.step
    by_cases ho : e.op = false
    · rw [if_pos ho, if_neg (by rw [ho]; rintro ⟨a, _⟩; cases a)]
    · have ho' : e.op = true := by simpa using ho
      rw [if_neg ho, if_neg (hs _)]
      by_cases hn : Ac.at0 x = e.n
      · rw [if_pos ((ht _).2 hn), if_pos ⟨ho', hn⟩]
      · rw [if_neg (fun c => hn ((ht _).1 c)), if_neg hr, if_neg (fun c => hn c.2)]
  generalize Ac.at0 x = i at *
  unfold spans1
  rw [if_neg ha, List.append_nil]
  refine ⟨hp.hold, hp.wait, hp.ms, by simp [Pc.node, hp.ns], fun e he => ?_, ?_, fun e he ho q hq => ?_, fun i' q hq s hs' => ?_, fun i' q hq => ?_⟩
  · obtain ⟨e0, he0, rfl⟩ := List.mem_map.1 he
    rw [hst]
    have := hp.each e0 he0
    split
    · exact ⟨this.1, this.2.1, fun c => by simpa using c⟩
    · exact this
  · rw [any_map_bad (fun e => by rw [hst]; split <;> rfl)]
    exact hp.bad
  · obtain ⟨e0, he0, rfl⟩ := List.mem_map.1 he
    obtain ⟨q0, hq0, rfl⟩ := modify_get hq
    rw [hst] at ho hq0 ⊢
    by_cases hc : e0.op = true ∧ i = e0.n
    · rw [if_pos hc] at ho hq0 ⊢
      simp only at ho hq0 ⊢
      rw [if_pos hc.2]
      obtain ⟨s, hs', a, b⟩ := hp.fwd e0 he0 hc.1 q0 hq0
      refine ⟨s, List.mem_filter.2 ⟨hs', ?_⟩, by simp only [Nd.tick]; omega, b⟩
      simp only [decide_eq_true_eq] at ho ⊢
      rw [hp.hold]
      omega
    · rw [if_neg hc] at ho hq0 ⊢
      rw [if_neg (fun c => hc ⟨ho, c⟩)]
      exact hp.fwd e0 he0 ho q0 hq0
  · obtain ⟨q0, hq0, rfl⟩ := modify_get hq
    by_cases hc : i = i'
    · rw [if_pos hc] at hs' ⊢
      obtain ⟨hs0, hs1⟩ := List.mem_filter.1 hs'
      obtain ⟨e, he, ho, hen, a, b⟩ := hp.bwd i' q0 hq0 s hs0
      refine ⟨_, List.mem_map_of_mem he, ?_⟩
      rw [hst, if_pos ⟨ho, by rw [hc, hen]⟩]
      simp only [decide_eq_true_eq] at hs1
      rw [hp.hold] at hs1
      exact ⟨by simp only [decide_eq_true_eq]; omega, hen, by simp only [Nd.tick]; omega, b⟩
    · rw [if_neg hc] at hs' ⊢
      obtain ⟨e, he, ho, hen, a, b⟩ := hp.bwd i' q0 hq0 s hs'
      refine ⟨_, List.mem_map_of_mem he, ?_⟩
      rw [hst, if_neg (fun c => hc (by rw [c.2, hen]))]
      exact ⟨ho, hen, a, b⟩
  · obtain ⟨q0, hq0, rfl⟩ := modify_get hq
    have := hp.pw i' q0 hq0
    split
    · exact this.filter _
    · exact this
/-- A node stops. -/
theorem Jv.stop {h wt m nn : Nat} {p : Pc} {S : List Se} {x : Ac} (hp : Jv h wt m nn p S) (h1 : x.1 = 4) (h2 : 1 ≤ x.2) : Jv h wt m nn (p.stop (Ac.at0 x)) (spans1 h wt m nn S x) := by
  have ha : ¬ Ac.asks nn x := by rintro ⟨a, _⟩; omega
  have hr : ¬ Ac.rules m x := by rintro ⟨a, _⟩; omega
  have hs : ∀ n, ¬ Ac.ticks n x := by rintro n ⟨a, _⟩; omega
  have ht : ∀ n, Ac.stops n x ↔ Ac.at0 x = n := fun n => by unfold Ac.stops Ac.at0; omega
  have hst : ∀ e : Se, Se.step h wt m x e = if e.op = true ∧ Ac.at0 x = e.n then { e with op := false } else e := fun e => by
    unfold Se.step
    by_cases ho : e.op = false
    · rw [if_pos ho, if_neg (by rw [ho]; rintro ⟨a, _⟩; cases a)]
    · have ho' : e.op = true := by simpa using ho
      rw [if_neg ho]
      by_cases hn : Ac.at0 x = e.n
      · rw [if_pos ((ht _).2 hn), if_pos ⟨ho', hn⟩]
      · rw [if_neg (fun c => hn ((ht _).1 c)), if_neg (hs _), if_neg hr, if_neg (fun c => hn c.2)]
  generalize Ac.at0 x = i at *
  unfold spans1
  rw [if_neg ha, List.append_nil]
  refine ⟨hp.hold, hp.wait, hp.ms, by simp [Pc.stop, hp.ns], fun e he => ?_, ?_, fun e he ho q hq => ?_, fun i' q hq s hs' => ?_, fun i' q hq => ?_⟩
  · obtain ⟨e0, he0, rfl⟩ := List.mem_map.1 he
    rw [hst]
    have := hp.each e0 he0
    split
    · exact ⟨this.1, this.2.1, fun c => by cases c⟩
    · exact this
  · rw [any_map_bad (fun e => by rw [hst]; split <;> rfl)]
    exact hp.bad
  · obtain ⟨e0, he0, rfl⟩ := List.mem_map.1 he
    obtain ⟨q0, hq0, rfl⟩ := modify_get hq
    rw [hst] at ho hq0 ⊢
    by_cases hc : e0.op = true ∧ i = e0.n
    · rw [if_pos hc] at ho
      cases ho
    · rw [if_neg hc] at ho hq0 ⊢
      rw [if_neg (fun c => hc ⟨ho, c⟩)]
      exact hp.fwd e0 he0 ho q0 hq0
  · obtain ⟨q0, hq0, rfl⟩ := modify_get hq
    by_cases hc : i = i'
    · rw [if_pos hc] at hs'
      cases hs'
    · rw [if_neg hc] at hs' ⊢
      obtain ⟨e, he, ho, hen, a, b⟩ := hp.bwd i' q0 hq0 s hs'
      refine ⟨_, List.mem_map_of_mem he, ?_⟩
      rw [hst, if_neg (fun c => hc (by rw [c.2, hen]))]
      exact ⟨ho, hen, a, b⟩
  · obtain ⟨q0, hq0, rfl⟩ := modify_get hq
    have := hp.pw i' q0 hq0
    split
    · exact List.Pairwise.nil
    · exact this
/-- A node requests. -/
theorem Jv.ask {h wt m nn : Nat} {p : Pc} {S : List Se} {x : Ac} (hp : Jv h wt m nn p S) (hh : 1 ≤ h) (h1 : x.1 = 3) (h2 : 1 ≤ x.2) (h3 : x.2 ≤ (nn : Int)) : Jv h wt m nn (p.ask (Ac.at0 x)) (spans1 h wt m nn S x) := by
  have ha : Ac.asks nn x := ⟨h1, h2, h3⟩
  have hr : ¬ Ac.rules m x := by rintro ⟨a, _⟩; omega
  have hmap : S.map (Se.step h wt m x) = S := map_same (fun e _ => ⟨by rintro ⟨a, _⟩; omega, by rintro ⟨a, _⟩; omega⟩) hr
  have hi : Ac.at0 x < nn := by unfold Ac.at0; omega
  unfold spans1
  rw [if_pos ha, hmap]
  generalize Ac.at0 x = i at *
  have hget0 : ∀ j, (List.replicate m 0).getD j 0 = 0 := fun j => by
    rw [List.getD_eq_getElem?_getD, List.getElem?_replicate]
    split <;> rfl
  -- what a request makes of a node
  have hask : ∀ q : Nd, p.ns[i]? = some q → (∀ s ∈ q.sp, s ∈ (Nd.ask p.ms q).sp) ∧ (Nd.ask p.ms q).t = q.t ∧ (∃ s ∈ (Nd.ask p.ms q).sp, q.t = s.s ∧ ∀ j, j < m → s.ms.getD j 0 ≤ p.ms.getD j 0) ∧ (∀ s ∈ (Nd.ask p.ms q).sp, s ∈ q.sp ∨ (q.t = s.s ∧ s.ms = p.ms)) ∧ (Nd.ask p.ms q).sp.Pairwise fun a b => ∀ j, j < m → a.ms.getD j 0 ≤ b.ms.getD j 0 := fun q hq => by
    by_cases hl : ∀ s, q.sp.getLast? = some s → s.s ≠ q.t
    · rw [ask_new hl]
      refine ⟨fun s hs => List.mem_append_left _ hs, rfl, ⟨⟨q.t, p.ms⟩, by simp, rfl, fun j _ => Nat.le_refl _⟩, fun s hs => ?_, ?_⟩
      · rcases List.mem_append.1 hs with hs | hs
        · exact .inl hs
        · rw [List.mem_singleton.1 hs]; exact .inr ⟨rfl, rfl⟩
      · rw [List.pairwise_append]
        refine ⟨hp.pw i q hq, List.pairwise_singleton _ _, fun a ha b hb j hj => ?_⟩
        rw [List.mem_singleton.1 hb]
        obtain ⟨e, _, _, _, _, hje⟩ := hp.bwd i q hq a ha
        have := hje j hj
        simp only
        omega
    · simp only [Classical.not_forall, Decidable.not_not] at hl
      obtain ⟨s, hs1, hs2⟩ := hl
      rw [ask_old hs1 hs2]
      have hs := List.mem_of_getLast? hs1
      refine ⟨fun s hs => hs, rfl, ⟨s, hs, hs2.symm, fun j hj => ?_⟩, fun s hs => .inl hs, hp.pw i q hq⟩
      obtain ⟨e, _, _, _, _, hje⟩ := hp.bwd i q hq s hs
      have := hje j hj
      omega
  refine ⟨hp.hold, hp.wait, hp.ms, by simp [Pc.ask, hp.ns], fun e he => ?_, ?_, fun e he ho q hq => ?_, fun i' q hq s hs' => ?_, fun i' q hq => ?_⟩
  · rcases List.mem_append.1 he with he | he
    · exact hp.each e he
    · rw [List.mem_singleton.1 he]
      exact ⟨by simp, hi, fun _ => by simp only; omega⟩
  · rw [List.any_append]
    simp only [List.any_cons, List.any_nil, Bool.or_false]
    exact hp.bad
  · obtain ⟨q0, hq0, rfl⟩ := modify_get hq
    rcases List.mem_append.1 he with he | he
    · obtain ⟨s, hs, a, b⟩ := hp.fwd e he ho q0 hq0
      by_cases hc : i = e.n
      · rw [if_pos hc]
        obtain ⟨k1, k2, _⟩ := hask q0 (by rw [hc]; exact hq0)
        exact ⟨s, k1 s hs, by rw [k2]; exact a, b⟩
      · rw [if_neg hc]
        exact ⟨s, hs, a, b⟩
    · rw [List.mem_singleton.1 he] at hq0 ⊢
      simp only [if_true] at hq0 ⊢
      obtain ⟨_, k2, ⟨s, hs, a, b⟩, _⟩ := hask q0 hq0
      refine ⟨s, hs, by rw [k2, a]; rfl, fun j hj => ?_⟩
      rw [hget0]
      exact b j hj
  · obtain ⟨q0, hq0, rfl⟩ := modify_get hq
    by_cases hc : i = i'
    · rw [if_pos hc] at hs' ⊢
      subst hc
      obtain ⟨_, k2, _, k4, _⟩ := hask q0 hq0
      rcases k4 s hs' with hs | ⟨a, b⟩
      · obtain ⟨e, he, ho, hen, a, b⟩ := hp.bwd i q0 hq0 s hs
        exact ⟨e, List.mem_append_left _ he, ho, hen, by rw [k2]; exact a, b⟩
      · refine ⟨_, List.mem_append_right _ (List.mem_singleton.2 rfl), rfl, rfl, by rw [k2, a]; rfl, fun j hj => ?_⟩
        simp only
        rw [hget0, b]
        rfl
    · rw [if_neg hc] at hs' ⊢
      obtain ⟨e, he, ho, hen, a, b⟩ := hp.bwd i' q0 hq0 s hs'
      exact ⟨e, List.mem_append_left _ he, ho, hen, a, b⟩
  · obtain ⟨q0, hq0, rfl⟩ := modify_get hq
    by_cases hc : i = i'
    · rw [if_pos hc]
      subst hc
      exact (hask q0 hq0).2.2.2.2
    · rw [if_neg hc]
      exact hp.pw i' q0 hq0
/-- The bounds. -/
theorem Pc.fine.more {p : Pc} {N : Nat} (hp : p.fine N) : p.fine (N + 1) :=
  ⟨hp.hold, hp.wait, hp.ms, hp.ns, fun k hk => Nat.le_succ_of_le (hp.msN k hk), fun x hx => ⟨Nat.le_succ_of_le (hp.nsN x hx).1, Nat.le_succ_of_le (hp.nsN x hx).2.1, fun s hs => ⟨((hp.nsN x hx).2.2 s hs).1, ((hp.nsN x hx).2.2 s hs).2.1, fun k hk => Nat.le_succ_of_le (((hp.nsN x hx).2.2 s hs).2.2 k hk)⟩⟩⟩
theorem Pc.fine.master {p : Pc} {N i : Nat} (hp : p.fine N) : (p.master i).fine (N + 1) := by
  refine ⟨hp.hold, hp.wait, by simp [Pc.master]; exact hp.ms, hp.ns, fun k hk => ?_, fun x hx => ?_⟩
  · simp only [Pc.master] at hk
    rcases List.mem_or_eq_of_mem_set hk with hk | rfl
    · exact Nat.le_succ_of_le (hp.msN k hk)
    · by_cases h : i < p.ms.length
      · have : p.ms.getD i 0 = p.ms[i] := by rw [List.getD_eq_getElem?_getD, List.getElem?_eq_getElem h]; rfl
        rw [this]
        have := hp.msN _ (List.getElem_mem h)
        omega
      · have : p.ms.getD i 0 = 0 := by rw [List.getD_eq_getElem?_getD, List.getElem?_eq_none (by omega)]; rfl
        omega
  · obtain ⟨a, b, c⟩ := hp.more.nsN x hx
    exact ⟨a, b, fun s hs => ⟨(c s hs).1, by simp only [Pc.master, List.length_set]; exact (c s hs).2.1, (c s hs).2.2⟩⟩
theorem Pc.fine.at {p : Pc} {N i : Nat} {f : Nd → Nd} (hp : p.fine N) (hf : ∀ x ∈ p.ns, (f x).t ≤ N + 1 ∧ (f x).sp.length ≤ N + 1 ∧ ∀ s ∈ (f x).sp, s.s ≤ (f x).t ∧ s.ms.length = p.ms.length ∧ ∀ k ∈ s.ms, k ≤ N + 1) : ({ p with ns := p.ns.modify i f } : Pc).fine (N + 1) := by
  refine ⟨hp.hold, hp.wait, hp.ms, by simpa using hp.ns, hp.more.msN, fun x hx => ?_⟩
  obtain ⟨j, hj, hjx⟩ := List.getElem_of_mem hx
  obtain ⟨q0, hq0, rfl⟩ := modify_get (List.getElem?_eq_some_iff.2 ⟨hj, hjx⟩)
  split
  · exact hf q0 (List.mem_of_getElem? hq0)
  · exact hp.more.nsN q0 (List.mem_of_getElem? hq0)
theorem Pc.fine.node {p : Pc} {N i : Nat} (hp : p.fine N) : (p.node i).fine (N + 1) := hp.at fun x hx => by
  obtain ⟨a, b, c⟩ := hp.more.nsN x hx
  refine ⟨by have := (hp.nsN x hx).1; simp only [Nd.tick]; omega, Nat.le_trans (List.length_filter_le _ _) b, fun s hs => ?_⟩
  have := c s (List.mem_filter.1 hs).1
  exact ⟨by simp only [Nd.tick]; omega, this.2⟩
theorem Pc.fine.stop {p : Pc} {N i : Nat} (hp : p.fine N) : (p.stop i).fine (N + 1) := hp.at fun x hx => by
  obtain ⟨a, b, c⟩ := hp.more.nsN x hx
  exact ⟨a, Nat.zero_le _, fun s hs => (by cases hs)⟩
theorem Pc.fine.ask {p : Pc} {N i : Nat} (hp : p.fine N) : (p.ask i).fine (N + 1) := hp.at fun x hx => by
  obtain ⟨a, b, c⟩ := hp.more.nsN x hx
  by_cases hl : ∀ s, x.sp.getLast? = some s → s.s ≠ x.t
  · rw [ask_new hl]
    refine ⟨a, by have := (hp.nsN x hx).2.1; simp; omega, fun s hs => ?_⟩
    rcases List.mem_append.1 hs with hs | hs
    · exact c s hs
    · rw [List.mem_singleton.1 hs]
      exact ⟨Nat.le_refl _, rfl, hp.more.msN⟩
  · simp only [Classical.not_forall, Decidable.not_not] at hl
    obtain ⟨s, hs1, hs2⟩ := hl
    rw [ask_old hs1 hs2]
    exact ⟨a, b, c⟩
theorem Pc.fine.start {h wt m nn : Nat} (h1 : 1 ≤ m ∧ m ≤ 5) (h2 : 1 ≤ nn ∧ nn ≤ 8) (h3 : 1 ≤ h ∧ h ≤ 1000) (h4 : 1 ≤ wt ∧ wt ≤ 1000) : (⟨h, wt, List.replicate m 0, List.replicate nn ⟨0, []⟩, false⟩ : Pc).fine 0 := by
  refine ⟨h3, h4, by simpa using h1, by simpa using h2, fun k hk => by rw [List.eq_of_mem_replicate hk]; exact Nat.le_refl _, fun x hx => ?_⟩
  rw [List.eq_of_mem_replicate hx]
  exact ⟨Nat.le_refl _, Nat.le_refl _, fun s hs => (by cases hs)⟩
end Go.Proofs.Ytlphlmpfjpombaa
