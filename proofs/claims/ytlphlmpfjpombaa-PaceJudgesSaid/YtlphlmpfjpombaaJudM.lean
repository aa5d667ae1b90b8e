/-
  The law PaceJudges: what the reference counts, span by span, and what the pace keeps.
-/
import Derived.Test.YtlphlmpfjpombaaPaceE
namespace Go.Proofs.Ytlphlmpfjpombaa

/-- A span of the reference: its node, the node's ticks since, the masters' ticks since, whether it goes on, whether a clock stayed behind. -/
structure Se where
  n : Nat
  t : Nat
  tk : List Nat
  op : Bool
  bad : Bool
abbrev Ac := Int × Int
def Ac.stops (n : Nat) (x : Ac) : Prop := x.1 = 4 ∧ x.2 = (n : Int) + 1
def Ac.ticks (n : Nat) (x : Ac) : Prop := x.1 = 2 ∧ x.2 = (n : Int) + 1
def Ac.rules (m : Nat) (x : Ac) : Prop := x.1 = 1 ∧ 1 ≤ x.2 ∧ x.2 ≤ (m : Int)
def Ac.asks (nn : Nat) (x : Ac) : Prop := x.1 = 3 ∧ 1 ≤ x.2 ∧ x.2 ≤ (nn : Int)
instance (n : Nat) (x : Ac) : Decidable (Ac.stops n x) := by unfold Ac.stops; infer_instance
instance (n : Nat) (x : Ac) : Decidable (Ac.ticks n x) := by unfold Ac.ticks; infer_instance
instance (n : Nat) (x : Ac) : Decidable (Ac.rules n x) := by unfold Ac.rules; infer_instance
instance (n : Nat) (x : Ac) : Decidable (Ac.asks n x) := by unfold Ac.asks; infer_instance
def Ac.at0 (x : Ac) : Nat := (x.2 - 1).toNat
def Se.step (h wt m : Nat) (x : Ac) (e : Se) : Se :=
  if e.op = false then e
  else if Ac.stops e.n x then { e with op := false }
  else if Ac.ticks e.n x then { e with t := e.t + 1, op := decide (e.t + 1 < h) }
  else if Ac.rules m x then { e with tk := e.tk.set (Ac.at0 x) (e.tk.getD (Ac.at0 x) 0 + 1), bad := e.bad || decide (wt ≤ e.tk.getD (Ac.at0 x) 0 + 1) }
  else e
/-- A span goes through the acts: does no clock stay behind? -/
def runs (h wt m n : Nat) : Nat → List Nat → List Ac → Bool
  | _, _, [] => true
  | t, tk, x :: r =>
    if t < h then
      if Ac.stops n x then true
      else if Ac.ticks n x then runs h wt m n (t + 1) tk r
      else if Ac.rules m x then if wt ≤ tk.getD (Ac.at0 x) 0 + 1 then false else runs h wt m n t (tk.set (Ac.at0 x) (tk.getD (Ac.at0 x) 0 + 1)) r
      else runs h wt m n t tk r
    else true
/-- All spans. -/
def fairs (h wt m nn : Nat) : List Ac → Bool
  | [] => true
  | x :: r => (if Ac.asks nn x then runs h wt m (Ac.at0 x) 0 (List.replicate m 0) r else true) && fairs h wt m nn r
theorem fairs_cons (h wt m nn : Nat) (x : Ac) (r : List Ac) : fairs h wt m nn (x :: r) = ((if Ac.asks nn x then runs h wt m (Ac.at0 x) 0 (List.replicate m 0) r else true) && fairs h wt m nn r) := rfl
def spans1 (h wt m nn : Nat) (S : List Se) (x : Ac) : List Se := S.map (Se.step h wt m x) ++ if Ac.asks nn x then [⟨Ac.at0 x, 0, List.replicate m 0, true, false⟩] else []
theorem step_closed {h wt m : Nat} {e : Se} (he : e.op = false) : ∀ l : List Ac, l.foldl (fun a x => Se.step h wt m x a) e = e
  | [] => rfl
  | x :: r => by
    have : Se.step h wt m x e = e := by unfold Se.step; rw [if_pos he]
    simp only [List.foldl_cons, this]
    exact step_closed he r
theorem step_bad {h wt m : Nat} : ∀ (l : List Ac) (e : Se), e.bad = true → (l.foldl (fun a x => Se.step h wt m x a) e).bad = true
  | [], _, he => he
  | x :: r, e, he => by
    simp only [List.foldl_cons]
    refine step_bad r _ ?_
    unfold Se.step
    split
    · exact he
    · split
      · exact he
      · split
        · exact he
        · split
          · simp [he]
          · exact he
theorem step_runs {h wt m : Nat} : ∀ (l : List Ac) (e : Se), e.op = true → e.bad = false → e.t < h → (l.foldl (fun a x => Se.step h wt m x a) e).bad = !runs h wt m e.n e.t e.tk l
  | [], e, _, hb, _ => by simp [runs, hb]
  | x :: r, e, ho, hb, ht => by
    simp only [List.foldl_cons]
    unfold runs
    rw [if_pos ht]
    have hn : ¬ e.op = false := by rw [ho]; decide
    by_cases h1 : Ac.stops e.n x
    · rw [if_pos h1]
      have : Se.step h wt m x e = { e with op := false } := by unfold Se.step; rw [if_neg hn, if_pos h1]
      rw [this, step_closed rfl]
      simp [hb]
    · rw [if_neg h1]
      by_cases h2 : Ac.ticks e.n x
      · rw [if_pos h2]
        have : Se.step h wt m x e = { e with t := e.t + 1, op := decide (e.t + 1 < h) } := by unfold Se.step; rw [if_neg hn, if_neg h1, if_pos h2]
        rw [this]
        by_cases h4 : e.t + 1 < h
        · exact step_runs r _ (by simpa using h4) hb h4
        · rw [step_closed (by simpa using h4)]
          simp only [hb]
          cases r with
          | nil => rfl
          | cons y r => unfold runs; rw [if_neg h4]; rfl
      · rw [if_neg h2]
        by_cases h3 : Ac.rules m x
        · rw [if_pos h3]
          have : Se.step h wt m x e = { e with tk := e.tk.set (Ac.at0 x) (e.tk.getD (Ac.at0 x) 0 + 1), bad := e.bad || decide (wt ≤ e.tk.getD (Ac.at0 x) 0 + 1) } := by unfold Se.step; rw [if_neg hn, if_neg h1, if_neg h2, if_pos h3]
          rw [this]
          by_cases h4 : wt ≤ e.tk.getD (Ac.at0 x) 0 + 1
          · rw [if_pos h4, step_bad r _ (by simp only [Bool.or_eq_true, decide_eq_true_eq]; exact .inr h4)]
            rfl
          · rw [if_neg h4]
            exact step_runs r _ ho (by simp only [hb, Bool.false_or, decide_eq_false_iff_not]; exact h4) ht
        · rw [if_neg h3]
          have : Se.step h wt m x e = e := by unfold Se.step; rw [if_neg hn, if_neg h1, if_neg h2, if_neg h3]
          rw [this]
          exact step_runs r e ho hb ht
theorem spans_fairs {h wt m nn : Nat} (hh : 1 ≤ h) : ∀ (l : List Ac) (S : List Se), (l.foldl (spans1 h wt m nn) S).any (·.bad) = (S.any (fun e => (l.foldl (fun a x => Se.step h wt m x a) e).bad) || !fairs h wt m nn l)
  | [], S => by simp [fairs]
  | x :: r, S => by
    simp only [List.foldl_cons]
    rw [spans_fairs hh r]
    rw [fairs_cons]
    unfold spans1
    rw [List.any_append, List.any_map]
    by_cases ha : Ac.asks nn x
    · rw [if_pos ha, if_pos ha]
      simp only [List.any_cons, List.any_nil, Bool.or_false]
      rw [step_runs r _ rfl rfl (by simp only; omega)]
      simp only [Function.comp_def, Bool.not_and, Bool.or_assoc]
    · rw [if_neg ha, if_neg ha]
      simp [Function.comp_def]
def spansOf (h wt m nn : Nat) (l : List Ac) : List Se := l.foldl (spans1 h wt m nn) []
theorem spansOf_fairs {h wt m nn : Nat} (hh : 1 ≤ h) (l : List Ac) : (spansOf h wt m nn l).any (·.bad) = !fairs h wt m nn l := by
  unfold spansOf
  rw [spans_fairs hh]
  simp
theorem spansOf_snoc {h wt m nn : Nat} (l : List Ac) (x : Ac) : spansOf h wt m nn (l ++ [x]) = spans1 h wt m nn (spansOf h wt m nn l) x := by
  unfold spansOf
  rw [List.foldl_append]
  rfl
/-- What the pace keeps of the spans. -/
structure Jv (h wt m nn : Nat) (p : Pc) (S : List Se) : Prop where
  hold : p.hold = h
  wait : p.wait = wt
  ms : p.ms.length = m
  ns : p.ns.length = nn
  each : ∀ e ∈ S, e.tk.length = m ∧ e.n < nn ∧ (e.op = true → e.t < h)
  bad : p.bad = S.any (·.bad)
  fwd : ∀ e ∈ S, e.op = true → ∀ q : Nd, p.ns[e.n]? = some q → ∃ s ∈ q.sp, q.t = s.s + e.t ∧ ∀ j, j < m → s.ms.getD j 0 + e.tk.getD j 0 ≤ p.ms.getD j 0
  bwd : ∀ (i : Nat) (q : Nd), p.ns[i]? = some q → ∀ s ∈ q.sp, ∃ e ∈ S, e.op = true ∧ e.n = i ∧ q.t = s.s + e.t ∧ ∀ j, j < m → s.ms.getD j 0 + e.tk.getD j 0 = p.ms.getD j 0
  pw : ∀ (i : Nat) (q : Nd), p.ns[i]? = some q → q.sp.Pairwise fun a b => ∀ j, j < m → a.ms.getD j 0 ≤ b.ms.getD j 0
theorem getD_set (l : List Nat) (i j v : Nat) (hi : i < l.length) : (l.set i v).getD j 0 = if i = j then v else l.getD j 0 := by
  simp only [List.getD_eq_getElem?_getD, List.getElem?_set]
  by_cases h : i = j
  · subst h
    rw [if_pos rfl, if_pos rfl, if_pos hi]
    rfl
  · rw [if_neg h, if_neg h]
theorem step_same {h wt m : Nat} {x : Ac} {e : Se} (h1 : ¬ Ac.stops e.n x) (h2 : ¬ Ac.ticks e.n x) (h3 : ¬ Ac.rules m x) : Se.step h wt m x e = e := by
  unfold Se.step
  by_cases ho : e.op = false
  · rw [if_pos ho]
  · rw [if_neg ho, if_neg h1, if_neg h2, if_neg h3]
theorem map_same {h wt m : Nat} {x : Ac} {S : List Se} (hs : ∀ e ∈ S, ¬ Ac.stops e.n x ∧ ¬ Ac.ticks e.n x) (h3 : ¬ Ac.rules m x) : S.map (Se.step h wt m x) = S := by
  have : ∀ e ∈ S, Se.step h wt m x e = id e := fun e he => step_same (hs e he).1 (hs e he).2 h3
  rw [List.map_congr_left this, List.map_id]
/-- An act of no one. -/
theorem Jv.none {h wt m nn : Nat} {p : Pc} {S : List Se} {x : Ac} (hp : Jv h wt m nn p S) (h1 : ¬ Ac.rules m x) (h2 : ¬ (1 ≤ x.2 ∧ x.2 ≤ (nn : Int)) ∨ x.1 = 1) : Jv h wt m nn p (spans1 h wt m nn S x) := by
  have ha : ¬ Ac.asks nn x := by
    rintro ⟨a, b, c⟩
    rcases h2 with h2 | h2
    · exact h2 ⟨b, c⟩
    · omega
  have hs : ∀ e ∈ S, ¬ Ac.stops e.n x ∧ ¬ Ac.ticks e.n x := fun e he => by
    have := (hp.each e he).2.1
    constructor
    · rintro ⟨a, b⟩
      rcases h2 with h2 | h2 <;> omega
    · rintro ⟨a, b⟩
      rcases h2 with h2 | h2 <;> omega
  unfold spans1
  rw [map_same hs h1, if_neg ha, List.append_nil]
  exact hp
/-- A master ticks. -/
theorem Jv.master {h wt m nn : Nat} {p : Pc} {S : List Se} {x : Ac} (hp : Jv h wt m nn p S) (hx : Ac.rules m x) : Jv h wt m nn (p.master (Ac.at0 x)) (spans1 h wt m nn S x) := by
  have ha : ¬ Ac.asks nn x := by rintro ⟨a, _⟩; have := hx.1; omega
  have hi : Ac.at0 x < m := by have h1 := hx.2.1; have h2 := hx.2.2; unfold Ac.at0; omega
  have hst : ∀ e : Se, Se.step h wt m x e = if e.op = false then e else { e with tk := e.tk.set (Ac.at0 x) (e.tk.getD (Ac.at0 x) 0 + 1), bad := e.bad || decide (wt ≤ e.tk.getD (Ac.at0 x) 0 + 1) } := fun e => by
    unfold Se.step
    by_cases ho : e.op = false
    · rw [if_pos ho, if_pos ho]
    · rw [if_neg ho, if_neg ho, if_neg (by rintro ⟨a, _⟩; have := hx.1; omega), if_neg (by rintro ⟨a, _⟩; have := hx.1; omega), if_pos hx]
  have hop : ∀ e : Se, e.op = true → Se.step h wt m x e = { e with tk := e.tk.set (Ac.at0 x) (e.tk.getD (Ac.at0 x) 0 + 1), bad := e.bad || decide (wt ≤ e.tk.getD (Ac.at0 x) 0 + 1) } := fun e he => by
    rw [hst, if_neg (by rw [he]; decide)]
  generalize hii : Ac.at0 x = i at *
  unfold spans1
  rw [if_neg ha, List.append_nil]
  refine ⟨hp.hold, hp.wait, by simp [Pc.master, hp.ms], hp.ns, fun e he => ?_, ?_, fun e he ho q hq => ?_, fun i' q hq s hs => ?_, hp.pw⟩
  · obtain ⟨e0, he0, rfl⟩ := List.mem_map.1 he
    rw [hst]
    have := hp.each e0 he0
    split
    · exact this
    · exact ⟨by simp [this.1], this.2⟩
  · -- the verdict
    rw [List.any_map]
    simp only [Pc.master, hp.bad, hp.wait]
    rw [Bool.eq_iff_iff]
    simp only [Bool.or_eq_true, List.any_eq_true, Function.comp_def]
    constructor
    · rintro (⟨e, he, hb⟩ | ⟨q, hq, hl⟩)
      · refine ⟨e, he, ?_⟩
        rw [hst]
        split
        · exact hb
        · simp [hb]
      · obtain ⟨k, hk, hqk⟩ := List.getElem_of_mem hq
        have hq? : p.ns[k]? = some q := by rw [List.getElem?_eq_getElem hk, hqk]
        unfold Nd.late at hl
        cases hsp : q.sp with
        | nil => rw [hsp] at hl; cases hl
        | cons s0 r =>
          rw [hsp] at hl
          obtain ⟨e, he, ho, hen, ht, hj⟩ := hp.bwd k q hq? s0 (by rw [hsp]; simp)
          refine ⟨e, he, ?_⟩
          rw [hop e ho]
          have := hj i hi
          simp only [decide_eq_true_eq] at hl
          simp only [Bool.or_eq_true, decide_eq_true_eq]
          exact .inr (by omega)
    · rintro ⟨e, he, hb⟩
      rw [hst] at hb
      split at hb
      · exact .inl ⟨e, he, hb⟩
      · rename_i hno
        have ho : e.op = true := by cases h : e.op; exact absurd h hno; rfl
        simp only [Bool.or_eq_true, decide_eq_true_eq] at hb
        rcases hb with hb | hb
        · exact .inl ⟨e, he, hb⟩
        · right
          have hn := (hp.each e he).2.1
          have hn' : e.n < p.ns.length := by rw [hp.ns]; exact hn
          obtain ⟨s, hs, ht, hj⟩ := hp.fwd e he ho _ (List.getElem?_eq_getElem hn')
          refine ⟨_, List.getElem_mem hn', ?_⟩
          have hpw := hp.pw e.n _ (List.getElem?_eq_getElem hn')
          unfold Nd.late
          cases hsp : p.ns[e.n].sp with
          | nil => rw [hsp] at hs; cases hs
          | cons s0 r =>
            rw [hsp] at hs hpw
            have h0 : s0.ms.getD i 0 ≤ s.ms.getD i 0 := by
              rcases List.mem_cons.1 hs with rfl | h
              · exact Nat.le_refl _
              · exact (List.pairwise_cons.1 hpw).1 s h i hi
            have := hj i hi
            simp only [decide_eq_true_eq]
            omega
  · obtain ⟨e0, he0, rfl⟩ := List.mem_map.1 he
    have ho0 : e0.op = true := by
      rw [hst] at ho
      split at ho
      · exact ho
      · exact ho
    rw [hop e0 ho0] at hq ⊢
    obtain ⟨s, hs, ht, hj⟩ := hp.fwd e0 he0 ho0 q hq
    refine ⟨s, hs, ht, fun j hjm => ?_⟩
    have := hj j hjm
    simp only [Pc.master]
    rw [getD_set _ _ _ _ (by rw [(hp.each e0 he0).1]; exact hi), getD_set _ _ _ _ (by rw [hp.ms]; exact hi)]
    split
    · rename_i hij
      subst hij
      omega
    · exact this
  · obtain ⟨e, he, ho, hen, ht, hj⟩ := hp.bwd i' q hq s hs
    refine ⟨_, List.mem_map_of_mem he, ?_⟩
    rw [hop e ho]
    refine ⟨ho, hen, ht, fun j hjm => ?_⟩
    have := hj j hjm
    simp only [Pc.master]
    rw [getD_set _ _ _ _ (by rw [(hp.each e he).1]; exact hi), getD_set _ _ _ _ (by rw [hp.ms]; exact hi)]
    split
    · rename_i hij
      subst hij
      omega
    · exact this
end Go.Proofs.Ytlphlmpfjpombaa
