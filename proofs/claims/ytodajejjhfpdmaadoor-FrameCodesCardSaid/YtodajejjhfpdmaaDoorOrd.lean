/-
  A region that draws its order: a load may be taken first though its cell is written in the region, if whoever writes it waits for the load.
-/
import Derived.Test.YtodajejjhfpdmaaDoorProg
import Derived.WalkKit
import Derived.Deep.RegionHeldLaw
namespace Go.Proofs.YtodajejjhfpdmaaDoor
open Go.RowKit Go.Instr

section
variable {P : Program} {ops : Array Oper} {Q : Exit → Act → World → Prop} {md : Region.Mode} {S : World → Prop} {xs : List Nat}

/-- Does number j wait for number i, by whatever way? -/
def waitsFor (md : Region.Mode) (ops : Array Oper) (i : Nat) : Nat → Nat → Bool
  | 0, _ => false
  | n + 1, j => match ops[j]? with
    | none => false
    | some o => o.after.any fun e => Region.binds md e && (e.on == i || waitsFor md ops i n e.on)
/-- What has come up has all that it waits for behind it. -/
def SoFar (md : Region.Mode) (ops : Array Oper) (listed : Array Bool) : Prop :=
  ∀ j o, ops[j]? = some o → listed.getD j false = true → ∀ e ∈ o.after, Region.binds md e = true → listed.getD e.on false = true
theorem waits_listed {listed : Array Bool} (hc : SoFar md ops listed) (i : Nat) : ∀ (n j : Nat), (∀ o, ops[j]? = some o → ∀ e ∈ o.after, Region.binds md e = true → listed.getD e.on false = true) → waitsFor md ops i n j = true → listed.getD i false = true := by
  intro n
  induction n with
  | zero => intro j _ h; cases h
  | succ n ih =>
    intro j hj h
    unfold waitsFor at h
    cases ho : ops[j]? with
    | none => simp [ho] at h
    | some o =>
      simp only [ho] at h
      obtain ⟨e, he, hb⟩ := Array.any_eq_true'.1 h
      simp only [Bool.and_eq_true, Bool.or_eq_true, beq_iff_eq] at hb
      have hl := hj o ho e he hb.1
      rcases hb.2 with h2 | h2
      · rw [← h2]; exact hl
      · exact ih e.on (fun o' ho' => hc e.on o' ho' hl) h2
theorem SoFar.start (n : Nat) : SoFar md ops (Array.replicate n false) := by
  intro j o _ h
  rw [Array.getD_eq_getD_getElem?] at h
  by_cases hj : j < n
  · simp [hj] at h
  · simp [hj] at h
theorem SoFar.step {listed : Array Bool} (hc : SoFar md ops listed) {j : Nat} (hj : j ∈ Region.ready md ops listed) : SoFar md ops (listed.setIfInBounds j true) := by
  obtain ⟨_, oj, hoj, hall⟩ := mem_ready.1 hj
  intro k o hk hl e he hb
  by_cases hkj : j = k
  · subst hkj
    rw [hoj] at hk
    cases hk
    exact getD_set_true (hall e he hb)
  · rw [getD_set_ne false hkj] at hl
    exact getD_set_true (hc k o hk hl e he hb)
theorem listed_not {listed : Array Bool} {i : Nat} (h0 : listed.getD i true = false) : listed.getD i false = false := by
  rw [Array.getD_eq_getD_getElem?] at h0 ⊢
  cases h : listed[i]? with
  | none => simp [h] at h0
  | some b => simp [h] at h0 ⊢; exact h0
/-- None of xs has come up. -/
def noneOf (xs : List Nat) (listed : Array Bool) : Bool := xs.all fun x => !listed.getD x false
/-- Whatever order is picked; S holds behind each operation till the first of xs. -/
def wpAnyS (P : Program) (md : Region.Mode) (ops : Array Oper) (Q : Exit → Act → World → Prop) (S : World → Prop) (xs : List Nat) : Nat → Array Bool → Act → World → Prop
  | 0, listed, a, w => Region.ready md ops listed = [] ∧ Q .normal a w
  | n + 1, listed, a, w => (Region.ready md ops listed = [] → Q .normal a w) ∧
    ∀ i ∈ Region.ready md ops listed, wpOp P ops Q i (fun a' w' => (noneOf xs (listed.setIfInBounds i true) = true → S w') ∧ wpAnyS P md ops Q S xs n (listed.setIfInBounds i true) a' w') a w
theorem wpAnyS.any : ∀ (n : Nat) (listed : Array Bool) (a : Act) (w : World), wpAnyS P md ops Q S xs n listed a w → wpAny P md ops Q n listed a w
  | 0, _, _, _, h => h
  | n + 1, _, _, _, h => ⟨h.1, fun i hi => wpOp_mono (fun a' w' h' => wpAnyS.any n _ a' w' h'.2) (h.2 i hi)⟩
theorem noneOf_less {listed : Array Bool} {i : Nat} (h : noneOf xs (listed.setIfInBounds i true) = true) : noneOf xs listed = true := by
  unfold noneOf at *
  rw [List.all_eq_true] at *
  intro x hx
  have h1 := h x hx
  cases hl : listed.getD x false with
  | false => rfl
  | true => rw [getD_set_true hl] at h1; cases h1
theorem noneOf_wait {listed : Array Bool} (hc : SoFar md ops listed) {i : Nat} (h0 : listed.getD i false = false) (hX : xs.all (fun j => waitsFor md ops i ops.size j) = true) : noneOf xs listed = true := by
  unfold noneOf
  rw [List.all_eq_true] at *
  intro x hx
  cases hl : listed.getD x false with
  | false => rfl
  | true =>
    have h1 := waits_listed hc i ops.size x (fun o ho => hc x o ho hl) (hX x hx)
    rw [h0] at h1
    cases h1
theorem noneOf_swap {listed : Array Bool} {i j : Nat} (hji : j ≠ i) (hni : i ∉ xs) (h : noneOf xs (listed.setIfInBounds j true) = true) : noneOf xs ((listed.setIfInBounds i true).setIfInBounds j true) = true := by
  rw [← Array.setIfInBounds_comm _ _ hji]
  unfold noneOf at *
  rw [List.all_eq_true] at *
  intro x hx
  have hne : i ≠ x := fun e => hni (by rw [e]; exact hx)
  rw [getD_set_ne false hne]
  exact h x hx
/-- A load that all of xs wait for. -/
theorem wpAnyS.first {i : Nat} {oi : Oper} {v : Value} (hi : ops[i]? = some oi) (hsel : Region.noSelect ops = true) (hQ : ∀ c a w, Q (.panic c) (a.put oi.dst v) w → Q (.panic c) a w)
    (hX : xs.all (fun j => waitsFor md ops i ops.size j) = true) (hni : i ∉ xs) :
    ∀ (n : Nat) (listed : Array Bool) (a : Act) (w : World), SoFar md ops listed →
      (∀ j oj, ops[j]? = some oj → j ≠ i → listed.getD j true = false → (∀ e ∈ oj.after, Region.binds md e = true → e.on ≠ i) → oi.apart ops oj = true) →
      i ∈ Region.ready md ops listed → YieldsIf P ops S oi v a → (noneOf xs listed = true → S w) →
      wpAnyS P md ops Q S xs n (listed.setIfInBounds i true) (a.put oi.dst v) w → wpAnyS P md ops Q S xs (n + 1) listed a w := by
  intro n
  induction n with
  | zero =>
    intro listed a w hc _ hr hy hS H
    have hSw := hS (noneOf_wait hc (listed_not (mem_ready.1 hr).1) hX)
    refine ⟨fun h => (by rw [h] at hr; cases hr), fun j hj => ?_⟩
    by_cases hji : j = i
    · subst hji
      exact hy.wpOp hi hSw ⟨fun _ => hSw, H⟩
    · have h1 := ready_mono hj hji
      rw [H.1] at h1
      cases h1
  | succ n ih =>
    intro listed a w hc hfree hr hy hS H
    have h0 := listed_not (mem_ready.1 hr).1
    have hSw := hS (noneOf_wait hc h0 hX)
    refine ⟨fun h => (by rw [h] at hr; cases hr), fun j hj => ?_⟩
    by_cases hji : j = i
    · subst hji
      exact hy.wpOp hi hSw ⟨fun _ => hSw, H⟩
    · obtain ⟨hjun, oj, hoj, hall⟩ := mem_ready.1 hj
      have hnot : ∀ e ∈ oj.after, Region.binds md e = true → e.on ≠ i := fun e he hb heq => by
        have h1 := hall e he hb
        rw [heq, h0] at h1
        cases h1
      have h2 := wpOp_putIf hoj (hfree j oj hoj hji hjun hnot) (fun cs b => Region.noSelect_spec hsel i oi cs b hi) (fun cs b => Region.noSelect_spec hsel j oj cs b hoj) hQ hy (H.2 j (ready_mono hj hji))
      have hfree' : ∀ k ok, ops[k]? = some ok → k ≠ i → (listed.setIfInBounds j true).getD k true = false → (∀ e ∈ ok.after, Region.binds md e = true → e.on ≠ i) → oi.apart ops ok = true := fun k ok hk hki hun hno => by
        refine hfree k ok hk hki ?_ hno
        by_cases hjk : j = k
        · subst hjk; exact hjun
        · rw [getD_set_ne true hjk] at hun; exact hun
      have hnow : ∀ w', (noneOf xs ((listed.setIfInBounds i true).setIfInBounds j true) = true → S w') → noneOf xs (listed.setIfInBounds j true) = true → S w' := fun w' h hn => h (noneOf_swap hji hni hn)
      refine wpOp_mono (fun a' w' h3 => ⟨hnow w' h3.2.1, ih (listed.setIfInBounds j true) a' w' (hc.step hj) hfree' (ready_mono hr (Ne.symm hji)) h3.1 (hnow w' h3.2.1) ?_⟩) h2
      rw [Array.setIfInBounds_comm _ _ hji]
      exact h3.2.2
/-- One that yields in whatever world. -/
theorem wpAnyS.first0 {i : Nat} {oi : Oper} {v : Value} (hi : ops[i]? = some oi) (hsel : Region.noSelect ops = true) (hQ : ∀ c a w, Q (.panic c) (a.put oi.dst v) w → Q (.panic c) a w)
    (hni : i ∉ xs) :
    ∀ (n : Nat) (listed : Array Bool) (a : Act) (w : World), SoFar md ops listed →
      (∀ j oj, ops[j]? = some oj → j ≠ i → listed.getD j true = false → (∀ e ∈ oj.after, Region.binds md e = true → e.on ≠ i) → oi.apart ops oj = true) →
      i ∈ Region.ready md ops listed → Yields P ops oi v a → (noneOf xs listed = true → S w) →
      wpAnyS P md ops Q S xs n (listed.setIfInBounds i true) (a.put oi.dst v) w → wpAnyS P md ops Q S xs (n + 1) listed a w := by
  intro n
  induction n with
  | zero =>
    intro listed a w hc _ hr hy hS H
    refine ⟨fun h => (by rw [h] at hr; cases hr), fun j hj => ?_⟩
    by_cases hji : j = i
    · subst hji
      exact hy.wpOp hi ⟨fun h => hS (noneOf_less h), H⟩
    · have h1 := ready_mono hj hji
      rw [H.1] at h1
      cases h1
  | succ n ih =>
    intro listed a w hc hfree hr hy hS H
    have h0 := listed_not (mem_ready.1 hr).1
    refine ⟨fun h => (by rw [h] at hr; cases hr), fun j hj => ?_⟩
    by_cases hji : j = i
    · subst hji
      exact hy.wpOp hi ⟨fun h => hS (noneOf_less h), H⟩
    · obtain ⟨hjun, oj, hoj, hall⟩ := mem_ready.1 hj
      have hnot : ∀ e ∈ oj.after, Region.binds md e = true → e.on ≠ i := fun e he hb heq => by
        have h1 := hall e he hb
        rw [heq, h0] at h1
        cases h1
      have h2 := wpOp_put hoj (hfree j oj hoj hji hjun hnot) (fun cs b => Region.noSelect_spec hsel i oi cs b hi) (fun cs b => Region.noSelect_spec hsel j oj cs b hoj) hQ hy (H.2 j (ready_mono hj hji))
      have hfree' : ∀ k ok, ops[k]? = some ok → k ≠ i → (listed.setIfInBounds j true).getD k true = false → (∀ e ∈ ok.after, Region.binds md e = true → e.on ≠ i) → oi.apart ops ok = true := fun k ok hk hki hun hno => by
        refine hfree k ok hk hki ?_ hno
        by_cases hjk : j = k
        · subst hjk; exact hjun
        · rw [getD_set_ne true hjk] at hun; exact hun
      have hnow : ∀ w', (noneOf xs ((listed.setIfInBounds i true).setIfInBounds j true) = true → S w') → noneOf xs (listed.setIfInBounds j true) = true → S w' := fun w' h hn => h (noneOf_swap hji hni hn)
      refine wpOp_mono (fun a' w' h3 => ⟨hnow w' h3.2.1, ih (listed.setIfInBounds j true) a' w' (hc.step hj) hfree' (ready_mono hr (Ne.symm hji)) h3.1 (hnow w' h3.2.1) ?_⟩) h2
      rw [Array.setIfInBounds_comm _ _ hji]
      exact h3.2.2
/-- The state of the walk. -/
def WalkS (P : Program) (md : Region.Mode) (ops : Array Oper) (Q : Exit → Act → World → Prop) (S : World → Prop) (xs : List Nat) (n : Nat) (listed : Array Bool) (a : Act) (w : World) : Prop :=
  SoFar md ops listed → (noneOf xs listed = true → S w) → wpAnyS P md ops Q S xs n listed a w
/-- A load that all of xs wait for is taken first. -/
theorem WalkS.take (i : Nat) (oi : Oper) {v : Value} {n : Nat} {listed : Array Bool} {a : Act} {w : World} (hi0 : ops.toList[i]? = some oi) (hsel : Region.noSelect ops = true)
    (hf : Region.free md ops listed i = true) (hr : (Region.ready md ops listed).contains i = true) (hX : xs.all (fun j => waitsFor md ops i ops.size j) = true) (hni : xs.contains i = false)
    (hQ : ∀ c a w, Q (.panic c) (a.put oi.dst v) w → Q (.panic c) a w) (hy : YieldsIf P ops S oi v a)
    (h : WalkS P md ops Q S xs n (listed.setIfInBounds i true) (a.put oi.dst v) w) : WalkS P md ops Q S xs (n + 1) listed a w := fun hc hS => by
  have hr' : i ∈ Region.ready md ops listed := by simpa using hr
  have hi : ops[i]? = some oi := by rw [← Array.getElem?_toList]; exact hi0
  exact wpAnyS.first hi hsel hQ hX (by simpa using hni) n listed a w hc (Region.free_spec hi hf) hr' hy hS (h (hc.step hr') (fun h => hS (noneOf_less h)))
/-- One that yields in whatever world is taken first. -/
theorem WalkS.take0 (i : Nat) (oi : Oper) {v : Value} {n : Nat} {listed : Array Bool} {a : Act} {w : World} (hi0 : ops.toList[i]? = some oi) (hsel : Region.noSelect ops = true)
    (hf : Region.free md ops listed i = true) (hr : (Region.ready md ops listed).contains i = true) (hni : xs.contains i = false)
    (hQ : ∀ c a w, Q (.panic c) (a.put oi.dst v) w → Q (.panic c) a w) (hy : Yields P ops oi v a)
    (h : WalkS P md ops Q S xs n (listed.setIfInBounds i true) (a.put oi.dst v) w) : WalkS P md ops Q S xs (n + 1) listed a w := fun hc hS => by
  have hr' : i ∈ Region.ready md ops listed := by simpa using hr
  have hi : ops[i]? = some oi := by rw [← Array.getElem?_toList]; exact hi0
  exact wpAnyS.first0 hi hsel hQ (by simpa using hni) n listed a w hc (Region.free_spec hi hf) hr' hy hS (h (hc.step hr') (fun h => hS (noneOf_less h)))
/-- Each of rs comes up next. -/
def EachS (P : Program) (md : Region.Mode) (ops : Array Oper) (Q : Exit → Act → World → Prop) (S : World → Prop) (xs : List Nat) (n : Nat) (listed : Array Bool) (a : Act) (w : World) (rs : List Nat) : Prop :=
  ∀ i ∈ rs, i ∈ Region.ready md ops listed → SoFar md ops listed → wpOp P ops Q i (fun a' w' => (noneOf xs (listed.setIfInBounds i true) = true → S w') ∧ wpAnyS P md ops Q S xs n (listed.setIfInBounds i true) a' w') a w
theorem WalkS.each {n : Nat} {listed : Array Bool} {a : Act} {w : World} (rs : List Nat) (hr : Region.ready md ops listed = rs) (hne : rs.isEmpty = false) (h : EachS P md ops Q S xs n listed a w rs) : WalkS P md ops Q S xs (n + 1) listed a w := fun hc _ => by
  refine ⟨fun h0 => ?_, fun i hi => ?_⟩
  · rw [hr] at h0
    subst h0
    cases hne
  · exact h i (hr ▸ hi) hi hc
theorem EachS.nil {n : Nat} {listed : Array Bool} {a : Act} {w : World} : EachS P md ops Q S xs n listed a w [] := fun _ h => by cases h
theorem EachS.cons (i : Nat) (o : Oper) {n : Nat} {listed : Array Bool} {a : Act} {w : World} {rs : List Nat} (ho0 : ops.toList[i]? = some o)
    (h : ∀ K : Act → World → Prop, Shut (∀ a w, (noneOf xs (listed.setIfInBounds i true) = true → S w) → WalkS P md ops Q S xs n (listed.setIfInBounds i true) a w → K a w) → if Region.wanted o (yielded ops a.tmps) = true then Oper.wp P o a w K Q else K (a.put o.dst undef) w)
    (hs : EachS P md ops Q S xs n listed a w rs) : EachS P md ops Q S xs n listed a w (i :: rs) := fun j hj hr hc => by
  have ho : ops[i]? = some o := by rw [← Array.getElem?_toList]; exact ho0
  rcases List.mem_cons.1 hj with rfl | hj
  · exact wpOp_step ho (fun K hK => h K (fun a w hS hW => hK a w ⟨hS, hW (hc.step hr) hS⟩))
  · exact hs j hj hr hc
theorem WalkS.done {n : Nat} {listed : Array Bool} {a : Act} {w : World} (hr : Region.ready md ops listed = []) (h : Q .normal a w) : WalkS P md ops Q S xs n listed a w := fun _ _ => by
  cases n with
  | zero => exact ⟨hr, h⟩
  | succ n => exact ⟨fun _ => h, by rw [hr]; simp⟩
theorem WalkS.begin {id : Nat} {a : Act} {w : World} (S : World → Prop) (xs : List Nat) (hm : P.follows .mixedOrders = true) (hS : S w.drew)
    (h : WalkS P .any ops Q S xs ops.size (Array.replicate ops.size false) a w.drew) : (Code.region id ops true).wp P Q a w :=
  wp_region_any hm ((h (SoFar.start _) (fun _ => hS)).any)
end
end Go.Proofs.YtodajejjhfpdmaaDoor
