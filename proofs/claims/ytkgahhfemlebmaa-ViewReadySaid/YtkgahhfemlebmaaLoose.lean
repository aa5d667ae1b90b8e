/-
  A region that draws its order and calls functions whose results are known by a predicate alone (a slice that lies somewhere): one walk of the order of the text serves every order. It holds over every program.
-/
import Derived.WalkKit
import Derived.Deep.QuietTactic
import Derived.BigQuiet
import Derived.Orders
import Derived.Still
namespace Go.Proofs.Ytkgahhfemlebmaa
open Go.RowKit Go.Instr

section
variable {P : Program} {ops : Array Oper} {md : Region.Mode} {C : World → Prop} {V : FuncId → Array Value → Value → Prop}
/-- What is asked once an operation has yielded this: a value, or nothing, in the world that it got; or a call that hands back some value that fits the table, and leaves a world of the class. -/
def lUpon (P : Program) (C : World → Prop) (V : FuncId → Array Value → Value → Prop) (w : World) (next : Value → Prop) (r : Result Next) : Prop :=
  (∃ u, r = .ok (.value u) w ∧ next u) ∨ (r = .ok .skip w ∧ next undef) ∨
  ∃ f args, r = .ok (.enter f args) w ∧ Calls P f args w (fun e w'' => ∃ v, e = .returned v ∧ C w'' ∧ V f args v) ∧ ∀ v, V f args v → next v
def lOper (P : Program) (C : World → Prop) (V : FuncId → Array Value → Value → Prop) (o : Oper) (a : Act) (K : Act → Prop) : Prop :=
  ∀ w, C w → lUpon P C V w (fun v => K (a.put o.dst v)) ((execOp a.eval o).run P w)
def lOp (P : Program) (ops : Array Oper) (C : World → Prop) (V : FuncId → Array Value → Value → Prop) (i : Nat) (K : Act → Prop) (a : Act) : Prop :=
  match ops[i]? with
  | none => K a
  | some o => if Region.wanted o (yielded ops a.tmps) then lOper P C V o a K else K (a.put o.dst undef)
def lAny (P : Program) (md : Region.Mode) (ops : Array Oper) (C : World → Prop) (V : FuncId → Array Value → Value → Prop) (Q : Act → Prop) : Nat → Array Bool → Act → Prop
  | 0, L, a => Region.ready md ops L = [] ∧ Q a
  | n + 1, L, a => (Region.ready md ops L = [] → Q a) ∧ ∀ i ∈ Region.ready md ops L, lOp P ops C V i (lAny P md ops C V Q n (L.setIfInBounds i true)) a
def lWalk (P : Program) (ops : Array Oper) (C : World → Prop) (V : FuncId → Array Value → Value → Prop) (Q : Act → Prop) : List Oper → Act → Prop
  | [], a => Q a
  | o :: r, a => if Region.wanted o (yielded ops a.tmps) then lOper P C V o a (lWalk P ops C V Q r) else lWalk P ops C V Q r (a.put o.dst undef)
theorem lUpon_mono {w : World} {n n' : Value → Prop} {r : Result Next} (h : ∀ v, n v → n' v) (hh : lUpon P C V w n r) : lUpon P C V w n' r := by
  rcases hh with ⟨u, e, hn⟩ | ⟨e, hn⟩ | ⟨f, args, e, hc, hn⟩
  · exact .inl ⟨u, e, h _ hn⟩
  · exact .inr (.inl ⟨e, h _ hn⟩)
  · exact .inr (.inr ⟨f, args, e, hc, fun v hv => h _ (hn v hv)⟩)
/-- Some value comes of it. -/
theorem lUpon_some {w : World} {n : Value → Prop} {r : Result Next} (hh : lUpon P C V w n r) : ∃ v, n v := by
  rcases hh with ⟨u, _, hn⟩ | ⟨_, hn⟩ | ⟨f, args, _, hc, hn⟩
  · exact ⟨u, hn⟩
  · exact ⟨_, hn⟩
  · obtain ⟨_, _, _, ⟨v, _, _, hv⟩, _⟩ := hc []
    exact ⟨v, hn v hv⟩
/-- What holds behind it for each of many reasons holds behind it for all of them at once. -/
theorem lUpon_all {α : Sort _} {S : α → Prop} {w : World} {n : α → Value → Prop} {r : Result Next} (h0 : ∃ x, S x) (hh : ∀ x, S x → lUpon P C V w (n x) r) : lUpon P C V w (fun v => ∀ x, S x → n x v) r := by
  obtain ⟨x0, h0⟩ := h0
  rcases hh x0 h0 with ⟨u, e, _⟩ | ⟨e, _⟩ | ⟨f, args, e, hc, _⟩
  · refine .inl ⟨u, e, fun x hx => ?_⟩
    rcases hh x hx with ⟨u', e', hn⟩ | ⟨e', hn⟩ | ⟨f, args, e', _, hn⟩
    · rw [e] at e'; cases e'; exact hn
    · rw [e] at e'; cases e'
    · rw [e] at e'; cases e'
  · refine .inr (.inl ⟨e, fun x hx => ?_⟩)
    rcases hh x hx with ⟨u', e', hn⟩ | ⟨e', hn⟩ | ⟨f, args, e', _, hn⟩
    · rw [e] at e'; cases e'
    · exact hn
    · rw [e] at e'; cases e'
  · refine .inr (.inr ⟨f, args, e, hc, fun v hv x hx => ?_⟩)
    rcases hh x hx with ⟨u', e', hn⟩ | ⟨e', hn⟩ | ⟨f', args', e', _, hn⟩
    · rw [e] at e'; cases e'
    · rw [e] at e'; cases e'
    · rw [e] at e'; cases e'; exact hn v hv
theorem lOper_mono {o : Oper} {a : Act} {K K' : Act → Prop} (h : ∀ a, K a → K' a) (hh : lOper P C V o a K) : lOper P C V o a K' := fun w hw => lUpon_mono (fun _ hv => h _ hv) (hh w hw)
theorem lOp_mono {i : Nat} {a : Act} {K K' : Act → Prop} (h : ∀ a, K a → K' a) (hh : lOp P ops C V i K a) : lOp P ops C V i K' a := by
  unfold lOp at *
  split
  · rename_i ho; simp only [ho] at hh; exact h _ hh
  · rename_i o ho
    simp only [ho] at hh
    split
    · rename_i hw; simp only [hw, if_true] at hh; exact lOper_mono h hh
    · rename_i hw; simp only [hw] at hh; exact h _ hh
theorem lOp_some {i : Nat} {a : Act} {K : Act → Prop} (hC : ∃ w, C w) (hh : lOp P ops C V i K a) : ∃ a', K a' := by
  obtain ⟨w, hw⟩ := hC
  unfold lOp at hh
  split at hh
  · exact ⟨_, hh⟩
  · split at hh
    · obtain ⟨v, hv⟩ := lUpon_some (hh w hw); exact ⟨_, hv⟩
    · exact ⟨_, hh⟩
/-- Two operations that are apart: what comes of them in one order comes of them in the other. -/
theorem lOp_swap {i j : Nat} {oi oj : Oper} (hi : ops[i]? = some oi) (hj : ops[j]? = some oj) (hap : oi.apart ops oj = true)
    (hsi : ∀ cs b, oi.op ≠ .select cs b) (hsj : ∀ cs b, oj.op ≠ .select cs b) {K : Act → Prop} {a : Act}
    (h : lOp P ops C V i (lOp P ops C V j K) a) : lOp P ops C V j (lOp P ops C V i K) a := by
  obtain ⟨h1, h2, h3⟩ := Oper.apart_spec hap
  unfold lOp at *
  simp only [hi, hj] at *
  have ew : ∀ (a : Act) u, Region.wanted oj (yielded ops (a.put oi.dst u).tmps) = Region.wanted oj (yielded ops a.tmps) := fun a u => wanted_put oj a oi.dst u h1
  have ew' : ∀ (a : Act) u, Region.wanted oi (yielded ops (a.put oj.dst u).tmps) = Region.wanted oi (yielded ops a.tmps) := fun a u => wanted_put oi a oj.dst u h3
  have ex : ∀ (a : Act) u, execOp (a.put oi.dst u).eval oj = execOp a.eval oj := fun a u => execOp_put oj hsj a oi.dst u h1
  have ex' : ∀ (a : Act) u, execOp (a.put oj.dst u).eval oi = execOp a.eval oi := fun a u => execOp_put oi hsi a oj.dst u h3
  have ec : ∀ u v, (a.put oi.dst u).put oj.dst v = (a.put oj.dst v).put oi.dst u := fun u v => Act.put_comm a u v h2
  simp only [ew] at h
  simp only [ew']
  by_cases wj : Region.wanted oj (yielded ops a.tmps) = true
  · simp only [wj, if_true] at h ⊢
    by_cases wi : Region.wanted oi (yielded ops a.tmps) = true
    · simp only [wi, if_true] at h ⊢
      intro w hw
      have key : lUpon P C V w (fun v => ∀ x : World, C x → lUpon P C V x (fun u => K ((a.put oj.dst v).put oi.dst u)) ((execOp a.eval oi).run P x)) ((execOp a.eval oj).run P w) := by
        refine lUpon_all (S := fun x : World => C x) ⟨w, hw⟩ fun x hx => ?_
        have hx2 : lUpon P C V x (fun u => lUpon P C V w (fun v => K ((a.put oj.dst v).put oi.dst u)) ((execOp a.eval oj).run P w)) ((execOp a.eval oi).run P x) := by
          refine lUpon_mono (fun u hu => ?_) (h x hx)
          have hu' : lOper P C V oj (a.put oi.dst u) K := by simpa only [ew, wj, if_true] using hu
          have := hu' w hw
          simp only [ex, ec] at this
          exact this
        rcases hx2 with ⟨u, e, hn⟩ | ⟨e, hn⟩ | ⟨f, args, e, hc, hn⟩
        · exact lUpon_mono (fun v hv => .inl ⟨u, e, hv⟩) hn
        · exact lUpon_mono (fun v hv => .inr (.inl ⟨e, hv⟩)) hn
        · obtain ⟨_, _, _, ⟨v0, _, _, hv0⟩, _⟩ := hc []
          exact lUpon_mono (fun v hv => .inr (.inr ⟨f, args, e, hc, hv⟩)) (lUpon_all (S := fun u : Value => V f args u) (n := fun u v => K ((a.put oj.dst v).put oi.dst u)) ⟨v0, hv0⟩ hn)
      refine lUpon_mono (fun v hv => ?_) key
      have : lOper P C V oi (a.put oj.dst v) K := by
        intro x hx
        simp only [ex']
        exact hv x hx
      simpa only [ew', wi, if_true] using this
    · simp only [wi] at h ⊢
      intro w hw
      have := h w hw
      simp only [ex, ec] at this
      simpa only [ew', wi, Bool.false_eq_true, if_false] using this
  · simp only [wj] at h ⊢
    by_cases wi : Region.wanted oi (yielded ops a.tmps) = true
    · simp only [wi, if_true] at h ⊢
      intro w hw
      have := h w hw
      simp only [ex', ← ec]
      simpa only [ew, wj, Bool.false_eq_true, if_false] using this
    · simp only [wi] at h ⊢
      rw [← ec]
      exact h
/-- An operation that may come up now may be taken first. -/
theorem lAny_first {Q : Act → Prop} {i : Nat} {oi : Oper} (hC : ∃ w, C w) (hi : ops[i]? = some oi) (hsel : ∀ (j : Nat) (o : Oper) cs b, ops[j]? = some o → o.op ≠ .select cs b) :
    ∀ (n : Nat) (L : Array Bool) (a : Act),
      (∀ j oj, ops[j]? = some oj → j ≠ i → L.getD j true = false → (∀ e ∈ oj.after, Region.binds md e = true → e.on ≠ i) → oi.apart ops oj = true) →
      i ∈ Region.ready md ops L → lOp P ops C V i (lAny P md ops C V Q n (L.setIfInBounds i true)) a → lAny P md ops C V Q (n + 1) L a := by
  intro n
  induction n with
  | zero =>
    intro L a _ hr H
    refine ⟨fun h => (by rw [h] at hr; cases hr), fun j hj => ?_⟩
    by_cases hji : j = i
    · subst hji; exact H
    · obtain ⟨_, h0, _⟩ := lOp_some hC H
      have := ready_mono hj hji
      rw [h0] at this
      cases this
  | succ n ih =>
    intro L a hfree hr H
    refine ⟨fun h => (by rw [h] at hr; cases hr), fun j hj => ?_⟩
    by_cases hji : j = i
    · subst hji; exact H
    · obtain ⟨hjun, oj, hoj, hall⟩ := mem_ready.1 hj
      have hnot : ∀ e ∈ oj.after, Region.binds md e = true → e.on ≠ i := fun e he hb heq => by
        have h1 := hall e he hb
        have h0 := (mem_ready.1 hr).1
        rw [heq] at h1
        rcases Nat.lt_or_ge i L.size with h' | h'
        · simp [h'] at h0 h1; rw [h0] at h1; cases h1
        · simp [Array.getElem?_eq_none h'] at h1
      have h2 : lOp P ops C V i (lOp P ops C V j (lAny P md ops C V Q n ((L.setIfInBounds i true).setIfInBounds j true))) a := lOp_mono (fun a' h => h.2 j (ready_mono hj hji)) H
      have h3 := lOp_swap hi hoj (hfree j oj hoj hji hjun hnot) (fun cs b => hsel i oi cs b hi) (fun cs b => hsel j oj cs b hoj) h2
      refine lOp_mono (fun a' h4 => ih (L.setIfInBounds j true) a' ?_ (ready_mono hr (Ne.symm hji)) ?_) h3
      · intro k ok hk hki hun hno
        refine hfree k ok hk hki ?_ hno
        by_cases hjk : j = k
        · subst hjk; exact hjun
        · rw [getD_set_ne true hjk] at hun; exact hun
      · rw [Array.setIfInBounds_comm _ _ hji]
        exact h4
theorem lAny_lex {Q : Act → Prop} (hC : ∃ w, C w) (hs : Region.noSelect ops = true) : ∀ (l : List Oper) (k : Nat) (L : Array Bool) (a : Act), (∀ j, l[j]? = ops[k + j]?) →
    Region.lexFrom md ops l.length k L = true → lWalk P ops C V Q l a → lAny P md ops C V Q l.length L a
  | [], _, _, _, _, hB, h => ⟨by simpa [Region.lexFrom] using hB, h⟩
  | o :: l, k, L, a, hl, hB, h => by
    have h0 : ops[k]? = some o := by simpa using (hl 0).symm
    simp only [List.length_cons, Region.lexFrom, Bool.and_eq_true] at hB
    obtain ⟨⟨hr, hf⟩, hB'⟩ := hB
    refine lAny_first hC h0 (Region.noSelect_spec hs) l.length L a (Region.free_spec h0 hf) (by simpa using hr) ?_
    have hst : lOp P ops C V k (lWalk P ops C V Q l) a := by unfold lOp; simp only [h0]; exact h
    exact lOp_mono (fun a' h' => lAny_lex hC hs l (k + 1) _ _ (fun j => by have := hl (j + 1); simpa [Nat.add_assoc, Nat.add_comm 1 j] using this) hB' h') hst
theorem wpOp_of_lOp {i : Nat} {a : Act} {K : Act → Prop} {K' : Act → World → Prop} {Q' : Exit → Act → World → Prop} {w : World} (hw : C w) (h : ∀ a w', C w' → K a → K' a w') (hh : lOp P ops C V i K a) : wpOp P ops Q' i K' a w := by
  unfold lOp at hh
  unfold wpOp
  split
  · rename_i ho; simp only [ho] at hh; exact h _ _ hw hh
  · rename_i o ho
    simp only [ho] at hh
    split
    · rename_i hw'
      simp only [hw', if_true] at hh
      refine .inl ?_
      unfold Oper.wp
      rcases hh w hw with ⟨u, e, hn⟩ | ⟨e, hn⟩ | ⟨f, args, e, hc, hn⟩
      · rw [e]; exact h _ _ hw hn
      · rw [e]; exact h _ _ hw hn
      · rw [e]
        exact hc.mono fun e w'' ⟨v, he, hw'', hv⟩ => by subst he; exact h _ _ hw'' (hn v hv)
    · rename_i hw'; simp only [hw'] at hh; exact h _ _ hw hh
theorem wpAny_of_lAny {Q : Act → Prop} {Q' : Exit → Act → World → Prop} (hQ : ∀ a w, C w → Q a → Q' .normal a w) : ∀ (n : Nat) (L : Array Bool) (a : Act) (w : World), C w →
    lAny P md ops C V Q n L a → wpAny P md ops Q' n L a w
  | 0, _, _, _, hw, h => ⟨h.1, hQ _ _ hw h.2⟩
  | n + 1, _, _, _, hw, h => ⟨fun h0 => hQ _ _ hw (h.1 h0), fun i hi => wpOp_of_lOp hw (fun a' w' hw' => wpAny_of_lAny hQ n _ a' w' hw') (h.2 i hi)⟩
/-- One walk of the order of the text serves every order. -/
theorem wp_region_loose (C : World → Prop) (V : FuncId → Array Value → Value → Prop) {id : Nat} {Q : Exit → Act → World → Prop} {a : Act} {w : World} {l : List Oper} (hm : P.follows .mixedOrders = true) (hB : Region.lexB .any l.toArray = true) (hC : C w.drew)
    (h : lWalk P l.toArray C V (fun a' => ∀ w', C w' → Q .normal a' w') l a) : (Code.region id l.toArray true).wp P Q a w := by
  simp only [Region.lexB, Bool.and_eq_true] at hB
  refine wp_region_any hm (wpAny_of_lAny (V := V) (Q := fun a' => ∀ w', C w' → Q .normal a' w') (fun _ w' hw' h => h w' hw') _ _ _ _ hC ?_)
  have := lAny_lex (C := C) (V := V) (md := .any) (ops := l.toArray) ⟨_, hC⟩ hB.1 l 0 (Array.replicate l.toArray.size false) a (by simp) (by simpa using hB.2) h
  simpa using this
/-- An operation that is no call of a Go function. -/
def plainOp : Op → Bool
  | .move _ | .assign _ | .pick .. | .load .. | .binOp .. | .unOp .. | .convert .. | .fieldAddr .. | .indexAddr .. | .extract .. | .build .. | .index .. | .field .. | .slice .. => true
  | .call c => match c.callee with
    | .builtin .len | .builtin .max | .builtin .min | .builtin .cap => true
    | _ => false
  | _ => false
theorem val_ne {s : Sem Value} {w w' : World} {n : Next} (h : (do pure (Next.value (← s)) : Sem Next).run P w = .ok n w') : ∃ v, n = .value v := by
  simp only [Sem.run_bind] at h
  generalize s.run P w = r at h
  cases r with
  | ok v w1 => simp only [Result.andThen_ok, Sem.run_pure, Result.ok.injEq] at h; exact ⟨v, h.1.symm⟩
  | halt x w1 => simp [Result.andThen] at h
theorem plain_val {o : Oper} (h : plainOp o.op = true) {ρ : Operand → Value} {w w' : World} {n : Next} (hr : (execOp ρ o).run P w = .ok n w') : ∃ v, n = .value v := by
  obtain ⟨dst, op, t, pos, after, guard⟩ := o
  simp only at h
  unfold execOp at hr
  cases op with
  | move x => simp only [Sem.run_pure, Result.ok.injEq] at hr; exact ⟨_, hr.1.symm⟩
  | assign x => simp only [Sem.run_pure, Result.ok.injEq] at hr; exact ⟨_, hr.1.symm⟩
  | pick c x y =>
    simp only [Sem.run_bind] at hr
    generalize (asBool (ρ c)).run P w = r at hr
    cases r with
    | ok b w1 => simp only [Result.andThen_ok, Sem.run_pure, Result.ok.injEq] at hr; exact ⟨_, hr.1.symm⟩
    | halt x w1 => simp [Result.andThen] at hr
  | load => exact val_ne hr
  | binOp => exact val_ne hr
  | unOp => exact val_ne hr
  | convert => exact val_ne hr
  | fieldAddr => exact val_ne hr
  | indexAddr => exact val_ne hr
  | extract => exact val_ne hr
  | build => exact val_ne hr
  | index => exact val_ne hr
  | field => exact val_ne hr
  | slice => exact val_ne hr
  | call c =>
    obtain ⟨callee, args, ats⟩ := c
    cases callee with
    | builtin b =>
      simp only [resolve, invoke, builtin, Sem.run_bind, Sem.run_pure, Result.andThen_ok] at hr
      cases b <;> simp only [plainOp, Bool.false_eq_true] at h <;> exact val_ne (by simpa only [Sem.run_bind, Sem.run_pure] using hr)
    | _ => simp [plainOp] at h
  | _ => simp [plainOp] at h
/-- Where a quiet operation is no call of a Go function, it is a loose one. -/
theorem lOper_of_quiet {o : Oper} {a : Act} {K : Act → Prop} (h : plainOp o.op = true) (hq : o.quiet P a C K) : lOper P C V o a K := by
  obtain ⟨v, h1, h2⟩ := hq
  intro w hw
  have h3 := h1 w hw
  unfold Oper.quietAt at h3
  generalize hr : (execOp a.eval o).run P w = r at h3
  cases r with
  | ok n w' =>
    obtain ⟨u, rfl⟩ := plain_val h hr
    obtain ⟨rfl, rfl⟩ := h3
    exact .inl ⟨_, rfl, h2⟩
  | halt x w' => exact h3.elim
/-- The operations ahead of a call, walked as quiet ones. -/
theorem lWalk_plain {Q : Act → Prop} {o : Oper} {r : List Oper} {a : Act} (h : plainOp o.op = true) (hq : wpQuiet P ops C (lWalk P ops C V Q r) [o] a) : lWalk P ops C V Q (o :: r) a := by
  simp only [wpQuiet] at hq
  simp only [lWalk]
  split
  · rename_i hw; simp only [hw, if_true] at hq; exact lOper_of_quiet h hq
  · rename_i hw; simp only [hw] at hq; exact hq
/-- A call of a Go function. -/
theorem lWalk_call {Q : Act → Prop} {o : Oper} {r : List Oper} {a : Act} (f : FuncId) (args : Array Value) (hw : Region.wanted o (yielded ops a.tmps) = true) (hr : ∀ w, (execOp a.eval o).run P w = .ok (.enter f args) w)
    (hc : ∀ w, C w → Calls P f args w (fun e w'' => ∃ v, e = .returned v ∧ C w'' ∧ V f args v)) (hk : ∀ v, V f args v → lWalk P ops C V Q r (a.put o.dst v)) : lWalk P ops C V Q (o :: r) a := by
  simp only [lWalk, hw, if_true]
  exact fun w hC => .inr (.inr ⟨f, args, hr w, hc w hC, hk⟩)
/-- A call of a Go function by its name: its arguments, and the frame with its result. -/
theorem run_call {o : Oper} {a : Act} {f : FuncId} {xs : Array Operand} {ats : Array TypeId} (ho : o.op = .call { callee := .value (.func f), args := xs, argTypes := ats }) (he : ∀ args w, (callFunc f args).run P w = .ok (.enter f args) w)
    (args : Array Value) (hargs : xs.map a.eval = args) (w : World) : (execOp a.eval o).run P w = .ok (.enter f args) w := by
  subst hargs
  unfold execOp
  simp only [ho, resolve, Act.eval, Deferred.ofValue, invoke, Sem.run_bind, Sem.run_pure, Result.andThen_ok]
  simp [he]
theorem enters_fn {f : FuncId} {fn : Func} {c : Code} (hf : P.funcs[f]? = some fn) (hname : (fn.name == "runtime.NumGoroutine") = false) (hb : fn.body = some c) : ∀ args w, (callFunc f args).run P w = .ok (.enter f args) w := by
  intro args w
  have h1 : fn.name ≠ "runtime.NumGoroutine" := by simpa using hname
  simp [callFunc, hf, h1, hb]
theorem lWalk_skip {Q : Act → Prop} {o : Oper} {r : List Oper} {a : Act} (hw : Region.wanted o (yielded ops a.tmps) = false) (hk : lWalk P ops C V Q r (a.put o.dst undef)) : lWalk P ops C V Q (o :: r) a := by
  simp only [lWalk, hw]
  exact hk
theorem lWalk_nil {Q : Act → Prop} {a : Act} (h : Q a) : lWalk P ops C V Q [] a := h
end
end Go.Proofs.Ytkgahhfemlebmaa
