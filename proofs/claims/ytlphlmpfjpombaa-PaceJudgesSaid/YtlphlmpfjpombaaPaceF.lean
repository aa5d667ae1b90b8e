/-
  The walk of pace's Node.
-/
import Derived.Test.YtlphlmpfjpombaaPaceE
namespace Go.Proofs.Ytlphlmpfjpombaa
open Go.RowKit Go.Instr

/-- Two lists side by side. -/
def Par {α β : Type} (R : α → β → Prop) : List α → List β → Prop
  | [], [] => True
  | a :: l, b :: k => R a b ∧ Par R l k
  | _, _ => False
theorem par_of {α β : Type} {R : α → β → Prop} : ∀ {l : List α} {k : List β}, l.length = k.length → (∀ i (h : i < l.length) (h' : i < k.length), R l[i] k[i]) → Par R l k
  | [], [], _, _ => trivial
  | [], _ :: _, h, _ => by cases h
  | _ :: _, [], h, _ => by cases h
  | a :: l, b :: k, h, hr => ⟨hr 0 (by simp) (by simp), par_of (by simpa using h) (fun i hi hi' => by have := hr (i + 1) (by simp; exact hi) (by simp; exact hi'); simpa using this)⟩
theorem par_to {α β : Type} {R : α → β → Prop} : ∀ {l : List α} {k : List β}, Par R l k → l.length = k.length ∧ (∀ i (h : i < l.length) (h' : i < k.length), R l[i] k[i])
  | [], [], _ => ⟨rfl, fun i h => absurd h (Nat.not_lt_zero _)⟩
  | [], _ :: _, h => h.elim
  | _ :: _, [], h => h.elim
  | a :: l, b :: k, ⟨h1, h2⟩ => by
    obtain ⟨e, hr⟩ := par_to h2
    refine ⟨by simp [e], fun i hi hi' => ?_⟩
    cases i with
    | zero => exact h1
    | succ i => exact hr i (by simpa using hi) (by simpa using hi')
theorem par_filter {α β : Type} {R : α → β → Prop} {p : α → Bool} {q : β → Bool} (h : ∀ a b, R a b → p a = q b) : ∀ {l : List α} {k : List β}, Par R l k → Par R (l.filter p) (k.filter q)
  | [], [], _ => trivial
  | [], _ :: _, h => h.elim
  | _ :: _, [], h => h.elim
  | a :: l, b :: k, ⟨h1, h2⟩ => by
    simp only [List.filter_cons]
    rw [h a b h1]
    have ih := par_filter h h2
    cases q b with
    | true => exact ⟨h1, ih⟩
    | false => exact ih
/-- The node's cells become others, the other nodes are as they were. -/
theorem node_core {w wf : World} {base P i : Nat} {p : Pc} {mb mc nb nc : Nat} {xs : List TV} (h : PaceAt w base P p mb mc nb nc xs) (hi : i < p.ns.length) (hix : i < xs.length) (x : TV) (nd : Nd) (ht : x.t = nd.t) (hx : x.v.ownBlock = none ∨ x.v.ownBlock = xs[i].v.ownBlock)
    (hk : ∀ k, k < w.heap.size → k ≠ nb → xs[i].v.ownBlock ≠ some k → wf.heap[k]? = w.heap[k]?) (hN : twoR.Own 83 wf base (.slice (some ⟨nb, 0, none⟩) p.ns.length nc) (xs.set i x)) (hS : SpansAt wf base mb x.v nd.sp) (hB : Below base w wf) (hsz : w.heap.size ≤ wf.heap.size) :
    PaceP base P w (.tuple #[]) { p with ns := p.ns.set i nd } (.returned (.tuple #[])) wf := by
  obtain ⟨n1, n2, n3, n4, cn, hcn⟩ := h.nbNe
  have hmbw : mb < w.heap.size := (World.ownsRow.lt h.ms mb rfl).2
  have hPw : P < w.heap.size := h.blk.lt
  obtain ⟨_, ys, hys, _⟩ := h.sp i hix hi
  have hty : ∀ (k : Nat) (C : Array Value) (T : TypeId) (fz : Nat × Nat), w.heap[k]? = some (.cells C T fz) → T ≠ 85 → k ≠ nb → wf.heap[k]? = w.heap[k]? := fun k C T fz hh hT hkn => hk k (Array.getElem?_eq_some_iff.1 hh).1 hkn (fun e => by
    obtain ⟨cur, hc⟩ := own_heap hys e
    exact heap_ne hc hh (fun e => hT e.symm) rfl)
  obtain ⟨cm, hcm⟩ := own_heap h.ms rfl
  refine ⟨rfl, ⟨mb, mc, nb, nc, xs.set i x, ?_⟩, hB, hsz, fun k C T fz hh _ h83 h85 _ => hty k C T fz hh h85 (heap_ne hh hcn (fun e => h83 e))⟩
  refine h.setN x nd ht (hty P _ 80 _ h.blk (by decide) n1) (hty mb cm 3 _ hcm (by decide) n2) hN hS (fun j hj hji g hg => ?_) (fun k C fz hh _ => hty k C 3 fz hh (by decide) (n4 k C fz hh))
  have hgw : g < w.heap.size := by
    obtain ⟨_, ys', ho', _⟩ := h.sp j hj (by rw [← h.len]; exact hj)
    exact (World.ownsRow.lt ho' g hg).2
  have hne : xs[i].v.ownBlock ≠ some g := h.apart j i hj hix g hji hg
  refine ⟨hk g hgw (n3 j hj g hg) hne, ?_⟩
  rcases hx with e | e
  · rw [e]; simp
  · rw [e]; exact hne
/-- What the end of the spans that are over leaves. -/
theorem node_after {w wy wz : World} {base P i g cap : Nat} {p : Pc} {mb mc nb nc : Nat} {xs ys : List TV} (h : PaceAt w base P p mb mc nb nc xs) (hbw : base ≤ w.heap.size) (hi : i < p.ns.length) (hix : i < xs.length)
    (hg : xs[i].v.ownBlock = some g) (hyl : ys.length = p.ns[i].sp.length) (hyc : ∀ k (h : k < ys.length) (h' : k < p.ns[i].sp.length), ys[k].t = p.ns[i].sp[k].s ∧ intR.Own 3 w base ys[k].v p.ns[i].sp[k].ms ∧ ys[k].v.ownBlock ≠ some mb)
    (hB : Below w.heap.size (w.setCell ⟨nb, i * 2, none⟩ (.int .i64 ((p.ns[i].t : Int) + 1))) wy) (hd : DelF base g cap wy (ys.filter fun y => !doneB (p.ns[i].t + 1) p.hold y) (.returned (.slice (some ⟨g, 0, none⟩) (ys.filter fun y => !doneB (p.ns[i].t + 1) p.hold y).length cap)) wz) :
    PaceP base P w (.tuple #[]) (p.node i) (.returned (.tuple #[])) (wz.setCell ⟨nb, i * 2 + 1, none⟩ (.slice (some ⟨g, 0, none⟩) (ys.filter fun y => !doneB (p.ns[i].t + 1) p.hold y).length cap)) := by
  obtain ⟨n1, n2, n3, n4, cn, hcn⟩ := h.nbNe
  obtain ⟨_, ho, hBz, hkz⟩ := hd
  have hnb : nb < w.heap.size := (World.ownsRow.lt h.ns nb rfl).2
  have hnbb : base ≤ nb := (World.ownsRow.lt h.ns nb rfl).1
  have hgn : g ≠ nb := n3 i hix g hg
  obtain ⟨_, ys0, hys0, _⟩ := h.sp i hix hi
  have hgw : g < w.heap.size := (World.ownsRow.lt hys0 g hg).2
  have hsx : w.heap.size ≤ wy.heap.size := by have := hB.size; simpa using this
  have hwy : ∀ k, k < w.heap.size → k ≠ nb → wy.heap[k]? = w.heap[k]? := fun k hk hkn => (hB.block k hk).trans (Below.heap_setCell w _ _ k hkn)
  have hk : ∀ k, k < w.heap.size → k ≠ nb → k ≠ g → (wz.setCell ⟨nb, i * 2 + 1, none⟩ (.slice (some ⟨g, 0, none⟩) (ys.filter fun y => !doneB (p.ns[i].t + 1) p.hold y).length cap)).heap[k]? = w.heap[k]? := fun k hkw hkn hkg =>
    (Below.heap_setCell wz _ _ k hkn).trans ((hkz k (by omega) hkg).trans (hwy k hkw hkn))
  -- the nodes' row
  have r0 := h.ns.put i 0 hix (by decide) ⟨p.ns[i].t + 1, xs[i].a, xs[i].n, xs[i].c⟩ (.int .i64 ((p.ns[i].t : Int) + 1)) rfl
  have r1 : twoR.Own 83 wy base (.slice (some ⟨nb, 0, none⟩) p.ns.length nc) (xs.set i ⟨p.ns[i].t + 1, xs[i].a, xs[i].n, xs[i].c⟩) := r0.block fun k hk => by
    simp only [Value.ownBlock, Option.some.injEq] at hk
    subst hk
    exact hB.block nb hnb
  have r2 : twoR.Own 83 wz base (.slice (some ⟨nb, 0, none⟩) p.ns.length nc) (xs.set i ⟨p.ns[i].t + 1, xs[i].a, xs[i].n, xs[i].c⟩) := r1.block fun k hk => by
    simp only [Value.ownBlock, Option.some.injEq] at hk
    subst hk
    exact hkz nb (by omega) hgn.symm
  have r3 := r2.put i 1 (by rw [List.length_set]; exact hix) (by decide) ⟨p.ns[i].t + 1, some ⟨g, 0, none⟩, (ys.filter fun y => !doneB (p.ns[i].t + 1) p.hold y).length, cap⟩ (.slice (some ⟨g, 0, none⟩) (ys.filter fun y => !doneB (p.ns[i].t + 1) p.hold y).length cap) (by rw [List.getElem_set_self]; rfl)
  rw [List.set_set] at r3
  -- the spans' row
  have ho2 : twoR.Own 85 (wz.setCell ⟨nb, i * 2 + 1, none⟩ (.slice (some ⟨g, 0, none⟩) (ys.filter fun y => !doneB (p.ns[i].t + 1) p.hold y).length cap)) base (.slice (some ⟨g, 0, none⟩) (ys.filter fun y => !doneB (p.ns[i].t + 1) p.hold y).length cap) (ys.filter fun y => !doneB (p.ns[i].t + 1) p.hold y) := ho.block fun k hk => by
    simp only [Value.ownBlock, Option.some.injEq] at hk
    subst hk
    exact Below.heap_setCell wz _ _ g hgn
  have hpar := par_filter (p := fun y => !doneB (p.ns[i].t + 1) p.hold y) (q := fun s : Sp => decide (p.ns[i].t + 1 < s.s + p.hold)) (R := fun (y : TV) (s : Sp) => y.t = s.s ∧ intR.Own 3 w base y.v s.ms ∧ y.v.ownBlock ≠ some mb) (fun a b hab => by
    unfold doneB
    rw [hab.1, Bool.eq_iff_iff]
    simp) (par_of hyl hyc)
  obtain ⟨hfl, hfc⟩ := par_to hpar
  have hS : SpansAt (wz.setCell ⟨nb, i * 2 + 1, none⟩ (.slice (some ⟨g, 0, none⟩) (ys.filter fun y => !doneB (p.ns[i].t + 1) p.hold y).length cap)) base mb (.slice (some ⟨g, 0, none⟩) (ys.filter fun y => !doneB (p.ns[i].t + 1) p.hold y).length cap) (p.ns[i].sp.filter fun s => decide (p.ns[i].t + 1 < s.s + p.hold)) := by
    refine ⟨_, ho2, hfl, fun k hk1 hk2 => ?_⟩
    obtain ⟨e1, e2, e3⟩ := hfc k hk1 hk2
    refine ⟨e1, e2.block fun b hb => ?_, e3⟩
    obtain ⟨cur, hh⟩ := own_heap e2 hb
    obtain ⟨cur2, hh2⟩ := own_heap hys0 hg
    exact hk b (Array.getElem?_eq_some_iff.1 hh).1 (n4 b cur _ hh) (heap_ne hh hh2 (by decide))
  unfold Pc.node
  rw [set_modify _ _ hi]
  refine node_core h hi hix ⟨p.ns[i].t + 1, some ⟨g, 0, none⟩, (ys.filter fun y => !doneB (p.ns[i].t + 1) p.hold y).length, cap⟩ (Nd.tick p.hold p.ns[i]) rfl (.inr hg.symm) (fun k h1 h2 h3 => hk k h1 h2 (fun e => h3 (by rw [hg, e]))) r3 hS ?_ ?_
  · exact ((((Below.refl base w).setCell (p := ⟨nb, i * 2, none⟩) hnbb _).trans (hB.mono hbw)).trans hBz).setCell (p := ⟨nb, i * 2 + 1, none⟩) hnbb _
  · have := hBz.size
    simp at this ⊢
    omega
/-- The same where the node had no spans. -/
theorem node_none {w wy wz : World} {base P i : Nat} {p : Pc} {mb mc nb nc : Nat} {xs : List TV} (h : PaceAt w base P p mb mc nb nc xs) (hbw : base ≤ w.heap.size) (hi : i < p.ns.length) (hix : i < xs.length) (hsp : p.ns[i].sp = [])
    (hB : Below w.heap.size (w.setCell ⟨nb, i * 2, none⟩ (.int .i64 ((p.ns[i].t : Int) + 1))) wy) (hz : Below wy.heap.size wy wz) :
    PaceP base P w (.tuple #[]) (p.node i) (.returned (.tuple #[])) (wz.setCell ⟨nb, i * 2 + 1, none⟩ (.slice none 0 0)) := by
  have hnb : nb < w.heap.size := (World.ownsRow.lt h.ns nb rfl).2
  have hnbb : base ≤ nb := (World.ownsRow.lt h.ns nb rfl).1
  have hsx : w.heap.size ≤ wy.heap.size := by have := hB.size; simpa using this
  have hk : ∀ k, k < w.heap.size → k ≠ nb → (wz.setCell ⟨nb, i * 2 + 1, none⟩ (.slice none 0 0)).heap[k]? = w.heap[k]? := fun k hkw hkn =>
    (Below.heap_setCell wz _ _ k hkn).trans ((hz.block k (by omega)).trans ((hB.block k hkw).trans (Below.heap_setCell w _ _ k hkn)))
  have r0 := h.ns.put i 0 hix (by decide) ⟨p.ns[i].t + 1, xs[i].a, xs[i].n, xs[i].c⟩ (.int .i64 ((p.ns[i].t : Int) + 1)) rfl
  have r1 : twoR.Own 83 wy base (.slice (some ⟨nb, 0, none⟩) p.ns.length nc) (xs.set i ⟨p.ns[i].t + 1, xs[i].a, xs[i].n, xs[i].c⟩) := r0.block fun k hk => by
    simp only [Value.ownBlock, Option.some.injEq] at hk
    subst hk
    exact hB.block nb hnb
  have r2 : twoR.Own 83 wz base (.slice (some ⟨nb, 0, none⟩) p.ns.length nc) (xs.set i ⟨p.ns[i].t + 1, xs[i].a, xs[i].n, xs[i].c⟩) := r1.block fun k hk => by
    simp only [Value.ownBlock, Option.some.injEq] at hk
    subst hk
    exact hz.block nb (by omega)
  have r3 := r2.put i 1 (by rw [List.length_set]; exact hix) (by decide) ⟨p.ns[i].t + 1, none, 0, 0⟩ (.slice none 0 0) (by rw [List.getElem_set_self]; rfl)
  rw [List.set_set] at r3
  have htick : Nd.tick p.hold p.ns[i] = ⟨p.ns[i].t + 1, []⟩ := by unfold Nd.tick; rw [hsp]; rfl
  unfold Pc.node
  rw [set_modify _ _ hi, htick]
  refine node_core h hi hix ⟨p.ns[i].t + 1, none, 0, 0⟩ ⟨p.ns[i].t + 1, []⟩ rfl (.inl rfl) (fun k h1 h2 _ => hk k h1 h2) r3 SpansAt.nil ?_ ?_
  · exact ((((Below.refl base w).setCell (p := ⟨nb, i * 2, none⟩) hnbb _).trans (hB.mono hbw)).trans (hz.mono (by omega))).setCell (p := ⟨nb, i * 2 + 1, none⟩) hnbb _
  · have := hz.size
    simp at this ⊢
    omega
set_option maxHeartbeats 400000 in
theorem delF_nil (bn bp nb o P t hold : Nat) (w : World) (hc : ClosAt w bn bp nb o P t hold) (ht : t ≤ 1000000) :
    Calls Try.prog 40 #[.slice none 0 0, .func (.func 41) #[] #[.pointer (some ⟨bn, 0, none⟩), .pointer (some ⟨bp, 0, none⟩)]] w fun e w' => e = .returned (.slice none 0 0) ∧ Below w.heap.size w w' := by
  go_enter Try.func40, Try.ntmps40
  go_wp2_with (go_at_call 44; (refine (idx_done (.slice none 0 0) [] bn bp nb o P t hold _ (by decide) (.inl ⟨rfl, rfl⟩) hc ht (fun y hy => (by cases hy))).mono ?_); rintro en w1 ⟨rfl, hB1⟩; have HB1 := Lib.hid hB1; clear hB1)
  go_ret
  exact ⟨rfl, HB1.out⟩
end Go.Proofs.Ytlphlmpfjpombaa
