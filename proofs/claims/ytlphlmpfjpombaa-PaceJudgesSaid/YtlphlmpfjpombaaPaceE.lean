/-
  The walk of pace's Ask, and Master where there is no such master.
-/
import Derived.Test.YtlphlmpfjpombaaPaceD
import Derived.Test.YtlphlmpfjpombaaGenT
namespace Go.Proofs.Ytlphlmpfjpombaa
open Go.RowKit Go.Instr

set_option maxHeartbeats 1000000 in
theorem Master_no (base P : Nat) (p : Pc) (i : Int) (w : World) (hp : PaceE w base P p) (hb : base ≤ w.heap.size) (hi : i < 1 ∨ (p.ms.length : Int) < i) :
    Calls Try.prog 25 #[.pointer (some ⟨P, 0, none⟩), .int .i64 i] w (PaceP base P w (.tuple #[]) p) := by
  have HP := Lib.hid hp
  obtain ⟨mb, mc, nb, nc, xs, h⟩ := hp
  obtain ⟨_, _, c2, _, _⟩ := h.five
  obtain ⟨m, hm⟩ : ∃ m, p.ms.length = m := ⟨_, rfl⟩
  rw [hm] at c2 hi
  have HI := Lib.hid hi
  clear h hi hm
  go_enter Try.func25, Try.ntmps25
  go_wp2_with (go_at_call 38; (refine (within_is _ _ false _ (by have := HI.out; simp; omega)).mono ?_); rintro en w1 ⟨rfl, rfl⟩)
  go_end0
  exact .quiet hb HP.out (Below.refl _ _)
/-- Spans where the last one began otherwise, or there is none: a request begins one. -/
theorem ask_new {x : Nd} {ms : List Nat} (h : ∀ s, x.sp.getLast? = some s → s.s ≠ x.t) : Nd.ask ms x = ⟨x.t, x.sp ++ [⟨x.t, ms⟩]⟩ := by
  unfold Nd.ask
  cases hl : x.sp.getLast? with
  | none =>
    rw [List.getLast?_eq_none_iff] at hl
    simp [hl]
  | some s => simp [h s hl]
theorem ask_old {x : Nd} {ms : List Nat} {s : Sp} (h : x.sp.getLast? = some s) (hs : s.s = x.t) : Nd.ask ms x = x := by
  unfold Nd.ask
  rw [h]
  simp [hs]
theorem SpansAt.snoc {w : World} {base mb : Nat} {v : Value} {l : List Sp} {ys : List TV} {y : TV} {s : Sp} (ho : twoR.Own 85 w base v (ys ++ [y])) (hl : ys.length = l.length) (hc : ∀ k (h : k < ys.length) (h' : k < l.length), ys[k].t = l[k].s ∧ intR.Own 3 w base ys[k].v l[k].ms ∧ ys[k].v.ownBlock ≠ some mb) (h1 : y.t = s.s) (h2 : intR.Own 3 w base y.v s.ms) (h3 : y.v.ownBlock ≠ some mb) : SpansAt w base mb v (l ++ [s]) := by
  refine ⟨ys ++ [y], ho, by simp [hl], fun k hk hk' => ?_⟩
  by_cases h : k < ys.length
  · rw [List.getElem_append_left h, List.getElem_append_left (by rw [← hl]; exact h)]
    exact hc k h _
  · have hk2 : k = ys.length := by simp at hk; omega
    subst hk2
    rw [List.getElem_append_right (Nat.le_refl _), List.getElem_append_right (by rw [hl]; exact Nat.le_refl _)]
    simp only [hl, Nat.sub_self, List.getElem_cons_zero]
    exact ⟨h1, h2, h3⟩
/-- What a request leaves that begins a span. -/
theorem ask_after {w wa w3 : World} {base P i : Nat} {p : Pc} {mb mc nb nc g cap gn gc : Nat} {ga : Option Addr} {xs ys : List TV} (h : PaceAt w base P p mb mc nb nc xs) (hbw : base ≤ w.heap.size) (hi : i < p.ns.length) (hix : i < xs.length)
    (hnew : ∀ s, p.ns[i].sp.getLast? = some s → s.s ≠ p.ns[i].t)
    (hys : twoR.Own 85 w base xs[i].v ys) (hyl : ys.length = p.ns[i].sp.length) (hyc : ∀ k (h : k < ys.length) (h' : k < p.ns[i].sp.length), ys[k].t = p.ns[i].sp[k].s ∧ intR.Own 3 w base ys[k].v p.ns[i].sp[k].ms ∧ ys[k].v.ownBlock ≠ some mb)
    (hB : Below w.heap.size w wa) (hcl : intR.Own 3 wa w.heap.size (.slice ga gn gc) p.ms)
    (hown : w3.ownsRow base 85 2 (.slice (some ⟨g, 0, none⟩) (ys.length + 1) cap) (ys.length + 1) (twoR.row ys ++ [.int .i64 p.ns[i].t, .slice ga gn gc])) (hgr : wa.grownBy w3 xs[i].v.ownBlock) (hat : xs[i].v.ownBlock = some g ∨ g = wa.heap.size) :
    PaceP base P w (.tuple #[]) (p.ask i) (.returned (.tuple #[])) (w3.setCell ⟨nb, i * 2 + 1, none⟩ (.slice (some ⟨g, 0, none⟩) (ys.length + 1) cap)) := by
  obtain ⟨n1, n2, n3, n4, cn, hcn⟩ := h.nbNe
  have hsz := hB.size
  have hnbw : nb < w.heap.size := (World.ownsRow.lt h.ns nb rfl).2
  have hmbw : mb < w.heap.size := (World.ownsRow.lt h.ms mb rfl).2
  have hPw : P < w.heap.size := h.blk.lt
  have hnbb : base ≤ nb := (World.ownsRow.lt h.ns nb rfl).1
  -- blocks of other types, and other rows, are as they were behind the append
  have hkeep : ∀ k, k < w.heap.size → some k ≠ xs[i].v.ownBlock → w3.heap[k]? = w.heap[k]? := fun k hk hne => (hgr.block k (by omega) hne).trans (hB.block k hk)
  have hty : ∀ (k : Nat) (C : Array Value) (T : TypeId) (fz : Nat × Nat), w.heap[k]? = some (.cells C T fz) → T ≠ 85 → w3.heap[k]? = w.heap[k]? := fun k C T fz hk hT => hkeep k (Array.getElem?_eq_some_iff.1 hk).1 (fun e => by
    obtain ⟨cur, hh⟩ := own_heap hys e.symm
    exact heap_ne hh hk (fun e => hT e.symm) rfl)
  have hP3 : w3.heap[P]? = w.heap[P]? := hty P _ 80 _ h.blk (by decide)
  have hN3 : w3.heap[nb]? = w.heap[nb]? := hty nb cn 83 _ hcn (by decide)
  obtain ⟨cm, hcm⟩ := own_heap h.ms rfl
  have hM3 : w3.heap[mb]? = w.heap[mb]? := hty mb cm 3 _ hcm (by decide)
  have hset : ∀ k, k ≠ nb → (w3.setCell ⟨nb, i * 2 + 1, none⟩ (.slice (some ⟨g, 0, none⟩) (ys.length + 1) cap)).heap[k]? = w3.heap[k]? := fun k hk => Below.heap_setCell w3 _ _ k hk
  have hown3 : twoR.Own 83 w3 base (.slice (some ⟨nb, 0, none⟩) p.ns.length nc) xs := h.ns.block fun k hk => by
    simp only [Value.ownBlock, Option.some.injEq] at hk
    subst hk
    exact hN3
  have hput := hown3.put i 1 hix (by decide) ⟨xs[i].t, some ⟨g, 0, none⟩, ys.length + 1, cap⟩ (.slice (some ⟨g, 0, none⟩) (ys.length + 1) cap) rfl
  have hgnb : g ≠ nb := by
    rcases hat with e | e
    · obtain ⟨cur, hh⟩ := own_heap hys e
      exact heap_ne hh hcn (by decide)
    · omega
  -- the clone's block is new
  have hclm : (Value.slice ga gn gc).ownBlock ≠ some mb := fun e => by
    have := (World.ownsRow.lt hcl mb e).1
    omega
  have hcl3 : intR.Own 3 (w3.setCell ⟨nb, i * 2 + 1, none⟩ (.slice (some ⟨g, 0, none⟩) (ys.length + 1) cap)) base (.slice ga gn gc) p.ms := (hcl.mono hbw).block fun k hk => by
    have hlt := World.ownsRow.lt hcl k hk
    have hkn : k ≠ nb := by omega
    refine (hset k hkn).trans (hgr.block k hlt.2 (fun e => ?_))
    have := (World.ownsRow.lt hys k e.symm).2
    omega
  have hrow : twoR.Own 85 (w3.setCell ⟨nb, i * 2 + 1, none⟩ (.slice (some ⟨g, 0, none⟩) (ys.length + 1) cap)) base (.slice (some ⟨g, 0, none⟩) (ys.length + 1) cap) (ys ++ [⟨p.ns[i].t, ga, gn, gc⟩]) := by
    have h0 : twoR.Own 85 w3 base (.slice (some ⟨g, 0, none⟩) (ys.length + 1) cap) (ys ++ [⟨p.ns[i].t, ga, gn, gc⟩]) := by
      unfold RK.Own
      rw [List.length_append, RK.row_snoc]
      exact hown
    exact h0.block fun k hk => by
      simp only [Value.ownBlock, Option.some.injEq] at hk
      subst hk
      exact hset g hgnb
  have h3 : ∀ (k : Nat) (C : Array Value) (fz : Nat × Nat), w.heap[k]? = some (.cells C 3 fz) → k ≠ mb → (w3.setCell ⟨nb, i * 2 + 1, none⟩ (.slice (some ⟨g, 0, none⟩) (ys.length + 1) cap)).heap[k]? = w.heap[k]? := fun k C fz hk _ => (hset k (n4 k C fz hk)).trans (hty k C 3 fz hk (by decide))
  have hspans : SpansAt (w3.setCell ⟨nb, i * 2 + 1, none⟩ (.slice (some ⟨g, 0, none⟩) (ys.length + 1) cap)) base mb (.slice (some ⟨g, 0, none⟩) (ys.length + 1) cap) (p.ns[i].sp ++ [⟨p.ns[i].t, p.ms⟩]) := by
    refine SpansAt.snoc hrow hyl (fun k hk hk' => ?_) rfl hcl3 hclm
    obtain ⟨e1, e2, e3⟩ := hyc k hk hk'
    refine ⟨e1, e2.block fun b hb => ?_, e3⟩
    obtain ⟨cur, hh⟩ := own_heap e2 hb
    exact h3 b cur _ hh (fun e => e3 (by rw [hb, e]))
  have hfin := h.setN (i := i) ⟨xs[i].t, some ⟨g, 0, none⟩, ys.length + 1, cap⟩ ⟨p.ns[i].t, p.ns[i].sp ++ [(⟨p.ns[i].t, p.ms⟩ : Sp)]⟩ (h.sp i hix hi).1 ((hset P n1).trans hP3) ((hset mb n2).trans hM3) hput hspans (fun j hj hji b hb => by
    have hblt : b < w.heap.size := by
      obtain ⟨_, ys', ho', _⟩ := h.sp j hj (by rw [← h.len]; exact hj)
      exact (World.ownsRow.lt ho' b hb).2
    refine ⟨(hset b (n3 j hj b hb)).trans (hkeep b hblt (fun e => h.apart j i hj hix b hji hb e.symm)), fun e => ?_⟩
    simp only [TV.v, Value.ownBlock, Option.some.injEq] at e
    subst e
    rcases hat with e | e
    · exact h.apart j i hj hix g hji hb e
    · omega) h3
  refine ⟨rfl, ⟨mb, mc, nb, nc, _, by unfold Pc.ask; rw [set_modify _ _ hi, ask_new hnew]; exact hfin⟩, ?_, ?_⟩
  · exact ((hB.mono hbw).grown hgr (by omega) (fun k hk => (World.ownsRow.lt hys k hk).1)).setCell (p := ⟨nb, i * 2 + 1, none⟩) hnbb _
  · have hk : KeptP w w3 := ⟨Nat.le_trans hsz hgr.size, fun k C T fz hk _ _ h85 _ => hty k C T fz hk h85⟩
    exact hk.set (hN3.trans hcn) (.inr (.inl rfl))
/-- The last of a node's spans. -/
theorem SpansAt.last {w : World} {base mb : Nat} {v : Value} {l : List Sp} (h : SpansAt w base mb v l) (hl : 0 < l.length) : ∃ gs cs, v = .slice (some ⟨gs, 0, none⟩) l.length cs ∧ gs < w.heap.size ∧ w.cell? ⟨gs, (l.length - 1) * 2, none⟩ = some (.int .i64 (l[l.length - 1]'(by omega)).s) := by
  obtain ⟨ys, ho, hyl, hc⟩ := h
  obtain ⟨g, cap, he, _, hg, _, _, _, hcc⟩ := ho.form (by omega)
  have h1 : l.length - 1 < ys.length := by omega
  obtain ⟨c0, _⟩ := cells2 (o := (l.length - 1) * 2) (fun j u hu => hcc (l.length - 1) h1 j u hu)
  obtain ⟨e1, _⟩ := hc (l.length - 1) h1 (by omega)
  rw [e1] at c0
  exact ⟨g, cap, by rw [he, hyl], hg, c0⟩
set_option maxHeartbeats 1000000 in
theorem Ask_old (base P : Nat) (p : Pc) (i N : Nat) (w : World) (hp : PaceE w base P p) (hf : p.fine N) (hN : N ≤ 1000) (hb : base ≤ w.heap.size) (hi : i < p.ns.length) (s : Sp) (hs : p.ns[i].sp.getLast? = some s) (hst : s.s = p.ns[i].t) :
    Calls Try.prog 27 #[.pointer (some ⟨P, 0, none⟩), .int .i64 (i + 1)] w (PaceP base P w (.tuple #[]) (p.ask i)) := by
  have hsame : p.ask i = p := by
    unfold Pc.ask
    rw [set_modify _ _ hi, ask_old hs hst, List.set_getElem_self]
  rw [hsame]
  clear hsame
  have HP := Lib.hid hp
  obtain ⟨mb, mc, nb, nc, xs, h⟩ := hp
  have hix : i < xs.length := by rw [h.len]; exact hi
  obtain ⟨hnb, d0, d1, f0, f1⟩ := h.nodeCells hix
  obtain ⟨e1, hsp⟩ := h.sp i hix hi
  have hlen : 0 < p.ns[i].sp.length := by
    rcases hq : p.ns[i].sp with _ | ⟨a, r⟩
    · rw [hq] at hs; simp at hs
    · simp
  obtain ⟨gs, cs, hv, hgs, t0⟩ := hsp.last hlen
  have hlast : p.ns[i].sp[p.ns[i].sp.length - 1]'(by omega) = s := by
    rw [List.getLast?_eq_getElem?, List.getElem?_eq_getElem (by omega)] at hs
    exact Option.some.inj hs
  rw [hlast, hst] at t0
  have hln := (hf.nsN _ (List.getElem_mem hi)).2.1
  simp only [TV.v, Value.slice.injEq] at hv
  obtain ⟨v1, v2, v3⟩ := hv
  rw [v1, v2, v3] at d1
  rw [e1] at d0
  have HH := Lib.hid h
  have HI := Lib.hid hi
  have HN8 := Lib.hid hf.ns.2
  clear h hf hs hst hsp hlast v1 v2 v3 e1
  generalize p.ns[i].t = tt at d0 t0
  generalize p.ns[i].sp.length = sl at d1 t0 hlen hln
  obtain ⟨sm, rfl⟩ : ∃ sm, sl = sm + 1 := ⟨sl - 1, by omega⟩
  rw [Nat.add_sub_cancel] at t0
  have hd : (0 : Int) < (sm : Int) + 1 := by omega
  have hd' : decide ((0 : Int) < (sm : Int) + 1) = true := decide_eq_true hd
  have hx1 : (0 : Int) ≤ (sm : Int) + 1 - 1 := by omega
  have hx2 : (sm : Int) + 1 ≤ 1000 := by omega
  go_enter Try.func27, Try.ntmps27
  go_wp2_with (go_at_call 39; (refine (find_yes base P p mb mc nb nc xs i _ HH.out HI.out HN8.out).mono ?_); rintro en w1 ⟨rfl, rfl⟩)
  go_quiet (fail)
  go_wp2
  go_end0
  exact .quiet hb HP.out ⟨rfl, rfl, rfl, Nat.le_refl _, fun _ _ => rfl⟩
theorem Try.info85 : (Try.prog.info? 85).map (fun i => (i.zero, i.size, i.bytes)) = some (some (.agg #[.int .i64 0, .slice none 0 0]), 2, 32) := by kernel_rfl
theorem infoP85 : ∃ i, Try.prog.info? 85 = some i ∧ i.zero = some (.agg #[.int .i64 0, .slice none 0 0]) ∧ i.size = 2 ∧ i.bytes = 32 := by
  have h := Try.info85
  rcases hi : Try.prog.info? 85 with _ | i
  · rw [hi] at h; cases h
  · rw [hi] at h
    simp only [Option.map_some, Option.some.injEq, Prod.mk.injEq] at h
    exact ⟨i, rfl, h.1, h.2.1, h.2.2⟩
theorem news2 {w : World} {B : Nat} {v0 v1 : Value} (h0 : w.cell? ⟨B, 0, none⟩ = some v0) (h1 : w.cell? ⟨B, 1, none⟩ = some v1) :
    ∀ j u, ([v0, v1] : List Value)[j]? = some u → w.cell? ((⟨B, 0, none⟩ : Addr).add j) = some u := by
  intro j u hj
  have e : (⟨B, 0, none⟩ : Addr).add j = ⟨B, j, none⟩ := by unfold Addr.add; split <;> simp_all
  rw [e]
  match j, hj with
  | 0, hj => cases hj; exact h0
  | 1, hj => cases hj; exact h1
theorem cell_grow {w1 wa w3 : World} {p : Addr} {v : Value} {row : Option Nat} (h : w1.cell? p = some v) (hB : Below w1.heap.size w1 wa) (hg : wa.grownBy w3 row) (hne : some p.block ≠ row) : w3.cell? p = some v :=
  hg.cell ((hB.cell (World.block_lt_of_cell? _ _ h)).trans h) hne
theorem frozen_grow {w1 wa w3 : World} {p : Addr} {row : Option Nat} (h : w1.frozen? p = false) (hp : p.block < w1.heap.size) (hB : Below w1.heap.size w1 wa) (hg : wa.grownBy w3 row) (hne : some p.block ≠ row) : w3.frozen? p = false :=
  (World.frozen?_of_block (hg.block p.block (Nat.lt_of_lt_of_le hp hB.size) hne)).trans ((hB.frozen hp).trans h)
theorem below_drN (w : World) (n : Nat) : Below w.heap.size w (w.drewN n) := ⟨rfl, rfl, rfl, Nat.le_refl _, fun _ _ => rfl⟩
theorem below_al1 {w : World} {o : Obj} : Below w.heap.size w (w.alloc o) := (Below.refl _ w).alloc (Nat.le_refl _) o
set_option maxHeartbeats 4000000 in
theorem Ask_new (base P : Nat) (p : Pc) (i N : Nat) (w : World) (hp : PaceE w base P p) (hf : p.fine N) (hN : N ≤ 1000) (hb : base ≤ w.heap.size) (hi : i < p.ns.length) (hnew : ∀ s, p.ns[i].sp.getLast? = some s → s.s ≠ p.ns[i].t) :
    Calls Try.prog 27 #[.pointer (some ⟨P, 0, none⟩), .int .i64 (i + 1)] w (PaceP base P w (.tuple #[]) (p.ask i)) := by
  have HP := Lib.hid hp
  have HNEW := Lib.hid hnew
  obtain ⟨mb, mc, nb, nc, xs, h⟩ := hp
  have hix : i < xs.length := by rw [h.len]; exact hi
  obtain ⟨hnb, d0, d1, f0, f1⟩ := h.nodeCells hix
  obtain ⟨c0, c1, c2, c3, c4⟩ := h.five
  obtain ⟨e1, hsp⟩ := h.sp i hix hi
  obtain ⟨av, cv, hv⟩ := hsp.len
  have hvo : Hid (xs[i].v = .slice av p.ns[i].sp.length cv) := Lib.hid hv
  have HL := Lib.hid (fun hl => hsp.last (w := w) hl)
  obtain ⟨ys, hys, hyl, hyc⟩ := hsp
  have hln := (hf.nsN _ (List.getElem_mem hi)).2.1
  have HYS := Lib.hid hys
  have HYL := Lib.hid hyl
  have HYC := Lib.hid hyc
  have HH := Lib.hid h
  have HN8 := Lib.hid hf.ns.2
  have HM := Lib.hid hf.ms
  have hPw := h.blk.lt
  have hnbw : nb < w.heap.size := (World.ownsRow.lt h.ns nb rfl).2
  simp only [TV.v, Value.slice.injEq] at hv
  obtain ⟨v1, v2, v3⟩ := hv
  rw [v1, v2, v3] at d1
  rw [e1] at d0
  have HOWN : Hid (w.ownsRow base 85 2 (.slice av p.ns[i].sp.length cv) p.ns[i].sp.length (twoR.row ys)) := Lib.hid (by
    have := hys
    rw [hvo.out] at this
    unfold RK.Own at this
    rw [hyl] at this
    exact this)
  clear h hf hys hyl hyc v1 v2 v3 e1 hnew c0 c1 c3 c4
  obtain ⟨tt, htt⟩ : ∃ tt, p.ns[i].t = tt := ⟨_, rfl⟩
  obtain ⟨sl, hsl⟩ : ∃ sl, p.ns[i].sp.length = sl := ⟨_, rfl⟩
  rw [htt] at d0
  rw [hsl] at d1 hln
  have HTT := Lib.hid htt
  have HSL := Lib.hid hsl
  have hpost : ∀ e w', PaceP base P w (.tuple #[]) (p.ask i) e w' → PaceP base P w (.tuple #[]) (p.ask i) e w' := fun _ _ h => h
  have HCASE : Hid (sl = 0 ∨ ∃ sm gs s2 : Nat, sl = sm + 1 ∧ av = some ⟨gs, 0, none⟩ ∧ gs < w.heap.size ∧ w.cell? ⟨gs, sm * 2, none⟩ = some (.int .i64 s2) ∧ s2 ≠ tt) := Lib.hid (by
    by_cases h0 : sl = 0
    · exact .inl h0
    · right
      have hlen : 0 < p.ns[i].sp.length := by rw [hsl]; omega
      obtain ⟨gs, cs, hv2, hgs, t0⟩ := HL.out hlen
      rw [hvo.out] at hv2
      simp only [Value.slice.injEq, true_and] at hv2
      refine ⟨sl - 1, gs, _, by omega, hv2.1, hgs, by rw [← hsl]; exact t0, ?_⟩
      rw [← htt]
      refine HNEW.out _ ?_
      rw [List.getLast?_eq_getElem?, List.getElem?_eq_getElem (by omega)])
  clear htt hsl HL hpost
  have HI := Lib.hid hi
  have HIX := Lib.hid hix
  obtain ⟨m, hm⟩ : ∃ m, p.ms.length = m := ⟨_, rfl⟩
  rw [hm] at c2
  have HMM := Lib.hid hm
  clear hm
  obtain ⟨i0, hi0, hz0, hz1, hz2⟩ := infoP85
  have HI0 := Lib.hid (And.intro hi0 (And.intro hz0 (And.intro hz1 hz2)))
  clear hi0 hz0 hz1 hz2
  go_enter Try.func27, Try.ntmps27
  go_upto_region 1 with (go_at_call 39; (refine (find_yes base P p mb mc nb nc xs i _ HH.out HI.out HN8.out).mono ?_); rintro en w1 ⟨rfl, rfl⟩)
  go_cut [37] (fun s37 wx => s37 = .bool false ∧ ∃ n, wx = w.drewN n)
  case first =>
    rcases HCASE.out with h0 | ⟨sm, gs, s2, h0, h1, h2, h3, h4⟩
    · subst h0
      go_quiet (fail)
      go_wp2_with fail
      go_meet
      exact ⟨rfl, _, rfl⟩
    · subst h0
      subst h1
      have hd : (0 : Int) < (sm : Int) + 1 := by omega
      have hd' : decide ((0 : Int) < (sm : Int) + 1) = true := decide_eq_true hd
      have hx1 : (0 : Int) ≤ (sm : Int) + 1 - 1 := by omega
      have hx2 : (sm : Int) + 1 ≤ 1000 := by omega
      have hx3 : ((s2 : Int) == tt) = false := by simp; omega
      have hx4 : ¬ (s2 : Int) = tt := by omega
      go_quiet (fail)
      go_wp2_with fail
      go_meet
      exact ⟨rfl, _, rfl⟩
  case rest =>
    obtain ⟨rfl, nq, rfl⟩ := hcut
    go_upto_region 2 with fail
    have HMS : Hid (intR.Own 3 w base (.slice (some ⟨mb, 0, none⟩) m mc) p.ms) := Lib.hid (by have := HH.out.ms; rw [HMM.out] at this; exact this)
    have HOW2 : Hid (w.ownsRow base 85 2 (.slice av sl cv) sl (twoR.row ys)) := Lib.hid (by have := HOWN.out; rw [HSL.out] at this; exact this)
    have HV : Hid (xs[i].v = .slice av sl cv) := Lib.hid (by have := hvo.out; rw [HSL.out] at this; exact this)
    obtain ⟨cn, hcn⟩ := HH.out.nbNe.2.2.2.2
    have HNB : Hid (some nb ≠ (Value.slice av sl cv).ownBlock) := fun e => by
      obtain ⟨cur, hh⟩ := own_heap HOW2.out e.symm
      exact heap_ne hh hcn (by decide) rfl
    have HNP : Hid (some P ≠ (Value.slice av sl cv).ownBlock) := fun e => by
      obtain ⟨cur, hh⟩ := own_heap HOW2.out e.symm
      have hP : w.heap[P]? = some (.cells _ 80 (0, 0)) := HH.out.blk
      exact heap_ne hh hP (by decide) rfl
    have HD := Lib.hid (And.intro d0 (And.intro d1 c2))
    clear hcn HOWN
    have hgw : ∀ g, (Value.slice av sl cv).ownBlock = some g → base ≤ g := fun g hg => (World.ownsRow.lt HOW2.out g hg).1
    have HGW := Lib.hid hgw
    clear hgw
    have f1' := f1
    have h63 : sl + 1 ≤ maxLen := by unfold maxLen; omega
    have h64 : (sl + 1) * 32 ≤ 140737488355328 := by omega
    have HSZ : Hid (∀ w1 : World, Below w.heap.size w w1 → base ≤ (w1.heap.size + 1)) := fun w1 hB => by have := hB.size; omega
    have hms1 : p.ms.length ≤ 40 := by have := HM.out; omega
    have hms0 : 0 < p.ms.length := by have := HM.out; omega
    have H63 := Lib.hid (And.intro h63 (And.intro h64 (And.intro hms1 hms0)))
    clear h63 h64 hms1 hms0
    have hPn := HH.out.nbNe.1
    have hnP : nb ≠ P := fun e => hPn e.symm
    go_region_law
      (first
        | (refine step_calls1 rfl 42 Try.func42 (by kernel_rfl) rfl rfl (.slice (some ⟨mb, 0, none⟩) m mc) rfl ?_; refine Calls.mono (cloneI_any base (.slice (some ⟨mb, 0, none⟩) m mc) p.ms _ H63.out.2.2.1 H63.out.2.2.2 ?_) ?_; (exact HMS.out.on ⟨rfl, rfl, rfl, Nat.le_refl _, fun _ _ => rfl⟩); rintro en w1 ⟨ga, gn, gc, rfl, hcl, hB1⟩; refine ⟨_, rfl, ?_⟩; have hB2 : Below w.heap.size w w1 := m_below_on (below_drN w _) hB1; have HB2 := Lib.hid hB2; have HCL : Hid (intR.Own 3 w1 w.heap.size (.slice ga gn gc) p.ms) := Lib.hid hcl; have q0 := (hB2.cell (p := ⟨nb, i * 2, none⟩) hnbw).trans HD.out.1; have q1 := (hB2.cell (p := ⟨nb, i * 2 + 1, none⟩) hnbw).trans HD.out.2.1; have q2 := (hB2.cell (p := ⟨P, 2, none⟩) hPw).trans HD.out.2.2; have r1 := (hB2.frozen (p := ⟨nb, i * 2 + 1, none⟩) hnbw).trans f1'; have hs1 := hB2.size; have l1 := Nat.lt_of_lt_of_le hnbw hs1; have l2 := Nat.lt_of_lt_of_le hPw hs1; have l3 : nb ≠ w1.heap.size := Nat.ne_of_lt l1; have l4 : P ≠ w1.heap.size := Nat.ne_of_lt l2; have HQ := Lib.hid (And.intro q0 (And.intro q1 (And.intro q2 r1))); clear hcl hB1 hB2)
        | (refine step_append_lies _ rfl (.tmp 42) (.tmp 53) 81 rfl base 85 i0 _ 2 32 Try.underlying81 HI0.out.1 HI0.out.2.1 HI0.out.2.2.1 HI0.out.2.2.2 rfl (Nat.le.step (Nat.le_refl 1)) (.slice av sl cv) sl (twoR.row ys) rfl (own_below HOW2.out (m_below_on HB2.out below_al1)) _ 1 1 [.int .i64 tt, .slice ga gn gc] rfl rfl (news2 ((Blk.new (w := w1) (B := w1.heap.size) (T := 85) (cs := #[.int .i64 tt, .slice ga gn gc]) rfl).cell 0) ((Blk.new (w := w1) (B := w1.heap.size) (T := 85) (cs := #[.int .i64 tt, .slice ga gn gc]) rfl).cell 1)) (ones2 rfl rfl) (Nat.le_refl 1) H63.out.1 H63.out.2.1 (Nat.le_trans hb (Nat.le_trans HB2.out.size (below_al1 (w := w1) (o := .cells #[.int .i64 tt, .slice ga gn gc] 85)).size)) _ rfl ?_; intro g cap w3 hown hgr hat hlt; have HW := Lib.hid hown; have HG := Lib.hid hgr; have HAT := Lib.hid hat; have t0 := cell_grow HQ.out.1 below_al1 hgr HNB.out; have t1 := cell_grow HQ.out.2.1 below_al1 hgr HNB.out; have t2 := cell_grow HQ.out.2.2.1 below_al1 hgr HNP.out; have tf := frozen_grow HQ.out.2.2.2 (Nat.lt_of_lt_of_le hnbw hs1) below_al1 hgr HNB.out; clear hown hgr hat hlt))
    all_goals
      go_wp2
      go_end0
      have e : sl = ys.length := by rw [← HSL.out]; exact HYL.out.symm
      subst e
      have hW := HW.out
      rw [← HTT.out] at hW
      have e2 : (xs[i]'hix).v = .slice av ys.length cv := HV.out
      refine ask_after (wa := w1.alloc (.cells #[.int .i64 tt, .slice ga gn gc] 85)) HH.out hb hi hix HNEW.out HYS.out HYL.out HYC.out (m_below_on HB2.out below_al1) (HCL.out.on below_al1) hW ?_ ?_
      · rw [e2]; exact HG.out
      · rw [e2]; exact HAT.out
set_option maxHeartbeats 1000000 in
theorem Ask_no (base P : Nat) (p : Pc) (i : Int) (w : World) (hp : PaceE w base P p) (hb : base ≤ w.heap.size) (hi : i < 1 ∨ (p.ns.length : Int) < i) :
    Calls Try.prog 27 #[.pointer (some ⟨P, 0, none⟩), .int .i64 i] w (PaceP base P w (.tuple #[]) p) := by
  have HP := Lib.hid hp
  obtain ⟨mb, mc, nb, nc, xs, h⟩ := hp
  have HH := Lib.hid h
  have HI := Lib.hid hi
  clear h hi
  go_enter Try.func27, Try.ntmps27
  go_wp2_with (go_at_call 39; (refine (find_no base P p mb mc nb nc xs i _ HH.out HI.out).mono ?_); rintro en w1 ⟨rfl, rfl⟩)
  go_quiet (fail)
  go_wp2
  go_end0
  exact .quiet hb HP.out ⟨rfl, rfl, rfl, Nat.le_refl _, fun _ _ => rfl⟩
end Go.Proofs.Ytlphlmpfjpombaa
