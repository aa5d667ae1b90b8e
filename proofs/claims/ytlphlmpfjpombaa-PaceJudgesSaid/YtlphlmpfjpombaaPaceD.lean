/-
  The walks of pace's Stop and Master.
-/
import Derived.Test.YtlphlmpfjpombaaPaceC
namespace Go.Proofs.Ytlphlmpfjpombaa
open Go.RowKit Go.Instr

theorem below_al (w : World) (o : Obj) (n : Nat) : Below w.heap.size w ((w.alloc o).drewN n) := m_below_on (w1 := w.alloc o) (by go_grown) ⟨rfl, rfl, rfl, Nat.le_refl _, fun _ _ => rfl⟩
/-- Bounds of a pace: how many masters and nodes, how far the clocks are, how many spans there are. -/
structure Pc.fine (p : Pc) (N : Nat) : Prop where
  hold : 1 ≤ p.hold ∧ p.hold ≤ 1000
  wait : 1 ≤ p.wait ∧ p.wait ≤ 1000
  ms : 1 ≤ p.ms.length ∧ p.ms.length ≤ 5
  ns : 1 ≤ p.ns.length ∧ p.ns.length ≤ 8
  msN : ∀ k ∈ p.ms, k ≤ N
  nsN : ∀ x ∈ p.ns, x.t ≤ N ∧ x.sp.length ≤ N ∧ ∀ s ∈ x.sp, s.s ≤ x.t ∧ s.ms.length = p.ms.length ∧ ∀ k ∈ s.ms, k ≤ N
/-- The node's spans in the pace's memory become others. -/
theorem PaceAt.setN {w w' : World} {base P i : Nat} {p : Pc} {mb mc nb nc : Nat} {xs : List TV} (h : PaceAt w base P p mb mc nb nc xs) (x : TV) (nd : Nd) (ht : x.t = nd.t)
    (hP : w'.heap[P]? = w.heap[P]?) (hM : w'.heap[mb]? = w.heap[mb]?) (hN : twoR.Own 83 w' base (.slice (some ⟨nb, 0, none⟩) p.ns.length nc) (xs.set i x))
    (hS : SpansAt w' base mb x.v nd.sp) (hO : ∀ j (hj : j < xs.length), j ≠ i → ∀ g, xs[j].v.ownBlock = some g → w'.heap[g]? = w.heap[g]? ∧ x.v.ownBlock ≠ some g) (h3 : ∀ k C fz, w.heap[k]? = some (.cells C 3 fz) → k ≠ mb → w'.heap[k]? = w.heap[k]?) :
    PaceAt w' base P { p with ns := p.ns.set i nd } mb mc nb nc (xs.set i x) := by
  have hl : xs.length = p.ns.length := h.len
  refine ⟨by simp only [List.length_set]; exact hP.trans h.blk, h.ms.block fun g hg => ?_, by simp only [List.length_set]; exact hN, by simp only [List.length_set]; exact hl, fun j hj hj' => ?_, fun a b ha hb g hab hg => ?_⟩
  · simp only [Value.ownBlock, Option.some.injEq] at hg
    subst hg
    exact hM
  · simp only [List.length_set] at hj hj'
    simp only [List.getElem_set]
    by_cases hij : i = j
    · rw [if_pos hij, if_pos hij]
      exact ⟨ht, hS⟩
    · rw [if_neg hij, if_neg hij]
      obtain ⟨e1, e2⟩ := h.sp j hj hj'
      exact ⟨e1, e2.keep (fun g hg => (hO j hj (Ne.symm hij) g hg).1) h3⟩
  · simp only [List.length_set] at ha hb
    simp only [List.getElem_set] at hg ⊢
    by_cases hia : i = a
    · rw [if_pos hia] at hg
      have hib : ¬ i = b := fun e => hab (hia.symm.trans e)
      rw [if_neg hib]
      intro hb2
      exact (hO b hb (fun e => hib e.symm) g hb2).2 hg
    · rw [if_neg hia] at hg
      by_cases hib : i = b
      · rw [if_pos hib]
        exact (hO a ha (fun e => hia e.symm) g hg).2
      · rw [if_neg hib]
        exact h.apart a b ha hb g hab hg
theorem PaceAt.nodeCells {w : World} {base P i : Nat} {p : Pc} {mb mc nb nc : Nat} {xs : List TV} (h : PaceAt w base P p mb mc nb nc xs) (hi : i < xs.length) : nb < w.heap.size ∧ w.cell? ⟨nb, i * 2, none⟩ = some (.int .i64 xs[i].t) ∧ w.cell? ⟨nb, i * 2 + 1, none⟩ = some (.slice xs[i].a xs[i].n xs[i].c) ∧ w.frozen? ⟨nb, i * 2, none⟩ = false ∧ w.frozen? ⟨nb, i * 2 + 1, none⟩ = false := by
  obtain ⟨g', cap', he, _, hg, hnc, _, hf, hcc⟩ := h.ns.form (by omega)
  simp only [Value.slice.injEq, Option.some.injEq, Addr.mk.injEq, and_true] at he
  obtain ⟨rfl, _, rfl⟩ := he
  obtain ⟨c0, c1⟩ := cells2 (o := i * 2) (fun j u hu => hcc i hi j u hu)
  exact ⟨hg, c0, c1, (hf (i * 2) (show _ < nc * 2 by omega)).2, (hf (i * 2 + 1) (show _ < nc * 2 by omega)).2⟩
/-- The blocks of a pace are apart. -/
theorem PaceAt.nbNe {w : World} {base P : Nat} {p : Pc} {mb mc nb nc : Nat} {xs : List TV} (h : PaceAt w base P p mb mc nb nc xs) : P ≠ nb ∧ mb ≠ nb ∧ (∀ j (hj : j < xs.length) g, xs[j].v.ownBlock = some g → g ≠ nb) ∧ (∀ k C fz, w.heap[k]? = some (.cells C 3 fz) → k ≠ nb) ∧ ∃ cur, w.heap[nb]? = some (.cells cur 83 (0, 0)) := by
  obtain ⟨cn, hN⟩ := own_heap h.ns rfl
  obtain ⟨cm, hM⟩ := own_heap h.ms rfl
  have hP : w.heap[P]? = some (.cells _ 80 (0, 0)) := h.blk
  refine ⟨heap_ne hP hN (by decide), heap_ne hM hN (by decide), fun j hj g hg => ?_, fun k C fz hk => heap_ne hk hN (by decide), cn, hN⟩
  obtain ⟨_, ys, ho, _⟩ := h.sp j hj (by rw [← h.len]; exact hj)
  obtain ⟨cur, hh⟩ := own_heap ho hg
  exact heap_ne hh hN (by decide)
theorem set_modify {α : Type} (l : List α) (i : Nat) (h : i < l.length) (f : α → α) : l.modify i f = l.set i (f l[i]) := by
  apply List.ext_getElem?
  intro j
  rw [List.getElem?_modify, List.getElem?_set]
  by_cases hj : i = j
  · subst hj
    rw [if_pos rfl, if_pos h, List.getElem?_eq_getElem h]
    simp
  · rw [if_neg hj]
    simp [hj]
theorem PaceP.quiet {base P : Nat} {w w' : World} {v : Value} {p : Pc} (hb : base ≤ w.heap.size) (h : PaceE w base P p) (hB : Below w.heap.size w w') : PaceP base P w v p (.returned v) w' :=
  ⟨rfl, h.on hB, hB.mono hb, .of_below hB⟩
set_option maxHeartbeats 1000000 in
theorem Stop_yes (base P : Nat) (p : Pc) (i N : Nat) (w : World) (hp : PaceE w base P p) (hf : p.fine N) (hi : i < p.ns.length) :
    Calls Try.prog 28 #[.pointer (some ⟨P, 0, none⟩), .int .i64 (i + 1)] w (PaceP base P w (.tuple #[]) (p.stop i)) := by
  obtain ⟨mb, mc, nb, nc, xs, h⟩ := hp
  have hix : i < xs.length := by rw [h.len]; exact hi
  obtain ⟨hnb, c0, c1, f0, f1⟩ := h.nodeCells hix
  have HH := Lib.hid h
  have HI := Lib.hid hi
  have HIX := Lib.hid hix
  have HF := Lib.hid hf.ns.2
  have hbase : base ≤ nb := (World.ownsRow.lt h.ns nb rfl).1
  clear h hi hf
  generalize hxa : xs[i].a = xa at c1
  generalize hxn : xs[i].n = xn at c1
  generalize hxc : xs[i].c = xc at c1
  clear hxa hxn hxc
  go_enter Try.func28, Try.ntmps28
  go_wp2_with (go_at_call 39; (refine (find_yes base P p mb mc nb nc xs i _ HH.out HI.out HF.out).mono ?_); rintro en w1 ⟨rfl, rfl⟩)
  go_end0
  obtain ⟨n1, n2, n3, n4, cur, hcur⟩ := HH.out.nbNe
  have e : ∀ k, k ≠ nb → (w.setCell ⟨nb, i * 2 + 1, none⟩ (.slice none 0 0)).heap[k]? = w.heap[k]? := fun k hk => Below.heap_setCell w _ _ k hk
  have hput := HH.out.ns.put i 1 HIX.out (by decide) ⟨xs[i].t, none, 0, 0⟩ (.slice none 0 0) rfl
  have hset := HH.out.setN (i := i) ⟨xs[i].t, none, 0, 0⟩ ⟨p.ns[i].t, []⟩ (HH.out.sp i HIX.out HI.out).1 (e P n1) (e mb n2) hput SpansAt.nil (fun j hj _ g hg => ⟨e g (n3 j hj g hg), by intro h; cases h⟩) (fun k C fz hk _ => e k (n4 k C fz hk))
  refine ⟨rfl, ⟨mb, mc, nb, nc, xs.set i ⟨xs[i].t, none, 0, 0⟩, ?_⟩, (Below.refl _ w).setCell (p := ⟨nb, i * 2 + 1, none⟩) hbase _, (KeptP.refl w).set hcur (.inr (.inl rfl))⟩
  unfold Pc.stop
  rw [set_modify _ _ HI.out]
  exact hset
set_option maxHeartbeats 1000000 in
theorem Stop_no (base P : Nat) (p : Pc) (i : Int) (w : World) (hp : PaceE w base P p) (hb : base ≤ w.heap.size) (hi : i < 1 ∨ (p.ns.length : Int) < i) :
    Calls Try.prog 28 #[.pointer (some ⟨P, 0, none⟩), .int .i64 i] w (PaceP base P w (.tuple #[]) p) := by
  obtain ⟨mb, mc, nb, nc, xs, h⟩ := hp
  have HH := Lib.hid h
  have HI := Lib.hid hi
  clear h hi
  go_enter Try.func28, Try.ntmps28
  go_wp2_with (go_at_call 39; (refine (find_no base P p mb mc nb nc xs i _ HH.out HI.out).mono ?_); rintro en w1 ⟨rfl, rfl⟩)
  go_end0
  exact .quiet hb ⟨mb, mc, nb, nc, xs, HH.out⟩ (Below.refl _ _)
theorem SpansAt.len {w : World} {base mb : Nat} {v : Value} {l : List Sp} (h : SpansAt w base mb v l) : ∃ a c, v = .slice a l.length c := by
  obtain ⟨ys, ho, hl, _⟩ := h
  obtain ⟨a, c, e⟩ := ho.at.len
  exact ⟨a, c, by rw [e, hl]⟩
/-- The first of a node's spans. -/
theorem SpansAt.head {w : World} {base mb : Nat} {v : Value} {s : Sp} {l : List Sp} (h : SpansAt w base mb v (s :: l)) (i : Nat) (hi : i < s.ms.length) : ∃ gs cs gm cm, v = .slice (some ⟨gs, 0, none⟩) (l.length + 1) cs ∧ gs < w.heap.size ∧ gm < w.heap.size ∧ w.cell? ⟨gs, 0, none⟩ = some (.int .i64 s.s) ∧ w.cell? ⟨gs, 1, none⟩ = some (.slice (some ⟨gm, 0, none⟩) s.ms.length cm) ∧ w.cell? ⟨gm, i, none⟩ = some (.int .i64 s.ms[i]) := by
  obtain ⟨ys, ho, hl, hc⟩ := h
  simp only [List.length_cons] at hl
  obtain ⟨g, cap, he, _, hg, _, _, _, hcc⟩ := ho.form (by omega)
  obtain ⟨c0, c1⟩ := cells2 (o := 0) (fun j u hu => by have := hcc 0 (by omega) j u hu; rw [Nat.zero_mul] at this; exact this)
  obtain ⟨e1, e2, _⟩ := hc 0 (by omega) (by simp)
  simp only [List.getElem_cons_zero] at e1 e2
  obtain ⟨gm, cm, he2, _, hgm, _, _, _, hcc2⟩ := e2.form (by omega)
  have c2 := hcc2 i hi 0 _ rfl
  unfold TV.v at he2
  rw [e1] at c0
  rw [he2] at c1
  refine ⟨g, cap, gm, cm, by rw [he, hl], hg, hgm, c0, c1, ?_⟩
  have e : i * intR.c + 0 = i := by show i * 1 + 0 = i; omega
  rw [e] at c2
  exact c2
/-- The loop over the nodes when a master ticks. -/
def MasterLoop (w : World) (base P : Nat) (p : Pc) (i : Nat) (mb mc nb nc : Nat) (xs : List TV) (v : Value) (wr : World) : Prop :=
  ∃ k : Nat, k ≤ p.ns.length ∧ v = .int .i64 k ∧ PaceAt wr base P { p with ms := p.ms.set i (p.ms.getD i 0 + 1), bad := p.bad || (p.ns.take k).any (Nd.late i (p.ms.getD i 0 + 1) p.wait) } mb mc nb nc xs ∧ Below base w wr ∧ KeptP w wr
theorem any_take_succ {α : Type} (q : α → Bool) (l : List α) (k : Nat) (hk : k < l.length) : (l.take (k + 1)).any q = ((l.take k).any q || q l[k]) := by
  rw [List.take_succ_eq_append_getElem hk, List.any_append]
  simp
set_option maxHeartbeats 4000000 in
theorem Master_yes (base P : Nat) (p : Pc) (i N : Nat) (w : World) (hp : PaceE w base P p) (hf : p.fine N) (hN : N ≤ 1000) (hbP : base ≤ P) (hi : i < p.ms.length) :
    Calls Try.prog 25 #[.pointer (some ⟨P, 0, none⟩), .int .i64 (i + 1)] w (PaceP base P w (.tuple #[]) (p.master i)) := by
  obtain ⟨mb, mc, nb, nc, xs, h⟩ := hp
  have HH := Lib.hid h
  have HF := Lib.hid hf
  obtain ⟨c0, c1, c2, c3, c4⟩ := h.five
  obtain ⟨g', cap', he, hmbb, hmb, hmc, _, hfm, hcm⟩ := h.ms.form (by omega)
  simp only [Value.slice.injEq, Option.some.injEq, Addr.mk.injEq, and_true] at he
  obtain ⟨rfl, hdum, rfl⟩ := he
  clear hdum
  have m0 := hcm i hi 0 _ rfl
  have ei : i * intR.c + 0 = i := by show i * 1 + 0 = i; omega
  rw [ei] at m0
  have mf := (hfm i (show i < mc * 1 by omega)).2
  have hmi : p.ms.getD i 0 = p.ms[i] := by simp [List.getD_eq_getElem?_getD, List.getElem?_eq_getElem hi]
  have hmN : p.ms[i] ≤ N := hf.msN _ (List.getElem_mem hi)
  obtain ⟨q, hq⟩ : ∃ q, p.ms[i] = q := ⟨_, rfl⟩
  rw [hq] at m0 hmi hmN
  have HMI := Lib.hid hmi
  have HI := Lib.hid hi
  obtain ⟨m, hm⟩ : ∃ m, p.ms.length = m := ⟨_, rfl⟩
  obtain ⟨n, hn⟩ : ∃ n, p.ns.length = n := ⟨_, rfl⟩
  have hm5 := hf.ms.2
  have hn8 := hf.ns.2
  rw [hm] at c2 hi hm5 hmc
  rw [hn] at c3 hn8
  have HM := Lib.hid hm
  have HN := Lib.hid hn
  have hset := h.setM HI.out (q + 1)
  have HS := Lib.hid hset
  obtain ⟨cm, hcur⟩ := own_heap h.ms rfl
  have HK := Lib.hid ((KeptP.refl w).set (j := i) (v := .int .i64 (q + 1 : Nat)) hcur (.inr (.inr (.inr rfl))))
  clear hfm hcm h hf hq hm hn hmi hset hcur c0 c1 c4
  have hx1 : (0 : Int) ≤ i + 1 := by omega
  have hx2 : (i : Int) + 1 ≤ m := by omega
  have hx3 : (i : Int) < m := by omega
  go_enter Try.func25, Try.ntmps25
  go_upto_region 2 with (go_at_call 38; (refine (within_is _ _ true _ (by simp; omega)).mono ?_); rintro en w1 ⟨rfl, rfl⟩)
  have HST : Hid (MasterLoop w base P p i mb mc nb nc xs (.int .i64 0) (w.setCell ⟨mb, i, none⟩ (.int .i64 (q + 1 : Nat)))) := Lib.hid ⟨0, Nat.zero_le _, rfl, by rw [HMI.out]; simpa using HS.out, (Below.refl _ w).setCell (p := ⟨mb, i, none⟩) hmbb _, HK.out⟩
  have c3' := HS.out.five.2.2.2.1
  simp only [HN.out] at c3'
  clear HS HK c2 c3 m0 mf
  have ew : (w.setCell ⟨mb, i, none⟩ (.int .i64 (q + 1 : Nat))) = (w.setCell ⟨mb, i, none⟩ (.int .i64 ((q : Int) + 1))) := by simp
  rw [ew] at HST c3'
  generalize w.setCell ⟨mb, i, none⟩ (.int .i64 ((q : Int) + 1)) = w1 at *
  clear ew
  go_wp2_with fail
  go_loopg [33] n (fun g v wr => MasterLoop w base P p i mb mc nb nc xs v wr ∧ intOf v + g = n)
  case atStart => exact ⟨HST.out, by simp [intOf]⟩
  case round =>
    obtain ⟨⟨k, hk, rfl, hpa, hBw, hKw⟩, hg⟩ := hrel
    clear HST
    simp [intOf] at hg
    rw [HN.out] at hk
    have HPA := Lib.hid hpa
    have HBW := Lib.hid hBw
    have HKW := Lib.hid hKw
    clear hpa hBw hKw c3'
    cases gk with
    | zero =>
      obtain rfl : k = n := by omega
      clear hg
      go_wp2
      go_end0
      refine ⟨rfl, ⟨mb, mc, nb, nc, xs, ?_⟩, HBW.out, HKW.out⟩
      have := HPA.out
      rw [← HN.out, List.take_length] at this
      exact this
    | succ g =>
      have hkn : k < n := by omega
      have hkl : k < p.ns.length := by rw [HN.out]; exact hkn
      have hkx : k < xs.length := by rw [HPA.out.len]; exact hkl
      obtain ⟨hnb, d0, d1, _, _⟩ := HPA.out.nodeCells hkx
      obtain ⟨c0, c1, c2, c3, c4⟩ := HPA.out.five
      obtain ⟨e1, hsp⟩ := HPA.out.sp k hkx hkl
      have hPw := HPA.out.blk.lt
      have f4 := HPA.out.blk.frozen 4
      have hmw : mb < wr.heap.size := (World.ownsRow.lt HPA.out.ms mb rfl).2
      obtain ⟨g', cap', he, _, _, _, _, _, hcm⟩ := HPA.out.ms.form (by simp only [List.length_set, HM.out]; omega)
      simp only [Value.slice.injEq, Option.some.injEq, Addr.mk.injEq, and_true] at he
      obtain ⟨rfl, hdum, rfl⟩ := he
      clear hdum
      have m0 : wr.cell? ⟨mb, i, none⟩ = some (.int .i64 ((q : Int) + 1)) := by
        have h := hcm i (by simp only [List.length_set]; exact HI.out) 0 _ rfl
        have ei : i * intR.c + 0 = i := by show i * 1 + 0 = i; omega
        rw [ei] at h
        simp only [List.getElem_set_self, HMI.out] at h
        simpa using h
      clear hcm
      simp only [List.length_set, HM.out] at c2
      simp only [HN.out] at c3
      simp only at c1 c4 e1
      have hnf := HF.out.nsN _ (List.getElem_mem hkl)
      have hat := any_take_succ (Nd.late i (p.ms.getD i 0 + 1) p.wait) p.ns k hkl
      obtain ⟨nd, hnd⟩ : ∃ nd, p.ns[k] = nd := ⟨_, rfl⟩
      simp only [hnd] at hsp
      rw [hnd] at e1 hnf hat
      obtain ⟨x, hx⟩ : ∃ x, xs[k] = x := ⟨_, rfl⟩
      rw [hx] at d0 d1 e1 hsp
      rw [HMI.out] at hat
      obtain ⟨lt, hlt⟩ : ∃ lt, Nd.late i (q + 1) p.wait nd = lt := ⟨_, rfl⟩
      rw [hlt] at hat
      have HAT := Lib.hid hat
      clear hx hnd hat e1
      have hk8 : k < 8 := by omega
      have hwait := HF.out.wait
      obtain ⟨wt, hwt⟩ : ∃ wt, p.wait = wt := ⟨_, rfl⟩
      rw [hwt] at hlt c1 hwait
      have HWT := Lib.hid hwt
      clear hwt
      obtain ⟨xt, xa, xn, xc⟩ := x
      obtain ⟨nt, nsp⟩ := nd
      simp only at d0 d1 hnf
      have HNEXT : ∀ wx, Below wr.heap.size wr wx → lt = false → Hid (MasterLoop w base P p i mb mc nb nc xs (.int .i64 ((k : Int) + 1)) wx ∧ (k : Int) + 1 + g = n) := fun wx hwx hl => Lib.hid (by
        refine ⟨⟨k + 1, by rw [HN.out]; omega, by go_num, ?_, HBW.out.trans (hwx.mono (by have := HBW.out.size; have := HPA.out.ms; have h1 := (World.ownsRow.lt HPA.out.ms mb rfl).1; omega)), HKW.out.trans (.of_below hwx)⟩, by omega⟩
        have h2 := HPA.out.on hwx
        rw [HMI.out, HAT.out, hl, Bool.or_false]
        rw [HMI.out] at h2
        exact h2)
      cases nsp with
      | nil =>
        obtain ⟨a', c', he⟩ := hsp.len
        simp only [TV.v, Value.slice.injEq, List.length_nil] at he
        obtain ⟨rfl, rfl, rfl⟩ := he
        have hlf : lt = false := hlt.symm
        have HNX := fun wx h => HNEXT wx h hlf
        clear HNEXT hlt hsp hlf hnf
        go_wp2_with fail
        go_quiet (fail)
        go_wp2
        go_roundg g
        case measure => omega
        case rel => exact (HNX _ (below_al wr _ _)).out
      | cons s0 rest =>
        have hs0 := hnf.2.2 s0 (by simp)
        have him : i < s0.ms.length := by rw [hs0.2.1]; exact HI.out
        obtain ⟨gs, cs, gm, cm', hv, hgs, hgm, t0, t1, t2⟩ := hsp.head i him
        simp only [TV.v, Value.slice.injEq] at hv
        obtain ⟨rfl, rfl, rfl⟩ := hv
        have hlate : Nd.late i (q + 1) wt ⟨nt, s0 :: rest⟩ = decide (wt + s0.ms.getD i 0 ≤ q + 1) := rfl
        have hgd : s0.ms.getD i 0 = s0.ms[i] := by simp [List.getD_eq_getElem?_getD, List.getElem?_eq_getElem him]
        rw [hlate, hgd] at hlt
        have hsN : s0.ms[i] ≤ N := hs0.2.2 _ (List.getElem_mem him)
        generalize s0.ms[i] = s1 at t2 hlt hsN
        have hsl : s0.ms.length = m := by rw [hs0.2.1, HM.out]
        rw [hsl] at t1
        clear hlate hgd hsp him hs0 hnf hsl
        generalize s0.s = s2 at t0
        generalize rest.length = rl at d1
        have him : (i : Int) < m := by omega
        have hy1 : (q : Int) + 1 - s1 ≤ 2000 := by omega
        have hy2 : -2000 ≤ (q : Int) + 1 - s1 := by omega
        cases lt with
        | false =>
          have hd : decide ((wt : Int) ≤ (q : Int) + 1 - s1) = false := by
            have := of_decide_eq_false hlt
            simp; omega
          have HNX := fun wx h => HNEXT wx h rfl
          clear HNEXT hlt
          go_wp2_with fail
          go_quiet (fail)
          go_wp2
          go_roundg g
          case measure => omega
          case rel => exact (HNX _ (below_al wr _ _)).out
        | true =>
          have hd : decide ((wt : Int) ≤ (q : Int) + 1 - s1) = true := by
            have := of_decide_eq_true hlt
            simp; omega
          have hd' : (wt : Int) ≤ (q : Int) + 1 - s1 := by
            have := of_decide_eq_true hlt
            omega
          clear HNEXT hlt
          go_wp2_with fail
          go_quiet (fail)
          go_wp2
          go_roundg g
          case measure => omega
          case rel =>
            have hbl := below_al wr (.cells #[.int .i64 xt, .slice (some ⟨gs, 0, none⟩) (rl + 1) xc] 83) nq
            have h2 := HPA.out.on hbl
            have hbw : base ≤ wr.heap.size := by have := (World.ownsRow.lt HPA.out.ms mb rfl).1; omega
            refine ⟨⟨k + 1, by rw [HN.out]; omega, by go_num, ?_, (HBW.out.trans (hbl.mono hbw)).setCell (p := ⟨P, 4, none⟩) hbP _, ?_⟩, by simp [intOf]; omega⟩
            · rw [HMI.out, HAT.out, Bool.or_true, Bool.or_true, HWT.out]
              rw [HMI.out, HWT.out] at h2
              exact h2.setP (p' := { hold := p.hold, wait := wt, ms := p.ms.set i (q + 1), ns := p.ns, bad := true }) (h2.blk.set 4 _ _ rfl) rfl rfl
            · exact (HKW.out.trans (.of_below hbl)).set h2.blk (.inl rfl)
end Go.Proofs.Ytlphlmpfjpombaa
