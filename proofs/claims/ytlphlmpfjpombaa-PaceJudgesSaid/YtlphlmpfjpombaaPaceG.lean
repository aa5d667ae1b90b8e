/-
  The walk of pace's Node.
-/
import Derived.Test.YtlphlmpfjpombaaPaceF
namespace Go.Proofs.Ytlphlmpfjpombaa
open Go.RowKit Go.Instr

theorem DelF.undrew {base g cap : Nat} {w w' : World} {l : List TV} {e : Ending} (h : DelF base g cap w.drew l e w') : DelF base g cap w l e w' :=
  ⟨h.1, h.2.1, ⟨h.2.2.1.os, h.2.2.1.tape, h.2.2.1.output, h.2.2.1.size, h.2.2.1.block⟩, h.2.2.2⟩
theorem below_undrew {w w' : World} (h : Below w.drew.heap.size w.drew w') : Below w.heap.size w w' := ⟨h.os, h.tape, h.output, h.size, h.block⟩
theorem ClosAt.dr {w : World} {bn bp nb o P t hold : Nat} (h : ClosAt w bn bp nb o P t hold) : ClosAt w.drew bn bp nb o P t hold := ⟨h.n, h.p, h.t, h.h⟩
set_option maxHeartbeats 1000000 in
theorem Node_no (base P : Nat) (p : Pc) (i : Int) (w : World) (hp : PaceE w base P p) (hb : base ≤ w.heap.size) (hi : i < 1 ∨ (p.ns.length : Int) < i) :
    Calls Try.prog 26 #[.pointer (some ⟨P, 0, none⟩), .int .i64 i] w (PaceP base P w (.tuple #[]) p) := by
  have HP := Lib.hid hp
  obtain ⟨mb, mc, nb, nc, xs, h⟩ := hp
  have HH := Lib.hid h
  have HI := Lib.hid hi
  clear h hi
  go_enter Try.func26, Try.ntmps26
  go_wp2_with (go_at_call 39; (refine (find_no base P p mb mc nb nc xs i _ (HH.out.on (by go_grown)) HI.out).mono ?_); rintro en w1 ⟨rfl, rfl⟩)
  go_end0
  exact .quiet hb HP.out (by go_grown)
/-- The world in which the node's clock has ticked, and the two variables that the closure holds are made. -/
def wyOf (w : World) (nb i tt P : Nat) : World := ((w.setCell ⟨nb, i * 2, none⟩ (.int .i64 ((tt : Int) + 1))).alloc (.cells #[.pointer (some ⟨P, 0, none⟩)] 52)).alloc (.cells #[.pointer (some ⟨nb, i * 2, none⟩)] 86)
theorem wy_facts {w : World} {nb i tt P hold : Nat} {v : Value} (hnb : nb < w.heap.size) (hP : P < w.heap.size) (hPn : P ≠ nb) (d0 : w.cell? ⟨nb, i * 2, none⟩ = some (.int .i64 tt)) (d1 : w.cell? ⟨nb, i * 2 + 1, none⟩ = some v) (c0 : w.cell? ⟨P, 0, none⟩ = some (.int .i64 hold)) (f1 : w.frozen? ⟨nb, i * 2 + 1, none⟩ = false) :
    Below w.heap.size (w.setCell ⟨nb, i * 2, none⟩ (.int .i64 ((tt : Int) + 1))) (wyOf w nb i tt P) ∧ ClosAt (wyOf w nb i tt P) (w.heap.size + 1) w.heap.size nb (i * 2) P (tt + 1) hold ∧ (∀ k, k < w.heap.size → k ≠ nb → (wyOf w nb i tt P).heap[k]? = w.heap[k]?) ∧ (wyOf w nb i tt P).cell? ⟨nb, i * 2 + 1, none⟩ = some v ∧ (wyOf w nb i tt P).frozen? ⟨nb, i * 2 + 1, none⟩ = false ∧ w.heap.size ≤ (wyOf w nb i tt P).heap.size := by
  have hB : Below w.heap.size (w.setCell ⟨nb, i * 2, none⟩ (.int .i64 ((tt : Int) + 1))) (wyOf w nb i tt P) := by
    unfold wyOf
    have h1 := (((Below.refl (w.setCell ⟨nb, i * 2, none⟩ (.int .i64 ((tt : Int) + 1))).heap.size (w.setCell ⟨nb, i * 2, none⟩ (.int .i64 ((tt : Int) + 1)))).alloc (Nat.le_refl _) (.cells #[.pointer (some ⟨P, 0, none⟩)] 52)).alloc (by simp) (.cells #[.pointer (some ⟨nb, i * 2, none⟩)] 86))
    exact h1.mono (by simp)
  have hk : ∀ k, k < w.heap.size → k ≠ nb → (wyOf w nb i tt P).heap[k]? = w.heap[k]? := fun k hk hkn => (hB.block k hk).trans (Below.heap_setCell w _ _ k hkn)
  refine ⟨hB, ⟨?_, ?_, ?_, ?_⟩, hk, ?_, ?_, by have := hB.size; simpa using this⟩
  · have h := Blk.new (w := (w.setCell ⟨nb, i * 2, none⟩ (.int .i64 ((tt : Int) + 1))).alloc (.cells #[.pointer (some ⟨P, 0, none⟩)] 52)) (B := w.heap.size + 1) (cs := #[.pointer (some ⟨nb, i * 2, none⟩)]) (T := 86) (by simp)
    exact h.cell 0
  · have h := (Blk.new (w := w.setCell ⟨nb, i * 2, none⟩ (.int .i64 ((tt : Int) + 1))) (B := w.heap.size) (cs := #[.pointer (some ⟨P, 0, none⟩)]) (T := 52) (by simp)).alloc (.cells #[.pointer (some ⟨nb, i * 2, none⟩)] 86)
    exact h.cell 0
  · refine (hB.cell (p := ⟨nb, i * 2, none⟩) hnb).trans ?_
    exact World.cell?_setCell_same _ _ _ d0
  · exact (World.cell?_of_block (a := ⟨P, 0, none⟩) (hk P hP hPn)).trans c0
  · refine (hB.cell (p := ⟨nb, i * 2 + 1, none⟩) hnb).trans ?_
    exact (World.cell?_setCell_other w _ _ _ (fun e => by simp only [Addr.mk.injEq] at e; omega)).trans d1
  · refine (hB.frozen (p := ⟨nb, i * 2 + 1, none⟩) hnb).trans ?_
    simpa using f1
set_option maxHeartbeats 4000000 in
theorem Node_yes (base P : Nat) (p : Pc) (i N : Nat) (w : World) (hp : PaceE w base P p) (hf : p.fine N) (hN : N ≤ 900) (hb : base ≤ w.heap.size) (hi : i < p.ns.length) :
    Calls Try.prog 26 #[.pointer (some ⟨P, 0, none⟩), .int .i64 (i + 1)] w (PaceP base P w (.tuple #[]) (p.node i)) := by
  obtain ⟨mb, mc, nb, nc, xs, h⟩ := hp
  have hix : i < xs.length := by rw [h.len]; exact hi
  obtain ⟨hnb, d0, d1, f0, f1⟩ := h.nodeCells hix
  obtain ⟨c0, c1, c2, c3, c4⟩ := h.five
  obtain ⟨e1, hsp⟩ := h.sp i hix hi
  obtain ⟨av, cv, hv⟩ := hsp.len
  obtain ⟨ys, hys, hyl, hyc⟩ := hsp
  have hnf := hf.nsN _ (List.getElem_mem hi)
  have hPw := h.blk.lt
  have hPn := h.nbNe.1
  have hhold := hf.hold.2
  have hyt : ∀ y ∈ ys, y.t ≤ p.ns[i].t + 1 := fun y hy => by
    obtain ⟨k, hk, rfl⟩ := List.mem_iff_getElem.1 hy
    have h2 : k < p.ns[i].sp.length := by rw [← hyl]; exact hk
    rw [(hyc k hk h2).1]
    have := (hnf.2.2 _ (List.getElem_mem h2)).1
    omega
  have hv2 := hv
  simp only [TV.v, Value.slice.injEq] at hv2
  obtain ⟨v1, v2, v3⟩ := hv2
  rw [v1, v2, v3] at d1
  rw [e1] at d0
  have HV := Lib.hid hv
  have HYS := Lib.hid hys
  have HYL := Lib.hid hyl
  have HYC := Lib.hid hyc
  have HYT := Lib.hid hyt
  have htN := hnf.1
  have hlN := hnf.2.1
  have HN8 := Lib.hid hf.ns.2
  have HB0 := Lib.hid hb
  clear hv v1 v2 v3 e1 hys hyl hyc hyt hnf hf c1 c2 c3 c4
  obtain ⟨tt, htt⟩ : ∃ tt, p.ns[i].t = tt := ⟨_, rfl⟩
  obtain ⟨sl, hsl⟩ : ∃ sl, p.ns[i].sp.length = sl := ⟨_, rfl⟩
  obtain ⟨hold, hho⟩ : ∃ hold, p.hold = hold := ⟨_, rfl⟩
  rw [htt] at d0 htN
  rw [hsl] at d1 hlN
  rw [hho] at c0 hhold
  have HTT := Lib.hid htt
  have HSL := Lib.hid hsl
  have HHO := Lib.hid hho
  have HH := Lib.hid h
  have HI := Lib.hid hi
  clear htt hsl hho h
  have n1 : nb ≠ w.heap.size := by omega
  have n2 : P ≠ w.heap.size := by omega
  go_enter Try.func26, Try.ntmps26
  go_upto_region 4 with (go_at_call 39; (refine (find_yes base P p mb mc nb nc xs i _ (HH.out.on (by go_grown)) HI.out HN8.out).mono ?_); rintro en w1 ⟨rfl, rfl⟩)
  have hnbo : base ≤ nb := (World.ownsRow.lt HH.out.ns nb rfl).1
  have hy0 : wyOf w nb i tt P = ((w.setCell ⟨nb, i * 2, none⟩ (.int .i64 ((tt : Int) + 1))).alloc (.cells #[.pointer (some ⟨P, 0, none⟩)] 52)).alloc (.cells #[.pointer (some ⟨nb, i * 2, none⟩)] 86) := rfl
  rw [← hy0]
  obtain ⟨hyB, hyC, hyO, hy1, hyf, hysz⟩ := wy_facts (hold := hold) (w := w) (nb := nb) (i := i) (tt := tt) (P := P) hnb hPw hPn d0 d1 c0 f1
  obtain ⟨wy, hwy⟩ : ∃ wy, wy = wyOf w nb i tt P := ⟨_, rfl⟩
  rw [← hwy] at hyB hyC hyO hy1 hyf hysz ⊢
  obtain ⟨bp, hbp⟩ : ∃ bp, bp = w.heap.size := ⟨_, rfl⟩
  obtain ⟨bn, hbn⟩ : ∃ bn, bn = bp + 1 := ⟨_, rfl⟩
  rw [← hbp, ← hbn] at hyC
  simp only [← hbp]
  simp only [← hbn]
  have HYB := Lib.hid hyB
  have HYC2 := Lib.hid hyC
  have HYO := Lib.hid hyO
  have q0 := hyC.n
  have HBP := Lib.hid hbp
  have HBN := Lib.hid hbn
  have e0 : sl = ys.length := by rw [← HSL.out]; exact HYL.out.symm
  subst e0
  clear hy0 hwy d0 d1 c0 f0 f1 n1 n2 hyB hyC hyO hbp hbn
  have HRUN : Hid ((av = none ∧ ys = [] ∧ cv = 0) ∨ ∃ g, av = some ⟨g, 0, none⟩ ∧ g < w.heap.size ∧ g ≠ nb ∧ g ≠ P ∧ twoR.Own 85 w base (.slice (some ⟨g, 0, none⟩) ys.length cv) ys) := Lib.hid (by
    have h1 := HYS.out
    have h2 : (xs[i]'hix).v = .slice av ys.length cv := by rw [HV.out, HSL.out]
    rw [h2] at h1
    rcases h1.2 with ⟨h, h0⟩ | ⟨g, cap, cur, he, _, hh, _⟩
    · simp only [Value.slice.injEq] at h
      exact .inl ⟨h.1, List.eq_nil_of_length_eq_zero h0, h.2.2⟩
    · simp only [Value.slice.injEq, true_and] at he
      refine .inr ⟨g, he.1, (Array.getElem?_eq_some_iff.1 hh).1, ?_, ?_, by rw [he.1] at h1; exact h1⟩
      · exact HH.out.nbNe.2.2.1 i hix g (by rw [h2, he.1]; rfl)
      · have hP : w.heap[P]? = some (.cells _ 80 (0, 0)) := HH.out.blk
        exact heap_ne hh hP (by decide))
  rcases HRUN.out with ⟨rfl, hys0, rfl⟩ | ⟨g, rfl, hgw, hgn, hgP, hgo⟩
  · clear HRUN
    have HY0 := Lib.hid hys0
    have h00 : ys.length = 0 := by rw [hys0]; rfl
    rw [h00] at hy1
    clear hys0 h00
    go_region_law ((refine step_calls2 rfl 40 Try.func40 (by kernel_rfl) rfl rfl (.slice none 0 0) (.func (.func 41) #[] #[.pointer (some ⟨bn, 0, none⟩), .pointer (some ⟨bp, 0, none⟩)]) rfl rfl ?_; refine Calls.mono (delF_nil bn bp nb (i * 2) P (tt + 1) hold _ HYC2.out.dr (Nat.le_trans (Nat.succ_le_succ htN) (Nat.le_trans (Nat.succ_le_succ hN) (by decide)))) ?_; rintro en wz ⟨rfl, hB1⟩; have hB2 := below_undrew hB1; have HB2 := Lib.hid hB2; refine ⟨_, rfl, ?_⟩; have q0 := (hB2.cell (p := ⟨bn, 0, none⟩) (World.block_lt_of_cell? _ _ q0)).trans q0; have y1 := (hB2.cell (p := ⟨nb, i * 2 + 1, none⟩) (World.block_lt_of_cell? _ _ hy1)).trans hy1; have yf := (hB2.frozen (p := ⟨nb, i * 2 + 1, none⟩) (World.block_lt_of_cell? _ _ hy1)).trans hyf; clear hB1 hB2))
    all_goals
      go_wp2
      go_end0
      have h3 : (p.ns[i]'hi).sp.length = ys.length := HYL.out.symm
      have hsp0 : (p.ns[i]'hi).sp = [] := List.eq_nil_of_length_eq_zero (by rw [h3, HY0.out]; rfl)
      exact node_none HH.out HB0.out hi hix hsp0 (by rw [HTT.out]; exact HYB.out) HB2.out
  · clear HRUN
    have HGO := Lib.hid (hgo.block (w1 := wy) (fun k hk => by
      simp only [Value.ownBlock, Option.some.injEq] at hk
      subst hk
      exact HYO.out g hgw hgn))
    clear hgo
    have m1 : bn ≠ g := by have := HBN.out; have := HBP.out; omega
    have m2 : bp ≠ g := by have := HBP.out; omega
    have hbw' : base ≤ wy.heap.size := Nat.le_trans hb hysz
    have HL1 : Hid (ys.length ≤ 1000) := Lib.hid (by omega)
    have HT1 : Hid (tt + 1 ≤ 1000000) := Lib.hid (by omega)
    have HYT2 : Hid (∀ y ∈ ys, y.t ≤ tt + 1) := Lib.hid (by have := HYT.out; rw [HTT.out] at this; exact this)
    have hbnw : bn < wy.heap.size := World.block_lt_of_cell? _ _ q0
    have hnbw : nb < wy.heap.size := World.block_lt_of_cell? _ _ hy1
    have hgn' : nb ≠ g := fun e => hgn e.symm
    go_region_law ((refine step_calls2 rfl 40 Try.func40 (by kernel_rfl) rfl rfl (.slice (some ⟨g, 0, none⟩) ys.length cv) (.func (.func 41) #[] #[.pointer (some ⟨bn, 0, none⟩), .pointer (some ⟨bp, 0, none⟩)]) rfl rfl ?_; refine Calls.mono (delF_any base g cv ys bn bp nb (i * 2) P (tt + 1) hold _ HL1.out HGO.out HYC2.out.dr HT1.out HYT2.out hbw' m1 m2 hgn' (fun e => hgP e.symm)) ?_; intro en wz hD; have hD2 := DelF.undrew hD; have HD := Lib.hid hD2; obtain ⟨rfl, _, hB2, hk2⟩ := hD2; refine ⟨_, rfl, ?_⟩; have q0 := (World.cell?_of_block (a := ⟨bn, 0, none⟩) (hk2 bn hbnw m1)).trans q0; have y1 := (World.cell?_of_block (a := ⟨nb, i * 2 + 1, none⟩) (hk2 nb hnbw hgn')).trans hy1; have yf := (World.frozen?_of_block (a := ⟨nb, i * 2 + 1, none⟩) (hk2 nb hnbw hgn')).trans hyf; clear hD hB2 hk2))
    all_goals
      go_wp2
      go_end0
      have h2 : (xs[i]'hix).v = .slice (some ⟨g, 0, none⟩) ys.length cv := by rw [HV.out, HSL.out]
      have := node_after (g := g) (cap := cv) HH.out HB0.out hi hix (by rw [h2]; rfl) HYL.out HYC.out (by rw [HTT.out]; exact HYB.out) (by rw [HTT.out, HHO.out]; exact HD.out)
      rw [HTT.out, HHO.out] at this
      exact this
end Go.Proofs.Ytlphlmpfjpombaa
