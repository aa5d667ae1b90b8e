/-
  The reference's Apply: kind 1, accepted.
-/
import Derived.Test.YtkgahhfemlebmaaRefT
import Derived.Test.YtkgahhfemlebmaaRefS
namespace Go.Proofs.Ytkgahhfemlebmaa
open Go.RowKit Go.Instr

theorem cell_dr9 {w : World} {a : Addr} {v : Value} (h : w.cell? a = some v) : w.drew.cell? a = some v := h
theorem cell_al9 {w : World} {a : Addr} {v : Value} (h : w.cell? a = some v) (o : Obj) : (w.alloc o).cell? a = some v :=
  ((Below.refl w.heap.size w).alloc (Nat.le_refl _) o).cell (World.block_lt_of_cell? _ _ h) |>.trans h
theorem cell_st9 {w : World} {X D j k : Nat} {u v : Value} (hne : X ≠ D) (h : w.cell? ⟨X, j, none⟩ = some v) : (w.setCell ⟨D, k, none⟩ u).cell? ⟨X, j, none⟩ = some v := by
  rw [World.cell?_setCell_other _ _ _ _ (by intro h2; cases h2; exact hne rfl)]; exact h
set_option maxHeartbeats 4000000 in
set_option maxRecDepth 100000 in
theorem refApply_1y (e : Nat) (s : Value) (lv : Lv) (l : List Mem) (n cl ce : Nat) (r : Int) (th la : Bool) (w : World) (hl : l.length ≤ 40) (hs : MemsAt w s l) (hr : idxOf (isNode n) l = r) (hla : ((e : Int) == 4294967295) = la) (hth : (r = -1 ∧ th = false) ∨ ∃ (i : Nat), r = i ∧ ∃ hi : i < l.length, th = decide ((l[i]'hi).l = cl)) (n' : Nat) (hla0 : la = false) (hnn : n = n' + 1) (hn8 : n' < 8) (h1 : r < 0) (h2 : l.length < 8) (h5 : 1 ≤ cl) (h6 : cl ≤ 200) (hlo : lv.get n' < cl) (hee : e < 4294967295) (hpos : 0 < l.length) :
    Calls Try.prog 10 #[.agg (vC e s lv), .agg #[.int .u8 1, .int .u8 n, .int .u8 cl, .int .u32 ce]] w (AppP w (⟨e + 1, lv.set n' cl, l ++ [⟨n' + 1, cl, false⟩]⟩, true)) := by
  have H_hla0 := Lib.hid hla0
  have H_hnn := Lib.hid hnn
  have H_hn8 := Lib.hid hn8
  have H_h1 := Lib.hid h1
  have H_h2 := Lib.hid h2
  have H_h5 := Lib.hid h5
  have H_h6 := Lib.hid h6
  have H_hlo := Lib.hid hlo
  have H_hee := Lib.hid hee
  have H_hpos := Lib.hid hpos
  clear hla0 hnn hn8 h1 h2 h5 h6 hlo hee hpos
  have HS := Lib.hid hs
  have HL := Lib.hid hl
  have HR := Lib.hid hr
  have HTH := Lib.hid hth
  clear hs hl hr hth
  unfold vC
  go_enter Try.func10, Try.ntmps10
  go_upto_region 2 with (go_at_call 22; (refine (refAt_is e s lv l n r _ HL.out (HS.out.on (by go_grown)) HR.out).mono ?_); rintro en w1 ⟨rfl, hB⟩; have HB1 := Lib.hid hB; clear hB)
  have HA : Hid (RefAt w w.heap.size (w.heap.size + 1) (w.heap.size + 1 + 1) e s lv l 1 n cl ce w1) := Lib.hid ⟨(((Blk.new rfl).alloc _).alloc _).on HB1.out, ((Blk.new (by simp)).alloc _).on HB1.out, (Blk.new (by simp)).on HB1.out, (((HS.out.al _).al _).al _).on HB1.out, m_below_on (by go_grown) HB1.out, by omega, by omega⟩
  clear HB1 HS
  obtain ⟨A, hA⟩ : ∃ A, A = w.heap.size := ⟨_, rfl⟩
  obtain ⟨C, hC⟩ : ∃ C, C = A + 1 := ⟨_, rfl⟩
  obtain ⟨D, hD⟩ : ∃ D, D = A + 1 + 1 := ⟨_, rfl⟩
  rw [← hA, ← hD, ← hC] at HA
  simp only [← hA]
  simp only [← hD]
  simp only [← hC]
  clear hA hC hD
  obtain ⟨d0, d1, d2, d3, d4, d5, d6, d7, d8, d9⟩ := HA.out.v.ten34
  have c2 : w1.cell? ⟨C, 2, none⟩ = some (.int .u8 cl) := HA.out.c.cell 2
  go_upto_region 3 with fail
  go_cut [8] (fun s8 wx => ∃ m w4, s8 = .bool th ∧ w4 = wx ∧ w4 = w1.drewN m)
  case first =>
    rcases HTH.out with ⟨rfl, rfl⟩ | ⟨i, rfl, hi, hti⟩
    · go_quiet (fail)
      go_wp2
      go_meet
      exact ⟨_, _, rfl, rfl, rfl⟩
    · obtain ⟨g, off, cap, rfl, hgw, hgc⟩ := HA.out.m.form (by omega)
      obtain ⟨_, y1, _⟩ := hgc i hi
      clear hgc
      have hi2 : (i : Int) < (l.length : Int) := by omega
      have q1 : decide ((0 : Int) ≤ i) = true := decide_eq_true (by omega)
      obtain ⟨ml, hml⟩ : ∃ ml, (l[i]'hi).l = ml := ⟨_, rfl⟩
      rw [hml] at y1 hti
      clear hml
      by_cases hm : ml = cl
      · subst hm
        obtain rfl : th = true := by rw [hti]; exact decide_eq_true rfl
        clear hti
        go_quiet (fail)
        go_wp2
        go_meet
        exact ⟨_, _, rfl, rfl, rfl⟩
      · obtain rfl : th = false := by rw [hti]; exact decide_eq_false hm
        have q3 : ((ml : Int) == (cl : Int)) = false := by simp; omega
        clear hti hm
        go_quiet (fail)
        go_wp2
        go_meet
        exact ⟨_, _, rfl, rfl, rfl⟩
  case rest =>
    obtain ⟨m, w4, rfl, hw4, hw5⟩ := hcut
    subst hw4
    have HA4 : Hid (RefAt w A C D e s lv l 1 n cl ce w4) := Lib.hid (hw5 ▸ HA.out.on (below_drN2 _ _))
    clear hw5 HA hla d0 d1 d2 d3 d4 d5 d6 d7 d8 d9 c2
    obtain ⟨d0, d1, d2, d3, d4, d5, d6, d7, d8, d9⟩ := HA4.out.v.ten34
    have c0 : w4.cell? ⟨C, 0, none⟩ = some (.int .u8 1) := HA4.out.c.cell 0
    have c1 : w4.cell? ⟨C, 1, none⟩ = some (.int .u8 n) := HA4.out.c.cell 1
    have c2 : w4.cell? ⟨C, 2, none⟩ = some (.int .u8 cl) := HA4.out.c.cell 2
    have c3 : w4.cell? ⟨C, 3, none⟩ = some (.int .u32 ce) := HA4.out.c.cell 3
    have f0 := HA4.out.d.frozen 0
    have f1 := HA4.out.d.frozen 1
    have f2 := HA4.out.d.frozen 2
    have f3 := HA4.out.d.frozen 3
    have f4 := HA4.out.d.frozen 4
    have f5 := HA4.out.d.frozen 5
    have f6 := HA4.out.d.frozen 6
    have f7 := HA4.out.d.frozen 7
    have f8 := HA4.out.d.frozen 8
    have f9 := HA4.out.d.frozen 9
    obtain ⟨e0, e1, e2, e3, e4, e5, e6, e7, e8, e9⟩ := HA4.out.d.ten34
    obtain ⟨hAC, hAD, hCD⟩ := HA4.out.ne
    have hDw := HA4.out.d.lt
    obtain ⟨sa, sc, rfl⟩ := HA4.out.m.len
    have hla0 := H_hla0.out
    have hnn := H_hnn.out
    have hn8 := H_hn8.out
    have h1 := H_h1.out
    have h2 := H_h2.out
    have h5 := H_h5.out
    have h6 := H_h6.out
    have hlo := H_hlo.out
    have hee := H_hee.out
    have hpos := H_hpos.out
    subst hla0
    subst hnn
    have HEE := Lib.hid hee
    obtain ⟨gs, off, cap, hsg, hgw, _⟩ := HA4.out.m.form (by omega)
    simp only [Value.slice.injEq] at hsg
    obtain ⟨rfl, hdum, rfl⟩ := hsg
    clear hdum
    obtain ⟨gv, hgv⟩ : ∃ gv, lv.get n' = gv := ⟨_, rfl⟩
    have y0 : w4.cell? ⟨A, 2 + n', none⟩ = some (.int .u8 gv) := by rw [← hgv]; exact (HA4.out.v.cell _).trans (vC_get e _ lv hn8)
    rw [hgv] at hlo
    have q0 : decide ((cl : Int) ≤ (gv : Int)) = false := decide_eq_false (by omega)
    have q0n : decide (cl ≤ gv) = false := decide_eq_false (by omega)
    have c1x : w4.cell? ⟨C, 1, none⟩ = some (.int .u8 ((n' : Int) + 1)) := by simpa using c1
    have q1 : decide ((0 : Int) ≤ r) = false := decide_eq_false (by omega)
    have q2 : decide ((8 : Int) ≤ (l.length : Int)) = false := decide_eq_false (by omega)
    have q3 : decide ((n' : Int) + 1 < 1) = false := decide_eq_false (by omega)
    have q4 : decide ((8 : Int) < (n' : Int) + 1) = false := decide_eq_false (by omega)
    have q5 : decide ((cl : Int) < 1) = false := decide_eq_false (by omega)
    have q6 : decide ((200 : Int) < cl) = false := decide_eq_false (by omega)
    have hn8' : (n' : Int) < 8 := by omega
    have HN8 := Lib.hid hn8
    have hl1 := hpos
    have HNUM : Hid (l.length < 8 ∧ 0 < l.length ∧ cl < 256) := Lib.hid (by omega)
    clear hlo c1 h1 h2 h5 h6 hpos hee hgv hgw hl1
    go_upto_region 8 with fail
    go_quiet (fail)
    have HA5 := Lib.hid (HA4.out.on (below_drN2 w4 nq))
    clear HA4 y0 c1x
    clear d0 d1 d2 d3 d4 d5 d6 d7 d8 d9 e0 e1 e2 e3 e4 e5 e6 e7 e8 e9 f0 f1 f2 f3 f4 f5 f6 f7 f8 f9 c0 c2 c3 hDw
    generalize w4.drewN nq = w5 at *
    obtain ⟨d0, d1, d2, d3, d4, d5, d6, d7, d8, d9⟩ := HA5.out.v.ten34
    have c0 : w5.cell? ⟨C, 0, none⟩ = some (.int .u8 1) := HA5.out.c.cell 0
    have c1 : w5.cell? ⟨C, 1, none⟩ = some (.int .u8 ((n' : Int) + 1)) := by simpa using HA5.out.c.cell 1
    have c2 : w5.cell? ⟨C, 2, none⟩ = some (.int .u8 cl) := HA5.out.c.cell 2
    have c3 : w5.cell? ⟨C, 3, none⟩ = some (.int .u32 ce) := HA5.out.c.cell 3
    have f0 := HA5.out.d.frozen 0
    have f1 := HA5.out.d.frozen 1
    have f2 := HA5.out.d.frozen 2
    have f3 := HA5.out.d.frozen 3
    have f4 := HA5.out.d.frozen 4
    have f5 := HA5.out.d.frozen 5
    have f6 := HA5.out.d.frozen 6
    have f7 := HA5.out.d.frozen 7
    have f8 := HA5.out.d.frozen 8
    have f9 := HA5.out.d.frozen 9
    obtain ⟨e0, e1, e2, e3, e4, e5, e6, e7, e8, e9⟩ := HA5.out.d.ten34
    have hDw := HA5.out.d.lt
    have hrow := Lib.hid (MemsAt.row HA5.out.m)
    have hlen := Lib.hid (mRow_len l)
    obtain ⟨i0, hi0, hz0, hz1, hz2⟩ := infoP36
    have HI := Lib.hid (And.intro hi0 (And.intro hz0 (And.intro hz1 hz2)))
    clear hi0 hz0 hz1 hz2
    have hlb := HL.out
    go_upto_region 10 with fail
    go_wp2_with (at_builtin; go_loud (refine wpList_append_own _ rfl _ _ 32 rfl w5.heap.size 36 i0 _ 3 3 Try.underlying32 HI.out.1 HI.out.2.1 HI.out.2.2.1 HI.out.2.2.2 rfl (by decide) _ 0 [] rfl (World.ownsRow_nil _ _ _ _) ⟨gs, off, none⟩ l.length sc (mRow l) rfl hlen.out ?qc2 (mRow_one l) (by unfold maxLen; omega) (by omega) (Nat.le_refl _) ?_))
    case qc2 =>
      intro j u hj
      exact hrow.out j u hj
    intro v' w6 hown hgrow _
    have HO : Hid (w6.ownsRow w5.heap.size 36 3 v' l.length (mRow l)) := Lib.hid (by simpa using hown)
    have HA6 := Lib.hid (HA5.out.on (below_made hgrow))
    clear hown hgrow hrow hlen
    obtain ⟨g, cg, rfl, hg5, hg6, _⟩ := own36_form HO.out HNUM.out.2.1
    clear d0 d1 d2 d3 d4 d5 d6 d7 d8 d9 e0 e1 e2 e3 e4 e5 e6 e7 e8 e9 f0 f1 f2 f3 f4 f5 f6 f7 f8 f9 c0 c1 c2 c3 hDw
    obtain ⟨d0, d1, d2, d3, d4, d5, d6, d7, d8, d9⟩ := HA6.out.v.ten34
    have c0 : w6.cell? ⟨C, 0, none⟩ = some (.int .u8 1) := HA6.out.c.cell 0
    have c1 : w6.cell? ⟨C, 1, none⟩ = some (.int .u8 ((n' : Int) + 1)) := by simpa using HA6.out.c.cell 1
    have c2 : w6.cell? ⟨C, 2, none⟩ = some (.int .u8 cl) := HA6.out.c.cell 2
    have c3 : w6.cell? ⟨C, 3, none⟩ = some (.int .u32 ce) := HA6.out.c.cell 3
    have f0 := HA6.out.d.frozen 0
    have f1 := HA6.out.d.frozen 1
    have f2 := HA6.out.d.frozen 2
    have f3 := HA6.out.d.frozen 3
    have f4 := HA6.out.d.frozen 4
    have f5 := HA6.out.d.frozen 5
    have f6 := HA6.out.d.frozen 6
    have f7 := HA6.out.d.frozen 7
    have f8 := HA6.out.d.frozen 8
    have f9 := HA6.out.d.frozen 9
    obtain ⟨e0, e1, e2, e3, e4, e5, e6, e7, e8, e9⟩ := HA6.out.d.ten34
    have hDw := HA6.out.d.lt
    have y0 : w6.cell? ⟨A, 2 + n', none⟩ = some (.int .u8 (lv.get n')) := (HA6.out.v.cell _).trans (vC_get e _ lv HN8.out)
    have fz : w6.frozen? ⟨A, 2 + n', none⟩ = false := HA6.out.v.frozen _
    go_upto_region 12 with fail
    obtain ⟨wi, hwi⟩ : ∃ wi, wi = w6.setCell ⟨A, 2 + n', none⟩ (.int .u8 cl) := ⟨_, rfl⟩
    have HA7 : Hid (RefAt w A C D e (.slice (some ⟨gs, off, none⟩) l.length sc) (lv.set n' cl) l 1 (n' + 1) cl ce wi) := Lib.hid (by
      rw [hwi]
      exact ⟨Blk.set HA6.out.v (2 + n') _ _ (vC_set e _ lv cl HN8.out), HA6.out.c.set_other _ _ hAC.symm, HA6.out.d.set_other _ _ hAD.symm, HA6.out.m.but34 HA6.out.v (by simp) (fun k _ hk => Below.heap_setCell _ ⟨A, 2 + n', none⟩ _ k hk), HA6.out.b.setCell (p := ⟨A, 2 + n', none⟩) HA6.out.ge.1 _, HA6.out.ne, HA6.out.ge⟩)
    have HO7 : Hid (wi.ownsRow w5.heap.size 36 3 (.slice (some ⟨g, 0, none⟩) l.length cg) l.length (mRow l)) := Lib.hid (by rw [hwi]; exact own36_set HO.out HA6.out.v (by decide))
    rw [← hwi]
    have hsz7 : w5.heap.size ≤ wi.heap.size := by rw [hwi]; simp; exact Nat.le_trans hg5 (Nat.le_of_lt hg6)
    have hsz5 : w.heap.size ≤ w5.heap.size := HA5.out.b.size
    clear hwi HA6 HO y0 fz
    clear d0 d1 d2 d3 d4 d5 d6 d7 d8 d9 e0 e1 e2 e3 e4 e5 e6 e7 e8 e9 f0 f1 f2 f3 f4 f5 f6 f7 f8 f9 c0 c1 c2 c3 hDw
    obtain ⟨d0, d1, d2, d3, d4, d5, d6, d7, d8, d9⟩ := HA7.out.v.ten34
    have c0 : wi.cell? ⟨C, 0, none⟩ = some (.int .u8 1) := HA7.out.c.cell 0
    have c1 : wi.cell? ⟨C, 1, none⟩ = some (.int .u8 ((n' : Int) + 1)) := by simpa using HA7.out.c.cell 1
    have c2 : wi.cell? ⟨C, 2, none⟩ = some (.int .u8 cl) := HA7.out.c.cell 2
    have c3 : wi.cell? ⟨C, 3, none⟩ = some (.int .u32 ce) := HA7.out.c.cell 3
    have f0 := HA7.out.d.frozen 0
    have f1 := HA7.out.d.frozen 1
    have f2 := HA7.out.d.frozen 2
    have f3 := HA7.out.d.frozen 3
    have f4 := HA7.out.d.frozen 4
    have f5 := HA7.out.d.frozen 5
    have f6 := HA7.out.d.frozen 6
    have f7 := HA7.out.d.frozen 7
    have f8 := HA7.out.d.frozen 8
    have f9 := HA7.out.d.frozen 9
    obtain ⟨e0, e1, e2, e3, e4, e5, e6, e7, e8, e9⟩ := HA7.out.d.ten34
    have hDw := HA7.out.d.lt
    have he1 : (e : Int) + 1 ≤ 4294967295 := by have := HEE.out; omega
    obtain ⟨hl8, hl0, _⟩ := HNUM.out
    have hAw := HA7.out.v.lt
    have hCw := HA7.out.c.lt
    obtain ⟨lv2, hlv2⟩ : ∃ lv2, lv.set n' cl = lv2 := ⟨_, rfl⟩
    rw [hlv2] at HA7 d2 d3 d4 d5 d6 d7 d8 d9 ⊢
    have HLV2 := Lib.hid hlv2
    clear hlv2
    have hAn : A ≠ wi.heap.size := by omega
    have hCn : C ≠ wi.heap.size := by omega
    clear c0 c3 f0 f1 f2 f3 f4 f5 f6 f7 f8 f9 e0 e1 e2 e3 e4 e5 e6 e7 e8 e9
    go_region_held3 (fun w' => w'.cell? ⟨A, 0, none⟩ = some (.int .u32 e) ∧ w'.cell? ⟨A, 1, none⟩ = some (.slice (some ⟨gs, off, none⟩) l.length sc) ∧ w'.cell? ⟨A, 2, none⟩ = some (.int .u8 lv2.a) ∧ w'.cell? ⟨A, 3, none⟩ = some (.int .u8 lv2.b) ∧ w'.cell? ⟨A, 4, none⟩ = some (.int .u8 lv2.c) ∧ w'.cell? ⟨A, 5, none⟩ = some (.int .u8 lv2.d) ∧ w'.cell? ⟨A, 6, none⟩ = some (.int .u8 lv2.e) ∧ w'.cell? ⟨A, 7, none⟩ = some (.int .u8 lv2.f) ∧ w'.cell? ⟨A, 8, none⟩ = some (.int .u8 lv2.g) ∧ w'.cell? ⟨A, 9, none⟩ = some (.int .u8 lv2.h) ∧ w'.cell? ⟨C, 1, none⟩ = some (.int .u8 ((n' : Int) + 1)) ∧ w'.cell? ⟨C, 2, none⟩ = some (.int .u8 cl)) ((refine ⟨?_, ?_, ?_, ?_, ?_, ?_, ?_, ?_, ?_, ?_, ?_, ?_⟩ <;> repeat (first | (with_reducible assumption) | (with_reducible refine cell_dr9 ?_) | (with_reducible refine cell_al9 ?_ _) | (with_reducible refine cell_st9 hAD ?_) | (with_reducible refine cell_st9 hCD ?_)))) ((refine step_append_own1 rfl (.tmp 95) (.tmp 101) 32 rfl w5.heap.size 36 i0 _ 3 3 Try.underlying32 HI.out.1 HI.out.2.1 HI.out.2.2.1 HI.out.2.2.2 rfl (by decide) (.slice (some ⟨g, 0, none⟩) l.length cg) l.length (mRow l) rfl (own_below HO7.out (by go_grown)) _ 1 1 [.int .u8 (n' + 1), .int .u8 cl, .bool false] rfl rfl (news36 (by simp [go_sem]) (by simp [go_sem]) (by simp [go_sem])) (ones36 rfl rfl rfl) (by unfold maxLen; omega) (by omega) (by simp; omega) (by decide) ?_; intro g' cap' w8 hg' hown hgr; have hv8 := (HA7.out.v.on (by go_grown)).grown hgr (own36_ne (own_below HO7.out (by go_grown)) (HA7.out.v.on (by go_grown)) (by decide)); have hc8 := (HA7.out.c.on (by go_grown)).grown hgr (own36_ne (own_below HO7.out (by go_grown)) (HA7.out.c.on (by go_grown)) (by decide)); have hd8 := (HA7.out.d.on (by go_grown)).grown hgr (own36_ne (own_below HO7.out (by go_grown)) (HA7.out.d.on (by go_grown)) (by decide)); have HV8 := Lib.hid hv8; have HD8 := Lib.hid hd8; have HOW := Lib.hid hown; have HG8 := Lib.hid hgr; obtain ⟨s0, s1, s2, s3, s4, s5, s6, s7, s8, s9⟩ := hv8.ten34; have r1 := hc8.cell 1; have r2 := hc8.cell 2; have g0 := hd8.frozen 0; have g1 := hd8.frozen 1; have g2 := hd8.frozen 2; have g3 := hd8.frozen 3; have g4 := hd8.frozen 4; have g5 := hd8.frozen 5; have g6 := hd8.frozen 6; have g7 := hd8.frozen 7; have g8 := hd8.frozen 8; have g9 := hd8.frozen 9; obtain ⟨t0, t1, t2, t3, t4, t5, t6, t7, t8, t9⟩ := hd8.ten34; simp at r1 r2; clear hv8 hc8 hd8 hown hgr))
    all_goals
      go_wp2
      have hwr : IntKind.u32.wrap ((e : Int) + 1) = ((e + 1 : Nat) : Int) := by rw [IntWalk.u32_in _ (by omega)]; rfl
      rw [hwr]
      obtain ⟨wf, hwf⟩ : ∃ wf, wf = ((((((((((w8.setCell ⟨D, 0, none⟩ (.int .u32 (e + 1 : Nat))).setCell ⟨D, 1, none⟩ (.slice (some ⟨g', 0, none⟩) (l.length + 1) cap')).setCell ⟨D, 2, none⟩ (.int .u8 lv2.a)).setCell ⟨D, 3, none⟩ (.int .u8 lv2.b)).setCell ⟨D, 4, none⟩ (.int .u8 lv2.c)).setCell ⟨D, 5, none⟩ (.int .u8 lv2.d)).setCell ⟨D, 6, none⟩ (.int .u8 lv2.e)).setCell ⟨D, 7, none⟩ (.int .u8 lv2.f)).setCell ⟨D, 8, none⟩ (.int .u8 lv2.g)).setCell ⟨D, 9, none⟩ (.int .u8 lv2.h)) := ⟨_, rfl⟩
      rw [← hwf]
      obtain ⟨hF, hFB, hFs, hFo⟩ := fill34 HD8.out (e + 1) (some ⟨g', 0, none⟩) lv2 wf hwf
      have hM8 : MemsAt w8 (.slice (some ⟨g', 0, none⟩) (l.length + 1) cap') (l ++ [⟨n' + 1, cl, false⟩]) := mems_own (base := w5.heap.size) (e := 36) (by rw [mRow_snoc]; exact HOW.out) (by simp)
      have hM := hM8.but34 HD8.out (by omega) (fun k _ hk => hFo k hk)
      have hB8 : Below w.heap.size w w8 := Below.grown (by first | exact HA7.out.b.alloc (by omega) _ | exact (HA7.out.b.drew).alloc (by simp; omega) _) HG8.out (by simp; omega) (fun j hj => by have := (World.ownsRow.lt HO7.out j (by simpa using hj)).1; omega)
      have hB : Below w.heap.size w wf := hB8.trans (hFB.mono HA7.out.ge.2.2)
      clear hwf d0 d1 d2 d3 d4 d5 d6 d7 d8 d9
      obtain ⟨x0, x1, x2, x3, x4, x5, x6, x7, x8, x9⟩ := hF.ten34
      rw [HLV2.out]
      refine bodyPost_ret (v := .tuple #[.agg (vC (e + 1) (.slice (some ⟨g', 0, none⟩) (l.length + 1) cap') lv2), .bool true]) ?_ rfl ⟨_, rfl, hM, hB⟩
      simp [results, Try.results10, go_sem, x0, x1, x2, x3, x4, x5, x6, x7, x8, x9]
end Go.Proofs.Ytkgahhfemlebmaa
