/-
  The reference's Apply: other kinds.
-/
import Derived.Test.YtkgahhfemlebmaaRefF
namespace Go.Proofs.Ytkgahhfemlebmaa
open Go.RowKit Go.Instr

set_option maxHeartbeats 4000000 in
set_option maxRecDepth 100000 in
theorem refApply_x (e : Nat) (s : Value) (lv : Lv) (l : List Mem) (n cl ce : Nat) (r : Int) (th la : Bool) (w : World) (hl : l.length ≤ 40) (hs : MemsAt w s l) (hr : idxOf (isNode n) l = r) (hla : ((e : Int) == 4294967295) = la) (hth : (r = -1 ∧ th = false) ∨ ∃ (i : Nat), r = i ∧ ∃ hi : i < l.length, th = decide ((l[i]'hi).l = cl)) (k : Nat) (k5 : 5 ≤ k) (ht : th = true) :
    Calls Try.prog 10 #[.agg (vC e s lv), .agg #[.int .u8 k, .int .u8 n, .int .u8 cl, .int .u32 ce]] w (AppP w (⟨e, lv, l⟩, false)) := by
  have H_k5 := Lib.hid k5
  have H_ht := Lib.hid ht
  clear k5 ht
  have HS := Lib.hid hs
  have HL := Lib.hid hl
  have HR := Lib.hid hr
  have HTH := Lib.hid hth
  clear hs hl hr hth
  unfold vC
  go_enter Try.func10, Try.ntmps10
  go_upto_region 2 with (go_at_call 22; (refine (refAt_is e s lv l n r _ HL.out (HS.out.on (by go_grown)) HR.out).mono ?_); rintro en w1 ⟨rfl, hB⟩; have HB1 := Lib.hid hB; clear hB)
  have HA : Hid (RefAt w w.heap.size (w.heap.size + 1) (w.heap.size + 1 + 1) e s lv l k n cl ce w1) := Lib.hid ⟨(((Blk.new rfl).alloc _).alloc _).on HB1.out, ((Blk.new (by simp)).alloc _).on HB1.out, (Blk.new (by simp)).on HB1.out, (((HS.out.al _).al _).al _).on HB1.out, m_below_on (by go_grown) HB1.out, by omega, by omega⟩
  clear HB1 HS
  obtain ⟨A, hA⟩ : ∃ A, A = w.heap.size := ⟨_, rfl⟩
  obtain ⟨C, hC⟩ : ∃ C, C = A + 1 := ⟨_, rfl⟩
  obtain ⟨D, hD⟩ : ∃ D, D = A + 1 + 1 := ⟨_, rfl⟩
  rw [← hA, ← hD, ← hC] at HA
  simp only [← hA]
  simp only [← hD]
  simp only [← hC]
  clear hA hC hD
  obtain ⟨d0, d1, d2, d3, d4, d5, d6, d7, d8, d9⟩ := HA.out.v.ten34
  have c2 : w1.cell? ⟨C, 2, none⟩ = some (.int .u8 cl) := HA.out.c.cell 2
  go_upto_region 3 with fail
  go_cut [8] (fun s8 wx => ∃ m w4, s8 = .bool th ∧ w4 = wx ∧ w4 = w1.drewN m)
  case first =>
    rcases HTH.out with ⟨rfl, rfl⟩ | ⟨i, rfl, hi, hti⟩
    · go_quiet (fail)
      go_wp2
      go_meet
      exact ⟨_, _, rfl, rfl, rfl⟩
    · obtain ⟨g, off, cap, rfl, hgw, hgc⟩ := HA.out.m.form (by omega)
      obtain ⟨_, y1, _⟩ := hgc i hi
      clear hgc
      have hi2 : (i : Int) < (l.length : Int) := by omega
      have q1 : decide ((0 : Int) ≤ i) = true := decide_eq_true (by omega)
      obtain ⟨ml, hml⟩ : ∃ ml, (l[i]'hi).l = ml := ⟨_, rfl⟩
      rw [hml] at y1 hti
      clear hml
      by_cases hm : ml = cl
      · subst hm
        obtain rfl : th = true := by rw [hti]; exact decide_eq_true rfl
        clear hti
        go_quiet (fail)
        go_wp2
        go_meet
        exact ⟨_, _, rfl, rfl, rfl⟩
      · obtain rfl : th = false := by rw [hti]; exact decide_eq_false hm
        have q3 : ((ml : Int) == (cl : Int)) = false := by simp; omega
        clear hti hm
        go_quiet (fail)
        go_wp2
        go_meet
        exact ⟨_, _, rfl, rfl, rfl⟩
  case rest =>
    obtain ⟨m, w4, rfl, hw4, hw5⟩ := hcut
    subst hw4
    have HA4 : Hid (RefAt w A C D e s lv l k n cl ce w4) := Lib.hid (hw5 ▸ HA.out.on (below_drN2 _ _))
    clear hw5 HA hla d0 d1 d2 d3 d4 d5 d6 d7 d8 d9 c2
    obtain ⟨d0, d1, d2, d3, d4, d5, d6, d7, d8, d9⟩ := HA4.out.v.ten34
    have c0 : w4.cell? ⟨C, 0, none⟩ = some (.int .u8 k) := HA4.out.c.cell 0
    have c1 : w4.cell? ⟨C, 1, none⟩ = some (.int .u8 n) := HA4.out.c.cell 1
    have c2 : w4.cell? ⟨C, 2, none⟩ = some (.int .u8 cl) := HA4.out.c.cell 2
    have c3 : w4.cell? ⟨C, 3, none⟩ = some (.int .u32 ce) := HA4.out.c.cell 3
    have f0 := HA4.out.d.frozen 0
    have f1 := HA4.out.d.frozen 1
    have f2 := HA4.out.d.frozen 2
    have f3 := HA4.out.d.frozen 3
    have f4 := HA4.out.d.frozen 4
    have f5 := HA4.out.d.frozen 5
    have f6 := HA4.out.d.frozen 6
    have f7 := HA4.out.d.frozen 7
    have f8 := HA4.out.d.frozen 8
    have f9 := HA4.out.d.frozen 9
    obtain ⟨e0, e1, e2, e3, e4, e5, e6, e7, e8, e9⟩ := HA4.out.d.ten34
    obtain ⟨hAC, hAD, hCD⟩ := HA4.out.ne
    have hDw := HA4.out.d.lt
    obtain ⟨sa, sc, rfl⟩ := HA4.out.m.len
    have k5 := H_k5.out
    have ht := H_ht.out
    subst ht
    have q0 : ((k : Int) == 0) = false := by simp; omega
    have q1 : ((k : Int) == 1) = false := by simp; omega
    have q2 : ((k : Int) == 2) = false := by simp; omega
    have q3 : ((k : Int) == 3) = false := by simp; omega
    have q4 : ((k : Int) == 4) = false := by simp; omega
    clear k5
    go_upto_region 28 with fail
    go_region
    go_wp2
    obtain ⟨wf, hwf⟩ : ∃ wf, wf = ((((((((((w4.setCell ⟨D, 0, none⟩ (.int .u32 (e))).setCell ⟨D, 1, none⟩ (.slice sa l.length sc)).setCell ⟨D, 2, none⟩ (.int .u8 (lv).a)).setCell ⟨D, 3, none⟩ (.int .u8 (lv).b)).setCell ⟨D, 4, none⟩ (.int .u8 (lv).c)).setCell ⟨D, 5, none⟩ (.int .u8 (lv).d)).setCell ⟨D, 6, none⟩ (.int .u8 (lv).e)).setCell ⟨D, 7, none⟩ (.int .u8 (lv).f)).setCell ⟨D, 8, none⟩ (.int .u8 (lv).g)).setCell ⟨D, 9, none⟩ (.int .u8 (lv).h)) := ⟨_, rfl⟩
    rw [← hwf]
    obtain ⟨hF, hM, hB⟩ := HA4.out.done (e) sa (l.length) sc (lv) (l) HA4.out.m hwf
    clear hwf d0 d1 d2 d3 d4 d5 d6 d7 d8 d9 e0 e1 e2 e3 e4 e5 e6 e7 e8 e9 f0 f1 f2 f3 f4 f5 f6 f7 f8 f9
    obtain ⟨x0, x1, x2, x3, x4, x5, x6, x7, x8, x9⟩ := hF.ten34
    refine bodyPost_ret (v := .tuple #[.agg (vC (e) (.slice sa (l.length) sc) (lv)), .bool false]) ?_ rfl ⟨_, rfl, hM.dr, m_below_on hB ⟨rfl, rfl, rfl, Nat.le_refl _, fun _ _ => rfl⟩⟩
    simp [results, Try.results10, go_sem, x0, x1, x2, x3, x4, x5, x6, x7, x8, x9]
end Go.Proofs.Ytkgahhfemlebmaa
