/-
  The reference's Apply: kind 2.
-/
import Derived.Test.YtkgahhfemlebmaaRefS
import Derived.Deep.LoopGhost
namespace Go.Proofs.Ytkgahhfemlebmaa
open Go.RowKit Go.Instr

theorem erase_take {α : Type} {l : List α} {i k : Nat} (h : k < l.length) : (l.take (k + 1)).eraseIdx i = if k = i then (l.take k).eraseIdx i else (l.take k).eraseIdx i ++ [l[k]] := by
  have hl : (l.take k).length = k := by rw [List.length_take]; omega
  rw [List.take_succ_eq_append_getElem h]
  by_cases h1 : k = i
  · subst h1
    rw [if_pos rfl, List.eraseIdx_append_of_length_le (by omega), hl, Nat.sub_self, List.eraseIdx_of_length_le (l := l.take k) (by omega)]
    simp
  · rw [if_neg h1]
    by_cases h2 : i < k
    · rw [List.eraseIdx_append_of_lt_length (by omega)]
    · rw [List.eraseIdx_of_length_le (by rw [List.length_append, hl]; simp; omega), List.eraseIdx_of_length_le (by omega)]
def RemLoop (w5 : World) (i n : Nat) (l : List Mem) (g : Nat) (s9 s10 : Value) (wx : World) : Prop :=
  ∃ k : Nat, s10 = .int .i64 k ∧ k + g = n ∧ wx.ownsRow w5.heap.size 36 3 s9 ((l.take k).eraseIdx i).length (mRow ((l.take k).eraseIdx i)) ∧ Below w5.heap.size w5 wx
theorem mRow_put (l : List Mem) (m : Mem) : mRow l ++ [.int .u8 m.n, .int .u8 m.l, .bool m.r] = mRow (l ++ [m]) := (mRow_snoc l m).symm
set_option maxHeartbeats 4000000 in
set_option maxRecDepth 100000 in
theorem refApply_2y (e : Nat) (s : Value) (lv : Lv) (l : List Mem) (n cl ce : Nat) (r : Int) (th la : Bool) (w : World) (hl : l.length ≤ 40) (hs : MemsAt w s l) (hr : idxOf (isNode n) l = r) (hla : ((e : Int) == 4294967295) = la) (hth : (r = -1 ∧ th = false) ∨ ∃ (i : Nat), r = i ∧ ∃ hi : i < l.length, th = decide ((l[i]'hi).l = cl)) (i R : Nat) (ht : th = true) (hri : r = i) (hla0 : la = false) (hil : i < l.length) (hR : readyBut (i : Int) l 0 = R) (hRp : 0 < R) (hee : e < 4294967295) :
    Calls Try.prog 10 #[.agg (vC e s lv), .agg #[.int .u8 2, .int .u8 n, .int .u8 cl, .int .u32 ce]] w (AppP w (⟨e + 1, lv, l.eraseIdx i⟩, true)) := by
  have H_ht := Lib.hid ht
  have H_hri := Lib.hid hri
  have H_hla0 := Lib.hid hla0
  have H_hil := Lib.hid hil
  have H_hR := Lib.hid hR
  have H_hRp := Lib.hid hRp
  have H_hee := Lib.hid hee
  clear ht hri hla0 hil hR hRp hee
  have HS := Lib.hid hs
  have HL := Lib.hid hl
  have HR := Lib.hid hr
  have HTH := Lib.hid hth
  clear hs hl hr hth
  unfold vC
  go_enter Try.func10, Try.ntmps10
  go_upto_region 2 with (go_at_call 22; (refine (refAt_is e s lv l n r _ HL.out (HS.out.on (by go_grown)) HR.out).mono ?_); rintro en w1 ⟨rfl, hB⟩; have HB1 := Lib.hid hB; clear hB)
  have HA : Hid (RefAt w w.heap.size (w.heap.size + 1) (w.heap.size + 1 + 1) e s lv l 2 n cl ce w1) := Lib.hid ⟨(((Blk.new rfl).alloc _).alloc _).on HB1.out, ((Blk.new (by simp)).alloc _).on HB1.out, (Blk.new (by simp)).on HB1.out, (((HS.out.al _).al _).al _).on HB1.out, m_below_on (by go_grown) HB1.out, by omega, by omega⟩
  clear HB1 HS
  obtain ⟨A, hA⟩ : ∃ A, A = w.heap.size := ⟨_, rfl⟩
  obtain ⟨C, hC⟩ : ∃ C, C = A + 1 := ⟨_, rfl⟩
  obtain ⟨D, hD⟩ : ∃ D, D = A + 1 + 1 := ⟨_, rfl⟩
  rw [← hA, ← hD, ← hC] at HA
  simp only [← hA]
  simp only [← hD]
  simp only [← hC]
  clear hA hC hD
  obtain ⟨d0, d1, d2, d3, d4, d5, d6, d7, d8, d9⟩ := HA.out.v.ten34
  have c2 : w1.cell? ⟨C, 2, none⟩ = some (.int .u8 cl) := HA.out.c.cell 2
  go_upto_region 3 with fail
  go_cut [8] (fun s8 wx => ∃ m w4, s8 = .bool th ∧ w4 = wx ∧ w4 = w1.drewN m)
  case first =>
    rcases HTH.out with ⟨rfl, rfl⟩ | ⟨i, rfl, hi, hti⟩
    · go_quiet (fail)
      go_wp2
      go_meet
      exact ⟨_, _, rfl, rfl, rfl⟩
    · obtain ⟨g, off, cap, rfl, hgw, hgc⟩ := HA.out.m.form (by omega)
      obtain ⟨_, y1, _⟩ := hgc i hi
      clear hgc
      have hi2 : (i : Int) < (l.length : Int) := by omega
      have q1 : decide ((0 : Int) ≤ i) = true := decide_eq_true (by omega)
      obtain ⟨ml, hml⟩ : ∃ ml, (l[i]'hi).l = ml := ⟨_, rfl⟩
      rw [hml] at y1 hti
      clear hml
      by_cases hm : ml = cl
      · subst hm
        obtain rfl : th = true := by rw [hti]; exact decide_eq_true rfl
        clear hti
        go_quiet (fail)
        go_wp2
        go_meet
        exact ⟨_, _, rfl, rfl, rfl⟩
      · obtain rfl : th = false := by rw [hti]; exact decide_eq_false hm
        have q3 : ((ml : Int) == (cl : Int)) = false := by simp; omega
        clear hti hm
        go_quiet (fail)
        go_wp2
        go_meet
        exact ⟨_, _, rfl, rfl, rfl⟩
  case rest =>
    obtain ⟨m, w4, rfl, hw4, hw5⟩ := hcut
    subst hw4
    have HA4 : Hid (RefAt w A C D e s lv l 2 n cl ce w4) := Lib.hid (hw5 ▸ HA.out.on (below_drN2 _ _))
    clear hw5 HA hla d0 d1 d2 d3 d4 d5 d6 d7 d8 d9 c2
    obtain ⟨d0, d1, d2, d3, d4, d5, d6, d7, d8, d9⟩ := HA4.out.v.ten34
    have c0 : w4.cell? ⟨C, 0, none⟩ = some (.int .u8 2) := HA4.out.c.cell 0
    have c1 : w4.cell? ⟨C, 1, none⟩ = some (.int .u8 n) := HA4.out.c.cell 1
    have c2 : w4.cell? ⟨C, 2, none⟩ = some (.int .u8 cl) := HA4.out.c.cell 2
    have c3 : w4.cell? ⟨C, 3, none⟩ = some (.int .u32 ce) := HA4.out.c.cell 3
    have f0 := HA4.out.d.frozen 0
    have f1 := HA4.out.d.frozen 1
    have f2 := HA4.out.d.frozen 2
    have f3 := HA4.out.d.frozen 3
    have f4 := HA4.out.d.frozen 4
    have f5 := HA4.out.d.frozen 5
    have f6 := HA4.out.d.frozen 6
    have f7 := HA4.out.d.frozen 7
    have f8 := HA4.out.d.frozen 8
    have f9 := HA4.out.d.frozen 9
    obtain ⟨e0, e1, e2, e3, e4, e5, e6, e7, e8, e9⟩ := HA4.out.d.ten34
    obtain ⟨hAC, hAD, hCD⟩ := HA4.out.ne
    have hDw := HA4.out.d.lt
    obtain ⟨sa, sc, rfl⟩ := HA4.out.m.len
    have ht := H_ht.out
    have hri := H_hri.out
    have hla0 := H_hla0.out
    have hil := H_hil.out
    have hR := H_hR.out
    have hRp := H_hRp.out
    have hee := H_hee.out
    subst ht
    subst hri
    subst hla0
    have HIL := Lib.hid hil
    have HEE := Lib.hid hee
    obtain ⟨gs, off, cap, hsg, _, _⟩ := HA4.out.m.form (by omega)
    simp only [Value.slice.injEq] at hsg
    obtain ⟨rfl, hdum, rfl⟩ := hsg
    clear hdum
    have HRB : Hid (readyBut (i : Int) l 0 = R ∧ 0 < R) := Lib.hid ⟨hR, hRp⟩
    have qR : ((R : Int) == 0) = false := by simp; omega
    clear hR hRp hee
    have hlb := HL.out
    go_upto_if 118 with (go_at_call 23; (refine (refReady_any e _ lv l i _ HL.out HA4.out.m).mono ?_); rw [HRB.out.1]; rintro en w5 ⟨rfl, hB⟩; have HB5 := Lib.hid hB; clear hB)
    have HA5 := Lib.hid (HA4.out.on HB5.out)
    clear d0 d1 d2 d3 d4 d5 d6 d7 d8 d9 e0 e1 e2 e3 e4 e5 e6 e7 e8 e9 f0 f1 f2 f3 f4 f5 f6 f7 f8 f9 c0 c1 c2 c3 hDw
    clear HB5 HA4
    have HST : Hid (RemLoop w5 i l.length l l.length (.slice none 0 0) (.int .i64 0) w5) := Lib.hid ⟨0, rfl, Nat.zero_add _, World.ownsRow_nil _ _ _ _, Below.refl _ _⟩
    obtain ⟨i0, hi0, hz0, hz1, hz2⟩ := infoP36
    have HI := Lib.hid (And.intro hi0 (And.intro hz0 (And.intro hz1 hz2)))
    clear hi0 hz0 hz1 hz2
    obtain ⟨nn, hnn⟩ : ∃ nn, nn = l.length := ⟨_, rfl⟩
    rw [← hnn] at HST hlb hil ⊢
    have HNN := Lib.hid hnn
    clear hnn
    obtain ⟨wo, hwo⟩ : ∃ wo : World, wo = w5 := ⟨_, rfl⟩
    have HST' : Hid (RemLoop w5 i nn l nn (.slice none 0 0) (.int .i64 0) wo) := by rw [hwo]; exact HST
    rw [← hwo]
    clear hwo HST
    go_upto_region 19 with fail
    go_wp2_with fail
    go_loopg [9, 10] nn (fun g s9 s10 wx => RemLoop w5 i nn l g s9 s10 wx)
    case atStart => exact HST'.out
    case round =>
      obtain ⟨k, rfl, hkg, hown, hBx⟩ := hrel
      clear HST'
      have HO := Lib.hid hown
      have HBX := Lib.hid hBx
      have hsz := hBx.size
      have HA6 := Lib.hid (HA5.out.on hBx)
      clear hown hBx
      have d1 := HA6.out.v.ten34.2.1
      rw [← HNN.out] at d1
      have hlen2 : ((l.take k).eraseIdx i).length ≤ k := Nat.le_trans (List.length_eraseIdx_le _ _) (List.length_take_le _ _)
      by_cases hlt : k < nn
      · have hkl : k < l.length := by rw [← HNN.out]; exact hlt
        have HE := Lib.hid (erase_take (i := i) hkl)
        obtain ⟨gs', off', cap', hsg, hgw, hgc⟩ := HA6.out.m.form (by omega)
        simp only [Value.slice.injEq, Option.some.injEq, Addr.mk.injEq, and_true] at hsg
        obtain ⟨⟨rfl, rfl⟩, _, rfl⟩ := hsg
        obtain ⟨y0, y1, y2⟩ := hgc k hkl
        obtain ⟨p, hp⟩ : ∃ p, l[k]'hkl = p := ⟨_, rfl⟩
        rw [hp] at y0 y1 y2 HE
        clear hp hgc
        obtain ⟨pn, pl, pr⟩ := p
        simp only at y0 y1 y2
        generalize (l.take k).eraseIdx i = q at *
        by_cases hki : k = i
        · subst hki
          have z1 : ((k : Int) != (k : Int)) = false := by simp
          go_wp2_with fail
          go_roundg (nn - (k + 1))
          case measure => omega
          case rel => exact ⟨k + 1, by go_num, by omega, by have h := HO.out; rw [HE.out]; simp only [if_true]; exact h, HBX.out⟩
        · have z1 : ((k : Int) != (i : Int)) = true := by simp; omega
          have HOA := Lib.hid (HO.out.alloc (.cells #[.int .u8 pn, .int .u8 pl, .bool pr] 36))
          go_wp2_with (at_builtin; go_loud (refine wpList_append_own1 _ rfl _ _ 32 rfl w5.heap.size 36 i0 _ 3 3 Try.underlying32 HI.out.1 HI.out.2.1 HI.out.2.2.1 HI.out.2.2.2 rfl (by decide) _ q.length (mRow q) rfl HOA.out ⟨wr.heap.size, 0, none⟩ 1 1 [.int .u8 pn, .int .u8 pl, .bool pr] rfl rfl ?qn (mRow_one [⟨pn, pl, pr⟩]) (by unfold maxLen; omega) (by omega) (by simp; omega) (by decide) ?_))
          case qn =>
            intro j u hu
            have e : (⟨wr.heap.size, 0, none⟩ : Addr).add j = ⟨wr.heap.size, j, none⟩ := by unfold Addr.add; split <;> simp_all
            rw [e]
            match j, hu with
            | 0, hu => cases hu; simp
            | 1, hu => cases hu; simp
            | 2, hu => cases hu; simp
          intro g cap2 w7 hg hown hgrow
          have HO7 : Hid (w7.ownsRow w5.heap.size 36 3 (.slice (some ⟨g, 0, none⟩) (q.length + 1) cap2) ((l.take (k + 1)).eraseIdx i).length (mRow ((l.take (k + 1)).eraseIdx i))) := Lib.hid (by rw [HE.out, if_neg hki, mRow_snoc, List.length_append]; exact hown)
          have HB7 : Hid (Below w5.heap.size w5 w7) := Lib.hid ((HBX.out.alloc (by omega) _).grown hgrow (by simp; omega) (fun j hj => (HO.out.lt j hj).1))
          clear hown hgrow
          go_wp2_with fail
          go_roundg (nn - (k + 1))
          case measure => omega
          case rel => exact ⟨k + 1, by go_num, by omega, HO7.out, HB7.out⟩
      · obtain rfl : k = nn := by omega
        have ho := HO.out
        rw [HNN.out, List.take_length] at ho
        have HM := Lib.hid (mems_own ho rfl)
        obtain ⟨a9, c9, rfl⟩ := HM.out.len
        clear ho HO hlen2 d1
        have he1 : (e : Int) + 1 ≤ 4294967295 := by have := HEE.out; omega
        obtain ⟨d0, d1, d2, d3, d4, d5, d6, d7, d8, d9⟩ := HA6.out.v.ten34
        have c0 : wr.cell? ⟨C, 0, none⟩ = some (.int .u8 2) := HA6.out.c.cell 0
        have c1 : wr.cell? ⟨C, 1, none⟩ = some (.int .u8 n) := HA6.out.c.cell 1
        have c2 : wr.cell? ⟨C, 2, none⟩ = some (.int .u8 cl) := HA6.out.c.cell 2
        have c3 : wr.cell? ⟨C, 3, none⟩ = some (.int .u32 ce) := HA6.out.c.cell 3
        have f0 := HA6.out.d.frozen 0
        have f1 := HA6.out.d.frozen 1
        have f2 := HA6.out.d.frozen 2
        have f3 := HA6.out.d.frozen 3
        have f4 := HA6.out.d.frozen 4
        have f5 := HA6.out.d.frozen 5
        have f6 := HA6.out.d.frozen 6
        have f7 := HA6.out.d.frozen 7
        have f8 := HA6.out.d.frozen 8
        have f9 := HA6.out.d.frozen 9
        obtain ⟨e0, e1, e2, e3, e4, e5, e6, e7, e8, e9⟩ := HA6.out.d.ten34
        have hDw := HA6.out.d.lt
        rw [← HNN.out] at d1
        go_wp2
        obtain ⟨wf, hwf⟩ : ∃ wf, wf = ((((((((((wr.setCell ⟨D, 0, none⟩ (.int .u32 (e + 1))).setCell ⟨D, 1, none⟩ (.slice a9 (l.eraseIdx i).length c9)).setCell ⟨D, 2, none⟩ (.int .u8 (lv).a)).setCell ⟨D, 3, none⟩ (.int .u8 (lv).b)).setCell ⟨D, 4, none⟩ (.int .u8 (lv).c)).setCell ⟨D, 5, none⟩ (.int .u8 (lv).d)).setCell ⟨D, 6, none⟩ (.int .u8 (lv).e)).setCell ⟨D, 7, none⟩ (.int .u8 (lv).f)).setCell ⟨D, 8, none⟩ (.int .u8 (lv).g)).setCell ⟨D, 9, none⟩ (.int .u8 (lv).h)) := ⟨_, rfl⟩
        rw [← hwf]
        obtain ⟨hF, hM, hB⟩ := HA6.out.done (wf := wf) (e + 1) a9 ((l.eraseIdx i).length) c9 (lv) (l.eraseIdx i) HM.out (hwf.trans rfl)
        clear hwf d0 d1 d2 d3 d4 d5 d6 d7 d8 d9 e0 e1 e2 e3 e4 e5 e6 e7 e8 e9 f0 f1 f2 f3 f4 f5 f6 f7 f8 f9
        obtain ⟨x0, x1, x2, x3, x4, x5, x6, x7, x8, x9⟩ := hF.ten34
        refine bodyPost_ret (v := .tuple #[.agg (vC (e + 1) (.slice a9 ((l.eraseIdx i).length) c9) (lv)), .bool true]) ?_ rfl ⟨_, rfl, hM, hB⟩
        simp [results, Try.results10, go_sem, x0, x1, x2, x3, x4, x5, x6, x7, x8, x9]
end Go.Proofs.Ytkgahhfemlebmaa
