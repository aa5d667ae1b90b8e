/-
  The reference's Apply.
-/
import Derived.Test.YtkgahhfemlebmaaRefE
import Derived.BigQuiet
namespace Go.Proofs.Ytkgahhfemlebmaa
open Go.RowKit Go.Instr

theorem MemsAt.but34 {w w' : World} {D e n c : Nat} {s : Value} {a : Option Addr} {lv : Lv} {l : List Mem} (h : MemsAt w s l) (hD : Blk w D (vC e (.slice a n c) lv) 34) (hsz : w.heap.size ≤ w'.heap.size) (hk : ∀ k, k < w.heap.size → k ≠ D → w'.heap[k]? = w.heap[k]?) : MemsAt w' s l := by
  rcases h with h | ⟨b, off, cap, rfl, hb, hc⟩
  · exact .inl h
  · refine .inr ⟨b, off, cap, rfl, Nat.lt_of_lt_of_le hb hsz, fun i hi => ?_⟩
    obtain ⟨c0, c1, c2⟩ := hc i hi
    have hne : b ≠ D := by
      rintro rfl
      rw [hD.cell] at c2
      exact vC_nobool _ _ _ _ _ _ _ c2
    have e := hk b hb hne
    exact ⟨(World.cell?_of_block (a := ⟨b, off + i * 3, none⟩) e).trans c0, (World.cell?_of_block (a := ⟨b, off + i * 3 + 1, none⟩) e).trans c1, (World.cell?_of_block (a := ⟨b, off + i * 3 + 2, none⟩) e).trans c2⟩
/-- A block that a call has filled, and nothing else. -/
theorem fill34 {w : World} {D e n c : Nat} {s : Value} {lv : Lv} (h : Blk w D (vC e s lv) 34) (e' : Nat) (a : Option Addr) (lv' : Lv) (w' : World)
    (hw : w' = (((((((((w.setCell ⟨D, 0, none⟩ (.int .u32 e')).setCell ⟨D, 1, none⟩ (.slice a n c)).setCell ⟨D, 2, none⟩ (.int .u8 lv'.a)).setCell ⟨D, 3, none⟩ (.int .u8 lv'.b)).setCell ⟨D, 4, none⟩ (.int .u8 lv'.c)).setCell ⟨D, 5, none⟩ (.int .u8 lv'.d)).setCell ⟨D, 6, none⟩ (.int .u8 lv'.e)).setCell ⟨D, 7, none⟩ (.int .u8 lv'.f)).setCell ⟨D, 8, none⟩ (.int .u8 lv'.g)).setCell ⟨D, 9, none⟩ (.int .u8 lv'.h)) :
    Blk w' D (vC e' (.slice a n c) lv') 34 ∧ Below D w w' ∧ w'.heap.size = w.heap.size ∧ ∀ k, k ≠ D → w'.heap[k]? = w.heap[k]? := by
  have h0 := Blk.set h 0 (.int .u32 e') #[.int .u32 e', s, .int .u8 lv.a, .int .u8 lv.b, .int .u8 lv.c, .int .u8 lv.d, .int .u8 lv.e, .int .u8 lv.f, .int .u8 lv.g, .int .u8 lv.h] rfl
  have h1 := Blk.set h0 1 (.slice a n c) #[.int .u32 e', .slice a n c, .int .u8 lv.a, .int .u8 lv.b, .int .u8 lv.c, .int .u8 lv.d, .int .u8 lv.e, .int .u8 lv.f, .int .u8 lv.g, .int .u8 lv.h] rfl
  have h2 := Blk.set h1 2 (.int .u8 lv'.a) #[.int .u32 e', .slice a n c, .int .u8 lv'.a, .int .u8 lv.b, .int .u8 lv.c, .int .u8 lv.d, .int .u8 lv.e, .int .u8 lv.f, .int .u8 lv.g, .int .u8 lv.h] rfl
  have h3 := Blk.set h2 3 (.int .u8 lv'.b) #[.int .u32 e', .slice a n c, .int .u8 lv'.a, .int .u8 lv'.b, .int .u8 lv.c, .int .u8 lv.d, .int .u8 lv.e, .int .u8 lv.f, .int .u8 lv.g, .int .u8 lv.h] rfl
  have h4 := Blk.set h3 4 (.int .u8 lv'.c) #[.int .u32 e', .slice a n c, .int .u8 lv'.a, .int .u8 lv'.b, .int .u8 lv'.c, .int .u8 lv.d, .int .u8 lv.e, .int .u8 lv.f, .int .u8 lv.g, .int .u8 lv.h] rfl
  have h5 := Blk.set h4 5 (.int .u8 lv'.d) #[.int .u32 e', .slice a n c, .int .u8 lv'.a, .int .u8 lv'.b, .int .u8 lv'.c, .int .u8 lv'.d, .int .u8 lv.e, .int .u8 lv.f, .int .u8 lv.g, .int .u8 lv.h] rfl
  have h6 := Blk.set h5 6 (.int .u8 lv'.e) #[.int .u32 e', .slice a n c, .int .u8 lv'.a, .int .u8 lv'.b, .int .u8 lv'.c, .int .u8 lv'.d, .int .u8 lv'.e, .int .u8 lv.f, .int .u8 lv.g, .int .u8 lv.h] rfl
  have h7 := Blk.set h6 7 (.int .u8 lv'.f) #[.int .u32 e', .slice a n c, .int .u8 lv'.a, .int .u8 lv'.b, .int .u8 lv'.c, .int .u8 lv'.d, .int .u8 lv'.e, .int .u8 lv'.f, .int .u8 lv.g, .int .u8 lv.h] rfl
  have h8 := Blk.set h7 8 (.int .u8 lv'.g) #[.int .u32 e', .slice a n c, .int .u8 lv'.a, .int .u8 lv'.b, .int .u8 lv'.c, .int .u8 lv'.d, .int .u8 lv'.e, .int .u8 lv'.f, .int .u8 lv'.g, .int .u8 lv.h] rfl
  have h9 := Blk.set h8 9 (.int .u8 lv'.h) #[.int .u32 e', .slice a n c, .int .u8 lv'.a, .int .u8 lv'.b, .int .u8 lv'.c, .int .u8 lv'.d, .int .u8 lv'.e, .int .u8 lv'.f, .int .u8 lv'.g, .int .u8 lv'.h] rfl
  subst hw
  refine ⟨h9, ?_, ?_, ?_⟩
  · go_grown
  · simp
  · intro k hk
    repeat rw [Below.heap_setCell _ _ _ k hk]
/-- What stands behind the reference's first steps: the view, the command, the answer's block. -/
structure RefAt (w : World) (A C D e : Nat) (s : Value) (lv : Lv) (l : List Mem) (k n cl ce : Nat) (wx : World) : Prop where
  v : Blk wx A (vC e s lv) 34
  c : Blk wx C #[.int .u8 k, .int .u8 n, .int .u8 cl, .int .u32 ce] 46
  d : Blk wx D (vC 0 (.slice none 0 0) ⟨0, 0, 0, 0, 0, 0, 0, 0⟩) 34
  m : MemsAt wx s l
  b : Below w.heap.size w wx
  ne : A ≠ C ∧ A ≠ D ∧ C ≠ D
  ge : w.heap.size ≤ A ∧ w.heap.size ≤ C ∧ w.heap.size ≤ D
theorem RefAt.on {w wx wy : World} {A C D e : Nat} {s : Value} {lv : Lv} {l : List Mem} {k n cl ce : Nat} (h : RefAt w A C D e s lv l k n cl ce wx) (hB : Below wx.heap.size wx wy) : RefAt w A C D e s lv l k n cl ce wy :=
  ⟨h.v.on hB, h.c.on hB, h.d.on hB, h.m.on hB, m_below_on h.b hB, h.ne, h.ge⟩
/-- The answer is written: the view e', its members. -/
theorem RefAt.done {w wx wf : World} {A C D e : Nat} {s : Value} {lv : Lv} {l : List Mem} {k n cl ce : Nat} (h : RefAt w A C D e s lv l k n cl ce wx) (e' : Nat) (a : Option Addr) (nn c : Nat) (lv' : Lv) (l' : List Mem) (hm : MemsAt wx (.slice a nn c) l')
    (hw : wf = (((((((((wx.setCell ⟨D, 0, none⟩ (.int .u32 e')).setCell ⟨D, 1, none⟩ (.slice a nn c)).setCell ⟨D, 2, none⟩ (.int .u8 lv'.a)).setCell ⟨D, 3, none⟩ (.int .u8 lv'.b)).setCell ⟨D, 4, none⟩ (.int .u8 lv'.c)).setCell ⟨D, 5, none⟩ (.int .u8 lv'.d)).setCell ⟨D, 6, none⟩ (.int .u8 lv'.e)).setCell ⟨D, 7, none⟩ (.int .u8 lv'.f)).setCell ⟨D, 8, none⟩ (.int .u8 lv'.g)).setCell ⟨D, 9, none⟩ (.int .u8 lv'.h)) :
    Blk wf D (vC e' (.slice a nn c) lv') 34 ∧ MemsAt wf (.slice a nn c) l' ∧ Below w.heap.size w wf := by
  obtain ⟨hF, hFB, hFs, hFo⟩ := fill34 h.d e' a lv' wf hw
  exact ⟨hF, hm.but34 h.d (by omega) (fun k _ hk => hFo k hk), h.b.trans (hFB.mono h.ge.2.2)⟩
theorem below_drN2 (w : World) (n : Nat) : Below w.heap.size w (w.drewN n) := ⟨rfl, rfl, rfl, Nat.le_refl _, fun _ _ => rfl⟩
theorem Blk.ten34 {w : World} {B e : Nat} {s : Value} {lv : Lv} (h : Blk w B (vC e s lv) 34) : w.cell? ⟨B, 0, none⟩ = some (.int .u32 e) ∧ w.cell? ⟨B, 1, none⟩ = some s ∧ w.cell? ⟨B, 2, none⟩ = some (.int .u8 lv.a) ∧ w.cell? ⟨B, 3, none⟩ = some (.int .u8 lv.b) ∧ w.cell? ⟨B, 4, none⟩ = some (.int .u8 lv.c) ∧ w.cell? ⟨B, 5, none⟩ = some (.int .u8 lv.d) ∧ w.cell? ⟨B, 6, none⟩ = some (.int .u8 lv.e) ∧ w.cell? ⟨B, 7, none⟩ = some (.int .u8 lv.f) ∧ w.cell? ⟨B, 8, none⟩ = some (.int .u8 lv.g) ∧ w.cell? ⟨B, 9, none⟩ = some (.int .u8 lv.h) :=
  ⟨h.cell 0, h.cell 1, h.cell 2, h.cell 3, h.cell 4, h.cell 5, h.cell 6, h.cell 7, h.cell 8, h.cell 9⟩
set_option maxHeartbeats 4000000 in
set_option maxRecDepth 100000 in
theorem refApply_0 (e : Nat) (s : Value) (lv : Lv) (l : List Mem) (n cl ce : Nat) (r : Int) (th : Bool) (w : World) (hl : l.length ≤ 40) (hs : MemsAt w s l) (hr : idxOf (isNode n) l = r) (hth : (r = -1 ∧ th = false) ∨ ∃ (i : Nat), r = i ∧ ∃ hi : i < l.length, th = decide ((l[i]'hi).l = cl)) :
    Calls Try.prog 10 #[.agg (vC e s lv), .agg #[.int .u8 0, .int .u8 n, .int .u8 cl, .int .u32 ce]] w (AppP w (⟨e, lv, l⟩, true)) := by
  have HS := Lib.hid hs
  have HL := Lib.hid hl
  have HR := Lib.hid hr
  have HTH := Lib.hid hth
  clear hs hl hr hth
  unfold vC
  go_enter Try.func10, Try.ntmps10
  go_upto_region 2 with (go_at_call 22; (refine (refAt_is e s lv l n r _ HL.out (HS.out.on (by go_grown)) HR.out).mono ?_); rintro en w1 ⟨rfl, hB⟩; have HB1 := Lib.hid hB; clear hB)
  have HA : Hid (RefAt w w.heap.size (w.heap.size + 1) (w.heap.size + 1 + 1) e s lv l 0 n cl ce w1) := Lib.hid ⟨(((Blk.new rfl).alloc _).alloc _).on HB1.out, ((Blk.new (by simp)).alloc _).on HB1.out, (Blk.new (by simp)).on HB1.out, (((HS.out.al _).al _).al _).on HB1.out, m_below_on (by go_grown) HB1.out, by omega, by omega⟩
  clear HB1 HS
  obtain ⟨A, hA⟩ : ∃ A, A = w.heap.size := ⟨_, rfl⟩
  obtain ⟨C, hC⟩ : ∃ C, C = A + 1 := ⟨_, rfl⟩
  obtain ⟨D, hD⟩ : ∃ D, D = A + 1 + 1 := ⟨_, rfl⟩
  rw [← hA, ← hD, ← hC] at HA
  simp only [← hA]
  simp only [← hD]
  simp only [← hC]
  clear hA hC hD
  obtain ⟨d0, d1, d2, d3, d4, d5, d6, d7, d8, d9⟩ := HA.out.v.ten34
  have c2 : w1.cell? ⟨C, 2, none⟩ = some (.int .u8 cl) := HA.out.c.cell 2
  go_upto_region 3 with fail
  go_cut [8] (fun s8 wx => ∃ m w4, s8 = .bool th ∧ w4 = wx ∧ w4 = w1.drewN m)
  case first =>
    rcases HTH.out with ⟨rfl, rfl⟩ | ⟨i, rfl, hi, hti⟩
    · go_quiet (fail)
      go_wp2
      go_meet
      exact ⟨_, _, rfl, rfl, rfl⟩
    · obtain ⟨g, off, cap, rfl, hgw, hgc⟩ := HA.out.m.form (by omega)
      obtain ⟨_, y1, _⟩ := hgc i hi
      clear hgc
      have hi2 : (i : Int) < (l.length : Int) := by omega
      have q1 : decide ((0 : Int) ≤ i) = true := decide_eq_true (by omega)
      obtain ⟨ml, hml⟩ : ∃ ml, (l[i]'hi).l = ml := ⟨_, rfl⟩
      rw [hml] at y1 hti
      clear hml
      by_cases hm : ml = cl
      · subst hm
        obtain rfl : th = true := by rw [hti]; exact decide_eq_true rfl
        clear hti
        go_quiet (fail)
        go_wp2
        go_meet
        exact ⟨_, _, rfl, rfl, rfl⟩
      · obtain rfl : th = false := by rw [hti]; exact decide_eq_false hm
        have q3 : ((ml : Int) == (cl : Int)) = false := by simp; omega
        clear hti hm
        go_quiet (fail)
        go_wp2
        go_meet
        exact ⟨_, _, rfl, rfl, rfl⟩
  case rest =>
    obtain ⟨m, w4, rfl, hw4, hw5⟩ := hcut
    subst hw4
    have HA4 : Hid (RefAt w A C D e s lv l 0 n cl ce w4) := Lib.hid (hw5 ▸ HA.out.on (below_drN2 _ _))
    clear hw5 HA d0 d1 d2 d3 d4 d5 d6 d7 d8 d9 c2
    obtain ⟨d0, d1, d2, d3, d4, d5, d6, d7, d8, d9⟩ := HA4.out.v.ten34
    have c0 : w4.cell? ⟨C, 0, none⟩ = some (.int .u8 0) := HA4.out.c.cell 0
    have c1 : w4.cell? ⟨C, 1, none⟩ = some (.int .u8 n) := HA4.out.c.cell 1
    have c2 : w4.cell? ⟨C, 2, none⟩ = some (.int .u8 cl) := HA4.out.c.cell 2
    have c3 : w4.cell? ⟨C, 3, none⟩ = some (.int .u32 ce) := HA4.out.c.cell 3
    have f0 := HA4.out.d.frozen 0
    have f1 := HA4.out.d.frozen 1
    have f2 := HA4.out.d.frozen 2
    have f3 := HA4.out.d.frozen 3
    have f4 := HA4.out.d.frozen 4
    have f5 := HA4.out.d.frozen 5
    have f6 := HA4.out.d.frozen 6
    have f7 := HA4.out.d.frozen 7
    have f8 := HA4.out.d.frozen 8
    have f9 := HA4.out.d.frozen 9
    obtain ⟨e0, e1, e2, e3, e4, e5, e6, e7, e8, e9⟩ := HA4.out.d.ten34
    obtain ⟨hAC, hAD, hCD⟩ := HA4.out.ne
    have hDw := HA4.out.d.lt
    obtain ⟨sa, sc, rfl⟩ := HA4.out.m.len
    go_wp2
    obtain ⟨wf, hwf⟩ : ∃ wf, wf = (((((((((w4.setCell ⟨D, 0, none⟩ (.int .u32 e)).setCell ⟨D, 1, none⟩ (.slice sa l.length sc)).setCell ⟨D, 2, none⟩ (.int .u8 lv.a)).setCell ⟨D, 3, none⟩ (.int .u8 lv.b)).setCell ⟨D, 4, none⟩ (.int .u8 lv.c)).setCell ⟨D, 5, none⟩ (.int .u8 lv.d)).setCell ⟨D, 6, none⟩ (.int .u8 lv.e)).setCell ⟨D, 7, none⟩ (.int .u8 lv.f)).setCell ⟨D, 8, none⟩ (.int .u8 lv.g)).setCell ⟨D, 9, none⟩ (.int .u8 lv.h) := ⟨_, rfl⟩
    rw [← hwf]
    obtain ⟨hF, hM, hB⟩ := HA4.out.done e sa l.length sc lv l HA4.out.m hwf
    clear hwf d0 d1 d2 d3 d4 d5 d6 d7 d8 d9 e0 e1 e2 e3 e4 e5 e6 e7 e8 e9 f0 f1 f2 f3 f4 f5 f6 f7 f8 f9
    obtain ⟨x0, x1, x2, x3, x4, x5, x6, x7, x8, x9⟩ := hF.ten34
    refine bodyPost_ret (v := .tuple #[.agg (vC e (.slice sa l.length sc) lv), .bool true]) ?_ rfl ⟨_, rfl, hM, hB⟩
    simp [results, Try.results10, go_sem, x0, x1, x2, x3, x4, x5, x6, x7, x8, x9]
end Go.Proofs.Ytkgahhfemlebmaa
