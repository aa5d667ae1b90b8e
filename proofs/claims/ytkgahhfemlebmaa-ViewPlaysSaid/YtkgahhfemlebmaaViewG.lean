/-
  The walk of view's Apply: what it returns, whatever the view and the command.
-/
import Derived.Test.YtkgahhfemlebmaaViewF
namespace Go.Proofs.Ytkgahhfemlebmaa
open Go.RowKit Go.Instr

theorem idx_cases (p : Mem → Bool) (l : List Mem) : idxOf p l = -1 ∨ ∃ i : Nat, idxOf p l = i ∧ i < l.length := by
  have h := idxOf_bd p l
  by_cases h0 : 0 ≤ idxOf p l
  · right
    obtain ⟨i, hi⟩ := Int.eq_ofNat_of_zero_le h0
    exact ⟨i, hi, by omega⟩
  · left; omega
theorem change_any (base B : Nat) (s : Value) (v : Vw) (c : Cmd) (w : World) (hl : v.l.length ≤ 40) (hv : Blk w B (vC v.e s v.lv) 28) (hs : OwnM w base s v.l) (hbw : base ≤ w.heap.size) (he : v.e < 4294967296) (hc : c.fine) :
    Calls Try.prog 21 #[.pointer (some ⟨B, 0, none⟩), .agg (cC c)] w (ChgV base B w (v.apply c)) := by
  obtain ⟨e, lv, l⟩ := v
  obtain ⟨k, n, cl, ce, cr⟩ := c
  obtain ⟨h1, h2, h3, h4, h5⟩ := hc
  simp only at *
  unfold Vw.apply ChgV
  simp only
  by_cases k0 : k = 0
  · subst k0
    rw [if_pos rfl]
    exact change_0 base B e s lv l n cl ce cr w hl hv hs hbw
  rw [if_neg k0]
  by_cases k1 : k = 1
  · subst k1
    rw [if_pos rfl]
    by_cases hf : freeB n cl lv l = true ∧ e ≠ 4294967295
    · rw [if_pos hf]
      have hn := decide_eq_true_iff.1 hf.1
      obtain ⟨j, rfl⟩ : ∃ j, n = j + 1 := ⟨n - 1, by omega⟩
      exact change_1y base B e s lv l j cl ce cr w hl hv hs hbw (by omega) h3 (by omega) hf.1
    · rw [if_neg hf]
      refine change_1n base B e s lv l n cl ce cr w hl hv hs hbw h2 h3 ?_
      by_cases hb : freeB n cl lv l = true
      · right
        by_cases he2 : e = 4294967295
        · exact he2
        · exact absurd ⟨hb, he2⟩ hf
      · left; simpa using hb
  rw [if_neg k1]
  by_cases k2 : k = 2
  · subst k2
    rw [if_pos rfl]
    rcases idx_cases (isBoth n cl) l with hx | ⟨i, hx, hi⟩
    · rw [if_neg (by rw [hx]; intro h; omega)]
      exact change_2x base B e s lv l n cl ce cr w hl hv hs hbw hx
    · rw [hx, Int.toNat_natCast]
      by_cases hr : remB e l i = true
      · rw [if_pos ⟨by omega, hr⟩]
        exact change_2y base B e s lv l n cl ce cr w hl hv hs hbw i hx hi he hr
      · rw [if_neg (fun h => hr h.2)]
        exact change_2n base B e s lv l n cl ce cr w hl hv hs hbw i hx hi he (by simpa using hr)
  rw [if_neg k2]
  by_cases k3 : k = 3
  · subst k3
    rw [if_pos rfl]
    rcases idx_cases (isBoth n cl) l with hx | ⟨i, hx, hi⟩
    · rw [if_neg (by rw [hx]; omega)]
      exact change_3x base B e s lv l n cl ce cr w hl hv hs hbw hx
    · rw [hx, Int.toNat_natCast, if_pos (by omega)]
      exact change_3y base B e s lv l n cl ce cr w hl hv hs hbw i hx hi
  rw [if_neg k3]
  by_cases k4 : k = 4
  · subst k4
    rw [if_pos rfl]
    rcases idx_cases (isBoth n cl) l with hx | ⟨i, hx, hi⟩
    · have e1 : decide (0 ≤ idxOf (isBoth n cl) l ∧ ce = e) = false := by rw [hx]; simp
      rw [e1]
      exact change_4x base B e s lv l n cl ce cr w hl hv hs hbw hx
    · have e1 : decide (0 ≤ idxOf (isBoth n cl) l ∧ ce = e) = decide (ce = e) := by rw [hx, Bool.eq_iff_iff]; simp
      rw [e1]
      exact change_4y base B e s lv l n cl ce cr w hl hv hs hbw i hx
  rw [if_neg k4]
  exact change_x base B e s lv l k n cl ce cr w hl hv hs hbw (by omega)
/-- What Apply leaves. -/
def AppP (w : World) (r : Vw × Bool) (en : Ending) (w' : World) : Prop := ∃ s, en = .returned (.tuple #[.agg (vC r.1.e s r.1.lv), .bool r.2]) ∧ MemsAt w' s r.1.l ∧ Below w.heap.size w w'
theorem OwnM.al {w : World} {base : Nat} {s : Value} {l : List Mem} (h : OwnM w base s l) (o : Obj) : OwnM (w.alloc o) base s l := h.on (by go_grown)
theorem OwnM.set {w : World} {base : Nat} {s : Value} {l : List Mem} (h : OwnM w base s l) {B j : Nat} {v : Value} {cs : Array Value} (hv : Blk w B cs 28) : OwnM (w.setCell ⟨B, j, none⟩ v) base s l := by
  refine ⟨h.1, ?_⟩
  rcases h.2 with hn | ⟨g, cap, cur, rfl, hb, hg, rest⟩
  · exact .inl hn
  · refine .inr ⟨g, cap, cur, rfl, hb, ?_, rest⟩
    have hne : g ≠ B := fun e => h.ne hv e.symm
    exact (Below.heap_setCell w ⟨B, j, none⟩ v g hne).trans hg
theorem Blk.on2 {w w' : World} {base B C : Nat} {cs : Array Value} {T : TypeId} (h : Blk w C cs T) (hB : KB base B w w') (hk : C < base) (hne : C ≠ B) : Blk w' C cs T := (hB.2 C hk hne).trans h
theorem KB.below {base B k : Nat} {w w' : World} (h : KB base B w w') (h1 : k ≤ B) (h2 : k ≤ base) : Below k w w' :=
  ⟨h.1.os, h.1.tape, h.1.output, h.1.size, fun j hj => h.2 j (by omega) (by omega)⟩
theorem vC_nobool (e : Nat) (a : Option Addr) (n c : Nat) (lv : Lv) (j : Nat) (r : Bool) : (vC e (.slice a n c) lv)[j]? ≠ some (.bool r) := by
  intro h
  match j, h with
  | 0, h => cases h
  | 1, h => cases h
  | 2, h => cases h
  | 3, h => cases h
  | 4, h => cases h
  | 5, h => cases h
  | 6, h => cases h
  | 7, h => cases h
  | 8, h => cases h
  | 9, h => cases h
  | j + 10, h => simp at h
theorem MemsAt.but {w w' : World} {D e n c : Nat} {s : Value} {a : Option Addr} {lv : Lv} {l : List Mem} (h : MemsAt w s l) (hD : Blk w D (vC e (.slice a n c) lv) 28) (hsz : w.heap.size ≤ w'.heap.size) (hk : ∀ k, k < w.heap.size → k ≠ D → w'.heap[k]? = w.heap[k]?) : MemsAt w' s l := by
  rcases h with h | ⟨b, off, cap, rfl, hb, hc⟩
  · exact .inl h
  · refine .inr ⟨b, off, cap, rfl, Nat.lt_of_lt_of_le hb hsz, fun i hi => ?_⟩
    obtain ⟨c0, c1, c2⟩ := hc i hi
    have hne : b ≠ D := by
      rintro rfl
      rw [hD.cell] at c2
      exact vC_nobool _ _ _ _ _ _ _ c2
    have e := hk b hb hne
    exact ⟨(World.cell?_of_block (a := ⟨b, off + i * 3, none⟩) e).trans c0, (World.cell?_of_block (a := ⟨b, off + i * 3 + 1, none⟩) e).trans c1, (World.cell?_of_block (a := ⟨b, off + i * 3 + 2, none⟩) e).trans c2⟩
/-- A block that a call has filled, and nothing else. -/
theorem fill_view {w : World} {D e n c : Nat} {s : Value} {lv : Lv} (h : Blk w D (vC e s lv) 28) (e' : Nat) (a : Option Addr) (lv' : Lv) (w' : World)
    (hw : w' = (((((((((w.setCell ⟨D, 0, none⟩ (.int .u32 e')).setCell ⟨D, 1, none⟩ (.slice a n c)).setCell ⟨D, 2, none⟩ (.int .u8 lv'.a)).setCell ⟨D, 3, none⟩ (.int .u8 lv'.b)).setCell ⟨D, 4, none⟩ (.int .u8 lv'.c)).setCell ⟨D, 5, none⟩ (.int .u8 lv'.d)).setCell ⟨D, 6, none⟩ (.int .u8 lv'.e)).setCell ⟨D, 7, none⟩ (.int .u8 lv'.f)).setCell ⟨D, 8, none⟩ (.int .u8 lv'.g)).setCell ⟨D, 9, none⟩ (.int .u8 lv'.h)) :
    Blk w' D (vC e' (.slice a n c) lv') 28 ∧ Below D w w' ∧ w'.heap.size = w.heap.size ∧ ∀ k, k ≠ D → w'.heap[k]? = w.heap[k]? := by
  have h0 := Blk.set h 0 (.int .u32 e') #[.int .u32 e', s, .int .u8 lv.a, .int .u8 lv.b, .int .u8 lv.c, .int .u8 lv.d, .int .u8 lv.e, .int .u8 lv.f, .int .u8 lv.g, .int .u8 lv.h] rfl
  have h1 := Blk.set h0 1 (.slice a n c) #[.int .u32 e', .slice a n c, .int .u8 lv.a, .int .u8 lv.b, .int .u8 lv.c, .int .u8 lv.d, .int .u8 lv.e, .int .u8 lv.f, .int .u8 lv.g, .int .u8 lv.h] rfl
  have h2 := Blk.set h1 2 (.int .u8 lv'.a) #[.int .u32 e', .slice a n c, .int .u8 lv'.a, .int .u8 lv.b, .int .u8 lv.c, .int .u8 lv.d, .int .u8 lv.e, .int .u8 lv.f, .int .u8 lv.g, .int .u8 lv.h] rfl
  have h3 := Blk.set h2 3 (.int .u8 lv'.b) #[.int .u32 e', .slice a n c, .int .u8 lv'.a, .int .u8 lv'.b, .int .u8 lv.c, .int .u8 lv.d, .int .u8 lv.e, .int .u8 lv.f, .int .u8 lv.g, .int .u8 lv.h] rfl
  have h4 := Blk.set h3 4 (.int .u8 lv'.c) #[.int .u32 e', .slice a n c, .int .u8 lv'.a, .int .u8 lv'.b, .int .u8 lv'.c, .int .u8 lv.d, .int .u8 lv.e, .int .u8 lv.f, .int .u8 lv.g, .int .u8 lv.h] rfl
  have h5 := Blk.set h4 5 (.int .u8 lv'.d) #[.int .u32 e', .slice a n c, .int .u8 lv'.a, .int .u8 lv'.b, .int .u8 lv'.c, .int .u8 lv'.d, .int .u8 lv.e, .int .u8 lv.f, .int .u8 lv.g, .int .u8 lv.h] rfl
  have h6 := Blk.set h5 6 (.int .u8 lv'.e) #[.int .u32 e', .slice a n c, .int .u8 lv'.a, .int .u8 lv'.b, .int .u8 lv'.c, .int .u8 lv'.d, .int .u8 lv'.e, .int .u8 lv.f, .int .u8 lv.g, .int .u8 lv.h] rfl
  have h7 := Blk.set h6 7 (.int .u8 lv'.f) #[.int .u32 e', .slice a n c, .int .u8 lv'.a, .int .u8 lv'.b, .int .u8 lv'.c, .int .u8 lv'.d, .int .u8 lv'.e, .int .u8 lv'.f, .int .u8 lv.g, .int .u8 lv.h] rfl
  have h8 := Blk.set h7 8 (.int .u8 lv'.g) #[.int .u32 e', .slice a n c, .int .u8 lv'.a, .int .u8 lv'.b, .int .u8 lv'.c, .int .u8 lv'.d, .int .u8 lv'.e, .int .u8 lv'.f, .int .u8 lv'.g, .int .u8 lv.h] rfl
  have h9 := Blk.set h8 9 (.int .u8 lv'.h) #[.int .u32 e', .slice a n c, .int .u8 lv'.a, .int .u8 lv'.b, .int .u8 lv'.c, .int .u8 lv'.d, .int .u8 lv'.e, .int .u8 lv'.f, .int .u8 lv'.g, .int .u8 lv'.h] rfl
  subst hw
  refine ⟨h9, ?_, ?_, ?_⟩
  · go_grown
  · simp
  · intro k hk
    repeat rw [Below.heap_setCell _ _ _ k hk]
set_option maxHeartbeats 1000000 in
theorem apply_any (s : Value) (v : Vw) (c : Cmd) (w : World) (hl : v.l.length ≤ 40) (hs : MemsAt w s v.l) (he : v.e < 4294967296) (hc : c.fine) :
    Calls Try.prog 9 #[.agg (vC v.e s v.lv), .agg (cC c)] w (AppP w (v.apply c)) := by
  have hch := fun base B s w hv hs hbw => change_any base B s v c w hl hv hs hbw he hc
  obtain ⟨R, hR⟩ : ∃ R, R = v.apply c := ⟨_, rfl⟩
  rw [← hR] at hch ⊢
  clear hR
  obtain ⟨e, lv, l⟩ := v
  obtain ⟨k, n, cl, ce, cr⟩ := c
  obtain ⟨⟨e', lv', l'⟩, ok⟩ := R
  simp only at hl hs he
  have HCH := Lib.hid hch
  have HL := Lib.hid hl
  have HS := Lib.hid (((hs.al (.cells (vC e s lv) 28)).al (.cells (cC ⟨k, n, cl, ce, cr⟩) 42)).al (.cells (vC 0 (.slice none 0 0) ⟨0, 0, 0, 0, 0, 0, 0, 0⟩) 28))
  have HB0 : Hid (Blk (((w.alloc (.cells (vC e s lv) 28)).alloc (.cells (cC ⟨k, n, cl, ce, cr⟩) 42)).alloc (.cells (vC 0 (.slice none 0 0) ⟨0, 0, 0, 0, 0, 0, 0, 0⟩) 28)) w.heap.size (vC e s lv) 28) := Lib.hid (((Blk.new rfl).alloc _).alloc _)
  have HB1 : Hid (Blk (((w.alloc (.cells (vC e s lv) 28)).alloc (.cells (cC ⟨k, n, cl, ce, cr⟩) 42)).alloc (.cells (vC 0 (.slice none 0 0) ⟨0, 0, 0, 0, 0, 0, 0, 0⟩) 28)) (w.heap.size + 1) (cC ⟨k, n, cl, ce, cr⟩) 42) := Lib.hid ((Blk.new (by simp)).alloc _)
  have HB2 : Hid (Blk (((w.alloc (.cells (vC e s lv) 28)).alloc (.cells (cC ⟨k, n, cl, ce, cr⟩) 42)).alloc (.cells (vC 0 (.slice none 0 0) ⟨0, 0, 0, 0, 0, 0, 0, 0⟩) 28)) (w.heap.size + 1 + 1) (vC 0 (.slice none 0 0) ⟨0, 0, 0, 0, 0, 0, 0, 0⟩) 28) := Lib.hid (Blk.new (by simp))
  have HBW : Hid (Below w.heap.size w (((w.alloc (.cells (vC e s lv) 28)).alloc (.cells (cC ⟨k, n, cl, ce, cr⟩) 42)).alloc (.cells (vC 0 (.slice none 0 0) ⟨0, 0, 0, 0, 0, 0, 0, 0⟩) 28))) := Lib.hid (by go_grown)
  clear hch hl hs
  go_enter Try.func9, Try.ntmps9
  go_upto_region 1 with fail
  generalize (((w.alloc (.cells (vC e s lv) 28)).alloc (.cells (cC ⟨k, n, cl, ce, cr⟩) 42)).alloc (.cells (vC 0 (.slice none 0 0) ⟨0, 0, 0, 0, 0, 0, 0, 0⟩) 28)) = w1 at *
  obtain ⟨A, hA⟩ : ∃ A, A = w.heap.size := ⟨_, rfl⟩
  rw [← hA] at HB0 HB1 HB2
  simp only [← hA]
  have HAE := Lib.hid hA
  clear hA
  obtain ⟨C, hC⟩ : ∃ C, C = A + 1 := ⟨_, rfl⟩
  obtain ⟨D, hD⟩ : ∃ D, D = A + 1 + 1 := ⟨_, rfl⟩
  rw [← hC] at HB1
  rw [← hD] at HB2
  simp only [← hD]
  simp only [← hC]
  have hAC : A ≠ C := by omega
  have hAD : A ≠ D := by omega
  have hCD : C ≠ D := by omega
  have HAC := Lib.hid hC
  have HAD := Lib.hid hD
  clear hC hD
  have hAw : A < w1.heap.size := HB0.out.lt
  have hCw : C < w1.heap.size := HB1.out.lt
  have hDw : D < w1.heap.size := HB2.out.lt
  have d1 := HB0.out.cell 1
  simp at d1
  go_wp2_with fail
  refine (clone_any s l _ HL.out HS.out).mono ?_
  rintro en w2 ⟨s2, rfl, hO, hB⟩
  obtain ⟨a2, cap2, rfl⟩ := hO.mems.len
  have HO := Lib.hid hO
  have HBA := Lib.hid hB
  clear hO hB d1
  have HB0' := Lib.hid (HB0.out.on HBA.out)
  have HB1' := Lib.hid (HB1.out.on HBA.out)
  have HB2' := Lib.hid (HB2.out.on HBA.out)
  have d1 := HB0'.out.cell 1
  have f1 := HB0'.out.frozen 1
  obtain ⟨c0, c1, c2, c3, c4⟩ : w2.cell? ⟨C, 0, none⟩ = some (.int .u8 k) ∧ w2.cell? ⟨C, 1, none⟩ = some (.int .u8 n) ∧ w2.cell? ⟨C, 2, none⟩ = some (.int .u8 cl) ∧ w2.cell? ⟨C, 3, none⟩ = some (.int .u32 ce) ∧ w2.cell? ⟨C, 4, none⟩ = some (.int .u32 cr) :=
    ⟨HB1'.out.cell 0, HB1'.out.cell 1, HB1'.out.cell 2, HB1'.out.cell 3, HB1'.out.cell 4⟩
  simp at d1
  go_wp2_with fail
  have HV3 : Hid (Blk (w2.setCell ⟨A, 1, none⟩ (.slice a2 l.length cap2)) A (vC e (.slice a2 l.length cap2) lv) 28) := Lib.hid (Blk.set HB0'.out 1 _ _ rfl)
  have HO3 : Hid (OwnM (w2.setCell ⟨A, 1, none⟩ (.slice a2 l.length cap2)) w1.heap.size (.slice a2 l.length cap2) l) := Lib.hid (HO.out.set HB0'.out)
  have HD3 : Hid (Blk (w2.setCell ⟨A, 1, none⟩ (.slice a2 l.length cap2)) D _ 28) := Lib.hid (HB2'.out.set_other 1 _ hAD.symm)
  have hsz := HBA.out.size
  refine (HCH.out w1.heap.size A _ _ HV3.out HO3.out (by simp; omega)).mono ?_
  rintro en w3 ⟨s3, rfl, hV, hM, hK⟩
  simp only at hV hM
  obtain ⟨a3, cap3, rfl⟩ := hM.len
  have HV4 := Lib.hid hV
  have HM4 := Lib.hid hM
  have HD4 := Lib.hid (HD3.out.on2 hK hDw hAD.symm)
  have HBB : Hid (Below w.heap.size w w3) := Lib.hid (by
    have h1 : Below w.heap.size w w2 := HBW.out.trans (HBA.out.mono (by rw [← HAE.out]; omega))
    have h2 : Below w.heap.size w (w2.setCell ⟨A, 1, none⟩ (.slice a2 l.length cap2)) := h1.setCell (by rw [← HAE.out]; exact Nat.le_refl _) _
    exact h2.trans (hK.below (by rw [← HAE.out]; exact Nat.le_refl _) (by rw [← HAE.out]; omega)))
  clear hV hM hK c0 c1 c2 c3 c4 d1 f1
  obtain ⟨d0, d1, d2, d3, d4, d5, d6, d7, d8, d9⟩ := HV4.out.ten
  obtain ⟨e0, e1, e2, e3, e4, e5, e6, e7, e8, e9⟩ := HD4.out.ten
  have f0 := HD4.out.frozen 0
  have f1 := HD4.out.frozen 1
  have f2 := HD4.out.frozen 2
  have f3 := HD4.out.frozen 3
  have f4 := HD4.out.frozen 4
  have f5 := HD4.out.frozen 5
  have f6 := HD4.out.frozen 6
  have f7 := HD4.out.frozen 7
  have f8 := HD4.out.frozen 8
  have f9 := HD4.out.frozen 9
  go_wp2
  obtain ⟨wf, hwf⟩ : ∃ wf, wf = (((((((((w3.setCell ⟨D, 0, none⟩ (.int .u32 e')).setCell ⟨D, 1, none⟩ (.slice a3 l'.length cap3)).setCell ⟨D, 2, none⟩ (.int .u8 lv'.a)).setCell ⟨D, 3, none⟩ (.int .u8 lv'.b)).setCell ⟨D, 4, none⟩ (.int .u8 lv'.c)).setCell ⟨D, 5, none⟩ (.int .u8 lv'.d)).setCell ⟨D, 6, none⟩ (.int .u8 lv'.e)).setCell ⟨D, 7, none⟩ (.int .u8 lv'.f)).setCell ⟨D, 8, none⟩ (.int .u8 lv'.g)).setCell ⟨D, 9, none⟩ (.int .u8 lv'.h) := ⟨_, rfl⟩
  rw [← hwf]
  obtain ⟨hF, hFB, hFs, hFo⟩ := fill_view HD4.out e' a3 lv' wf hwf
  have HM5 := Lib.hid (HM4.out.but HD4.out (by omega) (fun k _ hk => hFo k hk))
  have HB5 : Hid (Below w.heap.size w wf) := Lib.hid (HBB.out.trans (hFB.mono (by rw [← HAE.out, HAD.out]; omega)))
  clear hwf hFB hFs hFo d0 d1 d2 d3 d4 d5 d6 d7 d8 d9 e0 e1 e2 e3 e4 e5 e6 e7 e8 e9 f0 f1 f2 f3 f4 f5 f6 f7 f8 f9
  obtain ⟨x0, x1, x2, x3, x4, x5, x6, x7, x8, x9⟩ := hF.ten
  refine bodyPost_ret (v := .tuple #[.agg (vC e' (.slice a3 l'.length cap3) lv'), .bool ok]) ?_ rfl ⟨_, rfl, HM5.out, HB5.out⟩
  simp [results, Try.results9, go_sem, x0, x1, x2, x3, x4, x5, x6, x7, x8, x9]
end Go.Proofs.Ytkgahhfemlebmaa
