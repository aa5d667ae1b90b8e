/-
  Equality of views that are alike, of frames that are alike.
-/
import Derived.Test.YtodajejjhfpdmaaDoorFrlC
namespace Go.Proofs.YtodajejjhfpdmaaDoor
open Go.RowKit Go.Instr

theorem Tryd.infoB : (Tryd.prog.info? 5).map (fun i => (i.zero, i.size, i.bytes)) = some (some (.int .u8 0), 1, 1) := by kernel_rfl
theorem infoPB : ∃ i, Tryd.prog.info? 5 = some i ∧ i.size = 1 := by
  cases hi : Tryd.prog.info? 5 with
  | none => have h := Tryd.infoB; simp [hi] at h
  | some i => have h := Tryd.infoB; simp [hi] at h; exact ⟨i, rfl, h.2.1⟩
theorem cellsB : Tryd.prog.cellsOf 5 = 1 := by kernel_rfl
theorem eqItems_cons (x y : Nat) (xs ys : Array Value) (i : Nat) (is : List Nat) (w : World) (r : Bool) (hx : xs[i]? = some (.int .u8 x)) (hy : ys[i]? = some (.int .u8 y)) (hr : Sem.run Tryd.prog (Op.eqItems 9999 5 1 xs ys is) w = .ok r w) :
    Sem.run Tryd.prog (Op.eqItems 9999 5 1 xs ys (i :: is)) w = .ok (decide (x = y) && r) w := by
  have u5 := Tryd.underlying5
  have z5 := Tryd.sizeOf5
  have a5 := Tryd.isAgg5
  obtain ⟨hxl, hx'⟩ := Array.getElem?_eq_some_iff.1 hx
  obtain ⟨hyl, hy'⟩ := Array.getElem?_eq_some_iff.1 hy
  simp only [Op.eqItems, Nat.mul_one]
  by_cases h : x = y
  · subst h
    go_simp
  · have hne : ¬ (x : Int) = y := by omega
    go_simp
theorem arr_same (l : Lv) (w : World) : Sem.run Tryd.prog (binOp .eql 26 (.agg #[.int .u8 l.a, .int .u8 l.b, .int .u8 l.c, .int .u8 l.d, .int .u8 l.e, .int .u8 l.f, .int .u8 l.g, .int .u8 l.h]) (.agg #[.int .u8 l.a, .int .u8 l.b, .int .u8 l.c, .int .u8 l.d, .int .u8 l.e, .int .u8 l.f, .int .u8 l.g, .int .u8 l.h])) w = .ok (.bool true) w := by
  obtain ⟨i0, hi0, _⟩ := infoPB
  rw [run_eql_struct, show (10000 : Nat) = 9999 + 1 from rfl, run_equalIn_array w 9999 _ _ Tryd.underlying26 hi0, cellsB]
  rw [show List.range 8 = [0, 1, 2, 3, 4, 5, 6, 7] from rfl]
  have h := eqItems_cons l.a l.a #[.int .u8 l.a, .int .u8 l.b, .int .u8 l.c, .int .u8 l.d, .int .u8 l.e, .int .u8 l.f, .int .u8 l.g, .int .u8 l.h] #[.int .u8 l.a, .int .u8 l.b, .int .u8 l.c, .int .u8 l.d, .int .u8 l.e, .int .u8 l.f, .int .u8 l.g, .int .u8 l.h] 0 _ w _ rfl rfl
    (eqItems_cons l.b l.b _ _ 1 _ w _ rfl rfl (eqItems_cons l.c l.c _ _ 2 _ w _ rfl rfl (eqItems_cons l.d l.d _ _ 3 _ w _ rfl rfl (eqItems_cons l.e l.e _ _ 4 _ w _ rfl rfl (eqItems_cons l.f l.f _ _ 5 _ w _ rfl rfl (eqItems_cons l.g l.g _ _ 6 _ w _ rfl rfl (eqItems_cons l.h l.h _ _ 7 [] w true rfl rfl rfl)))))))
  rw [h]
  simp
set_option maxHeartbeats 1000000 in
theorem vSame_same (e : Nat) (s t : Value) (lv : Lv) (l : List Mem) (w : World) (hl : l.length ≤ 40) (hs : memR.At w s l) (ht : memR.At w t l) :
    Calls Tryd.prog 16 #[.agg (vwC e s lv), .agg (vwC e t lv)] w (retB true w) := by
  have HS := Lib.hid hs
  have HT := Lib.hid ht
  clear hs ht
  have hrun := arr_same lv
  have HB0 : Hid (Blk ((w.alloc (.cells (vwC e s lv) 44)).alloc (.cells (vwC e t lv) 44)) w.heap.size (vwC e s lv) 44) := Lib.hid ((Blk.new rfl).alloc _)
  have HB1 : Hid (Blk ((w.alloc (.cells (vwC e s lv) 44)).alloc (.cells (vwC e t lv) 44)) (w.heap.size + 1) (vwC e t lv) 44) := Lib.hid (Blk.new (by simp))
  go_enter Tryd.func16, Tryd.ntmps16
  go_wp2_with fail
  refine (eqM_any s t l l true _ hl hl ((HS.out.al _).al _) ((HT.out.al _).al _) (by simp)).mono ?_
  rintro en w1 ⟨rfl, hB⟩
  have HB : Hid (Below w.heap.size w w1) := Lib.hid (m_below_on (by go_grown) hB)
  have d2 := (HB0.out.on hB).cell 2
  have d3 := (HB0.out.on hB).cell 3
  have d4 := (HB0.out.on hB).cell 4
  have d5 := (HB0.out.on hB).cell 5
  have d6 := (HB0.out.on hB).cell 6
  have d7 := (HB0.out.on hB).cell 7
  have d8 := (HB0.out.on hB).cell 8
  have d9 := (HB0.out.on hB).cell 9
  have e2 := (HB1.out.on hB).cell 2
  have e3 := (HB1.out.on hB).cell 3
  have e4 := (HB1.out.on hB).cell 4
  have e5 := (HB1.out.on hB).cell 5
  have e6 := (HB1.out.on hB).cell 6
  have e7 := (HB1.out.on hB).cell 7
  have e8 := (HB1.out.on hB).cell 8
  have e9 := (HB1.out.on hB).cell 9
  simp at d2 d3 d4 d5 d6 d7 d8 d9 e2 e3 e4 e5 e6 e7 e8 e9
  clear hB
  go_wp2_with fail
  go_ret
  exact ⟨rfl, HB.out⟩
end Go.Proofs.YtodajejjhfpdmaaDoor
