/-
  Equality of views in general.
-/
import Derived.Test.YtodajejjhfpdmaaDoorFrlD
namespace Go.Proofs.YtodajejjhfpdmaaDoor
open Go.RowKit Go.Instr

def SameP (p : Prop) (w : World) (e : Ending) (w' : World) : Prop := ∃ r : Bool, e = .returned (.bool r) ∧ (r = true ↔ p) ∧ Below w.heap.size w w'
def lvEq (l m : Lv) : Bool := decide (l.a = m.a) && (decide (l.b = m.b) && (decide (l.c = m.c) && (decide (l.d = m.d) && (decide (l.e = m.e) && (decide (l.f = m.f) && (decide (l.g = m.g) && (decide (l.h = m.h) && true)))))))
theorem lvEq_iff (l m : Lv) : lvEq l m = true ↔ l = m := by
  cases l
  cases m
  simp [lvEq, Lv.mk.injEq]
theorem arr_any (l m : Lv) (w : World) : Sem.run Tryd.prog (binOp .eql 26 (.agg #[.int .u8 l.a, .int .u8 l.b, .int .u8 l.c, .int .u8 l.d, .int .u8 l.e, .int .u8 l.f, .int .u8 l.g, .int .u8 l.h]) (.agg #[.int .u8 m.a, .int .u8 m.b, .int .u8 m.c, .int .u8 m.d, .int .u8 m.e, .int .u8 m.f, .int .u8 m.g, .int .u8 m.h])) w = .ok (.bool (lvEq l m)) w := by
  obtain ⟨i0, hi0, _⟩ := infoPB
  rw [run_eql_struct, show (10000 : Nat) = 9999 + 1 from rfl, run_equalIn_array w 9999 _ _ Tryd.underlying26 hi0, cellsB]
  rw [show List.range 8 = [0, 1, 2, 3, 4, 5, 6, 7] from rfl]
  have h := eqItems_cons l.a m.a #[.int .u8 l.a, .int .u8 l.b, .int .u8 l.c, .int .u8 l.d, .int .u8 l.e, .int .u8 l.f, .int .u8 l.g, .int .u8 l.h] #[.int .u8 m.a, .int .u8 m.b, .int .u8 m.c, .int .u8 m.d, .int .u8 m.e, .int .u8 m.f, .int .u8 m.g, .int .u8 m.h] 0 _ w _ rfl rfl (eqItems_cons l.b m.b _ _ 1 _ w _ rfl rfl (eqItems_cons l.c m.c _ _ 2 _ w _ rfl rfl (eqItems_cons l.d m.d _ _ 3 _ w _ rfl rfl (eqItems_cons l.e m.e _ _ 4 _ w _ rfl rfl (eqItems_cons l.f m.f _ _ 5 _ w _ rfl rfl (eqItems_cons l.g m.g _ _ 6 _ w _ rfl rfl (eqItems_cons l.h m.h _ _ 7 [] w true rfl rfl rfl)))))))
  rw [h]
  simp [lvEq]
set_option maxHeartbeats 2000000 in
theorem vSame_any (e e' : Nat) (s t : Value) (lv mv : Lv) (l k : List Mem) (w : World) (hl : l.length ≤ 40) (hk : k.length ≤ 40) (hs : memR.At w s l) (ht : memR.At w t k) :
    Calls Tryd.prog 16 #[.agg (vwC e s lv), .agg (vwC e' t mv)] w (SameP (e = e' ∧ l = k ∧ lv = mv) w) := by
  have HS := Lib.hid hs
  have HT := Lib.hid ht
  clear hs ht
  have HB0 : Hid (Blk ((w.alloc (.cells (vwC e s lv) 44)).alloc (.cells (vwC e' t mv) 44)) w.heap.size (vwC e s lv) 44) := Lib.hid ((Blk.new rfl).alloc _)
  have HB1 : Hid (Blk ((w.alloc (.cells (vwC e s lv) 44)).alloc (.cells (vwC e' t mv) 44)) (w.heap.size + 1) (vwC e' t mv) 44) := Lib.hid (Blk.new (by simp))
  have HBB : Hid (Below w.heap.size w ((w.alloc (.cells (vwC e s lv) 44)).alloc (.cells (vwC e' t mv) 44))) := Lib.hid (by go_grown)
  by_cases he : e = e'
  · subst he
    by_cases hlk : l = k
    · subst hlk
      have hrun := arr_any lv mv
      obtain ⟨r, hr⟩ : ∃ r, r = lvEq lv mv := ⟨_, rfl⟩
      rw [← hr] at hrun
      have HR := Lib.hid (show r = true ↔ lv = mv by rw [hr]; exact lvEq_iff lv mv)
      clear hr
      go_enter Tryd.func16, Tryd.ntmps16
      go_wp2_with fail
      refine (eqM_any s t l l true _ hl hl ((HS.out.al _).al _) ((HT.out.al _).al _) (by simp)).mono ?_
      rintro en w1 ⟨rfl, hB⟩
      have HB : Hid (Below w.heap.size w w1) := Lib.hid (m_below_on HBB.out hB)
      have d2 := (HB0.out.on hB).cell 2
      have d3 := (HB0.out.on hB).cell 3
      have d4 := (HB0.out.on hB).cell 4
      have d5 := (HB0.out.on hB).cell 5
      have d6 := (HB0.out.on hB).cell 6
      have d7 := (HB0.out.on hB).cell 7
      have d8 := (HB0.out.on hB).cell 8
      have d9 := (HB0.out.on hB).cell 9
      have e2 := (HB1.out.on hB).cell 2
      have e3 := (HB1.out.on hB).cell 3
      have e4 := (HB1.out.on hB).cell 4
      have e5 := (HB1.out.on hB).cell 5
      have e6 := (HB1.out.on hB).cell 6
      have e7 := (HB1.out.on hB).cell 7
      have e8 := (HB1.out.on hB).cell 8
      have e9 := (HB1.out.on hB).cell 9
      simp at d2 d3 d4 d5 d6 d7 d8 d9 e2 e3 e4 e5 e6 e7 e8 e9
      clear hB
      go_wp2_with fail
      go_ret
      exact ⟨r, rfl, by rw [HR.out]; simp, HB.out⟩
    · go_enter Tryd.func16, Tryd.ntmps16
      go_wp2_with fail
      refine (eqM_any s t l k false _ hl hk ((HS.out.al _).al _) ((HT.out.al _).al _) (by simp [hlk])).mono ?_
      rintro en w1 ⟨rfl, hB⟩
      have HB : Hid (Below w.heap.size w w1) := Lib.hid (m_below_on HBB.out hB)
      clear hB
      go_wp2_with fail
      go_ret
      exact ⟨false, rfl, by simp [hlk], HB.out⟩
  · have hne : ¬ (e : Int) = (e' : Int) := by omega
    go_enter Tryd.func16, Tryd.ntmps16
    go_wp2_with fail
    go_ret
    exact ⟨false, rfl, by simp [he], HBB.out⟩
end Go.Proofs.YtodajejjhfpdmaaDoor
