/-
  The walk of register's Apply: the new value, the answer, and whether the operation writes.
-/
import Derived.Test.YtegjgdiollafkaaDoorRegC
namespace Go.Proofs.YtegjgdiollafkaaDoor
open Go.RowKit Go.Instr

/-- What an operation makes of a value. -/
def applyV (v : V) (x : O) : Res :=
  if x.good = true then
    if x.kind = 2 then (⟨true, x.s⟩, 0, ⟨false, ⟨#[]⟩⟩, true)
    else if x.kind = 3 then (⟨false, ⟨#[]⟩⟩, 0, ⟨false, ⟨#[]⟩⟩, true)
    else if x.kind = 4 then (if v.has = x.oh ∧ v.s = x.os then (⟨true, x.s⟩, 0, ⟨false, ⟨#[]⟩⟩, true) else (v, 11, v, false))
    else if x.kind = 5 then addV v x.n
    else (v, 0, v, false)
  else (v, 1, ⟨false, ⟨#[]⟩⟩, false)
/-- The four blocks of a call: the boxed value, the boxed operation, and the two results, still zero. -/
def Ap4 (w : World) (B : Nat) (v : V) (x : O) : Prop := Blk w B (vC v) 26 ∧ Blk w (B + 1) (oC x) 29 ∧ Blk w (B + 1 + 1) #[.bool false, .string ⟨#[]⟩] 26 ∧ Blk w (B + 1 + 1 + 1) #[.int .i64 0, .bool false, .string ⟨#[]⟩] 40
theorem Ap4.on {w w' : World} {B : Nat} {v : V} {x : O} (h : Ap4 w B v x) (hB : Below w.heap.size w w') : Ap4 w' B v x := ⟨h.1.on hB, h.2.1.on hB, h.2.2.1.on hB, h.2.2.2.on hB⟩
theorem Ap4.start (w : World) (v : V) (x : O) : Ap4 ((((w.alloc (.cells (vC v) 26)).alloc (.cells (oC x) 29)).alloc (.cells #[.bool false, .string ⟨#[]⟩] 26)).alloc (.cells #[.int .i64 0, .bool false, .string ⟨#[]⟩] 40)) w.heap.size v x :=
  ⟨Blk.alloc (Blk.alloc (Blk.alloc (Blk.new rfl) _) _) _, Blk.alloc (Blk.alloc (Blk.new (by simp)) _) _, Blk.alloc (Blk.new (by simp)) _, Blk.new (by simp)⟩
set_option maxHeartbeats 1000000 in
theorem apply_bad (kind : Int) (vh : Bool) (vs : ByteArray) (key : Int) (xs : ByteArray) (oh : Bool) (os : ByteArray) (n : Int) (w : World) (hg : O.good ⟨kind, key, xs, oh, os, n⟩ = false) : Calls Tryd.prog 10 #[.agg (vC ⟨vh, vs⟩), .agg (oC ⟨kind, key, xs, oh, os, n⟩)] w fun en w' => en = .returned (.tuple #[.agg #[.bool vh, .string vs], .agg #[.int .i64 1, .bool false, .string ⟨#[]⟩], .bool false]) ∧ Below w.heap.size w w' := by
  have HA := Lib.hid (Ap4.start w ⟨vh, vs⟩ ⟨kind, key, xs, oh, os, n⟩)
  have HG := Lib.hid hg
  clear hg
  go_enter Tryd.func10, Tryd.ntmps10
  go_wp2_with (first | (go_at_call 7; (with_reducible refine (good_any ⟨kind, key, xs, oh, os, n⟩ _).mono ?_); rw [HG.out]; rintro e w1 ⟨rfl, hB⟩; have HB1 : Hid (Below w.heap.size w w1) := g_below_on (by go_grown) hB; have HA1 := Lib.hid (HA.out.on hB); clear hB; have x0 := HA1.out.1.cell 0; have x1 := HA1.out.1.cell 1; have o0 := HA1.out.2.1.cell 0; have o2 := HA1.out.2.1.cell 2; have o3 := HA1.out.2.1.cell 3; have o4 := HA1.out.2.1.cell 4; have o5 := HA1.out.2.1.cell 5; simp at x0 x1 o0 o2 o3 o4 o5) | (go_at_call 12; (with_reducible refine (keep_any ⟨vh, vs⟩ ⟨false, ⟨#[]⟩⟩ 1 _).mono ?_); rintro e w2 ⟨rfl, hB⟩; have HB2 : Hid (Below w.heap.size w w2) := g_below_on HB1.out hB; have HA2 := Lib.hid (HA1.out.on hB); clear hB; have y0 := HA2.out.2.2.1.cell 0; have y1 := HA2.out.2.2.1.cell 1; have z0 := HA2.out.2.2.2.cell 0; have z1 := HA2.out.2.2.2.cell 1; have z2 := HA2.out.2.2.2.cell 2; simp at y0 y1 z0 z1 z2; have f0 := HA2.out.2.2.1.frozen 0; have f1 := HA2.out.2.2.1.frozen 1; have g0 := HA2.out.2.2.2.frozen 0; have g1 := HA2.out.2.2.2.frozen 1; have g2 := HA2.out.2.2.2.frozen 2))
  obtain ⟨c0, c1, c2, c3, c4, hb⟩ := set5 (a := .bool vh) (b := .string vs) (c := .int .i64 1) (d := .bool false) (e := .string ⟨#[]⟩) HA2.out.2.2.1 HA2.out.2.2.2 (by omega) HB2.out (by omega) (by omega)
  exact bodyPost_ret (v := .tuple #[.agg #[.bool vh, .string vs], .agg #[.int .i64 1, .bool false, .string ⟨#[]⟩], .bool false]) (by simp [results, Tryd.results10, go_sem, c0, c1, c2, c3, c4]) rfl ⟨rfl, hb⟩
set_option maxHeartbeats 1000000 in
theorem apply_put (vh : Bool) (vs : ByteArray) (key : Int) (xs : ByteArray) (oh : Bool) (os : ByteArray) (n : Int) (w : World) (hg : O.good ⟨2, key, xs, oh, os, n⟩ = true) : Calls Tryd.prog 10 #[.agg (vC ⟨vh, vs⟩), .agg (oC ⟨2, key, xs, oh, os, n⟩)] w fun en w' => en = .returned (.tuple #[.agg #[.bool true, .string xs], .agg #[.int .i64 0, .bool false, .string ⟨#[]⟩], .bool true]) ∧ Below w.heap.size w w' := by
  have HA := Lib.hid (Ap4.start w ⟨vh, vs⟩ ⟨2, key, xs, oh, os, n⟩)
  have HG := Lib.hid hg
  clear hg
  go_enter Tryd.func10, Tryd.ntmps10
  go_wp2_with (first | (go_at_call 7; (with_reducible refine (good_any ⟨2, key, xs, oh, os, n⟩ _).mono ?_); rw [HG.out]; rintro e w1 ⟨rfl, hB⟩; have HB1 : Hid (Below w.heap.size w w1) := g_below_on (by go_grown) hB; have HA1 := Lib.hid (HA.out.on hB); clear hB; have x0 := HA1.out.1.cell 0; have x1 := HA1.out.1.cell 1; have o0 := HA1.out.2.1.cell 0; have o2 := HA1.out.2.1.cell 2; have o3 := HA1.out.2.1.cell 3; have o4 := HA1.out.2.1.cell 4; have o5 := HA1.out.2.1.cell 5; simp at x0 x1 o0 o2 o3 o4 o5) | (go_at_call 14; (with_reducible refine (text_any xs _).mono ?_); rintro e w4 ⟨rfl, hB⟩; have HB4 : Hid (Below w.heap.size w w4) := g_below_on HB1.out hB; have HA4 := Lib.hid (HA1.out.on hB); clear hB) | (go_at_call 13; (with_reducible refine (write_any ⟨true, xs⟩ ⟨false, ⟨#[]⟩⟩ _).mono ?_); rintro e w2 ⟨rfl, hB⟩; have HB2 : Hid (Below w.heap.size w w2) := g_below_on HB4.out hB; have HA2 := Lib.hid (HA4.out.on hB); clear hB; have y0 := HA2.out.2.2.1.cell 0; have y1 := HA2.out.2.2.1.cell 1; have z0 := HA2.out.2.2.2.cell 0; have z1 := HA2.out.2.2.2.cell 1; have z2 := HA2.out.2.2.2.cell 2; simp at y0 y1 z0 z1 z2; have f0 := HA2.out.2.2.1.frozen 0; have f1 := HA2.out.2.2.1.frozen 1; have g0 := HA2.out.2.2.2.frozen 0; have g1 := HA2.out.2.2.2.frozen 1; have g2 := HA2.out.2.2.2.frozen 2))
  obtain ⟨c0, c1, c2, c3, c4, hb⟩ := set5 (a := .bool true) (b := .string xs) (c := .int .i64 0) (d := .bool false) (e := .string ⟨#[]⟩) HA2.out.2.2.1 HA2.out.2.2.2 (by omega) HB2.out (by omega) (by omega)
  exact bodyPost_ret (v := .tuple #[.agg #[.bool true, .string xs], .agg #[.int .i64 0, .bool false, .string ⟨#[]⟩], .bool true]) (by simp [results, Tryd.results10, go_sem, c0, c1, c2, c3, c4]) rfl ⟨rfl, hb⟩
set_option maxHeartbeats 1000000 in
theorem apply_delete (vh : Bool) (vs : ByteArray) (key : Int) (xs : ByteArray) (oh : Bool) (os : ByteArray) (n : Int) (w : World) (hg : O.good ⟨3, key, xs, oh, os, n⟩ = true) : Calls Tryd.prog 10 #[.agg (vC ⟨vh, vs⟩), .agg (oC ⟨3, key, xs, oh, os, n⟩)] w fun en w' => en = .returned (.tuple #[.agg #[.bool false, .string ⟨#[]⟩], .agg #[.int .i64 0, .bool false, .string ⟨#[]⟩], .bool true]) ∧ Below w.heap.size w w' := by
  have HA := Lib.hid (Ap4.start w ⟨vh, vs⟩ ⟨3, key, xs, oh, os, n⟩)
  have HG := Lib.hid hg
  clear hg
  go_enter Tryd.func10, Tryd.ntmps10
  go_wp2_with (first | (go_at_call 7; (with_reducible refine (good_any ⟨3, key, xs, oh, os, n⟩ _).mono ?_); rw [HG.out]; rintro e w1 ⟨rfl, hB⟩; have HB1 : Hid (Below w.heap.size w w1) := g_below_on (by go_grown) hB; have HA1 := Lib.hid (HA.out.on hB); clear hB; have x0 := HA1.out.1.cell 0; have x1 := HA1.out.1.cell 1; have o0 := HA1.out.2.1.cell 0; have o2 := HA1.out.2.1.cell 2; have o3 := HA1.out.2.1.cell 3; have o4 := HA1.out.2.1.cell 4; have o5 := HA1.out.2.1.cell 5; simp at x0 x1 o0 o2 o3 o4 o5) | (go_at_call 13; (with_reducible refine (write_any ⟨false, ⟨#[]⟩⟩ ⟨false, ⟨#[]⟩⟩ _).mono ?_); rintro e w2 ⟨rfl, hB⟩; have HB2 : Hid (Below w.heap.size w w2) := g_below_on HB1.out hB; have HA2 := Lib.hid (HA1.out.on hB); clear hB; have y0 := HA2.out.2.2.1.cell 0; have y1 := HA2.out.2.2.1.cell 1; have z0 := HA2.out.2.2.2.cell 0; have z1 := HA2.out.2.2.2.cell 1; have z2 := HA2.out.2.2.2.cell 2; simp at y0 y1 z0 z1 z2; have f0 := HA2.out.2.2.1.frozen 0; have f1 := HA2.out.2.2.1.frozen 1; have g0 := HA2.out.2.2.2.frozen 0; have g1 := HA2.out.2.2.2.frozen 1; have g2 := HA2.out.2.2.2.frozen 2))
  obtain ⟨c0, c1, c2, c3, c4, hb⟩ := set5 (a := .bool false) (b := .string ⟨#[]⟩) (c := .int .i64 0) (d := .bool false) (e := .string ⟨#[]⟩) HA2.out.2.2.1 HA2.out.2.2.2 (by omega) HB2.out (by omega) (by omega)
  exact bodyPost_ret (v := .tuple #[.agg #[.bool false, .string ⟨#[]⟩], .agg #[.int .i64 0, .bool false, .string ⟨#[]⟩], .bool true]) (by simp [results, Tryd.results10, go_sem, c0, c1, c2, c3, c4]) rfl ⟨rfl, hb⟩
set_option maxHeartbeats 1000000 in
theorem apply_cas (vh : Bool) (vs : ByteArray) (key : Int) (xs : ByteArray) (oh : Bool) (os : ByteArray) (n : Int) (w : World) (hg : O.good ⟨4, key, xs, oh, os, n⟩ = true) (hc1 : oh = vh) (hc2 : os = vs) : Calls Tryd.prog 10 #[.agg (vC ⟨vh, vs⟩), .agg (oC ⟨4, key, xs, oh, os, n⟩)] w fun en w' => en = .returned (.tuple #[.agg #[.bool true, .string xs], .agg #[.int .i64 0, .bool false, .string ⟨#[]⟩], .bool true]) ∧ Below w.heap.size w w' := by
  have HA := Lib.hid (Ap4.start w ⟨vh, vs⟩ ⟨4, key, xs, oh, os, n⟩)
  have HG := Lib.hid hg
  clear hg
  subst hc1; subst hc2
  go_enter Tryd.func10, Tryd.ntmps10
  go_wp2_with (first | (go_at_call 7; (with_reducible refine (good_any ⟨4, key, xs, oh, os, n⟩ _).mono ?_); rw [HG.out]; rintro e w1 ⟨rfl, hB⟩; have HB1 : Hid (Below w.heap.size w w1) := g_below_on (by go_grown) hB; have HA1 := Lib.hid (HA.out.on hB); clear hB; have x0 := HA1.out.1.cell 0; have x1 := HA1.out.1.cell 1; have o0 := HA1.out.2.1.cell 0; have o2 := HA1.out.2.1.cell 2; have o3 := HA1.out.2.1.cell 3; have o4 := HA1.out.2.1.cell 4; have o5 := HA1.out.2.1.cell 5; simp at x0 x1 o0 o2 o3 o4 o5) | (go_at_call 14; (with_reducible refine (text_any xs _).mono ?_); rintro e w4 ⟨rfl, hB⟩; have HB4 : Hid (Below w.heap.size w w4) := g_below_on HB1.out hB; have HA4 := Lib.hid (HA1.out.on hB); clear hB) | (go_at_call 13; (with_reducible refine (write_any ⟨true, xs⟩ ⟨false, ⟨#[]⟩⟩ _).mono ?_); rintro e w2 ⟨rfl, hB⟩; have HB2 : Hid (Below w.heap.size w w2) := g_below_on HB4.out hB; have HA2 := Lib.hid (HA4.out.on hB); clear hB; have y0 := HA2.out.2.2.1.cell 0; have y1 := HA2.out.2.2.1.cell 1; have z0 := HA2.out.2.2.2.cell 0; have z1 := HA2.out.2.2.2.cell 1; have z2 := HA2.out.2.2.2.cell 2; simp at y0 y1 z0 z1 z2; have f0 := HA2.out.2.2.1.frozen 0; have f1 := HA2.out.2.2.1.frozen 1; have g0 := HA2.out.2.2.2.frozen 0; have g1 := HA2.out.2.2.2.frozen 1; have g2 := HA2.out.2.2.2.frozen 2))
  obtain ⟨c0, c1, c2, c3, c4, hb⟩ := set5 (a := .bool true) (b := .string xs) (c := .int .i64 0) (d := .bool false) (e := .string ⟨#[]⟩) HA2.out.2.2.1 HA2.out.2.2.2 (by omega) HB2.out (by omega) (by omega)
  exact bodyPost_ret (v := .tuple #[.agg #[.bool true, .string xs], .agg #[.int .i64 0, .bool false, .string ⟨#[]⟩], .bool true]) (by simp [results, Tryd.results10, go_sem, c0, c1, c2, c3, c4]) rfl ⟨rfl, hb⟩
set_option maxHeartbeats 1000000 in
theorem apply_differ1 (vh : Bool) (vs : ByteArray) (key : Int) (xs : ByteArray) (oh : Bool) (os : ByteArray) (n : Int) (w : World) (hg : O.good ⟨4, key, xs, oh, os, n⟩ = true) (hc1 : oh = vh) (hc : ¬ vs.toList = os.toList) : Calls Tryd.prog 10 #[.agg (vC ⟨vh, vs⟩), .agg (oC ⟨4, key, xs, oh, os, n⟩)] w fun en w' => en = .returned (.tuple #[.agg #[.bool vh, .string vs], .agg #[.int .i64 11, .bool vh, .string vs], .bool false]) ∧ Below w.heap.size w w' := by
  have HA := Lib.hid (Ap4.start w ⟨vh, vs⟩ ⟨4, key, xs, oh, os, n⟩)
  have HG := Lib.hid hg
  clear hg
  subst hc1
  go_enter Tryd.func10, Tryd.ntmps10
  go_wp2_with (first | (go_at_call 7; (with_reducible refine (good_any ⟨4, key, xs, oh, os, n⟩ _).mono ?_); rw [HG.out]; rintro e w1 ⟨rfl, hB⟩; have HB1 : Hid (Below w.heap.size w w1) := g_below_on (by go_grown) hB; have HA1 := Lib.hid (HA.out.on hB); clear hB; have x0 := HA1.out.1.cell 0; have x1 := HA1.out.1.cell 1; have o0 := HA1.out.2.1.cell 0; have o2 := HA1.out.2.1.cell 2; have o3 := HA1.out.2.1.cell 3; have o4 := HA1.out.2.1.cell 4; have o5 := HA1.out.2.1.cell 5; simp at x0 x1 o0 o2 o3 o4 o5) | (go_at_call 12; (with_reducible refine (keep_any ⟨oh, vs⟩ ⟨oh, vs⟩ 11 _).mono ?_); rintro e w2 ⟨rfl, hB⟩; have HB2 : Hid (Below w.heap.size w w2) := g_below_on HB1.out hB; have HA2 := Lib.hid (HA1.out.on hB); clear hB; have y0 := HA2.out.2.2.1.cell 0; have y1 := HA2.out.2.2.1.cell 1; have z0 := HA2.out.2.2.2.cell 0; have z1 := HA2.out.2.2.2.cell 1; have z2 := HA2.out.2.2.2.cell 2; simp at y0 y1 z0 z1 z2; have f0 := HA2.out.2.2.1.frozen 0; have f1 := HA2.out.2.2.1.frozen 1; have g0 := HA2.out.2.2.2.frozen 0; have g1 := HA2.out.2.2.2.frozen 1; have g2 := HA2.out.2.2.2.frozen 2))
  obtain ⟨c0, c1, c2, c3, c4, hb⟩ := set5 (a := .bool oh) (b := .string vs) (c := .int .i64 11) (d := .bool oh) (e := .string vs) HA2.out.2.2.1 HA2.out.2.2.2 (by omega) HB2.out (by omega) (by omega)
  exact bodyPost_ret (v := .tuple #[.agg #[.bool oh, .string vs], .agg #[.int .i64 11, .bool oh, .string vs], .bool false]) (by simp [results, Tryd.results10, go_sem, c0, c1, c2, c3, c4]) rfl ⟨rfl, hb⟩
set_option maxHeartbeats 1000000 in
theorem apply_differ2 (vh : Bool) (vs : ByteArray) (key : Int) (xs : ByteArray) (oh : Bool) (os : ByteArray) (n : Int) (w : World) (hg : O.good ⟨4, key, xs, oh, os, n⟩ = true) (hc : ¬ vh = oh) : Calls Tryd.prog 10 #[.agg (vC ⟨vh, vs⟩), .agg (oC ⟨4, key, xs, oh, os, n⟩)] w fun en w' => en = .returned (.tuple #[.agg #[.bool vh, .string vs], .agg #[.int .i64 11, .bool vh, .string vs], .bool false]) ∧ Below w.heap.size w w' := by
  have HA := Lib.hid (Ap4.start w ⟨vh, vs⟩ ⟨4, key, xs, oh, os, n⟩)
  have HG := Lib.hid hg
  clear hg
  go_enter Tryd.func10, Tryd.ntmps10
  go_wp2_with (first | (go_at_call 7; (with_reducible refine (good_any ⟨4, key, xs, oh, os, n⟩ _).mono ?_); rw [HG.out]; rintro e w1 ⟨rfl, hB⟩; have HB1 : Hid (Below w.heap.size w w1) := g_below_on (by go_grown) hB; have HA1 := Lib.hid (HA.out.on hB); clear hB; have x0 := HA1.out.1.cell 0; have x1 := HA1.out.1.cell 1; have o0 := HA1.out.2.1.cell 0; have o2 := HA1.out.2.1.cell 2; have o3 := HA1.out.2.1.cell 3; have o4 := HA1.out.2.1.cell 4; have o5 := HA1.out.2.1.cell 5; simp at x0 x1 o0 o2 o3 o4 o5) | (go_at_call 12; (with_reducible refine (keep_any ⟨vh, vs⟩ ⟨vh, vs⟩ 11 _).mono ?_); rintro e w2 ⟨rfl, hB⟩; have HB2 : Hid (Below w.heap.size w w2) := g_below_on HB1.out hB; have HA2 := Lib.hid (HA1.out.on hB); clear hB; have y0 := HA2.out.2.2.1.cell 0; have y1 := HA2.out.2.2.1.cell 1; have z0 := HA2.out.2.2.2.cell 0; have z1 := HA2.out.2.2.2.cell 1; have z2 := HA2.out.2.2.2.cell 2; simp at y0 y1 z0 z1 z2; have f0 := HA2.out.2.2.1.frozen 0; have f1 := HA2.out.2.2.1.frozen 1; have g0 := HA2.out.2.2.2.frozen 0; have g1 := HA2.out.2.2.2.frozen 1; have g2 := HA2.out.2.2.2.frozen 2))
  obtain ⟨c0, c1, c2, c3, c4, hb⟩ := set5 (a := .bool vh) (b := .string vs) (c := .int .i64 11) (d := .bool vh) (e := .string vs) HA2.out.2.2.1 HA2.out.2.2.2 (by omega) HB2.out (by omega) (by omega)
  exact bodyPost_ret (v := .tuple #[.agg #[.bool vh, .string vs], .agg #[.int .i64 11, .bool vh, .string vs], .bool false]) (by simp [results, Tryd.results10, go_sem, c0, c1, c2, c3, c4]) rfl ⟨rfl, hb⟩
set_option maxHeartbeats 1000000 in
theorem apply_add (vh : Bool) (vs : ByteArray) (key : Int) (xs : ByteArray) (oh : Bool) (os : ByteArray) (n : Int) (w : World) (hg : O.good ⟨5, key, xs, oh, os, n⟩ = true) (hs : vs.size ≤ 1000000) (he : Env w) (hn : in64 n) : Calls Tryd.prog 10 #[.agg (vC ⟨vh, vs⟩), .agg (oC ⟨5, key, xs, oh, os, n⟩)] w fun en w' => en = (addV ⟨vh, vs⟩ n).ret ∧ Below w.heap.size w w' := by
  have HA := Lib.hid (Ap4.start w ⟨vh, vs⟩ ⟨5, key, xs, oh, os, n⟩)
  have HG := Lib.hid hg
  clear hg
  obtain ⟨r, hr⟩ : ∃ r, addV ⟨vh, vs⟩ n = r := ⟨_, rfl⟩
  obtain ⟨⟨rv, rs⟩, re, ⟨av, ax⟩, rb⟩ := r
  rw [hr]
  have HR := Lib.hid hr
  have HS : Hid ((V.mk vh vs).s.size ≤ 1000000) := hs
  have HE := Lib.hid he
  have HN := Lib.hid hn
  clear hr hs he hn
  go_enter Tryd.func10, Tryd.ntmps10
  go_wp2_with (first | (go_at_call 7; (with_reducible refine (good_any ⟨5, key, xs, oh, os, n⟩ _).mono ?_); rw [HG.out]; rintro e w1 ⟨rfl, hB⟩; have HB1 : Hid (Below w.heap.size w w1) := g_below_on (by go_grown) hB; have HA1 := Lib.hid (HA.out.on hB); clear hB; have x0 := HA1.out.1.cell 0; have x1 := HA1.out.1.cell 1; have o0 := HA1.out.2.1.cell 0; have o2 := HA1.out.2.1.cell 2; have o3 := HA1.out.2.1.cell 3; have o4 := HA1.out.2.1.cell 4; have o5 := HA1.out.2.1.cell 5; simp at x0 x1 o0 o2 o3 o4 o5) | (go_at_call 15; (with_reducible refine (add_any ⟨vh, vs⟩ n _ HS.out (HE.out.on HB1.out) HN.out).mono ?_); rw [HR.out]; rintro e w2 ⟨rfl, hB⟩; have HB2 : Hid (Below w.heap.size w w2) := g_below_on HB1.out hB; have HA2 := Lib.hid (HA1.out.on hB); clear hB; have y0 := HA2.out.2.2.1.cell 0; have y1 := HA2.out.2.2.1.cell 1; have z0 := HA2.out.2.2.2.cell 0; have z1 := HA2.out.2.2.2.cell 1; have z2 := HA2.out.2.2.2.cell 2; simp at y0 y1 z0 z1 z2; have f0 := HA2.out.2.2.1.frozen 0; have f1 := HA2.out.2.2.1.frozen 1; have g0 := HA2.out.2.2.2.frozen 0; have g1 := HA2.out.2.2.2.frozen 1; have g2 := HA2.out.2.2.2.frozen 2))
  obtain ⟨c0, c1, c2, c3, c4, hb⟩ := set5 (a := .bool rv) (b := .string rs) (c := .int .i64 re) (d := .bool av) (e := .string ax) HA2.out.2.2.1 HA2.out.2.2.2 (by omega) HB2.out (by omega) (by omega)
  exact bodyPost_ret (v := .tuple #[.agg #[.bool rv, .string rs], .agg #[.int .i64 re, .bool av, .string ax], .bool rb]) (by simp [results, Tryd.results10, go_sem, c0, c1, c2, c3, c4]) rfl ⟨rfl, hb⟩
set_option maxHeartbeats 1000000 in
theorem apply_get (kind : Int) (vh : Bool) (vs : ByteArray) (key : Int) (xs : ByteArray) (oh : Bool) (os : ByteArray) (n : Int) (w : World) (hg : O.good ⟨kind, key, xs, oh, os, n⟩ = true) (h2 : ¬ kind = 2) (h3 : ¬ kind = 3) (h4 : ¬ kind = 4) (h5 : ¬ kind = 5) : Calls Tryd.prog 10 #[.agg (vC ⟨vh, vs⟩), .agg (oC ⟨kind, key, xs, oh, os, n⟩)] w fun en w' => en = .returned (.tuple #[.agg #[.bool vh, .string vs], .agg #[.int .i64 0, .bool vh, .string vs], .bool false]) ∧ Below w.heap.size w w' := by
  have HA := Lib.hid (Ap4.start w ⟨vh, vs⟩ ⟨kind, key, xs, oh, os, n⟩)
  have HG := Lib.hid hg
  clear hg
  go_enter Tryd.func10, Tryd.ntmps10
  go_wp2_with (first | (go_at_call 7; (with_reducible refine (good_any ⟨kind, key, xs, oh, os, n⟩ _).mono ?_); rw [HG.out]; rintro e w1 ⟨rfl, hB⟩; have HB1 : Hid (Below w.heap.size w w1) := g_below_on (by go_grown) hB; have HA1 := Lib.hid (HA.out.on hB); clear hB; have x0 := HA1.out.1.cell 0; have x1 := HA1.out.1.cell 1; have o0 := HA1.out.2.1.cell 0; have o2 := HA1.out.2.1.cell 2; have o3 := HA1.out.2.1.cell 3; have o4 := HA1.out.2.1.cell 4; have o5 := HA1.out.2.1.cell 5; simp at x0 x1 o0 o2 o3 o4 o5) | (go_at_call 12; (with_reducible refine (keep_any ⟨vh, vs⟩ ⟨vh, vs⟩ 0 _).mono ?_); rintro e w2 ⟨rfl, hB⟩; have HB2 : Hid (Below w.heap.size w w2) := g_below_on HB1.out hB; have HA2 := Lib.hid (HA1.out.on hB); clear hB; have y0 := HA2.out.2.2.1.cell 0; have y1 := HA2.out.2.2.1.cell 1; have z0 := HA2.out.2.2.2.cell 0; have z1 := HA2.out.2.2.2.cell 1; have z2 := HA2.out.2.2.2.cell 2; simp at y0 y1 z0 z1 z2; have f0 := HA2.out.2.2.1.frozen 0; have f1 := HA2.out.2.2.1.frozen 1; have g0 := HA2.out.2.2.2.frozen 0; have g1 := HA2.out.2.2.2.frozen 1; have g2 := HA2.out.2.2.2.frozen 2))
  obtain ⟨c0, c1, c2, c3, c4, hb⟩ := set5 (a := .bool vh) (b := .string vs) (c := .int .i64 0) (d := .bool vh) (e := .string vs) HA2.out.2.2.1 HA2.out.2.2.2 (by omega) HB2.out (by omega) (by omega)
  exact bodyPost_ret (v := .tuple #[.agg #[.bool vh, .string vs], .agg #[.int .i64 0, .bool vh, .string vs], .bool false]) (by simp [results, Tryd.results10, go_sem, c0, c1, c2, c3, c4]) rfl ⟨rfl, hb⟩
theorem toL_inj {a b : ByteArray} (h : a.toList = b.toList) : a = b := by
  rw [ByteArray.toList_eq, ByteArray.toList_eq] at h
  exact Go.WideShapes.bytes_inj h
theorem apply_any (v : V) (x : O) (w : World) (hs : v.s.size ≤ 1000000) (he : Env w) (hn : in64 x.n) : Calls Tryd.prog 10 #[.agg (vC v), .agg (oC x)] w fun en w' => en = (applyV v x).ret ∧ Below w.heap.size w w' := by
  obtain ⟨vh, vs⟩ := v
  obtain ⟨kind, key, xs, oh, os, n⟩ := x
  unfold applyV
  cases hg : O.good ⟨kind, key, xs, oh, os, n⟩ with
  | false => exact apply_bad kind vh vs key xs oh os n w hg
  | true =>
    rw [if_pos rfl]
    simp only
    by_cases h2 : kind = 2
    · subst h2; exact apply_put vh vs key xs oh os n w hg
    · rw [if_neg h2]
      by_cases h3 : kind = 3
      · subst h3; exact apply_delete vh vs key xs oh os n w hg
      · rw [if_neg h3]
        by_cases h4 : kind = 4
        · subst h4
          rw [if_pos rfl]
          by_cases hc : vh = oh ∧ vs = os
          · rw [if_pos hc]; exact apply_cas vh vs key xs oh os n w hg hc.1.symm hc.2.symm
          · rw [if_neg hc]
            by_cases h6 : vh = oh
            · exact apply_differ1 vh vs key xs oh os n w hg h6.symm (fun h => hc ⟨h6, toL_inj h⟩)
            · exact apply_differ2 vh vs key xs oh os n w hg h6
        · rw [if_neg h4]
          by_cases h5 : kind = 5
          · subst h5; rw [if_pos rfl]; exact apply_add vh vs key xs oh os n w hg hs he hn
          · rw [if_neg h5]; exact apply_get kind vh vs key xs oh os n w hg h2 h3 h4 h5
end Go.Proofs.YtegjgdiollafkaaDoor
