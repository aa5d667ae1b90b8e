/-
  The walk of the reference's Apply: the new value, the answer, and whether the operation writes.
-/
import Derived.Test.YtegjgdiollafkaaDoorRefB
import Derived.Test.YtegjgdiollafkaaDoorRegD
namespace Go.Proofs.YtegjgdiollafkaaDoor
open Go.RowKit Go.Instr

/-- Two results of two cells are stored. -/
theorem set4 {w0 w : World} {B1 B2 : Nat} {p q r s a b c d : Value} {T1 T2 : TypeId} (h1 : Blk w B1 #[p, q] T1) (h2 : Blk w B2 #[r, s] T2) (hne : B1 ≠ B2) (hB : Below w0.heap.size w0 w) (hl1 : w0.heap.size ≤ B1) (hl2 : w0.heap.size ≤ B2) :
    let W := (((w.setCell ⟨B1, 0, none⟩ a).setCell ⟨B1, 1, none⟩ b).setCell ⟨B2, 0, none⟩ c).setCell ⟨B2, 1, none⟩ d
    W.cell? ⟨B1, 0, none⟩ = some a ∧ W.cell? ⟨B1, 1, none⟩ = some b ∧ W.cell? ⟨B2, 0, none⟩ = some c ∧ W.cell? ⟨B2, 1, none⟩ = some d ∧ Below w0.heap.size w0 W := by
  have k1 : Blk ((((w.setCell ⟨B1, 0, none⟩ a).setCell ⟨B1, 1, none⟩ b).setCell ⟨B2, 0, none⟩ c).setCell ⟨B2, 1, none⟩ d) B1 #[a, b] T1 :=
    Blk.set_other (Blk.set_other (Blk.set (Blk.set h1 0 a _ rfl) 1 b _ rfl) 0 _ hne) 1 _ hne
  have k2 : Blk ((((w.setCell ⟨B1, 0, none⟩ a).setCell ⟨B1, 1, none⟩ b).setCell ⟨B2, 0, none⟩ c).setCell ⟨B2, 1, none⟩ d) B2 #[c, d] T2 :=
    Blk.set (Blk.set (Blk.set_other (Blk.set_other h2 0 _ (Ne.symm hne)) 1 _ (Ne.symm hne)) 0 c _ rfl) 1 d _ rfl
  refine ⟨k1.cell 0, k1.cell 1, k2.cell 0, k2.cell 1, ?_⟩
  exact Below.setCell (Below.setCell (Below.setCell (Below.setCell hB hl1 _) hl1 _) hl2 _) hl2 _
theorem set4b {w0 w : World} {B1 B2 : Nat} {p q r s a b c d : Value} {T1 T2 : TypeId} (h1 : Blk w B1 #[p, q] T1) (h2 : Blk w B2 #[r, s] T2) (hne : B1 ≠ B2) (hB : Below w0.heap.size w0 w) (hl1 : w0.heap.size ≤ B1) (hl2 : w0.heap.size ≤ B2) :
    Blk ((((w.setCell ⟨B1, 0, none⟩ a).setCell ⟨B1, 1, none⟩ b).setCell ⟨B2, 0, none⟩ c).setCell ⟨B2, 1, none⟩ d) B1 #[a, b] T1 ∧ Blk ((((w.setCell ⟨B1, 0, none⟩ a).setCell ⟨B1, 1, none⟩ b).setCell ⟨B2, 0, none⟩ c).setCell ⟨B2, 1, none⟩ d) B2 #[c, d] T2 ∧ Below w0.heap.size w0 ((((w.setCell ⟨B1, 0, none⟩ a).setCell ⟨B1, 1, none⟩ b).setCell ⟨B2, 0, none⟩ c).setCell ⟨B2, 1, none⟩ d) :=
  ⟨Blk.set_other (Blk.set_other (Blk.set (Blk.set h1 0 a _ rfl) 1 b _ rfl) 0 _ hne) 1 _ hne, Blk.set (Blk.set (Blk.set_other (Blk.set_other h2 0 _ (Ne.symm hne)) 1 _ (Ne.symm hne)) 0 c _ rfl) 1 d _ rfl, Below.setCell (Below.setCell (Below.setCell (Below.setCell hB hl1 _) hl1 _) hl2 _) hl2 _⟩
/-- The four blocks of a call of the reference's. -/
def R4 (w : World) (B : Nat) (v : V) (x : O) : Prop := Blk w B (vC v) 27 ∧ Blk w (B + 1) (oC x) 31 ∧ Blk w (B + 1 + 1) #[.bool false, .string ⟨#[]⟩] 27 ∧ Blk w (B + 1 + 1 + 1) #[.bool false, .string ⟨#[]⟩] 27
theorem R4.on {w w' : World} {B : Nat} {v : V} {x : O} (h : R4 w B v x) (hB : Below w.heap.size w w') : R4 w' B v x := ⟨h.1.on hB, h.2.1.on hB, h.2.2.1.on hB, h.2.2.2.on hB⟩
theorem R4.start (w : World) (v : V) (x : O) : R4 ((((w.alloc (.cells (vC v) 27)).alloc (.cells (oC x) 31)).alloc (.cells #[.bool false, .string ⟨#[]⟩] 27)).alloc (.cells #[.bool false, .string ⟨#[]⟩] 27)) w.heap.size v x :=
  ⟨Blk.alloc (Blk.alloc (Blk.alloc (Blk.new rfl) _) _) _, Blk.alloc (Blk.alloc (Blk.new (by simp)) _) _, Blk.alloc (Blk.new (by simp)) _, Blk.new (by simp)⟩
set_option maxHeartbeats 1000000 in
theorem ref_bad (kind : Int) (vh : Bool) (vs : ByteArray) (key : Int) (xs : ByteArray) (oh : Bool) (os : ByteArray) (n : Int) (w : World) (hg : O.good ⟨kind, key, xs, oh, os, n⟩ = false) : Calls Tryd.prog 11 #[.agg (vC ⟨vh, vs⟩), .agg (oC ⟨kind, key, xs, oh, os, n⟩)] w fun en w' => en = .returned (.tuple #[.agg #[.bool vh, .string vs], .int .i64 1, .agg #[.bool false, .string ⟨#[]⟩], .bool false]) ∧ Below w.heap.size w w' := by
  have HA := Lib.hid (R4.start w ⟨vh, vs⟩ ⟨kind, key, xs, oh, os, n⟩)
  have HG := Lib.hid hg
  clear hg
  go_enter Tryd.func11, Tryd.ntmps11
  go_wp2_with (first | (go_at_call 8; (with_reducible refine (refGood_any ⟨kind, key, xs, oh, os, n⟩ _).mono ?_); rw [HG.out]; rintro e w1 ⟨rfl, hB⟩; have HB1 : Hid (Below w.heap.size w w1) := g_below_on (by go_grown) hB; have HA1 := Lib.hid (HA.out.on hB); clear hB; have x0 := HA1.out.1.cell 0; have x1 := HA1.out.1.cell 1; have o0 := HA1.out.2.1.cell 0; have o2 := HA1.out.2.1.cell 2; have o3 := HA1.out.2.1.cell 3; have o4 := HA1.out.2.1.cell 4; have o5 := HA1.out.2.1.cell 5; have y0 := HA1.out.2.2.1.cell 0; have y1 := HA1.out.2.2.1.cell 1; have z0 := HA1.out.2.2.2.cell 0; have z1 := HA1.out.2.2.2.cell 1; simp at x0 x1 o0 o2 o3 o4 o5 y0 y1 z0 z1; have f0 := HA1.out.2.2.1.frozen 0; have f1 := HA1.out.2.2.1.frozen 1; have g0 := HA1.out.2.2.2.frozen 0; have g1 := HA1.out.2.2.2.frozen 1))
  obtain ⟨c0, c1, c2, c3, hb⟩ := set4 (a := .bool vh) (b := .string vs) (c := .bool false) (d := .string ⟨#[]⟩) HA1.out.2.2.1 HA1.out.2.2.2 (by omega) HB1.out (by omega) (by omega)
  exact bodyPost_ret (v := .tuple #[.agg #[.bool vh, .string vs], .int .i64 1, .agg #[.bool false, .string ⟨#[]⟩], .bool false]) (by simp [results, Tryd.results11, go_sem, c0, c1, c2, c3]) rfl ⟨rfl, hb⟩
set_option maxHeartbeats 1000000 in
theorem ref_put (vh : Bool) (vs : ByteArray) (key : Int) (xs : ByteArray) (oh : Bool) (os : ByteArray) (n : Int) (w : World) (hg : O.good ⟨2, key, xs, oh, os, n⟩ = true) : Calls Tryd.prog 11 #[.agg (vC ⟨vh, vs⟩), .agg (oC ⟨2, key, xs, oh, os, n⟩)] w fun en w' => en = .returned (.tuple #[.agg #[.bool true, .string xs], .int .i64 0, .agg #[.bool false, .string ⟨#[]⟩], .bool true]) ∧ Below w.heap.size w w' := by
  have HA := Lib.hid (R4.start w ⟨vh, vs⟩ ⟨2, key, xs, oh, os, n⟩)
  have HG := Lib.hid hg
  clear hg
  go_enter Tryd.func11, Tryd.ntmps11
  go_wp2_with (first | (go_at_call 8; (with_reducible refine (refGood_any ⟨2, key, xs, oh, os, n⟩ _).mono ?_); rw [HG.out]; rintro e w1 ⟨rfl, hB⟩; have HB1 : Hid (Below w.heap.size w w1) := g_below_on (by go_grown) hB; have HA1 := Lib.hid (HA.out.on hB); clear hB; have x0 := HA1.out.1.cell 0; have x1 := HA1.out.1.cell 1; have o0 := HA1.out.2.1.cell 0; have o2 := HA1.out.2.1.cell 2; have o3 := HA1.out.2.1.cell 3; have o4 := HA1.out.2.1.cell 4; have o5 := HA1.out.2.1.cell 5; have y0 := HA1.out.2.2.1.cell 0; have y1 := HA1.out.2.2.1.cell 1; have z0 := HA1.out.2.2.2.cell 0; have z1 := HA1.out.2.2.2.cell 1; simp at x0 x1 o0 o2 o3 o4 o5 y0 y1 z0 z1; have f0 := HA1.out.2.2.1.frozen 0; have f1 := HA1.out.2.2.1.frozen 1; have g0 := HA1.out.2.2.2.frozen 0; have g1 := HA1.out.2.2.2.frozen 1))
  obtain ⟨c0, c1, c2, c3, hb⟩ := set4 (a := .bool true) (b := .string xs) (c := .bool false) (d := .string ⟨#[]⟩) HA1.out.2.2.1 HA1.out.2.2.2 (by omega) HB1.out (by omega) (by omega)
  exact bodyPost_ret (v := .tuple #[.agg #[.bool true, .string xs], .int .i64 0, .agg #[.bool false, .string ⟨#[]⟩], .bool true]) (by simp [results, Tryd.results11, go_sem, c0, c1, c2, c3]) rfl ⟨rfl, hb⟩
set_option maxHeartbeats 1000000 in
theorem ref_delete (vh : Bool) (vs : ByteArray) (key : Int) (xs : ByteArray) (oh : Bool) (os : ByteArray) (n : Int) (w : World) (hg : O.good ⟨3, key, xs, oh, os, n⟩ = true) : Calls Tryd.prog 11 #[.agg (vC ⟨vh, vs⟩), .agg (oC ⟨3, key, xs, oh, os, n⟩)] w fun en w' => en = .returned (.tuple #[.agg #[.bool false, .string ⟨#[]⟩], .int .i64 0, .agg #[.bool false, .string ⟨#[]⟩], .bool true]) ∧ Below w.heap.size w w' := by
  have HA := Lib.hid (R4.start w ⟨vh, vs⟩ ⟨3, key, xs, oh, os, n⟩)
  have HG := Lib.hid hg
  clear hg
  go_enter Tryd.func11, Tryd.ntmps11
  go_wp2_with (first | (go_at_call 8; (with_reducible refine (refGood_any ⟨3, key, xs, oh, os, n⟩ _).mono ?_); rw [HG.out]; rintro e w1 ⟨rfl, hB⟩; have HB1 : Hid (Below w.heap.size w w1) := g_below_on (by go_grown) hB; have HA1 := Lib.hid (HA.out.on hB); clear hB; have x0 := HA1.out.1.cell 0; have x1 := HA1.out.1.cell 1; have o0 := HA1.out.2.1.cell 0; have o2 := HA1.out.2.1.cell 2; have o3 := HA1.out.2.1.cell 3; have o4 := HA1.out.2.1.cell 4; have o5 := HA1.out.2.1.cell 5; have y0 := HA1.out.2.2.1.cell 0; have y1 := HA1.out.2.2.1.cell 1; have z0 := HA1.out.2.2.2.cell 0; have z1 := HA1.out.2.2.2.cell 1; simp at x0 x1 o0 o2 o3 o4 o5 y0 y1 z0 z1; have f0 := HA1.out.2.2.1.frozen 0; have f1 := HA1.out.2.2.1.frozen 1; have g0 := HA1.out.2.2.2.frozen 0; have g1 := HA1.out.2.2.2.frozen 1))
  obtain ⟨c0, c1, c2, c3, hb⟩ := set4 (a := .bool false) (b := .string ⟨#[]⟩) (c := .bool false) (d := .string ⟨#[]⟩) HA1.out.2.2.1 HA1.out.2.2.2 (by omega) HB1.out (by omega) (by omega)
  exact bodyPost_ret (v := .tuple #[.agg #[.bool false, .string ⟨#[]⟩], .int .i64 0, .agg #[.bool false, .string ⟨#[]⟩], .bool true]) (by simp [results, Tryd.results11, go_sem, c0, c1, c2, c3]) rfl ⟨rfl, hb⟩
set_option maxHeartbeats 1000000 in
theorem ref_cas (vh : Bool) (vs : ByteArray) (key : Int) (xs : ByteArray) (oh : Bool) (os : ByteArray) (n : Int) (w : World) (hg : O.good ⟨4, key, xs, oh, os, n⟩ = true) (hc1 : oh = vh) (hc2 : os = vs) : Calls Tryd.prog 11 #[.agg (vC ⟨vh, vs⟩), .agg (oC ⟨4, key, xs, oh, os, n⟩)] w fun en w' => en = .returned (.tuple #[.agg #[.bool true, .string xs], .int .i64 0, .agg #[.bool false, .string ⟨#[]⟩], .bool true]) ∧ Below w.heap.size w w' := by
  have HA := Lib.hid (R4.start w ⟨vh, vs⟩ ⟨4, key, xs, oh, os, n⟩)
  have HG := Lib.hid hg
  clear hg
  subst hc1; subst hc2
  go_enter Tryd.func11, Tryd.ntmps11
  go_wp2_with (first | (go_at_call 8; (with_reducible refine (refGood_any ⟨4, key, xs, oh, os, n⟩ _).mono ?_); rw [HG.out]; rintro e w1 ⟨rfl, hB⟩; have HB1 : Hid (Below w.heap.size w w1) := g_below_on (by go_grown) hB; have HA1 := Lib.hid (HA.out.on hB); clear hB; have x0 := HA1.out.1.cell 0; have x1 := HA1.out.1.cell 1; have o0 := HA1.out.2.1.cell 0; have o2 := HA1.out.2.1.cell 2; have o3 := HA1.out.2.1.cell 3; have o4 := HA1.out.2.1.cell 4; have o5 := HA1.out.2.1.cell 5; have y0 := HA1.out.2.2.1.cell 0; have y1 := HA1.out.2.2.1.cell 1; have z0 := HA1.out.2.2.2.cell 0; have z1 := HA1.out.2.2.2.cell 1; simp at x0 x1 o0 o2 o3 o4 o5 y0 y1 z0 z1; have f0 := HA1.out.2.2.1.frozen 0; have f1 := HA1.out.2.2.1.frozen 1; have g0 := HA1.out.2.2.2.frozen 0; have g1 := HA1.out.2.2.2.frozen 1))
  obtain ⟨c0, c1, c2, c3, hb⟩ := set4 (a := .bool true) (b := .string xs) (c := .bool false) (d := .string ⟨#[]⟩) HA1.out.2.2.1 HA1.out.2.2.2 (by omega) HB1.out (by omega) (by omega)
  exact bodyPost_ret (v := .tuple #[.agg #[.bool true, .string xs], .int .i64 0, .agg #[.bool false, .string ⟨#[]⟩], .bool true]) (by simp [results, Tryd.results11, go_sem, c0, c1, c2, c3]) rfl ⟨rfl, hb⟩
set_option maxHeartbeats 1000000 in
theorem ref_differ1 (vh : Bool) (vs : ByteArray) (key : Int) (xs : ByteArray) (oh : Bool) (os : ByteArray) (n : Int) (w : World) (hg : O.good ⟨4, key, xs, oh, os, n⟩ = true) (hc1 : oh = vh) (hc : ¬ vs.toList = os.toList) : Calls Tryd.prog 11 #[.agg (vC ⟨vh, vs⟩), .agg (oC ⟨4, key, xs, oh, os, n⟩)] w fun en w' => en = .returned (.tuple #[.agg #[.bool vh, .string vs], .int .i64 11, .agg #[.bool vh, .string vs], .bool false]) ∧ Below w.heap.size w w' := by
  have HA := Lib.hid (R4.start w ⟨vh, vs⟩ ⟨4, key, xs, oh, os, n⟩)
  have HG := Lib.hid hg
  clear hg
  subst hc1
  have hcb : (vs.toList == os.toList) = false := by simpa using hc
  go_enter Tryd.func11, Tryd.ntmps11
  go_wp2_with (first | (go_at_call 8; (with_reducible refine (refGood_any ⟨4, key, xs, oh, os, n⟩ _).mono ?_); rw [HG.out]; rintro e w1 ⟨rfl, hB⟩; have HB1 : Hid (Below w.heap.size w w1) := g_below_on (by go_grown) hB; have HA1 := Lib.hid (HA.out.on hB); clear hB; have x0 := HA1.out.1.cell 0; have x1 := HA1.out.1.cell 1; have o0 := HA1.out.2.1.cell 0; have o2 := HA1.out.2.1.cell 2; have o3 := HA1.out.2.1.cell 3; have o4 := HA1.out.2.1.cell 4; have o5 := HA1.out.2.1.cell 5; have y0 := HA1.out.2.2.1.cell 0; have y1 := HA1.out.2.2.1.cell 1; have z0 := HA1.out.2.2.2.cell 0; have z1 := HA1.out.2.2.2.cell 1; simp at x0 x1 o0 o2 o3 o4 o5 y0 y1 z0 z1; have f0 := HA1.out.2.2.1.frozen 0; have f1 := HA1.out.2.2.1.frozen 1; have g0 := HA1.out.2.2.2.frozen 0; have g1 := HA1.out.2.2.2.frozen 1))
  go_region
  all_goals
    go_wp2
    obtain ⟨c0, c1, c2, c3, hb⟩ := set4 (a := .bool oh) (b := .string vs) (c := .bool oh) (d := .string vs) HA1.out.2.2.1 HA1.out.2.2.2 (by omega) HB1.out (by omega) (by omega)
    exact bodyPost_ret (v := .tuple #[.agg #[.bool oh, .string vs], .int .i64 11, .agg #[.bool oh, .string vs], .bool false]) (by simp [results, Tryd.results11, go_sem, c0, c1, c2, c3]) rfl ⟨rfl, by first | exact hb | exact hb.drew⟩
set_option maxHeartbeats 1000000 in
theorem ref_differ2 (vh : Bool) (vs : ByteArray) (key : Int) (xs : ByteArray) (oh : Bool) (os : ByteArray) (n : Int) (w : World) (hg : O.good ⟨4, key, xs, oh, os, n⟩ = true) (hc : ¬ vh = oh) : Calls Tryd.prog 11 #[.agg (vC ⟨vh, vs⟩), .agg (oC ⟨4, key, xs, oh, os, n⟩)] w fun en w' => en = .returned (.tuple #[.agg #[.bool vh, .string vs], .int .i64 11, .agg #[.bool vh, .string vs], .bool false]) ∧ Below w.heap.size w w' := by
  have HA := Lib.hid (R4.start w ⟨vh, vs⟩ ⟨4, key, xs, oh, os, n⟩)
  have HG := Lib.hid hg
  clear hg
  have hcb : (vh == oh) = false := by simpa using hc
  go_enter Tryd.func11, Tryd.ntmps11
  go_wp2_with (first | (go_at_call 8; (with_reducible refine (refGood_any ⟨4, key, xs, oh, os, n⟩ _).mono ?_); rw [HG.out]; rintro e w1 ⟨rfl, hB⟩; have HB1 : Hid (Below w.heap.size w w1) := g_below_on (by go_grown) hB; have HA1 := Lib.hid (HA.out.on hB); clear hB; have x0 := HA1.out.1.cell 0; have x1 := HA1.out.1.cell 1; have o0 := HA1.out.2.1.cell 0; have o2 := HA1.out.2.1.cell 2; have o3 := HA1.out.2.1.cell 3; have o4 := HA1.out.2.1.cell 4; have o5 := HA1.out.2.1.cell 5; have y0 := HA1.out.2.2.1.cell 0; have y1 := HA1.out.2.2.1.cell 1; have z0 := HA1.out.2.2.2.cell 0; have z1 := HA1.out.2.2.2.cell 1; simp at x0 x1 o0 o2 o3 o4 o5 y0 y1 z0 z1; have f0 := HA1.out.2.2.1.frozen 0; have f1 := HA1.out.2.2.1.frozen 1; have g0 := HA1.out.2.2.2.frozen 0; have g1 := HA1.out.2.2.2.frozen 1))
  go_region
  all_goals
    go_wp2
    obtain ⟨c0, c1, c2, c3, hb⟩ := set4 (a := .bool vh) (b := .string vs) (c := .bool vh) (d := .string vs) HA1.out.2.2.1 HA1.out.2.2.2 (by omega) HB1.out (by omega) (by omega)
    exact bodyPost_ret (v := .tuple #[.agg #[.bool vh, .string vs], .int .i64 11, .agg #[.bool vh, .string vs], .bool false]) (by simp [results, Tryd.results11, go_sem, c0, c1, c2, c3]) rfl ⟨rfl, by first | exact hb | exact hb.drew⟩
set_option maxHeartbeats 1000000 in
theorem ref_get (kind : Int) (vh : Bool) (vs : ByteArray) (key : Int) (xs : ByteArray) (oh : Bool) (os : ByteArray) (n : Int) (w : World) (hg : O.good ⟨kind, key, xs, oh, os, n⟩ = true) (h2 : ¬ kind = 2) (h3 : ¬ kind = 3) (h4 : ¬ kind = 4) (h5 : ¬ kind = 5) : Calls Tryd.prog 11 #[.agg (vC ⟨vh, vs⟩), .agg (oC ⟨kind, key, xs, oh, os, n⟩)] w fun en w' => en = .returned (.tuple #[.agg #[.bool vh, .string vs], .int .i64 0, .agg #[.bool vh, .string vs], .bool false]) ∧ Below w.heap.size w w' := by
  have HA := Lib.hid (R4.start w ⟨vh, vs⟩ ⟨kind, key, xs, oh, os, n⟩)
  have HG := Lib.hid hg
  clear hg
  go_enter Tryd.func11, Tryd.ntmps11
  go_wp2_with (first | (go_at_call 8; (with_reducible refine (refGood_any ⟨kind, key, xs, oh, os, n⟩ _).mono ?_); rw [HG.out]; rintro e w1 ⟨rfl, hB⟩; have HB1 : Hid (Below w.heap.size w w1) := g_below_on (by go_grown) hB; have HA1 := Lib.hid (HA.out.on hB); clear hB; have x0 := HA1.out.1.cell 0; have x1 := HA1.out.1.cell 1; have o0 := HA1.out.2.1.cell 0; have o2 := HA1.out.2.1.cell 2; have o3 := HA1.out.2.1.cell 3; have o4 := HA1.out.2.1.cell 4; have o5 := HA1.out.2.1.cell 5; have y0 := HA1.out.2.2.1.cell 0; have y1 := HA1.out.2.2.1.cell 1; have z0 := HA1.out.2.2.2.cell 0; have z1 := HA1.out.2.2.2.cell 1; simp at x0 x1 o0 o2 o3 o4 o5 y0 y1 z0 z1; have f0 := HA1.out.2.2.1.frozen 0; have f1 := HA1.out.2.2.1.frozen 1; have g0 := HA1.out.2.2.2.frozen 0; have g1 := HA1.out.2.2.2.frozen 1))
  go_region
  all_goals
    go_wp2
    obtain ⟨c0, c1, c2, c3, hb⟩ := set4 (a := .bool vh) (b := .string vs) (c := .bool vh) (d := .string vs) HA1.out.2.2.1 HA1.out.2.2.2 (by omega) HB1.out (by omega) (by omega)
    exact bodyPost_ret (v := .tuple #[.agg #[.bool vh, .string vs], .int .i64 0, .agg #[.bool vh, .string vs], .bool false]) (by simp [results, Tryd.results11, go_sem, c0, c1, c2, c3]) rfl ⟨rfl, by first | exact hb | exact hb.drew⟩
set_option maxHeartbeats 1000000 in
theorem ref_form (vh : Bool) (vs : ByteArray) (key : Int) (xs : ByteArray) (oh : Bool) (os : ByteArray) (n : Int) (w : World) (m : Int) (hg : O.good ⟨5, key, xs, oh, os, n⟩ = true) (hnum : ∀ W, Calls Tryd.prog 16 #[.agg (vC ⟨vh, vs⟩)] W fun en w' => en = .returned (.tuple #[.int .i64 m, .bool false]) ∧ Below W.heap.size W w') : Calls Tryd.prog 11 #[.agg (vC ⟨vh, vs⟩), .agg (oC ⟨5, key, xs, oh, os, n⟩)] w fun en w' => en = .returned (.tuple #[.agg #[.bool vh, .string vs], .int .i64 4, .agg #[.bool vh, .string vs], .bool false]) ∧ Below w.heap.size w w' := by
  have HA := Lib.hid (R4.start w ⟨vh, vs⟩ ⟨5, key, xs, oh, os, n⟩)
  have HG := Lib.hid hg
  clear hg
  have HCN := Lib.hid hnum
  clear hnum
  go_enter Tryd.func11, Tryd.ntmps11
  go_wp2_with (first | (go_at_call 8; (with_reducible refine (refGood_any ⟨5, key, xs, oh, os, n⟩ _).mono ?_); rw [HG.out]; rintro e w1 ⟨rfl, hB⟩; have HB1 : Hid (Below w.heap.size w w1) := g_below_on (by go_grown) hB; have HA1 := Lib.hid (HA.out.on hB); clear hB; have x0 := HA1.out.1.cell 0; have x1 := HA1.out.1.cell 1; have o0 := HA1.out.2.1.cell 0; have o2 := HA1.out.2.1.cell 2; have o3 := HA1.out.2.1.cell 3; have o4 := HA1.out.2.1.cell 4; have o5 := HA1.out.2.1.cell 5; have y0 := HA1.out.2.2.1.cell 0; have y1 := HA1.out.2.2.1.cell 1; have z0 := HA1.out.2.2.2.cell 0; have z1 := HA1.out.2.2.2.cell 1; simp at x0 x1 o0 o2 o3 o4 o5 y0 y1 z0 z1; have f0 := HA1.out.2.2.1.frozen 0; have f1 := HA1.out.2.2.1.frozen 1; have g0 := HA1.out.2.2.2.frozen 0; have g1 := HA1.out.2.2.2.frozen 1) | (go_at_call 16; (refine (HCN.out _).mono ?_); clear x0 x1 o0 o2 o3 o4 o5 y0 y1 z0 z1 f0 f1 g0 g1; rintro e w2 ⟨rfl, hB⟩; have HB1 : Hid (Below w.heap.size w w2) := g_below_on HB1.out hB; have HA1 := Lib.hid (HA1.out.on hB); clear hB; have x0 := HA1.out.1.cell 0; have x1 := HA1.out.1.cell 1; have o0 := HA1.out.2.1.cell 0; have o2 := HA1.out.2.1.cell 2; have o3 := HA1.out.2.1.cell 3; have o4 := HA1.out.2.1.cell 4; have o5 := HA1.out.2.1.cell 5; have y0 := HA1.out.2.2.1.cell 0; have y1 := HA1.out.2.2.1.cell 1; have z0 := HA1.out.2.2.2.cell 0; have z1 := HA1.out.2.2.2.cell 1; simp at x0 x1 o0 o2 o3 o4 o5 y0 y1 z0 z1; have f0 := HA1.out.2.2.1.frozen 0; have f1 := HA1.out.2.2.1.frozen 1; have g0 := HA1.out.2.2.2.frozen 0; have g1 := HA1.out.2.2.2.frozen 1))
  go_region
  all_goals
    go_wp2
    obtain ⟨c0, c1, c2, c3, hb⟩ := set4 (a := .bool vh) (b := .string vs) (c := .bool vh) (d := .string vs) HA1.out.2.2.1 HA1.out.2.2.2 (by omega) HB1.out (by omega) (by omega)
    exact bodyPost_ret (v := .tuple #[.agg #[.bool vh, .string vs], .int .i64 4, .agg #[.bool vh, .string vs], .bool false]) (by simp [results, Tryd.results11, go_sem, c0, c1, c2, c3]) rfl ⟨rfl, by first | exact hb | exact hb.drew⟩
set_option maxHeartbeats 1000000 in
theorem ref_over1 (vh : Bool) (vs : ByteArray) (key : Int) (xs : ByteArray) (oh : Bool) (os : ByteArray) (n : Int) (w : World) (m : Int) (hg : O.good ⟨5, key, xs, oh, os, n⟩ = true) (hnum : ∀ W, Calls Tryd.prog 16 #[.agg (vC ⟨vh, vs⟩)] W fun en w' => en = .returned (.tuple #[.int .i64 m, .bool true]) ∧ Below W.heap.size W w') (hm : in64 m) (hn : in64 n) (h1 : 0 < n) (h2 : 9223372036854775807 - n < m) : Calls Tryd.prog 11 #[.agg (vC ⟨vh, vs⟩), .agg (oC ⟨5, key, xs, oh, os, n⟩)] w fun en w' => en = .returned (.tuple #[.agg #[.bool vh, .string vs], .int .i64 9, .agg #[.bool vh, .string vs], .bool false]) ∧ Below w.heap.size w w' := by
  have HA := Lib.hid (R4.start w ⟨vh, vs⟩ ⟨5, key, xs, oh, os, n⟩)
  have HG := Lib.hid hg
  clear hg
  have HCN := Lib.hid hnum
  clear hnum
  have hb1 := hm.1
  have hb2 := hm.2
  have hb3 := hn.1
  have hb4 := hn.2
  clear hm hn
  go_enter Tryd.func11, Tryd.ntmps11
  go_wp2_with (first | (go_at_call 8; (with_reducible refine (refGood_any ⟨5, key, xs, oh, os, n⟩ _).mono ?_); rw [HG.out]; rintro e w1 ⟨rfl, hB⟩; have HB1 : Hid (Below w.heap.size w w1) := g_below_on (by go_grown) hB; have HA1 := Lib.hid (HA.out.on hB); clear hB; have x0 := HA1.out.1.cell 0; have x1 := HA1.out.1.cell 1; have o0 := HA1.out.2.1.cell 0; have o2 := HA1.out.2.1.cell 2; have o3 := HA1.out.2.1.cell 3; have o4 := HA1.out.2.1.cell 4; have o5 := HA1.out.2.1.cell 5; have y0 := HA1.out.2.2.1.cell 0; have y1 := HA1.out.2.2.1.cell 1; have z0 := HA1.out.2.2.2.cell 0; have z1 := HA1.out.2.2.2.cell 1; simp at x0 x1 o0 o2 o3 o4 o5 y0 y1 z0 z1; have f0 := HA1.out.2.2.1.frozen 0; have f1 := HA1.out.2.2.1.frozen 1; have g0 := HA1.out.2.2.2.frozen 0; have g1 := HA1.out.2.2.2.frozen 1) | (go_at_call 16; (refine (HCN.out _).mono ?_); clear x0 x1 o0 o2 o3 o4 o5 y0 y1 z0 z1 f0 f1 g0 g1; rintro e w2 ⟨rfl, hB⟩; have HB1 : Hid (Below w.heap.size w w2) := g_below_on HB1.out hB; have HA1 := Lib.hid (HA1.out.on hB); clear hB; have x0 := HA1.out.1.cell 0; have x1 := HA1.out.1.cell 1; have o0 := HA1.out.2.1.cell 0; have o2 := HA1.out.2.1.cell 2; have o3 := HA1.out.2.1.cell 3; have o4 := HA1.out.2.1.cell 4; have o5 := HA1.out.2.1.cell 5; have y0 := HA1.out.2.2.1.cell 0; have y1 := HA1.out.2.2.1.cell 1; have z0 := HA1.out.2.2.2.cell 0; have z1 := HA1.out.2.2.2.cell 1; simp at x0 x1 o0 o2 o3 o4 o5 y0 y1 z0 z1; have f0 := HA1.out.2.2.1.frozen 0; have f1 := HA1.out.2.2.1.frozen 1; have g0 := HA1.out.2.2.2.frozen 0; have g1 := HA1.out.2.2.2.frozen 1))
  go_region
  all_goals
    go_wp2
    obtain ⟨c0, c1, c2, c3, hb⟩ := set4 (a := .bool vh) (b := .string vs) (c := .bool vh) (d := .string vs) HA1.out.2.2.1 HA1.out.2.2.2 (by omega) HB1.out (by omega) (by omega)
    exact bodyPost_ret (v := .tuple #[.agg #[.bool vh, .string vs], .int .i64 9, .agg #[.bool vh, .string vs], .bool false]) (by simp [results, Tryd.results11, go_sem, c0, c1, c2, c3]) rfl ⟨rfl, by first | exact hb | exact hb.drew⟩
set_option maxHeartbeats 1000000 in
theorem ref_over2 (vh : Bool) (vs : ByteArray) (key : Int) (xs : ByteArray) (oh : Bool) (os : ByteArray) (n : Int) (w : World) (m : Int) (hg : O.good ⟨5, key, xs, oh, os, n⟩ = true) (hnum : ∀ W, Calls Tryd.prog 16 #[.agg (vC ⟨vh, vs⟩)] W fun en w' => en = .returned (.tuple #[.int .i64 m, .bool true]) ∧ Below W.heap.size W w') (hm : in64 m) (hn : in64 n) (h1 : n < 0) (h2 : m < -9223372036854775808 - n) : Calls Tryd.prog 11 #[.agg (vC ⟨vh, vs⟩), .agg (oC ⟨5, key, xs, oh, os, n⟩)] w fun en w' => en = .returned (.tuple #[.agg #[.bool vh, .string vs], .int .i64 9, .agg #[.bool vh, .string vs], .bool false]) ∧ Below w.heap.size w w' := by
  have HA := Lib.hid (R4.start w ⟨vh, vs⟩ ⟨5, key, xs, oh, os, n⟩)
  have HG := Lib.hid hg
  clear hg
  have HCN := Lib.hid hnum
  clear hnum
  have hb1 := hm.1
  have hb2 := hm.2
  have hb3 := hn.1
  have hb4 := hn.2
  clear hm hn
  go_enter Tryd.func11, Tryd.ntmps11
  go_wp2_with (first | (go_at_call 8; (with_reducible refine (refGood_any ⟨5, key, xs, oh, os, n⟩ _).mono ?_); rw [HG.out]; rintro e w1 ⟨rfl, hB⟩; have HB1 : Hid (Below w.heap.size w w1) := g_below_on (by go_grown) hB; have HA1 := Lib.hid (HA.out.on hB); clear hB; have x0 := HA1.out.1.cell 0; have x1 := HA1.out.1.cell 1; have o0 := HA1.out.2.1.cell 0; have o2 := HA1.out.2.1.cell 2; have o3 := HA1.out.2.1.cell 3; have o4 := HA1.out.2.1.cell 4; have o5 := HA1.out.2.1.cell 5; have y0 := HA1.out.2.2.1.cell 0; have y1 := HA1.out.2.2.1.cell 1; have z0 := HA1.out.2.2.2.cell 0; have z1 := HA1.out.2.2.2.cell 1; simp at x0 x1 o0 o2 o3 o4 o5 y0 y1 z0 z1; have f0 := HA1.out.2.2.1.frozen 0; have f1 := HA1.out.2.2.1.frozen 1; have g0 := HA1.out.2.2.2.frozen 0; have g1 := HA1.out.2.2.2.frozen 1) | (go_at_call 16; (refine (HCN.out _).mono ?_); clear x0 x1 o0 o2 o3 o4 o5 y0 y1 z0 z1 f0 f1 g0 g1; rintro e w2 ⟨rfl, hB⟩; have HB1 : Hid (Below w.heap.size w w2) := g_below_on HB1.out hB; have HA1 := Lib.hid (HA1.out.on hB); clear hB; have x0 := HA1.out.1.cell 0; have x1 := HA1.out.1.cell 1; have o0 := HA1.out.2.1.cell 0; have o2 := HA1.out.2.1.cell 2; have o3 := HA1.out.2.1.cell 3; have o4 := HA1.out.2.1.cell 4; have o5 := HA1.out.2.1.cell 5; have y0 := HA1.out.2.2.1.cell 0; have y1 := HA1.out.2.2.1.cell 1; have z0 := HA1.out.2.2.2.cell 0; have z1 := HA1.out.2.2.2.cell 1; simp at x0 x1 o0 o2 o3 o4 o5 y0 y1 z0 z1; have f0 := HA1.out.2.2.1.frozen 0; have f1 := HA1.out.2.2.1.frozen 1; have g0 := HA1.out.2.2.2.frozen 0; have g1 := HA1.out.2.2.2.frozen 1))
  go_region
  all_goals
    go_wp2
    obtain ⟨c0, c1, c2, c3, hb⟩ := set4 (a := .bool vh) (b := .string vs) (c := .bool vh) (d := .string vs) HA1.out.2.2.1 HA1.out.2.2.2 (by omega) HB1.out (by omega) (by omega)
    exact bodyPost_ret (v := .tuple #[.agg #[.bool vh, .string vs], .int .i64 9, .agg #[.bool vh, .string vs], .bool false]) (by simp [results, Tryd.results11, go_sem, c0, c1, c2, c3]) rfl ⟨rfl, by first | exact hb | exact hb.drew⟩
set_option maxHeartbeats 1000000 in
theorem ref_sum (vh : Bool) (vs : ByteArray) (key : Int) (xs : ByteArray) (oh : Bool) (os : ByteArray) (n : Int) (w : World) (m : Int) (hg : O.good ⟨5, key, xs, oh, os, n⟩ = true) (hnum : ∀ W, Calls Tryd.prog 16 #[.agg (vC ⟨vh, vs⟩)] W fun en w' => en = .returned (.tuple #[.int .i64 m, .bool true]) ∧ Below W.heap.size W w') (hm : in64 m) (hn : in64 n) (hi : in64 (m + n)) : Calls Tryd.prog 11 #[.agg (vC ⟨vh, vs⟩), .agg (oC ⟨5, key, xs, oh, os, n⟩)] w fun en w' => en = .returned (.tuple #[.agg #[.bool true, .string ⟨(Lib.itoa (m + n)).toArray⟩], .int .i64 0, .agg #[.bool true, .string ⟨(Lib.itoa (m + n)).toArray⟩], .bool true]) ∧ Below w.heap.size w w' := by
  have HA := Lib.hid (R4.start w ⟨vh, vs⟩ ⟨5, key, xs, oh, os, n⟩)
  have HG := Lib.hid hg
  clear hg
  have HCN := Lib.hid hnum
  clear hnum
  have hb1 := hm.1
  have hb2 := hm.2
  have hb3 := hn.1
  have hb4 := hn.2
  have hw : IntKind.i64.wrap (m + n) = m + n := IntWalk.i64_in _ hi
  have HI := Lib.hid hi
  obtain ⟨t, ht⟩ : ∃ t : ByteArray, (⟨(Lib.itoa (m + n)).toArray⟩ : ByteArray) = t := ⟨_, rfl⟩
  have HSS := Lib.hid ht
  rw [ht]
  clear hm hn ht
  obtain ⟨hi1, hi2⟩ := hi
  rcases Int.lt_trichotomy n 0 with hn0 | hn0 | hn0
  · have h3 : ¬ m < -9223372036854775808 - n := by omega
    go_enter Tryd.func11, Tryd.ntmps11
    go_wp2_with (first | (go_at_call 8; (with_reducible refine (refGood_any ⟨5, key, xs, oh, os, n⟩ _).mono ?_); rw [HG.out]; rintro e w1 ⟨rfl, hB⟩; have HB1 : Hid (Below w.heap.size w w1) := g_below_on (by go_grown) hB; have HA1 := Lib.hid (HA.out.on hB); clear hB; have x0 := HA1.out.1.cell 0; have x1 := HA1.out.1.cell 1; have o0 := HA1.out.2.1.cell 0; have o2 := HA1.out.2.1.cell 2; have o3 := HA1.out.2.1.cell 3; have o4 := HA1.out.2.1.cell 4; have o5 := HA1.out.2.1.cell 5; have y0 := HA1.out.2.2.1.cell 0; have y1 := HA1.out.2.2.1.cell 1; have z0 := HA1.out.2.2.2.cell 0; have z1 := HA1.out.2.2.2.cell 1; simp at x0 x1 o0 o2 o3 o4 o5 y0 y1 z0 z1; have f0 := HA1.out.2.2.1.frozen 0; have f1 := HA1.out.2.2.1.frozen 1; have g0 := HA1.out.2.2.2.frozen 0; have g1 := HA1.out.2.2.2.frozen 1) | (go_at_call 16; (refine (HCN.out _).mono ?_); clear x0 x1 o0 o2 o3 o4 o5 y0 y1 z0 z1 f0 f1 g0 g1; rintro e w2 ⟨rfl, hB⟩; have HB1 : Hid (Below w.heap.size w w2) := g_below_on HB1.out hB; have HA1 := Lib.hid (HA1.out.on hB); clear hB; have x0 := HA1.out.1.cell 0; have x1 := HA1.out.1.cell 1; have o0 := HA1.out.2.1.cell 0; have o2 := HA1.out.2.1.cell 2; have o3 := HA1.out.2.1.cell 3; have o4 := HA1.out.2.1.cell 4; have o5 := HA1.out.2.1.cell 5; have y0 := HA1.out.2.2.1.cell 0; have y1 := HA1.out.2.2.1.cell 1; have z0 := HA1.out.2.2.2.cell 0; have z1 := HA1.out.2.2.2.cell 1; simp at x0 x1 o0 o2 o3 o4 o5 y0 y1 z0 z1; have f0 := HA1.out.2.2.1.frozen 0; have f1 := HA1.out.2.2.1.frozen 1; have g0 := HA1.out.2.2.2.frozen 0; have g1 := HA1.out.2.2.2.frozen 1) | (go_at_call 17; (with_reducible refine (refDigits_any (m + n) _ HI.out).mono ?_); rw [HSS.out]; clear x0 x1 o0 o2 o3 o4 o5 y0 y1 z0 z1 f0 f1 g0 g1; rintro e w3 ⟨rfl, hB⟩; have HB1 : Hid (Below w.heap.size w w3) := g_below_on HB1.out hB; have HA1 := Lib.hid (HA1.out.on hB); clear hB; have hl := HA1.out.2.2.2.lt; have x0 := HA1.out.1.cell 0; have x1 := HA1.out.1.cell 1; have o0 := HA1.out.2.1.cell 0; have o2 := HA1.out.2.1.cell 2; have o3 := HA1.out.2.1.cell 3; have o4 := HA1.out.2.1.cell 4; have o5 := HA1.out.2.1.cell 5; have y0 := HA1.out.2.2.1.cell 0; have y1 := HA1.out.2.2.1.cell 1; have z0 := HA1.out.2.2.2.cell 0; have z1 := HA1.out.2.2.2.cell 1; simp at x0 x1 o0 o2 o3 o4 o5 y0 y1 z0 z1; have f0 := HA1.out.2.2.1.frozen 0; have f1 := HA1.out.2.2.1.frozen 1; have g0 := HA1.out.2.2.2.frozen 0; have g1 := HA1.out.2.2.2.frozen 1))
    have K1 := HA1.out.2.2.1.alloc (.cells #[.bool true, .string t] 27)
    have K2 := HA1.out.2.2.2.alloc (.cells #[.bool true, .string t] 27)
    have y0 := K1.cell 0
    have y1 := K1.cell 1
    have z0 := K2.cell 0
    have z1 := K2.cell 1
    simp at y0 y1 z0 z1
    have f0 := K1.frozen 0
    have f1 := K1.frozen 1
    have g0 := K2.frozen 0
    have g1 := K2.frozen 1
    have HK1 := Lib.hid K1
    have HK2 := Lib.hid K2
    have HBK := Lib.hid (HB1.out.alloc HB1.out.size (.cells #[.bool true, .string t] 27))
    clear K1 K2
    go_region
    all_goals
      go_wp2
      obtain ⟨k1, k2, hb⟩ := set4b (a := .bool true) (b := .string t) (c := .bool true) (d := .string t) HK1.out HK2.out (by omega) HBK.out (by omega) (by omega)
      have c0 := k1.cell 0
      have c1 := k1.cell 1
      have c2 := k2.cell 0
      have c3 := k2.cell 1
      simp at c0 c1 c2 c3
      exact bodyPost_ret (v := .tuple #[.agg #[.bool true, .string t], .int .i64 0, .agg #[.bool true, .string t], .bool true]) (by simp [results, Tryd.results11, go_sem, c0, c1, c2, c3]) rfl ⟨rfl, hb.drew⟩
  · have h3 : ¬ 0 < n := by omega
    have h4 : ¬ n < 0 := by omega
    clear hn0
    go_enter Tryd.func11, Tryd.ntmps11
    go_wp2_with (first | (go_at_call 8; (with_reducible refine (refGood_any ⟨5, key, xs, oh, os, n⟩ _).mono ?_); rw [HG.out]; rintro e w1 ⟨rfl, hB⟩; have HB1 : Hid (Below w.heap.size w w1) := g_below_on (by go_grown) hB; have HA1 := Lib.hid (HA.out.on hB); clear hB; have x0 := HA1.out.1.cell 0; have x1 := HA1.out.1.cell 1; have o0 := HA1.out.2.1.cell 0; have o2 := HA1.out.2.1.cell 2; have o3 := HA1.out.2.1.cell 3; have o4 := HA1.out.2.1.cell 4; have o5 := HA1.out.2.1.cell 5; have y0 := HA1.out.2.2.1.cell 0; have y1 := HA1.out.2.2.1.cell 1; have z0 := HA1.out.2.2.2.cell 0; have z1 := HA1.out.2.2.2.cell 1; simp at x0 x1 o0 o2 o3 o4 o5 y0 y1 z0 z1; have f0 := HA1.out.2.2.1.frozen 0; have f1 := HA1.out.2.2.1.frozen 1; have g0 := HA1.out.2.2.2.frozen 0; have g1 := HA1.out.2.2.2.frozen 1) | (go_at_call 16; (refine (HCN.out _).mono ?_); clear x0 x1 o0 o2 o3 o4 o5 y0 y1 z0 z1 f0 f1 g0 g1; rintro e w2 ⟨rfl, hB⟩; have HB1 : Hid (Below w.heap.size w w2) := g_below_on HB1.out hB; have HA1 := Lib.hid (HA1.out.on hB); clear hB; have x0 := HA1.out.1.cell 0; have x1 := HA1.out.1.cell 1; have o0 := HA1.out.2.1.cell 0; have o2 := HA1.out.2.1.cell 2; have o3 := HA1.out.2.1.cell 3; have o4 := HA1.out.2.1.cell 4; have o5 := HA1.out.2.1.cell 5; have y0 := HA1.out.2.2.1.cell 0; have y1 := HA1.out.2.2.1.cell 1; have z0 := HA1.out.2.2.2.cell 0; have z1 := HA1.out.2.2.2.cell 1; simp at x0 x1 o0 o2 o3 o4 o5 y0 y1 z0 z1; have f0 := HA1.out.2.2.1.frozen 0; have f1 := HA1.out.2.2.1.frozen 1; have g0 := HA1.out.2.2.2.frozen 0; have g1 := HA1.out.2.2.2.frozen 1) | (go_at_call 17; (with_reducible refine (refDigits_any (m + n) _ HI.out).mono ?_); rw [HSS.out]; clear x0 x1 o0 o2 o3 o4 o5 y0 y1 z0 z1 f0 f1 g0 g1; rintro e w3 ⟨rfl, hB⟩; have HB1 : Hid (Below w.heap.size w w3) := g_below_on HB1.out hB; have HA1 := Lib.hid (HA1.out.on hB); clear hB; have hl := HA1.out.2.2.2.lt; have x0 := HA1.out.1.cell 0; have x1 := HA1.out.1.cell 1; have o0 := HA1.out.2.1.cell 0; have o2 := HA1.out.2.1.cell 2; have o3 := HA1.out.2.1.cell 3; have o4 := HA1.out.2.1.cell 4; have o5 := HA1.out.2.1.cell 5; have y0 := HA1.out.2.2.1.cell 0; have y1 := HA1.out.2.2.1.cell 1; have z0 := HA1.out.2.2.2.cell 0; have z1 := HA1.out.2.2.2.cell 1; simp at x0 x1 o0 o2 o3 o4 o5 y0 y1 z0 z1; have f0 := HA1.out.2.2.1.frozen 0; have f1 := HA1.out.2.2.1.frozen 1; have g0 := HA1.out.2.2.2.frozen 0; have g1 := HA1.out.2.2.2.frozen 1))
    have K1 := HA1.out.2.2.1.alloc (.cells #[.bool true, .string t] 27)
    have K2 := HA1.out.2.2.2.alloc (.cells #[.bool true, .string t] 27)
    have y0 := K1.cell 0
    have y1 := K1.cell 1
    have z0 := K2.cell 0
    have z1 := K2.cell 1
    simp at y0 y1 z0 z1
    have f0 := K1.frozen 0
    have f1 := K1.frozen 1
    have g0 := K2.frozen 0
    have g1 := K2.frozen 1
    have HK1 := Lib.hid K1
    have HK2 := Lib.hid K2
    have HBK := Lib.hid (HB1.out.alloc HB1.out.size (.cells #[.bool true, .string t] 27))
    clear K1 K2
    go_region
    all_goals
      go_wp2
      obtain ⟨k1, k2, hb⟩ := set4b (a := .bool true) (b := .string t) (c := .bool true) (d := .string t) HK1.out HK2.out (by omega) HBK.out (by omega) (by omega)
      have c0 := k1.cell 0
      have c1 := k1.cell 1
      have c2 := k2.cell 0
      have c3 := k2.cell 1
      simp at c0 c1 c2 c3
      exact bodyPost_ret (v := .tuple #[.agg #[.bool true, .string t], .int .i64 0, .agg #[.bool true, .string t], .bool true]) (by simp [results, Tryd.results11, go_sem, c0, c1, c2, c3]) rfl ⟨rfl, hb.drew⟩
  · have h3 : ¬ 9223372036854775807 - n < m := by omega
    go_enter Tryd.func11, Tryd.ntmps11
    go_wp2_with (first | (go_at_call 8; (with_reducible refine (refGood_any ⟨5, key, xs, oh, os, n⟩ _).mono ?_); rw [HG.out]; rintro e w1 ⟨rfl, hB⟩; have HB1 : Hid (Below w.heap.size w w1) := g_below_on (by go_grown) hB; have HA1 := Lib.hid (HA.out.on hB); clear hB; have x0 := HA1.out.1.cell 0; have x1 := HA1.out.1.cell 1; have o0 := HA1.out.2.1.cell 0; have o2 := HA1.out.2.1.cell 2; have o3 := HA1.out.2.1.cell 3; have o4 := HA1.out.2.1.cell 4; have o5 := HA1.out.2.1.cell 5; have y0 := HA1.out.2.2.1.cell 0; have y1 := HA1.out.2.2.1.cell 1; have z0 := HA1.out.2.2.2.cell 0; have z1 := HA1.out.2.2.2.cell 1; simp at x0 x1 o0 o2 o3 o4 o5 y0 y1 z0 z1; have f0 := HA1.out.2.2.1.frozen 0; have f1 := HA1.out.2.2.1.frozen 1; have g0 := HA1.out.2.2.2.frozen 0; have g1 := HA1.out.2.2.2.frozen 1) | (go_at_call 16; (refine (HCN.out _).mono ?_); clear x0 x1 o0 o2 o3 o4 o5 y0 y1 z0 z1 f0 f1 g0 g1; rintro e w2 ⟨rfl, hB⟩; have HB1 : Hid (Below w.heap.size w w2) := g_below_on HB1.out hB; have HA1 := Lib.hid (HA1.out.on hB); clear hB; have x0 := HA1.out.1.cell 0; have x1 := HA1.out.1.cell 1; have o0 := HA1.out.2.1.cell 0; have o2 := HA1.out.2.1.cell 2; have o3 := HA1.out.2.1.cell 3; have o4 := HA1.out.2.1.cell 4; have o5 := HA1.out.2.1.cell 5; have y0 := HA1.out.2.2.1.cell 0; have y1 := HA1.out.2.2.1.cell 1; have z0 := HA1.out.2.2.2.cell 0; have z1 := HA1.out.2.2.2.cell 1; simp at x0 x1 o0 o2 o3 o4 o5 y0 y1 z0 z1; have f0 := HA1.out.2.2.1.frozen 0; have f1 := HA1.out.2.2.1.frozen 1; have g0 := HA1.out.2.2.2.frozen 0; have g1 := HA1.out.2.2.2.frozen 1) | (go_at_call 17; (with_reducible refine (refDigits_any (m + n) _ HI.out).mono ?_); rw [HSS.out]; clear x0 x1 o0 o2 o3 o4 o5 y0 y1 z0 z1 f0 f1 g0 g1; rintro e w3 ⟨rfl, hB⟩; have HB1 : Hid (Below w.heap.size w w3) := g_below_on HB1.out hB; have HA1 := Lib.hid (HA1.out.on hB); clear hB; have hl := HA1.out.2.2.2.lt; have x0 := HA1.out.1.cell 0; have x1 := HA1.out.1.cell 1; have o0 := HA1.out.2.1.cell 0; have o2 := HA1.out.2.1.cell 2; have o3 := HA1.out.2.1.cell 3; have o4 := HA1.out.2.1.cell 4; have o5 := HA1.out.2.1.cell 5; have y0 := HA1.out.2.2.1.cell 0; have y1 := HA1.out.2.2.1.cell 1; have z0 := HA1.out.2.2.2.cell 0; have z1 := HA1.out.2.2.2.cell 1; simp at x0 x1 o0 o2 o3 o4 o5 y0 y1 z0 z1; have f0 := HA1.out.2.2.1.frozen 0; have f1 := HA1.out.2.2.1.frozen 1; have g0 := HA1.out.2.2.2.frozen 0; have g1 := HA1.out.2.2.2.frozen 1))
    have K1 := HA1.out.2.2.1.alloc (.cells #[.bool true, .string t] 27)
    have K2 := HA1.out.2.2.2.alloc (.cells #[.bool true, .string t] 27)
    have y0 := K1.cell 0
    have y1 := K1.cell 1
    have z0 := K2.cell 0
    have z1 := K2.cell 1
    simp at y0 y1 z0 z1
    have f0 := K1.frozen 0
    have f1 := K1.frozen 1
    have g0 := K2.frozen 0
    have g1 := K2.frozen 1
    have HK1 := Lib.hid K1
    have HK2 := Lib.hid K2
    have HBK := Lib.hid (HB1.out.alloc HB1.out.size (.cells #[.bool true, .string t] 27))
    clear K1 K2
    go_region
    all_goals
      go_wp2
      obtain ⟨k1, k2, hb⟩ := set4b (a := .bool true) (b := .string t) (c := .bool true) (d := .string t) HK1.out HK2.out (by omega) HBK.out (by omega) (by omega)
      have c0 := k1.cell 0
      have c1 := k1.cell 1
      have c2 := k2.cell 0
      have c3 := k2.cell 1
      simp at c0 c1 c2 c3
      exact bodyPost_ret (v := .tuple #[.agg #[.bool true, .string t], .int .i64 0, .agg #[.bool true, .string t], .bool true]) (by simp [results, Tryd.results11, go_sem, c0, c1, c2, c3]) rfl ⟨rfl, hb.drew⟩
abbrev Res.ref (r : Res) : Ending := .returned (.tuple #[.agg (vC r.1), .int .i64 r.2.1, .agg (vC r.2.2.1), .bool r.2.2.2])
theorem refNum_in {l : List UInt8} {n : Int} (h : refNum l = some n) : in64 n := by
  unfold refNum at h
  split at h
  · cases h
  · split at h
    · split at h
      · cases h
      · have := neg_bound _ _ _ (by decide) (by decide) h
        exact ⟨this.1, by omega⟩
    · split at h
      · cases h
      · rw [Option.bind_eq_some_iff] at h
        obtain ⟨m, hm, h⟩ := h
        have := neg_bound _ _ _ (by decide) (by decide) hm
        split at h
        · cases h
        · simp only [Option.some.injEq] at h
          subst h
          unfold in64; omega
theorem refRes_some {s : ByteArray} {m : Int} (h : numO s.data.toList = some m) : refRes s = (m, true) := by
  obtain ⟨h1, h2⟩ := numO_some h
  unfold refRes
  rw [← h1, ref_itoa m h2]
  simp
theorem refRes_none {s : ByteArray} (h : numO s.data.toList = none) : (refRes s).2 = false := by
  unfold refRes
  cases hr : refNum s.data.toList with
  | none => rfl
  | some m =>
    simp only [decide_eq_false_iff_not]
    intro he
    have := (numO_ref hr (refNum_in hr)).1 he
    rw [h] at this
    cases this
theorem number_ref (vh : Bool) (vs : ByteArray) (hs : vs.size ≤ 1000000) :
    (∃ m, numV ⟨vh, vs⟩ = some m ∧ ∀ W, Calls Tryd.prog 16 #[.agg (vC ⟨vh, vs⟩)] W fun en w' => en = .returned (.tuple #[.int .i64 m, .bool true]) ∧ Below W.heap.size W w') ∨
    (∃ m, numV ⟨vh, vs⟩ = none ∧ ∀ W, Calls Tryd.prog 16 #[.agg (vC ⟨vh, vs⟩)] W fun en w' => en = .returned (.tuple #[.int .i64 m, .bool false]) ∧ Below W.heap.size W w') := by
  cases vh with
  | false => exact .inl ⟨0, rfl, fun W => refNumber_none vs W⟩
  | true =>
    cases h : numO vs.data.toList with
    | some m =>
      refine .inl ⟨m, h, fun W => ?_⟩
      have := refNumber_any vs W hs
      rw [refRes_some h] at this
      exact this
    | none =>
      refine .inr ⟨(refRes vs).1, h, fun W => ?_⟩
      have := refNumber_any vs W hs
      rw [refRes_none h] at this
      exact this
theorem refApply_any (v : V) (x : O) (w : World) (hs : v.s.size ≤ 1000000) (hn : in64 x.n) : Calls Tryd.prog 11 #[.agg (vC v), .agg (oC x)] w fun en w' => en = (applyV v x).ref ∧ Below w.heap.size w w' := by
  obtain ⟨vh, vs⟩ := v
  obtain ⟨kind, key, xs, oh, os, n⟩ := x
  unfold applyV
  cases hg : O.good ⟨kind, key, xs, oh, os, n⟩ with
  | false => exact ref_bad kind vh vs key xs oh os n w hg
  | true =>
    rw [if_pos rfl]
    simp only
    by_cases h2 : kind = 2
    · subst h2; exact ref_put vh vs key xs oh os n w hg
    · rw [if_neg h2]
      by_cases h3 : kind = 3
      · subst h3; exact ref_delete vh vs key xs oh os n w hg
      · rw [if_neg h3]
        by_cases h4 : kind = 4
        · subst h4
          rw [if_pos rfl]
          by_cases hc : vh = oh ∧ vs = os
          · rw [if_pos hc]; exact ref_cas vh vs key xs oh os n w hg hc.1.symm hc.2.symm
          · rw [if_neg hc]
            by_cases h6 : vh = oh
            · exact ref_differ1 vh vs key xs oh os n w hg h6.symm (fun h => hc ⟨h6, toL_inj h⟩)
            · exact ref_differ2 vh vs key xs oh os n w hg h6
        · rw [if_neg h4]
          by_cases h5 : kind = 5
          · subst h5
            rw [if_pos rfl]
            unfold addV
            rcases number_ref vh vs hs with ⟨m, hv, hc⟩ | ⟨m, hv, hc⟩
            · rw [hv]
              simp only
              have hm := numV_in hv
              cases ho : over m n with
              | true =>
                rw [if_pos rfl]
                unfold over at ho
                rw [decide_eq_true_iff] at ho
                have h0 := hm.1
                have h1 := hm.2
                rcases ho with ho | ho
                · exact ref_over2 vh vs key xs oh os n w m hg hc hm hn (by omega) (by omega)
                · exact ref_over1 vh vs key xs oh os n w m hg hc hm hn (by omega) (by omega)
              | false =>
                rw [if_neg (by decide)]
                unfold over at ho
                rw [decide_eq_false_iff_not] at ho
                exact ref_sum vh vs key xs oh os n w m hg hc hm hn (by unfold in64; omega)
            · rw [hv]
              exact ref_form vh vs key xs oh os n w m hg hc
          · rw [if_neg h5]; exact ref_get kind vh vs key xs oh os n w hg h2 h3 h4 h5
end Go.Proofs.YtegjgdiollafkaaDoor
