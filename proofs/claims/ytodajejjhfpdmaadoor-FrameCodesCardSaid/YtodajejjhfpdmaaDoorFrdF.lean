/-
  Frame's decoder: a field, letter by letter.
-/
import Derived.Test.YtodajejjhfpdmaaDoorFrdE
namespace Go.Proofs.YtodajejjhfpdmaaDoor
open Go.RowKit Go.Instr

/-- A frame in block F, its slices in rows from base on. -/
def FrAt (w : World) (F base : Nat) (f : Fr) : Prop := ∃ s t, Blk w F (frC f s t) 47 ∧ memR.Own 75 w base s f.ms ∧ entR.Own 81 w base t f.es
/-- All other blocks are as they were. -/
def KF (D B F : Nat) (w w' : World) : Prop := w.heap.size ≤ w'.heap.size ∧ ∀ k, k < w.heap.size → k ≠ D → k ≠ B → k ≠ F → w'.heap[k]? = w.heap[k]?
theorem KF.trans {D B F : Nat} {w w1 w2 : World} (h : KF D B F w w1) (k : KF D B F w1 w2) : KF D B F w w2 :=
  ⟨Nat.le_trans h.1 k.1, fun i hi h1 h2 h3 => (k.2 i (Nat.lt_of_lt_of_le hi h.1) h1 h2 h3).trans (h.2 i hi h1 h2 h3)⟩
def FQ (base D B F : Nat) (w : World) (s : Sd) (cs : Array Value) (sl tl : Value) (ms : List Mem) (es : List Ent) (w' : World) : Prop :=
  DecAt w' D B s ∧ Below base w w' ∧ KF D B F w w' ∧ Blk w' F cs 47 ∧ memR.Own 75 w' base sl ms ∧ entR.Own 81 w' base tl es
theorem FQ.set {base D B F : Nat} {w : World} {s : Sd} {cs : Array Value} {sl tl : Value} {ms : List Mem} {es : List Ent} {w' : World} (h : FQ base D B F w s cs sl tl ms es w') (hF : base ≤ F) (j : Nat) (v : Value) (cs' : Array Value) (hcs : cs.setIfInBounds j v = cs') :
    FQ base D B F w s cs' sl tl ms es (w'.setCell ⟨F, j, none⟩ v) := by
  obtain ⟨h1, h2, h3, h4, h5, h6⟩ := h
  have hne := h1.other h4 (by decide) (by decide)
  refine ⟨⟨h1.1.set_other j v (Ne.symm hne.1), (Below.heap_setCell w' ⟨F, j, none⟩ v B (Ne.symm hne.2)).trans h1.2.1, h1.2.2⟩, h2.setCell hF v, ⟨by simpa using h3.1, fun k hk a b c => ?_⟩, h4.set j v _ hcs, h5.setB h4 (by decide), h6.setB h4 (by decide)⟩
  exact (Below.heap_setCell w' ⟨F, j, none⟩ v k c).trans (h3.2 k hk a b c)
theorem FQ.of {base D B F : Nat} {w w2 : World} {s s2 : Sd} {cs : Array Value} {sl tl : Value} {ms : List Mem} {es : List Ent} (h : DecAt w D B s) (hf : Blk w F cs 47) (hm : memR.Own 75 w base sl ms) (he : entR.Own 81 w base tl es)
    (q : DecAt w2 D B s2 ∧ Below base w w2 ∧ KD D B w w2) : FQ base D B F w s2 cs sl tl ms es w2 :=
  ⟨q.1, q.2.1, ⟨q.2.2.1, fun k hk a b _ => q.2.2.2 k hk a b⟩, DQ.blk q h hf (by decide) (by decide), own_kd hm h q (by decide) (by decide), own_kd he h q (by decide) (by decide)⟩
theorem FQ.b {base D B F : Nat} {w : World} {s : Sd} {cs : Array Value} {sl tl : Value} {ms : List Mem} {es : List Ent} {w' : World} (h : FQ base D B F w s cs sl tl ms es w') : Blk w' F cs 47 := h.2.2.2.1
/-- What the reading of a field leaves. -/
def FldP (base D B F : Nat) (w : World) (p : Fr × Sd) (e : Ending) (w' : World) : Prop :=
  e = .returned (.tuple #[]) ∧ DecAt w' D B p.2 ∧ Below base w w' ∧ KF D B F w w' ∧ FrAt w' F base p.1
theorem FldP.of {base D B F : Nat} {w w' : World} {s : Sd} {f : Fr} {sl tl : Value} (h : FQ base D B F w s (frC f sl tl) sl tl f.ms f.es w') : FldP base D B F w (f, s) (.returned (.tuple #[])) w' :=
  ⟨rfl, h.1, h.2.1, h.2.2.1, sl, tl, h.2.2.2.1, h.2.2.2.2.1, h.2.2.2.2.2⟩
set_option maxHeartbeats 2000000 in
theorem dfield_E {base D B F : Nat} {s : Sd} {f : Fr} {w : World} (h : DecAt w D B s) (hf : FrAt w F base f) (hb : base ≤ B) (_hbD : base ≤ D) (hF : base ≤ F) :
    Calls Tryd.prog 33 #[.pointer (some ⟨D, 0, none⟩), .pointer (some ⟨F, 0, none⟩), .int .i32 69] w (FldP base D B F w ({ f with epoch := (dFour s).1 }, (dFour s).2)) := by
  obtain ⟨sl, tl, hfb, hms, hes⟩ := hf
  have HD := Lib.hid h
  have HB := Lib.hid hfb
  have HM := Lib.hid hms
  have HE := Lib.hid hes
  have H1 := Lib.hid (dfour_any (base := base) HD.out hb)
  clear h hfb hms hes
  go_enter Tryd.func33, Tryd.ntmps33
  go_wp2_with fail
  with_reducible refine H1.out.mono ?_
  rintro e w2 ⟨rfl, q2⟩
  have X0 := Lib.hid (FQ.of HD.out HB.out HM.out HE.out q2)
  have c3 := X0.out.b.cell 3
  have f3 := X0.out.b.frozen 3
  simp at c3
  clear H1 q2 HD HB HM HE
  go_wp2_with fail
  go_end0
  have x1 := X0.out.set hF 3 (.int .u32 (dFour s).1) #[.int .u8 f.kind, .int .u8 f.frm, .int .u8 f.dest, .int .u32 (dFour s).1, .int .u8 f.key, .int .u32 f.sn, .int .u8 f.sb, .int .u8 f.sl, .bool f.has, .string f.text, .bool f.rmw, .bool f.flag, .int .u8 f.dir, .int .u8 f.life, .int .u32 f.req, .int .u32 f.bn, .int .u8 f.bb, .int .u32 f.slot, .int .u8 f.cmd.k, .int .u8 f.cmd.n, .int .u8 f.cmd.l, .int .u32 f.cmd.e, .int .u32 f.cmd.r, .int .u32 f.ve, sl, .int .u8 f.lv.a, .int .u8 f.lv.b, .int .u8 f.lv.c, .int .u8 f.lv.d, .int .u8 f.lv.e, .int .u8 f.lv.f, .int .u8 f.lv.g, .int .u8 f.lv.h, tl] rfl
  exact FldP.of (f := { f with epoch := (dFour s).1 }) (sl := sl) (tl := tl) x1
set_option maxHeartbeats 2000000 in
theorem dfield_K {base D B F : Nat} {s : Sd} {f : Fr} {w : World} (h : DecAt w D B s) (hf : FrAt w F base f) (hb : base ≤ B) (hbD : base ≤ D) (hF : base ≤ F) :
    Calls Tryd.prog 33 #[.pointer (some ⟨D, 0, none⟩), .pointer (some ⟨F, 0, none⟩), .int .i32 75] w (FldP base D B F w ({ f with key := (dKey s).1 }, (dKey s).2)) := by
  obtain ⟨sl, tl, hfb, hms, hes⟩ := hf
  have HD := Lib.hid h
  have HB := Lib.hid hfb
  have HM := Lib.hid hms
  have HE := Lib.hid hes
  have H1 := Lib.hid (dkey_any (base := base) HD.out hb hbD)
  clear h hfb hms hes
  go_enter Tryd.func33, Tryd.ntmps33
  go_wp2_with fail
  with_reducible refine H1.out.mono ?_
  rintro e w2 ⟨rfl, q2⟩
  have X0 := Lib.hid (FQ.of HD.out HB.out HM.out HE.out q2)
  have c4 := X0.out.b.cell 4
  have f4 := X0.out.b.frozen 4
  simp at c4
  clear H1 q2 HD HB HM HE
  go_wp2_with fail
  go_end0
  have x1 := X0.out.set hF 4 (.int .u8 (dKey s).1) #[.int .u8 f.kind, .int .u8 f.frm, .int .u8 f.dest, .int .u32 f.epoch, .int .u8 (dKey s).1, .int .u32 f.sn, .int .u8 f.sb, .int .u8 f.sl, .bool f.has, .string f.text, .bool f.rmw, .bool f.flag, .int .u8 f.dir, .int .u8 f.life, .int .u32 f.req, .int .u32 f.bn, .int .u8 f.bb, .int .u32 f.slot, .int .u8 f.cmd.k, .int .u8 f.cmd.n, .int .u8 f.cmd.l, .int .u32 f.cmd.e, .int .u32 f.cmd.r, .int .u32 f.ve, sl, .int .u8 f.lv.a, .int .u8 f.lv.b, .int .u8 f.lv.c, .int .u8 f.lv.d, .int .u8 f.lv.e, .int .u8 f.lv.f, .int .u8 f.lv.g, .int .u8 f.lv.h, tl] rfl
  exact FldP.of (f := { f with key := (dKey s).1 }) (sl := sl) (tl := tl) x1
set_option maxHeartbeats 2000000 in
theorem dfield_T {base D B F : Nat} {s : Sd} {f : Fr} {w : World} (h : DecAt w D B s) (hf : FrAt w F base f) (hb : base ≤ B) (hbD : base ≤ D) (hF : base ≤ F) :
    Calls Tryd.prog 33 #[.pointer (some ⟨D, 0, none⟩), .pointer (some ⟨F, 0, none⟩), .int .i32 84] w (FldP base D B F w ({ f with sn := (dStamp s).1.1, sb := (dStamp s).1.2.1, sl := (dStamp s).1.2.2 }, (dStamp s).2)) := by
  obtain ⟨sl, tl, hfb, hms, hes⟩ := hf
  have HD := Lib.hid h
  have HB := Lib.hid hfb
  have HM := Lib.hid hms
  have HE := Lib.hid hes
  have H1 := Lib.hid (dstamp_any (base := base) HD.out hb hbD)
  clear h hfb hms hes
  go_enter Tryd.func33, Tryd.ntmps33
  go_wp2_with fail
  with_reducible refine H1.out.mono ?_
  rintro e w2 ⟨rfl, q2⟩
  have X0 := Lib.hid (FQ.of HD.out HB.out HM.out HE.out q2)
  have c5 := X0.out.b.cell 5
  have f5 := X0.out.b.frozen 5
  have c6 := X0.out.b.cell 6
  have f6 := X0.out.b.frozen 6
  have c7 := X0.out.b.cell 7
  have f7 := X0.out.b.frozen 7
  simp at c5 c6 c7
  clear H1 q2 HD HB HM HE
  go_wp2_with fail
  go_end0
  have x1 := X0.out.set hF 5 (.int .u32 (dStamp s).1.1) #[.int .u8 f.kind, .int .u8 f.frm, .int .u8 f.dest, .int .u32 f.epoch, .int .u8 f.key, .int .u32 (dStamp s).1.1, .int .u8 f.sb, .int .u8 f.sl, .bool f.has, .string f.text, .bool f.rmw, .bool f.flag, .int .u8 f.dir, .int .u8 f.life, .int .u32 f.req, .int .u32 f.bn, .int .u8 f.bb, .int .u32 f.slot, .int .u8 f.cmd.k, .int .u8 f.cmd.n, .int .u8 f.cmd.l, .int .u32 f.cmd.e, .int .u32 f.cmd.r, .int .u32 f.ve, sl, .int .u8 f.lv.a, .int .u8 f.lv.b, .int .u8 f.lv.c, .int .u8 f.lv.d, .int .u8 f.lv.e, .int .u8 f.lv.f, .int .u8 f.lv.g, .int .u8 f.lv.h, tl] rfl
  have x2 := x1.set hF 6 (.int .u8 (dStamp s).1.2.1) #[.int .u8 f.kind, .int .u8 f.frm, .int .u8 f.dest, .int .u32 f.epoch, .int .u8 f.key, .int .u32 (dStamp s).1.1, .int .u8 (dStamp s).1.2.1, .int .u8 f.sl, .bool f.has, .string f.text, .bool f.rmw, .bool f.flag, .int .u8 f.dir, .int .u8 f.life, .int .u32 f.req, .int .u32 f.bn, .int .u8 f.bb, .int .u32 f.slot, .int .u8 f.cmd.k, .int .u8 f.cmd.n, .int .u8 f.cmd.l, .int .u32 f.cmd.e, .int .u32 f.cmd.r, .int .u32 f.ve, sl, .int .u8 f.lv.a, .int .u8 f.lv.b, .int .u8 f.lv.c, .int .u8 f.lv.d, .int .u8 f.lv.e, .int .u8 f.lv.f, .int .u8 f.lv.g, .int .u8 f.lv.h, tl] rfl
  have x3 := x2.set hF 7 (.int .u8 (dStamp s).1.2.2) #[.int .u8 f.kind, .int .u8 f.frm, .int .u8 f.dest, .int .u32 f.epoch, .int .u8 f.key, .int .u32 (dStamp s).1.1, .int .u8 (dStamp s).1.2.1, .int .u8 (dStamp s).1.2.2, .bool f.has, .string f.text, .bool f.rmw, .bool f.flag, .int .u8 f.dir, .int .u8 f.life, .int .u32 f.req, .int .u32 f.bn, .int .u8 f.bb, .int .u32 f.slot, .int .u8 f.cmd.k, .int .u8 f.cmd.n, .int .u8 f.cmd.l, .int .u32 f.cmd.e, .int .u32 f.cmd.r, .int .u32 f.ve, sl, .int .u8 f.lv.a, .int .u8 f.lv.b, .int .u8 f.lv.c, .int .u8 f.lv.d, .int .u8 f.lv.e, .int .u8 f.lv.f, .int .u8 f.lv.g, .int .u8 f.lv.h, tl] rfl
  exact FldP.of (f := { f with sn := (dStamp s).1.1, sb := (dStamp s).1.2.1, sl := (dStamp s).1.2.2 }) (sl := sl) (tl := tl) x3
set_option maxHeartbeats 2000000 in
theorem dfield_V {base D B F : Nat} {s : Sd} {f : Fr} {w : World} (h : DecAt w D B s) (hf : FrAt w F base f) (hb : base ≤ B) (hbD : base ≤ D) (hF : base ≤ F) :
    Calls Tryd.prog 33 #[.pointer (some ⟨D, 0, none⟩), .pointer (some ⟨F, 0, none⟩), .int .i32 86] w (FldP base D B F w ({ f with has := (dValue s).1.1, text := (dValue s).1.2 }, (dValue s).2)) := by
  obtain ⟨sl, tl, hfb, hms, hes⟩ := hf
  have HD := Lib.hid h
  have HB := Lib.hid hfb
  have HM := Lib.hid hms
  have HE := Lib.hid hes
  have H1 := Lib.hid (dvalue_any (base := base) HD.out hb hbD)
  clear h hfb hms hes
  go_enter Tryd.func33, Tryd.ntmps33
  go_wp2_with fail
  with_reducible refine H1.out.mono ?_
  rintro e w2 ⟨rfl, q2⟩
  have X0 := Lib.hid (FQ.of HD.out HB.out HM.out HE.out q2)
  have c8 := X0.out.b.cell 8
  have f8 := X0.out.b.frozen 8
  have c9 := X0.out.b.cell 9
  have f9 := X0.out.b.frozen 9
  simp at c8 c9
  clear H1 q2 HD HB HM HE
  go_wp2_with fail
  go_end0
  have x1 := X0.out.set hF 8 (.bool (dValue s).1.1) #[.int .u8 f.kind, .int .u8 f.frm, .int .u8 f.dest, .int .u32 f.epoch, .int .u8 f.key, .int .u32 f.sn, .int .u8 f.sb, .int .u8 f.sl, .bool (dValue s).1.1, .string f.text, .bool f.rmw, .bool f.flag, .int .u8 f.dir, .int .u8 f.life, .int .u32 f.req, .int .u32 f.bn, .int .u8 f.bb, .int .u32 f.slot, .int .u8 f.cmd.k, .int .u8 f.cmd.n, .int .u8 f.cmd.l, .int .u32 f.cmd.e, .int .u32 f.cmd.r, .int .u32 f.ve, sl, .int .u8 f.lv.a, .int .u8 f.lv.b, .int .u8 f.lv.c, .int .u8 f.lv.d, .int .u8 f.lv.e, .int .u8 f.lv.f, .int .u8 f.lv.g, .int .u8 f.lv.h, tl] rfl
  have x2 := x1.set hF 9 (.string (dValue s).1.2) #[.int .u8 f.kind, .int .u8 f.frm, .int .u8 f.dest, .int .u32 f.epoch, .int .u8 f.key, .int .u32 f.sn, .int .u8 f.sb, .int .u8 f.sl, .bool (dValue s).1.1, .string (dValue s).1.2, .bool f.rmw, .bool f.flag, .int .u8 f.dir, .int .u8 f.life, .int .u32 f.req, .int .u32 f.bn, .int .u8 f.bb, .int .u32 f.slot, .int .u8 f.cmd.k, .int .u8 f.cmd.n, .int .u8 f.cmd.l, .int .u32 f.cmd.e, .int .u32 f.cmd.r, .int .u32 f.ve, sl, .int .u8 f.lv.a, .int .u8 f.lv.b, .int .u8 f.lv.c, .int .u8 f.lv.d, .int .u8 f.lv.e, .int .u8 f.lv.f, .int .u8 f.lv.g, .int .u8 f.lv.h, tl] rfl
  exact FldP.of (f := { f with has := (dValue s).1.1, text := (dValue s).1.2 }) (sl := sl) (tl := tl) x2
set_option maxHeartbeats 2000000 in
theorem dfield_M {base D B F : Nat} {s : Sd} {f : Fr} {w : World} (h : DecAt w D B s) (hf : FrAt w F base f) (hb : base ≤ B) (hbD : base ≤ D) (hF : base ≤ F) :
    Calls Tryd.prog 33 #[.pointer (some ⟨D, 0, none⟩), .pointer (some ⟨F, 0, none⟩), .int .i32 77] w (FldP base D B F w ({ f with rmw := (dFlag s).1 }, (dFlag s).2)) := by
  obtain ⟨sl, tl, hfb, hms, hes⟩ := hf
  have HD := Lib.hid h
  have HB := Lib.hid hfb
  have HM := Lib.hid hms
  have HE := Lib.hid hes
  have H1 := Lib.hid (dflag_any (base := base) HD.out hb hbD)
  clear h hfb hms hes
  go_enter Tryd.func33, Tryd.ntmps33
  go_wp2_with fail
  with_reducible refine H1.out.mono ?_
  rintro e w2 ⟨rfl, q2⟩
  have X0 := Lib.hid (FQ.of HD.out HB.out HM.out HE.out q2)
  have c10 := X0.out.b.cell 10
  have f10 := X0.out.b.frozen 10
  simp at c10
  clear H1 q2 HD HB HM HE
  go_wp2_with fail
  go_end0
  have x1 := X0.out.set hF 10 (.bool (dFlag s).1) #[.int .u8 f.kind, .int .u8 f.frm, .int .u8 f.dest, .int .u32 f.epoch, .int .u8 f.key, .int .u32 f.sn, .int .u8 f.sb, .int .u8 f.sl, .bool f.has, .string f.text, .bool (dFlag s).1, .bool f.flag, .int .u8 f.dir, .int .u8 f.life, .int .u32 f.req, .int .u32 f.bn, .int .u8 f.bb, .int .u32 f.slot, .int .u8 f.cmd.k, .int .u8 f.cmd.n, .int .u8 f.cmd.l, .int .u32 f.cmd.e, .int .u32 f.cmd.r, .int .u32 f.ve, sl, .int .u8 f.lv.a, .int .u8 f.lv.b, .int .u8 f.lv.c, .int .u8 f.lv.d, .int .u8 f.lv.e, .int .u8 f.lv.f, .int .u8 f.lv.g, .int .u8 f.lv.h, tl] rfl
  exact FldP.of (f := { f with rmw := (dFlag s).1 }) (sl := sl) (tl := tl) x1
set_option maxHeartbeats 2000000 in
theorem dfield_D {base D B F : Nat} {s : Sd} {f : Fr} {w : World} (h : DecAt w D B s) (hf : FrAt w F base f) (hb : base ≤ B) (_hbD : base ≤ D) (hF : base ≤ F) :
    Calls Tryd.prog 33 #[.pointer (some ⟨D, 0, none⟩), .pointer (some ⟨F, 0, none⟩), .int .i32 68] w (FldP base D B F w ({ f with dir := (dOne s).1 }, (dOne s).2)) := by
  obtain ⟨sl, tl, hfb, hms, hes⟩ := hf
  have HD := Lib.hid h
  have HB := Lib.hid hfb
  have HM := Lib.hid hms
  have HE := Lib.hid hes
  have H1 := Lib.hid (done_any (base := base) HD.out hb)
  clear h hfb hms hes
  go_enter Tryd.func33, Tryd.ntmps33
  go_wp2_with fail
  with_reducible refine H1.out.mono ?_
  rintro e w2 ⟨rfl, q2⟩
  have X0 := Lib.hid (FQ.of HD.out HB.out HM.out HE.out q2)
  have c12 := X0.out.b.cell 12
  have f12 := X0.out.b.frozen 12
  simp at c12
  clear H1 q2 HD HB HM HE
  go_wp2_with fail
  go_end0
  have x1 := X0.out.set hF 12 (.int .u8 (dOne s).1) #[.int .u8 f.kind, .int .u8 f.frm, .int .u8 f.dest, .int .u32 f.epoch, .int .u8 f.key, .int .u32 f.sn, .int .u8 f.sb, .int .u8 f.sl, .bool f.has, .string f.text, .bool f.rmw, .bool f.flag, .int .u8 (dOne s).1, .int .u8 f.life, .int .u32 f.req, .int .u32 f.bn, .int .u8 f.bb, .int .u32 f.slot, .int .u8 f.cmd.k, .int .u8 f.cmd.n, .int .u8 f.cmd.l, .int .u32 f.cmd.e, .int .u32 f.cmd.r, .int .u32 f.ve, sl, .int .u8 f.lv.a, .int .u8 f.lv.b, .int .u8 f.lv.c, .int .u8 f.lv.d, .int .u8 f.lv.e, .int .u8 f.lv.f, .int .u8 f.lv.g, .int .u8 f.lv.h, tl] rfl
  exact FldP.of (f := { f with dir := (dOne s).1 }) (sl := sl) (tl := tl) x1
set_option maxHeartbeats 2000000 in
theorem dfield_F {base D B F : Nat} {s : Sd} {f : Fr} {w : World} (h : DecAt w D B s) (hf : FrAt w F base f) (hb : base ≤ B) (hbD : base ≤ D) (hF : base ≤ F) :
    Calls Tryd.prog 33 #[.pointer (some ⟨D, 0, none⟩), .pointer (some ⟨F, 0, none⟩), .int .i32 70] w (FldP base D B F w ({ f with flag := (dFlag s).1 }, (dFlag s).2)) := by
  obtain ⟨sl, tl, hfb, hms, hes⟩ := hf
  have HD := Lib.hid h
  have HB := Lib.hid hfb
  have HM := Lib.hid hms
  have HE := Lib.hid hes
  have H1 := Lib.hid (dflag_any (base := base) HD.out hb hbD)
  clear h hfb hms hes
  go_enter Tryd.func33, Tryd.ntmps33
  go_wp2_with fail
  with_reducible refine H1.out.mono ?_
  rintro e w2 ⟨rfl, q2⟩
  have X0 := Lib.hid (FQ.of HD.out HB.out HM.out HE.out q2)
  have c11 := X0.out.b.cell 11
  have f11 := X0.out.b.frozen 11
  simp at c11
  clear H1 q2 HD HB HM HE
  go_wp2_with fail
  go_end0
  have x1 := X0.out.set hF 11 (.bool (dFlag s).1) #[.int .u8 f.kind, .int .u8 f.frm, .int .u8 f.dest, .int .u32 f.epoch, .int .u8 f.key, .int .u32 f.sn, .int .u8 f.sb, .int .u8 f.sl, .bool f.has, .string f.text, .bool f.rmw, .bool (dFlag s).1, .int .u8 f.dir, .int .u8 f.life, .int .u32 f.req, .int .u32 f.bn, .int .u8 f.bb, .int .u32 f.slot, .int .u8 f.cmd.k, .int .u8 f.cmd.n, .int .u8 f.cmd.l, .int .u32 f.cmd.e, .int .u32 f.cmd.r, .int .u32 f.ve, sl, .int .u8 f.lv.a, .int .u8 f.lv.b, .int .u8 f.lv.c, .int .u8 f.lv.d, .int .u8 f.lv.e, .int .u8 f.lv.f, .int .u8 f.lv.g, .int .u8 f.lv.h, tl] rfl
  exact FldP.of (f := { f with flag := (dFlag s).1 }) (sl := sl) (tl := tl) x1
set_option maxHeartbeats 2000000 in
theorem dfield_L {base D B F : Nat} {s : Sd} {f : Fr} {w : World} (h : DecAt w D B s) (hf : FrAt w F base f) (hb : base ≤ B) (_hbD : base ≤ D) (hF : base ≤ F) :
    Calls Tryd.prog 33 #[.pointer (some ⟨D, 0, none⟩), .pointer (some ⟨F, 0, none⟩), .int .i32 76] w (FldP base D B F w ({ f with life := (dOne s).1 }, (dOne s).2)) := by
  obtain ⟨sl, tl, hfb, hms, hes⟩ := hf
  have HD := Lib.hid h
  have HB := Lib.hid hfb
  have HM := Lib.hid hms
  have HE := Lib.hid hes
  have H1 := Lib.hid (done_any (base := base) HD.out hb)
  clear h hfb hms hes
  go_enter Tryd.func33, Tryd.ntmps33
  go_wp2_with fail
  with_reducible refine H1.out.mono ?_
  rintro e w2 ⟨rfl, q2⟩
  have X0 := Lib.hid (FQ.of HD.out HB.out HM.out HE.out q2)
  have c13 := X0.out.b.cell 13
  have f13 := X0.out.b.frozen 13
  simp at c13
  clear H1 q2 HD HB HM HE
  go_wp2_with fail
  go_end0
  have x1 := X0.out.set hF 13 (.int .u8 (dOne s).1) #[.int .u8 f.kind, .int .u8 f.frm, .int .u8 f.dest, .int .u32 f.epoch, .int .u8 f.key, .int .u32 f.sn, .int .u8 f.sb, .int .u8 f.sl, .bool f.has, .string f.text, .bool f.rmw, .bool f.flag, .int .u8 f.dir, .int .u8 (dOne s).1, .int .u32 f.req, .int .u32 f.bn, .int .u8 f.bb, .int .u32 f.slot, .int .u8 f.cmd.k, .int .u8 f.cmd.n, .int .u8 f.cmd.l, .int .u32 f.cmd.e, .int .u32 f.cmd.r, .int .u32 f.ve, sl, .int .u8 f.lv.a, .int .u8 f.lv.b, .int .u8 f.lv.c, .int .u8 f.lv.d, .int .u8 f.lv.e, .int .u8 f.lv.f, .int .u8 f.lv.g, .int .u8 f.lv.h, tl] rfl
  exact FldP.of (f := { f with life := (dOne s).1 }) (sl := sl) (tl := tl) x1
set_option maxHeartbeats 2000000 in
theorem dfield_R {base D B F : Nat} {s : Sd} {f : Fr} {w : World} (h : DecAt w D B s) (hf : FrAt w F base f) (hb : base ≤ B) (_hbD : base ≤ D) (hF : base ≤ F) :
    Calls Tryd.prog 33 #[.pointer (some ⟨D, 0, none⟩), .pointer (some ⟨F, 0, none⟩), .int .i32 82] w (FldP base D B F w ({ f with req := (dFour s).1 }, (dFour s).2)) := by
  obtain ⟨sl, tl, hfb, hms, hes⟩ := hf
  have HD := Lib.hid h
  have HB := Lib.hid hfb
  have HM := Lib.hid hms
  have HE := Lib.hid hes
  have H1 := Lib.hid (dfour_any (base := base) HD.out hb)
  clear h hfb hms hes
  go_enter Tryd.func33, Tryd.ntmps33
  go_wp2_with fail
  with_reducible refine H1.out.mono ?_
  rintro e w2 ⟨rfl, q2⟩
  have X0 := Lib.hid (FQ.of HD.out HB.out HM.out HE.out q2)
  have c14 := X0.out.b.cell 14
  have f14 := X0.out.b.frozen 14
  simp at c14
  clear H1 q2 HD HB HM HE
  go_wp2_with fail
  go_end0
  have x1 := X0.out.set hF 14 (.int .u32 (dFour s).1) #[.int .u8 f.kind, .int .u8 f.frm, .int .u8 f.dest, .int .u32 f.epoch, .int .u8 f.key, .int .u32 f.sn, .int .u8 f.sb, .int .u8 f.sl, .bool f.has, .string f.text, .bool f.rmw, .bool f.flag, .int .u8 f.dir, .int .u8 f.life, .int .u32 (dFour s).1, .int .u32 f.bn, .int .u8 f.bb, .int .u32 f.slot, .int .u8 f.cmd.k, .int .u8 f.cmd.n, .int .u8 f.cmd.l, .int .u32 f.cmd.e, .int .u32 f.cmd.r, .int .u32 f.ve, sl, .int .u8 f.lv.a, .int .u8 f.lv.b, .int .u8 f.lv.c, .int .u8 f.lv.d, .int .u8 f.lv.e, .int .u8 f.lv.f, .int .u8 f.lv.g, .int .u8 f.lv.h, tl] rfl
  exact FldP.of (f := { f with req := (dFour s).1 }) (sl := sl) (tl := tl) x1
set_option maxHeartbeats 2000000 in
theorem dfield_B {base D B F : Nat} {s : Sd} {f : Fr} {w : World} (h : DecAt w D B s) (hf : FrAt w F base f) (hb : base ≤ B) (hbD : base ≤ D) (hF : base ≤ F) :
    Calls Tryd.prog 33 #[.pointer (some ⟨D, 0, none⟩), .pointer (some ⟨F, 0, none⟩), .int .i32 66] w (FldP base D B F w ({ f with bn := (dMark s).1.1, bb := (dMark s).1.2 }, (dMark s).2)) := by
  obtain ⟨sl, tl, hfb, hms, hes⟩ := hf
  have HD := Lib.hid h
  have HB := Lib.hid hfb
  have HM := Lib.hid hms
  have HE := Lib.hid hes
  have H1 := Lib.hid (dballot_any (base := base) HD.out hb hbD)
  clear h hfb hms hes
  go_enter Tryd.func33, Tryd.ntmps33
  go_wp2_with fail
  with_reducible refine H1.out.mono ?_
  rintro e w2 ⟨rfl, q2⟩
  have X0 := Lib.hid (FQ.of HD.out HB.out HM.out HE.out q2)
  have c15 := X0.out.b.cell 15
  have f15 := X0.out.b.frozen 15
  have c16 := X0.out.b.cell 16
  have f16 := X0.out.b.frozen 16
  simp at c15 c16
  clear H1 q2 HD HB HM HE
  go_wp2_with fail
  go_end0
  have x1 := X0.out.set hF 15 (.int .u32 (dMark s).1.1) #[.int .u8 f.kind, .int .u8 f.frm, .int .u8 f.dest, .int .u32 f.epoch, .int .u8 f.key, .int .u32 f.sn, .int .u8 f.sb, .int .u8 f.sl, .bool f.has, .string f.text, .bool f.rmw, .bool f.flag, .int .u8 f.dir, .int .u8 f.life, .int .u32 f.req, .int .u32 (dMark s).1.1, .int .u8 f.bb, .int .u32 f.slot, .int .u8 f.cmd.k, .int .u8 f.cmd.n, .int .u8 f.cmd.l, .int .u32 f.cmd.e, .int .u32 f.cmd.r, .int .u32 f.ve, sl, .int .u8 f.lv.a, .int .u8 f.lv.b, .int .u8 f.lv.c, .int .u8 f.lv.d, .int .u8 f.lv.e, .int .u8 f.lv.f, .int .u8 f.lv.g, .int .u8 f.lv.h, tl] rfl
  have x2 := x1.set hF 16 (.int .u8 (dMark s).1.2) #[.int .u8 f.kind, .int .u8 f.frm, .int .u8 f.dest, .int .u32 f.epoch, .int .u8 f.key, .int .u32 f.sn, .int .u8 f.sb, .int .u8 f.sl, .bool f.has, .string f.text, .bool f.rmw, .bool f.flag, .int .u8 f.dir, .int .u8 f.life, .int .u32 f.req, .int .u32 (dMark s).1.1, .int .u8 (dMark s).1.2, .int .u32 f.slot, .int .u8 f.cmd.k, .int .u8 f.cmd.n, .int .u8 f.cmd.l, .int .u32 f.cmd.e, .int .u32 f.cmd.r, .int .u32 f.ve, sl, .int .u8 f.lv.a, .int .u8 f.lv.b, .int .u8 f.lv.c, .int .u8 f.lv.d, .int .u8 f.lv.e, .int .u8 f.lv.f, .int .u8 f.lv.g, .int .u8 f.lv.h, tl] rfl
  exact FldP.of (f := { f with bn := (dMark s).1.1, bb := (dMark s).1.2 }) (sl := sl) (tl := tl) x2
set_option maxHeartbeats 2000000 in
theorem dfield_S {base D B F : Nat} {s : Sd} {f : Fr} {w : World} (h : DecAt w D B s) (hf : FrAt w F base f) (hb : base ≤ B) (_hbD : base ≤ D) (hF : base ≤ F) :
    Calls Tryd.prog 33 #[.pointer (some ⟨D, 0, none⟩), .pointer (some ⟨F, 0, none⟩), .int .i32 83] w (FldP base D B F w ({ f with slot := (dFour s).1 }, (dFour s).2)) := by
  obtain ⟨sl, tl, hfb, hms, hes⟩ := hf
  have HD := Lib.hid h
  have HB := Lib.hid hfb
  have HM := Lib.hid hms
  have HE := Lib.hid hes
  have H1 := Lib.hid (dfour_any (base := base) HD.out hb)
  clear h hfb hms hes
  go_enter Tryd.func33, Tryd.ntmps33
  go_wp2_with fail
  with_reducible refine H1.out.mono ?_
  rintro e w2 ⟨rfl, q2⟩
  have X0 := Lib.hid (FQ.of HD.out HB.out HM.out HE.out q2)
  have c17 := X0.out.b.cell 17
  have f17 := X0.out.b.frozen 17
  simp at c17
  clear H1 q2 HD HB HM HE
  go_wp2_with fail
  go_end0
  have x1 := X0.out.set hF 17 (.int .u32 (dFour s).1) #[.int .u8 f.kind, .int .u8 f.frm, .int .u8 f.dest, .int .u32 f.epoch, .int .u8 f.key, .int .u32 f.sn, .int .u8 f.sb, .int .u8 f.sl, .bool f.has, .string f.text, .bool f.rmw, .bool f.flag, .int .u8 f.dir, .int .u8 f.life, .int .u32 f.req, .int .u32 f.bn, .int .u8 f.bb, .int .u32 (dFour s).1, .int .u8 f.cmd.k, .int .u8 f.cmd.n, .int .u8 f.cmd.l, .int .u32 f.cmd.e, .int .u32 f.cmd.r, .int .u32 f.ve, sl, .int .u8 f.lv.a, .int .u8 f.lv.b, .int .u8 f.lv.c, .int .u8 f.lv.d, .int .u8 f.lv.e, .int .u8 f.lv.f, .int .u8 f.lv.g, .int .u8 f.lv.h, tl] rfl
  exact FldP.of (f := { f with slot := (dFour s).1 }) (sl := sl) (tl := tl) x1
set_option maxHeartbeats 2000000 in
theorem dfield_C {base D B F : Nat} {s : Sd} {f : Fr} {w : World} (h : DecAt w D B s) (hf : FrAt w F base f) (hb : base ≤ B) (hbD : base ≤ D) (hF : base ≤ F) :
    Calls Tryd.prog 33 #[.pointer (some ⟨D, 0, none⟩), .pointer (some ⟨F, 0, none⟩), .int .i32 67] w (FldP base D B F w ({ f with cmd := (dCmd s).1 }, (dCmd s).2)) := by
  obtain ⟨sl, tl, hfb, hms, hes⟩ := hf
  have HD := Lib.hid h
  have HB := Lib.hid hfb
  have HM := Lib.hid hms
  have HE := Lib.hid hes
  have H1 := Lib.hid (dcommand_any (base := base) HD.out hb hbD)
  clear h hfb hms hes
  go_enter Tryd.func33, Tryd.ntmps33
  go_wp2_with fail
  with_reducible refine H1.out.mono ?_
  rintro e w2 ⟨rfl, q2⟩
  have X0 := Lib.hid (FQ.of HD.out HB.out HM.out HE.out q2)
  have c18 := X0.out.b.cell 18
  have f18 := X0.out.b.frozen 18
  have c19 := X0.out.b.cell 19
  have f19 := X0.out.b.frozen 19
  have c20 := X0.out.b.cell 20
  have f20 := X0.out.b.frozen 20
  have c21 := X0.out.b.cell 21
  have f21 := X0.out.b.frozen 21
  have c22 := X0.out.b.cell 22
  have f22 := X0.out.b.frozen 22
  simp at c18 c19 c20 c21 c22
  clear H1 q2 HD HB HM HE
  go_wp2_with fail
  go_end0
  have x1 := X0.out.set hF 18 (.int .u8 (dCmd s).1.k) #[.int .u8 f.kind, .int .u8 f.frm, .int .u8 f.dest, .int .u32 f.epoch, .int .u8 f.key, .int .u32 f.sn, .int .u8 f.sb, .int .u8 f.sl, .bool f.has, .string f.text, .bool f.rmw, .bool f.flag, .int .u8 f.dir, .int .u8 f.life, .int .u32 f.req, .int .u32 f.bn, .int .u8 f.bb, .int .u32 f.slot, .int .u8 (dCmd s).1.k, .int .u8 f.cmd.n, .int .u8 f.cmd.l, .int .u32 f.cmd.e, .int .u32 f.cmd.r, .int .u32 f.ve, sl, .int .u8 f.lv.a, .int .u8 f.lv.b, .int .u8 f.lv.c, .int .u8 f.lv.d, .int .u8 f.lv.e, .int .u8 f.lv.f, .int .u8 f.lv.g, .int .u8 f.lv.h, tl] rfl
  have x2 := x1.set hF 19 (.int .u8 (dCmd s).1.n) #[.int .u8 f.kind, .int .u8 f.frm, .int .u8 f.dest, .int .u32 f.epoch, .int .u8 f.key, .int .u32 f.sn, .int .u8 f.sb, .int .u8 f.sl, .bool f.has, .string f.text, .bool f.rmw, .bool f.flag, .int .u8 f.dir, .int .u8 f.life, .int .u32 f.req, .int .u32 f.bn, .int .u8 f.bb, .int .u32 f.slot, .int .u8 (dCmd s).1.k, .int .u8 (dCmd s).1.n, .int .u8 f.cmd.l, .int .u32 f.cmd.e, .int .u32 f.cmd.r, .int .u32 f.ve, sl, .int .u8 f.lv.a, .int .u8 f.lv.b, .int .u8 f.lv.c, .int .u8 f.lv.d, .int .u8 f.lv.e, .int .u8 f.lv.f, .int .u8 f.lv.g, .int .u8 f.lv.h, tl] rfl
  have x3 := x2.set hF 20 (.int .u8 (dCmd s).1.l) #[.int .u8 f.kind, .int .u8 f.frm, .int .u8 f.dest, .int .u32 f.epoch, .int .u8 f.key, .int .u32 f.sn, .int .u8 f.sb, .int .u8 f.sl, .bool f.has, .string f.text, .bool f.rmw, .bool f.flag, .int .u8 f.dir, .int .u8 f.life, .int .u32 f.req, .int .u32 f.bn, .int .u8 f.bb, .int .u32 f.slot, .int .u8 (dCmd s).1.k, .int .u8 (dCmd s).1.n, .int .u8 (dCmd s).1.l, .int .u32 f.cmd.e, .int .u32 f.cmd.r, .int .u32 f.ve, sl, .int .u8 f.lv.a, .int .u8 f.lv.b, .int .u8 f.lv.c, .int .u8 f.lv.d, .int .u8 f.lv.e, .int .u8 f.lv.f, .int .u8 f.lv.g, .int .u8 f.lv.h, tl] rfl
  have x4 := x3.set hF 21 (.int .u32 (dCmd s).1.e) #[.int .u8 f.kind, .int .u8 f.frm, .int .u8 f.dest, .int .u32 f.epoch, .int .u8 f.key, .int .u32 f.sn, .int .u8 f.sb, .int .u8 f.sl, .bool f.has, .string f.text, .bool f.rmw, .bool f.flag, .int .u8 f.dir, .int .u8 f.life, .int .u32 f.req, .int .u32 f.bn, .int .u8 f.bb, .int .u32 f.slot, .int .u8 (dCmd s).1.k, .int .u8 (dCmd s).1.n, .int .u8 (dCmd s).1.l, .int .u32 (dCmd s).1.e, .int .u32 f.cmd.r, .int .u32 f.ve, sl, .int .u8 f.lv.a, .int .u8 f.lv.b, .int .u8 f.lv.c, .int .u8 f.lv.d, .int .u8 f.lv.e, .int .u8 f.lv.f, .int .u8 f.lv.g, .int .u8 f.lv.h, tl] rfl
  have x5 := x4.set hF 22 (.int .u32 (dCmd s).1.r) #[.int .u8 f.kind, .int .u8 f.frm, .int .u8 f.dest, .int .u32 f.epoch, .int .u8 f.key, .int .u32 f.sn, .int .u8 f.sb, .int .u8 f.sl, .bool f.has, .string f.text, .bool f.rmw, .bool f.flag, .int .u8 f.dir, .int .u8 f.life, .int .u32 f.req, .int .u32 f.bn, .int .u8 f.bb, .int .u32 f.slot, .int .u8 (dCmd s).1.k, .int .u8 (dCmd s).1.n, .int .u8 (dCmd s).1.l, .int .u32 (dCmd s).1.e, .int .u32 (dCmd s).1.r, .int .u32 f.ve, sl, .int .u8 f.lv.a, .int .u8 f.lv.b, .int .u8 f.lv.c, .int .u8 f.lv.d, .int .u8 f.lv.e, .int .u8 f.lv.f, .int .u8 f.lv.g, .int .u8 f.lv.h, tl] rfl
  exact FldP.of (f := { f with cmd := (dCmd s).1 }) (sl := sl) (tl := tl) x5
set_option maxHeartbeats 2000000 in
theorem dfield_W {base D B F : Nat} {s : Sd} {f : Fr} {w : World} (h : DecAt w D B s) (hf : FrAt w F base f) (hb : base ≤ B) (hbD : base ≤ D) (hF : base ≤ F) :
    Calls Tryd.prog 33 #[.pointer (some ⟨D, 0, none⟩), .pointer (some ⟨F, 0, none⟩), .int .i32 87] w (FldP base D B F w ({ f with ve := (dView s).1.1, ms := (dView s).1.2.1, lv := (dView s).1.2.2 }, (dView s).2)) := by
  obtain ⟨sl, tl, hfb, hms, hes⟩ := hf
  have HD := Lib.hid h
  have HB := Lib.hid hfb
  have HM := Lib.hid hms
  have HE := Lib.hid hes
  have hbw : base ≤ w.heap.size := Nat.le_trans hb (Nat.le_of_lt h.ltB)
  have H1 := Lib.hid (dview_any (base := base) HD.out hb hbD)
  clear h hfb hms hes
  go_enter Tryd.func33, Tryd.ntmps33
  go_wp2_with fail
  with_reducible refine H1.out.mono ?_
  rintro e w2 ⟨v, rfl, q2, ho⟩
  obtain ⟨a, cap, rfl⟩ := ho.at.len
  have ho := ho.mono hbw
  have X0 : Hid (FQ base D B F w (dView s).2 (frC f sl tl) (.slice a (dView s).1.2.1.length cap) tl (dView s).1.2.1 f.es w2) := Lib.hid (let z := FQ.of HD.out HB.out HM.out HE.out q2; ⟨z.1, z.2.1, z.2.2.1, z.2.2.2.1, ho, z.2.2.2.2.2⟩)
  clear ho
  have c23 := X0.out.b.cell 23
  have f23 := X0.out.b.frozen 23
  have c24 := X0.out.b.cell 24
  have f24 := X0.out.b.frozen 24
  have c25 := X0.out.b.cell 25
  have f25 := X0.out.b.frozen 25
  have c26 := X0.out.b.cell 26
  have f26 := X0.out.b.frozen 26
  have c27 := X0.out.b.cell 27
  have f27 := X0.out.b.frozen 27
  have c28 := X0.out.b.cell 28
  have f28 := X0.out.b.frozen 28
  have c29 := X0.out.b.cell 29
  have f29 := X0.out.b.frozen 29
  have c30 := X0.out.b.cell 30
  have f30 := X0.out.b.frozen 30
  have c31 := X0.out.b.cell 31
  have f31 := X0.out.b.frozen 31
  have c32 := X0.out.b.cell 32
  have f32 := X0.out.b.frozen 32
  simp at c23 c24 c25 c26 c27 c28 c29 c30 c31 c32
  clear H1 q2 HD HB HM HE
  go_wp2_with fail
  go_end0
  have x1 := X0.out.set hF 23 (.int .u32 (dView s).1.1) #[.int .u8 f.kind, .int .u8 f.frm, .int .u8 f.dest, .int .u32 f.epoch, .int .u8 f.key, .int .u32 f.sn, .int .u8 f.sb, .int .u8 f.sl, .bool f.has, .string f.text, .bool f.rmw, .bool f.flag, .int .u8 f.dir, .int .u8 f.life, .int .u32 f.req, .int .u32 f.bn, .int .u8 f.bb, .int .u32 f.slot, .int .u8 f.cmd.k, .int .u8 f.cmd.n, .int .u8 f.cmd.l, .int .u32 f.cmd.e, .int .u32 f.cmd.r, .int .u32 (dView s).1.1, sl, .int .u8 f.lv.a, .int .u8 f.lv.b, .int .u8 f.lv.c, .int .u8 f.lv.d, .int .u8 f.lv.e, .int .u8 f.lv.f, .int .u8 f.lv.g, .int .u8 f.lv.h, tl] rfl
  have x2 := x1.set hF 24 (.slice a (dView s).1.2.1.length cap) #[.int .u8 f.kind, .int .u8 f.frm, .int .u8 f.dest, .int .u32 f.epoch, .int .u8 f.key, .int .u32 f.sn, .int .u8 f.sb, .int .u8 f.sl, .bool f.has, .string f.text, .bool f.rmw, .bool f.flag, .int .u8 f.dir, .int .u8 f.life, .int .u32 f.req, .int .u32 f.bn, .int .u8 f.bb, .int .u32 f.slot, .int .u8 f.cmd.k, .int .u8 f.cmd.n, .int .u8 f.cmd.l, .int .u32 f.cmd.e, .int .u32 f.cmd.r, .int .u32 (dView s).1.1, .slice a (dView s).1.2.1.length cap, .int .u8 f.lv.a, .int .u8 f.lv.b, .int .u8 f.lv.c, .int .u8 f.lv.d, .int .u8 f.lv.e, .int .u8 f.lv.f, .int .u8 f.lv.g, .int .u8 f.lv.h, tl] rfl
  have x3 := x2.set hF 25 (.int .u8 (dView s).1.2.2.a) #[.int .u8 f.kind, .int .u8 f.frm, .int .u8 f.dest, .int .u32 f.epoch, .int .u8 f.key, .int .u32 f.sn, .int .u8 f.sb, .int .u8 f.sl, .bool f.has, .string f.text, .bool f.rmw, .bool f.flag, .int .u8 f.dir, .int .u8 f.life, .int .u32 f.req, .int .u32 f.bn, .int .u8 f.bb, .int .u32 f.slot, .int .u8 f.cmd.k, .int .u8 f.cmd.n, .int .u8 f.cmd.l, .int .u32 f.cmd.e, .int .u32 f.cmd.r, .int .u32 (dView s).1.1, .slice a (dView s).1.2.1.length cap, .int .u8 (dView s).1.2.2.a, .int .u8 f.lv.b, .int .u8 f.lv.c, .int .u8 f.lv.d, .int .u8 f.lv.e, .int .u8 f.lv.f, .int .u8 f.lv.g, .int .u8 f.lv.h, tl] rfl
  have x4 := x3.set hF 26 (.int .u8 (dView s).1.2.2.b) #[.int .u8 f.kind, .int .u8 f.frm, .int .u8 f.dest, .int .u32 f.epoch, .int .u8 f.key, .int .u32 f.sn, .int .u8 f.sb, .int .u8 f.sl, .bool f.has, .string f.text, .bool f.rmw, .bool f.flag, .int .u8 f.dir, .int .u8 f.life, .int .u32 f.req, .int .u32 f.bn, .int .u8 f.bb, .int .u32 f.slot, .int .u8 f.cmd.k, .int .u8 f.cmd.n, .int .u8 f.cmd.l, .int .u32 f.cmd.e, .int .u32 f.cmd.r, .int .u32 (dView s).1.1, .slice a (dView s).1.2.1.length cap, .int .u8 (dView s).1.2.2.a, .int .u8 (dView s).1.2.2.b, .int .u8 f.lv.c, .int .u8 f.lv.d, .int .u8 f.lv.e, .int .u8 f.lv.f, .int .u8 f.lv.g, .int .u8 f.lv.h, tl] rfl
  have x5 := x4.set hF 27 (.int .u8 (dView s).1.2.2.c) #[.int .u8 f.kind, .int .u8 f.frm, .int .u8 f.dest, .int .u32 f.epoch, .int .u8 f.key, .int .u32 f.sn, .int .u8 f.sb, .int .u8 f.sl, .bool f.has, .string f.text, .bool f.rmw, .bool f.flag, .int .u8 f.dir, .int .u8 f.life, .int .u32 f.req, .int .u32 f.bn, .int .u8 f.bb, .int .u32 f.slot, .int .u8 f.cmd.k, .int .u8 f.cmd.n, .int .u8 f.cmd.l, .int .u32 f.cmd.e, .int .u32 f.cmd.r, .int .u32 (dView s).1.1, .slice a (dView s).1.2.1.length cap, .int .u8 (dView s).1.2.2.a, .int .u8 (dView s).1.2.2.b, .int .u8 (dView s).1.2.2.c, .int .u8 f.lv.d, .int .u8 f.lv.e, .int .u8 f.lv.f, .int .u8 f.lv.g, .int .u8 f.lv.h, tl] rfl
  have x6 := x5.set hF 28 (.int .u8 (dView s).1.2.2.d) #[.int .u8 f.kind, .int .u8 f.frm, .int .u8 f.dest, .int .u32 f.epoch, .int .u8 f.key, .int .u32 f.sn, .int .u8 f.sb, .int .u8 f.sl, .bool f.has, .string f.text, .bool f.rmw, .bool f.flag, .int .u8 f.dir, .int .u8 f.life, .int .u32 f.req, .int .u32 f.bn, .int .u8 f.bb, .int .u32 f.slot, .int .u8 f.cmd.k, .int .u8 f.cmd.n, .int .u8 f.cmd.l, .int .u32 f.cmd.e, .int .u32 f.cmd.r, .int .u32 (dView s).1.1, .slice a (dView s).1.2.1.length cap, .int .u8 (dView s).1.2.2.a, .int .u8 (dView s).1.2.2.b, .int .u8 (dView s).1.2.2.c, .int .u8 (dView s).1.2.2.d, .int .u8 f.lv.e, .int .u8 f.lv.f, .int .u8 f.lv.g, .int .u8 f.lv.h, tl] rfl
  have x7 := x6.set hF 29 (.int .u8 (dView s).1.2.2.e) #[.int .u8 f.kind, .int .u8 f.frm, .int .u8 f.dest, .int .u32 f.epoch, .int .u8 f.key, .int .u32 f.sn, .int .u8 f.sb, .int .u8 f.sl, .bool f.has, .string f.text, .bool f.rmw, .bool f.flag, .int .u8 f.dir, .int .u8 f.life, .int .u32 f.req, .int .u32 f.bn, .int .u8 f.bb, .int .u32 f.slot, .int .u8 f.cmd.k, .int .u8 f.cmd.n, .int .u8 f.cmd.l, .int .u32 f.cmd.e, .int .u32 f.cmd.r, .int .u32 (dView s).1.1, .slice a (dView s).1.2.1.length cap, .int .u8 (dView s).1.2.2.a, .int .u8 (dView s).1.2.2.b, .int .u8 (dView s).1.2.2.c, .int .u8 (dView s).1.2.2.d, .int .u8 (dView s).1.2.2.e, .int .u8 f.lv.f, .int .u8 f.lv.g, .int .u8 f.lv.h, tl] rfl
  have x8 := x7.set hF 30 (.int .u8 (dView s).1.2.2.f) #[.int .u8 f.kind, .int .u8 f.frm, .int .u8 f.dest, .int .u32 f.epoch, .int .u8 f.key, .int .u32 f.sn, .int .u8 f.sb, .int .u8 f.sl, .bool f.has, .string f.text, .bool f.rmw, .bool f.flag, .int .u8 f.dir, .int .u8 f.life, .int .u32 f.req, .int .u32 f.bn, .int .u8 f.bb, .int .u32 f.slot, .int .u8 f.cmd.k, .int .u8 f.cmd.n, .int .u8 f.cmd.l, .int .u32 f.cmd.e, .int .u32 f.cmd.r, .int .u32 (dView s).1.1, .slice a (dView s).1.2.1.length cap, .int .u8 (dView s).1.2.2.a, .int .u8 (dView s).1.2.2.b, .int .u8 (dView s).1.2.2.c, .int .u8 (dView s).1.2.2.d, .int .u8 (dView s).1.2.2.e, .int .u8 (dView s).1.2.2.f, .int .u8 f.lv.g, .int .u8 f.lv.h, tl] rfl
  have x9 := x8.set hF 31 (.int .u8 (dView s).1.2.2.g) #[.int .u8 f.kind, .int .u8 f.frm, .int .u8 f.dest, .int .u32 f.epoch, .int .u8 f.key, .int .u32 f.sn, .int .u8 f.sb, .int .u8 f.sl, .bool f.has, .string f.text, .bool f.rmw, .bool f.flag, .int .u8 f.dir, .int .u8 f.life, .int .u32 f.req, .int .u32 f.bn, .int .u8 f.bb, .int .u32 f.slot, .int .u8 f.cmd.k, .int .u8 f.cmd.n, .int .u8 f.cmd.l, .int .u32 f.cmd.e, .int .u32 f.cmd.r, .int .u32 (dView s).1.1, .slice a (dView s).1.2.1.length cap, .int .u8 (dView s).1.2.2.a, .int .u8 (dView s).1.2.2.b, .int .u8 (dView s).1.2.2.c, .int .u8 (dView s).1.2.2.d, .int .u8 (dView s).1.2.2.e, .int .u8 (dView s).1.2.2.f, .int .u8 (dView s).1.2.2.g, .int .u8 f.lv.h, tl] rfl
  have x10 := x9.set hF 32 (.int .u8 (dView s).1.2.2.h) #[.int .u8 f.kind, .int .u8 f.frm, .int .u8 f.dest, .int .u32 f.epoch, .int .u8 f.key, .int .u32 f.sn, .int .u8 f.sb, .int .u8 f.sl, .bool f.has, .string f.text, .bool f.rmw, .bool f.flag, .int .u8 f.dir, .int .u8 f.life, .int .u32 f.req, .int .u32 f.bn, .int .u8 f.bb, .int .u32 f.slot, .int .u8 f.cmd.k, .int .u8 f.cmd.n, .int .u8 f.cmd.l, .int .u32 f.cmd.e, .int .u32 f.cmd.r, .int .u32 (dView s).1.1, .slice a (dView s).1.2.1.length cap, .int .u8 (dView s).1.2.2.a, .int .u8 (dView s).1.2.2.b, .int .u8 (dView s).1.2.2.c, .int .u8 (dView s).1.2.2.d, .int .u8 (dView s).1.2.2.e, .int .u8 (dView s).1.2.2.f, .int .u8 (dView s).1.2.2.g, .int .u8 (dView s).1.2.2.h, tl] rfl
  exact FldP.of (f := { f with ve := (dView s).1.1, ms := (dView s).1.2.1, lv := (dView s).1.2.2 }) (sl := (.slice a (dView s).1.2.1.length cap)) (tl := tl) x10
set_option maxHeartbeats 2000000 in
theorem dfield_N {base D B F : Nat} {s : Sd} {f : Fr} {w : World} (h : DecAt w D B s) (hf : FrAt w F base f) (hb : base ≤ B) (hbD : base ≤ D) (hF : base ≤ F) :
    Calls Tryd.prog 33 #[.pointer (some ⟨D, 0, none⟩), .pointer (some ⟨F, 0, none⟩), .int .i32 78] w (FldP base D B F w ({ f with es := (dEntries s).1 }, (dEntries s).2)) := by
  obtain ⟨sl, tl, hfb, hms, hes⟩ := hf
  have HD := Lib.hid h
  have HB := Lib.hid hfb
  have HM := Lib.hid hms
  have HE := Lib.hid hes
  have hbw : base ≤ w.heap.size := Nat.le_trans hb (Nat.le_of_lt h.ltB)
  have H1 := Lib.hid (dentries_any (base := base) HD.out hb hbD)
  clear h hfb hms hes
  go_enter Tryd.func33, Tryd.ntmps33
  go_wp2_with fail
  with_reducible refine H1.out.mono ?_
  rintro e w2 ⟨v, rfl, q2, ho⟩
  obtain ⟨a, cap, rfl⟩ := ho.at.len
  have ho := ho.mono hbw
  have X0 : Hid (FQ base D B F w (dEntries s).2 (frC f sl tl) sl (.slice a (dEntries s).1.length cap) f.ms (dEntries s).1 w2) := Lib.hid (let z := FQ.of HD.out HB.out HM.out HE.out q2; ⟨z.1, z.2.1, z.2.2.1, z.2.2.2.1, z.2.2.2.2.1, ho⟩)
  clear ho
  have c33 := X0.out.b.cell 33
  have f33 := X0.out.b.frozen 33
  simp at c33
  clear H1 q2 HD HB HM HE
  go_wp2_with fail
  go_end0
  have x1 := X0.out.set hF 33 (.slice a (dEntries s).1.length cap) #[.int .u8 f.kind, .int .u8 f.frm, .int .u8 f.dest, .int .u32 f.epoch, .int .u8 f.key, .int .u32 f.sn, .int .u8 f.sb, .int .u8 f.sl, .bool f.has, .string f.text, .bool f.rmw, .bool f.flag, .int .u8 f.dir, .int .u8 f.life, .int .u32 f.req, .int .u32 f.bn, .int .u8 f.bb, .int .u32 f.slot, .int .u8 f.cmd.k, .int .u8 f.cmd.n, .int .u8 f.cmd.l, .int .u32 f.cmd.e, .int .u32 f.cmd.r, .int .u32 f.ve, sl, .int .u8 f.lv.a, .int .u8 f.lv.b, .int .u8 f.lv.c, .int .u8 f.lv.d, .int .u8 f.lv.e, .int .u8 f.lv.f, .int .u8 f.lv.g, .int .u8 f.lv.h, .slice a (dEntries s).1.length cap] rfl
  exact FldP.of (f := { f with es := (dEntries s).1 }) (sl := sl) (tl := (.slice a (dEntries s).1.length cap)) x1
end Go.Proofs.YtodajejjhfpdmaaDoor
