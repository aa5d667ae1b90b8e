/-
  FrameSames: the walk, cases 5 to 8.
-/
import Derived.Test.YtodajejjhfpdmaaDoorFrsE
namespace Go.Proofs.YtodajejjhfpdmaaDoor
open Go.RowKit Go.Instr

set_option maxHeartbeats 2000000 in
set_option maxRecDepth 20000 in
theorem view_blk {w : World} {B : Nat} {f : Fr} {s t : Value} {T : TypeId} (ve : Nat) (s' : Value) (lv : Lv) (l : List Mem) (h : Blk w B (frC f s t) T) : Blk (w.setCells B 23 (vwC ve s' lv).toList) B (frC { f with ve := ve, lv := lv, ms := l } s' t) T := by
  have h0 := h.set 23 (.int .u32 ve) #[.int .u8 f.kind, .int .u8 f.frm, .int .u8 f.dest, .int .u32 f.epoch, .int .u8 f.key, .int .u32 f.sn, .int .u8 f.sb, .int .u8 f.sl, .bool f.has, .string f.text, .bool f.rmw, .bool f.flag, .int .u8 f.dir, .int .u8 f.life, .int .u32 f.req, .int .u32 f.bn, .int .u8 f.bb, .int .u32 f.slot, .int .u8 f.cmd.k, .int .u8 f.cmd.n, .int .u8 f.cmd.l, .int .u32 f.cmd.e, .int .u32 f.cmd.r, .int .u32 ve, s, .int .u8 f.lv.a, .int .u8 f.lv.b, .int .u8 f.lv.c, .int .u8 f.lv.d, .int .u8 f.lv.e, .int .u8 f.lv.f, .int .u8 f.lv.g, .int .u8 f.lv.h, t] rfl
  have h1 := h0.set 24 (s') #[.int .u8 f.kind, .int .u8 f.frm, .int .u8 f.dest, .int .u32 f.epoch, .int .u8 f.key, .int .u32 f.sn, .int .u8 f.sb, .int .u8 f.sl, .bool f.has, .string f.text, .bool f.rmw, .bool f.flag, .int .u8 f.dir, .int .u8 f.life, .int .u32 f.req, .int .u32 f.bn, .int .u8 f.bb, .int .u32 f.slot, .int .u8 f.cmd.k, .int .u8 f.cmd.n, .int .u8 f.cmd.l, .int .u32 f.cmd.e, .int .u32 f.cmd.r, .int .u32 ve, s', .int .u8 f.lv.a, .int .u8 f.lv.b, .int .u8 f.lv.c, .int .u8 f.lv.d, .int .u8 f.lv.e, .int .u8 f.lv.f, .int .u8 f.lv.g, .int .u8 f.lv.h, t] rfl
  have h2 := h1.set 25 (.int .u8 lv.a) #[.int .u8 f.kind, .int .u8 f.frm, .int .u8 f.dest, .int .u32 f.epoch, .int .u8 f.key, .int .u32 f.sn, .int .u8 f.sb, .int .u8 f.sl, .bool f.has, .string f.text, .bool f.rmw, .bool f.flag, .int .u8 f.dir, .int .u8 f.life, .int .u32 f.req, .int .u32 f.bn, .int .u8 f.bb, .int .u32 f.slot, .int .u8 f.cmd.k, .int .u8 f.cmd.n, .int .u8 f.cmd.l, .int .u32 f.cmd.e, .int .u32 f.cmd.r, .int .u32 ve, s', .int .u8 lv.a, .int .u8 f.lv.b, .int .u8 f.lv.c, .int .u8 f.lv.d, .int .u8 f.lv.e, .int .u8 f.lv.f, .int .u8 f.lv.g, .int .u8 f.lv.h, t] rfl
  have h3 := h2.set 26 (.int .u8 lv.b) #[.int .u8 f.kind, .int .u8 f.frm, .int .u8 f.dest, .int .u32 f.epoch, .int .u8 f.key, .int .u32 f.sn, .int .u8 f.sb, .int .u8 f.sl, .bool f.has, .string f.text, .bool f.rmw, .bool f.flag, .int .u8 f.dir, .int .u8 f.life, .int .u32 f.req, .int .u32 f.bn, .int .u8 f.bb, .int .u32 f.slot, .int .u8 f.cmd.k, .int .u8 f.cmd.n, .int .u8 f.cmd.l, .int .u32 f.cmd.e, .int .u32 f.cmd.r, .int .u32 ve, s', .int .u8 lv.a, .int .u8 lv.b, .int .u8 f.lv.c, .int .u8 f.lv.d, .int .u8 f.lv.e, .int .u8 f.lv.f, .int .u8 f.lv.g, .int .u8 f.lv.h, t] rfl
  have h4 := h3.set 27 (.int .u8 lv.c) #[.int .u8 f.kind, .int .u8 f.frm, .int .u8 f.dest, .int .u32 f.epoch, .int .u8 f.key, .int .u32 f.sn, .int .u8 f.sb, .int .u8 f.sl, .bool f.has, .string f.text, .bool f.rmw, .bool f.flag, .int .u8 f.dir, .int .u8 f.life, .int .u32 f.req, .int .u32 f.bn, .int .u8 f.bb, .int .u32 f.slot, .int .u8 f.cmd.k, .int .u8 f.cmd.n, .int .u8 f.cmd.l, .int .u32 f.cmd.e, .int .u32 f.cmd.r, .int .u32 ve, s', .int .u8 lv.a, .int .u8 lv.b, .int .u8 lv.c, .int .u8 f.lv.d, .int .u8 f.lv.e, .int .u8 f.lv.f, .int .u8 f.lv.g, .int .u8 f.lv.h, t] rfl
  have h5 := h4.set 28 (.int .u8 lv.d) #[.int .u8 f.kind, .int .u8 f.frm, .int .u8 f.dest, .int .u32 f.epoch, .int .u8 f.key, .int .u32 f.sn, .int .u8 f.sb, .int .u8 f.sl, .bool f.has, .string f.text, .bool f.rmw, .bool f.flag, .int .u8 f.dir, .int .u8 f.life, .int .u32 f.req, .int .u32 f.bn, .int .u8 f.bb, .int .u32 f.slot, .int .u8 f.cmd.k, .int .u8 f.cmd.n, .int .u8 f.cmd.l, .int .u32 f.cmd.e, .int .u32 f.cmd.r, .int .u32 ve, s', .int .u8 lv.a, .int .u8 lv.b, .int .u8 lv.c, .int .u8 lv.d, .int .u8 f.lv.e, .int .u8 f.lv.f, .int .u8 f.lv.g, .int .u8 f.lv.h, t] rfl
  have h6 := h5.set 29 (.int .u8 lv.e) #[.int .u8 f.kind, .int .u8 f.frm, .int .u8 f.dest, .int .u32 f.epoch, .int .u8 f.key, .int .u32 f.sn, .int .u8 f.sb, .int .u8 f.sl, .bool f.has, .string f.text, .bool f.rmw, .bool f.flag, .int .u8 f.dir, .int .u8 f.life, .int .u32 f.req, .int .u32 f.bn, .int .u8 f.bb, .int .u32 f.slot, .int .u8 f.cmd.k, .int .u8 f.cmd.n, .int .u8 f.cmd.l, .int .u32 f.cmd.e, .int .u32 f.cmd.r, .int .u32 ve, s', .int .u8 lv.a, .int .u8 lv.b, .int .u8 lv.c, .int .u8 lv.d, .int .u8 lv.e, .int .u8 f.lv.f, .int .u8 f.lv.g, .int .u8 f.lv.h, t] rfl
  have h7 := h6.set 30 (.int .u8 lv.f) #[.int .u8 f.kind, .int .u8 f.frm, .int .u8 f.dest, .int .u32 f.epoch, .int .u8 f.key, .int .u32 f.sn, .int .u8 f.sb, .int .u8 f.sl, .bool f.has, .string f.text, .bool f.rmw, .bool f.flag, .int .u8 f.dir, .int .u8 f.life, .int .u32 f.req, .int .u32 f.bn, .int .u8 f.bb, .int .u32 f.slot, .int .u8 f.cmd.k, .int .u8 f.cmd.n, .int .u8 f.cmd.l, .int .u32 f.cmd.e, .int .u32 f.cmd.r, .int .u32 ve, s', .int .u8 lv.a, .int .u8 lv.b, .int .u8 lv.c, .int .u8 lv.d, .int .u8 lv.e, .int .u8 lv.f, .int .u8 f.lv.g, .int .u8 f.lv.h, t] rfl
  have h8 := h7.set 31 (.int .u8 lv.g) #[.int .u8 f.kind, .int .u8 f.frm, .int .u8 f.dest, .int .u32 f.epoch, .int .u8 f.key, .int .u32 f.sn, .int .u8 f.sb, .int .u8 f.sl, .bool f.has, .string f.text, .bool f.rmw, .bool f.flag, .int .u8 f.dir, .int .u8 f.life, .int .u32 f.req, .int .u32 f.bn, .int .u8 f.bb, .int .u32 f.slot, .int .u8 f.cmd.k, .int .u8 f.cmd.n, .int .u8 f.cmd.l, .int .u32 f.cmd.e, .int .u32 f.cmd.r, .int .u32 ve, s', .int .u8 lv.a, .int .u8 lv.b, .int .u8 lv.c, .int .u8 lv.d, .int .u8 lv.e, .int .u8 lv.f, .int .u8 lv.g, .int .u8 f.lv.h, t] rfl
  have h9 := h8.set 32 (.int .u8 lv.h) #[.int .u8 f.kind, .int .u8 f.frm, .int .u8 f.dest, .int .u32 f.epoch, .int .u8 f.key, .int .u32 f.sn, .int .u8 f.sb, .int .u8 f.sl, .bool f.has, .string f.text, .bool f.rmw, .bool f.flag, .int .u8 f.dir, .int .u8 f.life, .int .u32 f.req, .int .u32 f.bn, .int .u8 f.bb, .int .u32 f.slot, .int .u8 f.cmd.k, .int .u8 f.cmd.n, .int .u8 f.cmd.l, .int .u32 f.cmd.e, .int .u32 f.cmd.r, .int .u32 ve, s', .int .u8 lv.a, .int .u8 lv.b, .int .u8 lv.c, .int .u8 lv.d, .int .u8 lv.e, .int .u8 lv.f, .int .u8 lv.g, .int .u8 lv.h, t] rfl
  exact h9
set_option maxHeartbeats 8000000 in
set_option maxRecDepth 20000 in
theorem sames_5 (x y : Fr) (a1 a2 b1 b2 : Option Addr) (n1 n2 k1 k2 i1 i2 j1 j2 : Nat) (q : Nat) (w : World) (henv : FEnv w) (hq : q < 256) (hqm : q % 9 = 5)
    (hn1 : n1 = x.ms.length) (hn2 : n2 = x.es.length) (hm : 0 < n1 → memR.At w (.slice a1 n1 k1) x.ms) (he : 0 < n2 → entR.At w (.slice a2 n2 k2) x.es) (l1 : n1 ≤ maxLen) (l2 : n2 ≤ maxLen)
    (hi1 : i1 = y.ms.length) (hi2 : i2 = y.es.length) (gm : 0 < i1 → memR.At w (.slice b1 i1 j1) y.ms) (ge : 0 < i2 → entR.At w (.slice b2 i2 j2) y.es) (l3 : i1 ≤ maxLen) (l4 : i2 ≤ maxLen) :
    Calls Tryd.prog 5 #[.agg (frC x (.slice a1 n1 k1) (.slice a2 n2 k2)), .agg (frC y (.slice b1 i1 j1) (.slice b2 i2 j2)), .int .u8 q] w (retB true w) := by
  have HN := Lib.hid (And.intro hn1 (And.intro hn2 (And.intro hi1 hi2)))
  have HM := Lib.hid (And.intro hm (And.intro he (And.intro gm ge)))
  obtain ⟨w0, hw0⟩ : ∃ w0, w0 = (w.alloc (.cells (frC x (.slice a1 n1 k1) (.slice a2 n2 k2)) 29)).alloc (.cells (frC y (.slice b1 i1 j1) (.slice b2 i2 j2)) 29) := ⟨_, rfl⟩
  have hB0 : Below w.heap.size w w0 := by rw [hw0]; go_grown
  have hX0 : Blk (w.alloc (.cells (frC x (.slice a1 n1 k1) (.slice a2 n2 k2)) 29)) w.heap.size (frC x (.slice a1 n1 k1) (.slice a2 n2 k2)) 29 := Blk.new rfl
  have HX0 := Lib.hid (show Blk w0 w.heap.size (frC x (.slice a1 n1 k1) (.slice a2 n2 k2)) 29 by rw [hw0]; exact hX0.alloc _)
  have HY0 := Lib.hid (show Blk w0 (w.heap.size + 1) (frC y (.slice b1 i1 j1) (.slice b2 i2 j2)) 29 by rw [hw0]; exact Blk.new (by simp))
  have HB0 := Lib.hid hB0
  have H1 := Lib.hid (speaks_any w0 (henv.on hB0 henv.pos))
  clear henv hm he gm ge hn1 hn2 hi1 hi2 hB0 hX0
  go_enter Tryd.func5, Tryd.ntmps5
  go_upto_region 1 with fail
  rw [← hw0]
  clear hw0
  go_wp2_with fail
  with_reducible refine H1.out.mono ?_
  rintro e w2 ⟨rfl, hB2⟩
  have HX2 := Lib.hid (HX0.out.on hB2)
  have HY2 := Lib.hid (HY0.out.on hB2)
  have HB2 := Lib.hid (m_below_on HB0.out hB2)
  have R2 := Lib.hid (blk_raw HX2.out)
  have H2 := Lib.hid (told_any x a1 a2 n1 n2 k1 k2 w2 HN.out.1 HN.out.2.1 (fun h => (HM.out.1 h).on HB2.out) (fun h => (HM.out.2.1 h).on HB2.out) l1 l2)
  clear H1 hB2 HX0 HY0 HB0
  go_wp2_with (first | (refine wpList_load_row rfl 29 (.tmp 3) rfl w.heap.size rfl 29 (frC x (.slice a1 n1 k1) (.slice a2 n2 k2)) (0, 0) _ R2.out Tryd.underlying29 rfl (by kernel_rfl) ?_))
  with_reducible refine H2.out.mono ?_
  rintro e w4 ⟨s1, t1, s2, t2, rfl, hB4, m1, e1, m2, e2⟩
  obtain ⟨f, hf⟩ : ∃ f, f = toldF x := ⟨_, rfl⟩
  rw [← hf] at m1 e1 m2 e2 ⊢
  have hfl : f.ms.length ≤ 10 ∧ f.es.length ≤ 18 := by rw [hf]; exact ⟨by simp [toldF]; omega, by simp [toldF]; omega⟩
  obtain ⟨g1, d1, rfl⟩ := m1.len
  obtain ⟨g2, d2, rfl⟩ := e1.len
  obtain ⟨g3, d3, rfl⟩ := m2.len
  obtain ⟨g4, d4, rfl⟩ := e2.len
  have HP := Lib.hid (told_put (s2 := .slice g3 f.ms.length d3) (t2 := .slice g4 f.es.length d4) m1 e1)
  have HB4 := Lib.hid (m_below_on HB2.out hB4)
  have HY4 := Lib.hid (HY2.out.on hB4)
  have NF0 : Blk (w4.alloc (.cells z34 47)) w4.heap.size z34 47 := Blk.new rfl
  have NF := Lib.hid (NF0.alloc (.cells z34 52))
  have NR := Lib.hid (show Blk ((w4.alloc (.cells z34 47)).alloc (.cells z34 52)) (w4.heap.size + 1) z34 52 from Blk.new (by simp))
  have O1 := Lib.hid (frC_one f g1 g2 f.ms.length f.es.length d1 d2)
  have O2 := Lib.hid (frC_one f g3 g4 f.ms.length f.es.length d3 d4)
  have hne : w4.heap.size + 1 ≠ w4.heap.size := by omega
  have NR2 := Lib.hid ((setRow_other ((w4.alloc (.cells z34 47)).alloc (.cells z34 52)) w4.heap.size (w4.heap.size + 1) (frC f (.slice g1 f.ms.length d1) (.slice g2 f.es.length d2)) hne).trans (blk_raw NR.out))
  clear H2 hB4 m1 e1 m2 e2 hf NF0 R2 HX2 HY2 HB2
  go_upto_region 4 with (first | (refine wpList_store_row rfl 47 (.tmp 7) (.tmp 18) rfl w4.heap.size (frC f (.slice g1 f.ms.length d1) (.slice g2 f.es.length d2)) rfl rfl 47 z34 (blk_raw NF.out) (by kernel_rfl) rfl O1.out ?_) | (refine wpList_store_row rfl 52 (.tmp 8) (.tmp 19) rfl (w4.heap.size + 1) (frC f (.slice g3 f.ms.length d3) (.slice g4 f.es.length d4)) rfl rfl 52 z34 NR2.out (by kernel_rfl) rfl O2.out ?_))
  obtain ⟨w5, hw5⟩ : ∃ w5, w5 = (((w4.alloc (.cells z34 47)).alloc (.cells z34 52)).setRow w4.heap.size (frC f (.slice g1 f.ms.length d1) (.slice g2 f.es.length d2))).setRow (w4.heap.size + 1) (frC f (.slice g3 f.ms.length d3) (.slice g4 f.es.length d4)) := ⟨_, rfl⟩
  rw [← hw5] at HP ⊢
  obtain ⟨F, hF⟩ : ∃ F, F = w4.heap.size := ⟨_, rfl⟩
  rw [← hF] at HP ⊢
  have HF5 := Lib.hid HP.out.1
  have HB5 := Lib.hid (HB4.out.trans ((show Below w4.heap.size w4 w5 by rw [← hF]; exact HP.out.2).mono HB4.out.size))
  have HY5 := Lib.hid (HY4.out.on (show Below w4.heap.size w4 w5 by rw [← hF]; exact HP.out.2))
  have HFw : w.heap.size + 1 < F := by rw [hF]; exact HY4.out.lt
  have R5 := Lib.hid (blk_raw HY5.out)
  have H3 := Lib.hid (told_any y b1 b2 i1 i2 j1 j2 w5 HN.out.2.2.1 HN.out.2.2.2 (fun h => (HM.out.2.2.1 h).on HB5.out) (fun h => (HM.out.2.2.2 h).on HB5.out) l3 l4)
  clear hw5 hF NF NR NR2 O1 O2 HP HB4 HY4 hne
  generalize F + 1 = F1
  go_wp2_with (first | (refine wpList_load_row rfl 29 (.tmp 4) rfl (w.heap.size + 1) rfl 29 (frC y (.slice b1 i1 j1) (.slice b2 i2 j2)) (0, 0) _ R5.out Tryd.underlying29 rfl (by kernel_rfl) ?_))
  with_reducible refine H3.out.mono ?_
  rintro e w6 ⟨s5, t5, s6, t6, rfl, hB6, m1, e1, m2, e2⟩
  obtain ⟨g, hg⟩ : ∃ g, g = toldF y := ⟨_, rfl⟩
  rw [← hg] at m1 e1 m2 e2 ⊢
  have hgl : g.ms.length ≤ 10 ∧ g.es.length ≤ 18 := by rw [hg]; exact ⟨by simp [toldF]; omega, by simp [toldF]; omega⟩
  obtain ⟨g5, d5, rfl⟩ := m1.len
  obtain ⟨g6, d6, rfl⟩ := e1.len
  obtain ⟨g7, d7, rfl⟩ := m2.len
  obtain ⟨g8, d8, rfl⟩ := e2.len
  have HP := Lib.hid (told_put (s2 := .slice g7 g.ms.length d7) (t2 := .slice g8 g.es.length d8) m1 e1)
  have HB6 := Lib.hid (m_below_on HB5.out hB6)
  have HF6 := Lib.hid (HF5.out.on hB6)
  have NF0 : Blk (w6.alloc (.cells z34 47)) w6.heap.size z34 47 := Blk.new rfl
  have NF := Lib.hid (NF0.alloc (.cells z34 52))
  have NR := Lib.hid (show Blk ((w6.alloc (.cells z34 47)).alloc (.cells z34 52)) (w6.heap.size + 1) z34 52 from Blk.new (by simp))
  have O1 := Lib.hid (frC_one g g5 g6 g.ms.length g.es.length d5 d6)
  have O2 := Lib.hid (frC_one g g7 g8 g.ms.length g.es.length d7 d8)
  have hne : w6.heap.size + 1 ≠ w6.heap.size := by omega
  have NR2 := Lib.hid ((setRow_other ((w6.alloc (.cells z34 47)).alloc (.cells z34 52)) w6.heap.size (w6.heap.size + 1) (frC g (.slice g5 g.ms.length d5) (.slice g6 g.es.length d6)) hne).trans (blk_raw NR.out))
  clear H3 hB6 m1 e1 m2 e2 hg NF0 R5 HF5 HY5 HB5
  go_upto_region 5 with (first | (refine wpList_store_row rfl 47 (.tmp 9) (.tmp 23) rfl w6.heap.size (frC g (.slice g5 g.ms.length d5) (.slice g6 g.es.length d6)) rfl rfl 47 z34 (blk_raw NF.out) (by kernel_rfl) rfl O1.out ?_) | (refine wpList_store_row rfl 52 (.tmp 10) (.tmp 24) rfl (w6.heap.size + 1) (frC g (.slice g7 g.ms.length d7) (.slice g8 g.es.length d8)) rfl rfl 52 z34 NR2.out (by kernel_rfl) rfl O2.out ?_))
  obtain ⟨w7, hw7⟩ : ∃ w7, w7 = (((w6.alloc (.cells z34 47)).alloc (.cells z34 52)).setRow w6.heap.size (frC g (.slice g5 g.ms.length d5) (.slice g6 g.es.length d6))).setRow (w6.heap.size + 1) (frC g (.slice g7 g.ms.length d7) (.slice g8 g.es.length d8)) := ⟨_, rfl⟩
  rw [← hw7] at HP ⊢
  obtain ⟨G, hG⟩ : ∃ G, G = w6.heap.size := ⟨_, rfl⟩
  rw [← hG] at HP ⊢
  have HG7 := Lib.hid HP.out.1
  have HB7 := Lib.hid (HB6.out.trans ((show Below w6.heap.size w6 w7 by rw [← hG]; exact HP.out.2).mono HB6.out.size))
  have HF7 := Lib.hid (HF6.out.on (show Below w6.heap.size w6 w7 by rw [← hG]; exact HP.out.2))
  have HFG : F < G := by rw [hG]; exact HF6.out.b.lt
  clear hw7 hG NF NR NR2 O1 O2 HP HB6 HF6 hne
  generalize G + 1 = G1
  have R7 := Lib.hid (blk_raw HF7.out.b)
  have NZ := Lib.hid (Blk.new (w := w7) (B := w7.heap.size) (T := 47) (cs := z34) rfl)
  have OZ := Lib.hid (frC_one f g1 g2 f.ms.length f.es.length d1 d2)
  go_upto_region 7 with (first | (refine wpList_load_row rfl 47 (.tmp 7) rfl F rfl 47 (frC f (.slice g1 f.ms.length d1) (.slice g2 f.es.length d2)) (0, 0) _ R7.out Tryd.underlying47 rfl (by kernel_rfl) ?_) | (refine wpList_store_row rfl 47 (.tmp 11) (.tmp 25) rfl w7.heap.size (frC f (.slice g1 f.ms.length d1) (.slice g2 f.es.length d2)) rfl rfl 47 z34 (blk_raw NZ.out) (by kernel_rfl) rfl OZ.out ?_))
  obtain ⟨w8, hw8⟩ : ∃ w8, w8 = (w7.alloc (.cells z34 47)).setRow w7.heap.size (frC f (.slice g1 f.ms.length d1) (.slice g2 f.es.length d2)) := ⟨_, rfl⟩
  have hB8 : Below w7.heap.size w7 w8 := by rw [hw8]; exact below_sr (by go_grown) (Nat.le_refl _) _
  have HZ8 := Lib.hid (show FrB w8 w7.heap.size f (.slice g1 f.ms.length d1) (.slice g2 f.es.length d2) from ⟨by rw [hw8]; exact setRow_blk _ NZ.out, HF7.out.m.on hB8, HF7.out.e.on hB8⟩)
  rw [← hw8]
  obtain ⟨Z, hZ⟩ : ∃ Z, Z = w7.heap.size := ⟨_, rfl⟩
  rw [← hZ] at HZ8 ⊢
  have HZ8x := HZ8
  have HF8 := Lib.hid (HF7.out.on hB8)
  have HG8 := Lib.hid (HG7.out.on hB8)
  have HB8 := Lib.hid (m_below_on HB7.out hB8)
  have HGZ : G < Z := by rw [hZ]; exact HG7.out.b.lt
  have HZE := Lib.hid hZ
  have HBZ := Lib.hid (show Below Z w7 w8 by rw [hZ]; exact hB8)
  have HW7 := Lib.hid (And.intro HF7.out.m (And.intro HF7.out.e (And.intro HG7.out.m HG7.out.e)))
  have HFB := Lib.hid HF7.out.b
  have HGB := Lib.hid HG7.out.b
  have HBW := Lib.hid HB7.out
  clear hw8 hZ hB8 R7 NZ OZ HF7 HG7 HB7 HZ8
  have HZ8 := Lib.hid HZ8x.out.b
  have htm : (q : Int) % 9 = 5 := by omega
  go_upto_block 0 with fail
  rw [htm]
  clear htm hqm
  go_cut [12] from 147 (fun u wx => SamesCut f w7 Z u wx)
  case first =>
    rename_i JJ KK hJJ hKK
    have HJ := Lib.hid hJJ
    clear hJJ
    have nFZ : F ≠ Z := by omega
    have nGZ : G ≠ Z := by omega
    have lF := HF8.out.b.lt
    have lG := HG8.out.b.lt
    have lZ := HZ8.out.lt
    rcases Decidable.em (f.bn = g.bn) with e0 | ne0
    case inr =>
      have cF0 : w8.cell? ⟨F, 15, none⟩ = some (.int .u32 f.bn) := HF8.out.b.cell 15
      have cG0 : w8.cell? ⟨G, 15, none⟩ = some (.int .u32 g.bn) := HG8.out.b.cell 15
      have cZ0 : w8.cell? ⟨Z, 15, none⟩ = some (.int .u32 f.bn) := HZ8.out.cell 15
      have fZ0 := HZ8.out.frozen 15
      have cF1 : w8.cell? ⟨F, 16, none⟩ = some (.int .u8 f.bb) := HF8.out.b.cell 16
      have cG1 : w8.cell? ⟨G, 16, none⟩ = some (.int .u8 g.bb) := HG8.out.b.cell 16
      have cZ1 : w8.cell? ⟨Z, 16, none⟩ = some (.int .u8 f.bb) := HZ8.out.cell 16
      have fZ1 := HZ8.out.frozen 16
      have hz : ¬ (f.bn : Int) = (g.bn : Int) := by omega
      go_upto_region 20 with fail
      go_region
      go_wp2_with fail
      refine Met.intro (HJ.out _ _ ?_)
      repeat apply Exists.intro
      refine ⟨?_, rfl⟩
      exact ⟨{ f with bn := g.bn, bb := g.bb }, (.slice g1 f.ms.length d1), (.slice g2 f.es.length d2), true, (by first | rfl | (simp [hz]; done) | (simp; done)), ⟨fun h => absurd (congrArg (fun z : Fr => z.bn) h).symm ne0, fun h => by cases h⟩, hfl.1, hfl.2, HW7.out.1, HW7.out.2.1, (((HZ8.out.on (show Below w8.heap.size w8 w8.drew by go_grown)).set 15 (.int .u32 g.bn) _ rfl).set 16 (.int .u8 g.bb) (frC { f with bn := g.bn, bb := g.bb } (.slice g1 f.ms.length d1) (.slice g2 f.es.length d2)) rfl), (((HBZ.out.trans (show Below Z w8 w8.drew by go_grown)).setCell (p := ⟨Z, 15, none⟩) (Nat.le_refl _) (.int .u32 g.bn)).setCell (p := ⟨Z, 16, none⟩) (Nat.le_refl _) (.int .u8 g.bb))⟩
    rcases Decidable.em (f.bb = g.bb) with e1 | ne1
    case inr =>
      have cF0 : w8.cell? ⟨F, 15, none⟩ = some (.int .u32 f.bn) := HF8.out.b.cell 15
      have cG0 : w8.cell? ⟨G, 15, none⟩ = some (.int .u32 f.bn) := (HG8.out.b.cell 15).trans (by simp [e0])
      have cZ0 : w8.cell? ⟨Z, 15, none⟩ = some (.int .u32 f.bn) := HZ8.out.cell 15
      have fZ0 := HZ8.out.frozen 15
      have cF1 : w8.cell? ⟨F, 16, none⟩ = some (.int .u8 f.bb) := HF8.out.b.cell 16
      have cG1 : w8.cell? ⟨G, 16, none⟩ = some (.int .u8 g.bb) := HG8.out.b.cell 16
      have cZ1 : w8.cell? ⟨Z, 16, none⟩ = some (.int .u8 f.bb) := HZ8.out.cell 16
      have fZ1 := HZ8.out.frozen 16
      have E0 := Lib.hid e0
      clear e0
      have hz : ¬ (f.bb : Int) = (g.bb : Int) := by omega
      go_upto_region 20 with fail
      go_region
      go_wp2_with fail
      refine Met.intro (HJ.out _ _ ?_)
      repeat apply Exists.intro
      refine ⟨?_, rfl⟩
      exact ⟨{ f with bb := g.bb }, (.slice g1 f.ms.length d1), (.slice g2 f.es.length d2), true, (by first | rfl | (simp [hz]; done) | (simp; done)), ⟨fun h => absurd (congrArg (fun z : Fr => z.bb) h).symm ne1, fun h => by cases h⟩, hfl.1, hfl.2, HW7.out.1, HW7.out.2.1, (((HZ8.out.on (show Below w8.heap.size w8 w8.drew by go_grown)).set 15 (.int .u32 f.bn) _ rfl).set 16 (.int .u8 g.bb) (frC { f with bb := g.bb } (.slice g1 f.ms.length d1) (.slice g2 f.es.length d2)) rfl), (((HBZ.out.trans (show Below Z w8 w8.drew by go_grown)).setCell (p := ⟨Z, 15, none⟩) (Nat.le_refl _) (.int .u32 f.bn)).setCell (p := ⟨Z, 16, none⟩) (Nat.le_refl _) (.int .u8 g.bb))⟩
    have cF0 : w8.cell? ⟨F, 15, none⟩ = some (.int .u32 f.bn) := HF8.out.b.cell 15
    have cG0 : w8.cell? ⟨G, 15, none⟩ = some (.int .u32 f.bn) := (HG8.out.b.cell 15).trans (by simp [e0])
    have cZ0 : w8.cell? ⟨Z, 15, none⟩ = some (.int .u32 f.bn) := HZ8.out.cell 15
    have fZ0 := HZ8.out.frozen 15
    have cF1 : w8.cell? ⟨F, 16, none⟩ = some (.int .u8 f.bb) := HF8.out.b.cell 16
    have cG1 : w8.cell? ⟨G, 16, none⟩ = some (.int .u8 f.bb) := (HG8.out.b.cell 16).trans (by simp [e1])
    have cZ1 : w8.cell? ⟨Z, 16, none⟩ = some (.int .u8 f.bb) := HZ8.out.cell 16
    have fZ1 := HZ8.out.frozen 16
    have E0 := Lib.hid e0
    clear e0
    have E1 := Lib.hid e1
    clear e1
    go_upto_region 20 with fail
    go_region
    go_wp2_with fail
    refine Met.intro (HJ.out _ _ ?_)
    repeat apply Exists.intro
    refine ⟨?_, rfl⟩
    exact ⟨f, (.slice g1 f.ms.length d1), (.slice g2 f.es.length d2), false, (by first | rfl | (simp [hz]; done) | (simp; done)), ⟨fun _ => rfl, fun _ => rfl⟩, hfl.1, hfl.2, HW7.out.1, HW7.out.2.1, (((HZ8.out.on (show Below w8.heap.size w8 w8.drew by go_grown)).set 15 (.int .u32 f.bn) _ rfl).set 16 (.int .u8 f.bb) (frC f (.slice g1 f.ms.length d1) (.slice g2 f.es.length d2)) rfl), (((HBZ.out.trans (show Below Z w8 w8.drew by go_grown)).setCell (p := ⟨Z, 15, none⟩) (Nat.le_refl _) (.int .u32 f.bn)).setCell (p := ⟨Z, 16, none⟩) (Nat.le_refl _) (.int .u8 f.bb))⟩
  case rest =>
    obtain ⟨z, sz, tz, d, rfl, hzf, hl1, hl2, hm, he, hb, hB⟩ := hcut
    have hB' : Below w7.heap.size w7 wc := by rw [← HZE.out]; exact hB
    have RF := Lib.hid (blk_raw (HFB.out.on hB'))
    have RG := Lib.hid (blk_raw (HGB.out.on hB'))
    have RZ := Lib.hid (blk_raw hb)
    have lF := (HFB.out.on hB').lt
    have lG := (HGB.out.on hB').lt
    have lZ := hb.lt
    have mF := HW7.out.1.on hB'
    have eF := HW7.out.2.1.on hB'
    have mG := HW7.out.2.2.1.on hB'
    have eG := HW7.out.2.2.2.on hB'
    have mZ := hm.on hB'
    have eZ := he.on hB'
    have hzl := And.intro hl1 hl2
    have H1 : Hid (∀ w', Below wc.heap.size wc w' → Calls Tryd.prog 13 #[.agg (frC f (.slice g1 f.ms.length d1) (.slice g2 f.es.length d2)), .agg (frC f (.slice g1 f.ms.length d1) (.slice g2 f.es.length d2))] w' (SameP (f = f) w')) := Lib.hid (fun w' h => Same_any f f _ _ _ _ w' (by omega) (by omega) (by omega) (by omega) (mF.on h) (mF.on h) (eF.on h) (eF.on h))
    have H2 : Hid (∀ w', Below wc.heap.size wc w' → Calls Tryd.prog 13 #[.agg (frC z sz tz), .agg (frC f (.slice g1 f.ms.length d1) (.slice g2 f.es.length d2))] w' (SameP (z = f) w')) := Lib.hid (fun w' h => Same_any z f _ _ _ _ w' (by omega) (by omega) (by omega) (by omega) (mZ.on h) (mF.on h) (eZ.on h) (eF.on h))
    have H3 : Hid (∀ w', Below wc.heap.size wc w' → Calls Tryd.prog 13 #[.agg (frC f (.slice g1 f.ms.length d1) (.slice g2 f.es.length d2)), .agg (frC g (.slice g5 g.ms.length d5) (.slice g6 g.es.length d6))] w' (SameP (f = g) w')) := Lib.hid (fun w' h => Same_any f g _ _ _ _ w' (by omega) (by omega) (by omega) (by omega) (mF.on h) (mG.on h) (eF.on h) (eG.on h))
    have H4 : Hid (∀ w', Below wc.heap.size wc w' → Calls Tryd.prog 13 #[.agg (frC g (.slice g5 g.ms.length d5) (.slice g6 g.es.length d6)), .agg (frC f (.slice g1 f.ms.length d1) (.slice g2 f.es.length d2))] w' (SameP (g = f) w')) := Lib.hid (fun w' h => Same_any g f _ _ _ _ w' (by omega) (by omega) (by omega) (by omega) (mG.on h) (mF.on h) (eG.on h) (eF.on h))
    have HBC := Lib.hid (HBW.out.trans (hB'.mono HBW.out.size))
    have HZF := Lib.hid hzf
    clear hm he hb hB hB' mF eF mG eG mZ eZ hzf HW7 HFB HGB HBZ HF8 HG8 HZ8 HZ8x hl1 hl2 hzl
    cases d
    case false =>
      go_upto_region 25 with fail
      have hS0 : Below wc.heap.size wc wc.drew := by go_grown
      refine WalkS.begin (fun w' => Below wc.heap.size wc w') [] (by kernel_rfl) hS0 ?_
      simp only [List.size_toArray, List.length_cons, List.length_nil, Nat.zero_add, Nat.reduceAdd, show Array.replicate 21 false = #[false, false, false, false, false, false, false, false, false, false, false, false, false, false, false, false, false, false, false, false, false] from rfl]
      refine WalkS.take 0 _ (v := .agg (frC f (.slice g1 f.ms.length d1) (.slice g2 f.es.length d2))) rfl (by kernel_rfl) (by kernel_rfl) (by kernel_rfl) (by kernel_rfl) (by kernel_rfl) (fun _ _ _ h => h) (Or.inl ⟨by rfl, fun w9 h9 => loadRow_run rfl 47 (.tmp 7) rfl F rfl 47 (frC f (.slice g1 f.ms.length d1) (.slice g2 f.es.length d2)) (0, 0) _ ((h9.block F lF).trans RF.out) Tryd.underlying47 rfl (by kernel_rfl)⟩) ?_
      simp only [Act.put, List.setIfInBounds_toArray, List.set_cons_zero, List.set_cons_succ]
      refine WalkS.take 1 _ (v := .agg (frC f (.slice g1 f.ms.length d1) (.slice g2 f.es.length d2))) rfl (by kernel_rfl) (by kernel_rfl) (by kernel_rfl) (by kernel_rfl) (by kernel_rfl) (fun _ _ _ h => h) (Or.inl ⟨by rfl, fun w9 h9 => loadRow_run rfl 47 (.tmp 7) rfl F rfl 47 (frC f (.slice g1 f.ms.length d1) (.slice g2 f.es.length d2)) (0, 0) _ ((h9.block F lF).trans RF.out) Tryd.underlying47 rfl (by kernel_rfl)⟩) ?_
      simp only [Act.put, List.setIfInBounds_toArray, List.set_cons_zero, List.set_cons_succ]
      refine WalkS.each [2] (by kernel_rfl) rfl ?_
      refine EachS.cons 2 _ rfl (fun K hK => ?s1) EachS.nil
      go_simp
      refine (H1.out _ hS0).mono ?_
      rintro e w11 ⟨r1, rfl, hr1, hBr1⟩
      obtain rfl : r1 = true := hr1.2 rfl
      clear hr1
      have hSr1 := m_below_on hS0 hBr1
      refine hK.out _ _ (fun _ => hSr1) ?_
      clear hK K hBr1
      simp only [Act.put, List.setIfInBounds_toArray, List.set_cons_zero, List.set_cons_succ]
      refine' WalkS.take0 3 _ (v := _) rfl (by kernel_rfl) (by kernel_rfl) (by kernel_rfl) (by kernel_rfl) (fun _ _ _ h => h) (Or.inl ⟨by rfl, ?hy2⟩) ?rest2
      case hy2 => (intro w9; go_simp <;> with_reducible rfl)
      simp only [Act.put, List.setIfInBounds_toArray, List.set_cons_zero, List.set_cons_succ]
      refine WalkS.take 4 _ (v := .agg (frC z sz tz)) rfl (by kernel_rfl) (by kernel_rfl) (by kernel_rfl) (by kernel_rfl) (by kernel_rfl) (fun _ _ _ h => h) (Or.inl ⟨by rfl, fun w9 h9 => loadRow_run rfl 47 (.tmp 11) rfl Z rfl 47 (frC z sz tz) (0, 0) _ ((h9.block Z lZ).trans RZ.out) Tryd.underlying47 rfl (by kernel_rfl)⟩) ?_
      simp only [Act.put, List.setIfInBounds_toArray, List.set_cons_zero, List.set_cons_succ]
      refine WalkS.take 5 _ (v := .agg (frC f (.slice g1 f.ms.length d1) (.slice g2 f.es.length d2))) rfl (by kernel_rfl) (by kernel_rfl) (by kernel_rfl) (by kernel_rfl) (by kernel_rfl) (fun _ _ _ h => h) (Or.inl ⟨by rfl, fun w9 h9 => loadRow_run rfl 47 (.tmp 7) rfl F rfl 47 (frC f (.slice g1 f.ms.length d1) (.slice g2 f.es.length d2)) (0, 0) _ ((h9.block F lF).trans RF.out) Tryd.underlying47 rfl (by kernel_rfl)⟩) ?_
      simp only [Act.put, List.setIfInBounds_toArray, List.set_cons_zero, List.set_cons_succ]
      refine' WalkS.take0 7 _ (v := _) rfl (by kernel_rfl) (by kernel_rfl) (by kernel_rfl) (by kernel_rfl) (fun _ _ _ h => h) (Or.inl ⟨by rfl, ?hy3⟩) ?rest3
      case hy3 => (intro w9; go_simp <;> with_reducible rfl)
      simp only [Act.put, List.setIfInBounds_toArray, List.set_cons_zero, List.set_cons_succ]
      refine' WalkS.take0 8 _ (v := _) rfl (by kernel_rfl) (by kernel_rfl) (by kernel_rfl) (by kernel_rfl) (fun _ _ _ h => h) (Or.inl ⟨by rfl, ?hy4⟩) ?rest4
      case hy4 => (intro w9; go_simp <;> with_reducible rfl)
      simp only [Act.put, List.setIfInBounds_toArray, List.set_cons_zero, List.set_cons_succ]
      refine WalkS.each [6] (by kernel_rfl) rfl ?_
      refine EachS.cons 6 _ rfl (fun K hK => ?s5) EachS.nil
      go_simp
      refine (H2.out _ hSr1).mono ?_
      rintro e w12 ⟨r2, rfl, hr2, hBr2⟩
      obtain rfl : r2 = true := by exact hr2.2 (HZF.out.2 rfl)
      clear hr2
      have hSr2 := m_below_on hSr1 hBr2
      refine hK.out _ _ (fun _ => hSr2) ?_
      clear hK K hBr2
      simp only [Act.put, List.setIfInBounds_toArray, List.set_cons_zero, List.set_cons_succ]
      refine' WalkS.take0 9 _ (v := _) rfl (by kernel_rfl) (by kernel_rfl) (by kernel_rfl) (by kernel_rfl) (fun _ _ _ h => h) (Or.inl ⟨by rfl, ?hy6⟩) ?rest6
      case hy6 => (intro w9; go_simp <;> with_reducible rfl)
      simp only [Act.put, List.setIfInBounds_toArray, List.set_cons_zero, List.set_cons_succ]
      refine' WalkS.take0 10 _ (v := _) rfl (by kernel_rfl) (by kernel_rfl) (by kernel_rfl) (by kernel_rfl) (fun _ _ _ h => h) (Or.inl ⟨by rfl, ?hy7⟩) ?rest7
      case hy7 => (intro w9; go_simp <;> with_reducible rfl)
      simp only [Act.put, List.setIfInBounds_toArray, List.set_cons_zero, List.set_cons_succ]
      refine' WalkS.take0 11 _ (v := _) rfl (by kernel_rfl) (by kernel_rfl) (by kernel_rfl) (by kernel_rfl) (fun _ _ _ h => h) (Or.inl ⟨by rfl, ?hy8⟩) ?rest8
      case hy8 => (intro w9; go_simp <;> with_reducible rfl)
      simp only [Act.put, List.setIfInBounds_toArray, List.set_cons_zero, List.set_cons_succ]
      refine WalkS.take 12 _ (v := .agg (frC f (.slice g1 f.ms.length d1) (.slice g2 f.es.length d2))) rfl (by kernel_rfl) (by kernel_rfl) (by kernel_rfl) (by kernel_rfl) (by kernel_rfl) (fun _ _ _ h => h) (Or.inl ⟨by rfl, fun w9 h9 => loadRow_run rfl 47 (.tmp 7) rfl F rfl 47 (frC f (.slice g1 f.ms.length d1) (.slice g2 f.es.length d2)) (0, 0) _ ((h9.block F lF).trans RF.out) Tryd.underlying47 rfl (by kernel_rfl)⟩) ?_
      simp only [Act.put, List.setIfInBounds_toArray, List.set_cons_zero, List.set_cons_succ]
      refine WalkS.take 13 _ (v := .agg (frC g (.slice g5 g.ms.length d5) (.slice g6 g.es.length d6))) rfl (by kernel_rfl) (by kernel_rfl) (by kernel_rfl) (by kernel_rfl) (by kernel_rfl) (fun _ _ _ h => h) (Or.inl ⟨by rfl, fun w9 h9 => loadRow_run rfl 47 (.tmp 9) rfl G rfl 47 (frC g (.slice g5 g.ms.length d5) (.slice g6 g.es.length d6)) (0, 0) _ ((h9.block G lG).trans RG.out) Tryd.underlying47 rfl (by kernel_rfl)⟩) ?_
      simp only [Act.put, List.setIfInBounds_toArray, List.set_cons_zero, List.set_cons_succ]
      refine WalkS.take 15 _ (v := .agg (frC g (.slice g5 g.ms.length d5) (.slice g6 g.es.length d6))) rfl (by kernel_rfl) (by kernel_rfl) (by kernel_rfl) (by kernel_rfl) (by kernel_rfl) (fun _ _ _ h => h) (Or.inl ⟨by rfl, fun w9 h9 => loadRow_run rfl 47 (.tmp 9) rfl G rfl 47 (frC g (.slice g5 g.ms.length d5) (.slice g6 g.es.length d6)) (0, 0) _ ((h9.block G lG).trans RG.out) Tryd.underlying47 rfl (by kernel_rfl)⟩) ?_
      simp only [Act.put, List.setIfInBounds_toArray, List.set_cons_zero, List.set_cons_succ]
      refine WalkS.take 16 _ (v := .agg (frC f (.slice g1 f.ms.length d1) (.slice g2 f.es.length d2))) rfl (by kernel_rfl) (by kernel_rfl) (by kernel_rfl) (by kernel_rfl) (by kernel_rfl) (fun _ _ _ h => h) (Or.inl ⟨by rfl, fun w9 h9 => loadRow_run rfl 47 (.tmp 7) rfl F rfl 47 (frC f (.slice g1 f.ms.length d1) (.slice g2 f.es.length d2)) (0, 0) _ ((h9.block F lF).trans RF.out) Tryd.underlying47 rfl (by kernel_rfl)⟩) ?_
      simp only [Act.put, List.setIfInBounds_toArray, List.set_cons_zero, List.set_cons_succ]
      refine WalkS.each [14] (by kernel_rfl) rfl ?_
      refine EachS.cons 14 _ rfl (fun K hK => ?s9) EachS.nil
      go_simp
      refine (H3.out _ hSr2).mono ?_
      rintro e w13 ⟨r3, rfl, hr3, hBr3⟩
      have hSr3 := m_below_on hSr2 hBr3
      refine hK.out _ _ (fun _ => hSr3) ?_
      clear hK K hBr3
      simp only [Act.put, List.setIfInBounds_toArray, List.set_cons_zero, List.set_cons_succ]
      refine WalkS.each [17] (by kernel_rfl) rfl ?_
      refine EachS.cons 17 _ rfl (fun K hK => ?s10) EachS.nil
      go_simp
      refine (H4.out _ hSr3).mono ?_
      rintro e w14 ⟨r4, rfl, hr4, hBr4⟩
      obtain rfl : r4 = r3 := by cases r3 <;> cases r4 <;> first | rfl | exact absurd (hr4.1 rfl).symm (fun h => by cases (hr3.2 h)) | exact absurd (hr3.1 rfl).symm (fun h => by cases (hr4.2 h))
      clear hr3 hr4
      have hSr4 := m_below_on hSr3 hBr4
      refine hK.out _ _ (fun _ => hSr4) ?_
      clear hK K hBr4
      simp only [Act.put, List.setIfInBounds_toArray, List.set_cons_zero, List.set_cons_succ]
      cases r4
      case false =>
        refine' WalkS.take0 18 _ (v := _) rfl (by kernel_rfl) (by kernel_rfl) (by kernel_rfl) (by kernel_rfl) (fun _ _ _ h => h) (Or.inl ⟨by rfl, ?hy11⟩) ?rest11
        case hy11 => (intro w9; go_simp <;> with_reducible rfl)
        simp only [Act.put, List.setIfInBounds_toArray, List.set_cons_zero, List.set_cons_succ]
        refine' WalkS.take0 19 _ (v := _) rfl (by kernel_rfl) (by kernel_rfl) (by kernel_rfl) (by kernel_rfl) (fun _ _ _ h => h) (Or.inl ⟨by rfl, ?hy12⟩) ?rest12
        case hy12 => (intro w9; go_simp <;> with_reducible rfl)
        simp only [Act.put, List.setIfInBounds_toArray, List.set_cons_zero, List.set_cons_succ]
        refine' WalkS.take0 20 _ (v := _) rfl (by kernel_rfl) (by kernel_rfl) (by kernel_rfl) (by kernel_rfl) (fun _ _ _ h => h) (Or.inl ⟨by rfl, ?hy13⟩) ?rest13
        case hy13 => (intro w9; go_simp <;> with_reducible rfl)
        simp only [Act.put, List.setIfInBounds_toArray, List.set_cons_zero, List.set_cons_succ]
        refine WalkS.done (by kernel_rfl) ?_
        go_wp2_with fail
        go_ret
        exact ⟨rfl, HBC.out.trans (hSr4.mono HBC.out.size)⟩
      case true =>
        refine' WalkS.take0 18 _ (v := _) rfl (by kernel_rfl) (by kernel_rfl) (by kernel_rfl) (by kernel_rfl) (fun _ _ _ h => h) (Or.inl ⟨by rfl, ?hy14⟩) ?rest14
        case hy14 => (intro w9; go_simp <;> with_reducible rfl)
        simp only [Act.put, List.setIfInBounds_toArray, List.set_cons_zero, List.set_cons_succ]
        refine' WalkS.take0 19 _ (v := _) rfl (by kernel_rfl) (by kernel_rfl) (by kernel_rfl) (by kernel_rfl) (fun _ _ _ h => h) (Or.inl ⟨by rfl, ?hy15⟩) ?rest15
        case hy15 => (intro w9; go_simp <;> with_reducible rfl)
        simp only [Act.put, List.setIfInBounds_toArray, List.set_cons_zero, List.set_cons_succ]
        refine' WalkS.take0 20 _ (v := _) rfl (by kernel_rfl) (by kernel_rfl) (by kernel_rfl) (by kernel_rfl) (fun _ _ _ h => h) (Or.inl ⟨by rfl, ?hy16⟩) ?rest16
        case hy16 => (intro w9; go_simp <;> with_reducible rfl)
        simp only [Act.put, List.setIfInBounds_toArray, List.set_cons_zero, List.set_cons_succ]
        refine WalkS.done (by kernel_rfl) ?_
        go_wp2_with fail
        go_ret
        exact ⟨rfl, HBC.out.trans (hSr4.mono HBC.out.size)⟩
    case true =>
      go_upto_region 25 with fail
      have hS0 : Below wc.heap.size wc wc.drew := by go_grown
      refine WalkS.begin (fun w' => Below wc.heap.size wc w') [] (by kernel_rfl) hS0 ?_
      simp only [List.size_toArray, List.length_cons, List.length_nil, Nat.zero_add, Nat.reduceAdd, show Array.replicate 21 false = #[false, false, false, false, false, false, false, false, false, false, false, false, false, false, false, false, false, false, false, false, false] from rfl]
      refine WalkS.take 0 _ (v := .agg (frC f (.slice g1 f.ms.length d1) (.slice g2 f.es.length d2))) rfl (by kernel_rfl) (by kernel_rfl) (by kernel_rfl) (by kernel_rfl) (by kernel_rfl) (fun _ _ _ h => h) (Or.inl ⟨by rfl, fun w9 h9 => loadRow_run rfl 47 (.tmp 7) rfl F rfl 47 (frC f (.slice g1 f.ms.length d1) (.slice g2 f.es.length d2)) (0, 0) _ ((h9.block F lF).trans RF.out) Tryd.underlying47 rfl (by kernel_rfl)⟩) ?_
      simp only [Act.put, List.setIfInBounds_toArray, List.set_cons_zero, List.set_cons_succ]
      refine WalkS.take 1 _ (v := .agg (frC f (.slice g1 f.ms.length d1) (.slice g2 f.es.length d2))) rfl (by kernel_rfl) (by kernel_rfl) (by kernel_rfl) (by kernel_rfl) (by kernel_rfl) (fun _ _ _ h => h) (Or.inl ⟨by rfl, fun w9 h9 => loadRow_run rfl 47 (.tmp 7) rfl F rfl 47 (frC f (.slice g1 f.ms.length d1) (.slice g2 f.es.length d2)) (0, 0) _ ((h9.block F lF).trans RF.out) Tryd.underlying47 rfl (by kernel_rfl)⟩) ?_
      simp only [Act.put, List.setIfInBounds_toArray, List.set_cons_zero, List.set_cons_succ]
      refine WalkS.each [2] (by kernel_rfl) rfl ?_
      refine EachS.cons 2 _ rfl (fun K hK => ?s17) EachS.nil
      go_simp
      refine (H1.out _ hS0).mono ?_
      rintro e w11 ⟨r1, rfl, hr1, hBr1⟩
      obtain rfl : r1 = true := hr1.2 rfl
      clear hr1
      have hSr1 := m_below_on hS0 hBr1
      refine hK.out _ _ (fun _ => hSr1) ?_
      clear hK K hBr1
      simp only [Act.put, List.setIfInBounds_toArray, List.set_cons_zero, List.set_cons_succ]
      refine' WalkS.take0 3 _ (v := _) rfl (by kernel_rfl) (by kernel_rfl) (by kernel_rfl) (by kernel_rfl) (fun _ _ _ h => h) (Or.inl ⟨by rfl, ?hy18⟩) ?rest18
      case hy18 => (intro w9; go_simp <;> with_reducible rfl)
      simp only [Act.put, List.setIfInBounds_toArray, List.set_cons_zero, List.set_cons_succ]
      refine WalkS.take 4 _ (v := .agg (frC z sz tz)) rfl (by kernel_rfl) (by kernel_rfl) (by kernel_rfl) (by kernel_rfl) (by kernel_rfl) (fun _ _ _ h => h) (Or.inl ⟨by rfl, fun w9 h9 => loadRow_run rfl 47 (.tmp 11) rfl Z rfl 47 (frC z sz tz) (0, 0) _ ((h9.block Z lZ).trans RZ.out) Tryd.underlying47 rfl (by kernel_rfl)⟩) ?_
      simp only [Act.put, List.setIfInBounds_toArray, List.set_cons_zero, List.set_cons_succ]
      refine WalkS.take 5 _ (v := .agg (frC f (.slice g1 f.ms.length d1) (.slice g2 f.es.length d2))) rfl (by kernel_rfl) (by kernel_rfl) (by kernel_rfl) (by kernel_rfl) (by kernel_rfl) (fun _ _ _ h => h) (Or.inl ⟨by rfl, fun w9 h9 => loadRow_run rfl 47 (.tmp 7) rfl F rfl 47 (frC f (.slice g1 f.ms.length d1) (.slice g2 f.es.length d2)) (0, 0) _ ((h9.block F lF).trans RF.out) Tryd.underlying47 rfl (by kernel_rfl)⟩) ?_
      simp only [Act.put, List.setIfInBounds_toArray, List.set_cons_zero, List.set_cons_succ]
      refine' WalkS.take0 7 _ (v := _) rfl (by kernel_rfl) (by kernel_rfl) (by kernel_rfl) (by kernel_rfl) (fun _ _ _ h => h) (Or.inl ⟨by rfl, ?hy19⟩) ?rest19
      case hy19 => (intro w9; go_simp <;> with_reducible rfl)
      simp only [Act.put, List.setIfInBounds_toArray, List.set_cons_zero, List.set_cons_succ]
      refine' WalkS.take0 8 _ (v := _) rfl (by kernel_rfl) (by kernel_rfl) (by kernel_rfl) (by kernel_rfl) (fun _ _ _ h => h) (Or.inl ⟨by rfl, ?hy20⟩) ?rest20
      case hy20 => (intro w9; go_simp <;> with_reducible rfl)
      simp only [Act.put, List.setIfInBounds_toArray, List.set_cons_zero, List.set_cons_succ]
      refine WalkS.each [6] (by kernel_rfl) rfl ?_
      refine EachS.cons 6 _ rfl (fun K hK => ?s21) EachS.nil
      go_simp
      refine (H2.out _ hSr1).mono ?_
      rintro e w12 ⟨r2, rfl, hr2, hBr2⟩
      obtain rfl : r2 = false := by cases r2 with | false => rfl | true => exact absurd (HZF.out.1 (hr2.1 rfl)) (by decide)
      clear hr2
      have hSr2 := m_below_on hSr1 hBr2
      refine hK.out _ _ (fun _ => hSr2) ?_
      clear hK K hBr2
      simp only [Act.put, List.setIfInBounds_toArray, List.set_cons_zero, List.set_cons_succ]
      refine' WalkS.take0 9 _ (v := _) rfl (by kernel_rfl) (by kernel_rfl) (by kernel_rfl) (by kernel_rfl) (fun _ _ _ h => h) (Or.inl ⟨by rfl, ?hy22⟩) ?rest22
      case hy22 => (intro w9; go_simp <;> with_reducible rfl)
      simp only [Act.put, List.setIfInBounds_toArray, List.set_cons_zero, List.set_cons_succ]
      refine' WalkS.take0 10 _ (v := _) rfl (by kernel_rfl) (by kernel_rfl) (by kernel_rfl) (by kernel_rfl) (fun _ _ _ h => h) (Or.inl ⟨by rfl, ?hy23⟩) ?rest23
      case hy23 => (intro w9; go_simp <;> with_reducible rfl)
      simp only [Act.put, List.setIfInBounds_toArray, List.set_cons_zero, List.set_cons_succ]
      refine' WalkS.take0 11 _ (v := _) rfl (by kernel_rfl) (by kernel_rfl) (by kernel_rfl) (by kernel_rfl) (fun _ _ _ h => h) (Or.inl ⟨by rfl, ?hy24⟩) ?rest24
      case hy24 => (intro w9; go_simp <;> with_reducible rfl)
      simp only [Act.put, List.setIfInBounds_toArray, List.set_cons_zero, List.set_cons_succ]
      refine WalkS.take 12 _ (v := .agg (frC f (.slice g1 f.ms.length d1) (.slice g2 f.es.length d2))) rfl (by kernel_rfl) (by kernel_rfl) (by kernel_rfl) (by kernel_rfl) (by kernel_rfl) (fun _ _ _ h => h) (Or.inl ⟨by rfl, fun w9 h9 => loadRow_run rfl 47 (.tmp 7) rfl F rfl 47 (frC f (.slice g1 f.ms.length d1) (.slice g2 f.es.length d2)) (0, 0) _ ((h9.block F lF).trans RF.out) Tryd.underlying47 rfl (by kernel_rfl)⟩) ?_
      simp only [Act.put, List.setIfInBounds_toArray, List.set_cons_zero, List.set_cons_succ]
      refine WalkS.take 13 _ (v := .agg (frC g (.slice g5 g.ms.length d5) (.slice g6 g.es.length d6))) rfl (by kernel_rfl) (by kernel_rfl) (by kernel_rfl) (by kernel_rfl) (by kernel_rfl) (fun _ _ _ h => h) (Or.inl ⟨by rfl, fun w9 h9 => loadRow_run rfl 47 (.tmp 9) rfl G rfl 47 (frC g (.slice g5 g.ms.length d5) (.slice g6 g.es.length d6)) (0, 0) _ ((h9.block G lG).trans RG.out) Tryd.underlying47 rfl (by kernel_rfl)⟩) ?_
      simp only [Act.put, List.setIfInBounds_toArray, List.set_cons_zero, List.set_cons_succ]
      refine WalkS.take 15 _ (v := .agg (frC g (.slice g5 g.ms.length d5) (.slice g6 g.es.length d6))) rfl (by kernel_rfl) (by kernel_rfl) (by kernel_rfl) (by kernel_rfl) (by kernel_rfl) (fun _ _ _ h => h) (Or.inl ⟨by rfl, fun w9 h9 => loadRow_run rfl 47 (.tmp 9) rfl G rfl 47 (frC g (.slice g5 g.ms.length d5) (.slice g6 g.es.length d6)) (0, 0) _ ((h9.block G lG).trans RG.out) Tryd.underlying47 rfl (by kernel_rfl)⟩) ?_
      simp only [Act.put, List.setIfInBounds_toArray, List.set_cons_zero, List.set_cons_succ]
      refine WalkS.take 16 _ (v := .agg (frC f (.slice g1 f.ms.length d1) (.slice g2 f.es.length d2))) rfl (by kernel_rfl) (by kernel_rfl) (by kernel_rfl) (by kernel_rfl) (by kernel_rfl) (fun _ _ _ h => h) (Or.inl ⟨by rfl, fun w9 h9 => loadRow_run rfl 47 (.tmp 7) rfl F rfl 47 (frC f (.slice g1 f.ms.length d1) (.slice g2 f.es.length d2)) (0, 0) _ ((h9.block F lF).trans RF.out) Tryd.underlying47 rfl (by kernel_rfl)⟩) ?_
      simp only [Act.put, List.setIfInBounds_toArray, List.set_cons_zero, List.set_cons_succ]
      refine WalkS.each [14] (by kernel_rfl) rfl ?_
      refine EachS.cons 14 _ rfl (fun K hK => ?s25) EachS.nil
      go_simp
      refine (H3.out _ hSr2).mono ?_
      rintro e w13 ⟨r3, rfl, hr3, hBr3⟩
      have hSr3 := m_below_on hSr2 hBr3
      refine hK.out _ _ (fun _ => hSr3) ?_
      clear hK K hBr3
      simp only [Act.put, List.setIfInBounds_toArray, List.set_cons_zero, List.set_cons_succ]
      refine WalkS.each [17] (by kernel_rfl) rfl ?_
      refine EachS.cons 17 _ rfl (fun K hK => ?s26) EachS.nil
      go_simp
      refine (H4.out _ hSr3).mono ?_
      rintro e w14 ⟨r4, rfl, hr4, hBr4⟩
      obtain rfl : r4 = r3 := by cases r3 <;> cases r4 <;> first | rfl | exact absurd (hr4.1 rfl).symm (fun h => by cases (hr3.2 h)) | exact absurd (hr3.1 rfl).symm (fun h => by cases (hr4.2 h))
      clear hr3 hr4
      have hSr4 := m_below_on hSr3 hBr4
      refine hK.out _ _ (fun _ => hSr4) ?_
      clear hK K hBr4
      simp only [Act.put, List.setIfInBounds_toArray, List.set_cons_zero, List.set_cons_succ]
      cases r4
      case false =>
        refine' WalkS.take0 18 _ (v := _) rfl (by kernel_rfl) (by kernel_rfl) (by kernel_rfl) (by kernel_rfl) (fun _ _ _ h => h) (Or.inl ⟨by rfl, ?hy27⟩) ?rest27
        case hy27 => (intro w9; go_simp <;> with_reducible rfl)
        simp only [Act.put, List.setIfInBounds_toArray, List.set_cons_zero, List.set_cons_succ]
        refine' WalkS.take0 19 _ (v := _) rfl (by kernel_rfl) (by kernel_rfl) (by kernel_rfl) (by kernel_rfl) (fun _ _ _ h => h) (Or.inl ⟨by rfl, ?hy28⟩) ?rest28
        case hy28 => (intro w9; go_simp <;> with_reducible rfl)
        simp only [Act.put, List.setIfInBounds_toArray, List.set_cons_zero, List.set_cons_succ]
        refine' WalkS.take0 20 _ (v := _) rfl (by kernel_rfl) (by kernel_rfl) (by kernel_rfl) (by kernel_rfl) (fun _ _ _ h => h) (Or.inl ⟨by rfl, ?hy29⟩) ?rest29
        case hy29 => (intro w9; go_simp <;> with_reducible rfl)
        simp only [Act.put, List.setIfInBounds_toArray, List.set_cons_zero, List.set_cons_succ]
        refine WalkS.done (by kernel_rfl) ?_
        go_wp2_with fail
        go_ret
        exact ⟨rfl, HBC.out.trans (hSr4.mono HBC.out.size)⟩
      case true =>
        refine' WalkS.take0 18 _ (v := _) rfl (by kernel_rfl) (by kernel_rfl) (by kernel_rfl) (by kernel_rfl) (fun _ _ _ h => h) (Or.inl ⟨by rfl, ?hy30⟩) ?rest30
        case hy30 => (intro w9; go_simp <;> with_reducible rfl)
        simp only [Act.put, List.setIfInBounds_toArray, List.set_cons_zero, List.set_cons_succ]
        refine' WalkS.take0 19 _ (v := _) rfl (by kernel_rfl) (by kernel_rfl) (by kernel_rfl) (by kernel_rfl) (fun _ _ _ h => h) (Or.inl ⟨by rfl, ?hy31⟩) ?rest31
        case hy31 => (intro w9; go_simp <;> with_reducible rfl)
        simp only [Act.put, List.setIfInBounds_toArray, List.set_cons_zero, List.set_cons_succ]
        refine' WalkS.take0 20 _ (v := _) rfl (by kernel_rfl) (by kernel_rfl) (by kernel_rfl) (by kernel_rfl) (fun _ _ _ h => h) (Or.inl ⟨by rfl, ?hy32⟩) ?rest32
        case hy32 => (intro w9; go_simp <;> with_reducible rfl)
        simp only [Act.put, List.setIfInBounds_toArray, List.set_cons_zero, List.set_cons_succ]
        refine WalkS.done (by kernel_rfl) ?_
        go_wp2_with fail
        go_ret
        exact ⟨rfl, HBC.out.trans (hSr4.mono HBC.out.size)⟩
set_option maxHeartbeats 8000000 in
set_option maxRecDepth 20000 in
theorem sames_6 (x y : Fr) (a1 a2 b1 b2 : Option Addr) (n1 n2 k1 k2 i1 i2 j1 j2 : Nat) (q : Nat) (w : World) (henv : FEnv w) (hq : q < 256) (hqm : q % 9 = 6)
    (hn1 : n1 = x.ms.length) (hn2 : n2 = x.es.length) (hm : 0 < n1 → memR.At w (.slice a1 n1 k1) x.ms) (he : 0 < n2 → entR.At w (.slice a2 n2 k2) x.es) (l1 : n1 ≤ maxLen) (l2 : n2 ≤ maxLen)
    (hi1 : i1 = y.ms.length) (hi2 : i2 = y.es.length) (gm : 0 < i1 → memR.At w (.slice b1 i1 j1) y.ms) (ge : 0 < i2 → entR.At w (.slice b2 i2 j2) y.es) (l3 : i1 ≤ maxLen) (l4 : i2 ≤ maxLen) :
    Calls Tryd.prog 5 #[.agg (frC x (.slice a1 n1 k1) (.slice a2 n2 k2)), .agg (frC y (.slice b1 i1 j1) (.slice b2 i2 j2)), .int .u8 q] w (retB true w) := by
  have HN := Lib.hid (And.intro hn1 (And.intro hn2 (And.intro hi1 hi2)))
  have HM := Lib.hid (And.intro hm (And.intro he (And.intro gm ge)))
  obtain ⟨w0, hw0⟩ : ∃ w0, w0 = (w.alloc (.cells (frC x (.slice a1 n1 k1) (.slice a2 n2 k2)) 29)).alloc (.cells (frC y (.slice b1 i1 j1) (.slice b2 i2 j2)) 29) := ⟨_, rfl⟩
  have hB0 : Below w.heap.size w w0 := by rw [hw0]; go_grown
  have hX0 : Blk (w.alloc (.cells (frC x (.slice a1 n1 k1) (.slice a2 n2 k2)) 29)) w.heap.size (frC x (.slice a1 n1 k1) (.slice a2 n2 k2)) 29 := Blk.new rfl
  have HX0 := Lib.hid (show Blk w0 w.heap.size (frC x (.slice a1 n1 k1) (.slice a2 n2 k2)) 29 by rw [hw0]; exact hX0.alloc _)
  have HY0 := Lib.hid (show Blk w0 (w.heap.size + 1) (frC y (.slice b1 i1 j1) (.slice b2 i2 j2)) 29 by rw [hw0]; exact Blk.new (by simp))
  have HB0 := Lib.hid hB0
  have H1 := Lib.hid (speaks_any w0 (henv.on hB0 henv.pos))
  clear henv hm he gm ge hn1 hn2 hi1 hi2 hB0 hX0
  go_enter Tryd.func5, Tryd.ntmps5
  go_upto_region 1 with fail
  rw [← hw0]
  clear hw0
  go_wp2_with fail
  with_reducible refine H1.out.mono ?_
  rintro e w2 ⟨rfl, hB2⟩
  have HX2 := Lib.hid (HX0.out.on hB2)
  have HY2 := Lib.hid (HY0.out.on hB2)
  have HB2 := Lib.hid (m_below_on HB0.out hB2)
  have R2 := Lib.hid (blk_raw HX2.out)
  have H2 := Lib.hid (told_any x a1 a2 n1 n2 k1 k2 w2 HN.out.1 HN.out.2.1 (fun h => (HM.out.1 h).on HB2.out) (fun h => (HM.out.2.1 h).on HB2.out) l1 l2)
  clear H1 hB2 HX0 HY0 HB0
  go_wp2_with (first | (refine wpList_load_row rfl 29 (.tmp 3) rfl w.heap.size rfl 29 (frC x (.slice a1 n1 k1) (.slice a2 n2 k2)) (0, 0) _ R2.out Tryd.underlying29 rfl (by kernel_rfl) ?_))
  with_reducible refine H2.out.mono ?_
  rintro e w4 ⟨s1, t1, s2, t2, rfl, hB4, m1, e1, m2, e2⟩
  obtain ⟨f, hf⟩ : ∃ f, f = toldF x := ⟨_, rfl⟩
  rw [← hf] at m1 e1 m2 e2 ⊢
  have hfl : f.ms.length ≤ 10 ∧ f.es.length ≤ 18 := by rw [hf]; exact ⟨by simp [toldF]; omega, by simp [toldF]; omega⟩
  obtain ⟨g1, d1, rfl⟩ := m1.len
  obtain ⟨g2, d2, rfl⟩ := e1.len
  obtain ⟨g3, d3, rfl⟩ := m2.len
  obtain ⟨g4, d4, rfl⟩ := e2.len
  have HP := Lib.hid (told_put (s2 := .slice g3 f.ms.length d3) (t2 := .slice g4 f.es.length d4) m1 e1)
  have HB4 := Lib.hid (m_below_on HB2.out hB4)
  have HY4 := Lib.hid (HY2.out.on hB4)
  have NF0 : Blk (w4.alloc (.cells z34 47)) w4.heap.size z34 47 := Blk.new rfl
  have NF := Lib.hid (NF0.alloc (.cells z34 52))
  have NR := Lib.hid (show Blk ((w4.alloc (.cells z34 47)).alloc (.cells z34 52)) (w4.heap.size + 1) z34 52 from Blk.new (by simp))
  have O1 := Lib.hid (frC_one f g1 g2 f.ms.length f.es.length d1 d2)
  have O2 := Lib.hid (frC_one f g3 g4 f.ms.length f.es.length d3 d4)
  have hne : w4.heap.size + 1 ≠ w4.heap.size := by omega
  have NR2 := Lib.hid ((setRow_other ((w4.alloc (.cells z34 47)).alloc (.cells z34 52)) w4.heap.size (w4.heap.size + 1) (frC f (.slice g1 f.ms.length d1) (.slice g2 f.es.length d2)) hne).trans (blk_raw NR.out))
  clear H2 hB4 m1 e1 m2 e2 hf NF0 R2 HX2 HY2 HB2
  go_upto_region 4 with (first | (refine wpList_store_row rfl 47 (.tmp 7) (.tmp 18) rfl w4.heap.size (frC f (.slice g1 f.ms.length d1) (.slice g2 f.es.length d2)) rfl rfl 47 z34 (blk_raw NF.out) (by kernel_rfl) rfl O1.out ?_) | (refine wpList_store_row rfl 52 (.tmp 8) (.tmp 19) rfl (w4.heap.size + 1) (frC f (.slice g3 f.ms.length d3) (.slice g4 f.es.length d4)) rfl rfl 52 z34 NR2.out (by kernel_rfl) rfl O2.out ?_))
  obtain ⟨w5, hw5⟩ : ∃ w5, w5 = (((w4.alloc (.cells z34 47)).alloc (.cells z34 52)).setRow w4.heap.size (frC f (.slice g1 f.ms.length d1) (.slice g2 f.es.length d2))).setRow (w4.heap.size + 1) (frC f (.slice g3 f.ms.length d3) (.slice g4 f.es.length d4)) := ⟨_, rfl⟩
  rw [← hw5] at HP ⊢
  obtain ⟨F, hF⟩ : ∃ F, F = w4.heap.size := ⟨_, rfl⟩
  rw [← hF] at HP ⊢
  have HF5 := Lib.hid HP.out.1
  have HB5 := Lib.hid (HB4.out.trans ((show Below w4.heap.size w4 w5 by rw [← hF]; exact HP.out.2).mono HB4.out.size))
  have HY5 := Lib.hid (HY4.out.on (show Below w4.heap.size w4 w5 by rw [← hF]; exact HP.out.2))
  have HFw : w.heap.size + 1 < F := by rw [hF]; exact HY4.out.lt
  have R5 := Lib.hid (blk_raw HY5.out)
  have H3 := Lib.hid (told_any y b1 b2 i1 i2 j1 j2 w5 HN.out.2.2.1 HN.out.2.2.2 (fun h => (HM.out.2.2.1 h).on HB5.out) (fun h => (HM.out.2.2.2 h).on HB5.out) l3 l4)
  clear hw5 hF NF NR NR2 O1 O2 HP HB4 HY4 hne
  generalize F + 1 = F1
  go_wp2_with (first | (refine wpList_load_row rfl 29 (.tmp 4) rfl (w.heap.size + 1) rfl 29 (frC y (.slice b1 i1 j1) (.slice b2 i2 j2)) (0, 0) _ R5.out Tryd.underlying29 rfl (by kernel_rfl) ?_))
  with_reducible refine H3.out.mono ?_
  rintro e w6 ⟨s5, t5, s6, t6, rfl, hB6, m1, e1, m2, e2⟩
  obtain ⟨g, hg⟩ : ∃ g, g = toldF y := ⟨_, rfl⟩
  rw [← hg] at m1 e1 m2 e2 ⊢
  have hgl : g.ms.length ≤ 10 ∧ g.es.length ≤ 18 := by rw [hg]; exact ⟨by simp [toldF]; omega, by simp [toldF]; omega⟩
  obtain ⟨g5, d5, rfl⟩ := m1.len
  obtain ⟨g6, d6, rfl⟩ := e1.len
  obtain ⟨g7, d7, rfl⟩ := m2.len
  obtain ⟨g8, d8, rfl⟩ := e2.len
  have HP := Lib.hid (told_put (s2 := .slice g7 g.ms.length d7) (t2 := .slice g8 g.es.length d8) m1 e1)
  have HB6 := Lib.hid (m_below_on HB5.out hB6)
  have HF6 := Lib.hid (HF5.out.on hB6)
  have NF0 : Blk (w6.alloc (.cells z34 47)) w6.heap.size z34 47 := Blk.new rfl
  have NF := Lib.hid (NF0.alloc (.cells z34 52))
  have NR := Lib.hid (show Blk ((w6.alloc (.cells z34 47)).alloc (.cells z34 52)) (w6.heap.size + 1) z34 52 from Blk.new (by simp))
  have O1 := Lib.hid (frC_one g g5 g6 g.ms.length g.es.length d5 d6)
  have O2 := Lib.hid (frC_one g g7 g8 g.ms.length g.es.length d7 d8)
  have hne : w6.heap.size + 1 ≠ w6.heap.size := by omega
  have NR2 := Lib.hid ((setRow_other ((w6.alloc (.cells z34 47)).alloc (.cells z34 52)) w6.heap.size (w6.heap.size + 1) (frC g (.slice g5 g.ms.length d5) (.slice g6 g.es.length d6)) hne).trans (blk_raw NR.out))
  clear H3 hB6 m1 e1 m2 e2 hg NF0 R5 HF5 HY5 HB5
  go_upto_region 5 with (first | (refine wpList_store_row rfl 47 (.tmp 9) (.tmp 23) rfl w6.heap.size (frC g (.slice g5 g.ms.length d5) (.slice g6 g.es.length d6)) rfl rfl 47 z34 (blk_raw NF.out) (by kernel_rfl) rfl O1.out ?_) | (refine wpList_store_row rfl 52 (.tmp 10) (.tmp 24) rfl (w6.heap.size + 1) (frC g (.slice g7 g.ms.length d7) (.slice g8 g.es.length d8)) rfl rfl 52 z34 NR2.out (by kernel_rfl) rfl O2.out ?_))
  obtain ⟨w7, hw7⟩ : ∃ w7, w7 = (((w6.alloc (.cells z34 47)).alloc (.cells z34 52)).setRow w6.heap.size (frC g (.slice g5 g.ms.length d5) (.slice g6 g.es.length d6))).setRow (w6.heap.size + 1) (frC g (.slice g7 g.ms.length d7) (.slice g8 g.es.length d8)) := ⟨_, rfl⟩
  rw [← hw7] at HP ⊢
  obtain ⟨G, hG⟩ : ∃ G, G = w6.heap.size := ⟨_, rfl⟩
  rw [← hG] at HP ⊢
  have HG7 := Lib.hid HP.out.1
  have HB7 := Lib.hid (HB6.out.trans ((show Below w6.heap.size w6 w7 by rw [← hG]; exact HP.out.2).mono HB6.out.size))
  have HF7 := Lib.hid (HF6.out.on (show Below w6.heap.size w6 w7 by rw [← hG]; exact HP.out.2))
  have HFG : F < G := by rw [hG]; exact HF6.out.b.lt
  clear hw7 hG NF NR NR2 O1 O2 HP HB6 HF6 hne
  generalize G + 1 = G1
  have R7 := Lib.hid (blk_raw HF7.out.b)
  have NZ := Lib.hid (Blk.new (w := w7) (B := w7.heap.size) (T := 47) (cs := z34) rfl)
  have OZ := Lib.hid (frC_one f g1 g2 f.ms.length f.es.length d1 d2)
  go_upto_region 7 with (first | (refine wpList_load_row rfl 47 (.tmp 7) rfl F rfl 47 (frC f (.slice g1 f.ms.length d1) (.slice g2 f.es.length d2)) (0, 0) _ R7.out Tryd.underlying47 rfl (by kernel_rfl) ?_) | (refine wpList_store_row rfl 47 (.tmp 11) (.tmp 25) rfl w7.heap.size (frC f (.slice g1 f.ms.length d1) (.slice g2 f.es.length d2)) rfl rfl 47 z34 (blk_raw NZ.out) (by kernel_rfl) rfl OZ.out ?_))
  obtain ⟨w8, hw8⟩ : ∃ w8, w8 = (w7.alloc (.cells z34 47)).setRow w7.heap.size (frC f (.slice g1 f.ms.length d1) (.slice g2 f.es.length d2)) := ⟨_, rfl⟩
  have hB8 : Below w7.heap.size w7 w8 := by rw [hw8]; exact below_sr (by go_grown) (Nat.le_refl _) _
  have HZ8 := Lib.hid (show FrB w8 w7.heap.size f (.slice g1 f.ms.length d1) (.slice g2 f.es.length d2) from ⟨by rw [hw8]; exact setRow_blk _ NZ.out, HF7.out.m.on hB8, HF7.out.e.on hB8⟩)
  rw [← hw8]
  obtain ⟨Z, hZ⟩ : ∃ Z, Z = w7.heap.size := ⟨_, rfl⟩
  rw [← hZ] at HZ8 ⊢
  have HZ8x := HZ8
  have HF8 := Lib.hid (HF7.out.on hB8)
  have HG8 := Lib.hid (HG7.out.on hB8)
  have HB8 := Lib.hid (m_below_on HB7.out hB8)
  have HGZ : G < Z := by rw [hZ]; exact HG7.out.b.lt
  have HZE := Lib.hid hZ
  have HBZ := Lib.hid (show Below Z w7 w8 by rw [hZ]; exact hB8)
  have HW7 := Lib.hid (And.intro HF7.out.m (And.intro HF7.out.e (And.intro HG7.out.m HG7.out.e)))
  have HFB := Lib.hid HF7.out.b
  have HGB := Lib.hid HG7.out.b
  have HBW := Lib.hid HB7.out
  clear hw8 hZ hB8 R7 NZ OZ HF7 HG7 HB7 HZ8
  have HZ8 := Lib.hid HZ8x.out.b
  have htm : (q : Int) % 9 = 6 := by omega
  go_upto_block 0 with fail
  rw [htm]
  clear htm hqm
  go_cut [12] from 147 (fun u wx => SamesCut f w7 Z u wx)
  case first =>
    rename_i JJ KK hJJ hKK
    have HJ := Lib.hid hJJ
    clear hJJ
    have nFZ : F ≠ Z := by omega
    have nGZ : G ≠ Z := by omega
    have lF := HF8.out.b.lt
    have lG := HG8.out.b.lt
    have lZ := HZ8.out.lt
    obtain ⟨r, hr, hrun⟩ := cmd_neq f.cmd g.cmd
    have HR := Lib.hid hr
    clear hr
    go_upto_region 22 with fail
    have hS0 : Below w8.heap.size w8 w8.drew := by go_grown
    have hR0 := And.intro (cmd_range (HF8.out.b.on hS0)) (cmd_range (HG8.out.b.on hS0))
    refine WalkS.begin (fun w' => w'.rangeAt F 18 (cmdL f.cmd) ∧ w'.rangeAt G 18 (cmdL g.cmd)) [] (by kernel_rfl) hR0 ?_
    simp only [List.size_toArray, List.length_cons, List.length_nil, Nat.zero_add, Nat.reduceAdd, show Array.replicate 10 false = #[false, false, false, false, false, false, false, false, false, false] from rfl]
    refine' WalkS.take0 0 _ (v := _) rfl (by kernel_rfl) (by kernel_rfl) (by kernel_rfl) (by kernel_rfl) (fun _ _ _ h => h) (Or.inl ⟨by rfl, ?ahy1⟩) ?arest1
    case ahy1 => (intro w9; go_simp <;> with_reducible rfl)
    simp only [Act.put, List.setIfInBounds_toArray, List.set_cons_zero, List.set_cons_succ]
    refine WalkS.take 1 _ (v := .agg (cmdL g.cmd).toArray) rfl (by kernel_rfl) (by kernel_rfl) (by kernel_rfl) (by kernel_rfl) (by kernel_rfl) (fun _ _ _ h => h) (yieldsIf_load_mid (by rfl) 41 (.tmp 108) rfl G 18 rfl (cmdL g.cmd) _ (fun w9 h9 => h9.2) Tryd.underlying41 rfl (by kernel_rfl)) ?_
    simp only [Act.put, List.setIfInBounds_toArray, List.set_cons_zero, List.set_cons_succ]
    refine' WalkS.take0 2 _ (v := _) rfl (by kernel_rfl) (by kernel_rfl) (by kernel_rfl) (by kernel_rfl) (fun _ _ _ h => h) (Or.inl ⟨by rfl, ?ahy2⟩) ?arest2
    case ahy2 => (intro w9; go_simp <;> with_reducible rfl)
    simp only [Act.put, List.setIfInBounds_toArray, List.set_cons_zero, List.set_cons_succ]
    refine WalkS.take 3 _ (v := .agg (cmdL f.cmd).toArray) rfl (by kernel_rfl) (by kernel_rfl) (by kernel_rfl) (by kernel_rfl) (by kernel_rfl) (fun _ _ _ h => h) (yieldsIf_load_mid (by rfl) 41 (.tmp 110) rfl F 18 rfl (cmdL f.cmd) _ (fun w9 h9 => h9.1) Tryd.underlying41 rfl (by kernel_rfl)) ?_
    simp only [Act.put, List.setIfInBounds_toArray, List.set_cons_zero, List.set_cons_succ]
    refine' WalkS.take0 4 _ (v := _) rfl (by kernel_rfl) (by kernel_rfl) (by kernel_rfl) (by kernel_rfl) (fun _ _ _ h => h) (Or.inl ⟨by rfl, ?ahy3⟩) ?arest3
    case ahy3 => (intro w9; go_simp <;> with_reducible rfl)
    simp only [Act.put, List.setIfInBounds_toArray, List.set_cons_zero, List.set_cons_succ]
    refine WalkS.take 5 _ (v := .agg (cmdL g.cmd).toArray) rfl (by kernel_rfl) (by kernel_rfl) (by kernel_rfl) (by kernel_rfl) (by kernel_rfl) (fun _ _ _ h => h) (yieldsIf_load_mid (by rfl) 41 (.tmp 112) rfl G 18 rfl (cmdL g.cmd) _ (fun w9 h9 => h9.2) Tryd.underlying41 rfl (by kernel_rfl)) ?_
    simp only [Act.put, List.setIfInBounds_toArray, List.set_cons_zero, List.set_cons_succ]
    refine' WalkS.take0 6 _ (v := _) rfl (by kernel_rfl) (by kernel_rfl) (by kernel_rfl) (by kernel_rfl) (fun _ _ _ h => h) (Or.inl ⟨by rfl, ?ahy4⟩) ?arest4
    case ahy4 => (intro w9; have h9 := hrun w9; go_simp <;> with_reducible rfl)
    simp only [Act.put, List.setIfInBounds_toArray, List.set_cons_zero, List.set_cons_succ]
    refine' WalkS.take0 7 _ (v := _) rfl (by kernel_rfl) (by kernel_rfl) (by kernel_rfl) (by kernel_rfl) (fun _ _ _ h => h) (Or.inl ⟨by rfl, ?ahy5⟩) ?arest5
    case ahy5 => (intro w9; go_simp <;> with_reducible rfl)
    simp only [Act.put, List.setIfInBounds_toArray, List.set_cons_zero, List.set_cons_succ]
    refine WalkS.each [8] (by kernel_rfl) rfl ?_
    refine EachS.cons 8 _ rfl (fun K hK => ?sw) EachS.nil
    rw [if_pos (by rfl)]
    refine wp_store_mid 41 (.tmp 115) (.tmp 109) rfl Z 18 (cmdL g.cmd).toArray rfl rfl (blk_there (HZ8.out.on hS0) 18 5 (by show 18 + 5 ≤ 34; decide)) (by kernel_rfl) (by simp [Value.oneCell']) ?_
    refine hK.out _ _ (fun _ => ⟨World.rangeAt_setCells_apart hR0.1 Z 18 _ (.inl nFZ), World.rangeAt_setCells_apart hR0.2 Z 18 _ (.inl nGZ)⟩) ?_
    clear hK K
    simp only [Act.put, List.setIfInBounds_toArray, List.set_cons_zero, List.set_cons_succ]
    refine' WalkS.take0 9 _ (v := _) rfl (by kernel_rfl) (by kernel_rfl) (by kernel_rfl) (by kernel_rfl) (fun _ _ _ h => h) (Or.inl ⟨by rfl, ?ahy6⟩) ?arest6
    case ahy6 => (intro w9; go_simp <;> with_reducible rfl)
    simp only [Act.put, List.setIfInBounds_toArray, List.set_cons_zero, List.set_cons_succ]
    refine WalkS.done (by kernel_rfl) ?_
    go_wp2_with fail
    refine Met.intro (HJ.out _ _ ?_)
    repeat apply Exists.intro
    refine ⟨?_, rfl⟩
    refine ⟨{ f with cmd := g.cmd }, (.slice g1 f.ms.length d1), (.slice g2 f.es.length d2), !r, rfl, ?_, hfl.1, hfl.2, HW7.out.1, HW7.out.2.1, setCells_blk (cmdL g.cmd) 18 _ _ (HZ8.out.on hS0), setCells_below (Nat.le_refl _) _ _ _ (HBZ.out.trans (hS0.mono (Nat.le_of_lt lZ)))⟩
    have h1 := HR.out
    constructor
    · intro h
      have : r = true := h1.2 (congrArg (fun z : Fr => z.cmd) h).symm
      rw [this]; rfl
    · intro h
      have hr1 : r = true := by cases r with | true => rfl | false => cases h
      have h2 := h1.1 hr1
      rw [← h2]
  case rest =>
    obtain ⟨z, sz, tz, d, rfl, hzf, hl1, hl2, hm, he, hb, hB⟩ := hcut
    have hB' : Below w7.heap.size w7 wc := by rw [← HZE.out]; exact hB
    have RF := Lib.hid (blk_raw (HFB.out.on hB'))
    have RG := Lib.hid (blk_raw (HGB.out.on hB'))
    have RZ := Lib.hid (blk_raw hb)
    have lF := (HFB.out.on hB').lt
    have lG := (HGB.out.on hB').lt
    have lZ := hb.lt
    have mF := HW7.out.1.on hB'
    have eF := HW7.out.2.1.on hB'
    have mG := HW7.out.2.2.1.on hB'
    have eG := HW7.out.2.2.2.on hB'
    have mZ := hm.on hB'
    have eZ := he.on hB'
    have hzl := And.intro hl1 hl2
    have H1 : Hid (∀ w', Below wc.heap.size wc w' → Calls Tryd.prog 13 #[.agg (frC f (.slice g1 f.ms.length d1) (.slice g2 f.es.length d2)), .agg (frC f (.slice g1 f.ms.length d1) (.slice g2 f.es.length d2))] w' (SameP (f = f) w')) := Lib.hid (fun w' h => Same_any f f _ _ _ _ w' (by omega) (by omega) (by omega) (by omega) (mF.on h) (mF.on h) (eF.on h) (eF.on h))
    have H2 : Hid (∀ w', Below wc.heap.size wc w' → Calls Tryd.prog 13 #[.agg (frC z sz tz), .agg (frC f (.slice g1 f.ms.length d1) (.slice g2 f.es.length d2))] w' (SameP (z = f) w')) := Lib.hid (fun w' h => Same_any z f _ _ _ _ w' (by omega) (by omega) (by omega) (by omega) (mZ.on h) (mF.on h) (eZ.on h) (eF.on h))
    have H3 : Hid (∀ w', Below wc.heap.size wc w' → Calls Tryd.prog 13 #[.agg (frC f (.slice g1 f.ms.length d1) (.slice g2 f.es.length d2)), .agg (frC g (.slice g5 g.ms.length d5) (.slice g6 g.es.length d6))] w' (SameP (f = g) w')) := Lib.hid (fun w' h => Same_any f g _ _ _ _ w' (by omega) (by omega) (by omega) (by omega) (mF.on h) (mG.on h) (eF.on h) (eG.on h))
    have H4 : Hid (∀ w', Below wc.heap.size wc w' → Calls Tryd.prog 13 #[.agg (frC g (.slice g5 g.ms.length d5) (.slice g6 g.es.length d6)), .agg (frC f (.slice g1 f.ms.length d1) (.slice g2 f.es.length d2))] w' (SameP (g = f) w')) := Lib.hid (fun w' h => Same_any g f _ _ _ _ w' (by omega) (by omega) (by omega) (by omega) (mG.on h) (mF.on h) (eG.on h) (eF.on h))
    have HBC := Lib.hid (HBW.out.trans (hB'.mono HBW.out.size))
    have HZF := Lib.hid hzf
    clear hm he hb hB hB' mF eF mG eG mZ eZ hzf HW7 HFB HGB HBZ HF8 HG8 HZ8 HZ8x hl1 hl2 hzl
    cases d
    case false =>
      go_upto_region 25 with fail
      have hS0 : Below wc.heap.size wc wc.drew := by go_grown
      refine WalkS.begin (fun w' => Below wc.heap.size wc w') [] (by kernel_rfl) hS0 ?_
      simp only [List.size_toArray, List.length_cons, List.length_nil, Nat.zero_add, Nat.reduceAdd, show Array.replicate 21 false = #[false, false, false, false, false, false, false, false, false, false, false, false, false, false, false, false, false, false, false, false, false] from rfl]
      refine WalkS.take 0 _ (v := .agg (frC f (.slice g1 f.ms.length d1) (.slice g2 f.es.length d2))) rfl (by kernel_rfl) (by kernel_rfl) (by kernel_rfl) (by kernel_rfl) (by kernel_rfl) (fun _ _ _ h => h) (Or.inl ⟨by rfl, fun w9 h9 => loadRow_run rfl 47 (.tmp 7) rfl F rfl 47 (frC f (.slice g1 f.ms.length d1) (.slice g2 f.es.length d2)) (0, 0) _ ((h9.block F lF).trans RF.out) Tryd.underlying47 rfl (by kernel_rfl)⟩) ?_
      simp only [Act.put, List.setIfInBounds_toArray, List.set_cons_zero, List.set_cons_succ]
      refine WalkS.take 1 _ (v := .agg (frC f (.slice g1 f.ms.length d1) (.slice g2 f.es.length d2))) rfl (by kernel_rfl) (by kernel_rfl) (by kernel_rfl) (by kernel_rfl) (by kernel_rfl) (fun _ _ _ h => h) (Or.inl ⟨by rfl, fun w9 h9 => loadRow_run rfl 47 (.tmp 7) rfl F rfl 47 (frC f (.slice g1 f.ms.length d1) (.slice g2 f.es.length d2)) (0, 0) _ ((h9.block F lF).trans RF.out) Tryd.underlying47 rfl (by kernel_rfl)⟩) ?_
      simp only [Act.put, List.setIfInBounds_toArray, List.set_cons_zero, List.set_cons_succ]
      refine WalkS.each [2] (by kernel_rfl) rfl ?_
      refine EachS.cons 2 _ rfl (fun K hK => ?s1) EachS.nil
      go_simp
      refine (H1.out _ hS0).mono ?_
      rintro e w11 ⟨r1, rfl, hr1, hBr1⟩
      obtain rfl : r1 = true := hr1.2 rfl
      clear hr1
      have hSr1 := m_below_on hS0 hBr1
      refine hK.out _ _ (fun _ => hSr1) ?_
      clear hK K hBr1
      simp only [Act.put, List.setIfInBounds_toArray, List.set_cons_zero, List.set_cons_succ]
      refine' WalkS.take0 3 _ (v := _) rfl (by kernel_rfl) (by kernel_rfl) (by kernel_rfl) (by kernel_rfl) (fun _ _ _ h => h) (Or.inl ⟨by rfl, ?hy2⟩) ?rest2
      case hy2 => (intro w9; go_simp <;> with_reducible rfl)
      simp only [Act.put, List.setIfInBounds_toArray, List.set_cons_zero, List.set_cons_succ]
      refine WalkS.take 4 _ (v := .agg (frC z sz tz)) rfl (by kernel_rfl) (by kernel_rfl) (by kernel_rfl) (by kernel_rfl) (by kernel_rfl) (fun _ _ _ h => h) (Or.inl ⟨by rfl, fun w9 h9 => loadRow_run rfl 47 (.tmp 11) rfl Z rfl 47 (frC z sz tz) (0, 0) _ ((h9.block Z lZ).trans RZ.out) Tryd.underlying47 rfl (by kernel_rfl)⟩) ?_
      simp only [Act.put, List.setIfInBounds_toArray, List.set_cons_zero, List.set_cons_succ]
      refine WalkS.take 5 _ (v := .agg (frC f (.slice g1 f.ms.length d1) (.slice g2 f.es.length d2))) rfl (by kernel_rfl) (by kernel_rfl) (by kernel_rfl) (by kernel_rfl) (by kernel_rfl) (fun _ _ _ h => h) (Or.inl ⟨by rfl, fun w9 h9 => loadRow_run rfl 47 (.tmp 7) rfl F rfl 47 (frC f (.slice g1 f.ms.length d1) (.slice g2 f.es.length d2)) (0, 0) _ ((h9.block F lF).trans RF.out) Tryd.underlying47 rfl (by kernel_rfl)⟩) ?_
      simp only [Act.put, List.setIfInBounds_toArray, List.set_cons_zero, List.set_cons_succ]
      refine' WalkS.take0 7 _ (v := _) rfl (by kernel_rfl) (by kernel_rfl) (by kernel_rfl) (by kernel_rfl) (fun _ _ _ h => h) (Or.inl ⟨by rfl, ?hy3⟩) ?rest3
      case hy3 => (intro w9; go_simp <;> with_reducible rfl)
      simp only [Act.put, List.setIfInBounds_toArray, List.set_cons_zero, List.set_cons_succ]
      refine' WalkS.take0 8 _ (v := _) rfl (by kernel_rfl) (by kernel_rfl) (by kernel_rfl) (by kernel_rfl) (fun _ _ _ h => h) (Or.inl ⟨by rfl, ?hy4⟩) ?rest4
      case hy4 => (intro w9; go_simp <;> with_reducible rfl)
      simp only [Act.put, List.setIfInBounds_toArray, List.set_cons_zero, List.set_cons_succ]
      refine WalkS.each [6] (by kernel_rfl) rfl ?_
      refine EachS.cons 6 _ rfl (fun K hK => ?s5) EachS.nil
      go_simp
      refine (H2.out _ hSr1).mono ?_
      rintro e w12 ⟨r2, rfl, hr2, hBr2⟩
      obtain rfl : r2 = true := by exact hr2.2 (HZF.out.2 rfl)
      clear hr2
      have hSr2 := m_below_on hSr1 hBr2
      refine hK.out _ _ (fun _ => hSr2) ?_
      clear hK K hBr2
      simp only [Act.put, List.setIfInBounds_toArray, List.set_cons_zero, List.set_cons_succ]
      refine' WalkS.take0 9 _ (v := _) rfl (by kernel_rfl) (by kernel_rfl) (by kernel_rfl) (by kernel_rfl) (fun _ _ _ h => h) (Or.inl ⟨by rfl, ?hy6⟩) ?rest6
      case hy6 => (intro w9; go_simp <;> with_reducible rfl)
      simp only [Act.put, List.setIfInBounds_toArray, List.set_cons_zero, List.set_cons_succ]
      refine' WalkS.take0 10 _ (v := _) rfl (by kernel_rfl) (by kernel_rfl) (by kernel_rfl) (by kernel_rfl) (fun _ _ _ h => h) (Or.inl ⟨by rfl, ?hy7⟩) ?rest7
      case hy7 => (intro w9; go_simp <;> with_reducible rfl)
      simp only [Act.put, List.setIfInBounds_toArray, List.set_cons_zero, List.set_cons_succ]
      refine' WalkS.take0 11 _ (v := _) rfl (by kernel_rfl) (by kernel_rfl) (by kernel_rfl) (by kernel_rfl) (fun _ _ _ h => h) (Or.inl ⟨by rfl, ?hy8⟩) ?rest8
      case hy8 => (intro w9; go_simp <;> with_reducible rfl)
      simp only [Act.put, List.setIfInBounds_toArray, List.set_cons_zero, List.set_cons_succ]
      refine WalkS.take 12 _ (v := .agg (frC f (.slice g1 f.ms.length d1) (.slice g2 f.es.length d2))) rfl (by kernel_rfl) (by kernel_rfl) (by kernel_rfl) (by kernel_rfl) (by kernel_rfl) (fun _ _ _ h => h) (Or.inl ⟨by rfl, fun w9 h9 => loadRow_run rfl 47 (.tmp 7) rfl F rfl 47 (frC f (.slice g1 f.ms.length d1) (.slice g2 f.es.length d2)) (0, 0) _ ((h9.block F lF).trans RF.out) Tryd.underlying47 rfl (by kernel_rfl)⟩) ?_
      simp only [Act.put, List.setIfInBounds_toArray, List.set_cons_zero, List.set_cons_succ]
      refine WalkS.take 13 _ (v := .agg (frC g (.slice g5 g.ms.length d5) (.slice g6 g.es.length d6))) rfl (by kernel_rfl) (by kernel_rfl) (by kernel_rfl) (by kernel_rfl) (by kernel_rfl) (fun _ _ _ h => h) (Or.inl ⟨by rfl, fun w9 h9 => loadRow_run rfl 47 (.tmp 9) rfl G rfl 47 (frC g (.slice g5 g.ms.length d5) (.slice g6 g.es.length d6)) (0, 0) _ ((h9.block G lG).trans RG.out) Tryd.underlying47 rfl (by kernel_rfl)⟩) ?_
      simp only [Act.put, List.setIfInBounds_toArray, List.set_cons_zero, List.set_cons_succ]
      refine WalkS.take 15 _ (v := .agg (frC g (.slice g5 g.ms.length d5) (.slice g6 g.es.length d6))) rfl (by kernel_rfl) (by kernel_rfl) (by kernel_rfl) (by kernel_rfl) (by kernel_rfl) (fun _ _ _ h => h) (Or.inl ⟨by rfl, fun w9 h9 => loadRow_run rfl 47 (.tmp 9) rfl G rfl 47 (frC g (.slice g5 g.ms.length d5) (.slice g6 g.es.length d6)) (0, 0) _ ((h9.block G lG).trans RG.out) Tryd.underlying47 rfl (by kernel_rfl)⟩) ?_
      simp only [Act.put, List.setIfInBounds_toArray, List.set_cons_zero, List.set_cons_succ]
      refine WalkS.take 16 _ (v := .agg (frC f (.slice g1 f.ms.length d1) (.slice g2 f.es.length d2))) rfl (by kernel_rfl) (by kernel_rfl) (by kernel_rfl) (by kernel_rfl) (by kernel_rfl) (fun _ _ _ h => h) (Or.inl ⟨by rfl, fun w9 h9 => loadRow_run rfl 47 (.tmp 7) rfl F rfl 47 (frC f (.slice g1 f.ms.length d1) (.slice g2 f.es.length d2)) (0, 0) _ ((h9.block F lF).trans RF.out) Tryd.underlying47 rfl (by kernel_rfl)⟩) ?_
      simp only [Act.put, List.setIfInBounds_toArray, List.set_cons_zero, List.set_cons_succ]
      refine WalkS.each [14] (by kernel_rfl) rfl ?_
      refine EachS.cons 14 _ rfl (fun K hK => ?s9) EachS.nil
      go_simp
      refine (H3.out _ hSr2).mono ?_
      rintro e w13 ⟨r3, rfl, hr3, hBr3⟩
      have hSr3 := m_below_on hSr2 hBr3
      refine hK.out _ _ (fun _ => hSr3) ?_
      clear hK K hBr3
      simp only [Act.put, List.setIfInBounds_toArray, List.set_cons_zero, List.set_cons_succ]
      refine WalkS.each [17] (by kernel_rfl) rfl ?_
      refine EachS.cons 17 _ rfl (fun K hK => ?s10) EachS.nil
      go_simp
      refine (H4.out _ hSr3).mono ?_
      rintro e w14 ⟨r4, rfl, hr4, hBr4⟩
      obtain rfl : r4 = r3 := by cases r3 <;> cases r4 <;> first | rfl | exact absurd (hr4.1 rfl).symm (fun h => by cases (hr3.2 h)) | exact absurd (hr3.1 rfl).symm (fun h => by cases (hr4.2 h))
      clear hr3 hr4
      have hSr4 := m_below_on hSr3 hBr4
      refine hK.out _ _ (fun _ => hSr4) ?_
      clear hK K hBr4
      simp only [Act.put, List.setIfInBounds_toArray, List.set_cons_zero, List.set_cons_succ]
      cases r4
      case false =>
        refine' WalkS.take0 18 _ (v := _) rfl (by kernel_rfl) (by kernel_rfl) (by kernel_rfl) (by kernel_rfl) (fun _ _ _ h => h) (Or.inl ⟨by rfl, ?hy11⟩) ?rest11
        case hy11 => (intro w9; go_simp <;> with_reducible rfl)
        simp only [Act.put, List.setIfInBounds_toArray, List.set_cons_zero, List.set_cons_succ]
        refine' WalkS.take0 19 _ (v := _) rfl (by kernel_rfl) (by kernel_rfl) (by kernel_rfl) (by kernel_rfl) (fun _ _ _ h => h) (Or.inl ⟨by rfl, ?hy12⟩) ?rest12
        case hy12 => (intro w9; go_simp <;> with_reducible rfl)
        simp only [Act.put, List.setIfInBounds_toArray, List.set_cons_zero, List.set_cons_succ]
        refine' WalkS.take0 20 _ (v := _) rfl (by kernel_rfl) (by kernel_rfl) (by kernel_rfl) (by kernel_rfl) (fun _ _ _ h => h) (Or.inl ⟨by rfl, ?hy13⟩) ?rest13
        case hy13 => (intro w9; go_simp <;> with_reducible rfl)
        simp only [Act.put, List.setIfInBounds_toArray, List.set_cons_zero, List.set_cons_succ]
        refine WalkS.done (by kernel_rfl) ?_
        go_wp2_with fail
        go_ret
        exact ⟨rfl, HBC.out.trans (hSr4.mono HBC.out.size)⟩
      case true =>
        refine' WalkS.take0 18 _ (v := _) rfl (by kernel_rfl) (by kernel_rfl) (by kernel_rfl) (by kernel_rfl) (fun _ _ _ h => h) (Or.inl ⟨by rfl, ?hy14⟩) ?rest14
        case hy14 => (intro w9; go_simp <;> with_reducible rfl)
        simp only [Act.put, List.setIfInBounds_toArray, List.set_cons_zero, List.set_cons_succ]
        refine' WalkS.take0 19 _ (v := _) rfl (by kernel_rfl) (by kernel_rfl) (by kernel_rfl) (by kernel_rfl) (fun _ _ _ h => h) (Or.inl ⟨by rfl, ?hy15⟩) ?rest15
        case hy15 => (intro w9; go_simp <;> with_reducible rfl)
        simp only [Act.put, List.setIfInBounds_toArray, List.set_cons_zero, List.set_cons_succ]
        refine' WalkS.take0 20 _ (v := _) rfl (by kernel_rfl) (by kernel_rfl) (by kernel_rfl) (by kernel_rfl) (fun _ _ _ h => h) (Or.inl ⟨by rfl, ?hy16⟩) ?rest16
        case hy16 => (intro w9; go_simp <;> with_reducible rfl)
        simp only [Act.put, List.setIfInBounds_toArray, List.set_cons_zero, List.set_cons_succ]
        refine WalkS.done (by kernel_rfl) ?_
        go_wp2_with fail
        go_ret
        exact ⟨rfl, HBC.out.trans (hSr4.mono HBC.out.size)⟩
    case true =>
      go_upto_region 25 with fail
      have hS0 : Below wc.heap.size wc wc.drew := by go_grown
      refine WalkS.begin (fun w' => Below wc.heap.size wc w') [] (by kernel_rfl) hS0 ?_
      simp only [List.size_toArray, List.length_cons, List.length_nil, Nat.zero_add, Nat.reduceAdd, show Array.replicate 21 false = #[false, false, false, false, false, false, false, false, false, false, false, false, false, false, false, false, false, false, false, false, false] from rfl]
      refine WalkS.take 0 _ (v := .agg (frC f (.slice g1 f.ms.length d1) (.slice g2 f.es.length d2))) rfl (by kernel_rfl) (by kernel_rfl) (by kernel_rfl) (by kernel_rfl) (by kernel_rfl) (fun _ _ _ h => h) (Or.inl ⟨by rfl, fun w9 h9 => loadRow_run rfl 47 (.tmp 7) rfl F rfl 47 (frC f (.slice g1 f.ms.length d1) (.slice g2 f.es.length d2)) (0, 0) _ ((h9.block F lF).trans RF.out) Tryd.underlying47 rfl (by kernel_rfl)⟩) ?_
      simp only [Act.put, List.setIfInBounds_toArray, List.set_cons_zero, List.set_cons_succ]
      refine WalkS.take 1 _ (v := .agg (frC f (.slice g1 f.ms.length d1) (.slice g2 f.es.length d2))) rfl (by kernel_rfl) (by kernel_rfl) (by kernel_rfl) (by kernel_rfl) (by kernel_rfl) (fun _ _ _ h => h) (Or.inl ⟨by rfl, fun w9 h9 => loadRow_run rfl 47 (.tmp 7) rfl F rfl 47 (frC f (.slice g1 f.ms.length d1) (.slice g2 f.es.length d2)) (0, 0) _ ((h9.block F lF).trans RF.out) Tryd.underlying47 rfl (by kernel_rfl)⟩) ?_
      simp only [Act.put, List.setIfInBounds_toArray, List.set_cons_zero, List.set_cons_succ]
      refine WalkS.each [2] (by kernel_rfl) rfl ?_
      refine EachS.cons 2 _ rfl (fun K hK => ?s17) EachS.nil
      go_simp
      refine (H1.out _ hS0).mono ?_
      rintro e w11 ⟨r1, rfl, hr1, hBr1⟩
      obtain rfl : r1 = true := hr1.2 rfl
      clear hr1
      have hSr1 := m_below_on hS0 hBr1
      refine hK.out _ _ (fun _ => hSr1) ?_
      clear hK K hBr1
      simp only [Act.put, List.setIfInBounds_toArray, List.set_cons_zero, List.set_cons_succ]
      refine' WalkS.take0 3 _ (v := _) rfl (by kernel_rfl) (by kernel_rfl) (by kernel_rfl) (by kernel_rfl) (fun _ _ _ h => h) (Or.inl ⟨by rfl, ?hy18⟩) ?rest18
      case hy18 => (intro w9; go_simp <;> with_reducible rfl)
      simp only [Act.put, List.setIfInBounds_toArray, List.set_cons_zero, List.set_cons_succ]
      refine WalkS.take 4 _ (v := .agg (frC z sz tz)) rfl (by kernel_rfl) (by kernel_rfl) (by kernel_rfl) (by kernel_rfl) (by kernel_rfl) (fun _ _ _ h => h) (Or.inl ⟨by rfl, fun w9 h9 => loadRow_run rfl 47 (.tmp 11) rfl Z rfl 47 (frC z sz tz) (0, 0) _ ((h9.block Z lZ).trans RZ.out) Tryd.underlying47 rfl (by kernel_rfl)⟩) ?_
      simp only [Act.put, List.setIfInBounds_toArray, List.set_cons_zero, List.set_cons_succ]
      refine WalkS.take 5 _ (v := .agg (frC f (.slice g1 f.ms.length d1) (.slice g2 f.es.length d2))) rfl (by kernel_rfl) (by kernel_rfl) (by kernel_rfl) (by kernel_rfl) (by kernel_rfl) (fun _ _ _ h => h) (Or.inl ⟨by rfl, fun w9 h9 => loadRow_run rfl 47 (.tmp 7) rfl F rfl 47 (frC f (.slice g1 f.ms.length d1) (.slice g2 f.es.length d2)) (0, 0) _ ((h9.block F lF).trans RF.out) Tryd.underlying47 rfl (by kernel_rfl)⟩) ?_
      simp only [Act.put, List.setIfInBounds_toArray, List.set_cons_zero, List.set_cons_succ]
      refine' WalkS.take0 7 _ (v := _) rfl (by kernel_rfl) (by kernel_rfl) (by kernel_rfl) (by kernel_rfl) (fun _ _ _ h => h) (Or.inl ⟨by rfl, ?hy19⟩) ?rest19
      case hy19 => (intro w9; go_simp <;> with_reducible rfl)
      simp only [Act.put, List.setIfInBounds_toArray, List.set_cons_zero, List.set_cons_succ]
      refine' WalkS.take0 8 _ (v := _) rfl (by kernel_rfl) (by kernel_rfl) (by kernel_rfl) (by kernel_rfl) (fun _ _ _ h => h) (Or.inl ⟨by rfl, ?hy20⟩) ?rest20
      case hy20 => (intro w9; go_simp <;> with_reducible rfl)
      simp only [Act.put, List.setIfInBounds_toArray, List.set_cons_zero, List.set_cons_succ]
      refine WalkS.each [6] (by kernel_rfl) rfl ?_
      refine EachS.cons 6 _ rfl (fun K hK => ?s21) EachS.nil
      go_simp
      refine (H2.out _ hSr1).mono ?_
      rintro e w12 ⟨r2, rfl, hr2, hBr2⟩
      obtain rfl : r2 = false := by cases r2 with | false => rfl | true => exact absurd (HZF.out.1 (hr2.1 rfl)) (by decide)
      clear hr2
      have hSr2 := m_below_on hSr1 hBr2
      refine hK.out _ _ (fun _ => hSr2) ?_
      clear hK K hBr2
      simp only [Act.put, List.setIfInBounds_toArray, List.set_cons_zero, List.set_cons_succ]
      refine' WalkS.take0 9 _ (v := _) rfl (by kernel_rfl) (by kernel_rfl) (by kernel_rfl) (by kernel_rfl) (fun _ _ _ h => h) (Or.inl ⟨by rfl, ?hy22⟩) ?rest22
      case hy22 => (intro w9; go_simp <;> with_reducible rfl)
      simp only [Act.put, List.setIfInBounds_toArray, List.set_cons_zero, List.set_cons_succ]
      refine' WalkS.take0 10 _ (v := _) rfl (by kernel_rfl) (by kernel_rfl) (by kernel_rfl) (by kernel_rfl) (fun _ _ _ h => h) (Or.inl ⟨by rfl, ?hy23⟩) ?rest23
      case hy23 => (intro w9; go_simp <;> with_reducible rfl)
      simp only [Act.put, List.setIfInBounds_toArray, List.set_cons_zero, List.set_cons_succ]
      refine' WalkS.take0 11 _ (v := _) rfl (by kernel_rfl) (by kernel_rfl) (by kernel_rfl) (by kernel_rfl) (fun _ _ _ h => h) (Or.inl ⟨by rfl, ?hy24⟩) ?rest24
      case hy24 => (intro w9; go_simp <;> with_reducible rfl)
      simp only [Act.put, List.setIfInBounds_toArray, List.set_cons_zero, List.set_cons_succ]
      refine WalkS.take 12 _ (v := .agg (frC f (.slice g1 f.ms.length d1) (.slice g2 f.es.length d2))) rfl (by kernel_rfl) (by kernel_rfl) (by kernel_rfl) (by kernel_rfl) (by kernel_rfl) (fun _ _ _ h => h) (Or.inl ⟨by rfl, fun w9 h9 => loadRow_run rfl 47 (.tmp 7) rfl F rfl 47 (frC f (.slice g1 f.ms.length d1) (.slice g2 f.es.length d2)) (0, 0) _ ((h9.block F lF).trans RF.out) Tryd.underlying47 rfl (by kernel_rfl)⟩) ?_
      simp only [Act.put, List.setIfInBounds_toArray, List.set_cons_zero, List.set_cons_succ]
      refine WalkS.take 13 _ (v := .agg (frC g (.slice g5 g.ms.length d5) (.slice g6 g.es.length d6))) rfl (by kernel_rfl) (by kernel_rfl) (by kernel_rfl) (by kernel_rfl) (by kernel_rfl) (fun _ _ _ h => h) (Or.inl ⟨by rfl, fun w9 h9 => loadRow_run rfl 47 (.tmp 9) rfl G rfl 47 (frC g (.slice g5 g.ms.length d5) (.slice g6 g.es.length d6)) (0, 0) _ ((h9.block G lG).trans RG.out) Tryd.underlying47 rfl (by kernel_rfl)⟩) ?_
      simp only [Act.put, List.setIfInBounds_toArray, List.set_cons_zero, List.set_cons_succ]
      refine WalkS.take 15 _ (v := .agg (frC g (.slice g5 g.ms.length d5) (.slice g6 g.es.length d6))) rfl (by kernel_rfl) (by kernel_rfl) (by kernel_rfl) (by kernel_rfl) (by kernel_rfl) (fun _ _ _ h => h) (Or.inl ⟨by rfl, fun w9 h9 => loadRow_run rfl 47 (.tmp 9) rfl G rfl 47 (frC g (.slice g5 g.ms.length d5) (.slice g6 g.es.length d6)) (0, 0) _ ((h9.block G lG).trans RG.out) Tryd.underlying47 rfl (by kernel_rfl)⟩) ?_
      simp only [Act.put, List.setIfInBounds_toArray, List.set_cons_zero, List.set_cons_succ]
      refine WalkS.take 16 _ (v := .agg (frC f (.slice g1 f.ms.length d1) (.slice g2 f.es.length d2))) rfl (by kernel_rfl) (by kernel_rfl) (by kernel_rfl) (by kernel_rfl) (by kernel_rfl) (fun _ _ _ h => h) (Or.inl ⟨by rfl, fun w9 h9 => loadRow_run rfl 47 (.tmp 7) rfl F rfl 47 (frC f (.slice g1 f.ms.length d1) (.slice g2 f.es.length d2)) (0, 0) _ ((h9.block F lF).trans RF.out) Tryd.underlying47 rfl (by kernel_rfl)⟩) ?_
      simp only [Act.put, List.setIfInBounds_toArray, List.set_cons_zero, List.set_cons_succ]
      refine WalkS.each [14] (by kernel_rfl) rfl ?_
      refine EachS.cons 14 _ rfl (fun K hK => ?s25) EachS.nil
      go_simp
      refine (H3.out _ hSr2).mono ?_
      rintro e w13 ⟨r3, rfl, hr3, hBr3⟩
      have hSr3 := m_below_on hSr2 hBr3
      refine hK.out _ _ (fun _ => hSr3) ?_
      clear hK K hBr3
      simp only [Act.put, List.setIfInBounds_toArray, List.set_cons_zero, List.set_cons_succ]
      refine WalkS.each [17] (by kernel_rfl) rfl ?_
      refine EachS.cons 17 _ rfl (fun K hK => ?s26) EachS.nil
      go_simp
      refine (H4.out _ hSr3).mono ?_
      rintro e w14 ⟨r4, rfl, hr4, hBr4⟩
      obtain rfl : r4 = r3 := by cases r3 <;> cases r4 <;> first | rfl | exact absurd (hr4.1 rfl).symm (fun h => by cases (hr3.2 h)) | exact absurd (hr3.1 rfl).symm (fun h => by cases (hr4.2 h))
      clear hr3 hr4
      have hSr4 := m_below_on hSr3 hBr4
      refine hK.out _ _ (fun _ => hSr4) ?_
      clear hK K hBr4
      simp only [Act.put, List.setIfInBounds_toArray, List.set_cons_zero, List.set_cons_succ]
      cases r4
      case false =>
        refine' WalkS.take0 18 _ (v := _) rfl (by kernel_rfl) (by kernel_rfl) (by kernel_rfl) (by kernel_rfl) (fun _ _ _ h => h) (Or.inl ⟨by rfl, ?hy27⟩) ?rest27
        case hy27 => (intro w9; go_simp <;> with_reducible rfl)
        simp only [Act.put, List.setIfInBounds_toArray, List.set_cons_zero, List.set_cons_succ]
        refine' WalkS.take0 19 _ (v := _) rfl (by kernel_rfl) (by kernel_rfl) (by kernel_rfl) (by kernel_rfl) (fun _ _ _ h => h) (Or.inl ⟨by rfl, ?hy28⟩) ?rest28
        case hy28 => (intro w9; go_simp <;> with_reducible rfl)
        simp only [Act.put, List.setIfInBounds_toArray, List.set_cons_zero, List.set_cons_succ]
        refine' WalkS.take0 20 _ (v := _) rfl (by kernel_rfl) (by kernel_rfl) (by kernel_rfl) (by kernel_rfl) (fun _ _ _ h => h) (Or.inl ⟨by rfl, ?hy29⟩) ?rest29
        case hy29 => (intro w9; go_simp <;> with_reducible rfl)
        simp only [Act.put, List.setIfInBounds_toArray, List.set_cons_zero, List.set_cons_succ]
        refine WalkS.done (by kernel_rfl) ?_
        go_wp2_with fail
        go_ret
        exact ⟨rfl, HBC.out.trans (hSr4.mono HBC.out.size)⟩
      case true =>
        refine' WalkS.take0 18 _ (v := _) rfl (by kernel_rfl) (by kernel_rfl) (by kernel_rfl) (by kernel_rfl) (fun _ _ _ h => h) (Or.inl ⟨by rfl, ?hy30⟩) ?rest30
        case hy30 => (intro w9; go_simp <;> with_reducible rfl)
        simp only [Act.put, List.setIfInBounds_toArray, List.set_cons_zero, List.set_cons_succ]
        refine' WalkS.take0 19 _ (v := _) rfl (by kernel_rfl) (by kernel_rfl) (by kernel_rfl) (by kernel_rfl) (fun _ _ _ h => h) (Or.inl ⟨by rfl, ?hy31⟩) ?rest31
        case hy31 => (intro w9; go_simp <;> with_reducible rfl)
        simp only [Act.put, List.setIfInBounds_toArray, List.set_cons_zero, List.set_cons_succ]
        refine' WalkS.take0 20 _ (v := _) rfl (by kernel_rfl) (by kernel_rfl) (by kernel_rfl) (by kernel_rfl) (fun _ _ _ h => h) (Or.inl ⟨by rfl, ?hy32⟩) ?rest32
        case hy32 => (intro w9; go_simp <;> with_reducible rfl)
        simp only [Act.put, List.setIfInBounds_toArray, List.set_cons_zero, List.set_cons_succ]
        refine WalkS.done (by kernel_rfl) ?_
        go_wp2_with fail
        go_ret
        exact ⟨rfl, HBC.out.trans (hSr4.mono HBC.out.size)⟩
set_option maxHeartbeats 8000000 in
set_option maxRecDepth 20000 in
theorem sames_7 (x y : Fr) (a1 a2 b1 b2 : Option Addr) (n1 n2 k1 k2 i1 i2 j1 j2 : Nat) (q : Nat) (w : World) (henv : FEnv w) (hq : q < 256) (hqm : q % 9 = 7)
    (hn1 : n1 = x.ms.length) (hn2 : n2 = x.es.length) (hm : 0 < n1 → memR.At w (.slice a1 n1 k1) x.ms) (he : 0 < n2 → entR.At w (.slice a2 n2 k2) x.es) (l1 : n1 ≤ maxLen) (l2 : n2 ≤ maxLen)
    (hi1 : i1 = y.ms.length) (hi2 : i2 = y.es.length) (gm : 0 < i1 → memR.At w (.slice b1 i1 j1) y.ms) (ge : 0 < i2 → entR.At w (.slice b2 i2 j2) y.es) (l3 : i1 ≤ maxLen) (l4 : i2 ≤ maxLen) :
    Calls Tryd.prog 5 #[.agg (frC x (.slice a1 n1 k1) (.slice a2 n2 k2)), .agg (frC y (.slice b1 i1 j1) (.slice b2 i2 j2)), .int .u8 q] w (retB true w) := by
  have HN := Lib.hid (And.intro hn1 (And.intro hn2 (And.intro hi1 hi2)))
  have HM := Lib.hid (And.intro hm (And.intro he (And.intro gm ge)))
  obtain ⟨w0, hw0⟩ : ∃ w0, w0 = (w.alloc (.cells (frC x (.slice a1 n1 k1) (.slice a2 n2 k2)) 29)).alloc (.cells (frC y (.slice b1 i1 j1) (.slice b2 i2 j2)) 29) := ⟨_, rfl⟩
  have hB0 : Below w.heap.size w w0 := by rw [hw0]; go_grown
  have hX0 : Blk (w.alloc (.cells (frC x (.slice a1 n1 k1) (.slice a2 n2 k2)) 29)) w.heap.size (frC x (.slice a1 n1 k1) (.slice a2 n2 k2)) 29 := Blk.new rfl
  have HX0 := Lib.hid (show Blk w0 w.heap.size (frC x (.slice a1 n1 k1) (.slice a2 n2 k2)) 29 by rw [hw0]; exact hX0.alloc _)
  have HY0 := Lib.hid (show Blk w0 (w.heap.size + 1) (frC y (.slice b1 i1 j1) (.slice b2 i2 j2)) 29 by rw [hw0]; exact Blk.new (by simp))
  have HB0 := Lib.hid hB0
  have H1 := Lib.hid (speaks_any w0 (henv.on hB0 henv.pos))
  clear henv hm he gm ge hn1 hn2 hi1 hi2 hB0 hX0
  go_enter Tryd.func5, Tryd.ntmps5
  go_upto_region 1 with fail
  rw [← hw0]
  clear hw0
  go_wp2_with fail
  with_reducible refine H1.out.mono ?_
  rintro e w2 ⟨rfl, hB2⟩
  have HX2 := Lib.hid (HX0.out.on hB2)
  have HY2 := Lib.hid (HY0.out.on hB2)
  have HB2 := Lib.hid (m_below_on HB0.out hB2)
  have R2 := Lib.hid (blk_raw HX2.out)
  have H2 := Lib.hid (told_any x a1 a2 n1 n2 k1 k2 w2 HN.out.1 HN.out.2.1 (fun h => (HM.out.1 h).on HB2.out) (fun h => (HM.out.2.1 h).on HB2.out) l1 l2)
  clear H1 hB2 HX0 HY0 HB0
  go_wp2_with (first | (refine wpList_load_row rfl 29 (.tmp 3) rfl w.heap.size rfl 29 (frC x (.slice a1 n1 k1) (.slice a2 n2 k2)) (0, 0) _ R2.out Tryd.underlying29 rfl (by kernel_rfl) ?_))
  with_reducible refine H2.out.mono ?_
  rintro e w4 ⟨s1, t1, s2, t2, rfl, hB4, m1, e1, m2, e2⟩
  obtain ⟨f, hf⟩ : ∃ f, f = toldF x := ⟨_, rfl⟩
  rw [← hf] at m1 e1 m2 e2 ⊢
  have hfl : f.ms.length ≤ 10 ∧ f.es.length ≤ 18 := by rw [hf]; exact ⟨by simp [toldF]; omega, by simp [toldF]; omega⟩
  obtain ⟨g1, d1, rfl⟩ := m1.len
  obtain ⟨g2, d2, rfl⟩ := e1.len
  obtain ⟨g3, d3, rfl⟩ := m2.len
  obtain ⟨g4, d4, rfl⟩ := e2.len
  have HP := Lib.hid (told_put (s2 := .slice g3 f.ms.length d3) (t2 := .slice g4 f.es.length d4) m1 e1)
  have HB4 := Lib.hid (m_below_on HB2.out hB4)
  have HY4 := Lib.hid (HY2.out.on hB4)
  have NF0 : Blk (w4.alloc (.cells z34 47)) w4.heap.size z34 47 := Blk.new rfl
  have NF := Lib.hid (NF0.alloc (.cells z34 52))
  have NR := Lib.hid (show Blk ((w4.alloc (.cells z34 47)).alloc (.cells z34 52)) (w4.heap.size + 1) z34 52 from Blk.new (by simp))
  have O1 := Lib.hid (frC_one f g1 g2 f.ms.length f.es.length d1 d2)
  have O2 := Lib.hid (frC_one f g3 g4 f.ms.length f.es.length d3 d4)
  have hne : w4.heap.size + 1 ≠ w4.heap.size := by omega
  have NR2 := Lib.hid ((setRow_other ((w4.alloc (.cells z34 47)).alloc (.cells z34 52)) w4.heap.size (w4.heap.size + 1) (frC f (.slice g1 f.ms.length d1) (.slice g2 f.es.length d2)) hne).trans (blk_raw NR.out))
  clear H2 hB4 m1 e1 m2 e2 hf NF0 R2 HX2 HY2 HB2
  go_upto_region 4 with (first | (refine wpList_store_row rfl 47 (.tmp 7) (.tmp 18) rfl w4.heap.size (frC f (.slice g1 f.ms.length d1) (.slice g2 f.es.length d2)) rfl rfl 47 z34 (blk_raw NF.out) (by kernel_rfl) rfl O1.out ?_) | (refine wpList_store_row rfl 52 (.tmp 8) (.tmp 19) rfl (w4.heap.size + 1) (frC f (.slice g3 f.ms.length d3) (.slice g4 f.es.length d4)) rfl rfl 52 z34 NR2.out (by kernel_rfl) rfl O2.out ?_))
  obtain ⟨w5, hw5⟩ : ∃ w5, w5 = (((w4.alloc (.cells z34 47)).alloc (.cells z34 52)).setRow w4.heap.size (frC f (.slice g1 f.ms.length d1) (.slice g2 f.es.length d2))).setRow (w4.heap.size + 1) (frC f (.slice g3 f.ms.length d3) (.slice g4 f.es.length d4)) := ⟨_, rfl⟩
  rw [← hw5] at HP ⊢
  obtain ⟨F, hF⟩ : ∃ F, F = w4.heap.size := ⟨_, rfl⟩
  rw [← hF] at HP ⊢
  have HF5 := Lib.hid HP.out.1
  have HB5 := Lib.hid (HB4.out.trans ((show Below w4.heap.size w4 w5 by rw [← hF]; exact HP.out.2).mono HB4.out.size))
  have HY5 := Lib.hid (HY4.out.on (show Below w4.heap.size w4 w5 by rw [← hF]; exact HP.out.2))
  have HFw : w.heap.size + 1 < F := by rw [hF]; exact HY4.out.lt
  have R5 := Lib.hid (blk_raw HY5.out)
  have H3 := Lib.hid (told_any y b1 b2 i1 i2 j1 j2 w5 HN.out.2.2.1 HN.out.2.2.2 (fun h => (HM.out.2.2.1 h).on HB5.out) (fun h => (HM.out.2.2.2 h).on HB5.out) l3 l4)
  clear hw5 hF NF NR NR2 O1 O2 HP HB4 HY4 hne
  generalize F + 1 = F1
  go_wp2_with (first | (refine wpList_load_row rfl 29 (.tmp 4) rfl (w.heap.size + 1) rfl 29 (frC y (.slice b1 i1 j1) (.slice b2 i2 j2)) (0, 0) _ R5.out Tryd.underlying29 rfl (by kernel_rfl) ?_))
  with_reducible refine H3.out.mono ?_
  rintro e w6 ⟨s5, t5, s6, t6, rfl, hB6, m1, e1, m2, e2⟩
  obtain ⟨g, hg⟩ : ∃ g, g = toldF y := ⟨_, rfl⟩
  rw [← hg] at m1 e1 m2 e2 ⊢
  have hgl : g.ms.length ≤ 10 ∧ g.es.length ≤ 18 := by rw [hg]; exact ⟨by simp [toldF]; omega, by simp [toldF]; omega⟩
  obtain ⟨g5, d5, rfl⟩ := m1.len
  obtain ⟨g6, d6, rfl⟩ := e1.len
  obtain ⟨g7, d7, rfl⟩ := m2.len
  obtain ⟨g8, d8, rfl⟩ := e2.len
  have HP := Lib.hid (told_put (s2 := .slice g7 g.ms.length d7) (t2 := .slice g8 g.es.length d8) m1 e1)
  have HB6 := Lib.hid (m_below_on HB5.out hB6)
  have HF6 := Lib.hid (HF5.out.on hB6)
  have NF0 : Blk (w6.alloc (.cells z34 47)) w6.heap.size z34 47 := Blk.new rfl
  have NF := Lib.hid (NF0.alloc (.cells z34 52))
  have NR := Lib.hid (show Blk ((w6.alloc (.cells z34 47)).alloc (.cells z34 52)) (w6.heap.size + 1) z34 52 from Blk.new (by simp))
  have O1 := Lib.hid (frC_one g g5 g6 g.ms.length g.es.length d5 d6)
  have O2 := Lib.hid (frC_one g g7 g8 g.ms.length g.es.length d7 d8)
  have hne : w6.heap.size + 1 ≠ w6.heap.size := by omega
  have NR2 := Lib.hid ((setRow_other ((w6.alloc (.cells z34 47)).alloc (.cells z34 52)) w6.heap.size (w6.heap.size + 1) (frC g (.slice g5 g.ms.length d5) (.slice g6 g.es.length d6)) hne).trans (blk_raw NR.out))
  clear H3 hB6 m1 e1 m2 e2 hg NF0 R5 HF5 HY5 HB5
  go_upto_region 5 with (first | (refine wpList_store_row rfl 47 (.tmp 9) (.tmp 23) rfl w6.heap.size (frC g (.slice g5 g.ms.length d5) (.slice g6 g.es.length d6)) rfl rfl 47 z34 (blk_raw NF.out) (by kernel_rfl) rfl O1.out ?_) | (refine wpList_store_row rfl 52 (.tmp 10) (.tmp 24) rfl (w6.heap.size + 1) (frC g (.slice g7 g.ms.length d7) (.slice g8 g.es.length d8)) rfl rfl 52 z34 NR2.out (by kernel_rfl) rfl O2.out ?_))
  obtain ⟨w7, hw7⟩ : ∃ w7, w7 = (((w6.alloc (.cells z34 47)).alloc (.cells z34 52)).setRow w6.heap.size (frC g (.slice g5 g.ms.length d5) (.slice g6 g.es.length d6))).setRow (w6.heap.size + 1) (frC g (.slice g7 g.ms.length d7) (.slice g8 g.es.length d8)) := ⟨_, rfl⟩
  rw [← hw7] at HP ⊢
  obtain ⟨G, hG⟩ : ∃ G, G = w6.heap.size := ⟨_, rfl⟩
  rw [← hG] at HP ⊢
  have HG7 := Lib.hid HP.out.1
  have HB7 := Lib.hid (HB6.out.trans ((show Below w6.heap.size w6 w7 by rw [← hG]; exact HP.out.2).mono HB6.out.size))
  have HF7 := Lib.hid (HF6.out.on (show Below w6.heap.size w6 w7 by rw [← hG]; exact HP.out.2))
  have HFG : F < G := by rw [hG]; exact HF6.out.b.lt
  clear hw7 hG NF NR NR2 O1 O2 HP HB6 HF6 hne
  generalize G + 1 = G1
  have R7 := Lib.hid (blk_raw HF7.out.b)
  have NZ := Lib.hid (Blk.new (w := w7) (B := w7.heap.size) (T := 47) (cs := z34) rfl)
  have OZ := Lib.hid (frC_one f g1 g2 f.ms.length f.es.length d1 d2)
  go_upto_region 7 with (first | (refine wpList_load_row rfl 47 (.tmp 7) rfl F rfl 47 (frC f (.slice g1 f.ms.length d1) (.slice g2 f.es.length d2)) (0, 0) _ R7.out Tryd.underlying47 rfl (by kernel_rfl) ?_) | (refine wpList_store_row rfl 47 (.tmp 11) (.tmp 25) rfl w7.heap.size (frC f (.slice g1 f.ms.length d1) (.slice g2 f.es.length d2)) rfl rfl 47 z34 (blk_raw NZ.out) (by kernel_rfl) rfl OZ.out ?_))
  obtain ⟨w8, hw8⟩ : ∃ w8, w8 = (w7.alloc (.cells z34 47)).setRow w7.heap.size (frC f (.slice g1 f.ms.length d1) (.slice g2 f.es.length d2)) := ⟨_, rfl⟩
  have hB8 : Below w7.heap.size w7 w8 := by rw [hw8]; exact below_sr (by go_grown) (Nat.le_refl _) _
  have HZ8 := Lib.hid (show FrB w8 w7.heap.size f (.slice g1 f.ms.length d1) (.slice g2 f.es.length d2) from ⟨by rw [hw8]; exact setRow_blk _ NZ.out, HF7.out.m.on hB8, HF7.out.e.on hB8⟩)
  rw [← hw8]
  obtain ⟨Z, hZ⟩ : ∃ Z, Z = w7.heap.size := ⟨_, rfl⟩
  rw [← hZ] at HZ8 ⊢
  have HZ8x := HZ8
  have HF8 := Lib.hid (HF7.out.on hB8)
  have HG8 := Lib.hid (HG7.out.on hB8)
  have HB8 := Lib.hid (m_below_on HB7.out hB8)
  have HGZ : G < Z := by rw [hZ]; exact HG7.out.b.lt
  have HZE := Lib.hid hZ
  have HBZ := Lib.hid (show Below Z w7 w8 by rw [hZ]; exact hB8)
  have HW7 := Lib.hid (And.intro HF7.out.m (And.intro HF7.out.e (And.intro HG7.out.m HG7.out.e)))
  have HFB := Lib.hid HF7.out.b
  have HGB := Lib.hid HG7.out.b
  have HBW := Lib.hid HB7.out
  clear hw8 hZ hB8 R7 NZ OZ HF7 HG7 HB7 HZ8
  have HZ8 := Lib.hid HZ8x.out.b
  have htm : (q : Int) % 9 = 7 := by omega
  go_upto_block 0 with fail
  rw [htm]
  clear htm hqm
  go_cut [12] from 147 (fun u wx => SamesCut f w7 Z u wx)
  case first =>
    rename_i JJ KK hJJ hKK
    have HJ := Lib.hid hJJ
    clear hJJ
    have nFZ : F ≠ Z := by omega
    have nGZ : G ≠ Z := by omega
    have lF := HF8.out.b.lt
    have lG := HG8.out.b.lt
    have lZ := HZ8.out.lt
    have H5 := Lib.hid (fun w' (h : Below w8.heap.size w8 w') => vSame_any f.ve g.ve (.slice g1 f.ms.length d1) (.slice g5 g.ms.length d5) f.lv g.lv f.ms g.ms w' (by omega) (by omega) (HF8.out.m.on h) (HG8.out.m.on h))
    go_upto_region 24 with fail
    have hS0 : Below w8.heap.size w8 w8.drew := by go_grown
    refine WalkS.begin (fun w' => Below w8.heap.size w8 w') [9] (by kernel_rfl) hS0 ?_
    simp only [List.size_toArray, List.length_cons, List.length_nil, Nat.zero_add, Nat.reduceAdd, show Array.replicate 11 false = #[false, false, false, false, false, false, false, false, false, false, false] from rfl]
    refine' WalkS.take0 0 _ (v := _) rfl (by kernel_rfl) (by kernel_rfl) (by kernel_rfl) (by kernel_rfl) (fun _ _ _ h => h) (Or.inl ⟨by rfl, ?bhy1⟩) ?brest1
    case bhy1 => (intro w9; go_simp <;> with_reducible rfl)
    simp only [Act.put, List.setIfInBounds_toArray, List.set_cons_zero, List.set_cons_succ]
    refine WalkS.take 1 _ (v := .agg ((vwC g.ve (.slice g5 g.ms.length d5) g.lv).toList).toArray) rfl (by kernel_rfl) (by kernel_rfl) (by kernel_rfl) (by kernel_rfl) (by kernel_rfl) (fun _ _ _ h => h) (yieldsIf_load_mid (by rfl) 44 (.tmp 118) rfl G 23 rfl ((vwC g.ve (.slice g5 g.ms.length d5) g.lv).toList) _ (fun w9 h9 => view_range (HG8.out.b.on h9)) Tryd.underlying44 rfl (by kernel_rfl)) ?_
    simp only [Act.put, List.setIfInBounds_toArray, List.set_cons_zero, List.set_cons_succ]
    refine' WalkS.take0 2 _ (v := _) rfl (by kernel_rfl) (by kernel_rfl) (by kernel_rfl) (by kernel_rfl) (fun _ _ _ h => h) (Or.inl ⟨by rfl, ?bhy2⟩) ?brest2
    case bhy2 => (intro w9; go_simp <;> with_reducible rfl)
    simp only [Act.put, List.setIfInBounds_toArray, List.set_cons_zero, List.set_cons_succ]
    refine WalkS.take 3 _ (v := .agg ((vwC f.ve (.slice g1 f.ms.length d1) f.lv).toList).toArray) rfl (by kernel_rfl) (by kernel_rfl) (by kernel_rfl) (by kernel_rfl) (by kernel_rfl) (fun _ _ _ h => h) (yieldsIf_load_mid (by rfl) 44 (.tmp 120) rfl F 23 rfl ((vwC f.ve (.slice g1 f.ms.length d1) f.lv).toList) _ (fun w9 h9 => view_range (HF8.out.b.on h9)) Tryd.underlying44 rfl (by kernel_rfl)) ?_
    simp only [Act.put, List.setIfInBounds_toArray, List.set_cons_zero, List.set_cons_succ]
    refine' WalkS.take0 4 _ (v := _) rfl (by kernel_rfl) (by kernel_rfl) (by kernel_rfl) (by kernel_rfl) (fun _ _ _ h => h) (Or.inl ⟨by rfl, ?bhy3⟩) ?brest3
    case bhy3 => (intro w9; go_simp <;> with_reducible rfl)
    simp only [Act.put, List.setIfInBounds_toArray, List.set_cons_zero, List.set_cons_succ]
    refine WalkS.take 5 _ (v := .agg ((vwC g.ve (.slice g5 g.ms.length d5) g.lv).toList).toArray) rfl (by kernel_rfl) (by kernel_rfl) (by kernel_rfl) (by kernel_rfl) (by kernel_rfl) (fun _ _ _ h => h) (yieldsIf_load_mid (by rfl) 44 (.tmp 122) rfl G 23 rfl ((vwC g.ve (.slice g5 g.ms.length d5) g.lv).toList) _ (fun w9 h9 => view_range (HG8.out.b.on h9)) Tryd.underlying44 rfl (by kernel_rfl)) ?_
    simp only [Act.put, List.setIfInBounds_toArray, List.set_cons_zero, List.set_cons_succ]
    refine' WalkS.take0 8 _ (v := _) rfl (by kernel_rfl) (by kernel_rfl) (by kernel_rfl) (by kernel_rfl) (fun _ _ _ h => h) (Or.inl ⟨by rfl, ?bhy4⟩) ?brest4
    case bhy4 => (intro w9; go_simp <;> with_reducible rfl)
    simp only [Act.put, List.setIfInBounds_toArray, List.set_cons_zero, List.set_cons_succ]
    refine WalkS.each [6] (by kernel_rfl) rfl ?_
    refine EachS.cons 6 _ rfl (fun K hK => ?sv) EachS.nil
    go_simp
    refine (H5.out _ hS0).mono ?_
    rintro e w11 ⟨r, rfl, hr, hB11⟩
    have hS11 := m_below_on hS0 hB11
    have HR := Lib.hid hr
    refine hK.out _ _ (fun _ => hS11) ?_
    clear hK K hB11 hr
    simp only [Act.put, List.setIfInBounds_toArray, List.set_cons_zero, List.set_cons_succ]
    refine' WalkS.take0 7 _ (v := _) rfl (by kernel_rfl) (by kernel_rfl) (by kernel_rfl) (by kernel_rfl) (fun _ _ _ h => h) (Or.inl ⟨by rfl, ?bhy5⟩) ?brest5
    case bhy5 => (intro w9; go_simp <;> with_reducible rfl)
    simp only [Act.put, List.setIfInBounds_toArray, List.set_cons_zero, List.set_cons_succ]
    refine WalkS.each [9] (by kernel_rfl) rfl ?_
    refine EachS.cons 9 _ rfl (fun K hK => ?sw) EachS.nil
    rw [if_pos (by rfl)]
    refine wp_store_mid 44 (.tmp 126) (.tmp 119) rfl Z 23 (vwC g.ve (.slice g5 g.ms.length d5) g.lv) rfl rfl (blk_there (HZ8.out.on hS11) 23 10 (by show 23 + 10 ≤ 34; decide)) (by kernel_rfl) (by simp [Value.oneCell']) ?_
    refine hK.out _ _ (fun h => absurd h (by decide)) ?_
    clear hK K
    simp only [Act.put, List.setIfInBounds_toArray, List.set_cons_zero, List.set_cons_succ]
    refine' WalkS.take0 10 _ (v := _) rfl (by kernel_rfl) (by kernel_rfl) (by kernel_rfl) (by kernel_rfl) (fun _ _ _ h => h) (Or.inl ⟨by rfl, ?bhy6⟩) ?brest6
    case bhy6 => (intro w9; go_simp <;> with_reducible rfl)
    simp only [Act.put, List.setIfInBounds_toArray, List.set_cons_zero, List.set_cons_succ]
    refine WalkS.done (by kernel_rfl) ?_
    go_wp2_with fail
    refine Met.intro (HJ.out _ _ ?_)
    repeat apply Exists.intro
    refine ⟨?_, rfl⟩
    refine ⟨{ f with ve := g.ve, lv := g.lv, ms := g.ms }, (.slice g5 g.ms.length d5), (.slice g2 f.es.length d2), !r, rfl, ?_, hgl.1, hfl.2, HW7.out.2.2.1, HW7.out.2.1, view_blk g.ve (.slice g5 g.ms.length d5) g.lv g.ms (HZ8.out.on hS11), setCells_below (Nat.le_refl _) _ _ _ (HBZ.out.trans (hS11.mono (Nat.le_of_lt lZ)))⟩
    have h1 := HR.out
    constructor
    · intro h
      have : r = true := h1.2 ⟨(congrArg (fun z : Fr => z.ve) h).symm, (congrArg (fun z : Fr => z.ms) h).symm, (congrArg (fun z : Fr => z.lv) h).symm⟩
      rw [this]; rfl
    · intro h
      have hr1 : r = true := by cases r with | true => rfl | false => cases h
      obtain ⟨h2, h3, h4⟩ := h1.1 hr1
      rw [← h2, ← h3, ← h4]
  case rest =>
    obtain ⟨z, sz, tz, d, rfl, hzf, hl1, hl2, hm, he, hb, hB⟩ := hcut
    have hB' : Below w7.heap.size w7 wc := by rw [← HZE.out]; exact hB
    have RF := Lib.hid (blk_raw (HFB.out.on hB'))
    have RG := Lib.hid (blk_raw (HGB.out.on hB'))
    have RZ := Lib.hid (blk_raw hb)
    have lF := (HFB.out.on hB').lt
    have lG := (HGB.out.on hB').lt
    have lZ := hb.lt
    have mF := HW7.out.1.on hB'
    have eF := HW7.out.2.1.on hB'
    have mG := HW7.out.2.2.1.on hB'
    have eG := HW7.out.2.2.2.on hB'
    have mZ := hm.on hB'
    have eZ := he.on hB'
    have hzl := And.intro hl1 hl2
    have H1 : Hid (∀ w', Below wc.heap.size wc w' → Calls Tryd.prog 13 #[.agg (frC f (.slice g1 f.ms.length d1) (.slice g2 f.es.length d2)), .agg (frC f (.slice g1 f.ms.length d1) (.slice g2 f.es.length d2))] w' (SameP (f = f) w')) := Lib.hid (fun w' h => Same_any f f _ _ _ _ w' (by omega) (by omega) (by omega) (by omega) (mF.on h) (mF.on h) (eF.on h) (eF.on h))
    have H2 : Hid (∀ w', Below wc.heap.size wc w' → Calls Tryd.prog 13 #[.agg (frC z sz tz), .agg (frC f (.slice g1 f.ms.length d1) (.slice g2 f.es.length d2))] w' (SameP (z = f) w')) := Lib.hid (fun w' h => Same_any z f _ _ _ _ w' (by omega) (by omega) (by omega) (by omega) (mZ.on h) (mF.on h) (eZ.on h) (eF.on h))
    have H3 : Hid (∀ w', Below wc.heap.size wc w' → Calls Tryd.prog 13 #[.agg (frC f (.slice g1 f.ms.length d1) (.slice g2 f.es.length d2)), .agg (frC g (.slice g5 g.ms.length d5) (.slice g6 g.es.length d6))] w' (SameP (f = g) w')) := Lib.hid (fun w' h => Same_any f g _ _ _ _ w' (by omega) (by omega) (by omega) (by omega) (mF.on h) (mG.on h) (eF.on h) (eG.on h))
    have H4 : Hid (∀ w', Below wc.heap.size wc w' → Calls Tryd.prog 13 #[.agg (frC g (.slice g5 g.ms.length d5) (.slice g6 g.es.length d6)), .agg (frC f (.slice g1 f.ms.length d1) (.slice g2 f.es.length d2))] w' (SameP (g = f) w')) := Lib.hid (fun w' h => Same_any g f _ _ _ _ w' (by omega) (by omega) (by omega) (by omega) (mG.on h) (mF.on h) (eG.on h) (eF.on h))
    have HBC := Lib.hid (HBW.out.trans (hB'.mono HBW.out.size))
    have HZF := Lib.hid hzf
    clear hm he hb hB hB' mF eF mG eG mZ eZ hzf HW7 HFB HGB HBZ HF8 HG8 HZ8 HZ8x hl1 hl2 hzl
    cases d
    case false =>
      go_upto_region 25 with fail
      have hS0 : Below wc.heap.size wc wc.drew := by go_grown
      refine WalkS.begin (fun w' => Below wc.heap.size wc w') [] (by kernel_rfl) hS0 ?_
      simp only [List.size_toArray, List.length_cons, List.length_nil, Nat.zero_add, Nat.reduceAdd, show Array.replicate 21 false = #[false, false, false, false, false, false, false, false, false, false, false, false, false, false, false, false, false, false, false, false, false] from rfl]
      refine WalkS.take 0 _ (v := .agg (frC f (.slice g1 f.ms.length d1) (.slice g2 f.es.length d2))) rfl (by kernel_rfl) (by kernel_rfl) (by kernel_rfl) (by kernel_rfl) (by kernel_rfl) (fun _ _ _ h => h) (Or.inl ⟨by rfl, fun w9 h9 => loadRow_run rfl 47 (.tmp 7) rfl F rfl 47 (frC f (.slice g1 f.ms.length d1) (.slice g2 f.es.length d2)) (0, 0) _ ((h9.block F lF).trans RF.out) Tryd.underlying47 rfl (by kernel_rfl)⟩) ?_
      simp only [Act.put, List.setIfInBounds_toArray, List.set_cons_zero, List.set_cons_succ]
      refine WalkS.take 1 _ (v := .agg (frC f (.slice g1 f.ms.length d1) (.slice g2 f.es.length d2))) rfl (by kernel_rfl) (by kernel_rfl) (by kernel_rfl) (by kernel_rfl) (by kernel_rfl) (fun _ _ _ h => h) (Or.inl ⟨by rfl, fun w9 h9 => loadRow_run rfl 47 (.tmp 7) rfl F rfl 47 (frC f (.slice g1 f.ms.length d1) (.slice g2 f.es.length d2)) (0, 0) _ ((h9.block F lF).trans RF.out) Tryd.underlying47 rfl (by kernel_rfl)⟩) ?_
      simp only [Act.put, List.setIfInBounds_toArray, List.set_cons_zero, List.set_cons_succ]
      refine WalkS.each [2] (by kernel_rfl) rfl ?_
      refine EachS.cons 2 _ rfl (fun K hK => ?s1) EachS.nil
      go_simp
      refine (H1.out _ hS0).mono ?_
      rintro e w11 ⟨r1, rfl, hr1, hBr1⟩
      obtain rfl : r1 = true := hr1.2 rfl
      clear hr1
      have hSr1 := m_below_on hS0 hBr1
      refine hK.out _ _ (fun _ => hSr1) ?_
      clear hK K hBr1
      simp only [Act.put, List.setIfInBounds_toArray, List.set_cons_zero, List.set_cons_succ]
      refine' WalkS.take0 3 _ (v := _) rfl (by kernel_rfl) (by kernel_rfl) (by kernel_rfl) (by kernel_rfl) (fun _ _ _ h => h) (Or.inl ⟨by rfl, ?hy2⟩) ?rest2
      case hy2 => (intro w9; go_simp <;> with_reducible rfl)
      simp only [Act.put, List.setIfInBounds_toArray, List.set_cons_zero, List.set_cons_succ]
      refine WalkS.take 4 _ (v := .agg (frC z sz tz)) rfl (by kernel_rfl) (by kernel_rfl) (by kernel_rfl) (by kernel_rfl) (by kernel_rfl) (fun _ _ _ h => h) (Or.inl ⟨by rfl, fun w9 h9 => loadRow_run rfl 47 (.tmp 11) rfl Z rfl 47 (frC z sz tz) (0, 0) _ ((h9.block Z lZ).trans RZ.out) Tryd.underlying47 rfl (by kernel_rfl)⟩) ?_
      simp only [Act.put, List.setIfInBounds_toArray, List.set_cons_zero, List.set_cons_succ]
      refine WalkS.take 5 _ (v := .agg (frC f (.slice g1 f.ms.length d1) (.slice g2 f.es.length d2))) rfl (by kernel_rfl) (by kernel_rfl) (by kernel_rfl) (by kernel_rfl) (by kernel_rfl) (fun _ _ _ h => h) (Or.inl ⟨by rfl, fun w9 h9 => loadRow_run rfl 47 (.tmp 7) rfl F rfl 47 (frC f (.slice g1 f.ms.length d1) (.slice g2 f.es.length d2)) (0, 0) _ ((h9.block F lF).trans RF.out) Tryd.underlying47 rfl (by kernel_rfl)⟩) ?_
      simp only [Act.put, List.setIfInBounds_toArray, List.set_cons_zero, List.set_cons_succ]
      refine' WalkS.take0 7 _ (v := _) rfl (by kernel_rfl) (by kernel_rfl) (by kernel_rfl) (by kernel_rfl) (fun _ _ _ h => h) (Or.inl ⟨by rfl, ?hy3⟩) ?rest3
      case hy3 => (intro w9; go_simp <;> with_reducible rfl)
      simp only [Act.put, List.setIfInBounds_toArray, List.set_cons_zero, List.set_cons_succ]
      refine' WalkS.take0 8 _ (v := _) rfl (by kernel_rfl) (by kernel_rfl) (by kernel_rfl) (by kernel_rfl) (fun _ _ _ h => h) (Or.inl ⟨by rfl, ?hy4⟩) ?rest4
      case hy4 => (intro w9; go_simp <;> with_reducible rfl)
      simp only [Act.put, List.setIfInBounds_toArray, List.set_cons_zero, List.set_cons_succ]
      refine WalkS.each [6] (by kernel_rfl) rfl ?_
      refine EachS.cons 6 _ rfl (fun K hK => ?s5) EachS.nil
      go_simp
      refine (H2.out _ hSr1).mono ?_
      rintro e w12 ⟨r2, rfl, hr2, hBr2⟩
      obtain rfl : r2 = true := by exact hr2.2 (HZF.out.2 rfl)
      clear hr2
      have hSr2 := m_below_on hSr1 hBr2
      refine hK.out _ _ (fun _ => hSr2) ?_
      clear hK K hBr2
      simp only [Act.put, List.setIfInBounds_toArray, List.set_cons_zero, List.set_cons_succ]
      refine' WalkS.take0 9 _ (v := _) rfl (by kernel_rfl) (by kernel_rfl) (by kernel_rfl) (by kernel_rfl) (fun _ _ _ h => h) (Or.inl ⟨by rfl, ?hy6⟩) ?rest6
      case hy6 => (intro w9; go_simp <;> with_reducible rfl)
      simp only [Act.put, List.setIfInBounds_toArray, List.set_cons_zero, List.set_cons_succ]
      refine' WalkS.take0 10 _ (v := _) rfl (by kernel_rfl) (by kernel_rfl) (by kernel_rfl) (by kernel_rfl) (fun _ _ _ h => h) (Or.inl ⟨by rfl, ?hy7⟩) ?rest7
      case hy7 => (intro w9; go_simp <;> with_reducible rfl)
      simp only [Act.put, List.setIfInBounds_toArray, List.set_cons_zero, List.set_cons_succ]
      refine' WalkS.take0 11 _ (v := _) rfl (by kernel_rfl) (by kernel_rfl) (by kernel_rfl) (by kernel_rfl) (fun _ _ _ h => h) (Or.inl ⟨by rfl, ?hy8⟩) ?rest8
      case hy8 => (intro w9; go_simp <;> with_reducible rfl)
      simp only [Act.put, List.setIfInBounds_toArray, List.set_cons_zero, List.set_cons_succ]
      refine WalkS.take 12 _ (v := .agg (frC f (.slice g1 f.ms.length d1) (.slice g2 f.es.length d2))) rfl (by kernel_rfl) (by kernel_rfl) (by kernel_rfl) (by kernel_rfl) (by kernel_rfl) (fun _ _ _ h => h) (Or.inl ⟨by rfl, fun w9 h9 => loadRow_run rfl 47 (.tmp 7) rfl F rfl 47 (frC f (.slice g1 f.ms.length d1) (.slice g2 f.es.length d2)) (0, 0) _ ((h9.block F lF).trans RF.out) Tryd.underlying47 rfl (by kernel_rfl)⟩) ?_
      simp only [Act.put, List.setIfInBounds_toArray, List.set_cons_zero, List.set_cons_succ]
      refine WalkS.take 13 _ (v := .agg (frC g (.slice g5 g.ms.length d5) (.slice g6 g.es.length d6))) rfl (by kernel_rfl) (by kernel_rfl) (by kernel_rfl) (by kernel_rfl) (by kernel_rfl) (fun _ _ _ h => h) (Or.inl ⟨by rfl, fun w9 h9 => loadRow_run rfl 47 (.tmp 9) rfl G rfl 47 (frC g (.slice g5 g.ms.length d5) (.slice g6 g.es.length d6)) (0, 0) _ ((h9.block G lG).trans RG.out) Tryd.underlying47 rfl (by kernel_rfl)⟩) ?_
      simp only [Act.put, List.setIfInBounds_toArray, List.set_cons_zero, List.set_cons_succ]
      refine WalkS.take 15 _ (v := .agg (frC g (.slice g5 g.ms.length d5) (.slice g6 g.es.length d6))) rfl (by kernel_rfl) (by kernel_rfl) (by kernel_rfl) (by kernel_rfl) (by kernel_rfl) (fun _ _ _ h => h) (Or.inl ⟨by rfl, fun w9 h9 => loadRow_run rfl 47 (.tmp 9) rfl G rfl 47 (frC g (.slice g5 g.ms.length d5) (.slice g6 g.es.length d6)) (0, 0) _ ((h9.block G lG).trans RG.out) Tryd.underlying47 rfl (by kernel_rfl)⟩) ?_
      simp only [Act.put, List.setIfInBounds_toArray, List.set_cons_zero, List.set_cons_succ]
      refine WalkS.take 16 _ (v := .agg (frC f (.slice g1 f.ms.length d1) (.slice g2 f.es.length d2))) rfl (by kernel_rfl) (by kernel_rfl) (by kernel_rfl) (by kernel_rfl) (by kernel_rfl) (fun _ _ _ h => h) (Or.inl ⟨by rfl, fun w9 h9 => loadRow_run rfl 47 (.tmp 7) rfl F rfl 47 (frC f (.slice g1 f.ms.length d1) (.slice g2 f.es.length d2)) (0, 0) _ ((h9.block F lF).trans RF.out) Tryd.underlying47 rfl (by kernel_rfl)⟩) ?_
      simp only [Act.put, List.setIfInBounds_toArray, List.set_cons_zero, List.set_cons_succ]
      refine WalkS.each [14] (by kernel_rfl) rfl ?_
      refine EachS.cons 14 _ rfl (fun K hK => ?s9) EachS.nil
      go_simp
      refine (H3.out _ hSr2).mono ?_
      rintro e w13 ⟨r3, rfl, hr3, hBr3⟩
      have hSr3 := m_below_on hSr2 hBr3
      refine hK.out _ _ (fun _ => hSr3) ?_
      clear hK K hBr3
      simp only [Act.put, List.setIfInBounds_toArray, List.set_cons_zero, List.set_cons_succ]
      refine WalkS.each [17] (by kernel_rfl) rfl ?_
      refine EachS.cons 17 _ rfl (fun K hK => ?s10) EachS.nil
      go_simp
      refine (H4.out _ hSr3).mono ?_
      rintro e w14 ⟨r4, rfl, hr4, hBr4⟩
      obtain rfl : r4 = r3 := by cases r3 <;> cases r4 <;> first | rfl | exact absurd (hr4.1 rfl).symm (fun h => by cases (hr3.2 h)) | exact absurd (hr3.1 rfl).symm (fun h => by cases (hr4.2 h))
      clear hr3 hr4
      have hSr4 := m_below_on hSr3 hBr4
      refine hK.out _ _ (fun _ => hSr4) ?_
      clear hK K hBr4
      simp only [Act.put, List.setIfInBounds_toArray, List.set_cons_zero, List.set_cons_succ]
      cases r4
      case false =>
        refine' WalkS.take0 18 _ (v := _) rfl (by kernel_rfl) (by kernel_rfl) (by kernel_rfl) (by kernel_rfl) (fun _ _ _ h => h) (Or.inl ⟨by rfl, ?hy11⟩) ?rest11
        case hy11 => (intro w9; go_simp <;> with_reducible rfl)
        simp only [Act.put, List.setIfInBounds_toArray, List.set_cons_zero, List.set_cons_succ]
        refine' WalkS.take0 19 _ (v := _) rfl (by kernel_rfl) (by kernel_rfl) (by kernel_rfl) (by kernel_rfl) (fun _ _ _ h => h) (Or.inl ⟨by rfl, ?hy12⟩) ?rest12
        case hy12 => (intro w9; go_simp <;> with_reducible rfl)
        simp only [Act.put, List.setIfInBounds_toArray, List.set_cons_zero, List.set_cons_succ]
        refine' WalkS.take0 20 _ (v := _) rfl (by kernel_rfl) (by kernel_rfl) (by kernel_rfl) (by kernel_rfl) (fun _ _ _ h => h) (Or.inl ⟨by rfl, ?hy13⟩) ?rest13
        case hy13 => (intro w9; go_simp <;> with_reducible rfl)
        simp only [Act.put, List.setIfInBounds_toArray, List.set_cons_zero, List.set_cons_succ]
        refine WalkS.done (by kernel_rfl) ?_
        go_wp2_with fail
        go_ret
        exact ⟨rfl, HBC.out.trans (hSr4.mono HBC.out.size)⟩
      case true =>
        refine' WalkS.take0 18 _ (v := _) rfl (by kernel_rfl) (by kernel_rfl) (by kernel_rfl) (by kernel_rfl) (fun _ _ _ h => h) (Or.inl ⟨by rfl, ?hy14⟩) ?rest14
        case hy14 => (intro w9; go_simp <;> with_reducible rfl)
        simp only [Act.put, List.setIfInBounds_toArray, List.set_cons_zero, List.set_cons_succ]
        refine' WalkS.take0 19 _ (v := _) rfl (by kernel_rfl) (by kernel_rfl) (by kernel_rfl) (by kernel_rfl) (fun _ _ _ h => h) (Or.inl ⟨by rfl, ?hy15⟩) ?rest15
        case hy15 => (intro w9; go_simp <;> with_reducible rfl)
        simp only [Act.put, List.setIfInBounds_toArray, List.set_cons_zero, List.set_cons_succ]
        refine' WalkS.take0 20 _ (v := _) rfl (by kernel_rfl) (by kernel_rfl) (by kernel_rfl) (by kernel_rfl) (fun _ _ _ h => h) (Or.inl ⟨by rfl, ?hy16⟩) ?rest16
        case hy16 => (intro w9; go_simp <;> with_reducible rfl)
        simp only [Act.put, List.setIfInBounds_toArray, List.set_cons_zero, List.set_cons_succ]
        refine WalkS.done (by kernel_rfl) ?_
        go_wp2_with fail
        go_ret
        exact ⟨rfl, HBC.out.trans (hSr4.mono HBC.out.size)⟩
    case true =>
      go_upto_region 25 with fail
      have hS0 : Below wc.heap.size wc wc.drew := by go_grown
      refine WalkS.begin (fun w' => Below wc.heap.size wc w') [] (by kernel_rfl) hS0 ?_
      simp only [List.size_toArray, List.length_cons, List.length_nil, Nat.zero_add, Nat.reduceAdd, show Array.replicate 21 false = #[false, false, false, false, false, false, false, false, false, false, false, false, false, false, false, false, false, false, false, false, false] from rfl]
      refine WalkS.take 0 _ (v := .agg (frC f (.slice g1 f.ms.length d1) (.slice g2 f.es.length d2))) rfl (by kernel_rfl) (by kernel_rfl) (by kernel_rfl) (by kernel_rfl) (by kernel_rfl) (fun _ _ _ h => h) (Or.inl ⟨by rfl, fun w9 h9 => loadRow_run rfl 47 (.tmp 7) rfl F rfl 47 (frC f (.slice g1 f.ms.length d1) (.slice g2 f.es.length d2)) (0, 0) _ ((h9.block F lF).trans RF.out) Tryd.underlying47 rfl (by kernel_rfl)⟩) ?_
      simp only [Act.put, List.setIfInBounds_toArray, List.set_cons_zero, List.set_cons_succ]
      refine WalkS.take 1 _ (v := .agg (frC f (.slice g1 f.ms.length d1) (.slice g2 f.es.length d2))) rfl (by kernel_rfl) (by kernel_rfl) (by kernel_rfl) (by kernel_rfl) (by kernel_rfl) (fun _ _ _ h => h) (Or.inl ⟨by rfl, fun w9 h9 => loadRow_run rfl 47 (.tmp 7) rfl F rfl 47 (frC f (.slice g1 f.ms.length d1) (.slice g2 f.es.length d2)) (0, 0) _ ((h9.block F lF).trans RF.out) Tryd.underlying47 rfl (by kernel_rfl)⟩) ?_
      simp only [Act.put, List.setIfInBounds_toArray, List.set_cons_zero, List.set_cons_succ]
      refine WalkS.each [2] (by kernel_rfl) rfl ?_
      refine EachS.cons 2 _ rfl (fun K hK => ?s17) EachS.nil
      go_simp
      refine (H1.out _ hS0).mono ?_
      rintro e w11 ⟨r1, rfl, hr1, hBr1⟩
      obtain rfl : r1 = true := hr1.2 rfl
      clear hr1
      have hSr1 := m_below_on hS0 hBr1
      refine hK.out _ _ (fun _ => hSr1) ?_
      clear hK K hBr1
      simp only [Act.put, List.setIfInBounds_toArray, List.set_cons_zero, List.set_cons_succ]
      refine' WalkS.take0 3 _ (v := _) rfl (by kernel_rfl) (by kernel_rfl) (by kernel_rfl) (by kernel_rfl) (fun _ _ _ h => h) (Or.inl ⟨by rfl, ?hy18⟩) ?rest18
      case hy18 => (intro w9; go_simp <;> with_reducible rfl)
      simp only [Act.put, List.setIfInBounds_toArray, List.set_cons_zero, List.set_cons_succ]
      refine WalkS.take 4 _ (v := .agg (frC z sz tz)) rfl (by kernel_rfl) (by kernel_rfl) (by kernel_rfl) (by kernel_rfl) (by kernel_rfl) (fun _ _ _ h => h) (Or.inl ⟨by rfl, fun w9 h9 => loadRow_run rfl 47 (.tmp 11) rfl Z rfl 47 (frC z sz tz) (0, 0) _ ((h9.block Z lZ).trans RZ.out) Tryd.underlying47 rfl (by kernel_rfl)⟩) ?_
      simp only [Act.put, List.setIfInBounds_toArray, List.set_cons_zero, List.set_cons_succ]
      refine WalkS.take 5 _ (v := .agg (frC f (.slice g1 f.ms.length d1) (.slice g2 f.es.length d2))) rfl (by kernel_rfl) (by kernel_rfl) (by kernel_rfl) (by kernel_rfl) (by kernel_rfl) (fun _ _ _ h => h) (Or.inl ⟨by rfl, fun w9 h9 => loadRow_run rfl 47 (.tmp 7) rfl F rfl 47 (frC f (.slice g1 f.ms.length d1) (.slice g2 f.es.length d2)) (0, 0) _ ((h9.block F lF).trans RF.out) Tryd.underlying47 rfl (by kernel_rfl)⟩) ?_
      simp only [Act.put, List.setIfInBounds_toArray, List.set_cons_zero, List.set_cons_succ]
      refine' WalkS.take0 7 _ (v := _) rfl (by kernel_rfl) (by kernel_rfl) (by kernel_rfl) (by kernel_rfl) (fun _ _ _ h => h) (Or.inl ⟨by rfl, ?hy19⟩) ?rest19
      case hy19 => (intro w9; go_simp <;> with_reducible rfl)
      simp only [Act.put, List.setIfInBounds_toArray, List.set_cons_zero, List.set_cons_succ]
      refine' WalkS.take0 8 _ (v := _) rfl (by kernel_rfl) (by kernel_rfl) (by kernel_rfl) (by kernel_rfl) (fun _ _ _ h => h) (Or.inl ⟨by rfl, ?hy20⟩) ?rest20
      case hy20 => (intro w9; go_simp <;> with_reducible rfl)
      simp only [Act.put, List.setIfInBounds_toArray, List.set_cons_zero, List.set_cons_succ]
      refine WalkS.each [6] (by kernel_rfl) rfl ?_
      refine EachS.cons 6 _ rfl (fun K hK => ?s21) EachS.nil
      go_simp
      refine (H2.out _ hSr1).mono ?_
      rintro e w12 ⟨r2, rfl, hr2, hBr2⟩
      obtain rfl : r2 = false := by cases r2 with | false => rfl | true => exact absurd (HZF.out.1 (hr2.1 rfl)) (by decide)
      clear hr2
      have hSr2 := m_below_on hSr1 hBr2
      refine hK.out _ _ (fun _ => hSr2) ?_
      clear hK K hBr2
      simp only [Act.put, List.setIfInBounds_toArray, List.set_cons_zero, List.set_cons_succ]
      refine' WalkS.take0 9 _ (v := _) rfl (by kernel_rfl) (by kernel_rfl) (by kernel_rfl) (by kernel_rfl) (fun _ _ _ h => h) (Or.inl ⟨by rfl, ?hy22⟩) ?rest22
      case hy22 => (intro w9; go_simp <;> with_reducible rfl)
      simp only [Act.put, List.setIfInBounds_toArray, List.set_cons_zero, List.set_cons_succ]
      refine' WalkS.take0 10 _ (v := _) rfl (by kernel_rfl) (by kernel_rfl) (by kernel_rfl) (by kernel_rfl) (fun _ _ _ h => h) (Or.inl ⟨by rfl, ?hy23⟩) ?rest23
      case hy23 => (intro w9; go_simp <;> with_reducible rfl)
      simp only [Act.put, List.setIfInBounds_toArray, List.set_cons_zero, List.set_cons_succ]
      refine' WalkS.take0 11 _ (v := _) rfl (by kernel_rfl) (by kernel_rfl) (by kernel_rfl) (by kernel_rfl) (fun _ _ _ h => h) (Or.inl ⟨by rfl, ?hy24⟩) ?rest24
      case hy24 => (intro w9; go_simp <;> with_reducible rfl)
      simp only [Act.put, List.setIfInBounds_toArray, List.set_cons_zero, List.set_cons_succ]
      refine WalkS.take 12 _ (v := .agg (frC f (.slice g1 f.ms.length d1) (.slice g2 f.es.length d2))) rfl (by kernel_rfl) (by kernel_rfl) (by kernel_rfl) (by kernel_rfl) (by kernel_rfl) (fun _ _ _ h => h) (Or.inl ⟨by rfl, fun w9 h9 => loadRow_run rfl 47 (.tmp 7) rfl F rfl 47 (frC f (.slice g1 f.ms.length d1) (.slice g2 f.es.length d2)) (0, 0) _ ((h9.block F lF).trans RF.out) Tryd.underlying47 rfl (by kernel_rfl)⟩) ?_
      simp only [Act.put, List.setIfInBounds_toArray, List.set_cons_zero, List.set_cons_succ]
      refine WalkS.take 13 _ (v := .agg (frC g (.slice g5 g.ms.length d5) (.slice g6 g.es.length d6))) rfl (by kernel_rfl) (by kernel_rfl) (by kernel_rfl) (by kernel_rfl) (by kernel_rfl) (fun _ _ _ h => h) (Or.inl ⟨by rfl, fun w9 h9 => loadRow_run rfl 47 (.tmp 9) rfl G rfl 47 (frC g (.slice g5 g.ms.length d5) (.slice g6 g.es.length d6)) (0, 0) _ ((h9.block G lG).trans RG.out) Tryd.underlying47 rfl (by kernel_rfl)⟩) ?_
      simp only [Act.put, List.setIfInBounds_toArray, List.set_cons_zero, List.set_cons_succ]
      refine WalkS.take 15 _ (v := .agg (frC g (.slice g5 g.ms.length d5) (.slice g6 g.es.length d6))) rfl (by kernel_rfl) (by kernel_rfl) (by kernel_rfl) (by kernel_rfl) (by kernel_rfl) (fun _ _ _ h => h) (Or.inl ⟨by rfl, fun w9 h9 => loadRow_run rfl 47 (.tmp 9) rfl G rfl 47 (frC g (.slice g5 g.ms.length d5) (.slice g6 g.es.length d6)) (0, 0) _ ((h9.block G lG).trans RG.out) Tryd.underlying47 rfl (by kernel_rfl)⟩) ?_
      simp only [Act.put, List.setIfInBounds_toArray, List.set_cons_zero, List.set_cons_succ]
      refine WalkS.take 16 _ (v := .agg (frC f (.slice g1 f.ms.length d1) (.slice g2 f.es.length d2))) rfl (by kernel_rfl) (by kernel_rfl) (by kernel_rfl) (by kernel_rfl) (by kernel_rfl) (fun _ _ _ h => h) (Or.inl ⟨by rfl, fun w9 h9 => loadRow_run rfl 47 (.tmp 7) rfl F rfl 47 (frC f (.slice g1 f.ms.length d1) (.slice g2 f.es.length d2)) (0, 0) _ ((h9.block F lF).trans RF.out) Tryd.underlying47 rfl (by kernel_rfl)⟩) ?_
      simp only [Act.put, List.setIfInBounds_toArray, List.set_cons_zero, List.set_cons_succ]
      refine WalkS.each [14] (by kernel_rfl) rfl ?_
      refine EachS.cons 14 _ rfl (fun K hK => ?s25) EachS.nil
      go_simp
      refine (H3.out _ hSr2).mono ?_
      rintro e w13 ⟨r3, rfl, hr3, hBr3⟩
      have hSr3 := m_below_on hSr2 hBr3
      refine hK.out _ _ (fun _ => hSr3) ?_
      clear hK K hBr3
      simp only [Act.put, List.setIfInBounds_toArray, List.set_cons_zero, List.set_cons_succ]
      refine WalkS.each [17] (by kernel_rfl) rfl ?_
      refine EachS.cons 17 _ rfl (fun K hK => ?s26) EachS.nil
      go_simp
      refine (H4.out _ hSr3).mono ?_
      rintro e w14 ⟨r4, rfl, hr4, hBr4⟩
      obtain rfl : r4 = r3 := by cases r3 <;> cases r4 <;> first | rfl | exact absurd (hr4.1 rfl).symm (fun h => by cases (hr3.2 h)) | exact absurd (hr3.1 rfl).symm (fun h => by cases (hr4.2 h))
      clear hr3 hr4
      have hSr4 := m_below_on hSr3 hBr4
      refine hK.out _ _ (fun _ => hSr4) ?_
      clear hK K hBr4
      simp only [Act.put, List.setIfInBounds_toArray, List.set_cons_zero, List.set_cons_succ]
      cases r4
      case false =>
        refine' WalkS.take0 18 _ (v := _) rfl (by kernel_rfl) (by kernel_rfl) (by kernel_rfl) (by kernel_rfl) (fun _ _ _ h => h) (Or.inl ⟨by rfl, ?hy27⟩) ?rest27
        case hy27 => (intro w9; go_simp <;> with_reducible rfl)
        simp only [Act.put, List.setIfInBounds_toArray, List.set_cons_zero, List.set_cons_succ]
        refine' WalkS.take0 19 _ (v := _) rfl (by kernel_rfl) (by kernel_rfl) (by kernel_rfl) (by kernel_rfl) (fun _ _ _ h => h) (Or.inl ⟨by rfl, ?hy28⟩) ?rest28
        case hy28 => (intro w9; go_simp <;> with_reducible rfl)
        simp only [Act.put, List.setIfInBounds_toArray, List.set_cons_zero, List.set_cons_succ]
        refine' WalkS.take0 20 _ (v := _) rfl (by kernel_rfl) (by kernel_rfl) (by kernel_rfl) (by kernel_rfl) (fun _ _ _ h => h) (Or.inl ⟨by rfl, ?hy29⟩) ?rest29
        case hy29 => (intro w9; go_simp <;> with_reducible rfl)
        simp only [Act.put, List.setIfInBounds_toArray, List.set_cons_zero, List.set_cons_succ]
        refine WalkS.done (by kernel_rfl) ?_
        go_wp2_with fail
        go_ret
        exact ⟨rfl, HBC.out.trans (hSr4.mono HBC.out.size)⟩
      case true =>
        refine' WalkS.take0 18 _ (v := _) rfl (by kernel_rfl) (by kernel_rfl) (by kernel_rfl) (by kernel_rfl) (fun _ _ _ h => h) (Or.inl ⟨by rfl, ?hy30⟩) ?rest30
        case hy30 => (intro w9; go_simp <;> with_reducible rfl)
        simp only [Act.put, List.setIfInBounds_toArray, List.set_cons_zero, List.set_cons_succ]
        refine' WalkS.take0 19 _ (v := _) rfl (by kernel_rfl) (by kernel_rfl) (by kernel_rfl) (by kernel_rfl) (fun _ _ _ h => h) (Or.inl ⟨by rfl, ?hy31⟩) ?rest31
        case hy31 => (intro w9; go_simp <;> with_reducible rfl)
        simp only [Act.put, List.setIfInBounds_toArray, List.set_cons_zero, List.set_cons_succ]
        refine' WalkS.take0 20 _ (v := _) rfl (by kernel_rfl) (by kernel_rfl) (by kernel_rfl) (by kernel_rfl) (fun _ _ _ h => h) (Or.inl ⟨by rfl, ?hy32⟩) ?rest32
        case hy32 => (intro w9; go_simp <;> with_reducible rfl)
        simp only [Act.put, List.setIfInBounds_toArray, List.set_cons_zero, List.set_cons_succ]
        refine WalkS.done (by kernel_rfl) ?_
        go_wp2_with fail
        go_ret
        exact ⟨rfl, HBC.out.trans (hSr4.mono HBC.out.size)⟩
set_option maxHeartbeats 8000000 in
set_option maxRecDepth 20000 in
theorem sames_8 (x y : Fr) (a1 a2 b1 b2 : Option Addr) (n1 n2 k1 k2 i1 i2 j1 j2 : Nat) (q : Nat) (w : World) (henv : FEnv w) (hq : q < 256) (hqm : q % 9 = 8)
    (hn1 : n1 = x.ms.length) (hn2 : n2 = x.es.length) (hm : 0 < n1 → memR.At w (.slice a1 n1 k1) x.ms) (he : 0 < n2 → entR.At w (.slice a2 n2 k2) x.es) (l1 : n1 ≤ maxLen) (l2 : n2 ≤ maxLen)
    (hi1 : i1 = y.ms.length) (hi2 : i2 = y.es.length) (gm : 0 < i1 → memR.At w (.slice b1 i1 j1) y.ms) (ge : 0 < i2 → entR.At w (.slice b2 i2 j2) y.es) (l3 : i1 ≤ maxLen) (l4 : i2 ≤ maxLen) :
    Calls Tryd.prog 5 #[.agg (frC x (.slice a1 n1 k1) (.slice a2 n2 k2)), .agg (frC y (.slice b1 i1 j1) (.slice b2 i2 j2)), .int .u8 q] w (retB true w) := by
  have HN := Lib.hid (And.intro hn1 (And.intro hn2 (And.intro hi1 hi2)))
  have HM := Lib.hid (And.intro hm (And.intro he (And.intro gm ge)))
  obtain ⟨w0, hw0⟩ : ∃ w0, w0 = (w.alloc (.cells (frC x (.slice a1 n1 k1) (.slice a2 n2 k2)) 29)).alloc (.cells (frC y (.slice b1 i1 j1) (.slice b2 i2 j2)) 29) := ⟨_, rfl⟩
  have hB0 : Below w.heap.size w w0 := by rw [hw0]; go_grown
  have hX0 : Blk (w.alloc (.cells (frC x (.slice a1 n1 k1) (.slice a2 n2 k2)) 29)) w.heap.size (frC x (.slice a1 n1 k1) (.slice a2 n2 k2)) 29 := Blk.new rfl
  have HX0 := Lib.hid (show Blk w0 w.heap.size (frC x (.slice a1 n1 k1) (.slice a2 n2 k2)) 29 by rw [hw0]; exact hX0.alloc _)
  have HY0 := Lib.hid (show Blk w0 (w.heap.size + 1) (frC y (.slice b1 i1 j1) (.slice b2 i2 j2)) 29 by rw [hw0]; exact Blk.new (by simp))
  have HB0 := Lib.hid hB0
  have H1 := Lib.hid (speaks_any w0 (henv.on hB0 henv.pos))
  clear henv hm he gm ge hn1 hn2 hi1 hi2 hB0 hX0
  go_enter Tryd.func5, Tryd.ntmps5
  go_upto_region 1 with fail
  rw [← hw0]
  clear hw0
  go_wp2_with fail
  with_reducible refine H1.out.mono ?_
  rintro e w2 ⟨rfl, hB2⟩
  have HX2 := Lib.hid (HX0.out.on hB2)
  have HY2 := Lib.hid (HY0.out.on hB2)
  have HB2 := Lib.hid (m_below_on HB0.out hB2)
  have R2 := Lib.hid (blk_raw HX2.out)
  have H2 := Lib.hid (told_any x a1 a2 n1 n2 k1 k2 w2 HN.out.1 HN.out.2.1 (fun h => (HM.out.1 h).on HB2.out) (fun h => (HM.out.2.1 h).on HB2.out) l1 l2)
  clear H1 hB2 HX0 HY0 HB0
  go_wp2_with (first | (refine wpList_load_row rfl 29 (.tmp 3) rfl w.heap.size rfl 29 (frC x (.slice a1 n1 k1) (.slice a2 n2 k2)) (0, 0) _ R2.out Tryd.underlying29 rfl (by kernel_rfl) ?_))
  with_reducible refine H2.out.mono ?_
  rintro e w4 ⟨s1, t1, s2, t2, rfl, hB4, m1, e1, m2, e2⟩
  obtain ⟨f, hf⟩ : ∃ f, f = toldF x := ⟨_, rfl⟩
  rw [← hf] at m1 e1 m2 e2 ⊢
  have hfl : f.ms.length ≤ 10 ∧ f.es.length ≤ 18 := by rw [hf]; exact ⟨by simp [toldF]; omega, by simp [toldF]; omega⟩
  obtain ⟨g1, d1, rfl⟩ := m1.len
  obtain ⟨g2, d2, rfl⟩ := e1.len
  obtain ⟨g3, d3, rfl⟩ := m2.len
  obtain ⟨g4, d4, rfl⟩ := e2.len
  have HP := Lib.hid (told_put (s2 := .slice g3 f.ms.length d3) (t2 := .slice g4 f.es.length d4) m1 e1)
  have HB4 := Lib.hid (m_below_on HB2.out hB4)
  have HY4 := Lib.hid (HY2.out.on hB4)
  have NF0 : Blk (w4.alloc (.cells z34 47)) w4.heap.size z34 47 := Blk.new rfl
  have NF := Lib.hid (NF0.alloc (.cells z34 52))
  have NR := Lib.hid (show Blk ((w4.alloc (.cells z34 47)).alloc (.cells z34 52)) (w4.heap.size + 1) z34 52 from Blk.new (by simp))
  have O1 := Lib.hid (frC_one f g1 g2 f.ms.length f.es.length d1 d2)
  have O2 := Lib.hid (frC_one f g3 g4 f.ms.length f.es.length d3 d4)
  have hne : w4.heap.size + 1 ≠ w4.heap.size := by omega
  have NR2 := Lib.hid ((setRow_other ((w4.alloc (.cells z34 47)).alloc (.cells z34 52)) w4.heap.size (w4.heap.size + 1) (frC f (.slice g1 f.ms.length d1) (.slice g2 f.es.length d2)) hne).trans (blk_raw NR.out))
  clear H2 hB4 m1 e1 m2 e2 hf NF0 R2 HX2 HY2 HB2
  go_upto_region 4 with (first | (refine wpList_store_row rfl 47 (.tmp 7) (.tmp 18) rfl w4.heap.size (frC f (.slice g1 f.ms.length d1) (.slice g2 f.es.length d2)) rfl rfl 47 z34 (blk_raw NF.out) (by kernel_rfl) rfl O1.out ?_) | (refine wpList_store_row rfl 52 (.tmp 8) (.tmp 19) rfl (w4.heap.size + 1) (frC f (.slice g3 f.ms.length d3) (.slice g4 f.es.length d4)) rfl rfl 52 z34 NR2.out (by kernel_rfl) rfl O2.out ?_))
  obtain ⟨w5, hw5⟩ : ∃ w5, w5 = (((w4.alloc (.cells z34 47)).alloc (.cells z34 52)).setRow w4.heap.size (frC f (.slice g1 f.ms.length d1) (.slice g2 f.es.length d2))).setRow (w4.heap.size + 1) (frC f (.slice g3 f.ms.length d3) (.slice g4 f.es.length d4)) := ⟨_, rfl⟩
  rw [← hw5] at HP ⊢
  obtain ⟨F, hF⟩ : ∃ F, F = w4.heap.size := ⟨_, rfl⟩
  rw [← hF] at HP ⊢
  have HF5 := Lib.hid HP.out.1
  have HB5 := Lib.hid (HB4.out.trans ((show Below w4.heap.size w4 w5 by rw [← hF]; exact HP.out.2).mono HB4.out.size))
  have HY5 := Lib.hid (HY4.out.on (show Below w4.heap.size w4 w5 by rw [← hF]; exact HP.out.2))
  have HFw : w.heap.size + 1 < F := by rw [hF]; exact HY4.out.lt
  have R5 := Lib.hid (blk_raw HY5.out)
  have H3 := Lib.hid (told_any y b1 b2 i1 i2 j1 j2 w5 HN.out.2.2.1 HN.out.2.2.2 (fun h => (HM.out.2.2.1 h).on HB5.out) (fun h => (HM.out.2.2.2 h).on HB5.out) l3 l4)
  clear hw5 hF NF NR NR2 O1 O2 HP HB4 HY4 hne
  generalize F + 1 = F1
  go_wp2_with (first | (refine wpList_load_row rfl 29 (.tmp 4) rfl (w.heap.size + 1) rfl 29 (frC y (.slice b1 i1 j1) (.slice b2 i2 j2)) (0, 0) _ R5.out Tryd.underlying29 rfl (by kernel_rfl) ?_))
  with_reducible refine H3.out.mono ?_
  rintro e w6 ⟨s5, t5, s6, t6, rfl, hB6, m1, e1, m2, e2⟩
  obtain ⟨g, hg⟩ : ∃ g, g = toldF y := ⟨_, rfl⟩
  rw [← hg] at m1 e1 m2 e2 ⊢
  have hgl : g.ms.length ≤ 10 ∧ g.es.length ≤ 18 := by rw [hg]; exact ⟨by simp [toldF]; omega, by simp [toldF]; omega⟩
  obtain ⟨g5, d5, rfl⟩ := m1.len
  obtain ⟨g6, d6, rfl⟩ := e1.len
  obtain ⟨g7, d7, rfl⟩ := m2.len
  obtain ⟨g8, d8, rfl⟩ := e2.len
  have HP := Lib.hid (told_put (s2 := .slice g7 g.ms.length d7) (t2 := .slice g8 g.es.length d8) m1 e1)
  have HB6 := Lib.hid (m_below_on HB5.out hB6)
  have HF6 := Lib.hid (HF5.out.on hB6)
  have NF0 : Blk (w6.alloc (.cells z34 47)) w6.heap.size z34 47 := Blk.new rfl
  have NF := Lib.hid (NF0.alloc (.cells z34 52))
  have NR := Lib.hid (show Blk ((w6.alloc (.cells z34 47)).alloc (.cells z34 52)) (w6.heap.size + 1) z34 52 from Blk.new (by simp))
  have O1 := Lib.hid (frC_one g g5 g6 g.ms.length g.es.length d5 d6)
  have O2 := Lib.hid (frC_one g g7 g8 g.ms.length g.es.length d7 d8)
  have hne : w6.heap.size + 1 ≠ w6.heap.size := by omega
  have NR2 := Lib.hid ((setRow_other ((w6.alloc (.cells z34 47)).alloc (.cells z34 52)) w6.heap.size (w6.heap.size + 1) (frC g (.slice g5 g.ms.length d5) (.slice g6 g.es.length d6)) hne).trans (blk_raw NR.out))
  clear H3 hB6 m1 e1 m2 e2 hg NF0 R5 HF5 HY5 HB5
  go_upto_region 5 with (first | (refine wpList_store_row rfl 47 (.tmp 9) (.tmp 23) rfl w6.heap.size (frC g (.slice g5 g.ms.length d5) (.slice g6 g.es.length d6)) rfl rfl 47 z34 (blk_raw NF.out) (by kernel_rfl) rfl O1.out ?_) | (refine wpList_store_row rfl 52 (.tmp 10) (.tmp 24) rfl (w6.heap.size + 1) (frC g (.slice g7 g.ms.length d7) (.slice g8 g.es.length d8)) rfl rfl 52 z34 NR2.out (by kernel_rfl) rfl O2.out ?_))
  obtain ⟨w7, hw7⟩ : ∃ w7, w7 = (((w6.alloc (.cells z34 47)).alloc (.cells z34 52)).setRow w6.heap.size (frC g (.slice g5 g.ms.length d5) (.slice g6 g.es.length d6))).setRow (w6.heap.size + 1) (frC g (.slice g7 g.ms.length d7) (.slice g8 g.es.length d8)) := ⟨_, rfl⟩
  rw [← hw7] at HP ⊢
  obtain ⟨G, hG⟩ : ∃ G, G = w6.heap.size := ⟨_, rfl⟩
  rw [← hG] at HP ⊢
  have HG7 := Lib.hid HP.out.1
  have HB7 := Lib.hid (HB6.out.trans ((show Below w6.heap.size w6 w7 by rw [← hG]; exact HP.out.2).mono HB6.out.size))
  have HF7 := Lib.hid (HF6.out.on (show Below w6.heap.size w6 w7 by rw [← hG]; exact HP.out.2))
  have HFG : F < G := by rw [hG]; exact HF6.out.b.lt
  clear hw7 hG NF NR NR2 O1 O2 HP HB6 HF6 hne
  generalize G + 1 = G1
  have R7 := Lib.hid (blk_raw HF7.out.b)
  have NZ := Lib.hid (Blk.new (w := w7) (B := w7.heap.size) (T := 47) (cs := z34) rfl)
  have OZ := Lib.hid (frC_one f g1 g2 f.ms.length f.es.length d1 d2)
  go_upto_region 7 with (first | (refine wpList_load_row rfl 47 (.tmp 7) rfl F rfl 47 (frC f (.slice g1 f.ms.length d1) (.slice g2 f.es.length d2)) (0, 0) _ R7.out Tryd.underlying47 rfl (by kernel_rfl) ?_) | (refine wpList_store_row rfl 47 (.tmp 11) (.tmp 25) rfl w7.heap.size (frC f (.slice g1 f.ms.length d1) (.slice g2 f.es.length d2)) rfl rfl 47 z34 (blk_raw NZ.out) (by kernel_rfl) rfl OZ.out ?_))
  obtain ⟨w8, hw8⟩ : ∃ w8, w8 = (w7.alloc (.cells z34 47)).setRow w7.heap.size (frC f (.slice g1 f.ms.length d1) (.slice g2 f.es.length d2)) := ⟨_, rfl⟩
  have hB8 : Below w7.heap.size w7 w8 := by rw [hw8]; exact below_sr (by go_grown) (Nat.le_refl _) _
  have HZ8 := Lib.hid (show FrB w8 w7.heap.size f (.slice g1 f.ms.length d1) (.slice g2 f.es.length d2) from ⟨by rw [hw8]; exact setRow_blk _ NZ.out, HF7.out.m.on hB8, HF7.out.e.on hB8⟩)
  rw [← hw8]
  obtain ⟨Z, hZ⟩ : ∃ Z, Z = w7.heap.size := ⟨_, rfl⟩
  rw [← hZ] at HZ8 ⊢
  have HZ8x := HZ8
  have HF8 := Lib.hid (HF7.out.on hB8)
  have HG8 := Lib.hid (HG7.out.on hB8)
  have HB8 := Lib.hid (m_below_on HB7.out hB8)
  have HGZ : G < Z := by rw [hZ]; exact HG7.out.b.lt
  have HZE := Lib.hid hZ
  have HBZ := Lib.hid (show Below Z w7 w8 by rw [hZ]; exact hB8)
  have HW7 := Lib.hid (And.intro HF7.out.m (And.intro HF7.out.e (And.intro HG7.out.m HG7.out.e)))
  have HFB := Lib.hid HF7.out.b
  have HGB := Lib.hid HG7.out.b
  have HBW := Lib.hid HB7.out
  clear hw8 hZ hB8 R7 NZ OZ HF7 HG7 HB7 HZ8
  have HZ8 := Lib.hid HZ8x.out.b
  have htm : (q : Int) % 9 = 8 := by omega
  go_upto_block 0 with fail
  rw [htm]
  clear htm hqm
  go_cut [12] from 147 (fun u wx => SamesCut f w7 Z u wx)
  case first =>
    rename_i JJ KK hJJ hKK
    have HJ := Lib.hid hJJ
    clear hJJ
    have nFZ : F ≠ Z := by omega
    have nGZ : G ≠ Z := by omega
    have lF := HF8.out.b.lt
    have lG := HG8.out.b.lt
    have lZ := HZ8.out.lt
    rcases Decidable.em (f.slot = g.slot) with e0 | ne0
    case inr =>
      have cF0 : w8.cell? ⟨F, 17, none⟩ = some (.int .u32 f.slot) := HF8.out.b.cell 17
      have cF1 : w8.cell? ⟨F, 14, none⟩ = some (.int .u32 f.req) := HF8.out.b.cell 14
      have cG0 : w8.cell? ⟨G, 17, none⟩ = some (.int .u32 g.slot) := HG8.out.b.cell 17
      have cG1 : w8.cell? ⟨G, 14, none⟩ = some (.int .u32 g.req) := HG8.out.b.cell 14
      have hzb : ((f.slot : Int) != (g.slot : Int)) = true := by rw [bne_iff_ne]; omega
      go_upto_region 8 with fail
      refine WalkS.begin (fun w' => w'.cell? ⟨F, 17, none⟩ = some (.int .u32 f.slot) ∧ w'.cell? ⟨F, 14, none⟩ = some (.int .u32 f.req) ∧ w'.cell? ⟨G, 17, none⟩ = some (.int .u32 g.slot) ∧ w'.cell? ⟨G, 14, none⟩ = some (.int .u32 g.req)) [] (by kernel_rfl) ⟨cF0, cF1, cG0, cG1⟩ ?_
      simp only [List.size_toArray, List.length_cons, List.length_nil, Nat.zero_add, Nat.reduceAdd, show Array.replicate 21 false = #[false, false, false, false, false, false, false, false, false, false, false, false, false, false, false, false, false, false, false, false, false] from rfl]
      refine' WalkS.take0 0 _ (v := _) rfl (by kernel_rfl) (by kernel_rfl) (by kernel_rfl) (by kernel_rfl) (fun _ _ _ h => h) (Or.inl ⟨by rfl, ?c0hy1⟩) ?c0rest1
      case c0hy1 => (intro w9; go_simp <;> with_reducible rfl)
      simp only [Act.put, List.setIfInBounds_toArray, List.set_cons_zero, List.set_cons_succ]
      refine' WalkS.take 1 _ (v := _) rfl (by kernel_rfl) (by kernel_rfl) (by kernel_rfl) (by kernel_rfl) (by kernel_rfl) (fun _ _ _ h => h) (Or.inl ⟨by rfl, ?c0hy2⟩) ?c0rest2
      case c0hy2 => (intro w9 h9; obtain ⟨s0, s1, s2, s3⟩ := h9; go_simp <;> with_reducible rfl)
      simp only [Act.put, List.setIfInBounds_toArray, List.set_cons_zero, List.set_cons_succ]
      refine' WalkS.take0 2 _ (v := _) rfl (by kernel_rfl) (by kernel_rfl) (by kernel_rfl) (by kernel_rfl) (fun _ _ _ h => h) (Or.inl ⟨by rfl, ?c0hy3⟩) ?c0rest3
      case c0hy3 => (intro w9; go_simp <;> with_reducible rfl)
      simp only [Act.put, List.setIfInBounds_toArray, List.set_cons_zero, List.set_cons_succ]
      refine' WalkS.take 3 _ (v := _) rfl (by kernel_rfl) (by kernel_rfl) (by kernel_rfl) (by kernel_rfl) (by kernel_rfl) (fun _ _ _ h => h) (Or.inl ⟨by rfl, ?c0hy4⟩) ?c0rest4
      case c0hy4 => (intro w9 h9; obtain ⟨s0, s1, s2, s3⟩ := h9; go_simp <;> with_reducible rfl)
      simp only [Act.put, List.setIfInBounds_toArray, List.set_cons_zero, List.set_cons_succ]
      refine' WalkS.take0 4 _ (v := _) rfl (by kernel_rfl) (by kernel_rfl) (by kernel_rfl) (by kernel_rfl) (fun _ _ _ h => h) (Or.inl ⟨by rfl, ?c0hy5⟩) ?c0rest5
      case c0hy5 => (intro w9; go_simp <;> with_reducible rfl)
      simp only [Act.put, List.setIfInBounds_toArray, List.set_cons_zero, List.set_cons_succ]
      refine' WalkS.take 5 _ (v := _) rfl (by kernel_rfl) (by kernel_rfl) (by kernel_rfl) (by kernel_rfl) (by kernel_rfl) (fun _ _ _ h => h) (Or.inl ⟨by rfl, ?c0hy6⟩) ?c0rest6
      case c0hy6 => (intro w9 h9; obtain ⟨s0, s1, s2, s3⟩ := h9; go_simp <;> with_reducible rfl)
      simp only [Act.put, List.setIfInBounds_toArray, List.set_cons_zero, List.set_cons_succ]
      refine' WalkS.take0 6 _ (v := _) rfl (by kernel_rfl) (by kernel_rfl) (by kernel_rfl) (by kernel_rfl) (fun _ _ _ h => h) (Or.inl ⟨by rfl, ?c0hy7⟩) ?c0rest7
      case c0hy7 => (intro w9; go_simp <;> with_reducible rfl)
      simp only [Act.put, List.setIfInBounds_toArray, List.set_cons_zero, List.set_cons_succ]
      refine' WalkS.take 7 _ (v := _) rfl (by kernel_rfl) (by kernel_rfl) (by kernel_rfl) (by kernel_rfl) (by kernel_rfl) (fun _ _ _ h => h) (Or.inl ⟨by rfl, ?c0hy8⟩) ?c0rest8
      case c0hy8 => (intro w9 h9; obtain ⟨s0, s1, s2, s3⟩ := h9; go_simp <;> with_reducible rfl)
      simp only [Act.put, List.setIfInBounds_toArray, List.set_cons_zero, List.set_cons_succ]
      refine WalkS.take0 8 _ (v := .bool true) rfl (by kernel_rfl) (by kernel_rfl) (by kernel_rfl) (by kernel_rfl) (fun _ _ _ h => h) (Or.inl ⟨by rfl, fun w9 => by go_simp <;> first | exact hzb | (rw [hzb]; rfl) | (simp only [hzb]; done)⟩) ?_
      simp only [Act.put, List.setIfInBounds_toArray, List.set_cons_zero, List.set_cons_succ]
      refine' WalkS.take0 9 _ (v := _) rfl (by kernel_rfl) (by kernel_rfl) (by kernel_rfl) (by kernel_rfl) (fun _ _ _ h => h) (Or.inl ⟨by rfl, ?c0hy9⟩) ?c0rest9
      case c0hy9 => (intro w9; go_simp <;> with_reducible rfl)
      simp only [Act.put, List.setIfInBounds_toArray, List.set_cons_zero, List.set_cons_succ]
      refine WalkS.take0 10 _ (v := undef) rfl (by kernel_rfl) (by kernel_rfl) (by kernel_rfl) (by kernel_rfl) (fun _ _ _ h => h) (Or.inr ⟨by rfl, rfl⟩) ?_
      simp only [Act.put, List.setIfInBounds_toArray, List.set_cons_zero, List.set_cons_succ]
      refine WalkS.take0 11 _ (v := undef) rfl (by kernel_rfl) (by kernel_rfl) (by kernel_rfl) (by kernel_rfl) (fun _ _ _ h => h) (Or.inr ⟨by rfl, rfl⟩) ?_
      simp only [Act.put, List.setIfInBounds_toArray, List.set_cons_zero, List.set_cons_succ]
      refine WalkS.take0 12 _ (v := undef) rfl (by kernel_rfl) (by kernel_rfl) (by kernel_rfl) (by kernel_rfl) (fun _ _ _ h => h) (Or.inr ⟨by rfl, rfl⟩) ?_
      simp only [Act.put, List.setIfInBounds_toArray, List.set_cons_zero, List.set_cons_succ]
      refine WalkS.take0 13 _ (v := undef) rfl (by kernel_rfl) (by kernel_rfl) (by kernel_rfl) (by kernel_rfl) (fun _ _ _ h => h) (Or.inr ⟨by rfl, rfl⟩) ?_
      simp only [Act.put, List.setIfInBounds_toArray, List.set_cons_zero, List.set_cons_succ]
      refine WalkS.take0 14 _ (v := undef) rfl (by kernel_rfl) (by kernel_rfl) (by kernel_rfl) (by kernel_rfl) (fun _ _ _ h => h) (Or.inr ⟨by rfl, rfl⟩) ?_
      simp only [Act.put, List.setIfInBounds_toArray, List.set_cons_zero, List.set_cons_succ]
      refine' WalkS.take0 15 _ (v := _) rfl (by kernel_rfl) (by kernel_rfl) (by kernel_rfl) (by kernel_rfl) (fun _ _ _ h => h) (Or.inl ⟨by rfl, ?c0hy10⟩) ?c0rest10
      case c0hy10 => (intro w9; go_simp <;> with_reducible rfl)
      simp only [Act.put, List.setIfInBounds_toArray, List.set_cons_zero, List.set_cons_succ]
      refine' WalkS.take0 16 _ (v := _) rfl (by kernel_rfl) (by kernel_rfl) (by kernel_rfl) (by kernel_rfl) (fun _ _ _ h => h) (Or.inl ⟨by rfl, ?c0hy11⟩) ?c0rest11
      case c0hy11 => (intro w9; go_simp <;> with_reducible rfl)
      simp only [Act.put, List.setIfInBounds_toArray, List.set_cons_zero, List.set_cons_succ]
      have hz0 : w8.drew.cell? ⟨Z, 17, none⟩ = some (.int .u32 f.slot) := HZ8.out.cell 17
      have hy0 : w8.drew.frozen? ⟨Z, 17, none⟩ = false := HZ8.out.frozen 17
      refine WalkS.each [17] (by kernel_rfl) rfl ?_
      refine EachS.cons 17 _ rfl (fun K hK => ?c0sw) EachS.nil
      go_simp
      have hS1 := And.intro ((World.cell?_setCell_far w8.drew ⟨Z, 17, none⟩ ⟨F, 17, none⟩ (.int .u32 g.slot) nFZ.symm).trans cF0) (And.intro ((World.cell?_setCell_far w8.drew ⟨Z, 17, none⟩ ⟨F, 14, none⟩ (.int .u32 g.slot) nFZ.symm).trans cF1) (And.intro ((World.cell?_setCell_far w8.drew ⟨Z, 17, none⟩ ⟨G, 17, none⟩ (.int .u32 g.slot) nGZ.symm).trans cG0) ((World.cell?_setCell_far w8.drew ⟨Z, 17, none⟩ ⟨G, 14, none⟩ (.int .u32 g.slot) nGZ.symm).trans cG1)))
      refine hK.out _ _ (fun _ => hS1) ?_
      clear hK K
      simp only [Act.put, List.setIfInBounds_toArray, List.set_cons_zero, List.set_cons_succ]
      refine' WalkS.take0 18 _ (v := _) rfl (by kernel_rfl) (by kernel_rfl) (by kernel_rfl) (by kernel_rfl) (fun _ _ _ h => h) (Or.inl ⟨by rfl, ?c0hy12⟩) ?c0rest12
      case c0hy12 => (intro w9; go_simp <;> with_reducible rfl)
      simp only [Act.put, List.setIfInBounds_toArray, List.set_cons_zero, List.set_cons_succ]
      have HZ9 := Lib.hid ((HZ8.out.on (show Below w8.heap.size w8 w8.drew by go_grown)).set 17 (.int .u32 g.slot) _ rfl)
      have hz1 : (w8.drew.setCell ⟨Z, 17, none⟩ (.int .u32 g.slot)).cell? ⟨Z, 14, none⟩ = some (.int .u32 f.req) := HZ9.out.cell 14
      have hy1 := HZ9.out.frozen 14
      have hz2 : ((w8.setCell ⟨Z, 17, none⟩ (.int .u32 g.slot)).drew).cell? ⟨Z, 14, none⟩ = some (.int .u32 f.req) := hz1
      have hy2 : ((w8.setCell ⟨Z, 17, none⟩ (.int .u32 g.slot)).drew).frozen? ⟨Z, 14, none⟩ = false := hy1
      refine WalkS.each [19] (by kernel_rfl) rfl ?_
      refine EachS.cons 19 _ rfl (fun K hK => ?c0sx) EachS.nil
      go_simp
      have hS2 := And.intro ((World.cell?_setCell_far (w8.drew.setCell ⟨Z, 17, none⟩ (.int .u32 g.slot)) ⟨Z, 14, none⟩ ⟨F, 17, none⟩ (.int .u32 g.req) nFZ.symm).trans hS1.1) (And.intro ((World.cell?_setCell_far (w8.drew.setCell ⟨Z, 17, none⟩ (.int .u32 g.slot)) ⟨Z, 14, none⟩ ⟨F, 14, none⟩ (.int .u32 g.req) nFZ.symm).trans hS1.2.1) (And.intro ((World.cell?_setCell_far (w8.drew.setCell ⟨Z, 17, none⟩ (.int .u32 g.slot)) ⟨Z, 14, none⟩ ⟨G, 17, none⟩ (.int .u32 g.req) nGZ.symm).trans hS1.2.2.1) ((World.cell?_setCell_far (w8.drew.setCell ⟨Z, 17, none⟩ (.int .u32 g.slot)) ⟨Z, 14, none⟩ ⟨G, 14, none⟩ (.int .u32 g.req) nGZ.symm).trans hS1.2.2.2)))
      refine hK.out _ _ (fun _ => hS2) ?_
      clear hK K
      simp only [Act.put, List.setIfInBounds_toArray, List.set_cons_zero, List.set_cons_succ]
      refine' WalkS.take0 20 _ (v := _) rfl (by kernel_rfl) (by kernel_rfl) (by kernel_rfl) (by kernel_rfl) (fun _ _ _ h => h) (Or.inl ⟨by rfl, ?c0hy13⟩) ?c0rest13
      case c0hy13 => (intro w9; go_simp <;> with_reducible rfl)
      simp only [Act.put, List.setIfInBounds_toArray, List.set_cons_zero, List.set_cons_succ]
      refine WalkS.done (by kernel_rfl) ?_
      go_wp2_with fail
      refine Met.intro (HJ.out _ _ ?_)
      repeat apply Exists.intro
      refine ⟨?_, rfl⟩
      exact ⟨{ f with slot := g.slot, req := g.req }, (.slice g1 f.ms.length d1), (.slice g2 f.es.length d2), true, rfl, ⟨fun h => absurd (congrArg (fun z : Fr => z.slot) h).symm ne0, fun h => by cases h⟩, hfl.1, hfl.2, HW7.out.1, HW7.out.2.1, HZ9.out.set 14 (.int .u32 g.req) (frC { f with slot := g.slot, req := g.req } (.slice g1 f.ms.length d1) (.slice g2 f.es.length d2)) rfl, (((HBZ.out.trans (show Below Z w8 w8.drew by go_grown)).setCell (p := ⟨Z, 17, none⟩) (Nat.le_refl _) (.int .u32 g.slot)).setCell (p := ⟨Z, 14, none⟩) (Nat.le_refl _) (.int .u32 g.req))⟩
    rcases Decidable.em (f.req = g.req) with e1 | ne1
    case inr =>
      have cF0 : w8.cell? ⟨F, 17, none⟩ = some (.int .u32 f.slot) := HF8.out.b.cell 17
      have cF1 : w8.cell? ⟨F, 14, none⟩ = some (.int .u32 f.req) := HF8.out.b.cell 14
      have cG0 : w8.cell? ⟨G, 17, none⟩ = some (.int .u32 f.slot) := (HG8.out.b.cell 17).trans (by simp [e0])
      have cG1 : w8.cell? ⟨G, 14, none⟩ = some (.int .u32 g.req) := HG8.out.b.cell 14
      have E0 := Lib.hid e0
      clear e0
      have hzb : ((f.slot : Int) != (f.slot : Int)) = false := by simp
      have hzc : ((f.req : Int) != (g.req : Int)) = true := by rw [bne_iff_ne]; omega
      go_upto_region 8 with fail
      refine WalkS.begin (fun w' => w'.cell? ⟨F, 17, none⟩ = some (.int .u32 f.slot) ∧ w'.cell? ⟨F, 14, none⟩ = some (.int .u32 f.req) ∧ w'.cell? ⟨G, 17, none⟩ = some (.int .u32 f.slot) ∧ w'.cell? ⟨G, 14, none⟩ = some (.int .u32 g.req)) [] (by kernel_rfl) ⟨cF0, cF1, cG0, cG1⟩ ?_
      simp only [List.size_toArray, List.length_cons, List.length_nil, Nat.zero_add, Nat.reduceAdd, show Array.replicate 21 false = #[false, false, false, false, false, false, false, false, false, false, false, false, false, false, false, false, false, false, false, false, false] from rfl]
      refine' WalkS.take0 0 _ (v := _) rfl (by kernel_rfl) (by kernel_rfl) (by kernel_rfl) (by kernel_rfl) (fun _ _ _ h => h) (Or.inl ⟨by rfl, ?c1hy1⟩) ?c1rest1
      case c1hy1 => (intro w9; go_simp <;> with_reducible rfl)
      simp only [Act.put, List.setIfInBounds_toArray, List.set_cons_zero, List.set_cons_succ]
      refine' WalkS.take 1 _ (v := _) rfl (by kernel_rfl) (by kernel_rfl) (by kernel_rfl) (by kernel_rfl) (by kernel_rfl) (fun _ _ _ h => h) (Or.inl ⟨by rfl, ?c1hy2⟩) ?c1rest2
      case c1hy2 => (intro w9 h9; obtain ⟨s0, s1, s2, s3⟩ := h9; go_simp <;> with_reducible rfl)
      simp only [Act.put, List.setIfInBounds_toArray, List.set_cons_zero, List.set_cons_succ]
      refine' WalkS.take0 2 _ (v := _) rfl (by kernel_rfl) (by kernel_rfl) (by kernel_rfl) (by kernel_rfl) (fun _ _ _ h => h) (Or.inl ⟨by rfl, ?c1hy3⟩) ?c1rest3
      case c1hy3 => (intro w9; go_simp <;> with_reducible rfl)
      simp only [Act.put, List.setIfInBounds_toArray, List.set_cons_zero, List.set_cons_succ]
      refine' WalkS.take 3 _ (v := _) rfl (by kernel_rfl) (by kernel_rfl) (by kernel_rfl) (by kernel_rfl) (by kernel_rfl) (fun _ _ _ h => h) (Or.inl ⟨by rfl, ?c1hy4⟩) ?c1rest4
      case c1hy4 => (intro w9 h9; obtain ⟨s0, s1, s2, s3⟩ := h9; go_simp <;> with_reducible rfl)
      simp only [Act.put, List.setIfInBounds_toArray, List.set_cons_zero, List.set_cons_succ]
      refine' WalkS.take0 4 _ (v := _) rfl (by kernel_rfl) (by kernel_rfl) (by kernel_rfl) (by kernel_rfl) (fun _ _ _ h => h) (Or.inl ⟨by rfl, ?c1hy5⟩) ?c1rest5
      case c1hy5 => (intro w9; go_simp <;> with_reducible rfl)
      simp only [Act.put, List.setIfInBounds_toArray, List.set_cons_zero, List.set_cons_succ]
      refine' WalkS.take 5 _ (v := _) rfl (by kernel_rfl) (by kernel_rfl) (by kernel_rfl) (by kernel_rfl) (by kernel_rfl) (fun _ _ _ h => h) (Or.inl ⟨by rfl, ?c1hy6⟩) ?c1rest6
      case c1hy6 => (intro w9 h9; obtain ⟨s0, s1, s2, s3⟩ := h9; go_simp <;> with_reducible rfl)
      simp only [Act.put, List.setIfInBounds_toArray, List.set_cons_zero, List.set_cons_succ]
      refine' WalkS.take0 6 _ (v := _) rfl (by kernel_rfl) (by kernel_rfl) (by kernel_rfl) (by kernel_rfl) (fun _ _ _ h => h) (Or.inl ⟨by rfl, ?c1hy7⟩) ?c1rest7
      case c1hy7 => (intro w9; go_simp <;> with_reducible rfl)
      simp only [Act.put, List.setIfInBounds_toArray, List.set_cons_zero, List.set_cons_succ]
      refine' WalkS.take 7 _ (v := _) rfl (by kernel_rfl) (by kernel_rfl) (by kernel_rfl) (by kernel_rfl) (by kernel_rfl) (fun _ _ _ h => h) (Or.inl ⟨by rfl, ?c1hy8⟩) ?c1rest8
      case c1hy8 => (intro w9 h9; obtain ⟨s0, s1, s2, s3⟩ := h9; go_simp <;> with_reducible rfl)
      simp only [Act.put, List.setIfInBounds_toArray, List.set_cons_zero, List.set_cons_succ]
      refine WalkS.take0 8 _ (v := .bool false) rfl (by kernel_rfl) (by kernel_rfl) (by kernel_rfl) (by kernel_rfl) (fun _ _ _ h => h) (Or.inl ⟨by rfl, fun w9 => by go_simp <;> first | exact hzb | (rw [hzb]; rfl) | (simp only [hzb]; done)⟩) ?_
      simp only [Act.put, List.setIfInBounds_toArray, List.set_cons_zero, List.set_cons_succ]
      refine' WalkS.take0 9 _ (v := _) rfl (by kernel_rfl) (by kernel_rfl) (by kernel_rfl) (by kernel_rfl) (fun _ _ _ h => h) (Or.inl ⟨by rfl, ?c1hy9⟩) ?c1rest9
      case c1hy9 => (intro w9; go_simp <;> with_reducible rfl)
      simp only [Act.put, List.setIfInBounds_toArray, List.set_cons_zero, List.set_cons_succ]
      refine' WalkS.take0 10 _ (v := _) rfl (by kernel_rfl) (by kernel_rfl) (by kernel_rfl) (by kernel_rfl) (fun _ _ _ h => h) (Or.inl ⟨by rfl, ?c1hy10⟩) ?c1rest10
      case c1hy10 => (intro w9; go_simp <;> with_reducible rfl)
      simp only [Act.put, List.setIfInBounds_toArray, List.set_cons_zero, List.set_cons_succ]
      refine' WalkS.take 11 _ (v := _) rfl (by kernel_rfl) (by kernel_rfl) (by kernel_rfl) (by kernel_rfl) (by kernel_rfl) (fun _ _ _ h => h) (Or.inl ⟨by rfl, ?c1hy11⟩) ?c1rest11
      case c1hy11 => (intro w9 h9; obtain ⟨s0, s1, s2, s3⟩ := h9; go_simp <;> with_reducible rfl)
      simp only [Act.put, List.setIfInBounds_toArray, List.set_cons_zero, List.set_cons_succ]
      refine' WalkS.take0 12 _ (v := _) rfl (by kernel_rfl) (by kernel_rfl) (by kernel_rfl) (by kernel_rfl) (fun _ _ _ h => h) (Or.inl ⟨by rfl, ?c1hy12⟩) ?c1rest12
      case c1hy12 => (intro w9; go_simp <;> with_reducible rfl)
      simp only [Act.put, List.setIfInBounds_toArray, List.set_cons_zero, List.set_cons_succ]
      refine' WalkS.take 13 _ (v := _) rfl (by kernel_rfl) (by kernel_rfl) (by kernel_rfl) (by kernel_rfl) (by kernel_rfl) (fun _ _ _ h => h) (Or.inl ⟨by rfl, ?c1hy13⟩) ?c1rest13
      case c1hy13 => (intro w9 h9; obtain ⟨s0, s1, s2, s3⟩ := h9; go_simp <;> with_reducible rfl)
      simp only [Act.put, List.setIfInBounds_toArray, List.set_cons_zero, List.set_cons_succ]
      refine WalkS.take0 14 _ (v := .bool true) rfl (by kernel_rfl) (by kernel_rfl) (by kernel_rfl) (by kernel_rfl) (fun _ _ _ h => h) (Or.inl ⟨by rfl, fun w9 => by go_simp <;> first | exact hzc | (rw [hzc]; rfl) | (simp only [hzc]; done)⟩) ?_
      simp only [Act.put, List.setIfInBounds_toArray, List.set_cons_zero, List.set_cons_succ]
      refine' WalkS.take0 15 _ (v := _) rfl (by kernel_rfl) (by kernel_rfl) (by kernel_rfl) (by kernel_rfl) (fun _ _ _ h => h) (Or.inl ⟨by rfl, ?c1hy14⟩) ?c1rest14
      case c1hy14 => (intro w9; go_simp <;> with_reducible rfl)
      simp only [Act.put, List.setIfInBounds_toArray, List.set_cons_zero, List.set_cons_succ]
      refine' WalkS.take0 16 _ (v := _) rfl (by kernel_rfl) (by kernel_rfl) (by kernel_rfl) (by kernel_rfl) (fun _ _ _ h => h) (Or.inl ⟨by rfl, ?c1hy15⟩) ?c1rest15
      case c1hy15 => (intro w9; go_simp <;> with_reducible rfl)
      simp only [Act.put, List.setIfInBounds_toArray, List.set_cons_zero, List.set_cons_succ]
      have hz0 : w8.drew.cell? ⟨Z, 17, none⟩ = some (.int .u32 f.slot) := HZ8.out.cell 17
      have hy0 : w8.drew.frozen? ⟨Z, 17, none⟩ = false := HZ8.out.frozen 17
      refine WalkS.each [17] (by kernel_rfl) rfl ?_
      refine EachS.cons 17 _ rfl (fun K hK => ?c1sw) EachS.nil
      go_simp
      have hS1 := And.intro ((World.cell?_setCell_far w8.drew ⟨Z, 17, none⟩ ⟨F, 17, none⟩ (.int .u32 f.slot) nFZ.symm).trans cF0) (And.intro ((World.cell?_setCell_far w8.drew ⟨Z, 17, none⟩ ⟨F, 14, none⟩ (.int .u32 f.slot) nFZ.symm).trans cF1) (And.intro ((World.cell?_setCell_far w8.drew ⟨Z, 17, none⟩ ⟨G, 17, none⟩ (.int .u32 f.slot) nGZ.symm).trans cG0) ((World.cell?_setCell_far w8.drew ⟨Z, 17, none⟩ ⟨G, 14, none⟩ (.int .u32 f.slot) nGZ.symm).trans cG1)))
      refine hK.out _ _ (fun _ => hS1) ?_
      clear hK K
      simp only [Act.put, List.setIfInBounds_toArray, List.set_cons_zero, List.set_cons_succ]
      refine' WalkS.take0 18 _ (v := _) rfl (by kernel_rfl) (by kernel_rfl) (by kernel_rfl) (by kernel_rfl) (fun _ _ _ h => h) (Or.inl ⟨by rfl, ?c1hy16⟩) ?c1rest16
      case c1hy16 => (intro w9; go_simp <;> with_reducible rfl)
      simp only [Act.put, List.setIfInBounds_toArray, List.set_cons_zero, List.set_cons_succ]
      have HZ9 := Lib.hid ((HZ8.out.on (show Below w8.heap.size w8 w8.drew by go_grown)).set 17 (.int .u32 f.slot) _ rfl)
      have hz1 : (w8.drew.setCell ⟨Z, 17, none⟩ (.int .u32 f.slot)).cell? ⟨Z, 14, none⟩ = some (.int .u32 f.req) := HZ9.out.cell 14
      have hy1 := HZ9.out.frozen 14
      have hz2 : ((w8.setCell ⟨Z, 17, none⟩ (.int .u32 f.slot)).drew).cell? ⟨Z, 14, none⟩ = some (.int .u32 f.req) := hz1
      have hy2 : ((w8.setCell ⟨Z, 17, none⟩ (.int .u32 f.slot)).drew).frozen? ⟨Z, 14, none⟩ = false := hy1
      refine WalkS.each [19] (by kernel_rfl) rfl ?_
      refine EachS.cons 19 _ rfl (fun K hK => ?c1sx) EachS.nil
      go_simp
      have hS2 := And.intro ((World.cell?_setCell_far (w8.drew.setCell ⟨Z, 17, none⟩ (.int .u32 f.slot)) ⟨Z, 14, none⟩ ⟨F, 17, none⟩ (.int .u32 g.req) nFZ.symm).trans hS1.1) (And.intro ((World.cell?_setCell_far (w8.drew.setCell ⟨Z, 17, none⟩ (.int .u32 f.slot)) ⟨Z, 14, none⟩ ⟨F, 14, none⟩ (.int .u32 g.req) nFZ.symm).trans hS1.2.1) (And.intro ((World.cell?_setCell_far (w8.drew.setCell ⟨Z, 17, none⟩ (.int .u32 f.slot)) ⟨Z, 14, none⟩ ⟨G, 17, none⟩ (.int .u32 g.req) nGZ.symm).trans hS1.2.2.1) ((World.cell?_setCell_far (w8.drew.setCell ⟨Z, 17, none⟩ (.int .u32 f.slot)) ⟨Z, 14, none⟩ ⟨G, 14, none⟩ (.int .u32 g.req) nGZ.symm).trans hS1.2.2.2)))
      refine hK.out _ _ (fun _ => hS2) ?_
      clear hK K
      simp only [Act.put, List.setIfInBounds_toArray, List.set_cons_zero, List.set_cons_succ]
      refine' WalkS.take0 20 _ (v := _) rfl (by kernel_rfl) (by kernel_rfl) (by kernel_rfl) (by kernel_rfl) (fun _ _ _ h => h) (Or.inl ⟨by rfl, ?c1hy17⟩) ?c1rest17
      case c1hy17 => (intro w9; go_simp <;> with_reducible rfl)
      simp only [Act.put, List.setIfInBounds_toArray, List.set_cons_zero, List.set_cons_succ]
      refine WalkS.done (by kernel_rfl) ?_
      go_wp2_with fail
      refine Met.intro (HJ.out _ _ ?_)
      repeat apply Exists.intro
      refine ⟨?_, rfl⟩
      exact ⟨{ f with req := g.req }, (.slice g1 f.ms.length d1), (.slice g2 f.es.length d2), true, rfl, ⟨fun h => absurd (congrArg (fun z : Fr => z.req) h).symm ne1, fun h => by cases h⟩, hfl.1, hfl.2, HW7.out.1, HW7.out.2.1, HZ9.out.set 14 (.int .u32 g.req) (frC { f with req := g.req } (.slice g1 f.ms.length d1) (.slice g2 f.es.length d2)) rfl, (((HBZ.out.trans (show Below Z w8 w8.drew by go_grown)).setCell (p := ⟨Z, 17, none⟩) (Nat.le_refl _) (.int .u32 f.slot)).setCell (p := ⟨Z, 14, none⟩) (Nat.le_refl _) (.int .u32 g.req))⟩
    have cF0 : w8.cell? ⟨F, 17, none⟩ = some (.int .u32 f.slot) := HF8.out.b.cell 17
    have cF1 : w8.cell? ⟨F, 14, none⟩ = some (.int .u32 f.req) := HF8.out.b.cell 14
    have cG0 : w8.cell? ⟨G, 17, none⟩ = some (.int .u32 f.slot) := (HG8.out.b.cell 17).trans (by simp [e0])
    have cG1 : w8.cell? ⟨G, 14, none⟩ = some (.int .u32 f.req) := (HG8.out.b.cell 14).trans (by simp [e1])
    have E0 := Lib.hid e0
    clear e0
    have E1 := Lib.hid e1
    clear e1
    have hzb : ((f.slot : Int) != (f.slot : Int)) = false := by simp
    have hzc : ((f.req : Int) != (f.req : Int)) = false := by simp
    go_upto_region 8 with fail
    refine WalkS.begin (fun w' => w'.cell? ⟨F, 17, none⟩ = some (.int .u32 f.slot) ∧ w'.cell? ⟨F, 14, none⟩ = some (.int .u32 f.req) ∧ w'.cell? ⟨G, 17, none⟩ = some (.int .u32 f.slot) ∧ w'.cell? ⟨G, 14, none⟩ = some (.int .u32 f.req)) [] (by kernel_rfl) ⟨cF0, cF1, cG0, cG1⟩ ?_
    simp only [List.size_toArray, List.length_cons, List.length_nil, Nat.zero_add, Nat.reduceAdd, show Array.replicate 21 false = #[false, false, false, false, false, false, false, false, false, false, false, false, false, false, false, false, false, false, false, false, false] from rfl]
    refine' WalkS.take0 0 _ (v := _) rfl (by kernel_rfl) (by kernel_rfl) (by kernel_rfl) (by kernel_rfl) (fun _ _ _ h => h) (Or.inl ⟨by rfl, ?c2hy1⟩) ?c2rest1
    case c2hy1 => (intro w9; go_simp <;> with_reducible rfl)
    simp only [Act.put, List.setIfInBounds_toArray, List.set_cons_zero, List.set_cons_succ]
    refine' WalkS.take 1 _ (v := _) rfl (by kernel_rfl) (by kernel_rfl) (by kernel_rfl) (by kernel_rfl) (by kernel_rfl) (fun _ _ _ h => h) (Or.inl ⟨by rfl, ?c2hy2⟩) ?c2rest2
    case c2hy2 => (intro w9 h9; obtain ⟨s0, s1, s2, s3⟩ := h9; go_simp <;> with_reducible rfl)
    simp only [Act.put, List.setIfInBounds_toArray, List.set_cons_zero, List.set_cons_succ]
    refine' WalkS.take0 2 _ (v := _) rfl (by kernel_rfl) (by kernel_rfl) (by kernel_rfl) (by kernel_rfl) (fun _ _ _ h => h) (Or.inl ⟨by rfl, ?c2hy3⟩) ?c2rest3
    case c2hy3 => (intro w9; go_simp <;> with_reducible rfl)
    simp only [Act.put, List.setIfInBounds_toArray, List.set_cons_zero, List.set_cons_succ]
    refine' WalkS.take 3 _ (v := _) rfl (by kernel_rfl) (by kernel_rfl) (by kernel_rfl) (by kernel_rfl) (by kernel_rfl) (fun _ _ _ h => h) (Or.inl ⟨by rfl, ?c2hy4⟩) ?c2rest4
    case c2hy4 => (intro w9 h9; obtain ⟨s0, s1, s2, s3⟩ := h9; go_simp <;> with_reducible rfl)
    simp only [Act.put, List.setIfInBounds_toArray, List.set_cons_zero, List.set_cons_succ]
    refine' WalkS.take0 4 _ (v := _) rfl (by kernel_rfl) (by kernel_rfl) (by kernel_rfl) (by kernel_rfl) (fun _ _ _ h => h) (Or.inl ⟨by rfl, ?c2hy5⟩) ?c2rest5
    case c2hy5 => (intro w9; go_simp <;> with_reducible rfl)
    simp only [Act.put, List.setIfInBounds_toArray, List.set_cons_zero, List.set_cons_succ]
    refine' WalkS.take 5 _ (v := _) rfl (by kernel_rfl) (by kernel_rfl) (by kernel_rfl) (by kernel_rfl) (by kernel_rfl) (fun _ _ _ h => h) (Or.inl ⟨by rfl, ?c2hy6⟩) ?c2rest6
    case c2hy6 => (intro w9 h9; obtain ⟨s0, s1, s2, s3⟩ := h9; go_simp <;> with_reducible rfl)
    simp only [Act.put, List.setIfInBounds_toArray, List.set_cons_zero, List.set_cons_succ]
    refine' WalkS.take0 6 _ (v := _) rfl (by kernel_rfl) (by kernel_rfl) (by kernel_rfl) (by kernel_rfl) (fun _ _ _ h => h) (Or.inl ⟨by rfl, ?c2hy7⟩) ?c2rest7
    case c2hy7 => (intro w9; go_simp <;> with_reducible rfl)
    simp only [Act.put, List.setIfInBounds_toArray, List.set_cons_zero, List.set_cons_succ]
    refine' WalkS.take 7 _ (v := _) rfl (by kernel_rfl) (by kernel_rfl) (by kernel_rfl) (by kernel_rfl) (by kernel_rfl) (fun _ _ _ h => h) (Or.inl ⟨by rfl, ?c2hy8⟩) ?c2rest8
    case c2hy8 => (intro w9 h9; obtain ⟨s0, s1, s2, s3⟩ := h9; go_simp <;> with_reducible rfl)
    simp only [Act.put, List.setIfInBounds_toArray, List.set_cons_zero, List.set_cons_succ]
    refine WalkS.take0 8 _ (v := .bool false) rfl (by kernel_rfl) (by kernel_rfl) (by kernel_rfl) (by kernel_rfl) (fun _ _ _ h => h) (Or.inl ⟨by rfl, fun w9 => by go_simp <;> first | exact hzb | (rw [hzb]; rfl) | (simp only [hzb]; done)⟩) ?_
    simp only [Act.put, List.setIfInBounds_toArray, List.set_cons_zero, List.set_cons_succ]
    refine' WalkS.take0 9 _ (v := _) rfl (by kernel_rfl) (by kernel_rfl) (by kernel_rfl) (by kernel_rfl) (fun _ _ _ h => h) (Or.inl ⟨by rfl, ?c2hy9⟩) ?c2rest9
    case c2hy9 => (intro w9; go_simp <;> with_reducible rfl)
    simp only [Act.put, List.setIfInBounds_toArray, List.set_cons_zero, List.set_cons_succ]
    refine' WalkS.take0 10 _ (v := _) rfl (by kernel_rfl) (by kernel_rfl) (by kernel_rfl) (by kernel_rfl) (fun _ _ _ h => h) (Or.inl ⟨by rfl, ?c2hy10⟩) ?c2rest10
    case c2hy10 => (intro w9; go_simp <;> with_reducible rfl)
    simp only [Act.put, List.setIfInBounds_toArray, List.set_cons_zero, List.set_cons_succ]
    refine' WalkS.take 11 _ (v := _) rfl (by kernel_rfl) (by kernel_rfl) (by kernel_rfl) (by kernel_rfl) (by kernel_rfl) (fun _ _ _ h => h) (Or.inl ⟨by rfl, ?c2hy11⟩) ?c2rest11
    case c2hy11 => (intro w9 h9; obtain ⟨s0, s1, s2, s3⟩ := h9; go_simp <;> with_reducible rfl)
    simp only [Act.put, List.setIfInBounds_toArray, List.set_cons_zero, List.set_cons_succ]
    refine' WalkS.take0 12 _ (v := _) rfl (by kernel_rfl) (by kernel_rfl) (by kernel_rfl) (by kernel_rfl) (fun _ _ _ h => h) (Or.inl ⟨by rfl, ?c2hy12⟩) ?c2rest12
    case c2hy12 => (intro w9; go_simp <;> with_reducible rfl)
    simp only [Act.put, List.setIfInBounds_toArray, List.set_cons_zero, List.set_cons_succ]
    refine' WalkS.take 13 _ (v := _) rfl (by kernel_rfl) (by kernel_rfl) (by kernel_rfl) (by kernel_rfl) (by kernel_rfl) (fun _ _ _ h => h) (Or.inl ⟨by rfl, ?c2hy13⟩) ?c2rest13
    case c2hy13 => (intro w9 h9; obtain ⟨s0, s1, s2, s3⟩ := h9; go_simp <;> with_reducible rfl)
    simp only [Act.put, List.setIfInBounds_toArray, List.set_cons_zero, List.set_cons_succ]
    refine WalkS.take0 14 _ (v := .bool false) rfl (by kernel_rfl) (by kernel_rfl) (by kernel_rfl) (by kernel_rfl) (fun _ _ _ h => h) (Or.inl ⟨by rfl, fun w9 => by go_simp <;> first | exact hzc | (rw [hzc]; rfl) | (simp only [hzc]; done)⟩) ?_
    simp only [Act.put, List.setIfInBounds_toArray, List.set_cons_zero, List.set_cons_succ]
    refine' WalkS.take0 15 _ (v := _) rfl (by kernel_rfl) (by kernel_rfl) (by kernel_rfl) (by kernel_rfl) (fun _ _ _ h => h) (Or.inl ⟨by rfl, ?c2hy14⟩) ?c2rest14
    case c2hy14 => (intro w9; go_simp <;> with_reducible rfl)
    simp only [Act.put, List.setIfInBounds_toArray, List.set_cons_zero, List.set_cons_succ]
    refine' WalkS.take0 16 _ (v := _) rfl (by kernel_rfl) (by kernel_rfl) (by kernel_rfl) (by kernel_rfl) (fun _ _ _ h => h) (Or.inl ⟨by rfl, ?c2hy15⟩) ?c2rest15
    case c2hy15 => (intro w9; go_simp <;> with_reducible rfl)
    simp only [Act.put, List.setIfInBounds_toArray, List.set_cons_zero, List.set_cons_succ]
    have hz0 : w8.drew.cell? ⟨Z, 17, none⟩ = some (.int .u32 f.slot) := HZ8.out.cell 17
    have hy0 : w8.drew.frozen? ⟨Z, 17, none⟩ = false := HZ8.out.frozen 17
    refine WalkS.each [17] (by kernel_rfl) rfl ?_
    refine EachS.cons 17 _ rfl (fun K hK => ?c2sw) EachS.nil
    go_simp
    have hS1 := And.intro ((World.cell?_setCell_far w8.drew ⟨Z, 17, none⟩ ⟨F, 17, none⟩ (.int .u32 f.slot) nFZ.symm).trans cF0) (And.intro ((World.cell?_setCell_far w8.drew ⟨Z, 17, none⟩ ⟨F, 14, none⟩ (.int .u32 f.slot) nFZ.symm).trans cF1) (And.intro ((World.cell?_setCell_far w8.drew ⟨Z, 17, none⟩ ⟨G, 17, none⟩ (.int .u32 f.slot) nGZ.symm).trans cG0) ((World.cell?_setCell_far w8.drew ⟨Z, 17, none⟩ ⟨G, 14, none⟩ (.int .u32 f.slot) nGZ.symm).trans cG1)))
    refine hK.out _ _ (fun _ => hS1) ?_
    clear hK K
    simp only [Act.put, List.setIfInBounds_toArray, List.set_cons_zero, List.set_cons_succ]
    refine' WalkS.take0 18 _ (v := _) rfl (by kernel_rfl) (by kernel_rfl) (by kernel_rfl) (by kernel_rfl) (fun _ _ _ h => h) (Or.inl ⟨by rfl, ?c2hy16⟩) ?c2rest16
    case c2hy16 => (intro w9; go_simp <;> with_reducible rfl)
    simp only [Act.put, List.setIfInBounds_toArray, List.set_cons_zero, List.set_cons_succ]
    have HZ9 := Lib.hid ((HZ8.out.on (show Below w8.heap.size w8 w8.drew by go_grown)).set 17 (.int .u32 f.slot) _ rfl)
    have hz1 : (w8.drew.setCell ⟨Z, 17, none⟩ (.int .u32 f.slot)).cell? ⟨Z, 14, none⟩ = some (.int .u32 f.req) := HZ9.out.cell 14
    have hy1 := HZ9.out.frozen 14
    have hz2 : ((w8.setCell ⟨Z, 17, none⟩ (.int .u32 f.slot)).drew).cell? ⟨Z, 14, none⟩ = some (.int .u32 f.req) := hz1
    have hy2 : ((w8.setCell ⟨Z, 17, none⟩ (.int .u32 f.slot)).drew).frozen? ⟨Z, 14, none⟩ = false := hy1
    refine WalkS.each [19] (by kernel_rfl) rfl ?_
    refine EachS.cons 19 _ rfl (fun K hK => ?c2sx) EachS.nil
    go_simp
    have hS2 := And.intro ((World.cell?_setCell_far (w8.drew.setCell ⟨Z, 17, none⟩ (.int .u32 f.slot)) ⟨Z, 14, none⟩ ⟨F, 17, none⟩ (.int .u32 f.req) nFZ.symm).trans hS1.1) (And.intro ((World.cell?_setCell_far (w8.drew.setCell ⟨Z, 17, none⟩ (.int .u32 f.slot)) ⟨Z, 14, none⟩ ⟨F, 14, none⟩ (.int .u32 f.req) nFZ.symm).trans hS1.2.1) (And.intro ((World.cell?_setCell_far (w8.drew.setCell ⟨Z, 17, none⟩ (.int .u32 f.slot)) ⟨Z, 14, none⟩ ⟨G, 17, none⟩ (.int .u32 f.req) nGZ.symm).trans hS1.2.2.1) ((World.cell?_setCell_far (w8.drew.setCell ⟨Z, 17, none⟩ (.int .u32 f.slot)) ⟨Z, 14, none⟩ ⟨G, 14, none⟩ (.int .u32 f.req) nGZ.symm).trans hS1.2.2.2)))
    refine hK.out _ _ (fun _ => hS2) ?_
    clear hK K
    simp only [Act.put, List.setIfInBounds_toArray, List.set_cons_zero, List.set_cons_succ]
    refine' WalkS.take0 20 _ (v := _) rfl (by kernel_rfl) (by kernel_rfl) (by kernel_rfl) (by kernel_rfl) (fun _ _ _ h => h) (Or.inl ⟨by rfl, ?c2hy17⟩) ?c2rest17
    case c2hy17 => (intro w9; go_simp <;> with_reducible rfl)
    simp only [Act.put, List.setIfInBounds_toArray, List.set_cons_zero, List.set_cons_succ]
    refine WalkS.done (by kernel_rfl) ?_
    go_wp2_with fail
    refine Met.intro (HJ.out _ _ ?_)
    repeat apply Exists.intro
    refine ⟨?_, rfl⟩
    exact ⟨f, (.slice g1 f.ms.length d1), (.slice g2 f.es.length d2), false, rfl, ⟨fun _ => rfl, fun _ => rfl⟩, hfl.1, hfl.2, HW7.out.1, HW7.out.2.1, HZ9.out.set 14 (.int .u32 f.req) (frC f (.slice g1 f.ms.length d1) (.slice g2 f.es.length d2)) rfl, (((HBZ.out.trans (show Below Z w8 w8.drew by go_grown)).setCell (p := ⟨Z, 17, none⟩) (Nat.le_refl _) (.int .u32 f.slot)).setCell (p := ⟨Z, 14, none⟩) (Nat.le_refl _) (.int .u32 f.req))⟩
  case rest =>
    obtain ⟨z, sz, tz, d, rfl, hzf, hl1, hl2, hm, he, hb, hB⟩ := hcut
    have hB' : Below w7.heap.size w7 wc := by rw [← HZE.out]; exact hB
    have RF := Lib.hid (blk_raw (HFB.out.on hB'))
    have RG := Lib.hid (blk_raw (HGB.out.on hB'))
    have RZ := Lib.hid (blk_raw hb)
    have lF := (HFB.out.on hB').lt
    have lG := (HGB.out.on hB').lt
    have lZ := hb.lt
    have mF := HW7.out.1.on hB'
    have eF := HW7.out.2.1.on hB'
    have mG := HW7.out.2.2.1.on hB'
    have eG := HW7.out.2.2.2.on hB'
    have mZ := hm.on hB'
    have eZ := he.on hB'
    have hzl := And.intro hl1 hl2
    have H1 : Hid (∀ w', Below wc.heap.size wc w' → Calls Tryd.prog 13 #[.agg (frC f (.slice g1 f.ms.length d1) (.slice g2 f.es.length d2)), .agg (frC f (.slice g1 f.ms.length d1) (.slice g2 f.es.length d2))] w' (SameP (f = f) w')) := Lib.hid (fun w' h => Same_any f f _ _ _ _ w' (by omega) (by omega) (by omega) (by omega) (mF.on h) (mF.on h) (eF.on h) (eF.on h))
    have H2 : Hid (∀ w', Below wc.heap.size wc w' → Calls Tryd.prog 13 #[.agg (frC z sz tz), .agg (frC f (.slice g1 f.ms.length d1) (.slice g2 f.es.length d2))] w' (SameP (z = f) w')) := Lib.hid (fun w' h => Same_any z f _ _ _ _ w' (by omega) (by omega) (by omega) (by omega) (mZ.on h) (mF.on h) (eZ.on h) (eF.on h))
    have H3 : Hid (∀ w', Below wc.heap.size wc w' → Calls Tryd.prog 13 #[.agg (frC f (.slice g1 f.ms.length d1) (.slice g2 f.es.length d2)), .agg (frC g (.slice g5 g.ms.length d5) (.slice g6 g.es.length d6))] w' (SameP (f = g) w')) := Lib.hid (fun w' h => Same_any f g _ _ _ _ w' (by omega) (by omega) (by omega) (by omega) (mF.on h) (mG.on h) (eF.on h) (eG.on h))
    have H4 : Hid (∀ w', Below wc.heap.size wc w' → Calls Tryd.prog 13 #[.agg (frC g (.slice g5 g.ms.length d5) (.slice g6 g.es.length d6)), .agg (frC f (.slice g1 f.ms.length d1) (.slice g2 f.es.length d2))] w' (SameP (g = f) w')) := Lib.hid (fun w' h => Same_any g f _ _ _ _ w' (by omega) (by omega) (by omega) (by omega) (mG.on h) (mF.on h) (eG.on h) (eF.on h))
    have HBC := Lib.hid (HBW.out.trans (hB'.mono HBW.out.size))
    have HZF := Lib.hid hzf
    clear hm he hb hB hB' mF eF mG eG mZ eZ hzf HW7 HFB HGB HBZ HF8 HG8 HZ8 HZ8x hl1 hl2 hzl
    cases d
    case false =>
      go_upto_region 25 with fail
      have hS0 : Below wc.heap.size wc wc.drew := by go_grown
      refine WalkS.begin (fun w' => Below wc.heap.size wc w') [] (by kernel_rfl) hS0 ?_
      simp only [List.size_toArray, List.length_cons, List.length_nil, Nat.zero_add, Nat.reduceAdd, show Array.replicate 21 false = #[false, false, false, false, false, false, false, false, false, false, false, false, false, false, false, false, false, false, false, false, false] from rfl]
      refine WalkS.take 0 _ (v := .agg (frC f (.slice g1 f.ms.length d1) (.slice g2 f.es.length d2))) rfl (by kernel_rfl) (by kernel_rfl) (by kernel_rfl) (by kernel_rfl) (by kernel_rfl) (fun _ _ _ h => h) (Or.inl ⟨by rfl, fun w9 h9 => loadRow_run rfl 47 (.tmp 7) rfl F rfl 47 (frC f (.slice g1 f.ms.length d1) (.slice g2 f.es.length d2)) (0, 0) _ ((h9.block F lF).trans RF.out) Tryd.underlying47 rfl (by kernel_rfl)⟩) ?_
      simp only [Act.put, List.setIfInBounds_toArray, List.set_cons_zero, List.set_cons_succ]
      refine WalkS.take 1 _ (v := .agg (frC f (.slice g1 f.ms.length d1) (.slice g2 f.es.length d2))) rfl (by kernel_rfl) (by kernel_rfl) (by kernel_rfl) (by kernel_rfl) (by kernel_rfl) (fun _ _ _ h => h) (Or.inl ⟨by rfl, fun w9 h9 => loadRow_run rfl 47 (.tmp 7) rfl F rfl 47 (frC f (.slice g1 f.ms.length d1) (.slice g2 f.es.length d2)) (0, 0) _ ((h9.block F lF).trans RF.out) Tryd.underlying47 rfl (by kernel_rfl)⟩) ?_
      simp only [Act.put, List.setIfInBounds_toArray, List.set_cons_zero, List.set_cons_succ]
      refine WalkS.each [2] (by kernel_rfl) rfl ?_
      refine EachS.cons 2 _ rfl (fun K hK => ?s1) EachS.nil
      go_simp
      refine (H1.out _ hS0).mono ?_
      rintro e w11 ⟨r1, rfl, hr1, hBr1⟩
      obtain rfl : r1 = true := hr1.2 rfl
      clear hr1
      have hSr1 := m_below_on hS0 hBr1
      refine hK.out _ _ (fun _ => hSr1) ?_
      clear hK K hBr1
      simp only [Act.put, List.setIfInBounds_toArray, List.set_cons_zero, List.set_cons_succ]
      refine' WalkS.take0 3 _ (v := _) rfl (by kernel_rfl) (by kernel_rfl) (by kernel_rfl) (by kernel_rfl) (fun _ _ _ h => h) (Or.inl ⟨by rfl, ?hy2⟩) ?rest2
      case hy2 => (intro w9; go_simp <;> with_reducible rfl)
      simp only [Act.put, List.setIfInBounds_toArray, List.set_cons_zero, List.set_cons_succ]
      refine WalkS.take 4 _ (v := .agg (frC z sz tz)) rfl (by kernel_rfl) (by kernel_rfl) (by kernel_rfl) (by kernel_rfl) (by kernel_rfl) (fun _ _ _ h => h) (Or.inl ⟨by rfl, fun w9 h9 => loadRow_run rfl 47 (.tmp 11) rfl Z rfl 47 (frC z sz tz) (0, 0) _ ((h9.block Z lZ).trans RZ.out) Tryd.underlying47 rfl (by kernel_rfl)⟩) ?_
      simp only [Act.put, List.setIfInBounds_toArray, List.set_cons_zero, List.set_cons_succ]
      refine WalkS.take 5 _ (v := .agg (frC f (.slice g1 f.ms.length d1) (.slice g2 f.es.length d2))) rfl (by kernel_rfl) (by kernel_rfl) (by kernel_rfl) (by kernel_rfl) (by kernel_rfl) (fun _ _ _ h => h) (Or.inl ⟨by rfl, fun w9 h9 => loadRow_run rfl 47 (.tmp 7) rfl F rfl 47 (frC f (.slice g1 f.ms.length d1) (.slice g2 f.es.length d2)) (0, 0) _ ((h9.block F lF).trans RF.out) Tryd.underlying47 rfl (by kernel_rfl)⟩) ?_
      simp only [Act.put, List.setIfInBounds_toArray, List.set_cons_zero, List.set_cons_succ]
      refine' WalkS.take0 7 _ (v := _) rfl (by kernel_rfl) (by kernel_rfl) (by kernel_rfl) (by kernel_rfl) (fun _ _ _ h => h) (Or.inl ⟨by rfl, ?hy3⟩) ?rest3
      case hy3 => (intro w9; go_simp <;> with_reducible rfl)
      simp only [Act.put, List.setIfInBounds_toArray, List.set_cons_zero, List.set_cons_succ]
      refine' WalkS.take0 8 _ (v := _) rfl (by kernel_rfl) (by kernel_rfl) (by kernel_rfl) (by kernel_rfl) (fun _ _ _ h => h) (Or.inl ⟨by rfl, ?hy4⟩) ?rest4
      case hy4 => (intro w9; go_simp <;> with_reducible rfl)
      simp only [Act.put, List.setIfInBounds_toArray, List.set_cons_zero, List.set_cons_succ]
      refine WalkS.each [6] (by kernel_rfl) rfl ?_
      refine EachS.cons 6 _ rfl (fun K hK => ?s5) EachS.nil
      go_simp
      refine (H2.out _ hSr1).mono ?_
      rintro e w12 ⟨r2, rfl, hr2, hBr2⟩
      obtain rfl : r2 = true := by exact hr2.2 (HZF.out.2 rfl)
      clear hr2
      have hSr2 := m_below_on hSr1 hBr2
      refine hK.out _ _ (fun _ => hSr2) ?_
      clear hK K hBr2
      simp only [Act.put, List.setIfInBounds_toArray, List.set_cons_zero, List.set_cons_succ]
      refine' WalkS.take0 9 _ (v := _) rfl (by kernel_rfl) (by kernel_rfl) (by kernel_rfl) (by kernel_rfl) (fun _ _ _ h => h) (Or.inl ⟨by rfl, ?hy6⟩) ?rest6
      case hy6 => (intro w9; go_simp <;> with_reducible rfl)
      simp only [Act.put, List.setIfInBounds_toArray, List.set_cons_zero, List.set_cons_succ]
      refine' WalkS.take0 10 _ (v := _) rfl (by kernel_rfl) (by kernel_rfl) (by kernel_rfl) (by kernel_rfl) (fun _ _ _ h => h) (Or.inl ⟨by rfl, ?hy7⟩) ?rest7
      case hy7 => (intro w9; go_simp <;> with_reducible rfl)
      simp only [Act.put, List.setIfInBounds_toArray, List.set_cons_zero, List.set_cons_succ]
      refine' WalkS.take0 11 _ (v := _) rfl (by kernel_rfl) (by kernel_rfl) (by kernel_rfl) (by kernel_rfl) (fun _ _ _ h => h) (Or.inl ⟨by rfl, ?hy8⟩) ?rest8
      case hy8 => (intro w9; go_simp <;> with_reducible rfl)
      simp only [Act.put, List.setIfInBounds_toArray, List.set_cons_zero, List.set_cons_succ]
      refine WalkS.take 12 _ (v := .agg (frC f (.slice g1 f.ms.length d1) (.slice g2 f.es.length d2))) rfl (by kernel_rfl) (by kernel_rfl) (by kernel_rfl) (by kernel_rfl) (by kernel_rfl) (fun _ _ _ h => h) (Or.inl ⟨by rfl, fun w9 h9 => loadRow_run rfl 47 (.tmp 7) rfl F rfl 47 (frC f (.slice g1 f.ms.length d1) (.slice g2 f.es.length d2)) (0, 0) _ ((h9.block F lF).trans RF.out) Tryd.underlying47 rfl (by kernel_rfl)⟩) ?_
      simp only [Act.put, List.setIfInBounds_toArray, List.set_cons_zero, List.set_cons_succ]
      refine WalkS.take 13 _ (v := .agg (frC g (.slice g5 g.ms.length d5) (.slice g6 g.es.length d6))) rfl (by kernel_rfl) (by kernel_rfl) (by kernel_rfl) (by kernel_rfl) (by kernel_rfl) (fun _ _ _ h => h) (Or.inl ⟨by rfl, fun w9 h9 => loadRow_run rfl 47 (.tmp 9) rfl G rfl 47 (frC g (.slice g5 g.ms.length d5) (.slice g6 g.es.length d6)) (0, 0) _ ((h9.block G lG).trans RG.out) Tryd.underlying47 rfl (by kernel_rfl)⟩) ?_
      simp only [Act.put, List.setIfInBounds_toArray, List.set_cons_zero, List.set_cons_succ]
      refine WalkS.take 15 _ (v := .agg (frC g (.slice g5 g.ms.length d5) (.slice g6 g.es.length d6))) rfl (by kernel_rfl) (by kernel_rfl) (by kernel_rfl) (by kernel_rfl) (by kernel_rfl) (fun _ _ _ h => h) (Or.inl ⟨by rfl, fun w9 h9 => loadRow_run rfl 47 (.tmp 9) rfl G rfl 47 (frC g (.slice g5 g.ms.length d5) (.slice g6 g.es.length d6)) (0, 0) _ ((h9.block G lG).trans RG.out) Tryd.underlying47 rfl (by kernel_rfl)⟩) ?_
      simp only [Act.put, List.setIfInBounds_toArray, List.set_cons_zero, List.set_cons_succ]
      refine WalkS.take 16 _ (v := .agg (frC f (.slice g1 f.ms.length d1) (.slice g2 f.es.length d2))) rfl (by kernel_rfl) (by kernel_rfl) (by kernel_rfl) (by kernel_rfl) (by kernel_rfl) (fun _ _ _ h => h) (Or.inl ⟨by rfl, fun w9 h9 => loadRow_run rfl 47 (.tmp 7) rfl F rfl 47 (frC f (.slice g1 f.ms.length d1) (.slice g2 f.es.length d2)) (0, 0) _ ((h9.block F lF).trans RF.out) Tryd.underlying47 rfl (by kernel_rfl)⟩) ?_
      simp only [Act.put, List.setIfInBounds_toArray, List.set_cons_zero, List.set_cons_succ]
      refine WalkS.each [14] (by kernel_rfl) rfl ?_
      refine EachS.cons 14 _ rfl (fun K hK => ?s9) EachS.nil
      go_simp
      refine (H3.out _ hSr2).mono ?_
      rintro e w13 ⟨r3, rfl, hr3, hBr3⟩
      have hSr3 := m_below_on hSr2 hBr3
      refine hK.out _ _ (fun _ => hSr3) ?_
      clear hK K hBr3
      simp only [Act.put, List.setIfInBounds_toArray, List.set_cons_zero, List.set_cons_succ]
      refine WalkS.each [17] (by kernel_rfl) rfl ?_
      refine EachS.cons 17 _ rfl (fun K hK => ?s10) EachS.nil
      go_simp
      refine (H4.out _ hSr3).mono ?_
      rintro e w14 ⟨r4, rfl, hr4, hBr4⟩
      obtain rfl : r4 = r3 := by cases r3 <;> cases r4 <;> first | rfl | exact absurd (hr4.1 rfl).symm (fun h => by cases (hr3.2 h)) | exact absurd (hr3.1 rfl).symm (fun h => by cases (hr4.2 h))
      clear hr3 hr4
      have hSr4 := m_below_on hSr3 hBr4
      refine hK.out _ _ (fun _ => hSr4) ?_
      clear hK K hBr4
      simp only [Act.put, List.setIfInBounds_toArray, List.set_cons_zero, List.set_cons_succ]
      cases r4
      case false =>
        refine' WalkS.take0 18 _ (v := _) rfl (by kernel_rfl) (by kernel_rfl) (by kernel_rfl) (by kernel_rfl) (fun _ _ _ h => h) (Or.inl ⟨by rfl, ?hy11⟩) ?rest11
        case hy11 => (intro w9; go_simp <;> with_reducible rfl)
        simp only [Act.put, List.setIfInBounds_toArray, List.set_cons_zero, List.set_cons_succ]
        refine' WalkS.take0 19 _ (v := _) rfl (by kernel_rfl) (by kernel_rfl) (by kernel_rfl) (by kernel_rfl) (fun _ _ _ h => h) (Or.inl ⟨by rfl, ?hy12⟩) ?rest12
        case hy12 => (intro w9; go_simp <;> with_reducible rfl)
        simp only [Act.put, List.setIfInBounds_toArray, List.set_cons_zero, List.set_cons_succ]
        refine' WalkS.take0 20 _ (v := _) rfl (by kernel_rfl) (by kernel_rfl) (by kernel_rfl) (by kernel_rfl) (fun _ _ _ h => h) (Or.inl ⟨by rfl, ?hy13⟩) ?rest13
        case hy13 => (intro w9; go_simp <;> with_reducible rfl)
        simp only [Act.put, List.setIfInBounds_toArray, List.set_cons_zero, List.set_cons_succ]
        refine WalkS.done (by kernel_rfl) ?_
        go_wp2_with fail
        go_ret
        exact ⟨rfl, HBC.out.trans (hSr4.mono HBC.out.size)⟩
      case true =>
        refine' WalkS.take0 18 _ (v := _) rfl (by kernel_rfl) (by kernel_rfl) (by kernel_rfl) (by kernel_rfl) (fun _ _ _ h => h) (Or.inl ⟨by rfl, ?hy14⟩) ?rest14
        case hy14 => (intro w9; go_simp <;> with_reducible rfl)
        simp only [Act.put, List.setIfInBounds_toArray, List.set_cons_zero, List.set_cons_succ]
        refine' WalkS.take0 19 _ (v := _) rfl (by kernel_rfl) (by kernel_rfl) (by kernel_rfl) (by kernel_rfl) (fun _ _ _ h => h) (Or.inl ⟨by rfl, ?hy15⟩) ?rest15
        case hy15 => (intro w9; go_simp <;> with_reducible rfl)
        simp only [Act.put, List.setIfInBounds_toArray, List.set_cons_zero, List.set_cons_succ]
        refine' WalkS.take0 20 _ (v := _) rfl (by kernel_rfl) (by kernel_rfl) (by kernel_rfl) (by kernel_rfl) (fun _ _ _ h => h) (Or.inl ⟨by rfl, ?hy16⟩) ?rest16
        case hy16 => (intro w9; go_simp <;> with_reducible rfl)
        simp only [Act.put, List.setIfInBounds_toArray, List.set_cons_zero, List.set_cons_succ]
        refine WalkS.done (by kernel_rfl) ?_
        go_wp2_with fail
        go_ret
        exact ⟨rfl, HBC.out.trans (hSr4.mono HBC.out.size)⟩
    case true =>
      go_upto_region 25 with fail
      have hS0 : Below wc.heap.size wc wc.drew := by go_grown
      refine WalkS.begin (fun w' => Below wc.heap.size wc w') [] (by kernel_rfl) hS0 ?_
      simp only [List.size_toArray, List.length_cons, List.length_nil, Nat.zero_add, Nat.reduceAdd, show Array.replicate 21 false = #[false, false, false, false, false, false, false, false, false, false, false, false, false, false, false, false, false, false, false, false, false] from rfl]
      refine WalkS.take 0 _ (v := .agg (frC f (.slice g1 f.ms.length d1) (.slice g2 f.es.length d2))) rfl (by kernel_rfl) (by kernel_rfl) (by kernel_rfl) (by kernel_rfl) (by kernel_rfl) (fun _ _ _ h => h) (Or.inl ⟨by rfl, fun w9 h9 => loadRow_run rfl 47 (.tmp 7) rfl F rfl 47 (frC f (.slice g1 f.ms.length d1) (.slice g2 f.es.length d2)) (0, 0) _ ((h9.block F lF).trans RF.out) Tryd.underlying47 rfl (by kernel_rfl)⟩) ?_
      simp only [Act.put, List.setIfInBounds_toArray, List.set_cons_zero, List.set_cons_succ]
      refine WalkS.take 1 _ (v := .agg (frC f (.slice g1 f.ms.length d1) (.slice g2 f.es.length d2))) rfl (by kernel_rfl) (by kernel_rfl) (by kernel_rfl) (by kernel_rfl) (by kernel_rfl) (fun _ _ _ h => h) (Or.inl ⟨by rfl, fun w9 h9 => loadRow_run rfl 47 (.tmp 7) rfl F rfl 47 (frC f (.slice g1 f.ms.length d1) (.slice g2 f.es.length d2)) (0, 0) _ ((h9.block F lF).trans RF.out) Tryd.underlying47 rfl (by kernel_rfl)⟩) ?_
      simp only [Act.put, List.setIfInBounds_toArray, List.set_cons_zero, List.set_cons_succ]
      refine WalkS.each [2] (by kernel_rfl) rfl ?_
      refine EachS.cons 2 _ rfl (fun K hK => ?s17) EachS.nil
      go_simp
      refine (H1.out _ hS0).mono ?_
      rintro e w11 ⟨r1, rfl, hr1, hBr1⟩
      obtain rfl : r1 = true := hr1.2 rfl
      clear hr1
      have hSr1 := m_below_on hS0 hBr1
      refine hK.out _ _ (fun _ => hSr1) ?_
      clear hK K hBr1
      simp only [Act.put, List.setIfInBounds_toArray, List.set_cons_zero, List.set_cons_succ]
      refine' WalkS.take0 3 _ (v := _) rfl (by kernel_rfl) (by kernel_rfl) (by kernel_rfl) (by kernel_rfl) (fun _ _ _ h => h) (Or.inl ⟨by rfl, ?hy18⟩) ?rest18
      case hy18 => (intro w9; go_simp <;> with_reducible rfl)
      simp only [Act.put, List.setIfInBounds_toArray, List.set_cons_zero, List.set_cons_succ]
      refine WalkS.take 4 _ (v := .agg (frC z sz tz)) rfl (by kernel_rfl) (by kernel_rfl) (by kernel_rfl) (by kernel_rfl) (by kernel_rfl) (fun _ _ _ h => h) (Or.inl ⟨by rfl, fun w9 h9 => loadRow_run rfl 47 (.tmp 11) rfl Z rfl 47 (frC z sz tz) (0, 0) _ ((h9.block Z lZ).trans RZ.out) Tryd.underlying47 rfl (by kernel_rfl)⟩) ?_
      simp only [Act.put, List.setIfInBounds_toArray, List.set_cons_zero, List.set_cons_succ]
      refine WalkS.take 5 _ (v := .agg (frC f (.slice g1 f.ms.length d1) (.slice g2 f.es.length d2))) rfl (by kernel_rfl) (by kernel_rfl) (by kernel_rfl) (by kernel_rfl) (by kernel_rfl) (fun _ _ _ h => h) (Or.inl ⟨by rfl, fun w9 h9 => loadRow_run rfl 47 (.tmp 7) rfl F rfl 47 (frC f (.slice g1 f.ms.length d1) (.slice g2 f.es.length d2)) (0, 0) _ ((h9.block F lF).trans RF.out) Tryd.underlying47 rfl (by kernel_rfl)⟩) ?_
      simp only [Act.put, List.setIfInBounds_toArray, List.set_cons_zero, List.set_cons_succ]
      refine' WalkS.take0 7 _ (v := _) rfl (by kernel_rfl) (by kernel_rfl) (by kernel_rfl) (by kernel_rfl) (fun _ _ _ h => h) (Or.inl ⟨by rfl, ?hy19⟩) ?rest19
      case hy19 => (intro w9; go_simp <;> with_reducible rfl)
      simp only [Act.put, List.setIfInBounds_toArray, List.set_cons_zero, List.set_cons_succ]
      refine' WalkS.take0 8 _ (v := _) rfl (by kernel_rfl) (by kernel_rfl) (by kernel_rfl) (by kernel_rfl) (fun _ _ _ h => h) (Or.inl ⟨by rfl, ?hy20⟩) ?rest20
      case hy20 => (intro w9; go_simp <;> with_reducible rfl)
      simp only [Act.put, List.setIfInBounds_toArray, List.set_cons_zero, List.set_cons_succ]
      refine WalkS.each [6] (by kernel_rfl) rfl ?_
      refine EachS.cons 6 _ rfl (fun K hK => ?s21) EachS.nil
      go_simp
      refine (H2.out _ hSr1).mono ?_
      rintro e w12 ⟨r2, rfl, hr2, hBr2⟩
      obtain rfl : r2 = false := by cases r2 with | false => rfl | true => exact absurd (HZF.out.1 (hr2.1 rfl)) (by decide)
      clear hr2
      have hSr2 := m_below_on hSr1 hBr2
      refine hK.out _ _ (fun _ => hSr2) ?_
      clear hK K hBr2
      simp only [Act.put, List.setIfInBounds_toArray, List.set_cons_zero, List.set_cons_succ]
      refine' WalkS.take0 9 _ (v := _) rfl (by kernel_rfl) (by kernel_rfl) (by kernel_rfl) (by kernel_rfl) (fun _ _ _ h => h) (Or.inl ⟨by rfl, ?hy22⟩) ?rest22
      case hy22 => (intro w9; go_simp <;> with_reducible rfl)
      simp only [Act.put, List.setIfInBounds_toArray, List.set_cons_zero, List.set_cons_succ]
      refine' WalkS.take0 10 _ (v := _) rfl (by kernel_rfl) (by kernel_rfl) (by kernel_rfl) (by kernel_rfl) (fun _ _ _ h => h) (Or.inl ⟨by rfl, ?hy23⟩) ?rest23
      case hy23 => (intro w9; go_simp <;> with_reducible rfl)
      simp only [Act.put, List.setIfInBounds_toArray, List.set_cons_zero, List.set_cons_succ]
      refine' WalkS.take0 11 _ (v := _) rfl (by kernel_rfl) (by kernel_rfl) (by kernel_rfl) (by kernel_rfl) (fun _ _ _ h => h) (Or.inl ⟨by rfl, ?hy24⟩) ?rest24
      case hy24 => (intro w9; go_simp <;> with_reducible rfl)
      simp only [Act.put, List.setIfInBounds_toArray, List.set_cons_zero, List.set_cons_succ]
      refine WalkS.take 12 _ (v := .agg (frC f (.slice g1 f.ms.length d1) (.slice g2 f.es.length d2))) rfl (by kernel_rfl) (by kernel_rfl) (by kernel_rfl) (by kernel_rfl) (by kernel_rfl) (fun _ _ _ h => h) (Or.inl ⟨by rfl, fun w9 h9 => loadRow_run rfl 47 (.tmp 7) rfl F rfl 47 (frC f (.slice g1 f.ms.length d1) (.slice g2 f.es.length d2)) (0, 0) _ ((h9.block F lF).trans RF.out) Tryd.underlying47 rfl (by kernel_rfl)⟩) ?_
      simp only [Act.put, List.setIfInBounds_toArray, List.set_cons_zero, List.set_cons_succ]
      refine WalkS.take 13 _ (v := .agg (frC g (.slice g5 g.ms.length d5) (.slice g6 g.es.length d6))) rfl (by kernel_rfl) (by kernel_rfl) (by kernel_rfl) (by kernel_rfl) (by kernel_rfl) (fun _ _ _ h => h) (Or.inl ⟨by rfl, fun w9 h9 => loadRow_run rfl 47 (.tmp 9) rfl G rfl 47 (frC g (.slice g5 g.ms.length d5) (.slice g6 g.es.length d6)) (0, 0) _ ((h9.block G lG).trans RG.out) Tryd.underlying47 rfl (by kernel_rfl)⟩) ?_
      simp only [Act.put, List.setIfInBounds_toArray, List.set_cons_zero, List.set_cons_succ]
      refine WalkS.take 15 _ (v := .agg (frC g (.slice g5 g.ms.length d5) (.slice g6 g.es.length d6))) rfl (by kernel_rfl) (by kernel_rfl) (by kernel_rfl) (by kernel_rfl) (by kernel_rfl) (fun _ _ _ h => h) (Or.inl ⟨by rfl, fun w9 h9 => loadRow_run rfl 47 (.tmp 9) rfl G rfl 47 (frC g (.slice g5 g.ms.length d5) (.slice g6 g.es.length d6)) (0, 0) _ ((h9.block G lG).trans RG.out) Tryd.underlying47 rfl (by kernel_rfl)⟩) ?_
      simp only [Act.put, List.setIfInBounds_toArray, List.set_cons_zero, List.set_cons_succ]
      refine WalkS.take 16 _ (v := .agg (frC f (.slice g1 f.ms.length d1) (.slice g2 f.es.length d2))) rfl (by kernel_rfl) (by kernel_rfl) (by kernel_rfl) (by kernel_rfl) (by kernel_rfl) (fun _ _ _ h => h) (Or.inl ⟨by rfl, fun w9 h9 => loadRow_run rfl 47 (.tmp 7) rfl F rfl 47 (frC f (.slice g1 f.ms.length d1) (.slice g2 f.es.length d2)) (0, 0) _ ((h9.block F lF).trans RF.out) Tryd.underlying47 rfl (by kernel_rfl)⟩) ?_
      simp only [Act.put, List.setIfInBounds_toArray, List.set_cons_zero, List.set_cons_succ]
      refine WalkS.each [14] (by kernel_rfl) rfl ?_
      refine EachS.cons 14 _ rfl (fun K hK => ?s25) EachS.nil
      go_simp
      refine (H3.out _ hSr2).mono ?_
      rintro e w13 ⟨r3, rfl, hr3, hBr3⟩
      have hSr3 := m_below_on hSr2 hBr3
      refine hK.out _ _ (fun _ => hSr3) ?_
      clear hK K hBr3
      simp only [Act.put, List.setIfInBounds_toArray, List.set_cons_zero, List.set_cons_succ]
      refine WalkS.each [17] (by kernel_rfl) rfl ?_
      refine EachS.cons 17 _ rfl (fun K hK => ?s26) EachS.nil
      go_simp
      refine (H4.out _ hSr3).mono ?_
      rintro e w14 ⟨r4, rfl, hr4, hBr4⟩
      obtain rfl : r4 = r3 := by cases r3 <;> cases r4 <;> first | rfl | exact absurd (hr4.1 rfl).symm (fun h => by cases (hr3.2 h)) | exact absurd (hr3.1 rfl).symm (fun h => by cases (hr4.2 h))
      clear hr3 hr4
      have hSr4 := m_below_on hSr3 hBr4
      refine hK.out _ _ (fun _ => hSr4) ?_
      clear hK K hBr4
      simp only [Act.put, List.setIfInBounds_toArray, List.set_cons_zero, List.set_cons_succ]
      cases r4
      case false =>
        refine' WalkS.take0 18 _ (v := _) rfl (by kernel_rfl) (by kernel_rfl) (by kernel_rfl) (by kernel_rfl) (fun _ _ _ h => h) (Or.inl ⟨by rfl, ?hy27⟩) ?rest27
        case hy27 => (intro w9; go_simp <;> with_reducible rfl)
        simp only [Act.put, List.setIfInBounds_toArray, List.set_cons_zero, List.set_cons_succ]
        refine' WalkS.take0 19 _ (v := _) rfl (by kernel_rfl) (by kernel_rfl) (by kernel_rfl) (by kernel_rfl) (fun _ _ _ h => h) (Or.inl ⟨by rfl, ?hy28⟩) ?rest28
        case hy28 => (intro w9; go_simp <;> with_reducible rfl)
        simp only [Act.put, List.setIfInBounds_toArray, List.set_cons_zero, List.set_cons_succ]
        refine' WalkS.take0 20 _ (v := _) rfl (by kernel_rfl) (by kernel_rfl) (by kernel_rfl) (by kernel_rfl) (fun _ _ _ h => h) (Or.inl ⟨by rfl, ?hy29⟩) ?rest29
        case hy29 => (intro w9; go_simp <;> with_reducible rfl)
        simp only [Act.put, List.setIfInBounds_toArray, List.set_cons_zero, List.set_cons_succ]
        refine WalkS.done (by kernel_rfl) ?_
        go_wp2_with fail
        go_ret
        exact ⟨rfl, HBC.out.trans (hSr4.mono HBC.out.size)⟩
      case true =>
        refine' WalkS.take0 18 _ (v := _) rfl (by kernel_rfl) (by kernel_rfl) (by kernel_rfl) (by kernel_rfl) (fun _ _ _ h => h) (Or.inl ⟨by rfl, ?hy30⟩) ?rest30
        case hy30 => (intro w9; go_simp <;> with_reducible rfl)
        simp only [Act.put, List.setIfInBounds_toArray, List.set_cons_zero, List.set_cons_succ]
        refine' WalkS.take0 19 _ (v := _) rfl (by kernel_rfl) (by kernel_rfl) (by kernel_rfl) (by kernel_rfl) (fun _ _ _ h => h) (Or.inl ⟨by rfl, ?hy31⟩) ?rest31
        case hy31 => (intro w9; go_simp <;> with_reducible rfl)
        simp only [Act.put, List.setIfInBounds_toArray, List.set_cons_zero, List.set_cons_succ]
        refine' WalkS.take0 20 _ (v := _) rfl (by kernel_rfl) (by kernel_rfl) (by kernel_rfl) (by kernel_rfl) (fun _ _ _ h => h) (Or.inl ⟨by rfl, ?hy32⟩) ?rest32
        case hy32 => (intro w9; go_simp <;> with_reducible rfl)
        simp only [Act.put, List.setIfInBounds_toArray, List.set_cons_zero, List.set_cons_succ]
        refine WalkS.done (by kernel_rfl) ?_
        go_wp2_with fail
        go_ret
        exact ⟨rfl, HBC.out.trans (hSr4.mono HBC.out.size)⟩
theorem sames_any (x y : Fr) (a1 a2 b1 b2 : Option Addr) (n1 n2 k1 k2 i1 i2 j1 j2 : Nat) (q : Nat) (w : World) (henv : FEnv w) (hq : q < 256)
    (hn1 : n1 = x.ms.length) (hn2 : n2 = x.es.length) (hm : 0 < n1 → memR.At w (.slice a1 n1 k1) x.ms) (he : 0 < n2 → entR.At w (.slice a2 n2 k2) x.es) (l1 : n1 ≤ maxLen) (l2 : n2 ≤ maxLen)
    (hi1 : i1 = y.ms.length) (hi2 : i2 = y.es.length) (gm : 0 < i1 → memR.At w (.slice b1 i1 j1) y.ms) (ge : 0 < i2 → entR.At w (.slice b2 i2 j2) y.es) (l3 : i1 ≤ maxLen) (l4 : i2 ≤ maxLen) :
    Calls Tryd.prog 5 #[.agg (frC x (.slice a1 n1 k1) (.slice a2 n2 k2)), .agg (frC y (.slice b1 i1 j1) (.slice b2 i2 j2)), .int .u8 q] w (retB true w) := by
  have h : q % 9 = 0 ∨ q % 9 = 1 ∨ q % 9 = 2 ∨ q % 9 = 3 ∨ q % 9 = 4 ∨ q % 9 = 5 ∨ q % 9 = 6 ∨ q % 9 = 7 ∨ q % 9 = 8 := by omega
  rcases h with h | h | h | h | h | h | h | h | h
  · exact sames_0 x y a1 a2 b1 b2 n1 n2 k1 k2 i1 i2 j1 j2 q w henv hq h hn1 hn2 hm he l1 l2 hi1 hi2 gm ge l3 l4
  · exact sames_1 x y a1 a2 b1 b2 n1 n2 k1 k2 i1 i2 j1 j2 q w henv hq h hn1 hn2 hm he l1 l2 hi1 hi2 gm ge l3 l4
  · exact sames_2 x y a1 a2 b1 b2 n1 n2 k1 k2 i1 i2 j1 j2 q w henv hq h hn1 hn2 hm he l1 l2 hi1 hi2 gm ge l3 l4
  · exact sames_3 x y a1 a2 b1 b2 n1 n2 k1 k2 i1 i2 j1 j2 q w henv hq h hn1 hn2 hm he l1 l2 hi1 hi2 gm ge l3 l4
  · exact sames_4 x y a1 a2 b1 b2 n1 n2 k1 k2 i1 i2 j1 j2 q w henv hq h hn1 hn2 hm he l1 l2 hi1 hi2 gm ge l3 l4
  · exact sames_5 x y a1 a2 b1 b2 n1 n2 k1 k2 i1 i2 j1 j2 q w henv hq h hn1 hn2 hm he l1 l2 hi1 hi2 gm ge l3 l4
  · exact sames_6 x y a1 a2 b1 b2 n1 n2 k1 k2 i1 i2 j1 j2 q w henv hq h hn1 hn2 hm he l1 l2 hi1 hi2 gm ge l3 l4
  · exact sames_7 x y a1 a2 b1 b2 n1 n2 k1 k2 i1 i2 j1 j2 q w henv hq h hn1 hn2 hm he l1 l2 hi1 hi2 gm ge l3 l4
  · exact sames_8 x y a1 a2 b1 b2 n1 n2 k1 k2 i1 i2 j1 j2 q w henv hq h hn1 hn2 hm he l1 l2 hi1 hi2 gm ge l3 l4
end Go.Proofs.YtodajejjhfpdmaaDoor
