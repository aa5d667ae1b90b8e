/-
  FrameSames: the walk, cases 0 to 4.
-/
import Derived.Test.YtodajejjhfpdmaaDoorFrsD
namespace Go.Proofs.YtodajejjhfpdmaaDoor
open Go.RowKit Go.Instr

set_option maxHeartbeats 8000000 in
set_option maxRecDepth 20000 in
theorem sames_0 (x y : Fr) (a1 a2 b1 b2 : Option Addr) (n1 n2 k1 k2 i1 i2 j1 j2 : Nat) (q : Nat) (w : World) (henv : FEnv w) (hq : q < 256) (hqm : q % 9 = 0)
    (hn1 : n1 = x.ms.length) (hn2 : n2 = x.es.length) (hm : 0 < n1 → memR.At w (.slice a1 n1 k1) x.ms) (he : 0 < n2 → entR.At w (.slice a2 n2 k2) x.es) (l1 : n1 ≤ maxLen) (l2 : n2 ≤ maxLen)
    (hi1 : i1 = y.ms.length) (hi2 : i2 = y.es.length) (gm : 0 < i1 → memR.At w (.slice b1 i1 j1) y.ms) (ge : 0 < i2 → entR.At w (.slice b2 i2 j2) y.es) (l3 : i1 ≤ maxLen) (l4 : i2 ≤ maxLen) :
    Calls Tryd.prog 5 #[.agg (frC x (.slice a1 n1 k1) (.slice a2 n2 k2)), .agg (frC y (.slice b1 i1 j1) (.slice b2 i2 j2)), .int .u8 q] w (retB true w) := by
  have HN := Lib.hid (And.intro hn1 (And.intro hn2 (And.intro hi1 hi2)))
  have HM := Lib.hid (And.intro hm (And.intro he (And.intro gm ge)))
  obtain ⟨w0, hw0⟩ : ∃ w0, w0 = (w.alloc (.cells (frC x (.slice a1 n1 k1) (.slice a2 n2 k2)) 29)).alloc (.cells (frC y (.slice b1 i1 j1) (.slice b2 i2 j2)) 29) := ⟨_, rfl⟩
  have hB0 : Below w.heap.size w w0 := by rw [hw0]; go_grown
  have hX0 : Blk (w.alloc (.cells (frC x (.slice a1 n1 k1) (.slice a2 n2 k2)) 29)) w.heap.size (frC x (.slice a1 n1 k1) (.slice a2 n2 k2)) 29 := Blk.new rfl
  have HX0 := Lib.hid (show Blk w0 w.heap.size (frC x (.slice a1 n1 k1) (.slice a2 n2 k2)) 29 by rw [hw0]; exact hX0.alloc _)
  have HY0 := Lib.hid (show Blk w0 (w.heap.size + 1) (frC y (.slice b1 i1 j1) (.slice b2 i2 j2)) 29 by rw [hw0]; exact Blk.new (by simp))
  have HB0 := Lib.hid hB0
  have H1 := Lib.hid (speaks_any w0 (henv.on hB0 henv.pos))
  clear henv hm he gm ge hn1 hn2 hi1 hi2 hB0 hX0
  go_enter Tryd.func5, Tryd.ntmps5
  go_upto_region 1 with fail
  rw [← hw0]
  clear hw0
  go_wp2_with fail
  with_reducible refine H1.out.mono ?_
  rintro e w2 ⟨rfl, hB2⟩
  have HX2 := Lib.hid (HX0.out.on hB2)
  have HY2 := Lib.hid (HY0.out.on hB2)
  have HB2 := Lib.hid (m_below_on HB0.out hB2)
  have R2 := Lib.hid (blk_raw HX2.out)
  have H2 := Lib.hid (told_any x a1 a2 n1 n2 k1 k2 w2 HN.out.1 HN.out.2.1 (fun h => (HM.out.1 h).on HB2.out) (fun h => (HM.out.2.1 h).on HB2.out) l1 l2)
  clear H1 hB2 HX0 HY0 HB0
  go_wp2_with (first | (refine wpList_load_row rfl 29 (.tmp 3) rfl w.heap.size rfl 29 (frC x (.slice a1 n1 k1) (.slice a2 n2 k2)) (0, 0) _ R2.out Tryd.underlying29 rfl (by kernel_rfl) ?_))
  with_reducible refine H2.out.mono ?_
  rintro e w4 ⟨s1, t1, s2, t2, rfl, hB4, m1, e1, m2, e2⟩
  obtain ⟨f, hf⟩ : ∃ f, f = toldF x := ⟨_, rfl⟩
  rw [← hf] at m1 e1 m2 e2 ⊢
  have hfl : f.ms.length ≤ 10 ∧ f.es.length ≤ 18 := by rw [hf]; exact ⟨by simp [toldF]; omega, by simp [toldF]; omega⟩
  obtain ⟨g1, d1, rfl⟩ := m1.len
  obtain ⟨g2, d2, rfl⟩ := e1.len
  obtain ⟨g3, d3, rfl⟩ := m2.len
  obtain ⟨g4, d4, rfl⟩ := e2.len
  have HP := Lib.hid (told_put (s2 := .slice g3 f.ms.length d3) (t2 := .slice g4 f.es.length d4) m1 e1)
  have HB4 := Lib.hid (m_below_on HB2.out hB4)
  have HY4 := Lib.hid (HY2.out.on hB4)
  have NF0 : Blk (w4.alloc (.cells z34 47)) w4.heap.size z34 47 := Blk.new rfl
  have NF := Lib.hid (NF0.alloc (.cells z34 52))
  have NR := Lib.hid (show Blk ((w4.alloc (.cells z34 47)).alloc (.cells z34 52)) (w4.heap.size + 1) z34 52 from Blk.new (by simp))
  have O1 := Lib.hid (frC_one f g1 g2 f.ms.length f.es.length d1 d2)
  have O2 := Lib.hid (frC_one f g3 g4 f.ms.length f.es.length d3 d4)
  have hne : w4.heap.size + 1 ≠ w4.heap.size := by omega
  have NR2 := Lib.hid ((setRow_other ((w4.alloc (.cells z34 47)).alloc (.cells z34 52)) w4.heap.size (w4.heap.size + 1) (frC f (.slice g1 f.ms.length d1) (.slice g2 f.es.length d2)) hne).trans (blk_raw NR.out))
  clear H2 hB4 m1 e1 m2 e2 hf NF0 R2 HX2 HY2 HB2
  go_upto_region 4 with (first | (refine wpList_store_row rfl 47 (.tmp 7) (.tmp 18) rfl w4.heap.size (frC f (.slice g1 f.ms.length d1) (.slice g2 f.es.length d2)) rfl rfl 47 z34 (blk_raw NF.out) (by kernel_rfl) rfl O1.out ?_) | (refine wpList_store_row rfl 52 (.tmp 8) (.tmp 19) rfl (w4.heap.size + 1) (frC f (.slice g3 f.ms.length d3) (.slice g4 f.es.length d4)) rfl rfl 52 z34 NR2.out (by kernel_rfl) rfl O2.out ?_))
  obtain ⟨w5, hw5⟩ : ∃ w5, w5 = (((w4.alloc (.cells z34 47)).alloc (.cells z34 52)).setRow w4.heap.size (frC f (.slice g1 f.ms.length d1) (.slice g2 f.es.length d2))).setRow (w4.heap.size + 1) (frC f (.slice g3 f.ms.length d3) (.slice g4 f.es.length d4)) := ⟨_, rfl⟩
  rw [← hw5] at HP ⊢
  obtain ⟨F, hF⟩ : ∃ F, F = w4.heap.size := ⟨_, rfl⟩
  rw [← hF] at HP ⊢
  have HF5 := Lib.hid HP.out.1
  have HB5 := Lib.hid (HB4.out.trans ((show Below w4.heap.size w4 w5 by rw [← hF]; exact HP.out.2).mono HB4.out.size))
  have HY5 := Lib.hid (HY4.out.on (show Below w4.heap.size w4 w5 by rw [← hF]; exact HP.out.2))
  have HFw : w.heap.size + 1 < F := by rw [hF]; exact HY4.out.lt
  have R5 := Lib.hid (blk_raw HY5.out)
  have H3 := Lib.hid (told_any y b1 b2 i1 i2 j1 j2 w5 HN.out.2.2.1 HN.out.2.2.2 (fun h => (HM.out.2.2.1 h).on HB5.out) (fun h => (HM.out.2.2.2 h).on HB5.out) l3 l4)
  clear hw5 hF NF NR NR2 O1 O2 HP HB4 HY4 hne
  generalize F + 1 = F1
  go_wp2_with (first | (refine wpList_load_row rfl 29 (.tmp 4) rfl (w.heap.size + 1) rfl 29 (frC y (.slice b1 i1 j1) (.slice b2 i2 j2)) (0, 0) _ R5.out Tryd.underlying29 rfl (by kernel_rfl) ?_))
  with_reducible refine H3.out.mono ?_
  rintro e w6 ⟨s5, t5, s6, t6, rfl, hB6, m1, e1, m2, e2⟩
  obtain ⟨g, hg⟩ : ∃ g, g = toldF y := ⟨_, rfl⟩
  rw [← hg] at m1 e1 m2 e2 ⊢
  have hgl : g.ms.length ≤ 10 ∧ g.es.length ≤ 18 := by rw [hg]; exact ⟨by simp [toldF]; omega, by simp [toldF]; omega⟩
  obtain ⟨g5, d5, rfl⟩ := m1.len
  obtain ⟨g6, d6, rfl⟩ := e1.len
  obtain ⟨g7, d7, rfl⟩ := m2.len
  obtain ⟨g8, d8, rfl⟩ := e2.len
  have HP := Lib.hid (told_put (s2 := .slice g7 g.ms.length d7) (t2 := .slice g8 g.es.length d8) m1 e1)
  have HB6 := Lib.hid (m_below_on HB5.out hB6)
  have HF6 := Lib.hid (HF5.out.on hB6)
  have NF0 : Blk (w6.alloc (.cells z34 47)) w6.heap.size z34 47 := Blk.new rfl
  have NF := Lib.hid (NF0.alloc (.cells z34 52))
  have NR := Lib.hid (show Blk ((w6.alloc (.cells z34 47)).alloc (.cells z34 52)) (w6.heap.size + 1) z34 52 from Blk.new (by simp))
  have O1 := Lib.hid (frC_one g g5 g6 g.ms.length g.es.length d5 d6)
  have O2 := Lib.hid (frC_one g g7 g8 g.ms.length g.es.length d7 d8)
  have hne : w6.heap.size + 1 ≠ w6.heap.size := by omega
  have NR2 := Lib.hid ((setRow_other ((w6.alloc (.cells z34 47)).alloc (.cells z34 52)) w6.heap.size (w6.heap.size + 1) (frC g (.slice g5 g.ms.length d5) (.slice g6 g.es.length d6)) hne).trans (blk_raw NR.out))
  clear H3 hB6 m1 e1 m2 e2 hg NF0 R5 HF5 HY5 HB5
  go_upto_region 5 with (first | (refine wpList_store_row rfl 47 (.tmp 9) (.tmp 23) rfl w6.heap.size (frC g (.slice g5 g.ms.length d5) (.slice g6 g.es.length d6)) rfl rfl 47 z34 (blk_raw NF.out) (by kernel_rfl) rfl O1.out ?_) | (refine wpList_store_row rfl 52 (.tmp 10) (.tmp 24) rfl (w6.heap.size + 1) (frC g (.slice g7 g.ms.length d7) (.slice g8 g.es.length d8)) rfl rfl 52 z34 NR2.out (by kernel_rfl) rfl O2.out ?_))
  obtain ⟨w7, hw7⟩ : ∃ w7, w7 = (((w6.alloc (.cells z34 47)).alloc (.cells z34 52)).setRow w6.heap.size (frC g (.slice g5 g.ms.length d5) (.slice g6 g.es.length d6))).setRow (w6.heap.size + 1) (frC g (.slice g7 g.ms.length d7) (.slice g8 g.es.length d8)) := ⟨_, rfl⟩
  rw [← hw7] at HP ⊢
  obtain ⟨G, hG⟩ : ∃ G, G = w6.heap.size := ⟨_, rfl⟩
  rw [← hG] at HP ⊢
  have HG7 := Lib.hid HP.out.1
  have HB7 := Lib.hid (HB6.out.trans ((show Below w6.heap.size w6 w7 by rw [← hG]; exact HP.out.2).mono HB6.out.size))
  have HF7 := Lib.hid (HF6.out.on (show Below w6.heap.size w6 w7 by rw [← hG]; exact HP.out.2))
  have HFG : F < G := by rw [hG]; exact HF6.out.b.lt
  clear hw7 hG NF NR NR2 O1 O2 HP HB6 HF6 hne
  generalize G + 1 = G1
  have R7 := Lib.hid (blk_raw HF7.out.b)
  have NZ := Lib.hid (Blk.new (w := w7) (B := w7.heap.size) (T := 47) (cs := z34) rfl)
  have OZ := Lib.hid (frC_one f g1 g2 f.ms.length f.es.length d1 d2)
  go_upto_region 7 with (first | (refine wpList_load_row rfl 47 (.tmp 7) rfl F rfl 47 (frC f (.slice g1 f.ms.length d1) (.slice g2 f.es.length d2)) (0, 0) _ R7.out Tryd.underlying47 rfl (by kernel_rfl) ?_) | (refine wpList_store_row rfl 47 (.tmp 11) (.tmp 25) rfl w7.heap.size (frC f (.slice g1 f.ms.length d1) (.slice g2 f.es.length d2)) rfl rfl 47 z34 (blk_raw NZ.out) (by kernel_rfl) rfl OZ.out ?_))
  obtain ⟨w8, hw8⟩ : ∃ w8, w8 = (w7.alloc (.cells z34 47)).setRow w7.heap.size (frC f (.slice g1 f.ms.length d1) (.slice g2 f.es.length d2)) := ⟨_, rfl⟩
  have hB8 : Below w7.heap.size w7 w8 := by rw [hw8]; exact below_sr (by go_grown) (Nat.le_refl _) _
  have HZ8 := Lib.hid (show FrB w8 w7.heap.size f (.slice g1 f.ms.length d1) (.slice g2 f.es.length d2) from ⟨by rw [hw8]; exact setRow_blk _ NZ.out, HF7.out.m.on hB8, HF7.out.e.on hB8⟩)
  rw [← hw8]
  obtain ⟨Z, hZ⟩ : ∃ Z, Z = w7.heap.size := ⟨_, rfl⟩
  rw [← hZ] at HZ8 ⊢
  have HZ8x := HZ8
  have HF8 := Lib.hid (HF7.out.on hB8)
  have HG8 := Lib.hid (HG7.out.on hB8)
  have HB8 := Lib.hid (m_below_on HB7.out hB8)
  have HGZ : G < Z := by rw [hZ]; exact HG7.out.b.lt
  have HZE := Lib.hid hZ
  have HBZ := Lib.hid (show Below Z w7 w8 by rw [hZ]; exact hB8)
  have HW7 := Lib.hid (And.intro HF7.out.m (And.intro HF7.out.e (And.intro HG7.out.m HG7.out.e)))
  have HFB := Lib.hid HF7.out.b
  have HGB := Lib.hid HG7.out.b
  have HBW := Lib.hid HB7.out
  clear hw8 hZ hB8 R7 NZ OZ HF7 HG7 HB7 HZ8
  have HZ8 := Lib.hid HZ8x.out.b
  have htm : (q : Int) % 9 = 0 := by omega
  go_upto_block 0 with fail
  rw [htm]
  clear htm hqm
  go_cut [12] from 147 (fun u wx => SamesCut f w7 Z u wx)
  case first =>
    rename_i JJ KK hJJ hKK
    have HJ := Lib.hid hJJ
    clear hJJ
    have nFZ : F ≠ Z := by omega
    have nGZ : G ≠ Z := by omega
    have lF := HF8.out.b.lt
    have lG := HG8.out.b.lt
    have lZ := HZ8.out.lt
    rcases Decidable.em (f.kind = g.kind) with e0 | ne0
    case inr =>
      have cF0 : w8.cell? ⟨F, 0, none⟩ = some (.int .u8 f.kind) := HF8.out.b.cell 0
      have cG0 : w8.cell? ⟨G, 0, none⟩ = some (.int .u8 g.kind) := HG8.out.b.cell 0
      have cZ0 : w8.cell? ⟨Z, 0, none⟩ = some (.int .u8 f.kind) := HZ8.out.cell 0
      have fZ0 := HZ8.out.frozen 0
      have cF1 : w8.cell? ⟨F, 1, none⟩ = some (.int .u8 f.frm) := HF8.out.b.cell 1
      have cG1 : w8.cell? ⟨G, 1, none⟩ = some (.int .u8 g.frm) := HG8.out.b.cell 1
      have cZ1 : w8.cell? ⟨Z, 1, none⟩ = some (.int .u8 f.frm) := HZ8.out.cell 1
      have fZ1 := HZ8.out.frozen 1
      have cF2 : w8.cell? ⟨F, 2, none⟩ = some (.int .u8 f.dest) := HF8.out.b.cell 2
      have cG2 : w8.cell? ⟨G, 2, none⟩ = some (.int .u8 g.dest) := HG8.out.b.cell 2
      have cZ2 : w8.cell? ⟨Z, 2, none⟩ = some (.int .u8 f.dest) := HZ8.out.cell 2
      have fZ2 := HZ8.out.frozen 2
      have hz : ¬ (f.kind : Int) = (g.kind : Int) := by omega
      go_upto_region 10 with fail
      go_region
      go_wp2_with fail
      refine Met.intro (HJ.out _ _ ?_)
      repeat apply Exists.intro
      refine ⟨?_, rfl⟩
      exact ⟨{ f with kind := g.kind, frm := g.frm, dest := g.dest }, (.slice g1 f.ms.length d1), (.slice g2 f.es.length d2), true, (by first | rfl | (simp [hz]; done) | (simp; done)), ⟨fun h => absurd (congrArg (fun z : Fr => z.kind) h).symm ne0, fun h => by cases h⟩, hfl.1, hfl.2, HW7.out.1, HW7.out.2.1, ((((HZ8.out.on (show Below w8.heap.size w8 w8.drew by go_grown)).set 0 (.int .u8 g.kind) _ rfl).set 1 (.int .u8 g.frm) _ rfl).set 2 (.int .u8 g.dest) (frC { f with kind := g.kind, frm := g.frm, dest := g.dest } (.slice g1 f.ms.length d1) (.slice g2 f.es.length d2)) rfl), ((((HBZ.out.trans (show Below Z w8 w8.drew by go_grown)).setCell (p := ⟨Z, 0, none⟩) (Nat.le_refl _) (.int .u8 g.kind)).setCell (p := ⟨Z, 1, none⟩) (Nat.le_refl _) (.int .u8 g.frm)).setCell (p := ⟨Z, 2, none⟩) (Nat.le_refl _) (.int .u8 g.dest))⟩
    rcases Decidable.em (f.frm = g.frm) with e1 | ne1
    case inr =>
      have cF0 : w8.cell? ⟨F, 0, none⟩ = some (.int .u8 f.kind) := HF8.out.b.cell 0
      have cG0 : w8.cell? ⟨G, 0, none⟩ = some (.int .u8 f.kind) := (HG8.out.b.cell 0).trans (by simp [e0])
      have cZ0 : w8.cell? ⟨Z, 0, none⟩ = some (.int .u8 f.kind) := HZ8.out.cell 0
      have fZ0 := HZ8.out.frozen 0
      have cF1 : w8.cell? ⟨F, 1, none⟩ = some (.int .u8 f.frm) := HF8.out.b.cell 1
      have cG1 : w8.cell? ⟨G, 1, none⟩ = some (.int .u8 g.frm) := HG8.out.b.cell 1
      have cZ1 : w8.cell? ⟨Z, 1, none⟩ = some (.int .u8 f.frm) := HZ8.out.cell 1
      have fZ1 := HZ8.out.frozen 1
      have cF2 : w8.cell? ⟨F, 2, none⟩ = some (.int .u8 f.dest) := HF8.out.b.cell 2
      have cG2 : w8.cell? ⟨G, 2, none⟩ = some (.int .u8 g.dest) := HG8.out.b.cell 2
      have cZ2 : w8.cell? ⟨Z, 2, none⟩ = some (.int .u8 f.dest) := HZ8.out.cell 2
      have fZ2 := HZ8.out.frozen 2
      have E0 := Lib.hid e0
      clear e0
      have hz : ¬ (f.frm : Int) = (g.frm : Int) := by omega
      go_upto_region 10 with fail
      go_region
      go_wp2_with fail
      refine Met.intro (HJ.out _ _ ?_)
      repeat apply Exists.intro
      refine ⟨?_, rfl⟩
      exact ⟨{ f with frm := g.frm, dest := g.dest }, (.slice g1 f.ms.length d1), (.slice g2 f.es.length d2), true, (by first | rfl | (simp [hz]; done) | (simp; done)), ⟨fun h => absurd (congrArg (fun z : Fr => z.frm) h).symm ne1, fun h => by cases h⟩, hfl.1, hfl.2, HW7.out.1, HW7.out.2.1, ((((HZ8.out.on (show Below w8.heap.size w8 w8.drew by go_grown)).set 0 (.int .u8 f.kind) _ rfl).set 1 (.int .u8 g.frm) _ rfl).set 2 (.int .u8 g.dest) (frC { f with frm := g.frm, dest := g.dest } (.slice g1 f.ms.length d1) (.slice g2 f.es.length d2)) rfl), ((((HBZ.out.trans (show Below Z w8 w8.drew by go_grown)).setCell (p := ⟨Z, 0, none⟩) (Nat.le_refl _) (.int .u8 f.kind)).setCell (p := ⟨Z, 1, none⟩) (Nat.le_refl _) (.int .u8 g.frm)).setCell (p := ⟨Z, 2, none⟩) (Nat.le_refl _) (.int .u8 g.dest))⟩
    rcases Decidable.em (f.dest = g.dest) with e2 | ne2
    case inr =>
      have cF0 : w8.cell? ⟨F, 0, none⟩ = some (.int .u8 f.kind) := HF8.out.b.cell 0
      have cG0 : w8.cell? ⟨G, 0, none⟩ = some (.int .u8 f.kind) := (HG8.out.b.cell 0).trans (by simp [e0])
      have cZ0 : w8.cell? ⟨Z, 0, none⟩ = some (.int .u8 f.kind) := HZ8.out.cell 0
      have fZ0 := HZ8.out.frozen 0
      have cF1 : w8.cell? ⟨F, 1, none⟩ = some (.int .u8 f.frm) := HF8.out.b.cell 1
      have cG1 : w8.cell? ⟨G, 1, none⟩ = some (.int .u8 f.frm) := (HG8.out.b.cell 1).trans (by simp [e1])
      have cZ1 : w8.cell? ⟨Z, 1, none⟩ = some (.int .u8 f.frm) := HZ8.out.cell 1
      have fZ1 := HZ8.out.frozen 1
      have cF2 : w8.cell? ⟨F, 2, none⟩ = some (.int .u8 f.dest) := HF8.out.b.cell 2
      have cG2 : w8.cell? ⟨G, 2, none⟩ = some (.int .u8 g.dest) := HG8.out.b.cell 2
      have cZ2 : w8.cell? ⟨Z, 2, none⟩ = some (.int .u8 f.dest) := HZ8.out.cell 2
      have fZ2 := HZ8.out.frozen 2
      have E0 := Lib.hid e0
      clear e0
      have E1 := Lib.hid e1
      clear e1
      have hz : ¬ (f.dest : Int) = (g.dest : Int) := by omega
      go_upto_region 10 with fail
      go_region
      go_wp2_with fail
      refine Met.intro (HJ.out _ _ ?_)
      repeat apply Exists.intro
      refine ⟨?_, rfl⟩
      exact ⟨{ f with dest := g.dest }, (.slice g1 f.ms.length d1), (.slice g2 f.es.length d2), true, (by first | rfl | (simp [hz]; done) | (simp; done)), ⟨fun h => absurd (congrArg (fun z : Fr => z.dest) h).symm ne2, fun h => by cases h⟩, hfl.1, hfl.2, HW7.out.1, HW7.out.2.1, ((((HZ8.out.on (show Below w8.heap.size w8 w8.drew by go_grown)).set 0 (.int .u8 f.kind) _ rfl).set 1 (.int .u8 f.frm) _ rfl).set 2 (.int .u8 g.dest) (frC { f with dest := g.dest } (.slice g1 f.ms.length d1) (.slice g2 f.es.length d2)) rfl), ((((HBZ.out.trans (show Below Z w8 w8.drew by go_grown)).setCell (p := ⟨Z, 0, none⟩) (Nat.le_refl _) (.int .u8 f.kind)).setCell (p := ⟨Z, 1, none⟩) (Nat.le_refl _) (.int .u8 f.frm)).setCell (p := ⟨Z, 2, none⟩) (Nat.le_refl _) (.int .u8 g.dest))⟩
    have cF0 : w8.cell? ⟨F, 0, none⟩ = some (.int .u8 f.kind) := HF8.out.b.cell 0
    have cG0 : w8.cell? ⟨G, 0, none⟩ = some (.int .u8 f.kind) := (HG8.out.b.cell 0).trans (by simp [e0])
    have cZ0 : w8.cell? ⟨Z, 0, none⟩ = some (.int .u8 f.kind) := HZ8.out.cell 0
    have fZ0 := HZ8.out.frozen 0
    have cF1 : w8.cell? ⟨F, 1, none⟩ = some (.int .u8 f.frm) := HF8.out.b.cell 1
    have cG1 : w8.cell? ⟨G, 1, none⟩ = some (.int .u8 f.frm) := (HG8.out.b.cell 1).trans (by simp [e1])
    have cZ1 : w8.cell? ⟨Z, 1, none⟩ = some (.int .u8 f.frm) := HZ8.out.cell 1
    have fZ1 := HZ8.out.frozen 1
    have cF2 : w8.cell? ⟨F, 2, none⟩ = some (.int .u8 f.dest) := HF8.out.b.cell 2
    have cG2 : w8.cell? ⟨G, 2, none⟩ = some (.int .u8 f.dest) := (HG8.out.b.cell 2).trans (by simp [e2])
    have cZ2 : w8.cell? ⟨Z, 2, none⟩ = some (.int .u8 f.dest) := HZ8.out.cell 2
    have fZ2 := HZ8.out.frozen 2
    have E0 := Lib.hid e0
    clear e0
    have E1 := Lib.hid e1
    clear e1
    have E2 := Lib.hid e2
    clear e2
    go_upto_region 10 with fail
    go_region
    go_wp2_with fail
    refine Met.intro (HJ.out _ _ ?_)
    repeat apply Exists.intro
    refine ⟨?_, rfl⟩
    exact ⟨f, (.slice g1 f.ms.length d1), (.slice g2 f.es.length d2), false, (by first | rfl | (simp [hz]; done) | (simp; done)), ⟨fun _ => rfl, fun _ => rfl⟩, hfl.1, hfl.2, HW7.out.1, HW7.out.2.1, ((((HZ8.out.on (show Below w8.heap.size w8 w8.drew by go_grown)).set 0 (.int .u8 f.kind) _ rfl).set 1 (.int .u8 f.frm) _ rfl).set 2 (.int .u8 f.dest) (frC f (.slice g1 f.ms.length d1) (.slice g2 f.es.length d2)) rfl), ((((HBZ.out.trans (show Below Z w8 w8.drew by go_grown)).setCell (p := ⟨Z, 0, none⟩) (Nat.le_refl _) (.int .u8 f.kind)).setCell (p := ⟨Z, 1, none⟩) (Nat.le_refl _) (.int .u8 f.frm)).setCell (p := ⟨Z, 2, none⟩) (Nat.le_refl _) (.int .u8 f.dest))⟩
  case rest =>
    obtain ⟨z, sz, tz, d, rfl, hzf, hl1, hl2, hm, he, hb, hB⟩ := hcut
    have hB' : Below w7.heap.size w7 wc := by rw [← HZE.out]; exact hB
    have RF := Lib.hid (blk_raw (HFB.out.on hB'))
    have RG := Lib.hid (blk_raw (HGB.out.on hB'))
    have RZ := Lib.hid (blk_raw hb)
    have lF := (HFB.out.on hB').lt
    have lG := (HGB.out.on hB').lt
    have lZ := hb.lt
    have mF := HW7.out.1.on hB'
    have eF := HW7.out.2.1.on hB'
    have mG := HW7.out.2.2.1.on hB'
    have eG := HW7.out.2.2.2.on hB'
    have mZ := hm.on hB'
    have eZ := he.on hB'
    have hzl := And.intro hl1 hl2
    have H1 : Hid (∀ w', Below wc.heap.size wc w' → Calls Tryd.prog 13 #[.agg (frC f (.slice g1 f.ms.length d1) (.slice g2 f.es.length d2)), .agg (frC f (.slice g1 f.ms.length d1) (.slice g2 f.es.length d2))] w' (SameP (f = f) w')) := Lib.hid (fun w' h => Same_any f f _ _ _ _ w' (by omega) (by omega) (by omega) (by omega) (mF.on h) (mF.on h) (eF.on h) (eF.on h))
    have H2 : Hid (∀ w', Below wc.heap.size wc w' → Calls Tryd.prog 13 #[.agg (frC z sz tz), .agg (frC f (.slice g1 f.ms.length d1) (.slice g2 f.es.length d2))] w' (SameP (z = f) w')) := Lib.hid (fun w' h => Same_any z f _ _ _ _ w' (by omega) (by omega) (by omega) (by omega) (mZ.on h) (mF.on h) (eZ.on h) (eF.on h))
    have H3 : Hid (∀ w', Below wc.heap.size wc w' → Calls Tryd.prog 13 #[.agg (frC f (.slice g1 f.ms.length d1) (.slice g2 f.es.length d2)), .agg (frC g (.slice g5 g.ms.length d5) (.slice g6 g.es.length d6))] w' (SameP (f = g) w')) := Lib.hid (fun w' h => Same_any f g _ _ _ _ w' (by omega) (by omega) (by omega) (by omega) (mF.on h) (mG.on h) (eF.on h) (eG.on h))
    have H4 : Hid (∀ w', Below wc.heap.size wc w' → Calls Tryd.prog 13 #[.agg (frC g (.slice g5 g.ms.length d5) (.slice g6 g.es.length d6)), .agg (frC f (.slice g1 f.ms.length d1) (.slice g2 f.es.length d2))] w' (SameP (g = f) w')) := Lib.hid (fun w' h => Same_any g f _ _ _ _ w' (by omega) (by omega) (by omega) (by omega) (mG.on h) (mF.on h) (eG.on h) (eF.on h))
    have HBC := Lib.hid (HBW.out.trans (hB'.mono HBW.out.size))
    have HZF := Lib.hid hzf
    clear hm he hb hB hB' mF eF mG eG mZ eZ hzf HW7 HFB HGB HBZ HF8 HG8 HZ8 HZ8x hl1 hl2 hzl
    cases d
    case false =>
      go_upto_region 25 with fail
      have hS0 : Below wc.heap.size wc wc.drew := by go_grown
      refine WalkS.begin (fun w' => Below wc.heap.size wc w') [] (by kernel_rfl) hS0 ?_
      simp only [List.size_toArray, List.length_cons, List.length_nil, Nat.zero_add, Nat.reduceAdd, show Array.replicate 21 false = #[false, false, false, false, false, false, false, false, false, false, false, false, false, false, false, false, false, false, false, false, false] from rfl]
      refine WalkS.take 0 _ (v := .agg (frC f (.slice g1 f.ms.length d1) (.slice g2 f.es.length d2))) rfl (by kernel_rfl) (by kernel_rfl) (by kernel_rfl) (by kernel_rfl) (by kernel_rfl) (fun _ _ _ h => h) (Or.inl ⟨by rfl, fun w9 h9 => loadRow_run rfl 47 (.tmp 7) rfl F rfl 47 (frC f (.slice g1 f.ms.length d1) (.slice g2 f.es.length d2)) (0, 0) _ ((h9.block F lF).trans RF.out) Tryd.underlying47 rfl (by kernel_rfl)⟩) ?_
      simp only [Act.put, List.setIfInBounds_toArray, List.set_cons_zero, List.set_cons_succ]
      refine WalkS.take 1 _ (v := .agg (frC f (.slice g1 f.ms.length d1) (.slice g2 f.es.length d2))) rfl (by kernel_rfl) (by kernel_rfl) (by kernel_rfl) (by kernel_rfl) (by kernel_rfl) (fun _ _ _ h => h) (Or.inl ⟨by rfl, fun w9 h9 => loadRow_run rfl 47 (.tmp 7) rfl F rfl 47 (frC f (.slice g1 f.ms.length d1) (.slice g2 f.es.length d2)) (0, 0) _ ((h9.block F lF).trans RF.out) Tryd.underlying47 rfl (by kernel_rfl)⟩) ?_
      simp only [Act.put, List.setIfInBounds_toArray, List.set_cons_zero, List.set_cons_succ]
      refine WalkS.each [2] (by kernel_rfl) rfl ?_
      refine EachS.cons 2 _ rfl (fun K hK => ?s1) EachS.nil
      go_simp
      refine (H1.out _ hS0).mono ?_
      rintro e w11 ⟨r1, rfl, hr1, hBr1⟩
      obtain rfl : r1 = true := hr1.2 rfl
      clear hr1
      have hSr1 := m_below_on hS0 hBr1
      refine hK.out _ _ (fun _ => hSr1) ?_
      clear hK K hBr1
      simp only [Act.put, List.setIfInBounds_toArray, List.set_cons_zero, List.set_cons_succ]
      refine' WalkS.take0 3 _ (v := _) rfl (by kernel_rfl) (by kernel_rfl) (by kernel_rfl) (by kernel_rfl) (fun _ _ _ h => h) (Or.inl ⟨by rfl, ?hy2⟩) ?rest2
      case hy2 => (intro w9; go_simp <;> with_reducible rfl)
      simp only [Act.put, List.setIfInBounds_toArray, List.set_cons_zero, List.set_cons_succ]
      refine WalkS.take 4 _ (v := .agg (frC z sz tz)) rfl (by kernel_rfl) (by kernel_rfl) (by kernel_rfl) (by kernel_rfl) (by kernel_rfl) (fun _ _ _ h => h) (Or.inl ⟨by rfl, fun w9 h9 => loadRow_run rfl 47 (.tmp 11) rfl Z rfl 47 (frC z sz tz) (0, 0) _ ((h9.block Z lZ).trans RZ.out) Tryd.underlying47 rfl (by kernel_rfl)⟩) ?_
      simp only [Act.put, List.setIfInBounds_toArray, List.set_cons_zero, List.set_cons_succ]
      refine WalkS.take 5 _ (v := .agg (frC f (.slice g1 f.ms.length d1) (.slice g2 f.es.length d2))) rfl (by kernel_rfl) (by kernel_rfl) (by kernel_rfl) (by kernel_rfl) (by kernel_rfl) (fun _ _ _ h => h) (Or.inl ⟨by rfl, fun w9 h9 => loadRow_run rfl 47 (.tmp 7) rfl F rfl 47 (frC f (.slice g1 f.ms.length d1) (.slice g2 f.es.length d2)) (0, 0) _ ((h9.block F lF).trans RF.out) Tryd.underlying47 rfl (by kernel_rfl)⟩) ?_
      simp only [Act.put, List.setIfInBounds_toArray, List.set_cons_zero, List.set_cons_succ]
      refine' WalkS.take0 7 _ (v := _) rfl (by kernel_rfl) (by kernel_rfl) (by kernel_rfl) (by kernel_rfl) (fun _ _ _ h => h) (Or.inl ⟨by rfl, ?hy3⟩) ?rest3
      case hy3 => (intro w9; go_simp <;> with_reducible rfl)
      simp only [Act.put, List.setIfInBounds_toArray, List.set_cons_zero, List.set_cons_succ]
      refine' WalkS.take0 8 _ (v := _) rfl (by kernel_rfl) (by kernel_rfl) (by kernel_rfl) (by kernel_rfl) (fun _ _ _ h => h) (Or.inl ⟨by rfl, ?hy4⟩) ?rest4
      case hy4 => (intro w9; go_simp <;> with_reducible rfl)
      simp only [Act.put, List.setIfInBounds_toArray, List.set_cons_zero, List.set_cons_succ]
      refine WalkS.each [6] (by kernel_rfl) rfl ?_
      refine EachS.cons 6 _ rfl (fun K hK => ?s5) EachS.nil
      go_simp
      refine (H2.out _ hSr1).mono ?_
      rintro e w12 ⟨r2, rfl, hr2, hBr2⟩
      obtain rfl : r2 = true := by exact hr2.2 (HZF.out.2 rfl)
      clear hr2
      have hSr2 := m_below_on hSr1 hBr2
      refine hK.out _ _ (fun _ => hSr2) ?_
      clear hK K hBr2
      simp only [Act.put, List.setIfInBounds_toArray, List.set_cons_zero, List.set_cons_succ]
      refine' WalkS.take0 9 _ (v := _) rfl (by kernel_rfl) (by kernel_rfl) (by kernel_rfl) (by kernel_rfl) (fun _ _ _ h => h) (Or.inl ⟨by rfl, ?hy6⟩) ?rest6
      case hy6 => (intro w9; go_simp <;> with_reducible rfl)
      simp only [Act.put, List.setIfInBounds_toArray, List.set_cons_zero, List.set_cons_succ]
      refine' WalkS.take0 10 _ (v := _) rfl (by kernel_rfl) (by kernel_rfl) (by kernel_rfl) (by kernel_rfl) (fun _ _ _ h => h) (Or.inl ⟨by rfl, ?hy7⟩) ?rest7
      case hy7 => (intro w9; go_simp <;> with_reducible rfl)
      simp only [Act.put, List.setIfInBounds_toArray, List.set_cons_zero, List.set_cons_succ]
      refine' WalkS.take0 11 _ (v := _) rfl (by kernel_rfl) (by kernel_rfl) (by kernel_rfl) (by kernel_rfl) (fun _ _ _ h => h) (Or.inl ⟨by rfl, ?hy8⟩) ?rest8
      case hy8 => (intro w9; go_simp <;> with_reducible rfl)
      simp only [Act.put, List.setIfInBounds_toArray, List.set_cons_zero, List.set_cons_succ]
      refine WalkS.take 12 _ (v := .agg (frC f (.slice g1 f.ms.length d1) (.slice g2 f.es.length d2))) rfl (by kernel_rfl) (by kernel_rfl) (by kernel_rfl) (by kernel_rfl) (by kernel_rfl) (fun _ _ _ h => h) (Or.inl ⟨by rfl, fun w9 h9 => loadRow_run rfl 47 (.tmp 7) rfl F rfl 47 (frC f (.slice g1 f.ms.length d1) (.slice g2 f.es.length d2)) (0, 0) _ ((h9.block F lF).trans RF.out) Tryd.underlying47 rfl (by kernel_rfl)⟩) ?_
      simp only [Act.put, List.setIfInBounds_toArray, List.set_cons_zero, List.set_cons_succ]
      refine WalkS.take 13 _ (v := .agg (frC g (.slice g5 g.ms.length d5) (.slice g6 g.es.length d6))) rfl (by kernel_rfl) (by kernel_rfl) (by kernel_rfl) (by kernel_rfl) (by kernel_rfl) (fun _ _ _ h => h) (Or.inl ⟨by rfl, fun w9 h9 => loadRow_run rfl 47 (.tmp 9) rfl G rfl 47 (frC g (.slice g5 g.ms.length d5) (.slice g6 g.es.length d6)) (0, 0) _ ((h9.block G lG).trans RG.out) Tryd.underlying47 rfl (by kernel_rfl)⟩) ?_
      simp only [Act.put, List.setIfInBounds_toArray, List.set_cons_zero, List.set_cons_succ]
      refine WalkS.take 15 _ (v := .agg (frC g (.slice g5 g.ms.length d5) (.slice g6 g.es.length d6))) rfl (by kernel_rfl) (by kernel_rfl) (by kernel_rfl) (by kernel_rfl) (by kernel_rfl) (fun _ _ _ h => h) (Or.inl ⟨by rfl, fun w9 h9 => loadRow_run rfl 47 (.tmp 9) rfl G rfl 47 (frC g (.slice g5 g.ms.length d5) (.slice g6 g.es.length d6)) (0, 0) _ ((h9.block G lG).trans RG.out) Tryd.underlying47 rfl (by kernel_rfl)⟩) ?_
      simp only [Act.put, List.setIfInBounds_toArray, List.set_cons_zero, List.set_cons_succ]
      refine WalkS.take 16 _ (v := .agg (frC f (.slice g1 f.ms.length d1) (.slice g2 f.es.length d2))) rfl (by kernel_rfl) (by kernel_rfl) (by kernel_rfl) (by kernel_rfl) (by kernel_rfl) (fun _ _ _ h => h) (Or.inl ⟨by rfl, fun w9 h9 => loadRow_run rfl 47 (.tmp 7) rfl F rfl 47 (frC f (.slice g1 f.ms.length d1) (.slice g2 f.es.length d2)) (0, 0) _ ((h9.block F lF).trans RF.out) Tryd.underlying47 rfl (by kernel_rfl)⟩) ?_
      simp only [Act.put, List.setIfInBounds_toArray, List.set_cons_zero, List.set_cons_succ]
      refine WalkS.each [14] (by kernel_rfl) rfl ?_
      refine EachS.cons 14 _ rfl (fun K hK => ?s9) EachS.nil
      go_simp
      refine (H3.out _ hSr2).mono ?_
      rintro e w13 ⟨r3, rfl, hr3, hBr3⟩
      have hSr3 := m_below_on hSr2 hBr3
      refine hK.out _ _ (fun _ => hSr3) ?_
      clear hK K hBr3
      simp only [Act.put, List.setIfInBounds_toArray, List.set_cons_zero, List.set_cons_succ]
      refine WalkS.each [17] (by kernel_rfl) rfl ?_
      refine EachS.cons 17 _ rfl (fun K hK => ?s10) EachS.nil
      go_simp
      refine (H4.out _ hSr3).mono ?_
      rintro e w14 ⟨r4, rfl, hr4, hBr4⟩
      obtain rfl : r4 = r3 := by cases r3 <;> cases r4 <;> first | rfl | exact absurd (hr4.1 rfl).symm (fun h => by cases (hr3.2 h)) | exact absurd (hr3.1 rfl).symm (fun h => by cases (hr4.2 h))
      clear hr3 hr4
      have hSr4 := m_below_on hSr3 hBr4
      refine hK.out _ _ (fun _ => hSr4) ?_
      clear hK K hBr4
      simp only [Act.put, List.setIfInBounds_toArray, List.set_cons_zero, List.set_cons_succ]
      cases r4
      case false =>
        refine' WalkS.take0 18 _ (v := _) rfl (by kernel_rfl) (by kernel_rfl) (by kernel_rfl) (by kernel_rfl) (fun _ _ _ h => h) (Or.inl ⟨by rfl, ?hy11⟩) ?rest11
        case hy11 => (intro w9; go_simp <;> with_reducible rfl)
        simp only [Act.put, List.setIfInBounds_toArray, List.set_cons_zero, List.set_cons_succ]
        refine' WalkS.take0 19 _ (v := _) rfl (by kernel_rfl) (by kernel_rfl) (by kernel_rfl) (by kernel_rfl) (fun _ _ _ h => h) (Or.inl ⟨by rfl, ?hy12⟩) ?rest12
        case hy12 => (intro w9; go_simp <;> with_reducible rfl)
        simp only [Act.put, List.setIfInBounds_toArray, List.set_cons_zero, List.set_cons_succ]
        refine' WalkS.take0 20 _ (v := _) rfl (by kernel_rfl) (by kernel_rfl) (by kernel_rfl) (by kernel_rfl) (fun _ _ _ h => h) (Or.inl ⟨by rfl, ?hy13⟩) ?rest13
        case hy13 => (intro w9; go_simp <;> with_reducible rfl)
        simp only [Act.put, List.setIfInBounds_toArray, List.set_cons_zero, List.set_cons_succ]
        refine WalkS.done (by kernel_rfl) ?_
        go_wp2_with fail
        go_ret
        exact ⟨rfl, HBC.out.trans (hSr4.mono HBC.out.size)⟩
      case true =>
        refine' WalkS.take0 18 _ (v := _) rfl (by kernel_rfl) (by kernel_rfl) (by kernel_rfl) (by kernel_rfl) (fun _ _ _ h => h) (Or.inl ⟨by rfl, ?hy14⟩) ?rest14
        case hy14 => (intro w9; go_simp <;> with_reducible rfl)
        simp only [Act.put, List.setIfInBounds_toArray, List.set_cons_zero, List.set_cons_succ]
        refine' WalkS.take0 19 _ (v := _) rfl (by kernel_rfl) (by kernel_rfl) (by kernel_rfl) (by kernel_rfl) (fun _ _ _ h => h) (Or.inl ⟨by rfl, ?hy15⟩) ?rest15
        case hy15 => (intro w9; go_simp <;> with_reducible rfl)
        simp only [Act.put, List.setIfInBounds_toArray, List.set_cons_zero, List.set_cons_succ]
        refine' WalkS.take0 20 _ (v := _) rfl (by kernel_rfl) (by kernel_rfl) (by kernel_rfl) (by kernel_rfl) (fun _ _ _ h => h) (Or.inl ⟨by rfl, ?hy16⟩) ?rest16
        case hy16 => (intro w9; go_simp <;> with_reducible rfl)
        simp only [Act.put, List.setIfInBounds_toArray, List.set_cons_zero, List.set_cons_succ]
        refine WalkS.done (by kernel_rfl) ?_
        go_wp2_with fail
        go_ret
        exact ⟨rfl, HBC.out.trans (hSr4.mono HBC.out.size)⟩
    case true =>
      go_upto_region 25 with fail
      have hS0 : Below wc.heap.size wc wc.drew := by go_grown
      refine WalkS.begin (fun w' => Below wc.heap.size wc w') [] (by kernel_rfl) hS0 ?_
      simp only [List.size_toArray, List.length_cons, List.length_nil, Nat.zero_add, Nat.reduceAdd, show Array.replicate 21 false = #[false, false, false, false, false, false, false, false, false, false, false, false, false, false, false, false, false, false, false, false, false] from rfl]
      refine WalkS.take 0 _ (v := .agg (frC f (.slice g1 f.ms.length d1) (.slice g2 f.es.length d2))) rfl (by kernel_rfl) (by kernel_rfl) (by kernel_rfl) (by kernel_rfl) (by kernel_rfl) (fun _ _ _ h => h) (Or.inl ⟨by rfl, fun w9 h9 => loadRow_run rfl 47 (.tmp 7) rfl F rfl 47 (frC f (.slice g1 f.ms.length d1) (.slice g2 f.es.length d2)) (0, 0) _ ((h9.block F lF).trans RF.out) Tryd.underlying47 rfl (by kernel_rfl)⟩) ?_
      simp only [Act.put, List.setIfInBounds_toArray, List.set_cons_zero, List.set_cons_succ]
      refine WalkS.take 1 _ (v := .agg (frC f (.slice g1 f.ms.length d1) (.slice g2 f.es.length d2))) rfl (by kernel_rfl) (by kernel_rfl) (by kernel_rfl) (by kernel_rfl) (by kernel_rfl) (fun _ _ _ h => h) (Or.inl ⟨by rfl, fun w9 h9 => loadRow_run rfl 47 (.tmp 7) rfl F rfl 47 (frC f (.slice g1 f.ms.length d1) (.slice g2 f.es.length d2)) (0, 0) _ ((h9.block F lF).trans RF.out) Tryd.underlying47 rfl (by kernel_rfl)⟩) ?_
      simp only [Act.put, List.setIfInBounds_toArray, List.set_cons_zero, List.set_cons_succ]
      refine WalkS.each [2] (by kernel_rfl) rfl ?_
      refine EachS.cons 2 _ rfl (fun K hK => ?s17) EachS.nil
      go_simp
      refine (H1.out _ hS0).mono ?_
      rintro e w11 ⟨r1, rfl, hr1, hBr1⟩
      obtain rfl : r1 = true := hr1.2 rfl
      clear hr1
      have hSr1 := m_below_on hS0 hBr1
      refine hK.out _ _ (fun _ => hSr1) ?_
      clear hK K hBr1
      simp only [Act.put, List.setIfInBounds_toArray, List.set_cons_zero, List.set_cons_succ]
      refine' WalkS.take0 3 _ (v := _) rfl (by kernel_rfl) (by kernel_rfl) (by kernel_rfl) (by kernel_rfl) (fun _ _ _ h => h) (Or.inl ⟨by rfl, ?hy18⟩) ?rest18
      case hy18 => (intro w9; go_simp <;> with_reducible rfl)
      simp only [Act.put, List.setIfInBounds_toArray, List.set_cons_zero, List.set_cons_succ]
      refine WalkS.take 4 _ (v := .agg (frC z sz tz)) rfl (by kernel_rfl) (by kernel_rfl) (by kernel_rfl) (by kernel_rfl) (by kernel_rfl) (fun _ _ _ h => h) (Or.inl ⟨by rfl, fun w9 h9 => loadRow_run rfl 47 (.tmp 11) rfl Z rfl 47 (frC z sz tz) (0, 0) _ ((h9.block Z lZ).trans RZ.out) Tryd.underlying47 rfl (by kernel_rfl)⟩) ?_
      simp only [Act.put, List.setIfInBounds_toArray, List.set_cons_zero, List.set_cons_succ]
      refine WalkS.take 5 _ (v := .agg (frC f (.slice g1 f.ms.length d1) (.slice g2 f.es.length d2))) rfl (by kernel_rfl) (by kernel_rfl) (by kernel_rfl) (by kernel_rfl) (by kernel_rfl) (fun _ _ _ h => h) (Or.inl ⟨by rfl, fun w9 h9 => loadRow_run rfl 47 (.tmp 7) rfl F rfl 47 (frC f (.slice g1 f.ms.length d1) (.slice g2 f.es.length d2)) (0, 0) _ ((h9.block F lF).trans RF.out) Tryd.underlying47 rfl (by kernel_rfl)⟩) ?_
      simp only [Act.put, List.setIfInBounds_toArray, List.set_cons_zero, List.set_cons_succ]
      refine' WalkS.take0 7 _ (v := _) rfl (by kernel_rfl) (by kernel_rfl) (by kernel_rfl) (by kernel_rfl) (fun _ _ _ h => h) (Or.inl ⟨by rfl, ?hy19⟩) ?rest19
      case hy19 => (intro w9; go_simp <;> with_reducible rfl)
      simp only [Act.put, List.setIfInBounds_toArray, List.set_cons_zero, List.set_cons_succ]
      refine' WalkS.take0 8 _ (v := _) rfl (by kernel_rfl) (by kernel_rfl) (by kernel_rfl) (by kernel_rfl) (fun _ _ _ h => h) (Or.inl ⟨by rfl, ?hy20⟩) ?rest20
      case hy20 => (intro w9; go_simp <;> with_reducible rfl)
      simp only [Act.put, List.setIfInBounds_toArray, List.set_cons_zero, List.set_cons_succ]
      refine WalkS.each [6] (by kernel_rfl) rfl ?_
      refine EachS.cons 6 _ rfl (fun K hK => ?s21) EachS.nil
      go_simp
      refine (H2.out _ hSr1).mono ?_
      rintro e w12 ⟨r2, rfl, hr2, hBr2⟩
      obtain rfl : r2 = false := by cases r2 with | false => rfl | true => exact absurd (HZF.out.1 (hr2.1 rfl)) (by decide)
      clear hr2
      have hSr2 := m_below_on hSr1 hBr2
      refine hK.out _ _ (fun _ => hSr2) ?_
      clear hK K hBr2
      simp only [Act.put, List.setIfInBounds_toArray, List.set_cons_zero, List.set_cons_succ]
      refine' WalkS.take0 9 _ (v := _) rfl (by kernel_rfl) (by kernel_rfl) (by kernel_rfl) (by kernel_rfl) (fun _ _ _ h => h) (Or.inl ⟨by rfl, ?hy22⟩) ?rest22
      case hy22 => (intro w9; go_simp <;> with_reducible rfl)
      simp only [Act.put, List.setIfInBounds_toArray, List.set_cons_zero, List.set_cons_succ]
      refine' WalkS.take0 10 _ (v := _) rfl (by kernel_rfl) (by kernel_rfl) (by kernel_rfl) (by kernel_rfl) (fun _ _ _ h => h) (Or.inl ⟨by rfl, ?hy23⟩) ?rest23
      case hy23 => (intro w9; go_simp <;> with_reducible rfl)
      simp only [Act.put, List.setIfInBounds_toArray, List.set_cons_zero, List.set_cons_succ]
      refine' WalkS.take0 11 _ (v := _) rfl (by kernel_rfl) (by kernel_rfl) (by kernel_rfl) (by kernel_rfl) (fun _ _ _ h => h) (Or.inl ⟨by rfl, ?hy24⟩) ?rest24
      case hy24 => (intro w9; go_simp <;> with_reducible rfl)
      simp only [Act.put, List.setIfInBounds_toArray, List.set_cons_zero, List.set_cons_succ]
      refine WalkS.take 12 _ (v := .agg (frC f (.slice g1 f.ms.length d1) (.slice g2 f.es.length d2))) rfl (by kernel_rfl) (by kernel_rfl) (by kernel_rfl) (by kernel_rfl) (by kernel_rfl) (fun _ _ _ h => h) (Or.inl ⟨by rfl, fun w9 h9 => loadRow_run rfl 47 (.tmp 7) rfl F rfl 47 (frC f (.slice g1 f.ms.length d1) (.slice g2 f.es.length d2)) (0, 0) _ ((h9.block F lF).trans RF.out) Tryd.underlying47 rfl (by kernel_rfl)⟩) ?_
      simp only [Act.put, List.setIfInBounds_toArray, List.set_cons_zero, List.set_cons_succ]
      refine WalkS.take 13 _ (v := .agg (frC g (.slice g5 g.ms.length d5) (.slice g6 g.es.length d6))) rfl (by kernel_rfl) (by kernel_rfl) (by kernel_rfl) (by kernel_rfl) (by kernel_rfl) (fun _ _ _ h => h) (Or.inl ⟨by rfl, fun w9 h9 => loadRow_run rfl 47 (.tmp 9) rfl G rfl 47 (frC g (.slice g5 g.ms.length d5) (.slice g6 g.es.length d6)) (0, 0) _ ((h9.block G lG).trans RG.out) Tryd.underlying47 rfl (by kernel_rfl)⟩) ?_
      simp only [Act.put, List.setIfInBounds_toArray, List.set_cons_zero, List.set_cons_succ]
      refine WalkS.take 15 _ (v := .agg (frC g (.slice g5 g.ms.length d5) (.slice g6 g.es.length d6))) rfl (by kernel_rfl) (by kernel_rfl) (by kernel_rfl) (by kernel_rfl) (by kernel_rfl) (fun _ _ _ h => h) (Or.inl ⟨by rfl, fun w9 h9 => loadRow_run rfl 47 (.tmp 9) rfl G rfl 47 (frC g (.slice g5 g.ms.length d5) (.slice g6 g.es.length d6)) (0, 0) _ ((h9.block G lG).trans RG.out) Tryd.underlying47 rfl (by kernel_rfl)⟩) ?_
      simp only [Act.put, List.setIfInBounds_toArray, List.set_cons_zero, List.set_cons_succ]
      refine WalkS.take 16 _ (v := .agg (frC f (.slice g1 f.ms.length d1) (.slice g2 f.es.length d2))) rfl (by kernel_rfl) (by kernel_rfl) (by kernel_rfl) (by kernel_rfl) (by kernel_rfl) (fun _ _ _ h => h) (Or.inl ⟨by rfl, fun w9 h9 => loadRow_run rfl 47 (.tmp 7) rfl F rfl 47 (frC f (.slice g1 f.ms.length d1) (.slice g2 f.es.length d2)) (0, 0) _ ((h9.block F lF).trans RF.out) Tryd.underlying47 rfl (by kernel_rfl)⟩) ?_
      simp only [Act.put, List.setIfInBounds_toArray, List.set_cons_zero, List.set_cons_succ]
      refine WalkS.each [14] (by kernel_rfl) rfl ?_
      refine EachS.cons 14 _ rfl (fun K hK => ?s25) EachS.nil
      go_simp
      refine (H3.out _ hSr2).mono ?_
      rintro e w13 ⟨r3, rfl, hr3, hBr3⟩
      have hSr3 := m_below_on hSr2 hBr3
      refine hK.out _ _ (fun _ => hSr3) ?_
      clear hK K hBr3
      simp only [Act.put, List.setIfInBounds_toArray, List.set_cons_zero, List.set_cons_succ]
      refine WalkS.each [17] (by kernel_rfl) rfl ?_
      refine EachS.cons 17 _ rfl (fun K hK => ?s26) EachS.nil
      go_simp
      refine (H4.out _ hSr3).mono ?_
      rintro e w14 ⟨r4, rfl, hr4, hBr4⟩
      obtain rfl : r4 = r3 := by cases r3 <;> cases r4 <;> first | rfl | exact absurd (hr4.1 rfl).symm (fun h => by cases (hr3.2 h)) | exact absurd (hr3.1 rfl).symm (fun h => by cases (hr4.2 h))
      clear hr3 hr4
      have hSr4 := m_below_on hSr3 hBr4
      refine hK.out _ _ (fun _ => hSr4) ?_
      clear hK K hBr4
      simp only [Act.put, List.setIfInBounds_toArray, List.set_cons_zero, List.set_cons_succ]
      cases r4
      case false =>
        refine' WalkS.take0 18 _ (v := _) rfl (by kernel_rfl) (by kernel_rfl) (by kernel_rfl) (by kernel_rfl) (fun _ _ _ h => h) (Or.inl ⟨by rfl, ?hy27⟩) ?rest27
        case hy27 => (intro w9; go_simp <;> with_reducible rfl)
        simp only [Act.put, List.setIfInBounds_toArray, List.set_cons_zero, List.set_cons_succ]
        refine' WalkS.take0 19 _ (v := _) rfl (by kernel_rfl) (by kernel_rfl) (by kernel_rfl) (by kernel_rfl) (fun _ _ _ h => h) (Or.inl ⟨by rfl, ?hy28⟩) ?rest28
        case hy28 => (intro w9; go_simp <;> with_reducible rfl)
        simp only [Act.put, List.setIfInBounds_toArray, List.set_cons_zero, List.set_cons_succ]
        refine' WalkS.take0 20 _ (v := _) rfl (by kernel_rfl) (by kernel_rfl) (by kernel_rfl) (by kernel_rfl) (fun _ _ _ h => h) (Or.inl ⟨by rfl, ?hy29⟩) ?rest29
        case hy29 => (intro w9; go_simp <;> with_reducible rfl)
        simp only [Act.put, List.setIfInBounds_toArray, List.set_cons_zero, List.set_cons_succ]
        refine WalkS.done (by kernel_rfl) ?_
        go_wp2_with fail
        go_ret
        exact ⟨rfl, HBC.out.trans (hSr4.mono HBC.out.size)⟩
      case true =>
        refine' WalkS.take0 18 _ (v := _) rfl (by kernel_rfl) (by kernel_rfl) (by kernel_rfl) (by kernel_rfl) (fun _ _ _ h => h) (Or.inl ⟨by rfl, ?hy30⟩) ?rest30
        case hy30 => (intro w9; go_simp <;> with_reducible rfl)
        simp only [Act.put, List.setIfInBounds_toArray, List.set_cons_zero, List.set_cons_succ]
        refine' WalkS.take0 19 _ (v := _) rfl (by kernel_rfl) (by kernel_rfl) (by kernel_rfl) (by kernel_rfl) (fun _ _ _ h => h) (Or.inl ⟨by rfl, ?hy31⟩) ?rest31
        case hy31 => (intro w9; go_simp <;> with_reducible rfl)
        simp only [Act.put, List.setIfInBounds_toArray, List.set_cons_zero, List.set_cons_succ]
        refine' WalkS.take0 20 _ (v := _) rfl (by kernel_rfl) (by kernel_rfl) (by kernel_rfl) (by kernel_rfl) (fun _ _ _ h => h) (Or.inl ⟨by rfl, ?hy32⟩) ?rest32
        case hy32 => (intro w9; go_simp <;> with_reducible rfl)
        simp only [Act.put, List.setIfInBounds_toArray, List.set_cons_zero, List.set_cons_succ]
        refine WalkS.done (by kernel_rfl) ?_
        go_wp2_with fail
        go_ret
        exact ⟨rfl, HBC.out.trans (hSr4.mono HBC.out.size)⟩
set_option maxHeartbeats 8000000 in
set_option maxRecDepth 20000 in
theorem sames_1 (x y : Fr) (a1 a2 b1 b2 : Option Addr) (n1 n2 k1 k2 i1 i2 j1 j2 : Nat) (q : Nat) (w : World) (henv : FEnv w) (hq : q < 256) (hqm : q % 9 = 1)
    (hn1 : n1 = x.ms.length) (hn2 : n2 = x.es.length) (hm : 0 < n1 → memR.At w (.slice a1 n1 k1) x.ms) (he : 0 < n2 → entR.At w (.slice a2 n2 k2) x.es) (l1 : n1 ≤ maxLen) (l2 : n2 ≤ maxLen)
    (hi1 : i1 = y.ms.length) (hi2 : i2 = y.es.length) (gm : 0 < i1 → memR.At w (.slice b1 i1 j1) y.ms) (ge : 0 < i2 → entR.At w (.slice b2 i2 j2) y.es) (l3 : i1 ≤ maxLen) (l4 : i2 ≤ maxLen) :
    Calls Tryd.prog 5 #[.agg (frC x (.slice a1 n1 k1) (.slice a2 n2 k2)), .agg (frC y (.slice b1 i1 j1) (.slice b2 i2 j2)), .int .u8 q] w (retB true w) := by
  have HN := Lib.hid (And.intro hn1 (And.intro hn2 (And.intro hi1 hi2)))
  have HM := Lib.hid (And.intro hm (And.intro he (And.intro gm ge)))
  obtain ⟨w0, hw0⟩ : ∃ w0, w0 = (w.alloc (.cells (frC x (.slice a1 n1 k1) (.slice a2 n2 k2)) 29)).alloc (.cells (frC y (.slice b1 i1 j1) (.slice b2 i2 j2)) 29) := ⟨_, rfl⟩
  have hB0 : Below w.heap.size w w0 := by rw [hw0]; go_grown
  have hX0 : Blk (w.alloc (.cells (frC x (.slice a1 n1 k1) (.slice a2 n2 k2)) 29)) w.heap.size (frC x (.slice a1 n1 k1) (.slice a2 n2 k2)) 29 := Blk.new rfl
  have HX0 := Lib.hid (show Blk w0 w.heap.size (frC x (.slice a1 n1 k1) (.slice a2 n2 k2)) 29 by rw [hw0]; exact hX0.alloc _)
  have HY0 := Lib.hid (show Blk w0 (w.heap.size + 1) (frC y (.slice b1 i1 j1) (.slice b2 i2 j2)) 29 by rw [hw0]; exact Blk.new (by simp))
  have HB0 := Lib.hid hB0
  have H1 := Lib.hid (speaks_any w0 (henv.on hB0 henv.pos))
  clear henv hm he gm ge hn1 hn2 hi1 hi2 hB0 hX0
  go_enter Tryd.func5, Tryd.ntmps5
  go_upto_region 1 with fail
  rw [← hw0]
  clear hw0
  go_wp2_with fail
  with_reducible refine H1.out.mono ?_
  rintro e w2 ⟨rfl, hB2⟩
  have HX2 := Lib.hid (HX0.out.on hB2)
  have HY2 := Lib.hid (HY0.out.on hB2)
  have HB2 := Lib.hid (m_below_on HB0.out hB2)
  have R2 := Lib.hid (blk_raw HX2.out)
  have H2 := Lib.hid (told_any x a1 a2 n1 n2 k1 k2 w2 HN.out.1 HN.out.2.1 (fun h => (HM.out.1 h).on HB2.out) (fun h => (HM.out.2.1 h).on HB2.out) l1 l2)
  clear H1 hB2 HX0 HY0 HB0
  go_wp2_with (first | (refine wpList_load_row rfl 29 (.tmp 3) rfl w.heap.size rfl 29 (frC x (.slice a1 n1 k1) (.slice a2 n2 k2)) (0, 0) _ R2.out Tryd.underlying29 rfl (by kernel_rfl) ?_))
  with_reducible refine H2.out.mono ?_
  rintro e w4 ⟨s1, t1, s2, t2, rfl, hB4, m1, e1, m2, e2⟩
  obtain ⟨f, hf⟩ : ∃ f, f = toldF x := ⟨_, rfl⟩
  rw [← hf] at m1 e1 m2 e2 ⊢
  have hfl : f.ms.length ≤ 10 ∧ f.es.length ≤ 18 := by rw [hf]; exact ⟨by simp [toldF]; omega, by simp [toldF]; omega⟩
  obtain ⟨g1, d1, rfl⟩ := m1.len
  obtain ⟨g2, d2, rfl⟩ := e1.len
  obtain ⟨g3, d3, rfl⟩ := m2.len
  obtain ⟨g4, d4, rfl⟩ := e2.len
  have HP := Lib.hid (told_put (s2 := .slice g3 f.ms.length d3) (t2 := .slice g4 f.es.length d4) m1 e1)
  have HB4 := Lib.hid (m_below_on HB2.out hB4)
  have HY4 := Lib.hid (HY2.out.on hB4)
  have NF0 : Blk (w4.alloc (.cells z34 47)) w4.heap.size z34 47 := Blk.new rfl
  have NF := Lib.hid (NF0.alloc (.cells z34 52))
  have NR := Lib.hid (show Blk ((w4.alloc (.cells z34 47)).alloc (.cells z34 52)) (w4.heap.size + 1) z34 52 from Blk.new (by simp))
  have O1 := Lib.hid (frC_one f g1 g2 f.ms.length f.es.length d1 d2)
  have O2 := Lib.hid (frC_one f g3 g4 f.ms.length f.es.length d3 d4)
  have hne : w4.heap.size + 1 ≠ w4.heap.size := by omega
  have NR2 := Lib.hid ((setRow_other ((w4.alloc (.cells z34 47)).alloc (.cells z34 52)) w4.heap.size (w4.heap.size + 1) (frC f (.slice g1 f.ms.length d1) (.slice g2 f.es.length d2)) hne).trans (blk_raw NR.out))
  clear H2 hB4 m1 e1 m2 e2 hf NF0 R2 HX2 HY2 HB2
  go_upto_region 4 with (first | (refine wpList_store_row rfl 47 (.tmp 7) (.tmp 18) rfl w4.heap.size (frC f (.slice g1 f.ms.length d1) (.slice g2 f.es.length d2)) rfl rfl 47 z34 (blk_raw NF.out) (by kernel_rfl) rfl O1.out ?_) | (refine wpList_store_row rfl 52 (.tmp 8) (.tmp 19) rfl (w4.heap.size + 1) (frC f (.slice g3 f.ms.length d3) (.slice g4 f.es.length d4)) rfl rfl 52 z34 NR2.out (by kernel_rfl) rfl O2.out ?_))
  obtain ⟨w5, hw5⟩ : ∃ w5, w5 = (((w4.alloc (.cells z34 47)).alloc (.cells z34 52)).setRow w4.heap.size (frC f (.slice g1 f.ms.length d1) (.slice g2 f.es.length d2))).setRow (w4.heap.size + 1) (frC f (.slice g3 f.ms.length d3) (.slice g4 f.es.length d4)) := ⟨_, rfl⟩
  rw [← hw5] at HP ⊢
  obtain ⟨F, hF⟩ : ∃ F, F = w4.heap.size := ⟨_, rfl⟩
  rw [← hF] at HP ⊢
  have HF5 := Lib.hid HP.out.1
  have HB5 := Lib.hid (HB4.out.trans ((show Below w4.heap.size w4 w5 by rw [← hF]; exact HP.out.2).mono HB4.out.size))
  have HY5 := Lib.hid (HY4.out.on (show Below w4.heap.size w4 w5 by rw [← hF]; exact HP.out.2))
  have HFw : w.heap.size + 1 < F := by rw [hF]; exact HY4.out.lt
  have R5 := Lib.hid (blk_raw HY5.out)
  have H3 := Lib.hid (told_any y b1 b2 i1 i2 j1 j2 w5 HN.out.2.2.1 HN.out.2.2.2 (fun h => (HM.out.2.2.1 h).on HB5.out) (fun h => (HM.out.2.2.2 h).on HB5.out) l3 l4)
  clear hw5 hF NF NR NR2 O1 O2 HP HB4 HY4 hne
  generalize F + 1 = F1
  go_wp2_with (first | (refine wpList_load_row rfl 29 (.tmp 4) rfl (w.heap.size + 1) rfl 29 (frC y (.slice b1 i1 j1) (.slice b2 i2 j2)) (0, 0) _ R5.out Tryd.underlying29 rfl (by kernel_rfl) ?_))
  with_reducible refine H3.out.mono ?_
  rintro e w6 ⟨s5, t5, s6, t6, rfl, hB6, m1, e1, m2, e2⟩
  obtain ⟨g, hg⟩ : ∃ g, g = toldF y := ⟨_, rfl⟩
  rw [← hg] at m1 e1 m2 e2 ⊢
  have hgl : g.ms.length ≤ 10 ∧ g.es.length ≤ 18 := by rw [hg]; exact ⟨by simp [toldF]; omega, by simp [toldF]; omega⟩
  obtain ⟨g5, d5, rfl⟩ := m1.len
  obtain ⟨g6, d6, rfl⟩ := e1.len
  obtain ⟨g7, d7, rfl⟩ := m2.len
  obtain ⟨g8, d8, rfl⟩ := e2.len
  have HP := Lib.hid (told_put (s2 := .slice g7 g.ms.length d7) (t2 := .slice g8 g.es.length d8) m1 e1)
  have HB6 := Lib.hid (m_below_on HB5.out hB6)
  have HF6 := Lib.hid (HF5.out.on hB6)
  have NF0 : Blk (w6.alloc (.cells z34 47)) w6.heap.size z34 47 := Blk.new rfl
  have NF := Lib.hid (NF0.alloc (.cells z34 52))
  have NR := Lib.hid (show Blk ((w6.alloc (.cells z34 47)).alloc (.cells z34 52)) (w6.heap.size + 1) z34 52 from Blk.new (by simp))
  have O1 := Lib.hid (frC_one g g5 g6 g.ms.length g.es.length d5 d6)
  have O2 := Lib.hid (frC_one g g7 g8 g.ms.length g.es.length d7 d8)
  have hne : w6.heap.size + 1 ≠ w6.heap.size := by omega
  have NR2 := Lib.hid ((setRow_other ((w6.alloc (.cells z34 47)).alloc (.cells z34 52)) w6.heap.size (w6.heap.size + 1) (frC g (.slice g5 g.ms.length d5) (.slice g6 g.es.length d6)) hne).trans (blk_raw NR.out))
  clear H3 hB6 m1 e1 m2 e2 hg NF0 R5 HF5 HY5 HB5
  go_upto_region 5 with (first | (refine wpList_store_row rfl 47 (.tmp 9) (.tmp 23) rfl w6.heap.size (frC g (.slice g5 g.ms.length d5) (.slice g6 g.es.length d6)) rfl rfl 47 z34 (blk_raw NF.out) (by kernel_rfl) rfl O1.out ?_) | (refine wpList_store_row rfl 52 (.tmp 10) (.tmp 24) rfl (w6.heap.size + 1) (frC g (.slice g7 g.ms.length d7) (.slice g8 g.es.length d8)) rfl rfl 52 z34 NR2.out (by kernel_rfl) rfl O2.out ?_))
  obtain ⟨w7, hw7⟩ : ∃ w7, w7 = (((w6.alloc (.cells z34 47)).alloc (.cells z34 52)).setRow w6.heap.size (frC g (.slice g5 g.ms.length d5) (.slice g6 g.es.length d6))).setRow (w6.heap.size + 1) (frC g (.slice g7 g.ms.length d7) (.slice g8 g.es.length d8)) := ⟨_, rfl⟩
  rw [← hw7] at HP ⊢
  obtain ⟨G, hG⟩ : ∃ G, G = w6.heap.size := ⟨_, rfl⟩
  rw [← hG] at HP ⊢
  have HG7 := Lib.hid HP.out.1
  have HB7 := Lib.hid (HB6.out.trans ((show Below w6.heap.size w6 w7 by rw [← hG]; exact HP.out.2).mono HB6.out.size))
  have HF7 := Lib.hid (HF6.out.on (show Below w6.heap.size w6 w7 by rw [← hG]; exact HP.out.2))
  have HFG : F < G := by rw [hG]; exact HF6.out.b.lt
  clear hw7 hG NF NR NR2 O1 O2 HP HB6 HF6 hne
  generalize G + 1 = G1
  have R7 := Lib.hid (blk_raw HF7.out.b)
  have NZ := Lib.hid (Blk.new (w := w7) (B := w7.heap.size) (T := 47) (cs := z34) rfl)
  have OZ := Lib.hid (frC_one f g1 g2 f.ms.length f.es.length d1 d2)
  go_upto_region 7 with (first | (refine wpList_load_row rfl 47 (.tmp 7) rfl F rfl 47 (frC f (.slice g1 f.ms.length d1) (.slice g2 f.es.length d2)) (0, 0) _ R7.out Tryd.underlying47 rfl (by kernel_rfl) ?_) | (refine wpList_store_row rfl 47 (.tmp 11) (.tmp 25) rfl w7.heap.size (frC f (.slice g1 f.ms.length d1) (.slice g2 f.es.length d2)) rfl rfl 47 z34 (blk_raw NZ.out) (by kernel_rfl) rfl OZ.out ?_))
  obtain ⟨w8, hw8⟩ : ∃ w8, w8 = (w7.alloc (.cells z34 47)).setRow w7.heap.size (frC f (.slice g1 f.ms.length d1) (.slice g2 f.es.length d2)) := ⟨_, rfl⟩
  have hB8 : Below w7.heap.size w7 w8 := by rw [hw8]; exact below_sr (by go_grown) (Nat.le_refl _) _
  have HZ8 := Lib.hid (show FrB w8 w7.heap.size f (.slice g1 f.ms.length d1) (.slice g2 f.es.length d2) from ⟨by rw [hw8]; exact setRow_blk _ NZ.out, HF7.out.m.on hB8, HF7.out.e.on hB8⟩)
  rw [← hw8]
  obtain ⟨Z, hZ⟩ : ∃ Z, Z = w7.heap.size := ⟨_, rfl⟩
  rw [← hZ] at HZ8 ⊢
  have HZ8x := HZ8
  have HF8 := Lib.hid (HF7.out.on hB8)
  have HG8 := Lib.hid (HG7.out.on hB8)
  have HB8 := Lib.hid (m_below_on HB7.out hB8)
  have HGZ : G < Z := by rw [hZ]; exact HG7.out.b.lt
  have HZE := Lib.hid hZ
  have HBZ := Lib.hid (show Below Z w7 w8 by rw [hZ]; exact hB8)
  have HW7 := Lib.hid (And.intro HF7.out.m (And.intro HF7.out.e (And.intro HG7.out.m HG7.out.e)))
  have HFB := Lib.hid HF7.out.b
  have HGB := Lib.hid HG7.out.b
  have HBW := Lib.hid HB7.out
  clear hw8 hZ hB8 R7 NZ OZ HF7 HG7 HB7 HZ8
  have HZ8 := Lib.hid HZ8x.out.b
  have htm : (q : Int) % 9 = 1 := by omega
  go_upto_block 0 with fail
  rw [htm]
  clear htm hqm
  go_cut [12] from 147 (fun u wx => SamesCut f w7 Z u wx)
  case first =>
    rename_i JJ KK hJJ hKK
    have HJ := Lib.hid hJJ
    clear hJJ
    have nFZ : F ≠ Z := by omega
    have nGZ : G ≠ Z := by omega
    have lF := HF8.out.b.lt
    have lG := HG8.out.b.lt
    have lZ := HZ8.out.lt
    rcases Decidable.em (f.epoch = g.epoch) with e0 | ne0
    case inr =>
      have cF0 : w8.cell? ⟨F, 3, none⟩ = some (.int .u32 f.epoch) := HF8.out.b.cell 3
      have cG0 : w8.cell? ⟨G, 3, none⟩ = some (.int .u32 g.epoch) := HG8.out.b.cell 3
      have cZ0 : w8.cell? ⟨Z, 3, none⟩ = some (.int .u32 f.epoch) := HZ8.out.cell 3
      have fZ0 := HZ8.out.frozen 3
      have hz : ¬ (f.epoch : Int) = (g.epoch : Int) := by omega
      go_upto_region 12 with fail
      go_region
      go_wp2_with fail
      refine Met.intro (HJ.out _ _ ?_)
      repeat apply Exists.intro
      refine ⟨?_, rfl⟩
      exact ⟨{ f with epoch := g.epoch }, (.slice g1 f.ms.length d1), (.slice g2 f.es.length d2), true, (by first | rfl | (simp [hz]; done) | (simp; done)), ⟨fun h => absurd (congrArg (fun z : Fr => z.epoch) h).symm ne0, fun h => by cases h⟩, hfl.1, hfl.2, HW7.out.1, HW7.out.2.1, ((HZ8.out.on (show Below w8.heap.size w8 w8.drew by go_grown)).set 3 (.int .u32 g.epoch) (frC { f with epoch := g.epoch } (.slice g1 f.ms.length d1) (.slice g2 f.es.length d2)) rfl), ((HBZ.out.trans (show Below Z w8 w8.drew by go_grown)).setCell (p := ⟨Z, 3, none⟩) (Nat.le_refl _) (.int .u32 g.epoch))⟩
    have cF0 : w8.cell? ⟨F, 3, none⟩ = some (.int .u32 f.epoch) := HF8.out.b.cell 3
    have cG0 : w8.cell? ⟨G, 3, none⟩ = some (.int .u32 f.epoch) := (HG8.out.b.cell 3).trans (by simp [e0])
    have cZ0 : w8.cell? ⟨Z, 3, none⟩ = some (.int .u32 f.epoch) := HZ8.out.cell 3
    have fZ0 := HZ8.out.frozen 3
    have E0 := Lib.hid e0
    clear e0
    go_upto_region 12 with fail
    go_region
    go_wp2_with fail
    refine Met.intro (HJ.out _ _ ?_)
    repeat apply Exists.intro
    refine ⟨?_, rfl⟩
    exact ⟨f, (.slice g1 f.ms.length d1), (.slice g2 f.es.length d2), false, (by first | rfl | (simp [hz]; done) | (simp; done)), ⟨fun _ => rfl, fun _ => rfl⟩, hfl.1, hfl.2, HW7.out.1, HW7.out.2.1, ((HZ8.out.on (show Below w8.heap.size w8 w8.drew by go_grown)).set 3 (.int .u32 f.epoch) (frC f (.slice g1 f.ms.length d1) (.slice g2 f.es.length d2)) rfl), ((HBZ.out.trans (show Below Z w8 w8.drew by go_grown)).setCell (p := ⟨Z, 3, none⟩) (Nat.le_refl _) (.int .u32 f.epoch))⟩
  case rest =>
    obtain ⟨z, sz, tz, d, rfl, hzf, hl1, hl2, hm, he, hb, hB⟩ := hcut
    have hB' : Below w7.heap.size w7 wc := by rw [← HZE.out]; exact hB
    have RF := Lib.hid (blk_raw (HFB.out.on hB'))
    have RG := Lib.hid (blk_raw (HGB.out.on hB'))
    have RZ := Lib.hid (blk_raw hb)
    have lF := (HFB.out.on hB').lt
    have lG := (HGB.out.on hB').lt
    have lZ := hb.lt
    have mF := HW7.out.1.on hB'
    have eF := HW7.out.2.1.on hB'
    have mG := HW7.out.2.2.1.on hB'
    have eG := HW7.out.2.2.2.on hB'
    have mZ := hm.on hB'
    have eZ := he.on hB'
    have hzl := And.intro hl1 hl2
    have H1 : Hid (∀ w', Below wc.heap.size wc w' → Calls Tryd.prog 13 #[.agg (frC f (.slice g1 f.ms.length d1) (.slice g2 f.es.length d2)), .agg (frC f (.slice g1 f.ms.length d1) (.slice g2 f.es.length d2))] w' (SameP (f = f) w')) := Lib.hid (fun w' h => Same_any f f _ _ _ _ w' (by omega) (by omega) (by omega) (by omega) (mF.on h) (mF.on h) (eF.on h) (eF.on h))
    have H2 : Hid (∀ w', Below wc.heap.size wc w' → Calls Tryd.prog 13 #[.agg (frC z sz tz), .agg (frC f (.slice g1 f.ms.length d1) (.slice g2 f.es.length d2))] w' (SameP (z = f) w')) := Lib.hid (fun w' h => Same_any z f _ _ _ _ w' (by omega) (by omega) (by omega) (by omega) (mZ.on h) (mF.on h) (eZ.on h) (eF.on h))
    have H3 : Hid (∀ w', Below wc.heap.size wc w' → Calls Tryd.prog 13 #[.agg (frC f (.slice g1 f.ms.length d1) (.slice g2 f.es.length d2)), .agg (frC g (.slice g5 g.ms.length d5) (.slice g6 g.es.length d6))] w' (SameP (f = g) w')) := Lib.hid (fun w' h => Same_any f g _ _ _ _ w' (by omega) (by omega) (by omega) (by omega) (mF.on h) (mG.on h) (eF.on h) (eG.on h))
    have H4 : Hid (∀ w', Below wc.heap.size wc w' → Calls Tryd.prog 13 #[.agg (frC g (.slice g5 g.ms.length d5) (.slice g6 g.es.length d6)), .agg (frC f (.slice g1 f.ms.length d1) (.slice g2 f.es.length d2))] w' (SameP (g = f) w')) := Lib.hid (fun w' h => Same_any g f _ _ _ _ w' (by omega) (by omega) (by omega) (by omega) (mG.on h) (mF.on h) (eG.on h) (eF.on h))
    have HBC := Lib.hid (HBW.out.trans (hB'.mono HBW.out.size))
    have HZF := Lib.hid hzf
    clear hm he hb hB hB' mF eF mG eG mZ eZ hzf HW7 HFB HGB HBZ HF8 HG8 HZ8 HZ8x hl1 hl2 hzl
    cases d
    case false =>
      go_upto_region 25 with fail
      have hS0 : Below wc.heap.size wc wc.drew := by go_grown
      refine WalkS.begin (fun w' => Below wc.heap.size wc w') [] (by kernel_rfl) hS0 ?_
      simp only [List.size_toArray, List.length_cons, List.length_nil, Nat.zero_add, Nat.reduceAdd, show Array.replicate 21 false = #[false, false, false, false, false, false, false, false, false, false, false, false, false, false, false, false, false, false, false, false, false] from rfl]
      refine WalkS.take 0 _ (v := .agg (frC f (.slice g1 f.ms.length d1) (.slice g2 f.es.length d2))) rfl (by kernel_rfl) (by kernel_rfl) (by kernel_rfl) (by kernel_rfl) (by kernel_rfl) (fun _ _ _ h => h) (Or.inl ⟨by rfl, fun w9 h9 => loadRow_run rfl 47 (.tmp 7) rfl F rfl 47 (frC f (.slice g1 f.ms.length d1) (.slice g2 f.es.length d2)) (0, 0) _ ((h9.block F lF).trans RF.out) Tryd.underlying47 rfl (by kernel_rfl)⟩) ?_
      simp only [Act.put, List.setIfInBounds_toArray, List.set_cons_zero, List.set_cons_succ]
      refine WalkS.take 1 _ (v := .agg (frC f (.slice g1 f.ms.length d1) (.slice g2 f.es.length d2))) rfl (by kernel_rfl) (by kernel_rfl) (by kernel_rfl) (by kernel_rfl) (by kernel_rfl) (fun _ _ _ h => h) (Or.inl ⟨by rfl, fun w9 h9 => loadRow_run rfl 47 (.tmp 7) rfl F rfl 47 (frC f (.slice g1 f.ms.length d1) (.slice g2 f.es.length d2)) (0, 0) _ ((h9.block F lF).trans RF.out) Tryd.underlying47 rfl (by kernel_rfl)⟩) ?_
      simp only [Act.put, List.setIfInBounds_toArray, List.set_cons_zero, List.set_cons_succ]
      refine WalkS.each [2] (by kernel_rfl) rfl ?_
      refine EachS.cons 2 _ rfl (fun K hK => ?s1) EachS.nil
      go_simp
      refine (H1.out _ hS0).mono ?_
      rintro e w11 ⟨r1, rfl, hr1, hBr1⟩
      obtain rfl : r1 = true := hr1.2 rfl
      clear hr1
      have hSr1 := m_below_on hS0 hBr1
      refine hK.out _ _ (fun _ => hSr1) ?_
      clear hK K hBr1
      simp only [Act.put, List.setIfInBounds_toArray, List.set_cons_zero, List.set_cons_succ]
      refine' WalkS.take0 3 _ (v := _) rfl (by kernel_rfl) (by kernel_rfl) (by kernel_rfl) (by kernel_rfl) (fun _ _ _ h => h) (Or.inl ⟨by rfl, ?hy2⟩) ?rest2
      case hy2 => (intro w9; go_simp <;> with_reducible rfl)
      simp only [Act.put, List.setIfInBounds_toArray, List.set_cons_zero, List.set_cons_succ]
      refine WalkS.take 4 _ (v := .agg (frC z sz tz)) rfl (by kernel_rfl) (by kernel_rfl) (by kernel_rfl) (by kernel_rfl) (by kernel_rfl) (fun _ _ _ h => h) (Or.inl ⟨by rfl, fun w9 h9 => loadRow_run rfl 47 (.tmp 11) rfl Z rfl 47 (frC z sz tz) (0, 0) _ ((h9.block Z lZ).trans RZ.out) Tryd.underlying47 rfl (by kernel_rfl)⟩) ?_
      simp only [Act.put, List.setIfInBounds_toArray, List.set_cons_zero, List.set_cons_succ]
      refine WalkS.take 5 _ (v := .agg (frC f (.slice g1 f.ms.length d1) (.slice g2 f.es.length d2))) rfl (by kernel_rfl) (by kernel_rfl) (by kernel_rfl) (by kernel_rfl) (by kernel_rfl) (fun _ _ _ h => h) (Or.inl ⟨by rfl, fun w9 h9 => loadRow_run rfl 47 (.tmp 7) rfl F rfl 47 (frC f (.slice g1 f.ms.length d1) (.slice g2 f.es.length d2)) (0, 0) _ ((h9.block F lF).trans RF.out) Tryd.underlying47 rfl (by kernel_rfl)⟩) ?_
      simp only [Act.put, List.setIfInBounds_toArray, List.set_cons_zero, List.set_cons_succ]
      refine' WalkS.take0 7 _ (v := _) rfl (by kernel_rfl) (by kernel_rfl) (by kernel_rfl) (by kernel_rfl) (fun _ _ _ h => h) (Or.inl ⟨by rfl, ?hy3⟩) ?rest3
      case hy3 => (intro w9; go_simp <;> with_reducible rfl)
      simp only [Act.put, List.setIfInBounds_toArray, List.set_cons_zero, List.set_cons_succ]
      refine' WalkS.take0 8 _ (v := _) rfl (by kernel_rfl) (by kernel_rfl) (by kernel_rfl) (by kernel_rfl) (fun _ _ _ h => h) (Or.inl ⟨by rfl, ?hy4⟩) ?rest4
      case hy4 => (intro w9; go_simp <;> with_reducible rfl)
      simp only [Act.put, List.setIfInBounds_toArray, List.set_cons_zero, List.set_cons_succ]
      refine WalkS.each [6] (by kernel_rfl) rfl ?_
      refine EachS.cons 6 _ rfl (fun K hK => ?s5) EachS.nil
      go_simp
      refine (H2.out _ hSr1).mono ?_
      rintro e w12 ⟨r2, rfl, hr2, hBr2⟩
      obtain rfl : r2 = true := by exact hr2.2 (HZF.out.2 rfl)
      clear hr2
      have hSr2 := m_below_on hSr1 hBr2
      refine hK.out _ _ (fun _ => hSr2) ?_
      clear hK K hBr2
      simp only [Act.put, List.setIfInBounds_toArray, List.set_cons_zero, List.set_cons_succ]
      refine' WalkS.take0 9 _ (v := _) rfl (by kernel_rfl) (by kernel_rfl) (by kernel_rfl) (by kernel_rfl) (fun _ _ _ h => h) (Or.inl ⟨by rfl, ?hy6⟩) ?rest6
      case hy6 => (intro w9; go_simp <;> with_reducible rfl)
      simp only [Act.put, List.setIfInBounds_toArray, List.set_cons_zero, List.set_cons_succ]
      refine' WalkS.take0 10 _ (v := _) rfl (by kernel_rfl) (by kernel_rfl) (by kernel_rfl) (by kernel_rfl) (fun _ _ _ h => h) (Or.inl ⟨by rfl, ?hy7⟩) ?rest7
      case hy7 => (intro w9; go_simp <;> with_reducible rfl)
      simp only [Act.put, List.setIfInBounds_toArray, List.set_cons_zero, List.set_cons_succ]
      refine' WalkS.take0 11 _ (v := _) rfl (by kernel_rfl) (by kernel_rfl) (by kernel_rfl) (by kernel_rfl) (fun _ _ _ h => h) (Or.inl ⟨by rfl, ?hy8⟩) ?rest8
      case hy8 => (intro w9; go_simp <;> with_reducible rfl)
      simp only [Act.put, List.setIfInBounds_toArray, List.set_cons_zero, List.set_cons_succ]
      refine WalkS.take 12 _ (v := .agg (frC f (.slice g1 f.ms.length d1) (.slice g2 f.es.length d2))) rfl (by kernel_rfl) (by kernel_rfl) (by kernel_rfl) (by kernel_rfl) (by kernel_rfl) (fun _ _ _ h => h) (Or.inl ⟨by rfl, fun w9 h9 => loadRow_run rfl 47 (.tmp 7) rfl F rfl 47 (frC f (.slice g1 f.ms.length d1) (.slice g2 f.es.length d2)) (0, 0) _ ((h9.block F lF).trans RF.out) Tryd.underlying47 rfl (by kernel_rfl)⟩) ?_
      simp only [Act.put, List.setIfInBounds_toArray, List.set_cons_zero, List.set_cons_succ]
      refine WalkS.take 13 _ (v := .agg (frC g (.slice g5 g.ms.length d5) (.slice g6 g.es.length d6))) rfl (by kernel_rfl) (by kernel_rfl) (by kernel_rfl) (by kernel_rfl) (by kernel_rfl) (fun _ _ _ h => h) (Or.inl ⟨by rfl, fun w9 h9 => loadRow_run rfl 47 (.tmp 9) rfl G rfl 47 (frC g (.slice g5 g.ms.length d5) (.slice g6 g.es.length d6)) (0, 0) _ ((h9.block G lG).trans RG.out) Tryd.underlying47 rfl (by kernel_rfl)⟩) ?_
      simp only [Act.put, List.setIfInBounds_toArray, List.set_cons_zero, List.set_cons_succ]
      refine WalkS.take 15 _ (v := .agg (frC g (.slice g5 g.ms.length d5) (.slice g6 g.es.length d6))) rfl (by kernel_rfl) (by kernel_rfl) (by kernel_rfl) (by kernel_rfl) (by kernel_rfl) (fun _ _ _ h => h) (Or.inl ⟨by rfl, fun w9 h9 => loadRow_run rfl 47 (.tmp 9) rfl G rfl 47 (frC g (.slice g5 g.ms.length d5) (.slice g6 g.es.length d6)) (0, 0) _ ((h9.block G lG).trans RG.out) Tryd.underlying47 rfl (by kernel_rfl)⟩) ?_
      simp only [Act.put, List.setIfInBounds_toArray, List.set_cons_zero, List.set_cons_succ]
      refine WalkS.take 16 _ (v := .agg (frC f (.slice g1 f.ms.length d1) (.slice g2 f.es.length d2))) rfl (by kernel_rfl) (by kernel_rfl) (by kernel_rfl) (by kernel_rfl) (by kernel_rfl) (fun _ _ _ h => h) (Or.inl ⟨by rfl, fun w9 h9 => loadRow_run rfl 47 (.tmp 7) rfl F rfl 47 (frC f (.slice g1 f.ms.length d1) (.slice g2 f.es.length d2)) (0, 0) _ ((h9.block F lF).trans RF.out) Tryd.underlying47 rfl (by kernel_rfl)⟩) ?_
      simp only [Act.put, List.setIfInBounds_toArray, List.set_cons_zero, List.set_cons_succ]
      refine WalkS.each [14] (by kernel_rfl) rfl ?_
      refine EachS.cons 14 _ rfl (fun K hK => ?s9) EachS.nil
      go_simp
      refine (H3.out _ hSr2).mono ?_
      rintro e w13 ⟨r3, rfl, hr3, hBr3⟩
      have hSr3 := m_below_on hSr2 hBr3
      refine hK.out _ _ (fun _ => hSr3) ?_
      clear hK K hBr3
      simp only [Act.put, List.setIfInBounds_toArray, List.set_cons_zero, List.set_cons_succ]
      refine WalkS.each [17] (by kernel_rfl) rfl ?_
      refine EachS.cons 17 _ rfl (fun K hK => ?s10) EachS.nil
      go_simp
      refine (H4.out _ hSr3).mono ?_
      rintro e w14 ⟨r4, rfl, hr4, hBr4⟩
      obtain rfl : r4 = r3 := by cases r3 <;> cases r4 <;> first | rfl | exact absurd (hr4.1 rfl).symm (fun h => by cases (hr3.2 h)) | exact absurd (hr3.1 rfl).symm (fun h => by cases (hr4.2 h))
      clear hr3 hr4
      have hSr4 := m_below_on hSr3 hBr4
      refine hK.out _ _ (fun _ => hSr4) ?_
      clear hK K hBr4
      simp only [Act.put, List.setIfInBounds_toArray, List.set_cons_zero, List.set_cons_succ]
      cases r4
      case false =>
        refine' WalkS.take0 18 _ (v := _) rfl (by kernel_rfl) (by kernel_rfl) (by kernel_rfl) (by kernel_rfl) (fun _ _ _ h => h) (Or.inl ⟨by rfl, ?hy11⟩) ?rest11
        case hy11 => (intro w9; go_simp <;> with_reducible rfl)
        simp only [Act.put, List.setIfInBounds_toArray, List.set_cons_zero, List.set_cons_succ]
        refine' WalkS.take0 19 _ (v := _) rfl (by kernel_rfl) (by kernel_rfl) (by kernel_rfl) (by kernel_rfl) (fun _ _ _ h => h) (Or.inl ⟨by rfl, ?hy12⟩) ?rest12
        case hy12 => (intro w9; go_simp <;> with_reducible rfl)
        simp only [Act.put, List.setIfInBounds_toArray, List.set_cons_zero, List.set_cons_succ]
        refine' WalkS.take0 20 _ (v := _) rfl (by kernel_rfl) (by kernel_rfl) (by kernel_rfl) (by kernel_rfl) (fun _ _ _ h => h) (Or.inl ⟨by rfl, ?hy13⟩) ?rest13
        case hy13 => (intro w9; go_simp <;> with_reducible rfl)
        simp only [Act.put, List.setIfInBounds_toArray, List.set_cons_zero, List.set_cons_succ]
        refine WalkS.done (by kernel_rfl) ?_
        go_wp2_with fail
        go_ret
        exact ⟨rfl, HBC.out.trans (hSr4.mono HBC.out.size)⟩
      case true =>
        refine' WalkS.take0 18 _ (v := _) rfl (by kernel_rfl) (by kernel_rfl) (by kernel_rfl) (by kernel_rfl) (fun _ _ _ h => h) (Or.inl ⟨by rfl, ?hy14⟩) ?rest14
        case hy14 => (intro w9; go_simp <;> with_reducible rfl)
        simp only [Act.put, List.setIfInBounds_toArray, List.set_cons_zero, List.set_cons_succ]
        refine' WalkS.take0 19 _ (v := _) rfl (by kernel_rfl) (by kernel_rfl) (by kernel_rfl) (by kernel_rfl) (fun _ _ _ h => h) (Or.inl ⟨by rfl, ?hy15⟩) ?rest15
        case hy15 => (intro w9; go_simp <;> with_reducible rfl)
        simp only [Act.put, List.setIfInBounds_toArray, List.set_cons_zero, List.set_cons_succ]
        refine' WalkS.take0 20 _ (v := _) rfl (by kernel_rfl) (by kernel_rfl) (by kernel_rfl) (by kernel_rfl) (fun _ _ _ h => h) (Or.inl ⟨by rfl, ?hy16⟩) ?rest16
        case hy16 => (intro w9; go_simp <;> with_reducible rfl)
        simp only [Act.put, List.setIfInBounds_toArray, List.set_cons_zero, List.set_cons_succ]
        refine WalkS.done (by kernel_rfl) ?_
        go_wp2_with fail
        go_ret
        exact ⟨rfl, HBC.out.trans (hSr4.mono HBC.out.size)⟩
    case true =>
      go_upto_region 25 with fail
      have hS0 : Below wc.heap.size wc wc.drew := by go_grown
      refine WalkS.begin (fun w' => Below wc.heap.size wc w') [] (by kernel_rfl) hS0 ?_
      simp only [List.size_toArray, List.length_cons, List.length_nil, Nat.zero_add, Nat.reduceAdd, show Array.replicate 21 false = #[false, false, false, false, false, false, false, false, false, false, false, false, false, false, false, false, false, false, false, false, false] from rfl]
      refine WalkS.take 0 _ (v := .agg (frC f (.slice g1 f.ms.length d1) (.slice g2 f.es.length d2))) rfl (by kernel_rfl) (by kernel_rfl) (by kernel_rfl) (by kernel_rfl) (by kernel_rfl) (fun _ _ _ h => h) (Or.inl ⟨by rfl, fun w9 h9 => loadRow_run rfl 47 (.tmp 7) rfl F rfl 47 (frC f (.slice g1 f.ms.length d1) (.slice g2 f.es.length d2)) (0, 0) _ ((h9.block F lF).trans RF.out) Tryd.underlying47 rfl (by kernel_rfl)⟩) ?_
      simp only [Act.put, List.setIfInBounds_toArray, List.set_cons_zero, List.set_cons_succ]
      refine WalkS.take 1 _ (v := .agg (frC f (.slice g1 f.ms.length d1) (.slice g2 f.es.length d2))) rfl (by kernel_rfl) (by kernel_rfl) (by kernel_rfl) (by kernel_rfl) (by kernel_rfl) (fun _ _ _ h => h) (Or.inl ⟨by rfl, fun w9 h9 => loadRow_run rfl 47 (.tmp 7) rfl F rfl 47 (frC f (.slice g1 f.ms.length d1) (.slice g2 f.es.length d2)) (0, 0) _ ((h9.block F lF).trans RF.out) Tryd.underlying47 rfl (by kernel_rfl)⟩) ?_
      simp only [Act.put, List.setIfInBounds_toArray, List.set_cons_zero, List.set_cons_succ]
      refine WalkS.each [2] (by kernel_rfl) rfl ?_
      refine EachS.cons 2 _ rfl (fun K hK => ?s17) EachS.nil
      go_simp
      refine (H1.out _ hS0).mono ?_
      rintro e w11 ⟨r1, rfl, hr1, hBr1⟩
      obtain rfl : r1 = true := hr1.2 rfl
      clear hr1
      have hSr1 := m_below_on hS0 hBr1
      refine hK.out _ _ (fun _ => hSr1) ?_
      clear hK K hBr1
      simp only [Act.put, List.setIfInBounds_toArray, List.set_cons_zero, List.set_cons_succ]
      refine' WalkS.take0 3 _ (v := _) rfl (by kernel_rfl) (by kernel_rfl) (by kernel_rfl) (by kernel_rfl) (fun _ _ _ h => h) (Or.inl ⟨by rfl, ?hy18⟩) ?rest18
      case hy18 => (intro w9; go_simp <;> with_reducible rfl)
      simp only [Act.put, List.setIfInBounds_toArray, List.set_cons_zero, List.set_cons_succ]
      refine WalkS.take 4 _ (v := .agg (frC z sz tz)) rfl (by kernel_rfl) (by kernel_rfl) (by kernel_rfl) (by kernel_rfl) (by kernel_rfl) (fun _ _ _ h => h) (Or.inl ⟨by rfl, fun w9 h9 => loadRow_run rfl 47 (.tmp 11) rfl Z rfl 47 (frC z sz tz) (0, 0) _ ((h9.block Z lZ).trans RZ.out) Tryd.underlying47 rfl (by kernel_rfl)⟩) ?_
      simp only [Act.put, List.setIfInBounds_toArray, List.set_cons_zero, List.set_cons_succ]
      refine WalkS.take 5 _ (v := .agg (frC f (.slice g1 f.ms.length d1) (.slice g2 f.es.length d2))) rfl (by kernel_rfl) (by kernel_rfl) (by kernel_rfl) (by kernel_rfl) (by kernel_rfl) (fun _ _ _ h => h) (Or.inl ⟨by rfl, fun w9 h9 => loadRow_run rfl 47 (.tmp 7) rfl F rfl 47 (frC f (.slice g1 f.ms.length d1) (.slice g2 f.es.length d2)) (0, 0) _ ((h9.block F lF).trans RF.out) Tryd.underlying47 rfl (by kernel_rfl)⟩) ?_
      simp only [Act.put, List.setIfInBounds_toArray, List.set_cons_zero, List.set_cons_succ]
      refine' WalkS.take0 7 _ (v := _) rfl (by kernel_rfl) (by kernel_rfl) (by kernel_rfl) (by kernel_rfl) (fun _ _ _ h => h) (Or.inl ⟨by rfl, ?hy19⟩) ?rest19
      case hy19 => (intro w9; go_simp <;> with_reducible rfl)
      simp only [Act.put, List.setIfInBounds_toArray, List.set_cons_zero, List.set_cons_succ]
      refine' WalkS.take0 8 _ (v := _) rfl (by kernel_rfl) (by kernel_rfl) (by kernel_rfl) (by kernel_rfl) (fun _ _ _ h => h) (Or.inl ⟨by rfl, ?hy20⟩) ?rest20
      case hy20 => (intro w9; go_simp <;> with_reducible rfl)
      simp only [Act.put, List.setIfInBounds_toArray, List.set_cons_zero, List.set_cons_succ]
      refine WalkS.each [6] (by kernel_rfl) rfl ?_
      refine EachS.cons 6 _ rfl (fun K hK => ?s21) EachS.nil
      go_simp
      refine (H2.out _ hSr1).mono ?_
      rintro e w12 ⟨r2, rfl, hr2, hBr2⟩
      obtain rfl : r2 = false := by cases r2 with | false => rfl | true => exact absurd (HZF.out.1 (hr2.1 rfl)) (by decide)
      clear hr2
      have hSr2 := m_below_on hSr1 hBr2
      refine hK.out _ _ (fun _ => hSr2) ?_
      clear hK K hBr2
      simp only [Act.put, List.setIfInBounds_toArray, List.set_cons_zero, List.set_cons_succ]
      refine' WalkS.take0 9 _ (v := _) rfl (by kernel_rfl) (by kernel_rfl) (by kernel_rfl) (by kernel_rfl) (fun _ _ _ h => h) (Or.inl ⟨by rfl, ?hy22⟩) ?rest22
      case hy22 => (intro w9; go_simp <;> with_reducible rfl)
      simp only [Act.put, List.setIfInBounds_toArray, List.set_cons_zero, List.set_cons_succ]
      refine' WalkS.take0 10 _ (v := _) rfl (by kernel_rfl) (by kernel_rfl) (by kernel_rfl) (by kernel_rfl) (fun _ _ _ h => h) (Or.inl ⟨by rfl, ?hy23⟩) ?rest23
      case hy23 => (intro w9; go_simp <;> with_reducible rfl)
      simp only [Act.put, List.setIfInBounds_toArray, List.set_cons_zero, List.set_cons_succ]
      refine' WalkS.take0 11 _ (v := _) rfl (by kernel_rfl) (by kernel_rfl) (by kernel_rfl) (by kernel_rfl) (fun _ _ _ h => h) (Or.inl ⟨by rfl, ?hy24⟩) ?rest24
      case hy24 => (intro w9; go_simp <;> with_reducible rfl)
      simp only [Act.put, List.setIfInBounds_toArray, List.set_cons_zero, List.set_cons_succ]
      refine WalkS.take 12 _ (v := .agg (frC f (.slice g1 f.ms.length d1) (.slice g2 f.es.length d2))) rfl (by kernel_rfl) (by kernel_rfl) (by kernel_rfl) (by kernel_rfl) (by kernel_rfl) (fun _ _ _ h => h) (Or.inl ⟨by rfl, fun w9 h9 => loadRow_run rfl 47 (.tmp 7) rfl F rfl 47 (frC f (.slice g1 f.ms.length d1) (.slice g2 f.es.length d2)) (0, 0) _ ((h9.block F lF).trans RF.out) Tryd.underlying47 rfl (by kernel_rfl)⟩) ?_
      simp only [Act.put, List.setIfInBounds_toArray, List.set_cons_zero, List.set_cons_succ]
      refine WalkS.take 13 _ (v := .agg (frC g (.slice g5 g.ms.length d5) (.slice g6 g.es.length d6))) rfl (by kernel_rfl) (by kernel_rfl) (by kernel_rfl) (by kernel_rfl) (by kernel_rfl) (fun _ _ _ h => h) (Or.inl ⟨by rfl, fun w9 h9 => loadRow_run rfl 47 (.tmp 9) rfl G rfl 47 (frC g (.slice g5 g.ms.length d5) (.slice g6 g.es.length d6)) (0, 0) _ ((h9.block G lG).trans RG.out) Tryd.underlying47 rfl (by kernel_rfl)⟩) ?_
      simp only [Act.put, List.setIfInBounds_toArray, List.set_cons_zero, List.set_cons_succ]
      refine WalkS.take 15 _ (v := .agg (frC g (.slice g5 g.ms.length d5) (.slice g6 g.es.length d6))) rfl (by kernel_rfl) (by kernel_rfl) (by kernel_rfl) (by kernel_rfl) (by kernel_rfl) (fun _ _ _ h => h) (Or.inl ⟨by rfl, fun w9 h9 => loadRow_run rfl 47 (.tmp 9) rfl G rfl 47 (frC g (.slice g5 g.ms.length d5) (.slice g6 g.es.length d6)) (0, 0) _ ((h9.block G lG).trans RG.out) Tryd.underlying47 rfl (by kernel_rfl)⟩) ?_
      simp only [Act.put, List.setIfInBounds_toArray, List.set_cons_zero, List.set_cons_succ]
      refine WalkS.take 16 _ (v := .agg (frC f (.slice g1 f.ms.length d1) (.slice g2 f.es.length d2))) rfl (by kernel_rfl) (by kernel_rfl) (by kernel_rfl) (by kernel_rfl) (by kernel_rfl) (fun _ _ _ h => h) (Or.inl ⟨by rfl, fun w9 h9 => loadRow_run rfl 47 (.tmp 7) rfl F rfl 47 (frC f (.slice g1 f.ms.length d1) (.slice g2 f.es.length d2)) (0, 0) _ ((h9.block F lF).trans RF.out) Tryd.underlying47 rfl (by kernel_rfl)⟩) ?_
      simp only [Act.put, List.setIfInBounds_toArray, List.set_cons_zero, List.set_cons_succ]
      refine WalkS.each [14] (by kernel_rfl) rfl ?_
      refine EachS.cons 14 _ rfl (fun K hK => ?s25) EachS.nil
      go_simp
      refine (H3.out _ hSr2).mono ?_
      rintro e w13 ⟨r3, rfl, hr3, hBr3⟩
      have hSr3 := m_below_on hSr2 hBr3
      refine hK.out _ _ (fun _ => hSr3) ?_
      clear hK K hBr3
      simp only [Act.put, List.setIfInBounds_toArray, List.set_cons_zero, List.set_cons_succ]
      refine WalkS.each [17] (by kernel_rfl) rfl ?_
      refine EachS.cons 17 _ rfl (fun K hK => ?s26) EachS.nil
      go_simp
      refine (H4.out _ hSr3).mono ?_
      rintro e w14 ⟨r4, rfl, hr4, hBr4⟩
      obtain rfl : r4 = r3 := by cases r3 <;> cases r4 <;> first | rfl | exact absurd (hr4.1 rfl).symm (fun h => by cases (hr3.2 h)) | exact absurd (hr3.1 rfl).symm (fun h => by cases (hr4.2 h))
      clear hr3 hr4
      have hSr4 := m_below_on hSr3 hBr4
      refine hK.out _ _ (fun _ => hSr4) ?_
      clear hK K hBr4
      simp only [Act.put, List.setIfInBounds_toArray, List.set_cons_zero, List.set_cons_succ]
      cases r4
      case false =>
        refine' WalkS.take0 18 _ (v := _) rfl (by kernel_rfl) (by kernel_rfl) (by kernel_rfl) (by kernel_rfl) (fun _ _ _ h => h) (Or.inl ⟨by rfl, ?hy27⟩) ?rest27
        case hy27 => (intro w9; go_simp <;> with_reducible rfl)
        simp only [Act.put, List.setIfInBounds_toArray, List.set_cons_zero, List.set_cons_succ]
        refine' WalkS.take0 19 _ (v := _) rfl (by kernel_rfl) (by kernel_rfl) (by kernel_rfl) (by kernel_rfl) (fun _ _ _ h => h) (Or.inl ⟨by rfl, ?hy28⟩) ?rest28
        case hy28 => (intro w9; go_simp <;> with_reducible rfl)
        simp only [Act.put, List.setIfInBounds_toArray, List.set_cons_zero, List.set_cons_succ]
        refine' WalkS.take0 20 _ (v := _) rfl (by kernel_rfl) (by kernel_rfl) (by kernel_rfl) (by kernel_rfl) (fun _ _ _ h => h) (Or.inl ⟨by rfl, ?hy29⟩) ?rest29
        case hy29 => (intro w9; go_simp <;> with_reducible rfl)
        simp only [Act.put, List.setIfInBounds_toArray, List.set_cons_zero, List.set_cons_succ]
        refine WalkS.done (by kernel_rfl) ?_
        go_wp2_with fail
        go_ret
        exact ⟨rfl, HBC.out.trans (hSr4.mono HBC.out.size)⟩
      case true =>
        refine' WalkS.take0 18 _ (v := _) rfl (by kernel_rfl) (by kernel_rfl) (by kernel_rfl) (by kernel_rfl) (fun _ _ _ h => h) (Or.inl ⟨by rfl, ?hy30⟩) ?rest30
        case hy30 => (intro w9; go_simp <;> with_reducible rfl)
        simp only [Act.put, List.setIfInBounds_toArray, List.set_cons_zero, List.set_cons_succ]
        refine' WalkS.take0 19 _ (v := _) rfl (by kernel_rfl) (by kernel_rfl) (by kernel_rfl) (by kernel_rfl) (fun _ _ _ h => h) (Or.inl ⟨by rfl, ?hy31⟩) ?rest31
        case hy31 => (intro w9; go_simp <;> with_reducible rfl)
        simp only [Act.put, List.setIfInBounds_toArray, List.set_cons_zero, List.set_cons_succ]
        refine' WalkS.take0 20 _ (v := _) rfl (by kernel_rfl) (by kernel_rfl) (by kernel_rfl) (by kernel_rfl) (fun _ _ _ h => h) (Or.inl ⟨by rfl, ?hy32⟩) ?rest32
        case hy32 => (intro w9; go_simp <;> with_reducible rfl)
        simp only [Act.put, List.setIfInBounds_toArray, List.set_cons_zero, List.set_cons_succ]
        refine WalkS.done (by kernel_rfl) ?_
        go_wp2_with fail
        go_ret
        exact ⟨rfl, HBC.out.trans (hSr4.mono HBC.out.size)⟩
set_option maxHeartbeats 8000000 in
set_option maxRecDepth 20000 in
theorem sames_2 (x y : Fr) (a1 a2 b1 b2 : Option Addr) (n1 n2 k1 k2 i1 i2 j1 j2 : Nat) (q : Nat) (w : World) (henv : FEnv w) (hq : q < 256) (hqm : q % 9 = 2)
    (hn1 : n1 = x.ms.length) (hn2 : n2 = x.es.length) (hm : 0 < n1 → memR.At w (.slice a1 n1 k1) x.ms) (he : 0 < n2 → entR.At w (.slice a2 n2 k2) x.es) (l1 : n1 ≤ maxLen) (l2 : n2 ≤ maxLen)
    (hi1 : i1 = y.ms.length) (hi2 : i2 = y.es.length) (gm : 0 < i1 → memR.At w (.slice b1 i1 j1) y.ms) (ge : 0 < i2 → entR.At w (.slice b2 i2 j2) y.es) (l3 : i1 ≤ maxLen) (l4 : i2 ≤ maxLen) :
    Calls Tryd.prog 5 #[.agg (frC x (.slice a1 n1 k1) (.slice a2 n2 k2)), .agg (frC y (.slice b1 i1 j1) (.slice b2 i2 j2)), .int .u8 q] w (retB true w) := by
  have HN := Lib.hid (And.intro hn1 (And.intro hn2 (And.intro hi1 hi2)))
  have HM := Lib.hid (And.intro hm (And.intro he (And.intro gm ge)))
  obtain ⟨w0, hw0⟩ : ∃ w0, w0 = (w.alloc (.cells (frC x (.slice a1 n1 k1) (.slice a2 n2 k2)) 29)).alloc (.cells (frC y (.slice b1 i1 j1) (.slice b2 i2 j2)) 29) := ⟨_, rfl⟩
  have hB0 : Below w.heap.size w w0 := by rw [hw0]; go_grown
  have hX0 : Blk (w.alloc (.cells (frC x (.slice a1 n1 k1) (.slice a2 n2 k2)) 29)) w.heap.size (frC x (.slice a1 n1 k1) (.slice a2 n2 k2)) 29 := Blk.new rfl
  have HX0 := Lib.hid (show Blk w0 w.heap.size (frC x (.slice a1 n1 k1) (.slice a2 n2 k2)) 29 by rw [hw0]; exact hX0.alloc _)
  have HY0 := Lib.hid (show Blk w0 (w.heap.size + 1) (frC y (.slice b1 i1 j1) (.slice b2 i2 j2)) 29 by rw [hw0]; exact Blk.new (by simp))
  have HB0 := Lib.hid hB0
  have H1 := Lib.hid (speaks_any w0 (henv.on hB0 henv.pos))
  clear henv hm he gm ge hn1 hn2 hi1 hi2 hB0 hX0
  go_enter Tryd.func5, Tryd.ntmps5
  go_upto_region 1 with fail
  rw [← hw0]
  clear hw0
  go_wp2_with fail
  with_reducible refine H1.out.mono ?_
  rintro e w2 ⟨rfl, hB2⟩
  have HX2 := Lib.hid (HX0.out.on hB2)
  have HY2 := Lib.hid (HY0.out.on hB2)
  have HB2 := Lib.hid (m_below_on HB0.out hB2)
  have R2 := Lib.hid (blk_raw HX2.out)
  have H2 := Lib.hid (told_any x a1 a2 n1 n2 k1 k2 w2 HN.out.1 HN.out.2.1 (fun h => (HM.out.1 h).on HB2.out) (fun h => (HM.out.2.1 h).on HB2.out) l1 l2)
  clear H1 hB2 HX0 HY0 HB0
  go_wp2_with (first | (refine wpList_load_row rfl 29 (.tmp 3) rfl w.heap.size rfl 29 (frC x (.slice a1 n1 k1) (.slice a2 n2 k2)) (0, 0) _ R2.out Tryd.underlying29 rfl (by kernel_rfl) ?_))
  with_reducible refine H2.out.mono ?_
  rintro e w4 ⟨s1, t1, s2, t2, rfl, hB4, m1, e1, m2, e2⟩
  obtain ⟨f, hf⟩ : ∃ f, f = toldF x := ⟨_, rfl⟩
  rw [← hf] at m1 e1 m2 e2 ⊢
  have hfl : f.ms.length ≤ 10 ∧ f.es.length ≤ 18 := by rw [hf]; exact ⟨by simp [toldF]; omega, by simp [toldF]; omega⟩
  obtain ⟨g1, d1, rfl⟩ := m1.len
  obtain ⟨g2, d2, rfl⟩ := e1.len
  obtain ⟨g3, d3, rfl⟩ := m2.len
  obtain ⟨g4, d4, rfl⟩ := e2.len
  have HP := Lib.hid (told_put (s2 := .slice g3 f.ms.length d3) (t2 := .slice g4 f.es.length d4) m1 e1)
  have HB4 := Lib.hid (m_below_on HB2.out hB4)
  have HY4 := Lib.hid (HY2.out.on hB4)
  have NF0 : Blk (w4.alloc (.cells z34 47)) w4.heap.size z34 47 := Blk.new rfl
  have NF := Lib.hid (NF0.alloc (.cells z34 52))
  have NR := Lib.hid (show Blk ((w4.alloc (.cells z34 47)).alloc (.cells z34 52)) (w4.heap.size + 1) z34 52 from Blk.new (by simp))
  have O1 := Lib.hid (frC_one f g1 g2 f.ms.length f.es.length d1 d2)
  have O2 := Lib.hid (frC_one f g3 g4 f.ms.length f.es.length d3 d4)
  have hne : w4.heap.size + 1 ≠ w4.heap.size := by omega
  have NR2 := Lib.hid ((setRow_other ((w4.alloc (.cells z34 47)).alloc (.cells z34 52)) w4.heap.size (w4.heap.size + 1) (frC f (.slice g1 f.ms.length d1) (.slice g2 f.es.length d2)) hne).trans (blk_raw NR.out))
  clear H2 hB4 m1 e1 m2 e2 hf NF0 R2 HX2 HY2 HB2
  go_upto_region 4 with (first | (refine wpList_store_row rfl 47 (.tmp 7) (.tmp 18) rfl w4.heap.size (frC f (.slice g1 f.ms.length d1) (.slice g2 f.es.length d2)) rfl rfl 47 z34 (blk_raw NF.out) (by kernel_rfl) rfl O1.out ?_) | (refine wpList_store_row rfl 52 (.tmp 8) (.tmp 19) rfl (w4.heap.size + 1) (frC f (.slice g3 f.ms.length d3) (.slice g4 f.es.length d4)) rfl rfl 52 z34 NR2.out (by kernel_rfl) rfl O2.out ?_))
  obtain ⟨w5, hw5⟩ : ∃ w5, w5 = (((w4.alloc (.cells z34 47)).alloc (.cells z34 52)).setRow w4.heap.size (frC f (.slice g1 f.ms.length d1) (.slice g2 f.es.length d2))).setRow (w4.heap.size + 1) (frC f (.slice g3 f.ms.length d3) (.slice g4 f.es.length d4)) := ⟨_, rfl⟩
  rw [← hw5] at HP ⊢
  obtain ⟨F, hF⟩ : ∃ F, F = w4.heap.size := ⟨_, rfl⟩
  rw [← hF] at HP ⊢
  have HF5 := Lib.hid HP.out.1
  have HB5 := Lib.hid (HB4.out.trans ((show Below w4.heap.size w4 w5 by rw [← hF]; exact HP.out.2).mono HB4.out.size))
  have HY5 := Lib.hid (HY4.out.on (show Below w4.heap.size w4 w5 by rw [← hF]; exact HP.out.2))
  have HFw : w.heap.size + 1 < F := by rw [hF]; exact HY4.out.lt
  have R5 := Lib.hid (blk_raw HY5.out)
  have H3 := Lib.hid (told_any y b1 b2 i1 i2 j1 j2 w5 HN.out.2.2.1 HN.out.2.2.2 (fun h => (HM.out.2.2.1 h).on HB5.out) (fun h => (HM.out.2.2.2 h).on HB5.out) l3 l4)
  clear hw5 hF NF NR NR2 O1 O2 HP HB4 HY4 hne
  generalize F + 1 = F1
  go_wp2_with (first | (refine wpList_load_row rfl 29 (.tmp 4) rfl (w.heap.size + 1) rfl 29 (frC y (.slice b1 i1 j1) (.slice b2 i2 j2)) (0, 0) _ R5.out Tryd.underlying29 rfl (by kernel_rfl) ?_))
  with_reducible refine H3.out.mono ?_
  rintro e w6 ⟨s5, t5, s6, t6, rfl, hB6, m1, e1, m2, e2⟩
  obtain ⟨g, hg⟩ : ∃ g, g = toldF y := ⟨_, rfl⟩
  rw [← hg] at m1 e1 m2 e2 ⊢
  have hgl : g.ms.length ≤ 10 ∧ g.es.length ≤ 18 := by rw [hg]; exact ⟨by simp [toldF]; omega, by simp [toldF]; omega⟩
  obtain ⟨g5, d5, rfl⟩ := m1.len
  obtain ⟨g6, d6, rfl⟩ := e1.len
  obtain ⟨g7, d7, rfl⟩ := m2.len
  obtain ⟨g8, d8, rfl⟩ := e2.len
  have HP := Lib.hid (told_put (s2 := .slice g7 g.ms.length d7) (t2 := .slice g8 g.es.length d8) m1 e1)
  have HB6 := Lib.hid (m_below_on HB5.out hB6)
  have HF6 := Lib.hid (HF5.out.on hB6)
  have NF0 : Blk (w6.alloc (.cells z34 47)) w6.heap.size z34 47 := Blk.new rfl
  have NF := Lib.hid (NF0.alloc (.cells z34 52))
  have NR := Lib.hid (show Blk ((w6.alloc (.cells z34 47)).alloc (.cells z34 52)) (w6.heap.size + 1) z34 52 from Blk.new (by simp))
  have O1 := Lib.hid (frC_one g g5 g6 g.ms.length g.es.length d5 d6)
  have O2 := Lib.hid (frC_one g g7 g8 g.ms.length g.es.length d7 d8)
  have hne : w6.heap.size + 1 ≠ w6.heap.size := by omega
  have NR2 := Lib.hid ((setRow_other ((w6.alloc (.cells z34 47)).alloc (.cells z34 52)) w6.heap.size (w6.heap.size + 1) (frC g (.slice g5 g.ms.length d5) (.slice g6 g.es.length d6)) hne).trans (blk_raw NR.out))
  clear H3 hB6 m1 e1 m2 e2 hg NF0 R5 HF5 HY5 HB5
  go_upto_region 5 with (first | (refine wpList_store_row rfl 47 (.tmp 9) (.tmp 23) rfl w6.heap.size (frC g (.slice g5 g.ms.length d5) (.slice g6 g.es.length d6)) rfl rfl 47 z34 (blk_raw NF.out) (by kernel_rfl) rfl O1.out ?_) | (refine wpList_store_row rfl 52 (.tmp 10) (.tmp 24) rfl (w6.heap.size + 1) (frC g (.slice g7 g.ms.length d7) (.slice g8 g.es.length d8)) rfl rfl 52 z34 NR2.out (by kernel_rfl) rfl O2.out ?_))
  obtain ⟨w7, hw7⟩ : ∃ w7, w7 = (((w6.alloc (.cells z34 47)).alloc (.cells z34 52)).setRow w6.heap.size (frC g (.slice g5 g.ms.length d5) (.slice g6 g.es.length d6))).setRow (w6.heap.size + 1) (frC g (.slice g7 g.ms.length d7) (.slice g8 g.es.length d8)) := ⟨_, rfl⟩
  rw [← hw7] at HP ⊢
  obtain ⟨G, hG⟩ : ∃ G, G = w6.heap.size := ⟨_, rfl⟩
  rw [← hG] at HP ⊢
  have HG7 := Lib.hid HP.out.1
  have HB7 := Lib.hid (HB6.out.trans ((show Below w6.heap.size w6 w7 by rw [← hG]; exact HP.out.2).mono HB6.out.size))
  have HF7 := Lib.hid (HF6.out.on (show Below w6.heap.size w6 w7 by rw [← hG]; exact HP.out.2))
  have HFG : F < G := by rw [hG]; exact HF6.out.b.lt
  clear hw7 hG NF NR NR2 O1 O2 HP HB6 HF6 hne
  generalize G + 1 = G1
  have R7 := Lib.hid (blk_raw HF7.out.b)
  have NZ := Lib.hid (Blk.new (w := w7) (B := w7.heap.size) (T := 47) (cs := z34) rfl)
  have OZ := Lib.hid (frC_one f g1 g2 f.ms.length f.es.length d1 d2)
  go_upto_region 7 with (first | (refine wpList_load_row rfl 47 (.tmp 7) rfl F rfl 47 (frC f (.slice g1 f.ms.length d1) (.slice g2 f.es.length d2)) (0, 0) _ R7.out Tryd.underlying47 rfl (by kernel_rfl) ?_) | (refine wpList_store_row rfl 47 (.tmp 11) (.tmp 25) rfl w7.heap.size (frC f (.slice g1 f.ms.length d1) (.slice g2 f.es.length d2)) rfl rfl 47 z34 (blk_raw NZ.out) (by kernel_rfl) rfl OZ.out ?_))
  obtain ⟨w8, hw8⟩ : ∃ w8, w8 = (w7.alloc (.cells z34 47)).setRow w7.heap.size (frC f (.slice g1 f.ms.length d1) (.slice g2 f.es.length d2)) := ⟨_, rfl⟩
  have hB8 : Below w7.heap.size w7 w8 := by rw [hw8]; exact below_sr (by go_grown) (Nat.le_refl _) _
  have HZ8 := Lib.hid (show FrB w8 w7.heap.size f (.slice g1 f.ms.length d1) (.slice g2 f.es.length d2) from ⟨by rw [hw8]; exact setRow_blk _ NZ.out, HF7.out.m.on hB8, HF7.out.e.on hB8⟩)
  rw [← hw8]
  obtain ⟨Z, hZ⟩ : ∃ Z, Z = w7.heap.size := ⟨_, rfl⟩
  rw [← hZ] at HZ8 ⊢
  have HZ8x := HZ8
  have HF8 := Lib.hid (HF7.out.on hB8)
  have HG8 := Lib.hid (HG7.out.on hB8)
  have HB8 := Lib.hid (m_below_on HB7.out hB8)
  have HGZ : G < Z := by rw [hZ]; exact HG7.out.b.lt
  have HZE := Lib.hid hZ
  have HBZ := Lib.hid (show Below Z w7 w8 by rw [hZ]; exact hB8)
  have HW7 := Lib.hid (And.intro HF7.out.m (And.intro HF7.out.e (And.intro HG7.out.m HG7.out.e)))
  have HFB := Lib.hid HF7.out.b
  have HGB := Lib.hid HG7.out.b
  have HBW := Lib.hid HB7.out
  clear hw8 hZ hB8 R7 NZ OZ HF7 HG7 HB7 HZ8
  have HZ8 := Lib.hid HZ8x.out.b
  have htm : (q : Int) % 9 = 2 := by omega
  go_upto_block 0 with fail
  rw [htm]
  clear htm hqm
  go_cut [12] from 147 (fun u wx => SamesCut f w7 Z u wx)
  case first =>
    rename_i JJ KK hJJ hKK
    have HJ := Lib.hid hJJ
    clear hJJ
    have nFZ : F ≠ Z := by omega
    have nGZ : G ≠ Z := by omega
    have lF := HF8.out.b.lt
    have lG := HG8.out.b.lt
    have lZ := HZ8.out.lt
    rcases Decidable.em (f.sn = g.sn) with e0 | ne0
    case inr =>
      have cF0 : w8.cell? ⟨F, 5, none⟩ = some (.int .u32 f.sn) := HF8.out.b.cell 5
      have cG0 : w8.cell? ⟨G, 5, none⟩ = some (.int .u32 g.sn) := HG8.out.b.cell 5
      have cZ0 : w8.cell? ⟨Z, 5, none⟩ = some (.int .u32 f.sn) := HZ8.out.cell 5
      have fZ0 := HZ8.out.frozen 5
      have cF1 : w8.cell? ⟨F, 6, none⟩ = some (.int .u8 f.sb) := HF8.out.b.cell 6
      have cG1 : w8.cell? ⟨G, 6, none⟩ = some (.int .u8 g.sb) := HG8.out.b.cell 6
      have cZ1 : w8.cell? ⟨Z, 6, none⟩ = some (.int .u8 f.sb) := HZ8.out.cell 6
      have fZ1 := HZ8.out.frozen 6
      have cF2 : w8.cell? ⟨F, 7, none⟩ = some (.int .u8 f.sl) := HF8.out.b.cell 7
      have cG2 : w8.cell? ⟨G, 7, none⟩ = some (.int .u8 g.sl) := HG8.out.b.cell 7
      have cZ2 : w8.cell? ⟨Z, 7, none⟩ = some (.int .u8 f.sl) := HZ8.out.cell 7
      have fZ2 := HZ8.out.frozen 7
      have hz : ¬ (f.sn : Int) = (g.sn : Int) := by omega
      go_upto_region 14 with fail
      go_region
      go_wp2_with fail
      refine Met.intro (HJ.out _ _ ?_)
      repeat apply Exists.intro
      refine ⟨?_, rfl⟩
      exact ⟨{ f with sn := g.sn, sb := g.sb, sl := g.sl }, (.slice g1 f.ms.length d1), (.slice g2 f.es.length d2), true, (by first | rfl | (simp [hz]; done) | (simp; done)), ⟨fun h => absurd (congrArg (fun z : Fr => z.sn) h).symm ne0, fun h => by cases h⟩, hfl.1, hfl.2, HW7.out.1, HW7.out.2.1, ((((HZ8.out.on (show Below w8.heap.size w8 w8.drew by go_grown)).set 5 (.int .u32 g.sn) _ rfl).set 6 (.int .u8 g.sb) _ rfl).set 7 (.int .u8 g.sl) (frC { f with sn := g.sn, sb := g.sb, sl := g.sl } (.slice g1 f.ms.length d1) (.slice g2 f.es.length d2)) rfl), ((((HBZ.out.trans (show Below Z w8 w8.drew by go_grown)).setCell (p := ⟨Z, 5, none⟩) (Nat.le_refl _) (.int .u32 g.sn)).setCell (p := ⟨Z, 6, none⟩) (Nat.le_refl _) (.int .u8 g.sb)).setCell (p := ⟨Z, 7, none⟩) (Nat.le_refl _) (.int .u8 g.sl))⟩
    rcases Decidable.em (f.sb = g.sb) with e1 | ne1
    case inr =>
      have cF0 : w8.cell? ⟨F, 5, none⟩ = some (.int .u32 f.sn) := HF8.out.b.cell 5
      have cG0 : w8.cell? ⟨G, 5, none⟩ = some (.int .u32 f.sn) := (HG8.out.b.cell 5).trans (by simp [e0])
      have cZ0 : w8.cell? ⟨Z, 5, none⟩ = some (.int .u32 f.sn) := HZ8.out.cell 5
      have fZ0 := HZ8.out.frozen 5
      have cF1 : w8.cell? ⟨F, 6, none⟩ = some (.int .u8 f.sb) := HF8.out.b.cell 6
      have cG1 : w8.cell? ⟨G, 6, none⟩ = some (.int .u8 g.sb) := HG8.out.b.cell 6
      have cZ1 : w8.cell? ⟨Z, 6, none⟩ = some (.int .u8 f.sb) := HZ8.out.cell 6
      have fZ1 := HZ8.out.frozen 6
      have cF2 : w8.cell? ⟨F, 7, none⟩ = some (.int .u8 f.sl) := HF8.out.b.cell 7
      have cG2 : w8.cell? ⟨G, 7, none⟩ = some (.int .u8 g.sl) := HG8.out.b.cell 7
      have cZ2 : w8.cell? ⟨Z, 7, none⟩ = some (.int .u8 f.sl) := HZ8.out.cell 7
      have fZ2 := HZ8.out.frozen 7
      have E0 := Lib.hid e0
      clear e0
      have hz : ¬ (f.sb : Int) = (g.sb : Int) := by omega
      go_upto_region 14 with fail
      go_region
      go_wp2_with fail
      refine Met.intro (HJ.out _ _ ?_)
      repeat apply Exists.intro
      refine ⟨?_, rfl⟩
      exact ⟨{ f with sb := g.sb, sl := g.sl }, (.slice g1 f.ms.length d1), (.slice g2 f.es.length d2), true, (by first | rfl | (simp [hz]; done) | (simp; done)), ⟨fun h => absurd (congrArg (fun z : Fr => z.sb) h).symm ne1, fun h => by cases h⟩, hfl.1, hfl.2, HW7.out.1, HW7.out.2.1, ((((HZ8.out.on (show Below w8.heap.size w8 w8.drew by go_grown)).set 5 (.int .u32 f.sn) _ rfl).set 6 (.int .u8 g.sb) _ rfl).set 7 (.int .u8 g.sl) (frC { f with sb := g.sb, sl := g.sl } (.slice g1 f.ms.length d1) (.slice g2 f.es.length d2)) rfl), ((((HBZ.out.trans (show Below Z w8 w8.drew by go_grown)).setCell (p := ⟨Z, 5, none⟩) (Nat.le_refl _) (.int .u32 f.sn)).setCell (p := ⟨Z, 6, none⟩) (Nat.le_refl _) (.int .u8 g.sb)).setCell (p := ⟨Z, 7, none⟩) (Nat.le_refl _) (.int .u8 g.sl))⟩
    rcases Decidable.em (f.sl = g.sl) with e2 | ne2
    case inr =>
      have cF0 : w8.cell? ⟨F, 5, none⟩ = some (.int .u32 f.sn) := HF8.out.b.cell 5
      have cG0 : w8.cell? ⟨G, 5, none⟩ = some (.int .u32 f.sn) := (HG8.out.b.cell 5).trans (by simp [e0])
      have cZ0 : w8.cell? ⟨Z, 5, none⟩ = some (.int .u32 f.sn) := HZ8.out.cell 5
      have fZ0 := HZ8.out.frozen 5
      have cF1 : w8.cell? ⟨F, 6, none⟩ = some (.int .u8 f.sb) := HF8.out.b.cell 6
      have cG1 : w8.cell? ⟨G, 6, none⟩ = some (.int .u8 f.sb) := (HG8.out.b.cell 6).trans (by simp [e1])
      have cZ1 : w8.cell? ⟨Z, 6, none⟩ = some (.int .u8 f.sb) := HZ8.out.cell 6
      have fZ1 := HZ8.out.frozen 6
      have cF2 : w8.cell? ⟨F, 7, none⟩ = some (.int .u8 f.sl) := HF8.out.b.cell 7
      have cG2 : w8.cell? ⟨G, 7, none⟩ = some (.int .u8 g.sl) := HG8.out.b.cell 7
      have cZ2 : w8.cell? ⟨Z, 7, none⟩ = some (.int .u8 f.sl) := HZ8.out.cell 7
      have fZ2 := HZ8.out.frozen 7
      have E0 := Lib.hid e0
      clear e0
      have E1 := Lib.hid e1
      clear e1
      have hz : ¬ (f.sl : Int) = (g.sl : Int) := by omega
      go_upto_region 14 with fail
      go_region
      go_wp2_with fail
      refine Met.intro (HJ.out _ _ ?_)
      repeat apply Exists.intro
      refine ⟨?_, rfl⟩
      exact ⟨{ f with sl := g.sl }, (.slice g1 f.ms.length d1), (.slice g2 f.es.length d2), true, (by first | rfl | (simp [hz]; done) | (simp; done)), ⟨fun h => absurd (congrArg (fun z : Fr => z.sl) h).symm ne2, fun h => by cases h⟩, hfl.1, hfl.2, HW7.out.1, HW7.out.2.1, ((((HZ8.out.on (show Below w8.heap.size w8 w8.drew by go_grown)).set 5 (.int .u32 f.sn) _ rfl).set 6 (.int .u8 f.sb) _ rfl).set 7 (.int .u8 g.sl) (frC { f with sl := g.sl } (.slice g1 f.ms.length d1) (.slice g2 f.es.length d2)) rfl), ((((HBZ.out.trans (show Below Z w8 w8.drew by go_grown)).setCell (p := ⟨Z, 5, none⟩) (Nat.le_refl _) (.int .u32 f.sn)).setCell (p := ⟨Z, 6, none⟩) (Nat.le_refl _) (.int .u8 f.sb)).setCell (p := ⟨Z, 7, none⟩) (Nat.le_refl _) (.int .u8 g.sl))⟩
    have cF0 : w8.cell? ⟨F, 5, none⟩ = some (.int .u32 f.sn) := HF8.out.b.cell 5
    have cG0 : w8.cell? ⟨G, 5, none⟩ = some (.int .u32 f.sn) := (HG8.out.b.cell 5).trans (by simp [e0])
    have cZ0 : w8.cell? ⟨Z, 5, none⟩ = some (.int .u32 f.sn) := HZ8.out.cell 5
    have fZ0 := HZ8.out.frozen 5
    have cF1 : w8.cell? ⟨F, 6, none⟩ = some (.int .u8 f.sb) := HF8.out.b.cell 6
    have cG1 : w8.cell? ⟨G, 6, none⟩ = some (.int .u8 f.sb) := (HG8.out.b.cell 6).trans (by simp [e1])
    have cZ1 : w8.cell? ⟨Z, 6, none⟩ = some (.int .u8 f.sb) := HZ8.out.cell 6
    have fZ1 := HZ8.out.frozen 6
    have cF2 : w8.cell? ⟨F, 7, none⟩ = some (.int .u8 f.sl) := HF8.out.b.cell 7
    have cG2 : w8.cell? ⟨G, 7, none⟩ = some (.int .u8 f.sl) := (HG8.out.b.cell 7).trans (by simp [e2])
    have cZ2 : w8.cell? ⟨Z, 7, none⟩ = some (.int .u8 f.sl) := HZ8.out.cell 7
    have fZ2 := HZ8.out.frozen 7
    have E0 := Lib.hid e0
    clear e0
    have E1 := Lib.hid e1
    clear e1
    have E2 := Lib.hid e2
    clear e2
    go_upto_region 14 with fail
    go_region
    go_wp2_with fail
    refine Met.intro (HJ.out _ _ ?_)
    repeat apply Exists.intro
    refine ⟨?_, rfl⟩
    exact ⟨f, (.slice g1 f.ms.length d1), (.slice g2 f.es.length d2), false, (by first | rfl | (simp [hz]; done) | (simp; done)), ⟨fun _ => rfl, fun _ => rfl⟩, hfl.1, hfl.2, HW7.out.1, HW7.out.2.1, ((((HZ8.out.on (show Below w8.heap.size w8 w8.drew by go_grown)).set 5 (.int .u32 f.sn) _ rfl).set 6 (.int .u8 f.sb) _ rfl).set 7 (.int .u8 f.sl) (frC f (.slice g1 f.ms.length d1) (.slice g2 f.es.length d2)) rfl), ((((HBZ.out.trans (show Below Z w8 w8.drew by go_grown)).setCell (p := ⟨Z, 5, none⟩) (Nat.le_refl _) (.int .u32 f.sn)).setCell (p := ⟨Z, 6, none⟩) (Nat.le_refl _) (.int .u8 f.sb)).setCell (p := ⟨Z, 7, none⟩) (Nat.le_refl _) (.int .u8 f.sl))⟩
  case rest =>
    obtain ⟨z, sz, tz, d, rfl, hzf, hl1, hl2, hm, he, hb, hB⟩ := hcut
    have hB' : Below w7.heap.size w7 wc := by rw [← HZE.out]; exact hB
    have RF := Lib.hid (blk_raw (HFB.out.on hB'))
    have RG := Lib.hid (blk_raw (HGB.out.on hB'))
    have RZ := Lib.hid (blk_raw hb)
    have lF := (HFB.out.on hB').lt
    have lG := (HGB.out.on hB').lt
    have lZ := hb.lt
    have mF := HW7.out.1.on hB'
    have eF := HW7.out.2.1.on hB'
    have mG := HW7.out.2.2.1.on hB'
    have eG := HW7.out.2.2.2.on hB'
    have mZ := hm.on hB'
    have eZ := he.on hB'
    have hzl := And.intro hl1 hl2
    have H1 : Hid (∀ w', Below wc.heap.size wc w' → Calls Tryd.prog 13 #[.agg (frC f (.slice g1 f.ms.length d1) (.slice g2 f.es.length d2)), .agg (frC f (.slice g1 f.ms.length d1) (.slice g2 f.es.length d2))] w' (SameP (f = f) w')) := Lib.hid (fun w' h => Same_any f f _ _ _ _ w' (by omega) (by omega) (by omega) (by omega) (mF.on h) (mF.on h) (eF.on h) (eF.on h))
    have H2 : Hid (∀ w', Below wc.heap.size wc w' → Calls Tryd.prog 13 #[.agg (frC z sz tz), .agg (frC f (.slice g1 f.ms.length d1) (.slice g2 f.es.length d2))] w' (SameP (z = f) w')) := Lib.hid (fun w' h => Same_any z f _ _ _ _ w' (by omega) (by omega) (by omega) (by omega) (mZ.on h) (mF.on h) (eZ.on h) (eF.on h))
    have H3 : Hid (∀ w', Below wc.heap.size wc w' → Calls Tryd.prog 13 #[.agg (frC f (.slice g1 f.ms.length d1) (.slice g2 f.es.length d2)), .agg (frC g (.slice g5 g.ms.length d5) (.slice g6 g.es.length d6))] w' (SameP (f = g) w')) := Lib.hid (fun w' h => Same_any f g _ _ _ _ w' (by omega) (by omega) (by omega) (by omega) (mF.on h) (mG.on h) (eF.on h) (eG.on h))
    have H4 : Hid (∀ w', Below wc.heap.size wc w' → Calls Tryd.prog 13 #[.agg (frC g (.slice g5 g.ms.length d5) (.slice g6 g.es.length d6)), .agg (frC f (.slice g1 f.ms.length d1) (.slice g2 f.es.length d2))] w' (SameP (g = f) w')) := Lib.hid (fun w' h => Same_any g f _ _ _ _ w' (by omega) (by omega) (by omega) (by omega) (mG.on h) (mF.on h) (eG.on h) (eF.on h))
    have HBC := Lib.hid (HBW.out.trans (hB'.mono HBW.out.size))
    have HZF := Lib.hid hzf
    clear hm he hb hB hB' mF eF mG eG mZ eZ hzf HW7 HFB HGB HBZ HF8 HG8 HZ8 HZ8x hl1 hl2 hzl
    cases d
    case false =>
      go_upto_region 25 with fail
      have hS0 : Below wc.heap.size wc wc.drew := by go_grown
      refine WalkS.begin (fun w' => Below wc.heap.size wc w') [] (by kernel_rfl) hS0 ?_
      simp only [List.size_toArray, List.length_cons, List.length_nil, Nat.zero_add, Nat.reduceAdd, show Array.replicate 21 false = #[false, false, false, false, false, false, false, false, false, false, false, false, false, false, false, false, false, false, false, false, false] from rfl]
      refine WalkS.take 0 _ (v := .agg (frC f (.slice g1 f.ms.length d1) (.slice g2 f.es.length d2))) rfl (by kernel_rfl) (by kernel_rfl) (by kernel_rfl) (by kernel_rfl) (by kernel_rfl) (fun _ _ _ h => h) (Or.inl ⟨by rfl, fun w9 h9 => loadRow_run rfl 47 (.tmp 7) rfl F rfl 47 (frC f (.slice g1 f.ms.length d1) (.slice g2 f.es.length d2)) (0, 0) _ ((h9.block F lF).trans RF.out) Tryd.underlying47 rfl (by kernel_rfl)⟩) ?_
      simp only [Act.put, List.setIfInBounds_toArray, List.set_cons_zero, List.set_cons_succ]
      refine WalkS.take 1 _ (v := .agg (frC f (.slice g1 f.ms.length d1) (.slice g2 f.es.length d2))) rfl (by kernel_rfl) (by kernel_rfl) (by kernel_rfl) (by kernel_rfl) (by kernel_rfl) (fun _ _ _ h => h) (Or.inl ⟨by rfl, fun w9 h9 => loadRow_run rfl 47 (.tmp 7) rfl F rfl 47 (frC f (.slice g1 f.ms.length d1) (.slice g2 f.es.length d2)) (0, 0) _ ((h9.block F lF).trans RF.out) Tryd.underlying47 rfl (by kernel_rfl)⟩) ?_
      simp only [Act.put, List.setIfInBounds_toArray, List.set_cons_zero, List.set_cons_succ]
      refine WalkS.each [2] (by kernel_rfl) rfl ?_
      refine EachS.cons 2 _ rfl (fun K hK => ?s1) EachS.nil
      go_simp
      refine (H1.out _ hS0).mono ?_
      rintro e w11 ⟨r1, rfl, hr1, hBr1⟩
      obtain rfl : r1 = true := hr1.2 rfl
      clear hr1
      have hSr1 := m_below_on hS0 hBr1
      refine hK.out _ _ (fun _ => hSr1) ?_
      clear hK K hBr1
      simp only [Act.put, List.setIfInBounds_toArray, List.set_cons_zero, List.set_cons_succ]
      refine' WalkS.take0 3 _ (v := _) rfl (by kernel_rfl) (by kernel_rfl) (by kernel_rfl) (by kernel_rfl) (fun _ _ _ h => h) (Or.inl ⟨by rfl, ?hy2⟩) ?rest2
      case hy2 => (intro w9; go_simp <;> with_reducible rfl)
      simp only [Act.put, List.setIfInBounds_toArray, List.set_cons_zero, List.set_cons_succ]
      refine WalkS.take 4 _ (v := .agg (frC z sz tz)) rfl (by kernel_rfl) (by kernel_rfl) (by kernel_rfl) (by kernel_rfl) (by kernel_rfl) (fun _ _ _ h => h) (Or.inl ⟨by rfl, fun w9 h9 => loadRow_run rfl 47 (.tmp 11) rfl Z rfl 47 (frC z sz tz) (0, 0) _ ((h9.block Z lZ).trans RZ.out) Tryd.underlying47 rfl (by kernel_rfl)⟩) ?_
      simp only [Act.put, List.setIfInBounds_toArray, List.set_cons_zero, List.set_cons_succ]
      refine WalkS.take 5 _ (v := .agg (frC f (.slice g1 f.ms.length d1) (.slice g2 f.es.length d2))) rfl (by kernel_rfl) (by kernel_rfl) (by kernel_rfl) (by kernel_rfl) (by kernel_rfl) (fun _ _ _ h => h) (Or.inl ⟨by rfl, fun w9 h9 => loadRow_run rfl 47 (.tmp 7) rfl F rfl 47 (frC f (.slice g1 f.ms.length d1) (.slice g2 f.es.length d2)) (0, 0) _ ((h9.block F lF).trans RF.out) Tryd.underlying47 rfl (by kernel_rfl)⟩) ?_
      simp only [Act.put, List.setIfInBounds_toArray, List.set_cons_zero, List.set_cons_succ]
      refine' WalkS.take0 7 _ (v := _) rfl (by kernel_rfl) (by kernel_rfl) (by kernel_rfl) (by kernel_rfl) (fun _ _ _ h => h) (Or.inl ⟨by rfl, ?hy3⟩) ?rest3
      case hy3 => (intro w9; go_simp <;> with_reducible rfl)
      simp only [Act.put, List.setIfInBounds_toArray, List.set_cons_zero, List.set_cons_succ]
      refine' WalkS.take0 8 _ (v := _) rfl (by kernel_rfl) (by kernel_rfl) (by kernel_rfl) (by kernel_rfl) (fun _ _ _ h => h) (Or.inl ⟨by rfl, ?hy4⟩) ?rest4
      case hy4 => (intro w9; go_simp <;> with_reducible rfl)
      simp only [Act.put, List.setIfInBounds_toArray, List.set_cons_zero, List.set_cons_succ]
      refine WalkS.each [6] (by kernel_rfl) rfl ?_
      refine EachS.cons 6 _ rfl (fun K hK => ?s5) EachS.nil
      go_simp
      refine (H2.out _ hSr1).mono ?_
      rintro e w12 ⟨r2, rfl, hr2, hBr2⟩
      obtain rfl : r2 = true := by exact hr2.2 (HZF.out.2 rfl)
      clear hr2
      have hSr2 := m_below_on hSr1 hBr2
      refine hK.out _ _ (fun _ => hSr2) ?_
      clear hK K hBr2
      simp only [Act.put, List.setIfInBounds_toArray, List.set_cons_zero, List.set_cons_succ]
      refine' WalkS.take0 9 _ (v := _) rfl (by kernel_rfl) (by kernel_rfl) (by kernel_rfl) (by kernel_rfl) (fun _ _ _ h => h) (Or.inl ⟨by rfl, ?hy6⟩) ?rest6
      case hy6 => (intro w9; go_simp <;> with_reducible rfl)
      simp only [Act.put, List.setIfInBounds_toArray, List.set_cons_zero, List.set_cons_succ]
      refine' WalkS.take0 10 _ (v := _) rfl (by kernel_rfl) (by kernel_rfl) (by kernel_rfl) (by kernel_rfl) (fun _ _ _ h => h) (Or.inl ⟨by rfl, ?hy7⟩) ?rest7
      case hy7 => (intro w9; go_simp <;> with_reducible rfl)
      simp only [Act.put, List.setIfInBounds_toArray, List.set_cons_zero, List.set_cons_succ]
      refine' WalkS.take0 11 _ (v := _) rfl (by kernel_rfl) (by kernel_rfl) (by kernel_rfl) (by kernel_rfl) (fun _ _ _ h => h) (Or.inl ⟨by rfl, ?hy8⟩) ?rest8
      case hy8 => (intro w9; go_simp <;> with_reducible rfl)
      simp only [Act.put, List.setIfInBounds_toArray, List.set_cons_zero, List.set_cons_succ]
      refine WalkS.take 12 _ (v := .agg (frC f (.slice g1 f.ms.length d1) (.slice g2 f.es.length d2))) rfl (by kernel_rfl) (by kernel_rfl) (by kernel_rfl) (by kernel_rfl) (by kernel_rfl) (fun _ _ _ h => h) (Or.inl ⟨by rfl, fun w9 h9 => loadRow_run rfl 47 (.tmp 7) rfl F rfl 47 (frC f (.slice g1 f.ms.length d1) (.slice g2 f.es.length d2)) (0, 0) _ ((h9.block F lF).trans RF.out) Tryd.underlying47 rfl (by kernel_rfl)⟩) ?_
      simp only [Act.put, List.setIfInBounds_toArray, List.set_cons_zero, List.set_cons_succ]
      refine WalkS.take 13 _ (v := .agg (frC g (.slice g5 g.ms.length d5) (.slice g6 g.es.length d6))) rfl (by kernel_rfl) (by kernel_rfl) (by kernel_rfl) (by kernel_rfl) (by kernel_rfl) (fun _ _ _ h => h) (Or.inl ⟨by rfl, fun w9 h9 => loadRow_run rfl 47 (.tmp 9) rfl G rfl 47 (frC g (.slice g5 g.ms.length d5) (.slice g6 g.es.length d6)) (0, 0) _ ((h9.block G lG).trans RG.out) Tryd.underlying47 rfl (by kernel_rfl)⟩) ?_
      simp only [Act.put, List.setIfInBounds_toArray, List.set_cons_zero, List.set_cons_succ]
      refine WalkS.take 15 _ (v := .agg (frC g (.slice g5 g.ms.length d5) (.slice g6 g.es.length d6))) rfl (by kernel_rfl) (by kernel_rfl) (by kernel_rfl) (by kernel_rfl) (by kernel_rfl) (fun _ _ _ h => h) (Or.inl ⟨by rfl, fun w9 h9 => loadRow_run rfl 47 (.tmp 9) rfl G rfl 47 (frC g (.slice g5 g.ms.length d5) (.slice g6 g.es.length d6)) (0, 0) _ ((h9.block G lG).trans RG.out) Tryd.underlying47 rfl (by kernel_rfl)⟩) ?_
      simp only [Act.put, List.setIfInBounds_toArray, List.set_cons_zero, List.set_cons_succ]
      refine WalkS.take 16 _ (v := .agg (frC f (.slice g1 f.ms.length d1) (.slice g2 f.es.length d2))) rfl (by kernel_rfl) (by kernel_rfl) (by kernel_rfl) (by kernel_rfl) (by kernel_rfl) (fun _ _ _ h => h) (Or.inl ⟨by rfl, fun w9 h9 => loadRow_run rfl 47 (.tmp 7) rfl F rfl 47 (frC f (.slice g1 f.ms.length d1) (.slice g2 f.es.length d2)) (0, 0) _ ((h9.block F lF).trans RF.out) Tryd.underlying47 rfl (by kernel_rfl)⟩) ?_
      simp only [Act.put, List.setIfInBounds_toArray, List.set_cons_zero, List.set_cons_succ]
      refine WalkS.each [14] (by kernel_rfl) rfl ?_
      refine EachS.cons 14 _ rfl (fun K hK => ?s9) EachS.nil
      go_simp
      refine (H3.out _ hSr2).mono ?_
      rintro e w13 ⟨r3, rfl, hr3, hBr3⟩
      have hSr3 := m_below_on hSr2 hBr3
      refine hK.out _ _ (fun _ => hSr3) ?_
      clear hK K hBr3
      simp only [Act.put, List.setIfInBounds_toArray, List.set_cons_zero, List.set_cons_succ]
      refine WalkS.each [17] (by kernel_rfl) rfl ?_
      refine EachS.cons 17 _ rfl (fun K hK => ?s10) EachS.nil
      go_simp
      refine (H4.out _ hSr3).mono ?_
      rintro e w14 ⟨r4, rfl, hr4, hBr4⟩
      obtain rfl : r4 = r3 := by cases r3 <;> cases r4 <;> first | rfl | exact absurd (hr4.1 rfl).symm (fun h => by cases (hr3.2 h)) | exact absurd (hr3.1 rfl).symm (fun h => by cases (hr4.2 h))
      clear hr3 hr4
      have hSr4 := m_below_on hSr3 hBr4
      refine hK.out _ _ (fun _ => hSr4) ?_
      clear hK K hBr4
      simp only [Act.put, List.setIfInBounds_toArray, List.set_cons_zero, List.set_cons_succ]
      cases r4
      case false =>
        refine' WalkS.take0 18 _ (v := _) rfl (by kernel_rfl) (by kernel_rfl) (by kernel_rfl) (by kernel_rfl) (fun _ _ _ h => h) (Or.inl ⟨by rfl, ?hy11⟩) ?rest11
        case hy11 => (intro w9; go_simp <;> with_reducible rfl)
        simp only [Act.put, List.setIfInBounds_toArray, List.set_cons_zero, List.set_cons_succ]
        refine' WalkS.take0 19 _ (v := _) rfl (by kernel_rfl) (by kernel_rfl) (by kernel_rfl) (by kernel_rfl) (fun _ _ _ h => h) (Or.inl ⟨by rfl, ?hy12⟩) ?rest12
        case hy12 => (intro w9; go_simp <;> with_reducible rfl)
        simp only [Act.put, List.setIfInBounds_toArray, List.set_cons_zero, List.set_cons_succ]
        refine' WalkS.take0 20 _ (v := _) rfl (by kernel_rfl) (by kernel_rfl) (by kernel_rfl) (by kernel_rfl) (fun _ _ _ h => h) (Or.inl ⟨by rfl, ?hy13⟩) ?rest13
        case hy13 => (intro w9; go_simp <;> with_reducible rfl)
        simp only [Act.put, List.setIfInBounds_toArray, List.set_cons_zero, List.set_cons_succ]
        refine WalkS.done (by kernel_rfl) ?_
        go_wp2_with fail
        go_ret
        exact ⟨rfl, HBC.out.trans (hSr4.mono HBC.out.size)⟩
      case true =>
        refine' WalkS.take0 18 _ (v := _) rfl (by kernel_rfl) (by kernel_rfl) (by kernel_rfl) (by kernel_rfl) (fun _ _ _ h => h) (Or.inl ⟨by rfl, ?hy14⟩) ?rest14
        case hy14 => (intro w9; go_simp <;> with_reducible rfl)
        simp only [Act.put, List.setIfInBounds_toArray, List.set_cons_zero, List.set_cons_succ]
        refine' WalkS.take0 19 _ (v := _) rfl (by kernel_rfl) (by kernel_rfl) (by kernel_rfl) (by kernel_rfl) (fun _ _ _ h => h) (Or.inl ⟨by rfl, ?hy15⟩) ?rest15
        case hy15 => (intro w9; go_simp <;> with_reducible rfl)
        simp only [Act.put, List.setIfInBounds_toArray, List.set_cons_zero, List.set_cons_succ]
        refine' WalkS.take0 20 _ (v := _) rfl (by kernel_rfl) (by kernel_rfl) (by kernel_rfl) (by kernel_rfl) (fun _ _ _ h => h) (Or.inl ⟨by rfl, ?hy16⟩) ?rest16
        case hy16 => (intro w9; go_simp <;> with_reducible rfl)
        simp only [Act.put, List.setIfInBounds_toArray, List.set_cons_zero, List.set_cons_succ]
        refine WalkS.done (by kernel_rfl) ?_
        go_wp2_with fail
        go_ret
        exact ⟨rfl, HBC.out.trans (hSr4.mono HBC.out.size)⟩
    case true =>
      go_upto_region 25 with fail
      have hS0 : Below wc.heap.size wc wc.drew := by go_grown
      refine WalkS.begin (fun w' => Below wc.heap.size wc w') [] (by kernel_rfl) hS0 ?_
      simp only [List.size_toArray, List.length_cons, List.length_nil, Nat.zero_add, Nat.reduceAdd, show Array.replicate 21 false = #[false, false, false, false, false, false, false, false, false, false, false, false, false, false, false, false, false, false, false, false, false] from rfl]
      refine WalkS.take 0 _ (v := .agg (frC f (.slice g1 f.ms.length d1) (.slice g2 f.es.length d2))) rfl (by kernel_rfl) (by kernel_rfl) (by kernel_rfl) (by kernel_rfl) (by kernel_rfl) (fun _ _ _ h => h) (Or.inl ⟨by rfl, fun w9 h9 => loadRow_run rfl 47 (.tmp 7) rfl F rfl 47 (frC f (.slice g1 f.ms.length d1) (.slice g2 f.es.length d2)) (0, 0) _ ((h9.block F lF).trans RF.out) Tryd.underlying47 rfl (by kernel_rfl)⟩) ?_
      simp only [Act.put, List.setIfInBounds_toArray, List.set_cons_zero, List.set_cons_succ]
      refine WalkS.take 1 _ (v := .agg (frC f (.slice g1 f.ms.length d1) (.slice g2 f.es.length d2))) rfl (by kernel_rfl) (by kernel_rfl) (by kernel_rfl) (by kernel_rfl) (by kernel_rfl) (fun _ _ _ h => h) (Or.inl ⟨by rfl, fun w9 h9 => loadRow_run rfl 47 (.tmp 7) rfl F rfl 47 (frC f (.slice g1 f.ms.length d1) (.slice g2 f.es.length d2)) (0, 0) _ ((h9.block F lF).trans RF.out) Tryd.underlying47 rfl (by kernel_rfl)⟩) ?_
      simp only [Act.put, List.setIfInBounds_toArray, List.set_cons_zero, List.set_cons_succ]
      refine WalkS.each [2] (by kernel_rfl) rfl ?_
      refine EachS.cons 2 _ rfl (fun K hK => ?s17) EachS.nil
      go_simp
      refine (H1.out _ hS0).mono ?_
      rintro e w11 ⟨r1, rfl, hr1, hBr1⟩
      obtain rfl : r1 = true := hr1.2 rfl
      clear hr1
      have hSr1 := m_below_on hS0 hBr1
      refine hK.out _ _ (fun _ => hSr1) ?_
      clear hK K hBr1
      simp only [Act.put, List.setIfInBounds_toArray, List.set_cons_zero, List.set_cons_succ]
      refine' WalkS.take0 3 _ (v := _) rfl (by kernel_rfl) (by kernel_rfl) (by kernel_rfl) (by kernel_rfl) (fun _ _ _ h => h) (Or.inl ⟨by rfl, ?hy18⟩) ?rest18
      case hy18 => (intro w9; go_simp <;> with_reducible rfl)
      simp only [Act.put, List.setIfInBounds_toArray, List.set_cons_zero, List.set_cons_succ]
      refine WalkS.take 4 _ (v := .agg (frC z sz tz)) rfl (by kernel_rfl) (by kernel_rfl) (by kernel_rfl) (by kernel_rfl) (by kernel_rfl) (fun _ _ _ h => h) (Or.inl ⟨by rfl, fun w9 h9 => loadRow_run rfl 47 (.tmp 11) rfl Z rfl 47 (frC z sz tz) (0, 0) _ ((h9.block Z lZ).trans RZ.out) Tryd.underlying47 rfl (by kernel_rfl)⟩) ?_
      simp only [Act.put, List.setIfInBounds_toArray, List.set_cons_zero, List.set_cons_succ]
      refine WalkS.take 5 _ (v := .agg (frC f (.slice g1 f.ms.length d1) (.slice g2 f.es.length d2))) rfl (by kernel_rfl) (by kernel_rfl) (by kernel_rfl) (by kernel_rfl) (by kernel_rfl) (fun _ _ _ h => h) (Or.inl ⟨by rfl, fun w9 h9 => loadRow_run rfl 47 (.tmp 7) rfl F rfl 47 (frC f (.slice g1 f.ms.length d1) (.slice g2 f.es.length d2)) (0, 0) _ ((h9.block F lF).trans RF.out) Tryd.underlying47 rfl (by kernel_rfl)⟩) ?_
      simp only [Act.put, List.setIfInBounds_toArray, List.set_cons_zero, List.set_cons_succ]
      refine' WalkS.take0 7 _ (v := _) rfl (by kernel_rfl) (by kernel_rfl) (by kernel_rfl) (by kernel_rfl) (fun _ _ _ h => h) (Or.inl ⟨by rfl, ?hy19⟩) ?rest19
      case hy19 => (intro w9; go_simp <;> with_reducible rfl)
      simp only [Act.put, List.setIfInBounds_toArray, List.set_cons_zero, List.set_cons_succ]
      refine' WalkS.take0 8 _ (v := _) rfl (by kernel_rfl) (by kernel_rfl) (by kernel_rfl) (by kernel_rfl) (fun _ _ _ h => h) (Or.inl ⟨by rfl, ?hy20⟩) ?rest20
      case hy20 => (intro w9; go_simp <;> with_reducible rfl)
      simp only [Act.put, List.setIfInBounds_toArray, List.set_cons_zero, List.set_cons_succ]
      refine WalkS.each [6] (by kernel_rfl) rfl ?_
      refine EachS.cons 6 _ rfl (fun K hK => ?s21) EachS.nil
      go_simp
      refine (H2.out _ hSr1).mono ?_
      rintro e w12 ⟨r2, rfl, hr2, hBr2⟩
      obtain rfl : r2 = false := by cases r2 with | false => rfl | true => exact absurd (HZF.out.1 (hr2.1 rfl)) (by decide)
      clear hr2
      have hSr2 := m_below_on hSr1 hBr2
      refine hK.out _ _ (fun _ => hSr2) ?_
      clear hK K hBr2
      simp only [Act.put, List.setIfInBounds_toArray, List.set_cons_zero, List.set_cons_succ]
      refine' WalkS.take0 9 _ (v := _) rfl (by kernel_rfl) (by kernel_rfl) (by kernel_rfl) (by kernel_rfl) (fun _ _ _ h => h) (Or.inl ⟨by rfl, ?hy22⟩) ?rest22
      case hy22 => (intro w9; go_simp <;> with_reducible rfl)
      simp only [Act.put, List.setIfInBounds_toArray, List.set_cons_zero, List.set_cons_succ]
      refine' WalkS.take0 10 _ (v := _) rfl (by kernel_rfl) (by kernel_rfl) (by kernel_rfl) (by kernel_rfl) (fun _ _ _ h => h) (Or.inl ⟨by rfl, ?hy23⟩) ?rest23
      case hy23 => (intro w9; go_simp <;> with_reducible rfl)
      simp only [Act.put, List.setIfInBounds_toArray, List.set_cons_zero, List.set_cons_succ]
      refine' WalkS.take0 11 _ (v := _) rfl (by kernel_rfl) (by kernel_rfl) (by kernel_rfl) (by kernel_rfl) (fun _ _ _ h => h) (Or.inl ⟨by rfl, ?hy24⟩) ?rest24
      case hy24 => (intro w9; go_simp <;> with_reducible rfl)
      simp only [Act.put, List.setIfInBounds_toArray, List.set_cons_zero, List.set_cons_succ]
      refine WalkS.take 12 _ (v := .agg (frC f (.slice g1 f.ms.length d1) (.slice g2 f.es.length d2))) rfl (by kernel_rfl) (by kernel_rfl) (by kernel_rfl) (by kernel_rfl) (by kernel_rfl) (fun _ _ _ h => h) (Or.inl ⟨by rfl, fun w9 h9 => loadRow_run rfl 47 (.tmp 7) rfl F rfl 47 (frC f (.slice g1 f.ms.length d1) (.slice g2 f.es.length d2)) (0, 0) _ ((h9.block F lF).trans RF.out) Tryd.underlying47 rfl (by kernel_rfl)⟩) ?_
      simp only [Act.put, List.setIfInBounds_toArray, List.set_cons_zero, List.set_cons_succ]
      refine WalkS.take 13 _ (v := .agg (frC g (.slice g5 g.ms.length d5) (.slice g6 g.es.length d6))) rfl (by kernel_rfl) (by kernel_rfl) (by kernel_rfl) (by kernel_rfl) (by kernel_rfl) (fun _ _ _ h => h) (Or.inl ⟨by rfl, fun w9 h9 => loadRow_run rfl 47 (.tmp 9) rfl G rfl 47 (frC g (.slice g5 g.ms.length d5) (.slice g6 g.es.length d6)) (0, 0) _ ((h9.block G lG).trans RG.out) Tryd.underlying47 rfl (by kernel_rfl)⟩) ?_
      simp only [Act.put, List.setIfInBounds_toArray, List.set_cons_zero, List.set_cons_succ]
      refine WalkS.take 15 _ (v := .agg (frC g (.slice g5 g.ms.length d5) (.slice g6 g.es.length d6))) rfl (by kernel_rfl) (by kernel_rfl) (by kernel_rfl) (by kernel_rfl) (by kernel_rfl) (fun _ _ _ h => h) (Or.inl ⟨by rfl, fun w9 h9 => loadRow_run rfl 47 (.tmp 9) rfl G rfl 47 (frC g (.slice g5 g.ms.length d5) (.slice g6 g.es.length d6)) (0, 0) _ ((h9.block G lG).trans RG.out) Tryd.underlying47 rfl (by kernel_rfl)⟩) ?_
      simp only [Act.put, List.setIfInBounds_toArray, List.set_cons_zero, List.set_cons_succ]
      refine WalkS.take 16 _ (v := .agg (frC f (.slice g1 f.ms.length d1) (.slice g2 f.es.length d2))) rfl (by kernel_rfl) (by kernel_rfl) (by kernel_rfl) (by kernel_rfl) (by kernel_rfl) (fun _ _ _ h => h) (Or.inl ⟨by rfl, fun w9 h9 => loadRow_run rfl 47 (.tmp 7) rfl F rfl 47 (frC f (.slice g1 f.ms.length d1) (.slice g2 f.es.length d2)) (0, 0) _ ((h9.block F lF).trans RF.out) Tryd.underlying47 rfl (by kernel_rfl)⟩) ?_
      simp only [Act.put, List.setIfInBounds_toArray, List.set_cons_zero, List.set_cons_succ]
      refine WalkS.each [14] (by kernel_rfl) rfl ?_
      refine EachS.cons 14 _ rfl (fun K hK => ?s25) EachS.nil
      go_simp
      refine (H3.out _ hSr2).mono ?_
      rintro e w13 ⟨r3, rfl, hr3, hBr3⟩
      have hSr3 := m_below_on hSr2 hBr3
      refine hK.out _ _ (fun _ => hSr3) ?_
      clear hK K hBr3
      simp only [Act.put, List.setIfInBounds_toArray, List.set_cons_zero, List.set_cons_succ]
      refine WalkS.each [17] (by kernel_rfl) rfl ?_
      refine EachS.cons 17 _ rfl (fun K hK => ?s26) EachS.nil
      go_simp
      refine (H4.out _ hSr3).mono ?_
      rintro e w14 ⟨r4, rfl, hr4, hBr4⟩
      obtain rfl : r4 = r3 := by cases r3 <;> cases r4 <;> first | rfl | exact absurd (hr4.1 rfl).symm (fun h => by cases (hr3.2 h)) | exact absurd (hr3.1 rfl).symm (fun h => by cases (hr4.2 h))
      clear hr3 hr4
      have hSr4 := m_below_on hSr3 hBr4
      refine hK.out _ _ (fun _ => hSr4) ?_
      clear hK K hBr4
      simp only [Act.put, List.setIfInBounds_toArray, List.set_cons_zero, List.set_cons_succ]
      cases r4
      case false =>
        refine' WalkS.take0 18 _ (v := _) rfl (by kernel_rfl) (by kernel_rfl) (by kernel_rfl) (by kernel_rfl) (fun _ _ _ h => h) (Or.inl ⟨by rfl, ?hy27⟩) ?rest27
        case hy27 => (intro w9; go_simp <;> with_reducible rfl)
        simp only [Act.put, List.setIfInBounds_toArray, List.set_cons_zero, List.set_cons_succ]
        refine' WalkS.take0 19 _ (v := _) rfl (by kernel_rfl) (by kernel_rfl) (by kernel_rfl) (by kernel_rfl) (fun _ _ _ h => h) (Or.inl ⟨by rfl, ?hy28⟩) ?rest28
        case hy28 => (intro w9; go_simp <;> with_reducible rfl)
        simp only [Act.put, List.setIfInBounds_toArray, List.set_cons_zero, List.set_cons_succ]
        refine' WalkS.take0 20 _ (v := _) rfl (by kernel_rfl) (by kernel_rfl) (by kernel_rfl) (by kernel_rfl) (fun _ _ _ h => h) (Or.inl ⟨by rfl, ?hy29⟩) ?rest29
        case hy29 => (intro w9; go_simp <;> with_reducible rfl)
        simp only [Act.put, List.setIfInBounds_toArray, List.set_cons_zero, List.set_cons_succ]
        refine WalkS.done (by kernel_rfl) ?_
        go_wp2_with fail
        go_ret
        exact ⟨rfl, HBC.out.trans (hSr4.mono HBC.out.size)⟩
      case true =>
        refine' WalkS.take0 18 _ (v := _) rfl (by kernel_rfl) (by kernel_rfl) (by kernel_rfl) (by kernel_rfl) (fun _ _ _ h => h) (Or.inl ⟨by rfl, ?hy30⟩) ?rest30
        case hy30 => (intro w9; go_simp <;> with_reducible rfl)
        simp only [Act.put, List.setIfInBounds_toArray, List.set_cons_zero, List.set_cons_succ]
        refine' WalkS.take0 19 _ (v := _) rfl (by kernel_rfl) (by kernel_rfl) (by kernel_rfl) (by kernel_rfl) (fun _ _ _ h => h) (Or.inl ⟨by rfl, ?hy31⟩) ?rest31
        case hy31 => (intro w9; go_simp <;> with_reducible rfl)
        simp only [Act.put, List.setIfInBounds_toArray, List.set_cons_zero, List.set_cons_succ]
        refine' WalkS.take0 20 _ (v := _) rfl (by kernel_rfl) (by kernel_rfl) (by kernel_rfl) (by kernel_rfl) (fun _ _ _ h => h) (Or.inl ⟨by rfl, ?hy32⟩) ?rest32
        case hy32 => (intro w9; go_simp <;> with_reducible rfl)
        simp only [Act.put, List.setIfInBounds_toArray, List.set_cons_zero, List.set_cons_succ]
        refine WalkS.done (by kernel_rfl) ?_
        go_wp2_with fail
        go_ret
        exact ⟨rfl, HBC.out.trans (hSr4.mono HBC.out.size)⟩
set_option maxHeartbeats 8000000 in
set_option maxRecDepth 20000 in
theorem sames_3 (x y : Fr) (a1 a2 b1 b2 : Option Addr) (n1 n2 k1 k2 i1 i2 j1 j2 : Nat) (q : Nat) (w : World) (henv : FEnv w) (hq : q < 256) (hqm : q % 9 = 3)
    (hn1 : n1 = x.ms.length) (hn2 : n2 = x.es.length) (hm : 0 < n1 → memR.At w (.slice a1 n1 k1) x.ms) (he : 0 < n2 → entR.At w (.slice a2 n2 k2) x.es) (l1 : n1 ≤ maxLen) (l2 : n2 ≤ maxLen)
    (hi1 : i1 = y.ms.length) (hi2 : i2 = y.es.length) (gm : 0 < i1 → memR.At w (.slice b1 i1 j1) y.ms) (ge : 0 < i2 → entR.At w (.slice b2 i2 j2) y.es) (l3 : i1 ≤ maxLen) (l4 : i2 ≤ maxLen) :
    Calls Tryd.prog 5 #[.agg (frC x (.slice a1 n1 k1) (.slice a2 n2 k2)), .agg (frC y (.slice b1 i1 j1) (.slice b2 i2 j2)), .int .u8 q] w (retB true w) := by
  have HN := Lib.hid (And.intro hn1 (And.intro hn2 (And.intro hi1 hi2)))
  have HM := Lib.hid (And.intro hm (And.intro he (And.intro gm ge)))
  obtain ⟨w0, hw0⟩ : ∃ w0, w0 = (w.alloc (.cells (frC x (.slice a1 n1 k1) (.slice a2 n2 k2)) 29)).alloc (.cells (frC y (.slice b1 i1 j1) (.slice b2 i2 j2)) 29) := ⟨_, rfl⟩
  have hB0 : Below w.heap.size w w0 := by rw [hw0]; go_grown
  have hX0 : Blk (w.alloc (.cells (frC x (.slice a1 n1 k1) (.slice a2 n2 k2)) 29)) w.heap.size (frC x (.slice a1 n1 k1) (.slice a2 n2 k2)) 29 := Blk.new rfl
  have HX0 := Lib.hid (show Blk w0 w.heap.size (frC x (.slice a1 n1 k1) (.slice a2 n2 k2)) 29 by rw [hw0]; exact hX0.alloc _)
  have HY0 := Lib.hid (show Blk w0 (w.heap.size + 1) (frC y (.slice b1 i1 j1) (.slice b2 i2 j2)) 29 by rw [hw0]; exact Blk.new (by simp))
  have HB0 := Lib.hid hB0
  have H1 := Lib.hid (speaks_any w0 (henv.on hB0 henv.pos))
  clear henv hm he gm ge hn1 hn2 hi1 hi2 hB0 hX0
  go_enter Tryd.func5, Tryd.ntmps5
  go_upto_region 1 with fail
  rw [← hw0]
  clear hw0
  go_wp2_with fail
  with_reducible refine H1.out.mono ?_
  rintro e w2 ⟨rfl, hB2⟩
  have HX2 := Lib.hid (HX0.out.on hB2)
  have HY2 := Lib.hid (HY0.out.on hB2)
  have HB2 := Lib.hid (m_below_on HB0.out hB2)
  have R2 := Lib.hid (blk_raw HX2.out)
  have H2 := Lib.hid (told_any x a1 a2 n1 n2 k1 k2 w2 HN.out.1 HN.out.2.1 (fun h => (HM.out.1 h).on HB2.out) (fun h => (HM.out.2.1 h).on HB2.out) l1 l2)
  clear H1 hB2 HX0 HY0 HB0
  go_wp2_with (first | (refine wpList_load_row rfl 29 (.tmp 3) rfl w.heap.size rfl 29 (frC x (.slice a1 n1 k1) (.slice a2 n2 k2)) (0, 0) _ R2.out Tryd.underlying29 rfl (by kernel_rfl) ?_))
  with_reducible refine H2.out.mono ?_
  rintro e w4 ⟨s1, t1, s2, t2, rfl, hB4, m1, e1, m2, e2⟩
  obtain ⟨f, hf⟩ : ∃ f, f = toldF x := ⟨_, rfl⟩
  rw [← hf] at m1 e1 m2 e2 ⊢
  have hfl : f.ms.length ≤ 10 ∧ f.es.length ≤ 18 := by rw [hf]; exact ⟨by simp [toldF]; omega, by simp [toldF]; omega⟩
  obtain ⟨g1, d1, rfl⟩ := m1.len
  obtain ⟨g2, d2, rfl⟩ := e1.len
  obtain ⟨g3, d3, rfl⟩ := m2.len
  obtain ⟨g4, d4, rfl⟩ := e2.len
  have HP := Lib.hid (told_put (s2 := .slice g3 f.ms.length d3) (t2 := .slice g4 f.es.length d4) m1 e1)
  have HB4 := Lib.hid (m_below_on HB2.out hB4)
  have HY4 := Lib.hid (HY2.out.on hB4)
  have NF0 : Blk (w4.alloc (.cells z34 47)) w4.heap.size z34 47 := Blk.new rfl
  have NF := Lib.hid (NF0.alloc (.cells z34 52))
  have NR := Lib.hid (show Blk ((w4.alloc (.cells z34 47)).alloc (.cells z34 52)) (w4.heap.size + 1) z34 52 from Blk.new (by simp))
  have O1 := Lib.hid (frC_one f g1 g2 f.ms.length f.es.length d1 d2)
  have O2 := Lib.hid (frC_one f g3 g4 f.ms.length f.es.length d3 d4)
  have hne : w4.heap.size + 1 ≠ w4.heap.size := by omega
  have NR2 := Lib.hid ((setRow_other ((w4.alloc (.cells z34 47)).alloc (.cells z34 52)) w4.heap.size (w4.heap.size + 1) (frC f (.slice g1 f.ms.length d1) (.slice g2 f.es.length d2)) hne).trans (blk_raw NR.out))
  clear H2 hB4 m1 e1 m2 e2 hf NF0 R2 HX2 HY2 HB2
  go_upto_region 4 with (first | (refine wpList_store_row rfl 47 (.tmp 7) (.tmp 18) rfl w4.heap.size (frC f (.slice g1 f.ms.length d1) (.slice g2 f.es.length d2)) rfl rfl 47 z34 (blk_raw NF.out) (by kernel_rfl) rfl O1.out ?_) | (refine wpList_store_row rfl 52 (.tmp 8) (.tmp 19) rfl (w4.heap.size + 1) (frC f (.slice g3 f.ms.length d3) (.slice g4 f.es.length d4)) rfl rfl 52 z34 NR2.out (by kernel_rfl) rfl O2.out ?_))
  obtain ⟨w5, hw5⟩ : ∃ w5, w5 = (((w4.alloc (.cells z34 47)).alloc (.cells z34 52)).setRow w4.heap.size (frC f (.slice g1 f.ms.length d1) (.slice g2 f.es.length d2))).setRow (w4.heap.size + 1) (frC f (.slice g3 f.ms.length d3) (.slice g4 f.es.length d4)) := ⟨_, rfl⟩
  rw [← hw5] at HP ⊢
  obtain ⟨F, hF⟩ : ∃ F, F = w4.heap.size := ⟨_, rfl⟩
  rw [← hF] at HP ⊢
  have HF5 := Lib.hid HP.out.1
  have HB5 := Lib.hid (HB4.out.trans ((show Below w4.heap.size w4 w5 by rw [← hF]; exact HP.out.2).mono HB4.out.size))
  have HY5 := Lib.hid (HY4.out.on (show Below w4.heap.size w4 w5 by rw [← hF]; exact HP.out.2))
  have HFw : w.heap.size + 1 < F := by rw [hF]; exact HY4.out.lt
  have R5 := Lib.hid (blk_raw HY5.out)
  have H3 := Lib.hid (told_any y b1 b2 i1 i2 j1 j2 w5 HN.out.2.2.1 HN.out.2.2.2 (fun h => (HM.out.2.2.1 h).on HB5.out) (fun h => (HM.out.2.2.2 h).on HB5.out) l3 l4)
  clear hw5 hF NF NR NR2 O1 O2 HP HB4 HY4 hne
  generalize F + 1 = F1
  go_wp2_with (first | (refine wpList_load_row rfl 29 (.tmp 4) rfl (w.heap.size + 1) rfl 29 (frC y (.slice b1 i1 j1) (.slice b2 i2 j2)) (0, 0) _ R5.out Tryd.underlying29 rfl (by kernel_rfl) ?_))
  with_reducible refine H3.out.mono ?_
  rintro e w6 ⟨s5, t5, s6, t6, rfl, hB6, m1, e1, m2, e2⟩
  obtain ⟨g, hg⟩ : ∃ g, g = toldF y := ⟨_, rfl⟩
  rw [← hg] at m1 e1 m2 e2 ⊢
  have hgl : g.ms.length ≤ 10 ∧ g.es.length ≤ 18 := by rw [hg]; exact ⟨by simp [toldF]; omega, by simp [toldF]; omega⟩
  obtain ⟨g5, d5, rfl⟩ := m1.len
  obtain ⟨g6, d6, rfl⟩ := e1.len
  obtain ⟨g7, d7, rfl⟩ := m2.len
  obtain ⟨g8, d8, rfl⟩ := e2.len
  have HP := Lib.hid (told_put (s2 := .slice g7 g.ms.length d7) (t2 := .slice g8 g.es.length d8) m1 e1)
  have HB6 := Lib.hid (m_below_on HB5.out hB6)
  have HF6 := Lib.hid (HF5.out.on hB6)
  have NF0 : Blk (w6.alloc (.cells z34 47)) w6.heap.size z34 47 := Blk.new rfl
  have NF := Lib.hid (NF0.alloc (.cells z34 52))
  have NR := Lib.hid (show Blk ((w6.alloc (.cells z34 47)).alloc (.cells z34 52)) (w6.heap.size + 1) z34 52 from Blk.new (by simp))
  have O1 := Lib.hid (frC_one g g5 g6 g.ms.length g.es.length d5 d6)
  have O2 := Lib.hid (frC_one g g7 g8 g.ms.length g.es.length d7 d8)
  have hne : w6.heap.size + 1 ≠ w6.heap.size := by omega
  have NR2 := Lib.hid ((setRow_other ((w6.alloc (.cells z34 47)).alloc (.cells z34 52)) w6.heap.size (w6.heap.size + 1) (frC g (.slice g5 g.ms.length d5) (.slice g6 g.es.length d6)) hne).trans (blk_raw NR.out))
  clear H3 hB6 m1 e1 m2 e2 hg NF0 R5 HF5 HY5 HB5
  go_upto_region 5 with (first | (refine wpList_store_row rfl 47 (.tmp 9) (.tmp 23) rfl w6.heap.size (frC g (.slice g5 g.ms.length d5) (.slice g6 g.es.length d6)) rfl rfl 47 z34 (blk_raw NF.out) (by kernel_rfl) rfl O1.out ?_) | (refine wpList_store_row rfl 52 (.tmp 10) (.tmp 24) rfl (w6.heap.size + 1) (frC g (.slice g7 g.ms.length d7) (.slice g8 g.es.length d8)) rfl rfl 52 z34 NR2.out (by kernel_rfl) rfl O2.out ?_))
  obtain ⟨w7, hw7⟩ : ∃ w7, w7 = (((w6.alloc (.cells z34 47)).alloc (.cells z34 52)).setRow w6.heap.size (frC g (.slice g5 g.ms.length d5) (.slice g6 g.es.length d6))).setRow (w6.heap.size + 1) (frC g (.slice g7 g.ms.length d7) (.slice g8 g.es.length d8)) := ⟨_, rfl⟩
  rw [← hw7] at HP ⊢
  obtain ⟨G, hG⟩ : ∃ G, G = w6.heap.size := ⟨_, rfl⟩
  rw [← hG] at HP ⊢
  have HG7 := Lib.hid HP.out.1
  have HB7 := Lib.hid (HB6.out.trans ((show Below w6.heap.size w6 w7 by rw [← hG]; exact HP.out.2).mono HB6.out.size))
  have HF7 := Lib.hid (HF6.out.on (show Below w6.heap.size w6 w7 by rw [← hG]; exact HP.out.2))
  have HFG : F < G := by rw [hG]; exact HF6.out.b.lt
  clear hw7 hG NF NR NR2 O1 O2 HP HB6 HF6 hne
  generalize G + 1 = G1
  have R7 := Lib.hid (blk_raw HF7.out.b)
  have NZ := Lib.hid (Blk.new (w := w7) (B := w7.heap.size) (T := 47) (cs := z34) rfl)
  have OZ := Lib.hid (frC_one f g1 g2 f.ms.length f.es.length d1 d2)
  go_upto_region 7 with (first | (refine wpList_load_row rfl 47 (.tmp 7) rfl F rfl 47 (frC f (.slice g1 f.ms.length d1) (.slice g2 f.es.length d2)) (0, 0) _ R7.out Tryd.underlying47 rfl (by kernel_rfl) ?_) | (refine wpList_store_row rfl 47 (.tmp 11) (.tmp 25) rfl w7.heap.size (frC f (.slice g1 f.ms.length d1) (.slice g2 f.es.length d2)) rfl rfl 47 z34 (blk_raw NZ.out) (by kernel_rfl) rfl OZ.out ?_))
  obtain ⟨w8, hw8⟩ : ∃ w8, w8 = (w7.alloc (.cells z34 47)).setRow w7.heap.size (frC f (.slice g1 f.ms.length d1) (.slice g2 f.es.length d2)) := ⟨_, rfl⟩
  have hB8 : Below w7.heap.size w7 w8 := by rw [hw8]; exact below_sr (by go_grown) (Nat.le_refl _) _
  have HZ8 := Lib.hid (show FrB w8 w7.heap.size f (.slice g1 f.ms.length d1) (.slice g2 f.es.length d2) from ⟨by rw [hw8]; exact setRow_blk _ NZ.out, HF7.out.m.on hB8, HF7.out.e.on hB8⟩)
  rw [← hw8]
  obtain ⟨Z, hZ⟩ : ∃ Z, Z = w7.heap.size := ⟨_, rfl⟩
  rw [← hZ] at HZ8 ⊢
  have HZ8x := HZ8
  have HF8 := Lib.hid (HF7.out.on hB8)
  have HG8 := Lib.hid (HG7.out.on hB8)
  have HB8 := Lib.hid (m_below_on HB7.out hB8)
  have HGZ : G < Z := by rw [hZ]; exact HG7.out.b.lt
  have HZE := Lib.hid hZ
  have HBZ := Lib.hid (show Below Z w7 w8 by rw [hZ]; exact hB8)
  have HW7 := Lib.hid (And.intro HF7.out.m (And.intro HF7.out.e (And.intro HG7.out.m HG7.out.e)))
  have HFB := Lib.hid HF7.out.b
  have HGB := Lib.hid HG7.out.b
  have HBW := Lib.hid HB7.out
  clear hw8 hZ hB8 R7 NZ OZ HF7 HG7 HB7 HZ8
  have HZ8 := Lib.hid HZ8x.out.b
  have htm : (q : Int) % 9 = 3 := by omega
  go_upto_block 0 with fail
  rw [htm]
  clear htm hqm
  go_cut [12] from 147 (fun u wx => SamesCut f w7 Z u wx)
  case first =>
    rename_i JJ KK hJJ hKK
    have HJ := Lib.hid hJJ
    clear hJJ
    have nFZ : F ≠ Z := by omega
    have nGZ : G ≠ Z := by omega
    have lF := HF8.out.b.lt
    have lG := HG8.out.b.lt
    have lZ := HZ8.out.lt
    rcases Decidable.em (f.has = g.has) with e0 | ne0
    case inr =>
      have cF0 : w8.cell? ⟨F, 8, none⟩ = some (.bool f.has) := HF8.out.b.cell 8
      have cG0 : w8.cell? ⟨G, 8, none⟩ = some (.bool g.has) := HG8.out.b.cell 8
      have cZ0 : w8.cell? ⟨Z, 8, none⟩ = some (.bool f.has) := HZ8.out.cell 8
      have fZ0 := HZ8.out.frozen 8
      have cF1 : w8.cell? ⟨F, 9, none⟩ = some (.string f.text) := HF8.out.b.cell 9
      have cG1 : w8.cell? ⟨G, 9, none⟩ = some (.string g.text) := HG8.out.b.cell 9
      have cZ1 : w8.cell? ⟨Z, 9, none⟩ = some (.string f.text) := HZ8.out.cell 9
      have fZ1 := HZ8.out.frozen 9
      have hz := ne0
      go_upto_region 16 with fail
      go_region
      go_wp2_with fail
      refine Met.intro (HJ.out _ _ ?_)
      repeat apply Exists.intro
      refine ⟨?_, rfl⟩
      exact ⟨{ f with has := g.has, text := g.text }, (.slice g1 f.ms.length d1), (.slice g2 f.es.length d2), true, (by first | rfl | (simp [hz]; done) | (simp; done)), ⟨fun h => absurd (congrArg (fun z : Fr => z.has) h).symm ne0, fun h => by cases h⟩, hfl.1, hfl.2, HW7.out.1, HW7.out.2.1, (((HZ8.out.on (show Below w8.heap.size w8 w8.drew by go_grown)).set 8 (.bool g.has) _ rfl).set 9 (.string g.text) (frC { f with has := g.has, text := g.text } (.slice g1 f.ms.length d1) (.slice g2 f.es.length d2)) rfl), (((HBZ.out.trans (show Below Z w8 w8.drew by go_grown)).setCell (p := ⟨Z, 8, none⟩) (Nat.le_refl _) (.bool g.has)).setCell (p := ⟨Z, 9, none⟩) (Nat.le_refl _) (.string g.text))⟩
    rcases Decidable.em (f.text = g.text) with e1 | ne1
    case inr =>
      have cF0 : w8.cell? ⟨F, 8, none⟩ = some (.bool f.has) := HF8.out.b.cell 8
      have cG0 : w8.cell? ⟨G, 8, none⟩ = some (.bool f.has) := (HG8.out.b.cell 8).trans (by simp [e0])
      have cZ0 : w8.cell? ⟨Z, 8, none⟩ = some (.bool f.has) := HZ8.out.cell 8
      have fZ0 := HZ8.out.frozen 8
      have cF1 : w8.cell? ⟨F, 9, none⟩ = some (.string f.text) := HF8.out.b.cell 9
      have cG1 : w8.cell? ⟨G, 9, none⟩ = some (.string g.text) := HG8.out.b.cell 9
      have cZ1 : w8.cell? ⟨Z, 9, none⟩ = some (.string f.text) := HZ8.out.cell 9
      have fZ1 := HZ8.out.frozen 9
      have E0 := Lib.hid e0
      clear e0
      have hz : (f.text.toList == g.text.toList) = false := by rw [beq_bytes]; simpa using ne1
      go_upto_region 16 with fail
      go_region
      go_wp2_with fail
      refine Met.intro (HJ.out _ _ ?_)
      repeat apply Exists.intro
      refine ⟨?_, rfl⟩
      exact ⟨{ f with text := g.text }, (.slice g1 f.ms.length d1), (.slice g2 f.es.length d2), true, (by first | rfl | (simp [hz]; done) | (simp; done)), ⟨fun h => absurd (congrArg (fun z : Fr => z.text) h).symm ne1, fun h => by cases h⟩, hfl.1, hfl.2, HW7.out.1, HW7.out.2.1, (((HZ8.out.on (show Below w8.heap.size w8 w8.drew by go_grown)).set 8 (.bool f.has) _ rfl).set 9 (.string g.text) (frC { f with text := g.text } (.slice g1 f.ms.length d1) (.slice g2 f.es.length d2)) rfl), (((HBZ.out.trans (show Below Z w8 w8.drew by go_grown)).setCell (p := ⟨Z, 8, none⟩) (Nat.le_refl _) (.bool f.has)).setCell (p := ⟨Z, 9, none⟩) (Nat.le_refl _) (.string g.text))⟩
    have cF0 : w8.cell? ⟨F, 8, none⟩ = some (.bool f.has) := HF8.out.b.cell 8
    have cG0 : w8.cell? ⟨G, 8, none⟩ = some (.bool f.has) := (HG8.out.b.cell 8).trans (by simp [e0])
    have cZ0 : w8.cell? ⟨Z, 8, none⟩ = some (.bool f.has) := HZ8.out.cell 8
    have fZ0 := HZ8.out.frozen 8
    have cF1 : w8.cell? ⟨F, 9, none⟩ = some (.string f.text) := HF8.out.b.cell 9
    have cG1 : w8.cell? ⟨G, 9, none⟩ = some (.string f.text) := (HG8.out.b.cell 9).trans (by simp [e1])
    have cZ1 : w8.cell? ⟨Z, 9, none⟩ = some (.string f.text) := HZ8.out.cell 9
    have fZ1 := HZ8.out.frozen 9
    have E0 := Lib.hid e0
    clear e0
    have E1 := Lib.hid e1
    clear e1
    go_upto_region 16 with fail
    go_region
    go_wp2_with fail
    refine Met.intro (HJ.out _ _ ?_)
    repeat apply Exists.intro
    refine ⟨?_, rfl⟩
    exact ⟨f, (.slice g1 f.ms.length d1), (.slice g2 f.es.length d2), false, (by first | rfl | (simp [hz]; done) | (simp; done)), ⟨fun _ => rfl, fun _ => rfl⟩, hfl.1, hfl.2, HW7.out.1, HW7.out.2.1, (((HZ8.out.on (show Below w8.heap.size w8 w8.drew by go_grown)).set 8 (.bool f.has) _ rfl).set 9 (.string f.text) (frC f (.slice g1 f.ms.length d1) (.slice g2 f.es.length d2)) rfl), (((HBZ.out.trans (show Below Z w8 w8.drew by go_grown)).setCell (p := ⟨Z, 8, none⟩) (Nat.le_refl _) (.bool f.has)).setCell (p := ⟨Z, 9, none⟩) (Nat.le_refl _) (.string f.text))⟩
  case rest =>
    obtain ⟨z, sz, tz, d, rfl, hzf, hl1, hl2, hm, he, hb, hB⟩ := hcut
    have hB' : Below w7.heap.size w7 wc := by rw [← HZE.out]; exact hB
    have RF := Lib.hid (blk_raw (HFB.out.on hB'))
    have RG := Lib.hid (blk_raw (HGB.out.on hB'))
    have RZ := Lib.hid (blk_raw hb)
    have lF := (HFB.out.on hB').lt
    have lG := (HGB.out.on hB').lt
    have lZ := hb.lt
    have mF := HW7.out.1.on hB'
    have eF := HW7.out.2.1.on hB'
    have mG := HW7.out.2.2.1.on hB'
    have eG := HW7.out.2.2.2.on hB'
    have mZ := hm.on hB'
    have eZ := he.on hB'
    have hzl := And.intro hl1 hl2
    have H1 : Hid (∀ w', Below wc.heap.size wc w' → Calls Tryd.prog 13 #[.agg (frC f (.slice g1 f.ms.length d1) (.slice g2 f.es.length d2)), .agg (frC f (.slice g1 f.ms.length d1) (.slice g2 f.es.length d2))] w' (SameP (f = f) w')) := Lib.hid (fun w' h => Same_any f f _ _ _ _ w' (by omega) (by omega) (by omega) (by omega) (mF.on h) (mF.on h) (eF.on h) (eF.on h))
    have H2 : Hid (∀ w', Below wc.heap.size wc w' → Calls Tryd.prog 13 #[.agg (frC z sz tz), .agg (frC f (.slice g1 f.ms.length d1) (.slice g2 f.es.length d2))] w' (SameP (z = f) w')) := Lib.hid (fun w' h => Same_any z f _ _ _ _ w' (by omega) (by omega) (by omega) (by omega) (mZ.on h) (mF.on h) (eZ.on h) (eF.on h))
    have H3 : Hid (∀ w', Below wc.heap.size wc w' → Calls Tryd.prog 13 #[.agg (frC f (.slice g1 f.ms.length d1) (.slice g2 f.es.length d2)), .agg (frC g (.slice g5 g.ms.length d5) (.slice g6 g.es.length d6))] w' (SameP (f = g) w')) := Lib.hid (fun w' h => Same_any f g _ _ _ _ w' (by omega) (by omega) (by omega) (by omega) (mF.on h) (mG.on h) (eF.on h) (eG.on h))
    have H4 : Hid (∀ w', Below wc.heap.size wc w' → Calls Tryd.prog 13 #[.agg (frC g (.slice g5 g.ms.length d5) (.slice g6 g.es.length d6)), .agg (frC f (.slice g1 f.ms.length d1) (.slice g2 f.es.length d2))] w' (SameP (g = f) w')) := Lib.hid (fun w' h => Same_any g f _ _ _ _ w' (by omega) (by omega) (by omega) (by omega) (mG.on h) (mF.on h) (eG.on h) (eF.on h))
    have HBC := Lib.hid (HBW.out.trans (hB'.mono HBW.out.size))
    have HZF := Lib.hid hzf
    clear hm he hb hB hB' mF eF mG eG mZ eZ hzf HW7 HFB HGB HBZ HF8 HG8 HZ8 HZ8x hl1 hl2 hzl
    cases d
    case false =>
      go_upto_region 25 with fail
      have hS0 : Below wc.heap.size wc wc.drew := by go_grown
      refine WalkS.begin (fun w' => Below wc.heap.size wc w') [] (by kernel_rfl) hS0 ?_
      simp only [List.size_toArray, List.length_cons, List.length_nil, Nat.zero_add, Nat.reduceAdd, show Array.replicate 21 false = #[false, false, false, false, false, false, false, false, false, false, false, false, false, false, false, false, false, false, false, false, false] from rfl]
      refine WalkS.take 0 _ (v := .agg (frC f (.slice g1 f.ms.length d1) (.slice g2 f.es.length d2))) rfl (by kernel_rfl) (by kernel_rfl) (by kernel_rfl) (by kernel_rfl) (by kernel_rfl) (fun _ _ _ h => h) (Or.inl ⟨by rfl, fun w9 h9 => loadRow_run rfl 47 (.tmp 7) rfl F rfl 47 (frC f (.slice g1 f.ms.length d1) (.slice g2 f.es.length d2)) (0, 0) _ ((h9.block F lF).trans RF.out) Tryd.underlying47 rfl (by kernel_rfl)⟩) ?_
      simp only [Act.put, List.setIfInBounds_toArray, List.set_cons_zero, List.set_cons_succ]
      refine WalkS.take 1 _ (v := .agg (frC f (.slice g1 f.ms.length d1) (.slice g2 f.es.length d2))) rfl (by kernel_rfl) (by kernel_rfl) (by kernel_rfl) (by kernel_rfl) (by kernel_rfl) (fun _ _ _ h => h) (Or.inl ⟨by rfl, fun w9 h9 => loadRow_run rfl 47 (.tmp 7) rfl F rfl 47 (frC f (.slice g1 f.ms.length d1) (.slice g2 f.es.length d2)) (0, 0) _ ((h9.block F lF).trans RF.out) Tryd.underlying47 rfl (by kernel_rfl)⟩) ?_
      simp only [Act.put, List.setIfInBounds_toArray, List.set_cons_zero, List.set_cons_succ]
      refine WalkS.each [2] (by kernel_rfl) rfl ?_
      refine EachS.cons 2 _ rfl (fun K hK => ?s1) EachS.nil
      go_simp
      refine (H1.out _ hS0).mono ?_
      rintro e w11 ⟨r1, rfl, hr1, hBr1⟩
      obtain rfl : r1 = true := hr1.2 rfl
      clear hr1
      have hSr1 := m_below_on hS0 hBr1
      refine hK.out _ _ (fun _ => hSr1) ?_
      clear hK K hBr1
      simp only [Act.put, List.setIfInBounds_toArray, List.set_cons_zero, List.set_cons_succ]
      refine' WalkS.take0 3 _ (v := _) rfl (by kernel_rfl) (by kernel_rfl) (by kernel_rfl) (by kernel_rfl) (fun _ _ _ h => h) (Or.inl ⟨by rfl, ?hy2⟩) ?rest2
      case hy2 => (intro w9; go_simp <;> with_reducible rfl)
      simp only [Act.put, List.setIfInBounds_toArray, List.set_cons_zero, List.set_cons_succ]
      refine WalkS.take 4 _ (v := .agg (frC z sz tz)) rfl (by kernel_rfl) (by kernel_rfl) (by kernel_rfl) (by kernel_rfl) (by kernel_rfl) (fun _ _ _ h => h) (Or.inl ⟨by rfl, fun w9 h9 => loadRow_run rfl 47 (.tmp 11) rfl Z rfl 47 (frC z sz tz) (0, 0) _ ((h9.block Z lZ).trans RZ.out) Tryd.underlying47 rfl (by kernel_rfl)⟩) ?_
      simp only [Act.put, List.setIfInBounds_toArray, List.set_cons_zero, List.set_cons_succ]
      refine WalkS.take 5 _ (v := .agg (frC f (.slice g1 f.ms.length d1) (.slice g2 f.es.length d2))) rfl (by kernel_rfl) (by kernel_rfl) (by kernel_rfl) (by kernel_rfl) (by kernel_rfl) (fun _ _ _ h => h) (Or.inl ⟨by rfl, fun w9 h9 => loadRow_run rfl 47 (.tmp 7) rfl F rfl 47 (frC f (.slice g1 f.ms.length d1) (.slice g2 f.es.length d2)) (0, 0) _ ((h9.block F lF).trans RF.out) Tryd.underlying47 rfl (by kernel_rfl)⟩) ?_
      simp only [Act.put, List.setIfInBounds_toArray, List.set_cons_zero, List.set_cons_succ]
      refine' WalkS.take0 7 _ (v := _) rfl (by kernel_rfl) (by kernel_rfl) (by kernel_rfl) (by kernel_rfl) (fun _ _ _ h => h) (Or.inl ⟨by rfl, ?hy3⟩) ?rest3
      case hy3 => (intro w9; go_simp <;> with_reducible rfl)
      simp only [Act.put, List.setIfInBounds_toArray, List.set_cons_zero, List.set_cons_succ]
      refine' WalkS.take0 8 _ (v := _) rfl (by kernel_rfl) (by kernel_rfl) (by kernel_rfl) (by kernel_rfl) (fun _ _ _ h => h) (Or.inl ⟨by rfl, ?hy4⟩) ?rest4
      case hy4 => (intro w9; go_simp <;> with_reducible rfl)
      simp only [Act.put, List.setIfInBounds_toArray, List.set_cons_zero, List.set_cons_succ]
      refine WalkS.each [6] (by kernel_rfl) rfl ?_
      refine EachS.cons 6 _ rfl (fun K hK => ?s5) EachS.nil
      go_simp
      refine (H2.out _ hSr1).mono ?_
      rintro e w12 ⟨r2, rfl, hr2, hBr2⟩
      obtain rfl : r2 = true := by exact hr2.2 (HZF.out.2 rfl)
      clear hr2
      have hSr2 := m_below_on hSr1 hBr2
      refine hK.out _ _ (fun _ => hSr2) ?_
      clear hK K hBr2
      simp only [Act.put, List.setIfInBounds_toArray, List.set_cons_zero, List.set_cons_succ]
      refine' WalkS.take0 9 _ (v := _) rfl (by kernel_rfl) (by kernel_rfl) (by kernel_rfl) (by kernel_rfl) (fun _ _ _ h => h) (Or.inl ⟨by rfl, ?hy6⟩) ?rest6
      case hy6 => (intro w9; go_simp <;> with_reducible rfl)
      simp only [Act.put, List.setIfInBounds_toArray, List.set_cons_zero, List.set_cons_succ]
      refine' WalkS.take0 10 _ (v := _) rfl (by kernel_rfl) (by kernel_rfl) (by kernel_rfl) (by kernel_rfl) (fun _ _ _ h => h) (Or.inl ⟨by rfl, ?hy7⟩) ?rest7
      case hy7 => (intro w9; go_simp <;> with_reducible rfl)
      simp only [Act.put, List.setIfInBounds_toArray, List.set_cons_zero, List.set_cons_succ]
      refine' WalkS.take0 11 _ (v := _) rfl (by kernel_rfl) (by kernel_rfl) (by kernel_rfl) (by kernel_rfl) (fun _ _ _ h => h) (Or.inl ⟨by rfl, ?hy8⟩) ?rest8
      case hy8 => (intro w9; go_simp <;> with_reducible rfl)
      simp only [Act.put, List.setIfInBounds_toArray, List.set_cons_zero, List.set_cons_succ]
      refine WalkS.take 12 _ (v := .agg (frC f (.slice g1 f.ms.length d1) (.slice g2 f.es.length d2))) rfl (by kernel_rfl) (by kernel_rfl) (by kernel_rfl) (by kernel_rfl) (by kernel_rfl) (fun _ _ _ h => h) (Or.inl ⟨by rfl, fun w9 h9 => loadRow_run rfl 47 (.tmp 7) rfl F rfl 47 (frC f (.slice g1 f.ms.length d1) (.slice g2 f.es.length d2)) (0, 0) _ ((h9.block F lF).trans RF.out) Tryd.underlying47 rfl (by kernel_rfl)⟩) ?_
      simp only [Act.put, List.setIfInBounds_toArray, List.set_cons_zero, List.set_cons_succ]
      refine WalkS.take 13 _ (v := .agg (frC g (.slice g5 g.ms.length d5) (.slice g6 g.es.length d6))) rfl (by kernel_rfl) (by kernel_rfl) (by kernel_rfl) (by kernel_rfl) (by kernel_rfl) (fun _ _ _ h => h) (Or.inl ⟨by rfl, fun w9 h9 => loadRow_run rfl 47 (.tmp 9) rfl G rfl 47 (frC g (.slice g5 g.ms.length d5) (.slice g6 g.es.length d6)) (0, 0) _ ((h9.block G lG).trans RG.out) Tryd.underlying47 rfl (by kernel_rfl)⟩) ?_
      simp only [Act.put, List.setIfInBounds_toArray, List.set_cons_zero, List.set_cons_succ]
      refine WalkS.take 15 _ (v := .agg (frC g (.slice g5 g.ms.length d5) (.slice g6 g.es.length d6))) rfl (by kernel_rfl) (by kernel_rfl) (by kernel_rfl) (by kernel_rfl) (by kernel_rfl) (fun _ _ _ h => h) (Or.inl ⟨by rfl, fun w9 h9 => loadRow_run rfl 47 (.tmp 9) rfl G rfl 47 (frC g (.slice g5 g.ms.length d5) (.slice g6 g.es.length d6)) (0, 0) _ ((h9.block G lG).trans RG.out) Tryd.underlying47 rfl (by kernel_rfl)⟩) ?_
      simp only [Act.put, List.setIfInBounds_toArray, List.set_cons_zero, List.set_cons_succ]
      refine WalkS.take 16 _ (v := .agg (frC f (.slice g1 f.ms.length d1) (.slice g2 f.es.length d2))) rfl (by kernel_rfl) (by kernel_rfl) (by kernel_rfl) (by kernel_rfl) (by kernel_rfl) (fun _ _ _ h => h) (Or.inl ⟨by rfl, fun w9 h9 => loadRow_run rfl 47 (.tmp 7) rfl F rfl 47 (frC f (.slice g1 f.ms.length d1) (.slice g2 f.es.length d2)) (0, 0) _ ((h9.block F lF).trans RF.out) Tryd.underlying47 rfl (by kernel_rfl)⟩) ?_
      simp only [Act.put, List.setIfInBounds_toArray, List.set_cons_zero, List.set_cons_succ]
      refine WalkS.each [14] (by kernel_rfl) rfl ?_
      refine EachS.cons 14 _ rfl (fun K hK => ?s9) EachS.nil
      go_simp
      refine (H3.out _ hSr2).mono ?_
      rintro e w13 ⟨r3, rfl, hr3, hBr3⟩
      have hSr3 := m_below_on hSr2 hBr3
      refine hK.out _ _ (fun _ => hSr3) ?_
      clear hK K hBr3
      simp only [Act.put, List.setIfInBounds_toArray, List.set_cons_zero, List.set_cons_succ]
      refine WalkS.each [17] (by kernel_rfl) rfl ?_
      refine EachS.cons 17 _ rfl (fun K hK => ?s10) EachS.nil
      go_simp
      refine (H4.out _ hSr3).mono ?_
      rintro e w14 ⟨r4, rfl, hr4, hBr4⟩
      obtain rfl : r4 = r3 := by cases r3 <;> cases r4 <;> first | rfl | exact absurd (hr4.1 rfl).symm (fun h => by cases (hr3.2 h)) | exact absurd (hr3.1 rfl).symm (fun h => by cases (hr4.2 h))
      clear hr3 hr4
      have hSr4 := m_below_on hSr3 hBr4
      refine hK.out _ _ (fun _ => hSr4) ?_
      clear hK K hBr4
      simp only [Act.put, List.setIfInBounds_toArray, List.set_cons_zero, List.set_cons_succ]
      cases r4
      case false =>
        refine' WalkS.take0 18 _ (v := _) rfl (by kernel_rfl) (by kernel_rfl) (by kernel_rfl) (by kernel_rfl) (fun _ _ _ h => h) (Or.inl ⟨by rfl, ?hy11⟩) ?rest11
        case hy11 => (intro w9; go_simp <;> with_reducible rfl)
        simp only [Act.put, List.setIfInBounds_toArray, List.set_cons_zero, List.set_cons_succ]
        refine' WalkS.take0 19 _ (v := _) rfl (by kernel_rfl) (by kernel_rfl) (by kernel_rfl) (by kernel_rfl) (fun _ _ _ h => h) (Or.inl ⟨by rfl, ?hy12⟩) ?rest12
        case hy12 => (intro w9; go_simp <;> with_reducible rfl)
        simp only [Act.put, List.setIfInBounds_toArray, List.set_cons_zero, List.set_cons_succ]
        refine' WalkS.take0 20 _ (v := _) rfl (by kernel_rfl) (by kernel_rfl) (by kernel_rfl) (by kernel_rfl) (fun _ _ _ h => h) (Or.inl ⟨by rfl, ?hy13⟩) ?rest13
        case hy13 => (intro w9; go_simp <;> with_reducible rfl)
        simp only [Act.put, List.setIfInBounds_toArray, List.set_cons_zero, List.set_cons_succ]
        refine WalkS.done (by kernel_rfl) ?_
        go_wp2_with fail
        go_ret
        exact ⟨rfl, HBC.out.trans (hSr4.mono HBC.out.size)⟩
      case true =>
        refine' WalkS.take0 18 _ (v := _) rfl (by kernel_rfl) (by kernel_rfl) (by kernel_rfl) (by kernel_rfl) (fun _ _ _ h => h) (Or.inl ⟨by rfl, ?hy14⟩) ?rest14
        case hy14 => (intro w9; go_simp <;> with_reducible rfl)
        simp only [Act.put, List.setIfInBounds_toArray, List.set_cons_zero, List.set_cons_succ]
        refine' WalkS.take0 19 _ (v := _) rfl (by kernel_rfl) (by kernel_rfl) (by kernel_rfl) (by kernel_rfl) (fun _ _ _ h => h) (Or.inl ⟨by rfl, ?hy15⟩) ?rest15
        case hy15 => (intro w9; go_simp <;> with_reducible rfl)
        simp only [Act.put, List.setIfInBounds_toArray, List.set_cons_zero, List.set_cons_succ]
        refine' WalkS.take0 20 _ (v := _) rfl (by kernel_rfl) (by kernel_rfl) (by kernel_rfl) (by kernel_rfl) (fun _ _ _ h => h) (Or.inl ⟨by rfl, ?hy16⟩) ?rest16
        case hy16 => (intro w9; go_simp <;> with_reducible rfl)
        simp only [Act.put, List.setIfInBounds_toArray, List.set_cons_zero, List.set_cons_succ]
        refine WalkS.done (by kernel_rfl) ?_
        go_wp2_with fail
        go_ret
        exact ⟨rfl, HBC.out.trans (hSr4.mono HBC.out.size)⟩
    case true =>
      go_upto_region 25 with fail
      have hS0 : Below wc.heap.size wc wc.drew := by go_grown
      refine WalkS.begin (fun w' => Below wc.heap.size wc w') [] (by kernel_rfl) hS0 ?_
      simp only [List.size_toArray, List.length_cons, List.length_nil, Nat.zero_add, Nat.reduceAdd, show Array.replicate 21 false = #[false, false, false, false, false, false, false, false, false, false, false, false, false, false, false, false, false, false, false, false, false] from rfl]
      refine WalkS.take 0 _ (v := .agg (frC f (.slice g1 f.ms.length d1) (.slice g2 f.es.length d2))) rfl (by kernel_rfl) (by kernel_rfl) (by kernel_rfl) (by kernel_rfl) (by kernel_rfl) (fun _ _ _ h => h) (Or.inl ⟨by rfl, fun w9 h9 => loadRow_run rfl 47 (.tmp 7) rfl F rfl 47 (frC f (.slice g1 f.ms.length d1) (.slice g2 f.es.length d2)) (0, 0) _ ((h9.block F lF).trans RF.out) Tryd.underlying47 rfl (by kernel_rfl)⟩) ?_
      simp only [Act.put, List.setIfInBounds_toArray, List.set_cons_zero, List.set_cons_succ]
      refine WalkS.take 1 _ (v := .agg (frC f (.slice g1 f.ms.length d1) (.slice g2 f.es.length d2))) rfl (by kernel_rfl) (by kernel_rfl) (by kernel_rfl) (by kernel_rfl) (by kernel_rfl) (fun _ _ _ h => h) (Or.inl ⟨by rfl, fun w9 h9 => loadRow_run rfl 47 (.tmp 7) rfl F rfl 47 (frC f (.slice g1 f.ms.length d1) (.slice g2 f.es.length d2)) (0, 0) _ ((h9.block F lF).trans RF.out) Tryd.underlying47 rfl (by kernel_rfl)⟩) ?_
      simp only [Act.put, List.setIfInBounds_toArray, List.set_cons_zero, List.set_cons_succ]
      refine WalkS.each [2] (by kernel_rfl) rfl ?_
      refine EachS.cons 2 _ rfl (fun K hK => ?s17) EachS.nil
      go_simp
      refine (H1.out _ hS0).mono ?_
      rintro e w11 ⟨r1, rfl, hr1, hBr1⟩
      obtain rfl : r1 = true := hr1.2 rfl
      clear hr1
      have hSr1 := m_below_on hS0 hBr1
      refine hK.out _ _ (fun _ => hSr1) ?_
      clear hK K hBr1
      simp only [Act.put, List.setIfInBounds_toArray, List.set_cons_zero, List.set_cons_succ]
      refine' WalkS.take0 3 _ (v := _) rfl (by kernel_rfl) (by kernel_rfl) (by kernel_rfl) (by kernel_rfl) (fun _ _ _ h => h) (Or.inl ⟨by rfl, ?hy18⟩) ?rest18
      case hy18 => (intro w9; go_simp <;> with_reducible rfl)
      simp only [Act.put, List.setIfInBounds_toArray, List.set_cons_zero, List.set_cons_succ]
      refine WalkS.take 4 _ (v := .agg (frC z sz tz)) rfl (by kernel_rfl) (by kernel_rfl) (by kernel_rfl) (by kernel_rfl) (by kernel_rfl) (fun _ _ _ h => h) (Or.inl ⟨by rfl, fun w9 h9 => loadRow_run rfl 47 (.tmp 11) rfl Z rfl 47 (frC z sz tz) (0, 0) _ ((h9.block Z lZ).trans RZ.out) Tryd.underlying47 rfl (by kernel_rfl)⟩) ?_
      simp only [Act.put, List.setIfInBounds_toArray, List.set_cons_zero, List.set_cons_succ]
      refine WalkS.take 5 _ (v := .agg (frC f (.slice g1 f.ms.length d1) (.slice g2 f.es.length d2))) rfl (by kernel_rfl) (by kernel_rfl) (by kernel_rfl) (by kernel_rfl) (by kernel_rfl) (fun _ _ _ h => h) (Or.inl ⟨by rfl, fun w9 h9 => loadRow_run rfl 47 (.tmp 7) rfl F rfl 47 (frC f (.slice g1 f.ms.length d1) (.slice g2 f.es.length d2)) (0, 0) _ ((h9.block F lF).trans RF.out) Tryd.underlying47 rfl (by kernel_rfl)⟩) ?_
      simp only [Act.put, List.setIfInBounds_toArray, List.set_cons_zero, List.set_cons_succ]
      refine' WalkS.take0 7 _ (v := _) rfl (by kernel_rfl) (by kernel_rfl) (by kernel_rfl) (by kernel_rfl) (fun _ _ _ h => h) (Or.inl ⟨by rfl, ?hy19⟩) ?rest19
      case hy19 => (intro w9; go_simp <;> with_reducible rfl)
      simp only [Act.put, List.setIfInBounds_toArray, List.set_cons_zero, List.set_cons_succ]
      refine' WalkS.take0 8 _ (v := _) rfl (by kernel_rfl) (by kernel_rfl) (by kernel_rfl) (by kernel_rfl) (fun _ _ _ h => h) (Or.inl ⟨by rfl, ?hy20⟩) ?rest20
      case hy20 => (intro w9; go_simp <;> with_reducible rfl)
      simp only [Act.put, List.setIfInBounds_toArray, List.set_cons_zero, List.set_cons_succ]
      refine WalkS.each [6] (by kernel_rfl) rfl ?_
      refine EachS.cons 6 _ rfl (fun K hK => ?s21) EachS.nil
      go_simp
      refine (H2.out _ hSr1).mono ?_
      rintro e w12 ⟨r2, rfl, hr2, hBr2⟩
      obtain rfl : r2 = false := by cases r2 with | false => rfl | true => exact absurd (HZF.out.1 (hr2.1 rfl)) (by decide)
      clear hr2
      have hSr2 := m_below_on hSr1 hBr2
      refine hK.out _ _ (fun _ => hSr2) ?_
      clear hK K hBr2
      simp only [Act.put, List.setIfInBounds_toArray, List.set_cons_zero, List.set_cons_succ]
      refine' WalkS.take0 9 _ (v := _) rfl (by kernel_rfl) (by kernel_rfl) (by kernel_rfl) (by kernel_rfl) (fun _ _ _ h => h) (Or.inl ⟨by rfl, ?hy22⟩) ?rest22
      case hy22 => (intro w9; go_simp <;> with_reducible rfl)
      simp only [Act.put, List.setIfInBounds_toArray, List.set_cons_zero, List.set_cons_succ]
      refine' WalkS.take0 10 _ (v := _) rfl (by kernel_rfl) (by kernel_rfl) (by kernel_rfl) (by kernel_rfl) (fun _ _ _ h => h) (Or.inl ⟨by rfl, ?hy23⟩) ?rest23
      case hy23 => (intro w9; go_simp <;> with_reducible rfl)
      simp only [Act.put, List.setIfInBounds_toArray, List.set_cons_zero, List.set_cons_succ]
      refine' WalkS.take0 11 _ (v := _) rfl (by kernel_rfl) (by kernel_rfl) (by kernel_rfl) (by kernel_rfl) (fun _ _ _ h => h) (Or.inl ⟨by rfl, ?hy24⟩) ?rest24
      case hy24 => (intro w9; go_simp <;> with_reducible rfl)
      simp only [Act.put, List.setIfInBounds_toArray, List.set_cons_zero, List.set_cons_succ]
      refine WalkS.take 12 _ (v := .agg (frC f (.slice g1 f.ms.length d1) (.slice g2 f.es.length d2))) rfl (by kernel_rfl) (by kernel_rfl) (by kernel_rfl) (by kernel_rfl) (by kernel_rfl) (fun _ _ _ h => h) (Or.inl ⟨by rfl, fun w9 h9 => loadRow_run rfl 47 (.tmp 7) rfl F rfl 47 (frC f (.slice g1 f.ms.length d1) (.slice g2 f.es.length d2)) (0, 0) _ ((h9.block F lF).trans RF.out) Tryd.underlying47 rfl (by kernel_rfl)⟩) ?_
      simp only [Act.put, List.setIfInBounds_toArray, List.set_cons_zero, List.set_cons_succ]
      refine WalkS.take 13 _ (v := .agg (frC g (.slice g5 g.ms.length d5) (.slice g6 g.es.length d6))) rfl (by kernel_rfl) (by kernel_rfl) (by kernel_rfl) (by kernel_rfl) (by kernel_rfl) (fun _ _ _ h => h) (Or.inl ⟨by rfl, fun w9 h9 => loadRow_run rfl 47 (.tmp 9) rfl G rfl 47 (frC g (.slice g5 g.ms.length d5) (.slice g6 g.es.length d6)) (0, 0) _ ((h9.block G lG).trans RG.out) Tryd.underlying47 rfl (by kernel_rfl)⟩) ?_
      simp only [Act.put, List.setIfInBounds_toArray, List.set_cons_zero, List.set_cons_succ]
      refine WalkS.take 15 _ (v := .agg (frC g (.slice g5 g.ms.length d5) (.slice g6 g.es.length d6))) rfl (by kernel_rfl) (by kernel_rfl) (by kernel_rfl) (by kernel_rfl) (by kernel_rfl) (fun _ _ _ h => h) (Or.inl ⟨by rfl, fun w9 h9 => loadRow_run rfl 47 (.tmp 9) rfl G rfl 47 (frC g (.slice g5 g.ms.length d5) (.slice g6 g.es.length d6)) (0, 0) _ ((h9.block G lG).trans RG.out) Tryd.underlying47 rfl (by kernel_rfl)⟩) ?_
      simp only [Act.put, List.setIfInBounds_toArray, List.set_cons_zero, List.set_cons_succ]
      refine WalkS.take 16 _ (v := .agg (frC f (.slice g1 f.ms.length d1) (.slice g2 f.es.length d2))) rfl (by kernel_rfl) (by kernel_rfl) (by kernel_rfl) (by kernel_rfl) (by kernel_rfl) (fun _ _ _ h => h) (Or.inl ⟨by rfl, fun w9 h9 => loadRow_run rfl 47 (.tmp 7) rfl F rfl 47 (frC f (.slice g1 f.ms.length d1) (.slice g2 f.es.length d2)) (0, 0) _ ((h9.block F lF).trans RF.out) Tryd.underlying47 rfl (by kernel_rfl)⟩) ?_
      simp only [Act.put, List.setIfInBounds_toArray, List.set_cons_zero, List.set_cons_succ]
      refine WalkS.each [14] (by kernel_rfl) rfl ?_
      refine EachS.cons 14 _ rfl (fun K hK => ?s25) EachS.nil
      go_simp
      refine (H3.out _ hSr2).mono ?_
      rintro e w13 ⟨r3, rfl, hr3, hBr3⟩
      have hSr3 := m_below_on hSr2 hBr3
      refine hK.out _ _ (fun _ => hSr3) ?_
      clear hK K hBr3
      simp only [Act.put, List.setIfInBounds_toArray, List.set_cons_zero, List.set_cons_succ]
      refine WalkS.each [17] (by kernel_rfl) rfl ?_
      refine EachS.cons 17 _ rfl (fun K hK => ?s26) EachS.nil
      go_simp
      refine (H4.out _ hSr3).mono ?_
      rintro e w14 ⟨r4, rfl, hr4, hBr4⟩
      obtain rfl : r4 = r3 := by cases r3 <;> cases r4 <;> first | rfl | exact absurd (hr4.1 rfl).symm (fun h => by cases (hr3.2 h)) | exact absurd (hr3.1 rfl).symm (fun h => by cases (hr4.2 h))
      clear hr3 hr4
      have hSr4 := m_below_on hSr3 hBr4
      refine hK.out _ _ (fun _ => hSr4) ?_
      clear hK K hBr4
      simp only [Act.put, List.setIfInBounds_toArray, List.set_cons_zero, List.set_cons_succ]
      cases r4
      case false =>
        refine' WalkS.take0 18 _ (v := _) rfl (by kernel_rfl) (by kernel_rfl) (by kernel_rfl) (by kernel_rfl) (fun _ _ _ h => h) (Or.inl ⟨by rfl, ?hy27⟩) ?rest27
        case hy27 => (intro w9; go_simp <;> with_reducible rfl)
        simp only [Act.put, List.setIfInBounds_toArray, List.set_cons_zero, List.set_cons_succ]
        refine' WalkS.take0 19 _ (v := _) rfl (by kernel_rfl) (by kernel_rfl) (by kernel_rfl) (by kernel_rfl) (fun _ _ _ h => h) (Or.inl ⟨by rfl, ?hy28⟩) ?rest28
        case hy28 => (intro w9; go_simp <;> with_reducible rfl)
        simp only [Act.put, List.setIfInBounds_toArray, List.set_cons_zero, List.set_cons_succ]
        refine' WalkS.take0 20 _ (v := _) rfl (by kernel_rfl) (by kernel_rfl) (by kernel_rfl) (by kernel_rfl) (fun _ _ _ h => h) (Or.inl ⟨by rfl, ?hy29⟩) ?rest29
        case hy29 => (intro w9; go_simp <;> with_reducible rfl)
        simp only [Act.put, List.setIfInBounds_toArray, List.set_cons_zero, List.set_cons_succ]
        refine WalkS.done (by kernel_rfl) ?_
        go_wp2_with fail
        go_ret
        exact ⟨rfl, HBC.out.trans (hSr4.mono HBC.out.size)⟩
      case true =>
        refine' WalkS.take0 18 _ (v := _) rfl (by kernel_rfl) (by kernel_rfl) (by kernel_rfl) (by kernel_rfl) (fun _ _ _ h => h) (Or.inl ⟨by rfl, ?hy30⟩) ?rest30
        case hy30 => (intro w9; go_simp <;> with_reducible rfl)
        simp only [Act.put, List.setIfInBounds_toArray, List.set_cons_zero, List.set_cons_succ]
        refine' WalkS.take0 19 _ (v := _) rfl (by kernel_rfl) (by kernel_rfl) (by kernel_rfl) (by kernel_rfl) (fun _ _ _ h => h) (Or.inl ⟨by rfl, ?hy31⟩) ?rest31
        case hy31 => (intro w9; go_simp <;> with_reducible rfl)
        simp only [Act.put, List.setIfInBounds_toArray, List.set_cons_zero, List.set_cons_succ]
        refine' WalkS.take0 20 _ (v := _) rfl (by kernel_rfl) (by kernel_rfl) (by kernel_rfl) (by kernel_rfl) (fun _ _ _ h => h) (Or.inl ⟨by rfl, ?hy32⟩) ?rest32
        case hy32 => (intro w9; go_simp <;> with_reducible rfl)
        simp only [Act.put, List.setIfInBounds_toArray, List.set_cons_zero, List.set_cons_succ]
        refine WalkS.done (by kernel_rfl) ?_
        go_wp2_with fail
        go_ret
        exact ⟨rfl, HBC.out.trans (hSr4.mono HBC.out.size)⟩
set_option maxHeartbeats 8000000 in
set_option maxRecDepth 20000 in
theorem sames_4 (x y : Fr) (a1 a2 b1 b2 : Option Addr) (n1 n2 k1 k2 i1 i2 j1 j2 : Nat) (q : Nat) (w : World) (henv : FEnv w) (hq : q < 256) (hqm : q % 9 = 4)
    (hn1 : n1 = x.ms.length) (hn2 : n2 = x.es.length) (hm : 0 < n1 → memR.At w (.slice a1 n1 k1) x.ms) (he : 0 < n2 → entR.At w (.slice a2 n2 k2) x.es) (l1 : n1 ≤ maxLen) (l2 : n2 ≤ maxLen)
    (hi1 : i1 = y.ms.length) (hi2 : i2 = y.es.length) (gm : 0 < i1 → memR.At w (.slice b1 i1 j1) y.ms) (ge : 0 < i2 → entR.At w (.slice b2 i2 j2) y.es) (l3 : i1 ≤ maxLen) (l4 : i2 ≤ maxLen) :
    Calls Tryd.prog 5 #[.agg (frC x (.slice a1 n1 k1) (.slice a2 n2 k2)), .agg (frC y (.slice b1 i1 j1) (.slice b2 i2 j2)), .int .u8 q] w (retB true w) := by
  have HN := Lib.hid (And.intro hn1 (And.intro hn2 (And.intro hi1 hi2)))
  have HM := Lib.hid (And.intro hm (And.intro he (And.intro gm ge)))
  obtain ⟨w0, hw0⟩ : ∃ w0, w0 = (w.alloc (.cells (frC x (.slice a1 n1 k1) (.slice a2 n2 k2)) 29)).alloc (.cells (frC y (.slice b1 i1 j1) (.slice b2 i2 j2)) 29) := ⟨_, rfl⟩
  have hB0 : Below w.heap.size w w0 := by rw [hw0]; go_grown
  have hX0 : Blk (w.alloc (.cells (frC x (.slice a1 n1 k1) (.slice a2 n2 k2)) 29)) w.heap.size (frC x (.slice a1 n1 k1) (.slice a2 n2 k2)) 29 := Blk.new rfl
  have HX0 := Lib.hid (show Blk w0 w.heap.size (frC x (.slice a1 n1 k1) (.slice a2 n2 k2)) 29 by rw [hw0]; exact hX0.alloc _)
  have HY0 := Lib.hid (show Blk w0 (w.heap.size + 1) (frC y (.slice b1 i1 j1) (.slice b2 i2 j2)) 29 by rw [hw0]; exact Blk.new (by simp))
  have HB0 := Lib.hid hB0
  have H1 := Lib.hid (speaks_any w0 (henv.on hB0 henv.pos))
  clear henv hm he gm ge hn1 hn2 hi1 hi2 hB0 hX0
  go_enter Tryd.func5, Tryd.ntmps5
  go_upto_region 1 with fail
  rw [← hw0]
  clear hw0
  go_wp2_with fail
  with_reducible refine H1.out.mono ?_
  rintro e w2 ⟨rfl, hB2⟩
  have HX2 := Lib.hid (HX0.out.on hB2)
  have HY2 := Lib.hid (HY0.out.on hB2)
  have HB2 := Lib.hid (m_below_on HB0.out hB2)
  have R2 := Lib.hid (blk_raw HX2.out)
  have H2 := Lib.hid (told_any x a1 a2 n1 n2 k1 k2 w2 HN.out.1 HN.out.2.1 (fun h => (HM.out.1 h).on HB2.out) (fun h => (HM.out.2.1 h).on HB2.out) l1 l2)
  clear H1 hB2 HX0 HY0 HB0
  go_wp2_with (first | (refine wpList_load_row rfl 29 (.tmp 3) rfl w.heap.size rfl 29 (frC x (.slice a1 n1 k1) (.slice a2 n2 k2)) (0, 0) _ R2.out Tryd.underlying29 rfl (by kernel_rfl) ?_))
  with_reducible refine H2.out.mono ?_
  rintro e w4 ⟨s1, t1, s2, t2, rfl, hB4, m1, e1, m2, e2⟩
  obtain ⟨f, hf⟩ : ∃ f, f = toldF x := ⟨_, rfl⟩
  rw [← hf] at m1 e1 m2 e2 ⊢
  have hfl : f.ms.length ≤ 10 ∧ f.es.length ≤ 18 := by rw [hf]; exact ⟨by simp [toldF]; omega, by simp [toldF]; omega⟩
  obtain ⟨g1, d1, rfl⟩ := m1.len
  obtain ⟨g2, d2, rfl⟩ := e1.len
  obtain ⟨g3, d3, rfl⟩ := m2.len
  obtain ⟨g4, d4, rfl⟩ := e2.len
  have HP := Lib.hid (told_put (s2 := .slice g3 f.ms.length d3) (t2 := .slice g4 f.es.length d4) m1 e1)
  have HB4 := Lib.hid (m_below_on HB2.out hB4)
  have HY4 := Lib.hid (HY2.out.on hB4)
  have NF0 : Blk (w4.alloc (.cells z34 47)) w4.heap.size z34 47 := Blk.new rfl
  have NF := Lib.hid (NF0.alloc (.cells z34 52))
  have NR := Lib.hid (show Blk ((w4.alloc (.cells z34 47)).alloc (.cells z34 52)) (w4.heap.size + 1) z34 52 from Blk.new (by simp))
  have O1 := Lib.hid (frC_one f g1 g2 f.ms.length f.es.length d1 d2)
  have O2 := Lib.hid (frC_one f g3 g4 f.ms.length f.es.length d3 d4)
  have hne : w4.heap.size + 1 ≠ w4.heap.size := by omega
  have NR2 := Lib.hid ((setRow_other ((w4.alloc (.cells z34 47)).alloc (.cells z34 52)) w4.heap.size (w4.heap.size + 1) (frC f (.slice g1 f.ms.length d1) (.slice g2 f.es.length d2)) hne).trans (blk_raw NR.out))
  clear H2 hB4 m1 e1 m2 e2 hf NF0 R2 HX2 HY2 HB2
  go_upto_region 4 with (first | (refine wpList_store_row rfl 47 (.tmp 7) (.tmp 18) rfl w4.heap.size (frC f (.slice g1 f.ms.length d1) (.slice g2 f.es.length d2)) rfl rfl 47 z34 (blk_raw NF.out) (by kernel_rfl) rfl O1.out ?_) | (refine wpList_store_row rfl 52 (.tmp 8) (.tmp 19) rfl (w4.heap.size + 1) (frC f (.slice g3 f.ms.length d3) (.slice g4 f.es.length d4)) rfl rfl 52 z34 NR2.out (by kernel_rfl) rfl O2.out ?_))
  obtain ⟨w5, hw5⟩ : ∃ w5, w5 = (((w4.alloc (.cells z34 47)).alloc (.cells z34 52)).setRow w4.heap.size (frC f (.slice g1 f.ms.length d1) (.slice g2 f.es.length d2))).setRow (w4.heap.size + 1) (frC f (.slice g3 f.ms.length d3) (.slice g4 f.es.length d4)) := ⟨_, rfl⟩
  rw [← hw5] at HP ⊢
  obtain ⟨F, hF⟩ : ∃ F, F = w4.heap.size := ⟨_, rfl⟩
  rw [← hF] at HP ⊢
  have HF5 := Lib.hid HP.out.1
  have HB5 := Lib.hid (HB4.out.trans ((show Below w4.heap.size w4 w5 by rw [← hF]; exact HP.out.2).mono HB4.out.size))
  have HY5 := Lib.hid (HY4.out.on (show Below w4.heap.size w4 w5 by rw [← hF]; exact HP.out.2))
  have HFw : w.heap.size + 1 < F := by rw [hF]; exact HY4.out.lt
  have R5 := Lib.hid (blk_raw HY5.out)
  have H3 := Lib.hid (told_any y b1 b2 i1 i2 j1 j2 w5 HN.out.2.2.1 HN.out.2.2.2 (fun h => (HM.out.2.2.1 h).on HB5.out) (fun h => (HM.out.2.2.2 h).on HB5.out) l3 l4)
  clear hw5 hF NF NR NR2 O1 O2 HP HB4 HY4 hne
  generalize F + 1 = F1
  go_wp2_with (first | (refine wpList_load_row rfl 29 (.tmp 4) rfl (w.heap.size + 1) rfl 29 (frC y (.slice b1 i1 j1) (.slice b2 i2 j2)) (0, 0) _ R5.out Tryd.underlying29 rfl (by kernel_rfl) ?_))
  with_reducible refine H3.out.mono ?_
  rintro e w6 ⟨s5, t5, s6, t6, rfl, hB6, m1, e1, m2, e2⟩
  obtain ⟨g, hg⟩ : ∃ g, g = toldF y := ⟨_, rfl⟩
  rw [← hg] at m1 e1 m2 e2 ⊢
  have hgl : g.ms.length ≤ 10 ∧ g.es.length ≤ 18 := by rw [hg]; exact ⟨by simp [toldF]; omega, by simp [toldF]; omega⟩
  obtain ⟨g5, d5, rfl⟩ := m1.len
  obtain ⟨g6, d6, rfl⟩ := e1.len
  obtain ⟨g7, d7, rfl⟩ := m2.len
  obtain ⟨g8, d8, rfl⟩ := e2.len
  have HP := Lib.hid (told_put (s2 := .slice g7 g.ms.length d7) (t2 := .slice g8 g.es.length d8) m1 e1)
  have HB6 := Lib.hid (m_below_on HB5.out hB6)
  have HF6 := Lib.hid (HF5.out.on hB6)
  have NF0 : Blk (w6.alloc (.cells z34 47)) w6.heap.size z34 47 := Blk.new rfl
  have NF := Lib.hid (NF0.alloc (.cells z34 52))
  have NR := Lib.hid (show Blk ((w6.alloc (.cells z34 47)).alloc (.cells z34 52)) (w6.heap.size + 1) z34 52 from Blk.new (by simp))
  have O1 := Lib.hid (frC_one g g5 g6 g.ms.length g.es.length d5 d6)
  have O2 := Lib.hid (frC_one g g7 g8 g.ms.length g.es.length d7 d8)
  have hne : w6.heap.size + 1 ≠ w6.heap.size := by omega
  have NR2 := Lib.hid ((setRow_other ((w6.alloc (.cells z34 47)).alloc (.cells z34 52)) w6.heap.size (w6.heap.size + 1) (frC g (.slice g5 g.ms.length d5) (.slice g6 g.es.length d6)) hne).trans (blk_raw NR.out))
  clear H3 hB6 m1 e1 m2 e2 hg NF0 R5 HF5 HY5 HB5
  go_upto_region 5 with (first | (refine wpList_store_row rfl 47 (.tmp 9) (.tmp 23) rfl w6.heap.size (frC g (.slice g5 g.ms.length d5) (.slice g6 g.es.length d6)) rfl rfl 47 z34 (blk_raw NF.out) (by kernel_rfl) rfl O1.out ?_) | (refine wpList_store_row rfl 52 (.tmp 10) (.tmp 24) rfl (w6.heap.size + 1) (frC g (.slice g7 g.ms.length d7) (.slice g8 g.es.length d8)) rfl rfl 52 z34 NR2.out (by kernel_rfl) rfl O2.out ?_))
  obtain ⟨w7, hw7⟩ : ∃ w7, w7 = (((w6.alloc (.cells z34 47)).alloc (.cells z34 52)).setRow w6.heap.size (frC g (.slice g5 g.ms.length d5) (.slice g6 g.es.length d6))).setRow (w6.heap.size + 1) (frC g (.slice g7 g.ms.length d7) (.slice g8 g.es.length d8)) := ⟨_, rfl⟩
  rw [← hw7] at HP ⊢
  obtain ⟨G, hG⟩ : ∃ G, G = w6.heap.size := ⟨_, rfl⟩
  rw [← hG] at HP ⊢
  have HG7 := Lib.hid HP.out.1
  have HB7 := Lib.hid (HB6.out.trans ((show Below w6.heap.size w6 w7 by rw [← hG]; exact HP.out.2).mono HB6.out.size))
  have HF7 := Lib.hid (HF6.out.on (show Below w6.heap.size w6 w7 by rw [← hG]; exact HP.out.2))
  have HFG : F < G := by rw [hG]; exact HF6.out.b.lt
  clear hw7 hG NF NR NR2 O1 O2 HP HB6 HF6 hne
  generalize G + 1 = G1
  have R7 := Lib.hid (blk_raw HF7.out.b)
  have NZ := Lib.hid (Blk.new (w := w7) (B := w7.heap.size) (T := 47) (cs := z34) rfl)
  have OZ := Lib.hid (frC_one f g1 g2 f.ms.length f.es.length d1 d2)
  go_upto_region 7 with (first | (refine wpList_load_row rfl 47 (.tmp 7) rfl F rfl 47 (frC f (.slice g1 f.ms.length d1) (.slice g2 f.es.length d2)) (0, 0) _ R7.out Tryd.underlying47 rfl (by kernel_rfl) ?_) | (refine wpList_store_row rfl 47 (.tmp 11) (.tmp 25) rfl w7.heap.size (frC f (.slice g1 f.ms.length d1) (.slice g2 f.es.length d2)) rfl rfl 47 z34 (blk_raw NZ.out) (by kernel_rfl) rfl OZ.out ?_))
  obtain ⟨w8, hw8⟩ : ∃ w8, w8 = (w7.alloc (.cells z34 47)).setRow w7.heap.size (frC f (.slice g1 f.ms.length d1) (.slice g2 f.es.length d2)) := ⟨_, rfl⟩
  have hB8 : Below w7.heap.size w7 w8 := by rw [hw8]; exact below_sr (by go_grown) (Nat.le_refl _) _
  have HZ8 := Lib.hid (show FrB w8 w7.heap.size f (.slice g1 f.ms.length d1) (.slice g2 f.es.length d2) from ⟨by rw [hw8]; exact setRow_blk _ NZ.out, HF7.out.m.on hB8, HF7.out.e.on hB8⟩)
  rw [← hw8]
  obtain ⟨Z, hZ⟩ : ∃ Z, Z = w7.heap.size := ⟨_, rfl⟩
  rw [← hZ] at HZ8 ⊢
  have HZ8x := HZ8
  have HF8 := Lib.hid (HF7.out.on hB8)
  have HG8 := Lib.hid (HG7.out.on hB8)
  have HB8 := Lib.hid (m_below_on HB7.out hB8)
  have HGZ : G < Z := by rw [hZ]; exact HG7.out.b.lt
  have HZE := Lib.hid hZ
  have HBZ := Lib.hid (show Below Z w7 w8 by rw [hZ]; exact hB8)
  have HW7 := Lib.hid (And.intro HF7.out.m (And.intro HF7.out.e (And.intro HG7.out.m HG7.out.e)))
  have HFB := Lib.hid HF7.out.b
  have HGB := Lib.hid HG7.out.b
  have HBW := Lib.hid HB7.out
  clear hw8 hZ hB8 R7 NZ OZ HF7 HG7 HB7 HZ8
  have HZ8 := Lib.hid HZ8x.out.b
  have htm : (q : Int) % 9 = 4 := by omega
  go_upto_block 0 with fail
  rw [htm]
  clear htm hqm
  go_cut [12] from 147 (fun u wx => SamesCut f w7 Z u wx)
  case first =>
    rename_i JJ KK hJJ hKK
    have HJ := Lib.hid hJJ
    clear hJJ
    have nFZ : F ≠ Z := by omega
    have nGZ : G ≠ Z := by omega
    have lF := HF8.out.b.lt
    have lG := HG8.out.b.lt
    have lZ := HZ8.out.lt
    rcases Decidable.em (f.flag = g.flag) with e0 | ne0
    case inr =>
      have cF0 : w8.cell? ⟨F, 11, none⟩ = some (.bool f.flag) := HF8.out.b.cell 11
      have cG0 : w8.cell? ⟨G, 11, none⟩ = some (.bool g.flag) := HG8.out.b.cell 11
      have cZ0 : w8.cell? ⟨Z, 11, none⟩ = some (.bool f.flag) := HZ8.out.cell 11
      have fZ0 := HZ8.out.frozen 11
      have hz := ne0
      go_upto_region 18 with fail
      go_region
      go_wp2_with fail
      refine Met.intro (HJ.out _ _ ?_)
      repeat apply Exists.intro
      refine ⟨?_, rfl⟩
      exact ⟨{ f with flag := g.flag }, (.slice g1 f.ms.length d1), (.slice g2 f.es.length d2), true, (by first | rfl | (simp [hz]; done) | (simp; done)), ⟨fun h => absurd (congrArg (fun z : Fr => z.flag) h).symm ne0, fun h => by cases h⟩, hfl.1, hfl.2, HW7.out.1, HW7.out.2.1, ((HZ8.out.on (show Below w8.heap.size w8 w8.drew by go_grown)).set 11 (.bool g.flag) (frC { f with flag := g.flag } (.slice g1 f.ms.length d1) (.slice g2 f.es.length d2)) rfl), ((HBZ.out.trans (show Below Z w8 w8.drew by go_grown)).setCell (p := ⟨Z, 11, none⟩) (Nat.le_refl _) (.bool g.flag))⟩
    have cF0 : w8.cell? ⟨F, 11, none⟩ = some (.bool f.flag) := HF8.out.b.cell 11
    have cG0 : w8.cell? ⟨G, 11, none⟩ = some (.bool f.flag) := (HG8.out.b.cell 11).trans (by simp [e0])
    have cZ0 : w8.cell? ⟨Z, 11, none⟩ = some (.bool f.flag) := HZ8.out.cell 11
    have fZ0 := HZ8.out.frozen 11
    have E0 := Lib.hid e0
    clear e0
    go_upto_region 18 with fail
    go_region
    go_wp2_with fail
    refine Met.intro (HJ.out _ _ ?_)
    repeat apply Exists.intro
    refine ⟨?_, rfl⟩
    exact ⟨f, (.slice g1 f.ms.length d1), (.slice g2 f.es.length d2), false, (by first | rfl | (simp [hz]; done) | (simp; done)), ⟨fun _ => rfl, fun _ => rfl⟩, hfl.1, hfl.2, HW7.out.1, HW7.out.2.1, ((HZ8.out.on (show Below w8.heap.size w8 w8.drew by go_grown)).set 11 (.bool f.flag) (frC f (.slice g1 f.ms.length d1) (.slice g2 f.es.length d2)) rfl), ((HBZ.out.trans (show Below Z w8 w8.drew by go_grown)).setCell (p := ⟨Z, 11, none⟩) (Nat.le_refl _) (.bool f.flag))⟩
  case rest =>
    obtain ⟨z, sz, tz, d, rfl, hzf, hl1, hl2, hm, he, hb, hB⟩ := hcut
    have hB' : Below w7.heap.size w7 wc := by rw [← HZE.out]; exact hB
    have RF := Lib.hid (blk_raw (HFB.out.on hB'))
    have RG := Lib.hid (blk_raw (HGB.out.on hB'))
    have RZ := Lib.hid (blk_raw hb)
    have lF := (HFB.out.on hB').lt
    have lG := (HGB.out.on hB').lt
    have lZ := hb.lt
    have mF := HW7.out.1.on hB'
    have eF := HW7.out.2.1.on hB'
    have mG := HW7.out.2.2.1.on hB'
    have eG := HW7.out.2.2.2.on hB'
    have mZ := hm.on hB'
    have eZ := he.on hB'
    have hzl := And.intro hl1 hl2
    have H1 : Hid (∀ w', Below wc.heap.size wc w' → Calls Tryd.prog 13 #[.agg (frC f (.slice g1 f.ms.length d1) (.slice g2 f.es.length d2)), .agg (frC f (.slice g1 f.ms.length d1) (.slice g2 f.es.length d2))] w' (SameP (f = f) w')) := Lib.hid (fun w' h => Same_any f f _ _ _ _ w' (by omega) (by omega) (by omega) (by omega) (mF.on h) (mF.on h) (eF.on h) (eF.on h))
    have H2 : Hid (∀ w', Below wc.heap.size wc w' → Calls Tryd.prog 13 #[.agg (frC z sz tz), .agg (frC f (.slice g1 f.ms.length d1) (.slice g2 f.es.length d2))] w' (SameP (z = f) w')) := Lib.hid (fun w' h => Same_any z f _ _ _ _ w' (by omega) (by omega) (by omega) (by omega) (mZ.on h) (mF.on h) (eZ.on h) (eF.on h))
    have H3 : Hid (∀ w', Below wc.heap.size wc w' → Calls Tryd.prog 13 #[.agg (frC f (.slice g1 f.ms.length d1) (.slice g2 f.es.length d2)), .agg (frC g (.slice g5 g.ms.length d5) (.slice g6 g.es.length d6))] w' (SameP (f = g) w')) := Lib.hid (fun w' h => Same_any f g _ _ _ _ w' (by omega) (by omega) (by omega) (by omega) (mF.on h) (mG.on h) (eF.on h) (eG.on h))
    have H4 : Hid (∀ w', Below wc.heap.size wc w' → Calls Tryd.prog 13 #[.agg (frC g (.slice g5 g.ms.length d5) (.slice g6 g.es.length d6)), .agg (frC f (.slice g1 f.ms.length d1) (.slice g2 f.es.length d2))] w' (SameP (g = f) w')) := Lib.hid (fun w' h => Same_any g f _ _ _ _ w' (by omega) (by omega) (by omega) (by omega) (mG.on h) (mF.on h) (eG.on h) (eF.on h))
    have HBC := Lib.hid (HBW.out.trans (hB'.mono HBW.out.size))
    have HZF := Lib.hid hzf
    clear hm he hb hB hB' mF eF mG eG mZ eZ hzf HW7 HFB HGB HBZ HF8 HG8 HZ8 HZ8x hl1 hl2 hzl
    cases d
    case false =>
      go_upto_region 25 with fail
      have hS0 : Below wc.heap.size wc wc.drew := by go_grown
      refine WalkS.begin (fun w' => Below wc.heap.size wc w') [] (by kernel_rfl) hS0 ?_
      simp only [List.size_toArray, List.length_cons, List.length_nil, Nat.zero_add, Nat.reduceAdd, show Array.replicate 21 false = #[false, false, false, false, false, false, false, false, false, false, false, false, false, false, false, false, false, false, false, false, false] from rfl]
      refine WalkS.take 0 _ (v := .agg (frC f (.slice g1 f.ms.length d1) (.slice g2 f.es.length d2))) rfl (by kernel_rfl) (by kernel_rfl) (by kernel_rfl) (by kernel_rfl) (by kernel_rfl) (fun _ _ _ h => h) (Or.inl ⟨by rfl, fun w9 h9 => loadRow_run rfl 47 (.tmp 7) rfl F rfl 47 (frC f (.slice g1 f.ms.length d1) (.slice g2 f.es.length d2)) (0, 0) _ ((h9.block F lF).trans RF.out) Tryd.underlying47 rfl (by kernel_rfl)⟩) ?_
      simp only [Act.put, List.setIfInBounds_toArray, List.set_cons_zero, List.set_cons_succ]
      refine WalkS.take 1 _ (v := .agg (frC f (.slice g1 f.ms.length d1) (.slice g2 f.es.length d2))) rfl (by kernel_rfl) (by kernel_rfl) (by kernel_rfl) (by kernel_rfl) (by kernel_rfl) (fun _ _ _ h => h) (Or.inl ⟨by rfl, fun w9 h9 => loadRow_run rfl 47 (.tmp 7) rfl F rfl 47 (frC f (.slice g1 f.ms.length d1) (.slice g2 f.es.length d2)) (0, 0) _ ((h9.block F lF).trans RF.out) Tryd.underlying47 rfl (by kernel_rfl)⟩) ?_
      simp only [Act.put, List.setIfInBounds_toArray, List.set_cons_zero, List.set_cons_succ]
      refine WalkS.each [2] (by kernel_rfl) rfl ?_
      refine EachS.cons 2 _ rfl (fun K hK => ?s1) EachS.nil
      go_simp
      refine (H1.out _ hS0).mono ?_
      rintro e w11 ⟨r1, rfl, hr1, hBr1⟩
      obtain rfl : r1 = true := hr1.2 rfl
      clear hr1
      have hSr1 := m_below_on hS0 hBr1
      refine hK.out _ _ (fun _ => hSr1) ?_
      clear hK K hBr1
      simp only [Act.put, List.setIfInBounds_toArray, List.set_cons_zero, List.set_cons_succ]
      refine' WalkS.take0 3 _ (v := _) rfl (by kernel_rfl) (by kernel_rfl) (by kernel_rfl) (by kernel_rfl) (fun _ _ _ h => h) (Or.inl ⟨by rfl, ?hy2⟩) ?rest2
      case hy2 => (intro w9; go_simp <;> with_reducible rfl)
      simp only [Act.put, List.setIfInBounds_toArray, List.set_cons_zero, List.set_cons_succ]
      refine WalkS.take 4 _ (v := .agg (frC z sz tz)) rfl (by kernel_rfl) (by kernel_rfl) (by kernel_rfl) (by kernel_rfl) (by kernel_rfl) (fun _ _ _ h => h) (Or.inl ⟨by rfl, fun w9 h9 => loadRow_run rfl 47 (.tmp 11) rfl Z rfl 47 (frC z sz tz) (0, 0) _ ((h9.block Z lZ).trans RZ.out) Tryd.underlying47 rfl (by kernel_rfl)⟩) ?_
      simp only [Act.put, List.setIfInBounds_toArray, List.set_cons_zero, List.set_cons_succ]
      refine WalkS.take 5 _ (v := .agg (frC f (.slice g1 f.ms.length d1) (.slice g2 f.es.length d2))) rfl (by kernel_rfl) (by kernel_rfl) (by kernel_rfl) (by kernel_rfl) (by kernel_rfl) (fun _ _ _ h => h) (Or.inl ⟨by rfl, fun w9 h9 => loadRow_run rfl 47 (.tmp 7) rfl F rfl 47 (frC f (.slice g1 f.ms.length d1) (.slice g2 f.es.length d2)) (0, 0) _ ((h9.block F lF).trans RF.out) Tryd.underlying47 rfl (by kernel_rfl)⟩) ?_
      simp only [Act.put, List.setIfInBounds_toArray, List.set_cons_zero, List.set_cons_succ]
      refine' WalkS.take0 7 _ (v := _) rfl (by kernel_rfl) (by kernel_rfl) (by kernel_rfl) (by kernel_rfl) (fun _ _ _ h => h) (Or.inl ⟨by rfl, ?hy3⟩) ?rest3
      case hy3 => (intro w9; go_simp <;> with_reducible rfl)
      simp only [Act.put, List.setIfInBounds_toArray, List.set_cons_zero, List.set_cons_succ]
      refine' WalkS.take0 8 _ (v := _) rfl (by kernel_rfl) (by kernel_rfl) (by kernel_rfl) (by kernel_rfl) (fun _ _ _ h => h) (Or.inl ⟨by rfl, ?hy4⟩) ?rest4
      case hy4 => (intro w9; go_simp <;> with_reducible rfl)
      simp only [Act.put, List.setIfInBounds_toArray, List.set_cons_zero, List.set_cons_succ]
      refine WalkS.each [6] (by kernel_rfl) rfl ?_
      refine EachS.cons 6 _ rfl (fun K hK => ?s5) EachS.nil
      go_simp
      refine (H2.out _ hSr1).mono ?_
      rintro e w12 ⟨r2, rfl, hr2, hBr2⟩
      obtain rfl : r2 = true := by exact hr2.2 (HZF.out.2 rfl)
      clear hr2
      have hSr2 := m_below_on hSr1 hBr2
      refine hK.out _ _ (fun _ => hSr2) ?_
      clear hK K hBr2
      simp only [Act.put, List.setIfInBounds_toArray, List.set_cons_zero, List.set_cons_succ]
      refine' WalkS.take0 9 _ (v := _) rfl (by kernel_rfl) (by kernel_rfl) (by kernel_rfl) (by kernel_rfl) (fun _ _ _ h => h) (Or.inl ⟨by rfl, ?hy6⟩) ?rest6
      case hy6 => (intro w9; go_simp <;> with_reducible rfl)
      simp only [Act.put, List.setIfInBounds_toArray, List.set_cons_zero, List.set_cons_succ]
      refine' WalkS.take0 10 _ (v := _) rfl (by kernel_rfl) (by kernel_rfl) (by kernel_rfl) (by kernel_rfl) (fun _ _ _ h => h) (Or.inl ⟨by rfl, ?hy7⟩) ?rest7
      case hy7 => (intro w9; go_simp <;> with_reducible rfl)
      simp only [Act.put, List.setIfInBounds_toArray, List.set_cons_zero, List.set_cons_succ]
      refine' WalkS.take0 11 _ (v := _) rfl (by kernel_rfl) (by kernel_rfl) (by kernel_rfl) (by kernel_rfl) (fun _ _ _ h => h) (Or.inl ⟨by rfl, ?hy8⟩) ?rest8
      case hy8 => (intro w9; go_simp <;> with_reducible rfl)
      simp only [Act.put, List.setIfInBounds_toArray, List.set_cons_zero, List.set_cons_succ]
      refine WalkS.take 12 _ (v := .agg (frC f (.slice g1 f.ms.length d1) (.slice g2 f.es.length d2))) rfl (by kernel_rfl) (by kernel_rfl) (by kernel_rfl) (by kernel_rfl) (by kernel_rfl) (fun _ _ _ h => h) (Or.inl ⟨by rfl, fun w9 h9 => loadRow_run rfl 47 (.tmp 7) rfl F rfl 47 (frC f (.slice g1 f.ms.length d1) (.slice g2 f.es.length d2)) (0, 0) _ ((h9.block F lF).trans RF.out) Tryd.underlying47 rfl (by kernel_rfl)⟩) ?_
      simp only [Act.put, List.setIfInBounds_toArray, List.set_cons_zero, List.set_cons_succ]
      refine WalkS.take 13 _ (v := .agg (frC g (.slice g5 g.ms.length d5) (.slice g6 g.es.length d6))) rfl (by kernel_rfl) (by kernel_rfl) (by kernel_rfl) (by kernel_rfl) (by kernel_rfl) (fun _ _ _ h => h) (Or.inl ⟨by rfl, fun w9 h9 => loadRow_run rfl 47 (.tmp 9) rfl G rfl 47 (frC g (.slice g5 g.ms.length d5) (.slice g6 g.es.length d6)) (0, 0) _ ((h9.block G lG).trans RG.out) Tryd.underlying47 rfl (by kernel_rfl)⟩) ?_
      simp only [Act.put, List.setIfInBounds_toArray, List.set_cons_zero, List.set_cons_succ]
      refine WalkS.take 15 _ (v := .agg (frC g (.slice g5 g.ms.length d5) (.slice g6 g.es.length d6))) rfl (by kernel_rfl) (by kernel_rfl) (by kernel_rfl) (by kernel_rfl) (by kernel_rfl) (fun _ _ _ h => h) (Or.inl ⟨by rfl, fun w9 h9 => loadRow_run rfl 47 (.tmp 9) rfl G rfl 47 (frC g (.slice g5 g.ms.length d5) (.slice g6 g.es.length d6)) (0, 0) _ ((h9.block G lG).trans RG.out) Tryd.underlying47 rfl (by kernel_rfl)⟩) ?_
      simp only [Act.put, List.setIfInBounds_toArray, List.set_cons_zero, List.set_cons_succ]
      refine WalkS.take 16 _ (v := .agg (frC f (.slice g1 f.ms.length d1) (.slice g2 f.es.length d2))) rfl (by kernel_rfl) (by kernel_rfl) (by kernel_rfl) (by kernel_rfl) (by kernel_rfl) (fun _ _ _ h => h) (Or.inl ⟨by rfl, fun w9 h9 => loadRow_run rfl 47 (.tmp 7) rfl F rfl 47 (frC f (.slice g1 f.ms.length d1) (.slice g2 f.es.length d2)) (0, 0) _ ((h9.block F lF).trans RF.out) Tryd.underlying47 rfl (by kernel_rfl)⟩) ?_
      simp only [Act.put, List.setIfInBounds_toArray, List.set_cons_zero, List.set_cons_succ]
      refine WalkS.each [14] (by kernel_rfl) rfl ?_
      refine EachS.cons 14 _ rfl (fun K hK => ?s9) EachS.nil
      go_simp
      refine (H3.out _ hSr2).mono ?_
      rintro e w13 ⟨r3, rfl, hr3, hBr3⟩
      have hSr3 := m_below_on hSr2 hBr3
      refine hK.out _ _ (fun _ => hSr3) ?_
      clear hK K hBr3
      simp only [Act.put, List.setIfInBounds_toArray, List.set_cons_zero, List.set_cons_succ]
      refine WalkS.each [17] (by kernel_rfl) rfl ?_
      refine EachS.cons 17 _ rfl (fun K hK => ?s10) EachS.nil
      go_simp
      refine (H4.out _ hSr3).mono ?_
      rintro e w14 ⟨r4, rfl, hr4, hBr4⟩
      obtain rfl : r4 = r3 := by cases r3 <;> cases r4 <;> first | rfl | exact absurd (hr4.1 rfl).symm (fun h => by cases (hr3.2 h)) | exact absurd (hr3.1 rfl).symm (fun h => by cases (hr4.2 h))
      clear hr3 hr4
      have hSr4 := m_below_on hSr3 hBr4
      refine hK.out _ _ (fun _ => hSr4) ?_
      clear hK K hBr4
      simp only [Act.put, List.setIfInBounds_toArray, List.set_cons_zero, List.set_cons_succ]
      cases r4
      case false =>
        refine' WalkS.take0 18 _ (v := _) rfl (by kernel_rfl) (by kernel_rfl) (by kernel_rfl) (by kernel_rfl) (fun _ _ _ h => h) (Or.inl ⟨by rfl, ?hy11⟩) ?rest11
        case hy11 => (intro w9; go_simp <;> with_reducible rfl)
        simp only [Act.put, List.setIfInBounds_toArray, List.set_cons_zero, List.set_cons_succ]
        refine' WalkS.take0 19 _ (v := _) rfl (by kernel_rfl) (by kernel_rfl) (by kernel_rfl) (by kernel_rfl) (fun _ _ _ h => h) (Or.inl ⟨by rfl, ?hy12⟩) ?rest12
        case hy12 => (intro w9; go_simp <;> with_reducible rfl)
        simp only [Act.put, List.setIfInBounds_toArray, List.set_cons_zero, List.set_cons_succ]
        refine' WalkS.take0 20 _ (v := _) rfl (by kernel_rfl) (by kernel_rfl) (by kernel_rfl) (by kernel_rfl) (fun _ _ _ h => h) (Or.inl ⟨by rfl, ?hy13⟩) ?rest13
        case hy13 => (intro w9; go_simp <;> with_reducible rfl)
        simp only [Act.put, List.setIfInBounds_toArray, List.set_cons_zero, List.set_cons_succ]
        refine WalkS.done (by kernel_rfl) ?_
        go_wp2_with fail
        go_ret
        exact ⟨rfl, HBC.out.trans (hSr4.mono HBC.out.size)⟩
      case true =>
        refine' WalkS.take0 18 _ (v := _) rfl (by kernel_rfl) (by kernel_rfl) (by kernel_rfl) (by kernel_rfl) (fun _ _ _ h => h) (Or.inl ⟨by rfl, ?hy14⟩) ?rest14
        case hy14 => (intro w9; go_simp <;> with_reducible rfl)
        simp only [Act.put, List.setIfInBounds_toArray, List.set_cons_zero, List.set_cons_succ]
        refine' WalkS.take0 19 _ (v := _) rfl (by kernel_rfl) (by kernel_rfl) (by kernel_rfl) (by kernel_rfl) (fun _ _ _ h => h) (Or.inl ⟨by rfl, ?hy15⟩) ?rest15
        case hy15 => (intro w9; go_simp <;> with_reducible rfl)
        simp only [Act.put, List.setIfInBounds_toArray, List.set_cons_zero, List.set_cons_succ]
        refine' WalkS.take0 20 _ (v := _) rfl (by kernel_rfl) (by kernel_rfl) (by kernel_rfl) (by kernel_rfl) (fun _ _ _ h => h) (Or.inl ⟨by rfl, ?hy16⟩) ?rest16
        case hy16 => (intro w9; go_simp <;> with_reducible rfl)
        simp only [Act.put, List.setIfInBounds_toArray, List.set_cons_zero, List.set_cons_succ]
        refine WalkS.done (by kernel_rfl) ?_
        go_wp2_with fail
        go_ret
        exact ⟨rfl, HBC.out.trans (hSr4.mono HBC.out.size)⟩
    case true =>
      go_upto_region 25 with fail
      have hS0 : Below wc.heap.size wc wc.drew := by go_grown
      refine WalkS.begin (fun w' => Below wc.heap.size wc w') [] (by kernel_rfl) hS0 ?_
      simp only [List.size_toArray, List.length_cons, List.length_nil, Nat.zero_add, Nat.reduceAdd, show Array.replicate 21 false = #[false, false, false, false, false, false, false, false, false, false, false, false, false, false, false, false, false, false, false, false, false] from rfl]
      refine WalkS.take 0 _ (v := .agg (frC f (.slice g1 f.ms.length d1) (.slice g2 f.es.length d2))) rfl (by kernel_rfl) (by kernel_rfl) (by kernel_rfl) (by kernel_rfl) (by kernel_rfl) (fun _ _ _ h => h) (Or.inl ⟨by rfl, fun w9 h9 => loadRow_run rfl 47 (.tmp 7) rfl F rfl 47 (frC f (.slice g1 f.ms.length d1) (.slice g2 f.es.length d2)) (0, 0) _ ((h9.block F lF).trans RF.out) Tryd.underlying47 rfl (by kernel_rfl)⟩) ?_
      simp only [Act.put, List.setIfInBounds_toArray, List.set_cons_zero, List.set_cons_succ]
      refine WalkS.take 1 _ (v := .agg (frC f (.slice g1 f.ms.length d1) (.slice g2 f.es.length d2))) rfl (by kernel_rfl) (by kernel_rfl) (by kernel_rfl) (by kernel_rfl) (by kernel_rfl) (fun _ _ _ h => h) (Or.inl ⟨by rfl, fun w9 h9 => loadRow_run rfl 47 (.tmp 7) rfl F rfl 47 (frC f (.slice g1 f.ms.length d1) (.slice g2 f.es.length d2)) (0, 0) _ ((h9.block F lF).trans RF.out) Tryd.underlying47 rfl (by kernel_rfl)⟩) ?_
      simp only [Act.put, List.setIfInBounds_toArray, List.set_cons_zero, List.set_cons_succ]
      refine WalkS.each [2] (by kernel_rfl) rfl ?_
      refine EachS.cons 2 _ rfl (fun K hK => ?s17) EachS.nil
      go_simp
      refine (H1.out _ hS0).mono ?_
      rintro e w11 ⟨r1, rfl, hr1, hBr1⟩
      obtain rfl : r1 = true := hr1.2 rfl
      clear hr1
      have hSr1 := m_below_on hS0 hBr1
      refine hK.out _ _ (fun _ => hSr1) ?_
      clear hK K hBr1
      simp only [Act.put, List.setIfInBounds_toArray, List.set_cons_zero, List.set_cons_succ]
      refine' WalkS.take0 3 _ (v := _) rfl (by kernel_rfl) (by kernel_rfl) (by kernel_rfl) (by kernel_rfl) (fun _ _ _ h => h) (Or.inl ⟨by rfl, ?hy18⟩) ?rest18
      case hy18 => (intro w9; go_simp <;> with_reducible rfl)
      simp only [Act.put, List.setIfInBounds_toArray, List.set_cons_zero, List.set_cons_succ]
      refine WalkS.take 4 _ (v := .agg (frC z sz tz)) rfl (by kernel_rfl) (by kernel_rfl) (by kernel_rfl) (by kernel_rfl) (by kernel_rfl) (fun _ _ _ h => h) (Or.inl ⟨by rfl, fun w9 h9 => loadRow_run rfl 47 (.tmp 11) rfl Z rfl 47 (frC z sz tz) (0, 0) _ ((h9.block Z lZ).trans RZ.out) Tryd.underlying47 rfl (by kernel_rfl)⟩) ?_
      simp only [Act.put, List.setIfInBounds_toArray, List.set_cons_zero, List.set_cons_succ]
      refine WalkS.take 5 _ (v := .agg (frC f (.slice g1 f.ms.length d1) (.slice g2 f.es.length d2))) rfl (by kernel_rfl) (by kernel_rfl) (by kernel_rfl) (by kernel_rfl) (by kernel_rfl) (fun _ _ _ h => h) (Or.inl ⟨by rfl, fun w9 h9 => loadRow_run rfl 47 (.tmp 7) rfl F rfl 47 (frC f (.slice g1 f.ms.length d1) (.slice g2 f.es.length d2)) (0, 0) _ ((h9.block F lF).trans RF.out) Tryd.underlying47 rfl (by kernel_rfl)⟩) ?_
      simp only [Act.put, List.setIfInBounds_toArray, List.set_cons_zero, List.set_cons_succ]
      refine' WalkS.take0 7 _ (v := _) rfl (by kernel_rfl) (by kernel_rfl) (by kernel_rfl) (by kernel_rfl) (fun _ _ _ h => h) (Or.inl ⟨by rfl, ?hy19⟩) ?rest19
      case hy19 => (intro w9; go_simp <;> with_reducible rfl)
      simp only [Act.put, List.setIfInBounds_toArray, List.set_cons_zero, List.set_cons_succ]
      refine' WalkS.take0 8 _ (v := _) rfl (by kernel_rfl) (by kernel_rfl) (by kernel_rfl) (by kernel_rfl) (fun _ _ _ h => h) (Or.inl ⟨by rfl, ?hy20⟩) ?rest20
      case hy20 => (intro w9; go_simp <;> with_reducible rfl)
      simp only [Act.put, List.setIfInBounds_toArray, List.set_cons_zero, List.set_cons_succ]
      refine WalkS.each [6] (by kernel_rfl) rfl ?_
      refine EachS.cons 6 _ rfl (fun K hK => ?s21) EachS.nil
      go_simp
      refine (H2.out _ hSr1).mono ?_
      rintro e w12 ⟨r2, rfl, hr2, hBr2⟩
      obtain rfl : r2 = false := by cases r2 with | false => rfl | true => exact absurd (HZF.out.1 (hr2.1 rfl)) (by decide)
      clear hr2
      have hSr2 := m_below_on hSr1 hBr2
      refine hK.out _ _ (fun _ => hSr2) ?_
      clear hK K hBr2
      simp only [Act.put, List.setIfInBounds_toArray, List.set_cons_zero, List.set_cons_succ]
      refine' WalkS.take0 9 _ (v := _) rfl (by kernel_rfl) (by kernel_rfl) (by kernel_rfl) (by kernel_rfl) (fun _ _ _ h => h) (Or.inl ⟨by rfl, ?hy22⟩) ?rest22
      case hy22 => (intro w9; go_simp <;> with_reducible rfl)
      simp only [Act.put, List.setIfInBounds_toArray, List.set_cons_zero, List.set_cons_succ]
      refine' WalkS.take0 10 _ (v := _) rfl (by kernel_rfl) (by kernel_rfl) (by kernel_rfl) (by kernel_rfl) (fun _ _ _ h => h) (Or.inl ⟨by rfl, ?hy23⟩) ?rest23
      case hy23 => (intro w9; go_simp <;> with_reducible rfl)
      simp only [Act.put, List.setIfInBounds_toArray, List.set_cons_zero, List.set_cons_succ]
      refine' WalkS.take0 11 _ (v := _) rfl (by kernel_rfl) (by kernel_rfl) (by kernel_rfl) (by kernel_rfl) (fun _ _ _ h => h) (Or.inl ⟨by rfl, ?hy24⟩) ?rest24
      case hy24 => (intro w9; go_simp <;> with_reducible rfl)
      simp only [Act.put, List.setIfInBounds_toArray, List.set_cons_zero, List.set_cons_succ]
      refine WalkS.take 12 _ (v := .agg (frC f (.slice g1 f.ms.length d1) (.slice g2 f.es.length d2))) rfl (by kernel_rfl) (by kernel_rfl) (by kernel_rfl) (by kernel_rfl) (by kernel_rfl) (fun _ _ _ h => h) (Or.inl ⟨by rfl, fun w9 h9 => loadRow_run rfl 47 (.tmp 7) rfl F rfl 47 (frC f (.slice g1 f.ms.length d1) (.slice g2 f.es.length d2)) (0, 0) _ ((h9.block F lF).trans RF.out) Tryd.underlying47 rfl (by kernel_rfl)⟩) ?_
      simp only [Act.put, List.setIfInBounds_toArray, List.set_cons_zero, List.set_cons_succ]
      refine WalkS.take 13 _ (v := .agg (frC g (.slice g5 g.ms.length d5) (.slice g6 g.es.length d6))) rfl (by kernel_rfl) (by kernel_rfl) (by kernel_rfl) (by kernel_rfl) (by kernel_rfl) (fun _ _ _ h => h) (Or.inl ⟨by rfl, fun w9 h9 => loadRow_run rfl 47 (.tmp 9) rfl G rfl 47 (frC g (.slice g5 g.ms.length d5) (.slice g6 g.es.length d6)) (0, 0) _ ((h9.block G lG).trans RG.out) Tryd.underlying47 rfl (by kernel_rfl)⟩) ?_
      simp only [Act.put, List.setIfInBounds_toArray, List.set_cons_zero, List.set_cons_succ]
      refine WalkS.take 15 _ (v := .agg (frC g (.slice g5 g.ms.length d5) (.slice g6 g.es.length d6))) rfl (by kernel_rfl) (by kernel_rfl) (by kernel_rfl) (by kernel_rfl) (by kernel_rfl) (fun _ _ _ h => h) (Or.inl ⟨by rfl, fun w9 h9 => loadRow_run rfl 47 (.tmp 9) rfl G rfl 47 (frC g (.slice g5 g.ms.length d5) (.slice g6 g.es.length d6)) (0, 0) _ ((h9.block G lG).trans RG.out) Tryd.underlying47 rfl (by kernel_rfl)⟩) ?_
      simp only [Act.put, List.setIfInBounds_toArray, List.set_cons_zero, List.set_cons_succ]
      refine WalkS.take 16 _ (v := .agg (frC f (.slice g1 f.ms.length d1) (.slice g2 f.es.length d2))) rfl (by kernel_rfl) (by kernel_rfl) (by kernel_rfl) (by kernel_rfl) (by kernel_rfl) (fun _ _ _ h => h) (Or.inl ⟨by rfl, fun w9 h9 => loadRow_run rfl 47 (.tmp 7) rfl F rfl 47 (frC f (.slice g1 f.ms.length d1) (.slice g2 f.es.length d2)) (0, 0) _ ((h9.block F lF).trans RF.out) Tryd.underlying47 rfl (by kernel_rfl)⟩) ?_
      simp only [Act.put, List.setIfInBounds_toArray, List.set_cons_zero, List.set_cons_succ]
      refine WalkS.each [14] (by kernel_rfl) rfl ?_
      refine EachS.cons 14 _ rfl (fun K hK => ?s25) EachS.nil
      go_simp
      refine (H3.out _ hSr2).mono ?_
      rintro e w13 ⟨r3, rfl, hr3, hBr3⟩
      have hSr3 := m_below_on hSr2 hBr3
      refine hK.out _ _ (fun _ => hSr3) ?_
      clear hK K hBr3
      simp only [Act.put, List.setIfInBounds_toArray, List.set_cons_zero, List.set_cons_succ]
      refine WalkS.each [17] (by kernel_rfl) rfl ?_
      refine EachS.cons 17 _ rfl (fun K hK => ?s26) EachS.nil
      go_simp
      refine (H4.out _ hSr3).mono ?_
      rintro e w14 ⟨r4, rfl, hr4, hBr4⟩
      obtain rfl : r4 = r3 := by cases r3 <;> cases r4 <;> first | rfl | exact absurd (hr4.1 rfl).symm (fun h => by cases (hr3.2 h)) | exact absurd (hr3.1 rfl).symm (fun h => by cases (hr4.2 h))
      clear hr3 hr4
      have hSr4 := m_below_on hSr3 hBr4
      refine hK.out _ _ (fun _ => hSr4) ?_
      clear hK K hBr4
      simp only [Act.put, List.setIfInBounds_toArray, List.set_cons_zero, List.set_cons_succ]
      cases r4
      case false =>
        refine' WalkS.take0 18 _ (v := _) rfl (by kernel_rfl) (by kernel_rfl) (by kernel_rfl) (by kernel_rfl) (fun _ _ _ h => h) (Or.inl ⟨by rfl, ?hy27⟩) ?rest27
        case hy27 => (intro w9; go_simp <;> with_reducible rfl)
        simp only [Act.put, List.setIfInBounds_toArray, List.set_cons_zero, List.set_cons_succ]
        refine' WalkS.take0 19 _ (v := _) rfl (by kernel_rfl) (by kernel_rfl) (by kernel_rfl) (by kernel_rfl) (fun _ _ _ h => h) (Or.inl ⟨by rfl, ?hy28⟩) ?rest28
        case hy28 => (intro w9; go_simp <;> with_reducible rfl)
        simp only [Act.put, List.setIfInBounds_toArray, List.set_cons_zero, List.set_cons_succ]
        refine' WalkS.take0 20 _ (v := _) rfl (by kernel_rfl) (by kernel_rfl) (by kernel_rfl) (by kernel_rfl) (fun _ _ _ h => h) (Or.inl ⟨by rfl, ?hy29⟩) ?rest29
        case hy29 => (intro w9; go_simp <;> with_reducible rfl)
        simp only [Act.put, List.setIfInBounds_toArray, List.set_cons_zero, List.set_cons_succ]
        refine WalkS.done (by kernel_rfl) ?_
        go_wp2_with fail
        go_ret
        exact ⟨rfl, HBC.out.trans (hSr4.mono HBC.out.size)⟩
      case true =>
        refine' WalkS.take0 18 _ (v := _) rfl (by kernel_rfl) (by kernel_rfl) (by kernel_rfl) (by kernel_rfl) (fun _ _ _ h => h) (Or.inl ⟨by rfl, ?hy30⟩) ?rest30
        case hy30 => (intro w9; go_simp <;> with_reducible rfl)
        simp only [Act.put, List.setIfInBounds_toArray, List.set_cons_zero, List.set_cons_succ]
        refine' WalkS.take0 19 _ (v := _) rfl (by kernel_rfl) (by kernel_rfl) (by kernel_rfl) (by kernel_rfl) (fun _ _ _ h => h) (Or.inl ⟨by rfl, ?hy31⟩) ?rest31
        case hy31 => (intro w9; go_simp <;> with_reducible rfl)
        simp only [Act.put, List.setIfInBounds_toArray, List.set_cons_zero, List.set_cons_succ]
        refine' WalkS.take0 20 _ (v := _) rfl (by kernel_rfl) (by kernel_rfl) (by kernel_rfl) (by kernel_rfl) (fun _ _ _ h => h) (Or.inl ⟨by rfl, ?hy32⟩) ?rest32
        case hy32 => (intro w9; go_simp <;> with_reducible rfl)
        simp only [Act.put, List.setIfInBounds_toArray, List.set_cons_zero, List.set_cons_succ]
        refine WalkS.done (by kernel_rfl) ?_
        go_wp2_with fail
        go_ret
        exact ⟨rfl, HBC.out.trans (hSr4.mono HBC.out.size)⟩
end Go.Proofs.YtodajejjhfpdmaaDoor
