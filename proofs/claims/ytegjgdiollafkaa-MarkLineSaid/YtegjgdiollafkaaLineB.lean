/-
  The law MarkLine returns true: the walk.
-/
import Derived.Test.YtegjgdiollafkaaLineA
namespace Go.Proofs.Ytegjgdiollafkaa
open Go.RowKit Go.Instr

set_option maxRecDepth 20000 in
set_option maxHeartbeats 40000000 in
theorem line_walk (n b l m c k p q r : Nat) (w : World) : Calls Try.prog 5 #[.agg #[.int .u32 n, .int .u8 b, .int .u8 l], .agg #[.int .u32 m, .int .u8 c, .int .u8 k], .agg #[.int .u32 p, .int .u8 q, .int .u8 r]] w fun e w' => e = .returned (.bool true) ∧ Below w.heap.size w w' := by
  have HBX := Lib.hid (boxes3 w 24 ⟨n, b, l⟩ ⟨m, c, k⟩ ⟨p, q, r⟩)
  go_enter Try.func5, Try.ntmps5
  go_upto_region 3 with (go_at_call 6; refine (speaks_any _).mono ?_; rintro e w1 ⟨rfl, hB⟩; have HT := Lib.hid (HBX.out.on hB); have HB1 : Hid (Below w.heap.size w w1) := m_below_on (by go_grown) hB; clear hB)
  clear HBX
  generalize w.heap.size + 2 = Z at *
  generalize w.heap.size + 1 = Y at *
  have hX : Hid (w.heap.size ≤ w1.heap.size) := HB1.out.size
  go_cut [7, 8, 9] (fun s7 s8 s9 wx => ∃ A B C : Nat, s7 = .pointer (some ⟨A, 0, none⟩) ∧ s8 = .pointer (some ⟨B, 0, none⟩) ∧ s9 = .pointer (some ⟨C, 0, none⟩) ∧ Tri wx 30 A B C ⟨n, b, l⟩ ⟨m, c, k⟩ ⟨p, q, r⟩ ∧ Below w.heap.size w wx)
  case first =>
    refine wp_region_any (by kernel_rfl) ?_
    refine wpAny_inv (LineE w ⟨n, b, l⟩ ⟨m, c, k⟩ ⟨p, q, r⟩ w.heap.size Y Z) ?_ ?_ _ _ _ _ (by simp) ?_
    · intro L ac wr hE hr
      obtain ⟨v7, v8, v9, v14, v15, v16, v17, v18, v19, A, B, C, hI⟩ := hE
      have hsz := hI.size
      have j0 : Gone L 0 := gone_of hr (by omega) rfl (by simp)
      have j2 : Gone L 2 := gone_of hr (by omega) rfl (by simp [*])
      have j4 : Gone L 4 := gone_of hr (by omega) rfl (by simp [*])
      have j6 : Gone L 6 := gone_of hr (by omega) rfl (by simp [*])
      have j7 : Gone L 7 := gone_of hr (by omega) rfl (by simp [*])
      have j8 : Gone L 8 := gone_of hr (by omega) rfl (by simp [*])
      have j1 : Gone L 1 := gone_of hr (by omega) rfl (by simp [*])
      have j3 : Gone L 3 := gone_of hr (by omega) rfl (by simp [*])
      have j5 : Gone L 5 := gone_of hr (by omega) rfl (by simp [*])
      have j9 : Gone L 9 := gone_of hr (by omega) rfl (by simp [*])
      have j10 : Gone L 10 := gone_of hr (by omega) rfl (by simp [*])
      have j11 : Gone L 11 := gone_of hr (by omega) rfl (by simp [*])
      obtain ⟨e7, _, _, xa, ya, za, ba, sa⟩ := hI.va.2 j6
      obtain ⟨e8, _, _, xb, yb, zb, bb, sb⟩ := hI.vb.2 j7
      obtain ⟨e9, _, _, xc, yc, zc, bc, sc⟩ := hI.vc.2 j8
      obtain ⟨rfl, rfl, rfl⟩ := sa j9
      obtain ⟨rfl, rfl, rfl⟩ := sb j10
      obtain ⟨rfl, rfl, rfl⟩ := sc j11
      have hb := hI.bel
      have hact := hI.act
      subst hact
      subst e7; subst e8; subst e9
      simp only [lineAct]
      clear hI hr j0 j1 j2 j3 j4 j5 j6 j7 j8 j9 j10 j11 sa sb sc
      go_wp2_with fail
      go_meet
      exact ⟨A, B, C, rfl, rfl, rfl, ⟨ba, bb, bc⟩, hb⟩
    · intro L ac wr hE i hi
      obtain ⟨h0, o, ho, hall⟩ := mem_ready.1 hi
      clear hi
      have hi12 : i < 12 := (Array.getElem?_eq_some_iff.1 ho).1
      obtain ⟨v7, v8, v9, v14, v15, v16, v17, v18, v19, A, B, C, hI⟩ := hE
      have hact := hI.act
      subst hact
      rcases i with _ | _ | _ | _ | _ | _ | _ | _ | _ | _ | _ | _ | i
      all_goals (try (simp only [Nat.reduceAdd, List.getElem?_toArray, List.getElem?_cons_succ, List.getElem?_cons_zero, Option.some.injEq] at ho; subst ho; simp only [Nat.reduceAdd, Nat.zero_add] at hall h0 ⊢))
      case zero =>
        obtain ⟨x0, x1, x2⟩ := hI.tri.atA
        refine wpOp_plain rfl rfl ?_
        simp only [lineAct]
        generalize hK : (fun a' w' => LineE w ⟨n, b, l⟩ ⟨m, c, k⟩ ⟨p, q, r⟩ w.heap.size Y Z (L.setIfInBounds 0 true) a' w') = K
        go_simp
        try simp only [Act.put, List.setIfInBounds_toArray, List.set_cons_zero, List.set_cons_succ]
        subst hK
        have hsz := hI.size
        exact ⟨_, _, _, _, _, _, _, _, _, _, _, _, { act := rfl, size := by simp [hsz], g0 := fun _ => rfl, g1 := fun g => hI.g1 (gone_set g (by decide)), g2 := fun g => hI.g2 (gone_set g (by decide)), g3 := fun g => hI.g3 (gone_set g (by decide)), g4 := fun g => hI.g4 (gone_set g (by decide)), g5 := fun g => hI.g5 (gone_set g (by decide)), va := hI.va.keep (by decide) (by decide), vb := hI.vb.keep (by decide) (by decide), vc := hI.vc.keep (by decide) (by decide), ab := fun g g' => hI.ab (gone_set g (by decide)) (gone_set g' (by decide)), ac' := fun g g' => hI.ac' (gone_set g (by decide)) (gone_set g' (by decide)), bc := fun g g' => hI.bc (gone_set g (by decide)) (gone_set g' (by decide)), tri := hI.tri, bel := hI.bel }⟩
      case succ.zero =>
        have d0 : Gone L 0 := by first | exact hall _ (Array.mem_of_getElem? (i := 0) rfl) rfl | exact hall _ (Array.mem_of_getElem? (i := 1) rfl) rfl | exact hall _ (Array.mem_of_getElem? (i := 2) rfl) rfl | exact hall _ (Array.mem_of_getElem? (i := 3) rfl) rfl | exact hall _ (Array.mem_of_getElem? (i := 4) rfl) rfl | exact hall _ (Array.mem_of_getElem? (i := 5) rfl) rfl | exact hall _ (Array.mem_of_getElem? (i := 6) rfl) rfl | exact hall _ (Array.mem_of_getElem? (i := 7) rfl) rfl | exact hall _ (Array.mem_of_getElem? (i := 8) rfl) rfl | exact hall _ (Array.mem_of_getElem? (i := 9) rfl) rfl | exact hall _ (Array.mem_of_getElem? (i := 10) rfl) rfl | exact hall _ (Array.mem_of_getElem? (i := 11) rfl) rfl
        have e0 := hI.g0 d0
        subst e0
        refine wpOp_plain rfl rfl ?_
        simp only [lineAct]
        generalize hK : (fun a' w' => LineE w ⟨n, b, l⟩ ⟨m, c, k⟩ ⟨p, q, r⟩ w.heap.size Y Z (L.setIfInBounds 1 true) a' w') = K
        go_simp
        go_at_call 7
        (with_reducible refine (told_ex _ _ _ _).mono ?_)
        rintro e w2 ⟨rfl, rfl⟩
        subst hK
        have hsz := hI.size
        exact ⟨_, _, _, _, _, _, _, _, _, _, _, _, { act := rfl, size := by simp [hsz], g0 := fun g => hI.g0 (gone_set g (by decide)), g1 := fun _ => rfl, g2 := fun g => hI.g2 (gone_set g (by decide)), g3 := fun g => hI.g3 (gone_set g (by decide)), g4 := fun g => hI.g4 (gone_set g (by decide)), g5 := fun g => hI.g5 (gone_set g (by decide)), va := (hI.va.on (by go_grown)).keep (by decide) (by decide), vb := (hI.vb.on (by go_grown)).keep (by decide) (by decide), vc := (hI.vc.on (by go_grown)).keep (by decide) (by decide), ab := fun g g' => hI.ab (gone_set g (by decide)) (gone_set g' (by decide)), ac' := fun g g' => hI.ac' (gone_set g (by decide)) (gone_set g' (by decide)), bc := fun g g' => hI.bc (gone_set g (by decide)) (gone_set g' (by decide)), tri := hI.tri.on (by go_grown), bel := m_below_on hI.bel (by go_grown) }⟩
      case succ.succ.succ.succ.succ.succ.zero =>
        refine wpOp_plain rfl rfl ?_
        simp only [lineAct]
        generalize hK : (fun a' w' => LineE w ⟨n, b, l⟩ ⟨m, c, k⟩ ⟨p, q, r⟩ w.heap.size Y Z (L.setIfInBounds 6 true) a' w') = K
        go_simp
        try simp only [Act.put, List.setIfInBounds_toArray, List.set_cons_zero, List.set_cons_succ]
        subst hK
        have hsz := hI.size
        exact ⟨_, _, _, _, _, _, _, _, _, wr.heap.size, _, _, { act := rfl, size := by simp [hsz], g0 := fun g => hI.g0 (gone_set g (by decide)), g1 := fun g => hI.g1 (gone_set g (by decide)), g2 := fun g => hI.g2 (gone_set g (by decide)), g3 := fun g => hI.g3 (gone_set g (by decide)), g4 := fun g => hI.g4 (gone_set g (by decide)), g5 := fun g => hI.g5 (gone_set g (by decide)), va := hI.va.made h0 (by decide) hI.bel.size, vb := (hI.vb.on (by go_grown)).keep (by decide) (by decide), vc := (hI.vc.on (by go_grown)).keep (by decide) (by decide), ab := fun _ g => Nat.ne_of_gt (hI.vb.2 (gone_set g (by decide))).2.2.1, ac' := fun _ g => Nat.ne_of_gt (hI.vc.2 (gone_set g (by decide))).2.2.1, bc := fun g g' => hI.bc (gone_set g (by decide)) (gone_set g' (by decide)), tri := hI.tri.on (by go_grown), bel := m_below_on hI.bel (by go_grown) }⟩
      case succ.succ.succ.succ.succ.succ.succ.succ.succ.zero =>
        have d0 : Gone L 1 := by first | exact hall _ (Array.mem_of_getElem? (i := 0) rfl) rfl | exact hall _ (Array.mem_of_getElem? (i := 1) rfl) rfl | exact hall _ (Array.mem_of_getElem? (i := 2) rfl) rfl | exact hall _ (Array.mem_of_getElem? (i := 3) rfl) rfl | exact hall _ (Array.mem_of_getElem? (i := 4) rfl) rfl | exact hall _ (Array.mem_of_getElem? (i := 5) rfl) rfl | exact hall _ (Array.mem_of_getElem? (i := 6) rfl) rfl | exact hall _ (Array.mem_of_getElem? (i := 7) rfl) rfl | exact hall _ (Array.mem_of_getElem? (i := 8) rfl) rfl | exact hall _ (Array.mem_of_getElem? (i := 9) rfl) rfl | exact hall _ (Array.mem_of_getElem? (i := 10) rfl) rfl | exact hall _ (Array.mem_of_getElem? (i := 11) rfl) rfl
        have d1 : Gone L 6 := by first | exact hall _ (Array.mem_of_getElem? (i := 0) rfl) rfl | exact hall _ (Array.mem_of_getElem? (i := 1) rfl) rfl | exact hall _ (Array.mem_of_getElem? (i := 2) rfl) rfl | exact hall _ (Array.mem_of_getElem? (i := 3) rfl) rfl | exact hall _ (Array.mem_of_getElem? (i := 4) rfl) rfl | exact hall _ (Array.mem_of_getElem? (i := 5) rfl) rfl | exact hall _ (Array.mem_of_getElem? (i := 6) rfl) rfl | exact hall _ (Array.mem_of_getElem? (i := 7) rfl) rfl | exact hall _ (Array.mem_of_getElem? (i := 8) rfl) rfl | exact hall _ (Array.mem_of_getElem? (i := 9) rfl) rfl | exact hall _ (Array.mem_of_getElem? (i := 10) rfl) rfl | exact hall _ (Array.mem_of_getElem? (i := 11) rfl) rfl
        have e0 := hI.g1 d0
        subst e0
        obtain ⟨e1, e2, e3, x, y, z, hb, _⟩ := hI.va.2 d1
        subst e1
        have hx := hb.cell 0
        have hy := hb.cell 1
        have hz := hb.cell 2
        simp at hx hy hz
        have fx := hb.frozen 0
        have fy := hb.frozen 1
        have fz := hb.frozen 2
        refine wpOp_plain rfl rfl ?_
        simp only [lineAct]
        generalize hK : (fun a' w' => LineE w ⟨n, b, l⟩ ⟨m, c, k⟩ ⟨p, q, r⟩ w.heap.size Y Z (L.setIfInBounds 9 true) a' w') = K
        go_simp
        subst hK
        have hsz := hI.size
        exact ⟨_, _, _, _, _, _, _, _, _, _, _, _, { act := rfl, size := by simp [hsz], g0 := fun g => hI.g0 (gone_set g (by decide)), g1 := fun g => hI.g1 (gone_set g (by decide)), g2 := fun g => hI.g2 (gone_set g (by decide)), g3 := fun g => hI.g3 (gone_set g (by decide)), g4 := fun g => hI.g4 (gone_set g (by decide)), g5 := fun g => hI.g5 (gone_set g (by decide)), va := hI.va.stored d1, vb := (hI.vb.far (fun g => Ne.symm (hI.ab d1 g))).keep (by decide) (by decide), vc := (hI.vc.far (fun g => Ne.symm (hI.ac' d1 g))).keep (by decide) (by decide), ab := fun g g' => hI.ab (gone_set g (by decide)) (gone_set g' (by decide)), ac' := fun g g' => hI.ac' (gone_set g (by decide)) (gone_set g' (by decide)), bc := fun g g' => hI.bc (gone_set g (by decide)) (gone_set g' (by decide)), tri := hI.tri.far hb, bel := Below.setCell (Below.setCell (Below.setCell hI.bel e2 _) e2 _) e2 _ }⟩
      case succ.succ.zero =>
        obtain ⟨x0, x1, x2⟩ := hI.tri.atB
        refine wpOp_plain rfl rfl ?_
        simp only [lineAct]
        generalize hK : (fun a' w' => LineE w ⟨n, b, l⟩ ⟨m, c, k⟩ ⟨p, q, r⟩ w.heap.size Y Z (L.setIfInBounds 2 true) a' w') = K
        go_simp
        try simp only [Act.put, List.setIfInBounds_toArray, List.set_cons_zero, List.set_cons_succ]
        subst hK
        have hsz := hI.size
        exact ⟨_, _, _, _, _, _, _, _, _, _, _, _, { act := rfl, size := by simp [hsz], g0 := fun g => hI.g0 (gone_set g (by decide)), g1 := fun g => hI.g1 (gone_set g (by decide)), g2 := fun _ => rfl, g3 := fun g => hI.g3 (gone_set g (by decide)), g4 := fun g => hI.g4 (gone_set g (by decide)), g5 := fun g => hI.g5 (gone_set g (by decide)), va := hI.va.keep (by decide) (by decide), vb := hI.vb.keep (by decide) (by decide), vc := hI.vc.keep (by decide) (by decide), ab := fun g g' => hI.ab (gone_set g (by decide)) (gone_set g' (by decide)), ac' := fun g g' => hI.ac' (gone_set g (by decide)) (gone_set g' (by decide)), bc := fun g g' => hI.bc (gone_set g (by decide)) (gone_set g' (by decide)), tri := hI.tri, bel := hI.bel }⟩
      case succ.succ.succ.zero =>
        have d0 : Gone L 2 := by first | exact hall _ (Array.mem_of_getElem? (i := 0) rfl) rfl | exact hall _ (Array.mem_of_getElem? (i := 1) rfl) rfl | exact hall _ (Array.mem_of_getElem? (i := 2) rfl) rfl | exact hall _ (Array.mem_of_getElem? (i := 3) rfl) rfl | exact hall _ (Array.mem_of_getElem? (i := 4) rfl) rfl | exact hall _ (Array.mem_of_getElem? (i := 5) rfl) rfl | exact hall _ (Array.mem_of_getElem? (i := 6) rfl) rfl | exact hall _ (Array.mem_of_getElem? (i := 7) rfl) rfl | exact hall _ (Array.mem_of_getElem? (i := 8) rfl) rfl | exact hall _ (Array.mem_of_getElem? (i := 9) rfl) rfl | exact hall _ (Array.mem_of_getElem? (i := 10) rfl) rfl | exact hall _ (Array.mem_of_getElem? (i := 11) rfl) rfl
        have e0 := hI.g2 d0
        subst e0
        refine wpOp_plain rfl rfl ?_
        simp only [lineAct]
        generalize hK : (fun a' w' => LineE w ⟨n, b, l⟩ ⟨m, c, k⟩ ⟨p, q, r⟩ w.heap.size Y Z (L.setIfInBounds 3 true) a' w') = K
        go_simp
        go_at_call 7
        (with_reducible refine (told_ex _ _ _ _).mono ?_)
        rintro e w2 ⟨rfl, rfl⟩
        subst hK
        have hsz := hI.size
        exact ⟨_, _, _, _, _, _, _, _, _, _, _, _, { act := rfl, size := by simp [hsz], g0 := fun g => hI.g0 (gone_set g (by decide)), g1 := fun g => hI.g1 (gone_set g (by decide)), g2 := fun g => hI.g2 (gone_set g (by decide)), g3 := fun _ => rfl, g4 := fun g => hI.g4 (gone_set g (by decide)), g5 := fun g => hI.g5 (gone_set g (by decide)), va := (hI.va.on (by go_grown)).keep (by decide) (by decide), vb := (hI.vb.on (by go_grown)).keep (by decide) (by decide), vc := (hI.vc.on (by go_grown)).keep (by decide) (by decide), ab := fun g g' => hI.ab (gone_set g (by decide)) (gone_set g' (by decide)), ac' := fun g g' => hI.ac' (gone_set g (by decide)) (gone_set g' (by decide)), bc := fun g g' => hI.bc (gone_set g (by decide)) (gone_set g' (by decide)), tri := hI.tri.on (by go_grown), bel := m_below_on hI.bel (by go_grown) }⟩
      case succ.succ.succ.succ.succ.succ.succ.zero =>
        refine wpOp_plain rfl rfl ?_
        simp only [lineAct]
        generalize hK : (fun a' w' => LineE w ⟨n, b, l⟩ ⟨m, c, k⟩ ⟨p, q, r⟩ w.heap.size Y Z (L.setIfInBounds 7 true) a' w') = K
        go_simp
        try simp only [Act.put, List.setIfInBounds_toArray, List.set_cons_zero, List.set_cons_succ]
        subst hK
        have hsz := hI.size
        exact ⟨_, _, _, _, _, _, _, _, _, _, wr.heap.size, _, { act := rfl, size := by simp [hsz], g0 := fun g => hI.g0 (gone_set g (by decide)), g1 := fun g => hI.g1 (gone_set g (by decide)), g2 := fun g => hI.g2 (gone_set g (by decide)), g3 := fun g => hI.g3 (gone_set g (by decide)), g4 := fun g => hI.g4 (gone_set g (by decide)), g5 := fun g => hI.g5 (gone_set g (by decide)), va := (hI.va.on (by go_grown)).keep (by decide) (by decide), vb := hI.vb.made h0 (by decide) hI.bel.size, vc := (hI.vc.on (by go_grown)).keep (by decide) (by decide), ab := fun g _ => Nat.ne_of_lt (hI.va.2 (gone_set g (by decide))).2.2.1, ac' := fun g g' => hI.ac' (gone_set g (by decide)) (gone_set g' (by decide)), bc := fun _ g => Nat.ne_of_gt (hI.vc.2 (gone_set g (by decide))).2.2.1, tri := hI.tri.on (by go_grown), bel := m_below_on hI.bel (by go_grown) }⟩
      case succ.succ.succ.succ.succ.succ.succ.succ.succ.succ.zero =>
        have d0 : Gone L 3 := by first | exact hall _ (Array.mem_of_getElem? (i := 0) rfl) rfl | exact hall _ (Array.mem_of_getElem? (i := 1) rfl) rfl | exact hall _ (Array.mem_of_getElem? (i := 2) rfl) rfl | exact hall _ (Array.mem_of_getElem? (i := 3) rfl) rfl | exact hall _ (Array.mem_of_getElem? (i := 4) rfl) rfl | exact hall _ (Array.mem_of_getElem? (i := 5) rfl) rfl | exact hall _ (Array.mem_of_getElem? (i := 6) rfl) rfl | exact hall _ (Array.mem_of_getElem? (i := 7) rfl) rfl | exact hall _ (Array.mem_of_getElem? (i := 8) rfl) rfl | exact hall _ (Array.mem_of_getElem? (i := 9) rfl) rfl | exact hall _ (Array.mem_of_getElem? (i := 10) rfl) rfl | exact hall _ (Array.mem_of_getElem? (i := 11) rfl) rfl
        have d1 : Gone L 7 := by first | exact hall _ (Array.mem_of_getElem? (i := 0) rfl) rfl | exact hall _ (Array.mem_of_getElem? (i := 1) rfl) rfl | exact hall _ (Array.mem_of_getElem? (i := 2) rfl) rfl | exact hall _ (Array.mem_of_getElem? (i := 3) rfl) rfl | exact hall _ (Array.mem_of_getElem? (i := 4) rfl) rfl | exact hall _ (Array.mem_of_getElem? (i := 5) rfl) rfl | exact hall _ (Array.mem_of_getElem? (i := 6) rfl) rfl | exact hall _ (Array.mem_of_getElem? (i := 7) rfl) rfl | exact hall _ (Array.mem_of_getElem? (i := 8) rfl) rfl | exact hall _ (Array.mem_of_getElem? (i := 9) rfl) rfl | exact hall _ (Array.mem_of_getElem? (i := 10) rfl) rfl | exact hall _ (Array.mem_of_getElem? (i := 11) rfl) rfl
        have e0 := hI.g3 d0
        subst e0
        obtain ⟨e1, e2, e3, x, y, z, hb, _⟩ := hI.vb.2 d1
        subst e1
        have hx := hb.cell 0
        have hy := hb.cell 1
        have hz := hb.cell 2
        simp at hx hy hz
        have fx := hb.frozen 0
        have fy := hb.frozen 1
        have fz := hb.frozen 2
        refine wpOp_plain rfl rfl ?_
        simp only [lineAct]
        generalize hK : (fun a' w' => LineE w ⟨n, b, l⟩ ⟨m, c, k⟩ ⟨p, q, r⟩ w.heap.size Y Z (L.setIfInBounds 10 true) a' w') = K
        go_simp
        subst hK
        have hsz := hI.size
        exact ⟨_, _, _, _, _, _, _, _, _, _, _, _, { act := rfl, size := by simp [hsz], g0 := fun g => hI.g0 (gone_set g (by decide)), g1 := fun g => hI.g1 (gone_set g (by decide)), g2 := fun g => hI.g2 (gone_set g (by decide)), g3 := fun g => hI.g3 (gone_set g (by decide)), g4 := fun g => hI.g4 (gone_set g (by decide)), g5 := fun g => hI.g5 (gone_set g (by decide)), va := (hI.va.far (fun g => hI.ab g d1)).keep (by decide) (by decide), vb := hI.vb.stored d1, vc := (hI.vc.far (fun g => Ne.symm (hI.bc d1 g))).keep (by decide) (by decide), ab := fun g g' => hI.ab (gone_set g (by decide)) (gone_set g' (by decide)), ac' := fun g g' => hI.ac' (gone_set g (by decide)) (gone_set g' (by decide)), bc := fun g g' => hI.bc (gone_set g (by decide)) (gone_set g' (by decide)), tri := hI.tri.far hb, bel := Below.setCell (Below.setCell (Below.setCell hI.bel e2 _) e2 _) e2 _ }⟩
      case succ.succ.succ.succ.zero =>
        obtain ⟨x0, x1, x2⟩ := hI.tri.atC
        refine wpOp_plain rfl rfl ?_
        simp only [lineAct]
        generalize hK : (fun a' w' => LineE w ⟨n, b, l⟩ ⟨m, c, k⟩ ⟨p, q, r⟩ w.heap.size Y Z (L.setIfInBounds 4 true) a' w') = K
        go_simp
        try simp only [Act.put, List.setIfInBounds_toArray, List.set_cons_zero, List.set_cons_succ]
        subst hK
        have hsz := hI.size
        exact ⟨_, _, _, _, _, _, _, _, _, _, _, _, { act := rfl, size := by simp [hsz], g0 := fun g => hI.g0 (gone_set g (by decide)), g1 := fun g => hI.g1 (gone_set g (by decide)), g2 := fun g => hI.g2 (gone_set g (by decide)), g3 := fun g => hI.g3 (gone_set g (by decide)), g4 := fun _ => rfl, g5 := fun g => hI.g5 (gone_set g (by decide)), va := hI.va.keep (by decide) (by decide), vb := hI.vb.keep (by decide) (by decide), vc := hI.vc.keep (by decide) (by decide), ab := fun g g' => hI.ab (gone_set g (by decide)) (gone_set g' (by decide)), ac' := fun g g' => hI.ac' (gone_set g (by decide)) (gone_set g' (by decide)), bc := fun g g' => hI.bc (gone_set g (by decide)) (gone_set g' (by decide)), tri := hI.tri, bel := hI.bel }⟩
      case succ.succ.succ.succ.succ.zero =>
        have d0 : Gone L 4 := by first | exact hall _ (Array.mem_of_getElem? (i := 0) rfl) rfl | exact hall _ (Array.mem_of_getElem? (i := 1) rfl) rfl | exact hall _ (Array.mem_of_getElem? (i := 2) rfl) rfl | exact hall _ (Array.mem_of_getElem? (i := 3) rfl) rfl | exact hall _ (Array.mem_of_getElem? (i := 4) rfl) rfl | exact hall _ (Array.mem_of_getElem? (i := 5) rfl) rfl | exact hall _ (Array.mem_of_getElem? (i := 6) rfl) rfl | exact hall _ (Array.mem_of_getElem? (i := 7) rfl) rfl | exact hall _ (Array.mem_of_getElem? (i := 8) rfl) rfl | exact hall _ (Array.mem_of_getElem? (i := 9) rfl) rfl | exact hall _ (Array.mem_of_getElem? (i := 10) rfl) rfl | exact hall _ (Array.mem_of_getElem? (i := 11) rfl) rfl
        have e0 := hI.g4 d0
        subst e0
        refine wpOp_plain rfl rfl ?_
        simp only [lineAct]
        generalize hK : (fun a' w' => LineE w ⟨n, b, l⟩ ⟨m, c, k⟩ ⟨p, q, r⟩ w.heap.size Y Z (L.setIfInBounds 5 true) a' w') = K
        go_simp
        go_at_call 7
        (with_reducible refine (told_ex _ _ _ _).mono ?_)
        rintro e w2 ⟨rfl, rfl⟩
        subst hK
        have hsz := hI.size
        exact ⟨_, _, _, _, _, _, _, _, _, _, _, _, { act := rfl, size := by simp [hsz], g0 := fun g => hI.g0 (gone_set g (by decide)), g1 := fun g => hI.g1 (gone_set g (by decide)), g2 := fun g => hI.g2 (gone_set g (by decide)), g3 := fun g => hI.g3 (gone_set g (by decide)), g4 := fun g => hI.g4 (gone_set g (by decide)), g5 := fun _ => rfl, va := (hI.va.on (by go_grown)).keep (by decide) (by decide), vb := (hI.vb.on (by go_grown)).keep (by decide) (by decide), vc := (hI.vc.on (by go_grown)).keep (by decide) (by decide), ab := fun g g' => hI.ab (gone_set g (by decide)) (gone_set g' (by decide)), ac' := fun g g' => hI.ac' (gone_set g (by decide)) (gone_set g' (by decide)), bc := fun g g' => hI.bc (gone_set g (by decide)) (gone_set g' (by decide)), tri := hI.tri.on (by go_grown), bel := m_below_on hI.bel (by go_grown) }⟩
      case succ.succ.succ.succ.succ.succ.succ.succ.zero =>
        refine wpOp_plain rfl rfl ?_
        simp only [lineAct]
        generalize hK : (fun a' w' => LineE w ⟨n, b, l⟩ ⟨m, c, k⟩ ⟨p, q, r⟩ w.heap.size Y Z (L.setIfInBounds 8 true) a' w') = K
        go_simp
        try simp only [Act.put, List.setIfInBounds_toArray, List.set_cons_zero, List.set_cons_succ]
        subst hK
        have hsz := hI.size
        exact ⟨_, _, _, _, _, _, _, _, _, _, _, wr.heap.size, { act := rfl, size := by simp [hsz], g0 := fun g => hI.g0 (gone_set g (by decide)), g1 := fun g => hI.g1 (gone_set g (by decide)), g2 := fun g => hI.g2 (gone_set g (by decide)), g3 := fun g => hI.g3 (gone_set g (by decide)), g4 := fun g => hI.g4 (gone_set g (by decide)), g5 := fun g => hI.g5 (gone_set g (by decide)), va := (hI.va.on (by go_grown)).keep (by decide) (by decide), vb := (hI.vb.on (by go_grown)).keep (by decide) (by decide), vc := hI.vc.made h0 (by decide) hI.bel.size, ab := fun g g' => hI.ab (gone_set g (by decide)) (gone_set g' (by decide)), ac' := fun g _ => Nat.ne_of_lt (hI.va.2 (gone_set g (by decide))).2.2.1, bc := fun g _ => Nat.ne_of_lt (hI.vb.2 (gone_set g (by decide))).2.2.1, tri := hI.tri.on (by go_grown), bel := m_below_on hI.bel (by go_grown) }⟩
      case succ.succ.succ.succ.succ.succ.succ.succ.succ.succ.succ.zero =>
        have d0 : Gone L 5 := by first | exact hall _ (Array.mem_of_getElem? (i := 0) rfl) rfl | exact hall _ (Array.mem_of_getElem? (i := 1) rfl) rfl | exact hall _ (Array.mem_of_getElem? (i := 2) rfl) rfl | exact hall _ (Array.mem_of_getElem? (i := 3) rfl) rfl | exact hall _ (Array.mem_of_getElem? (i := 4) rfl) rfl | exact hall _ (Array.mem_of_getElem? (i := 5) rfl) rfl | exact hall _ (Array.mem_of_getElem? (i := 6) rfl) rfl | exact hall _ (Array.mem_of_getElem? (i := 7) rfl) rfl | exact hall _ (Array.mem_of_getElem? (i := 8) rfl) rfl | exact hall _ (Array.mem_of_getElem? (i := 9) rfl) rfl | exact hall _ (Array.mem_of_getElem? (i := 10) rfl) rfl | exact hall _ (Array.mem_of_getElem? (i := 11) rfl) rfl
        have d1 : Gone L 8 := by first | exact hall _ (Array.mem_of_getElem? (i := 0) rfl) rfl | exact hall _ (Array.mem_of_getElem? (i := 1) rfl) rfl | exact hall _ (Array.mem_of_getElem? (i := 2) rfl) rfl | exact hall _ (Array.mem_of_getElem? (i := 3) rfl) rfl | exact hall _ (Array.mem_of_getElem? (i := 4) rfl) rfl | exact hall _ (Array.mem_of_getElem? (i := 5) rfl) rfl | exact hall _ (Array.mem_of_getElem? (i := 6) rfl) rfl | exact hall _ (Array.mem_of_getElem? (i := 7) rfl) rfl | exact hall _ (Array.mem_of_getElem? (i := 8) rfl) rfl | exact hall _ (Array.mem_of_getElem? (i := 9) rfl) rfl | exact hall _ (Array.mem_of_getElem? (i := 10) rfl) rfl | exact hall _ (Array.mem_of_getElem? (i := 11) rfl) rfl
        have e0 := hI.g5 d0
        subst e0
        obtain ⟨e1, e2, e3, x, y, z, hb, _⟩ := hI.vc.2 d1
        subst e1
        have hx := hb.cell 0
        have hy := hb.cell 1
        have hz := hb.cell 2
        simp at hx hy hz
        have fx := hb.frozen 0
        have fy := hb.frozen 1
        have fz := hb.frozen 2
        refine wpOp_plain rfl rfl ?_
        simp only [lineAct]
        generalize hK : (fun a' w' => LineE w ⟨n, b, l⟩ ⟨m, c, k⟩ ⟨p, q, r⟩ w.heap.size Y Z (L.setIfInBounds 11 true) a' w') = K
        go_simp
        subst hK
        have hsz := hI.size
        exact ⟨_, _, _, _, _, _, _, _, _, _, _, _, { act := rfl, size := by simp [hsz], g0 := fun g => hI.g0 (gone_set g (by decide)), g1 := fun g => hI.g1 (gone_set g (by decide)), g2 := fun g => hI.g2 (gone_set g (by decide)), g3 := fun g => hI.g3 (gone_set g (by decide)), g4 := fun g => hI.g4 (gone_set g (by decide)), g5 := fun g => hI.g5 (gone_set g (by decide)), va := (hI.va.far (fun g => hI.ac' g d1)).keep (by decide) (by decide), vb := (hI.vb.far (fun g => hI.bc g d1)).keep (by decide) (by decide), vc := hI.vc.stored d1, ab := fun g g' => hI.ab (gone_set g (by decide)) (gone_set g' (by decide)), ac' := fun g g' => hI.ac' (gone_set g (by decide)) (gone_set g' (by decide)), bc := fun g g' => hI.bc (gone_set g (by decide)) (gone_set g' (by decide)), tri := hI.tri.far hb, bel := Below.setCell (Below.setCell (Below.setCell hI.bel e2 _) e2 _) e2 _ }⟩
      case succ.succ.succ.succ.succ.succ.succ.succ.succ.succ.succ.succ => omega
    · exact ⟨undef, undef, undef, undef, undef, undef, undef, undef, undef, 0, 0, 0, { act := rfl, size := by simp, g0 := fun g => absurd g no_gone, g1 := fun g => absurd g no_gone, g2 := fun g => absurd g no_gone, g3 := fun g => absurd g no_gone, g4 := fun g => absurd g no_gone, g5 := fun g => absurd g no_gone, va := ⟨fun g => absurd g no_gone, fun g => absurd g no_gone⟩, vb := ⟨fun g => absurd g no_gone, fun g => absurd g no_gone⟩, vc := ⟨fun g => absurd g no_gone, fun g => absurd g no_gone⟩, ab := fun g => absurd g no_gone, ac' := fun g => absurd g no_gone, bc := fun g => absurd g no_gone, tri := HT.out, bel := HB1.out.drew }⟩
  case rest =>
    obtain ⟨A, B, C, rfl, rfl, rfl, hp, hb⟩ := hcut
    have HP := Lib.hid hp
    have HB := Lib.hid hb
    clear hp hb HT HB1 hX
    obtain ⟨a0, a1, a2⟩ := HP.out.atA
    obtain ⟨b0, b1, b2⟩ := HP.out.atB
    obtain ⟨c0, c1, c2⟩ := HP.out.atC
    simp only at a0 a1 a2 b0 b1 b2 c0 c1 c2
    obtain ⟨⟨tn, tb, tl⟩, ht, hin, t1, t2, t3⟩ := top_three ⟨n, b, l⟩ ⟨m, c, k⟩ ⟨p, q, r⟩
    have HT := Lib.hid ht
    clear ht
    rw [stLt_no] at t1 t2 t3
    simp only [S.mk.injEq] at hin t1 t2 t3
    by_cases H1 : n < m ∨ (n = m ∧ (b < c ∨ (b = c ∧ l < k)))
    all_goals by_cases H2 : m < p ∨ (m = p ∧ (c < q ∨ (c = q ∧ k < r)))
    all_goals by_cases H3 : n < p ∨ (n = p ∧ (b < q ∨ (b = q ∧ l < r)))
    all_goals by_cases H4 : m < n ∨ (m = n ∧ (c < b ∨ (c = b ∧ k < l)))
    all_goals try (exfalso; omega)
    all_goals
      go_upto_region 11 with (go_at_call 8; first | ((with_reducible refine Calls.mono (less_is _ _ _ _ _ _ true _ ?_) ?_); (exact (stLt_iff _ _).2 (by simp only; omega)); rintro e w5 ⟨rfl, hB⟩; have HP2 := Lib.hid (HP.out.on hB); have HB2 := Lib.hid (m_below_on HB.out hB); clear HP HB hB a0 a1 a2 b0 b1 b2 c0 c1 c2; have HP := HP2; have HB := HB2; clear HP2 HB2; obtain ⟨a0, a1, a2⟩ := HP.out.atA; obtain ⟨b0, b1, b2⟩ := HP.out.atB; obtain ⟨c0, c1, c2⟩ := HP.out.atC; simp only at a0 a1 a2 b0 b1 b2 c0 c1 c2) | ((with_reducible refine Calls.mono (less_is _ _ _ _ _ _ false _ ?_) ?_); (exact (stLt_no _ _).2 (by simp only; omega)); rintro e w5 ⟨rfl, hB⟩; have HP2 := Lib.hid (HP.out.on hB); have HB2 := Lib.hid (m_below_on HB.out hB); clear HP HB hB a0 a1 a2 b0 b1 b2 c0 c1 c2; have HP := HP2; have HB := HB2; clear HP2 HB2; obtain ⟨a0, a1, a2⟩ := HP.out.atA; obtain ⟨b0, b1, b2⟩ := HP.out.atB; obtain ⟨c0, c1, c2⟩ := HP.out.atC; simp only at a0 a1 a2 b0 b1 b2 c0 c1 c2))
    all_goals try (exfalso; omega)
    all_goals try (have e : n = m := (by omega); subst e)
    all_goals try (have e : b = c := (by omega); subst e)
    all_goals try (have e : l = k := (by omega); subst e)
    all_goals
      go_upto_region 12 with (go_at_call 12; (with_reducible refine (top_is _ _ _ _ _ _ _ _ _ tn tb tl _ _ rfl HT.out).mono ?_); rintro e w5 ⟨rfl, hB⟩; have HP2 := Lib.hid (HP.out.on hB); have HB2 := Lib.hid (m_below_on HB.out hB); clear HP HB hB a0 a1 a2 b0 b1 b2 c0 c1 c2; have HP := Lib.hid (HP2.out.on (show Below w5.heap.size w5 (w5.alloc (.cells #[.int .u32 tn, .int .u8 tb, .int .u8 tl] 30)) from by go_grown)); have HX : Hid (Blk (w5.alloc (.cells #[.int .u32 tn, .int .u8 tb, .int .u8 tl] 30)) w5.heap.size #[.int .u32 tn, .int .u8 tb, .int .u8 tl] 30) := Blk.new rfl; have HB := Lib.hid (HB2.out.alloc HB2.out.size (.cells #[.int .u32 tn, .int .u8 tb, .int .u8 tl] 30)); clear HP2 HB2)
      clear HT
      generalize w5.alloc (.cells #[.int .u32 tn, .int .u8 tb, .int .u8 tl] 30) = w6 at *
      generalize w5.heap.size = G at *
      obtain ⟨a0, a1, a2⟩ := HP.out.atA
      obtain ⟨b0, b1, b2⟩ := HP.out.atB
      obtain ⟨c0, c1, c2⟩ := HP.out.atC
      obtain ⟨d0, d1, d2⟩ := HX.out.at3
      simp only at a0 a1 a2 b0 b1 b2 c0 c1 c2
      go_wp2_with (go_at_call 8; first | ((with_reducible refine Calls.mono (less_is _ _ _ _ _ _ true _ ?_) ?_); (exact (stLt_iff _ _).2 (by simp only; omega)); rintro e w5 ⟨rfl, hB⟩; have HP2 := Lib.hid (HP.out.on hB); have HX2 := Lib.hid (HX.out.on hB); have HB2 := Lib.hid (m_below_on HB.out hB); clear HP HB HX hB a0 a1 a2 b0 b1 b2 c0 c1 c2 d0 d1 d2; have HP := HP2; have HB := HB2; have HX := HX2; clear HP2 HB2 HX2; obtain ⟨a0, a1, a2⟩ := HP.out.atA; obtain ⟨b0, b1, b2⟩ := HP.out.atB; obtain ⟨c0, c1, c2⟩ := HP.out.atC; obtain ⟨d0, d1, d2⟩ := HX.out.at3; simp only at a0 a1 a2 b0 b1 b2 c0 c1 c2) | ((with_reducible refine Calls.mono (less_is _ _ _ _ _ _ false _ ?_) ?_); (exact (stLt_no _ _).2 (by simp only; omega)); rintro e w5 ⟨rfl, hB⟩; have HP2 := Lib.hid (HP.out.on hB); have HX2 := Lib.hid (HX.out.on hB); have HB2 := Lib.hid (m_below_on HB.out hB); clear HP HB HX hB a0 a1 a2 b0 b1 b2 c0 c1 c2 d0 d1 d2; have HP := HP2; have HB := HB2; have HX := HX2; clear HP2 HB2 HX2; obtain ⟨a0, a1, a2⟩ := HP.out.atA; obtain ⟨b0, b1, b2⟩ := HP.out.atB; obtain ⟨c0, c1, c2⟩ := HP.out.atC; obtain ⟨d0, d1, d2⟩ := HX.out.at3; simp only at a0 a1 a2 b0 b1 b2 c0 c1 c2))
    all_goals try (exfalso; omega)
    all_goals first | (go_ret; exact ⟨rfl, HB.out⟩)
end Go.Proofs.Ytegjgdiollafkaa
