/-
  The law's 'asks': what is told of a node that is no member, or of a member; the nodes of the others, one by one.
-/
import Derived.Test.YtkgahhfemlebmaaRefC
namespace Go.Proofs.Ytkgahhfemlebmaa
open Go.RowKit Go.Instr

/-- The member at a place, if the place is not the node's, is the next one of the others. -/
theorem othN_at {node : Nat} {l : List Mem} {i : Nat} (hi : i < l.length) (h : l[i].n ≠ node) : (othN node l)[(othN node (l.take i)).length]? = some l[i].n := by
  have e : l = l.take i ++ l[i] :: l.drop (i + 1) := by rw [← List.drop_eq_getElem_cons hi, List.take_append_drop]
  have e2 : othN node l = othN node (l.take i) ++ (l[i].n :: othN node (l.drop (i + 1))) := by
    have h1 : othN node l = othN node (l.take i ++ l[i] :: l.drop (i + 1)) := by rw [← e]
    rw [h1]
    simp only [othN, List.filter_append, List.map_append, List.filter_cons]
    simp [isNode, h]
  rw [e2, List.getElem?_append_right (Nat.le_refl _), Nat.sub_self]
  rfl
theorem othN_pass {node : Nat} {l : List Mem} {i : Nat} (hi : i < l.length) : (othN node (l.take (i + 1))).length = (othN node (l.take i)).length + (if l[i].n = node then 0 else 1) := by
  rw [othN_take hi, List.length_append]
  split <;> rfl
theorem has_no (e : Nat) (s : Value) (lv : Lv) (l : List Mem) (node life : Nat) (r : Bool) (w : World) (hl : l.length ≤ 40) (hs : MemsAt w s l) (hr : decide (0 ≤ idxOf (isBoth node life) l) = r) :
    Calls Try.prog 18 #[.agg (vC e s lv), .int .u8 node, .int .u8 life] w fun en w' => en = .returned (.bool r) ∧ Below w.heap.size w w' := by
  subst hr
  exact has_any e s lv l node life w hl hs
theorem refAt_is (e : Nat) (s : Value) (lv : Lv) (l : List Mem) (node : Nat) (r : Int) (w : World) (hl : l.length ≤ 40) (hs : MemsAt w s l) (hr : idxOf (isNode node) l = r) :
    Calls Try.prog 22 #[.agg (vC e s lv), .int .u8 node] w fun en w' => en = .returned (.int .i64 r) ∧ Below w.heap.size w w' := by
  subst hr
  exact refAt_any e s lv l node w hl hs
/-- The two views in their blocks, and what their slices lead to. -/
structure Two (w : World) (A B e : Nat) (s t : Value) (lv : Lv) (l : List Mem) (wx : World) : Prop where
  a : Blk wx A (vC e s lv) 28
  b : Blk wx B (vC e t lv) 34
  s : MemsAt wx s l
  t : MemsAt wx t l
  w : Below w.heap.size w wx
theorem Two.on {w : World} {A B e : Nat} {s t : Value} {lv : Lv} {l : List Mem} {wx wy : World} (h : Two w A B e s t lv l wx) (hB : Below wx.heap.size wx wy) : Two w A B e s t lv l wy := ⟨h.a.on hB, h.b.on hB, h.s.on hB, h.t.on hB, m_below_on h.w hB⟩
theorem Two.al {w : World} {A B e : Nat} {s t : Value} {lv : Lv} {l : List Mem} {wx : World} (h : Two w A B e s t lv l wx) (o : Obj) : Two w A B e s t lv l (wx.alloc o) := h.on (by go_grown)
theorem Two.tenb {w : World} {A B e : Nat} {s t : Value} {lv : Lv} {l : List Mem} {wx : World} (h : Two w A B e s t lv l wx) : wx.cell? ⟨B, 0, none⟩ = some (.int .u32 e) ∧ wx.cell? ⟨B, 1, none⟩ = some t ∧ wx.cell? ⟨B, 2, none⟩ = some (.int .u8 lv.a) ∧ wx.cell? ⟨B, 3, none⟩ = some (.int .u8 lv.b) ∧ wx.cell? ⟨B, 4, none⟩ = some (.int .u8 lv.c) ∧ wx.cell? ⟨B, 5, none⟩ = some (.int .u8 lv.d) ∧ wx.cell? ⟨B, 6, none⟩ = some (.int .u8 lv.e) ∧ wx.cell? ⟨B, 7, none⟩ = some (.int .u8 lv.f) ∧ wx.cell? ⟨B, 8, none⟩ = some (.int .u8 lv.g) ∧ wx.cell? ⟨B, 9, none⟩ = some (.int .u8 lv.h) :=
  ⟨h.b.cell 0, h.b.cell 1, h.b.cell 2, h.b.cell 3, h.b.cell 4, h.b.cell 5, h.b.cell 6, h.b.cell 7, h.b.cell 8, h.b.cell 9⟩
/-- What stands while the others are counted. -/
def AsksLoop (w : World) (A B e n : Nat) (node : Nat) (s t : Value) (lv : Lv) (l : List Mem) (ov : Value) (k i : Value) (wr : World) : Prop :=
  ∃ j : Nat, j ≤ n ∧ i = .int .i64 j ∧ k = .int .i64 (othN node (l.take j)).length ∧ Two w A B e s t lv l wr ∧ wr.ownsRow w.heap.size 5 1 ov (othN node l).length (bRow (othN node l))
set_option maxRecDepth 20000 in
set_option maxHeartbeats 4000000 in
theorem asks_no (e : Nat) (s t : Value) (lv : Lv) (l : List Mem) (node life : Nat) (w : World) (hl : l.length ≤ 40) (hs : MemsAt w s l) (ht : MemsAt w t l) (hx : idxOf (isNode node) l = -1) :
    Calls Try.prog 11 #[.agg (vC e s lv), .agg (vC e t lv), .int .u8 node, .int .u8 life] w fun en w' => en = .returned (.bool true) ∧ Below w.heap.size w w' := by
  obtain ⟨a1, c1, rfl⟩ := hs.len
  obtain ⟨a2, c2, rfl⟩ := ht.len
  have hno := idxOf_neg (p := isNode node) (l := l) (by omega)
  have hb : idxOf (isBoth node life) l = -1 := by
    refine idxOf_none (fun j hj => ?_)
    have := hno l[j] (List.getElem_mem _)
    simp only [isNode, decide_eq_false_iff_not] at this
    simp [isBoth, this]
  have HX := Lib.hid hx
  have HNO := Lib.hid hno
  have HBO := Lib.hid (show decide (0 ≤ idxOf (isBoth node life) l) = false by rw [hb]; rfl)
  obtain ⟨n, hn⟩ : ∃ n, n = l.length := ⟨_, rfl⟩
  rw [← hn] at hs ht ⊢
  have HN := Lib.hid hn
  have HL := Lib.hid hl
  have hn40 : n ≤ 40 := by rw [HN.out]; exact hl
  clear hn hl hx hno hb
  have HW : Hid (Two w w.heap.size (w.heap.size + 1) e (.slice a1 n c1) (.slice a2 n c2) lv l ((w.alloc (.cells (vC e (.slice a1 n c1) lv) 28)).alloc (.cells (vC e (.slice a2 n c2) lv) 34))) := Lib.hid ⟨(Blk.new rfl).alloc _, Blk.new (by simp), (hs.al _).al _, (ht.al _).al _, by go_grown⟩
  clear hs ht
  unfold vC
  go_enter Try.func11, Try.ntmps11
  go_upto_region 1 with fail
  unfold vC at HW
  generalize (w.alloc (.cells (_) 28)).alloc _ = w1 at *
  obtain ⟨A, hA⟩ : ∃ A, A = w.heap.size := ⟨_, rfl⟩
  obtain ⟨B, hB⟩ : ∃ B, B = A + 1 := ⟨_, rfl⟩
  rw [← hA, ← hB] at HW
  simp only [← hA]
  simp only [← hB]
  have HAE := Lib.hid hA
  clear hA hB
  obtain ⟨d0, d1, d2, d3, d4, d5, d6, d7, d8, d9⟩ := HW.out.tenb
  go_wp2_with fail
  with_reducible refine (refAt_is e _ lv l node (-1) _ HL.out HW.out.t HX.out).mono ?_
  rintro en w2 ⟨rfl, hB⟩
  have HW2 := Lib.hid (HW.out.on hB)
  clear hB d0 d1 d2 d3 d4 d5 d6 d7 d8 d9 HW
  obtain ⟨d0, d1, d2, d3, d4, d5, d6, d7, d8, d9⟩ := HW2.out.a.ten
  go_wp2_with fail
  with_reducible refine (Find_no e _ lv l node _ HL.out HW2.out.s HX.out).mono ?_
  rintro en w3 ⟨rfl, hB⟩
  have HW3 := Lib.hid ((HW2.out.on hB).al (.cells (mC ⟨0, 0, false⟩) 52))
  have HD3 : Hid (Blk (w3.alloc (.cells (mC ⟨0, 0, false⟩) 52)) w3.heap.size (mC ⟨0, 0, false⟩) 52) := Lib.hid (Blk.new rfl)
  clear hB d0 d1 d2 d3 d4 d5 d6 d7 d8 d9 HW2
  unfold mC at HW3 HD3
  obtain ⟨d0, d1, d2, d3, d4, d5, d6, d7, d8, d9⟩ := HW3.out.a.ten
  go_upto_region 3 with fail
  generalize w3.alloc _ = w4 at *
  obtain ⟨D, hD⟩ : ∃ D, D = w3.heap.size := ⟨_, rfl⟩
  rw [← hD] at HD3
  simp only [← hD]
  clear hD
  go_upto_region 9 with ((go_at_call 16; (with_reducible refine (Ends_no e _ lv l node _ HL.out HW3.out.s HX.out).mono ?_); rintro en w5 ⟨rfl, hB⟩; have HW5 := Lib.hid (HW3.out.on hB); have HD5 := Lib.hid (HD3.out.on hB); clear hB d0 d1 d2 d3 d4 d5 d6 d7 d8 d9 HW3 HD3; obtain ⟨d0, d1, d2, d3, d4, d5, d6, d7, d8, d9⟩ := HW5.out.a.ten))
  have e0 := onto_cell d0
  have e1 := onto_cell d1
  have e2 := onto_cell d2
  have e3 := onto_cell d3
  have e4 := onto_cell d4
  have e5 := onto_cell d5
  have e6 := onto_cell d6
  have e7 := onto_cell d7
  have e8 := onto_cell d8
  have e9 := onto_cell d9
  have p0 := onto_cell (HD5.out.cell 0)
  have p1 := onto_cell (HD5.out.cell 1)
  have p2 := onto_cell (HD5.out.cell 2)
  clear d0 d1 d2 d3 d4 d5 d6 d7 d8 d9
  refine wp_region_onto (by kernel_rfl) (by kernel_rfl) ?_
  repeat (go_big_quiet_step ((go_at_call 18; exact onto_calls (has_no e _ lv l node life false _ HL.out (HW5.out.s.on (onto_below _ _)) HBO.out))))
  refine wpQuiet_nil ?_
  intro _ hw'
  obtain ⟨z, hw''⟩ := hw'
  subst hw''
  have HW6 := Lib.hid (HW5.out.on (onto_below w5 z))
  clear e0 e1 e2 e3 e4 e5 e6 e7 e8 e9 p0 p1 p2 HD5 HW5
  generalize onto w5 z = w6 at *
  obtain ⟨d0, d1, d2, d3, d4, d5, d6, d7, d8, d9⟩ := HW6.out.a.ten
  go_wp2_with fail
  with_reducible refine (Others_any e _ lv l node _ HL.out HW6.out.s).mono ?_
  rintro en w7 ⟨ov, rfl, ho, hB⟩
  have HW7 := Lib.hid (HW6.out.on hB)
  have HO := Lib.hid (show w7.ownsRow w.heap.size 5 1 ov (othN node l).length (bRow (othN node l)) from own_mono ho HW6.out.w.size)
  clear ho hB d0 d1 d2 d3 d4 d5 d6 d7 d8 d9 HW6
  have HST : Hid (AsksLoop w A B e n node (.slice a1 n c1) (.slice a2 n c2) lv l ov (.int .i64 0) (.int .i64 0) w7) := Lib.hid ⟨0, by omega, rfl, rfl, HW7.out, HO.out⟩
  go_wp2_with fail
  go_loopw [17, 18] (fun k i wr => AsksLoop w A B e n node (.slice a1 n c1) (.slice a2 n c2) lv l ov k i wr) (fun _ i _ => n - (intOf i).toNat)
  case atStart => exact HST.out
  case round =>
    obtain ⟨j, hj, rfl, rfl, hw, ho⟩ := hrel
    have HW := Lib.hid hw
    have HOW := Lib.hid ho
    clear hw ho HST HW7 HO
    by_cases hlt : j < n
    · have hjl : j < l.length := by rw [← HN.out]; exact hlt
      obtain ⟨g2, o2, cg2, hsg, hgw, hc2⟩ := HW.out.t.form (by omega)
      simp only [Value.slice.injEq] at hsg
      obtain ⟨rfl, hml, rfl⟩ := hsg
      clear hml
      obtain ⟨y0, y1, y2⟩ := hc2 j hjl
      have hnn : l[j].n ≠ node := by
        have := HNO.out l[j] (List.getElem_mem _)
        simpa [isNode] using this
      have hat := othN_at hjl hnn
      have hps := othN_pass (node := node) hjl
      rw [if_neg hnn] at hps
      generalize l[j] = mb at y0 y1 y2 hat
      obtain ⟨nd, lf, rd⟩ := mb
      simp only at y0 hat
      obtain ⟨K, hK⟩ : ∃ K, K = (othN node (l.take j)).length := ⟨_, rfl⟩
      rw [← hK] at hat hps ⊢
      have HPS := Lib.hid hps
      have hKl := (List.getElem?_eq_some_iff.1 hat).1
      obtain ⟨cnt, hcnt⟩ : ∃ c, c = (othN node l).length := ⟨_, rfl⟩
      have ho := HOW.out
      rw [← hcnt] at ho hKl
      have hrow : (bRow (othN node l))[K]? = some (.int .u8 nd) := by rw [bRow, List.getElem?_map, hat]; rfl
      rcases ho.2 with ⟨_, h0⟩ | ⟨g, gcap, cur, hov, _⟩
      · omega
      subst hov
      have z0 := own_cell ho hrow
      rw [Nat.zero_add] at z0
      have hcm : cnt ≤ 40 := by
        have := othN_len node l
        have := HL.out
        omega
      have HREL : Hid (∀ q, AsksLoop w A B e n node (.slice a1 n c1) (.slice (some ⟨g2, o2, none⟩) n c2) lv l (.slice (some ⟨g, 0, none⟩) cnt gcap) (.int .i64 (K + 1)) (.int .i64 (j + 1)) (wr.drewN q)) := Lib.hid (fun q => ⟨j + 1, by omega, by go_num, by rw [HPS.out]; go_num, HW.out.on ⟨rfl, rfl, rfl, Nat.le_refl _, fun _ _ => rfl⟩, own_below HOW.out ⟨rfl, rfl, rfl, Nat.le_refl _, fun _ _ => rfl⟩⟩)
      have d1 := HW.out.b.cell 1
      simp at d1
      clear hK hcnt ho hrow hat hps hc2 hjl y1 y2 hnn
      have hk1 : ¬ (cnt : Int) ≤ K := by omega
      go_wp2_with fail
      go_quiet (fail)
      go_wp2_with fail
      go_roundw
      case rel => exact HREL.out _
      case measure => simp [intOf]; omega
    · obtain rfl : j = n := by omega
      have HK : Hid ((othN node (l.take j)).length = (othN node l).length) := Lib.hid (by rw [HN.out, List.take_length])
      obtain ⟨va, vc, hov⟩ : ∃ a c, ov = .slice a (othN node l).length c := by
        rcases HOW.out.2 with ⟨rfl, h0⟩ | ⟨g, gcap, cur, rfl, _⟩
        · exact ⟨none, 0, by rw [h0]⟩
        · exact ⟨_, _, rfl⟩
      subst hov
      have d1 := HW.out.b.cell 1
      simp at d1
      rw [HK.out]
      generalize (othN node l).length = cnt at *
      go_wp2
      go_ret
      exact ⟨rbool (by simp), HW.out.w⟩
end Go.Proofs.Ytkgahhfemlebmaa
