/-
  The law RegisterApplies returns true: the walk.
-/
import Derived.Test.YtegjgdiollafkaaDoorLawA
import Derived.Lib.ItoaLen
namespace Go.Proofs.YtegjgdiollafkaaDoor
open Go.RowKit Go.Instr

theorem good_is (k key : Int) (s : ByteArray) (oh : Bool) (os : ByteArray) (n : Int) (g : Bool) (w : World) (hg : O.good ⟨k, key, s, oh, os, n⟩ = g) : Calls Tryd.prog 7 #[.agg #[.int .i64 k, .int .i64 key, .string s, .bool oh, .string os, .int .i64 n]] w fun en w' => en = .returned (.bool g) ∧ Below w.heap.size w w' := by
  subst hg; exact good_any ⟨k, key, s, oh, os, n⟩ w
theorem refGood_is (k key : Int) (s : ByteArray) (oh : Bool) (os : ByteArray) (n : Int) (g : Bool) (w : World) (hg : O.good ⟨k, key, s, oh, os, n⟩ = g) : Calls Tryd.prog 8 #[.agg #[.int .i64 k, .int .i64 key, .string s, .bool oh, .string os, .int .i64 n]] w fun en w' => en = .returned (.bool g) ∧ Below w.heap.size w w' := by
  subst hg; exact refGood_any ⟨k, key, s, oh, os, n⟩ w
theorem plain_is (k key : Int) (s : ByteArray) (oh : Bool) (os : ByteArray) (n : Int) (g : Bool) (w : World) (hg : decide (k = 2 ∨ k = 3) = g) : Calls Tryd.prog 9 #[.agg #[.int .i64 k, .int .i64 key, .string s, .bool oh, .string os, .int .i64 n]] w fun en w' => en = .returned (.bool g) ∧ Below w.heap.size w w' := by
  subst hg; exact plain_any ⟨k, key, s, oh, os, n⟩ w
theorem apply_size (v : V) (x : O) (h : v.s.size ≤ 1000) : (applyV v x).1.s.size ≤ 1000 := by
  unfold applyV
  split
  · next hg =>
    unfold O.good at hg
    rw [decide_eq_true_iff] at hg
    have hx : x.s.size ≤ 1000 := by omega
    split
    · exact hx
    · split
      · exact Nat.zero_le _
      · split
        · split
          · exact hx
          · exact h
        · split
          · unfold addV
            split
            · exact h
            · next m hm =>
              split
              · exact h
              · next ho =>
                have hin := numV_in hm
                have : in64 (m + x.n) := by
                  have ho2 : over m x.n = false := by simpa using ho
                  unfold over at ho2
                  rw [decide_eq_false_iff_not] at ho2
                  unfold in64; omega
                have hl := Lib.itoa_length_le (m + x.n) this.1 this.2
                show (Lib.itoa (m + x.n)).toArray.size ≤ 1000
                simp; omega
          · exact h
  · exact h
def cut40 (s : ByteArray) : ByteArray := s.extract 0 (min (s.size : Int) 40).toNat
theorem cut40_size (s : ByteArray) : (cut40 s).size ≤ 40 := by
  unfold cut40
  rw [ByteArray.size_extract]
  omega
/-- An operation that came in. -/
def OpsAt (w : World) (a : Option Addr) (n : Nat) (z : Nat → O) : Prop :=
  ∀ k, k < n → ∃ b off, a = some ⟨b, off, none⟩ ∧ w.cell? ⟨b, off + k * 6, none⟩ = some (.int .i64 (z k).kind) ∧ w.cell? ⟨b, off + k * 6 + 1, none⟩ = some (.int .i64 (z k).key) ∧ w.cell? ⟨b, off + k * 6 + 2, none⟩ = some (.string (z k).s) ∧ w.cell? ⟨b, off + k * 6 + 3, none⟩ = some (.bool (z k).oh) ∧ w.cell? ⟨b, off + k * 6 + 4, none⟩ = some (.string (z k).os) ∧ w.cell? ⟨b, off + k * 6 + 5, none⟩ = some (.int .i64 (z k).n) ∧ in64 (z k).n
/-- What the law's loop holds: the program's value and the reference's are one. -/
def AppLoop (w : World) (A B n : Nat) (i : Value) (wr : World) : Prop :=
  ∃ (k : Nat) (v : V), k ≤ n ∧ i = .int .i64 k ∧ v.s.size ≤ 1000 ∧ Blk wr A (vC v) 26 ∧ Blk wr B (vC v) 27 ∧ Below w.heap.size w wr
/-- What a round holds behind its first statement. -/
def Rnd (w wr : World) (A B C D : Nat) (v : V) (x : O) : Prop :=
  Blk wr A (vC v) 26 ∧ Blk wr B (vC v) 27 ∧ Blk wr C (oC x) 29 ∧ Blk wr D (oC x) 31 ∧ Below w.heap.size w wr
theorem Rnd.al {w wr : World} {A B C D : Nat} {v : V} {x : O} (h : Rnd w wr A B C D v x) (o : Obj) : Rnd w (wr.alloc o) A B C D v x := ⟨h.1.alloc _, h.2.1.alloc _, h.2.2.1.alloc _, h.2.2.2.1.alloc _, h.2.2.2.2.alloc h.2.2.2.2.size _⟩
theorem Rnd.on {w wr wx : World} {A B C D : Nat} {v : V} {x : O} (h : Rnd w wr A B C D v x) (hB : Below wr.heap.size wr wx) : Rnd w wx A B C D v x := ⟨h.1.on hB, h.2.1.on hB, h.2.2.1.on hB, h.2.2.2.1.on hB, g_below_on h.2.2.2.2 hB⟩
set_option maxRecDepth 20000 in
set_option maxHeartbeats 2000000 in
theorem applies_walk (has : Bool) (s : ByteArray) (a1 : Option Addr) (n cap : Nat) (z : Nat → O) (w : World) (hs : s.size ≤ maxLen) (_hn : n ≤ maxLen) (he : Env w) (hrow : OpsAt w a1 n z) :
    Calls Tryd.prog 3 #[.agg #[.bool has, .string s], .slice a1 n cap] w fun e w' => e = .returned (.bool true) ∧ Below w.heap.size w w' := by
  unfold maxLen at hs _hn
  have HR := Lib.hid hrow
  have HE := Lib.hid he
  clear hrow he
  go_enter Tryd.func3, Tryd.ntmps3
  go_upto_region 3 with (go_at_call 5; (refine (speaks_any _ (HE.out.on (by go_grown))).mono ?_); rintro e w1 ⟨rfl, hB⟩; have HB1 : Hid (Below w.heap.size w w1) := g_below_on (by go_grown) hB; have HX : Hid (Blk w1 w.heap.size #[.bool has, .string s] 23) := Blk.on (Blk.new rfl) hB; clear hB)
  go_cut [] (fun wx => Blk wx w.heap.size #[.bool has, .string (cut40 s)] 23 ∧ Below w.heap.size w wx)
  case first =>
    have x0 := HX.out.cell 0
    have x1 := HX.out.cell 1
    simp at x0 x1
    have f1 := HX.out.frozen 1
    go_wp2_with fail
    go_meet
    exact ⟨Blk.set HX.out 1 _ _ rfl, Below.setCell HB1.out (Nat.le_refl _) _⟩
  case rest =>
    obtain ⟨hx, hb⟩ := hcut
    have HX2 := Lib.hid hx
    have HB2 := Lib.hid hb
    have hts := cut40_size s
    generalize cut40 s = t at *
    clear hx hb HX HB1
    have x0 := HX2.out.cell 0
    have x1 := HX2.out.cell 1
    simp at x0 x1
    go_upto_if 29 with fail
    go_cut [] (fun wx => ∃ v : V, Blk wx w.heap.size (vC v) 23 ∧ v.s.size ≤ 40 ∧ Below w.heap.size w wx)
    case first =>
      have f1 := HX2.out.frozen 1
      cases has
      · go_wp2_with fail
        go_meet
        exact ⟨⟨false, ⟨#[]⟩⟩, Blk.set HX2.out 1 _ _ rfl, Nat.zero_le _, Below.setCell HB2.out (Nat.le_refl _) _⟩
      · go_wp2_with fail
        go_meet
        exact ⟨⟨true, t⟩, HX2.out, hts, HB2.out⟩
    case rest =>
      obtain ⟨⟨vh, vs⟩, hx, hvs, hb⟩ := hcut
      have HX := Lib.hid hx
      have HB := Lib.hid hb
      clear hx hb HX2 HB2 hts x0 x1
      go_upto_region 6 with fail
      go_cut [5, 6] (fun s5 s6 wx => ∃ A B : Nat, s5 = .pointer (some ⟨A, 0, none⟩) ∧ s6 = .pointer (some ⟨B, 0, none⟩) ∧ A ≠ B ∧ w.heap.size ≤ A ∧ w.heap.size ≤ B ∧ Blk wx A (vC ⟨vh, vs⟩) 26 ∧ Blk wx B (vC ⟨vh, vs⟩) 27 ∧ Below w.heap.size w wx)
      case first =>
        have x0 := HX.out.cell 0
        have x1 := HX.out.cell 1
        simp at x0 x1
        have hl := HX.out.lt
        go_region
        all_goals
          go_wp2_with fail
          go_meet
          have hb := HB.out
          have hsz := HB.out.size
          first
            | exact ⟨_, _, rfl, rfl, by omega, by omega, by omega, (Blk.alloc (Blk.new rfl) _).dr, (Blk.new (by simp)).dr, by go_grown⟩
            | exact ⟨_, _, rfl, rfl, by omega, by omega, by omega, (Blk.new (by simp)).dr, (Blk.alloc (Blk.new rfl) _).dr, by go_grown⟩
      case rest =>
        obtain ⟨A, B, rfl, rfl, hne, hA, hB, hba, hbb, hb⟩ := hcut
        have H0 : Hid (AppLoop w A B n (.int .i64 0) wc) := ⟨0, ⟨vh, vs⟩, Nat.zero_le _, rfl, Nat.le_trans hvs (by decide), hba, hbb, hb⟩
        clear hba hbb hb HX HB hvs
        go_wp2_with fail
        go_loopw [7] (fun i wr => AppLoop w A B n i wr) (fun i _ => (n - (intOf i).toNat))
        case atStart => exact H0.out
        case round =>
          obtain ⟨k, ⟨vh, vs⟩, hk, rfl, hvs, hba, hbb, hb⟩ := hrel
          have HA := Lib.hid hba
          have HBB := Lib.hid hbb
          have HB := Lib.hid hb
          clear hba hbb hb H0
          by_cases hlt : k < n ∧ k < 20
          · obtain ⟨hlt1, hlt2⟩ := hlt
            obtain ⟨b, off, rfl, q0, q1, q2, q3, q4, q5, hin⟩ := HR.out k hlt1
            have HIN := Lib.hid hin
            clear hin
            generalize z k = x at *
            obtain ⟨kk, key, xs, oh, os, xn⟩ := x
            simp only at q0 q1 q2 q3 q4 q5
            have c0 := (HB.out.cell (World.block_lt_of_cell? _ _ q0)).trans q0
            have c1 := (HB.out.cell (World.block_lt_of_cell? _ _ q1)).trans q1
            have c2 := (HB.out.cell (World.block_lt_of_cell? _ _ q2)).trans q2
            have c3 := (HB.out.cell (World.block_lt_of_cell? _ _ q3)).trans q3
            have c4 := (HB.out.cell (World.block_lt_of_cell? _ _ q4)).trans q4
            have c5 := (HB.out.cell (World.block_lt_of_cell? _ _ q5)).trans q5
            clear q0 q1 q2 q3 q4 q5
            go_upto_region 11 with (go_at_call 6; (with_reducible refine (told_any kk key xs oh os xn _).mono ?_); rintro e w5 ⟨rfl, hB5⟩; have HB5 := Lib.hid hB5; clear hB5)
            have hR : Hid (Rnd w ((w5.alloc (.cells #[.int .i64 kk, .int .i64 key, .string xs, .bool oh, .string os, .int .i64 xn] 29)).alloc (.cells #[.int .i64 kk, .int .i64 key, .string xs, .bool oh, .string os, .int .i64 xn] 31)) A B w5.heap.size (w5.heap.size + 1) ⟨vh, vs⟩ ⟨kk, key, xs, oh, os, xn⟩) := by
              refine ⟨((HA.out.on HB5.out).alloc _).alloc _, ((HBB.out.on HB5.out).alloc _).alloc _, Blk.alloc (Blk.new rfl) _, Blk.new (by simp), ?_⟩
              have hb := g_below_on HB.out HB5.out
              have hsz := hb.size
              go_grown
            have hCA : A < w5.heap.size := (HA.out.on HB5.out).lt
            have hCB : B < w5.heap.size := (HBB.out.on HB5.out).lt
            clear HA HBB HB HB5 c0 c1 c2 c3 c4 c5
            generalize (w5.alloc (.cells #[.int .i64 kk, .int .i64 key, .string xs, .bool oh, .string os, .int .i64 xn] 29)).alloc (.cells #[.int .i64 kk, .int .i64 key, .string xs, .bool oh, .string os, .int .i64 xn] 31) = w6 at *
            generalize w5.heap.size + 1 = D at *
            generalize w5.heap.size = C at *
            obtain ⟨g, hg⟩ : ∃ g, O.good ⟨kk, key, xs, oh, os, xn⟩ = g := ⟨_, rfl⟩
            have HG := Lib.hid hg
            clear hg
            go_cut [68] (fun s68 wx => s68 = .bool false ∧ Rnd w wx A B C D ⟨vh, vs⟩ ⟨kk, key, xs, oh, os, xn⟩)
            case first =>
              have x0 := onto_cell (hR.out.2.2.1.cell 0)
              have x1 := onto_cell (hR.out.2.2.1.cell 1)
              have x2 := onto_cell (hR.out.2.2.1.cell 2)
              have x3 := onto_cell (hR.out.2.2.1.cell 3)
              have x4 := onto_cell (hR.out.2.2.1.cell 4)
              have x5 := onto_cell (hR.out.2.2.1.cell 5)
              have y0 := onto_cell (hR.out.2.2.2.1.cell 0)
              have y1 := onto_cell (hR.out.2.2.2.1.cell 1)
              have y2 := onto_cell (hR.out.2.2.2.1.cell 2)
              have y3 := onto_cell (hR.out.2.2.2.1.cell 3)
              have y4 := onto_cell (hR.out.2.2.2.1.cell 4)
              have y5 := onto_cell (hR.out.2.2.2.1.cell 5)
              have hgg : (g != g) = false := by simp
              have hps : ∃ p, decide (kk = 2 ∨ kk = 3) = p := ⟨_, rfl⟩
              obtain ⟨p, hp⟩ := hps
              have HP := Lib.hid hp
              have hkk : ((kk == 2) = true ∧ p = true) ∨ ((kk == 2) = false ∧ (kk == 3) = p) := by
                subst hp
                by_cases h2 : kk = 2
                · exact .inl ⟨by simpa using h2, by simp [h2]⟩
                · refine .inr ⟨by simpa using h2, ?_⟩
                  rw [Bool.eq_iff_iff]; simp [h2]
              clear hp
              rcases hkk with ⟨h2, h3⟩ | ⟨h2, h3⟩
              all_goals
                try subst h3
                refine wp_region_onto (by kernel_rfl) (by kernel_rfl) ?_
                repeat (go_big_quiet_step ((first | (go_at_call 7; exact onto_calls (good_is _ _ _ _ _ _ g _ HG.out)) | (go_at_call 8; exact onto_calls (refGood_is _ _ _ _ _ _ g _ HG.out)) | (go_at_call 9; exact onto_calls (plain_is _ _ _ _ _ _ _ _ HP.out)))))
                refine wpQuiet_nil ?_
                intro _ hw'
                obtain ⟨z', hw''⟩ := hw'
                subst hw''
                go_wp2_with fail
                go_meet
                exact ⟨rfl, hR.out.on (onto_below w6 z')⟩
            case rest =>
              obtain ⟨rfl, hr⟩ := hcut
              have HR2 := Lib.hid hr
              clear hr hR
              obtain ⟨r, hre⟩ : ∃ r, applyV ⟨vh, vs⟩ ⟨kk, key, xs, oh, os, xn⟩ = r := ⟨_, rfl⟩
              have hsz := apply_size ⟨vh, vs⟩ ⟨kk, key, xs, oh, os, xn⟩ hvs
              rw [hre] at hsz
              have HSZ := Lib.hid hsz
              have HVS : Hid ((V.mk vh vs).s.size ≤ 1000000) := Nat.le_trans hvs (by decide)
              obtain ⟨⟨rv, rs⟩, re, ⟨av, ax⟩, rb⟩ := r
              have HRE := Lib.hid hre
              clear hre hsz
              have x0 := HR2.out.1.cell 0
              have x1 := HR2.out.1.cell 1
              have o0 := HR2.out.2.2.1.cell 0
              have o1 := HR2.out.2.2.1.cell 1
              have o2 := HR2.out.2.2.1.cell 2
              have o3 := HR2.out.2.2.1.cell 3
              have o4 := HR2.out.2.2.1.cell 4
              have o5 := HR2.out.2.2.1.cell 5
              simp at x0 x1 o0 o1 o2 o3 o4 o5
              have HEW := Lib.hid (HE.out.on HR2.out.2.2.2.2)
              go_upto_region 15 with (first | (go_at_call 10; (with_reducible refine (apply_any ⟨vh, vs⟩ ⟨kk, key, xs, oh, os, xn⟩ _ HVS.out HEW.out HIN.out).mono ?_); rw [HRE.out]; clear x0 x1 o0 o1 o2 o3 o4 o5; rintro e w7 ⟨rfl, hB7⟩; have HR7 := Lib.hid (HR2.out.on hB7); have HR8 := Lib.hid ((HR7.out.al (.cells #[.bool rv, .string rs] 26)).al (.cells #[.int .i64 re, .bool av, .string ax] 40)); have HX8 : Hid (Blk ((w7.alloc (.cells #[.bool rv, .string rs] 26)).alloc (.cells #[.int .i64 re, .bool av, .string ax] 40)) w7.heap.size #[.bool rv, .string rs] 26) := Blk.alloc (Blk.new rfl) _; have HY8 : Hid (Blk ((w7.alloc (.cells #[.bool rv, .string rs] 26)).alloc (.cells #[.int .i64 re, .bool av, .string ax] 40)) (w7.heap.size + 1) #[.int .i64 re, .bool av, .string ax] 40) := Blk.new (by simp); have x0 := HR8.out.2.1.cell 0; have x1 := HR8.out.2.1.cell 1; have o0 := HR8.out.2.2.2.1.cell 0; have o1 := HR8.out.2.2.2.1.cell 1; have o2 := HR8.out.2.2.2.1.cell 2; have o3 := HR8.out.2.2.2.1.cell 3; have o4 := HR8.out.2.2.2.1.cell 4; have o5 := HR8.out.2.2.2.1.cell 5; simp at x0 x1 o0 o1 o2 o3 o4 o5; clear hB7) | (go_at_call 11; (with_reducible refine (refApply_any ⟨vh, vs⟩ ⟨kk, key, xs, oh, os, xn⟩ _ HVS.out HIN.out).mono ?_); rw [HRE.out]; clear x0 x1 o0 o1 o2 o3 o4 o5; rintro e w9 ⟨rfl, hB9⟩; have HR9 := Lib.hid (HR8.out.on hB9); have HX9 := Lib.hid (HX8.out.on hB9); have HY9 := Lib.hid (HY8.out.on hB9); clear hB9))
              have HRX := Lib.hid ((HR9.out.al (.cells #[.bool rv, .string rs] 27)).al (.cells #[.bool av, .string ax] 27))
              have HX := Lib.hid ((HX9.out.alloc (.cells #[.bool rv, .string rs] 27)).alloc (.cells #[.bool av, .string ax] 27))
              have HY := Lib.hid ((HY9.out.alloc (.cells #[.bool rv, .string rs] 27)).alloc (.cells #[.bool av, .string ax] 27))
              have HGG : Hid (Blk ((w9.alloc (.cells #[.bool rv, .string rs] 27)).alloc (.cells #[.bool av, .string ax] 27)) w9.heap.size #[.bool rv, .string rs] 27) := Blk.alloc (Blk.new rfl) _
              have HHH : Hid (Blk ((w9.alloc (.cells #[.bool rv, .string rs] 27)).alloc (.cells #[.bool av, .string ax] 27)) (w9.heap.size + 1) #[.bool av, .string ax] 27) := Blk.new (by simp)
              have hAE : A < w7.heap.size := HR7.out.1.lt
              have hBE : B < w7.heap.size := HR7.out.2.1.lt
              have hAG : A < w9.heap.size := HR9.out.1.lt
              have hBG : B < w9.heap.size := HR9.out.2.1.lt
              clear HR2 HR7 HR8 HX8 HY8 HR9 HX9 HY9 HEW
              generalize ((w9.alloc (.cells #[.bool rv, .string rs] 27)).alloc (.cells #[.bool av, .string ax] 27)) = w17 at *
              generalize w7.heap.size + 1 = F at *
              generalize w7.heap.size = E at *
              generalize w9.heap.size + 1 = H at *
              generalize w9.heap.size = G at *
              have e0 := HX.out.cell 0
              have e1 := HX.out.cell 1
              have f0 := HY.out.cell 0
              have f1 := HY.out.cell 1
              have f2 := HY.out.cell 2
              have g0 := HGG.out.cell 0
              have g1 := HGG.out.cell 1
              have h0 := HHH.out.cell 0
              have h1 := HHH.out.cell 1
              have a0 := HRX.out.1.cell 0
              have a1 := HRX.out.1.cell 1
              have b0 := HRX.out.2.1.cell 0
              have b1 := HRX.out.2.1.cell 1
              simp at e0 e1 f0 f1 f2 g0 g1 h0 h1 a0 a1 b0 b1
              have k0 := HRX.out.1.frozen 0
              have k1 := HRX.out.1.frozen 1
              have l0 := HRX.out.2.1.frozen 0
              have l1 := HRX.out.2.1.frozen 1
              go_upto_region 17 with fail
              go_region
              all_goals
                go_wp2_with fail
                go_roundw
                case rel =>
                  obtain ⟨m1, m2, hbb⟩ := set4b (a := .bool rv) (b := .string rs) (c := .bool rv) (d := .string rs) HRX.out.1 HRX.out.2.1 hne HRX.out.2.2.2.2 hA hB
                  exact ⟨k + 1, ⟨rv, rs⟩, by omega, by go_num, HSZ.out, m1.dr, m2.dr, hbb.drew⟩
                case measure => simp [intOf]; omega
          · have hgu : n ≤ k ∨ (k < n ∧ 20 ≤ k) := by omega
            clear hlt
            rcases hgu with hgu | ⟨hgu1, hgu2⟩
            all_goals
              go_wp2_with fail
              go_ret
              exact ⟨rfl, HB.out⟩
end Go.Proofs.YtegjgdiollafkaaDoor
