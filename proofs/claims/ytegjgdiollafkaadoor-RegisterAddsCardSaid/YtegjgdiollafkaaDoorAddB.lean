/-
  The law RegisterAdds returns true: the walk.
-/
import Derived.Test.YtegjgdiollafkaaDoorAddA
namespace Go.Proofs.YtegjgdiollafkaaDoor
open Go.RowKit Go.Instr

/-- The numbers that came in. -/
def DsAt (w : World) (a : Option Addr) (n : Nat) (z : Nat → Int) : Prop :=
  ∀ k, k < n → ∃ b off, a = some ⟨b, off, none⟩ ∧ w.cell? ⟨b, off + k, none⟩ = some (.int .i32 (z k)) ∧ -2147483648 ≤ z k ∧ z k ≤ 2147483647
/-- What the law's loop holds: the value is the sum's text. -/
def SumLoop (w : World) (A n : Nat) (t i : Value) (wr : World) : Prop :=
  ∃ (k : Nat) (v : V) (s : Int), k ≤ n ∧ k ≤ 30 ∧ i = .int .i64 k ∧ t = .int .i64 s ∧ numV v = some s ∧ v.s.size ≤ 1000 ∧ -(k * 2147483648 : Int) ≤ s ∧ s ≤ k * 2147483648 ∧ Blk wr A (vC v) 26 ∧ Below w.heap.size w wr
set_option maxRecDepth 20000 in
set_option maxHeartbeats 2000000 in
theorem adds_walk (a0 : Option Addr) (n cap : Nat) (z : Nat → Int) (s t : ByteArray) (w : World) (hs : s.size ≤ maxLen) (ht : t.size ≤ maxLen) (_hn : n ≤ maxLen) (he : Env w) (hrow : DsAt w a0 n z) :
    Calls Tryd.prog 4 #[.slice a0 n cap, .string s, .string t] w fun e w' => e = .returned (.bool true) ∧ Below w.heap.size w w' := by
  unfold maxLen at hs ht _hn
  have HR := Lib.hid hrow
  have HE := Lib.hid he
  clear hrow he
  go_enter Tryd.func4, Tryd.ntmps4
  go_upto_region 4 with (go_at_call 5; (with_reducible refine (speaks_any _ (HE.out.on (by go_grown))).mono ?_); rintro e w1 ⟨rfl, hB⟩; have HB1 : Hid (Below w.heap.size w w1) := g_below_on (by go_grown) hB; clear hB)
  have H0 : Hid (SumLoop w w1.heap.size n (.int .i64 0) (.int .i64 0) (w1.alloc (.cells #[.bool false, .string ⟨#[]⟩] 26))) := ⟨0, ⟨false, ⟨#[]⟩⟩, 0, Nat.zero_le _, by decide, rfl, rfl, rfl, Nat.zero_le _, by decide, by decide, Blk.new rfl, HB1.out.alloc HB1.out.size _⟩
  have hA : w.heap.size ≤ w1.heap.size := HB1.out.size
  clear HB1
  generalize w1.alloc (.cells #[.bool false, .string ⟨#[]⟩] 26) = w2 at *
  generalize w1.heap.size = A at *
  go_wp2_with fail
  go_loopw [8, 9] (fun t i wr => SumLoop w A n t i wr) (fun _ i _ => (n - (intOf i).toNat))
  case atStart => exact H0.out
  case round =>
    obtain ⟨k, ⟨vh, vs⟩, sm, hk, hk30, rfl, rfl, hv, hvs, hl, hu, hba, hb⟩ := hrel
    have HA := Lib.hid hba
    have HB := Lib.hid hb
    have HV := Lib.hid hv
    clear hba hb hv H0
    by_cases hlt : k < n ∧ k < 30
    · obtain ⟨hlt1, hlt2⟩ := hlt
      obtain ⟨b, off, rfl, q0, hz0, hz1⟩ := HR.out k hlt1
      generalize z k = d at *
      have c0 := (HB.out.cell (World.block_lt_of_cell? _ _ q0)).trans q0
      have HQ := Lib.hid q0
      clear q0
      go_upto_region 9 with fail
      have hin : in64 (sm + d) := by constructor <;> omega
      have hd : in64 d := by constructor <;> omega
      obtain ⟨tx, htx⟩ : ∃ tx : ByteArray, tx = ⟨(Lib.itoa (sm + d)).toArray⟩ := ⟨_, rfl⟩
      have HTX := Lib.hid htx
      have HIN := Lib.hid hin
      have HD := Lib.hid hd
      clear htx hin hd HR
      go_cut [10, 11, 12] (fun s10 s11 s12 wx => ∃ E F : Nat, s10 = .pointer (some ⟨E, 0, none⟩) ∧ s11 = .pointer (some ⟨F, 0, none⟩) ∧ s12 = .bool true ∧ Blk wx E #[.bool true, .string tx] 26 ∧ Blk wx F #[.int .i64 0, .bool true, .string tx] 40 ∧ Blk wx A (vC ⟨vh, vs⟩) 26 ∧ Below w.heap.size w wx)
      case first =>
        have x0 := HA.out.cell 0
        have x1 := HA.out.cell 1
        simp at x0 x1
        have hAl := HA.out.lt
        have hwr : IntKind.i64.wrap d = d := IntWalk.i64_in _ (by constructor <;> omega)
        have hbl := World.block_lt_of_cell? _ _ c0
        simp only at hbl
        have n1 : wr.heap.size ≠ A := by omega
        have n2 : wr.heap.size + 1 ≠ A := by omega
        have m1 : wr.heap.size ≠ b := by omega
        have m2 : wr.heap.size + 1 ≠ b := by omega
        go_region_held3 (fun w' => w'.cell? ⟨A, 0, none⟩ = some (.bool vh) ∧ w'.cell? ⟨A, 1, none⟩ = some (.string vs) ∧ w'.cell? ⟨b, off + k, none⟩ = some (.int .i32 d)) (go_keep)
          (first | (go_at_call 10; (try rw [hwr]); (with_reducible refine Calls.mono (add_is vh vs d sm tx _ HV.out hvs HIN.out HD.out ?_ HTX.out) ?_); (exact HE.out.on (by have hb := HB.out; have hsz := HB.out.size; go_grown)); rintro e w3 ⟨rfl, hB⟩; (first | (obtain ⟨p, q⟩ := pre2 hB; have pc0 := p.cell 0; have pf0 := p.frozen 0; have qc0 := q.cell 0; have qf0 := q.frozen 0; have pc1 := p.cell 1; have pf1 := p.frozen 1; have qc1 := q.cell 1; have qf1 := q.frozen 1; have pc2 := p.cell 2; have pf2 := p.frozen 2; have qc2 := q.cell 2; have qf2 := q.frozen 2; simp at pc0 pc1 pc2 qc0 qc1 qc2; have pl := p.lt; have ql := q.lt; have HP := Lib.hid p; have HP2 := Lib.hid q; clear p q) | (have p := pre1 hB; have pc0 := p.cell 0; have pf0 := p.frozen 0; have pg0 := (fz w3 #[.bool false, .string ⟨#[]⟩] 26 ⟨wr.heap.size, 0, none⟩).trans pf0; have ph0 := (fz w3 #[.int .i64 0, .bool false, .string ⟨#[]⟩] 40 ⟨wr.heap.size, 0, none⟩).trans pf0; have pc1 := p.cell 1; have pf1 := p.frozen 1; have pg1 := (fz w3 #[.bool false, .string ⟨#[]⟩] 26 ⟨wr.heap.size, 1, none⟩).trans pf1; have ph1 := (fz w3 #[.int .i64 0, .bool false, .string ⟨#[]⟩] 40 ⟨wr.heap.size, 1, none⟩).trans pf1; have pc2 := p.cell 2; have pf2 := p.frozen 2; have pg2 := (fz w3 #[.bool false, .string ⟨#[]⟩] 26 ⟨wr.heap.size, 2, none⟩).trans pf2; have ph2 := (fz w3 #[.int .i64 0, .bool false, .string ⟨#[]⟩] 40 ⟨wr.heap.size, 2, none⟩).trans pf2; simp at pc0 pc1 pc2; have pl := p.lt; have HP := Lib.hid p; clear p) | have hq : Below wr.drew.heap.size wr.drew w3 := hB); have HA3 : Hid (Blk w3 A #[.bool vh, .string vs] 26) := Blk.on (by repeat (first | (with_reducible exact HA.out) | (with_reducible refine Blk.dr ?_) | (with_reducible refine Blk.alloc ?_ _))) hB; have HB3 : Hid (Below w.heap.size w w3) := g_below_on (by have hb := HB.out; have hsz := HB.out.size; go_grown) hB; clear hB; have c3 := (HB3.out.cell (World.block_lt_of_cell? _ _ HQ.out)).trans HQ.out; have x0 := HA3.out.cell 0; have x1 := HA3.out.cell 1; simp at x0 x1; have hAl3 := HA3.out.lt; have hbl3 := World.block_lt_of_cell? _ _ c3; simp only at hbl3; have n3 : w3.heap.size ≠ A := (by omega); have n4 : w3.heap.size + 1 ≠ A := (by omega); have m3 : w3.heap.size ≠ b := (by omega); have m4 : w3.heap.size + 1 ≠ b := (by omega)))
        all_goals
          go_wp2_with fail
          go_meet
          refine ⟨_, _, rfl, rfl, rfl, ?_, ?_, ?_, ?_⟩
          · first | ((repeat (first | (with_reducible exact HP.out) | (with_reducible exact HP2.out) | (with_reducible refine set2b (a := .bool false) (b := .string ⟨#[]⟩) ?_) | (with_reducible refine set3b (a := .int .i64 0) (b := .bool false) (c := .string ⟨#[]⟩) ?_) | (with_reducible refine Blk.set_other ?_ _ _ ?_) | ((with_reducible refine Blk.new ?_); simp; done) | (with_reducible refine Blk.alloc ?_ _) | omega)); done)
          · first | ((repeat (first | (with_reducible exact HP.out) | (with_reducible exact HP2.out) | (with_reducible refine set2b (a := .bool false) (b := .string ⟨#[]⟩) ?_) | (with_reducible refine set3b (a := .int .i64 0) (b := .bool false) (c := .string ⟨#[]⟩) ?_) | (with_reducible refine Blk.set_other ?_ _ _ ?_) | ((with_reducible refine Blk.new ?_); simp; done) | (with_reducible refine Blk.alloc ?_ _) | omega)); done)
          · have hb := HA3.out
            first | ((repeat (first | (with_reducible exact hb) | (with_reducible refine Blk.set_other ?_ _ _ (Ne.symm ?_)) | (with_reducible refine Blk.alloc ?_ _) | (with_reducible refine Blk.dr ?_) | (with_reducible assumption))); done)
          · have hb := HB3.out
            have hsz := HB3.out.size
            have hsz2 := HB.out.size
            first | (go_grown; done)
      case rest =>
        obtain ⟨E, F, rfl, rfl, rfl, he, hf, ha, hb⟩ := hcut
        clear HA HB
        have e0 := he.cell 0
        have e1 := he.cell 1
        have f0 := hf.cell 0
        have f1 := hf.cell 1
        have f2 := hf.cell 2
        simp at e0 e1 f0 f1 f2
        have HA := Lib.hid ha
        have HB := Lib.hid hb
        have a0 := ha.cell 0
        have a1 := ha.cell 1
        simp at a0 a1
        have k0 := ha.frozen 0
        have k1 := ha.frozen 1
        clear ha hb c0
        go_wp2_with fail
        have htx := HTX.out
        subst htx
        refine ⟨⟨k + 1, ⟨true, _⟩, sm + d, by omega, by omega, by go_num, rfl, numV_sum HIN.out, sum_size HIN.out, by omega, by omega, Blk.set (Blk.set HA.out 0 _ _ rfl) 1 _ _ rfl, Below.setCell (Below.setCell HB.out hA _) hA _⟩, by simp [intOf]; omega⟩
    · have hgu : n ≤ k ∨ (k < n ∧ 30 ≤ k) := by omega
      clear hlt
      have hneg : in64 (-sm) := by constructor <;> omega
      have hz : in64 (sm + -sm) := by rw [Int.add_right_neg]; exact ⟨by decide, by decide⟩
      have HN := Lib.hid hneg
      have HZ := Lib.hid hz
      have hwr : IntKind.i64.wrap (-sm) = -sm := IntWalk.i64_in _ hneg
      have HT0 : Hid ((⟨#[48]⟩ : ByteArray) = ⟨(Lib.itoa (sm + -sm)).toArray⟩) := by unfold Hid; rw [Int.add_right_neg, itoa_0]
      have a0 := HA.out.cell 0
      have a1 := HA.out.cell 1
      simp at a0 a1
      clear hneg hz
      have hX : Hid (∀ wx, Below w.heap.size w wx → Env wx) := fun wx h => HE.out.on h
      clear HR
      rcases hgu with hgu | ⟨hgu1, hgu2⟩
      all_goals
        go_upto_region 16 with (go_at_call 10; (try rw [hwr]); (with_reducible refine Calls.mono (add_is vh vs (-sm) sm ⟨#[48]⟩ _ HV.out hvs HZ.out HN.out (hX.out _ HB.out) HT0.out) ?_); rintro e w3 ⟨rfl, hB⟩; have HA3 := Lib.hid (HA.out.on hB); have HB3 := Lib.hid (g_below_on HB.out hB); clear hB a0 a1)
        have HA4 : Hid (Blk ((w3.alloc (.cells #[.bool true, .string ⟨#[48]⟩] 26)).alloc (.cells #[.int .i64 0, .bool true, .string ⟨#[48]⟩] 40)) A (vC ⟨vh, vs⟩) 26) := (HA3.out.alloc _).alloc _
        have HB4 : Hid (Below w.heap.size w ((w3.alloc (.cells #[.bool true, .string ⟨#[48]⟩] 26)).alloc (.cells #[.int .i64 0, .bool true, .string ⟨#[48]⟩] 40))) := by
          have hb := HB3.out
          have hsz := HB3.out.size
          unfold Hid
          go_grown
        clear HA HB HA3 HB3 HN HZ HT0 hwr HV
        generalize (w3.alloc (.cells #[.bool true, .string ⟨#[48]⟩] 26)).alloc (.cells #[.int .i64 0, .bool true, .string ⟨#[48]⟩] 40) = w4 at *
        generalize w3.heap.size = E at *
        go_cut [1, 2] (fun s1 s2 wx => s1 = .string (cut32 s) ∧ s2 = .string (cut32 t) ∧ Blk wx A (vC ⟨vh, vs⟩) 26 ∧ Below w.heap.size w wx)
        case first =>
          go_region
          all_goals
            go_wp2_with fail
            go_meet
            exact ⟨rfl, rfl, HA4.out.dr, HB4.out.drew⟩
        case rest =>
          obtain ⟨rfl, rfl, ha, hb⟩ := hcut
          have HA := Lib.hid ha
          have HB := Lib.hid hb
          clear ha hb HA4 HB4
          have hcs := cut32_size s
          have hct := cut32_size t
          generalize cut32 s = cs at *
          generalize cut32 t = ct at *
          have a0 := HA.out.cell 0
          have a1 := HA.out.cell 1
          simp at a0 a1
          by_cases hst : cs = ct
          · have hbb : (cs.toList == ct.toList) = true := by rw [hst]; simp
            have HST := Lib.hid hst
            clear hst
            go_upto_region 18 with (go_at_call 10; (with_reducible refine Calls.mono (put_is vh vs cs _ hvs (hX.out _ HB.out) hcs) ?_); rintro e w5 ⟨rfl, hB⟩; have HB5 := Lib.hid (g_below_on HB.out hB); clear hB a0 a1)
            have HB6 : Hid (Below w.heap.size w ((w5.alloc (.cells #[.bool true, .string cs] 26)).alloc (.cells #[.int .i64 0, .bool false, .string ⟨#[]⟩] 40))) := by
              have hb := HB5.out
              have hsz := HB5.out.size
              unfold Hid
              go_grown
            have HX6 : Hid (Blk ((w5.alloc (.cells #[.bool true, .string cs] 26)).alloc (.cells #[.int .i64 0, .bool false, .string ⟨#[]⟩] 40)) w5.heap.size #[.bool true, .string cs] 26) := Blk.alloc (Blk.new rfl) _
            clear HA HB HB5
            generalize (w5.alloc (.cells #[.bool true, .string cs] 26)).alloc (.cells #[.int .i64 0, .bool false, .string ⟨#[]⟩] 40) = w6 at *
            generalize w5.heap.size = G at *
            have x0 := HX6.out.cell 0
            have x1 := HX6.out.cell 1
            simp at x0 x1
            go_wp2_with (go_at_call 10; (with_reducible refine Calls.mono (cas_is cs ct _ (hX.out _ HB6.out) hcs hct HST.out) ?_); rintro e w7 ⟨rfl, hB⟩; have HB7 := Lib.hid (g_below_on HB6.out hB); clear hB)
            go_ret
            exact ⟨rfl, by have hb := HB7.out; have hsz := HB7.out.size; go_grown⟩
          · have hbb : (cs.toList == ct.toList) = false := by rw [Bool.eq_false_iff]; intro h; exact hst (toL_inj (beq_iff_eq.1 h))
            have HST := Lib.hid hst
            clear hst
            go_upto_region 18 with (go_at_call 10; (with_reducible refine Calls.mono (put_is vh vs cs _ hvs (hX.out _ HB.out) hcs) ?_); rintro e w5 ⟨rfl, hB⟩; have HB5 := Lib.hid (g_below_on HB.out hB); clear hB a0 a1)
            have HB6 : Hid (Below w.heap.size w ((w5.alloc (.cells #[.bool true, .string cs] 26)).alloc (.cells #[.int .i64 0, .bool false, .string ⟨#[]⟩] 40))) := by
              have hb := HB5.out
              have hsz := HB5.out.size
              unfold Hid
              go_grown
            have HX6 : Hid (Blk ((w5.alloc (.cells #[.bool true, .string cs] 26)).alloc (.cells #[.int .i64 0, .bool false, .string ⟨#[]⟩] 40)) w5.heap.size #[.bool true, .string cs] 26) := Blk.alloc (Blk.new rfl) _
            clear HA HB HB5
            generalize (w5.alloc (.cells #[.bool true, .string cs] 26)).alloc (.cells #[.int .i64 0, .bool false, .string ⟨#[]⟩] 40) = w6 at *
            generalize w5.heap.size = G at *
            have x0 := HX6.out.cell 0
            have x1 := HX6.out.cell 1
            simp at x0 x1
            go_wp2_with (go_at_call 10; (with_reducible refine Calls.mono (cas_not cs ct _ (hX.out _ HB6.out) hcs hct HST.out) ?_); rintro e w7 ⟨rfl, hB⟩; have HB7 := Lib.hid (g_below_on HB6.out hB); have HX7 := Lib.hid (HX6.out.on hB); clear hB x0 x1; have x0 := HX7.out.cell 0; have x1 := HX7.out.cell 1; simp at x0 x1; have hG := HX7.out.lt)
            go_ret
            exact ⟨rfl, by have hb := HB7.out; have hsz := HB7.out.size; go_grown⟩
end Go.Proofs.YtegjgdiollafkaaDoor
