/-
  The law PaceJudges: the reference's Fair.
-/
import Derived.Test.YtlphlmpfjpombaaPaceV
import Derived.Test.YtlphlmpfjpombaaJudN
import Derived.Deep.LoopGhost
import Derived.BigQuiet
namespace Go.Proofs.Ytlphlmpfjpombaa
open Go.RowKit Go.Instr

/-- An act of the reference. -/
def acR : RK Ac := { f := fun x => [.int .i64 x.1, .int .i64 x.2], c := 2, pos := by decide, len := fun _ => rfl, one := fun _ => ones2 rfl rfl }
def acF (x : Ac) : Prop := (-9223372036854775808 ≤ x.1 ∧ x.1 ≤ 9223372036854775807) ∧ (-9223372036854775808 ≤ x.2 ∧ x.2 ≤ 9223372036854775807)
theorem drop_cons {α : Type} {l : List α} {k : Nat} (h : k < l.length) : l.drop k = l[k] :: l.drop (k + 1) := (List.drop_eq_getElem_cons h)
theorem fairs_no {h wt m nn k : Nat} {l : List Ac} {x : Ac} (hk : k < l.length) (hx : l[k] = x) (ha : ¬ Ac.asks nn x) : fairs h wt m nn (l.drop k) = fairs h wt m nn (l.drop (k + 1)) := by
  rw [drop_cons hk, hx, fairs_cons, if_neg ha, Bool.true_and]
theorem fairs_yes {h wt m nn k : Nat} {l : List Ac} {x : Ac} (hk : k < l.length) (hx : l[k] = x) (ha : Ac.asks nn x) : fairs h wt m nn (l.drop k) = (runs h wt m (Ac.at0 x) 0 (List.replicate m 0) (l.drop (k + 1)) && fairs h wt m nn (l.drop (k + 1))) := by
  rw [drop_cons hk, hx, fairs_cons, if_pos ha]
theorem runs_cons {h wt m n t k : Nat} {tk : List Nat} {l : List Ac} {x : Ac} (hk : k < l.length) (hx : l[k] = x) : runs h wt m n t tk (l.drop k) = if t < h then
      if Ac.stops n x then true
      else if Ac.ticks n x then runs h wt m n (t + 1) tk (l.drop (k + 1))
      else if Ac.rules m x then if wt ≤ tk.getD (Ac.at0 x) 0 + 1 then false else runs h wt m n t (tk.set (Ac.at0 x) (tk.getD (Ac.at0 x) 0 + 1)) (l.drop (k + 1))
      else runs h wt m n t tk (l.drop (k + 1))
    else true := by
  rw [drop_cons hk, hx]
  rfl
theorem runs_full {h wt m n t : Nat} {tk : List Nat} {l : List Ac} {k : Nat} (hk : l.length ≤ k) : runs h wt m n t tk (l.drop k) = true := by
  rw [List.drop_eq_nil_of_le hk]
  rfl
theorem runs_long {h wt m n t : Nat} {tk : List Nat} (ht : ¬ t < h) : ∀ l : List Ac, runs h wt m n t tk l = true
  | [] => rfl
  | x :: r => by unfold runs; rw [if_neg ht]
theorem drewN_setCell (w : World) (n : Nat) (p : Addr) (v : Value) : (w.drewN n).setCell p v = (w.setCell p v).drewN n := by
  cases p
  rfl
theorem cons_at {z : Nat} {tk : List Nat} {i : Nat} (h : 1 ≤ i) (hi : i < (z :: tk).length) (u : Nat) : (z :: tk)[i] = tk.getD (i - 1) 0 ∧ (z :: tk).set i u = z :: tk.set (i - 1) u := by
  cases i with
  | zero => omega
  | succ i =>
    simp only [List.length_cons] at hi
    refine ⟨?_, by simp⟩
    simp [List.getD_eq_getElem?_getD, List.getElem?_eq_getElem (show i < tk.length by omega)]
/-- The loop over the spans. -/
def FairOut (w : World) (h wt m nn len : Nat) (l : List Ac) (R : Bool) (g : Nat) (i : Value) (wr : World) : Prop := ∃ k : Nat, i = .int .i64 k ∧ k + g = len ∧ fairs h wt m nn (l.drop k) = R ∧ Below w.heap.size w wr
/-- The loop along one span. -/
def FairIn (w : World) (h wt m n T len : Nat) (l : List Ac) (R : Bool) (g : Nat) (s12 s14 : Value) (wr : World) : Prop := ∃ (j t : Nat) (tk : List Nat), s12 = .int .i64 t ∧ s14 = .int .i64 j ∧ j + g = len ∧ t ≤ j ∧ tk.length = m ∧ (∀ v ∈ tk, v ≤ j) ∧ runs h wt m n t tk (l.drop j) = R ∧ intR.Own 3 wr w.heap.size (.slice (some ⟨T, 0, none⟩) (m + 1) (m + 1)) (0 :: tk) ∧ Below w.heap.size w wr
set_option maxHeartbeats 4000000 in
set_option maxRecDepth 100000 in
theorem refFair_any (m nn h wt len cap : Nat) (a : Option Addr) (l : List Ac) (R : Bool) (w : World) (h1 : m ≤ 5) (h2 : nn ≤ 8) (h3 : 1 ≤ h ∧ h ≤ 1000) (hlen : len ≤ 100) (hl : l.length = len) (hf : ∀ x ∈ l, acF x) (hA : acR.At w (.slice a len cap) l) (hR : fairs h wt m nn l = R) :
    Calls Try.prog 29 #[.int .i64 m, .int .i64 nn, .int .i64 h, .int .i64 wt, .slice a len cap] w fun e w' => e = .returned (.bool R) ∧ Below w.heap.size w w' := by
  have HA := Lib.hid hA
  have HF := Lib.hid hf
  have HL := Lib.hid hl
  obtain ⟨cm, hcm, hm⟩ := make3 (m + 1) (by omega)
  have hm' : ∀ w, (Instr.makeSlice 77 (.int .i64 ((m : Int) + 1)) (.int .i64 ((m : Int) + 1))).run Try.prog w = .ok (.slice (some ⟨w.heap.size, 0, none⟩) (m + 1) (m + 1)) (w.alloc (.cells cm 3)) := hm
  have HCM := Lib.hid hcm
  have HMK := Lib.hid hm'
  have HST : Hid (FairOut w h wt m nn len l R len (.int .i64 0) w) := Lib.hid ⟨0, rfl, Nat.zero_add _, by rw [List.drop_zero]; exact hR, Below.refl _ _⟩
  clear hA hf hl hcm hm hm' hR
  obtain ⟨w0, hw0⟩ : ∃ w0 : World, w0 = w := ⟨_, rfl⟩
  have HST' : Hid (FairOut w h wt m nn len l R len (.int .i64 0) w0) := by rw [hw0]; exact HST
  clear HST
  have hgo : Calls Try.prog 29 #[.int .i64 m, .int .i64 nn, .int .i64 h, .int .i64 wt, .slice a len cap] w0 fun e w' => e = .returned (.bool R) ∧ Below w.heap.size w w' := by
    clear hw0
    go_enter Try.func29, Try.ntmps29
    go_wp2_with fail
    go_loopg [11] len (fun g i wr => FairOut w h wt m nn len l R g i wr)
    case atStart => exact HST'.out
    case round =>
      obtain ⟨k, rfl, hkg, hfa, hBw⟩ := hrel
      clear HST'
      have HFA := Lib.hid hfa
      have HBW := Lib.hid hBw
      clear hfa hBw
      by_cases hkn : k < len
      · have hkl : k < l.length := by rw [HL.out]; exact hkn
        obtain ⟨b, off, cc, he, hbw, hcells⟩ := HA.out.form (by omega)
        simp only [Value.slice.injEq] at he
        obtain ⟨rfl, hnn, rfl⟩ := he
        clear hnn
        have HCE : Hid (∀ (wy : World), Below w.heap.size w wy → ∀ (i : Nat) (hi : i < l.length), wy.cell? ⟨b, off + i * 2, none⟩ = some (.int .i64 l[i].1) ∧ wy.cell? ⟨b, off + i * 2 + 1, none⟩ = some (.int .i64 l[i].2)) := Lib.hid (fun wy hB i hi => by
          have x0 := hcells i hi 0 _ rfl
          have x1 := hcells i hi 1 _ rfl
          exact ⟨(hB.cell (p := ⟨b, off + i * 2, none⟩) hbw).trans x0, (hB.cell (p := ⟨b, off + i * 2 + 1, none⟩) hbw).trans x1⟩)
        clear hcells
        obtain ⟨x0, x1⟩ := HCE.out _ HBW.out k hkl
        have hx := HF.out _ (List.getElem_mem hkl)
        obtain ⟨x, hxx⟩ : ∃ x, l[k] = x := ⟨_, rfl⟩
        have HXX := Lib.hid hxx
        rw [hxx] at x0 x1 hx
        clear hxx
        obtain ⟨xw, xi⟩ := x
        obtain ⟨⟨g1, g2⟩, ⟨g3, g4⟩⟩ := hx
        simp only at g1 g2 g3 g4 x0 x1
        by_cases hask : Ac.asks nn (xw, xi)
        · obtain ⟨n, hn⟩ : ∃ n : Nat, Ac.at0 (xw, xi) = n := ⟨_, rfl⟩
          have hfy := fairs_yes (h := h) (wt := wt) (m := m) hkl HXX.out hask
          rw [HFA.out, hn] at hfy
          obtain ⟨e3, e4, e5⟩ := hask
          simp only at e3 e4 e5
          subst e3
          have hin : xi = (n : Int) + 1 := by unfold Ac.at0 at hn; simp only at hn; omega
          have HIN := Lib.hid hin
          clear hn hin
          obtain ⟨R1, hR1⟩ : ∃ R1, runs h wt m n 0 (List.replicate m 0) (l.drop (k + 1)) = R1 := ⟨_, rfl⟩
          rw [hR1] at hfy
          have HFY := Lib.hid hfy
          have d1 : decide (xi < 1) = false := decide_eq_false (by omega)
          have d2 : decide ((nn : Int) < xi) = false := decide_eq_false (by omega)
          have hmk := HMK.out
          go_upto_region 8 with fail
          have hsz : w.heap.size ≤ wr.heap.size := HBW.out.size
          have HIS : Hid (FairIn w h wt m n wr.heap.size len l R1 (len - (k + 1)) (.int .i64 0) (.int .i64 ((k : Int) + 1)) (wr.alloc (.cells cm 3))) := Lib.hid ⟨k + 1, 0, List.replicate m 0, rfl, by simp, by omega, Nat.zero_le _, by simp, fun v hv => by rw [List.eq_of_mem_replicate hv]; exact Nat.zero_le _, hR1, by have := row_own (R := intR) (w := wr.alloc (.cells cm 3)) (base := w.heap.size) (g := wr.heap.size) (l := List.replicate (m + 1) 0) (cs := cm) (E := 3) (Blk.new rfl) hsz (by simp [maxLen]; omega) HCM.out; simpa [List.replicate_succ] using this, HBW.out.trans ((Below.refl _ wr).mono hsz |>.alloc hsz _)⟩
          clear hR1 hfy x0 x1 d1 d2 HBW
          generalize wr.alloc (.cells cm 3) = wi at *
          generalize wr.heap.size = T at *
          clear hmk
          obtain ⟨wo2, hwo⟩ : ∃ wo : World, wo = wi := ⟨_, rfl⟩
          rw [← hwo] at HIS ⊢
          clear hwo
          go_wp2_with fail
          go_loopg [12, 14] (len - (k + 1)) (fun g s12 s14 wy => FairIn w h wt m n T len l R1 g s12 s14 wy)
          case atStart => exact HIS.out
          case round =>
            obtain ⟨j, t, tk, rfl, rfl, hjg, htj, htk, hvj, hru, hown, hBy⟩ := hrel
            clear HIS
            have HRU := Lib.hid hru
            have HOW := Lib.hid hown
            have HBY := Lib.hid hBy
            have HTK := Lib.hid htk
            have HVJ := Lib.hid hvj
            clear hru hown hBy htk hvj
            -- the span is over: the next one
            have hnext : Hid (R1 = true → ∀ wz, Below w.heap.size w wz → FairOut w h wt m nn len l R (len - (k + 1)) (.int .i64 ((k : Int) + 1)) wz) := Lib.hid (fun hR1 wz hz => ⟨k + 1, by go_num, by omega, by rw [HFY.out, hR1]; rfl, hz⟩)
            by_cases hjn : j < len
            · by_cases hth : t < h
              · have d3 : decide ((t : Int) < h) = true := decide_eq_true (by omega)
                have hjl : j < l.length := by rw [HL.out]; exact hjn
                obtain ⟨y0, y1⟩ := HCE.out _ HBY.out j hjl
                obtain ⟨_, x1⟩ := HCE.out _ HBY.out k hkl
                rw [HXX.out] at x1
                have hy := HF.out _ (List.getElem_mem hjl)
                obtain ⟨y, hyy⟩ : ∃ y, l[j] = y := ⟨_, rfl⟩
                rw [hyy] at y0 y1 hy
                have hrc := runs_cons (h := h) (wt := wt) (m := m) (n := n) (t := t) (tk := tk) hjl hyy
                rw [HRU.out, if_pos hth] at hrc
                have HRC := Lib.hid hrc
                clear hrc hyy HRU
                obtain ⟨yw, yi⟩ := y
                obtain ⟨⟨f1, f2⟩, ⟨f3, f4⟩⟩ := hy
                simp only at f1 f2 f3 f4 y0 y1 x1
                go_upto_region 11 with fail
                have hsz2 : w.heap.size ≤ wr.heap.size := HBY.out.size
                have HD : Hid (Blk (wr.alloc (.cells #[.int .i64 yw, .int .i64 yi] 58)) wr.heap.size #[.int .i64 yw, .int .i64 yi] 58) := Lib.hid (Blk.new rfl)
                have HBA : Hid (Below w.heap.size w (wr.alloc (.cells #[.int .i64 yw, .int .i64 yi] 58))) := Lib.hid (HBY.out.alloc hsz2 _)
                have HOA : Hid (intR.Own 3 (wr.alloc (.cells #[.int .i64 yw, .int .i64 yi] 58)) w.heap.size (.slice (some ⟨T, 0, none⟩) (m + 1) (m + 1)) (0 :: tk)) := Lib.hid (HOW.out.on below_al1)
                clear HOW HBY x1 y0 y1 hsz2
                generalize wr.alloc (.cells #[.int .i64 yw, .int .i64 yi] 58) = wa at *
                generalize wr.heap.size = D at *
                have y0 : wa.cell? ⟨D, 0, none⟩ = some (.int .i64 yw) := HD.out.cell 0
                have y1 : wa.cell? ⟨D, 1, none⟩ = some (.int .i64 yi) := HD.out.cell 1
                obtain ⟨_, x1⟩ := HCE.out _ HBA.out k hkl
                rw [HXX.out] at x1
                simp only at x1
                have hin := HIN.out
                have hcase : (yw = 4 ∧ yi = xi) ∨ (yw = 4 ∧ yi ≠ xi) ∨ (yw = 2 ∧ yi = xi) ∨ (yw = 2 ∧ yi ≠ xi) ∨ (yw = 1 ∧ 1 ≤ yi ∧ yi ≤ m) ∨ (yw = 1 ∧ yi < 1) ∨ (yw = 1 ∧ 1 ≤ yi ∧ ¬ yi ≤ m) ∨ (yw ≠ 4 ∧ yw ≠ 2 ∧ yw ≠ 1) := by omega
                rcases hcase with ⟨rfl, hc⟩ | ⟨rfl, hc⟩ | ⟨rfl, hc⟩ | ⟨rfl, hc⟩ | ⟨rfl, hc, hc2⟩ | ⟨rfl, hc⟩ | ⟨rfl, hc, hc2⟩ | ⟨hc, hc2, hc3⟩
                · have hR1 : R1 = true := by
                    have := HRC.out
                    rw [if_pos ⟨rfl, by simp only; omega⟩] at this
                    exact this
                  have q1 : (yi == xi) = true := by simpa using hc
                  clear hc hin
                  go_quiet (fail)
                  go_wp2_with fail
                  go_roundg (len - (k + 1))
                  case measure => omega
                  case rel => exact hnext.out hR1 _ (m_below_on HBA.out (below_drN _ _))
                · skip
                  have hr2 : R1 = runs h wt m n t tk (l.drop (j + 1)) := by
                    have := HRC.out
                    rw [if_neg (by rintro ⟨a, b⟩; simp only at a b; omega), if_neg (by rintro ⟨a, b⟩; simp only at a b; omega), if_neg (by rintro ⟨a, b, c⟩; simp only at a b c; omega)] at this
                    exact this
                  have q1 : (yi == xi) = false := by simpa using hc
                  clear hc hin
                  go_quiet (fail)
                  go_upto_region 12 with fail
                  go_quiet (fail)
                  go_wp2_with fail
                  go_roundg (len - (j + 1))
                  case measure => omega
                  case rel => exact ⟨j + 1, t, tk, rfl, by go_num, by omega, by omega, HTK.out, fun v hv => Nat.le_succ_of_le (HVJ.out v hv), hr2.symm, HOA.out.on (below_drN _ _), m_below_on HBA.out (below_drN _ _)⟩
                · have hr2 : R1 = runs h wt m n (t + 1) tk (l.drop (j + 1)) := by
                    have := HRC.out
                    rw [if_neg (by rintro ⟨a, b⟩; simp only at a b; omega), if_pos ⟨rfl, by simp only; omega⟩] at this
                    exact this
                  have q1 : (yi == xi) = true := by simpa using hc
                  clear hc hin
                  go_quiet (fail)
                  go_upto_region 12 with fail
                  go_quiet (fail)
                  go_wp2_with fail
                  go_roundg (len - (j + 1))
                  case measure => omega
                  case rel => exact ⟨j + 1, t + 1, tk, by go_num, by go_num, by omega, by omega, HTK.out, fun v hv => Nat.le_succ_of_le (HVJ.out v hv), hr2.symm, HOA.out.on (below_drN _ _), m_below_on HBA.out (below_drN _ _)⟩
                · skip
                  have hr2 : R1 = runs h wt m n t tk (l.drop (j + 1)) := by
                    have := HRC.out
                    rw [if_neg (by rintro ⟨a, b⟩; simp only at a b; omega), if_neg (by rintro ⟨a, b⟩; simp only at a b; omega), if_neg (by rintro ⟨a, b, c⟩; simp only at a b c; omega)] at this
                    exact this
                  have q1 : (yi == xi) = false := by simpa using hc
                  clear hc hin
                  go_quiet (fail)
                  go_upto_region 12 with fail
                  go_quiet (fail)
                  go_wp2_with fail
                  go_roundg (len - (j + 1))
                  case measure => omega
                  case rel => exact ⟨j + 1, t, tk, rfl, by go_num, by omega, by omega, HTK.out, fun v hv => Nat.le_succ_of_le (HVJ.out v hv), hr2.symm, HOA.out.on (below_drN _ _), m_below_on HBA.out (below_drN _ _)⟩
                · obtain ⟨i, rfl⟩ := Int.eq_ofNat_of_zero_le (show 0 ≤ yi by omega)
                  have hi1 : 1 ≤ i := by omega
                  have him : i ≤ m := by omega
                  have hat : Ac.at0 ((1 : Int), (i : Int)) = i - 1 := by unfold Ac.at0; simp only; omega
                  have hrc := HRC.out
                  rw [if_neg (by rintro ⟨a, b⟩; simp only at a b; omega), if_neg (by rintro ⟨a, b⟩; simp only at a b; omega), if_pos ⟨rfl, hc, hc2⟩, hat] at hrc
                  have hil : i < ((0 : Nat) :: tk).length := by simp only [List.length_cons, HTK.out]; omega
                  obtain ⟨ea, es⟩ := cons_at (z := 0) (tk := tk) hi1 hil (tk.getD (i - 1) 0 + 1)
                  obtain ⟨v, hv⟩ : ∃ v, tk.getD (i - 1) 0 = v := ⟨_, rfl⟩
                  rw [hv] at hrc ea es
                  have hvj : v ≤ j := by
                    rw [← hv, List.getD_eq_getElem?_getD, List.getElem?_eq_getElem (show i - 1 < tk.length by rw [HTK.out]; omega)]
                    exact HVJ.out _ (List.getElem_mem _)
                  obtain ⟨g', cap', he, hgb, hgw, hgc, _, hfm, hcm⟩ := HOA.out.form (by simp)
                  simp only [Value.slice.injEq, Option.some.injEq, Addr.mk.injEq, and_true] at he
                  obtain ⟨rfl, hdum, rfl⟩ := he
                  clear hdum
                  have m0 := hcm i hil 0 _ rfl
                  have ei : i * intR.c + 0 = i := by show i * 1 + 0 = i; omega
                  rw [ei, ea] at m0
                  have mf := (hfm i (show i < (m + 1) * 1 by omega)).2
                  have hput := HOA.out.put i 0 hil (by decide) (v + 1) (.int .i64 (v + 1 : Nat)) rfl
                  rw [ei, es] at hput
                  have HPU := Lib.hid hput
                  have HRC2 := Lib.hid hrc
                  have HHV := Lib.hid hv
                  clear hcm hfm hput hrc hv ea es hil hat hc hc2
                  have hx1 : (0 : Int) ≤ i := by omega
                  have hx2 : (i : Int) < (m : Int) + 1 := by omega
                  have q1 : decide ((1 : Int) ≤ i) = true := decide_eq_true (by omega)
                  have q2 : decide ((i : Int) ≤ m) = true := decide_eq_true (by omega)
                  clear hin
                  go_quiet (fail)
                  go_upto_region 12 with fail
                  go_quiet (fail)
                  go_upto_region 16 with fail
                  rw [drewN_setCell]
                  have ew : (wa.setCell ⟨T, i, none⟩ (.int .i64 (v + 1 : Nat))) = (wa.setCell ⟨T, i, none⟩ (.int .i64 ((v : Int) + 1))) := by simp
                  rw [ew] at HPU
                  have HBS := Lib.hid (HBA.out.setCell (p := ⟨T, i, none⟩) hgb (.int .i64 ((v : Int) + 1)))
                  obtain ⟨cur, hcur⟩ := own_heap HOA.out rfl
                  have HDS := Lib.hid (HD.out.set_other i (.int .i64 ((v : Int) + 1)) (heap_ne HD.out hcur (by decide)))
                  clear hcur ew y0 y1 x1 m0 mf HOA HBA HD
                  generalize wa.setCell ⟨T, i, none⟩ (.int .i64 ((v : Int) + 1)) = ws at *
                  obtain ⟨g', cap', he, _, hgw2, _, _, _, hcm⟩ := HPU.out.form (by simp)
                  simp only [Value.slice.injEq, Option.some.injEq, Addr.mk.injEq, and_true] at he
                  obtain ⟨rfl, hdum, rfl⟩ := he
                  clear hdum
                  have s0 := hcm i (by simp only [List.length_cons, List.length_set, HTK.out]; omega) 0 _ rfl
                  rw [ei, (cons_at (z := 0) (tk := tk.set (i - 1) (v + 1)) hi1 (by simp only [List.length_cons, List.length_set, HTK.out]; omega) 0).1, getD_set _ _ _ _ (by rw [HTK.out]; omega), if_pos rfl] at s0
                  replace s0 : ws.cell? ⟨T, i, none⟩ = some (.int .i64 ((v : Int) + 1)) := by simpa using s0
                  have y1 : ws.cell? ⟨D, 1, none⟩ = some (.int .i64 i) := HDS.out.cell 1
                  clear hcm ei
                  by_cases hwv : wt ≤ v + 1
                  · have q3 : decide ((wt : Int) ≤ (v : Int) + 1) = true := decide_eq_true (by omega)
                    have hrf : R = false := by
                      have h1 := HRC2.out
                      rw [if_pos hwv] at h1
                      rw [HFY.out, h1]
                      rfl
                    subst hrf
                    clear hwv
                    go_wp2_with fail
                    go_ret
                    exact ⟨rfl, m_below_on HBS.out (below_drN _ _)⟩
                  · have q3 : decide ((wt : Int) ≤ (v : Int) + 1) = false := decide_eq_false (by omega)
                    have hr2 := HRC2.out
                    rw [if_neg hwv] at hr2
                    have HR2 := Lib.hid hr2
                    clear hwv hr2
                    go_wp2_with fail
                    go_roundg (len - (j + 1))
                    case measure => omega
                    case rel => exact ⟨j + 1, t, tk.set (i - 1) (v + 1), rfl, by go_num, by omega, by omega, by rw [List.length_set]; exact HTK.out, fun u hu => (by
                      rcases List.mem_or_eq_of_mem_set hu with hu | rfl
                      · exact Nat.le_succ_of_le (HVJ.out u hu)
                      · omega), HR2.out.symm, HPU.out.on (below_drN _ _), m_below_on HBS.out (below_drN _ _)⟩
                · skip
                  have hr2 : R1 = runs h wt m n t tk (l.drop (j + 1)) := by
                    have := HRC.out
                    rw [if_neg (by rintro ⟨a, b⟩; simp only at a b; omega), if_neg (by rintro ⟨a, b⟩; simp only at a b; omega), if_neg (by rintro ⟨a, b, c⟩; simp only at a b c; omega)] at this
                    exact this
                  have q1 : decide ((1 : Int) ≤ yi) = false := decide_eq_false (by omega)
                  clear hc hin
                  go_quiet (fail)
                  go_upto_region 12 with fail
                  go_quiet (fail)
                  go_wp2_with fail
                  go_roundg (len - (j + 1))
                  case measure => omega
                  case rel => exact ⟨j + 1, t, tk, rfl, by go_num, by omega, by omega, HTK.out, fun v hv => Nat.le_succ_of_le (HVJ.out v hv), hr2.symm, HOA.out.on (below_drN _ _), m_below_on HBA.out (below_drN _ _)⟩
                · skip
                  have hr2 : R1 = runs h wt m n t tk (l.drop (j + 1)) := by
                    have := HRC.out
                    rw [if_neg (by rintro ⟨a, b⟩; simp only at a b; omega), if_neg (by rintro ⟨a, b⟩; simp only at a b; omega), if_neg (by rintro ⟨a, b, c⟩; simp only at a b c; omega)] at this
                    exact this
                  have q1 : decide ((1 : Int) ≤ yi) = true := decide_eq_true (by omega)
                  have q2 : decide (yi ≤ (m : Int)) = false := decide_eq_false (by omega)
                  clear hc hc2 hin
                  go_quiet (fail)
                  go_upto_region 12 with fail
                  go_quiet (fail)
                  go_wp2_with fail
                  go_roundg (len - (j + 1))
                  case measure => omega
                  case rel => exact ⟨j + 1, t, tk, rfl, by go_num, by omega, by omega, HTK.out, fun v hv => Nat.le_succ_of_le (HVJ.out v hv), hr2.symm, HOA.out.on (below_drN _ _), m_below_on HBA.out (below_drN _ _)⟩
                · skip
                  have hr2 : R1 = runs h wt m n t tk (l.drop (j + 1)) := by
                    have := HRC.out
                    rw [if_neg (by rintro ⟨a, b⟩; simp only at a b; omega), if_neg (by rintro ⟨a, b⟩; simp only at a b; omega), if_neg (by rintro ⟨a, b, c⟩; simp only at a b c; omega)] at this
                    exact this
                  have q1 : (yw == 4) = false := by simpa using hc
                  have q2 : (yw == 2) = false := by simpa using hc2
                  have q3 : (yw == 1) = false := by simpa using hc3
                  clear hc hc2 hc3 hin
                  go_quiet (fail)
                  go_upto_region 12 with fail
                  go_quiet (fail)
                  go_wp2_with fail
                  go_roundg (len - (j + 1))
                  case measure => omega
                  case rel => exact ⟨j + 1, t, tk, rfl, by go_num, by omega, by omega, HTK.out, fun v hv => Nat.le_succ_of_le (HVJ.out v hv), hr2.symm, HOA.out.on (below_drN _ _), m_below_on HBA.out (below_drN _ _)⟩
              · have d3 : decide ((t : Int) < h) = false := decide_eq_false (by omega)
                have hR1 : R1 = true := by rw [← HRU.out]; exact runs_long hth _
                go_wp2_with fail
                go_roundg (len - (k + 1))
                case measure => omega
                case rel => exact hnext.out hR1 _ HBY.out
            · have hR1 : R1 = true := by rw [← HRU.out]; exact runs_full (by rw [HL.out]; omega)
              go_wp2_with fail
              go_roundg (len - (k + 1))
              case measure => omega
              case rel => exact hnext.out hR1 _ HBY.out
        · have hnf := fairs_no (h := h) (wt := wt) (m := m) hkl HXX.out hask
          rw [HFA.out] at hnf
          have HNF := Lib.hid hnf
          clear hnf
          have hcase : ¬ xw = 3 ∨ (xw = 3 ∧ xi < 1) ∨ (xw = 3 ∧ ¬ xi < 1 ∧ (nn : Int) < xi) := by
            unfold Ac.asks at hask
            simp only at hask
            omega
          clear hask
          rcases hcase with hc | ⟨rfl, hc⟩ | ⟨rfl, hc, hc2⟩
          · have d1 : (xw != 3) = true := by simpa using hc
            clear hc
            go_wp2_with fail
            go_roundg (len - (k + 1))
            case measure => omega
            case rel => exact ⟨k + 1, by go_num, by omega, HNF.out.symm, HBW.out⟩
          · have d1 : decide (xi < 1) = true := decide_eq_true hc
            clear hc
            go_wp2_with fail
            go_roundg (len - (k + 1))
            case measure => omega
            case rel => exact ⟨k + 1, by go_num, by omega, HNF.out.symm, HBW.out⟩
          · have d1 : decide (xi < 1) = false := decide_eq_false hc
            have d2 : decide ((nn : Int) < xi) = true := decide_eq_true hc2
            clear hc hc2
            go_wp2_with fail
            go_roundg (len - (k + 1))
            case measure => omega
            case rel => exact ⟨k + 1, by go_num, by omega, HNF.out.symm, HBW.out⟩
      · have hRt : R = true := by
          rw [← HFA.out, List.drop_eq_nil_of_le (by rw [HL.out]; omega)]
          rfl
        subst hRt
        go_wp2
        go_ret
        exact ⟨rfl, HBW.out⟩
  rw [hw0] at hgo
  exact hgo
end Go.Proofs.Ytlphlmpfjpombaa
