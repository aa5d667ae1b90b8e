/-
  The law PaceEven: the walk.
-/
import Derived.Test.YtlphlmpfjpombaaPaceV
import Derived.Test.YtlphlmpfjpombaaOpen
import Derived.Deep.LoopGhost
namespace Go.Proofs.Ytlphlmpfjpombaa
open Go.RowKit Go.Instr

def u16R : RK Nat := { f := fun k => [.int .u16 k], c := 1, pos := by decide, len := fun _ => rfl, one := fun _ => ones1 rfl }
theorem Ev.more {h wt i : Nat} {ms : List Nat} {tl : List (Nat × Nat)} {p : Pc} {y : Nat × Nat} (hp : Ev h wt ms tl p) (hi : i < tl.length) (h1 : tl[i].1 = y.1) (h2 : tl[i].2 ≤ y.2) : Ev h wt ms (tl.set i y) p := by
  refine ⟨hp.hold, hp.wait, hp.ms, hp.bad, by simp [hp.len], fun j hj hj' => ?_⟩
  simp only [List.length_set] at hj'
  simp only [List.getElem_set]
  by_cases hij : i = j
  · subst hij
    rw [if_pos rfl, ← h1]
    exact (hp.ns i hj hj').more h2
  · rw [if_neg hij]
    exact hp.ns j hj hj'
/-- The first j of n have become y, the rest are x. -/
def repL {α : Type} (n j : Nat) (x y : α) : List α := List.replicate j y ++ List.replicate (n - j) x
theorem repL_len {α : Type} {n j : Nat} {x y : α} (h : j ≤ n) : (repL n j x y).length = n := by simp [repL]; omega
theorem repL_zero {α : Type} (n : Nat) (x y : α) : repL n 0 x y = List.replicate n x := by simp [repL]
theorem repL_full {α : Type} (n : Nat) (x y : α) : repL n n x y = List.replicate n y := by simp [repL]
theorem repL_mem {α : Type} {n j : Nat} {x y a : α} (h : a ∈ repL n j x y) : a = x ∨ a = y := by
  rcases List.mem_append.1 h with h | h
  · exact .inr (List.eq_of_mem_replicate h)
  · exact .inl (List.eq_of_mem_replicate h)
theorem repL_set {α : Type} {n j : Nat} {x y : α} (h : j < n) (h' : j < (repL n j x y).length) : (repL n j x y)[j] = x ∧ (repL n j x y).set j y = repL n (j + 1) x y := by
  obtain ⟨m, rfl⟩ : ∃ m, n = j + 1 + m := ⟨n - j - 1, by omega⟩
  have e1 : j + 1 + m - j = m + 1 := by omega
  have e2 : j + 1 + m - (j + 1) = m := by omega
  constructor
  · have e : (repL (j + 1 + m) j x y)[j]? = some x := by
      unfold repL
      rw [List.getElem?_append_right (by simp), e1]
      simp
    exact (List.getElem?_eq_some_iff.1 e).2
  · unfold repL
    rw [e1, e2, List.set_append_right _ _ (by simp), List.length_replicate, Nat.sub_self, List.replicate_succ, List.set_cons_zero, List.replicate_succ', List.append_assoc]
    rfl
def EvenLoop (w1 : World) (P h wt len g : Nat) (i : Value) (wr : World) : Prop := ∃ (k : Nat) (p : Pc), i = .int .i64 k ∧ k + g = len ∧ k ≤ 120 ∧ Ev h wt (List.replicate 3 k) (List.replicate 4 (k, k)) p ∧ PaceE wr w1.heap.size P p ∧ Below w1.heap.size w1 wr
def EvenM (w1 : World) (P h wt k g : Nat) (i : Value) (wr : World) : Prop := ∃ (j : Nat) (p : Pc), i = .int .i64 (j + 1) ∧ j + g = 3 ∧ Ev h wt (repL 3 j k (k + 1)) (List.replicate 4 (k, k)) p ∧ PaceE wr w1.heap.size P p ∧ Below w1.heap.size w1 wr
def EvenN (w1 : World) (P h wt k g : Nat) (i : Value) (wr : World) : Prop := ∃ (j : Nat) (p : Pc), i = .int .i64 (j + 1) ∧ j + g = 4 ∧ Ev h wt (List.replicate 3 (k + 1)) (repL 4 j (k, k) (k + 1, k + 1)) p ∧ PaceE wr w1.heap.size P p ∧ Below w1.heap.size w1 wr
/-- What stands behind a request, or none. -/
def EvenAt (w1 : World) (P h wt k j : Nat) (wr : World) : Prop := ∃ p : Pc, Ev h wt (List.replicate 3 (k + 1)) (repL 4 (j + 1) (k, k) (k + 1, k + 1)) p ∧ PaceE wr w1.heap.size P p ∧ Below w1.heap.size w1 wr
theorem even_start (h wt : Nat) : Ev h wt (List.replicate 3 0) (List.replicate 4 (0, 0)) ⟨h, wt, List.replicate 3 0, List.replicate 4 ⟨0, []⟩, false⟩ := by
  refine ⟨rfl, rfl, rfl, rfl, by simp, fun i hi hi' => ?_⟩
  simp only [List.getElem_replicate]
  exact ⟨rfl, Nat.zero_le _, fun s hs => (by cases hs)⟩
set_option maxHeartbeats 4000000 in
set_option maxRecDepth 100000 in
theorem even_walk (hd lg : Nat) (l : List Nat) (a : Option Addr) (len cap : Nat) (w : World) (h1 : hd < 256) (h2 : lg < 256) (hlen : len ≤ maxLen) (hl : l.length = len) (hf : ∀ k ∈ l, k < 65536) (hA : 0 < len → u16R.At w (.slice a len cap) l) :
    Calls Try.prog 7 #[.int .u8 hd, .int .u8 lg, .slice a len cap] w fun e w' => e = .returned (.bool true) ∧ Below w.heap.size w w' := by
  unfold maxLen at hlen
  have HA := Lib.hid hA
  have HF := Lib.hid hf
  have HL := Lib.hid hl
  obtain ⟨h, hh⟩ : ∃ h : Nat, 1 + hd % 40 = h := ⟨_, rfl⟩
  obtain ⟨lg4, hlg⟩ : ∃ x : Nat, lg % 40 = x := ⟨_, rfl⟩
  have hb1 : 1 ≤ h ∧ h ≤ 40 := by omega
  have hb2 : lg4 ≤ 39 := by omega
  have e1 : 1 + (hd : Int) % 40 = h := by omega
  have e2 : (lg : Int) % 40 = lg4 := by omega
  obtain ⟨wt, hwt⟩ : ∃ wt : Nat, h + 1 + lg4 = wt := ⟨_, rfl⟩
  have e3 : (h : Int) + 1 + lg4 = wt := by omega
  have hb3 : h < wt ∧ wt ≤ 80 := by omega
  clear hA hf hl hh hlg hwt
  go_enter Try.func7, Try.ntmps7
  go_upto_region 7 with (first
    | (go_at_call 22; (refine (speaks8 _).mono ?_); rintro en w1 ⟨rfl, hB⟩; have HB1 := Lib.hid hB; clear hB)
    | (go_at_call 23; (refine (New_ok 3 4 h wt _ (by decide) (by decide) (by decide) (by decide) (by omega) (by omega) (by omega) (by omega)).mono ?_); rintro en w2 ⟨P, hP, rfl, hA, hB⟩; have HP := Lib.hid hP; have HA2 := Lib.hid hA; have HB2 := Lib.hid hB; clear hP hA hB))
  have HST : Hid (EvenLoop w1 P h wt len len (.int .i64 0) w2) := Lib.hid ⟨0, _, rfl, Nat.zero_add _, by decide, even_start h wt, HA2.out, HB2.out⟩
  clear HA2 HB2 e1 e2 e3
  have hw1 : w.heap.size ≤ w1.heap.size := HB1.out.size
  go_wp2_with fail
  go_loopg [10] len (fun g i wr => EvenLoop w1 P h wt len g i wr)
  case atStart => exact HST.out
  case round =>
    obtain ⟨k, p, rfl, hkg, hk120, hev, hpe, hBw⟩ := hrel
    clear HST
    have HEV := Lib.hid hev
    have HPE := Lib.hid hpe
    have HBW := Lib.hid hBw
    clear hev hpe hBw
    by_cases hlk : k < len ∧ k < 120
    · obtain ⟨hlk, hk1⟩ := hlk
      have hkd : decide ((k : Int) < 120) = true := by simp; omega
      have hkl : k < l.length := by rw [HL.out]; exact hlk
      have hBw1 : Below w.heap.size w wr := HB1.out.trans (HBW.out.mono hw1)
      obtain ⟨b, off, cc, he, hbw, hcells⟩ := ((HA.out (by omega))).form (by omega)
      simp only [Value.slice.injEq] at he
      obtain ⟨rfl, hnn, rfl⟩ := he
      clear hnn
      have x0 := hcells k hkl 0 _ rfl
      have hx := HF.out _ (List.getElem_mem hkl)
      obtain ⟨x, hxx⟩ : ∃ x, l[k] = x := ⟨_, rfl⟩
      rw [hxx] at x0 hx
      have ek : off + (k * u16R.c + 0) = off + k := by show off + (k * 1 + 0) = off + k; omega
      rw [ek] at x0
      have HX := Lib.hid x0
      clear hcells hxx ek x0 hBw1
      have HSM : Hid (EvenM w1 P h wt k 3 (.int .i64 1) wr) := Lib.hid ⟨0, p, rfl, rfl, by rw [repL_zero]; exact HEV.out, HPE.out, HBW.out⟩
      clear HEV HPE HBW
      obtain ⟨wo, hwo⟩ : ∃ wo : World, wo = wr := ⟨_, rfl⟩
      rw [← hwo] at HSM ⊢
      clear hwo
      go_wp2_with fail
      go_loopg [11] 3 (fun g i wr => EvenM w1 P h wt k g i wr)
      case atStart => exact HSM.out
      case round =>
        obtain ⟨j, p2, rfl, hj, hev, hpe, hBw⟩ := hrel
        clear HSM
        have HEV := Lib.hid hev
        have HPE := Lib.hid hpe
        have HBW := Lib.hid hBw
        clear hev hpe hBw
        by_cases hj3 : j < 3
        · have hjl : j < (repL 3 j k (k + 1)).length := by rw [repL_len (by omega)]; exact hj3
          have hst := repL_set hj3 hjl
          have hfine : p2.fine 200 := HEV.out.fine (by omega) (by omega) (repL_len (by omega)) (by simp) (fun q hq => by rcases repL_mem hq with rfl | rfl <;> omega) (fun q hq => by have := List.eq_of_mem_replicate hq; subst this; exact ⟨by simp only; omega, by simp only; omega⟩)
          have hmaster := HEV.out.master (i := j) hb3.1 (repL_len (by omega)) hjl (fun q hq => by have := List.eq_of_mem_replicate hq; subst this; rw [hst.1]; exact Nat.le_refl _)
          rw [hst.1, hst.2] at hmaster
          have HMA := Lib.hid hmaster
          have HFI := Lib.hid hfine
          have hjp : Hid (j < p2.ms.length) := Lib.hid (by rw [HEV.out.ms]; exact hjl)
          clear hst hfine hmaster hjl
          go_wp2_with (go_at_call 25; (refine (Master_yes w1.heap.size P p2 j 200 _ HPE.out HFI.out (by decide) HP.out hjp.out).mono ?_); rintro en w5 ⟨rfl, hA, hB, _⟩; have HA5 := Lib.hid hA; have HB5 := Lib.hid (HBW.out.trans hB); clear hA hB)
          go_roundg (3 - (j + 1))
          case measure => omega
          case rel => exact ⟨j + 1, _, by go_num, by omega, HMA.out, HA5.out, HB5.out⟩
        · obtain rfl : j = 3 := by omega
          have HSN : Hid (EvenN w1 P h wt k 4 (.int .i64 1) wr) := Lib.hid ⟨0, p2, rfl, rfl, by have := HEV.out; rw [repL_full] at this; rw [repL_zero]; exact this, HPE.out, HBW.out⟩
          clear HEV HPE HBW
          obtain ⟨wo2, hwo⟩ : ∃ wo : World, wo = wr := ⟨_, rfl⟩
          rw [← hwo] at HSN ⊢
          clear hwo
          go_wp2_with fail
          go_loopg [12] 4 (fun g i wr => EvenN w1 P h wt k g i wr)
          case atStart => exact HSN.out
          case round =>
            obtain ⟨j, p3, rfl, hj, hev, hpe, hBw⟩ := hrel
            clear HSN
            have HEV := Lib.hid hev
            have HPE := Lib.hid hpe
            have HBW := Lib.hid hBw
            clear hev hpe hBw
            by_cases hj4 : j < 4
            · have hjl : j < (repL 4 j (k, k) (k + 1, k + 1)).length := by rw [repL_len (by omega)]; exact hj4
              have hst := repL_set hj4 hjl
              have hfine : p3.fine 200 := HEV.out.fine (by omega) (by omega) (by simp) (repL_len (by omega)) (fun q hq => by have := List.eq_of_mem_replicate hq; omega) (fun q hq => by rcases repL_mem hq with rfl | rfl <;> exact ⟨by simp only; omega, by simp only; omega⟩)
              have hnode := HEV.out.node (i := j) hjl
              rw [hst.1] at hnode
              have hjt : j < ((repL 4 j (k, k) (k + 1, k + 1)).set j (k + 1, k)).length := by rw [List.length_set]; exact hjl
              have hget : ((repL 4 j (k, k) (k + 1, k + 1)).set j (k + 1, k))[j] = (k + 1, k) := List.getElem_set_self ..
              have hfin2 : ∀ q ∈ (repL 4 j (k, k) (k + 1, k + 1)).set j (k + 1, k), q.1 ≤ 200 ∧ q.2 ≤ 200 := fun q hq => by
                rcases List.mem_or_eq_of_mem_set hq with h | rfl
                · rcases repL_mem h with rfl | rfl <;> exact ⟨by simp only; omega, by simp only; omega⟩
                · exact ⟨by simp only; omega, by simp only; omega⟩
              have hfine2 : ∀ p4, Ev h wt (List.replicate 3 (k + 1)) ((repL 4 j (k, k) (k + 1, k + 1)).set j (k + 1, k)) p4 → p4.fine 200 := fun p4 h4 => h4.fine (by omega) (by omega) (by simp) (by rw [List.length_set]; exact repL_len (by omega)) (fun q hq => by have := List.eq_of_mem_replicate hq; omega) hfin2
              have hset2 : ((repL 4 j (k, k) (k + 1, k + 1)).set j (k + 1, k)).set j (k + 1, k + 1) = repL 4 (j + 1) (k, k) (k + 1, k + 1) := by rw [List.set_set]; exact hst.2
              have hask : Hid (∀ p4, Ev h wt (List.replicate 3 (k + 1)) ((repL 4 j (k, k) (k + 1, k + 1)).set j (k + 1, k)) p4 → Ev h wt (List.replicate 3 (k + 1)) (repL 4 (j + 1) (k, k) (k + 1, k + 1)) (p4.ask j)) := Lib.hid (fun p4 h4 => by
                have := h4.ask (i := j) hb1.1 hjt (by rw [hget])
                rw [hget] at this
                rw [← hset2]
                exact this)
              have hmore : Hid (∀ p4, Ev h wt (List.replicate 3 (k + 1)) ((repL 4 j (k, k) (k + 1, k + 1)).set j (k + 1, k)) p4 → Ev h wt (List.replicate 3 (k + 1)) (repL 4 (j + 1) (k, k) (k + 1, k + 1)) p4) := Lib.hid (fun p4 h4 => by
                rw [← hset2]
                exact h4.more (i := j) hjt (by rw [hget]) (by rw [hget]; exact Nat.le_succ _))
              have HNO := Lib.hid hnode
              have HFI := Lib.hid hfine
              have HF2 := Lib.hid hfine2
              have hjp : Hid (j < p3.ns.length) := Lib.hid (by rw [HEV.out.len]; exact hjl)
              have hjp2 : Hid (j < (p3.node j).ns.length) := Lib.hid (by rw [HNO.out.len]; exact hjt)
              have hbs : Hid (∀ w7, Below w1.heap.size w1 w7 → w1.heap.size ≤ w7.heap.size) := Lib.hid (fun w7 h => h.size)
              clear hst hfine hnode hjl hjt hget hfin2 hfine2 hset2
              have hbww : b < w1.heap.size := by omega
              have hjx1 : (0 : Int) ≤ (j : Int) + 1 := by omega
              have hjx2 : (j : Int) + 1 ≤ 5 := by omega
              have hsh := HX.out
              go_upto_if 63 with (go_at_call 26; (refine (Node_yes w1.heap.size P p3 j 200 _ HPE.out HFI.out (by decide) (hbs.out _ HBW.out) hjp.out).mono ?_); rintro en w5 ⟨rfl, hA, hB, _⟩; have HA5 := Lib.hid hA; have HB5 := Lib.hid (HBW.out.trans hB); have x5 := (HB1.out.trans (HB5.out.mono hw1)).cell (p := ⟨b, off + k, none⟩) hbw; clear hA hB)
              go_cut [66] (fun _ wx => EvenAt w1 P h wt k j wx)
              case first =>
                by_cases hbit : (bits BinOp.and IntKind.u16 ((x : Int) / 2 ^ (j + 1)) 1 == 1) = true
                · have HBI := Lib.hid hbit
                  rw [hbit]
                  clear hbit
                  go_wp2_with (go_at_call 27; (refine (Ask_any w1.heap.size P (p3.node j) j 200 _ HA5.out (HF2.out _ HNO.out) (by decide) (hbs.out _ HB5.out) hjp2.out).mono ?_); rintro en w6 ⟨rfl, hA, hB, _⟩; have HA6 := Lib.hid hA; have HB6 := Lib.hid (HB5.out.trans hB); clear hA hB)
                  go_meet
                  exact ⟨_, hask.out _ HNO.out, HA6.out, HB6.out⟩
                · have hbf : (bits BinOp.and IntKind.u16 ((x : Int) / 2 ^ (j + 1)) 1 == 1) = false := by simpa using hbit
                  rw [hbf]
                  clear hbf hbit
                  go_wp2_with fail
                  go_meet
                  exact ⟨_, hmore.out _ HNO.out, HA5.out, HB5.out⟩
              case rest =>
                obtain ⟨p6, hev6, hpe6, hB6⟩ := hcut
                have HEV6 := Lib.hid hev6
                have HPE6 := Lib.hid hpe6
                have HB6 := Lib.hid hB6
                have x6 := (hB6.cell (p := ⟨b, off + k, none⟩) (Nat.lt_of_lt_of_le hbw hw1)).trans ((HB1.out.cell (p := ⟨b, off + k, none⟩) hbw).trans HX.out)
                have hjp6 : Hid (j < p6.ns.length) := Lib.hid (by rw [hev6.len, repL_len (by omega)]; exact hj4)
                have hfine6 : p6.fine 200 := hev6.fine (by omega) (by omega) (by simp) (repL_len (by omega)) (fun q hq => by have := List.eq_of_mem_replicate hq; omega) (fun q hq => by rcases repL_mem hq with rfl | rfl <;> exact ⟨by simp only; omega, by simp only; omega⟩)
                have HFI6 := Lib.hid hfine6
                have hstop : Hid (Ev h wt (List.replicate 3 (k + 1)) (repL 4 (j + 1) (k, k) (k + 1, k + 1)) (p6.stop j)) := Lib.hid (hev6.stop (by rw [repL_len (by omega)]; exact hj4))
                clear hev6 hpe6 hB6 hfine6 x5 HA5 HB5
                go_upto_if 75 with fail
                generalize (bits BinOp.and IntKind.u16 ((x : Int) / 2 ^ (j + 6)) 7 == 7) = b7
                cases b7 with
                | true =>
                  go_wp2_with (go_at_call 28; (refine (Stop_yes w1.heap.size P p6 j 200 _ HPE6.out HFI6.out hjp6.out).mono ?_); rintro en w7 ⟨rfl, hA, hB, _⟩; have HA7 := Lib.hid hA; have HB7 := Lib.hid (HB6.out.trans hB); clear hA hB)
                  go_roundg (4 - (j + 1))
                  case measure => omega
                  case rel => exact ⟨j + 1, _, by go_num, by omega, hstop.out, HA7.out, HB7.out⟩
                | false =>
                  go_wp2
                  go_roundg (4 - (j + 1))
                  case measure => omega
                  case rel => exact ⟨j + 1, _, by go_num, by omega, HEV6.out, HPE6.out, HB6.out⟩
            · obtain rfl : j = 4 := by omega
              have HBX := Lib.hid (HEV.out.bad)
              go_wp2_with (go_at_call 24; (refine (Fair_is w1.heap.size P p3 true _ HPE.out (by rw [HBX.out]; rfl)).mono ?_); rintro en w6 ⟨rfl, rfl⟩)
              go_roundg (len - (k + 1))
              case measure => omega
              case rel => exact ⟨k + 1, p3, by go_num, by omega, by omega, by have := HEV.out; rw [repL_full] at this; exact this, HPE.out, HBW.out⟩
    · have hcase : (¬ k < len) ∨ (k < len ∧ ¬ k < 120) := by omega
      rcases hcase with hc | ⟨hc, hc2⟩
      all_goals
        go_wp2
        go_ret
        exact ⟨rfl, HB1.out.trans (HBW.out.mono hw1)⟩
end Go.Proofs.Ytlphlmpfjpombaa
