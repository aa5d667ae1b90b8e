/-
  The law PaceHolds: what stands between its events, and the walk.
-/
import Derived.Test.YtlphlmpfjpombaaPaceV
import Derived.Test.YtlphlmpfjpombaaOpen
import Derived.Deep.LoopGhost
import Derived.Deep.CutBlock
namespace Go.Proofs.Ytlphlmpfjpombaa
open Go.RowKit Go.Instr

/-- The pace of the law: of its two masters the first ticks, of its two nodes the second does all. -/
def pH (h wt m0 : Nat) (q : Nd) (bad : Bool) : Pc := ⟨h, wt, [m0, 0], [⟨0, []⟩, q], bad⟩
/-- How often the first master had ticked when the span began. -/
def Sp.at0 (s : Sp) : Nat := s.ms.getD 0 0
/-- What stands behind k events: of the node's spans, and of what the law counts. -/
structure Hv (h wt k m0 : Nat) (q : Nd) (bad asked : Bool) (node master : Nat) : Prop where
  t : q.t ≤ k
  m : m0 ≤ k
  len : q.sp.length ≤ k
  sp : ∀ s ∈ q.sp, s.s ≤ q.t ∧ s.ms.length = 2 ∧ (∀ x ∈ s.ms, x ≤ k) ∧ s.at0 ≤ m0
  pw : q.sp.Pairwise fun a b => a.at0 ≤ b.at0
  nd : node ≤ k ∧ master ≤ k
  ask : asked = true → node < h → ∃ s ∈ q.sp, q.t = s.s + node ∧ s.at0 + master ≤ m0
  bad : asked = true → node < h → wt ≤ master → bad = true
theorem Hv.fine {h wt k m0 node master N : Nat} {q : Nd} {bad asked : Bool} (hv : Hv h wt k m0 q bad asked node master) (h1 : 1 ≤ h ∧ h ≤ 1000) (h2 : 1 ≤ wt ∧ wt ≤ 1000) (hk : k ≤ N) : (pH h wt m0 q bad).fine N := by
  refine ⟨h1, h2, by unfold pH; simp, by unfold pH; simp, fun x hx => ?_, fun x hx => ?_⟩
  · simp only [pH, List.mem_cons, List.not_mem_nil, or_false] at hx
    have := hv.m
    rcases hx with rfl | rfl <;> omega
  · simp only [pH, List.mem_cons, List.not_mem_nil, or_false] at hx
    rcases hx with rfl | rfl
    · exact ⟨Nat.zero_le _, Nat.zero_le _, fun s hs => (by cases hs)⟩
    · refine ⟨by have := hv.t; omega, by have := hv.len; omega, fun s hs => ?_⟩
      obtain ⟨a, b, c, _⟩ := hv.sp s hs
      exact ⟨a, by rw [b]; rfl, fun y hy => by have := c y hy; omega⟩
theorem Hv.start (h wt : Nat) : Hv h wt 0 0 ⟨0, []⟩ false false 0 0 :=
  ⟨Nat.le_refl _, Nat.le_refl _, Nat.le_refl _, fun s hs => (by cases hs), List.Pairwise.nil, ⟨Nat.le_refl _, Nat.le_refl _⟩, fun h => (by cases h), fun h => (by cases h)⟩
theorem Hv.more {h wt k m0 node master : Nat} {q : Nd} {bad asked : Bool} (hv : Hv h wt k m0 q bad asked node master) : Hv h wt (k + 1) m0 q bad asked node master :=
  ⟨by have := hv.t; omega, by have := hv.m; omega, by have := hv.len; omega, fun s hs => ⟨(hv.sp s hs).1, (hv.sp s hs).2.1, fun x hx => by have := (hv.sp s hs).2.2.1 x hx; omega, (hv.sp s hs).2.2.2⟩, hv.pw, by have := hv.nd; omega, hv.ask, hv.bad⟩
/-- A master ticks. -/
theorem Hv.master {h wt k m0 node master : Nat} {q : Nd} {bad asked : Bool} (hv : Hv h wt k m0 q bad asked node master) : ∃ bad', (pH h wt m0 q bad).master 0 = pH h wt (m0 + 1) q bad' ∧ Hv h wt (k + 1) (m0 + 1) q bad' asked node (master + 1) := by
  refine ⟨bad || (Nd.late 0 (m0 + 1) wt ⟨0, []⟩ || (Nd.late 0 (m0 + 1) wt q || false)), rfl, ?_⟩
  refine ⟨by have := hv.t; omega, by have := hv.m; omega, by have := hv.len; omega, fun s hs => ?_, hv.pw, by have := hv.nd; omega, fun ha hn => ?_, fun ha hn hw => ?_⟩
  · obtain ⟨a, b, c, d⟩ := hv.sp s hs
    exact ⟨a, b, fun x hx => by have := c x hx; omega, by omega⟩
  · obtain ⟨s, hs, a, b⟩ := hv.ask ha hn
    exact ⟨s, hs, a, by omega⟩
  · obtain ⟨s, hs, a, b⟩ := hv.ask ha hn
    have hlate : Nd.late 0 (m0 + 1) wt q = true := by
      unfold Nd.late
      have hpw := hv.pw
      cases hq : q.sp with
      | nil => rw [hq] at hs; cases hs
      | cons s0 r =>
        rw [hq] at hs hpw
        have h0 : s0.at0 ≤ s.at0 := by
          rcases List.mem_cons.1 hs with rfl | h
          · exact Nat.le_refl _
          · exact (List.pairwise_cons.1 hpw).1 s h
        have : wt + s0.ms.getD 0 0 ≤ m0 + 1 := by unfold Sp.at0 at h0 b; omega
        simpa using this
    rw [hlate]
    simp
/-- The node ticks. -/
theorem Hv.node {h wt k m0 node master : Nat} {q : Nd} {bad asked : Bool} (hv : Hv h wt k m0 q bad asked node master) : (pH h wt m0 q bad).node 1 = pH h wt m0 (Nd.tick h q) bad ∧ Hv h wt (k + 1) m0 (Nd.tick h q) bad asked (node + 1) master := by
  refine ⟨rfl, by have := hv.t; simp [Nd.tick]; omega, by have := hv.m; omega, ?_, fun s hs => ?_, hv.pw.filter _, by have := hv.nd; omega, fun ha hn => ?_, fun ha hn hw => hv.bad ha (by omega) hw⟩
  · have := List.length_filter_le (fun s : Sp => decide (q.t + 1 < s.s + h)) q.sp
    have := hv.len
    simp only [Nd.tick]
    omega
  · obtain ⟨a, b, c, d⟩ := hv.sp s (List.mem_filter.1 hs).1
    exact ⟨by simp only [Nd.tick]; omega, b, fun x hx => by have := c x hx; omega, d⟩
  · obtain ⟨s, hs, a, b⟩ := hv.ask ha (by omega)
    refine ⟨s, List.mem_filter.2 ⟨hs, by simp; omega⟩, by simp only [Nd.tick]; omega, b⟩
/-- The node requests. -/
theorem Hv.ask' {h wt k m0 node master : Nat} {q : Nd} {bad asked : Bool} (hv : Hv h wt k m0 q bad asked node master) (hw : 1 ≤ wt) : ∃ q', (pH h wt m0 q bad).ask 1 = pH h wt m0 q' bad ∧ (asked = true → Hv h wt (k + 1) m0 q' bad true node master) ∧ (asked = false → Hv h wt (k + 1) m0 q' bad true 0 0) := by
  refine ⟨Nd.ask [m0, 0] q, rfl, ?_⟩
  by_cases hq : ∀ s, q.sp.getLast? = some s → s.s ≠ q.t
  · rw [ask_new hq]
    have hlen : (q.sp ++ [(⟨q.t, [m0, 0]⟩ : Sp)]).length ≤ k + 1 := by have := hv.len; simp; omega
    have hsp : ∀ s ∈ q.sp ++ [(⟨q.t, [m0, 0]⟩ : Sp)], s.s ≤ q.t ∧ s.ms.length = 2 ∧ (∀ x ∈ s.ms, x ≤ k + 1) ∧ s.at0 ≤ m0 := fun s hs => by
      rcases List.mem_append.1 hs with hs | hs
      · obtain ⟨a, b, c, d⟩ := hv.sp s hs
        exact ⟨a, b, fun x hx => by have := c x hx; omega, d⟩
      · rw [List.mem_singleton.1 hs]
        refine ⟨Nat.le_refl _, rfl, fun x hx => ?_, Nat.le_refl _⟩
        simp only [List.mem_cons, List.not_mem_nil, or_false] at hx
        have := hv.m
        rcases hx with rfl | rfl <;> omega
    have hpw : (q.sp ++ [(⟨q.t, [m0, 0]⟩ : Sp)]).Pairwise fun a b => a.at0 ≤ b.at0 := by
      rw [List.pairwise_append]
      refine ⟨hv.pw, List.pairwise_singleton _ _, fun a ha b hb => ?_⟩
      rw [List.mem_singleton.1 hb]
      exact (hv.sp a ha).2.2.2
    refine ⟨fun ha => ⟨by have := hv.t; simp only; omega, by have := hv.m; omega, hlen, hsp, hpw, by have := hv.nd; omega, fun _ hn => ?_, fun _ hn hw => hv.bad ha hn hw⟩, fun _ => ⟨by have := hv.t; simp only; omega, by have := hv.m; omega, hlen, hsp, hpw, by omega, fun _ _ => ?_, fun _ _ hw' => by omega⟩⟩
    · obtain ⟨s, hs, a, b⟩ := hv.ask ha hn
      exact ⟨s, List.mem_append_left _ hs, a, b⟩
    · exact ⟨⟨q.t, [m0, 0]⟩, by simp, rfl, Nat.le_refl _⟩
  · simp only [Classical.not_forall, Decidable.not_not] at hq
    obtain ⟨s, h1, h2⟩ := hq
    rw [ask_old h1 h2]
    have hmore := hv.more
    refine ⟨fun ha => by subst ha; exact hmore, fun _ => ⟨hmore.t, hmore.m, hmore.len, hmore.sp, hmore.pw, by omega, fun _ _ => ?_, fun _ _ hw' => by omega⟩⟩
    have hs := List.mem_of_getLast? h1
    exact ⟨s, hs, by omega, (hv.sp s hs).2.2.2⟩
/-- The node stops. -/
theorem Hv.stop {h wt k m0 node master : Nat} {q : Nd} {bad asked : Bool} (hv : Hv h wt k m0 q bad asked node master) : (pH h wt m0 q bad).stop 1 = pH h wt m0 ⟨q.t, []⟩ bad ∧ Hv h wt (k + 1) m0 ⟨q.t, []⟩ bad false node master :=
  ⟨rfl, by have := hv.t; simp only; omega, by have := hv.m; omega, Nat.zero_le _, fun s hs => (by cases hs), List.Pairwise.nil, by have := hv.nd; omega, fun h => (by cases h), fun h => (by cases h)⟩
theorem Hv.off {h wt k m0 node master : Nat} {q : Nd} {bad asked : Bool} (hv : Hv h wt k m0 q bad asked node master) : Hv h wt k m0 q bad false node master :=
  ⟨hv.t, hv.m, hv.len, hv.sp, hv.pw, hv.nd, fun h => (by cases h), fun h => (by cases h)⟩
/-- An act of layer 8. -/
def act8R : RK (Int × Int) := { f := fun x => [.int .i64 x.1, .int .i64 x.2], c := 2, pos := by decide, len := fun _ => rfl, one := fun _ => ones2 rfl rfl }
def act8F (x : Int × Int) : Prop := (-9223372036854775808 ≤ x.1 ∧ x.1 ≤ 9223372036854775807) ∧ (-9223372036854775808 ≤ x.2 ∧ x.2 ≤ 9223372036854775807)
def HoldAt (w1 : World) (P h wt k : Nat) (s11 s12 s13 : Value) (wr : World) : Prop := ∃ (m0 : Nat) (q : Nd) (bad asked : Bool) (node master : Nat), s11 = .bool asked ∧ s12 = .int .i64 node ∧ s13 = .int .i64 master ∧ Hv h wt k m0 q bad asked node master ∧ PaceE wr w1.heap.size P (pH h wt m0 q bad) ∧ Below w1.heap.size w1 wr
def HoldLoop (w1 : World) (P h wt len g : Nat) (s11 s12 s13 s14 : Value) (wr : World) : Prop := ∃ k : Nat, s14 = .int .i64 k ∧ k + g = len ∧ k ≤ 80 ∧ HoldAt w1 P h wt k s11 s12 s13 wr
set_option maxHeartbeats 4000000 in
set_option maxRecDepth 100000 in
theorem hold_walk (hd wd : Nat) (l : List (Int × Int)) (a : Option Addr) (len cap : Nat) (w : World) (h1 : hd < 256) (h2 : wd < 256) (hlen : len ≤ maxLen) (hl : l.length = len) (hf : ∀ x ∈ l, act8F x) (hA : 0 < len → act8R.At w (.slice a len cap) l) :
    Calls Try.prog 6 #[.int .u8 hd, .int .u8 wd, .slice a len cap] w fun e w' => e = .returned (.bool true) ∧ Below w.heap.size w w' := by
  unfold maxLen at hlen
  have HA := Lib.hid hA
  have HF := Lib.hid hf
  have HL := Lib.hid hl
  obtain ⟨h, hh⟩ : ∃ h : Nat, 1 + hd % 20 = h := ⟨_, rfl⟩
  obtain ⟨wt, hwt⟩ : ∃ x : Nat, 1 + wd % 20 = x := ⟨_, rfl⟩
  have hb1 : 1 ≤ h ∧ h ≤ 20 := by omega
  have hb2 : 1 ≤ wt ∧ wt ≤ 20 := by omega
  have e1 : 1 + (hd : Int) % 20 = h := by omega
  have e2 : 1 + (wd : Int) % 20 = wt := by omega
  clear hA hf hl hh hwt
  go_enter Try.func6, Try.ntmps6
  go_upto_region 8 with (first
    | (go_at_call 22; (refine (speaks8 _).mono ?_); rintro en w1 ⟨rfl, hB⟩; have HB1 := Lib.hid hB; clear hB)
    | (go_at_call 23; (refine (New_ok 2 2 h wt _ (by decide) (by decide) (by decide) (by decide) (by omega) (by omega) (by omega) (by omega)).mono ?_); rintro en w2 ⟨P, hP, rfl, hA, hB⟩; have HP := Lib.hid hP; have HA2 := Lib.hid hA; have HB2 := Lib.hid hB; clear hP hA hB))
  have HST : Hid (HoldLoop w1 P h wt len len (.bool false) (.int .i64 0) (.int .i64 0) (.int .i64 0) w2) := Lib.hid ⟨0, rfl, Nat.zero_add _, by decide, 0, ⟨0, []⟩, false, false, 0, 0, rfl, rfl, rfl, Hv.start h wt, HA2.out, HB2.out⟩
  clear HA2 HB2 e1 e2
  have hw1 : w.heap.size ≤ w1.heap.size := HB1.out.size
  go_wp2_with fail
  go_loopg [11, 12, 13, 14] len (fun g s11 s12 s13 s14 wr => HoldLoop w1 P h wt len g s11 s12 s13 s14 wr)
  case atStart => exact HST.out
  case round =>
    obtain ⟨k, rfl, hkg, hk80, m0, q, bad, asked, node, master, rfl, rfl, rfl, hv, hpe, hBw⟩ := hrel
    clear HST
    have HV := Lib.hid hv
    have HPE := Lib.hid hpe
    have HBW := Lib.hid hBw
    clear hv hpe hBw
    by_cases hlk : k < len ∧ k < 80
    · obtain ⟨hlk, hk1⟩ := hlk
      have hkd : decide ((k : Int) < 80) = true := by simp; omega
      have hkl : k < l.length := by rw [HL.out]; exact hlk
      obtain ⟨b, off, cc, he, hbw, hcells⟩ := ((HA.out (by omega))).form (by omega)
      simp only [Value.slice.injEq] at he
      obtain ⟨rfl, hnn, rfl⟩ := he
      clear hnn
      have x0 := hcells k hkl 0 _ rfl
      have x1 := hcells k hkl 1 _ rfl
      have hx := HF.out _ (List.getElem_mem hkl)
      obtain ⟨x, hxx⟩ : ∃ x, l[k] = x := ⟨_, rfl⟩
      rw [hxx] at x0 x1 hx
      clear hxx hcells
      obtain ⟨xw, xi⟩ := x
      obtain ⟨⟨g1, g2⟩, ⟨g3, g4⟩⟩ := hx
      simp only at g1 g2 g3 g4
      replace x0 : w.cell? ⟨b, off + k * 2, none⟩ = some (.int .i64 xw) := x0
      replace x1 : w.cell? ⟨b, off + k * 2 + 1, none⟩ = some (.int .i64 xi) := x1
      have hBw1 : Below w.heap.size w wr := HB1.out.trans (HBW.out.mono hw1)
      replace x0 := (hBw1.cell (p := ⟨b, off + k * 2, none⟩) hbw).trans x0
      replace x1 := (hBw1.cell (p := ⟨b, off + k * 2 + 1, none⟩) hbw).trans x1
      clear hBw1
      have hfine : (pH h wt m0 q bad).fine 100 := HV.out.fine (by omega) (by omega) (by omega)
      have HFI := Lib.hid hfine
      have hml : Hid (0 < (pH h wt m0 q bad).ms.length) := Lib.hid (by simp [pH])
      have hnl : Hid (1 < (pH h wt m0 q bad).ns.length) := Lib.hid (by simp [pH])
      have hnm := HV.out.nd
      have hbs : w1.heap.size ≤ wr.heap.size := HBW.out.size
      clear hfine
      obtain ⟨q4, hq4⟩ : ∃ q4, xw.tmod 4 = q4 := ⟨_, rfl⟩
      have hq41 : -4 < q4 := by rw [← hq4]; exact Int.lt_tmod_of_pos xw (by decide)
      have hq42 : q4 < 4 := by rw [← hq4]; exact Int.tmod_lt_of_pos xw (by decide)
      obtain ⟨v4, hv4⟩ : ∃ v, (q4 + 4) % 4 = v := ⟨_, rfl⟩
      have HV4 : Hid (v4 = 0 ∨ v4 = 1 ∨ v4 = 2 ∨ v4 = 3) := Lib.hid (by omega)
      go_upto_block 2 with fail
      first | rw [hv4] | skip
      clear hq4 hv4 hq41 hq42
      go_cut [11, 12, 13] (fun s11 s12 s13 wx => HoldAt w1 P h wt (k + 1) s11 s12 s13 wx)
      case first =>
        rcases HV4.out with rfl | rfl | rfl | rfl
        · obtain ⟨bad', hm, hv'⟩ := HV.out.master
          have HM := Lib.hid hm
          have HV' := Lib.hid hv'
          clear hm hv'
          go_wp2_with (go_at_call 25; (refine (Master_yes w1.heap.size P (pH h wt m0 q bad) 0 100 _ HPE.out HFI.out (by decide) HP.out hml.out).mono ?_); rw [HM.out]; rintro en w5 ⟨rfl, hA, hB, _⟩; have HA5 := Lib.hid hA; have HB5 := Lib.hid (HBW.out.trans hB); clear hA hB)
          go_meet
          exact ⟨_, _, _, _, _, _, rfl, rfl, by go_num, HV'.out, HA5.out, HB5.out⟩
        · have HN := Lib.hid HV.out.node
          go_wp2_with (go_at_call 26; (refine (Node_yes w1.heap.size P (pH h wt m0 q bad) 1 100 _ HPE.out HFI.out (by decide) hbs hnl.out).mono ?_); rw [HN.out.1]; rintro en w5 ⟨rfl, hA, hB, _⟩; have HA5 := Lib.hid hA; have HB5 := Lib.hid (HBW.out.trans hB); clear hA hB)
          go_meet
          exact ⟨_, _, _, _, _, _, rfl, by go_num, rfl, HN.out.2, HA5.out, HB5.out⟩
        · obtain ⟨q', hm, hv1, hv2⟩ := HV.out.ask' hb2.1
          have HM := Lib.hid hm
          clear hm
          cases asked with
          | true =>
            have HV1 := Lib.hid (hv1 rfl)
            clear hv1 hv2
            go_wp2_with (go_at_call 27; (refine (Ask_any w1.heap.size P (pH h wt m0 q bad) 1 100 _ HPE.out HFI.out (by decide) hbs hnl.out).mono ?_); rw [HM.out]; rintro en w5 ⟨rfl, hA, hB, _⟩; have HA5 := Lib.hid hA; have HB5 := Lib.hid (HBW.out.trans hB); clear hA hB)
            go_meet
            exact ⟨_, _, _, _, _, _, rfl, rfl, rfl, HV1.out, HA5.out, HB5.out⟩
          | false =>
            have HV2 := Lib.hid (hv2 rfl)
            clear hv1 hv2
            go_wp2_with (go_at_call 27; (refine (Ask_any w1.heap.size P (pH h wt m0 q bad) 1 100 _ HPE.out HFI.out (by decide) hbs hnl.out).mono ?_); rw [HM.out]; rintro en w5 ⟨rfl, hA, hB, _⟩; have HA5 := Lib.hid hA; have HB5 := Lib.hid (HBW.out.trans hB); clear hA hB)
            go_meet
            exact ⟨_, _, _, _, _, _, rfl, rfl, rfl, HV2.out, HA5.out, HB5.out⟩
        · go_upto_if 57 with fail
          generalize (bits BinOp.and IntKind.i64 xi 7 == 0) = b7
          cases b7 with
          | true =>
            have HS := Lib.hid HV.out.stop
            go_wp2_with (go_at_call 28; (refine (Stop_yes w1.heap.size P (pH h wt m0 q bad) 1 100 _ HPE.out HFI.out hnl.out).mono ?_); rw [HS.out.1]; rintro en w7 ⟨rfl, hA, hB, _⟩; have HA7 := Lib.hid hA; have HB7 := Lib.hid (HBW.out.trans hB); clear hA hB)
            go_meet
            exact ⟨_, _, _, _, _, _, rfl, rfl, rfl, HS.out.2, HA7.out, HB7.out⟩
          | false =>
            go_wp2
            go_meet
            exact ⟨_, _, _, _, _, _, rfl, rfl, rfl, HV.out.more, HPE.out, HBW.out⟩
      case rest =>
        obtain ⟨m2, q2, bad2, asked2, node2, master2, rfl, rfl, rfl, hv2, hpe2, hB2⟩ := hcut
        clear HV HPE HBW HFI hbs x0 x1
        have HV := Lib.hid hv2
        have HPE := Lib.hid hpe2
        have HBW := Lib.hid hB2
        have hnm2 := hv2.nd
        have hbad := hv2.bad
        clear hv2 hpe2 hB2
        have HBAD := Lib.hid hbad
        clear hbad
        by_cases hask : asked2 = true
        · subst hask
          have HB2 := HBAD
          by_cases hnh : node2 < h
          · have d2 : decide ((node2 : Int) < h) = true := by simp; omega
            have d3 : decide ((h : Int) ≤ node2) = false := by simp; omega
            by_cases hmw : wt ≤ master2
            · have d1 : decide ((wt : Int) ≤ master2) = true := by simp; omega
              have hbt : bad2 = true := HBAD.out rfl hnh hmw
              subst hbt
              go_wp2_with (go_at_call 24; (refine (Fair_is w1.heap.size P (pH h wt m2 q2 true) false _ HPE.out rfl).mono ?_); rintro en w6 ⟨rfl, rfl⟩)
              go_roundg (len - (k + 1))
              case measure => omega
              case rel => exact ⟨k + 1, by go_num, by omega, by omega, m2, q2, true, true, node2, master2, rfl, rfl, rfl, HV.out, HPE.out, HBW.out⟩
            · have d1 : decide ((wt : Int) ≤ master2) = false := by simp; omega
              cases bad2
              all_goals
                go_wp2_with (go_at_call 24; (refine (Fair_is w1.heap.size P (pH h wt m2 q2 _) _ _ HPE.out rfl).mono ?_); rintro en w6 ⟨rfl, rfl⟩)
                go_roundg (len - (k + 1))
                case measure => omega
                case rel => exact ⟨k + 1, by go_num, by omega, by omega, m2, q2, _, true, node2, master2, rfl, rfl, rfl, HV.out, HPE.out, HBW.out⟩
          · have d2 : decide ((node2 : Int) < h) = false := by simp; omega
            have d3 : decide ((h : Int) ≤ node2) = true := by simp; omega
            by_cases hmw : wt ≤ master2
            · have d1 : decide ((wt : Int) ≤ master2) = true := by simp; omega
              cases bad2
              all_goals
                go_wp2_with (go_at_call 24; (refine (Fair_is w1.heap.size P (pH h wt m2 q2 _) _ _ HPE.out rfl).mono ?_); rintro en w6 ⟨rfl, rfl⟩)
                go_roundg (len - (k + 1))
                case measure => omega
                case rel => exact ⟨k + 1, by go_num, by omega, by omega, m2, q2, _, false, node2, master2, rfl, rfl, rfl, HV.out.off, HPE.out, HBW.out⟩
            · have d1 : decide ((wt : Int) ≤ master2) = false := by simp; omega
              cases bad2
              all_goals
                go_wp2_with (go_at_call 24; (refine (Fair_is w1.heap.size P (pH h wt m2 q2 _) _ _ HPE.out rfl).mono ?_); rintro en w6 ⟨rfl, rfl⟩)
                go_roundg (len - (k + 1))
                case measure => omega
                case rel => exact ⟨k + 1, by go_num, by omega, by omega, m2, q2, _, false, node2, master2, rfl, rfl, rfl, HV.out.off, HPE.out, HBW.out⟩
        · have hask2 : asked2 = false := by simpa using hask
          subst hask2
          by_cases hnh : node2 < h
          · have d3 : decide ((h : Int) ≤ node2) = false := by simp; omega
            cases bad2
            all_goals
              go_wp2_with (go_at_call 24; (refine (Fair_is w1.heap.size P (pH h wt m2 q2 _) _ _ HPE.out rfl).mono ?_); rintro en w6 ⟨rfl, rfl⟩)
              go_roundg (len - (k + 1))
              case measure => omega
              case rel => exact ⟨k + 1, by go_num, by omega, by omega, m2, q2, _, false, node2, master2, rfl, rfl, rfl, HV.out, HPE.out, HBW.out⟩
          · have d3 : decide ((h : Int) ≤ node2) = true := by simp; omega
            cases bad2
            all_goals
              go_wp2_with (go_at_call 24; (refine (Fair_is w1.heap.size P (pH h wt m2 q2 _) _ _ HPE.out rfl).mono ?_); rintro en w6 ⟨rfl, rfl⟩)
              go_roundg (len - (k + 1))
              case measure => omega
              case rel => exact ⟨k + 1, by go_num, by omega, by omega, m2, q2, _, false, node2, master2, rfl, rfl, rfl, HV.out, HPE.out, HBW.out⟩
    · have hcase : (¬ k < len) ∨ (k < len ∧ ¬ k < 80) := by omega
      rcases hcase with hc | ⟨hc, hc2⟩
      all_goals
        go_wp2
        go_ret
        exact ⟨rfl, HB1.out.trans (HBW.out.mono hw1)⟩
end Go.Proofs.Ytlphlmpfjpombaa
