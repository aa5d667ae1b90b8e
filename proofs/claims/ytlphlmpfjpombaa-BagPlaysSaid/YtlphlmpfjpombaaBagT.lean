/-
  The walk of the reference's Spoil of layer 7.
-/
import Derived.Test.YtlphlmpfjpombaaBagR
namespace Go.Proofs.Ytlphlmpfjpombaa
open Go.RowKit Go.Instr

set_option maxHeartbeats 1000000 in
theorem refSpoil_out (a : Option Addr) (n cap : Nat) (i at_ : Int) (x : Nat) (w : World) (hi : i < 0 ∨ (n : Int) ≤ i) :
    Calls Try.prog 14 #[.slice a n cap, .int .i64 i, .int .i64 at_, .int .u32 x] w fun e w' => e = .returned (.tuple #[.slice a n cap, .bool false]) ∧ w = w' := by
  rcases hi with hi | hi
  · have hd : decide (i < 0) = true := by simpa using hi
    go_enter Try.func14, Try.ntmps14
    go_wp2
    exact bodyPost_ret (by simp [results, Try.results14, go_sem]) rfl ⟨rfl, rfl⟩
  · have hd : decide (i < 0) = false := by simp; omega
    have hd2 : decide ((n : Int) ≤ i) = true := by simpa using hi
    have hn : ¬ i < 0 := by omega
    go_enter Try.func14, Try.ntmps14
    go_wp2
    exact bodyPost_ret (by simp [results, Try.results14, go_sem]) rfl ⟨rfl, rfl⟩
set_option maxHeartbeats 1000000 in
theorem refSpoil_bad (s : Value) (l : List Msg) (i : Nat) (at_ : Int) (x : Nat) (w : World) (hs : msgR.At w s l) (hi : i < l.length) (hbad : l[i].bad = true) :
    Calls Try.prog 14 #[s, .int .i64 i, .int .i64 at_, .int .u32 x] w fun e w' => e = .returned (.tuple #[s, .bool false]) ∧ w = w' := by
  obtain ⟨b, off, cap, rfl, hb, hc⟩ := hs.form (by omega)
  have q2 : w.cell? ⟨b, off + i * 3 + 2, none⟩ = some (.bool l[i].bad) := hc i hi 2 _ rfl
  rw [hbad] at q2
  clear hc hs hbad
  obtain ⟨n, hn⟩ : ∃ n, n = l.length := ⟨_, rfl⟩
  rw [← hn] at hi ⊢
  clear hn
  have hd2 : decide ((n : Int) ≤ i) = false := by simp; omega
  have hi' : (i : Int) < n := by omega
  go_enter Try.func14, Try.ntmps14
  go_wp2
  exact bodyPost_ret (by simp [results, Try.results14, go_sem]) rfl ⟨rfl, rfl⟩
/-- What the reference's Spoil leaves. -/
def RefS (w : World) (l : List Msg) (e : Ending) (w' : World) : Prop := ∃ v, e = .returned (.tuple #[v, .bool true]) ∧ msgR.Own 33 w' w.heap.size v l ∧ Below w.heap.size w w'
set_option maxHeartbeats 4000000 in
theorem refSpoil_yes (s : Value) (l : List Msg) (m : Msg) (i : Nat) (at_ : Int) (x : Nat) (w : World) (hl : l.length ≤ 200) (hs : msgR.At w s l) (hi : i < l.length) (hm : l[i] = m) (hbad : m.bad = false) (h1 : -9223372036854775808 ≤ at_) (h2 : at_ ≤ 9223372036854775807) (hx : x < 4294967296) (ht : m.text.size ≤ 1000) :
    Calls Try.prog 14 #[s, .int .i64 i, .int .i64 at_, .int .u32 x] w (RefS w (l.set i ⟨m.d, turnB m.text at_ x, true⟩)) := by
  have HS := Lib.hid hs
  obtain ⟨b, off, cap, rfl, hb, hc⟩ := hs.form (by omega)
  obtain ⟨md, mt, mb⟩ := m
  simp only at hbad ht
  subst hbad
  obtain ⟨q0, q1, q2⟩ := cells3 (o := off + i * 3) (fun j u hu => by rw [Nat.add_assoc]; exact hc i hi j u hu)
  rw [hm] at q0 q1 q2
  have HQ0 := Lib.hid q0
  have HQ1 := Lib.hid q1
  have HM := Lib.hid hm
  have HI0 := Lib.hid hi
  clear hc hs hm
  obtain ⟨i0, hi0, hz0, hz1, hz2⟩ := infoP33
  have HI := Lib.hid (And.intro hi0 (And.intro hz0 (And.intro hz1 hz2)))
  clear hi0 hz0 hz1 hz2
  have hrow : Hid (∀ j u, (msgR.row l)[j]? = some u → w.cell? ⟨b, off + j, none⟩ = some u) := Lib.hid (by
    rcases HS.out with ⟨h, _⟩ | ⟨b', off', cap', he, _, hc⟩
    · cases h
    · simp only [Value.slice.injEq, Option.some.injEq, Addr.mk.injEq, and_true] at he
      obtain ⟨⟨rfl, rfl⟩, _, rfl⟩ := he
      exact hc)
  have hrl : Hid ((msgR.row l).length = l.length * 3) := Lib.hid (by rw [RK.row_len]; rfl)
  obtain ⟨n, hn⟩ : ∃ n, n = l.length := ⟨_, rfl⟩
  rw [← hn] at hi hl hrl ⊢
  have HN := Lib.hid hn
  clear hn HS
  have hd2 : decide ((n : Int) ≤ i) = false := by simp; omega
  have hi' : (i : Int) < n := by omega
  go_enter Try.func14, Try.ntmps14
  go_wp2_with (at_builtin; refine wpList_append_own1 _ rfl _ _ 26 rfl w.heap.size 33 i0 _ 3 32 Try.underlying26 HI.out.1 HI.out.2.1 HI.out.2.2.1 HI.out.2.2.2 rfl (by decide) _ 0 [] rfl (World.ownsRow_made w #[] 0 (Nat.le_refl _) (Nat.zero_le _) (by simp)) ⟨b, off, none⟩ n cap (msgR.row l) rfl hrl.out ?qc2 (msgR.row_ones l) (by unfold maxLen; omega) (by omega) (by simp) (by omega) ?_)
  case qc2 =>
    intro j u hj
    exact hrow.out j u hj
  intro g cap' w3 hg hown hgrow
  have hO : msgR.Own 33 w3 w.heap.size (.slice (some ⟨g, 0, none⟩) n cap') l := by
    unfold RK.Own
    rw [← HN.out]
    exact hown
  have HB3 : Hid (Below w.heap.size w w3) := Lib.hid (((Below.refl _ w).alloc (Nat.le_refl _) _).grown hgrow (by simp) (fun k hk => by simp [Value.ownBlock] at hk; omega))
  have HO := Lib.hid hO
  have hgw : g < w3.heap.size := (World.ownsRow.lt hO g rfl).2
  obtain ⟨g', cap2, e2, _, _, hnc, _, hfz, hcl⟩ := hO.form (by rw [← HN.out]; omega)
  simp only [Value.slice.injEq, Option.some.injEq, Addr.mk.injEq, and_true] at e2
  obtain ⟨rfl, hnl, rfl⟩ := e2
  clear hnl
  rw [← HN.out] at hnc
  have hf0 := (hfz (i * 3) (show _ < cap' * 3 by omega))
  have hf1 := (hfz (i * 3 + 1) (show _ < cap' * 3 by omega))
  have hf2 := (hfz (i * 3 + 2) (show _ < cap' * 3 by omega))
  obtain ⟨y0, y1, y2⟩ := cells3 (o := i * 3) (fun j u hu => hcl i HI0.out j u hu)
  rw [HM.out] at y0 y1 y2
  have HY := Lib.hid (And.intro y0 (And.intro y1 y2))
  have HF := Lib.hid (And.intro hf0.2 (And.intro hf1.2 hf2.2))
  have hbw : b < w3.heap.size := by have := HB3.out.size; omega
  have z0 := (HB3.out.cell (p := ⟨b, off + i * 3, none⟩) hb).trans HQ0.out
  have z1 := (HB3.out.cell (p := ⟨b, off + i * 3 + 1, none⟩) hb).trans HQ1.out
  have HZ := Lib.hid (And.intro z0 z1)
  have hbg : b ≠ g := by omega
  have hgb : g ≠ b := by omega
  clear hown hgrow hfz hcl hf0 hf1 hf2 y0 y1 y2 hO q0 q1 q2
  go_upto_region 4 with fail
  go_region_held3 (fun w' => w'.cell? ⟨b, off + i * 3, none⟩ = some (.int .u8 md) ∧ w'.cell? ⟨b, off + i * 3 + 1, none⟩ = some (.string mt)) (go_keep)
    ((go_at_call 34; (with_reducible refine Calls.mono (refTurn_any mt at_ x _ (by omega) h1 h2 hx) ?_); rintro en w4 ⟨rfl, hB4⟩; have hbx := (Below.trans (b := _) (by go_grown) (hB4.mono (by simp)) : Below w3.heap.size w3 w4); have HB4 := Lib.hid hbx; have x0 := (hbx.cell (p := ⟨b, off + i * 3, none⟩) hbw).trans HZ.out.1; have x1 := (hbx.cell (p := ⟨b, off + i * 3 + 1, none⟩) hbw).trans HZ.out.2; have y0 := (hbx.cell (p := ⟨g, i * 3, none⟩) hgw).trans HY.out.1; have y1 := (hbx.cell (p := ⟨g, i * 3 + 1, none⟩) hgw).trans HY.out.2.1; have y2 := (hbx.cell (p := ⟨g, i * 3 + 2, none⟩) hgw).trans HY.out.2.2; have f0 := (hbx.frozen (p := ⟨g, i * 3, none⟩) hgw).trans HF.out.1; have f1 := (hbx.frozen (p := ⟨g, i * 3 + 1, none⟩) hgw).trans HF.out.2.1; have f2 := (hbx.frozen (p := ⟨g, i * 3 + 2, none⟩) hgw).trans HF.out.2.2; clear hB4 hbx))
  all_goals
    go_wp2_with fail
    have hO4 := HO.out.on HB4.out
    have hO5 := hO4.put i 0 HI0.out (by decide) ⟨md, mt, false⟩ (.int .u8 md) (by rw [HM.out]; rfl)
    have hO6 := hO5.put i 1 (by rw [List.length_set]; exact HI0.out) (by decide) ⟨md, turnB mt at_ x, false⟩ (.string (turnB mt at_ x)) (by rw [List.getElem_set_self]; rfl)
    have hO7 := hO6.put i 2 (by rw [List.length_set, List.length_set]; exact HI0.out) (by decide) ⟨md, turnB mt at_ x, true⟩ (.bool true) (by rw [List.getElem_set_self]; rfl)
    rw [List.set_set, List.set_set] at hO7
    refine bodyPost_ret (by simp [results, Try.results14, go_sem]) rfl ⟨_, rfl, hO7, ?_⟩
    have hb := HB3.out.trans (HB4.out.mono HB3.out.size)
    exact ((hb.setCell (p := ⟨g, i * 3, none⟩) hg _).setCell (p := ⟨g, i * 3 + 1, none⟩) hg _).setCell (p := ⟨g, i * 3 + 2, none⟩) hg _
end Go.Proofs.Ytlphlmpfjpombaa
