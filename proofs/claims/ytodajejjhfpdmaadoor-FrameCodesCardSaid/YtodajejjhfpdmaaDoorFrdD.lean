/-
  Frame's decoder: entries.
-/
import Derived.Test.YtodajejjhfpdmaaDoorFrdC
namespace Go.Proofs.YtodajejjhfpdmaaDoor
open Go.RowKit Go.Instr

theorem onesE (a b c d e f g h : Value) (ha : a.oneCell' = true) (hb : b.oneCell' = true) (hc : c.oneCell' = true) (hd : d.oneCell' = true) (he : e.oneCell' = true) (hf : f.oneCell' = true) (hg : g.oneCell' = true) (hh : h.oneCell' = true) : ∀ u ∈ [a, b, c, d, e, f, g, h], u.oneCell' = true := by
  intro u hu
  simp only [List.mem_cons, List.not_mem_nil, or_false] at hu
  rcases hu with rfl | rfl | rfl | rfl | rfl | rfl | rfl | rfl
  all_goals assumption
theorem onesM (a b c : Value) (ha : a.oneCell' = true) (hb : b.oneCell' = true) (hc : c.oneCell' = true) : ∀ u ∈ [a, b, c], u.oneCell' = true := by
  intro u hu
  simp only [List.mem_cons, List.not_mem_nil, or_false] at hu
  rcases hu with rfl | rfl | rfl
  all_goals assumption
def entR : RK Ent := { f := fun x => [.int .u32 x.s, .int .u32 x.n, .int .u8 x.b, .int .u8 x.c.k, .int .u8 x.c.n, .int .u8 x.c.l, .int .u32 x.c.e, .int .u32 x.c.r], c := 8, pos := by decide, len := fun _ => rfl, one := fun _ => onesE _ _ _ _ _ _ _ _ rfl rfl rfl rfl rfl rfl rfl rfl }
def memR : RK Mem := { f := fun x => [.int .u8 x.n, .int .u8 x.l, .bool x.r], c := 3, pos := by decide, len := fun _ => rfl, one := fun _ => onesM _ _ _ rfl rfl rfl }
theorem Tryd.infoEnt : (Tryd.prog.info? 81).map (fun i => (i.zero, i.size, i.bytes)) = some (some (.agg #[.int .u32 0, .int .u32 0, .int .u8 0, .int .u8 0, .int .u8 0, .int .u8 0, .int .u32 0, .int .u32 0]), 8, 24) := by kernel_rfl
theorem Tryd.infoMem : (Tryd.prog.info? 75).map (fun i => (i.zero, i.size, i.bytes)) = some (some (.agg #[.int .u8 0, .int .u8 0, .bool false]), 3, 3) := by kernel_rfl
theorem infoPE : ∃ i, Tryd.prog.info? 81 = some i ∧ i.zero = some (.agg #[.int .u32 0, .int .u32 0, .int .u8 0, .int .u8 0, .int .u8 0, .int .u8 0, .int .u32 0, .int .u32 0]) ∧ i.size = 8 ∧ i.bytes = 24 := by
  cases hi : Tryd.prog.info? 81 with
  | none => have h := Tryd.infoEnt; simp [hi] at h
  | some i => have h := Tryd.infoEnt; simp [hi] at h; exact ⟨i, rfl, h.1, h.2.1, h.2.2⟩
theorem infoPM : ∃ i, Tryd.prog.info? 75 = some i ∧ i.zero = some (.agg #[.int .u8 0, .int .u8 0, .bool false]) ∧ i.size = 3 ∧ i.bytes = 3 := by
  cases hi : Tryd.prog.info? 75 with
  | none => have h := Tryd.infoMem; simp [hi] at h
  | some i => have h := Tryd.infoMem; simp [hi] at h; exact ⟨i, rfl, h.1, h.2.1, h.2.2⟩
theorem DQ.grown {base D B : Nat} {w w1 w2 : World} {s : Sd} {row : Option Nat} (h : DQ base D B w s w1) (hD : D < w.heap.size) (hB : B < w.heap.size) (hbw : base ≤ w.heap.size) (hg : w1.grownBy w2 row) (hr : ∀ k, row = some k → w.heap.size ≤ k) : DQ base D B w s w2 := by
  have hs := h.size
  refine ⟨⟨(hg.block D (by omega) (fun e => by have := hr D e.symm; omega)).trans h.1.1, (hg.block B (by omega) (fun e => by have := hr B e.symm; omega)).trans h.1.2.1, h.1.2.2⟩, h.2.1.grown hg (Nat.le_trans hbw hs) (fun k e => Nat.le_trans hbw (hr k e)), ⟨Nat.le_trans hs hg.size, fun k hk h1 h2 => ?_⟩⟩
  exact (hg.block k (by omega) (fun e => by have := hr k e.symm; omega)).trans (h.2.2.2 k hk h1 h2)
/-- A row of the call's own behind a decoder's method. -/
theorem own_kd {α : Type} {R : RK α} {E : TypeId} {base b0 D B : Nat} {w w' : World} {s s' : Sd} {v : Value} {l : List α} (h : R.Own E w b0 v l) (hd : DecAt w D B s) (k : DecAt w' D B s' ∧ Below base w w' ∧ KD D B w w') (h1 : E ≠ 100) (h2 : E ≠ 134) : R.Own E w' b0 v l :=
  h.block fun g hg => k.2.2.2 g (World.ownsRow.lt h g hg).2 (fun e => own_ne h hd.1 h1 (by rw [hg, e])) (fun e => own_ne h hd.2.1 h2 (by rw [hg, e]))
def DEntLoop (base D B : Nat) (w : World) (s1 : Sd) (n : Nat) (i v : Value) (wr : World) : Prop :=
  ∃ k : Nat, k ≤ n ∧ i = .int .i64 k ∧ DQ base D B w (dEnts s1 k).2 wr ∧ entR.Own 81 wr w.heap.size v (dEnts s1 k).1
/-- What the reading of a list leaves. -/
def EntsP (base D B : Nat) (w : World) (l : List Ent) (s : Sd) (e : Ending) (w' : World) : Prop :=
  ∃ v, e = .returned v ∧ DQ base D B w s w' ∧ entR.Own 81 w' w.heap.size v l
theorem newsE {w : World} {X : Nat} {x : Ent} (h : Blk w X #[.int .u32 x.s, .int .u32 x.n, .int .u8 x.b, .int .u8 x.c.k, .int .u8 x.c.n, .int .u8 x.c.l, .int .u32 x.c.e, .int .u32 x.c.r] 81) : ∀ j u, (entR.f x)[j]? = some u → w.cell? ((⟨X, 0, none⟩ : Addr).add j) = some u := by
  intro j u hu
  have e : (⟨X, 0, none⟩ : Addr).add j = ⟨X, j, none⟩ := by unfold Addr.add; split <;> simp_all
  rw [e, h.cell j]
  simpa [entR] using hu
set_option maxHeartbeats 2000000 in
theorem dentries_any {base D B : Nat} {s : Sd} {w : World} (h : DecAt w D B s) (hb : base ≤ B) (hbD : base ≤ D) :
    Calls Tryd.prog 63 #[.pointer (some ⟨D, 0, none⟩)] w (EntsP base D B w (dEntries s).1 (dEntries s).2) := by
  have hbw : base ≤ w.heap.size := Nat.le_trans hb (Nat.le_of_lt h.ltB)
  have hDB := Lib.hid (And.intro h.1.lt h.ltB)
  obtain ⟨i0, hi0, hz0, hz1, hz2⟩ := infoPE
  have HI := Lib.hid (And.intro hi0 (And.intro hz0 (And.intro hz1 hz2)))
  have H1 := Lib.hid (dcount_any (base := base) 16 16 rfl h hb hbD)
  have hn16 := dCount_le 16 s
  unfold dEntries
  generalize hp : dCount 16 s = p at H1 hn16 ⊢
  obtain ⟨n, s1⟩ := p
  simp only at H1 hn16 ⊢
  clear h hp hi0 hz0 hz1 hz2
  go_enter Tryd.func63, Tryd.ntmps63
  go_wp2_with fail
  with_reducible refine H1.out.mono ?_
  rintro e w2 ⟨rfl, q2⟩
  have HST : Hid (DEntLoop base D B w s1 n (.int .i64 0) (.slice none 0 0) w2) := Lib.hid ⟨0, Nat.zero_le _, rfl, q2, World.ownsRow_nil _ _ _ _⟩
  clear H1 q2
  go_wp2_with fail
  go_loopw [6, 3] (fun i v wr => DEntLoop base D B w s1 n i v wr) (fun i _ _ => n - (intOf i).toNat)
  case atStart => exact HST.out
  case round =>
    obtain ⟨k, hk, rfl, hq, ho⟩ := hrel
    have HQ := Lib.hid hq
    have HO := Lib.hid ho
    have hl := dEnts_len s1 k
    have hle : (dEnts s1 (k + 1)) = ((dEnts s1 k).1 ++ [(dEnt (dEnts s1 k).2).1], (dEnt (dEnts s1 k).2).2) := rfl
    generalize hpk : dEnts s1 k = pk at HQ HO hl hle
    obtain ⟨lk, sk⟩ := pk
    simp only at HQ HO hl hle
    have HL := Lib.hid hle
    have HPK := Lib.hid hpk
    clear HST hq ho hle hpk
    by_cases hlt : k < n
    · have H4 := Lib.hid (dfour_any (base := base) HQ.out.1 hb)
      go_wp2_with fail
      with_reducible refine H4.out.mono ?_
      rintro e w4 ⟨rfl, q4⟩
      have Q4 := Lib.hid (HQ.out.call q4)
      have O4 := Lib.hid (own_kd HO.out HQ.out.1 q4 (by decide) (by decide))
      have H5 := Lib.hid (dballot_any (base := base) Q4.out.1 hb hbD)
      clear H4 q4 HQ HO
      go_wp2_with fail
      with_reducible refine H5.out.mono ?_
      rintro e w5 ⟨rfl, q5⟩
      have Q5 := Lib.hid (Q4.out.call q5)
      have O5 := Lib.hid (own_kd O4.out Q4.out.1 q5 (by decide) (by decide))
      have H6 := Lib.hid (dcommand_any (base := base) Q5.out.1 hb hbD)
      clear H5 q5 Q4 O4
      go_wp2_with fail
      with_reducible refine H6.out.mono ?_
      rintro e w6 ⟨rfl, q6⟩
      have Q6 := Lib.hid (Q5.out.call q6)
      have O6 := Lib.hid (own_kd O5.out Q5.out.1 q6 (by decide) (by decide))
      clear H6 q6 Q5 O5
      have hws := Q6.out.size
      obtain ⟨x, hx⟩ : ∃ x, x = (dEnt sk).1 := ⟨_, rfl⟩
      have x0 : (dFour sk).1 = x.s := by rw [hx]; rfl
      have x1 : (dMark (dFour sk).2).1.1 = x.n := by rw [hx]; rfl
      have x2 : (dMark (dFour sk).2).1.2 = x.b := by rw [hx]; rfl
      have x3 : (dCmd (dMark (dFour sk).2).2).1 = x.c := by rw [hx]; rfl
      have x4 : (dCmd (dMark (dFour sk).2).2).2 = (dEnt sk).2 := rfl
      rw [x4] at Q6
      simp only [x0, x1, x2, x3]
      rw [← hx] at HL
      clear x0 x1 x2 x3 x4 hx
      have OA := Lib.hid (O6.out.al (.cells #[.int .u32 x.s, .int .u32 x.n, .int .u8 x.b, .int .u8 x.c.k, .int .u8 x.c.n, .int .u8 x.c.l, .int .u32 x.c.e, .int .u32 x.c.r] 81))
      have NB := Lib.hid (Blk.new (w := w6) (B := w6.heap.size) (T := 81) (cs := #[.int .u32 x.s, .int .u32 x.n, .int .u8 x.b, .int .u8 x.c.k, .int .u8 x.c.n, .int .u8 x.c.l, .int .u32 x.c.e, .int .u32 x.c.r]) rfl)
      go_wp2_with (at_builtin; refine wpList_append_own1 _ rfl _ _ 45 rfl w.heap.size 81 i0 _ 8 24 Tryd.underlying45 HI.out.1 HI.out.2.1 HI.out.2.2.1 HI.out.2.2.2 rfl (by decide) _ _ _ rfl OA.out ⟨w6.heap.size, 0, none⟩ 1 1 (entR.f x) rfl rfl ?qn (entR.one x) (by unfold maxLen; omega) (by omega) (by simp; omega) (by decide) ?_)
      case qn => exact newsE NB.out
      intro g cap' w8 hg hown hgrow
      have hD' := hDB.out
      have Q8 := Lib.hid ((Q6.out.alloc hb (.cells #[.int .u32 x.s, .int .u32 x.n, .int .u8 x.b, .int .u8 x.c.k, .int .u8 x.c.n, .int .u8 x.c.l, .int .u32 x.c.e, .int .u32 x.c.r] 81)).grown hD'.1 hD'.2 hbw hgrow (fun j hj => (World.ownsRow.lt OA.out j hj).1))
      have HREL : Hid (DEntLoop base D B w s1 n (.int .i64 (k + 1)) (.slice (some ⟨g, 0, none⟩) (k + 1) cap') w8) := Lib.hid ⟨k + 1, hlt, by go_num, by rw [HL.out]; exact Q8.out, by
        rw [HL.out]
        unfold RK.Own
        rw [List.length_append, RK.row_snoc, hl]
        exact hown⟩
      clear hown hgrow Q6 O6 OA NB Q8
      go_wp2_with fail
      go_roundw
      case rel => exact HREL.out
      case measure => simp [intOf]; omega
    · obtain rfl : k = n := by omega
      go_wp2_with fail
      go_ret
      exact ⟨_, rfl, by rw [HPK.out]; exact HQ.out, by rw [HPK.out]; exact HO.out⟩
end Go.Proofs.YtodajejjhfpdmaaDoor
