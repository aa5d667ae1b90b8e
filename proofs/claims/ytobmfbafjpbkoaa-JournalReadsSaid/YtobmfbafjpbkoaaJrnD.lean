/-
  The walk of journal's Add where it adds; the reference's Framed and Records; the law's same.
-/
import Derived.Test.YtobmfbafjpbkoaaJrnC
import Derived.Test.YtobmfbafjpbkoaaOctI
import Derived.Test.YtobmfbafjpbkoaaCrcB
namespace Go.Proofs.Ytobmfbafjpbkoaa
open Go.RowKit Go.Instr

theorem DiskAt.grownS {wa w' : World} {base b0 B n : Nat} {k : Dk} {s : Value} {xs : List Value} (h : DiskAt wa base B k) (ho : wa.ownsRow b0 9 1 s n xs) (hg : wa.grownBy w' s.ownBlock) : DiskAt w' base B k := by
  obtain ⟨v, h1, h2⟩ := h
  refine ⟨v, h1.grown hg (fun e => own_ne ho h1 (by decide) e.symm), own_block h2 fun g hgb => ?_⟩
  have hlt := World.ownsRow.lt h2 g hgb
  refine hg.block g hlt.2 (fun e => ?_)
  rcases h2.2 with ⟨hn, _⟩ | ⟨g', cap, cur, he, _, hh, _⟩
  · rw [hn] at hgb; cases hgb
  · rw [he] at hgb
    simp only [Value.ownBlock, Option.some.injEq] at hgb
    subst hgb
    exact own_ne ho hh (by decide) e.symm
section
variable {w : World} {base B : Nat} {k : Dk}
def AddP (base b0 B J : Nat) (k : Dk) (l : List ByteArray) (x : ByteArray) (w : World) (e : Ending) (w' : World) : Prop :=
  e = .returned (.int .i64 0) ∧ JrnAt w' b0 B J (l ++ [x]) false ∧ DiskAt w' base B ⟨k.s ++ fr x, (k.s ++ fr x).size, true⟩ ∧ Below base w w' ∧ KeptB b0 w w'
set_option maxHeartbeats 2000000 in
theorem Add_on {J b0 : Nat} {l : List ByteArray} (x : ByteArray) (hj : JrnAt w b0 B J l false) (h : DiskAt w base B k) (hbw : base ≤ B) (hb0 : base ≤ b0) (hk : k.ok) (ho : k.on = true) (hx : okR x) (hf : k.s.size + (x.size + 6) ≤ 1048576) (hl : l.length ≤ 1000000) :
    Calls Try.prog 28 #[.pointer (some ⟨J, 0, none⟩), .string x] w (AddP base b0 B J k l x w) := by
  obtain ⟨q1, q2⟩ := str_facts x hx.1
  have h512 := hx.2
  have hd : decide (512 < x.size) = false := by simp; omega
  have hd2 : decide (512 < (x.size : Int)) = false := by simp; omega
  have HJ := Lib.hid hj
  have HD := Lib.hid h
  have HON := Lib.hid ho
  have HOK := Lib.hid hk
  have HF : Hid (k.s.size + (fr x).size ≤ 1048576) := Lib.hid (by rw [fr_size]; exact hf)
  have hJw := hj.lt
  have hBw := h.lt
  obtain ⟨h0, v, h1, h2⟩ := hj
  have c2 : w.cell? ⟨J, 2, none⟩ = some (.bool false) := h1.cell 2
  have HV := Lib.hid h1
  have HO := Lib.hid h2
  obtain ⟨n, hn⟩ : ∃ n, l.length = n := ⟨_, rfl⟩
  have HN := Lib.hid hn
  rw [hn] at hl
  obtain ⟨a, c, rfl⟩ := own_form h2
  simp only [hn] at HV HO
  obtain ⟨i0, hi, hz0, hz1, hz2⟩ := info_parts Try.info9
  have HI := Lib.hid (And.intro hi (And.intro hz0 (And.intro hz1 hz2)))
  clear h1 h2 hx h ho hk hn hi hz0 hz1 hz2 hf
  go_enter Try.func28, Try.ntmps28
  go_upto_region 11 with (first
    | (go_at_call 36; (refine (encode_fr x _ (by omega)).mono ?_); rintro en w1 ⟨rfl, hB1⟩; have HB1 := Lib.hid hB1; clear hB1)
    | (go_at_call 35; (refine (write_on (fr x) (HJ.out.on HB1.out) (HD.out.on HB1.out) hbw HOK.out HON.out HF.out).mono ?_); rintro en w2 ⟨rfl, hD2, hB2, hK2⟩; have HD2 := Lib.hid hD2; have HB2 := Lib.hid hB2; have HK2 := Lib.hid hK2; clear hD2 hB2 hK2))
  have hK : Kept w w2 := (Kept.of_below HB1.out).trans HK2.out
  have HK := Lib.hid hK
  have HV2 := Lib.hid (hK.blk HV.out (by decide) (by decide))
  have HO2 : Hid (w2.ownsRow b0 9 1 (.slice a n c) n (strR.row l)) := Lib.hid (by have := own_kept HO.out hK; unfold RK.Own at this; rw [HN.out] at this; exact this)
  have c1 : w2.cell? ⟨J, 1, none⟩ = some (.slice a n c) := HV2.out.cell 1
  have hw2 : w.heap.size ≤ w2.heap.size := hK.1
  have HBW : Hid (Below base w w2) := Lib.hid ((HB1.out.mono (by omega)).trans HB2.out)
  have HKB : Hid (KeptB b0 w w2) := Lib.hid (KeptB.of hK)
  clear c2 hK
  have HOA := Lib.hid (World.ownsRow.alloc HO2.out (.cells #[.string x] 9))
  have HVA := Lib.hid (HV2.out.alloc (.cells #[.string x] 9))
  have HDA := Lib.hid (HD2.out.on (w1 := w2.alloc (.cells #[.string x] 9)) (by go_grown))
  go_wp2_with (at_builtin; refine wpList_append_own1 _ rfl (.tmp 36) (.tmp 38) 44 rfl b0 9 i0 (.string ByteArray.empty) 1 16 Try.underlying44 HI.out.1 HI.out.2.1 HI.out.2.2.1 HI.out.2.2.2 rfl (by decide) (.slice a n c) n _ rfl HOA.out ⟨w2.heap.size, 0, none⟩ 1 1 [.string x] rfl rfl (cell_one _ _ _ _ rfl) (one_str x) (by unfold maxLen; omega) (by omega) (by simp; omega) (by decide) ?_; intro g3 c3 w3 hg3 hown3 hgr3; have HO3 := Lib.hid hown3; have HV3 := Lib.hid (HVA.out.grown hgr3 (fun e => own_ne HOA.out HVA.out (by decide) e.symm)); have HD3 := Lib.hid (HDA.out.grownS HOA.out hgr3); have HG3 := Lib.hid hgr3; have c1 : w3.cell? ⟨J, 1, none⟩ = some (.slice a n c) := HV3.out.cell 1; have f1 := HV3.out.frozen 1; clear hown3 hgr3)
  go_ret
  refine ⟨rfl, ⟨h0, .slice (some ⟨g3, 0, none⟩) (n + 1) c3, HV3.out.set 1 _ _ rfl, ?_⟩, HD3.out.setB HV3.out (by decide) (by decide), ?_, ?_⟩
  · have : strR.Own 9 w3 b0 (.slice (some ⟨g3, 0, none⟩) (n + 1) c3) (l ++ [x]) := by
      unfold RK.Own
      rw [List.length_append, RK.row_snoc, HN.out]
      exact HO3.out
    exact this.setB HV3.out (by decide)
  · refine ((HBW.out.alloc (by omega) _).grown HG3.out (by simp; omega) (fun j hj => ?_)).setCell (p := ⟨J, 1, none⟩) (by show base ≤ J; omega) _
    have := (World.ownsRow.lt HOA.out j hj).1
    omega
  · have k1 : Below b0 w2 (((w3).setCell ⟨J, 1, none⟩ (.slice (some ⟨g3, 0, none⟩) (n + 1) c3))) :=
      ((((Below.refl b0 w2).alloc (by omega) _).grown HG3.out (by simp; omega) (fun j hj => (World.ownsRow.lt HOA.out j hj).1))).setCell (p := ⟨J, 1, none⟩) h0 _
    exact HKB.out.trans (KeptB.below (k := 0) k1)
end
set_option maxHeartbeats 400000 in
theorem refFramed_any (x : ByteArray) (w : World) (hx : x.size ≤ 2000) : Calls Try.prog 23 #[.string x] w fun e w' => e = .returned (.string (fr x)) ∧ Below w.heap.size w w' := by
  have hb : oneB x.size 2 ++ x = body x := rfl
  have hbs := body_size x
  have hz : (oneB x.size 2).size = 2 := oneB_size _ _
  have HBS := Lib.hid hbs
  clear hbs
  go_enter Try.func23, Try.ntmps23
  go_wp2_with (first
    | (go_at_call 32; (refine (refNum_any x.size 2 _ (by decide) (by omega)).mono ?_); rintro en w1 ⟨rfl, hB1⟩; have HB1 := Lib.hid hB1; clear hB1)
    | (go_at_call 31; (refine (refSeal_any (body x) _ (by have := HBS.out; omega)).mono ?_); rintro en w2 ⟨rfl, hB2⟩; have HB2 := Lib.hid (m_below_on HB1.out hB2); clear hB2))
  go_ret
  exact ⟨rfl, HB2.out⟩
end Go.Proofs.Ytobmfbafjpbkoaa
