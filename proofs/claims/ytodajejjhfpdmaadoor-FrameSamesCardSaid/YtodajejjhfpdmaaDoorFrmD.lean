/-
  Frame's encoder: a value.
-/
import Derived.Test.YtodajejjhfpdmaaDoorFrmC
import Derived.StillTailTactics
namespace Go.Proofs.YtodajejjhfpdmaaDoor
open Go.RowKit Go.Instr

theorem text_lit (s : ByteArray) (w : World) : Calls Tryd.prog 71 #[.string s] w fun e w' => e = .returned (.agg #[.int .i64 2, .int .u64 0, .int .i64 0, .string s]) ∧ Below w.heap.size w w' := text_any s w
def pT (s : ByteArray) : PartV := ⟨2, 0, 0, s⟩
set_option maxHeartbeats 2000000 in
theorem value_any (base E : Nat) (ps : List PartV) (v : Value) (b : Bool) (t : ByteArray) (w : World) (h : EncAt base E w ps v) (hE : E < base) (hb : base ≤ w.heap.size) (hl : ps.length ≤ 398) :
    Calls Tryd.prog 45 #[.pointer (some ⟨E, 0, none⟩), .agg #[.bool b, .string t]] w (EncP base E w (ps ++ [nB b, pT t])) := by
  obtain ⟨i0, hi0, hz0, hz1, hz2⟩ := infoP119
  have HI := Lib.hid (And.intro hi0 (And.intro hz0 (And.intro hz1 hz2)))
  clear hi0 hz0 hz1 hz2
  have hsz : (w.alloc (.cells #[.bool b, .string t] 38)).heap.size = w.heap.size + 1 := by simp
  have hB : Below w.heap.size w (w.alloc (.cells #[.bool b, .string t] 38)) := (Below.refl _ _).alloc (Nat.le_refl _) _
  have H4 := Lib.hid (flag_any base E ps v b (w.alloc (.cells #[.bool b, .string t] 38)) (h.on hB) hE (by omega) (by omega))
  have HK := Lib.hid (And.intro (KB.of_below (B := E) (hB.mono hb)) (KeptE.of hB))
  clear h hsz hB
  go_enter Tryd.func45, Tryd.ntmps45
  go_wp2_with fail
  refine H4.out.mono ?_
  rintro en w2 ⟨⟨v2, hv2⟩, ⟨hk2, ht2⟩, rfl⟩
  have hS := ht2 _ _ _ (Blk.new (w := w) (B := w.heap.size) (T := 38) (cs := #[.bool b, .string t]) rfl) (by decide) (by decide)
  obtain ⟨S, hSE⟩ : ∃ S, S = w.heap.size := ⟨_, rfl⟩
  rw [← hSE] at hS
  have s1 := hS.cell 1
  simp at s1
  have hSw : S < w2.heap.size := hS.lt
  have HV := Lib.hid hv2
  have HBR : Hid (base ≤ w2.heap.size) := Lib.hid (Nat.le_trans hb (Nat.le_trans HK.out.1.1.size hk2.1.size))
  have HK2 := Lib.hid (And.intro (HK.out.1.trans hk2) (HK.out.2.trans ht2))
  have e0 := hv2.e.cell 0
  simp at e0
  have f0 := hv2.e.frozen 0
  have hEw := hv2.e.lt
  obtain ⟨c, hc⟩ : ∃ c, c = ps ++ [nB b] := ⟨_, rfl⟩
  rw [← hc] at HV
  have hcl : c.length = ps.length + 1 := by rw [hc]; simp
  have HC := Lib.hid hc
  simp only [← hSE]
  clear hc hv2 hk2 ht2 hS HK H4 hSE
  go_wp2_with fail
  go_region_law (first | (refine step_calls1 rfl 71 Tryd.func71 (by kernel_rfl) rfl rfl (.string t) rfl ?_; refine Calls.mono (text_lit t _) ?_; rintro en w4 ⟨rfl, hB4⟩; refine ⟨_, rfl, ?_⟩; have hB5 := m_below_on (show Below w2.heap.size w2 w2.drew from ⟨rfl, rfl, rfl, Nat.le_refl _, fun _ _ => rfl⟩) hB4; have e1 := (hB5.cell (p := ⟨E, 0, none⟩) hEw).trans e0; have s2 := (hB5.cell (p := ⟨S, 1, none⟩) hSw).trans s1; have HE4 := Lib.hid (And.intro (HV.out.e.on hB5) (own_below HV.out.o hB5)); have HB4 := Lib.hid hB5; have l1 : E < w4.heap.size := Nat.lt_of_lt_of_le hEw hB5.size; have l2 : E ≠ w4.heap.size := Nat.ne_of_lt l1; have HBW : Hid (base ≤ w4.heap.size) := Lib.hid (Nat.le_trans HBR.out hB5.size); clear hB4 hB5) | (refine step_append_own1 rfl (.tmp 12) (.tmp 16) 85 rfl base 119 i0 _ 4 40 Tryd.underlying85 HI.out.1 HI.out.2.1 HI.out.2.2.1 HI.out.2.2.2 rfl (by decide) v2 c.length (pRow c) rfl (own_below HE4.out.2 (by go_grown)) _ 1 1 [.int .i64 2, .int .u64 0, .int .i64 0, .string t] rfl rfl (newsP (by simp [go_sem]) (by simp [go_sem]) (by simp [go_sem]) (by simp [go_sem])) (onesP rfl rfl rfl rfl) (by unfold maxLen; omega) (by omega) (Nat.le_trans HBW.out (by simp)) (by decide) ?_; intro g' cap' w8 hg' hown hgr; have he8 := (HE4.out.1.on (by go_grown)).grown hgr (Ne.symm (own_ne (own_below HE4.out.2 (by go_grown)) (HE4.out.1.on (by go_grown)) (by decide))); have e2 := he8.cell 0; have f2 := he8.frozen 0; have HE8 := Lib.hid he8; have HO8 := Lib.hid hown; have HG8 := Lib.hid hgr; simp at e2; clear he8 hown hgr))
  all_goals
    go_wp2_with fail
    go_end0
    have hoA := own_below HE4.out.2 (show Below w4.heap.size w4 (w4.alloc (.cells #[.int .i64 2, .int .u64 0, .int .i64 0, .string t] 119)) by go_grown)
    have hB8 : Below base w2 w8 := (Below.alloc (HB4.out.mono HBR.out) HBW.out (.cells #[.int .i64 2, .int .u64 0, .int .i64 0, .string t] 119)).grown HG8.out (Nat.le_trans HBW.out (by simp)) (fun j hj => (hoA.lt j hj).1)
    have hcc : ps ++ [nB b, pT t] = c ++ [pT t] := by rw [HC.out, List.append_assoc]; rfl
    have ho := own_setE (u := .slice (some ⟨g', 0, none⟩) (ps.length + 1 + 1) cap') (j := 0) HO8.out HE8.out (by decide)
    refine ⟨⟨.slice (some ⟨g', 0, none⟩) (ps.length + 1 + 1) cap', Blk.set HE8.out 0 _ _ rfl, ?_⟩, ⟨HK2.out.1.trans (KB.of_below hB8).set, HK2.out.2.trans (KeptE.step HB4.out hoA HG8.out HE8.out)⟩, rfl⟩
    · rw [hcc, pRow_snoc, List.length_append]
      rw [hcl] at ho ⊢
      exact ho
end Go.Proofs.YtodajejjhfpdmaaDoor
