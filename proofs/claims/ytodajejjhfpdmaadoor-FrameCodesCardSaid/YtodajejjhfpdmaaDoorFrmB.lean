/-
  Frame's encoder: a flag, a stamp, a ballot, a command. Frame's encoder: a command. Frame's encoder: a value. Frame's small ones: known, isKey, isValue.
-/
import Derived.Test.YtodajejjhfpdmaaDoorFrmA
import Derived.StillTailTactics
namespace Go.Proofs.YtodajejjhfpdmaaDoor
open Go.RowKit Go.Instr

theorem one_2 (base E : Nat) (ps : List PartV) (v : Value) (x y : Nat) (w : World) (h : EncAt base E w ps v) (hE : E < base) (hb : base ≤ w.heap.size) (hl : ps.length ≤ 398) (hx : x < 256) (hy : y < 256) :
    Calls Tryd.prog 19 #[.pointer (some ⟨E, 0, none⟩), .slice (some ⟨w.heap.size, 0, none⟩) 2 2] (w.alloc (.cells #[.int .u8 x, .int .u8 y] 5)) (EncP base E w (ps ++ [n1 x, n1 y])) := by
  have hB : Below base w (w.alloc (.cells #[.int .u8 x, .int .u8 y] 5)) := (Below.refl _ _).alloc hb _
  refine (one_any base E w.heap.size 0 #[.int .u8 x, .int .u8 y] 5 ps v 2 [x, y] _ (h.on ((Below.refl _ _).alloc (Nat.le_refl _) _)) hE (by simp; omega) (by simp; omega) (Blk.new rfl) ⟨by decide, by decide⟩ (fun i hi => ?_)).mono fun en w' hp => ⟨hp.1, ⟨(KB.of_below hB).trans hp.2.1.1, (KeptE.of ((Below.refl _ _).alloc (Nat.le_refl _) _)).trans hp.2.1.2⟩, hp.2.2⟩
  match i, hi with
  | 0, _ => exact ⟨rfl, hx⟩
  | 1, _ => exact ⟨rfl, hy⟩
theorem one_3 (base E : Nat) (ps : List PartV) (v : Value) (x y z : Nat) (w : World) (h : EncAt base E w ps v) (hE : E < base) (hb : base ≤ w.heap.size) (hl : ps.length ≤ 397) (hx : x < 256) (hy : y < 256) (hz : z < 256) :
    Calls Tryd.prog 19 #[.pointer (some ⟨E, 0, none⟩), .slice (some ⟨w.heap.size, 0, none⟩) 3 3] (w.alloc (.cells #[.int .u8 x, .int .u8 y, .int .u8 z] 5)) (EncP base E w (ps ++ [n1 x, n1 y, n1 z])) := by
  have hB : Below base w (w.alloc (.cells #[.int .u8 x, .int .u8 y, .int .u8 z] 5)) := (Below.refl _ _).alloc hb _
  refine (one_any base E w.heap.size 0 #[.int .u8 x, .int .u8 y, .int .u8 z] 5 ps v 3 [x, y, z] _ (h.on ((Below.refl _ _).alloc (Nat.le_refl _) _)) hE (by simp; omega) (by simp; omega) (Blk.new rfl) ⟨by decide, by decide⟩ (fun i hi => ?_)).mono fun en w' hp => ⟨hp.1, ⟨(KB.of_below hB).trans hp.2.1.1, (KeptE.of ((Below.refl _ _).alloc (Nat.le_refl _) _)).trans hp.2.1.2⟩, hp.2.2⟩
  match i, hi with
  | 0, _ => exact ⟨rfl, hx⟩
  | 1, _ => exact ⟨rfl, hy⟩
  | 2, _ => exact ⟨rfl, hz⟩
theorem four_1 (base E : Nat) (ps : List PartV) (v : Value) (x : Nat) (w : World) (h : EncAt base E w ps v) (hE : E < base) (hb : base ≤ w.heap.size) (hl : ps.length ≤ 399) (hx : x < 4294967296) :
    Calls Tryd.prog 43 #[.pointer (some ⟨E, 0, none⟩), .slice (some ⟨w.heap.size, 0, none⟩) 1 1] (w.alloc (.cells #[.int .u32 x] 22)) (EncP base E w (ps ++ [n4 x])) := by
  have hB : Below base w (w.alloc (.cells #[.int .u32 x] 22)) := (Below.refl _ _).alloc hb _
  refine (four_any base E w.heap.size 0 #[.int .u32 x] 22 ps v 1 [x] _ (h.on ((Below.refl _ _).alloc (Nat.le_refl _) _)) hE (by simp; omega) (by simp; omega) (Blk.new rfl) ⟨by decide, by decide⟩ (fun i hi => ?_)).mono fun en w' hp => ⟨hp.1, ⟨(KB.of_below hB).trans hp.2.1.1, (KeptE.of ((Below.refl _ _).alloc (Nat.le_refl _) _)).trans hp.2.1.2⟩, hp.2.2⟩
  match i, hi with
  | 0, _ => exact ⟨rfl, hx⟩
theorem four_2 (base E : Nat) (ps : List PartV) (v : Value) (x y : Nat) (w : World) (h : EncAt base E w ps v) (hE : E < base) (hb : base ≤ w.heap.size) (hl : ps.length ≤ 398) (hx : x < 4294967296) (hy : y < 4294967296) :
    Calls Tryd.prog 43 #[.pointer (some ⟨E, 0, none⟩), .slice (some ⟨w.heap.size, 0, none⟩) 2 2] (w.alloc (.cells #[.int .u32 x, .int .u32 y] 22)) (EncP base E w (ps ++ [n4 x, n4 y])) := by
  have hB : Below base w (w.alloc (.cells #[.int .u32 x, .int .u32 y] 22)) := (Below.refl _ _).alloc hb _
  refine (four_any base E w.heap.size 0 #[.int .u32 x, .int .u32 y] 22 ps v 2 [x, y] _ (h.on ((Below.refl _ _).alloc (Nat.le_refl _) _)) hE (by simp; omega) (by simp; omega) (Blk.new rfl) ⟨by decide, by decide⟩ (fun i hi => ?_)).mono fun en w' hp => ⟨hp.1, ⟨(KB.of_below hB).trans hp.2.1.1, (KeptE.of ((Below.refl _ _).alloc (Nat.le_refl _) _)).trans hp.2.1.2⟩, hp.2.2⟩
  match i, hi with
  | 0, _ => exact ⟨rfl, hx⟩
  | 1, _ => exact ⟨rfl, hy⟩
set_option maxHeartbeats 1000000 in
theorem flag_any (base E : Nat) (ps : List PartV) (v : Value) (b : Bool) (w : World) (h : EncAt base E w ps v) (hE : E < base) (hb : base ≤ w.heap.size) (hl : ps.length ≤ 399) :
    Calls Tryd.prog 46 #[.pointer (some ⟨E, 0, none⟩), .bool b] w (EncP base E w (ps ++ [nB b])) := by
  have H0 : Hid (Calls Tryd.prog 19 #[.pointer (some ⟨E, 0, none⟩), .slice (some ⟨w.heap.size, 0, none⟩) 1 1] (w.alloc (.cells #[.int .u8 0] 5)) (EncP base E w (ps ++ [n1 0]))) := Lib.hid (one_1 base E ps v 0 w h hE hb hl (by decide))
  have H1 : Hid (Calls Tryd.prog 19 #[.pointer (some ⟨E, 0, none⟩), .slice (some ⟨w.heap.size, 0, none⟩) 1 1] (w.alloc (.cells #[.int .u8 1] 5)) (EncP base E w (ps ++ [n1 1]))) := Lib.hid (one_1 base E ps v 1 w h hE hb hl (by decide))
  clear h
  go_enter Tryd.func46, Tryd.ntmps46
  cases b
  · go_wp2_with fail
    refine H0.out.mono ?_
    rintro en w1 ⟨hv, hk, rfl⟩
    go_wp2_with fail
    go_end0
    exact ⟨hv, hk, rfl⟩
  · go_wp2_with fail
    refine H1.out.mono ?_
    rintro en w1 ⟨hv, hk, rfl⟩
    go_wp2_with fail
    go_end0
    exact ⟨hv, hk, rfl⟩
set_option maxHeartbeats 1000000 in
theorem ballot_any (base E : Nat) (ps : List PartV) (v : Value) (n b : Nat) (w : World) (h : EncAt base E w ps v) (hE : E < base) (hb : base ≤ w.heap.size) (hl : ps.length ≤ 398) (hn : n < 4294967296) (hy : b < 256) :
    Calls Tryd.prog 48 #[.pointer (some ⟨E, 0, none⟩), .agg #[.int .u32 n, .int .u8 b]] w (EncP base E w (ps ++ [n4 n, n1 b])) := by
  have hsz : (w.alloc (.cells #[.int .u32 n, .int .u8 b] 40)).heap.size = w.heap.size + 1 := by simp
  have hB : Below w.heap.size w (w.alloc (.cells #[.int .u32 n, .int .u8 b] 40)) := (Below.refl _ _).alloc (Nat.le_refl _) _
  have h4 := four_1 base E ps v n (w.alloc (.cells #[.int .u32 n, .int .u8 b] 40)) (h.on hB) hE (by omega) (by omega) hn
  rw [hsz] at h4
  have H4 := Lib.hid h4
  have HK := Lib.hid (And.intro (KB.of_below (B := E) (hB.mono hb)) (KeptE.of hB))
  clear h h4 hsz hB
  go_enter Tryd.func48, Tryd.ntmps48
  go_wp2_with fail
  refine H4.out.mono ?_
  rintro en w2 ⟨⟨v2, hv2⟩, ⟨hk2, ht2⟩, rfl⟩
  have hS := ht2 _ _ _ (Blk.new (w := w) (B := w.heap.size) (T := 40) (cs := #[.int .u32 n, .int .u8 b]) rfl) (by decide) (by decide)
  have c0 := hS.cell 0
  have c1 := hS.cell 1
  have c2 := hS.cell 2
  simp at c0 c1 c2
  have H5 := Lib.hid (one_1 base E _ v2 b w2 hv2 hE (Nat.le_trans hb (Nat.le_trans HK.out.1.1.size hk2.1.size)) (by simp; omega) hy)
  have HK2 := Lib.hid (And.intro (HK.out.1.trans hk2) (HK.out.2.trans ht2))
  clear hv2 hk2 ht2 hS HK H4
  go_wp2_with fail
  refine H5.out.mono ?_
  rintro en w3 ⟨hv3, ⟨hk3, ht3⟩, rfl⟩
  go_wp2_with fail
  go_end0
  exact ⟨by simpa using hv3, ⟨HK2.out.1.trans hk3, HK2.out.2.trans ht3⟩, rfl⟩
set_option maxHeartbeats 1000000 in
theorem stamp_any (base E : Nat) (ps : List PartV) (v : Value) (n b l : Nat) (w : World) (h : EncAt base E w ps v) (hE : E < base) (hb : base ≤ w.heap.size) (hl : ps.length ≤ 397) (hn : n < 4294967296) (hy : b < 256) (hz : l < 256) :
    Calls Tryd.prog 44 #[.pointer (some ⟨E, 0, none⟩), .agg #[.int .u32 n, .int .u8 b, .int .u8 l]] w (EncP base E w (ps ++ [n4 n, n1 b, n1 l])) := by
  have hsz : (w.alloc (.cells #[.int .u32 n, .int .u8 b, .int .u8 l] 36)).heap.size = w.heap.size + 1 := by simp
  have hB : Below w.heap.size w (w.alloc (.cells #[.int .u32 n, .int .u8 b, .int .u8 l] 36)) := (Below.refl _ _).alloc (Nat.le_refl _) _
  have h4 := four_1 base E ps v n (w.alloc (.cells #[.int .u32 n, .int .u8 b, .int .u8 l] 36)) (h.on hB) hE (by omega) (by omega) hn
  rw [hsz] at h4
  have H4 := Lib.hid h4
  have HK := Lib.hid (And.intro (KB.of_below (B := E) (hB.mono hb)) (KeptE.of hB))
  clear h h4 hsz hB
  go_enter Tryd.func44, Tryd.ntmps44
  go_wp2_with fail
  refine H4.out.mono ?_
  rintro en w2 ⟨⟨v2, hv2⟩, ⟨hk2, ht2⟩, rfl⟩
  have hS := ht2 _ _ _ (Blk.new (w := w) (B := w.heap.size) (T := 36) (cs := #[.int .u32 n, .int .u8 b, .int .u8 l]) rfl) (by decide) (by decide)
  have c0 := hS.cell 0
  have c1 := hS.cell 1
  have c2 := hS.cell 2
  simp at c0 c1 c2
  have H5 := Lib.hid (one_2 base E _ v2 b l w2 hv2 hE (Nat.le_trans hb (Nat.le_trans HK.out.1.1.size hk2.1.size)) (by simp; omega) hy hz)
  have HK2 := Lib.hid (And.intro (HK.out.1.trans hk2) (HK.out.2.trans ht2))
  clear hv2 hk2 ht2 hS HK H4
  go_wp2_with fail
  refine H5.out.mono ?_
  rintro en w3 ⟨hv3, ⟨hk3, ht3⟩, rfl⟩
  go_wp2_with fail
  go_end0
  exact ⟨by simpa using hv3, ⟨HK2.out.1.trans hk3, HK2.out.2.trans ht3⟩, rfl⟩
end Go.Proofs.YtodajejjhfpdmaaDoor


namespace Go.Proofs.YtodajejjhfpdmaaDoor
open Go.RowKit Go.Instr

set_option maxHeartbeats 1000000 in
theorem command_any (base E : Nat) (ps : List PartV) (v : Value) (k n l e r : Nat) (w : World) (h : EncAt base E w ps v) (hE : E < base) (hb : base ≤ w.heap.size) (hl : ps.length ≤ 395) (h1 : k < 256) (h2 : n < 256) (h3 : l < 256) (h4 : e < 4294967296) (h5 : r < 4294967296) :
    Calls Tryd.prog 50 #[.pointer (some ⟨E, 0, none⟩), .agg #[.int .u8 k, .int .u8 n, .int .u8 l, .int .u32 e, .int .u32 r]] w (EncP base E w (ps ++ [n1 k, n1 n, n1 l, n4 e, n4 r])) := by
  have hsz : (w.alloc (.cells #[.int .u8 k, .int .u8 n, .int .u8 l, .int .u32 e, .int .u32 r] 41)).heap.size = w.heap.size + 1 := by simp
  have hB : Below w.heap.size w (w.alloc (.cells #[.int .u8 k, .int .u8 n, .int .u8 l, .int .u32 e, .int .u32 r] 41)) := (Below.refl _ _).alloc (Nat.le_refl _) _
  have h6 := one_3 base E ps v k n l (w.alloc (.cells #[.int .u8 k, .int .u8 n, .int .u8 l, .int .u32 e, .int .u32 r] 41)) (h.on hB) hE (by omega) (by omega) h1 h2 h3
  rw [hsz] at h6
  have H4 := Lib.hid h6
  have HK := Lib.hid (And.intro (KB.of_below (B := E) (hB.mono hb)) (KeptE.of hB))
  clear h h6 hsz hB
  go_enter Tryd.func50, Tryd.ntmps50
  go_wp2_with fail
  refine H4.out.mono ?_
  rintro en w2 ⟨⟨v2, hv2⟩, ⟨hk2, ht2⟩, rfl⟩
  have hS := ht2 _ _ _ (Blk.new (w := w) (B := w.heap.size) (T := 41) (cs := #[.int .u8 k, .int .u8 n, .int .u8 l, .int .u32 e, .int .u32 r]) rfl) (by decide) (by decide)
  have c0 := hS.cell 0
  have c1 := hS.cell 1
  have c2 := hS.cell 2
  have c3 := hS.cell 3
  have c4 := hS.cell 4
  simp at c0 c1 c2 c3 c4
  have H5 := Lib.hid (four_2 base E _ v2 e r w2 hv2 hE (Nat.le_trans hb (Nat.le_trans HK.out.1.1.size hk2.1.size)) (by simp; omega) h4 h5)
  have HK2 := Lib.hid (And.intro (HK.out.1.trans hk2) (HK.out.2.trans ht2))
  clear hv2 hk2 ht2 hS HK H4
  go_wp2_with fail
  refine H5.out.mono ?_
  rintro en w3 ⟨hv3, ⟨hk3, ht3⟩, rfl⟩
  go_wp2_with fail
  go_end0
  exact ⟨by simpa using hv3, ⟨HK2.out.1.trans hk3, HK2.out.2.trans ht3⟩, rfl⟩
end Go.Proofs.YtodajejjhfpdmaaDoor


namespace Go.Proofs.YtodajejjhfpdmaaDoor
open Go.RowKit Go.Instr

theorem text_lit (s : ByteArray) (w : World) : Calls Tryd.prog 71 #[.string s] w fun e w' => e = .returned (.agg #[.int .i64 2, .int .u64 0, .int .i64 0, .string s]) ∧ Below w.heap.size w w' := text_any s w
def pT (s : ByteArray) : PartV := ⟨2, 0, 0, s⟩
set_option maxHeartbeats 2000000 in
theorem value_any (base E : Nat) (ps : List PartV) (v : Value) (b : Bool) (t : ByteArray) (w : World) (h : EncAt base E w ps v) (hE : E < base) (hb : base ≤ w.heap.size) (hl : ps.length ≤ 398) :
    Calls Tryd.prog 45 #[.pointer (some ⟨E, 0, none⟩), .agg #[.bool b, .string t]] w (EncP base E w (ps ++ [nB b, pT t])) := by
  obtain ⟨i0, hi0, hz0, hz1, hz2⟩ := infoP119
  have HI := Lib.hid (And.intro hi0 (And.intro hz0 (And.intro hz1 hz2)))
  clear hi0 hz0 hz1 hz2
  have hsz : (w.alloc (.cells #[.bool b, .string t] 38)).heap.size = w.heap.size + 1 := by simp
  have hB : Below w.heap.size w (w.alloc (.cells #[.bool b, .string t] 38)) := (Below.refl _ _).alloc (Nat.le_refl _) _
  have H4 := Lib.hid (flag_any base E ps v b (w.alloc (.cells #[.bool b, .string t] 38)) (h.on hB) hE (by omega) (by omega))
  have HK := Lib.hid (And.intro (KB.of_below (B := E) (hB.mono hb)) (KeptE.of hB))
  clear h hsz hB
  go_enter Tryd.func45, Tryd.ntmps45
  go_wp2_with fail
  refine H4.out.mono ?_
  rintro en w2 ⟨⟨v2, hv2⟩, ⟨hk2, ht2⟩, rfl⟩
  have hS := ht2 _ _ _ (Blk.new (w := w) (B := w.heap.size) (T := 38) (cs := #[.bool b, .string t]) rfl) (by decide) (by decide)
  obtain ⟨S, hSE⟩ : ∃ S, S = w.heap.size := ⟨_, rfl⟩
  rw [← hSE] at hS
  have s1 := hS.cell 1
  simp at s1
  have hSw : S < w2.heap.size := hS.lt
  have HV := Lib.hid hv2
  have HBR : Hid (base ≤ w2.heap.size) := Lib.hid (Nat.le_trans hb (Nat.le_trans HK.out.1.1.size hk2.1.size))
  have HK2 := Lib.hid (And.intro (HK.out.1.trans hk2) (HK.out.2.trans ht2))
  have e0 := hv2.e.cell 0
  simp at e0
  have f0 := hv2.e.frozen 0
  have hEw := hv2.e.lt
  obtain ⟨c, hc⟩ : ∃ c, c = ps ++ [nB b] := ⟨_, rfl⟩
  rw [← hc] at HV
  have hcl : c.length = ps.length + 1 := by rw [hc]; simp
  have HC := Lib.hid hc
  simp only [← hSE]
  clear hc hv2 hk2 ht2 hS HK H4 hSE
  go_wp2_with fail
  go_region_law (first | (refine step_calls1 rfl 71 Tryd.func71 (by kernel_rfl) rfl rfl (.string t) rfl ?_; refine Calls.mono (text_lit t _) ?_; rintro en w4 ⟨rfl, hB4⟩; refine ⟨_, rfl, ?_⟩; have hB5 := m_below_on (show Below w2.heap.size w2 w2.drew from ⟨rfl, rfl, rfl, Nat.le_refl _, fun _ _ => rfl⟩) hB4; have e1 := (hB5.cell (p := ⟨E, 0, none⟩) hEw).trans e0; have s2 := (hB5.cell (p := ⟨S, 1, none⟩) hSw).trans s1; have HE4 := Lib.hid (And.intro (HV.out.e.on hB5) (own_below HV.out.o hB5)); have HB4 := Lib.hid hB5; have l1 : E < w4.heap.size := Nat.lt_of_lt_of_le hEw hB5.size; have l2 : E ≠ w4.heap.size := Nat.ne_of_lt l1; have HBW : Hid (base ≤ w4.heap.size) := Lib.hid (Nat.le_trans HBR.out hB5.size); clear hB4 hB5) | (refine step_append_own1 rfl (.tmp 12) (.tmp 16) 85 rfl base 119 i0 _ 4 40 Tryd.underlying85 HI.out.1 HI.out.2.1 HI.out.2.2.1 HI.out.2.2.2 rfl (by decide) v2 c.length (pRow c) rfl (own_below HE4.out.2 (by go_grown)) _ 1 1 [.int .i64 2, .int .u64 0, .int .i64 0, .string t] rfl rfl (newsP (by simp [go_sem]) (by simp [go_sem]) (by simp [go_sem]) (by simp [go_sem])) (onesP rfl rfl rfl rfl) (by unfold maxLen; omega) (by omega) (Nat.le_trans HBW.out (by simp)) (by decide) ?_; intro g' cap' w8 hg' hown hgr; have he8 := (HE4.out.1.on (by go_grown)).grown hgr (Ne.symm (own_ne (own_below HE4.out.2 (by go_grown)) (HE4.out.1.on (by go_grown)) (by decide))); have e2 := he8.cell 0; have f2 := he8.frozen 0; have HE8 := Lib.hid he8; have HO8 := Lib.hid hown; have HG8 := Lib.hid hgr; simp at e2; clear he8 hown hgr))
  all_goals
    go_wp2_with fail
    go_end0
    have hoA := own_below HE4.out.2 (show Below w4.heap.size w4 (w4.alloc (.cells #[.int .i64 2, .int .u64 0, .int .i64 0, .string t] 119)) by go_grown)
    have hB8 : Below base w2 w8 := (Below.alloc (HB4.out.mono HBR.out) HBW.out (.cells #[.int .i64 2, .int .u64 0, .int .i64 0, .string t] 119)).grown HG8.out (Nat.le_trans HBW.out (by simp)) (fun j hj => (hoA.lt j hj).1)
    have hcc : ps ++ [nB b, pT t] = c ++ [pT t] := by rw [HC.out, List.append_assoc]; rfl
    have ho := own_setE (u := .slice (some ⟨g', 0, none⟩) (ps.length + 1 + 1) cap') (j := 0) HO8.out HE8.out (by decide)
    refine ⟨⟨.slice (some ⟨g', 0, none⟩) (ps.length + 1 + 1) cap', Blk.set HE8.out 0 _ _ rfl, ?_⟩, ⟨HK2.out.1.trans (KB.of_below hB8).set, HK2.out.2.trans (KeptE.step HB4.out hoA HG8.out HE8.out)⟩, rfl⟩
    · rw [hcc, pRow_snoc, List.length_append]
      rw [hcl] at ho ⊢
      exact ho
end Go.Proofs.YtodajejjhfpdmaaDoor


namespace Go.Proofs.YtodajejjhfpdmaaDoor
open Go.RowKit Go.Instr

def knownB (k : Nat) : Bool := decide (1 ≤ k ∧ k ≤ 16)
set_option maxHeartbeats 400000 in
theorem known_any (k : Nat) (w : World) : Calls Tryd.prog 32 #[.int .u8 k] w fun e w' => e = .returned (.bool (knownB k)) ∧ Below w.heap.size w w' := by
  have h : (k < 1 ∧ knownB k = false) ∨ (1 ≤ k ∧ ¬ k ≤ 16 ∧ knownB k = false) ∨ (1 ≤ k ∧ k ≤ 16 ∧ knownB k = true) := by
    unfold knownB
    by_cases h1 : 1 ≤ k
    · by_cases h2 : k ≤ 16
      · exact .inr (.inr ⟨h1, h2, by simp [h1, h2]⟩)
      · exact .inr (.inl ⟨h1, h2, by simp [h2]⟩)
    · exact .inl ⟨by omega, by simp [h1]⟩
  rcases h with ⟨h1, h⟩ | ⟨h1, h2, h⟩ | ⟨h1, h2, h⟩
  all_goals
    rw [h]
    clear h
    go_enter Tryd.func32, Tryd.ntmps32
    go_wp2
    go_ret
    first
      | exact ⟨rfl, Below.refl _ _⟩
      | exact ⟨by congr 2; simp; omega, Below.refl _ _⟩
theorem isKey_any (k : Nat) (w : World) : Calls Tryd.prog 69 #[.int .u8 k] w fun e w' => e = .returned (.bool (decide (k < 6))) ∧ Below w.heap.size w w' := by
  go_enter Tryd.func69, Tryd.ntmps69
  go_wp2
  go_ret
  exact ⟨by congr 2; simp; try omega, Below.refl _ _⟩
def valueB (b : Bool) (t : ByteArray) : Bool := decide (t.size ≤ 32) && (b || t.toList.isEmpty)
set_option maxHeartbeats 400000 in
theorem isValue_any (b : Bool) (t : ByteArray) (w : World) (ht : t.size ≤ maxLen) : Calls Tryd.prog 70 #[.agg #[.bool b, .string t]] w fun e w' => e = .returned (.bool (valueB b t)) ∧ Below w.heap.size w w' := by
  unfold maxLen at ht
  by_cases h1 : t.size ≤ 32
  · have h1' : (t.size : Int) ≤ 32 := by omega
    cases b
    · go_enter Tryd.func70, Tryd.ntmps70
      go_wp2
      go_ret
      exact ⟨by simp [valueB, h1], by go_grown⟩
    · go_enter Tryd.func70, Tryd.ntmps70
      go_wp2
      go_ret
      exact ⟨by simp [valueB, h1], by go_grown⟩
  · have h1' : ¬ (t.size : Int) ≤ 32 := by omega
    go_enter Tryd.func70, Tryd.ntmps70
    go_wp2
    go_ret
    exact ⟨by simp [valueB, h1], by go_grown⟩
end Go.Proofs.YtodajejjhfpdmaaDoor

