/-
  Frame's encoder: a flag, a stamp, a ballot, a command.
-/
import Derived.Test.YtodajejjhfpdmaaDoorFrmA
namespace Go.Proofs.YtodajejjhfpdmaaDoor
open Go.RowKit Go.Instr

theorem one_2 (base E : Nat) (ps : List PartV) (v : Value) (x y : Nat) (w : World) (h : EncAt base E w ps v) (hE : E < base) (hb : base ≤ w.heap.size) (hl : ps.length ≤ 398) (hx : x < 256) (hy : y < 256) :
    Calls Tryd.prog 19 #[.pointer (some ⟨E, 0, none⟩), .slice (some ⟨w.heap.size, 0, none⟩) 2 2] (w.alloc (.cells #[.int .u8 x, .int .u8 y] 5)) (EncP base E w (ps ++ [n1 x, n1 y])) := by
  have hB : Below base w (w.alloc (.cells #[.int .u8 x, .int .u8 y] 5)) := (Below.refl _ _).alloc hb _
  refine (one_any base E w.heap.size 0 #[.int .u8 x, .int .u8 y] 5 ps v 2 [x, y] _ (h.on ((Below.refl _ _).alloc (Nat.le_refl _) _)) hE (by simp; omega) (by simp; omega) (Blk.new rfl) ⟨by decide, by decide⟩ (fun i hi => ?_)).mono fun en w' hp => ⟨hp.1, ⟨(KB.of_below hB).trans hp.2.1.1, (KeptE.of ((Below.refl _ _).alloc (Nat.le_refl _) _)).trans hp.2.1.2⟩, hp.2.2⟩
  match i, hi with
  | 0, _ => exact ⟨rfl, hx⟩
  | 1, _ => exact ⟨rfl, hy⟩
theorem one_3 (base E : Nat) (ps : List PartV) (v : Value) (x y z : Nat) (w : World) (h : EncAt base E w ps v) (hE : E < base) (hb : base ≤ w.heap.size) (hl : ps.length ≤ 397) (hx : x < 256) (hy : y < 256) (hz : z < 256) :
    Calls Tryd.prog 19 #[.pointer (some ⟨E, 0, none⟩), .slice (some ⟨w.heap.size, 0, none⟩) 3 3] (w.alloc (.cells #[.int .u8 x, .int .u8 y, .int .u8 z] 5)) (EncP base E w (ps ++ [n1 x, n1 y, n1 z])) := by
  have hB : Below base w (w.alloc (.cells #[.int .u8 x, .int .u8 y, .int .u8 z] 5)) := (Below.refl _ _).alloc hb _
  refine (one_any base E w.heap.size 0 #[.int .u8 x, .int .u8 y, .int .u8 z] 5 ps v 3 [x, y, z] _ (h.on ((Below.refl _ _).alloc (Nat.le_refl _) _)) hE (by simp; omega) (by simp; omega) (Blk.new rfl) ⟨by decide, by decide⟩ (fun i hi => ?_)).mono fun en w' hp => ⟨hp.1, ⟨(KB.of_below hB).trans hp.2.1.1, (KeptE.of ((Below.refl _ _).alloc (Nat.le_refl _) _)).trans hp.2.1.2⟩, hp.2.2⟩
  match i, hi with
  | 0, _ => exact ⟨rfl, hx⟩
  | 1, _ => exact ⟨rfl, hy⟩
  | 2, _ => exact ⟨rfl, hz⟩
theorem four_1 (base E : Nat) (ps : List PartV) (v : Value) (x : Nat) (w : World) (h : EncAt base E w ps v) (hE : E < base) (hb : base ≤ w.heap.size) (hl : ps.length ≤ 399) (hx : x < 4294967296) :
    Calls Tryd.prog 43 #[.pointer (some ⟨E, 0, none⟩), .slice (some ⟨w.heap.size, 0, none⟩) 1 1] (w.alloc (.cells #[.int .u32 x] 22)) (EncP base E w (ps ++ [n4 x])) := by
  have hB : Below base w (w.alloc (.cells #[.int .u32 x] 22)) := (Below.refl _ _).alloc hb _
  refine (four_any base E w.heap.size 0 #[.int .u32 x] 22 ps v 1 [x] _ (h.on ((Below.refl _ _).alloc (Nat.le_refl _) _)) hE (by simp; omega) (by simp; omega) (Blk.new rfl) ⟨by decide, by decide⟩ (fun i hi => ?_)).mono fun en w' hp => ⟨hp.1, ⟨(KB.of_below hB).trans hp.2.1.1, (KeptE.of ((Below.refl _ _).alloc (Nat.le_refl _) _)).trans hp.2.1.2⟩, hp.2.2⟩
  match i, hi with
  | 0, _ => exact ⟨rfl, hx⟩
theorem four_2 (base E : Nat) (ps : List PartV) (v : Value) (x y : Nat) (w : World) (h : EncAt base E w ps v) (hE : E < base) (hb : base ≤ w.heap.size) (hl : ps.length ≤ 398) (hx : x < 4294967296) (hy : y < 4294967296) :
    Calls Tryd.prog 43 #[.pointer (some ⟨E, 0, none⟩), .slice (some ⟨w.heap.size, 0, none⟩) 2 2] (w.alloc (.cells #[.int .u32 x, .int .u32 y] 22)) (EncP base E w (ps ++ [n4 x, n4 y])) := by
  have hB : Below base w (w.alloc (.cells #[.int .u32 x, .int .u32 y] 22)) := (Below.refl _ _).alloc hb _
  refine (four_any base E w.heap.size 0 #[.int .u32 x, .int .u32 y] 22 ps v 2 [x, y] _ (h.on ((Below.refl _ _).alloc (Nat.le_refl _) _)) hE (by simp; omega) (by simp; omega) (Blk.new rfl) ⟨by decide, by decide⟩ (fun i hi => ?_)).mono fun en w' hp => ⟨hp.1, ⟨(KB.of_below hB).trans hp.2.1.1, (KeptE.of ((Below.refl _ _).alloc (Nat.le_refl _) _)).trans hp.2.1.2⟩, hp.2.2⟩
  match i, hi with
  | 0, _ => exact ⟨rfl, hx⟩
  | 1, _ => exact ⟨rfl, hy⟩
set_option maxHeartbeats 1000000 in
theorem flag_any (base E : Nat) (ps : List PartV) (v : Value) (b : Bool) (w : World) (h : EncAt base E w ps v) (hE : E < base) (hb : base ≤ w.heap.size) (hl : ps.length ≤ 399) :
    Calls Tryd.prog 46 #[.pointer (some ⟨E, 0, none⟩), .bool b] w (EncP base E w (ps ++ [nB b])) := by
  have H0 : Hid (Calls Tryd.prog 19 #[.pointer (some ⟨E, 0, none⟩), .slice (some ⟨w.heap.size, 0, none⟩) 1 1] (w.alloc (.cells #[.int .u8 0] 5)) (EncP base E w (ps ++ [n1 0]))) := Lib.hid (one_1 base E ps v 0 w h hE hb hl (by decide))
  have H1 : Hid (Calls Tryd.prog 19 #[.pointer (some ⟨E, 0, none⟩), .slice (some ⟨w.heap.size, 0, none⟩) 1 1] (w.alloc (.cells #[.int .u8 1] 5)) (EncP base E w (ps ++ [n1 1]))) := Lib.hid (one_1 base E ps v 1 w h hE hb hl (by decide))
  clear h
  go_enter Tryd.func46, Tryd.ntmps46
  cases b
  · go_wp2_with fail
    refine H0.out.mono ?_
    rintro en w1 ⟨hv, hk, rfl⟩
    go_wp2_with fail
    go_end0
    exact ⟨hv, hk, rfl⟩
  · go_wp2_with fail
    refine H1.out.mono ?_
    rintro en w1 ⟨hv, hk, rfl⟩
    go_wp2_with fail
    go_end0
    exact ⟨hv, hk, rfl⟩
set_option maxHeartbeats 1000000 in
theorem ballot_any (base E : Nat) (ps : List PartV) (v : Value) (n b : Nat) (w : World) (h : EncAt base E w ps v) (hE : E < base) (hb : base ≤ w.heap.size) (hl : ps.length ≤ 398) (hn : n < 4294967296) (hy : b < 256) :
    Calls Tryd.prog 48 #[.pointer (some ⟨E, 0, none⟩), .agg #[.int .u32 n, .int .u8 b]] w (EncP base E w (ps ++ [n4 n, n1 b])) := by
  have hsz : (w.alloc (.cells #[.int .u32 n, .int .u8 b] 40)).heap.size = w.heap.size + 1 := by simp
  have hB : Below w.heap.size w (w.alloc (.cells #[.int .u32 n, .int .u8 b] 40)) := (Below.refl _ _).alloc (Nat.le_refl _) _
  have h4 := four_1 base E ps v n (w.alloc (.cells #[.int .u32 n, .int .u8 b] 40)) (h.on hB) hE (by omega) (by omega) hn
  rw [hsz] at h4
  have H4 := Lib.hid h4
  have HK := Lib.hid (And.intro (KB.of_below (B := E) (hB.mono hb)) (KeptE.of hB))
  clear h h4 hsz hB
  go_enter Tryd.func48, Tryd.ntmps48
  go_wp2_with fail
  refine H4.out.mono ?_
  rintro en w2 ⟨⟨v2, hv2⟩, ⟨hk2, ht2⟩, rfl⟩
  have hS := ht2 _ _ _ (Blk.new (w := w) (B := w.heap.size) (T := 40) (cs := #[.int .u32 n, .int .u8 b]) rfl) (by decide) (by decide)
  have c0 := hS.cell 0
  have c1 := hS.cell 1
  have c2 := hS.cell 2
  simp at c0 c1 c2
  have H5 := Lib.hid (one_1 base E _ v2 b w2 hv2 hE (Nat.le_trans hb (Nat.le_trans HK.out.1.1.size hk2.1.size)) (by simp; omega) hy)
  have HK2 := Lib.hid (And.intro (HK.out.1.trans hk2) (HK.out.2.trans ht2))
  clear hv2 hk2 ht2 hS HK H4
  go_wp2_with fail
  refine H5.out.mono ?_
  rintro en w3 ⟨hv3, ⟨hk3, ht3⟩, rfl⟩
  go_wp2_with fail
  go_end0
  exact ⟨by simpa using hv3, ⟨HK2.out.1.trans hk3, HK2.out.2.trans ht3⟩, rfl⟩
set_option maxHeartbeats 1000000 in
theorem stamp_any (base E : Nat) (ps : List PartV) (v : Value) (n b l : Nat) (w : World) (h : EncAt base E w ps v) (hE : E < base) (hb : base ≤ w.heap.size) (hl : ps.length ≤ 397) (hn : n < 4294967296) (hy : b < 256) (hz : l < 256) :
    Calls Tryd.prog 44 #[.pointer (some ⟨E, 0, none⟩), .agg #[.int .u32 n, .int .u8 b, .int .u8 l]] w (EncP base E w (ps ++ [n4 n, n1 b, n1 l])) := by
  have hsz : (w.alloc (.cells #[.int .u32 n, .int .u8 b, .int .u8 l] 36)).heap.size = w.heap.size + 1 := by simp
  have hB : Below w.heap.size w (w.alloc (.cells #[.int .u32 n, .int .u8 b, .int .u8 l] 36)) := (Below.refl _ _).alloc (Nat.le_refl _) _
  have h4 := four_1 base E ps v n (w.alloc (.cells #[.int .u32 n, .int .u8 b, .int .u8 l] 36)) (h.on hB) hE (by omega) (by omega) hn
  rw [hsz] at h4
  have H4 := Lib.hid h4
  have HK := Lib.hid (And.intro (KB.of_below (B := E) (hB.mono hb)) (KeptE.of hB))
  clear h h4 hsz hB
  go_enter Tryd.func44, Tryd.ntmps44
  go_wp2_with fail
  refine H4.out.mono ?_
  rintro en w2 ⟨⟨v2, hv2⟩, ⟨hk2, ht2⟩, rfl⟩
  have hS := ht2 _ _ _ (Blk.new (w := w) (B := w.heap.size) (T := 36) (cs := #[.int .u32 n, .int .u8 b, .int .u8 l]) rfl) (by decide) (by decide)
  have c0 := hS.cell 0
  have c1 := hS.cell 1
  have c2 := hS.cell 2
  simp at c0 c1 c2
  have H5 := Lib.hid (one_2 base E _ v2 b l w2 hv2 hE (Nat.le_trans hb (Nat.le_trans HK.out.1.1.size hk2.1.size)) (by simp; omega) hy hz)
  have HK2 := Lib.hid (And.intro (HK.out.1.trans hk2) (HK.out.2.trans ht2))
  clear hv2 hk2 ht2 hS HK H4
  go_wp2_with fail
  refine H5.out.mono ?_
  rintro en w3 ⟨hv3, ⟨hk3, ht3⟩, rfl⟩
  go_wp2_with fail
  go_end0
  exact ⟨by simpa using hv3, ⟨HK2.out.1.trans hk3, HK2.out.2.trans ht3⟩, rfl⟩
end Go.Proofs.YtodajejjhfpdmaaDoor
