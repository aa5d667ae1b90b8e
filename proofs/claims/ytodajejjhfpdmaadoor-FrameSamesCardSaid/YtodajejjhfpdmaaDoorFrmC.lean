/-
  Frame's encoder: a command.
-/
import Derived.Test.YtodajejjhfpdmaaDoorFrmB
namespace Go.Proofs.YtodajejjhfpdmaaDoor
open Go.RowKit Go.Instr

set_option maxHeartbeats 1000000 in
theorem command_any (base E : Nat) (ps : List PartV) (v : Value) (k n l e r : Nat) (w : World) (h : EncAt base E w ps v) (hE : E < base) (hb : base ≤ w.heap.size) (hl : ps.length ≤ 395) (h1 : k < 256) (h2 : n < 256) (h3 : l < 256) (h4 : e < 4294967296) (h5 : r < 4294967296) :
    Calls Tryd.prog 50 #[.pointer (some ⟨E, 0, none⟩), .agg #[.int .u8 k, .int .u8 n, .int .u8 l, .int .u32 e, .int .u32 r]] w (EncP base E w (ps ++ [n1 k, n1 n, n1 l, n4 e, n4 r])) := by
  have hsz : (w.alloc (.cells #[.int .u8 k, .int .u8 n, .int .u8 l, .int .u32 e, .int .u32 r] 41)).heap.size = w.heap.size + 1 := by simp
  have hB : Below w.heap.size w (w.alloc (.cells #[.int .u8 k, .int .u8 n, .int .u8 l, .int .u32 e, .int .u32 r] 41)) := (Below.refl _ _).alloc (Nat.le_refl _) _
  have h6 := one_3 base E ps v k n l (w.alloc (.cells #[.int .u8 k, .int .u8 n, .int .u8 l, .int .u32 e, .int .u32 r] 41)) (h.on hB) hE (by omega) (by omega) h1 h2 h3
  rw [hsz] at h6
  have H4 := Lib.hid h6
  have HK := Lib.hid (And.intro (KB.of_below (B := E) (hB.mono hb)) (KeptE.of hB))
  clear h h6 hsz hB
  go_enter Tryd.func50, Tryd.ntmps50
  go_wp2_with fail
  refine H4.out.mono ?_
  rintro en w2 ⟨⟨v2, hv2⟩, ⟨hk2, ht2⟩, rfl⟩
  have hS := ht2 _ _ _ (Blk.new (w := w) (B := w.heap.size) (T := 41) (cs := #[.int .u8 k, .int .u8 n, .int .u8 l, .int .u32 e, .int .u32 r]) rfl) (by decide) (by decide)
  have c0 := hS.cell 0
  have c1 := hS.cell 1
  have c2 := hS.cell 2
  have c3 := hS.cell 3
  have c4 := hS.cell 4
  simp at c0 c1 c2 c3 c4
  have H5 := Lib.hid (four_2 base E _ v2 e r w2 hv2 hE (Nat.le_trans hb (Nat.le_trans HK.out.1.1.size hk2.1.size)) (by simp; omega) h4 h5)
  have HK2 := Lib.hid (And.intro (HK.out.1.trans hk2) (HK.out.2.trans ht2))
  clear hv2 hk2 ht2 hS HK H4
  go_wp2_with fail
  refine H5.out.mono ?_
  rintro en w3 ⟨hv3, ⟨hk3, ht3⟩, rfl⟩
  go_wp2_with fail
  go_end0
  exact ⟨by simpa using hv3, ⟨HK2.out.1.trans hk3, HK2.out.2.trans ht3⟩, rfl⟩
end Go.Proofs.YtodajejjhfpdmaaDoor
