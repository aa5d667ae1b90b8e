/-
  Frame's encoder: the fields with slices.
-/
import Derived.Test.YtodajejjhfpdmaaDoorFrmH
import Derived.StillTailTactics
namespace Go.Proofs.YtodajejjhfpdmaaDoor
open Go.RowKit Go.Instr

theorem MemsAt.on {w w' : World} {v : Value} {l : List Mem} (h : MemsAt w v l) (hB : Below w.heap.size w w') : MemsAt w' v l := by
  rcases h with h | ⟨b, off, cap, hv, hb, hc⟩
  · exact .inl h
  · refine .inr ⟨b, off, cap, hv, Nat.lt_of_lt_of_le hb hB.size, fun i hi => ?_⟩
    obtain ⟨c0, c1, c2⟩ := hc i hi
    have e := hB.block b hb
    exact ⟨(World.cell?_of_block (a := ⟨b, off + i * 3, none⟩) e).trans c0, (World.cell?_of_block (a := ⟨b, off + i * 3 + 1, none⟩) e).trans c1, (World.cell?_of_block (a := ⟨b, off + i * 3 + 2, none⟩) e).trans c2⟩
theorem EntsAt.on {w w' : World} {v : Value} {l : List Ent} (h : EntsAt w v l) (hB : Below w.heap.size w w') : EntsAt w' v l := by
  rcases h with h | ⟨b, off, cap, hv, hb, hc⟩
  · exact .inl h
  · refine .inr ⟨b, off, cap, hv, Nat.lt_of_lt_of_le hb hB.size, fun i hi => ?_⟩
    obtain ⟨c0, c1, c2, c3, c4, c5, c6, c7⟩ := hc i hi
    have e := hB.block b hb
    exact ⟨(World.cell?_of_block (a := ⟨b, off + i * 8, none⟩) e).trans c0, (World.cell?_of_block (a := ⟨b, off + i * 8 + 1, none⟩) e).trans c1, (World.cell?_of_block (a := ⟨b, off + i * 8 + 2, none⟩) e).trans c2, (World.cell?_of_block (a := ⟨b, off + i * 8 + 3, none⟩) e).trans c3, (World.cell?_of_block (a := ⟨b, off + i * 8 + 4, none⟩) e).trans c4, (World.cell?_of_block (a := ⟨b, off + i * 8 + 5, none⟩) e).trans c5, (World.cell?_of_block (a := ⟨b, off + i * 8 + 6, none⟩) e).trans c6, (World.cell?_of_block (a := ⟨b, off + i * 8 + 7, none⟩) e).trans c7⟩
set_option maxHeartbeats 2000000 in
theorem field_W (base E : Nat) (ps : List PartV) (v t : Value) (a : Option Addr) (cap : Nat) (f : Fr) (w : World) (h : EncAt base E w ps v) (hE : E < base) (hb : base ≤ w.heap.size) (hl : ps.length ≤ 100) (hf : f.fine) (hn : f.ms.length ≤ 8) (hs : MemsAt w (.slice a f.ms.length cap) f.ms) (ha : ∀ b off, a = some ⟨b, off, none⟩ → b < base ∧ b ≠ E) :
    Calls Tryd.prog 20 #[.pointer (some ⟨E, 0, none⟩), .agg (frC f (.slice a f.ms.length cap) t), .int .i32 87] w (EncP base E w (ps ++ [n4 f.ve, n1 f.ms.length] ++ f.ms.flatMap pM ++ (lvL f.lv).map n1)) := by
  have hB : Below w.heap.size w (w.alloc (.cells (frC f (.slice a f.ms.length cap) t) 47)) := (Below.refl _ _).alloc (Nat.le_refl _) _
  have HE := Lib.hid (h.on hB)
  have HK := Lib.hid (And.intro (KB.of_below (B := E) (hB.mono hb)) (KeptE.of hB))
  obtain ⟨k1, k2, k3, k4, k5, ⟨k6, k7, k8⟩, k9, k10, k11, ⟨k12, k13⟩, k14, ⟨k15, k16, k17, k18, k19⟩, k20, k21, k22, k23⟩ := hf
  have hsz : (w.alloc (.cells (frC f (.slice a f.ms.length cap) t) 47)).heap.size = w.heap.size + 1 := by simp
  have h6 := view_any base E ps v f.ve a cap f.lv f.ms (w.alloc (.cells (frC f (.slice a f.ms.length cap) t) 47)) HE.out hE (by omega) (by omega) hn k20 k22 k21 (hs.on hB) ha
  have H6 := Lib.hid h6
  clear h hB hsz h6 k1 k2 k3 k4 k5 k6 k7 k8 k9 k10 k11 k12 k13 k14 k15 k16 k17 k18 k19 k20 k21 k22 k23
  go_enter Tryd.func20, Tryd.ntmps20
  go_wp2_with fail
  refine H6.out.mono ?_
  rintro en w2 ⟨hv2, ⟨hk2, ht2⟩, rfl⟩
  go_wp2_with fail
  go_end0
  exact ⟨by simpa using hv2, ⟨HK.out.1.trans hk2, HK.out.2.trans ht2⟩, rfl⟩
set_option maxHeartbeats 2000000 in
theorem field_N (base E : Nat) (ps : List PartV) (v s : Value) (a : Option Addr) (cap : Nat) (f : Fr) (w : World) (h : EncAt base E w ps v) (hE : E < base) (hb : base ≤ w.heap.size) (hl : ps.length ≤ 100) (hf : f.fine) (hn : f.es.length ≤ 16) (hs : EntsAt w (.slice a f.es.length cap) f.es) (ha : ∀ b off, a = some ⟨b, off, none⟩ → b < base ∧ b ≠ E) :
    Calls Tryd.prog 20 #[.pointer (some ⟨E, 0, none⟩), .agg (frC f s (.slice a f.es.length cap)), .int .i32 78] w (EncP base E w (ps ++ [n1 f.es.length] ++ f.es.flatMap pE)) := by
  have hB : Below w.heap.size w (w.alloc (.cells (frC f s (.slice a f.es.length cap)) 47)) := (Below.refl _ _).alloc (Nat.le_refl _) _
  have HE := Lib.hid (h.on hB)
  have HK := Lib.hid (And.intro (KB.of_below (B := E) (hB.mono hb)) (KeptE.of hB))
  obtain ⟨k1, k2, k3, k4, k5, ⟨k6, k7, k8⟩, k9, k10, k11, ⟨k12, k13⟩, k14, ⟨k15, k16, k17, k18, k19⟩, k20, k21, k22, k23⟩ := hf
  have hsz : (w.alloc (.cells (frC f s (.slice a f.es.length cap)) 47)).heap.size = w.heap.size + 1 := by simp
  have h6 := entries_any base E ps v a cap f.es (w.alloc (.cells (frC f s (.slice a f.es.length cap)) 47)) HE.out hE (by omega) (by omega) hn k23 (hs.on hB) ha
  have H6 := Lib.hid h6
  clear h hB hsz h6 k1 k2 k3 k4 k5 k6 k7 k8 k9 k10 k11 k12 k13 k14 k15 k16 k17 k18 k19 k20 k21 k22 k23
  go_enter Tryd.func20, Tryd.ntmps20
  go_wp2_with fail
  refine H6.out.mono ?_
  rintro en w2 ⟨hv2, ⟨hk2, ht2⟩, rfl⟩
  go_wp2_with fail
  go_end0
  exact ⟨by simpa using hv2, ⟨HK.out.1.trans hk2, HK.out.2.trans ht2⟩, rfl⟩
end Go.Proofs.YtodajejjhfpdmaaDoor
