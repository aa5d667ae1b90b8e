/-
  Frame's encoder: entries.
-/
import Derived.Test.YtodajejjhfpdmaaDoorFrmB
import Derived.StillTailTactics
namespace Go.Proofs.YtodajejjhfpdmaaDoor
open Go.RowKit Go.Instr

structure CmdV where
  k : Nat
  n : Nat
  l : Nat
  e : Nat
  r : Nat
def CmdV.fine (c : CmdV) : Prop := c.k < 256 ∧ c.n < 256 ∧ c.l < 256 ∧ c.e < 4294967296 ∧ c.r < 4294967296
structure Ent where
  s : Nat
  n : Nat
  b : Nat
  c : CmdV
def Ent.fine (x : Ent) : Prop := x.s < 4294967296 ∧ x.n < 4294967296 ∧ x.b < 256 ∧ x.c.fine
def pC (c : CmdV) : List PartV := [n1 c.k, n1 c.n, n1 c.l, n4 c.e, n4 c.r]
def pE (x : Ent) : List PartV := [n4 x.s, n4 x.n, n1 x.b] ++ pC x.c
/-- A slice of entries, by its cells. -/
def EntsAt (w : World) (v : Value) (l : List Ent) : Prop :=
  (v = .slice none 0 0 ∧ l = []) ∨ ∃ b off cap, v = .slice (some ⟨b, off, none⟩) l.length cap ∧ b < w.heap.size ∧
    ∀ i (h : i < l.length), w.cell? ⟨b, off + i * 8, none⟩ = some (.int .u32 l[i].s) ∧ w.cell? ⟨b, off + i * 8 + 1, none⟩ = some (.int .u32 l[i].n) ∧ w.cell? ⟨b, off + i * 8 + 2, none⟩ = some (.int .u8 l[i].b) ∧ w.cell? ⟨b, off + i * 8 + 3, none⟩ = some (.int .u8 l[i].c.k) ∧ w.cell? ⟨b, off + i * 8 + 4, none⟩ = some (.int .u8 l[i].c.n) ∧ w.cell? ⟨b, off + i * 8 + 5, none⟩ = some (.int .u8 l[i].c.l) ∧ w.cell? ⟨b, off + i * 8 + 6, none⟩ = some (.int .u32 l[i].c.e) ∧ w.cell? ⟨b, off + i * 8 + 7, none⟩ = some (.int .u32 l[i].c.r)
def EntLoop (base E : Nat) (ps : List PartV) (l : List Ent) (w : World) (i : Value) (wr : World) : Prop :=
  ∃ k v, k ≤ l.length ∧ i = .int .i64 k ∧ EncAt base E wr (ps ++ [n1 l.length] ++ (l.take k).flatMap pE) v ∧ KeptE w wr ∧ KB base E w wr
set_option maxHeartbeats 2000000 in
theorem entries_any (base E : Nat) (ps : List PartV) (v : Value) (a : Option Addr) (cap : Nat) (l : List Ent) (w : World) (h : EncAt base E w ps v) (hE : E < base) (hb : base ≤ w.heap.size) (hl : ps.length ≤ 200) (hn : l.length ≤ 16)
    (hf : ∀ x ∈ l, x.fine) (hs : EntsAt w (.slice a l.length cap) l) (ha : ∀ b off, a = some ⟨b, off, none⟩ → b < base ∧ b ≠ E) :
    Calls Tryd.prog 49 #[.pointer (some ⟨E, 0, none⟩), .slice a l.length cap] w (EncP base E w (ps ++ [n1 l.length] ++ l.flatMap pE)) := by
  have H1 := Lib.hid (one_1 base E ps v l.length w h hE hb (by omega) (by omega))
  have HF := Lib.hid hf
  have HS := Lib.hid hs
  have HA := Lib.hid ha
  clear h hf hs ha
  obtain ⟨n, hln⟩ : ∃ n, n = l.length := ⟨_, rfl⟩
  rw [← hln] at hn H1 ⊢
  have HN := Lib.hid hln
  clear hln
  have hw : IntKind.u8.wrap (n : Int) = (n : Int) := by rw [IntWalk.u8_in _ (by omega)]
  go_enter Tryd.func49, Tryd.ntmps49
  go_wp2_with fail
  refine H1.out.mono ?_
  rintro en w2 ⟨⟨v2, hv2⟩, ⟨hk2, ht2⟩, rfl⟩
  have HST : Hid (EntLoop base E ps l w (.int .i64 0) w2) := Lib.hid ⟨0, v2, Nat.zero_le _, rfl, by simpa [← HN.out] using hv2, ht2, hk2⟩
  clear hv2 ht2 hk2 H1 hw
  go_wp2_with fail
  go_loopw [14] (fun i wr => EntLoop base E ps l w i wr) (fun i _ => n - (intOf i).toNat)
  case atStart => exact HST.out
  case round =>
    obtain ⟨k, v', hk, rfl, he, ht, hkb⟩ := hrel
    clear HST
    rw [← HN.out] at hk he
    have HE := Lib.hid he
    have HT := Lib.hid ht
    have HK := Lib.hid hkb
    clear he ht hkb
    by_cases hlt : k < n
    · have hkl : k < l.length := by rw [← HN.out]; exact hlt
      rcases HS.out with ⟨_, h0⟩ | ⟨b, off, cap', hsg, hbw, hc⟩
      · subst h0; simp at hkl
      · simp only [Value.slice.injEq] at hsg
        obtain ⟨rfl, hd1, rfl⟩ := hsg
        clear hd1
        obtain ⟨hbb, hbE⟩ := HA.out b off rfl
        obtain ⟨q0, q1, q2, q3, q4, q5, q6, q7⟩ := hc k hkl
        have hfx := HF.out l[k] (List.getElem_mem _)
        have hX : l.take (k + 1) = l.take k ++ [l[k]] := List.take_succ_eq_append_getElem hkl
        obtain ⟨x, hxe⟩ : ∃ x, x = l[k] := ⟨_, rfl⟩
        rw [← hxe] at q0 q1 q2 q3 q4 q5 q6 q7 hfx hX
        have HX := Lib.hid hX
        clear hc hX hxe
        obtain ⟨s, m, y, ck, cn, cl, ce, cr⟩ := x
        simp only at q0 q1 q2 q3 q4 q5 q6 q7
        have hblk := HK.out.2 b hbb hbE
        have q0 := (World.cell?_of_block (a := ⟨b, off + k * 8, none⟩) hblk).trans q0
        have q1 := (World.cell?_of_block (a := ⟨b, off + k * 8 + 1, none⟩) hblk).trans q1
        have q2 := (World.cell?_of_block (a := ⟨b, off + k * 8 + 2, none⟩) hblk).trans q2
        have q3 := (World.cell?_of_block (a := ⟨b, off + k * 8 + 3, none⟩) hblk).trans q3
        have q4 := (World.cell?_of_block (a := ⟨b, off + k * 8 + 4, none⟩) hblk).trans q4
        have q5 := (World.cell?_of_block (a := ⟨b, off + k * 8 + 5, none⟩) hblk).trans q5
        have q6 := (World.cell?_of_block (a := ⟨b, off + k * 8 + 6, none⟩) hblk).trans q6
        have q7 := (World.cell?_of_block (a := ⟨b, off + k * 8 + 7, none⟩) hblk).trans q7
        clear hblk
        obtain ⟨g1, g2, g3, g4, g5, g6, g7, g8⟩ := hfx
        simp only at g1 g2 g3 g4 g5 g6 g7 g8
        obtain ⟨c, hcE⟩ : ∃ c, c = ps ++ [n1 n] ++ (l.take k).flatMap pE := ⟨_, rfl⟩
        rw [← hcE] at HE
        have hpl : ∀ q : List Ent, (q.flatMap pE).length = q.length * 8 := fun q => by
          induction q with
          | nil => rfl
          | cons x q ih => simp only [List.flatMap_cons, List.length_append, ih, List.length_cons]; simp [pE, pC]; omega
        have hcl : c.length ≤ 350 := by rw [hcE, List.length_append, hpl]; simp; omega
        have HC := Lib.hid hcE
        clear hcE hpl
        have hbr : base ≤ wr.heap.size := Nat.le_trans hb HK.out.1.size
        have hsz : (wr.alloc (.cells #[.int .u32 s, .int .u32 m, .int .u8 y, .int .u8 ck, .int .u8 cn, .int .u8 cl, .int .u32 ce, .int .u32 cr] 81)).heap.size = wr.heap.size + 1 := by simp
        have hB : Below wr.heap.size wr (wr.alloc (.cells #[.int .u32 s, .int .u32 m, .int .u8 y, .int .u8 ck, .int .u8 cn, .int .u8 cl, .int .u32 ce, .int .u32 cr] 81)) := (Below.refl _ _).alloc (Nat.le_refl _) _
        have h6 := four_1 base E c v' s (wr.alloc (.cells #[.int .u32 s, .int .u32 m, .int .u8 y, .int .u8 ck, .int .u8 cn, .int .u8 cl, .int .u32 ce, .int .u32 cr] 81)) (HE.out.on hB) hE (by omega) (by omega) g1
        rw [hsz] at h6
        have H6 := Lib.hid h6
        have HK3 := Lib.hid (And.intro (HK.out.trans (KB.of_below (B := E) (hB.mono hbr))) (HT.out.trans (KeptE.of hB)))
        clear h6 hsz hB
        go_wp2_with fail
        refine H6.out.mono ?_
        rintro en w3 ⟨⟨v3, hv3⟩, ⟨hk3, ht3⟩, rfl⟩
        have hS := ht3 _ _ _ (Blk.new (w := wr) (B := wr.heap.size) (T := 81) (cs := #[.int .u32 s, .int .u32 m, .int .u8 y, .int .u8 ck, .int .u8 cn, .int .u8 cl, .int .u32 ce, .int .u32 cr]) rfl) (by decide) (by decide)
        have HS3 := Lib.hid hS
        have c1 := hS.cell 1
        have c2 := hS.cell 2
        simp at c1 c2
        have hb3 : base ≤ w3.heap.size := Nat.le_trans hb (Nat.le_trans HK3.out.1.1.size hk3.1.size)
        have H7 := Lib.hid (ballot_any base E _ v3 m y w3 hv3 hE hb3 (by simp; omega) g2 g3)
        have HK4 := Lib.hid (And.intro (HK3.out.1.trans hk3) (HK3.out.2.trans ht3))
        clear hv3 hk3 ht3 hS HK3 H6 q0 q1 q2 q3 q4 q5 q6 q7
        go_wp2_with fail
        refine H7.out.mono ?_
        rintro en w4 ⟨⟨v4, hv4⟩, ⟨hk4, ht4⟩, rfl⟩
        have hS := ht4 _ _ _ HS3.out (by decide) (by decide)
        have c3 := hS.cell 3
        have c4 := hS.cell 4
        have c5 := hS.cell 5
        have c6 := hS.cell 6
        have c7 := hS.cell 7
        simp at c3 c4 c5 c6 c7
        have hb4 : base ≤ w4.heap.size := Nat.le_trans hb3 hk4.1.size
        have H8 := Lib.hid (command_any base E _ v4 ck cn cl ce cr w4 hv4 hE hb4 (by simp; omega) g4 g5 g6 g7 g8)
        have HK5 := Lib.hid (And.intro (HK4.out.1.trans hk4) (HK4.out.2.trans ht4))
        clear hv4 hk4 ht4 hS HK4 H7 c1 c2 HS3
        go_wp2_with fail
        refine H8.out.mono ?_
        rintro en w5 ⟨⟨v5, hv5⟩, ⟨hk5, ht5⟩, rfl⟩
        have HREL : Hid (EntLoop base E ps l w (.int .i64 (k + 1)) w5) := Lib.hid ⟨k + 1, v5, hkl, by go_num, by
          rw [HX.out, List.flatMap_append, ← HN.out]
          rw [HC.out] at hv5
          simpa [pE, pC] using hv5, HK5.out.2.trans ht5, HK5.out.1.trans hk5⟩
        clear hv5 hk5 ht5 H8 c3 c4 c5 c6 c7
        go_wp2_with fail
        go_roundw
        case rel => exact HREL.out
        case measure => simp [intOf]; omega
    · obtain rfl : k = n := by omega
      go_wp2
      go_end0
      have he := HE.out
      rw [show l.take k = l by rw [HN.out]; exact List.take_length] at he
      exact ⟨⟨_, he⟩, ⟨HK.out, HT.out⟩, rfl⟩
end Go.Proofs.YtodajejjhfpdmaaDoor
