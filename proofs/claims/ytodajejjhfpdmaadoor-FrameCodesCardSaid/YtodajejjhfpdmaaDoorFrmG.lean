/-
  Frame's encoder: a view.
-/
import Derived.Test.YtodajejjhfpdmaaDoorFrmF
import Derived.StillTailTactics
namespace Go.Proofs.YtodajejjhfpdmaaDoor
open Go.RowKit Go.Instr

structure Lv where
  a : Nat
  b : Nat
  c : Nat
  d : Nat
  e : Nat
  f : Nat
  g : Nat
  h : Nat
def Lv.fine (l : Lv) : Prop := l.a < 256 ∧ l.b < 256 ∧ l.c < 256 ∧ l.d < 256 ∧ l.e < 256 ∧ l.f < 256 ∧ l.g < 256 ∧ l.h < 256
structure Mem where
  n : Nat
  l : Nat
  r : Bool
def Mem.fine (m : Mem) : Prop := m.n < 256 ∧ m.l < 256
/-- A slice of members, by its cells. -/
def MemsAt (w : World) (v : Value) (l : List Mem) : Prop :=
  (v = .slice none 0 0 ∧ l = []) ∨ ∃ b off cap, v = .slice (some ⟨b, off, none⟩) l.length cap ∧ b < w.heap.size ∧
    ∀ i (h : i < l.length), w.cell? ⟨b, off + i * 3, none⟩ = some (.int .u8 l[i].n) ∧ w.cell? ⟨b, off + i * 3 + 1, none⟩ = some (.int .u8 l[i].l) ∧ w.cell? ⟨b, off + i * 3 + 2, none⟩ = some (.bool l[i].r)
def pM (m : Mem) : List PartV := [n1 m.n, n1 m.l, nB m.r]
def lvL (l : Lv) : List Nat := [l.a, l.b, l.c, l.d, l.e, l.f, l.g, l.h]
abbrev vwC (e : Nat) (s : Value) (lv : Lv) : Array Value := #[.int .u32 e, s, .int .u8 lv.a, .int .u8 lv.b, .int .u8 lv.c, .int .u8 lv.d, .int .u8 lv.e, .int .u8 lv.f, .int .u8 lv.g, .int .u8 lv.h]
def MemLoop (base E S : Nat) (cs : Array Value) (ps : List PartV) (l : List Mem) (w : World) (i : Value) (wr : World) : Prop :=
  ∃ k v, k ≤ l.length ∧ i = .int .i64 k ∧ EncAt base E wr (ps ++ (l.take k).flatMap pM) v ∧ Blk wr S cs 44 ∧ KeptE w wr ∧ KB base E w wr
set_option maxHeartbeats 2000000 in
theorem view_any (base E : Nat) (ps : List PartV) (v : Value) (e : Nat) (a : Option Addr) (cap : Nat) (lv : Lv) (l : List Mem) (w : World) (h : EncAt base E w ps v) (hE : E < base) (hb : base ≤ w.heap.size) (hl : ps.length ≤ 200) (hn : l.length ≤ 8) (he : e < 4294967296)
    (hf : ∀ x ∈ l, x.fine) (hlv : lv.fine) (hs : MemsAt w (.slice a l.length cap) l) (ha : ∀ b off, a = some ⟨b, off, none⟩ → b < base ∧ b ≠ E) :
    Calls Tryd.prog 47 #[.pointer (some ⟨E, 0, none⟩), .agg (vwC e (.slice a l.length cap) lv)] w (EncP base E w (ps ++ [n4 e, n1 l.length] ++ l.flatMap pM ++ (lvL lv).map n1)) := by
  have hsz : (w.alloc (.cells (vwC e (.slice a l.length cap) lv) 44)).heap.size = w.heap.size + 1 := by simp
  have hB : Below w.heap.size w (w.alloc (.cells (vwC e (.slice a l.length cap) lv) 44)) := (Below.refl _ _).alloc (Nat.le_refl _) _
  have h6 := four_1 base E ps v e (w.alloc (.cells (vwC e (.slice a l.length cap) lv) 44)) (h.on hB) hE (by omega) (by omega) he
  rw [hsz] at h6
  obtain ⟨n, hln⟩ : ∃ n, n = l.length := ⟨_, rfl⟩
  rw [← hln] at hn h6 hs hB ⊢
  have H6 := Lib.hid h6
  have HK := Lib.hid (And.intro (KB.of_below (B := E) (hB.mono hb)) (KeptE.of hB))
  have HF := Lib.hid hf
  have HLV := Lib.hid hlv
  have HS := Lib.hid hs
  have HA := Lib.hid ha
  have HN := Lib.hid hln
  clear h hf hs ha h6 hsz hB hln hlv
  have hw : IntKind.u8.wrap (n : Int) = (n : Int) := by rw [IntWalk.u8_in _ (by omega)]
  go_enter Tryd.func47, Tryd.ntmps47
  go_wp2_with fail
  refine H6.out.mono ?_
  rintro en w2 ⟨⟨v2, hv2⟩, ⟨hk2, ht2⟩, rfl⟩
  have hS := ht2 _ _ _ (Blk.new (w := w) (B := w.heap.size) (T := 44) (cs := vwC e (.slice a n cap) lv) rfl) (by decide) (by decide)
  obtain ⟨S, hSE⟩ : ∃ S, S = w.heap.size := ⟨_, rfl⟩
  rw [← hSE] at hS
  simp only [← hSE]
  have hSb : base ≤ S := by omega
  have HVS := Lib.hid hS
  have c1 := hS.cell 1
  simp at c1
  have hb2 : base ≤ w2.heap.size := Nat.le_trans hb (Nat.le_trans HK.out.1.1.size hk2.1.size)
  have H7 := Lib.hid (one_1 base E _ v2 n w2 hv2 hE hb2 (by simp; omega) (by omega))
  have HK2 := Lib.hid (And.intro (HK.out.1.trans hk2) (HK.out.2.trans ht2))
  clear hv2 hk2 ht2 hS HK H6 hSE
  go_wp2_with fail
  refine H7.out.mono ?_
  rintro en w3 ⟨⟨v3, hv3⟩, ⟨hk3, ht3⟩, rfl⟩
  have HST : Hid (MemLoop base E S (vwC e (.slice a n cap) lv) (ps ++ [n4 e, n1 n]) l w (.int .i64 0) w3) := Lib.hid ⟨0, v3, Nat.zero_le _, rfl, by simpa using hv3, ht3 _ _ _ HVS.out (by decide) (by decide), HK2.out.2.trans ht3, HK2.out.1.trans hk3⟩
  have hS := ht3 _ _ _ HVS.out (by decide) (by decide)
  have c1 := hS.cell 1
  simp at c1
  clear hv3 ht3 hk3 H7 hw HK2 HVS hS
  go_wp2_with fail
  go_loopw [21] (fun i wr => MemLoop base E S (vwC e (.slice a n cap) lv) (ps ++ [n4 e, n1 n]) l w i wr) (fun i _ => n - (intOf i).toNat)
  case atStart => exact HST.out
  case round =>
    obtain ⟨k, v', hk, rfl, he', hvs, ht, hkb⟩ := hrel
    clear HST c1
    rw [← HN.out] at hk
    have HE := Lib.hid he'
    have HV := Lib.hid hvs
    have HT := Lib.hid ht
    have HK := Lib.hid hkb
    clear he' hvs ht hkb
    obtain ⟨c, hcE⟩ : ∃ c, c = ps ++ [n4 e, n1 n] ++ (l.take k).flatMap pM := ⟨_, rfl⟩
    rw [← hcE] at HE
    have hpl : ∀ q : List Mem, (q.flatMap pM).length = q.length * 3 := fun q => by
      induction q with
      | nil => rfl
      | cons x q ih => simp only [List.flatMap_cons, List.length_append, ih, List.length_cons]; simp [pM]; omega
    have hcl : c.length ≤ 350 := by rw [hcE, List.length_append, hpl]; simp; omega
    have HC := Lib.hid hcE
    clear hcE hpl
    have hbr : base ≤ wr.heap.size := Nat.le_trans hb HK.out.1.size
    by_cases hlt : k < n
    · have hkl : k < l.length := by rw [← HN.out]; exact hlt
      rcases HS.out with ⟨_, h0⟩ | ⟨b, off, cap', hsg, hbw, hc⟩
      · subst h0; simp at hkl
      · simp only [Value.slice.injEq] at hsg
        obtain ⟨rfl, hd1, rfl⟩ := hsg
        clear hd1
        obtain ⟨hbb, hbE⟩ := HA.out b off rfl
        obtain ⟨q0, q1, q2⟩ := hc k hkl
        have hfx := HF.out l[k] (List.getElem_mem _)
        have hX : l.take (k + 1) = l.take k ++ [l[k]] := List.take_succ_eq_append_getElem hkl
        obtain ⟨x, hxe⟩ : ∃ x, x = l[k] := ⟨_, rfl⟩
        rw [← hxe] at q0 q1 q2 hfx hX
        have HX := Lib.hid hX
        clear hc hX hxe
        obtain ⟨mn, ml, mr⟩ := x
        simp only at q0 q1 q2
        have hblk := HK.out.2 b hbb hbE
        have q0 := (World.cell?_of_block (a := ⟨b, off + k * 3, none⟩) hblk).trans q0
        have q1 := (World.cell?_of_block (a := ⟨b, off + k * 3 + 1, none⟩) hblk).trans q1
        have q2 := (World.cell?_of_block (a := ⟨b, off + k * 3 + 2, none⟩) hblk).trans q2
        clear hblk
        obtain ⟨g1, g2⟩ := hfx
        simp only at g1 g2
        have hsz : (wr.alloc (.cells #[.int .u8 mn, .int .u8 ml, .bool mr] 75)).heap.size = wr.heap.size + 1 := by simp
        have hB : Below wr.heap.size wr (wr.alloc (.cells #[.int .u8 mn, .int .u8 ml, .bool mr] 75)) := (Below.refl _ _).alloc (Nat.le_refl _) _
        have h6 := one_2 base E c v' mn ml (wr.alloc (.cells #[.int .u8 mn, .int .u8 ml, .bool mr] 75)) (HE.out.on hB) hE (by omega) (by omega) g1 g2
        rw [hsz] at h6
        have H8 := Lib.hid h6
        have HK3 := Lib.hid (And.intro (HK.out.trans (KB.of_below (B := E) (hB.mono hbr))) (KeptE.of hB))
        clear h6 hsz hB
        go_wp2_with fail
        refine H8.out.mono ?_
        rintro en w4 ⟨⟨v4, hv4⟩, ⟨hk4, ht4⟩, rfl⟩
        have hS := ht4 _ _ _ (Blk.new (w := wr) (B := wr.heap.size) (T := 75) (cs := #[.int .u8 mn, .int .u8 ml, .bool mr]) rfl) (by decide) (by decide)
        have c2 := hS.cell 2
        simp at c2
        have hb4 : base ≤ w4.heap.size := Nat.le_trans hb (Nat.le_trans HK3.out.1.1.size hk4.1.size)
        have H9 := Lib.hid (flag_any base E _ v4 mr w4 hv4 hE hb4 (by simp; omega))
        have HK4 := Lib.hid (And.intro (HK3.out.1.trans hk4) (HK3.out.2.trans ht4))
        clear hv4 hk4 ht4 hS HK3 H8 q0 q1 q2
        go_wp2_with fail
        refine H9.out.mono ?_
        rintro en w5 ⟨⟨v5, hv5⟩, ⟨hk5, ht5⟩, rfl⟩
        have HREL : Hid (MemLoop base E S (vwC e (.slice (some ⟨b, off, none⟩) n cap) lv) (ps ++ [n4 e, n1 n]) l w (.int .i64 (k + 1)) w5) := Lib.hid ⟨k + 1, v5, hkl, by go_num, by
          rw [HX.out, List.flatMap_append]
          rw [HC.out] at hv5
          simpa [pM] using hv5, (HK4.out.2.trans ht5) _ _ _ HV.out (by decide) (by decide), HT.out.trans (HK4.out.2.trans ht5), HK4.out.1.trans hk5⟩
        clear hv5 hk5 ht5 H9 c2
        go_wp2_with fail
        go_roundw
        case rel => exact HREL.out
        case measure => simp [intOf]; omega
    · obtain rfl : k = n := by omega
      have hlx : ∀ i (hi : i < (lvL lv).length), (vwC e (.slice a k cap) lv)[2 + i]? = some (.int .u8 (lvL lv)[i]) ∧ (lvL lv)[i] < 256 := by
        obtain ⟨z0, z1, z2, z3, z4, z5, z6, z7⟩ := HLV.out
        intro i hi
        match i, hi with
        | 0, _ => exact ⟨rfl, z0⟩
        | 1, _ => exact ⟨rfl, z1⟩
        | 2, _ => exact ⟨rfl, z2⟩
        | 3, _ => exact ⟨rfl, z3⟩
        | 4, _ => exact ⟨rfl, z4⟩
        | 5, _ => exact ⟨rfl, z5⟩
        | 6, _ => exact ⟨rfl, z6⟩
        | 7, _ => exact ⟨rfl, z7⟩
      have H8 := Lib.hid (one_any base E S 2 _ 44 c v' 8 (lvL lv) wr HE.out hE hbr (by simp [lvL]; omega) HV.out ⟨by decide, by decide⟩ hlx)
      have c1 := HV.out.cell 2
      simp at c1
      have hSw : S < wr.heap.size := HV.out.lt
      clear hlx
      go_wp2_with fail
      refine H8.out.mono ?_
      rintro en w4 ⟨⟨v4, hv4⟩, ⟨hk4, ht4⟩, rfl⟩
      go_wp2_with fail
      go_end0
      refine ⟨⟨v4, ?_⟩, ⟨HK.out.trans hk4, HT.out.trans ht4⟩, rfl⟩
      rw [HC.out, show l.take k = l by rw [HN.out]; exact List.take_length] at hv4
      simpa using hv4
end Go.Proofs.YtodajejjhfpdmaaDoor
