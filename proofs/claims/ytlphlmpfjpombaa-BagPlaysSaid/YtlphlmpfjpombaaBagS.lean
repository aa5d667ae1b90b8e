/-
  The first lines of the laws of layer 7 ('speaks'), and the acts that come in.
-/
import Derived.Test.YtlphlmpfjpombaaBagD
import Derived.Test.YtlphlmpfjpombaaOpen
namespace Go.Proofs.Ytlphlmpfjpombaa
open Go.RowKit Go.Instr Go.ChangeShapes Go.WideShapes Go.ChangeAt

theorem New_is (i : Int) (room : Nat) (w : World) (h1 : -9223372036854775808 ≤ i) (h2 : i ≤ 9223372036854775807) (hr : (max 0 (min i 200)).toNat = room) :
    Calls Try.prog 9 #[.int .i64 i] w fun e w' => e = .returned (.pointer (some ⟨w.heap.size, 0, none⟩)) ∧ BagAt w' w.heap.size w.heap.size room [] ∧ Below w.heap.size w w' := by
  subst hr
  exact New_any i w h1 h2
theorem First_is (base B room d : Nat) (r : Int) (l : List Msg) (w : World) (hl : l.length ≤ 200) (hb : BagAt w base B room l) (hr : idxOf (isTo d) l = r) :
    Calls Try.prog 15 #[.pointer (some ⟨B, 0, none⟩), .int .u8 d] w fun e w' => e = .returned (.int .i64 r) ∧ Below w.heap.size w w' := by
  subst hr
  exact First_any base B room d l w hl hb
theorem Len_is (base B room n : Nat) (l : List Msg) (w : World) (hb : BagAt w base B room l) (hn : l.length = n) :
    Calls Try.prog 18 #[.pointer (some ⟨B, 0, none⟩)] w fun e w' => e = .returned (.int .i64 n) ∧ w = w' := by
  subst hn
  exact Len_any base B room l w hb
def sB1 : List Msg := [⟨1, ⟨#[97]⟩, false⟩]
def sB2 : List Msg := [⟨1, ⟨#[97]⟩, false⟩, ⟨2, ⟨#[98]⟩, false⟩]
def sB3 : List Msg := [⟨2, ⟨#[98]⟩, false⟩]
set_option maxHeartbeats 1000000 in
theorem speaks7 (w : World) : Calls Try.prog 8 #[] w fun e w' => e = .returned (.bool true) ∧ Below w.heap.size w w' := by
  go_enter Try.func8, Try.ntmps8
  go_wp2_with (first
    | (go_at_call 9; (refine (New_is 2 2 _ (by decide) (by decide) (by decide)).mono ?_); rintro en w1 ⟨rfl, hA1, hB1⟩; have HA1 := Lib.hid hA1; have HB1 := Lib.hid hB1; clear hA1 hB1)
    | (go_at_call 17; (refine (Put_no w.heap.size w.heap.size 2 3 sB2 ⟨#[99]⟩ _ (by decide) HA3.out (Nat.le_refl _)).mono ?_); rintro en w4 ⟨rfl, hA4, hB4, _⟩; have HA4 := Lib.hid hA4; have HB4 := Lib.hid (HB3.out.trans hB4); clear hA4 hB4)
    | (go_at_call 17; (refine (Put_yes w.heap.size w.heap.size 2 2 sB1 ⟨#[98]⟩ _ (by decide) (by decide) HA2.out (Nat.le_refl _)).mono ?_); rintro en w3 ⟨rfl, hA3, hB3, _⟩; have HA3 : Hid (BagAt w3 w.heap.size w.heap.size 2 sB2) := Lib.hid hA3; have HB3 := Lib.hid (HB2.out.trans hB3); clear hA3 hB3)
    | (go_at_call 17; (refine (Put_yes w.heap.size w.heap.size 2 1 [] ⟨#[97]⟩ _ (by decide) (by decide) HA1.out (Nat.le_refl _)).mono ?_); rintro en w2 ⟨rfl, hA2, hB2, _⟩; have HA2 : Hid (BagAt w2 w.heap.size w.heap.size 2 sB1) := Lib.hid hA2; have HB2 := Lib.hid (HB1.out.trans hB2); clear hA2 hB2)
    | (go_at_call 10; (refine (Take_yes w.heap.size w.heap.size 2 0 sB2 ⟨1, ⟨#[97]⟩, false⟩ _ (by decide) HA4.out (Nat.le_refl _) (by decide) rfl).mono ?_); rintro en w5 ⟨rfl, hA5, hB5, _⟩; have HA5 : Hid (BagAt w5 w.heap.size w.heap.size 2 sB3) := Lib.hid hA5; have HB5 := Lib.hid (HB4.out.trans hB5); clear hA5 hB5)
    | (go_at_call 15; (refine (First_is w.heap.size w.heap.size 2 2 0 sB3 _ (by decide) HA5.out (by decide)).mono ?_); rintro en w6 ⟨rfl, hB6⟩; have HA6 := Lib.hid (HA5.out.on hB6); have HB6 := Lib.hid (HB5.out.trans (hB6.mono HB5.out.size)); clear hB6)
    | (go_at_call 18; (refine (Len_is w.heap.size w.heap.size 2 1 sB3 _ HA6.out (by decide)).mono ?_); rintro en w7 ⟨rfl, rfl⟩))
  go_ret
  exact ⟨rfl, HB6.out⟩
/-- An act that came in. -/
structure ActD where
  w : Int
  i : Int
  a : Int
  d : Nat
  t : ByteArray
  b : Nat
def ActD.fine (x : ActD) : Prop := (-9223372036854775808 ≤ x.w ∧ x.w ≤ 9223372036854775807) ∧ (-9223372036854775808 ≤ x.i ∧ x.i ≤ 9223372036854775807) ∧ (-9223372036854775808 ≤ x.a ∧ x.a ≤ 9223372036854775807) ∧ x.d < 256 ∧ x.t.size ≤ maxLen ∧ x.b < 4294967296
theorem ones6 {v0 v1 v2 v3 v4 v5 : Value} (h0 : v0.oneCell' = true) (h1 : v1.oneCell' = true) (h2 : v2.oneCell' = true) (h3 : v3.oneCell' = true) (h4 : v4.oneCell' = true) (h5 : v5.oneCell' = true) : ∀ u ∈ ([v0, v1, v2, v3, v4, v5] : List Value), u.oneCell' = true := by
  intro u hu
  simp only [List.mem_cons, List.not_mem_nil, or_false] at hu
  rcases hu with rfl | rfl | rfl | rfl | rfl | rfl <;> assumption
def actR : RK ActD := { f := fun x => [.int .i64 x.w, .int .i64 x.i, .int .i64 x.a, .int .u8 x.d, .string x.t, .int .u32 x.b], c := 6, pos := by decide, len := fun _ => rfl, one := fun _ => ones6 rfl rfl rfl rfl rfl rfl }
theorem law_cells3 : Try.prog.cellsOf 3 = 1 := by kernel_rfl
theorem law_cells5 : Try.prog.cellsOf 5 = 1 := by kernel_rfl
theorem law_cells9 : Try.prog.cellsOf 9 = 1 := by kernel_rfl
theorem law_cells27 : Try.prog.cellsOf 27 = 1 := by kernel_rfl
theorem law_cells29 : Try.prog.cellsOf 29 = 6 := by kernel_rfl
theorem open_act {H : Type} {enc : TypeId × Value → H} {w : World} {base : Nat} {spare : Nat → Bool} {held : Bool} (fuel : Nat) (cs : List Value) (x : DataW H × List MemPlace)
    (h : DataW.trod enc Try.prog w base spare held fuel 29 cs = some x) : ∃ s : ActD, cs = actR.f s ∧ s.fine := by
  obtain ⟨xs, n, _, _, hl, hlen, hf⟩ := DataW.trod_struct Try.underlying29 h
  rw [law_cells29] at hl
  match xs, hlen with
  | [y0, y1, y2, y3, y4, y5], _ =>
    match cs, hl with
    | [c0, c1, c2, c3, c4, c5], _ =>
      have h0 : DataW.trod enc Try.prog w base spare held n 3 (([c0, c1, c2, c3, c4, c5].drop 0).take (Try.prog.cellsOf 3)) = some y0 := hf 0 _ rfl
      have h1 : DataW.trod enc Try.prog w base spare held n 3 (([c0, c1, c2, c3, c4, c5].drop 1).take (Try.prog.cellsOf 3)) = some y1 := hf 1 _ rfl
      have h2 : DataW.trod enc Try.prog w base spare held n 3 (([c0, c1, c2, c3, c4, c5].drop 2).take (Try.prog.cellsOf 3)) = some y2 := hf 2 _ rfl
      have h3 : DataW.trod enc Try.prog w base spare held n 5 (([c0, c1, c2, c3, c4, c5].drop 3).take (Try.prog.cellsOf 5)) = some y3 := hf 3 _ rfl
      have h4 : DataW.trod enc Try.prog w base spare held n 9 (([c0, c1, c2, c3, c4, c5].drop 4).take (Try.prog.cellsOf 9)) = some y4 := hf 4 _ rfl
      have h5 : DataW.trod enc Try.prog w base spare held n 27 (([c0, c1, c2, c3, c4, c5].drop 5).take (Try.prog.cellsOf 27)) = some y5 := hf 5 _ rfl
      rw [law_cells3] at h0 h1 h2
      rw [law_cells5] at h3
      rw [law_cells9] at h4
      rw [law_cells27] at h5
      obtain ⟨k0, e0, _, w0⟩ := DataW.trod_int Try.underlying3 h0
      obtain ⟨k1, e1, _, w1⟩ := DataW.trod_int Try.underlying3 h1
      obtain ⟨k2, e2, _, w2⟩ := DataW.trod_int Try.underlying3 h2
      obtain ⟨k3, e3, _, w3⟩ := DataW.trod_int Try.underlying5 h3
      obtain ⟨k4, e4, _, w4⟩ := DataW.trod_string Try.underlying9 h4
      obtain ⟨k5, e5, _, w5⟩ := DataW.trod_int Try.underlying27 h5
      obtain ⟨m3, rfl, g3⟩ := nat_u8 w3
      obtain ⟨m5, rfl, g5⟩ := nat_u32 w5
      simp at e0 e1 e2 e3 e4 e5
      exact ⟨⟨k0, k1, k2, m3, k4, m5⟩, by rw [e0, e1, e2, e3, e4, e5]; rfl, bounds_i64 w0, bounds_i64 w1, bounds_i64 w2, g3, w4, g5⟩
end Go.Proofs.Ytlphlmpfjpombaa
