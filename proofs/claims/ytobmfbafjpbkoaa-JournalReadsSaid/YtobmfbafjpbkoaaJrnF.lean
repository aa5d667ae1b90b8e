/-
  The law's same, Open of a disk of whole records, and the first lines of the laws of layer 10 ('speaks').
-/
import Derived.Test.YtobmfbafjpbkoaaJrnE
namespace Go.Proofs.Ytobmfbafjpbkoaa
open Go.RowKit Go.Instr

theorem str_cell {w : World} {v : Value} {l : List ByteArray} (h : strR.At w v l) : ∃ a c, v = .slice a l.length c ∧ ∀ i (hi : i < l.length), ∃ b off, a = some ⟨b, off, none⟩ ∧ w.cell? ⟨b, off + i, none⟩ = some (.string l[i]) := by
  rcases h with ⟨rfl, rfl⟩ | ⟨b, off, cap, rfl, hb, hc⟩
  · exact ⟨_, _, rfl, fun i hi => absurd hi (Nat.not_lt_zero _)⟩
  · refine ⟨_, _, rfl, fun i hi => ⟨b, off, rfl, hc i _ ?_⟩⟩
    have := strR.row_at l i 0 hi (by decide)
    simpa [strR] using this
theorem same_len (a1 a2 : Option Addr) (n1 n2 c1 c2 : Nat) (w : World) (h : n1 ≠ n2) : Calls Try.prog 26 #[.slice a1 n1 c1, .slice a2 n2 c2] w fun e w' => e = .returned (.bool false) ∧ w = w' := by
  have hb : ((n1 : Int) != (n2 : Int)) = true := by simp; omega
  go_enter Try.func26, Try.ntmps26
  go_wp2
  go_ret
  exact ⟨rfl, rfl⟩
set_option maxHeartbeats 1000000 in
theorem same_yes (v1 v2 : Value) (l : List ByteArray) (w : World) (hl : l.length ≤ 1000000) (h1 : strR.At w v1 l) (h2 : strR.At w v2 l) : Calls Try.prog 26 #[v1, v2] w fun e w' => e = .returned (.bool true) ∧ Below w.heap.size w w' := by
  obtain ⟨a1, c1, rfl, hc1⟩ := str_cell h1
  obtain ⟨a2, c2, rfl, hc2⟩ := str_cell h2
  have HC1 := Lib.hid hc1
  have HC2 := Lib.hid hc2
  obtain ⟨n, hn⟩ : ∃ n, l.length = n := ⟨_, rfl⟩
  have HN := Lib.hid hn
  rw [hn] at hl ⊢
  have hnn : ((n : Int) != (n : Int)) = false := by simp
  clear hc1 hc2 h1 h2 hn
  go_enter Try.func26, Try.ntmps26
  go_wp2
  go_loopw [5] (fun i wr => ∃ k : Nat, i = .int .i64 k ∧ k ≤ n ∧ Below w.heap.size w wr) (fun i _ => (n - (intOf i).toNat))
  case atStart => exact ⟨0, rfl, Nat.zero_le _, Below.refl _ _⟩
  case round =>
    obtain ⟨k, rfl, hk, hB⟩ := hrel
    have HB := Lib.hid hB
    clear hB
    by_cases hlt : k < n
    · have hkl : k < l.length := by rw [HN.out]; exact hlt
      obtain ⟨b1, o1, rfl, y1⟩ := HC1.out k hkl
      obtain ⟨b2, o2, rfl, y2⟩ := HC2.out k hkl
      generalize l[k] = x at y1 y2
      have z1 := (HB.out.cell (p := ⟨b1, o1 + k, none⟩) (World.block_lt_of_cell? _ _ y1)).trans y1
      have z2 := (HB.out.cell (p := ⟨b2, o2 + k, none⟩) (World.block_lt_of_cell? _ _ y2)).trans y2
      have hxx : (x.toList != x.toList) = false := by simp
      have hda : decide ((k : Int) < (n : Int)) = true := by simp; omega
      clear y1 y2
      go_wp2
      go_quiet (fail)
      have HBq := Lib.hid (m_below_on HB.out (below_drN4 wr nq))
      clear z1 z2
      generalize wr.drewN nq = wq at *
      go_wp2
      go_roundw
      case rel => exact ⟨k + 1, by go_num, by omega, HBq.out⟩
      case measure => simp [intOf]; omega
    · have hda : decide ((k : Int) < (n : Int)) = false := by simp; omega
      go_wp2
      go_ret
      exact ⟨rfl, HB.out⟩
theorem own_at {w : World} {base : Nat} {v : Value} {l : List ByteArray} (h : strR.Own 9 w base v l) : strR.At w v l := h.at
def OpenL (base B : Nat) (l : List ByteArray) (w : World) (e : Ending) (w' : World) : Prop :=
  ∃ J, e = .returned (.tuple #[.pointer (some ⟨J, 0, none⟩), .int .i64 0]) ∧ JrnAt w' w.heap.size B J l false ∧ DiskAt w' base B ⟨frs l, (frs l).size, true⟩ ∧ Below base w w' ∧ Kept w w' ∧ w.heap.size < w'.heap.size
theorem Open_is {w : World} {base B d : Nat} {l : List ByteArray} (h : DiskAt w base B ⟨frs l, d, true⟩) (hbw : base ≤ B) (hd : d ≤ (frs l).size) (hok : ∀ x ∈ l, okR x) (hs : (frs l).size ≤ 900000) : Calls Try.prog 25 #[.pointer (some ⟨B, 0, none⟩)] w (OpenL base B l w) :=
  (Open_on (frs l) h hbw ⟨hd, by show (frs l).size ≤ 1048576; omega⟩ rfl rfl hs).mono fun e w' ⟨J, l', r, h1, h2, h3, h4, h5, h6, h7⟩ => by
    obtain ⟨e1, e2⟩ := recs_one (recs_whole hok) h2
    subst e1
    exact ⟨J, h1, h3, h4, h5, h6, h7⟩
def AddL (base b0 B J : Nat) (l : List ByteArray) (x : ByteArray) (w : World) (e : Ending) (w' : World) : Prop :=
  e = .returned (.int .i64 0) ∧ JrnAt w' b0 B J (l ++ [x]) false ∧ DiskAt w' base B ⟨frs (l ++ [x]), (frs (l ++ [x])).size, true⟩ ∧ Below base w w' ∧ KeptB b0 w w'
theorem Add_is {w : World} {base B J b0 d : Nat} {l : List ByteArray} (x : ByteArray) (hj : JrnAt w b0 B J l false) (h : DiskAt w base B ⟨frs l, d, true⟩) (hbw : base ≤ B) (hb0 : base ≤ b0) (hd : d ≤ (frs l).size) (hx : okR x) (hf : (frs l).size + (x.size + 6) ≤ 1048576) (hl : l.length ≤ 1000000) :
    Calls Try.prog 28 #[.pointer (some ⟨J, 0, none⟩), .string x] w (AddL base b0 B J l x w) :=
  (Add_on x hj h hbw hb0 ⟨hd, by show (frs l).size ≤ 1048576; omega⟩ rfl hx hf hl).mono fun e w' ⟨h1, h2, h3, h4, h5⟩ => by
    refine ⟨h1, h2, ?_, h4, h5⟩
    rw [frs_snoc]
    exact h3
theorem okA : okR ⟨#[97]⟩ := ⟨by decide, by decide⟩
theorem okB : okR ⟨#[98]⟩ := ⟨by decide, by decide⟩
theorem frs_size_snoc (l : List ByteArray) (x : ByteArray) : (frs (l ++ [x])).size = (frs l).size + (x.size + 6) := by rw [frs_snoc, ByteArray.size_append, fr_size]
theorem ok_snoc {l : List ByteArray} {x : ByteArray} (h : ∀ y ∈ l, okR y) (hx : okR x) : ∀ y ∈ l ++ [x], okR y := by
  intro y hy
  rcases List.mem_append.1 hy with h1 | h1
  · exact h y h1
  · rw [List.mem_singleton.1 h1]; exact hx
/-- A list of records in play: nothing of it is known but its size and that each may be. -/
structure Recs (l : List ByteArray) (n m : Nat) : Prop where
  len : l.length = n
  size : (frs l).size = m
  ok : ∀ y ∈ l, okR y
theorem recs_nil : Recs [] 0 0 := ⟨rfl, rfl, fun _ h => (by cases h)⟩
theorem Recs.snoc {l : List ByteArray} {n m : Nat} (h : Recs l n m) {x : ByteArray} (hx : okR x) {s : Nat} (hs : x.size = s) : Recs (l ++ [x]) (n + 1) (m + (s + 6)) :=
  ⟨by rw [List.length_append, h.len]; rfl, by rw [frs_size_snoc, h.size, hs], ok_snoc h.ok hx⟩
set_option maxHeartbeats 2000000 in
theorem speaks10_walk (l0 l1 l2 : List ByteArray) (h0 : l0 = []) (h1 : l1 = l0 ++ [⟨#[97]⟩]) (h2 : l2 = l1 ++ [⟨#[98]⟩]) (r0 : Recs l0 0 0) (r1 : Recs l1 1 7) (r2 : Recs l2 2 14) (w : World) : Calls Try.prog 22 #[] w fun e w' => e = .returned (.bool true) ∧ Below w.heap.size w w' := by
  have e0 : (⟨ByteArray.empty, 0, true⟩ : Dk) = ⟨frs l0, 0, true⟩ := by rw [h0, frs_nil]
  have y0' : ∃ h : 0 < l2.length, l2[0] = ⟨#[97]⟩ := by subst h2; subst h1; subst h0; exact ⟨by decide, rfl⟩
  have y1' : ∃ h : 1 < l2.length, l2[1] = ⟨#[98]⟩ := by subst h2; subst h1; subst h0; exact ⟨by decide, rfl⟩
  have E0 := Lib.hid e0
  have H1 := Lib.hid h1
  have H2 := Lib.hid h2
  have R0 := Lib.hid r0
  have R1 := Lib.hid r1
  have R2 := Lib.hid r2
  have Y0 := Lib.hid y0'
  have Y1 := Lib.hid y1'
  clear h0 h1 h2 r0 r1 r2 e0 y0' y1'
  go_enter Try.func22, Try.ntmps22
  go_upto_region 6 with (first
    | (go_at_call 9; (refine (New_disk _).mono ?_); rintro en w1 ⟨rfl, hA1, hB1, hz1⟩; have HD1 : Hid (DiskAt w1 w.heap.size w.heap.size ⟨frs l0, 0, true⟩) := Lib.hid (E0.out ▸ hA1); have HB1 := Lib.hid hB1; have HZ1 := Lib.hid hz1; clear hA1 hB1 hz1)
    | (go_at_call 25; (refine (Open_is (l := l2) HD4.out (Nat.le_refl _) (Nat.le_refl _) R2.out.ok (by rw [R2.out.size]; decide)).mono ?_); rintro en w5 ⟨J2, rfl, hJ5, hD5, hB5, hK5, hz5⟩; have HJ5 := Lib.hid hJ5; have HB5 := Lib.hid (HB4.out.trans hB5); clear hJ5 hD5 hB5 hK5 hz5)
    | (go_at_call 25; (refine (Open_is (l := l0) HD1.out (Nat.le_refl _) (Nat.zero_le _) R0.out.ok (by rw [R0.out.size]; decide)).mono ?_); rintro en w2 ⟨J, rfl, hJ2, hD2, hB2, hK2, hz2⟩; have HJ2 := Lib.hid hJ2; have HD2 := Lib.hid hD2; have HB2 := Lib.hid (HB1.out.trans hB2); clear hJ2 hD2 hB2 hK2 hz2)
    | (go_at_call 28; (refine (Add_is ⟨#[98]⟩ HJ3.out HD3.out (Nat.le_refl _) (by have := HB1.out.size; omega) (Nat.le_refl _) okB (by rw [R1.out.size]; decide) (by rw [R1.out.len]; decide)).mono ?_); rintro en w4 ⟨rfl, hJ4, hD4, hB4, _⟩; rw [← H2.out] at hD4; have HD4 := Lib.hid hD4; have HB4 := Lib.hid (HB3.out.trans hB4); clear hJ4 hD4 hB4)
    | (go_at_call 28; (refine (Add_is ⟨#[97]⟩ HJ2.out HD2.out (Nat.le_refl _) (by have := HB1.out.size; omega) (Nat.le_refl _) okA (by rw [R0.out.size]; decide) (by rw [R0.out.len]; decide)).mono ?_); rintro en w3 ⟨rfl, hJ3, hD3, hB3, _⟩; rw [← H1.out] at hJ3 hD3; have HJ3 := Lib.hid hJ3; have HD3 := Lib.hid hD3; have HB3 := Lib.hid (HB2.out.trans hB3); clear hJ3 hD3 hB3)
    | (go_at_call 27; (refine (Records_any HJ5.out (by rw [R2.out.len]; decide)).mono ?_); rintro en w6 ⟨v6, rfl, hO6, hB6⟩; have HO6 := Lib.hid hO6; have HB6 := Lib.hid (m_below_on HB5.out hB6); clear hO6 hB6))
  obtain ⟨g, c, rfl, _, hg, _, _, _, hc⟩ := HO6.out.form (by rw [R2.out.len]; decide)
  obtain ⟨q0, p0⟩ := Y0.out
  obtain ⟨q1, p1⟩ := Y1.out
  have y0 : w6.cell? ⟨g, 0, none⟩ = some (.string ⟨#[97]⟩) := by have := hc 0 q0 0 _ rfl; rw [p0] at this; exact this
  have y1 : w6.cell? ⟨g, 1, none⟩ = some (.string ⟨#[98]⟩) := by have := hc 1 q1 0 _ rfl; rw [p1] at this; exact this
  clear hc p0 p1 q0 q1
  rw [R2.out.len]
  go_wp2
  go_ret
  exact ⟨rfl, HB6.out⟩
theorem speaks10 (w : World) : Calls Try.prog 22 #[] w fun e w' => e = .returned (.bool true) ∧ Below w.heap.size w w' :=
  speaks10_walk _ _ _ rfl rfl rfl recs_nil (recs_nil.snoc okA rfl) ((recs_nil.snoc okA rfl).snoc okB rfl) w
end Go.Proofs.Ytobmfbafjpbkoaa
