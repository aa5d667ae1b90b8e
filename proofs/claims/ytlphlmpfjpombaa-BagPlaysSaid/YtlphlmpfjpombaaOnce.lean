/-
  The law BagOnce: the walk.
-/
import Derived.Test.YtlphlmpfjpombaaBagS
import Derived.Test.YtlphlmpfjpombaaCrcO
import Derived.Deep.LoopGhost
namespace Go.Proofs.Ytlphlmpfjpombaa
open Go.RowKit Go.Instr

/-- A text on its way is the sealed one, or it has been turned once. -/
def OkM (t : ByteArray) (m : Msg) : Prop := m.d = 1 ∧ ((m.bad = false ∧ m.text = t ++ sealB t) ∨ (m.bad = true ∧ ∃ (a : Int) (x : Nat), x < 4294967296 ∧ m.text = turnB (t ++ sealB t) a x))
theorem OkM.size {t : ByteArray} {m : Msg} (h : OkM t m) : m.text.size = t.size + 4 := by
  rcases h.2 with ⟨_, e⟩ | ⟨_, a, x, _, e⟩
  · rw [e, ByteArray.size_append, sealB_size]
  · rw [e, turnB_size, ByteArray.size_append, sealB_size]
theorem Open_ok (t : ByteArray) (m : Msg) (w : World) (ht : t.size ≤ 60) (hm : OkM t m) :
    Calls Try.prog 21 #[.string m.text] w fun e w' => (e = .returned (.tuple #[.string t, .int .i64 0]) ∨ e = .returned (.tuple #[.string ByteArray.empty, .int .i64 5])) ∧ Below w.heap.size w w' := by
  rcases hm.2 with ⟨_, e⟩ | ⟨_, a, x, hx, e⟩
  · rw [e]
    exact (Open_seal t w (by omega)).mono fun e w' ⟨h1, h2⟩ => ⟨.inl h1, h2⟩
  · rw [e]
    by_cases he : turnB (t ++ sealB t) a x = t ++ sealB t
    · rw [he]
      exact (Open_seal t w (by omega)).mono fun e w' ⟨h1, h2⟩ => ⟨.inl h1, h2⟩
    · exact (Open_turned t a x w (by omega) hx he).mono fun e w' ⟨h1, h2⟩ => ⟨.inr h1, h2⟩
theorem ok_erase {t : ByteArray} {l : List Msg} (h : ∀ m ∈ l, OkM t m) (i : Nat) : ∀ m ∈ l.eraseIdx i, OkM t m := fun m hm => h m (List.mem_of_mem_eraseIdx hm)
theorem ok_snoc {t : ByteArray} {l : List Msg} {a : Msg} (h : ∀ m ∈ l, OkM t m) (ha : OkM t a) : ∀ m ∈ l ++ [a], OkM t m := by
  intro m hm
  rcases List.mem_append.1 hm with h1 | h1
  · exact h m h1
  · rw [List.mem_singleton.1 h1]; exact ha
theorem ok_set {t : ByteArray} {l : List Msg} {a : Msg} (h : ∀ m ∈ l, OkM t m) (ha : OkM t a) (i : Nat) : ∀ m ∈ l.set i a, OkM t m := by
  intro m hm
  rcases List.mem_or_eq_of_mem_set hm with h1 | h1
  · exact h m h1
  · rw [h1]; exact ha
theorem BagAt.mono {w : World} {base b2 B room : Nat} {l : List Msg} (h : BagAt w base B room l) (hb : b2 ≤ base) : BagAt w b2 B room l := by
  obtain ⟨s, h1, h2⟩ := h
  exact ⟨s, h1, h2.mono hb⟩
/-- What stands behind one act: the bag, all its texts good. -/
def OnceAt (w : World) (B : Nat) (t : ByteArray) (wr : World) : Prop := ∃ l, BagAt wr w.heap.size B 50 l ∧ 0 < l.length ∧ l.length ≤ 50 ∧ (∀ m ∈ l, OkM t m) ∧ Below w.heap.size w wr
def OnceLoop (w : World) (B : Nat) (t : ByteArray) (len : Nat) (i : Value) (wr : World) : Prop := ∃ k : Nat, i = .int .i64 k ∧ k ≤ len ∧ k ≤ 40 ∧ OnceAt w B t wr
theorem OnceAt.on {w wr w2 : World} {B : Nat} {t : ByteArray} (h : OnceAt w B t wr) (hB : Below wr.heap.size wr w2) : OnceAt w B t w2 := by
  obtain ⟨l, h1, h2, h3, h4, h5⟩ := h
  exact ⟨l, h1.on hB, h2, h3, h4, m_below_on h5 hB⟩
/-- Again, Spoil and Take at a place of the bag: the bag's texts stay good. -/
theorem once_again (w : World) (B : Nat) (t : ByteArray) (l : List Msg) (r : Nat) (wr : World) (hwB : w.heap.size ≤ B) (hb : BagAt wr w.heap.size B 50 l) (hr : r < l.length) (hl : l.length ≤ 50) (hok : ∀ m ∈ l, OkM t m) (hB : Below w.heap.size w wr) :
    Calls Try.prog 12 #[.pointer (some ⟨B, 0, none⟩), .int .i64 r] wr fun e w' => (∃ b, e = .returned (.bool b)) ∧ OnceAt w B t w' := by
  by_cases hf : l.length < 50
  · exact (Again_yes w.heap.size B 50 r l _ wr hb hwB hr rfl (by decide) hf).mono fun e w' ⟨h1, h2, h3, _⟩ => ⟨⟨_, h1⟩, _, h2, by simp, by simp; omega, ok_snoc hok (hok _ (List.getElem_mem hr)), hB.trans h3⟩
  · exact (Again_full w.heap.size B 50 r l _ wr hb hwB hr rfl (by omega)).mono fun e w' ⟨h1, h2, h3, _⟩ => ⟨⟨_, h1⟩, _, h2, by omega, hl, hok, hB.trans h3⟩
theorem once_spoil (w : World) (B : Nat) (t : ByteArray) (l : List Msg) (r : Nat) (a : Int) (x : Nat) (wr : World) (hwB : w.heap.size ≤ B) (hb : BagAt wr w.heap.size B 50 l) (hr : r < l.length) (hl : l.length ≤ 50) (hok : ∀ m ∈ l, OkM t m) (hB : Below w.heap.size w wr) (ht : t.size ≤ 60)
    (h1 : -9223372036854775808 ≤ a) (h2 : a ≤ 9223372036854775807) (hx : x < 4294967296) :
    Calls Try.prog 13 #[.pointer (some ⟨B, 0, none⟩), .int .i64 r, .int .i64 a, .int .u32 x] wr fun e w' => (∃ b, e = .returned (.bool b)) ∧ OnceAt w B t w' := by
  have hm := hok _ (List.getElem_mem hr)
  cases hbad : l[r].bad with
  | true => exact (Spoil_bad w.heap.size B 50 r a x l wr hb hwB hr hbad).mono fun e w' ⟨h1, h2, h3, _⟩ => ⟨⟨_, h1⟩, _, h2, by omega, hl, hok, hB.trans h3⟩
  | false =>
    refine (Spoil_yes w.heap.size B 50 r a x l _ wr hb hwB hr rfl hbad h1 h2 hx (by have := hm.size; omega)).mono fun e w' ⟨h1, h2, h3, _⟩ => ⟨⟨_, h1⟩, _, h2, by simp; omega, by simpa using hl, ok_set hok ?_ r, hB.trans h3⟩
    refine ⟨hm.1, .inr ⟨rfl, a, x, hx, ?_⟩⟩
    rcases hm.2 with ⟨_, e⟩ | ⟨hb', _⟩
    · rw [e]
    · rw [hbad] at hb'; cases hb'
theorem once_take (w : World) (B : Nat) (t : ByteArray) (l : List Msg) (r : Nat) (wr : World) (hwB : w.heap.size ≤ B) (hb : BagAt wr w.heap.size B 50 l) (hr : r < l.length) (hl : l.length ≤ 50) (h1l : 1 < l.length) (hok : ∀ m ∈ l, OkM t m) (hB : Below w.heap.size w wr) :
    Calls Try.prog 10 #[.pointer (some ⟨B, 0, none⟩), .int .i64 r] wr fun e w' => (∃ a s b, e = .returned (.tuple #[a, s, b])) ∧ OnceAt w B t w' :=
  (Take_yes w.heap.size B 50 r l _ wr (by omega) hb hwB hr rfl).mono fun e w' ⟨h1, h2, h3, _⟩ => ⟨⟨_, _, _, h1⟩, _, h2, by rw [List.length_eraseIdx, if_pos hr]; omega, by rw [List.length_eraseIdx, if_pos hr]; omega, ok_erase hok r, hB.trans h3⟩
/-- The loop that empties the bag. -/
def OnceEnd (w : World) (B : Nat) (t : ByteArray) (n : Nat) (wr : World) : Prop := ∃ l, BagAt wr w.heap.size B 50 l ∧ l.length = n ∧ l.length ≤ 50 ∧ (∀ m ∈ l, OkM t m) ∧ Below w.heap.size w wr
theorem rem_pos (i : Int) (n : Nat) (hn : 0 < n) : ∃ (q : Int) (r : Nat), i.tmod n = q ∧ -(n : Int) < q ∧ q < n ∧ (q + n) % n = r ∧ r < n := by
  have h1 := Int.tmod_lt_of_pos i (show (0 : Int) < n by omega)
  have h2 : -(n : Int) < i.tmod n := Int.lt_tmod_of_pos i (by omega)
  have h3 := Int.emod_nonneg (i.tmod n + n) (show (n : Int) ≠ 0 by omega)
  have h4 := Int.emod_lt_of_pos (i.tmod n + n) (show (0 : Int) < n by omega)
  refine ⟨_, ((i.tmod n + n) % n).toNat, rfl, h2, h1, ?_, ?_⟩ <;> omega
set_option maxHeartbeats 4000000 in
set_option maxRecDepth 100000 in
theorem once_walk (s t : ByteArray) (l : List ActD) (a : Option Addr) (len cap : Nat) (w : World) (hs : s.size ≤ maxLen) (hlen : len ≤ maxLen) (hl : l.length = len) (hf : ∀ x ∈ l, x.fine) (hA : 0 < len → actR.At w (.slice a len cap) l)
    (ht : t.size ≤ 60) (hcut : (s.size ≤ 60 ∧ t = s) ∨ (60 < s.size ∧ t = s.extract 0 60)) :
    Calls Try.prog 4 #[.string s, .slice a len cap] w fun e w' => e = .returned (.bool true) ∧ Below w.heap.size w w' := by
  unfold maxLen at hs hlen
  have HA := Lib.hid hA
  have HF := Lib.hid hf
  have HL := Lib.hid hl
  clear hA hf hl
  have h50 : (max 0 (min (50 : Int) 200)).toNat = 50 := by decide
  rcases hcut with ⟨hc, rfl⟩ | ⟨hc, rfl⟩
  all_goals
    go_enter Try.func4, Try.ntmps4
    go_upto_region 7 with (first
      | (go_at_call 8; (refine (speaks7 _).mono ?_); rintro en w1 ⟨rfl, hB1⟩; have HB1 := Lib.hid hB1; clear hB1)
      | (go_at_call 9; (refine (New_is 50 50 _ (by decide) (by decide) (by decide)).mono ?_); rintro en w2 ⟨rfl, hA2, hB2⟩; have HA2 := Lib.hid hA2; have HB2 := Lib.hid (m_below_on HB1.out hB2); have HW2 := Lib.hid hB2; clear hA2 hB2)
      | (go_at_call 20; (refine (Seal_any _ _ (by omega)).mono ?_); rintro en w3 ⟨rfl, hB3⟩; have HA3 := Lib.hid (HA2.out.on hB3); have HB3 := Lib.hid (m_below_on HB2.out hB3); clear hB3)
      | (go_at_call 17; (refine (Put_yes w1.heap.size w1.heap.size 50 1 [] _ _ (by decide) (by decide) HA3.out (Nat.le_refl _)).mono ?_); rintro en w4 ⟨rfl, hA4, hB4, _⟩; have HA4 := Lib.hid hA4; have HB4 := Lib.hid (HB3.out.trans (hB4.mono HB1.out.size)); clear hA4 hB4))
    first | (generalize hT : s.extract 0 60 = t at *; have HT := Lib.hid hT; clear hT) | skip
    have hwB : w.heap.size ≤ w1.heap.size := HB1.out.size
    have HAT : Hid (OnceAt w w1.heap.size t w4) := Lib.hid ⟨_, BagAt.mono HA4.out hwB, by simp, by simp, by
      intro m hm
      simp only [List.nil_append, List.mem_singleton] at hm
      subst hm
      exact ⟨rfl, .inl ⟨rfl, rfl⟩⟩, HB4.out⟩
    clear HA2 HB2 HW2 HA3 HB3 HA4 HB4 HB1
    generalize w1.heap.size = B at *
    go_wp2_with fail
    go_loopw [6] (fun i wr => OnceLoop w B t len i wr) (fun i _ => len - (intOf i).toNat)
    case atStart => exact ⟨0, rfl, Nat.zero_le _, by decide, HAT.out⟩
    case round =>
      obtain ⟨k, rfl, hk, hk40, lm, hb, hpos, hl50, hok, hBw⟩ := hrel
      clear HAT
      have HBA := Lib.hid hb
      have HOK := Lib.hid hok
      have HBW := Lib.hid hBw
      clear hb hok hBw
      by_cases hlk : k < len ∧ k < 40
      · obtain ⟨hlk, hk4⟩ := hlk
        have hkl : k < l.length := by rw [HL.out]; exact hlk
        obtain ⟨b, off, cc, he, hbw, hcells⟩ := ((HA.out (by omega)).on HBW.out).form (by omega)
        simp only [Value.slice.injEq] at he
        obtain ⟨rfl, hnn, rfl⟩ := he
        clear hnn
        have hfx := HF.out _ (List.getElem_mem hkl)
        have x0 := hcells k hkl 0 _ rfl
        have x1 := hcells k hkl 1 _ rfl
        have x2 := hcells k hkl 2 _ rfl
        have x3 := hcells k hkl 3 _ rfl
        have x4 := hcells k hkl 4 _ rfl
        have x5 := hcells k hkl 5 _ rfl
        obtain ⟨X, hX⟩ : ∃ X, l[k] = X := ⟨_, rfl⟩
        rw [hX] at hfx x0 x1 x2 x3 x4 x5
        clear hX hcells
        obtain ⟨xw, xi, xa, xd, xt, xb⟩ := X
        obtain ⟨⟨g1, g2⟩, ⟨g3, g4⟩, ⟨g5, g6⟩, g7, g8, g9⟩ := hfx
        simp only at g1 g2 g3 g4 g5 g6 g7 g8 g9
        replace x0 : wr.cell? ⟨b, off + k * 6, none⟩ = some (.int .i64 xw) := x0
        replace x1 : wr.cell? ⟨b, off + k * 6 + 1, none⟩ = some (.int .i64 xi) := x1
        replace x2 : wr.cell? ⟨b, off + k * 6 + 2, none⟩ = some (.int .i64 xa) := x2
        replace x3 : wr.cell? ⟨b, off + k * 6 + 3, none⟩ = some (.int .u8 xd) := x3
        replace x4 : wr.cell? ⟨b, off + k * 6 + 4, none⟩ = some (.string xt) := x4
        replace x5 : wr.cell? ⟨b, off + k * 6 + 5, none⟩ = some (.int .u32 xb) := x5
        obtain ⟨n, hn⟩ : ∃ n, lm.length = n := ⟨_, rfl⟩
        rw [hn] at hpos hl50
        have HN := Lib.hid hn
        clear hn
        obtain ⟨q, r, hq, hq1, hq2, hr, hrn⟩ := rem_pos xi n hpos
        obtain ⟨q3, r3, hq3, hq31, hq32, hr3, hrn3⟩ := rem_pos xw 3 (by decide)
        replace hq3 : xw.tmod 3 = q3 := hq3
        replace hr3 : (q3 + 3) % 3 = r3 := hr3
        replace hq31 : -3 < q3 := hq31
        replace hq32 : q3 < 3 := hq32
        have hn0 : ¬ (n : Int) = 0 := by omega
        have hrl : r < lm.length := by rw [HN.out]; exact hrn
        have HRL := Lib.hid hrl
        clear hrl
        have hr3' : (q3 + 3) % 3 = 0 ∨ (q3 + 3) % 3 = 1 ∨ (q3 + 3) % 3 = 2 := by omega
        clear hr3 hrn3
        rcases hr3' with hr3 | hr3 | hr3
        · go_wp2_with (first
            | (go_at_call 18; (refine (Len_is w.heap.size B 50 n lm _ (HBA.out.on (by go_grown)) HN.out).mono ?_); rintro en w5 ⟨rfl, rfl⟩)
            | (go_at_call 12; (refine (once_again w B t lm r _ hwB (HBA.out.on (by go_grown)) HRL.out (by rw [HN.out]; exact hl50) HOK.out (m_below_on HBW.out (by go_grown))).mono ?_); rintro en w6 ⟨⟨bb, rfl⟩, hO⟩; have HO := Lib.hid hO; clear hO))
          go_roundw
          case rel => exact ⟨k + 1, by go_num, by omega, by omega, HO.out⟩
          case measure => simp [intOf]; omega
        · go_wp2_with (first
            | (go_at_call 18; (refine (Len_is w.heap.size B 50 n lm _ (HBA.out.on (by go_grown)) HN.out).mono ?_); rintro en w5 ⟨rfl, rfl⟩)
            | (go_at_call 13; (refine (once_spoil w B t lm r xa xb _ hwB (HBA.out.on (by go_grown)) HRL.out (by rw [HN.out]; exact hl50) HOK.out (m_below_on HBW.out (by go_grown)) ht g5 g6 g9).mono ?_); rintro en w6 ⟨⟨bb, rfl⟩, hO⟩; have HO := Lib.hid hO; clear hO))
          go_roundw
          case rel => exact ⟨k + 1, by go_num, by omega, by omega, HO.out⟩
          case measure => simp [intOf]; omega
        · by_cases h1n : 1 < n
          · go_wp2_with (first
              | (go_at_call 18; (refine (Len_is w.heap.size B 50 n lm _ (HBA.out.on (by go_grown)) HN.out).mono ?_); rintro en w5 ⟨rfl, rfl⟩)
              | (go_at_call 10; (refine (once_take w B t lm r _ hwB (HBA.out.on (by go_grown)) HRL.out (by rw [HN.out]; exact hl50) (by rw [HN.out]; exact h1n) HOK.out (m_below_on HBW.out (by go_grown))).mono ?_); rintro en w6 ⟨⟨ba, bs, bb, rfl⟩, hO⟩; have HO := Lib.hid hO; clear hO))
            go_roundw
            case rel => exact ⟨k + 1, by go_num, by omega, by omega, HO.out⟩
            case measure => simp [intOf]; omega
          · go_wp2_with (first
              | (go_at_call 18; (refine (Len_is w.heap.size B 50 n lm _ (HBA.out.on (by go_grown)) HN.out).mono ?_); rintro en w5 ⟨rfl, rfl⟩))
            go_roundw
            case rel => exact ⟨k + 1, by go_num, by omega, by omega, lm, HBA.out.on (by go_grown), by rw [HN.out]; exact hpos, by rw [HN.out]; exact hl50, HOK.out, m_below_on HBW.out (by go_grown)⟩
            case measure => simp [intOf]; omega
      · have hcase : (¬ k < len) ∨ (k < len ∧ ¬ k < 40) := by omega
        have HE : Hid (OnceEnd w B t lm.length wr) := Lib.hid ⟨lm, HBA.out, rfl, hl50, HOK.out, HBW.out⟩
        clear hlk HBA HOK HBW
        obtain ⟨n, hn⟩ : ∃ n, lm.length = n := ⟨_, rfl⟩
        rw [hn] at HE
        clear hn hpos hl50
        rcases hcase with hc | ⟨hc, hc2⟩
        all_goals
          go_wp2
          go_loopg [10] n (fun g _ wx => OnceEnd w B t g wx)
          case atStart => exact HE.out
          case round =>
            obtain ⟨l2, hb2, hn2, hl2, hok2, hBw2⟩ := hrel
            have HBA := Lib.hid hb2
            have HOK := Lib.hid hok2
            have HBW := Lib.hid hBw2
            have HN := Lib.hid hn2
            have hg50 : gk ≤ 50 := by omega
            clear hb2 hn2 hl2 hok2 hBw2 HE
            cases gk with
            | zero =>
              go_wp2_with (go_at_call 18; (refine (Len_is w.heap.size B 50 0 l2 _ HBA.out HN.out).mono ?_); rintro en w5 ⟨rfl, rfl⟩)
              go_ret
              exact ⟨rfl, HBW.out⟩
            | succ g =>
              have h0 : 0 < l2.length := by rw [HN.out]; omega
              have hm := HOK.out _ (List.getElem_mem h0)
              obtain ⟨m, hmm⟩ : ∃ m, l2[0] = m := ⟨_, rfl⟩
              rw [hmm] at hm
              have HMM := Lib.hid hmm
              have HM := Lib.hid hm
              clear hmm hm
              have H0 := Lib.hid h0
              go_wp2_with (first
                | (go_at_call 18; (refine (Len_is w.heap.size B 50 (g + 1) l2 _ HBA.out HN.out).mono ?_); rintro en w5 ⟨rfl, rfl⟩)
                | (go_at_call 10; (refine (Take_yes w.heap.size B 50 0 l2 m _ (by rw [HN.out]; omega) HBA.out hwB H0.out HMM.out).mono ?_); rintro en w6 ⟨rfl, hA6, hB6, _⟩; have HA6 := Lib.hid hA6; have HB6 := Lib.hid (HBW.out.trans hB6); clear hA6 hB6))
              refine (Open_ok t m _ ht HM.out).mono ?_
              rintro en w7 ⟨(rfl | rfl), hB7⟩
              all_goals
                have HA7 := Lib.hid (HA6.out.on hB7)
                have HB7 := Lib.hid (m_below_on HB6.out hB7)
                clear hB7
                go_wp2
                go_roundg g
                case measure => omega
                case rel => exact ⟨_, HA7.out, by rw [List.length_eraseIdx, if_pos H0.out, HN.out]; rfl, by rw [List.length_eraseIdx, if_pos H0.out, HN.out]; omega, ok_erase HOK.out 0, HB7.out⟩
end Go.Proofs.Ytlphlmpfjpombaa
