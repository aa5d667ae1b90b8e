/-
  The walks of bag's Take, Again and Spoil.
-/
import Derived.Test.YtlphlmpfjpombaaBagC
import Derived.Test.YtlphlmpfjpombaaCrcA
namespace Go.Proofs.Ytlphlmpfjpombaa
open Go.RowKit Go.Instr

theorem Kept.others {w w' : World} {g base n : Nat} {s : Value} {xs : List Value} (ho : w.ownsRow base 71 3 s n xs) (hg : s.ownBlock = some g) (hsz : w.heap.size ≤ w'.heap.size) (h : ∀ k, k ≠ g → w'.heap[k]? = w.heap[k]?) : Kept w w' :=
  ⟨hsz, fun k _ _ _ hk _ h2 => h k (fun e => own_ne ho hk (fun e => h2 e.symm) (by rw [hg, e]))⟩
set_option maxHeartbeats 1000000 in
theorem Take_yes (base B room i : Nat) (l : List Msg) (m : Msg) (w : World) (hl : l.length ≤ 200) (hb : BagAt w base B room l) (hbw : base ≤ B) (hi : i < l.length) (hm : l[i] = m) :
    Calls Try.prog 10 #[.pointer (some ⟨B, 0, none⟩), .int .i64 i] w (BagP base B room w (.tuple #[.int .u8 m.d, .string m.text, .bool true]) (l.eraseIdx i)) := by
  have HB := Lib.hid hb
  have hBw := hb.lt
  obtain ⟨s, h1, h2⟩ := hb
  obtain ⟨g, cap, rfl, hgb, hg, hnc, _, _, _⟩ := h2.form (by omega)
  have HV := Lib.hid h1
  have HO := Lib.hid h2
  have hBg := h2.ne h1 (by decide)
  have HI := Lib.hid hi
  have HM := Lib.hid hm
  have HL := Lib.hid hl
  have hi' : (i : Int) + 1 ≤ 200 := by omega
  clear h1 h2 hm hnc hl
  go_enter Try.func10, Try.ntmps10
  go_wp2_with (first
    | (go_at_call 19; (refine (At_yes base B room i l m _ HB.out HI.out HM.out).mono ?_); rintro en w1 ⟨rfl, hB1⟩; have HB1 := Lib.hid hB1; have c1 : w1.cell? ⟨B, 1, none⟩ = some (.slice (some ⟨g, 0, none⟩) l.length cap) := (HV.out.on hB1).cell 1; clear hB1)
    | (go_at_call 30; (refine (delete_any base g cap l i _ HL.out (HO.out.on HB1.out) HI.out).mono ?_); rintro en w2 ⟨rfl, hO2, hB2, hh2⟩; have HO2 := Lib.hid hO2; have HB2 := Lib.hid hB2; have HH2 := Lib.hid hh2; have HV2 : Hid (Blk w2 B #[.int .i64 room, .slice (some ⟨g, 0, none⟩) l.length cap] 68) := Lib.hid ((hh2 B hBg).trans (HV.out.on HB1.out)); have c1 := HV2.out.cell 1; have f1 := HV2.out.frozen 1; simp at c1; clear hO2 hB2 hh2))
  refine bodyPost_ret (by simp [results, Try.results10, go_sem]) rfl ⟨rfl, ⟨_, HV2.out.set 1 _ _ rfl, ?_⟩, ?_, ?_⟩
  · exact HO2.out.setB HV2.out (by decide)
  · exact ((HB1.out.mono (by omega)).trans HB2.out).setCell (p := ⟨B, 1, none⟩) hbw _
  · exact Kept.set ((Kept.of_below HB1.out).trans (Kept.others (HO.out.on HB1.out) rfl HB2.out.size HH2.out)) HV2.out (.inl rfl)
set_option maxHeartbeats 1000000 in
theorem Take_no (base B room : Nat) (i : Int) (l : List Msg) (w : World) (hb : BagAt w base B room l) (hbw : base ≤ B) (h1 : -9223372036854775808 ≤ i) (h2 : i ≤ 9223372036854775807) (hi : i < 0 ∨ (l.length : Int) ≤ i) :
    Calls Try.prog 10 #[.pointer (some ⟨B, 0, none⟩), .int .i64 i] w (BagP base B room w (.tuple #[.int .u8 0, .string ⟨#[]⟩, .bool false]) l) := by
  have HI := Lib.hid hi
  have HB := Lib.hid hb
  have hBw := hb.lt
  clear hi hb
  go_enter Try.func10, Try.ntmps10
  go_wp2_with (refine (At_no base B room i l _ HB.out h1 h2 HI.out).mono ?_; rintro en w1 ⟨rfl, hB1⟩; have HB1 := Lib.hid hB1; clear hB1)
  exact bodyPost_ret (by simp [results, Try.results10, go_sem]) rfl (.quiet (by omega) HB.out HB1.out)
set_option maxHeartbeats 1000000 in
theorem Take_nil (i : Int) (w : World) :
    Calls Try.prog 10 #[.pointer none, .int .i64 i] w fun e w' => e = .returned (.tuple #[.int .u8 0, .string ⟨#[]⟩, .bool false]) ∧ Below w.heap.size w w' := by
  go_enter Try.func10, Try.ntmps10
  go_wp2_with (refine (At_nil i _).mono ?_; rintro en w1 ⟨rfl, hB1⟩; have HB1 := Lib.hid hB1; clear hB1)
  exact bodyPost_ret (by simp [results, Try.results10, go_sem]) rfl ⟨rfl, HB1.out⟩
set_option maxHeartbeats 1000000 in
theorem Again_yes (base B room i : Nat) (l : List Msg) (m : Msg) (w : World) (hb : BagAt w base B room l) (hbw : base ≤ B) (hi : i < l.length) (hm : l[i] = m) (hr : room ≤ 200) (hlr : l.length < room) :
    Calls Try.prog 12 #[.pointer (some ⟨B, 0, none⟩), .int .i64 i] w (BagP base B room w (.bool true) (l ++ [m])) := by
  have HB := Lib.hid hb
  obtain ⟨s, h1, h2⟩ := hb
  obtain ⟨g, cap, rfl, _, hg, hnc, _, _, hc⟩ := h2.form (by omega)
  obtain ⟨q0, q1, q2⟩ := cells3 (o := i * 3) (fun j u hu => hc i hi j u hu)
  rw [hm] at q0 q1 q2
  have c1 : w.cell? ⟨B, 1, none⟩ = some (.slice (some ⟨g, 0, none⟩) l.length cap) := h1.cell 1
  clear hc h1 h2
  have HI := Lib.hid hi
  have HLR := Lib.hid hlr
  obtain ⟨n, hn⟩ : ∃ n, l.length = n := ⟨_, rfl⟩
  rw [hn] at hi hnc hlr
  simp only [hn] at c1
  clear hn hm
  have hi' : (i : Int) < n := by omega
  go_enter Try.func12, Try.ntmps12
  go_wp2_with (first | (go_at_call 31; (refine (has_yes base B room i l _ HB.out HI.out).mono ?_); rintro en w1 ⟨rfl, rfl⟩) | (go_at_call 32; (refine (add_yes base B room l m _ HLR.out hr HB.out hbw).mono ?_); rintro en w1 hp; have HP := Lib.hid hp; obtain ⟨rfl, _⟩ := hp))
  go_ret
  exact HP.out
set_option maxHeartbeats 1000000 in
theorem Again_full (base B room i : Nat) (l : List Msg) (m : Msg) (w : World) (hb : BagAt w base B room l) (hbw : base ≤ B) (hi : i < l.length) (hm : l[i] = m) (hlr : room ≤ l.length) :
    Calls Try.prog 12 #[.pointer (some ⟨B, 0, none⟩), .int .i64 i] w (BagP base B room w (.bool false) l) := by
  have HB := Lib.hid hb
  obtain ⟨s, h1, h2⟩ := hb
  obtain ⟨g, cap, rfl, _, hg, hnc, _, _, hc⟩ := h2.form (by omega)
  obtain ⟨q0, q1, q2⟩ := cells3 (o := i * 3) (fun j u hu => hc i hi j u hu)
  rw [hm] at q0 q1 q2
  have c1 : w.cell? ⟨B, 1, none⟩ = some (.slice (some ⟨g, 0, none⟩) l.length cap) := h1.cell 1
  clear hc h1 h2
  have HI := Lib.hid hi
  have HLR := Lib.hid hlr
  obtain ⟨n, hn⟩ : ∃ n, l.length = n := ⟨_, rfl⟩
  rw [hn] at hi hnc hlr
  simp only [hn] at c1
  clear hn hm
  have hi' : (i : Int) < n := by omega
  go_enter Try.func12, Try.ntmps12
  go_wp2_with (first | (go_at_call 31; (refine (has_yes base B room i l _ HB.out HI.out).mono ?_); rintro en w1 ⟨rfl, rfl⟩) | (go_at_call 32; (refine (add_no base B room l m _ HLR.out HB.out hbw).mono ?_); rintro en w1 hp; have HP := Lib.hid hp; obtain ⟨rfl, _⟩ := hp))
  go_ret
  exact HP.out
set_option maxHeartbeats 1000000 in
theorem Again_no (base B room : Nat) (i : Int) (l : List Msg) (w : World) (hb : BagAt w base B room l) (hbw : base ≤ B) (h1 : -9223372036854775808 ≤ i) (h2 : i ≤ 9223372036854775807) (hi : i < 0 ∨ (l.length : Int) ≤ i) :
    Calls Try.prog 12 #[.pointer (some ⟨B, 0, none⟩), .int .i64 i] w (BagP base B room w (.bool false) l) := by
  have HI := Lib.hid hi
  have HB := Lib.hid hb
  have hBw := hb.lt
  clear hi hb
  go_enter Try.func12, Try.ntmps12
  go_wp2_with (refine (has_no base B room i l _ HB.out h1 h2 HI.out).mono ?_; rintro en w1 ⟨rfl, rfl⟩)
  go_ret
  exact .quiet (by omega) HB.out (Below.refl _ _)
set_option maxHeartbeats 1000000 in
theorem Again_nil (i : Int) (w : World) :
    Calls Try.prog 12 #[.pointer none, .int .i64 i] w fun e w' => e = .returned (.bool false) ∧ Below w.heap.size w w' := by
  go_enter Try.func12, Try.ntmps12
  go_wp2_with (refine (has_nil i _).mono ?_; rintro en w1 ⟨rfl, rfl⟩)
  go_ret
  exact ⟨rfl, Below.refl _ _⟩
set_option maxHeartbeats 1000000 in
theorem Spoil_no (base B room : Nat) (i at_ : Int) (x : Nat) (l : List Msg) (w : World) (hb : BagAt w base B room l) (hbw : base ≤ B) (h1 : -9223372036854775808 ≤ i) (h2 : i ≤ 9223372036854775807) (hi : i < 0 ∨ (l.length : Int) ≤ i) :
    Calls Try.prog 13 #[.pointer (some ⟨B, 0, none⟩), .int .i64 i, .int .i64 at_, .int .u32 x] w (BagP base B room w (.bool false) l) := by
  have HI := Lib.hid hi
  have HB := Lib.hid hb
  have hBw := hb.lt
  clear hi hb
  go_enter Try.func13, Try.ntmps13
  go_wp2_with (refine (has_no base B room i l _ HB.out h1 h2 HI.out).mono ?_; rintro en w1 ⟨rfl, rfl⟩)
  go_ret
  exact .quiet (by omega) HB.out (Below.refl _ _)
set_option maxHeartbeats 1000000 in
theorem Spoil_nil (i at_ : Int) (x : Nat) (w : World) :
    Calls Try.prog 13 #[.pointer none, .int .i64 i, .int .i64 at_, .int .u32 x] w fun e w' => e = .returned (.bool false) ∧ Below w.heap.size w w' := by
  go_enter Try.func13, Try.ntmps13
  go_wp2_with (refine (has_nil i _).mono ?_; rintro en w1 ⟨rfl, rfl⟩)
  go_ret
  exact ⟨rfl, Below.refl _ _⟩
set_option maxHeartbeats 1000000 in
theorem Spoil_bad (base B room i : Nat) (at_ : Int) (x : Nat) (l : List Msg) (w : World) (hb : BagAt w base B room l) (hbw : base ≤ B) (hi : i < l.length) (hbad : l[i].bad = true) :
    Calls Try.prog 13 #[.pointer (some ⟨B, 0, none⟩), .int .i64 i, .int .i64 at_, .int .u32 x] w (BagP base B room w (.bool false) l) := by
  have HB := Lib.hid hb
  have hBw := hb.lt
  obtain ⟨s, h1, h2⟩ := hb
  obtain ⟨g, cap, rfl, _, hg, hnc, _, _, hc⟩ := h2.form (by omega)
  obtain ⟨q0, q1, q2⟩ := cells3 (o := i * 3) (fun j u hu => hc i hi j u hu)
  rw [hbad] at q2
  have c1 : w.cell? ⟨B, 1, none⟩ = some (.slice (some ⟨g, 0, none⟩) l.length cap) := h1.cell 1
  clear hc h1 h2 q0 q1 hbad
  have HI := Lib.hid hi
  obtain ⟨n, hn⟩ : ∃ n, l.length = n := ⟨_, rfl⟩
  rw [hn] at hi hnc
  simp only [hn] at c1
  clear hn
  have hi' : (i : Int) < n := by omega
  go_enter Try.func13, Try.ntmps13
  go_wp2_with (refine (has_yes base B room i l _ HB.out HI.out).mono ?_; rintro en w1 ⟨rfl, rfl⟩)
  go_ret
  exact .quiet (by omega) HB.out (Below.refl _ _)
set_option maxHeartbeats 1000000 in
theorem Spoil_yes (base B room i : Nat) (at_ : Int) (x : Nat) (l : List Msg) (m : Msg) (w : World) (hb : BagAt w base B room l) (hbw : base ≤ B) (hi : i < l.length) (hm : l[i] = m) (hbad : m.bad = false) (h1 : -9223372036854775808 ≤ at_) (h2 : at_ ≤ 9223372036854775807) (hx : x < 4294967296) (ht : m.text.size ≤ 1000) :
    Calls Try.prog 13 #[.pointer (some ⟨B, 0, none⟩), .int .i64 i, .int .i64 at_, .int .u32 x] w (BagP base B room w (.bool true) (l.set i ⟨m.d, turnB m.text at_ x, true⟩)) := by
  have HB := Lib.hid hb
  have hBw := hb.lt
  obtain ⟨s, hv, ho⟩ := hb
  obtain ⟨g, cap, rfl, hgb, hg, hnc, _, hfz, hc⟩ := ho.form (by omega)
  obtain ⟨md, mt, mb⟩ := m
  simp only at hbad ht
  subst hbad
  obtain ⟨q0, q1, q2⟩ := cells3 (o := i * 3) (fun j u hu => hc i hi j u hu)
  rw [hm] at q0 q1 q2
  have f1 := (hfz (i * 3 + 1) (show _ < cap * 3 by omega)).2
  have f2 := (hfz (i * 3 + 2) (show _ < cap * 3 by omega)).2
  have c1 : w.cell? ⟨B, 1, none⟩ = some (.slice (some ⟨g, 0, none⟩) l.length cap) := hv.cell 1
  have HV := Lib.hid hv
  have HO := Lib.hid ho
  clear hc hv ho hfz
  have HI := Lib.hid hi
  have HM := Lib.hid hm
  have HC1 := Lib.hid q1
  have HC2 := Lib.hid q2
  have HF1 := Lib.hid f1
  have HF2 := Lib.hid f2
  obtain ⟨n, hn⟩ : ∃ n, l.length = n := ⟨_, rfl⟩
  rw [hn] at hi hnc
  simp only [hn] at c1
  have HN := Lib.hid hn
  clear hn hm f1 f2
  have hi' : (i : Int) < n := by omega
  go_enter Try.func13, Try.ntmps13
  go_wp2_with (first
    | (go_at_call 31; (refine (has_yes base B room i l _ HB.out HI.out).mono ?_); rintro en w1 ⟨rfl, rfl⟩)
    | (go_at_call 33; (refine (Turn_any _ _ _ _ (by omega) h1 h2 hx).mono ?_); rintro en w1 ⟨rfl, hB1⟩; have HB1 := Lib.hid hB1; have q1 := (hB1.cell (p := ⟨g, i * 3 + 1, none⟩) hg).trans HC1.out; have q2 := (hB1.cell (p := ⟨g, i * 3 + 2, none⟩) hg).trans HC2.out; have f1 := (hB1.frozen (p := ⟨g, i * 3 + 1, none⟩) hg).trans HF1.out; have f2 := (hB1.frozen (p := ⟨g, i * 3 + 2, none⟩) hg).trans HF2.out; clear hB1))
  go_ret
  have hO1 := HO.out.on HB1.out
  have hO2 := hO1.put i 1 HI.out (by decide) ⟨md, turnB mt at_ x, false⟩ (.string (turnB mt at_ x)) (by rw [HM.out]; rfl)
  have hO3 := hO2.put i 2 (by rw [List.length_set]; exact HI.out) (by decide) ⟨md, turnB mt at_ x, true⟩ (.bool true) (by rw [List.getElem_set_self]; rfl)
  rw [List.set_set] at hO3
  have hBg := HO.out.ne HV.out (by decide)
  refine ⟨rfl, ⟨_, ((HV.out.on HB1.out).set_other _ _ hBg).set_other _ _ hBg, hO3⟩, ?_, ?_⟩
  · exact ((HB1.out.mono (by omega)).setCell (p := ⟨g, i * 3 + 1, none⟩) hgb _).setCell (p := ⟨g, i * 3 + 2, none⟩) hgb _
  · obtain ⟨cur, hcur⟩ : ∃ cur, w1.heap[g]? = some (.cells cur 71 (0, 0)) := by
      rcases hO1.2 with ⟨h, _⟩ | ⟨g', cap', cur, he, hb, hg', _⟩
      · cases h
      · simp only [Value.slice.injEq, Option.some.injEq, Addr.mk.injEq] at he
        obtain ⟨⟨rfl, _, _⟩, _, rfl⟩ := he
        exact ⟨cur, hg'⟩
    have k1 := Kept.set (j := i * 3 + 1) (v := .string (turnB mt at_ x)) (Kept.of_below HB1.out) hcur (.inr rfl)
    have k2 : ∃ cur2, (w1.setCell ⟨g, i * 3 + 1, none⟩ (.string (turnB mt at_ x))).heap[g]? = some (.cells cur2 71 (0, 0)) := ⟨cur.setIfInBounds (i * 3 + 1) (.string (turnB mt at_ x)), by simp [World.setCell, Array.getElem?_modify, hcur]⟩
    obtain ⟨cur2, hcur2⟩ := k2
    exact Kept.set k1 hcur2 (.inr rfl)
end Go.Proofs.Ytlphlmpfjpombaa
