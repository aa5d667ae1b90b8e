/-
  The walks of bag's At, add, Put, New, slices.Delete over messages, and Take.
-/
import Derived.Test.YtlphlmpfjpombaaBagA
namespace Go.Proofs.Ytlphlmpfjpombaa
open Go.RowKit Go.Instr

theorem Try.info71 : (Try.prog.info? 71).map (fun i => (i.zero, i.size, i.bytes)) = some (some (.agg #[.int .u8 0, .string ⟨#[]⟩, .bool false]), 3, 32) := by kernel_rfl
theorem infoP71 : ∃ i, Try.prog.info? 71 = some i ∧ i.zero = some (.agg #[.int .u8 0, .string ⟨#[]⟩, .bool false]) ∧ i.size = 3 ∧ i.bytes = 32 := by
  have h := Try.info71
  rcases hi : Try.prog.info? 71 with _ | i
  · rw [hi] at h; cases h
  · rw [hi] at h
    simp only [Option.map_some, Option.some.injEq, Prod.mk.injEq] at h
    exact ⟨i, rfl, h.1, h.2.1, h.2.2⟩
theorem news3 {w : World} {B : Nat} {v0 v1 v2 : Value} (h0 : w.cell? ⟨B, 0, none⟩ = some v0) (h1 : w.cell? ⟨B, 1, none⟩ = some v1) (h2 : w.cell? ⟨B, 2, none⟩ = some v2) :
    ∀ j u, ([v0, v1, v2] : List Value)[j]? = some u → w.cell? ((⟨B, 0, none⟩ : Addr).add j) = some u := by
  intro j u hj
  have e : (⟨B, 0, none⟩ : Addr).add j = ⟨B, j, none⟩ := by unfold Addr.add; split <;> simp_all
  rw [e]
  match j, hj with
  | 0, hj => cases hj; exact h0
  | 1, hj => cases hj; exact h1
  | 2, hj => cases hj; exact h2
theorem cells3 {w : World} {b o : Nat} {m : Msg} (h : ∀ j u, (msgR.f m)[j]? = some u → w.cell? ⟨b, o + j, none⟩ = some u) : w.cell? ⟨b, o, none⟩ = some (.int .u8 m.d) ∧ w.cell? ⟨b, o + 1, none⟩ = some (.string m.text) ∧ w.cell? ⟨b, o + 2, none⟩ = some (.bool m.bad) := ⟨h 0 _ rfl, h 1 _ rfl, h 2 _ rfl⟩
set_option maxHeartbeats 400000 in
theorem At_yes (base B room i : Nat) (l : List Msg) (m : Msg) (w : World) (hb : BagAt w base B room l) (hi : i < l.length) (hm : l[i] = m) :
    Calls Try.prog 19 #[.pointer (some ⟨B, 0, none⟩), .int .i64 i] w fun e w' => e = .returned (.tuple #[.int .u8 m.d, .string m.text, .bool true]) ∧ Below w.heap.size w w' := by
  have HB := Lib.hid hb
  obtain ⟨s, h1, h2⟩ := hb
  obtain ⟨g, cap, rfl, _, hg, hnc, _, _, hc⟩ := h2.form (by omega)
  obtain ⟨q0, q1, q2⟩ := cells3 (o := i * 3) (fun j u hu => hc i hi j u hu)
  rw [hm] at q0 q1 q2
  have c1 := h1.cell 1
  simp at c1
  clear hc h1 h2
  have HI := Lib.hid hi
  obtain ⟨n, hn⟩ : ∃ n, l.length = n := ⟨_, rfl⟩
  rw [hn] at hi hnc
  simp only [hn] at c1
  clear hn hm
  have hi' : (i : Int) < n := by omega
  go_enter Try.func19, Try.ntmps19
  go_wp2_with (refine (has_yes base B room i l _ HB.out HI.out).mono ?_; rintro en w1 ⟨rfl, rfl⟩)
  go_quiet (fail)
  go_wp2
  exact bodyPost_ret (by simp [results, Try.results19, go_sem]) rfl ⟨rfl, m_below_on (w1 := w.alloc _) (by go_grown) ⟨rfl, rfl, rfl, Nat.le_refl _, fun _ _ => rfl⟩⟩
set_option maxHeartbeats 400000 in
theorem At_no (base B room : Nat) (i : Int) (l : List Msg) (w : World) (hb : BagAt w base B room l) (h1 : -9223372036854775808 ≤ i) (h2 : i ≤ 9223372036854775807) (hi : i < 0 ∨ (l.length : Int) ≤ i) :
    Calls Try.prog 19 #[.pointer (some ⟨B, 0, none⟩), .int .i64 i] w fun e w' => e = .returned (.tuple #[.int .u8 0, .string ⟨#[]⟩, .bool false]) ∧ Below w.heap.size w w' := by
  have HI := Lib.hid hi
  clear hi
  go_enter Try.func19, Try.ntmps19
  go_wp2_with (refine (has_no base B room i l _ hb h1 h2 HI.out).mono ?_; rintro en w1 ⟨rfl, rfl⟩)
  exact bodyPost_ret (by simp [results, Try.results19, go_sem]) rfl ⟨rfl, by go_grown⟩
set_option maxHeartbeats 400000 in
theorem At_nil (i : Int) (w : World) :
    Calls Try.prog 19 #[.pointer none, .int .i64 i] w fun e w' => e = .returned (.tuple #[.int .u8 0, .string ⟨#[]⟩, .bool false]) ∧ Below w.heap.size w w' := by
  go_enter Try.func19, Try.ntmps19
  go_wp2_with (refine (has_nil i _).mono ?_; rintro en w1 ⟨rfl, rfl⟩)
  exact bodyPost_ret (by simp [results, Try.results19, go_sem]) rfl ⟨rfl, by go_grown⟩
set_option maxHeartbeats 400000 in
theorem New_any (i : Int) (w : World) (h1 : -9223372036854775808 ≤ i) (h2 : i ≤ 9223372036854775807) :
    Calls Try.prog 9 #[.int .i64 i] w fun e w' => e = .returned (.pointer (some ⟨w.heap.size, 0, none⟩)) ∧ BagAt w' w.heap.size w.heap.size (max 0 (min i 200)).toNat [] ∧ Below w.heap.size w w' := by
  have e : max 0 (min i 200) = (((max 0 (min i 200)).toNat : Nat) : Int) := by omega
  have E := Lib.hid e
  clear e
  go_enter Try.func9, Try.ntmps9
  go_wp2
  all_goals
    go_ret
    refine ⟨rfl, ⟨.slice none 0 0, ?_, World.ownsRow_nil _ _ _ _⟩, by go_grown⟩
    first
      | (rw [show (((max 0 (min i 200)).toNat : Nat) : Int) = i by omega]; exact Blk.new rfl)
      | (rw [show (((max 0 (min i 200)).toNat : Nat) : Int) = 0 by omega]; exact Blk.new rfl)
      | (rw [show (((max 0 (min i 200)).toNat : Nat) : Int) = 200 by omega]; exact Blk.new rfl)
set_option maxHeartbeats 1000000 in
theorem add_yes (base B room : Nat) (l : List Msg) (m : Msg) (w : World) (hl : l.length < room) (hr : room ≤ 200) (hb : BagAt w base B room l) (hbw : base ≤ B) :
    Calls Try.prog 32 #[.pointer (some ⟨B, 0, none⟩), .agg #[.int .u8 m.d, .string m.text, .bool m.bad]] w (BagP base B room w (.bool true) (l ++ [m])) := by
  obtain ⟨s, h1, h2⟩ := hb
  have hBw := h1.lt
  have HO := Lib.hid h2
  have HV := Lib.hid h1
  have c0 := h1.cell 0
  have c1 := h1.cell 1
  simp at c0 c1
  obtain ⟨a, cap, rfl⟩ := h2.at.len
  obtain ⟨i0, hi0, hz0, hz1, hz2⟩ := infoP71
  have HI := Lib.hid (And.intro hi0 (And.intro hz0 (And.intro hz1 hz2)))
  have HOA := Lib.hid (World.ownsRow.alloc (World.ownsRow.alloc h2 (.cells #[.int .u8 m.d, .string m.text, .bool m.bad] 71)) (.cells #[.int .u8 m.d, .string m.text, .bool m.bad] 71))
  clear h1 h2 hi0 hz0 hz1 hz2
  obtain ⟨n, hn⟩ : ∃ n, l.length = n := ⟨_, rfl⟩
  have HN := Lib.hid hn
  rw [hn] at hl
  simp only [hn] at c1 HO HV HOA
  clear hn
  have hlr : (n : Int) < room := by omega
  have hd : decide ((room : Int) ≤ n) = false := by simpa using hlr
  obtain ⟨md, mt, mb⟩ := m
  go_enter Try.func32, Try.ntmps32
  go_wp2
  go_quiet (fail)
  go_wp2
  have hM : Blk ((w.alloc (.cells #[.int .u8 md, .string mt, .bool mb] 71)).drewN nq) w.heap.size #[.int .u8 md, .string mt, .bool mb] 71 := by
    have h0 : Blk (w.alloc (.cells #[.int .u8 md, .string mt, .bool mb] 71)) w.heap.size #[.int .u8 md, .string mt, .bool mb] 71 := Blk.new rfl
    exact h0.on ⟨rfl, rfl, rfl, Nat.le_refl _, fun _ _ => rfl⟩
  have hBl : Below w.heap.size w ((w.alloc (.cells #[.int .u8 md, .string mt, .bool mb] 71)).drewN nq) := m_below_on (w1 := w.alloc (.cells #[.int .u8 md, .string mt, .bool mb] 71)) (by go_grown) ⟨rfl, rfl, rfl, Nat.le_refl _, fun _ _ => rfl⟩
  have HM := Lib.hid hM
  have HV1 := Lib.hid (HV.out.on hBl)
  have HO1 := Lib.hid (HO.out.on hBl)
  have HBL := Lib.hid hBl
  have HB0 := Lib.hid hBw
  clear hM hBl HV HO HOA c0 c1
  generalize (w.alloc (.cells #[.int .u8 md, .string mt, .bool mb] 71)).drewN nq = w1 at *
  have hMlt := HM.out.lt
  have hB1 := HV1.out.lt
  have c1 : w1.cell? ⟨B, 1, none⟩ = some (.slice a n cap) := HV1.out.cell 1
  have m0 : w1.cell? ⟨w.heap.size, 0, none⟩ = some (.int .u8 md) := HM.out.cell 0
  have m1 : w1.cell? ⟨w.heap.size, 1, none⟩ = some (.string mt) := HM.out.cell 1
  have m2 : w1.cell? ⟨w.heap.size, 2, none⟩ = some (.bool mb) := HM.out.cell 2
  have hbW : base ≤ w.heap.size := by omega
  go_region_law (refine step_append_own1 rfl (.tmp 23) (.tmp 25) 66 rfl base 71 i0 _ 3 32 Try.underlying66 HI.out.1 HI.out.2.1 HI.out.2.2.1 HI.out.2.2.2 rfl (by decide) (.slice a n cap) n (msgR.row l) rfl (own_below (by have := HO1.out; unfold RK.Own at this; rw [HN.out] at this; exact this) (by go_grown)) _ 1 1 [.int .u8 md, .string mt, .bool mb] rfl rfl (news3 (by simp [go_sem]) (by simp [go_sem]) (by simp [go_sem])) (ones3 rfl rfl rfl) (by unfold maxLen; omega) (by omega) (by simp; omega) (by decide) ?_; intro g' cap' w3 hg' hown hgr; obtain ⟨hv3, hb3, hk3⟩ := app_after hbw HB0.out (m_below_on HBL.out (by go_grown)) (HV1.out.on (by go_grown)) (own_below (by have := HO1.out; unfold RK.Own at this; rw [HN.out] at this; exact this) (by go_grown)) hgr; have HV3 := Lib.hid hv3; have HB3 := Lib.hid hb3; have HK3 := Lib.hid hk3; have HOW := Lib.hid hown; have q1 : w3.cell? ⟨B, 1, none⟩ = some (.slice a n cap) := hv3.cell 1; have f1 := hv3.frozen 1; clear hv3 hb3 hk3 hown hgr)
  all_goals
    go_wp2
    go_ret
    refine ⟨rfl, ⟨.slice (some ⟨g', 0, none⟩) (n + 1) cap', HV3.out.set 1 _ _ rfl, ?_⟩, HB3.out.setCell (p := ⟨B, 1, none⟩) hbw _, HK3.out.set HV3.out (.inl rfl)⟩
    have hO : msgR.Own 71 w3 base (.slice (some ⟨g', 0, none⟩) (n + 1) cap') (l ++ [⟨md, mt, mb⟩]) := by
      unfold RK.Own
      rw [List.length_append, HN.out, RK.row_snoc]
      exact HOW.out
    exact hO.setB HV3.out (by decide)
end Go.Proofs.Ytlphlmpfjpombaa
