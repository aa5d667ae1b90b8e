/-
  The walks of the reference's Take, First and Spoil of layer 7.
-/
import Derived.Test.YtlphlmpfjpombaaBagS
import Derived.Test.YtlphlmpfjpombaaCrcC
namespace Go.Proofs.Ytlphlmpfjpombaa
open Go.RowKit Go.Instr

theorem Try.info33 : (Try.prog.info? 33).map (fun i => (i.zero, i.size, i.bytes)) = some (some (.agg #[.int .u8 0, .string ⟨#[]⟩, .bool false]), 3, 32) := by kernel_rfl
theorem infoP33 : ∃ i, Try.prog.info? 33 = some i ∧ i.zero = some (.agg #[.int .u8 0, .string ⟨#[]⟩, .bool false]) ∧ i.size = 3 ∧ i.bytes = 32 := by
  have h := Try.info33
  rcases hi : Try.prog.info? 33 with _ | i
  · rw [hi] at h; cases h
  · rw [hi] at h
    simp only [Option.map_some, Option.some.injEq, Prod.mk.injEq] at h
    exact ⟨i, rfl, h.1, h.2.1, h.2.2⟩
theorem take_erase_ne {α : Type} {l : List α} {k i : Nat} (hk : k < l.length) (hi : k ≠ i) : (l.take (k + 1)).eraseIdx i = (l.take k).eraseIdx i ++ [l[k]] := by
  rw [List.take_succ_eq_append_getElem hk, List.eraseIdx_append]
  have hlen : (l.take k).length = k := by rw [List.length_take]; omega
  rw [hlen]
  by_cases h : i < k
  · rw [if_pos h]
  · rw [if_neg h]
    have e1 : (l.take k).eraseIdx i = l.take k := List.eraseIdx_of_length_le (by rw [hlen]; omega)
    rw [e1]
    have e2 : [l[k]].eraseIdx (i - k) = [l[k]] := List.eraseIdx_of_length_le (by simp; omega)
    rw [e2]
theorem take_erase_eq {α : Type} {l : List α} {k : Nat} (hk : k < l.length) : (l.take (k + 1)).eraseIdx k = (l.take k).eraseIdx k := by
  have hlen : (l.take k).length = k := by rw [List.length_take]; omega
  have e1 : (l.take k).eraseIdx k = l.take k := List.eraseIdx_of_length_le (by rw [hlen]; exact Nat.le_refl _)
  rw [e1, List.take_succ_eq_append_getElem hk, List.eraseIdx_append, hlen, if_neg (Nat.lt_irrefl _), Nat.sub_self]
  simp
theorem len_erase_take {α : Type} (l : List α) (k i : Nat) : ((l.take k).eraseIdx i).length ≤ k := by
  rw [List.length_eraseIdx]
  have : (l.take k).length ≤ k := List.length_take_le _ _
  split <;> omega
/-- What the reference's list is behind a call. -/
def RefP (w : World) (l : List Msg) (e : Ending) (w' : World) : Prop := ∃ v, e = .returned v ∧ msgR.Own 33 w' w.heap.size v l ∧ Below w.heap.size w w'
set_option maxHeartbeats 2000000 in
theorem refTake_any (s : Value) (l : List Msg) (i : Nat) (w : World) (hl : l.length ≤ 200) (hs : msgR.At w s l) (hi : i < l.length) :
    Calls Try.prog 11 #[s, .int .i64 i] w (RefP w (l.eraseIdx i)) := by
  obtain ⟨b, off, cap, rfl, hb, hc⟩ := hs.form (by omega)
  have HC := Lib.hid hc
  obtain ⟨i0, hi0, hz0, hz1, hz2⟩ := infoP33
  have HI := Lib.hid (And.intro hi0 (And.intro hz0 (And.intro hz1 hz2)))
  have HIL := Lib.hid hi
  obtain ⟨n, hn⟩ : ∃ n, n = l.length := ⟨_, rfl⟩
  rw [← hn] at hl hi ⊢
  have HN := Lib.hid hn
  clear hn hs hc hi0 hz0 hz1 hz2
  go_enter Try.func11, Try.ntmps11
  go_wp2
  go_loopw [5, 6] (fun o kk wr => ∃ k : Nat, k ≤ n ∧ kk = .int .i64 k ∧ msgR.Own 33 wr w.heap.size o ((l.take k).eraseIdx i) ∧ Below w.heap.size w wr) (fun _ kk _ => n - (intOf kk).toNat)
  case atStart => exact ⟨0, Nat.zero_le _, rfl, by simp; exact World.ownsRow_nil _ _ _ _, Below.refl _ _⟩
  case round =>
    obtain ⟨k, hk, rfl, ho, hBw⟩ := hrel
    have HO := Lib.hid ho
    have HBW := Lib.hid hBw
    clear ho hBw
    by_cases hlt : k < n
    · have hkl : k < l.length := by rw [← HN.out]; exact hlt
      obtain ⟨q0, q1, q2⟩ := cells3 (o := off + k * 3) (fun j u hu => by rw [Nat.add_assoc]; exact HC.out k hkl j u hu)
      obtain ⟨m, hm⟩ : ∃ m, l[k] = m := ⟨_, rfl⟩
      rw [hm] at q0 q1 q2
      have HM := Lib.hid hm
      clear hm
      obtain ⟨md, mt, mb⟩ := m
      replace q0 : wr.cell? ⟨b, off + k * 3, none⟩ = some (.int .u8 md) := (HBW.out.cell (p := ⟨b, off + k * 3, none⟩) hb).trans q0
      replace q1 : wr.cell? ⟨b, off + k * 3 + 1, none⟩ = some (.string mt) := (HBW.out.cell (p := ⟨b, off + k * 3 + 1, none⟩) hb).trans q1
      replace q2 : wr.cell? ⟨b, off + k * 3 + 2, none⟩ = some (.bool mb) := (HBW.out.cell (p := ⟨b, off + k * 3 + 2, none⟩) hb).trans q2
      have hwr : w.heap.size ≤ wr.heap.size := HBW.out.size
      by_cases hki : k = i
      · subst hki
        go_wp2
        go_roundw
        case rel => exact ⟨k + 1, by omega, by go_num, by rw [take_erase_eq hkl]; exact HO.out, HBW.out⟩
        case measure => simp [intOf]; omega
      · have hki' : ¬ (k : Int) = i := by omega
        have hle := len_erase_take l k i
        have HOA := Lib.hid (HO.out.al (.cells #[.int .u8 md, .string mt, .bool mb] 33))
        go_wp2_with (at_builtin; refine wpList_append_own1 _ rfl _ _ 26 rfl w.heap.size 33 i0 _ 3 32 Try.underlying26 HI.out.1 HI.out.2.1 HI.out.2.2.1 HI.out.2.2.2 rfl (by decide) _ _ _ rfl HOA.out ⟨wr.heap.size, 0, none⟩ 1 1 [.int .u8 md, .string mt, .bool mb] rfl rfl ?qn (ones3 rfl rfl rfl) (by unfold maxLen; omega) (by omega) (by simp; omega) (by decide) ?_)
        case qn => exact news3 (by simp) (by simp) (by simp)
        intro g cap' w3 hg hown hgrow
        have HOW : Hid (msgR.Own 33 w3 w.heap.size (.slice (some ⟨g, 0, none⟩) (((l.take k).eraseIdx i).length + 1) cap') ((l.take (k + 1)).eraseIdx i)) := Lib.hid (by
          rw [take_erase_ne hkl hki]
          unfold RK.Own
          rw [List.length_append, RK.row_snoc, HM.out]
          exact hown)
        have HB3 : Hid (Below w.heap.size w w3) := Lib.hid ((HBW.out.alloc hwr _).grown hgrow (by simp; omega) (fun j hj => (World.ownsRow.lt HOA.out j hj).1))
        clear hown hgrow
        go_wp2
        go_roundw
        case rel => exact ⟨k + 1, by omega, by go_num, HOW.out, HB3.out⟩
        case measure => simp [intOf]; omega
    · obtain rfl : k = n := by omega
      go_wp2
      go_ret
      exact ⟨_, rfl, by have := HO.out; rw [HN.out, List.take_length] at this; exact this, HBW.out⟩
set_option maxHeartbeats 1000000 in
theorem refFirst_any (s : Value) (l : List Msg) (d : Nat) (w : World) (hl : l.length ≤ 200) (hs : msgR.At w s l) :
    Calls Try.prog 16 #[s, .int .u8 d] w fun e w' => e = .returned (.int .i64 (idxOf (isTo d) l)) ∧ w = w' := by
  by_cases h0 : l = []
  · subst h0
    obtain ⟨a, cap, rfl⟩ := hs.len
    clear hs
    go_enter Try.func16, Try.ntmps16
    go_wp2
    go_loop [5] (fun i => i = .int .i64 0) (fun _ => 0)
    case atStart => rfl
    case round =>
      obtain rfl := hrel
      go_wp2
      go_ret
      exact ⟨rfl, rfl⟩
  · obtain ⟨b, off, cap, rfl, hb, hc⟩ := hs.form (List.length_pos_iff.2 h0)
    have HC := Lib.hid hc
    obtain ⟨n, hn⟩ : ∃ n, n = l.length := ⟨_, rfl⟩
    rw [← hn] at hl ⊢
    have HN := Lib.hid hn
    clear hc hn hs h0
    go_enter Try.func16, Try.ntmps16
    go_wp2
    go_loop [5] (fun i => ∃ k : Nat, k ≤ n ∧ i = .int .i64 k ∧ (∀ j (hj : j < l.length), j < k → isTo d l[j] = false)) (fun i => (n - (intOf i).toNat))
    case atStart => exact ⟨0, by omega, rfl, by intro j _ hj; omega⟩
    case round =>
      obtain ⟨k, hk, rfl, hno⟩ := hrel
      have HNO := Lib.hid hno
      clear hno
      by_cases hlt : k < n
      · have hkl : k < l.length := by rw [← HN.out]; exact hlt
        have q0 := HC.out k hkl 0 _ rfl
        obtain ⟨p, hp⟩ : ∃ p, p = l[k] := ⟨_, rfl⟩
        rw [← hp] at q0
        have HP := Lib.hid hp
        clear hp
        obtain ⟨pn, pl, pr⟩ := p
        replace q0 : w.cell? ⟨b, off + k * 3, none⟩ = some (.int .u8 pn) := q0
        by_cases hpn : pn = d
        · subst hpn
          go_wp2
          go_ret
          exact ⟨rint (idxOf_at HNO.out hkl (by rw [← HP.out]; simp [isTo])).symm, rfl⟩
        · have hpn' : ¬ (pn : Int) = d := by omega
          go_wp2
          go_round
          case rel => exact ⟨k + 1, by omega, by go_num, idxOf_step HNO.out hkl (by rw [← HP.out]; simp [isTo, hpn])⟩
          case measure => simp [intOf]; omega
      · obtain rfl : k = n := by omega
        go_wp2
        go_ret
        exact ⟨rint (idxOf_none (fun j hj => HNO.out j hj (by rw [HN.out]; exact hj))).symm, rfl⟩
end Go.Proofs.Ytlphlmpfjpombaa
