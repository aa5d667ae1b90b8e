/-
  Equality of lists of members, of entries; of views; of frames.
-/
import Derived.Test.YtodajejjhfpdmaaDoorFrmR
import Derived.Laws.StructEq
import Derived.ChangeKeysEq
namespace Go.Proofs.YtodajejjhfpdmaaDoor
open Go.RowKit Go.Instr

set_option maxHeartbeats 1000000 in
theorem eqM_any (s t : Value) (l k : List Mem) (r : Bool) (w : World) (hl : l.length ≤ 40) (hk : k.length ≤ 40) (hs : memR.At w s l) (ht : memR.At w t k) (hr : r = true ↔ l = k) :
    Calls Tryd.prog 40 #[s, t] w (retB r w) := by
  by_cases hlen : l.length = k.length
  · by_cases h0 : 0 < l.length
    · obtain ⟨b, off, cap, rfl, hb, hc⟩ := hs.form h0
      obtain ⟨b2, off2, cap2, rfl, hb2, hc2⟩ := ht.form (by omega)
      rw [← hlen]
      have HC := Lib.hid hc
      have HC2 := Lib.hid hc2
      have HLEN := Lib.hid hlen
      have HRR := Lib.hid hr
      obtain ⟨n, hn⟩ : ∃ n, n = l.length := ⟨_, rfl⟩
      rw [← hn] at hl h0 ⊢
      have HN := Lib.hid hn
      clear hc hc2 hn hs ht hlen hr
      have HK : Hid (k.length ≤ 40) := Lib.hid hk
      clear hk
      go_enter Tryd.func40, Tryd.ntmps40
      go_wp2
      go_loopw [13] (fun i wr => ∃ j : Nat, j ≤ n ∧ i = .int .i64 j ∧ l.take j = k.take j ∧ Below w.heap.size w wr) (fun i _ => (n - (intOf i).toNat))
      case atStart => exact ⟨0, by omega, rfl, rfl, by go_grown⟩
      case round =>
        obtain ⟨j, hj, rfl, he, hBw⟩ := hrel
        have HE := Lib.hid he
        have HBW := Lib.hid hBw
        clear he hBw
        by_cases hlt : j < n
        · have h1 : j < l.length := by rw [← HN.out]; exact hlt
          have h2 : j < k.length := by rw [← HLEN.out]; exact h1
          obtain ⟨p, hp⟩ : ∃ p, p = l[j] := ⟨_, rfl⟩
          obtain ⟨q, hp'⟩ : ∃ p, p = k[j] := ⟨_, rfl⟩
          have x0 : wr.cell? ⟨b, off + j * 3, none⟩ = some (.int .u8 p.n) := (HBW.out.cell (p := ⟨b, off + j * 3, none⟩) hb).trans (by rw [hp]; exact HC.out j h1 0 _ rfl)
          have x1 : wr.cell? ⟨b, off + j * 3 + 1, none⟩ = some (.int .u8 p.l) := (HBW.out.cell (p := ⟨b, off + j * 3 + 1, none⟩) hb).trans (by rw [hp]; rw [Nat.add_assoc]; exact HC.out j h1 1 _ rfl)
          have x2 : wr.cell? ⟨b, off + j * 3 + 2, none⟩ = some (.bool p.r) := (HBW.out.cell (p := ⟨b, off + j * 3 + 2, none⟩) hb).trans (by rw [hp]; rw [Nat.add_assoc]; exact HC.out j h1 2 _ rfl)
          have y0 : wr.cell? ⟨b2, off2 + j * 3, none⟩ = some (.int .u8 q.n) := (HBW.out.cell (p := ⟨b2, off2 + j * 3, none⟩) hb2).trans (by rw [hp']; exact HC2.out j h2 0 _ rfl)
          have y1 : wr.cell? ⟨b2, off2 + j * 3 + 1, none⟩ = some (.int .u8 q.l) := (HBW.out.cell (p := ⟨b2, off2 + j * 3 + 1, none⟩) hb2).trans (by rw [hp']; rw [Nat.add_assoc]; exact HC2.out j h2 1 _ rfl)
          have y2 : wr.cell? ⟨b2, off2 + j * 3 + 2, none⟩ = some (.bool q.r) := (HBW.out.cell (p := ⟨b2, off2 + j * 3 + 2, none⟩) hb2).trans (by rw [hp']; rw [Nat.add_assoc]; exact HC2.out j h2 2 _ rfl)
          have HP := Lib.hid hp
          have HP' := Lib.hid hp'
          clear hp hp'
          have hstep : p = q → l.take (j + 1) = k.take (j + 1) := by
            intro h
            rw [List.take_succ_eq_append_getElem h1, List.take_succ_eq_append_getElem h2, HE.out, ← HP.out, ← HP'.out, h]
          have hdiff : p ≠ q → r = false := by
            intro h
            rw [Bool.eq_false_iff]
            intro hrt
            have hlk := HRR.out.1 hrt
            subst hlk
            exact h (HP.out.trans HP'.out.symm)
          have HST := Lib.hid hstep
          have HDF := Lib.hid hdiff
          clear hstep hdiff HP HP' h1 h2
          obtain ⟨p0, p1, p2⟩ := p
          obtain ⟨q0, q1, q2⟩ := q
          simp only at x0 y0 x1 y1 x2 y2
          by_cases e0 : p0 = q0
          rotate_left
          · have hx : ¬ (p0 : Int) = q0 := by omega
            have HD := Lib.hid (HDF.out (by intro h; cases h; exact e0 rfl))
            go_wp2_with fail
            go_region
            all_goals
              go_wp2
              go_ret
              exact ⟨rbool HD.out.symm, by have := HBW.out; have := HBW.out.size; go_grown⟩
          subst e0
          by_cases e1 : p1 = q1
          rotate_left
          · have hx : ¬ (p1 : Int) = q1 := by omega
            have HD := Lib.hid (HDF.out (by intro h; cases h; exact e1 rfl))
            go_wp2_with fail
            go_region
            all_goals
              go_wp2
              go_ret
              exact ⟨rbool HD.out.symm, by have := HBW.out; have := HBW.out.size; go_grown⟩
          subst e1
          by_cases e2 : p2 = q2
          rotate_left
          · have HD := Lib.hid (HDF.out (by intro h; cases h; exact e2 rfl))
            go_wp2_with fail
            go_region
            all_goals
              go_wp2
              go_ret
              exact ⟨rbool HD.out.symm, by have := HBW.out; have := HBW.out.size; go_grown⟩
          subst e2
          have HS1 := Lib.hid (HST.out rfl)
          go_wp2_with fail
          go_region
          all_goals
            go_wp2
            go_roundw
            case rel => exact ⟨j + 1, by omega, by go_num, HS1.out, by have := HBW.out; have := HBW.out.size; go_grown⟩
            case measure => simp [intOf]; omega
        · obtain rfl : j = n := by omega
          have HD : Hid (r = true) := Lib.hid (HRR.out.2 (by
            have := HE.out
            rwa [HN.out, List.take_length, HLEN.out, List.take_length] at this))
          go_wp2
          go_ret
          exact ⟨rbool HD.out.symm, HBW.out⟩
    · have hl0 : l = [] := List.eq_nil_of_length_eq_zero (by omega)
      subst hl0
      have hk0 : k = [] := List.eq_nil_of_length_eq_zero (by simpa using hlen.symm)
      subst hk0
      obtain ⟨a, cap, rfl⟩ := hs.len
      obtain ⟨a2, cap2, rfl⟩ := ht.len
      simp only [List.length_nil]
      have hrt : r = true := hr.2 rfl
      subst hrt
      clear hs ht hr
      go_enter Tryd.func40, Tryd.ntmps40
      go_wp2
      go_loop [13] (fun i => i = .int .i64 0) (fun _ => 0)
      case atStart => rfl
      case round =>
        obtain rfl := hrel
        go_wp2
        go_ret
        exact ⟨rfl, by go_grown⟩
  · obtain ⟨a, cap, rfl⟩ := hs.len
    obtain ⟨a2, cap2, rfl⟩ := ht.len
    have HD : Hid (r = false) := Lib.hid (by rw [Bool.eq_false_iff]; intro h; exact hlen (by rw [hr.1 h]))
    clear hr hs ht
    generalize l.length = n at *
    generalize k.length = m at *
    have hx : ¬ (n : Int) = m := by omega
    go_enter Tryd.func40, Tryd.ntmps40
    go_wp2
    all_goals
      go_ret
      exact ⟨rbool HD.out.symm, by go_grown⟩
set_option maxHeartbeats 1000000 in
theorem eqE_any (s t : Value) (l k : List Ent) (r : Bool) (w : World) (hl : l.length ≤ 40) (hk : k.length ≤ 40) (hs : entR.At w s l) (ht : entR.At w t k) (hr : r = true ↔ l = k) :
    Calls Tryd.prog 38 #[s, t] w (retB r w) := by
  by_cases hlen : l.length = k.length
  · by_cases h0 : 0 < l.length
    · obtain ⟨b, off, cap, rfl, hb, hc⟩ := hs.form h0
      obtain ⟨b2, off2, cap2, rfl, hb2, hc2⟩ := ht.form (by omega)
      rw [← hlen]
      have HC := Lib.hid hc
      have HC2 := Lib.hid hc2
      have HLEN := Lib.hid hlen
      have HRR := Lib.hid hr
      obtain ⟨n, hn⟩ : ∃ n, n = l.length := ⟨_, rfl⟩
      rw [← hn] at hl h0 ⊢
      have HN := Lib.hid hn
      clear hc hc2 hn hs ht hlen hr
      have HK : Hid (k.length ≤ 40) := Lib.hid hk
      clear hk
      go_enter Tryd.func38, Tryd.ntmps38
      go_wp2
      go_loopw [13] (fun i wr => ∃ j : Nat, j ≤ n ∧ i = .int .i64 j ∧ l.take j = k.take j ∧ Below w.heap.size w wr) (fun i _ => (n - (intOf i).toNat))
      case atStart => exact ⟨0, by omega, rfl, rfl, by go_grown⟩
      case round =>
        obtain ⟨j, hj, rfl, he, hBw⟩ := hrel
        have HE := Lib.hid he
        have HBW := Lib.hid hBw
        clear he hBw
        by_cases hlt : j < n
        · have h1 : j < l.length := by rw [← HN.out]; exact hlt
          have h2 : j < k.length := by rw [← HLEN.out]; exact h1
          obtain ⟨p, hp⟩ : ∃ p, p = l[j] := ⟨_, rfl⟩
          obtain ⟨q, hp'⟩ : ∃ p, p = k[j] := ⟨_, rfl⟩
          have x0 : wr.cell? ⟨b, off + j * 8, none⟩ = some (.int .u32 p.s) := (HBW.out.cell (p := ⟨b, off + j * 8, none⟩) hb).trans (by rw [hp]; exact HC.out j h1 0 _ rfl)
          have x1 : wr.cell? ⟨b, off + j * 8 + 1, none⟩ = some (.int .u32 p.n) := (HBW.out.cell (p := ⟨b, off + j * 8 + 1, none⟩) hb).trans (by rw [hp]; rw [Nat.add_assoc]; exact HC.out j h1 1 _ rfl)
          have x2 : wr.cell? ⟨b, off + j * 8 + 2, none⟩ = some (.int .u8 p.b) := (HBW.out.cell (p := ⟨b, off + j * 8 + 2, none⟩) hb).trans (by rw [hp]; rw [Nat.add_assoc]; exact HC.out j h1 2 _ rfl)
          have x3 : wr.cell? ⟨b, off + j * 8 + 3, none⟩ = some (.int .u8 p.c.k) := (HBW.out.cell (p := ⟨b, off + j * 8 + 3, none⟩) hb).trans (by rw [hp]; rw [Nat.add_assoc]; exact HC.out j h1 3 _ rfl)
          have x4 : wr.cell? ⟨b, off + j * 8 + 4, none⟩ = some (.int .u8 p.c.n) := (HBW.out.cell (p := ⟨b, off + j * 8 + 4, none⟩) hb).trans (by rw [hp]; rw [Nat.add_assoc]; exact HC.out j h1 4 _ rfl)
          have x5 : wr.cell? ⟨b, off + j * 8 + 5, none⟩ = some (.int .u8 p.c.l) := (HBW.out.cell (p := ⟨b, off + j * 8 + 5, none⟩) hb).trans (by rw [hp]; rw [Nat.add_assoc]; exact HC.out j h1 5 _ rfl)
          have x6 : wr.cell? ⟨b, off + j * 8 + 6, none⟩ = some (.int .u32 p.c.e) := (HBW.out.cell (p := ⟨b, off + j * 8 + 6, none⟩) hb).trans (by rw [hp]; rw [Nat.add_assoc]; exact HC.out j h1 6 _ rfl)
          have x7 : wr.cell? ⟨b, off + j * 8 + 7, none⟩ = some (.int .u32 p.c.r) := (HBW.out.cell (p := ⟨b, off + j * 8 + 7, none⟩) hb).trans (by rw [hp]; rw [Nat.add_assoc]; exact HC.out j h1 7 _ rfl)
          have y0 : wr.cell? ⟨b2, off2 + j * 8, none⟩ = some (.int .u32 q.s) := (HBW.out.cell (p := ⟨b2, off2 + j * 8, none⟩) hb2).trans (by rw [hp']; exact HC2.out j h2 0 _ rfl)
          have y1 : wr.cell? ⟨b2, off2 + j * 8 + 1, none⟩ = some (.int .u32 q.n) := (HBW.out.cell (p := ⟨b2, off2 + j * 8 + 1, none⟩) hb2).trans (by rw [hp']; rw [Nat.add_assoc]; exact HC2.out j h2 1 _ rfl)
          have y2 : wr.cell? ⟨b2, off2 + j * 8 + 2, none⟩ = some (.int .u8 q.b) := (HBW.out.cell (p := ⟨b2, off2 + j * 8 + 2, none⟩) hb2).trans (by rw [hp']; rw [Nat.add_assoc]; exact HC2.out j h2 2 _ rfl)
          have y3 : wr.cell? ⟨b2, off2 + j * 8 + 3, none⟩ = some (.int .u8 q.c.k) := (HBW.out.cell (p := ⟨b2, off2 + j * 8 + 3, none⟩) hb2).trans (by rw [hp']; rw [Nat.add_assoc]; exact HC2.out j h2 3 _ rfl)
          have y4 : wr.cell? ⟨b2, off2 + j * 8 + 4, none⟩ = some (.int .u8 q.c.n) := (HBW.out.cell (p := ⟨b2, off2 + j * 8 + 4, none⟩) hb2).trans (by rw [hp']; rw [Nat.add_assoc]; exact HC2.out j h2 4 _ rfl)
          have y5 : wr.cell? ⟨b2, off2 + j * 8 + 5, none⟩ = some (.int .u8 q.c.l) := (HBW.out.cell (p := ⟨b2, off2 + j * 8 + 5, none⟩) hb2).trans (by rw [hp']; rw [Nat.add_assoc]; exact HC2.out j h2 5 _ rfl)
          have y6 : wr.cell? ⟨b2, off2 + j * 8 + 6, none⟩ = some (.int .u32 q.c.e) := (HBW.out.cell (p := ⟨b2, off2 + j * 8 + 6, none⟩) hb2).trans (by rw [hp']; rw [Nat.add_assoc]; exact HC2.out j h2 6 _ rfl)
          have y7 : wr.cell? ⟨b2, off2 + j * 8 + 7, none⟩ = some (.int .u32 q.c.r) := (HBW.out.cell (p := ⟨b2, off2 + j * 8 + 7, none⟩) hb2).trans (by rw [hp']; rw [Nat.add_assoc]; exact HC2.out j h2 7 _ rfl)
          have HP := Lib.hid hp
          have HP' := Lib.hid hp'
          clear hp hp'
          have hstep : p = q → l.take (j + 1) = k.take (j + 1) := by
            intro h
            rw [List.take_succ_eq_append_getElem h1, List.take_succ_eq_append_getElem h2, HE.out, ← HP.out, ← HP'.out, h]
          have hdiff : p ≠ q → r = false := by
            intro h
            rw [Bool.eq_false_iff]
            intro hrt
            have hlk := HRR.out.1 hrt
            subst hlk
            exact h (HP.out.trans HP'.out.symm)
          have HST := Lib.hid hstep
          have HDF := Lib.hid hdiff
          clear hstep hdiff HP HP' h1 h2
          obtain ⟨p0, p1, p2, ⟨p3, p4, p5, p6, p7⟩⟩ := p
          obtain ⟨q0, q1, q2, ⟨q3, q4, q5, q6, q7⟩⟩ := q
          simp only at x0 y0 x1 y1 x2 y2 x3 y3 x4 y4 x5 y5 x6 y6 x7 y7
          by_cases e0 : p0 = q0
          rotate_left
          · have hx : ¬ (p0 : Int) = q0 := by omega
            have HD := Lib.hid (HDF.out (by intro h; cases h; exact e0 rfl))
            go_wp2_with fail
            go_region
            all_goals
              go_wp2
              go_ret
              exact ⟨rbool HD.out.symm, by have := HBW.out; have := HBW.out.size; go_grown⟩
          subst e0
          by_cases e1 : p1 = q1
          rotate_left
          · have hx : ¬ (p1 : Int) = q1 := by omega
            have HD := Lib.hid (HDF.out (by intro h; cases h; exact e1 rfl))
            go_wp2_with fail
            go_region
            all_goals
              go_wp2
              go_ret
              exact ⟨rbool HD.out.symm, by have := HBW.out; have := HBW.out.size; go_grown⟩
          subst e1
          by_cases e2 : p2 = q2
          rotate_left
          · have hx : ¬ (p2 : Int) = q2 := by omega
            have HD := Lib.hid (HDF.out (by intro h; cases h; exact e2 rfl))
            go_wp2_with fail
            go_region
            all_goals
              go_wp2
              go_ret
              exact ⟨rbool HD.out.symm, by have := HBW.out; have := HBW.out.size; go_grown⟩
          subst e2
          by_cases e3 : p3 = q3
          rotate_left
          · have hx : ¬ (p3 : Int) = q3 := by omega
            have HD := Lib.hid (HDF.out (by intro h; cases h; exact e3 rfl))
            go_wp2_with fail
            go_region
            all_goals
              go_wp2
              go_ret
              exact ⟨rbool HD.out.symm, by have := HBW.out; have := HBW.out.size; go_grown⟩
          subst e3
          by_cases e4 : p4 = q4
          rotate_left
          · have hx : ¬ (p4 : Int) = q4 := by omega
            have HD := Lib.hid (HDF.out (by intro h; cases h; exact e4 rfl))
            go_wp2_with fail
            go_region
            all_goals
              go_wp2
              go_ret
              exact ⟨rbool HD.out.symm, by have := HBW.out; have := HBW.out.size; go_grown⟩
          subst e4
          by_cases e5 : p5 = q5
          rotate_left
          · have hx : ¬ (p5 : Int) = q5 := by omega
            have HD := Lib.hid (HDF.out (by intro h; cases h; exact e5 rfl))
            go_wp2_with fail
            go_region
            all_goals
              go_wp2
              go_ret
              exact ⟨rbool HD.out.symm, by have := HBW.out; have := HBW.out.size; go_grown⟩
          subst e5
          by_cases e6 : p6 = q6
          rotate_left
          · have hx : ¬ (p6 : Int) = q6 := by omega
            have HD := Lib.hid (HDF.out (by intro h; cases h; exact e6 rfl))
            go_wp2_with fail
            go_region
            all_goals
              go_wp2
              go_ret
              exact ⟨rbool HD.out.symm, by have := HBW.out; have := HBW.out.size; go_grown⟩
          subst e6
          by_cases e7 : p7 = q7
          rotate_left
          · have hx : ¬ (p7 : Int) = q7 := by omega
            have HD := Lib.hid (HDF.out (by intro h; cases h; exact e7 rfl))
            go_wp2_with fail
            go_region
            all_goals
              go_wp2
              go_ret
              exact ⟨rbool HD.out.symm, by have := HBW.out; have := HBW.out.size; go_grown⟩
          subst e7
          have HS1 := Lib.hid (HST.out rfl)
          go_wp2_with fail
          go_region
          all_goals
            go_wp2
            go_roundw
            case rel => exact ⟨j + 1, by omega, by go_num, HS1.out, by have := HBW.out; have := HBW.out.size; go_grown⟩
            case measure => simp [intOf]; omega
        · obtain rfl : j = n := by omega
          have HD : Hid (r = true) := Lib.hid (HRR.out.2 (by
            have := HE.out
            rwa [HN.out, List.take_length, HLEN.out, List.take_length] at this))
          go_wp2
          go_ret
          exact ⟨rbool HD.out.symm, HBW.out⟩
    · have hl0 : l = [] := List.eq_nil_of_length_eq_zero (by omega)
      subst hl0
      have hk0 : k = [] := List.eq_nil_of_length_eq_zero (by simpa using hlen.symm)
      subst hk0
      obtain ⟨a, cap, rfl⟩ := hs.len
      obtain ⟨a2, cap2, rfl⟩ := ht.len
      simp only [List.length_nil]
      have hrt : r = true := hr.2 rfl
      subst hrt
      clear hs ht hr
      go_enter Tryd.func38, Tryd.ntmps38
      go_wp2
      go_loop [13] (fun i => i = .int .i64 0) (fun _ => 0)
      case atStart => rfl
      case round =>
        obtain rfl := hrel
        go_wp2
        go_ret
        exact ⟨rfl, by go_grown⟩
  · obtain ⟨a, cap, rfl⟩ := hs.len
    obtain ⟨a2, cap2, rfl⟩ := ht.len
    have HD : Hid (r = false) := Lib.hid (by rw [Bool.eq_false_iff]; intro h; exact hlen (by rw [hr.1 h]))
    clear hr hs ht
    generalize l.length = n at *
    generalize k.length = m at *
    have hx : ¬ (n : Int) = m := by omega
    go_enter Tryd.func38, Tryd.ntmps38
    go_wp2
    all_goals
      go_ret
      exact ⟨rbool HD.out.symm, by go_grown⟩
end Go.Proofs.YtodajejjhfpdmaaDoor
