/-
  The walks of view's Others, Same and of slices.Equal over members.
-/
import Derived.Test.YtkgahhfemlebmaaViewI
import Derived.Laws.StructEq
import Derived.ChangeKeysEq
namespace Go.Proofs.Ytkgahhfemlebmaa
open Go.RowKit Go.Instr

theorem Try.info5 : (Try.prog.info? 5).map (fun i => (i.zero, i.size, i.bytes)) = some (some (.int .u8 0), 1, 1) := by kernel_rfl
theorem infoP5 : ∃ i, Try.prog.info? 5 = some i ∧ i.zero = some (.int .u8 0) ∧ i.size = 1 ∧ i.bytes = 1 := by
  have h := Try.info5
  rcases hi : Try.prog.info? 5 with _ | i
  · rw [hi] at h; cases h
  · rw [hi] at h
    simp only [Option.map_some, Option.some.injEq, Prod.mk.injEq] at h
    exact ⟨i, rfl, h.1, h.2.1, h.2.2⟩
/-- The nodes of all but one. -/
def othN (node : Nat) (l : List Mem) : List Nat := (l.filter fun m => !isNode node m).map (·.n)
def bRow (l : List Nat) : List Value := l.map fun (n : Nat) => Value.int .u8 n
theorem bRow_snoc (l : List Nat) (n : Nat) : bRow (l ++ [n]) = bRow l ++ [.int .u8 n] := by simp [bRow]
theorem othN_take {node : Nat} {l : List Mem} {k : Nat} (h : k < l.length) : othN node (l.take (k + 1)) = othN node (l.take k) ++ (if l[k].n = node then [] else [l[k].n]) := by
  rw [List.take_succ_eq_append_getElem h, othN, List.filter_append, List.map_append]
  congr 1
  simp only [List.filter_cons, isNode, List.filter_nil]
  by_cases hn : l[k].n = node <;> simp [hn]
theorem othN_len (node : Nat) (l : List Mem) : (othN node l).length ≤ l.length := by
  simp only [othN, List.length_map]
  exact List.length_filter_le _ _
def OthP (w : World) (q : List Nat) (en : Ending) (w' : World) : Prop := ∃ v, en = .returned v ∧ w'.ownsRow w.heap.size 5 1 v q.length (bRow q) ∧ Below w.heap.size w w'
/-- What stands at the loop's head. -/
def OthLoop (w : World) (node n : Nat) (l : List Mem) (v i : Value) (wr : World) : Prop :=
  ∃ k : Nat, k ≤ n ∧ i = .int .i64 k ∧ wr.ownsRow w.heap.size 5 1 v (othN node (l.take k)).length (bRow (othN node (l.take k))) ∧ Below w.heap.size w wr
set_option maxHeartbeats 1000000 in
theorem Others_any (e : Nat) (s : Value) (lv : Lv) (l : List Mem) (node : Nat) (w : World) (hl : l.length ≤ 40) (hs : MemsAt w s l) :
    Calls Try.prog 17 #[.agg (vC e s lv), .int .u8 node] w (OthP w (othN node l)) := by
  unfold vC
  rcases hs with ⟨rfl, rfl⟩ | ⟨b, off, cap, rfl, hb, hc⟩
  · go_enter Try.func17, Try.ntmps17
    go_wp2
    go_loop [5, 11] (fun c i => c = .slice none 0 0 ∧ i = .int .i64 0) (fun _ _ => 0)
    case atStart => exact ⟨rfl, rfl⟩
    case round =>
      obtain ⟨rfl, rfl⟩ := hrel
      go_wp2
      go_ret
      exact ⟨_, rfl, World.ownsRow_nil _ _ _ _, by go_grown⟩
  · have HC := Lib.hid hc
    obtain ⟨n, hn⟩ : ∃ n, n = l.length := ⟨_, rfl⟩
    rw [← hn] at hl ⊢
    have HN := Lib.hid hn
    obtain ⟨i0, hi0, hz0, hz1, hz2⟩ := infoP5
    have HI := Lib.hid (And.intro hi0 (And.intro hz0 (And.intro hz1 hz2)))
    clear hc hn hi0 hz0 hz1 hz2
    go_enter Try.func17, Try.ntmps17
    go_wp2
    go_loopw [5, 11] (fun v i wr => OthLoop w node n l v i wr) (fun _ i _ => (n - (intOf i).toNat))
    case atStart => exact ⟨0, by omega, rfl, World.ownsRow_nil _ _ _ _, by go_grown⟩
    case round =>
      obtain ⟨k, hk, rfl, ho, hBw⟩ := hrel
      have HBW := Lib.hid hBw
      have hsz := hBw.size
      have HO := Lib.hid ho
      clear hBw ho
      have hle2 : (l.take k).length ≤ k := List.length_take_le _ _
      have hle := othN_len node (l.take k)
      by_cases hlt : k < n
      · obtain ⟨c0, c1, c2⟩ := HC.out k (by rw [← HN.out]; exact hlt)
        have HS := Lib.hid (othN_take (node := node) (l := l) (k := k) (by rw [← HN.out]; exact hlt))
        obtain ⟨p, hp⟩ : ∃ p, p = l[k]'(by rw [← HN.out]; exact hlt) := ⟨_, rfl⟩
        rw [← hp] at c0 c1 c2 HS
        clear hp
        obtain ⟨pn, pl, pr⟩ := p
        simp only at c0 c1 c2 HS
        have q0 := (HBW.out.cell (p := ⟨b, off + k * 3, none⟩) hb).trans c0
        have q1 := (HBW.out.cell (p := ⟨b, off + k * 3 + 1, none⟩) hb).trans c1
        have q2 := (HBW.out.cell (p := ⟨b, off + k * 3 + 2, none⟩) hb).trans c2
        clear c0 c1 c2
        generalize othN node (l.take k) = q at *
        by_cases hpn : pn = node
        · subst hpn
          go_wp2
          go_roundw
          case rel => exact ⟨k + 1, by omega, by go_num, by rw [HS.out, if_pos rfl, List.append_nil]; exact HO.out.alloc _, by have := HBW.out; go_grown⟩
          case measure => simp [intOf]; omega
        · have hne : ¬ ((pn : Int) = node) := by omega
          have HOA := Lib.hid ((HO.out.alloc (.cells #[.int .u8 pn, .int .u8 pl, .bool pr] 52)).alloc (.cells #[.int .u8 pn] 5))
          go_wp2_with (at_builtin; refine wpList_append_own1 _ rfl _ _ 59 rfl w.heap.size 5 i0 _ 1 1 Try.underlying59 HI.out.1 HI.out.2.1 HI.out.2.2.1 HI.out.2.2.2 rfl (by decide) _ q.length (bRow q) rfl HOA.out ⟨wr.heap.size + 1, 0, none⟩ 1 1 [.int .u8 pn] rfl rfl ?qn (by intro u hu; rw [List.mem_singleton.1 hu]; rfl) (by unfold maxLen; omega) (by omega) (by simp; omega) (by decide) ?_)
          case qn =>
            intro j u hu
            have e : (⟨wr.heap.size + 1, 0, none⟩ : Addr).add j = ⟨wr.heap.size + 1, j, none⟩ := by unfold Addr.add; split <;> simp_all
            rw [e]
            match j, hu with
            | 0, hu => cases hu; simp
          intro g cap2 w3 hg hown hgrow
          have HO3 : Hid (w3.ownsRow w.heap.size 5 1 (.slice (some ⟨g, 0, none⟩) (q.length + 1) cap2) (othN node (l.take (k + 1))).length (bRow (othN node (l.take (k + 1))))) := Lib.hid (by rw [HS.out, if_neg hpn, bRow_snoc, List.length_append]; exact hown)
          have HB3 : Hid (Below w.heap.size w w3) := Lib.hid ((((HBW.out.alloc (by omega) _).alloc (by simp; omega) _).grown hgrow (by simp; omega) (fun j hj => (HO.out.lt j hj).1)))
          clear hown hgrow
          go_wp2
          go_roundw
          case rel => exact ⟨k + 1, by omega, by go_num, HO3.out, HB3.out⟩
          case measure => simp [intOf]; omega
      · obtain rfl : k = n := by omega
        go_wp2
        go_ret
        exact ⟨_, rfl, by have := HO.out; rw [HN.out, List.take_length] at this; exact this, HBW.out⟩
set_option maxHeartbeats 1000000 in
theorem equal_any (s t : Value) (l k : List Mem) (w : World) (hl : l.length ≤ 40) (hk : k.length ≤ 40) (hs : MemsAt w s l) (ht : MemsAt w t k) :
    Calls Try.prog 24 #[s, t] w fun en w' => en = .returned (.bool (decide (l = k))) ∧ Below w.heap.size w w' := by
  by_cases hlen : l.length = k.length
  · by_cases h0 : 0 < l.length
    · obtain ⟨b, off, cap, rfl, hb, hc⟩ := hs.form h0
      obtain ⟨b2, off2, cap2, rfl, hb2, hc2⟩ := ht.form (by omega)
      rw [← hlen]
      have HC := Lib.hid hc
      have HC2 := Lib.hid hc2
      have HLEN := Lib.hid hlen
      obtain ⟨n, hn⟩ : ∃ n, n = l.length := ⟨_, rfl⟩
      rw [← hn] at hl h0 ⊢
      have HN := Lib.hid hn
      clear hc hc2 hn hs ht hlen
      have HK : Hid (k.length ≤ 40) := Lib.hid hk
      clear hk
      go_enter Try.func24, Try.ntmps24
      go_wp2
      go_loopw [13] (fun i wr => ∃ j : Nat, j ≤ n ∧ i = .int .i64 j ∧ l.take j = k.take j ∧ Below w.heap.size w wr) (fun i _ => (n - (intOf i).toNat))
      case atStart => exact ⟨0, by omega, rfl, rfl, by go_grown⟩
      case round =>
        obtain ⟨j, hj, rfl, he, hBw⟩ := hrel
        have HE := Lib.hid he
        have HBW := Lib.hid hBw
        clear he hBw
        by_cases hlt : j < n
        · have h1 : j < l.length := by rw [← HN.out]; exact hlt
          have h2 : j < k.length := by rw [← HLEN.out]; exact h1
          obtain ⟨c0, c1, c2⟩ := HC.out j h1
          obtain ⟨e0, e1, e2⟩ := HC2.out j h2
          obtain ⟨p, hp⟩ : ∃ p, p = l[j] := ⟨_, rfl⟩
          obtain ⟨p', hp'⟩ : ∃ p, p = k[j] := ⟨_, rfl⟩
          rw [← hp] at c0 c1 c2
          rw [← hp'] at e0 e1 e2
          have HP := Lib.hid hp
          have HP' := Lib.hid hp'
          clear hp hp'
          obtain ⟨pn, pl, pr⟩ := p
          obtain ⟨qn, ql, qr⟩ := p'
          simp only at c0 c1 c2 e0 e1 e2
          have x0 := (HBW.out.cell (p := ⟨b, off + j * 3, none⟩) hb).trans c0
          have x1 := (HBW.out.cell (p := ⟨b, off + j * 3 + 1, none⟩) hb).trans c1
          have x2 := (HBW.out.cell (p := ⟨b, off + j * 3 + 2, none⟩) hb).trans c2
          have y0 := (HBW.out.cell (p := ⟨b2, off2 + j * 3, none⟩) hb2).trans e0
          have y1 := (HBW.out.cell (p := ⟨b2, off2 + j * 3 + 1, none⟩) hb2).trans e1
          have y2 := (HBW.out.cell (p := ⟨b2, off2 + j * 3 + 2, none⟩) hb2).trans e2
          clear c0 c1 c2 e0 e1 e2
          have hstep : ∀ (_ : (⟨pn, pl, pr⟩ : Mem) = ⟨qn, ql, qr⟩), l.take (j + 1) = k.take (j + 1) := by
            intro h
            rw [List.take_succ_eq_append_getElem h1, List.take_succ_eq_append_getElem h2, HE.out, ← HP.out, ← HP'.out, h]
          have hdiff : ∀ (_ : (⟨pn, pl, pr⟩ : Mem) ≠ ⟨qn, ql, qr⟩), ¬ l = k := by
            intro h hlk
            subst hlk
            exact h (HP.out.trans HP'.out.symm)
          have HST := Lib.hid hstep
          have HDF := Lib.hid hdiff
          clear hstep hdiff HP HP' h1 h2
          by_cases hn : pn = qn
          · subst hn
            by_cases hll : pl = ql
            · subst hll
              by_cases hr : pr = qr
              · subst hr
                have HS1 := Lib.hid (HST.out rfl)
                go_wp2_with fail
                go_region
                all_goals
                  go_wp2
                  go_roundw
                  case rel => exact ⟨j + 1, by omega, by go_num, HS1.out, by have := HBW.out; have := HBW.out.size; go_grown⟩
                  case measure => simp [intOf]; omega
              · have HD := Lib.hid (HDF.out (by intro h; cases h; exact hr rfl))
                go_wp2_with fail
                go_region
                all_goals
                  go_wp2
                  go_ret
                  exact ⟨rbool (decide_eq_false HD.out).symm, by have := HBW.out; have := HBW.out.size; go_grown⟩
            · have hx : ¬ (pl : Int) = ql := by omega
              have HD := Lib.hid (HDF.out (by intro h; cases h; exact hll rfl))
              go_wp2_with fail
              go_region
              all_goals
                go_wp2
                go_ret
                exact ⟨rbool (decide_eq_false HD.out).symm, by have := HBW.out; have := HBW.out.size; go_grown⟩
          · have hx : ¬ (pn : Int) = qn := by omega
            have HD := Lib.hid (HDF.out (by intro h; cases h; exact hn rfl))
            go_wp2_with fail
            go_region
            all_goals
              go_wp2
              go_ret
              exact ⟨rbool (decide_eq_false HD.out).symm, by have := HBW.out; have := HBW.out.size; go_grown⟩
        · obtain rfl : j = n := by omega
          have HD : Hid (l = k) := Lib.hid (by
            have := HE.out
            rwa [HN.out, List.take_length, HLEN.out, List.take_length] at this)
          go_wp2
          go_ret
          exact ⟨rbool (decide_eq_true HD.out).symm, HBW.out⟩
    · have hl0 : l = [] := List.eq_nil_of_length_eq_zero (by omega)
      subst hl0
      have hk0 : k = [] := List.eq_nil_of_length_eq_zero (by simpa using hlen.symm)
      subst hk0
      obtain ⟨a, cap, rfl⟩ := hs.len
      obtain ⟨a2, cap2, rfl⟩ := ht.len
      simp only [List.length_nil]
      clear hs ht
      go_enter Try.func24, Try.ntmps24
      go_wp2
      go_loop [13] (fun i => i = .int .i64 0) (fun _ => 0)
      case atStart => rfl
      case round =>
        obtain rfl := hrel
        go_wp2
        go_ret
        exact ⟨rfl, by go_grown⟩
  · obtain ⟨a, cap, rfl⟩ := hs.len
    obtain ⟨a2, cap2, rfl⟩ := ht.len
    have HD : Hid (¬ l = k) := Lib.hid (fun h => hlen (by rw [h]))
    generalize l.length = n at *
    generalize k.length = m at *
    have hx : ¬ (n : Int) = m := by omega
    clear hs ht
    go_enter Try.func24, Try.ntmps24
    go_wp2
    all_goals
      go_ret
      exact ⟨rbool (decide_eq_false HD.out).symm, by go_grown⟩
theorem cells5 : Try.prog.cellsOf 5 = 1 := by kernel_rfl
theorem eqItems_cons (x y : Nat) (xs ys : Array Value) (i : Nat) (is : List Nat) (w : World) (r : Bool) (hx : xs[i]? = some (.int .u8 x)) (hy : ys[i]? = some (.int .u8 y)) (hr : Sem.run Try.prog (Op.eqItems 9999 5 1 xs ys is) w = .ok r w) :
    Sem.run Try.prog (Op.eqItems 9999 5 1 xs ys (i :: is)) w = .ok (decide (x = y) && r) w := by
  have u5 := Try.underlying5
  have z5 := Try.sizeOf5
  have a5 := Try.isAgg5
  obtain ⟨hxl, hx'⟩ := Array.getElem?_eq_some_iff.1 hx
  obtain ⟨hyl, hy'⟩ := Array.getElem?_eq_some_iff.1 hy
  simp only [Op.eqItems, Nat.mul_one]
  by_cases h : x = y
  · subst h
    go_simp
  · have hne : ¬ (x : Int) = y := by omega
    go_simp
theorem arr_eq (l m : Lv) (w : World) : Sem.run Try.prog (binOp .eql 26 (.agg #[.int .u8 l.a, .int .u8 l.b, .int .u8 l.c, .int .u8 l.d, .int .u8 l.e, .int .u8 l.f, .int .u8 l.g, .int .u8 l.h]) (.agg #[.int .u8 m.a, .int .u8 m.b, .int .u8 m.c, .int .u8 m.d, .int .u8 m.e, .int .u8 m.f, .int .u8 m.g, .int .u8 m.h])) w = .ok (.bool (decide (l = m))) w := by
  obtain ⟨i0, hi0, _⟩ := infoP5
  rw [run_eql_struct, show (10000 : Nat) = 9999 + 1 from rfl, run_equalIn_array w 9999 _ _ Try.underlying26 hi0, cells5]
  rw [show List.range 8 = [0, 1, 2, 3, 4, 5, 6, 7] from rfl]
  have h := eqItems_cons l.a m.a #[.int .u8 l.a, .int .u8 l.b, .int .u8 l.c, .int .u8 l.d, .int .u8 l.e, .int .u8 l.f, .int .u8 l.g, .int .u8 l.h] #[.int .u8 m.a, .int .u8 m.b, .int .u8 m.c, .int .u8 m.d, .int .u8 m.e, .int .u8 m.f, .int .u8 m.g, .int .u8 m.h] 0 _ w _ rfl rfl
    (eqItems_cons l.b m.b _ _ 1 _ w _ rfl rfl (eqItems_cons l.c m.c _ _ 2 _ w _ rfl rfl (eqItems_cons l.d m.d _ _ 3 _ w _ rfl rfl (eqItems_cons l.e m.e _ _ 4 _ w _ rfl rfl (eqItems_cons l.f m.f _ _ 5 _ w _ rfl rfl (eqItems_cons l.g m.g _ _ 6 _ w _ rfl rfl (eqItems_cons l.h m.h _ _ 7 [] w true rfl rfl rfl)))))))
  rw [h]
  simp only [Result.andThen_ok, Bool.and_true]
  congr 2
  obtain ⟨a, b, c, d, e, f, g, h⟩ := l
  obtain ⟨a', b', c', d', e', f', g', h'⟩ := m
  rw [Bool.eq_iff_iff]
  simp
/-- Whether two views are the same. -/
def sameB (e : Nat) (lv : Lv) (l : List Mem) (e2 : Nat) (lv2 : Lv) (l2 : List Mem) : Bool := decide (e = e2 ∧ l = l2 ∧ lv = lv2)
set_option maxHeartbeats 1000000 in
theorem Same_any (e e2 : Nat) (s t : Value) (lv lv2 : Lv) (l k : List Mem) (w : World) (hl : l.length ≤ 40) (hk : k.length ≤ 40) (hs : MemsAt w s l) (ht : MemsAt w t k) :
    Calls Try.prog 12 #[.agg (vC e s lv), .agg (vC e2 t lv2)] w fun en w' => en = .returned (.bool (sameB e lv l e2 lv2 k)) ∧ Below w.heap.size w w' := by
  have HS := Lib.hid hs
  have HT := Lib.hid ht
  clear hs ht
  by_cases he : e = e2
  · subst he
    by_cases hlk : l = k
    · have HEQ := Lib.hid (decide_eq_true hlk)
      have HLK := Lib.hid hlk
      clear hlk
      have hrun := arr_eq lv lv2
      generalize hd : decide (lv = lv2) = d at hrun
      have HD := Lib.hid hd
      clear hd
      have HB0 : Hid (Blk ((w.alloc (.cells (vC e s lv) 28)).alloc (.cells (vC e t lv2) 28)) w.heap.size (vC e s lv) 28) := Lib.hid ((Blk.new rfl).alloc _)
      have HB1 : Hid (Blk ((w.alloc (.cells (vC e s lv) 28)).alloc (.cells (vC e t lv2) 28)) (w.heap.size + 1) (vC e t lv2) 28) := Lib.hid (Blk.new (by simp))
      unfold vC
      go_enter Try.func12, Try.ntmps12
      go_wp2_with (go_at_call 24; (refine (equal_any s t l k _ hl hk ((HS.out.al _).al _) ((HT.out.al _).al _)).mono ?_); rw [HEQ.out]; rintro en w1 ⟨rfl, hB⟩; have HB : Hid (Below w.heap.size w w1) := Lib.hid (m_below_on (by go_grown) hB); obtain ⟨d0, d1, d2, d3, d4, d5, d6, d7, d8, d9⟩ := (HB0.out.on hB).ten; obtain ⟨e0, e1, e2, e3, e4, e5, e6, e7, e8, e9⟩ := (HB1.out.on hB).ten; clear hB)
      all_goals
        go_ret
        exact ⟨rbool (by unfold sameB; rw [← HD.out, Bool.eq_iff_iff]; simp [HLK.out]), HB.out⟩
    · have HEQ := Lib.hid (decide_eq_false hlk)
      have HLK := Lib.hid hlk
      clear hlk
      unfold vC
      go_enter Try.func12, Try.ntmps12
      go_wp2_with (go_at_call 24; (refine (equal_any s t l k _ hl hk ((HS.out.al _).al _) ((HT.out.al _).al _)).mono ?_); rw [HEQ.out]; rintro en w1 ⟨rfl, hB⟩; have HB : Hid (Below w.heap.size w w1) := Lib.hid (m_below_on (by go_grown) hB); clear hB)
      go_ret
      exact ⟨rbool (by unfold sameB; rw [eq_comm, decide_eq_false_iff_not]; intro h; exact HLK.out h.2.1), HB.out⟩
  · have hx : ¬ (e : Int) = e2 := by omega
    unfold vC
    go_enter Try.func12, Try.ntmps12
    go_wp2
    go_ret
    exact ⟨rbool (by unfold sameB; rw [eq_comm, decide_eq_false_iff_not]; intro h; exact he h.1), by go_grown⟩
end Go.Proofs.Ytkgahhfemlebmaa
